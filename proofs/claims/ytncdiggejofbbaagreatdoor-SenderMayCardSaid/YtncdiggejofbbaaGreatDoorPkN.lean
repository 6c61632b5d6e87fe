/- A packet that may be is parsed as it was told: of the values alone. -/
import Derived.Test.YtncdiggejofbbaaGreatDoorPk13
import Derived.Test.YtncdiggejofbbaaGreatDoorCr
namespace Go.Proofs.YtncdiggejofbbaaGreatDoor.Pk
open Go.RowKit Go.Sort St BsM IdM PkM
open Go.Proofs.YtncdiggejofbbaaGreatDoor.Id
set_option linter.unusedVariables false

theorem ok_rest {p : Pk} (h : okB p = true) : restB p = true := by simp only [okB, Bool.and_eq_true] at h; exact h.2.2
theorem prs_code {p : Pk} (h : okB p = true) (h60 : p.tm.data.toList.length ≤ 255) : prsP (CrM.sealed (bodyL p)) = p ∧ prsE (CrM.sealed (bodyL p)) = 0 := by
  obtain ⟨o1, o2⟩ := open_sealed (bodyL p)
  obtain ⟨b1, b2⟩ := body_back h h60
  have e0 : endV (bodS (Cr.openT (CrM.sealed (bodyL p)), 0)) = 0 := by rw [o2, b2]; rfl
  have := prs_ok o1 e0 (by rw [o2, b1]; exact h)
  rw [o2, b1] at this
  exact this
theorem code_len (p : Pk) : (CrM.sealed (bodyL p)).length ≤ 500 := by
  have := headL_len p; have := restL_len p
  rw [CrM.seal_len]; simp only [bodyL, List.length_append]; omega
/-- what the packet's bytes are, under a name -/
theorem code_named (p : Pk) : ∃ D : ByteArray, Hid ((⟨(CrM.sealed (bodyL p)).toArray⟩ : ByteArray) = D) ∧ D.size ≤ 500 ∧ Hid (D.data.toList = CrM.sealed (bodyL p)) ∧ Hid (D.size = (CrM.sealed (bodyL p)).length) :=
  ⟨_, rfl, by rw [size_list]; exact code_len p, rfl, by show _ = _; rw [size_list]⟩


end Go.Proofs.YtncdiggejofbbaaGreatDoor.Pk
