/- The laws of layer 8. -/
import Derived.Test.YtpgfaklnbehmhaaDoorPk13
import Derived.Test.YtpgfaklnbehmhaaDoorPk10
import Derived.Test.YtpgfaklnbehmhaaDoorPk8
import Derived.Test.YtpgfaklnbehmhaaDoorCr4
namespace Go.Proofs.YtpgfaklnbehmhaaDoor.Pk
open Go.RowKit Go.Sort St BsM IdM PkM
open Go.Proofs.YtpgfaklnbehmhaaDoor.Id
open Go.Proofs.YtpgfaklnbehmhaaDoor.Bs (kept_blk)
set_option linter.unusedVariables false

/-- a packet read whole, where it is wanted -/
theorem load_g {ops : Array Oper} {rest : List Oper} {o : Oper} {a : Act} {w : World} {Q : Exit → Act → World → Prop} (x : Operand) (ho : o.op = .load 27 x) (g : Nat) (hx : a.eval x = .pointer (some ⟨g, 0, none⟩)) (hw : Region.wanted o (yielded ops a.tmps) = true) (p : Pk)
    (hg : w.heap[g]? = some (.cells p.arr 27 (0, 0))) (h : wpList Tryd.prog ops Q rest (a.put o.dst (.agg p.arr)) w) : wpList Tryd.prog ops Q (o :: rest) a w :=
  wpList_step fun K hK => by rw [if_pos hw]; exact wp_load_row 27 x ho g hx 27 p.arr (0, 0) _ hg Tryd.underlying27 rfl info_pk (hK _ _ h)
theorem ok_rest {p : Pk} (h : okB p = true) : restB p = true := by simp only [okB, Bool.and_eq_true] at h; exact h.2.2
theorem prs_code {p : Pk} (h : okB p = true) (h60 : p.tm.data.toList.length ≤ 255) : prsP (CrM.sealed (bodyL p)) = p ∧ prsE (CrM.sealed (bodyL p)) = 0 := by
  obtain ⟨o1, o2⟩ := open_sealed (bodyL p)
  obtain ⟨b1, b2⟩ := body_back h h60
  have e0 : endV (bodS (Cr.openT (CrM.sealed (bodyL p)), 0)) = 0 := by rw [o2, b2]; rfl
  have := prs_ok o1 e0 (by rw [o2, b1]; exact h)
  rw [o2, b1] at this
  exact this
theorem code_len (p : Pk) : (CrM.sealed (bodyL p)).length ≤ 500 := by
  have := headL_len p; have := restL_len p
  rw [CrM.seal_len]; simp only [bodyL, List.length_append]; omega
/-- what the packet's bytes are, under a name -/
theorem code_named (p : Pk) : ∃ D : ByteArray, Hid ((⟨(CrM.sealed (bodyL p)).toArray⟩ : ByteArray) = D) ∧ D.size ≤ 500 ∧ Hid (D.data.toList = CrM.sealed (bodyL p)) ∧ Hid (D.size = (CrM.sealed (bodyL p)).length) :=
  ⟨_, rfl, by rw [size_list]; exact code_len p, rfl, by show _ = _; rw [size_list]⟩

def exP : Pk := { Pk.none with kind := 3, to := 1, ks := 1, ka := 1 }
theorem ex_ok : okB exP = true := by
  simp only [okB, Bool.and_eq_true]; exact ⟨same_iff.2 rfl, by decide, by decide⟩
theorem ex_len : (CrM.sealed (bodyL exP)).length = 12 := by rw [CrM.seal_len]; decide

end Go.Proofs.YtpgfaklnbehmhaaDoor.Pk
