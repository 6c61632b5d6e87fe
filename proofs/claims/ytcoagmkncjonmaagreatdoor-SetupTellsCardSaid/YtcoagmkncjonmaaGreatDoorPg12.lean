/- Programs: the document's Same, the law's known; the chapter's example. -/
import Derived.Test.YtcoagmkncjonmaaGreatDoorPg10
namespace Go.Proofs.YtcoagmkncjonmaaGreatDoor.Pg
open Go.RowKit Go.Sort Go.Shelf St Cd It At
set_option linter.unusedVariables false
set_option linter.unusedSimpArgs false

set_option maxHeartbeats 1000000 in
theorem rsame_any {w : World} {v u : Value} {L : List Op} (h1 : Ops w v L) (h2 : Ops w u L) :
    Calls Tryz.prog 27 #[v, u] w fun e w' => e = .returned (.bool true) ∧ Kept w w' := by
  obtain ⟨q, N, cap, rfl, hN, hm⟩ := h1.slice
  obtain ⟨q2, N2, cap2, rfl, hN2, _⟩ := h2.slice
  obtain rfl : N2 = N := hN2.symm.trans hN
  have H1 := Lib.hid h1
  have H2 := Lib.hid h2
  have HN := Lib.hid hN
  have hm2 : N2 ≤ 9223372036854775807 := by unfold maxLen at hm; omega
  clear h1 h2 hN hN2 hm
  go_enter Tryz.func27, Tryz.ntmps27
  go_wp2_with fail
  go_loopw [5] (fun x wr => ∃ i : Nat, i ≤ N2 ∧ x = .int .i64 (i : Int) ∧ Kept w wr) (fun x _ => N2 - (intOf x).toNat)
  case atStart => exact ⟨0, Nat.zero_le _, rfl, Kept.refl _⟩
  case round =>
    obtain ⟨i, hi, rfl, hk⟩ := hrel
    by_cases hlt : i < N2
    · obtain ⟨o, b, off, ho, rfl, -⟩ := (H1.out.go hk).pick (i := i) (by rw [HN.out]; exact hlt)
      have hd := ((H1.out.go (hk.drew)).pick (i := i) (by rw [HN.out]; exact hlt))
      obtain ⟨o3, b3, off3, ho3, e3, c0, c1, c2⟩ := hd
      cases e3
      obtain ⟨o4, b4, off4, ho4, rfl, d0, d1, d2⟩ := (H2.out.go (hk.drew)).pick (i := i) (by rw [HN.out]; exact hlt)
      rw [ho] at ho3 ho4
      cases ho3
      cases ho4
      have HO := Lib.hid ho
      clear ho
      obtain ⟨k, a, b2⟩ := o
      simp only at c0 c1 c2 d0 d1 d2
      go_wp2_with fail
      go_region
      go_wp2_with fail
      go_roundw
      case rel => exact ⟨i + 1, hlt, by go_num, hk.drew⟩
      case measure => simp [intOf]; omega
    · obtain rfl : i = N2 := by omega
      go_wp2_with fail
      go_ret
      exact ⟨rfl, hk⟩


/-! ### the example -/
def exL : List Op := [⟨1, 3, 0⟩, ⟨2, 1, 2⟩, ⟨3, 0, 0⟩, ⟨5, 5, 0⟩]
def exB : ByteArray := ⟨#[119, 111, 114, 107, 32, 51, 59, 32, 115, 112, 97, 119, 110, 32, 49, 32, 50, 59, 32, 106, 111, 105, 110, 59, 32, 97, 110, 115, 119, 101, 114, 32, 53]⟩
theorem itoa1 (n : Nat) (h : n < 10) : Lib.itoa (n : Int) = [UInt8.ofNat (48 + n)] := by rw [IdM.itoa_nat, IdM.dec_small h]
theorem ex_text : exB.data.toList = textT exL := by
  have h3 := itoa1 3 (by decide)
  have h1 := itoa1 1 (by decide)
  have h2 := itoa1 2 (by decide)
  have h5 := itoa1 5 (by decide)
  have e : textT exL = verb 1 ++ (32 :: Lib.itoa ((3 : Nat) : Int)) ++ (59 :: 32 :: (verb 2 ++ (32 :: (Lib.itoa ((1 : Nat) : Int) ++ 32 :: Lib.itoa ((2 : Nat) : Int)))) ++ (59 :: 32 :: (verb 3 ++ []) ++ (59 :: 32 :: (verb 5 ++ (32 :: Lib.itoa ((5 : Nat) : Int))) ++ []))) := rfl
  rw [e, h3, h1, h2, h5]
  decide +kernel
theorem ex_fit : ∀ o ∈ exL, o.Fit := fun o ho => by
  unfold exL at ho
  simp only [List.mem_cons, List.not_mem_nil, or_false] at ho
  rcases ho with rfl | rfl | rfl | rfl <;> exact ⟨⟨by decide, by decide⟩, ⟨by decide, by decide⟩, ⟨by decide, by decide⟩⟩


end Go.Proofs.YtcoagmkncjonmaaGreatDoor.Pg
