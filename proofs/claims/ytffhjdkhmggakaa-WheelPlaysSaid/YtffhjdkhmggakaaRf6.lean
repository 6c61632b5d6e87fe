/- The document's own comparison of two lists of numbers: the same list twice. -/
import Derived.Test.YtffhjdkhmggakaaWhM
import Derived.Deep.QuietTactic
import Derived.BigQuiet
namespace Go.Proofs.Ytffhjdkhmggakaa.Rf
open Go.RowKit Tk Wh
open St (Kept)

section
variable {w : World} {v u : Value} {L : List Int}
set_option maxHeartbeats 800000 in
set_option maxRecDepth 100000 in
theorem ints_same (h1 : Row w v L) (h2 : Row w u L) (hL : L.length ≤ 100000) : Calls Try.prog 25 #[v, u] w fun e w' => e = .returned (.bool true) ∧ Kept w w' := by
  have l1 := fun ty u => h1.len ty u
  have l2 := fun ty u => h2.len ty u
  obtain ⟨q, hq⟩ : ∃ q : Int, (L.length : Int) = q := ⟨_, rfl⟩
  rw [hq] at l1 l2
  have H1 := Lib.hid h1
  have H2 := Lib.hid h2
  have HQ := Lib.hid hq
  clear h1 h2 hq
  go_enter Try.func25, Try.ntmps25
  go_wp2_with fail
  go_loopw [5] (fun i wr => ∃ k : Nat, k ≤ L.length ∧ i = .int .i64 (k : Int) ∧ Kept w wr) (fun i _ => L.length - (intOf i).toNat)
  case atStart => exact ⟨0, Nat.zero_le _, rfl, Kept.refl _⟩
  case round =>
    obtain ⟨k, hk, rfl, hkr⟩ := hrel
    by_cases hlt : k < L.length
    · have hkq : (k : Int) < q := by have := HQ.out; omega
      have hkn : (k : Int) < (L.length : Int) := by omega
      obtain ⟨x, hx⟩ : ∃ x, L[k]? = some x := ⟨_, List.getElem?_eq_getElem hlt⟩
      obtain ⟨g6, c6, e6, k6⟩ := (H1.out.kept (w' := _) (fun g e => hkr.block g (H1.out.lt e))).blk hx
      obtain ⟨gp, cp, ep, kp⟩ := (H2.out.kept (w' := _) (fun g e => hkr.block g (H2.out.lt e))).blk hx
      have HKR := Lib.hid hkr
      clear hx hkr
      subst e6
      subst ep
      go_wp2_with fail
      go_quiet (fail)
      go_wp2_with fail
      go_roundw
      case rel => exact ⟨k + 1, hlt, by go_num, HKR.out.drewN _⟩
      case measure => simp [intOf]; omega
    · have hkq : q ≤ (k : Int) := by have := HQ.out; omega
      have HKR := Lib.hid hkr
      clear hlt hkr
      go_wp2_with fail
      go_ret
      exact ⟨rfl, HKR.out⟩
end

end Go.Proofs.Ytffhjdkhmggakaa.Rf
