/- cmp.Compare and cmp.Or of two numbers. -/
import Derived.Test.YtckmkagijanbdaaShelf
import Derived.Test.YtckmkagijanbdaaSt
import Derived.Test.YtckmkagijanbdaaTk
namespace Go.Proofs.Ytckmkagijanbdaa.Cp
open Go.RowKit Tk
open St (Kept blk_cell)

def cmpI (a b : Int) : Int := if a < b then -1 else if b < a then 1 else 0
def orI (a b : Int) : Int := if a = 0 then b else a
theorem or_ne {a : Int} (b : Int) (h : a ≠ 0) : orI a b = a := by simp [orI, h]
def At2 (a b : Int) (k : Nat) : Prop := k = 0 ∨ (k = 1 ∧ a = 0) ∨ (k = 2 ∧ a = 0 ∧ b = 0)
theorem compare_eq (a b : Int) : Lib.compareInt a b = cmpI a b := by
  unfold Lib.compareInt cmpI
  rcases Int.lt_trichotomy a b with h | h | h <;> simp [h] <;> (try omega)
theorem cmp_any (a b : Int) (w : World) :
    Calls Try.prog 42 #[.int .i64 a, .int .i64 b] w fun e w' => e = .returned (.int .i64 (cmpI a b)) ∧ w = w' :=
  (Try.cmp_Compare_int a b w).mono fun e w' ⟨h1, h2⟩ => ⟨by rw [h1, compare_eq], h2.symm⟩

theorem cmp_q {a b z : Int} (hz : Hid (cmpI a b = z)) {w : World} :
    Calls Try.prog 42 #[.int .i64 a, .int .i64 b] w fun e w' => e = .returned (.int .i64 z) ∧ w' = w :=
  (cmp_any a b w).mono fun e w' ⟨h1, h2⟩ => ⟨by rw [h1, hz.out], h2.symm⟩

set_option maxHeartbeats 400000 in
theorem or2_any (a b : Int) (g : Nat) (w : World) (h : w.heap[g]? = some (.cells #[.int .i64 a, .int .i64 b] 3 (0, 0))) :
    Calls Try.prog 40 #[.slice (some ⟨g, 0, none⟩) 2 2] w fun e w' => e = .returned (.int .i64 (orI a b)) ∧ w = w' := by
  have c0 : w.cell? ⟨g, 0, none⟩ = some (.int .i64 a) := by rw [blk_cell h]; rfl
  have c1 : w.cell? ⟨g, 1, none⟩ = some (.int .i64 b) := by rw [blk_cell h]; rfl
  clear h
  go_enter Try.func40, Try.ntmps40
  go_wp2_with fail
  go_loop [8] (fun i => ∃ k : Nat, i = .int .i64 (k : Int) ∧ At2 a b k) (fun i => 2 - (intOf i).toNat)
  case atStart => exact ⟨0, rfl, .inl rfl⟩
  case round =>
    obtain ⟨k, rfl, hk⟩ := hrel
    rcases hk with rfl | ⟨rfl, ha⟩ | ⟨rfl, ha, hb⟩
    · by_cases ha : a = 0
      · subst ha
        go_wp2_with fail
        go_round
        case rel => exact ⟨1, rfl, .inr (.inl ⟨rfl, rfl⟩)⟩
        case measure => simp [intOf]
      · have h1 : (a != 0) = true := by simpa using ha
        have HR := Lib.hid (or_ne b ha)
        clear ha
        go_wp2_with fail
        go_ret
        exact ⟨ret_int HR.out.symm, rfl⟩
    · subst ha
      by_cases hb : b = 0
      · subst hb
        go_wp2_with fail
        go_round
        case rel => exact ⟨2, rfl, .inr (.inr ⟨rfl, rfl, rfl⟩)⟩
        case measure => simp [intOf]
      · have h1 : (b != 0) = true := by simpa using hb
        clear hb
        go_wp2_with fail
        go_ret
        exact ⟨rfl, rfl⟩
    · subst ha; subst hb
      go_wp2_with fail
      go_ret
      exact ⟨rfl, rfl⟩

end Go.Proofs.Ytckmkagijanbdaa.Cp
