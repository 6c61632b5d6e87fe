/- Calls held against each other; chapter 21's example. -/
import Derived.Test.YtpicjcophjekpaaClD
import Derived.Laws.StructEq
import Derived.StillTailTactics
namespace Go.Proofs.Ytpicjcophjekpaa.Cl
open Go.RowKit Go.Sort St Ad Po Blk
set_option linter.unusedVariables false

theorem neq_cl (c : Cl) (w : World) : (binOp .neq 31 (.agg c.arr) (.agg c.arr)).run Try.prog w = .ok (.bool false) w := by
  simp [go_sem, Cl.arr]
theorem neq_rcl (c : Cl) (w : World) : (binOp .neq 25 (.agg c.arr) (.agg c.arr)).run Try.prog w = .ok (.bool false) w := by
  simp [go_sem, Cl.arr]
theorem neq_ky (a b c d : Int) (w : World) : (binOp .neq 42 (.agg #[.int .i64 a, .int .i64 b, .int .i64 c, .int .i64 d]) (.agg #[.int .i64 a, .int .i64 b, .int .i64 c, .int .i64 d])).run Try.prog w = .ok (.bool false) w := by
  simp [go_sem]

def exC : Cf := ⟨0, 0, 0, 0, 0, 0, 0, 0, 2, 1, 1, 0, 1, none, 0, 0⟩
def exF : Ft := ⟨14, 0, false, -2, 1000, 0, 99, 0⟩
def ex0 : Cl := ⟨0, 0, 0, 0, 0, 1, 1, 0, 0, false, 0, 0, 1⟩
def ex1 : Cl := ⟨0, 0, 0, 0, 0, 1, 2, 0, 1, false, 0, 0, 1⟩
def ex2 : Cl := ⟨0, 0, 0, 0, 0, 2, 1, 5, 0, false, 0, 0, 2⟩
def ex3 : Cl := ⟨0, 0, 0, 0, 0, 2, 3, 5, 0, false, 0, 7, 2⟩
theorem e0 : begin zero 0 = ex0 := (begin_on 0 (.inl rfl) (by decide)).trans (by rw [show Tk.clamp 0 = 0 by decide]; rfl)
theorem e1 : bad ex0 exC exF = (ex1, 0) := (bad_again (a := 0) (b := 1) rfl (by decide +kernel) rfl).trans rfl
theorem e2 : begin ex1 5 = ex2 := (begin_on 5 (.inr rfl) (by decide)).trans (by rw [show Tk.clamp 5 = 5 by decide]; rfl)
theorem e3 : good ex2 7 = ex3 := (good_on 7 rfl).trans (by rw [show max 0 (min 7 2147483647) = (7 : Int) by decide]; rfl)
theorem zero_fit : zero.Fit := ⟨⟨by decide, by decide⟩, by decide, by decide⟩
theorem ex1_fit : ex1.Fit := ⟨⟨by decide, by decide⟩, by decide, by decide⟩

set_option maxRecDepth 100000 in
set_option maxHeartbeats 2000000 in
theorem awake_any (w : World) : Calls Try.prog 6 #[] w fun e w' => e = .returned (.bool true) ∧ Kept w w' := by
  have c0 : ∀ u, Calls Try.prog 16 #[.agg zero.arr, .int .i64 0] u fun e w' => e = .returned (.agg ex0.arr) ∧ Kept u w' := fun u => by have := begin_any zero zero_fit 0 u; rw [e0] at this; exact this
  have c1 : ∀ u, Calls Try.prog 19 #[.agg ex0.arr, .agg exC.arr, .agg exF.arr] u fun e w' => e = .returned (.tuple #[.agg ex1.arr, .int .i64 0]) ∧ Kept u w' := fun u => by have := bad_any ex0 exC exF (by decide) u; rw [e1] at this; exact this
  have c2 : ∀ u, Calls Try.prog 16 #[.agg ex1.arr, .int .i64 5] u fun e w' => e = .returned (.agg ex2.arr) ∧ Kept u w' := fun u => by have := begin_any ex1 ex1_fit 5 u; rw [e2] at this; exact this
  have c3 : ∀ u, Calls Try.prog 21 #[.agg ex2.arr, .int .i64 7] u fun e w' => e = .returned (.agg ex3.arr) ∧ Kept u w' := fun u => by have := good_any ex2 7 u; rw [e3] at this; exact this
  simp only [Cl.arr, Cf.arr, Ft.arr, zero, ex0, ex1, ex2, ex3, exC, exF] at c0 c1 c2 c3
  have C0 := Lib.hid c0
  have C1 := Lib.hid c1
  have C2 := Lib.hid c2
  have C3 := Lib.hid c3
  clear c0 c1 c2 c3
  go_enter Try.func6, Try.ntmps6
  go_upto_region 3 with (first
    | (go_at_call 16; first | (with_reducible refine (C0.out _).mono ?_; rintro e u1 ⟨rfl, k1⟩) | (with_reducible refine (C2.out _).mono ?_; rintro e u3 ⟨rfl, k3⟩))
    | (go_at_call 19; refine (C1.out _).mono ?_; rintro e u2 ⟨rfl, k2⟩)
    | (go_at_call 21; refine (C3.out _).mono ?_; rintro e u4 ⟨rfl, k4⟩))
  obtain ⟨V, hV⟩ : ∃ V, u4.alloc (.cells #[.int .i64 0, .int .i64 0, .int .i64 0, .int .i64 0, .int .i64 0, .int .i64 2, .int .i64 3, .int .i64 5, .int .i64 0, .bool false, .int .i64 0, .int .i64 7, .int .i64 2] 31) = V := ⟨_, rfl⟩
  rw [hV]
  have b1 : V.heap[u2.heap.size]? = some (.cells #[.int .i64 0, .int .i64 0, .int .i64 0, .int .i64 0, .int .i64 0, .int .i64 1, .int .i64 2, .int .i64 0, .int .i64 1, .bool false, .int .i64 0, .int .i64 0, .int .i64 1] 31 (0, 0)) := by rw [← hV]; exact kept_at ((k3.trans k4).more _) (blk_new u2 _)
  have b3 : V.heap[u4.heap.size]? = some (.cells #[.int .i64 0, .int .i64 0, .int .i64 0, .int .i64 0, .int .i64 0, .int .i64 2, .int .i64 3, .int .i64 5, .int .i64 0, .bool false, .int .i64 0, .int .i64 7, .int .i64 2] 31 (0, 0)) := by rw [← hV]; exact blk_new u4 _
  have x6 : V.cell? ⟨u2.heap.size, 6, none⟩ = some (.int .i64 2) := blk_cell b1 6
  have x8 : V.cell? ⟨u2.heap.size, 8, none⟩ = some (.int .i64 1) := blk_cell b1 8
  have y6 : V.cell? ⟨u4.heap.size, 6, none⟩ = some (.int .i64 3) := blk_cell b3 6
  have y10 : V.cell? ⟨u4.heap.size, 10, none⟩ = some (.int .i64 0) := blk_cell b3 10
  have y11 : V.cell? ⟨u4.heap.size, 11, none⟩ = some (.int .i64 7) := blk_cell b3 11
  have y12 : V.cell? ⟨u4.heap.size, 12, none⟩ = some (.int .i64 2) := blk_cell b3 12
  have HK := Lib.hid (show Kept w V by rw [← hV]; exact ((k1.trans k2).trans ((Kept.one u2 _).trans (k3.trans k4))).more _)
  clear k1 k2 k3 k4 b1 b3 hV
  go_wp2_with fail
  go_ret
  exact ⟨rfl, HK.out⟩

end Go.Proofs.Ytpicjcophjekpaa.Cl
