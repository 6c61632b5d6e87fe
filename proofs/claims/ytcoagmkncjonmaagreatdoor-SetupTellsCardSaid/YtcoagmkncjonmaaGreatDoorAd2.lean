/- Package admit: the bounds of a configuration. -/
import Derived.Test.YtcoagmkncjonmaaGreatDoorAdB
namespace Go.Proofs.YtcoagmkncjonmaaGreatDoor.Ad
open Go.RowKit Go.Sort St
open Go.Proofs.YtcoagmkncjonmaaGreatDoor.Id (quiet_at)
set_option linter.unusedVariables false

/-- how a bound lies -/
def e3 (e : Int × Int × Int) : List Value := [.int .i64 e.1, .int .i64 e.2.1, .int .i64 e.2.2]
def cells42 (c : Cf) : List Value := (bnds c).flatMap e3
theorem cells42_at (c : Cf) {j : Nat} {n a b : Int} (h : (bnds c)[j]? = some (n, a, b)) : (cells42 c)[j * 3]? = some (.int .i64 n) ∧ (cells42 c)[j * 3 + 1]? = some (.int .i64 a) ∧ (cells42 c)[j * 3 + 2]? = some (.int .i64 b) := by
  have hj : j < 14 := by
    have := (List.getElem?_eq_some_iff.1 h).1
    exact this
  have : j = 0 ∨ j = 1 ∨ j = 2 ∨ j = 3 ∨ j = 4 ∨ j = 5 ∨ j = 6 ∨ j = 7 ∨ j = 8 ∨ j = 9 ∨ j = 10 ∨ j = 11 ∨ j = 12 ∨ j = 13 := by omega
  rcases this with rfl | rfl | rfl | rfl | rfl | rfl | rfl | rfl | rfl | rfl | rfl | rfl | rfl | rfl <;>
    (have e := Option.some.inj h; obtain ⟨rfl, e2⟩ := Prod.mk.inj e; obtain ⟨rfl, rfl⟩ := Prod.mk.inj e2; exact ⟨rfl, rfl, rfl⟩)

set_option maxRecDepth 100000 in
set_option maxHeartbeats 2000000 in
theorem bounds_any (c : Cf) (w : World) : Calls Tryz.prog 57 #[.agg c.arr] w fun e w' => ∃ b, e = .returned (.slice (some ⟨b, 0, none⟩) 14 14) ∧ Kept w w' ∧ w'.heap[b]? = some (.cells (cells42 c).toArray 98 (0, 0)) := by
  obtain ⟨W, hW, hK, hx⟩ := Id.boxed1 w c.arr 24
  have x0 : W.cell? ⟨w.heap.size, 0, none⟩ = some (.int .i64 c.nodes) := hx 0
  have x1 : W.cell? ⟨w.heap.size, 1, none⟩ = some (.int .i64 c.skew) := hx 1
  have x2 : W.cell? ⟨w.heap.size, 2, none⟩ = some (.int .i64 c.lease) := hx 2
  have x3 : W.cell? ⟨w.heap.size, 3, none⟩ = some (.int .i64 c.grain) := hx 3
  have x4 : W.cell? ⟨w.heap.size, 4, none⟩ = some (.int .i64 c.least) := hx 4
  have x5 : W.cell? ⟨w.heap.size, 5, none⟩ = some (.int .i64 c.hops) := hx 5
  have x6 : W.cell? ⟨w.heap.size, 6, none⟩ = some (.int .i64 c.cap) := hx 6
  have x7 : W.cell? ⟨w.heap.size, 7, none⟩ = some (.int .i64 c.fan) := hx 7
  have x8 : W.cell? ⟨w.heap.size, 8, none⟩ = some (.int .i64 c.attempts) := hx 8
  have x9 : W.cell? ⟨w.heap.size, 9, none⟩ = some (.int .i64 c.base) := hx 9
  have x10 : W.cell? ⟨w.heap.size, 10, none⟩ = some (.int .i64 c.most) := hx 10
  have x11 : W.cell? ⟨w.heap.size, 11, none⟩ = some (.int .i64 c.wait) := hx 11
  have x12 : W.cell? ⟨w.heap.size, 12, none⟩ = some (.int .i64 c.tokens) := hx 12
  have x13 : W.cell? ⟨w.heap.size, 13, none⟩ = some (.slice c.pa c.pn c.pc) := hx 13
  have HW := Lib.hid hW
  have HK := Lib.hid hK
  clear hW hK hx
  go_enter Tryz.func57, Tryz.ntmps57
  go_upto_region 1 with fail
  rw [HW.out]
  go_wp2_with fail
  go_ret
  exact ⟨W.heap.size, rfl, HK.out.more _, blk_new W _⟩

end Go.Proofs.YtcoagmkncjonmaaGreatDoor.Ad
