/- A deed done in both, the program's clocks and the document's: the same answer; then both say the same. The law walked. -/
import Derived.Test.YtmimhglegkkcbaaCk3
import Derived.Test.YtmimhglegkkcbaaArgT
import Derived.Deep.RegionHeld3
namespace Go.Proofs.Ytmimhglegkkcbaa.Ck
open Go.RowKit Go.Sort Tk Wh
open St (Kept blk_cell blk_free blk_lt blk_set)
open Args (Trips trips_len trips_at)
set_option linter.unusedVariables false

structure Sta where
  real : Int
  A : Nat → Int
  D : Nat → Int

/-- BOTH, and a block beside them -/
structure Bd (W : World) (B H R ga gs ca cs n : Nat) (skew : Int) (s t : Sta) (db : Nat) (o : Obj) (w : World) : Prop where
  a : Clk w B H n s.real skew s.A s.D
  r : Rck w R ga gs ca cs n t.real skew t.A t.D
  ap : ∀ k, SC B H k → ¬ SR R ga gs k
  ka : Mine W (SC B H) w
  kr : Mine W (SR R ga gs) w
  box : w.heap[db]? = some o
  ba : ¬ SC B H db
  br : ¬ SR R ga gs db
/-- both, the same -/
def Bo (W : World) (B H R ga gs ca cs n : Nat) (skew : Int) (s : Sta) (w : World) : Prop :=
  Clk w B H n s.real skew s.A s.D ∧ Rck w R ga gs ca cs n s.real skew s.A s.D ∧ (∀ k, SC B H k → ¬ SR R ga gs k) ∧ Mine W (SC B H) w ∧ Mine W (SR R ga gs) w
/-- .. at whatever they say -/
def Bos (W : World) (B H R ga gs ca cs n : Nat) (skew : Int) (w : World) : Prop := ∃ s, Bo W B H R ga gs ca cs n skew s w

section
variable {W w w' : World} {B H R ga gs ca cs n db : Nat} {skew : Int} {s t s' t' : Sta} {o : Obj}
theorem Bo.with (h : Bo W B H R ga gs ca cs n skew s w) (o : Obj) : Bd W B H R ga gs ca cs n skew s s w.heap.size o (w.alloc o) := by
  obtain ⟨h1, h2, h3, h4, h5⟩ := h
  exact ⟨h1.kept (Kept.one _ _), h2.kept (Kept.one _ _), h3, h4.go (Kept.one _ _), h5.go (Kept.one _ _), St.blk_new _ _, fun c => by have := h1.lt _ c; omega, fun c => by have := h2.lt _ c; omega⟩
theorem Bo.go (h : Bo W B H R ga gs ca cs n skew s w) (k : Kept w w') : Bo W B H R ga gs ca cs n skew s w' := by
  obtain ⟨h1, h2, h3, h4, h5⟩ := h
  exact ⟨h1.kept k, h2.kept k, h3, h4.go k, h5.go k⟩
theorem Bd.alone (h : Bd W B H R ga gs ca cs n skew s s db o w) : Bos W B H R ga gs ca cs n skew w := ⟨s, h.a, h.r, h.ap, h.ka, h.kr⟩
theorem Bd.go (h : Bd W B H R ga gs ca cs n skew s t db o w) (k : Kept w w') : Bd W B H R ga gs ca cs n skew s t db o w' :=
  ⟨h.a.kept k, h.r.kept k, h.ap, h.ka.go k, h.kr.go k, (k.block db (blk_lt h.box)).trans h.box, h.ba, h.br⟩
theorem Bd.left (h : Bd W B H R ga gs ca cs n skew s t db o w) (c : Clk w' B H n s'.real skew s'.A s'.D) (f : Fr (SC B H) w w') : Bd W B H R ga gs ca cs n skew s' t db o w' :=
  ⟨c, h.r.fr f (fun k c d => h.ap k d c), h.ap, h.ka.step f (fun _ c => .inl c), ⟨(h.ka.step f (fun _ c => .inl c)).kept, h.kr.new⟩, (f.block db (blk_lt h.box) h.ba).trans h.box, h.ba, h.br⟩
theorem Bd.right (h : Bd W B H R ga gs ca cs n skew s t db o w) (c : Rck w' R ga gs ca cs n t'.real skew t'.A t'.D) (f : Fr (SR R ga gs) w w') : Bd W B H R ga gs ca cs n skew s t' db o w' :=
  ⟨h.a.fr f h.ap, c, h.ap, ⟨(h.kr.step f (fun _ c => .inl c)).kept, h.ka.new⟩, h.kr.step f (fun _ c => .inl c), (f.block db (blk_lt h.box) h.br).trans h.box, h.ba, h.br⟩

def dbox (k i m : Int) : Obj := .cells #[.int .i64 k, .int .i64 i, .int .i64 m] 32 (0, 0)
theorem Bd.cells {k i m : Int} (h : Bd W B H R ga gs ca cs n skew s t db (dbox k i m) w) : w.cell? ⟨db, 0, none⟩ = some (.int .i64 k) ∧ w.cell? ⟨db, 1, none⟩ = some (.int .i64 i) ∧ w.cell? ⟨db, 2, none⟩ = some (.int .i64 m) := by
  have hb := h.box
  unfold dbox at hb
  exact ⟨by rw [blk_cell hb]; rfl, by rw [blk_cell hb]; rfl, by rw [blk_cell hb]; rfl⟩

theorem Bd.tickA (h : Bd W B H R ga gs ca cs n skew s t db o w) (m : Int) : Calls Try.prog 10 #[.pointer (some ⟨B, 0, none⟩), .int .i64 m] w fun e w' => e = .returned (.tuple #[]) ∧ Bd W B H R ga gs ca cs n skew ⟨add s.real m, s.A, s.D⟩ t db o w' :=
  (tick_any h.a m).mono fun _ _ ⟨e, c, f⟩ => ⟨e, h.left c f⟩
theorem Bd.tickR (h : Bd W B H R ga gs ca cs n skew s t db o w) (m : Int) : Calls Try.prog 14 #[.pointer (some ⟨R, 0, none⟩), .int .i64 m] w fun e w' => e = .returned (.tuple #[]) ∧ Bd W B H R ga gs ca cs n skew s ⟨add t.real m, t.A, t.D⟩ db o w' :=
  (rtick_any h.r m).mono fun _ _ ⟨e, c, f⟩ => ⟨e, h.right c f⟩
theorem Bd.shiftA (h : Bd W B H R ga gs ca cs n skew s t db o w) {i : Nat} (hi : i < n) (m : Int) : Calls Try.prog 13 #[.pointer (some ⟨B, 0, none⟩), .int .i64 (i : Int), .int .i64 m] w fun e w' => e = .returned (.int .i64 0) ∧ Bd W B H R ga gs ca cs n skew ⟨s.real, upd s.A i (max (-skew) (min m skew)), s.D⟩ t db o w' :=
  (shift_in h.a hi m).mono fun _ _ ⟨e, c, f⟩ => ⟨e, h.left c f⟩
theorem Bd.shiftR (h : Bd W B H R ga gs ca cs n skew s t db o w) {i : Nat} (hi : i < n) (m : Int) : Calls Try.prog 15 #[.pointer (some ⟨R, 0, none⟩), .int .i64 (i : Int), .int .i64 m] w fun e w' => e = .returned (.int .i64 0) ∧ Bd W B H R ga gs ca cs n skew s ⟨t.real, upd t.A i (max (-skew) (min m skew)), t.D⟩ db o w' :=
  (rshift_in h.r hi m).mono fun _ _ ⟨e, c, f⟩ => ⟨e, h.right c f⟩
theorem Bd.readA (h : Bd W B H R ga gs ca cs n skew s t db o w) {i : Nat} (hi : i < n) : Calls Try.prog 12 #[.pointer (some ⟨B, 0, none⟩), .int .i64 (i : Int)] w fun e w' => e = .returned (.int .i64 (says s.real s.A s.D i)) ∧ Bd W B H R ga gs ca cs n skew ⟨s.real, s.A, upd s.D i (says s.real s.A s.D i)⟩ t db o w' :=
  (read_in h.a hi).mono fun _ _ ⟨e, c, f⟩ => ⟨e, h.left c f⟩
theorem Bd.readR (h : Bd W B H R ga gs ca cs n skew s t db o w) {i : Nat} (hi : i < n) : Calls Try.prog 16 #[.pointer (some ⟨R, 0, none⟩), .int .i64 (i : Int)] w fun e w' => e = .returned (.int .i64 (says t.real t.A t.D i)) ∧ Bd W B H R ga gs ca cs n skew s ⟨t.real, t.A, upd t.D i (says t.real t.A t.D i)⟩ db o w' :=
  (rread_in h.r hi).mono fun _ _ ⟨e, c, f⟩ => ⟨e, h.right c f⟩

/-- what a deed does -/
def done (W : World) (B H R ga gs ca cs n : Nat) (skew : Int) : Ending → World → Prop := fun e w' => e = .returned (.bool true) ∧ Bos W B H R ga gs ca cs n skew w'

set_option maxHeartbeats 2000000 in
set_option maxRecDepth 100000 in
theorem does_tick (h : Bo W B H R ga gs ca cs n skew s w) (i m : Int) :
    Calls Try.prog 7 #[.pointer (some ⟨B, 0, none⟩), .pointer (some ⟨R, 0, none⟩), .agg #[.int .i64 0, .int .i64 i, .int .i64 m]] w (done W B H R ga gs ca cs n skew) := by
  have hE := h.with (dbox 0 i m)
  obtain ⟨db, hdb⟩ : ∃ b, w.heap.size = b := ⟨_, rfl⟩
  obtain ⟨u, hu⟩ : ∃ u, w.alloc (dbox 0 i m) = u := ⟨_, rfl⟩
  rw [hdb, hu] at hE
  have HU := Lib.hid hu
  have HDB := Lib.hid hdb
  unfold dbox at HU
  obtain ⟨c0, c1, c2⟩ := hE.cells
  have HE := Lib.hid hE
  clear h hu hdb hE
  obtain ⟨r, hr⟩ : ∃ r, Hid (add s.real m = r) := ⟨_, rfl⟩
  go_enter Try.func7, Try.ntmps7
  go_wp2_with fail
  rw [HU.out, HDB.out]
  go_upto_region 6 with (first | (go_at_call 10; refine (HE.out.tickA m).mono ?_; rintro e w1 ⟨rfl, hE1⟩; obtain ⟨d0, d1, d2⟩ := hE1.cells; have HE1 := Lib.hid hE1; clear hE1) | (go_at_call 14; refine (HE1.out.tickR m).mono ?_; rintro e w2 ⟨rfl, hE2⟩; rw [hr.out] at hE2; have HE2 := Lib.hid hE2; clear hE2))
  have x0 := HE2.out.r.c0
  have RA : ∀ k, Calls Try.prog 11 #[.pointer (some ⟨B, 0, none⟩)] (w2.drewN k) fun e w' => e = .returned (.int .i64 r) ∧ w2.drewN k = w' := fun k => real_any (HE2.out.a.kept ((Kept.refl _).drewN k))
  have RA := Lib.hid RA
  go_quiet ((go_at_call 11; exact Calls.quiet_of_same ((RA.out _).mono fun _ _ h => ⟨h.1, h.2.symm⟩)))
  go_wp2_with fail
  go_ret
  exact ⟨rfl, (HE2.out.go ((Kept.refl _).drewN _)).alone⟩
set_option maxHeartbeats 2000000 in
set_option maxRecDepth 100000 in
theorem does_shift (h : Bo W B H R ga gs ca cs n skew s w) {i : Nat} (hi : i < n) (m : Int) :
    Calls Try.prog 7 #[.pointer (some ⟨B, 0, none⟩), .pointer (some ⟨R, 0, none⟩), .agg #[.int .i64 1, .int .i64 (i : Int), .int .i64 m]] w (done W B H R ga gs ca cs n skew) := by
  have hE := h.with (dbox 1 (i : Int) m)
  obtain ⟨db, hdb⟩ : ∃ b, w.heap.size = b := ⟨_, rfl⟩
  obtain ⟨u, hu⟩ : ∃ u, w.alloc (dbox 1 (i : Int) m) = u := ⟨_, rfl⟩
  rw [hdb, hu] at hE
  have HU := Lib.hid hu
  have HDB := Lib.hid hdb
  unfold dbox at HU
  obtain ⟨c0, c1, c2⟩ := hE.cells
  have hD := hE.go (Kept.refl _).drew
  clear h hu hdb hE
  have CA : ∀ {w t}, Bd W B H R ga gs ca cs n skew s t db (dbox 1 (i : Int) m) w → Calls Try.prog 13 #[.pointer (some ⟨B, 0, none⟩), .int .i64 (i : Int), .int .i64 m] w fun e w' => e = .returned (.int .i64 0) ∧ Bd W B H R ga gs ca cs n skew ⟨s.real, upd s.A i (max (-skew) (min m skew)), s.D⟩ t db (dbox 1 (i : Int) m) w' := fun h => h.shiftA hi m
  have CR : ∀ {w t}, Bd W B H R ga gs ca cs n skew t s db (dbox 1 (i : Int) m) w → Calls Try.prog 15 #[.pointer (some ⟨R, 0, none⟩), .int .i64 (i : Int), .int .i64 m] w fun e w' => e = .returned (.int .i64 0) ∧ Bd W B H R ga gs ca cs n skew t ⟨s.real, upd s.A i (max (-skew) (min m skew)), s.D⟩ db (dbox 1 (i : Int) m) w' := fun h => h.shiftR hi m
  have CC := Lib.hid (And.intro @CA @CR)
  clear CA CR
  go_enter Try.func7, Try.ntmps7
  go_wp2_with fail
  rw [HU.out, HDB.out]
  go_wp2_with fail
  go_region_held3 (fun w' => w'.cell? ⟨db, 1, none⟩ = some (.int .i64 (i : Int)) ∧ w'.cell? ⟨db, 2, none⟩ = some (.int .i64 m))
    (first | exact (Bd.cells (by assumption)).2)
    (first | (go_at_call 13; refine (CC.out.1 (by assumption)).mono ?_; rintro e w1 ⟨rfl, hE1⟩) | (go_at_call 15; refine (CC.out.2 (by assumption)).mono ?_; rintro e w2 ⟨rfl, hE2⟩))
  go_wp2_with fail
  go_ret
  exact ⟨rfl, Bd.alone (by assumption)⟩

set_option maxHeartbeats 2000000 in
set_option maxRecDepth 100000 in
theorem does_shiftOut (h : Bo W B H R ga gs ca cs n skew s w) {i : Int} (hi : i < 0 ∨ (n : Int) ≤ i) (m : Int) :
    Calls Try.prog 7 #[.pointer (some ⟨B, 0, none⟩), .pointer (some ⟨R, 0, none⟩), .agg #[.int .i64 1, .int .i64 i, .int .i64 m]] w (done W B H R ga gs ca cs n skew) := by
  have hE := h.with (dbox 1 i m)
  obtain ⟨db, hdb⟩ : ∃ b, w.heap.size = b := ⟨_, rfl⟩
  obtain ⟨u, hu⟩ : ∃ u, w.alloc (dbox 1 i m) = u := ⟨_, rfl⟩
  rw [hdb, hu] at hE
  have HU := Lib.hid hu
  have HDB := Lib.hid hdb
  unfold dbox at HU
  obtain ⟨c0, c1, c2⟩ := hE.cells
  have hD := hE.go (Kept.refl _).drew
  clear h hu hdb hE
  have CA : ∀ {w}, Bd W B H R ga gs ca cs n skew s s db (dbox 1 i m) w → Calls Try.prog 13 #[.pointer (some ⟨B, 0, none⟩), .int .i64 i, .int .i64 m] w fun e w' => e = .returned (.int .i64 7) ∧ w = w' := fun h => shift_out h.a hi m
  have CR : ∀ {w}, Bd W B H R ga gs ca cs n skew s s db (dbox 1 i m) w → Calls Try.prog 15 #[.pointer (some ⟨R, 0, none⟩), .int .i64 i, .int .i64 m] w fun e w' => e = .returned (.int .i64 7) ∧ w = w' := fun h => rshift_out h.r hi m
  have CC := Lib.hid (And.intro @CA @CR)
  clear CA CR hi
  go_enter Try.func7, Try.ntmps7
  go_wp2_with fail
  rw [HU.out, HDB.out]
  go_wp2_with fail
  go_region_held3 (fun w' => w'.cell? ⟨db, 1, none⟩ = some (.int .i64 i) ∧ w'.cell? ⟨db, 2, none⟩ = some (.int .i64 m))
    (first | exact (Bd.cells (by assumption)).2)
    (first | (go_at_call 13; refine (CC.out.1 (by assumption)).mono ?_; rintro e w1 ⟨rfl, rfl⟩) | (go_at_call 15; refine (CC.out.2 (by assumption)).mono ?_; rintro e w2 ⟨rfl, rfl⟩))
  go_wp2_with fail
  go_ret
  exact ⟨rfl, Bd.alone (by assumption)⟩

set_option maxHeartbeats 2000000 in
set_option maxRecDepth 100000 in
theorem does_read (h : Bo W B H R ga gs ca cs n skew s w) {k : Int} (hk : k = 2 ∨ k = 3) {i : Nat} (hi : i < n) (m : Int) :
    Calls Try.prog 7 #[.pointer (some ⟨B, 0, none⟩), .pointer (some ⟨R, 0, none⟩), .agg #[.int .i64 k, .int .i64 (i : Int), .int .i64 m]] w (done W B H R ga gs ca cs n skew) := by
  have hE := h.with (dbox k (i : Int) m)
  obtain ⟨db, hdb⟩ : ∃ b, w.heap.size = b := ⟨_, rfl⟩
  obtain ⟨u, hu⟩ : ∃ u, w.alloc (dbox k (i : Int) m) = u := ⟨_, rfl⟩
  rw [hdb, hu] at hE
  have HU := Lib.hid hu
  have HDB := Lib.hid hdb
  unfold dbox at HU
  obtain ⟨c0, c1, c2⟩ := hE.cells
  have hD := hE.go (Kept.refl _).drew
  clear h hu hdb hE
  obtain ⟨y, hy⟩ : ∃ y, says s.real s.A s.D i = y := ⟨_, rfl⟩
  have CA : ∀ {w t}, Bd W B H R ga gs ca cs n skew s t db (dbox k (i : Int) m) w → Calls Try.prog 12 #[.pointer (some ⟨B, 0, none⟩), .int .i64 (i : Int)] w fun e w' => e = .returned (.int .i64 y) ∧ Bd W B H R ga gs ca cs n skew ⟨s.real, s.A, upd s.D i y⟩ t db (dbox k (i : Int) m) w' := fun h => by rw [← hy]; exact h.readA hi
  have CR : ∀ {w t}, Bd W B H R ga gs ca cs n skew t s db (dbox k (i : Int) m) w → Calls Try.prog 16 #[.pointer (some ⟨R, 0, none⟩), .int .i64 (i : Int)] w fun e w' => e = .returned (.int .i64 y) ∧ Bd W B H R ga gs ca cs n skew t ⟨s.real, s.A, upd s.D i y⟩ db (dbox k (i : Int) m) w' := fun h => by rw [← hy]; exact h.readR hi
  have CC := Lib.hid (And.intro @CA @CR)
  clear CA CR hy
  rcases hk with rfl | rfl
  all_goals
    go_enter Try.func7, Try.ntmps7
    go_wp2_with fail
    rw [HU.out, HDB.out]
    go_wp2_with fail
    go_region_held3 (fun w' => w'.cell? ⟨db, 1, none⟩ = some (.int .i64 (i : Int)))
      (first | exact (Bd.cells (by assumption)).2.1)
      (first | (go_at_call 12; refine (CC.out.1 (by assumption)).mono ?_; rintro e w1 ⟨rfl, hE1⟩) | (go_at_call 16; refine (CC.out.2 (by assumption)).mono ?_; rintro e w2 ⟨rfl, hE2⟩))
    go_wp2_with fail
    go_ret
    exact ⟨rfl, Bd.alone (by assumption)⟩

set_option maxHeartbeats 2000000 in
set_option maxRecDepth 100000 in
theorem does_readOut (h : Bo W B H R ga gs ca cs n skew s w) {k : Int} (hk : k = 2 ∨ k = 3) {i : Int} (hi : i < 0 ∨ (n : Int) ≤ i) (m : Int) :
    Calls Try.prog 7 #[.pointer (some ⟨B, 0, none⟩), .pointer (some ⟨R, 0, none⟩), .agg #[.int .i64 k, .int .i64 i, .int .i64 m]] w (done W B H R ga gs ca cs n skew) := by
  have hE := h.with (dbox k i m)
  obtain ⟨db, hdb⟩ : ∃ b, w.heap.size = b := ⟨_, rfl⟩
  obtain ⟨u, hu⟩ : ∃ u, w.alloc (dbox k i m) = u := ⟨_, rfl⟩
  rw [hdb, hu] at hE
  have HU := Lib.hid hu
  have HDB := Lib.hid hdb
  unfold dbox at HU
  obtain ⟨c0, c1, c2⟩ := hE.cells
  have hD := hE.go (Kept.refl _).drew
  clear h hu hdb hE
  have CA : ∀ {w}, Bd W B H R ga gs ca cs n skew s s db (dbox k i m) w → Calls Try.prog 12 #[.pointer (some ⟨B, 0, none⟩), .int .i64 i] w fun e w' => e = .returned (.int .i64 0) ∧ w = w' := fun h => read_out h.a hi
  have CR : ∀ {w}, Bd W B H R ga gs ca cs n skew s s db (dbox k i m) w → Calls Try.prog 16 #[.pointer (some ⟨R, 0, none⟩), .int .i64 i] w fun e w' => e = .returned (.int .i64 0) ∧ w = w' := fun h => rread_out h.r hi
  have CC := Lib.hid (And.intro @CA @CR)
  clear CA CR hi
  rcases hk with rfl | rfl
  all_goals
    go_enter Try.func7, Try.ntmps7
    go_wp2_with fail
    rw [HU.out, HDB.out]
    go_wp2_with fail
    go_region_held3 (fun w' => w'.cell? ⟨db, 1, none⟩ = some (.int .i64 i))
      (first | exact (Bd.cells (by assumption)).2.1)
      (first | (go_at_call 12; refine (CC.out.1 (by assumption)).mono ?_; rintro e w1 ⟨rfl, rfl⟩) | (go_at_call 16; refine (CC.out.2 (by assumption)).mono ?_; rintro e w2 ⟨rfl, rfl⟩))
    go_wp2_with fail
    go_ret
    exact ⟨rfl, Bd.alone (by assumption)⟩

set_option maxHeartbeats 2000000 in
set_option maxRecDepth 100000 in
theorem does_other (h : Bo W B H R ga gs ca cs n skew s w) {k : Int} (h0 : k ≠ 0) (h1 : k ≠ 1) (h2 : k ≠ 2) (h3 : k ≠ 3) (i m : Int) :
    Calls Try.prog 7 #[.pointer (some ⟨B, 0, none⟩), .pointer (some ⟨R, 0, none⟩), .agg #[.int .i64 k, .int .i64 i, .int .i64 m]] w (done W B H R ga gs ca cs n skew) := by
  have hE := h.with (dbox k i m)
  obtain ⟨db, hdb⟩ : ∃ b, w.heap.size = b := ⟨_, rfl⟩
  obtain ⟨u, hu⟩ : ∃ u, w.alloc (dbox k i m) = u := ⟨_, rfl⟩
  rw [hdb, hu] at hE
  have HU := Lib.hid hu
  have HDB := Lib.hid hdb
  unfold dbox at HU
  obtain ⟨c0, c1, c2⟩ := hE.cells
  have hD := hE.go (Kept.refl _)
  clear h hu hdb hE
  have e0 : (k == 0) = false := by simpa using h0
  have e1 : (k == 1) = false := by simpa using h1
  have e2 : (k == 2) = false := by simpa using h2
  have e3 : (k == 3) = false := by simpa using h3
  have HD := Lib.hid hD
  clear h0 h1 h2 h3 hD
  go_enter Try.func7, Try.ntmps7
  go_wp2_with fail
  go_ret
  rw [HU.out]
  exact ⟨rfl, HD.out.alone⟩

theorem does_any (h : Bo W B H R ga gs ca cs n skew s w) (k i m : Int) :
    Calls Try.prog 7 #[.pointer (some ⟨B, 0, none⟩), .pointer (some ⟨R, 0, none⟩), .agg #[.int .i64 k, .int .i64 i, .int .i64 m]] w (done W B H R ga gs ca cs n skew) := by
  by_cases h0 : k = 0
  · subst h0; exact does_tick h i m
  · by_cases hi : i < 0 ∨ (n : Int) ≤ i
    · by_cases h1 : k = 1
      · subst h1; exact does_shiftOut h hi m
      · by_cases h2 : k = 2 ∨ k = 3
        · exact does_readOut h h2 hi m
        · exact does_other h h0 h1 (fun c => h2 (.inl c)) (fun c => h2 (.inr c)) i m
    · obtain ⟨j, rfl⟩ : ∃ j : Nat, (j : Int) = i := ⟨i.toNat, by omega⟩
      have hj : j < n := by omega
      by_cases h1 : k = 1
      · subst h1; exact does_shift h hj m
      · by_cases h2 : k = 2 ∨ k = 3
        · exact does_read h h2 hj m
        · exact does_other h h0 h1 (fun c => h2 (.inl c)) (fun c => h2 (.inr c)) j m
end

section
variable {W : World} {v : Value} {len : Nat} {F : Nat → Int × Int × Int}
set_option maxHeartbeats 800000 in
/-- there are none -/
theorem plays_no (a b : Int) (h : a < 1 ∨ 64 < a ∨ b < 0 ∨ 1000 < b) : Calls Try.prog 3 #[.int .i64 a, .int .i64 b, v] W fun e w' => e = .returned (.bool true) ∧ Kept W w' := by
  have N1 := Lib.hid (fun w => new_no a b w h)
  have N2 := Lib.hid (fun w => rnew_no a b w h)
  clear h
  go_enter Try.func3, Try.ntmps3
  go_wp2_with (first | (go_at_call 5; refine (N1.out _).mono ?_; rintro e w1 ⟨rfl, rfl⟩) | (go_at_call 6; refine (N2.out _).mono ?_; rintro e w1 ⟨rfl, rfl⟩))
  go_loop [11] (fun i => i = .int .i64 0) (fun _ => 0)
  case atStart => rfl
  case round =>
    subst hrel
    go_wp2_with (go_at_call 9; refine (awake_any _).mono ?_; rintro e w7 ⟨rfl, hk7⟩)
    go_ret
    exact ⟨rfl, hk7⟩

set_option maxHeartbeats 4000000 in
set_option maxRecDepth 100000 in
theorem plays_yes (n : Nat) (skew : Int) (n0 : 1 ≤ n) (n1 : n ≤ 64) (s0 : 0 ≤ skew) (s1 : skew ≤ 1000) (hI : Trips W v len F) : Calls Try.prog 3 #[.int .i64 (n : Int), .int .i64 skew, v] W fun e w' => e = .returned (.bool true) ∧ Kept W w' := by
  have hlen := fun ty u => trips_len Try.underlying22 hI ty u
  obtain ⟨q, hq⟩ : ∃ q : Int, (len : Int) = q := ⟨_, rfl⟩
  rw [hq] at hlen
  have HI := Lib.hid hI
  have HQ := Lib.hid hq
  have N1 := Lib.hid (fun w => new_yes n skew w n0 n1 s0 s1)
  have N2 := Lib.hid (fun w => rnew_yes n skew w n0 n1 s0 s1)
  clear hI hq n0 n1 s0 s1
  go_enter Try.func3, Try.ntmps3
  go_wp2_with (first | (go_at_call 5; refine (N1.out _).mono ?_; rintro e w1 ⟨B, H, rfl, a1, a2, a3, a4⟩; have HA := Lib.hid (And.intro a1 (And.intro a2 (And.intro a3 a4))); clear a1 a2 a3 a4) | (go_at_call 6; refine (N2.out _).mono ?_; rintro e w2 ⟨R, ga, gs, ca, cs, rfl, b1, b2, b3⟩; have HB := Lib.hid (And.intro b1 (And.intro b2 b3)); clear b1 b2 b3))
  have P0 : Hid (Bos W B H R ga gs ca cs n skew w2) := by
    obtain ⟨a1, a2, a3, a4⟩ := HA.out
    obtain ⟨b1, b2, b3⟩ := HB.out
    exact ⟨⟨0, fun _ => 0, fun _ => 0⟩, a1.kept b3, b1, fun k c d => by have := a1.lt k c; have := b2 k d; omega, ⟨a4.trans b3, fun k c => c.elim (fun c => c ▸ a2) (fun c => c ▸ a3)⟩, ⟨a4.trans b3, fun k c => by have := b2 k c; have := a4.size; omega⟩⟩
  clear HA HB N1 N2
  go_loopw [11] (fun i wr => ∃ k : Nat, k ≤ len ∧ k ≤ 60 ∧ i = .int .i64 (k : Int) ∧ Bos W B H R ga gs ca cs n skew wr) (fun i _ => len - (intOf i).toNat)
  case atStart => exact ⟨0, Nat.zero_le _, Nat.zero_le _, rfl, P0.out⟩
  case round =>
    obtain ⟨k, hk, hk60, rfl, hP⟩ := hrel
    by_cases hlt : k < len ∧ k < 60
    · obtain ⟨hkl, hk6⟩ := hlt
      have hkq : (k : Int) < q := by have := HQ.out; omega
      have hk6' : (k : Int) < 60 := by omega
      have hkn : (k : Int) < (len : Int) := by omega
      obtain ⟨b, off, cap, hv1, hin, hcell⟩ := trips_at HI.out hkl
      have HV := Lib.hid hv1
      subst hv1
      obtain ⟨s, hD⟩ := hP
      obtain ⟨kk, hkk⟩ : ∃ x, (F k).1 = x := ⟨_, rfl⟩
      obtain ⟨ii, hii⟩ : ∃ x, (F k).2.1 = x := ⟨_, rfl⟩
      obtain ⟨mm, hmm⟩ : ∃ x, (F k).2.2 = x := ⟨_, rfl⟩
      rw [hkk, hii, hmm] at hcell
      have hD' := hD.go (Kept.refl _).drew
      obtain ⟨x0, x1, x2⟩ := hcell _ hD'.2.2.2.1.kept
      have C := Lib.hid (does_any hD' kk ii mm)
      clear hD hD' hcell hkk hii hmm hin
      go_wp2_with fail
      go_region_with
        (first
          | (go_at_call 7; refine C.out.mono ?_; rintro e w5 ⟨rfl, s5, d5⟩; have cB1 := d5.2.1.c1; have CS := Lib.hid (skew_any d5.1); have D5 := Lib.hid d5; clear d5 x0 x1 x2)
          | (go_at_call 8; refine CS.out.mono ?_; rintro e w' ⟨rfl, rfl⟩))
      all_goals
        have HP5 : Hid (Bos W B H R ga gs ca cs n skew w5) := ⟨s5, D5.out⟩
        clear CS C D5 cB1
        go_wp2_with fail
        go_roundw
        case rel => exact ⟨k + 1, hkl, by omega, by go_num, HP5.out⟩
        case measure => simp [intOf]; omega
    · have hK : Kept W wr := by obtain ⟨s, hD⟩ := hP; exact hD.2.2.2.1.kept
      have HK := Lib.hid hK
      clear hP hK
      by_cases hkl : k < len
      · have hkq : (k : Int) < q := by have := HQ.out; omega
        have hk6 : (60 : Int) ≤ (k : Int) := by omega
        clear hlt
        go_wp2_with (go_at_call 9; refine (awake_any _).mono ?_; rintro e w7 ⟨rfl, hk7⟩)
        go_ret
        exact ⟨rfl, HK.out.trans hk7⟩
      · have hkq : q ≤ (k : Int) := by have := HQ.out; omega
        clear hlt
        go_wp2_with (go_at_call 9; refine (awake_any _).mono ?_; rintro e w7 ⟨rfl, hk7⟩)
        go_ret
        exact ⟨rfl, HK.out.trans hk7⟩

theorem plays_all {H : Type} {enc : TypeId × Value → H} {r : Reach} {b0 : Nat} {d : DataW H} {p : List MemPlace} (a b : Int) (hv : Value.okWide Try.prog W r b0 22 v)
    (h : DataW.Trod enc Try.prog W 0 (fun _ => true) true 22 v d p) :
    Calls Try.prog 3 #[.int .i64 a, .int .i64 b, v] W fun e w' => e = .returned (.bool true) ∧ Kept W w' := by
  obtain ⟨len, F, hI⟩ := Args.open_trips Try.underlying22 Try.underlying32 (by kernel_rfl) rfl rfl rfl (by kernel_rfl) (by kernel_rfl) (by kernel_rfl) Try.underlying3 Try.underlying3 Try.underlying3 hv h
  by_cases hn : a < 1 ∨ 64 < a ∨ b < 0 ∨ 1000 < b
  · exact plays_no a b hn
  · obtain ⟨n, rfl⟩ : ∃ n : Nat, (n : Int) = a := ⟨a.toNat, by omega⟩
    exact plays_yes n b (by omega) (by omega) (by omega) (by omega) hI
end

end Go.Proofs.Ytmimhglegkkcbaa.Ck
