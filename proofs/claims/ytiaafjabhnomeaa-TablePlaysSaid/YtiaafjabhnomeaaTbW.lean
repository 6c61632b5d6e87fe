/- Package table: chapter 24's example. -/
import Derived.Test.YtiaafjabhnomeaaTbH
import Derived.Test.YtiaafjabhnomeaaTbT
import Derived.Test.YtiaafjabhnomeaaTbR
import Derived.Test.YtiaafjabhnomeaaRw
namespace Go.Proofs.Ytiaafjabhnomeaa.Tb
open Go.RowKit Go.Sort IdM Se Mv Blk
open St (Kept blk_cell blk_free blk_lt blk_set)
open Go.Proofs.Ytiaafjabhnomeaa.Ow (Ow Cls Mc mc_cls load_id load_key load_call info_cl one_cells take_snoc zeroA info_ow arr_one load_ow clone_any)
open Go.Proofs.Ytiaafjabhnomeaa.Cl (Cl encC)
open Go.Proofs.Ytiaafjabhnomeaa.Rv
open Go.Proofs.Ytiaafjabhnomeaa.Ad (load_w load_l store_new kept_row)
open Go.Proofs.Ytiaafjabhnomeaa.Au (Stab stab_and stab_kept)
open Wh (Fr)
set_option linter.unusedVariables false
set_option linter.unusedSimpArgs false
set_option maxRecDepth 20000

theorem row_block {α : Type} {enc : α → List Value} {w : World} {g k : Nat} {et : TypeId} {L : List α} (hk : ∀ a, (enc a).length = k) (h : w.heap[g]? = some (.cells (fl enc L).toArray et (0, 0))) (hl : L.length ≤ 1000000) : RowV w (.slice (some ⟨g, 0, none⟩) L.length L.length) et k enc L :=
  ⟨fl_len hk L, .inr ⟨g, L.length, _, rfl, Nat.zero_le _, h, Nat.le_refl _, by unfold maxLen; omega, by simp [fl_len hk], by
    show List.take (L.length * k) (fl enc L) = _
    rw [← fl_len hk L, List.take_length]⟩⟩
def kA : Ke := ⟨0, 0, 0, 1⟩
def kB : Ke := ⟨0, 0, 0, 2⟩
def exA : Ow := { Ow.zero with ka := 1 }
def exB : Ow := { Ow.zero with ka := 2 }
def exL1 : Tab := put ⟨exB, []⟩ []
def exL2 : Tab := put ⟨exA, []⟩ exL1
theorem ex_l1 : exL1 = [⟨exB, []⟩] := rfl
theorem ex_l2 : exL2 = [⟨exA, []⟩, ⟨exB, []⟩] := by unfold exL2; rw [ex_l1]; rfl
theorem ex_keys : keysOf allF exL2 = [kA, kB] := by rw [ex_l2]; rfl
theorem ex_got : got kB exL2 = ⟨exB, []⟩ := by rw [ex_l2]; rfl
theorem ex_hasB : (find kB exL2).isSome = true := by rw [ex_l2]; rfl
theorem ex_hasA : (find kA exL2).isSome = true := by rw [ex_l2]; rfl
theorem ex_left : keysOf allF (drop kA exL2) = [kB] := by rw [ex_l2]; rfl
theorem ok_small {n : Int} (h0 : 0 ≤ n) (h1 : n ≤ 9) : okK ⟨0, 0, 0, n⟩ := ⟨⟨by show (-9223372036854775808 : Int) ≤ 0; decide, by show (0 : Int) ≤ 9223372036854775807; decide⟩, ⟨by show (-9223372036854775808 : Int) ≤ 0; decide, by show (0 : Int) ≤ 9223372036854775807; decide⟩, ⟨by show (-9223372036854775808 : Int) ≤ 0; decide, by show (0 : Int) ≤ 9223372036854775807; decide⟩, ⟨by show _ ≤ n; omega, by show n ≤ _; omega⟩⟩

set_option maxHeartbeats 4000000 in
theorem awake_any (w : World) : Calls Try.prog 8 #[] w fun e w' => e = .returned (.bool true) ∧ Kept w w' := by
  have N0 := Lib.hid (new_any w)
  go_enter Try.func8, Try.ntmps8
  go_upto_region 3 with (first | (go_at_call 6; refine N0.out.mono ?_; rintro e w1 ⟨B, S, rfl, T0, sub0, k0⟩))
  obtain ⟨W, hW⟩ : ∃ W, (w1.alloc (.cells #[.int .i64 0, .int .i64 0, .int .i64 0, .int .i64 1] 32)).alloc (.cells #[.int .i64 0, .int .i64 0, .int .i64 0, .int .i64 2] 32) = W := ⟨_, rfl⟩
  have hb : Bl w1 W [(#[.int .i64 0, .int .i64 0, .int .i64 0, .int .i64 1], 32), (#[.int .i64 0, .int .i64 0, .int .i64 0, .int .i64 2], 32)] := hW ▸ Bl.two w1 _ _ _ _
  rw [hW]
  have z0 := Below.size k0
  have zb : w1.heap.size + 2 ≤ W.heap.size := hb.size
  have sl0 : ∀ k, S k → k < w1.heap.size := T0.lt
  have T1 := T0.kept hb.kept
  have P1 := put_any T1 exB (q := none) (n := 0) (c := 0) (K := []) (fun u hu => .inl ⟨rfl, none, 0, rfl⟩) (by decide) (ok_small (by decide) (by decide)) (fun x h => by cases h)
  have yB : ∀ j v, (#[.int .i64 0, .int .i64 0, .int .i64 0, .int .i64 2] : Array Value)[j]? = some v → W.cell? ⟨w1.heap.size + 1, j, none⟩ = some v := fun j v h => (hb.cell 1 j rfl).trans h
  have y0 := yB 0 _ rfl
  have y1 := yB 1 _ rfl
  have y2 := yB 2 _ rfl
  have y3 := yB 3 _ rfl
  have HB := Lib.hid hb
  have H0 := Lib.hid (And.intro sub0 (And.intro k0 sl0))
  have P1 := Lib.hid P1
  clear hW hb T0 T1 sub0 k0 yB sl0
  unfold pB at P1 ⊢
  go_upto_region 4 with (first | (go_at_call 16; refine P1.out.mono ?_; rintro e w2 ⟨rfl, S1, T2, sub1, f1⟩))
  have nb1 : ∀ k, S k → k ≠ w1.heap.size ∧ k ≠ w1.heap.size + 1 := fun k c => by have := H0.out.2.2 k c; omega
  have x2 : w2.heap[w1.heap.size]? = some (.cells #[.int .i64 0, .int .i64 0, .int .i64 0, .int .i64 1] 32 (0, 0)) := (f1.block _ (by omega) (fun c => (nb1 _ c).1 rfl)).trans (HB.out.blk 0 rfl)
  have x3 : w2.heap[w1.heap.size + 1]? = some (.cells #[.int .i64 0, .int .i64 0, .int .i64 0, .int .i64 2] 32 (0, 0)) := (f1.block _ (by omega) (fun c => (nb1 _ c).2 rfl)).trans (HB.out.blk 1 rfl)
  have nb2 : ∀ k, S1 k → k ≠ w1.heap.size ∧ k ≠ w1.heap.size + 1 := fun k c => (sub1 k c).elim (nb1 k) (fun c => by omega)
  have P2 := put_any T2 exA (q := none) (n := 0) (c := 0) (K := []) (fun u hu => .inl ⟨rfl, none, 0, rfl⟩) (by decide) (ok_small (by decide) (by decide)) (fun x h => by cases h)
  have u0 : w2.cell? ⟨w1.heap.size, 0, none⟩ = some (.int .i64 0) := (blk_cell x2 0).trans rfl
  have u1 : w2.cell? ⟨w1.heap.size, 1, none⟩ = some (.int .i64 0) := (blk_cell x2 1).trans rfl
  have u2 : w2.cell? ⟨w1.heap.size, 2, none⟩ = some (.int .i64 0) := (blk_cell x2 2).trans rfl
  have u3 : w2.cell? ⟨w1.heap.size, 3, none⟩ = some (.int .i64 1) := (blk_cell x2 3).trans rfl
  have H1 := Lib.hid (And.intro x2 (And.intro x3 (And.intro nb2 (And.intro sub1 f1))))
  have z1 := f1.size
  have P2 := Lib.hid P2
  clear P1 y0 y1 y2 y3 x2 x3 nb1 nb2 T2 sub1 f1
  unfold pB at P2
  go_upto_region 5 with (first | (go_at_call 16; refine P2.out.mono ?_; rintro e w3 ⟨rfl, S2, T3, sub2, f2⟩))
  have T3 : Tbl w3 B exL2 2 S2 := T3
  have z2 := f2.size
  have x2 : w3.heap[w1.heap.size]? = some (.cells #[.int .i64 0, .int .i64 0, .int .i64 0, .int .i64 1] 32 (0, 0)) := (f2.block _ (by omega) (fun c => (H1.out.2.2.1 _ c).1 rfl)).trans H1.out.1
  have x3 : w3.heap[w1.heap.size + 1]? = some (.cells #[.int .i64 0, .int .i64 0, .int .i64 0, .int .i64 2] 32 (0, 0)) := (f2.block _ (by omega) (fun c => (H1.out.2.2.1 _ c).2 rfl)).trans H1.out.2.1
  have G3 := get_any T3 (x := kB) (ok_small (by decide) (by decide))
  rw [ex_got, ex_hasB] at G3
  have y0 : w3.cell? ⟨w1.heap.size + 1, 0, none⟩ = some (.int .i64 0) := (blk_cell x3 0).trans rfl
  have y1 : w3.cell? ⟨w1.heap.size + 1, 1, none⟩ = some (.int .i64 0) := (blk_cell x3 1).trans rfl
  have y2 : w3.cell? ⟨w1.heap.size + 1, 2, none⟩ = some (.int .i64 0) := (blk_cell x3 2).trans rfl
  have y3 : w3.cell? ⟨w1.heap.size + 1, 3, none⟩ = some (.int .i64 2) := (blk_cell x3 3).trans rfl
  have fU : Fr (fun k => w.heap.size ≤ k) w w3 := by
    have a1 : Fr (fun k => w.heap.size ≤ k) w W := Fr.kept (H0.out.2.1.trans HB.out.kept)
    have a2 := a1.trans H1.out.2.2.2.2 (fun k c => .inl (H0.out.1 k c))
    exact a2.trans f2 (fun k c => .inl ((H1.out.2.2.2.1 k c).elim (H0.out.1 k) (fun c => by omega)))
  have sU : ∀ k, S2 k → w.heap.size ≤ k := fun k c => (sub2 k c).elim (fun c => (H1.out.2.2.2.1 k c).elim (H0.out.1 k) (fun c => by omega)) (fun c => by omega)
  have H2 := Lib.hid (And.intro x2 (And.intro x3 (And.intro T3 (And.intro fU sU))))
  have G3 := Lib.hid G3
  clear P2 u0 u1 u2 u3 x2 x3 T3 sub2 f2 H1 HB H0 N0 fU sU
  unfold pB kB at G3
  unfold kv at G3
  simp only at G3
  go_upto_region 6 with (first
    | (go_at_call 18; refine G3.out.mono ?_; rintro e w4 ⟨q4, n4, c4, rfl, r4, f4, k4⟩)
    | (refine store_new rfl 52 (.tmp 6) (.tmp 23) rfl w4.heap.size (exB.arr q4 n4 c4) rfl rfl w4 _ rfl 19 info_ow rfl rfl (arr_one _ _ _ _) ?_))
  obtain ⟨W5, hW5⟩ : ∃ W5, w4.alloc (.cells (exB.arr q4 n4 c4) 52) = W5 := ⟨_, rfl⟩
  have k5 : Kept w3 W5 := by rw [← hW5]; exact k4.more _
  have b5 : W5.heap[w4.heap.size]? = some (.cells (exB.arr q4 n4 c4) 52 (0, 0)) := by rw [← hW5]; exact St.blk_new _ _
  rw [hW5]
  clear hW5 r4 f4 k4 G3 y0 y1 y2 y3
  have L2 := Lib.hid (fun (u : World) (hu : Kept W5 u) => load_key (u := u) (b := w1.heap.size) (o := 0) (n := 0) (i := 0) (s := 0) (k := 1) ((blk_cell (kept_at (k5.trans hu) H2.out.1) 0).trans rfl) ((blk_cell (kept_at (k5.trans hu) H2.out.1) 1).trans rfl) ((blk_cell (kept_at (k5.trans hu) H2.out.1) 2).trans rfl) ((blk_cell (kept_at (k5.trans hu) H2.out.1) 3).trans rfl))
  have L3 := Lib.hid (fun (u : World) (hu : Kept W5 u) => load_key (u := u) (b := w1.heap.size + 1) (o := 0) (n := 0) (i := 0) (s := 0) (k := 2) ((blk_cell (kept_at (k5.trans hu) H2.out.2.1) 0).trans rfl) ((blk_cell (kept_at (k5.trans hu) H2.out.2.1) 1).trans rfl) ((blk_cell (kept_at (k5.trans hu) H2.out.2.1) 2).trans rfl) ((blk_cell (kept_at (k5.trans hu) H2.out.2.1) 3).trans rfl))
  have L6 := Lib.hid (fun (u : World) (hu : Kept W5 u) => load_key (u := u) (b := w4.heap.size) (o := 0) (n := 0) (i := 0) (s := 0) (k := 2) ((blk_cell (kept_at hu b5) 0).trans rfl) ((blk_cell (kept_at hu b5) 1).trans rfl) ((blk_cell (kept_at hu b5) 2).trans rfl) ((blk_cell (kept_at hu b5) 3).trans rfl))
  have KC := Lib.hid (fun (u : World) (hu : Kept W5 u) => by
    have := keys_any (H2.out.2.2.1.kept (k5.trans hu)) (by decide)
    rw [ex_keys] at this; unfold pB at this; exact this)
  have DC := Lib.hid (fun (u : World) (hu : Kept W5 u) => by
    have := drop_any (H2.out.2.2.1.kept (k5.trans hu)) (by decide) (x := kA) (ok_small (by decide) (by decide))
    rw [ex_hasA] at this
    unfold pB kA kv at this
    exact this)
  have hSt : Stab (fun u => Kept W5 u) := stab_kept W5
  have K5 := Lib.hid k5
  clear k5 b5
  refine Av.region 26 (fun u => Kept W5 u) (by kernel_rfl) ((Kept.refl W5).drew) ?_
  refine Av.takep 0 (some 25) [23, 22, 15, 9, 6, 2, 1] (v := ?_) rfl rfl (by kernel_rfl) (by kernel_rfl) (by kernel_rfl) (by kernel_rfl) (fun _ _ _ h => h) hSt (Au.yq_run (by rfl) (fun u hu => ?_)) ?_
  rotate_left
  · (clear hu; go_simp; try with_reducible rfl)
  simp only [Act.put, List.setIfInBounds_toArray, List.set_cons_zero, List.set_cons_succ]
  refine Av.takep 1 (some 26) [23, 22, 15, 9, 6, 2] (v := ?_) rfl rfl (by kernel_rfl) (by kernel_rfl) (by kernel_rfl) (by kernel_rfl) (fun _ _ _ h => h) hSt (Au.yq_run (by rfl) (fun u hu => ?_)) ?_
  rotate_left
  · (clear hu; go_simp; try with_reducible rfl)
  simp only [Act.put, List.setIfInBounds_toArray, List.set_cons_zero, List.set_cons_succ]
  refine Av.takep 2 (some 27) [23, 22, 15, 9, 6] (v := ?_) rfl rfl (by kernel_rfl) (by kernel_rfl) (by kernel_rfl) (by kernel_rfl) (fun _ _ _ h => h) hSt (Au.yq_run (by rfl) (fun u hu => ?_)) ?_
  rotate_left
  · (clear hu; go_simp; try with_reducible rfl)
  simp only [Act.put, List.setIfInBounds_toArray, List.set_cons_zero, List.set_cons_succ]
  refine Av.takep 3 (some 28) [23, 22, 15, 9, 6, 5, 4] (v := ?_) rfl rfl (by kernel_rfl) (by kernel_rfl) (by kernel_rfl) (by kernel_rfl) (fun _ _ _ h => h) hSt (Au.yq_run (by rfl) (fun u hu => ?_)) ?_
  rotate_left
  · (clear hu; go_simp; try with_reducible rfl)
  simp only [Act.put, List.setIfInBounds_toArray, List.set_cons_zero, List.set_cons_succ]
  refine Av.takep 4 (some 29) [23, 22, 15, 9, 6, 5] (v := ?_) rfl rfl (by kernel_rfl) (by kernel_rfl) (by kernel_rfl) (by kernel_rfl) (fun _ _ _ h => h) hSt (Au.yq_run (by rfl) (fun u hu => ?_)) ?_
  rotate_left
  · (clear hu; go_simp; try with_reducible rfl)
  simp only [Act.put, List.setIfInBounds_toArray, List.set_cons_zero, List.set_cons_succ]
  refine Av.takep 5 (some 30) [23, 22, 15, 9, 6] (v := ?_) rfl rfl (by kernel_rfl) (by kernel_rfl) (by kernel_rfl) (by kernel_rfl) (fun _ _ _ h => h) hSt (Au.yq_run (by rfl) (fun u hu => ?_)) ?_
  rotate_left
  · (clear hu; go_simp; try with_reducible rfl)
  simp only [Act.put, List.setIfInBounds_toArray, List.set_cons_zero, List.set_cons_succ]
  refine Av.takep 6 (some 31) [23, 22, 15, 9] (v := ?_) rfl rfl (by kernel_rfl) (by kernel_rfl) (by kernel_rfl) (by kernel_rfl) (fun _ _ _ h => h) hSt (Au.yq_run (by rfl) (fun u hu => ?_)) ?_
  rotate_left
  · (clear hu; go_simp; try with_reducible rfl)
  simp only [Act.put, List.setIfInBounds_toArray, List.set_cons_zero, List.set_cons_succ]
  refine Av.takep 7 (some 32) [23, 22, 15, 9, 8] (v := ?_) rfl rfl (by kernel_rfl) (by kernel_rfl) (by kernel_rfl) (by kernel_rfl) (fun _ _ _ h => h) hSt (Au.yq_run (by rfl) (fun u hu => ?_)) ?_
  rotate_left
  · (clear hu; go_simp; try with_reducible rfl)
  simp only [Act.put, List.setIfInBounds_toArray, List.set_cons_zero, List.set_cons_succ]
  refine Av.takep 8 (some 33) [23, 22, 15, 9] (v := ?_) rfl rfl (by kernel_rfl) (by kernel_rfl) (by kernel_rfl) (by kernel_rfl) (fun _ _ _ h => h) hSt (Au.yq_run (by rfl) (fun u hu => ?_)) ?_
  rotate_left
  · (clear hu; go_simp; try with_reducible rfl)
  simp only [Act.put, List.setIfInBounds_toArray, List.set_cons_zero, List.set_cons_succ]
  refine Av.takep 9 (some 34) [23, 22, 15] (v := ?_) rfl rfl (by kernel_rfl) (by kernel_rfl) (by kernel_rfl) (by kernel_rfl) (fun _ _ _ h => h) hSt (Au.yq_run (by rfl) (fun u hu => ?_)) ?_
  rotate_left
  · (clear hu; go_simp; try with_reducible rfl)
  simp only [Act.put, List.setIfInBounds_toArray, List.set_cons_zero, List.set_cons_succ]
  refine Av.takep 10 (some 35) [23, 22, 15, 14, 13, 11] (v := ?_) rfl rfl (by kernel_rfl) (by kernel_rfl) (by kernel_rfl) (by kernel_rfl) (fun _ _ _ h => h) hSt (Au.yq_run (by rfl) (fun u hu => ?_)) ?_
  rotate_left
  · (clear hu; go_simp; try with_reducible rfl)
  simp only [Act.put, List.setIfInBounds_toArray, List.set_cons_zero, List.set_cons_succ]
  refine Av.takep 11 (some 36) [23, 22, 15, 14, 13] rfl rfl (by kernel_rfl) (by kernel_rfl) (by kernel_rfl) (by kernel_rfl) (fun _ _ _ h => h) hSt (Au.yq_load 32 (.tmp 35) rfl _ rfl (by rfl) (fun u hu => L6.out u hu)) ?_
  simp only [Act.put, List.setIfInBounds_toArray, List.set_cons_zero, List.set_cons_succ]
  refine Av.takep 12 (some 37) [23, 22, 15, 14, 13] rfl rfl (by kernel_rfl) (by kernel_rfl) (by kernel_rfl) (by kernel_rfl) (fun _ _ _ h => h) hSt (Au.yq_load 32 (.tmp 3) rfl _ rfl (by rfl) (fun u hu => L3.out u hu)) ?_
  simp only [Act.put, List.setIfInBounds_toArray, List.set_cons_zero, List.set_cons_succ]
  refine Av.takep 13 (some 38) [23, 22, 15, 14] (v := ?_) rfl rfl (by kernel_rfl) (by kernel_rfl) (by kernel_rfl) (by kernel_rfl) (fun _ _ _ h => h) hSt (Au.yq_run (by rfl) (fun u hu => ?_)) ?_
  rotate_left
  · (clear hu; go_simp; try with_reducible rfl)
  simp only [Act.put, List.setIfInBounds_toArray, List.set_cons_zero, List.set_cons_succ]
  refine Av.takep 14 (some 39) [23, 22, 15] (v := ?_) rfl rfl (by kernel_rfl) (by kernel_rfl) (by kernel_rfl) (by kernel_rfl) (fun _ _ _ h => h) hSt (Au.yq_run (by rfl) (fun u hu => ?_)) ?_
  rotate_left
  · (clear hu; go_simp; try with_reducible rfl)
  simp only [Act.put, List.setIfInBounds_toArray, List.set_cons_zero, List.set_cons_succ]
  refine Av.takep 15 (some 40) [23, 22] (v := ?_) rfl rfl (by kernel_rfl) (by kernel_rfl) (by kernel_rfl) (by kernel_rfl) (fun _ _ _ h => h) hSt (Au.yq_run (by rfl) (fun u hu => ?_)) ?_
  rotate_left
  · (clear hu; go_simp; try with_reducible rfl)
  simp only [Act.put, List.setIfInBounds_toArray, List.set_cons_zero, List.set_cons_succ]
  refine Av.takep 16 (some 41) [23, 21, 17] (v := ?_) rfl rfl (by kernel_rfl) (by kernel_rfl) (by kernel_rfl) (by kernel_rfl) (fun _ _ _ h => h) hSt (Au.yq_run (by rfl) (fun u hu => ?_)) ?_
  rotate_left
  · (clear hu; go_simp; try with_reducible rfl)
  simp only [Act.put, List.setIfInBounds_toArray, List.set_cons_zero, List.set_cons_succ]
  refine Av.takep 18 (some 43) [23, 21, 20] rfl rfl (by kernel_rfl) (by kernel_rfl) (by kernel_rfl) (by kernel_rfl) (fun _ _ _ h => h) hSt (Au.yq_load 32 (.tmp 2) rfl _ rfl (by rfl) (fun u hu => L2.out u hu)) ?_
  simp only [Act.put, List.setIfInBounds_toArray, List.set_cons_zero, List.set_cons_succ]
  refine Av.takep 19 (some 44) [23, 21, 20] rfl rfl (by kernel_rfl) (by kernel_rfl) (by kernel_rfl) (by kernel_rfl) (fun _ _ _ h => h) hSt (Au.yq_load 32 (.tmp 3) rfl _ rfl (by rfl) (fun u hu => L3.out u hu)) ?_
  simp only [Act.put, List.setIfInBounds_toArray, List.set_cons_zero, List.set_cons_succ]
  refine Av.fork_list 17 20 rfl rfl (by kernel_rfl) (fun w6 hw6 K6 hK6 => ?_) (fun w6 hw6 K6 hK6 => ?_)
  · have KC6 := Lib.hid (KC.out w6 hw6)
    go_wp2_with (first | (go_at_call 11; refine KC6.out.mono ?_; rintro e w7 ⟨v, rfl, r7, _, k7⟩))
    refine hK6.out (fun u => Kept W5 u ∧ Kr u v [kA, kB]) _ _ ⟨hw6.trans k7, r7⟩ (stab_and hSt (fun u u' h k => RowV.keep h k)) (fun u hu => hu.1) ?_
    clear hK6 K6 KC6 r7 k7 hw6
    try simp only [Act.put, List.setIfInBounds_toArray, List.set_cons_zero, List.set_cons_succ]
    refine Av.step_list 20 rfl (by kernel_rfl) (fun w8 hw8 K8 hK8 => ?_)
    go_wp2_with fail
    obtain ⟨g, hg⟩ : ∃ g, w8.heap.size = g := ⟨_, rfl⟩
    have b8 : (w8.alloc (.cells #[.int .i64 0, .int .i64 0, .int .i64 0, .int .i64 1, .int .i64 0, .int .i64 0, .int .i64 0, .int .i64 2] 32)).heap[g]? = some (.cells #[.int .i64 0, .int .i64 0, .int .i64 0, .int .i64 1, .int .i64 0, .int .i64 0, .int .i64 0, .int .i64 2] 32 (0, 0)) := by rw [← hg]; exact St.blk_new _ _
    rw [hg]
    refine hK8.out (fun u => (Kept W5 u ∧ Kr u v [kA, kB]) ∧ u.heap[g]? = some (.cells #[.int .i64 0, .int .i64 0, .int .i64 0, .int .i64 1, .int .i64 0, .int .i64 0, .int .i64 0, .int .i64 2] 32 (0, 0))) _ _ ⟨⟨hw8.1.more _, RowV.keep hw8.2 (Kept.one _ _)⟩, b8⟩ (stab_and (stab_and hSt (fun u u' h k => RowV.keep h k)) (fun u u' h k => kept_at k h)) (fun u hu => hu.1) ?_
    clear hK8 K8 hw8 b8 hg
    have hSt8 : Stab (fun u => (Kept W5 u ∧ Kr u v [kA, kB]) ∧ u.heap[g]? = some (.cells #[.int .i64 0, .int .i64 0, .int .i64 0, .int .i64 1, .int .i64 0, .int .i64 0, .int .i64 0, .int .i64 2] 32 (0, 0))) := stab_and (stab_and hSt (fun u u' h k => RowV.keep h k)) (fun u u' h k => kept_at k h)
    try simp only [Act.put, List.setIfInBounds_toArray, List.set_cons_zero, List.set_cons_succ]
    have SC := Lib.hid (fun (u : World) (hu : (Kept W5 u ∧ Kr u v [kA, kB]) ∧ u.heap[g]? = some (.cells #[.int .i64 0, .int .i64 0, .int .i64 0, .int .i64 1, .int .i64 0, .int .i64 0, .int .i64 0, .int .i64 2] 32 (0, 0))) => by
      have := same_any (kr_lk hu.1.2 (by decide)) (kr_lk (row_block (enc := encK) (k := 4) (L := [kA, kB]) (fun _ => rfl) hu.2 (by decide)) (by decide))
      rw [show decide ([kA, kB] = [kA, kB]) = true from decide_eq_true rfl] at this
      exact this)
    refine Av.takep 21 (some 46) [23] rfl rfl (by kernel_rfl) (by kernel_rfl) (by kernel_rfl) (by kernel_rfl) (fun _ _ _ h => h) hSt8 (Au.yq_call 10 _ (by rfl) (fun u => by go_simp) (fun u hu => SC.out u hu)) ?_
    simp only [Act.put, List.setIfInBounds_toArray, List.set_cons_zero, List.set_cons_succ]
    refine Av.takep 22 (some 47) [23] (v := ?_) rfl rfl (by kernel_rfl) (by kernel_rfl) (by kernel_rfl) (by kernel_rfl) (fun _ _ _ h => h) hSt8 (Au.yq_run (by rfl) (fun u hu => ?_)) ?_
    rotate_left
    · (clear hu; go_simp; try with_reducible rfl)
    simp only [Act.put, List.setIfInBounds_toArray, List.set_cons_zero, List.set_cons_succ]
    refine Av.takep 23 (some 48) [] (v := ?_) rfl rfl (by kernel_rfl) (by kernel_rfl) (by kernel_rfl) (by kernel_rfl) (fun _ _ _ h => h) hSt8 (Au.yq_run (by rfl) (fun u hu => ?_)) ?_
    rotate_left
    · (clear hu; go_simp; try with_reducible rfl)
    simp only [Act.put, List.setIfInBounds_toArray, List.set_cons_zero, List.set_cons_succ]
    refine Av.takep 24 (some 49) [] (v := ?_) rfl rfl (by kernel_rfl) (by kernel_rfl) (by kernel_rfl) (by kernel_rfl) (fun _ _ _ h => h) hSt8 (Au.yq_run (by rfl) (fun u hu => ?_)) ?_
    rotate_left
    · (clear hu; go_simp; try with_reducible rfl)
    simp only [Act.put, List.setIfInBounds_toArray, List.set_cons_zero, List.set_cons_succ]
    refine Av.takep 25 (some 50) [] rfl rfl (by kernel_rfl) (by kernel_rfl) (by kernel_rfl) (by kernel_rfl) (fun _ _ _ h => h) hSt8 (Au.yq_load 32 (.tmp 2) rfl _ rfl (by rfl) (fun u hu => L2.out u hu.1.1)) ?_
    simp only [Act.put, List.setIfInBounds_toArray, List.set_cons_zero, List.set_cons_succ]
    refine Av.tail_list 26 rfl (by kernel_rfl) (by decide) (fun w9 hw9 K9 hK9 => ?_)
    have DC9 := Lib.hid (DC.out w9 hw9.1.1)
    have k9 := Lib.hid (K5.out.trans hw9.1.1)
    clear SC hSt8 hw9
    go_wp2_with (first | (go_at_call 23; refine DC9.out.mono ?_; rintro e wd ⟨rfl, S3, T4, sub3, f3⟩))
    refine hK9.out _ _ ?_
    clear hK9 K9 DC9
    try simp only [Act.put, List.setIfInBounds_toArray, List.set_cons_zero, List.set_cons_succ]
    refine Av.tail_list 27 rfl (by kernel_rfl) (by decide) (fun u hu K9 hK9 => ?_)
    subst hu
    go_wp2_with fail
    refine hK9.out _ _ ?_
    clear hK9 K9
    try simp only [Act.put, List.setIfInBounds_toArray, List.set_cons_zero, List.set_cons_succ]
    refine Av.tail_list 28 rfl (by kernel_rfl) (by decide) (fun u hu K9 hK9 => ?_)
    subst hu
    go_wp2_with fail
    refine hK9.out _ _ ?_
    clear hK9 K9
    try simp only [Act.put, List.setIfInBounds_toArray, List.set_cons_zero, List.set_cons_succ]
    refine Av.tail_list 29 rfl (by kernel_rfl) (by decide) (fun u hu K9 hK9 => ?_)
    subst hu
    go_wp2_with fail
    refine hK9.out _ _ ?_
    clear hK9 K9
    try simp only [Act.put, List.setIfInBounds_toArray, List.set_cons_zero, List.set_cons_succ]
    have KD := Lib.hid (by
      have := keys_any T4 (by decide)
      have e : drop ⟨0, 0, 0, 1⟩ exL2 = drop kA exL2 := rfl
      rw [e, ex_left] at this; unfold pB at this; exact this : Calls Try.prog 11 #[.pointer (some ⟨B, 0, none⟩)] wd (tells wd [kB]))
    have F3 := Lib.hid (And.intro f3 sub3)
    clear T4 f3 sub3
    refine Av.tail_list 30 rfl (by kernel_rfl) (by decide) (fun u hu K9 hK9 => ?_)
    subst hu
    go_wp2_with (first | (go_at_call 11; refine KD.out.mono ?_; rintro e we ⟨v2, rfl, r8, _, k8⟩))
    refine hK9.out _ _ ?_
    clear hK9 K9 KD
    try simp only [Act.put, List.setIfInBounds_toArray, List.set_cons_zero, List.set_cons_succ]
    have hl8 := fun (u : World) (ty : TypeId) => RowV.len (st := 42) r8 Try.underlying42 ty u
    simp only [List.length_singleton] at hl8
    have K8 := Lib.hid k8
    clear r8 k8
    refine Av.tail_list 31 rfl (by kernel_rfl) (by decide) (fun u hu K9 hK9 => ?_)
    subst hu
    go_wp2_with fail
    refine hK9.out _ _ ?_
    clear hK9 K9
    try simp only [Act.put, List.setIfInBounds_toArray, List.set_cons_zero, List.set_cons_succ]
    refine Av.tail_list 32 rfl (by kernel_rfl) (by decide) (fun u hu K9 hK9 => ?_)
    subst hu
    go_wp2_with fail
    refine hK9.out _ _ ?_
    clear hK9 K9
    try simp only [Act.put, List.setIfInBounds_toArray, List.set_cons_zero, List.set_cons_succ]
    refine Av.tail_list 33 rfl (by kernel_rfl) (by decide) (fun u hu K9 hK9 => ?_)
    subst hu
    go_wp2_with fail
    refine hK9.out _ _ ?_
    clear hK9 K9
    try simp only [Act.put, List.setIfInBounds_toArray, List.set_cons_zero, List.set_cons_succ]
    refine Av.tail_list 34 rfl (by kernel_rfl) (by decide) (fun u hu K9 hK9 => ?_)
    subst hu
    go_wp2_with fail
    refine hK9.out _ _ ?_
    clear hK9 K9
    try simp only [Act.put, List.setIfInBounds_toArray, List.set_cons_zero, List.set_cons_succ]
    refine Av.done (by kernel_rfl) (fun u hu => ?_)
    subst hu
    go_wp2_with fail
    go_ret
    refine ⟨rfl, ?_⟩
    have a1 := H2.out.2.2.2.1.then_kept k9.out
    exact ((a1.trans F3.out.1 (fun k c => .inl (H2.out.2.2.2.2 k c))).then_kept K8.out).keeps (fun k c => c)
  · go_wp2_with fail
    obtain ⟨g, hg⟩ : ∃ g, w6.heap.size = g := ⟨_, rfl⟩
    have b8 : (w6.alloc (.cells #[.int .i64 0, .int .i64 0, .int .i64 0, .int .i64 1, .int .i64 0, .int .i64 0, .int .i64 0, .int .i64 2] 32)).heap[g]? = some (.cells #[.int .i64 0, .int .i64 0, .int .i64 0, .int .i64 1, .int .i64 0, .int .i64 0, .int .i64 0, .int .i64 2] 32 (0, 0)) := by rw [← hg]; exact St.blk_new _ _
    rw [hg]
    refine hK6.out (fun u => Kept W5 u ∧ u.heap[g]? = some (.cells #[.int .i64 0, .int .i64 0, .int .i64 0, .int .i64 1, .int .i64 0, .int .i64 0, .int .i64 0, .int .i64 2] 32 (0, 0))) _ _ ⟨hw6.more _, b8⟩ (stab_and hSt (fun u u' h k => kept_at k h)) (fun u hu => hu.1) ?_
    clear hK6 K6 hw6 b8 hg
    try simp only [Act.put, List.setIfInBounds_toArray, List.set_cons_zero, List.set_cons_succ]
    refine Av.step_list 17 rfl (by kernel_rfl) (fun w8 hw8 K8 hK8 => ?_)
    have KC6 := Lib.hid (KC.out w8 hw8.1)
    go_wp2_with (first | (go_at_call 11; refine KC6.out.mono ?_; rintro e w7 ⟨v, rfl, r7, _, k7⟩))
    refine hK8.out (fun u => (Kept W5 u ∧ Kr u v [kA, kB]) ∧ u.heap[g]? = some (.cells #[.int .i64 0, .int .i64 0, .int .i64 0, .int .i64 1, .int .i64 0, .int .i64 0, .int .i64 0, .int .i64 2] 32 (0, 0))) _ _ ⟨⟨hw8.1.trans k7, r7⟩, kept_at k7 hw8.2⟩ (stab_and (stab_and hSt (fun u u' h k => RowV.keep h k)) (fun u u' h k => kept_at k h)) (fun u hu => ⟨hu.1.1, hu.2⟩) ?_
    clear hK8 K8 KC6 r7 k7 hw8
    have hSt8 : Stab (fun u => (Kept W5 u ∧ Kr u v [kA, kB]) ∧ u.heap[g]? = some (.cells #[.int .i64 0, .int .i64 0, .int .i64 0, .int .i64 1, .int .i64 0, .int .i64 0, .int .i64 0, .int .i64 2] 32 (0, 0))) := stab_and (stab_and hSt (fun u u' h k => RowV.keep h k)) (fun u u' h k => kept_at k h)
    try simp only [Act.put, List.setIfInBounds_toArray, List.set_cons_zero, List.set_cons_succ]
    have SC := Lib.hid (fun (u : World) (hu : (Kept W5 u ∧ Kr u v [kA, kB]) ∧ u.heap[g]? = some (.cells #[.int .i64 0, .int .i64 0, .int .i64 0, .int .i64 1, .int .i64 0, .int .i64 0, .int .i64 0, .int .i64 2] 32 (0, 0))) => by
      have := same_any (kr_lk hu.1.2 (by decide)) (kr_lk (row_block (enc := encK) (k := 4) (L := [kA, kB]) (fun _ => rfl) hu.2 (by decide)) (by decide))
      rw [show decide ([kA, kB] = [kA, kB]) = true from decide_eq_true rfl] at this
      exact this)
    refine Av.takep 21 (some 46) [23] rfl rfl (by kernel_rfl) (by kernel_rfl) (by kernel_rfl) (by kernel_rfl) (fun _ _ _ h => h) hSt8 (Au.yq_call 10 _ (by rfl) (fun u => by go_simp) (fun u hu => SC.out u hu)) ?_
    simp only [Act.put, List.setIfInBounds_toArray, List.set_cons_zero, List.set_cons_succ]
    refine Av.takep 22 (some 47) [23] (v := ?_) rfl rfl (by kernel_rfl) (by kernel_rfl) (by kernel_rfl) (by kernel_rfl) (fun _ _ _ h => h) hSt8 (Au.yq_run (by rfl) (fun u hu => ?_)) ?_
    rotate_left
    · (clear hu; go_simp; try with_reducible rfl)
    simp only [Act.put, List.setIfInBounds_toArray, List.set_cons_zero, List.set_cons_succ]
    refine Av.takep 23 (some 48) [] (v := ?_) rfl rfl (by kernel_rfl) (by kernel_rfl) (by kernel_rfl) (by kernel_rfl) (fun _ _ _ h => h) hSt8 (Au.yq_run (by rfl) (fun u hu => ?_)) ?_
    rotate_left
    · (clear hu; go_simp; try with_reducible rfl)
    simp only [Act.put, List.setIfInBounds_toArray, List.set_cons_zero, List.set_cons_succ]
    refine Av.takep 24 (some 49) [] (v := ?_) rfl rfl (by kernel_rfl) (by kernel_rfl) (by kernel_rfl) (by kernel_rfl) (fun _ _ _ h => h) hSt8 (Au.yq_run (by rfl) (fun u hu => ?_)) ?_
    rotate_left
    · (clear hu; go_simp; try with_reducible rfl)
    simp only [Act.put, List.setIfInBounds_toArray, List.set_cons_zero, List.set_cons_succ]
    refine Av.takep 25 (some 50) [] rfl rfl (by kernel_rfl) (by kernel_rfl) (by kernel_rfl) (by kernel_rfl) (fun _ _ _ h => h) hSt8 (Au.yq_load 32 (.tmp 2) rfl _ rfl (by rfl) (fun u hu => L2.out u hu.1.1)) ?_
    simp only [Act.put, List.setIfInBounds_toArray, List.set_cons_zero, List.set_cons_succ]
    refine Av.tail_list 26 rfl (by kernel_rfl) (by decide) (fun w9 hw9 K9 hK9 => ?_)
    have DC9 := Lib.hid (DC.out w9 hw9.1.1)
    have k9 := Lib.hid (K5.out.trans hw9.1.1)
    clear SC hSt8 hw9
    go_wp2_with (first | (go_at_call 23; refine DC9.out.mono ?_; rintro e wd ⟨rfl, S3, T4, sub3, f3⟩))
    refine hK9.out _ _ ?_
    clear hK9 K9 DC9
    try simp only [Act.put, List.setIfInBounds_toArray, List.set_cons_zero, List.set_cons_succ]
    refine Av.tail_list 27 rfl (by kernel_rfl) (by decide) (fun u hu K9 hK9 => ?_)
    subst hu
    go_wp2_with fail
    refine hK9.out _ _ ?_
    clear hK9 K9
    try simp only [Act.put, List.setIfInBounds_toArray, List.set_cons_zero, List.set_cons_succ]
    refine Av.tail_list 28 rfl (by kernel_rfl) (by decide) (fun u hu K9 hK9 => ?_)
    subst hu
    go_wp2_with fail
    refine hK9.out _ _ ?_
    clear hK9 K9
    try simp only [Act.put, List.setIfInBounds_toArray, List.set_cons_zero, List.set_cons_succ]
    refine Av.tail_list 29 rfl (by kernel_rfl) (by decide) (fun u hu K9 hK9 => ?_)
    subst hu
    go_wp2_with fail
    refine hK9.out _ _ ?_
    clear hK9 K9
    try simp only [Act.put, List.setIfInBounds_toArray, List.set_cons_zero, List.set_cons_succ]
    have KD := Lib.hid (by
      have := keys_any T4 (by decide)
      have e : drop ⟨0, 0, 0, 1⟩ exL2 = drop kA exL2 := rfl
      rw [e, ex_left] at this; unfold pB at this; exact this : Calls Try.prog 11 #[.pointer (some ⟨B, 0, none⟩)] wd (tells wd [kB]))
    have F3 := Lib.hid (And.intro f3 sub3)
    clear T4 f3 sub3
    refine Av.tail_list 30 rfl (by kernel_rfl) (by decide) (fun u hu K9 hK9 => ?_)
    subst hu
    go_wp2_with (first | (go_at_call 11; refine KD.out.mono ?_; rintro e we ⟨v2, rfl, r8, _, k8⟩))
    refine hK9.out _ _ ?_
    clear hK9 K9 KD
    try simp only [Act.put, List.setIfInBounds_toArray, List.set_cons_zero, List.set_cons_succ]
    have hl8 := fun (u : World) (ty : TypeId) => RowV.len (st := 42) r8 Try.underlying42 ty u
    simp only [List.length_singleton] at hl8
    have K8 := Lib.hid k8
    clear r8 k8
    refine Av.tail_list 31 rfl (by kernel_rfl) (by decide) (fun u hu K9 hK9 => ?_)
    subst hu
    go_wp2_with fail
    refine hK9.out _ _ ?_
    clear hK9 K9
    try simp only [Act.put, List.setIfInBounds_toArray, List.set_cons_zero, List.set_cons_succ]
    refine Av.tail_list 32 rfl (by kernel_rfl) (by decide) (fun u hu K9 hK9 => ?_)
    subst hu
    go_wp2_with fail
    refine hK9.out _ _ ?_
    clear hK9 K9
    try simp only [Act.put, List.setIfInBounds_toArray, List.set_cons_zero, List.set_cons_succ]
    refine Av.tail_list 33 rfl (by kernel_rfl) (by decide) (fun u hu K9 hK9 => ?_)
    subst hu
    go_wp2_with fail
    refine hK9.out _ _ ?_
    clear hK9 K9
    try simp only [Act.put, List.setIfInBounds_toArray, List.set_cons_zero, List.set_cons_succ]
    refine Av.tail_list 34 rfl (by kernel_rfl) (by decide) (fun u hu K9 hK9 => ?_)
    subst hu
    go_wp2_with fail
    refine hK9.out _ _ ?_
    clear hK9 K9
    try simp only [Act.put, List.setIfInBounds_toArray, List.set_cons_zero, List.set_cons_succ]
    refine Av.done (by kernel_rfl) (fun u hu => ?_)
    subst hu
    go_wp2_with fail
    go_ret
    refine ⟨rfl, ?_⟩
    have a1 := H2.out.2.2.2.1.then_kept k9.out
    exact ((a1.trans F3.out.1 (fun k c => .inl (H2.out.2.2.2.2 k c))).then_kept K8.out).keeps (fun k c => c)

end Go.Proofs.Ytiaafjabhnomeaa.Tb
