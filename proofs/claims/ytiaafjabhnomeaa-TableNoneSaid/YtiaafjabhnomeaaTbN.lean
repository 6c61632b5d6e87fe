/- Package table: a nil one, and one that New did not make. -/
import Derived.Test.YtiaafjabhnomeaaTbE
import Derived.Test.YtiaafjabhnomeaaOw4
import Derived.Test.YtiaafjabhnomeaaRw
namespace Go.Proofs.Ytiaafjabhnomeaa.Tb
open Go.RowKit Go.Sort IdM Se Mv Blk
open St (Kept blk_cell blk_free blk_lt blk_set)
open Go.Proofs.Ytiaafjabhnomeaa.Ow (Ow Cls Mc mc_cls load_id load_key load_call info_cl one_cells take_snoc zeroA info_ow arr_one load_ow clone_any)
open Go.Proofs.Ytiaafjabhnomeaa.Cl (Cl encC)
open Go.Proofs.Ytiaafjabhnomeaa.Rv
open Go.Proofs.Ytiaafjabhnomeaa.Ad (load_w load_l store_new kept_row)
open Go.Proofs.Ytiaafjabhnomeaa.Au (Stab stab_and stab_kept)
open Wh (Fr)
set_option linter.unusedVariables false
set_option linter.unusedSimpArgs false
set_option maxRecDepth 20000

/-- no table, or one that New did not make -/
def NotT (w : World) (p : Value) : Prop := p = .pointer none ∨ ∃ z, p = pB z ∧ w.cell? ⟨z, 0, none⟩ = some (.pointer none)
section
variable {w : World} {p : Value}
theorem NotT.kept {w' : World} (h : NotT w p) (k : Kept w w') : NotT w' p := h.imp id fun ⟨z, e, c⟩ => ⟨z, e, (Below.cell k (p := ⟨z, 0, none⟩) (World.block_lt_of_cell? w _ c)).trans c⟩
theorem made_not (h : NotT w p) : Calls Try.prog 35 #[p] w fun e w' => e = .returned (.bool false) ∧ w = w' := by
  rcases h with rfl | ⟨z, rfl, c⟩
  · exact made_nil w
  · exact made_zero c

set_option maxHeartbeats 400000 in
theorem nget_any (h : NotT w p) (x : Ke) : Calls Try.prog 18 #[p, kv x] w fun e w' => e = .returned (.tuple #[.agg zeroA, .bool false]) ∧ Kept w w' := by
  obtain ⟨W, hW⟩ : ∃ W, (w.alloc (.cells #[.int .i64 x.n, .int .i64 x.i, .int .i64 x.s, .int .i64 x.a] 32)).alloc (.cells zeroA 52) = W := ⟨_, rfl⟩
  have hb : Bl w W [(#[.int .i64 x.n, .int .i64 x.i, .int .i64 x.s, .int .i64 x.a], 32), (zeroA, 52)] := hW ▸ Bl.two w _ _ _ _
  have C := Lib.hid (made_not (h.kept hb.kept))
  have HB := Lib.hid hb
  have HW := Lib.hid hW
  clear h hb hW
  unfold kv
  go_enter Try.func18, Try.ntmps18
  go_upto_region 1 with fail
  rw [show (w.alloc (.cells #[.int .i64 x.n, .int .i64 x.i, .int .i64 x.s, .int .i64 x.a] 32)).alloc (.cells #[.int .i64 0, .int .i64 0, .int .i64 0, .int .i64 0, .int .i64 0, .int .i64 0, .int .i64 0, .int .i64 0, .int .i64 0, .int .i64 0, .int .i64 0, .int .i64 0, .int .i64 0, .int .i64 0, .int .i64 0, .int .i64 0, .int .i64 0, .int .i64 0, .slice none 0 0] 52) = W from HW.out]
  go_wp2_with (first
    | (go_at_call 35; refine C.out.mono ?_; rintro e w' ⟨rfl, rfl⟩)
    | (refine wpList_store_row rfl 52 (.tmp 4) (.tmp 11) rfl (w.heap.size + 1) zeroA rfl rfl 52 zeroA (HB.out.blk 1 rfl) info_ow rfl (arr_one _ _ _ _) ?_))
  have hb6 := HB.out.row 1 rfl zeroA
  refine bodyPost_ret (Rw.results_row_tmp rfl _ _ (w.heap.size + 1) 52 zeroA (0, 0) _ rfl (hb6.blk 1 rfl) Try.underlying52 rfl info_ow) rfl ?_
  exact ⟨rfl, hb6.kept⟩

set_option maxHeartbeats 400000 in
theorem nput_any (h : NotT w p) (A : Array Value) : Calls Try.prog 16 #[p, .agg A] w fun e w' => e = .returned (.int .i64 1) ∧ Kept w w' := by
  obtain ⟨W, hW⟩ : ∃ W, w.alloc (.cells A 52) = W := ⟨_, rfl⟩
  have k1 : Kept w W := by rw [← hW]; exact Kept.one _ _
  have C := Lib.hid (made_not (h.kept k1))
  have HK := Lib.hid k1
  have HW := Lib.hid hW
  clear h k1 hW
  go_enter Try.func16, Try.ntmps16
  go_upto_region 1 with fail
  rw [HW.out]
  go_wp2_with (first | (go_at_call 35; refine C.out.mono ?_; rintro e w' ⟨rfl, rfl⟩))
  go_ret
  exact ⟨rfl, HK.out⟩

set_option maxHeartbeats 400000 in
theorem ndrop_any (h : NotT w p) (x : Ke) : Calls Try.prog 23 #[p, kv x] w fun e w' => e = .returned (.bool false) ∧ Kept w w' := by
  obtain ⟨W, hW⟩ : ∃ W, w.alloc (.cells #[.int .i64 x.n, .int .i64 x.i, .int .i64 x.s, .int .i64 x.a] 32) = W := ⟨_, rfl⟩
  have k1 : Kept w W := by rw [← hW]; exact Kept.one _ _
  have C := Lib.hid (made_not (h.kept k1))
  have HK := Lib.hid k1
  have HW := Lib.hid hW
  clear h k1 hW
  unfold kv
  go_enter Try.func23, Try.ntmps23
  go_upto_region 1 with fail
  rw [HW.out]
  go_wp2_with (first | (go_at_call 35; refine C.out.mono ?_; rintro e w' ⟨rfl, rfl⟩))
  go_ret
  exact ⟨rfl, HK.out⟩

set_option maxHeartbeats 400000 in
theorem nthose_any (h : NotT w p) (f : Value) : Calls Try.prog 30 #[p, f] w fun e w' => e = .returned (.slice none 0 0) ∧ w = w' := by
  have C := Lib.hid (made_not h)
  clear h
  go_enter Try.func30, Try.ntmps30
  go_wp2_with (first | (go_at_call 35; refine C.out.mono ?_; rintro e w' ⟨rfl, rfl⟩))
  go_ret
  exact ⟨rfl, rfl⟩

set_option maxHeartbeats 400000 in
theorem nkeys_any (h : NotT w p) : Calls Try.prog 11 #[p] w fun e w' => e = .returned (.slice none 0 0) ∧ Kept w w' := by
  have C := Lib.hid (nthose_any h)
  clear h
  go_enter Try.func11, Try.ntmps11
  go_wp2_with (first | (go_at_call 30; refine (C.out _).mono ?_; rintro e w' ⟨rfl, rfl⟩))
  go_ret
  exact ⟨rfl, Kept.refl _⟩

set_option maxHeartbeats 400000 in
theorem nrunning_any (h : NotT w p) : Calls Try.prog 13 #[p] w fun e w' => e = .returned (.slice none 0 0) ∧ Kept w w' := by
  have C := Lib.hid (nthose_any h)
  clear h
  go_enter Try.func13, Try.ntmps13
  go_wp2_with (first | (go_at_call 30; refine (C.out _).mono ?_; rintro e w' ⟨rfl, rfl⟩))
  go_ret
  exact ⟨rfl, Kept.refl _⟩

set_option maxHeartbeats 400000 in
theorem nunder_any (h : NotT w p) (r : Di) : Calls Try.prog 24 #[p, dv r] w fun e w' => e = .returned (.slice none 0 0) ∧ Kept w w' := by
  obtain ⟨W, hW⟩ : ∃ W, w.alloc (.cells #[.int .i64 r.n, .int .i64 r.i, .int .i64 r.s] 30) = W := ⟨_, rfl⟩
  have k1 : Kept w W := by rw [← hW]; exact Kept.one _ _
  have C := Lib.hid (nthose_any (h.kept k1))
  have HK := Lib.hid k1
  have HW := Lib.hid hW
  clear h k1 hW
  unfold dv
  go_enter Try.func24, Try.ntmps24
  go_upto_region 1 with fail
  rw [HW.out]
  go_wp2_with (first | (go_at_call 30; refine (C.out _).mono ?_; rintro e w' ⟨rfl, rfl⟩))
  go_ret
  exact ⟨rfl, HK.out⟩

set_option maxHeartbeats 1000000 in
theorem ncaller_any (h : NotT w p) (d : Di) : Calls Try.prog 22 #[p, dv d] w fun e w' => e = .returned (.tuple #[.agg zeroA, .bool false]) ∧ Kept w w' := by
  obtain ⟨W, hW⟩ : ∃ W, (w.alloc (.cells #[.int .i64 d.n, .int .i64 d.i, .int .i64 d.s] 30)).alloc (.cells zeroA 52) = W := ⟨_, rfl⟩
  have hb : Bl w W [(#[.int .i64 d.n, .int .i64 d.i, .int .i64 d.s], 30), (zeroA, 52)] := hW ▸ Bl.two w _ _ _ _
  have C := Lib.hid (show ∀ u, Kept W u → Calls Try.prog 35 #[p] u fun e w' => e = .returned (.bool false) ∧ Kept u w' from fun u hu => (made_not (h.kept (hb.kept.trans hu))).mono fun e w' ⟨a, b⟩ => ⟨a, b ▸ Kept.refl _⟩)
  have HB := Lib.hid hb
  have HW := Lib.hid hW
  have hSt : Stab (fun u => Kept W u) := stab_kept W
  clear h hb hW
  unfold dv
  go_enter Try.func22, Try.ntmps22
  go_upto_region 1 with fail
  rw [show (w.alloc (.cells #[.int .i64 d.n, .int .i64 d.i, .int .i64 d.s] 30)).alloc (.cells #[.int .i64 0, .int .i64 0, .int .i64 0, .int .i64 0, .int .i64 0, .int .i64 0, .int .i64 0, .int .i64 0, .int .i64 0, .int .i64 0, .int .i64 0, .int .i64 0, .int .i64 0, .int .i64 0, .int .i64 0, .int .i64 0, .int .i64 0, .int .i64 0, .slice none 0 0] 52) = W from HW.out]
  refine Av.region 13 (fun u => Kept W u) (by kernel_rfl) ((Kept.refl W).drew) ?_
  refine Av.take 0 (some 6) (v := ?_) rfl rfl (by kernel_rfl) (by kernel_rfl) (by kernel_rfl) (by kernel_rfl) (fun _ _ _ h => h) hSt (Au.yq_run (by rfl) (fun u hu => ?_)) ?_
  rotate_left
  · (clear hu; go_simp; try with_reducible rfl)
  simp only [Act.put, List.setIfInBounds_toArray, List.set_cons_zero, List.set_cons_succ]
  refine Av.take 1 (some 7) rfl rfl (by kernel_rfl) (by kernel_rfl) (by kernel_rfl) (by kernel_rfl) (fun _ _ _ h => h) hSt (Au.yq_call 35 _ (by rfl) (fun u => by go_simp) (fun u hu => C.out u hu)) ?_
  simp only [Act.put, List.setIfInBounds_toArray, List.set_cons_zero, List.set_cons_succ]
  refine Av.take 2 (some 8) (v := ?_) rfl rfl (by kernel_rfl) (by kernel_rfl) (by kernel_rfl) (by kernel_rfl) (fun _ _ _ h => h) hSt (Au.yq_run (by rfl) (fun u hu => ?_)) ?_
  rotate_left
  · (clear hu; go_simp; try with_reducible rfl)
  simp only [Act.put, List.setIfInBounds_toArray, List.set_cons_zero, List.set_cons_succ]
  refine Av.take 3 (some 9) (v := ?_) rfl rfl (by kernel_rfl) (by kernel_rfl) (by kernel_rfl) (by kernel_rfl) (fun _ _ _ h => h) hSt (Au.yq_run (by rfl) (fun u hu => ?_)) ?_
  rotate_left
  · (clear hu; go_simp; try with_reducible rfl)
  simp only [Act.put, List.setIfInBounds_toArray, List.set_cons_zero, List.set_cons_succ]
  refine Av.take 4 (some 10) rfl rfl (by kernel_rfl) (by kernel_rfl) (by kernel_rfl) (by kernel_rfl) (fun _ _ _ h => h) hSt (Au.yq_skip (by rfl)) ?_
  simp only [Act.put, List.setIfInBounds_toArray, List.set_cons_zero, List.set_cons_succ]
  refine Av.take 5 (some 11) rfl rfl (by kernel_rfl) (by kernel_rfl) (by kernel_rfl) (by kernel_rfl) (fun _ _ _ h => h) hSt (Au.yq_skip (by rfl)) ?_
  simp only [Act.put, List.setIfInBounds_toArray, List.set_cons_zero, List.set_cons_succ]
  refine Av.take 6 (some 12) rfl rfl (by kernel_rfl) (by kernel_rfl) (by kernel_rfl) (by kernel_rfl) (fun _ _ _ h => h) hSt (Au.yq_skip (by rfl)) ?_
  simp only [Act.put, List.setIfInBounds_toArray, List.set_cons_zero, List.set_cons_succ]
  refine Av.take 7 (some 13) rfl rfl (by kernel_rfl) (by kernel_rfl) (by kernel_rfl) (by kernel_rfl) (fun _ _ _ h => h) hSt (Au.yq_skip (by rfl)) ?_
  simp only [Act.put, List.setIfInBounds_toArray, List.set_cons_zero, List.set_cons_succ]
  refine Av.take 8 (some 14) rfl rfl (by kernel_rfl) (by kernel_rfl) (by kernel_rfl) (by kernel_rfl) (fun _ _ _ h => h) hSt (Au.yq_skip (by rfl)) ?_
  simp only [Act.put, List.setIfInBounds_toArray, List.set_cons_zero, List.set_cons_succ]
  refine Av.take 9 (some 15) rfl rfl (by kernel_rfl) (by kernel_rfl) (by kernel_rfl) (by kernel_rfl) (fun _ _ _ h => h) hSt (Au.yq_skip (by rfl)) ?_
  simp only [Act.put, List.setIfInBounds_toArray, List.set_cons_zero, List.set_cons_succ]
  refine Av.take 10 (some 16) rfl rfl (by kernel_rfl) (by kernel_rfl) (by kernel_rfl) (by kernel_rfl) (fun _ _ _ h => h) hSt (Au.yq_skip (by rfl)) ?_
  simp only [Act.put, List.setIfInBounds_toArray, List.set_cons_zero, List.set_cons_succ]
  refine Av.take 11 (some 17) rfl rfl (by kernel_rfl) (by kernel_rfl) (by kernel_rfl) (by kernel_rfl) (fun _ _ _ h => h) hSt (Au.yq_skip (by rfl)) ?_
  simp only [Act.put, List.setIfInBounds_toArray, List.set_cons_zero, List.set_cons_succ]
  refine Av.take 12 (some 18) (v := ?_) rfl rfl (by kernel_rfl) (by kernel_rfl) (by kernel_rfl) (by kernel_rfl) (fun _ _ _ h => h) hSt (Au.yq_run (by rfl) (fun u hu => ?_)) ?_
  rotate_left
  · (clear hu; go_simp; try with_reducible rfl)
  simp only [Act.put, List.setIfInBounds_toArray, List.set_cons_zero, List.set_cons_succ]
  refine Av.done (by kernel_rfl) (fun u hu => ?_)
  have HU := Lib.hid hu
  clear hu
  go_wp2_with (first
    | (refine wpList_store_row rfl 52 (.tmp 4) (.tmp 19) rfl (w.heap.size + 1) zeroA rfl rfl 52 zeroA ((HB.out.go HU.out).blk 1 rfl) info_ow rfl (arr_one _ _ _ _) ?_))
  have hb6 := (HB.out.go HU.out).row 1 rfl zeroA
  refine bodyPost_ret (Rw.results_row_tmp rfl _ _ (w.heap.size + 1) 52 zeroA (0, 0) _ rfl (hb6.blk 1 rfl) Try.underlying52 rfl info_ow) rfl ?_
  exact ⟨rfl, hb6.kept⟩
end

end Go.Proofs.Ytiaafjabhnomeaa.Tb
