/- Package sender, and the document's own answers for it: packets to and from. Package sender: the packet that asks for a call's attempt. -/
import Derived.Test.YtncdiggejofbbaaGreatDoorSnE
import Derived.Test.YtncdiggejofbbaaGreatDoorAu
import Derived.BigRegion
namespace Go.Proofs.YtncdiggejofbbaaGreatDoor.Sn
open Go.RowKit Go.Sort Go.Shelf St PkM Ad Po Blk Eqs
open Go.Proofs.YtncdiggejofbbaaGreatDoor.Cl
open Go.Proofs.YtncdiggejofbbaaGreatDoor.Ow
open Go.Proofs.YtncdiggejofbbaaGreatDoor.Au (Stab stab_and)
open Go.Proofs.YtncdiggejofbbaaGreatDoor.Ad (load_w load_l store_new)
set_option linter.unusedVariables false

theorem bl_stab {w : World} {L : List (Array Value × TypeId)} : Stab (fun u => Bl w u L) := fun u u' h k => h.go k

set_option maxRecDepth 100000 in
set_option maxHeartbeats 4000000 in
theorem onward_any (k me : Int) (x : Cl) (w : World) : Calls Tryz.prog 27 #[.int .i64 k, .int .i64 me, .agg x.arr] w fun e w' => e = .returned (.agg (onw k me x).arr) ∧ Kept w w' := by
  obtain ⟨X, hX⟩ : ∃ X, x.arr = X := ⟨_, rfl⟩
  have x3 : X[3]? = some (.int .i64 x.to) := by rw [← hX]; rfl
  have sX : X.size = 13 := by rw [← hX]; rfl
  have C1 := Lib.hid (show ∀ u, Calls Tryz.prog 43 #[.agg X] u fun e w' => e = .returned (.agg #[.int .i64 x.n, .int .i64 x.i, .int .i64 x.s, .int .i64 x.att]) ∧ Kept u w' from fun u => by rw [← hX]; exact key_any x u)
  rw [hX]
  obtain ⟨W, hW⟩ : ∃ W, (w.alloc (.cells X 41)).alloc (.cells zeroP 43) = W := ⟨_, rfl⟩
  have hb : Bl w W [(X, 41), (zeroP, 43)] := hW ▸ Bl.two w X _ _ _
  have HW := Lib.hid hW
  have HS := Lib.hid hb
  have hSt : Stab (fun u => Bl w u [(X, 41), (zeroP, 43)]) := bl_stab
  clear hX hW hb
  go_enter Tryz.func27, Tryz.ntmps27
  go_upto_region 1 with fail
  rw [show (w.alloc (.cells X 41)).alloc (.cells #[.int .i64 0, .int .i64 0, .int .i64 0, .int .i64 0, .int .i64 0, .int .i64 0, .int .i64 0, .int .i64 0, .int .i64 0, .string ⟨#[]⟩, .int .i64 0, .int .i64 0, .int .i64 0, .int .i64 0, .int .i64 0, .int .i64 0, .int .i64 0, .int .i64 0, .int .i64 0, .int .i64 0, .int .i64 0, .bool false, .int .i64 0] 43) = W from HW.out]
  refine Av.region 7 (fun u => Bl w u [(X, 41), (zeroP, 43)]) (by kernel_rfl) (hSt _ _ HS.out (Kept.refl _).drew) ?_
  refine Av.take 0 (some 7) (v := ?_) rfl rfl (by kernel_rfl) (by kernel_rfl) (by kernel_rfl) (by kernel_rfl) (fun _ _ _ h => h) hSt (Au.yq_run (by rfl) (fun u hu => ?_)) ?_
  rotate_left
  · (clear hu; go_simp; try with_reducible rfl)
  simp only [Act.put, List.setIfInBounds_toArray, List.set_cons_zero, List.set_cons_succ]
  refine Av.take 1 (some 8) (v := ?_) rfl rfl (by kernel_rfl) (by kernel_rfl) (by kernel_rfl) (by kernel_rfl) (fun _ _ _ h => h) hSt (Au.yq_run (by rfl) (fun u hu => ?_)) ?_
  rotate_left
  · (clear hu; go_simp; try with_reducible rfl)
  simp only [Act.put, List.setIfInBounds_toArray, List.set_cons_zero, List.set_cons_succ]
  refine Av.take 2 (some 9) (v := ?_) rfl rfl (by kernel_rfl) (by kernel_rfl) (by kernel_rfl) (by kernel_rfl) (fun _ _ _ h => h) hSt (Au.yq_run (by rfl) (fun u hu => ?_)) ?_
  rotate_left
  · (clear hu; go_simp; try with_reducible rfl)
  simp only [Act.put, List.setIfInBounds_toArray, List.set_cons_zero, List.set_cons_succ]
  refine Av.take 3 (some 10) rfl rfl (by kernel_rfl) (by kernel_rfl) (by kernel_rfl) (by kernel_rfl) (fun _ _ _ h => h) hSt (Au.yq_load 3 (.tmp 9) rfl _ rfl (by rfl) (fun u hu => run_loadi ((hu.cell 0 3 rfl).trans x3))) ?_
  simp only [Act.put, List.setIfInBounds_toArray, List.set_cons_zero, List.set_cons_succ]
  refine Av.take 4 (some 11) rfl rfl (by kernel_rfl) (by kernel_rfl) (by kernel_rfl) (by kernel_rfl) (fun _ _ _ h => h) hSt (Au.yq_load 41 (.tmp 5) rfl _ rfl (by rfl) (fun u hu => load_cl (hu.blk 0 rfl) sX)) ?_
  simp only [Act.put, List.setIfInBounds_toArray, List.set_cons_zero, List.set_cons_succ]
  refine Av.take 5 (some 12) rfl rfl (by kernel_rfl) (by kernel_rfl) (by kernel_rfl) (by kernel_rfl) (fun _ _ _ h => h) hSt (Au.yq_call 43 _ (by rfl) (fun u => by go_simp) (fun u hu => C1.out u)) ?_
  simp only [Act.put, List.setIfInBounds_toArray, List.set_cons_zero, List.set_cons_succ]
  refine Av.take 6 (some 13) (v := ?_) rfl rfl (by kernel_rfl) (by kernel_rfl) (by kernel_rfl) (by kernel_rfl) (fun _ _ _ h => h) hSt (Au.yq_run (by rfl) (fun u hu => ?_)) ?_
  rotate_left
  · (clear hu; go_simp; try with_reducible rfl)
  simp only [Act.put, List.setIfInBounds_toArray, List.set_cons_zero, List.set_cons_succ]
  refine Av.tail 7 rfl (by kernel_rfl) (by decide) (fun w5 hw5 K5 hK5 => ?_)
  rw [if_pos (by rfl)]
  refine wp_store_row 43 (.tmp 6) (.tmp 13) rfl (w.heap.size + 1) (onw k me x).arr rfl rfl 43 zeroP (hw5.blk 1 rfl) (info_pk) (rfl) (pk_one _) ?_
  refine hK5.out _ _ ?_
  clear hK5 K5
  refine Av.done (by kernel_rfl) (fun u hu => ?_)
  subst hu
  go_wp2_with fail
  have hz := hw5.row 1 rfl (onw k me x).arr
  exact bodyPost_ret (results_cell_row rfl _ _ (w.heap.size + 1) 43 _ (0, 0) _ rfl (hz.blk 1 rfl) Tryz.underlying43 rfl info_pk) rfl ⟨rfl, hz.kept⟩

set_option maxRecDepth 100000 in
set_option maxHeartbeats 4000000 in
theorem back_any (k me : Int) (o : Ow) (q : Option Addr) (N c : Nat) (w : World) : Calls Tryz.prog 30 #[.int .i64 k, .int .i64 me, .agg (o.arr q N c)] w fun e w' => e = .returned (.agg (bck k me o).arr) ∧ Kept w w' := by
  obtain ⟨A, hA⟩ : ∃ A, o.arr q N c = A := ⟨_, rfl⟩
  have x11 : A[11]? = some (.int .i64 o.fr) := by rw [← hA]; rfl
  have x0 : A[0]? = some (.int .i64 o.kn) := by rw [← hA]; rfl
  have x1 : A[1]? = some (.int .i64 o.ki) := by rw [← hA]; rfl
  have x2 : A[2]? = some (.int .i64 o.ks) := by rw [← hA]; rfl
  have x3 : A[3]? = some (.int .i64 o.ka) := by rw [← hA]; rfl
  rw [hA]
  obtain ⟨W, hW⟩ : ∃ W, (w.alloc (.cells A 39)).alloc (.cells zeroP 43) = W := ⟨_, rfl⟩
  have hb : Bl w W [(A, 39), (zeroP, 43)] := hW ▸ Bl.two w A _ _ _
  have lk := load_key (u := W) (b := w.heap.size) (o := 0) ((hb.cell 0 0 rfl).trans x0) ((hb.cell 0 1 rfl).trans x1) ((hb.cell 0 2 rfl).trans x2) ((hb.cell 0 3 rfl).trans x3)
  have h11 : W.cell? ⟨w.heap.size, 11, none⟩ = some (.int .i64 o.fr) := (hb.cell 0 11 rfl).trans x11
  have HW := Lib.hid hW
  have HS := Lib.hid hb
  clear hA hW hb x0 x1 x2 x3 x11
  go_enter Tryz.func30, Tryz.ntmps30
  go_upto_region 1 with fail
  rw [show (w.alloc (.cells A 39)).alloc (.cells #[.int .i64 0, .int .i64 0, .int .i64 0, .int .i64 0, .int .i64 0, .int .i64 0, .int .i64 0, .int .i64 0, .int .i64 0, .string ⟨#[]⟩, .int .i64 0, .int .i64 0, .int .i64 0, .int .i64 0, .int .i64 0, .int .i64 0, .int .i64 0, .int .i64 0, .int .i64 0, .int .i64 0, .int .i64 0, .bool false, .int .i64 0] 43) = W from HW.out]
  go_wp2_with (first
    | (refine load_l 28 (.tmp 11) rfl _ rfl rfl _ lk ?_)
    | (refine wpList_store_row rfl 43 (.tmp 6) (.tmp 13) rfl (w.heap.size + 1) (bck k me o).arr rfl rfl 43 zeroP (HS.out.blk 1 rfl) info_pk rfl (pk_one _) ?_))
  have hz := HS.out.row 1 rfl (bck k me o).arr
  exact bodyPost_ret (results_cell_row rfl _ _ (w.heap.size + 1) 43 _ (0, 0) _ rfl (hz.blk 1 rfl) Tryz.underlying43 rfl info_pk) rfl ⟨rfl, hz.kept⟩


set_option maxRecDepth 100000 in
set_option maxHeartbeats 4000000 in
theorem reply_any (me : Int) (o : Ow) (n v : Int) (q : Option Addr) (N c : Nat) (w : World) : Calls Tryz.prog 12 #[.int .i64 me, .agg (o.arr q N c), .int .i64 n, .int .i64 v] w fun e w' => e = .returned (.agg (rpl me o n v).arr) ∧ Kept w w' := by
  obtain ⟨A, hA⟩ : ∃ A, o.arr q N c = A := ⟨_, rfl⟩
  have sA : A.size = 19 := by rw [← hA]; rfl
  have C1 := Lib.hid (show ∀ u, Calls Tryz.prog 30 #[.int .i64 2, .int .i64 me, .agg A] u fun e w' => e = .returned (.agg (bck 2 me o).arr) ∧ Kept u w' from fun u => by rw [← hA]; exact back_any 2 me o q N c u)
  rw [hA]
  obtain ⟨W, hW⟩ : ∃ W, (w.alloc (.cells A 39)).alloc (.cells zeroP 43) = W := ⟨_, rfl⟩
  have hb : Bl w W [(A, 39), (zeroP, 43)] := hW ▸ Bl.two w A _ _ _
  have HW := Lib.hid hW
  have HS := Lib.hid hb
  clear hA hW hb
  go_enter Tryz.func12, Tryz.ntmps12
  go_upto_region 1 with fail
  rw [show (w.alloc (.cells A 39)).alloc (.cells #[.int .i64 0, .int .i64 0, .int .i64 0, .int .i64 0, .int .i64 0, .int .i64 0, .int .i64 0, .int .i64 0, .int .i64 0, .string ⟨#[]⟩, .int .i64 0, .int .i64 0, .int .i64 0, .int .i64 0, .int .i64 0, .int .i64 0, .int .i64 0, .int .i64 0, .int .i64 0, .int .i64 0, .int .i64 0, .bool false, .int .i64 0] 43) = W from HW.out]
  go_upto_region 2 with (first
    | (refine load_w 39 (.tmp 5) rfl w.heap.size rfl rfl A 19 (HS.out.blk 0 rfl) Tryz.underlying39 sA info_ow ?_)
    | (go_at_call 30; refine (C1.out _).mono ?_; rintro e u ⟨rfl, k⟩)
    | (refine store_new rfl 43 (.tmp 9) (.tmp 12) rfl u.heap.size (bck 2 me o).arr rfl rfl u _ rfl 23 info_pk rfl rfl (pk_one _) ?_))
  obtain ⟨V, hV⟩ : ∃ V, u.alloc (.cells (bck 2 me o).arr 43) = V := ⟨_, rfl⟩
  rw [hV]
  have hV0 : Bl u V [((bck 2 me o).arr, 43)] := by rw [← hV]; exact Bl.one u _ _
  obtain ⟨g, hg⟩ : ∃ g, u.heap.size = g := ⟨_, rfl⟩
  rw [hg]
  have y19 : V.cell? ⟨g, 19, none⟩ = some (.int .i64 0) := by rw [← hg]; exact hV0.cell 0 19 rfl
  have f19 : V.frozen? ⟨g, 19, none⟩ = false := by rw [← hg]; exact hV0.free 0 19 rfl
  have y20 : V.cell? ⟨g, 20, none⟩ = some (.int .i64 0) := by rw [← hg]; exact hV0.cell 0 20 rfl
  have f20 : V.frozen? ⟨g, 20, none⟩ = false := by rw [← hg]; exact hV0.free 0 20 rfl
  have HV := Lib.hid hV0
  have HG := Lib.hid hg
  have HK := Lib.hid k
  clear hV hg hV0 k
  go_upto_region 3 with fail
  obtain ⟨V2, hV2⟩ : ∃ V2, ((V.setCell ⟨g, 19, none⟩ (.int .i64 n)).setCell ⟨g, 20, none⟩ (.int .i64 v)) = V2 := ⟨_, rfl⟩
  rw [hV2]
  have hb2 : Bl u V2 [((rpl me o n v).arr, 43)] := by rw [← hV2, ← HG.out]; exact ((HV.out.put 0 19 rfl (.int .i64 n)).put 0 20 rfl (.int .i64 v))
  have HZ := Lib.hid (And.intro hb2 ((HS.out.go HK.out).go hb2.kept))
  clear hV2 hb2 y19 f19 y20 f20
  go_wp2_with (first
    | (refine load_w 43 (.tmp 9) rfl g rfl rfl (rpl me o n v).arr 23 (by rw [← HG.out]; exact HZ.out.1.blk 0 rfl) Tryz.underlying43 rfl info_pk ?_)
    | (refine wpList_store_row rfl 43 (.tmp 8) (.tmp 17) rfl (w.heap.size + 1) (rpl me o n v).arr rfl rfl 43 zeroP (HZ.out.2.blk 1 rfl) info_pk rfl (pk_one _) ?_))
  have hz := HZ.out.2.row 1 rfl (rpl me o n v).arr
  exact bodyPost_ret (results_cell_row rfl _ _ (w.heap.size + 1) 43 _ (0, 0) _ rfl (hz.blk 1 rfl) Tryz.underlying43 rfl info_pk) rfl ⟨rfl, hz.kept⟩


set_option maxRecDepth 100000 in
set_option maxHeartbeats 4000000 in
theorem more_any (me : Int) (o : Ow)  (q : Option Addr) (N c : Nat) (w : World) : Calls Tryz.prog 13 #[.int .i64 me, .agg (o.arr q N c)] w fun e w' => e = .returned (.agg (mre me o).arr) ∧ Kept w w' := by
  obtain ⟨A, hA⟩ : ∃ A, o.arr q N c = A := ⟨_, rfl⟩
  have sA : A.size = 19 := by rw [← hA]; rfl
  have C1 := Lib.hid (show ∀ u, Calls Tryz.prog 30 #[.int .i64 2, .int .i64 me, .agg A] u fun e w' => e = .returned (.agg (bck 2 me o).arr) ∧ Kept u w' from fun u => by rw [← hA]; exact back_any 2 me o q N c u)
  rw [hA]
  obtain ⟨W, hW⟩ : ∃ W, (w.alloc (.cells A 39)).alloc (.cells zeroP 43) = W := ⟨_, rfl⟩
  have hb : Bl w W [(A, 39), (zeroP, 43)] := hW ▸ Bl.two w A _ _ _
  have HW := Lib.hid hW
  have HS := Lib.hid hb
  clear hA hW hb
  go_enter Tryz.func13, Tryz.ntmps13
  go_upto_region 1 with fail
  rw [show (w.alloc (.cells A 39)).alloc (.cells #[.int .i64 0, .int .i64 0, .int .i64 0, .int .i64 0, .int .i64 0, .int .i64 0, .int .i64 0, .int .i64 0, .int .i64 0, .string ⟨#[]⟩, .int .i64 0, .int .i64 0, .int .i64 0, .int .i64 0, .int .i64 0, .int .i64 0, .int .i64 0, .int .i64 0, .int .i64 0, .int .i64 0, .int .i64 0, .bool false, .int .i64 0] 43) = W from HW.out]
  go_upto_region 2 with (first
    | (refine load_w 39 (.tmp 3) rfl w.heap.size rfl rfl A 19 (HS.out.blk 0 rfl) Tryz.underlying39 sA info_ow ?_)
    | (go_at_call 30; refine (C1.out _).mono ?_; rintro e u ⟨rfl, k⟩)
    | (refine store_new rfl 43 (.tmp 5) (.tmp 8) rfl u.heap.size (bck 2 me o).arr rfl rfl u _ rfl 23 info_pk rfl rfl (pk_one _) ?_))
  obtain ⟨V, hV⟩ : ∃ V, u.alloc (.cells (bck 2 me o).arr 43) = V := ⟨_, rfl⟩
  rw [hV]
  have hV0 : Bl u V [((bck 2 me o).arr, 43)] := by rw [← hV]; exact Bl.one u _ _
  obtain ⟨g, hg⟩ : ∃ g, u.heap.size = g := ⟨_, rfl⟩
  rw [hg]
  have y21 : V.cell? ⟨g, 21, none⟩ = some (.bool false) := by rw [← hg]; exact hV0.cell 0 21 rfl
  have f21 : V.frozen? ⟨g, 21, none⟩ = false := by rw [← hg]; exact hV0.free 0 21 rfl
  have HV := Lib.hid hV0
  have HG := Lib.hid hg
  have HK := Lib.hid k
  clear hV hg hV0 k
  go_upto_region 3 with fail
  obtain ⟨V2, hV2⟩ : ∃ V2, (V.setCell ⟨g, 21, none⟩ (.bool true)) = V2 := ⟨_, rfl⟩
  rw [hV2]
  have hb2 : Bl u V2 [((mre me o).arr, 43)] := by rw [← hV2, ← HG.out]; exact (HV.out.put 0 21 rfl (.bool true))
  have HZ := Lib.hid (And.intro hb2 ((HS.out.go HK.out).go hb2.kept))
  clear hV2 hb2 y21 f21
  go_wp2_with (first
    | (refine load_w 43 (.tmp 5) rfl g rfl rfl (mre me o).arr 23 (by rw [← HG.out]; exact HZ.out.1.blk 0 rfl) Tryz.underlying43 rfl info_pk ?_)
    | (refine wpList_store_row rfl 43 (.tmp 4) (.tmp 10) rfl (w.heap.size + 1) (mre me o).arr rfl rfl 43 zeroP (HZ.out.2.blk 1 rfl) info_pk rfl (pk_one _) ?_))
  have hz := HZ.out.2.row 1 rfl (mre me o).arr
  exact bodyPost_ret (results_cell_row rfl _ _ (w.heap.size + 1) 43 _ (0, 0) _ rfl (hz.blk 1 rfl) Tryz.underlying43 rfl info_pk) rfl ⟨rfl, hz.kept⟩


set_option maxRecDepth 100000 in
set_option maxHeartbeats 4000000 in
theorem refuse_any (me : Int) (o : Ow) (d : Int) (q : Option Addr) (N c : Nat) (w : World) : Calls Tryz.prog 14 #[.int .i64 me, .agg (o.arr q N c), .int .i64 d] w fun e w' => e = .returned (.agg (rfs me o d).arr) ∧ Kept w w' := by
  obtain ⟨A, hA⟩ : ∃ A, o.arr q N c = A := ⟨_, rfl⟩
  have sA : A.size = 19 := by rw [← hA]; rfl
  have C1 := Lib.hid (show ∀ u, Calls Tryz.prog 30 #[.int .i64 5, .int .i64 me, .agg A] u fun e w' => e = .returned (.agg (bck 5 me o).arr) ∧ Kept u w' from fun u => by rw [← hA]; exact back_any 5 me o q N c u)
  rw [hA]
  obtain ⟨W, hW⟩ : ∃ W, (w.alloc (.cells A 39)).alloc (.cells zeroP 43) = W := ⟨_, rfl⟩
  have hb : Bl w W [(A, 39), (zeroP, 43)] := hW ▸ Bl.two w A _ _ _
  have HW := Lib.hid hW
  have HS := Lib.hid hb
  clear hA hW hb
  go_enter Tryz.func14, Tryz.ntmps14
  go_upto_region 1 with fail
  rw [show (w.alloc (.cells A 39)).alloc (.cells #[.int .i64 0, .int .i64 0, .int .i64 0, .int .i64 0, .int .i64 0, .int .i64 0, .int .i64 0, .int .i64 0, .int .i64 0, .string ⟨#[]⟩, .int .i64 0, .int .i64 0, .int .i64 0, .int .i64 0, .int .i64 0, .int .i64 0, .int .i64 0, .int .i64 0, .int .i64 0, .int .i64 0, .int .i64 0, .bool false, .int .i64 0] 43) = W from HW.out]
  go_upto_region 2 with (first
    | (refine load_w 39 (.tmp 4) rfl w.heap.size rfl rfl A 19 (HS.out.blk 0 rfl) Tryz.underlying39 sA info_ow ?_)
    | (go_at_call 30; refine (C1.out _).mono ?_; rintro e u ⟨rfl, k⟩)
    | (refine store_new rfl 43 (.tmp 7) (.tmp 10) rfl u.heap.size (bck 5 me o).arr rfl rfl u _ rfl 23 info_pk rfl rfl (pk_one _) ?_))
  obtain ⟨V, hV⟩ : ∃ V, u.alloc (.cells (bck 5 me o).arr 43) = V := ⟨_, rfl⟩
  rw [hV]
  have hV0 : Bl u V [((bck 5 me o).arr, 43)] := by rw [← hV]; exact Bl.one u _ _
  obtain ⟨g, hg⟩ : ∃ g, u.heap.size = g := ⟨_, rfl⟩
  rw [hg]
  have y22 : V.cell? ⟨g, 22, none⟩ = some (.int .i64 0) := by rw [← hg]; exact hV0.cell 0 22 rfl
  have f22 : V.frozen? ⟨g, 22, none⟩ = false := by rw [← hg]; exact hV0.free 0 22 rfl
  have HV := Lib.hid hV0
  have HG := Lib.hid hg
  have HK := Lib.hid k
  clear hV hg hV0 k
  go_upto_region 3 with fail
  obtain ⟨V2, hV2⟩ : ∃ V2, (V.setCell ⟨g, 22, none⟩ (.int .i64 d)) = V2 := ⟨_, rfl⟩
  rw [hV2]
  have hb2 : Bl u V2 [((rfs me o d).arr, 43)] := by rw [← hV2, ← HG.out]; exact (HV.out.put 0 22 rfl (.int .i64 d))
  have HZ := Lib.hid (And.intro hb2 ((HS.out.go HK.out).go hb2.kept))
  clear hV2 hb2 y22 f22
  go_wp2_with (first
    | (refine load_w 43 (.tmp 7) rfl g rfl rfl (rfs me o d).arr 23 (by rw [← HG.out]; exact HZ.out.1.blk 0 rfl) Tryz.underlying43 rfl info_pk ?_)
    | (refine wpList_store_row rfl 43 (.tmp 6) (.tmp 13) rfl (w.heap.size + 1) (rfs me o d).arr rfl rfl 43 zeroP (HZ.out.2.blk 1 rfl) info_pk rfl (pk_one _) ?_))
  have hz := HZ.out.2.row 1 rfl (rfs me o d).arr
  exact bodyPost_ret (results_cell_row rfl _ _ (w.heap.size + 1) 43 _ (0, 0) _ rfl (hz.blk 1 rfl) Tryz.underlying43 rfl info_pk) rfl ⟨rfl, hz.kept⟩


end Go.Proofs.YtncdiggejofbbaaGreatDoor.Sn

namespace Go.Proofs.YtncdiggejofbbaaGreatDoor.Sn
open Go.RowKit Go.Sort Go.Shelf St PkM Ad Po Blk Eqs
open Go.Proofs.YtncdiggejofbbaaGreatDoor.Cl
open Go.Proofs.YtncdiggejofbbaaGreatDoor.Ow
open Go.Proofs.YtncdiggejofbbaaGreatDoor.Au (Stab stab_and)
open Go.Proofs.YtncdiggejofbbaaGreatDoor.Ad (load_w load_l store_new)
set_option linter.unusedVariables false

theorem blk_stab {g : Nat} {o : Obj} : Stab (fun u => u.heap[g]? = some o) := fun u u' h k => kept_at k h
theorem farc {w W : World} {L : List (Array Value × TypeId)} (h : Bl w W L) {X : Nat} (hX : w.heap.size + L.length ≤ X) (k : Nat) (u : Value) : Bl w (W.setCell ⟨X, k, none⟩ u) L := by
  refine ⟨Below.setCell h.kept (by show w.heap.size ≤ X; omega) _, fun j x hx => ?_⟩
  have hj : j < L.length := (List.getElem?_eq_some_iff.1 hx).1
  rw [Below.heap_setCell _ _ _ _ (by show w.heap.size + j ≠ X; omega)]
  exact h.at' j x hx

theorem hop_size (o : Ow) (now : Int) : (hopS o now).size ≤ 20 := by
  have h := Tm.enc_size (Tk.sub_lo o.dl now) (Tk.sub_hi o.dl now)
  obtain ⟨m, h1, h2, h3, _⟩ := h
  have : (hopS o now).size = (Tm.enc (Tk.sub o.dl now)).length := by unfold hopS Bu.str Bu.hop; simp [ByteArray.size]
  omega
/-- the packet with the hop, the program, the root and the key of who asks -/
def ask0 (me : Int) (o : Ow) (x : Cl) : Pk := ⟨1, me, x.to, x.n, x.i, x.s, x.att, wrap64 (o.hp + 1), 0, ⟨#[]⟩, 0, x.pr, o.rn, o.ri, o.rs, o.kn, o.ki, o.ks, o.ka, 0, 0, false, 0⟩

set_option maxRecDepth 100000 in
set_option maxHeartbeats 4000000 in
theorem asks_any (me : Int) (o : Ow) (x : Cl) (now : Int) (q : Option Addr) (N c : Nat) (w : World) (ht : Tm.Tab w) : Calls Tryz.prog 24 #[.int .i64 me, .agg (o.arr q N c), .agg x.arr, .int .i64 now] w fun e w' => e = .returned (.agg (ask me o x now (hopS o now)).arr) ∧ Kept w w' := by
  obtain ⟨A, hA⟩ : ∃ A, o.arr q N c = A := ⟨_, rfl⟩
  obtain ⟨X, hX⟩ : ∃ X, x.arr = X := ⟨_, rfl⟩
  have sX : X.size = 13 := by rw [← hX]; rfl
  have x4 : X[4]? = some (.int .i64 x.pr) := by rw [← hX]; rfl
  have c0 : A[0]? = some (.int .i64 o.kn) := by rw [← hA]; rfl
  have c1 : A[1]? = some (.int .i64 o.ki) := by rw [← hA]; rfl
  have c2 : A[2]? = some (.int .i64 o.ks) := by rw [← hA]; rfl
  have c3 : A[3]? = some (.int .i64 o.ka) := by rw [← hA]; rfl
  have c4 : A[4]? = some (.int .i64 o.rn) := by rw [← hA]; rfl
  have c5 : A[5]? = some (.int .i64 o.ri) := by rw [← hA]; rfl
  have c6 : A[6]? = some (.int .i64 o.rs) := by rw [← hA]; rfl
  have c12 : A[12]? = some (.int .i64 o.hp) := by rw [← hA]; rfl
  have c13 : A[13]? = some (.int .i64 o.dl) := by rw [← hA]; rfl
  have c14 : A[14]? = some (.int .i64 o.un) := by rw [← hA]; rfl
  have C1 := Lib.hid (show ∀ u, Calls Tryz.prog 27 #[.int .i64 1, .int .i64 me, .agg X] u fun e w' => e = .returned (.agg (onw 1 me x).arr) ∧ Kept u w' from fun u => by rw [← hX]; exact onward_any 1 me x u)
  obtain ⟨z1, hz1⟩ : ∃ z, Tk.clamp now = z := ⟨_, rfl⟩
  obtain ⟨z2, hz2⟩ : ∃ z, Tk.clamp o.un = z := ⟨_, rfl⟩
  obtain ⟨s, hs⟩ : ∃ s, hopS o now = s := ⟨_, rfl⟩
  have C2 := Lib.hid (show ∀ u, Calls Tryz.prog 29 #[.int .i64 now] u fun e w' => e = .returned (.int .i64 z1) ∧ Kept u w' from fun u => by rw [← hz1]; exact (Tk.clamp_any _ u).mono fun e w' h => ⟨h.1, h.2 ▸ Kept.refl _⟩)
  have C3 := Lib.hid (show ∀ u, Calls Tryz.prog 29 #[.int .i64 o.un] u fun e w' => e = .returned (.int .i64 z2) ∧ Kept u w' from fun u => by rw [← hz2]; exact (Tk.clamp_any _ u).mono fun e w' h => ⟨h.1, h.2 ▸ Kept.refl _⟩)
  have C4 := Lib.hid (show ∀ u, Tm.Tab u → Calls Tryz.prog 42 #[.int .i64 o.dl, .int .i64 now] u fun e w' => e = .returned (.string s) ∧ Kept u w' from fun u hu => by rw [← hs]; exact Bu.hop_any _ _ u hu)
  obtain ⟨R, hR⟩ : ∃ R, ask me o x now s = R := ⟨_, rfl⟩
  have HR : Hid (R = { ask0 me o x with stamp := z1, tm := s, til := z2 }) := Lib.hid (by rw [← hR, ← hz1, ← hz2]; rfl)
  rw [hA, hX, hs, hR]
  clear hR
  obtain ⟨W, hW⟩ : ∃ W, ((w.alloc (.cells A 39)).alloc (.cells X 41)).alloc (.cells zeroP 43) = W := ⟨_, rfl⟩
  have hb : Bl w W [(A, 39), (X, 41), (zeroP, 43)] := hW ▸ Bl.three w A _ _ _ _ _
  have HW := Lib.hid hW
  have HS := Lib.hid hb
  have HT := Lib.hid ht
  clear hA hX hW hb hz1 hz2 hs ht
  go_enter Tryz.func24, Tryz.ntmps24
  go_upto_region 1 with fail
  rw [show ((w.alloc (.cells A 39)).alloc (.cells X 41)).alloc (.cells #[.int .i64 0, .int .i64 0, .int .i64 0, .int .i64 0, .int .i64 0, .int .i64 0, .int .i64 0, .int .i64 0, .int .i64 0, .string ⟨#[]⟩, .int .i64 0, .int .i64 0, .int .i64 0, .int .i64 0, .int .i64 0, .int .i64 0, .int .i64 0, .int .i64 0, .int .i64 0, .int .i64 0, .int .i64 0, .bool false, .int .i64 0] 43) = W from HW.out]
  go_upto_region 2 with (first
    | (refine load_w 41 (.tmp 6) rfl (w.heap.size + 1) rfl rfl X 13 (HS.out.blk 1 rfl) Tryz.underlying41 sX info_cl ?_)
    | (go_at_call 27; refine (C1.out _).mono ?_; rintro e u ⟨rfl, k⟩)
    | (refine store_new rfl 43 (.tmp 9) (.tmp 12) rfl u.heap.size (onw 1 me x).arr rfl rfl u _ rfl 23 info_pk rfl rfl (pk_one _) ?_))
  obtain ⟨V, hV⟩ : ∃ V, u.alloc (.cells (onw 1 me x).arr 43) = V := ⟨_, rfl⟩
  rw [hV]
  have hV0 : Bl u V [((onw 1 me x).arr, 43)] := by rw [← hV]; exact Bl.one u _ _
  have hVW : Bl w V [(A, 39), (X, 41), (zeroP, 43)] := (HS.out.go k).go hV0.kept
  obtain ⟨g, hg⟩ : ∃ g, u.heap.size = g := ⟨_, rfl⟩
  rw [hg]
  have hng : w.heap.size + 3 ≤ g := by rw [← hg]; have := (HS.out.go k).size; simpa using this
  have bV : V.heap[g]? = some (.cells (onw 1 me x).arr 43 (0, 0)) := by rw [← hg]; exact hV0.blk 0 rfl
  have HK := Lib.hid k
  clear hV hg hV0 k
  go_upto_region 3 with fail
  have hST : Stab (fun u => Bl w u [(A, 39), (X, 41), (zeroP, 43)] ∧ u.heap[g]? = some (.cells (onw 1 me x).arr 43 (0, 0))) ∧ ∀ u, (Bl w u [(A, 39), (X, 41), (zeroP, 43)] ∧ u.heap[g]? = some (.cells (onw 1 me x).arr 43 (0, 0))) → Bl w u [(A, 39), (X, 41), (zeroP, 43)] := ⟨stab_and bl_stab blk_stab, fun u h => h.1⟩
  have HVW := Lib.hid (And.intro hVW bV)
  clear hVW bV
  refine AvT.region (fun u => Bl w u [(A, 39), (X, 41), (zeroP, 43)]) (fun u => Bl w u [(A, 39), (X, 41), (zeroP, 43)] ∧ u.heap[g]? = some (.cells (onw 1 me x).arr 43 (0, 0))) (by kernel_rfl) (hST.1 _ _ HVW.out (Kept.refl _).drew) ?_
  refine AvT.take 0 (some 13) (v := ?_) rfl rfl (by kernel_rfl) (by kernel_rfl) (by kernel_rfl) (fun _ _ _ h => h) hST (Au.yq_run (by rfl) (fun u hu => ?_)) ?_
  rotate_left
  · (clear hu; go_simp; try with_reducible rfl)
  simp only [Act.put, List.setIfInBounds_toArray, List.set_cons_zero, List.set_cons_succ]
  refine AvT.take 1 (some 14) rfl rfl (by kernel_rfl) (by kernel_rfl) (by kernel_rfl) (fun _ _ _ h => h) hST (Au.yq_load 3 (.tmp 13) rfl _ rfl (by rfl) (fun u hu => run_loadi ((hu.cell 0 12 rfl).trans c12))) ?_
  simp only [Act.put, List.setIfInBounds_toArray, List.set_cons_zero, List.set_cons_succ]
  refine AvT.take 2 (some 15) (v := .int .i64 (wrap64 (o.hp + 1))) rfl rfl (by kernel_rfl) (by kernel_rfl) (by kernel_rfl) (fun _ _ _ h => h) hST (Au.yq_run (by rfl) (fun u hu => ?_)) ?_
  · (clear hu; go_simp; try simp only [IntWalk.i64_left])
  simp only [Act.put, List.setIfInBounds_toArray, List.set_cons_zero, List.set_cons_succ]
  refine AvT.take 3 (some 16) (v := ?_) rfl rfl (by kernel_rfl) (by kernel_rfl) (by kernel_rfl) (fun _ _ _ h => h) hST (Au.yq_run (by rfl) (fun u hu => ?_)) ?_
  rotate_left
  · (clear hu; go_simp; try with_reducible rfl)
  simp only [Act.put, List.setIfInBounds_toArray, List.set_cons_zero, List.set_cons_succ]
  refine AvT.take 4 (some 17) rfl rfl (by kernel_rfl) (by kernel_rfl) (by kernel_rfl) (fun _ _ _ h => h) hST (Au.yq_load 3 (.tmp 16) rfl _ rfl (by rfl) (fun u hu => run_loadi ((hu.cell 1 4 rfl).trans x4))) ?_
  simp only [Act.put, List.setIfInBounds_toArray, List.set_cons_zero, List.set_cons_succ]
  refine AvT.take 5 (some 18) (v := ?_) rfl rfl (by kernel_rfl) (by kernel_rfl) (by kernel_rfl) (fun _ _ _ h => h) hST (Au.yq_run (by rfl) (fun u hu => ?_)) ?_
  rotate_left
  · (clear hu; go_simp; try with_reducible rfl)
  simp only [Act.put, List.setIfInBounds_toArray, List.set_cons_zero, List.set_cons_succ]
  refine AvT.take 6 (some 19) rfl rfl (by kernel_rfl) (by kernel_rfl) (by kernel_rfl) (fun _ _ _ h => h) hST (Au.yq_load 26 (.tmp 18) rfl _ rfl (by rfl) (fun u hu => load_id ((hu.cell 0 4 rfl).trans c4) ((hu.cell 0 5 rfl).trans c5) ((hu.cell 0 6 rfl).trans c6))) ?_
  simp only [Act.put, List.setIfInBounds_toArray, List.set_cons_zero, List.set_cons_succ]
  refine AvT.take 7 (some 20) (v := ?_) rfl rfl (by kernel_rfl) (by kernel_rfl) (by kernel_rfl) (fun _ _ _ h => h) hST (Au.yq_run (by rfl) (fun u hu => ?_)) ?_
  rotate_left
  · (clear hu; go_simp; try with_reducible rfl)
  simp only [Act.put, List.setIfInBounds_toArray, List.set_cons_zero, List.set_cons_succ]
  refine AvT.take 8 (some 21) rfl rfl (by kernel_rfl) (by kernel_rfl) (by kernel_rfl) (fun _ _ _ h => h) hST (Au.yq_load 28 (.tmp 20) rfl _ rfl (by rfl) (fun u hu => load_key ((hu.cell 0 0 rfl).trans c0) ((hu.cell 0 1 rfl).trans c1) ((hu.cell 0 2 rfl).trans c2) ((hu.cell 0 3 rfl).trans c3))) ?_
  simp only [Act.put, List.setIfInBounds_toArray, List.set_cons_zero, List.set_cons_succ]
  refine AvT.take 9 (some 22) (v := ?_) rfl rfl (by kernel_rfl) (by kernel_rfl) (by kernel_rfl) (fun _ _ _ h => h) hST (Au.yq_run (by rfl) (fun u hu => ?_)) ?_
  rotate_left
  · (clear hu; go_simp; try with_reducible rfl)
  simp only [Act.put, List.setIfInBounds_toArray, List.set_cons_zero, List.set_cons_succ]
  refine AvT.step 10 rfl (by kernel_rfl) (fun v hv K hK => ?_)
  have y7 : v.cell? ⟨g, 7, none⟩ = some (.int .i64 0) := blk_cell hv.2 7
  have f7 : v.frozen? ⟨g, 7, none⟩ = false := blk_free hv.2 7
  rw [if_pos (by rfl)]
  go_simp
  refine hK.out (fun u => Bl w u [(A, 39), (X, 41), (zeroP, 43)] ∧ u.heap[g]? = some (.cells ({ onw 1 me x with hop := wrap64 (o.hp + 1) } : Pk).arr 43 (0, 0))) _ _ ⟨(farc hv.1 hng 7 (.int .i64 (wrap64 (o.hp + 1)))), (blk_set hv.2 7 (.int .i64 (wrap64 (o.hp + 1))))⟩ (stab_and bl_stab blk_stab) (fun u h => h.1) ?_
  clear hK K hv y7 f7
  clear hST
  have hST : Stab (fun u => Bl w u [(A, 39), (X, 41), (zeroP, 43)] ∧ u.heap[g]? = some (.cells ({ onw 1 me x with hop := wrap64 (o.hp + 1) } : Pk).arr 43 (0, 0))) ∧ ∀ u, (Bl w u [(A, 39), (X, 41), (zeroP, 43)] ∧ u.heap[g]? = some (.cells ({ onw 1 me x with hop := wrap64 (o.hp + 1) } : Pk).arr 43 (0, 0))) → Bl w u [(A, 39), (X, 41), (zeroP, 43)] := ⟨stab_and bl_stab blk_stab, fun u h => h.1⟩
  refine AvT.take 11 (some 23) (v := ?_) rfl rfl (by kernel_rfl) (by kernel_rfl) (by kernel_rfl) (fun _ _ _ h => h) hST (Au.yq_run (by rfl) (fun u hu => ?_)) ?_
  rotate_left
  · (clear hu; go_simp; try with_reducible rfl)
  simp only [Act.put, List.setIfInBounds_toArray, List.set_cons_zero, List.set_cons_succ]
  refine AvT.step 12 rfl (by kernel_rfl) (fun v hv K hK => ?_)
  have y11 : v.cell? ⟨g, 11, none⟩ = some (.int .i64 0) := blk_cell hv.2 11
  have f11 : v.frozen? ⟨g, 11, none⟩ = false := blk_free hv.2 11
  rw [if_pos (by rfl)]
  go_simp
  refine hK.out (fun u => Bl w u [(A, 39), (X, 41), (zeroP, 43)] ∧ u.heap[g]? = some (.cells ({ onw 1 me x with hop := wrap64 (o.hp + 1), prog := x.pr } : Pk).arr 43 (0, 0))) _ _ ⟨(farc hv.1 hng 11 (.int .i64 (x.pr))), (blk_set hv.2 11 (.int .i64 (x.pr)))⟩ (stab_and bl_stab blk_stab) (fun u h => h.1) ?_
  clear hK K hv y11 f11
  clear hST
  have hST : Stab (fun u => Bl w u [(A, 39), (X, 41), (zeroP, 43)] ∧ u.heap[g]? = some (.cells ({ onw 1 me x with hop := wrap64 (o.hp + 1), prog := x.pr } : Pk).arr 43 (0, 0))) ∧ ∀ u, (Bl w u [(A, 39), (X, 41), (zeroP, 43)] ∧ u.heap[g]? = some (.cells ({ onw 1 me x with hop := wrap64 (o.hp + 1), prog := x.pr } : Pk).arr 43 (0, 0))) → Bl w u [(A, 39), (X, 41), (zeroP, 43)] := ⟨stab_and bl_stab blk_stab, fun u h => h.1⟩
  refine AvT.take 13 (some 24) (v := ?_) rfl rfl (by kernel_rfl) (by kernel_rfl) (by kernel_rfl) (fun _ _ _ h => h) hST (Au.yq_run (by rfl) (fun u hu => ?_)) ?_
  rotate_left
  · (clear hu; go_simp; try with_reducible rfl)
  simp only [Act.put, List.setIfInBounds_toArray, List.set_cons_zero, List.set_cons_succ]
  refine AvT.step 14 rfl (by kernel_rfl) (fun v hv K hK => ?_)
  have y12 : v.cell? ⟨g, 12, none⟩ = some (.int .i64 0) := blk_cell hv.2 12
  have f12 : v.frozen? ⟨g, 12, none⟩ = false := blk_free hv.2 12
  have y13 : v.cell? ⟨g, 13, none⟩ = some (.int .i64 0) := blk_cell hv.2 13
  have f13 : v.frozen? ⟨g, 13, none⟩ = false := blk_free hv.2 13
  have y14 : v.cell? ⟨g, 14, none⟩ = some (.int .i64 0) := blk_cell hv.2 14
  have f14 : v.frozen? ⟨g, 14, none⟩ = false := blk_free hv.2 14
  rw [if_pos (by rfl)]
  go_simp
  refine hK.out (fun u => Bl w u [(A, 39), (X, 41), (zeroP, 43)] ∧ u.heap[g]? = some (.cells ({ onw 1 me x with hop := wrap64 (o.hp + 1), prog := x.pr, rn := o.rn, ri := o.ri, rs := o.rs } : Pk).arr 43 (0, 0))) _ _ ⟨(farc (farc (farc hv.1 hng 12 (.int .i64 (o.rn))) hng 13 (.int .i64 (o.ri))) hng 14 (.int .i64 (o.rs))), (blk_set (blk_set (blk_set hv.2 12 (.int .i64 (o.rn))) 13 (.int .i64 (o.ri))) 14 (.int .i64 (o.rs)))⟩ (stab_and bl_stab blk_stab) (fun u h => h.1) ?_
  clear hK K hv y12 f12 y13 f13 y14 f14
  clear hST
  have hST : Stab (fun u => Bl w u [(A, 39), (X, 41), (zeroP, 43)] ∧ u.heap[g]? = some (.cells ({ onw 1 me x with hop := wrap64 (o.hp + 1), prog := x.pr, rn := o.rn, ri := o.ri, rs := o.rs } : Pk).arr 43 (0, 0))) ∧ ∀ u, (Bl w u [(A, 39), (X, 41), (zeroP, 43)] ∧ u.heap[g]? = some (.cells ({ onw 1 me x with hop := wrap64 (o.hp + 1), prog := x.pr, rn := o.rn, ri := o.ri, rs := o.rs } : Pk).arr 43 (0, 0))) → Bl w u [(A, 39), (X, 41), (zeroP, 43)] := ⟨stab_and bl_stab blk_stab, fun u h => h.1⟩
  refine AvT.take 15 (some 25) (v := ?_) rfl rfl (by kernel_rfl) (by kernel_rfl) (by kernel_rfl) (fun _ _ _ h => h) hST (Au.yq_run (by rfl) (fun u hu => ?_)) ?_
  rotate_left
  · (clear hu; go_simp; try with_reducible rfl)
  simp only [Act.put, List.setIfInBounds_toArray, List.set_cons_zero, List.set_cons_succ]
  refine AvT.step 16 rfl (by kernel_rfl) (fun v hv K hK => ?_)
  have y15 : v.cell? ⟨g, 15, none⟩ = some (.int .i64 0) := blk_cell hv.2 15
  have f15 : v.frozen? ⟨g, 15, none⟩ = false := blk_free hv.2 15
  have y16 : v.cell? ⟨g, 16, none⟩ = some (.int .i64 0) := blk_cell hv.2 16
  have f16 : v.frozen? ⟨g, 16, none⟩ = false := blk_free hv.2 16
  have y17 : v.cell? ⟨g, 17, none⟩ = some (.int .i64 0) := blk_cell hv.2 17
  have f17 : v.frozen? ⟨g, 17, none⟩ = false := blk_free hv.2 17
  have y18 : v.cell? ⟨g, 18, none⟩ = some (.int .i64 0) := blk_cell hv.2 18
  have f18 : v.frozen? ⟨g, 18, none⟩ = false := blk_free hv.2 18
  rw [if_pos (by rfl)]
  go_simp
  refine hK.out (fun u => Bl w u [(A, 39), (X, 41), (zeroP, 43)] ∧ u.heap[g]? = some (.cells (ask0 me o x : Pk).arr 43 (0, 0))) _ _ ⟨(farc (farc (farc (farc hv.1 hng 15 (.int .i64 (o.kn))) hng 16 (.int .i64 (o.ki))) hng 17 (.int .i64 (o.ks))) hng 18 (.int .i64 (o.ka))), (blk_set (blk_set (blk_set (blk_set hv.2 15 (.int .i64 (o.kn))) 16 (.int .i64 (o.ki))) 17 (.int .i64 (o.ks))) 18 (.int .i64 (o.ka)))⟩ (stab_and bl_stab blk_stab) (fun u h => h.1) ?_
  clear hK K hv y15 f15 y16 f16 y17 f17 y18 f18
  clear hST
  have hST : Stab (fun u => Bl w u [(A, 39), (X, 41), (zeroP, 43)] ∧ u.heap[g]? = some (.cells (ask0 me o x : Pk).arr 43 (0, 0))) ∧ ∀ u, (Bl w u [(A, 39), (X, 41), (zeroP, 43)] ∧ u.heap[g]? = some (.cells (ask0 me o x : Pk).arr 43 (0, 0))) → Bl w u [(A, 39), (X, 41), (zeroP, 43)] := ⟨stab_and bl_stab blk_stab, fun u h => h.1⟩
  refine AvT.done (by kernel_rfl) (fun V2 hV2 => ?_)
  have H2 := Lib.hid hV2
  have ht2 : Tm.Tab V2 := HT.out.kept hV2.1.kept
  have HT2 := Lib.hid ht2
  clear hST hV2 HVW ht2
  go_upto_region 3 with fail
  have hSt : Stab (fun u => Bl w u [(A, 39), (X, 41), (zeroP, 43)] ∧ u.heap[g]? = some (.cells (ask0 me o x).arr 43 (0, 0)) ∧ Tm.Tab u) := stab_and bl_stab (stab_and blk_stab (fun u u' h k => h.kept k))
  refine Av.region 10 (fun u => Bl w u [(A, 39), (X, 41), (zeroP, 43)] ∧ u.heap[g]? = some (.cells (ask0 me o x).arr 43 (0, 0)) ∧ Tm.Tab u) (by kernel_rfl) (⟨H2.out.1.go (Kept.refl _).drew, kept_at (Kept.refl _).drew H2.out.2, HT2.out.kept (Kept.refl _).drew⟩) ?_
  refine Av.take 0 (some 26) (v := ?_) rfl rfl (by kernel_rfl) (by kernel_rfl) (by kernel_rfl) (by kernel_rfl) (fun _ _ _ h => h) hSt (Au.yq_run (by rfl) (fun u hu => ?_)) ?_
  rotate_left
  · (clear hu; go_simp; try with_reducible rfl)
  simp only [Act.put, List.setIfInBounds_toArray, List.set_cons_zero, List.set_cons_succ]
  refine Av.take 1 (some 27) rfl rfl (by kernel_rfl) (by kernel_rfl) (by kernel_rfl) (by kernel_rfl) (fun _ _ _ h => h) hSt (Au.yq_call 29 _ (by rfl) (fun u => by go_simp) (fun u hu => C2.out u)) ?_
  simp only [Act.put, List.setIfInBounds_toArray, List.set_cons_zero, List.set_cons_succ]
  refine Av.take 2 (some 28) (v := ?_) rfl rfl (by kernel_rfl) (by kernel_rfl) (by kernel_rfl) (by kernel_rfl) (fun _ _ _ h => h) hSt (Au.yq_run (by rfl) (fun u hu => ?_)) ?_
  rotate_left
  · (clear hu; go_simp; try with_reducible rfl)
  simp only [Act.put, List.setIfInBounds_toArray, List.set_cons_zero, List.set_cons_succ]
  refine Av.take 3 (some 29) rfl rfl (by kernel_rfl) (by kernel_rfl) (by kernel_rfl) (by kernel_rfl) (fun _ _ _ h => h) hSt (Au.yq_load 3 (.tmp 28) rfl _ rfl (by rfl) (fun u hu => run_loadi ((hu.1.cell 0 13 rfl).trans c13))) ?_
  simp only [Act.put, List.setIfInBounds_toArray, List.set_cons_zero, List.set_cons_succ]
  refine Av.take 4 (some 30) (v := ?_) rfl rfl (by kernel_rfl) (by kernel_rfl) (by kernel_rfl) (by kernel_rfl) (fun _ _ _ h => h) hSt (Au.yq_run (by rfl) (fun u hu => ?_)) ?_
  rotate_left
  · (clear hu; go_simp; try with_reducible rfl)
  simp only [Act.put, List.setIfInBounds_toArray, List.set_cons_zero, List.set_cons_succ]
  refine Av.take 5 (some 31) rfl rfl (by kernel_rfl) (by kernel_rfl) (by kernel_rfl) (by kernel_rfl) (fun _ _ _ h => h) hSt (Au.yq_call 42 _ (by rfl) (fun u => by go_simp) (fun u hu => C4.out u hu.2.2)) ?_
  simp only [Act.put, List.setIfInBounds_toArray, List.set_cons_zero, List.set_cons_succ]
  refine Av.take 6 (some 32) (v := ?_) rfl rfl (by kernel_rfl) (by kernel_rfl) (by kernel_rfl) (by kernel_rfl) (fun _ _ _ h => h) hSt (Au.yq_run (by rfl) (fun u hu => ?_)) ?_
  rotate_left
  · (clear hu; go_simp; try with_reducible rfl)
  simp only [Act.put, List.setIfInBounds_toArray, List.set_cons_zero, List.set_cons_succ]
  refine Av.take 7 (some 33) rfl rfl (by kernel_rfl) (by kernel_rfl) (by kernel_rfl) (by kernel_rfl) (fun _ _ _ h => h) hSt (Au.yq_load 3 (.tmp 32) rfl _ rfl (by rfl) (fun u hu => run_loadi ((hu.1.cell 0 14 rfl).trans c14))) ?_
  simp only [Act.put, List.setIfInBounds_toArray, List.set_cons_zero, List.set_cons_succ]
  refine Av.take 8 (some 34) rfl rfl (by kernel_rfl) (by kernel_rfl) (by kernel_rfl) (by kernel_rfl) (fun _ _ _ h => h) hSt (Au.yq_call 29 _ (by rfl) (fun u => by go_simp) (fun u hu => C3.out u)) ?_
  simp only [Act.put, List.setIfInBounds_toArray, List.set_cons_zero, List.set_cons_succ]
  refine Av.take 9 (some 35) (v := ?_) rfl rfl (by kernel_rfl) (by kernel_rfl) (by kernel_rfl) (by kernel_rfl) (fun _ _ _ h => h) hSt (Au.yq_run (by rfl) (fun u hu => ?_)) ?_
  rotate_left
  · (clear hu; go_simp; try with_reducible rfl)
  simp only [Act.put, List.setIfInBounds_toArray, List.set_cons_zero, List.set_cons_succ]
  refine Av.tail 10 rfl (by kernel_rfl) (by decide) (fun w5 hw5 K5 hK5 => ?_)
  have hB := hw5.1
  have hG := hw5.2.1
  obtain ⟨v, hv⟩ : ∃ v, w5 = v := ⟨_, rfl⟩
  rw [hv] at hB hG ⊢
  clear hw5 hv
  have y8 : v.cell? ⟨g, 8, none⟩ = some (.int .i64 0) := blk_cell hG 8
  have f8 : v.frozen? ⟨g, 8, none⟩ = false := blk_free hG 8
  rw [if_pos (by rfl)]
  go_simp
  have hB2 := farc hB hng 8 (.int .i64 z1)
  have hG2 : (v.setCell ⟨g, 8, none⟩ (.int .i64 z1)).heap[g]? = some (.cells ({ ask0 me o x with stamp := z1 } : Pk).arr 43 (0, 0)) := blk_set hG 8 (.int .i64 z1)
  refine hK5.out _ _ ?_
  clear hK5 K5 y8 f8 hB hG
  generalize v.setCell ⟨g, 8, none⟩ (.int .i64 z1) = v' at hB2 hG2 ⊢
  obtain ⟨v, hv⟩ : ∃ v, v' = v := ⟨_, rfl⟩
  rw [hv] at hB2 hG2 ⊢
  clear hv
  have hB := hB2
  have hG := hG2
  clear hB2 hG2
  refine Av.tail 11 rfl (by kernel_rfl) (by decide) (fun w5 hw5 K5 hK5 => ?_)
  subst hw5
  rw [if_pos (by rfl)]
  go_simp
  refine hK5.out _ _ ?_
  clear hK5 K5
  refine Av.tail 12 rfl (by kernel_rfl) (by decide) (fun w5 hw5 K5 hK5 => ?_)
  subst hw5
  have y9 : v.cell? ⟨g, 9, none⟩ = some (.string ⟨#[]⟩) := blk_cell hG 9
  have f9 : v.frozen? ⟨g, 9, none⟩ = false := blk_free hG 9
  rw [if_pos (by rfl)]
  go_simp
  have hB2 := farc hB hng 9 (.string s)
  have hG2 : (v.setCell ⟨g, 9, none⟩ (.string s)).heap[g]? = some (.cells ({ ask0 me o x with stamp := z1, tm := s } : Pk).arr 43 (0, 0)) := blk_set hG 9 (.string s)
  refine hK5.out _ _ ?_
  clear hK5 K5 y9 f9 hB hG
  generalize v.setCell ⟨g, 9, none⟩ (.string s) = v' at hB2 hG2 ⊢
  obtain ⟨v, hv⟩ : ∃ v, v' = v := ⟨_, rfl⟩
  rw [hv] at hB2 hG2 ⊢
  clear hv
  have hB := hB2
  have hG := hG2
  clear hB2 hG2
  refine Av.tail 13 rfl (by kernel_rfl) (by decide) (fun w5 hw5 K5 hK5 => ?_)
  subst hw5
  rw [if_pos (by rfl)]
  go_simp
  refine hK5.out _ _ ?_
  clear hK5 K5
  refine Av.tail 14 rfl (by kernel_rfl) (by decide) (fun w5 hw5 K5 hK5 => ?_)
  subst hw5
  have y10 : v.cell? ⟨g, 10, none⟩ = some (.int .i64 0) := blk_cell hG 10
  have f10 : v.frozen? ⟨g, 10, none⟩ = false := blk_free hG 10
  rw [if_pos (by rfl)]
  go_simp
  have hB2 := farc hB hng 10 (.int .i64 z2)
  have hG2 : (v.setCell ⟨g, 10, none⟩ (.int .i64 z2)).heap[g]? = some (.cells ({ ask0 me o x with stamp := z1, tm := s, til := z2 } : Pk).arr 43 (0, 0)) := blk_set hG 10 (.int .i64 z2)
  refine hK5.out _ _ ?_
  clear hK5 K5 y10 f10 hB hG
  generalize v.setCell ⟨g, 10, none⟩ (.int .i64 z2) = v' at hB2 hG2 ⊢
  obtain ⟨v, hv⟩ : ∃ v, v' = v := ⟨_, rfl⟩
  rw [hv] at hB2 hG2 ⊢
  clear hv
  have hB := hB2
  have hG := hG2
  clear hB2 hG2
  refine Av.done (by kernel_rfl) (fun u8 hu => ?_)
  subst hu
  have HZ := Lib.hid (And.intro hB hG)
  clear hB hG H2 HT2
  rw [← HR.out] at HZ
  go_wp2_with (first
    | (refine load_w 43 (.tmp 9) rfl g rfl rfl R.arr 23 HZ.out.2 Tryz.underlying43 rfl info_pk ?_)
    | (refine wpList_store_row rfl 43 (.tmp 8) (.tmp 38) rfl (w.heap.size + 1 + 1) R.arr rfl rfl 43 zeroP (HZ.out.1.blk 2 rfl) info_pk rfl (pk_one _) ?_))
  have hz := HZ.out.1.row 2 rfl R.arr
  exact bodyPost_ret (results_cell_row rfl _ _ (w.heap.size + 2) 43 _ (0, 0) _ rfl (hz.blk 2 rfl) Tryz.underlying43 rfl info_pk) rfl ⟨rfl, hz.kept⟩

end Go.Proofs.YtncdiggejofbbaaGreatDoor.Sn
