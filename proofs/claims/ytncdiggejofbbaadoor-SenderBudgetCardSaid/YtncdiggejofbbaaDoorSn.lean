/- Package sender, and the document's own answers for it: packets to and from. -/
import Derived.Test.YtncdiggejofbbaaDoorSnE
import Derived.Test.YtncdiggejofbbaaDoorAu
namespace Go.Proofs.YtncdiggejofbbaaDoor.Sn
open Go.RowKit Go.Sort Go.Shelf St PkM Ad Po Blk Eqs
open Go.Proofs.YtncdiggejofbbaaDoor.Cl
open Go.Proofs.YtncdiggejofbbaaDoor.Ow
open Go.Proofs.YtncdiggejofbbaaDoor.Au (Stab stab_and)
open Go.Proofs.YtncdiggejofbbaaDoor.Ad (load_w load_l store_new)
set_option linter.unusedVariables false

theorem bl_stab {w : World} {L : List (Array Value × TypeId)} : Stab (fun u => Bl w u L) := fun u u' h k => h.go k

set_option maxRecDepth 100000 in
set_option maxHeartbeats 4000000 in
theorem onward_any (k me : Int) (x : Cl) (w : World) : Calls Tryd.prog 60 #[.int .i64 k, .int .i64 me, .agg x.arr] w fun e w' => e = .returned (.agg (onw k me x).arr) ∧ Kept w w' := by
  obtain ⟨X, hX⟩ : ∃ X, x.arr = X := ⟨_, rfl⟩
  have x3 : X[3]? = some (.int .i64 x.to) := by rw [← hX]; rfl
  have sX : X.size = 13 := by rw [← hX]; rfl
  have C1 := Lib.hid (show ∀ u, Calls Tryd.prog 80 #[.agg X] u fun e w' => e = .returned (.agg #[.int .i64 x.n, .int .i64 x.i, .int .i64 x.s, .int .i64 x.att]) ∧ Kept u w' from fun u => by rw [← hX]; exact key_any x u)
  rw [hX]
  obtain ⟨W, hW⟩ : ∃ W, (w.alloc (.cells X 35)).alloc (.cells zeroP 37) = W := ⟨_, rfl⟩
  have hb : Bl w W [(X, 35), (zeroP, 37)] := hW ▸ Bl.two w X _ _ _
  have HW := Lib.hid hW
  have HS := Lib.hid hb
  have hSt : Stab (fun u => Bl w u [(X, 35), (zeroP, 37)]) := bl_stab
  clear hX hW hb
  go_enter Tryd.func60, Tryd.ntmps60
  go_upto_region 1 with fail
  rw [show (w.alloc (.cells X 35)).alloc (.cells #[.int .i64 0, .int .i64 0, .int .i64 0, .int .i64 0, .int .i64 0, .int .i64 0, .int .i64 0, .int .i64 0, .int .i64 0, .string ⟨#[]⟩, .int .i64 0, .int .i64 0, .int .i64 0, .int .i64 0, .int .i64 0, .int .i64 0, .int .i64 0, .int .i64 0, .int .i64 0, .int .i64 0, .int .i64 0, .bool false, .int .i64 0] 37) = W from HW.out]
  refine Av.region 7 (fun u => Bl w u [(X, 35), (zeroP, 37)]) (by kernel_rfl) (hSt _ _ HS.out (Kept.refl _).drew) ?_
  refine Av.take 0 (some 7) (v := ?_) rfl rfl (by kernel_rfl) (by kernel_rfl) (by kernel_rfl) (by kernel_rfl) (fun _ _ _ h => h) hSt (Au.yq_run (by rfl) (fun u hu => ?_)) ?_
  rotate_left
  · (clear hu; go_simp; try with_reducible rfl)
  simp only [Act.put, List.setIfInBounds_toArray, List.set_cons_zero, List.set_cons_succ]
  refine Av.take 1 (some 8) (v := ?_) rfl rfl (by kernel_rfl) (by kernel_rfl) (by kernel_rfl) (by kernel_rfl) (fun _ _ _ h => h) hSt (Au.yq_run (by rfl) (fun u hu => ?_)) ?_
  rotate_left
  · (clear hu; go_simp; try with_reducible rfl)
  simp only [Act.put, List.setIfInBounds_toArray, List.set_cons_zero, List.set_cons_succ]
  refine Av.take 2 (some 9) (v := ?_) rfl rfl (by kernel_rfl) (by kernel_rfl) (by kernel_rfl) (by kernel_rfl) (fun _ _ _ h => h) hSt (Au.yq_run (by rfl) (fun u hu => ?_)) ?_
  rotate_left
  · (clear hu; go_simp; try with_reducible rfl)
  simp only [Act.put, List.setIfInBounds_toArray, List.set_cons_zero, List.set_cons_succ]
  refine Av.take 3 (some 10) rfl rfl (by kernel_rfl) (by kernel_rfl) (by kernel_rfl) (by kernel_rfl) (fun _ _ _ h => h) hSt (Au.yq_load 3 (.tmp 9) rfl _ rfl (by rfl) (fun u hu => run_loadi ((hu.cell 0 3 rfl).trans x3))) ?_
  simp only [Act.put, List.setIfInBounds_toArray, List.set_cons_zero, List.set_cons_succ]
  refine Av.take 4 (some 11) rfl rfl (by kernel_rfl) (by kernel_rfl) (by kernel_rfl) (by kernel_rfl) (fun _ _ _ h => h) hSt (Au.yq_load 35 (.tmp 5) rfl _ rfl (by rfl) (fun u hu => load_cl (hu.blk 0 rfl) sX)) ?_
  simp only [Act.put, List.setIfInBounds_toArray, List.set_cons_zero, List.set_cons_succ]
  refine Av.take 5 (some 12) rfl rfl (by kernel_rfl) (by kernel_rfl) (by kernel_rfl) (by kernel_rfl) (fun _ _ _ h => h) hSt (Au.yq_call 80 _ (by rfl) (fun u => by go_simp) (fun u hu => C1.out u)) ?_
  simp only [Act.put, List.setIfInBounds_toArray, List.set_cons_zero, List.set_cons_succ]
  refine Av.take 6 (some 13) (v := ?_) rfl rfl (by kernel_rfl) (by kernel_rfl) (by kernel_rfl) (by kernel_rfl) (fun _ _ _ h => h) hSt (Au.yq_run (by rfl) (fun u hu => ?_)) ?_
  rotate_left
  · (clear hu; go_simp; try with_reducible rfl)
  simp only [Act.put, List.setIfInBounds_toArray, List.set_cons_zero, List.set_cons_succ]
  refine Av.tail 7 rfl (by kernel_rfl) (by decide) (fun w5 hw5 K5 hK5 => ?_)
  rw [if_pos (by rfl)]
  refine wp_store_row 37 (.tmp 6) (.tmp 13) rfl (w.heap.size + 1) (onw k me x).arr rfl rfl 37 zeroP (hw5.blk 1 rfl) (info_pk) (rfl) (pk_one _) ?_
  refine hK5.out _ _ ?_
  clear hK5 K5
  refine Av.done (by kernel_rfl) (fun u hu => ?_)
  subst hu
  go_wp2_with fail
  have hz := hw5.row 1 rfl (onw k me x).arr
  exact bodyPost_ret (results_cell_row rfl _ _ (w.heap.size + 1) 37 _ (0, 0) _ rfl (hz.blk 1 rfl) Tryd.underlying37 rfl info_pk) rfl ⟨rfl, hz.kept⟩

set_option maxRecDepth 100000 in
set_option maxHeartbeats 4000000 in
theorem back_any (k me : Int) (o : Ow) (q : Option Addr) (N c : Nat) (w : World) : Calls Tryd.prog 49 #[.int .i64 k, .int .i64 me, .agg (o.arr q N c)] w fun e w' => e = .returned (.agg (bck k me o).arr) ∧ Kept w w' := by
  obtain ⟨A, hA⟩ : ∃ A, o.arr q N c = A := ⟨_, rfl⟩
  have x11 : A[11]? = some (.int .i64 o.fr) := by rw [← hA]; rfl
  have x0 : A[0]? = some (.int .i64 o.kn) := by rw [← hA]; rfl
  have x1 : A[1]? = some (.int .i64 o.ki) := by rw [← hA]; rfl
  have x2 : A[2]? = some (.int .i64 o.ks) := by rw [← hA]; rfl
  have x3 : A[3]? = some (.int .i64 o.ka) := by rw [← hA]; rfl
  rw [hA]
  obtain ⟨W, hW⟩ : ∃ W, (w.alloc (.cells A 42)).alloc (.cells zeroP 37) = W := ⟨_, rfl⟩
  have hb : Bl w W [(A, 42), (zeroP, 37)] := hW ▸ Bl.two w A _ _ _
  have lk := load_key (u := W) (b := w.heap.size) (o := 0) ((hb.cell 0 0 rfl).trans x0) ((hb.cell 0 1 rfl).trans x1) ((hb.cell 0 2 rfl).trans x2) ((hb.cell 0 3 rfl).trans x3)
  have h11 : W.cell? ⟨w.heap.size, 11, none⟩ = some (.int .i64 o.fr) := (hb.cell 0 11 rfl).trans x11
  have HW := Lib.hid hW
  have HS := Lib.hid hb
  clear hA hW hb x0 x1 x2 x3 x11
  go_enter Tryd.func49, Tryd.ntmps49
  go_upto_region 1 with fail
  rw [show (w.alloc (.cells A 42)).alloc (.cells #[.int .i64 0, .int .i64 0, .int .i64 0, .int .i64 0, .int .i64 0, .int .i64 0, .int .i64 0, .int .i64 0, .int .i64 0, .string ⟨#[]⟩, .int .i64 0, .int .i64 0, .int .i64 0, .int .i64 0, .int .i64 0, .int .i64 0, .int .i64 0, .int .i64 0, .int .i64 0, .int .i64 0, .int .i64 0, .bool false, .int .i64 0] 37) = W from HW.out]
  go_wp2_with (first
    | (refine load_l 28 (.tmp 11) rfl _ rfl rfl _ lk ?_)
    | (refine wpList_store_row rfl 37 (.tmp 6) (.tmp 13) rfl (w.heap.size + 1) (bck k me o).arr rfl rfl 37 zeroP (HS.out.blk 1 rfl) info_pk rfl (pk_one _) ?_))
  have hz := HS.out.row 1 rfl (bck k me o).arr
  exact bodyPost_ret (results_cell_row rfl _ _ (w.heap.size + 1) 37 _ (0, 0) _ rfl (hz.blk 1 rfl) Tryd.underlying37 rfl info_pk) rfl ⟨rfl, hz.kept⟩

set_option maxRecDepth 100000 in
set_option maxHeartbeats 4000000 in
theorem rback_any (k me : Int) (o : Ow) (q : Option Addr) (N c : Nat) (w : World) : Calls Tryd.prog 50 #[.int .i64 k, .int .i64 me, .agg (o.arr q N c)] w fun e w' => e = .returned (.agg (bck k me o).arr) ∧ Kept w w' := by
  obtain ⟨A, hA⟩ : ∃ A, o.arr q N c = A := ⟨_, rfl⟩
  have x11 : A[11]? = some (.int .i64 o.fr) := by rw [← hA]; rfl
  have x0 : A[0]? = some (.int .i64 o.kn) := by rw [← hA]; rfl
  have x1 : A[1]? = some (.int .i64 o.ki) := by rw [← hA]; rfl
  have x2 : A[2]? = some (.int .i64 o.ks) := by rw [← hA]; rfl
  have x3 : A[3]? = some (.int .i64 o.ka) := by rw [← hA]; rfl
  rw [hA]
  obtain ⟨W, hW⟩ : ∃ W, (w.alloc (.cells A 31)).alloc (.cells zeroP 37) = W := ⟨_, rfl⟩
  have hb : Bl w W [(A, 31), (zeroP, 37)] := hW ▸ Bl.two w A _ _ _
  have lk := load_key (u := W) (b := w.heap.size) (o := 0) ((hb.cell 0 0 rfl).trans x0) ((hb.cell 0 1 rfl).trans x1) ((hb.cell 0 2 rfl).trans x2) ((hb.cell 0 3 rfl).trans x3)
  have h11 : W.cell? ⟨w.heap.size, 11, none⟩ = some (.int .i64 o.fr) := (hb.cell 0 11 rfl).trans x11
  have HW := Lib.hid hW
  have HS := Lib.hid hb
  clear hA hW hb x0 x1 x2 x3 x11
  go_enter Tryd.func50, Tryd.ntmps50
  go_upto_region 1 with fail
  rw [show (w.alloc (.cells A 31)).alloc (.cells #[.int .i64 0, .int .i64 0, .int .i64 0, .int .i64 0, .int .i64 0, .int .i64 0, .int .i64 0, .int .i64 0, .int .i64 0, .string ⟨#[]⟩, .int .i64 0, .int .i64 0, .int .i64 0, .int .i64 0, .int .i64 0, .int .i64 0, .int .i64 0, .int .i64 0, .int .i64 0, .int .i64 0, .int .i64 0, .bool false, .int .i64 0] 37) = W from HW.out]
  go_wp2_with (first
    | (refine load_l 28 (.tmp 11) rfl _ rfl rfl _ lk ?_)
    | (refine wpList_store_row rfl 37 (.tmp 6) (.tmp 13) rfl (w.heap.size + 1) (bck k me o).arr rfl rfl 37 zeroP (HS.out.blk 1 rfl) info_pk rfl (pk_one _) ?_))
  have hz := HS.out.row 1 rfl (bck k me o).arr
  exact bodyPost_ret (results_cell_row rfl _ _ (w.heap.size + 1) 37 _ (0, 0) _ rfl (hz.blk 1 rfl) Tryd.underlying37 rfl info_pk) rfl ⟨rfl, hz.kept⟩

set_option maxRecDepth 100000 in
set_option maxHeartbeats 4000000 in
theorem reply_any (me : Int) (o : Ow) (n v : Int) (q : Option Addr) (N c : Nat) (w : World) : Calls Tryd.prog 16 #[.int .i64 me, .agg (o.arr q N c), .int .i64 n, .int .i64 v] w fun e w' => e = .returned (.agg (rpl me o n v).arr) ∧ Kept w w' := by
  obtain ⟨A, hA⟩ : ∃ A, o.arr q N c = A := ⟨_, rfl⟩
  have sA : A.size = 19 := by rw [← hA]; rfl
  have C1 := Lib.hid (show ∀ u, Calls Tryd.prog 49 #[.int .i64 2, .int .i64 me, .agg A] u fun e w' => e = .returned (.agg (bck 2 me o).arr) ∧ Kept u w' from fun u => by rw [← hA]; exact back_any 2 me o q N c u)
  rw [hA]
  obtain ⟨W, hW⟩ : ∃ W, (w.alloc (.cells A 42)).alloc (.cells zeroP 37) = W := ⟨_, rfl⟩
  have hb : Bl w W [(A, 42), (zeroP, 37)] := hW ▸ Bl.two w A _ _ _
  have HW := Lib.hid hW
  have HS := Lib.hid hb
  clear hA hW hb
  go_enter Tryd.func16, Tryd.ntmps16
  go_upto_region 1 with fail
  rw [show (w.alloc (.cells A 42)).alloc (.cells #[.int .i64 0, .int .i64 0, .int .i64 0, .int .i64 0, .int .i64 0, .int .i64 0, .int .i64 0, .int .i64 0, .int .i64 0, .string ⟨#[]⟩, .int .i64 0, .int .i64 0, .int .i64 0, .int .i64 0, .int .i64 0, .int .i64 0, .int .i64 0, .int .i64 0, .int .i64 0, .int .i64 0, .int .i64 0, .bool false, .int .i64 0] 37) = W from HW.out]
  go_upto_region 2 with (first
    | (refine load_w 42 (.tmp 5) rfl w.heap.size rfl rfl A 19 (HS.out.blk 0 rfl) Tryd.underlying42 sA info_ow ?_)
    | (go_at_call 49; refine (C1.out _).mono ?_; rintro e u ⟨rfl, k⟩)
    | (refine store_new rfl 37 (.tmp 9) (.tmp 12) rfl u.heap.size (bck 2 me o).arr rfl rfl u _ rfl 23 info_pk rfl rfl (pk_one _) ?_))
  obtain ⟨V, hV⟩ : ∃ V, u.alloc (.cells (bck 2 me o).arr 37) = V := ⟨_, rfl⟩
  rw [hV]
  have hV0 : Bl u V [((bck 2 me o).arr, 37)] := by rw [← hV]; exact Bl.one u _ _
  obtain ⟨g, hg⟩ : ∃ g, u.heap.size = g := ⟨_, rfl⟩
  rw [hg]
  have y19 : V.cell? ⟨g, 19, none⟩ = some (.int .i64 0) := by rw [← hg]; exact hV0.cell 0 19 rfl
  have f19 : V.frozen? ⟨g, 19, none⟩ = false := by rw [← hg]; exact hV0.free 0 19 rfl
  have y20 : V.cell? ⟨g, 20, none⟩ = some (.int .i64 0) := by rw [← hg]; exact hV0.cell 0 20 rfl
  have f20 : V.frozen? ⟨g, 20, none⟩ = false := by rw [← hg]; exact hV0.free 0 20 rfl
  have HV := Lib.hid hV0
  have HG := Lib.hid hg
  have HK := Lib.hid k
  clear hV hg hV0 k
  go_upto_region 3 with fail
  obtain ⟨V2, hV2⟩ : ∃ V2, ((V.setCell ⟨g, 19, none⟩ (.int .i64 n)).setCell ⟨g, 20, none⟩ (.int .i64 v)) = V2 := ⟨_, rfl⟩
  rw [hV2]
  have hb2 : Bl u V2 [((rpl me o n v).arr, 37)] := by rw [← hV2, ← HG.out]; exact ((HV.out.put 0 19 rfl (.int .i64 n)).put 0 20 rfl (.int .i64 v))
  have HZ := Lib.hid (And.intro hb2 ((HS.out.go HK.out).go hb2.kept))
  clear hV2 hb2 y19 f19 y20 f20
  go_wp2_with (first
    | (refine load_w 37 (.tmp 9) rfl g rfl rfl (rpl me o n v).arr 23 (by rw [← HG.out]; exact HZ.out.1.blk 0 rfl) Tryd.underlying37 rfl info_pk ?_)
    | (refine wpList_store_row rfl 37 (.tmp 8) (.tmp 17) rfl (w.heap.size + 1) (rpl me o n v).arr rfl rfl 37 zeroP (HZ.out.2.blk 1 rfl) info_pk rfl (pk_one _) ?_))
  have hz := HZ.out.2.row 1 rfl (rpl me o n v).arr
  exact bodyPost_ret (results_cell_row rfl _ _ (w.heap.size + 1) 37 _ (0, 0) _ rfl (hz.blk 1 rfl) Tryd.underlying37 rfl info_pk) rfl ⟨rfl, hz.kept⟩

set_option maxRecDepth 100000 in
set_option maxHeartbeats 4000000 in
theorem rreply_any (me : Int) (o : Ow) (n v : Int) (q : Option Addr) (N c : Nat) (w : World) : Calls Tryd.prog 17 #[.int .i64 me, .agg (o.arr q N c), .int .i64 n, .int .i64 v] w fun e w' => e = .returned (.agg (rpl me o n v).arr) ∧ Kept w w' := by
  obtain ⟨A, hA⟩ : ∃ A, o.arr q N c = A := ⟨_, rfl⟩
  have sA : A.size = 19 := by rw [← hA]; rfl
  have C1 := Lib.hid (show ∀ u, Calls Tryd.prog 50 #[.int .i64 2, .int .i64 me, .agg A] u fun e w' => e = .returned (.agg (bck 2 me o).arr) ∧ Kept u w' from fun u => by rw [← hA]; exact rback_any 2 me o q N c u)
  rw [hA]
  obtain ⟨W, hW⟩ : ∃ W, (w.alloc (.cells A 31)).alloc (.cells zeroP 37) = W := ⟨_, rfl⟩
  have hb : Bl w W [(A, 31), (zeroP, 37)] := hW ▸ Bl.two w A _ _ _
  have HW := Lib.hid hW
  have HS := Lib.hid hb
  clear hA hW hb
  go_enter Tryd.func17, Tryd.ntmps17
  go_upto_region 1 with fail
  rw [show (w.alloc (.cells A 31)).alloc (.cells #[.int .i64 0, .int .i64 0, .int .i64 0, .int .i64 0, .int .i64 0, .int .i64 0, .int .i64 0, .int .i64 0, .int .i64 0, .string ⟨#[]⟩, .int .i64 0, .int .i64 0, .int .i64 0, .int .i64 0, .int .i64 0, .int .i64 0, .int .i64 0, .int .i64 0, .int .i64 0, .int .i64 0, .int .i64 0, .bool false, .int .i64 0] 37) = W from HW.out]
  go_upto_region 2 with (first
    | (refine load_w 31 (.tmp 5) rfl w.heap.size rfl rfl A 19 (HS.out.blk 0 rfl) Tryd.underlying31 sA info_row ?_)
    | (go_at_call 50; refine (C1.out _).mono ?_; rintro e u ⟨rfl, k⟩)
    | (refine store_new rfl 37 (.tmp 9) (.tmp 12) rfl u.heap.size (bck 2 me o).arr rfl rfl u _ rfl 23 info_pk rfl rfl (pk_one _) ?_))
  obtain ⟨V, hV⟩ : ∃ V, u.alloc (.cells (bck 2 me o).arr 37) = V := ⟨_, rfl⟩
  rw [hV]
  have hV0 : Bl u V [((bck 2 me o).arr, 37)] := by rw [← hV]; exact Bl.one u _ _
  obtain ⟨g, hg⟩ : ∃ g, u.heap.size = g := ⟨_, rfl⟩
  rw [hg]
  have y19 : V.cell? ⟨g, 19, none⟩ = some (.int .i64 0) := by rw [← hg]; exact hV0.cell 0 19 rfl
  have f19 : V.frozen? ⟨g, 19, none⟩ = false := by rw [← hg]; exact hV0.free 0 19 rfl
  have y20 : V.cell? ⟨g, 20, none⟩ = some (.int .i64 0) := by rw [← hg]; exact hV0.cell 0 20 rfl
  have f20 : V.frozen? ⟨g, 20, none⟩ = false := by rw [← hg]; exact hV0.free 0 20 rfl
  have HV := Lib.hid hV0
  have HG := Lib.hid hg
  have HK := Lib.hid k
  clear hV hg hV0 k
  go_upto_region 4 with fail
  obtain ⟨V2, hV2⟩ : ∃ V2, ((V.setCell ⟨g, 19, none⟩ (.int .i64 n)).setCell ⟨g, 20, none⟩ (.int .i64 v)) = V2 := ⟨_, rfl⟩
  rw [hV2]
  have hb2 : Bl u V2 [((rpl me o n v).arr, 37)] := by rw [← hV2, ← HG.out]; exact ((HV.out.put 0 19 rfl (.int .i64 n)).put 0 20 rfl (.int .i64 v))
  have HZ := Lib.hid (And.intro hb2 ((HS.out.go HK.out).go hb2.kept))
  clear hV2 hb2 y19 f19 y20 f20
  go_wp2_with (first
    | (refine load_w 37 (.tmp 9) rfl g rfl rfl (rpl me o n v).arr 23 (by rw [← HG.out]; exact HZ.out.1.blk 0 rfl) Tryd.underlying37 rfl info_pk ?_)
    | (refine wpList_store_row rfl 37 (.tmp 8) (.tmp 17) rfl (w.heap.size + 1) (rpl me o n v).arr rfl rfl 37 zeroP (HZ.out.2.blk 1 rfl) info_pk rfl (pk_one _) ?_))
  have hz := HZ.out.2.row 1 rfl (rpl me o n v).arr
  exact bodyPost_ret (results_cell_row rfl _ _ (w.heap.size + 1) 37 _ (0, 0) _ rfl (hz.blk 1 rfl) Tryd.underlying37 rfl info_pk) rfl ⟨rfl, hz.kept⟩

set_option maxRecDepth 100000 in
set_option maxHeartbeats 4000000 in
theorem more_any (me : Int) (o : Ow)  (q : Option Addr) (N c : Nat) (w : World) : Calls Tryd.prog 18 #[.int .i64 me, .agg (o.arr q N c)] w fun e w' => e = .returned (.agg (mre me o).arr) ∧ Kept w w' := by
  obtain ⟨A, hA⟩ : ∃ A, o.arr q N c = A := ⟨_, rfl⟩
  have sA : A.size = 19 := by rw [← hA]; rfl
  have C1 := Lib.hid (show ∀ u, Calls Tryd.prog 49 #[.int .i64 2, .int .i64 me, .agg A] u fun e w' => e = .returned (.agg (bck 2 me o).arr) ∧ Kept u w' from fun u => by rw [← hA]; exact back_any 2 me o q N c u)
  rw [hA]
  obtain ⟨W, hW⟩ : ∃ W, (w.alloc (.cells A 42)).alloc (.cells zeroP 37) = W := ⟨_, rfl⟩
  have hb : Bl w W [(A, 42), (zeroP, 37)] := hW ▸ Bl.two w A _ _ _
  have HW := Lib.hid hW
  have HS := Lib.hid hb
  clear hA hW hb
  go_enter Tryd.func18, Tryd.ntmps18
  go_upto_region 1 with fail
  rw [show (w.alloc (.cells A 42)).alloc (.cells #[.int .i64 0, .int .i64 0, .int .i64 0, .int .i64 0, .int .i64 0, .int .i64 0, .int .i64 0, .int .i64 0, .int .i64 0, .string ⟨#[]⟩, .int .i64 0, .int .i64 0, .int .i64 0, .int .i64 0, .int .i64 0, .int .i64 0, .int .i64 0, .int .i64 0, .int .i64 0, .int .i64 0, .int .i64 0, .bool false, .int .i64 0] 37) = W from HW.out]
  go_upto_region 2 with (first
    | (refine load_w 42 (.tmp 3) rfl w.heap.size rfl rfl A 19 (HS.out.blk 0 rfl) Tryd.underlying42 sA info_ow ?_)
    | (go_at_call 49; refine (C1.out _).mono ?_; rintro e u ⟨rfl, k⟩)
    | (refine store_new rfl 37 (.tmp 5) (.tmp 8) rfl u.heap.size (bck 2 me o).arr rfl rfl u _ rfl 23 info_pk rfl rfl (pk_one _) ?_))
  obtain ⟨V, hV⟩ : ∃ V, u.alloc (.cells (bck 2 me o).arr 37) = V := ⟨_, rfl⟩
  rw [hV]
  have hV0 : Bl u V [((bck 2 me o).arr, 37)] := by rw [← hV]; exact Bl.one u _ _
  obtain ⟨g, hg⟩ : ∃ g, u.heap.size = g := ⟨_, rfl⟩
  rw [hg]
  have y21 : V.cell? ⟨g, 21, none⟩ = some (.bool false) := by rw [← hg]; exact hV0.cell 0 21 rfl
  have f21 : V.frozen? ⟨g, 21, none⟩ = false := by rw [← hg]; exact hV0.free 0 21 rfl
  have HV := Lib.hid hV0
  have HG := Lib.hid hg
  have HK := Lib.hid k
  clear hV hg hV0 k
  go_upto_region 3 with fail
  obtain ⟨V2, hV2⟩ : ∃ V2, (V.setCell ⟨g, 21, none⟩ (.bool true)) = V2 := ⟨_, rfl⟩
  rw [hV2]
  have hb2 : Bl u V2 [((mre me o).arr, 37)] := by rw [← hV2, ← HG.out]; exact (HV.out.put 0 21 rfl (.bool true))
  have HZ := Lib.hid (And.intro hb2 ((HS.out.go HK.out).go hb2.kept))
  clear hV2 hb2 y21 f21
  go_wp2_with (first
    | (refine load_w 37 (.tmp 5) rfl g rfl rfl (mre me o).arr 23 (by rw [← HG.out]; exact HZ.out.1.blk 0 rfl) Tryd.underlying37 rfl info_pk ?_)
    | (refine wpList_store_row rfl 37 (.tmp 4) (.tmp 10) rfl (w.heap.size + 1) (mre me o).arr rfl rfl 37 zeroP (HZ.out.2.blk 1 rfl) info_pk rfl (pk_one _) ?_))
  have hz := HZ.out.2.row 1 rfl (mre me o).arr
  exact bodyPost_ret (results_cell_row rfl _ _ (w.heap.size + 1) 37 _ (0, 0) _ rfl (hz.blk 1 rfl) Tryd.underlying37 rfl info_pk) rfl ⟨rfl, hz.kept⟩

set_option maxRecDepth 100000 in
set_option maxHeartbeats 4000000 in
theorem rmore_any (me : Int) (o : Ow)  (q : Option Addr) (N c : Nat) (w : World) : Calls Tryd.prog 19 #[.int .i64 me, .agg (o.arr q N c)] w fun e w' => e = .returned (.agg (mre me o).arr) ∧ Kept w w' := by
  obtain ⟨A, hA⟩ : ∃ A, o.arr q N c = A := ⟨_, rfl⟩
  have sA : A.size = 19 := by rw [← hA]; rfl
  have C1 := Lib.hid (show ∀ u, Calls Tryd.prog 50 #[.int .i64 2, .int .i64 me, .agg A] u fun e w' => e = .returned (.agg (bck 2 me o).arr) ∧ Kept u w' from fun u => by rw [← hA]; exact rback_any 2 me o q N c u)
  rw [hA]
  obtain ⟨W, hW⟩ : ∃ W, (w.alloc (.cells A 31)).alloc (.cells zeroP 37) = W := ⟨_, rfl⟩
  have hb : Bl w W [(A, 31), (zeroP, 37)] := hW ▸ Bl.two w A _ _ _
  have HW := Lib.hid hW
  have HS := Lib.hid hb
  clear hA hW hb
  go_enter Tryd.func19, Tryd.ntmps19
  go_upto_region 1 with fail
  rw [show (w.alloc (.cells A 31)).alloc (.cells #[.int .i64 0, .int .i64 0, .int .i64 0, .int .i64 0, .int .i64 0, .int .i64 0, .int .i64 0, .int .i64 0, .int .i64 0, .string ⟨#[]⟩, .int .i64 0, .int .i64 0, .int .i64 0, .int .i64 0, .int .i64 0, .int .i64 0, .int .i64 0, .int .i64 0, .int .i64 0, .int .i64 0, .int .i64 0, .bool false, .int .i64 0] 37) = W from HW.out]
  go_upto_region 2 with (first
    | (refine load_w 31 (.tmp 3) rfl w.heap.size rfl rfl A 19 (HS.out.blk 0 rfl) Tryd.underlying31 sA info_row ?_)
    | (go_at_call 50; refine (C1.out _).mono ?_; rintro e u ⟨rfl, k⟩)
    | (refine store_new rfl 37 (.tmp 5) (.tmp 8) rfl u.heap.size (bck 2 me o).arr rfl rfl u _ rfl 23 info_pk rfl rfl (pk_one _) ?_))
  obtain ⟨V, hV⟩ : ∃ V, u.alloc (.cells (bck 2 me o).arr 37) = V := ⟨_, rfl⟩
  rw [hV]
  have hV0 : Bl u V [((bck 2 me o).arr, 37)] := by rw [← hV]; exact Bl.one u _ _
  obtain ⟨g, hg⟩ : ∃ g, u.heap.size = g := ⟨_, rfl⟩
  rw [hg]
  have y21 : V.cell? ⟨g, 21, none⟩ = some (.bool false) := by rw [← hg]; exact hV0.cell 0 21 rfl
  have f21 : V.frozen? ⟨g, 21, none⟩ = false := by rw [← hg]; exact hV0.free 0 21 rfl
  have HV := Lib.hid hV0
  have HG := Lib.hid hg
  have HK := Lib.hid k
  clear hV hg hV0 k
  go_upto_region 3 with fail
  obtain ⟨V2, hV2⟩ : ∃ V2, (V.setCell ⟨g, 21, none⟩ (.bool true)) = V2 := ⟨_, rfl⟩
  rw [hV2]
  have hb2 : Bl u V2 [((mre me o).arr, 37)] := by rw [← hV2, ← HG.out]; exact (HV.out.put 0 21 rfl (.bool true))
  have HZ := Lib.hid (And.intro hb2 ((HS.out.go HK.out).go hb2.kept))
  clear hV2 hb2 y21 f21
  go_wp2_with (first
    | (refine load_w 37 (.tmp 5) rfl g rfl rfl (mre me o).arr 23 (by rw [← HG.out]; exact HZ.out.1.blk 0 rfl) Tryd.underlying37 rfl info_pk ?_)
    | (refine wpList_store_row rfl 37 (.tmp 4) (.tmp 10) rfl (w.heap.size + 1) (mre me o).arr rfl rfl 37 zeroP (HZ.out.2.blk 1 rfl) info_pk rfl (pk_one _) ?_))
  have hz := HZ.out.2.row 1 rfl (mre me o).arr
  exact bodyPost_ret (results_cell_row rfl _ _ (w.heap.size + 1) 37 _ (0, 0) _ rfl (hz.blk 1 rfl) Tryd.underlying37 rfl info_pk) rfl ⟨rfl, hz.kept⟩

set_option maxRecDepth 100000 in
set_option maxHeartbeats 4000000 in
theorem refuse_any (me : Int) (o : Ow) (d : Int) (q : Option Addr) (N c : Nat) (w : World) : Calls Tryd.prog 20 #[.int .i64 me, .agg (o.arr q N c), .int .i64 d] w fun e w' => e = .returned (.agg (rfs me o d).arr) ∧ Kept w w' := by
  obtain ⟨A, hA⟩ : ∃ A, o.arr q N c = A := ⟨_, rfl⟩
  have sA : A.size = 19 := by rw [← hA]; rfl
  have C1 := Lib.hid (show ∀ u, Calls Tryd.prog 49 #[.int .i64 5, .int .i64 me, .agg A] u fun e w' => e = .returned (.agg (bck 5 me o).arr) ∧ Kept u w' from fun u => by rw [← hA]; exact back_any 5 me o q N c u)
  rw [hA]
  obtain ⟨W, hW⟩ : ∃ W, (w.alloc (.cells A 42)).alloc (.cells zeroP 37) = W := ⟨_, rfl⟩
  have hb : Bl w W [(A, 42), (zeroP, 37)] := hW ▸ Bl.two w A _ _ _
  have HW := Lib.hid hW
  have HS := Lib.hid hb
  clear hA hW hb
  go_enter Tryd.func20, Tryd.ntmps20
  go_upto_region 1 with fail
  rw [show (w.alloc (.cells A 42)).alloc (.cells #[.int .i64 0, .int .i64 0, .int .i64 0, .int .i64 0, .int .i64 0, .int .i64 0, .int .i64 0, .int .i64 0, .int .i64 0, .string ⟨#[]⟩, .int .i64 0, .int .i64 0, .int .i64 0, .int .i64 0, .int .i64 0, .int .i64 0, .int .i64 0, .int .i64 0, .int .i64 0, .int .i64 0, .int .i64 0, .bool false, .int .i64 0] 37) = W from HW.out]
  go_upto_region 2 with (first
    | (refine load_w 42 (.tmp 4) rfl w.heap.size rfl rfl A 19 (HS.out.blk 0 rfl) Tryd.underlying42 sA info_ow ?_)
    | (go_at_call 49; refine (C1.out _).mono ?_; rintro e u ⟨rfl, k⟩)
    | (refine store_new rfl 37 (.tmp 7) (.tmp 10) rfl u.heap.size (bck 5 me o).arr rfl rfl u _ rfl 23 info_pk rfl rfl (pk_one _) ?_))
  obtain ⟨V, hV⟩ : ∃ V, u.alloc (.cells (bck 5 me o).arr 37) = V := ⟨_, rfl⟩
  rw [hV]
  have hV0 : Bl u V [((bck 5 me o).arr, 37)] := by rw [← hV]; exact Bl.one u _ _
  obtain ⟨g, hg⟩ : ∃ g, u.heap.size = g := ⟨_, rfl⟩
  rw [hg]
  have y22 : V.cell? ⟨g, 22, none⟩ = some (.int .i64 0) := by rw [← hg]; exact hV0.cell 0 22 rfl
  have f22 : V.frozen? ⟨g, 22, none⟩ = false := by rw [← hg]; exact hV0.free 0 22 rfl
  have HV := Lib.hid hV0
  have HG := Lib.hid hg
  have HK := Lib.hid k
  clear hV hg hV0 k
  go_upto_region 3 with fail
  obtain ⟨V2, hV2⟩ : ∃ V2, (V.setCell ⟨g, 22, none⟩ (.int .i64 d)) = V2 := ⟨_, rfl⟩
  rw [hV2]
  have hb2 : Bl u V2 [((rfs me o d).arr, 37)] := by rw [← hV2, ← HG.out]; exact (HV.out.put 0 22 rfl (.int .i64 d))
  have HZ := Lib.hid (And.intro hb2 ((HS.out.go HK.out).go hb2.kept))
  clear hV2 hb2 y22 f22
  go_wp2_with (first
    | (refine load_w 37 (.tmp 7) rfl g rfl rfl (rfs me o d).arr 23 (by rw [← HG.out]; exact HZ.out.1.blk 0 rfl) Tryd.underlying37 rfl info_pk ?_)
    | (refine wpList_store_row rfl 37 (.tmp 6) (.tmp 13) rfl (w.heap.size + 1) (rfs me o d).arr rfl rfl 37 zeroP (HZ.out.2.blk 1 rfl) info_pk rfl (pk_one _) ?_))
  have hz := HZ.out.2.row 1 rfl (rfs me o d).arr
  exact bodyPost_ret (results_cell_row rfl _ _ (w.heap.size + 1) 37 _ (0, 0) _ rfl (hz.blk 1 rfl) Tryd.underlying37 rfl info_pk) rfl ⟨rfl, hz.kept⟩

set_option maxRecDepth 100000 in
set_option maxHeartbeats 4000000 in
theorem rrefuse_any (me : Int) (o : Ow) (d : Int) (q : Option Addr) (N c : Nat) (w : World) : Calls Tryd.prog 21 #[.int .i64 me, .agg (o.arr q N c), .int .i64 d] w fun e w' => e = .returned (.agg (rfs me o d).arr) ∧ Kept w w' := by
  obtain ⟨A, hA⟩ : ∃ A, o.arr q N c = A := ⟨_, rfl⟩
  have sA : A.size = 19 := by rw [← hA]; rfl
  have C1 := Lib.hid (show ∀ u, Calls Tryd.prog 50 #[.int .i64 5, .int .i64 me, .agg A] u fun e w' => e = .returned (.agg (bck 5 me o).arr) ∧ Kept u w' from fun u => by rw [← hA]; exact rback_any 5 me o q N c u)
  rw [hA]
  obtain ⟨W, hW⟩ : ∃ W, (w.alloc (.cells A 31)).alloc (.cells zeroP 37) = W := ⟨_, rfl⟩
  have hb : Bl w W [(A, 31), (zeroP, 37)] := hW ▸ Bl.two w A _ _ _
  have HW := Lib.hid hW
  have HS := Lib.hid hb
  clear hA hW hb
  go_enter Tryd.func21, Tryd.ntmps21
  go_upto_region 1 with fail
  rw [show (w.alloc (.cells A 31)).alloc (.cells #[.int .i64 0, .int .i64 0, .int .i64 0, .int .i64 0, .int .i64 0, .int .i64 0, .int .i64 0, .int .i64 0, .int .i64 0, .string ⟨#[]⟩, .int .i64 0, .int .i64 0, .int .i64 0, .int .i64 0, .int .i64 0, .int .i64 0, .int .i64 0, .int .i64 0, .int .i64 0, .int .i64 0, .int .i64 0, .bool false, .int .i64 0] 37) = W from HW.out]
  go_upto_region 2 with (first
    | (refine load_w 31 (.tmp 4) rfl w.heap.size rfl rfl A 19 (HS.out.blk 0 rfl) Tryd.underlying31 sA info_row ?_)
    | (go_at_call 50; refine (C1.out _).mono ?_; rintro e u ⟨rfl, k⟩)
    | (refine store_new rfl 37 (.tmp 7) (.tmp 10) rfl u.heap.size (bck 5 me o).arr rfl rfl u _ rfl 23 info_pk rfl rfl (pk_one _) ?_))
  obtain ⟨V, hV⟩ : ∃ V, u.alloc (.cells (bck 5 me o).arr 37) = V := ⟨_, rfl⟩
  rw [hV]
  have hV0 : Bl u V [((bck 5 me o).arr, 37)] := by rw [← hV]; exact Bl.one u _ _
  obtain ⟨g, hg⟩ : ∃ g, u.heap.size = g := ⟨_, rfl⟩
  rw [hg]
  have y22 : V.cell? ⟨g, 22, none⟩ = some (.int .i64 0) := by rw [← hg]; exact hV0.cell 0 22 rfl
  have f22 : V.frozen? ⟨g, 22, none⟩ = false := by rw [← hg]; exact hV0.free 0 22 rfl
  have HV := Lib.hid hV0
  have HG := Lib.hid hg
  have HK := Lib.hid k
  clear hV hg hV0 k
  go_upto_region 3 with fail
  obtain ⟨V2, hV2⟩ : ∃ V2, (V.setCell ⟨g, 22, none⟩ (.int .i64 d)) = V2 := ⟨_, rfl⟩
  rw [hV2]
  have hb2 : Bl u V2 [((rfs me o d).arr, 37)] := by rw [← hV2, ← HG.out]; exact (HV.out.put 0 22 rfl (.int .i64 d))
  have HZ := Lib.hid (And.intro hb2 ((HS.out.go HK.out).go hb2.kept))
  clear hV2 hb2 y22 f22
  go_wp2_with (first
    | (refine load_w 37 (.tmp 7) rfl g rfl rfl (rfs me o d).arr 23 (by rw [← HG.out]; exact HZ.out.1.blk 0 rfl) Tryd.underlying37 rfl info_pk ?_)
    | (refine wpList_store_row rfl 37 (.tmp 6) (.tmp 13) rfl (w.heap.size + 1) (rfs me o d).arr rfl rfl 37 zeroP (HZ.out.2.blk 1 rfl) info_pk rfl (pk_one _) ?_))
  have hz := HZ.out.2.row 1 rfl (rfs me o d).arr
  exact bodyPost_ret (results_cell_row rfl _ _ (w.heap.size + 1) 37 _ (0, 0) _ rfl (hz.blk 1 rfl) Tryd.underlying37 rfl info_pk) rfl ⟨rfl, hz.kept⟩

end Go.Proofs.YtncdiggejofbbaaDoor.Sn
