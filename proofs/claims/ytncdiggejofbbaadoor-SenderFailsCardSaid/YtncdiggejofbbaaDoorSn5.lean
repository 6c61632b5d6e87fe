/- An attempt of a call fails: package sender, and the document's own answer. -/
import Derived.Test.YtncdiggejofbbaaDoorSn2
import Derived.Test.YtncdiggejofbbaaDoorOw4
import Derived.Test.YtncdiggejofbbaaDoorAu
namespace Go.Proofs.YtncdiggejofbbaaDoor.Sn
open Go.RowKit Go.Sort Go.Shelf St PkM Ad Po Blk Eqs
open Go.Proofs.YtncdiggejofbbaaDoor.Cl
open Go.Proofs.YtncdiggejofbbaaDoor.Ow
open Go.Proofs.YtncdiggejofbbaaDoor.Au (Stab stab_and)
open Go.Proofs.YtncdiggejofbbaaDoor.Ad (load_w load_l store_new)
set_option linter.unusedVariables false
set_option linter.unusedSimpArgs false

def zeroL : Array Value := Cl.zero.arr
theorem Bl.four (w : World) (a b c d : Array Value) (ta tb tc td : TypeId) : Bl w ((((w.alloc (.cells a ta)).alloc (.cells b tb)).alloc (.cells c tc)).alloc (.cells d td)) [(a, ta), (b, tb), (c, tc), (d, td)] := Bl.start [(a, ta), (b, tb), (c, tc), (d, td)] w
theorem Bl.fiv (w : World) (a b c d e : Array Value) (ta tb tc td te : TypeId) : Bl w (((((w.alloc (.cells a ta)).alloc (.cells b tb)).alloc (.cells c tc)).alloc (.cells d td)).alloc (.cells e te)) [(a, ta), (b, tb), (c, tc), (d, td), (e, te)] := Bl.start [(a, ta), (b, tb), (c, tc), (d, td), (e, te)] w
theorem far_row {u : World} {g i : Nat} {xs : Array Value} {o : Obj} (h : u.heap[i]? = some o) (hn : i ≠ g) : (u.setRow g xs).heap[i]? = some o := by rw [setRow_other _ _ _ _ hn]; exact h
theorem fld_no {g : Cf} {me : Int} {o : Ow} {x : Cl} {now hv n push : Int} (h : ¬ x.st = 1) : fld g me o x now hv n push = (x, hv) := by unfold fld; rw [if_neg h]
theorem fld_on {g : Cf} {me : Int} {o : Ow} {x : Cl} {now hv n push : Int} (h : x.st = 1) : fld g me o x now hv n push = ((bad x g ⟨n, 0, false, push, Th.bad hv g.tokens, now, o.dl, Bo.jit me x.s x.att⟩).1, Th.bad hv g.tokens) := by unfold fld; rw [if_pos h]

set_option maxRecDepth 100000 in
set_option maxHeartbeats 4000000 in
theorem failed_no (cf : Cf) (me : Int) (o : Ow) (x : Cl) (now hv n push : Int) (q : Option Addr) (N c : Nat) (w : World) (ha : Wd x.att) (h : ¬ x.st = 1) :
    Calls Tryd.prog 14 #[.agg cf.arr, .int .i64 me, .agg (o.arr q N c), .agg x.arr, .int .i64 now, .int .i64 hv, .int .i64 n, .int .i64 push] w fun e w' => e = .returned (.tuple #[.agg (fld cf me o x now hv n push).1.arr, .int .i64 (fld cf me o x now hv n push).2]) ∧ Kept w w' := by
  obtain ⟨F, hF⟩ : ∃ F, cf.arr = F := ⟨_, rfl⟩
  obtain ⟨A, hA⟩ : ∃ A, o.arr q N c = A := ⟨_, rfl⟩
  obtain ⟨X, hX⟩ : ∃ X, x.arr = X := ⟨_, rfl⟩
  have sX : X.size = 13 := by rw [← hX]; rfl
  have oX : X.all (·.oneCell') = true := by rw [← hX]; exact cl_one x
  have sF : F.size = 14 := by rw [← hF]; rfl
  have x2 : X[2]? = some (.int .i64 x.s) := by rw [← hX]; rfl
  have x5 : X[5]? = some (.int .i64 x.att) := by rw [← hX]; rfl
  have x6 : X[6]? = some (.int .i64 x.st) := by rw [← hX]; rfl
  have c13 : A[13]? = some (.int .i64 o.dl) := by rw [← hA]; rfl
  have d12 : F[12]? = some (.int .i64 cf.tokens) := by rw [← hF]; rfl
  obtain ⟨W, hW⟩ : ∃ W, (((w.alloc (.cells F 24)).alloc (.cells A 42)).alloc (.cells X 35)).alloc (.cells zeroL 35) = W := ⟨_, rfl⟩
  have hL : Bl w W [(F, 24), (A, 42), (X, 35), (zeroL, 35)] := hW ▸ Bl.four w F A X _ _ _ _ _
  have h6 : W.cell? ⟨w.heap.size + 1 + 1, 6, none⟩ = some (.int .i64 x.st) := (hL.cell 2 6 rfl).trans x6
  have h12 : W.cell? ⟨w.heap.size, 12, none⟩ = some (.int .i64 cf.tokens) := (hL.cell 0 12 rfl).trans d12
  have h13 : W.cell? ⟨w.heap.size + 1, 13, none⟩ = some (.int .i64 o.dl) := (hL.cell 1 13 rfl).trans c13
  have h2 : W.cell? ⟨w.heap.size + 1 + 1, 2, none⟩ = some (.int .i64 x.s) := (hL.cell 2 2 rfl).trans x2
  have h5 : W.cell? ⟨w.heap.size + 1 + 1, 5, none⟩ = some (.int .i64 x.att) := (hL.cell 2 5 rfl).trans x5
  have HW := Lib.hid hW
  have HS := Lib.hid hL
  rw [hF, hA, hX]
  clear hW hL
  rw [fld_no h, show (x, hv).1.arr = X from hX]
  clear hF hA hX
  go_enter Tryd.func14, Tryd.ntmps14
  go_upto_region 1 with fail
  rw [show (((w.alloc (.cells F 24)).alloc (.cells A 42)).alloc (.cells X 35)).alloc (.cells #[.int .i64 0, .int .i64 0, .int .i64 0, .int .i64 0, .int .i64 0, .int .i64 0, .int .i64 0, .int .i64 0, .int .i64 0, .bool false, .int .i64 0, .int .i64 0, .int .i64 0] 35) = W from HW.out]
  go_wp2_with (first
    | (refine load_w 35 (.tmp 11) rfl (w.heap.size + 1 + 1) rfl rfl X 13 (HS.out.blk 2 rfl) Tryd.underlying35 sX info_cl ?_)
    | (refine wpList_store_row rfl 35 (.tmp 16) (.tmp 24) rfl (w.heap.size + 1 + 1 + 1) X rfl rfl 35 zeroL (HS.out.blk 3 rfl) (by rw [sX]; exact info_cl) (by rw [sX]; rfl) oX ?_))
  have hz := HS.out.row 3 rfl X
  exact bodyPost_ret (Rw.results_row_tmp rfl _ _ (w.heap.size + 3) 35 _ (0, 0) _ rfl (hz.blk 3 rfl) Tryd.underlying35 rfl (by rw [sX]; exact info_cl)) rfl ⟨rfl, hz.kept⟩

set_option maxRecDepth 100000 in
set_option maxHeartbeats 4000000 in
theorem rfailed_no (cf : Cf) (me : Int) (o : Ow) (x : Cl) (now hv n push : Int) (q : Option Addr) (N c : Nat) (w : World) (ha : Wd x.att) (h : ¬ x.st = 1) :
    Calls Tryd.prog 15 #[.agg cf.arr, .int .i64 me, .agg (o.arr q N c), .agg x.arr, .int .i64 now, .int .i64 hv, .int .i64 n, .int .i64 push] w fun e w' => e = .returned (.tuple #[.agg (fld cf me o x now hv n push).1.arr, .int .i64 (fld cf me o x now hv n push).2]) ∧ Kept w w' := by
  obtain ⟨F, hF⟩ : ∃ F, cf.arr = F := ⟨_, rfl⟩
  obtain ⟨A, hA⟩ : ∃ A, o.arr q N c = A := ⟨_, rfl⟩
  obtain ⟨X, hX⟩ : ∃ X, x.arr = X := ⟨_, rfl⟩
  have sX : X.size = 13 := by rw [← hX]; rfl
  have oX : X.all (·.oneCell') = true := by rw [← hX]; exact cl_one x
  have sF : F.size = 14 := by rw [← hF]; rfl
  have x2 : X[2]? = some (.int .i64 x.s) := by rw [← hX]; rfl
  have x5 : X[5]? = some (.int .i64 x.att) := by rw [← hX]; rfl
  have x6 : X[6]? = some (.int .i64 x.st) := by rw [← hX]; rfl
  have c13 : A[13]? = some (.int .i64 o.dl) := by rw [← hA]; rfl
  have d12 : F[12]? = some (.int .i64 cf.tokens) := by rw [← hF]; rfl
  obtain ⟨W, hW⟩ : ∃ W, (((w.alloc (.cells F 24)).alloc (.cells A 31)).alloc (.cells X 33)).alloc (.cells zeroL 33) = W := ⟨_, rfl⟩
  have hL : Bl w W [(F, 24), (A, 31), (X, 33), (zeroL, 33)] := hW ▸ Bl.four w F A X _ _ _ _ _
  have h6 : W.cell? ⟨w.heap.size + 1 + 1, 6, none⟩ = some (.int .i64 x.st) := (hL.cell 2 6 rfl).trans x6
  have h12 : W.cell? ⟨w.heap.size, 12, none⟩ = some (.int .i64 cf.tokens) := (hL.cell 0 12 rfl).trans d12
  have h13 : W.cell? ⟨w.heap.size + 1, 13, none⟩ = some (.int .i64 o.dl) := (hL.cell 1 13 rfl).trans c13
  have h2 : W.cell? ⟨w.heap.size + 1 + 1, 2, none⟩ = some (.int .i64 x.s) := (hL.cell 2 2 rfl).trans x2
  have h5 : W.cell? ⟨w.heap.size + 1 + 1, 5, none⟩ = some (.int .i64 x.att) := (hL.cell 2 5 rfl).trans x5
  have HW := Lib.hid hW
  have HS := Lib.hid hL
  rw [hF, hA, hX]
  clear hW hL
  rw [fld_no h, show (x, hv).1.arr = X from hX]
  clear hF hA hX
  go_enter Tryd.func15, Tryd.ntmps15
  go_upto_region 1 with fail
  rw [show (((w.alloc (.cells F 24)).alloc (.cells A 31)).alloc (.cells X 33)).alloc (.cells #[.int .i64 0, .int .i64 0, .int .i64 0, .int .i64 0, .int .i64 0, .int .i64 0, .int .i64 0, .int .i64 0, .int .i64 0, .bool false, .int .i64 0, .int .i64 0, .int .i64 0] 33) = W from HW.out]
  go_wp2_with (first
    | (refine load_w 33 (.tmp 11) rfl (w.heap.size + 1 + 1) rfl rfl X 13 (HS.out.blk 2 rfl) Tryd.underlying33 sX info_rcl ?_)
    | (refine wpList_store_row rfl 33 (.tmp 16) (.tmp 24) rfl (w.heap.size + 1 + 1 + 1) X rfl rfl 33 zeroL (HS.out.blk 3 rfl) (by rw [sX]; exact info_rcl) (by rw [sX]; rfl) oX ?_))
  have hz := HS.out.row 3 rfl X
  exact bodyPost_ret (Rw.results_row_tmp rfl _ _ (w.heap.size + 3) 33 _ (0, 0) _ rfl (hz.blk 3 rfl) Tryd.underlying33 rfl (by rw [sX]; exact info_rcl)) rfl ⟨rfl, hz.kept⟩

set_option maxRecDepth 100000 in
set_option maxHeartbeats 4000000 in
theorem failed_on (cf : Cf) (me : Int) (o : Ow) (x : Cl) (now hv n push : Int) (q : Option Addr) (N c : Nat) (w : World) (ha : Wd x.att) (h : x.st = 1) :
    Calls Tryd.prog 14 #[.agg cf.arr, .int .i64 me, .agg (o.arr q N c), .agg x.arr, .int .i64 now, .int .i64 hv, .int .i64 n, .int .i64 push] w fun e w' => e = .returned (.tuple #[.agg (fld cf me o x now hv n push).1.arr, .int .i64 (fld cf me o x now hv n push).2]) ∧ Kept w w' := by
  obtain ⟨F, hF⟩ : ∃ F, cf.arr = F := ⟨_, rfl⟩
  obtain ⟨A, hA⟩ : ∃ A, o.arr q N c = A := ⟨_, rfl⟩
  obtain ⟨X, hX⟩ : ∃ X, x.arr = X := ⟨_, rfl⟩
  have sX : X.size = 13 := by rw [← hX]; rfl
  have oX : X.all (·.oneCell') = true := by rw [← hX]; exact cl_one x
  have sF : F.size = 14 := by rw [← hF]; rfl
  have x2 : X[2]? = some (.int .i64 x.s) := by rw [← hX]; rfl
  have x5 : X[5]? = some (.int .i64 x.att) := by rw [← hX]; rfl
  have x6 : X[6]? = some (.int .i64 x.st) := by rw [← hX]; rfl
  have c13 : A[13]? = some (.int .i64 o.dl) := by rw [← hA]; rfl
  have d12 : F[12]? = some (.int .i64 cf.tokens) := by rw [← hF]; rfl
  obtain ⟨W, hW⟩ : ∃ W, (((w.alloc (.cells F 24)).alloc (.cells A 42)).alloc (.cells X 35)).alloc (.cells zeroL 35) = W := ⟨_, rfl⟩
  have hL : Bl w W [(F, 24), (A, 42), (X, 35), (zeroL, 35)] := hW ▸ Bl.four w F A X _ _ _ _ _
  have h6 : W.cell? ⟨w.heap.size + 1 + 1, 6, none⟩ = some (.int .i64 x.st) := (hL.cell 2 6 rfl).trans x6
  have h12 : W.cell? ⟨w.heap.size, 12, none⟩ = some (.int .i64 cf.tokens) := (hL.cell 0 12 rfl).trans d12
  have h13 : W.cell? ⟨w.heap.size + 1, 13, none⟩ = some (.int .i64 o.dl) := (hL.cell 1 13 rfl).trans c13
  have h2 : W.cell? ⟨w.heap.size + 1 + 1, 2, none⟩ = some (.int .i64 x.s) := (hL.cell 2 2 rfl).trans x2
  have h5 : W.cell? ⟨w.heap.size + 1 + 1, 5, none⟩ = some (.int .i64 x.att) := (hL.cell 2 5 rfl).trans x5
  have HW := Lib.hid hW
  have HS := Lib.hid hL
  rw [hF, hA, hX]
  clear hW hL
  obtain ⟨z, hz⟩ : ∃ z, Th.bad hv cf.tokens = z := ⟨_, rfl⟩
  obtain ⟨j, hj⟩ : ∃ j, Bo.jit me x.s x.att = j := ⟨_, rfl⟩
  rw [fld_on h, hz, hj]
  obtain ⟨y, k, hy⟩ : ∃ y k, bad x cf ⟨n, 0, false, push, z, now, o.dl, j⟩ = (y, k) := ⟨_, _, rfl⟩
  rw [hy]
  obtain ⟨Y, hY⟩ : ∃ Y, y.arr = Y := ⟨_, rfl⟩
  have sY : Y.size = 13 := by rw [← hY]; rfl
  have oY : Y.all (·.oneCell') = true := by rw [← hY]; exact cl_one y
  have CT := Lib.hid (show ∀ u, Calls Tryd.prog 43 #[.int .i64 hv, .int .i64 cf.tokens] u fun e w' => e = .returned (.int .i64 z) ∧ u = w' from fun u => by rw [← hz]; exact Th.bad_any _ _ u)
  have CJ := Lib.hid (show ∀ u, Calls Tryd.prog 45 #[.int .i64 me, .int .i64 x.s, .int .i64 x.att] u fun e w' => e = .returned (.int .i64 j) ∧ Kept u w' from fun u => by rw [← hj]; exact (Bo.jitter_any _ _ _ u).mono fun e w' h => ⟨h.1, h.2 ▸ Kept.refl _⟩)
  have CB := Lib.hid (show ∀ u, Calls Tryd.prog 44 #[.agg X, .agg F, .agg #[.int .i64 n, .int .i64 0, .bool false, .int .i64 push, .int .i64 z, .int .i64 now, .int .i64 o.dl, .int .i64 j]] u fun e w' => e = .returned (.tuple #[.agg Y, .int .i64 k]) ∧ Kept u w' from fun u => by
    have := bad_any x cf ⟨n, 0, false, push, z, now, o.dl, j⟩ ha.2 u
    rw [hy, hX, hF, hY] at this; exact this)
  rw [show ((y, z) : Cl × Int).1.arr = Y from hY]
  rw [h] at h6
  clear hF hA hX hz hj hy hY h
  go_enter Tryd.func14, Tryd.ntmps14
  go_upto_region 1 with fail
  rw [show (((w.alloc (.cells F 24)).alloc (.cells A 42)).alloc (.cells X 35)).alloc (.cells #[.int .i64 0, .int .i64 0, .int .i64 0, .int .i64 0, .int .i64 0, .int .i64 0, .int .i64 0, .int .i64 0, .int .i64 0, .bool false, .int .i64 0, .int .i64 0, .int .i64 0] 35) = W from HW.out]
  go_upto_region 4 with (go_at_call 43; refine (CT.out _).mono ?_; rintro e u2 ⟨rfl, rfl⟩)
  clear h6 h12 h13 h2 h5
  have hST : Stab (fun u => Bl w u [(F, 24), (A, 42), (X, 35), (zeroL, 35)]) ∧ ∀ u, (fun u => Bl w u [(F, 24), (A, 42), (X, 35), (zeroL, 35)]) u → (fun u => Bl w u [(F, 24), (A, 42), (X, 35), (zeroL, 35)]) u := ⟨bl_stab, fun u h => h⟩
  refine AvT.region (fun u => Bl w u [(F, 24), (A, 42), (X, 35), (zeroL, 35)]) (fun u => Bl w u [(F, 24), (A, 42), (X, 35), (zeroL, 35)]) (by kernel_rfl) (hST.1 _ _ HS.out (Kept.refl _).drew) ?_
  refine AvT.take 0 (some 31) rfl rfl (by kernel_rfl) (by kernel_rfl) (by kernel_rfl) (fun _ _ _ h => h) hST (Au.yq_load 35 (.tmp 11) rfl _ rfl (by rfl) (fun u hu => load_cl (hu.blk 2 rfl) sX)) ?_
  simp only [Act.put, List.setIfInBounds_toArray, List.set_cons_zero, List.set_cons_succ]
  refine AvT.take 1 (some 32) rfl rfl (by kernel_rfl) (by kernel_rfl) (by kernel_rfl) (fun _ _ _ h => h) hST (Au.yq_load 24 (.tmp 8) rfl _ rfl (by rfl) (fun u hu => load_cf (hu.blk 0 rfl) sF)) ?_
  simp only [Act.put, List.setIfInBounds_toArray, List.set_cons_zero, List.set_cons_succ]
  refine AvT.take 2 (some 33) (v := ?_) rfl rfl (by kernel_rfl) (by kernel_rfl) (by kernel_rfl) (fun _ _ _ h => h) hST (Au.yq_run (by rfl) (fun u hu => ?_)) ?_
  rotate_left
  · (clear hu; go_simp; try with_reducible rfl)
  simp only [Act.put, List.setIfInBounds_toArray, List.set_cons_zero, List.set_cons_succ]
  refine AvT.take 3 (some 34) (v := ?_) rfl rfl (by kernel_rfl) (by kernel_rfl) (by kernel_rfl) (fun _ _ _ h => h) hST (Au.yq_run (by rfl) (fun u hu => ?_)) ?_
  rotate_left
  · (clear hu; go_simp; try with_reducible rfl)
  simp only [Act.put, List.setIfInBounds_toArray, List.set_cons_zero, List.set_cons_succ]
  refine AvT.take 4 (some 35) (v := ?_) rfl rfl (by kernel_rfl) (by kernel_rfl) (by kernel_rfl) (fun _ _ _ h => h) hST (Au.yq_run (by rfl) (fun u hu => ?_)) ?_
  rotate_left
  · (clear hu; go_simp; try with_reducible rfl)
  simp only [Act.put, List.setIfInBounds_toArray, List.set_cons_zero, List.set_cons_succ]
  refine AvT.take 5 (some 36) (v := ?_) rfl rfl (by kernel_rfl) (by kernel_rfl) (by kernel_rfl) (fun _ _ _ h => h) hST (Au.yq_run (by rfl) (fun u hu => ?_)) ?_
  rotate_left
  · (clear hu; go_simp; try with_reducible rfl)
  simp only [Act.put, List.setIfInBounds_toArray, List.set_cons_zero, List.set_cons_succ]
  refine AvT.take 6 (some 37) (v := ?_) rfl rfl (by kernel_rfl) (by kernel_rfl) (by kernel_rfl) (fun _ _ _ h => h) hST (Au.yq_run (by rfl) (fun u hu => ?_)) ?_
  rotate_left
  · (clear hu; go_simp; try with_reducible rfl)
  simp only [Act.put, List.setIfInBounds_toArray, List.set_cons_zero, List.set_cons_succ]
  refine AvT.take 7 (some 38) rfl rfl (by kernel_rfl) (by kernel_rfl) (by kernel_rfl) (fun _ _ _ h => h) hST (Au.yq_load 3 (.tmp 37) rfl _ rfl (by rfl) (fun u hu => run_loadi ((hu.cell 1 13 rfl).trans c13))) ?_
  simp only [Act.put, List.setIfInBounds_toArray, List.set_cons_zero, List.set_cons_succ]
  refine AvT.take 8 (some 39) (v := ?_) rfl rfl (by kernel_rfl) (by kernel_rfl) (by kernel_rfl) (fun _ _ _ h => h) hST (Au.yq_run (by rfl) (fun u hu => ?_)) ?_
  rotate_left
  · (clear hu; go_simp; try with_reducible rfl)
  simp only [Act.put, List.setIfInBounds_toArray, List.set_cons_zero, List.set_cons_succ]
  refine AvT.take 9 (some 40) (v := ?_) rfl rfl (by kernel_rfl) (by kernel_rfl) (by kernel_rfl) (fun _ _ _ h => h) hST (Au.yq_run (by rfl) (fun u hu => ?_)) ?_
  rotate_left
  · (clear hu; go_simp; try with_reducible rfl)
  simp only [Act.put, List.setIfInBounds_toArray, List.set_cons_zero, List.set_cons_succ]
  refine AvT.take 10 (some 41) (v := ?_) rfl rfl (by kernel_rfl) (by kernel_rfl) (by kernel_rfl) (fun _ _ _ h => h) hST (Au.yq_run (by rfl) (fun u hu => ?_)) ?_
  rotate_left
  · (clear hu; go_simp; try with_reducible rfl)
  simp only [Act.put, List.setIfInBounds_toArray, List.set_cons_zero, List.set_cons_succ]
  refine AvT.take 11 (some 42) rfl rfl (by kernel_rfl) (by kernel_rfl) (by kernel_rfl) (fun _ _ _ h => h) hST (Au.yq_load 3 (.tmp 41) rfl _ rfl (by rfl) (fun u hu => run_loadi ((hu.cell 2 2 rfl).trans x2))) ?_
  simp only [Act.put, List.setIfInBounds_toArray, List.set_cons_zero, List.set_cons_succ]
  refine AvT.take 12 (some 43) (v := ?_) rfl rfl (by kernel_rfl) (by kernel_rfl) (by kernel_rfl) (fun _ _ _ h => h) hST (Au.yq_run (by rfl) (fun u hu => ?_)) ?_
  rotate_left
  · (clear hu; go_simp; try with_reducible rfl)
  simp only [Act.put, List.setIfInBounds_toArray, List.set_cons_zero, List.set_cons_succ]
  refine AvT.take 13 (some 44) rfl rfl (by kernel_rfl) (by kernel_rfl) (by kernel_rfl) (fun _ _ _ h => h) hST (Au.yq_load 3 (.tmp 43) rfl _ rfl (by rfl) (fun u hu => run_loadi ((hu.cell 2 5 rfl).trans x5))) ?_
  simp only [Act.put, List.setIfInBounds_toArray, List.set_cons_zero, List.set_cons_succ]
  refine AvT.take 14 (some 45) rfl rfl (by kernel_rfl) (by kernel_rfl) (by kernel_rfl) (fun _ _ _ h => h) hST (Au.yq_call 45 _ (by rfl) (fun u => by go_simp) (fun u hu => CJ.out u)) ?_
  simp only [Act.put, List.setIfInBounds_toArray, List.set_cons_zero, List.set_cons_succ]
  refine AvT.take 15 (some 46) (v := ?_) rfl rfl (by kernel_rfl) (by kernel_rfl) (by kernel_rfl) (fun _ _ _ h => h) hST (Au.yq_run (by rfl) (fun u hu => ?_)) ?_
  rotate_left
  · (clear hu; go_simp; try with_reducible rfl)
  simp only [Act.put, List.setIfInBounds_toArray, List.set_cons_zero, List.set_cons_succ]
  refine AvT.take 16 (some 47) rfl rfl (by kernel_rfl) (by kernel_rfl) (by kernel_rfl) (fun _ _ _ h => h) hST (Au.yq_call 44 _ (by rfl) (fun u => by go_simp) (fun u hu => CB.out u)) ?_
  simp only [Act.put, List.setIfInBounds_toArray, List.set_cons_zero, List.set_cons_succ]
  refine AvT.take 17 (some 30) (v := ?_) rfl rfl (by kernel_rfl) (by kernel_rfl) (by kernel_rfl) (fun _ _ _ h => h) hST (Au.yq_run (by rfl) (fun u hu => ?_)) ?_
  rotate_left
  · (clear hu; go_simp; try with_reducible rfl)
  simp only [Act.put, List.setIfInBounds_toArray, List.set_cons_zero, List.set_cons_succ]
  refine AvT.take 18 (some 48) (v := ?_) rfl rfl (by kernel_rfl) (by kernel_rfl) (by kernel_rfl) (fun _ _ _ h => h) hST (Au.yq_run (by rfl) (fun u hu => ?_)) ?_
  rotate_left
  · (clear hu; go_simp; try with_reducible rfl)
  simp only [Act.put, List.setIfInBounds_toArray, List.set_cons_zero, List.set_cons_succ]
  refine AvT.take 19 (some 49) (v := ?_) rfl rfl (by kernel_rfl) (by kernel_rfl) (by kernel_rfl) (fun _ _ _ h => h) hST (Au.yq_run (by rfl) (fun u hu => ?_)) ?_
  rotate_left
  · (clear hu; go_simp; try with_reducible rfl)
  simp only [Act.put, List.setIfInBounds_toArray, List.set_cons_zero, List.set_cons_succ]
  refine AvT.step 20 rfl (by kernel_rfl) (fun v hv K hK => ?_)
  rw [if_pos (by rfl)]
  go_simp
  obtain ⟨g, hg⟩ : ∃ g, v.heap.size = g := ⟨_, rfl⟩
  have hng : w.heap.size + 4 ≤ g := by rw [← hg]; exact hv.size
  refine hK.out (fun u => Bl w u [(F, 24), (A, 42), (X, 35), (zeroL, 35)] ∧ u.heap[g]? = some (.cells zeroL 35 (0, 0))) _ _ ⟨hv.go (Kept.one _ _), by rw [← hg]; exact blk_new v _⟩ (stab_and bl_stab blk_stab) (fun u h => h.1) ?_
  rw [hg]
  clear hK K hv hg
  clear v
  refine AvT.step 21 rfl (by kernel_rfl) (fun v hv K hK => ?_)
  rw [if_pos (by rfl)]
  refine wp_store_row 35 (.tmp 19) (.tmp 48) rfl g Y rfl rfl 35 zeroL hv.2 (by rw [sY]; exact info_cl) (by rw [sY]; rfl) oY ?_
  refine hK.out (fun u => Bl w u [(F, 24), (A, 42), (X, 35), (zeroL, 35)] ∧ u.heap[g]? = some (.cells Y 35 (0, 0))) _ _ ⟨hv.1.far hng Y, setRow_heap _ _ zeroL Y _ _ hv.2⟩ (stab_and bl_stab blk_stab) (fun u h => h.1) ?_
  clear hK K hv
  clear v hST
  have hST : Stab (fun u => Bl w u [(F, 24), (A, 42), (X, 35), (zeroL, 35)] ∧ u.heap[g]? = some (.cells Y 35 (0, 0))) ∧ ∀ u, (Bl w u [(F, 24), (A, 42), (X, 35), (zeroL, 35)] ∧ u.heap[g]? = some (.cells Y 35 (0, 0))) → (fun u => Bl w u [(F, 24), (A, 42), (X, 35), (zeroL, 35)]) u := ⟨stab_and bl_stab blk_stab, fun u h => h.1⟩
  refine AvT.take 22 (some 20) (v := ?_) rfl rfl (by kernel_rfl) (by kernel_rfl) (by kernel_rfl) (fun _ _ _ h => h) hST (Au.yq_run (by rfl) (fun u hu => ?_)) ?_
  rotate_left
  · (clear hu; go_simp; try with_reducible rfl)
  simp only [Act.put, List.setIfInBounds_toArray, List.set_cons_zero, List.set_cons_succ]
  refine AvT.done (by kernel_rfl) (fun V hV => ?_)
  have HV := Lib.hid hV
  clear hST hV
  go_wp2_with (first
    | (refine load_w 35 (.tmp 19) rfl g rfl rfl Y 13 HV.out.2 Tryd.underlying35 sY info_cl ?_)
    | (refine wpList_store_row rfl 35 (.tmp 16) (.tmp 50) rfl (w.heap.size + 1 + 1 + 1) Y rfl rfl 35 zeroL (HV.out.1.blk 3 rfl) (by rw [sY]; exact info_cl) (by rw [sY]; rfl) oY ?_))
  have hz := HV.out.1.row 3 rfl Y
  exact bodyPost_ret (Rw.results_row_tmp rfl _ _ (w.heap.size + 3) 35 _ (0, 0) _ rfl (hz.blk 3 rfl) Tryd.underlying35 rfl (by rw [sY]; exact info_cl)) rfl ⟨rfl, hz.kept⟩

set_option maxRecDepth 100000 in
set_option maxHeartbeats 4000000 in
theorem rfailed_on (cf : Cf) (me : Int) (o : Ow) (x : Cl) (now hv n push : Int) (q : Option Addr) (N c : Nat) (w : World) (ha : Wd x.att) (h : x.st = 1) :
    Calls Tryd.prog 15 #[.agg cf.arr, .int .i64 me, .agg (o.arr q N c), .agg x.arr, .int .i64 now, .int .i64 hv, .int .i64 n, .int .i64 push] w fun e w' => e = .returned (.tuple #[.agg (fld cf me o x now hv n push).1.arr, .int .i64 (fld cf me o x now hv n push).2]) ∧ Kept w w' := by
  obtain ⟨F, hF⟩ : ∃ F, cf.arr = F := ⟨_, rfl⟩
  obtain ⟨A, hA⟩ : ∃ A, o.arr q N c = A := ⟨_, rfl⟩
  obtain ⟨X, hX⟩ : ∃ X, x.arr = X := ⟨_, rfl⟩
  have sX : X.size = 13 := by rw [← hX]; rfl
  have oX : X.all (·.oneCell') = true := by rw [← hX]; exact cl_one x
  have sF : F.size = 14 := by rw [← hF]; rfl
  have x2 : X[2]? = some (.int .i64 x.s) := by rw [← hX]; rfl
  have x5 : X[5]? = some (.int .i64 x.att) := by rw [← hX]; rfl
  have x6 : X[6]? = some (.int .i64 x.st) := by rw [← hX]; rfl
  have c13 : A[13]? = some (.int .i64 o.dl) := by rw [← hA]; rfl
  have d12 : F[12]? = some (.int .i64 cf.tokens) := by rw [← hF]; rfl
  obtain ⟨W, hW⟩ : ∃ W, (((w.alloc (.cells F 24)).alloc (.cells A 31)).alloc (.cells X 33)).alloc (.cells zeroL 33) = W := ⟨_, rfl⟩
  have hL : Bl w W [(F, 24), (A, 31), (X, 33), (zeroL, 33)] := hW ▸ Bl.four w F A X _ _ _ _ _
  have h6 : W.cell? ⟨w.heap.size + 1 + 1, 6, none⟩ = some (.int .i64 x.st) := (hL.cell 2 6 rfl).trans x6
  have h12 : W.cell? ⟨w.heap.size, 12, none⟩ = some (.int .i64 cf.tokens) := (hL.cell 0 12 rfl).trans d12
  have h13 : W.cell? ⟨w.heap.size + 1, 13, none⟩ = some (.int .i64 o.dl) := (hL.cell 1 13 rfl).trans c13
  have h2 : W.cell? ⟨w.heap.size + 1 + 1, 2, none⟩ = some (.int .i64 x.s) := (hL.cell 2 2 rfl).trans x2
  have h5 : W.cell? ⟨w.heap.size + 1 + 1, 5, none⟩ = some (.int .i64 x.att) := (hL.cell 2 5 rfl).trans x5
  have HW := Lib.hid hW
  have HS := Lib.hid hL
  rw [hF, hA, hX]
  clear hW hL
  obtain ⟨z, hz⟩ : ∃ z, Th.bad hv cf.tokens = z := ⟨_, rfl⟩
  obtain ⟨j, hj⟩ : ∃ j, Bo.jit me x.s x.att = j := ⟨_, rfl⟩
  rw [fld_on h, hz, hj]
  obtain ⟨y, k, hy⟩ : ∃ y k, bad x cf ⟨n, 0, false, push, z, now, o.dl, j⟩ = (y, k) := ⟨_, _, rfl⟩
  rw [hy]
  obtain ⟨Y, hY⟩ : ∃ Y, y.arr = Y := ⟨_, rfl⟩
  have sY : Y.size = 13 := by rw [← hY]; rfl
  have oY : Y.all (·.oneCell') = true := by rw [← hY]; exact cl_one y
  have CT := Lib.hid (show ∀ u, Calls Tryd.prog 46 #[.int .i64 hv, .int .i64 cf.tokens] u fun e w' => e = .returned (.int .i64 z) ∧ u = w' from fun u => by rw [← hz]; exact Th.rbad_any _ _ u)
  have CJ := Lib.hid (show ∀ u, Calls Tryd.prog 47 #[.int .i64 me, .int .i64 x.s, .int .i64 x.att] u fun e w' => e = .returned (.int .i64 j) ∧ u = w' from fun u => by rw [← hj]; exact Bo.rjitter_any _ _ _ u)
  obtain ⟨f0, hf0⟩ : ∃ f : Ft, f = ⟨n, 0, false, push, 0, now, o.dl, 0⟩ := ⟨_, rfl⟩
  obtain ⟨f2, hf2⟩ : ∃ f : Ft, f = ⟨n, 0, false, push, z, now, o.dl, j⟩ := ⟨_, rfl⟩
  have CB := Lib.hid (show ∀ u, Calls Tryd.prog 48 #[.agg X, .agg F, .agg f2.arr] u fun e w' => e = .returned (.tuple #[.agg Y, .int .i64 k]) ∧ Kept u w' from fun u => by
    have := rbad_any x cf ⟨n, 0, false, push, z, now, o.dl, j⟩ ha.2 u
    rw [hy, hX, hF, hY] at this; rw [hf2]; exact this)
  have H0 : Hid (Value.agg #[.int .i64 n, .int .i64 0, .bool false, .int .i64 push, .int .i64 0, .int .i64 now, .int .i64 o.dl, .int .i64 0] = .agg f0.arr) := Lib.hid (by rw [hf0]; rfl)
  have H2 : Hid ((f0.arr.setIfInBounds 4 (.int .i64 z)).setIfInBounds 7 (.int .i64 j) = f2.arr) := Lib.hid (by rw [hf0, hf2]; rfl)
  have y4 : f0.arr[4]? = some (.int .i64 0) := by rw [hf0]; rfl
  have y7 : (f0.arr.setIfInBounds 4 (.int .i64 z))[7]? = some (.int .i64 0) := by rw [hf0]; rfl
  have y42 : f2.arr[4]? = some (.int .i64 z) := by rw [hf2]; rfl
  have s0 : f0.arr.size = 8 := rfl
  have o0 : f0.arr.all (·.oneCell') = true := by rw [hf0]; kernel_rfl
  rw [show ((y, z) : Cl × Int).1.arr = Y from hY]
  rw [h] at h6
  obtain ⟨W5, hW5⟩ : ∃ W5, W.alloc (.cells f0.arr 84) = W5 := ⟨_, rfl⟩
  have hsz : W.heap.size = w.heap.size + 4 := by rw [← HW.out]; simp
  have hL5 : Bl w W5 [(F, 24), (A, 31), (X, 33), (zeroL, 33), (f0.arr, 84)] := by rw [← hW5, ← HW.out]; exact Bl.fiv w F A X _ _ _ _ _ _ _
  have HW5 := Lib.hid (show W.alloc (.cells #[.int .i64 n, .int .i64 0, .bool false, .int .i64 push, .int .i64 0, .int .i64 now, .int .i64 o.dl, .int .i64 0] 84) = W5 from by rw [← hW5, hf0]; rfl)
  have HP := Lib.hid (show W.heap.size = w.heap.size + 1 + 1 + 1 + 1 from hsz)
  clear hF hA hX hz hj hy hY h hf0 hf2 hW5 hsz
  go_enter Tryd.func15, Tryd.ntmps15
  go_upto_region 1 with fail
  rw [show (((w.alloc (.cells F 24)).alloc (.cells A 31)).alloc (.cells X 33)).alloc (.cells #[.int .i64 0, .int .i64 0, .int .i64 0, .int .i64 0, .int .i64 0, .int .i64 0, .int .i64 0, .int .i64 0, .int .i64 0, .bool false, .int .i64 0, .int .i64 0, .int .i64 0] 33) = W from HW.out]
  go_upto_region 4 with fail
  rw [HW5.out, HP.out]
  have g12 : W5.cell? ⟨w.heap.size, 12, none⟩ = some (.int .i64 cf.tokens) := (hL5.cell 0 12 rfl).trans d12
  have k4 : W5.cell? ⟨w.heap.size + 1 + 1 + 1 + 1, 4, none⟩ = some (.int .i64 0) := (hL5.cell 4 4 rfl).trans y4
  have k4f : W5.frozen? ⟨w.heap.size + 1 + 1 + 1 + 1, 4, none⟩ = false := hL5.free 4 4 rfl
  have hL6 := (hL5.put 4 4 rfl (.int .i64 z)).as (L' := [(F, 24), (A, 31), (X, 33), (zeroL, 33), (f0.arr.setIfInBounds 4 (.int .i64 z), 84)]) rfl
  have HL5 := Lib.hid hL5
  clear h6 h12 h13 h2 h5 hL5
  go_upto_region 5 with (go_at_call 46; refine (CT.out _).mono ?_; rintro e u2 ⟨rfl, rfl⟩)
  clear k4 k4f g12
  obtain ⟨W6, hW6⟩ : ∃ W6, W5.setCell ⟨w.heap.size + 1 + 1 + 1 + 1, 4, none⟩ (.int .i64 z) = W6 := ⟨_, rfl⟩
  rw [show (w.heap.size + 4) = w.heap.size + 1 + 1 + 1 + 1 from rfl, hW6] at hL6
  rw [hW6]
  have g2 : W6.cell? ⟨w.heap.size + 1 + 1, 2, none⟩ = some (.int .i64 x.s) := (hL6.cell 2 2 rfl).trans x2
  have g5 : W6.cell? ⟨w.heap.size + 1 + 1, 5, none⟩ = some (.int .i64 x.att) := (hL6.cell 2 5 rfl).trans x5
  have k7 : W6.cell? ⟨w.heap.size + 1 + 1 + 1 + 1, 7, none⟩ = some (.int .i64 0) := (hL6.cell 4 7 rfl).trans y7
  have k7f : W6.frozen? ⟨w.heap.size + 1 + 1 + 1 + 1, 7, none⟩ = false := hL6.free 4 7 rfl
  have hL7 := (hL6.put 4 7 rfl (.int .i64 j)).as (L' := [(F, 24), (A, 31), (X, 33), (zeroL, 33), (f2.arr, 84)]) (by rw [← H2.out]; rfl)
  clear hL6 hW6
  go_upto_region 6 with (go_at_call 47; refine (CJ.out _).mono ?_; rintro e u2 ⟨rfl, rfl⟩)
  clear g2 g5 k7 k7f
  obtain ⟨W7, hW7⟩ : ∃ W7, W6.setCell ⟨w.heap.size + 1 + 1 + 1 + 1, 7, none⟩ (.int .i64 j) = W7 := ⟨_, rfl⟩
  rw [show (w.heap.size + 4) = w.heap.size + 1 + 1 + 1 + 1 from rfl, hW7] at hL7
  rw [hW7]
  have HL7 := Lib.hid hL7
  clear hL7 hW7
  go_upto_region 7 with (first
    | (refine load_w 33 (.tmp 11) rfl (w.heap.size + 1 + 1) rfl rfl X 13 (HL7.out.blk 2 rfl) Tryd.underlying33 sX info_rcl ?_)
    | (refine load_w 24 (.tmp 8) rfl w.heap.size rfl rfl F 14 (HL7.out.blk 0 rfl) Tryd.underlying24 sF info_cf ?_)
    | (refine load_w 84 (.tmp 18) rfl (w.heap.size + 1 + 1 + 1 + 1) rfl rfl f2.arr 8 (HL7.out.blk 4 rfl) Tryd.underlying84 rfl info_rft ?_)
    | (go_at_call 48; refine (CB.out _).mono ?_; rintro e u ⟨rfl, kk⟩)
    | (refine store_new rfl 33 (.tmp 19) (.tmp 50) rfl u.heap.size Y rfl rfl u _ rfl 13 info_rcl sY rfl oY ?_))
  obtain ⟨V, hV⟩ : ∃ V, u.alloc (.cells Y 33) = V := ⟨_, rfl⟩
  rw [hV]
  have hb : Bl w V [(F, 24), (A, 31), (X, 33), (zeroL, 33), (f2.arr, 84)] := by rw [← hV]; exact (HL7.out.go kk).go (Kept.one _ _)
  have bV : V.heap[u.heap.size]? = some (.cells Y 33 (0, 0)) := by rw [← hV]; exact blk_new u _
  have hng : w.heap.size + 5 ≤ u.heap.size := (HL7.out.go kk).size
  obtain ⟨g, hg⟩ : ∃ g, u.heap.size = g := ⟨_, rfl⟩
  rw [hg] at bV hng ⊢
  have HV := Lib.hid (And.intro hb bV)
  clear hV hg hb bV kk
  have hST : Stab (fun u => Bl w u [(F, 24), (A, 31), (X, 33), (zeroL, 33), (f2.arr, 84)] ∧ u.heap[g]? = some (.cells Y 33 (0, 0))) ∧ ∀ u, (fun u => Bl w u [(F, 24), (A, 31), (X, 33), (zeroL, 33), (f2.arr, 84)] ∧ u.heap[g]? = some (.cells Y 33 (0, 0))) u → (fun u => (∃ C, Bl w u [(F, 24), (A, 31), (X, 33), (C, 33), (f2.arr, 84)]) ∧ u.heap[g]? = some (.cells Y 33 (0, 0))) u := ⟨stab_and bl_stab blk_stab, fun u h => ⟨⟨_, h.1⟩, h.2⟩⟩
  refine AvT.region (fun u => (∃ C, Bl w u [(F, 24), (A, 31), (X, 33), (C, 33), (f2.arr, 84)]) ∧ u.heap[g]? = some (.cells Y 33 (0, 0))) (fun u => Bl w u [(F, 24), (A, 31), (X, 33), (zeroL, 33), (f2.arr, 84)] ∧ u.heap[g]? = some (.cells Y 33 (0, 0))) (by kernel_rfl) (hST.1 _ _ HV.out (Kept.refl _).drew) ?_
  refine AvT.take 0 (some 52) rfl rfl (by kernel_rfl) (by kernel_rfl) (by kernel_rfl) (fun _ _ _ h => h) hST (Au.yq_load 33 (.tmp 19) rfl _ rfl (by rfl) (fun u hu => load_rcl hu.2 sY)) ?_
  simp only [Act.put, List.setIfInBounds_toArray, List.set_cons_zero, List.set_cons_succ]
  refine AvT.take 1 (some 53) (v := ?_) rfl rfl (by kernel_rfl) (by kernel_rfl) (by kernel_rfl) (fun _ _ _ h => h) hST (Au.yq_run (by rfl) (fun u hu => ?_)) ?_
  rotate_left
  · (clear hu; go_simp; try with_reducible rfl)
  simp only [Act.put, List.setIfInBounds_toArray, List.set_cons_zero, List.set_cons_succ]
  refine AvT.take 2 (some 54) rfl rfl (by kernel_rfl) (by kernel_rfl) (by kernel_rfl) (fun _ _ _ h => h) hST (Au.yq_load 3 (.tmp 53) rfl _ rfl (by rfl) (fun u hu => by obtain ⟨⟨C, hC⟩, -⟩ := hu; exact run_loadi ((hC.cell 4 4 rfl).trans y42))) ?_
  simp only [Act.put, List.setIfInBounds_toArray, List.set_cons_zero, List.set_cons_succ]
  refine AvT.step 3 rfl (by kernel_rfl) (fun v hv K hK => ?_)
  rw [if_pos (by rfl)]
  refine wp_store_row 33 (.tmp 16) (.tmp 52) rfl (w.heap.size + 1 + 1 + 1) Y rfl rfl 33 zeroL (hv.1.blk 3 rfl) (by rw [sY]; exact info_rcl) (by rw [sY]; rfl) oY ?_
  refine hK.out (fun u => Bl w u [(F, 24), (A, 31), (X, 33), (Y, 33), (f2.arr, 84)] ∧ u.heap[g]? = some (.cells Y 33 (0, 0))) _ _ ⟨hv.1.row 3 rfl Y, far_row hv.2 (by omega)⟩ (stab_and bl_stab blk_stab) (fun u h => ⟨⟨_, h.1⟩, h.2⟩) ?_
  clear hK K hv hST
  clear v
  have hST : Stab (fun u => Bl w u [(F, 24), (A, 31), (X, 33), (Y, 33), (f2.arr, 84)] ∧ u.heap[g]? = some (.cells Y 33 (0, 0))) ∧ ∀ u, (fun u => Bl w u [(F, 24), (A, 31), (X, 33), (Y, 33), (f2.arr, 84)] ∧ u.heap[g]? = some (.cells Y 33 (0, 0))) u → (fun u => (∃ C, Bl w u [(F, 24), (A, 31), (X, 33), (C, 33), (f2.arr, 84)]) ∧ u.heap[g]? = some (.cells Y 33 (0, 0))) u := ⟨stab_and bl_stab blk_stab, fun u h => ⟨⟨_, h.1⟩, h.2⟩⟩
  refine AvT.take 4 (some 17) (v := ?_) rfl rfl (by kernel_rfl) (by kernel_rfl) (by kernel_rfl) (fun _ _ _ h => h) hST (Au.yq_run (by rfl) (fun u hu => ?_)) ?_
  rotate_left
  · (clear hu; go_simp; try with_reducible rfl)
  simp only [Act.put, List.setIfInBounds_toArray, List.set_cons_zero, List.set_cons_succ]
  refine AvT.done (by kernel_rfl) (fun u8 hz => ?_)
  go_wp2_with fail
  exact bodyPost_ret (Rw.results_row_tmp rfl _ _ (w.heap.size + 3) 33 _ (0, 0) _ rfl (hz.1.blk 3 rfl) Tryd.underlying33 rfl (by rw [sY]; exact info_rcl)) rfl ⟨rfl, hz.1.kept⟩

theorem failed_any (cf : Cf) (me : Int) (o : Ow) (x : Cl) (now hv n push : Int) (q : Option Addr) (N c : Nat) (w : World) (ha : Wd x.att) :
    Calls Tryd.prog 14 #[.agg cf.arr, .int .i64 me, .agg (o.arr q N c), .agg x.arr, .int .i64 now, .int .i64 hv, .int .i64 n, .int .i64 push] w fun e w' => e = .returned (.tuple #[.agg (fld cf me o x now hv n push).1.arr, .int .i64 (fld cf me o x now hv n push).2]) ∧ Kept w w' := by
  by_cases h : x.st = 1
  · exact failed_on cf me o x now hv n push q N c w ha h
  · exact failed_no cf me o x now hv n push q N c w ha h

theorem rfailed_any (cf : Cf) (me : Int) (o : Ow) (x : Cl) (now hv n push : Int) (q : Option Addr) (N c : Nat) (w : World) (ha : Wd x.att) :
    Calls Tryd.prog 15 #[.agg cf.arr, .int .i64 me, .agg (o.arr q N c), .agg x.arr, .int .i64 now, .int .i64 hv, .int .i64 n, .int .i64 push] w fun e w' => e = .returned (.tuple #[.agg (fld cf me o x now hv n push).1.arr, .int .i64 (fld cf me o x now hv n push).2]) ∧ Kept w w' := by
  by_cases h : x.st = 1
  · exact rfailed_on cf me o x now hv n push q N c w ha h
  · exact rfailed_no cf me o x now hv n push q N c w ha h

end Go.Proofs.YtncdiggejofbbaaDoor.Sn
