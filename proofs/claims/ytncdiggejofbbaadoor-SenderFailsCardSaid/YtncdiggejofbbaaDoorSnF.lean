/- The law: an attempt of a call fails, by the program and by the document. -/
import Derived.Test.YtncdiggejofbbaaDoorSn5
import Derived.Test.YtncdiggejofbbaaDoorSnW
import Derived.Test.YtncdiggejofbbaaDoorOwE
import Derived.Test.YtncdiggejofbbaaDoorSnC
namespace Go.Proofs.YtncdiggejofbbaaDoor.Sn
open Go.RowKit Go.Sort Go.Shelf St PkM Ad Po Blk Eqs
open Go.Proofs.YtncdiggejofbbaaDoor.Cl
open Go.Proofs.YtncdiggejofbbaaDoor.Ow
open Go.Proofs.YtncdiggejofbbaaDoor.Ls
open Go.Proofs.YtncdiggejofbbaaDoor.Rv
open Go.Proofs.YtncdiggejofbbaaDoor.Au (Stab stab_and)
open Go.Proofs.YtncdiggejofbbaaDoor.Ad (load_w load_l store_new)
set_option linter.unusedVariables false
set_option linter.unusedSimpArgs false

set_option maxRecDepth 100000 in
set_option maxHeartbeats 4000000 in
theorem fails_any {w : World} {q : Option Addr} {N c : Nat} {K : List Cl} (cf : Cf) (me : Int) (o : Ow) (x : Cl) (now hv' n push : Int) (hv : Cls w (.slice q N c) K) (ht : Tm.Tab w) (ha : Wd x.att)  :
    Calls Tryd.prog 4 #[.agg cf.arr, .int .i64 me, .agg (o.arr q N c), .agg x.arr, .int .i64 now, .int .i64 hv', .int .i64 n, .int .i64 push] w fun e w' => e = .returned (.bool true) ∧ Kept w w' := by
  have hN : K.length = N := by obtain ⟨p, cap, e⟩ := hv.shape; cases e; rfl
  obtain ⟨F, hF⟩ : ∃ F, cf.arr = F := ⟨_, rfl⟩
  obtain ⟨A, hA⟩ : ∃ A, o.arr q N c = A := ⟨_, rfl⟩
  obtain ⟨X, hX⟩ : ∃ X, x.arr = X := ⟨_, rfl⟩
  have sF : F.size = 14 := by rw [← hF]; rfl
  have sA : A.size = 19 := by rw [← hA]; rfl
  have sX : X.size = 13 := by rw [← hX]; rfl
  obtain ⟨W, hW⟩ : ∃ W, ((w.alloc (.cells F 24)).alloc (.cells A 31)).alloc (.cells X 33) = W := ⟨_, rfl⟩
  have hb : Bl w W [(F, 24), (A, 31), (X, 33)] := hW ▸ Bl.three w F A X _ _ _
  have h18 : W.cell? ⟨w.heap.size + 1, 18, none⟩ = some (.slice q N c) := (hb.cell 1 18 rfl).trans (show A[18]? = _ by rw [← hA]; rfl)
  have x12 : W.cell? ⟨w.heap.size + 1 + 1, 12, none⟩ = some (.int .i64 x.tr) := (hb.cell 2 12 rfl).trans (show X[12]? = _ by rw [← hX]; rfl)
  have HW := Lib.hid hW
  have HS0 := Lib.hid hb
  have HT := Lib.hid ht
  have HAW := Lib.hid (show ∀ u, Kept w u → Calls Tryd.prog 8 #[] u fun e w' => e = .returned (.bool true) ∧ Kept u w' from fun u hu => awake_any u (ht.kept hu))
  rw [hF, hA, hX]
  by_cases hok : N ≤ 30
  · have e1 : ¬ 30 < (N : Int) := by omega
    obtain ⟨y, k, hy⟩ : ∃ y k, fld cf me o x now hv' n push = (y, k) := ⟨_, _, rfl⟩
    obtain ⟨Y, hY⟩ : ∃ Y, y.arr = Y := ⟨_, rfl⟩
    have sY : Y.size = 13 := by rw [← hY]; rfl
    have oY : Y.all (·.oneCell') = true := by rw [← hY]; exact cl_one y
    have HV := Lib.hid hv
    have HN := Lib.hid hN
    have C1 := Lib.hid (show ∀ u, Calls Tryd.prog 11 #[.agg X] u fun e w' => e = .returned (.agg X) ∧ Kept u w' from fun u => by rw [← hX]; exact one_any x u)
    have CM := Lib.hid (show ∀ u, Kept w u → Calls Tryd.prog 10 #[.agg A] u fun e w' => ∃ q' n' c', e = .returned (.agg (o.arr q' n' c')) ∧ Mc w' (.slice q' n' c') K ∧ (∀ g, (Value.slice q' n' c').ownBlock = some g → u.heap.size ≤ g) ∧ Kept u w' from fun u hu => by rw [← hA]; exact mine_any o (hv.go hu) (by omega))
    have CS := Lib.hid (show ∀ u q' n' c', Calls Tryd.prog 14 #[.agg F, .int .i64 me, .agg (o.arr q' n' c'), .agg X, .int .i64 now, .int .i64 hv', .int .i64 n, .int .i64 push] u fun e w' => e = .returned (.tuple #[.agg Y, .int .i64 k]) ∧ Kept u w' from fun u q' n' c' => by
      have := failed_any cf me o x now hv' n push q' n' c' u ha
      rw [hy, hF, hX] at this; rw [← hY]; exact this)
    have CR := Lib.hid (show ∀ u, Calls Tryd.prog 15 #[.agg F, .int .i64 me, .agg A, .agg X, .int .i64 now, .int .i64 hv', .int .i64 n, .int .i64 push] u fun e w' => e = .returned (.tuple #[.agg Y, .int .i64 k]) ∧ Kept u w' from fun u => by
      have := rfailed_any cf me o x now hv' n push q N c u ha
      rw [hy, hF, hX, hA] at this; rw [← hY]; exact this)
    have CT := Lib.hid (show ∀ u, Calls Tryd.prog 13 #[.agg Y] u fun e w' => e = .returned (.agg Y) ∧ Kept u w' from fun u => by rw [← hY]; exact theirs_any y u)
    have he1 : ∀ u, (binOp .eql 33 (.agg Y) (.agg Y)).run Tryd.prog u = .ok (.bool true) u := fun u => by rw [← hY]; exact (eq_rcl y y u).trans (by rw [sameC_self])
    clear hv ht hb hW hN hF hA hX hy hY x12
    go_enter Tryd.func4, Tryd.ntmps4
    go_upto_region 1 with fail
    rw [HW.out]
    go_upto_region 3 with fail
    clear h18 e1
    go_cut [17, 18] (fun p1 t wx => ∃ gA : Nat, p1 = .pointer (some ⟨gA, 0, none⟩) ∧ t = .int .i64 k ∧ Bl w wx [(F, 24), (A, 31), (X, 33)] ∧ wx.heap[gA]? = some (.cells Y 35 (0, 0)) ∧ w.heap.size + 3 ≤ gA)
    case first =>
      have hST : Stab (fun u => Bl w u [(F, 24), (A, 31), (X, 33)]) ∧ ∀ u, (fun u => Bl w u [(F, 24), (A, 31), (X, 33)]) u → (fun u => Bl w u [(F, 24), (A, 31), (X, 33)]) u := ⟨bl_stab, fun u h => h⟩
      refine AvT.region (fun u => Bl w u [(F, 24), (A, 31), (X, 33)]) (fun u => Bl w u [(F, 24), (A, 31), (X, 33)]) (by kernel_rfl) (hST.1 _ _ HS0.out (Kept.refl _).drew) ?_
      refine AvT.take 0 (some 27) rfl rfl (by kernel_rfl) (by kernel_rfl) (by kernel_rfl) (fun _ _ _ h => h) hST (Au.yq_load 24 (.tmp 8) rfl _ rfl (by rfl) (fun u hu => load_cf (hu.blk 0 rfl) sF)) ?_
      simp only [Act.put, List.setIfInBounds_toArray, List.set_cons_zero, List.set_cons_succ]
      refine AvT.take 1 (some 28) (v := ?_) rfl rfl (by kernel_rfl) (by kernel_rfl) (by kernel_rfl) (fun _ _ _ h => h) hST (Au.yq_run (by rfl) (fun u hu => ?_)) ?_
      rotate_left
      · (clear hu; go_simp; try with_reducible rfl)
      simp only [Act.put, List.setIfInBounds_toArray, List.set_cons_zero, List.set_cons_succ]
      refine AvT.take 2 (some 29) rfl rfl (by kernel_rfl) (by kernel_rfl) (by kernel_rfl) (fun _ _ _ h => h) hST (Au.yq_load 31 (.tmp 10) rfl _ rfl (by rfl) (fun u hu => load_row (hu.blk 1 rfl) sA)) ?_
      simp only [Act.put, List.setIfInBounds_toArray, List.set_cons_zero, List.set_cons_succ]
      refine AvT.take 4 (some 31) rfl rfl (by kernel_rfl) (by kernel_rfl) (by kernel_rfl) (fun _ _ _ h => h) hST (Au.yq_load 33 (.tmp 11) rfl _ rfl (by rfl) (fun u hu => load_rcl (hu.blk 2 rfl) sX)) ?_
      simp only [Act.put, List.setIfInBounds_toArray, List.set_cons_zero, List.set_cons_succ]
      refine AvT.take 6 (some 33) (v := ?_) rfl rfl (by kernel_rfl) (by kernel_rfl) (by kernel_rfl) (fun _ _ _ h => h) hST (Au.yq_run (by rfl) (fun u hu => ?_)) ?_
      rotate_left
      · (clear hu; go_simp; try with_reducible rfl)
      simp only [Act.put, List.setIfInBounds_toArray, List.set_cons_zero, List.set_cons_succ]
      refine AvT.take 7 (some 34) (v := ?_) rfl rfl (by kernel_rfl) (by kernel_rfl) (by kernel_rfl) (fun _ _ _ h => h) hST (Au.yq_run (by rfl) (fun u hu => ?_)) ?_
      rotate_left
      · (clear hu; go_simp; try with_reducible rfl)
      simp only [Act.put, List.setIfInBounds_toArray, List.set_cons_zero, List.set_cons_succ]
      refine AvT.take 8 (some 35) (v := ?_) rfl rfl (by kernel_rfl) (by kernel_rfl) (by kernel_rfl) (fun _ _ _ h => h) hST (Au.yq_run (by rfl) (fun u hu => ?_)) ?_
      rotate_left
      · (clear hu; go_simp; try with_reducible rfl)
      simp only [Act.put, List.setIfInBounds_toArray, List.set_cons_zero, List.set_cons_succ]
      refine AvT.take 9 (some 36) (v := ?_) rfl rfl (by kernel_rfl) (by kernel_rfl) (by kernel_rfl) (fun _ _ _ h => h) hST (Au.yq_run (by rfl) (fun u hu => ?_)) ?_
      rotate_left
      · (clear hu; go_simp; try with_reducible rfl)
      simp only [Act.put, List.setIfInBounds_toArray, List.set_cons_zero, List.set_cons_succ]
      refine AvT.fork 3 14 rfl rfl (by kernel_rfl) (fun v hv KK hK => ?_) (fun v hv KK hK => ?_)
      · rw [if_pos (by rfl)]
        go_simp
        refine (CM.out _ (hv.kept)).mono ?_
        rintro e v2 ⟨q1, n1, c1, rfl, r1, fr1, k2⟩
        obtain rfl : n1 = N := (mc_len r1).symm.trans HN.out
        go_wp2_with fail
        refine hK.out (fun u => Bl w u [(F, 24), (A, 31), (X, 33)] ∧ Mc u (.slice q1 n1 c1) K) _ _ ⟨(bl_stab _ _ (hv) k2), r1⟩ (stab_and bl_stab mcs) (fun u h => h.1) ?_
        clear hK KK hv r1 fr1 k2
        clear v v2 hST
        refine AvT.narrow (T' := fun u => Bl w u [(F, 24), (A, 31), (X, 33)] ∧ Mc u (.slice q1 n1 c1) K) (fun u h => h.1) _ _ _ _ ?_
        have hST : Stab (fun u => Bl w u [(F, 24), (A, 31), (X, 33)] ∧ Mc u (.slice q1 n1 c1) K) ∧ ∀ u, (fun u => Bl w u [(F, 24), (A, 31), (X, 33)] ∧ Mc u (.slice q1 n1 c1) K) u → (fun u => Bl w u [(F, 24), (A, 31), (X, 33)] ∧ Mc u (.slice q1 n1 c1) K) u := ⟨(stab_and bl_stab mcs), fun u h => ⟨h.1, h.2⟩⟩
        refine AvT.take 5 (some 32) rfl rfl (by kernel_rfl) (by kernel_rfl) (by kernel_rfl) (fun _ _ _ h => h) hST (Au.yq_call 11 _ (by rfl) (fun u => by go_simp) (fun u hu => C1.out u)) ?_
        simp only [Act.put, List.setIfInBounds_toArray, List.set_cons_zero, List.set_cons_succ]
        refine AvT.take 10 (some 37) rfl rfl (by kernel_rfl) (by kernel_rfl) (by kernel_rfl) (fun _ _ _ h => h) hST (Au.yq_call 14 _ (by rfl) (fun u => by go_simp) (fun u hu => CS.out u q1 n1 c1)) ?_
        simp only [Act.put, List.setIfInBounds_toArray, List.set_cons_zero, List.set_cons_succ]
        refine AvT.take 11 (some 26) (v := ?_) rfl rfl (by kernel_rfl) (by kernel_rfl) (by kernel_rfl) (fun _ _ _ h => h) hST (Au.yq_run (by rfl) (fun u hu => ?_)) ?_
        rotate_left
        · (clear hu; go_simp; try with_reducible rfl)
        simp only [Act.put, List.setIfInBounds_toArray, List.set_cons_zero, List.set_cons_succ]
        refine AvT.take 12 (some 38) (v := ?_) rfl rfl (by kernel_rfl) (by kernel_rfl) (by kernel_rfl) (fun _ _ _ h => h) hST (Au.yq_run (by rfl) (fun u hu => ?_)) ?_
        rotate_left
        · (clear hu; go_simp; try with_reducible rfl)
        simp only [Act.put, List.setIfInBounds_toArray, List.set_cons_zero, List.set_cons_succ]
        refine AvT.take 13 (some 39) (v := ?_) rfl rfl (by kernel_rfl) (by kernel_rfl) (by kernel_rfl) (fun _ _ _ h => h) hST (Au.yq_run (by rfl) (fun u hu => ?_)) ?_
        rotate_left
        · (clear hu; go_simp; try with_reducible rfl)
        simp only [Act.put, List.setIfInBounds_toArray, List.set_cons_zero, List.set_cons_succ]
        refine AvT.step 14 rfl (by kernel_rfl) (fun v hv KK hK => ?_)
        rw [if_pos (by rfl)]
        go_simp
        have bA : w.heap.size + 3 ≤ v.heap.size := (hv.1).size
        have dA : ∀ j, (Value.slice q1 n1 c1).ownBlock = some j → j ≠ v.heap.size := fun j e => by have := (hv.2).lt e; omega
        refine hK.out (fun u => Bl w u [(F, 24), (A, 31), (X, 33)] ∧ Mc u (.slice q1 n1 c1) K ∧ u.heap[v.heap.size]? = some (.cells zeroC 35 (0, 0))) _ _ ⟨(bl_stab _ _ (hv.1) (Kept.one _ _)), (mcs _ _ (hv.2) (Kept.one _ _)), blk_new v _⟩ (stab_and bl_stab (stab_and mcs blk_stab)) (fun u h => ⟨h.1, h.2.1⟩) ?_
        obtain ⟨gA, hg⟩ : ∃ g, v.heap.size = g := ⟨_, rfl⟩
        rw [hg] at bA dA  ⊢
        clear hK KK hv hg
        clear v hST
        have hST : Stab (fun u => Bl w u [(F, 24), (A, 31), (X, 33)] ∧ Mc u (.slice q1 n1 c1) K ∧ u.heap[gA]? = some (.cells zeroC 35 (0, 0))) ∧ ∀ u, (fun u => Bl w u [(F, 24), (A, 31), (X, 33)] ∧ Mc u (.slice q1 n1 c1) K ∧ u.heap[gA]? = some (.cells zeroC 35 (0, 0))) u → (fun u => Bl w u [(F, 24), (A, 31), (X, 33)] ∧ Mc u (.slice q1 n1 c1) K) u := ⟨(stab_and bl_stab (stab_and mcs blk_stab)), fun u h => ⟨h.1, h.2.1⟩⟩
        refine AvT.step 15 rfl (by kernel_rfl) (fun v hv KK hK => ?_)
        rw [if_pos (by rfl)]
        refine wp_store_row 35 (.tmp 17) (.tmp 38) rfl gA Y rfl rfl 35 zeroC (hv.2.2) (by rw [sY]; exact info_cl) (by rw [sY]; rfl) oY ?_
        refine hK.out (fun u => Bl w u [(F, 24), (A, 31), (X, 33)] ∧ Mc u (.slice q1 n1 c1) K ∧ u.heap[gA]? = some (.cells Y 35 (0, 0))) _ _ ⟨hv.1.far bA Y, hv.2.1.kept (fun j e => setRow_other _ _ _ _ (dA j e)), setRow_heap _ _ zeroC Y _ _ (hv.2.2)⟩ (stab_and bl_stab (stab_and mcs blk_stab)) (fun u h => ⟨h.1, h.2.1⟩) ?_
        clear hK KK hv
        clear v hST
        have hST : Stab (fun u => Bl w u [(F, 24), (A, 31), (X, 33)] ∧ Mc u (.slice q1 n1 c1) K ∧ u.heap[gA]? = some (.cells Y 35 (0, 0))) ∧ ∀ u, (fun u => Bl w u [(F, 24), (A, 31), (X, 33)] ∧ Mc u (.slice q1 n1 c1) K ∧ u.heap[gA]? = some (.cells Y 35 (0, 0))) u → (fun u => Bl w u [(F, 24), (A, 31), (X, 33)] ∧ Mc u (.slice q1 n1 c1) K) u := ⟨(stab_and bl_stab (stab_and mcs blk_stab)), fun u h => ⟨h.1, h.2.1⟩⟩
        refine AvT.take 16 (some 18) (v := ?_) rfl rfl (by kernel_rfl) (by kernel_rfl) (by kernel_rfl) (fun _ _ _ h => h) hST (Au.yq_run (by rfl) (fun u hu => ?_)) ?_
        rotate_left
        · (clear hu; go_simp; try with_reducible rfl)
        simp only [Act.put, List.setIfInBounds_toArray, List.set_cons_zero, List.set_cons_succ]
        refine AvT.done (by kernel_rfl) (fun V hV => ?_)
        clear hST
        go_wp2_with fail
        go_meet
        exact ⟨gA, rfl, rfl, hV.1, hV.2.2, bA⟩
      · rw [if_pos (by rfl)]
        go_simp
        have bA : w.heap.size + 3 ≤ v.heap.size := (hv).size
        refine hK.out (fun u => Bl w u [(F, 24), (A, 31), (X, 33)] ∧ u.heap[v.heap.size]? = some (.cells zeroC 35 (0, 0))) _ _ ⟨(bl_stab _ _ (hv) (Kept.one _ _)), blk_new v _⟩ (stab_and bl_stab blk_stab) (fun u h => h.1) ?_
        obtain ⟨gA, hg⟩ : ∃ g, v.heap.size = g := ⟨_, rfl⟩
        rw [hg] at bA   ⊢
        clear hK KK hv hg
        clear v hST
        have hST : Stab (fun u => Bl w u [(F, 24), (A, 31), (X, 33)] ∧ u.heap[gA]? = some (.cells zeroC 35 (0, 0))) ∧ ∀ u, (fun u => Bl w u [(F, 24), (A, 31), (X, 33)] ∧ u.heap[gA]? = some (.cells zeroC 35 (0, 0))) u → (fun u => Bl w u [(F, 24), (A, 31), (X, 33)]) u := ⟨(stab_and bl_stab blk_stab), fun u h => h.1⟩
        refine AvT.step 3 rfl (by kernel_rfl) (fun v hv KK hK => ?_)
        rw [if_pos (by rfl)]
        go_simp
        refine (CM.out _ (hv.1.kept)).mono ?_
        rintro e v2 ⟨q1, n1, c1, rfl, r1, fr1, k2⟩
        obtain rfl : n1 = N := (mc_len r1).symm.trans HN.out
        go_wp2_with fail
        refine hK.out (fun u => Bl w u [(F, 24), (A, 31), (X, 33)] ∧ u.heap[gA]? = some (.cells zeroC 35 (0, 0)) ∧ Mc u (.slice q1 n1 c1) K) _ _ ⟨(bl_stab _ _ (hv.1) k2), (blk_stab _ _ (hv.2) k2), r1⟩ (stab_and bl_stab (stab_and blk_stab mcs)) (fun u h => h.1) ?_
        have dA : ∀ j, (Value.slice q1 n1 c1).ownBlock = some j → j ≠ gA := fun j e => by have h1 := fr1 j e; have h2 := blk_lt (hv.2); omega
        clear hK KK hv r1 fr1 k2
        clear v v2 hST
        refine AvT.narrow (T' := fun u => Bl w u [(F, 24), (A, 31), (X, 33)] ∧ Mc u (.slice q1 n1 c1) K) (fun u h => h.1) _ _ _ _ ?_
        have hST : Stab (fun u => Bl w u [(F, 24), (A, 31), (X, 33)] ∧ u.heap[gA]? = some (.cells zeroC 35 (0, 0)) ∧ Mc u (.slice q1 n1 c1) K) ∧ ∀ u, (fun u => Bl w u [(F, 24), (A, 31), (X, 33)] ∧ u.heap[gA]? = some (.cells zeroC 35 (0, 0)) ∧ Mc u (.slice q1 n1 c1) K) u → (fun u => Bl w u [(F, 24), (A, 31), (X, 33)] ∧ Mc u (.slice q1 n1 c1) K) u := ⟨(stab_and bl_stab (stab_and blk_stab mcs)), fun u h => ⟨h.1, h.2.2⟩⟩
        refine AvT.take 5 (some 32) rfl rfl (by kernel_rfl) (by kernel_rfl) (by kernel_rfl) (fun _ _ _ h => h) hST (Au.yq_call 11 _ (by rfl) (fun u => by go_simp) (fun u hu => C1.out u)) ?_
        simp only [Act.put, List.setIfInBounds_toArray, List.set_cons_zero, List.set_cons_succ]
        refine AvT.take 10 (some 37) rfl rfl (by kernel_rfl) (by kernel_rfl) (by kernel_rfl) (fun _ _ _ h => h) hST (Au.yq_call 14 _ (by rfl) (fun u => by go_simp) (fun u hu => CS.out u q1 n1 c1)) ?_
        simp only [Act.put, List.setIfInBounds_toArray, List.set_cons_zero, List.set_cons_succ]
        refine AvT.take 11 (some 26) (v := ?_) rfl rfl (by kernel_rfl) (by kernel_rfl) (by kernel_rfl) (fun _ _ _ h => h) hST (Au.yq_run (by rfl) (fun u hu => ?_)) ?_
        rotate_left
        · (clear hu; go_simp; try with_reducible rfl)
        simp only [Act.put, List.setIfInBounds_toArray, List.set_cons_zero, List.set_cons_succ]
        refine AvT.take 12 (some 38) (v := ?_) rfl rfl (by kernel_rfl) (by kernel_rfl) (by kernel_rfl) (fun _ _ _ h => h) hST (Au.yq_run (by rfl) (fun u hu => ?_)) ?_
        rotate_left
        · (clear hu; go_simp; try with_reducible rfl)
        simp only [Act.put, List.setIfInBounds_toArray, List.set_cons_zero, List.set_cons_succ]
        refine AvT.take 13 (some 39) (v := ?_) rfl rfl (by kernel_rfl) (by kernel_rfl) (by kernel_rfl) (fun _ _ _ h => h) hST (Au.yq_run (by rfl) (fun u hu => ?_)) ?_
        rotate_left
        · (clear hu; go_simp; try with_reducible rfl)
        simp only [Act.put, List.setIfInBounds_toArray, List.set_cons_zero, List.set_cons_succ]
        refine AvT.step 15 rfl (by kernel_rfl) (fun v hv KK hK => ?_)
        rw [if_pos (by rfl)]
        refine wp_store_row 35 (.tmp 17) (.tmp 38) rfl gA Y rfl rfl 35 zeroC (hv.2.1) (by rw [sY]; exact info_cl) (by rw [sY]; rfl) oY ?_
        refine hK.out (fun u => Bl w u [(F, 24), (A, 31), (X, 33)] ∧ Mc u (.slice q1 n1 c1) K ∧ u.heap[gA]? = some (.cells Y 35 (0, 0))) _ _ ⟨hv.1.far bA Y, hv.2.2.kept (fun j e => setRow_other _ _ _ _ (dA j e)), setRow_heap _ _ zeroC Y _ _ (hv.2.1)⟩ (stab_and bl_stab (stab_and mcs blk_stab)) (fun u h => ⟨h.1, h.2.1⟩) ?_
        clear hK KK hv
        clear v hST
        have hST : Stab (fun u => Bl w u [(F, 24), (A, 31), (X, 33)] ∧ Mc u (.slice q1 n1 c1) K ∧ u.heap[gA]? = some (.cells Y 35 (0, 0))) ∧ ∀ u, (fun u => Bl w u [(F, 24), (A, 31), (X, 33)] ∧ Mc u (.slice q1 n1 c1) K ∧ u.heap[gA]? = some (.cells Y 35 (0, 0))) u → (fun u => Bl w u [(F, 24), (A, 31), (X, 33)] ∧ Mc u (.slice q1 n1 c1) K) u := ⟨(stab_and bl_stab (stab_and mcs blk_stab)), fun u h => ⟨h.1, h.2.1⟩⟩
        refine AvT.take 16 (some 18) (v := ?_) rfl rfl (by kernel_rfl) (by kernel_rfl) (by kernel_rfl) (fun _ _ _ h => h) hST (Au.yq_run (by rfl) (fun u hu => ?_)) ?_
        rotate_left
        · (clear hu; go_simp; try with_reducible rfl)
        simp only [Act.put, List.setIfInBounds_toArray, List.set_cons_zero, List.set_cons_succ]
        refine AvT.done (by kernel_rfl) (fun V hV => ?_)
        clear hST
        go_wp2_with fail
        go_meet
        exact ⟨gA, rfl, rfl, hV.1, hV.2.2, bA⟩
    case rest =>
      obtain ⟨gA, rfl, rfl, hb, hgA, bA⟩ := hcut
      have HB := Lib.hid (And.intro hb hgA)
      clear hb hgA
      go_upto_region 5 with (first
        | (refine load_w 24 (.tmp 8) rfl w.heap.size rfl rfl F 14 (HB.out.1.blk 0 rfl) Tryd.underlying24 sF info_cf ?_)
        | (refine load_w 31 (.tmp 10) rfl (w.heap.size + 1) rfl rfl A 19 (HB.out.1.blk 1 rfl) Tryd.underlying31 sA info_row ?_)
        | (refine load_w 33 (.tmp 11) rfl (w.heap.size + 1 + 1) rfl rfl X 13 (HB.out.1.blk 2 rfl) Tryd.underlying33 sX info_rcl ?_)
        | (go_at_call 15; refine (CR.out _).mono ?_; rintro e w1 ⟨rfl, k1⟩; have K1 := Lib.hid k1; clear k1)
        | (refine store_new rfl 33 (.tmp 19) (.tmp 50) rfl w1.heap.size Y rfl rfl w1 _ rfl 13 info_rcl sY rfl oY ?_))
      obtain ⟨V1, hV1⟩ : ∃ V, w1.alloc (.cells Y 33) = V := ⟨_, rfl⟩
      rw [hV1]
      have hb1 : Bl w1 V1 [(Y, 33)] := by rw [← hV1]; exact Bl.one w1 _ _
      have kk := K1.out.trans hb1.kept
      have HZ := Lib.hid (And.intro (HB.out.1.go kk) (And.intro (kept_at kk HB.out.2) hb1))
      clear hb1 hV1 kk
      have hST : Stab (fun u => Bl w u [(F, 24), (A, 31), (X, 33)] ∧ u.heap[gA]? = some (.cells Y 35 (0, 0)) ∧ Bl w1 u [(Y, 33)]) ∧ ∀ u, (fun u => Bl w u [(F, 24), (A, 31), (X, 33)] ∧ u.heap[gA]? = some (.cells Y 35 (0, 0)) ∧ Bl w1 u [(Y, 33)]) u → (fun u => Bl w u [(F, 24), (A, 31), (X, 33)] ∧ u.heap[gA]? = some (.cells Y 35 (0, 0)) ∧ Bl w1 u [(Y, 33)]) u := ⟨(stab_and bl_stab (stab_and blk_stab bl_stab)), fun u h => ⟨h.1, h.2.1, h.2.2⟩⟩
      refine AvT.region (fun u => Bl w u [(F, 24), (A, 31), (X, 33)] ∧ u.heap[gA]? = some (.cells Y 35 (0, 0)) ∧ Bl w1 u [(Y, 33)]) (fun u => Bl w u [(F, 24), (A, 31), (X, 33)] ∧ u.heap[gA]? = some (.cells Y 35 (0, 0)) ∧ Bl w1 u [(Y, 33)]) (by kernel_rfl) (hST.1 _ _ HZ.out (Kept.refl _).drew) ?_
      refine AvT.take 0 (some 52) rfl rfl (by kernel_rfl) (by kernel_rfl) (by kernel_rfl) (fun _ _ _ h => h) hST (Au.yq_load 35 (.tmp 17) rfl _ rfl (by rfl) (fun u hu => load_cl hu.2.1 sY)) ?_
      simp only [Act.put, List.setIfInBounds_toArray, List.set_cons_zero, List.set_cons_succ]
      refine AvT.take 1 (some 53) rfl rfl (by kernel_rfl) (by kernel_rfl) (by kernel_rfl) (fun _ _ _ h => h) hST (Au.yq_call 13 _ (by rfl) (fun u => by go_simp) (fun u hu => CT.out u)) ?_
      simp only [Act.put, List.setIfInBounds_toArray, List.set_cons_zero, List.set_cons_succ]
      refine AvT.take 2 (some 54) rfl rfl (by kernel_rfl) (by kernel_rfl) (by kernel_rfl) (fun _ _ _ h => h) hST (Au.yq_load 33 (.tmp 19) rfl _ rfl (by rfl) (fun u hu => load_rcl (hu.2.2.blk 0 rfl) sY)) ?_
      simp only [Act.put, List.setIfInBounds_toArray, List.set_cons_zero, List.set_cons_succ]
      refine AvT.take 3 (some 55) (v := .bool true) rfl rfl (by kernel_rfl) (by kernel_rfl) (by kernel_rfl) (fun _ _ _ h => h) hST (Au.yq_run (by rfl) (fun u hu => ?_)) ?_
      · have := he1 u
        clear hu; go_simp
      simp only [Act.put, List.setIfInBounds_toArray, List.set_cons_zero, List.set_cons_succ]
      refine AvT.take 4 (some 56) (v := ?_) rfl rfl (by kernel_rfl) (by kernel_rfl) (by kernel_rfl) (fun _ _ _ h => h) hST (Au.yq_run (by rfl) (fun u hu => ?_)) ?_
      rotate_left
      · (clear hu; go_simp; try with_reducible rfl)
      simp only [Act.put, List.setIfInBounds_toArray, List.set_cons_zero, List.set_cons_succ]
      refine AvT.take 5 (some 57) (v := ?_) rfl rfl (by kernel_rfl) (by kernel_rfl) (by kernel_rfl) (fun _ _ _ h => h) hST (Au.yq_run (by rfl) (fun u hu => ?_)) ?_
      rotate_left
      · (clear hu; go_simp; try with_reducible rfl)
      simp only [Act.put, List.setIfInBounds_toArray, List.set_cons_zero, List.set_cons_succ]
      refine AvT.take 6 (some 58) (v := ?_) rfl rfl (by kernel_rfl) (by kernel_rfl) (by kernel_rfl) (fun _ _ _ h => h) hST (Au.yq_run (by rfl) (fun u hu => ?_)) ?_
      rotate_left
      · (clear hu; go_simp; try with_reducible rfl)
      simp only [Act.put, List.setIfInBounds_toArray, List.set_cons_zero, List.set_cons_succ]
      refine AvT.take 7 (some 59) (v := .bool true) rfl rfl (by kernel_rfl) (by kernel_rfl) (by kernel_rfl) (fun _ _ _ h => h) hST (Au.yq_run (by rfl) (fun u hu => ?_)) ?_
      · (clear hu; go_simp; (try simp_all))
      simp only [Act.put, List.setIfInBounds_toArray, List.set_cons_zero, List.set_cons_succ]
      refine AvT.take 8 (some 60) (v := ?_) rfl rfl (by kernel_rfl) (by kernel_rfl) (by kernel_rfl) (fun _ _ _ h => h) hST (Au.yq_run (by rfl) (fun u hu => ?_)) ?_
      rotate_left
      · (clear hu; go_simp; try with_reducible rfl)
      simp only [Act.put, List.setIfInBounds_toArray, List.set_cons_zero, List.set_cons_succ]
      refine AvT.take 9 (some 61) (v := ?_) rfl rfl (by kernel_rfl) (by kernel_rfl) (by kernel_rfl) (fun _ _ _ h => h) hST (Au.yq_run (by rfl) (fun u hu => ?_)) ?_
      rotate_left
      · (clear hu; go_simp; try with_reducible rfl)
      simp only [Act.put, List.setIfInBounds_toArray, List.set_cons_zero, List.set_cons_succ]
      refine AvT.take 10 (some 62) rfl rfl (by kernel_rfl) (by kernel_rfl) (by kernel_rfl) (fun _ _ _ h => h) hST (Au.yq_call 8 _ (by rfl) (fun u => by go_simp) (fun u hu => HAW.out u hu.1.kept)) ?_
      simp only [Act.put, List.setIfInBounds_toArray, List.set_cons_zero, List.set_cons_succ]
      refine AvT.take 11 (some 63) (v := ?_) rfl rfl (by kernel_rfl) (by kernel_rfl) (by kernel_rfl) (fun _ _ _ h => h) hST (Au.yq_run (by rfl) (fun u hu => ?_)) ?_
      rotate_left
      · (clear hu; go_simp; try with_reducible rfl)
      simp only [Act.put, List.setIfInBounds_toArray, List.set_cons_zero, List.set_cons_succ]
      refine AvT.take 12 (some 16) (v := ?_) rfl rfl (by kernel_rfl) (by kernel_rfl) (by kernel_rfl) (fun _ _ _ h => h) hST (Au.yq_run (by rfl) (fun u hu => ?_)) ?_
      rotate_left
      · (clear hu; go_simp; try with_reducible rfl)
      simp only [Act.put, List.setIfInBounds_toArray, List.set_cons_zero, List.set_cons_succ]
      refine AvT.done (by kernel_rfl) (fun V hV => ?_)
      go_wp2_with fail
      go_ret
      exact ⟨rfl, hV.1.kept⟩
  · have HB := Lib.hid hb
    have e1 : 30 < (N : Int) := by omega
    clear hv ht hb hW hF hA hX hN x12
    go_enter Tryd.func4, Tryd.ntmps4
    go_upto_region 1 with fail
    rw [HW.out]
    go_wp2_with (go_at_call 8; refine (HAW.out _ HB.out.kept).mono ?_; rintro e w' ⟨rfl, hk⟩)
    go_ret
    exact ⟨rfl, HB.out.kept.trans hk⟩

end Go.Proofs.YtncdiggejofbbaaDoor.Sn
