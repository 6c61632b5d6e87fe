/- The document's own packets for those that wait; two rows of the same packets. -/
import Derived.Test.YtncdiggejofbbaaDoorSn8
import Derived.Test.YtncdiggejofbbaaDoorSn2
namespace Go.Proofs.YtncdiggejofbbaaDoor.Sn
open Go.RowKit Go.Sort Go.Shelf St PkM Ad Po Blk Eqs
open Go.Proofs.YtncdiggejofbbaaDoor.Cl
open Go.Proofs.YtncdiggejofbbaaDoor.Ow
open Go.Proofs.YtncdiggejofbbaaDoor.Ls
open Go.Proofs.YtncdiggejofbbaaDoor.Rv
open Wh (Fr)
open Go.Proofs.YtncdiggejofbbaaDoor.Au (Stab stab_and)
open Go.Proofs.YtncdiggejofbbaaDoor.Ad (load_w load_l store_new)
set_option linter.unusedVariables false
set_option linter.unusedSimpArgs false

theorem other_row' {u : World} {g i : Nat} {xs : Array Value} {o : Obj} (h : u.heap[i]? = some o) (hn : i ≠ g) : (u.setRow g xs).heap[i]? = some o := by rw [setRow_other _ _ _ _ hn]; exact h
theorem wt_4 (me : Int) (o : Ow) (x : Cl) : wtP 4 me o x = { onw 4 me x with til := Tk.clamp o.un } := rfl
theorem wt_k {k : Int} (h : ¬ k = 4) (me : Int) (o : Ow) (x : Cl) : wtP k me o x = onw k me x := by unfold wtP; rw [if_neg h]

set_option maxRecDepth 100000 in
set_option maxHeartbeats 4000000 in
theorem rwaiting_any {w : World} {q : Option Addr} {N c : Nat} {K : List Cl} (k me : Int) (o : Ow) (hv : Cls w (.slice q N c) K) (hl : K.length ≤ 900000) :
    Calls Tryd.prog 26 #[.int .i64 k, .int .i64 me, .agg (o.arr q N c)] w fun e w' => ∃ v, e = .returned v ∧ Mp w' v (waitL (wtP k me o) K) ∧ (∀ g, v.ownBlock = some g → w.heap.size ≤ g) ∧ Kept w w' := by
  have hN : K.length = N := by obtain ⟨p, cap, e⟩ := hv.shape; cases e; rfl
  have hm2 : N ≤ 900000 := by omega
  obtain ⟨A, hA⟩ : ∃ A, o.arr q N c = A := ⟨_, rfl⟩
  have c18 : A[18]? = some (.slice q N c) := by rw [← hA]; rfl
  have c14 : A[14]? = some (.int .i64 o.un) := by rw [← hA]; rfl
  rw [hA]
  obtain ⟨W, hW⟩ : ∃ W, w.alloc (.cells A 31) = W := ⟨_, rfl⟩
  have hB : Bl w W [(A, 31)] := hW ▸ Bl.one w A _
  have HV := Lib.hid hv
  have HN := Lib.hid hN
  have HB := Lib.hid hB
  have HW := Lib.hid hW
  obtain ⟨z, hz⟩ : ∃ z, Tk.clamp o.un = z := ⟨_, rfl⟩
  have C2 := Lib.hid (show ∀ u, Calls Tryd.prog 30 #[.int .i64 o.un] u fun e w' => e = .returned (.int .i64 z) ∧ u = w' from fun u => by rw [← hz]; exact Tk.rclamp_any _ u)
  have HZ := Lib.hid hz
  clear hv hN hA hB hW hl hz
  go_enter Tryd.func26, Tryd.ntmps26
  go_upto_region 1 with fail
  rw [HW.out]
  go_upto_region 3 with fail
  go_loopw [7, 8] (fun d y wr => ∃ i : Nat, i ≤ N ∧ y = .int .i64 (i : Int) ∧ Hid (Bl w wr [(A, 31)]) ∧ Hid (Mp wr d (waitL (wtP k me o) (K.take i))) ∧ Hid (∀ g, d.ownBlock = some g → w.heap.size + 1 ≤ g)) (fun _ y _ => N - (intOf y).toNat)
  case atStart => exact ⟨0, Nat.zero_le _, rfl, HB, Lib.hid (rowv_nil _ _ _ _), Lib.hid (fun g e => by cases e)⟩
  case round =>
    obtain ⟨i, hi, rfl, hk, hr, ho⟩ := hrel
    have h18 : wr.cell? ⟨w.heap.size, 18, none⟩ = some (.slice q N c) := (hk.out.cell 0 18 rfl).trans c18
    by_cases hlt : i < N
    · obtain ⟨x, b, off, hx, rfl, hbb, hc⟩ := (HV.out.go hk.out.kept).pick (i := i) (by rw [HN.out]; exact hlt)
      have hi1 : (i : Int) < (N : Int) := by omega
      obtain ⟨X, hX⟩ : ∃ X, x.arr = X := ⟨_, rfl⟩
      have hl := load_rcall hX hc
      have x6 : X[6]? = some (.int .i64 x.st) := by rw [← hX]; rfl
      have x3 : X[3]? = some (.int .i64 x.to) := by rw [← hX]; rfl
      have sX : X.size = 13 := by rw [← hX]; rfl
      have oX : X.all (·.oneCell') = true := by rw [← hX]; exact cl_one x
      obtain ⟨V, hV⟩ : ∃ V, wr.alloc (.cells X 33) = V := ⟨_, rfl⟩
      have kV : Kept wr V := by rw [← hV]; exact Kept.one _ _
      have bV : V.heap[wr.heap.size]? = some (.cells X 33 (0, 0)) := by rw [← hV]; exact blk_new wr _
      have h6 : V.cell? ⟨wr.heap.size, 6, none⟩ = some (.int .i64 x.st) := (blk_cell bV 6).trans x6
      have HVV := Lib.hid hV
      have HBV := Lib.hid (And.intro bV (And.intro (hk.out.go kV) (hr.out.keep kV)))
      have hlw : (waitL (wtP k me o) (K.take i)).length ≤ 900000 := Nat.le_trans (wait_lenk _ K i) (by rw [HN.out]; omega)
      by_cases h1 : x.st = 1
      · have HT := Lib.hid (wait_yes (f := wtP k me o) hx h1)
        have CK := Lib.hid (show ∀ u, Calls Tryd.prog 41 #[.agg X] u fun e w' => e = .returned (.agg #[.int .i64 x.n, .int .i64 x.i, .int .i64 x.s, .int .i64 x.att]) ∧ Kept u w' from fun u => by rw [← hX]; exact rkey_any x u)
        obtain ⟨P, hP⟩ : ∃ P, P = onw k me x := ⟨_, rfl⟩
        have HP : Hid (Value.agg #[.int .i64 k, .int .i64 me, .int .i64 x.to, .int .i64 x.n, .int .i64 x.i, .int .i64 x.s, .int .i64 x.att, .int .i64 0, .int .i64 0, .string ⟨#[]⟩, .int .i64 0, .int .i64 0, .int .i64 0, .int .i64 0, .int .i64 0, .int .i64 0, .int .i64 0, .int .i64 0, .int .i64 0, .int .i64 0, .int .i64 0, .bool false, .int .i64 0] = .agg P.arr) := Lib.hid (by rw [hP]; rfl)
        have p10 : P.arr[10]? = some (.int .i64 0) := by rw [hP]; rfl
        have HPP := Lib.hid hP
        rw [h1] at h6
        clear hX hc hx hV x6 h1 kV bV hP
        go_upto_region 7 with (first
          | (refine load_l 33 (.tmp 21) rfl _ rfl rfl (.agg X) hl ?_)
          | (refine store_new rfl 33 (.tmp 9) (.tmp 22) rfl wr.heap.size X rfl rfl _ _ rfl 13 info_rcl sX rfl oX ?_; rw [HVV.out]))
        clear h6 h18 hl
        have hT : Stab (fun u => u.heap[wr.heap.size]? = some (.cells X 33 (0, 0)) ∧ Bl w u [(A, 31)] ∧ Mp u u7 (waitL (wtP k me o) (K.take i))) := stab_and blk_stab (stab_and bl_stab (fun u u' h k => h.keep k))
        have hST : Stab (fun u => u.heap[wr.heap.size]? = some (.cells X 33 (0, 0)) ∧ Bl w u [(A, 31)] ∧ Mp u u7 (waitL (wtP k me o) (K.take i))) ∧ ∀ u, (fun u => u.heap[wr.heap.size]? = some (.cells X 33 (0, 0)) ∧ Bl w u [(A, 31)] ∧ Mp u u7 (waitL (wtP k me o) (K.take i))) u → (fun u => u.heap[wr.heap.size]? = some (.cells X 33 (0, 0)) ∧ Bl w u [(A, 31)] ∧ Mp u u7 (waitL (wtP k me o) (K.take i))) u := ⟨hT, fun u h => h⟩
        refine AvT.region (fun u => u.heap[wr.heap.size]? = some (.cells X 33 (0, 0)) ∧ Bl w u [(A, 31)] ∧ Mp u u7 (waitL (wtP k me o) (K.take i))) (fun u => u.heap[wr.heap.size]? = some (.cells X 33 (0, 0)) ∧ Bl w u [(A, 31)] ∧ Mp u u7 (waitL (wtP k me o) (K.take i))) (by kernel_rfl) (hT _ _ HBV.out (Kept.refl _).drew) ?_
        refine AvT.take 0 (some 26) (v := ?_) rfl rfl (by kernel_rfl) (by kernel_rfl) (by kernel_rfl) (fun _ _ _ h => h) hST (Au.yq_run (by rfl) (fun u hu => ?_)) ?_
        rotate_left
        · (clear hu; go_simp; try with_reducible rfl)
        simp only [Act.put, List.setIfInBounds_toArray, List.set_cons_zero, List.set_cons_succ]
        refine AvT.take 1 (some 27) (v := ?_) rfl rfl (by kernel_rfl) (by kernel_rfl) (by kernel_rfl) (fun _ _ _ h => h) hST (Au.yq_run (by rfl) (fun u hu => ?_)) ?_
        rotate_left
        · (clear hu; go_simp; try with_reducible rfl)
        simp only [Act.put, List.setIfInBounds_toArray, List.set_cons_zero, List.set_cons_succ]
        refine AvT.take 2 (some 28) (v := ?_) rfl rfl (by kernel_rfl) (by kernel_rfl) (by kernel_rfl) (fun _ _ _ h => h) hST (Au.yq_run (by rfl) (fun u hu => ?_)) ?_
        rotate_left
        · (clear hu; go_simp; try with_reducible rfl)
        simp only [Act.put, List.setIfInBounds_toArray, List.set_cons_zero, List.set_cons_succ]
        refine AvT.take 3 (some 29) rfl rfl (by kernel_rfl) (by kernel_rfl) (by kernel_rfl) (fun _ _ _ h => h) hST (Au.yq_load 3 (.tmp 28) rfl _ rfl (by rfl) (fun u hu => run_loadi ((blk_cell hu.1 3).trans x3))) ?_
        simp only [Act.put, List.setIfInBounds_toArray, List.set_cons_zero, List.set_cons_succ]
        refine AvT.take 4 (some 30) rfl rfl (by kernel_rfl) (by kernel_rfl) (by kernel_rfl) (fun _ _ _ h => h) hST (Au.yq_load 33 (.tmp 9) rfl _ rfl (by rfl) (fun u hu => load_rcl hu.1 sX)) ?_
        simp only [Act.put, List.setIfInBounds_toArray, List.set_cons_zero, List.set_cons_succ]
        refine AvT.take 5 (some 31) rfl rfl (by kernel_rfl) (by kernel_rfl) (by kernel_rfl) (fun _ _ _ h => h) hST (Au.yq_call 41 _ (by rfl) (fun u => by go_simp) (fun u hu => CK.out u)) ?_
        simp only [Act.put, List.setIfInBounds_toArray, List.set_cons_zero, List.set_cons_succ]
        refine AvT.take 6 (some 32) (v := ?_) rfl rfl (by kernel_rfl) (by kernel_rfl) (by kernel_rfl) (fun _ _ _ h => h) hST (Au.yq_run (by rfl) (fun u hu => ?_)) ?_
        rotate_left
        · (clear hu; go_simp; try with_reducible rfl)
        simp only [Act.put, List.setIfInBounds_toArray, List.set_cons_zero, List.set_cons_succ]
        refine AvT.step 7 rfl (by kernel_rfl) (fun v hv KK hK => ?_)
        rw [if_pos (by rfl)]
        go_simp
        refine hK.out (fun u => (fun u => u.heap[wr.heap.size]? = some (.cells X 33 (0, 0)) ∧ Bl w u [(A, 31)] ∧ Mp u u7 (waitL (wtP k me o) (K.take i))) u ∧ u.heap[v.heap.size]? = some (.cells zeroP 37 (0, 0)) ∧ Kept v u) _ _ ⟨hT _ _ hv (Kept.one _ _), blk_new v _, Kept.one _ _⟩ (stab_and hT (stab_and blk_stab (fun u u' h k => h.trans k))) (fun u h => h.1) ?_
        clear hK KK
        refine AvT.step 8 rfl (by kernel_rfl) (fun v2 hv2 KK hK => ?_)
        rw [if_pos (by rfl)]
        refine wp_store_row 37 (.tmp 10) (.tmp 32) rfl v.heap.size P.arr rfl HP.out 37 zeroP hv2.2.1 info_pk rfl (pk_one _) ?_
        have hwr : wr.heap.size < v.heap.size := blk_lt hv.1
        have hw1 : w.heap.size + 1 ≤ v.heap.size := by have := hv.2.1.size; simpa using this
        have hdv : ∀ g, u7.ownBlock = some g → g < v.heap.size := fun g e => hv.2.2.lt e
        have hz2 : ((fun u => u.heap[wr.heap.size]? = some (.cells X 33 (0, 0)) ∧ Bl w u [(A, 31)] ∧ Mp u u7 (waitL (wtP k me o) (K.take i))) (v2.setRow v.heap.size P.arr)) ∧ (v2.setRow v.heap.size P.arr).heap[v.heap.size]? = some (.cells P.arr 37 (0, 0)) := ⟨⟨other_row' hv2.1.1 (by omega), hv2.1.2.1.far hw1 _, hv2.1.2.2.kept (fun g e => setRow_other _ _ _ _ (by have := hdv g e; omega))⟩, setRow_heap _ _ zeroP P.arr _ _ hv2.2.1⟩
        obtain ⟨g, hg⟩ : ∃ g, v.heap.size = g := ⟨_, rfl⟩
        rw [hg] at hz2 hwr hw1 hdv ⊢
        refine hK.out (fun u => (fun u => u.heap[wr.heap.size]? = some (.cells X 33 (0, 0)) ∧ Bl w u [(A, 31)] ∧ Mp u u7 (waitL (wtP k me o) (K.take i))) u ∧ u.heap[g]? = some (.cells P.arr 37 (0, 0))) _ _ hz2 (stab_and hT blk_stab) (fun u h => h.1) ?_
        clear hK KK hv2 hz2 hv hg
        clear v2 v
        refine AvT.done (by kernel_rfl) (fun V3 hV3 => ?_)
        have HV3 := Lib.hid hV3
        clear hV3 hST hT
        by_cases h4 : k = 4
        · subst h4
          have a14 : V3.cell? ⟨w.heap.size, 14, none⟩ = some (.int .i64 o.un) := (HV3.out.1.2.1.cell 0 14 rfl).trans c14
          have y10 : V3.cell? ⟨g, 10, none⟩ = some (.int .i64 0) := (blk_cell HV3.out.2 10).trans p10
          have f10 : V3.frozen? ⟨g, 10, none⟩ = false := blk_free HV3.out.2 10
          have hset := blk_set HV3.out.2 10 (.int .i64 z)
          have hbl : Bl w (V3.setCell ⟨g, 10, none⟩ (.int .i64 z)) [(A, 31)] := farc HV3.out.1.2.1 hw1 10 _
          have hmp : Mp (V3.setCell ⟨g, 10, none⟩ (.int .i64 z)) u7 (waitL (wtP 4 me o) (List.take i K)) := HV3.out.1.2.2.kept (fun j e => Below.heap_setCell _ _ _ _ (by have := hdv j e; show j ≠ g; omega))
          obtain ⟨R, hR⟩ : ∃ R, wtP 4 me o x = R := ⟨_, rfl⟩
          have hPR : P.arr.setIfInBounds 10 (.int .i64 z) = R.arr := by rw [← hR, wt_4, HPP.out, HZ.out]; rfl
          rw [hPR] at hset
          have HT2 := Lib.hid (HT.out.trans (by rw [hR]))
          go_upto_region 10 with (go_at_call 30; refine (C2.out _).mono ?_; rintro e v9 ⟨rfl, rfl⟩)
          clear a14 y10 f10 hPR hR HT
          generalize V3.setCell ⟨g, 10, none⟩ (.int .i64 z) = V4 at hset hbl hmp ⊢
          obtain ⟨Z, hZ⟩ : ∃ Z, R.arr = Z := ⟨_, rfl⟩
          rw [hZ] at hset
          have hfx := fold_pk R hZ
          have sZ : Z.size = 23 := by rw [← hZ]; rfl
          have HS4 := Lib.hid (And.intro hset (And.intro hbl hmp))
          have HZ4 := Lib.hid hZ
          clear hset hbl hmp hZ
          go_wp2_with (first
            | (refine load_w 37 (.tmp 10) rfl g rfl rfl Z 23 HS4.out.1 Tryd.underlying37 sZ info_pk ?_)
            | (at_builtin; refine wpList_append_onev enc_pk V4 rfl (.tmp 39) (.tmp 41) rfl _ _ R Z (by rw [← HZ4.out]; rfl) rfl rfl HS4.out.2.2 hlw ?_; intro v4 w4 r4 g4 b4))
          have ff : Fr (fun j => w.heap.size + 1 ≤ j ∨ u7.ownBlock = some j) w4 w4 := Fr.refl _ _
          have hz5 : Bl w w4 [(A, 31)] := by
            refine ⟨?_, fun j y hj => ?_⟩
            · exact ((Fr.kept (S := fun k => w.heap.size ≤ k) (HS4.out.2.1.kept.more _)).trans ((Fr.refl (fun j => w.heap.size ≤ j) (V4.alloc (.cells Z 37))).grown g4 (fun k e => .inl (Nat.le_of_succ_le (ho.out k e)))) (fun j hj => .inl hj)).keeps (fun j hj => hj)
            · have hj0 : j < 1 := (List.getElem?_eq_some_iff.1 hj).1
              obtain rfl : j = 0 := by omega
              have := HS4.out.2.1.at' 0 y hj
              rw [g4.block (w.heap.size + 0) (by have := blk_lt this; simp; omega) (fun c => by have h9 := ho.out _ c.symm; omega)]
              exact kept_at (Kept.one _ _) this
          have ho5 : ∀ g, v4.ownBlock = some g → w.heap.size + 1 ≤ g := fun g e => by
            rcases b4 with h | ⟨g', h, hg⟩
            · exact ho.out g (h.symm.trans e)
            · obtain rfl : g' = g := Option.some.inj (h.symm.trans e)
              have := HS4.out.2.1.size
              simp at this; omega
          have H5 := Lib.hid (And.intro hz5 (And.intro r4 ho5))
          clear hz5 r4 ho5 g4 b4 ff
          go_roundw
          case rel => exact ⟨i + 1, hlt, by go_num, Lib.hid H5.out.1, Lib.hid (by rw [HT2.out]; exact H5.out.2.1), Lib.hid H5.out.2.2⟩
          case measure => simp [intOf]; omega
        · obtain ⟨R, hR⟩ : ∃ R, wtP k me o x = R := ⟨_, rfl⟩
          have hPR : P = R := by rw [← hR, wt_k h4, HPP.out]
          have HT2 := Lib.hid (HT.out.trans (by rw [hR]))
          have hset := HV3.out.2
          have hbl := HV3.out.1.2.1
          have hmp := HV3.out.1.2.2
          rw [hPR] at hset
          have h4b : (k == 4) = false := beq_eq_false_iff_ne.2 h4
          go_upto_region 10 with fail
          clear hPR hR HT h4 h4b HP
          obtain ⟨Z, hZ⟩ : ∃ Z, R.arr = Z := ⟨_, rfl⟩
          rw [hZ] at hset
          obtain ⟨V4, hV4⟩ : ∃ V4, V3 = V4 := ⟨_, rfl⟩
          rw [hV4] at hset hbl hmp ⊢
          clear hV4
          have hfx := fold_pk R hZ
          have sZ : Z.size = 23 := by rw [← hZ]; rfl
          have HS4 := Lib.hid (And.intro hset (And.intro hbl hmp))
          have HZ4 := Lib.hid hZ
          clear hset hbl hmp hZ
          go_wp2_with (first
            | (refine load_w 37 (.tmp 10) rfl g rfl rfl Z 23 HS4.out.1 Tryd.underlying37 sZ info_pk ?_)
            | (at_builtin; refine wpList_append_onev enc_pk V4 rfl (.tmp 39) (.tmp 41) rfl _ _ R Z (by rw [← HZ4.out]; rfl) rfl rfl HS4.out.2.2 hlw ?_; intro v4 w4 r4 g4 b4))
          have ff : Fr (fun j => w.heap.size + 1 ≤ j ∨ u7.ownBlock = some j) w4 w4 := Fr.refl _ _
          have hz5 : Bl w w4 [(A, 31)] := by
            refine ⟨?_, fun j y hj => ?_⟩
            · exact ((Fr.kept (S := fun k => w.heap.size ≤ k) (HS4.out.2.1.kept.more _)).trans ((Fr.refl (fun j => w.heap.size ≤ j) (V4.alloc (.cells Z 37))).grown g4 (fun k e => .inl (Nat.le_of_succ_le (ho.out k e)))) (fun j hj => .inl hj)).keeps (fun j hj => hj)
            · have hj0 : j < 1 := (List.getElem?_eq_some_iff.1 hj).1
              obtain rfl : j = 0 := by omega
              have := HS4.out.2.1.at' 0 y hj
              rw [g4.block (w.heap.size + 0) (by have := blk_lt this; simp; omega) (fun c => by have h9 := ho.out _ c.symm; omega)]
              exact kept_at (Kept.one _ _) this
          have ho5 : ∀ g, v4.ownBlock = some g → w.heap.size + 1 ≤ g := fun g e => by
            rcases b4 with h | ⟨g', h, hg⟩
            · exact ho.out g (h.symm.trans e)
            · obtain rfl : g' = g := Option.some.inj (h.symm.trans e)
              have := HS4.out.2.1.size
              simp at this; omega
          have H5 := Lib.hid (And.intro hz5 (And.intro r4 ho5))
          clear hz5 r4 ho5 g4 b4 ff
          go_roundw
          case rel => exact ⟨i + 1, hlt, by go_num, Lib.hid H5.out.1, Lib.hid (by rw [HT2.out]; exact H5.out.2.1), Lib.hid H5.out.2.2⟩
          case measure => simp [intOf]; omega
      · have HT := Lib.hid (wait_no (f := wtP k me o) hx h1)
        have h1b : (x.st != 1) = true := bne_iff_ne.2 h1
        clear hX hc hx hV x6 kV bV
        go_wp2_with (first
          | (refine load_l 33 (.tmp 21) rfl _ rfl rfl (.agg X) hl ?_)
          | (refine store_new rfl 33 (.tmp 9) (.tmp 22) rfl wr.heap.size X rfl rfl _ _ rfl 13 info_rcl sX rfl oX ?_; rw [HVV.out]))
        go_roundw
        case rel => exact ⟨i + 1, hlt, by go_num, Lib.hid HBV.out.2.1, Lib.hid (by rw [HT.out]; exact HBV.out.2.2), ho⟩
        case measure => simp [intOf]; omega
    · obtain rfl : i = N := by omega
      have hKN : K.take i = K := List.take_of_length_le (by rw [HN.out]; exact Nat.le_refl _)
      have HA2 := Lib.hid (by have := hr.out; rw [hKN] at this; exact this)
      clear hr hKN
      go_wp2_with fail
      go_ret
      exact ⟨_, rfl, HA2.out, fun g e => Nat.le_of_succ_le (ho.out g e), hk.out.kept⟩

theorem load_pkm {u : World} {b o : Nat} {p : Pk} {X : Array Value} (hX : p.arr = X) (h : ∀ j x, (encP p)[j]? = some x → u.cell? ⟨b, o + j, none⟩ = some x) : (loadVar 37 ⟨b, o, none⟩).run Tryd.prog u = .ok (.agg X) u := by
  subst hX; exact run_loadVar_mid u b o _ (encP p) _ h Tryd.underlying37 rfl info_pk

set_option maxRecDepth 100000 in
set_option maxHeartbeats 4000000 in
theorem same_any {w : World} {va vb : Value} {L : List Pk} (ha : Ls 23 encP w va L) (hb : Ls 23 encP w vb L) (hl : L.length ≤ 900000) :
    Calls Tryd.prog 24 #[va, vb] w fun e w' => e = .returned (.bool true) ∧ Kept w w' := by
  obtain ⟨qa, Na, ca, rfl, hNa, _⟩ := ha.slice
  obtain ⟨qb, Nb, cb, rfl, hNb, _⟩ := hb.slice
  obtain rfl : Nb = Na := hNb.symm.trans hNa
  have HA := Lib.hid ha
  have HB := Lib.hid hb
  have HN := Lib.hid hNa
  have hm2 : Nb ≤ 900000 := by omega
  clear ha hb hNa hNb hl
  go_enter Tryd.func24, Tryd.ntmps24
  go_upto_region 4 with fail
  go_loopw [5] (fun y wr => ∃ i : Nat, i ≤ Nb ∧ y = .int .i64 (i : Int) ∧ Hid (Kept w wr)) (fun y _ => Nb - (intOf y).toNat)
  case atStart => exact ⟨0, Nat.zero_le _, rfl, Lib.hid (Kept.refl _)⟩
  case round =>
    obtain ⟨i, hi, rfl, hk⟩ := hrel
    by_cases hlt : i < Nb
    · obtain ⟨x, b, off, hx, rfl, hbb, hc⟩ := (HA.out.go hk.out).pick (i := i) (by rw [HN.out]; exact hlt)
      obtain ⟨x2, b2, off2, hx2, rfl, hbb2, hc2⟩ := (HB.out.go hk.out).pick (i := i) (by rw [HN.out]; exact hlt)
      obtain rfl : x = x2 := Option.some.inj (hx.symm.trans hx2)
      have hi1 : (i : Int) < (Nb : Int) := by omega
      obtain ⟨X, hX⟩ : ∃ X, x.arr = X := ⟨_, rfl⟩
      have HL1 := Lib.hid (fun (u : World) (hu : Kept wr u) => load_pkm (u := u) (b := b) (o := off + i * 23) hX (fun j z hz => (Below.cell hu (p := ⟨b, _, none⟩) hbb).trans (hc j z hz)))
      have HL2 := Lib.hid (fun (u : World) (hu : Kept wr u) => load_pkm (u := u) (b := b2) (o := off2 + i * 23) hX (fun j z hz => (Below.cell hu (p := ⟨b2, _, none⟩) hbb2).trans (hc2 j z hz)))
      have he : ∀ u, (binOp .neq 37 (.agg X) (.agg X)).run Tryd.prog u = .ok (.bool false) u := fun u => by rw [← hX]; exact (Pk.neq_run x x u).trans (by rw [same_self]; rfl)
      clear hx hx2 hc hc2 hX
      go_upto_region 6 with fail
      have hST : Stab (fun u => Kept wr u) ∧ ∀ u, (fun u => Kept wr u) u → (fun u => Kept wr u) u := ⟨fun u u' h k => h.trans k, fun u h => h⟩
      refine AvT.region (fun u => Kept wr u) (fun u => Kept wr u) (by kernel_rfl) ((Kept.refl _).drew) ?_
      refine AvT.take 0 (some 17) (v := ?_) rfl rfl (by kernel_rfl) (by kernel_rfl) (by kernel_rfl) (fun _ _ _ h => h) hST (Au.yq_run (by rfl) (fun u hu => ?_)) ?_
      rotate_left
      · (clear hu; go_simp; try with_reducible rfl)
      simp only [Act.put, List.setIfInBounds_toArray, List.set_cons_zero, List.set_cons_succ]
      refine AvT.take 1 (some 18) (v := ?_) rfl rfl (by kernel_rfl) (by kernel_rfl) (by kernel_rfl) (fun _ _ _ h => h) hST (Au.yq_run (by rfl) (fun u hu => ?_)) ?_
      rotate_left
      · (clear hu; go_simp; try with_reducible rfl)
      simp only [Act.put, List.setIfInBounds_toArray, List.set_cons_zero, List.set_cons_succ]
      refine AvT.take 2 (some 19) (v := ?_) rfl rfl (by kernel_rfl) (by kernel_rfl) (by kernel_rfl) (fun _ _ _ h => h) hST (Au.yq_run (by rfl) (fun u hu => ?_)) ?_
      rotate_left
      · (clear hu; go_simp; try with_reducible rfl)
      simp only [Act.put, List.setIfInBounds_toArray, List.set_cons_zero, List.set_cons_succ]
      refine AvT.take 3 (some 20) rfl rfl (by kernel_rfl) (by kernel_rfl) (by kernel_rfl) (fun _ _ _ h => h) hST (Au.yq_load 37 (.tmp 19) rfl _ rfl (by rfl) (fun u hu => HL1.out u hu)) ?_
      simp only [Act.put, List.setIfInBounds_toArray, List.set_cons_zero, List.set_cons_succ]
      refine AvT.take 4 (some 21) (v := ?_) rfl rfl (by kernel_rfl) (by kernel_rfl) (by kernel_rfl) (fun _ _ _ h => h) hST (Au.yq_run (by rfl) (fun u hu => ?_)) ?_
      rotate_left
      · (clear hu; go_simp; try with_reducible rfl)
      simp only [Act.put, List.setIfInBounds_toArray, List.set_cons_zero, List.set_cons_succ]
      refine AvT.take 5 (some 22) (v := ?_) rfl rfl (by kernel_rfl) (by kernel_rfl) (by kernel_rfl) (fun _ _ _ h => h) hST (Au.yq_run (by rfl) (fun u hu => ?_)) ?_
      rotate_left
      · (clear hu; go_simp; try with_reducible rfl)
      simp only [Act.put, List.setIfInBounds_toArray, List.set_cons_zero, List.set_cons_succ]
      refine AvT.take 6 (some 23) (v := ?_) rfl rfl (by kernel_rfl) (by kernel_rfl) (by kernel_rfl) (fun _ _ _ h => h) hST (Au.yq_run (by rfl) (fun u hu => ?_)) ?_
      rotate_left
      · (clear hu; go_simp; try with_reducible rfl)
      simp only [Act.put, List.setIfInBounds_toArray, List.set_cons_zero, List.set_cons_succ]
      refine AvT.take 7 (some 24) rfl rfl (by kernel_rfl) (by kernel_rfl) (by kernel_rfl) (fun _ _ _ h => h) hST (Au.yq_load 37 (.tmp 23) rfl _ rfl (by rfl) (fun u hu => HL2.out u hu)) ?_
      simp only [Act.put, List.setIfInBounds_toArray, List.set_cons_zero, List.set_cons_succ]
      refine AvT.take 8 (some 25) (v := .bool false) rfl rfl (by kernel_rfl) (by kernel_rfl) (by kernel_rfl) (fun _ _ _ h => h) hST (Au.yq_run (by rfl) (fun u hu => ?_)) ?_
      · have := he u
        clear hu; go_simp
      simp only [Act.put, List.setIfInBounds_toArray, List.set_cons_zero, List.set_cons_succ]
      refine AvT.done (by kernel_rfl) (fun u8 hu8 => ?_)
      clear hST he
      go_wp2_with fail
      go_roundw
      case rel => exact ⟨i + 1, hlt, by go_num, Lib.hid (hk.out.trans hu8)⟩
      case measure => simp [intOf]; omega
    · obtain rfl : i = Nb := by omega
      go_wp2_with fail
      go_ret
      exact ⟨rfl, hk.out⟩

end Go.Proofs.YtncdiggejofbbaaDoor.Sn
