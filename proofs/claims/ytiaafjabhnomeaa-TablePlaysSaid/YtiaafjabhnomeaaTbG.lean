/- Package table: New; Get. -/
import Derived.Test.YtiaafjabhnomeaaTbF
import Derived.Test.YtiaafjabhnomeaaRw
namespace Go.Proofs.Ytiaafjabhnomeaa.Tb
open Go.RowKit Go.Sort IdM Se Mv Blk
open St (Kept blk_cell blk_free blk_lt blk_set)
open Go.Proofs.Ytiaafjabhnomeaa.Ow (Ow Cls Mc mc_cls load_id load_key load_call info_cl one_cells take_snoc zeroA info_ow arr_one load_ow clone_any)
open Go.Proofs.Ytiaafjabhnomeaa.Cl (Cl encC)
open Go.Proofs.Ytiaafjabhnomeaa.Rv
open Go.Proofs.Ytiaafjabhnomeaa.Ad (load_w load_l store_new kept_row)
open Go.Proofs.Ytiaafjabhnomeaa.Au (Stab stab_and stab_kept)
open Wh (Fr)
set_option linter.unusedVariables false
set_option linter.unusedSimpArgs false
set_option maxRecDepth 20000

set_option maxHeartbeats 1000000 in
theorem new_any (w : World) : Calls Try.prog 6 #[] w fun e w' => ∃ B S, e = .returned (pB B) ∧ Tbl w' B [] 0 S ∧ (∀ k, S k → w.heap.size ≤ k) ∧ Kept w w' := by
  obtain ⟨w1, h1⟩ : ∃ w1, w.alloc (.map #[] 0) = w1 := ⟨_, rfl⟩
  obtain ⟨w2, h2⟩ : ∃ w2, w1.alloc (.map #[] 0) = w2 := ⟨_, rfl⟩
  have k1 : Kept w w1 := by rw [← h1]; exact Kept.one _ _
  have k2 : Kept w1 w2 := by rw [← h2]; exact Kept.one _ _
  have z1 : w1.heap.size = w.heap.size + 1 := by rw [← h1]; simp
  have z2 : w2.heap.size = w.heap.size + 2 := by rw [← h2]; simp; omega
  obtain ⟨w3, h3⟩ : ∃ w3, w2.alloc (.cells #[pB (w.heap.size + 1 + 1), .map (some w.heap.size), .map (some (w.heap.size + 1))] 63) = w3 := ⟨_, rfl⟩
  have k3 : Kept w2 w3 := by rw [← h3]; exact Kept.one _ _
  have b3 : Blk0 w3 (w.heap.size + 1 + 1) w.heap.size (w.heap.size + 1) := by
    unfold Blk0; rw [← h3]
    have := St.blk_new w2 (.cells #[pB (w.heap.size + 1 + 1), .map (some w.heap.size), .map (some (w.heap.size + 1))] 63)
    rw [z2] at this; exact this
  have hT : Tbl w3 (w.heap.size + 1 + 1) [] 0 (fun k => k = w.heap.size ∨ k = w.heap.size + 1 ∨ k = w.heap.size + 1 + 1) := by
    have hm : MV keyK elO zO w1 w.heap.size (fun _ => none) 0 := by rw [← h1]; exact MV.made _ _ _ _
    have hc : Cb w2 (w.heap.size + 1) (fun _ => []) 0 (fun k => k = w.heap.size + 1) := by rw [← h2, ← z1]; exact Cb.made w1
    refine ⟨w.heap.size, w.heap.size + 1, (fun k => k = w.heap.size + 1), fun _ => none, 0, fun _ => [], ?_⟩
    refine ⟨b3, hm.kept ((k2.trans k3).block _ (by omega)), Nat.le_refl _, hc.kept k3, fun x hx => .inl ⟨rfl, rfl⟩, Told.nil, List.Pairwise.nil, (fun e h => by cases h), fun k h => .inr (.inl h), .inr (.inr rfl), .inl rfl, (by omega), (by omega), fun k h => ?_⟩
    have : w3.heap.size = w2.heap.size + 1 := by rw [← h3]; simp
    omega
  have HT := Lib.hid hT
  have HK := Lib.hid ((k1.trans k2).trans k3)
  have H3 := Lib.hid h3
  have H2 := Lib.hid h2
  have H1 := Lib.hid h1
  have hmm := @run_makeMap Try.prog
  clear hT k1 k2 k3 b3 h1 h2 h3
  go_enter Try.func6, Try.ntmps6
  go_wp2_with fail
  go_ret
  refine ⟨w.heap.size + 1 + 1, (fun k => k = w.heap.size ∨ k = w.heap.size + 1 ∨ k = w.heap.size + 1 + 1), rfl, ?_, (fun k h => by omega), ?_⟩
  · have e := HT.out
    rw [← H3.out, ← H2.out, ← H1.out] at e
    exact e
  · have e := HK.out
    rw [← H3.out, ← H2.out, ← H1.out] at e
    exact e

set_option maxHeartbeats 2000000 in
theorem get_any {w : World} {B m : Nat} {S : Nat → Prop} {L : Tab} (h0 : Tbl w B L m S) {x : Ke} (hx : okK x) :
    Calls Try.prog 18 #[pB B, kv x] w fun e w' => ∃ q n c, e = .returned (.tuple #[.agg ((got x L).o.arr q n c), .bool (find x L).isSome]) ∧ Mc w' (.slice q n c) (got x L).K ∧ (∀ g, (Value.slice q n c).ownBlock = some g → w.heap.size ≤ g) ∧ Kept w w' := by
  obtain ⟨M, N, Sc, T, n0, F, h⟩ := h0
  obtain ⟨W, hW⟩ : ∃ W, (w.alloc (.cells #[.int .i64 x.n, .int .i64 x.i, .int .i64 x.s, .int .i64 x.a] 32)).alloc (.cells zeroA 52) = W := ⟨_, rfl⟩
  have hb : Bl w W [(#[.int .i64 x.n, .int .i64 x.i, .int .i64 x.s, .int .i64 x.a], 32), (zeroA, 52)] := hW ▸ Bl.two w _ _ _ _
  have h1 := h.kept hb.kept
  have C := Lib.hid (made_any h1.blk)
  obtain ⟨sl, hl, hr, hlen, _⟩ := h1.look hx
  have hM := h1.map.lt
  have LM := Lib.hid (fun (u : World) (hu : Kept W u) => run_loadM ((h1.blk.kept hu).c1))
  have LK := Lib.hid (fun (u : World) (hu : Kept W u) => load_key (u := u) (b := w.heap.size) (o := 0) ((hb.go hu).cell 0 0 rfl) ((hb.go hu).cell 0 1 rfl) ((hb.go hu).cell 0 2 rfl) ((hb.go hu).cell 0 3 rfl))
  have LO := Lib.hid (fun (u : World) (hu : Kept W u) => hl u (hu.block M hM))
  obtain ⟨o, ho⟩ : ∃ o, (got x L).o = o := ⟨_, rfl⟩
  obtain ⟨J, hJ⟩ : ∃ J, (got x L).K = J := ⟨_, rfl⟩
  obtain ⟨z, hz⟩ : ∃ z, (find x L).isSome = z := ⟨_, rfl⟩
  rw [ho, hz] at LO
  rw [hJ] at hr hlen
  rw [ho, hJ, hz]
  obtain ⟨A, hA⟩ : ∃ A, o.arr (ad sl.q) sl.n sl.c = A := ⟨_, rfl⟩
  rw [hA] at LO
  have sA : A.size = 19 := by rw [← hA]; rfl
  have oA : A.all (·.oneCell') = true := by rw [← hA]; exact arr_one _ _ _ _
  have CL := Lib.hid (fun (u : World) (hu : Kept W u) => by
    have := clone_any (w := u) (q := ad sl.q) (N := sl.n) (c := sl.c) o (mc_cls (RowV.keep hr hu) (by omega)) hlen
    rw [hA] at this; exact this)
  have HB := Lib.hid hb
  have HW := Lib.hid hW
  have hSt : Stab (fun u => Kept W u) := stab_kept W
  obtain ⟨n, i, s, a⟩ := x
  simp only [kv] at LO LK HW hb ⊢
  clear hA hz ho hJ hl hr h1 h hb hW hx
  unfold pB
  go_enter Try.func18, Try.ntmps18
  go_upto_region 1 with fail
  rw [show (w.alloc (.cells #[.int .i64 n, .int .i64 i, .int .i64 s, .int .i64 a] 32)).alloc (.cells #[.int .i64 0, .int .i64 0, .int .i64 0, .int .i64 0, .int .i64 0, .int .i64 0, .int .i64 0, .int .i64 0, .int .i64 0, .int .i64 0, .int .i64 0, .int .i64 0, .int .i64 0, .int .i64 0, .int .i64 0, .int .i64 0, .int .i64 0, .int .i64 0, .slice none 0 0] 52) = W from HW.out]
  go_upto_region 3 with (first | (go_at_call 35; refine C.out.mono ?_; rintro e w' ⟨rfl, rfl⟩))
  refine Av.region 11 (fun u => Kept W u) (by kernel_rfl) ((Kept.refl W).drew) ?_
  refine Av.take 0 (some 13) (v := ?_) rfl rfl (by kernel_rfl) (by kernel_rfl) (by kernel_rfl) (by kernel_rfl) (fun _ _ _ h => h) hSt (Au.yq_run (by rfl) (fun u hu => ?_)) ?_
  rotate_left
  · (clear hu; go_simp; try with_reducible rfl)
  simp only [Act.put, List.setIfInBounds_toArray, List.set_cons_zero, List.set_cons_succ]
  refine Av.take 1 (some 14) (v := ?_) rfl rfl (by kernel_rfl) (by kernel_rfl) (by kernel_rfl) (by kernel_rfl) (fun _ _ _ h => h) hSt (Au.yq_run (by rfl) (fun u hu => ?_)) ?_
  rotate_left
  · (clear hu; go_simp; try with_reducible rfl)
  simp only [Act.put, List.setIfInBounds_toArray, List.set_cons_zero, List.set_cons_succ]
  refine Av.take 2 (some 15) (v := ?_) rfl rfl (by kernel_rfl) (by kernel_rfl) (by kernel_rfl) (by kernel_rfl) (fun _ _ _ h => h) hSt (Au.yq_run (by rfl) (fun u hu => ?_)) ?_
  rotate_left
  · (clear hu; go_simp; try with_reducible rfl)
  simp only [Act.put, List.setIfInBounds_toArray, List.set_cons_zero, List.set_cons_succ]
  refine Av.take 3 (some 16) rfl rfl (by kernel_rfl) (by kernel_rfl) (by kernel_rfl) (by kernel_rfl) (fun _ _ _ h => h) hSt (Au.yq_load 60 (.tmp 15) rfl _ rfl (by rfl) (fun u hu => LM.out u hu)) ?_
  simp only [Act.put, List.setIfInBounds_toArray, List.set_cons_zero, List.set_cons_succ]
  refine Av.take 4 (some 17) rfl rfl (by kernel_rfl) (by kernel_rfl) (by kernel_rfl) (by kernel_rfl) (fun _ _ _ h => h) hSt (Au.yq_load 32 (.tmp 3) rfl _ rfl (by rfl) (fun u hu => LK.out u hu)) ?_
  simp only [Act.put, List.setIfInBounds_toArray, List.set_cons_zero, List.set_cons_succ]
  refine Av.take 5 (some 18) (v := ?_) rfl rfl (by kernel_rfl) (by kernel_rfl) (by kernel_rfl) (by kernel_rfl) (fun _ _ _ h => h) hSt (Au.yq_run (by rfl) (fun u hu => ?_)) ?_
  rotate_left
  · (have hrun := LO.out u hu; clear hu; go_simp; try with_reducible rfl)
  simp only [Act.put, List.setIfInBounds_toArray, List.set_cons_zero, List.set_cons_succ]
  refine Av.take 6 (some 12) (v := ?_) rfl rfl (by kernel_rfl) (by kernel_rfl) (by kernel_rfl) (by kernel_rfl) (fun _ _ _ h => h) hSt (Au.yq_run (by rfl) (fun u hu => ?_)) ?_
  rotate_left
  · (clear hu; go_simp; try with_reducible rfl)
  simp only [Act.put, List.setIfInBounds_toArray, List.set_cons_zero, List.set_cons_succ]
  refine Av.take 7 (some 19) (v := ?_) rfl rfl (by kernel_rfl) (by kernel_rfl) (by kernel_rfl) (by kernel_rfl) (fun _ _ _ h => h) hSt (Au.yq_run (by rfl) (fun u hu => ?_)) ?_
  rotate_left
  · (clear hu; go_simp; try with_reducible rfl)
  simp only [Act.put, List.setIfInBounds_toArray, List.set_cons_zero, List.set_cons_succ]
  refine Av.take 8 (some 20) (v := ?_) rfl rfl (by kernel_rfl) (by kernel_rfl) (by kernel_rfl) (by kernel_rfl) (fun _ _ _ h => h) hSt (Au.yq_run (by rfl) (fun u hu => ?_)) ?_
  rotate_left
  · (clear hu; go_simp; try with_reducible rfl)
  simp only [Act.put, List.setIfInBounds_toArray, List.set_cons_zero, List.set_cons_succ]
  refine Av.step 9 rfl (by kernel_rfl) (fun w1 hw1 K1 hK1 => ?_)
  rw [if_pos (by rfl)]
  go_simp
  obtain ⟨g, hg⟩ : ∃ g, w1.heap.size = g := ⟨_, rfl⟩
  have zz := Below.size hw1
  rw [hg] at zz ⊢
  refine hK1.out (fun u => Kept W u ∧ ∃ old : Array Value, u.heap[g]? = some (.cells old 52 (0, 0)) ∧ old.size = 19) _ _ ⟨hw1.more _, zeroA, by rw [← hg]; exact St.blk_new w1 _, rfl⟩ (stab_and hSt (fun u u' ⟨old, h, h2⟩ k => ⟨old, kept_at k h, h2⟩)) (fun u hu => hu.1) ?_
  clear hK1 K1 hg hw1
  refine Av.step_list 10 rfl (by kernel_rfl) (fun w2 hw2 K2 hK2 => ?_)
  obtain ⟨hk2, old, ho2, hs2⟩ := hw2
  refine wpList_store_row rfl 52 (.tmp 6) (.tmp 19) rfl g A rfl rfl 52 old ho2 (by rw [sA]; exact info_ow) (by rw [sA, hs2]) oA ?_
  have k3 : Kept W (w2.setRow g A) := kept_row hk2 zz A
  have b3 := setRow_heap w2 g old A 52 (0, 0) ho2
  refine wpList_nil (hK2.out (fun u => Kept W u ∧ u.heap[g]? = some (.cells A 52 (0, 0))) _ _ ⟨k3, b3⟩ (stab_and hSt (fun u u' h k => kept_at k h)) (fun u hu => ⟨hu.1, A, hu.2, sA⟩) ?_)
  clear hK2 K2 hk2 ho2 k3 b3
  refine Av.tail_list 11 rfl (by kernel_rfl) (by decide) (fun w3 hu K3 hK3 => ?_)
  obtain ⟨k3, b3⟩ := hu
  go_wp2_with fail
  refine hK3.out _ _ ?_
  clear hK3 K3
  refine Av.done (by kernel_rfl) (fun u hu => ?_)
  subst hu
  have lA := load_ow b3 sA
  have CL3 := Lib.hid (CL.out w3 k3)
  go_wp2_with (first
    | (refine load_l 52 (.tmp 6) rfl _ rfl rfl (.agg A) lA ?_)
    | (go_at_call 36; refine CL3.out.mono ?_; rintro e w4 ⟨q4, c4, rfl, r4, f4, k4⟩)
    | (refine wpList_store_row rfl 52 (.tmp 4) (.tmp 22) rfl (w.heap.size + 1) (o.arr q4 sl.n c4) rfl rfl 52 zeroA ((HB.out.go (k3.trans k4)).blk 1 rfl) info_ow rfl (arr_one _ _ _ _) ?_))
  have hb6 := (HB.out.go (k3.trans k4)).row 1 rfl (o.arr q4 sl.n c4)
  refine bodyPost_ret (Rw.results_row_tmp rfl _ _ (w.heap.size + 1) 52 (o.arr q4 sl.n c4) (0, 0) _ rfl (hb6.blk 1 rfl) Try.underlying52 rfl info_ow) rfl ?_
  have z3 := Below.size k3
  have zW : w.heap.size + 2 ≤ W.heap.size := HB.out.size
  refine ⟨q4, sl.n, c4, rfl, r4.kept fun g' e => ?_, fun g' e => ?_, hb6.kept⟩
  · have := f4 g' e
    exact setRow_other _ _ _ _ (by omega)
  · have := f4 g' e
    omega

end Go.Proofs.Ytiaafjabhnomeaa.Tb
