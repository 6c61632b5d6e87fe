/- Package table: Drop; Put. -/
import Derived.Test.YtiaafjabhnomeaaTbG
import Derived.Test.YtiaafjabhnomeaaRw
namespace Go.Proofs.Ytiaafjabhnomeaa.Tb
open Go.RowKit Go.Sort IdM Se Mv Blk
open St (Kept blk_cell blk_free blk_lt blk_set)
open Go.Proofs.Ytiaafjabhnomeaa.Ow (Ow Cls Mc mc_cls load_id load_key load_call info_cl one_cells take_snoc zeroA info_ow arr_one load_ow clone_any)
open Go.Proofs.Ytiaafjabhnomeaa.Cl (Cl encC)
open Go.Proofs.Ytiaafjabhnomeaa.Rv
open Go.Proofs.Ytiaafjabhnomeaa.Ad (load_w load_l store_new kept_row)
open Go.Proofs.Ytiaafjabhnomeaa.Au (Stab stab_and stab_kept)
open Wh (Fr)
set_option linter.unusedVariables false
set_option linter.unusedSimpArgs false
set_option maxRecDepth 20000

set_option maxHeartbeats 2000000 in
theorem drop_any {w : World} {B m : Nat} {S : Nat → Prop} {L : Tab} (h0 : Tbl w B L m S) (hm : m ≤ 900000) {x : Ke} (hx : okK x) :
    Calls Try.prog 23 #[pB B, kv x] w fun e w' => e = .returned (.bool (find x L).isSome) ∧ ∃ S', Tbl w' B (drop x L) m S' ∧ (∀ k, S' k → S k ∨ w.heap.size ≤ k) ∧ Fr S w w' := by
  obtain ⟨M, N, Sc, T, n0, F, h⟩ := h0
  obtain ⟨W, hW⟩ : ∃ W, w.alloc (.cells #[.int .i64 x.n, .int .i64 x.i, .int .i64 x.s, .int .i64 x.a] 32) = W := ⟨_, rfl⟩
  have hb : Bl w W [(#[.int .i64 x.n, .int .i64 x.i, .int .i64 x.s, .int .i64 x.a], 32)] := hW ▸ Bl.one w _ _
  have h1 := h.kept hb.kept
  have C := Lib.hid (made_any h1.blk)
  obtain ⟨sl, hl, hr, hlen, hown⟩ := h1.look hx
  have hM := h1.map.lt
  have LM := Lib.hid (fun (u : World) (hu : Kept W u) => run_loadM ((h1.blk.kept hu).c1))
  have LK := Lib.hid (fun (u : World) (hu : Kept W u) => load_key (u := u) (b := w.heap.size) (o := 0) ((hb.go hu).cell 0 0 rfl) ((hb.go hu).cell 0 1 rfl) ((hb.go hu).cell 0 2 rfl) ((hb.go hu).cell 0 3 rfl))
  have LO := Lib.hid (fun (u : World) (hu : Kept W u) => hl u (hu.block M hM))
  have HJF := Lib.hid (got_fit h1.fit x)
  have scl : ∀ k, Sc k → k < w.heap.size := fun k c => h.lt k (h.sS k c)
  have DR := Lib.hid (fun (w3 w4 : World) (k3 : Kept W w3) (Sc' : Nat → Prop) (hc : Cb w4 N (forF (ok (got x L).o) (got x L).K F) m Sc') (hsub : ∀ k, Sc' k → Sc k ∨ w3.heap.size ≤ k) (hf : Fr Sc w3 w4) (U : World) (hU : Kept w4 U) (hlt : ∀ k, Sc' k → k < w4.heap.size) => (h1.kept k3).dropped hx hc hsub hf hU hlt)
  obtain ⟨o, ho⟩ : ∃ o, (got x L).o = o := ⟨_, rfl⟩
  obtain ⟨J, hJ⟩ : ∃ J, (got x L).K = J := ⟨_, rfl⟩
  obtain ⟨z, hz⟩ : ∃ z, (find x L).isSome = z := ⟨_, rfl⟩
  rw [ho, hz] at LO
  rw [hJ] at hr hlen HJF
  rw [ho, hJ] at DR
  rw [hz]
  obtain ⟨A, hA⟩ : ∃ A, o.arr (ad sl.q) sl.n sl.c = A := ⟨_, rfl⟩
  rw [hA] at LO
  have sA : A.size = 19 := by rw [← hA]; rfl
  have oA : A.all (·.oneCell') = true := by rw [← hA]; exact arr_one _ _ _ _
  have FG := Lib.hid (fun (w3 : World) (k3 : Kept W w3) => by
    have := forget_any (w := w3) (h1.blk.kept k3) (h1.cb.kept k3) (fun k c => by have := scl k c; have := Below.size hb.kept; have := Below.size k3; omega) h1.nB o (q := ad sl.q) (n := sl.n) (c := sl.c) (K := J) (fun u hu => mc_cls ((RowV.keep hr k3).kept fun g e => hu.block g ((RowV.keep hr k3).lt e) (hown g e).2.1) (by omega)) hm hlen HJF.out
    rw [hA] at this; exact this)
  have HB := Lib.hid hb
  have HW := Lib.hid hW
  have HBK := Lib.hid (And.intro h1.blk (And.intro h1.nB scl))
  have hSt : Stab (fun u => Kept W u) := stab_kept W
  obtain ⟨n, i, s, a⟩ := x
  simp only [kv] at LO LK HW hb DR ⊢
  clear hA hz ho hJ hl hr h1 h hb hW hx hown scl
  unfold pB
  go_enter Try.func23, Try.ntmps23
  go_upto_region 1 with fail
  rw [HW.out]
  go_upto_region 3 with (first | (go_at_call 35; refine C.out.mono ?_; rintro e w' ⟨rfl, rfl⟩))
  refine Av.region 11 (fun u => Kept W u) (by kernel_rfl) ((Kept.refl W).drew) ?_
  refine Av.take 0 (some 11) (v := ?_) rfl rfl (by kernel_rfl) (by kernel_rfl) (by kernel_rfl) (by kernel_rfl) (fun _ _ _ h => h) hSt (Au.yq_run (by rfl) (fun u hu => ?_)) ?_
  rotate_left
  · (clear hu; go_simp; try with_reducible rfl)
  simp only [Act.put, List.setIfInBounds_toArray, List.set_cons_zero, List.set_cons_succ]
  refine Av.take 1 (some 12) (v := ?_) rfl rfl (by kernel_rfl) (by kernel_rfl) (by kernel_rfl) (by kernel_rfl) (fun _ _ _ h => h) hSt (Au.yq_run (by rfl) (fun u hu => ?_)) ?_
  rotate_left
  · (clear hu; go_simp; try with_reducible rfl)
  simp only [Act.put, List.setIfInBounds_toArray, List.set_cons_zero, List.set_cons_succ]
  refine Av.take 2 (some 13) (v := ?_) rfl rfl (by kernel_rfl) (by kernel_rfl) (by kernel_rfl) (by kernel_rfl) (fun _ _ _ h => h) hSt (Au.yq_run (by rfl) (fun u hu => ?_)) ?_
  rotate_left
  · (clear hu; go_simp; try with_reducible rfl)
  simp only [Act.put, List.setIfInBounds_toArray, List.set_cons_zero, List.set_cons_succ]
  refine Av.take 3 (some 14) rfl rfl (by kernel_rfl) (by kernel_rfl) (by kernel_rfl) (by kernel_rfl) (fun _ _ _ h => h) hSt (Au.yq_load 60 (.tmp 13) rfl _ rfl (by rfl) (fun u hu => LM.out u hu)) ?_
  simp only [Act.put, List.setIfInBounds_toArray, List.set_cons_zero, List.set_cons_succ]
  refine Av.take 4 (some 15) rfl rfl (by kernel_rfl) (by kernel_rfl) (by kernel_rfl) (by kernel_rfl) (fun _ _ _ h => h) hSt (Au.yq_load 32 (.tmp 3) rfl _ rfl (by rfl) (fun u hu => LK.out u hu)) ?_
  simp only [Act.put, List.setIfInBounds_toArray, List.set_cons_zero, List.set_cons_succ]
  refine Av.take 5 (some 16) (v := ?_) rfl rfl (by kernel_rfl) (by kernel_rfl) (by kernel_rfl) (by kernel_rfl) (fun _ _ _ h => h) hSt (Au.yq_run (by rfl) (fun u hu => ?_)) ?_
  rotate_left
  · (have hrun := LO.out u hu; clear hu; go_simp; try with_reducible rfl)
  simp only [Act.put, List.setIfInBounds_toArray, List.set_cons_zero, List.set_cons_succ]
  refine Av.take 6 (some 10) (v := ?_) rfl rfl (by kernel_rfl) (by kernel_rfl) (by kernel_rfl) (by kernel_rfl) (fun _ _ _ h => h) hSt (Au.yq_run (by rfl) (fun u hu => ?_)) ?_
  rotate_left
  · (clear hu; go_simp; try with_reducible rfl)
  simp only [Act.put, List.setIfInBounds_toArray, List.set_cons_zero, List.set_cons_succ]
  refine Av.take 7 (some 17) (v := ?_) rfl rfl (by kernel_rfl) (by kernel_rfl) (by kernel_rfl) (by kernel_rfl) (fun _ _ _ h => h) hSt (Au.yq_run (by rfl) (fun u hu => ?_)) ?_
  rotate_left
  · (clear hu; go_simp; try with_reducible rfl)
  simp only [Act.put, List.setIfInBounds_toArray, List.set_cons_zero, List.set_cons_succ]
  refine Av.take 8 (some 18) (v := ?_) rfl rfl (by kernel_rfl) (by kernel_rfl) (by kernel_rfl) (by kernel_rfl) (fun _ _ _ h => h) hSt (Au.yq_run (by rfl) (fun u hu => ?_)) ?_
  rotate_left
  · (clear hu; go_simp; try with_reducible rfl)
  simp only [Act.put, List.setIfInBounds_toArray, List.set_cons_zero, List.set_cons_succ]
  refine Av.step 9 rfl (by kernel_rfl) (fun w1 hw1 K1 hK1 => ?_)
  rw [if_pos (by rfl)]
  go_simp
  obtain ⟨g, hg⟩ : ∃ g, w1.heap.size = g := ⟨_, rfl⟩
  have zz := Below.size hw1
  rw [hg] at zz ⊢
  refine hK1.out (fun u => Kept W u ∧ ∃ old : Array Value, u.heap[g]? = some (.cells old 52 (0, 0)) ∧ old.size = 19) _ _ ⟨hw1.more _, zeroA, by rw [← hg]; exact St.blk_new w1 _, rfl⟩ (stab_and hSt (fun u u' ⟨old, h, h2⟩ k => ⟨old, kept_at k h, h2⟩)) (fun u hu => hu.1) ?_
  clear hK1 K1 hg hw1
  refine Av.step_list 10 rfl (by kernel_rfl) (fun w2 hw2 K2 hK2 => ?_)
  obtain ⟨hk2, old, ho2, hs2⟩ := hw2
  refine wpList_store_row rfl 52 (.tmp 5) (.tmp 17) rfl g A rfl rfl 52 old ho2 (by rw [sA]; exact info_ow) (by rw [sA, hs2]) oA ?_
  have k3 : Kept W (w2.setRow g A) := kept_row hk2 zz A
  have b3 := setRow_heap w2 g old A 52 (0, 0) ho2
  refine wpList_nil (hK2.out (fun u => Kept W u ∧ u.heap[g]? = some (.cells A 52 (0, 0))) _ _ ⟨k3, b3⟩ (stab_and hSt (fun u u' h k => kept_at k h)) (fun u hu => ⟨hu.1, A, hu.2, sA⟩) ?_)
  clear hK2 K2 hk2 ho2 k3 b3
  refine Av.tail_list 11 rfl (by kernel_rfl) (by decide) (fun w3 hu K3 hK3 => ?_)
  obtain ⟨k3, b3⟩ := hu
  go_wp2_with fail
  refine hK3.out _ _ ?_
  clear hK3 K3
  refine Av.done (by kernel_rfl) (fun u hu => ?_)
  subst hu
  have lA := load_ow b3 sA
  have FG3 := Lib.hid (FG.out w3 k3)
  go_upto_region 5 with (first
    | (refine load_l 52 (.tmp 5) rfl _ rfl rfl (.agg A) lA ?_)
    | (go_at_call 42; refine FG3.out.mono ?_; rintro e w4 ⟨rfl, Sc1, c1, sub1, f4⟩))
  obtain ⟨Sc', c4, sub0, lt4⟩ := c1.lt
  have sub4 : ∀ k, Sc' k → Sc k ∨ w3.heap.size ≤ k := fun k c => sub1 k (sub0 k c)
  have zW := Below.size HB.out.kept
  have z3 := Below.size k3
  have z4 := f4.size
  have bk4 : w4.heap[w.heap.size]? = some (.cells #[.int .i64 n, .int .i64 i, .int .i64 s, .int .i64 a] 32 (0, 0)) := by
    have e := (HB.out.go k3).blk 0 rfl
    exact (f4.block _ (blk_lt e) (fun c => by have := HBK.out.2.2 _ c; omega)).trans e
  have bB4 : Blk0 w4 B M N := (HBK.out.1.kept k3).fr f4 HBK.out.2.1
  have LM4 := Lib.hid (fun (u : World) (hu : Kept w4 u) => run_loadM ((bB4.kept hu).c1))
  have LK4 := Lib.hid (fun (u : World) (hu : Kept w4 u) => load_key (u := u) (b := w.heap.size) (o := 0) ((blk_cell (kept_at hu bk4) 0).trans rfl) ((blk_cell (kept_at hu bk4) 1).trans rfl) ((blk_cell (kept_at hu bk4) 2).trans rfl) ((blk_cell (kept_at hu bk4) 3).trans rfl))
  have D4 := Lib.hid (fun (U : World) (hU : Kept w4 U) => DR.out w3 w4 k3 Sc' c4 sub4 f4 U hU lt4)
  have hSt4 : Stab (fun u => Kept w4 u) := stab_kept w4
  have K03 := Lib.hid (HB.out.kept.trans k3)
  clear k3 b3 c1 c4 sub0 sub1 sub4 lt4 f4 bk4 bB4 FG3 lA
  refine Av.region 5 (fun u => Kept w4 u) (by kernel_rfl) ((Kept.refl w4).drew) ?_
  refine Av.take 0 (some 22) (v := ?_) rfl rfl (by kernel_rfl) (by kernel_rfl) (by kernel_rfl) (by kernel_rfl) (fun _ _ _ h => h) hSt4 (Au.yq_run (by rfl) (fun u hu => ?_)) ?_
  rotate_left
  · (clear hu; go_simp; try with_reducible rfl)
  simp only [Act.put, List.setIfInBounds_toArray, List.set_cons_zero, List.set_cons_succ]
  refine Av.take 1 (some 23) (v := ?_) rfl rfl (by kernel_rfl) (by kernel_rfl) (by kernel_rfl) (by kernel_rfl) (fun _ _ _ h => h) hSt4 (Au.yq_run (by rfl) (fun u hu => ?_)) ?_
  rotate_left
  · (clear hu; go_simp; try with_reducible rfl)
  simp only [Act.put, List.setIfInBounds_toArray, List.set_cons_zero, List.set_cons_succ]
  refine Av.take 2 (some 24) (v := ?_) rfl rfl (by kernel_rfl) (by kernel_rfl) (by kernel_rfl) (by kernel_rfl) (fun _ _ _ h => h) hSt4 (Au.yq_run (by rfl) (fun u hu => ?_)) ?_
  rotate_left
  · (clear hu; go_simp; try with_reducible rfl)
  simp only [Act.put, List.setIfInBounds_toArray, List.set_cons_zero, List.set_cons_succ]
  refine Av.take 3 (some 25) rfl rfl (by kernel_rfl) (by kernel_rfl) (by kernel_rfl) (by kernel_rfl) (fun _ _ _ h => h) hSt4 (Au.yq_load 60 (.tmp 24) rfl _ rfl (by rfl) (fun u hu => LM4.out u hu)) ?_
  simp only [Act.put, List.setIfInBounds_toArray, List.set_cons_zero, List.set_cons_succ]
  refine Av.take 4 (some 26) rfl rfl (by kernel_rfl) (by kernel_rfl) (by kernel_rfl) (by kernel_rfl) (fun _ _ _ h => h) hSt4 (Au.yq_load 32 (.tmp 3) rfl _ rfl (by rfl) (fun u hu => LK4.out u hu)) ?_
  simp only [Act.put, List.setIfInBounds_toArray, List.set_cons_zero, List.set_cons_succ]
  refine Av.tail_list 5 rfl (by kernel_rfl) (by decide) (fun u hu K3 hK3 => ?_)
  obtain ⟨w5, r5, T5, f5⟩ := D4.out u hu
  refine Av.run_delete rfl (.tmp 25) (.tmp 26) 60 32 rfl rfl rfl (r5 _) ?_
  have H5 := Lib.hid (And.intro T5 f5)
  clear T5 f5 r5 hu
  refine wpList_nil (hK3.out _ _ ?_)
  clear hK3 K3
  refine Av.done (by kernel_rfl) (fun u hu => ?_)
  subst hu
  go_wp2_with fail
  go_ret
  obtain ⟨S', T5, s5⟩ := H5.out.1
  have := Below.size K03.out
  exact ⟨rfl, S', T5, fun k c => (s5 k c).imp id (fun c => by omega), (Fr.kept (S := S) K03.out).trans H5.out.2 (fun _ c => .inl c)⟩

set_option maxHeartbeats 2000000 in
theorem put_any {w : World} {B m : Nat} {S : Nat → Prop} {L : Tab} (h0 : Tbl w B L m S) (o : Ow) {q : Option Addr} {n c : Nat} {K : List Cl} (hv : ∀ u, Fr S w u → Cls u (.slice q n c) K) (hm : m + K.length + 1 ≤ 900000) (hx : okK (ok o)) (hf : ∀ x ∈ K, okD (ci x)) :
    Calls Try.prog 16 #[pB B, .agg (o.arr q n c)] w fun e w' => e = .returned (.int .i64 0) ∧ ∃ S', Tbl w' B (put ⟨o, K⟩ L) (m + K.length + 1) S' ∧ (∀ k, S' k → S k ∨ w.heap.size ≤ k) ∧ Fr S w w' := by
  obtain ⟨A, hA⟩ : ∃ A, o.arr q n c = A := ⟨_, rfl⟩
  have c0 : A[0]? = some (.int .i64 o.kn) := by rw [← hA]; rfl
  have c1 : A[1]? = some (.int .i64 o.ki) := by rw [← hA]; rfl
  have c2 : A[2]? = some (.int .i64 o.ks) := by rw [← hA]; rfl
  have c3 : A[3]? = some (.int .i64 o.ka) := by rw [← hA]; rfl
  have sA : A.size = 19 := by rw [← hA]; rfl
  have hKn : K.length = n := by obtain ⟨p, cap, e⟩ := (hv w (Fr.refl _ _)).shape; cases e; rfl
  obtain ⟨W, hW⟩ : ∃ W, w.alloc (.cells A 52) = W := ⟨_, rfl⟩
  have hb : Bl w W [(A, 52)] := hW ▸ Bl.one w _ _
  have h1 := h0.kept hb.kept
  have C := Lib.hid (by obtain ⟨M, N, Sc, T, n0, F, h⟩ := h1; exact made_any h.blk : Calls Try.prog 35 #[pB B] W fun e w' => e = .returned (.bool true) ∧ W = w')
  have hSl : ∀ k, S k → k < w.heap.size := h0.lt
  have zW := Below.size hb.kept
  have y0 : W.cell? ⟨w.heap.size, 0, none⟩ = some (.int .i64 o.kn) := (hb.cell 0 0 rfl).trans c0
  have y1 : W.cell? ⟨w.heap.size, 1, none⟩ = some (.int .i64 o.ki) := (hb.cell 0 1 rfl).trans c1
  have y2 : W.cell? ⟨w.heap.size, 2, none⟩ = some (.int .i64 o.ks) := (hb.cell 0 2 rfl).trans c2
  have y3 : W.cell? ⟨w.heap.size, 3, none⟩ = some (.int .i64 o.ka) := (hb.cell 0 3 rfl).trans c3
  have DR0 := drop_any (x := ok o) h1 (show m ≤ 900000 by omega) hx
  have ek : kv (ok o) = .agg #[.int .i64 o.kn, .int .i64 o.ki, .int .i64 o.ks, .int .i64 o.ka] := rfl
  rw [ek] at DR0
  have DR := Lib.hid DR0
  clear DR0 ek
  have HB := Lib.hid hb
  have HW := Lib.hid hW
  have HV := Lib.hid (fun u (hu : Fr S W u) => hv u ((Fr.kept (S := S) hb.kept).trans hu (fun _ c => .inl c)))
  have HSL := Lib.hid hSl
  have HX := Lib.hid (And.intro hx hf)
  have HC := Lib.hid (And.intro c0 (And.intro c1 (And.intro c2 c3)))
  have HA := Lib.hid hA
  have HSO := Lib.hid h1.sorted
  rw [hA]
  clear hA h0 h1 hv hb hW hSl hx hf c0 c1 c2 c3
  unfold pB at C DR ⊢
  go_enter Try.func16, Try.ntmps16
  go_upto_region 1 with fail
  rw [HW.out]
  go_upto_region 4 with (first
    | (go_at_call 35; refine C.out.mono ?_; rintro e w' ⟨rfl, rfl⟩)
    | (go_at_call 23; refine DR.out.mono ?_; rintro e w2 ⟨rfl, S1, h2, sub1, f1⟩))
  obtain ⟨M, N, Sc, T, n0, F, h2⟩ := h2
  have z0 : w.heap.size < W.heap.size := blk_lt (HB.out.blk 0 rfl)
  have b2 : w2.heap[w.heap.size]? = some (.cells A 52 (0, 0)) := (f1.block _ z0 (fun c => by have := HSL.out _ c; omega)).trans (HB.out.blk 0 rfl)
  have nS1 : ¬ S1 w.heap.size := fun c => (sub1 _ c).elim (fun c => by have := HSL.out _ c; omega) (fun c => by omega)
  have LM := Lib.hid (fun (u : World) (hu : Kept w2 u) => run_loadM ((h2.blk.kept hu).c1))
  have LK := Lib.hid (fun (u : World) (hu : Kept w2 u) => load_key (u := u) (b := w.heap.size) (o := 0) ((blk_cell (kept_at hu b2) 0).trans HC.out.1) ((blk_cell (kept_at hu b2) 1).trans HC.out.2.1) ((blk_cell (kept_at hu b2) 2).trans HC.out.2.2.1) ((blk_cell (kept_at hu b2) 3).trans HC.out.2.2.2))
  have LW := Lib.hid (fun (u : World) (hu : Kept w2 u) => load_ow (kept_at hu b2) sA)
  have CV := Lib.hid (fun (u : World) (hu : Kept w2 u) => HV.out u (f1.then_kept hu))
  have CL := Lib.hid (fun (u : World) (hu : Kept w2 u) => by
    have := clone_any (w := u) (q := q) (N := n) (c := c) o (CV.out u hu) (by omega)
    rw [HA.out] at this; exact this)
  have hdn : find (ok o) (drop (ok o) L) = none := by rw [find_drop HSO.out, if_pos rfl]
  have hSt : Stab (fun u => Kept w2 u) := stab_kept w2
  have H2 := Lib.hid h2
  have HF1 := Lib.hid (And.intro f1 (And.intro sub1 nS1))
  have B2 := Lib.hid b2
  clear h2 f1 sub1 nS1 b2 DR
  refine Av.region 8 (fun u => Kept w2 u) (by kernel_rfl) ((Kept.refl w2).drew) ?_
  refine Av.take 0 (some 12) (v := ?_) rfl rfl (by kernel_rfl) (by kernel_rfl) (by kernel_rfl) (by kernel_rfl) (fun _ _ _ h => h) hSt (Au.yq_run (by rfl) (fun u hu => ?_)) ?_
  rotate_left
  · (clear hu; go_simp; try with_reducible rfl)
  simp only [Act.put, List.setIfInBounds_toArray, List.set_cons_zero, List.set_cons_succ]
  refine Av.take 1 (some 13) (v := ?_) rfl rfl (by kernel_rfl) (by kernel_rfl) (by kernel_rfl) (by kernel_rfl) (fun _ _ _ h => h) hSt (Au.yq_run (by rfl) (fun u hu => ?_)) ?_
  rotate_left
  · (clear hu; go_simp; try with_reducible rfl)
  simp only [Act.put, List.setIfInBounds_toArray, List.set_cons_zero, List.set_cons_succ]
  refine Av.take 2 (some 14) (v := ?_) rfl rfl (by kernel_rfl) (by kernel_rfl) (by kernel_rfl) (by kernel_rfl) (fun _ _ _ h => h) hSt (Au.yq_run (by rfl) (fun u hu => ?_)) ?_
  rotate_left
  · (clear hu; go_simp; try with_reducible rfl)
  simp only [Act.put, List.setIfInBounds_toArray, List.set_cons_zero, List.set_cons_succ]
  refine Av.take 3 (some 15) rfl rfl (by kernel_rfl) (by kernel_rfl) (by kernel_rfl) (by kernel_rfl) (fun _ _ _ h => h) hSt (Au.yq_load 60 (.tmp 14) rfl _ rfl (by rfl) (fun u hu => LM.out u hu)) ?_
  simp only [Act.put, List.setIfInBounds_toArray, List.set_cons_zero, List.set_cons_succ]
  refine Av.take 4 (some 16) (v := ?_) rfl rfl (by kernel_rfl) (by kernel_rfl) (by kernel_rfl) (by kernel_rfl) (fun _ _ _ h => h) hSt (Au.yq_run (by rfl) (fun u hu => ?_)) ?_
  rotate_left
  · (clear hu; go_simp; try with_reducible rfl)
  simp only [Act.put, List.setIfInBounds_toArray, List.set_cons_zero, List.set_cons_succ]
  refine Av.take 5 (some 17) rfl rfl (by kernel_rfl) (by kernel_rfl) (by kernel_rfl) (by kernel_rfl) (fun _ _ _ h => h) hSt (Au.yq_load 32 (.tmp 16) rfl _ rfl (by rfl) (fun u hu => LK.out u hu)) ?_
  simp only [Act.put, List.setIfInBounds_toArray, List.set_cons_zero, List.set_cons_succ]
  refine Av.take 6 (some 18) rfl rfl (by kernel_rfl) (by kernel_rfl) (by kernel_rfl) (by kernel_rfl) (fun _ _ _ h => h) hSt (Au.yq_load 52 (.tmp 3) rfl _ rfl (by rfl) (fun u hu => LW.out u hu)) ?_
  simp only [Act.put, List.setIfInBounds_toArray, List.set_cons_zero, List.set_cons_succ]
  refine Av.step_list 7 rfl (by kernel_rfl) (fun w3 hw3 K3 hK3 => ?_)
  have CL3 := Lib.hid (CL.out w3 hw3)
  go_wp2_with (first | (refine CL3.out.mono ?_; rintro e w4 ⟨q4, c4, rfl, r4, f4, k4⟩))
  obtain ⟨sl, es, _, _, _⟩ := row_sl r4
  have e4 : q4 = ad sl.q ∧ n = sl.n ∧ c4 = sl.c := by unfold Sl.v at es; injection es with e1 e2 e3; exact ⟨e1, e2, e3⟩
  obtain ⟨e41, e42, e43⟩ := e4
  rw [es] at r4 f4
  rw [e41, e43]
  rw [show o.arr (ad sl.q) n sl.c = o.arr (ad sl.q) sl.n sl.c from by rw [← e42]]
  have z3 := Below.size hw3
  refine hK3.out (fun u => Kept w2 u ∧ Mc u sl.v K) _ _ ⟨hw3.trans k4, r4⟩ (stab_and hSt (fun u u' h k => RowV.keep h k)) (fun u hu => hu.1) ?_
  have HNEW := Lib.hid (fun g (e : sl.v.ownBlock = some g) => Nat.le_trans z3 (f4 g e))
  clear hK3 K3 CL3 r4 f4 k4 hw3 es e41 e42 e43 z3
  refine Av.tail_list 8 rfl (by kernel_rfl) (by decide) (fun U hu K3 hK3 => ?_)
  obtain ⟨w5, r5, f5, b5, cb5, m5, mc5, row5⟩ := H2.out.laid (by omega) HX.out.1 hu.1 hu.2 HNEW.out (by omega) hdn
  refine Av.run_update rfl (.tmp 15) (.tmp 17) (.tmp 19) 60 rfl rfl rfl rfl r5 ?_
  refine wpList_nil (hK3.out _ _ ?_)
  clear hK3 K3 r5
  refine Av.done (by kernel_rfl) (fun u hu9 => ?_)
  subst hu9
  have zU := Below.size hu.1
  have z5 := f5.size
  have z1 := HF1.out.1.size
  have fS5 : Fr S W w5 := (HF1.out.1.then_kept hu.1).trans f5 (fun k c => by
    subst c
    exact (HF1.out.2.1 _ H2.out.sM))
  have bx5 : w5.heap[w.heap.size]? = some (.cells A 52 (0, 0)) := (f5.block _ (by omega) (fun c : w.heap.size = M => HF1.out.2.2 (by rw [c]; exact H2.out.sM))).trans (kept_at hu.1 B2.out)
  have l5 := load_ow bx5 sA
  have CN := note_any b5 cb5 (fun k c => by have := H2.out.lt k (H2.out.sS k c); omega) H2.out.nB o (q := q) (n := n) (c := c) (K := K) (fun u hu' => HV.out u (fS5.trans hu' (fun k c => HF1.out.2.1 k (H2.out.sS k c)))) (by omega) HX.out.2
  rw [HA.out] at CN
  unfold pB at CN
  have HN := Lib.hid CN
  have H5 := Lib.hid (And.intro hu.1 (And.intro f5 (And.intro b5 (And.intro m5 (And.intro mc5 row5)))))
  clear CN f5 b5 cb5 m5 mc5 row5 fS5 bx5
  go_wp2_with (first
    | (refine load_l 52 (.tmp 3) rfl _ rfl rfl (.agg A) l5 ?_)
    | (go_at_call 37; refine HN.out.mono ?_; rintro e w6 ⟨rfl, Sc1, c1, sub1, f6⟩))
  go_ret
  obtain ⟨Sc', c6, sub0, lt6⟩ := c1.lt
  obtain ⟨⟨S', T6, s6⟩, f7⟩ := H2.out.put HX.out.1 HX.out.2 H5.out.1 HNEW.out (by omega) hdn H5.out.2.1 H5.out.2.2.1 H5.out.2.2.2.1 H5.out.2.2.2.2.1 H5.out.2.2.2.2.2 (Kept.refl w5) (c6.mono (fun _ c => c) (show m + K.length ≤ m + K.length + 1 by omega)) (by omega) (fun k c => sub1 k (sub0 k c)) lt6 f6
  refine ⟨rfl, S', ?_, fun k c => ?_, ?_⟩
  · have : put ⟨o, K⟩ (drop (ok o) L) = put ⟨o, K⟩ L := by
      unfold put
      show ins _ (drop (ok o) (drop (ok o) L)) = ins _ (drop (ok o) L)
      rw [drop_none hdn]
    rw [← this]; exact T6
  · rcases s6 k c with c | c
    · exact (HF1.out.2.1 k c).imp id (fun c => by omega)
    · exact .inr (by omega)
  · exact ((Fr.kept (S := S) HB.out.kept).trans HF1.out.1 (fun _ c => .inl c)).trans f7 (fun k c => (HF1.out.2.1 k c).imp id (fun c => by omega))

end Go.Proofs.Ytiaafjabhnomeaa.Tb
