/- The law: a call that is put. -/
import Derived.Test.YtplkhinjlgmilaaOwG
import Derived.Test.YtplkhinjlgmilaaOwF
import Derived.Test.YtplkhinjlgmilaaOwN
namespace Go.Proofs.Ytplkhinjlgmilaa.Ow
open Go.RowKit Go.Sort Go.Shelf St Blk Eqs
open Go.Proofs.Ytplkhinjlgmilaa.Cl
open Go.Proofs.Ytplkhinjlgmilaa.Ls
open Go.Proofs.Ytplkhinjlgmilaa.Rv
open Go.Proofs.Ytplkhinjlgmilaa.Au (Stab stab_and)
open Go.Proofs.Ytplkhinjlgmilaa.Ad (load_w load_l store_new)
set_option linter.unusedVariables false

theorem mcs (v : Value) (K : List Cl) : Stab (fun u => Mc u v K) := fun u u' h k => h.keep k
theorem blk_stab (g : Nat) (X : Array Value) (t : TypeId) : Stab (fun u => u.heap[g]? = some (.cells X t (0, 0))) := fun u u' h k => kept_at k h

set_option maxRecDepth 100000 in
set_option maxHeartbeats 8000000 in
theorem lwith_any {w : World} {q : Option Addr} {N c : Nat} {K : List Cl} (o : Ow) (cc dd : Cl) (d : Nm) (hv : Cls w (.slice q N c) K) :
    Calls Try.prog 7 #[.agg (o.arr q N c), .agg cc.arr, .agg dd.arr, .agg #[.int .i64 d.n, .int .i64 d.i, .int .i64 d.s]] w fun e w' => e = .returned (.bool true) ∧ Kept w w' := by
  have hN : K.length = N := by obtain ⟨p, cap, e⟩ := hv.shape; cases e; rfl
  obtain ⟨A, hA⟩ : ∃ A, o.arr q N c = A := ⟨_, rfl⟩
  have sA : A.size = 19 := by rw [← hA]; rfl
  obtain ⟨W, hW⟩ : ∃ W, (((w.alloc (.cells A 28)).alloc (.cells cc.arr 30)).alloc (.cells dd.arr 30)).alloc (.cells #[.int .i64 d.n, .int .i64 d.i, .int .i64 d.s] 23) = W := ⟨_, rfl⟩
  have hb : Bl w W [(A, 28), (cc.arr, 30), (dd.arr, 30), (#[.int .i64 d.n, .int .i64 d.i, .int .i64 d.s], 23)] := by rw [← hW]; exact Bl.start [(A, 28), (cc.arr, 30), (dd.arr, 30), (#[.int .i64 d.n, .int .i64 d.i, .int .i64 d.s], 23)] w
  have h18 : W.cell? ⟨w.heap.size, 18, none⟩ = some (.slice q N c) := (hb.cell 0 18 rfl).trans (show A[18]? = _ by rw [← hA]; rfl)
  have HW := Lib.hid hW
  have HB := Lib.hid hb
  have HAW := Lib.hid awake_any
  rw [hA]
  by_cases g1 : N ≤ 30
  · have e1 : ¬ 30 < (N : Int) := by omega
    have li : (loadVar 23 ⟨w.heap.size + 1, 0, none⟩).run Try.prog W = .ok (.agg #[.int .i64 cc.n, .int .i64 cc.i, .int .i64 cc.s]) W := load_id (hb.cell 1 0 rfl) (hb.cell 1 1 rfl) (hb.cell 1 2 rfl)
    obtain ⟨W3, hW3⟩ : ∃ W3, W.setRow (w.heap.size + 2) (under cc dd).arr = W3 := ⟨_, rfl⟩
    have hb3 : Bl w W3 [(A, 28), (cc.arr, 30), ((under cc dd).arr, 30), (#[.int .i64 d.n, .int .i64 d.i, .int .i64 d.s], 23)] := by rw [← hW3]; exact hb.row 2 rfl _
    have la := load_row (hb3.blk 0 rfl) sA
    have CM := Lib.hid (mine_any o (hv.go hb3.kept) (by omega))
    rw [hA] at CM
    have HW3 := Lib.hid hW3
    have HB3 := Lib.hid hb3
    have HV := Lib.hid hv
    have HN := Lib.hid hN
    have HA := Lib.hid hA
    have hK3 : K.length ≤ 30 := by omega
    clear hb hb3 hW hW3 hA hv
    go_enter Try.func7, Try.ntmps7
    go_upto_region 1 with fail
    rw [HW.out]
    go_upto_region 4 with (first
      | (refine load_l 23 (.tmp 18) rfl _ rfl rfl _ li ?_)
      | (refine store_ident rfl (.tmp 20) (.tmp 19) rfl (w.heap.size + 1 + 1) cc dd rfl rfl (HB.out.blk 2 rfl) ?_; rw [show W.setRow (w.heap.size + 1 + 1) (under cc dd).arr = W3 from HW3.out]))
    go_upto_region 5 with (first
      | (refine load_l 28 (.tmp 4) rfl _ rfl rfl (.agg A) la ?_)
      | (go_at_call 9; refine CM.out.mono ?_; rintro e u1 ⟨q1, n1, c1, rfl, s1, -, k1⟩; obtain rfl : n1 = N := ((mc_len s1).symm.trans HN.out); have S1 := Lib.hid (And.intro s1 (HB3.out.go k1)); clear s1 k1)
      | (refine store_new rfl 34 (.tmp 9) (.tmp 22) rfl u1.heap.size (o.arr q1 n1 c1) rfl rfl _ _ rfl 19 info_ow rfl rfl (arr_one _ _ _ _) ?_))
    obtain ⟨V, hV⟩ : ∃ V, u1.alloc (.cells (o.arr q1 n1 c1) 34) = V := ⟨_, rfl⟩
    rw [hV]
    have kV : Kept u1 V := by rw [← hV]; exact Kept.one _ _
    have bV : V.heap[u1.heap.size]? = some (.cells (o.arr q1 n1 c1) 34 (0, 0)) := by rw [← hV]; exact blk_new u1 _
    obtain ⟨B9, hB9⟩ : ∃ B, u1.heap.size = B := ⟨_, rfl⟩
    rw [hB9] at bV ⊢
    obtain ⟨S, hS⟩ : ∃ S : World → Prop, S = fun u => Bl w u [(A, 28), (cc.arr, 30), ((under cc dd).arr, 30), (#[.int .i64 d.n, .int .i64 d.i, .int .i64 d.s], 23)] ∧ u.heap[B9]? = some (.cells (o.arr q1 n1 c1) 34 (0, 0)) ∧ Mc u (.slice q1 n1 c1) K := ⟨_, rfl⟩
    have hSt : Stab S := by rw [hS]; exact fun u u' h k => ⟨h.1.go k, kept_at k h.2.1, h.2.2.keep k⟩
    have hSV : S V := by rw [hS]; exact ⟨S1.out.2.go kV, bV, S1.out.1.keep kV⟩
    have GS := Lib.hid (fun (u : World) (h : S u) => (by rw [hS] at h; exact h : Bl w u [(A, 28), (cc.arr, 30), ((under cc dd).arr, 30), (#[.int .i64 d.n, .int .i64 d.i, .int .i64 d.s], 23)] ∧ u.heap[B9]? = some (.cells (o.arr q1 n1 c1) 34 (0, 0)) ∧ Mc u (.slice q1 n1 c1) K))
    have HSV := Lib.hid hSV
    have hSd := hS
    have HONE := Lib.hid one_any
    clear hS hV kV hSV hB9 bV li la h18
    obtain ⟨K1, hK1'⟩ : ∃ L, withL K cc = L := ⟨_, rfl⟩
    have hKL1 : K1.length ≤ 31 := by rw [← hK1']; have := with_len K cc; omega
    have SNEQ : ∀ (v : Value) (L : List Cl) (u : World), Mc u v L → ∀ {g : Nat}, u.heap[g]? = some (.cells zeroA 34 (0, 0)) → ∀ {g' : Nat}, v.ownBlock = some g' → g' ≠ g := fun v L u h g hg g' e e2 => by
      rcases h.2 with ⟨h1, _⟩ | ⟨g2, cap2, cur, h1, _, h3, _⟩
      · rw [h1] at e; cases e
      · rw [h1] at e
        obtain rfl : g2 = g' := Option.some.inj e
        rw [e2, hg] at h3
        simp at h3
    have SR : ∀ (u : World) (g : Nat) (xs : Array Value), S u → (∃ w', S w' ∧ w'.heap.size = g) → u.heap[g]? = some (.cells zeroA 34 (0, 0)) → S (u.setRow g xs) := fun u g xs h ⟨w', hw', he⟩ hg => by
      have h9 := blk_lt (GS.out w' hw').2.1
      have h4 := (GS.out w' hw').1.size
      obtain ⟨p1, p2, p3⟩ := GS.out u h
      rw [hSd]
      exact ⟨p1.far (by show _ ≤ g; rw [← he]; exact h4) xs, (setRow_other _ _ _ _ (by omega)).trans p2, p3.kept (fun g' e => setRow_other _ _ _ _ (SNEQ _ _ _ p3 hg e))⟩
    have S28 := Lib.hid SR
    have W5 := Lib.hid (fun (u : World) (h : S u) => (by have := with_any o (mc_cls (GS.out u h).2.2 (by omega)) (by omega) cc; rw [hK1'] at this; exact this : Calls Try.prog 24 #[.agg (o.arr q1 n1 c1), .agg cc.arr] u fun e w' => ∃ q' n' c', e = .returned (.agg (o.arr q' n' c')) ∧ Mc w' (.slice q' n' c') K1 ∧ Kept u w'))
    clear SR hSd
    simp only [Act.put]
    go_cut [10] (fun tt wx => ∃ (gg : Nat) (q2 : Option Addr) (n2 c2 : Nat), tt = .pointer (some ⟨gg, 0, none⟩) ∧ S wx ∧ wx.heap[gg]? = some (.cells (o.arr q2 n2 c2) 34 (0, 0)) ∧ Mc wx (.slice q2 n2 c2) K1)
    case first =>
      refine Av.region 5 S (by kernel_rfl) (hSt _ _ HSV.out (Kept.refl _).drew) ?_
      refine Av.take 0 (some 23) rfl rfl (by kernel_rfl) (by kernel_rfl) (by kernel_rfl) (by kernel_rfl) (fun _ _ _ h => h) hSt (Au.yq_load 34 (.tmp 9) rfl _ rfl (by rfl) (fun u hu => load_ow (GS.out u hu).2.1 rfl)) ?_
      simp only [Act.put, List.setIfInBounds_toArray, List.set_cons_zero, List.set_cons_succ]
      refine Av.take 1 (some 24) rfl rfl (by kernel_rfl) (by kernel_rfl) (by kernel_rfl) (by kernel_rfl) (fun _ _ _ h => h) hSt (Au.yq_load 30 (.tmp 5) rfl _ rfl (by rfl) (fun u hu => load_rcl ((GS.out u hu).1.blk 1 rfl) rfl)) ?_
      simp only [Act.put, List.setIfInBounds_toArray, List.set_cons_zero, List.set_cons_succ]
      refine Av.take 2 (some 25) rfl rfl (by kernel_rfl) (by kernel_rfl) (by kernel_rfl) (by kernel_rfl) (fun _ _ _ h => h) hSt (Au.yq_call 25 _ (by rfl) (fun u => by go_simp) (fun u hu => HONE.out cc u)) ?_
      simp only [Act.put, List.setIfInBounds_toArray, List.set_cons_zero, List.set_cons_succ]
      refine Av.fork 3 4 rfl rfl (by kernel_rfl) (fun w3 hw3 K3 hK3 => ?_) (fun w1 hw1 J1 hJ1 => ?_)
      · rw [if_pos (by rfl)]
        go_simp
        refine (W5.out w3 hw3).mono ?_
        rintro e w4 ⟨q2, n2, c2, rfl, s2, k2⟩
        go_wp2_with fail
        refine hK3.out (fun u => (S u) ∧ Mc u (.slice q2 n2 c2) K1) _ _ ⟨hSt _ _ hw3 k2, s2⟩ (stab_and hSt (mcs _ _)) (fun u hu => hu.1) ?_
        clear hK3 K3 s2 k2
        refine Av.step 4 rfl (by kernel_rfl) (fun w1 hw1 J1 hJ1 => ?_)
        rw [if_pos (by rfl)]
        go_simp
        have hgg : ∃ w', S w' ∧ w'.heap.size = w1.heap.size := ⟨w1, hw1.1, rfl⟩
        refine hJ1.out (fun u => (S u ∧ Mc u (.slice q2 n2 c2) K1) ∧ u.heap[w1.heap.size]? = some (.cells zeroA 34 (0, 0))) _ _ ⟨(stab_and hSt (mcs _ _)) _ _ hw1 (Kept.one _ _), blk_new w1 _⟩ (stab_and (stab_and hSt (mcs _ _)) (blk_stab _ _ _)) (fun u hu => hu.1) ?_
        clear hJ1 J1
        refine Av.tail 5 rfl (by kernel_rfl) (by decide) (fun w5 hw5 K5 hK5 => ?_)
        rw [if_pos (by rfl)]
        refine wp_store_row 34 (.tmp 10) (.tmp 26) rfl w1.heap.size (o.arr q2 n2 c2) rfl rfl 34 zeroA hw5.2 info_ow rfl (arr_one _ _ _ _) ?_
        refine hK5.out _ _ ?_
        clear hK5 K5
        refine Av.done (by kernel_rfl) (fun u hu => ?_)
        subst hu
        go_wp2_with fail
        go_meet
        exact ⟨w1.heap.size, q2, n2, c2, rfl, S28.out _ _ _ hw5.1.1 hgg hw5.2, setRow_heap _ _ zeroA _ _ _ hw5.2, hw5.1.2.kept (fun g' e => setRow_other _ _ _ _ (SNEQ _ _ _ hw5.1.2 hw5.2 e))⟩
      · rw [if_pos (by rfl)]
        go_simp
        have hgg : ∃ w', S w' ∧ w'.heap.size = w1.heap.size := ⟨w1, hw1, rfl⟩
        refine hJ1.out (fun u => (S u) ∧ u.heap[w1.heap.size]? = some (.cells zeroA 34 (0, 0))) _ _ ⟨hSt _ _ hw1 (Kept.one _ _), blk_new w1 _⟩ (stab_and hSt (blk_stab _ _ _)) (fun u hu => hu.1) ?_
        clear hJ1 J1
        refine Av.step 3 rfl (by kernel_rfl) (fun w3 hw3 K3 hK3 => ?_)
        rw [if_pos (by rfl)]
        go_simp
        refine (W5.out w3 hw3.1).mono ?_
        rintro e w4 ⟨q2, n2, c2, rfl, s2, k2⟩
        go_wp2_with fail
        refine hK3.out (fun u => (S u ∧ u.heap[w1.heap.size]? = some (.cells zeroA 34 (0, 0))) ∧ Mc u (.slice q2 n2 c2) K1) _ _ ⟨(stab_and hSt (blk_stab _ _ _)) _ _ hw3 k2, s2⟩ (stab_and (stab_and hSt (blk_stab _ _ _)) (mcs _ _)) (fun u hu => hu.1) ?_
        clear hK3 K3 s2 k2
        refine Av.tail 5 rfl (by kernel_rfl) (by decide) (fun w5 hw5 K5 hK5 => ?_)
        rw [if_pos (by rfl)]
        refine wp_store_row 34 (.tmp 10) (.tmp 26) rfl w1.heap.size (o.arr q2 n2 c2) rfl rfl 34 zeroA hw5.1.2 info_ow rfl (arr_one _ _ _ _) ?_
        refine hK5.out _ _ ?_
        clear hK5 K5
        refine Av.done (by kernel_rfl) (fun u hu => ?_)
        subst hu
        go_wp2_with fail
        go_meet
        exact ⟨w1.heap.size, q2, n2, c2, rfl, S28.out _ _ _ hw5.1.1 hgg hw5.1.2, setRow_heap _ _ zeroA _ _ _ hw5.1.2, hw5.2.kept (fun g' e => setRow_other _ _ _ _ (SNEQ _ _ _ hw5.2 hw5.1.2 e))⟩
    case rest =>
      obtain ⟨B10, q2, n2, c2, rfl, hSw, hb10, hm10⟩ := hcut
      obtain ⟨S2, hS2d⟩ : ∃ S' : World → Prop, S' = fun u => Bl w u [(A, 28), (cc.arr, 30), ((under cc dd).arr, 30), (#[.int .i64 d.n, .int .i64 d.i, .int .i64 d.s], 23)] ∧ S u ∧ u.heap[B10]? = some (.cells (o.arr q2 n2 c2) 34 (0, 0)) ∧ Mc u (.slice q2 n2 c2) K1 := ⟨_, rfl⟩
      have hSt2 : Stab S2 := by rw [hS2d]; exact fun u u' h k => ⟨h.1.go k, hSt _ _ h.2.1 k, kept_at k h.2.2.1, h.2.2.2.keep k⟩
      have hS2V : S2 wc := by rw [hS2d]; exact ⟨(GS.out wc hSw).1, hSw, hb10, hm10⟩
      have G2 := Lib.hid (fun (u : World) (h : S2 u) => (by rw [hS2d] at h; exact h : Bl w u [(A, 28), (cc.arr, 30), ((under cc dd).arr, 30), (#[.int .i64 d.n, .int .i64 d.i, .int .i64 d.s], 23)] ∧ S u ∧ u.heap[B10]? = some (.cells (o.arr q2 n2 c2) 34 (0, 0)) ∧ Mc u (.slice q2 n2 c2) K1))
      have SR2 := Lib.hid (fun (u : World) (g : Nat) (xs : Array Value) (h : S2 u) (hx : ∃ w', S2 w' ∧ w'.heap.size = g) (hg : u.heap[g]? = some (.cells zeroA 34 (0, 0))) => (by
        obtain ⟨w', hw', he⟩ := hx
        have h10 := blk_lt (G2.out w' hw').2.2.1
        obtain ⟨p0, p1, p2, p3⟩ := G2.out u h
        have hs1 := S28.out u g xs p1 ⟨w', (G2.out w' hw').2.1, he⟩ hg
        rw [hS2d]
        exact ⟨(GS.out _ hs1).1, hs1, (setRow_other _ _ _ _ (by omega)).trans p2, p3.kept (fun g' e => setRow_other _ _ _ _ (SNEQ _ _ _ p3 hg e))⟩ : S2 (u.setRow g xs)))
      obtain ⟨K2, hK2'⟩ : ∃ L, withL K1 (under cc dd) = L := ⟨_, rfl⟩
      have hKL2 : K2.length ≤ 32 := by rw [← hK2']; have := with_len K1 (under cc dd); omega
      have W6 := Lib.hid (fun (u : World) (h : S2 u) => (by have := with_any o (mc_cls (G2.out u h).2.2.2 (by omega)) (by omega) (under cc dd); rw [hK2'] at this; exact this : Calls Try.prog 24 #[.agg (o.arr q2 n2 c2), .agg (under cc dd).arr] u fun e w' => ∃ q' n' c', e = .returned (.agg (o.arr q' n' c')) ∧ Mc w' (.slice q' n' c') K2 ∧ Kept u w'))
      have HS2V := Lib.hid hS2V
      clear hS2d hS2V hSw hb10 hm10
      go_upto_region 6 with fail
      go_cut [11] (fun tt wx => ∃ (gg : Nat) (q2 : Option Addr) (n2 c2 : Nat), tt = .pointer (some ⟨gg, 0, none⟩) ∧ S2 wx ∧ wx.heap[gg]? = some (.cells (o.arr q2 n2 c2) 34 (0, 0)) ∧ Mc wx (.slice q2 n2 c2) K2)
      case first =>
        refine Av.region 5 S2 (by kernel_rfl) (hSt2 _ _ HS2V.out (Kept.refl _).drew) ?_
        refine Av.take 0 (some 27) rfl rfl (by kernel_rfl) (by kernel_rfl) (by kernel_rfl) (by kernel_rfl) (fun _ _ _ h => h) hSt2 (Au.yq_load 34 (.tmp 10) rfl _ rfl (by rfl) (fun u hu => load_ow (G2.out u hu).2.2.1 rfl)) ?_
        simp only [Act.put, List.setIfInBounds_toArray, List.set_cons_zero, List.set_cons_succ]
        refine Av.take 1 (some 28) rfl rfl (by kernel_rfl) (by kernel_rfl) (by kernel_rfl) (by kernel_rfl) (fun _ _ _ h => h) hSt2 (Au.yq_load 30 (.tmp 6) rfl _ rfl (by rfl) (fun u hu => load_rcl ((G2.out u hu).1.blk 2 rfl) rfl)) ?_
        simp only [Act.put, List.setIfInBounds_toArray, List.set_cons_zero, List.set_cons_succ]
        refine Av.take 2 (some 29) rfl rfl (by kernel_rfl) (by kernel_rfl) (by kernel_rfl) (by kernel_rfl) (fun _ _ _ h => h) hSt2 (Au.yq_call 25 _ (by rfl) (fun u => by go_simp) (fun u hu => HONE.out (under cc dd) u)) ?_
        simp only [Act.put, List.setIfInBounds_toArray, List.set_cons_zero, List.set_cons_succ]
        refine Av.fork 3 4 rfl rfl (by kernel_rfl) (fun w3 hw3 K3 hK3 => ?_) (fun w1 hw1 J1 hJ1 => ?_)
        · rw [if_pos (by rfl)]
          go_simp
          refine (W6.out w3 hw3).mono ?_
          rintro e w4 ⟨q2, n2, c2, rfl, s2, k2⟩
          go_wp2_with fail
          refine hK3.out (fun u => (S2 u) ∧ Mc u (.slice q2 n2 c2) K2) _ _ ⟨hSt2 _ _ hw3 k2, s2⟩ (stab_and hSt2 (mcs _ _)) (fun u hu => hu.1) ?_
          clear hK3 K3 s2 k2
          refine Av.step 4 rfl (by kernel_rfl) (fun w1 hw1 J1 hJ1 => ?_)
          rw [if_pos (by rfl)]
          go_simp
          have hgg : ∃ w', S2 w' ∧ w'.heap.size = w1.heap.size := ⟨w1, hw1.1, rfl⟩
          refine hJ1.out (fun u => (S2 u ∧ Mc u (.slice q2 n2 c2) K2) ∧ u.heap[w1.heap.size]? = some (.cells zeroA 34 (0, 0))) _ _ ⟨(stab_and hSt2 (mcs _ _)) _ _ hw1 (Kept.one _ _), blk_new w1 _⟩ (stab_and (stab_and hSt2 (mcs _ _)) (blk_stab _ _ _)) (fun u hu => hu.1) ?_
          clear hJ1 J1
          refine Av.tail 5 rfl (by kernel_rfl) (by decide) (fun w5 hw5 K5 hK5 => ?_)
          rw [if_pos (by rfl)]
          refine wp_store_row 34 (.tmp 11) (.tmp 30) rfl w1.heap.size (o.arr q2 n2 c2) rfl rfl 34 zeroA hw5.2 info_ow rfl (arr_one _ _ _ _) ?_
          refine hK5.out _ _ ?_
          clear hK5 K5
          refine Av.done (by kernel_rfl) (fun u hu => ?_)
          subst hu
          go_wp2_with fail
          go_meet
          exact ⟨w1.heap.size, q2, n2, c2, rfl, SR2.out _ _ _ hw5.1.1 hgg hw5.2, setRow_heap _ _ zeroA _ _ _ hw5.2, hw5.1.2.kept (fun g' e => setRow_other _ _ _ _ (SNEQ _ _ _ hw5.1.2 hw5.2 e))⟩
        · rw [if_pos (by rfl)]
          go_simp
          have hgg : ∃ w', S2 w' ∧ w'.heap.size = w1.heap.size := ⟨w1, hw1, rfl⟩
          refine hJ1.out (fun u => (S2 u) ∧ u.heap[w1.heap.size]? = some (.cells zeroA 34 (0, 0))) _ _ ⟨hSt2 _ _ hw1 (Kept.one _ _), blk_new w1 _⟩ (stab_and hSt2 (blk_stab _ _ _)) (fun u hu => hu.1) ?_
          clear hJ1 J1
          refine Av.step 3 rfl (by kernel_rfl) (fun w3 hw3 K3 hK3 => ?_)
          rw [if_pos (by rfl)]
          go_simp
          refine (W6.out w3 hw3.1).mono ?_
          rintro e w4 ⟨q2, n2, c2, rfl, s2, k2⟩
          go_wp2_with fail
          refine hK3.out (fun u => (S2 u ∧ u.heap[w1.heap.size]? = some (.cells zeroA 34 (0, 0))) ∧ Mc u (.slice q2 n2 c2) K2) _ _ ⟨(stab_and hSt2 (blk_stab _ _ _)) _ _ hw3 k2, s2⟩ (stab_and (stab_and hSt2 (blk_stab _ _ _)) (mcs _ _)) (fun u hu => hu.1) ?_
          clear hK3 K3 s2 k2
          refine Av.tail 5 rfl (by kernel_rfl) (by decide) (fun w5 hw5 K5 hK5 => ?_)
          rw [if_pos (by rfl)]
          refine wp_store_row 34 (.tmp 11) (.tmp 30) rfl w1.heap.size (o.arr q2 n2 c2) rfl rfl 34 zeroA hw5.1.2 info_ow rfl (arr_one _ _ _ _) ?_
          refine hK5.out _ _ ?_
          clear hK5 K5
          refine Av.done (by kernel_rfl) (fun u hu => ?_)
          subst hu
          go_wp2_with fail
          go_meet
          exact ⟨w1.heap.size, q2, n2, c2, rfl, SR2.out _ _ _ hw5.1.1 hgg hw5.1.2, setRow_heap _ _ zeroA _ _ _ hw5.1.2, hw5.2.kept (fun g' e => setRow_other _ _ _ _ (SNEQ _ _ _ hw5.2 hw5.1.2 e))⟩
      case rest =>
        obtain ⟨B11, q3, n3, c3, rfl, hS2w, hb11, hm11⟩ := hcut
        obtain ⟨m1, m2, i, m3, m4⟩ := with_twice K cc dd
        rw [hK1'] at m1 m2 m3 m4
        rw [hK2'] at m1 m2 m3 m4
        have m5 : ¬ (d.n = cc.n ∧ d.i = cc.i ∧ d.s = cc.s) → findL K2 d = findL K d := fun h => by
          rw [← hK2', with_other K1 (under cc dd) d h, ← hK1', with_other K cc d h]
        obtain ⟨gb, cap, he, -⟩ := hm11.at encC_len m4
        injection he with he1 he2 he3
        subst he1
        subst he2
        subst he3
        have hn2 := mc_len (G2.out _ hS2w).2.2.2
        obtain rfl : n2 = K2.length := by rw [m2]; exact hn2.symm
        have hil : i < K2.length := (List.getElem?_eq_some_iff.1 m4).1
        have hi0 : ¬ (i : Int) < 0 := by omega
        have hi1 : (i : Int) < (K2.length : Int) := by omega
        have hi2 : ¬ (K2.length : Int) ≤ (i : Int) := by omega
        obtain ⟨n, hn⟩ : ∃ n, K2.length = n := ⟨_, rfl⟩
        rw [hn] at hi1 hi2 hb11 hm11 hKL2
        have hin : i < n := by omega
        obtain ⟨S3, hS3d⟩ : ∃ S' : World → Prop, S' = fun u => Bl w u [(A, 28), (cc.arr, 30), ((under cc dd).arr, 30), (#[.int .i64 d.n, .int .i64 d.i, .int .i64 d.s], 23)] ∧ S2 u ∧ u.heap[B11]? = some (.cells (o.arr (some ⟨gb, 0, none⟩) n c3) 34 (0, 0)) ∧ Mc u (.slice (some ⟨gb, 0, none⟩) n c3) K2 := ⟨_, rfl⟩
        have hSt3 : Stab S3 := by rw [hS3d]; exact fun u u' h k => ⟨h.1.go k, hSt2 _ _ h.2.1 k, kept_at k h.2.2.1, h.2.2.2.keep k⟩
        have hS3V : S3 wc := by rw [hS3d]; exact ⟨(G2.out _ hS2w).1, hS2w, hb11, hm11⟩
        have G3 := Lib.hid (fun (u : World) (h : S3 u) => (by rw [hS3d] at h; exact h : Bl w u [(A, 28), (cc.arr, 30), ((under cc dd).arr, 30), (#[.int .i64 d.n, .int .i64 d.i, .int .i64 d.s], 23)] ∧ S2 u ∧ u.heap[B11]? = some (.cells (o.arr (some ⟨gb, 0, none⟩) n c3) 34 (0, 0)) ∧ Mc u (.slice (some ⟨gb, 0, none⟩) n c3) K2))
        have GE := Lib.hid (fun (u : World) (h : S3 u) => (GS.out u (G2.out u (G3.out u h).2.1).2.1))
        have G10 := Lib.hid (fun (u : World) (h : S3 u) => (G2.out u (G3.out u h).2.1).2.2.1)
        have HS3V := Lib.hid hS3V
        have CF := Lib.hid (fun (u : World) (h : S3 u) (e : Nm) => find_any o (mc_cls (G3.out u h).2.2.2 (by omega)) e)
        have CF9 := Lib.hid (fun (u : World) (h : S3 u) (e : Nm) => find_any o (mc_cls (GE.out u h).2.2 (by omega)) e)
        have F7 := CF.out wc hS3V (nameOf cc)
        rw [m3] at F7
        have HF7 := Lib.hid F7
        have l11 := load_ow (G3.out wc hS3V).2.2.1 rfl
        have i5 : (loadVar 23 ⟨w.heap.size + 1, 0, none⟩).run Try.prog wc = .ok (.agg #[.int .i64 cc.n, .int .i64 cc.i, .int .i64 cc.s]) wc := load_id ((G3.out wc hS3V).1.cell 1 0 rfl) ((G3.out wc hS3V).1.cell 1 1 rfl) ((G3.out wc hS3V).1.cell 1 2 rfl)
        have LC := Lib.hid (fun (u : World) (h : S3 u) => (by
          obtain ⟨g', cap', e, _, _, hc⟩ := (G3.out u h).2.2.2.at encC_len m4
          injection e with e1 e2 e3
          injection e1 with e1
          injection e1 with e1
          subst e1
          exact load_call (u := u) (b := gb) (o := i * 13) rfl (fun j z hz => hc j z hz) : (loadVar 47 ⟨gb, i * 13, none⟩).run Try.prog u = .ok (.agg (under cc dd).arr) u))
        have CW := Lib.hid (fun (u : World) (h : S3 u) => (by have := with_any o (mc_cls (GE.out u h).2.2 (by omega)) (by omega) (under cc dd); rw [← m1] at this; exact this : Calls Try.prog 24 #[.agg (o.arr q1 n1 c1), .agg (under cc dd).arr] u fun e w' => ∃ q' n' c', e = .returned (.agg (o.arr q' n' c')) ∧ Mc w' (.slice q' n' c') K2 ∧ Kept u w'))
        have CMI := Lib.hid (fun (u : World) (h : S3 u) => (by have := mine_any o (HV.out.go (GE.out u h).1.kept) (by omega); rw [HA.out] at this; exact this : Calls Try.prog 9 #[.agg A] u fun e w' => ∃ q' n' c', e = .returned (.agg (o.arr q' n' c')) ∧ Mc w' (.slice q' n' c') K ∧ (∀ g, (Value.slice q' n' c').ownBlock = some g → u.heap.size ≤ g) ∧ Kept u w'))
        have hne : ∀ u : World, (binOp .neq 47 (.agg (under cc dd).arr) (.agg (under cc dd).arr)).run Try.prog u = .ok (.bool false) u := fun u => by have := neq_cl (under cc dd) (under cc dd) u; simpa using this
        have HM5 := Lib.hid m5
        have HNN := Lib.hid hn
        clear hS3d hS3V hS2w hb11 hm11 m1 m2 m3 m4 m5 F7 hil hn2 hn
        go_upto_region 8 with (first
          | (refine load_l 34 (.tmp 11) rfl _ rfl rfl _ l11 ?_)
          | (refine load_l 23 (.tmp 32) rfl _ rfl rfl _ i5 ?_)
          | (go_at_call 20; refine HF7.out.mono ?_; rintro e w7 ⟨rfl, k7⟩))
        have hS7 := hSt3 _ _ HS3V.out k7
        have HS7 := Lib.hid hS7
        clear l11 i5 k7 hS7
        refine Au.region (S3) (by kernel_rfl) (hSt3 _ _ HS7.out (Kept.refl _).drew) ?_
        refine Au.take 0 (some 35) (v := ?_) rfl rfl (by kernel_rfl) (by kernel_rfl) (by kernel_rfl) (fun _ _ _ h => h) hSt3 (Au.yq_run (by rfl) (fun u hu => ?_)) ?_
        rotate_left
        · (clear hu; go_simp; try with_reducible rfl)
        simp only [Act.put, List.setIfInBounds_toArray, List.set_cons_zero, List.set_cons_succ]
        refine Au.take 1 (some 36) (v := .bool false) rfl rfl (by kernel_rfl) (by kernel_rfl) (by kernel_rfl) (fun _ _ _ h => h) hSt3 (Au.yq_run (by rfl) (fun u hu => ?_)) ?_
        · (clear hu; go_simp; try (simp [hi0]); try omega)
        simp only [Act.put, List.setIfInBounds_toArray, List.set_cons_zero, List.set_cons_succ]
        refine Au.take 2 (some 37) (v := ?_) rfl rfl (by kernel_rfl) (by kernel_rfl) (by kernel_rfl) (fun _ _ _ h => h) hSt3 (Au.yq_run (by rfl) (fun u hu => ?_)) ?_
        rotate_left
        · (clear hu; go_simp; try with_reducible rfl)
        simp only [Act.put, List.setIfInBounds_toArray, List.set_cons_zero, List.set_cons_succ]
        refine Au.take 3 (some 38) (v := ?_) rfl rfl (by kernel_rfl) (by kernel_rfl) (by kernel_rfl) (fun _ _ _ h => h) hSt3 (Au.yq_run (by rfl) (fun u hu => ?_)) ?_
        rotate_left
        · (clear hu; go_simp; try with_reducible rfl)
        simp only [Act.put, List.setIfInBounds_toArray, List.set_cons_zero, List.set_cons_succ]
        refine Au.take 4 (some 39) (v := ?_) rfl rfl (by kernel_rfl) (by kernel_rfl) (by kernel_rfl) (fun _ _ _ h => h) hSt3 (Au.yq_run (by rfl) (fun u hu => ?_)) ?_
        rotate_left
        · (clear hu; go_simp; try with_reducible rfl)
        simp only [Act.put, List.setIfInBounds_toArray, List.set_cons_zero, List.set_cons_succ]
        refine Au.take 5 (some 40) rfl rfl (by kernel_rfl) (by kernel_rfl) (by kernel_rfl) (fun _ _ _ h => h) hSt3 (Au.yq_load 32 (.tmp 39) rfl _ rfl (by rfl) (fun u hu => run_loadm ((blk_cell (G3.out u hu).2.2.1 18).trans rfl))) ?_
        simp only [Act.put, List.setIfInBounds_toArray, List.set_cons_zero, List.set_cons_succ]
        refine Au.take 6 (some 41) (v := ?_) rfl rfl (by kernel_rfl) (by kernel_rfl) (by kernel_rfl) (fun _ _ _ h => h) hSt3 (Au.yq_run (by rfl) (fun u hu => ?_)) ?_
        rotate_left
        · (clear hu; go_simp; try with_reducible rfl)
        simp only [Act.put, List.setIfInBounds_toArray, List.set_cons_zero, List.set_cons_succ]
        refine Au.take 7 (some 42) (v := .bool false) rfl rfl (by kernel_rfl) (by kernel_rfl) (by kernel_rfl) (fun _ _ _ h => h) hSt3 (Au.yq_run (by rfl) (fun u hu => ?_)) ?_
        · (clear hu; go_simp; try (exact hin); try omega)
        simp only [Act.put, List.setIfInBounds_toArray, List.set_cons_zero, List.set_cons_succ]
        refine Au.take 8 (some 43) (v := ?_) rfl rfl (by kernel_rfl) (by kernel_rfl) (by kernel_rfl) (fun _ _ _ h => h) hSt3 (Au.yq_run (by rfl) (fun u hu => ?_)) ?_
        rotate_left
        · (clear hu; go_simp; try with_reducible rfl)
        simp only [Act.put, List.setIfInBounds_toArray, List.set_cons_zero, List.set_cons_succ]
        refine Au.take 9 (some 44) (v := ?_) rfl rfl (by kernel_rfl) (by kernel_rfl) (by kernel_rfl) (fun _ _ _ h => h) hSt3 (Au.yq_run (by rfl) (fun u hu => ?_)) ?_
        rotate_left
        · (clear hu; go_simp; try with_reducible rfl)
        simp only [Act.put, List.setIfInBounds_toArray, List.set_cons_zero, List.set_cons_succ]
        refine Au.take 10 (some 45) (v := ?_) rfl rfl (by kernel_rfl) (by kernel_rfl) (by kernel_rfl) (fun _ _ _ h => h) hSt3 (Au.yq_run (by rfl) (fun u hu => ?_)) ?_
        rotate_left
        · (clear hu; go_simp; try with_reducible rfl)
        simp only [Act.put, List.setIfInBounds_toArray, List.set_cons_zero, List.set_cons_succ]
        refine Au.take 11 (some 46) rfl rfl (by kernel_rfl) (by kernel_rfl) (by kernel_rfl) (fun _ _ _ h => h) hSt3 (Au.yq_load 32 (.tmp 45) rfl _ rfl (by rfl) (fun u hu => run_loadm ((blk_cell (G3.out u hu).2.2.1 18).trans rfl))) ?_
        simp only [Act.put, List.setIfInBounds_toArray, List.set_cons_zero, List.set_cons_succ]
        refine Au.take 12 (some 47) (v := ?_) rfl rfl (by kernel_rfl) (by kernel_rfl) (by kernel_rfl) (fun _ _ _ h => h) hSt3 (Au.yq_run (by rfl) (fun u hu => ?_)) ?_
        rotate_left
        · (clear hu; go_simp; try with_reducible rfl)
        simp only [Act.put, List.setIfInBounds_toArray, List.set_cons_zero, List.set_cons_succ]
        refine Au.take 13 (some 48) (v := ?_) rfl rfl (by kernel_rfl) (by kernel_rfl) (by kernel_rfl) (fun _ _ _ h => h) hSt3 (Au.yq_run (by rfl) (fun u hu => ?_)) ?_
        rotate_left
        · (clear hu; go_simp; try with_reducible rfl)
        simp only [Act.put, List.setIfInBounds_toArray, List.set_cons_zero, List.set_cons_succ]
        refine Au.take 14 (some 49) rfl rfl (by kernel_rfl) (by kernel_rfl) (by kernel_rfl) (fun _ _ _ h => h) hSt3 (Au.yq_load 47 (.tmp 48) rfl _ rfl (by rfl) (fun u hu => LC.out u hu)) ?_
        simp only [Act.put, List.setIfInBounds_toArray, List.set_cons_zero, List.set_cons_succ]
        refine Au.take 15 (some 50) rfl rfl (by kernel_rfl) (by kernel_rfl) (by kernel_rfl) (fun _ _ _ h => h) hSt3 (Au.yq_load 30 (.tmp 6) rfl _ rfl (by rfl) (fun u hu => load_rcl ((G3.out u hu).1.blk 2 rfl) rfl)) ?_
        simp only [Act.put, List.setIfInBounds_toArray, List.set_cons_zero, List.set_cons_succ]
        refine Au.take 16 (some 51) rfl rfl (by kernel_rfl) (by kernel_rfl) (by kernel_rfl) (fun _ _ _ h => h) hSt3 (Au.yq_call 25 _ (by rfl) (fun u => by go_simp) (fun u hu => HONE.out (under cc dd) u)) ?_
        simp only [Act.put, List.setIfInBounds_toArray, List.set_cons_zero, List.set_cons_succ]
        refine Au.take 17 (some 52) (v := .bool false) rfl rfl (by kernel_rfl) (by kernel_rfl) (by kernel_rfl) (fun _ _ _ h => h) hSt3 (Au.yq_run (by rfl) (fun u hu => ?_)) ?_
        · (clear hu; go_simp; try (simp [hne]); try omega)
        simp only [Act.put, List.setIfInBounds_toArray, List.set_cons_zero, List.set_cons_succ]
        refine Au.take 18 (some 53) (v := ?_) rfl rfl (by kernel_rfl) (by kernel_rfl) (by kernel_rfl) (fun _ _ _ h => h) hSt3 (Au.yq_run (by rfl) (fun u hu => ?_)) ?_
        rotate_left
        · (clear hu; go_simp; try with_reducible rfl)
        simp only [Act.put, List.setIfInBounds_toArray, List.set_cons_zero, List.set_cons_succ]
        refine Au.take 19 (some 54) (v := ?_) rfl rfl (by kernel_rfl) (by kernel_rfl) (by kernel_rfl) (fun _ _ _ h => h) hSt3 (Au.yq_run (by rfl) (fun u hu => ?_)) ?_
        rotate_left
        · (clear hu; go_simp; try with_reducible rfl)
        simp only [Act.put, List.setIfInBounds_toArray, List.set_cons_zero, List.set_cons_succ]
        refine Au.take 20 (some 55) rfl rfl (by kernel_rfl) (by kernel_rfl) (by kernel_rfl) (fun _ _ _ h => h) hSt3 (Au.yq_load 34 (.tmp 11) rfl _ rfl (by rfl) (fun u hu => load_ow (G3.out u hu).2.2.1 rfl)) ?_
        simp only [Act.put, List.setIfInBounds_toArray, List.set_cons_zero, List.set_cons_succ]
        refine Au.take 21 (some 56) rfl rfl (by kernel_rfl) (by kernel_rfl) (by kernel_rfl) (fun _ _ _ h => h) hSt3 (Au.yq_load 34 (.tmp 9) rfl _ rfl (by rfl) (fun u hu => load_ow (GE.out u hu).2.1 rfl)) ?_
        simp only [Act.put, List.setIfInBounds_toArray, List.set_cons_zero, List.set_cons_succ]
        refine Au.take 22 (some 57) rfl rfl (by kernel_rfl) (by kernel_rfl) (by kernel_rfl) (fun _ _ _ h => h) hSt3 (Au.yq_load 30 (.tmp 6) rfl _ rfl (by rfl) (fun u hu => load_rcl ((G3.out u hu).1.blk 2 rfl) rfl)) ?_
        simp only [Act.put, List.setIfInBounds_toArray, List.set_cons_zero, List.set_cons_succ]
        refine Au.take 23 (some 58) rfl rfl (by kernel_rfl) (by kernel_rfl) (by kernel_rfl) (fun _ _ _ h => h) hSt3 (Au.yq_call 25 _ (by rfl) (fun u => by go_simp) (fun u hu => HONE.out (under cc dd) u)) ?_
        simp only [Act.put, List.setIfInBounds_toArray, List.set_cons_zero, List.set_cons_succ]
        refine Au.step 24 rfl (by kernel_rfl) (fun w1 hw1 J1 hJ1 => ?_)
        rw [if_pos (by rfl)]
        go_simp
        refine (CW.out w1 hw1).mono ?_
        rintro e w2 ⟨q4, n4, c4, rfl, ss, kk⟩
        go_wp2_with fail
        obtain ⟨S4, hS4⟩ : ∃ S' : World → Prop, S' = fun u => S3 u ∧ Mc u (.slice q4 n4 c4) K2 := ⟨_, rfl⟩
        have stS4 : Stab S4 := by rw [hS4]; exact stab_and hSt3 (mcs _ _)
        have gS4 := Lib.hid (fun (u : World) (h : S4 u) => (by rw [hS4] at h; exact h : S3 u ∧ Mc u (.slice q4 n4 c4) K2))
        refine hJ1.out S4 _ _ (by rw [hS4]; exact ⟨hSt3 _ _ hw1 kk, ss⟩) stS4 (fun u hu => (gS4.out u hu).1) ?_
        clear hJ1 J1 ss kk hw1 hS4
        have E1 := Lib.hid (fun (u : World) (h : S4 u) => (by have := same_any o o (mc_cls (G3.out u (gS4.out u h).1).2.2.2 (by rw [HNN.out]; omega)) (mc_cls (gS4.out u h).2 (by rw [HNN.out]; omega)); rw [sameO_self] at this; exact this : Calls Try.prog 27 #[.agg (o.arr (some ⟨gb, 0, none⟩) n c3), .agg (o.arr q4 n4 c4)] u fun e w' => e = .returned (.bool true) ∧ Kept u w'))
        refine Au.take 25 (some 60) rfl rfl (by kernel_rfl) (by kernel_rfl) (by kernel_rfl) (fun _ _ _ h => h) stS4 (Au.yq_call 27 _ (by rfl) (fun u => by go_simp) (fun u hu => E1.out u hu)) ?_
        simp only [Act.put, List.setIfInBounds_toArray, List.set_cons_zero, List.set_cons_succ]
        refine Au.take 26 (some 61) (v := ?_) rfl rfl (by kernel_rfl) (by kernel_rfl) (by kernel_rfl) (fun _ _ _ h => h) stS4 (Au.yq_run (by rfl) (fun u hu => ?_)) ?_
        rotate_left
        · (clear hu; go_simp; try with_reducible rfl)
        simp only [Act.put, List.setIfInBounds_toArray, List.set_cons_zero, List.set_cons_succ]
        refine Au.take 27 (some 62) (v := ?_) rfl rfl (by kernel_rfl) (by kernel_rfl) (by kernel_rfl) (fun _ _ _ h => h) stS4 (Au.yq_run (by rfl) (fun u hu => ?_)) ?_
        rotate_left
        · (clear hu; go_simp; try with_reducible rfl)
        simp only [Act.put, List.setIfInBounds_toArray, List.set_cons_zero, List.set_cons_succ]
        refine Au.take 28 (some 63) (v := ?_) rfl rfl (by kernel_rfl) (by kernel_rfl) (by kernel_rfl) (fun _ _ _ h => h) stS4 (Au.yq_run (by rfl) (fun u hu => ?_)) ?_
        rotate_left
        · (clear hu; go_simp; try with_reducible rfl)
        simp only [Act.put, List.setIfInBounds_toArray, List.set_cons_zero, List.set_cons_succ]
        refine Au.take 29 (some 64) (v := ?_) rfl rfl (by kernel_rfl) (by kernel_rfl) (by kernel_rfl) (fun _ _ _ h => h) stS4 (Au.yq_run (by rfl) (fun u hu => ?_)) ?_
        rotate_left
        · (clear hu; go_simp; try with_reducible rfl)
        simp only [Act.put, List.setIfInBounds_toArray, List.set_cons_zero, List.set_cons_succ]
        refine Au.take 30 (some 65) rfl rfl (by kernel_rfl) (by kernel_rfl) (by kernel_rfl) (fun _ _ _ h => h) stS4 (Au.yq_load 32 (.tmp 64) rfl _ rfl (by rfl) (fun u hu => run_loadm ((blk_cell (G3.out u (gS4.out u hu).1).2.2.1 18).trans rfl))) ?_
        simp only [Act.put, List.setIfInBounds_toArray, List.set_cons_zero, List.set_cons_succ]
        refine Au.take 31 (some 66) (v := ?_) rfl rfl (by kernel_rfl) (by kernel_rfl) (by kernel_rfl) (fun _ _ _ h => h) stS4 (Au.yq_run (by rfl) (fun u hu => ?_)) ?_
        rotate_left
        · (clear hu; go_simp; try with_reducible rfl)
        simp only [Act.put, List.setIfInBounds_toArray, List.set_cons_zero, List.set_cons_succ]
        refine Au.take 32 (some 67) (v := ?_) rfl rfl (by kernel_rfl) (by kernel_rfl) (by kernel_rfl) (fun _ _ _ h => h) stS4 (Au.yq_run (by rfl) (fun u hu => ?_)) ?_
        rotate_left
        · (clear hu; go_simp; try with_reducible rfl)
        simp only [Act.put, List.setIfInBounds_toArray, List.set_cons_zero, List.set_cons_succ]
        refine Au.take 33 (some 68) rfl rfl (by kernel_rfl) (by kernel_rfl) (by kernel_rfl) (fun _ _ _ h => h) stS4 (Au.yq_load 32 (.tmp 67) rfl _ rfl (by rfl) (fun u hu => run_loadm ((blk_cell (G10.out u (gS4.out u hu).1) 18).trans rfl))) ?_
        simp only [Act.put, List.setIfInBounds_toArray, List.set_cons_zero, List.set_cons_succ]
        refine Au.take 34 (some 69) (v := ?_) rfl rfl (by kernel_rfl) (by kernel_rfl) (by kernel_rfl) (fun _ _ _ h => h) stS4 (Au.yq_run (by rfl) (fun u hu => ?_)) ?_
        rotate_left
        · (clear hu; go_simp; try with_reducible rfl)
        simp only [Act.put, List.setIfInBounds_toArray, List.set_cons_zero, List.set_cons_succ]
        refine Au.take 35 (some 70) (v := .bool false) rfl rfl (by kernel_rfl) (by kernel_rfl) (by kernel_rfl) (fun _ _ _ h => h) stS4 (Au.yq_run (by rfl) (fun u hu => ?_)) ?_
        · (clear hu; go_simp; try (simp [HNN.out]); try omega)
        simp only [Act.put, List.setIfInBounds_toArray, List.set_cons_zero, List.set_cons_succ]
        refine Au.take 36 (some 71) (v := ?_) rfl rfl (by kernel_rfl) (by kernel_rfl) (by kernel_rfl) (fun _ _ _ h => h) stS4 (Au.yq_run (by rfl) (fun u hu => ?_)) ?_
        rotate_left
        · (clear hu; go_simp; try with_reducible rfl)
        simp only [Act.put, List.setIfInBounds_toArray, List.set_cons_zero, List.set_cons_succ]
        refine Au.done (by kernel_rfl) ?_
        intro u8 hu8
        have HS8 := Lib.hid (gS4.out u8 hu8).1
        clear hu8
        go_upto_region 10 with fail
        have he3 := fun u => eq_id d.n d.i d.s cc.n cc.i cc.s u
        obtain ⟨z, hz⟩ : ∃ z, (d.n == cc.n && (d.i == cc.i && d.s == cc.s)) = z := ⟨_, rfl⟩
        rw [hz] at he3
        have LI := Lib.hid (fun (u : World) (h : S3 u) => load_id (n := d.n) (i := d.i) (s := d.s) ((G3.out u h).1.cell 3 0 rfl) ((G3.out u h).1.cell 3 1 rfl) ((G3.out u h).1.cell 3 2 rfl))
        have LI5 := Lib.hid (fun (u : World) (h : S3 u) => load_id (n := cc.n) (i := cc.i) (s := cc.s) ((G3.out u h).1.cell 1 0 rfl) ((G3.out u h).1.cell 1 1 rfl) ((G3.out u h).1.cell 1 2 rfl))
        cases z
        · have hdn : ¬ (d.n = cc.n ∧ d.i = cc.i ∧ d.s = cc.s) := fun hc => by
            rw [hc.1, hc.2.1, hc.2.2] at hz
            simp at hz
          obtain ⟨y, hy⟩ : ∃ y, findL K d = y := ⟨_, rfl⟩
          have CFa := Lib.hid (fun (u : World) (h : S3 u) => (by have := CF.out u h d; rw [HM5.out hdn, hy] at this; exact this : Calls Try.prog 20 #[.agg (o.arr (some ⟨gb, 0, none⟩) n c3), .agg #[.int .i64 d.n, .int .i64 d.i, .int .i64 d.s]] u fun e w' => e = .returned (.int .i64 y) ∧ Kept u w'))
          have CFb := Lib.hid (fun (u : World) (h : S3 u) => (by have := CF9.out u h d; rw [hy] at this; exact this : Calls Try.prog 20 #[.agg (o.arr q1 n1 c1), .agg #[.int .i64 d.n, .int .i64 d.i, .int .i64 d.s]] u fun e w' => e = .returned (.int .i64 y) ∧ Kept u w'))
          clear hdn hy
          refine Au.region (S3) (by kernel_rfl) (hSt3 _ _ HS8.out (Kept.refl _).drew) ?_
          refine Au.take 0 (some 72) rfl rfl (by kernel_rfl) (by kernel_rfl) (by kernel_rfl) (fun _ _ _ h => h) hSt3 (Au.yq_load 23 (.tmp 7) rfl _ rfl (by rfl) (fun u hu => LI.out u hu)) ?_
          simp only [Act.put, List.setIfInBounds_toArray, List.set_cons_zero, List.set_cons_succ]
          refine Au.take 1 (some 73) (v := ?_) rfl rfl (by kernel_rfl) (by kernel_rfl) (by kernel_rfl) (fun _ _ _ h => h) hSt3 (Au.yq_run (by rfl) (fun u hu => ?_)) ?_
          rotate_left
          · (clear hu; go_simp; try with_reducible rfl)
          simp only [Act.put, List.setIfInBounds_toArray, List.set_cons_zero, List.set_cons_succ]
          refine Au.take 2 (some 74) rfl rfl (by kernel_rfl) (by kernel_rfl) (by kernel_rfl) (fun _ _ _ h => h) hSt3 (Au.yq_load 23 (.tmp 73) rfl _ rfl (by rfl) (fun u hu => LI5.out u hu)) ?_
          simp only [Act.put, List.setIfInBounds_toArray, List.set_cons_zero, List.set_cons_succ]
          refine Au.take 3 (some 75) (v := .bool false) rfl rfl (by kernel_rfl) (by kernel_rfl) (by kernel_rfl) (fun _ _ _ h => h) hSt3 (Au.yq_run (by rfl) (fun u hu => ?_)) ?_
          · (clear hu; go_simp; try (simp [he3]); try omega)
          simp only [Act.put, List.setIfInBounds_toArray, List.set_cons_zero, List.set_cons_succ]
          refine Au.take 4 (some 76) (v := ?_) rfl rfl (by kernel_rfl) (by kernel_rfl) (by kernel_rfl) (fun _ _ _ h => h) hSt3 (Au.yq_run (by rfl) (fun u hu => ?_)) ?_
          rotate_left
          · (clear hu; go_simp; try with_reducible rfl)
          simp only [Act.put, List.setIfInBounds_toArray, List.set_cons_zero, List.set_cons_succ]
          refine Au.take 5 (some 77) rfl rfl (by kernel_rfl) (by kernel_rfl) (by kernel_rfl) (fun _ _ _ h => h) hSt3 (Au.yq_load 34 (.tmp 11) rfl _ rfl (by rfl) (fun u hu => load_ow (G3.out u hu).2.2.1 rfl)) ?_
          simp only [Act.put, List.setIfInBounds_toArray, List.set_cons_zero, List.set_cons_succ]
          refine Au.take 6 (some 78) rfl rfl (by kernel_rfl) (by kernel_rfl) (by kernel_rfl) (fun _ _ _ h => h) hSt3 (Au.yq_load 23 (.tmp 7) rfl _ rfl (by rfl) (fun u hu => LI.out u hu)) ?_
          simp only [Act.put, List.setIfInBounds_toArray, List.set_cons_zero, List.set_cons_succ]
          refine Au.take 8 (some 80) rfl rfl (by kernel_rfl) (by kernel_rfl) (by kernel_rfl) (fun _ _ _ h => h) hSt3 (Au.yq_load 34 (.tmp 9) rfl _ rfl (by rfl) (fun u hu => load_ow (GE.out u hu).2.1 rfl)) ?_
          simp only [Act.put, List.setIfInBounds_toArray, List.set_cons_zero, List.set_cons_succ]
          refine Au.take 9 (some 81) rfl rfl (by kernel_rfl) (by kernel_rfl) (by kernel_rfl) (fun _ _ _ h => h) hSt3 (Au.yq_load 23 (.tmp 7) rfl _ rfl (by rfl) (fun u hu => LI.out u hu)) ?_
          simp only [Act.put, List.setIfInBounds_toArray, List.set_cons_zero, List.set_cons_succ]
          refine Au.take 7 (some 79) rfl rfl (by kernel_rfl) (by kernel_rfl) (by kernel_rfl) (fun _ _ _ h => h) hSt3 (Au.yq_call 20 _ (by rfl) (fun u => by go_simp) (fun u hu => CFa.out u hu)) ?_
          simp only [Act.put, List.setIfInBounds_toArray, List.set_cons_zero, List.set_cons_succ]
          refine Au.take 10 (some 82) rfl rfl (by kernel_rfl) (by kernel_rfl) (by kernel_rfl) (fun _ _ _ h => h) hSt3 (Au.yq_call 20 _ (by rfl) (fun u => by go_simp) (fun u hu => CFb.out u hu)) ?_
          simp only [Act.put, List.setIfInBounds_toArray, List.set_cons_zero, List.set_cons_succ]
          refine Au.take 11 (some 83) (v := .bool true) rfl rfl (by kernel_rfl) (by kernel_rfl) (by kernel_rfl) (fun _ _ _ h => h) hSt3 (Au.yq_run (by rfl) (fun u hu => ?_)) ?_
          · (clear hu; go_simp; try (simp); try omega)
          simp only [Act.put, List.setIfInBounds_toArray, List.set_cons_zero, List.set_cons_succ]
          refine Au.take 12 (some 84) (v := ?_) rfl rfl (by kernel_rfl) (by kernel_rfl) (by kernel_rfl) (fun _ _ _ h => h) hSt3 (Au.yq_run (by rfl) (fun u hu => ?_)) ?_
          rotate_left
          · (clear hu; go_simp; try with_reducible rfl)
          simp only [Act.put, List.setIfInBounds_toArray, List.set_cons_zero, List.set_cons_succ]
          refine Au.take 13 (some 85) (v := ?_) rfl rfl (by kernel_rfl) (by kernel_rfl) (by kernel_rfl) (fun _ _ _ h => h) hSt3 (Au.yq_run (by rfl) (fun u hu => ?_)) ?_
          rotate_left
          · (clear hu; go_simp; try with_reducible rfl)
          simp only [Act.put, List.setIfInBounds_toArray, List.set_cons_zero, List.set_cons_succ]
          refine Au.take 14 (some 86) rfl rfl (by kernel_rfl) (by kernel_rfl) (by kernel_rfl) (fun _ _ _ h => h) hSt3 (Au.yq_load 34 (.tmp 9) rfl _ rfl (by rfl) (fun u hu => load_ow (GE.out u hu).2.1 rfl)) ?_
          simp only [Act.put, List.setIfInBounds_toArray, List.set_cons_zero, List.set_cons_succ]
          refine Au.take 15 (some 87) rfl rfl (by kernel_rfl) (by kernel_rfl) (by kernel_rfl) (fun _ _ _ h => h) hSt3 (Au.yq_load 28 (.tmp 4) rfl _ rfl (by rfl) (fun u hu => load_row ((G3.out u hu).1.blk 0 rfl) sA)) ?_
          simp only [Act.put, List.setIfInBounds_toArray, List.set_cons_zero, List.set_cons_succ]
          refine Au.step 16 rfl (by kernel_rfl) (fun w1 hw1 J1 hJ1 => ?_)
          rw [if_pos (by rfl)]
          go_simp
          refine (CMI.out w1 hw1).mono ?_
          rintro e w2 ⟨q5, n5, c5, rfl, ss, -, kk⟩
          go_wp2_with fail
          obtain ⟨S5, hS5⟩ : ∃ S' : World → Prop, S' = fun u => S3 u ∧ Mc u (.slice q5 n5 c5) K := ⟨_, rfl⟩
          have stS5 : Stab S5 := by rw [hS5]; exact stab_and hSt3 (mcs _ _)
          have gS5 := Lib.hid (fun (u : World) (h : S5 u) => (by rw [hS5] at h; exact h : S3 u ∧ Mc u (.slice q5 n5 c5) K))
          refine hJ1.out S5 _ _ (by rw [hS5]; exact ⟨hSt3 _ _ hw1 kk, ss⟩) stS5 (fun u hu => (gS5.out u hu).1) ?_
          clear hJ1 J1 ss kk hw1 hS5
          have E2 := Lib.hid (fun (u : World) (h : S5 u) => (by have := same_any o o (mc_cls (GE.out u (gS5.out u h).1).2.2 (by omega)) (mc_cls (gS5.out u h).2 (by omega)); rw [sameO_self] at this; exact this : Calls Try.prog 27 #[.agg (o.arr q1 n1 c1), .agg (o.arr q5 n5 c5)] u fun e w' => e = .returned (.bool true) ∧ Kept u w'))
          refine Au.take 17 (some 89) rfl rfl (by kernel_rfl) (by kernel_rfl) (by kernel_rfl) (fun _ _ _ h => h) stS5 (Au.yq_call 27 _ (by rfl) (fun u => by go_simp) (fun u hu => E2.out u hu)) ?_
          simp only [Act.put, List.setIfInBounds_toArray, List.set_cons_zero, List.set_cons_succ]
          refine Au.take 18 (some 90) (v := ?_) rfl rfl (by kernel_rfl) (by kernel_rfl) (by kernel_rfl) (fun _ _ _ h => h) stS5 (Au.yq_run (by rfl) (fun u hu => ?_)) ?_
          rotate_left
          · (clear hu; go_simp; try with_reducible rfl)
          simp only [Act.put, List.setIfInBounds_toArray, List.set_cons_zero, List.set_cons_succ]
          refine Au.take 19 (some 91) (v := ?_) rfl rfl (by kernel_rfl) (by kernel_rfl) (by kernel_rfl) (fun _ _ _ h => h) stS5 (Au.yq_run (by rfl) (fun u hu => ?_)) ?_
          rotate_left
          · (clear hu; go_simp; try with_reducible rfl)
          simp only [Act.put, List.setIfInBounds_toArray, List.set_cons_zero, List.set_cons_succ]
          refine Au.take 20 (some 92) rfl rfl (by kernel_rfl) (by kernel_rfl) (by kernel_rfl) (fun _ _ _ h => h) stS5 (Au.yq_call 8 _ (by rfl) (fun u => by go_simp) (fun u hu => HAW.out u)) ?_
          simp only [Act.put, List.setIfInBounds_toArray, List.set_cons_zero, List.set_cons_succ]
          refine Au.take 21 (some 93) (v := ?_) rfl rfl (by kernel_rfl) (by kernel_rfl) (by kernel_rfl) (fun _ _ _ h => h) stS5 (Au.yq_run (by rfl) (fun u hu => ?_)) ?_
          rotate_left
          · (clear hu; go_simp; try with_reducible rfl)
          simp only [Act.put, List.setIfInBounds_toArray, List.set_cons_zero, List.set_cons_succ]
          refine Au.take 22 (some 8) (v := ?_) rfl rfl (by kernel_rfl) (by kernel_rfl) (by kernel_rfl) (fun _ _ _ h => h) stS5 (Au.yq_run (by rfl) (fun u hu => ?_)) ?_
          rotate_left
          · (clear hu; go_simp; try with_reducible rfl)
          simp only [Act.put, List.setIfInBounds_toArray, List.set_cons_zero, List.set_cons_succ]
          refine Au.done (by kernel_rfl) ?_
          intro u hu
          go_wp2_with fail
          go_ret
          exact ⟨rfl, (G3.out u (gS5.out u hu).1).1.kept⟩
        · refine Au.region (S3) (by kernel_rfl) (hSt3 _ _ HS8.out (Kept.refl _).drew) ?_
          refine Au.take 0 (some 72) rfl rfl (by kernel_rfl) (by kernel_rfl) (by kernel_rfl) (fun _ _ _ h => h) hSt3 (Au.yq_load 23 (.tmp 7) rfl _ rfl (by rfl) (fun u hu => LI.out u hu)) ?_
          simp only [Act.put, List.setIfInBounds_toArray, List.set_cons_zero, List.set_cons_succ]
          refine Au.take 1 (some 73) (v := ?_) rfl rfl (by kernel_rfl) (by kernel_rfl) (by kernel_rfl) (fun _ _ _ h => h) hSt3 (Au.yq_run (by rfl) (fun u hu => ?_)) ?_
          rotate_left
          · (clear hu; go_simp; try with_reducible rfl)
          simp only [Act.put, List.setIfInBounds_toArray, List.set_cons_zero, List.set_cons_succ]
          refine Au.take 2 (some 74) rfl rfl (by kernel_rfl) (by kernel_rfl) (by kernel_rfl) (fun _ _ _ h => h) hSt3 (Au.yq_load 23 (.tmp 73) rfl _ rfl (by rfl) (fun u hu => LI5.out u hu)) ?_
          simp only [Act.put, List.setIfInBounds_toArray, List.set_cons_zero, List.set_cons_succ]
          refine Au.take 3 (some 75) (v := .bool true) rfl rfl (by kernel_rfl) (by kernel_rfl) (by kernel_rfl) (fun _ _ _ h => h) hSt3 (Au.yq_run (by rfl) (fun u hu => ?_)) ?_
          · (clear hu; go_simp; try (simp [he3]); try omega)
          simp only [Act.put, List.setIfInBounds_toArray, List.set_cons_zero, List.set_cons_succ]
          refine Au.take 4 (some 76) (v := ?_) rfl rfl (by kernel_rfl) (by kernel_rfl) (by kernel_rfl) (fun _ _ _ h => h) hSt3 (Au.yq_run (by rfl) (fun u hu => ?_)) ?_
          rotate_left
          · (clear hu; go_simp; try with_reducible rfl)
          simp only [Act.put, List.setIfInBounds_toArray, List.set_cons_zero, List.set_cons_succ]
          refine Au.take 5 (some 77) rfl rfl (by kernel_rfl) (by kernel_rfl) (by kernel_rfl) (fun _ _ _ h => h) hSt3 (Au.yq_skip (by rfl)) ?_
          simp only [Act.put, List.setIfInBounds_toArray, List.set_cons_zero, List.set_cons_succ]
          refine Au.take 6 (some 78) rfl rfl (by kernel_rfl) (by kernel_rfl) (by kernel_rfl) (fun _ _ _ h => h) hSt3 (Au.yq_skip (by rfl)) ?_
          simp only [Act.put, List.setIfInBounds_toArray, List.set_cons_zero, List.set_cons_succ]
          refine Au.take 7 (some 79) rfl rfl (by kernel_rfl) (by kernel_rfl) (by kernel_rfl) (fun _ _ _ h => h) hSt3 (Au.yq_skip (by rfl)) ?_
          simp only [Act.put, List.setIfInBounds_toArray, List.set_cons_zero, List.set_cons_succ]
          refine Au.take 8 (some 80) rfl rfl (by kernel_rfl) (by kernel_rfl) (by kernel_rfl) (fun _ _ _ h => h) hSt3 (Au.yq_skip (by rfl)) ?_
          simp only [Act.put, List.setIfInBounds_toArray, List.set_cons_zero, List.set_cons_succ]
          refine Au.take 9 (some 81) rfl rfl (by kernel_rfl) (by kernel_rfl) (by kernel_rfl) (fun _ _ _ h => h) hSt3 (Au.yq_skip (by rfl)) ?_
          simp only [Act.put, List.setIfInBounds_toArray, List.set_cons_zero, List.set_cons_succ]
          refine Au.take 10 (some 82) rfl rfl (by kernel_rfl) (by kernel_rfl) (by kernel_rfl) (fun _ _ _ h => h) hSt3 (Au.yq_skip (by rfl)) ?_
          simp only [Act.put, List.setIfInBounds_toArray, List.set_cons_zero, List.set_cons_succ]
          refine Au.take 11 (some 83) rfl rfl (by kernel_rfl) (by kernel_rfl) (by kernel_rfl) (fun _ _ _ h => h) hSt3 (Au.yq_skip (by rfl)) ?_
          simp only [Act.put, List.setIfInBounds_toArray, List.set_cons_zero, List.set_cons_succ]
          refine Au.take 12 (some 84) (v := ?_) rfl rfl (by kernel_rfl) (by kernel_rfl) (by kernel_rfl) (fun _ _ _ h => h) hSt3 (Au.yq_run (by rfl) (fun u hu => ?_)) ?_
          rotate_left
          · (clear hu; go_simp; try with_reducible rfl)
          simp only [Act.put, List.setIfInBounds_toArray, List.set_cons_zero, List.set_cons_succ]
          refine Au.take 13 (some 85) (v := ?_) rfl rfl (by kernel_rfl) (by kernel_rfl) (by kernel_rfl) (fun _ _ _ h => h) hSt3 (Au.yq_run (by rfl) (fun u hu => ?_)) ?_
          rotate_left
          · (clear hu; go_simp; try with_reducible rfl)
          simp only [Act.put, List.setIfInBounds_toArray, List.set_cons_zero, List.set_cons_succ]
          refine Au.take 14 (some 86) rfl rfl (by kernel_rfl) (by kernel_rfl) (by kernel_rfl) (fun _ _ _ h => h) hSt3 (Au.yq_load 34 (.tmp 9) rfl _ rfl (by rfl) (fun u hu => load_ow (GE.out u hu).2.1 rfl)) ?_
          simp only [Act.put, List.setIfInBounds_toArray, List.set_cons_zero, List.set_cons_succ]
          refine Au.take 15 (some 87) rfl rfl (by kernel_rfl) (by kernel_rfl) (by kernel_rfl) (fun _ _ _ h => h) hSt3 (Au.yq_load 28 (.tmp 4) rfl _ rfl (by rfl) (fun u hu => load_row ((G3.out u hu).1.blk 0 rfl) sA)) ?_
          simp only [Act.put, List.setIfInBounds_toArray, List.set_cons_zero, List.set_cons_succ]
          refine Au.step 16 rfl (by kernel_rfl) (fun w1 hw1 J1 hJ1 => ?_)
          rw [if_pos (by rfl)]
          go_simp
          refine (CMI.out w1 hw1).mono ?_
          rintro e w2 ⟨q5, n5, c5, rfl, ss, -, kk⟩
          go_wp2_with fail
          obtain ⟨S5, hS5⟩ : ∃ S' : World → Prop, S' = fun u => S3 u ∧ Mc u (.slice q5 n5 c5) K := ⟨_, rfl⟩
          have stS5 : Stab S5 := by rw [hS5]; exact stab_and hSt3 (mcs _ _)
          have gS5 := Lib.hid (fun (u : World) (h : S5 u) => (by rw [hS5] at h; exact h : S3 u ∧ Mc u (.slice q5 n5 c5) K))
          refine hJ1.out S5 _ _ (by rw [hS5]; exact ⟨hSt3 _ _ hw1 kk, ss⟩) stS5 (fun u hu => (gS5.out u hu).1) ?_
          clear hJ1 J1 ss kk hw1 hS5
          have E2 := Lib.hid (fun (u : World) (h : S5 u) => (by have := same_any o o (mc_cls (GE.out u (gS5.out u h).1).2.2 (by omega)) (mc_cls (gS5.out u h).2 (by omega)); rw [sameO_self] at this; exact this : Calls Try.prog 27 #[.agg (o.arr q1 n1 c1), .agg (o.arr q5 n5 c5)] u fun e w' => e = .returned (.bool true) ∧ Kept u w'))
          refine Au.take 17 (some 89) rfl rfl (by kernel_rfl) (by kernel_rfl) (by kernel_rfl) (fun _ _ _ h => h) stS5 (Au.yq_call 27 _ (by rfl) (fun u => by go_simp) (fun u hu => E2.out u hu)) ?_
          simp only [Act.put, List.setIfInBounds_toArray, List.set_cons_zero, List.set_cons_succ]
          refine Au.take 18 (some 90) (v := ?_) rfl rfl (by kernel_rfl) (by kernel_rfl) (by kernel_rfl) (fun _ _ _ h => h) stS5 (Au.yq_run (by rfl) (fun u hu => ?_)) ?_
          rotate_left
          · (clear hu; go_simp; try with_reducible rfl)
          simp only [Act.put, List.setIfInBounds_toArray, List.set_cons_zero, List.set_cons_succ]
          refine Au.take 19 (some 91) (v := ?_) rfl rfl (by kernel_rfl) (by kernel_rfl) (by kernel_rfl) (fun _ _ _ h => h) stS5 (Au.yq_run (by rfl) (fun u hu => ?_)) ?_
          rotate_left
          · (clear hu; go_simp; try with_reducible rfl)
          simp only [Act.put, List.setIfInBounds_toArray, List.set_cons_zero, List.set_cons_succ]
          refine Au.take 20 (some 92) rfl rfl (by kernel_rfl) (by kernel_rfl) (by kernel_rfl) (fun _ _ _ h => h) stS5 (Au.yq_call 8 _ (by rfl) (fun u => by go_simp) (fun u hu => HAW.out u)) ?_
          simp only [Act.put, List.setIfInBounds_toArray, List.set_cons_zero, List.set_cons_succ]
          refine Au.take 21 (some 93) (v := ?_) rfl rfl (by kernel_rfl) (by kernel_rfl) (by kernel_rfl) (fun _ _ _ h => h) stS5 (Au.yq_run (by rfl) (fun u hu => ?_)) ?_
          rotate_left
          · (clear hu; go_simp; try with_reducible rfl)
          simp only [Act.put, List.setIfInBounds_toArray, List.set_cons_zero, List.set_cons_succ]
          refine Au.take 22 (some 8) (v := ?_) rfl rfl (by kernel_rfl) (by kernel_rfl) (by kernel_rfl) (fun _ _ _ h => h) stS5 (Au.yq_run (by rfl) (fun u hu => ?_)) ?_
          rotate_left
          · (clear hu; go_simp; try with_reducible rfl)
          simp only [Act.put, List.setIfInBounds_toArray, List.set_cons_zero, List.set_cons_succ]
          refine Au.done (by kernel_rfl) ?_
          intro u hu
          go_wp2_with fail
          go_ret
          exact ⟨rfl, (G3.out u (gS5.out u hu).1).1.kept⟩
  · have e1 : 30 < (N : Int) := by omega
    have HK := Lib.hid hb.kept
    clear hv hb hW hA sA hN
    go_enter Try.func7, Try.ntmps7
    go_upto_region 1 with fail
    rw [HW.out]
    go_wp2_with (go_at_call 8; refine (HAW.out _).mono ?_; rintro e w' ⟨rfl, hk⟩)
    go_ret
    exact ⟨rfl, HK.out.trans hk⟩

end Go.Proofs.Ytplkhinjlgmilaa.Ow
