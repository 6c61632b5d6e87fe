/- The law: what is told of an owner, by the program and by the document. -/
import Derived.Test.YtplkhinjlgmilaaOwG
import Derived.Test.YtplkhinjlgmilaaOwF
namespace Go.Proofs.Ytplkhinjlgmilaa.Ow
open Go.RowKit Go.Sort Go.Shelf St Blk Eqs
open Go.Proofs.Ytplkhinjlgmilaa.Cl
open Go.Proofs.Ytplkhinjlgmilaa.Ls
open Go.Proofs.Ytplkhinjlgmilaa.Rv
open Go.Proofs.Ytplkhinjlgmilaa.Id (quiet_at)
open Go.Proofs.Ytplkhinjlgmilaa.Au (Stab stab_and)
open Go.Proofs.Ytplkhinjlgmilaa.Ad (load_w load_l store_new)
set_option linter.unusedVariables false

theorem mc_stab (v : Value) (K : List Cl) : Stab (fun u => Mc u v K) := fun u u' h k => h.keep k
theorem rc_stab (v : Value) (K : List Cl) : Stab (fun u => Rc u v K) := fun u u' h k => h.keep k

set_option maxRecDepth 100000 in
set_option maxHeartbeats 8000000 in
theorem tells_any {w : World} {q qp : Option Addr} {N Np c cp : Nat} {K KP : List Cl} (o p : Ow) (x : Cl) (hv : Cls w (.slice q N c) K) (hvp : Cls w (.slice qp Np cp) KP) (t vv : Int) :
    Calls Try.prog 3 #[.agg (o.arr q N c), .agg (p.arr qp Np cp), .agg x.arr, .int .i64 t, .int .i64 vv] w fun e w' => e = .returned (.bool true) ∧ Kept w w' := by
  have hN : K.length = N := by obtain ⟨p, cap, e⟩ := hv.shape; cases e; rfl
  have hNp : KP.length = Np := by obtain ⟨p, cap, e⟩ := hvp.shape; cases e; rfl
  obtain ⟨A, hA⟩ : ∃ A, o.arr q N c = A := ⟨_, rfl⟩
  obtain ⟨P, hP⟩ : ∃ P, p.arr qp Np cp = P := ⟨_, rfl⟩
  obtain ⟨X, hX⟩ : ∃ X, x.arr = X := ⟨_, rfl⟩
  have sA : A.size = 19 := by rw [← hA]; rfl
  have sP : P.size = 19 := by rw [← hP]; rfl
  have sX : X.size = 13 := by rw [← hX]; rfl
  obtain ⟨W, hW⟩ : ∃ W, ((w.alloc (.cells A 28)).alloc (.cells P 28)).alloc (.cells X 30) = W := ⟨_, rfl⟩
  have hb : Bl w W [(A, 28), (P, 28), (X, 30)] := hW ▸ Bl.three w A _ _ _ _ _
  have h18 : W.cell? ⟨w.heap.size, 18, none⟩ = some (.slice q N c) := (hb.cell 0 18 rfl).trans (show A[18]? = _ by rw [← hA]; rfl)
  have p18 : W.cell? ⟨w.heap.size + 1, 18, none⟩ = some (.slice qp Np cp) := (hb.cell 1 18 rfl).trans (show P[18]? = _ by rw [← hP]; rfl)
  have la := load_row (hb.blk 0 rfl) sA
  have HW := Lib.hid hW
  have HB := Lib.hid hb
  have HAW := Lib.hid awake_any
  rw [hA, hP, hX]
  by_cases hok : N ≤ 30 ∧ Np ≤ 30
  · obtain ⟨g1, g2⟩ := hok
    have e1 : ¬ 30 < (N : Int) := by omega
    have e2 : ¬ 30 < (Np : Int) := by omega
    have CM := Lib.hid (mine_any o (hv.go hb.kept) (by omega))
    obtain ⟨z, hz⟩ : ∃ z, overO o t = z := ⟨_, rfl⟩
    have CO := Lib.hid (fun q c u => over_any o q N c t u)
    rw [hz] at CO
    have HV := Lib.hid hv
    have HVP := Lib.hid hvp
    have HN := Lib.hid (And.intro hN hNp)
    have HN3 := Lib.hid (show N ≤ 800000 ∧ Np ≤ 800000 by omega)
    have HA := Lib.hid (And.intro hA (And.intro hP hX))
    have HZ := Lib.hid hz
    rw [hA] at CM
    clear hv hvp hb hW hN hNp hA hP hX hz g1 g2
    go_enter Try.func3, Try.ntmps3
    go_upto_region 1 with fail
    rw [HW.out]
    go_upto_region 4 with (first
      | (refine load_l 28 (.tmp 5) rfl _ rfl rfl (.agg A) la ?_)
      | (go_at_call 9; refine CM.out.mono ?_; rintro e u1 ⟨q1, n1, c1, rfl, s1, -, k1⟩; obtain rfl : n1 = N := ((mc_len s1).symm.trans HN.out.1); have S1 := Lib.hid (And.intro s1 (And.intro (HB.out.go k1) (HB.out.kept.trans k1))); clear s1 k1)
      | (refine store_new rfl 34 (.tmp 11) (.tmp 26) rfl u1.heap.size (o.arr q1 n1 c1) rfl rfl _ _ rfl 19 info_ow rfl rfl (arr_one _ _ _ _) ?_))
    obtain ⟨V, hV⟩ : ∃ V, u1.alloc (.cells (o.arr q1 n1 c1) 34) = V := ⟨_, rfl⟩
    rw [hV]
    have kV : Kept u1 V := by rw [← hV]; exact Kept.one _ _
    have bV : V.heap[u1.heap.size]? = some (.cells (o.arr q1 n1 c1) 34 (0, 0)) := by rw [← hV]; exact blk_new u1 _
    obtain ⟨B, hB'⟩ : ∃ B, u1.heap.size = B := ⟨_, rfl⟩
    rw [hB'] at bV ⊢
    obtain ⟨S, hS⟩ : ∃ S : World → Prop, S = fun u => Bl w u [(A, 28), (P, 28), (X, 30)] ∧ u.heap[B]? = some (.cells (o.arr q1 n1 c1) 34 (0, 0)) ∧ Mc u (.slice q1 n1 c1) K := ⟨_, rfl⟩
    have hSt : Stab S := by rw [hS]; exact fun u u' h k => ⟨h.1.go k, kept_at k h.2.1, h.2.2.keep k⟩
    have hSV : S V := by rw [hS]; exact ⟨S1.out.2.1.go kV, bV, S1.out.1.keep kV⟩
    have GS := Lib.hid (fun (u : World) (h : S u) => (by rw [hS] at h; exact h : Bl w u [(A, 28), (P, 28), (X, 30)] ∧ u.heap[B]? = some (.cells (o.arr q1 n1 c1) 34 (0, 0)) ∧ Mc u (.slice q1 n1 c1) K))
    have HSV := Lib.hid hSV
    have l11 := load_ow bV rfl
    clear hS hV kV hSV hB' la bV
    go_upto_region 5 with (first
      | (refine load_l 34 (.tmp 11) rfl _ rfl rfl _ l11 ?_)
      | (go_at_call 10; refine (CO.out _ _ _).mono ?_; rintro e u3 ⟨rfl, k3⟩))
    have hS3 := hSt _ _ HSV.out k3
    have HS3 := Lib.hid hS3
    clear k3 l11 h18 p18
    obtain ⟨a1, ha1⟩ : ∃ a, endsO o = a := ⟨_, rfl⟩
    obtain ⟨a2, ha2⟩ : ∃ a, openL K = a := ⟨_, rfl⟩
    obtain ⟨a3, ha3⟩ : ∃ a, worstL K = a := ⟨_, rfl⟩
    have lE := loadA_regrown (GS.out u3 hS3).2.1 Try.underlying34 info_ow
    have lA := loadA_regrown ((GS.out u3 hS3).1.blk 0 rfl) Try.underlying28 (by rw [sA]; exact info_row)
    have f1 : ∀ u, Calls Try.prog 11 #[.agg (o.arr q1 n1 c1)] u fun e w' => e = .returned (.int .i64 a1) ∧ Kept u w' := fun u => by rw [← ha1]; exact ends_any o _ _ _ u
    have f2 : ∀ u, Calls Try.prog 12 #[.agg A] u fun e w' => e = .returned (.int .i64 a1) ∧ Kept u w' := fun u => by rw [← ha1, ← HA.out.1]; exact rends_any o _ _ _ u
    have f3 : ∀ u, Calls Try.prog 13 #[.agg A, .int .i64 t] u fun e w' => e = .returned (.int .i64 z) ∧ Kept u w' := fun u => by rw [← HZ.out, ← HA.out.1]; exact rover_any o _ _ _ t u
    have f4 : ∀ u, Kept u3 u → Calls Try.prog 14 #[.agg (o.arr q1 n1 c1)] u fun e w' => e = .returned (.int .i64 a2) ∧ Kept u w' := fun u hu => by rw [← ha2]; exact open_any o (mc_cls ((GS.out u3 hS3).2.2.keep hu) (by rw [HN.out.1]; have := HN3.out.1; omega))
    have f5 : ∀ u, Kept u3 u → Calls Try.prog 15 #[.agg A] u fun e w' => e = .returned (.int .i64 a2) ∧ Kept u w' := fun u hu => by rw [← ha2, ← HA.out.1]; exact ropen_any o (HV.out.go ((GS.out u3 hS3).1.kept.trans hu))
    have f6 : ∀ u, Kept u3 u → Calls Try.prog 16 #[.agg (o.arr q1 n1 c1)] u fun e w' => e = .returned (.int .i64 a3) ∧ Kept u w' := fun u hu => by rw [← ha3]; exact worst_any o (mc_cls ((GS.out u3 hS3).2.2.keep hu) (by rw [HN.out.1]; have := HN3.out.1; omega))
    have f7 : ∀ u, Kept u3 u → Calls Try.prog 17 #[.agg A] u fun e w' => e = .returned (.int .i64 a3) ∧ Kept u w' := fun u hu => by rw [← ha3, ← HA.out.1]; exact rworst_any o (HV.out.go ((GS.out u3 hS3).1.kept.trans hu))
    have Q1 := quiet_at (Kept.refl u3) (fun x _ => f1 x)
    have Q2 := quiet_at (Kept.refl u3) (fun x _ => f2 x)
    have Q3 := quiet_at (Kept.refl u3) (fun x _ => f3 x)
    have Q4 := quiet_at (Kept.refl u3) f4
    have Q5 := quiet_at (Kept.refl u3) f5
    have Q6 := quiet_at (Kept.refl u3) f6
    have Q7 := quiet_at (Kept.refl u3) f7
    clear f1 f2 f3 f4 f5 f6 f7 ha1 ha2 ha3 hS3
    go_cut [64] (fun tt wx => tt = .bool false ∧ ∃ pp : Regrown, wx = grow (redrawn u3 pp.d) pp.os)
    case first =>
      refine wp_region_quiet_below (by kernel_rfl) (by kernel_rfl) ?_
      repeat (first
        | go_big_quiet_skip
        | (go_big_quiet_want; refine Ad.quiet_row 34 (.tmp 11) rfl B rfl _ lE.out ?_; simp only [Act.put, List.setIfInBounds_toArray, List.set_cons_succ, List.set_cons_zero]; go_big_quiet_on)
        | (go_big_quiet_want; refine Ad.quiet_row 28 (.tmp 5) rfl w.heap.size rfl A lA.out ?_; simp only [Act.put, List.setIfInBounds_toArray, List.set_cons_succ, List.set_cons_zero]; go_big_quiet_on)
        | go_big_quiet_step (first | (with_reducible exact Q1.out _) | (with_reducible exact Q2.out _) | (with_reducible exact Q3.out _) | (with_reducible exact Q4.out _) | (with_reducible exact Q5.out _) | (with_reducible exact Q6.out _) | (with_reducible exact Q7.out _)))
      refine wpQuiet_nil ?_
      intro _ hw'
      go_wp2_with fail
      go_meet
      exact ⟨rfl, hw'⟩
    case rest =>
      obtain ⟨rfl, ⟨dq, osq⟩, hwc⟩ := hcut
      have hS6 := hSt _ _ HS3.out (below_regrown u3 dq osq)
      obtain ⟨u6, hu6⟩ : ∃ u6, grow (redrawn u3 dq) osq = u6 := ⟨_, rfl⟩
      rw [hu6] at hwc hS6
      rw [hwc]
      clear hwc hu6 Q1 Q2 Q3 Q4 Q5 Q6 Q7 lE lA
      go_upto_region 7 with fail
      obtain ⟨y1, hy1⟩ : ∃ y, sumL K vv = y := ⟨_, rfl⟩
      obtain ⟨y2, hy2⟩ : ∃ y, findL K (nameOf x) = y := ⟨_, rfl⟩
      obtain ⟨z3, hz3⟩ : ∃ z, sameO o p K KP = z := ⟨_, rfl⟩
      obtain ⟨zr, hzr⟩ : ∃ z, (o.ka == 0) = z := ⟨_, rfl⟩
      have hK8 : K.length ≤ 800000 := by rw [HN.out.1]; exact HN3.out.1
      have hP8 : KP.length ≤ 800000 := by rw [HN.out.2]; exact HN3.out.2
      have CC : ∀ u, S u → Cls u (.slice q1 n1 c1) K := fun u h => mc_cls (GS.out u h).2.2 (by omega)
      have CV : ∀ u, S u → Cls u (.slice q n1 c) K := fun u h => HV.out.go (GS.out u h).1.kept
      have CP : ∀ u, S u → Cls u (.slice qp Np cp) KP := fun u h => HVP.out.go (GS.out u h).1.kept
      have D1 := Lib.hid (fun (u : World) (h : S u) => (by have := sum_any o (CC u h) vv; rw [hy1] at this; exact this : Calls Try.prog 18 #[.agg (o.arr q1 n1 c1), .int .i64 vv] u fun e w' => e = .returned (.int .i64 y1) ∧ Kept u w'))
      have D2 := Lib.hid (fun (u : World) (h : S u) => (by have := rsum_any o (CV u h) vv; rw [hy1, HA.out.1] at this; exact this : Calls Try.prog 19 #[.agg A, .int .i64 vv] u fun e w' => e = .returned (.int .i64 y1) ∧ Kept u w'))
      have D3 := Lib.hid (fun (u : World) (h : S u) => (by have := find_any o (CC u h) (nameOf x); rw [hy2] at this; exact this : Calls Try.prog 20 #[.agg (o.arr q1 n1 c1), .agg #[.int .i64 x.n, .int .i64 x.i, .int .i64 x.s]] u fun e w' => e = .returned (.int .i64 y2) ∧ Kept u w'))
      have D4 := Lib.hid (fun (u : World) (h : S u) => (by have := rfind_any o (CV u h) (nameOf x); rw [hy2, HA.out.1] at this; exact this : Calls Try.prog 21 #[.agg A, .agg #[.int .i64 x.n, .int .i64 x.i, .int .i64 x.s]] u fun e w' => e = .returned (.int .i64 y2) ∧ Kept u w'))
      have D5 := Lib.hid (fun (u : World) => (by have := one_any x u; rw [HA.out.2.2] at this; exact this : Calls Try.prog 25 #[.agg X] u fun e w' => e = .returned (.agg X) ∧ Kept u w'))
      have D6 := Lib.hid (fun (u : World) (h : S u) => (by have := with_any o (CC u h) hK8 x; rw [HA.out.2.2] at this; exact this : Calls Try.prog 24 #[.agg (o.arr q1 n1 c1), .agg X] u fun e w' => ∃ q' n' c', e = .returned (.agg (o.arr q' n' c')) ∧ Mc w' (.slice q' n' c') (withL K x) ∧ Kept u w'))
      have D7 := Lib.hid (fun (u : World) (h : S u) => (by have := rwith_any o (CV u h) hK8 x; rw [HA.out.1, HA.out.2.2] at this; exact this : Calls Try.prog 26 #[.agg A, .agg X] u fun e w' => ∃ q' n' c', e = .returned (.agg (o.arr q' n' c')) ∧ Rc w' (.slice q' n' c') (withL K x) ∧ Kept u w'))
      have D8 := Lib.hid (fun (u : World) (h : S u) => (by have := mine_any p (CP u h) (by omega); rw [HA.out.2.1] at this; exact this : Calls Try.prog 9 #[.agg P] u fun e w' => ∃ q' n' c', e = .returned (.agg (p.arr q' n' c')) ∧ Mc w' (.slice q' n' c') KP ∧ (∀ g, (Value.slice q' n' c').ownBlock = some g → u.heap.size ≤ g) ∧ Kept u w'))
      have D9 := Lib.hid (fun (u : World) (h : S u) => (by have := rsame_any o p (CV u h) (CP u h); rw [hz3, HA.out.1, HA.out.2.1] at this; exact this : Calls Try.prog 22 #[.agg A, .agg P] u fun e w' => e = .returned (.bool z3) ∧ Kept u w'))
      have D10 := Lib.hid (fun (u : World) (h : S u) => clone_any o (CC u h) (by omega))
      have D11 := Lib.hid (fun (u : World) => (by have := isroot_any o q1 n1 c1 u; rw [hzr] at this; exact this : Calls Try.prog 29 #[.agg (o.arr q1 n1 c1)] u fun e w' => e = .returned (.bool zr) ∧ Kept u w'))
      have HZ3 := Lib.hid hz3
      have HCC := Lib.hid CC
      have hWL : (withL K x).length ≤ 900000 := by have := with_len K x; omega
      have HKL := Lib.hid (And.intro hK8 (And.intro hP8 hWL))
      have HS6 := Lib.hid hS6
      clear hy1 hy2 hz3 CC CV CP hK8 hP8 hWL hS6
      refine Au.region (S) (by kernel_rfl) (hSt _ _ HS6.out (Kept.refl _).drew) ?_
      refine Au.take 0 (some 65) rfl rfl (by kernel_rfl) (by kernel_rfl) (by kernel_rfl) (fun _ _ _ h => h) hSt (Au.yq_load 34 (.tmp 11) rfl _ rfl (by rfl) (fun u hu => load_ow (GS.out u (hu)).2.1 rfl)) ?_
      simp only [Act.put, List.setIfInBounds_toArray, List.set_cons_zero, List.set_cons_succ]
      refine Au.take 1 (some 66) (v := ?_) rfl rfl (by kernel_rfl) (by kernel_rfl) (by kernel_rfl) (fun _ _ _ h => h) hSt (Au.yq_run (by rfl) (fun u hu => ?_)) ?_
      rotate_left
      · (clear hu; go_simp; try with_reducible rfl)
      simp only [Act.put, List.setIfInBounds_toArray, List.set_cons_zero, List.set_cons_succ]
      refine Au.take 3 (some 68) rfl rfl (by kernel_rfl) (by kernel_rfl) (by kernel_rfl) (fun _ _ _ h => h) hSt (Au.yq_load 28 (.tmp 5) rfl _ rfl (by rfl) (fun u hu => load_row ((GS.out u (hu)).1.blk 0 rfl) sA)) ?_
      simp only [Act.put, List.setIfInBounds_toArray, List.set_cons_zero, List.set_cons_succ]
      refine Au.take 4 (some 69) (v := ?_) rfl rfl (by kernel_rfl) (by kernel_rfl) (by kernel_rfl) (fun _ _ _ h => h) hSt (Au.yq_run (by rfl) (fun u hu => ?_)) ?_
      rotate_left
      · (clear hu; go_simp; try with_reducible rfl)
      simp only [Act.put, List.setIfInBounds_toArray, List.set_cons_zero, List.set_cons_succ]
      refine Au.take 2 (some 67) rfl rfl (by kernel_rfl) (by kernel_rfl) (by kernel_rfl) (fun _ _ _ h => h) hSt (Au.yq_call 18 _ (by rfl) (fun u => by go_simp) (fun u hu => D1.out u hu)) ?_
      simp only [Act.put, List.setIfInBounds_toArray, List.set_cons_zero, List.set_cons_succ]
      refine Au.take 5 (some 70) rfl rfl (by kernel_rfl) (by kernel_rfl) (by kernel_rfl) (fun _ _ _ h => h) hSt (Au.yq_call 19 _ (by rfl) (fun u => by go_simp) (fun u hu => D2.out u hu)) ?_
      simp only [Act.put, List.setIfInBounds_toArray, List.set_cons_zero, List.set_cons_succ]
      refine Au.take 6 (some 71) (v := ?_) rfl rfl (by kernel_rfl) (by kernel_rfl) (by kernel_rfl) (fun _ _ _ h => h) hSt (Au.yq_run (by rfl) (fun u hu => ?_)) ?_
      rotate_left
      · (clear hu; go_simp; try with_reducible rfl)
      simp only [Act.put, List.setIfInBounds_toArray, List.set_cons_zero, List.set_cons_succ]
      refine Au.take 7 (some 72) (v := ?_) rfl rfl (by kernel_rfl) (by kernel_rfl) (by kernel_rfl) (fun _ _ _ h => h) hSt (Au.yq_run (by rfl) (fun u hu => ?_)) ?_
      rotate_left
      · (clear hu; go_simp; try with_reducible rfl)
      simp only [Act.put, List.setIfInBounds_toArray, List.set_cons_zero, List.set_cons_succ]
      refine Au.take 8 (some 73) rfl rfl (by kernel_rfl) (by kernel_rfl) (by kernel_rfl) (fun _ _ _ h => h) hSt (Au.yq_load 34 (.tmp 11) rfl _ rfl (by rfl) (fun u hu => load_ow (GS.out u (hu)).2.1 rfl)) ?_
      simp only [Act.put, List.setIfInBounds_toArray, List.set_cons_zero, List.set_cons_succ]
      refine Au.take 9 (some 74) (v := ?_) rfl rfl (by kernel_rfl) (by kernel_rfl) (by kernel_rfl) (fun _ _ _ h => h) hSt (Au.yq_run (by rfl) (fun u hu => ?_)) ?_
      rotate_left
      · (clear hu; go_simp; try with_reducible rfl)
      simp only [Act.put, List.setIfInBounds_toArray, List.set_cons_zero, List.set_cons_succ]
      refine Au.take 10 (some 75) rfl rfl (by kernel_rfl) (by kernel_rfl) (by kernel_rfl) (fun _ _ _ h => h) hSt (Au.yq_load 23 (.tmp 74) rfl _ rfl (by rfl) (fun u hu => load_id (n := x.n) (i := x.i) (s := x.s) (((GS.out u (hu)).1.cell 2 0 rfl).trans (by rw [← HA.out.2.2]; rfl)) (((GS.out u (hu)).1.cell 2 1 rfl).trans (by rw [← HA.out.2.2]; rfl)) (((GS.out u (hu)).1.cell 2 2 rfl).trans (by rw [← HA.out.2.2]; rfl)))) ?_
      simp only [Act.put, List.setIfInBounds_toArray, List.set_cons_zero, List.set_cons_succ]
      refine Au.take 11 (some 76) rfl rfl (by kernel_rfl) (by kernel_rfl) (by kernel_rfl) (fun _ _ _ h => h) hSt (Au.yq_call 20 _ (by rfl) (fun u => by go_simp) (fun u hu => D3.out u hu)) ?_
      simp only [Act.put, List.setIfInBounds_toArray, List.set_cons_zero, List.set_cons_succ]
      refine Au.take 12 (some 77) rfl rfl (by kernel_rfl) (by kernel_rfl) (by kernel_rfl) (fun _ _ _ h => h) hSt (Au.yq_load 28 (.tmp 5) rfl _ rfl (by rfl) (fun u hu => load_row ((GS.out u (hu)).1.blk 0 rfl) sA)) ?_
      simp only [Act.put, List.setIfInBounds_toArray, List.set_cons_zero, List.set_cons_succ]
      refine Au.take 13 (some 78) (v := ?_) rfl rfl (by kernel_rfl) (by kernel_rfl) (by kernel_rfl) (fun _ _ _ h => h) hSt (Au.yq_run (by rfl) (fun u hu => ?_)) ?_
      rotate_left
      · (clear hu; go_simp; try with_reducible rfl)
      simp only [Act.put, List.setIfInBounds_toArray, List.set_cons_zero, List.set_cons_succ]
      refine Au.take 14 (some 79) rfl rfl (by kernel_rfl) (by kernel_rfl) (by kernel_rfl) (fun _ _ _ h => h) hSt (Au.yq_load 23 (.tmp 78) rfl _ rfl (by rfl) (fun u hu => load_id (n := x.n) (i := x.i) (s := x.s) (((GS.out u (hu)).1.cell 2 0 rfl).trans (by rw [← HA.out.2.2]; rfl)) (((GS.out u (hu)).1.cell 2 1 rfl).trans (by rw [← HA.out.2.2]; rfl)) (((GS.out u (hu)).1.cell 2 2 rfl).trans (by rw [← HA.out.2.2]; rfl)))) ?_
      simp only [Act.put, List.setIfInBounds_toArray, List.set_cons_zero, List.set_cons_succ]
      refine Au.take 15 (some 80) rfl rfl (by kernel_rfl) (by kernel_rfl) (by kernel_rfl) (fun _ _ _ h => h) hSt (Au.yq_call 21 _ (by rfl) (fun u => by go_simp) (fun u hu => D4.out u hu)) ?_
      simp only [Act.put, List.setIfInBounds_toArray, List.set_cons_zero, List.set_cons_succ]
      refine Au.take 16 (some 81) (v := ?_) rfl rfl (by kernel_rfl) (by kernel_rfl) (by kernel_rfl) (fun _ _ _ h => h) hSt (Au.yq_run (by rfl) (fun u hu => ?_)) ?_
      rotate_left
      · (clear hu; go_simp; try with_reducible rfl)
      simp only [Act.put, List.setIfInBounds_toArray, List.set_cons_zero, List.set_cons_succ]
      refine Au.take 17 (some 82) (v := ?_) rfl rfl (by kernel_rfl) (by kernel_rfl) (by kernel_rfl) (fun _ _ _ h => h) hSt (Au.yq_run (by rfl) (fun u hu => ?_)) ?_
      rotate_left
      · (clear hu; go_simp; try with_reducible rfl)
      simp only [Act.put, List.setIfInBounds_toArray, List.set_cons_zero, List.set_cons_succ]
      refine Au.take 18 (some 83) (v := ?_) rfl rfl (by kernel_rfl) (by kernel_rfl) (by kernel_rfl) (fun _ _ _ h => h) hSt (Au.yq_run (by rfl) (fun u hu => ?_)) ?_
      rotate_left
      · (clear hu; go_simp; try with_reducible rfl)
      simp only [Act.put, List.setIfInBounds_toArray, List.set_cons_zero, List.set_cons_succ]
      refine Au.take 19 (some 84) rfl rfl (by kernel_rfl) (by kernel_rfl) (by kernel_rfl) (fun _ _ _ h => h) hSt (Au.yq_load 34 (.tmp 11) rfl _ rfl (by rfl) (fun u hu => load_ow (GS.out u (hu)).2.1 rfl)) ?_
      simp only [Act.put, List.setIfInBounds_toArray, List.set_cons_zero, List.set_cons_succ]
      refine Au.take 20 (some 85) rfl rfl (by kernel_rfl) (by kernel_rfl) (by kernel_rfl) (fun _ _ _ h => h) hSt (Au.yq_load 30 (.tmp 7) rfl _ rfl (by rfl) (fun u hu => load_rcl ((GS.out u (hu)).1.blk 2 rfl) sX)) ?_
      simp only [Act.put, List.setIfInBounds_toArray, List.set_cons_zero, List.set_cons_succ]
      refine Au.take 21 (some 86) rfl rfl (by kernel_rfl) (by kernel_rfl) (by kernel_rfl) (fun _ _ _ h => h) hSt (Au.yq_call 25 _ (by rfl) (fun u => by go_simp) (fun u hu => D5.out u)) ?_
      simp only [Act.put, List.setIfInBounds_toArray, List.set_cons_zero, List.set_cons_succ]
      refine Au.take 24 (some 89) rfl rfl (by kernel_rfl) (by kernel_rfl) (by kernel_rfl) (fun _ _ _ h => h) hSt (Au.yq_load 28 (.tmp 5) rfl _ rfl (by rfl) (fun u hu => load_row ((GS.out u (hu)).1.blk 0 rfl) sA)) ?_
      simp only [Act.put, List.setIfInBounds_toArray, List.set_cons_zero, List.set_cons_succ]
      refine Au.take 25 (some 90) rfl rfl (by kernel_rfl) (by kernel_rfl) (by kernel_rfl) (fun _ _ _ h => h) hSt (Au.yq_load 30 (.tmp 7) rfl _ rfl (by rfl) (fun u hu => load_rcl ((GS.out u (hu)).1.blk 2 rfl) sX)) ?_
      simp only [Act.put, List.setIfInBounds_toArray, List.set_cons_zero, List.set_cons_succ]
      have stS := hSt
      refine Au.step 22 rfl (by kernel_rfl) (fun w1 hw1 K1 hK1 => ?_)
      rw [if_pos (by rfl)]
      go_simp
      refine (D6.out w1 hw1).mono ?_
      rintro e w2 ⟨q2, n2, c2, rfl, ss, kk⟩
      go_wp2_with fail
      obtain ⟨S2, hS2⟩ : ∃ S' : World → Prop, S' = fun u => S u ∧ Mc u (.slice q2 n2 c2) (withL K x) := ⟨_, rfl⟩
      have stS2 : Stab S2 := by rw [hS2]; exact stab_and stS (mc_stab _ _)
      have gS2 := Lib.hid (fun (u : World) (h : S2 u) => (by rw [hS2] at h; exact h : S u ∧ Mc u (.slice q2 n2 c2) (withL K x)))
      refine hK1.out S2 _ _ (by rw [hS2]; exact ⟨stS _ _ hw1 kk, ss⟩) stS2 (fun u hu => (gS2.out u hu).1) ?_
      clear hK1 K1 ss kk hw1 hS2
      refine Au.step 23 rfl (by kernel_rfl) (fun w1 hw1 K1 hK1 => ?_)
      rw [if_pos (by rfl)]
      go_simp
      refine (theirs_any o (mc_cls (gS2.out w1 hw1).2 (by have := HKL.out.2.2; omega)) HKL.out.2.2).mono ?_
      rintro e w2 ⟨q3, n3, c3, rfl, ss, -, kk⟩
      go_wp2_with fail
      obtain ⟨S3, hS3⟩ : ∃ S' : World → Prop, S' = fun u => S2 u ∧ Rc u (.slice q3 n3 c3) (withL K x) := ⟨_, rfl⟩
      have stS3 : Stab S3 := by rw [hS3]; exact stab_and stS2 (rc_stab _ _)
      have gS3 := Lib.hid (fun (u : World) (h : S3 u) => (by rw [hS3] at h; exact h : S2 u ∧ Rc u (.slice q3 n3 c3) (withL K x)))
      refine hK1.out S3 _ _ (by rw [hS3]; exact ⟨stS2 _ _ hw1 kk, ss⟩) stS3 (fun u hu => (gS3.out u hu).1) ?_
      clear hK1 K1 ss kk hw1 hS3
      refine Au.step 26 rfl (by kernel_rfl) (fun w1 hw1 K1 hK1 => ?_)
      rw [if_pos (by rfl)]
      go_simp
      refine (D7.out w1 (gS2.out w1 (gS3.out w1 hw1).1).1).mono ?_
      rintro e w2 ⟨q4, n4, c4, rfl, ss, kk⟩
      go_wp2_with fail
      obtain ⟨S4, hS4⟩ : ∃ S' : World → Prop, S' = fun u => S3 u ∧ Rc u (.slice q4 n4 c4) (withL K x) := ⟨_, rfl⟩
      have stS4 : Stab S4 := by rw [hS4]; exact stab_and stS3 (rc_stab _ _)
      have gS4 := Lib.hid (fun (u : World) (h : S4 u) => (by rw [hS4] at h; exact h : S3 u ∧ Rc u (.slice q4 n4 c4) (withL K x)))
      refine hK1.out S4 _ _ (by rw [hS4]; exact ⟨stS3 _ _ hw1 kk, ss⟩) stS4 (fun u hu => (gS4.out u hu).1) ?_
      clear hK1 K1 ss kk hw1 hS4
      have E1 := Lib.hid (fun (u : World) (h : S4 u) => (by have := rsame_any o o (rc_cls (gS3.out u (gS4.out u h).1).2 (by have := HKL.out.2.2; omega)) (rc_cls (gS4.out u h).2 (by have := HKL.out.2.2; omega)); rw [sameO_self] at this; exact this : Calls Try.prog 22 #[.agg (o.arr q3 n3 c3), .agg (o.arr q4 n4 c4)] u fun e w' => e = .returned (.bool true) ∧ Kept u w'))
      have b4 := Lib.hid (fun (u : World) (h : S4 u) => (gS2.out u (gS3.out u (gS4.out u h).1).1).1)
      refine Au.take 27 (some 92) rfl rfl (by kernel_rfl) (by kernel_rfl) (by kernel_rfl) (fun _ _ _ h => h) stS4 (Au.yq_call 22 _ (by rfl) (fun u => by go_simp) (fun u hu => E1.out u hu)) ?_
      simp only [Act.put, List.setIfInBounds_toArray, List.set_cons_zero, List.set_cons_succ]
      refine Au.take 28 (some 93) (v := ?_) rfl rfl (by kernel_rfl) (by kernel_rfl) (by kernel_rfl) (fun _ _ _ h => h) stS4 (Au.yq_run (by rfl) (fun u hu => ?_)) ?_
      rotate_left
      · (clear hu; go_simp; try with_reducible rfl)
      simp only [Act.put, List.setIfInBounds_toArray, List.set_cons_zero, List.set_cons_succ]
      refine Au.take 29 (some 94) (v := ?_) rfl rfl (by kernel_rfl) (by kernel_rfl) (by kernel_rfl) (fun _ _ _ h => h) stS4 (Au.yq_run (by rfl) (fun u hu => ?_)) ?_
      rotate_left
      · (clear hu; go_simp; try with_reducible rfl)
      simp only [Act.put, List.setIfInBounds_toArray, List.set_cons_zero, List.set_cons_succ]
      refine Au.take 30 (some 95) rfl rfl (by kernel_rfl) (by kernel_rfl) (by kernel_rfl) (fun _ _ _ h => h) stS4 (Au.yq_load 34 (.tmp 11) rfl _ rfl (by rfl) (fun u hu => load_ow (GS.out u (b4.out u hu)).2.1 rfl)) ?_
      simp only [Act.put, List.setIfInBounds_toArray, List.set_cons_zero, List.set_cons_succ]
      refine Au.take 31 (some 96) rfl rfl (by kernel_rfl) (by kernel_rfl) (by kernel_rfl) (fun _ _ _ h => h) stS4 (Au.yq_load 28 (.tmp 6) rfl _ rfl (by rfl) (fun u hu => load_row ((GS.out u (b4.out u hu)).1.blk 1 rfl) sP)) ?_
      simp only [Act.put, List.setIfInBounds_toArray, List.set_cons_zero, List.set_cons_succ]
      refine Au.take 34 (some 99) rfl rfl (by kernel_rfl) (by kernel_rfl) (by kernel_rfl) (fun _ _ _ h => h) stS4 (Au.yq_load 28 (.tmp 5) rfl _ rfl (by rfl) (fun u hu => load_row ((GS.out u (b4.out u hu)).1.blk 0 rfl) sA)) ?_
      simp only [Act.put, List.setIfInBounds_toArray, List.set_cons_zero, List.set_cons_succ]
      refine Au.take 35 (some 100) rfl rfl (by kernel_rfl) (by kernel_rfl) (by kernel_rfl) (fun _ _ _ h => h) stS4 (Au.yq_load 28 (.tmp 6) rfl _ rfl (by rfl) (fun u hu => load_row ((GS.out u (b4.out u hu)).1.blk 1 rfl) sP)) ?_
      simp only [Act.put, List.setIfInBounds_toArray, List.set_cons_zero, List.set_cons_succ]
      refine Au.step 32 rfl (by kernel_rfl) (fun w1 hw1 K1 hK1 => ?_)
      rw [if_pos (by rfl)]
      go_simp
      refine (D8.out w1 (b4.out w1 hw1)).mono ?_
      rintro e w2 ⟨q5, n5, c5, rfl, ss, -, kk⟩
      go_wp2_with fail
      obtain ⟨S5, hS5⟩ : ∃ S' : World → Prop, S' = fun u => S4 u ∧ Mc u (.slice q5 n5 c5) KP := ⟨_, rfl⟩
      have stS5 : Stab S5 := by rw [hS5]; exact stab_and stS4 (mc_stab _ _)
      have gS5 := Lib.hid (fun (u : World) (h : S5 u) => (by rw [hS5] at h; exact h : S4 u ∧ Mc u (.slice q5 n5 c5) KP))
      refine hK1.out S5 _ _ (by rw [hS5]; exact ⟨stS4 _ _ hw1 kk, ss⟩) stS5 (fun u hu => (gS5.out u hu).1) ?_
      clear hK1 K1 ss kk hw1 hS5
      have b5 := Lib.hid (fun (u : World) (h : S5 u) => b4.out u (gS5.out u h).1)
      have E2 := Lib.hid (fun (u : World) (h : S5 u) => (by have := same_any o p (HCC.out u (b5.out u h)) (mc_cls (gS5.out u h).2 (by have := HKL.out.2.1; omega)); rw [HZ3.out] at this; exact this : Calls Try.prog 27 #[.agg (o.arr q1 n1 c1), .agg (p.arr q5 n5 c5)] u fun e w' => e = .returned (.bool z3) ∧ Kept u w'))
      refine Au.take 33 (some 98) rfl rfl (by kernel_rfl) (by kernel_rfl) (by kernel_rfl) (fun _ _ _ h => h) stS5 (Au.yq_call 27 _ (by rfl) (fun u => by go_simp) (fun u hu => E2.out u hu)) ?_
      simp only [Act.put, List.setIfInBounds_toArray, List.set_cons_zero, List.set_cons_succ]
      refine Au.take 36 (some 101) rfl rfl (by kernel_rfl) (by kernel_rfl) (by kernel_rfl) (fun _ _ _ h => h) stS5 (Au.yq_call 22 _ (by rfl) (fun u => by go_simp) (fun u hu => D9.out u (b5.out u hu))) ?_
      simp only [Act.put, List.setIfInBounds_toArray, List.set_cons_zero, List.set_cons_succ]
      refine Au.take 37 (some 102) (v := ?_) rfl rfl (by kernel_rfl) (by kernel_rfl) (by kernel_rfl) (fun _ _ _ h => h) stS5 (Au.yq_run (by rfl) (fun u hu => ?_)) ?_
      rotate_left
      · (clear hu; go_simp; try with_reducible rfl)
      simp only [Act.put, List.setIfInBounds_toArray, List.set_cons_zero, List.set_cons_succ]
      refine Au.take 38 (some 103) (v := ?_) rfl rfl (by kernel_rfl) (by kernel_rfl) (by kernel_rfl) (fun _ _ _ h => h) stS5 (Au.yq_run (by rfl) (fun u hu => ?_)) ?_
      rotate_left
      · (clear hu; go_simp; try with_reducible rfl)
      simp only [Act.put, List.setIfInBounds_toArray, List.set_cons_zero, List.set_cons_succ]
      refine Au.take 39 (some 104) (v := ?_) rfl rfl (by kernel_rfl) (by kernel_rfl) (by kernel_rfl) (fun _ _ _ h => h) stS5 (Au.yq_run (by rfl) (fun u hu => ?_)) ?_
      rotate_left
      · (clear hu; go_simp; try with_reducible rfl)
      simp only [Act.put, List.setIfInBounds_toArray, List.set_cons_zero, List.set_cons_succ]
      refine Au.take 40 (some 105) rfl rfl (by kernel_rfl) (by kernel_rfl) (by kernel_rfl) (fun _ _ _ h => h) stS5 (Au.yq_load 34 (.tmp 11) rfl _ rfl (by rfl) (fun u hu => load_ow (GS.out u (b5.out u hu)).2.1 rfl)) ?_
      simp only [Act.put, List.setIfInBounds_toArray, List.set_cons_zero, List.set_cons_succ]
      refine Au.take 42 (some 107) rfl rfl (by kernel_rfl) (by kernel_rfl) (by kernel_rfl) (fun _ _ _ h => h) stS5 (Au.yq_load 34 (.tmp 11) rfl _ rfl (by rfl) (fun u hu => load_ow (GS.out u (b5.out u hu)).2.1 rfl)) ?_
      simp only [Act.put, List.setIfInBounds_toArray, List.set_cons_zero, List.set_cons_succ]
      refine Au.step 41 rfl (by kernel_rfl) (fun w1 hw1 K1 hK1 => ?_)
      rw [if_pos (by rfl)]
      go_simp
      refine (D10.out w1 (b5.out w1 hw1)).mono ?_
      rintro e w2 ⟨q6, c6, rfl, ss, -, kk⟩
      go_wp2_with fail
      obtain ⟨S6, hS6⟩ : ∃ S' : World → Prop, S' = fun u => S5 u ∧ Mc u (.slice q6 n1 c6) K := ⟨_, rfl⟩
      have stS6 : Stab S6 := by rw [hS6]; exact stab_and stS5 (mc_stab _ _)
      have gS6 := Lib.hid (fun (u : World) (h : S6 u) => (by rw [hS6] at h; exact h : S5 u ∧ Mc u (.slice q6 n1 c6) K))
      refine hK1.out S6 _ _ (by rw [hS6]; exact ⟨stS5 _ _ hw1 kk, ss⟩) stS6 (fun u hu => (gS6.out u hu).1) ?_
      clear hK1 K1 ss kk hw1 hS6
      have b6 := Lib.hid (fun (u : World) (h : S6 u) => b5.out u (gS6.out u h).1)
      have E3 := Lib.hid (fun (u : World) (h : S6 u) => (by have := same_any o o (mc_cls (gS6.out u h).2 (by have := HKL.out.1; omega)) (HCC.out u (b6.out u h)); rw [sameO_self] at this; exact this : Calls Try.prog 27 #[.agg (o.arr q6 n1 c6), .agg (o.arr q1 n1 c1)] u fun e w' => e = .returned (.bool true) ∧ Kept u w'))
      refine Au.take 43 (some 108) rfl rfl (by kernel_rfl) (by kernel_rfl) (by kernel_rfl) (fun _ _ _ h => h) stS6 (Au.yq_call 27 _ (by rfl) (fun u => by go_simp) (fun u hu => E3.out u hu)) ?_
      simp only [Act.put, List.setIfInBounds_toArray, List.set_cons_zero, List.set_cons_succ]
      refine Au.take 44 (some 109) (v := ?_) rfl rfl (by kernel_rfl) (by kernel_rfl) (by kernel_rfl) (fun _ _ _ h => h) stS6 (Au.yq_run (by rfl) (fun u hu => ?_)) ?_
      rotate_left
      · (clear hu; go_simp; try with_reducible rfl)
      simp only [Act.put, List.setIfInBounds_toArray, List.set_cons_zero, List.set_cons_succ]
      refine Au.take 45 (some 110) (v := ?_) rfl rfl (by kernel_rfl) (by kernel_rfl) (by kernel_rfl) (fun _ _ _ h => h) stS6 (Au.yq_run (by rfl) (fun u hu => ?_)) ?_
      rotate_left
      · (clear hu; go_simp; try with_reducible rfl)
      simp only [Act.put, List.setIfInBounds_toArray, List.set_cons_zero, List.set_cons_succ]
      refine Au.take 46 (some 111) rfl rfl (by kernel_rfl) (by kernel_rfl) (by kernel_rfl) (fun _ _ _ h => h) stS6 (Au.yq_load 34 (.tmp 11) rfl _ rfl (by rfl) (fun u hu => load_ow (GS.out u (b6.out u hu)).2.1 rfl)) ?_
      simp only [Act.put, List.setIfInBounds_toArray, List.set_cons_zero, List.set_cons_succ]
      refine Au.take 47 (some 112) rfl rfl (by kernel_rfl) (by kernel_rfl) (by kernel_rfl) (fun _ _ _ h => h) stS6 (Au.yq_call 29 _ (by rfl) (fun u => by go_simp) (fun u hu => D11.out u)) ?_
      simp only [Act.put, List.setIfInBounds_toArray, List.set_cons_zero, List.set_cons_succ]
      refine Au.take 48 (some 113) (v := ?_) rfl rfl (by kernel_rfl) (by kernel_rfl) (by kernel_rfl) (fun _ _ _ h => h) stS6 (Au.yq_run (by rfl) (fun u hu => ?_)) ?_
      rotate_left
      · (clear hu; go_simp; try with_reducible rfl)
      simp only [Act.put, List.setIfInBounds_toArray, List.set_cons_zero, List.set_cons_succ]
      refine Au.take 49 (some 114) (v := ?_) rfl rfl (by kernel_rfl) (by kernel_rfl) (by kernel_rfl) (fun _ _ _ h => h) stS6 (Au.yq_run (by rfl) (fun u hu => ?_)) ?_
      rotate_left
      · (clear hu; go_simp; try with_reducible rfl)
      simp only [Act.put, List.setIfInBounds_toArray, List.set_cons_zero, List.set_cons_succ]
      refine Au.take 50 (some 115) rfl rfl (by kernel_rfl) (by kernel_rfl) (by kernel_rfl) (fun _ _ _ h => h) stS6 (Au.yq_load 3 (.tmp 114) rfl _ rfl (by rfl) (fun u hu => Ad.run_loadi (n := o.ka) (((GS.out u (b6.out u hu)).1.cell 0 3 rfl).trans (by rw [← HA.out.1]; rfl)))) ?_
      simp only [Act.put, List.setIfInBounds_toArray, List.set_cons_zero, List.set_cons_succ]
      refine Au.take 51 (some 116) (v := ?_) rfl rfl (by kernel_rfl) (by kernel_rfl) (by kernel_rfl) (fun _ _ _ h => h) stS6 (Au.yq_run (by rfl) (fun u hu => ?_)) ?_
      rotate_left
      · (clear hu; go_simp; try with_reducible rfl)
      simp only [Act.put, List.setIfInBounds_toArray, List.set_cons_zero, List.set_cons_succ]
      refine Au.take 52 (some 117) (v := ?_) rfl rfl (by kernel_rfl) (by kernel_rfl) (by kernel_rfl) (fun _ _ _ h => h) stS6 (Au.yq_run (by rfl) (fun u hu => ?_)) ?_
      rotate_left
      · (clear hu; go_simp; try with_reducible rfl)
      simp only [Act.put, List.setIfInBounds_toArray, List.set_cons_zero, List.set_cons_succ]
      refine Au.take 53 (some 118) (v := ?_) rfl rfl (by kernel_rfl) (by kernel_rfl) (by kernel_rfl) (fun _ _ _ h => h) stS6 (Au.yq_run (by rfl) (fun u hu => ?_)) ?_
      rotate_left
      · (clear hu; go_simp; try with_reducible rfl)
      simp only [Act.put, List.setIfInBounds_toArray, List.set_cons_zero, List.set_cons_succ]
      refine Au.take 54 (some 119) (v := ?_) rfl rfl (by kernel_rfl) (by kernel_rfl) (by kernel_rfl) (fun _ _ _ h => h) stS6 (Au.yq_run (by rfl) (fun u hu => ?_)) ?_
      rotate_left
      · (clear hu; go_simp; try with_reducible rfl)
      simp only [Act.put, List.setIfInBounds_toArray, List.set_cons_zero, List.set_cons_succ]
      refine Au.take 55 (some 120) rfl rfl (by kernel_rfl) (by kernel_rfl) (by kernel_rfl) (fun _ _ _ h => h) stS6 (Au.yq_call 8 _ (by rfl) (fun u => by go_simp) (fun u hu => HAW.out u)) ?_
      simp only [Act.put, List.setIfInBounds_toArray, List.set_cons_zero, List.set_cons_succ]
      refine Au.take 56 (some 121) (v := ?_) rfl rfl (by kernel_rfl) (by kernel_rfl) (by kernel_rfl) (fun _ _ _ h => h) stS6 (Au.yq_run (by rfl) (fun u hu => ?_)) ?_
      rotate_left
      · (clear hu; go_simp; try with_reducible rfl)
      simp only [Act.put, List.setIfInBounds_toArray, List.set_cons_zero, List.set_cons_succ]
      refine Au.take 57 (some 10) (v := ?_) rfl rfl (by kernel_rfl) (by kernel_rfl) (by kernel_rfl) (fun _ _ _ h => h) stS6 (Au.yq_run (by rfl) (fun u hu => ?_)) ?_
      rotate_left
      · (clear hu; go_simp; try with_reducible rfl)
      simp only [Act.put, List.setIfInBounds_toArray, List.set_cons_zero, List.set_cons_succ]
      refine Au.done (by kernel_rfl) ?_
      intro u hu
      go_wp2_with fail
      go_ret
      exact ⟨rfl, (GS.out u (b6.out u hu)).1.kept⟩
  · have HK := Lib.hid hb.kept
    clear hv hvp hb hW hA hP hX sA sP sX la hN hNp
    go_enter Try.func3, Try.ntmps3
    go_upto_region 1 with fail
    rw [HW.out]
    by_cases e1 : 30 < (N : Int)
    · go_wp2_with (go_at_call 8; refine (HAW.out _).mono ?_; rintro e w' ⟨rfl, hk⟩)
      go_ret
      exact ⟨rfl, HK.out.trans hk⟩
    have e2 : 30 < (Np : Int) := by omega
    go_wp2_with (go_at_call 8; refine (HAW.out _).mono ?_; rintro e w' ⟨rfl, hk⟩)
    go_ret
    exact ⟨rfl, HK.out.trans hk⟩

end Go.Proofs.Ytplkhinjlgmilaa.Ow
