/- The law: a configuration that may be is read as it was told. -/
import Derived.Test.YtcoagmkncjonmaaDoorSuC
import Derived.Test.YtcoagmkncjonmaaDoorSuL
import Derived.Test.YtcoagmkncjonmaaDoorSu4
import Derived.Test.YtcoagmkncjonmaaDoorRs1
import Derived.Test.YtcoagmkncjonmaaDoorAd3
import Derived.Test.YtcoagmkncjonmaaDoorPgB
namespace Go.Proofs.YtcoagmkncjonmaaDoor.Su
open Go.RowKit Go.Sort Go.Shelf St Blk At
open Ad (Cf info_cf load_l load_w)
open Pg (Ops Progs textT rightB)
set_option linter.unusedVariables false
set_option linter.unusedSimpArgs false

/-- the lines of a configuration's text -/
def told (l : List Int) (M : List (List Pg.Op)) : List Ln := ((List.range 13).map fun j => Ln.num j (l.getD j 0)) ++ M.map Ln.prog
theorem told_txt (l : List Int) (M : List (List Pg.Op)) : linesT (told l M) = cfgT l M := by
  unfold linesT told cfgT setsT progsT
  rw [List.flatMap_append, List.flatMap_map, List.flatMap_map, List.range_eq_range']
  rfl
theorem runs_progs (M : List (List Pg.Op)) (s : Rs) : runs s (M.map Ln.prog) = some { s with M := s.M ++ M } := by
  induction M generalizing s with
  | nil => simp [runs]
  | cons L M ih => simp only [List.map_cons, runs, Rs.step]; rw [ih]; simp
theorem runs_nums (a0 a1 a2 a3 a4 a5 a6 a7 a8 a9 a10 a11 a12 : Int) : runs rs0 ((List.range 13).map fun j => Ln.num j ([a0, a1, a2, a3, a4, a5, a6, a7, a8, a9, a10, a11, a12].getD j 0)) = some ⟨[a0, a1, a2, a3, a4, a5, a6, a7, a8, a9, a10, a11, a12], [], [0, 1, 2, 3, 4, 5, 6, 7, 8, 9, 10, 11, 12]⟩ := rfl
theorem runs_told (c : Cf) (M : List (List Pg.Op)) : runs rs0 (told (numsL c) M) = some ⟨numsL c, M, [0, 1, 2, 3, 4, 5, 6, 7, 8, 9, 10, 11, 12]⟩ := by
  unfold told
  rw [runs_app]
  have h := runs_nums c.nodes c.skew c.lease c.grain c.least c.hops c.cap c.fan c.attempts c.base c.most c.wait c.tokens
  rw [show (runs rs0 ((List.range 13).map fun j => Ln.num j ((numsL c).getD j 0))) = _ from h, Option.bind_some, runs_progs]
  simp [numsL]
theorem no_fault {ls : List Ln} {z s : Rs} {i : Nat} {x : Ln} (h : runs rs0 ls = some z) (hx : ls[i]? = some x) (hr : runs rs0 (ls.take i) = some s) (hs : s.step x = none) : False := by
  obtain ⟨h1, e⟩ := List.getElem?_eq_some_iff.1 hx
  rw [← List.take_append_drop i ls, runs_app, hr, Option.bind_some, List.drop_eq_getElem_cons h1, e] at h
  simp only [runs, hs] at h
  cases h
theorem op_more {o : Pg.Op} {n p : Int} (hn : n ≤ 64) (hp : p ≤ 16) (h : Pg.opB o n p = true) : Pg.opB o 64 16 = true := by
  unfold Pg.opB Pg.opK at *
  split at h
  · rename_i hk
    rw [if_pos hk]
    have := of_decide_eq_true h
    exact decide_eq_true (by omega)
  · rename_i hk
    rw [if_neg hk]; exact h
theorem right_more {L : List Pg.Op} {n p : Int} (hn : n ≤ 64) (hp : p ≤ 16) (h : rightB L n p = true) : rightB L 64 16 = true := by
  unfold rightB at *
  rw [Bool.and_eq_true] at *
  exact ⟨h.1, List.all_eq_true.2 fun o ho => op_more hn hp (List.all_eq_true.1 h.2 o ho)⟩
theorem right_nums {c : Cf} (h : Ad.right c = true) : (∀ j, j < 13 → 0 ≤ (numsL c).getD j 0 ∧ (numsL c).getD j 0 ≤ 9999999) ∧ c.nodes ≤ 64 ∧ (c.pn : Int) ≤ 16 := by
  unfold Ad.right Ad.bnds at h
  simp only [List.all_cons, List.all_nil, Bool.and_true, Bool.and_eq_true, Ad.inB, decide_eq_true_eq] at h
  obtain ⟨⟨h0, h1, h2, h3, h4, h5, h6, h7, h8, h9, h10, h11, h12, h13⟩, -⟩ := h
  refine ⟨fun j hj => ?_, h0.2, h13.2⟩
  rcases k_cases hj with e | e | e | e | e | e | e | e | e | e | e | e | e <;> subst e <;> simp only [numsL, List.getD_cons_zero, List.getD_cons_succ] <;> omega
theorem told_ok {c : Cf} {M : List (List Pg.Op)} (h : Ad.right c = true) (ha : Pg.allB M c.nodes (c.pn : Int) = true) (hf : ∀ L ∈ M, ∀ o ∈ L, o.Fit) : ∀ x ∈ told (numsL c) M, x.Ok := by
  obtain ⟨h1, h2, h3⟩ := right_nums h
  intro x hx
  rcases List.mem_append.1 hx with hx | hx
  · obtain ⟨j, hj, rfl⟩ := List.mem_map.1 hx
    have hj := List.mem_range.1 hj
    exact ⟨hj, h1 j hj⟩
  · obtain ⟨L, hL, rfl⟩ := List.mem_map.1 hx
    exact ⟨right_more h2 h3 (List.all_eq_true.1 ha L hL), hf L hL⟩
theorem told_len (l : List Int) (M : List (List Pg.Op)) : (told l M).length = 13 + M.length := by simp [told]

theorem read_told {w : World} {c : Cf} {M : List (List Pg.Op)} (hM : M.length = c.pn) (hl : M.length ≤ 20) (h : Ad.right c = true) (ha : Pg.allB M c.nodes (c.pn : Int) = true) (hf : ∀ L ∈ M, ∀ o ∈ L, o.Fit) {E : ByteArray} (hE : E.data.toList = cfgT (numsL c) M) (hv : Env w) :
    Calls Tryd.prog 8 #[.string E] w fun e w' => ∃ q m, e = .returned (.tuple #[.agg (mk (numsL c) q c.pn m).arr, .int .i64 0, .int .i64 0]) ∧ Progs w' (.slice q c.pn m) M ∧ Kept w w' := by
  have hr := runs_told c M
  refine (read_any (told (numsL c) M) (told_ok h ha hf) (by rw [told_len]; omega) E (hE.trans (told_txt _ _).symm) w hv).mono ?_
  rintro e w' (⟨s, q, n, m, h1, h2, h3, h4, rfl, h5, h6⟩ | ⟨s, q, n, m, h1, h2, h3, h4, h5⟩ | ⟨i, x, s, h1, h2, h3, -, -⟩)
  · rw [hr] at h1
    injection h1 with h1
    subst h1
    have hn : n = c.pn := h2.trans hM
    subst hn
    exact ⟨q, m, rfl, h5, h6⟩
  · exfalso
    rw [hr] at h1
    injection h1 with h1
    subst h1
    have hn : n = c.pn := h2.trans hM
    subst hn
    have e1 : Ad.right (mk (numsL c) q c.pn m) = Ad.right c := rfl
    have e2 : (numsL c).getD 0 0 = c.nodes := rfl
    simp only [e1, e2, h, ha, Bool.and_self] at h3
    cases h3
  · exact (no_fault hr h1 h2 h3).elim

set_option maxRecDepth 100000 in
set_option maxHeartbeats 8000000 in
theorem back_any {w : World} {c : Cf} {M : List (List Pg.Op)} (hv : Progs w (.slice c.pa c.pn c.pc) M) (hf : ∀ L ∈ M, ∀ o ∈ L, o.Fit) (hn : ∀ n ∈ numsL c, Ad.Wd n) (hE : Env w) :
    Calls Tryd.prog 3 #[.agg c.arr] w fun e w' => e = .returned (.bool true) ∧ Kept w w' := by
  obtain ⟨W, hW⟩ : ∃ W, w.alloc (.cells c.arr 24) = W := ⟨_, rfl⟩
  have hkW : Kept w W := by rw [← hW]; exact Kept.one _ _
  have hbW : W.heap[w.heap.size]? = some (.cells c.arr 24 (0, 0)) := by rw [← hW]; exact blk_new _ _
  have hM : M.length = c.pn := by obtain ⟨_, _, _, e, hN, _⟩ := hv.slice; cases e; exact hN
  have HAW := Lib.hid (fun (u : World) (hu : Kept w u) => awake_any (hE.kept hu))
  have HRT := Lib.hid (fun (u : World) => Ad.right_any c u)
  have HAL := Lib.hid (fun (u : World) (hu : Kept w u) => Pg.all_any (c := c) (hv.go hu))
  have HSM := Lib.hid (fun (u : World) (hu : Kept w u) => small_any (c := c) (hv.go hu))
  obtain ⟨z1, hz1⟩ : ∃ z, Ad.right c = z := ⟨_, rfl⟩
  obtain ⟨z2, hz2⟩ : ∃ z, Pg.allB M c.nodes (c.pn : Int) = z := ⟨_, rfl⟩
  obtain ⟨z3, hz3⟩ : ∃ z, smallB M = z := ⟨_, rfl⟩
  obtain ⟨A, hA⟩ : ∃ A, c.arr = A := ⟨_, rfl⟩
  have sA : A.size = 14 := by rw [← hA]; rfl
  rw [hz1, hA] at HRT
  rw [hz2, hA] at HAL
  rw [hz3, hA] at HSM
  rw [hA] at hW hbW
  have HK := Lib.hid (Kept.refl W)
  have lA := load_cfa hbW sA
  have HW := Lib.hid hW
  have HKW := Lib.hid hkW
  have HB := Lib.hid hbW
  by_cases hz : z1 = true ∧ z2 = true ∧ z3 = true
  · obtain ⟨rfl, rfl, rfl⟩ := hz
    have hl20 : M.length ≤ 20 ∧ ∀ L ∈ M, L.length ≤ 20 := by
      unfold smallB at hz3
      rw [Bool.and_eq_true] at hz3
      exact ⟨of_decide_eq_true hz3.1, fun L hL => of_decide_eq_true (List.all_eq_true.1 hz3.2 L hL)⟩
    obtain ⟨E, hEE⟩ : ∃ E : ByteArray, Hid (E.data.toList = cfgT (numsL c) M) := ⟨⟨(cfgT (numsL c) M).toArray⟩, rfl⟩
    have HTX := Lib.hid (fun (u : World) (hu : Kept w u) => text_any (hv.go hu) (by omega) (fun L hL => by have := hl20.2 L hL; omega) hf hn E hEE (hE.kept hu).tab)
    have HRD := Lib.hid (fun (u : World) (hu : Kept w u) => read_told hM hl20.1 hz1 hz2 hf hEE.out (hE.kept hu))
    have HSS := Lib.hid (fun (u : World) (q : Option Addr) (m : Nat) (hu : Kept w u) (hp : Progs u (.slice q c.pn m) M) => same_any (w := u) (a := c) (b := Su.mk (numsL c) q c.pn m) (hv.go hu) hp rfl)
    rw [hA] at HTX HSS ⊢
    clear hv hf hn hE hW hkW hbW hA hz1 hz2 hz3 hl20 hEE hM
    go_enter Tryd.func3, Tryd.ntmps3
    go_upto_region 1 with fail
    rw [HW.out]
    go_upto_region 4 with (first
      | (refine load_l 24 (.tmp 1) rfl _ rfl rfl (.agg A) lA ?_)
      | (go_at_call 4; refine (HRT.out _).mono ?_; rintro e w1 ⟨rfl, hk⟩; have HK := Lib.hid (HK.out.trans hk); have lA := load_cfa (kept_at HK.out HB.out) sA; clear hk)
      | (go_at_call 5; refine (HAL.out _ (HKW.out.trans HK.out)).mono ?_; rintro e w2 ⟨rfl, hk⟩; have HK := Lib.hid (HK.out.trans hk); have lA := load_cfa (kept_at HK.out HB.out) sA; clear hk)
      | (go_at_call 6; refine (HSM.out _ (HKW.out.trans HK.out)).mono ?_; rintro e w3 ⟨rfl, hk⟩; have HK := Lib.hid (HK.out.trans hk); have lA := load_cfa (kept_at HK.out HB.out) sA; clear hk)
      | (go_at_call 9; refine (HTX.out _ (HKW.out.trans HK.out)).mono ?_; rintro e w4 ⟨rfl, hk⟩; have HK := Lib.hid (HK.out.trans hk); clear hk)
      | (go_at_call 8; refine (HRD.out _ (HKW.out.trans HK.out)).mono ?_; rintro e w5 ⟨q, m, rfl, hp, hk⟩; obtain ⟨D, hD⟩ : ∃ D, (Su.mk (numsL c) q c.pn m).arr = D := ⟨_, rfl⟩; rw [hD]; have sD : D.size = 14 := (by rw [← hD]; rfl); have oD : D.all (·.oneCell') = true := (by rw [← hD]; exact arr_one _); have HD := Lib.hid (And.intro hp hD); have HK := Lib.hid (HK.out.trans hk); clear hp hk hD)
      | (refine Ad.store_new rfl 24 (.tmp 3) (.tmp 24) rfl w5.heap.size D rfl rfl w5 _ rfl 14 info_cf sD rfl oD ?_))
    obtain ⟨u6, hu6⟩ : ∃ u6, w5.alloc (.cells D 24) = u6 := ⟨_, rfl⟩
    rw [hu6]
    have hk56 : Kept w5 u6 := by rw [← hu6]; exact Kept.one _ _
    have hd6 : u6.heap[w5.heap.size]? = some (.cells D 24 (0, 0)) := by rw [← hu6]; exact blk_new _ _
    have H6 := Lib.hid (HK.out.trans hk56)
    have lA6 := load_cfa (kept_at H6.out HB.out) sA
    have lD6 := load_cfa hd6 sD
    have HS6 := Lib.hid (HSS.out u6 q m (HKW.out.trans H6.out) (HD.out.1.go hk56))
    rw [HD.out.2] at HS6
    clear hk56 hd6 hu6 lA
    go_wp2_with (first
      | (refine load_l 24 (.tmp 1) rfl _ rfl rfl (.agg A) lA6 ?_)
      | (refine load_l 24 (.tmp 3) rfl _ rfl rfl (.agg D) lD6 ?_)
      | (go_at_call 10; refine HS6.out.mono ?_; rintro e w7 ⟨rfl, hk⟩; have H7 := Lib.hid (H6.out.trans hk); clear hk)
      | (go_at_call 7; refine (HAW.out _ (HKW.out.trans H7.out)).mono ?_; rintro e w8 ⟨rfl, hk⟩; have H8 := Lib.hid (H7.out.trans hk); clear hk))
    go_ret
    exact ⟨rfl, HKW.out.trans H8.out⟩
  · have hz' : z1 = false ∨ (z1 = true ∧ z2 = false) ∨ (z1 = true ∧ z2 = true ∧ z3 = false) := by
      cases z1 <;> cases z2 <;> cases z3 <;> simp_all
    rw [hA]
    clear hv hf hn hE hW hkW hbW hA hz1 hz2 hz3 hM hz
    rcases hz' with rfl | ⟨rfl, rfl⟩ | ⟨rfl, rfl, rfl⟩
    · go_enter Tryd.func3, Tryd.ntmps3
      go_upto_region 1 with fail
      rw [HW.out]
      go_wp2_with (first
        | (refine load_l 24 (.tmp 1) rfl _ rfl rfl (.agg A) lA ?_)
        | (go_at_call 4; refine (HRT.out _).mono ?_; rintro e w1 ⟨rfl, hk⟩; have HK := Lib.hid (HK.out.trans hk); have lA := load_cfa (kept_at HK.out HB.out) sA; clear hk)
        | (go_at_call 5; refine (HAL.out _ (HKW.out.trans HK.out)).mono ?_; rintro e w2 ⟨rfl, hk⟩; have HK := Lib.hid (HK.out.trans hk); have lA := load_cfa (kept_at HK.out HB.out) sA; clear hk)
        | (go_at_call 6; refine (HSM.out _ (HKW.out.trans HK.out)).mono ?_; rintro e w3 ⟨rfl, hk⟩; have HK := Lib.hid (HK.out.trans hk); have lA := load_cfa (kept_at HK.out HB.out) sA; clear hk)
        | (go_at_call 7; refine (HAW.out _ (HKW.out.trans HK.out)).mono ?_; rintro e w4 ⟨rfl, hk⟩; have HK := Lib.hid (HK.out.trans hk); clear hk))
      go_ret
      exact ⟨rfl, HKW.out.trans HK.out⟩
    · go_enter Tryd.func3, Tryd.ntmps3
      go_upto_region 1 with fail
      rw [HW.out]
      go_wp2_with (first
        | (refine load_l 24 (.tmp 1) rfl _ rfl rfl (.agg A) lA ?_)
        | (go_at_call 4; refine (HRT.out _).mono ?_; rintro e w1 ⟨rfl, hk⟩; have HK := Lib.hid (HK.out.trans hk); have lA := load_cfa (kept_at HK.out HB.out) sA; clear hk)
        | (go_at_call 5; refine (HAL.out _ (HKW.out.trans HK.out)).mono ?_; rintro e w2 ⟨rfl, hk⟩; have HK := Lib.hid (HK.out.trans hk); have lA := load_cfa (kept_at HK.out HB.out) sA; clear hk)
        | (go_at_call 6; refine (HSM.out _ (HKW.out.trans HK.out)).mono ?_; rintro e w3 ⟨rfl, hk⟩; have HK := Lib.hid (HK.out.trans hk); have lA := load_cfa (kept_at HK.out HB.out) sA; clear hk)
        | (go_at_call 7; refine (HAW.out _ (HKW.out.trans HK.out)).mono ?_; rintro e w4 ⟨rfl, hk⟩; have HK := Lib.hid (HK.out.trans hk); clear hk))
      go_ret
      exact ⟨rfl, HKW.out.trans HK.out⟩
    · go_enter Tryd.func3, Tryd.ntmps3
      go_upto_region 1 with fail
      rw [HW.out]
      go_wp2_with (first
        | (refine load_l 24 (.tmp 1) rfl _ rfl rfl (.agg A) lA ?_)
        | (go_at_call 4; refine (HRT.out _).mono ?_; rintro e w1 ⟨rfl, hk⟩; have HK := Lib.hid (HK.out.trans hk); have lA := load_cfa (kept_at HK.out HB.out) sA; clear hk)
        | (go_at_call 5; refine (HAL.out _ (HKW.out.trans HK.out)).mono ?_; rintro e w2 ⟨rfl, hk⟩; have HK := Lib.hid (HK.out.trans hk); have lA := load_cfa (kept_at HK.out HB.out) sA; clear hk)
        | (go_at_call 6; refine (HSM.out _ (HKW.out.trans HK.out)).mono ?_; rintro e w3 ⟨rfl, hk⟩; have HK := Lib.hid (HK.out.trans hk); have lA := load_cfa (kept_at HK.out HB.out) sA; clear hk)
        | (go_at_call 7; refine (HAW.out _ (HKW.out.trans HK.out)).mono ?_; rintro e w4 ⟨rfl, hk⟩; have HK := Lib.hid (HK.out.trans hk); clear hk))
      go_ret
      exact ⟨rfl, HKW.out.trans HK.out⟩
end Go.Proofs.YtcoagmkncjonmaaDoor.Su
