/- The law: what an owner does next, to the program and to the document. -/
import Derived.Test.YtplkhinjlgmilaaOwG
import Derived.Test.YtplkhinjlgmilaaOwF
namespace Go.Proofs.Ytplkhinjlgmilaa.Ow
open Go.RowKit Go.Sort Go.Shelf St Blk Eqs
open Go.Proofs.Ytplkhinjlgmilaa.Cl
open Go.Proofs.Ytplkhinjlgmilaa.Ls
open Go.Proofs.Ytplkhinjlgmilaa.Rv
open Go.Proofs.Ytplkhinjlgmilaa.Au (Stab stab_and)
open Go.Proofs.Ytplkhinjlgmilaa.Ad (load_w load_l store_new)
set_option linter.unusedVariables false

/-- whose it is stays, and until when -/
def Keeps (o p : Ow) : Prop := p.kn = o.kn ∧ p.ki = o.ki ∧ p.ks = o.ks ∧ p.ka = o.ka ∧ p.dl = o.dl ∧ p.un = o.un
theorem keeps_self (o : Ow) : Keeps o o := ⟨rfl, rfl, rfl, rfl, rfl, rfl⟩
theorem keeps_next (o : Ow) : Keeps o (nextO o) := ⟨rfl, rfl, rfl, rfl, rfl, rfl⟩
theorem keeps_work (o : Ow) (u : Int) : Keeps o (workO o u) := by unfold workO; split <;> exact ⟨rfl, rfl, rfl, rfl, rfl, rfl⟩
theorem keeps_join (o : Ow) (K : List Cl) : Keeps o (joinO o K).1 ∧ ∃ a b c, (joinO o K).2 = actA a b c := by
  unfold joinO
  split
  · exact ⟨keeps_self o, _, _, _, rfl⟩
  · split
    · exact ⟨keeps_next o, _, _, _, rfl⟩
    · exact ⟨keeps_self o, _, _, _, rfl⟩
theorem step_keeps (o : Ow) (K : List Cl) (L : List Pg.Op) : Keeps o (stepO o K L).1 ∧ ∃ a b c, (stepO o K L).2 = actA a b c := by
  unfold stepO
  split
  · exact ⟨keeps_self o, _, _, _, rfl⟩
  · simp only
    split
    · exact ⟨keeps_work o _, _, _, _, rfl⟩
    split
    · exact ⟨keeps_next o, _, _, _, rfl⟩
    split
    · exact keeps_join o K
    split
    · exact ⟨keeps_next o, _, _, _, rfl⟩
    split
    · exact ⟨keeps_self o, _, _, _, rfl⟩
    split
    · exact ⟨keeps_self o, _, _, _, rfl⟩
    split
    · exact ⟨keeps_self o, _, _, _, rfl⟩
    · exact ⟨keeps_self o, _, _, _, rfl⟩

set_option maxRecDepth 100000 in
set_option maxHeartbeats 4000000 in
theorem steps_any {w : World} {q : Option Addr} {N c : Nat} {K : List Cl} {v : Value} {L : List Pg.Op} (o : Ow) (hv : Cls w (.slice q N c) K) (hL : Pg.Ops w v L) :
    Calls Try.prog 4 #[.agg (o.arr q N c), v] w fun e w' => e = .returned (.bool true) ∧ Kept w w' := by
  have hN : K.length = N := by obtain ⟨p, cap, e⟩ := hv.shape; cases e; rfl
  obtain ⟨p, M, cap, rfl, hM, hmM⟩ := hL.slice
  obtain ⟨A, hA⟩ : ∃ A, o.arr q N c = A := ⟨_, rfl⟩
  have sA : A.size = 19 := by rw [← hA]; rfl
  obtain ⟨W, hW⟩ : ∃ W, w.alloc (.cells A 28) = W := ⟨_, rfl⟩
  have hb : Bl w W [(A, 28)] := hW ▸ Bl.one w A _
  have h18 : W.cell? ⟨w.heap.size, 18, none⟩ = some (.slice q N c) := (hb.cell 0 18 rfl).trans (show A[18]? = _ by rw [← hA]; rfl)
  have h17 : W.cell? ⟨w.heap.size, 17, none⟩ = some (.int .i64 o.dn) := (hb.cell 0 17 rfl).trans (show A[17]? = _ by rw [← hA]; rfl)
  have la := load_row (hb.blk 0 rfl) sA
  have HW := Lib.hid hW
  have HB := Lib.hid hb
  have HAW := Lib.hid awake_any
  rw [hA]
  obtain ⟨dn, hdn⟩ : ∃ d, o.dn = d := ⟨_, rfl⟩
  rw [hdn] at h17
  by_cases hok : N ≤ 30 ∧ M ≤ 30 ∧ 0 ≤ dn ∧ dn ≤ 1000000
  · obtain ⟨g1, g2, g3, g4⟩ := hok
    have e1 : ¬ 30 < (N : Int) := by omega
    have e2 : ¬ 30 < (M : Int) := by omega
    have e3 : ¬ dn < 0 := by omega
    have e4 : ¬ 1000000 < dn := by omega
    have hd2 : 0 ≤ o.dn ∧ o.dn ≤ 2000000 := by omega
    have CM := Lib.hid (mine_any o (hv.go hb.kept) (by omega))
    have CS := Lib.hid (fun (u : World) (hu : Kept w u) (q1 : Option Addr) (c1 : Nat) (hm : Mc u (.slice q1 N c1) K) => step_any (w := u) o (mc_cls hm (by omega)) (by omega) (hL.go hu) hd2)
    have CR := Lib.hid (fun (u : World) (hu : Kept w u) => rstep_any (w := u) o (hv.go hu) (by omega) (hL.go hu) hd2)
    have HV := Lib.hid hv
    have HN := Lib.hid hN
    have HN30 := Lib.hid (show N ≤ 1000000 by omega)
    rw [hA] at CM CR
    have HSK := Lib.hid (step_keeps o K L)
    obtain ⟨r, hr⟩ : ∃ r, stepO o K L = r := ⟨_, rfl⟩
    rw [hr] at CS CR HSK
    obtain ⟨r1, r2⟩ := r
    simp only at HSK
    obtain ⟨⟨m1, m2, m3, m4, m5, m6⟩, y0, y1, y2, hy⟩ := HSK.out
    subst hy
    have HA := Lib.hid hA
    clear hv hb hW hL hM hmM hr hd2 g1 g2 g3 g4 hN hA HSK
    go_enter Try.func4, Try.ntmps4
    go_upto_region 1 with fail
    rw [HW.out]
    go_upto_region 4 with (first
      | (refine load_l 28 (.tmp 2) rfl _ rfl rfl (.agg A) la ?_)
      | (go_at_call 9; refine CM.out.mono ?_; rintro e u1 ⟨q1, n1, c1, rfl, s1, -, k1⟩; obtain rfl : n1 = N := ((mc_len s1).symm.trans HN.out); have S1 := Lib.hid (And.intro s1 (HB.out.kept.trans k1)); have S1W := Lib.hid k1; clear s1 k1)
      | (go_at_call 30; refine (CS.out _ S1.out.2 _ _ S1.out.1).mono ?_; rintro e u3 ⟨q3, c3, rfl, s3, k3⟩; have hB3 := Bl.two u3 zeroA zact 34 56; have S3 := Lib.hid (And.intro s3 (S1.out.2.trans k3)); have S3W := Lib.hid (S1W.out.trans k3); clear s3 k3)
      | (refine wpList_store_row rfl 34 (.tmp 5) (.tmp 34) rfl u3.heap.size (r1.arr q3 n1 c3) rfl rfl 34 zeroA (hB3.blk 0 rfl) info_ow rfl (arr_one _ _ _ _) ?_)
      | (refine wpList_store_row rfl 56 (.tmp 6) (.tmp 35) rfl (u3.heap.size + 1) (actA y0 y1 y2) rfl rfl 56 zact ((hB3.row 0 rfl (r1.arr q3 n1 c3)).blk 1 rfl) info_act rfl (act_one _ _ _) ?_))
    have hb3 := ((Bl.two u3 zeroA zact 34 56).row 0 rfl (r1.arr q3 n1 c3)).row 1 rfl (actA y0 y1 y2)
    obtain ⟨V3, hV3⟩ : ∃ V, (World.setRow (World.setRow ((u3.alloc (.cells zeroA 34)).alloc (.cells zact 56)) (u3.heap.size + 0) (r1.arr q3 n1 c3)) (u3.heap.size + 1) (actA y0 y1 y2)) = V := ⟨_, rfl⟩
    rw [hV3] at hb3
    rw [show (World.setRow (World.setRow ((u3.alloc (.cells #[.int .i64 0, .int .i64 0, .int .i64 0, .int .i64 0, .int .i64 0, .int .i64 0, .int .i64 0, .int .i64 0, .int .i64 0, .int .i64 0, .int .i64 0, .int .i64 0, .int .i64 0, .int .i64 0, .int .i64 0, .int .i64 0, .int .i64 0, .int .i64 0, .slice none 0 0] 34)).alloc (.cells #[.int .i64 0, .int .i64 0, .int .i64 0] 56)) u3.heap.size (r1.arr q3 n1 c3)) (u3.heap.size + 1) (actA y0 y1 y2)) = V3 from hV3]
    have kV3 : Kept w V3 := S3.out.2.trans hb3.kept
    have hA0 : V3.heap[w.heap.size]? = some (.cells A 28 (0, 0)) := kept_at (S3W.out.trans hb3.kept) (HB.out.blk 0 rfl)
    have la3 := load_row hA0 sA
    have H3 := Lib.hid (And.intro hb3 (And.intro kV3 (And.intro hA0 (S3.out.1.keep hb3.kept))))
    clear hV3 hB3 hb3 kV3 hA0
    go_upto_region 5 with (first
      | (refine load_l 28 (.tmp 2) rfl _ rfl rfl (.agg A) la3 ?_)
      | (go_at_call 31; refine (CR.out _ H3.out.2.1).mono ?_; rintro e u5 ⟨rfl, k5⟩; have hB5 := Bl.two u5 zeroA zact 28 59; have S5 := Lib.hid k5; clear k5)
      | (refine wpList_store_row rfl 28 (.tmp 7) (.tmp 40) rfl u5.heap.size (r1.arr q n1 c) rfl rfl 28 zeroA (hB5.blk 0 rfl) info_row rfl (arr_one _ _ _ _) ?_)
      | (refine wpList_store_row rfl 59 (.tmp 8) (.tmp 41) rfl (u5.heap.size + 1) (actA y0 y1 y2) rfl rfl 59 zact ((hB5.row 0 rfl (r1.arr q n1 c)).blk 1 rfl) info_ract rfl (act_one _ _ _) ?_))
    have hb5 := ((Bl.two u5 zeroA zact 28 59).row 0 rfl (r1.arr q n1 c)).row 1 rfl (actA y0 y1 y2)
    obtain ⟨V5, hV5⟩ : ∃ V, (World.setRow (World.setRow ((u5.alloc (.cells zeroA 28)).alloc (.cells zact 59)) (u5.heap.size + 0) (r1.arr q n1 c)) (u5.heap.size + 1) (actA y0 y1 y2)) = V := ⟨_, rfl⟩
    rw [hV5] at hb5
    rw [show (World.setRow (World.setRow ((u5.alloc (.cells #[.int .i64 0, .int .i64 0, .int .i64 0, .int .i64 0, .int .i64 0, .int .i64 0, .int .i64 0, .int .i64 0, .int .i64 0, .int .i64 0, .int .i64 0, .int .i64 0, .int .i64 0, .int .i64 0, .int .i64 0, .int .i64 0, .int .i64 0, .int .i64 0, .slice none 0 0] 28)).alloc (.cells #[.int .i64 0, .int .i64 0, .int .i64 0] 59)) u5.heap.size (r1.arr q n1 c)) (u5.heap.size + 1) (actA y0 y1 y2)) = V5 from hV5]
    obtain ⟨B5, hB5'⟩ : ∃ B, u3.heap.size = B := ⟨_, rfl⟩
    obtain ⟨B7, hB7'⟩ : ∃ B, u5.heap.size = B := ⟨_, rfl⟩
    have k35 : Kept V3 V5 := S5.out.trans hb5.kept
    have z5 : V5.heap[B5]? = some (.cells (r1.arr q3 n1 c3) 34 (0, 0)) := by rw [← hB5']; exact kept_at k35 (H3.out.1.blk 0 rfl)
    have z6 : V5.heap[B5 + 1]? = some (.cells (actA y0 y1 y2) 56 (0, 0)) := by rw [← hB5']; exact kept_at k35 (H3.out.1.blk 1 rfl)
    have z7 : V5.heap[B7]? = some (.cells (r1.arr q n1 c) 28 (0, 0)) := by rw [← hB7']; exact hb5.blk 0 rfl
    have z8 : V5.heap[B7 + 1]? = some (.cells (actA y0 y1 y2) 59 (0, 0)) := by rw [← hB7']; exact hb5.blk 1 rfl
    have z0 := kept_at k35 H3.out.2.2.1
    have zm := H3.out.2.2.2.keep k35
    have zk : Kept w V5 := H3.out.2.1.trans k35
    rw [hB5', hB7']
    obtain ⟨S, hS⟩ : ∃ S : World → Prop, S = fun u => Kept w u ∧ u.heap[w.heap.size]? = some (.cells A 28 (0, 0)) ∧ u.heap[B5]? = some (.cells (r1.arr q3 n1 c3) 34 (0, 0)) ∧ u.heap[B5 + 1]? = some (.cells (actA y0 y1 y2) 56 (0, 0)) ∧ u.heap[B7]? = some (.cells (r1.arr q n1 c) 28 (0, 0)) ∧ u.heap[B7 + 1]? = some (.cells (actA y0 y1 y2) 59 (0, 0)) ∧ Mc u (.slice q3 n1 c3) K := ⟨_, rfl⟩
    have hSt : Stab S := by
      rw [hS]
      exact fun u u' h k => ⟨h.1.trans k, kept_at k h.2.1, kept_at k h.2.2.1, kept_at k h.2.2.2.1, kept_at k h.2.2.2.2.1, kept_at k h.2.2.2.2.2.1, h.2.2.2.2.2.2.keep k⟩
    have hSV : S V5 := by rw [hS]; exact ⟨zk, z0, z5, z6, z7, z8, zm⟩
    have GS := Lib.hid (fun (u : World) (h : S u) => (by rw [hS] at h; exact h : Kept w u ∧ u.heap[w.heap.size]? = some (.cells A 28 (0, 0)) ∧ u.heap[B5]? = some (.cells (r1.arr q3 n1 c3) 34 (0, 0)) ∧ u.heap[B5 + 1]? = some (.cells (actA y0 y1 y2) 56 (0, 0)) ∧ u.heap[B7]? = some (.cells (r1.arr q n1 c) 28 (0, 0)) ∧ u.heap[B7 + 1]? = some (.cells (actA y0 y1 y2) 59 (0, 0)) ∧ Mc u (.slice q3 n1 c3) K))
    obtain ⟨D5, hD5⟩ : ∃ D, r1.arr q3 n1 c3 = D := ⟨_, rfl⟩
    obtain ⟨D7, hD7⟩ : ∃ D, r1.arr q n1 c = D := ⟨_, rfl⟩
    have CT := Lib.hid (fun (u : World) (h : S u) => theirs_any r1 (mc_cls (GS.out u h).2.2.2.2.2.2 (by rw [HN.out]; omega)) (by rw [HN.out]; omega))
    have HKB := Lib.hid (And.intro m1 (And.intro m2 (And.intro m3 (And.intro m4 (And.intro m5 m6)))))
    clear hS hV5 hB5 hb5 z0 z5 z6 z7 z8 zm zk k35 m1 m2 m3 m4 m5 m6 la la3 hB5' hB7' hD5 hD7 e1 e2 e3 e4 h17 h18
    refine Au.region (S) (by kernel_rfl) (hSt _ _ hSV (Kept.refl _).drew) ?_
    refine Au.take 0 (some 42) rfl rfl (by kernel_rfl) (by kernel_rfl) (by kernel_rfl) (fun _ _ _ h => h) hSt (Au.yq_load 34 (.tmp 5) rfl _ rfl (by rfl) (fun u hu => load_ow (GS.out u hu).2.2.1 rfl)) ?_
    simp only [Act.put, List.setIfInBounds_toArray, List.set_cons_zero, List.set_cons_succ]
    refine Au.take 2 (some 44) rfl rfl (by kernel_rfl) (by kernel_rfl) (by kernel_rfl) (fun _ _ _ h => h) hSt (Au.yq_load 28 (.tmp 7) rfl _ rfl (by rfl) (fun u hu => load_row (GS.out u hu).2.2.2.2.1 rfl)) ?_
    simp only [Act.put, List.setIfInBounds_toArray, List.set_cons_zero, List.set_cons_succ]
    refine Au.step 1 rfl (by kernel_rfl) (fun w1 hw1 K1 hK1 => ?_)
    rw [if_pos (by rfl)]
    go_simp
    refine (CT.out w1 hw1).mono ?_
    rintro e w2 ⟨q4, n4, c4, rfl, s4, -, k4⟩
    go_wp2_with fail
    refine hK1.out (fun u => S u ∧ Rc u (.slice q4 n4 c4) K) _ _ ⟨hSt _ _ hw1 k4, s4⟩ (stab_and hSt (fun u u' h k => h.keep k)) (fun u hu => hu.1) ?_
    clear hK1 K1 s4 k4 hw1
    have hSt2 : Stab (fun u => S u ∧ Rc u (.slice q4 n4 c4) K) := stab_and hSt (fun u u' h k => h.keep k)
    have CE := Lib.hid (fun (u : World) (h : S u ∧ Rc u (.slice q4 n4 c4) K) => (by have := rsame_any r1 r1 (rc_cls h.2 (by rw [HN.out]; exact HN30.out)) (HV.out.go (GS.out u h.1).1); rw [sameO_self] at this; exact this : Calls Try.prog 22 #[.agg (r1.arr q4 n4 c4), .agg (r1.arr q n1 c)] u fun e w' => e = .returned (.bool true) ∧ Kept u w'))
    refine Au.take 3 (some 45) rfl rfl (by kernel_rfl) (by kernel_rfl) (by kernel_rfl) (fun _ _ _ h => h) hSt2 (Au.yq_call 22 _ (by rfl) (fun u => by go_simp) (fun u hu => CE.out u hu)) ?_
    simp only [Act.put, List.setIfInBounds_toArray, List.set_cons_zero, List.set_cons_succ]
    refine Au.take 4 (some 46) (v := ?_) rfl rfl (by kernel_rfl) (by kernel_rfl) (by kernel_rfl) (fun _ _ _ h => h) hSt2 (Au.yq_run (by rfl) (fun u hu => ?_)) ?_
    rotate_left
    · (clear hu; go_simp; try with_reducible rfl)
    simp only [Act.put, List.setIfInBounds_toArray, List.set_cons_zero, List.set_cons_succ]
    refine Au.take 5 (some 47) (v := ?_) rfl rfl (by kernel_rfl) (by kernel_rfl) (by kernel_rfl) (fun _ _ _ h => h) hSt2 (Au.yq_run (by rfl) (fun u hu => ?_)) ?_
    rotate_left
    · (clear hu; go_simp; try with_reducible rfl)
    simp only [Act.put, List.setIfInBounds_toArray, List.set_cons_zero, List.set_cons_succ]
    refine Au.take 6 (some 48) rfl rfl (by kernel_rfl) (by kernel_rfl) (by kernel_rfl) (fun _ _ _ h => h) hSt2 (Au.yq_load 3 (.tmp 47) rfl _ rfl (by rfl) (fun u hu => Ad.run_loadi (blk_cell (GS.out u hu.1).2.2.2.1 0))) ?_
    simp only [Act.put, List.setIfInBounds_toArray, List.set_cons_zero, List.set_cons_succ]
    refine Au.take 7 (some 49) (v := ?_) rfl rfl (by kernel_rfl) (by kernel_rfl) (by kernel_rfl) (fun _ _ _ h => h) hSt2 (Au.yq_run (by rfl) (fun u hu => ?_)) ?_
    rotate_left
    · (clear hu; go_simp; try with_reducible rfl)
    simp only [Act.put, List.setIfInBounds_toArray, List.set_cons_zero, List.set_cons_succ]
    refine Au.take 8 (some 50) rfl rfl (by kernel_rfl) (by kernel_rfl) (by kernel_rfl) (fun _ _ _ h => h) hSt2 (Au.yq_load 3 (.tmp 49) rfl _ rfl (by rfl) (fun u hu => Ad.run_loadi (blk_cell (GS.out u hu.1).2.2.2.2.2.1 0))) ?_
    simp only [Act.put, List.setIfInBounds_toArray, List.set_cons_zero, List.set_cons_succ]
    refine Au.take 9 (some 51) (v := ?_) rfl rfl (by kernel_rfl) (by kernel_rfl) (by kernel_rfl) (fun _ _ _ h => h) hSt2 (Au.yq_run (by rfl) (fun u hu => ?_)) ?_
    rotate_left
    · (clear hu; go_simp; try with_reducible rfl)
    simp only [Act.put, List.setIfInBounds_toArray, List.set_cons_zero, List.set_cons_succ]
    refine Au.take 10 (some 52) (v := ?_) rfl rfl (by kernel_rfl) (by kernel_rfl) (by kernel_rfl) (fun _ _ _ h => h) hSt2 (Au.yq_run (by rfl) (fun u hu => ?_)) ?_
    rotate_left
    · (clear hu; go_simp; try with_reducible rfl)
    simp only [Act.put, List.setIfInBounds_toArray, List.set_cons_zero, List.set_cons_succ]
    refine Au.take 11 (some 53) (v := ?_) rfl rfl (by kernel_rfl) (by kernel_rfl) (by kernel_rfl) (fun _ _ _ h => h) hSt2 (Au.yq_run (by rfl) (fun u hu => ?_)) ?_
    rotate_left
    · (clear hu; go_simp; try with_reducible rfl)
    simp only [Act.put, List.setIfInBounds_toArray, List.set_cons_zero, List.set_cons_succ]
    refine Au.take 12 (some 54) (v := ?_) rfl rfl (by kernel_rfl) (by kernel_rfl) (by kernel_rfl) (fun _ _ _ h => h) hSt2 (Au.yq_run (by rfl) (fun u hu => ?_)) ?_
    rotate_left
    · (clear hu; go_simp; try with_reducible rfl)
    simp only [Act.put, List.setIfInBounds_toArray, List.set_cons_zero, List.set_cons_succ]
    refine Au.take 13 (some 55) rfl rfl (by kernel_rfl) (by kernel_rfl) (by kernel_rfl) (fun _ _ _ h => h) hSt2 (Au.yq_load 3 (.tmp 54) rfl _ rfl (by rfl) (fun u hu => Ad.run_loadi (blk_cell (GS.out u hu.1).2.2.2.1 1))) ?_
    simp only [Act.put, List.setIfInBounds_toArray, List.set_cons_zero, List.set_cons_succ]
    refine Au.take 14 (some 56) (v := ?_) rfl rfl (by kernel_rfl) (by kernel_rfl) (by kernel_rfl) (fun _ _ _ h => h) hSt2 (Au.yq_run (by rfl) (fun u hu => ?_)) ?_
    rotate_left
    · (clear hu; go_simp; try with_reducible rfl)
    simp only [Act.put, List.setIfInBounds_toArray, List.set_cons_zero, List.set_cons_succ]
    refine Au.take 15 (some 57) rfl rfl (by kernel_rfl) (by kernel_rfl) (by kernel_rfl) (fun _ _ _ h => h) hSt2 (Au.yq_load 3 (.tmp 56) rfl _ rfl (by rfl) (fun u hu => Ad.run_loadi (blk_cell (GS.out u hu.1).2.2.2.2.2.1 1))) ?_
    simp only [Act.put, List.setIfInBounds_toArray, List.set_cons_zero, List.set_cons_succ]
    refine Au.take 16 (some 58) (v := ?_) rfl rfl (by kernel_rfl) (by kernel_rfl) (by kernel_rfl) (fun _ _ _ h => h) hSt2 (Au.yq_run (by rfl) (fun u hu => ?_)) ?_
    rotate_left
    · (clear hu; go_simp; try with_reducible rfl)
    simp only [Act.put, List.setIfInBounds_toArray, List.set_cons_zero, List.set_cons_succ]
    refine Au.take 17 (some 59) (v := ?_) rfl rfl (by kernel_rfl) (by kernel_rfl) (by kernel_rfl) (fun _ _ _ h => h) hSt2 (Au.yq_run (by rfl) (fun u hu => ?_)) ?_
    rotate_left
    · (clear hu; go_simp; try with_reducible rfl)
    simp only [Act.put, List.setIfInBounds_toArray, List.set_cons_zero, List.set_cons_succ]
    refine Au.take 18 (some 60) (v := ?_) rfl rfl (by kernel_rfl) (by kernel_rfl) (by kernel_rfl) (fun _ _ _ h => h) hSt2 (Au.yq_run (by rfl) (fun u hu => ?_)) ?_
    rotate_left
    · (clear hu; go_simp; try with_reducible rfl)
    simp only [Act.put, List.setIfInBounds_toArray, List.set_cons_zero, List.set_cons_succ]
    refine Au.take 19 (some 61) (v := ?_) rfl rfl (by kernel_rfl) (by kernel_rfl) (by kernel_rfl) (fun _ _ _ h => h) hSt2 (Au.yq_run (by rfl) (fun u hu => ?_)) ?_
    rotate_left
    · (clear hu; go_simp; try with_reducible rfl)
    simp only [Act.put, List.setIfInBounds_toArray, List.set_cons_zero, List.set_cons_succ]
    refine Au.take 20 (some 62) rfl rfl (by kernel_rfl) (by kernel_rfl) (by kernel_rfl) (fun _ _ _ h => h) hSt2 (Au.yq_load 3 (.tmp 61) rfl _ rfl (by rfl) (fun u hu => Ad.run_loadi (blk_cell (GS.out u hu.1).2.2.2.1 2))) ?_
    simp only [Act.put, List.setIfInBounds_toArray, List.set_cons_zero, List.set_cons_succ]
    refine Au.take 21 (some 63) (v := ?_) rfl rfl (by kernel_rfl) (by kernel_rfl) (by kernel_rfl) (fun _ _ _ h => h) hSt2 (Au.yq_run (by rfl) (fun u hu => ?_)) ?_
    rotate_left
    · (clear hu; go_simp; try with_reducible rfl)
    simp only [Act.put, List.setIfInBounds_toArray, List.set_cons_zero, List.set_cons_succ]
    refine Au.take 22 (some 64) rfl rfl (by kernel_rfl) (by kernel_rfl) (by kernel_rfl) (fun _ _ _ h => h) hSt2 (Au.yq_load 3 (.tmp 63) rfl _ rfl (by rfl) (fun u hu => Ad.run_loadi (blk_cell (GS.out u hu.1).2.2.2.2.2.1 2))) ?_
    simp only [Act.put, List.setIfInBounds_toArray, List.set_cons_zero, List.set_cons_succ]
    refine Au.take 23 (some 65) (v := ?_) rfl rfl (by kernel_rfl) (by kernel_rfl) (by kernel_rfl) (fun _ _ _ h => h) hSt2 (Au.yq_run (by rfl) (fun u hu => ?_)) ?_
    rotate_left
    · (clear hu; go_simp; try with_reducible rfl)
    simp only [Act.put, List.setIfInBounds_toArray, List.set_cons_zero, List.set_cons_succ]
    refine Au.take 24 (some 66) (v := ?_) rfl rfl (by kernel_rfl) (by kernel_rfl) (by kernel_rfl) (fun _ _ _ h => h) hSt2 (Au.yq_run (by rfl) (fun u hu => ?_)) ?_
    rotate_left
    · (clear hu; go_simp; try with_reducible rfl)
    simp only [Act.put, List.setIfInBounds_toArray, List.set_cons_zero, List.set_cons_succ]
    refine Au.take 25 (some 67) (v := ?_) rfl rfl (by kernel_rfl) (by kernel_rfl) (by kernel_rfl) (fun _ _ _ h => h) hSt2 (Au.yq_run (by rfl) (fun u hu => ?_)) ?_
    rotate_left
    · (clear hu; go_simp; try with_reducible rfl)
    simp only [Act.put, List.setIfInBounds_toArray, List.set_cons_zero, List.set_cons_succ]
    refine Au.take 26 (some 68) (v := ?_) rfl rfl (by kernel_rfl) (by kernel_rfl) (by kernel_rfl) (fun _ _ _ h => h) hSt2 (Au.yq_run (by rfl) (fun u hu => ?_)) ?_
    rotate_left
    · (clear hu; go_simp; try with_reducible rfl)
    simp only [Act.put, List.setIfInBounds_toArray, List.set_cons_zero, List.set_cons_succ]
    refine Au.take 27 (some 69) rfl rfl (by kernel_rfl) (by kernel_rfl) (by kernel_rfl) (fun _ _ _ h => h) hSt2 (Au.yq_load 25 (.tmp 68) rfl _ rfl (by rfl) (fun u hu => load_key (n := o.kn) (i := o.ki) (s := o.ks) (k := o.ka) ((blk_cell (GS.out u hu.1).2.2.1 0).trans (by rw [← HKB.out.1]; rfl)) ((blk_cell (GS.out u hu.1).2.2.1 1).trans (by rw [← HKB.out.2.1]; rfl)) ((blk_cell (GS.out u hu.1).2.2.1 2).trans (by rw [← HKB.out.2.2.1]; rfl)) ((blk_cell (GS.out u hu.1).2.2.1 3).trans (by rw [← HKB.out.2.2.2.1]; rfl)))) ?_
    simp only [Act.put, List.setIfInBounds_toArray, List.set_cons_zero, List.set_cons_succ]
    refine Au.take 28 (some 70) (v := ?_) rfl rfl (by kernel_rfl) (by kernel_rfl) (by kernel_rfl) (fun _ _ _ h => h) hSt2 (Au.yq_run (by rfl) (fun u hu => ?_)) ?_
    rotate_left
    · (clear hu; go_simp; try with_reducible rfl)
    simp only [Act.put, List.setIfInBounds_toArray, List.set_cons_zero, List.set_cons_succ]
    refine Au.take 29 (some 71) rfl rfl (by kernel_rfl) (by kernel_rfl) (by kernel_rfl) (fun _ _ _ h => h) hSt2 (Au.yq_load 25 (.tmp 70) rfl _ rfl (by rfl) (fun u hu => load_key (n := o.kn) (i := o.ki) (s := o.ks) (k := o.ka) ((blk_cell (GS.out u hu.1).2.1 0).trans (by rw [← HA.out]; rfl)) ((blk_cell (GS.out u hu.1).2.1 1).trans (by rw [← HA.out]; rfl)) ((blk_cell (GS.out u hu.1).2.1 2).trans (by rw [← HA.out]; rfl)) ((blk_cell (GS.out u hu.1).2.1 3).trans (by rw [← HA.out]; rfl)))) ?_
    simp only [Act.put, List.setIfInBounds_toArray, List.set_cons_zero, List.set_cons_succ]
    refine Au.take 30 (some 72) (v := ?_) rfl rfl (by kernel_rfl) (by kernel_rfl) (by kernel_rfl) (fun _ _ _ h => h) hSt2 (Au.yq_run (by rfl) (fun u hu => ?_)) ?_
    rotate_left
    · (clear hu; go_simp; try with_reducible rfl)
    simp only [Act.put, List.setIfInBounds_toArray, List.set_cons_zero, List.set_cons_succ]
    refine Au.take 31 (some 73) (v := ?_) rfl rfl (by kernel_rfl) (by kernel_rfl) (by kernel_rfl) (fun _ _ _ h => h) hSt2 (Au.yq_run (by rfl) (fun u hu => ?_)) ?_
    rotate_left
    · (clear hu; go_simp; try with_reducible rfl)
    simp only [Act.put, List.setIfInBounds_toArray, List.set_cons_zero, List.set_cons_succ]
    refine Au.take 32 (some 74) (v := ?_) rfl rfl (by kernel_rfl) (by kernel_rfl) (by kernel_rfl) (fun _ _ _ h => h) hSt2 (Au.yq_run (by rfl) (fun u hu => ?_)) ?_
    rotate_left
    · (clear hu; go_simp; try with_reducible rfl)
    simp only [Act.put, List.setIfInBounds_toArray, List.set_cons_zero, List.set_cons_succ]
    refine Au.take 33 (some 75) (v := ?_) rfl rfl (by kernel_rfl) (by kernel_rfl) (by kernel_rfl) (fun _ _ _ h => h) hSt2 (Au.yq_run (by rfl) (fun u hu => ?_)) ?_
    rotate_left
    · (clear hu; go_simp; try with_reducible rfl)
    simp only [Act.put, List.setIfInBounds_toArray, List.set_cons_zero, List.set_cons_succ]
    refine Au.take 34 (some 76) rfl rfl (by kernel_rfl) (by kernel_rfl) (by kernel_rfl) (fun _ _ _ h => h) hSt2 (Au.yq_load 3 (.tmp 75) rfl _ rfl (by rfl) (fun u hu => Ad.run_loadi (n := o.dl) ((blk_cell (GS.out u hu.1).2.2.1 13).trans (by rw [← HKB.out.2.2.2.2.1]; rfl)))) ?_
    simp only [Act.put, List.setIfInBounds_toArray, List.set_cons_zero, List.set_cons_succ]
    refine Au.take 35 (some 77) (v := ?_) rfl rfl (by kernel_rfl) (by kernel_rfl) (by kernel_rfl) (fun _ _ _ h => h) hSt2 (Au.yq_run (by rfl) (fun u hu => ?_)) ?_
    rotate_left
    · (clear hu; go_simp; try with_reducible rfl)
    simp only [Act.put, List.setIfInBounds_toArray, List.set_cons_zero, List.set_cons_succ]
    refine Au.take 36 (some 78) rfl rfl (by kernel_rfl) (by kernel_rfl) (by kernel_rfl) (fun _ _ _ h => h) hSt2 (Au.yq_load 3 (.tmp 77) rfl _ rfl (by rfl) (fun u hu => Ad.run_loadi (n := o.dl) ((blk_cell (GS.out u hu.1).2.1 13).trans (by rw [← HA.out]; rfl)))) ?_
    simp only [Act.put, List.setIfInBounds_toArray, List.set_cons_zero, List.set_cons_succ]
    refine Au.take 37 (some 79) (v := ?_) rfl rfl (by kernel_rfl) (by kernel_rfl) (by kernel_rfl) (fun _ _ _ h => h) hSt2 (Au.yq_run (by rfl) (fun u hu => ?_)) ?_
    rotate_left
    · (clear hu; go_simp; try with_reducible rfl)
    simp only [Act.put, List.setIfInBounds_toArray, List.set_cons_zero, List.set_cons_succ]
    refine Au.take 38 (some 80) (v := ?_) rfl rfl (by kernel_rfl) (by kernel_rfl) (by kernel_rfl) (fun _ _ _ h => h) hSt2 (Au.yq_run (by rfl) (fun u hu => ?_)) ?_
    rotate_left
    · (clear hu; go_simp; try with_reducible rfl)
    simp only [Act.put, List.setIfInBounds_toArray, List.set_cons_zero, List.set_cons_succ]
    refine Au.take 39 (some 81) (v := ?_) rfl rfl (by kernel_rfl) (by kernel_rfl) (by kernel_rfl) (fun _ _ _ h => h) hSt2 (Au.yq_run (by rfl) (fun u hu => ?_)) ?_
    rotate_left
    · (clear hu; go_simp; try with_reducible rfl)
    simp only [Act.put, List.setIfInBounds_toArray, List.set_cons_zero, List.set_cons_succ]
    refine Au.take 40 (some 82) (v := ?_) rfl rfl (by kernel_rfl) (by kernel_rfl) (by kernel_rfl) (fun _ _ _ h => h) hSt2 (Au.yq_run (by rfl) (fun u hu => ?_)) ?_
    rotate_left
    · (clear hu; go_simp; try with_reducible rfl)
    simp only [Act.put, List.setIfInBounds_toArray, List.set_cons_zero, List.set_cons_succ]
    refine Au.take 41 (some 83) rfl rfl (by kernel_rfl) (by kernel_rfl) (by kernel_rfl) (fun _ _ _ h => h) hSt2 (Au.yq_load 3 (.tmp 82) rfl _ rfl (by rfl) (fun u hu => Ad.run_loadi (n := o.un) ((blk_cell (GS.out u hu.1).2.2.1 14).trans (by rw [← HKB.out.2.2.2.2.2]; rfl)))) ?_
    simp only [Act.put, List.setIfInBounds_toArray, List.set_cons_zero, List.set_cons_succ]
    refine Au.take 42 (some 84) (v := ?_) rfl rfl (by kernel_rfl) (by kernel_rfl) (by kernel_rfl) (fun _ _ _ h => h) hSt2 (Au.yq_run (by rfl) (fun u hu => ?_)) ?_
    rotate_left
    · (clear hu; go_simp; try with_reducible rfl)
    simp only [Act.put, List.setIfInBounds_toArray, List.set_cons_zero, List.set_cons_succ]
    refine Au.take 43 (some 85) rfl rfl (by kernel_rfl) (by kernel_rfl) (by kernel_rfl) (fun _ _ _ h => h) hSt2 (Au.yq_load 3 (.tmp 84) rfl _ rfl (by rfl) (fun u hu => Ad.run_loadi (n := o.un) ((blk_cell (GS.out u hu.1).2.1 14).trans (by rw [← HA.out]; rfl)))) ?_
    simp only [Act.put, List.setIfInBounds_toArray, List.set_cons_zero, List.set_cons_succ]
    refine Au.take 44 (some 86) (v := ?_) rfl rfl (by kernel_rfl) (by kernel_rfl) (by kernel_rfl) (fun _ _ _ h => h) hSt2 (Au.yq_run (by rfl) (fun u hu => ?_)) ?_
    rotate_left
    · (clear hu; go_simp; try with_reducible rfl)
    simp only [Act.put, List.setIfInBounds_toArray, List.set_cons_zero, List.set_cons_succ]
    refine Au.take 45 (some 87) (v := ?_) rfl rfl (by kernel_rfl) (by kernel_rfl) (by kernel_rfl) (fun _ _ _ h => h) hSt2 (Au.yq_run (by rfl) (fun u hu => ?_)) ?_
    rotate_left
    · (clear hu; go_simp; try with_reducible rfl)
    simp only [Act.put, List.setIfInBounds_toArray, List.set_cons_zero, List.set_cons_succ]
    refine Au.take 46 (some 88) (v := ?_) rfl rfl (by kernel_rfl) (by kernel_rfl) (by kernel_rfl) (fun _ _ _ h => h) hSt2 (Au.yq_run (by rfl) (fun u hu => ?_)) ?_
    rotate_left
    · (clear hu; go_simp; try with_reducible rfl)
    simp only [Act.put, List.setIfInBounds_toArray, List.set_cons_zero, List.set_cons_succ]
    refine Au.take 47 (some 89) rfl rfl (by kernel_rfl) (by kernel_rfl) (by kernel_rfl) (fun _ _ _ h => h) hSt2 (Au.yq_call 8 _ (by rfl) (fun u => by go_simp) (fun u hu => HAW.out u)) ?_
    simp only [Act.put, List.setIfInBounds_toArray, List.set_cons_zero, List.set_cons_succ]
    refine Au.take 48 (some 90) (v := ?_) rfl rfl (by kernel_rfl) (by kernel_rfl) (by kernel_rfl) (fun _ _ _ h => h) hSt2 (Au.yq_run (by rfl) (fun u hu => ?_)) ?_
    rotate_left
    · (clear hu; go_simp; try with_reducible rfl)
    simp only [Act.put, List.setIfInBounds_toArray, List.set_cons_zero, List.set_cons_succ]
    refine Au.take 49 (some 4) (v := ?_) rfl rfl (by kernel_rfl) (by kernel_rfl) (by kernel_rfl) (fun _ _ _ h => h) hSt2 (Au.yq_run (by rfl) (fun u hu => ?_)) ?_
    rotate_left
    · (clear hu; go_simp; try with_reducible rfl)
    simp only [Act.put, List.setIfInBounds_toArray, List.set_cons_zero, List.set_cons_succ]
    refine Au.done (by kernel_rfl) ?_
    intro u hu
    go_wp2_with fail
    go_ret
    exact ⟨rfl, (GS.out u hu.1).1⟩
  · have HK := Lib.hid hb.kept
    clear hv hb hW hL hM hmM hA sA hdn la hN
    go_enter Try.func4, Try.ntmps4
    go_upto_region 1 with fail
    rw [HW.out]
    by_cases e1 : 30 < (N : Int)
    · go_wp2_with (go_at_call 8; refine (HAW.out _).mono ?_; rintro e w' ⟨rfl, hk⟩)
      go_ret
      exact ⟨rfl, HK.out.trans hk⟩
    by_cases e2 : 30 < (M : Int)
    · go_wp2_with (go_at_call 8; refine (HAW.out _).mono ?_; rintro e w' ⟨rfl, hk⟩)
      go_ret
      exact ⟨rfl, HK.out.trans hk⟩
    by_cases e3 : dn < 0
    · go_wp2_with (go_at_call 8; refine (HAW.out _).mono ?_; rintro e w' ⟨rfl, hk⟩)
      go_ret
      exact ⟨rfl, HK.out.trans hk⟩
    have e4 : 1000000 < dn := by omega
    go_wp2_with (go_at_call 8; refine (HAW.out _).mono ?_; rintro e w' ⟨rfl, hk⟩)
    go_ret
    exact ⟨rfl, HK.out.trans hk⟩

end Go.Proofs.Ytplkhinjlgmilaa.Ow
