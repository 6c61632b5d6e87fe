/- The law that whatever is done to any call is what the document says. -/
import Derived.Test.YtpicjcophjekpaaCl3
import Derived.Test.YtpicjcophjekpaaCl4
import Derived.Test.YtpicjcophjekpaaCl5
import Derived.Test.YtpicjcophjekpaaClA
namespace Go.Proofs.Ytpicjcophjekpaa.Cl
open Go.RowKit Go.Sort St Ad Po Blk
open Go.Proofs.Ytpicjcophjekpaa.Id (quiet_at)
set_option linter.unusedVariables false

theorem rowR {P : Program} {w W : World} {L : List (Array Value × TypeId)} (h : Bl w W L) (i : Nat) {xs : Array Value} {t : TypeId} (e : L[i]? = some (xs, t)) {d : TypeDesc} (hu : P.underlying t = some d) (hd : (match d with | .struct _ | .array _ _ => true | _ => false) = true) (hi : (P.info? t).map (·.size) = some xs.size) :
    Hid (∀ u, (∃ q : Regrown, u = grow (redrawn W q.d) q.os) → (loadVar t ⟨w.heap.size + i, 0, none⟩).run P u = .ok (.agg xs) u) :=
  fun u ⟨q, hq⟩ => by subst hq; exact run_loadVar_row _ _ _ _ xs (0, 0) _ (kept_at (below_regrown W q.d q.os) (h.blk i e)) hu hd hi

theorem begin_att {c : Cl} (n : Int) (h : Wd c.att) : Wd (begin c n).att ∧ c.tr ≤ (begin c n).tr ∧ (begin c n).tr ≤ c.tr + 1 := by
  obtain ⟨h1, h2⟩ := h
  by_cases k : (c.st = 0 ∨ c.st = 2) ∧ c.att < 5
  · rw [begin_on n k.1 k.2]
    refine ⟨⟨?_, ?_⟩, ?_, ?_⟩ <;> (dsimp only; omega)
  · rw [begin_no n k]; exact ⟨⟨h1, h2⟩, by omega, by omega⟩
theorem ends_att (c : Cl) (n : Int) : (ends c n).att = c.att ∧ (ends c n).tr = c.tr := by unfold ends; split <;> exact ⟨rfl, rfl⟩
theorem good_att (c : Cl) (n : Int) : (good c n).att = c.att ∧ (good c n).tr = c.tr := by unfold good; split <;> exact ⟨rfl, rfl⟩
theorem taken_att (c : Cl) : (taken c).att = c.att ∧ (taken c).tr = c.tr := by unfold taken; split <;> exact ⟨rfl, rfl⟩
theorem bad_att (c : Cl) (g : Cf) (f : Ft) : (bad c g f).1.att = c.att ∧ (bad c g f).1.tr = c.tr := by
  unfold bad
  split
  · split
    · exact ⟨rfl, rfl⟩
    · exact ends_att c _
  · exact ⟨rfl, rfl⟩
theorem stp_att {c : Cl} (g : Cf) (d : De) (h : Wd c.att) : Wd (stp c g d).1.att ∧ c.tr ≤ (stp c g d).1.tr ∧ (stp c g d).1.tr ≤ c.tr + 1 := by
  have same : ∀ x : Cl, x.att = c.att ∧ x.tr = c.tr → Wd x.att ∧ c.tr ≤ x.tr ∧ x.tr ≤ c.tr + 1 := fun x hx => by rw [hx.1, hx.2]; exact ⟨h, by omega, by omega⟩
  unfold stp
  split
  · exact begin_att d.n h
  split
  · exact same _ (good_att c _)
  split
  · exact same _ (taken_att c)
  split
  · exact same _ (bad_att c g _)
  split
  · exact same _ (ends_att c _)
  · exact same _ ⟨rfl, rfl⟩

theorem info_id : (Try.prog.info? 23).map (·.size) = some 3 := by kernel_rfl

set_option maxRecDepth 100000 in
set_option maxHeartbeats 4000000 in
theorem plays_any (c : Cl) (ha : Wd c.att) (g : Cf) {w : World} {v : Value} {len : Nat} {F : Nat → De} (hI : Deeds w v len F) (wt gr : Int) :
    Calls Try.prog 3 #[.agg c.arr, .agg g.arr, v, .int .i64 wt, .int .i64 gr] w fun e w' => e = .returned (.bool true) ∧ Kept w w' := by
  obtain ⟨W, hW, hB⟩ : ∃ W, (w.alloc (.cells c.arr 25)).alloc (.cells g.arr 28) = W ∧ Bl w W [(c.arr, 25), (g.arr, 28)] := ⟨_, rfl, Bl.start [(_, _), (_, _)] w⟩
  have HW := Lib.hid hW
  have HB := Lib.hid hB
  have AW := Lib.hid (fun w => awake_any w)
  have x12 : W.cell? ⟨w.heap.size, 12, none⟩ = some (.int .i64 c.tr) := hB.cell 0 12 rfl
  by_cases h0 : c.tr < 0
  · clear hB hW
    go_enter Try.func3, Try.ntmps3
    go_upto_region 1 with fail
    rw [HW.out]
    go_wp2_with (go_at_call 6; refine (AW.out _).mono ?_; rintro e u ⟨rfl, hk⟩)
    go_ret
    exact ⟨rfl, HB.out.kept.trans hk⟩
  by_cases h1 : c.tr > 1000000
  · clear hB hW
    go_enter Try.func3, Try.ntmps3
    go_upto_region 1 with fail
    rw [HW.out]
    go_wp2_with (go_at_call 6; refine (AW.out _).mono ?_; rintro e u ⟨rfl, hk⟩)
    go_ret
    exact ⟨rfl, HB.out.kept.trans hk⟩
  have hs : W.heap.size = w.heap.size + 1 + 1 := by rw [← hW]; simp
  have hX : Bl w (W.alloc (.cells #[.int .i64 c.n, .int .i64 c.i, .int .i64 c.s, .int .i64 c.to, .int .i64 c.pr, .int .i64 c.att, .int .i64 c.st, .int .i64 c.se, .int .i64 c.re, .bool c.co, .int .i64 c.cd, .int .i64 c.va, .int .i64 c.tr] 31)) [(c.arr, 25), (g.arr, 28), (c.arr, 31)] :=
    ⟨hB.kept.more _, fun i x hx => by
      match i, hx with
      | 0, hx => simp only [List.getElem?_cons_zero, Option.some.injEq] at hx; subst hx; exact kept_at (Kept.one W _) (hB.blk 0 rfl)
      | 1, hx => simp only [List.getElem?_cons_succ, List.getElem?_cons_zero, Option.some.injEq] at hx; subst hx; exact kept_at (Kept.one W _) (hB.blk 1 rfl)
      | 2, hx => simp only [List.getElem?_cons_succ, List.getElem?_cons_zero, Option.some.injEq] at hx; subst hx; rw [show w.heap.size + 2 = W.heap.size from hs.symm]; exact blk_new W _
      | n + 3, hx => simp at hx⟩
  obtain ⟨W2, hW2⟩ : ∃ W2, W.alloc (.cells #[.int .i64 c.n, .int .i64 c.i, .int .i64 c.s, .int .i64 c.to, .int .i64 c.pr, .int .i64 c.att, .int .i64 c.st, .int .i64 c.se, .int .i64 c.re, .bool c.co, .int .i64 c.cd, .int .i64 c.va, .int .i64 c.tr] 31) = W2 := ⟨_, rfl⟩
  rw [hW2] at hX
  have HX := Lib.hid hX
  have HS := Lib.hid hs
  have HW2 := Lib.hid hW2
  have y0 : W.rangeAt w.heap.size 0 [.int .i64 c.n, .int .i64 c.i, .int .i64 c.s] := fun j v hj => by
    have := hB.cell 0 (0 + j) rfl
    rw [show w.heap.size + 0 = w.heap.size from rfl] at this
    rw [this, ← hj]
    match j with
    | 0 | 1 | 2 => rfl
    | j + 3 => simp at hj
  have x3 : W.cell? ⟨w.heap.size, 3, none⟩ = some (.int .i64 c.to) := hB.cell 0 3 rfl
  have x4 : W.cell? ⟨w.heap.size, 4, none⟩ = some (.int .i64 c.pr) := hB.cell 0 4 rfl
  have x5 : W.cell? ⟨w.heap.size, 5, none⟩ = some (.int .i64 c.att) := hB.cell 0 5 rfl
  have x6 : W.cell? ⟨w.heap.size, 6, none⟩ = some (.int .i64 c.st) := hB.cell 0 6 rfl
  have x7 : W.cell? ⟨w.heap.size, 7, none⟩ = some (.int .i64 c.se) := hB.cell 0 7 rfl
  have x8 : W.cell? ⟨w.heap.size, 8, none⟩ = some (.int .i64 c.re) := hB.cell 0 8 rfl
  have x9 : W.cell? ⟨w.heap.size, 9, none⟩ = some (.bool c.co) := hB.cell 0 9 rfl
  have x10 : W.cell? ⟨w.heap.size, 10, none⟩ = some (.int .i64 c.cd) := hB.cell 0 10 rfl
  have x11 : W.cell? ⟨w.heap.size, 11, none⟩ = some (.int .i64 c.va) := hB.cell 0 11 rfl
  have hlen := fun ty u => hI.length Try.underlying29 ty u
  obtain ⟨z, hz⟩ : ∃ z : Int, (len : Int) = z := ⟨_, rfl⟩
  rw [hz] at hlen
  have HZ := Lib.hid hz
  have HI := Lib.hid hI
  have T0 := Lib.hid (And.intro h0 h1)
  have HA := Lib.hid ha
  clear hB hW hX hs hW2 hI hz ha
  go_enter Try.func3, Try.ntmps3
  go_upto_region 1 with fail
  rw [HW.out]
  go_upto_region 4 with (refine wpList_load_mid rfl 23 (.tmp 24) rfl w.heap.size 0 rfl _ _ y0 Try.underlying23 rfl info_id ?_)
  rw [HW2.out, HS.out]
  clear y0 x3 x4 x5 x6 x7 x8 x9 x10 x11 x12 h0 h1
  go_wp2_with fail
  go_loopw [12] (fun iv wr => ∃ j : Nat, j ≤ len ∧ j ≤ 40 ∧ iv = .int .i64 (j : Int) ∧ ∃ r : Cl, Bl w wr [(r.arr, 25), (g.arr, 28), (r.arr, 31)] ∧ Wd r.att ∧ 0 ≤ r.tr ∧ r.tr ≤ 1000000 + (j : Int)) (fun iv _ => len - (intOf iv).toNat)
  case atStart => exact ⟨0, Nat.zero_le _, Nat.zero_le _, rfl, c, HX.out, HA.out, by have := T0.out; omega, by have := T0.out; omega⟩
  case round =>
    obtain ⟨j, hj, hj40, rfl, r, hB, hra, hr0, hr1⟩ := hrel
    have HB := Lib.hid hB
    by_cases hlt : j < len ∧ j < 40
    · obtain ⟨hjl, hj4⟩ := hlt
      have hjz : (j : Int) < z := by have := HZ.out; omega
      have hjl2 : (j : Int) < (len : Int) := by omega
      have hj4' : (j : Int) < 40 := by omega
      obtain ⟨b, off, cap, hv1, _, hcell⟩ := HI.out.at hjl
      have HC := Lib.hid hcell
      have HV := Lib.hid hv1
      have FIT := Lib.hid (show r.Fit from ⟨hra, hr0, by omega⟩)
      have q1 := stp_att g (F j) hra
      have s1 := step_any r FIT.out g (F j)
      have s2 := like_any r FIT.out g (F j)
      obtain ⟨q, y, hq⟩ : ∃ q y, stp r g (F j) = (q, y) := ⟨_, _, rfl⟩
      rw [hq] at q1 s1 s2
      have Q1 := Lib.hid (show Wd q.att ∧ 0 ≤ q.tr ∧ q.tr ≤ 1000000 + ((j : Int) + 1) from ⟨q1.1, by have := q1.2.1; dsimp only at this; omega, by have := q1.2.2; dsimp only at this; omega⟩)
      have S1 := Lib.hid s1
      have S2 := Lib.hid s2
      have HJ := Lib.hid (And.intro hj40 hjl)
      subst hv1
      clear hB hra hr0 hr1 hcell q1 s1 s2 hq hj hj40
      go_upto_region 8 with fail
      refine Hg.region_g 10 (fun u => Bl w u [(r.arr, 25), (g.arr, 28), (r.arr, 31)]) (by kernel_rfl) (HB.out.go (Kept.refl _).drew) (fun hHeld => ?_)
      refine Hg.take_b 0 (some 58) rfl rfl (by kernel_rfl) (by kernel_rfl) (by kernel_rfl) (by kernel_rfl) (fun _ _ _ h => h) (Hg.yields_row 31 (.tmp 11) rfl (w.heap.size + 1 + 1) 0 rfl rfl (fun u hu => run_loadVar_row _ (w.heap.size + 1 + 1) _ _ r.arr (0, 0) _ (hu.blk 2 rfl) Try.underlying31 rfl info_cl)) hHeld ?_
      simp only [Act.put, List.setIfInBounds_toArray, List.set_cons_zero, List.set_cons_succ]
      refine Hg.take_b 1 (some 59) rfl rfl (by kernel_rfl) (by kernel_rfl) (by kernel_rfl) (by kernel_rfl) (fun _ _ _ h => h) (Hg.yields_row 28 (.tmp 6) rfl (w.heap.size + 1) 0 rfl rfl (fun u hu => run_loadVar_row _ (w.heap.size + 1) _ _ g.arr (0, 0) _ (hu.blk 1 rfl) Try.underlying28 rfl info_cf)) hHeld ?_
      simp only [Act.put, List.setIfInBounds_toArray, List.set_cons_zero, List.set_cons_succ]
      refine Hg.take_b 2 (some 60) (v := ?_) rfl rfl (by kernel_rfl) (by kernel_rfl) (by kernel_rfl) (by kernel_rfl) (fun _ _ _ h => h) (Or.inl ⟨by rfl, ?_⟩) hHeld ?_
      rotate_left
      · (intro w hSw; go_simp; try with_reducible rfl)
      simp only [Act.put, List.setIfInBounds_toArray, List.set_cons_zero, List.set_cons_succ]
      refine Hg.take_b 3 (some 61) (v := ?_) rfl rfl (by kernel_rfl) (by kernel_rfl) (by kernel_rfl) (by kernel_rfl) (fun _ _ _ h => h) (Or.inl ⟨by rfl, ?_⟩) hHeld ?_
      rotate_left
      · (intro w hSw; go_simp; try with_reducible rfl)
      simp only [Act.put, List.setIfInBounds_toArray, List.set_cons_zero, List.set_cons_succ]
      refine Hg.take_b 4 (some 62) (v := ?_) rfl rfl (by kernel_rfl) (by kernel_rfl) (by kernel_rfl) (by kernel_rfl) (fun _ _ _ h => h) (Or.inl ⟨by rfl, ?_⟩) hHeld ?_
      rotate_left
      · (intro w hSw; go_simp; try with_reducible rfl)
      simp only [Act.put, List.setIfInBounds_toArray, List.set_cons_zero, List.set_cons_succ]
      refine Hg.take_b 5 (some 63) rfl rfl (by kernel_rfl) (by kernel_rfl) (by kernel_rfl) (by kernel_rfl) (fun _ _ _ h => h) (Hg.yields_row 37 (.tmp 62) rfl b (off + j * 10) rfl rfl (fun u hu => load_deed (HC.out u hu.kept))) hHeld ?_
      simp only [Act.put, List.setIfInBounds_toArray, List.set_cons_zero, List.set_cons_succ]
      refine Hg.step_b 6 rfl (by kernel_rfl) (fun K hK => ?_)
      go_simp
      refine (S1.out _).mono ?_
      rintro e u1 ⟨rfl, k1⟩
      go_wp2_with fail
      have hHeld := hHeld.go k1
      refine hK.out _ _ hHeld ?_
      clear hK K
      refine Hg.take_b 7 (some 57) (v := ?_) rfl rfl (by kernel_rfl) (by kernel_rfl) (by kernel_rfl) (by kernel_rfl) (fun _ _ _ h => h) (Or.inl ⟨by rfl, ?_⟩) hHeld ?_
      rotate_left
      · (intro w hSw; go_simp; try with_reducible rfl)
      simp only [Act.put, List.setIfInBounds_toArray, List.set_cons_zero, List.set_cons_succ]
      refine Hg.take_b 8 (some 65) (v := ?_) rfl rfl (by kernel_rfl) (by kernel_rfl) (by kernel_rfl) (by kernel_rfl) (fun _ _ _ h => h) (Or.inl ⟨by rfl, ?_⟩) hHeld ?_
      rotate_left
      · (intro w hSw; go_simp; try with_reducible rfl)
      simp only [Act.put, List.setIfInBounds_toArray, List.set_cons_zero, List.set_cons_succ]
      refine Hg.take_p 9 (some 66) (v := ?_) rfl rfl (by kernel_rfl) (by kernel_rfl) (by kernel_rfl) (by kernel_rfl) (fun _ _ _ h => h) (Or.inl ⟨by rfl, ?_⟩) (fun _ => hHeld) ?_
      rotate_left
      · (intro w hSw; clear hSw; go_simp; try with_reducible rfl)
      simp only [Act.put, List.setIfInBounds_toArray, List.set_cons_zero, List.set_cons_succ]
      refine Hg.store_s 10 31 (.tmp 11) (.tmp 65) rfl (by kernel_rfl) (by kernel_rfl) rfl rfl rfl (w.heap.size + 1 + 1) q.arr rfl rfl 31 _ (hHeld.blk 2 rfl) info_cl rfl (by kernel_rfl) ?_
      refine Hg.take_p 11 (some 13) (v := ?_) rfl rfl (by kernel_rfl) (by kernel_rfl) (by kernel_rfl) (by kernel_rfl) (fun _ _ _ h => h) (Or.inl ⟨by rfl, ?_⟩) (fun h => by have h2 : true = false := h; cases h2) ?_
      rotate_left
      · (intro w hSw; clear hSw; go_simp; try with_reducible rfl)
      simp only [Act.put, List.setIfInBounds_toArray, List.set_cons_zero, List.set_cons_succ]
      refine Hg.done_g (by kernel_rfl) ?_
      have hY := hHeld.row 2 rfl q.arr
      obtain ⟨V, hV⟩ : ∃ V, u1.setRow (w.heap.size + 1 + 1) q.arr = V := ⟨_, rfl⟩
      rw [show u1.setRow (w.heap.size + 2) q.arr = V from hV] at hY
      rw [hV]
      have HY := Lib.hid hY
      clear hV hY hHeld k1 HB
      have HB := HY
      clear HY
      go_upto_region 9 with fail
      refine Hg.region_g 10 (fun u => Bl w u [(r.arr, 25), (g.arr, 28), (q.arr, 31)]) (by kernel_rfl) (HB.out.go (Kept.refl _).drew) (fun hHeld => ?_)
      refine Hg.take_b 0 (some 68) rfl rfl (by kernel_rfl) (by kernel_rfl) (by kernel_rfl) (by kernel_rfl) (fun _ _ _ h => h) (Hg.yields_row 25 (.tmp 5) rfl w.heap.size 0 rfl rfl (fun u hu => run_loadVar_row _ w.heap.size _ _ r.arr (0, 0) _ (hu.blk 0 rfl) Try.underlying25 rfl info_rcl)) hHeld ?_
      simp only [Act.put, List.setIfInBounds_toArray, List.set_cons_zero, List.set_cons_succ]
      refine Hg.take_b 1 (some 69) rfl rfl (by kernel_rfl) (by kernel_rfl) (by kernel_rfl) (by kernel_rfl) (fun _ _ _ h => h) (Hg.yields_row 28 (.tmp 6) rfl (w.heap.size + 1) 0 rfl rfl (fun u hu => run_loadVar_row _ (w.heap.size + 1) _ _ g.arr (0, 0) _ (hu.blk 1 rfl) Try.underlying28 rfl info_cf)) hHeld ?_
      simp only [Act.put, List.setIfInBounds_toArray, List.set_cons_zero, List.set_cons_succ]
      refine Hg.take_b 2 (some 70) (v := ?_) rfl rfl (by kernel_rfl) (by kernel_rfl) (by kernel_rfl) (by kernel_rfl) (fun _ _ _ h => h) (Or.inl ⟨by rfl, ?_⟩) hHeld ?_
      rotate_left
      · (intro w hSw; go_simp; try with_reducible rfl)
      simp only [Act.put, List.setIfInBounds_toArray, List.set_cons_zero, List.set_cons_succ]
      refine Hg.take_b 3 (some 71) (v := ?_) rfl rfl (by kernel_rfl) (by kernel_rfl) (by kernel_rfl) (by kernel_rfl) (fun _ _ _ h => h) (Or.inl ⟨by rfl, ?_⟩) hHeld ?_
      rotate_left
      · (intro w hSw; go_simp; try with_reducible rfl)
      simp only [Act.put, List.setIfInBounds_toArray, List.set_cons_zero, List.set_cons_succ]
      refine Hg.take_b 4 (some 72) (v := ?_) rfl rfl (by kernel_rfl) (by kernel_rfl) (by kernel_rfl) (by kernel_rfl) (fun _ _ _ h => h) (Or.inl ⟨by rfl, ?_⟩) hHeld ?_
      rotate_left
      · (intro w hSw; go_simp; try with_reducible rfl)
      simp only [Act.put, List.setIfInBounds_toArray, List.set_cons_zero, List.set_cons_succ]
      refine Hg.take_b 5 (some 73) rfl rfl (by kernel_rfl) (by kernel_rfl) (by kernel_rfl) (by kernel_rfl) (fun _ _ _ h => h) (Hg.yields_row 37 (.tmp 72) rfl b (off + j * 10) rfl rfl (fun u hu => load_deed (HC.out u hu.kept))) hHeld ?_
      simp only [Act.put, List.setIfInBounds_toArray, List.set_cons_zero, List.set_cons_succ]
      refine Hg.step_b 6 rfl (by kernel_rfl) (fun K hK => ?_)
      go_simp
      refine (S2.out _).mono ?_
      rintro e u2 ⟨rfl, k2⟩
      go_wp2_with fail
      have hHeld := hHeld.go k2
      refine hK.out _ _ hHeld ?_
      clear hK K
      refine Hg.take_b 7 (some 67) (v := ?_) rfl rfl (by kernel_rfl) (by kernel_rfl) (by kernel_rfl) (by kernel_rfl) (fun _ _ _ h => h) (Or.inl ⟨by rfl, ?_⟩) hHeld ?_
      rotate_left
      · (intro w hSw; go_simp; try with_reducible rfl)
      simp only [Act.put, List.setIfInBounds_toArray, List.set_cons_zero, List.set_cons_succ]
      refine Hg.take_b 8 (some 75) (v := ?_) rfl rfl (by kernel_rfl) (by kernel_rfl) (by kernel_rfl) (by kernel_rfl) (fun _ _ _ h => h) (Or.inl ⟨by rfl, ?_⟩) hHeld ?_
      rotate_left
      · (intro w hSw; go_simp; try with_reducible rfl)
      simp only [Act.put, List.setIfInBounds_toArray, List.set_cons_zero, List.set_cons_succ]
      refine Hg.take_p 9 (some 76) (v := ?_) rfl rfl (by kernel_rfl) (by kernel_rfl) (by kernel_rfl) (by kernel_rfl) (fun _ _ _ h => h) (Or.inl ⟨by rfl, ?_⟩) (fun _ => hHeld) ?_
      rotate_left
      · (intro w hSw; clear hSw; go_simp; try with_reducible rfl)
      simp only [Act.put, List.setIfInBounds_toArray, List.set_cons_zero, List.set_cons_succ]
      refine Hg.store_s 10 25 (.tmp 5) (.tmp 75) rfl (by kernel_rfl) (by kernel_rfl) rfl rfl rfl w.heap.size q.arr rfl rfl 25 _ (hHeld.blk 0 rfl) info_rcl rfl (by kernel_rfl) ?_
      refine Hg.take_p 11 (some 14) (v := ?_) rfl rfl (by kernel_rfl) (by kernel_rfl) (by kernel_rfl) (by kernel_rfl) (fun _ _ _ h => h) (Or.inl ⟨by rfl, ?_⟩) (fun h => by have h2 : true = false := h; cases h2) ?_
      rotate_left
      · (intro w hSw; clear hSw; go_simp; try with_reducible rfl)
      simp only [Act.put, List.setIfInBounds_toArray, List.set_cons_zero, List.set_cons_succ]
      refine Hg.done_g (by kernel_rfl) ?_
      have hY := hHeld.row 0 rfl q.arr
      obtain ⟨V2, hV⟩ : ∃ V2, u2.setRow w.heap.size q.arr = V2 := ⟨_, rfl⟩
      rw [show u2.setRow (w.heap.size + 0) q.arr = V2 from hV] at hY
      rw [hV]
      have HY := Lib.hid hY
      have lx := rowR (P := Try.prog) hY 2 rfl Try.underlying31 rfl info_cl
      have lc := rowR (P := Try.prog) hY 0 rfl Try.underlying25 rfl info_rcl
      have Q2 := quiet_at (Kept.refl V2) (fun x hx => theirs_any q x)
      have Q3 := quiet_at (Kept.refl V2) (fun x hx => key_any q x)
      have Q4 := quiet_at (Kept.refl V2) (fun x hx => rkey_any q x)
      have n1 := neq_rcl q
      have n2 := neq_ky q.n q.i q.s q.att
      have n3 : (y != y) = false := by simp
      clear hV hHeld k2 HB
      go_upto_region 10 with fail
      refine wp_region_quiet_below (by kernel_rfl) (by kernel_rfl) ?_
      repeat (first
        | (go_big_quiet_want; refine quiet_row 31 (.tmp 11) rfl (w.heap.size + 2) rfl q.arr lx.out ?_; simp only [Act.put, List.setIfInBounds_toArray, List.set_cons_succ, List.set_cons_zero]; go_big_quiet_on)
        | (go_big_quiet_want; refine quiet_row 25 (.tmp 5) rfl (w.heap.size + 0) rfl q.arr lc.out ?_; simp only [Act.put, List.setIfInBounds_toArray, List.set_cons_succ, List.set_cons_zero]; go_big_quiet_on)
        | go_big_quiet_step (first | (with_reducible exact Q2.out _) | (with_reducible exact Q3.out _) | (with_reducible exact Q4.out _)))
      refine wpQuiet_nil ?_
      intro _ hw'
      obtain ⟨⟨dq, osq⟩, hw''⟩ := hw'
      subst hw''
      have hZ := HY.out.go (below_regrown V2 dq osq)
      obtain ⟨V3, hV3⟩ : ∃ V3, grow (redrawn V2 dq) osq = V3 := ⟨_, rfl⟩
      rw [hV3] at hZ ⊢
      have HZ3 := Lib.hid hZ
      clear hV3 lx lc Q2 Q3 Q4 n1 n2 n3 HY
      have lx := rowR (P := Try.prog) hZ 2 rfl Try.underlying31 rfl info_cl
      have lc := rowR (P := Try.prog) hZ 0 rfl Try.underlying25 rfl info_rcl
      obtain ⟨n, hn⟩ : ∃ n, (F j).n = n := ⟨_, rfl⟩
      have y1 : V3.cell? ⟨b, off + j * 10 + 1, none⟩ = some (.int .i64 n) := HC.out _ hZ.kept 1 _ (by rw [← hn]; rfl)
      have Z1 := cell_regrown y1
      obtain ⟨l1, hl1⟩ : ∃ l1, lost q n wt gr = l1 := ⟨_, rfl⟩
      obtain ⟨l2, hl2⟩ : ∃ l2, rested q n gr = l2 := ⟨_, rfl⟩
      have Q2 := quiet_at (v := .bool l1) (Kept.refl V3) (fun x hx => by rw [← hl1]; exact lost_any q n wt gr x)
      have Q3 := quiet_at (v := .bool l1) (Kept.refl V3) (fun x hx => by rw [← hl1]; exact rlost_any q n wt gr x)
      have Q4 := quiet_at (v := .bool l2) (Kept.refl V3) (fun x hx => by rw [← hl2]; exact rested_any q n gr x)
      have Q5 := quiet_at (v := .bool l2) (Kept.refl V3) (fun x hx => by rw [← hl2]; exact rrested_any q n gr x)
      have n1 : (l1 != l1) = false := by simp
      have n2 : (l2 != l2) = false := by simp
      clear hZ hn hl1 hl2 HC
      go_upto_region 12 with fail
      refine wp_region_quiet_below (by kernel_rfl) (by kernel_rfl) ?_
      repeat (first
        | (go_big_quiet_want; refine quiet_row 31 (.tmp 11) rfl (w.heap.size + 2) rfl q.arr lx.out ?_; simp only [Act.put, List.setIfInBounds_toArray, List.set_cons_succ, List.set_cons_zero]; go_big_quiet_on)
        | (go_big_quiet_want; refine quiet_row 25 (.tmp 5) rfl (w.heap.size + 0) rfl q.arr lc.out ?_; simp only [Act.put, List.setIfInBounds_toArray, List.set_cons_succ, List.set_cons_zero]; go_big_quiet_on)
        | go_big_quiet_step (first | (with_reducible exact Q2.out _) | (with_reducible exact Q3.out _) | (with_reducible exact Q4.out _) | (with_reducible exact Q5.out _)))
      refine wpQuiet_nil ?_
      intro _ hw'
      obtain ⟨⟨dq2, osq2⟩, hw''⟩ := hw'
      subst hw''
      have hZ := HZ3.out.go (below_regrown V3 dq2 osq2)
      obtain ⟨V4, hV4⟩ : ∃ V4, grow (redrawn V3 dq2) osq2 = V4 := ⟨_, rfl⟩
      rw [hV4] at hZ ⊢
      have HZ4 := Lib.hid hZ
      clear hV4 lx lc Q2 Q3 Q4 Q5 n1 n2 HZ3 y1 Z1 hZ
      go_wp2_with fail
      go_roundw
      case rel => exact ⟨j + 1, HJ.out.2, by omega, by go_num, q, HZ4.out, Q1.out.1, Q1.out.2.1, by have := Q1.out.2.2; omega⟩
      case measure => have := HJ.out; simp [intOf]; omega
    · have hend : z ≤ (j : Int) ∨ ((j : Int) < z ∧ 40 ≤ (j : Int)) := by have := HZ.out; omega
      clear hB hra hr0 hr1 hlt hj hj40
      rcases hend with hend | ⟨hend, hend2⟩
      all_goals
        go_wp2_with (go_at_call 6; refine (AW.out _).mono ?_; rintro e u ⟨rfl, hk⟩)
        go_ret
        exact ⟨rfl, HB.out.kept.trans hk⟩

end Go.Proofs.Ytpicjcophjekpaa.Cl
