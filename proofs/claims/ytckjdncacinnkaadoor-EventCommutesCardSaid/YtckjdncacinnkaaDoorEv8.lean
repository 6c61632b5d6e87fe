/- The document's events: an event's line. -/
import Derived.Test.YtckjdncacinnkaaDoorEv7
namespace Go.Proofs.YtckjdncacinnkaaDoor.Ev
open Go.RowKit Go.Sort Go.Shelf IdM Se EvM Blk It
open St (Kept blk_cell blk_free blk_lt blk_set blk_new ret_str size_list)
open Go.Proofs.YtckjdncacinnkaaDoor.Id (itoa_named text_named quiet_at)
open Go.Proofs.YtckjdncacinnkaaDoor.Ad (load_l store_new)
set_option linter.unusedVariables false
set_option linter.unusedSimpArgs false
set_option maxRecDepth 20000

theorem rkeytext_k {k : Ke} {D : ByteArray} (h : okK k) (hD : Hid (D.data.toList = keyT k)) {w : World} : Calls Tryd.prog 37 #[kv k] w fun e w' => e = .returned (.string D) ∧ Kept w w' :=
  Id.rkeytext_as h.1 h.2.1 h.2.2.1 h.2.2.2 hD
theorem line_is (e : Ev) : lineL e = joinL (headL e) ++ tailL (whoseL e) ++ tailL (moreL e) := by
  show joinL (Lib.itoa e.rl :: ([nameT e.kind, [97, 116], Lib.itoa e.nd, Lib.itoa e.lc] ++ whoseL e ++ moreL e)) = _
  rw [join_app, join_app]; rfl

set_option maxHeartbeats 4000000 in
theorem rline_any {e : Ev} (he : okE e) {D : ByteArray} (hD : Hid (D.data.toList = lineL e)) {w : World} : Calls Tryd.prog 26 #[.agg (arr e)] w fun en w' => en = .returned (.string D) ∧ Kept w w' := by
  obtain ⟨A, hA⟩ : ∃ A, arr e = A := ⟨_, rfl⟩
  rw [hA]
  obtain ⟨W, hW⟩ : ∃ W, w.alloc (.cells A 38) = W := ⟨_, rfl⟩
  have hB : Bl w W [(A, 38)] := hW ▸ Bl.one w _ _
  have hat : ∀ u, Kept W u → At u w.heap.size 0 e := fun u hu => at_blk (by rw [hA]; exact kept_at hu (hB.blk 0 rfl))
  have hat0 := hat W (Kept.refl _)
  have x0 := cell_regrown (show W.cell? ⟨w.heap.size, 0, none⟩ = some (.int .i64 e.kind) from hat0 0 _ rfl)
  have x1 := cell_regrown (show W.cell? ⟨w.heap.size, 1, none⟩ = some (.int .i64 e.rl) from hat0 1 _ rfl)
  have x2 := cell_regrown (show W.cell? ⟨w.heap.size, 2, none⟩ = some (.int .i64 e.nd) from hat0 2 _ rfl)
  have x3 := cell_regrown (show W.cell? ⟨w.heap.size, 3, none⟩ = some (.int .i64 e.lc) from hat0 3 _ rfl)
  obtain ⟨E1, hE1, s1⟩ := itoa_named e.rl he.rl
  obtain ⟨E2, hE2, s2⟩ := name_named e.kind
  obtain ⟨E3, hE3, s3⟩ := itoa_named e.nd he.nd
  obtain ⟨E4, hE4, s4⟩ := itoa_named e.lc he.lc
  have Q1 := quiet_at (Kept.refl W) (fun x hx => Dg.digits_int e.rl he.rl.1 he.rl.2 E1 hE1 x)
  have Q2 := quiet_at (Kept.refl W) (fun x hx => rname_any hE2 x)
  have Q3 := quiet_at (Kept.refl W) (fun x hx => Dg.digits_int e.nd he.nd.1 he.nd.2 E3 hE3 x)
  have Q4 := quiet_at (Kept.refl W) (fun x hx => Dg.digits_int e.lc he.lc.1 he.lc.2 E4 hE4 x)
  have HW := Lib.hid hW
  have HB := Lib.hid hB
  have HA := Lib.hid hat
  have HO := Lib.hid he
  have HE := Lib.hid (And.intro hE1 (And.intro hE2 (And.intro hE3 hE4)))
  have n1 : ¬ 9223372036854775807 < E1.size + 1 := by omega
  have n2 : ¬ 9223372036854775807 < E1.size + 1 + E2.size := by omega
  have n3 : ¬ 9223372036854775807 < E1.size + 1 + E2.size + 4 := by omega
  have n4 : ¬ 9223372036854775807 < E1.size + 1 + E2.size + 4 + E3.size := by omega
  have n5 : ¬ 9223372036854775807 < E1.size + 1 + E2.size + 4 + E3.size + 1 := by omega
  have n6 : ¬ 9223372036854775807 < E1.size + 1 + E2.size + 4 + E3.size + 1 + E4.size := by omega
  clear hA hW hB hat hat0 he hE1 hE2 hE3 hE4
  go_enter Tryd.func26, Tryd.ntmps26
  go_upto_region 1 with fail
  rw [HW.out]
  refine wp_region_quiet_below (by kernel_rfl) (by kernel_rfl) ?_
  repeat (go_big_quiet_step (first | (with_reducible exact Q1.out _) | (with_reducible exact Q2.out _) | (with_reducible exact Q3.out _) | (with_reducible exact Q4.out _)))
  refine wpQuiet_nil ?_
  intro _ hw'
  obtain ⟨⟨dq, osq⟩, hw''⟩ := hw'
  subst hw''
  obtain ⟨W2, hW2⟩ : ∃ W2, grow (redrawn W dq) osq = W2 := ⟨_, rfl⟩
  have k2 : Kept W W2 := hW2 ▸ below_regrown W dq osq
  rw [hW2]
  obtain ⟨H1, hH1⟩ : ∃ H1 : ByteArray, E1 ++ { data := #[32] } ++ E2 ++ { data := #[32, 97, 116, 32] } ++ E3 ++ { data := #[32] } ++ E4 = H1 := ⟨_, rfl⟩
  rw [hH1]
  have sH : H1.size ≤ 120 := by
    have h := congrArg ByteArray.size hH1
    simp only [ByteArray.size_append] at h
    rw [← h]
    show E1.size + 1 + E2.size + 4 + E3.size + 1 + E4.size ≤ 120
    omega
  have HH := Lib.hid (show H1.data.toList = joinL (headL e) by rw [← hH1]; simp [HE.out.1.out, HE.out.2.1.out, HE.out.2.2.1.out, HE.out.2.2.2.out, joinL, headL, tailL])
  have y2 : W2.cell? ⟨w.heap.size, 0, none⟩ = some (.int .i64 e.kind) := HA.out W2 k2 0 _ rfl
  have K2 := Lib.hid k2
  clear x0 x1 x2 x3 Q1 Q2 Q3 Q4 n1 n2 n3 n4 n5 n6 hH1 hW2 s1 s2 s3 s4 k2
  by_cases h9 : e.kind = 9
  · have HL := Lib.hid (show H1.data.toList = lineL e by rw [line_is, HH.out, whoseL, if_pos h9, moreL, if_neg (by omega), if_neg (by omega), if_neg (by omega)]; simp [tailL])
    have b9 : (e.kind != 9) = false := by rw [h9]; rfl
    have b2 : (e.kind == 2) = false := by rw [h9]; rfl
    have b3 : (e.kind == 3) = false := by rw [h9]; rfl
    have b5 : (e.kind == 5) = false := by rw [h9]; rfl
    have b6 : (e.kind == 6) = false := by rw [h9]; rfl
    have b7 : (e.kind == 7) = false := by rw [h9]; rfl
    have b1 : (e.kind == 1) = false := by rw [h9]; rfl
    have b10 : (e.kind == 10) = false := by rw [h9]; rfl
    clear h9
    go_wp2_with fail
    go_ret
    exact ⟨ret_str (by rw [hD.out, HL.out]), HB.out.kept.trans K2.out⟩
  · obtain ⟨E5, hE5, s5⟩ := keyt_named e.key HO.out.key
    have lk2 := (HA.out W2 K2.out).key
    have C5 := Lib.hid (rkeytext_k HO.out.key hE5 (w := W2))
    have n1 : ¬ 9223372036854775807 < H1.size + 1 := by omega
    have n2 : ¬ 9223372036854775807 < H1.size + 1 + E5.size := by omega
    have b9 : (e.kind != 9) = true := by rw [bne_iff_ne]; exact h9
    unfold kv at lk2 C5
    go_upto_region 4 with (first
      | (refine load_l 26 (.tmp 27) rfl _ rfl rfl _ lk2 ?_)
      | (go_at_call 37; refine C5.out.mono ?_; rintro e' w3 ⟨rfl, k3⟩))
    obtain ⟨S1, hS1⟩ : ∃ S1 : ByteArray, H1 ++ { data := #[32] } ++ E5 = S1 := ⟨_, rfl⟩
    rw [hS1]
    have sS : S1.size ≤ 300 := by
      have h := congrArg ByteArray.size hS1
      simp only [ByteArray.size_append] at h
      rw [← h]
      show H1.size + 1 + E5.size ≤ 300
      omega
    have HS := Lib.hid (show S1.data.toList = joinL (headL e) ++ tailL (whoseL e) by rw [← hS1, whoseL, if_neg h9]; simp [HH.out, hE5.out, tailL])
    have K3 := Lib.hid (K2.out.trans k3)
    have y3 : w3.cell? ⟨w.heap.size, 0, none⟩ = some (.int .i64 e.kind) := HA.out w3 K3.out 0 _ rfl
    clear n1 n2 hS1 sH s5 hE5 lk2 k3 y2
    rcases (by omega : e.kind = 2 ∨ e.kind = 3 ∨ e.kind = 5 ∨ e.kind = 6 ∨ e.kind = 7 ∨ e.kind = 1 ∨ e.kind = 10 ∨ (e.kind ≠ 2 ∧ e.kind ≠ 3 ∧ e.kind ≠ 5 ∧ e.kind ≠ 6 ∧ e.kind ≠ 7 ∧ e.kind ≠ 1 ∧ e.kind ≠ 10)) with hm | hm | hm | hm | hm | hm | hm | hm
    · have HM := Lib.hid (show lineL e = S1.data.toList ++ tailL ([[98, 121], keyT e.par, [117, 110, 100, 101, 114], textL e.rn e.ri e.rs, [104, 111, 112], Lib.itoa e.hop] : List (List UInt8)) by rw [line_is, HS.out, moreL, if_pos (by omega)])
      have b2 : (e.kind == 2) = true := by rw [hm]; rfl
      have b3 : (e.kind == 3) = false := by rw [hm]; rfl
      have b5 : (e.kind == 5) = false := by rw [hm]; rfl
      have b6 : (e.kind == 6) = false := by rw [hm]; rfl
      have b7 : (e.kind == 7) = false := by rw [hm]; rfl
      have b1 : (e.kind == 1) = false := by rw [hm]; rfl
      have b10 : (e.kind == 10) = false := by rw [hm]; rfl
      clear hm
      obtain ⟨E6, hE6, s6⟩ := keyt_named e.par HO.out.par
      obtain ⟨E7, hE7, s7⟩ := text_named e.rn e.ri e.rs HO.out.root.1 HO.out.root.2.1 HO.out.root.2.2
      obtain ⟨E8, hE8, s8⟩ := itoa_named e.hop HO.out.hop
      have Q6 := quiet_at (Kept.refl w3) (fun x hx => rkeytext_k HO.out.par hE6 (w := x))
      have Q7 := quiet_at (Kept.refl w3) (fun x hx => Id.rtext_as HO.out.root.1 HO.out.root.2.1 HO.out.root.2.2 hE7 (w := x))
      have Q8 := quiet_at (Kept.refl w3) (fun x hx => Dg.digits_int e.hop HO.out.hop.1 HO.out.hop.2 E8 hE8 x)
      have lP := Ad.loadk_regrown (W := w3) (fun u hu => (HA.out u (K3.out.trans hu)).par)
      have lR := Ad.loadk_regrown (W := w3) (fun u hu => (HA.out u (K3.out.trans hu)).root)
      have xh := cell_regrown (show w3.cell? ⟨w.heap.size, 15, none⟩ = some (.int .i64 e.hop) from HA.out w3 K3.out 15 _ rfl)
      have n1 : ¬ 9223372036854775807 < S1.size + 4 := by omega
      have n2 : ¬ 9223372036854775807 < S1.size + 4 + E6.size := by omega
      have n3 : ¬ 9223372036854775807 < S1.size + 4 + E6.size + 7 := by omega
      have n4 : ¬ 9223372036854775807 < S1.size + 4 + E6.size + 7 + E7.size := by omega
      have n5 : ¬ 9223372036854775807 < S1.size + 4 + E6.size + 7 + E7.size + 5 := by omega
      have n6 : ¬ 9223372036854775807 < S1.size + 4 + E6.size + 7 + E7.size + 5 + E8.size := by omega
      unfold kv at Q6 lP
      go_upto_region 5 with fail
      refine wp_region_quiet_below (by kernel_rfl) (by kernel_rfl) ?_
      repeat (first
        | (go_big_quiet_want; refine Ad.quiet_load 26 (.tmp 41) rfl _ rfl _ lP.out ?_; simp only [Act.put, List.setIfInBounds_toArray, List.set_cons_succ, List.set_cons_zero]; go_big_quiet_on)
        | (go_big_quiet_want; refine Ad.quiet_load 24 (.tmp 46) rfl _ rfl _ lR.out ?_; simp only [Act.put, List.setIfInBounds_toArray, List.set_cons_succ, List.set_cons_zero]; go_big_quiet_on)
        | go_big_quiet_step (first | (with_reducible exact Q6.out _) | (with_reducible exact Q7.out _) | (with_reducible exact Q8.out _)))
      refine wpQuiet_nil ?_
      intro _ hw'
      obtain ⟨⟨dr, osr⟩, hw''⟩ := hw'
      subst hw''
      obtain ⟨W4, hW4⟩ : ∃ W4, grow (redrawn w3 dr) osr = W4 := ⟨_, rfl⟩
      have k4 : Kept w3 W4 := hW4 ▸ below_regrown w3 dr osr
      rw [hW4]
      have y4 : W4.cell? ⟨w.heap.size, 0, none⟩ = some (.int .i64 e.kind) := HA.out W4 (K3.out.trans k4) 0 _ rfl
      have K4 := Lib.hid k4
      have HEE := Lib.hid (And.intro hE6 (And.intro hE7 hE8))
      clear lP lR xh Q6 Q7 Q8 k4 hW4 y3 hE6 hE7 hE8
      go_wp2_with fail
      go_ret
      exact ⟨ret_str (by rw [hD.out, HM.out]; simp [tailL, HEE.out.1.out, HEE.out.2.1.out, HEE.out.2.2.out]), HB.out.kept.trans (K3.out.trans K4.out)⟩
    · have HM := Lib.hid (show lineL e = S1.data.toList ++ tailL ([[98, 121], keyT e.par, [117, 110, 100, 101, 114], textL e.rn e.ri e.rs, [104, 111, 112], Lib.itoa e.hop] : List (List UInt8)) by rw [line_is, HS.out, moreL, if_pos (by omega)])
      have b2 : (e.kind == 2) = false := by rw [hm]; rfl
      have b3 : (e.kind == 3) = true := by rw [hm]; rfl
      have b5 : (e.kind == 5) = false := by rw [hm]; rfl
      have b6 : (e.kind == 6) = false := by rw [hm]; rfl
      have b7 : (e.kind == 7) = false := by rw [hm]; rfl
      have b1 : (e.kind == 1) = false := by rw [hm]; rfl
      have b10 : (e.kind == 10) = false := by rw [hm]; rfl
      clear hm
      obtain ⟨E6, hE6, s6⟩ := keyt_named e.par HO.out.par
      obtain ⟨E7, hE7, s7⟩ := text_named e.rn e.ri e.rs HO.out.root.1 HO.out.root.2.1 HO.out.root.2.2
      obtain ⟨E8, hE8, s8⟩ := itoa_named e.hop HO.out.hop
      have Q6 := quiet_at (Kept.refl w3) (fun x hx => rkeytext_k HO.out.par hE6 (w := x))
      have Q7 := quiet_at (Kept.refl w3) (fun x hx => Id.rtext_as HO.out.root.1 HO.out.root.2.1 HO.out.root.2.2 hE7 (w := x))
      have Q8 := quiet_at (Kept.refl w3) (fun x hx => Dg.digits_int e.hop HO.out.hop.1 HO.out.hop.2 E8 hE8 x)
      have lP := Ad.loadk_regrown (W := w3) (fun u hu => (HA.out u (K3.out.trans hu)).par)
      have lR := Ad.loadk_regrown (W := w3) (fun u hu => (HA.out u (K3.out.trans hu)).root)
      have xh := cell_regrown (show w3.cell? ⟨w.heap.size, 15, none⟩ = some (.int .i64 e.hop) from HA.out w3 K3.out 15 _ rfl)
      have n1 : ¬ 9223372036854775807 < S1.size + 4 := by omega
      have n2 : ¬ 9223372036854775807 < S1.size + 4 + E6.size := by omega
      have n3 : ¬ 9223372036854775807 < S1.size + 4 + E6.size + 7 := by omega
      have n4 : ¬ 9223372036854775807 < S1.size + 4 + E6.size + 7 + E7.size := by omega
      have n5 : ¬ 9223372036854775807 < S1.size + 4 + E6.size + 7 + E7.size + 5 := by omega
      have n6 : ¬ 9223372036854775807 < S1.size + 4 + E6.size + 7 + E7.size + 5 + E8.size := by omega
      unfold kv at Q6 lP
      go_upto_region 5 with fail
      refine wp_region_quiet_below (by kernel_rfl) (by kernel_rfl) ?_
      repeat (first
        | (go_big_quiet_want; refine Ad.quiet_load 26 (.tmp 41) rfl _ rfl _ lP.out ?_; simp only [Act.put, List.setIfInBounds_toArray, List.set_cons_succ, List.set_cons_zero]; go_big_quiet_on)
        | (go_big_quiet_want; refine Ad.quiet_load 24 (.tmp 46) rfl _ rfl _ lR.out ?_; simp only [Act.put, List.setIfInBounds_toArray, List.set_cons_succ, List.set_cons_zero]; go_big_quiet_on)
        | go_big_quiet_step (first | (with_reducible exact Q6.out _) | (with_reducible exact Q7.out _) | (with_reducible exact Q8.out _)))
      refine wpQuiet_nil ?_
      intro _ hw'
      obtain ⟨⟨dr, osr⟩, hw''⟩ := hw'
      subst hw''
      obtain ⟨W4, hW4⟩ : ∃ W4, grow (redrawn w3 dr) osr = W4 := ⟨_, rfl⟩
      have k4 : Kept w3 W4 := hW4 ▸ below_regrown w3 dr osr
      rw [hW4]
      have y4 : W4.cell? ⟨w.heap.size, 0, none⟩ = some (.int .i64 e.kind) := HA.out W4 (K3.out.trans k4) 0 _ rfl
      have K4 := Lib.hid k4
      have HEE := Lib.hid (And.intro hE6 (And.intro hE7 hE8))
      clear lP lR xh Q6 Q7 Q8 k4 hW4 y3 hE6 hE7 hE8
      go_wp2_with fail
      go_ret
      exact ⟨ret_str (by rw [hD.out, HM.out]; simp [tailL, HEE.out.1.out, HEE.out.2.1.out, HEE.out.2.2.out]), HB.out.kept.trans (K3.out.trans K4.out)⟩
    · have HM := Lib.hid (show lineL e = S1.data.toList ++ tailL ([[99, 111, 100, 101], Lib.itoa e.cd, [118, 97, 108, 117, 101], Lib.itoa e.vl] : List (List UInt8)) by rw [line_is, HS.out, moreL, if_neg (by omega), if_pos (by omega)])
      have b2 : (e.kind == 2) = false := by rw [hm]; rfl
      have b3 : (e.kind == 3) = false := by rw [hm]; rfl
      have b5 : (e.kind == 5) = true := by rw [hm]; rfl
      have b6 : (e.kind == 6) = false := by rw [hm]; rfl
      have b7 : (e.kind == 7) = false := by rw [hm]; rfl
      have b1 : (e.kind == 1) = false := by rw [hm]; rfl
      have b10 : (e.kind == 10) = false := by rw [hm]; rfl
      clear hm
      obtain ⟨E7, hE7, s7⟩ := itoa_named e.vl HO.out.vl
      have C7 := Lib.hid (fun u => Dg.digits_int e.vl HO.out.vl.1 HO.out.vl.2 E7 hE7 u)
      have HE7 := Lib.hid hE7
      obtain ⟨E6, hE6, s6⟩ := itoa_named e.cd HO.out.cd
      have C6 := Lib.hid (fun u => Dg.digits_int e.cd HO.out.cd.1 HO.out.cd.2 E6 hE6 u)
      have HE6 := Lib.hid hE6
      have y16 : w3.cell? ⟨w.heap.size, 16, none⟩ = some (.int .i64 e.cd) := HA.out w3 K3.out 16 _ rfl
      have n1 : ¬ 9223372036854775807 < S1.size + 6 := by omega
      have n2 : ¬ 9223372036854775807 < S1.size + 6 + E6.size := by omega
      have n3 : ¬ 9223372036854775807 < S1.size + 6 + E6.size + 7 := by omega
      have n4 : ¬ 9223372036854775807 < S1.size + 6 + E6.size + 7 + E7.size := by omega
      clear hE6 hE7
      go_upto_region 8 with (first | (go_at_call 36; refine (C6.out _).mono ?_; rintro e' w4 ⟨rfl, k4⟩))
      have y4 : w4.cell? ⟨w.heap.size, 0, none⟩ = some (.int .i64 e.kind) := HA.out w4 (K3.out.trans k4) 0 _ rfl
      have y17 : w4.cell? ⟨w.heap.size, 17, none⟩ = some (.int .i64 e.vl) := HA.out w4 (K3.out.trans k4) 17 _ rfl
      have K4 := Lib.hid (K3.out.trans k4)
      clear k4 y3 y16
      go_wp2_with (first | (go_at_call 36; refine (C7.out _).mono ?_; rintro e' w5 ⟨rfl, k5⟩))
      go_ret
      exact ⟨ret_str (by rw [hD.out, HM.out]; simp [tailL, HE6.out.out, HE7.out.out]), HB.out.kept.trans (K4.out.trans k5)⟩
    · have HM := Lib.hid (show lineL e = S1.data.toList ++ tailL ([[99, 111, 100, 101], Lib.itoa e.cd, [118, 97, 108, 117, 101], Lib.itoa e.vl] : List (List UInt8)) by rw [line_is, HS.out, moreL, if_neg (by omega), if_pos (by omega)])
      have b2 : (e.kind == 2) = false := by rw [hm]; rfl
      have b3 : (e.kind == 3) = false := by rw [hm]; rfl
      have b5 : (e.kind == 5) = false := by rw [hm]; rfl
      have b6 : (e.kind == 6) = true := by rw [hm]; rfl
      have b7 : (e.kind == 7) = false := by rw [hm]; rfl
      have b1 : (e.kind == 1) = false := by rw [hm]; rfl
      have b10 : (e.kind == 10) = false := by rw [hm]; rfl
      clear hm
      obtain ⟨E7, hE7, s7⟩ := itoa_named e.vl HO.out.vl
      have C7 := Lib.hid (fun u => Dg.digits_int e.vl HO.out.vl.1 HO.out.vl.2 E7 hE7 u)
      have HE7 := Lib.hid hE7
      obtain ⟨E6, hE6, s6⟩ := itoa_named e.cd HO.out.cd
      have C6 := Lib.hid (fun u => Dg.digits_int e.cd HO.out.cd.1 HO.out.cd.2 E6 hE6 u)
      have HE6 := Lib.hid hE6
      have y16 : w3.cell? ⟨w.heap.size, 16, none⟩ = some (.int .i64 e.cd) := HA.out w3 K3.out 16 _ rfl
      have n1 : ¬ 9223372036854775807 < S1.size + 6 := by omega
      have n2 : ¬ 9223372036854775807 < S1.size + 6 + E6.size := by omega
      have n3 : ¬ 9223372036854775807 < S1.size + 6 + E6.size + 7 := by omega
      have n4 : ¬ 9223372036854775807 < S1.size + 6 + E6.size + 7 + E7.size := by omega
      clear hE6 hE7
      go_upto_region 8 with (first | (go_at_call 36; refine (C6.out _).mono ?_; rintro e' w4 ⟨rfl, k4⟩))
      have y4 : w4.cell? ⟨w.heap.size, 0, none⟩ = some (.int .i64 e.kind) := HA.out w4 (K3.out.trans k4) 0 _ rfl
      have y17 : w4.cell? ⟨w.heap.size, 17, none⟩ = some (.int .i64 e.vl) := HA.out w4 (K3.out.trans k4) 17 _ rfl
      have K4 := Lib.hid (K3.out.trans k4)
      clear k4 y3 y16
      go_wp2_with (first | (go_at_call 36; refine (C7.out _).mono ?_; rintro e' w5 ⟨rfl, k5⟩))
      go_ret
      exact ⟨ret_str (by rw [hD.out, HM.out]; simp [tailL, HE6.out.out, HE7.out.out]), HB.out.kept.trans (K4.out.trans k5)⟩
    · have HM := Lib.hid (show lineL e = S1.data.toList ++ tailL ([[99, 111, 100, 101], Lib.itoa e.cd, [118, 97, 108, 117, 101], Lib.itoa e.vl] : List (List UInt8)) by rw [line_is, HS.out, moreL, if_neg (by omega), if_pos (by omega)])
      have b2 : (e.kind == 2) = false := by rw [hm]; rfl
      have b3 : (e.kind == 3) = false := by rw [hm]; rfl
      have b5 : (e.kind == 5) = false := by rw [hm]; rfl
      have b6 : (e.kind == 6) = false := by rw [hm]; rfl
      have b7 : (e.kind == 7) = true := by rw [hm]; rfl
      have b1 : (e.kind == 1) = false := by rw [hm]; rfl
      have b10 : (e.kind == 10) = false := by rw [hm]; rfl
      clear hm
      obtain ⟨E7, hE7, s7⟩ := itoa_named e.vl HO.out.vl
      have C7 := Lib.hid (fun u => Dg.digits_int e.vl HO.out.vl.1 HO.out.vl.2 E7 hE7 u)
      have HE7 := Lib.hid hE7
      obtain ⟨E6, hE6, s6⟩ := itoa_named e.cd HO.out.cd
      have C6 := Lib.hid (fun u => Dg.digits_int e.cd HO.out.cd.1 HO.out.cd.2 E6 hE6 u)
      have HE6 := Lib.hid hE6
      have y16 : w3.cell? ⟨w.heap.size, 16, none⟩ = some (.int .i64 e.cd) := HA.out w3 K3.out 16 _ rfl
      have n1 : ¬ 9223372036854775807 < S1.size + 6 := by omega
      have n2 : ¬ 9223372036854775807 < S1.size + 6 + E6.size := by omega
      have n3 : ¬ 9223372036854775807 < S1.size + 6 + E6.size + 7 := by omega
      have n4 : ¬ 9223372036854775807 < S1.size + 6 + E6.size + 7 + E7.size := by omega
      clear hE6 hE7
      go_upto_region 8 with (first | (go_at_call 36; refine (C6.out _).mono ?_; rintro e' w4 ⟨rfl, k4⟩))
      have y4 : w4.cell? ⟨w.heap.size, 0, none⟩ = some (.int .i64 e.kind) := HA.out w4 (K3.out.trans k4) 0 _ rfl
      have y17 : w4.cell? ⟨w.heap.size, 17, none⟩ = some (.int .i64 e.vl) := HA.out w4 (K3.out.trans k4) 17 _ rfl
      have K4 := Lib.hid (K3.out.trans k4)
      clear k4 y3 y16
      go_wp2_with (first | (go_at_call 36; refine (C7.out _).mono ?_; rintro e' w5 ⟨rfl, k5⟩))
      go_ret
      exact ⟨ret_str (by rw [hD.out, HM.out]; simp [tailL, HE6.out.out, HE7.out.out]), HB.out.kept.trans (K4.out.trans k5)⟩
    · have HM := Lib.hid (show lineL e = S1.data.toList ++ tailL ([[118, 97, 108, 117, 101], Lib.itoa e.vl] : List (List UInt8)) by rw [line_is, HS.out, moreL, if_neg (by omega), if_neg (by omega), if_pos (by omega)])
      have b2 : (e.kind == 2) = false := by rw [hm]; rfl
      have b3 : (e.kind == 3) = false := by rw [hm]; rfl
      have b5 : (e.kind == 5) = false := by rw [hm]; rfl
      have b6 : (e.kind == 6) = false := by rw [hm]; rfl
      have b7 : (e.kind == 7) = false := by rw [hm]; rfl
      have b1 : (e.kind == 1) = true := by rw [hm]; rfl
      have b10 : (e.kind == 10) = false := by rw [hm]; rfl
      clear hm
      obtain ⟨E7, hE7, s7⟩ := itoa_named e.vl HO.out.vl
      have C7 := Lib.hid (fun u => Dg.digits_int e.vl HO.out.vl.1 HO.out.vl.2 E7 hE7 u)
      have HE7 := Lib.hid hE7
      have y17 : w3.cell? ⟨w.heap.size, 17, none⟩ = some (.int .i64 e.vl) := HA.out w3 K3.out 17 _ rfl
      have n3 : ¬ 9223372036854775807 < S1.size + 7 := by omega
      have n4 : ¬ 9223372036854775807 < S1.size + 7 + E7.size := by omega
      have K4 := K3
      clear hE7
      go_wp2_with (first | (go_at_call 36; refine (C7.out _).mono ?_; rintro e' w5 ⟨rfl, k5⟩))
      go_ret
      exact ⟨ret_str (by rw [hD.out, HM.out]; simp [tailL, HE7.out.out]), HB.out.kept.trans (K4.out.trans k5)⟩
    · have HM := Lib.hid (show lineL e = S1.data.toList ++ tailL ([[118, 97, 108, 117, 101], Lib.itoa e.vl] : List (List UInt8)) by rw [line_is, HS.out, moreL, if_neg (by omega), if_neg (by omega), if_pos (by omega)])
      have b2 : (e.kind == 2) = false := by rw [hm]; rfl
      have b3 : (e.kind == 3) = false := by rw [hm]; rfl
      have b5 : (e.kind == 5) = false := by rw [hm]; rfl
      have b6 : (e.kind == 6) = false := by rw [hm]; rfl
      have b7 : (e.kind == 7) = false := by rw [hm]; rfl
      have b1 : (e.kind == 1) = false := by rw [hm]; rfl
      have b10 : (e.kind == 10) = true := by rw [hm]; rfl
      clear hm
      obtain ⟨E7, hE7, s7⟩ := itoa_named e.vl HO.out.vl
      have C7 := Lib.hid (fun u => Dg.digits_int e.vl HO.out.vl.1 HO.out.vl.2 E7 hE7 u)
      have HE7 := Lib.hid hE7
      have y17 : w3.cell? ⟨w.heap.size, 17, none⟩ = some (.int .i64 e.vl) := HA.out w3 K3.out 17 _ rfl
      have n3 : ¬ 9223372036854775807 < S1.size + 7 := by omega
      have n4 : ¬ 9223372036854775807 < S1.size + 7 + E7.size := by omega
      have K4 := K3
      clear hE7
      go_wp2_with (first | (go_at_call 36; refine (C7.out _).mono ?_; rintro e' w5 ⟨rfl, k5⟩))
      go_ret
      exact ⟨ret_str (by rw [hD.out, HM.out]; simp [tailL, HE7.out.out]), HB.out.kept.trans (K4.out.trans k5)⟩
    · have HM := Lib.hid (show lineL e = S1.data.toList ++ tailL ([] : List (List UInt8)) by rw [line_is, HS.out, moreL, if_neg (by omega), if_neg (by omega), if_neg (by omega)])
      have b2 : (e.kind == 2) = false := beq_eq_false_iff_ne.2 (by omega)
      have b3 : (e.kind == 3) = false := beq_eq_false_iff_ne.2 (by omega)
      have b5 : (e.kind == 5) = false := beq_eq_false_iff_ne.2 (by omega)
      have b6 : (e.kind == 6) = false := beq_eq_false_iff_ne.2 (by omega)
      have b7 : (e.kind == 7) = false := beq_eq_false_iff_ne.2 (by omega)
      have b1 : (e.kind == 1) = false := beq_eq_false_iff_ne.2 (by omega)
      have b10 : (e.kind == 10) = false := beq_eq_false_iff_ne.2 (by omega)
      clear hm
      go_wp2_with fail
      go_ret
      exact ⟨ret_str (by rw [hD.out, HM.out]; simp [tailL]), HB.out.kept.trans K3.out⟩

end Go.Proofs.YtckjdncacinnkaaDoor.Ev
