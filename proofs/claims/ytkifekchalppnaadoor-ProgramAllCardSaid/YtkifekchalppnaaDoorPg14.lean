/- The law: two programs, one behind the other. -/
import Derived.Test.YtkifekchalppnaaDoorPg12
namespace Go.Proofs.YtkifekchalppnaaDoor.Pg
open Go.RowKit Go.Sort Go.Shelf St Cd It At
open Go.Proofs.YtkifekchalppnaaDoor.Rv
open Wh (Fr)
set_option linter.unusedVariables false
set_option linter.unusedSimpArgs false

theorem run_append_zero {P : Program} {w : World} (base : Nat) (t ty e : TypeId) (i : TypeInfo) (size : Nat) (ht : P.underlying t = some (.slice e)) (hi : P.info? e = some i)
    (v : Value) (n : Nat) (xs : List Value) (hown : w.ownsRow base e size v n xs) (p : Option Addr) (c : Nat) :
    (Builtin.append_ #[t, t] ty #[v, .slice p 0 c]).run P w = .ok v w := by
  rcases hown.2 with ⟨rfl, rfl⟩ | ⟨g, cap, cur, rfl, _, _, hnc, _⟩
  · cases p <;> simp [Builtin.append_, run_underlying ht, sizeOf, typeInfo, hi, Builtin.lenOf, Builtin.firstCells, loadCells, loadCellsFrom]
  · cases p <;> simp [Builtin.append_, run_underlying ht, sizeOf, typeInfo, hi, Builtin.lenOf, Builtin.firstCells, hnc, storeCells, loadCells, loadCellsFrom]
/-- what is appended is read from an argument -/
theorem ops_src {W : World} {v : Value} {L : List Op} (h : Ops W v L) (hne : L ≠ []) : SrcV W v Op.row L := by
  rcases h with ⟨e, _⟩ | ⟨_, _, b, off, cap, e, hb, hc⟩
  · exact absurd e hne
  · refine ⟨⟨b, off, none⟩, cap, e, fun j y hj => ?_⟩
    rw [Rv.addr_add]
    have hlen : (fl Op.row L).length = L.length * 3 := Rv.fl_len (enc := Op.row) (k := 3) Op.row_len L
    have hl : j < L.length * 3 := by have := (List.getElem?_eq_some_iff.1 hj).1; rwa [hlen] at this
    have hi : j / 3 < L.length := by omega
    have e3 : j / 3 * 3 + j % 3 = j := by omega
    have h3 : j % 3 < 3 := Nat.mod_lt _ (by decide)
    obtain ⟨o, ho⟩ : ∃ o, L[j / 3]? = some o := ⟨_, List.getElem?_eq_getElem hi⟩
    obtain ⟨x, hx⟩ : ∃ x, o.row[j % 3]? = some x := ⟨_, List.getElem?_eq_getElem (by rw [Op.row_len]; exact h3)⟩
    have h5 := Rv.fl_at (enc := Op.row) (k := 3) Op.row_len ho hx
    rw [e3, hj] at h5
    cases h5
    have h6 := hc _ _ ho _ _ hx
    rw [Nat.add_assoc, e3] at h6
    exact h6
/-- 'append(v, u...)' of an argument u -/
theorem append_ops (w : World) {ops : Array Oper} {rest : List Oper} {o : Oper} {a : Act} {Q : Exit → Act → World → Prop} (hgd : o.guard = none) (s x : Operand)
    (ho : o.op = .call { callee := .builtin .append, args := #[s, x], argTypes := #[22, 22] }) (v u : Value) (H K : List Op) (hs : a.eval s = v) (hx : a.eval x = u) (hv' : RowV w v 26 3 Op.row H) (hu : Ops w u K) (hn : H.length + K.length ≤ 1000000)
    (h : ∀ v2 w2, RowV w2 v2 26 3 Op.row (H ++ K) → w.grownBy w2 v.ownBlock → (v2.ownBlock = v.ownBlock ∨ ∃ g, v2.ownBlock = some g ∧ w.heap.size ≤ g) → wpList Tryd.prog ops Q rest (a.put o.dst v2) w2) : wpList Tryd.prog ops Q (o :: rest) a w := by
  by_cases hK : K = []
  · subst hK
    obtain ⟨p, N, cap, rfl, hN, _⟩ := hu.slice
    obtain rfl : N = 0 := hN.symm
    obtain ⟨i0, hi, hz0, hz1, hz2⟩ := info_parts enc_op.info
    rw [List.append_nil] at h
    refine wpList_plain hgd fun K hK => ?_
    have hrun := run_append_zero (P := Tryd.prog) (w := w) 0 22 o.type 26 i0 3 Tryd.underlying22 hi v H.length (fl Op.row H) hv' p cap
    unfold Oper.wp
    simp [execOp, ho, resolve, invoke, builtin, hs, hx, hrun, Result.andThen]
    exact hK _ _ (h v w hv' ⟨rfl, rfl, rfl, Nat.le_refl _, fun _ _ _ => rfl⟩ (Or.inl rfl))
  · exact wpList_append_rowv enc_op w hgd s x ho v u H K hs hx hv' (ops_src hu hK) hn h

theorem grown_kept {a b : World} (h : a.grownBy b none) : Kept a b := ((Fr.refl (fun _ => False) a).grown h (fun k e => by cases e)).keeps (fun k c => c.elim)
/-! ### two programs -/
theorem right_app (A B : List Op) (n p : Int) : rightB (A ++ B) n p = (rightB A n p && rightB B n p && decide ((A ++ B).length ≤ 16)) := by
  unfold rightB
  rw [List.all_append, List.length_append]
  by_cases h : A.length + B.length ≤ 16
  · rw [decide_eq_true h, decide_eq_true (show A.length ≤ 16 by omega), decide_eq_true (show B.length ≤ 16 by omega)]
    simp
  · rw [decide_eq_false h]; simp
theorem text_app_no {A B : List Op} (h : allK (A ++ B) = false) : textT (A ++ B) = [] := by unfold textT; rw [h]; rfl
theorem text_app_left {A B : List Op} (h : allK (A ++ B) = true) (hA : A = []) : textT (A ++ B) = textT A ++ textT B := by
  subst hA; simp [textT, joinT, allK]
theorem text_app_right {A B : List Op} (h : allK (A ++ B) = true) (hB : B = []) : textT (A ++ B) = textT A ++ textT B := by
  subst hB; simp [textT, joinT, allK]
theorem text_app_both {A B : List Op} (h : allK (A ++ B) = true) (hA : A ≠ []) (hB : B ≠ []) : textT (A ++ B) = textT A ++ [59, 32] ++ textT B := by
  have h2 := h
  rw [allK_app, Bool.and_eq_true] at h2
  unfold textT
  rw [if_pos h, if_pos h2.1, if_pos h2.2, joinT_app hA, tailT_join hB]
  simp

set_option maxRecDepth 100000 in
set_option maxHeartbeats 4000000 in
theorem joins_any {w : World} {va vb : Value} {A B : List Op} (ha : Ops w va A) (hb : Ops w vb B) (hfa : ∀ o ∈ A, o.Fit) (hfb : ∀ o ∈ B, o.Fit) (n p : Int) (hE : Env w) :
    Calls Tryd.prog 7 #[va, vb, .int .i64 n, .int .i64 p] w fun e w' => e = .returned (.bool true) ∧ Kept w w' := by
  obtain ⟨q, N, cap, rfl, hN, hm⟩ := ha.slice
  obtain ⟨q2, M, cap2, rfl, hM, hm2⟩ := hb.slice
  have HAW := Lib.hid (fun (u : World) (hu : Kept w u) => awake_any (hE.kept hu))
  by_cases hbig : N ≤ 20 ∧ M ≤ 20
  · obtain ⟨hn20, hm20⟩ := hbig
    have hn1 : ¬ 20 < (N : Int) := by omega
    have hm1 : ¬ 20 < (M : Int) := by omega
    have hf : ∀ o ∈ A ++ B, o.Fit := fun o ho => (List.mem_append.1 ho).elim (hfa o) (hfb o)
    have hlen : (A ++ B).length = N + M := by rw [List.length_append, hN, hM]
    obtain ⟨z, hz⟩ : ∃ z, allK (A ++ B) = z := ⟨_, rfl⟩
    obtain ⟨ya, hya⟩ : ∃ y, units A = y := ⟨_, rfl⟩
    obtain ⟨yb, hyb⟩ : ∃ y, units B = y := ⟨_, rfl⟩
    obtain ⟨ra, hra⟩ : ∃ r, rightB A n p = r := ⟨_, rfl⟩
    obtain ⟨rb, hrb⟩ : ∃ r, rightB B n p = r := ⟨_, rfl⟩
    obtain ⟨R, hR⟩ : ∃ r, rightB (A ++ B) n p = r := ⟨_, rfl⟩
    obtain ⟨EA, hEA⟩ : ∃ E : ByteArray, Hid (E.data.toList = textT A) := ⟨⟨(textT A).toArray⟩, rfl⟩
    obtain ⟨EB, hEB⟩ : ∃ E : ByteArray, Hid (E.data.toList = textT B) := ⟨⟨(textT B).toArray⟩, rfl⟩
    obtain ⟨E, hEE⟩ : ∃ E : ByteArray, Hid (E.data.toList = textT (A ++ B)) := ⟨⟨(textT (A ++ B)).toArray⟩, rfl⟩
    have hR2 := (right_app A B n p).symm.trans hR
    rw [hra, hrb, hlen] at hR2
    have hu1 := units_lo A
    have hu2 := units_hi A
    have hu3 := units_lo B
    have hu4 := units_hi B
    rw [hya] at hu1 hu2
    rw [hyb] at hu3 hu4
    rw [hN] at hu2
    rw [hM] at hu4
    have hyab : units (A ++ B) = ya + yb := by rw [units_app, hya, hyb]
    have hsa : EA.size ≤ 100000 := by
      rw [size_list, hEA.out]
      unfold textT
      split
      · rename_i hk; have := join_len hk hfa; omega
      · exact Nat.zero_le _
    have hsb : EB.size ≤ 100000 := by
      rw [size_list, hEB.out]
      unfold textT
      split
      · rename_i hk; have := join_len hk hfb; omega
      · exact Nat.zero_le _
    have HUA := Lib.hid (fun (u : World) (hu : Kept w u) => by have := units_any (ha.go hu) (by omega); rw [hya] at this; exact this)
    have HUB := Lib.hid (fun (u : World) (hu : Kept w u) => by have := units_any (hb.go hu) (by omega); rw [hyb] at this; exact this)
    have HTA := Lib.hid (fun (u : World) (hu : Kept w u) => text_any (ha.go hu) (by omega) hfa EA hEA (hE.kept hu).tab)
    have HTB := Lib.hid (fun (u : World) (hu : Kept w u) => text_any (hb.go hu) (by omega) hfb EB hEB (hE.kept hu).tab)
    have HRA := Lib.hid (fun (u : World) (hu : Kept w u) => by have := right_ops (ha.go hu) n p; rw [hra] at this; exact this)
    have HRB := Lib.hid (fun (u : World) (hu : Kept w u) => by have := right_ops (hb.go hu) n p; rw [hrb] at this; exact this)
    have HL := Lib.hid (And.intro hlen (And.intro hN hM))
    have HZ := Lib.hid hz
    have HXY := Lib.hid (And.intro ha hb)
    have HF := Lib.hid hf
    have HEE := Lib.hid hE
    have HY := Lib.hid (And.intro hyab hR)
    have HR2 := Lib.hid hR2
    clear ha hb hfa hfb hf hE hlen hN hM hz hya hyb hra hrb hR hR2 hyab hm hm2
    go_enter Tryd.func7, Tryd.ntmps7
    go_upto_region 6 with (first
      | (refine append_ops w rfl _ _ rfl (.slice none 0 0) (.slice q N cap) [] A rfl rfl (rowv_nil w _ _ _) HXY.out.1 (by have := HL.out.2.1; simp; omega) ?_; intro v2 w2 r1 g1 b1; have K2 := Lib.hid (And.intro r1 (And.intro g1 b1)); clear r1 g1 b1)
      | (refine append_ops w2 rfl _ _ rfl v2 (.slice q2 M cap2) A B rfl rfl K2.out.1 (HXY.out.2.go (grown_kept K2.out.2.1)) (by have := HL.out.2.1; have := HL.out.2.2; omega) ?_; intro v3 w3 r1 g1 b1; have K3 := Lib.hid (And.intro r1 (And.intro g1 b1)); clear r1 g1 b1))
    have kw2 := grown_kept K2.out.2.1
    have kw3 : Kept w w3 := ((Fr.kept (S := fun j => w.heap.size ≤ j) kw2).grown K3.out.2.1 (fun k e => by
      rcases K2.out.2.2 with h | ⟨g, h, hg⟩
      · rw [h] at e; cases e
      · rw [h] at e; cases e; exact .inl hg)).keeps (fun k c => c)
    have hv3 := ops_row K3.out.1 (by rw [HL.out.1]; omega)
    obtain ⟨p3, N3, cap3, rfl, hN3, _⟩ := hv3.slice
    have hN4 : N3 = N + M := hN3.symm.trans HL.out.1
    have hN5 : N3 ≤ 40 := by omega
    have HKN := Lib.hid (fun (u : World) (hu : Kept w3 u) => by have := lknown_any (hv3.go hu); rw [HZ.out] at this; exact this)
    have HUL := Lib.hid (fun (u : World) (hu : Kept w3 u) => by have := units_any (hv3.go hu) (by omega); rw [HY.out.1] at this; exact this)
    have HTL := Lib.hid (fun (u : World) (hu : Kept w3 u) => text_any (hv3.go hu) (by omega) HF.out E hEE ((HEE.out.kept (kw3.trans hu)).tab))
    have HRL := Lib.hid (fun (u : World) (hu : Kept w3 u) => by have := right_ops (hv3.go hu) n p; rw [HY.out.2] at this; exact this)
    have HN4 := Lib.hid hN4
    have KW := Lib.hid kw3
    clear kw2 kw3 hv3 hN3 hN4 K2 K3
    go_upto_if 28 with (go_at_call 22; refine (HKN.out _ (Kept.refl _)).mono ?_; rintro e u1 ⟨rfl, rfl⟩)
    have k0 := KW.out
    have k3 := Kept.refl w3
    go_cut [10] (fun t wx => t = .string E ∧ Kept w3 wx)
    case first =>
      have z1 : ¬ 9223372036854775807 < EA.size + 2 := by omega
      have z2 : ¬ 9223372036854775807 < EA.size + 2 + EB.size := by omega
      have z3 : ¬ 9223372036854775807 < EA.size + EB.size := by omega
      cases z
      · have HE := Lib.hid (hEE.out.trans (text_app_no HZ.out))
        go_wp2_with fail
        go_meet
        exact ⟨by rw [str_of E _ HE.out], k3⟩
      · by_cases hN0 : N = 0
        · have HE := Lib.hid (show EA ++ EB = E from same_bytes (by rw [hEE.out, text_app_left HZ.out (List.length_eq_zero_iff.1 (HL.out.2.1.trans hN0))]; simp [hEA.out, hEB.out]))
          have HN0 := Lib.hid hN0
          have e0 : ((N : Int) == 0) = true := beq_iff_eq.2 (by omega)
          clear hN0
          go_wp2_with (go_at_call 15; first
          | ((with_reducible refine (HTA.out _ (by assumption)).mono ?_); rintro e u ⟨rfl, j⟩; have ja := Kept.trans (show Kept w _ from by assumption) j; have jb := Kept.trans (show Kept w3 _ from by assumption) j)
          | ((with_reducible refine (HTB.out _ (by assumption)).mono ?_); rintro e u ⟨rfl, j⟩; have ja := Kept.trans (show Kept w _ from by assumption) j; have jb := Kept.trans (show Kept w3 _ from by assumption) j))
          go_meet
          exact ⟨by rw [HE.out], by assumption⟩
        · have e0 : ((N : Int) == 0) = false := beq_eq_false_iff_ne.2 (by omega)
          by_cases hM0 : M = 0
          · have HE := Lib.hid (show EA ++ EB = E from same_bytes (by rw [hEE.out, text_app_right HZ.out (List.length_eq_zero_iff.1 (HL.out.2.2.trans hM0))]; simp [hEA.out, hEB.out]))
            have e1 : ((M : Int) == 0) = true := beq_iff_eq.2 (by omega)
            clear hN0 hM0
            go_wp2_with (go_at_call 15; first
          | ((with_reducible refine (HTA.out _ (by assumption)).mono ?_); rintro e u ⟨rfl, j⟩; have ja := Kept.trans (show Kept w _ from by assumption) j; have jb := Kept.trans (show Kept w3 _ from by assumption) j)
          | ((with_reducible refine (HTB.out _ (by assumption)).mono ?_); rintro e u ⟨rfl, j⟩; have ja := Kept.trans (show Kept w _ from by assumption) j; have jb := Kept.trans (show Kept w3 _ from by assumption) j))
            go_meet
            exact ⟨by rw [HE.out], by assumption⟩
          · have e1 : ((M : Int) == 0) = false := beq_eq_false_iff_ne.2 (by omega)
            have HE := Lib.hid (show EA ++ ⟨#[59, 32]⟩ ++ EB = E from same_bytes (by
              rw [hEE.out, text_app_both HZ.out (fun c => hN0 (by rw [← HL.out.2.1, c]; rfl)) (fun c => hM0 (by rw [← HL.out.2.2, c]; rfl))]
              simp [hEA.out, hEB.out]))
            clear hN0 hM0
            go_wp2_with (go_at_call 15; first
          | ((with_reducible refine (HTA.out _ (by assumption)).mono ?_); rintro e u ⟨rfl, j⟩; have ja := Kept.trans (show Kept w _ from by assumption) j; have jb := Kept.trans (show Kept w3 _ from by assumption) j)
          | ((with_reducible refine (HTB.out _ (by assumption)).mono ?_); rintro e u ⟨rfl, j⟩; have ja := Kept.trans (show Kept w _ from by assumption) j; have jb := Kept.trans (show Kept w3 _ from by assumption) j))
            go_meet
            exact ⟨by rw [HE.out], by assumption⟩
    case rest =>
      obtain ⟨rfl, hk⟩ := hcut
      have k0 := KW.out.trans hk
      have HK := Lib.hid hk
      go_upto_region 11 with fail
      go_cut [11] (fun t wx => t = .bool R ∧ Kept w3 wx)
      case first =>
        have hr2 := HR2.out
        rw [← HN4.out] at hr2
        cases ra
        · obtain rfl : R = false := by rw [← hr2]; rfl
          clear hr2
          go_wp2_with (go_at_call 11; refine (HRA.out _ k0).mono ?_; rintro e u1 ⟨rfl, j1⟩)
          go_meet
          exact ⟨rfl, HK.out.trans j1⟩
        · cases rb
          · obtain rfl : R = false := by rw [← hr2]; rfl
            clear hr2
            go_wp2_with (go_at_call 11; first
              | ((with_reducible refine (HRA.out _ (by assumption)).mono ?_); rintro e u1 ⟨rfl, j1⟩; have k1 := k0.trans j1)
              | ((with_reducible refine (HRB.out _ k1).mono ?_); rintro e u2 ⟨rfl, j2⟩))
            go_meet
            exact ⟨rfl, (HK.out.trans j1).trans j2⟩
          · by_cases h16 : N3 ≤ 16
            · obtain rfl : R = true := by rw [← hr2, decide_eq_true h16]; rfl
              have h16' : (N3 : Int) ≤ 16 := by omega
              clear hr2 h16
              go_wp2_with (go_at_call 11; first
                | ((with_reducible refine (HRA.out _ (by assumption)).mono ?_); rintro e u1 ⟨rfl, j1⟩; have k1 := k0.trans j1)
                | ((with_reducible refine (HRB.out _ k1).mono ?_); rintro e u2 ⟨rfl, j2⟩))
              go_meet
              exact ⟨rfl, (HK.out.trans j1).trans j2⟩
            · obtain rfl : R = false := by rw [← hr2, decide_eq_false h16]; rfl
              have h16' : ¬ (N3 : Int) ≤ 16 := by omega
              clear hr2 h16
              go_wp2_with (go_at_call 11; first
                | ((with_reducible refine (HRA.out _ (by assumption)).mono ?_); rintro e u1 ⟨rfl, j1⟩; have k1 := k0.trans j1)
                | ((with_reducible refine (HRB.out _ k1).mono ?_); rintro e u2 ⟨rfl, j2⟩))
              go_meet
              exact ⟨by rw [decide_eq_false (by omega)], (HK.out.trans j1).trans j2⟩
      case rest =>
        obtain ⟨rfl, k3⟩ := hcut
        clear k0 hk
        have k0 := KW.out.trans k3
        have hy1 : ya ≤ 20000 := by omega
        have hy2 : yb ≤ 20000 := by omega
        go_wp2_with (first
          | (go_at_call 13; first
            | ((with_reducible refine (HUL.out _ (by assumption)).mono ?_); rintro e u1 ⟨rfl, j1⟩; have q3 := k3.trans j1; have q0 := k0.trans j1)
            | ((with_reducible refine (HUA.out _ q0).mono ?_); rintro e u2 ⟨rfl, j2⟩; have r3 := q3.trans j2; have r0 := q0.trans j2)
            | ((with_reducible refine (HUB.out _ r0).mono ?_); rintro e u4 ⟨rfl, j4⟩; have s3 := r3.trans j4; have s0 := r0.trans j4))
          | (go_at_call 15; refine (HTL.out _ s3).mono ?_; rintro e u5 ⟨rfl, j5⟩; have t3 := s3.trans j5; have t0 := s0.trans j5)
          | (go_at_call 11; refine (HRL.out _ t3).mono ?_; rintro e u6 ⟨rfl, j6⟩; have v0 := t0.trans j6)
          | (go_at_call 8; refine (HAW.out _ v0).mono ?_; rintro e u7 ⟨rfl, j7⟩; have x0 := v0.trans j7))
        all_goals go_ret
        all_goals exact ⟨by simp, x0⟩
  · have HA := Lib.hid (HAW.out w (Kept.refl _))
    rcases (by omega : 20 < N ∨ N ≤ 20 ∧ 20 < M) with h | ⟨h, h'⟩
    · have h1 : 20 < (N : Int) := by omega
      clear ha hb hfa hfb hE hN hM HAW hbig hm hm2 h
      go_enter Tryd.func7, Tryd.ntmps7
      go_wp2_with (go_at_call 8; refine HA.out.mono ?_; rintro e w' ⟨rfl, hk⟩)
      go_ret
      exact ⟨rfl, hk⟩
    · have h1 : ¬ 20 < (N : Int) := by omega
      have h2 : 20 < (M : Int) := by omega
      clear ha hb hfa hfb hE hN hM HAW hbig hm hm2 h h'
      go_enter Tryd.func7, Tryd.ntmps7
      go_wp2_with (go_at_call 8; refine HA.out.mono ?_; rintro e w' ⟨rfl, hk⟩)
      go_ret
      exact ⟨rfl, hk⟩

end Go.Proofs.YtkifekchalppnaaDoor.Pg
