/- The document's events: those of a kind, of an attempt; is a key among some?; who is below whom; are two rows the same? -/
import Derived.Test.YtckjdncacinnkaaDoorEv2
namespace Go.Proofs.YtckjdncacinnkaaDoor.Ev
open Go.RowKit Go.Sort Go.Shelf IdM Se EvM Blk
open St (Kept blk_cell blk_free blk_lt blk_set blk_new)
open Go.Proofs.YtckjdncacinnkaaDoor.Rv
open Go.Proofs.YtckjdncacinnkaaDoor.Ls
open Go.Proofs.YtckjdncacinnkaaDoor.Ad (load_l store_new)
open Go.Proofs.YtckjdncacinnkaaDoor.Tb (Lk kr_lk lk_load Kr encK enc_key lk_take)
open Wh (Fr)
set_option linter.unusedVariables false
set_option linter.unusedSimpArgs false
set_option maxRecDepth 20000

theorem lk_blk {u : World} {b : Nat} {k : Ke} (h : u.heap[b]? = some (.cells #[.int .i64 k.n, .int .i64 k.i, .int .i64 k.s, .int .i64 k.a] 26 (0, 0))) : (loadVar 26 ⟨b, 0, none⟩).run Tryd.prog u = .ok (kv k) u :=
  lk_load (fun j z hj => by rw [Nat.zero_add, blk_cell h]; simpa [encK] using hj)

set_option maxHeartbeats 2000000 in
theorem rof_any {w : World} {v : Value} {L : List Ev} (hv : Le w v L) (hl : L.length ≤ 900000) (kind : Int) :
    Calls Tryd.prog 14 #[v, .int .i64 kind] w (tellE w (L.filter (ofP kind))) := by
  obtain ⟨q, N, cap, rfl, hN, hm⟩ := hv.slice
  have HV := Lib.hid hv
  have HN := Lib.hid hN
  have hm2 : N ≤ 900000 := by omega
  clear hv hN hm
  go_enter Tryd.func14, Tryd.ntmps14
  go_wp2_with fail
  go_loopw [5, 6] (fun d y wr => ∃ i : Nat, i ≤ N ∧ y = .int .i64 (i : Int) ∧ Hid (Kept w wr) ∧ Hid (Er wr d ((L.take i).filter (ofP kind))) ∧ Hid (∀ g, d.ownBlock = some g → w.heap.size ≤ g)) (fun _ y _ => N - (intOf y).toNat)
  case atStart => exact ⟨0, Nat.zero_le _, rfl, Lib.hid (Kept.refl _), Lib.hid (rowv_nil _ _ _ _), Lib.hid (fun g e => by cases e)⟩
  case round =>
    obtain ⟨i, hi, rfl, hk, hr, ho⟩ := hrel
    by_cases hlt : i < N
    · obtain ⟨e, b, off, he, rfl, hb, hc⟩ := (HV.out.go hk.out).pick (i := i) (by rw [HN.out]; exact hlt)
      have hi1 : (i : Int) < N := by omega
      have l1 := load_ev hc
      have c0 : wr.cell? ⟨b, off + i * 18, none⟩ = some (.int .i64 e.kind) := hc 0 _ rfl
      obtain ⟨A, hA⟩ : ∃ A, arr e = A := ⟨_, rfl⟩
      have sA : A.size = 18 := by rw [← hA]; rfl
      have hfx := fold_ev e hA
      have HA := Lib.hid (show (encE e).toArray = A by rw [enc_arr, hA])
      rw [hA] at l1
      obtain ⟨z, hz⟩ : ∃ z, (e.kind == kind) = z := ⟨_, rfl⟩
      clear hA hc hb
      cases z
      · have HD := Lib.hid (filt_no (p := ofP kind) he hz)
        clear he
        go_wp2_with fail
        go_roundw
        case rel => exact ⟨i + 1, hlt, by go_num, hk, by rw [HD.out]; exact hr, ho⟩
        case measure => simp [intOf]; omega
      · have HD := Lib.hid (filt_yes (p := ofP kind) he hz)
        have hle : ((L.take i).filter (ofP kind)).length ≤ 900000 := Nat.le_trans (filt_le _ _ _) (by have := HN.out; omega)
        clear he
        go_wp2_with (first
          | (refine load_l 38 (.tmp 23) rfl _ rfl rfl (.agg A) l1 ?_)
          | (at_builtin; refine wpList_append_onev enc_ev wr rfl (.tmp 20) (.tmp 25) rfl _ _ e A HA.out rfl rfl hr.out hle ?_; intro v3 w3 r3 g3 b3))
        have H3 := Lib.hid (And.intro r3 (own_on hk.out ho.out g3 b3))
        clear r3 g3 b3
        go_roundw
        case rel => exact ⟨i + 1, hlt, by go_num, Lib.hid H3.out.2.1, by rw [HD.out]; exact Lib.hid H3.out.1, Lib.hid H3.out.2.2⟩
        case measure => simp [intOf]; omega
    · obtain rfl : i = N := by omega
      have hkk : L.take i = L := List.take_of_length_le (Nat.le_of_eq HN.out)
      rw [hkk] at hr
      go_wp2_with fail
      go_ret
      exact ⟨_, rfl, er_le hr.out (Nat.le_trans (List.length_filter_le _ _) (by have := HN.out; omega)), hk.out⟩

set_option maxHeartbeats 2000000 in
theorem rkey_any {w : World} {v : Value} {L : List Ev} (hv : Le w v L) (hl : L.length ≤ 900000) (k : Ke) :
    Calls Tryd.prog 16 #[v, kv k] w (tellE w (L.filter (keyP k))) := by
  obtain ⟨q, N, cap, rfl, hN, hm⟩ := hv.slice
  obtain ⟨W, hW⟩ : ∃ W, w.alloc (.cells #[.int .i64 k.n, .int .i64 k.i, .int .i64 k.s, .int .i64 k.a] 26) = W := ⟨_, rfl⟩
  have hB : Bl w W [(#[.int .i64 k.n, .int .i64 k.i, .int .i64 k.s, .int .i64 k.a], 26)] := hW ▸ Bl.one w _ _
  have lk := fun (u : World) (hu : Kept W u) => lk_blk (u := u) (b := w.heap.size) (k := k) (kept_at hu (hB.blk 0 rfl))
  have LK := Lib.hid lk
  have HV := Lib.hid (hv.go hB.kept)
  have HN := Lib.hid hN
  have HB := Lib.hid hB
  have HW := Lib.hid hW
  have hm2 : N ≤ 900000 := by omega
  clear hv hN hm hB hW lk
  unfold kv
  go_enter Tryd.func16, Tryd.ntmps16
  go_upto_region 1 with fail
  rw [HW.out]
  go_wp2_with fail
  go_loopw [5, 6] (fun d y wr => ∃ i : Nat, i ≤ N ∧ y = .int .i64 (i : Int) ∧ Hid (Kept W wr) ∧ Hid (Er wr d ((L.take i).filter (keyP k))) ∧ Hid (∀ g, d.ownBlock = some g → W.heap.size ≤ g)) (fun _ y _ => N - (intOf y).toNat)
  case atStart => exact ⟨0, Nat.zero_le _, rfl, Lib.hid (Kept.refl _), Lib.hid (rowv_nil _ _ _ _), Lib.hid (fun g e => by cases e)⟩
  case round =>
    obtain ⟨i, hi, rfl, hk, hr, ho⟩ := hrel
    by_cases hlt : i < N
    · obtain ⟨e, b, off, he, rfl, hb, hc⟩ := (HV.out.go hk.out).pick (i := i) (by rw [HN.out]; exact hlt)
      have hi1 : (i : Int) < N := by omega
      have hat : At wr b (off + i * 18) e := hc
      have L1 := Lib.hid (fun (u : World) (hu : Kept wr u) => (hat.go hu hb).all)
      have L2 := Ad.loadk_regrown (W := wr) (fun u hu => (hat.go hu hb).key)
      have L3 := Ad.loadk_regrown (W := wr) (fun u hu => LK.out u (hk.out.trans hu))
      have c0 := cell_regrown (show wr.cell? ⟨b, off + i * 18, none⟩ = some (.int .i64 e.kind) from hc 0 _ rfl)
      obtain ⟨A, hA⟩ : ∃ A, arr e = A := ⟨_, rfl⟩
      have sA : A.size = 18 := by rw [← hA]; rfl
      have hfx := fold_ev e hA
      have HA := Lib.hid (show (encE e).toArray = A by rw [enc_arr, hA])
      rw [hA] at L1
      have he1 := fun w => eq_key e.kn e.ki e.ks e.ka k.n k.i k.s k.a w
      obtain ⟨z, hz⟩ : ∃ z, decide (e.key = k) = z := ⟨_, rfl⟩
      obtain ⟨y, hy⟩ : ∃ y, (e.kind != 9) = y := ⟨_, rfl⟩
      have hp : keyP k e = (y && z) := by rw [← hy, ← hz]; unfold keyP; congr 1; rw [Bool.eq_iff_iff]; simp
      have he2 : ∀ w, (binOp .eql 26 (kv e.key) (kv k)).run Tryd.prog w = .ok (.bool z) w := fun w => by rw [← hz]; exact he1 w
      unfold kv at L2 L3 he2
      clear hA hc hb hat he1 hz
      cases y <;> cases z
      case true.true =>
        have HD := Lib.hid (filt_yes he hp)
        have hle : ((L.take i).filter (keyP k)).length ≤ 900000 := Nat.le_trans (filt_le _ _ _) (by have := HN.out; omega)
        clear he hp
        go_wp2_with fail
        refine wp_region_quiet_below (by kernel_rfl) (by kernel_rfl) ?_
        repeat (first
          | (go_big_quiet_want; refine Ad.quiet_load 26 (.tmp 16) rfl _ rfl _ L2.out ?_; simp only [Act.put, List.setIfInBounds_toArray, List.set_cons_succ, List.set_cons_zero]; go_big_quiet_on)
          | (go_big_quiet_want; refine Ad.quiet_load 26 (.tmp 3) rfl _ rfl _ L3.out ?_; simp only [Act.put, List.setIfInBounds_toArray, List.set_cons_succ, List.set_cons_zero]; go_big_quiet_on)
          | go_big_quiet_step (fail))
        refine wpQuiet_nil ?_
        intro _ hw'
        obtain ⟨⟨dq, osq⟩, hw''⟩ := hw'
        subst hw''
        obtain ⟨w2, hw2⟩ : ∃ w2, grow (redrawn wr dq) osq = w2 := ⟨_, rfl⟩
        have k2 : Kept wr w2 := hw2 ▸ below_regrown wr dq osq
        rw [hw2]
        have l1 := L1.out w2 k2
        have r2 := Lib.hid (RowV.keep hr.out k2)
        have K2 := Lib.hid (hk.out.trans k2)
        clear k2 hw2
        go_wp2_with (first
          | (refine load_l 38 (.tmp 31) rfl _ rfl rfl (.agg A) l1 ?_)
          | (at_builtin; refine wpList_append_onev enc_ev w2 rfl (.tmp 28) (.tmp 33) rfl _ _ e A HA.out rfl rfl r2.out hle ?_; intro v3 w3 r3 g3 b3))
        have H3 := Lib.hid (And.intro r3 (own_on K2.out ho.out g3 b3))
        clear r3 g3 b3
        go_roundw
        case rel => exact ⟨i + 1, hlt, by go_num, Lib.hid H3.out.2.1, by rw [HD.out]; exact Lib.hid H3.out.1, Lib.hid H3.out.2.2⟩
        case measure => simp [intOf]; omega
      all_goals
        have HD := Lib.hid (filt_no he hp)
        clear he hp
        go_wp2_with fail
        refine wp_region_quiet_below (by kernel_rfl) (by kernel_rfl) ?_
        repeat (first
          | (go_big_quiet_want; refine Ad.quiet_load 26 (.tmp 16) rfl _ rfl _ L2.out ?_; simp only [Act.put, List.setIfInBounds_toArray, List.set_cons_succ, List.set_cons_zero]; go_big_quiet_on)
          | (go_big_quiet_want; refine Ad.quiet_load 26 (.tmp 3) rfl _ rfl _ L3.out ?_; simp only [Act.put, List.setIfInBounds_toArray, List.set_cons_succ, List.set_cons_zero]; go_big_quiet_on)
          | go_big_quiet_step (fail))
        refine wpQuiet_nil ?_
        intro _ hw'
        obtain ⟨⟨dq, osq⟩, hw''⟩ := hw'
        subst hw''
        have hk2 := Lib.hid (hk.out.trans (below_regrown wr dq osq))
        have r2 := Lib.hid (RowV.keep hr.out (below_regrown wr dq osq))
        go_wp2_with fail
        go_roundw
        case rel => exact ⟨i + 1, hlt, by go_num, hk2, by rw [HD.out]; exact r2, ho⟩
        case measure => simp [intOf]; omega
    · obtain rfl : i = N := by omega
      have hkk : L.take i = L := List.take_of_length_le (Nat.le_of_eq HN.out)
      rw [hkk] at hr
      go_wp2_with fail
      go_ret
      exact ⟨_, rfl, er_le hr.out (Nat.le_trans (List.length_filter_le _ _) (by have := HN.out; omega)), HB.out.kept.trans hk.out⟩

theorem le_take {K L : List Ev} {i : Nat} {x y : Ev} (h : K.take i = L.take i) (hx : K[i]? = some x) (hy : L[i]? = some y) (e : x = y) : K.take (i + 1) = L.take (i + 1) := by
  rw [List.take_add_one, List.take_add_one, h, hx, hy, e]

set_option maxHeartbeats 2000000 in
theorem rsame_any {w : World} {u v : Value} {K L : List Ev} (hu : Le w u K) (hv : Le w v L) :
    Calls Tryd.prog 12 #[u, v] w fun e w' => e = .returned (.bool (decide (K = L))) ∧ Kept w w' := by
  obtain ⟨p, N, c, rfl, hN, hm⟩ := hu.slice
  obtain ⟨q, M, d, rfl, hM, hm'⟩ := hv.slice
  have hm2 : N ≤ 9223372036854775807 := by unfold maxLen at hm; omega
  obtain ⟨R, hR⟩ : ∃ R, decide (K = L) = R := ⟨_, rfl⟩
  rw [hR]
  have HU := Lib.hid hu
  have HV := Lib.hid hv
  have HN := Lib.hid hN
  have HM := Lib.hid hM
  have HR := Lib.hid hR
  clear hu hv hN hM hR
  by_cases hNM : N = M
  · subst hNM
    have e0 : ((N : Int) == (N : Int)) = true := beq_self_eq_true _
    go_enter Tryd.func12, Tryd.ntmps12
    go_wp2_with fail
    go_loopw [5] (fun x wr => ∃ i : Nat, i ≤ N ∧ x = .int .i64 (i : Int) ∧ Kept w wr ∧ Hid (K.take i = L.take i)) (fun x _ => N - (intOf x).toNat)
    case atStart => exact ⟨0, Nat.zero_le _, rfl, Kept.refl _, rfl⟩
    case round =>
      obtain ⟨i, hi, rfl, hk, hA⟩ := hrel
      by_cases hlt : i < N
      · obtain ⟨x, b, off, hx, rfl, hb, hc⟩ := (HU.out.go hk).pick (i := i) (by rw [HN.out]; exact hlt)
        obtain ⟨y, b', off', hy, rfl, hb', hc'⟩ := (HV.out.go hk).pick (i := i) (by rw [HM.out]; exact hlt)
        have lx := Ad.loadk_regrown (W := wr) (p := ⟨b, off + i * 18, none⟩) (fun u hu => load_ev fun j z hj => (Below.cell hu (p := ⟨b, _, none⟩) hb).trans (hc j z hj))
        have ly := Ad.loadk_regrown (W := wr) (p := ⟨b', off' + i * 18, none⟩) (fun u hu => load_ev fun j z hj => (Below.cell hu (p := ⟨b', _, none⟩) hb').trans (hc' j z hj))
        obtain ⟨z, hz⟩ : ∃ z, decide (x = y) = z := ⟨_, rfl⟩
        have he := fun u => neq_ev x y u
        rw [hz] at he
        have HX := Lib.hid (And.intro hx hy)
        have HZ := Lib.hid hz
        have hi1 : (i : Int) < N := by omega
        clear hx hy hc hc' hz
        go_wp2_with fail
        refine wp_region_quiet_below (by kernel_rfl) (by kernel_rfl) ?_
        repeat (first
          | (go_big_quiet_want; refine Ad.quiet_load 38 (.tmp 19) rfl _ rfl _ lx.out ?_; simp only [Act.put, List.setIfInBounds_toArray, List.set_cons_succ, List.set_cons_zero]; go_big_quiet_on)
          | (go_big_quiet_want; refine Ad.quiet_load 38 (.tmp 23) rfl _ rfl _ ly.out ?_; simp only [Act.put, List.setIfInBounds_toArray, List.set_cons_succ, List.set_cons_zero]; go_big_quiet_on)
          | go_big_quiet_step (fail))
        refine wpQuiet_nil ?_
        intro _ hw'
        obtain ⟨⟨dq, osq⟩, hw''⟩ := hw'
        subst hw''
        have hk2 := hk.trans (below_regrown wr dq osq)
        cases z
        · have HE := Lib.hid (show R = false by
            rw [← HR.out]
            refine decide_eq_false fun c => of_decide_eq_false HZ.out ?_
            have h1 := HX.out.1
            rw [c, HX.out.2] at h1
            exact (Option.some.inj h1).symm)
          go_wp2_with fail
          go_ret
          exact ⟨congrArg (fun b => Ending.returned (.bool b)) HE.out.symm, hk2⟩
        · go_wp2_with fail
          go_roundw
          case rel => exact ⟨i + 1, hlt, by go_num, hk2, le_take hA.out HX.out.1 HX.out.2 (of_decide_eq_true HZ.out)⟩
          case measure => simp [intOf]; omega
      · obtain rfl : i = N := by omega
        have HE := Lib.hid (show R = true by
          rw [← HR.out]
          have h1 := hA.out
          rw [List.take_of_length_le (Nat.le_of_eq HN.out), List.take_of_length_le (Nat.le_of_eq HM.out)] at h1
          exact decide_eq_true h1)
        go_wp2_with fail
        go_ret
        exact ⟨congrArg (fun b => Ending.returned (.bool b)) HE.out.symm, hk⟩
  · have e0 : ((N : Int) == (M : Int)) = false := beq_eq_false_iff_ne.2 (by omega)
    have e1 : ((N : Int) = (M : Int)) = False := eq_false (by omega)
    have HE := Lib.hid (show R = false by
      rw [← HR.out]
      refine decide_eq_false fun c => hNM ?_
      rw [← HN.out, ← HM.out, c])
    rw [HE.out]
    clear HE
    go_enter Tryd.func12, Tryd.ntmps12
    go_wp2_with fail
    go_ret
    exact ⟨rfl, Kept.refl _⟩

end Go.Proofs.YtckjdncacinnkaaDoor.Ev
