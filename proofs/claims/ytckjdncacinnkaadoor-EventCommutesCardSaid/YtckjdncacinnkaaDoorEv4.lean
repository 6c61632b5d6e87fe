/- The document's events: is a key among some?; who is below whom. -/
import Derived.Test.YtckjdncacinnkaaDoorEv3
namespace Go.Proofs.YtckjdncacinnkaaDoor.Ev
open Go.RowKit Go.Sort Go.Shelf IdM Se EvM Blk
open St (Kept blk_cell blk_free blk_lt blk_set blk_new)
open Go.Proofs.YtckjdncacinnkaaDoor.Rv
open Go.Proofs.YtckjdncacinnkaaDoor.Ls
open Go.Proofs.YtckjdncacinnkaaDoor.Ad (load_l store_new)
open Go.Proofs.YtckjdncacinnkaaDoor.Tb (Lk kr_lk lk_load Kr encK enc_key lk_take)
open Wh (Fr)
set_option linter.unusedVariables false
set_option linter.unusedSimpArgs false
set_option maxRecDepth 20000

theorem has_snoc {K : List Ke} {k x : Ke} {i : Nat} (h : k ∉ K.take i) (hx : K[i]? = some x) (hn : x ≠ k) : k ∉ K.take (i + 1) := by
  rw [List.take_add_one, hx]
  intro hc
  rcases List.mem_append.1 hc with hc | hc
  · exact h hc
  · simp only [Option.toList_some, List.mem_singleton] at hc
    exact hn hc.symm

set_option maxHeartbeats 2000000 in
theorem has_any {w : World} {v : Value} {K : List Ke} (hv : Lk w v K) (k : Ke) :
    Calls Tryd.prog 20 #[v, kv k] w fun e w' => e = .returned (.bool (decide (k ∈ K))) ∧ Kept w w' := by
  obtain ⟨q, N, cap, rfl, hN, hm⟩ := hv.slice
  obtain ⟨W, hW⟩ : ∃ W, w.alloc (.cells #[.int .i64 k.n, .int .i64 k.i, .int .i64 k.s, .int .i64 k.a] 26) = W := ⟨_, rfl⟩
  have hB : Bl w W [(#[.int .i64 k.n, .int .i64 k.i, .int .i64 k.s, .int .i64 k.a], 26)] := hW ▸ Bl.one w _ _
  have lk := fun (u : World) (hu : Kept W u) => lk_blk (u := u) (b := w.heap.size) (k := k) (kept_at hu (hB.blk 0 rfl))
  obtain ⟨R, hR⟩ : ∃ R, decide (k ∈ K) = R := ⟨_, rfl⟩
  rw [hR]
  have LK := Lib.hid lk
  have HV := Lib.hid (hv.go hB.kept)
  have HN := Lib.hid hN
  have HB := Lib.hid hB
  have HW := Lib.hid hW
  have HR := Lib.hid hR
  have hm2 : N ≤ 9223372036854775807 := by unfold maxLen at hm; omega
  clear hv hN hm hB hW lk hR
  unfold kv
  go_enter Tryd.func20, Tryd.ntmps20
  go_upto_region 1 with fail
  rw [HW.out]
  go_wp2_with fail
  go_loopw [5] (fun y wr => ∃ i : Nat, i ≤ N ∧ y = .int .i64 (i : Int) ∧ Kept W wr ∧ Hid (k ∉ K.take i)) (fun y _ => N - (intOf y).toNat)
  case atStart => exact ⟨0, Nat.zero_le _, rfl, Kept.refl _, Lib.hid (by simp)⟩
  case round =>
    obtain ⟨i, hi, rfl, hk, hA⟩ := hrel
    by_cases hlt : i < N
    · obtain ⟨x, b, off, hx, rfl, hb, hc⟩ := (HV.out.go hk).pick (i := i) (by rw [HN.out]; exact hlt)
      have L1 := Ad.loadk_regrown (W := wr) (p := ⟨b, off + i * 4, none⟩) (fun u hu => lk_load fun j z hj => (Below.cell hu (p := ⟨b, _, none⟩) hb).trans (hc j z hj))
      have L2 := Ad.loadk_regrown (W := wr) (fun u hu => LK.out u (hk.trans hu))
      obtain ⟨z, hz⟩ : ∃ z, decide (x = k) = z := ⟨_, rfl⟩
      have he := fun u => eq_key x.n x.i x.s x.a k.n k.i k.s k.a u
      rw [show (⟨x.n, x.i, x.s, x.a⟩ : Ke) = x from rfl, show (⟨k.n, k.i, k.s, k.a⟩ : Ke) = k from rfl, hz] at he
      have HX := Lib.hid hx
      have HZ := Lib.hid hz
      have hi1 : (i : Int) < N := by omega
      clear hx hc hz
      unfold kv at L1 L2
      go_wp2_with fail
      refine wp_region_quiet_below (by kernel_rfl) (by kernel_rfl) ?_
      repeat (first
        | (go_big_quiet_want; refine Ad.quiet_load 26 (.tmp 14) rfl _ rfl _ L1.out ?_; simp only [Act.put, List.setIfInBounds_toArray, List.set_cons_succ, List.set_cons_zero]; go_big_quiet_on)
        | (go_big_quiet_want; refine Ad.quiet_load 26 (.tmp 3) rfl _ rfl _ L2.out ?_; simp only [Act.put, List.setIfInBounds_toArray, List.set_cons_succ, List.set_cons_zero]; go_big_quiet_on)
        | go_big_quiet_step (fail))
      refine wpQuiet_nil ?_
      intro _ hw'
      obtain ⟨⟨dq, osq⟩, hw''⟩ := hw'
      subst hw''
      have hk2 := hk.trans (below_regrown wr dq osq)
      cases z
      · go_wp2_with fail
        go_roundw
        case rel => exact ⟨i + 1, hlt, by go_num, hk2, Lib.hid (has_snoc hA.out HX.out (of_decide_eq_false HZ.out))⟩
        case measure => simp [intOf]; omega
      · have HE := Lib.hid (show R = true by
          rw [← HR.out]
          exact decide_eq_true (by rw [← of_decide_eq_true HZ.out]; exact List.mem_of_getElem? HX.out))
        go_wp2_with fail
        go_ret
        exact ⟨congrArg (fun b => Ending.returned (.bool b)) HE.out.symm, HB.out.kept.trans hk2⟩
    · obtain rfl : i = N := by omega
      have HE := Lib.hid (show R = false by
        rw [← HR.out]
        have h1 := hA.out
        rw [List.take_of_length_le (Nat.le_of_eq HN.out)] at h1
        exact decide_eq_false h1)
      go_wp2_with fail
      go_ret
      exact ⟨congrArg (fun b => Ending.returned (.bool b)) HE.out.symm, HB.out.kept.trans hk⟩

/-! ### who is below whom, one by one -/
theorem beg_kind {k : Ke} {out : List Ke} {e : Ev} (h : (e.kind == 3) = false) : begB k out e = false := by
  unfold begB; rw [show decide (e.kind = 3) = false from h]; rfl
theorem beg_none {k : Ke} {out : List Ke} {e : Ev} (h : decide (e.par = k) = false) (h2 : decide (e.par ∈ out) = false) : begB k out e = false := by
  unfold begB; rw [h, h2]; simp
theorem beg_self {k : Ke} {out : List Ke} {e : Ev} (h : decide (e.key = k) = true) : begB k out e = false := by
  unfold begB; rw [h]; simp
theorem beg_told {k : Ke} {out : List Ke} {e : Ev} (h : decide (e.key ∈ out) = true) : begB k out e = false := by
  unfold begB; rw [h]; simp
theorem beg_yes {k : Ke} {out : List Ke} {e : Ev} (h3 : (e.kind == 3) = true) (h : decide (e.par = k) = true ∨ decide (e.par ∈ out) = true) (h1 : decide (e.key = k) = false) (h2 : decide (e.key ∈ out) = false) : begB k out e = true := by
  unfold begB
  rw [show decide (e.kind = 3) = true from h3, h1, h2]
  rcases h with h | h <;> rw [h] <;> simp
theorem bel_no {k : Ke} {L : List Ev} {i : Nat} {e : Ev} (he : L[i]? = some e) (h : begB k (bel k (L.take i)) e = false) : bel k (L.take (i + 1)) = bel k (L.take i) := by
  rw [bel_take he, bstep, if_neg (by rw [h]; exact Bool.noConfusion)]
theorem bel_yes {k : Ke} {L : List Ev} {i : Nat} {e : Ev} (he : L[i]? = some e) (h : begB k (bel k (L.take i)) e = true) : bel k (L.take (i + 1)) = bel k (L.take i) ++ [e.key] := by
  rw [bel_take he, bstep, if_pos h]
theorem bel_most (k : Ke) (L : List Ev) (i : Nat) : (bel k (L.take i)).length ≤ L.length := Nat.le_trans (bel_len _ _) (by rw [List.length_take]; omega)

set_option maxHeartbeats 8000000 in
theorem rbelow_any {w : World} {v : Value} {L : List Ev} (hv : Le w v L) (hl : L.length ≤ 900000) (k : Ke) :
    Calls Tryd.prog 19 #[v, kv k] w (tellK w (bel k L)) := by
  obtain ⟨q, N, cap, rfl, hN, hm⟩ := hv.slice
  obtain ⟨W, hW⟩ : ∃ W, w.alloc (.cells #[.int .i64 k.n, .int .i64 k.i, .int .i64 k.s, .int .i64 k.a] 26) = W := ⟨_, rfl⟩
  have hB : Bl w W [(#[.int .i64 k.n, .int .i64 k.i, .int .i64 k.s, .int .i64 k.a], 26)] := hW ▸ Bl.one w _ _
  have lk := fun (u : World) (hu : Kept W u) => lk_blk (u := u) (b := w.heap.size) (k := k) (kept_at hu (hB.blk 0 rfl))
  have LK := Lib.hid lk
  have HV := Lib.hid (hv.go hB.kept)
  have HN := Lib.hid hN
  have HB := Lib.hid hB
  have HW := Lib.hid hW
  have hm2 : N ≤ 900000 := by omega
  clear hv hN hm hB hW lk
  unfold kv
  go_enter Tryd.func19, Tryd.ntmps19
  go_upto_region 1 with fail
  rw [HW.out]
  go_wp2_with fail
  go_loopw [5, 6] (fun d y wr => ∃ i : Nat, i ≤ N ∧ y = .int .i64 (i : Int) ∧ Hid (Kept W wr) ∧ Hid (Kr wr d (bel k (L.take i))) ∧ Hid (∀ g, d.ownBlock = some g → W.heap.size ≤ g)) (fun _ y _ => N - (intOf y).toNat)
  case atStart => exact ⟨0, Nat.zero_le _, rfl, Lib.hid (Kept.refl _), Lib.hid (rowv_nil _ _ _ _), Lib.hid (fun g e => by cases e)⟩
  case round =>
    obtain ⟨i, hi, rfl, hk, hr, ho⟩ := hrel
    by_cases hlt : i < N
    · obtain ⟨e, b, off, he, rfl, hb, hc⟩ := (HV.out.go hk.out).pick (i := i) (by rw [HN.out]; exact hlt)
      have hi1 : (i : Int) < N := by omega
      have l0 := load_ev hc
      obtain ⟨A, hA⟩ : ∃ A, arr e = A := ⟨_, rfl⟩
      have sA : A.size = 18 := by rw [← hA]; rfl
      have oA : A.all (·.oneCell') = true := by rw [← hA]; exact arr_one e
      rw [hA] at l0
      obtain ⟨X, hX⟩ : ∃ X, wr.alloc (.cells A 38) = X := ⟨_, rfl⟩
      have hB : Bl wr X [(A, 38)] := hX ▸ Bl.one wr _ _
      have hat : ∀ u, Kept X u → At u wr.heap.size 0 e := fun u hu => at_blk (by rw [hA]; exact kept_at hu (hB.blk 0 rfl))
      have c0 : X.cell? ⟨wr.heap.size, 0, none⟩ = some (.int .i64 e.kind) := hat X (Kept.refl _) 0 _ rfl
      have LE := Lib.hid (fun u (hu : Kept X u) => (hat u hu).key)
      have LP := Lib.hid (fun u (hu : Kept X u) => (hat u hu).par)
      have LQ := Lib.hid (fun u (hu : Kept X u) => LK.out u ((hk.out.trans hB.kept).trans hu))
      obtain ⟨z1, hz1⟩ : ∃ z, (e.kind == 3) = z := ⟨_, rfl⟩
      obtain ⟨z2, hz2⟩ : ∃ z, decide (e.par = k) = z := ⟨_, rfl⟩
      obtain ⟨z3, hz3⟩ : ∃ z, decide (e.par ∈ bel k (L.take i)) = z := ⟨_, rfl⟩
      obtain ⟨z4, hz4⟩ : ∃ z, decide (e.key = k) = z := ⟨_, rfl⟩
      obtain ⟨z5, hz5⟩ : ∃ z, decide (e.key ∈ bel k (L.take i)) = z := ⟨_, rfl⟩
      have hle : (bel k (L.take i)).length ≤ 900000 := Nat.le_trans (bel_most _ _ _) (by have := HN.out; omega)
      have hlk : Hid (∀ u, Kept X u → Lk u _ (bel k (L.take i))) := Lib.hid (fun u hu => kr_lk ((RowV.keep hr.out hB.kept).keep hu) (by omega))
      have H3 := Lib.hid (fun u (hu : Kept X u) => (has_any (hlk.out u hu) e.par).mono (fun e' u' (h : _ ∧ Kept u u') => (⟨h.1, hu.trans h.2⟩ : _ ∧ Kept X u')))
      have H5 := Lib.hid (fun u (hu : Kept X u) => (has_any (hlk.out u hu) e.key).mono (fun e' u' (h : _ ∧ Kept u u') => (⟨h.1, hu.trans h.2⟩ : _ ∧ Kept X u')))
      rw [hz3] at H3
      rw [hz5] at H5
      have he2 : ∀ w, (binOp .eql 26 (kv e.par) (kv k)).run Tryd.prog w = .ok (.bool z2) w := fun w => by rw [← hz2]; exact eq_key e.pn e.pi e.ps e.pa k.n k.i k.s k.a w
      have he4 : ∀ w, (binOp .neq 26 (kv e.key) (kv k)).run Tryd.prog w = .ok (.bool (!z4)) w := fun w => by rw [← hz4]; exact neq_key e.kn e.ki e.ks e.ka k.n k.i k.s k.a w
      have HE := Lib.hid he
      have HZ := Lib.hid (And.intro hz2 (And.intro hz3 (And.intro hz4 hz5)))
      have kX := Kept.refl X
      have HBX := Lib.hid hB
      have HX := Lib.hid hX
      clear he hc hb hA hX hB hat hz2 hz3 hz4 hz5
      unfold kv at LE LP LQ H3 H5 he2 he4
      have HKX := Lib.hid (hk.out.trans HBX.out.kept)
      have RR := Lib.hid (fun u (hu : Kept X u) => (RowV.keep hr.out HBX.out.kept).keep hu)
      cases z1
      · have HD := Lib.hid (bel_no (k := k) HE.out (beg_kind hz1))
        go_upto_region 6 with (first
          | (refine load_l 38 (.tmp 16) rfl _ rfl rfl (.agg A) l0 ?_)
          | (refine store_new rfl 38 (.tmp 7) (.tmp 17) rfl wr.heap.size A rfl rfl wr _ rfl 18 info_ev sA rfl oA ?_; rw [HX.out]))
        go_wp2_with fail
        go_roundw
        case rel => exact ⟨i + 1, hlt, by go_num, Lib.hid (HKX.out.trans (by assumption)), by rw [HD.out]; exact Lib.hid (RR.out _ (by assumption)), ho⟩
        case measure => simp [intOf]; omega
      · cases z2
        · cases z3
          · have HD := Lib.hid (bel_no (k := k) HE.out (beg_none HZ.out.1 HZ.out.2.1))
            go_upto_region 6 with (first
              | (refine load_l 38 (.tmp 16) rfl _ rfl rfl (.agg A) l0 ?_)
              | (refine store_new rfl 38 (.tmp 7) (.tmp 17) rfl wr.heap.size A rfl rfl wr _ rfl 18 info_ev sA rfl oA ?_; rw [HX.out]))
            go_wp2_with (first
              | (refine load_l 26 (.tmp 22) rfl _ rfl rfl _ (LP.out _ (by assumption)) ?_)
              | (refine load_l 26 (.tmp 3) rfl _ rfl rfl _ (LQ.out _ (by assumption)) ?_)
              | (refine load_l 26 (.tmp 28) rfl _ rfl rfl _ (LP.out _ (by assumption)) ?_)
              | (refine load_l 26 (.tmp 34) rfl _ rfl rfl _ (LE.out _ (by assumption)) ?_)
              | (refine load_l 26 (.tmp 41) rfl _ rfl rfl _ (LE.out _ (by assumption)) ?_)
              | (refine load_l 26 (.tmp 47) rfl _ rfl rfl _ (LE.out _ (by assumption)) ?_)
              | (go_at_call 20; first | ((with_reducible refine (H5.out _ (by assumption)).mono ?_); rintro e' v5 ⟨rfl, k5⟩) | ((with_reducible refine (H3.out _ (by assumption)).mono ?_); rintro e' v3 ⟨rfl, k3⟩)))
            go_roundw
            case rel => exact ⟨i + 1, hlt, by go_num, Lib.hid (HKX.out.trans (by assumption)), by rw [HD.out]; exact Lib.hid (RR.out _ (by assumption)), ho⟩
            case measure => simp [intOf]; omega
          · cases z4
            · cases z5
              · have HD := Lib.hid (bel_yes (k := k) HE.out (beg_yes hz1 (.inr HZ.out.2.1) HZ.out.2.2.1 HZ.out.2.2.2))
                go_upto_region 6 with (first
                  | (refine load_l 38 (.tmp 16) rfl _ rfl rfl (.agg A) l0 ?_)
                  | (refine store_new rfl 38 (.tmp 7) (.tmp 17) rfl wr.heap.size A rfl rfl wr _ rfl 18 info_ev sA rfl oA ?_; rw [HX.out]))
                go_wp2_with (first
                  | (refine load_l 26 (.tmp 22) rfl _ rfl rfl _ (LP.out _ (by assumption)) ?_)
                  | (refine load_l 26 (.tmp 3) rfl _ rfl rfl _ (LQ.out _ (by assumption)) ?_)
                  | (refine load_l 26 (.tmp 28) rfl _ rfl rfl _ (LP.out _ (by assumption)) ?_)
                  | (refine load_l 26 (.tmp 34) rfl _ rfl rfl _ (LE.out _ (by assumption)) ?_)
                  | (refine load_l 26 (.tmp 41) rfl _ rfl rfl _ (LE.out _ (by assumption)) ?_)
                  | (refine load_l 26 (.tmp 47) rfl _ rfl rfl _ (LE.out _ (by assumption)) ?_)
                  | (go_at_call 20; first | ((with_reducible refine (H5.out _ (by assumption)).mono ?_); rintro e' v5 ⟨rfl, k5⟩) | ((with_reducible refine (H3.out _ (by assumption)).mono ?_); rintro e' v3 ⟨rfl, k3⟩))
                  | (at_builtin; refine wpList_append_onev enc_key _ rfl (.tmp 46) (.tmp 49) rfl _ _ e.key _ rfl rfl rfl (RR.out _ (by assumption)) hle ?_; intro v9 w9 r9 g9 b9))
                have H9 := Lib.hid (And.intro r9 (own_on (HKX.out.trans (by assumption)) ho.out g9 b9))
                clear r9 g9 b9
                go_roundw
                case rel => exact ⟨i + 1, hlt, by go_num, Lib.hid H9.out.2.1, by rw [HD.out]; exact Lib.hid H9.out.1, Lib.hid H9.out.2.2⟩
                case measure => simp [intOf]; omega
              · have HD := Lib.hid (bel_no (k := k) HE.out (beg_told HZ.out.2.2.2))
                go_upto_region 6 with (first
                  | (refine load_l 38 (.tmp 16) rfl _ rfl rfl (.agg A) l0 ?_)
                  | (refine store_new rfl 38 (.tmp 7) (.tmp 17) rfl wr.heap.size A rfl rfl wr _ rfl 18 info_ev sA rfl oA ?_; rw [HX.out]))
                go_wp2_with (first
                  | (refine load_l 26 (.tmp 22) rfl _ rfl rfl _ (LP.out _ (by assumption)) ?_)
                  | (refine load_l 26 (.tmp 3) rfl _ rfl rfl _ (LQ.out _ (by assumption)) ?_)
                  | (refine load_l 26 (.tmp 28) rfl _ rfl rfl _ (LP.out _ (by assumption)) ?_)
                  | (refine load_l 26 (.tmp 34) rfl _ rfl rfl _ (LE.out _ (by assumption)) ?_)
                  | (refine load_l 26 (.tmp 41) rfl _ rfl rfl _ (LE.out _ (by assumption)) ?_)
                  | (refine load_l 26 (.tmp 47) rfl _ rfl rfl _ (LE.out _ (by assumption)) ?_)
                  | (go_at_call 20; first | ((with_reducible refine (H5.out _ (by assumption)).mono ?_); rintro e' v5 ⟨rfl, k5⟩) | ((with_reducible refine (H3.out _ (by assumption)).mono ?_); rintro e' v3 ⟨rfl, k3⟩)))
                go_roundw
                case rel => exact ⟨i + 1, hlt, by go_num, Lib.hid (HKX.out.trans (by assumption)), by rw [HD.out]; exact Lib.hid (RR.out _ (by assumption)), ho⟩
                case measure => simp [intOf]; omega
            · have HD := Lib.hid (bel_no (k := k) HE.out (beg_self HZ.out.2.2.1))
              go_upto_region 6 with (first
                | (refine load_l 38 (.tmp 16) rfl _ rfl rfl (.agg A) l0 ?_)
                | (refine store_new rfl 38 (.tmp 7) (.tmp 17) rfl wr.heap.size A rfl rfl wr _ rfl 18 info_ev sA rfl oA ?_; rw [HX.out]))
              go_wp2_with (first
                | (refine load_l 26 (.tmp 22) rfl _ rfl rfl _ (LP.out _ (by assumption)) ?_)
                | (refine load_l 26 (.tmp 3) rfl _ rfl rfl _ (LQ.out _ (by assumption)) ?_)
                | (refine load_l 26 (.tmp 28) rfl _ rfl rfl _ (LP.out _ (by assumption)) ?_)
                | (refine load_l 26 (.tmp 34) rfl _ rfl rfl _ (LE.out _ (by assumption)) ?_)
                | (refine load_l 26 (.tmp 41) rfl _ rfl rfl _ (LE.out _ (by assumption)) ?_)
                | (refine load_l 26 (.tmp 47) rfl _ rfl rfl _ (LE.out _ (by assumption)) ?_)
                | (go_at_call 20; first | ((with_reducible refine (H5.out _ (by assumption)).mono ?_); rintro e' v5 ⟨rfl, k5⟩) | ((with_reducible refine (H3.out _ (by assumption)).mono ?_); rintro e' v3 ⟨rfl, k3⟩)))
              go_roundw
              case rel => exact ⟨i + 1, hlt, by go_num, Lib.hid (HKX.out.trans (by assumption)), by rw [HD.out]; exact Lib.hid (RR.out _ (by assumption)), ho⟩
              case measure => simp [intOf]; omega
        · cases z4
          · cases z5
            · have HD := Lib.hid (bel_yes (k := k) HE.out (beg_yes hz1 (.inl HZ.out.1) HZ.out.2.2.1 HZ.out.2.2.2))
              go_upto_region 6 with (first
                | (refine load_l 38 (.tmp 16) rfl _ rfl rfl (.agg A) l0 ?_)
                | (refine store_new rfl 38 (.tmp 7) (.tmp 17) rfl wr.heap.size A rfl rfl wr _ rfl 18 info_ev sA rfl oA ?_; rw [HX.out]))
              go_wp2_with (first
                | (refine load_l 26 (.tmp 22) rfl _ rfl rfl _ (LP.out _ (by assumption)) ?_)
                | (refine load_l 26 (.tmp 3) rfl _ rfl rfl _ (LQ.out _ (by assumption)) ?_)
                | (refine load_l 26 (.tmp 28) rfl _ rfl rfl _ (LP.out _ (by assumption)) ?_)
                | (refine load_l 26 (.tmp 34) rfl _ rfl rfl _ (LE.out _ (by assumption)) ?_)
                | (refine load_l 26 (.tmp 41) rfl _ rfl rfl _ (LE.out _ (by assumption)) ?_)
                | (refine load_l 26 (.tmp 47) rfl _ rfl rfl _ (LE.out _ (by assumption)) ?_)
                | (go_at_call 20; first | ((with_reducible refine (H5.out _ (by assumption)).mono ?_); rintro e' v5 ⟨rfl, k5⟩) | ((with_reducible refine (H3.out _ (by assumption)).mono ?_); rintro e' v3 ⟨rfl, k3⟩))
                | (at_builtin; refine wpList_append_onev enc_key _ rfl (.tmp 46) (.tmp 49) rfl _ _ e.key _ rfl rfl rfl (RR.out _ (by assumption)) hle ?_; intro v9 w9 r9 g9 b9))
              have H9 := Lib.hid (And.intro r9 (own_on (HKX.out.trans (by assumption)) ho.out g9 b9))
              clear r9 g9 b9
              go_roundw
              case rel => exact ⟨i + 1, hlt, by go_num, Lib.hid H9.out.2.1, by rw [HD.out]; exact Lib.hid H9.out.1, Lib.hid H9.out.2.2⟩
              case measure => simp [intOf]; omega
            · have HD := Lib.hid (bel_no (k := k) HE.out (beg_told HZ.out.2.2.2))
              go_upto_region 6 with (first
                | (refine load_l 38 (.tmp 16) rfl _ rfl rfl (.agg A) l0 ?_)
                | (refine store_new rfl 38 (.tmp 7) (.tmp 17) rfl wr.heap.size A rfl rfl wr _ rfl 18 info_ev sA rfl oA ?_; rw [HX.out]))
              go_wp2_with (first
                | (refine load_l 26 (.tmp 22) rfl _ rfl rfl _ (LP.out _ (by assumption)) ?_)
                | (refine load_l 26 (.tmp 3) rfl _ rfl rfl _ (LQ.out _ (by assumption)) ?_)
                | (refine load_l 26 (.tmp 28) rfl _ rfl rfl _ (LP.out _ (by assumption)) ?_)
                | (refine load_l 26 (.tmp 34) rfl _ rfl rfl _ (LE.out _ (by assumption)) ?_)
                | (refine load_l 26 (.tmp 41) rfl _ rfl rfl _ (LE.out _ (by assumption)) ?_)
                | (refine load_l 26 (.tmp 47) rfl _ rfl rfl _ (LE.out _ (by assumption)) ?_)
                | (go_at_call 20; first | ((with_reducible refine (H5.out _ (by assumption)).mono ?_); rintro e' v5 ⟨rfl, k5⟩) | ((with_reducible refine (H3.out _ (by assumption)).mono ?_); rintro e' v3 ⟨rfl, k3⟩)))
              go_roundw
              case rel => exact ⟨i + 1, hlt, by go_num, Lib.hid (HKX.out.trans (by assumption)), by rw [HD.out]; exact Lib.hid (RR.out _ (by assumption)), ho⟩
              case measure => simp [intOf]; omega
          · have HD := Lib.hid (bel_no (k := k) HE.out (beg_self HZ.out.2.2.1))
            go_upto_region 6 with (first
              | (refine load_l 38 (.tmp 16) rfl _ rfl rfl (.agg A) l0 ?_)
              | (refine store_new rfl 38 (.tmp 7) (.tmp 17) rfl wr.heap.size A rfl rfl wr _ rfl 18 info_ev sA rfl oA ?_; rw [HX.out]))
            go_wp2_with (first
              | (refine load_l 26 (.tmp 22) rfl _ rfl rfl _ (LP.out _ (by assumption)) ?_)
              | (refine load_l 26 (.tmp 3) rfl _ rfl rfl _ (LQ.out _ (by assumption)) ?_)
              | (refine load_l 26 (.tmp 28) rfl _ rfl rfl _ (LP.out _ (by assumption)) ?_)
              | (refine load_l 26 (.tmp 34) rfl _ rfl rfl _ (LE.out _ (by assumption)) ?_)
              | (refine load_l 26 (.tmp 41) rfl _ rfl rfl _ (LE.out _ (by assumption)) ?_)
              | (refine load_l 26 (.tmp 47) rfl _ rfl rfl _ (LE.out _ (by assumption)) ?_)
              | (go_at_call 20; first | ((with_reducible refine (H5.out _ (by assumption)).mono ?_); rintro e' v5 ⟨rfl, k5⟩) | ((with_reducible refine (H3.out _ (by assumption)).mono ?_); rintro e' v3 ⟨rfl, k3⟩)))
            go_roundw
            case rel => exact ⟨i + 1, hlt, by go_num, Lib.hid (HKX.out.trans (by assumption)), by rw [HD.out]; exact Lib.hid (RR.out _ (by assumption)), ho⟩
            case measure => simp [intOf]; omega
    · obtain rfl : i = N := by omega
      have hkk : L.take i = L := List.take_of_length_le (Nat.le_of_eq HN.out)
      rw [hkk] at hr
      go_wp2_with fail
      go_ret
      exact ⟨_, rfl, kr_lk hr.out (Nat.le_trans (bel_len _ _) (by have := HN.out; omega)), HB.out.kept.trans hk.out⟩

end Go.Proofs.YtckjdncacinnkaaDoor.Ev
