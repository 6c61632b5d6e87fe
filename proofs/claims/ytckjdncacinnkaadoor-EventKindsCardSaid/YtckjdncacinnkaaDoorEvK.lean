/- The laws of events: EventKinds; EventBelow. -/
import Derived.Test.YtckjdncacinnkaaDoorEvL
namespace Go.Proofs.YtckjdncacinnkaaDoor.Ev
open Go.RowKit Go.Sort Go.Shelf IdM Se EvM Blk It
open St (Kept blk_cell blk_free blk_lt blk_set blk_new ret_str size_list)
open Go.Proofs.YtckjdncacinnkaaDoor.Rv
open Go.Proofs.YtckjdncacinnkaaDoor.Ls
open Go.Proofs.YtckjdncacinnkaaDoor.Ad (load_l store_new)
open Go.Proofs.YtckjdncacinnkaaDoor.Tb (Lk kr_lk lk_load Kr encK enc_key lk_take same_any)
open Au (Stab stab_kept stab_and)
set_option linter.unusedVariables false
set_option linter.unusedSimpArgs false
set_option maxRecDepth 20000

theorem kinds_le (L : List Ev) (n : Nat) : kinds L n ≤ L.length := by
  induction L with
  | nil => rw [kinds_nil]; exact Nat.le_refl _
  | cons e l ih => rw [kinds_cons, List.length_cons]; split <;> omega

set_option maxHeartbeats 4000000 in
theorem kinds_law {w : World} {v : Value} {L : List Ev} (hv : Le w v L) (ht : Tab w) : Calls Tryd.prog 4 #[v] w fun e w' => e = .returned (.bool true) ∧ Kept w w' := by
  obtain ⟨q, N, cap, rfl, hN, hm⟩ := hv.slice
  have AW := Lib.hid (fun u (hu : Kept w u) => awake_any (ht.kept hu))
  by_cases h60 : 60 < N
  · have h60' : (60 : Int) < (N : Int) := by omega
    have A0 := Lib.hid (AW.out w (Kept.refl w))
    clear hv ht
    go_enter Tryd.func4, Tryd.ntmps4
    go_wp2_with (first | (go_at_call 7; refine A0.out.mono ?_; rintro e' w2 ⟨rfl, k2⟩))
    go_ret
    exact ⟨rfl, k2⟩
  · have h60' : ¬ (60 : Int) < (N : Int) := by omega
    have HV := Lib.hid hv
    have HN := Lib.hid hN
    have hm2 : N ≤ 60 := by omega
    have CO := Lib.hid (fun u (hu : Kept w u) kind => of_any (hv.go hu) (by omega) kind)
    clear hv ht hN hm h60
    go_enter Tryd.func4, Tryd.ntmps4
    go_wp2_with fail
    go_loopw [3, 4] (fun n y wr => ∃ j : Nat, j ≤ 11 ∧ y = .int .i64 ((j : Int) + 1) ∧ n = .int .i64 (kinds L j : Int) ∧ Kept w wr) (fun _ y _ => 12 - (intOf y).toNat)
    case atStart => exact ⟨0, by omega, rfl, rfl, Kept.refl _⟩
    case round =>
      obtain ⟨j, hj, rfl, rfl, hk⟩ := hrel
      obtain ⟨y, hy⟩ : ∃ y : Int, (j : Int) + 1 = y := ⟨_, rfl⟩
      obtain ⟨x, hx⟩ : ∃ x : Nat, kinds L j = x := ⟨_, rfl⟩
      have hx60 : x ≤ 60 := by have := kinds_le L j; have := HN.out; omega
      rw [hy, hx]
      by_cases hlt : j < 11
      · obtain ⟨z, hz⟩ : ∃ z : Nat, (L.filter (ofP y)).length = z := ⟨_, rfl⟩
        have hz60 : z ≤ 60 := by rw [← hz]; exact Nat.le_trans (List.length_filter_le _ _) (by have := HN.out; omega)
        have hle : y ≤ 11 := by omega
        have hy1 : 1 ≤ y := by omega
        have hyy : y + 1 = ((j + 1 : Nat) : Int) + 1 := by omega
        have HK := Lib.hid (show kinds L (j + 1) = x + z by show kinds L j + _ = _; rw [hx, hy, hz])
        have CY := Lib.hid (CO.out wr hk y)
        have HZ := Lib.hid hz
        have HY := Lib.hid hy
        have HYY := Lib.hid hyy
        clear hx hz hy hyy
        go_upto_region 7 with fail
        go_wp2_with (first | (go_at_call 13; refine CY.out.mono ?_; rintro e' w2 ⟨v2, rfl, r2, k2⟩; obtain ⟨p2, N2, c2, rfl, hN2, _⟩ := r2.slice; obtain rfl : z = N2 := HZ.out.symm.trans hN2))
        go_roundw
        case rel => exact ⟨j + 1, by omega, by rw [HYY.out], by rw [HK.out]; go_num, hk.trans k2⟩
        case measure => have := HY.out; simp [intOf]; omega
      · obtain rfl : j = 11 := by omega
        have hgt : ¬ y ≤ 11 := by omega
        have HX := Lib.hid hx
        clear hx hy
        go_wp2_with fail
        go_loopw [5, 6] (fun n y wr2 => ∃ i : Nat, i ≤ N ∧ y = .int .i64 (i : Int) ∧ n = .int .i64 (((L.take i).filter outP).length : Int) ∧ Kept w wr2) (fun _ y _ => N - (intOf y).toNat)
        case atStart => exact ⟨0, Nat.zero_le _, rfl, rfl, hk⟩
        case round =>
          obtain ⟨i, hi, rfl, rfl, hk2⟩ := hrel
          obtain ⟨m, hmm⟩ : ∃ m : Nat, ((L.take i).filter outP).length = m := ⟨_, rfl⟩
          have hm60 : m ≤ 60 := by rw [← hmm]; exact Nat.le_trans (filt_le _ _ _) (by have := HN.out; omega)
          rw [hmm]
          by_cases hlt2 : i < N
          · obtain ⟨e, b, off, he, rfl, hb, hc⟩ := (HV.out.go hk2).pick (i := i) (by rw [HN.out]; exact hlt2)
            have hi1 : (i : Int) < N := by omega
            have c0 : wr.cell? ⟨b, off + i * 18, none⟩ = some (.int .i64 e.kind) := hc 0 _ rfl
            by_cases hlo : e.kind < 1
            · have HF := Lib.hid (show ((L.take (i + 1)).filter outP).length = m + 1 by rw [filt_yes he (show outP e = true from decide_eq_true (.inl hlo)), List.length_append, hmm]; rfl)
              clear he hb hc hmm
              go_wp2_with fail
              go_roundw
              case rel => exact ⟨i + 1, hlt2, by go_num, by rw [HF.out]; go_num, hk2⟩
              case measure => simp [intOf]; omega
            · by_cases hhi : 11 < e.kind
              · have HF := Lib.hid (show ((L.take (i + 1)).filter outP).length = m + 1 by rw [filt_yes he (show outP e = true from decide_eq_true (.inr hhi)), List.length_append, hmm]; rfl)
                clear he hb hc hmm
                go_wp2_with fail
                go_roundw
                case rel => exact ⟨i + 1, hlt2, by go_num, by rw [HF.out]; go_num, hk2⟩
                case measure => simp [intOf]; omega
              · have HF := Lib.hid (show ((L.take (i + 1)).filter outP).length = m by rw [filt_no he (show outP e = false from decide_eq_false (by omega)), hmm])
                clear he hb hc hmm
                go_wp2_with fail
                go_roundw
                case rel => exact ⟨i + 1, hlt2, by go_num, by rw [HF.out], hk2⟩
                case measure => simp [intOf]; omega
          · obtain rfl : i = N := by omega
            have hkk : L.take i = L := List.take_of_length_le (Nat.le_of_eq HN.out)
            rw [hkk] at hmm
            have hsum : x + m = i := by rw [← HX.out, ← hmm, kinds_all, HN.out]
            have hs1 : (x : Int) + (m : Int) = (i : Int) := by omega
            have A0 := Lib.hid (AW.out wr hk2)
            clear hmm hkk hsum
            go_wp2_with (first | (go_at_call 7; refine A0.out.mono ?_; rintro e' w2 ⟨rfl, k2⟩))
            go_ret
            exact ⟨rfl, hk2.trans k2⟩

end Go.Proofs.YtckjdncacinnkaaDoor.Ev
