/- The walk of the last law of layer 19: ten successes pay for one failure. -/
import Derived.Test.YtijpdfcnbljhiaaThLaws2
namespace Go.Proofs.Ytijpdfcnbljhiaa.Th
open Go.RowKit St Go.Sort Args
set_option linter.unusedVariables false

/-- the list under way: so many failures, and so many successes behind them, in a block of the law's own -/
structure Pay (w : World) (k j : Nat) (v : Value) (u : World) : Prop where
  row : RowB u v (pay k j)
  kept : Kept w u
  own : ∀ g, v.ownBlock = some g → w.heap.size ≤ g
section
variable {w u u' : World} {k j : Nat} {v v' : Value}
theorem Pay.step (h : Pay w k j v u) {o : Obj} (r : RowB u' v' (pay k j ++ [true])) (g : (u.alloc o).grownBy u' v.ownBlock) (b : v'.ownBlock = v.ownBlock ∨ ∃ g, v'.ownBlock = some g ∧ u.heap.size ≤ g) : Pay w k (j + 1) v' u' := by
  have hs := h.kept.size
  refine ⟨by rw [← pay_more]; exact r, ?_, fun x e => ?_⟩
  · exact (((Wh.Fr.kept (S := fun _ => False) h.kept).alloc o).grown g (fun x e => .inr (h.own x e))).keeps (fun _ c => c.elim)
  · rcases b with b | ⟨y, e2, hy⟩
    · exact h.own x (b ▸ e)
    · rw [e2] at e; cases e; omega
theorem Pay.drew (h : Pay w k j v u) : Pay w k j v u.drew := ⟨h.row.kept fun _ _ => rfl, h.kept.drew, h.own⟩
end

set_option maxHeartbeats 1600000 in
theorem pays_law (t n : Int) (hn : (Lit.int .u8 n).wf = true) (w : World) :
    Calls Try.prog 6 #[.int .i64 t, .int .u8 n] w fun e w' => e = .returned (.bool true) ∧ Kept w w' := by
  obtain ⟨n0, n1⟩ := u8_of hn
  obtain ⟨k, rfl⟩ : ∃ k : Nat, n = (k : Int) := ⟨n.toNat, by omega⟩
  have hk1 : k ≤ 255 := by omega
  obtain ⟨T, hT⟩ : ∃ T, tk t = T := ⟨_, rfl⟩
  have T0 : 1 ≤ T := hT ▸ tk_lo t
  have T1 : T ≤ 1000 := hT ▸ tk_hi t
  obtain ⟨A, hA⟩ : ∃ A, (bv (List.replicate k false)).toArray = A := ⟨_, rfl⟩
  have M : ∀ w : World, (Instr.makeSlice 28 (.int .i64 (k : Int)) (.int .i64 (k : Int))).run Try.prog w = .ok (.slice (some ⟨w.heap.size, 0, none⟩) k k) (w.alloc (.cells A 4)) := fun w => by rw [← hA]; exact make_bools k (by omega) w
  have P0 : Pay w k 0 (.slice (some ⟨w.heap.size, 0, none⟩) k k) (w.alloc (.cells A 4)) := by
    refine ⟨?_, Kept.one w _, fun g e => by simp [Value.ownBlock] at e; omega⟩
    have := made_row k (by omega) w
    rw [hA] at this
    unfold pay; simpa using this
  have C1 := Lib.hid (show ∀ u, Calls Try.prog 8 #[.int .i64 t] u fun e w' => e = .returned (.int .i64 (T * 1000)) ∧ u = w' from fun u => by have := rfull_any t u; rw [show full t = T * 1000 by unfold full; rw [hT]] at this; exact this)
  obtain ⟨L, hL⟩ : ∃ L, k + 10 * k = L := ⟨_, rfl⟩
  have C2 := Lib.hid (show ∀ u p c, RowB u (.slice p L c) (pay k (10 * k)) → Calls Try.prog 16 #[.int .i64 t, .slice p L c] u fun e w' => e = .returned (.int .i64 (T * 1000)) ∧ u = w' from fun u p c hr => by
    have := plays_any t _ L _ u (hr.cut (m := L) (by rw [pay_len]; omega) (by rw [pay_len]; unfold maxLen; omega)) (by omega)
    rw [← hL, pays_all, hT] at this
    rw [← hL]; exact this)
  have C3 := Lib.hid (show 1 ≤ k → (k : Int) ≤ T → ∀ u p c, RowB u (.slice p L c) (pay k (10 * k)) → Calls Try.prog 16 #[.int .i64 t, .slice p (L - 1) c] u fun e w' => e = .returned (.int .i64 (T * 1000 - 100)) ∧ u = w' from fun h0 h1 u p c hr => by
    have := plays_any t _ (L - 1) _ u (hr.cut (m := L - 1) (by rw [pay_len]; omega) (by rw [pay_len]; unfold maxLen; omega)) (by omega)
    rw [← hL, pays_less t k h0 (by rw [hT]; exact h1), hT] at this
    rw [← hL]; exact this)
  have HL := Lib.hid hL
  have hL0 : 1 ≤ k → 1 ≤ L := by omega
  have hL1 : L ≤ 2805 := by omega
  clear hT hA hL
  go_enter Try.func6, Try.ntmps6
  go_wp2_with (go_at_call 8; refine (C1.out _).mono ?_; rintro e w' ⟨rfl, rfl⟩)
  clear M
  go_loopw [7, 8] (fun v i wr => ∃ j : Nat, j ≤ 10 * k ∧ i = .int .i64 (j : Int) ∧ Pay w k j v wr) (fun _ i _ => 10 * k - (intOf i).toNat)
  case atStart => exact ⟨0, Nat.zero_le _, rfl, by first | exact P0 | exact P0.drew⟩
  case round =>
    obtain ⟨j, hj, rfl, hP⟩ := hrel
    clear P0
    by_cases hlt : j < 10 * k
    · have hlt2 : (j : Int) < 10 * (k : Int) := by omega
      have hlen : (pay k j).length ≤ 1000000 := by rw [pay_len]; omega
      have HP := Lib.hid hP
      clear hP
      go_wp2_with (at_builtin; refine wpList_append_yes _ rfl (.tmp 22) (.tmp 23) rfl _ (pay k j) true rfl rfl HP.out.row hlen ?_; intro v2 w2 hr2 hg2 hb2)
      have HQ := Lib.hid (HP.out.step hr2 hg2 hb2)
      go_roundw
      case rel => exact ⟨j + 1, hlt, by go_num, HQ.out⟩
      case measure => simp [intOf]; omega
    · obtain rfl : j = 10 * k := by omega
      have hlt2 : ¬ ((10 * k : Nat) : Int) < 10 * (k : Int) := by omega
      obtain ⟨p, c, rfl, hc⟩ := hP.row.shape
      rw [pay_len, HL.out] at hP hc ⊢
      have HP := Lib.hid hP
      clear hP
      by_cases hk0 : k = 0
      · subst hk0
        go_wp2_with (first
          | (go_at_call 16; refine (C2.out _ _ _ HP.out.row).mono ?_; rintro e w' ⟨rfl, rfl⟩)
          | (go_at_call 15; refine (awake_any _).mono ?_; rintro e w' ⟨rfl, hk⟩))
        go_ret
        exact ⟨rfl, HP.out.kept.trans (by assumption)⟩
      · have hk2 : ¬ (k : Int) = 0 := by omega
        have hL2 := hL0 (by omega)
        by_cases hkT : T < (k : Int)
        · go_wp2_with (first
            | (go_at_call 16; refine (C2.out _ _ _ HP.out.row).mono ?_; rintro e w' ⟨rfl, rfl⟩)
            | (go_at_call 15; refine (awake_any _).mono ?_; rintro e w' ⟨rfl, hk⟩))
          go_ret
          exact ⟨rfl, HP.out.kept.trans (by assumption)⟩
        · have C4 := Lib.hid (C3.out (by omega) (by omega))
          clear C3
          go_wp2_with (first
            | (go_at_call 16; with_reducible refine (C2.out _ _ _ HP.out.row).mono ?_; rintro e w' ⟨rfl, rfl⟩)
            | (go_at_call 16; refine (C4.out _ _ _ HP.out.row).mono ?_; rintro e w' ⟨rfl, rfl⟩)
            | (go_at_call 15; refine (awake_any _).mono ?_; rintro e w' ⟨rfl, hk⟩))
          all_goals go_ret
          all_goals exact ⟨rfl, HP.out.kept.trans (by assumption)⟩

theorem plays_k {H : Type} {enc : TypeId × Value → H} {W : World} {r : Reach} {b0 : Nat} {v : Value} {d : DataW H} {p : List MemPlace} (t : Int) (hv : Value.okWide Try.prog W r b0 28 v) (h : DataW.Trod enc Try.prog W 0 (fun _ => true) true 28 v d p) :
    Calls Try.prog 5 #[.int .i64 t, v] W fun e w' => e = .returned (.bool true) ∧ Kept W w' := by
  obtain ⟨len, F, hB⟩ := open_bools Try.underlying28 Try.underlying4 (by kernel_rfl) hv h
  exact plays_law t v len F W hB

end Go.Proofs.Ytijpdfcnbljhiaa.Th
