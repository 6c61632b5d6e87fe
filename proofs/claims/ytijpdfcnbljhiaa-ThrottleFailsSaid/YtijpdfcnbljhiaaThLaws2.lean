/- The walks of the laws of layer 19. -/
import Derived.Test.YtijpdfcnbljhiaaThLaws
namespace Go.Proofs.Ytijpdfcnbljhiaa.Th
open Go.RowKit St Go.Sort Args
set_option linter.unusedVariables false

set_option maxHeartbeats 1000000 in
theorem tells_any (h t : Int) (w : World) :
    Calls Try.prog 3 #[.int .i64 h, .int .i64 t] w fun e w' => e = .returned (.bool true) ∧ Kept w w' := by
  obtain ⟨f, hf⟩ : ∃ f, full t = f := ⟨_, rfl⟩
  obtain ⟨b, hb⟩ : ∃ b, bad h t = b := ⟨_, rfl⟩
  obtain ⟨g, hg⟩ : ∃ g, good h t = g := ⟨_, rfl⟩
  obtain ⟨m, hm⟩ : ∃ m, may h t = m := ⟨_, rfl⟩
  have C1 := Lib.hid (show ∀ u, Calls Try.prog 7 #[.int .i64 t] u fun e w' => e = .returned (.int .i64 f) ∧ u = w' from fun u => hf ▸ full_any t u)
  have C2 := Lib.hid (show ∀ u, Calls Try.prog 8 #[.int .i64 t] u fun e w' => e = .returned (.int .i64 f) ∧ u = w' from fun u => hf ▸ rfull_any t u)
  have C3 := Lib.hid (show ∀ u, Calls Try.prog 9 #[.int .i64 h, .int .i64 t] u fun e w' => e = .returned (.int .i64 b) ∧ u = w' from fun u => hb ▸ bad_any h t u)
  have C4 := Lib.hid (show ∀ u, Calls Try.prog 10 #[.int .i64 h, .int .i64 t] u fun e w' => e = .returned (.int .i64 b) ∧ u = w' from fun u => hb ▸ rbad_any h t u)
  have C5 := Lib.hid (show ∀ u, Calls Try.prog 11 #[.int .i64 h, .int .i64 t] u fun e w' => e = .returned (.int .i64 g) ∧ u = w' from fun u => hg ▸ good_any h t u)
  have C6 := Lib.hid (show ∀ u, Calls Try.prog 12 #[.int .i64 h, .int .i64 t] u fun e w' => e = .returned (.int .i64 g) ∧ u = w' from fun u => hg ▸ rgood_any h t u)
  have C7 := Lib.hid (show ∀ u, Calls Try.prog 13 #[.int .i64 h, .int .i64 t] u fun e w' => e = .returned (.bool m) ∧ u = w' from fun u => hm ▸ may_any h t u)
  have C8 := Lib.hid (show ∀ u, Calls Try.prog 14 #[.int .i64 h, .int .i64 t] u fun e w' => e = .returned (.bool m) ∧ u = w' from fun u => hm ▸ rmay_any h t u)
  clear hf hb hg hm
  rcases m with _ | _
  all_goals
    go_enter Try.func3, Try.ntmps3
    go_wp2_with (first
      | (go_at_call 7; refine (C1.out _).mono ?_; rintro e w' ⟨rfl, rfl⟩)
      | (go_at_call 8; refine (C2.out _).mono ?_; rintro e w' ⟨rfl, rfl⟩)
      | (go_at_call 9; refine (C3.out _).mono ?_; rintro e w' ⟨rfl, rfl⟩)
      | (go_at_call 10; refine (C4.out _).mono ?_; rintro e w' ⟨rfl, rfl⟩)
      | (go_at_call 11; refine (C5.out _).mono ?_; rintro e w' ⟨rfl, rfl⟩)
      | (go_at_call 12; refine (C6.out _).mono ?_; rintro e w' ⟨rfl, rfl⟩)
      | (go_at_call 13; refine (C7.out _).mono ?_; rintro e w' ⟨rfl, rfl⟩)
      | (go_at_call 14; refine (C8.out _).mono ?_; rintro e w' ⟨rfl, rfl⟩)
      | (go_at_call 15; refine (awake_any _).mono ?_; rintro e w' ⟨rfl, hk⟩))
    go_ret
    exact ⟨rfl, by assumption⟩

theorem u16_of {a : Int} (h : (Lit.int .u16 a).wf = true) : 0 ≤ a ∧ a ≤ 65535 := by
  have hh : IntKind.u16.min ≤ a ∧ a ≤ IntKind.u16.max := by simpa [Lit.wf] using h
  rw [show IntKind.u16.max = 65535 from rfl, show IntKind.u16.min = 0 from rfl] at hh
  exact hh
theorem u8_of {a : Int} (h : (Lit.int .u8 a).wf = true) : 0 ≤ a ∧ a ≤ 255 := by
  have hh : IntKind.u8.min ≤ a ∧ a ≤ IntKind.u8.max := by simpa [Lit.wf] using h
  rw [show IntKind.u8.max = 255 from rfl, show IntKind.u8.min = 0 from rfl] at hh
  exact hh

set_option maxHeartbeats 1000000 in
theorem fails_any (t n : Int) (hn : (Lit.int .u16 n).wf = true) (w : World) :
    Calls Try.prog 4 #[.int .i64 t, .int .u16 n] w fun e w' => e = .returned (.bool true) ∧ Kept w w' := by
  obtain ⟨n0, n1⟩ := u16_of hn
  obtain ⟨k, hk⟩ : ∃ k : Nat, n % 1001 = (k : Int) := ⟨(n % 1001).toNat, by omega⟩
  have hk1 : k ≤ 1000 := by omega
  obtain ⟨T, hT⟩ : ∃ T, tk t = T := ⟨_, rfl⟩
  have T0 : 1 ≤ T := hT ▸ tk_lo t
  have T1 : T ≤ 1000 := hT ▸ tk_hi t
  obtain ⟨A, hA⟩ : ∃ A, (bv (List.replicate k false)).toArray = A := ⟨_, rfl⟩
  have M : ∀ w : World, (Instr.makeSlice 28 (.int .i64 (k : Int)) (.int .i64 (k : Int))).run Try.prog w = .ok (.slice (some ⟨w.heap.size, 0, none⟩) k k) (w.alloc (.cells A 4)) := fun w => by rw [← hA]; exact make_bools k (by omega) w
  obtain ⟨x, hx⟩ : ∃ x, max (tk t - k) 0 * 1000 = x := ⟨_, rfl⟩
  have C1 := Lib.hid (show ∀ u, Calls Try.prog 7 #[.int .i64 t] u fun e w' => e = .returned (.int .i64 (T * 1000)) ∧ u = w' from fun u => by have := full_any t u; rw [show full t = T * 1000 by unfold full; rw [hT]] at this; exact this)
  have C2 := Lib.hid (plays_made t k (by omega) hx hA)
  obtain ⟨m, hm⟩ : ∃ m, decide (2 * (k : Int) < T) = m := ⟨_, rfl⟩
  have C3 := Lib.hid (show ∀ u, Calls Try.prog 13 #[.int .i64 x, .int .i64 t] u fun e w' => e = .returned (.bool m) ∧ u = w' from fun u => by have := may_any x t u; rw [show may x t = m by rw [← hx, may_fails, hT, hm]] at this; exact this)
  rw [hT] at hx
  clear hT hA
  go_enter Try.func4, Try.ntmps4
  go_wp2_with (first
    | (go_at_call 7; refine (C1.out _).mono ?_; rintro e w' ⟨rfl, rfl⟩)
    | (go_at_call 13; refine (C3.out _).mono ?_; rintro e w' ⟨rfl, rfl⟩)
    | (go_at_call 16; with_reducible refine (C2.out _ _ ?_).mono ?_; (first | exact blk_new _ _ | exact new_d _ _); rintro e w' ⟨rfl, rfl⟩)
    | (go_at_call 15; refine (awake_any _).mono ?_; rintro e w' ⟨rfl, hk⟩))
  go_ret
  exact ⟨rfl, (Kept.one w _).trans (by assumption)⟩

theorem bad_le {h t : Int} (h0 : 0 ≤ h) (h1 : h ≤ full t) : bad h t ≤ h := by unfold bad; rw [held_id h0 h1]; omega
theorem good_ge {h t : Int} (h0 : 0 ≤ h) (h1 : h ≤ full t) : h ≤ good h t := by unfold good; rw [held_id h0 h1]; omega
theorem may_mono {h g t : Int} (hh : h ≤ g) (hm : may h t = true) : may g t = true := by
  have : held h t ≤ held g t := by have := full_lo t; unfold held; omega
  unfold may at hm ⊢
  have := of_decide_eq_true hm
  exact decide_eq_true (by omega)

set_option maxHeartbeats 1000000 in
theorem plays_law (t : Int) (v : Value) (len : Nat) (F : Nat → Bool) (w : World) (hp : Bools w v len F) :
    Calls Try.prog 5 #[.int .i64 t, v] w fun e w' => e = .returned (.bool true) ∧ Kept w w' := by
  have hp0 := hp
  obtain ⟨a0, cap, rfl⟩ := hp.slice
  have hlm := hp.most
  unfold maxLen at hlm
  by_cases h200 : 200 < len
  · clear hp hp0
    go_enter Try.func5, Try.ntmps5
    go_wp2_with (go_at_call 15; refine (awake_any _).mono ?_; rintro e w' ⟨rfl, hk⟩)
    go_ret
    exact ⟨rfl, by assumption⟩
  · obtain ⟨f, hf⟩ : ∃ f, full t = f := ⟨_, rfl⟩
    have hf0 : 1000 ≤ f := hf ▸ full_lo t
    have hf1 : f ≤ 1000000 := hf ▸ full_hi t
    obtain ⟨z, hz⟩ : ∃ z, Hid (plays t F len = z) := ⟨_, rfl⟩
    have C1 := Lib.hid (show ∀ u, Calls Try.prog 7 #[.int .i64 t] u fun e w' => e = .returned (.int .i64 f) ∧ u = w' from fun u => hf ▸ full_any t u)
    have C2 := Lib.hid (show ∀ u, Calls Try.prog 8 #[.int .i64 t] u fun e w' => e = .returned (.int .i64 f) ∧ u = w' from fun u => hf ▸ rfull_any t u)
    have C3 := Lib.hid (show Calls Try.prog 16 #[.int .i64 t, .slice a0 len cap] w fun e w' => e = .returned (.int .i64 z) ∧ w = w' by rw [← hz.out]; exact plays_any t _ len F w hp (by omega))
    have HP := Lib.hid hp
    have HF := Lib.hid hf
    clear hp hp0 hf
    go_enter Try.func5, Try.ntmps5
    go_wp2_with (go_at_call 8; refine (C2.out _).mono ?_; rintro e w' ⟨rfl, rfl⟩)
    go_loopw [5, 6] (fun x i wr => ∃ k : Nat, k ≤ len ∧ x = .int .i64 (plays t F k) ∧ i = .int .i64 (k : Int) ∧ w = wr) (fun _ i _ => len - (intOf i).toNat)
    case atStart => exact ⟨0, Nat.zero_le _, by rw [← HF.out]; rfl, rfl, rfl⟩
    case round =>
      obtain ⟨k, hk, rfl, rfl, rfl⟩ := hrel
      obtain ⟨x, hx⟩ : ∃ x, plays t F k = x := ⟨_, rfl⟩
      rw [hx]
      by_cases hlt : k < len
      · obtain ⟨bb, off, rfl, hc0⟩ := HP.out.cell hlt
        obtain ⟨y, hy⟩ : ∃ y, F k = y := ⟨_, rfl⟩
        rw [hy] at hc0
        have HY := Lib.hid (show plays t F (k + 1) = if y then good x t else bad x t by rw [← hx, ← hy]; rfl)
        have hx0 : 0 ≤ x := hx ▸ plays_lo t F k
        have hx1 : x ≤ full t := hx ▸ plays_hi t F k
        obtain ⟨b, hb⟩ : ∃ b, bad x t = b := ⟨_, rfl⟩
        obtain ⟨g, hg⟩ : ∃ g, good x t = g := ⟨_, rfl⟩
        have hb0 : 0 ≤ b := hb ▸ bad_lo x t
        have hb1 : b ≤ x := hb ▸ bad_le hx0 hx1
        have hg0 : x ≤ g := hg ▸ good_ge hx0 hx1
        have hg1 : g ≤ f := by rw [← HF.out, ← hg]; exact good_hi x t
        rw [hb, hg] at HY
        obtain ⟨m1, hm1⟩ : ∃ m, may b t = m := ⟨_, rfl⟩
        obtain ⟨m2, hm2⟩ : ∃ m, may x t = m := ⟨_, rfl⟩
        obtain ⟨m3, hm3⟩ : ∃ m, may g t = m := ⟨_, rfl⟩
        have h12 : m1 = true → m2 = true := fun h => by rw [← hm2]; exact may_mono hb1 (hm1.trans h)
        have h23 : m2 = true → m3 = true := fun h => by rw [← hm3]; exact may_mono hg0 (hm2.trans h)
        have D1 := Lib.hid (show ∀ u, Calls Try.prog 9 #[.int .i64 x, .int .i64 t] u fun e w' => e = .returned (.int .i64 b) ∧ u = w' from fun u => hb ▸ bad_any x t u)
        have D2 := Lib.hid (show ∀ u, Calls Try.prog 10 #[.int .i64 x, .int .i64 t] u fun e w' => e = .returned (.int .i64 b) ∧ u = w' from fun u => hb ▸ rbad_any x t u)
        have D3 := Lib.hid (show ∀ u, Calls Try.prog 11 #[.int .i64 x, .int .i64 t] u fun e w' => e = .returned (.int .i64 g) ∧ u = w' from fun u => hg ▸ good_any x t u)
        have D4 := Lib.hid (show ∀ u, Calls Try.prog 12 #[.int .i64 x, .int .i64 t] u fun e w' => e = .returned (.int .i64 g) ∧ u = w' from fun u => hg ▸ rgood_any x t u)
        have E1 := Lib.hid (show ∀ u, Calls Try.prog 13 #[.int .i64 b, .int .i64 t] u fun e w' => e = .returned (.bool m1) ∧ u = w' from fun u => hm1 ▸ may_any b t u)
        have E2 := Lib.hid (show ∀ u, Calls Try.prog 13 #[.int .i64 x, .int .i64 t] u fun e w' => e = .returned (.bool m2) ∧ u = w' from fun u => hm2 ▸ may_any x t u)
        have E3 := Lib.hid (show ∀ u, Calls Try.prog 13 #[.int .i64 g, .int .i64 t] u fun e w' => e = .returned (.bool m3) ∧ u = w' from fun u => hm3 ▸ may_any g t u)
        clear hx hy hb hg hm1 hm2 hm3 hx1
        have hm : m1 = false ∧ m2 = false ∧ m3 = false ∨ m1 = false ∧ m2 = false ∧ m3 = true ∨ m1 = false ∧ m2 = true ∧ m3 = true ∨ m1 = true ∧ m2 = true ∧ m3 = true := by
          rcases m1 <;> rcases m2 <;> rcases m3 <;> simp_all
        clear h12 h23
        rcases y with _ | _ <;> rcases hm with ⟨rfl, rfl, rfl⟩ | ⟨rfl, rfl, rfl⟩ | ⟨rfl, rfl, rfl⟩ | ⟨rfl, rfl, rfl⟩
        all_goals
          go_wp2_with (first
            | (go_at_call 7; refine (C1.out _).mono ?_; rintro e w' ⟨rfl, rfl⟩)
            | (go_at_call 9; refine (D1.out _).mono ?_; rintro e w' ⟨rfl, rfl⟩)
            | (go_at_call 10; refine (D2.out _).mono ?_; rintro e w' ⟨rfl, rfl⟩)
            | (go_at_call 11; refine (D3.out _).mono ?_; rintro e w' ⟨rfl, rfl⟩)
            | (go_at_call 12; refine (D4.out _).mono ?_; rintro e w' ⟨rfl, rfl⟩)
            | (go_at_call 13; with_reducible refine (E1.out _).mono ?_; rintro e w' ⟨rfl, rfl⟩)
            | (go_at_call 13; with_reducible refine (E2.out _).mono ?_; rintro e w' ⟨rfl, rfl⟩)
            | (go_at_call 13; with_reducible refine (E3.out _).mono ?_; rintro e w' ⟨rfl, rfl⟩))
          go_roundw
          case rel => exact ⟨k + 1, hlt, by rw [HY.out]; rfl, by go_num, by trivial⟩
          case measure => simp [intOf]; omega
      · have hkl : k = len := by omega
        have HK := Lib.hid hkl
        have e1 : x = z := by rw [← hx, ← hz.out, hkl]
        clear hx hkl
        subst e1
        go_wp2_with (first
          | (go_at_call 16; refine C3.out.mono ?_; rintro e w' ⟨rfl, rfl⟩)
          | (go_at_call 15; refine (awake_any _).mono ?_; rintro e w' ⟨rfl, hk⟩))
        go_ret
        exact ⟨rfl, by assumption⟩

end Go.Proofs.Ytijpdfcnbljhiaa.Th
