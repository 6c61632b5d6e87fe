/- The walks of the laws of layer 15. -/
import Derived.Test.YtfcdlclolhcmhaaLe
namespace Go.Proofs.Ytfcdlclolhcmhaa.Le
open Go.RowKit St Go.Sort Args
set_option linter.unusedVariables false

set_option maxHeartbeats 1000000 in
theorem awake_any (w : World) : Calls Try.prog 14 #[] w fun e w' => e = .returned (.bool true) ∧ w = w' := by
  have C1 := Lib.hid (show ∀ u, Calls Try.prog 6 #[.int .i64 10, .int .i64 20, .int .i64 10] u fun e w' => e = .returned (.tuple #[.int .i64 1, .bool true]) ∧ u = w' from fun u => over_any 10 20 10 u)
  have C2 := Lib.hid (show ∀ u, Calls Try.prog 7 #[.int .i64 3, .int .i64 4] u fun e w' => e = .returned (.int .i64 7) ∧ u = w' from fun u => grant_any 3 4 u)
  have C3 := Lib.hid (show ∀ u, Calls Try.prog 9 #[.int .i64 3, .int .i64 4] u fun e w' => e = .returned (.int .i64 4) ∧ u = w' from fun u => raise_any 3 4 u)
  go_enter Try.func14, Try.ntmps14
  go_wp2_with fail
  refine (C1.out _).mono ?_; rintro e w' ⟨rfl, rfl⟩
  go_wp2_with fail
  refine (C2.out _).mono ?_; rintro e w' ⟨rfl, rfl⟩
  go_wp2_with fail
  refine (C3.out _).mono ?_; rintro e w' ⟨rfl, rfl⟩
  go_wp2_with fail
  go_ret
  exact ⟨rfl, rfl⟩

set_option maxHeartbeats 1000000 in
theorem tells_any (a b c : Int) (w : World) :
    Calls Try.prog 3 #[.int .i64 a, .int .i64 b, .int .i64 c] w fun e w' => e = .returned (.bool true) ∧ w = w' := by
  obtain ⟨x, hx⟩ : ∃ x, over a b c = x := ⟨_, rfl⟩
  obtain ⟨g, hg⟩ : ∃ g, Tk.add a b = g := ⟨_, rfl⟩
  obtain ⟨r, hr⟩ : ∃ r, raise a b = r := ⟨_, rfl⟩
  obtain ⟨n, hn⟩ : ∃ n, ends a b = n := ⟨_, rfl⟩
  have C1 := Lib.hid (show ∀ u, Calls Try.prog 6 #[.int .i64 a, .int .i64 b, .int .i64 c] u fun e w' => e = .returned (.tuple #[.int .i64 x, .bool (x != 0)]) ∧ u = w' from fun u => by rw [← hx]; exact over_any a b c u)
  have C2 := Lib.hid (show ∀ u, Calls Try.prog 7 #[.int .i64 a, .int .i64 b] u fun e w' => e = .returned (.int .i64 g) ∧ u = w' from fun u => by rw [← hg]; exact grant_any a b u)
  have C3 := Lib.hid (show ∀ u, Calls Try.prog 8 #[.int .i64 a, .int .i64 b] u fun e w' => e = .returned (.int .i64 g) ∧ u = w' from fun u => by rw [← hg]; exact Tk.radd_any a b u)
  have C4 := Lib.hid (show ∀ u, Calls Try.prog 9 #[.int .i64 a, .int .i64 b] u fun e w' => e = .returned (.int .i64 r) ∧ u = w' from fun u => by rw [← hr]; exact raise_any a b u)
  have C5 := Lib.hid (show ∀ u, Calls Try.prog 10 #[.int .i64 a, .int .i64 b] u fun e w' => e = .returned (.int .i64 r) ∧ u = w' from fun u => by rw [← hr]; exact rraise_any a b u)
  have C6 := Lib.hid (show ∀ u, Calls Try.prog 11 #[.int .i64 a, .int .i64 b] u fun e w' => e = .returned (.int .i64 n) ∧ u = w' from fun u => by rw [← hn]; exact ends_any a b u)
  have C7 := Lib.hid (show ∀ u, Calls Try.prog 12 #[.int .i64 a, .int .i64 b] u fun e w' => e = .returned (.int .i64 n) ∧ u = w' from fun u => by rw [← hn]; exact rends_any a b u)
  have C8 := Lib.hid (show ∀ u, Calls Try.prog 13 #[.int .i64 a, .int .i64 b, .int .i64 c] u fun e w' => e = .returned (.int .i64 x) ∧ u = w' from fun u => by rw [← hx]; exact rover_any a b c u)
  clear hx hg hr hn
  go_enter Try.func3, Try.ntmps3
  go_wp2_with (first
    | (go_at_call 6; refine (C1.out _).mono ?_; rintro e w' ⟨rfl, rfl⟩)
    | (go_at_call 7; refine (C2.out _).mono ?_; rintro e w' ⟨rfl, rfl⟩)
    | (go_at_call 8; refine (C3.out _).mono ?_; rintro e w' ⟨rfl, rfl⟩)
    | (go_at_call 9; refine (C4.out _).mono ?_; rintro e w' ⟨rfl, rfl⟩)
    | (go_at_call 10; refine (C5.out _).mono ?_; rintro e w' ⟨rfl, rfl⟩)
    | (go_at_call 11; refine (C6.out _).mono ?_; rintro e w' ⟨rfl, rfl⟩)
    | (go_at_call 12; refine (C7.out _).mono ?_; rintro e w' ⟨rfl, rfl⟩)
    | (go_at_call 13; refine (C8.out _).mono ?_; rintro e w' ⟨rfl, rfl⟩)
    | (go_at_call 14; refine (awake_any _).mono ?_; rintro e w' ⟨rfl, rfl⟩))
  all_goals go_ret
  all_goals exact ⟨rfl, rfl⟩

/-! who must stop now, must stop later -/
theorem over_is (n d u : Int) {t : Bool} (h : decide (ends d u ≤ Tk.clamp n) = t) : (over n d u != 0) = t := by
  subst h
  by_cases h1 : ends d u ≤ Tk.clamp n
  · rw [over_yes h1, decide_eq_true h1]
  · rw [over_no h1, decide_eq_false h1]
theorem ends_rises (d u h : Int) : ends d u ≤ ends d (raise u h) := by
  have h0 := Tk.clamp_lo u
  have h1 := Tk.clamp_hi u
  have h2 := Tk.clamp_lo h
  have h3 := Tk.clamp_hi h
  have h4 : Tk.clamp (raise u h) = raise u h := Tk.clamp_id _ (by unfold raise; omega) (by unfold raise; omega)
  unfold ends; rw [h4]; unfold raise; omega

set_option maxHeartbeats 1000000 in
theorem lends_any (now later deadline until' heard : Int) (w : World) :
    Calls Try.prog 4 #[.int .i64 now, .int .i64 later, .int .i64 deadline, .int .i64 until', .int .i64 heard] w fun e w' => e = .returned (.bool true) ∧ w = w' := by
  obtain ⟨n, hn⟩ : ∃ n, Tk.clamp now = n := ⟨_, rfl⟩
  obtain ⟨r, hr⟩ : ∃ r, raise until' heard = r := ⟨_, rfl⟩
  obtain ⟨x, hx⟩ : ∃ x, ends deadline until' = x := ⟨_, rfl⟩
  have hxr : x ≤ ends deadline r := by rw [← hx, ← hr]; exact ends_rises _ _ _
  obtain ⟨o1, ho1⟩ : ∃ o, over now deadline until' = o := ⟨_, rfl⟩
  obtain ⟨o2, ho2⟩ : ∃ o, over later deadline until' = o := ⟨_, rfl⟩
  obtain ⟨o3, ho3⟩ : ∃ o, over now deadline r = o := ⟨_, rfl⟩
  obtain ⟨t1, ht1⟩ : ∃ t, decide (ends deadline until' ≤ Tk.clamp now) = t := ⟨_, rfl⟩
  obtain ⟨t2, ht2⟩ : ∃ t, decide (ends deadline until' ≤ Tk.clamp later) = t := ⟨_, rfl⟩
  obtain ⟨t3, ht3⟩ : ∃ t, decide (ends deadline r ≤ Tk.clamp now) = t := ⟨_, rfl⟩
  have C1 := Lib.hid (show ∀ u, Calls Try.prog 6 #[.int .i64 now, .int .i64 deadline, .int .i64 until'] u fun e w' => e = .returned (.tuple #[.int .i64 o1, .bool t1]) ∧ u = w' from fun u => by have := over_any now deadline until' u; rw [over_is _ _ _ ht1, ho1] at this; exact this)
  have C2 := Lib.hid (show ∀ u, Calls Try.prog 6 #[.int .i64 later, .int .i64 deadline, .int .i64 until'] u fun e w' => e = .returned (.tuple #[.int .i64 o2, .bool t2]) ∧ u = w' from fun u => by have := over_any later deadline until' u; rw [over_is _ _ _ ht2, ho2] at this; exact this)
  have C3 := Lib.hid (show ∀ u, Calls Try.prog 9 #[.int .i64 until', .int .i64 heard] u fun e w' => e = .returned (.int .i64 r) ∧ u = w' from fun u => by rw [← hr]; exact raise_any until' heard u)
  have C4 := Lib.hid (show ∀ u, Calls Try.prog 6 #[.int .i64 now, .int .i64 deadline, .int .i64 r] u fun e w' => e = .returned (.tuple #[.int .i64 o3, .bool t3]) ∧ u = w' from fun u => by have := over_any now deadline r u; rw [over_is _ _ _ ht3, ho3] at this; exact this)
  have C5 := Lib.hid (show ∀ u, Calls Try.prog 15 #[.int .i64 now] u fun e w' => e = .returned (.int .i64 n) ∧ u = w' from fun u => by rw [← hn]; exact Tk.rclamp_any now u)
  have C6 := Lib.hid (show ∀ u, Calls Try.prog 11 #[.int .i64 deadline, .int .i64 until'] u fun e w' => e = .returned (.int .i64 x) ∧ u = w' from fun u => by rw [← hx]; exact ends_any deadline until' u)
  by_cases h1 : x ≤ n
  · have e1 : t1 = true := by rw [← ht1, hx, hn]; simpa using h1
    by_cases hl : later < now
    · clear hn hr hx hxr ho1 ho2 ho3 ht1 ht2 ht3
      subst e1
      go_enter Try.func4, Try.ntmps4
      go_wp2_with fail
      refine (C1.out _).mono ?_; rintro e w' ⟨rfl, rfl⟩
      go_wp2_with fail
      refine (C2.out _).mono ?_; rintro e w' ⟨rfl, rfl⟩
      go_wp2_with fail
      refine (C3.out _).mono ?_; rintro e w' ⟨rfl, rfl⟩
      go_wp2_with fail
      refine (C4.out _).mono ?_; rintro e w' ⟨rfl, rfl⟩
      go_wp2_with fail
      refine (C5.out _).mono ?_; rintro e w' ⟨rfl, rfl⟩
      go_wp2_with fail
      refine (C6.out _).mono ?_; rintro e w' ⟨rfl, rfl⟩
      go_wp2_with (go_at_call 14; refine (awake_any _).mono ?_; rintro e w' ⟨rfl, rfl⟩)
      go_ret
      exact ⟨rfl, rfl⟩
    · have e2 : t2 = true := by
        rw [← ht2, hx]
        have := Tk.clamp_mono (a := now) (b := later) (by omega)
        rw [hn] at this
        simp; omega
      clear hn hr hx hxr ho1 ho2 ho3 ht1 ht2 ht3
      subst e1 e2
      go_enter Try.func4, Try.ntmps4
      go_wp2_with fail
      refine (C1.out _).mono ?_; rintro e w' ⟨rfl, rfl⟩
      go_wp2_with fail
      refine (C2.out _).mono ?_; rintro e w' ⟨rfl, rfl⟩
      go_wp2_with fail
      refine (C3.out _).mono ?_; rintro e w' ⟨rfl, rfl⟩
      go_wp2_with fail
      refine (C4.out _).mono ?_; rintro e w' ⟨rfl, rfl⟩
      go_wp2_with fail
      refine (C5.out _).mono ?_; rintro e w' ⟨rfl, rfl⟩
      go_wp2_with fail
      refine (C6.out _).mono ?_; rintro e w' ⟨rfl, rfl⟩
      go_wp2_with (go_at_call 14; refine (awake_any _).mono ?_; rintro e w' ⟨rfl, rfl⟩)
      go_ret
      exact ⟨rfl, rfl⟩
  · have e1 : t1 = false := by rw [← ht1, hx, hn]; simpa using h1
    have e3 : t3 = false := by rw [← ht3, hn]; simp; omega
    by_cases hl : later < now
    · clear hn hr hx hxr ho1 ho2 ho3 ht1 ht2 ht3
      subst e1 e3
      go_enter Try.func4, Try.ntmps4
      go_wp2_with fail
      refine (C1.out _).mono ?_; rintro e w' ⟨rfl, rfl⟩
      go_wp2_with fail
      refine (C2.out _).mono ?_; rintro e w' ⟨rfl, rfl⟩
      go_wp2_with fail
      refine (C3.out _).mono ?_; rintro e w' ⟨rfl, rfl⟩
      go_wp2_with fail
      refine (C4.out _).mono ?_; rintro e w' ⟨rfl, rfl⟩
      go_wp2_with fail
      refine (C5.out _).mono ?_; rintro e w' ⟨rfl, rfl⟩
      go_wp2_with fail
      refine (C6.out _).mono ?_; rintro e w' ⟨rfl, rfl⟩
      go_wp2_with (go_at_call 14; refine (awake_any _).mono ?_; rintro e w' ⟨rfl, rfl⟩)
      go_ret
      exact ⟨St.ret_bool (a := !decide (x ≤ n)) (by simp; omega), rfl⟩
    · clear hn hr hx hxr ho1 ho2 ho3 ht1 ht2 ht3
      subst e1 e3
      go_enter Try.func4, Try.ntmps4
      go_wp2_with fail
      refine (C1.out _).mono ?_; rintro e w' ⟨rfl, rfl⟩
      go_wp2_with fail
      refine (C2.out _).mono ?_; rintro e w' ⟨rfl, rfl⟩
      go_wp2_with fail
      refine (C3.out _).mono ?_; rintro e w' ⟨rfl, rfl⟩
      go_wp2_with fail
      refine (C4.out _).mono ?_; rintro e w' ⟨rfl, rfl⟩
      go_wp2_with fail
      refine (C5.out _).mono ?_; rintro e w' ⟨rfl, rfl⟩
      go_wp2_with fail
      refine (C6.out _).mono ?_; rintro e w' ⟨rfl, rfl⟩
      go_wp2_with (go_at_call 14; refine (awake_any _).mono ?_; rintro e w' ⟨rfl, rfl⟩)
      go_ret
      exact ⟨St.ret_bool (a := !decide (x ≤ n)) (by simp; omega), rfl⟩

/-! passed on through however many -/
theorem passed_le (g : Int) (F : Nat → Int) : ∀ n, passed g F n ≤ g
  | 0 => Int.le_refl _
  | n + 1 => by have := passed_le g F n; show min _ _ ≤ _; omega
theorem passed_heard (g : Int) (F : Nat → Int) : ∀ n k, k < n → passed g F n ≤ Tk.clamp (F k)
  | 0, k, h => absurd h (Nat.not_lt_zero _)
  | n + 1, k, h => by
    show min _ _ ≤ _
    rcases Nat.lt_or_ge k n with h1 | h1
    · have := passed_heard g F n k h1; omega
    · have : k = n := by omega
      subst this; omega
/-- is it the first one's, or one of the first so many that were heard -/
def met (x g : Int) (F : Nat → Int) : Nat → Bool
  | 0 => x == g
  | k + 1 => met x g F k || (x == Tk.clamp (F k))
theorem met_passed (x g : Int) (F : Nat → Int) : ∀ k, passed g F k = x → met x g F k = true
  | 0, h => by subst h; simp [met, passed]
  | k + 1, h => by
    show (met x g F k || (x == Tk.clamp (F k))) = true
    have h1 : min (passed g F k) (Tk.clamp (F k)) = x := h
    rcases Int.le_total (passed g F k) (Tk.clamp (F k)) with h2 | h2
    · rw [met_passed x g F k (by omega)]; rfl
    · have : (x == Tk.clamp (F k)) = true := by simp; omega
      rw [this, Bool.or_true]
theorem ints_slice {W : World} {v : Value} {len : Nat} {F : Nat → Int} (h : Ints W v len F) : ∃ a0 cap, v = .slice a0 len cap := by
  rcases h with ⟨rfl, a, cap, rfl⟩ | ⟨_, _, b, off, cap, rfl, _⟩
  · exact ⟨_, _, rfl⟩
  · exact ⟨_, _, rfl⟩
theorem ints_cell {W : World} {a0 : Option Addr} {cap len : Nat} {F : Nat → Int} (h : Ints W (.slice a0 len cap) len F) {k : Nat} (hk : k < len) :
    ∃ b off, a0 = some ⟨b, off, none⟩ ∧ W.cell? ⟨b, off + k, none⟩ = some (.int .i64 (F k)) := by
  rcases h with ⟨h, _⟩ | ⟨_, _, b, off, cap', he, hb, hc⟩
  · omega
  · simp only [Value.slice.injEq] at he
    exact ⟨b, off, he.1, (hc k hk).1⟩

set_option maxHeartbeats 1000000 in
theorem passed_any (a s : Int) (v : Value) (len : Nat) (F : Nat → Int) (w : World) (hp : Ints w v len F) (hl : len ≤ 100) :
    Calls Try.prog 16 #[.int .i64 a, .int .i64 s, v] w fun e w' => e = .returned (.int .i64 (passed (Tk.add a s) F len)) ∧ w = w' := by
  obtain ⟨a0, cap, rfl⟩ := ints_slice hp
  obtain ⟨g, hg⟩ : ∃ g, Hid (Tk.add a s = g) := ⟨_, rfl⟩
  have C1 := Lib.hid (show ∀ u, Calls Try.prog 7 #[.int .i64 a, .int .i64 s] u fun e w' => e = .returned (.int .i64 g) ∧ u = w' from fun u => by rw [← hg.out]; exact grant_any a s u)
  have HP := Lib.hid hp
  clear hp
  go_enter Try.func16, Try.ntmps16
  go_wp2_with (go_at_call 7; refine (C1.out _).mono ?_; rintro e w' ⟨rfl, rfl⟩)
  go_loopw [7, 15] (fun x i wr => ∃ k : Nat, k ≤ len ∧ x = .int .i64 (passed g F k) ∧ i = .int .i64 (k : Int) ∧ w = wr) (fun _ i _ => len - (intOf i).toNat)
  case atStart => exact ⟨0, Nat.zero_le _, rfl, rfl, rfl⟩
  case round =>
    obtain ⟨k, hk, rfl, rfl, rfl⟩ := hrel
    obtain ⟨x, hx⟩ : ∃ x, passed g F k = x := ⟨_, rfl⟩
    rw [hx]
    by_cases hlt : k < len
    · obtain ⟨b, off, rfl, hc0⟩ := ints_cell HP.out hlt
      obtain ⟨z, hz⟩ : ∃ z, F k = z := ⟨_, rfl⟩
      rw [hz] at hc0
      obtain ⟨m, hm⟩ : ∃ m, Tk.clamp z = m := ⟨_, rfl⟩
      have C3 := Lib.hid (show ∀ u, Calls Try.prog 17 #[.int .i64 z] u fun e w' => e = .returned (.int .i64 m) ∧ u = w' from fun u => by rw [← hm]; exact Tk.clamp_any z u)
      have HY : Hid (min x m = passed g F (k + 1)) := by show _ = _; rw [← hx, ← hm, ← hz]; rfl
      clear hx hz hm
      go_wp2_with (go_at_call 17; refine (C3.out _).mono ?_; rintro e w' ⟨rfl, rfl⟩)
      all_goals go_roundw
      case rel => exact ⟨k + 1, hlt, by rw [← HY.out], by go_num, by trivial⟩
      case measure => simp [intOf]; omega
    · have hkl : k = len := by omega
      have HK := Lib.hid hkl
      have HX := Lib.hid hx
      clear hkl hx
      go_wp2_with fail
      go_ret
      exact ⟨ret_int (by rw [hg.out, ← HK.out, HX.out]), rfl⟩

set_option maxHeartbeats 1000000 in
theorem passes_any (a s : Int) (v : Value) (len : Nat) (F : Nat → Int) (w : World) (hp : Ints w v len F) :
    Calls Try.prog 5 #[.int .i64 a, .int .i64 s, v] w fun e w' => e = .returned (.bool true) ∧ w = w' := by
  have hp0 := hp
  obtain ⟨a0, cap, rfl⟩ := ints_slice hp
  by_cases h100 : 100 < len
  · clear hp hp0
    go_enter Try.func5, Try.ntmps5
    go_wp2_with (go_at_call 14; refine (awake_any _).mono ?_; rintro e w' ⟨rfl, rfl⟩)
    go_ret
    exact ⟨rfl, rfl⟩
  · obtain ⟨g, hg⟩ : ∃ g, Hid (Tk.add a s = g) := ⟨_, rfl⟩
    obtain ⟨x, hx⟩ : ∃ x, Hid (passed g F len = x) := ⟨_, rfl⟩
    have C1 := Lib.hid (show ∀ u, Calls Try.prog 7 #[.int .i64 a, .int .i64 s] u fun e w' => e = .returned (.int .i64 g) ∧ u = w' from fun u => by rw [← hg.out]; exact grant_any a s u)
    have C2 := Lib.hid (show Calls Try.prog 16 #[.int .i64 a, .int .i64 s, .slice a0 len cap] w fun e w' => e = .returned (.int .i64 x) ∧ w = w' by rw [← hx.out, ← hg.out]; exact passed_any a s _ len F w hp (by omega))
    have C3 := Lib.hid (show ∀ u, Calls Try.prog 8 #[.int .i64 a, .int .i64 s] u fun e w' => e = .returned (.int .i64 g) ∧ u = w' from fun u => by rw [← hg.out]; exact Tk.radd_any a s u)
    have hxg : x ≤ g := by rw [← hx.out]; exact passed_le _ _ _
    have HM := Lib.hid (met_passed x g F len hx.out)
    have HH := Lib.hid (show ∀ k, k < len → x ≤ Tk.clamp (F k) by rw [← hx.out]; exact passed_heard g F len)
    have HP := Lib.hid hp
    obtain ⟨t0, ht0⟩ : ∃ t, Hid ((x == g) = t) := ⟨_, rfl⟩
    clear hp hp0
    go_enter Try.func5, Try.ntmps5
    go_wp2_with (first
      | (go_at_call 16; refine C2.out.mono ?_; rintro e w' ⟨rfl, rfl⟩)
      | (go_at_call 7; refine (C1.out _).mono ?_; rintro e w' ⟨rfl, rfl⟩))
    go_loopw [8, 9] (fun o i wr => ∃ k : Nat, k ≤ len ∧ o = .bool (met x g F k) ∧ i = .int .i64 (k : Int) ∧ w = wr) (fun _ i _ => len - (intOf i).toNat)
    case atStart => exact ⟨0, Nat.zero_le _, rfl, rfl, rfl⟩
    case round =>
      obtain ⟨k, hk, rfl, rfl, rfl⟩ := hrel
      obtain ⟨t, ht⟩ : ∃ t, met x g F k = t := ⟨_, rfl⟩
      rw [ht]
      by_cases hlt : k < len
      · obtain ⟨b, off, rfl, hc0⟩ := ints_cell HP.out hlt
        have hxm := HH.out k hlt
        obtain ⟨z, hz⟩ : ∃ z, F k = z := ⟨_, rfl⟩
        rw [hz] at hc0 hxm
        obtain ⟨m, hm⟩ : ∃ m, Tk.clamp z = m := ⟨_, rfl⟩
        rw [hm] at hxm
        have C4 := Lib.hid (show ∀ u, Calls Try.prog 15 #[.int .i64 z] u fun e w' => e = .returned (.int .i64 m) ∧ u = w' from fun u => by rw [← hm]; exact Tk.rclamp_any z u)
        have HY : Hid ((t || (x == m)) = met x g F (k + 1)) := by show _ = _; rw [← ht, ← hm, ← hz]; rfl
        clear ht hz hm
        rcases t with _ | _
        · go_wp2_with (go_at_call 15; refine (C4.out _).mono ?_; rintro e w' ⟨rfl, rfl⟩)
          go_roundw
          case rel => exact ⟨k + 1, hlt, by rw [← HY.out]; rfl, by go_num, by trivial⟩
          case measure => simp [intOf]; omega
        · go_wp2_with (go_at_call 15; refine (C4.out _).mono ?_; rintro e w' ⟨rfl, rfl⟩)
          go_roundw
          case rel => exact ⟨k + 1, hlt, by rw [← HY.out]; rfl, by go_num, by trivial⟩
          case measure => simp [intOf]; omega
      · have hkl : k = len := by omega
        have e1 : t = true := by rw [← ht, hkl]; exact HM.out
        clear hkl ht
        subst e1
        go_wp2_with (first
          | (go_at_call 8; refine (C3.out _).mono ?_; rintro e w' ⟨rfl, rfl⟩)
          | (go_at_call 14; refine (awake_any _).mono ?_; rintro e w' ⟨rfl, rfl⟩))
        go_ret
        exact ⟨rfl, rfl⟩

theorem passes_all {H : Type} {enc : TypeId × Value → H} {W : World} {r : Reach} {b0 : Nat} {v : Value} {d : DataW H} {p : List MemPlace} (a s : Int) (hv : Value.okWide Try.prog W r b0 30 v) (h : DataW.Trod enc Try.prog W 0 (fun _ => true) true 30 v d p) :
    Calls Try.prog 5 #[.int .i64 a, .int .i64 s, v] W fun e w' => e = .returned (.bool true) ∧ W = w' := by
  obtain ⟨len, F, hI⟩ := open_intl Try.underlying30 Try.underlying3 (by kernel_rfl) hv h
  exact passes_any a s v len F W hI

/-! as the statements' texts take them -/
theorem kept_of {w w' : World} {e : Ending} (h : e = .returned (.bool true) ∧ w = w') : e = .returned (.bool true) ∧ Kept w w' := ⟨h.1, h.2 ▸ Kept.refl w⟩
theorem tells_k (a b c : Int) (w : World) : Calls Try.prog 3 #[.int .i64 a, .int .i64 b, .int .i64 c] w fun e w' => e = .returned (.bool true) ∧ Kept w w' :=
  (tells_any a b c w).mono fun _ _ h => kept_of h
theorem lends_k (a b c d h : Int) (w : World) : Calls Try.prog 4 #[.int .i64 a, .int .i64 b, .int .i64 c, .int .i64 d, .int .i64 h] w fun e w' => e = .returned (.bool true) ∧ Kept w w' :=
  (lends_any a b c d h w).mono fun _ _ h => kept_of h
theorem passes_k {H : Type} {enc : TypeId × Value → H} {W : World} {r : Reach} {b0 : Nat} {v : Value} {d : DataW H} {p : List MemPlace} (a s : Int) (hv : Value.okWide Try.prog W r b0 30 v) (h : DataW.Trod enc Try.prog W 0 (fun _ => true) true 30 v d p) :
    Calls Try.prog 5 #[.int .i64 a, .int .i64 s, v] W fun e w' => e = .returned (.bool true) ∧ Kept W w' :=
  (passes_all a s hv h).mono fun _ _ h => kept_of h

end Go.Proofs.Ytfcdlclolhcmhaa.Le
