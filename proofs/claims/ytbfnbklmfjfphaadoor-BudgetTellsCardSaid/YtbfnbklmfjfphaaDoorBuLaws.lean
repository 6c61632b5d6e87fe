/- The walks of the laws of layer 14. -/
import Derived.Test.YtbfnbklmfjfphaaDoorBu
import Derived.Test.YtbfnbklmfjfphaaDoorArgI
namespace Go.Proofs.YtbfnbklmfjfphaaDoor.Bu
open Go.RowKit St Go.Sort Tm Args
set_option linter.unusedVariables false

theorem dl_ex : dl 10 [49, 48, 48, 117] = (110, 0) := by decide +kernel
theorem hop_ex : hop 110 10 = [49, 48, 48, 117] := by
  unfold hop
  rw [show Tk.sub 110 10 = 100 by decide]
  have e : fin 100 = 0 := by decide
  unfold enc
  rw [e, show ((100 : Int) / uAt 0).toNat = 100 by decide]
  repeat rw [Lib.decDigits, dif_neg (by omega)]
  rw [Lib.decDigits_one (by omega)]
  decide

set_option maxHeartbeats 1000000 in
theorem awake_any (a w : World) (h : At a w) : Calls Tryd.prog 16 #[] w fun e w' => e = .returned (.bool true) ∧ At a w' := by
  have c1 : ∀ w, Calls Tryd.prog 6 #[.int .i64 10, .string { data := #[49, 48, 48, 117] }] w fun e w' => e = .returned (.tuple #[.int .i64 110, .int .i64 0]) ∧ w = w' := fun w => by
    have := deadline_any 10 ⟨#[49, 48, 48, 117]⟩ w
    rw [show (⟨#[49, 48, 48, 117]⟩ : ByteArray).data.toList = [49, 48, 48, 117] from rfl, dl_ex] at this
    exact this
  have c2 : ∀ w, At a w → Calls Tryd.prog 12 #[.int .i64 110, .int .i64 10] w fun e w' => e = .returned (.string { data := #[49, 48, 48, 117] }) ∧ At a w' := fun w hA => by
    have := at_of hA (hop_any 110 10 w hA.2)
    rw [hop_ex] at this
    exact this
  have c3 : ∀ w, Calls Tryd.prog 10 #[.int .i64 110, .int .i64 10, .int .i64 100] w fun e w' => e = .returned (.bool true) ∧ w = w' := fun w => by
    have := enough_any 110 10 100 w
    rw [show enough 110 10 100 = true by decide] at this
    exact this
  have c4 : ∀ w, Calls Tryd.prog 10 #[.int .i64 110, .int .i64 10, .int .i64 101] w fun e w' => e = .returned (.bool false) ∧ w = w' := fun w => by
    have := enough_any 110 10 101 w
    rw [show enough 110 10 101 = false by decide] at this
    exact this
  have C1 := Lib.hid c1
  have C2 := Lib.hid c2
  have C3 := Lib.hid c3
  have C4 := Lib.hid c4
  clear c1 c2 c3 c4
  go_enter Tryd.func16, Tryd.ntmps16
  go_wp2_with fail
  refine (C1.out _).mono ?_; rintro e w' ⟨rfl, rfl⟩
  go_wp2_with fail
  refine (C2.out _ h).mono ?_; rintro e w' ⟨rfl, HA⟩
  go_wp2_with fail
  refine (C3.out _).mono ?_; rintro e w' ⟨rfl, rfl⟩
  go_wp2_with fail
  refine (C4.out _).mono ?_; rintro e w' ⟨rfl, rfl⟩
  go_wp2_with fail
  go_ret
  exact ⟨rfl, HA⟩

set_option maxHeartbeats 1000000 in
theorem tells_any (a b c : Int) (s : ByteArray) (w : World) (ht : Tab w) :
    Calls Tryd.prog 3 #[.int .i64 a, .int .i64 b, .int .i64 c, .string s] w fun e w' => e = .returned (.bool true) ∧ Kept w w' := by
  have HA := At.refl ht
  obtain ⟨S, hS⟩ : ∃ S : ByteArray, str (hop a b) = S := ⟨_, rfl⟩
  obtain ⟨l, hl⟩ : ∃ l, Tk.sub a b = l := ⟨_, rfl⟩
  obtain ⟨q, hq⟩ : ∃ q, enough a b c = q := ⟨_, rfl⟩
  obtain ⟨n, hn⟩ : ∃ n, next a b = n := ⟨_, rfl⟩
  obtain ⟨x, hx⟩ : ∃ x, (dl a s.data.toList).1 = x := ⟨_, rfl⟩
  obtain ⟨y, hy⟩ : ∃ y, (dl a s.data.toList).2 = y := ⟨_, rfl⟩
  have c1 : ∀ b, Calls Tryd.prog 6 #[.int .i64 a, .string s] b fun e w' => e = .returned (.tuple #[.int .i64 x, .int .i64 y]) ∧ b = w' := fun b => by rw [← hx, ← hy]; exact deadline_any a s b
  have c2 : ∀ b, Calls Tryd.prog 7 #[.int .i64 a, .string s] b fun e w' => e = .returned (.tuple #[.int .i64 x, .int .i64 y]) ∧ b = w' := fun b => by rw [← hx, ← hy]; exact rdeadline_any a s b
  have c3 : ∀ u, Calls Tryd.prog 8 #[.int .i64 a, .int .i64 b] u fun e w' => e = .returned (.int .i64 l) ∧ u = w' := fun u => by rw [← hl]; exact left_any a b u
  have c4 : ∀ u, Calls Tryd.prog 9 #[.int .i64 a, .int .i64 b] u fun e w' => e = .returned (.int .i64 l) ∧ u = w' := fun u => by rw [← hl]; exact Tk.rsub_any a b u
  have c5 : ∀ u, Calls Tryd.prog 10 #[.int .i64 a, .int .i64 b, .int .i64 c] u fun e w' => e = .returned (.bool q) ∧ u = w' := fun u => by rw [← hq]; exact enough_any a b c u
  have c6 : ∀ u, Calls Tryd.prog 11 #[.int .i64 a, .int .i64 b, .int .i64 c] u fun e w' => e = .returned (.bool q) ∧ u = w' := fun u => by rw [← hq]; exact renough_any a b c u
  have c7 : ∀ u, At w u → Calls Tryd.prog 12 #[.int .i64 a, .int .i64 b] u fun e w' => e = .returned (.string S) ∧ At w w' := fun u hu => by rw [← hS]; exact at_of hu (hop_any a b u hu.2)
  have c8 : ∀ u, At w u → Calls Tryd.prog 13 #[.int .i64 l] u fun e w' => e = .returned (.string S) ∧ At w w' := fun u hu => by rw [← hS, ← hl]; exact at_of hu (rhop_any a b u)
  have c9 : ∀ u, At w u → Calls Tryd.prog 14 #[.int .i64 a, .int .i64 b] u fun e w' => e = .returned (.int .i64 n) ∧ At w w' := fun u hu => by rw [← hn]; exact at_of hu (next_any a b u hu.2)
  have c0 : ∀ u, At w u → Calls Tryd.prog 15 #[.int .i64 a, .int .i64 b] u fun e w' => e = .returned (.int .i64 n) ∧ At w w' := fun u hu => by rw [← hn]; exact at_of hu (rnext_any a b u)
  have C1 := Lib.hid c1
  have C2 := Lib.hid c2
  have C3 := Lib.hid c3
  have C4 := Lib.hid c4
  have C5 := Lib.hid c5
  have C6 := Lib.hid c6
  have C7 := Lib.hid c7
  have C8 := Lib.hid c8
  have C9 := Lib.hid c9
  have C0 := Lib.hid c0
  clear c1 c2 c3 c4 c5 c6 c7 c8 c9 c0 hS hx hy hl hq hn
  go_enter Tryd.func3, Tryd.ntmps3
  go_wp2_with (first
    | (go_at_call 6; refine (C1.out _).mono ?_; rintro e w' ⟨rfl, rfl⟩)
    | (go_at_call 7; refine (C2.out _).mono ?_; rintro e w' ⟨rfl, rfl⟩)
    | (go_at_call 8; refine (C3.out _).mono ?_; rintro e w' ⟨rfl, rfl⟩)
    | (go_at_call 9; refine (C4.out _).mono ?_; rintro e w' ⟨rfl, rfl⟩)
    | (go_at_call 10; refine (C5.out _).mono ?_; rintro e w' ⟨rfl, rfl⟩)
    | (go_at_call 11; refine (C6.out _).mono ?_; rintro e w' ⟨rfl, rfl⟩)
    | (go_at_call 12; refine (C7.out _ (by assumption)).mono ?_; rintro e w' ⟨rfl, HA⟩)
    | (go_at_call 13; refine (C8.out _ (by assumption)).mono ?_; rintro e w' ⟨rfl, HA⟩)
    | (go_at_call 14; refine (C9.out _ (by assumption)).mono ?_; rintro e w' ⟨rfl, HA⟩)
    | (go_at_call 15; refine (C0.out _ (by assumption)).mono ?_; rintro e w' ⟨rfl, HA⟩)
    | (go_at_call 16; refine (awake_any w _ (by assumption)).mono ?_; rintro e w' ⟨rfl, HA⟩))
  go_ret
  exact ⟨rfl, HA.1⟩

/-! a budget never grows -/
theorem left_min {x : Int} (h0 : 0 ≤ x) (h1 : x ≤ 1125899906842624) : x - left x < 60000000 := by
  have h := left_lt x
  have : uAt (fin x) ≤ 60000000 := by
    unfold fin
    repeat' split
    all_goals first | (exfalso; omega) | decide
  omega
theorem next_past {a b : Int} (h : Tk.clamp a ≤ Tk.clamp b) : next a b = Tk.clamp b ∧ Tk.sub a b = 0 := by
  have e : Tk.sub a b = 0 := by unfold Tk.sub; omega
  have h0 := Tk.clamp_lo b
  have h1 := Tk.clamp_hi b
  refine ⟨?_, e⟩
  unfold next
  rw [e, left_small (by omega), Tk.add_eq, Tk.clamp_id 0 (by omega) (by omega)]
  omega
theorem next_ahead {a b : Int} (h : Tk.clamp b ≤ Tk.clamp a) : next a b = Tk.clamp b + left (Tk.clamp a - Tk.clamp b) := by
  have e : Tk.sub a b = Tk.clamp a - Tk.clamp b := by unfold Tk.sub; omega
  have h0 := Tk.clamp_lo b
  have h1 := Tk.clamp_hi a
  have h2 := left_lo (x := Tk.clamp a - Tk.clamp b) (by omega)
  have h3 := left_le (x := Tk.clamp a - Tk.clamp b)
  unfold next
  rw [e, Tk.add_eq, Tk.clamp_id (left _) h2 (by omega)]
  omega
theorem next_lo (a b : Int) : 0 ≤ next a b := Tk.add_lo _ _
theorem next_hi (a b : Int) : next a b ≤ 1125899906842624 := Tk.add_hi _ _
theorem next_le {a b : Int} (h : Tk.clamp b ≤ Tk.clamp a) : next a b ≤ Tk.clamp a := by
  have h3 := left_le (x := Tk.clamp a - Tk.clamp b)
  rw [next_ahead h]; omega

set_option maxHeartbeats 1000000 in
theorem shrinks_any (a b : Int) (w : World) (ht : Tab w) :
    Calls Tryd.prog 4 #[.int .i64 a, .int .i64 b] w fun e w' => e = .returned (.bool true) ∧ Kept w w' := by
  have HA := At.refl ht
  obtain ⟨d, hd⟩ : ∃ d, Tk.clamp a = d := ⟨_, rfl⟩
  obtain ⟨n, hn⟩ : ∃ n, Tk.clamp b = n := ⟨_, rfl⟩
  obtain ⟨x, hx⟩ : ∃ x, next a b = x := ⟨_, rfl⟩
  have hd0 : 0 ≤ d := hd ▸ Tk.clamp_lo a
  have hd1 : d ≤ 1125899906842624 := hd ▸ Tk.clamp_hi a
  have hn0 : 0 ≤ n := hn ▸ Tk.clamp_lo b
  have hn1 : n ≤ 1125899906842624 := hn ▸ Tk.clamp_hi b
  have C1 := Lib.hid (fun u : World => hd ▸ Tk.rclamp_any a u)
  have C2 := Lib.hid (fun u : World => hn ▸ Tk.rclamp_any b u)
  have C3 := Lib.hid (show ∀ u, At w u → Calls Tryd.prog 14 #[.int .i64 a, .int .i64 b] u fun e w' => e = .returned (.int .i64 x) ∧ At w w' from fun u hu => by rw [← hx]; exact at_of hu (next_any a b u hu.2))
  by_cases hp : d ≤ n
  · obtain ⟨e1, e2⟩ := next_past (a := a) (b := b) (by omega)
    have hxn : (x == n) = true := by rw [← hx, e1, hn]; simp
    have C4 := Lib.hid (fun u : World => e2 ▸ left_any a b u)
    have C5 := Lib.hid (show ∀ u, Calls Tryd.prog 10 #[.int .i64 a, .int .i64 b, .int .i64 0] u fun e w' => e = .returned (.bool false) ∧ u = w' from fun u => by
      have := enough_any a b 0 u
      rw [show enough a b 0 = false by unfold enough; rw [e2]; simp] at this
      exact this)
    clear hd hn hx e1 e2
    go_enter Tryd.func4, Tryd.ntmps4
    go_wp2_with fail
    refine (C1.out _).mono ?_; rintro e w' ⟨rfl, rfl⟩
    go_wp2_with fail
    refine (C2.out _).mono ?_; rintro e w' ⟨rfl, rfl⟩
    go_wp2_with fail
    refine (C3.out _ HA).mono ?_; rintro e w1 ⟨rfl, HA1⟩
    go_wp2_with fail
    refine (C4.out _).mono ?_; rintro e w' ⟨rfl, rfl⟩
    go_wp2_with fail
    refine (C5.out _).mono ?_; rintro e w' ⟨rfl, rfl⟩
    go_wp2_with fail
    refine (awake_any w _ HA1).mono ?_; rintro e w2 ⟨rfl, HA2⟩
    go_wp2_with fail
    go_ret
    exact ⟨rfl, HA2.1⟩
  · have e1 := next_ahead (a := a) (b := b) (by omega)
    rw [hx, hd, hn] at e1
    have g1 := left_lo (x := d - n) (by omega)
    have g2 := left_le (x := d - n)
    have g3 := left_min (x := d - n) (by omega) (by omega)
    have hx0 : x ≤ d := by omega
    have hx1 : n ≤ x := by omega
    have hx2 : d - x < 60000000 := by omega
    by_cases h9 : 99999999 < d - n
    · clear hd hn hx e1 g1 g2 g3
      go_enter Tryd.func4, Tryd.ntmps4
      go_wp2_with fail
      refine (C1.out _).mono ?_; rintro e w' ⟨rfl, rfl⟩
      go_wp2_with fail
      refine (C2.out _).mono ?_; rintro e w' ⟨rfl, rfl⟩
      go_wp2_with fail
      refine (C3.out _ HA).mono ?_; rintro e w1 ⟨rfl, HA1⟩
      go_wp2_with fail
      refine (awake_any w _ HA1).mono ?_; rintro e w2 ⟨rfl, HA2⟩
      go_wp2_with fail
      go_ret
      exact ⟨rfl, HA2.1⟩
    · have e2 := left_small (x := d - n) (by omega)
      have hxd : (x == d) = true := by simp; omega
      clear hd hn hx e1 e2 g1 g2 g3
      go_enter Tryd.func4, Tryd.ntmps4
      go_wp2_with fail
      refine (C1.out _).mono ?_; rintro e w' ⟨rfl, rfl⟩
      go_wp2_with fail
      refine (C2.out _).mono ?_; rintro e w' ⟨rfl, rfl⟩
      go_wp2_with fail
      refine (C3.out _ HA).mono ?_; rintro e w1 ⟨rfl, HA1⟩
      go_wp2_with fail
      refine (awake_any w _ HA1).mono ?_; rintro e w2 ⟨rfl, HA2⟩
      go_wp2_with fail
      go_ret
      exact ⟨rfl, HA2.1⟩

/-! hops, one behind the other -/
/-- the deadline behind so many hops -/
def chain (d : Int) (F : Nat → Int) : Nat → Int
  | 0 => d
  | k + 1 => next (chain d F k) (F k)
theorem chain_bounds {d : Int} (h0 : 0 ≤ d) (h1 : d ≤ 1125899906842624) (F : Nat → Int) : ∀ k, 0 ≤ chain d F k ∧ chain d F k ≤ 1125899906842624
  | 0 => ⟨h0, h1⟩
  | k + 1 => ⟨next_lo _ _, next_hi _ _⟩
theorem ints_slice {W : World} {v : Value} {len : Nat} {F : Nat → Int} (h : Ints W v len F) : ∃ a0 cap, v = .slice a0 len cap := by
  rcases h with ⟨rfl, a, cap, rfl⟩ | ⟨_, _, b, off, cap, rfl, _⟩
  · exact ⟨_, _, rfl⟩
  · exact ⟨_, _, rfl⟩
theorem ints_cell {W : World} {a0 : Option Addr} {cap len : Nat} {F : Nat → Int} (h : Ints W (.slice a0 len cap) len F) {k : Nat} (hk : k < len) :
    ∃ b off, a0 = some ⟨b, off, none⟩ ∧ ∀ u, Kept W u → u.cell? ⟨b, off + k, none⟩ = some (.int .i64 (F k)) := by
  rcases h with ⟨h, _⟩ | ⟨_, _, b, off, cap', he, hb, hc⟩
  · omega
  · simp only [Value.slice.injEq] at he
    exact ⟨b, off, he.1, fun u hu => by rw [hu.cell (p := ⟨b, off + k, none⟩) hb]; exact (hc k hk).1⟩

set_option maxHeartbeats 1000000 in
theorem chain_any (d : Int) (v : Value) (len : Nat) (F : Nat → Int) (w W : World) (hp : Ints W v len F) (hA : At W w) (hl : len ≤ 100) :
    Calls Tryd.prog 18 #[.int .i64 d, v] w fun e w' => e = .returned (.int .i64 (chain (Tk.clamp d) F len)) ∧ At W w' := by
  obtain ⟨a0, cap, rfl⟩ := ints_slice hp
  obtain ⟨c, hc⟩ : ∃ c, Hid (Tk.clamp d = c) := ⟨_, rfl⟩
  have C1 := Lib.hid (show ∀ u, Calls Tryd.prog 24 #[.int .i64 d] u fun e w' => e = .returned (.int .i64 c) ∧ u = w' from fun u => by rw [← hc.out]; exact Tk.clamp_any d u)
  have HP := Lib.hid hp
  clear hp
  go_enter Tryd.func18, Tryd.ntmps18
  go_wp2_with (go_at_call 24; refine (C1.out _).mono ?_; rintro e w' ⟨rfl, rfl⟩)
  go_loopw [0, 11] (fun x i wr => ∃ k : Nat, k ≤ len ∧ x = .int .i64 (chain c F k) ∧ i = .int .i64 (k : Int) ∧ At W wr) (fun _ i _ => len - (intOf i).toNat)
  case atStart => exact ⟨0, Nat.zero_le _, rfl, rfl, hA⟩
  case round =>
    obtain ⟨k, hk, rfl, rfl, HA⟩ := hrel
    obtain ⟨x, hx⟩ : ∃ x, chain c F k = x := ⟨_, rfl⟩
    rw [hx]
    by_cases hlt : k < len
    · obtain ⟨b, off, rfl, hcell⟩ := ints_cell HP.out hlt
      have hc0 := hcell wr HA.1
      obtain ⟨z, hz⟩ : ∃ z, F k = z := ⟨_, rfl⟩
      rw [hz] at hc0
      obtain ⟨y, hy⟩ : ∃ y, next x z = y := ⟨_, rfl⟩
      have C3 := Lib.hid (show Calls Tryd.prog 14 #[.int .i64 x, .int .i64 z] wr fun e w' => e = .returned (.int .i64 y) ∧ At W w' by rw [← hy]; exact at_of HA (next_any x z wr HA.2))
      have HY : Hid (y = chain c F (k + 1)) := by show _ = _; rw [← hy, ← hx, ← hz]; rfl
      clear hx hz hy hcell
      go_wp2_with (go_at_call 14; refine C3.out.mono ?_; rintro e w' ⟨rfl, HA2⟩)
      go_roundw
      case rel => exact ⟨k + 1, hlt, by rw [← HY.out], by go_num, HA2⟩
      case measure => simp [intOf]; omega
    · have hkl : k = len := by omega
      have HK := Lib.hid hkl
      have HX := Lib.hid hx
      clear hkl hx
      go_wp2_with fail
      go_ret
      exact ⟨ret_int (by rw [hc.out, ← HK.out, HX.out]), HA⟩

set_option maxHeartbeats 1000000 in
theorem bchain_any (d : Int) (v : Value) (len : Nat) (F : Nat → Int) (w : World) (hp : Ints w v len F) (ht : Tab w) :
    Calls Tryd.prog 5 #[.int .i64 d, v] w fun e w' => e = .returned (.bool true) ∧ Kept w w' := by
  have HA := At.refl ht
  have hp0 := hp
  obtain ⟨a0, cap, rfl⟩ := ints_slice hp
  by_cases h100 : 100 < len
  · clear hp hp0
    go_enter Tryd.func5, Tryd.ntmps5
    go_wp2_with (go_at_call 16; refine (awake_any w _ (by assumption)).mono ?_; rintro e w' ⟨rfl, HA⟩)
    go_ret
    exact ⟨rfl, HA.1⟩
  · obtain ⟨c, hc⟩ : ∃ c, Hid (Tk.clamp d = c) := ⟨_, rfl⟩
    have hc0 : 0 ≤ c := hc.out ▸ Tk.clamp_lo d
    have hc1 : c ≤ 1125899906842624 := hc.out ▸ Tk.clamp_hi d
    have C1 := Lib.hid (show ∀ u, Calls Tryd.prog 17 #[.int .i64 d] u fun e w' => e = .returned (.int .i64 c) ∧ u = w' from fun u => by rw [← hc.out]; exact Tk.rclamp_any d u)
    have C2 := Lib.hid (show ∀ u, At w u → Calls Tryd.prog 18 #[.int .i64 d, .slice a0 len cap] u fun e w' => e = .returned (.int .i64 (chain c F len)) ∧ At w w' from fun u hu => by rw [← hc.out]; exact chain_any d _ len F u w hp hu (by omega))
    have HP := Lib.hid hp
    clear hp hp0
    go_enter Tryd.func5, Tryd.ntmps5
    go_wp2_with (go_at_call 17; refine (C1.out _).mono ?_; rintro e w' ⟨rfl, rfl⟩)
    go_loopw [6, 7] (fun x i wr => ∃ k : Nat, k ≤ len ∧ x = .int .i64 (chain c F k) ∧ i = .int .i64 (k : Int) ∧ chain c F k ≤ c ∧ At w wr) (fun _ i _ => len - (intOf i).toNat)
    case atStart => exact ⟨0, Nat.zero_le _, rfl, rfl, Int.le_refl _, HA⟩
    case round =>
      obtain ⟨k, hk, rfl, rfl, hle, HA⟩ := hrel
      obtain ⟨hb0, hb1⟩ := chain_bounds hc0 hc1 F k
      obtain ⟨x, hx⟩ : ∃ x, chain c F k = x := ⟨_, rfl⟩
      rw [hx] at hle hb0 hb1 ⊢
      by_cases hlt : k < len
      · obtain ⟨b, off, rfl, hcell⟩ := ints_cell HP.out hlt
        have hc0 := hcell wr HA.1
        obtain ⟨z, hz⟩ : ∃ z, F k = z := ⟨_, rfl⟩
        rw [hz] at hc0
        obtain ⟨y, hy⟩ : ∃ y, next x z = y := ⟨_, rfl⟩
        obtain ⟨m, hm⟩ : ∃ m, Tk.clamp z = m := ⟨_, rfl⟩
        have C3 := Lib.hid (show Calls Tryd.prog 15 #[.int .i64 x, .int .i64 z] wr fun e w' => e = .returned (.int .i64 y) ∧ At w w' by rw [← hy]; exact at_of HA (rnext_any x z wr))
        have C4 := Lib.hid (show ∀ u, Calls Tryd.prog 17 #[.int .i64 z] u fun e w' => e = .returned (.int .i64 m) ∧ u = w' from fun u => by rw [← hm]; exact Tk.rclamp_any z u)
        by_cases hpast : x < m
        · clear hx hz hy hm hcell
          go_wp2_with (first
            | (go_at_call 17; refine (C4.out _).mono ?_; rintro e w' ⟨rfl, rfl⟩)
            | (go_at_call 16; refine (awake_any w _ HA).mono ?_; rintro e w' ⟨rfl, HA2⟩))
          go_ret
          exact ⟨rfl, HA2.1⟩
        · have hyc : y ≤ c := by
            have h1 := Tk.clamp_id x hb0 hb1
            have := next_le (a := x) (b := z) (by rw [hm, h1]; omega)
            rw [hy, h1] at this
            omega
          have HY : Hid (y = chain c F (k + 1)) := by show _ = _; rw [← hy, ← hx, ← hz]; rfl
          clear hx hz hy hm hcell
          go_wp2_with (first
            | (go_at_call 17; refine (C4.out _).mono ?_; rintro e w' ⟨rfl, rfl⟩)
            | (go_at_call 15; refine C3.out.mono ?_; rintro e w' ⟨rfl, HA2⟩))
          go_roundw
          case rel => exact ⟨k + 1, hlt, by rw [← HY.out], by go_num, by rw [← HY.out]; exact hyc, HA2⟩
          case measure => simp [intOf]; omega
      · have hkl : k = len := by omega
        have C5 := Lib.hid (show ∀ u, At w u → Calls Tryd.prog 18 #[.int .i64 d, .slice a0 len cap] u fun e w' => e = .returned (.int .i64 x) ∧ At w w' from fun u hu => by rw [← hx, hkl]; exact C2.out u hu)
        clear hkl hx
        go_wp2_with (first
          | (go_at_call 18; refine (C5.out _ HA).mono ?_; rintro e w' ⟨rfl, HA2⟩)
          | (go_at_call 16; refine (awake_any w _ HA2).mono ?_; rintro e w' ⟨rfl, HA3⟩))
        go_ret
        exact ⟨rfl, HA3.1⟩

theorem bchain_all {H : Type} {enc : TypeId × Value → H} {W : World} {r : Reach} {b0 : Nat} {v : Value} {d : DataW H} {p : List MemPlace} (a : Int) (hv : Value.okWide Tryd.prog W r b0 35 v) (h : DataW.Trod enc Tryd.prog W 0 (fun _ => true) true 35 v d p) (ht : Tab W) :
    Calls Tryd.prog 5 #[.int .i64 a, v] W fun e w' => e = .returned (.bool true) ∧ Kept W w' := by
  obtain ⟨len, F, hI⟩ := open_intl Tryd.underlying35 Tryd.underlying3 (by kernel_rfl) hv h
  exact bchain_any a v len F W hI ht

end Go.Proofs.YtbfnbklmfjfphaaDoor.Bu
