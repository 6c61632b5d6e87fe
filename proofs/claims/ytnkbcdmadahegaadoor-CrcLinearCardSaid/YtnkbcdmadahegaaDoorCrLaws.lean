/- The four laws of layer 3. -/
import Derived.Test.YtnkbcdmadahegaaDoorCr5
namespace Go.Proofs.YtnkbcdmadahegaaDoor.Cr
open Go.RowKit St Go.Sort CrM
set_option linter.unusedVariables false

/-- where the call stands: what was there is kept, and the table lies -/
def At (a b : World) : Prop := Kept a b ∧ Tab b
theorem At.refl {w : World} (h : Tab w) : At w w := ⟨Kept.refl _, h⟩
theorem at_of {a b : World} {f : FuncId} {args : Array Value} {v : Value} (hb : At a b) (h : Calls Tryd.prog f args b fun e w' => e = .returned v ∧ Kept b w') :
    Calls Tryd.prog f args b fun e w' => e = .returned v ∧ At a w' :=
  h.mono fun _ _ ⟨he, hk⟩ => ⟨he, hb.1.trans hk, hb.2.kept hk⟩
theorem at_same {a b : World} {f : FuncId} {args : Array Value} {v : Value} (hb : At a b) (h : Calls Tryd.prog f args b fun e w' => e = .returned v ∧ b = w') :
    Calls Tryd.prog f args b fun e w' => e = .returned v ∧ At a w' :=
  h.mono fun _ _ ⟨he, hk⟩ => ⟨he, by subst hk; exact hb⟩

def nums : ByteArray := ⟨#[49, 50, 51, 52, 53, 54, 55, 56, 57]⟩
set_option maxHeartbeats 400000 in
theorem awake_any (a w : World) (ha : At a w) :
    Calls Tryd.prog 7 #[] w fun e w' => e = .returned (.bool true) ∧ At a w' := by
  have h1 := at_same ha (sum_any nums (by decide) w ha.2)
  have e1 : ((cr 0xFFFF#16 nums.data.toList).toNat : Int) = 10673 := by decide +kernel
  rw [e1] at h1
  have h2 : ∀ b, At a b → Calls Tryd.prog 14 #[.string ⟨#[]⟩] b fun e w' => e = .returned (.string ⟨#[255, 255]⟩) ∧ At a w' := fun b hb => by
    have := at_of hb (seal_any ⟨#[]⟩ (by decide) b hb.2)
    have e2 : (⟨(sealed (⟨#[]⟩ : ByteArray).data.toList).toArray⟩ : ByteArray) = ⟨#[255, 255]⟩ := by decide +kernel
    rw [e2] at this
    exact this
  have H1 := Lib.hid (show Calls Tryd.prog 10 #[.string ⟨#[49, 50, 51, 52, 53, 54, 55, 56, 57]⟩] w _ from h1)
  have H2 := Lib.hid h2
  clear h1 e1 h2
  go_enter Tryd.func7, Tryd.ntmps7
  go_wp2_with (first | (go_at_call 10; refine H1.out.mono ?_; rintro e w' ⟨rfl, HA⟩) | (go_at_call 14; refine (H2.out _ (by assumption)).mono ?_; rintro e w' ⟨rfl, HA⟩))
  go_ret
  exact ⟨rfl, by assumption⟩

set_option maxHeartbeats 1000000 in
theorem tells_any (s : ByteArray) (c : V) (hs : s.size ≤ maxLen) (w : World) (ht : Tab w) :
    Calls Tryd.prog 3 #[.string s, .int .u16 (c.toNat : Int)] w fun e w' => e = .returned (.bool true) ∧ Kept w w' := by
  have HA := At.refl ht
  unfold maxLen at hs
  by_cases hb : 2000 < s.size
  · go_enter Tryd.func3, Tryd.ntmps3
    go_wp2_with (go_at_call 7; refine (awake_any w _ (by assumption)).mono ?_; rintro e w' ⟨rfl, HA⟩)
    go_ret
    exact ⟨rfl, HA.1⟩
  · have hm : s.size ≤ maxLen := by unfold maxLen; omega
    have h5 : s.size ≤ 5000 := by omega
    obtain ⟨S, hS⟩ : ∃ S : ByteArray, (⟨(sealed s.data.toList).toArray⟩ : ByteArray) = S := ⟨_, rfl⟩
    obtain ⟨T, hT⟩ : ∃ T : ByteArray, (⟨(openT s.data.toList).toArray⟩ : ByteArray) = T := ⟨_, rfl⟩
    obtain ⟨o, ho⟩ : ∃ o, openOk s.data.toList = o := ⟨_, rfl⟩
    obtain ⟨x, hx⟩ : ∃ x : Int, ((cr 0xFFFF#16 s.data.toList).toNat : Int) = x := ⟨_, rfl⟩
    obtain ⟨y, hy⟩ : ∃ y : Int, ((cr c s.data.toList).toNat : Int) = y := ⟨_, rfl⟩
    have c1 : ∀ b, At w b → Calls Tryd.prog 8 #[.string s] b fun e w' => e = .returned (.tuple #[.string T, .bool o]) ∧ At w w' := fun b hb => by rw [← hT, ← ho]; exact at_of hb (open_any s h5 b hb.2)
    have c2 : ∀ b, At w b → Calls Tryd.prog 9 #[.string s] b fun e w' => e = .returned (.tuple #[.string T, .bool o]) ∧ At w w' := fun b hb => by rw [← hT, ← ho]; exact at_of hb (ropen_any s h5 b)
    have c3 : ∀ b, At w b → Calls Tryd.prog 10 #[.string s] b fun e w' => e = .returned (.int .u16 x) ∧ At w w' := fun b hb => by rw [← hx]; exact at_same hb (sum_any s hm b hb.2)
    have c4 : ∀ b, At w b → Calls Tryd.prog 11 #[.string s] b fun e w' => e = .returned (.int .u16 x) ∧ At w w' := fun b hb => by rw [← hx]; exact at_same hb (rsum_any s hm b)
    have c5 : ∀ b, At w b → Calls Tryd.prog 12 #[.int .u16 (c.toNat : Int), .string s] b fun e w' => e = .returned (.int .u16 y) ∧ At w w' := fun b hb => by rw [← hy]; exact at_same hb (more_any c s hm b hb.2)
    have c6 : ∀ b, At w b → Calls Tryd.prog 13 #[.int .u16 (c.toNat : Int), .string s] b fun e w' => e = .returned (.int .u16 y) ∧ At w w' := fun b hb => by rw [← hy]; exact at_same hb (rmore_any c s hm b)
    have c7 : ∀ b, At w b → Calls Tryd.prog 14 #[.string s] b fun e w' => e = .returned (.string S) ∧ At w w' := fun b hb => by rw [← hS]; exact at_of hb (seal_any s h5 b hb.2)
    have c8 : ∀ b, At w b → Calls Tryd.prog 15 #[.string s] b fun e w' => e = .returned (.string S) ∧ At w w' := fun b hb => by rw [← hS]; exact at_of hb (rseal_any s h5 b)
    have C1 := Lib.hid c1
    have C2 := Lib.hid c2
    have C3 := Lib.hid c3
    have C4 := Lib.hid c4
    have C5 := Lib.hid c5
    have C6 := Lib.hid c6
    have C7 := Lib.hid c7
    have C8 := Lib.hid c8
    clear c1 c2 c3 c4 c5 c6 c7 c8 hS hT ho hx hy hm
    go_enter Tryd.func3, Tryd.ntmps3
    go_wp2_with (first
      | (go_at_call 8; refine (C1.out _ (by assumption)).mono ?_; rintro e w' ⟨rfl, HA⟩)
      | (go_at_call 9; refine (C2.out _ (by assumption)).mono ?_; rintro e w' ⟨rfl, HA⟩)
      | (go_at_call 10; refine (C3.out _ (by assumption)).mono ?_; rintro e w' ⟨rfl, HA⟩)
      | (go_at_call 11; refine (C4.out _ (by assumption)).mono ?_; rintro e w' ⟨rfl, HA⟩)
      | (go_at_call 12; refine (C5.out _ (by assumption)).mono ?_; rintro e w' ⟨rfl, HA⟩)
      | (go_at_call 13; refine (C6.out _ (by assumption)).mono ?_; rintro e w' ⟨rfl, HA⟩)
      | (go_at_call 14; refine (C7.out _ (by assumption)).mono ?_; rintro e w' ⟨rfl, HA⟩)
      | (go_at_call 15; refine (C8.out _ (by assumption)).mono ?_; rintro e w' ⟨rfl, HA⟩)
      | (go_at_call 7; refine (awake_any w _ (by assumption)).mono ?_; rintro e w' ⟨rfl, HA⟩))
    go_ret
    exact ⟨rfl, HA.1⟩

theorem open_sealed (l : List UInt8) : openOk (sealed l) = true ∧ openT (sealed l) = l := by
  have h : openOk (sealed l) = true := by
    unfold openOk
    rw [seal_len, seal_cr]; simp
  exact ⟨h, by rw [openT_yes _ h, seal_len]; simp [sealed]⟩

set_option maxHeartbeats 1000000 in
theorem goes_any (s r : ByteArray) (w : World) (ht : Tab w) (hs : s.size ≤ maxLen) (hr : r.size ≤ maxLen) :
    Calls Tryd.prog 4 #[.string s, .string r] w fun e w' => e = .returned (.bool true) ∧ Kept w w' := by
  have HA := At.refl ht
  unfold maxLen at hs hr
  by_cases hb : 2000 < s.size
  · go_enter Tryd.func4, Tryd.ntmps4
    go_wp2_with (go_at_call 7; refine (awake_any w _ (by assumption)).mono ?_; rintro e w' ⟨rfl, HA⟩)
    go_ret
    exact ⟨rfl, HA.1⟩
  by_cases hb2 : 2000 < r.size
  · go_enter Tryd.func4, Tryd.ntmps4
    go_wp2_with (go_at_call 7; refine (awake_any w _ (by assumption)).mono ?_; rintro e w' ⟨rfl, HA⟩)
    go_ret
    exact ⟨rfl, HA.1⟩
  obtain ⟨S, hS⟩ : ∃ S : ByteArray, (⟨(sealed s.data.toList).toArray⟩ : ByteArray) = S := ⟨_, rfl⟩
  have hSl : S.data.toList = sealed s.data.toList := by rw [← hS]
  have hSz : S.size ≤ 5000 := by rw [size_list, hSl, seal_len, ← size_list]; omega
  have n1 : ¬ 9223372036854775807 < s.size + r.size := by omega
  obtain ⟨D, hD⟩ : ∃ D : ByteArray, s ++ r = D := ⟨_, rfl⟩
  have hDl : D.data.toList = s.data.toList ++ r.data.toList := by rw [← hD]; simp
  have hDz : D.size ≤ 5000 := by rw [size_list, hDl, List.length_append, ← size_list, ← size_list]; omega
  obtain ⟨x, hx⟩ : ∃ x : V, cr 0xFFFF#16 s.data.toList = x := ⟨_, rfl⟩
  obtain ⟨y, hy⟩ : ∃ y : Int, ((cr x r.data.toList).toNat : Int) = y := ⟨_, rfl⟩
  have c1 : ∀ b, At w b → Calls Tryd.prog 8 #[.string S] b fun e w' => e = .returned (.tuple #[.string s, .bool true]) ∧ At w w' := fun b hb => by
    have := at_of hb (open_any S hSz b hb.2)
    rw [hSl, (open_sealed _).1, (open_sealed _).2, ← str_of s _ rfl] at this
    exact this
  have c3 : ∀ b, At w b → Calls Tryd.prog 10 #[.string s] b fun e w' => e = .returned (.int .u16 (x.toNat : Int)) ∧ At w w' := fun b hb => by rw [← hx]; exact at_same hb (sum_any s (by unfold maxLen; omega) b hb.2)
  have c4 : ∀ b, At w b → Calls Tryd.prog 10 #[.string D] b fun e w' => e = .returned (.int .u16 y) ∧ At w w' := fun b hb => by
    have := at_same hb (sum_any D (by unfold maxLen; omega) b hb.2)
    rw [hDl, cr_append, hx, hy] at this
    exact this
  have c5 : ∀ b, At w b → Calls Tryd.prog 12 #[.int .u16 (x.toNat : Int), .string r] b fun e w' => e = .returned (.int .u16 y) ∧ At w w' := fun b hb => by rw [← hy]; exact at_same hb (more_any x r (by unfold maxLen; omega) b hb.2)
  have c7 : ∀ b, At w b → Calls Tryd.prog 14 #[.string s] b fun e w' => e = .returned (.string S) ∧ At w w' := fun b hb => by rw [← hS]; exact at_of hb (seal_any s (by omega) b hb.2)
  have C1 := Lib.hid c1
  have C3 := Lib.hid c3
  have C4 := Lib.hid c4
  have C5 := Lib.hid c5
  have C7 := Lib.hid c7
  clear c1 c3 c4 c5 c7 hS hSl hDl hx hy
  go_enter Tryd.func4, Tryd.ntmps4
  go_wp2_with (first
    | (go_at_call 8; refine (C1.out _ (by assumption)).mono ?_; rintro e w' ⟨rfl, HA⟩)
    | (go_at_call 10; ((with_reducible refine (C3.out _ (by assumption)).mono ?_)); rintro e w' ⟨rfl, HA⟩)
    | (go_at_call 10; ((with_reducible refine (C4.out _ (by assumption)).mono ?_)); rintro e w' ⟨rfl, HA⟩)
    | (go_at_call 12; refine (C5.out _ (by assumption)).mono ?_; rintro e w' ⟨rfl, HA⟩)
    | (go_at_call 14; refine (C7.out _ (by assumption)).mono ?_; rintro e w' ⟨rfl, HA⟩)
    | (go_at_call 7; refine (awake_any w _ (by assumption)).mono ?_; rintro e w' ⟨rfl, HA⟩))
  go_ret
  exact ⟨rfl, HA.1⟩

set_option maxHeartbeats 1000000 in
theorem finds_any (s : ByteArray) (a : Int) (x y : UInt8) (w : World) (ht : Tab w) (hs : s.size ≤ maxLen) :
    Calls Tryd.prog 5 #[.string s, .int .i64 a, .int .u8 (x.toNat : Int), .int .u8 (y.toNat : Int)] w fun e w' => e = .returned (.bool true) ∧ Kept w w' := by
  have HA := At.refl ht
  unfold maxLen at hs
  by_cases hb : 2000 < s.size
  · go_enter Tryd.func5, Tryd.ntmps5
    go_wp2_with (go_at_call 7; refine (awake_any w _ (by assumption)).mono ?_; rintro e w' ⟨rfl, HA⟩)
    go_ret
    exact ⟨rfl, HA.1⟩
  by_cases hx0 : x = 0
  · subst hx0
    go_enter Tryd.func5, Tryd.ntmps5
    go_wp2_with (go_at_call 7; refine (awake_any w _ (by assumption)).mono ?_; rintro e w' ⟨rfl, HA⟩)
    go_ret
    exact ⟨rfl, HA.1⟩
  have hxn : 0 < x.toNat := by
    rcases Nat.eq_zero_or_pos x.toNat with h | h
    · exact absurd (UInt8.toNat_inj.mp h) hx0
    · exact h
  obtain ⟨X, hX⟩ : ∃ X : Int, (x.toNat : Int) = X := ⟨_, rfl⟩
  obtain ⟨Y, hY⟩ : ∃ Y : Int, (y.toNat : Int) = Y := ⟨_, rfl⟩
  have hXp : 0 < X := by omega
  have hX0 : (X == 0) = false := by simp; omega
  obtain ⟨S, hS⟩ : ∃ S : ByteArray, (⟨(sealed s.data.toList).toArray⟩ : ByteArray) = S := ⟨_, rfl⟩
  have hSl : S.data.toList = sealed s.data.toList := by rw [← hS]
  have hSz : S.size = s.size + 2 := by rw [size_list, hSl, seal_len, ← size_list]
  have hS0 : cr 0xFFFF#16 S.data.toList = 0#16 := by rw [hSl]; exact seal_cr _
  have c7 : ∀ b, At w b → Calls Tryd.prog 14 #[.string s] b fun e w' => e = .returned (.string S) ∧ At w w' := fun b hb => by rw [← hS]; exact at_of hb (seal_any s (by omega) b hb.2)
  have C7 := Lib.hid c7
  clear c7
  by_cases hin : 0 ≤ a ∧ a < S.size
  · obtain ⟨i, rfl⟩ : ∃ i : Nat, a = (i : Int) := ⟨a.toNat, by omega⟩
    have hi : i < S.size := by omega
    obtain ⟨S1, hS1⟩ : ∃ S1 : ByteArray, (⟨(chg S.data.toList i x).toArray⟩ : ByteArray) = S1 := ⟨_, rfl⟩
    have hS1l : S1.data.toList = chg S.data.toList i x := by rw [← hS1]
    have hS1z : S1.size = S.size := by rw [size_list, hS1l, chg_len, ← size_list]
    have c2 : ∀ b, At w b → Calls Tryd.prog 16 #[.string S, .int .i64 (i : Int), .int .u8 X] b fun e w' => e = .returned (.string S1) ∧ At w w' := fun b hb => by
      rw [← hS1, ← hX]; exact at_of hb (changed_any S (by omega) i x b)
    have no1 : openOk S1.data.toList = false := by
      unfold openOk
      rw [hS1l, decide_eq_false (finds_one _ i x (by rw [← size_list]; exact hi) hS0 hx0), Bool.and_false]
    obtain ⟨T1, hT1⟩ : ∃ T1 : ByteArray, (⟨(openT S1.data.toList).toArray⟩ : ByteArray) = T1 := ⟨_, rfl⟩
    have c1 : ∀ b, At w b → Calls Tryd.prog 8 #[.string S1] b fun e w' => e = .returned (.tuple #[.string T1, .bool false]) ∧ At w w' := fun b hb => by
      rw [← hT1, ← no1]; exact at_of hb (open_any S1 (by omega) b hb.2)
    have C1 := Lib.hid c1
    have C2 := Lib.hid c2
    clear c1 c2
    by_cases hl : i + 1 < s.size
    · obtain ⟨S2, hS2⟩ : ∃ S2 : ByteArray, (⟨(chg S1.data.toList (i + 1) y).toArray⟩ : ByteArray) = S2 := ⟨_, rfl⟩
      have hS2l : S2.data.toList = chg (chg S.data.toList i x) (i + 1) y := by rw [← hS2, hS1l]
      have hS2z : S2.size = S.size := by rw [size_list, hS2l, chg_len, chg_len, ← size_list]
      have c3 : ∀ b, At w b → Calls Tryd.prog 16 #[.string S1, .int .i64 ((i : Int) + 1), .int .u8 Y] b fun e w' => e = .returned (.string S2) ∧ At w w' := fun b hb => by
        rw [← hS2, ← hY]; exact at_of hb (changed_any S1 (by omega) (i + 1) y b)
      have no2 : openOk S2.data.toList = false := by
        unfold openOk
        rw [hS2l, decide_eq_false (finds_two _ i x y (by rw [← size_list]; omega) hS0 hx0), Bool.and_false]
      obtain ⟨T2, hT2⟩ : ∃ T2 : ByteArray, (⟨(openT S2.data.toList).toArray⟩ : ByteArray) = T2 := ⟨_, rfl⟩
      have c4 : ∀ b, At w b → Calls Tryd.prog 8 #[.string S2] b fun e w' => e = .returned (.tuple #[.string T2, .bool false]) ∧ At w w' := fun b hb => by
        rw [← hT2, ← no2]; exact at_of hb (open_any S2 (by omega) b hb.2)
      have C3 := Lib.hid c3
      have C4 := Lib.hid c4
      have hSZ := Lib.hid hSz
      have hsi : (i : Int) + 1 < (s.size : Int) := by omega
      have hii : (i : Int) < (S.size : Int) := by omega
      have hw1 : (i : Int) < (s.size : Int) - 1 := by omega
      rw [hX, hY]
      clear c3 c4 hS hSl hSz hS0 hS1 hS1l hS1z no1 hT1 hS2 hS2l hS2z no2 hT2 hX hY hi hl hin
      go_enter Tryd.func5, Tryd.ntmps5
      go_wp2_with (first
        | (go_at_call 14; refine (C7.out _ (by assumption)).mono ?_; rintro e w' ⟨rfl, HA⟩)
        | (go_at_call 16; ((with_reducible refine (C2.out _ (by assumption)).mono ?_)); rintro e w' ⟨rfl, HA⟩)
        | (go_at_call 16; ((with_reducible refine (C3.out _ (by assumption)).mono ?_)); rintro e w' ⟨rfl, HA⟩)
        | (go_at_call 8; ((with_reducible refine (C1.out _ (by assumption)).mono ?_)); rintro e w' ⟨rfl, HA⟩)
        | (go_at_call 8; ((with_reducible refine (C4.out _ (by assumption)).mono ?_)); rintro e w' ⟨rfl, HA⟩)
        | (go_at_call 7; refine (awake_any w _ (by assumption)).mono ?_; rintro e w' ⟨rfl, HA⟩))
      go_ret
      exact ⟨rfl, HA.1⟩
    · have hSZ := Lib.hid hSz
      have hii : (i : Int) < (S.size : Int) := by omega
      have hw1 : (s.size : Int) - 1 ≤ (i : Int) := by omega
      rw [hX, hY]
      clear hS hSl hSz hS0 hS1 hS1l hS1z no1 hT1 hX hY hi hl hin
      go_enter Tryd.func5, Tryd.ntmps5
      go_wp2_with (first
        | (go_at_call 14; refine (C7.out _ (by assumption)).mono ?_; rintro e w' ⟨rfl, HA⟩)
        | (go_at_call 16; ((with_reducible refine (C2.out _ (by assumption)).mono ?_)); rintro e w' ⟨rfl, HA⟩)
        | (go_at_call 8; ((with_reducible refine (C1.out _ (by assumption)).mono ?_)); rintro e w' ⟨rfl, HA⟩)
        | (go_at_call 7; refine (awake_any w _ (by assumption)).mono ?_; rintro e w' ⟨rfl, HA⟩))
      go_ret
      exact ⟨rfl, HA.1⟩
  · have hSZ := Lib.hid hSz
    rw [hX, hY]
    clear hS hSl hSz hS0 hX hY
    rcases (show a < 0 ∨ 0 ≤ a by omega) with hneg | hpos
    all_goals
      try (have hge : (S.size : Int) ≤ a := by omega)
      clear hin
      go_enter Tryd.func5, Tryd.ntmps5
      go_wp2_with (first
        | (go_at_call 14; refine (C7.out _ (by assumption)).mono ?_; rintro e w' ⟨rfl, HA⟩)
        | (go_at_call 7; refine (awake_any w _ (by assumption)).mono ?_; rintro e w' ⟨rfl, HA⟩))
      go_ret
      exact ⟨rfl, HA.1⟩

set_option maxHeartbeats 1000000 in
theorem linear_any (s r : ByteArray) (c d : V) (w : World) (ht : Tab w) (hs : s.size ≤ maxLen) (hr : r.size ≤ maxLen) :
    Calls Tryd.prog 6 #[.string s, .string r, .int .u16 (c.toNat : Int), .int .u16 (d.toNat : Int)] w fun e w' => e = .returned (.bool true) ∧ Kept w w' := by
  have HA := At.refl ht
  unfold maxLen at hs hr
  by_cases hne : s.size = r.size
  case neg =>
    have h1 : ((s.size : Int) != (r.size : Int)) = true := by simp; omega
    have h2 : ((s.size : Int) == (r.size : Int)) = false := by simp; omega
    go_enter Tryd.func6, Tryd.ntmps6
    go_wp2_with (go_at_call 7; refine (awake_any w _ (by assumption)).mono ?_; rintro e w' ⟨rfl, HA⟩)
    go_ret
    exact ⟨rfl, HA.1⟩
  have h1 : ((s.size : Int) != (r.size : Int)) = false := by simp; omega
  by_cases hb : 500 < s.size
  · have HN := Lib.hid hne
    clear hne
    go_enter Tryd.func6, Tryd.ntmps6
    go_wp2_with (go_at_call 7; refine (awake_any w _ (by assumption)).mono ?_; rintro e w' ⟨rfl, HA⟩)
    go_ret
    exact ⟨rfl, HA.1⟩
  obtain ⟨m, hm⟩ : ∃ m, List.zipWith (· ^^^ ·) s.data.toList r.data.toList = m := ⟨_, rfl⟩
  have hle : s.data.toList.length = r.data.toList.length := by rw [← size_list, ← size_list, hne]
  have hcr := cr_xor s.data.toList r.data.toList c d hle
  rw [hm] at hcr
  obtain ⟨x, hx⟩ : ∃ x : V, cr c s.data.toList = x := ⟨_, rfl⟩
  obtain ⟨y, hy⟩ : ∃ y : V, cr d r.data.toList = y := ⟨_, rfl⟩
  obtain ⟨z, hz⟩ : ∃ z : V, x ^^^ y = z := ⟨_, rfl⟩
  obtain ⟨f, hf⟩ : ∃ f : V, c ^^^ d = f := ⟨_, rfl⟩
  obtain ⟨M, hM⟩ : ∃ M : ByteArray, (⟨m.toArray⟩ : ByteArray) = M := ⟨_, rfl⟩
  have hMl : M.data.toList = m := by rw [← hM]
  have hMz : M.size = s.size := by rw [size_list, hMl, ← hm, List.length_zipWith, ← size_list, ← size_list]; omega
  have c1 : ∀ b, At w b → Calls Tryd.prog 12 #[.int .u16 (c.toNat : Int), .string s] b fun e w' => e = .returned (.int .u16 (x.toNat : Int)) ∧ At w w' := fun b hb => by rw [← hx]; exact at_same hb (more_any c s (by unfold maxLen; omega) b hb.2)
  have c2 : ∀ b, At w b → Calls Tryd.prog 12 #[.int .u16 (d.toNat : Int), .string r] b fun e w' => e = .returned (.int .u16 (y.toNat : Int)) ∧ At w w' := fun b hb => by rw [← hy]; exact at_same hb (more_any d r (by unfold maxLen; omega) b hb.2)
  have c3 : ∀ b, At w b → Calls Tryd.prog 12 #[.int .u16 (f.toNat : Int), .string M] b fun e w' => e = .returned (.int .u16 (z.toNat : Int)) ∧ At w w' := fun b hb => by
    have := at_same hb (more_any f M (by unfold maxLen; omega) b hb.2)
    rw [hMl, ← hf, hcr, hx, hy, hz, hf] at this
    exact this
  have c4 : ∀ b, At w b → Calls Tryd.prog 17 #[.string s, .string r] b fun e w' => e = .returned (.string M) ∧ At w w' := fun b hb => by
    have := at_of hb (both_any s r (by omega) hne b)
    rw [hm, hM] at this
    exact this
  have hv1 : bits .xor .u16 (x.toNat : Int) (y.toNat : Int) = (z.toNat : Int) := by rw [u16_xor_nat _ _ x.isLt y.isLt, ← hz, BitVec.toNat_xor]
  have hv2 : bits .xor .u16 (c.toNat : Int) (d.toNat : Int) = (f.toNat : Int) := by rw [u16_xor_nat _ _ c.isLt d.isLt, ← hf, BitVec.toNat_xor]
  have C1 := Lib.hid c1
  have C2 := Lib.hid c2
  have C3 := Lib.hid c3
  have C4 := Lib.hid c4
  clear c1 c2 c3 c4 hx hy hz hf hM hMl hMz hm hle hcr hne
  go_enter Tryd.func6, Tryd.ntmps6
  go_wp2_with (first
    | (go_at_call 12; ((with_reducible refine (C1.out _ (by assumption)).mono ?_)); rintro e w' ⟨rfl, HA⟩)
    | (go_at_call 12; ((with_reducible refine (C2.out _ (by assumption)).mono ?_)); rintro e w' ⟨rfl, HA⟩)
    | (go_at_call 12; ((with_reducible refine (C3.out _ (by assumption)).mono ?_)); rintro e w' ⟨rfl, HA⟩)
    | (go_at_call 17; refine (C4.out _ (by assumption)).mono ?_; rintro e w' ⟨rfl, HA⟩)
    | (go_at_call 7; refine (awake_any w _ (by assumption)).mono ?_; rintro e w' ⟨rfl, HA⟩))
  go_ret
  exact ⟨rfl, HA.1⟩

theorem of_u16 {a : Int} (h : (Lit.int .u16 a).wf = true) : ∃ c : V, (c.toNat : Int) = a := by
  have hh : IntKind.u16.min ≤ a ∧ a ≤ IntKind.u16.max := by simpa [Lit.wf] using h
  rw [show IntKind.u16.min = 0 from rfl, show IntKind.u16.max = 65535 from rfl] at hh
  exact ⟨BitVec.ofNat 16 a.toNat, by rw [BitVec.toNat_ofNat]; omega⟩
theorem of_u8 {a : Int} (h : (Lit.int .u8 a).wf = true) : ∃ c : UInt8, (c.toNat : Int) = a := by
  have hh : IntKind.u8.min ≤ a ∧ a ≤ IntKind.u8.max := by simpa [Lit.wf] using h
  rw [show IntKind.u8.min = 0 from rfl, show IntKind.u8.max = 255 from rfl] at hh
  exact ⟨UInt8.ofNat a.toNat, by rw [UInt8.toNat_ofNat']; omega⟩
theorem tells_all (s : ByteArray) (a : Int) (hs : s.size ≤ maxLen) (ha : (Lit.int .u16 a).wf = true) (w : World) (ht : Tab w) :
    Calls Tryd.prog 3 #[.string s, .int .u16 a] w fun e w' => e = .returned (.bool true) ∧ Below w.heap.size w w' := by
  obtain ⟨c, rfl⟩ := of_u16 ha
  exact tells_any s c hs w ht
theorem goes_all (s r : ByteArray) (hs : s.size ≤ maxLen) (hr : r.size ≤ maxLen) (w : World) (ht : Tab w) :
    Calls Tryd.prog 4 #[.string s, .string r] w fun e w' => e = .returned (.bool true) ∧ Below w.heap.size w w' := goes_any s r w ht hs hr
theorem finds_all (s : ByteArray) (a x y : Int) (hs : s.size ≤ maxLen) (hx : (Lit.int .u8 x).wf = true) (hy : (Lit.int .u8 y).wf = true) (w : World) (ht : Tab w) :
    Calls Tryd.prog 5 #[.string s, .int .i64 a, .int .u8 x, .int .u8 y] w fun e w' => e = .returned (.bool true) ∧ Below w.heap.size w w' := by
  obtain ⟨x, rfl⟩ := of_u8 hx
  obtain ⟨y, rfl⟩ := of_u8 hy
  exact finds_any s a x y w ht hs
theorem linear_all (s r : ByteArray) (c d : Int) (hs : s.size ≤ maxLen) (hr : r.size ≤ maxLen) (hc : (Lit.int .u16 c).wf = true) (hd : (Lit.int .u16 d).wf = true) (w : World) (ht : Tab w) :
    Calls Tryd.prog 6 #[.string s, .string r, .int .u16 c, .int .u16 d] w fun e w' => e = .returned (.bool true) ∧ Below w.heap.size w w' := by
  obtain ⟨c, rfl⟩ := of_u16 hc
  obtain ⟨d, rfl⟩ := of_u16 hd
  exact linear_any s r c d w ht hs hr

end Go.Proofs.YtnkbcdmadahegaaDoor.Cr
