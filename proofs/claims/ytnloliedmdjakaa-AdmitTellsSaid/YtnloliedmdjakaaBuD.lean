/- Contracts of package budget, and of the document's own answers for it: deadlines and what is left to them. -/
import Derived.Test.YtnloliedmdjakaaTm2
namespace Go.Proofs.Ytnloliedmdjakaa.Bu
open Go.RowKit St Go.Sort Tm

/-- the deadline that a text tells -/
def dl (a : Int) (l : List UInt8) : Int × Int := if (dec l).2 = 0 then (Tk.add a (dec l).1, 0) else (0, (dec l).2)
def enough (a b c : Int) : Bool := decide (0 < Tk.sub a b ∧ Tk.clamp c ≤ Tk.sub a b)
theorem dl_yes {a x : Int} {l : List UInt8} (h : dec l = (x, 0)) : dl a l = (Tk.add a x, 0) := by simp [dl, h]
theorem dl_no {a x y : Int} {l : List UInt8} (h : dec l = (x, y)) (hy : y ≠ 0) : dl a l = (0, y) := by simp [dl, h, hy]
theorem ret_dl {a : Int} {l : List UInt8} {x y : Int} (h : dl a l = (x, y)) : Ending.returned (.tuple #[.int .i64 x, .int .i64 y]) = .returned (.tuple #[.int .i64 (dl a l).1, .int .i64 (dl a l).2]) := by rw [h]

set_option maxHeartbeats 1000000 in
theorem deadline_any (a : Int) (s : ByteArray) (w : World) :
    Calls Try.prog 19 #[.int .i64 a, .string s] w fun e w' => e = .returned (.tuple #[.int .i64 (dl a s.data.toList).1, .int .i64 (dl a s.data.toList).2]) ∧ w = w' := by
  obtain ⟨x, hx⟩ : ∃ x, (dec s.data.toList).1 = x := ⟨_, rfl⟩
  obtain ⟨y, hy⟩ : ∃ y, (dec s.data.toList).2 = y := ⟨_, rfl⟩
  have c1 : ∀ b, Calls Try.prog 23 #[.string s] b fun e w' => e = .returned (.tuple #[.int .i64 x, .int .i64 y]) ∧ b = w' := fun b => by rw [← hx, ← hy]; exact dec_any s b
  have C1 := Lib.hid c1
  have HD := Lib.hid (show dec s.data.toList = (x, y) by rw [← hx, ← hy])
  clear c1 hx hy
  by_cases hz : y = 0
  · subst hz
    have HR := Lib.hid (dl_yes (a := a) HD.out)
    go_enter Try.func19, Try.ntmps19
    go_wp2_with (first | (go_at_call 23; refine (C1.out _).mono ?_; rintro e w' ⟨rfl, rfl⟩) | (go_at_call 24; refine (Tk.add_any _ _ _).mono ?_; rintro e w' ⟨rfl, rfl⟩))
    go_ret2
    exact ⟨ret_dl HR.out, rfl⟩
  · have HR := Lib.hid (dl_no (a := a) HD.out hz)
    have hb : (y == 0) = false := by simpa using hz
    clear hz
    go_enter Try.func19, Try.ntmps19
    go_wp2_with (go_at_call 23; refine (C1.out _).mono ?_; rintro e w' ⟨rfl, rfl⟩)
    go_ret2
    exact ⟨ret_dl HR.out, rfl⟩

set_option maxHeartbeats 1000000 in
theorem rdeadline_any (a : Int) (s : ByteArray) (w : World) :
    Calls Try.prog 20 #[.int .i64 a, .string s] w fun e w' => e = .returned (.tuple #[.int .i64 (dl a s.data.toList).1, .int .i64 (dl a s.data.toList).2]) ∧ w = w' := by
  obtain ⟨x, hx⟩ : ∃ x, (dec s.data.toList).1 = x := ⟨_, rfl⟩
  obtain ⟨y, hy⟩ : ∃ y, (dec s.data.toList).2 = y := ⟨_, rfl⟩
  have c1 : ∀ b, Calls Try.prog 25 #[.string s] b fun e w' => e = .returned (.tuple #[.int .i64 x, .int .i64 y]) ∧ b = w' := fun b => by rw [← hx, ← hy]; exact rdec_any s b
  have C1 := Lib.hid c1
  have HD := Lib.hid (show dec s.data.toList = (x, y) by rw [← hx, ← hy])
  clear c1 hx hy
  by_cases hz : y = 0
  · subst hz
    have HR := Lib.hid (dl_yes (a := a) HD.out)
    go_enter Try.func20, Try.ntmps20
    go_wp2_with (first | (go_at_call 25; refine (C1.out _).mono ?_; rintro e w' ⟨rfl, rfl⟩) | (go_at_call 26; refine (Tk.radd_any _ _ _).mono ?_; rintro e w' ⟨rfl, rfl⟩))
    go_ret2
    exact ⟨ret_dl HR.out, rfl⟩
  · have HR := Lib.hid (dl_no (a := a) HD.out hz)
    have hb : (y == 0) = false := by simpa using hz
    clear hz
    go_enter Try.func20, Try.ntmps20
    go_wp2_with (go_at_call 25; refine (C1.out _).mono ?_; rintro e w' ⟨rfl, rfl⟩)
    go_ret2
    exact ⟨ret_dl HR.out, rfl⟩

set_option maxHeartbeats 400000 in
theorem left_any (a b : Int) (w : World) :
    Calls Try.prog 21 #[.int .i64 a, .int .i64 b] w fun e w' => e = .returned (.int .i64 (Tk.sub a b)) ∧ w = w' := by
  go_enter Try.func21, Try.ntmps21
  go_wp2_with (go_at_call 27; refine (Tk.sub_any _ _ _).mono ?_; rintro e w' ⟨rfl, rfl⟩)
  go_ret
  exact ⟨rfl, rfl⟩

/-- what 'enough' is, by the difference and the least under names -/
theorem enough_of {a b c x y : Int} (hx : Tk.sub a b = x) (hy : Tk.clamp c = y) : enough a b c = decide (0 < x ∧ y ≤ x) := by unfold enough; rw [hx, hy]

set_option maxHeartbeats 400000 in
theorem enough_any (a b c : Int) (w : World) :
    Calls Try.prog 14 #[.int .i64 a, .int .i64 b, .int .i64 c] w fun e w' => e = .returned (.bool (enough a b c)) ∧ w = w' := by
  obtain ⟨x, hx⟩ : ∃ x, Tk.sub a b = x := ⟨_, rfl⟩
  obtain ⟨y, hy⟩ : ∃ y, Tk.clamp c = y := ⟨_, rfl⟩
  have HE := Lib.hid (enough_of hx hy)
  have C1 := Lib.hid (fun w => hx ▸ left_any a b w)
  have C2 := Lib.hid (fun w => hy ▸ Tk.clamp_any c w)
  clear hx hy
  by_cases h1 : 0 < x
  · by_cases h2 : y ≤ x
    · go_enter Try.func14, Try.ntmps14
      go_wp2_with (first | (go_at_call 21; refine (C1.out _).mono ?_; rintro e w' ⟨rfl, rfl⟩) | (go_at_call 15; refine (C2.out _).mono ?_; rintro e w' ⟨rfl, rfl⟩))
      go_ret
      exact ⟨ret_bool (by rw [HE.out]; simp [h1, h2]), rfl⟩
    · go_enter Try.func14, Try.ntmps14
      go_wp2_with (first | (go_at_call 21; refine (C1.out _).mono ?_; rintro e w' ⟨rfl, rfl⟩) | (go_at_call 15; refine (C2.out _).mono ?_; rintro e w' ⟨rfl, rfl⟩))
      go_ret
      exact ⟨ret_bool (by rw [HE.out]; simp [h1]), rfl⟩
  · go_enter Try.func14, Try.ntmps14
    go_wp2_with (first | (go_at_call 21; refine (C1.out _).mono ?_; rintro e w' ⟨rfl, rfl⟩) | (go_at_call 15; refine (C2.out _).mono ?_; rintro e w' ⟨rfl, rfl⟩))
    go_ret
    exact ⟨ret_bool (by rw [HE.out]; simp; omega), rfl⟩

set_option maxHeartbeats 400000 in
theorem renough_any (a b c : Int) (w : World) :
    Calls Try.prog 16 #[.int .i64 a, .int .i64 b, .int .i64 c] w fun e w' => e = .returned (.bool (enough a b c)) ∧ w = w' := by
  obtain ⟨x, hx⟩ : ∃ x, Tk.sub a b = x := ⟨_, rfl⟩
  obtain ⟨y, hy⟩ : ∃ y, Tk.clamp c = y := ⟨_, rfl⟩
  have hx0 : 0 ≤ x := hx ▸ Tk.sub_lo a b
  have HE := Lib.hid (enough_of hx hy)
  have C1 := Lib.hid (fun w => hx ▸ Tk.rsub_any a b w)
  have C2 := Lib.hid (fun w => hy ▸ Tk.rclamp_any c w)
  clear hx hy
  by_cases h1 : x = 0
  · have hb : (x != 0) = false := by simp [h1]
    have H1 := Lib.hid h1
    clear h1
    go_enter Try.func16, Try.ntmps16
    go_wp2_with (first | (go_at_call 22; refine (C1.out _).mono ?_; rintro e w' ⟨rfl, rfl⟩) | (go_at_call 13; refine (C2.out _).mono ?_; rintro e w' ⟨rfl, rfl⟩))
    go_ret
    exact ⟨ret_bool (by rw [HE.out]; simp [H1.out]), rfl⟩
  · have hb : (x != 0) = true := by simpa using h1
    have H1 := Lib.hid (show 0 < x by omega)
    clear h1
    by_cases h2 : y ≤ x
    · go_enter Try.func16, Try.ntmps16
      go_wp2_with (first | (go_at_call 22; refine (C1.out _).mono ?_; rintro e w' ⟨rfl, rfl⟩) | (go_at_call 13; refine (C2.out _).mono ?_; rintro e w' ⟨rfl, rfl⟩))
      go_ret
      exact ⟨ret_bool (by rw [HE.out]; simp [H1.out, h2]), rfl⟩
    · go_enter Try.func16, Try.ntmps16
      go_wp2_with (first | (go_at_call 22; refine (C1.out _).mono ?_; rintro e w' ⟨rfl, rfl⟩) | (go_at_call 13; refine (C2.out _).mono ?_; rintro e w' ⟨rfl, rfl⟩))
      go_ret
      exact ⟨ret_bool (by rw [HE.out]; simp [H1.out]), rfl⟩

end Go.Proofs.Ytnloliedmdjakaa.Bu
