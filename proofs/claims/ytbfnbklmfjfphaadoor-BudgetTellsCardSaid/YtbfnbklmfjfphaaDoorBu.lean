/- Contracts of package budget, and of the document's own answers for it: deadlines, what is left to them, and the next node's. -/
import Derived.Test.YtbfnbklmfjfphaaDoorTm5
import Derived.Test.YtbfnbklmfjfphaaDoorTm6
namespace Go.Proofs.YtbfnbklmfjfphaaDoor.Bu
open Go.RowKit St Go.Sort Tm

/-- the world of the call, or one behind it in which what was there stands, the library's table with it -/
def At (a b : World) : Prop := Kept a b ∧ Tab b
theorem At.refl {a : World} (h : Tab a) : At a a := ⟨Kept.refl a, h⟩
theorem At.go {a b c : World} (h : At a b) (k : Kept b c) : At a c := ⟨h.1.trans k, h.2.kept k⟩
theorem at_of {f : FuncId} {args : Array Value} {v : Value} {a b : World} (hA : At a b)
    (h : Calls Tryd.prog f args b fun e w' => e = .returned v ∧ Kept b w') : Calls Tryd.prog f args b fun e w' => e = .returned v ∧ At a w' :=
  h.mono fun _ _ ⟨he, hk⟩ => ⟨he, hA.go hk⟩

/-- the deadline that a text tells -/
def dl (a : Int) (l : List UInt8) : Int × Int := if (dec l).2 = 0 then (Tk.add a (dec l).1, 0) else (0, (dec l).2)
def enough (a b c : Int) : Bool := decide (0 < Tk.sub a b ∧ Tk.clamp c ≤ Tk.sub a b)
/-- the next node's timeout -/
def hop (a b : Int) : List UInt8 := enc (Tk.sub a b)
/-- the next node's deadline -/
def next (a b : Int) : Int := Tk.add b (left (Tk.sub a b))
theorem dl_yes {a x : Int} {l : List UInt8} (h : dec l = (x, 0)) : dl a l = (Tk.add a x, 0) := by simp [dl, h]
theorem dl_no {a x y : Int} {l : List UInt8} (h : dec l = (x, y)) (hy : y ≠ 0) : dl a l = (0, y) := by simp [dl, h, hy]
theorem dl_hop (a b : Int) : dl b (hop a b) = (next a b, 0) := dl_yes (dec_enc (Tk.sub_lo a b) (Tk.sub_hi a b))
theorem ret_dl {a : Int} {l : List UInt8} {x y : Int} (h : dl a l = (x, y)) : Ending.returned (.tuple #[.int .i64 x, .int .i64 y]) = .returned (.tuple #[.int .i64 (dl a l).1, .int .i64 (dl a l).2]) := by rw [h]
theorem clamp_sub (a b : Int) : Tk.clamp (Tk.sub a b) = Tk.sub a b := Tk.clamp_id _ (Tk.sub_lo a b) (Tk.sub_hi a b)

set_option maxHeartbeats 1000000 in
theorem deadline_any (a : Int) (s : ByteArray) (w : World) :
    Calls Tryd.prog 6 #[.int .i64 a, .string s] w fun e w' => e = .returned (.tuple #[.int .i64 (dl a s.data.toList).1, .int .i64 (dl a s.data.toList).2]) ∧ w = w' := by
  obtain ⟨x, hx⟩ : ∃ x, (dec s.data.toList).1 = x := ⟨_, rfl⟩
  obtain ⟨y, hy⟩ : ∃ y, (dec s.data.toList).2 = y := ⟨_, rfl⟩
  have c1 : ∀ b, Calls Tryd.prog 19 #[.string s] b fun e w' => e = .returned (.tuple #[.int .i64 x, .int .i64 y]) ∧ b = w' := fun b => by rw [← hx, ← hy]; exact dec_any s b
  have C1 := Lib.hid c1
  have HD := Lib.hid (show dec s.data.toList = (x, y) by rw [← hx, ← hy])
  clear c1 hx hy
  by_cases hz : y = 0
  · subst hz
    have HR := Lib.hid (dl_yes (a := a) HD.out)
    go_enter Tryd.func6, Tryd.ntmps6
    go_wp2_with (first | (go_at_call 19; refine (C1.out _).mono ?_; rintro e w' ⟨rfl, rfl⟩) | (go_at_call 20; refine (Tk.add_any _ _ _).mono ?_; rintro e w' ⟨rfl, rfl⟩))
    go_ret2
    exact ⟨ret_dl HR.out, rfl⟩
  · have HR := Lib.hid (dl_no (a := a) HD.out hz)
    have hb : (y == 0) = false := by simpa using hz
    clear hz
    go_enter Tryd.func6, Tryd.ntmps6
    go_wp2_with (go_at_call 19; refine (C1.out _).mono ?_; rintro e w' ⟨rfl, rfl⟩)
    go_ret2
    exact ⟨ret_dl HR.out, rfl⟩

set_option maxHeartbeats 1000000 in
theorem rdeadline_any (a : Int) (s : ByteArray) (w : World) :
    Calls Tryd.prog 7 #[.int .i64 a, .string s] w fun e w' => e = .returned (.tuple #[.int .i64 (dl a s.data.toList).1, .int .i64 (dl a s.data.toList).2]) ∧ w = w' := by
  obtain ⟨x, hx⟩ : ∃ x, (dec s.data.toList).1 = x := ⟨_, rfl⟩
  obtain ⟨y, hy⟩ : ∃ y, (dec s.data.toList).2 = y := ⟨_, rfl⟩
  have c1 : ∀ b, Calls Tryd.prog 21 #[.string s] b fun e w' => e = .returned (.tuple #[.int .i64 x, .int .i64 y]) ∧ b = w' := fun b => by rw [← hx, ← hy]; exact rdec_any s b
  have C1 := Lib.hid c1
  have HD := Lib.hid (show dec s.data.toList = (x, y) by rw [← hx, ← hy])
  clear c1 hx hy
  by_cases hz : y = 0
  · subst hz
    have HR := Lib.hid (dl_yes (a := a) HD.out)
    go_enter Tryd.func7, Tryd.ntmps7
    go_wp2_with (first | (go_at_call 21; refine (C1.out _).mono ?_; rintro e w' ⟨rfl, rfl⟩) | (go_at_call 22; refine (Tk.radd_any _ _ _).mono ?_; rintro e w' ⟨rfl, rfl⟩))
    go_ret2
    exact ⟨ret_dl HR.out, rfl⟩
  · have HR := Lib.hid (dl_no (a := a) HD.out hz)
    have hb : (y == 0) = false := by simpa using hz
    clear hz
    go_enter Tryd.func7, Tryd.ntmps7
    go_wp2_with (go_at_call 21; refine (C1.out _).mono ?_; rintro e w' ⟨rfl, rfl⟩)
    go_ret2
    exact ⟨ret_dl HR.out, rfl⟩

set_option maxHeartbeats 400000 in
theorem left_any (a b : Int) (w : World) :
    Calls Tryd.prog 8 #[.int .i64 a, .int .i64 b] w fun e w' => e = .returned (.int .i64 (Tk.sub a b)) ∧ w = w' := by
  go_enter Tryd.func8, Tryd.ntmps8
  go_wp2_with (go_at_call 23; refine (Tk.sub_any _ _ _).mono ?_; rintro e w' ⟨rfl, rfl⟩)
  go_ret
  exact ⟨rfl, rfl⟩

/-- what 'enough' is, by the difference and the least under names -/
theorem enough_of {a b c x y : Int} (hx : Tk.sub a b = x) (hy : Tk.clamp c = y) : enough a b c = decide (0 < x ∧ y ≤ x) := by unfold enough; rw [hx, hy]

set_option maxHeartbeats 400000 in
theorem enough_any (a b c : Int) (w : World) :
    Calls Tryd.prog 10 #[.int .i64 a, .int .i64 b, .int .i64 c] w fun e w' => e = .returned (.bool (enough a b c)) ∧ w = w' := by
  obtain ⟨x, hx⟩ : ∃ x, Tk.sub a b = x := ⟨_, rfl⟩
  obtain ⟨y, hy⟩ : ∃ y, Tk.clamp c = y := ⟨_, rfl⟩
  have HE := Lib.hid (enough_of hx hy)
  have C1 := Lib.hid (fun w => hx ▸ left_any a b w)
  have C2 := Lib.hid (fun w => hy ▸ Tk.clamp_any c w)
  clear hx hy
  by_cases h1 : 0 < x
  · by_cases h2 : y ≤ x
    · go_enter Tryd.func10, Tryd.ntmps10
      go_wp2_with (first | (go_at_call 8; refine (C1.out _).mono ?_; rintro e w' ⟨rfl, rfl⟩) | (go_at_call 24; refine (C2.out _).mono ?_; rintro e w' ⟨rfl, rfl⟩))
      go_ret
      exact ⟨ret_bool (by rw [HE.out]; simp [h1, h2]), rfl⟩
    · go_enter Tryd.func10, Tryd.ntmps10
      go_wp2_with (first | (go_at_call 8; refine (C1.out _).mono ?_; rintro e w' ⟨rfl, rfl⟩) | (go_at_call 24; refine (C2.out _).mono ?_; rintro e w' ⟨rfl, rfl⟩))
      go_ret
      exact ⟨ret_bool (by rw [HE.out]; simp [h1]), rfl⟩
  · go_enter Tryd.func10, Tryd.ntmps10
    go_wp2_with (first | (go_at_call 8; refine (C1.out _).mono ?_; rintro e w' ⟨rfl, rfl⟩) | (go_at_call 24; refine (C2.out _).mono ?_; rintro e w' ⟨rfl, rfl⟩))
    go_ret
    exact ⟨ret_bool (by rw [HE.out]; simp; omega), rfl⟩

set_option maxHeartbeats 400000 in
theorem renough_any (a b c : Int) (w : World) :
    Calls Tryd.prog 11 #[.int .i64 a, .int .i64 b, .int .i64 c] w fun e w' => e = .returned (.bool (enough a b c)) ∧ w = w' := by
  obtain ⟨x, hx⟩ : ∃ x, Tk.sub a b = x := ⟨_, rfl⟩
  obtain ⟨y, hy⟩ : ∃ y, Tk.clamp c = y := ⟨_, rfl⟩
  have hx0 : 0 ≤ x := hx ▸ Tk.sub_lo a b
  have HE := Lib.hid (enough_of hx hy)
  have C1 := Lib.hid (fun w => hx ▸ Tk.rsub_any a b w)
  have C2 := Lib.hid (fun w => hy ▸ Tk.rclamp_any c w)
  clear hx hy
  by_cases h1 : x = 0
  · have hb : (x != 0) = false := by simp [h1]
    have H1 := Lib.hid h1
    clear h1
    go_enter Tryd.func11, Tryd.ntmps11
    go_wp2_with (first | (go_at_call 9; refine (C1.out _).mono ?_; rintro e w' ⟨rfl, rfl⟩) | (go_at_call 17; refine (C2.out _).mono ?_; rintro e w' ⟨rfl, rfl⟩))
    go_ret
    exact ⟨ret_bool (by rw [HE.out]; simp [H1.out]), rfl⟩
  · have hb : (x != 0) = true := by simpa using h1
    have H1 := Lib.hid (show 0 < x by omega)
    clear h1
    by_cases h2 : y ≤ x
    · go_enter Tryd.func11, Tryd.ntmps11
      go_wp2_with (first | (go_at_call 9; refine (C1.out _).mono ?_; rintro e w' ⟨rfl, rfl⟩) | (go_at_call 17; refine (C2.out _).mono ?_; rintro e w' ⟨rfl, rfl⟩))
      go_ret
      exact ⟨ret_bool (by rw [HE.out]; simp [H1.out, h2]), rfl⟩
    · go_enter Tryd.func11, Tryd.ntmps11
      go_wp2_with (first | (go_at_call 9; refine (C1.out _).mono ?_; rintro e w' ⟨rfl, rfl⟩) | (go_at_call 17; refine (C2.out _).mono ?_; rintro e w' ⟨rfl, rfl⟩))
      go_ret
      exact ⟨ret_bool (by rw [HE.out]; simp [H1.out]), rfl⟩

/-- a text of its bytes -/
def str (l : List UInt8) : ByteArray := ⟨l.toArray⟩
theorem str_list (l : List UInt8) : (str l).data.toList = l := rfl

set_option maxHeartbeats 400000 in
theorem hop_any (a b : Int) (w : World) (ht : Tab w) :
    Calls Tryd.prog 12 #[.int .i64 a, .int .i64 b] w fun e w' => e = .returned (.string (str (hop a b))) ∧ Kept w w' := by
  have c1 : ∀ w, Tab w → Calls Tryd.prog 25 #[.int .i64 (Tk.sub a b)] w fun e w' => e = .returned (.string (str (hop a b))) ∧ Kept w w' := fun w ht => by
    have := enc_any (Tk.sub a b) w ht
    rw [clamp_sub] at this
    exact this
  have C1 := Lib.hid c1
  clear c1
  go_enter Tryd.func12, Tryd.ntmps12
  go_wp2_with (first | (go_at_call 8; refine (left_any _ _ _).mono ?_; rintro e w' ⟨rfl, rfl⟩) | (go_at_call 25; refine (C1.out _ ht).mono ?_; rintro e w' ⟨rfl, HW⟩))
  go_ret
  exact ⟨rfl, HW⟩

theorem rhop_any (a b : Int) (w : World) :
    Calls Tryd.prog 13 #[.int .i64 (Tk.sub a b)] w fun e w' => e = .returned (.string (str (hop a b))) ∧ Kept w w' := by
  have := renc_any (Tk.sub a b) w
  rw [clamp_sub] at this
  exact this

set_option maxHeartbeats 400000 in
theorem next_any (a b : Int) (w : World) (ht : Tab w) :
    Calls Tryd.prog 14 #[.int .i64 a, .int .i64 b] w fun e w' => e = .returned (.int .i64 (next a b)) ∧ Kept w w' := by
  obtain ⟨S, hS⟩ : ∃ S, str (hop a b) = S := ⟨_, rfl⟩
  have c1 : ∀ w, Tab w → Calls Tryd.prog 12 #[.int .i64 a, .int .i64 b] w fun e w' => e = .returned (.string S) ∧ Kept w w' := hS ▸ hop_any a b
  have c2 : ∀ w, Calls Tryd.prog 6 #[.int .i64 b, .string S] w fun e w' => e = .returned (.tuple #[.int .i64 (next a b), .int .i64 0]) ∧ w = w' := fun w => by
    have := deadline_any b S w
    rw [← hS, str_list, dl_hop] at this
    rw [← hS]
    exact this
  have C1 := Lib.hid c1
  have C2 := Lib.hid c2
  clear c1 c2 hS
  go_enter Tryd.func14, Tryd.ntmps14
  go_wp2_with (first | (go_at_call 12; refine (C1.out _ ht).mono ?_; rintro e w' ⟨rfl, HW⟩) | (go_at_call 6; refine (C2.out _).mono ?_; rintro e w' ⟨rfl, rfl⟩))
  go_ret
  exact ⟨rfl, HW⟩

set_option maxHeartbeats 400000 in
theorem rnext_any (a b : Int) (w : World) :
    Calls Tryd.prog 15 #[.int .i64 a, .int .i64 b] w fun e w' => e = .returned (.int .i64 (next a b)) ∧ Kept w w' := by
  obtain ⟨S, hS⟩ : ∃ S, str (hop a b) = S := ⟨_, rfl⟩
  have c1 : ∀ w, Calls Tryd.prog 13 #[.int .i64 (Tk.sub a b)] w fun e w' => e = .returned (.string S) ∧ Kept w w' := hS ▸ rhop_any a b
  have c2 : ∀ w, Calls Tryd.prog 7 #[.int .i64 b, .string S] w fun e w' => e = .returned (.tuple #[.int .i64 (next a b), .int .i64 0]) ∧ w = w' := fun w => by
    have := rdeadline_any b S w
    rw [← hS, str_list, dl_hop] at this
    rw [← hS]
    exact this
  have C1 := Lib.hid c1
  have C2 := Lib.hid c2
  clear c1 c2 hS
  go_enter Tryd.func15, Tryd.ntmps15
  go_wp2_with (first | (go_at_call 9; refine (Tk.rsub_any _ _ _).mono ?_; rintro e w' ⟨rfl, rfl⟩) | (go_at_call 13; refine (C1.out _).mono ?_; rintro e w' ⟨rfl, HW⟩) | (go_at_call 7; refine (C2.out _).mono ?_; rintro e w' ⟨rfl, rfl⟩))
  go_ret
  exact ⟨rfl, HW⟩

end Go.Proofs.YtbfnbklmfjfphaaDoor.Bu
