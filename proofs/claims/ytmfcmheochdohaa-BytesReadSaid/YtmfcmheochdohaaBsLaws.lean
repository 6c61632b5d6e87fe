/- The laws of layer 4. -/
import Derived.Test.YtmfcmheochdohaaBsBack
import Derived.Test.YtmfcmheochdohaaBs6
import Derived.Lib.Hide
namespace Go.Proofs.Ytmfcmheochdohaa.Bs
open Go.RowKit St Go.Sort BsM
set_option linter.unusedVariables false

/-- where the call stands: what was there is kept; its own reader is at block b -/
def At1 (W : World) (b : Nat) (s : S) (w : World) : Prop := Kept W w ∧ W.heap.size ≤ b ∧ Rd w b s
theorem At1.only {W : World} {b : Nat} {s s' : S} {x y : World} (h : At1 W b s x) (hr : Rd y b s') (ho : Only b x y) : At1 W b s' y :=
  ⟨ho.below h.1 h.2.1 (Below.size h.1), h.2.1, hr⟩
theorem At1.keep {W : World} {b : Nat} {s : S} {x y : World} (h : At1 W b s x) (k : Kept x y) : At1 W b s y := ⟨h.1.trans k, h.2.1, h.2.2.kept k⟩
theorem at1_does {W : World} {b : Nat} {s s' : S} {f : FuncId} {args : Array Value} {v : Value} (h : ∀ w, Rd w b s → Calls Try.prog f args w (Does b w v s')) :
    Hid (∀ w, At1 W b s w → Calls Try.prog f args w fun e w' => e = .returned v ∧ At1 W b s' w') :=
  fun w hw => (h w hw.2.2).mono fun _ _ ⟨he, hr, ho⟩ => ⟨he, hw.only hr ho⟩
theorem at1_kept {W : World} {b : Nat} {s : S} {f : FuncId} {args : Array Value} {v : Value} (h : ∀ w, Calls Try.prog f args w fun e w' => e = .returned v ∧ Kept w w') :
    Hid (∀ w, At1 W b s w → Calls Try.prog f args w fun e w' => e = .returned v ∧ At1 W b s w') :=
  fun w hw => (h w).mono fun _ _ ⟨he, k⟩ => ⟨he, hw.keep k⟩
theorem at1_same {W : World} {b : Nat} {s : S} {f : FuncId} {args : Array Value} {v : Value} (h : ∀ w, Calls Try.prog f args w fun e w' => e = .returned v ∧ w = w') :
    Hid (∀ w, At1 W b s w → Calls Try.prog f args w fun e w' => e = .returned v ∧ At1 W b s w') :=
  fun w hw => (h w).mono fun _ _ ⟨he, k⟩ => ⟨he, by subst k; exact hw⟩
theorem at1_read {W : World} {b : Nat} {s : S} {f : FuncId} {args : Array Value} {v : Value} (h : ∀ w, Rd w b s → Calls Try.prog f args w fun e w' => e = .returned v ∧ w = w') :
    Hid (∀ w, At1 W b s w → Calls Try.prog f args w fun e w' => e = .returned v ∧ At1 W b s w') :=
  fun w hw => (h w hw.2.2).mono fun _ _ ⟨he, k⟩ => ⟨he, by subst k; exact hw⟩
theorem at1_open {W : World} (s : ByteArray) :
    Hid (∀ w, Kept W w → Calls Try.prog 13 #[.string s] w fun e w' => ∃ b, e = .returned (.pointer (some ⟨b, 0, none⟩)) ∧ At1 W b (s.data.toList, 0) w') :=
  fun w hw => (open_any s w).mono fun _ _ ⟨he, hr, k⟩ => ⟨_, he, hw.trans k, Below.size hw, hr⟩

theorem kept_of {W : World} {f : FuncId} {args : Array Value} {v : Value} (h : ∀ w, Calls Try.prog f args w fun e w' => e = .returned v ∧ Kept w w') :
    Hid (∀ w, Kept W w → Calls Try.prog f args w fun e w' => e = .returned v ∧ Kept W w') :=
  fun w hw => (h w).mono fun _ _ ⟨he, k⟩ => ⟨he, hw.trans k⟩

set_option maxHeartbeats 400000 in
theorem awake_any (w : World) :
    Calls Try.prog 7 #[] w fun e w' => e = .returned (.bool true) ∧ Kept w w' := by
  have H1 := kept_of (W := w) (v := .string ⟨#[0, 1, 2]⟩) (f := 8) (args := #[.int .i64 258, .int .i64 3]) (fun w1 => by
    have := num_any 258 3 w1
    rwa [show numL 258 3 = [0, 1, 2] by decide] at this)
  have H2 := at1_open (W := w) ⟨#[0, 1, 2]⟩
  have H3 : ∀ b, Hid (∀ w1, At1 w b ([0, 1, 2], 0) w1 → Calls Try.prog 19 #[.pointer (some ⟨b, 0, none⟩), .int .i64 3] w1 fun e w' => e = .returned (.int .i64 258) ∧ At1 w b ([], 0) w') := fun b => at1_does fun w1 h => by
    have := rdnum_any b ([0, 1, 2], 0) 3 w1 h
    rw [show numS ([0, 1, 2], 0) 3 = ([], 0) by decide, show ((numV ([0, 1, 2], 0) 3 : Nat) : Int) = 258 by decide] at this
    exact this
  have H4 : ∀ b, Hid (∀ w1, At1 w b ([], 0) w1 → Calls Try.prog 12 #[.bool true] w1 fun e w' => e = .returned (.string ⟨#[1]⟩) ∧ At1 w b ([], 0) w') := fun b => at1_kept fun w1 => flag_any true w1
  have K0 : Kept w w := Kept.refl _
  go_enter Try.func7, Try.ntmps7
  go_wp2_with (first
    | (go_at_call 8; refine (H1.out _ (by assumption)).mono ?_; rintro e w1 ⟨rfl, K1⟩)
    | (go_at_call 13; refine (H2.out _ (by assumption)).mono ?_; rintro e w2 ⟨b, rfl, A2⟩)
    | (go_at_call 19; refine ((H3 _).out _ (by assumption)).mono ?_; rintro e w3 ⟨rfl, A3⟩)
    | (go_at_call 12; refine ((H4 _).out _ (by assumption)).mono ?_; rintro e w4 ⟨rfl, A4⟩))
  go_ret
  exact ⟨rfl, A4.1⟩

set_option maxHeartbeats 400000 in
theorem tell_any (n k : Int) (s : ByteArray) (b : Bool) (hn : n ≤ 9223372036854775807) (w : World) :
    Calls Try.prog 3 #[.int .i64 n, .int .i64 k, .string s, .bool b] w fun e w' => e = .returned (.bool true) ∧ Below w.heap.size w w' := by
  have H0 := kept_of (W := w) awake_any
  have K0 : Kept w w := Kept.refl _
  by_cases hb : 2000 < s.size
  · go_enter Try.func3, Try.ntmps3
    go_wp2_with (go_at_call 7; refine (H0.out _ (by assumption)).mono ?_; rintro e w1 ⟨rfl, K1⟩)
    go_ret
    exact ⟨rfl, K1⟩
  · obtain ⟨D, hD⟩ : ∃ D : ByteArray, (⟨(numL n k).toArray⟩ : ByteArray) = D := ⟨_, rfl⟩
    obtain ⟨E, hE⟩ : ∃ E : ByteArray, (⟨(textL s.data.toList).toArray⟩ : ByteArray) = E := ⟨_, rfl⟩
    have H1 : Hid (∀ x, Kept w x → Calls Try.prog 8 #[.int .i64 n, .int .i64 k] x fun e w' => e = .returned (.string D) ∧ Kept w w') := by rw [← hD]; exact kept_of (num_any n k)
    have H2 : Hid (∀ x, Kept w x → Calls Try.prog 9 #[.int .i64 n, .int .i64 k] x fun e w' => e = .returned (.string D) ∧ Kept w w') := by rw [← hD]; exact kept_of (rnum_any n k hn)
    have H3 : Hid (∀ x, Kept w x → Calls Try.prog 10 #[.string s] x fun e w' => e = .returned (.string E) ∧ Kept w w') := by rw [← hE]; exact kept_of (text_any s)
    have H4 : Hid (∀ x, Kept w x → Calls Try.prog 11 #[.string s] x fun e w' => e = .returned (.string E) ∧ Kept w w') := by rw [← hE]; exact kept_of (rtext_any s)
    clear hD hE
    cases b
    · have H5 : Hid (∀ x, Kept w x → Calls Try.prog 12 #[.bool false] x fun e w' => e = .returned (.string ⟨#[0]⟩) ∧ Kept w w') := kept_of (flag_any false)
      go_enter Try.func3, Try.ntmps3
      go_wp2_with (first
        | (go_at_call 8; refine (H1.out _ (by assumption)).mono ?_; rintro e w1 ⟨rfl, K1⟩)
        | (go_at_call 9; refine (H2.out _ (by assumption)).mono ?_; rintro e w1 ⟨rfl, K1⟩)
        | (go_at_call 10; refine (H3.out _ (by assumption)).mono ?_; rintro e w1 ⟨rfl, K1⟩)
        | (go_at_call 11; refine (H4.out _ (by assumption)).mono ?_; rintro e w1 ⟨rfl, K1⟩)
        | (go_at_call 12; refine (H5.out _ (by assumption)).mono ?_; rintro e w1 ⟨rfl, K1⟩)
        | (go_at_call 7; refine (H0.out _ (by assumption)).mono ?_; rintro e w1 ⟨rfl, K1⟩))
      go_ret
      exact ⟨rfl, by assumption⟩
    · have H5 : Hid (∀ x, Kept w x → Calls Try.prog 12 #[.bool true] x fun e w' => e = .returned (.string ⟨#[1]⟩) ∧ Kept w w') := kept_of (flag_any true)
      go_enter Try.func3, Try.ntmps3
      go_wp2_with (first
        | (go_at_call 8; refine (H1.out _ (by assumption)).mono ?_; rintro e w1 ⟨rfl, K1⟩)
        | (go_at_call 9; refine (H2.out _ (by assumption)).mono ?_; rintro e w1 ⟨rfl, K1⟩)
        | (go_at_call 10; refine (H3.out _ (by assumption)).mono ?_; rintro e w1 ⟨rfl, K1⟩)
        | (go_at_call 11; refine (H4.out _ (by assumption)).mono ?_; rintro e w1 ⟨rfl, K1⟩)
        | (go_at_call 12; refine (H5.out _ (by assumption)).mono ?_; rintro e w1 ⟨rfl, K1⟩)
        | (go_at_call 7; refine (H0.out _ (by assumption)).mono ?_; rintro e w1 ⟨rfl, K1⟩))
      go_ret
      exact ⟨rfl, by assumption⟩

end Go.Proofs.Ytmfcmheochdohaa.Bs
