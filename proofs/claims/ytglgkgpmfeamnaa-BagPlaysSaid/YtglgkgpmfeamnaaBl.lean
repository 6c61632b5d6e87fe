/- Bags of a law's own; the chapter's example. -/
import Derived.Test.YtglgkgpmfeamnaaBr2
namespace Go.Proofs.Ytglgkgpmfeamnaa.Bg
open Go.RowKit Go.Sort Rv
open St (Kept blk_cell blk_free blk_lt blk_set)
open Wh (Fr Mine)
set_option linter.unusedVariables false

abbrev PT : TypeId := 36
abbrev PBt : TypeId := 49
/-- a bag of the call's own -/
def Its (bt et : TypeId) (W : World) (B : Nat) (s : Sta) (w : World) : Prop := ∃ v, Bag bt et w B v s ∧ Mine W (Own B v) w

section
variable {bt et : TypeId} {W w w' : World} {B : Nat} {v : Value} {s s' : Sta} {f : Fl} {r : Value}
theorem Its.go (h : Its bt et W B s w) (k : Kept w w') : Its bt et W B s w' := by
  obtain ⟨v, h1, h2⟩ := h; exact ⟨v, h1.kept k, h2.go k⟩
theorem Its.kept (h : Its bt et W B s w) : Kept W w := by obtain ⟨v, h1, h2⟩ := h; exact h2.kept
theorem Its.len (h : Its bt et W B s w) : s.L.length ≤ 256 := by obtain ⟨v, h1, h2⟩ := h; exact h1.len
theorem its_turns {e : Ending} (m : Mine W (Own B v) w) (h : Turns bt et w B v s' r e w') : e = .returned r ∧ Its bt et W B s' w' := by
  obtain ⟨h1, v', h2, h3, h4⟩ := h
  exact ⟨h1, v', h2, m.step h3 h4⟩
theorem new_its (W w : World) (k : Kept W w) : Calls Try.prog 6 #[] w fun e w' => ∃ B, e = .returned (PB B) ∧ Its PBt PT W B ⟨[], 0⟩ w' ∧ w.heap.size ≤ B ∧ Kept w w' :=
  (new_any w).mono fun _ _ ⟨B, h1, h2, h3, h4⟩ => ⟨B, h1, ⟨_, h2, k.trans h4, fun j c => by
    rcases c with c | c
    · have := k.size; omega
    · simp [Value.ownBlock] at c⟩, h3, h4⟩

theorem Its.lenC (h : Its PBt PT W B s w) : Calls Try.prog 9 #[PB B] w fun e w' => e = .returned (.int .i64 (s.L.length : Int)) ∧ w = w' := by
  obtain ⟨v, h1, h2⟩ := h; exact len_any h1
theorem Its.lostC (h : Its PBt PT W B s w) : Calls Try.prog 10 #[PB B] w fun e w' => e = .returned (.int .i64 (s.lost : Int)) ∧ w = w' := by
  obtain ⟨v, h1, h2⟩ := h; exact lost_any h1
theorem Its.look (h : Its PBt PT W B s w) (k : Int) : Calls Try.prog 11 #[PB B, .int .i64 k] w fun e w' => e = .returned (.tuple #[agg (takeF s k), .int .i64 (lookE s k)]) ∧ Kept w w' := by
  obtain ⟨v, h1, h2⟩ := h; exact look_any h1 k
theorem Its.send (h : Its PBt PT W B s w) (hl : s.lost ≤ 1000000) (f : Fl) : Calls Try.prog 13 #[PB B, agg f] w fun e w' => e = .returned (.int .i64 (sendE s)) ∧ Its PBt PT W B (sendS s f) w' := by
  obtain ⟨v, h1, h2⟩ := h; exact (send_any h1 hl f).mono fun _ _ t => its_turns h2 t
theorem Its.take (h : Its PBt PT W B s w) (k : Int) : Calls Try.prog 15 #[PB B, .int .i64 k] w fun e w' => e = .returned (.tuple #[agg (takeF s k), .int .i64 (lookE s k)]) ∧ Its PBt PT W B (takeS s k) w' := by
  obtain ⟨v, h1, h2⟩ := h; exact (take_any h1 k).mono fun _ _ t => its_turns h2 t
theorem Its.twice (h : Its PBt PT W B s w) (hl : s.lost ≤ 1000000) (k : Int) : Calls Try.prog 14 #[PB B, .int .i64 k] w fun e w' => e = .returned (.int .i64 (twiceE s k)) ∧ Its PBt PT W B (twiceS s k) w' := by
  obtain ⟨v, h1, h2⟩ := h; exact (twice_any h1 hl k).mono fun _ _ t => its_turns h2 t
theorem Its.hurt (h : Its PBt PT W B s w) (k a b : Int) : Calls Try.prog 16 #[PB B, .int .i64 k, .int .i64 a, .int .i64 b] w fun e w' => e = .returned (.int .i64 (hurtE s k a b)) ∧ Its PBt PT W B (hurtS s k a b) w' := by
  obtain ⟨v, h1, h2⟩ := h; exact (hurt_any h1 k a b).mono fun _ _ t => its_turns h2 t
end

def fa : Fl := ⟨0, 0, ⟨#[97]⟩, false⟩
def fb : Fl := ⟨0, 0, ⟨#[98]⟩, false⟩
def fc : Fl := ⟨0, 0, ⟨#[99]⟩, false⟩
def s1 : Sta := ⟨[fa], 0⟩
def s2 : Sta := ⟨[fa, fb], 0⟩
def s3 : Sta := ⟨[fa, fb, fc], 0⟩
def s4 : Sta := ⟨[fa, fc], 0⟩
def s5 : Sta := ⟨[⟨0, 0, ⟨#[96]⟩, true⟩, fc], 0⟩
theorem to4 : takeS s3 1 = s4 := rfl
theorem to5 : hurtS s4 0 0 1 = s5 := by
  show (if _ then _ else _ : Sta) = _
  rw [if_pos (by decide)]; rfl
theorem to5' : hurtE s4 0 0 1 = 0 := by decide
theorem to6 : hurtS s5 0 0 1 = s5 := by
  show (if _ then _ else _ : Sta) = _
  rw [if_neg (by decide)]
theorem to6' : hurtE s5 0 0 1 = 8 := by decide

set_option maxHeartbeats 1600000 in
theorem awake_any (W : World) : Calls Try.prog 7 #[] W fun e w' => e = .returned (.bool true) ∧ Kept W w' := by
  have S1 : ∀ (B : Nat) (w : World), Its PBt PT W B ⟨[], 0⟩ w → Calls Try.prog 13 #[PB B, .agg #[.int .i64 0, .int .i64 0, .string ⟨#[97]⟩, .bool false]] w fun e w' => e = .returned (.int .i64 0) ∧ Its PBt PT W B s1 w' := fun _ _ h => h.send (by decide) fa
  have S2 : ∀ (B : Nat) (w : World), Its PBt PT W B s1 w → Calls Try.prog 13 #[PB B, .agg #[.int .i64 0, .int .i64 0, .string ⟨#[98]⟩, .bool false]] w fun e w' => e = .returned (.int .i64 0) ∧ Its PBt PT W B s2 w' := fun _ _ h => h.send (by decide) fb
  have S3 : ∀ (B : Nat) (w : World), Its PBt PT W B s2 w → Calls Try.prog 13 #[PB B, .agg #[.int .i64 0, .int .i64 0, .string ⟨#[99]⟩, .bool false]] w fun e w' => e = .returned (.int .i64 0) ∧ Its PBt PT W B s3 w' := fun _ _ h => h.send (by decide) fc
  have T4 : ∀ (B : Nat) (w : World), Its PBt PT W B s3 w → Calls Try.prog 15 #[PB B, .int .i64 1] w fun e w' => e = .returned (.tuple #[.agg #[.int .i64 0, .int .i64 0, .string ⟨#[98]⟩, .bool false], .int .i64 0]) ∧ Its PBt PT W B s4 w' := fun _ _ h => h.take 1
  have L4 : ∀ (B : Nat) (w : World), Its PBt PT W B s4 w → Calls Try.prog 9 #[PB B] w fun e w' => e = .returned (.int .i64 2) ∧ w = w' := fun _ _ h => h.lenC
  have H5 : ∀ (B : Nat) (w : World), Its PBt PT W B s4 w → Calls Try.prog 16 #[PB B, .int .i64 0, .int .i64 0, .int .i64 1] w fun e w' => e = .returned (.int .i64 0) ∧ Its PBt PT W B s5 w' := fun _ _ h => by
    have := h.hurt 0 0 1; rw [to5, to5'] at this; exact this
  have H6 : ∀ (B : Nat) (w : World), Its PBt PT W B s5 w → Calls Try.prog 16 #[PB B, .int .i64 0, .int .i64 0, .int .i64 1] w fun e w' => e = .returned (.int .i64 8) ∧ Its PBt PT W B s5 w' := fun _ _ h => by
    have := h.hurt 0 0 1; rw [to6, to6'] at this; exact this
  have N := Lib.hid (new_its W)
  have S1 := Lib.hid S1
  have S2 := Lib.hid S2
  have S3 := Lib.hid S3
  have T4 := Lib.hid T4
  have L4 := Lib.hid L4
  have H5 := Lib.hid H5
  have H6 := Lib.hid H6
  go_enter Try.func7, Try.ntmps7
  go_wp2_with fail
  refine (N.out _ (Kept.refl _)).mono ?_
  rintro e w1 ⟨B, rfl, a1, _, _⟩
  have A1 := Lib.hid a1
  clear a1
  go_wp2_with fail
  refine (S1.out _ _ A1.out).mono ?_
  rintro e w2 ⟨rfl, a2⟩
  have A2 := Lib.hid a2
  clear a2
  go_wp2_with fail
  refine (S2.out _ _ A2.out).mono ?_
  rintro e w3 ⟨rfl, a3⟩
  have A3 := Lib.hid a3
  clear a3
  go_wp2_with fail
  refine (S3.out _ _ A3.out).mono ?_
  rintro e w4 ⟨rfl, a4⟩
  have A4 := Lib.hid a4
  clear a4
  go_wp2_with fail
  refine (T4.out _ _ A4.out).mono ?_
  rintro e w5 ⟨rfl, a5⟩
  have A5 := Lib.hid (a5.go (Kept.one _ (.cells #[.int .i64 0, .int .i64 0, .string ⟨#[98]⟩, .bool false] PT)))
  clear a5
  go_wp2_with fail
  refine (L4.out _ _ A5.out).mono ?_
  rintro e w6 ⟨rfl, rfl⟩
  go_wp2_with fail
  refine (H5.out _ _ A5.out).mono ?_
  rintro e w7 ⟨rfl, a7⟩
  have A7 := Lib.hid a7
  clear a7
  go_wp2_with fail
  refine (H6.out _ _ A7.out).mono ?_
  rintro e w8 ⟨rfl, a8⟩
  have A8 := Lib.hid a8
  clear a8
  go_wp2_with fail
  go_ret
  exact ⟨rfl, A8.out.kept⟩

end Go.Proofs.Ytglgkgpmfeamnaa.Bg
