/- How laws of wheels are walked: what a list of numbers is; the chapter's example. -/
import Derived.Test.YtffhjdkhmggakaaWh4
import Derived.Test.YtffhjdkhmggakaaWh7
import Derived.Test.YtffhjdkhmggakaaWh9
namespace Go.Proofs.Ytffhjdkhmggakaa.Wh
open Go.RowKit Tk Sl
open St (Kept)

section
variable {w w' : World} {S : Nat → Prop} {B : Nat} {now last to : Int} {L : List (Int × Int)}

theorem Row.one {v : Value} {x : Int} (h : Row w v [x]) : ∃ g cap, v = .slice (some ⟨g, 0, none⟩) 1 cap ∧ w.cell? ⟨g, 0, none⟩ = some (.int .i64 x) := by
  obtain ⟨g, cap, e, c⟩ := h.blk (i := 0) (x := x) rfl
  exact ⟨g, cap, e, c⟩

set_option maxHeartbeats 1000000 in
set_option maxRecDepth 100000 in
theorem awake_any (w : World) : Calls Try.prog 15 #[] w fun e w' => e = .returned (.bool true) ∧ Kept w w' := by
  go_enter Try.func15, Try.ntmps15
  go_wp2_with fail
  refine (new_any 0).mono ?_
  rintro e w1 ⟨S1, B, rfl, h1, s1, k1⟩
  go_wp2_with fail
  refine (add_room h1 (by decide) (by decide) 5).mono ?_
  rintro e w2 ⟨rfl, S2, h2, s2, f2⟩
  go_wp2_with fail
  refine (add_room h2 (by decide) (by decide) 70).mono ?_
  rintro e w3 ⟨rfl, S3, h3, s3, f3⟩
  go_wp2_with fail
  refine (advance_any (to := 69) h3 69 (by decide)).mono ?_
  rintro e w4 ⟨v4, S4, rfl, r4, h4, s4, f4, n4⟩
  go_wp2_with fail
  refine (advance_any (to := 70) h4 70 (by decide)).mono ?_
  rintro e w5 ⟨v5, S5, rfl, r5, h5, s5, f5, n5⟩
  have hr4 : Row w4 v4 [1] := r4
  have hr5 : Row w5 v5 [2] := r5
  have h5' : Whl w5 S5 B 70 2 [] := h5
  obtain ⟨g4, c4, rfl, e4⟩ := hr4.one
  obtain ⟨g5, c5, rfl, e5⟩ := hr5.one
  have e4' := f5.cell e4 (n4 g4 rfl).2
  have HL := Lib.hid (wlen_any h5')
  have HN := Lib.hid (wnow_any h5')
  have F : Kept w w5 := by
    have t1 := s1
    have a2 := f2.size; have a3 := f3.size; have a4 := f4.size; have a1 := k1.size
    have b2 : ∀ k, S2 k → w.heap.size ≤ k := fun k c => (s2 k c).elim (s1 k) (fun c => by omega)
    have b3 : ∀ k, S3 k → w.heap.size ≤ k := fun k c => (s3 k c).elim (b2 k) (fun c => by omega)
    have b4 : ∀ k, S4 k → w.heap.size ≤ k := fun k c => (s4 k c).elim (b3 k) (fun c => by omega)
    exact (((Fr.kept (S := fun k => w.heap.size ≤ k) k1).trans f2 (fun k c => Or.inl (s1 k c))).trans f3 (fun k c => Or.inl (b2 k c))).trans f4 (fun k c => Or.inl (b3 k c)) |>.trans f5 (fun k c => Or.inl (b4 k c)) |>.keeps (fun k c => c)
  have F := Lib.hid F
  clear r4 r5 hr4 hr5 h5 h5' h4 h3 h2 h1 f2 f3 f4 f5 k1 s1 s2 s3 s4 s5 n4 n5 e4
  go_wp2_with (first | (go_at_call 13; refine HL.out.mono ?_; rintro e w' ⟨rfl, rfl⟩) | (go_at_call 12; refine HN.out.mono ?_; rintro e w' ⟨rfl, rfl⟩))
  go_ret
  exact ⟨rfl, F.out⟩
end

end Go.Proofs.Ytffhjdkhmggakaa.Wh
