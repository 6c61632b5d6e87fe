/- Looking at a flight, in both bags. -/
import Derived.Test.YtglgkgpmfeamnaaBg
import Derived.Deep.QuietTactic
import Derived.BigQuiet
import Derived.StillTailTactics
import Derived.IntWalk
namespace Go.Proofs.Ytglgkgpmfeamnaa.Bg
open Go.RowKit Go.Sort Rv
open St (Kept blk_cell blk_free blk_lt blk_set)
open Wh (Fr Mine)
set_option linter.unusedVariables false

/-- what Look does -/
def looks (w : World) (s : Sta) (k : Int) : Ending → World → Prop := fun e w' => e = .returned (.tuple #[agg (takeF s k), .int .i64 (lookE s k)]) ∧ Kept w w'
theorem look_no {s : Sta} {k : Int} (h : ¬ has s k) : takeF s k = z ∧ lookE s k = 7 := ⟨if_neg h, if_neg h⟩
theorem look_yes {s : Sta} {i : Nat} {f : Fl} (h : s.L[i]? = some f) : has s (i : Int) ∧ lookF s (i : Int) = f ∧ takeF s (i : Int) = f ∧ lookE s (i : Int) = 0 := by
  have hl := (List.getElem?_eq_some_iff.1 h).1
  have hh : has s (i : Int) := ⟨by omega, by omega⟩
  have hf : lookF s (i : Int) = f := by unfold lookF; rw [Int.toNat_natCast, List.getD_eq_getElem?_getD, h]; rfl
  exact ⟨hh, hf, by unfold takeF; rw [if_pos hh, hf], if_pos hh⟩
theorem has_at {s : Sta} {k : Int} (h : has s k) : ∃ (i : Nat) (f : Fl), k = (i : Int) ∧ s.L[i]? = some f ∧ i < s.L.length := by
  obtain ⟨h0, h1⟩ := h
  have hl : k.toNat < s.L.length := by omega
  exact ⟨k.toNat, _, by omega, List.getElem?_eq_getElem hl, hl⟩

section
variable {w : World} {B : Nat} {v : Value} {s : Sta}
set_option maxHeartbeats 800000 in
theorem look_any (h : Bag 49 36 w B v s) (k : Int) : Calls Try.prog 11 #[PB B, .int .i64 k] w (looks w s k) := by
  have c0 := h.c0
  have hB := blk_lt h.blk
  have hl := fun ty u => h.row.len encP.us ty u
  by_cases hk : has s k
  · obtain ⟨i, f, rfl, hf, hi⟩ := has_at hk
    obtain ⟨g, cap, rfl, hcap, hg, hcell⟩ := h.row.at encP.len hf
    have q0 : w.cell? ⟨g, i * 4, none⟩ = some (.int .i64 f.fr) := hcell 0 _ rfl
    have q1 : w.cell? ⟨g, i * 4 + 1, none⟩ = some (.int .i64 f.to) := hcell 1 _ rfl
    have q2 : w.cell? ⟨g, i * 4 + 2, none⟩ = some (.string f.s) := hcell 2 _ rfl
    have q3 : w.cell? ⟨g, i * 4 + 3, none⟩ = some (.bool f.h) := hcell 3 _ rfl
    obtain ⟨_, _, e1, e2⟩ := look_yes hf
    have E := Lib.hid (And.intro e1 e2)
    have hi' : (i : Int) < (s.L.length : Int) := by omega
    clear h hk hf hcell e1 e2
    go_enter Try.func11, Try.ntmps11
    go_wp2
    refine bodyPost_ret (v := .tuple #[agg f, .int .i64 0]) (by simp [results, Try.results11, go_sem, agg, enc]) rfl ⟨?_, ?_⟩
    · rw [E.out.1, E.out.2]
    · exact Kept.one _ _
  · obtain ⟨e1, e2⟩ := look_no hk
    have E := Lib.hid (And.intro e1 e2)
    clear e1 e2
    by_cases h0 : k < 0
    · clear h hk
      go_enter Try.func11, Try.ntmps11
      go_wp2
      refine bodyPost_ret (v := .tuple #[agg z, .int .i64 7]) (by simp [results, Try.results11, go_sem, agg, enc, z]) rfl ⟨?_, ?_⟩
      · rw [E.out.1, E.out.2]
      · exact Kept.one _ _
    · have hd : decide ((s.L.length : Int) ≤ k) = true := by
        have : ¬ (0 ≤ k ∧ k < (s.L.length : Int)) := hk
        simp; omega
      have h0' : 0 ≤ k := by omega
      clear h hk h0
      go_enter Try.func11, Try.ntmps11
      go_wp2
      refine bodyPost_ret (v := .tuple #[agg z, .int .i64 7]) (by simp [results, Try.results11, go_sem, agg, enc, z]) rfl ⟨?_, ?_⟩
      · rw [E.out.1, E.out.2]
      · exact Kept.one _ _
set_option maxHeartbeats 400000 in
theorem ris_in (h : Bag 28 30 w B v s) {i : Nat} (hi : i < s.L.length) : Calls Try.prog 24 #[PB B, .int .i64 (i : Int)] w fun e w' => e = .returned (.bool true) ∧ w = w' := by
  have c0 := h.c0
  have hl := fun ty u => h.row.len encR.us ty u
  have hi' : (i : Int) < (s.L.length : Int) := by omega
  clear h
  go_enter Try.func24, Try.ntmps24
  go_wp2
  go_ret
  exact ⟨rfl, rfl⟩
set_option maxHeartbeats 400000 in
theorem ris_out (h : Bag 28 30 w B v s) {k : Int} (hk : ¬ has s k) : Calls Try.prog 24 #[PB B, .int .i64 k] w fun e w' => e = .returned (.bool false) ∧ w = w' := by
  have c0 := h.c0
  have hl := fun ty u => h.row.len encR.us ty u
  by_cases h0 : k < 0
  · clear h hk
    go_enter Try.func24, Try.ntmps24
    go_wp2
    go_ret
    exact ⟨rfl, rfl⟩
  · have hd : decide (k < (s.L.length : Int)) = false := by
      have : ¬ (0 ≤ k ∧ k < (s.L.length : Int)) := hk
      simp; omega
    have h0' : 0 ≤ k := by omega
    clear h hk h0
    go_enter Try.func24, Try.ntmps24
    go_wp2
    go_ret
    exact ⟨rfl, rfl⟩
set_option maxHeartbeats 800000 in
theorem rlook_any (h : Bag 28 30 w B v s) (k : Int) : Calls Try.prog 21 #[PB B, .int .i64 k] w (looks w s k) := by
  have c0 := h.c0
  have hB := blk_lt h.blk
  by_cases hk : has s k
  · obtain ⟨i, f, rfl, hf, hi⟩ := has_at hk
    have CI := Lib.hid (fun o => ris_in (h.kept (Kept.one w o)) hi)
    obtain ⟨g, cap, rfl, hcap, hg, hcell⟩ := h.row.at encR.len hf
    have q0 : w.cell? ⟨g, i * 4, none⟩ = some (.int .i64 f.fr) := hcell 0 _ rfl
    have q1 : w.cell? ⟨g, i * 4 + 1, none⟩ = some (.int .i64 f.to) := hcell 1 _ rfl
    have q2 : w.cell? ⟨g, i * 4 + 2, none⟩ = some (.string f.s) := hcell 2 _ rfl
    have q3 : w.cell? ⟨g, i * 4 + 3, none⟩ = some (.bool f.h) := hcell 3 _ rfl
    obtain ⟨_, _, e1, e2⟩ := look_yes hf
    have E := Lib.hid (And.intro e1 e2)
    have hi' : (i : Int) < (s.L.length : Int) := by omega
    clear h hk hf hcell e1 e2
    go_enter Try.func21, Try.ntmps21
    go_wp2_with (go_at_call 24; refine (CI.out _).mono ?_; rintro e w' ⟨rfl, rfl⟩)
    refine bodyPost_ret (v := .tuple #[agg f, .int .i64 0]) (by simp [results, Try.results21, go_sem, agg, enc]) rfl ⟨?_, ?_⟩
    · rw [E.out.1, E.out.2]
    · exact Kept.one _ _
  · obtain ⟨e1, e2⟩ := look_no hk
    have E := Lib.hid (And.intro e1 e2)
    have CI := Lib.hid (fun o => ris_out (h.kept (Kept.one w o)) hk)
    clear e1 e2 h hk
    go_enter Try.func21, Try.ntmps21
    go_wp2_with (go_at_call 24; refine (CI.out _).mono ?_; rintro e w' ⟨rfl, rfl⟩)
    refine bodyPost_ret (v := .tuple #[agg z, .int .i64 7]) (by simp [results, Try.results21, go_sem, agg, enc, z]) rfl ⟨?_, ?_⟩
    · rw [E.out.1, E.out.2]
    · exact Kept.one _ _
end

end Go.Proofs.Ytglgkgpmfeamnaa.Bg
