/- The document's alarms: New; the law's own comparison of names. -/
import Derived.Test.YtckmkagijanbdaaAr4
namespace Go.Proofs.Ytckmkagijanbdaa.Al
open Go.RowKit Go.Sort Tk Wh IdM
open St (Kept blk_cell blk_free blk_lt blk_set)
set_option linter.unusedVariables false

/-- what New does -/
def rnews (w : World) (g : Int) : Ending → World → Prop := fun e w' =>
  ∃ S R, e = .returned (.pointer (some ⟨R, 0, none⟩)) ∧ RIs w' S R g 0 [] (.slice none 0 0) ∧ (∀ k, S k → w.heap.size ≤ k) ∧ Kept w w'
theorem rnew_end (w : World) {g : Int} (h : 1 ≤ g ∧ g ≤ 64) : rnews w g (.returned (.pointer (some ⟨w.heap.size, 0, none⟩))) (w.alloc (.cells #[.slice none 0 0, .int .i64 g, .int .i64 0] 39)) :=
  ⟨fun k => k = w.heap.size, w.heap.size, rfl, ⟨St.blk_new _ _, rowi_nil _ _ _, rfl, fun b e => (by cases e), List.Pairwise.nil, fun x c h => (by simp at h), Nat.zero_le _, by omega, h, fun k c => by subst c; simp⟩, fun k c => by subst c; exact Nat.le_refl _, Kept.one _ _⟩
set_option maxHeartbeats 1600000 in
set_option maxRecDepth 100000 in
theorem rnew_any (p : Int) (w : World) : Calls Try.prog 9 #[.int .i64 p] w (rnews w (gr p)) := by
  obtain ⟨m, hm⟩ : ∃ m, (max 0 (min p 6)).toNat = m := ⟨_, rfl⟩
  have hg : gr p = 2 ^ m := by unfold gr; rw [hm]
  have hm6 : m ≤ 6 := by omega
  have FIN := Lib.hid (show ∀ q, q = gr p → rnews w (gr p) (.returned (.pointer (some ⟨w.heap.size, 0, none⟩))) (w.alloc (.cells #[.slice none 0 0, .int .i64 q, .int .i64 0] 39)) from fun q e => by
    rw [e]; exact rnew_end w ⟨(gr_of p).1, (gr_of p).2.1⟩)
  have HG := Lib.hid hg
  have HM := Lib.hid hm
  clear hg hm
  go_enter Try.func9, Try.ntmps9
  go_wp2_with fail
  go_loop [4, 3] (fun iv gv => ∃ j : Nat, j ≤ m ∧ iv = .int .i64 (j : Int) ∧ gv = .int .i64 (2 ^ j)) (fun iv _ => m - (intOf iv).toNat)
  case atStart => exact ⟨0, Nat.zero_le _, rfl, rfl⟩
  case round =>
    obtain ⟨j, hj, rfl, rfl⟩ := hrel
    by_cases hlt : j < m
    · have h1 : (j : Int) < p := by have := HM.out; omega
      have h2 : (j : Int) < 6 := by have := HM.out; omega
      obtain ⟨q, hq⟩ : ∃ q : Int, (2 : Int) ^ j = q := ⟨_, rfl⟩
      have hqb : 1 ≤ q ∧ q ≤ 32 := by
        rcases (by omega : j = 0 ∨ j = 1 ∨ j = 2 ∨ j = 3 ∨ j = 4 ∨ j = 5) with rfl | rfl | rfl | rfl | rfl | rfl <;> (rw [← hq]; decide)
      have HQ := Lib.hid hq
      rw [hq]
      clear hq
      go_wp2_with fail
      go_round
      case rel => exact ⟨j + 1, hlt, by go_num, by rw [Int.pow_succ, HQ.out]⟩
      case measure => simp [intOf]; omega
    · have hje : j = m := by omega
      have hn : p ≤ (j : Int) ∨ (6 : Int) ≤ (j : Int) := by have := HM.out; omega
      obtain ⟨q, hq⟩ : ∃ q : Int, (2 : Int) ^ j = q := ⟨_, rfl⟩
      have hqg : q = gr p := by rw [← hq, hje]; exact HG.out.symm
      have HQ := Lib.hid hqg
      rw [hq]
      clear hq hqg
      by_cases h6 : (6 : Int) ≤ (j : Int)
      · by_cases hp : p ≤ (j : Int)
        all_goals
          clear hn
          go_wp2_with fail
          go_ret
          exact FIN.out _ HQ.out
      · have hp : p ≤ (j : Int) := by omega
        clear hn
        go_wp2_with fail
        go_ret
        exact FIN.out _ HQ.out

set_option maxHeartbeats 1600000 in
set_option maxRecDepth 100000 in
theorem same_any {w : World} {va vb : Value} {E : List Nm} (ha : RowI w va 42 5 (E.map Nm.ints)) (hb : RowI w vb 33 5 (E.map Nm.ints)) (hlen : E.length ≤ 1000000) :
    Calls Try.prog 27 #[va, vb] w fun e w' => e = .returned (.bool true) ∧ Kept w w' := by
  have hla := fun ty u => ha.len Try.underlying40 ty u
  have hlb := fun ty u => hb.len Try.underlying73 ty u
  rw [List.length_map] at hla hlb
  obtain ⟨q, hq⟩ : ∃ q : Int, (E.length : Int) = q := ⟨_, rfl⟩
  rw [hq] at hla hlb
  have HA := Lib.hid ha
  have HB := Lib.hid hb
  have HQ := Lib.hid hq
  have hq0 : 0 ≤ q := by omega
  clear ha hb hq
  go_enter Try.func27, Try.ntmps27
  go_wp2_with fail
  go_loopw [5] (fun iv wr => ∃ j : Nat, j ≤ E.length ∧ iv = .int .i64 (j : Int) ∧ Kept w wr) (fun iv _ => E.length - (intOf iv).toNat)
  case atStart => exact ⟨0, Nat.zero_le _, rfl, Kept.refl _⟩
  case round =>
    obtain ⟨j, hj, rfl, hk⟩ := hrel
    by_cases hlt : j < E.length
    · have hjq : (j : Int) < q := by have := HQ.out; omega
      have hj0 : (0 : Int) ≤ (j : Int) := by omega
      have hjl : (j : Int) < (E.length : Int) := by omega
      obtain ⟨y, hy⟩ : ∃ y, E[j]? = some y := ⟨_, List.getElem?_eq_getElem hlt⟩
      obtain ⟨b1, c1, e1, hc1, _, p⟩ := (HA.out.keep hk.drew).at (i := j) (l := y.ints) (by rw [List.getElem?_map, hy]; rfl)
      obtain ⟨b2, c2, e2, hc2, _, r⟩ := (HB.out.keep hk.drew).at (i := j) (l := y.ints) (by rw [List.getElem?_map, hy]; rfl)
      rw [List.length_map] at e1 e2 hc1 hc2
      have hc1' : (E.length : Int) ≤ (c1 : Int) := by omega
      have hc2' : (E.length : Int) ≤ (c2 : Int) := by omega
      obtain ⟨n, i, s, a, k⟩ := y
      have p0 := p 0 _ rfl
      have p1 := p 1 _ rfl
      have p2 := p 2 _ rfl
      have p3 := p 3 _ rfl
      have p4 := p 4 _ rfl
      have r0 := r 0 _ rfl
      have r1 := r 1 _ rfl
      have r2 := r 2 _ rfl
      have r3 := r 3 _ rfl
      have r4 := r 4 _ rfl
      rw [Nat.add_zero] at p0 r0
      have SX : ∀ u, Kept wr.drew u → u.cell? ⟨b1, j * 5, none⟩ = some (.int .i64 n) ∧ u.cell? ⟨b1, j * 5 + 1, none⟩ = some (.int .i64 i) ∧ u.cell? ⟨b1, j * 5 + 2, none⟩ = some (.int .i64 s) ∧ u.cell? ⟨b1, j * 5 + 3, none⟩ = some (.int .i64 a) ∧ u.cell? ⟨b1, j * 5 + 4, none⟩ = some (.int .i64 k) ∧ u.cell? ⟨b2, j * 5, none⟩ = some (.int .i64 n) ∧ u.cell? ⟨b2, j * 5 + 1, none⟩ = some (.int .i64 i) ∧ u.cell? ⟨b2, j * 5 + 2, none⟩ = some (.int .i64 s) ∧ u.cell? ⟨b2, j * 5 + 3, none⟩ = some (.int .i64 a) ∧ u.cell? ⟨b2, j * 5 + 4, none⟩ = some (.int .i64 k) :=
        fun u hk => ⟨cell_on hk p0, cell_on hk p1, cell_on hk p2, cell_on hk p3, cell_on hk p4, cell_on hk r0, cell_on hk r1, cell_on hk r2, cell_on hk r3, cell_on hk r4⟩
      have SX := Lib.hid SX
      have he2 : ∀ w, (binOp .neq 42 (.agg #[.int .i64 n, .int .i64 i, .int .i64 s, .int .i64 a, .int .i64 k]) (.agg #[.int .i64 n, .int .i64 i, .int .i64 s, .int .i64 a, .int .i64 k])).run Try.prog w = .ok (.bool false) w := fun w => by rw [neq42, decide_eq_true rfl]; rfl
      have HK := Lib.hid hk
      clear p r p0 p1 p2 p3 p4 r0 r1 r2 r3 r4 hy hk hc1 hc2
      subst e1
      subst e2
      go_wp2_with fail
      go_region_held3 (fun w' => w'.cell? ⟨b1, j * 5, none⟩ = some (.int .i64 n) ∧ w'.cell? ⟨b1, j * 5 + 1, none⟩ = some (.int .i64 i) ∧ w'.cell? ⟨b1, j * 5 + 2, none⟩ = some (.int .i64 s) ∧ w'.cell? ⟨b1, j * 5 + 3, none⟩ = some (.int .i64 a) ∧ w'.cell? ⟨b1, j * 5 + 4, none⟩ = some (.int .i64 k) ∧ w'.cell? ⟨b2, j * 5, none⟩ = some (.int .i64 n) ∧ w'.cell? ⟨b2, j * 5 + 1, none⟩ = some (.int .i64 i) ∧ w'.cell? ⟨b2, j * 5 + 2, none⟩ = some (.int .i64 s) ∧ w'.cell? ⟨b2, j * 5 + 3, none⟩ = some (.int .i64 a) ∧ w'.cell? ⟨b2, j * 5 + 4, none⟩ = some (.int .i64 k))
        (first | exact SX.out _ (Kept.refl _) | exact SX.out _ (by assumption))
        (first | (go_at_call 14; refine (mine_any n i s a k _).mono ?_; rintro e w5 ⟨rfl, hk5⟩))
      go_wp2_with fail
      go_roundw
      case rel => exact ⟨j + 1, hlt, by go_num, HK.out.drew.trans hk5⟩
      case measure => simp [intOf]; omega
    · have hqj : q ≤ (j : Int) := by have := HQ.out; omega
      have HK := Lib.hid hk
      clear hk hlt
      go_wp2_with fail
      go_ret
      exact ⟨rfl, HK.out⟩

end Go.Proofs.Ytckmkagijanbdaa.Al
