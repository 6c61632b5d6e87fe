/- The document's order of names; two lots of alarms that share nothing. -/
import Derived.Test.YtckmkagijanbdaaAl8
import Derived.Test.YtckmkagijanbdaaId3
import Derived.Test.YtckmkagijanbdaaNmE
namespace Go.Proofs.Ytckmkagijanbdaa.Al
open Go.RowKit Go.Sort Tk Wh IdM
open St (Kept blk_cell blk_free blk_lt blk_set)
set_option linter.unusedVariables false

theorem two_box (w : World) (xs ys : Array Value) (t : TypeId) : ∃ W, (w.alloc (.cells xs t (0, 0))).alloc (.cells ys t (0, 0)) = W ∧ Kept w W ∧ W.heap[w.heap.size]? = some (.cells xs t (0, 0)) ∧ W.heap[w.heap.size + 1]? = some (.cells ys t (0, 0)) := by
  refine ⟨_, rfl, (Kept.one w _).more _, ?_, ?_⟩
  · rw [Below.heap_alloc _ _ _ (by simp)]; exact St.blk_new _ _
  · have := St.blk_new (w.alloc (.cells xs t (0, 0))) (.cells ys t (0, 0))
    simpa using this
theorem cell_on {u u' : World} {b o : Nat} {z : Value} (hk : Kept u u') (h : u.cell? ⟨b, o, none⟩ = some z) : u'.cell? ⟨b, o, none⟩ = some z := by
  rw [hk.cell (p := ⟨b, o, none⟩) (World.block_lt_of_cell? u _ h)]; exact h

set_option maxHeartbeats 800000 in
set_option maxRecDepth 100000 in
theorem rncompare_any (n i s a k n' i' s' a' k' : Int) (w : World) :
    Calls Try.prog 22 #[.agg #[.int .i64 n, .int .i64 i, .int .i64 s, .int .i64 a, .int .i64 k], .agg #[.int .i64 n', .int .i64 i', .int .i64 s', .int .i64 a', .int .i64 k']] w fun e w' => e = .returned (.int .i64 (nmI ⟨n, i, s, a, k⟩ ⟨n', i', s', a', k'⟩)) ∧ Kept w w' := by
  obtain ⟨z, hz⟩ : ∃ z, keysI n i s a n' i' s' a' = z := ⟨_, rfl⟩
  have HZ := Lib.hid hz
  have hn : nmI ⟨n, i, s, a, k⟩ ⟨n', i', s', a', k'⟩ = orI z (cmpI k k') := by unfold nmI; rw [hz]
  rw [hn]
  clear hz hn
  by_cases h0 : z = 0
  · subst h0
    rw [or_zero]
    rcases (by rcases cmp_cases k k' with ⟨c, e⟩ | ⟨c, e⟩ | ⟨c, e⟩ <;> omega : (k < k' ∧ cmpI k k' = -1) ∨ ((k ≤ k' ∧ k' ≤ k) ∧ cmpI k k' = 0) ∨ (k' < k ∧ cmpI k k' = 1)) with ⟨c, e⟩ | ⟨c, e⟩ | ⟨c, e⟩
    all_goals
      rw [e]
      clear e
      try obtain ⟨c1, c2⟩ := c
      go_enter Try.func22, Try.ntmps22
      go_wp2_with fail
      obtain ⟨W, hW, hk0, bx, by_⟩ := two_box w #[.int .i64 n, .int .i64 i, .int .i64 s, .int .i64 a, .int .i64 k] #[.int .i64 n', .int .i64 i', .int .i64 s', .int .i64 a', .int .i64 k'] 33
      rw [hW]
      have x4 : W.cell? ⟨w.heap.size, 4, none⟩ = some (.int .i64 k) := by rw [blk_cell bx]; rfl
      have y4 : W.cell? ⟨w.heap.size + 1, 4, none⟩ = some (.int .i64 k') := by rw [blk_cell by_]; rfl
      clear hW bx by_
      refine (Id.rkeys_as HZ).mono ?_
      rintro e w' ⟨rfl, hk⟩
      have p4 := cell_on hk x4
      have q4 := cell_on hk y4
      go_wp2_with fail
      go_ret
      exact ⟨rfl, hk0.trans hk⟩
  · rw [or_ne _ h0]
    have h1 : (z != 0) = true := by simpa using h0
    have h2 : (z == 0) = false := by simpa using h0
    clear h0
    go_enter Try.func22, Try.ntmps22
    go_wp2_with fail
    obtain ⟨W, hW, hk0, bx, by_⟩ := two_box w #[.int .i64 n, .int .i64 i, .int .i64 s, .int .i64 a, .int .i64 k] #[.int .i64 n', .int .i64 i', .int .i64 s', .int .i64 a', .int .i64 k'] 33
    rw [hW]
    have x4 : W.cell? ⟨w.heap.size, 4, none⟩ = some (.int .i64 k) := by rw [blk_cell bx]; rfl
    have y4 : W.cell? ⟨w.heap.size + 1, 4, none⟩ = some (.int .i64 k') := by rw [blk_cell by_]; rfl
    clear hW bx by_
    refine (Id.rkeys_as HZ).mono ?_
    rintro e w' ⟨rfl, hk⟩
    have p4 := cell_on hk x4
    have q4 := cell_on hk y4
    go_wp2_with fail
    go_ret
    exact ⟨rfl, hk0.trans hk⟩

end Go.Proofs.Ytckmkagijanbdaa.Al
