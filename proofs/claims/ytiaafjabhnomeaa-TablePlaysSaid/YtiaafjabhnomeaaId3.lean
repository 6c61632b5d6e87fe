/- Package ident: keys in their row; and the document's. -/
import Derived.Test.YtiaafjabhnomeaaId2
namespace Go.Proofs.Ytiaafjabhnomeaa.Id
open Go.RowKit Go.Sort St IdM
set_option linter.unusedVariables false

/-- two keys in blocks of their own -/
def Eight (b : Nat) (n i s a n' i' s' a' : Int) (W : World) : Prop :=
  W.cell? ⟨b, 0, none⟩ = some (.int .i64 n) ∧ W.cell? ⟨b, 1, none⟩ = some (.int .i64 i) ∧ W.cell? ⟨b, 2, none⟩ = some (.int .i64 s) ∧ W.cell? ⟨b, 3, none⟩ = some (.int .i64 a) ∧
  W.cell? ⟨b + 1, 0, none⟩ = some (.int .i64 n') ∧ W.cell? ⟨b + 1, 1, none⟩ = some (.int .i64 i') ∧ W.cell? ⟨b + 1, 2, none⟩ = some (.int .i64 s') ∧ W.cell? ⟨b + 1, 3, none⟩ = some (.int .i64 a')
theorem Eight.kept {b : Nat} {n i s a n' i' s' a' : Int} {x y : World} (h : Eight b n i s a n' i' s' a' x) (hk : Kept x y) : Eight b n i s a n' i' s' a' y := by
  have t : ∀ {c o : Nat} {v : Value}, x.cell? ⟨c, o, none⟩ = some v → y.cell? ⟨c, o, none⟩ = some v := fun {c o v} hc => by
    rw [hk.cell (p := ⟨c, o, none⟩) (cell_lt hc)]; exact hc
  exact ⟨t h.1, t h.2.1, t h.2.2.1, t h.2.2.2.1, t h.2.2.2.2.1, t h.2.2.2.2.2.1, t h.2.2.2.2.2.2.1, t h.2.2.2.2.2.2.2⟩
theorem eight_new (w : World) (n i s a n' i' s' a' : Int) : ∃ W, (w.alloc (.cells #[.int .i64 n, .int .i64 i, .int .i64 s, .int .i64 a] 32 (0, 0))).alloc (.cells #[.int .i64 n', .int .i64 i', .int .i64 s', .int .i64 a'] 32 (0, 0)) = W ∧ Kept w W ∧ Eight w.heap.size n i s a n' i' s' a' W := by
  obtain ⟨W, hW, hk, hx, hy⟩ := boxed2 w #[.int .i64 n, .int .i64 i, .int .i64 s, .int .i64 a] #[.int .i64 n', .int .i64 i', .int .i64 s', .int .i64 a'] 32
  subst hW
  exact ⟨_, rfl, Kept.more (Kept.one _ _) _, hx 0, hx 1, hx 2, hx 3, hy 0, hy 1, hy 2, hy 3⟩
/-- where a call on two keys stands -/
def E8 (w : World) (n i s a n' i' s' a' : Int) (x : World) : Prop := Kept w x ∧ Eight w.heap.size n i s a n' i' s' a' x
theorem E8.go {w : World} {n i s a n' i' s' a' : Int} {x y : World} (h : E8 w n i s a n' i' s' a' x) (hk : Kept x y) : E8 w n i s a n' i' s' a' y := ⟨h.1.trans hk, h.2.kept hk⟩
theorem E8.cells {w : World} {n i s a n' i' s' a' : Int} {x : World} (h : E8 w n i s a n' i' s' a' x) : Eight w.heap.size n i s a n' i' s' a' x := h.2

set_option maxRecDepth 100000 in
set_option maxHeartbeats 800000 in
theorem keys_as {n i s a n' i' s' a' z : Int} (hz : Hid (keysI n i s a n' i' s' a' = z)) {w : World} :
    Calls Try.prog 41 #[.agg #[.int .i64 n, .int .i64 i, .int .i64 s, .int .i64 a], .agg #[.int .i64 n', .int .i64 i', .int .i64 s', .int .i64 a']] w fun e w' => e = .returned (.int .i64 z) ∧ Kept w w' := by
  obtain ⟨z1, h1⟩ : ∃ z, Hid (compareI n i s n' i' s' = z) := ⟨_, rfl⟩
  obtain ⟨z2, h2⟩ : ∃ z, Hid (cmpI a a' = z) := ⟨_, rfl⟩
  have hb := Lib.hid (show orI z1 z2 = z by rw [← hz.out, ← h1.out, ← h2.out]; rfl)
  clear hz
  go_enter Try.func41, Try.ntmps41
  go_wp2_with fail
  obtain ⟨W, hW, hK, hE⟩ := eight_new w n i s a n' i' s' a'
  have HE : E8 w n i s a n' i' s' a' W := ⟨hK, hE⟩
  rw [hW]
  clear hW hK hE
  have HD : E8 w n i s a n' i' s' a' W.drew := HE.go (Kept.refl _).drew
  go_region_held3 (fun w' => w'.cell? ⟨w.heap.size, 0, none⟩ = some (.int .i64 n) ∧ w'.cell? ⟨w.heap.size, 1, none⟩ = some (.int .i64 i) ∧ w'.cell? ⟨w.heap.size, 2, none⟩ = some (.int .i64 s) ∧ w'.cell? ⟨w.heap.size, 3, none⟩ = some (.int .i64 a) ∧
      w'.cell? ⟨w.heap.size + 1, 0, none⟩ = some (.int .i64 n') ∧ w'.cell? ⟨w.heap.size + 1, 1, none⟩ = some (.int .i64 i') ∧ w'.cell? ⟨w.heap.size + 1, 2, none⟩ = some (.int .i64 s') ∧ w'.cell? ⟨w.heap.size + 1, 3, none⟩ = some (.int .i64 a'))
    (first | exact E8.cells (by assumption) | exact (E8.go (by assumption) (Kept.one _ _)).cells)
    (first | (go_at_call 48; refine (compare_as (by assumption)).mono ?_; rintro e w1 ⟨rfl, hk1⟩; have HF := HD.go hk1)
           | (go_at_call 49; refine (cmp_as (by assumption)).mono ?_; rintro e w' ⟨rfl, rfl⟩)
           | (go_at_call 47; refine (or2_any _ _ _ _ (blk_new _ _)).mono ?_; rintro e w' ⟨rfl, rfl⟩))
  go_wp2_with fail
  go_ret
  exact ⟨ret_int hb.out, Kept.more HF.1 _⟩

set_option maxRecDepth 100000 in
set_option maxHeartbeats 800000 in
theorem rkeys_as {n i s a n' i' s' a' z : Int} (hz : Hid (keysI n i s a n' i' s' a' = z)) {w : World} :
    Calls Try.prog 34 #[.agg #[.int .i64 n, .int .i64 i, .int .i64 s, .int .i64 a], .agg #[.int .i64 n', .int .i64 i', .int .i64 s', .int .i64 a']] w fun e w' => e = .returned (.int .i64 z) ∧ Kept w w' := by
  by_cases h : n = n' ∧ i = i' ∧ s = s'
  · obtain ⟨rfl, rfl, rfl⟩ := h
    have hb : Hid (cmpI a a' = z) := Lib.hid (by rw [← hz.out]; unfold keysI compareI; rw [cmp_eq, cmp_eq, cmp_eq]; rfl)
    clear hz
    go_enter Try.func34, Try.ntmps34
    go_wp2_with (go_at_call 46; refine (ints_as (by assumption)).mono ?_; rintro e w' ⟨rfl, rfl⟩)
    go_ret
    exact ⟨rfl, Kept.more (Kept.one _ _) _⟩
  · have hb : Hid (compareI n i s n' i' s' = z) := Lib.hid (by
      rw [← hz.out]; unfold keysI; rw [or_ne]
      intro h0
      rcases keys_cases n i s 0 n' i' s' 0 with g | g | g
      · have := g.1; unfold keysI at this; rw [h0, cmp_eq] at this; exact absurd this (by decide)
      · exact h ⟨g.2.2.1, g.2.2.2.1, g.2.2.2.2.1⟩
      · have := g.1; unfold keysI at this; rw [h0, cmp_eq] at this; exact absurd this (by decide))
    clear hz
    rcases (by by_cases h1 : n = n' <;> by_cases h2 : i = i' <;> by_cases h3 : s = s' <;> simp_all : (n == n') = false ∨ (n = n' ∧ (i == i') = false) ∨ (n = n' ∧ i = i' ∧ (s == s') = false)) with h1 | ⟨rfl, h1⟩ | ⟨rfl, rfl, h1⟩
    all_goals
      clear h
      go_enter Try.func34, Try.ntmps34
      go_wp2_with (go_at_call 45; refine (rcompare_as (by assumption)).mono ?_; rintro e w' ⟨rfl, hk⟩)
      go_ret
      exact ⟨rfl, (Kept.more (Kept.one _ _) _).trans hk⟩

end Go.Proofs.Ytiaafjabhnomeaa.Id
