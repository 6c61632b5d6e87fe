/- Both bags, the program's and the document's, side by side. -/
import Derived.Test.YtglgkgpmfeamnaaBn
import Derived.Test.YtglgkgpmfeamnaaBd
import Derived.Deep.RegionHeld3
namespace Go.Proofs.Ytglgkgpmfeamnaa.Bg
open Go.RowKit Go.Sort Rv
open St (Kept blk_cell blk_free blk_lt blk_set)
open Wh (Fr Mine)
set_option linter.unusedVariables false

/-- both, a law's own, and blocks that neither has -/
def Tw (W : World) (B R : Nat) (s t : Sta) (Pr : List (Nat × Obj)) (w : World) : Prop := ∃ v u, Bag PBt PT w B v s ∧ Bag RB RT w R u t ∧ (∀ k, Own B v k → ¬ Own R u k) ∧ Mine W (Own B v) w ∧ Mine W (Own R u) w ∧ ∀ p ∈ Pr, w.heap[p.1]? = some p.2 ∧ ¬ Own B v p.1 ∧ ¬ Own R u p.1
section
variable {W w w' : World} {B R : Nat} {s t s' t' : Sta} {Pr : List (Nat × Obj)} {r : Value}
theorem Tw.go (h : Tw W B R s t Pr w) (k : Kept w w') : Tw W B R s t Pr w' := by
  obtain ⟨v, u, h1, h2, h3, h4, h5, h6⟩ := h
  exact ⟨v, u, h1.kept k, h2.kept k, h3, h4.go k, h5.go k, fun p hp => ⟨(k.block _ (blk_lt (h6 p hp).1)).trans (h6 p hp).1, (h6 p hp).2⟩⟩
theorem Tw.add (h : Tw W B R s t Pr w) (o : Obj) : Tw W B R s t ((w.heap.size, o) :: Pr) (w.alloc o) := by
  obtain ⟨v, u, h1, h2, h3, h4, h5, h6⟩ := h
  have k := Kept.one w o
  refine ⟨v, u, h1.kept k, h2.kept k, h3, h4.go k, h5.go k, fun p hp => ?_⟩
  rcases List.mem_cons.1 hp with c | c
  · subst c
    exact ⟨St.blk_new w o, fun c => Nat.lt_irrefl _ (h1.lt _ c), fun c => Nat.lt_irrefl _ (h2.lt _ c)⟩
  · exact ⟨(k.block _ (blk_lt (h6 p c).1)).trans (h6 p c).1, (h6 p c).2⟩
theorem Tw.drop (h : Tw W B R s t Pr w) : Tw W B R s t [] w := by
  obtain ⟨v, u, h1, h2, h3, h4, h5, h6⟩ := h
  exact ⟨v, u, h1, h2, h3, h4, h5, fun p hp => by simp at hp⟩
theorem Tw.kept (h : Tw W B R s t Pr w) : Kept W w := by obtain ⟨v, u, h1, h2, h3, h4, h5, h6⟩ := h; exact h4.kept
theorem Tw.blk (h : Tw W B R s t Pr w) {p : Nat × Obj} (hp : p ∈ Pr) : w.heap[p.1]? = some p.2 := by obtain ⟨v, u, h1, h2, h3, h4, h5, h6⟩ := h; exact (h6 p hp).1
theorem Tw.turnA {v u : Value} {e : Ending} (h1 : Bag PBt PT w B v s) (h2 : Bag RB RT w R u t) (h3 : ∀ k, Own B v k → ¬ Own R u k) (h4 : Mine W (Own B v) w) (h5 : Mine W (Own R u) w) (h6 : ∀ p ∈ Pr, w.heap[p.1]? = some p.2 ∧ ¬ Own B v p.1 ∧ ¬ Own R u p.1) (h : Turns PBt PT w B v s' r e w') : e = .returned r ∧ Tw W B R s' t Pr w' := by
  obtain ⟨q1, v', q2, q3, q4⟩ := h
  have m := h4.step q3 q4
  refine ⟨q1, v', u, q2, h2.fr q3 (fun k c d => h3 k d c), fun k c d => ?_, m, ⟨m.kept, h5.new⟩, fun p hp => ⟨(q3.block _ (blk_lt (h6 p hp).1) (h6 p hp).2.1).trans (h6 p hp).1, fun c => ?_, (h6 p hp).2.2⟩⟩
  · rcases q4 k c with c | c
    · exact h3 k c d
    · have := h2.lt k d; omega
  · rcases q4 _ c with c | c
    · exact (h6 p hp).2.1 c
    · have := blk_lt (h6 p hp).1; omega
theorem Tw.turnR {v u : Value} {e : Ending} (h1 : Bag PBt PT w B v s) (h2 : Bag RB RT w R u t) (h3 : ∀ k, Own B v k → ¬ Own R u k) (h4 : Mine W (Own B v) w) (h5 : Mine W (Own R u) w) (h6 : ∀ p ∈ Pr, w.heap[p.1]? = some p.2 ∧ ¬ Own B v p.1 ∧ ¬ Own R u p.1) (h : Turns RB RT w R u t' r e w') : e = .returned r ∧ Tw W B R s t' Pr w' := by
  obtain ⟨q1, u', q2, q3, q4⟩ := h
  have m := h5.step q3 q4
  refine ⟨q1, v, u', h1.fr q3 (fun k c d => h3 k c d), q2, fun k c d => ?_, ⟨m.kept, h4.new⟩, m, fun p hp => ⟨(q3.block _ (blk_lt (h6 p hp).1) (h6 p hp).2.2).trans (h6 p hp).1, (h6 p hp).2.1, fun c => ?_⟩⟩
  · rcases q4 k d with d | d
    · exact h3 k c d
    · have := h1.lt k c; omega
  · rcases q4 _ c with c | c
    · exact (h6 p hp).2.2 c
    · have := blk_lt (h6 p hp).1; omega

theorem Tw.sendA (h : Tw W B R s t Pr w) (hl : s.lost ≤ 1000000) (f : Fl) : Calls Try.prog 13 #[PB B, agg f] w fun e w' => e = .returned (.int .i64 (sendE s)) ∧ Tw W B R (sendS s f) t Pr w' := by
  obtain ⟨v, u, h1, h2, h3, h4, h5, h6⟩ := h
  exact (send_any h1 hl f).mono fun _ _ q => Tw.turnA h1 h2 h3 h4 h5 h6 q
theorem Tw.sendR (h : Tw W B R s t Pr w) (hl : t.lost ≤ 1000000) (f : Fl) : Calls Try.prog 17 #[PB R, agg f] w fun e w' => e = .returned (.int .i64 (sendE t)) ∧ Tw W B R s (sendS t f) Pr w' := by
  obtain ⟨v, u, h1, h2, h3, h4, h5, h6⟩ := h
  exact (rsend_any h2 hl f).mono fun _ _ q => Tw.turnR h1 h2 h3 h4 h5 h6 q
theorem Tw.takeA (h : Tw W B R s t Pr w) (k : Int) : Calls Try.prog 15 #[PB B, .int .i64 k] w fun e w' => e = .returned (.tuple #[agg (takeF s k), .int .i64 (lookE s k)]) ∧ Tw W B R (takeS s k) t Pr w' := by
  obtain ⟨v, u, h1, h2, h3, h4, h5, h6⟩ := h
  exact (take_any h1 k).mono fun _ _ q => Tw.turnA h1 h2 h3 h4 h5 h6 q
theorem Tw.takeR (h : Tw W B R s t Pr w) (k : Int) : Calls Try.prog 18 #[PB R, .int .i64 k] w fun e w' => e = .returned (.tuple #[agg (takeF t k), .int .i64 (lookE t k)]) ∧ Tw W B R s (takeS t k) Pr w' := by
  obtain ⟨v, u, h1, h2, h3, h4, h5, h6⟩ := h
  exact (rtake_any h2 k).mono fun _ _ q => Tw.turnR h1 h2 h3 h4 h5 h6 q
theorem Tw.twiceA (h : Tw W B R s t Pr w) (hl : s.lost ≤ 1000000) (k : Int) : Calls Try.prog 14 #[PB B, .int .i64 k] w fun e w' => e = .returned (.int .i64 (twiceE s k)) ∧ Tw W B R (twiceS s k) t Pr w' := by
  obtain ⟨v, u, h1, h2, h3, h4, h5, h6⟩ := h
  exact (twice_any h1 hl k).mono fun _ _ q => Tw.turnA h1 h2 h3 h4 h5 h6 q
theorem Tw.twiceR (h : Tw W B R s t Pr w) (hl : t.lost ≤ 1000000) (k : Int) : Calls Try.prog 19 #[PB R, .int .i64 k] w fun e w' => e = .returned (.int .i64 (twiceE t k)) ∧ Tw W B R s (twiceS t k) Pr w' := by
  obtain ⟨v, u, h1, h2, h3, h4, h5, h6⟩ := h
  exact (rtwice_any h2 hl k).mono fun _ _ q => Tw.turnR h1 h2 h3 h4 h5 h6 q
theorem Tw.hurtA (h : Tw W B R s t Pr w) (k a b : Int) : Calls Try.prog 16 #[PB B, .int .i64 k, .int .i64 a, .int .i64 b] w fun e w' => e = .returned (.int .i64 (hurtE s k a b)) ∧ Tw W B R (hurtS s k a b) t Pr w' := by
  obtain ⟨v, u, h1, h2, h3, h4, h5, h6⟩ := h
  exact (hurt_any h1 k a b).mono fun _ _ q => Tw.turnA h1 h2 h3 h4 h5 h6 q
theorem Tw.hurtR (h : Tw W B R s t Pr w) (hz : ∀ f ∈ t.L, f.s.size ≤ 5000) (k a b : Int) : Calls Try.prog 20 #[PB R, .int .i64 k, .int .i64 a, .int .i64 b] w fun e w' => e = .returned (.int .i64 (hurtE t k a b)) ∧ Tw W B R s (hurtS t k a b) Pr w' := by
  obtain ⟨v, u, h1, h2, h3, h4, h5, h6⟩ := h
  exact (rhurt_any h2 hz k a b).mono fun _ _ q => Tw.turnR h1 h2 h3 h4 h5 h6 q
theorem Tw.lookA (h : Tw W B R s t Pr w) (k : Int) : Calls Try.prog 11 #[PB B, .int .i64 k] w fun e w' => e = .returned (.tuple #[agg (takeF s k), .int .i64 (lookE s k)]) ∧ Kept w w' := by
  obtain ⟨v, u, h1, h2, h3, h4, h5, h6⟩ := h
  exact look_any h1 k
theorem Tw.lookR (h : Tw W B R s t Pr w) (k : Int) : Calls Try.prog 21 #[PB R, .int .i64 k] w fun e w' => e = .returned (.tuple #[agg (takeF t k), .int .i64 (lookE t k)]) ∧ Kept w w' := by
  obtain ⟨v, u, h1, h2, h3, h4, h5, h6⟩ := h
  exact rlook_any h2 k
end

/-- how small it stays: how many were lost, how long a text is -/
def Sml (c : Nat) (s : Sta) : Prop := s.lost ≤ c ∧ ∀ f ∈ s.L, f.s.size ≤ 200
section
variable {c : Nat} {s : Sta}
theorem Sml.up (h : Sml c s) : Sml (c + 1) s := ⟨by have := h.1; omega, h.2⟩
theorem Sml.send (h : Sml c s) {f : Fl} (hf : f.s.size ≤ 200) : Sml (c + 1) (sendS s f) := by
  unfold sendS
  split
  · refine ⟨by have := h.1; simp; omega, fun g hg => ?_⟩
    rcases List.mem_append.1 hg with d | d
    · exact h.2 g d
    · rw [List.mem_singleton.1 d]; exact hf
  · exact ⟨by have := h.1; simp; omega, h.2⟩
theorem look_mem' {k : Int} (h : has s k) : lookF s k ∈ s.L := by
  obtain ⟨i, f, rfl, h1, h2⟩ := has_at h
  rw [(look_yes h1).2.1]; exact List.mem_of_getElem? h1
theorem Sml.twice (h : Sml c s) (k : Int) : Sml (c + 1) (twiceS s k) := by
  unfold twiceS
  split
  · exact h.send (h.2 _ (look_mem' ‹_›))
  · exact h.up
theorem Sml.take (h : Sml c s) (k : Int) : Sml (c + 1) (takeS s k) := by
  unfold takeS
  split
  · exact ⟨by have := h.1; simp; omega, fun f hf => h.2 f (List.mem_of_mem_eraseIdx hf)⟩
  · exact h.up
theorem Sml.hurt (h : Sml c s) (k a b : Int) : Sml (c + 1) (hurtS s k a b) := by
  unfold hurtS
  split
  · rename_i d
    refine ⟨by have := h.1; simp; omega, fun f hf => ?_⟩
    rcases List.mem_or_eq_of_mem_set hf with e | e
    · exact h.2 f e
    · have := h.2 _ (look_mem' d.1)
      rw [St.size_list] at this
      rw [e, St.size_list]
      show (Cg.chg _ _ _).toArray.toList.length ≤ 200
      rw [List.toList_toArray, Cg.chg_len]; exact this
  · exact h.up
end

abbrev DT : TypeId := 32
/-- a deed's box -/
def dbox (k n a b fr to : Int) (t : ByteArray) (q : Bool) : Obj := .cells #[.int .i64 k, .int .i64 n, .int .i64 a, .int .i64 b, .int .i64 fr, .int .i64 to, .string t, .bool q] DT
section
variable {W w w' : World} {B R : Nat} {s t : Sta} {Pr : List (Nat × Obj)} {db : Nat} {k n a b fr to : Int} {x : ByteArray} {q : Bool}
theorem Tw.cells (h : Tw W B R s t ((db, dbox k n a b fr to x q) :: Pr) w) : w.cell? ⟨db, 0, none⟩ = some (.int .i64 k) ∧ w.cell? ⟨db, 1, none⟩ = some (.int .i64 n) ∧ w.cell? ⟨db, 2, none⟩ = some (.int .i64 a) ∧ w.cell? ⟨db, 3, none⟩ = some (.int .i64 b) ∧
    w.cell? ⟨db, 4, none⟩ = some (.int .i64 fr) ∧ w.cell? ⟨db, 5, none⟩ = some (.int .i64 to) ∧ w.cell? ⟨db, 6, none⟩ = some (.string x) ∧ w.cell? ⟨db, 7, none⟩ = some (.bool q) := by
  have hb := h.blk (p := (db, dbox k n a b fr to x q)) (by simp)
  exact ⟨by rw [blk_cell hb]; rfl, by rw [blk_cell hb]; rfl, by rw [blk_cell hb]; rfl, by rw [blk_cell hb]; rfl, by rw [blk_cell hb]; rfl, by rw [blk_cell hb]; rfl, by rw [blk_cell hb]; rfl, by rw [blk_cell hb]; rfl⟩
end

set_option maxHeartbeats 800000 in
/-- one flight is the same as itself -/
theorem same_any (f : Fl) (w : World) : Calls Try.prog 12 #[.agg #[.int .i64 f.fr, .int .i64 f.to, .string f.s, .bool f.h], .agg #[.int .i64 f.fr, .int .i64 f.to, .string f.s, .bool f.h]] w fun e w' => e = .returned (.bool true) ∧ Kept w w' := by
  go_enter Try.func12, Try.ntmps12
  go_wp2_with fail
  go_ret
  exact ⟨rfl, (Kept.one _ _).more _⟩

/-- what a deed does in both -/
def done (W : World) (B R c : Nat) : Ending → World → Prop := fun e w' => e = .returned (.bool true) ∧ ∃ s', Tw W B R s' s' [] w' ∧ Sml (c + 1) s'

end Go.Proofs.Ytglgkgpmfeamnaa.Bg
