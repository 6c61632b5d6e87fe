/- Plain: keys of attempts; which of them were seen, and up to when that matters. No Go text is spoken of here. -/
import Derived.Test.YtckjdncacinnkaaDoorIdM0
import Derived.Test.YtckjdncacinnkaaDoorTkMath
namespace Go.Proofs.YtckjdncacinnkaaDoor.Se
open Tk IdM
set_option linter.unusedVariables false

/-- a key: its identity's three numbers, and the attempt -/
structure Ke where
  n : Int
  i : Int
  s : Int
  a : Int
theorem Ke.ext {x y : Ke} (h1 : x.n = y.n) (h2 : x.i = y.i) (h3 : x.s = y.s) (h4 : x.a = y.a) : x = y := by
  cases x; cases y; simp only at *; subst h1; subst h2; subst h3; subst h4; rfl
def Ke.ints (x : Ke) : List Int := [x.n, x.i, x.s, x.a]
theorem Ke.ints_inj {x y : Ke} (h : x.ints = y.ints) : x = y := by
  unfold Ke.ints at h; simp only [List.cons.injEq, and_true] at h
  exact Ke.ext h.1 h.2.1 h.2.2.1 h.2.2.2
instance : DecidableEq Ke := fun x y =>
  if h : x.ints = y.ints then .isTrue (Ke.ints_inj h) else .isFalse fun e => h (by rw [e])
instance : Inhabited Ke := ⟨⟨0, 0, 0, 0⟩⟩
def okK (x : Ke) : Prop := I64 x.n ∧ I64 x.i ∧ I64 x.s ∧ I64 x.a

/-- keys, each with the time up to which it matters -/
abbrev Its := List (Ke × Int)
def live (t : Int) (s : Its) : Its := s.filter fun e => decide (t < e.2)
def hasK (k : Ke) (s : Its) : Bool := s.any fun e => decide (e.1 = k)
def strike (k : Ke) (s : Its) : Its := s.filter fun e => decide (e.1 ≠ k)
/-- is it seen for the first time? -/
def markE (k : Ke) (u t : Int) (s : Its) : Bool := !hasK k (live (clamp t) s) && (decide (clamp t < clamp u) && decide ((live (clamp t) s).length < 512))
/-- what is kept then -/
def markS (k : Ke) (u t : Int) (s : Its) : Its := if markE k u t s then live (clamp t) s ++ [(k, clamp u)] else live (clamp t) s

theorem has_iff {k : Ke} {s : Its} : hasK k s = true ↔ ∃ c, (k, c) ∈ s := by
  unfold hasK
  rw [List.any_eq_true]
  constructor
  · rintro ⟨⟨x, c⟩, hm, hx⟩
    obtain rfl : x = k := of_decide_eq_true hx
    exact ⟨c, hm⟩
  · rintro ⟨c, hm⟩; exact ⟨_, hm, decide_eq_true rfl⟩
theorem has_no {k : Ke} {s : Its} : hasK k s = false ↔ ∀ c, (k, c) ∉ s := by
  rw [← Bool.not_eq_true, has_iff]; exact ⟨fun h c m => h ⟨c, m⟩, fun h ⟨c, m⟩ => h c m⟩
theorem has_none (k : Ke) : hasK k [] = false := rfl
theorem has_app (k : Ke) (s t : Its) : hasK k (s ++ t) = (hasK k s || hasK k t) := by unfold hasK; rw [List.any_append]
theorem has_strike_same (k : Ke) (s : Its) : hasK k (strike k s) = false := by
  rw [has_no]; intro c m
  unfold strike at m
  have := (List.mem_filter.1 m).2
  simp at this
theorem has_strike_other {k y : Ke} (h : y ≠ k) (s : Its) : hasK y (strike k s) = hasK y s := by
  rw [Bool.eq_iff_iff, has_iff, has_iff]
  unfold strike
  exact ⟨fun ⟨c, m⟩ => ⟨c, (List.mem_filter.1 m).1⟩, fun ⟨c, m⟩ => ⟨c, List.mem_filter.2 ⟨m, by simpa using h⟩⟩⟩
theorem mem_strike {k y : Ke} {c : Int} {s : Its} : (y, c) ∈ strike k s ↔ (y, c) ∈ s ∧ y ≠ k := by
  unfold strike; rw [List.mem_filter]; simp
theorem mem_live {t c : Int} {y : Ke} {s : Its} : (y, c) ∈ live t s ↔ (y, c) ∈ s ∧ t < c := by
  unfold live; rw [List.mem_filter]; simp
theorem live_len (t : Int) (s : Its) : (live t s).length ≤ s.length := List.length_filter_le _ _

/-- no key stands twice -/
def Nd (s : Its) : Prop := s.Pairwise fun a b => a.1 ≠ b.1
theorem Nd.one {s : Its} (h : Nd s) {k : Ke} {a b : Int} (ha : (k, a) ∈ s) (hb : (k, b) ∈ s) : a = b := by
  induction s with
  | nil => cases ha
  | cons e s ih =>
    obtain ⟨h1, h2⟩ := List.pairwise_cons.1 h
    rcases List.mem_cons.1 ha with ea | ha
    · rcases List.mem_cons.1 hb with eb | hb
      · exact (Prod.mk.inj (ea.trans eb.symm)).2
      · exact absurd (congrArg Prod.fst ea.symm) (h1 (k, b) hb)
    · rcases List.mem_cons.1 hb with eb | hb
      · exact absurd (congrArg Prod.fst eb.symm) (h1 (k, a) ha)
      · exact ih h2 ha hb
theorem Nd.filter {s : Its} (h : Nd s) (p : Ke × Int → Bool) : Nd (s.filter p) := List.Pairwise.filter p h
theorem Nd.snoc {s : Its} (h : Nd s) {k : Ke} (hk : hasK k s = false) (c : Int) : Nd (s ++ [(k, c)]) := by
  refine List.pairwise_append.2 ⟨h, List.pairwise_singleton _ _, fun a ha b hb => ?_⟩
  rw [List.mem_singleton.1 hb]
  obtain ⟨y, d⟩ := a
  intro e
  simp only at e
  subst e
  exact has_no.1 hk d ha
theorem strike_len {s : Its} (h : Nd s) (k : Ke) : (strike k s).length + (if hasK k s then 1 else 0) = s.length := by
  induction s with
  | nil => rfl
  | cons e s ih =>
    obtain ⟨h1, h2⟩ := List.pairwise_cons.1 h
    have ih := ih h2
    obtain ⟨y, c⟩ := e
    by_cases hy : y = k
    · subst hy
      have hn : hasK y s = false := has_no.2 fun d m => h1 _ m rfl
      have hs : strike y s = s := List.filter_eq_self.2 fun e he => by
        obtain ⟨z, d⟩ := e
        have := h1 _ he
        simp only [ne_eq, decide_eq_true_eq]
        exact fun c => this c.symm
      have e1 : strike y ((y, c) :: s) = s := by
        unfold strike; rw [List.filter_cons_of_neg (by simp)]; exact hs
      have e2 : hasK y ((y, c) :: s) = true := has_iff.2 ⟨c, by simp⟩
      rw [e1, e2]; simp
    · have e1 : strike k ((y, c) :: s) = (y, c) :: strike k s := by
        unfold strike; rw [List.filter_cons_of_pos (by simpa using hy)]
      have e2 : hasK k ((y, c) :: s) = hasK k s := by
        unfold hasK; rw [List.any_cons]; simp [hy]
      rw [e1, e2, List.length_cons, List.length_cons]; omega

/-- what may be kept -/
structure Right (s : Its) : Prop where
  nd : Nd s
  ok : ∀ k c, (k, c) ∈ s → okK k ∧ 0 ≤ c ∧ c ≤ 1125899906842624
  len : s.length ≤ 512
theorem right_nil : Right [] := ⟨List.Pairwise.nil, fun k c m => (List.not_mem_nil m).elim, by simp⟩
theorem Right.live {s : Its} (h : Right s) (t : Int) : Right (live t s) := ⟨h.nd.filter _, fun k c m => h.ok k c (mem_live.1 m).1, Nat.le_trans (live_len t s) h.len⟩
theorem Right.mark {s : Its} (h : Right s) {k : Ke} (hk : okK k) (u t : Int) : Right (markS k u t s) := by
  have hl := h.live (clamp t)
  unfold markS
  by_cases hm : markE k u t s = true
  · rw [if_pos hm]
    unfold markE at hm
    simp only [Bool.and_eq_true, Bool.not_eq_true', decide_eq_true_eq] at hm
    obtain ⟨h1, h2, h3⟩ := hm
    refine ⟨hl.nd.snoc h1 _, fun y c m => ?_, by rw [List.length_append, List.length_singleton]; omega⟩
    rcases List.mem_append.1 m with m | m
    · exact hl.ok y c m
    · obtain ⟨rfl, rfl⟩ := Prod.mk.inj (List.mem_singleton.1 m)
      exact ⟨hk, clamp_lo u, clamp_hi u⟩
  · rw [if_neg hm]; exact hl

/-- how far forgetting has come: 'lf' tells of which keys it is still to come -/
def cur (t : Int) (s : Its) (lf : Ke → Bool) : Its := s.filter fun e => decide (t < e.2) || lf e.1
theorem cur_start (t : Int) (s : Its) : cur t s (fun x => hasK x s) = s :=
  List.filter_eq_self.2 fun e he => by
    obtain ⟨y, c⟩ := e
    show (decide (t < c) || hasK y s) = true
    rw [has_iff.2 ⟨c, he⟩, Bool.or_true]
theorem cur_end {t : Int} {s : Its} {lf : Ke → Bool} (h : ∀ k c, (k, c) ∈ s → lf k = false) : cur t s lf = live t s :=
  List.filter_congr fun e he => by
    obtain ⟨y, c⟩ := e
    show (decide (t < c) || lf y) = decide (t < c)
    rw [h y c he, Bool.or_false]
theorem mem_cur {t c : Int} {s : Its} {lf : Ke → Bool} {y : Ke} : (y, c) ∈ cur t s lf ↔ (y, c) ∈ s ∧ (t < c ∨ lf y = true) := by
  unfold cur; rw [List.mem_filter]; simp
/-- the entry that has come is gone: it is struck -/
theorem cur_strike {t c : Int} {s : Its} {lf lf2 : Ke → Bool} (hn : Nd s) {k : Ke} (hm : (k, c) ∈ s) (hc : c ≤ t) (h2 : lf2 k = false) (h3 : ∀ y d, (y, d) ∈ s → y ≠ k → lf2 y = lf y) : strike k (cur t s lf) = cur t s lf2 := by
  unfold strike cur
  rw [List.filter_filter]
  refine List.filter_congr fun e he => ?_
  obtain ⟨y, d⟩ := e
  by_cases hy : y = k
  · subst hy
    have : d = c := hn.one he hm
    subst this
    simp [h2]; omega
  · rw [h3 y d he hy]; simp [hy]
/-- the entry that has come matters: it stays -/
theorem cur_stays {t c : Int} {s : Its} {lf lf2 : Ke → Bool} (hn : Nd s) {k : Ke} (hm : (k, c) ∈ s) (hc : t < c) (h3 : ∀ y d, (y, d) ∈ s → y ≠ k → lf2 y = lf y) : cur t s lf = cur t s lf2 := by
  unfold cur
  refine List.filter_congr fun e he => ?_
  obtain ⟨y, d⟩ := e
  by_cases hy : y = k
  · subst hy
    have : d = c := hn.one he hm
    subst this
    simp [hc]
  · rw [h3 y d he hy]

end Go.Proofs.YtckjdncacinnkaaDoor.Se
