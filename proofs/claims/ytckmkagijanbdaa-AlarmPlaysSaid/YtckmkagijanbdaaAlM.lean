/- Plain: names of alarms in their row; what alarms there are, by names; how they stand beside a wheel's times. No Go text is spoken of here. -/
import Derived.Test.YtckmkagijanbdaaIdM0
import Derived.Test.YtckmkagijanbdaaWhEnt
namespace Go.Proofs.Ytckmkagijanbdaa.Al
open Tk Wh IdM
set_option linter.unusedVariables false

/-- a name: a key's four numbers, and the kind -/
structure Nm where
  n : Int
  i : Int
  s : Int
  a : Int
  k : Int
theorem Nm.ext {x y : Nm} (h1 : x.n = y.n) (h2 : x.i = y.i) (h3 : x.s = y.s) (h4 : x.a = y.a) (h5 : x.k = y.k) : x = y := by
  cases x; cases y; simp only at *; subst h1; subst h2; subst h3; subst h4; subst h5; rfl
def Nm.ints (x : Nm) : List Int := [x.n, x.i, x.s, x.a, x.k]
theorem Nm.ints_inj {x y : Nm} (h : x.ints = y.ints) : x = y := by
  unfold Nm.ints at h; simp only [List.cons.injEq, and_true] at h
  exact Nm.ext h.1 h.2.1 h.2.2.1 h.2.2.2.1 h.2.2.2.2
instance : DecidableEq Nm := fun x y =>
  if h : x.ints = y.ints then .isTrue (Nm.ints_inj h) else .isFalse fun e => h (by rw [e])
instance : Inhabited Nm := ⟨⟨0, 0, 0, 0, 0⟩⟩

/-- how two names stand -/
def nmI (x y : Nm) : Int := orI (keysI x.n x.i x.s x.a y.n y.i y.s y.a) (cmpI x.k y.k)
def ltN (x y : Nm) : Prop := nmI x y < 0
instance (x y : Nm) : Decidable (ltN x y) := inferInstanceAs (Decidable (nmI x y < 0))
def lexN (x y : Nm) : Prop := x.n < y.n ∨ x.n = y.n ∧ (x.i < y.i ∨ x.i = y.i ∧ (x.s < y.s ∨ x.s = y.s ∧ (x.a < y.a ∨ x.a = y.a ∧ x.k < y.k)))
theorem nm_cases (x y : Nm) : (nmI x y = -1 ∧ lexN x y) ∨ (nmI x y = 0 ∧ x = y) ∨ (nmI x y = 1 ∧ lexN y x) := by
  unfold nmI lexN
  rcases keys_cases x.n x.i x.s x.a y.n y.i y.s y.a with ⟨h, _, g⟩ | ⟨h, _, g⟩ | ⟨h, _, g⟩
  · rw [or_ne _ (by omega), h]; omega
  · obtain ⟨g1, g2, g3, g4⟩ := g
    rw [h, or_zero]
    rcases cmp_cases x.k y.k with ⟨c, e⟩ | ⟨c, e⟩ | ⟨c, e⟩
    · exact Or.inl ⟨e, by omega⟩
    · exact Or.inr (Or.inl ⟨e, Nm.ext g1 g2 g3 g4 c⟩)
    · exact Or.inr (Or.inr ⟨e, by omega⟩)
  · rw [or_ne _ (by omega), h]; omega
theorem lex_irr (x : Nm) : ¬ lexN x x := by unfold lexN; omega
theorem lex_tr {x y z : Nm} (h : lexN x y) (k : lexN y z) : lexN x z := by unfold lexN at *; omega
theorem lex_as {x y : Nm} (h : lexN x y) : ¬ lexN y x := by unfold lexN at *; omega
theorem lt_lex {x y : Nm} : ltN x y ↔ lexN x y := by
  unfold ltN
  rcases nm_cases x y with ⟨h, g⟩ | ⟨h, g⟩ | ⟨h, g⟩
  · exact ⟨fun _ => g, fun _ => by omega⟩
  · subst g; exact ⟨fun c => by omega, fun c => absurd c (lex_irr x)⟩
  · exact ⟨fun c => by omega, fun c => absurd g (lex_as c)⟩
theorem ltN_irr (x : Nm) : ¬ ltN x x := fun h => lex_irr x (lt_lex.1 h)
theorem ltN_tr {x y z : Nm} (h : ltN x y) (k : ltN y z) : ltN x z := lt_lex.2 (lex_tr (lt_lex.1 h) (lt_lex.1 k))
theorem ltN_tot {x y : Nm} (h : ¬ ltN x y) (k : ¬ ltN y x) : x = y := by
  rw [lt_lex] at h k
  rcases nm_cases x y with ⟨_, g⟩ | ⟨_, g⟩ | ⟨_, g⟩
  · exact absurd g h
  · exact g
  · exact absurd g k
theorem ltN_ne {x y : Nm} (h : ltN x y) : x ≠ y := fun e => ltN_irr y (e ▸ h)
theorem nm_self (x : Nm) : nmI x x = 0 := by
  rcases nm_cases x x with ⟨_, g⟩ | ⟨h, _⟩ | ⟨_, g⟩
  · exact absurd g (lex_irr x)
  · exact h
  · exact absurd g (lex_irr x)

/-- how alarms stand: by their names -/
def ltA (x y : Nm × Int) : Prop := ltN x.1 y.1
def put (x : Nm) (c : Int) (A : List (Nm × Int)) : List (Nm × Int) := A.filter (fun e => decide (ltN e.1 x)) ++ (x, c) :: A.filter (fun e => decide (ltN x e.1))
def drop (x : Nm) (A : List (Nm × Int)) : List (Nm × Int) := A.filter fun e => decide (e.1 ≠ x)
def dueA (g now : Int) (A : List (Nm × Int)) : List (Nm × Int) := A.filter fun e => decide (up e.2 g ≤ now)
def restA (g now : Int) (A : List (Nm × Int)) : List (Nm × Int) := A.filter fun e => decide (now < up e.2 g)
def timA (x : Nm) (A : List (Nm × Int)) : Option Int := (A.find? fun e => decide (e.1 = x)).map Prod.snd

theorem up_clamp (t g : Int) : up (clamp t) g = up t g := by unfold up upTo; rw [clamp_clamp]
theorem clamp_up (t g : Int) : clamp (up t g) = up t g := clamp_id _ (by have := up_lo t g; have := clamp_lo t; omega) (up_hi t g)

theorem mem_put {x : Nm} {c : Int} {A : List (Nm × Int)} {e : Nm × Int} : e ∈ put x c A ↔ e = (x, c) ∨ (e ∈ A ∧ e.1 ≠ x) := by
  unfold put
  rw [List.mem_append, List.mem_cons, List.mem_filter, List.mem_filter]
  simp only [decide_eq_true_eq]
  constructor
  · rintro (⟨h, k⟩ | h | ⟨h, k⟩)
    · exact Or.inr ⟨h, ltN_ne k⟩
    · exact Or.inl h
    · exact Or.inr ⟨h, (ltN_ne k).symm⟩
  · rintro (h | ⟨h, k⟩)
    · exact Or.inr (Or.inl h)
    · by_cases c1 : ltN e.1 x
      · exact Or.inl ⟨h, c1⟩
      · by_cases c2 : ltN x e.1
        · exact Or.inr (Or.inr ⟨h, c2⟩)
        · exact absurd (ltN_tot c1 c2) k
theorem ord_put {x : Nm} {c : Int} {A : List (Nm × Int)} (h : A.Pairwise ltA) : (put x c A).Pairwise ltA := by
  unfold put
  rw [List.pairwise_append]
  refine ⟨h.filter _, List.pairwise_cons.2 ⟨fun e he => ?_, h.filter _⟩, fun e he f hf => ?_⟩
  · have := (List.mem_filter.1 he).2
    show ltN x e.1; exact of_decide_eq_true this
  · have h1 : ltN e.1 x := of_decide_eq_true (List.mem_filter.1 he).2
    rcases List.mem_cons.1 hf with rfl | hf
    · exact h1
    · exact ltN_tr h1 (of_decide_eq_true (List.mem_filter.1 hf).2)
theorem mem_drop {x : Nm} {A : List (Nm × Int)} {e : Nm × Int} : e ∈ drop x A ↔ e ∈ A ∧ e.1 ≠ x := by
  unfold drop; rw [List.mem_filter]; simp
theorem ord_filter {A : List (Nm × Int)} (h : A.Pairwise ltA) (p : Nm × Int → Bool) : (A.filter p).Pairwise ltA := h.filter p
/-- two rows that rise and hold the same are the same -/
theorem rising_eq {α : Type} {lt : α → α → Prop} (irr : ∀ x, ¬ lt x x) (tr : ∀ {x y z}, lt x y → lt y z → lt x z) : ∀ {A B : List α}, A.Pairwise lt → B.Pairwise lt → (∀ e, e ∈ A ↔ e ∈ B) → A = B
  | [], [], _, _, _ => rfl
  | [], b :: B, _, _, h => absurd ((h b).2 (by simp)) (by simp)
  | a :: A, [], _, _, h => absurd ((h a).1 (by simp)) (by simp)
  | a :: A, b :: B, ha, hb, h => by
    obtain ⟨a1, a2⟩ := List.pairwise_cons.1 ha
    obtain ⟨b1, b2⟩ := List.pairwise_cons.1 hb
    have hab : a = b := by
      rcases List.mem_cons.1 ((h a).1 (by simp)) with e | e
      · exact e
      · rcases List.mem_cons.1 ((h b).2 (by simp)) with f | f
        · exact f.symm
        · exact absurd (tr (a1 b f) (b1 a e)) (irr a)
    subst hab
    refine congrArg _ (rising_eq irr tr a2 b2 fun e => ⟨fun he => ?_, fun he => ?_⟩)
    · rcases List.mem_cons.1 ((h e).1 (by simp [he])) with f | f
      · subst f; exact absurd (a1 e he) (irr e)
      · exact f
    · rcases List.mem_cons.1 ((h e).2 (by simp [he])) with f | f
      · subst f; exact absurd (b1 e he) (irr e)
      · exact f
theorem ltA_irr (x : Nm × Int) : ¬ ltA x x := ltN_irr x.1
theorem ltA_tr {x y z : Nm × Int} (h : ltA x y) (k : ltA y z) : ltA x z := ltN_tr h k

section
variable {A : List (Nm × Int)}
theorem names_inj (h : A.Pairwise ltA) {x : Nm} {c d : Int} (h1 : (x, c) ∈ A) (h2 : (x, d) ∈ A) : c = d := by
  obtain ⟨i, hi, e1⟩ := List.mem_iff_getElem.1 h1
  obtain ⟨j, hj, e2⟩ := List.mem_iff_getElem.1 h2
  have hp := List.pairwise_iff_getElem.1 h
  rcases Nat.lt_trichotomy i j with c1 | c1 | c1
  · have := hp i j hi hj c1; rw [e1, e2] at this; exact absurd this (ltN_irr x)
  · subst c1; rw [e1] at e2; exact congrArg Prod.snd e2
  · have := hp j i hj hi c1; rw [e1, e2] at this; exact absurd this (ltN_irr x)
theorem names_nodup (h : A.Pairwise ltA) : (A.map Prod.fst).Nodup := by
  rw [List.nodup_iff_pairwise_ne, List.pairwise_map]
  exact h.imp fun h => ltN_ne h
theorem tim_some (h : A.Pairwise ltA) {x : Nm} {c : Int} : timA x A = some c ↔ (x, c) ∈ A := by
  unfold timA
  constructor
  · intro e
    obtain ⟨f, hf, rfl⟩ := Option.map_eq_some_iff.1 e
    have h1 := List.mem_of_find?_eq_some hf
    have h2 := List.find?_some hf
    simp only [decide_eq_true_eq] at h2
    subst h2; exact h1
  · intro hm
    cases hf : A.find? (fun e => decide (e.1 = x)) with
    | none => rw [List.find?_eq_none] at hf; exact absurd (by simp) (hf _ hm)
    | some f =>
      have h1 := List.mem_of_find?_eq_some hf
      have h2 := List.find?_some hf
      simp only [decide_eq_true_eq] at h2
      subst h2
      rw [Option.map_some]
      exact congrArg some (names_inj h h1 hm)
theorem tim_none {x : Nm} : timA x A = none ↔ ∀ c, (x, c) ∉ A := by
  unfold timA
  rw [Option.map_eq_none_iff, List.find?_eq_none]
  constructor
  · intro h c hm; exact h _ hm (by simp)
  · rintro h ⟨y, c⟩ hm e; simp only [decide_eq_true_eq] at e; subst e; exact h c hm
theorem drop_none {x : Nm} (h : timA x A = none) : drop x A = A := by
  rw [tim_none] at h
  unfold drop
  rw [List.filter_eq_self]
  rintro ⟨y, c⟩ hm
  simp only [decide_eq_true_eq]
  intro e; subst e; exact h c hm
theorem drop_len (h : A.Pairwise ltA) {x : Nm} {c : Int} (hm : timA x A = some c) : (drop x A).length + 1 = A.length := by
  rw [tim_some h] at hm
  have h1 : drop x A = A.filter fun e => decide (e ≠ (x, c)) := by
    unfold drop
    refine List.filter_congr ?_
    rintro ⟨y, d⟩ hd
    by_cases e : y = x
    · subst e; rw [names_inj h hd hm]; simp
    · simp [e]
  have hn : A.Nodup := by
    rw [List.nodup_iff_pairwise_ne]
    refine h.imp ?_
    intro a b h e
    subst e; exact ltA_irr _ h
  rw [h1]; exact filter_ne_length A _ hn hm
theorem put_drop (h : A.Pairwise ltA) (x : Nm) (c : Int) : put x c (drop x A) = put x c A := by
  refine rising_eq ltA_irr ltA_tr (ord_put (h.filter _)) (ord_put h) fun e => ?_
  rw [mem_put, mem_put, mem_drop]
  constructor
  · rintro (h | ⟨⟨h, _⟩, k⟩)
    · exact Or.inl h
    · exact Or.inr ⟨h, k⟩
  · rintro (h | ⟨h, k⟩)
    · exact Or.inl h
    · exact Or.inr ⟨⟨h, k⟩, k⟩
theorem put_len_drop {x : Nm} (h : A.Pairwise ltA) (hn : timA x A = none) (c : Int) : (put x c A).length = A.length + 1 := by
  have e : drop x (put x c A) = A := by
    refine rising_eq ltA_irr ltA_tr ((ord_put h).filter _) h fun e => ?_
    rw [mem_drop, mem_put]
    constructor
    · rintro ⟨(h1 | h1), k⟩
      · subst h1; exact absurd rfl k
      · exact h1.1
    · intro hm
      have : e.1 ≠ x := fun c1 => by rw [tim_none] at hn; obtain ⟨y, d⟩ := e; simp only at c1; subst c1; exact hn d hm
      exact ⟨Or.inr ⟨hm, this⟩, this⟩
  have := drop_len (ord_put h) ((tim_some (ord_put h)).2 (mem_put.2 (Or.inl rfl)) : timA x (put x c A) = some c)
  rw [e] at this; omega
theorem put_len_le (h : A.Pairwise ltA) (x : Nm) (c : Int) : (put x c A).length ≤ A.length + 1 := by
  cases ht : timA x A with
  | none => rw [put_len_drop h ht]; exact Nat.le_refl _
  | some d =>
    have h1 := drop_len h ht
    have hn : timA x (drop x A) = none := by rw [tim_none]; intro d hm; exact (mem_drop.1 hm).2 rfl
    have h2 : (put x c (drop x A)).length = (drop x A).length + 1 := put_len_drop (h.filter _) hn c
    rw [put_drop h] at h2; omega
theorem due_rest_len (g now : Int) (A : List (Nm × Int)) : (dueA g now A).length + (restA g now A).length = A.length := by
  unfold dueA restA
  induction A with
  | nil => rfl
  | cons e A ih =>
    rw [List.filter_cons, List.filter_cons]
    by_cases h : up e.2 g ≤ now
    · rw [if_pos (by simpa using h), if_neg (by simp; omega)]; simp; omega
    · rw [if_neg (by simpa using h), if_pos (by simp; omega)]; simp; omega
theorem mem_due {g now : Int} {e : Nm × Int} : e ∈ dueA g now A ↔ e ∈ A ∧ up e.2 g ≤ now := by unfold dueA; rw [List.mem_filter]; simp
theorem mem_rest {g now : Int} {e : Nm × Int} : e ∈ restA g now A ↔ e ∈ A ∧ now < up e.2 g := by unfold restA; rw [List.mem_filter]; simp
end

/-- a name whose numbers a map's key may be -/
def okN (x : Nm) : Prop := I64 x.n ∧ I64 x.i ∧ I64 x.s ∧ I64 x.a ∧ I64 x.k

/-- HOW ALARMS STAND BESIDE THE WHEEL's TIMES L: what each of the two maps holds -/
structure Rel (g : Int) (A : List (Nm × Int)) (L : List (Int × Int)) (TA : Nm → Option (Int × Int)) (TN : Int → Option Nm) : Prop where
  ord : A.Pairwise ltA
  ta : ∀ x c, (x, c) ∈ A ↔ ∃ h, TA x = some (c, h)
  tn : ∀ h x, TN h = some x ↔ ∃ c, TA x = some (c, h)
  wl : ∀ t h, (t, h) ∈ L ↔ ∃ x c, TA x = some (c, h) ∧ t = up c g
  ok : ∀ x c, (x, c) ∈ A → okN x ∧ 0 ≤ c ∧ c ≤ 1125899906842624
  len : A.length = L.length

section
variable {g : Int} {A : List (Nm × Int)} {L : List (Int × Int)} {TA : Nm → Option (Int × Int)} {TN : Int → Option Nm}
theorem rel_none (g : Int) : Rel g [] [] (fun _ => none) (fun _ => none) :=
  ⟨List.Pairwise.nil, fun x c => by simp, fun h x => by simp, fun t h => by simp, fun x c h => by simp at h, rfl⟩
theorem Rel.time (R : Rel g A L TA TN) (x : Nm) : timA x A = (TA x).map Prod.fst := by
  cases h : TA x with
  | none =>
    rw [Option.map_none, tim_none]
    intro c hm
    obtain ⟨d, hd⟩ := (R.ta x c).1 hm
    rw [h] at hd; cases hd
  | some p => exact (tim_some R.ord).2 ((R.ta x p.1).2 ⟨p.2, h⟩)
theorem Rel.name (R : Rel g A L TA TN) {x : Nm} {c h : Int} (hx : TA x = some (c, h)) : TN h = some x := (R.tn h x).2 ⟨c, hx⟩
theorem Rel.wheel (R : Rel g A L TA TN) {x : Nm} {c h : Int} (hx : TA x = some (c, h)) : (up c g, h) ∈ L := (R.wl _ _).2 ⟨x, c, hx, rfl⟩
/-- one alarm is taken away -/
theorem Rel.del (R : Rel g A L TA TN) (hL : (L.map Prod.snd).Nodup) {x : Nm} {c h : Int} (hx : TA x = some (c, h)) : Rel g (drop x A) (Wh.del h L) (upd TA x none) (upd TN h none) := by
  have hw := R.wheel hx
  have hd := drop_len R.ord (show timA x A = some c by rw [R.time x, hx]; rfl)
  have hl : (Wh.del h L).length + 1 = L.length := by
    have e : Wh.del h L = L.filter fun e => decide (e ≠ (up c g, h)) := by
      unfold Wh.del
      refine List.filter_congr ?_
      rintro ⟨t, k⟩ hk
      by_cases e : k = h
      · subst e
        obtain ⟨y, d, hy, ht⟩ := (R.wl _ _).1 hk
        have h1 := R.name hy
        rw [R.name hx] at h1
        obtain rfl := Option.some.inj h1
        rw [hx] at hy
        obtain ⟨rfl, _⟩ := Prod.mk.inj (Option.some.inj hy)
        subst ht; simp
      · simp [e]
    have hn : L.Nodup := by
      rw [List.nodup_iff_pairwise_ne] at *
      rw [List.pairwise_map] at hL
      exact hL.imp fun {a b} h e => h (by rw [e])
    rw [e]; exact filter_ne_length L _ hn hw
  refine ⟨R.ord.filter _, fun y d => ?_, fun k y => ?_, fun t k => ?_, fun y d hm => R.ok y d (mem_drop.1 hm).1, by have := R.len; omega⟩
  · rw [mem_drop]
    by_cases e : y = x
    · subst e; rw [upd_same]; simp
    · rw [upd_other _ _ e, ← R.ta y d]; simp [e]
  · by_cases e : k = h
    · subst e
      rw [upd_same]
      constructor
      · intro c1; cases c1
      · rintro ⟨d, hd2⟩
        by_cases e2 : y = x
        · subst e2; rw [upd_same] at hd2; cases hd2
        · rw [upd_other _ _ e2] at hd2
          have := R.name hd2
          rw [R.name hx] at this
          exact absurd (Option.some.inj this).symm e2
    · rw [upd_other _ _ e, R.tn k y]
      by_cases e2 : y = x
      · subst e2
        rw [upd_same]
        constructor
        · rintro ⟨d, hd2⟩; rw [hx] at hd2; exact absurd (congrArg (fun p => (Option.getD p (0, 0)).2) hd2) (fun c1 => e c1.symm)
        · rintro ⟨d, hd2⟩; cases hd2
      · rw [upd_other _ _ e2]
  · unfold Wh.del
    rw [List.mem_filter, R.wl t k]
    simp only [decide_eq_true_eq]
    constructor
    · rintro ⟨⟨y, d, hy, ht⟩, hk⟩
      refine ⟨y, d, ?_, ht⟩
      rw [upd_other _ _ (fun e => by
        subst e; rw [hx] at hy
        exact hk (Prod.mk.inj (Option.some.inj hy)).2.symm)]
      exact hy
    · rintro ⟨y, d, hy, ht⟩
      have e : y ≠ x := fun e => by subst e; rw [upd_same] at hy; cases hy
      rw [upd_other _ _ e] at hy
      refine ⟨⟨y, d, hy, ht⟩, fun c1 => ?_⟩
      subst c1
      have := R.name hy
      rw [R.name hx] at this
      exact e (Option.some.inj this).symm
/-- a new alarm, of a name of which there was none -/
theorem Rel.put (R : Rel g A L TA TN) {x : Nm} {c h : Int} (hx : TA x = none) (hn : TN h = none) (hox : okN x) (h0 : 0 ≤ c) (h1 : c ≤ 1125899906842624) : Rel g (put x c A) (Wh.ins (up c g) h L) (upd TA x (some (c, h))) (upd TN h (some x)) := by
  have ht : timA x A = none := by rw [R.time x, hx]; rfl
  have hnone : ∀ y d, TA y ≠ some (d, h) := fun y d hy => by have := R.name hy; rw [hn] at this; cases this
  refine ⟨ord_put R.ord, fun y d => ?_, fun k y => ?_, fun t k => ?_, fun y d hm => ?_, by rw [put_len_drop R.ord ht, ins_length, R.len]⟩
  · rw [mem_put]
    by_cases e : y = x
    · subst e
      rw [upd_same]
      constructor
      · rintro (h | ⟨_, h⟩)
        · obtain ⟨_, rfl⟩ := Prod.mk.inj h; exact ⟨_, rfl⟩
        · exact absurd rfl h
      · rintro ⟨k, hk⟩
        obtain ⟨rfl, _⟩ := Prod.mk.inj (Option.some.inj hk); exact Or.inl rfl
    · rw [upd_other _ _ e, ← R.ta y d]; simp [e]
  · by_cases e : k = h
    · subst e
      rw [upd_same]
      constructor
      · intro c1; obtain rfl := Option.some.inj c1; exact ⟨c, upd_same ..⟩
      · rintro ⟨d, hd⟩
        by_cases e2 : y = x
        · rw [e2]
        · rw [upd_other _ _ e2] at hd; exact absurd hd (hnone y d)
    · rw [upd_other _ _ e, R.tn k y]
      by_cases e2 : y = x
      · subst e2
        rw [upd_same, hx]
        constructor
        · rintro ⟨d, hd⟩; cases hd
        · rintro ⟨d, hd⟩; exact absurd (Prod.mk.inj (Option.some.inj hd)).2.symm e
      · rw [upd_other _ _ e2]
  · have hmem : (t, k) ∈ Wh.ins (up c g) h L ↔ (t, k) = (up c g, h) ∨ (t, k) ∈ L := by
      unfold Wh.ins
      rw [List.mem_append, List.mem_cons, List.mem_filter, List.mem_filter]
      simp only [decide_eq_true_eq]
      constructor
      · rintro (⟨h, _⟩ | h | ⟨h, _⟩)
        · exact Or.inr h
        · exact Or.inl h
        · exact Or.inr h
      · rintro (h | h)
        · exact Or.inr (Or.inl h)
        · by_cases c1 : t ≤ up c g
          · exact Or.inl ⟨h, c1⟩
          · exact Or.inr (Or.inr ⟨h, by omega⟩)
    rw [hmem, R.wl t k]
    constructor
    · rintro (h2 | ⟨y, d, hy, ht⟩)
      · obtain ⟨rfl, rfl⟩ := Prod.mk.inj h2
        exact ⟨x, c, upd_same .., rfl⟩
      · refine ⟨y, d, ?_, ht⟩
        rw [upd_other _ _ (fun e => by subst e; rw [hx] at hy; cases hy)]; exact hy
    · rintro ⟨y, d, hy, ht⟩
      by_cases e : y = x
      · subst e
        rw [upd_same] at hy
        obtain ⟨rfl, rfl⟩ := Prod.mk.inj (Option.some.inj hy)
        exact Or.inl (by rw [ht])
      · rw [upd_other _ _ e] at hy; exact Or.inr ⟨y, d, hy, ht⟩
  · rcases mem_put.1 hm with h | ⟨h, _⟩
    · obtain ⟨rfl, rfl⟩ := Prod.mk.inj h; exact ⟨hox, h0, h1⟩
    · exact R.ok y d h
end

end Go.Proofs.Ytckmkagijanbdaa.Al
