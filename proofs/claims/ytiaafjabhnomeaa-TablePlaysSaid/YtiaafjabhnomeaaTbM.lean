/- Plain: owners in their row; whose a call is. No Go text is spoken of here. -/
import Derived.Test.YtiaafjabhnomeaaSeM
import Derived.Test.YtiaafjabhnomeaaOw
import Derived.Test.YtiaafjabhnomeaaMv
namespace Go.Proofs.Ytiaafjabhnomeaa.Tb
open IdM Se
open Go.Proofs.Ytiaafjabhnomeaa.Mv (upd upd_same upd_other)
open Go.Proofs.Ytiaafjabhnomeaa.Ow (Ow)
open Go.Proofs.Ytiaafjabhnomeaa.Cl (Cl)
set_option linter.unusedVariables false

/-- an identity -/
structure Di where
  n : Int
  i : Int
  s : Int
theorem Di.ext {x y : Di} (h1 : x.n = y.n) (h2 : x.i = y.i) (h3 : x.s = y.s) : x = y := by
  cases x; cases y; simp only at *; subst h1; subst h2; subst h3; rfl
def Di.ints (x : Di) : List Int := [x.n, x.i, x.s]
theorem Di.ints_inj {x y : Di} (h : x.ints = y.ints) : x = y := by
  unfold Di.ints at h; simp only [List.cons.injEq, and_true] at h
  exact Di.ext h.1 h.2.1 h.2.2
instance : DecidableEq Di := fun x y =>
  if h : x.ints = y.ints then .isTrue (Di.ints_inj h) else .isFalse fun e => h (by rw [e])
def okD (x : Di) : Prop := I64 x.n ∧ I64 x.i ∧ I64 x.s

/-- whose a call is; its owner's key; an owner with its calls -/
def ci (c : Cl) : Di := ⟨c.n, c.i, c.s⟩
def ok (o : Ow) : Ke := ⟨o.kn, o.ki, o.ks, o.ka⟩
structure En where
  o : Ow
  K : List Cl
def En.k (e : En) : Ke := ok e.o
def En.has (e : En) (d : Di) : Bool := e.K.any fun c => decide (ci c = d)
theorem has_iff {e : En} {d : Di} : e.has d = true ↔ ∃ c ∈ e.K, ci c = d := by
  unfold En.has; rw [List.any_eq_true]; simp
/-- its numbers fit -/
def En.Fit (e : En) : Prop := okK e.k ∧ ∀ c ∈ e.K, okD (ci c)

/-! ### the row -/
def kI (x y : Ke) : Int := keysI x.n x.i x.s x.a y.n y.i y.s y.a
theorem kI_self (x : Ke) : kI x x = 0 := by
  rcases keys_cases x.n x.i x.s x.a x.n x.i x.s x.a with h | h | h
  · exact absurd (h.1.symm.trans h.2.1) (by decide)
  · exact h.1
  · exact absurd (h.1.symm.trans h.2.1) (by decide)
theorem kI_eq {x y : Ke} (h : kI x y = 0) : x = y := by
  rcases keys_cases x.n x.i x.s x.a y.n y.i y.s y.a with g | g | g
  · exact absurd (g.1.symm.trans h) (by decide)
  · exact Ke.ext g.2.2.1 g.2.2.2.1 g.2.2.2.2.1 g.2.2.2.2.2
  · exact absurd (g.1.symm.trans h) (by decide)
theorem kI_turn {x y : Ke} : kI x y < 0 ↔ 0 < kI y x := by
  unfold kI
  rcases keys_cases x.n x.i x.s x.a y.n y.i y.s y.a with g | g | g <;> rw [g.1, g.2.1] <;> decide
theorem kI_tr {x y z : Ke} (h1 : kI x y < 0) (h2 : kI y z < 0) : kI x z < 0 := by
  have h := keys_on (Int.le_of_lt h1) (Int.le_of_lt h2)
  rcases Int.lt_or_eq_of_le h with c | c
  · exact c
  · have e : x = z := kI_eq c
    subst e
    have := kI_turn.1 h1
    omega
theorem kI_irr {x : Ke} : ¬ kI x x < 0 := by rw [kI_self]; decide
theorem kI_tot {x y : Ke} (h1 : ¬ kI x y < 0) (h2 : ¬ kI y x < 0) : x = y := by
  apply kI_eq
  have : ¬ 0 < kI x y := fun c => h2 (kI_turn.2 c)
  omega

abbrev Tab := List En
def Sorted (L : Tab) : Prop := L.Pairwise fun a b => kI a.k b.k < 0
def find (x : Ke) (L : Tab) : Option En := L.find? fun e => decide (e.k = x)
def drop (x : Ke) (L : Tab) : Tab := L.filter fun e => decide (e.k ≠ x)
def ins (e : En) : Tab → Tab
  | [] => [e]
  | y :: r => if kI e.k y.k < 0 then e :: y :: r else y :: ins e r
def put (e : En) (L : Tab) : Tab := ins e (drop e.k L)
theorem find_some {x : Ke} {L : Tab} {e : En} (h : find x L = some e) : e ∈ L ∧ e.k = x :=
  ⟨List.mem_of_find?_eq_some h, by have := List.find?_some h; simpa using this⟩
theorem find_none {x : Ke} {L : Tab} : find x L = none ↔ ∀ e ∈ L, e.k ≠ x := by
  unfold find; rw [List.find?_eq_none]; simp
theorem find_mem {L : Tab} (hs : Sorted L) {e : En} (h : e ∈ L) : find e.k L = some e := by
  induction L with
  | nil => cases h
  | cons y r ih =>
    obtain ⟨h1, h2⟩ := List.pairwise_cons.1 hs
    unfold find
    rw [List.find?_cons]
    rcases List.mem_cons.1 h with rfl | h
    · simp
    · have hne : y.k ≠ e.k := fun c => by have := h1 e h; rw [c] at this; exact kI_irr this
      rw [show decide (y.k = e.k) = false from decide_eq_false hne]
      exact ih h2 h
theorem find_iff {L : Tab} (hs : Sorted L) {x : Ke} {e : En} : find x L = some e ↔ e ∈ L ∧ e.k = x :=
  ⟨find_some, fun ⟨h, k⟩ => k ▸ find_mem hs h⟩
theorem mem_drop {x : Ke} {L : Tab} {e : En} : e ∈ drop x L ↔ e ∈ L ∧ e.k ≠ x := by unfold drop; rw [List.mem_filter]; simp
theorem sorted_drop {L : Tab} (h : Sorted L) (x : Ke) : Sorted (drop x L) := List.Pairwise.sublist List.filter_sublist h
theorem drop_none {x : Ke} {L : Tab} (h : find x L = none) : drop x L = L := List.filter_eq_self.2 fun e he => by simpa using find_none.1 h e he
theorem mem_ins {e y : En} {L : Tab} : y ∈ ins e L ↔ y = e ∨ y ∈ L := by
  induction L with
  | nil => simp [ins]
  | cons z r ih =>
    unfold ins
    split
    · simp
    · simp only [List.mem_cons, ih]
      exact ⟨fun h => h.elim (fun h => .inr (.inl h)) (fun h => h.elim .inl (fun h => .inr (.inr h))), fun h => h.elim (fun h => .inr (.inl h)) (fun h => h.elim .inl (fun h => .inr (.inr h)))⟩
theorem sorted_ins {e : En} {L : Tab} (h : Sorted L) (hn : ∀ y ∈ L, y.k ≠ e.k) : Sorted (ins e L) := by
  induction L with
  | nil => exact List.pairwise_singleton _ _
  | cons y r ih =>
    obtain ⟨h1, h2⟩ := List.pairwise_cons.1 h
    unfold ins
    split
    · rename_i c
      refine List.pairwise_cons.2 ⟨fun z hz => ?_, h⟩
      rcases List.mem_cons.1 hz with rfl | hz
      · exact c
      · exact kI_tr c (h1 z hz)
    · rename_i c
      refine List.pairwise_cons.2 ⟨fun z hz => ?_, ih h2 fun z hz => hn z (List.mem_cons_of_mem _ hz)⟩
      rcases mem_ins.1 hz with rfl | hz
      · refine Classical.byContradiction fun d => ?_
        exact hn y List.mem_cons_self (kI_tot d c)
      · exact h1 z hz
theorem sorted_put {e : En} {L : Tab} (h : Sorted L) : Sorted (put e L) := sorted_ins (sorted_drop h _) fun y hy => (mem_drop.1 hy).2
theorem mem_put {e y : En} {L : Tab} : y ∈ put e L ↔ y = e ∨ (y ∈ L ∧ y.k ≠ e.k) := by unfold put; rw [mem_ins, mem_drop]
theorem find_drop {x y : Ke} {L : Tab} (hs : Sorted L) : find y (drop x L) = if y = x then none else find y L := by
  by_cases c : y = x
  · rw [if_pos c]; subst c
    exact find_none.2 fun e he => (mem_drop.1 he).2
  · rw [if_neg c]
    cases h : find y L with
    | none => exact find_none.2 fun e he => find_none.1 h e (mem_drop.1 he).1
    | some e =>
      obtain ⟨h1, h2⟩ := find_some h
      exact (find_iff (sorted_drop hs x)).2 ⟨mem_drop.2 ⟨h1, h2 ▸ c⟩, h2⟩
theorem find_put {e : En} {y : Ke} {L : Tab} (hs : Sorted L) : find y (put e L) = if y = e.k then some e else find y L := by
  by_cases c : y = e.k
  · rw [if_pos c]; subst c
    exact (find_iff (sorted_put hs)).2 ⟨mem_put.2 (.inl rfl), rfl⟩
  · rw [if_neg c]
    cases h : find y L with
    | none =>
      refine find_none.2 fun z hz => ?_
      rcases mem_put.1 hz with rfl | ⟨hz, _⟩
      · exact fun d => c d.symm
      · exact find_none.1 h z hz
    | some z =>
      obtain ⟨h1, h2⟩ := find_some h
      exact (find_iff (sorted_put hs)).2 ⟨mem_put.2 (.inr ⟨h1, h2 ▸ c⟩), h2⟩

/-- two rows of keys, both rising, of the same keys, are one -/
theorem rise_ext : ∀ {A B : List Ke}, A.Pairwise (fun a b => kI a b < 0) → B.Pairwise (fun a b => kI a b < 0) → (∀ x, x ∈ A ↔ x ∈ B) → A = B
  | [], [], _, _, _ => rfl
  | [], b :: B, _, _, h => by have := (h b).2 List.mem_cons_self; cases this
  | a :: A, [], _, _, h => by have := (h a).1 List.mem_cons_self; cases this
  | a :: A, b :: B, hA, hB, h => by
    obtain ⟨a1, a2⟩ := List.pairwise_cons.1 hA
    obtain ⟨b1, b2⟩ := List.pairwise_cons.1 hB
    have e : a = b := by
      rcases List.mem_cons.1 ((h a).1 List.mem_cons_self) with e | m1
      · exact e
      · rcases List.mem_cons.1 ((h b).2 List.mem_cons_self) with e | m2
        · exact e.symm
        · exact absurd (kI_tr (a1 b m2) (b1 a m1)) kI_irr
    subst e
    congr 1
    refine rise_ext a2 b2 fun x => ⟨fun m => ?_, fun m => ?_⟩
    · rcases List.mem_cons.1 ((h x).1 (List.mem_cons_of_mem _ m)) with e | m'
      · subst e; exact absurd (a1 x m) kI_irr
      · exact m'
    · rcases List.mem_cons.1 ((h x).2 (List.mem_cons_of_mem _ m)) with e | m'
      · subst e; exact absurd (b1 x m) kI_irr
      · exact m'
def keysOf (f : Ow → Bool) (L : Tab) : List Ke := (L.filter fun e => f e.o).map En.k
theorem mem_keysOf {f : Ow → Bool} {L : Tab} {x : Ke} : x ∈ keysOf f L ↔ ∃ e ∈ L, e.k = x ∧ f e.o = true := by
  unfold keysOf; rw [List.mem_map]
  exact ⟨fun ⟨e, h, k⟩ => ⟨e, (List.mem_filter.1 h).1, k, (List.mem_filter.1 h).2⟩, fun ⟨e, h, k, l⟩ => ⟨e, List.mem_filter.2 ⟨h, l⟩, k⟩⟩
theorem rise_keysOf {f : Ow → Bool} {L : Tab} (h : Sorted L) : (keysOf f L).Pairwise fun a b => kI a b < 0 := by
  unfold keysOf; rw [List.pairwise_map]
  exact List.Pairwise.sublist List.filter_sublist h

/-! ### whose a call is -/
abbrev Cal := Di → List Ke
def noteS (k : Ke) (F : Cal) (d : Di) : Cal := upd F d (F d ++ [k])
def noteF (k : Ke) (K : List Cl) (F : Cal) : Cal := K.foldl (fun F c => noteS k F (ci c)) F
def forS (k : Ke) (F : Cal) (d : Di) : Cal := upd F d ((F d).filter fun x => !decide (x = k))
def forF (k : Ke) (K : List Cl) (F : Cal) : Cal := K.foldl (fun F c => forS k F (ci c)) F
theorem noteF_app (k : Ke) (K : List Cl) (c : Cl) (F : Cal) : noteF k (K ++ [c]) F = noteS k (noteF k K F) (ci c) := by unfold noteF; rw [List.foldl_append]; rfl
theorem forF_app (k : Ke) (K : List Cl) (c : Cl) (F : Cal) : forF k (K ++ [c]) F = forS k (forF k K F) (ci c) := by unfold forF; rw [List.foldl_append]; rfl
theorem mem_noteF {k x : Ke} {d : Di} : ∀ {K : List Cl} {F : Cal}, x ∈ noteF k K F d ↔ x ∈ F d ∨ (x = k ∧ ∃ c ∈ K, ci c = d)
  | [], F => by simp [noteF]
  | c :: K, F => by
    show x ∈ noteF k K (noteS k F (ci c)) d ↔ _
    rw [mem_noteF]
    unfold noteS
    by_cases h : d = ci c
    · subst h; rw [upd_same, List.mem_append, List.mem_singleton]
      exact ⟨fun h => h.elim (fun h => h.elim .inl (fun h => .inr ⟨h, c, List.mem_cons_self, rfl⟩)) (fun ⟨h, c', m, e⟩ => .inr ⟨h, c', List.mem_cons_of_mem _ m, e⟩), fun h => h.elim (fun h => .inl (.inl h)) (fun h => .inl (.inr h.1))⟩
    · rw [upd_other _ _ h]
      simp only [List.mem_cons, exists_eq_or_imp, show ¬ ci c = d from fun e => h e.symm, false_or]
theorem mem_forF {k x : Ke} {d : Di} : ∀ {K : List Cl} {F : Cal}, x ∈ forF k K F d ↔ x ∈ F d ∧ ¬ (x = k ∧ ∃ c ∈ K, ci c = d)
  | [], F => by simp [forF]
  | c :: K, F => by
    show x ∈ forF k K (forS k F (ci c)) d ↔ _
    rw [mem_forF]
    unfold forS
    by_cases h : d = ci c
    · subst h; rw [upd_same]
      simp only [List.mem_filter, List.mem_cons, exists_eq_or_imp, true_or, and_true, Bool.not_eq_true', decide_eq_false_iff_not]
      exact ⟨fun h => h.1, fun h => ⟨h, fun e => h.2 e.1⟩⟩
    · rw [upd_other _ _ h]
      simp only [List.mem_cons, exists_eq_or_imp, show ¬ ci c = d from fun e => h e.symm, false_or]
theorem len_noteF {k : Ke} {d : Di} : ∀ {K : List Cl} {F : Cal}, (noteF k K F d).length ≤ (F d).length + K.length
  | [], F => Nat.le_refl _
  | c :: K, F => by
    have h := len_noteF (k := k) (d := d) (K := K) (F := noteS k F (ci c))
    have h2 : (noteS k F (ci c) d).length ≤ (F d).length + 1 := by
      unfold noteS
      by_cases e : d = ci c
      · subst e; rw [upd_same, List.length_append]; exact Nat.le_refl _
      · rw [upd_other _ _ e]; omega
    show (noteF k K (noteS k F (ci c)) d).length ≤ _
    rw [List.length_cons]; omega
theorem len_forF {k : Ke} {d : Di} : ∀ {K : List Cl} {F : Cal}, (forF k K F d).length ≤ (F d).length
  | [], F => Nat.le_refl _
  | c :: K, F => by
    have h := len_forF (k := k) (d := d) (K := K) (F := forS k F (ci c))
    have h2 : (forS k F (ci c) d).length ≤ (F d).length := by
      unfold forS
      by_cases e : d = ci c
      · subst e; rw [upd_same]; exact List.length_filter_le _ _
      · rw [upd_other _ _ e]; exact Nat.le_refl _
    exact Nat.le_trans h h2
/-- whose calls are told beside the owners -/
def Told (F : Cal) (L : Tab) : Prop := ∀ d x, x ∈ F d ↔ ∃ e ∈ L, e.k = x ∧ e.has d = true
theorem Told.nil : Told (fun _ => []) [] := fun d x => by simp
theorem Told.drop {F : Cal} {L : Tab} (h : Told F L) (hs : Sorted L) {e : En} (he : find e.k L = some e) : Told (forF e.k e.K F) (Tb.drop e.k L) := fun d x => by
  rw [mem_forF, h d x]
  obtain ⟨hm, _⟩ := find_some he
  constructor
  · rintro ⟨⟨y, h1, h2, h3⟩, h4⟩
    refine ⟨y, mem_drop.2 ⟨h1, fun c => h4 ⟨h2.symm.trans c, ?_⟩⟩, h2, h3⟩
    have : y = e := Option.some.inj ((find_mem hs h1).symm.trans (c ▸ he))
    subst this
    exact has_iff.1 h3
  · rintro ⟨y, h1, h2, h3⟩
    obtain ⟨h1, h4⟩ := mem_drop.1 h1
    exact ⟨⟨y, h1, h2, h3⟩, fun c => h4 (h2.trans c.1)⟩
theorem Told.drop_none {F : Cal} {L : Tab} (h : Told F L) {x : Ke} (hx : find x L = none) : Told F (Tb.drop x L) := by rw [Tb.drop_none hx]; exact h
theorem Told.put {F : Cal} {L : Tab} {e : En} (h : Told F (Tb.drop e.k L)) : Told (noteF e.k e.K F) (put e L) := fun d x => by
  rw [mem_noteF, h d x]
  constructor
  · rintro (⟨y, h1, h2, h3⟩ | ⟨rfl, hc⟩)
    · obtain ⟨h1, h4⟩ := mem_drop.1 h1
      exact ⟨y, mem_put.2 (.inr ⟨h1, h4⟩), h2, h3⟩
    · exact ⟨e, mem_put.2 (.inl rfl), rfl, has_iff.2 hc⟩
  · rintro ⟨y, h1, h2, h3⟩
    rcases mem_put.1 h1 with rfl | ⟨h1, h4⟩
    · exact .inr ⟨h2.symm, has_iff.1 h3⟩
    · exact .inl ⟨y, mem_drop.2 ⟨h1, h4⟩, h2, h3⟩

end Go.Proofs.Ytiaafjabhnomeaa.Tb
