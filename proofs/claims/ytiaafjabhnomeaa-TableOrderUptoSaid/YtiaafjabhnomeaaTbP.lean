/- Two tables and the document's, apart from each other; what puts in a row come to. -/
import Derived.Test.YtiaafjabhnomeaaTbY
import Derived.Test.YtiaafjabhnomeaaTbH
import Derived.Test.YtiaafjabhnomeaaTbT
namespace Go.Proofs.Ytiaafjabhnomeaa.Tb
open Go.RowKit Go.Sort IdM Se Mv Blk
open St (Kept blk_cell blk_free blk_lt blk_set)
open Go.Proofs.Ytiaafjabhnomeaa.Ow (Ow Cls Mc mc_cls)
open Go.Proofs.Ytiaafjabhnomeaa.Rv
open Wh (Fr)
set_option linter.unusedVariables false
set_option maxRecDepth 20000

/-! ### puts, plain -/
def tabOf (E : List Re) : Tab := E.foldl (fun L e => put e.en L) []
theorem tab_app (E : List Re) (e : Re) : tabOf (E ++ [e]) = put e.en (tabOf E) := by unfold tabOf; rw [List.foldl_append]; rfl
theorem tab_snoc {E : List Re} {i : Nat} {e : Re} (h : E[i]? = some e) : tabOf (E.take (i + 1)) = put e.en (tabOf (E.take i)) := by rw [re_snoc h, tab_app]
theorem snoc_ind {P : List Re → Prop} (h0 : P []) (h1 : ∀ E e, P E → P (E ++ [e])) (E : List Re) : P E := by
  have : ∀ R : List Re, P R.reverse := fun R => by
    induction R with
    | nil => exact h0
    | cons e R ih => rw [List.reverse_cons]; exact h1 _ e ih
  have h := this E.reverse
  rwa [List.reverse_reverse] at h
theorem apart_snoc {E : List Re} {e : Re} : Apart (E ++ [e]) ↔ Apart E ∧ ∀ y ∈ E, y.k ≠ e.k := by
  unfold Apart
  rw [List.pairwise_append]
  constructor
  · rintro ⟨h1, _, h3⟩; exact ⟨h1, fun y hy => h3 y hy e (List.mem_singleton.2 rfl)⟩
  · rintro ⟨h1, h2⟩; exact ⟨h1, List.pairwise_singleton _ _, fun a ha b hb => by rw [List.mem_singleton.1 hb]; exact h2 a ha⟩
theorem sorted_tab (E : List Re) : Sorted (tabOf E) := snoc_ind (P := fun E => Sorted (tabOf E)) List.Pairwise.nil (fun E e h => by rw [tab_app]; exact sorted_put h) E
theorem mem_tab {E : List Re} (h : Apart E) {y : En} : y ∈ tabOf E ↔ ∃ e ∈ E, e.en = y := by
  revert h
  refine snoc_ind (P := fun E => Apart E → (y ∈ tabOf E ↔ ∃ e ∈ E, e.en = y)) (fun _ => by simp [tabOf]) (fun E e ih h => ?_) E
  obtain ⟨h1, h2⟩ := apart_snoc.1 h
  rw [tab_app, mem_put, ih h1]
  constructor
  · rintro (rfl | ⟨⟨x, hx, rfl⟩, _⟩)
    · exact ⟨e, by simp, rfl⟩
    · exact ⟨x, by simp [hx], rfl⟩
  · rintro ⟨x, hx, rfl⟩
    rcases List.mem_append.1 hx with hx | hx
    · exact .inr ⟨⟨x, hx, rfl⟩, h2 x hx⟩
    · rw [List.mem_singleton.1 hx]; exact .inl rfl
theorem ins_length (e : En) : ∀ L : Tab, (ins e L).length = L.length + 1
  | [] => rfl
  | y :: r => by
    unfold ins
    split
    · simp
    · rw [List.length_cons, ins_length e r, List.length_cons]
theorem len_tab {E : List Re} (h : Apart E) : (tabOf E).length = E.length := by
  revert h
  refine snoc_ind (P := fun E => Apart E → (tabOf E).length = E.length) (fun _ => rfl) (fun E e ih h => ?_) E
  obtain ⟨h1, h2⟩ := apart_snoc.1 h
  have hn : find e.en.k (tabOf E) = none := find_none.2 fun y hy c => by
    obtain ⟨x, hx, rfl⟩ := (mem_tab h1).1 hy
    exact h2 x hx c
  rw [tab_app]
  unfold put
  rw [drop_none hn, ins_length, ih h1, List.length_append]; rfl
theorem got_tab {E : List Re} (h : Apart E) {e : Re} (he : e ∈ E) : find e.k (tabOf E) = some e.en := (find_iff (sorted_tab E)).2 ⟨(mem_tab h).2 ⟨e, he, rfl⟩, rfl⟩
theorem got_en {E : List Re} (h : Apart E) {e : Re} (he : e ∈ E) : got e.k (tabOf E) = e.en := by unfold got; rw [got_tab h he]; rfl
theorem apart_rev {E : List Re} (h : Apart E) : Apart E.reverse := by unfold Apart; rw [List.pairwise_reverse]; exact h.imp fun h c => h c.symm
theorem keys_rev {E : List Re} (h : Apart E) : keysOf allF (tabOf E) = keysOf allF (tabOf E.reverse) := rise_ext (rise_keysOf (sorted_tab _)) (rise_keysOf (sorted_tab _)) fun x => by
  rw [mem_keysOf, mem_keysOf]
  constructor
  · rintro ⟨y, h1, h2, h3⟩
    obtain ⟨e, he, rfl⟩ := (mem_tab h).1 h1
    exact ⟨e.en, (mem_tab (apart_rev h)).2 ⟨e, List.mem_reverse.2 he, rfl⟩, h2, h3⟩
  · rintro ⟨y, h1, h2, h3⟩
    obtain ⟨e, he, rfl⟩ := (mem_tab (apart_rev h)).1 h1
    exact ⟨e.en, (mem_tab h).2 ⟨e, List.mem_reverse.1 he, rfl⟩, h2, h3⟩
theorem keys_len {E : List Re} (h : Apart E) : (keysOf allF (tabOf E)).length = E.length := by
  unfold keysOf
  rw [List.length_map]
  show ((tabOf E).filter fun _ => true).length = _
  rw [List.filter_eq_self.2 (fun e _ => rfl), len_tab h]
/-- how many calls they have -/
def calls (E : List Re) : Nat := (E.map fun e => e.K.length).sum
theorem calls_snoc {E : List Re} {i : Nat} {e : Re} (h : E[i]? = some e) : calls (E.take (i + 1)) = calls (E.take i) + e.K.length := by
  unfold calls; rw [re_snoc h, List.map_append, List.sum_append]; simp
theorem calls_take (E : List Re) (i : Nat) : calls (E.take i) ≤ calls E := by
  unfold calls
  have : ∀ (l : List Nat) (i : Nat), (l.take i).sum ≤ l.sum := fun l => by
    induction l with
    | nil => intro i; simp
    | cons a l ih => intro i; cases i with
      | zero => simp
      | succ i => rw [List.take_succ_cons, List.sum_cons, List.sum_cons]; have := ih i; omega
  rw [List.map_take]; exact this _ _
theorem calls_rev (E : List Re) : calls E.reverse = calls E := by unfold calls; rw [List.map_reverse, List.sum_reverse]
theorem calls_mem {E : List Re} {e : Re} (h : e ∈ E) : e.K.length ≤ calls E := by
  obtain ⟨i, hi, he⟩ := List.mem_iff_getElem.1 h
  have h1 : E[i]? = some e := by rw [List.getElem?_eq_getElem hi, he]
  have := calls_snoc h1
  have := calls_take E (i + 1)
  omega
/-- the keys of the document's row -/
def SameKeys (A B : List Re) : Prop := ∀ x, (∃ e ∈ A, e.k = x) ↔ ∃ e ∈ B, e.k = x
theorem mem_insR {e y : Re} : ∀ {E : List Re}, y ∈ insR e E ↔ y = e ∨ y ∈ E
  | [] => by simp [insR]
  | z :: r => by
    unfold insR
    split
    · simp
    · simp only [List.mem_cons, mem_insR]
      exact ⟨fun h => h.elim (fun h => .inr (.inl h)) (fun h => h.elim .inl (fun h => .inr (.inr h))), fun h => h.elim (fun h => .inr (.inl h)) (fun h => h.elim .inl (fun h => .inr (.inr h)))⟩
theorem mem_dropR {x : Ke} {E : List Re} {e : Re} : e ∈ dropR x E ↔ e ∈ E ∧ e.k ≠ x := by unfold dropR; rw [List.mem_filter]; simp
theorem keys_put {A B : List Re} {e : Re} (h : SameKeys A B) : SameKeys (insR e (dropR e.k A)) (B ++ [e]) := fun x => by
  constructor
  · rintro ⟨y, hy, rfl⟩
    rcases mem_insR.1 hy with rfl | hy
    · exact ⟨_, by simp, rfl⟩
    · obtain ⟨z, hz, hk⟩ := (h y.k).1 ⟨y, (mem_dropR.1 hy).1, rfl⟩
      exact ⟨z, by simp [hz], hk⟩
  · rintro ⟨y, hy, rfl⟩
    rcases List.mem_append.1 hy with hy | hy
    · by_cases c : y.k = e.k
      · exact ⟨e, mem_insR.2 (.inl rfl), c.symm⟩
      · obtain ⟨z, hz, hk⟩ := (h y.k).2 ⟨y, hy, rfl⟩
        exact ⟨z, mem_insR.2 (.inr (mem_dropR.2 ⟨hz, hk ▸ c⟩)), hk⟩
    · rw [List.mem_singleton.1 hy]; exact ⟨e, mem_insR.2 (.inl rfl), rfl⟩
theorem apart_ins {e : Re} : ∀ {E : List Re}, Apart E → (∀ y ∈ E, y.k ≠ e.k) → Apart (insR e E)
  | [], _, _ => List.pairwise_singleton _ _
  | z :: r, h, hn => by
    obtain ⟨h1, h2⟩ := List.pairwise_cons.1 h
    unfold insR
    split
    · exact List.pairwise_cons.2 ⟨fun y hy c => hn y hy c.symm, h⟩
    · refine List.pairwise_cons.2 ⟨fun y hy => ?_, apart_ins h2 fun y hy => hn y (List.mem_cons_of_mem _ hy)⟩
      rcases mem_insR.1 hy with rfl | hy
      · exact hn z List.mem_cons_self
      · exact h1 y hy
theorem apart_put {E : List Re} (h : Apart E) (e : Re) : Apart (insR e (dropR e.k E)) := apart_ins (apart_drop h _) fun y hy => (mem_dropR.1 hy).2

/-! ### in memory -/
structure OrdA (W0 w : World) (Ba Bb R : Nat) (La Lb : Tab) (ma mb : Nat) (v : Value) (Er : List Re) (Sa Sb : Nat → Prop) : Prop where
  base : Kept W0 w
  ta : Tbl w Ba La ma Sa
  tb : Tbl w Bb Lb mb Sb
  tr : Rt w R v Er
  ab : ∀ k, Sa k → ¬ Sb k
  aR : ¬ Sa R
  bR : ¬ Sb R
  av : ∀ g, v.ownBlock = some g → ¬ Sa g ∧ ¬ Sb g
  na : ∀ k, Sa k → W0.heap.size ≤ k
  nb : ∀ k, Sb k → W0.heap.size ≤ k
  nR : W0.heap.size ≤ R
section
variable {W0 w w' : World} {Ba Bb R : Nat} {La Lb La' Lb' : Tab} {ma mb ma' mb' : Nat} {v v' : Value} {Er Er' : List Re} {Sa Sb Sa' Sb' : Nat → Prop}
theorem OrdA.kept (h : OrdA W0 w Ba Bb R La Lb ma mb v Er Sa Sb) (k : Kept w w') : OrdA W0 w' Ba Bb R La Lb ma mb v Er Sa Sb :=
  ⟨h.base.trans k, h.ta.kept k, h.tb.kept k, h.tr.kept k, h.ab, h.aR, h.bR, h.av, h.na, h.nb, h.nR⟩
theorem OrdA.stepR (h : OrdA W0 w Ba Bb R La Lb ma mb v Er Sa Sb) (t : Rt w' R v' Er') (o : ∀ g, v'.ownBlock = some g → w.heap.size ≤ g) (f : Fr (fun k => k = R) w w') : OrdA W0 w' Ba Bb R La Lb ma mb v' Er' Sa Sb :=
  ⟨((Fr.kept (S := fun k => W0.heap.size ≤ k) h.base).trans f (fun k c => .inl (by rw [c]; exact h.nR))).keeps (fun k c => c), h.ta.fr f (fun k c d => h.aR (d ▸ c)), h.tb.fr f (fun k c d => h.bR (d ▸ c)), t, h.ab, h.aR, h.bR, fun g c => ⟨fun d => by have := h.ta.lt g d; have := o g c; omega, fun d => by have := h.tb.lt g d; have := o g c; omega⟩, h.na, h.nb, h.nR⟩
theorem OrdA.stepA (h : OrdA W0 w Ba Bb R La Lb ma mb v Er Sa Sb) (t : Tbl w' Ba La' ma' Sa') (s : ∀ k, Sa' k → Sa k ∨ w.heap.size ≤ k) (f : Fr Sa w w') : OrdA W0 w' Ba Bb R La' Lb ma' mb v Er Sa' Sb := by
  have hz := Below.size h.base
  have hR := blk_lt h.tr.blk
  refine ⟨((Fr.kept (S := fun k => W0.heap.size ≤ k) h.base).trans f (fun k c => .inl (h.na k c))).keeps (fun k c => c), t, h.tb.fr f (fun k c d => h.ab k d c), h.tr.fr f h.aR (fun g c => (h.av g c).1), fun k c d => (s k c).elim (fun c => h.ab k c d) (fun c => by have := h.tb.lt k d; omega), fun c => (s R c).elim h.aR (fun c => by omega), h.bR, fun g c => ⟨fun d => (s g d).elim (h.av g c).1 (fun d => by have := RowV.lt h.tr.row c; omega), (h.av g c).2⟩, fun k c => (s k c).elim (h.na k) (fun c => by omega), h.nb, h.nR⟩
theorem OrdA.stepB (h : OrdA W0 w Ba Bb R La Lb ma mb v Er Sa Sb) (t : Tbl w' Bb Lb' mb' Sb') (s : ∀ k, Sb' k → Sb k ∨ w.heap.size ≤ k) (f : Fr Sb w w') : OrdA W0 w' Ba Bb R La Lb' ma mb' v Er Sa Sb' := by
  have hz := Below.size h.base
  have hR := blk_lt h.tr.blk
  refine ⟨((Fr.kept (S := fun k => W0.heap.size ≤ k) h.base).trans f (fun k c => .inl (h.nb k c))).keeps (fun k c => c), h.ta.fr f (fun k c d => h.ab k c d), t, h.tr.fr f h.bR (fun g c => (h.av g c).2), fun k c d => (s k d).elim (h.ab k c) (fun d => by have := h.ta.lt k c; omega), h.aR, fun c => (s R c).elim h.bR (fun c => by omega), fun g c => ⟨(h.av g c).1, fun d => (s g d).elim (h.av g c).2 (fun d => by have := RowV.lt h.tr.row c; omega)⟩, h.na, fun k c => (s k c).elim (h.nb k) (fun c => by omega), h.nR⟩
end

end Go.Proofs.Ytiaafjabhnomeaa.Tb
