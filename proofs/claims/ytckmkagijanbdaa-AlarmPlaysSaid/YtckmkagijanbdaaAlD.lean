/- Plain: what is due of alarms: handles that a wheel tells, and the names of these. No Go text is spoken of here. -/
import Derived.Test.YtckmkagijanbdaaAlM
namespace Go.Proofs.Ytckmkagijanbdaa.Al
open Tk Wh IdM
set_option linter.unusedVariables false

/-- what is left of a map when some keys are gone -/
def wo {α β : Type} [DecidableEq α] (T : α → Option β) (l : List α) : α → Option β := fun y => if y ∈ l then none else T y
theorem wo_nil {α β : Type} [DecidableEq α] (T : α → Option β) : wo T [] = T := by funext y; simp [wo]
theorem wo_in {α β : Type} [DecidableEq α] (T : α → Option β) {l : List α} {y : α} (h : y ∈ l) : wo T l y = none := if_pos h
theorem wo_out {α β : Type} [DecidableEq α] (T : α → Option β) {l : List α} {y : α} (h : y ∉ l) : wo T l y = T y := if_neg h
theorem wo_succ {α β : Type} [DecidableEq α] (T : α → Option β) {l : List α} {k : Nat} {x : α} (h : l[k]? = some x) : upd (wo T (l.take k)) x none = wo T (l.take (k + 1)) := by
  funext y
  rw [List.take_add_one, h]
  by_cases c : y = x
  · subst c; rw [upd_same, wo_in _ (by simp)]
  · rw [upd_other _ _ c]
    by_cases d : y ∈ l.take k
    · rw [wo_in _ d, wo_in _ (by simp [d])]
    · rw [wo_out _ d, wo_out _ (by simp [d, c])]
theorem not_taken {α : Type} {l : List α} (hn : l.Nodup) {k : Nat} {x : α} (h : l[k]? = some x) : x ∉ l.take k := fun c => by
  have h1 : l = l.take k ++ l.drop k := (List.take_append_drop k l).symm
  rw [h1] at hn
  have h2 : x ∈ l.drop k := by
    rw [List.mem_iff_getElem?]; exact ⟨0, by rw [List.getElem?_drop]; simpa using h⟩
  exact (List.nodup_append.1 hn).2.2 x c x h2 rfl

/-- the handles that are due, and their names -/
def hDue (to : Int) (L : List (Int × Int)) : List Int := (Wh.due to L).map Prod.snd
def nDue (TN : Int → Option Nm) (H : List Int) : List Nm := H.map fun h => (TN h).getD default

section
variable {g to : Int} {A : List (Nm × Int)} {L : List (Int × Int)} {TA : Nm → Option (Int × Int)} {TN : Int → Option Nm}
theorem mem_hDue {h : Int} : h ∈ hDue to L ↔ ∃ t, (t, h) ∈ L ∧ t ≤ to := by
  unfold hDue Wh.due
  rw [List.mem_map]
  constructor
  · rintro ⟨⟨t, k⟩, hm, rfl⟩
    rw [List.mem_filter] at hm
    exact ⟨t, hm.1, of_decide_eq_true hm.2⟩
  · rintro ⟨t, hm, ht⟩
    exact ⟨(t, h), List.mem_filter.2 ⟨hm, decide_eq_true ht⟩, rfl⟩
theorem Rel.due_of (R : Rel g A L TA TN) {h : Int} (hh : h ∈ hDue to L) : ∃ x c, TN h = some x ∧ TA x = some (c, h) ∧ up c g ≤ to := by
  obtain ⟨t, hm, ht⟩ := mem_hDue.1 hh
  obtain ⟨x, c, hx, he⟩ := (R.wl _ _).1 hm
  exact ⟨x, c, R.name hx, hx, by omega⟩
theorem Rel.due_at (R : Rel g A L TA TN) {k : Nat} {h : Int} (hh : (hDue to L)[k]? = some h) : ∃ x c, (nDue TN (hDue to L))[k]? = some x ∧ TN h = some x ∧ TA x = some (c, h) ∧ okN x := by
  obtain ⟨x, c, h1, h2, h3⟩ := R.due_of (List.mem_of_getElem? hh)
  refine ⟨x, c, ?_, h1, h2, (R.ok x c ((R.ta x c).2 ⟨h, h2⟩)).1⟩
  unfold nDue
  rw [List.getElem?_map, hh, Option.map_some, h1]; rfl
theorem Rel.due_mem (R : Rel g A L TA TN) {x : Nm} : x ∈ nDue TN (hDue to L) ↔ ∃ c h, TA x = some (c, h) ∧ up c g ≤ to := by
  unfold nDue
  rw [List.mem_map]
  constructor
  · rintro ⟨h, hh, hx⟩
    obtain ⟨y, c, h1, h2, h3⟩ := R.due_of hh
    rw [h1] at hx
    have hx : y = x := hx
    subst hx; exact ⟨c, h, h2, h3⟩
  · rintro ⟨c, h, hx, hc⟩
    exact ⟨h, mem_hDue.2 ⟨_, R.wheel hx, hc⟩, by rw [R.name hx]; rfl⟩
theorem Rel.due_names (R : Rel g A L TA TN) (x : Nm) : x ∈ nDue TN (hDue to L) ↔ x ∈ (dueA g to A).map Prod.fst := by
  rw [R.due_mem, List.mem_map]
  constructor
  · rintro ⟨c, h, hx, hc⟩
    exact ⟨(x, c), mem_due.2 ⟨(R.ta x c).2 ⟨h, hx⟩, hc⟩, rfl⟩
  · rintro ⟨⟨y, c⟩, hm, rfl⟩
    obtain ⟨hm, hc⟩ := mem_due.1 hm
    obtain ⟨h, hx⟩ := (R.ta y c).1 hm
    exact ⟨c, h, hx, hc⟩
theorem hdue_nodup (hL : (L.map Prod.snd).Nodup) : (hDue to L).Nodup := by
  unfold hDue Wh.due
  rw [List.nodup_iff_pairwise_ne, List.pairwise_map] at *
  exact hL.filter _
theorem Rel.due_nodup (R : Rel g A L TA TN) (hL : (L.map Prod.snd).Nodup) : (nDue TN (hDue to L)).Nodup := by
  have h := hdue_nodup (to := to) hL
  unfold nDue
  rw [List.nodup_iff_pairwise_ne] at *
  rw [List.pairwise_map]
  refine h.imp_of_mem ?_
  intro a b ha hb hab e
  obtain ⟨x, c, h1, h2, _⟩ := R.due_of ha
  obtain ⟨y, d, k1, k2, _⟩ := R.due_of hb
  rw [h1, k1] at e
  have e : x = y := e
  subst e
  rw [h2] at k2
  exact hab (Prod.mk.inj (Option.some.inj k2)).2
theorem wdue_rest_len (to : Int) (L : List (Int × Int)) : (hDue to L).length + (Wh.rest to L).length = L.length := by
  unfold hDue; rw [List.length_map]
  unfold Wh.due Wh.rest
  induction L with
  | nil => rfl
  | cons e L ih =>
    rw [List.filter_cons, List.filter_cons]
    by_cases h : e.1 ≤ to
    · rw [if_pos (by simpa using h), if_neg (by simp; omega)]; simp; omega
    · rw [if_neg (by simpa using h), if_pos (by simp; omega)]; simp; omega
theorem nDue_len (TN : Int → Option Nm) (H : List Int) : (nDue TN H).length = H.length := List.length_map _
/-- the names that are due, rising -/
theorem Rel.due_sorted (R : Rel g A L TA TN) {D' : List Nm} (h1 : D'.Pairwise ltN) (h2 : D'.Perm (nDue TN (hDue to L))) : D' = (dueA g to A).map Prod.fst := by
  refine rising_eq ltN_irr ltN_tr h1 ?_ fun x => by rw [h2.mem_iff, R.due_names]
  rw [List.pairwise_map]
  exact R.ord.filter _
theorem Rel.due_len (R : Rel g A L TA TN) (hL : (L.map Prod.snd).Nodup) : (dueA g to A).length = (hDue to L).length := by
  have h1 := R.due_nodup (to := to) hL
  have h2 : ((dueA g to A).map Prod.fst).Nodup := names_nodup (R.ord.filter _)
  have h3 : (nDue TN (hDue to L)).Perm ((dueA g to A).map Prod.fst) := (List.perm_ext_iff_of_nodup h1 h2).2 fun x => R.due_names x
  have := h3.length_eq
  rw [nDue_len, List.length_map] at this; omega
/-- what is due is gone -/
theorem Rel.due (R : Rel g A L TA TN) (hL : (L.map Prod.snd).Nodup) (to : Int) : Rel g (restA g to A) (Wh.rest to L) (wo TA (nDue TN (hDue to L))) (wo TN (hDue to L)) := by
  have key : ∀ x c h, TA x = some (c, h) → (x ∈ nDue TN (hDue to L) ↔ up c g ≤ to) ∧ (h ∈ hDue to L ↔ up c g ≤ to) := fun x c h hx => by
    constructor
    · rw [R.due_mem]
      constructor
      · rintro ⟨d, k, hk, hd⟩
        rw [hx] at hk
        obtain ⟨rfl, _⟩ := Prod.mk.inj (Option.some.inj hk); exact hd
      · exact fun hd => ⟨c, h, hx, hd⟩
    · constructor
      · intro hh
        obtain ⟨y, d, k1, k2, k3⟩ := R.due_of hh
        rw [R.name hx] at k1
        obtain rfl := Option.some.inj k1
        rw [hx] at k2
        obtain ⟨rfl, _⟩ := Prod.mk.inj (Option.some.inj k2); exact k3
      · exact fun hd => mem_hDue.2 ⟨_, R.wheel hx, hd⟩
  have wx : ∀ x c h, wo TA (nDue TN (hDue to L)) x = some (c, h) ↔ TA x = some (c, h) ∧ to < up c g := fun x c h => by
    by_cases m : x ∈ nDue TN (hDue to L)
    · rw [wo_in _ m]
      constructor
      · intro e; cases e
      · rintro ⟨e, l⟩; have := ((key x c h e).1).1 m; omega
    · rw [wo_out _ m]
      constructor
      · intro e; exact ⟨e, by have := mt ((key x c h e).1).2 m; omega⟩
      · exact fun e => e.1
  refine ⟨R.ord.filter _, fun x c => ?_, fun h x => ?_, fun t h => ?_, fun x c hm => R.ok x c (mem_rest.1 hm).1, ?_⟩
  · rw [mem_rest, R.ta x c]
    constructor
    · rintro ⟨⟨h, hx⟩, l⟩; exact ⟨h, (wx x c h).2 ⟨hx, l⟩⟩
    · rintro ⟨h, hx⟩; obtain ⟨h1, h2⟩ := (wx x c h).1 hx; exact ⟨⟨h, h1⟩, h2⟩
  · by_cases m : h ∈ hDue to L
    · rw [wo_in _ m]
      constructor
      · intro e; cases e
      · rintro ⟨c, hx⟩
        obtain ⟨h1, h2⟩ := (wx x c h).1 hx
        have := ((key x c h h1).2).1 m; omega
    · rw [wo_out _ m, R.tn h x]
      constructor
      · rintro ⟨c, hx⟩; exact ⟨c, (wx x c h).2 ⟨hx, by have := mt ((key x c h hx).2).2 m; omega⟩⟩
      · rintro ⟨c, hx⟩; exact ⟨c, ((wx x c h).1 hx).1⟩
  · unfold Wh.rest
    rw [List.mem_filter, R.wl t h]
    simp only [decide_eq_true_eq]
    constructor
    · rintro ⟨⟨x, c, hx, rfl⟩, l⟩; exact ⟨x, c, (wx x c h).2 ⟨hx, l⟩, rfl⟩
    · rintro ⟨x, c, hx, rfl⟩; obtain ⟨h1, h2⟩ := (wx x c h).1 hx; exact ⟨⟨x, c, h1, rfl⟩, h2⟩
  · have h1 := due_rest_len g to A
    have h2 := wdue_rest_len to L
    have h3 := R.due_len (to := to) hL
    have h4 := R.len
    omega
end

end Go.Proofs.Ytckmkagijanbdaa.Al
