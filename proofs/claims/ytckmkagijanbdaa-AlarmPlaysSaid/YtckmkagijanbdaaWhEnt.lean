/- Plain: the times of a wheel in their order: what is added, taken away, told. No Go text is spoken of here. -/
import Derived.Test.YtckmkagijanbdaaWhMath
namespace Go.Proofs.Ytckmkagijanbdaa.Wh
open Tk Sl

def lt2 (x y : Int × Int) : Prop := x.1 < y.1 ∨ (x.1 = y.1 ∧ x.2 < y.2)
theorem lt2_irrefl (x : Int × Int) : ¬ lt2 x x := fun h => by unfold lt2 at h; omega
theorem lt2_trans {x y z : Int × Int} (h : lt2 x y) (k : lt2 y z) : lt2 x z := by unfold lt2 at *; omega

/-- L: the times of T with their handles, by times, and of one time by handles -/
structure Ent (L : List (Int × Int)) (T : Int → Option Tm) : Prop where
  mem : ∀ a h, (a, h) ∈ L ↔ ∃ t, T h = some t ∧ t.at_ = a
  ord : L.Pairwise lt2

def ins (a h : Int) (L : List (Int × Int)) : List (Int × Int) := L.filter (fun e => decide (e.1 ≤ a)) ++ (a, h) :: L.filter (fun e => decide (a < e.1))
def del (h : Int) (L : List (Int × Int)) : List (Int × Int) := L.filter fun e => decide (e.2 ≠ h)
def due (to : Int) (L : List (Int × Int)) : List (Int × Int) := L.filter fun e => decide (e.1 ≤ to)
def rest (to : Int) (L : List (Int × Int)) : List (Int × Int) := L.filter fun e => decide (to < e.1)

theorem ent_none {T : Int → Option Tm} (h : ∀ x, T x = none) : Ent [] T :=
  ⟨fun a x => by simp [h x], List.Pairwise.nil⟩

section
variable {L : List (Int × Int)} {T : Int → Option Tm}

theorem Ent.congr (E : Ent L T) {U : Int → Option Tm} (h : ∀ x, (U x).map Tm.at_ = (T x).map Tm.at_) : Ent L U := by
  refine ⟨fun a x => (E.mem a x).trans ?_, E.ord⟩
  have := h x
  constructor
  · rintro ⟨t, ht, rfl⟩
    rw [ht] at this
    cases hu : U x with
    | none => rw [hu] at this; cases this
    | some u => rw [hu] at this; exact ⟨u, rfl, Option.some.inj this⟩
  · rintro ⟨t, ht, rfl⟩
    rw [ht] at this
    cases hu : T x with
    | none => rw [hu] at this; cases this
    | some u => rw [hu] at this; exact ⟨u, rfl, (Option.some.inj this).symm⟩

theorem Ent.handle_iff (E : Ent L T) (h : Int) : h ∈ L.map Prod.snd ↔ T h ≠ none := by
  constructor
  · intro hm
    obtain ⟨⟨a, x⟩, hx, rfl⟩ := List.mem_map.1 hm
    obtain ⟨t, ht, _⟩ := (E.mem a x).1 hx
    intro c; rw [c] at ht; cases ht
  · intro hn
    cases ht : T h with
    | none => exact absurd ht hn
    | some t => exact List.mem_map.2 ⟨(t.at_, h), (E.mem _ _).2 ⟨t, ht, rfl⟩, rfl⟩

/-- a list of handles that all differ, and all are there, is no longer than all there are -/
theorem len_le : ∀ (l m : List Int), l.Nodup → (∀ x ∈ l, x ∈ m) → l.length ≤ m.length
  | [], _, _, _ => by simp
  | x :: l, m, hn, hm => by
    obtain ⟨h1, h2⟩ := List.nodup_cons.1 hn
    have hx : x ∈ m := hm x (by simp)
    have hsub : ∀ y ∈ l, y ∈ m.erase x := fun y hy => by
      have hne : y ≠ x := fun e => h1 (e ▸ hy)
      exact (List.mem_erase_of_ne hne).2 (hm y (by simp [hy]))
    have := len_le l (m.erase x) h2 hsub
    rw [List.length_erase_of_mem hx] at this
    have hpos : 0 < m.length := List.length_pos_of_mem hx
    simp; omega

theorem Ent.count (E : Ent L T) {l : List Int} (hn : l.Nodup) (h : ∀ x ∈ l, T x ≠ none) : l.length ≤ L.length := by
  have := len_le l (L.map Prod.snd) hn (fun x hx => (E.handle_iff x).2 (h x hx))
  simpa using this

theorem Ent.handles_nodup (E : Ent L T) : (L.map Prod.snd).Nodup := by
  rw [List.nodup_iff_pairwise_ne, List.pairwise_map]
  refine E.ord.imp_of_mem ?_
  rintro ⟨a, x⟩ ⟨b, y⟩ h1 h2 hlt e
  obtain ⟨t, ht, h3⟩ := (E.mem a x).1 h1
  obtain ⟨u, hu, h4⟩ := (E.mem b y).1 h2
  simp only at e; subst e
  rw [ht] at hu
  obtain rfl := Option.some.inj hu
  unfold lt2 at hlt; simp only at hlt; omega

theorem Ent.ins (E : Ent L T) {a h : Int} {t : Tm} (hfree : T h = none) (ha : t.at_ = a) (hmax : ∀ x, T x ≠ none → x < h) : Ent (ins a h L) (upd T h (some t)) := by
  have hh : ∀ e ∈ L, e.2 < h := fun e he => hmax _ ((E.handle_iff e.2).1 (List.mem_map_of_mem he))
  constructor
  · intro b x
    unfold Wh.ins
    rw [List.mem_append, List.mem_cons, List.mem_filter, List.mem_filter]
    by_cases e : x = h
    · subst e
      rw [upd_same]
      constructor
      · rintro (⟨hm, _⟩ | hm | ⟨hm, _⟩)
        · have := hh _ hm; simp at this
        · exact ⟨t, rfl, by rw [ha]; exact (congrArg Prod.fst hm).symm⟩
        · have := hh _ hm; simp at this
      · rintro ⟨u, hu, rfl⟩
        obtain rfl := Option.some.inj hu
        exact Or.inr (Or.inl (by rw [ha]))
    · rw [upd_other _ _ e, ← E.mem b x]
      constructor
      · rintro (⟨hm, _⟩ | hm | ⟨hm, _⟩)
        · exact hm
        · exact absurd (congrArg Prod.snd hm) e
        · exact hm
      · intro hm
        by_cases hc : b ≤ a
        · exact Or.inl ⟨hm, by simpa using hc⟩
        · exact Or.inr (Or.inr ⟨hm, by simp; omega⟩)
  · unfold Wh.ins
    rw [List.pairwise_append]
    refine ⟨E.ord.filter _, List.pairwise_cons.2 ⟨fun e he => ?_, E.ord.filter _⟩, fun e he f hf => ?_⟩
    · have := (List.mem_filter.1 he).2
      simp at this; unfold lt2; simp only; omega
    · obtain ⟨h1, h2⟩ := List.mem_filter.1 he
      simp at h2
      have := hh e h1
      rcases List.mem_cons.1 hf with rfl | hf
      · unfold lt2; simp only; omega
      · have h4 := (List.mem_filter.1 hf).2
        simp at h4
        unfold lt2; omega

theorem filter_split (L : List (Int × Int)) (a : Int) : (L.filter (fun e => decide (e.1 ≤ a))).length + (L.filter (fun e => decide (a < e.1))).length = L.length := by
  induction L with
  | nil => rfl
  | cons e L ih =>
    rw [List.filter_cons, List.filter_cons]
    by_cases h : e.1 ≤ a
    · rw [if_pos (by simpa using h), if_neg (by simp; omega)]; simp; omega
    · rw [if_neg (by simpa using h), if_pos (by simp; omega)]; simp; omega
theorem ins_length (a h : Int) (L : List (Int × Int)) : (ins a h L).length = L.length + 1 := by
  have := filter_split L a
  unfold ins; simp only [List.length_append, List.length_cons]; omega
theorem due_rest (to : Int) (L : List (Int × Int)) : (due to L).length + (rest to L).length = L.length := filter_split L to

theorem Ent.del (E : Ent L T) (h : Int) : Ent (del h L) (upd T h none) := by
  constructor
  · intro a x
    unfold Wh.del
    rw [List.mem_filter]
    by_cases e : x = h
    · subst e; rw [upd_same]; simp
    · rw [upd_other _ _ e, ← E.mem a x]; simp [e]
  · exact E.ord.filter _

theorem filter_ne_length {α : Type} [DecidableEq α] : ∀ (l : List α) (x : α), l.Nodup → x ∈ l → (l.filter fun e => decide (e ≠ x)).length + 1 = l.length
  | [], _, _, h => by simp at h
  | y :: l, x, hn, h => by
    obtain ⟨h1, h2⟩ := List.nodup_cons.1 hn
    rw [List.filter_cons]
    by_cases e : y = x
    · subst e
      rw [if_neg (by simp)]
      have : l.filter (fun e => decide (e ≠ y)) = l := List.filter_eq_self.2 fun z hz => by
        simp; intro c; subst c; exact h1 hz
      rw [this]; simp
    · rw [if_pos (by simpa using e)]
      have hm : x ∈ l := by
        rcases List.mem_cons.1 h with c | c
        · exact absurd c.symm e
        · exact c
      have := filter_ne_length l x h2 hm
      rw [List.length_cons, List.length_cons, ← this]
theorem del_length (E : Ent L T) {h : Int} (hh : T h ≠ none) : (Wh.del h L).length + 1 = L.length := by
  have h1 := filter_ne_length (L.map Prod.snd) h E.handles_nodup ((E.handle_iff h).2 hh)
  rw [List.filter_map, List.length_map, List.length_map] at h1
  exact h1
theorem del_none (E : Ent L T) {h : Int} (hh : T h = none) : Wh.del h L = L := by
  refine List.filter_eq_self.2 fun e he => ?_
  have := (E.handle_iff e.2).1 (List.mem_map_of_mem he)
  simp; intro c; rw [c] at this; exact this hh

theorem Ent.rest (E : Ent L T) (to : Int) {U : Int → Option Tm} (h1 : ∀ x t, T x = some t → t.at_ ≤ to → U x = none) (h2 : ∀ x, (∀ t, T x = some t → to < t.at_) → (U x).map Tm.at_ = (T x).map Tm.at_) : Ent (rest to L) U := by
  constructor
  · intro a x
    unfold Wh.rest
    rw [List.mem_filter, E.mem a x]
    constructor
    · rintro ⟨⟨t, ht, rfl⟩, hc⟩
      simp only [decide_eq_true_eq] at hc
      have := h2 x (fun u hu => by rw [ht] at hu; obtain rfl := Option.some.inj hu; exact hc)
      rw [ht] at this
      cases hu : U x with
      | none => rw [hu] at this; cases this
      | some u => rw [hu] at this; exact ⟨u, rfl, Option.some.inj this⟩
    · rintro ⟨u, hu, rfl⟩
      cases ht : T x with
      | none =>
        have := h2 x (fun t h => by rw [ht] at h; cases h)
        rw [ht, hu] at this; cases this
      | some t =>
        by_cases hc : t.at_ ≤ to
        · rw [h1 x t ht hc] at hu; cases hu
        · have := h2 x (fun v hv => by rw [ht] at hv; obtain rfl := Option.some.inj hv; omega)
          rw [ht, hu] at this
          have := Option.some.inj this
          exact ⟨⟨t, rfl, by omega⟩, by simp; omega⟩
  · exact E.ord.filter _

/-- sorted lists of the same things are one -/
theorem sorted_one {α : Type} {r : α → α → Prop} (irr : ∀ x, ¬ r x x) (tr : ∀ x y z, r x y → r y z → r x z) : ∀ (l m : List α), l.Pairwise r → m.Pairwise r → (∀ x, x ∈ l ↔ x ∈ m) → l = m
  | [], [], _, _, _ => rfl
  | [], y :: m, _, _, h => by have := (h y).2 (by simp); simp at this
  | x :: l, [], _, _, h => by have := (h x).1 (by simp); simp at this
  | x :: l, y :: m, hl, hm, h => by
    obtain ⟨l1, l2⟩ := List.pairwise_cons.1 hl
    obtain ⟨m1, m2⟩ := List.pairwise_cons.1 hm
    have e : x = y := by
      rcases List.mem_cons.1 ((h x).1 (by simp)) with e | hx
      · exact e
      · rcases List.mem_cons.1 ((h y).2 (by simp)) with e | hy
        · exact e.symm
        · exact absurd (tr _ _ _ (l1 y hy) (m1 x hx)) (irr x)
    subst e
    congr 1
    refine sorted_one irr tr l m l2 m2 (fun z => ?_)
    constructor
    · intro hz
      rcases List.mem_cons.1 ((h z).1 (by simp [hz])) with e | hz'
      · subst e; exact absurd (l1 z hz) (irr z)
      · exact hz'
    · intro hz
      rcases List.mem_cons.1 ((h z).2 (by simp [hz])) with e | hz'
      · subst e; exact absurd (m1 z hz) (irr z)
      · exact hz'

/-- the time of a handle; 0, where there is none (as the map tells it) -/
def tat (T : Int → Option Tm) (h : Int) : Int := ((T h).map Tm.at_).getD 0
def ltH (T : Int → Option Tm) (x y : Int) : Prop := lt2 (tat T x, x) (tat T y, y)
theorem tat_some {h : Int} {t : Tm} (e : T h = some t) : tat T h = t.at_ := by unfold tat; rw [e]; rfl

/-- WHAT IS TOLD: the handles of all times up to one, sorted -/
theorem Ent.told (E : Ent L T) (to : Int) {D : List Int} (hs : D.Pairwise (ltH T)) (hm : ∀ h, h ∈ D ↔ ∃ t, T h = some t ∧ t.at_ ≤ to) : D = (due to L).map Prod.snd := by
  refine sorted_one (r := ltH T) (fun x h => lt2_irrefl _ h) (fun x y z h k => lt2_trans h k) _ _ hs ?_ (fun x => ?_)
  · rw [List.pairwise_map]
    refine (E.ord.filter _).imp_of_mem ?_
    rintro ⟨a, x⟩ ⟨b, y⟩ h1 h2 h
    obtain ⟨t, ht, rfl⟩ := (E.mem a x).1 (List.mem_filter.1 h1).1
    obtain ⟨u, hu, rfl⟩ := (E.mem b y).1 (List.mem_filter.1 h2).1
    unfold ltH; simp only; rw [tat_some ht, tat_some hu]; exact h
  · rw [hm]
    constructor
    · rintro ⟨t, ht, hle⟩
      exact List.mem_map.2 ⟨(t.at_, x), List.mem_filter.2 ⟨(E.mem _ _).2 ⟨t, ht, rfl⟩, by simpa using hle⟩, rfl⟩
    · intro h
      obtain ⟨⟨a, y⟩, hy, rfl⟩ := List.mem_map.1 h
      obtain ⟨h1, h2⟩ := List.mem_filter.1 hy
      obtain ⟨t, ht, rfl⟩ := (E.mem a y).1 h1
      exact ⟨t, ht, by simpa using h2⟩
end

/-- WHAT IS CANCELLED: the last one of its list comes to its place -/
theorem Inv.cancel {now last : Int} {ls : Nat → List Int} {T : Int → Option Tm} (I : Inv now last ls T fun _ => False) {h m : Int} {t u : Tm} (ht : T h = some t) (hm : (ls t.list)[(ls t.list).length - 1]? = some m) (hu : T m = some u) :
    Inv now last (upd ls t.list (((ls t.list).set t.place m).take ((ls t.list).length - 1))) (upd (upd T m (some ⟨u.at_, t.list, t.place⟩)) h none) (fun _ => False) := by
  obtain ⟨p1, p2⟩ := I.pos h t ht (fun c => c)
  obtain ⟨n1, n2, n3, n4, n5, n6⟩ := I.nums h t ht
  obtain ⟨_, b, hb⟩ := I.back t.list _ m n5 hm
  rw [hu] at hb
  obtain rfl := Option.some.inj hb
  have hpl : t.place < (ls t.list).length := (List.getElem?_eq_some_iff.1 p1).1
  obtain ⟨_, q2⟩ := I.pos m _ hu (fun c => c)
  simp only at q2
  -- where a handle of this list stands, it is its own
  have own : ∀ p g, (ls t.list)[p]? = some g → g = m → p = (ls t.list).length - 1 := by
    intro p g hp e
    subst e
    obtain ⟨_, c, hc⟩ := I.back t.list p g n5 hp
    rw [hu] at hc
    exact (congrArg Tm.place (Option.some.inj hc)).symm
  have ownh : ∀ p g, (ls t.list)[p]? = some g → g = h → p = t.place := by
    intro p g hp e
    subst e
    obtain ⟨_, c, hc⟩ := I.back t.list p g n5 hp
    rw [ht] at hc
    exact (congrArg Tm.place (Option.some.inj hc)).symm
  refine ⟨I.now0, I.now1, fun g v hv => ?_, fun g v hv _ => ?_, fun l p g hl hp => ⟨fun c => c, ?_⟩⟩
  · by_cases e : g = h
    · subst e; rw [upd_same] at hv; cases hv
    · rw [upd_other _ _ e] at hv
      by_cases em : g = m
      · subst em; rw [upd_same] at hv; obtain rfl := Option.some.inj hv
        obtain ⟨k1, k2, k3, k4, _, _⟩ := I.nums g _ hu
        exact ⟨k1, k2, k3, k4, n5, n6⟩
      · rw [upd_other _ _ em] at hv; exact I.nums g v hv
  · by_cases e : g = h
    · subst e; rw [upd_same] at hv; cases hv
    · rw [upd_other _ _ e] at hv
      by_cases em : g = m
      · subst em; rw [upd_same] at hv; obtain rfl := Option.some.inj hv
        refine ⟨?_, q2⟩
        show (upd ls t.list _ t.list)[t.place]? = _
        rw [upd_same, List.getElem?_take]
        have hlt : t.place < (ls t.list).length - 1 := by
          rcases Nat.lt_or_ge t.place ((ls t.list).length - 1) with c | c
          · exact c
          · have : t.place = (ls t.list).length - 1 := by omega
            rw [this, hm] at p1
            exact absurd (Option.some.inj p1) e
        rw [if_pos hlt, List.getElem?_set_self hpl]
      · rw [upd_other _ _ em] at hv
        obtain ⟨r1, r2⟩ := I.pos g v hv (fun c => c)
        refine ⟨?_, r2⟩
        by_cases el : v.list = t.list
        · rw [el] at r1 ⊢
          rw [upd_same, List.getElem?_take]
          have hne : t.place ≠ v.place := fun c => e (by rw [← c, p1] at r1; exact (Option.some.inj r1).symm)
          have hlt : v.place < (ls t.list).length - 1 := by
            have hb := (List.getElem?_eq_some_iff.1 r1).1
            rcases Nat.lt_or_ge v.place ((ls t.list).length - 1) with c | c
            · exact c
            · have : v.place = (ls t.list).length - 1 := by omega
              rw [this, hm] at r1
              exact absurd (Option.some.inj r1).symm em
          rw [if_pos hlt, List.getElem?_set_ne hne]; exact r1
        · rw [upd_other _ _ el]; exact r1
  · by_cases el : l = t.list
    · subst el
      rw [upd_same, List.getElem?_take] at hp
      split at hp
      · rename_i hlt
        by_cases ep : p = t.place
        · subst ep
          rw [List.getElem?_set_self hpl] at hp
          obtain rfl := Option.some.inj hp
          have hmh : m ≠ h := fun e => by have := ownh _ m hm e; omega
          exact ⟨b, by rw [upd_other _ _ hmh, upd_same]⟩
        · rw [List.getElem?_set_ne (fun c => ep c.symm)] at hp
          obtain ⟨_, c, hc⟩ := I.back t.list p g hl hp
          have hgm : g ≠ m := fun e => by have := own p g hp e; omega
          have hgh : g ≠ h := fun e => ep (ownh p g hp e)
          exact ⟨c, by rw [upd_other _ _ hgh, upd_other _ _ hgm]; exact hc⟩
      · cases hp
    · rw [upd_other _ _ el] at hp
      obtain ⟨_, c, hc⟩ := I.back l p g hl hp
      have hgm : g ≠ m := fun e => by subst e; rw [hu] at hc; exact el (congrArg Tm.list (Option.some.inj hc)).symm
      have hgh : g ≠ h := fun e => by subst e; rw [ht] at hc; exact el (congrArg Tm.list (Option.some.inj hc)).symm
      exact ⟨c, by rw [upd_other _ _ hgh, upd_other _ _ hgm]; exact hc⟩

end Go.Proofs.Ytckmkagijanbdaa.Wh
