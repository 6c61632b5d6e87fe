/- What a wheel is while it goes on: handles that were taken out are found anew, or told; what is told is deleted. -/
import Derived.Test.YtckmkagijanbdaaWh3
import Derived.Test.YtckmkagijanbdaaWh5
namespace Go.Proofs.Ytckmkagijanbdaa.Wh
open Go.RowKit Tk Sl
open St (Kept)

/-- the handles of a list that are due -/
def dueOf (T : Int → Option Tm) (to : Int) (H : List Int) : List Int := H.filter fun h => decide (tat T h ≤ to)

section
variable {w wr w2 : World} {S S' : Nat → Prop} {B M : Nat} {now last to : Int} {T : Int → Option Tm} {L : List (Int × Int)} {H D : List Int} {v vd : Value} {k : Nat}

/-- of the handles H, which v holds, k were gone through; vd holds those that are due -/
structure AdvA (w : World) (S : Nat → Prop) (B M : Nat) (to last : Int) (T : Int → Option Tm) (L : List (Int × Int)) (H : List Int) (v vd : Value) (k : Nat) (wr : World) (S' : Nat → Prop) (sv : Nat → Value) (ls : Nat → List Int) (T' : Int → Option Tm) : Prop where
  is : Is wr S' B M to last sv ls T' L.length
  inv : Inv to last ls T' (fun h => h ∈ H.drop k ∨ h ∈ dueOf T to (H.take k))
  same : ∀ h, (T' h).map Tm.at_ = (T h).map Tm.at_
  rv : Row wr v H
  rd : Row wr vd (dueOf T to (H.take k))
  bv : ∀ g, v.ownBlock = some g → w.heap.size ≤ g ∧ ¬ S' g
  bd : ∀ g, vd.ownBlock = some g → w.heap.size ≤ g ∧ ¬ S' g
  ne : ∀ g, v.ownBlock = some g → vd.ownBlock ≠ some g
  sub : ∀ k, S' k → S k ∨ w.heap.size ≤ k
  fr : Fr S w wr

theorem tat_same {T' : Int → Option Tm} (h : ∀ x, (T' x).map Tm.at_ = (T x).map Tm.at_) (x : Int) : tat T' x = tat T x := by unfold tat; rw [h x]

theorem take_at {α : Type} {l : List α} {k : Nat} {x : α} (h : l[k]? = some x) : l.take (k + 1) = l.take k ++ [x] := by
  rw [List.take_add_one, h]; rfl
theorem drop_at {α : Type} {l : List α} {k : Nat} {x : α} (h : l[k]? = some x) : l.drop k = x :: l.drop (k + 1) := by
  obtain ⟨hl, hx⟩ := List.getElem?_eq_some_iff.1 h
  rw [List.drop_eq_getElem_cons hl, hx]
theorem due_take {x : Int} (h : H[k]? = some x) : dueOf T to (H.take (k + 1)) = dueOf T to (H.take k) ++ if tat T x ≤ to then [x] else [] := by
  unfold dueOf; rw [take_at h, List.filter_append]
  congr 1
  by_cases c : tat T x ≤ to <;> simp [c]

/-- a handle that is still to come was laid anew -/
theorem AdvA.laid {sv : Nat → Value} {ls : Nat → List Int} {T' : Int → Option Tm} (A : AdvA w S B M to last T L H v vd k wr S' sv ls T') (hn : H.Nodup) (E : Ent L T) (hL : L.length ≤ 4096) {x : Int} (hx : H[k]? = some x) (hc : to < tat T x) {t : Tm} (ht : T' x = some t) {l : Nat} (hl : l < 257) (hnum : (l : Int) = num to t.at_)
    (hd : Did wr S' B M to last (upd ls l (ls l ++ [x])) (upd T' x (some ⟨t.at_, l, (ls l).length⟩)) L.length w2) :
    ∃ S2 sv2, AdvA w S B M to last T L H v vd (k + 1) w2 S2 sv2 (upd ls l (ls l ++ [x])) (upd T' x (some ⟨t.at_, l, (ls l).length⟩)) := by
  obtain ⟨S2, sv2, d1, d2, d3⟩ := hd
  obtain ⟨n1, n2, n3, n4, _⟩ := A.inv.nums x t ht
  have hdk : dueOf T to (H.take (k + 1)) = dueOf T to (H.take k) := by rw [due_take hx, if_neg (by omega), List.append_nil]
  have hloose : x ∈ H.drop k ∨ x ∈ dueOf T to (H.take k) := Or.inl (by rw [drop_at hx]; simp)
  have hlen : (ls l).length < 4096 := by
    have h1 : (x :: ls l).Nodup := List.nodup_cons.2 ⟨fun c => (A.inv.has hl c).1 hloose, A.inv.list_nodup hl⟩
    have h2 := (E.congr A.same).count h1 (fun y hy => by
      rcases List.mem_cons.1 hy with rfl | hy
      · rw [ht]; simp
      · obtain ⟨_, b, p, hp, _⟩ := A.inv.has hl hy; rw [hp]; simp)
    simp at h2; omega
  have I2 := A.inv.lay hl hnum n1 n2 (Int.le_refl _) n3 n4 (Or.inl hloose) hlen
  have hnd : x ∉ H.drop (k + 1) := by
    have := (List.nodup_append.1 (by rw [List.take_append_drop (k + 1) H]; exact hn : (H.take (k + 1) ++ H.drop (k + 1)).Nodup)).2.2
    exact fun c => this x (by rw [take_at hx]; simp) x c rfl
  have hnt : x ∉ dueOf T to (H.take k) := fun c => by
    unfold dueOf at c
    have := (List.mem_filter.1 c).2
    simp at this; omega
  have hfar : ∀ u : Value, (∀ g, u.ownBlock = some g → w.heap.size ≤ g ∧ ¬ S' g) → ∀ m, Row wr u m → Row w2 u m ∧ ∀ g, u.ownBlock = some g → w.heap.size ≤ g ∧ ¬ S2 g := fun u hu m hr =>
    ⟨hr.kept fun g e => d3.block g (hr.lt e) (hu g e).2, fun g e => ⟨(hu g e).1, fun c => (d2 g c).elim (hu g e).2 (fun c => by have := hr.lt e; omega)⟩⟩
  refine ⟨S2, sv2, d1, I2.congr (fun y => ?_), fun y => ?_, (hfar v A.bv _ A.rv).1, by rw [hdk]; exact (hfar vd A.bd _ A.rd).1, (hfar v A.bv _ A.rv).2, (hfar vd A.bd _ A.rd).2, A.ne, fun g c => ?_, A.fr.trans d3 A.sub⟩
  · rw [hdk, drop_at hx, List.mem_cons]
    constructor
    · rintro (c | c)
      · exact ⟨Or.inl (Or.inr c), fun e => hnd (e ▸ c)⟩
      · exact ⟨Or.inr c, fun e => hnt (e ▸ c)⟩
    · rintro ⟨(c | c) | c, e⟩
      · exact absurd c e
      · exact Or.inl c
      · exact Or.inr c
  · by_cases c : y = x
    · subst c; rw [upd_same, ← A.same y, ht]; rfl
    · rw [upd_other _ _ c]; exact A.same y
  · rcases d2 g c with c | c
    · exact A.sub g c
    · have := A.fr.size; exact Or.inr (by omega)

/-- a handle that is due was appended -/
theorem AdvA.dued {sv : Nat → Value} {ls : Nat → List Int} {T' : Int → Option Tm} (A : AdvA w S B M to last T L H v vd k wr S' sv ls T') {x : Int} (hx : H[k]? = some x) (hc : tat T x ≤ to) {W : World} (hW : Kept wr W) {vd2 : Value} (hr : Row w2 vd2 (dueOf T to (H.take k) ++ [x]))
    (hg : W.grownBy w2 vd.ownBlock) (hb : vd2.ownBlock = vd.ownBlock ∨ ∃ g, vd2.ownBlock = some g ∧ wr.heap.size ≤ g) : AdvA w S B M to last T L H v vd2 (k + 1) w2 S' sv ls T' := by
  have hdk : dueOf T to (H.take (k + 1)) = dueOf T to (H.take k) ++ [x] := by rw [due_take hx, if_pos hc]
  have hF : Fr (fun g => some g = vd.ownBlock) wr w2 := (Fr.kept hW).grown hg (fun k e => Or.inl e.symm)
  refine ⟨A.is.fr hF (fun g c e => (A.bd g e.symm).2 c), A.inv.congr (fun y => ?_), A.same, A.rv.kept fun g e => hF.block g (A.rv.lt e) (fun c => A.ne g e c.symm), by rw [hdk]; exact hr, A.bv, fun g e => ?_, fun g e f => ?_, A.sub, A.fr.trans hF (fun g c => Or.inr (A.bd g c.symm).1)⟩
  · rw [hdk, drop_at hx]
    simp only [List.mem_append, List.mem_cons, List.not_mem_nil, or_false]
    constructor
    · rintro (c | c | c)
      · exact Or.inl (Or.inr c)
      · exact Or.inr c
      · exact Or.inl (Or.inl c)
    · rintro ((c | c) | c)
      · exact Or.inr (Or.inr c)
      · exact Or.inl c
      · exact Or.inr (Or.inl c)
  · rcases hb with c | ⟨g', c, hg'⟩
    · exact A.bd g (c ▸ e)
    · rw [c] at e; obtain rfl := Option.some.inj e
      have := A.fr.size
      exact ⟨by omega, fun c => by have := A.is.sLt _ c; omega⟩
  · rcases hb with c | ⟨g', c, hg'⟩
    · exact A.ne g e (c ▸ f)
    · rw [c] at f; obtain rfl := Option.some.inj f
      have := A.rv.lt e; omega

/-- of the handles D, which vd holds, k were deleted -/
structure AdvB (w : World) (S : Nat → Prop) (B M : Nat) (to last : Int) (T : Int → Option Tm) (L : List (Int × Int)) (D : List Int) (vd : Value) (k : Nat) (wr : World) (S' : Nat → Prop) (sv : Nat → Value) (ls : Nat → List Int) (T' : Int → Option Tm) : Prop where
  is : Is wr S' B M to last sv ls T' (L.length - k)
  inv : Inv to last ls T' (fun h => h ∈ D.drop k)
  same : ∀ h, (T' h).map Tm.at_ = if h ∈ D.take k then none else (T h).map Tm.at_
  rd : Row wr vd D
  bd : ∀ g, vd.ownBlock = some g → w.heap.size ≤ g ∧ ¬ S' g
  sub : ∀ k, S' k → S k ∨ w.heap.size ≤ k
  fr : Fr S w wr

theorem AdvB.gone {sv : Nat → Value} {ls : Nat → List Int} {T' : Int → Option Tm} (A : AdvB w S B M to last T L D vd k wr S' sv ls T') (hn : D.Nodup) {x : Int} (hx : D[k]? = some x) (hm : MapIs w2 M (upd T' x none) (L.length - k - 1)) (ht : wr.mapTurned w2 M) :
    AdvB w S B M to last T L D vd (k + 1) w2 S' sv ls (upd T' x none) := by
  have hg := ht.grown
  have h1 := A.is.setM ht hm
  have hdrop : x ∈ D.drop k := by rw [drop_at hx]; simp
  have hnd : x ∉ D.drop (k + 1) := by
    have := (List.nodup_append.1 (by rw [List.take_append_drop (k + 1) D]; exact hn : (D.take (k + 1) ++ D.drop (k + 1)).Nodup)).2.2
    exact fun c => this x (by rw [take_at hx]; simp) x c rfl
  refine ⟨by rw [show L.length - (k + 1) = L.length - k - 1 by omega]; exact h1, (A.inv.drop hdrop).congr (fun y => ?_), fun y => ?_, A.rd.kept fun g e => hg.block g (A.rd.lt e) (fun c => (A.bd g e).2 (by rw [Option.some.inj c]; exact A.is.sM)), A.bd, A.sub, A.fr.turned ht (A.sub M A.is.sM)⟩
  · rw [drop_at hx, List.mem_cons]
    constructor
    · exact fun c => ⟨Or.inr c, fun e => hnd (e ▸ c)⟩
    · rintro ⟨c | c, e⟩
      · exact absurd c e
      · exact c
  · rw [take_at hx]
    by_cases c : y = x
    · subst c; rw [upd_same, if_pos (by simp)]; rfl
    · rw [upd_other _ _ c, A.same y]; simp [c]

/-- what was found when the lists that begin were taken out -/
structure Took (now to last : Int) (T : Int → Option Tm) (L : List (Int × Int)) (H : List Int) : Prop where
  nodup : H.Nodup
  has : ∀ h ∈ H, T h ≠ none
  later : ∀ h t, T h = some t → h ∉ H → to < t.at_
  inr : ∀ h ∈ H, 1 ≤ h ∧ h ≤ last
  len : H.length ≤ L.length

theorem Gath.took (h : Gath w S B M now last to T L (fun _ => True) v wr) (E : Ent L T) (h1 : now ≤ to) (h2 : to ≤ 1125899906842624) :
    ∃ S' sv ls H, Took now to last T L H ∧ AdvA w S B M to last T L H v (.slice none 0 0) 0 (wr.setCell ⟨B, 1, none⟩ (.int .i64 to)) S' sv ls T := by
  obtain ⟨S', sv, ls, H, g1, g2, g3, g4, g5, g6, g7, g8, g9⟩ := h
  have hb : ∀ l, l < 257 → beg now to l → ls l = [] := fun l hl hbg => g9 l hl trivial hbg
  have hneB : ∀ g, v.ownBlock = some g → g ≠ B := fun g e c => (g6 g e).2 (c ▸ g1.sB)
  refine ⟨S', sv, ls, H, ⟨g3, g4, fun h t ht hn => g2.later h1 h2 hb ht hn, fun h hh => ?_, E.count g3 g4⟩,
    g1.set1 to, (g2.go h1 h2 hb).congr (fun x => by simp [dueOf]), fun _ => rfl, g5.kept fun g e => Below.heap_setCell _ _ _ _ (hneB g e), row_nil _, g6, fun g e => by simp [Value.ownBlock] at e, fun g _ e => by simp [Value.ownBlock] at e, g7, g8.setCell (g7 B g1.sB) _⟩
  cases ht : T h with
  | none => exact absurd ht (g4 h hh)
  | some t => obtain ⟨a, b, _⟩ := g2.nums h t ht; exact ⟨a, b⟩

theorem AdvA.ordered {w3 : World} {sv : Nat → Value} {ls : Nat → List Int} {T' : Int → Option Tm} (A : AdvA w S B M to last T L H v vd H.length wr S' sv ls T') {D' : List Int} (hm : ∀ x, x ∈ D' ↔ x ∈ dueOf T to H) (hr : Row w3 vd D') (hF : Fr (fun k => vd.ownBlock = some k) wr w3) :
    AdvB w S B M to last T' L D' vd 0 w3 S' sv ls T' := by
  have hl : H.take H.length = H := List.take_length
  refine ⟨A.is.fr hF (fun g c e => (A.bd g e).2 c), A.inv.congr (fun y => ?_), fun y => by simp, hr, A.bd, A.sub, A.fr.trans hF (fun g c => Or.inr (A.bd g c).1)⟩
  rw [hl, List.drop_length, List.drop_zero, hm]
  simp

/-- what Advance does -/
def advances (w : World) (S : Nat → Prop) (B : Nat) (last : Int) (L : List (Int × Int)) (to : Int) : Ending → World → Prop := fun e w' =>
  ∃ v S', e = .returned v ∧ Row w' v ((due to L).map Prod.snd) ∧ Whl w' S' B to last (rest to L) ∧ (∀ k, S' k → S k ∨ w.heap.size ≤ k) ∧ Fr S w w' ∧ ∀ g, v.ownBlock = some g → w.heap.size ≤ g ∧ ¬ S' g

theorem AdvB.done {sv : Nat → Value} {ls : Nat → List Int} {T1 T' : Int → Option Tm} (A : AdvB w S B M to last T1 L D vd D.length wr S' sv ls T') (K : Took now to last T L H) (E : Ent L T) (hsame : ∀ x, (T1 x).map Tm.at_ = (T x).map Tm.at_) (b : 0 ≤ last ∧ last ≤ 1152921504606846976 ∧ L.length ≤ 4096)
    (hs : D.Pairwise (ltH T1)) (hm : ∀ x, x ∈ D ↔ x ∈ dueOf T to H) : advances w S B last L to (.returned vd) wr := by
  have hmem : ∀ h, h ∈ D ↔ ∃ t, T h = some t ∧ t.at_ ≤ to := fun h => by
    rw [hm]; unfold dueOf; rw [List.mem_filter]
    constructor
    · rintro ⟨c, d⟩
      cases ht : T h with
      | none => exact absurd ht (K.has h c)
      | some t => rw [tat_some ht] at d; exact ⟨t, rfl, by simpa using d⟩
    · rintro ⟨t, ht, hle⟩
      refine ⟨?_, by rw [tat_some ht]; simpa using hle⟩
      by_cases c : h ∈ H
      · exact c
      · have := K.later h t ht c; omega
  have hs' : D.Pairwise (ltH T) := hs.imp fun {x y} h => by unfold ltH at *; rw [tat_same hsame, tat_same hsame] at h; exact h
  have hD := E.told to hs' hmem
  have hlen : D.length = (due to L).length := by rw [hD]; simp
  have hsum := due_rest to L
  have htake : ∀ h, h ∈ D.take D.length ↔ h ∈ D := fun h => by rw [List.take_length]
  have E' : Ent (rest to L) T' := E.rest to (fun x t ht hle => by
      have := A.same x
      rw [if_pos ((htake x).2 ((hmem x).2 ⟨t, ht, hle⟩))] at this
      cases hx : T' x with
      | none => rfl
      | some u => rw [hx] at this; cases this) (fun x hx => by
      have := A.same x
      rw [if_neg (fun c => by obtain ⟨t, ht, hle⟩ := (hmem x).1 ((htake x).1 c); have := hx t ht; omega)] at this
      exact this.trans (hsame x))
  refine ⟨vd, S', rfl, by rw [← hD]; exact A.rd, ⟨M, sv, ls, T', ?_, A.inv.congr (fun x => by simp), E', b.1, b.2.1, by omega⟩, A.sub, A.fr, A.bd⟩
  rw [show (rest to L).length = L.length - D.length by omega]; exact A.is
end

end Go.Proofs.Ytckmkagijanbdaa.Wh
