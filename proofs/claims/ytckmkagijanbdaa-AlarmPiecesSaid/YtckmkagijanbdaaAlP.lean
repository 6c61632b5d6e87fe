/- Asking at once, or in steps: what is told is the same names (plain); two lots of alarms on their way through the law. -/
import Derived.Test.YtckmkagijanbdaaAl10
import Derived.Test.YtckmkagijanbdaaArgR
namespace Go.Proofs.Ytckmkagijanbdaa.Al
open Go.RowKit Go.Sort Tk Wh IdM
open St (Kept blk_cell blk_free blk_lt blk_set)
open Args (Ints Als)
set_option linter.unusedVariables false

/-- the first j alarms laid, one behind the other -/
def laidA (G : Nat → Nm × Int) : Nat → List (Nm × Int)
  | 0 => []
  | j + 1 => put (G j).1 (clamp (G j).2) (laidA G j)
theorem laidA_ord (G : Nat → Nm × Int) : ∀ j, (laidA G j).Pairwise ltA
  | 0 => List.Pairwise.nil
  | j + 1 => ord_put (laidA_ord G j)
theorem laidA_len (G : Nat → Nm × Int) : ∀ j, (laidA G j).length ≤ j
  | 0 => Nat.le_refl _
  | j + 1 => by have := put_len_le (laidA_ord G j) (G j).1 (clamp (G j).2); have := laidA_len G j; unfold laidA; omega

theorem due_perm (g : Int) {n m : Int} (h : n ≤ m) (A : List (Nm × Int)) : (dueA g n A ++ dueA g m (restA g n A)).Perm (dueA g m A) := by
  unfold dueA restA
  induction A with
  | nil => exact List.Perm.refl _
  | cons e A ih =>
    rw [List.filter_cons, List.filter_cons]
    by_cases c : up e.2 g ≤ n
    · rw [if_pos (by simpa using c), if_neg (by simp; omega), List.filter_cons, if_pos (by simp; omega), List.cons_append]
      exact ih.cons e
    · rw [if_neg (by simpa using c), if_pos (by simp; omega), List.filter_cons, List.filter_cons]
      by_cases d : up e.2 g ≤ m
      · rw [if_pos (by simpa using d), if_pos (by simpa using d)]
        exact List.perm_middle.trans (ih.cons e)
      · rw [if_neg (by simpa using d), if_neg (by simpa using d)]; exact ih
theorem rest_rest (g : Int) {n m : Int} (h : n ≤ m) (A : List (Nm × Int)) : restA g m (restA g n A) = restA g m A := by
  unfold restA
  rw [List.filter_filter]
  congr 1
  funext e
  by_cases c : m < up e.2 g
  · have : n < up e.2 g := by omega
    simp [c, this]
  · simp [c]

/-- the names that are due -/
def dN (g m : Int) (A : List (Nm × Int)) : List Nm := (dueA g m A).map Prod.fst
/-- what was told so far, step by step -/
def PcA (g : Int) (A : List (Nm × Int)) (n : Int) (P : List Nm) (Lb : List (Nm × Int)) : Prop :=
  (P = [] ∧ Lb = A) ∨ (P.Perm (dN g n A) ∧ Lb = restA g n A)
theorem PcA.step {g n m : Int} {A Lb : List (Nm × Int)} {P : List Nm} (h : PcA g A n P Lb) (hm : n ≤ m) : (P ++ dN g m Lb).Perm (dN g m A) ∧ restA g m Lb = restA g m A := by
  rcases h with ⟨rfl, rfl⟩ | ⟨h1, rfl⟩
  · exact ⟨List.Perm.refl _, rfl⟩
  · refine ⟨(h1.append_right _).trans ?_, rest_rest g hm A⟩
    have := (due_perm g hm A).map Prod.fst
    rw [List.map_append] at this; exact this
theorem PcA.len {g n : Int} {A Lb : List (Nm × Int)} {P : List Nm} (h : PcA g A n P Lb) : P.length + Lb.length = A.length := by
  rcases h with ⟨rfl, rfl⟩ | ⟨h1, rfl⟩
  · simp
  · rw [h1.length_eq]; unfold dN; rw [List.length_map]; exact due_rest_len g n A

/-- 'append(v, u...)', both the call's own -/
theorem wpList_append_rowsi {st et : TypeId} {k : Nat} (R : RowT st et k) (w : World) {ops : Array Oper} {rest : List Oper} {o : Oper} {a : Act} {Q : Exit → Act → World → Prop} (hgd : o.guard = none) (s x : Operand)
    (ho : o.op = .call { callee := .builtin .append, args := #[s, x], argTypes := #[st, st] }) (v u : Value) (H K : List (List Int)) (hs : a.eval s = v) (hx : a.eval x = u) (hv' : RowI w v et k H) (hu : RowI w u et k K) (hn : H.length + K.length ≤ 1000000)
    (h : ∀ v2 w2, RowI w2 v2 et k (H ++ K) → w.grownBy w2 v.ownBlock → (v2.ownBlock = v.ownBlock ∨ ∃ g, v2.ownBlock = some g ∧ w.heap.size ≤ g) → wpList Try.prog ops Q rest (a.put o.dst v2) w2) : wpList Try.prog ops Q (o :: rest) a w := by
  obtain ⟨i0, hi, hz0, hz1, hz2⟩ := info_parts R.info
  rcases hu.1.2 with ⟨hu1, hu2⟩ | ⟨g, cap, cur, hu1, _, hgg, h1, h2, h3, h4⟩
  · have hK : K = [] := List.length_eq_zero_iff.mp hu2
    subst hK
    rw [List.append_nil] at h
    exact wpList_append_own_none hgd s x st ho 0 et i0 k R.us hi v H.length (fl H) hs hv'.1 (hx.trans hu1) (h v w hv' ⟨rfl, rfl, rfl, Nat.le_refl _, fun _ _ _ => rfl⟩ (Or.inl rfl))
  · refine wpList_append_rowi R w hgd s x ho v u H K hs hx hv' ⟨⟨g, 0, none⟩, cap, hu1, fun j y hj => ?_⟩ hu.2 hn h
    rw [addr_add, Nat.zero_add, blk_cell hgg, ← Array.getElem?_toList]
    rw [← h4, List.getElem?_take] at hj
    split at hj
    · exact hj
    · cases hj

/-- two lots of alarms, so far -/
def P2 (W : World) (A B : Nat) (g na la : Int) (La : List (Nm × Int)) (nb lb : Int) (Lb : List (Nm × Int)) (u : World) : Prop := ∃ Sa Sb, Tw W A B g na la La g nb lb Lb u Sa Sb
section
variable {W u u' : World} {A B : Nat} {g na la nb lb : Int} {La Lb : List (Nm × Int)} {n i s a k t : Int}
theorem P2.kept (h : P2 W A B g na la La nb lb Lb u) : Kept W u := by obtain ⟨_, _, T⟩ := h; exact T.ka.kept
theorem P2.go (h : P2 W A B g na la La nb lb Lb u) (hk : Kept u u') : P2 W A B g na la La nb lb Lb u' := by obtain ⟨Sa, Sb, T⟩ := h; exact ⟨Sa, Sb, T.go hk⟩
theorem P2.setA (h : P2 W A B g na la La nb lb Lb u) (hx : okN ⟨n, i, s, a, k⟩) (hl : La.length < 4096) (hla : la < 1152921504606846976) :
    Calls Try.prog 16 #[.pointer (some ⟨A, 0, none⟩), .agg #[.int .i64 n, .int .i64 i, .int .i64 s, .int .i64 a, .int .i64 k], .int .i64 t] u fun e u' => e = .returned (.int .i64 0) ∧ P2 W A B g na (la + 1) (put ⟨n, i, s, a, k⟩ (clamp t) La) nb lb Lb u' := by
  obtain ⟨Sa, Sb, T⟩ := h
  refine (set_room (t := t) T.a hx (Nat.lt_of_le_of_lt (List.length_filter_le _ _) hl) hla).mono ?_
  rintro e u' ⟨rfl, S', h, s, f⟩
  exact ⟨rfl, _, _, T.left h s f⟩
theorem P2.setB (h : P2 W A B g na la La nb lb Lb u) (hx : okN ⟨n, i, s, a, k⟩) (hl : Lb.length < 4096) (hlb : lb < 1152921504606846976) :
    Calls Try.prog 16 #[.pointer (some ⟨B, 0, none⟩), .agg #[.int .i64 n, .int .i64 i, .int .i64 s, .int .i64 a, .int .i64 k], .int .i64 t] u fun e u' => e = .returned (.int .i64 0) ∧ P2 W A B g na la La nb (lb + 1) (put ⟨n, i, s, a, k⟩ (clamp t) Lb) u' := by
  obtain ⟨Sa, Sb, T⟩ := h
  refine (set_room (t := t) T.b hx (Nat.lt_of_le_of_lt (List.length_filter_le _ _) hl) hlb).mono ?_
  rintro e u' ⟨rfl, S', h, s, f⟩
  exact ⟨rfl, _, _, T.right h s f⟩
end

/-- the second lot goes on in steps: what it told lies in the slice vp -/
def Pw (W : World) (A B : Nat) (g last : Int) (L : List (Nm × Int)) (nb : Int) (P : List Nm) (vp : Value) (w : World) : Prop :=
  ∃ Sa Sb Lb, Tw W A B g 0 last L g nb last Lb w Sa Sb ∧ PcA g L nb P Lb ∧ RowI w vp 42 5 (P.map Nm.ints) ∧ ∀ b, vp.ownBlock = some b → W.heap.size ≤ b ∧ ¬ Sa b ∧ ¬ Sb b
/-- the second lot has told, and that is to be appended -/
def Mid (W : World) (A B : Nat) (g last : Int) (L : List (Nm × Int)) (m : Int) (vp : Value) (w' : World) (v5 : Value) : Prop :=
  ∃ P D, RowI w' vp 42 5 (P.map Nm.ints) ∧ RowI w' v5 42 5 (D.map Nm.ints) ∧ P.length + D.length ≤ 1000000 ∧ (P ++ D).Perm (dN g m L) ∧
    ∀ vp2 w2, RowI w2 vp2 42 5 (P.map Nm.ints ++ D.map Nm.ints) → w'.grownBy w2 vp.ownBlock → (vp2.ownBlock = vp.ownBlock ∨ ∃ g, vp2.ownBlock = some g ∧ w'.heap.size ≤ g) → Pw W A B g last L m (P ++ D) vp2 w2
section
variable {W w w' : World} {A B : Nat} {g nb last m : Int} {L Lb : List (Nm × Int)} {P : List Nm} {vp : Value} {Sa Sb S' : Nat → Prop}
theorem Pw.kept (h : Pw W A B g last L nb P vp w) : Kept W w := by obtain ⟨_, _, _, T, _⟩ := h; exact T.ka.kept
theorem Pw.go (hm : nb ≤ m) (T : Tw W A B g 0 last L g nb last Lb w Sa Sb) (hp : PcA g L nb P Lb) (hb : ∀ b, vp.ownBlock = some b → W.heap.size ≤ b ∧ ¬ Sa b ∧ ¬ Sb b)
    (hw : Alm w' S' B g m last (restA g m Lb)) (hss : ∀ k, S' k → Sb k ∨ w.heap.size ≤ k) (hf : Fr Sb w w') (hr : RowI w vp 42 5 (P.map Nm.ints)) {vp2 : Value} {w2 : World} (hr2 : RowI w2 vp2 42 5 (P.map Nm.ints ++ (dN g m Lb).map Nm.ints)) (hg : w'.grownBy w2 vp.ownBlock) (hb2 : vp2.ownBlock = vp.ownBlock ∨ ∃ g, vp2.ownBlock = some g ∧ w'.heap.size ≤ g) :
    Pw W A B g last L m (P ++ dN g m Lb) vp2 w2 := by
  have T1 := T.right hw hss hf
  have hs' : ∀ b, vp.ownBlock = some b → ¬ S' b := fun b e c => (hss b c).elim (hb b e).2.2 (fun d => by have := hr.lt e; omega)
  have hF : Fr (fun k => some k = vp.ownBlock) w' w2 := ⟨hg.os, hg.tape, hg.output, hg.size, fun k hk hn => hg.block k hk hn⟩
  have T2 := T1.other hF (fun k c e => (hb k e.symm).2.1 c) (fun k c e => hs' k e.symm c) (fun k e => Or.inl (hb k e.symm).1)
  refine ⟨Sa, S', _, T2, Or.inr (hp.step hm), by rw [List.map_append]; exact hr2, fun b e => ?_⟩
  rcases hb2 with c | ⟨g', c, hg'⟩
  · rw [c] at e; exact ⟨(hb b e).1, (hb b e).2.1, hs' b e⟩
  · rw [c] at e; obtain rfl := Option.some.inj e
    have h1 := hf.size
    have h2 := T.ka.kept.size
    exact ⟨by omega, fun c => by have := T.a.lt _ c; omega, fun c => by have := T1.b.lt _ c; omega⟩
theorem Pw.due (h : Pw W A B g last L nb P vp w) (hL : L.length ≤ 4096) (s m : Int) (hm : max nb (clamp s) = m) :
    Calls Try.prog 17 #[.pointer (some ⟨B, 0, none⟩), .int .i64 s] w fun e w' => ∃ v5, e = .returned v5 ∧ Mid W A B g last L m vp w' v5 ∧ Kept W w' := by
  obtain ⟨Sa, Sb, Lb, T, hp, hr, hb⟩ := h
  refine (due_any T.b s hm).mono fun e w' ⟨v5, S', he, r5, h5, s5, f5, n5⟩ => ⟨v5, he, ⟨P, dN g m Lb, hr.kept fun b e => f5.block b (hr.lt e) (hb b e).2.2, r5, ?_, (hp.step (by omega)).1, fun vp2 w2 x1 x2 x3 => Pw.go (by omega) T hp hb h5 s5 f5 hr x1 x2 x3⟩, (T.kb.step f5 s5).kept⟩
  have h1 := hp.len
  have h2 := due_rest_len g m Lb
  unfold dN
  rw [List.length_map]; omega
end

end Go.Proofs.Ytckmkagijanbdaa.Al
