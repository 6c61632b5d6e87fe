/- A region that draws its order, told as a plan: operations that yield one value, cells made, and steps, in an order of our choice; cells may be made at any time. No function of the program is spoken of here. A region that draws its order, told as a plan, within a round of a range over a function. No function of the program is spoken of here. -/
import Derived.Test.YtcoagmkncjonmaaDoorAu
import Derived.Test.YtcoagmkncjonmaaDoorAw
import Derived.StillTail
import Derived.OrdersIn
import Derived.RangeFuncNested
import Derived.OwnWalkIn
namespace Go.Proofs.YtcoagmkncjonmaaDoor.Hx
open Go.RowKit Go.Sort
open St (Kept)
open Au (Stab stab_and YQ yq_run yq_skip yq_load yq_call)
open AvT (wpAnyT t_first wpAny_of_t)
open Av (Qk wpOp_of_list)
set_option linter.unusedVariables false

/-- what is done with an operation of a plan -/
inductive Kd
  | take (p : List Nat)
  | bare
  | made
  | step
  deriving DecidableEq

/-- of what is from n0 on, and not among bs, nothing has turned -/
def Fz (n0 : Nat) (bs : List Nat) (w w' : World) : Prop := w.heap.size ≤ w'.heap.size ∧ ∀ k, n0 ≤ k → k < w.heap.size → k ∉ bs → w'.heap[k]? = w.heap[k]?

section
variable (P : Program) (ops : Array Oper) (Q : Exit → Act → World → Prop) (T : World → Prop) (n0 s : Nat)

/-- operation o makes a cell's block that holds obj -/
def Makes (o : Oper) (obj : Obj) : Prop := o.guard = none ∧ (∀ cs b, o.op ≠ .select cs b) ∧ ∀ ev w, (execOp ev o).run P w = .ok (.value (.pointer (some ⟨w.heap.size, 0, none⟩))) (w.alloc obj)

/-- tb: operation s has not come up: what T says holds still -/
def wpPl : List (Nat × Kd) → Bool → List Nat → Act → (World → Prop) → Prop
  | [], tb, bs, a, S => ∀ w, S w → Q .normal a w
  | (i, .take _) :: r, tb, bs, a, S => ∃ o v, ops[i]? = some o ∧ YQ P ops T o v a ∧ wpPl r tb bs (a.put o.dst v) S
  | (i, .bare) :: r, tb, bs, a, S => ∃ o v, ops[i]? = some o ∧ YQ P ops (fun _ => True) o v a ∧ wpPl r tb bs (a.put o.dst v) S
  | (i, .made) :: r, tb, bs, a, S => ∃ o obj, ops[i]? = some o ∧ Makes P o obj ∧ ∀ b, n0 ≤ b → b ∉ bs → wpPl r tb (b :: bs) (a.put o.dst (.pointer (some ⟨b, 0, none⟩))) (fun u => S u ∧ u.heap[b]? = some obj)
  | (i, .step) :: r, tb, bs, a, S => ∃ o, ops[i]? = some o ∧ ∀ w, S w → ∀ K : Act → World → Prop,
      (∀ (S' : World → Prop) (a' : Act) (w' : World), S' w' → Stab S' → ((tb && decide (i ≠ s)) = true → ∀ u, S' u → T u) → Fz n0 bs w w' → wpPl r (tb && decide (i ≠ s)) bs a' S' → K a' w') → Go.wpOp P ops Q i K a w
end

section
variable {P : Program} {ops : Array Oper} {Q : Exit → Act → World → Prop} {T : World → Prop} {n0 s : Nat} {md : Region.Mode}

theorem pl_same : ∀ (pl : List (Nat × Kd)) {tb : Bool} {bs bs' : List Nat} {a : Act} {S S' : World → Prop}, (∀ k, k ∈ bs' ↔ k ∈ bs) → (∀ u, S' u ↔ S u) → wpPl P ops Q T n0 s pl tb bs a S → wpPl P ops Q T n0 s pl tb bs' a S'
  | [], _, _, _, _, _, _, _, hS, h => fun w hw => h w ((hS w).1 hw)
  | (i, .take _) :: r, _, _, _, _, _, _, hb, hS, ⟨o, v, h1, h2, h3⟩ => ⟨o, v, h1, h2, pl_same r hb hS h3⟩
  | (i, .bare) :: r, _, _, _, _, _, _, hb, hS, ⟨o, v, h1, h2, h3⟩ => ⟨o, v, h1, h2, pl_same r hb hS h3⟩
  | (i, .made) :: r, _, _, _, _, _, _, hb, hS, ⟨o, obj, h1, h2, h3⟩ => ⟨o, obj, h1, h2, fun b hb0 hbs => pl_same r (fun k => by rw [List.mem_cons, List.mem_cons, hb]) (fun u => by rw [hS]) (h3 b hb0 (fun c => hbs ((hb b).2 c)))⟩
  | (i, .step) :: r, _, _, _, _, _, _, hb, hS, ⟨o, h1, h2⟩ => ⟨o, h1, fun w hw K hK => h2 w ((hS w).1 hw) K fun S' a' w' e1 e2 e3 e4 e5 => hK S' a' w' e1 e2 e3 ⟨e4.1, fun k c1 c2 c3 => e4.2 k c1 c2 (fun c => c3 ((hb k).2 c))⟩ (pl_same r hb (fun _ => Iff.rfl) e5)⟩

/-- a value more in a slot that an operation does not look at -/
theorem wpOp_fwd {j : Nat} {oi oj : Oper} {v : Value} (hj : ops[j]? = some oj) (hap : oi.apart ops oj = true) (hsj : ∀ cs b, oj.op ≠ .select cs b)
    (hQ : ∀ c a w, Q (.panic c) a w → Q (.panic c) (a.put oi.dst v) w) {K : Act → World → Prop} {a : Act} {w : World}
    (h : Go.wpOp P ops Q j (fun a' w' => K (a'.put oi.dst v) w') a w) : Go.wpOp P ops Q j K (a.put oi.dst v) w := by
  obtain ⟨h1, h2, h3⟩ := Oper.apart_spec hap
  unfold Go.wpOp at *
  simp only [hj] at *
  rw [wanted_put oj a oi.dst v h1]
  split
  · rename_i hw
    simp only [hw, if_true] at h
    rcases h with h | ⟨hasks, hlets⟩
    case inr => exact .inr ⟨by unfold Oper.asks at *; rw [execOp_put oj hsj a oi.dst v h1]; exact hasks, hlets⟩
    refine .inl ?_
    unfold Oper.wp at *
    rw [execOp_put oj hsj a oi.dst v h1]
    generalize (execOp a.eval oj).run P w = r at *
    cases r with
    | ok n w' =>
      cases n <;> simp only [Oper.upon] at h ⊢
      case value u => rw [← Act.put_comm a v u h2] at h; exact h
      case skip => rw [← Act.put_comm a v undef h2] at h; exact h
      case defer d =>
        rw [← Act.put_comm _ v undef h2, ← Act.put_defers] at h
        exact h
      case enter f args =>
        refine Calls.mono h fun e w'' he => ?_
        cases e with
        | returned u =>
          have he' : K ((a.put oj.dst u).put oi.dst v) w'' := he
          rw [← Act.put_comm a v u h2] at he'
          exact he'
        | panicked c => exact hQ _ _ _ he
        | outgrown => exact he
      case row row args => exact Rows.mono h fun u w'' he => by rw [← Act.put_comm a v u h2] at he; exact he
    | halt x w' =>
      cases x <;> simp only [Oper.upon] at h ⊢
      case panic u => exact hQ _ _ _ h
  · rename_i hw
    simp only [hw] at h
    rw [← Act.put_comm a v undef h2] at h
    exact h

theorem makes_one {o : Oper} {x y : Obj} (h : Makes P o x) (k : Makes P o y) (w : World) : x = y := by
  have e := (h.2.2 (fun _ => undef) w).symm.trans (k.2.2 (fun _ => undef) w)
  injection e with _ e
  have h1 := St.blk_new w x
  have h2 := St.blk_new w y
  rw [e, h2] at h1
  exact (Option.some.inj h1).symm

/-- what stands in the plan ahead of operation j is apart from it -/
def pushB (ops : Array Oper) (oj : Oper) (j : Nat) : List (Nat × Kd) → Bool
  | [] => false
  | (i, k) :: r => if i = j then decide (k = .made) && r.all (fun e => decide (e.1 ≠ j)) else (match ops[i]? with | some o => oj.apart ops o | none => false) && pushB ops oj j r

/-- the block of a cell that is made later in the plan stands there already -/
theorem push {j : Nat} {oj : Oper} {obj : Obj} (hj : ops[j]? = some oj) (hm : Makes P oj obj) (hsel : ∀ (j : Nat) (o : Oper) cs b, ops[j]? = some o → o.op ≠ .select cs b)
    (hQ : ∀ d v c a w, Q (.panic c) a w → Q (.panic c) (a.put d v) w) (w0 : World) {b' : Nat} (hb : n0 ≤ b') :
    ∀ (pl : List (Nat × Kd)) {tb : Bool} {bs : List Nat} {a : Act} {S : World → Prop}, pushB ops oj j pl = true → b' ∉ bs → wpPl P ops Q T n0 s pl tb bs a S →
      wpPl P ops Q T n0 s (pl.filter fun e => decide (e.1 ≠ j)) tb (b' :: bs) (a.put oj.dst (.pointer (some ⟨b', 0, none⟩))) (fun u => S u ∧ u.heap[b']? = some obj) := by
  intro pl
  induction pl with
  | nil => intro tb bs a S hB; simp [pushB] at hB
  | cons e r ih =>
    obtain ⟨i, k⟩ := e
    intro tb bs a S hB hbs h
    unfold pushB at hB
    by_cases hij : i = j
    · subst hij
      rw [if_pos rfl] at hB
      obtain ⟨hk, hr⟩ := Bool.and_eq_true_iff.1 hB
      have hk : k = .made := of_decide_eq_true hk
      subst hk
      rw [List.filter_cons_of_neg (by simp), List.filter_eq_self.2 (fun e he => List.all_eq_true.1 hr e he)]
      obtain ⟨o, obj', h1, h2, h3⟩ := h
      rw [hj] at h1
      obtain rfl := Option.some.inj h1
      obtain rfl := makes_one h2 hm w0
      exact h3 b' hb hbs
    · rw [if_neg hij] at hB
      obtain ⟨hB1, hB2⟩ := Bool.and_eq_true_iff.1 hB
      rw [List.filter_cons_of_pos (by simpa using hij)]
      cases hi : ops[i]? with
      | none => rw [hi] at hB1; cases hB1
      | some o =>
        rw [hi] at hB1
        have hap : oj.apart ops o = true := hB1
        obtain ⟨p1, p2, p3⟩ := Oper.apart_spec hap
        cases k with
        | take _ =>
          obtain ⟨o', v, h1, h2, h3⟩ := h
          rw [hi] at h1
          obtain rfl := Option.some.inj h1
          refine ⟨o, v, hi, h2.of_same (execOp_put o (fun cs b => hsel i o cs b hi) a oj.dst _ p1) (wanted_put o a oj.dst _ p1), ?_⟩
          rw [Act.put_comm a _ v p2]
          exact ih hB2 hbs h3
        | bare =>
          obtain ⟨o', v, h1, h2, h3⟩ := h
          rw [hi] at h1
          obtain rfl := Option.some.inj h1
          refine ⟨o, v, hi, h2.of_same (execOp_put o (fun cs b => hsel i o cs b hi) a oj.dst _ p1) (wanted_put o a oj.dst _ p1), ?_⟩
          rw [Act.put_comm a _ v p2]
          exact ih hB2 hbs h3
        | made =>
          obtain ⟨o', obj', h1, h2, h3⟩ := h
          rw [hi] at h1
          obtain rfl := Option.some.inj h1
          refine ⟨o, obj', hi, h2, fun b c1 c2 => ?_⟩
          rw [Act.put_comm a _ _ p2]
          have c2' : b ∉ bs := fun c => c2 (List.mem_cons_of_mem _ c)
          have hne : b ≠ b' := fun c => c2 (c ▸ List.mem_cons_self)
          have := ih hB2 (fun c => (List.mem_cons.1 c).elim (fun c => hne c.symm) hbs) (h3 b c1 c2')
          exact pl_same _ (fun k => by simp only [List.mem_cons]; exact or_left_comm) (fun u => by rw [and_assoc, and_assoc, and_comm (a := u.heap[b']? = some obj)]) this
        | step =>
          obtain ⟨o', h1, h2⟩ := h
          rw [hi] at h1
          obtain rfl := Option.some.inj h1
          refine ⟨o, hi, fun w hw K hK => wpOp_fwd hi hap (fun cs b => hsel i o cs b hi) (hQ _ _) (h2 w hw.1 _ fun S' a' w' e1 e2 e3 e4 e5 => ?_)⟩
          have hlt : b' < w.heap.size := St.blk_lt hw.2
          refine hK (fun u => S' u ∧ u.heap[b']? = some obj) _ w' ⟨e1, (e4.2 b' hb hlt hbs).trans hw.2⟩ (stab_and e2 fun u u' hu k => by rw [k.block b' (St.blk_lt hu)]; exact hu) (fun ht u hu => e3 ht u hu.1) ⟨e4.1, fun k c1 c2 c3 => e4.2 k c1 c2 (fun c => c3 (List.mem_cons_of_mem _ c))⟩ (ih hB2 hbs e5)

/-- may the region be told by this plan? -/
def planB (md : Region.Mode) (ops : Array Oper) (s : Nat) : Nat → List (Nat × Kd) → Array Bool → Bool
  | _, [], listed => (Region.ready md ops listed).isEmpty
  | 0, _ :: _, _ => false
  | f + 1, (i, .take p) :: r, listed => (Region.ready md ops listed).contains i && Region.free md ops listed i && (decide (ops.size ≤ s) || Av.pathB md ops s (p ++ [i])) && planB md ops s f r (listed.setIfInBounds i true)
  | f + 1, (i, .bare) :: r, listed => (Region.ready md ops listed).contains i && Region.free md ops listed i && planB md ops s f r (listed.setIfInBounds i true)
  | f + 1, (i, k) :: r, listed => (Region.ready md ops listed).contains i && planB md ops s f r (listed.setIfInBounds i true) &&
      (Region.ready md ops listed).all fun j => decide (j = i) || ((match ops[j]? with | some o => pushB ops o j ((i, k) :: r) | none => false) && planB md ops s f (((i, k) :: r).filter fun e => decide (e.1 ≠ j)) (listed.setIfInBounds j true))

theorem filter_len {j : Nat} {oj : Oper} : ∀ {pl : List (Nat × Kd)}, pushB ops oj j pl = true → (pl.filter fun e => decide (e.1 ≠ j)).length + 1 = pl.length
  | [], h => by simp [pushB] at h
  | (i, k) :: r, h => by
    unfold pushB at h
    by_cases c : i = j
    · subst c
      rw [if_pos rfl] at h
      obtain ⟨_, hr⟩ := Bool.and_eq_true_iff.1 h
      rw [List.filter_cons_of_neg (by simp), List.filter_eq_self.2 (fun e he => List.all_eq_true.1 hr e he)]; rfl
    · rw [if_neg c] at h
      rw [List.filter_cons_of_pos (by simpa using c), List.length_cons, List.length_cons, filter_len (Bool.and_eq_true_iff.1 h).2]

theorem push_mem {j : Nat} {oj : Oper} : ∀ {pl : List (Nat × Kd)}, pushB ops oj j pl = true → (j, Kd.made) ∈ pl
  | [], h => by simp [pushB] at h
  | (i, k) :: r, h => by
    unfold pushB at h
    by_cases c : i = j
    · subst c
      rw [if_pos rfl] at h
      have hk : k = .made := of_decide_eq_true (Bool.and_eq_true_iff.1 h).1
      rw [hk]; exact List.mem_cons_self
    · rw [if_neg c] at h
      exact List.mem_cons_of_mem _ (push_mem (Bool.and_eq_true_iff.1 h).2)
theorem pl_sub : ∀ (pl : List (Nat × Kd)) {tb : Bool} {bs : List Nat} {a : Act} {S S' : World → Prop}, (∀ u, S' u → S u) → wpPl P ops Q T n0 s pl tb bs a S → wpPl P ops Q T n0 s pl tb bs a S'
  | [], _, _, _, _, _, hS, h => fun w hw => h w (hS w hw)
  | (i, .take _) :: r, _, _, _, _, _, hS, ⟨o, v, h1, h2, h3⟩ => ⟨o, v, h1, h2, pl_sub r hS h3⟩
  | (i, .bare) :: r, _, _, _, _, _, hS, ⟨o, v, h1, h2, h3⟩ => ⟨o, v, h1, h2, pl_sub r hS h3⟩
  | (i, .made) :: r, _, _, _, _, _, hS, ⟨o, obj, h1, h2, h3⟩ => ⟨o, obj, h1, h2, fun b hb0 hbs => pl_sub r (fun u hu => ⟨hS u hu.1, hu.2⟩) (h3 b hb0 hbs)⟩
  | (i, .step) :: r, _, _, _, _, _, hS, ⟨o, h1, h2⟩ => ⟨o, h1, fun w hw K hK => h2 w (hS w hw) K hK⟩
theorem wpOp_made {j : Nat} {o : Oper} {obj : Obj} (hj : ops[j]? = some o) (hm : Makes P o obj) {K : Act → World → Prop} {a : Act} {w : World} (h : K (a.put o.dst (.pointer (some ⟨w.heap.size, 0, none⟩))) (w.alloc obj)) : Go.wpOp P ops Q j K a w := by
  unfold Go.wpOp
  simp only [hj]
  rw [if_pos (by simp [Region.wanted, hm.1])]
  refine .inl ?_
  unfold Oper.wp
  rw [hm.2.2]
  exact h

/-- whatever order is picked from here on; till operation s comes up T holds -/
def wpAnyS (P : Program) (md : Region.Mode) (ops : Array Oper) (Q : Exit → Act → World → Prop) (T : World → Prop) (s : Nat) : Nat → Array Bool → Act → (World → Prop) → Prop
  | 0, listed, a, S => Region.ready md ops listed = [] ∧ ∀ w, S w → Q .normal a w
  | fuel + 1, listed, a, S => ∀ w, S w → (Region.ready md ops listed = [] → Q .normal a w) ∧
    ∀ i ∈ Region.ready md ops listed, Go.wpOp P ops Q i (fun a' w' => ∃ S' : World → Prop, S' w' ∧ (Stab S' ∧ ((listed.setIfInBounds i true).getD s false = false → ∀ u, S' u → T u)) ∧ wpAnyS P md ops Q T s fuel (listed.setIfInBounds i true) a' S') a w
theorem wpAny_of_s : ∀ (fuel : Nat) (listed : Array Bool) (a : Act) (S : World → Prop) (w : World), S w → wpAnyS P md ops Q T s fuel listed a S → wpAny P md ops Q fuel listed a w
  | 0, _, _, _, w, hS, h => ⟨h.1, h.2 w hS⟩
  | fuel + 1, _, _, _, w, hS, h => ⟨(h w hS).1, fun i hi => wpOp_mono (fun a' w' ⟨S', h1, _, h4⟩ => wpAny_of_s fuel _ a' S' w' h1 h4) ((h w hS).2 i hi)⟩

/-- an operation that yields one value, as long as what X says holds, comes first -/
theorem s_first {X : World → Prop} {i : Nat} {oi : Oper} {v : Value} (hi : ops[i]? = some oi) (hsel : ∀ (j : Nat) (o : Oper) cs b, ops[j]? = some o → o.op ≠ .select cs b)
    (hQ : ∀ c a w, Q (.panic c) (a.put oi.dst v) w → Q (.panic c) a w)
    (his : i ≠ s)
    (hXT : (∀ u, X u) ∨ ((∀ u, T u → X u) ∧ ∀ listed : Array Bool, listed.size = ops.size → Av.Closed md ops listed → listed.getD i true = false → listed.getD s false = false)) :
    ∀ (fuel : Nat) (listed : Array Bool) (a : Act) (S : World → Prop), listed.size = ops.size → Stab S → (listed.getD s false = false → ∀ u, S u → T u) → Av.Closed md ops listed →
      (∀ j oj, ops[j]? = some oj → j ≠ i → listed.getD j true = false → (∀ e ∈ oj.after, Region.binds md e = true → e.on ≠ i) → oi.apart ops oj = true) →
      i ∈ Region.ready md ops listed → YQ P ops X oi v a →
      wpAnyS P md ops Q T s fuel (listed.setIfInBounds i true) (a.put oi.dst v) S → wpAnyS P md ops Q T s (fuel + 1) listed a S := by
  intro fuel
  induction fuel with
  | zero =>
    intro listed a S hls hst hT hcl _ hr hy H w hS
    have hX1 : X w := hXT.elim (fun h => h w) fun h => h.1 w (hT (h.2 listed hls hcl (mem_ready.1 hr).1) w hS)
    refine ⟨fun h => (by rw [h] at hr; cases hr), fun j hj => ?_⟩
    by_cases hji : j = i
    · subst hji
      refine hy.wpOp hi hX1 fun w' k => ⟨S, hst _ _ hS k, ⟨hst, fun hs => hT (by rw [getD_set_ne false his] at hs; exact hs)⟩, H⟩
    · have := ready_mono hj hji
      rw [H.1] at this
      cases this
  | succ fuel ih =>
    intro listed a S hls hst hT hcl hfree hr hy H w hS
    have hiun := (mem_ready.1 hr).1
    have hX1 : X w := hXT.elim (fun h => h w) fun h => h.1 w (hT (h.2 listed hls hcl hiun) w hS)
    refine ⟨fun h => (by rw [h] at hr; cases hr), fun j hj => ?_⟩
    by_cases hji : j = i
    · subst hji
      refine hy.wpOp hi hX1 fun w' k => ⟨S, hst _ _ hS k, ⟨hst, fun hs => hT (by rw [getD_set_ne false his] at hs; exact hs)⟩, H⟩
    · have h1 := (H w hS).2 j (ready_mono hj hji)
      obtain ⟨hjun, oj, hoj, hall⟩ := mem_ready.1 hj
      have hnot : ∀ e ∈ oj.after, Region.binds md e = true → e.on ≠ i := fun e he hb heq => by
        have h1 := hall e he hb
        rw [heq] at h1
        rcases Nat.lt_or_ge i listed.size with h' | h'
        · simp [h'] at hiun h1; rw [hiun] at h1; cases h1
        · simp [Array.getElem?_eq_none h'] at h1
      have hcj := Av.closed_set hcl hj
      have hij : (listed.setIfInBounds j true).getD i true = false := by rw [getD_set_ne true hji]; exact hiun
      have hfree' : ∀ k ok, ops[k]? = some ok → k ≠ i → (listed.setIfInBounds j true).getD k true = false →
          (∀ e ∈ ok.after, Region.binds md e = true → e.on ≠ i) → oi.apart ops ok = true := fun k ok hk hki hun hno => by
        refine hfree k ok hk hki ?_ hno
        by_cases hjk : j = k
        · subst hjk; exact hjun
        · rw [getD_set_ne true hjk] at hun; exact hun
      have hcomm : (listed.setIfInBounds i true).setIfInBounds j true = (listed.setIfInBounds j true).setIfInBounds i true := Array.setIfInBounds_comm _ _ (Ne.symm hji)
      have h2 := Au.wpOp_putQ hoj (hfree j oj hoj hji hjun hnot) (fun cs b => hsel i oi cs b hi) (fun cs b => hsel j oj cs b hoj) hQ hy h1
      refine wpOp_mono (fun a' w' h3 => ?_) h2
      obtain ⟨hy3, S', hS', hss, h4⟩ := h3
      rw [hcomm] at h4 hss
      have hss' : (listed.setIfInBounds j true).getD s false = false → ∀ u, S' u → T u := fun hs => hss.2 (by rw [getD_set_ne false his]; exact hs)
      exact ⟨S', hS', ⟨hss.1, hss'⟩, ih (listed.setIfInBounds j true) a' S' (by rw [Array.size_setIfInBounds]; exact hls) hss.1 hss' hcj hfree' (ready_mono hr (Ne.symm hji)) hy3 h4⟩

/-- what is unlisted, and waited for by s, leaves s unlisted -/
theorem waits_s {i : Nat} {p : List Nat} (h : (decide (ops.size ≤ s) || Av.pathB md ops s (p ++ [i])) = true) {listed : Array Bool} (hsz : listed.size = ops.size) (hc : Av.Closed md ops listed) (hi : listed.getD i true = false) : listed.getD s false = false := by
  rcases Bool.or_eq_true_iff.1 h with h | h
  · have := of_decide_eq_true h
    simp [Array.getElem?_eq_none (show listed.size ≤ s by omega)]
  · cases hl : listed.getD s false with
    | false => rfl
    | true =>
      cases ho : ops[s]? with
      | none =>
        cases p with
        | nil => simp [Av.pathB, ho] at h
        | cons x r => simp [Av.pathB, ho] at h
      | some o =>
        have h9 := Av.path_listed hc p s o i ho (fun e he hb => hc s o ho hl e he hb) h
        rcases Nat.lt_or_ge i listed.size with h' | h'
        · simp [h'] at hi h9; rw [hi] at h9; cases h9
        · simp [Array.getElem?_eq_none h'] at h9

theorem sound (hsel : ∀ (j : Nat) (o : Oper) cs b, ops[j]? = some o → o.op ≠ .select cs b) (hQ : ∀ d v c a w, Q (.panic c) a w → Q (.panic c) (a.put d v) w) (hQ' : ∀ d v c a w, Q (.panic c) (a.put d v) w → Q (.panic c) a w) :
    ∀ (f : Nat) (pl : List (Nat × Kd)) (listed : Array Bool) (tb : Bool) (bs : List Nat) (a : Act) (S : World → Prop), pl.length = f → planB md ops s f pl listed = true → listed.size = ops.size → Av.Closed md ops listed → (listed.getD s false = false → tb = true) → Stab S → (tb = true → ∀ u, S u → T u) → (∀ u, S u → n0 ≤ u.heap.size ∧ ∀ k ∈ bs, k < u.heap.size) → (∀ j o, (j, Kd.made) ∈ pl → ops[j]? = some o → ∃ obj, Makes P o obj) →
      (∀ e ∈ pl, (∀ p, e.2 = .take p → e.1 ≠ s) ∧ (e.2 = .bare → e.1 ≠ s) ∧ (e.2 = .made → e.1 ≠ s)) → wpPl P ops Q T n0 s pl tb bs a S → wpAnyS P md ops Q T s f listed a S := by
  intro f
  induction f with
  | zero =>
    intro pl listed tb bs a S hl hB hls hcl htb hst hT hsz hmk hne h
    obtain rfl : pl = [] := List.eq_nil_of_length_eq_zero hl
    exact ⟨by simpa [planB] using hB, h⟩
  | succ f ih =>
    intro pl listed tb bs a S hl hB hls hcl htb hst hT hsz hmk hne h
    cases pl with
    | nil => cases hl
    | cons e r =>
      obtain ⟨i, k⟩ := e
      have hlr : r.length = f := by simpa using hl
      have hmr : ∀ j o, (j, Kd.made) ∈ r → ops[j]? = some o → ∃ obj, Makes P o obj := fun j o hj ho => hmk j o (List.mem_cons_of_mem _ hj) ho
      have hner : ∀ e ∈ r, (∀ p, e.2 = .take p → e.1 ≠ s) ∧ (e.2 = .bare → e.1 ≠ s) ∧ (e.2 = .made → e.1 ≠ s) := fun e he => hne e (List.mem_cons_of_mem _ he)
      have hls' : ∀ j, (listed.setIfInBounds j true).size = ops.size := fun j => by rw [Array.size_setIfInBounds]; exact hls
      have alone : (∀ w, S w → Go.wpOp P ops Q i (fun a' w' => ∃ S' : World → Prop, S' w' ∧ (Stab S' ∧ ((listed.setIfInBounds i true).getD s false = false → ∀ u, S' u → T u)) ∧ wpAnyS P md ops Q T s f (listed.setIfInBounds i true) a' S') a w) →
          ((Region.ready md ops listed).contains i && planB md ops s f r (listed.setIfInBounds i true) && (Region.ready md ops listed).all fun j => decide (j = i) || ((match ops[j]? with | some o => pushB ops o j ((i, k) :: r) | none => false) && planB md ops s f (((i, k) :: r).filter fun e => decide (e.1 ≠ j)) (listed.setIfInBounds j true))) = true →
          wpAnyS P md ops Q T s (f + 1) listed a S := fun hi hB w hw => by
        obtain ⟨hB, hall⟩ := Bool.and_eq_true_iff.1 hB
        obtain ⟨hri, hBr⟩ := Bool.and_eq_true_iff.1 hB
        refine ⟨fun h0 => (by rw [h0] at hri; simp at hri), fun j hj => ?_⟩
        have hj2 := List.all_eq_true.1 hall j hj
        by_cases hji : j = i
        · subst hji; exact hi w hw
        · rw [decide_eq_false hji, Bool.false_or] at hj2
          obtain ⟨hpu, hBj⟩ := Bool.and_eq_true_iff.1 hj2
          cases hoj : ops[j]? with
          | none => rw [hoj] at hpu; cases hpu
          | some oj =>
            rw [hoj] at hpu
            have hpu : pushB ops oj j ((i, k) :: r) = true := hpu
            have hmem : (j, Kd.made) ∈ ((i, k) :: r) := push_mem hpu
            have hjs : j ≠ s := (hne _ hmem).2.2 rfl
            obtain ⟨obj, hm⟩ := hmk j oj hmem hoj
            have hpl := push hoj hm hsel hQ w (b' := w.heap.size) (hsz w hw).1 ((i, k) :: r) hpu (fun c => Nat.lt_irrefl _ ((hsz w hw).2 _ c)) h
            have hss : Stab (fun u => S u ∧ u.heap[w.heap.size]? = some obj) := stab_and hst fun u u' hu k => by rw [k.block _ (St.blk_lt hu)]; exact hu
            have hTT : tb = true → ∀ u, (S u ∧ u.heap[w.heap.size]? = some obj) → T u := fun ht u hu => hT ht u hu.1
            refine wpOp_made hoj hm ⟨fun u => S u ∧ u.heap[w.heap.size]? = some obj, ⟨hst _ _ hw (Kept.one w obj), St.blk_new w obj⟩, ⟨hss, fun hs => hTT (htb (by rw [getD_set_ne false hjs] at hs; exact hs))⟩, ?_⟩
            refine ih _ _ tb (w.heap.size :: bs) _ _ (by have := filter_len hpu; omega) hBj (hls' j) (Av.closed_set hcl hj) (fun hs => htb (by rw [getD_set_ne false hjs] at hs; exact hs)) hss hTT (fun u hu => ⟨(hsz u hu.1).1, fun k hk => ?_⟩) (fun j' o' hj' ho' => hmk j' o' (List.mem_filter.1 hj').1 ho') (fun e he => hne e (List.mem_filter.1 he).1) hpl
            rcases List.mem_cons.1 hk with rfl | hk
            · exact St.blk_lt hu.2
            · exact (hsz u hu.1).2 k hk
      cases k with
      | take p =>
        obtain ⟨o, v, h1, h2, h3⟩ := h
        simp only [planB, Bool.and_eq_true] at hB
        obtain ⟨⟨⟨q1, q2⟩, q3⟩, q4⟩ := hB
        have his : i ≠ s := (hne _ List.mem_cons_self).1 p rfl
        have hri : i ∈ Region.ready md ops listed := by simpa using q1
        exact s_first (X := fun u => T u ∧ True) h1 hsel (hQ' _ _) his (.inr ⟨fun u hu => ⟨hu, trivial⟩, fun l hz hc hl => waits_s q3 hz hc hl⟩) f listed a S hls hst (fun hs => hT (htb hs)) hcl (Region.free_spec h1 q2) hri (h2.sub fun u hu => hu.1) (ih r _ tb bs _ S hlr q4 (hls' i) (Av.closed_set hcl hri) (fun hs => htb (by rw [getD_set_ne false his] at hs; exact hs)) hst hT hsz hmr hner h3)
      | bare =>
        obtain ⟨o, v, h1, h2, h3⟩ := h
        simp only [planB, Bool.and_eq_true] at hB
        obtain ⟨⟨q1, q2⟩, q4⟩ := hB
        have his : i ≠ s := (hne _ List.mem_cons_self).2.1 rfl
        have hri : i ∈ Region.ready md ops listed := by simpa using q1
        exact s_first (X := fun _ => True) h1 hsel (hQ' _ _) his (.inl fun _ => trivial) f listed a S hls hst (fun hs => hT (htb hs)) hcl (Region.free_spec h1 q2) hri h2 (ih r _ tb bs _ S hlr q4 (hls' i) (Av.closed_set hcl hri) (fun hs => htb (by rw [getD_set_ne false his] at hs; exact hs)) hst hT hsz hmr hner h3)
      | made =>
        obtain ⟨o, obj, h1, h2, h3⟩ := h
        have hBr : planB md ops s f r (listed.setIfInBounds i true) = true := by simp only [planB, Bool.and_eq_true] at hB; exact hB.1.2
        have hri : i ∈ Region.ready md ops listed := by simp only [planB, Bool.and_eq_true] at hB; simpa using hB.1.1
        have his : i ≠ s := (hne _ List.mem_cons_self).2.2 rfl
        refine alone (fun w hw => ?_) (by simpa only [planB] using hB)
        have hss : Stab (fun u => S u ∧ u.heap[w.heap.size]? = some obj) := stab_and hst fun u u' hu k => by rw [k.block _ (St.blk_lt hu)]; exact hu
        have hTT : tb = true → ∀ u, (S u ∧ u.heap[w.heap.size]? = some obj) → T u := fun ht u hu => hT ht u hu.1
        refine wpOp_made h1 h2 ⟨fun u => S u ∧ u.heap[w.heap.size]? = some obj, ⟨hst _ _ hw (Kept.one w obj), St.blk_new w obj⟩, ⟨hss, fun hs => hTT (htb (by rw [getD_set_ne false his] at hs; exact hs))⟩, ?_⟩
        refine ih r _ tb (w.heap.size :: bs) _ _ hlr hBr (hls' i) (Av.closed_set hcl hri) (fun hs => htb (by rw [getD_set_ne false his] at hs; exact hs)) hss hTT (fun u hu => ⟨(hsz u hu.1).1, fun k hk => ?_⟩) hmr hner (h3 _ (hsz w hw).1 (fun c => Nat.lt_irrefl _ ((hsz w hw).2 _ c)))
        rcases List.mem_cons.1 hk with rfl | hk
        · exact St.blk_lt hu.2
        · exact (hsz u hu.1).2 k hk
      | step =>
        obtain ⟨o, h1, h2⟩ := h
        have hBr : planB md ops s f r (listed.setIfInBounds i true) = true := by simp only [planB, Bool.and_eq_true] at hB; exact hB.1.2
        have hri : i ∈ Region.ready md ops listed := by simp only [planB, Bool.and_eq_true] at hB; simpa using hB.1.1
        have htb' : (listed.setIfInBounds i true).getD s false = false → (tb && decide (i ≠ s)) = true := fun hs => by
          have hsi : i ≠ s := fun c => by
            subst c
            have hlt : i < listed.size := by rw [hls]; exact (Array.getElem?_eq_some_iff.1 h1).1
            simp [hlt] at hs
          rw [getD_set_ne false hsi] at hs
          rw [htb hs, decide_eq_true hsi]; rfl
        refine alone (fun w hw => h2 w hw _ fun S' a' w' e1 e2 e3 e4 e5 => ?_) (by simpa only [planB] using hB)
        refine ⟨fun u => S' u ∧ w'.heap.size ≤ u.heap.size, ⟨e1, Nat.le_refl _⟩, ⟨stab_and e2 fun u u' hu k => Nat.le_trans hu k.size, fun hs u hu => e3 (htb' hs) u hu.1⟩, ?_⟩
        exact ih r _ _ bs a' _ hlr hBr (hls' i) (Av.closed_set hcl hri) htb' (stab_and e2 fun u u' hu k => Nat.le_trans hu k.size) (fun ht u hu => e3 ht u hu.1) (fun u hu => ⟨Nat.le_trans (hsz w hw).1 (Nat.le_trans e4.1 hu.2), fun k hk => Nat.lt_of_lt_of_le ((hsz w hw).2 k hk) (Nat.le_trans e4.1 hu.2)⟩) hmr hner (pl_sub r (fun u hu => hu.1) e5)

/-- no cell is made, and nothing is taken, at place s -/
def placeB (s : Nat) (pl : List (Nat × Kd)) : Bool := pl.all fun e => match e.2 with | .step => true | _ => decide (e.1 ≠ s)
theorem place_of {pl : List (Nat × Kd)} (h : placeB s pl = true) : ∀ e ∈ pl, (∀ p, e.2 = .take p → e.1 ≠ s) ∧ (e.2 = .bare → e.1 ≠ s) ∧ (e.2 = .made → e.1 ≠ s) := fun e he => by
  have := List.all_eq_true.1 h e he
  refine ⟨fun p hp => ?_, fun hp => ?_, fun hp => ?_⟩ <;> (rw [hp] at this; exact of_decide_eq_true this)

/-- A REGION BY A PLAN; behind operation s T need not hold -/
theorem region_any {l : List Oper} {a : Act} {w : World} (pl : List (Nat × Kd)) (s : Nat) (T S : World → Prop) (n0 : Nat) (hB : (placeB s pl && (decide (pl.length = l.length) && (Region.noSelect l.toArray && planB .any l.toArray s pl.length pl (Array.replicate l.length false)))) = true)
    (hQ : ∀ d v c a w, Q (.panic c) a w → Q (.panic c) (a.put d v) w) (hQ' : ∀ d v c a w, Q (.panic c) (a.put d v) w → Q (.panic c) a w)
    (hmk : ∀ j o, (j, Kd.made) ∈ pl → l.toArray[j]? = some o → ∃ obj, Makes P o obj) (hst : Stab S) (hT : ∀ u, S u → T u) (hS : S w.drew) (hz : ∀ u, S u → n0 ≤ u.heap.size)
    (h : wpPl P l.toArray Q T n0 s pl true [] a S) : wpAny P .any l.toArray Q l.toArray.size (Array.replicate l.toArray.size false) a w.drew := by
  obtain ⟨hpl, hB⟩ := Bool.and_eq_true_iff.1 hB
  obtain ⟨hl, hB⟩ := Bool.and_eq_true_iff.1 hB
  obtain ⟨hsel, hB⟩ := Bool.and_eq_true_iff.1 hB
  have hl : pl.length = l.length := of_decide_eq_true hl
  have := sound (md := .any) (Region.noSelect_spec hsel) hQ hQ' pl.length pl _ true [] a S rfl hB (by simp) (fun j oj _ hl => (by rw [getD_replicate_false] at hl; cases hl)) (fun _ => rfl) hst (fun _ => hT) (fun u hu => ⟨hz u hu, fun k hk => by cases hk⟩) hmk (place_of hpl) h
  refine wpAny_of_s (s := s) (T := T) _ _ _ S _ hS ?_
  rw [List.size_toArray, ← hl]
  rw [← hl] at this
  exact this
theorem region {id : Nat} {l : List Oper} {a : Act} {w : World} (pl : List (Nat × Kd)) (s : Nat) (T S : World → Prop) (n0 : Nat) (hm : P.follows .mixedOrders = true) (hB : (placeB s pl && (decide (pl.length = l.length) && (Region.noSelect l.toArray && planB .any l.toArray s pl.length pl (Array.replicate l.length false)))) = true)
    (hQ : ∀ d v c a w, Q (.panic c) a w → Q (.panic c) (a.put d v) w) (hQ' : ∀ d v c a w, Q (.panic c) (a.put d v) w → Q (.panic c) a w)
    (hmk : ∀ j o, (j, Kd.made) ∈ pl → l.toArray[j]? = some o → ∃ obj, Makes P o obj) (hst : Stab S) (hT : ∀ u, S u → T u) (hS : S w.drew) (hz : ∀ u, S u → n0 ≤ u.heap.size)
    (h : wpPl P l.toArray Q T n0 s pl true [] a S) : (Code.region id l.toArray true).wp P Q a w :=
  wp_region_any hm (region_any pl s T S n0 hB hQ hQ' hmk hst hT hS hz h)

/-! ### how a plan is walked -/
section
variable {i : Nat} {o : Oper} {v : Value} {d : Option Tmp} {r : List (Nat × Kd)} {tb : Bool} {bs : List Nat} {a : Act} {S : World → Prop}
theorem take {p : List Nat} (hi : ops[i]? = some o) (hd : o.dst = d) (hy : YQ P ops T o v a) (h : wpPl P ops Q T n0 s r tb bs (a.put d v) S) : wpPl P ops Q T n0 s ((i, .take p) :: r) tb bs a S := ⟨o, v, hi, hy, by rw [hd]; exact h⟩
theorem bare (hi : ops[i]? = some o) (hd : o.dst = d) (hy : YQ P ops (fun _ => True) o v a) (h : wpPl P ops Q T n0 s r tb bs (a.put d v) S) : wpPl P ops Q T n0 s ((i, .bare) :: r) tb bs a S := ⟨o, v, hi, hy, by rw [hd]; exact h⟩
theorem made {obj : Obj} (hi : ops[i]? = some o) (hd : o.dst = d) (hm : Makes P o obj) (h : ∀ b, n0 ≤ b → b ∉ bs → wpPl P ops Q T n0 s r tb (b :: bs) (a.put d (.pointer (some ⟨b, 0, none⟩))) (fun u => S u ∧ u.heap[b]? = some obj)) : wpPl P ops Q T n0 s ((i, .made) :: r) tb bs a S := ⟨o, obj, hi, hm, by rw [hd]; exact h⟩
/-- how a plan goes on behind a step from w -/
def Goes (P : Program) (ops : Array Oper) (Q : Exit → Act → World → Prop) (T : World → Prop) (n0 s : Nat) (r : List (Nat × Kd)) (tb : Bool) (bs : List Nat) (w : World) (K : Act → World → Prop) : Prop :=
  ∀ (S' : World → Prop) (a' : Act) (w' : World), S' w' → Stab S' → (tb = true → ∀ u, S' u → T u) → Fz n0 bs w w' → wpPl P ops Q T n0 s r tb bs a' S' → K a' w'
theorem step (hi : ops[i]? = some o) {tb' : Bool} (ht : (tb && decide (i ≠ s)) = tb') (h : ∀ w, S w → ∀ K : Act → World → Prop, Shut (Goes P ops Q T n0 s r tb' bs w K) → wpList P ops (Qk K Q) [o] a w) : wpPl P ops Q T n0 s ((i, .step) :: r) tb bs a S := by
  subst ht
  exact ⟨o, hi, fun w hw K hK => wpOp_of_list hi (h w hw K (fun S' a' w' => hK S' a' w'))⟩
theorem nil (h : ∀ w, S w → Q .normal a w) : wpPl P ops Q T n0 s [] tb bs a S := h
end
theorem mk_none {pl : List (Nat × Kd)} (h : (pl.all fun e => decide (e.2 ≠ .made)) = true) (j : Nat) (o : Oper) (hj : (j, Kd.made) ∈ pl) (_ : ops[j]? = some o) : ∃ obj, Makes P o obj :=
  absurd rfl (of_decide_eq_true (List.all_eq_true.1 h _ hj))
theorem mk_one {pl : List (Nat × Kd)} (i : Nat) {oi : Oper} {obj : Obj} (h : (pl.all fun e => decide (e.2 ≠ .made) || decide (e.1 = i)) = true) (hi : ops[i]? = some oi) (hm : Makes P oi obj) (j : Nat) (o : Oper) (hj : (j, Kd.made) ∈ pl) (ho : ops[j]? = some o) : ∃ obj, Makes P o obj := by
  have := List.all_eq_true.1 h _ hj
  simp only [ne_eq, not_true_eq_false, decide_false, Bool.false_or, decide_eq_true_eq] at this
  subst this
  rw [hi] at ho
  exact ⟨obj, Option.some.inj ho ▸ hm⟩
theorem mk_two {pl : List (Nat × Kd)} (i k : Nat) {oi ok : Oper} {x y : Obj} (h : (pl.all fun e => decide (e.2 ≠ .made) || (decide (e.1 = i) || decide (e.1 = k))) = true) (hi : ops[i]? = some oi) (hm : Makes P oi x) (hk : ops[k]? = some ok) (hn : Makes P ok y) (j : Nat) (o : Oper) (hj : (j, Kd.made) ∈ pl) (ho : ops[j]? = some o) : ∃ obj, Makes P o obj := by
  have := List.all_eq_true.1 h _ hj
  simp only [ne_eq, not_true_eq_false, decide_false, Bool.false_or, Bool.or_eq_true, decide_eq_true_eq] at this
  rcases this with rfl | rfl
  · rw [hi] at ho
    exact ⟨x, Option.some.inj ho ▸ hm⟩
  · rw [hk] at ho
    exact ⟨y, Option.some.inj ho ▸ hn⟩
end

end Go.Proofs.YtcoagmkncjonmaaDoor.Hx

namespace Go.Proofs.YtcoagmkncjonmaaDoor.Hx
open Go.RowKit Go.Sort
open Au (Stab)
set_option linter.unusedVariables false

section
variable {P : Program} {ops : Array Oper} {Q : Exit → Act → World → Prop} {md : Region.Mode} {k m : Nat}
theorem op_in {i : Nat} {K : Act → World → Prop} {a : Act} {w : World} (hd : ∀ o : Oper, ops[i]? = some o → ∀ c, o.op ≠ Go.Op.defer c) (hno : ¬ LetsOut Q) (h : wpOp P ops Q i K a w) : wpOpIn (Fence.wide.inRound k) m P ops Q i K a w := by
  unfold wpOp at h
  unfold wpOpIn
  cases hi : ops[i]? with
  | none => rw [hi] at h; exact h
  | some o =>
    rw [hi] at h
    simp only at h ⊢
    split
    · rename_i hw
      rw [if_pos hw] at h
      rcases h with h | ⟨_, h⟩
      · unfold Oper.wpIn
        refine ⟨fun f _ => trivial, ?_⟩
        rw [Oper.semAt_plain _ _ _ (hd o hi)]
        unfold Oper.wp at h
        generalize (execOp a.eval o).run P w = r at *
        cases r with
        | ok n w' =>
          cases n with
          | value v => exact h
          | skip => exact h
          | defer d => exact h
          | enter f args =>
            refine ⟨fun c => (by cases c), ?_⟩
            exact (CallsIn.inRound _ (callsIn_wide.2 h)).mono fun e w'' he => by cases e <;> exact he
          | row row args =>
            refine ⟨fun c => (by cases c), fun c cs _ => ?_⟩
            obtain ⟨v, w'', h1, h2⟩ := h c cs
            exact ⟨v, w'', h1, stepsIn_wide.2 h2⟩
          | _ => exact h.elim
        | halt x w' =>
          cases x with
          | panic v => exact h
          | _ => exact h.elim
      · exact absurd h hno
    · rename_i hw
      rw [if_neg hw] at h
      exact ⟨fun f _ => trivial, h⟩
theorem any_in (hd : ∀ (i : Nat) (o : Oper), ops[i]? = some o → ∀ c, o.op ≠ Go.Op.defer c) (hno : ¬ LetsOut Q) : ∀ (fuel : Nat) (listed : Array Bool) (a : Act) (w : World), wpAny P md ops Q fuel listed a w → wpAnyIn (Fence.wide.inRound k) m P md ops Q fuel listed a w
  | 0, _, _, _, h => h
  | fuel + 1, listed, a, w, h => ⟨h.1, fun i hi => op_in (hd i) hno (wpOp_mono (fun a' w' h' => any_in hd hno fuel _ a' w' h') (h.2 i hi))⟩
end

/-- the law of a plan, within a round -/
theorem region_in {P : Program} {Q : Exit → Act → World → Prop} {k m id : Nat} {l : List Oper} {a : Act} {w : World} (pl : List (Nat × Kd)) (s : Nat) (T S : World → Prop) (n0 : Nat) (hm : P.follows .mixedOrders = true) (hd : (l.all fun o => match o.op with | Go.Op.defer _ => false | _ => true) = true) (hno : ¬ LetsOut Q)
    (hB : (placeB s pl && (decide (pl.length = l.length) && (Region.noSelect l.toArray && planB .any l.toArray s pl.length pl (Array.replicate l.length false)))) = true)
    (hQ : ∀ d v c a w, Q (.panic c) a w → Q (.panic c) (a.put d v) w) (hQ' : ∀ d v c a w, Q (.panic c) (a.put d v) w → Q (.panic c) a w)
    (hmk : ∀ j o, (j, Kd.made) ∈ pl → l.toArray[j]? = some o → ∃ obj, Makes P o obj) (hst : Stab S) (hT : ∀ u, S u → T u) (hS : S w.drew) (hz : ∀ u, S u → n0 ≤ u.heap.size)
    (h : wpPl P l.toArray Q T n0 s pl true [] a S) : (Code.region id l.toArray true).wpIn (Fence.wide.inRound k) m P Q a w := by
  refine wpIn_region_any hm (any_in (fun i o ho c e => ?_) hno _ _ _ _ (region_any pl s T S n0 hB hQ hQ' hmk hst hT hS hz h))
  have h1 : o ∈ l := List.mem_of_getElem? (by rw [List.getElem?_toArray] at ho; exact ho)
  have h2 := List.all_eq_true.1 hd o h1
  rw [e] at h2
  cases h2

end Go.Proofs.YtcoagmkncjonmaaDoor.Hx
