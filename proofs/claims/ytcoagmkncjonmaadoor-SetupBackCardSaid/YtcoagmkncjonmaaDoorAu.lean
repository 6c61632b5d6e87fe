/- A region that draws its order, whose calls make memory: of the world only what holds of it is told (a condition that what is made later leaves as it is); an operation that yields one value in every such world (a load, a move, a call that hands back a value, whatever it makes) is taken in the text's order. No function of the program is spoken of here. A region that draws its order, with a store behind its loads: what its loads read holds till the store comes up. No function of the program is spoken of here. The same as Au, with operations from s on that wait for all that is taken ahead: from the first of them on the world is told as it is. No function of the program is spoken of here. As Av: a region in whatever order. What is taken ahead is known of all worlds that T is told of; what the world is told as may change under way, within T. No function of the program is spoken of here. More of a drawn region told by what holds of its worlds (Au): three operations that may come up next; one operation alone, where what the world is told as changes (AvT). No function of the program is spoken of here. More of a drawn region where what the world is told as changes (AvT): more may be told of all worlds to come; two and three operations that may come up next. No function of the program is spoken of here. -/
import Derived.Test.YtcoagmkncjonmaaDoorSt
import Derived.Deep.Quiet
import Derived.Orders
import Derived.OrdersHeld
import Derived.Laws.Tables
import Derived.Deep.RegionHeld
import Derived.WalkKit
import Derived.Test.YtcoagmkncjonmaaDoorChecked
import Derived.Deep.MidRow
namespace Go.Proofs.YtcoagmkncjonmaaDoor.Au
open Go.RowKit Go.Sort
open St (Kept)
set_option linter.unusedVariables false

section
variable {P : Program} {ops : Array Oper} {Q : Exit → Act → World → Prop} {md : Region.Mode} {S S' : World → Prop}

/-- what is made later leaves it as it is -/
def Stab (S : World → Prop) : Prop := ∀ u u', S u → Kept u u' → S u'
theorem stab_and {S T : World → Prop} (h : Stab S) (k : Stab T) : Stab (fun u => S u ∧ T u) := fun u u' ⟨a, b⟩ kk => ⟨h u u' a kk, k u u' b kk⟩
theorem stab_kept (W : World) : Stab (Kept W) := fun u u' h k => h.trans k

/-- one value in every such world -/
def YQ (P : Program) (ops : Array Oper) (S : World → Prop) (o : Oper) (v : Value) (a : Act) : Prop :=
  (Region.wanted o (yielded ops a.tmps) = true ∧ ∀ w, S w → o.quietAt P a (fun w' => Kept w w') w v) ∨ (Region.wanted o (yielded ops a.tmps) = false ∧ v = undef)
theorem YQ.sub {o : Oper} {v : Value} {a : Act} (h : YQ P ops S o v a) (hs : ∀ u, S' u → S u) : YQ P ops S' o v a := h.imp (fun ⟨a, b⟩ => ⟨a, fun w hw => b w (hs w hw)⟩) id
theorem YQ.of_same {o : Oper} {v : Value} {a a' : Act} (hy : YQ P ops S o v a) (he : execOp a'.eval o = execOp a.eval o)
    (hw : Region.wanted o (yielded ops a'.tmps) = Region.wanted o (yielded ops a.tmps)) : YQ P ops S o v a' := by
  unfold YQ Oper.quietAt at *
  rw [he, hw]
  exact hy
theorem YQ.wpOp {i : Nat} {o : Oper} {v : Value} {a : Act} (hi : ops[i]? = some o) (hy : YQ P ops S o v a)
    {K : Act → World → Prop} {w : World} (hS : S w) (h : ∀ w', Kept w w' → K (a.put o.dst v) w') : wpOp P ops Q i K a w := by
  unfold Go.wpOp
  simp only [hi]
  rcases hy with ⟨hw, hv⟩ | ⟨hw, rfl⟩
  · simp only [hw, if_true]
    refine .inl ?_
    have h3 := hv w hS
    unfold Oper.quietAt at h3
    unfold Oper.wp
    generalize (execOp a.eval o).run P w = r at *
    cases r with
    | ok n w' =>
      cases n <;> simp only [Oper.quietUpon] at h3 <;> simp only [Oper.upon]
      case value u =>
        obtain ⟨e1, e2⟩ := h3
        rw [e1, e2]
        exact h _ (Kept.refl w)
      case skip =>
        obtain ⟨e1, e2⟩ := h3
        rw [e1, ← e2]
        exact h _ (Kept.refl w)
      case enter f args =>
        obtain ⟨e1, hc⟩ := h3
        rw [e1]
        exact hc.mono fun e w'' ⟨he, hw''⟩ => by subst he; exact h _ hw''
    | halt x w' => simp only [Oper.quietUpon] at h3
  · simp only [hw, Bool.false_eq_true, if_false]; exact h w (Kept.refl w)

/-- one operation oj, apart from oi: whether oi's value is in its slot already makes no difference to it -/
theorem wpOp_putQ {j : Nat} {oi oj : Oper} {v : Value} (hj : ops[j]? = some oj) (hap : oi.apart ops oj = true)
    (hsi : ∀ cs b, oi.op ≠ .select cs b) (hsj : ∀ cs b, oj.op ≠ .select cs b)
    (hQ : ∀ c a w, Q (.panic c) (a.put oi.dst v) w → Q (.panic c) a w) {K : Act → World → Prop} {a : Act} {w : World}
    (hy : YQ P ops S oi v a) (h : Go.wpOp P ops Q j K (a.put oi.dst v) w) :
    Go.wpOp P ops Q j (fun a' w' => YQ P ops S oi v a' ∧ K (a'.put oi.dst v) w') a w := by
  obtain ⟨h1, h2, h3⟩ := Oper.apart_spec hap
  have keep : ∀ (a : Act), YQ P ops S oi v a → ∀ u, YQ P ops S oi v (a.put oj.dst u) := fun a hy u =>
    hy.of_same (execOp_put oi hsi a oj.dst u h3) (wanted_put oi a oj.dst u h3)
  have keepD : ∀ d, YQ P ops S oi v { a with defers := d :: a.defers } := fun d => hy.of_same rfl rfl
  unfold Go.wpOp at *
  simp only [hj] at *
  rw [wanted_put oj a oi.dst v h1] at h
  split
  · rename_i hw
    simp only [hw, if_true] at h
    rcases h with h | ⟨hasks, hlets⟩
    case inr => exact .inr ⟨by unfold Oper.asks at *; rw [execOp_put oj hsj a oi.dst v h1] at hasks; exact hasks, hlets⟩
    refine .inl ?_
    unfold Oper.wp at *
    rw [execOp_put oj hsj a oi.dst v h1] at h
    generalize (execOp a.eval oj).run P w = r at *
    cases r with
    | ok n w' =>
      cases n <;> simp only [Oper.upon] at h ⊢
      case value u => exact ⟨keep a hy u, by rw [← Act.put_comm a v u h2]; exact h⟩
      case skip => exact ⟨keep a hy _, by rw [← Act.put_comm a v undef h2]; exact h⟩
      case defer d =>
        refine ⟨keep _ (keepD d) _, ?_⟩
        rw [← Act.put_comm _ v undef h2, ← Act.put_defers]
        exact h
      case enter f args =>
        refine Calls.mono h fun e w'' he => ?_
        cases e with
        | returned u => exact ⟨keep a hy u, by rw [← Act.put_comm a v u h2]; exact he⟩
        | panicked c => exact hQ _ _ _ he
        | outgrown => exact he
      case row row args => exact Rows.mono h fun u w'' he => ⟨keep a hy u, by rw [← Act.put_comm a v u h2]; exact he⟩
    | halt x w' =>
      cases x <;> simp only [Oper.upon] at h ⊢
      case panic u => exact hQ _ _ _ h
  · rename_i hw
    simp only [hw] at h
    exact ⟨keep a hy _, by rw [← Act.put_comm a v undef h2]; exact h⟩

/-- whatever order is picked from here on; of the world S is told -/
def wpAnyU (P : Program) (md : Region.Mode) (ops : Array Oper) (Q : Exit → Act → World → Prop) : Nat → Array Bool → Act → (World → Prop) → Prop
  | 0, listed, a, S => Region.ready md ops listed = [] ∧ ∀ w, S w → Q .normal a w
  | fuel + 1, listed, a, S => ∀ w, S w → (Region.ready md ops listed = [] → Q .normal a w) ∧
    ∀ i ∈ Region.ready md ops listed, Go.wpOp P ops Q i (fun a' w' => ∃ S' : World → Prop, S' w' ∧ Stab S' ∧ (∀ u, S' u → S u) ∧ wpAnyU P md ops Q fuel (listed.setIfInBounds i true) a' S') a w

theorem wpAny_of_u : ∀ (fuel : Nat) (listed : Array Bool) (a : Act) (S : World → Prop) (w : World), S w → wpAnyU P md ops Q fuel listed a S → wpAny P md ops Q fuel listed a w
  | 0, _, _, _, w, hS, h => ⟨h.1, h.2 w hS⟩
  | fuel + 1, _, _, _, w, hS, h => ⟨(h w hS).1, fun i hi => wpOp_mono (fun a' w' ⟨S', h1, _, _, h4⟩ => wpAny_of_u fuel _ a' S' w' h1 h4) ((h w hS).2 i hi)⟩

theorem u_first {i : Nat} {oi : Oper} {v : Value} (hi : ops[i]? = some oi) (hsel : ∀ (j : Nat) (o : Oper) cs b, ops[j]? = some o → o.op ≠ .select cs b)
    (hQ : ∀ c a w, Q (.panic c) (a.put oi.dst v) w → Q (.panic c) a w) :
    ∀ (fuel : Nat) (listed : Array Bool) (a : Act) (S : World → Prop), Stab S →
      (∀ j oj, ops[j]? = some oj → j ≠ i → listed.getD j true = false → (∀ e ∈ oj.after, Region.binds md e = true → e.on ≠ i) → oi.apart ops oj = true) →
      i ∈ Region.ready md ops listed → YQ P ops S oi v a →
      wpAnyU P md ops Q fuel (listed.setIfInBounds i true) (a.put oi.dst v) S → wpAnyU P md ops Q (fuel + 1) listed a S := by
  intro fuel
  induction fuel with
  | zero =>
    intro listed a S hst _ hr hy H w hS
    refine ⟨fun h => (by rw [h] at hr; cases hr), fun j hj => ?_⟩
    by_cases hji : j = i
    · subst hji; exact hy.wpOp hi hS fun w' k => ⟨S, hst _ _ hS k, hst, fun _ h => h, H⟩
    · have := ready_mono hj hji
      rw [H.1] at this
      cases this
  | succ fuel ih =>
    intro listed a S hst hfree hr hy H w hS
    refine ⟨fun h => (by rw [h] at hr; cases hr), fun j hj => ?_⟩
    by_cases hji : j = i
    · subst hji; exact hy.wpOp hi hS fun w' k => ⟨S, hst _ _ hS k, hst, fun _ h => h, H⟩
    · have h1 := (H w hS).2 j (ready_mono hj hji)
      obtain ⟨hjun, oj, hoj, hall⟩ := mem_ready.1 hj
      have hiun := (mem_ready.1 hr).1
      have hnot : ∀ e ∈ oj.after, Region.binds md e = true → e.on ≠ i := fun e he hb heq => by
        have h1 := hall e he hb
        rw [heq] at h1
        rcases Nat.lt_or_ge i listed.size with h' | h'
        · simp [h'] at hiun h1; rw [hiun] at h1; cases h1
        · simp [Array.getElem?_eq_none h'] at h1
      have h2 := wpOp_putQ hoj (hfree j oj hoj hji hjun hnot) (fun cs b => hsel i oi cs b hi) (fun cs b => hsel j oj cs b hoj) hQ hy h1
      have hfree' : ∀ k ok, ops[k]? = some ok → k ≠ i → (listed.setIfInBounds j true).getD k true = false →
          (∀ e ∈ ok.after, Region.binds md e = true → e.on ≠ i) → oi.apart ops ok = true := fun k ok hk hki hun hno => by
        refine hfree k ok hk hki ?_ hno
        by_cases hjk : j = k
        · subst hjk; exact hjun
        · rw [getD_set_ne true hjk] at hun; exact hun
      have hcomm : (listed.setIfInBounds i true).setIfInBounds j true = (listed.setIfInBounds j true).setIfInBounds i true := Array.setIfInBounds_comm _ _ (Ne.symm hji)
      refine wpOp_mono (fun a' w' h3 => ?_) h2
      obtain ⟨hy3, S', hS', hst', hsub, h4⟩ := h3
      rw [hcomm] at h4
      exact ⟨S', hS', hst', hsub, ih (listed.setIfInBounds j true) a' S' hst' hfree' (ready_mono hr (Ne.symm hji)) (hy3.sub hsub) h4⟩

/-- an operation that yields one value is taken first -/
theorem take (i : Nat) (d : Option Tmp) {oi : Oper} {v : Value} {fuel : Nat} {listed : Array Bool} {a : Act} (hi : ops[i]? = some oi) (hd : oi.dst = d)
    (hs : Region.noSelect ops = true) (hf : Region.free md ops listed i = true) (hr : (Region.ready md ops listed).contains i = true)
    (hQ : ∀ c a w, Q (.panic c) (a.put oi.dst v) w → Q (.panic c) a w) (hS : Stab S) (hy : YQ P ops S oi v a)
    (h : wpAnyU P md ops Q fuel (listed.setIfInBounds i true) (a.put d v) S) : wpAnyU P md ops Q (fuel + 1) listed a S :=
  u_first hi (Region.noSelect_spec hs) hQ fuel listed a S hS (Region.free_spec hi hf) (by simpa using hr) hy (by rw [hd]; exact h)
/-- operation i comes up next, alone -/
theorem step (i : Nat) {o : Oper} {fuel : Nat} {listed : Array Bool} {a : Act} (ho : ops[i]? = some o) (hr : Region.ready md ops listed = [i])
    (h : ∀ w, S w → ∀ K' : Act → World → Prop, Shut (∀ (S' : World → Prop) (a : Act) (w : World), S' w → Stab S' → (∀ u, S' u → S u) → wpAnyU P md ops Q fuel (listed.setIfInBounds i true) a S' → K' a w) → if Region.wanted o (yielded ops a.tmps) = true then Oper.wp P o a w K' Q else K' (a.put o.dst undef) w) :
    wpAnyU P md ops Q (fuel + 1) listed a S := fun w hw =>
  ⟨fun h0 => (by rw [hr] at h0; cases h0), fun j hj => by
    rw [hr] at hj
    obtain rfl : j = i := by simpa using hj
    exact wpOp_step ho (fun K' hK => h w hw K' (fun S' a w h1 h2 h3 h4 => hK a w ⟨S', h1, h2, h3, h4⟩))⟩
/-- two operations may come up next -/
theorem fork (i j : Nat) {oi oj : Oper} {fuel : Nat} {listed : Array Bool} {a : Act} (hi : ops[i]? = some oi) (hj : ops[j]? = some oj) (hr : Region.ready md ops listed = [i, j])
    (h1 : ∀ w, S w → ∀ K' : Act → World → Prop, Shut (∀ (S' : World → Prop) (a : Act) (w : World), S' w → Stab S' → (∀ u, S' u → S u) → wpAnyU P md ops Q fuel (listed.setIfInBounds i true) a S' → K' a w) → if Region.wanted oi (yielded ops a.tmps) = true then Oper.wp P oi a w K' Q else K' (a.put oi.dst undef) w)
    (h2 : ∀ w, S w → ∀ K' : Act → World → Prop, Shut (∀ (S' : World → Prop) (a : Act) (w : World), S' w → Stab S' → (∀ u, S' u → S u) → wpAnyU P md ops Q fuel (listed.setIfInBounds j true) a S' → K' a w) → if Region.wanted oj (yielded ops a.tmps) = true then Oper.wp P oj a w K' Q else K' (a.put oj.dst undef) w) :
    wpAnyU P md ops Q (fuel + 1) listed a S := fun w hw =>
  ⟨fun h0 => (by rw [hr] at h0; cases h0), fun k hk => by
    rw [hr] at hk
    have hk2 : k = i ∨ k = j := by simpa using hk
    rcases hk2 with rfl | rfl
    · exact wpOp_step hi (fun K' hK => h1 w hw K' (fun S' a w h1 h2 h3 h4 => hK a w ⟨S', h1, h2, h3, h4⟩))
    · exact wpOp_step hj (fun K' hK => h2 w hw K' (fun S' a w h1 h2 h3 h4 => hK a w ⟨S', h1, h2, h3, h4⟩))⟩
/-- all have come up -/
theorem done {fuel : Nat} {listed : Array Bool} {a : Act} (hr : Region.ready md ops listed = []) (h : ∀ w, S w → Q .normal a w) : wpAnyU P md ops Q fuel listed a S := by
  cases fuel with
  | zero => exact ⟨hr, h⟩
  | succ n => exact fun w hw => ⟨fun _ => h w hw, by rw [hr]; simp⟩
/-- the beginning -/
theorem region (S : World → Prop) {id : Nat} {a : Act} {w : World} (hm : P.follows .mixedOrders = true) (hS : S w.drew) (h : wpAnyU P .any ops Q ops.size (Array.replicate ops.size false) a S) : (Code.region id ops true).wp P Q a w :=
  wp_region_any hm (wpAny_of_u _ _ _ S _ hS h)

/-- operation i stores a row; it comes up next, alone -/
theorem store (i : Nat) (ty : TypeId) (x y : Operand) {o : Oper} {fuel : Nat} {listed : Array Bool} {a : Act} (ho : ops[i]? = some o) (hr : Region.ready md ops listed = [i]) (hw : Region.wanted o (yielded ops a.tmps) = true)
    (hop : o.op = .store ty x y) (hd : o.dst = none) (g : Nat) (cells : Array Value) (hx : a.eval x = .pointer (some ⟨g, 0, none⟩)) (hy : a.eval y = .agg cells) (t : TypeId) (hold : ∀ w, S w → ∃ old, w.heap[g]? = some (.cells old t (0, 0)) ∧ old.size = cells.size) (hi : (P.info? ty).map (·.size) = some cells.size)
    (h1 : cells.all (·.oneCell') = true) (T : World → Prop) (hT : Stab T) (hS : Stab S) (hTS : ∀ w, S w → S (w.setRow g cells)) (hTT : ∀ w, S w → T (w.setRow g cells))
    (h : wpAnyU P md ops Q fuel (listed.setIfInBounds i true) a (fun u => S u ∧ T u)) : wpAnyU P md ops Q (fuel + 1) listed a S :=
  step i ho hr fun w hw0 K hK => by
    obtain ⟨old, hg, hsz⟩ := hold w hw0
    rw [if_pos hw]
    exact wp_store_row ty x y hop g cells hx hy t old hg hi hsz h1 (by rw [hd]; exact hK.out (fun u => S u ∧ T u) _ _ ⟨hTS w hw0, hTT w hw0⟩ (stab_and hS hT) (fun u hu => hu.1) h)

/-! what yields one value -/
theorem yq_run {o : Oper} {a : Act} {v : Value} (hw : Region.wanted o (yielded ops a.tmps) = true) (h : ∀ w, S w → (execOp a.eval o).run P w = .ok (.value v) w) : YQ P ops S o v a :=
  .inl ⟨hw, fun w hS => by unfold Oper.quietAt; rw [h w hS]; exact ⟨rfl, rfl⟩⟩
theorem yq_skip {o : Oper} {a : Act} (hw : Region.wanted o (yielded ops a.tmps) = false) : YQ P ops S o undef a := .inr ⟨hw, rfl⟩
theorem yq_load {o : Oper} {a : Act} {v : Value} (ty : TypeId) (x : Operand) (ho : o.op = .load ty x) (p : Addr) (hx : a.eval x = .pointer (some p)) (hw : Region.wanted o (yielded ops a.tmps) = true)
    (hl : ∀ w, S w → (loadVar ty p).run P w = .ok v w) : YQ P ops S o v a :=
  yq_run hw fun w hSw => by
    unfold execOp
    simp only [ho, hx, Instr.loadAt, Instr.sureAddr, Sem.run_bind, Sem.run_pure, Result.andThen_ok, hl w hSw]
theorem yq_call {o : Oper} {a : Act} {v : Value} (f : FuncId) (args : Array Value) (hw : Region.wanted o (yielded ops a.tmps) = true) (hr : ∀ w, (execOp a.eval o).run P w = .ok (.enter f args) w)
    (hc : ∀ w, S w → Calls P f args w fun e w' => e = .returned v ∧ Kept w w') : YQ P ops S o v a :=
  .inl ⟨hw, fun w hS => by unfold Oper.quietAt; rw [hr w]; exact ⟨rfl, hc w hS⟩⟩
end

end Go.Proofs.YtcoagmkncjonmaaDoor.Au

namespace Go.Proofs.YtcoagmkncjonmaaDoor.Hg
open Go.RowKit
set_option linter.unusedVariables false

section
variable {P : Program} {ops : Array Oper} {Q : Exit → Act → World → Prop} {md : Region.Mode} {s : Nat} {S : World → Prop}

/-- whatever order is picked from here on; till operation s comes up the condition holds -/
def wpAnyG (P : Program) (md : Region.Mode) (ops : Array Oper) (Q : Exit → Act → World → Prop) (s : Nat) (S : World → Prop) : Nat → Array Bool → Act → World → Prop
  | 0, listed, a, w => Region.ready md ops listed = [] ∧ Q .normal a w
  | fuel + 1, listed, a, w =>
    (Region.ready md ops listed = [] → Q .normal a w) ∧
    ∀ i ∈ Region.ready md ops listed, wpOp P ops Q i (fun a' w' => ((listed.setIfInBounds i true).getD s true = false → S w') ∧ wpAnyG P md ops Q s S fuel (listed.setIfInBounds i true) a' w') a w

theorem wpAny_of_g : ∀ (fuel : Nat) (listed : Array Bool) (a : Act) (w : World), wpAnyG P md ops Q s S fuel listed a w → wpAny P md ops Q fuel listed a w
  | 0, _, _, _, h => h
  | fuel + 1, _, _, _, h => ⟨h.1, fun i hi => wpOp_mono (fun a' w' h' => wpAny_of_g fuel _ a' w' h'.2) (h.2 i hi)⟩

/-- operation s waits for operation i -/
def waits (md : Region.Mode) (ops : Array Oper) (s i : Nat) : Bool :=
  match ops[s]? with
  | some o => o.after.any fun e => Region.binds md e && e.on == i
  | none => false
theorem not_ready {i : Nat} {listed : Array Bool} (hw : waits md ops s i = true) (hu : listed.getD i true = false) : s ∉ Region.ready md ops listed := fun hr => by
  obtain ⟨_, o, ho, hall⟩ := mem_ready.1 hr
  simp only [waits, ho, Array.any_eq_true', Bool.and_eq_true, beq_iff_eq] at hw
  obtain ⟨e, he, hb, rfl⟩ := hw
  have := hall e he hb
  rcases Nat.lt_or_ge e.on listed.size with h | h
  · simp [h] at hu this
    rw [hu] at this
    cases this
  · simp [Array.getElem?_eq_none h] at hu

/-- the condition under which operation i yields: the region's own, where s waits for i; else none -/
theorem wpAnyG_first {i : Nat} {oi : Oper} {v : Value} {T : World → Prop} (his : i ≠ s) (hT : (∀ w, T w) ∨ waits md ops s i = true ∧ ∀ w, S w → T w) (hi : ops[i]? = some oi) (hsel : ∀ (j : Nat) (o : Oper) cs b, ops[j]? = some o → o.op ≠ .select cs b)
    (hQ : ∀ c a w, Q (.panic c) (a.put oi.dst v) w → Q (.panic c) a w) :
    ∀ (fuel : Nat) (listed : Array Bool) (a : Act) (w : World),
      (∀ j oj, ops[j]? = some oj → j ≠ i → listed.getD j true = false → (∀ e ∈ oj.after, Region.binds md e = true → e.on ≠ i) → oi.apart ops oj = true) →
      i ∈ Region.ready md ops listed → YieldsIf P ops T oi v a → ((∀ w, T w) ∨ listed.getD s true = false) → (listed.getD s true = false → S w) →
      wpAnyG P md ops Q s S fuel (listed.setIfInBounds i true) (a.put oi.dst v) w → wpAnyG P md ops Q s S (fuel + 1) listed a w := by
  have hTw : ∀ (listed : Array Bool) (w : World), ((∀ w, T w) ∨ listed.getD s true = false) → (listed.getD s true = false → S w) → T w := fun listed w h1 h2 => by
    rcases h1 with h1 | h1
    · exact h1 w
    · rcases hT with hT | hT
      · exact hT w
      · exact hT.2 w (h2 h1)
  intro fuel
  induction fuel with
  | zero =>
    intro listed a w _ hr hy hs hS H
    refine ⟨fun h => (by rw [h] at hr; cases hr), fun j hj => ?_⟩
    by_cases hji : j = i
    · subst hji; exact hy.wpOp hi (hTw listed w hs hS) ⟨fun h => hS (by rw [getD_set_ne true his] at h; exact h), H⟩
    · have := ready_mono hj hji
      rw [H.1] at this
      cases this
  | succ fuel ih =>
    intro listed a w hfree hr hy hs hS H
    refine ⟨fun h => (by rw [h] at hr; cases hr), fun j hj => ?_⟩
    by_cases hji : j = i
    · subst hji; exact hy.wpOp hi (hTw listed w hs hS) ⟨fun h => hS (by rw [getD_set_ne true his] at h; exact h), H⟩
    · have h1 := H.2 j (ready_mono hj hji)
      obtain ⟨hjun, oj, hoj, hall⟩ := mem_ready.1 hj
      have hiun := (mem_ready.1 hr).1
      have hnot : ∀ e ∈ oj.after, Region.binds md e = true → e.on ≠ i := fun e he hb heq => by
        have h1 := hall e he hb
        rw [heq] at h1
        rcases Nat.lt_or_ge i listed.size with h' | h'
        · simp [h'] at hiun h1; rw [hiun] at h1; cases h1
        · simp [Array.getElem?_eq_none h'] at h1
      have h2 := wpOp_putIf hoj (hfree j oj hoj hji hjun hnot) (fun cs b => hsel i oi cs b hi) (fun cs b => hsel j oj cs b hoj) hQ hy h1
      have hfree' : ∀ k ok, ops[k]? = some ok → k ≠ i → (listed.setIfInBounds j true).getD k true = false →
          (∀ e ∈ ok.after, Region.binds md e = true → e.on ≠ i) → oi.apart ops ok = true := fun k ok hk hki hun hno => by
        refine hfree k ok hk hki ?_ hno
        by_cases hjk : j = k
        · subst hjk; exact hjun
        · rw [getD_set_ne true hjk] at hun; exact hun
      have hcomm : (listed.setIfInBounds i true).setIfInBounds j true = (listed.setIfInBounds j true).setIfInBounds i true := Array.setIfInBounds_comm _ _ (Ne.symm hji)
      have hs' : (∀ w, T w) ∨ (listed.setIfInBounds j true).getD s true = false := by
        rcases hT with hT | hT
        · exact .inl hT
        · rcases hs with hs | hs
          · exact .inl hs
          · have hjs : j ≠ s := fun e => by subst e; exact not_ready hT.1 hiun hj
            exact .inr (by rw [getD_set_ne true hjs]; exact hs)
      refine wpOp_mono (fun a' w' h3 => ?_) h2
      obtain ⟨hy3, hS3, h3⟩ := h3
      rw [hcomm, getD_set_ne true his] at hS3
      rw [hcomm] at h3
      exact ⟨hS3, ih (listed.setIfInBounds j true) a' w' hfree' (ready_mono hr (Ne.symm hji)) hy3 hs' hS3 h3⟩

/-- an operation for which s waits is taken first -/
theorem take_b (i : Nat) (d : Option Tmp) {oi : Oper} {v : Value} {fuel : Nat} {listed : Array Bool} {a : Act} {w : World} (hi : ops[i]? = some oi) (hd : oi.dst = d)
    (hs : Region.noSelect ops = true) (hf : Region.free md ops listed i = true) (hr : (Region.ready md ops listed).contains i = true) (hb : (waits md ops s i && (i != s) && !listed.getD s true) = true)
    (hQ : ∀ c a w, Q (.panic c) (a.put oi.dst v) w → Q (.panic c) a w) (hy : YieldsIf P ops S oi v a) (hS : S w)
    (h : wpAnyG P md ops Q s S fuel (listed.setIfInBounds i true) (a.put d v) w) : wpAnyG P md ops Q s S (fuel + 1) listed a w := by
  simp only [Bool.and_eq_true, bne_iff_ne, Bool.not_eq_true'] at hb
  exact wpAnyG_first hb.1.2 (.inr ⟨hb.1.1, fun _ h => h⟩) hi (Region.noSelect_spec hs) hQ fuel listed a w (Region.free_spec hi hf) (by simpa using hr) hy (.inr hb.2) (fun _ => hS) (by rw [hd]; exact h)
/-- an operation that yields in whatever world is taken first -/
theorem take_p (i : Nat) (d : Option Tmp) {oi : Oper} {v : Value} {fuel : Nat} {listed : Array Bool} {a : Act} {w : World} (hi : ops[i]? = some oi) (hd : oi.dst = d)
    (hs : Region.noSelect ops = true) (hf : Region.free md ops listed i = true) (hr : (Region.ready md ops listed).contains i = true) (hb : (i != s) = true)
    (hQ : ∀ c a w, Q (.panic c) (a.put oi.dst v) w → Q (.panic c) a w) (hy : YieldsIf P ops (fun _ => True) oi v a) (hS : listed.getD s true = false → S w)
    (h : wpAnyG P md ops Q s S fuel (listed.setIfInBounds i true) (a.put d v) w) : wpAnyG P md ops Q s S (fuel + 1) listed a w :=
  wpAnyG_first (by simpa using hb) (.inl fun _ => trivial) hi (Region.noSelect_spec hs) hQ fuel listed a w (Region.free_spec hi hf) (by simpa using hr) hy (.inl fun _ => trivial) hS (by rw [hd]; exact h)
/-- operation i comes up next, alone, ahead of s -/
theorem step_b (i : Nat) {o : Oper} {fuel : Nat} {listed : Array Bool} {a : Act} {w : World} (ho : ops[i]? = some o) (hr : Region.ready md ops listed = [i])
    (h : ∀ K' : Act → World → Prop, Shut (∀ a w, S w → wpAnyG P md ops Q s S fuel (listed.setIfInBounds i true) a w → K' a w) → if Region.wanted o (yielded ops a.tmps) = true then Oper.wp P o a w K' Q else K' (a.put o.dst undef) w) :
    wpAnyG P md ops Q s S (fuel + 1) listed a w :=
  ⟨fun h0 => (by rw [hr] at h0; cases h0), fun j hj => by
    rw [hr] at hj
    obtain rfl : j = i := by simpa using hj
    exact wpOp_step ho (fun K' hK => h K' (fun a w hS hW => hK a w ⟨fun _ => hS, hW⟩))⟩
/-- operation s, or one behind it, comes up next, alone -/
theorem step_s (i : Nat) {o : Oper} {fuel : Nat} {listed : Array Bool} {a : Act} {w : World} (ho : ops[i]? = some o) (hr : Region.ready md ops listed = [i]) (hl : (listed.setIfInBounds i true).getD s true = true)
    (h : ∀ K' : Act → World → Prop, Shut (∀ a w, wpAnyG P md ops Q s S fuel (listed.setIfInBounds i true) a w → K' a w) → if Region.wanted o (yielded ops a.tmps) = true then Oper.wp P o a w K' Q else K' (a.put o.dst undef) w) :
    wpAnyG P md ops Q s S (fuel + 1) listed a w :=
  ⟨fun h0 => (by rw [hr] at h0; cases h0), fun j hj => by
    rw [hr] at hj
    obtain rfl : j = i := by simpa using hj
    exact wpOp_step ho (fun K' hK => h K' (fun a w hW => hK a w ⟨fun h0 => (by rw [hl] at h0; cases h0), hW⟩))⟩
/-- two operations may come up next, both ahead of s -/
theorem fork_b (i j : Nat) {oi oj : Oper} {fuel : Nat} {listed : Array Bool} {a : Act} {w : World} (hi : ops[i]? = some oi) (hj : ops[j]? = some oj) (hr : Region.ready md ops listed = [i, j])
    (h1 : ∀ K' : Act → World → Prop, Shut (∀ a w, S w → wpAnyG P md ops Q s S fuel (listed.setIfInBounds i true) a w → K' a w) → if Region.wanted oi (yielded ops a.tmps) = true then Oper.wp P oi a w K' Q else K' (a.put oi.dst undef) w)
    (h2 : ∀ K' : Act → World → Prop, Shut (∀ a w, S w → wpAnyG P md ops Q s S fuel (listed.setIfInBounds j true) a w → K' a w) → if Region.wanted oj (yielded ops a.tmps) = true then Oper.wp P oj a w K' Q else K' (a.put oj.dst undef) w) :
    wpAnyG P md ops Q s S (fuel + 1) listed a w :=
  ⟨fun h0 => (by rw [hr] at h0; cases h0), fun k hk => by
    rw [hr] at hk
    have hk2 : k = i ∨ k = j := by simpa using hk
    rcases hk2 with rfl | rfl
    · exact wpOp_step hi (fun K' hK => h1 K' (fun a w hS hW => hK a w ⟨fun _ => hS, hW⟩))
    · exact wpOp_step hj (fun K' hK => h2 K' (fun a w hS hW => hK a w ⟨fun _ => hS, hW⟩))⟩
/-- operation s stores a row -/
theorem store_s (i : Nat) (ty : TypeId) (x y : Operand) {o : Oper} {fuel : Nat} {listed : Array Bool} {a : Act} {w : World} (ho : ops[i]? = some o) (hr : Region.ready md ops listed = [i]) (hl : (listed.setIfInBounds i true).getD s true = true) (hw : Region.wanted o (yielded ops a.tmps) = true)
    (hop : o.op = .store ty x y) (hd : o.dst = none) (g : Nat) (cells : Array Value) (hx : a.eval x = .pointer (some ⟨g, 0, none⟩)) (hy : a.eval y = .agg cells) (t : TypeId) (old : Array Value) (hg : w.heap[g]? = some (.cells old t (0, 0))) (hi : (P.info? ty).map (·.size) = some cells.size)
    (hold : old.size = cells.size) (h1 : cells.all (·.oneCell') = true) (h : wpAnyG P md ops Q s S fuel (listed.setIfInBounds i true) a (w.setRow g cells)) : wpAnyG P md ops Q s S (fuel + 1) listed a w :=
  step_s i ho hr hl (fun K hK => by rw [if_pos hw]; exact wp_store_row ty x y hop g cells hx hy t old hg hi hold h1 (by rw [hd]; exact hK.out _ _ h))
/-- all have come up -/
theorem done_g {fuel : Nat} {listed : Array Bool} {a : Act} {w : World} (hr : Region.ready md ops listed = []) (h : Q .normal a w) : wpAnyG P md ops Q s S fuel listed a w := by
  cases fuel with
  | zero => exact ⟨hr, h⟩
  | succ n => exact ⟨fun _ => h, by rw [hr]; simp⟩
/-- the beginning -/
theorem region_g (s : Nat) (S : World → Prop) {id : Nat} {a : Act} {w : World} (hm : P.follows .mixedOrders = true) (hS : S w.drew) (h : S w.drew → wpAnyG P .any ops Q s S ops.size (Array.replicate ops.size false) a w.drew) : (Code.region id ops true).wp P Q a w :=
  wp_region_any hm (wpAny_of_g _ _ _ _ (h hS))

/-- a load yields the row that every such world holds there -/
theorem yields_row {T : World → Prop} {o : Oper} {a : Act} {v : Value} (ty : TypeId) (x : Operand) (ho : o.op = .load ty x) (b n : Nat) (hx : a.eval x = .pointer (some ⟨b, n, none⟩)) (hw : Region.wanted o (yielded ops a.tmps) = true)
    (hl : ∀ w, T w → (loadVar ty ⟨b, n, none⟩).run P w = .ok v w) : YieldsIf P ops T o v a :=
  .inl ⟨hw, fun w hSw => by
    unfold execOp
    simp only [ho, hx, Instr.loadAt, Instr.sureAddr, Sem.run_bind, Sem.run_pure, Result.andThen_ok, hl w hSw]⟩
end

end Go.Proofs.YtcoagmkncjonmaaDoor.Hg

namespace Go.Proofs.YtcoagmkncjonmaaDoor.Av
open Go.RowKit Go.Sort
open St (Kept)
open Au (Stab stab_and stab_kept YQ wpOp_putQ yq_run yq_skip yq_load yq_call)
open Hg (waits not_ready)
set_option linter.unusedVariables false

section
variable {P : Program} {ops : Array Oper} {Q : Exit → Act → World → Prop} {md : Region.Mode} {S S' : World → Prop} {s : Nat}

/-- what is listed is listed with all that it waits for -/
def Closed (md : Region.Mode) (ops : Array Oper) (listed : Array Bool) : Prop := ∀ j oj, ops[j]? = some oj → listed.getD j false = true → ∀ e ∈ oj.after, Region.binds md e = true → listed.getD e.on false = true
def closedB (md : Region.Mode) (ops : Array Oper) (listed : Array Bool) : Bool :=
  (List.range ops.size).all fun j => match ops[j]? with
    | some o => !listed.getD j false || o.after.all fun e => !Region.binds md e || listed.getD e.on false
    | none => true
theorem closed_of {listed : Array Bool} (h : closedB md ops listed = true) : Closed md ops listed := fun j oj hj hl e he hb => by
  have hjs : j < ops.size := (Array.getElem?_eq_some_iff.1 hj).1
  have := List.all_eq_true.1 h j (List.mem_range.2 hjs)
  simp only [hj, Bool.or_eq_true, Bool.not_eq_true', Array.all_eq_true'] at this
  rcases this with h1 | h1
  · rw [hl] at h1; cases h1
  · rcases h1 e he with h2 | h2
    · rw [hb] at h2; cases h2
    · exact h2
theorem closed_set {i : Nat} {listed : Array Bool} (hc : Closed md ops listed) (hi : i ∈ Region.ready md ops listed) : Closed md ops (listed.setIfInBounds i true) := fun j oj hj hl e he hb => by
  obtain ⟨_, oi, hoi, hall⟩ := mem_ready.1 hi
  by_cases hij : i = j
  · subst hij
    have : oj = oi := Option.some.inj (hj.symm.trans hoi)
    subst this
    exact getD_set_true (hall e he hb)
  · rw [getD_set_ne false hij] at hl
    exact getD_set_true (hc j oj hj hl e he hb)
/-- operation j waits for operation i, at first or at last -/
def reach (md : Region.Mode) (ops : Array Oper) : Nat → Nat → Nat → Bool
  | 0, _, _ => false
  | n + 1, j, i => match ops[j]? with
    | some o => o.after.any fun e => Region.binds md e && (e.on == i || reach md ops n e.on i)
    | none => false
theorem reach_listed {listed : Array Bool} (hc : Closed md ops listed) {i : Nat} : ∀ (n j : Nat) (oj : Oper), ops[j]? = some oj → (∀ e ∈ oj.after, Region.binds md e = true → listed.getD e.on false = true) → reach md ops n j i = true → listed.getD i false = true
  | 0, _, _, _, _, h => by cases h
  | n + 1, j, oj, hj, hall, h => by
    simp only [reach, hj, Array.any_eq_true', Bool.and_eq_true, Bool.or_eq_true, beq_iff_eq] at h
    obtain ⟨e, he, hb, h1 | h1⟩ := h
    · rw [← h1]; exact hall e he hb
    · have hl := hall e he hb
      cases ho : ops[e.on]? with
      | none => cases n with
        | zero => cases h1
        | succ n => simp [reach, ho] at h1
      | some oe => exact reach_listed hc n e.on oe ho (fun e' he' hb' => hc e.on oe ho hl e' he' hb') h1
/-- all operations from s on wait for operation i -/
def sinkB (md : Region.Mode) (ops : Array Oper) (s i : Nat) : Bool := (List.range ops.size).all fun j => decide (j < s) || reach md ops 40 j i

/-- whatever order is picked from here on; of the world S is told -/
def wpAnyV (P : Program) (md : Region.Mode) (ops : Array Oper) (Q : Exit → Act → World → Prop) (s : Nat) : Nat → Array Bool → Act → (World → Prop) → Prop
  | 0, listed, a, S => Region.ready md ops listed = [] ∧ ∀ w, S w → Q .normal a w
  | fuel + 1, listed, a, S => ∀ w, S w → (Region.ready md ops listed = [] → Q .normal a w) ∧
    ∀ i ∈ Region.ready md ops listed, Go.wpOp P ops Q i (fun a' w' => ∃ S' : World → Prop, S' w' ∧ (i < s → Stab S' ∧ ∀ u, S' u → S u) ∧ wpAnyV P md ops Q s fuel (listed.setIfInBounds i true) a' S') a w

theorem wpAny_of_u : ∀ (fuel : Nat) (listed : Array Bool) (a : Act) (S : World → Prop) (w : World), S w → wpAnyV P md ops Q s fuel listed a S → wpAny P md ops Q fuel listed a w
  | 0, _, _, _, w, hS, h => ⟨h.1, h.2 w hS⟩
  | fuel + 1, _, _, _, w, hS, h => ⟨(h w hS).1, fun i hi => wpOp_mono (fun a' w' ⟨S', h1, _, h4⟩ => wpAny_of_u fuel _ a' S' w' h1 h4) ((h w hS).2 i hi)⟩

theorem u_first {i : Nat} {oi : Oper} {v : Value} (hb : sinkB md ops s i = true) (hi : ops[i]? = some oi) (hsel : ∀ (j : Nat) (o : Oper) cs b, ops[j]? = some o → o.op ≠ .select cs b)
    (hQ : ∀ c a w, Q (.panic c) (a.put oi.dst v) w → Q (.panic c) a w) :
    ∀ (fuel : Nat) (listed : Array Bool) (a : Act) (S : World → Prop), Stab S → Closed md ops listed →
      (∀ j oj, ops[j]? = some oj → j ≠ i → listed.getD j true = false → (∀ e ∈ oj.after, Region.binds md e = true → e.on ≠ i) → oi.apart ops oj = true) →
      i ∈ Region.ready md ops listed → YQ P ops S oi v a →
      wpAnyV P md ops Q s fuel (listed.setIfInBounds i true) (a.put oi.dst v) S → wpAnyV P md ops Q s (fuel + 1) listed a S := by
  intro fuel
  induction fuel with
  | zero =>
    intro listed a S hst hcl _ hr hy H w hS
    refine ⟨fun h => (by rw [h] at hr; cases hr), fun j hj => ?_⟩
    by_cases hji : j = i
    · subst hji; exact hy.wpOp hi hS fun w' k => ⟨S, hst _ _ hS k, fun _ => ⟨hst, fun _ h => h⟩, H⟩
    · have := ready_mono hj hji
      rw [H.1] at this
      cases this
  | succ fuel ih =>
    intro listed a S hst hcl hfree hr hy H w hS
    refine ⟨fun h => (by rw [h] at hr; cases hr), fun j hj => ?_⟩
    by_cases hji : j = i
    · subst hji; exact hy.wpOp hi hS fun w' k => ⟨S, hst _ _ hS k, fun _ => ⟨hst, fun _ h => h⟩, H⟩
    · have h1 := (H w hS).2 j (ready_mono hj hji)
      obtain ⟨hjun, oj, hoj, hall⟩ := mem_ready.1 hj
      have hiun := (mem_ready.1 hr).1
      have hnot : ∀ e ∈ oj.after, Region.binds md e = true → e.on ≠ i := fun e he hb heq => by
        have h1 := hall e he hb
        rw [heq] at h1
        rcases Nat.lt_or_ge i listed.size with h' | h'
        · simp [h'] at hiun h1; rw [hiun] at h1; cases h1
        · simp [Array.getElem?_eq_none h'] at h1
      have h2 := wpOp_putQ hoj (hfree j oj hoj hji hjun hnot) (fun cs b => hsel i oi cs b hi) (fun cs b => hsel j oj cs b hoj) hQ hy h1
      have hfree' : ∀ k ok, ops[k]? = some ok → k ≠ i → (listed.setIfInBounds j true).getD k true = false →
          (∀ e ∈ ok.after, Region.binds md e = true → e.on ≠ i) → oi.apart ops ok = true := fun k ok hk hki hun hno => by
        refine hfree k ok hk hki ?_ hno
        by_cases hjk : j = k
        · subst hjk; exact hjun
        · rw [getD_set_ne true hjk] at hun; exact hun
      have hcomm : (listed.setIfInBounds i true).setIfInBounds j true = (listed.setIfInBounds j true).setIfInBounds i true := Array.setIfInBounds_comm _ _ (Ne.symm hji)
      refine wpOp_mono (fun a' w' h3 => ?_) h2
      obtain ⟨hy3, S', hS', hss, h4⟩ := h3
      rw [hcomm] at h4
      have hjs : j < s := by
        have hjz : j < ops.size := (Array.getElem?_eq_some_iff.1 hoj).1
        have h0 := List.all_eq_true.1 hb j (List.mem_range.2 hjz)
        simp only [Bool.or_eq_true, decide_eq_true_eq] at h0
        rcases h0 with h0 | h0
        · exact h0
        · have h9 := reach_listed hcl 40 j oj hoj hall h0
          rcases Nat.lt_or_ge i listed.size with h' | h'
          · simp [h'] at hiun h9; rw [hiun] at h9; cases h9
          · simp [Array.getElem?_eq_none h'] at h9
      obtain ⟨hst', hsub⟩ := hss hjs
      exact ⟨S', hS', fun _ => ⟨hst', hsub⟩, ih (listed.setIfInBounds j true) a' S' hst' (closed_set hcl hj) hfree' (ready_mono hr (Ne.symm hji)) (hy3.sub hsub) h4⟩

/-- an operation that yields one value is taken first -/
theorem take (i : Nat) (d : Option Tmp) {oi : Oper} {v : Value} {fuel : Nat} {listed : Array Bool} {a : Act} (hi : ops[i]? = some oi) (hd : oi.dst = d)
    (hs : Region.noSelect ops = true) (hf : Region.free md ops listed i = true) (hr : (Region.ready md ops listed).contains i = true)
    (hb : (sinkB md ops s i && closedB md ops listed) = true)
    (hQ : ∀ c a w, Q (.panic c) (a.put oi.dst v) w → Q (.panic c) a w) (hS : Stab S) (hy : YQ P ops S oi v a)
    (h : wpAnyV P md ops Q s fuel (listed.setIfInBounds i true) (a.put d v) S) : wpAnyV P md ops Q s (fuel + 1) listed a S :=
  have hb := Bool.and_eq_true_iff.1 hb
  u_first hb.1 hi (Region.noSelect_spec hs) hQ fuel listed a S hS (closed_of hb.2) (Region.free_spec hi hf) (by simpa using hr) hy (by rw [hd]; exact h)
/-- operation i comes up next, alone -/
theorem step (i : Nat) {o : Oper} {fuel : Nat} {listed : Array Bool} {a : Act} (ho : ops[i]? = some o) (hr : Region.ready md ops listed = [i])
    (h : ∀ w, S w → ∀ K' : Act → World → Prop, Shut (∀ (S' : World → Prop) (a : Act) (w : World), S' w → Stab S' → (∀ u, S' u → S u) → wpAnyV P md ops Q s fuel (listed.setIfInBounds i true) a S' → K' a w) → if Region.wanted o (yielded ops a.tmps) = true then Oper.wp P o a w K' Q else K' (a.put o.dst undef) w) :
    wpAnyV P md ops Q s (fuel + 1) listed a S := fun w hw =>
  ⟨fun h0 => (by rw [hr] at h0; cases h0), fun j hj => by
    rw [hr] at hj
    obtain rfl : j = i := by simpa using hj
    exact wpOp_step ho (fun K' hK => h w hw K' (fun S' a w h1 h2 h3 h4 => hK a w ⟨S', h1, fun _ => ⟨h2, h3⟩, h4⟩))⟩
/-- two operations may come up next -/
theorem fork (i j : Nat) {oi oj : Oper} {fuel : Nat} {listed : Array Bool} {a : Act} (hi : ops[i]? = some oi) (hj : ops[j]? = some oj) (hr : Region.ready md ops listed = [i, j])
    (h1 : ∀ w, S w → ∀ K' : Act → World → Prop, Shut (∀ (S' : World → Prop) (a : Act) (w : World), S' w → Stab S' → (∀ u, S' u → S u) → wpAnyV P md ops Q s fuel (listed.setIfInBounds i true) a S' → K' a w) → if Region.wanted oi (yielded ops a.tmps) = true then Oper.wp P oi a w K' Q else K' (a.put oi.dst undef) w)
    (h2 : ∀ w, S w → ∀ K' : Act → World → Prop, Shut (∀ (S' : World → Prop) (a : Act) (w : World), S' w → Stab S' → (∀ u, S' u → S u) → wpAnyV P md ops Q s fuel (listed.setIfInBounds j true) a S' → K' a w) → if Region.wanted oj (yielded ops a.tmps) = true then Oper.wp P oj a w K' Q else K' (a.put oj.dst undef) w) :
    wpAnyV P md ops Q s (fuel + 1) listed a S := fun w hw =>
  ⟨fun h0 => (by rw [hr] at h0; cases h0), fun k hk => by
    rw [hr] at hk
    have hk2 : k = i ∨ k = j := by simpa using hk
    rcases hk2 with rfl | rfl
    · exact wpOp_step hi (fun K' hK => h1 w hw K' (fun S' a w h1 h2 h3 h4 => hK a w ⟨S', h1, fun _ => ⟨h2, h3⟩, h4⟩))
    · exact wpOp_step hj (fun K' hK => h2 w hw K' (fun S' a w h1 h2 h3 h4 => hK a w ⟨S', h1, fun _ => ⟨h2, h3⟩, h4⟩))⟩
/-- all have come up -/
theorem done {fuel : Nat} {listed : Array Bool} {a : Act} (hr : Region.ready md ops listed = []) (h : ∀ w, S w → Q .normal a w) : wpAnyV P md ops Q s fuel listed a S := by
  cases fuel with
  | zero => exact ⟨hr, h⟩
  | succ n => exact fun w hw => ⟨fun _ => h w hw, by rw [hr]; simp⟩
/-- K behind a normal end, else Q -/
def Qk (K : Act → World → Prop) (Q : Exit → Act → World → Prop) : Exit → Act → World → Prop
  | .normal, a, w => K a w
  | e, a, w => Q e a w
theorem wpOp_of_list {i : Nat} {o : Oper} (ho : ops[i]? = some o) {K : Act → World → Prop} {a : Act} {w : World} (h : wpList P ops (Qk K Q) [o] a w) : Go.wpOp P ops Q i K a w := by
  unfold Go.wpOp
  simp only [ho]
  unfold wpList at h
  split at h
  · rename_i hw
    rw [if_pos hw]
    rcases h with h | ⟨h1, a', w', h2⟩
    · refine .inl ?_
      unfold Oper.wp at *
      generalize (execOp a.eval o).run P w = r at *
      cases r with
      | ok n w' =>
        cases n <;> simp only [Oper.upon] at h ⊢
        case value u => exact h
        case skip => exact h
        case defer d => exact h
        case enter f args =>
          refine Calls.mono h fun e w'' he => ?_
          cases e with
          | returned u => exact he
          | panicked c => exact he
          | outgrown => obtain ⟨a', w', h2⟩ := he; exact ⟨a', w', h2⟩
        case row row args => exact Rows.mono h fun u w'' he => he
      | halt x w' =>
        cases x <;> simp only [Oper.upon] at h ⊢
        case panic u => exact h
    · exact .inr ⟨h1, a', w', h2⟩
  · rename_i hw
    rw [if_neg hw]
    exact h
/-- operation i comes up next, alone; it is walked as a list of its own -/
theorem step_list (i : Nat) {o : Oper} {fuel : Nat} {listed : Array Bool} {a : Act} (ho : ops[i]? = some o) (hr : Region.ready md ops listed = [i])
    (h : ∀ w, S w → ∀ K' : Act → World → Prop, Shut (∀ (S' : World → Prop) (a : Act) (w : World), S' w → Stab S' → (∀ u, S' u → S u) → wpAnyV P md ops Q s fuel (listed.setIfInBounds i true) a S' → K' a w) → wpList P ops (Qk K' Q) [o] a w) :
    wpAnyV P md ops Q s (fuel + 1) listed a S := fun w hw =>
  ⟨fun h0 => (by rw [hr] at h0; cases h0), fun j hj => by
    rw [hr] at hj
    obtain rfl : j = i := by simpa using hj
    exact wpOp_of_list ho (h w hw _ (fun S' a w h1 h2 h3 h4 => ⟨S', h1, fun _ => ⟨h2, h3⟩, h4⟩))⟩
/-- operation i, from s on, comes up next, alone: the world is told as it is -/
theorem tail (i : Nat) {o : Oper} {fuel : Nat} {listed : Array Bool} {a : Act} (ho : ops[i]? = some o) (hr : Region.ready md ops listed = [i]) (hs : s ≤ i)
    (h : ∀ w, S w → ∀ K' : Act → World → Prop, Shut (∀ (a : Act) (w : World), wpAnyV P md ops Q s fuel (listed.setIfInBounds i true) a (fun u => w = u) → K' a w) → if Region.wanted o (yielded ops a.tmps) = true then Oper.wp P o a w K' Q else K' (a.put o.dst undef) w) :
    wpAnyV P md ops Q s (fuel + 1) listed a S := fun w hw =>
  ⟨fun h0 => (by rw [hr] at h0; cases h0), fun j hj => by
    rw [hr] at hj
    obtain rfl : j = i := by simpa using hj
    exact wpOp_step ho (fun K' hK => h w hw K' (fun a w hq => hK a w ⟨fun u => w = u, rfl, fun hlt => absurd hlt (Nat.not_lt.2 hs), hq⟩))⟩
theorem tail_list (i : Nat) {o : Oper} {fuel : Nat} {listed : Array Bool} {a : Act} (ho : ops[i]? = some o) (hr : Region.ready md ops listed = [i]) (hs : s ≤ i)
    (h : ∀ w, S w → ∀ K' : Act → World → Prop, Shut (∀ (a : Act) (w : World), wpAnyV P md ops Q s fuel (listed.setIfInBounds i true) a (fun u => w = u) → K' a w) → wpList P ops (Qk K' Q) [o] a w) :
    wpAnyV P md ops Q s (fuel + 1) listed a S := fun w hw =>
  ⟨fun h0 => (by rw [hr] at h0; cases h0), fun j hj => by
    rw [hr] at hj
    obtain rfl : j = i := by simpa using hj
    exact wpOp_of_list ho (h w hw _ (fun a w hq => ⟨fun u => w = u, rfl, fun hlt => absurd hlt (Nat.not_lt.2 hs), hq⟩))⟩
/-- the beginning -/
theorem region (s : Nat) (S : World → Prop) {id : Nat} {a : Act} {w : World} (hm : P.follows .mixedOrders = true) (hS : S w.drew) (h : wpAnyV P .any ops Q s ops.size (Array.replicate ops.size false) a S) : (Code.region id ops true).wp P Q a w :=
  wp_region_any hm (wpAny_of_u _ _ _ S _ hS h)

end

end Go.Proofs.YtcoagmkncjonmaaDoor.Av

namespace Go.Proofs.YtcoagmkncjonmaaDoor.AvT
open Go.RowKit Go.Sort
open Go.Proofs.YtcoagmkncjonmaaDoor.Av
open St (Kept)
open Au (Stab stab_and stab_kept YQ wpOp_putQ yq_run yq_skip yq_load yq_call)
open Hg (waits not_ready)
set_option linter.unusedVariables false

section
variable {P : Program} {ops : Array Oper} {Q : Exit → Act → World → Prop} {md : Region.Mode} {S T : World → Prop}

def wpAnyT (P : Program) (md : Region.Mode) (ops : Array Oper) (Q : Exit → Act → World → Prop) (T : World → Prop) : Nat → Array Bool → Act → (World → Prop) → Prop
  | 0, listed, a, S => Region.ready md ops listed = [] ∧ ∀ w, S w → Q .normal a w
  | fuel + 1, listed, a, S => ∀ w, S w → (Region.ready md ops listed = [] → Q .normal a w) ∧
    ∀ i ∈ Region.ready md ops listed, Go.wpOp P ops Q i (fun a' w' => ∃ S' : World → Prop, S' w' ∧ (Stab S' ∧ ∀ u, S' u → T u) ∧ wpAnyT P md ops Q T fuel (listed.setIfInBounds i true) a' S') a w

theorem wpAny_of_t : ∀ (fuel : Nat) (listed : Array Bool) (a : Act) (S : World → Prop) (w : World), S w → wpAnyT P md ops Q T fuel listed a S → wpAny P md ops Q fuel listed a w
  | 0, _, _, _, w, hS, h => ⟨h.1, h.2 w hS⟩
  | fuel + 1, _, _, _, w, hS, h => ⟨(h w hS).1, fun i hi => wpOp_mono (fun a' w' ⟨S', h1, _, h4⟩ => wpAny_of_t fuel _ a' S' w' h1 h4) ((h w hS).2 i hi)⟩

theorem t_first {i : Nat} {oi : Oper} {v : Value} (hi : ops[i]? = some oi) (hsel : ∀ (j : Nat) (o : Oper) cs b, ops[j]? = some o → o.op ≠ .select cs b)
    (hQ : ∀ c a w, Q (.panic c) (a.put oi.dst v) w → Q (.panic c) a w) :
    ∀ (fuel : Nat) (listed : Array Bool) (a : Act) (S : World → Prop), (Stab S ∧ ∀ u, S u → T u) →
      (∀ j oj, ops[j]? = some oj → j ≠ i → listed.getD j true = false → (∀ e ∈ oj.after, Region.binds md e = true → e.on ≠ i) → oi.apart ops oj = true) →
      i ∈ Region.ready md ops listed → YQ P ops T oi v a →
      wpAnyT P md ops Q T fuel (listed.setIfInBounds i true) (a.put oi.dst v) S → wpAnyT P md ops Q T (fuel + 1) listed a S := by
  intro fuel
  induction fuel with
  | zero =>
    intro listed a S hst _ hr hy H w hS
    refine ⟨fun h => (by rw [h] at hr; cases hr), fun j hj => ?_⟩
    by_cases hji : j = i
    · subst hji; exact hy.wpOp hi (hst.2 _ hS) fun w' k => ⟨S, hst.1 _ _ hS k, hst, H⟩
    · have := ready_mono hj hji
      rw [H.1] at this
      cases this
  | succ fuel ih =>
    intro listed a S hst hfree hr hy H w hS
    refine ⟨fun h => (by rw [h] at hr; cases hr), fun j hj => ?_⟩
    by_cases hji : j = i
    · subst hji; exact hy.wpOp hi (hst.2 _ hS) fun w' k => ⟨S, hst.1 _ _ hS k, hst, H⟩
    · have h1 := (H w hS).2 j (ready_mono hj hji)
      obtain ⟨hjun, oj, hoj, hall⟩ := mem_ready.1 hj
      have hiun := (mem_ready.1 hr).1
      have hnot : ∀ e ∈ oj.after, Region.binds md e = true → e.on ≠ i := fun e he hb heq => by
        have h1 := hall e he hb
        rw [heq] at h1
        rcases Nat.lt_or_ge i listed.size with h' | h'
        · simp [h'] at hiun h1; rw [hiun] at h1; cases h1
        · simp [Array.getElem?_eq_none h'] at h1
      have h2 := wpOp_putQ hoj (hfree j oj hoj hji hjun hnot) (fun cs b => hsel i oi cs b hi) (fun cs b => hsel j oj cs b hoj) hQ hy h1
      have hfree' : ∀ k ok, ops[k]? = some ok → k ≠ i → (listed.setIfInBounds j true).getD k true = false →
          (∀ e ∈ ok.after, Region.binds md e = true → e.on ≠ i) → oi.apart ops ok = true := fun k ok hk hki hun hno => by
        refine hfree k ok hk hki ?_ hno
        by_cases hjk : j = k
        · subst hjk; exact hjun
        · rw [getD_set_ne true hjk] at hun; exact hun
      have hcomm : (listed.setIfInBounds i true).setIfInBounds j true = (listed.setIfInBounds j true).setIfInBounds i true := Array.setIfInBounds_comm _ _ (Ne.symm hji)
      refine wpOp_mono (fun a' w' h3 => ?_) h2
      obtain ⟨hy3, S', hS', hss, h4⟩ := h3
      rw [hcomm] at h4
      exact ⟨S', hS', hss, ih (listed.setIfInBounds j true) a' S' hss hfree' (ready_mono hr (Ne.symm hji)) hy3 h4⟩

/-- an operation that yields one value is taken first -/
theorem take (i : Nat) (d : Option Tmp) {oi : Oper} {v : Value} {fuel : Nat} {listed : Array Bool} {a : Act} (hi : ops[i]? = some oi) (hd : oi.dst = d)
    (hs : Region.noSelect ops = true) (hf : Region.free md ops listed i = true) (hr : (Region.ready md ops listed).contains i = true)
    (hQ : ∀ c a w, Q (.panic c) (a.put oi.dst v) w → Q (.panic c) a w) (hS : Stab S ∧ ∀ u, S u → T u) (hy : YQ P ops T oi v a)
    (h : wpAnyT P md ops Q T fuel (listed.setIfInBounds i true) (a.put d v) S) : wpAnyT P md ops Q T (fuel + 1) listed a S :=
  t_first hi (Region.noSelect_spec hs) hQ fuel listed a S hS (Region.free_spec hi hf) (by simpa using hr) hy (by rw [hd]; exact h)
/-- all have come up -/
theorem done {fuel : Nat} {listed : Array Bool} {a : Act} (hr : Region.ready md ops listed = []) (h : ∀ w, S w → Q .normal a w) : wpAnyT P md ops Q T fuel listed a S := by
  cases fuel with
  | zero => exact ⟨hr, h⟩
  | succ n => exact fun w hw => ⟨fun _ => h w hw, by rw [hr]; simp⟩
/-- operation i comes up next, alone; it is walked as a list of its own -/
theorem step_list (i : Nat) {o : Oper} {fuel : Nat} {listed : Array Bool} {a : Act} (ho : ops[i]? = some o) (hr : Region.ready md ops listed = [i])
    (h : ∀ w, S w → ∀ K' : Act → World → Prop, Shut (∀ (S' : World → Prop) (a : Act) (w : World), S' w → Stab S' → (∀ u, S' u → T u) → wpAnyT P md ops Q T fuel (listed.setIfInBounds i true) a S' → K' a w) → wpList P ops (Qk K' Q) [o] a w) :
    wpAnyT P md ops Q T (fuel + 1) listed a S := fun w hw =>
  ⟨fun h0 => (by rw [hr] at h0; cases h0), fun j hj => by
    rw [hr] at hj
    obtain rfl : j = i := by simpa using hj
    exact wpOp_of_list ho (h w hw _ (fun S' a w h1 h2 h3 h4 => ⟨S', h1, ⟨h2, h3⟩, h4⟩))⟩
/-- the beginning -/
theorem region (T S : World → Prop) {id : Nat} {a : Act} {w : World} (hm : P.follows .mixedOrders = true) (hS : S w.drew) (h : wpAnyT P .any ops Q T ops.size (Array.replicate ops.size false) a S) : (Code.region id ops true).wp P Q a w :=
  wp_region_any hm (wpAny_of_t _ _ _ S _ hS h)
end

end Go.Proofs.YtcoagmkncjonmaaDoor.AvT

namespace Go.Proofs.YtcoagmkncjonmaaDoor.Au
open Go.RowKit Go.Sort
open St (Kept)
set_option linter.unusedVariables false

section
variable {P : Program} {ops : Array Oper} {Q : Exit → Act → World → Prop} {md : Region.Mode} {S S' : World → Prop}
/-- three operations may come up next -/
theorem fork3 (i j k : Nat) {oi oj ok : Oper} {fuel : Nat} {listed : Array Bool} {a : Act} (hi : ops[i]? = some oi) (hj : ops[j]? = some oj) (hk : ops[k]? = some ok) (hr : Region.ready md ops listed = [i, j, k])
    (h1 : ∀ w, S w → ∀ K' : Act → World → Prop, Shut (∀ (S' : World → Prop) (a : Act) (w : World), S' w → Stab S' → (∀ u, S' u → S u) → wpAnyU P md ops Q fuel (listed.setIfInBounds i true) a S' → K' a w) → if Region.wanted oi (yielded ops a.tmps) = true then Oper.wp P oi a w K' Q else K' (a.put oi.dst undef) w)
    (h2 : ∀ w, S w → ∀ K' : Act → World → Prop, Shut (∀ (S' : World → Prop) (a : Act) (w : World), S' w → Stab S' → (∀ u, S' u → S u) → wpAnyU P md ops Q fuel (listed.setIfInBounds j true) a S' → K' a w) → if Region.wanted oj (yielded ops a.tmps) = true then Oper.wp P oj a w K' Q else K' (a.put oj.dst undef) w)
    (h3 : ∀ w, S w → ∀ K' : Act → World → Prop, Shut (∀ (S' : World → Prop) (a : Act) (w : World), S' w → Stab S' → (∀ u, S' u → S u) → wpAnyU P md ops Q fuel (listed.setIfInBounds k true) a S' → K' a w) → if Region.wanted ok (yielded ops a.tmps) = true then Oper.wp P ok a w K' Q else K' (a.put ok.dst undef) w) :
    wpAnyU P md ops Q (fuel + 1) listed a S := fun w hw =>
  ⟨fun h0 => (by rw [hr] at h0; cases h0), fun l hl => by
    rw [hr] at hl
    have hl2 : l = i ∨ l = j ∨ l = k := by simpa using hl
    rcases hl2 with rfl | rfl | rfl
    · exact wpOp_step hi (fun K' hK => h1 w hw K' (fun S' a w h1 h2 h3 h4 => hK a w ⟨S', h1, h2, h3, h4⟩))
    · exact wpOp_step hj (fun K' hK => h2 w hw K' (fun S' a w h1 h2 h3 h4 => hK a w ⟨S', h1, h2, h3, h4⟩))
    · exact wpOp_step hk (fun K' hK => h3 w hw K' (fun S' a w h1 h2 h3 h4 => hK a w ⟨S', h1, h2, h3, h4⟩))⟩
end

end Go.Proofs.YtcoagmkncjonmaaDoor.Au

namespace Go.Proofs.YtcoagmkncjonmaaDoor.AvT
open Go.RowKit Go.Sort
open St (Kept)
open Au (Stab)
section
variable {P : Program} {ops : Array Oper} {Q : Exit → Act → World → Prop} {md : Region.Mode} {S T : World → Prop}
/-- operation i comes up next, alone -/
theorem step (i : Nat) {o : Oper} {fuel : Nat} {listed : Array Bool} {a : Act} (ho : ops[i]? = some o) (hr : Region.ready md ops listed = [i])
    (h : ∀ w, S w → ∀ K' : Act → World → Prop, Shut (∀ (S' : World → Prop) (a : Act) (w : World), S' w → Stab S' → (∀ u, S' u → T u) → wpAnyT P md ops Q T fuel (listed.setIfInBounds i true) a S' → K' a w) → if Region.wanted o (yielded ops a.tmps) = true then Oper.wp P o a w K' Q else K' (a.put o.dst undef) w) :
    wpAnyT P md ops Q T (fuel + 1) listed a S := fun w hw =>
  ⟨fun h0 => (by rw [hr] at h0; cases h0), fun j hj => by
    rw [hr] at hj
    obtain rfl : j = i := by simpa using hj
    exact wpOp_step ho (fun K' hK => h w hw K' (fun S' a w h1 h2 h3 h4 => hK a w ⟨S', h1, ⟨h2, h3⟩, h4⟩))⟩
end
end Go.Proofs.YtcoagmkncjonmaaDoor.AvT

namespace Go.Proofs.YtcoagmkncjonmaaDoor.AvT
open Go.RowKit Go.Sort
open St (Kept)
open Au (Stab)
set_option linter.unusedVariables false
section
variable {P : Program} {ops : Array Oper} {Q : Exit → Act → World → Prop} {md : Region.Mode} {S T : World → Prop}
/-- more may be told of all worlds to come -/
theorem narrow {T' : World → Prop} (hT : ∀ u, T' u → T u) : ∀ (fuel : Nat) (listed : Array Bool) (a : Act) (S : World → Prop), wpAnyT P md ops Q T' fuel listed a S → wpAnyT P md ops Q T fuel listed a S
  | 0, _, _, _, h => h
  | fuel + 1, listed, a, S, h => fun w hw => ⟨(h w hw).1, fun i hi => wpOp_mono (fun a' w' ⟨S', h1, h2, h4⟩ => ⟨S', h1, ⟨h2.1, fun u hu => hT u (h2.2 u hu)⟩, narrow hT fuel _ a' S' h4⟩) ((h w hw).2 i hi)⟩
/-- two operations may come up next -/
theorem fork (i j : Nat) {oi oj : Oper} {fuel : Nat} {listed : Array Bool} {a : Act} (hi : ops[i]? = some oi) (hj : ops[j]? = some oj) (hr : Region.ready md ops listed = [i, j])
    (h1 : ∀ w, S w → ∀ K' : Act → World → Prop, Shut (∀ (S' : World → Prop) (a : Act) (w : World), S' w → Stab S' → (∀ u, S' u → T u) → wpAnyT P md ops Q T fuel (listed.setIfInBounds i true) a S' → K' a w) → if Region.wanted oi (yielded ops a.tmps) = true then Oper.wp P oi a w K' Q else K' (a.put oi.dst undef) w)
    (h2 : ∀ w, S w → ∀ K' : Act → World → Prop, Shut (∀ (S' : World → Prop) (a : Act) (w : World), S' w → Stab S' → (∀ u, S' u → T u) → wpAnyT P md ops Q T fuel (listed.setIfInBounds j true) a S' → K' a w) → if Region.wanted oj (yielded ops a.tmps) = true then Oper.wp P oj a w K' Q else K' (a.put oj.dst undef) w) :
    wpAnyT P md ops Q T (fuel + 1) listed a S := fun w hw =>
  ⟨fun h0 => (by rw [hr] at h0; cases h0), fun l hl => by
    rw [hr] at hl
    have hl2 : l = i ∨ l = j := by simpa using hl
    rcases hl2 with rfl | rfl
    · exact wpOp_step hi (fun K' hK => h1 w hw K' (fun S' a w h1 h2 h3 h4 => hK a w ⟨S', h1, ⟨h2, h3⟩, h4⟩))
    · exact wpOp_step hj (fun K' hK => h2 w hw K' (fun S' a w h1 h2 h3 h4 => hK a w ⟨S', h1, ⟨h2, h3⟩, h4⟩))⟩
/-- three operations may come up next -/
theorem fork3 (i j k : Nat) {oi oj ok : Oper} {fuel : Nat} {listed : Array Bool} {a : Act} (hi : ops[i]? = some oi) (hj : ops[j]? = some oj) (hk : ops[k]? = some ok) (hr : Region.ready md ops listed = [i, j, k])
    (h1 : ∀ w, S w → ∀ K' : Act → World → Prop, Shut (∀ (S' : World → Prop) (a : Act) (w : World), S' w → Stab S' → (∀ u, S' u → T u) → wpAnyT P md ops Q T fuel (listed.setIfInBounds i true) a S' → K' a w) → if Region.wanted oi (yielded ops a.tmps) = true then Oper.wp P oi a w K' Q else K' (a.put oi.dst undef) w)
    (h2 : ∀ w, S w → ∀ K' : Act → World → Prop, Shut (∀ (S' : World → Prop) (a : Act) (w : World), S' w → Stab S' → (∀ u, S' u → T u) → wpAnyT P md ops Q T fuel (listed.setIfInBounds j true) a S' → K' a w) → if Region.wanted oj (yielded ops a.tmps) = true then Oper.wp P oj a w K' Q else K' (a.put oj.dst undef) w)
    (h3 : ∀ w, S w → ∀ K' : Act → World → Prop, Shut (∀ (S' : World → Prop) (a : Act) (w : World), S' w → Stab S' → (∀ u, S' u → T u) → wpAnyT P md ops Q T fuel (listed.setIfInBounds k true) a S' → K' a w) → if Region.wanted ok (yielded ops a.tmps) = true then Oper.wp P ok a w K' Q else K' (a.put ok.dst undef) w) :
    wpAnyT P md ops Q T (fuel + 1) listed a S := fun w hw =>
  ⟨fun h0 => (by rw [hr] at h0; cases h0), fun l hl => by
    rw [hr] at hl
    have hl2 : l = i ∨ l = j ∨ l = k := by simpa using hl
    rcases hl2 with rfl | rfl | rfl
    · exact wpOp_step hi (fun K' hK => h1 w hw K' (fun S' a w h1 h2 h3 h4 => hK a w ⟨S', h1, ⟨h2, h3⟩, h4⟩))
    · exact wpOp_step hj (fun K' hK => h2 w hw K' (fun S' a w h1 h2 h3 h4 => hK a w ⟨S', h1, ⟨h2, h3⟩, h4⟩))
    · exact wpOp_step hk (fun K' hK => h3 w hw K' (fun S' a w h1 h2 h3 h4 => hK a w ⟨S', h1, ⟨h2, h3⟩, h4⟩))⟩
end
end Go.Proofs.YtcoagmkncjonmaaDoor.AvT
