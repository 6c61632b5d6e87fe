/- A region that draws its order, whose calls make memory: of the world only what holds of it is told (a condition that what is made later leaves as it is); an operation that yields one value in every such world (a load, a move, a call that hands back a value, whatever it makes) is taken in the text's order. No function of the program is spoken of here. -/
import Derived.Test.YtckjdncacinnkaaDoorSt
import Derived.Deep.Quiet
import Derived.Orders
import Derived.OrdersHeld
import Derived.Laws.Tables
import Derived.Deep.RegionHeld
import Derived.WalkKit
namespace Go.Proofs.YtckjdncacinnkaaDoor.Au
open Go.RowKit Go.Sort
open St (Kept)
set_option linter.unusedVariables false

section
variable {P : Program} {ops : Array Oper} {Q : Exit → Act → World → Prop} {md : Region.Mode} {S S' : World → Prop}

/-- what is made later leaves it as it is -/
def Stab (S : World → Prop) : Prop := ∀ u u', S u → Kept u u' → S u'
theorem stab_and {S T : World → Prop} (h : Stab S) (k : Stab T) : Stab (fun u => S u ∧ T u) := fun u u' ⟨a, b⟩ kk => ⟨h u u' a kk, k u u' b kk⟩
theorem stab_kept (W : World) : Stab (Kept W) := fun u u' h k => h.trans k

/-- one value in every such world -/
def YQ (P : Program) (ops : Array Oper) (S : World → Prop) (o : Oper) (v : Value) (a : Act) : Prop :=
  (Region.wanted o (yielded ops a.tmps) = true ∧ ∀ w, S w → o.quietAt P a (fun w' => Kept w w') w v) ∨ (Region.wanted o (yielded ops a.tmps) = false ∧ v = undef)
theorem YQ.sub {o : Oper} {v : Value} {a : Act} (h : YQ P ops S o v a) (hs : ∀ u, S' u → S u) : YQ P ops S' o v a := h.imp (fun ⟨a, b⟩ => ⟨a, fun w hw => b w (hs w hw)⟩) id
theorem YQ.of_same {o : Oper} {v : Value} {a a' : Act} (hy : YQ P ops S o v a) (he : execOp a'.eval o = execOp a.eval o)
    (hw : Region.wanted o (yielded ops a'.tmps) = Region.wanted o (yielded ops a.tmps)) : YQ P ops S o v a' := by
  unfold YQ Oper.quietAt at *
  rw [he, hw]
  exact hy
theorem YQ.wpOp {i : Nat} {o : Oper} {v : Value} {a : Act} (hi : ops[i]? = some o) (hy : YQ P ops S o v a)
    {K : Act → World → Prop} {w : World} (hS : S w) (h : ∀ w', Kept w w' → K (a.put o.dst v) w') : wpOp P ops Q i K a w := by
  unfold Go.wpOp
  simp only [hi]
  rcases hy with ⟨hw, hv⟩ | ⟨hw, rfl⟩
  · simp only [hw, if_true]
    refine .inl ?_
    have h3 := hv w hS
    unfold Oper.quietAt at h3
    unfold Oper.wp
    generalize (execOp a.eval o).run P w = r at *
    cases r with
    | ok n w' =>
      cases n <;> simp only [Oper.quietUpon] at h3 <;> simp only [Oper.upon]
      case value u =>
        obtain ⟨e1, e2⟩ := h3
        rw [e1, e2]
        exact h _ (Kept.refl w)
      case skip =>
        obtain ⟨e1, e2⟩ := h3
        rw [e1, ← e2]
        exact h _ (Kept.refl w)
      case enter f args =>
        obtain ⟨e1, hc⟩ := h3
        rw [e1]
        exact hc.mono fun e w'' ⟨he, hw''⟩ => by subst he; exact h _ hw''
    | halt x w' => simp only [Oper.quietUpon] at h3
  · simp only [hw, Bool.false_eq_true, if_false]; exact h w (Kept.refl w)

/-- one operation oj, apart from oi: whether oi's value is in its slot already makes no difference to it -/
theorem wpOp_putQ {j : Nat} {oi oj : Oper} {v : Value} (hj : ops[j]? = some oj) (hap : oi.apart ops oj = true)
    (hsi : ∀ cs b, oi.op ≠ .select cs b) (hsj : ∀ cs b, oj.op ≠ .select cs b)
    (hQ : ∀ c a w, Q (.panic c) (a.put oi.dst v) w → Q (.panic c) a w) {K : Act → World → Prop} {a : Act} {w : World}
    (hy : YQ P ops S oi v a) (h : Go.wpOp P ops Q j K (a.put oi.dst v) w) :
    Go.wpOp P ops Q j (fun a' w' => YQ P ops S oi v a' ∧ K (a'.put oi.dst v) w') a w := by
  obtain ⟨h1, h2, h3⟩ := Oper.apart_spec hap
  have keep : ∀ (a : Act), YQ P ops S oi v a → ∀ u, YQ P ops S oi v (a.put oj.dst u) := fun a hy u =>
    hy.of_same (execOp_put oi hsi a oj.dst u h3) (wanted_put oi a oj.dst u h3)
  have keepD : ∀ d, YQ P ops S oi v { a with defers := d :: a.defers } := fun d => hy.of_same rfl rfl
  unfold Go.wpOp at *
  simp only [hj] at *
  rw [wanted_put oj a oi.dst v h1] at h
  split
  · rename_i hw
    simp only [hw, if_true] at h
    rcases h with h | ⟨hasks, hlets⟩
    case inr => exact .inr ⟨by unfold Oper.asks at *; rw [execOp_put oj hsj a oi.dst v h1] at hasks; exact hasks, hlets⟩
    refine .inl ?_
    unfold Oper.wp at *
    rw [execOp_put oj hsj a oi.dst v h1] at h
    generalize (execOp a.eval oj).run P w = r at *
    cases r with
    | ok n w' =>
      cases n <;> simp only [Oper.upon] at h ⊢
      case value u => exact ⟨keep a hy u, by rw [← Act.put_comm a v u h2]; exact h⟩
      case skip => exact ⟨keep a hy _, by rw [← Act.put_comm a v undef h2]; exact h⟩
      case defer d =>
        refine ⟨keep _ (keepD d) _, ?_⟩
        rw [← Act.put_comm _ v undef h2, ← Act.put_defers]
        exact h
      case enter f args =>
        refine Calls.mono h fun e w'' he => ?_
        cases e with
        | returned u => exact ⟨keep a hy u, by rw [← Act.put_comm a v u h2]; exact he⟩
        | panicked c => exact hQ _ _ _ he
        | outgrown => exact he
      case row row args => exact Rows.mono h fun u w'' he => ⟨keep a hy u, by rw [← Act.put_comm a v u h2]; exact he⟩
    | halt x w' =>
      cases x <;> simp only [Oper.upon] at h ⊢
      case panic u => exact hQ _ _ _ h
  · rename_i hw
    simp only [hw] at h
    exact ⟨keep a hy _, by rw [← Act.put_comm a v undef h2]; exact h⟩

/-- whatever order is picked from here on; of the world S is told -/
def wpAnyU (P : Program) (md : Region.Mode) (ops : Array Oper) (Q : Exit → Act → World → Prop) : Nat → Array Bool → Act → (World → Prop) → Prop
  | 0, listed, a, S => Region.ready md ops listed = [] ∧ ∀ w, S w → Q .normal a w
  | fuel + 1, listed, a, S => ∀ w, S w → (Region.ready md ops listed = [] → Q .normal a w) ∧
    ∀ i ∈ Region.ready md ops listed, Go.wpOp P ops Q i (fun a' w' => ∃ S' : World → Prop, S' w' ∧ Stab S' ∧ (∀ u, S' u → S u) ∧ wpAnyU P md ops Q fuel (listed.setIfInBounds i true) a' S') a w

theorem wpAny_of_u : ∀ (fuel : Nat) (listed : Array Bool) (a : Act) (S : World → Prop) (w : World), S w → wpAnyU P md ops Q fuel listed a S → wpAny P md ops Q fuel listed a w
  | 0, _, _, _, w, hS, h => ⟨h.1, h.2 w hS⟩
  | fuel + 1, _, _, _, w, hS, h => ⟨(h w hS).1, fun i hi => wpOp_mono (fun a' w' ⟨S', h1, _, _, h4⟩ => wpAny_of_u fuel _ a' S' w' h1 h4) ((h w hS).2 i hi)⟩

theorem u_first {i : Nat} {oi : Oper} {v : Value} (hi : ops[i]? = some oi) (hsel : ∀ (j : Nat) (o : Oper) cs b, ops[j]? = some o → o.op ≠ .select cs b)
    (hQ : ∀ c a w, Q (.panic c) (a.put oi.dst v) w → Q (.panic c) a w) :
    ∀ (fuel : Nat) (listed : Array Bool) (a : Act) (S : World → Prop), Stab S →
      (∀ j oj, ops[j]? = some oj → j ≠ i → listed.getD j true = false → (∀ e ∈ oj.after, Region.binds md e = true → e.on ≠ i) → oi.apart ops oj = true) →
      i ∈ Region.ready md ops listed → YQ P ops S oi v a →
      wpAnyU P md ops Q fuel (listed.setIfInBounds i true) (a.put oi.dst v) S → wpAnyU P md ops Q (fuel + 1) listed a S := by
  intro fuel
  induction fuel with
  | zero =>
    intro listed a S hst _ hr hy H w hS
    refine ⟨fun h => (by rw [h] at hr; cases hr), fun j hj => ?_⟩
    by_cases hji : j = i
    · subst hji; exact hy.wpOp hi hS fun w' k => ⟨S, hst _ _ hS k, hst, fun _ h => h, H⟩
    · have := ready_mono hj hji
      rw [H.1] at this
      cases this
  | succ fuel ih =>
    intro listed a S hst hfree hr hy H w hS
    refine ⟨fun h => (by rw [h] at hr; cases hr), fun j hj => ?_⟩
    by_cases hji : j = i
    · subst hji; exact hy.wpOp hi hS fun w' k => ⟨S, hst _ _ hS k, hst, fun _ h => h, H⟩
    · have h1 := (H w hS).2 j (ready_mono hj hji)
      obtain ⟨hjun, oj, hoj, hall⟩ := mem_ready.1 hj
      have hiun := (mem_ready.1 hr).1
      have hnot : ∀ e ∈ oj.after, Region.binds md e = true → e.on ≠ i := fun e he hb heq => by
        have h1 := hall e he hb
        rw [heq] at h1
        rcases Nat.lt_or_ge i listed.size with h' | h'
        · simp [h'] at hiun h1; rw [hiun] at h1; cases h1
        · simp [Array.getElem?_eq_none h'] at h1
      have h2 := wpOp_putQ hoj (hfree j oj hoj hji hjun hnot) (fun cs b => hsel i oi cs b hi) (fun cs b => hsel j oj cs b hoj) hQ hy h1
      have hfree' : ∀ k ok, ops[k]? = some ok → k ≠ i → (listed.setIfInBounds j true).getD k true = false →
          (∀ e ∈ ok.after, Region.binds md e = true → e.on ≠ i) → oi.apart ops ok = true := fun k ok hk hki hun hno => by
        refine hfree k ok hk hki ?_ hno
        by_cases hjk : j = k
        · subst hjk; exact hjun
        · rw [getD_set_ne true hjk] at hun; exact hun
      have hcomm : (listed.setIfInBounds i true).setIfInBounds j true = (listed.setIfInBounds j true).setIfInBounds i true := Array.setIfInBounds_comm _ _ (Ne.symm hji)
      refine wpOp_mono (fun a' w' h3 => ?_) h2
      obtain ⟨hy3, S', hS', hst', hsub, h4⟩ := h3
      rw [hcomm] at h4
      exact ⟨S', hS', hst', hsub, ih (listed.setIfInBounds j true) a' S' hst' hfree' (ready_mono hr (Ne.symm hji)) (hy3.sub hsub) h4⟩

/-- an operation that yields one value is taken first -/
theorem take (i : Nat) (d : Option Tmp) {oi : Oper} {v : Value} {fuel : Nat} {listed : Array Bool} {a : Act} (hi : ops[i]? = some oi) (hd : oi.dst = d)
    (hs : Region.noSelect ops = true) (hf : Region.free md ops listed i = true) (hr : (Region.ready md ops listed).contains i = true)
    (hQ : ∀ c a w, Q (.panic c) (a.put oi.dst v) w → Q (.panic c) a w) (hS : Stab S) (hy : YQ P ops S oi v a)
    (h : wpAnyU P md ops Q fuel (listed.setIfInBounds i true) (a.put d v) S) : wpAnyU P md ops Q (fuel + 1) listed a S :=
  u_first hi (Region.noSelect_spec hs) hQ fuel listed a S hS (Region.free_spec hi hf) (by simpa using hr) hy (by rw [hd]; exact h)
/-- operation i comes up next, alone -/
theorem step (i : Nat) {o : Oper} {fuel : Nat} {listed : Array Bool} {a : Act} (ho : ops[i]? = some o) (hr : Region.ready md ops listed = [i])
    (h : ∀ w, S w → ∀ K' : Act → World → Prop, Shut (∀ (S' : World → Prop) (a : Act) (w : World), S' w → Stab S' → (∀ u, S' u → S u) → wpAnyU P md ops Q fuel (listed.setIfInBounds i true) a S' → K' a w) → if Region.wanted o (yielded ops a.tmps) = true then Oper.wp P o a w K' Q else K' (a.put o.dst undef) w) :
    wpAnyU P md ops Q (fuel + 1) listed a S := fun w hw =>
  ⟨fun h0 => (by rw [hr] at h0; cases h0), fun j hj => by
    rw [hr] at hj
    obtain rfl : j = i := by simpa using hj
    exact wpOp_step ho (fun K' hK => h w hw K' (fun S' a w h1 h2 h3 h4 => hK a w ⟨S', h1, h2, h3, h4⟩))⟩
/-- two operations may come up next -/
theorem fork (i j : Nat) {oi oj : Oper} {fuel : Nat} {listed : Array Bool} {a : Act} (hi : ops[i]? = some oi) (hj : ops[j]? = some oj) (hr : Region.ready md ops listed = [i, j])
    (h1 : ∀ w, S w → ∀ K' : Act → World → Prop, Shut (∀ (S' : World → Prop) (a : Act) (w : World), S' w → Stab S' → (∀ u, S' u → S u) → wpAnyU P md ops Q fuel (listed.setIfInBounds i true) a S' → K' a w) → if Region.wanted oi (yielded ops a.tmps) = true then Oper.wp P oi a w K' Q else K' (a.put oi.dst undef) w)
    (h2 : ∀ w, S w → ∀ K' : Act → World → Prop, Shut (∀ (S' : World → Prop) (a : Act) (w : World), S' w → Stab S' → (∀ u, S' u → S u) → wpAnyU P md ops Q fuel (listed.setIfInBounds j true) a S' → K' a w) → if Region.wanted oj (yielded ops a.tmps) = true then Oper.wp P oj a w K' Q else K' (a.put oj.dst undef) w) :
    wpAnyU P md ops Q (fuel + 1) listed a S := fun w hw =>
  ⟨fun h0 => (by rw [hr] at h0; cases h0), fun k hk => by
    rw [hr] at hk
    have hk2 : k = i ∨ k = j := by simpa using hk
    rcases hk2 with rfl | rfl
    · exact wpOp_step hi (fun K' hK => h1 w hw K' (fun S' a w h1 h2 h3 h4 => hK a w ⟨S', h1, h2, h3, h4⟩))
    · exact wpOp_step hj (fun K' hK => h2 w hw K' (fun S' a w h1 h2 h3 h4 => hK a w ⟨S', h1, h2, h3, h4⟩))⟩
/-- all have come up -/
theorem done {fuel : Nat} {listed : Array Bool} {a : Act} (hr : Region.ready md ops listed = []) (h : ∀ w, S w → Q .normal a w) : wpAnyU P md ops Q fuel listed a S := by
  cases fuel with
  | zero => exact ⟨hr, h⟩
  | succ n => exact fun w hw => ⟨fun _ => h w hw, by rw [hr]; simp⟩
/-- the beginning -/
theorem region (S : World → Prop) {id : Nat} {a : Act} {w : World} (hm : P.follows .mixedOrders = true) (hS : S w.drew) (h : wpAnyU P .any ops Q ops.size (Array.replicate ops.size false) a S) : (Code.region id ops true).wp P Q a w :=
  wp_region_any hm (wpAny_of_u _ _ _ S _ hS h)

/-- operation i stores a row; it comes up next, alone -/
theorem store (i : Nat) (ty : TypeId) (x y : Operand) {o : Oper} {fuel : Nat} {listed : Array Bool} {a : Act} (ho : ops[i]? = some o) (hr : Region.ready md ops listed = [i]) (hw : Region.wanted o (yielded ops a.tmps) = true)
    (hop : o.op = .store ty x y) (hd : o.dst = none) (g : Nat) (cells : Array Value) (hx : a.eval x = .pointer (some ⟨g, 0, none⟩)) (hy : a.eval y = .agg cells) (t : TypeId) (hold : ∀ w, S w → ∃ old, w.heap[g]? = some (.cells old t (0, 0)) ∧ old.size = cells.size) (hi : (P.info? ty).map (·.size) = some cells.size)
    (h1 : cells.all (·.oneCell') = true) (T : World → Prop) (hT : Stab T) (hS : Stab S) (hTS : ∀ w, S w → S (w.setRow g cells)) (hTT : ∀ w, S w → T (w.setRow g cells))
    (h : wpAnyU P md ops Q fuel (listed.setIfInBounds i true) a (fun u => S u ∧ T u)) : wpAnyU P md ops Q (fuel + 1) listed a S :=
  step i ho hr fun w hw0 K hK => by
    obtain ⟨old, hg, hsz⟩ := hold w hw0
    rw [if_pos hw]
    exact wp_store_row ty x y hop g cells hx hy t old hg hi hsz h1 (by rw [hd]; exact hK.out (fun u => S u ∧ T u) _ _ ⟨hTS w hw0, hTT w hw0⟩ (stab_and hS hT) (fun u hu => hu.1) h)

/-! what yields one value -/
theorem yq_run {o : Oper} {a : Act} {v : Value} (hw : Region.wanted o (yielded ops a.tmps) = true) (h : ∀ w, S w → (execOp a.eval o).run P w = .ok (.value v) w) : YQ P ops S o v a :=
  .inl ⟨hw, fun w hS => by unfold Oper.quietAt; rw [h w hS]; exact ⟨rfl, rfl⟩⟩
theorem yq_skip {o : Oper} {a : Act} (hw : Region.wanted o (yielded ops a.tmps) = false) : YQ P ops S o undef a := .inr ⟨hw, rfl⟩
theorem yq_load {o : Oper} {a : Act} {v : Value} (ty : TypeId) (x : Operand) (ho : o.op = .load ty x) (p : Addr) (hx : a.eval x = .pointer (some p)) (hw : Region.wanted o (yielded ops a.tmps) = true)
    (hl : ∀ w, S w → (loadVar ty p).run P w = .ok v w) : YQ P ops S o v a :=
  yq_run hw fun w hSw => by
    unfold execOp
    simp only [ho, hx, Instr.loadAt, Instr.sureAddr, Sem.run_bind, Sem.run_pure, Result.andThen_ok, hl w hSw]
theorem yq_call {o : Oper} {a : Act} {v : Value} (f : FuncId) (args : Array Value) (hw : Region.wanted o (yielded ops a.tmps) = true) (hr : ∀ w, (execOp a.eval o).run P w = .ok (.enter f args) w)
    (hc : ∀ w, S w → Calls P f args w fun e w' => e = .returned v ∧ Kept w w') : YQ P ops S o v a :=
  .inl ⟨hw, fun w hS => by unfold Oper.quietAt; rw [hr w]; exact ⟨rfl, hc w hS⟩⟩
end

end Go.Proofs.YtckjdncacinnkaaDoor.Au
