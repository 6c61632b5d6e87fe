/- The same as Au, with operations from s on that wait for all that is taken ahead: from the first of them on the world is told as it is. No function of the program is spoken of here. -/
import Derived.Test.YtiaafjabhnomeaaAu
import Derived.Test.YtiaafjabhnomeaaHg
import Derived.Deep.Quiet
import Derived.Orders
import Derived.OrdersHeld
import Derived.Laws.Tables
import Derived.Deep.RegionHeld
import Derived.WalkKit
namespace Go.Proofs.Ytiaafjabhnomeaa.Av
open Go.RowKit Go.Sort
open St (Kept)
open Au (Stab stab_and stab_kept YQ wpOp_putQ yq_run yq_skip yq_load yq_call)
open Hg (waits not_ready)
set_option linter.unusedVariables false

section
variable {P : Program} {ops : Array Oper} {Q : Exit → Act → World → Prop} {md : Region.Mode} {S S' : World → Prop} {s : Nat}

/-- what is listed is listed with all that it waits for -/
def Closed (md : Region.Mode) (ops : Array Oper) (listed : Array Bool) : Prop := ∀ j oj, ops[j]? = some oj → listed.getD j false = true → ∀ e ∈ oj.after, Region.binds md e = true → listed.getD e.on false = true
def closedB (md : Region.Mode) (ops : Array Oper) (listed : Array Bool) : Bool :=
  (List.range ops.size).all fun j => match ops[j]? with
    | some o => !listed.getD j false || o.after.all fun e => !Region.binds md e || listed.getD e.on false
    | none => true
theorem closed_of {listed : Array Bool} (h : closedB md ops listed = true) : Closed md ops listed := fun j oj hj hl e he hb => by
  have hjs : j < ops.size := (Array.getElem?_eq_some_iff.1 hj).1
  have := List.all_eq_true.1 h j (List.mem_range.2 hjs)
  simp only [hj, Bool.or_eq_true, Bool.not_eq_true', Array.all_eq_true'] at this
  rcases this with h1 | h1
  · rw [hl] at h1; cases h1
  · rcases h1 e he with h2 | h2
    · rw [hb] at h2; cases h2
    · exact h2
theorem closed_set {i : Nat} {listed : Array Bool} (hc : Closed md ops listed) (hi : i ∈ Region.ready md ops listed) : Closed md ops (listed.setIfInBounds i true) := fun j oj hj hl e he hb => by
  obtain ⟨_, oi, hoi, hall⟩ := mem_ready.1 hi
  by_cases hij : i = j
  · subst hij
    have : oj = oi := Option.some.inj (hj.symm.trans hoi)
    subst this
    exact getD_set_true (hall e he hb)
  · rw [getD_set_ne false hij] at hl
    exact getD_set_true (hc j oj hj hl e he hb)
/-- operation j waits for operation i, at first or at last -/
def reach (md : Region.Mode) (ops : Array Oper) : Nat → Nat → Nat → Bool
  | 0, _, _ => false
  | n + 1, j, i => match ops[j]? with
    | some o => o.after.any fun e => Region.binds md e && (e.on == i || reach md ops n e.on i)
    | none => false
theorem reach_listed {listed : Array Bool} (hc : Closed md ops listed) {i : Nat} : ∀ (n j : Nat) (oj : Oper), ops[j]? = some oj → (∀ e ∈ oj.after, Region.binds md e = true → listed.getD e.on false = true) → reach md ops n j i = true → listed.getD i false = true
  | 0, _, _, _, _, h => by cases h
  | n + 1, j, oj, hj, hall, h => by
    simp only [reach, hj, Array.any_eq_true', Bool.and_eq_true, Bool.or_eq_true, beq_iff_eq] at h
    obtain ⟨e, he, hb, h1 | h1⟩ := h
    · rw [← h1]; exact hall e he hb
    · have hl := hall e he hb
      cases ho : ops[e.on]? with
      | none => cases n with
        | zero => cases h1
        | succ n => simp [reach, ho] at h1
      | some oe => exact reach_listed hc n e.on oe ho (fun e' he' hb' => hc e.on oe ho hl e' he' hb') h1
/-- all operations from s on wait for operation i -/
def sinkB (md : Region.Mode) (ops : Array Oper) (s i : Nat) : Bool := (List.range ops.size).all fun j => decide (j < s) || reach md ops 40 j i

/-- whatever order is picked from here on; of the world S is told -/
def wpAnyV (P : Program) (md : Region.Mode) (ops : Array Oper) (Q : Exit → Act → World → Prop) (s : Nat) : Nat → Array Bool → Act → (World → Prop) → Prop
  | 0, listed, a, S => Region.ready md ops listed = [] ∧ ∀ w, S w → Q .normal a w
  | fuel + 1, listed, a, S => ∀ w, S w → (Region.ready md ops listed = [] → Q .normal a w) ∧
    ∀ i ∈ Region.ready md ops listed, Go.wpOp P ops Q i (fun a' w' => ∃ S' : World → Prop, S' w' ∧ (i < s → Stab S' ∧ ∀ u, S' u → S u) ∧ wpAnyV P md ops Q s fuel (listed.setIfInBounds i true) a' S') a w

theorem wpAny_of_u : ∀ (fuel : Nat) (listed : Array Bool) (a : Act) (S : World → Prop) (w : World), S w → wpAnyV P md ops Q s fuel listed a S → wpAny P md ops Q fuel listed a w
  | 0, _, _, _, w, hS, h => ⟨h.1, h.2 w hS⟩
  | fuel + 1, _, _, _, w, hS, h => ⟨(h w hS).1, fun i hi => wpOp_mono (fun a' w' ⟨S', h1, _, h4⟩ => wpAny_of_u fuel _ a' S' w' h1 h4) ((h w hS).2 i hi)⟩

theorem u_first {i : Nat} {oi : Oper} {v : Value} (hb : sinkB md ops s i = true) (hi : ops[i]? = some oi) (hsel : ∀ (j : Nat) (o : Oper) cs b, ops[j]? = some o → o.op ≠ .select cs b)
    (hQ : ∀ c a w, Q (.panic c) (a.put oi.dst v) w → Q (.panic c) a w) :
    ∀ (fuel : Nat) (listed : Array Bool) (a : Act) (S : World → Prop), Stab S → Closed md ops listed →
      (∀ j oj, ops[j]? = some oj → j ≠ i → listed.getD j true = false → (∀ e ∈ oj.after, Region.binds md e = true → e.on ≠ i) → oi.apart ops oj = true) →
      i ∈ Region.ready md ops listed → YQ P ops S oi v a →
      wpAnyV P md ops Q s fuel (listed.setIfInBounds i true) (a.put oi.dst v) S → wpAnyV P md ops Q s (fuel + 1) listed a S := by
  intro fuel
  induction fuel with
  | zero =>
    intro listed a S hst hcl _ hr hy H w hS
    refine ⟨fun h => (by rw [h] at hr; cases hr), fun j hj => ?_⟩
    by_cases hji : j = i
    · subst hji; exact hy.wpOp hi hS fun w' k => ⟨S, hst _ _ hS k, fun _ => ⟨hst, fun _ h => h⟩, H⟩
    · have := ready_mono hj hji
      rw [H.1] at this
      cases this
  | succ fuel ih =>
    intro listed a S hst hcl hfree hr hy H w hS
    refine ⟨fun h => (by rw [h] at hr; cases hr), fun j hj => ?_⟩
    by_cases hji : j = i
    · subst hji; exact hy.wpOp hi hS fun w' k => ⟨S, hst _ _ hS k, fun _ => ⟨hst, fun _ h => h⟩, H⟩
    · have h1 := (H w hS).2 j (ready_mono hj hji)
      obtain ⟨hjun, oj, hoj, hall⟩ := mem_ready.1 hj
      have hiun := (mem_ready.1 hr).1
      have hnot : ∀ e ∈ oj.after, Region.binds md e = true → e.on ≠ i := fun e he hb heq => by
        have h1 := hall e he hb
        rw [heq] at h1
        rcases Nat.lt_or_ge i listed.size with h' | h'
        · simp [h'] at hiun h1; rw [hiun] at h1; cases h1
        · simp [Array.getElem?_eq_none h'] at h1
      have h2 := wpOp_putQ hoj (hfree j oj hoj hji hjun hnot) (fun cs b => hsel i oi cs b hi) (fun cs b => hsel j oj cs b hoj) hQ hy h1
      have hfree' : ∀ k ok, ops[k]? = some ok → k ≠ i → (listed.setIfInBounds j true).getD k true = false →
          (∀ e ∈ ok.after, Region.binds md e = true → e.on ≠ i) → oi.apart ops ok = true := fun k ok hk hki hun hno => by
        refine hfree k ok hk hki ?_ hno
        by_cases hjk : j = k
        · subst hjk; exact hjun
        · rw [getD_set_ne true hjk] at hun; exact hun
      have hcomm : (listed.setIfInBounds i true).setIfInBounds j true = (listed.setIfInBounds j true).setIfInBounds i true := Array.setIfInBounds_comm _ _ (Ne.symm hji)
      refine wpOp_mono (fun a' w' h3 => ?_) h2
      obtain ⟨hy3, S', hS', hss, h4⟩ := h3
      rw [hcomm] at h4
      have hjs : j < s := by
        have hjz : j < ops.size := (Array.getElem?_eq_some_iff.1 hoj).1
        have h0 := List.all_eq_true.1 hb j (List.mem_range.2 hjz)
        simp only [Bool.or_eq_true, decide_eq_true_eq] at h0
        rcases h0 with h0 | h0
        · exact h0
        · have h9 := reach_listed hcl 40 j oj hoj hall h0
          rcases Nat.lt_or_ge i listed.size with h' | h'
          · simp [h'] at hiun h9; rw [hiun] at h9; cases h9
          · simp [Array.getElem?_eq_none h'] at h9
      obtain ⟨hst', hsub⟩ := hss hjs
      exact ⟨S', hS', fun _ => ⟨hst', hsub⟩, ih (listed.setIfInBounds j true) a' S' hst' (closed_set hcl hj) hfree' (ready_mono hr (Ne.symm hji)) (hy3.sub hsub) h4⟩

/-- an operation that yields one value is taken first -/
theorem take (i : Nat) (d : Option Tmp) {oi : Oper} {v : Value} {fuel : Nat} {listed : Array Bool} {a : Act} (hi : ops[i]? = some oi) (hd : oi.dst = d)
    (hs : Region.noSelect ops = true) (hf : Region.free md ops listed i = true) (hr : (Region.ready md ops listed).contains i = true)
    (hb : (sinkB md ops s i && closedB md ops listed) = true)
    (hQ : ∀ c a w, Q (.panic c) (a.put oi.dst v) w → Q (.panic c) a w) (hS : Stab S) (hy : YQ P ops S oi v a)
    (h : wpAnyV P md ops Q s fuel (listed.setIfInBounds i true) (a.put d v) S) : wpAnyV P md ops Q s (fuel + 1) listed a S :=
  have hb := Bool.and_eq_true_iff.1 hb
  u_first hb.1 hi (Region.noSelect_spec hs) hQ fuel listed a S hS (closed_of hb.2) (Region.free_spec hi hf) (by simpa using hr) hy (by rw [hd]; exact h)
/-- operation i comes up next, alone -/
theorem step (i : Nat) {o : Oper} {fuel : Nat} {listed : Array Bool} {a : Act} (ho : ops[i]? = some o) (hr : Region.ready md ops listed = [i])
    (h : ∀ w, S w → ∀ K' : Act → World → Prop, Shut (∀ (S' : World → Prop) (a : Act) (w : World), S' w → Stab S' → (∀ u, S' u → S u) → wpAnyV P md ops Q s fuel (listed.setIfInBounds i true) a S' → K' a w) → if Region.wanted o (yielded ops a.tmps) = true then Oper.wp P o a w K' Q else K' (a.put o.dst undef) w) :
    wpAnyV P md ops Q s (fuel + 1) listed a S := fun w hw =>
  ⟨fun h0 => (by rw [hr] at h0; cases h0), fun j hj => by
    rw [hr] at hj
    obtain rfl : j = i := by simpa using hj
    exact wpOp_step ho (fun K' hK => h w hw K' (fun S' a w h1 h2 h3 h4 => hK a w ⟨S', h1, fun _ => ⟨h2, h3⟩, h4⟩))⟩
/-- two operations may come up next -/
theorem fork (i j : Nat) {oi oj : Oper} {fuel : Nat} {listed : Array Bool} {a : Act} (hi : ops[i]? = some oi) (hj : ops[j]? = some oj) (hr : Region.ready md ops listed = [i, j])
    (h1 : ∀ w, S w → ∀ K' : Act → World → Prop, Shut (∀ (S' : World → Prop) (a : Act) (w : World), S' w → Stab S' → (∀ u, S' u → S u) → wpAnyV P md ops Q s fuel (listed.setIfInBounds i true) a S' → K' a w) → if Region.wanted oi (yielded ops a.tmps) = true then Oper.wp P oi a w K' Q else K' (a.put oi.dst undef) w)
    (h2 : ∀ w, S w → ∀ K' : Act → World → Prop, Shut (∀ (S' : World → Prop) (a : Act) (w : World), S' w → Stab S' → (∀ u, S' u → S u) → wpAnyV P md ops Q s fuel (listed.setIfInBounds j true) a S' → K' a w) → if Region.wanted oj (yielded ops a.tmps) = true then Oper.wp P oj a w K' Q else K' (a.put oj.dst undef) w) :
    wpAnyV P md ops Q s (fuel + 1) listed a S := fun w hw =>
  ⟨fun h0 => (by rw [hr] at h0; cases h0), fun k hk => by
    rw [hr] at hk
    have hk2 : k = i ∨ k = j := by simpa using hk
    rcases hk2 with rfl | rfl
    · exact wpOp_step hi (fun K' hK => h1 w hw K' (fun S' a w h1 h2 h3 h4 => hK a w ⟨S', h1, fun _ => ⟨h2, h3⟩, h4⟩))
    · exact wpOp_step hj (fun K' hK => h2 w hw K' (fun S' a w h1 h2 h3 h4 => hK a w ⟨S', h1, fun _ => ⟨h2, h3⟩, h4⟩))⟩
/-- all have come up -/
theorem done {fuel : Nat} {listed : Array Bool} {a : Act} (hr : Region.ready md ops listed = []) (h : ∀ w, S w → Q .normal a w) : wpAnyV P md ops Q s fuel listed a S := by
  cases fuel with
  | zero => exact ⟨hr, h⟩
  | succ n => exact fun w hw => ⟨fun _ => h w hw, by rw [hr]; simp⟩
/-- K behind a normal end, else Q -/
def Qk (K : Act → World → Prop) (Q : Exit → Act → World → Prop) : Exit → Act → World → Prop
  | .normal, a, w => K a w
  | e, a, w => Q e a w
theorem wpOp_of_list {i : Nat} {o : Oper} (ho : ops[i]? = some o) {K : Act → World → Prop} {a : Act} {w : World} (h : wpList P ops (Qk K Q) [o] a w) : Go.wpOp P ops Q i K a w := by
  unfold Go.wpOp
  simp only [ho]
  unfold wpList at h
  split at h
  · rename_i hw
    rw [if_pos hw]
    rcases h with h | ⟨h1, a', w', h2⟩
    · refine .inl ?_
      unfold Oper.wp at *
      generalize (execOp a.eval o).run P w = r at *
      cases r with
      | ok n w' =>
        cases n <;> simp only [Oper.upon] at h ⊢
        case value u => exact h
        case skip => exact h
        case defer d => exact h
        case enter f args =>
          refine Calls.mono h fun e w'' he => ?_
          cases e with
          | returned u => exact he
          | panicked c => exact he
          | outgrown => obtain ⟨a', w', h2⟩ := he; exact ⟨a', w', h2⟩
        case row row args => exact Rows.mono h fun u w'' he => he
      | halt x w' =>
        cases x <;> simp only [Oper.upon] at h ⊢
        case panic u => exact h
    · exact .inr ⟨h1, a', w', h2⟩
  · rename_i hw
    rw [if_neg hw]
    exact h
/-- operation i comes up next, alone; it is walked as a list of its own -/
theorem step_list (i : Nat) {o : Oper} {fuel : Nat} {listed : Array Bool} {a : Act} (ho : ops[i]? = some o) (hr : Region.ready md ops listed = [i])
    (h : ∀ w, S w → ∀ K' : Act → World → Prop, Shut (∀ (S' : World → Prop) (a : Act) (w : World), S' w → Stab S' → (∀ u, S' u → S u) → wpAnyV P md ops Q s fuel (listed.setIfInBounds i true) a S' → K' a w) → wpList P ops (Qk K' Q) [o] a w) :
    wpAnyV P md ops Q s (fuel + 1) listed a S := fun w hw =>
  ⟨fun h0 => (by rw [hr] at h0; cases h0), fun j hj => by
    rw [hr] at hj
    obtain rfl : j = i := by simpa using hj
    exact wpOp_of_list ho (h w hw _ (fun S' a w h1 h2 h3 h4 => ⟨S', h1, fun _ => ⟨h2, h3⟩, h4⟩))⟩
/-- operation i, from s on, comes up next, alone: the world is told as it is -/
theorem tail (i : Nat) {o : Oper} {fuel : Nat} {listed : Array Bool} {a : Act} (ho : ops[i]? = some o) (hr : Region.ready md ops listed = [i]) (hs : s ≤ i)
    (h : ∀ w, S w → ∀ K' : Act → World → Prop, Shut (∀ (a : Act) (w : World), wpAnyV P md ops Q s fuel (listed.setIfInBounds i true) a (fun u => w = u) → K' a w) → if Region.wanted o (yielded ops a.tmps) = true then Oper.wp P o a w K' Q else K' (a.put o.dst undef) w) :
    wpAnyV P md ops Q s (fuel + 1) listed a S := fun w hw =>
  ⟨fun h0 => (by rw [hr] at h0; cases h0), fun j hj => by
    rw [hr] at hj
    obtain rfl : j = i := by simpa using hj
    exact wpOp_step ho (fun K' hK => h w hw K' (fun a w hq => hK a w ⟨fun u => w = u, rfl, fun hlt => absurd hlt (Nat.not_lt.2 hs), hq⟩))⟩
theorem tail_list (i : Nat) {o : Oper} {fuel : Nat} {listed : Array Bool} {a : Act} (ho : ops[i]? = some o) (hr : Region.ready md ops listed = [i]) (hs : s ≤ i)
    (h : ∀ w, S w → ∀ K' : Act → World → Prop, Shut (∀ (a : Act) (w : World), wpAnyV P md ops Q s fuel (listed.setIfInBounds i true) a (fun u => w = u) → K' a w) → wpList P ops (Qk K' Q) [o] a w) :
    wpAnyV P md ops Q s (fuel + 1) listed a S := fun w hw =>
  ⟨fun h0 => (by rw [hr] at h0; cases h0), fun j hj => by
    rw [hr] at hj
    obtain rfl : j = i := by simpa using hj
    exact wpOp_of_list ho (h w hw _ (fun a w hq => ⟨fun u => w = u, rfl, fun hlt => absurd hlt (Nat.not_lt.2 hs), hq⟩))⟩
/-- the beginning -/
theorem region (s : Nat) (S : World → Prop) {id : Nat} {a : Act} {w : World} (hm : P.follows .mixedOrders = true) (hS : S w.drew) (h : wpAnyV P .any ops Q s ops.size (Array.replicate ops.size false) a S) : (Code.region id ops true).wp P Q a w :=
  wp_region_any hm (wpAny_of_u _ _ _ S _ hS h)

end

end Go.Proofs.Ytiaafjabhnomeaa.Av
