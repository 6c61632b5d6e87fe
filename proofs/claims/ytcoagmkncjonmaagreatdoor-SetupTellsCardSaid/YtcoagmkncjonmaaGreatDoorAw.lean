/- Av, with two operations of the tail that may come up next. No function of the program is spoken of here. -/
import Derived.Test.YtcoagmkncjonmaaGreatDoorAu
import Derived.Maps.OwnSet
namespace Go.Proofs.YtcoagmkncjonmaaGreatDoor.Av
open Go.RowKit Go.Sort
set_option linter.unusedVariables false

section
variable {P : Program} {ops : Array Oper} {Q : Exit → Act → World → Prop} {md : Region.Mode} {S : World → Prop} {s : Nat}
/-- operation j waits for the first of a way, that for the next one .. -/
def pathB (md : Region.Mode) (ops : Array Oper) : Nat → List Nat → Bool
  | _, [] => true
  | j, k :: r => (match ops[j]? with
    | some o => o.after.any fun e => Region.binds md e && e.on == k
    | none => false) && pathB md ops k r
/-- each operation behind s waits for one from s on -/
def spineB (md : Region.Mode) (ops : Array Oper) (s : Nat) : Bool := (List.range ops.size).all fun j => decide (j ≤ s) || (match ops[j]? with
    | some o => o.after.any fun e => Region.binds md e && (decide (s ≤ e.on) && decide (e.on < j))
    | none => false)
theorem path_listed {listed : Array Bool} (hc : Closed md ops listed) : ∀ (p : List Nat) (j : Nat) (oj : Oper) (i : Nat), ops[j]? = some oj → (∀ e ∈ oj.after, Region.binds md e = true → listed.getD e.on false = true) → pathB md ops j (p ++ [i]) = true → listed.getD i false = true
  | [], j, oj, i, hj, hall, h => by
    simp only [List.nil_append, pathB, hj, Bool.and_true, Array.any_eq_true', Bool.and_eq_true, beq_iff_eq] at h
    obtain ⟨e, he, hb, h1⟩ := h
    rw [← h1]; exact hall e he hb
  | k :: r, j, oj, i, hj, hall, h => by
    simp only [List.cons_append, pathB, hj, Bool.and_eq_true, Array.any_eq_true', beq_iff_eq] at h
    obtain ⟨⟨e, he, hb, h1⟩, h2⟩ := h
    have hl := hall e he hb
    rw [h1] at hl
    cases ho : ops[k]? with
    | none => cases r with
      | nil => simp [pathB, ho] at h2
      | cons a r => simp [pathB, ho] at h2
    | some ok => exact path_listed hc r k ok i ho (fun e' he' hb' => hc k ok ho hl e' he' hb') h2
theorem spine_listed {listed : Array Bool} (hc : Closed md ops listed) (hsp : spineB md ops s = true) : ∀ (j : Nat) (oj : Oper), s ≤ j → ops[j]? = some oj → (∀ e ∈ oj.after, Region.binds md e = true → listed.getD e.on false = true) →
    ∃ os, ops[s]? = some os ∧ ∀ e ∈ os.after, Region.binds md e = true → listed.getD e.on false = true := by
  intro j
  induction j using Nat.strongRecOn with
  | ind j ih =>
    intro oj hsj hj hall
    by_cases h : j = s
    · subst h; exact ⟨oj, hj, hall⟩
    · have hjz : j < ops.size := (Array.getElem?_eq_some_iff.1 hj).1
      have h0 := List.all_eq_true.1 hsp j (List.mem_range.2 hjz)
      simp only [hj, Bool.or_eq_true, decide_eq_true_eq, Array.any_eq_true', Bool.and_eq_true] at h0
      rcases h0 with h0 | ⟨e, he, hb, h1, h2⟩
      · omega
      · have hl := hall e he hb
        cases ho : ops[e.on]? with
        | none => have := (Array.getElem?_eq_none_iff.1 ho); omega
        | some oe => exact ih e.on h2 oe h1 ho (fun e' he' hb' => hc e.on oe ho hl e' he' hb')
theorem w_first {i : Nat} {oi : Oper} {v : Value} {p : List Nat} (hsp : spineB md ops s = true) (hpa : pathB md ops s (p ++ [i]) = true) (hi : ops[i]? = some oi) (hsel : ∀ (j : Nat) (o : Oper) cs b, ops[j]? = some o → o.op ≠ .select cs b)
    (hQ : ∀ c a w, Q (.panic c) (a.put oi.dst v) w → Q (.panic c) a w) :
    ∀ (fuel : Nat) (listed : Array Bool) (a : Act) (S : World → Prop), Au.Stab S → Closed md ops listed →
      (∀ j oj, ops[j]? = some oj → j ≠ i → listed.getD j true = false → (∀ e ∈ oj.after, Region.binds md e = true → e.on ≠ i) → oi.apart ops oj = true) →
      i ∈ Region.ready md ops listed → Au.YQ P ops S oi v a →
      wpAnyV P md ops Q s fuel (listed.setIfInBounds i true) (a.put oi.dst v) S → wpAnyV P md ops Q s (fuel + 1) listed a S := by
  intro fuel
  induction fuel with
  | zero =>
    intro listed a S hst hcl _ hr hy H w hS
    refine ⟨fun h => (by rw [h] at hr; cases hr), fun j hj => ?_⟩
    by_cases hji : j = i
    · subst hji; exact hy.wpOp hi hS fun w' k => ⟨S, hst _ _ hS k, fun _ => ⟨hst, fun _ h => h⟩, H⟩
    · have := ready_mono hj hji
      rw [H.1] at this
      cases this
  | succ fuel ih =>
    intro listed a S hst hcl hfree hr hy H w hS
    refine ⟨fun h => (by rw [h] at hr; cases hr), fun j hj => ?_⟩
    by_cases hji : j = i
    · subst hji; exact hy.wpOp hi hS fun w' k => ⟨S, hst _ _ hS k, fun _ => ⟨hst, fun _ h => h⟩, H⟩
    · have h1 := (H w hS).2 j (ready_mono hj hji)
      obtain ⟨hjun, oj, hoj, hall⟩ := mem_ready.1 hj
      have hiun := (mem_ready.1 hr).1
      have hnot : ∀ e ∈ oj.after, Region.binds md e = true → e.on ≠ i := fun e he hb heq => by
        have h1 := hall e he hb
        rw [heq] at h1
        rcases Nat.lt_or_ge i listed.size with h' | h'
        · simp [h'] at hiun h1; rw [hiun] at h1; cases h1
        · simp [Array.getElem?_eq_none h'] at h1
      have h2 := Au.wpOp_putQ hoj (hfree j oj hoj hji hjun hnot) (fun cs b => hsel i oi cs b hi) (fun cs b => hsel j oj cs b hoj) hQ hy h1
      have hfree' : ∀ k ok, ops[k]? = some ok → k ≠ i → (listed.setIfInBounds j true).getD k true = false →
          (∀ e ∈ ok.after, Region.binds md e = true → e.on ≠ i) → oi.apart ops ok = true := fun k ok hk hki hun hno => by
        refine hfree k ok hk hki ?_ hno
        by_cases hjk : j = k
        · subst hjk; exact hjun
        · rw [getD_set_ne true hjk] at hun; exact hun
      have hcomm : (listed.setIfInBounds i true).setIfInBounds j true = (listed.setIfInBounds j true).setIfInBounds i true := Array.setIfInBounds_comm _ _ (Ne.symm hji)
      refine wpOp_mono (fun a' w' h3 => ?_) h2
      obtain ⟨hy3, S', hS', hss, h4⟩ := h3
      rw [hcomm] at h4
      have hjs : j < s := by
        rcases Nat.lt_or_ge j s with h0 | h0
        · exact h0
        · obtain ⟨os, ho, hos⟩ := spine_listed hcl hsp j oj h0 hoj hall
          have h9 := path_listed hcl p s os i ho hos hpa
          rcases Nat.lt_or_ge i listed.size with h' | h'
          · simp [h'] at hiun h9; rw [hiun] at h9; cases h9
          · simp [Array.getElem?_eq_none h'] at h9
      obtain ⟨hst', hsub⟩ := hss hjs
      exact ⟨S', hS', fun _ => ⟨hst', hsub⟩, ih (listed.setIfInBounds j true) a' S' hst' (closed_set hcl hj) hfree' (ready_mono hr (Ne.symm hji)) (hy3.sub hsub) h4⟩
/-- an operation that yields one value is taken first; p: a way from s to it -/
theorem takep (i : Nat) (d : Option Tmp) (p : List Nat) {oi : Oper} {v : Value} {fuel : Nat} {listed : Array Bool} {a : Act} (hi : ops[i]? = some oi) (hd : oi.dst = d)
    (hs : Region.noSelect ops = true) (hf : Region.free md ops listed i = true) (hr : (Region.ready md ops listed).contains i = true)
    (hb : ((spineB md ops s && pathB md ops s (p ++ [i])) && closedB md ops listed) = true)
    (hQ : ∀ c a w, Q (.panic c) (a.put oi.dst v) w → Q (.panic c) a w) (hS : Au.Stab S) (hy : Au.YQ P ops S oi v a)
    (h : wpAnyV P md ops Q s fuel (listed.setIfInBounds i true) (a.put d v) S) : wpAnyV P md ops Q s (fuel + 1) listed a S :=
  have hb := Bool.and_eq_true_iff.1 hb
  have hc := Bool.and_eq_true_iff.1 hb.1
  w_first hc.1 hc.2 hi (Region.noSelect_spec hs) hQ fuel listed a S hS (closed_of hb.2) (Region.free_spec hi hf) (by simpa using hr) hy (by rw [hd]; exact h)
theorem fork_list (i j : Nat) {oi oj : Oper} {fuel : Nat} {listed : Array Bool} {a : Act} (hi : ops[i]? = some oi) (hj : ops[j]? = some oj) (hr : Region.ready md ops listed = [i, j])
    (h1 : ∀ w, S w → ∀ K' : Act → World → Prop, Shut (∀ (S' : World → Prop) (a : Act) (w : World), S' w → Au.Stab S' → (∀ u, S' u → S u) → wpAnyV P md ops Q s fuel (listed.setIfInBounds i true) a S' → K' a w) → wpList P ops (Qk K' Q) [oi] a w)
    (h2 : ∀ w, S w → ∀ K' : Act → World → Prop, Shut (∀ (S' : World → Prop) (a : Act) (w : World), S' w → Au.Stab S' → (∀ u, S' u → S u) → wpAnyV P md ops Q s fuel (listed.setIfInBounds j true) a S' → K' a w) → wpList P ops (Qk K' Q) [oj] a w) :
    wpAnyV P md ops Q s (fuel + 1) listed a S := fun w hw =>
  ⟨fun h0 => (by rw [hr] at h0; cases h0), fun k hk => by
    rw [hr] at hk
    have hk2 : k = i ∨ k = j := by simpa using hk
    rcases hk2 with rfl | rfl
    · exact wpOp_of_list hi (h1 w hw _ (fun S' a w h1 h2 h3 h4 => ⟨S', h1, fun _ => ⟨h2, h3⟩, h4⟩))
    · exact wpOp_of_list hj (h2 w hw _ (fun S' a w h1 h2 h3 h4 => ⟨S', h1, fun _ => ⟨h2, h3⟩, h4⟩))⟩
theorem tail_fork (i j : Nat) {oi oj : Oper} {fuel : Nat} {listed : Array Bool} {a : Act} (hi : ops[i]? = some oi) (hj : ops[j]? = some oj) (hr : Region.ready md ops listed = [i, j]) (hs : s ≤ i) (ht : s ≤ j)
    (h1 : ∀ w, S w → ∀ K' : Act → World → Prop, Shut (∀ (a : Act) (w : World), wpAnyV P md ops Q s fuel (listed.setIfInBounds i true) a (fun u => w = u) → K' a w) → wpList P ops (Qk K' Q) [oi] a w)
    (h2 : ∀ w, S w → ∀ K' : Act → World → Prop, Shut (∀ (a : Act) (w : World), wpAnyV P md ops Q s fuel (listed.setIfInBounds j true) a (fun u => w = u) → K' a w) → wpList P ops (Qk K' Q) [oj] a w) :
    wpAnyV P md ops Q s (fuel + 1) listed a S := fun w hw =>
  ⟨fun h0 => (by rw [hr] at h0; cases h0), fun k hk => by
    rw [hr] at hk
    have hk2 : k = i ∨ k = j := by simpa using hk
    rcases hk2 with rfl | rfl
    · exact wpOp_of_list hi (h1 w hw _ (fun a w hq => ⟨fun u => w = u, rfl, fun hlt => absurd hlt (Nat.not_lt.2 hs), hq⟩))
    · exact wpOp_of_list hj (h2 w hw _ (fun a w hq => ⟨fun u => w = u, rfl, fun hlt => absurd hlt (Nat.not_lt.2 ht), hq⟩))⟩
end

section
variable {P : Program} {ops : Array Oper} {rest : List Oper} {o : Oper} {a : Act} {w w' : World} {Q : Exit → Act → World → Prop}
/-- 'm[k] = f(m[k])': the entry -/
theorem run_entry (hg : o.guard = none) (m k : Operand) (t : TypeId) (hop : o.op = .mapEntry t m k) {M x v : Value} (hm : a.eval m = M) (hx : a.eval k = x) (hrun : (Instr.mapEntry t M x).run P w = .ok v w')
    (h : wpList P ops Q rest (a.put o.dst v) w') : wpList P ops Q (o :: rest) a w := by
  refine wpList_plain hg fun K' hK' => ?_
  unfold Oper.wp
  simp [execOp, hop, hm, hx, hrun, Result.andThen]
  exact hK' _ _ h
/-- .. and its store -/
theorem run_entryStore (hg : o.guard = none) (m k y : Operand) (t : TypeId) (hop : o.op = .entryStore t m k y) {M x v : Value} (hm : a.eval m = M) (hx : a.eval k = x) (hy : a.eval y = v) (hrun : (Instr.entryStore t M x v).run P w = .ok () w')
    (h : wpList P ops Q rest (a.put o.dst undef) w') : wpList P ops Q (o :: rest) a w := by
  refine wpList_plain hg fun K' hK' => ?_
  unfold Oper.wp
  simp [execOp, hop, hm, hx, hy, hrun, Result.andThen]
  exact hK' _ _ h
theorem run_update (hg : o.guard = none) (m k y : Operand) (t : TypeId) (hop : o.op = .mapUpdate t m k y) {M x v : Value} (hm : a.eval m = M) (hx : a.eval k = x) (hy : a.eval y = v) (hrun : (Instr.mapUpdate t M x v).run P w = .ok () w')
    (h : wpList P ops Q rest (a.put o.dst undef) w') : wpList P ops Q (o :: rest) a w := by
  refine wpList_plain hg fun K' hK' => ?_
  unfold Oper.wp
  simp [execOp, hop, hm, hx, hy, hrun, Result.andThen]
  exact hK' _ _ h
theorem run_delete (hg : o.guard = none) (m k : Operand) (t kt : TypeId) (hop : o.op = .call { callee := .builtin .delete, args := #[m, k], argTypes := #[t, kt] }) {M x : Value} (hm : a.eval m = M) (hx : a.eval k = x) (hrun : (Builtin.delete_ #[t, kt] o.type #[M, x]).run P w = .ok (.tuple #[]) w')
    (h : wpList P ops Q rest (a.put o.dst (.tuple #[])) w') : wpList P ops Q (o :: rest) a w := by
  refine wpList_plain hg fun K' hK' => ?_
  unfold Oper.wp
  simp [execOp, hop, resolve, invoke, builtin, hm, hx, hrun, Result.andThen]
  exact hK' _ _ h
theorem run_extract (hg : o.guard = none) (x : Operand) (i : Nat) (hop : o.op = .extract x i) {vs : Array Value} {v : Value} (hx : a.eval x = .tuple vs) (hi : vs[i]? = some v)
    (h : wpList P ops Q rest (a.put o.dst v) w) : wpList P ops Q (o :: rest) a w := by
  refine wpList_plain hg fun K' hK' => ?_
  unfold Oper.wp
  simp [execOp, hop, hx, Instr.extract, hi]
  exact hK' _ _ h
end

end Go.Proofs.YtcoagmkncjonmaaGreatDoor.Av
