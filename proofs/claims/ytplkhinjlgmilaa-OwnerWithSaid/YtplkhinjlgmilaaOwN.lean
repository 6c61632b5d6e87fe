/- A call that is put, plain; a call's identity stored into it. -/
import Derived.Test.YtplkhinjlgmilaaOw7
import Derived.Test.YtplkhinjlgmilaaAu
namespace Go.Proofs.Ytplkhinjlgmilaa.Ow
open Go.RowKit Go.Sort Go.Shelf St Blk Eqs
open Go.Proofs.Ytplkhinjlgmilaa.Cl
open Go.Proofs.Ytplkhinjlgmilaa.Ls
open Go.Proofs.Ytplkhinjlgmilaa.Rv
set_option linter.unusedVariables false

theorem first_set {f : Cl → Bool} {x : Cl} (hx : f x = true) : ∀ {K : List Cl} {i : Nat}, K.findIdx? f = some i → (K.set i x).findIdx? f = some i
  | [], i, h => by cases h
  | a :: l, i, h => by
    rw [List.findIdx?_cons] at h
    split at h
    · cases h; simp [List.findIdx?_cons, hx]
    · rename_i ha
      cases hl : l.findIdx? f with
      | none => rw [hl] at h; cases h
      | some j =>
        rw [hl] at h
        cases h
        simp [List.findIdx?_cons, ha, first_set hx hl]
theorem first_app {f : Cl → Bool} {x : Cl} (hx : f x = true) : ∀ {K : List Cl}, K.findIdx? f = none → (K ++ [x]).findIdx? f = some K.length
  | [], h => by simp [List.findIdx?_cons, hx]
  | a :: l, h => by
    rw [List.findIdx?_cons] at h
    split at h
    · cases h
    · rename_i ha
      cases hl : l.findIdx? f with
      | some j => rw [hl] at h; cases h
      | none => simp [List.findIdx?_cons, ha, first_app hx hl]
theorem other_set {f g : Cl → Bool} {x : Cl} (hx : g x = false) (hfg : ∀ y, f y = true → g y = false) : ∀ {K : List Cl} {i : Nat}, K.findIdx? f = some i → (K.set i x).findIdx? g = K.findIdx? g
  | [], i, h => by cases h
  | a :: l, i, h => by
    rw [List.findIdx?_cons] at h
    split at h
    · rename_i ha
      cases h
      simp [List.findIdx?_cons, hx, hfg a ha]
    · cases hl : l.findIdx? f with
      | none => rw [hl] at h; cases h
      | some j =>
        rw [hl] at h
        cases h
        simp [List.findIdx?_cons, other_set hx hfg hl]
theorem other_app {g : Cl → Bool} {x : Cl} (hx : g x = false) : ∀ {K : List Cl}, (K ++ [x]).findIdx? g = K.findIdx? g
  | [] => by simp [List.findIdx?_cons, hx]
  | a :: l => by simp [List.findIdx?_cons, other_app hx]
theorem same_self (x : Cl) : sameI (nameOf x) x = true := by simp [sameI, nameOf]
theorem same_name {x y : Cl} (h : sameI (nameOf x) y = true) : y.n = x.n ∧ y.i = x.i ∧ y.s = x.s := by
  simp only [sameI, nameOf, Bool.and_eq_true, beq_iff_eq] at h
  exact h
/-- d under c's name -/
def under (c d : Cl) : Cl := { d with n := c.n, i := c.i, s := c.s }
theorem under_name (c d : Cl) : nameOf (under c d) = nameOf c := rfl
theorem with_twice (K : List Cl) (c d : Cl) : withL (withL K c) (under c d) = withL K (under c d) ∧ (withL (withL K c) (under c d)).length = (withL K c).length ∧
    ∃ i : Nat, findL (withL (withL K c) (under c d)) (nameOf c) = (i : Int) ∧ (withL (withL K c) (under c d))[i]? = some (under c d) := by
  have hs : sameI (nameOf c) (under c d) = true := same_self (under c d)
  have hn : nameOf (under c d) = nameOf c := rfl
  cases hf : K.findIdx? (sameI (nameOf c)) with
  | some i =>
    have hi := first_lt hf
    have h1 := first_set (same_self c) hf
    rw [with_hit (x := c) hf, with_hit (x := under c d) (K := K) hf, with_hit (x := under c d) (K := K.set i c) h1, List.set_set]
    refine ⟨rfl, by simp, i, find_hit (first_set hs hf), List.getElem?_set_self hi⟩
  | none =>
    have h1 := first_app (same_self c) hf
    rw [with_miss (x := c) hf, with_miss (x := under c d) (K := K) hf, with_hit (x := under c d) (K := K ++ [c]) h1]
    have e : (K ++ [c]).set K.length (under c d) = K ++ [under c d] := by
      simp [List.set_append_right]
    rw [e]
    exact ⟨rfl, by simp, K.length, find_hit (first_app hs hf), by simp⟩
theorem with_other (K : List Cl) (x : Cl) (d : Nm) (h : ¬ (d.n = x.n ∧ d.i = x.i ∧ d.s = x.s)) : findL (withL K x) d = findL K d := by
  have hx : sameI d x = false := by
    cases he : sameI d x with
    | false => rfl
    | true =>
      simp only [sameI, Bool.and_eq_true, beq_iff_eq] at he
      exact absurd ⟨he.1.symm, he.2.1.symm, he.2.2.symm⟩ h
  have hfg : ∀ y, sameI (nameOf x) y = true → sameI d y = false := fun y hy => by
    obtain ⟨h1, h2, h3⟩ := same_name hy
    cases he : sameI d y with
    | false => rfl
    | true =>
      simp only [sameI, Bool.and_eq_true, beq_iff_eq] at he
      exact absurd ⟨he.1.symm.trans h1, he.2.1.symm.trans h2, he.2.2.symm.trans h3⟩ h
  unfold findL idx
  cases hf : K.findIdx? (sameI (nameOf x)) with
  | some i => rw [with_hit hf, other_set hx hfg hf]
  | none => rw [with_miss hf, other_app hx]

/-- an identity is stored into a call's row -/
theorem store_ident {w : World} {t : TypeId} {ops : Array Oper} {rest : List Oper} {o : Oper} {a : Act} {Q : Exit → Act → World → Prop} (hgd : o.guard = none) (x y : Operand) (ho : o.op = .store 23 x y)
    (g : Nat) (c d : Cl) (hx : a.eval x = .pointer (some ⟨g, 0, none⟩)) (hy : a.eval y = .agg #[.int .i64 c.n, .int .i64 c.i, .int .i64 c.s]) (hb : w.heap[g]? = some (.cells d.arr t (0, 0)))
    (h : wpList Try.prog ops Q rest (a.put o.dst undef) (w.setRow g (under c d).arr)) : wpList Try.prog ops Q (o :: rest) a w := by
  have hst := run_storeCells_at Try.prog g 0 t [.int .i64 c.n, .int .i64 c.i, .int .i64 c.s] 0 d.arr w hb (by show 0 + 0 + 3 ≤ 13; omega) (fun u hu => by
    simp only [List.mem_cons, List.not_mem_nil, or_false] at hu
    rcases hu with rfl | rfl | rfl <;> rfl)
  have hi : (Try.prog.info? 23).map (·.size) = some 3 := by kernel_rfl
  cases hq : Try.prog.info? 23 with
  | none => simp [hq] at hi
  | some i0 =>
    have hz1 : i0.size = 3 := by simpa [hq] using hi
    have hrun : (storeVar 23 ⟨g, 0, none⟩ (.agg #[.int .i64 c.n, .int .i64 c.i, .int .i64 c.s])).run Try.prog w = .ok () (w.setRow g (under c d).arr) := by
      rw [show (d.arr.toList.take (0 + 0) ++ [Value.int .i64 c.n, .int .i64 c.i, .int .i64 c.s] ++ d.arr.toList.drop (0 + 0 + [Value.int .i64 c.n, .int .i64 c.i, .int .i64 c.s].length)).toArray = (under c d).arr from rfl] at hst
      simp [storeVar, sizeOf, typeInfo, hq, Value.cells, hz1, hst]
    refine wpList_plain hgd fun K hK => ?_
    unfold Oper.wp execOp
    simp only [ho, hx, hy, Instr.storeAt, Instr.sureAddr, Sem.run_bind, Sem.run_pure, Result.andThen_ok, hrun]
    exact hK _ _ h

end Go.Proofs.Ytplkhinjlgmilaa.Ow
