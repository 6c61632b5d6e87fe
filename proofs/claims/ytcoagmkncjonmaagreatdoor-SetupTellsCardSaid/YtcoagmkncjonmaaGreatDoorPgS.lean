/- Slices of steps, appended. No function of the program is spoken of here. -/
import Derived.Test.YtcoagmkncjonmaaGreatDoorPg
namespace Go.Proofs.YtcoagmkncjonmaaGreatDoor.Pg
open Go.RowKit Go.Sort St Cd
open Go.Proofs.YtcoagmkncjonmaaGreatDoor.Rv
open Wh (Fr)
set_option linter.unusedVariables false
set_option linter.unusedSimpArgs false

theorem run_append_zero {P : Program} {w : World} (base : Nat) (t ty e : TypeId) (i : TypeInfo) (size : Nat) (ht : P.underlying t = some (.slice e)) (hi : P.info? e = some i)
    (v : Value) (n : Nat) (xs : List Value) (hown : w.ownsRow base e size v n xs) (p : Option Addr) (c : Nat) :
    (Builtin.append_ #[t, t] ty #[v, .slice p 0 c]).run P w = .ok v w := by
  rcases hown.2 with ⟨rfl, rfl⟩ | ⟨g, cap, cur, rfl, _, _, hnc, _⟩
  · cases p <;> simp [Builtin.append_, run_underlying ht, sizeOf, typeInfo, hi, Builtin.lenOf, Builtin.firstCells, loadCells, loadCellsFrom]
  · cases p <;> simp [Builtin.append_, run_underlying ht, sizeOf, typeInfo, hi, Builtin.lenOf, Builtin.firstCells, hnc, storeCells, loadCells, loadCellsFrom]
/-- what is appended is read from an argument -/
theorem ops_src {W : World} {v : Value} {L : List Op} (h : Ops W v L) (hne : L ≠ []) : SrcV W v Op.row L := by
  rcases h with ⟨e, _⟩ | ⟨_, _, b, off, cap, e, hb, hc⟩
  · exact absurd e hne
  · refine ⟨⟨b, off, none⟩, cap, e, fun j y hj => ?_⟩
    rw [Rv.addr_add]
    have hlen : (fl Op.row L).length = L.length * 3 := Rv.fl_len (enc := Op.row) (k := 3) Op.row_len L
    have hl : j < L.length * 3 := by have := (List.getElem?_eq_some_iff.1 hj).1; rwa [hlen] at this
    have hi : j / 3 < L.length := by omega
    have e3 : j / 3 * 3 + j % 3 = j := by omega
    have h3 : j % 3 < 3 := Nat.mod_lt _ (by decide)
    obtain ⟨o, ho⟩ : ∃ o, L[j / 3]? = some o := ⟨_, List.getElem?_eq_getElem hi⟩
    obtain ⟨x, hx⟩ : ∃ x, o.row[j % 3]? = some x := ⟨_, List.getElem?_eq_getElem (by rw [Op.row_len]; exact h3)⟩
    have h5 := Rv.fl_at (enc := Op.row) (k := 3) Op.row_len ho hx
    rw [e3, hj] at h5
    cases h5
    have h6 := hc _ _ ho _ _ hx
    rw [Nat.add_assoc, e3] at h6
    exact h6
/-- 'append(v, u...)' of an argument u -/
theorem append_ops (w : World) {ops : Array Oper} {rest : List Oper} {o : Oper} {a : Act} {Q : Exit → Act → World → Prop} (hgd : o.guard = none) (s x : Operand)
    (ho : o.op = .call { callee := .builtin .append, args := #[s, x], argTypes := #[39, 39] }) (v u : Value) (H K : List Op) (hs : a.eval s = v) (hx : a.eval x = u) (hv' : RowV w v 67 3 Op.row H) (hu : Ops w u K) (hn : H.length + K.length ≤ 1000000)
    (h : ∀ v2 w2, RowV w2 v2 67 3 Op.row (H ++ K) → w.grownBy w2 v.ownBlock → (v2.ownBlock = v.ownBlock ∨ ∃ g, v2.ownBlock = some g ∧ w.heap.size ≤ g) → wpList Tryz.prog ops Q rest (a.put o.dst v2) w2) : wpList Tryz.prog ops Q (o :: rest) a w := by
  by_cases hK : K = []
  · subst hK
    obtain ⟨p, N, cap, rfl, hN, _⟩ := hu.slice
    obtain rfl : N = 0 := hN.symm
    obtain ⟨i0, hi, hz0, hz1, hz2⟩ := info_parts enc_op.info
    rw [List.append_nil] at h
    refine wpList_plain hgd fun K hK => ?_
    have hrun := run_append_zero (P := Tryz.prog) (w := w) 0 39 o.type 67 i0 3 Tryz.underlying39 hi v H.length (fl Op.row H) hv' p cap
    unfold Oper.wp
    simp [execOp, ho, resolve, invoke, builtin, hs, hx, hrun, Result.andThen]
    exact hK _ _ (h v w hv' ⟨rfl, rfl, rfl, Nat.le_refl _, fun _ _ _ => rfl⟩ (Or.inl rfl))
  · exact wpList_append_rowv enc_op w hgd s x ho v u H K hs hx hv' (ops_src hu hK) hn h
theorem grown_kept {a b : World} (h : a.grownBy b none) : Kept a b := ((Fr.refl (fun _ => False) a).grown h (fun k e => by cases e)).keeps (fun k c => c.elim)

end Go.Proofs.YtcoagmkncjonmaaGreatDoor.Pg
