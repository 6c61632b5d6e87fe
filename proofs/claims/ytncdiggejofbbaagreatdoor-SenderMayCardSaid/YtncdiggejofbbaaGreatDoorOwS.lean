/- Package owner: what its walks share: calls, keys and identities loaded, the place of a call; the document's Find. -/
import Derived.Test.YtncdiggejofbbaaGreatDoorOw
import Derived.Test.YtncdiggejofbbaaGreatDoorEqs
import Derived.Deep.MidRow
import Derived.Deep.DeepCutAuto
import Derived.LoopTactic
import Derived.Shelf.Abstract
namespace Go.Proofs.YtncdiggejofbbaaGreatDoor.Ow
open Go.RowKit Go.Sort St Blk Eqs
open Go.Proofs.YtncdiggejofbbaaGreatDoor.Cl
open Go.Proofs.YtncdiggejofbbaaGreatDoor.Ls
open Go.Proofs.YtncdiggejofbbaaGreatDoor.Id (quiet_at)
open Go.Proofs.YtncdiggejofbbaaGreatDoor.Ad (load_w load_l store_new)
set_option linter.unusedVariables false

theorem info_cl : (Tryz.prog.info? 41).map (·.size) = some 13 := by kernel_rfl
theorem info_rcl : (Tryz.prog.info? 33).map (·.size) = some 13 := by kernel_rfl
/-- a call is loaded out of a slice -/
theorem load_call {u : World} {b o : Nat} {c : Cl} {X : Array Value} (hX : c.arr = X) (h : ∀ j x, (encC c)[j]? = some x → u.cell? ⟨b, o + j, none⟩ = some x) : (loadVar 41 ⟨b, o, none⟩).run Tryz.prog u = .ok (.agg X) u := by
  subst hX; exact run_loadVar_mid u b o _ (encC c) _ h Tryz.underlying41 rfl info_cl
theorem load_rcall {u : World} {b o : Nat} {c : Cl} {X : Array Value} (hX : c.arr = X) (h : ∀ j x, (encC c)[j]? = some x → u.cell? ⟨b, o + j, none⟩ = some x) : (loadVar 33 ⟨b, o, none⟩).run Tryz.prog u = .ok (.agg X) u := by
  subst hX; exact run_loadVar_mid u b o _ (encC c) _ h Tryz.underlying33 rfl info_rcl
theorem one_cells (c : Cl) : c.arr.all (·.oneCell') = true := by obtain ⟨x0, x1, x2, x3, x4, x5, x6, x7, x8, x9, x10, x11, x12⟩ := c; kernel_rfl
/-- an identity is loaded out of whatever row -/
theorem load_id {u : World} {b o : Nat} {n i s : Int} (h0 : u.cell? ⟨b, o, none⟩ = some (.int .i64 n)) (h1 : u.cell? ⟨b, o + 1, none⟩ = some (.int .i64 i)) (h2 : u.cell? ⟨b, o + 2, none⟩ = some (.int .i64 s)) :
    (loadVar 26 ⟨b, o, none⟩).run Tryz.prog u = .ok (.agg #[.int .i64 n, .int .i64 i, .int .i64 s]) u :=
  run_loadVar_mid u b o _ [.int .i64 n, .int .i64 i, .int .i64 s] _ (fun j x hj => by
    match j, hj with
    | 0, hj => cases hj; exact h0
    | 1, hj => cases hj; exact h1
    | 2, hj => cases hj; exact h2) Tryz.underlying26 rfl (by kernel_rfl)
theorem eq_id (n i s n' i' s' : Int) (w : World) : (binOp .eql 26 (.agg #[.int .i64 n, .int .i64 i, .int .i64 s]) (.agg #[.int .i64 n', .int .i64 i', .int .i64 s'])).run Tryz.prog w = .ok (.bool (n == n' && (i == i' && s == s'))) w := by
  simp [go_sem]
  repeat (first | exact eq_end | refine eq_on ?_)
/-- the place of the first such call -/
def idx (f : Cl → Bool) (K : List Cl) : Int := match K.findIdx? f with | some i => (i : Int) | none => -1
def sameI (d : Nm) (a : Cl) : Bool := a.n == d.n && (a.i == d.i && a.s == d.s)
def findL (K : List Cl) (d : Nm) : Int := idx (sameI d) K
theorem first_hit {f : Cl → Bool} : ∀ {K : List Cl} {i : Nat} {x : Cl}, (K.take i).any f = false → K[i]? = some x → f x = true → K.findIdx? f = some i
  | [], i, x, _, hx, _ => by simp at hx
  | a :: l, 0, x, _, hx, hf => by
    simp only [List.getElem?_cons_zero, Option.some.injEq] at hx
    subst hx
    simp [List.findIdx?_cons, hf]
  | a :: l, i + 1, x, h, hx, hf => by
    rw [List.take_succ_cons, List.any_cons, Bool.or_eq_false_iff] at h
    have ih := first_hit h.2 (by simpa using hx) hf
    simp [List.findIdx?_cons, h.1, ih]
theorem first_miss {f : Cl → Bool} : ∀ {K : List Cl}, K.any f = false → K.findIdx? f = none
  | [], _ => rfl
  | a :: l, h => by
    rw [List.any_cons, Bool.or_eq_false_iff] at h
    simp [List.findIdx?_cons, h.1, first_miss h.2]
theorem idx_hit {f : Cl → Bool} {K : List Cl} {i : Nat} {x : Cl} (h : (K.take i).any f = false) (hx : K[i]? = some x) (hf : f x = true) : idx f K = (i : Int) := by unfold idx; rw [first_hit h hx hf]
theorem idx_miss {f : Cl → Bool} {K : List Cl} (h : K.any f = false) : idx f K = -1 := by unfold idx; rw [first_miss h]
theorem any_take {K : List Cl} {f : Cl → Bool} {i : Nat} {x : Cl} (h : (K.take i).any f = false) (hx : K[i]? = some x) (hf : f x = false) : (K.take (i + 1)).any f = false := by
  rw [List.take_add_one, hx, List.any_append, h]; simp [hf]
theorem load_cl {W : World} {b : Nat} {X : Array Value} (hb : W.heap[b]? = some (.cells X 41 (0, 0))) (hs : X.size = 13) : (loadVar 41 ⟨b, 0, none⟩).run Tryz.prog W = .ok (.agg X) W :=
  run_loadVar_row _ b _ _ X (0, 0) _ hb Tryz.underlying41 rfl (by rw [hs]; exact info_cl)

/-- what a slice of one call is built of -/
theorem fold_cl (x : Cl) {X : Array Value} (h : x.arr = X) : Array.foldl (fun (cs : Array Value) (y : Value × Nat) => cs.setIfInBounds y.snd y.fst) #[.int .i64 0, .int .i64 0, .int .i64 0, .int .i64 0, .int .i64 0, .int .i64 0, .int .i64 0, .int .i64 0, .int .i64 0, .bool false, .int .i64 0, .int .i64 0, .int .i64 0] (X.zipIdx 0) 0 13 = X := by
  subst h
  obtain ⟨x0, x1, x2, x3, x4, x5, x6, x7, x8, x9, x10, x11, x12⟩ := x
  simp [Cl.arr]
theorem load_row {W : World} {b : Nat} {A : Array Value} (hb : W.heap[b]? = some (.cells A 31 (0, 0))) (hs : A.size = 19) : (loadVar 31 ⟨b, 0, none⟩).run Tryz.prog W = .ok (.agg A) W :=
  run_loadVar_row _ b _ _ A (0, 0) _ hb Tryz.underlying31 rfl (by rw [hs]; exact info_row)
theorem load_rcl {W : World} {b : Nat} {X : Array Value} (hb : W.heap[b]? = some (.cells X 33 (0, 0))) (hs : X.size = 13) : (loadVar 33 ⟨b, 0, none⟩).run Tryz.prog W = .ok (.agg X) W :=
  run_loadVar_row _ b _ _ X (0, 0) _ hb Tryz.underlying33 rfl (by rw [hs]; exact info_rcl)
theorem take_snoc {L : List Cl} {i : Nat} {x : Cl} (h : L[i]? = some x) : L.take (i + 1) = L.take i ++ [x] := by rw [List.take_add_one, h]; rfl
/-- a key is loaded out of whatever row -/
theorem load_key {u : World} {b o : Nat} {n i s k : Int} (h0 : u.cell? ⟨b, o, none⟩ = some (.int .i64 n)) (h1 : u.cell? ⟨b, o + 1, none⟩ = some (.int .i64 i)) (h2 : u.cell? ⟨b, o + 2, none⟩ = some (.int .i64 s)) (h3 : u.cell? ⟨b, o + 3, none⟩ = some (.int .i64 k)) :
    (loadVar 28 ⟨b, o, none⟩).run Tryz.prog u = .ok (.agg #[.int .i64 n, .int .i64 i, .int .i64 s, .int .i64 k]) u :=
  run_loadVar_mid u b o _ [.int .i64 n, .int .i64 i, .int .i64 s, .int .i64 k] _ (fun j x hj => by
    match j, hj with
    | 0, hj => cases hj; exact h0
    | 1, hj => cases hj; exact h1
    | 2, hj => cases hj; exact h2
    | 3, hj => cases hj; exact h3) Tryz.underlying28 rfl (by kernel_rfl)

theorem run_loads {w : World} {p : Addr} {q : Option Addr} {n c : Nat} (hc : w.cell? p = some (.slice q n c)) : (loadVar 29 p).run Tryz.prog w = .ok (.slice q n c) w := by go_simp


end Go.Proofs.YtncdiggejofbbaaGreatDoor.Ow
