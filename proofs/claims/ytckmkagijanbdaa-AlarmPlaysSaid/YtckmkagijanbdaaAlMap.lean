/- Maps whose elements are structs of integers, told as functions of their keys: keys that are integers, or names of alarms. -/
import Derived.Test.YtckmkagijanbdaaChecked
import Derived.Test.YtckmkagijanbdaaAlM
import Derived.Test.YtckmkagijanbdaaWm
import Derived.WalkKit
import Derived.Lib.Hide
import Derived.Maps.OwnSet
import Derived.DeepKeys4
namespace Go.Proofs.Ytckmkagijanbdaa.Al
open Go.RowKit Go.Maps IdM
open Go.ChangeMaps Go.MapKept
open Wh (upd_same upd_other)
set_option linter.unusedVariables false

/-- how keys of a type are read -/
structure KeyT (α : Type) (kt : TypeId) where
  law : Keyed Try.prog kt
  v : α → Value
  l : α → Lit
  ok : α → Prop
  key : ∀ x, ok x → keyOf Try.prog kt (v x) = some (l x)
  inj : ∀ x y, ok x → ok y → l x = l y → x = y

/-- a struct of integers; how it reads -/
def iv (l : List Int) : Value := .agg (l.map (Value.int .i64)).toArray
def dI (l : List Int) : DataW Unit := .agg (l.map fun a => .lit (.int .i64 a))
def unint : Value → Option Int
  | .int .i64 a => some a
  | _ => none
def elemI : Value → Option (DataW Unit × List MemPlace)
  | .agg cs => (cs.toList.mapM unint).map fun l => (dI l, [])
  | _ => none
theorem unint_all : ∀ l : List Int, (l.map (Value.int .i64)).mapM unint = some l
  | [] => rfl
  | a :: l => by rw [List.map_cons, List.mapM_cons, unint_all l]; rfl
theorem unint_inv : ∀ {cs : List Value} {l : List Int}, cs.mapM unint = some l → cs = l.map (Value.int .i64)
  | [], l, h => by rw [List.mapM_nil] at h; obtain rfl := Option.some.inj h; rfl
  | c :: cs, l, h => by
    rw [List.mapM_cons] at h
    obtain ⟨a, ha, h⟩ := Option.bind_eq_some_iff.1 h
    obtain ⟨m, hm, h⟩ := Option.bind_eq_some_iff.1 h
    obtain rfl := Option.some.inj h
    rw [List.map_cons, ← unint_inv hm]
    congr 1
    unfold unint at ha
    split at ha
    · obtain rfl := Option.some.inj ha; rfl
    · cases ha
theorem elemI_mk (l : List Int) : elemI (iv l) = some (dI l, []) := by
  unfold iv elemI; simp only [unint_all]; rfl
theorem elemI_inv {v : Value} {z : DataW Unit × List MemPlace} (h : elemI v = some z) : ∃ l, v = iv l ∧ z = (dI l, []) := by
  unfold elemI at h
  split at h
  · rename_i cs
    obtain ⟨l, hl, rfl⟩ := Option.map_eq_some_iff.1 h
    exact ⟨l, by unfold iv; rw [← unint_inv hl], rfl⟩
  · cases h
theorem dI_inj {l m : List Int} (h : dI l = dI m) : l = m := by
  unfold dI at h
  injection h with h
  have : ∀ l m : List Int, (l.map fun a => (DataW.lit (.int .i64 a) : DataW Unit)) = (m.map fun a => .lit (.int .i64 a)) → l = m := by
    intro l
    induction l with
    | nil => intro m h; cases m with
      | nil => rfl
      | cons b m => simp at h
    | cons a l ih => intro m h; cases m with
      | nil => simp at h
      | cons b m =>
        simp only [List.map_cons, List.cons.injEq, DataW.lit.injEq, Lit.int.injEq, true_and] at h
        rw [h.1, ih m h.2]
  exact this l m h

/-- BLOCK M IS A MAP of n entries: T; its elements have k integers -/
def MIs {α : Type} {kt : TypeId} (K : KeyT α kt) (k : Nat) (w : World) (M : Nat) (T : α → Option (List Int)) (n : Nat) : Prop :=
  ∃ D, w.ownsMap Try.prog kt elemI M n D ∧ Maps.size D = n ∧ ∀ x, K.ok x → Maps.has D (K.l x) = (T x).isSome ∧ D.atKey (K.l x) (dI (List.replicate k 0)) = dI ((T x).getD (List.replicate k 0))

section
variable {α : Type} {kt : TypeId} {K : KeyT α kt} {k : Nat} {w : World} {M n : Nat} {T : α → Option (List Int)} {t e : TypeId}

theorem MIs.made (K : KeyT α kt) (k : Nat) (w : World) : MIs K k (w.alloc (.map #[] 0)) w.heap.size (fun _ => none) 0 :=
  ⟨.map [], World.ownsMap_made w _ _ _, rfl, fun _ _ => ⟨rfl, rfl⟩⟩
theorem MIs.lt (h : MIs K k w M T n) : M < w.heap.size := by obtain ⟨D, h, _⟩ := h; exact h.lt
theorem MIs.is (h : MIs K k w M T n) : ∃ es clock, w.heap[M]? = some (.map es clock) := by obtain ⟨D, ⟨es, c, h, _⟩, _⟩ := h; exact ⟨es, c, h⟩
theorem MIs.kept (h : MIs K k w M T n) {w' : World} (hk : w'.heap[M]? = w.heap[M]?) : MIs K k w' M T n := by
  obtain ⟨D, ⟨es, c, hb, r⟩, h2⟩ := h
  exact ⟨D, ⟨es, c, hk.trans hb, r⟩, h2⟩
theorem MIs.congr (h : MIs K k w M T n) {U : α → Option (List Int)} (hU : ∀ x, K.ok x → U x = T x) : MIs K k w M U n := by
  obtain ⟨D, h1, h2, h3⟩ := h
  exact ⟨D, h1, h2, fun x hx => by rw [hU x hx]; exact h3 x hx⟩

theorem MIs.look (h : MIs K k w M T n) (ht : Try.prog.underlying t = some (.map kt e)) (hz : (zeroValue e).run Try.prog w = .ok (iv (List.replicate k 0)) w) {x : α} (hx : K.ok x) :
    (Instr.lookup t (.map (some M)) (K.v x) false).run Try.prog w = .ok (iv ((T x).getD (List.replicate k 0))) w := by
  obtain ⟨D, hown, _, hT⟩ := h
  obtain ⟨v, ps, hrun, hv⟩ := hown.lookup K.law ht hz (elemI_mk _) (K.key x hx)
  obtain ⟨l, rfl, hl⟩ := elemI_inv hv
  rw [hrun, dI_inj ((congrArg Prod.fst hl).symm.trans (hT x hx).2)]
theorem MIs.look_ok (h : MIs K k w M T n) (ht : Try.prog.underlying t = some (.map kt e)) (hz : (zeroValue e).run Try.prog w = .ok (iv (List.replicate k 0)) w) {x : α} (hx : K.ok x) :
    (Instr.lookup t (.map (some M)) (K.v x) true).run Try.prog w = .ok (.tuple #[iv ((T x).getD (List.replicate k 0)), .bool (T x).isSome]) w := by
  obtain ⟨D, hown, _, hT⟩ := h
  obtain ⟨v, ps, hrun, hv⟩ := hown.look_ok K.law ht hz (elemI_mk _) (K.key x hx)
  obtain ⟨l, rfl, hl⟩ := elemI_inv hv
  rw [hrun, dI_inj ((congrArg Prod.fst hl).symm.trans (hT x hx).2), (hT x hx).1]
theorem MIs.len (h : MIs K k w M T n) (ht : Try.prog.underlying t = some (.map kt e)) (ty : TypeId) : (Builtin.len_ #[t] ty #[.map (some M)]).run Try.prog w = .ok (.int .i64 (n : Int)) w := by
  obtain ⟨D, hown, hs, _⟩ := h
  have := hown.len ht ty
  rw [hs] at this; exact this
theorem MIs.store [DecidableEq α] (h : MIs K k w M T n) (ht : Try.prog.underlying t = some (.map kt e)) (hn : n < 9223372036854775807) {x : α} (hx : K.ok x) (l : List Int) :
    ∃ w', (Instr.mapUpdate t (.map (some M)) (K.v x) (iv l)).run Try.prog w = .ok () w' ∧ MIs K k w' M (Wh.upd T x (some l)) (if (T x).isSome then n else n + 1) ∧ w.mapTurned w' M := by
  obtain ⟨D, hown, hs, hT⟩ := h
  have hk : WideAt.IsKeyLit (K.l x) := K.law.key (K.key x hx)
  obtain ⟨w', hrun, hown', hturn⟩ := hown.store K.law ht (by unfold maxLen; omega) (K.key x hx) (elemI_mk l)
  have hsz := size_put (hown.tidy K.law) (k := K.l x) (dI l)
  rw [(hT x hx).1, hs] at hsz
  refine ⟨w', hrun, ⟨_, ?_, hsz, fun y hy => ?_⟩, hturn⟩
  · obtain ⟨es, c, hb, F, hle, hD⟩ := hown'
    refine ⟨es, c, hb, F, ?_, hD⟩
    have : Maps.size (D.put (K.l x) (dI l)) = es.size := by rw [hD]; simp [Maps.size, length_sorted]
    rw [← hsz, this]; exact Nat.le_refl _
  · by_cases c : y = x
    · subst c
      rw [has_put_same hown.isMap hk, atKey_put_same hown.isMap hk, upd_same]
      exact ⟨rfl, rfl⟩
    · have hne : K.l y ≠ K.l x := fun e => c (K.inj y x hy hx e)
      rw [has_put_other hne, atKey_put_other hne, upd_other _ _ c]
      exact hT y hy
theorem MIs.drop [DecidableEq α] (h : MIs K k w M T n) (ht : Try.prog.underlying t = some (.map kt e)) {x : α} (hx : K.ok x) (ty : TypeId) :
    ∃ w', (Builtin.delete_ #[t, kt] ty #[.map (some M), K.v x]).run Try.prog w = .ok (.tuple #[]) w' ∧ MIs K k w' M (Wh.upd T x none) (if (T x).isSome then n - 1 else n) ∧ w.mapTurned w' M := by
  obtain ⟨D, hown, hs, hT⟩ := h
  have hk : WideAt.IsKeyLit (K.l x) := K.law.key (K.key x hx)
  obtain ⟨w', hrun, hown', hturn⟩ := hown.drop K.law ht (K.key x hx) ty
  have hsz := size_del (hown.tidy K.law) (k := K.l x)
  rw [(hT x hx).1, hs] at hsz
  have hsz' : Maps.size (D.del (K.l x)) = if (T x).isSome then n - 1 else n := by
    split at hsz
    · rename_i hc; rw [if_pos hc]; omega
    · rename_i hc; rw [if_neg hc]; omega
  refine ⟨w', hrun, ⟨_, ?_, hsz', fun y hy => ?_⟩, hturn⟩
  · obtain ⟨es, c, hb, F, hle, hD⟩ := hown'
    refine ⟨es, c, hb, F, ?_, hD⟩
    have : Maps.size (D.del (K.l x)) = es.size := by rw [hD]; simp [Maps.size, length_sorted]
    rw [← hsz', this]; exact Nat.le_refl _
  · by_cases c : y = x
    · subst c
      rw [has_del_same, atKey_del_same, upd_same]
      exact ⟨rfl, rfl⟩
    · have hne : K.l y ≠ K.l x := fun e => c (K.inj y x hy hx e)
      rw [has_del_other hne, atKey_del_other hne, upd_other _ _ c]
      exact hT y hy
end

/-! ### the two kinds of keys -/
def intKey : KeyT Int 3 where
  law := Wh.keyLaw
  v := Value.int .i64
  l := Lit.int .i64
  ok := Wh.inR
  key := fun x h => Wh.key_of h
  inj := fun x y _ _ h => by injection h

theorem cells_29 : Try.prog.cellsOf 29 = 3 := by kernel_rfl
theorem cells_31 : Try.prog.cellsOf 31 = 4 := by kernel_rfl
theorem cells_42 : Try.prog.cellsOf 42 = 5 := by kernel_rfl
theorem cells_3 : Try.prog.cellsOf 3 = 1 := by kernel_rfl
theorem wf_of {n : Int} (h : I64 n) : (Lit.int .i64 n).wf = true := by
  obtain ⟨h1, h2⟩ := h
  simp [Lit.wf, IntKind.min, IntKind.max, IntKind.bits, IntKind.signed]; omega
def litN (x : Nm) : List Lit := x.ints.map (Lit.int .i64)
theorem lits_3 (d : Nat) {n : Int} (h : I64 n) : Try.prog.keyLits (d + 1) 3 [.int .i64 n] = some [.int .i64 n] := by
  simp [Program.keyLits, Try.underlying3, wf_of h]
theorem lits_29 (d : Nat) {n i s : Int} (h1 : I64 n) (h2 : I64 i) (h3 : I64 s) : Try.prog.keyLits (d + 2) 29 [.int .i64 n, .int .i64 i, .int .i64 s] = some [.int .i64 n, .int .i64 i, .int .i64 s] := by
  unfold Program.keyLits
  simp only [Try.underlying29]
  rw [if_pos ⟨by rw [cells_29]; rfl, by kernel_rfl⟩]
  simp [lits_3 d h1, lits_3 d h2, lits_3 d h3, cells_3]
theorem lits_31 (d : Nat) {n i s a : Int} (h1 : I64 n) (h2 : I64 i) (h3 : I64 s) (h4 : I64 a) : Try.prog.keyLits (d + 3) 31 [.int .i64 n, .int .i64 i, .int .i64 s, .int .i64 a] = some [.int .i64 n, .int .i64 i, .int .i64 s, .int .i64 a] := by
  unfold Program.keyLits
  simp only [Try.underlying31]
  rw [if_pos ⟨by rw [cells_31]; rfl, by kernel_rfl⟩]
  simp [lits_29 d h1 h2 h3, lits_3 (d + 1) h4, cells_3, cells_29]
theorem lits_N (x : Nm) (h : okN x) : Try.prog.keyLits (Try.prog.types.size + 1) 42 (x.ints.map (Value.int .i64)) = some (litN x) := by
  obtain ⟨m, hm⟩ : ∃ m, Try.prog.types.size + 1 = m + 4 := ⟨Try.prog.types.size - 3, by
    have : 3 < Try.prog.types.size := of_decide_eq_true (by kernel_rfl)
    omega⟩
  obtain ⟨h1, h2, h3, h4, h5⟩ := h
  rw [hm]
  unfold Program.keyLits
  simp only [Try.underlying42]
  rw [if_pos ⟨by rw [cells_42]; rfl, by kernel_rfl⟩]
  simp [lits_31 m h1 h2 h3 h4, lits_3 (m + 2) h5, cells_3, cells_31, Nm.ints, litN]
theorem laidOut : laidOutB Try.prog = true := by kernel_rfl
theorem law_N : Keyed Try.prog 42 := Keyed.of_law (deep_law_laid laidOut (m := 4) (by omega) (of_decide_eq_true (by kernel_rfl)) (by kernel_rfl) (by kernel_rfl))
theorem key_N (x : Nm) (h : okN x) : keyOf Try.prog 42 (iv x.ints) = some (.string (keyBytes (litN x))) := by
  have hk : Try.prog.keyType 42 = true := by kernel_rfl
  have hl := lits_N x h
  unfold keyOf
  simp only [Try.underlying42]
  rw [if_pos (by rw [hk]; simp [iv, Value.formed, Try.underlying42, cells_42, Nm.ints])]
  show Option.map _ (Try.prog.keyLits _ _ (x.ints.map (Value.int .i64))) = _
  rw [hl]; rfl
theorem iv_inj {l m : List Int} (h : iv l = iv m) : l = m := by
  have h1 := elemI_mk l
  rw [h, elemI_mk] at h1
  exact (dI_inj (Prod.mk.inj (Option.some.inj h1)).1).symm
def nmKey : KeyT Nm 42 where
  law := law_N
  v := fun x => iv x.ints
  l := fun x => .string (keyBytes (litN x))
  ok := okN
  key := key_N
  inj := fun x y hx hy h => Nm.ints_inj (iv_inj (law_N.inj (key_N x hx) (by have := key_N y hy; rw [← h] at this; exact this)))

end Go.Proofs.Ytckmkagijanbdaa.Al
