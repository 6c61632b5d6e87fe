/- What is held against each other, field by field. No function of the program is spoken of here. One element is taken out of a slice, in its own memory: what is behind it is copied ahead, the place behind all is cleared. No function of the program is spoken of here. Rows that are made and copied whole; blocks of a call's own beside such a row. No function of the program is spoken of here. -/
import Derived.Test.YtncdiggejofbbaaGreatDoorChecked
import Derived.Laws.StructEq
import Derived.WalkKit
import Derived.Test.YtncdiggejofbbaaGreatDoorRv
import Derived.Test.YtncdiggejofbbaaGreatDoorLs
import Derived.Test.YtncdiggejofbbaaGreatDoorBlk
import Derived.Laws.MakeOwn
namespace Go.Proofs.YtncdiggejofbbaaGreatDoor.Eqs
open Go.RowKit
set_option linter.unusedVariables false

theorem eq_on {α : Type} [BEq α] [LawfulBEq α] {a b : α} [Decidable (a = b)] {X : Result Value} {y : Bool} {w : World} (h : X = Result.ok (Value.bool y) w) :
    (if a = b then X else Result.ok (Value.bool false) w) = Result.ok (Value.bool (a == b && y)) w := by
  by_cases e : a = b
  · rw [if_pos e, h, beq_iff_eq.2 e, Bool.true_and]
  · rw [if_neg e, beq_eq_false_iff_ne.2 e, Bool.false_and]
theorem eq_end {α : Type} [BEq α] [LawfulBEq α] {a b : α} [Decidable (a = b)] {w : World} :
    (if a = b then Result.ok (Value.bool true) w else Result.ok (Value.bool false) w) = Result.ok (Value.bool (a == b)) w := by
  by_cases e : a = b
  · rw [if_pos e, beq_iff_eq.2 e]
  · rw [if_neg e, beq_eq_false_iff_ne.2 e]
theorem neq_on {α : Type} [BEq α] [LawfulBEq α] {a b : α} [Decidable (a = b)] {X : Result Value} {y : Bool} {w : World} (h : X = Result.ok (Value.bool (!y)) w) :
    (if a = b then X else Result.ok (Value.bool true) w) = Result.ok (Value.bool (!(a == b && y))) w := by
  by_cases e : a = b
  · rw [if_pos e, h, beq_iff_eq.2 e, Bool.true_and]
  · rw [if_neg e, beq_eq_false_iff_ne.2 e, Bool.false_and]; rfl
theorem neq_end {α : Type} [BEq α] [LawfulBEq α] {a b : α} [Decidable (a = b)] {w : World} :
    (if a = b then Result.ok (Value.bool false) w else Result.ok (Value.bool true) w) = Result.ok (Value.bool (!(a == b))) w := by
  by_cases e : a = b
  · rw [if_pos e, beq_iff_eq.2 e]; rfl
  · rw [if_neg e, beq_eq_false_iff_ne.2 e]; rfl

end Go.Proofs.YtncdiggejofbbaaGreatDoor.Eqs

namespace Go.Proofs.YtncdiggejofbbaaGreatDoor.Rv
open Go.RowKit Go.Sort
open St (Kept blk_cell blk_free blk_lt blk_set)
open Wh (Fr Mine)
set_option linter.unusedVariables false
set_option maxRecDepth 20000

theorem run_copy_wide {P : Program} (w : World) (dT sT ty elem : TypeId) (g o dLen dCap : Nat) (a : Addr) (sLen sCap k n : Nat) (cur : Array Value) (t : TypeId) (cs : List Value)
    (hu : P.underlying dT = some (.slice elem)) (hs : (P.info? elem).map (·.size) = some k)
    (hg : w.heap[g]? = some (.cells cur t (0, 0))) (hn : Nat.min sLen dLen = n) (hc : cs.length = n * k)
    (hsrc : ∀ j v, cs[j]? = some v → w.cell? (a.add j) = some v) (hfit : o + cs.length ≤ cur.size) (h1 : ∀ v ∈ cs, v.oneCell' = true) :
    (Builtin.copy_ #[dT, sT] ty #[.slice (some ⟨g, o, none⟩) dLen dCap, .slice (some a) sLen sCap]).run P w =
      .ok (goInt n) (w.setRow g (cur.toList.take o ++ cs ++ cur.toList.drop (o + cs.length)).toArray) := by
  have hl := run_loadCells_list (P := P) w a cs hsrc
  have hst := run_storeCells_at P g o t cs 0 cur w hg (by simpa using hfit) h1
  rw [hc] at hl
  cases hq : P.info? elem with
  | none => simp [hq] at hs
  | some i =>
    have hi : i.size = k := by simpa [hq] using hs
    simp [Builtin.copy_, run_underlying hu, Builtin.lenOf, Builtin.firstCells, sizeOf, typeInfo, hq, hi, hn, hl, hst]

theorem goInt_eq (n : Nat) : goInt n = .int .i64 (n : Int) := rfl
section
variable {α : Type} {enc : α → List Value} {w w' : World} {v : Value} {st et : TypeId} {k bs : Nat} {zs : List Value} {L : List α}

/-- 'copy(v[i:], v[i+1:])' -/
theorem run_copy_out (R : EncT st et k bs zs enc) (ty : TypeId) {g cap i c1 c2 : Nat} {ad : Addr} (hi : i < L.length) (hv : RowV w (.slice (some ⟨g, 0, none⟩) L.length cap) et k enc L)
    (had : i + 1 < L.length → ad = ⟨g, (i + 1) * k, none⟩) :
    ∃ w2, (Builtin.copy_ #[st, st] ty #[.slice (some ⟨g, i * k, none⟩) (L.length - i) c1, .slice (some ad) (L.length - (i + 1)) c2]).run Tryz.prog w = .ok (.int .i64 ((L.length - (i + 1) : Nat) : Int)) w2 ∧
      RowV w2 (.slice (some ⟨g, 0, none⟩) (L.length - 1) cap) et k enc (L.eraseIdx i) ∧ Fr (fun j => j = g) w w2 := by
  obtain ⟨g', cap', cur, e, hb, h1, h2, h3, h4⟩ := hv.full (fun c => by subst c; simp at hi)
  cases e
  obtain ⟨i0, hi0, hz0, hz1, hz2⟩ := info_parts R.info
  have hlk : L.length * k ≤ cap * k := Nat.mul_le_mul_right _ h1
  have hsucc : (i + 1) * k = i * k + k := Nat.succ_mul i k
  have hik : (i + 1) * k ≤ L.length * k := Nat.mul_le_mul_right _ hi
  have hn : L.length = (L.length - (i + 1)) + (i + 1) := by omega
  have hnk : L.length * k = (L.length - (i + 1)) * k + (i + 1) * k := by rw [← Nat.add_mul, ← hn]
  have hl1 : L.length * k = (L.length - 1) * k + k := by rw [← Nat.succ_mul]; congr 1; omega
  have hcs : (fl enc (L.drop (i + 1))).length = (L.length - (i + 1)) * k := by rw [fl_len R.len, List.length_drop]
  have hsrc : 0 < (L.length - (i + 1)) → ∀ j u, (fl enc (L.drop (i + 1)))[j]? = some u → w.cell? (ad.add j) = some u := fun hp j u hj => by
    rw [had (by omega), addr_add, blk_cell hb, ← Array.getElem?_toList]
    rw [fl_drop R.len L (i + 1) hi, ← h4, List.getElem?_drop, List.getElem?_take] at hj
    split at hj
    · exact hj
    · cases hj
  have hsrc' : ∀ j u, (fl enc (L.drop (i + 1)))[j]? = some u → w.cell? (ad.add j) = some u := fun j u hj => by
    by_cases hp : 0 < L.length - (i + 1)
    · exact hsrc hp j u hj
    · have : L.drop (i + 1) = [] := List.drop_eq_nil_of_le (by omega)
      rw [this] at hj; simp [fl] at hj
  have hrun := run_copy_wide (P := Tryz.prog) w st st ty et g (i * k) (L.length - i) c1 ad (L.length - (i + 1)) c2 k (L.length - (i + 1)) cur et (fl enc (L.drop (i + 1))) R.us (by rw [hi0]; simp [hz1]) hb (by show min _ _ = _; omega) hcs hsrc' (by rw [hcs]; omega) (fl_cell R.one)
  refine ⟨_, by rw [hrun, goInt_eq], ⟨?_, .inr ⟨g, cap, _, ?_, Nat.zero_le _, setRow_heap w g cur _ et (0, 0) hb, ?_, h2, ?_, ?_⟩⟩, ⟨rfl, rfl, rfl, by simp, fun j _ hj => setRow_other w g j _ hj⟩⟩
  · rw [fl_len R.len]
  · rw [List.length_eraseIdx, if_pos hi]
  · rw [List.length_eraseIdx, if_pos hi]; omega
  · simp [hcs]; omega
  · rw [List.length_eraseIdx, if_pos hi, fl_erase R.len L i hi, ← h4]
    show List.take ((L.length - 1) * k) (cur.toList.take (i * k) ++ fl enc (L.drop (i + 1)) ++ cur.toList.drop (i * k + (fl enc (L.drop (i + 1))).length)) = _
    have hl2 : (cur.toList.take (i * k)).length = i * k := by simp; omega
    have e1 : List.take (i * k) (List.take (L.length * k) cur.toList) = List.take (i * k) cur.toList := by rw [List.take_take, Nat.min_eq_left (by omega)]
    have e2 : fl enc (L.drop (i + 1)) = List.drop (i * k + k) (List.take (L.length * k) cur.toList) := by rw [fl_drop R.len L (i + 1) hi, ← h4, hsucc]
    rw [e1, ← e2, List.take_append_of_le_length (by rw [List.length_append, hl2, hcs]; omega), List.take_of_length_le (by rw [List.length_append, hl2, hcs]; omega)]

theorem zero_list (R : EncT st et k bs zs enc) : (Builtin.zeroCells (Value.agg zs.toArray).cells 1).toList = zs := by
  have hz := R.zl
  apply List.ext_getElem
  · simp [Builtin.zeroCells, Value.cells]
  · intro j h1 h2
    have : j % zs.length = j := Nat.mod_eq_of_lt h2
    simp [Builtin.zeroCells, Value.cells, this, h2]

/-- 'clear(v[m:])', of a slice whose place behind m is the last one -/
theorem run_clear_last (R : EncT st et k bs zs enc) (hzv : ∀ w, (zeroValue et).run Tryz.prog w = .ok (.agg zs.toArray) w) (ty : TypeId) {g cap c : Nat} (hv : ∃ cur, w.heap[g]? = some (.cells cur et (0, 0)) ∧ L.length + 1 ≤ cap ∧ cap ≤ maxLen ∧ cur.size = cap * k ∧ cur.toList.take (L.length * k) = fl enc L) :
    ∃ w2, (Builtin.clear_ #[st] ty #[.slice (some ⟨g, L.length * k, none⟩) 1 c]).run Tryz.prog w = .ok (.tuple #[]) w2 ∧
      RowV w2 (.slice (some ⟨g, 0, none⟩) L.length cap) et k enc L ∧ Fr (fun j => j = g) w w2 := by
  obtain ⟨cur, hb, h1, h2, h3, h4⟩ := hv
  have hlk : (L.length + 1) * k ≤ cap * k := Nat.mul_le_mul_right _ h1
  have hsucc : (L.length + 1) * k = L.length * k + k := Nat.succ_mul _ k
  have hst := run_storeCells_at Tryz.prog g (L.length * k) et zs 0 cur w hb (by rw [R.zl]; omega) R.z1
  rw [Nat.add_zero] at hst
  refine ⟨_, by simp [Builtin.clear_, run_underlying R.us, hzv, zero_list R, hst]; rfl, ⟨?_, .inr ⟨g, cap, _, rfl, Nat.zero_le _, setRow_heap w g cur _ et (0, 0) hb, by omega, h2, ?_, ?_⟩⟩, ⟨rfl, rfl, rfl, by simp, fun j _ hj => setRow_other w g j _ hj⟩⟩
  · rw [fl_len R.len]
  · simp [R.zl]; omega
  · show List.take (L.length * k) (cur.toList.take (L.length * k) ++ (zs ++ cur.toList.drop (L.length * k + zs.length))) = _
    have hl2 : (cur.toList.take (L.length * k)).length = L.length * k := by simp; omega
    rw [List.take_append_of_le_length (by rw [hl2]; exact Nat.le_refl _), List.take_of_length_le (by rw [hl2]; exact Nat.le_refl _), h4]

theorem elem_of (R : EncT st et k bs zs enc) : Tryz.prog.underlying st = some (.slice (Tryz.prog.elem st)) ∧ Tryz.prog.elem st = et := by
  have h := R.us
  have e : Tryz.prog.elem st = et := by unfold Program.elem; simp [h]
  exact ⟨by rw [e]; exact h, e⟩
theorem size_of (R : EncT st et k bs zs enc) (w : World) : (sizeOf et).run Tryz.prog w = .ok k w := by
  obtain ⟨i0, hi, hz0, hz1, hz2⟩ := info_parts R.info
  simp [sizeOf, typeInfo, hi, hz1]
/-- 'v[l:]' -/
theorem cut_from (R : EncT st et k bs zs enc) (g n cap i : Nat) (l : Int) (hl : l = (i : Int)) (h : i ≤ n) : ∃ ad : Addr, (∀ w, (Instr.slice st (.slice (some ⟨g, 0, none⟩) n cap) (some (.int .i64 l)) none none).run Tryz.prog w = .ok (.slice (some ad) (n - i) (cap - i)) w) ∧ (i < cap → ad = ⟨g, i * k, none⟩) := by
  subst hl
  obtain ⟨e1, e2⟩ := elem_of R
  refine ⟨if cap = i then ⟨g, 0, none⟩ else ⟨g, i * k, none⟩, fun w => ?_, fun c => if_neg (by omega)⟩
  rw [run_slice_l w st _ n cap e1 .i64 (i : Int) (by omega) (by omega), e2, size_of R w]
  simp only [Result.andThen_ok, sliced, Int.toNat_natCast]
  split
  · rfl
  · simp [addr_add]
/-- 'v[:l]' -/
theorem cut_to (R : EncT st et k bs zs enc) (g n cap i : Nat) (l : Int) (hl : l = (i : Int)) (h : i ≤ cap) : ∀ w, (Instr.slice st (.slice (some ⟨g, 0, none⟩) n cap) none (some (.int .i64 l)) none).run Tryz.prog w = .ok (.slice (some ⟨g, 0, none⟩) i cap) w := by
  subst hl
  obtain ⟨e1, e2⟩ := elem_of R
  intro w
  rw [run_slice_h w st _ n cap e1 .i64 (i : Int) (by omega) (by omega), e2, size_of R w]
  simp only [Result.andThen_ok, sliced, Int.toNat_natCast]
  split
  · simp
  · simp [addr_add]
end

end Go.Proofs.YtncdiggejofbbaaGreatDoor.Rv

namespace Go.Proofs.YtncdiggejofbbaaGreatDoor.Rv
open Go.RowKit Go.Sort
open St (Kept blk_cell blk_free blk_lt blk_set)
open Wh (Fr Mine)
open Blk
set_option linter.unusedVariables false

section
variable {w W W' : World} {L : List (Array Value × TypeId)} {S : Nat → Prop}
/-- what turns lies behind them -/
theorem _root_.Go.Proofs.YtncdiggejofbbaaGreatDoor.Blk.Bl.fr (h : Bl w W L) (f : Fr S W W') (hs : ∀ k, S k → w.heap.size + L.length ≤ k) : Bl w W' L := by
  have hsz : w.heap.size ≤ W.heap.size := Below.size h.kept
  refine ⟨⟨f.os.trans h.kept.os, f.tape.trans h.kept.tape, f.output.trans h.kept.output, Nat.le_trans hsz f.size, fun k hk => (f.block k (by omega) (fun c => by have := hs k c; omega)).trans (h.kept.block k hk)⟩, fun j x hx => ?_⟩
  have hj : j < L.length := (List.getElem?_eq_some_iff.1 hx).1
  have hb := h.at' j x hx
  rw [f.block _ (blk_lt hb) (fun c => by have := hs _ c; omega)]
  exact hb
theorem _root_.Go.Proofs.YtncdiggejofbbaaGreatDoor.Blk.Bl.more (h : Bl w W L) (hs : W.heap.size = w.heap.size + L.length) (xs : Array Value) (t : TypeId) : Bl w (W.alloc (.cells xs t)) (L ++ [(xs, t)]) := by
  refine ⟨h.kept.more _, fun j x hx => ?_⟩
  rcases Nat.lt_or_ge j L.length with hj | hj
  · rw [List.getElem?_append_left hj] at hx
    exact kept_at (Kept.one W _) (h.at' j x hx)
  · rw [List.getElem?_append_right hj] at hx
    have h0 : j - L.length = 0 := by have := (List.getElem?_eq_some_iff.1 hx).1; simp at this; omega
    rw [h0] at hx
    simp only [List.getElem?_cons_zero, Option.some.injEq] at hx
    subst hx
    have e : j = L.length := by omega
    subst e
    rw [← hs]
    exact St.blk_new W _
end

section
variable {α : Type} {enc : α → List Value} {st et : TypeId} {k bs : Nat} {zs : List Value}
/-- 'make([]T, n)' -/
theorem make_rows (R : EncT st et k bs zs enc) (n : Nat) (hn : n ≤ 1000000) : ∃ Z : Array Value, Z.size = n * k ∧ ∀ w : World, (Instr.makeSlice st (.int .i64 (n : Int)) (.int .i64 (n : Int))).run Tryz.prog w = .ok (.slice (some ⟨w.heap.size, 0, none⟩) n n) (w.alloc (.cells Z et)) := by
  obtain ⟨i0, hi, hz0, hz1, hz2⟩ := info_parts R.info
  have hsm := R.small
  refine ⟨madeCells (Value.agg zs.toArray).cells (n * k), by simp [size_madeCells], fun w => ?_⟩
  have hb : (i0.bytes : Int) * (n : Int) ≤ 281474976710656 := by
    rw [hz2]
    have : bs * n ≤ 1000 * 1000000 := Nat.mul_le_mul hsm hn
    have h2 : ((bs * n : Nat) : Int) ≤ 281474976710656 := by omega
    rwa [Int.natCast_mul] at h2
  have := run_make (P := Tryz.prog) w st et i0 (.agg zs.toArray) R.us hi hz0 .i64 .i64 (n : Int) (n : Int) (by omega) (by omega) hb (by omega)
  simp only [Int.toNat_natCast, hz1] at this
  exact this
/-- 'copy(v, u)' into a row just made -/
theorem run_copy_rows (R : EncT st et k bs zs enc) (w : World) (ty : TypeId) (g n : Nat) (q : Option Addr) (c : Nat) (K : List α) (hu : Ls.Ls k enc w (.slice q n c) K) (hK : K.length = n) (hn : n ≤ 1000000) (hp : 0 < n) (Z : Array Value) (hZ : w.heap[g]? = some (.cells Z et (0, 0))) (hZs : Z.size = n * k) :
    ∃ w2, (Builtin.copy_ #[st, st] ty #[.slice (some ⟨g, 0, none⟩) n n, .slice q n c]).run Tryz.prog w = .ok (.int .i64 (n : Int)) w2 ∧ RowV w2 (.slice (some ⟨g, 0, none⟩) n n) et k enc K ∧ Fr (fun j => j = g) w w2 := by
  obtain ⟨i0, hi, hz0, hz1, hz2⟩ := info_parts R.info
  have hne : K ≠ [] := fun c => by rw [c] at hK; simp at hK; omega
  obtain ⟨b, off, rfl, hu2⟩ := hu.cells R.len R.pos hne
  have hlen : (fl enc K).length = n * k := by rw [fl_len R.len, hK]
  have hrun := run_copy_wide (P := Tryz.prog) w st st ty et g 0 n n ⟨b, off, none⟩ n c k n Z et (fl enc K) R.us (by rw [hi]; simp [hz1]) hZ (Nat.min_self n) hlen hu2 (by omega) (fl_cell R.one)
  refine ⟨_, by rw [hrun, goInt_eq], ⟨?_, .inr ⟨g, n, _, by rw [hK], Nat.zero_le _, setRow_heap w g Z _ et (0, 0) hZ, by omega, by unfold maxLen; omega, ?_, ?_⟩⟩, ⟨rfl, rfl, rfl, by simp, fun j _ hj => setRow_other w g j _ hj⟩⟩
  · rw [hlen, hK]
  · simp [hlen]; omega
  · simp only [hK]
    rw [List.take_zero, List.nil_append, List.take_append_of_le_length (by rw [hlen]; exact Nat.le_refl _), List.take_of_length_le (by rw [hlen]; exact Nat.le_refl _)]
end

end Go.Proofs.YtncdiggejofbbaaGreatDoor.Rv
