/- Rows that are made and copied whole; blocks of a call's own beside such a row. No function of the program is spoken of here. -/
import Derived.Test.YtiaafjabhnomeaaRx
import Derived.Test.YtiaafjabhnomeaaLs
import Derived.Test.YtiaafjabhnomeaaBlk
import Derived.Laws.MakeOwn
namespace Go.Proofs.Ytiaafjabhnomeaa.Rv
open Go.RowKit Go.Sort
open St (Kept blk_cell blk_free blk_lt blk_set)
open Wh (Fr Mine)
open Blk
set_option linter.unusedVariables false

section
variable {w W W' : World} {L : List (Array Value × TypeId)} {S : Nat → Prop}
/-- what turns lies behind them -/
theorem _root_.Go.Proofs.Ytiaafjabhnomeaa.Blk.Bl.fr (h : Bl w W L) (f : Fr S W W') (hs : ∀ k, S k → w.heap.size + L.length ≤ k) : Bl w W' L := by
  have hsz : w.heap.size ≤ W.heap.size := Below.size h.kept
  refine ⟨⟨f.os.trans h.kept.os, f.tape.trans h.kept.tape, f.output.trans h.kept.output, Nat.le_trans hsz f.size, fun k hk => (f.block k (by omega) (fun c => by have := hs k c; omega)).trans (h.kept.block k hk)⟩, fun j x hx => ?_⟩
  have hj : j < L.length := (List.getElem?_eq_some_iff.1 hx).1
  have hb := h.at' j x hx
  rw [f.block _ (blk_lt hb) (fun c => by have := hs _ c; omega)]
  exact hb
theorem _root_.Go.Proofs.Ytiaafjabhnomeaa.Blk.Bl.more (h : Bl w W L) (hs : W.heap.size = w.heap.size + L.length) (xs : Array Value) (t : TypeId) : Bl w (W.alloc (.cells xs t)) (L ++ [(xs, t)]) := by
  refine ⟨h.kept.more _, fun j x hx => ?_⟩
  rcases Nat.lt_or_ge j L.length with hj | hj
  · rw [List.getElem?_append_left hj] at hx
    exact kept_at (Kept.one W _) (h.at' j x hx)
  · rw [List.getElem?_append_right hj] at hx
    have h0 : j - L.length = 0 := by have := (List.getElem?_eq_some_iff.1 hx).1; simp at this; omega
    rw [h0] at hx
    simp only [List.getElem?_cons_zero, Option.some.injEq] at hx
    subst hx
    have e : j = L.length := by omega
    subst e
    rw [← hs]
    exact St.blk_new W _
end

section
variable {α : Type} {enc : α → List Value} {st et : TypeId} {k bs : Nat} {zs : List Value}
/-- 'make([]T, n)' -/
theorem make_rows (R : EncT st et k bs zs enc) (n : Nat) (hn : n ≤ 1000000) : ∃ Z : Array Value, Z.size = n * k ∧ ∀ w : World, (Instr.makeSlice st (.int .i64 (n : Int)) (.int .i64 (n : Int))).run Try.prog w = .ok (.slice (some ⟨w.heap.size, 0, none⟩) n n) (w.alloc (.cells Z et)) := by
  obtain ⟨i0, hi, hz0, hz1, hz2⟩ := info_parts R.info
  have hsm := R.small
  refine ⟨madeCells (Value.agg zs.toArray).cells (n * k), by simp [size_madeCells], fun w => ?_⟩
  have hb : (i0.bytes : Int) * (n : Int) ≤ 281474976710656 := by
    rw [hz2]
    have : bs * n ≤ 1000 * 1000000 := Nat.mul_le_mul hsm hn
    have h2 : ((bs * n : Nat) : Int) ≤ 281474976710656 := by omega
    rwa [Int.natCast_mul] at h2
  have := run_make (P := Try.prog) w st et i0 (.agg zs.toArray) R.us hi hz0 .i64 .i64 (n : Int) (n : Int) (by omega) (by omega) hb (by omega)
  simp only [Int.toNat_natCast, hz1] at this
  exact this
/-- 'copy(v, u)' into a row just made -/
theorem run_copy_rows (R : EncT st et k bs zs enc) (w : World) (ty : TypeId) (g n : Nat) (q : Option Addr) (c : Nat) (K : List α) (hu : Ls.Ls k enc w (.slice q n c) K) (hK : K.length = n) (hn : n ≤ 1000000) (hp : 0 < n) (Z : Array Value) (hZ : w.heap[g]? = some (.cells Z et (0, 0))) (hZs : Z.size = n * k) :
    ∃ w2, (Builtin.copy_ #[st, st] ty #[.slice (some ⟨g, 0, none⟩) n n, .slice q n c]).run Try.prog w = .ok (.int .i64 (n : Int)) w2 ∧ RowV w2 (.slice (some ⟨g, 0, none⟩) n n) et k enc K ∧ Fr (fun j => j = g) w w2 := by
  obtain ⟨i0, hi, hz0, hz1, hz2⟩ := info_parts R.info
  have hne : K ≠ [] := fun c => by rw [c] at hK; simp at hK; omega
  obtain ⟨b, off, rfl, hu2⟩ := hu.cells R.len R.pos hne
  have hlen : (fl enc K).length = n * k := by rw [fl_len R.len, hK]
  have hrun := run_copy_wide (P := Try.prog) w st st ty et g 0 n n ⟨b, off, none⟩ n c k n Z et (fl enc K) R.us (by rw [hi]; simp [hz1]) hZ (Nat.min_self n) hlen hu2 (by omega) (fl_cell R.one)
  refine ⟨_, by rw [hrun, goInt_eq], ⟨?_, .inr ⟨g, n, _, by rw [hK], Nat.zero_le _, setRow_heap w g Z _ et (0, 0) hZ, by omega, by unfold maxLen; omega, ?_, ?_⟩⟩, ⟨rfl, rfl, rfl, by simp, fun j _ hj => setRow_other w g j _ hj⟩⟩
  · rw [hlen, hK]
  · simp [hlen]; omega
  · simp only [hK]
    rw [List.take_zero, List.nil_append, List.take_append_of_le_length (by rw [hlen]; exact Nat.le_refl _), List.take_of_length_le (by rw [hlen]; exact Nat.le_refl _)]
end

end Go.Proofs.Ytiaafjabhnomeaa.Rv
