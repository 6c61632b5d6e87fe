/- A slice of yes or no: as an argument; of a call's own, and appends to it. No function of the program is spoken of here. -/
import Derived.Test.YtijpdfcnbljhiaaFr
import Derived.ChangeSlices
import Derived.ChangeArms
import Derived.WideShapes
import Derived.Carry
import Derived.Deep.Slices
import Derived.Laws.AppendOwnNone
import Derived.Maps.AppendAt
namespace Go.Proofs.Ytijpdfcnbljhiaa.Args
open Go.RowKit Go.Deep Go.ChangeShapes Go.WideShapes St Go.Sort
set_option linter.unusedVariables false

/-- a slice from which so many are read -/
def Bools (W : World) (v : Value) (len : Nat) (F : Nat → Bool) : Prop :=
  (len = 0 ∧ ∃ a cap, v = .slice a 0 cap) ∨
  (0 < len ∧ len ≤ maxLen ∧ ∃ b off cap, v = .slice (some ⟨b, off, none⟩) len cap ∧ ∀ i, i < len → W.cell? ⟨b, off + i, none⟩ = some (.bool (F i)))
section
variable {W W' : World} {v : Value} {len : Nat} {F : Nat → Bool}
theorem Bools.slice (h : Bools W v len F) : ∃ a0 cap, v = .slice a0 len cap := by
  rcases h with ⟨rfl, a, cap, rfl⟩ | ⟨_, _, b, off, cap, rfl, _⟩
  · exact ⟨_, _, rfl⟩
  · exact ⟨_, _, rfl⟩
theorem Bools.most (h : Bools W v len F) : len ≤ maxLen := by
  rcases h with ⟨h0, _⟩ | ⟨_, h1, _⟩
  · rw [h0]; exact Nat.zero_le _
  · exact h1
theorem Bools.cell {a0 : Option Addr} {cap : Nat} (h : Bools W (.slice a0 len cap) len F) {k : Nat} (hk : k < len) : ∃ b off, a0 = some ⟨b, off, none⟩ ∧ W.cell? ⟨b, off + k, none⟩ = some (.bool (F k)) := by
  rcases h with ⟨h, _⟩ | ⟨_, _, b, off, cap', he, hc⟩
  · omega
  · simp only [Value.slice.injEq] at he
    exact ⟨b, off, he.1, hc k hk⟩
theorem Bools.keep (h : Bools W v len F) (hk : Kept W W') : Bools W' v len F := by
  rcases h with h | ⟨h1, h2, b, off, cap, e, hc⟩
  · exact .inl h
  · exact .inr ⟨h1, h2, b, off, cap, e, fun i hi => (World.cell?_of_block (hk.block b (World.block_lt_of_cell? W _ (hc i hi)))).trans (hc i hi)⟩
end

theorem open_bools {H : Type} {enc : TypeId × Value → H} {P : Program} {W : World} {T E : TypeId} (ht : P.underlying T = some (.slice E)) (he : P.underlying E = some .bool) (ce : P.cellsOf E = 1)
    {r : Reach} {b0 : Nat} {v : Value} {d : DataW H} {p : List MemPlace} (hv : Value.okWide P W r b0 T v) (h : DataW.Trod enc P W 0 (fun _ => true) true T v d p) : ∃ len F, Bools W v len F := by
  obtain ⟨a0, len0, cap0, rfl⟩ := okWide_slice ht hv
  obtain ⟨fuel, hf⟩ := h
  rcases open_slice ht hf with ⟨hcs, hx⟩ | ⟨a, len, cap, m, n, D, Pl, hcs, _, hl, hm, hmm, hx, hall⟩
  · simp [Value.cells] at hcs
    obtain ⟨rfl, rfl, rfl⟩ := hcs
    exact ⟨0, fun _ => false, .inl ⟨rfl, _, _, rfl⟩⟩
  · simp [Value.cells] at hcs
    obtain ⟨rfl, rfl, rfl⟩ := hcs
    simp only [if_true] at hmm
    by_cases h0 : len0 = 0
    · subst h0; exact ⟨0, fun _ => false, .inl ⟨rfl, _, _, rfl⟩⟩
    · have hcell : ∀ i, i < len0 → ∃ z : Bool, W.cell? (a.add i) = some (.bool z) := fun i hi => by
        obtain ⟨cs', h1, h2⟩ := hall i (by omega)
        rw [ce] at h1
        obtain ⟨_, hlen, hcell⟩ := World.cells?_some h1
        match cs', hlen with
        | [v0], _ =>
          have e0 := hcell 0 (by omega)
          rw [add_add] at e0
          obtain ⟨z, p0, _⟩ := DataW.trod_bool he h2
          simp only [List.cons.injEq, and_true] at p0
          subst p0
          exact ⟨z, by simpa using e0⟩
      obtain ⟨b, off, spot⟩ := a
      obtain ⟨F, hF⟩ := choose_lt hcell
      have hspot : spot = none := by simpa [Addr.add] using World.cell?_spot (hF 0 (by omega))
      subst hspot
      have hF2 : ∀ i, i < len0 → W.cell? ⟨b, off + i, none⟩ = some (.bool (F i)) := fun i hi => by
        have := hF i hi
        rw [add_plain] at this
        exact this
      exact ⟨len0, F, .inr ⟨by omega, by omega, b, off, cap0, rfl, hF2⟩⟩

/-- a list of yes or no, as cells -/
def bv (l : List Bool) : List Value := l.map Value.bool
theorem bv_len (l : List Bool) : (bv l).length = l.length := List.length_map _
theorem bv_app (l m : List Bool) : bv (l ++ m) = bv l ++ bv m := List.map_append
/-- v is a slice of the call's own that holds a list -/
def RowB (w : World) (v : Value) (l : List Bool) : Prop := w.ownsRow 0 4 1 v l.length (bv l)
theorem RowB.kept {w w' : World} {v : Value} {l : List Bool} (h : RowB w v l) (hb : ∀ g, v.ownBlock = some g → w'.heap[g]? = w.heap[g]?) : RowB w' v l := by
  refine ⟨h.1, ?_⟩
  rcases h.2 with hn | ⟨g, cap, cur, rfl, hbb, hgg, r⟩
  · exact .inl hn
  · exact .inr ⟨g, cap, cur, rfl, hbb, (hb g rfl).trans hgg, r⟩
theorem RowB.lt {w : World} {v : Value} {l : List Bool} (h : RowB w v l) {g : Nat} (hg : v.ownBlock = some g) : g < w.heap.size := (World.ownsRow.lt h g hg).2
theorem RowB.shape {w : World} {v : Value} {l : List Bool} (h : RowB w v l) : ∃ p c, v = .slice p l.length c ∧ l.length ≤ c := by
  rcases h.2 with ⟨e, h0⟩ | ⟨g, cap, cur, e, _, _, h1, _⟩
  · exact ⟨none, 0, by rw [h0]; exact e, by rw [h0]; exact Nat.le_refl _⟩
  · exact ⟨_, _, e, h1⟩
/-- a slice of it, read -/
theorem RowB.cut {w : World} {p : Option Addr} {n c : Nat} {l : List Bool} (h : RowB w (.slice p n c) l) {m : Nat} (hm : m ≤ l.length) (hl : l.length ≤ maxLen) : Bools w (.slice p m c) m (fun i => l.getD i false) := by
  rcases h.2 with ⟨e, h0⟩ | ⟨g, cap, cur, e, _, hgg, h1, h2, h3, h4⟩
  · obtain rfl : m = 0 := by omega
    exact .inl ⟨rfl, _, _, rfl⟩
  · cases e
    rcases Nat.eq_zero_or_pos m with rfl | h0
    · exact .inl ⟨rfl, _, _, rfl⟩
    · refine .inr ⟨h0, by omega, g, 0, c, rfl, fun i hi => ?_⟩
      rw [Nat.zero_add, blk_cell hgg]
      have e1 : (bv l)[i]? = some (.bool (l.getD i false)) := by
        unfold bv; rw [List.getElem?_map, List.getElem?_eq_getElem (by omega), List.getD_eq_getElem?_getD, List.getElem?_eq_getElem (by omega)]; rfl
      rw [← h4, List.getElem?_take, if_pos (by omega)] at e1
      rw [← Array.getElem?_toList]; exact e1
theorem info_bool : (Try.prog.info? 4).map (fun i => (i.zero, i.size, i.bytes)) = some (some (.bool false), 1, 1) := by kernel_rfl
/-- 'make([]bool, n)' -/
theorem make_bools (n : Nat) (h1 : n ≤ 1000000) (w : World) : (Instr.makeSlice 28 (.int .i64 (n : Int)) (.int .i64 (n : Int))).run Try.prog w = .ok (.slice (some ⟨w.heap.size, 0, none⟩) n n) (w.alloc (.cells (bv (List.replicate n false)).toArray 4)) := by
  obtain ⟨i0, hi, hz, hs, hb⟩ := info_parts info_bool
  have := run_make (P := Try.prog) (w := w) 28 4 i0 _ Try.underlying28 hi hz .i64 .i64 (n : Int) (n : Int) (by omega) (Int.le_refl _) (by rw [hb]; omega) (by omega)
  rw [Int.toNat_natCast, hs, Nat.mul_one] at this
  have e : madeCells (Value.bool false).cells n = (bv (List.replicate n false)).toArray := by
    apply Array.ext'
    have h2 := toList_madeCells_one (.bool false) n
    show (madeCells #[Value.bool false] n).toList = bv (List.replicate n false)
    rw [h2]; simp [bv]
  rw [this, e]
theorem made_row (n : Nat) (h1 : n ≤ 1000000) (w : World) : RowB (w.alloc (.cells (bv (List.replicate n false)).toArray 4)) (.slice (some ⟨w.heap.size, 0, none⟩) n n) (List.replicate n false) := by
  have := World.ownsRow_lit (base := 0) (e := 4) (size := 1) w (bv (List.replicate n false)).toArray n (Nat.zero_le _) (by unfold maxLen; omega) (by simp [bv])
  unfold RowB
  rw [List.length_replicate]
  simpa using this
theorem made_bools (n : Nat) (h1 : n ≤ 1000000) (w : World) : Bools (w.alloc (.cells (bv (List.replicate n false)).toArray 4)) (.slice (some ⟨w.heap.size, 0, none⟩) n n) n (fun i => (List.replicate n false).getD i false) :=
  (made_row n h1 w).cut (by simp) (by rw [List.length_replicate]; unfold maxLen; omega)
theorem bcell_one (w : World) (t : TypeId) (x : Value) : ∀ j u, [x][j]? = some u → (w.alloc (.cells #[x] t)).cell? ((⟨w.heap.size, 0, none⟩ : Addr).add j) = some u := by
  intro j u hj; match j, hj with | 0, hj => simp at hj; subst hj; simp [Addr.add]
/-- 'append(v, x)', v the call's own -/
theorem wpList_append_yes (wr : World) {ops : Array Oper} {rest : List Oper} {o : Oper} {a : Act} {Q : Exit → Act → World → Prop} (hgd : o.guard = none) (s y : Operand)
    (ho : o.op = .call { callee := .builtin .append, args := #[s, y], argTypes := #[28, 28] }) (v : Value) (H : List Bool) (x : Bool) (hs : a.eval s = v) (hy : a.eval y = .slice (some ⟨wr.heap.size, 0, none⟩) 1 1) (hv' : RowB wr v H) (hn : H.length ≤ 1000000)
    (h : ∀ v2 w2, RowB w2 v2 (H ++ [x]) → (wr.alloc (.cells #[.bool x] 4)).grownBy w2 v.ownBlock → (v2.ownBlock = v.ownBlock ∨ ∃ g, v2.ownBlock = some g ∧ wr.heap.size ≤ g) → wpList Try.prog ops Q rest (a.put o.dst v2) w2) :
    wpList Try.prog ops Q (o :: rest) a (wr.alloc (.cells #[.bool x] 4)) := by
  obtain ⟨i0, hi, hz0, hz1, hz2⟩ := info_parts info_bool
  refine wpList_append_own_at _ hgd s y 28 ho 0 4 i0 (.bool false) 1 1 Try.underlying28 hi hz0 hz1 hz2 rfl (by decide) v H.length (bv H) hs (World.ownsRow.alloc hv' _) ⟨wr.heap.size, 0, none⟩ 1 1 [.bool x] hy rfl (bcell_one _ _ _) (by intro u hu; simp at hu; subst hu; rfl) (by unfold maxLen; omega) (by omega) (Nat.zero_le _) ?_
  intro v' w' r1 r2 _ r4
  refine h v' w' ?_ r2 (r4.imp id (fun c => ⟨_, c, by simp⟩))
  unfold RowB; rw [List.length_append, bv_app]; exact r1

end Go.Proofs.Ytijpdfcnbljhiaa.Args
