/- Plain facts on texts and on worlds that keep what was there: no function of the program is spoken of here. -/
import Derived.Test.YtcoagmkncjonmaaGreatDoorChecked
import Derived.WalkKit
import Derived.Lib.Hide
import Derived.Lib.SmallJoins
import Derived.Sort.Grow
import Derived.Laws.IdiomStrings
import Derived.Laws.AppendOwn
namespace Go.Proofs.YtcoagmkncjonmaaGreatDoor.St
open Go.RowKit Go.Sort

/-- of what was there when the call began nothing has turned -/
def Kept (a b : World) : Prop := Below a.heap.size a b
theorem Kept.refl (a : World) : Kept a a := Below.refl _ _
theorem Kept.trans {a b c : World} (h : Kept a b) (k : Kept b c) : Kept a c := Below.trans h (Below.mono k (Below.size h))
theorem Kept.drew {a b : World} (h : Kept a b) : Kept a b.drew := Below.drew h
theorem Kept.drewN {a b : World} (h : Kept a b) (n : Nat) : Kept a (b.drewN n) := Below.trans h ⟨rfl, rfl, rfl, Nat.le_refl _, fun _ _ => rfl⟩
theorem Kept.grow {a b : World} (h : Kept a b) (os : Array Obj) : Kept a (grow b os) :=
  h.trans ⟨rfl, rfl, rfl, by simp, fun k hk => by show (b.heap ++ os)[k]? = _; rw [Array.getElem?_append_left hk]⟩
theorem Kept.one (w : World) (o : Obj) : Kept w (w.alloc o) := (Kept.refl w).grow #[o]
theorem Kept.more {a b : World} (h : Kept a b) (o : Obj) : Kept a (b.alloc o) := h.grow #[o]
theorem Kept.tab {a b : World} (h : Kept a b) {g : Nat} {n : String} {k : IntKind} {zs : List Int} (hg : Tryz.prog.globalNamed n = some g) (ht : Lib.TabIs Tryz.prog a n k zs) : Lib.TabIs Tryz.prog b n k zs :=
  Joins.tab_stays hg ht h (Nat.le_refl _)

theorem size_list (s : ByteArray) : s.size = s.data.toList.length := by rw [Array.length_toList]; rfl
theorem get_byte (s : ByteArray) (i : Nat) (h : i < s.size) : (s[i]'h).toNat = (s.data.toList.getD i 0).toNat := by
  have h2 : i < s.data.size := h
  show (s.data[i]).toNat = _
  rw [List.getD_eq_getElem?_getD, Array.getElem?_toList, Array.getElem?_eq_getElem h2]
  rfl
/-- a byte of a text, under a name -/
theorem byteAt (s : ByteArray) (i : Nat) (h : i < s.size) :
    ∃ c : Int, (∀ w, (Instr.index 9 (.string s) (.int .i64 (i : Int))).run Tryz.prog w = .ok (.int .u8 c) w) ∧ 0 ≤ c ∧ c ≤ 255 ∧ Hid (c = ((s.data.toList.getD i 0).toNat : Int)) := by
  refine ⟨((s.data.toList.getD i 0).toNat : Int), fun w => ?_, by omega, ?_, rfl⟩
  · rw [run_index_string w 9 s .i64 i Tryz.underlying9, dif_pos ⟨by omega, by omega⟩]
    have e := get_byte s i h
    simp only [Int.toNat_natCast]
    rw [e]
  · have := (s.data.toList.getD i 0).toNat_lt; omega
theorem extract_list (s : ByteArray) (i j : Nat) : (s.extract i j).data.toList = (s.data.toList.take j).drop i := by
  simp [ByteArray.data_extract, List.drop_take]
theorem str_of (s : ByteArray) (l : List UInt8) (h : s.data.toList = l) : s = ⟨l.toArray⟩ := by
  subst h; cases s; simp
theorem ret_str {a b : ByteArray} (h : a.data.toList = b.data.toList) : Ending.returned (.string a) = .returned (.string b) := by
  cases a; cases b; simp_all
theorem ret_int {k : IntKind} {a b : Int} (h : a = b) : Ending.returned (.int k a) = .returned (.int k b) := by rw [h]
theorem ret_bool {a b : Bool} (h : a = b) : Ending.returned (.bool a) = .returned (.bool b) := by rw [h]

/-- bytes, as cells -/
def cellsOf (l : List UInt8) : List Value := l.map fun b => .int .u8 (b.toNat : Int)
theorem cellsOf_len (l : List UInt8) : (cellsOf l).length = l.length := by simp [cellsOf]
theorem cellsOf_at (l : List UInt8) (j : Nat) (h : j < l.length) : (cellsOf l)[j]? = some (.int .u8 (l[j].toNat : Int)) := by simp [cellsOf, h]
theorem cellsOf_snoc (l : List UInt8) (b : UInt8) : cellsOf (l ++ [b]) = cellsOf l ++ [.int .u8 (b.toNat : Int)] := by simp [cellsOf]

/-- a slice of the call's own, told as a text -/
theorem conv_own {w : World} {base n : Nat} {v : Value} {l : List UInt8} (hl : l.length = n) (h : w.ownsRow base 5 1 v n (cellsOf l)) :
    (convert 54 9 v).run Tryz.prog w = .ok (.string ⟨l.toArray⟩) w := by
  subst hl
  rcases h.2 with ⟨rfl, hn⟩ | ⟨g, cap, cur, rfl, _⟩
  · obtain rfl : l = [] := List.length_eq_zero_iff.mp hn
    rw [run_convert_bytes_string w 54 9 5 none 0 0 Tryz.underlying54 Tryz.underlying5 Tryz.underlying9]; rfl
  · refine run_convert_bytes_back w 54 9 5 ⟨g, 0, none⟩ cap l Tryz.underlying54 Tryz.underlying5 Tryz.underlying9 (fun j hj => ?_)
    exact h.cells (g := g) rfl j _ (cellsOf_at l j hj)
/-- a new block of bytes, told as a text -/
theorem conv_new (w : World) (l : List UInt8) (cap : Nat) :
    (convert 54 9 (.slice (some ⟨w.heap.size, 0, none⟩) l.length cap)).run Tryz.prog (w.alloc (.cells (cellsOf l).toArray 5)) = .ok (.string ⟨l.toArray⟩) (w.alloc (.cells (cellsOf l).toArray 5)) := by
  refine run_convert_bytes_back _ 54 9 5 ⟨w.heap.size, 0, none⟩ cap l Tryz.underlying54 Tryz.underlying5 Tryz.underlying9 (fun j hj => ?_)
  have e : (⟨w.heap.size, 0, none⟩ : Addr).add j = ⟨w.heap.size, j, none⟩ := by unfold Addr.add; split <;> simp_all
  rw [e]
  rw [World.cell?_alloc_new]; simp [cellsOf, hj]

/-- a block of cells that bears no mark: its cells; that they may be written; what it is behind a store -/
theorem blk_cell {w : World} {b : Nat} {xs : Array Value} {t : TypeId} (h : w.heap[b]? = some (.cells xs t (0, 0))) (o : Nat) : w.cell? ⟨b, o, none⟩ = xs[o]? := by simp [World.cell?, h]
theorem blk_free {w : World} {b : Nat} {xs : Array Value} {t : TypeId} (h : w.heap[b]? = some (.cells xs t (0, 0))) (o : Nat) : w.frozen? ⟨b, o, none⟩ = false := by simp [World.frozen?, h]
theorem blk_lt {w : World} {b : Nat} {o : Obj} (h : w.heap[b]? = some o) : b < w.heap.size := by
  rcases Nat.lt_or_ge b w.heap.size with h' | h'
  · exact h'
  · simp [Array.getElem?_eq_none h'] at h
theorem blk_set {w : World} {b : Nat} {xs : Array Value} {t : TypeId} (h : w.heap[b]? = some (.cells xs t (0, 0))) (o : Nat) (u : Value) : (w.setCell ⟨b, o, none⟩ u).heap[b]? = some (.cells (xs.setIfInBounds o u) t (0, 0)) := by
  have hlt := blk_lt h
  have h' : w.heap[b] = .cells xs t (0, 0) := by simpa [Array.getElem?_eq_getElem hlt] using h
  show (w.heap.modify b _)[b]? = _
  rw [Array.getElem?_eq_getElem (by simpa using hlt), Array.getElem_modify_self, h']
  rfl
theorem blk_new (w : World) (o : Obj) : (w.alloc o).heap[w.heap.size]? = some o := by
  show (w.heap.push o)[w.heap.size]? = _
  simp

/-- a block of bytes, told as a text -/
theorem conv_blk {w : World} {b : Nat} {l : List UInt8} (cap : Nat) (h : w.heap[b]? = some (.cells (cellsOf l).toArray 5 (0, 0))) :
    (convert 54 9 (.slice (some ⟨b, 0, none⟩) l.length cap)).run Tryz.prog w = .ok (.string ⟨l.toArray⟩) w := by
  refine run_convert_bytes_back w 54 9 5 ⟨b, 0, none⟩ cap l Tryz.underlying54 Tryz.underlying5 Tryz.underlying9 (fun j hj => ?_)
  have e : (⟨b, 0, none⟩ : Addr).add j = ⟨b, j, none⟩ := by unfold Addr.add; split <;> simp_all
  rw [e, blk_cell h]; simp [cellsOf, hj]

end Go.Proofs.YtcoagmkncjonmaaGreatDoor.St
