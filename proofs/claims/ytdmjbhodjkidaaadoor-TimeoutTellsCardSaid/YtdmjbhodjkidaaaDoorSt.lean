/- Plain facts on texts and on worlds that keep what was there: no function of the program is spoken of here. -/
import Derived.Test.YtdmjbhodjkidaaaDoorChecked
import Derived.WalkKit
import Derived.Lib.Hide
import Derived.Lib.SmallJoins
import Derived.Sort.Grow
namespace Go.Proofs.YtdmjbhodjkidaaaDoor.St
open Go.RowKit Go.Sort

/-- of what was there when the call began nothing has turned -/
def Kept (a b : World) : Prop := Below a.heap.size a b
theorem Kept.refl (a : World) : Kept a a := Below.refl _ _
theorem Kept.trans {a b c : World} (h : Kept a b) (k : Kept b c) : Kept a c := Below.trans h (Below.mono k (Below.size h))
theorem Kept.drew {a b : World} (h : Kept a b) : Kept a b.drew := Below.drew h
theorem Kept.drewN {a b : World} (h : Kept a b) (n : Nat) : Kept a (b.drewN n) := Below.trans h ⟨rfl, rfl, rfl, Nat.le_refl _, fun _ _ => rfl⟩
theorem Kept.grow {a b : World} (h : Kept a b) (os : Array Obj) : Kept a (grow b os) :=
  h.trans ⟨rfl, rfl, rfl, by simp, fun k hk => by show (b.heap ++ os)[k]? = _; rw [Array.getElem?_append_left hk]⟩
theorem Kept.tab {a b : World} (h : Kept a b) {g : Nat} {n : String} {k : IntKind} {zs : List Int} (hg : Tryd.prog.globalNamed n = some g) (ht : Lib.TabIs Tryd.prog a n k zs) : Lib.TabIs Tryd.prog b n k zs :=
  Joins.tab_stays hg ht h (Nat.le_refl _)

theorem size_list (s : ByteArray) : s.size = s.data.toList.length := by rw [Array.length_toList]; rfl
theorem get_byte (s : ByteArray) (i : Nat) (h : i < s.size) : (s[i]'h).toNat = (s.data.toList.getD i 0).toNat := by
  have h2 : i < s.data.size := h
  show (s.data[i]).toNat = _
  rw [List.getD_eq_getElem?_getD, Array.getElem?_toList, Array.getElem?_eq_getElem h2]
  rfl
/-- a byte of a text, under a name -/
theorem byteAt (s : ByteArray) (i : Nat) (h : i < s.size) :
    ∃ c : Int, (∀ w, (Instr.index 9 (.string s) (.int .i64 (i : Int))).run Tryd.prog w = .ok (.int .u8 c) w) ∧ 0 ≤ c ∧ c ≤ 255 ∧ Hid (c = ((s.data.toList.getD i 0).toNat : Int)) := by
  refine ⟨((s.data.toList.getD i 0).toNat : Int), fun w => ?_, by omega, ?_, rfl⟩
  · rw [run_index_string w 9 s .i64 i Tryd.underlying9, dif_pos ⟨by omega, by omega⟩]
    have e := get_byte s i h
    simp only [Int.toNat_natCast]
    rw [e]
  · have := (s.data.toList.getD i 0).toNat_lt; omega
theorem extract_list (s : ByteArray) (i j : Nat) : (s.extract i j).data.toList = (s.data.toList.take j).drop i := by
  simp [ByteArray.data_extract, List.drop_take]
theorem str_of (s : ByteArray) (l : List UInt8) (h : s.data.toList = l) : s = ⟨l.toArray⟩ := by
  subst h; cases s; simp
theorem ret_str {a b : ByteArray} (h : a.data.toList = b.data.toList) : Ending.returned (.string a) = .returned (.string b) := by
  cases a; cases b; simp_all
theorem ret_int {k : IntKind} {a b : Int} (h : a = b) : Ending.returned (.int k a) = .returned (.int k b) := by rw [h]
theorem ret_bool {a b : Bool} (h : a = b) : Ending.returned (.bool a) = .returned (.bool b) := by rw [h]

end Go.Proofs.YtdmjbhodjkidaaaDoor.St
