/- The document's digits, of any number. -/
import Derived.Test.YtcoagmkncjonmaaDoorIt
import Derived.BigQuiet
import Derived.Lib.QuietBelow
import Derived.Lib.ItoaWalk
import Derived.Lib.ItoaLen
namespace Go.Proofs.YtcoagmkncjonmaaDoor.Dg
open Go.RowKit St Go.Sort

def tenDigits : ByteArray := ⟨#[48, 49, 50, 51, 52, 53, 54, 55, 56, 57]⟩
theorem digit_slice (d : Nat) (h : d < 10) : tenDigits.extract d (d + 1) = ⟨[UInt8.ofNat (48 + d)].toArray⟩ := by
  have hd : d = 0 ∨ d = 1 ∨ d = 2 ∨ d = 3 ∨ d = 4 ∨ d = 5 ∨ d = 6 ∨ d = 7 ∨ d = 8 ∨ d = 9 := by omega
  rcases hd with rfl | rfl | rfl | rfl | rfl | rfl | rfl | rfl | rfl | rfl <;> decide +kernel
/-- one digit, cut out of the row of digits -/
theorem digit_cut (d : Nat) (h : d < 10) : ∃ D : ByteArray, (∀ w,
    (Instr.slice 9 (.string { data := #[48, 49, 50, 51, 52, 53, 54, 55, 56, 57] }) (some (.int .i64 (d : Int))) (some (.int .i64 ((d : Int) + 1))) none).run Tryd.prog w = .ok (.string D) w) ∧
    RowKit.Hid (D.data.toList = [UInt8.ofNat (48 + d)]) ∧ RowKit.Hid (D.size = 1) := by
  refine ⟨tenDigits.extract d (d + 1), fun w => ?_, by show _ = _; rw [digit_slice d h], by show _ = _; rw [digit_slice d h]; rfl⟩
  rw [run_slice_string w 9 _ .i64 .i64 _ _ Tryd.underlying9 (by omega) (by omega) (by show ((d : Int) + 1) ≤ ((10 : Nat) : Int); omega), show ((d : Int)).toNat = d by omega, show ((d : Int) + 1).toNat = d + 1 by omega]
  rfl
/-- a number's digits, under a name -/
theorem digits_named (n : Nat) (h : n ≤ 9223372036854775807) : ∃ E : ByteArray, (⟨(Lib.decDigits n).toArray⟩ : ByteArray) = E ∧ E.data.toList = Lib.decDigits n ∧ E.size ≤ 20 :=
  ⟨_, rfl, rfl, by rw [size_list]; show (Lib.decDigits n).length ≤ 20; rw [Lib.decDigits_length]; exact Lib.nDigits_le20 n (by omega)⟩





end Go.Proofs.YtcoagmkncjonmaaDoor.Dg
