/- Numbers as decimal text by the library's own call. -/
import Derived.Test.YtcoagmkncjonmaaGreatDoorSt
import Derived.Test.YtcoagmkncjonmaaGreatDoorShelf
namespace Go.Proofs.YtcoagmkncjonmaaGreatDoor.It
open Go.RowKit Go.Sort St
set_option linter.unusedVariables false

theorem pow10 : Tryz.prog.globalNamed "internal/strconv.uint64pow10" = some 0 := by kernel_rfl
/-- what a table of the library's holds, when the call begins -/
def Tab (w : World) : Prop := Lib.TabIs Tryz.prog w "internal/strconv.uint64pow10" .u64 Lib.pow10Tab
theorem Tab.kept {a b : World} (h : Tab a) (k : Kept a b) : Tab b := k.tab pow10 h
theorem itoa_any (n : Int) (h0 : -9223372036854775808 ≤ n) (h1 : n ≤ 9223372036854775807) (E : ByteArray) (hE : Hid (E.data.toList = Lib.itoa n)) (w : World) (ht : Tab w) :
    Calls Tryz.prog 23 #[.int .i64 n] w fun e w' => e = .returned (.string E) ∧ Kept w w' := by
  refine (Tryz.strconv_Itoa n h0 h1 w ht).mono ?_
  rintro e w' ⟨rfl, k, os, rfl⟩
  exact ⟨ret_str (by rw [hE.out]), ((Kept.refl w).drewN k).grow os⟩

end Go.Proofs.YtcoagmkncjonmaaGreatDoor.It
