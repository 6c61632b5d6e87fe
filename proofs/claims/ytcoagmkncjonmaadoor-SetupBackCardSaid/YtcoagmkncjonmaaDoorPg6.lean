/- Programs: the document's words, numbers and texts. -/
import Derived.Test.YtcoagmkncjonmaaDoorPg5
import Derived.Test.YtcoagmkncjonmaaDoorDg
namespace Go.Proofs.YtcoagmkncjonmaaDoor.Pg
open Go.RowKit Go.Sort Go.Shelf St Cd It
set_option linter.unusedVariables false
set_option linter.unusedSimpArgs false



theorem size2 : (⟨#[59, 32]⟩ : ByteArray).size = 2 := rfl
theorem size1 : (⟨#[32]⟩ : ByteArray).size = 1 := rfl
/-- what stands ahead of a step -/
def sepT (i : Nat) : List UInt8 := if i = 0 then [] else [59, 32]
theorem join_take {L : List Op} {i : Nat} {o : Op} (ho : L[i]? = some o) : joinT (L.take (i + 1)) = joinT (L.take i) ++ (sepT i ++ stepT o) := by
  rw [List.take_add_one, ho]
  cases i with
  | zero => simp [joinT, tailT, sepT]
  | succ j =>
    have hne : L.take (j + 1) ≠ [] := fun c => by
      have h1 := (List.getElem?_eq_some_iff.1 ho).1
      have h2 : (L.take (j + 1)).length = 0 := by rw [c]; rfl
      rw [List.length_take] at h2
      omega
    show joinT (L.take (j + 1) ++ [o]) = _
    rw [joinT_app hne]
    simp [tailT, sepT]
theorem allK_take {L : List Op} {i : Nat} {o : Op} (h : allK (L.take i) = true) (ho : L[i]? = some o) (hf : knownB o.k = true) : allK (L.take (i + 1)) = true := all_take h ho hf
theorem text_none {L : List Op} {i : Nat} {o : Op} (ho : L[i]? = some o) (hf : knownB o.k = false) : textT L = [] := by
  unfold textT; rw [if_neg]; unfold allK; rw [all_miss ho hf]; decide
theorem not_known {k : Int} (h : knownB k = false) : k < 1 ∨ 7 < k := by
  unfold knownB at h; have := of_decide_eq_false h; omega


end Go.Proofs.YtcoagmkncjonmaaDoor.Pg
