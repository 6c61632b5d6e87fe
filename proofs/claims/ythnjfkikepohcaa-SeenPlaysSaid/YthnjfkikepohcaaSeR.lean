/- The laws of what was seen at arguments: keys, identities, deeds. -/
import Derived.Test.YthnjfkikepohcaaSeF
import Derived.Test.YthnjfkikepohcaaSeO
namespace Go.Proofs.Ythnjfkikepohcaa.Se
open Go.RowKit Go.Sort Tk IdM
open St (Kept)
set_option linter.unusedVariables false

section
variable {H : Type} {enc : TypeId × Value → H} {W : World} {r : Reach} {b0 : Nat} {v v' : Value} {d d' : DataW H} {p p' : List MemPlace}
set_option maxRecDepth 100000 in
theorem forgets_all (u g t : Int) (hv : Value.okWide Try.prog W r b0 32 v) (h : DataW.Trod enc Try.prog W 0 (fun _ => true) true 32 v d p) :
    Calls Try.prog 6 #[v, .int .i64 u, .int .i64 g, .int .i64 t] W fun e w' => e = .returned (.bool true) ∧ Kept W w' := by
  obtain ⟨n, i, s, a, rfl, h1, h2, h3, h4⟩ := Ky.open_key hv h
  exact forgets_any ⟨h1, h2, h3, h4⟩ u g t W
set_option maxRecDepth 100000 in
theorem full_all {a : Int} (ha : (Lit.int .i64 a).wf = true) (hv : Value.okWide Try.prog W r b0 30 v) (h : DataW.Trod enc Try.prog W 0 (fun _ => true) true 30 v d p) :
    Calls Try.prog 5 #[v, .int .i64 a] W fun e w' => e = .returned (.bool true) ∧ Kept W w' := by
  obtain ⟨n, i, s, rfl, h1, h2, h3⟩ := open_id hv h
  exact full_any h1 h2 h3 (wf_i64 ha) W
set_option maxRecDepth 100000 in
theorem once_all (u : Int) (hv : Value.okWide Try.prog W r b0 32 v) (h : DataW.Trod enc Try.prog W 0 (fun _ => true) true 32 v d p)
    (hv' : Value.okWide Try.prog W r b0 22 v') (h' : DataW.Trod enc Try.prog W 0 (fun _ => true) true 22 v' d' p') :
    Calls Try.prog 4 #[v, .int .i64 u, v'] W fun e w' => e = .returned (.bool true) ∧ Kept W w' := by
  obtain ⟨n, i, s, a, rfl, h1, h2, h3, h4⟩ := Ky.open_key hv h
  obtain ⟨len, G, hI⟩ := open_dds hv' h'
  exact once_any ⟨h1, h2, h3, h4⟩ u hI
end

end Go.Proofs.Ythnjfkikepohcaa.Se
