/- The laws of layer 8 at the arguments as they are handed in. -/
import Derived.Test.YtpgfaklnbehmhaaDoorPkA
import Derived.Test.YtpgfaklnbehmhaaDoorPkT
import Derived.Test.YtpgfaklnbehmhaaDoorPkF
import Derived.Test.YtpgfaklnbehmhaaDoorPkC
import Derived.Test.YtpgfaklnbehmhaaDoorPkO
namespace Go.Proofs.YtpgfaklnbehmhaaDoor.Pk
open Go.RowKit Go.Sort St BsM IdM PkM
set_option linter.unusedVariables false

theorem of_u8 {a : Int} (h : (Lit.int .u8 a).wf = true) : ∃ c : UInt8, (c.toNat : Int) = a := by
  have hh : IntKind.u8.min ≤ a ∧ a ≤ IntKind.u8.max := by simpa [Lit.wf] using h
  rw [show IntKind.u8.min = 0 from rfl, show IntKind.u8.max = 255 from rfl] at hh
  exact ⟨UInt8.ofNat a.toNat, by rw [UInt8.toNat_ofNat']; omega⟩
theorem tells_all {H : Type} {enc : TypeId × Value → H} {W : World} {r : Reach} {b0 : Nat} (v : Value) {d : DataW H} {q : List MemPlace} (hv : Value.okWide Tryd.prog W r b0 27 v)
    (h : DataW.Trod enc Tryd.prog W 0 (fun _ => true) true 27 v d q) (hT : Cr.Tab W) : Calls Tryd.prog 3 #[v] W fun e w' => e = .returned (.bool true) ∧ Below W.heap.size W w' := by
  obtain ⟨p, rfl, hN⟩ := open_pk hv h
  exact tells_any p hN W hT awake_any
theorem finds_all {H : Type} {enc : TypeId × Value → H} {W : World} {r : Reach} {b0 : Nat} (v : Value) (a x : Int) {d : DataW H} {q : List MemPlace} (hv : Value.okWide Tryd.prog W r b0 27 v)
    (h : DataW.Trod enc Tryd.prog W 0 (fun _ => true) true 27 v d q) (hx : (Lit.int .u8 x).wf = true) (hT : Cr.Tab W) : Calls Tryd.prog 5 #[v, .int .i64 a, .int .u8 x] W fun e w' => e = .returned (.bool true) ∧ Below W.heap.size W w' := by
  obtain ⟨p, rfl, hN⟩ := open_pk hv h
  obtain ⟨c, rfl⟩ := of_u8 hx
  exact finds_any p a c W hT awake_any
theorem once_all (s : ByteArray) (W : World) (hT : Cr.Tab W) : Calls Tryd.prog 4 #[.string s] W fun e w' => e = .returned (.bool true) ∧ Below W.heap.size W w' :=
  once_any s W hT awake_any

end Go.Proofs.YtpgfaklnbehmhaaDoor.Pk
