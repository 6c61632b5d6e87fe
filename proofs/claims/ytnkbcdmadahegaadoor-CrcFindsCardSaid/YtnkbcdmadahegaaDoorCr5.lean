/- A contract of what puts two texts together. -/
import Derived.Test.YtnkbcdmadahegaaDoorCr4
import Derived.Deep.AppendLies
import Derived.Deep.RegionLaw
namespace Go.Proofs.YtnkbcdmadahegaaDoor.Cr
open Go.RowKit St Go.Sort CrM
set_option linter.unusedVariables false

theorem zip_at (l r : List UInt8) (k : Nat) (h : k < l.length) (h2 : l.length = r.length) : (List.zipWith (· ^^^ ·) l r).getD k 0 = l.getD k 0 ^^^ r.getD k 0 := by
  simp [List.getD_eq_getElem?_getD, List.getElem?_eq_getElem h, List.getElem?_eq_getElem (show k < r.length by omega), List.getElem?_zipWith]

set_option maxHeartbeats 800000 in
theorem both_any (s r : ByteArray) (hs : s.size ≤ 5000) (hsr : s.size = r.size) (w : World) :
    Calls Tryd.prog 17 #[.string s, .string r] w fun e w' => e = .returned (.string ⟨(List.zipWith (· ^^^ ·) s.data.toList r.data.toList).toArray⟩) ∧ Kept w w' := by
  have HL := Lib.hid (size_list s)
  have HR := Lib.hid (size_list r)
  obtain ⟨m, hm⟩ : ∃ m, List.zipWith (· ^^^ ·) s.data.toList r.data.toList = m := ⟨_, rfl⟩
  have hml : m.length = s.size := by rw [← hm, List.length_zipWith, ← HL.out, ← HR.out]; omega
  have hmx : ∀ k, k < s.size → m.getD k 0 = s.data.toList.getD k 0 ^^^ r.data.toList.getD k 0 := fun k hk => by rw [← hm]; exact zip_at _ _ _ (by rw [← HL.out]; exact hk) (by rw [← HL.out, ← HR.out]; exact hsr)
  have HM := Lib.hid hml
  have HX := Lib.hid hmx
  have hr1 : s.size ≤ r.size := by omega
  rw [hm]
  clear hm hml hmx hsr
  obtain ⟨i0, hi, hz0, hz1, hz2⟩ := info_parts info8
  have HI := Lib.hid (And.intro hi (And.intro hz0 (And.intro hz1 hz2)))
  clear hi hz0 hz1 hz2
  go_enter Tryd.func17, Tryd.ntmps17
  go_wp2_with fail
  go_loopw [5, 6] (fun v j wr => ∃ k : Nat, k ≤ s.size ∧ j = .int .i64 (k : Int) ∧ wr.ownsRow w.heap.size 5 1 v k (cellsOf (m.take k)) ∧ Kept w wr) (fun _ j _ => s.size - (intOf j).toNat)
  case atStart => exact ⟨0, Nat.zero_le _, rfl, World.ownsRow_nil _ _ _ _, Kept.refl _⟩
  case round =>
    obtain ⟨k, hk, rfl, hown, hkept⟩ := hrel
    by_cases hlt : k < s.size
    · obtain ⟨b, hb, hidx, hB⟩ := byteNat s k hlt
      obtain ⟨c, hc, hidc, hC⟩ := byteNat r k (by omega)
      have hsz := Below.size hkept
      obtain ⟨z, hz⟩ : ∃ z : Int, ((m.getD k 0).toNat : Int) = z := ⟨_, rfl⟩
      have ht := Lib.hid (take_one m k (by rw [HM.out]; exact hlt))
      have fin : ∀ (v1 : Value) (w1 : World), w1.ownsRow w.heap.size 5 1 v1 (k + 1) (cellsOf (m.take k) ++ [.int .u8 z]) → w1.ownsRow w.heap.size 5 1 v1 (k + 1) (cellsOf (m.take (k + 1))) := fun v1 w1 h => by rw [ht.out, hz]; exact h
      have HZ := Lib.hid hz
      have FIN := Lib.hid fin
      have hv : bits .xor .u8 (b : Int) (c : Int) = z := by
        rw [← hz, HX.out k hlt, u8_xor_nat b c hb hc, UInt8.toNat_xor, hB.out, hC.out]
      clear hz fin
      go_wp2_with fail
      go_region_law (first | (refine step_append_lies _ rfl (.tmp 13) (.tmp 21) 37 rfl w.heap.size 5 i0 (.int .u8 0) 1 1 Tryd.underlying37 HI.out.1 HI.out.2.1 HI.out.2.2.1 HI.out.2.2.2 rfl (by decide) _ _ _ (by simp [Act.eval]) (World.ownsRow.alloc hown _) ⟨wr.heap.size, 0, none⟩ 1 1 [.int .u8 z] (by simp [Act.eval]) rfl (cell_one _ _ _) (by intro u hu; simp at hu; subst hu; rfl) (by omega) (by unfold maxLen; omega) (by omega) (by simp; omega) _ rfl ?_; intro g1 cap1 w1 hown1 hgrow1 _ _))
      all_goals
        go_wp2_with fail
        go_roundw
        case rel => exact ⟨k + 1, by omega, by go_num, FIN.out _ _ hown1, (Below.drew (hkept.alloc (by omega) _)).grown hgrow1 (by simp; omega) (fun j hj => (hown.lt j hj).1)⟩
        case measure => simp [intOf]; omega
    · have hmk : Hid (k = m.length) := by show _ = _; rw [HM.out]; omega
      have hconv := conv_own (by rw [List.length_take, Nat.min_eq_left (by rw [HM.out]; omega)]) hown
      obtain ⟨D, hD⟩ : ∃ D : ByteArray, (⟨(m.take k).toArray⟩ : ByteArray) = D := ⟨_, rfl⟩
      rw [hD] at hconv
      have HD := Lib.hid hD
      clear hD
      go_wp2_with fail
      go_ret
      exact ⟨ret_str (by rw [← HD.out]; simp [hmk.out]), hkept⟩

end Go.Proofs.YtnkbcdmadahegaaDoor.Cr
