/- A byte of a text is another one: plain, and the document's own Changed. -/
import Derived.Test.YtglgkgpmfeamnaaSt
import Derived.Deep.DeepHandedRow
namespace Go.Proofs.Ytglgkgpmfeamnaa.Cg
open Go.RowKit St Go.Sort
set_option linter.unusedVariables false

/-- one byte of a text is another one -/
def chg (l : List UInt8) (i : Nat) (x : UInt8) : List UInt8 := l.mapIdx fun j b => if j = i then b ^^^ x else b
theorem chg_len (l : List UInt8) (i : Nat) (x : UInt8) : (chg l i x).length = l.length := by simp [chg]
theorem chg_at (l : List UInt8) (i k : Nat) (x : UInt8) (h : k < l.length) : (chg l i x).getD k 0 = if k = i then l.getD k 0 ^^^ x else l.getD k 0 := by
  simp [chg, List.getD_eq_getElem?_getD, List.getElem?_mapIdx, List.getElem?_eq_getElem h]
theorem chg_set (l : List UInt8) (i : Nat) (x : UInt8) (h : i < l.length) : chg l i x = l.set i (l.getD i 0 ^^^ x) := by
  apply List.ext_getElem
  · simp [chg]
  · intro k h1 h2
    simp only [chg, List.getElem_mapIdx, List.getElem_set]
    by_cases e : k = i
    · subst e; simp [List.getD_eq_getElem?_getD, List.getElem?_eq_getElem h]
    · rw [if_neg e, if_neg (fun c => e c.symm)]
theorem byteNat (s : ByteArray) (i : Nat) (h : i < s.size) :
    ∃ b : Nat, b < 256 ∧ (∀ w, (Instr.index 9 (.string s) (.int .i64 (i : Int))).run Try.prog w = .ok (.int .u8 (b : Int)) w) ∧ Hid (b = (s.data.toList.getD i 0).toNat) :=
  ⟨_, (s.data.toList.getD i 0).toNat_lt, fun w => by
    rw [run_index_string w 9 s .i64 i Try.underlying9, dif_pos ⟨by omega, by omega⟩]
    have e := get_byte s i h
    simp only [Int.toNat_natCast]
    rw [e], rfl⟩
theorem cell_one (w : World) (x : Value) (t : TypeId) : ∀ j u, ([x] : List Value)[j]? = some u → (w.alloc (.cells #[x] t)).cell? ((⟨w.heap.size, 0, none⟩ : Addr).add j) = some u := by
  intro j u h
  have e : (⟨w.heap.size, 0, none⟩ : Addr).add j = ⟨w.heap.size, j, none⟩ := by unfold Addr.add; split <;> simp_all
  rw [e, World.cell?_alloc_new]
  simpa using h
theorem info8 : (Try.prog.info? 5).map (fun i => (i.zero, i.size, i.bytes)) = some (some (.int .u8 0), 1, 1) := by kernel_rfl
theorem take_one (l : List UInt8) (k : Nat) (h : k < l.length) : cellsOf (l.take (k + 1)) = cellsOf (l.take k) ++ [.int .u8 ((l.getD k 0).toNat : Int)] := by
  rw [List.take_succ_eq_append_getElem h, cellsOf_snoc, List.getD_eq_getElem?_getD, List.getElem?_eq_getElem h]; rfl

set_option maxHeartbeats 800000 in
theorem changed_any (s : ByteArray) (hs : s.size ≤ 5000) (i : Nat) (x : UInt8) (w : World) :
    Calls Try.prog 23 #[.string s, .int .i64 (i : Int), .int .u8 (x.toNat : Int)] w fun e w' => e = .returned (.string ⟨(chg s.data.toList i x).toArray⟩) ∧ Kept w w' := by
  have hl := size_list s
  have HL := Lib.hid hl
  clear hl
  have hx := x.toNat_lt
  obtain ⟨m, hm⟩ : ∃ m, chg s.data.toList i x = m := ⟨_, rfl⟩
  have hml : m.length = s.size := by rw [← hm, chg_len, HL.out]
  have hmx : ∀ k, k < s.size → m.getD k 0 = if k = i then s.data.toList.getD k 0 ^^^ x else s.data.toList.getD k 0 := fun k hk => by rw [← hm]; exact chg_at _ _ _ _ (by rw [← HL.out]; exact hk)
  have HM := Lib.hid hml
  have HX := Lib.hid hmx
  rw [hm]
  clear hm hml hmx
  obtain ⟨i0, hi, hz0, hz1, hz2⟩ := info_parts info8
  have HI := Lib.hid (And.intro hi (And.intro hz0 (And.intro hz1 hz2)))
  clear hi hz0 hz1 hz2
  go_enter Try.func23, Try.ntmps23
  go_wp2_with fail
  go_loopw [7, 8, 9] (fun v j _ wr => ∃ k : Nat, k ≤ s.size ∧ j = .int .i64 (k : Int) ∧ wr.ownsRow w.heap.size 5 1 v k (cellsOf (m.take k)) ∧ Kept w wr) (fun _ j _ _ => s.size - (intOf j).toNat)
  case atStart => exact ⟨0, Nat.zero_le _, rfl, World.ownsRow_nil _ _ _ _, Kept.refl _⟩
  case round =>
    obtain ⟨k, hk, rfl, hown, hkept⟩ := hrel
    by_cases hlt : k < s.size
    · obtain ⟨b, hb, hidx, hB⟩ := byteNat s k hlt
      have hsz := Below.size hkept
      obtain ⟨z, hz⟩ : ∃ z : Int, ((m.getD k 0).toNat : Int) = z := ⟨_, rfl⟩
      have ht := Lib.hid (take_one m k (by rw [HM.out]; exact hlt))
      have fin : ∀ (v1 : Value) (w1 : World), w1.ownsRow w.heap.size 5 1 v1 (k + 1) (cellsOf (m.take k) ++ [.int .u8 z]) → w1.ownsRow w.heap.size 5 1 v1 (k + 1) (cellsOf (m.take (k + 1))) := fun v1 w1 h => by rw [ht.out, hz]; exact h
      have HZ := Lib.hid hz
      have FIN := Lib.hid fin
      by_cases hki : k = i
      · have hv : bits .xor .u8 (b : Int) (x.toNat : Int) = z := by
          rw [← hz, HX.out k hlt, if_pos hki, u8_xor_nat b x.toNat hb hx, UInt8.toNat_xor, hB.out]
        have heq : ((k : Int) == (i : Int)) = true := by simp [hki]
        have HK := Lib.hid hki
        clear hki hz fin
        go_wp2_with (at_builtin; refine wpList_append_own _ rfl _ _ 56 rfl w.heap.size 5 i0 (.int .u8 0) 1 1 Try.underlying56 HI.out.1 HI.out.2.1 HI.out.2.2.1 HI.out.2.2.2 rfl (by decide) _ _ _ rfl (hown.alloc _) ⟨wr.heap.size, 0, none⟩ 1 1 [.int .u8 z] rfl rfl (cell_one _ _ _) (by intro u hu; simp at hu; subst hu; rfl) (by unfold maxLen; omega) (by omega) (by simp; omega) ?_; intro v1 w1 hown1 hgrow1 hnil1)
        go_roundw
        case rel => exact ⟨k + 1, by omega, by go_num, FIN.out _ _ hown1, (hkept.alloc (by omega) _).grown hgrow1 (by simp; omega) (fun j hj => (hown.lt j hj).1)⟩
        case measure => simp [intOf]; omega
      · have hv : (b : Int) = z := by
          rw [← hz, HX.out k hlt, if_neg hki, hB.out]
        subst hv
        have heq : ((k : Int) == (i : Int)) = false := by simp; omega
        have HK := Lib.hid hki
        clear hki hz fin
        go_wp2_with (at_builtin; refine wpList_append_own _ rfl _ _ 56 rfl w.heap.size 5 i0 (.int .u8 0) 1 1 Try.underlying56 HI.out.1 HI.out.2.1 HI.out.2.2.1 HI.out.2.2.2 rfl (by decide) _ _ _ rfl (hown.alloc _) ⟨wr.heap.size, 0, none⟩ 1 1 [.int .u8 (b : Int)] rfl rfl (cell_one _ _ _) (by intro u hu; simp at hu; subst hu; rfl) (by unfold maxLen; omega) (by omega) (by simp; omega) ?_; intro v1 w1 hown1 hgrow1 hnil1)
        go_roundw
        case rel => exact ⟨k + 1, by omega, by go_num, FIN.out _ _ hown1, (hkept.alloc (by omega) _).grown hgrow1 (by simp; omega) (fun j hj => (hown.lt j hj).1)⟩
        case measure => simp [intOf]; omega
    · have hmk : Hid (k = m.length) := by show _ = _; rw [HM.out]; omega
      have hconv := conv_own (by rw [List.length_take, Nat.min_eq_left (by rw [HM.out]; omega)]) hown
      obtain ⟨D, hD⟩ : ∃ D : ByteArray, (⟨(m.take k).toArray⟩ : ByteArray) = D := ⟨_, rfl⟩
      rw [hD] at hconv
      have HD := Lib.hid hD
      clear hD
      go_wp2_with fail
      go_ret
      exact ⟨ret_str (by rw [← HD.out]; simp [hmk.out]), hkept⟩

end Go.Proofs.Ytglgkgpmfeamnaa.Cg
