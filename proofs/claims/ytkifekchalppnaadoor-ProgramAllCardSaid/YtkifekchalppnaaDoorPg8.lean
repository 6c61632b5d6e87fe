/- Programs: the step that a text tells. -/
import Derived.Test.YtkifekchalppnaaDoorPg7
import Derived.Test.YtkifekchalppnaaDoorAt
import Derived.Test.YtkifekchalppnaaDoorRw
namespace Go.Proofs.YtkifekchalppnaaDoor.Pg
open Go.RowKit Go.Sort Go.Shelf St Cd It At
set_option linter.unusedVariables false
set_option linter.unusedSimpArgs false

theorem neq_list {a b : ByteArray} (h : ¬ a.data.toList = b.data.toList) : (a.toList == b.toList) = false := by
  rw [ByteArray.toList_eq, ByteArray.toList_eq]; exact beq_eq_false_iff_ne.2 h
theorem same_bytes {a b : ByteArray} (h : a.data.toList = b.data.toList) : a = b := by rw [str_of a _ h, ← str_of b _ rfl]

/-- a text's part ahead of the first blank, and what is behind it -/
theorem cutb_named (s : ByteArray) : ∃ A B : ByteArray, Hid (A.data.toList = wordOf s.data.toList) ∧ Hid (B.data.toList = restOf s.data.toList) ∧ A.size ≤ s.size ∧ B.size ≤ s.size := by
  refine ⟨⟨(wordOf s.data.toList).toArray⟩, ⟨(restOf s.data.toList).toArray⟩, rfl, rfl, ?_, ?_⟩
  · rw [size_list, size_list]; exact (word_le _).1
  · rw [size_list, size_list]; exact (word_le _).2
theorem cutb_as {s A B : ByteArray} (hs : s.size ≤ 4000000000) (hA : Hid (A.data.toList = wordOf s.data.toList)) (hB : Hid (B.data.toList = restOf s.data.toList)) {w : World} (h : Env w) :
    Calls Tryd.prog 47 #[.string s, .string { data := #[32] }] w fun e w' => ∃ z, e = .returned (.tuple #[.string A, .string B, .bool z]) ∧ Kept w w' := by
  obtain ⟨m, hm⟩ := h.mx
  refine (Tryd.strings_Cut s { data := #[32] } m w (by omega) hm).mono ?_
  rintro e w' ⟨rfl, n, rfl⟩
  refine ⟨(Lib.cut s.data.toList [32]).2.2, ?_, (Kept.refl w).drewN n⟩
  rw [str_of A _ hA.out, str_of B _ hB.out]
  rfl

/-- what no numeral is read as -/
def noNum : Lib.NumEnd Int := Lib.atoiAll []
theorem number_any (s : ByteArray) (hs : s.size ≤ 281474976710656) (v : Int) (hv : Lib.atoiAll s.data.toList = .ok v ∨ (Lib.atoiAll s.data.toList = noNum ∧ v = 0)) (w : World) (h : Env w) :
    Calls Tryd.prog 50 #[.string s] w fun e w' => e = .returned (.int .i64 v) ∧ Kept w w' := by
  rcases hv with hv | ⟨hv, rfl⟩
  · have HC := Lib.hid (Tryd.strconv_Atoi_ok s (by omega) v hv w)
    clear hv
    go_enter Tryd.func50, Tryd.ntmps50
    go_wp2_with fail
    refine HC.out.mono ?_
    rintro e w' ⟨rfl, hw⟩
    have hk : Kept w w' := by
      rcases hw with rfl | ⟨t, rfl⟩
      · exact Kept.refl _
      · exact Lib.bytesWorld_below _ _ _
    clear hw
    go_wp2_with fail
    go_ret
    exact ⟨rfl, hk⟩
  · obtain ⟨t, p, hc⟩ := h.es
    have HC := Lib.hid (Tryd.strconv_Atoi_syntax s hs hv _ w hc (.inr ⟨t, p, rfl⟩))
    clear hv hc
    go_enter Tryd.func50, Tryd.ntmps50
    go_wp2_with fail
    refine HC.out.mono ?_
    rintro e w' ⟨N, rfl, _, _, hk⟩
    go_wp2_with fail
    go_ret
    exact ⟨rfl, hk⟩
/-- numbers that are one's own -/
def NumOf (l : List UInt8) (v : Int) : Prop := Lib.atoiAll l = .ok v ∨ (Lib.atoiAll l = noNum ∧ v = 0)
theorem num_itoa (n : Int) (h : Wd n) : NumOf (Lib.itoa n) n := .inl (atoi_itoa2 n h)
theorem num_nil : NumOf [] 0 := .inr ⟨rfl, rfl⟩
theorem num_step {o : Op} (h : knownB o.k = true) (hf : o.Fit) (ho : Own o) : NumOf (wordOf (restOf (stepT o))) o.a ∧ NumOf (restOf (restOf (stepT o))) o.b := by
  have hv := verb_plain 32 (.inl rfl) h
  have ha := itoa_plain 32 (.inl rfl) o.a
  unfold stepT wordOf restOf
  rcases nums_le h with e | e | e <;> rw [e]
  · show NumOf (Lib.cut (Lib.cut (verb o.k ++ []) [32]).2.1 [32]).1 _ ∧ NumOf (Lib.cut (Lib.cut (verb o.k ++ []) [32]).2.1 [32]).2.1 _
    rw [List.append_nil, (cutb_miss _ hv).2, (ho.1 e).1, (ho.1 e).2]
    exact ⟨num_nil, num_nil⟩
  · show NumOf (Lib.cut (Lib.cut (verb o.k ++ 32 :: Lib.itoa o.a) [32]).2.1 [32]).1 _ ∧ NumOf (Lib.cut (Lib.cut (verb o.k ++ 32 :: Lib.itoa o.a) [32]).2.1 [32]).2.1 _
    rw [(cutb_hit _ _ hv).2, (cutb_miss _ ha).1, (cutb_miss _ ha).2, ho.2 e]
    exact ⟨num_itoa _ hf.2.1, num_nil⟩
  · show NumOf (Lib.cut (Lib.cut (verb o.k ++ 32 :: (Lib.itoa o.a ++ 32 :: Lib.itoa o.b)) [32]).2.1 [32]).1 _ ∧ NumOf (Lib.cut (Lib.cut (verb o.k ++ 32 :: (Lib.itoa o.a ++ 32 :: Lib.itoa o.b)) [32]).2.1 [32]).2.1 _
    rw [(cutb_hit _ _ hv).2, (cutb_hit _ _ ha).1, (cutb_hit _ _ ha).2]
    exact ⟨num_itoa _ hf.2.1, num_itoa _ hf.2.2⟩
theorem number_as {s : ByteArray} (hs : s.size ≤ 281474976710656) {v : Int} (hv : Hid (NumOf s.data.toList v)) {w : World} (h : Env w) :
    Calls Tryd.prog 50 #[.string s] w fun e w' => e = .returned (.int .i64 v) ∧ Kept w w' := number_any s hs v hv.out w h

/-! ### which word -/
theorem verb_ne : ∀ i j : Fin 8, i ≠ j → verb ((i.val : Nat) : Int) ≠ verb ((j.val : Nat) : Int) := by decide +kernel
theorem shape_cells : ∀ i : Fin 8, shapeRow[i.val * 2]? = some (.string (verbB ((i.val : Nat) : Int))) ∧ shapeRow[i.val * 2 + 1]? = some (.int .i64 ((nums ((i.val : Nat) : Int) : Nat) : Int)) := fun i => by
  match i with
  | ⟨0, _⟩ => exact ⟨rfl, rfl⟩
  | ⟨1, _⟩ => exact ⟨rfl, rfl⟩
  | ⟨2, _⟩ => exact ⟨rfl, rfl⟩
  | ⟨3, _⟩ => exact ⟨rfl, rfl⟩
  | ⟨4, _⟩ => exact ⟨rfl, rfl⟩
  | ⟨5, _⟩ => exact ⟨rfl, rfl⟩
  | ⟨6, _⟩ => exact ⟨rfl, rfl⟩
  | ⟨7, _⟩ => exact ⟨rfl, rfl⟩
  | ⟨n + 8, h⟩ => exact absurd h (by omega)
theorem find1_yes {w : World} {B : Nat} (x : ByteArray) (m : Int) (hB : w.cell? ⟨B, 0, none⟩ = some (.string x)) :
    Calls Tryd.prog 49 #[.agg #[.string x, .int .i64 m], .pointer (some ⟨B, 0, none⟩)] w fun e w' => e = .returned (.bool true) ∧ Kept w w' := by
  have hB2 := (Below.cell (Kept.one w (.cells #[.string x, .int .i64 m] 72)) (p := ⟨B, 0, none⟩) (World.block_lt_of_cell? w _ hB)).trans hB
  go_enter Tryd.func49, Tryd.ntmps49
  go_wp2_with fail
  go_ret
  exact ⟨rfl, Kept.one _ _⟩
theorem find1_no {w : World} {B : Nat} (x y : ByteArray) (m : Int) (hB : w.cell? ⟨B, 0, none⟩ = some (.string y)) (hne : ¬ x.data.toList = y.data.toList) :
    Calls Tryd.prog 49 #[.agg #[.string x, .int .i64 m], .pointer (some ⟨B, 0, none⟩)] w fun e w' => e = .returned (.bool false) ∧ Kept w w' := by
  have hB2 := (Below.cell (Kept.one w (.cells #[.string x, .int .i64 m] 72)) (p := ⟨B, 0, none⟩) (World.block_lt_of_cell? w _ hB)).trans hB
  have hn := neq_list hne
  clear hne
  go_enter Tryd.func49, Tryd.ntmps49
  go_wp2_with fail
  go_ret
  exact ⟨rfl, Kept.one _ _⟩

set_option maxHeartbeats 1000000 in
theorem index_shapes {w : World} {G B : Nat} {k : Int} (hk : knownB k = true) {y : ByteArray} (hy : Hid (y.data.toList = verb k)) (hG : w.heap[G]? = some (.cells shapeRow 73 (0, 0))) (hB : w.heap[B]? = some (.cells #[.string y] 9 (0, 0))) :
    Calls Tryd.prog 48 #[.slice (some ⟨G, 0, none⟩) 8 8, .func (.func 49) #[] #[.pointer (some ⟨B, 0, none⟩)]] w fun e w' => e = .returned (.int .i64 k) ∧ Kept w w' := by
  obtain ⟨n, rfl⟩ : ∃ n : Nat, k = n := ⟨k.toNat, by have := known_cases hk; omega⟩
  have hn1 : n ≤ 7 := by have := known_cases hk; omega
  have HG := Lib.hid hG
  have HB := Lib.hid hB
  clear hk hG hB
  go_enter Tryd.func48, Tryd.ntmps48
  go_wp2_with fail
  go_loopw [8] (fun x wr => ∃ i : Nat, i ≤ n ∧ x = .int .i64 (i : Int) ∧ Kept w wr) (fun x _ => 8 - (intOf x).toNat)
  case atStart => exact ⟨0, Nat.zero_le _, rfl, Kept.refl _⟩
  case round =>
    obtain ⟨i, hi, rfl, hk⟩ := hrel
    have hGr := kept_at hk HG.out
    have hBr := kept_at hk HB.out
    obtain ⟨s0, s1⟩ := shape_cells ⟨i, by omega⟩
    have g0 : wr.cell? ⟨G, i * 2, none⟩ = some (.string (verbB (i : Int))) := by rw [blk_cell hGr]; exact s0
    have g1 : wr.cell? ⟨G, i * 2 + 1, none⟩ = some (.int .i64 ((nums (i : Int) : Nat) : Int)) := by rw [blk_cell hGr]; exact s1
    have hw : wr.cell? ⟨B, 0, none⟩ = some (.string y) := by rw [blk_cell hBr]; rfl
    obtain ⟨x, hx⟩ : ∃ x, verbB (i : Int) = x := ⟨_, rfl⟩
    obtain ⟨m, hm⟩ : ∃ m : Nat, nums (i : Int) = m := ⟨_, rfl⟩
    rw [hx] at g0
    rw [hm] at g1
    have hxl : x.data.toList = verb (i : Int) := by rw [← hx]; rfl
    have h8 : (i : Int) < 8 := by omega
    by_cases hlt : i < n
    · have hne : ¬ x.data.toList = y.data.toList := by
        rw [hxl, hy.out]
        exact verb_ne ⟨i, by omega⟩ ⟨n, by omega⟩ (fun e => by have := congrArg Fin.val e; simp at this; omega)
      have HC := Lib.hid (find1_no x y (m : Int) hw hne)
      clear hGr hBr s0 s1 hw hx hm hxl hne
      go_wp2_with fail
      refine HC.out.mono ?_
      rintro e w' ⟨rfl, hk2⟩
      go_wp2_with fail
      go_roundw
      case rel => exact ⟨i + 1, hlt, by go_num, hk.trans hk2⟩
      case measure => simp [intOf]; omega
    · obtain rfl : i = n := by omega
      obtain rfl : x = y := same_bytes (by rw [hxl, hy.out])
      have HC := Lib.hid (find1_yes x (m : Int) hw)
      clear hGr hBr s0 s1 hw hx hm hxl
      go_wp2_with fail
      refine HC.out.mono ?_
      rintro e w' ⟨rfl, hk2⟩
      go_wp2_with fail
      go_ret
      exact ⟨rfl, hk.trans hk2⟩

end Go.Proofs.YtkifekchalppnaaDoor.Pg
