/- Programs: a program as text. Programs: the step that a text tells. -/
import Derived.Test.YtcoagmkncjonmaaGreatDoorPg6
import Derived.Test.YtcoagmkncjonmaaGreatDoorSbA
import Derived.Test.YtcoagmkncjonmaaGreatDoorAt
import Derived.Test.YtcoagmkncjonmaaGreatDoorBlk
namespace Go.Proofs.YtcoagmkncjonmaaGreatDoor.Pg
open Go.RowKit Go.Sort Go.Shelf St Cd It
set_option linter.unusedVariables false
set_option linter.unusedSimpArgs false

/-- what is still to be told -/
def restT (L : List Op) (i : Nat) : List UInt8 := if i = 0 then joinT L else tailT (L.drop i)
theorem drop_at {L : List Op} {i : Nat} {o : Op} (ho : L[i]? = some o) : L.drop i = o :: L.drop (i + 1) := by
  obtain ⟨h, e⟩ := List.getElem?_eq_some_iff.1 ho
  rw [List.drop_eq_getElem_cons h, e]
theorem rest_step {L : List Op} {i : Nat} {o : Op} (ho : L[i]? = some o) : restT L i = sepT i ++ (stepT o ++ restT L (i + 1)) := by
  have e := drop_at ho
  unfold restT sepT
  by_cases hi : i = 0
  · subst hi
    rw [if_pos rfl, if_pos rfl, if_neg (by omega)]
    rw [List.drop_zero] at e
    conv => lhs; rw [e]
    rfl
  · rw [if_neg hi, if_neg hi, if_neg (by omega), e]
    rfl
theorem rest_end {L : List Op} {N : Nat} (h : L.length = N) (h0 : 0 < N) : restT L N = [] := by
  unfold restT; rw [if_neg (by omega), List.drop_of_length_le (by omega)]; rfl
theorem rest_end2 {L : List Op} {N : Nat} (h : L.length = N) : restT L N = [] := by
  by_cases h0 : 0 < N
  · exact rest_end h h0
  · have : L = [] := List.length_eq_zero_iff.1 (by omega)
    subst this
    have : N = 0 := by simpa using h.symm
    subst this; rfl
theorem step_named {o : Op} : ∃ E : ByteArray, Hid (E.data.toList = stepT o) := ⟨⟨(stepT o).toArray⟩, rfl⟩

set_option maxHeartbeats 2000000 in
theorem text_any {w : World} {v : Value} {L : List Op} (hv : Ops w v L) (hl : L.length ≤ 1000) (hf : ∀ o ∈ L, o.Fit) (E : ByteArray) (hE : Hid (E.data.toList = textT L)) (ht : Tab w) :
    Calls Tryz.prog 19 #[v] w fun e w' => e = .returned (.string E) ∧ Kept w w' := by
  have HC := Lib.hid (contains_ops hv (fun o => !knownB o.k) 33 #[] (enters_of Tryz.func33 (by kernel_rfl) rfl) (fun u o _ _ => text1_any o u))
  rw [any_not] at HC
  obtain ⟨z, hz⟩ : ∃ z, (L.all fun o => knownB o.k) = z := ⟨_, rfl⟩
  rw [hz] at HC
  obtain ⟨q, N, cap, rfl, hN, hm⟩ := hv.slice
  have HV := Lib.hid hv
  have HN := Lib.hid hN
  have HF := Lib.hid hf
  have HT := Lib.hid ht
  have hm2 : N ≤ 1000 := by rw [← hN]; exact hl
  have HZ := Lib.hid hz
  clear hv hN hm hl hf ht hz
  cases z
  · have HE := Lib.hid (hE.out.trans (show textT L = [] by unfold textT allK; rw [HZ.out]; rfl))
    go_enter Tryz.func19, Tryz.ntmps19
    go_wp2_with (go_at_call 30; refine HC.out.mono ?_; rintro e w' ⟨rfl, hk⟩)
    go_ret
    exact ⟨ret_str HE.out.symm, hk⟩
  · have hJ : textT L = joinT L := by unfold textT allK; rw [HZ.out]; rfl
    have HL := Lib.hid (join_len (l := L) HZ.out HF.out)
    obtain ⟨total, hT⟩ : ∃ t, joinT L = t := ⟨_, rfl⟩
    have HE := Lib.hid (hE.out.trans (hJ.trans hT))
    have hlen : total.length ≤ 1099511627776 := by have h1 := HL.out; rw [hT, HN.out] at h1; omega
    have HJ := Lib.hid hT
    have HLN := Lib.hid hlen
    clear hJ hT hlen
    go_enter Tryz.func19, Tryz.ntmps19
    go_wp2_with (go_at_call 30; refine HC.out.mono ?_; rintro e w1 ⟨rfl, hk1⟩)
    have HK1 := Lib.hid hk1
    clear hk1
    go_loopw [10] (fun x wr => ∃ i : Nat, i ≤ N ∧ x = .int .i64 (i : Int) ∧ Sb.At w1 total (joinT (L.take i)) (restT L i) wr) (fun x _ => N - (intOf x).toNat)
    case atStart => exact ⟨0, Nat.zero_le _, rfl, by rw [show restT L 0 = total from HJ.out]; exact Sb.At.new w1 total⟩
    case round =>
      obtain ⟨i, hi, rfl, hA⟩ := hrel
      by_cases hlt : i < N
      · have hk := HK1.out.trans hA.kept
        obtain ⟨o, b, off, ho, rfl, c0, c1, c2⟩ := (HV.out.go hk).pick (i := i) (by rw [HN.out]; exact hlt)
        have hkn : knownB o.k = true := List.all_eq_true.1 HZ.out o (List.mem_of_getElem? ho)
        have hfo := HF.out o (List.mem_of_getElem? ho)
        obtain ⟨S, hS⟩ := step_named (o := o)
        have HS := Lib.hid (step_any o hkn hfo S hS)
        have HT2 := Lib.hid (HT.out.kept hk)
        have HR := Lib.hid (rest_step ho)
        have HJ2 := Lib.hid (join_take ho)
        clear ho hkn hfo hk
        obtain ⟨k, a, b2⟩ := o
        simp only [Op.arr] at HS c0 c1 c2
        have kA := Kept.one wr (.cells #[.int .i64 k, .int .i64 a, .int .i64 b2] 67)
        have hA2 := hA.go kA
        have hBx := blk_new wr (.cells #[.int .i64 k, .int .i64 a, .int .i64 b2] 67)
        by_cases hz : i = 0
        · have hp : ¬ 0 < (i : Int) := by omega
          have hA3 : Sb.At w1 total (joinT (L.take i)) (stepT ⟨k, a, b2⟩ ++ restT L (i + 1)) (wr.alloc (.cells #[.int .i64 k, .int .i64 a, .int .i64 b2] 67)) := by
            rw [HR.out, hz] at hA2; rw [hz]; exact hA2
          have HX := Lib.hid (show joinT (L.take (i + 1)) = joinT (L.take i) ++ stepT ⟨k, a, b2⟩ by rw [HJ2.out, hz]; rfl)
          clear hA hA2 hz hBx
          have HTA := Lib.hid (HT2.out.kept kA)
          go_wp2_with (first
          | (go_at_call 35; refine (HS.out _ HTA.out).mono ?_; rintro e w' ⟨rfl, hk2⟩; have hA4 := hA3.go hk2; clear hA3 hk2)
          | (go_at_call 22; refine (Sb.write_E HLN.out S hS hA4).mono ?_; rintro e w' ⟨rfl, hA5⟩))
          go_roundw
          case rel => exact ⟨i + 1, hlt, by go_num, by rw [HX.out]; exact hA5⟩
          case measure => simp [intOf]; omega
        · have hp : 0 < (i : Int) := by omega
          have hA3 : Sb.At w1 total (joinT (L.take i)) ([59, 32] ++ (stepT ⟨k, a, b2⟩ ++ restT L (i + 1))) wr := by
            rw [HR.out] at hA
            unfold sepT at hA
            rw [if_neg hz] at hA; exact hA
          have HX := Lib.hid (show joinT (L.take (i + 1)) = (joinT (L.take i) ++ [59, 32]) ++ stepT ⟨k, a, b2⟩ by rw [HJ2.out]; unfold sepT; rw [if_neg hz, List.append_assoc])
          clear hA hA2 hz
          clear hBx
          have HSP : Hid ((⟨#[59, 32]⟩ : ByteArray).data.toList = [59, 32]) := by show _ = _; rfl
          go_wp2_with (first
          | (go_at_call 22; first
            | ((with_reducible refine (Sb.write_past HLN.out ⟨#[59, 32]⟩ HSP hA3 _).mono ?_); rintro e w2 ⟨rfl, hA4, hbx⟩; have hHT := HT2.out; have d0 := blk_cell hbx 0; have d1 := blk_cell hbx 1; have d2 := blk_cell hbx 2)
            | ((with_reducible refine (Sb.write_E HLN.out S hS (by assumption)).mono ?_); rintro e w' ⟨rfl, hA5⟩))
          | (go_at_call 35; refine (HS.out _ (HT.out.kept (HK1.out.trans (Sb.At.kept (by assumption))))).mono ?_; rintro e w' ⟨rfl, hk2⟩; have hA6 := Sb.At.go (by assumption) hk2))
          go_roundw
          case rel => exact ⟨i + 1, hlt, by go_num, by rw [HX.out]; assumption⟩
          case measure => simp [intOf]; omega
      · obtain rfl : i = N := by omega
        have hA2 : Sb.At w1 total (joinT (L.take i)) [] wr := by have h := hA; rw [rest_end2 HN.out] at h; exact h
        clear hA
        go_wp2_with (go_at_call 24; refine (Sb.string_as HE hA2).mono ?_; rintro e w' ⟨rfl, hk2⟩)
        go_ret
        exact ⟨rfl, HK1.out.trans hk2⟩

end Go.Proofs.YtcoagmkncjonmaaGreatDoor.Pg

namespace Go.Proofs.YtcoagmkncjonmaaGreatDoor.Pg
open Go.RowKit Go.Sort Go.Shelf St Cd It At
set_option linter.unusedVariables false
set_option linter.unusedSimpArgs false

theorem neq_list {a b : ByteArray} (h : ¬ a.data.toList = b.data.toList) : (a.toList == b.toList) = false := by
  rw [ByteArray.toList_eq, ByteArray.toList_eq]; exact beq_eq_false_iff_ne.2 h
theorem same_bytes {a b : ByteArray} (h : a.data.toList = b.data.toList) : a = b := by rw [str_of a _ h, ← str_of b _ rfl]

/-- a text's part ahead of the first blank, and what is behind it -/
theorem cutb_named (s : ByteArray) : ∃ A B : ByteArray, Hid (A.data.toList = wordOf s.data.toList) ∧ Hid (B.data.toList = restOf s.data.toList) ∧ A.size ≤ s.size ∧ B.size ≤ s.size := by
  refine ⟨⟨(wordOf s.data.toList).toArray⟩, ⟨(restOf s.data.toList).toArray⟩, rfl, rfl, ?_, ?_⟩
  · rw [size_list, size_list]; exact (word_le _).1
  · rw [size_list, size_list]; exact (word_le _).2
theorem cutb_as {s A B : ByteArray} (hs : s.size ≤ 4000000000) (hA : Hid (A.data.toList = wordOf s.data.toList)) (hB : Hid (B.data.toList = restOf s.data.toList)) {w : World} (h : Env w) :
    Calls Tryz.prog 53 #[.string s, .string { data := #[32] }] w fun e w' => ∃ z, e = .returned (.tuple #[.string A, .string B, .bool z]) ∧ Kept w w' := by
  obtain ⟨m, hm⟩ := h.mx
  refine (Tryz.strings_Cut s { data := #[32] } m w (by omega) hm).mono ?_
  rintro e w' ⟨rfl, n, rfl⟩
  refine ⟨(Lib.cut s.data.toList [32]).2.2, ?_, (Kept.refl w).drewN n⟩
  rw [str_of A _ hA.out, str_of B _ hB.out]
  rfl

/-- what no numeral is read as -/
def noNum : Lib.NumEnd Int := Lib.atoiAll []
theorem number_any (s : ByteArray) (hs : s.size ≤ 281474976710656) (v : Int) (hv : Lib.atoiAll s.data.toList = .ok v ∨ (Lib.atoiAll s.data.toList = noNum ∧ v = 0)) (w : World) (h : Env w) :
    Calls Tryz.prog 91 #[.string s] w fun e w' => e = .returned (.int .i64 v) ∧ Kept w w' := by
  rcases hv with hv | ⟨hv, rfl⟩
  · have HC := Lib.hid (Tryz.strconv_Atoi_ok s (by omega) v hv w)
    clear hv
    go_enter Tryz.func91, Tryz.ntmps91
    go_wp2_with fail
    refine HC.out.mono ?_
    rintro e w' ⟨rfl, hw⟩
    have hk : Kept w w' := by
      rcases hw with rfl | ⟨t, rfl⟩
      · exact Kept.refl _
      · exact Lib.bytesWorld_below _ _ _
    clear hw
    go_wp2_with fail
    go_ret
    exact ⟨rfl, hk⟩
  · obtain ⟨t, p, hc⟩ := h.es
    have HC := Lib.hid (Tryz.strconv_Atoi_syntax s hs hv _ w hc (.inr ⟨t, p, rfl⟩))
    clear hv hc
    go_enter Tryz.func91, Tryz.ntmps91
    go_wp2_with fail
    refine HC.out.mono ?_
    rintro e w' ⟨N, rfl, _, _, hk⟩
    go_wp2_with fail
    go_ret
    exact ⟨rfl, hk⟩
/-- numbers that are one's own -/
def NumOf (l : List UInt8) (v : Int) : Prop := Lib.atoiAll l = .ok v ∨ (Lib.atoiAll l = noNum ∧ v = 0)
theorem num_itoa (n : Int) (h : Wd n) : NumOf (Lib.itoa n) n := .inl (atoi_itoa2 n h)
theorem num_nil : NumOf [] 0 := .inr ⟨rfl, rfl⟩
theorem num_step {o : Op} (h : knownB o.k = true) (hf : o.Fit) (ho : Own o) : NumOf (wordOf (restOf (stepT o))) o.a ∧ NumOf (restOf (restOf (stepT o))) o.b := by
  have hv := verb_plain 32 (.inl rfl) h
  have ha := itoa_plain 32 (.inl rfl) o.a
  unfold stepT wordOf restOf
  rcases nums_le h with e | e | e <;> rw [e]
  · show NumOf (Lib.cut (Lib.cut (verb o.k ++ []) [32]).2.1 [32]).1 _ ∧ NumOf (Lib.cut (Lib.cut (verb o.k ++ []) [32]).2.1 [32]).2.1 _
    rw [List.append_nil, (cutb_miss _ hv).2, (ho.1 e).1, (ho.1 e).2]
    exact ⟨num_nil, num_nil⟩
  · show NumOf (Lib.cut (Lib.cut (verb o.k ++ 32 :: Lib.itoa o.a) [32]).2.1 [32]).1 _ ∧ NumOf (Lib.cut (Lib.cut (verb o.k ++ 32 :: Lib.itoa o.a) [32]).2.1 [32]).2.1 _
    rw [(cutb_hit _ _ hv).2, (cutb_miss _ ha).1, (cutb_miss _ ha).2, ho.2 e]
    exact ⟨num_itoa _ hf.2.1, num_nil⟩
  · show NumOf (Lib.cut (Lib.cut (verb o.k ++ 32 :: (Lib.itoa o.a ++ 32 :: Lib.itoa o.b)) [32]).2.1 [32]).1 _ ∧ NumOf (Lib.cut (Lib.cut (verb o.k ++ 32 :: (Lib.itoa o.a ++ 32 :: Lib.itoa o.b)) [32]).2.1 [32]).2.1 _
    rw [(cutb_hit _ _ hv).2, (cutb_hit _ _ ha).1, (cutb_hit _ _ ha).2]
    exact ⟨num_itoa _ hf.2.1, num_itoa _ hf.2.2⟩
theorem number_as {s : ByteArray} (hs : s.size ≤ 281474976710656) {v : Int} (hv : Hid (NumOf s.data.toList v)) {w : World} (h : Env w) :
    Calls Tryz.prog 91 #[.string s] w fun e w' => e = .returned (.int .i64 v) ∧ Kept w w' := number_any s hs v hv.out w h

/-! ### which word -/
theorem verb_ne : ∀ i j : Fin 8, i ≠ j → verb ((i.val : Nat) : Int) ≠ verb ((j.val : Nat) : Int) := by decide +kernel
theorem shape_cells : ∀ i : Fin 8, shapeRow[i.val * 2]? = some (.string (verbB ((i.val : Nat) : Int))) ∧ shapeRow[i.val * 2 + 1]? = some (.int .i64 ((nums ((i.val : Nat) : Int) : Nat) : Int)) := fun i => by
  match i with
  | ⟨0, _⟩ => exact ⟨rfl, rfl⟩
  | ⟨1, _⟩ => exact ⟨rfl, rfl⟩
  | ⟨2, _⟩ => exact ⟨rfl, rfl⟩
  | ⟨3, _⟩ => exact ⟨rfl, rfl⟩
  | ⟨4, _⟩ => exact ⟨rfl, rfl⟩
  | ⟨5, _⟩ => exact ⟨rfl, rfl⟩
  | ⟨6, _⟩ => exact ⟨rfl, rfl⟩
  | ⟨7, _⟩ => exact ⟨rfl, rfl⟩
  | ⟨n + 8, h⟩ => exact absurd h (by omega)
theorem find1_yes {w : World} {B : Nat} (x : ByteArray) (m : Int) (hB : w.cell? ⟨B, 0, none⟩ = some (.string x)) :
    Calls Tryz.prog 90 #[.agg #[.string x, .int .i64 m], .pointer (some ⟨B, 0, none⟩)] w fun e w' => e = .returned (.bool true) ∧ Kept w w' := by
  have hB2 := (Below.cell (Kept.one w (.cells #[.string x, .int .i64 m] 85)) (p := ⟨B, 0, none⟩) (World.block_lt_of_cell? w _ hB)).trans hB
  go_enter Tryz.func90, Tryz.ntmps90
  go_wp2_with fail
  go_ret
  exact ⟨rfl, Kept.one _ _⟩
theorem find1_no {w : World} {B : Nat} (x y : ByteArray) (m : Int) (hB : w.cell? ⟨B, 0, none⟩ = some (.string y)) (hne : ¬ x.data.toList = y.data.toList) :
    Calls Tryz.prog 90 #[.agg #[.string x, .int .i64 m], .pointer (some ⟨B, 0, none⟩)] w fun e w' => e = .returned (.bool false) ∧ Kept w w' := by
  have hB2 := (Below.cell (Kept.one w (.cells #[.string x, .int .i64 m] 85)) (p := ⟨B, 0, none⟩) (World.block_lt_of_cell? w _ hB)).trans hB
  have hn := neq_list hne
  clear hne
  go_enter Tryz.func90, Tryz.ntmps90
  go_wp2_with fail
  go_ret
  exact ⟨rfl, Kept.one _ _⟩

set_option maxHeartbeats 1000000 in
theorem index_shapes {w : World} {G B : Nat} {k : Int} (hk : knownB k = true) {y : ByteArray} (hy : Hid (y.data.toList = verb k)) (hG : w.heap[G]? = some (.cells shapeRow 86 (0, 0))) (hB : w.heap[B]? = some (.cells #[.string y] 9 (0, 0))) :
    Calls Tryz.prog 89 #[.slice (some ⟨G, 0, none⟩) 8 8, .func (.func 90) #[] #[.pointer (some ⟨B, 0, none⟩)]] w fun e w' => e = .returned (.int .i64 k) ∧ Kept w w' := by
  obtain ⟨n, rfl⟩ : ∃ n : Nat, k = n := ⟨k.toNat, by have := known_cases hk; omega⟩
  have hn1 : n ≤ 7 := by have := known_cases hk; omega
  have HG := Lib.hid hG
  have HB := Lib.hid hB
  clear hk hG hB
  go_enter Tryz.func89, Tryz.ntmps89
  go_wp2_with fail
  go_loopw [8] (fun x wr => ∃ i : Nat, i ≤ n ∧ x = .int .i64 (i : Int) ∧ Kept w wr) (fun x _ => 8 - (intOf x).toNat)
  case atStart => exact ⟨0, Nat.zero_le _, rfl, Kept.refl _⟩
  case round =>
    obtain ⟨i, hi, rfl, hk⟩ := hrel
    have hGr := kept_at hk HG.out
    have hBr := kept_at hk HB.out
    obtain ⟨s0, s1⟩ := shape_cells ⟨i, by omega⟩
    have g0 : wr.cell? ⟨G, i * 2, none⟩ = some (.string (verbB (i : Int))) := by rw [blk_cell hGr]; exact s0
    have g1 : wr.cell? ⟨G, i * 2 + 1, none⟩ = some (.int .i64 ((nums (i : Int) : Nat) : Int)) := by rw [blk_cell hGr]; exact s1
    have hw : wr.cell? ⟨B, 0, none⟩ = some (.string y) := by rw [blk_cell hBr]; rfl
    obtain ⟨x, hx⟩ : ∃ x, verbB (i : Int) = x := ⟨_, rfl⟩
    obtain ⟨m, hm⟩ : ∃ m : Nat, nums (i : Int) = m := ⟨_, rfl⟩
    rw [hx] at g0
    rw [hm] at g1
    have hxl : x.data.toList = verb (i : Int) := by rw [← hx]; rfl
    have h8 : (i : Int) < 8 := by omega
    by_cases hlt : i < n
    · have hne : ¬ x.data.toList = y.data.toList := by
        rw [hxl, hy.out]
        exact verb_ne ⟨i, by omega⟩ ⟨n, by omega⟩ (fun e => by have := congrArg Fin.val e; simp at this; omega)
      have HC := Lib.hid (find1_no x y (m : Int) hw hne)
      clear hGr hBr s0 s1 hw hx hm hxl hne
      go_wp2_with fail
      refine HC.out.mono ?_
      rintro e w' ⟨rfl, hk2⟩
      go_wp2_with fail
      go_roundw
      case rel => exact ⟨i + 1, hlt, by go_num, hk.trans hk2⟩
      case measure => simp [intOf]; omega
    · obtain rfl : i = n := by omega
      obtain rfl : x = y := same_bytes (by rw [hxl, hy.out])
      have HC := Lib.hid (find1_yes x (m : Int) hw)
      clear hGr hBr s0 s1 hw hx hm hxl
      go_wp2_with fail
      refine HC.out.mono ?_
      rintro e w' ⟨rfl, hk2⟩
      go_wp2_with fail
      go_ret
      exact ⟨rfl, hk.trans hk2⟩

end Go.Proofs.YtcoagmkncjonmaaGreatDoor.Pg
