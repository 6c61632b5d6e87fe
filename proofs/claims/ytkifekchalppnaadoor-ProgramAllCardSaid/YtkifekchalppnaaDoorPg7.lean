/- Programs: a program as text. -/
import Derived.Test.YtkifekchalppnaaDoorPg6
import Derived.Test.YtkifekchalppnaaDoorSbA
namespace Go.Proofs.YtkifekchalppnaaDoor.Pg
open Go.RowKit Go.Sort Go.Shelf St Cd It
set_option linter.unusedVariables false
set_option linter.unusedSimpArgs false

/-- what is still to be told -/
def restT (L : List Op) (i : Nat) : List UInt8 := if i = 0 then joinT L else tailT (L.drop i)
theorem drop_at {L : List Op} {i : Nat} {o : Op} (ho : L[i]? = some o) : L.drop i = o :: L.drop (i + 1) := by
  obtain ⟨h, e⟩ := List.getElem?_eq_some_iff.1 ho
  rw [List.drop_eq_getElem_cons h, e]
theorem rest_step {L : List Op} {i : Nat} {o : Op} (ho : L[i]? = some o) : restT L i = sepT i ++ (stepT o ++ restT L (i + 1)) := by
  have e := drop_at ho
  unfold restT sepT
  by_cases hi : i = 0
  · subst hi
    rw [if_pos rfl, if_pos rfl, if_neg (by omega)]
    rw [List.drop_zero] at e
    conv => lhs; rw [e]
    rfl
  · rw [if_neg hi, if_neg hi, if_neg (by omega), e]
    rfl
theorem rest_end {L : List Op} {N : Nat} (h : L.length = N) (h0 : 0 < N) : restT L N = [] := by
  unfold restT; rw [if_neg (by omega), List.drop_of_length_le (by omega)]; rfl
theorem rest_end2 {L : List Op} {N : Nat} (h : L.length = N) : restT L N = [] := by
  by_cases h0 : 0 < N
  · exact rest_end h h0
  · have : L = [] := List.length_eq_zero_iff.1 (by omega)
    subst this
    have : N = 0 := by simpa using h.symm
    subst this; rfl
theorem step_named {o : Op} : ∃ E : ByteArray, Hid (E.data.toList = stepT o) := ⟨⟨(stepT o).toArray⟩, rfl⟩

set_option maxHeartbeats 2000000 in
theorem text_any {w : World} {v : Value} {L : List Op} (hv : Ops w v L) (hl : L.length ≤ 1000) (hf : ∀ o ∈ L, o.Fit) (E : ByteArray) (hE : Hid (E.data.toList = textT L)) (ht : Tab w) :
    Calls Tryd.prog 15 #[v] w fun e w' => e = .returned (.string E) ∧ Kept w w' := by
  have HC := Lib.hid (contains_ops hv (fun o => !knownB o.k) 27 #[] (enters_of Tryd.func27 (by kernel_rfl) rfl) (fun u o _ _ => text1_any o u))
  rw [any_not] at HC
  obtain ⟨z, hz⟩ : ∃ z, (L.all fun o => knownB o.k) = z := ⟨_, rfl⟩
  rw [hz] at HC
  obtain ⟨q, N, cap, rfl, hN, hm⟩ := hv.slice
  have HV := Lib.hid hv
  have HN := Lib.hid hN
  have HF := Lib.hid hf
  have HT := Lib.hid ht
  have hm2 : N ≤ 1000 := by rw [← hN]; exact hl
  have HZ := Lib.hid hz
  clear hv hN hm hl hf ht hz
  cases z
  · have HE := Lib.hid (hE.out.trans (show textT L = [] by unfold textT allK; rw [HZ.out]; rfl))
    go_enter Tryd.func15, Tryd.ntmps15
    go_wp2_with (go_at_call 25; refine HC.out.mono ?_; rintro e w' ⟨rfl, hk⟩)
    go_ret
    exact ⟨ret_str HE.out.symm, hk⟩
  · have hJ : textT L = joinT L := by unfold textT allK; rw [HZ.out]; rfl
    have HL := Lib.hid (join_len (l := L) HZ.out HF.out)
    obtain ⟨total, hT⟩ : ∃ t, joinT L = t := ⟨_, rfl⟩
    have HE := Lib.hid (hE.out.trans (hJ.trans hT))
    have hlen : total.length ≤ 1099511627776 := by have h1 := HL.out; rw [hT, HN.out] at h1; omega
    have HJ := Lib.hid hT
    have HLN := Lib.hid hlen
    clear hJ hT hlen
    go_enter Tryd.func15, Tryd.ntmps15
    go_wp2_with (go_at_call 25; refine HC.out.mono ?_; rintro e w1 ⟨rfl, hk1⟩)
    have HK1 := Lib.hid hk1
    clear hk1
    go_loopw [10] (fun x wr => ∃ i : Nat, i ≤ N ∧ x = .int .i64 (i : Int) ∧ Sb.At w1 total (joinT (L.take i)) (restT L i) wr) (fun x _ => N - (intOf x).toNat)
    case atStart => exact ⟨0, Nat.zero_le _, rfl, by rw [show restT L 0 = total from HJ.out]; exact Sb.At.new w1 total⟩
    case round =>
      obtain ⟨i, hi, rfl, hA⟩ := hrel
      by_cases hlt : i < N
      · have hk := HK1.out.trans hA.kept
        obtain ⟨o, b, off, ho, rfl, c0, c1, c2⟩ := (HV.out.go hk).pick (i := i) (by rw [HN.out]; exact hlt)
        have hkn : knownB o.k = true := List.all_eq_true.1 HZ.out o (List.mem_of_getElem? ho)
        have hfo := HF.out o (List.mem_of_getElem? ho)
        obtain ⟨S, hS⟩ := step_named (o := o)
        have HS := Lib.hid (step_any o hkn hfo S hS)
        have HT2 := Lib.hid (HT.out.kept hk)
        have HR := Lib.hid (rest_step ho)
        have HJ2 := Lib.hid (join_take ho)
        clear ho hkn hfo hk
        obtain ⟨k, a, b2⟩ := o
        simp only [Op.arr] at HS c0 c1 c2
        have kA := Kept.one wr (.cells #[.int .i64 k, .int .i64 a, .int .i64 b2] 26)
        have hA2 := hA.go kA
        have hBx := blk_new wr (.cells #[.int .i64 k, .int .i64 a, .int .i64 b2] 26)
        by_cases hz : i = 0
        · have hp : ¬ 0 < (i : Int) := by omega
          have hA3 : Sb.At w1 total (joinT (L.take i)) (stepT ⟨k, a, b2⟩ ++ restT L (i + 1)) (wr.alloc (.cells #[.int .i64 k, .int .i64 a, .int .i64 b2] 26)) := by
            rw [HR.out, hz] at hA2; rw [hz]; exact hA2
          have HX := Lib.hid (show joinT (L.take (i + 1)) = joinT (L.take i) ++ stepT ⟨k, a, b2⟩ by rw [HJ2.out, hz]; rfl)
          clear hA hA2 hz hBx
          have HTA := Lib.hid (HT2.out.kept kA)
          go_wp2_with (first
          | (go_at_call 30; refine (HS.out _ HTA.out).mono ?_; rintro e w' ⟨rfl, hk2⟩; have hA4 := hA3.go hk2; clear hA3 hk2)
          | (go_at_call 29; refine (Sb.write_E HLN.out S hS hA4).mono ?_; rintro e w' ⟨rfl, hA5⟩))
          go_roundw
          case rel => exact ⟨i + 1, hlt, by go_num, by rw [HX.out]; exact hA5⟩
          case measure => simp [intOf]; omega
        · have hp : 0 < (i : Int) := by omega
          have hA3 : Sb.At w1 total (joinT (L.take i)) ([59, 32] ++ (stepT ⟨k, a, b2⟩ ++ restT L (i + 1))) wr := by
            rw [HR.out] at hA
            unfold sepT at hA
            rw [if_neg hz] at hA; exact hA
          have HX := Lib.hid (show joinT (L.take (i + 1)) = (joinT (L.take i) ++ [59, 32]) ++ stepT ⟨k, a, b2⟩ by rw [HJ2.out]; unfold sepT; rw [if_neg hz, List.append_assoc])
          clear hA hA2 hz
          clear hBx
          have HSP : Hid ((⟨#[59, 32]⟩ : ByteArray).data.toList = [59, 32]) := by show _ = _; rfl
          go_wp2_with (first
          | (go_at_call 29; first
            | ((with_reducible refine (Sb.write_past HLN.out ⟨#[59, 32]⟩ HSP hA3 _).mono ?_); rintro e w2 ⟨rfl, hA4, hbx⟩; have hHT := HT2.out; have d0 := blk_cell hbx 0; have d1 := blk_cell hbx 1; have d2 := blk_cell hbx 2)
            | ((with_reducible refine (Sb.write_E HLN.out S hS (by assumption)).mono ?_); rintro e w' ⟨rfl, hA5⟩))
          | (go_at_call 30; refine (HS.out _ (HT.out.kept (HK1.out.trans (Sb.At.kept (by assumption))))).mono ?_; rintro e w' ⟨rfl, hk2⟩; have hA6 := Sb.At.go (by assumption) hk2))
          go_roundw
          case rel => exact ⟨i + 1, hlt, by go_num, by rw [HX.out]; assumption⟩
          case measure => simp [intOf]; omega
      · obtain rfl : i = N := by omega
        have hA2 : Sb.At w1 total (joinT (L.take i)) [] wr := by have h := hA; rw [rest_end2 HN.out] at h; exact h
        clear hA
        go_wp2_with (go_at_call 31; refine (Sb.string_as HE hA2).mono ?_; rintro e w' ⟨rfl, hk2⟩)
        go_ret
        exact ⟨rfl, HK1.out.trans hk2⟩

end Go.Proofs.YtkifekchalppnaaDoor.Pg
