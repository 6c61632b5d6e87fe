/- Events as text: Text, and the document's. -/
import Derived.Test.YtckjdncacinnkaaDoorEv8
import Derived.Test.YtckjdncacinnkaaDoorEv2
namespace Go.Proofs.YtckjdncacinnkaaDoor.Ev
open Go.RowKit Go.Sort Go.Shelf IdM Se EvM Blk It
open St (Kept blk_cell blk_free blk_lt blk_set blk_new ret_str size_list)
open Go.Proofs.YtckjdncacinnkaaDoor.Rv
open Go.Proofs.YtckjdncacinnkaaDoor.Ls
open Go.Proofs.YtckjdncacinnkaaDoor.Ad (load_l store_new)
set_option linter.unusedVariables false
set_option linter.unusedSimpArgs false
set_option maxRecDepth 20000

theorem line_named (e : Ev) (h : okE e) : ∃ E : ByteArray, Hid (E.data.toList = lineL e) ∧ E.size ≤ 1056 :=
  ⟨⟨(lineL e).toArray⟩, rfl, by rw [size_list]; exact line_len h⟩

set_option maxHeartbeats 2000000 in
theorem text_any {w : World} {v : Value} {L : List Ev} (hv : Le w v L) (hl : L.length ≤ 1000000) (hL : ∀ e ∈ L, okE e) {D : ByteArray} (hD : Hid (D.data.toList = textAll L)) (ht : Tab w) :
    Calls Tryd.prog 10 #[v] w fun e w' => e = .returned (.string D) ∧ Kept w w' := by
  obtain ⟨q, N, cap, rfl, hN, hm⟩ := hv.slice
  have hT : (textAll L).length ≤ 1099511627776 := by
    have h1 := textAll_len hL
    have h2 : L.length * 1057 ≤ 1000000 * 1057 := Nat.mul_le_mul_right _ hl
    omega
  obtain ⟨T, hTT⟩ : ∃ T, textAll L = T := ⟨_, rfl⟩
  rw [hTT] at hD hT
  have HT := Lib.hid hT
  have HV := Lib.hid hv
  have HN := Lib.hid hN
  have HL := Lib.hid hL
  have HTT := Lib.hid hTT
  have HTB := Lib.hid ht
  have hm2 : N ≤ 1000000 := by omega
  clear hv hN hm hL hT hTT ht
  go_enter Tryd.func10, Tryd.ntmps10
  go_wp2_with fail
  go_loopw [8] (fun y wr => ∃ i : Nat, i ≤ N ∧ y = .int .i64 (i : Int) ∧ Hid (∃ acc, Sb.At w T acc (textAll (L.drop i)) wr)) (fun y _ => N - (intOf y).toNat)
  case atStart => exact ⟨0, Nat.zero_le _, rfl, Lib.hid ⟨_, by rw [List.drop_zero, HTT.out]; exact Sb.At.new w T⟩⟩
  case round =>
    obtain ⟨i, hi, rfl, hr⟩ := hrel
    obtain ⟨acc, hacc⟩ := hr.out
    by_cases hlt : i < N
    · obtain ⟨e, b, off, he, rfl, hb, hc⟩ := (HV.out.go hacc.kept).pick (i := i) (by rw [HN.out]; exact hlt)
      have hok := HL.out e (List.mem_of_getElem? he)
      have hi1 : (i : Int) < N := by omega
      have l1 := load_ev hc
      obtain ⟨E, hE, sE⟩ := line_named e hok
      obtain ⟨A, hA⟩ : ∃ A, arr e = A := ⟨_, rfl⟩
      have sA : A.size = 18 := by rw [← hA]; rfl
      have oA : A.all (·.oneCell') = true := by rw [← hA]; exact arr_one e
      obtain ⟨X, hX⟩ : ∃ X, wr.alloc (.cells A 38) = X := ⟨_, rfl⟩
      have hB : Bl wr X [(A, 38)] := hX ▸ Bl.one wr _ _
      have lX := (at_blk (u := X) (b := wr.heap.size) (e := e) (by rw [hA]; exact hB.blk 0 rfl)).all
      have CL := Lib.hid (line_any hok hE (HTB.out.kept (hacc.kept.trans hB.kept)))
      rw [hA] at l1 lX CL
      have hacc2 := hacc.go hB.kept
      rw [text_drop he] at hacc2
      have HA := Lib.hid hacc2
      have HX := Lib.hid hX
      clear hA hX hB hacc hacc2 he hc hb hok
      go_upto_region 5 with (first
        | (refine load_l 38 (.tmp 10) rfl _ rfl rfl (.agg A) l1 ?_)
        | (refine store_new rfl 38 (.tmp 5) (.tmp 11) rfl wr.heap.size A rfl rfl wr _ rfl 18 info_ev sA rfl oA ?_; rw [HX.out]))
      go_upto_region 6 with (first
        | (refine load_l 38 (.tmp 5) rfl _ rfl rfl (.agg A) lX ?_)
        | (go_at_call 21; refine CL.out.mono ?_; rintro e' w2 ⟨rfl, k2⟩)
        | (go_at_call 23; refine (Sb.write_E HT.out E hE (HA.out.go k2)).mono ?_; rintro e' w3 ⟨rfl, h3⟩))
      have H3 := Lib.hid (show Calls Tryd.prog 24 #[.pointer (some ⟨w.heap.size, 0, none⟩), .int .u8 10] w3 _ from Sb.byte_as HT.out 10 h3)
      clear h3 k2
      go_wp2_with (first | (go_at_call 24; refine H3.out.mono ?_; rintro e' w4 ⟨rfl, h4⟩))
      have H4 := Lib.hid h4
      clear h4
      go_roundw
      case rel => exact ⟨i + 1, hlt, by go_num, Lib.hid ⟨_, H4.out⟩⟩
      case measure => simp [intOf]; omega
    · obtain rfl : i = N := by omega
      have hd : L.drop i = [] := List.drop_eq_nil_of_le (by rw [HN.out]; exact Nat.le_refl _)
      rw [hd] at hacc
      have HA := Lib.hid hacc
      clear hacc
      go_wp2_with (first | (go_at_call 25; refine (Sb.string_as hD HA.out).mono ?_; rintro e' w3 ⟨rfl, hk3⟩))
      go_ret
      exact ⟨rfl, hk3⟩

set_option maxHeartbeats 2000000 in
theorem rtext_any {w : World} {v : Value} {L : List Ev} (hv : Le w v L) (hl : L.length ≤ 1000000) (hL : ∀ e ∈ L, okE e) {D : ByteArray} (hD : Hid (D.data.toList = textAll L)) :
    Calls Tryd.prog 11 #[v] w fun e w' => e = .returned (.string D) ∧ Kept w w' := by
  obtain ⟨q, N, cap, rfl, hN, hm⟩ := hv.slice
  have HV := Lib.hid hv
  have HN := Lib.hid hN
  have HL := Lib.hid hL
  have hm2 : N ≤ 1000000 := by omega
  clear hv hN hm hL
  go_enter Tryd.func11, Tryd.ntmps11
  go_wp2_with fail
  go_loopw [3, 4] (fun d y wr => ∃ i : Nat, i ≤ N ∧ y = .int .i64 (i : Int) ∧ Hid (Kept w wr) ∧ ∃ S : ByteArray, d = .string S ∧ Hid (S.data.toList = textAll (L.take i))) (fun _ y _ => N - (intOf y).toNat)
  case atStart => exact ⟨0, Nat.zero_le _, rfl, Lib.hid (Kept.refl _), _, rfl, rfl⟩
  case round =>
    obtain ⟨i, hi, rfl, hk, S, rfl, hS⟩ := hrel
    by_cases hlt : i < N
    · obtain ⟨e, b, off, he, rfl, hb, hc⟩ := (HV.out.go hk.out).pick (i := i) (by rw [HN.out]; exact hlt)
      have hok := HL.out e (List.mem_of_getElem? he)
      have hi1 : (i : Int) < N := by omega
      have l1 := load_ev hc
      obtain ⟨E, hE, sE⟩ := line_named e hok
      obtain ⟨A, hA⟩ : ∃ A, arr e = A := ⟨_, rfl⟩
      have CL := Lib.hid (rline_any hok hE (w := wr))
      rw [hA] at l1 CL
      have sS : S.size ≤ 1057000000 := by
        rw [size_list, hS.out]
        refine Nat.le_trans (textAll_len fun x hx => HL.out x (List.mem_of_mem_take hx)) ?_
        have h2 : (L.take i).length * 1057 ≤ 1000000 * 1057 := Nat.mul_le_mul_right _ (by rw [List.length_take]; omega)
        omega
      have n1 : ¬ 9223372036854775807 < S.size + E.size := by omega
      have n2 : ¬ 9223372036854775807 < S.size + E.size + 1 := by omega
      have HD := Lib.hid (show (S ++ E ++ { data := #[10] }).data.toList = textAll (L.take (i + 1)) by rw [take_at he, text_app, text_one, ← hS.out]; simp [hE.out])
      clear hA he hc hb hok
      go_wp2_with (first
        | (refine load_l 38 (.tmp 14) rfl _ rfl rfl (.agg A) l1 ?_)
        | (go_at_call 26; refine CL.out.mono ?_; rintro e' w2 ⟨rfl, k2⟩))
      go_roundw
      case rel => exact ⟨i + 1, hlt, by go_num, Lib.hid (hk.out.trans k2), _, rfl, HD⟩
      case measure => simp [intOf]; omega
    · obtain rfl : i = N := by omega
      have hkk : L.take i = L := List.take_of_length_le (Nat.le_of_eq HN.out)
      rw [hkk] at hS
      go_wp2_with fail
      go_ret
      exact ⟨ret_str (by rw [hS.out, hD.out]), hk.out⟩

end Go.Proofs.YtckjdncacinnkaaDoor.Ev
