/- Contracts of package alarm: Due. -/
import Derived.Test.YtckmkagijanbdaaAl6
import Derived.Test.YtckmkagijanbdaaAlS
import Derived.Test.YtckmkagijanbdaaWh7
namespace Go.Proofs.Ytckmkagijanbdaa.Al
open Go.RowKit Go.Sort Tk Wh IdM
open St (Kept blk_cell blk_free blk_lt blk_set)
set_option linter.unusedVariables false

section
variable {w w' : World} {S : Nat → Prop} {B : Nat} {g now last to : Int} {A : List (Nm × Int)}

/-- the loop's state, with what it has of blocks set aside -/
def LoopD (w : World) (S : Nat → Prop) (B Bw MA MN : Nat) (g to last : Int) (L' : List (Int × Int)) (TA : Nm → Option (Int × Int)) (TN : Int → Option Nm) (n : Nat) (H : List Int) (D : List Nm) (vh vd : Value) (k : Nat) (wr : World) : Prop :=
  ∃ S' Sw', DueAt w S B Bw MA MN g to last L' TA TN n H D vh vd k wr S' Sw'

set_option maxHeartbeats 3200000 in
set_option maxRecDepth 100000 in
theorem due_any (h : Alm w S B g now last A) (t : Int) (hto : max now (clamp t) = to) : Calls Try.prog 17 #[.pointer (some ⟨B, 0, none⟩), .int .i64 t] w (dues w S B g to last A) := by
  obtain ⟨Bw, MA, MN, Sw, L, TA, TN, h0, R, g1, g2⟩ := h
  obtain ⟨hn, hnum⟩ := whl_handles h0.whl
  have hbd := h0.whl.bounds
  have C := Lib.hid (amade_any h0)
  have c2 := h0.c2
  have CA0 := (advance_any h0.whl t hto).mono (fun e w1 (hp : advances w Sw Bw last L to e w1) => show ∃ v, e = .returned v ∧ LoopD w S B Bw MA MN g to last (Wh.rest to L) TA TN L.length (hDue to L) (nDue TN (hDue to L)) v (.slice none 0 0) 0 w1 by
    obtain ⟨v, Sw', he, q1, q2, q3, q4, q5⟩ := hp
    have f1 : Fr Sw w w1 := q4
    refine ⟨v, he, fun j => S j ∨ Sw' j, Sw', ⟨?_, q1, ?_, fun j c => c.elim Or.inl (fun c => (q3 j c).imp (h0.sub j) id), f1.mono (fun j c => Or.inl (h0.sub j c)), fun b e => ?_, fun b e => by cases e⟩⟩
    · rw [List.take_zero, List.take_zero, wo_nil, wo_nil]; exact h0.wheel q2 q3 f1
    · rw [List.take_zero]; exact rowi_nil _ _ _
    · obtain ⟨r1, r2⟩ := q5 b e
      exact ⟨r1, fun c => c.elim (fun c => by have := h0.sLt b c; omega) r2⟩)
  have CA := Lib.hid CA0
  clear CA0
  have HR := Lib.hid R
  have HN := Lib.hid hn
  have HAT := Lib.hid (show ∀ k h, (hDue to L)[k]? = some h → ∃ x c, (nDue TN (hDue to L))[k]? = some x ∧ TN h = some x ∧ TA x = some (c, h) ∧ okN x ∧ inR h from fun k h e => by
    obtain ⟨x, c, r1, r2, r3, r4⟩ := R.due_at e
    exact ⟨x, c, r1, r2, r3, r4, (hnum _ _ (R.wheel r3)).2.2.1⟩)
  have HND := Lib.hid (And.intro (hdue_nodup (to := to) hn) (R.due_nodup (to := to) hn))
  have G1 := Lib.hid g1
  have G2 := Lib.hid g2
  have hHl : (hDue to L).length ≤ L.length := by have := wdue_rest_len to L; omega
  have HH := Lib.hid h0
  clear h0 R hn hnum g1 g2 hto
  obtain ⟨H, hHD⟩ : ∃ H, hDue to L = H := ⟨_, rfl⟩
  obtain ⟨D, hDD⟩ : ∃ D, nDue TN H = D := ⟨_, rfl⟩
  rw [hHD, hDD] at CA HAT HND
  rw [hHD] at hHl
  have HHD := Lib.hid hHD
  have HDD := Lib.hid hDD
  clear hHD hDD
  go_enter Try.func17, Try.ntmps17
  go_wp2_with (go_at_call 30; refine C.out.mono ?_; rintro e w' ⟨rfl, rfl⟩)
  refine CA.out.mono ?_
  rintro e w1 ⟨vh, rfl, hQ⟩
  have hlen : ∀ ty u, (Builtin.len_ #[67] ty #[vh]).run Try.prog u = .ok (.int .i64 (H.length : Int)) u := fun ty u => by
    obtain ⟨_, _, Q⟩ := hQ; exact Q.rh.len ty u
  have HQ := Lib.hid hQ
  clear CA hQ
  go_wp2_with fail
  go_loopw [19, 5] (fun i d wr => ∃ k : Nat, k ≤ H.length ∧ i = .int .i64 (k : Int) ∧ LoopD w S B Bw MA MN g to last (Wh.rest to L) TA TN L.length H D vh d k wr) (fun i _ _ => H.length - (intOf i).toNat)
  case atStart => exact ⟨0, Nat.zero_le _, rfl, HQ.out⟩
  case round =>
    obtain ⟨k, hk, rfl, S', Sw', Q⟩ := hrel
    by_cases hlt : k < H.length
    · obtain ⟨h, hh⟩ : ∃ h, H[k]? = some h := ⟨_, List.getElem?_eq_getElem hlt⟩
      obtain ⟨x, c, hx, hTN, hTA, hok, hin⟩ := HAT.out k h hh
      have nH := not_taken HND.out.1 hh
      have nD := not_taken HND.out.2 hx
      obtain ⟨n, i, s, a, kk⟩ := x
      obtain ⟨gb, cap, hv1, hcell⟩ := Q.rh.blk hh
      have c4 := Q.is.c4
      have hl := Q.is.mn.look Try.underlying61 (zero_nm _) (x := h) hin
      unfold tN at hl
      rw [wo_out _ nH, hTN] at hl
      replace hl : (Instr.lookup 61 (.map (some MN)) (.int .i64 h) false).run Try.prog _ = .ok (.agg #[.int .i64 n, .int .i64 i, .int .i64 s, .int .i64 a, .int .i64 kk]) _ := hl
      have HQ2 := Lib.hid Q
      have HF := Lib.hid (And.intro hh (And.intro hx (And.intro hTN (And.intro hTA (And.intro hok (And.intro hin (And.intro nH nD)))))))
      clear Q hh hx hTN hTA hok hin nH nD
      subst hv1
      obtain ⟨W2, hW2⟩ : ∃ W2, wr.alloc (.cells #[.int .i64 n, .int .i64 i, .int .i64 s, .int .i64 a, .int .i64 kk] 42) = W2 := ⟨_, rfl⟩
      have k2 : Kept wr W2 := by rw [← hW2]; exact Kept.one _ _
      have b2 : W2.heap[wr.heap.size]? = some (.cells #[.int .i64 n, .int .i64 i, .int .i64 s, .int .i64 a, .int .i64 kk] 42 (0, 0)) := by rw [← hW2]; exact St.blk_new _ _
      have CF := forget_is (HQ2.out.is.kept k2) HF.out.2.2.2.2.1 HF.out.2.2.2.2.2.1 (by rw [wo_out _ HF.out.2.2.2.2.2.2.2, HF.out.2.2.2.1]; rfl) (by rw [wo_out _ HF.out.2.2.2.2.2.2.1, HF.out.2.2.1]; rfl)
      have CF := Lib.hid CF
      have K2 := Lib.hid k2
      have B2 := Lib.hid b2
      have HW2 := Lib.hid hW2
      clear k2 b2 hW2
      go_wp2_with fail
      rw [HW2.out]
      refine CF.out.mono ?_
      rintro e w3 ⟨rfl, hA⟩
      have f3 : Fr S' W2 w3 := by obtain ⟨_, _, _, _, f⟩ := hA; exact f
      have hz : wr.heap.size < W2.heap.size := blk_lt B2.out
      have b3 : w3.heap[wr.heap.size]? = some (.cells #[.int .i64 n, .int .i64 i, .int .i64 s, .int .i64 a, .int .i64 kk] 42 (0, 0)) :=
        (f3.block _ hz (fun c => by have := HQ2.out.is.sLt _ c; omega)).trans B2.out
      have y0 : w3.cell? ⟨wr.heap.size, 0, none⟩ = some (.int .i64 n) := by rw [blk_cell b3]; rfl
      have y1 : w3.cell? ⟨wr.heap.size, 1, none⟩ = some (.int .i64 i) := by rw [blk_cell b3]; rfl
      have y2 : w3.cell? ⟨wr.heap.size, 2, none⟩ = some (.int .i64 s) := by rw [blk_cell b3]; rfl
      have y3 : w3.cell? ⟨wr.heap.size, 3, none⟩ = some (.int .i64 a) := by rw [blk_cell b3]; rfl
      have y4 : w3.cell? ⟨wr.heap.size, 4, none⟩ = some (.int .i64 kk) := by rw [blk_cell b3]; rfl
      have hrd : RowI w3 u5 42 5 ((D.take k).map Nm.ints) := HQ2.out.rd.kept fun b e => by
        have hl := HQ2.out.rd.lt e
        rw [f3.block b (by have := K2.out.size; omega) (HQ2.out.bd b e).2.1, K2.out.block b hl]
      have HA := Lib.hid hA
      have HRD := Lib.hid hrd
      clear hA f3 hz b3 CF hl c4 hcell hrd
      have hdl : ((D.take k).map Nm.ints).length ≤ 900000 := by rw [List.length_map, List.length_take]; omega
      go_wp2_with (at_builtin; refine wpList_append_onei rowN _ rfl (.tmp 33) (.tmp 35) rfl _ _ [n, i, s, a, kk] rfl rfl HRD.out rfl hdl ?_; intro v3 w4 hr3 hg3 hb3)
      obtain ⟨S3, Sw3, Q3⟩ := HQ2.out.step (x := ⟨n, i, s, a, kk⟩) HF.out.1 HF.out.2.1 K2.out HA.out (Kept.one _ _) hr3 hg3 hb3
      have HQ3 := Lib.hid Q3
      clear Q3 hr3 hg3 hb3
      go_roundw
      case rel => exact ⟨k + 1, hlt, by go_num, _, _, HQ3.out⟩
      case measure => simp [intOf]; omega
    · have hkl : k = H.length := by omega
      subst hkl
      have hD : D.length = H.length := by rw [← HDD.out]; exact nDue_len _ _
      have hT : D.take H.length = D := by rw [← hD]; exact List.take_length
      have hrd := Q.rd
      rw [hT] at hrd
      have CS := Lib.hid (sort_any hrd HND.out.2 (by omega))
      have HQ2 := Lib.hid Q
      clear Q hD hT hrd hlt
      go_wp2_with fail
      refine CS.out.mono ?_
      rintro e w5 ⟨rfl, D', d1, d2, d3, d4⟩
      have FIN : dues w S B g to last A (.returned u5) w5 := by
        have Q := HQ2.out
        have d := HDD.out
        have hh := HHD.out
        subst hh
        subst d
        exact Q.done HR.out HN.out G1.out G2.out d1 d2 d3 d4
      have FIN := Lib.hid FIN
      clear d1 d2 d3 d4 CS
      go_wp2_with fail
      go_ret
      exact FIN.out
end

end Go.Proofs.Ytckmkagijanbdaa.Al
