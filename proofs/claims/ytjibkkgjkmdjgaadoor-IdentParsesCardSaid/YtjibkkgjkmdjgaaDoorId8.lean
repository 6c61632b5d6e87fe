/- Package ident: identities read of text. -/
import Derived.Test.YtjibkkgjkmdjgaaDoorId6
import Derived.Test.YtjibkkgjkmdjgaaDoorAt
import Derived.Test.YtjibkkgjkmdjgaaDoorRw
namespace Go.Proofs.YtjibkkgjkmdjgaaDoor.Id
open Go.RowKit Go.Sort St IdM BsM Bs It At Rw
set_option linter.unusedVariables false

/-- where the call w stands: its result's block, and an identity's, one behind the other -/
structure Pa (w : World) (x y z : Int) (u : World) : Prop where
  kept : Kept w u
  res : u.heap[w.heap.size]? = some (.cells #[.int .i64 0, .int .i64 0, .int .i64 0] 23 (0, 0))
  blk : u.heap[w.heap.size + 1]? = some (.cells #[.int .i64 x, .int .i64 y, .int .i64 z] 23 (0, 0))
theorem Pa.go {w : World} {x y z : Int} {u v : World} (h : Pa w x y z u) (k : Kept u v) : Pa w x y z v := ⟨h.kept.trans k, kept_blk k h.res, kept_blk k h.blk⟩
theorem Pa.new (w : World) : ∃ W, (w.alloc (.cells #[.int .i64 0, .int .i64 0, .int .i64 0] 23 (0, 0))).alloc (.cells #[.int .i64 0, .int .i64 0, .int .i64 0] 23 (0, 0)) = W ∧ Pa w 0 0 0 W := by
  have h2 := blk_new (w.alloc (.cells #[.int .i64 0, .int .i64 0, .int .i64 0] 23 (0, 0))) (.cells #[.int .i64 0, .int .i64 0, .int .i64 0] 23 (0, 0))
  rw [show (w.alloc (.cells #[.int .i64 0, .int .i64 0, .int .i64 0] 23 (0, 0))).heap.size = w.heap.size + 1 by simp] at h2
  exact ⟨_, rfl, Kept.more (Kept.one _ _) _, kept_blk (Kept.one _ _) (blk_new _ _), h2⟩
theorem Pa.set {w : World} {x y z x' y' z' : Int} {u : World} (h : Pa w x y z u) (o : Nat) (v : Value)
    (e : (#[.int .i64 x, .int .i64 y, .int .i64 z] : Array Value).setIfInBounds o v = #[.int .i64 x', .int .i64 y', .int .i64 z']) : Pa w x' y' z' (u.setCell ⟨w.heap.size + 1, o, none⟩ v) :=
  ⟨Below.setCell h.kept (by simp) v, (Below.heap_setCell _ _ _ _ (show w.heap.size ≠ w.heap.size + 1 by omega)).trans h.res, by rw [← e]; exact blk_set h.blk o v⟩
def Pq (w : World) (q : Nat) (x y z : Int) (p0 p1 : Value) (u : World) : Prop := Pa w x y z u ∧ u.heap[q]? = some (.cells #[p0, p1] 52 (0, 0))
theorem Pq.go {w : World} {q : Nat} {x y z : Int} {p0 p1 : Value} {u v : World} (h : Pq w q x y z p0 p1 u) (k : Kept u v) : Pq w q x y z p0 p1 v := ⟨h.1.go k, kept_blk k h.2⟩
theorem Pq.cells {w : World} {q : Nat} {x y z : Int} {p0 p1 : Value} {u : World} (h : Pq w q x y z p0 p1 u) : u.cell? ⟨q, 0, none⟩ = some p0 := blk_cell h.2 0
theorem Pq.setcells {w : World} {q : Nat} {x y z : Int} {p0 p1 : Value} {u : World} (hq : q ≠ w.heap.size + 1) (h : Pq w q x y z p0 p1 u) (o : Nat) (v : Value) : (u.setCell ⟨w.heap.size + 1, o, none⟩ v).cell? ⟨q, 0, none⟩ = some p0 := by
  have h2 : (u.setCell ⟨w.heap.size + 1, o, none⟩ v).heap[q]? = some (.cells #[p0, p1] 52 (0, 0)) := (Below.heap_setCell _ _ _ _ hq).trans h.2
  exact blk_cell h2 0
theorem atoi_pq {w : World} {q : Nat} {x y z : Int} {p0 p1 : Value} {s : ByteArray} (hs : s.size ≤ 281474976710656) {v : Int} (hv : Hid (atoiV s.data.toList = v)) (hE : Hid (Env w)) {u : World} (h : Pq w q x y z p0 p1 u) :
    Calls Tryd.prog 39 #[.string s] u fun e w' => ∃ er, e = .returned (.tuple #[.int .i64 v, er]) ∧ Pq w q x y z p0 p1 w' :=
  (atoi_any s hs v hv u (hE.out.kept h.1.kept)).mono fun _ _ ⟨er, he, hk⟩ => ⟨er, he, h.go hk⟩
theorem cut_pq {w : World} {q : Nat} {x y z : Int} {p0 p1 : Value} {s A B : ByteArray} (hs : s.size ≤ 4000000000) (hA : Hid (A.data.toList = c1 s.data.toList)) (hB : Hid (B.data.toList = r1 s.data.toList)) (hE : Hid (Env w)) {u : World} (h : Pq w q x y z p0 p1 u) :
    Calls Tryd.prog 38 #[.string s, .string { data := #[46] }] u fun e w' => ∃ z', e = .returned (.tuple #[.string A, .string B, .bool z']) ∧ Pq w q x y z p0 p1 w' :=
  (cut_as hs hA hB (hE.out.kept h.1.kept)).mono fun _ _ ⟨er, he, hk⟩ => ⟨er, he, h.go hk⟩
theorem right_pa {w : World} {x y z : Int} {b : Bool} (hz : Hid (rightB x y z = b)) {u : World} (h : Pa w x y z u) :
    Calls Tryd.prog 7 #[.agg #[.int .i64 x, .int .i64 y, .int .i64 z]] u fun e w' => e = .returned (.bool b) ∧ Pa w x y z w' :=
  (right_as hz).mono fun _ _ ⟨he, hk⟩ => ⟨he, h.go hk⟩
theorem text_pa {w : World} {x y z : Int} {D : ByteArray} (hr : rightB x y z = true) (hD : Hid (D.data.toList = textL x y z)) (hE : Hid (Env w)) {u : World} (h : Pa w x y z u) :
    Calls Tryd.prog 11 #[.agg #[.int .i64 x, .int .i64 y, .int .i64 z]] u fun e w' => e = .returned (.string D) ∧ Pa w x y z w' := by
  obtain ⟨h1, h2, h3⟩ := right_iff.1 hr
  exact (text_as (show I64 x from ⟨by omega, by omega⟩) (show I64 y from ⟨by omega, by omega⟩) (show I64 z from ⟨by omega, by omega⟩) hD (hE.out.kept h.kept).tab).mono fun _ _ ⟨he, hk⟩ => ⟨he, h.go hk⟩
/-- the loop's place behind k rounds: what is left of the text, and the numbers that were read -/
def Pk (w : World) (k : Nat) (t R0 R1 R2 R3 : Value) (n i s : Int) (u : World) : Prop :=
  (k = 0 ∧ t = R0 ∧ Pa w 0 0 0 u) ∨ (k = 1 ∧ t = R1 ∧ Pa w n 0 0 u) ∨ (k = 2 ∧ t = R2 ∧ Pa w n i 0 u) ∨ (k = 3 ∧ t = R3 ∧ Pa w n i s u)
theorem Pa.done {w : World} {x y z : Int} {u : World} (h : Pa w x y z u) (v0 v1 v2 : Value) :
    Kept w (((u.setCell ⟨w.heap.size, 0, none⟩ v0).setCell ⟨w.heap.size, 1, none⟩ v1).setCell ⟨w.heap.size, 2, none⟩ v2) ∧
    (((u.setCell ⟨w.heap.size, 0, none⟩ v0).setCell ⟨w.heap.size, 1, none⟩ v1).setCell ⟨w.heap.size, 2, none⟩ v2).heap[w.heap.size]? = some (.cells #[v0, v1, v2] 23 (0, 0)) :=
  ⟨Below.setCell (Below.setCell (Below.setCell h.kept (Nat.le_refl _) _) (Nat.le_refl _) _) (Nat.le_refl _) _, blk_set (blk_set (blk_set h.res 0 v0) 1 v1) 2 v2⟩

/-- what a text tells -/
def parsedV (l : List UInt8) : Value := if isT l then .agg #[.int .i64 (pn l), .int .i64 (pi l), .int .i64 (ps l)] else .agg #[.int .i64 0, .int .i64 0, .int .i64 0]
def parsedE (l : List UInt8) : Int := if isT l then 0 else 10
theorem parsed_yes {l : List UInt8} (h : isT l = true) : parsedV l = .agg #[.int .i64 (pn l), .int .i64 (pi l), .int .i64 (ps l)] ∧ parsedE l = 0 := by unfold parsedV parsedE; rw [h]; exact ⟨rfl, rfl⟩
theorem parsed_no {l : List UInt8} (h : isT l = false) : parsedV l = .agg #[.int .i64 0, .int .i64 0, .int .i64 0] ∧ parsedE l = 10 := by unfold parsedV parsedE; rw [h]; exact ⟨rfl, rfl⟩
theorem ret_two {a b : Value} {x y : Int} (h1 : a = b) (h2 : x = y) : Ending.returned (.tuple #[a, .int .i64 x]) = .returned (.tuple #[b, .int .i64 y]) := by rw [h1, h2]
theorem neq_list {a b : ByteArray} (h : ¬ a.data.toList = b.data.toList) : (a.toList == b.toList) = false := by
  rw [ByteArray.toList_eq, ByteArray.toList_eq]; exact beq_eq_false_iff_ne.2 h

set_option maxRecDepth 100000 in
set_option maxHeartbeats 4000000 in
theorem parse_any (t : ByteArray) (ht : t.size ≤ 1000000) (w : World) (hE : Env w) :
    Calls Tryd.prog 24 #[.string t] w fun e w' => e = .returned (.tuple #[parsedV t.data.toList, .int .i64 (parsedE t.data.toList)]) ∧ Kept w w' := by
  obtain ⟨A1, R1, a1, b1, l1, m1⟩ := cut_named t
  obtain ⟨A2, R2, a2, b2, l2, m2⟩ := cut_named R1
  obtain ⟨A3, R3, a3, b3, l3, m3⟩ := cut_named R2
  obtain ⟨n, hn⟩ : ∃ n, pn t.data.toList = n := ⟨_, rfl⟩
  obtain ⟨i, hi⟩ : ∃ n, pi t.data.toList = n := ⟨_, rfl⟩
  obtain ⟨s, hs⟩ : ∃ n, ps t.data.toList = n := ⟨_, rfl⟩
  have v1 : Hid (atoiV A1.data.toList = n) := Lib.hid (by rw [a1.out]; exact hn)
  have v2 : Hid (atoiV A2.data.toList = i) := Lib.hid (by rw [a2.out, b1.out]; exact hi)
  have v3 : Hid (atoiV A3.data.toList = s) := Lib.hid (by rw [a3.out, b2.out, b1.out]; exact hs)
  have z1 : A1.size ≤ 281474976710656 := by omega
  have z2 : A2.size ≤ 281474976710656 := by omega
  have z3 : A3.size ≤ 281474976710656 := by omega
  have y1 : t.size ≤ 4000000000 := by omega
  have y2 : R1.size ≤ 4000000000 := by omega
  have y3 : R2.size ≤ 4000000000 := by omega
  obtain ⟨W, hW, hA0⟩ := Pa.new w
  have HE := Lib.hid hE
  have HW := Lib.hid hW
  have HT := Lib.hid (show isT t.data.toList = (rightB n i s && decide (textL n i s = t.data.toList)) by unfold isT; rw [hn, hi, hs])
  have HY := Lib.hid (parsed_yes (l := t.data.toList))
  have HN := Lib.hid (parsed_no (l := t.data.toList))
  rw [hn, hi, hs] at HY
  clear hE hW hn hi hs l1 m1 l2 m2 l3 m3 ht
  go_enter Tryd.func24, Tryd.ntmps24
  go_wp2_with fail
  rw [HW.out]
  go_wp2_with (go_at_call 37; refine (parts_any _ _).mono ?_; rintro e w1 ⟨rfl, hk1⟩)
  go_loopw [5, 11] (fun t' k' wr => ∃ k : Nat, k' = .int .i64 (k : Int) ∧ Pk w k t' (.string t) (.string R1) (.string R2) (.string R3) n i s wr) (fun _ k' _ => 3 - (intOf k').toNat)
  case atStart => exact ⟨0, rfl, .inl ⟨rfl, rfl, hA0.go hk1⟩⟩
  case round =>
    obtain ⟨k, rfl, hk⟩ := hrel
    rcases hk with ⟨rfl, rfl, hA⟩ | ⟨rfl, rfl, hA⟩ | ⟨rfl, rfl, hA⟩ | ⟨rfl, rfl, hA⟩
    · have hqc : wr.heap.size ≠ w.heap.size + 1 := by have := blk_lt hA.blk; omega
      have hq : Pq w wr.heap.size 0 0 0 (.pointer (some ⟨w.heap.size + 1, 0, none⟩)) (.int .i64 1) (wr.alloc (.cells #[.pointer (some ⟨w.heap.size + 1, 0, none⟩), .int .i64 1] 52 (0, 0))) :=
        ⟨hA.go (Kept.one _ _), blk_new _ _⟩
      have hp := part0 (w.heap.size + 1)
      go_wp2_with (go_at_call 38; refine (cut_pq y1 a1 b1 HE hq).mono ?_; rintro e u ⟨z', rfl, hU⟩)
      have hU2 := hU.go (Kept.refl _).drew
      go_region_held3 (fun w' => w'.cell? ⟨wr.heap.size, 0, none⟩ = some (.pointer (some ⟨w.heap.size + 1, 0, none⟩))) (first | (with_reducible exact Pq.cells (by assumption)) | (with_reducible exact Pq.setcells hqc (by assumption) _ _))
        (first | (go_at_call 39; refine (atoi_pq z1 v1 HE hU2).mono ?_; rintro e v ⟨er, rfl, hV⟩; have hc0 := blk_cell hV.1.blk 0; have hf0 := blk_free hV.1.blk 0))
      go_wp2_with fail
      go_roundw
      case rel => exact ⟨1, rfl, .inr (.inl ⟨rfl, rfl, hV.1.set 0 _ rfl⟩)⟩
      case measure => simp [intOf]
    · have hqc : wr.heap.size ≠ w.heap.size + 1 := by have := blk_lt hA.blk; omega
      have hq : Pq w wr.heap.size n 0 0 (.pointer (some ⟨w.heap.size + 1, 1, none⟩)) (.int .i64 2) (wr.alloc (.cells #[.pointer (some ⟨w.heap.size + 1, 1, none⟩), .int .i64 2] 52 (0, 0))) :=
        ⟨hA.go (Kept.one _ _), blk_new _ _⟩
      have hp := part1 (w.heap.size + 1)
      go_wp2_with (go_at_call 38; refine (cut_pq y2 a2 b2 HE hq).mono ?_; rintro e u ⟨z', rfl, hU⟩)
      have hU2 := hU.go (Kept.refl _).drew
      go_region_held3 (fun w' => w'.cell? ⟨wr.heap.size, 0, none⟩ = some (.pointer (some ⟨w.heap.size + 1, 1, none⟩))) (first | (with_reducible exact Pq.cells (by assumption)) | (with_reducible exact Pq.setcells hqc (by assumption) _ _))
        (first | (go_at_call 39; refine (atoi_pq z2 v2 HE hU2).mono ?_; rintro e v ⟨er, rfl, hV⟩; have hc0 := blk_cell hV.1.blk 1; have hf0 := blk_free hV.1.blk 1))
      go_wp2_with fail
      go_roundw
      case rel => exact ⟨2, rfl, .inr (.inr (.inl ⟨rfl, rfl, hV.1.set 1 _ rfl⟩))⟩
      case measure => simp [intOf]
    · have hqc : wr.heap.size ≠ w.heap.size + 1 := by have := blk_lt hA.blk; omega
      have hq : Pq w wr.heap.size n i 0 (.pointer (some ⟨w.heap.size + 1, 2, none⟩)) (.int .i64 3) (wr.alloc (.cells #[.pointer (some ⟨w.heap.size + 1, 2, none⟩), .int .i64 3] 52 (0, 0))) :=
        ⟨hA.go (Kept.one _ _), blk_new _ _⟩
      have hp := part2 (w.heap.size + 1)
      go_wp2_with (go_at_call 38; refine (cut_pq y3 a3 b3 HE hq).mono ?_; rintro e u ⟨z', rfl, hU⟩)
      have hU2 := hU.go (Kept.refl _).drew
      go_region_held3 (fun w' => w'.cell? ⟨wr.heap.size, 0, none⟩ = some (.pointer (some ⟨w.heap.size + 1, 2, none⟩))) (first | (with_reducible exact Pq.cells (by assumption)) | (with_reducible exact Pq.setcells hqc (by assumption) _ _))
        (first | (go_at_call 39; refine (atoi_pq z3 v3 HE hU2).mono ?_; rintro e v ⟨er, rfl, hV⟩; have hc0 := blk_cell hV.1.blk 2; have hf0 := blk_free hV.1.blk 2))
      go_wp2_with fail
      go_roundw
      case rel => exact ⟨3, rfl, .inr (.inr (.inr ⟨rfl, rfl, hV.1.set 2 _ rfl⟩))⟩
      case measure => simp [intOf]
    · have c0 := blk_cell hA.blk 0
      have c1 := blk_cell hA.blk 1
      have c2 := blk_cell hA.blk 2
      by_cases hr : rightB n i s = true
      · have hr' : Hid (rightB n i s = true) := hr
        obtain ⟨D, hD, hDs⟩ : ∃ D : ByteArray, Hid (D.data.toList = textL n i s) ∧ True := ⟨⟨(textL n i s).toArray⟩, rfl, trivial⟩
        have HR : Hid (rightB n i s = true) := hr
        by_cases ht : textL n i s = t.data.toList
        · have hT : Hid (isT t.data.toList = true) := Lib.hid (by rw [HT.out, hr]; simp [ht])
          obtain rfl : D = t := by rw [str_of D _ (hD.out.trans ht), ← str_of t _ rfl]
          clear ht hr
          go_wp2_with (first
            | (go_at_call 7; refine (right_pa hr' hA).mono ?_; rintro e u ⟨rfl, hB⟩; have r0 := blk_cell hB.res 0; have r1 := blk_cell hB.res 1; have r2 := blk_cell hB.res 2; have f0 := blk_free hB.res 0; have f1 := blk_free hB.res 1; have f2 := blk_free hB.res 2; have d0 := blk_cell hB.blk 0; have d1 := blk_cell hB.blk 1; have d2 := blk_cell hB.blk 2)
            | (go_at_call 11; refine (text_pa HR.out hD HE hB).mono ?_; rintro e v ⟨rfl, hC⟩; clear r0 r1 r2 f0 f1 f2 d0 d1 d2; have r0 := blk_cell hC.res 0; have r1 := blk_cell hC.res 1; have r2 := blk_cell hC.res 2; have f0 := blk_free hC.res 0; have f1 := blk_free hC.res 1; have f2 := blk_free hC.res 2; have d0 := blk_cell hC.blk 0; have d1 := blk_cell hC.blk 1; have d2 := blk_cell hC.blk 2))
          obtain ⟨e1, e2⟩ := hC.done (.int .i64 n) (.int .i64 i) (.int .i64 s)
          refine bodyPost_ret (results_row_tmp rfl _ _ w.heap.size 23 _ (0, 0) _ rfl e2 Tryd.underlying23 rfl info_id) rfl ?_
          exact ⟨ret_two (HY.out hT.out).1.symm (HY.out hT.out).2.symm, e1⟩
        · have hT : Hid (isT t.data.toList = false) := Lib.hid (by rw [HT.out, hr]; simp [ht])
          have hne := neq_list (a := D) (b := t) (fun e => ht (hD.out.symm.trans e))
          clear ht hr
          go_wp2_with (first
            | (go_at_call 7; refine (right_pa hr' hA).mono ?_; rintro e u ⟨rfl, hB⟩; have r0 := blk_cell hB.res 0; have r1 := blk_cell hB.res 1; have r2 := blk_cell hB.res 2; have f0 := blk_free hB.res 0; have f1 := blk_free hB.res 1; have f2 := blk_free hB.res 2; have d0 := blk_cell hB.blk 0; have d1 := blk_cell hB.blk 1; have d2 := blk_cell hB.blk 2)
            | (go_at_call 11; refine (text_pa HR.out hD HE hB).mono ?_; rintro e v ⟨rfl, hC⟩; clear r0 r1 r2 f0 f1 f2 d0 d1 d2; have r0 := blk_cell hC.res 0; have r1 := blk_cell hC.res 1; have r2 := blk_cell hC.res 2; have f0 := blk_free hC.res 0; have f1 := blk_free hC.res 1; have f2 := blk_free hC.res 2; have d0 := blk_cell hC.blk 0; have d1 := blk_cell hC.blk 1; have d2 := blk_cell hC.blk 2))
          obtain ⟨e1, e2⟩ := hC.done (.int .i64 0) (.int .i64 0) (.int .i64 0)
          refine bodyPost_ret (results_row_tmp rfl _ _ w.heap.size 23 _ (0, 0) _ rfl e2 Tryd.underlying23 rfl info_id) rfl ?_
          exact ⟨ret_two (HN.out hT.out).1.symm (HN.out hT.out).2.symm, e1⟩
      · have hr' : Hid (rightB n i s = false) := Lib.hid (by simpa using hr)
        have hT : Hid (isT t.data.toList = false) := Lib.hid (by rw [HT.out, hr'.out]; rfl)
        clear hr
        go_wp2_with (go_at_call 7; refine (right_pa hr' hA).mono ?_; rintro e u ⟨rfl, hB⟩; have r0 := blk_cell hB.res 0; have r1 := blk_cell hB.res 1; have r2 := blk_cell hB.res 2; have f0 := blk_free hB.res 0; have f1 := blk_free hB.res 1; have f2 := blk_free hB.res 2; have d0 := blk_cell hB.blk 0; have d1 := blk_cell hB.blk 1; have d2 := blk_cell hB.blk 2)
        obtain ⟨e1, e2⟩ := hB.done (.int .i64 0) (.int .i64 0) (.int .i64 0)
        refine bodyPost_ret (results_row_tmp rfl _ _ w.heap.size 23 _ (0, 0) _ rfl e2 Tryd.underlying23 rfl info_id) rfl ?_
        exact ⟨ret_two (HN.out hT.out).1.symm (HN.out hT.out).2.symm, e1⟩

end Go.Proofs.YtjibkkgjkmdjgaaDoor.Id
