/- Programs: a text, cut at '; ' by strings.SplitSeq: what it yields. -/
import Derived.Test.YtkifekchalppnaaDoorPg9
import Derived.Test.YtkifekchalppnaaDoorSq
import Derived.Shelf.RegionOpen
import Derived.WalkKit
import Derived.OwnWalkIn
import Derived.TacticsInMore
import Derived.RegionIn
import Derived.LoopNIn
import Derived.LoopIn
namespace Go.Proofs.YtkifekchalppnaaDoor.Pg
open Go.RowKit Go.Sort Go.Shelf St Cd It At
open Wh (Fr)
set_option linter.unusedVariables false
set_option linter.unusedSimpArgs false

def sepB : ByteArray := ⟨#[59, 32]⟩
theorem splitseq_any (s : ByteArray) (w : World) :
    Calls Tryd.prog 37 #[.string s, .string ⟨#[59, 32]⟩] w fun e w' => e = .returned (.func (.func 53) #[] #[.pointer (some ⟨w.heap.size + 1, 0, none⟩), .pointer (some ⟨w.heap.size, 0, none⟩), .pointer (some ⟨w.heap.size + 2, 0, none⟩)]) ∧
      w' = ((w.alloc (.cells #[.string s] 9)).alloc (.cells #[.string ⟨#[59, 32]⟩] 9)).alloc (.cells #[.int .i64 0] 3) := by
  have HC : ∀ w : World, Calls Tryd.prog 46 #[.string s, .string ⟨#[59, 32]⟩, .int .i64 0] w fun e w' => e = .returned (.func (.func 53) #[] #[.pointer (some ⟨w.heap.size + 1, 0, none⟩), .pointer (some ⟨w.heap.size, 0, none⟩), .pointer (some ⟨w.heap.size + 2, 0, none⟩)]) ∧
      w' = ((w.alloc (.cells #[.string s] 9)).alloc (.cells #[.string ⟨#[59, 32]⟩] 9)).alloc (.cells #[.int .i64 0] 3) := fun w => by
    go_enter Tryd.func46, Tryd.ntmps46
    go_wp2_with fail
    go_ret
    exact ⟨by simp, rfl⟩
  have HC := Lib.hid (HC w)
  go_enter Tryd.func37, Tryd.ntmps37
  go_wp2_with (go_at_call 46; refine HC.out.mono ?_; rintro e w' ⟨rfl, rfl⟩)
  go_ret
  exact ⟨rfl, rfl⟩

theorem index_as {T : ByteArray} (hT : T.size ≤ 1000000) {c : Int} (hc : Hid (Lib.index T.data.toList [59, 32] = c)) {w : World} {m : Int} (hm : w.cell? ⟨2, 0, none⟩ = some (.int .i64 m)) :
    Calls Tryd.prog 55 #[.string T, .string ⟨#[59, 32]⟩] w fun e w' => e = .returned (.int .i64 c) ∧ w = w' := by
  refine (Tryd.strings_Index T ⟨#[59, 32]⟩ m w (by omega) hm).mono ?_
  rintro e w' ⟨rfl, rfl⟩
  exact ⟨ret_int hc.out, rfl⟩

/-- what is yielded: the text of each step -/
def isStep (L : List Op) (i : Nat) (v : Value) : Prop := ∃ o S, L[i]? = some o ∧ v = .string S ∧ S.data.toList = stepT o
/-- the boxes of what stands between, and of how much of it is kept; how long a text may be to be sought by brute force -/
def ownS (B : Nat) (A : World) : Prop := A.heap[B + 1]? = some (.cells #[.string ⟨#[59, 32]⟩] 9 (0, 0)) ∧ A.heap[B + 2]? = some (.cells #[.int .i64 0] 3 (0, 0)) ∧ ∃ m, A.cell? ⟨2, 0, none⟩ = some (.int .i64 m)
def leftS (B : Nat) (L : List Op) (A : World) : Prop := ∃ S : ByteArray, A.heap[B]? = some (.cells #[.string S] 9 (0, 0)) ∧ S.data.toList = joinT L
def strLen (w : World) (B : Nat) : Nat := match w.cell? ⟨B, 0, none⟩ with
  | some (.string T) => T.size
  | _ => 0
theorem strLen_eq {w : World} {B : Nat} {T : ByteArray} (h : w.heap[B]? = some (.cells #[.string T] 9 (0, 0))) : strLen w B = T.size := by
  unfold strLen; rw [blk_cell h]; rfl
theorem cut_front (T p : ByteArray) (c : Int) (hc : c = (p.size : Int)) (r : List UInt8) (h : T.data.toList = p.data.toList ++ r) :
    ∀ w, (Instr.slice 9 (.string T) none (some (.int .i64 c)) none).run Tryd.prog w = .ok (.string p) w := fun w => by
  subst hc
  have hl : p.size ≤ T.size := by rw [size_list T, h, List.length_append, ← size_list]; omega
  have e : T.extract 0 p.size = p := same_bytes (by rw [extract_list, h, size_list p, List.take_left, List.drop_zero])
  have := run_slice_string_h (P := Tryd.prog) w 9 T Tryd.underlying9 .i64 (p.size : Int) (by omega) (by show ((p.size : Nat) : Int) ≤ ((T.size : Nat) : Int); omega)
  rw [this, Int.toNat_natCast, e]
theorem cut_back (T q : ByteArray) (c : Int) (p : List UInt8) (hc : c = (p.length : Int)) (h : T.data.toList = p ++ q.data.toList) :
    ∀ w, (Instr.slice 9 (.string T) (some (.int .i64 c)) none none).run Tryd.prog w = .ok (.string q) w := fun w => by
  subst hc
  have hl : p.length ≤ T.size := by rw [size_list T, h, List.length_append]; omega
  have e : T.extract p.length T.size = q := same_bytes (by rw [extract_list, size_list T, List.take_length, h, List.drop_left])
  have := run_slice_string_l (P := Tryd.prog) w 9 T Tryd.underlying9 .i64 (p.length : Int) (by omega) (by show ((p.length : Nat) : Int) ≤ ((T.size : Nat) : Int); omega)
  rw [this, Int.toNat_natCast, e]

theorem join_drop {L : List Op} {i : Nat} {o : Op} (ho : L[i]? = some o) : joinT (L.drop i) = stepT o ++ tailT (L.drop (i + 1)) := by rw [drop_at ho]; rfl

set_option maxRecDepth 100000 in
set_option maxHeartbeats 4000000 in
theorem split_seq (n : Nat) (hn : 1 ≤ n) (B : Nat) (L : List Op) (hne : L ≠ []) (hl : L.length ≤ 1000) (hk : allK L = true) (hf : ∀ o ∈ L, o.Fit) :
    Sq.SeqSt n Tryd.prog 53 #[.pointer (some ⟨B + 1, 0, none⟩), .pointer (some ⟨B, 0, none⟩), .pointer (some ⟨B + 2, 0, none⟩)] (isStep L) L.length B (ownS B) (leftS B L) := by
  intro l J W hJ hown hY h0 hst
  obtain ⟨S, hS, hSl⟩ := hst
  have hbig : ∀ i, (joinT (L.drop i)).length ≤ 52000 := fun i => by
    have h1 := join_len (l := L.drop i) (by unfold allK at *; exact List.all_eq_true.2 fun o ho => List.all_eq_true.1 hk o (List.mem_of_mem_drop ho)) (fun o ho => hf o (List.mem_of_mem_drop ho))
    rw [List.length_drop] at h1; omega
  refine callsIn_of_wp Tryd.func53 rfl trivial ?_ rfl
  simp only [Tryd.ntmps53, List.size_toArray, List.length_cons, List.length_nil, Nat.reduceAdd, Nat.reduceSub, Array.replicate_succ, Array.replicate_zero, List.push_toArray, List.append_toArray, List.nil_append, List.cons_append]
  have hJo := Lib.hid hJ
  have hYo := Lib.hid hY
  have hOo := Lib.hid hown
  have hBo := Lib.hid hbig
  have hKo := Lib.hid (And.intro hk hf)
  have hSo := Lib.hid (And.intro hS hSl)
  have h0o := Lib.hid h0
  have hLo := Lib.hid (List.length_pos_iff.2 hne)
  obtain ⟨o1, o2, m, o3⟩ := hown 0 W h0
  have c1 : W.cell? ⟨B + 1, 0, none⟩ = some (.string ⟨#[59, 32]⟩) := by rw [blk_cell o1]; rfl
  clear hJ hY hown hbig hk hf hS hSl h0 o1 o2 o3 hne
  gi_wp2
  clear c1
  gi_loopw [7] (fun _ wr => ∃ (i : Nat) (T : ByteArray), i < L.length ∧ J i wr ∧ wr.heap[B]? = some (.cells #[.string T] 9 (0, 0)) ∧ Hid (T.data.toList = joinT (L.drop i))) (fun _ wr => strLen wr B)
  case atStart => exact ⟨0, S, hLo.out, h0o.out, hSo.out.1, hSo.out.2⟩
  case round =>
    obtain ⟨i, T, hi, hJi, hT, hTl⟩ := hrel
    obtain ⟨o1, o2, m, o3⟩ := hOo.out i wr hJi
    have c0 : wr.cell? ⟨B, 0, none⟩ = some (.string T) := by rw [blk_cell hT]; rfl
    have c1 : wr.cell? ⟨B + 1, 0, none⟩ = some (.string ⟨#[59, 32]⟩) := by rw [blk_cell o1]; rfl
    have c2 : wr.cell? ⟨B + 2, 0, none⟩ = some (.int .i64 0) := by rw [blk_cell o2]; rfl
    have ho : L[i]? = some L[i] := List.getElem?_eq_getElem hi
    obtain ⟨o, hoe⟩ : ∃ o, L[i] = o := ⟨_, rfl⟩
    rw [hoe] at ho
    have hkn : knownB o.k = true := List.all_eq_true.1 hKo.out.1 o (List.mem_of_getElem? ho)
    have hfo := hKo.out.2 o (List.mem_of_getElem? ho)
    have hTs : T.size ≤ 52000 := by rw [size_list, hTl.out]; exact hBo.out i
    have hjd := join_drop ho
    by_cases hlast : L.drop (i + 1) = []
    · have hTo : T.data.toList = stepT o := by rw [hTl.out, hjd, hlast]; exact List.append_nil _
      have hN : i + 1 = L.length := by have := List.drop_eq_nil_iff.1 hlast; omega
      have HX := Lib.hid (fun (u : World) (hu : u.cell? ⟨2, 0, none⟩ = some (.int .i64 m)) => index_as (T := T) (by omega) (c := -1) (show Hid _ from by show _ = _; rw [hTo]; exact split_miss hkn) hu)
      have HM := Lib.hid o3
      obtain ⟨fn, tmps, assign, body, hy, hR⟩ := hYo.out i (.string T) wr hJi hi ⟨o, T, ho, rfl, hTo⟩
      have HN := Lib.hid hN
      clear ho hoe hkn hfo hjd hlast hTo hN o1 o2 o3 hT
      gi_wp2
      refine ⟨trivial, ?_⟩
      refine (callsIn_wide.2 (HX.out _ HM.out)).mono ?_
      rintro e w' ⟨rfl, rfl⟩
      gi_wp2
      refine hR.mono ?_
      rintro e W3 ⟨rfl, hJ3, hB3⟩
      gi_wp2
      go_end0
      exact ⟨⟨_, rfl⟩, by rw [← HN.out]; exact hJ3⟩
    · obtain ⟨p, hp⟩ : ∃ p : ByteArray, p.data.toList = stepT o := ⟨⟨(stepT o).toArray⟩, rfl⟩
      obtain ⟨q, hq⟩ : ∃ q : ByteArray, q.data.toList = joinT (L.drop (i + 1)) := ⟨⟨(joinT (L.drop (i + 1))).toArray⟩, rfl⟩
      have hTo : T.data.toList = stepT o ++ (59 :: 32 :: q.data.toList) := by rw [hTl.out, hjd, tailT_join hlast, hq]
      have hp50 := (step_len hkn hfo).1
      have hps : p.size = (stepT o).length := by rw [size_list, hp]
      obtain ⟨c, hc⟩ : ∃ c : Int, (p.size : Int) = c := ⟨_, rfl⟩
      have hc0 : 0 ≤ c := by omega
      have hc1 : c ≤ 50 := by omega
      have HX := Lib.hid (fun (u : World) (hu : u.cell? ⟨2, 0, none⟩ = some (.int .i64 m)) => index_as (T := T) (by omega) (c := c) (show Hid _ from by show _ = _; rw [hTo, split_hit hkn, ← hps, hc]) hu)
      have HM := Lib.hid o3
      have hfront := cut_front T p c hc.symm (59 :: 32 :: q.data.toList) (by rw [hTo, hp])
      have hback := cut_back T q (c + 2) (stepT o ++ [59, 32]) (by rw [List.length_append, ← hps, ← hc]; rfl) (by rw [hTo]; simp)
      have HTS := Lib.hid (show q.size < T.size by rw [size_list q, size_list T, hTo, List.length_append]; simp; omega)
      obtain ⟨fn, tmps, assign, body, hy, hR⟩ := hYo.out i (.string p) wr hJi hi ⟨o, p, ho, rfl, hp⟩
      have HQ := Lib.hid (show i + 1 < L.length by have := mt List.drop_eq_nil_iff.2 hlast; omega)
      have HT := Lib.hid hT
      have HQQ := Lib.hid hq
      clear ho hoe hkn hfo hjd hlast hTo o1 o2 o3 hT hp hq hp50 hps hc
      gi_wp2
      refine ⟨trivial, ?_⟩
      refine (callsIn_wide.2 (HX.out _ HM.out)).mono ?_
      rintro e w' ⟨rfl, rfl⟩
      gi_wp2
      refine hR.mono ?_
      rintro e W3 ⟨rfl, hJ3, hB3⟩
      obtain ⟨p1, p2, m3, p3⟩ := hOo.out (i + 1) W3 hJ3
      have hB4 := hB3.trans HT.out
      have d0 : W3.cell? ⟨B, 0, none⟩ = some (.string T) := by rw [blk_cell hB4]; rfl
      have d1 : W3.cell? ⟨B + 1, 0, none⟩ = some (.string ⟨#[59, 32]⟩) := by rw [blk_cell p1]; rfl
      have f0 := blk_free hB4 0
      have HB4 := Lib.hid hB4
      clear p1 p2 p3 hB3 hB4 hy
      gi_wp2
      have hset := blk_set HB4.out 0 (.string q)
      go_roundw
      case rel => exact ⟨i + 1, q, HQ.out, hJo.out _ _ _ hJ3 ((Fr.refl (fun k => k = B) W3).setCell (p := ⟨B, 0, none⟩) (.inl rfl) _), hset, HQQ.out⟩
      case measure => rw [strLen_eq hset, strLen_eq HT.out]; exact HTS.out

end Go.Proofs.YtkifekchalppnaaDoor.Pg
