/- Programs: a text, cut at '; ' by strings.SplitSeq: what it yields. Programs: what is parsed of a program's text. -/
import Derived.Test.YtcoagmkncjonmaaGreatDoorPg9
import Derived.Test.YtcoagmkncjonmaaGreatDoorSq
import Derived.Shelf.RegionOpen
import Derived.WalkKit
import Derived.OwnWalkIn
import Derived.TacticsInMore
import Derived.RegionIn
import Derived.LoopNIn
import Derived.LoopIn
import Derived.Maps.OwnIn
import Derived.Test.YtcoagmkncjonmaaGreatDoorBlk
namespace Go.Proofs.YtcoagmkncjonmaaGreatDoor.Pg
open Go.RowKit Go.Sort Go.Shelf St Cd It At
open Wh (Fr)
set_option linter.unusedVariables false
set_option linter.unusedSimpArgs false

def sepB : ByteArray := ⟨#[59, 32]⟩
theorem splitseq_any (s : ByteArray) (w : World) :
    Calls Tryz.prog 77 #[.string s, .string ⟨#[59, 32]⟩] w fun e w' => e = .returned (.func (.func 95) #[] #[.pointer (some ⟨w.heap.size + 1, 0, none⟩), .pointer (some ⟨w.heap.size, 0, none⟩), .pointer (some ⟨w.heap.size + 2, 0, none⟩)]) ∧
      w' = ((w.alloc (.cells #[.string s] 9)).alloc (.cells #[.string ⟨#[59, 32]⟩] 9)).alloc (.cells #[.int .i64 0] 3) := by
  have HC : ∀ w : World, Calls Tryz.prog 88 #[.string s, .string ⟨#[59, 32]⟩, .int .i64 0] w fun e w' => e = .returned (.func (.func 95) #[] #[.pointer (some ⟨w.heap.size + 1, 0, none⟩), .pointer (some ⟨w.heap.size, 0, none⟩), .pointer (some ⟨w.heap.size + 2, 0, none⟩)]) ∧
      w' = ((w.alloc (.cells #[.string s] 9)).alloc (.cells #[.string ⟨#[59, 32]⟩] 9)).alloc (.cells #[.int .i64 0] 3) := fun w => by
    go_enter Tryz.func88, Tryz.ntmps88
    go_wp2_with fail
    go_ret
    exact ⟨by simp, rfl⟩
  have HC := Lib.hid (HC w)
  go_enter Tryz.func77, Tryz.ntmps77
  go_wp2_with (go_at_call 88; refine HC.out.mono ?_; rintro e w' ⟨rfl, rfl⟩)
  go_ret
  exact ⟨rfl, rfl⟩

theorem index_as {T : ByteArray} (hT : T.size ≤ 1000000) {c : Int} (hc : Hid (Lib.index T.data.toList [59, 32] = c)) {w : World} {m : Int} (hm : w.cell? ⟨1, 0, none⟩ = some (.int .i64 m)) :
    Calls Tryz.prog 97 #[.string T, .string ⟨#[59, 32]⟩] w fun e w' => e = .returned (.int .i64 c) ∧ w = w' := by
  refine (Tryz.strings_Index T ⟨#[59, 32]⟩ m w (by omega) hm).mono ?_
  rintro e w' ⟨rfl, rfl⟩
  exact ⟨ret_int hc.out, rfl⟩

/-- what is yielded: the text of each step -/
def isStep (L : List Op) (i : Nat) (v : Value) : Prop := ∃ o S, L[i]? = some o ∧ v = .string S ∧ S.data.toList = stepT o
/-- the boxes of what stands between, and of how much of it is kept; how long a text may be to be sought by brute force -/
def ownS (B : Nat) (A : World) : Prop := A.heap[B + 1]? = some (.cells #[.string ⟨#[59, 32]⟩] 9 (0, 0)) ∧ A.heap[B + 2]? = some (.cells #[.int .i64 0] 3 (0, 0)) ∧ ∃ m, A.cell? ⟨1, 0, none⟩ = some (.int .i64 m)
def leftS (B : Nat) (L : List Op) (A : World) : Prop := ∃ S : ByteArray, A.heap[B]? = some (.cells #[.string S] 9 (0, 0)) ∧ S.data.toList = joinT L
def strLen (w : World) (B : Nat) : Nat := match w.cell? ⟨B, 0, none⟩ with
  | some (.string T) => T.size
  | _ => 0
theorem strLen_eq {w : World} {B : Nat} {T : ByteArray} (h : w.heap[B]? = some (.cells #[.string T] 9 (0, 0))) : strLen w B = T.size := by
  unfold strLen; rw [blk_cell h]; rfl
theorem cut_front (T p : ByteArray) (c : Int) (hc : c = (p.size : Int)) (r : List UInt8) (h : T.data.toList = p.data.toList ++ r) :
    ∀ w, (Instr.slice 9 (.string T) none (some (.int .i64 c)) none).run Tryz.prog w = .ok (.string p) w := fun w => by
  subst hc
  have hl : p.size ≤ T.size := by rw [size_list T, h, List.length_append, ← size_list]; omega
  have e : T.extract 0 p.size = p := same_bytes (by rw [extract_list, h, size_list p, List.take_left, List.drop_zero])
  have := run_slice_string_h (P := Tryz.prog) w 9 T Tryz.underlying9 .i64 (p.size : Int) (by omega) (by show ((p.size : Nat) : Int) ≤ ((T.size : Nat) : Int); omega)
  rw [this, Int.toNat_natCast, e]
theorem cut_back (T q : ByteArray) (c : Int) (p : List UInt8) (hc : c = (p.length : Int)) (h : T.data.toList = p ++ q.data.toList) :
    ∀ w, (Instr.slice 9 (.string T) (some (.int .i64 c)) none none).run Tryz.prog w = .ok (.string q) w := fun w => by
  subst hc
  have hl : p.length ≤ T.size := by rw [size_list T, h, List.length_append]; omega
  have e : T.extract p.length T.size = q := same_bytes (by rw [extract_list, size_list T, List.take_length, h, List.drop_left])
  have := run_slice_string_l (P := Tryz.prog) w 9 T Tryz.underlying9 .i64 (p.length : Int) (by omega) (by show ((p.length : Nat) : Int) ≤ ((T.size : Nat) : Int); omega)
  rw [this, Int.toNat_natCast, e]

theorem join_drop {L : List Op} {i : Nat} {o : Op} (ho : L[i]? = some o) : joinT (L.drop i) = stepT o ++ tailT (L.drop (i + 1)) := by rw [drop_at ho]; rfl

set_option maxRecDepth 100000 in
set_option maxHeartbeats 4000000 in
theorem split_seq (n : Nat) (hn : 1 ≤ n) (B : Nat) (L : List Op) (hne : L ≠ []) (hl : L.length ≤ 1000) (hk : allK L = true) (hf : ∀ o ∈ L, o.Fit) :
    Sq.SeqSt n Tryz.prog 95 #[.pointer (some ⟨B + 1, 0, none⟩), .pointer (some ⟨B, 0, none⟩), .pointer (some ⟨B + 2, 0, none⟩)] (isStep L) L.length B (ownS B) (leftS B L) := by
  intro l J W hJ hown hY h0 hst
  obtain ⟨S, hS, hSl⟩ := hst
  have hbig : ∀ i, (joinT (L.drop i)).length ≤ 52000 := fun i => by
    have h1 := join_len (l := L.drop i) (by unfold allK at *; exact List.all_eq_true.2 fun o ho => List.all_eq_true.1 hk o (List.mem_of_mem_drop ho)) (fun o ho => hf o (List.mem_of_mem_drop ho))
    rw [List.length_drop] at h1; omega
  refine callsIn_of_wp Tryz.func95 rfl trivial ?_ rfl
  simp only [Tryz.ntmps95, List.size_toArray, List.length_cons, List.length_nil, Nat.reduceAdd, Nat.reduceSub, Array.replicate_succ, Array.replicate_zero, List.push_toArray, List.append_toArray, List.nil_append, List.cons_append]
  have hJo := Lib.hid hJ
  have hYo := Lib.hid hY
  have hOo := Lib.hid hown
  have hBo := Lib.hid hbig
  have hKo := Lib.hid (And.intro hk hf)
  have hSo := Lib.hid (And.intro hS hSl)
  have h0o := Lib.hid h0
  have hLo := Lib.hid (List.length_pos_iff.2 hne)
  obtain ⟨o1, o2, m, o3⟩ := hown 0 W h0
  have c1 : W.cell? ⟨B + 1, 0, none⟩ = some (.string ⟨#[59, 32]⟩) := by rw [blk_cell o1]; rfl
  clear hJ hY hown hbig hk hf hS hSl h0 o1 o2 o3 hne
  gi_wp2
  clear c1
  gi_loopw [7] (fun _ wr => ∃ (i : Nat) (T : ByteArray), i < L.length ∧ J i wr ∧ wr.heap[B]? = some (.cells #[.string T] 9 (0, 0)) ∧ Hid (T.data.toList = joinT (L.drop i))) (fun _ wr => strLen wr B)
  case atStart => exact ⟨0, S, hLo.out, h0o.out, hSo.out.1, hSo.out.2⟩
  case round =>
    obtain ⟨i, T, hi, hJi, hT, hTl⟩ := hrel
    obtain ⟨o1, o2, m, o3⟩ := hOo.out i wr hJi
    have c0 : wr.cell? ⟨B, 0, none⟩ = some (.string T) := by rw [blk_cell hT]; rfl
    have c1 : wr.cell? ⟨B + 1, 0, none⟩ = some (.string ⟨#[59, 32]⟩) := by rw [blk_cell o1]; rfl
    have c2 : wr.cell? ⟨B + 2, 0, none⟩ = some (.int .i64 0) := by rw [blk_cell o2]; rfl
    have ho : L[i]? = some L[i] := List.getElem?_eq_getElem hi
    obtain ⟨o, hoe⟩ : ∃ o, L[i] = o := ⟨_, rfl⟩
    rw [hoe] at ho
    have hkn : knownB o.k = true := List.all_eq_true.1 hKo.out.1 o (List.mem_of_getElem? ho)
    have hfo := hKo.out.2 o (List.mem_of_getElem? ho)
    have hTs : T.size ≤ 52000 := by rw [size_list, hTl.out]; exact hBo.out i
    have hjd := join_drop ho
    by_cases hlast : L.drop (i + 1) = []
    · have hTo : T.data.toList = stepT o := by rw [hTl.out, hjd, hlast]; exact List.append_nil _
      have hN : i + 1 = L.length := by have := List.drop_eq_nil_iff.1 hlast; omega
      have HX := Lib.hid (fun (u : World) (hu : u.cell? ⟨1, 0, none⟩ = some (.int .i64 m)) => index_as (T := T) (by omega) (c := -1) (show Hid _ from by show _ = _; rw [hTo]; exact split_miss hkn) hu)
      have HM := Lib.hid o3
      obtain ⟨fn, tmps, assign, body, hy, hR⟩ := hYo.out i (.string T) wr hJi hi ⟨o, T, ho, rfl, hTo⟩
      have HN := Lib.hid hN
      clear ho hoe hkn hfo hjd hlast hTo hN o1 o2 o3 hT
      gi_wp2
      refine ⟨trivial, ?_⟩
      refine (callsIn_wide.2 (HX.out _ HM.out)).mono ?_
      rintro e w' ⟨rfl, rfl⟩
      gi_wp2
      refine hR.mono ?_
      rintro e W3 ⟨rfl, hJ3, hB3⟩
      gi_wp2
      go_end0
      exact ⟨⟨_, rfl⟩, by rw [← HN.out]; exact hJ3⟩
    · obtain ⟨p, hp⟩ : ∃ p : ByteArray, p.data.toList = stepT o := ⟨⟨(stepT o).toArray⟩, rfl⟩
      obtain ⟨q, hq⟩ : ∃ q : ByteArray, q.data.toList = joinT (L.drop (i + 1)) := ⟨⟨(joinT (L.drop (i + 1))).toArray⟩, rfl⟩
      have hTo : T.data.toList = stepT o ++ (59 :: 32 :: q.data.toList) := by rw [hTl.out, hjd, tailT_join hlast, hq]
      have hp50 := (step_len hkn hfo).1
      have hps : p.size = (stepT o).length := by rw [size_list, hp]
      obtain ⟨c, hc⟩ : ∃ c : Int, (p.size : Int) = c := ⟨_, rfl⟩
      have hc0 : 0 ≤ c := by omega
      have hc1 : c ≤ 50 := by omega
      have HX := Lib.hid (fun (u : World) (hu : u.cell? ⟨1, 0, none⟩ = some (.int .i64 m)) => index_as (T := T) (by omega) (c := c) (show Hid _ from by show _ = _; rw [hTo, split_hit hkn, ← hps, hc]) hu)
      have HM := Lib.hid o3
      have hfront := cut_front T p c hc.symm (59 :: 32 :: q.data.toList) (by rw [hTo, hp])
      have hback := cut_back T q (c + 2) (stepT o ++ [59, 32]) (by rw [List.length_append, ← hps, ← hc]; rfl) (by rw [hTo]; simp)
      have HTS := Lib.hid (show q.size < T.size by rw [size_list q, size_list T, hTo, List.length_append]; simp; omega)
      obtain ⟨fn, tmps, assign, body, hy, hR⟩ := hYo.out i (.string p) wr hJi hi ⟨o, p, ho, rfl, hp⟩
      have HQ := Lib.hid (show i + 1 < L.length by have := mt List.drop_eq_nil_iff.2 hlast; omega)
      have HT := Lib.hid hT
      have HQQ := Lib.hid hq
      clear ho hoe hkn hfo hjd hlast hTo o1 o2 o3 hT hp hq hp50 hps hc
      gi_wp2
      refine ⟨trivial, ?_⟩
      refine (callsIn_wide.2 (HX.out _ HM.out)).mono ?_
      rintro e w' ⟨rfl, rfl⟩
      gi_wp2
      refine hR.mono ?_
      rintro e W3 ⟨rfl, hJ3, hB3⟩
      obtain ⟨p1, p2, m3, p3⟩ := hOo.out (i + 1) W3 hJ3
      have hB4 := hB3.trans HT.out
      have d0 : W3.cell? ⟨B, 0, none⟩ = some (.string T) := by rw [blk_cell hB4]; rfl
      have d1 : W3.cell? ⟨B + 1, 0, none⟩ = some (.string ⟨#[59, 32]⟩) := by rw [blk_cell p1]; rfl
      have f0 := blk_free hB4 0
      have HB4 := Lib.hid hB4
      clear p1 p2 p3 hB3 hB4 hy
      gi_wp2
      have hset := blk_set HB4.out 0 (.string q)
      go_roundw
      case rel => exact ⟨i + 1, q, HQ.out, hJo.out _ _ _ hJ3 ((Fr.refl (fun k => k = B) W3).setCell (p := ⟨B, 0, none⟩) (.inl rfl) _), hset, HQQ.out⟩
      case measure => rw [strLen_eq hset, strLen_eq HT.out]; exact HTS.out

end Go.Proofs.YtcoagmkncjonmaaGreatDoor.Pg

namespace Go.Proofs.YtcoagmkncjonmaaGreatDoor.Pg
open Go.RowKit Go.Sort Go.Shelf St Cd It At
open Wh (Fr)
set_option linter.unusedVariables false
set_option linter.unusedSimpArgs false

attribute [local go_sem] Oper.semAt_some

theorem results_cells2 {P : Program} {fn : Func} {p q : Tmp} {ty tz : TypeId} (h : fn.results = #[.cell p ty, .cell q tz]) (tmps : Array Value) (w : World) (g k : Nat) (u v : Value)
    (hp : tmps.getD p undef = .pointer (some ⟨g, 0, none⟩)) (hq : tmps.getD q undef = .pointer (some ⟨k, 0, none⟩)) (h1 : (loadVar ty ⟨g, 0, none⟩).run P w = .ok u w) (h2 : (loadVar tz ⟨k, 0, none⟩).run P w = .ok v w) :
    (results fn tmps).run P w = .ok (.tuple #[u, v]) w := by
  have hp' : tmps[p]?.getD undef = .pointer (some ⟨g, 0, none⟩) := by simpa using hp
  have hq' : tmps[q]?.getD undef = .pointer (some ⟨k, 0, none⟩) := by simpa using hq
  simp [results, h, hp', hq', asAddr, h1, h2, Sem.run_bind, Result.andThen]
theorem load_ops {w : World} {g : Nat} {v : Value} (h : w.heap[g]? = some (.cells #[v] 39 (0, 0))) : (loadVar 39 ⟨g, 0, none⟩).run Tryz.prog w = .ok v w := by
  have c := blk_cell h 0
  go_simp
theorem load_errno {w : World} {g : Nat} {v : Value} (h : w.heap[g]? = some (.cells #[v] 43 (0, 0))) : (loadVar 43 ⟨g, 0, none⟩).run Tryz.prog w = .ok v w := by
  have c := blk_cell h 0
  go_simp

theorem parse_none (n p : Int) (w : World) :
    Calls Tryz.prog 64 #[.string ⟨#[]⟩, .int .i64 n, .int .i64 p] w fun e w' => e = .returned (.tuple #[.slice none 0 0, .int .i64 0]) ∧ Kept w w' := by
  go_enter Tryz.func64, Tryz.ntmps64
  go_wp2_with fail
  have h2 : (((((w.alloc (.cells #[.int .i64 n] 3)).alloc (.cells #[.int .i64 p] 3)).alloc (.cells #[.slice none 0 0] 39)).alloc (.cells #[.int .i64 0] 43))).heap[w.heap.size + 2]? = some (.cells #[.slice none 0 0] 39 (0, 0)) := by
    have := kept_at (Kept.one _ (.cells #[.int .i64 0] 43)) (blk_new ((w.alloc (.cells #[.int .i64 n] 3)).alloc (.cells #[.int .i64 p] 3)) (.cells #[.slice none 0 0] 39))
    simpa using this
  have h3 : (((((w.alloc (.cells #[.int .i64 n] 3)).alloc (.cells #[.int .i64 p] 3)).alloc (.cells #[.slice none 0 0] 39)).alloc (.cells #[.int .i64 0] 43))).heap[w.heap.size + 3]? = some (.cells #[.int .i64 0] 43 (0, 0)) := by
    have := blk_new (((w.alloc (.cells #[.int .i64 n] 3)).alloc (.cells #[.int .i64 p] 3)).alloc (.cells #[.slice none 0 0] 39)) (.cells #[.int .i64 0] 43)
    simpa using this
  refine bodyPost_ret (results_cells2 rfl _ _ (w.heap.size + 2) (w.heap.size + 3) _ _ rfl rfl (load_ops h2) (load_errno h3)) rfl ?_
  exact ⟨rfl, (((Kept.one _ _).more _).more _).more _⟩

/-- what holds between two rounds: how many steps are read, and where all lies -/
structure Rd (w : World) (L : List Op) (n p : Int) (i : Nat) (W : World) : Prop where
  kept : Kept w W
  b0 : W.heap[w.heap.size]? = some (.cells #[.int .i64 n] 3 (0, 0))
  b1 : W.heap[w.heap.size + 1]? = some (.cells #[.int .i64 p] 3 (0, 0))
  b2 : W.heap[w.heap.size + 2]? = some (.cells #[.slice none 0 0] 39 (0, 0))
  b3 : W.heap[w.heap.size + 3]? = some (.cells #[.int .i64 0] 43 (0, 0))
  b6 : W.heap[w.heap.size + 6]? = some (.cells #[.string ⟨#[59, 32]⟩] 9 (0, 0))
  b7 : W.heap[w.heap.size + 7]? = some (.cells #[.int .i64 0] 3 (0, 0))
  row : ∃ v, W.heap[w.heap.size + 4]? = some (.cells #[v] 39 (0, 0)) ∧ W.ownsRow (w.heap.size + 10) 67 3 v i (Rv.fl Op.row (L.take i))
theorem Rd.go {w : World} {L : List Op} {n p : Int} {i : Nat} {A B : World} (h : Rd w L n p i A) (f : Fr (fun k => k = w.heap.size + 5 ∨ k = w.heap.size + 8 ∨ k = w.heap.size + 9) A B) : Rd w L n p i B := by
  have hb : ∀ {k : Nat} {o : Obj}, A.heap[k]? = some o → k ≠ w.heap.size + 5 → k ≠ w.heap.size + 8 → k ≠ w.heap.size + 9 → B.heap[k]? = some o := fun {k o} hk h1 h2 h3 =>
    (f.block k (blk_lt hk) (fun c => by rcases c with c | c | c <;> contradiction)).trans hk
  obtain ⟨v, hv, hr⟩ := h.row
  refine ⟨((Fr.kept (S := fun k => k = w.heap.size + 5 ∨ k = w.heap.size + 8 ∨ k = w.heap.size + 9) h.kept).trans f (fun k c => .inl c)).keeps (fun k c => by omega), hb h.b0 (by omega) (by omega) (by omega), hb h.b1 (by omega) (by omega) (by omega), hb h.b2 (by omega) (by omega) (by omega), hb h.b3 (by omega) (by omega) (by omega), hb h.b6 (by omega) (by omega) (by omega), hb h.b7 (by omega) (by omega) (by omega), v, hb hv (by omega) (by omega) (by omega), ?_⟩
  refine ⟨hr.1, ?_⟩
  rcases hr.2 with hn | ⟨g, cap, cur, e, hbb, hgg, r⟩
  · exact .inl hn
  · exact .inr ⟨g, cap, cur, e, hbb, hb hgg (by omega) (by omega) (by omega), r⟩
theorem Rd.own {w : World} {L : List Op} {n p : Int} {i : Nat} {A : World} (h : Rd w L n p i A) (hE : Env w) : ownS (w.heap.size + 5) A := ⟨h.b6, h.b7, (hE.kept h.kept).mx⟩

theorem row_keep {W W' : World} {base e k n : Nat} {v : Value} {xs : List Value} (h : W.ownsRow base e k v n xs) (hk : Kept W W') : W'.ownsRow base e k v n xs := by
  refine ⟨h.1, ?_⟩
  rcases h.2 with hn | ⟨g, cap, cur, e, hb, hg, r⟩
  · exact .inl hn
  · exact .inr ⟨g, cap, cur, e, hb, kept_at hk hg, r⟩
theorem row_set {W : World} {base e k n : Nat} {v : Value} {xs : List Value} (h : W.ownsRow base e k v n xs) {p : Addr} (hp : p.block < base) (u : Value) : (W.setCell p u).ownsRow base e k v n xs := by
  refine ⟨h.1, ?_⟩
  rcases h.2 with hn | ⟨g, cap, cur, e, hb, hg, r⟩
  · exact .inl hn
  · exact .inr ⟨g, cap, cur, e, hb, (Below.heap_setCell _ _ _ _ (by omega)).trans hg, r⟩
theorem row_put {W : World} {base e k n : Nat} {v : Value} {xs : List Value} (h : W.ownsRow base e k v n xs) {l : Nat} (hl : l < base) (o : Obj) : (W.putObj l o).ownsRow base e k v n xs := by
  refine ⟨h.1, ?_⟩
  rcases h.2 with hn | ⟨g, cap, cur, e, hb, hg, r⟩
  · exact .inl hn
  · exact .inr ⟨g, cap, cur, e, hb, (World.putObj_heap_other (by omega)).trans hg, r⟩
theorem row_base {W : World} {base e k n : Nat} {v : Value} {xs : List Value} (h : W.ownsRow base e k v n xs) : W.ownsRow 0 e k v n xs := by
  refine ⟨h.1, ?_⟩
  rcases h.2 with hn | ⟨g, cap, cur, e, hb, hg, r⟩
  · exact .inl hn
  · exact .inr ⟨g, cap, cur, e, Nat.zero_le _, hg, r⟩
theorem slice_of {W : World} {base e k n : Nat} {v : Value} {xs : List Value} (h : W.ownsRow base e k v n xs) : ∃ a m c, v = .slice a m c := by
  rcases h.2 with ⟨e, _⟩ | ⟨g, cap, cur, e, _⟩
  · exact ⟨_, _, _, e⟩
  · exact ⟨_, _, _, e⟩
theorem news_op (u : World) (k a b : Int) : ∀ j x, ([.int .i64 k, .int .i64 a, .int .i64 b] : List Value)[j]? = some x → (u.alloc (.cells #[.int .i64 k, .int .i64 a, .int .i64 b] 67)).cell? ((⟨u.heap.size, 0, none⟩ : Addr).add j) = some x := fun j x hj => by
  rw [Rv.addr_add, blk_cell (blk_new u _), ← Array.getElem?_toList, Nat.zero_add]; exact hj
theorem one_op (k a b : Int) : ∀ u ∈ ([.int .i64 k, .int .i64 a, .int .i64 b] : List Value), u.oneCell' = true := fun u hu => enc_op.one ⟨k, a, b⟩ u hu

set_option maxRecDepth 100000 in
set_option maxHeartbeats 4000000 in
theorem parse_in (L : List Op) (hne : L ≠ []) (n p : Int) (hR : rightB L n p = true) (hf : ∀ o ∈ L, o.Fit) (s : ByteArray) (hs : s.data.toList = joinT L) (w : World) (hE : Env w) :
    CallsIn Fence.wide 5 Tryz.prog 64 #[.string s, .int .i64 n, .int .i64 p] w fun e w' => ∃ v, e = .returned (.tuple #[v, .int .i64 0]) ∧ Ops w' v L ∧ (∀ b, v.ownBlock = some b → w.heap.size ≤ b ∧ b < w'.heap.size) ∧ Kept w w' := by
  have hl16 := (right_all hR).1
  have hall := (right_all hR).2
  have hK := right_allK hR
  have hs0 : ¬ s.data.toList = (⟨#[]⟩ : ByteArray).data.toList := by
    rw [hs]
    cases L with
    | nil => exact absurd rfl hne
    | cons o l =>
      intro c
      have h1 := (step_len (op_known (hall o (by simp))) (hf o (by simp))).2
      have h2 : (stepT o ++ tailT l).length = 0 := by
        show (joinT (o :: l)).length = 0
        rw [c]; rfl
      rw [List.length_append] at h2
      omega
  have hneq : s.toList.isEmpty = false := by rw [ByteArray.toList_eq]; exact List.isEmpty_eq_false_iff.2 hs0
  have HQ := Lib.hid (split_seq 4 (by omega) (w.heap.size + 5) L hne (by omega) hK hf)
  have HS := Lib.hid (splitseq_any s)
  have HA := Lib.hid hall
  have HF := Lib.hid hf
  have HE := Lib.hid hE
  have HJ := Lib.hid hs
  have HL := Lib.hid hl16
  clear hR hall hK hs0 hne hf hE hs hl16
  refine callsIn_of_wp_marks Tryz.func64 rfl trivial ?_ rfl
  simp only [Tryz.ntmps64, List.size_toArray, List.length_cons, List.length_nil, Nat.reduceAdd, Nat.reduceSub, Array.replicate_succ, Array.replicate_zero, List.push_toArray, List.append_toArray, List.nil_append, List.cons_append]
  have HB : Calls Tryz.prog 77 #[.string s, .string ⟨#[59, 32]⟩] (((((w.alloc (.cells #[.int .i64 n] 3)).alloc (.cells #[.int .i64 p] 3)).alloc (.cells #[.slice none 0 0] 39)).alloc (.cells #[.int .i64 0] 43)).alloc (.cells #[.slice none 0 0] 39)) fun e w' => e = .returned (.func (.func 95) #[] #[.pointer (some ⟨w.heap.size + 5 + 1, 0, none⟩), .pointer (some ⟨w.heap.size + 5, 0, none⟩), .pointer (some ⟨w.heap.size + 5 + 2, 0, none⟩)]) ∧ (Blk.Bl w w' [(#[.int .i64 n], 3), (#[.int .i64 p], 3), (#[.slice none 0 0], 39), (#[.int .i64 0], 43), (#[.slice none 0 0], 39), (#[.string s], 9), (#[.string ⟨#[59, 32]⟩], 9), (#[.int .i64 0], 3)] ∧ w'.heap.size = w.heap.size + 8) := by
    refine (HS.out _).mono ?_
    rintro e w' ⟨rfl, rfl⟩
    refine ⟨by simp, Blk.Bl.start [(#[.int .i64 n], 3), (#[.int .i64 p], 3), (#[.slice none 0 0], 39), (#[.int .i64 0], 43), (#[.slice none 0 0], 39), (#[.string s], 9), (#[.string ⟨#[59, 32]⟩], 9), (#[.int .i64 0], 3)] w, by simp⟩
  have HB := Lib.hid HB
  clear HS
  gi_wp2
  refine ⟨trivial, ?_⟩
  refine (callsIn_wide.2 HB.out).mono ?_
  rintro e w8 ⟨rfl, hB, hsz⟩
  gi_wp2
  have h0 : Rd w L n p 0 w8 := ⟨hB.kept, hB.blk 0 rfl, hB.blk 1 rfl, hB.blk 2 rfl, hB.blk 3 rfl, hB.blk 6 rfl, hB.blk 7 rfl, _, hB.blk 4 rfl, World.ownsRow_nil w8 (w.heap.size + 10) 67 3⟩
  have h5 := hB.blk 5 rfl
  refine Sq.range_st (n := 5) (by omega) (gf := 95) rfl (enters_of Tryz.func95 (by kernel_rfl) rfl) HQ.out rfl (by omega) (Rd w L n p) (fun i A B h f => h.go (f.mono fun k c => .inl (by omega))) (fun i A h => h.own HE.out) (fun A hk => ⟨s, kept_at hk h5, HJ.out⟩) h0
    (fun v => { tmps := #[.string s, .int .i64 n, .int .i64 p, undef, .pointer (some ⟨w.heap.size, 0, none⟩), .pointer (some ⟨w.heap.size + 1, 0, none⟩), .pointer (some ⟨w.heap.size + 1 + 1, 0, none⟩), .pointer (some ⟨w.heap.size + 1 + 1 + 1, 0, none⟩), .pointer (some ⟨w.heap.size + 1 + 1 + 1 + 1, 0, none⟩), v, undef, undef, .string s, .bool false, .string s, .func (.func 95) #[] #[.pointer (some ⟨w.heap.size + 5 + 1, 0, none⟩), .pointer (some ⟨w.heap.size + 5, 0, none⟩), .pointer (some ⟨w.heap.size + 5 + 2, 0, none⟩)], v, undef, undef, undef, undef, undef, undef, undef, undef, undef, undef, undef, undef, undef, undef, undef, undef, undef, undef, undef, undef, undef, undef, undef, undef], defers := [] }) ?assign ?body ?done
  case assign =>
    intro l v W K hK
    gi_wp2
    exact hK
  case body =>
    rintro i v W hI hW hlt ⟨o, S, ho, rfl, hS⟩
    have hok := HA.out o (List.mem_of_getElem? ho)
    have HFD := Lib.hid (fun u hu => find_any o (op_known hok) (HF.out o (List.mem_of_getElem? ho)) (op_own hok) S hS u hu)
    have HOP := Lib.hid (op_any o n p)
    rw [hok] at HOP
    have hW10 : w.heap.size + 10 ≤ W.heap.size := by omega
    have hW2 : w.heap.size < W.heap.size := by omega
    obtain ⟨v0, hv0, hrow⟩ := hI.row
    obtain ⟨pa, cap, rfl⟩ : ∃ pa cap, v0 = .slice pa i cap := by
      rcases hrow.2 with ⟨e, h⟩ | ⟨g, cap, cur, e, _⟩
      · exact ⟨_, _, by rw [e, h]⟩
      · exact ⟨_, _, e⟩
    have hi16 : i < 16 := Nat.lt_of_lt_of_le hlt HL.out
    have hne16 : ((i : Int) == 16) = false := beq_eq_false_iff_ne.2 (by omega)
    have HO := Lib.hid ho
    have HI := Lib.hid hI
    have HV := Lib.hid hv0
    have HROW := Lib.hid hrow
    have HEW := Lib.hid (HE.out.kept hI.kept)
    have HSZ := Lib.hid hsz
    clear ho hok hS hI hv0 hrow hsz h0 h5 hB
    obtain ⟨k, a, b⟩ := o
    simp only [Op.arr] at HFD HOP
    gi_wp2
    refine ⟨trivial, ?_⟩
    refine (CallsIn.inRound _ (callsIn_wide.2 (HFD.out _ HEW.out))).mono ?_
    rintro e u1 ⟨rfl, k1⟩
    have k2 := k1.more (.cells #[.int .i64 k, .int .i64 a, .int .i64 b] 67)
    have n1 := blk_new u1 (.cells #[.int .i64 k, .int .i64 a, .int .i64 b] 67)
    have c4 : (u1.alloc (.cells #[.int .i64 k, .int .i64 a, .int .i64 b] 67)).cell? ⟨w.heap.size, 0, none⟩ = some (.int .i64 n) := by rw [blk_cell (kept_at k2 HI.out.b0)]; rfl
    have c5 : (u1.alloc (.cells #[.int .i64 k, .int .i64 a, .int .i64 b] 67)).cell? ⟨w.heap.size + 1, 0, none⟩ = some (.int .i64 p) := by rw [blk_cell (kept_at k2 HI.out.b1)]; rfl
    have N1 := Lib.hid n1
    have K2 := Lib.hid k2
    clear n1 k1 k2
    gi_wp2
    refine ⟨trivial, ?_⟩
    refine (CallsIn.inRound _ (callsIn_wide.2 (HOP.out _))).mono ?_
    rintro e u3 ⟨rfl, k3⟩
    have hk3 := K2.out.trans k3
    have hb8 := kept_at hk3 HV.out
    have c8 : u3.cell? ⟨w.heap.size + 1 + 1 + 1 + 1, 0, none⟩ = some (.slice pa i cap) := by
      have := blk_cell hb8 0
      exact this
    have hbx := kept_at k3 N1.out
    have d0 : u3.cell? ⟨u1.heap.size, 0, none⟩ = some (.int .i64 k) := by rw [blk_cell hbx]; rfl
    have d1 : u3.cell? ⟨u1.heap.size, 1, none⟩ = some (.int .i64 a) := by rw [blk_cell hbx]; rfl
    have d2 : u3.cell? ⟨u1.heap.size, 2, none⟩ = some (.int .i64 b) := by rw [blk_cell hbx]; rfl
    have f8 := blk_free hb8 0
    clear c4 c5 k3 hbx
    have hk4 := hk3.more (.cells #[.int .i64 k, .int .i64 a, .int .i64 b] 67)
    have HR3 := Lib.hid (row_keep HROW.out hk4)
    have HNW := Lib.hid (news_op u3 k a b)
    have HONE := Lib.hid (one_op k a b)
    have hm1 : i + 1 ≤ maxLen := by unfold maxLen; omega
    have hm2 : (i + 1) * 24 ≤ 140737488355328 := by omega
    have hb0 : w.heap.size + 10 ≤ (u3.alloc (.cells #[.int .i64 k, .int .i64 a, .int .i64 b] 67)).heap.size := by have := Below.size hk4; omega
    have hown : ∀ g, (Value.slice pa i cap).ownBlock = some g → w.heap.size + 10 ≤ g := fun g e => (World.ownsRow.lt HROW.out g e).1
    have HG := Lib.hid hown
    have HB4 := Lib.hid (kept_at hk4 HV.out)
    have HK4 := Lib.hid hk4
    obtain ⟨i0, hi0, hz0, hz1, hz2⟩ := info_parts enc_op.info
    clear hown hk3 hk4 hb8
    gi_wp2_with (gi_at_builtin; refine wpListIn_append_own_at _ rfl _ _ 39 rfl (w.heap.size + 10) 67 i0 (.agg #[.int .i64 0, .int .i64 0, .int .i64 0]) 3 24 Tryz.underlying39 hi0 hz0 hz1 hz2 rfl (by decide) (.slice pa i cap) i (Rv.fl Op.row (L.take i)) rfl HR3.out ⟨u3.heap.size, 0, none⟩ 1 1 [.int .i64 k, .int .i64 a, .int .i64 b] rfl rfl HNW.out HONE.out hm1 hm2 hb0 ?_; intro v' w5 hown' hgrow _ hblk; have hb5 := (hgrow.block _ (blk_lt HB4.out) (fun e => by have := HG.out _ e.symm; omega)).trans HB4.out; have f5 := blk_free hb5 0; have c5 := blk_cell hb5 0; obtain ⟨pa2, n2, cap2, rfl⟩ := slice_of hown'; have HW5 := Lib.hid (And.intro hown' (And.intro hgrow hb5)); clear hown' hgrow hb5 hblk)
    obtain ⟨q1, q2, q3⟩ := HW5.out
    have hsz := HSZ.out
    have hsame : ∀ j, j < W.heap.size → j ≠ w.heap.size + 4 → j < w.heap.size + 10 → (w5.setCell ⟨w.heap.size + 1 + 1 + 1 + 1, 0, none⟩ (.slice pa2 n2 cap2)).heap[j]? = W.heap[j]? := fun j hj h4 h10 => by
      rw [Below.heap_setCell _ _ _ _ (show j ≠ w.heap.size + 1 + 1 + 1 + 1 by omega)]
      rw [q2.block j (Nat.lt_of_lt_of_le hj (Below.size HK4.out)) (fun e => by have := HG.out _ e.symm; omega)]
      exact HK4.out.block j hj
    have hkw := HI.out.kept.trans HK4.out
    have hfr := ((Fr.kept (S := fun j => w.heap.size ≤ j) hkw).grown q2 (fun j e => .inl (by have := HG.out _ e; omega))).setCell (p := ⟨w.heap.size + 1 + 1 + 1 + 1, 0, none⟩) (.inl (show w.heap.size ≤ w.heap.size + 1 + 1 + 1 + 1 by omega)) (.slice pa2 n2 cap2)
    refine ⟨⟨hfr.keeps (fun j c => c), (hsame _ (by omega) (by omega) (by omega)).trans HI.out.b0, (hsame _ (by omega) (by omega) (by omega)).trans HI.out.b1, (hsame _ (by omega) (by omega) (by omega)).trans HI.out.b2, (hsame _ (by omega) (by omega) (by omega)).trans HI.out.b3, (hsame _ (by omega) (by omega) (by omega)).trans HI.out.b6, (hsame _ (by omega) (by omega) (by omega)).trans HI.out.b7, .slice pa2 n2 cap2, ?_, ?_⟩, hsame _ (by omega) (by omega) (by omega), hsame _ (by omega) (by omega) (by omega), hsame _ (by omega) (by omega) (by omega)⟩
    · have := blk_set q3 0 (.slice pa2 n2 cap2)
      exact this
    · have hr := row_set q1 (p := ⟨w.heap.size + 1 + 1 + 1 + 1, 0, none⟩) (by show w.heap.size + 1 + 1 + 1 + 1 < w.heap.size + 10; omega) (.slice pa2 n2 cap2)
      have e : Rv.fl Op.row (L.take (i + 1)) = Rv.fl Op.row (L.take i) ++ [.int .i64 k, .int .i64 a, .int .i64 b] := by
        rw [List.take_add_one, HO.out]
        show Rv.fl Op.row (L.take i ++ [⟨k, a, b⟩]) = _
        rw [Rv.fl_app, Rv.fl_one]; rfl
      rw [e]; exact hr
  case done =>
    intro W hI hK
    obtain ⟨v0, hv0, hrow⟩ := hI.row
    obtain ⟨pa, m0, cap, rfl⟩ := slice_of hrow
    have c8 : W.cell? ⟨w.heap.size + 1 + 1 + 1 + 1, 0, none⟩ = some (.slice pa m0 cap) := by have := blk_cell hv0 0; exact this
    have c6 : W.cell? ⟨w.heap.size + 1 + 1, 0, none⟩ = some (.slice none 0 0) := by have := blk_cell hI.b2 0; exact this
    have c7 : W.cell? ⟨w.heap.size + 1 + 1 + 1, 0, none⟩ = some (.int .i64 0) := by have := blk_cell hI.b3 0; exact this
    have f6 : W.frozen? ⟨w.heap.size + 1 + 1, 0, none⟩ = false := by have := blk_free hI.b2 0; exact this
    have f7 : W.frozen? ⟨w.heap.size + 1 + 1 + 1, 0, none⟩ = false := by have := blk_free hI.b3 0; exact this
    have HI := Lib.hid hI
    have HK := Lib.hid hK
    have HROW := Lib.hid hrow
    have HSZ := Lib.hid hsz
    clear hI hK hrow hv0 hB h0 h5 hsz
    gi_wp2
    have hsz := HSZ.out
    have g2 := HI.out.b2
    have g3 := HI.out.b3
    have s2 := blk_set g2 0 (.slice pa m0 cap)
    have s3 := blk_set ((Below.heap_setCell W ⟨w.heap.size + 2, 0, none⟩ (.slice pa m0 cap) (w.heap.size + 3) (by show w.heap.size + 3 ≠ w.heap.size + 2; omega)).trans g3) 0 (.int .i64 0)
    have s2' := (Below.heap_setCell (W.setCell ⟨w.heap.size + 2, 0, none⟩ (.slice pa m0 cap)) ⟨w.heap.size + 3, 0, none⟩ (.int .i64 0) (w.heap.size + 2) (by show w.heap.size + 2 ≠ w.heap.size + 3; omega)).trans s2
    have sD := (Below.heap_setCell (W.setCell ⟨w.heap.size + 2, 0, none⟩ (.slice pa m0 cap)) ⟨w.heap.size + 3, 0, none⟩ (.int .i64 0) w8.heap.size (by show w8.heap.size ≠ w.heap.size + 3; omega)).trans ((Below.heap_setCell W ⟨w.heap.size + 2, 0, none⟩ (.slice pa m0 cap) w8.heap.size (by show w8.heap.size ≠ w.heap.size + 2; omega)).trans HK.out)
    have hrow2 := row_put (row_set (row_set HROW.out (p := ⟨w.heap.size + 2, 0, none⟩) (by show w.heap.size + 2 < w.heap.size + 10; omega) (.slice pa m0 cap)) (p := ⟨w.heap.size + 3, 0, none⟩) (by show w.heap.size + 3 < w.heap.size + 10; omega) (.int .i64 0)) (l := w8.heap.size) (by omega) (.deferred none)
    rw [List.take_length] at hrow2
    have hfr := (((Fr.kept (S := fun j => w.heap.size ≤ j) HI.out.kept).setCell (p := ⟨w.heap.size + 2, 0, none⟩) (.inl (show w.heap.size ≤ w.heap.size + 2 by omega)) (.slice pa m0 cap)).setCell (p := ⟨w.heap.size + 3, 0, none⟩) (.inl (show w.heap.size ≤ w.heap.size + 3 by omega)) (.int .i64 0)).trans (Sq.fr_put _ w8.heap.size (.deferred none) (fun j => w.heap.size ≤ j) (by omega)) (fun j c => .inl c)
    refine ⟨by simp, .inl ⟨_, _, rfl, run_takeDeferred sD, ?_⟩⟩
    refine ⟨_, results_cells2 rfl _ _ (w.heap.size + 2) (w.heap.size + 3) (.slice pa m0 cap) (.int .i64 0) rfl rfl (load_ops ((World.putObj_heap_other (by omega)).trans s2')) (load_errno ((World.putObj_heap_other (by omega)).trans s3)), _, rfl, ops_row (row_base hrow2) (by have := HL.out; omega), fun b e => ⟨by have := (World.ownsRow.lt hrow2 b e).1; omega, (World.ownsRow.lt hrow2 b e).2⟩, hfr.keeps (fun j c => c)⟩

theorem parse_new {L : List Op} {n p : Int} (hR : rightB L n p = true) (hf : ∀ o ∈ L, o.Fit) {s : ByteArray} (hs : Hid (s.data.toList = textT L)) {w : World} (hE : Env w) :
    Calls Tryz.prog 64 #[.string s, .int .i64 n, .int .i64 p] w fun e w' => ∃ v, e = .returned (.tuple #[v, .int .i64 0]) ∧ Ops w' v L ∧ (∀ b, v.ownBlock = some b → w.heap.size ≤ b ∧ b < w'.heap.size) ∧ Kept w w' := by
  have hs' := hs.out
  rw [right_text hR] at hs'
  by_cases hne : L = []
  · subst hne
    obtain rfl : s = ⟨#[]⟩ := same_bytes hs'
    refine (parse_none n p w).mono ?_
    rintro e w' ⟨rfl, hk⟩
    exact ⟨_, rfl, ops_nil _ _ _, (fun b e => by cases e), hk⟩
  · exact (callsIn_wide (n := 5)).1 (parse_in L hne n p hR hf s hs' w hE)

theorem parse_any {L : List Op} {n p : Int} (hR : rightB L n p = true) (hf : ∀ o ∈ L, o.Fit) {s : ByteArray} (hs : Hid (s.data.toList = textT L)) {w : World} (hE : Env w) :
    Calls Tryz.prog 64 #[.string s, .int .i64 n, .int .i64 p] w fun e w' => ∃ v, e = .returned (.tuple #[v, .int .i64 0]) ∧ Ops w' v L ∧ Kept w w' :=
  (parse_new hR hf hs hE).mono fun e w' ⟨v, h1, h2, _, h3⟩ => ⟨v, h1, h2, h3⟩

end Go.Proofs.YtcoagmkncjonmaaGreatDoor.Pg
