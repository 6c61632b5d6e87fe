/- The document's programs: which steps may be; slices of steps in memory. -/
import Derived.Test.YtplkhinjlgmilaaPg
import Derived.LoopTactic
namespace Go.Proofs.Ytplkhinjlgmilaa.Pg
open Go.RowKit Go.Sort St Cd
open Wh (Fr)
open Go.Proofs.Ytplkhinjlgmilaa.Rv
set_option linter.unusedVariables false

theorem inB_yes {n x y : Int} (h1 : x ≤ n) (h2 : n ≤ y) : inB n x y = true := decide_eq_true ⟨h1, h2⟩
theorem inB_no {n x y : Int} (h : ¬ (x ≤ n ∧ n ≤ y)) : inB n x y = false := decide_eq_false h

set_option maxHeartbeats 1000000 in
theorem rop_2 (a b n p : Int) (w : World) :
    Calls Try.prog 52 #[.agg #[.int .i64 2, .int .i64 a, .int .i64 b], .int .i64 n, .int .i64 p] w fun e w' => e = .returned (.bool (opB ⟨2, a, b⟩ n p)) ∧ Kept w w' := by
  obtain ⟨v, hv⟩ : ∃ v, decide (0 ≤ a ∧ a < n ∧ 0 ≤ b ∧ b < p) = v := ⟨_, rfl⟩
  rw [op2, hv]
  by_cases h1 : 0 ≤ a
  · by_cases h2 : a < n
    · by_cases h3 : 0 ≤ b
      · by_cases h4 : b < p
        · obtain rfl : v = true := hv.symm.trans (decide_eq_true ⟨h1, h2, h3, h4⟩)
          clear hv
          go_enter Try.func52, Try.ntmps52
          go_wp2_with fail
          go_ret
          exact ⟨rfl, Kept.one _ _⟩
        · obtain rfl : v = false := hv.symm.trans (decide_eq_false (fun c => h4 c.2.2.2))
          clear hv
          go_enter Try.func52, Try.ntmps52
          go_wp2_with fail
          go_ret
          exact ⟨rfl, Kept.one _ _⟩
      · obtain rfl : v = false := hv.symm.trans (decide_eq_false (fun c => h3 c.2.2.1))
        clear hv
        go_enter Try.func52, Try.ntmps52
        go_wp2_with fail
        go_ret
        exact ⟨rfl, Kept.one _ _⟩
    · obtain rfl : v = false := hv.symm.trans (decide_eq_false (fun c => h2 c.2.1))
      clear hv
      go_enter Try.func52, Try.ntmps52
      go_wp2_with fail
      go_ret
      exact ⟨rfl, Kept.one _ _⟩
  · obtain rfl : v = false := hv.symm.trans (decide_eq_false (fun c => h1 c.1))
    clear hv
    go_enter Try.func52, Try.ntmps52
    go_wp2_with fail
    go_ret
    exact ⟨rfl, Kept.one _ _⟩

set_option maxHeartbeats 1000000 in
theorem rop_0 (k a n p : Int) (hk : k ≠ 2) (w : World) :
    Calls Try.prog 52 #[.agg #[.int .i64 k, .int .i64 a, .int .i64 0], .int .i64 n, .int .i64 p] w fun e w' => e = .returned (.bool (opB ⟨k, a, 0⟩ n p)) ∧ Kept w w' := by
  obtain ⟨v, hv⟩ : ∃ v, opB ⟨k, a, 0⟩ n p = v := ⟨_, rfl⟩
  rw [hv]
  by_cases e1 : k = 1
  · subst e1
    have HW := (op1 a n p).symm.trans hv
    by_cases h1 : 1 ≤ a
    · by_cases h2 : a ≤ 1000
      · obtain rfl : v = true := HW.symm.trans (inB_yes h1 h2)
        clear hv HW
        go_enter Try.func52, Try.ntmps52
        go_wp2_with fail
        go_ret
        exact ⟨rfl, Kept.one _ _⟩
      · obtain rfl : v = false := HW.symm.trans (inB_no (fun c => h2 c.2))
        clear hv HW
        go_enter Try.func52, Try.ntmps52
        go_wp2_with fail
        go_ret
        exact ⟨rfl, Kept.one _ _⟩
    · obtain rfl : v = false := HW.symm.trans (inB_no (fun c => h1 c.1))
      clear hv HW
      go_enter Try.func52, Try.ntmps52
      go_wp2_with fail
      go_ret
      exact ⟨rfl, Kept.one _ _⟩
  by_cases e3 : k = 3
  · subst e3
    have HW := Lib.hid ((op3 a n p).symm.trans hv)
    clear hv
    go_enter Try.func52, Try.ntmps52
    go_wp2_with fail
    go_ret
    exact ⟨ret_bool HW.out, Kept.one _ _⟩
  by_cases e4 : k = 4
  · subst e4
    have HW := Lib.hid ((op4 a n p).symm.trans hv)
    clear hv
    go_enter Try.func52, Try.ntmps52
    go_wp2_with fail
    go_ret
    exact ⟨ret_bool HW.out, Kept.one _ _⟩
  by_cases e5 : k = 5
  · subst e5
    have HW := (op5 a n p).symm.trans hv
    by_cases h1 : 0 ≤ a
    · by_cases h2 : a ≤ 2147483647
      · obtain rfl : v = true := HW.symm.trans (inB_yes h1 h2)
        clear hv HW
        go_enter Try.func52, Try.ntmps52
        go_wp2_with fail
        go_ret
        exact ⟨rfl, Kept.one _ _⟩
      · obtain rfl : v = false := HW.symm.trans (inB_no (fun c => h2 c.2))
        clear hv HW
        go_enter Try.func52, Try.ntmps52
        go_wp2_with fail
        go_ret
        exact ⟨rfl, Kept.one _ _⟩
    · obtain rfl : v = false := HW.symm.trans (inB_no (fun c => h1 c.1))
      clear hv HW
      go_enter Try.func52, Try.ntmps52
      go_wp2_with fail
      go_ret
      exact ⟨rfl, Kept.one _ _⟩
  by_cases e6 : k = 6
  · subst e6
    have HW := (op6 a n p).symm.trans hv
    by_cases h1 : 1 ≤ a
    · by_cases h2 : a ≤ 16
      · obtain rfl : v = true := HW.symm.trans (inB_yes h1 h2)
        clear hv HW
        go_enter Try.func52, Try.ntmps52
        go_wp2_with fail
        go_ret
        exact ⟨rfl, Kept.one _ _⟩
      · obtain rfl : v = false := HW.symm.trans (inB_no (fun c => h2 c.2))
        clear hv HW
        go_enter Try.func52, Try.ntmps52
        go_wp2_with fail
        go_ret
        exact ⟨rfl, Kept.one _ _⟩
    · obtain rfl : v = false := HW.symm.trans (inB_no (fun c => h1 c.1))
      clear hv HW
      go_enter Try.func52, Try.ntmps52
      go_wp2_with fail
      go_ret
      exact ⟨rfl, Kept.one _ _⟩
  by_cases e7 : k = 7
  · subst e7
    have HW := (op7 a n p).symm.trans hv
    by_cases h1 : -1 ≤ a
    · by_cases h2 : a ≤ 1000000
      · obtain rfl : v = true := HW.symm.trans (inB_yes h1 h2)
        clear hv HW
        go_enter Try.func52, Try.ntmps52
        go_wp2_with fail
        go_ret
        exact ⟨rfl, Kept.one _ _⟩
      · obtain rfl : v = false := HW.symm.trans (inB_no (fun c => h2 c.2))
        clear hv HW
        go_enter Try.func52, Try.ntmps52
        go_wp2_with fail
        go_ret
        exact ⟨rfl, Kept.one _ _⟩
    · obtain rfl : v = false := HW.symm.trans (inB_no (fun c => h1 c.1))
      clear hv HW
      go_enter Try.func52, Try.ntmps52
      go_wp2_with fail
      go_ret
      exact ⟨rfl, Kept.one _ _⟩
  have HW := Lib.hid ((op_else e1 hk e3 e4 e5 e6 e7 a n p).symm.trans hv)
  clear hv
  have f1 : (k == 1) = false := beq_eq_false_iff_ne.2 e1
  have f2 : (k == 2) = false := beq_eq_false_iff_ne.2 hk
  have f3 : (k == 3) = false := beq_eq_false_iff_ne.2 e3
  have f4 : (k == 4) = false := beq_eq_false_iff_ne.2 e4
  have f5 : (k == 5) = false := beq_eq_false_iff_ne.2 e5
  have f6 : (k == 6) = false := beq_eq_false_iff_ne.2 e6
  have f7 : (k == 7) = false := beq_eq_false_iff_ne.2 e7
  have f0 : (k != 2) = true := bne_iff_ne.2 hk
  clear e1 hk e3 e4 e5 e6 e7
  go_enter Try.func52, Try.ntmps52
  go_wp2_with fail
  go_ret
  exact ⟨ret_bool HW.out, Kept.one _ _⟩

theorem rop_any (o : Op) (n p : Int) (w : World) :
    Calls Try.prog 52 #[.agg o.arr, .int .i64 n, .int .i64 p] w fun e w' => e = .returned (.bool (opB o n p)) ∧ Kept w w' := by
  obtain ⟨k, a, b⟩ := o
  by_cases hk : k = 2
  · subst hk; exact rop_2 a b n p w
  by_cases hb : b = 0
  · subst hb; exact rop_0 k a n p hk w
  rw [op_b hk hb]
  have f2 : (k == 2) = false := beq_eq_false_iff_ne.2 hk
  have f3 : (k != 2) = true := bne_iff_ne.2 hk
  have f0 : (b != 0) = true := bne_iff_ne.2 hb
  clear hk hb
  show Calls Try.prog 52 #[.agg #[.int .i64 k, .int .i64 a, .int .i64 b], .int .i64 n, .int .i64 p] w _
  go_enter Try.func52, Try.ntmps52
  go_wp2_with fail
  go_ret
  exact ⟨rfl, Kept.one _ _⟩

/-! ### slices of steps -/
/-- v is a slice that reads as these steps -/
def Ops (W : World) (v : Value) (L : List Op) : Prop :=
  (L = [] ∧ ∃ a cap, v = .slice a 0 cap) ∨
  (L ≠ [] ∧ L.length ≤ maxLen ∧ ∃ b off cap, v = .slice (some ⟨b, off, none⟩) L.length cap ∧ b < W.heap.size ∧ ∀ i o, L[i]? = some o → ∀ j x, o.row[j]? = some x → W.cell? ⟨b, off + i * 3 + j, none⟩ = some x)
section
variable {W W' : World} {v : Value} {L : List Op}
theorem Ops.go (h : Ops W v L) (k : Kept W W') : Ops W' v L := by
  rcases h with h | ⟨h1, h2, b, off, cap, e, hb, hc⟩
  · exact .inl h
  · exact .inr ⟨h1, h2, b, off, cap, e, Nat.lt_of_lt_of_le hb (Below.size k), fun i o hi j x hj => (Below.cell k (p := ⟨b, _, none⟩) hb).trans (hc i o hi j x hj)⟩
theorem Ops.most (h : Ops W v L) : L.length ≤ maxLen := by
  rcases h with ⟨h, _⟩ | ⟨_, h, _⟩
  · rw [h]; exact Nat.zero_le _
  · exact h
theorem Ops.shape (h : Ops W v L) : ∃ p cap, v = .slice p L.length cap := by
  rcases h with ⟨rfl, a, cap, e⟩ | ⟨_, _, b, off, cap, e, _⟩
  · exact ⟨a, cap, e⟩
  · exact ⟨_, cap, e⟩
theorem Ops.len (h : Ops W v L) (ty : TypeId) (u : World) : (Builtin.len_ #[54] ty #[v]).run Try.prog u = .ok (.int .i64 (L.length : Int)) u := by
  obtain ⟨p, cap, rfl⟩ := h.shape
  simp [Builtin.len_, run_underlying Try.underlying54, goInt]
theorem Ops.at (h : Ops W v L) {i : Nat} {o : Op} (hi : L[i]? = some o) : ∃ b off cap, v = .slice (some ⟨b, off, none⟩) L.length cap ∧ b < W.heap.size ∧ W.cell? ⟨b, off + i * 3, none⟩ = some (.int .i64 o.k) ∧ W.cell? ⟨b, off + i * 3 + 1, none⟩ = some (.int .i64 o.a) ∧ W.cell? ⟨b, off + i * 3 + 2, none⟩ = some (.int .i64 o.b) := by
  rcases h with ⟨rfl, _⟩ | ⟨_, _, b, off, cap, e, hb, hc⟩
  · simp at hi
  · exact ⟨b, off, cap, e, hb, hc i o hi 0 _ rfl, hc i o hi 1 _ rfl, hc i o hi 2 _ rfl⟩
theorem ops_nil (W : World) (a : Option Addr) (cap : Nat) : Ops W (.slice a 0 cap) [] := .inl ⟨rfl, a, cap, rfl⟩
end
theorem enc_op : EncT (α := Op) 54 64 3 24 [.int .i64 0, .int .i64 0, .int .i64 0] Op.row :=
  ⟨Try.underlying54, by kernel_rfl, by decide, by decide, rfl, fun u hu => by simp only [List.mem_cons, List.not_mem_nil, or_false] at hu; rcases hu with rfl | rfl | rfl <;> rfl, fun _ => rfl,
    fun o u hu => by simp only [Op.row, List.mem_cons, List.not_mem_nil, or_false] at hu; rcases hu with rfl | rfl | rfl <;> rfl⟩
/-- a slice of a call's own -/
theorem ops_row {W : World} {v : Value} {L : List Op} (h : RowV W v 64 3 Op.row L) (hl : L.length ≤ 100000) : Ops W v L := by
  by_cases hn : L = []
  · subst hn
    obtain ⟨p, n, c, rfl⟩ := h.shape
    rcases h.2 with ⟨e, _⟩ | ⟨g, cap, cur, e, _⟩
    · exact .inl ⟨rfl, _, _, e⟩
    · exact .inl ⟨rfl, _, _, e⟩
  · obtain ⟨g, cap, cur, e, _⟩ := h.full hn
    refine .inr ⟨hn, by unfold maxLen; omega, g, 0, cap, e, h.lt (by rw [e]; rfl), fun i o hi j x hj => ?_⟩
    obtain ⟨g', cap', e', _, _, hc⟩ := h.at (fun _ => rfl) hi
    rw [e] at e'
    obtain rfl : g = g' := by injection e' with e'; injection e' with e'; injection e'
    rw [Nat.zero_add]; exact hc j x hj
/-- an argument -/
theorem ops_lies {W : World} {v : Value} {n : Nat} {F : Nat → Op} (h : Args.Lies W v 3 Op.row Op.Fit n F) : ∃ L : List Op, Ops W v L ∧ L.length = n ∧ ∀ o ∈ L, o.Fit := by
  rcases h with ⟨rfl, a, cap, e⟩ | ⟨h0, hm, b, off, cap, e, hb, hc⟩
  · exact ⟨[], .inl ⟨rfl, a, cap, e⟩, rfl, fun o h => by cases h⟩
  · have hl : ((List.range n).map F).length = n := by simp
    refine ⟨(List.range n).map F, .inr ⟨fun c => by rw [c] at hl; simp at hl; omega, by rw [hl]; exact hm, b, off, cap, by rw [hl]; exact e, hb, fun i o hi j x hj => ?_⟩, hl, fun o ho => ?_⟩
    · have hin : i < n := by have := (List.getElem?_eq_some_iff.1 hi).1; rwa [hl] at this
      simp [hin] at hi
      subst hi
      exact (hc i hin).2 j x hj
    · obtain ⟨i, hi, rfl⟩ := List.mem_map.1 ho
      exact (hc i (List.mem_range.1 hi)).1

end Go.Proofs.Ytplkhinjlgmilaa.Pg
