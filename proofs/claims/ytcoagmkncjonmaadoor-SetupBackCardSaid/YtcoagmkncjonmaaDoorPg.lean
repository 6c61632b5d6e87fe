/- Package program: which steps may be, to the program and to the document; steps in memory. The document's programs: which steps may be; slices of steps in memory. Programs: the document's Right, Units and Same, the program's Units. Programs: steps sought by closures; Right and Text's first test; the document's Same, the law's known. -/
import Derived.Test.YtcoagmkncjonmaaDoorPgM
import Derived.Test.YtcoagmkncjonmaaDoorCdC
import Derived.Test.YtcoagmkncjonmaaDoorRv
import Derived.Test.YtcoagmkncjonmaaDoorArgI
import Derived.LoopTactic
import Derived.Lib.MinMax
import Derived.Shelf.Abstract
import Derived.Deep.DeepCutAuto
namespace Go.Proofs.YtcoagmkncjonmaaDoor.Pg
open Go.RowKit Go.Sort St Cd
open Wh (Fr)
set_option linter.unusedVariables false

def inB (n x y : Int) : Bool := decide (x ≤ n ∧ n ≤ y)

theorem within_yes {n x y : Int} (h1 : x ≤ n) (h2 : n ≤ y) (w : World) :
    Calls Tryd.prog 42 #[.int .i64 n, .int .i64 x, .int .i64 y] w fun e w' => e = .returned (.bool true) ∧ w = w' := by
  go_enter Tryd.func42, Tryd.ntmps42
  go_wp2_with fail
  go_ret
  exact ⟨rfl, rfl⟩

theorem within_no {n x y : Int} (h : ¬ (x ≤ n ∧ n ≤ y)) (w : World) :
    Calls Tryd.prog 42 #[.int .i64 n, .int .i64 x, .int .i64 y] w fun e w' => e = .returned (.bool false) ∧ w = w' := by
  by_cases h1 : x ≤ n
  · have h2 : ¬ n ≤ y := fun c => h ⟨h1, c⟩
    clear h
    go_enter Tryd.func42, Tryd.ntmps42
    go_wp2_with fail
    go_ret
    exact ⟨rfl, rfl⟩
  · clear h
    go_enter Tryd.func42, Tryd.ntmps42
    go_wp2_with fail
    go_ret
    exact ⟨rfl, rfl⟩

theorem within_any (n x y : Int) (w : World) :
    Calls Tryd.prog 42 #[.int .i64 n, .int .i64 x, .int .i64 y] w fun e w' => e = .returned (.bool (inB n x y)) ∧ w = w' := by
  unfold inB
  by_cases h : x ≤ n ∧ n ≤ y
  · rw [decide_eq_true h]; exact within_yes h.1 h.2 w
  · rw [decide_eq_false h]; exact within_no h w

theorem within_as {n x y : Int} {v : Bool} (h : Hid (inB n x y = v)) (w : World) :
    Calls Tryd.prog 42 #[.int .i64 n, .int .i64 x, .int .i64 y] w fun e w' => e = .returned (.bool v) ∧ w = w' := by
  have := within_any n x y w; rw [h.out] at this; exact this

theorem right_as' {c : Int} {x : Bool} (h : Hid (right c = x)) (w : World) : Calls Tryd.prog 43 #[.int .i64 c] w fun e w' => e = .returned (.bool x) ∧ w = w' := by
  have := right_any c w; rw [h.out] at this; exact this

/-! ### what a step of each kind comes to -/
theorem op2 (a b n p : Int) : opB ⟨2, a, b⟩ n p = decide (0 ≤ a ∧ a < n ∧ 0 ≤ b ∧ b < p) := rfl
theorem op_n {k a b n p : Int} (h : k ≠ 2) {q : Prop} [Decidable q] (hq : (b = 0 ∧ ((k = 1 ∧ 1 ≤ a ∧ a ≤ 1000) ∨ (k = 3 ∧ a = 0) ∨ (k = 4 ∧ a = 0) ∨ (k = 5 ∧ 0 ≤ a ∧ a ≤ 2147483647) ∨ (k = 6 ∧ 1 ≤ a ∧ a ≤ 16) ∨ (k = 7 ∧ -1 ≤ a ∧ a ≤ 1000000))) ↔ q) : opB ⟨k, a, b⟩ n p = decide q := by
  show opK k a b n p = _
  unfold opK
  rw [if_neg h]
  exact decide_eq_decide.2 hq
theorem op_b {k a b n p : Int} (h : k ≠ 2) (hb : b ≠ 0) : opB ⟨k, a, b⟩ n p = false :=
  (op_n h (q := False) ⟨fun c => hb c.1, fun c => c.elim⟩).trans (decide_eq_false (fun c => c))
theorem op1 (a n p : Int) : opB ⟨1, a, 0⟩ n p = inB a 1 1000 := op_n (by decide) (by omega)
theorem op3 (a n p : Int) : opB ⟨3, a, 0⟩ n p = (a == 0) := (op_n (by decide) (q := a = 0) (by omega)).trans (by cases h : a == 0 <;> simp_all)
theorem op4 (a n p : Int) : opB ⟨4, a, 0⟩ n p = (a == 0) := (op_n (by decide) (q := a = 0) (by omega)).trans (by cases h : a == 0 <;> simp_all)
theorem op5 (a n p : Int) : opB ⟨5, a, 0⟩ n p = inB a 0 2147483647 := op_n (by decide) (by omega)
theorem op6 (a n p : Int) : opB ⟨6, a, 0⟩ n p = inB a 1 16 := op_n (by decide) (by omega)
theorem op7 (a n p : Int) : opB ⟨7, a, 0⟩ n p = inB a (-1) 1000000 := op_n (by decide) (by omega)
theorem op_else {k : Int} (h1 : k ≠ 1) (h2 : k ≠ 2) (h3 : k ≠ 3) (h4 : k ≠ 4) (h5 : k ≠ 5) (h6 : k ≠ 6) (h7 : k ≠ 7) (a n p : Int) : opB ⟨k, a, 0⟩ n p = false :=
  (op_n h2 (q := False) ⟨fun c => by omega, fun c => c.elim⟩).trans (decide_eq_false (fun c => c))

set_option maxHeartbeats 1000000 in
theorem op_2 (a b n p : Int) (w : World) :
    Calls Tryd.prog 29 #[.agg #[.int .i64 2, .int .i64 a, .int .i64 b], .int .i64 n, .int .i64 p] w fun e w' => e = .returned (.bool (opB ⟨2, a, b⟩ n p)) ∧ Kept w w' := by
  obtain ⟨v, hv⟩ : ∃ v, decide (0 ≤ a ∧ a < n ∧ 0 ≤ b ∧ b < p) = v := ⟨_, rfl⟩
  rw [op2, hv]
  by_cases h1 : 0 ≤ a
  · by_cases h2 : a < n
    · by_cases h3 : 0 ≤ b
      · by_cases h4 : b < p
        · obtain rfl : v = true := hv.symm.trans (decide_eq_true ⟨h1, h2, h3, h4⟩)
          clear hv
          go_enter Tryd.func29, Tryd.ntmps29
          go_wp2_with fail
          go_ret
          exact ⟨rfl, Kept.one _ _⟩
        · obtain rfl : v = false := hv.symm.trans (decide_eq_false (fun c => h4 c.2.2.2))
          clear hv
          go_enter Tryd.func29, Tryd.ntmps29
          go_wp2_with fail
          go_ret
          exact ⟨rfl, Kept.one _ _⟩
      · obtain rfl : v = false := hv.symm.trans (decide_eq_false (fun c => h3 c.2.2.1))
        clear hv
        go_enter Tryd.func29, Tryd.ntmps29
        go_wp2_with fail
        go_ret
        exact ⟨rfl, Kept.one _ _⟩
    · obtain rfl : v = false := hv.symm.trans (decide_eq_false (fun c => h2 c.2.1))
      clear hv
      go_enter Tryd.func29, Tryd.ntmps29
      go_wp2_with fail
      go_ret
      exact ⟨rfl, Kept.one _ _⟩
  · obtain rfl : v = false := hv.symm.trans (decide_eq_false (fun c => h1 c.1))
    clear hv
    go_enter Tryd.func29, Tryd.ntmps29
    go_wp2_with fail
    go_ret
    exact ⟨rfl, Kept.one _ _⟩

set_option maxHeartbeats 1000000 in
theorem op_0 (k a n p : Int) (hk : k ≠ 2) (w : World) :
    Calls Tryd.prog 29 #[.agg #[.int .i64 k, .int .i64 a, .int .i64 0], .int .i64 n, .int .i64 p] w fun e w' => e = .returned (.bool (opB ⟨k, a, 0⟩ n p)) ∧ Kept w w' := by
  obtain ⟨v, hv⟩ : ∃ v, opB ⟨k, a, 0⟩ n p = v := ⟨_, rfl⟩
  rw [hv]
  by_cases e1 : k = 1
  · subst e1
    have HW := Lib.hid ((op1 a n p).symm.trans hv)
    clear hv
    go_enter Tryd.func29, Tryd.ntmps29
    go_wp2_with (go_at_call 42; refine (within_as HW _).mono ?_; rintro e w' ⟨rfl, rfl⟩)
    go_ret
    exact ⟨rfl, Kept.one _ _⟩
  by_cases e3 : k = 3
  · subst e3
    have HW := Lib.hid ((op3 a n p).symm.trans hv)
    clear hv
    go_enter Tryd.func29, Tryd.ntmps29
    go_wp2_with fail
    go_ret
    exact ⟨ret_bool HW.out, Kept.one _ _⟩
  by_cases e4 : k = 4
  · subst e4
    have HW := Lib.hid ((op4 a n p).symm.trans hv)
    clear hv
    go_enter Tryd.func29, Tryd.ntmps29
    go_wp2_with fail
    go_ret
    exact ⟨ret_bool HW.out, Kept.one _ _⟩
  by_cases e5 : k = 5
  · subst e5
    have HW := Lib.hid ((op5 a n p).symm.trans hv)
    clear hv
    go_enter Tryd.func29, Tryd.ntmps29
    go_wp2_with (go_at_call 42; refine (within_as HW _).mono ?_; rintro e w' ⟨rfl, rfl⟩)
    go_ret
    exact ⟨rfl, Kept.one _ _⟩
  by_cases e6 : k = 6
  · subst e6
    have HW := Lib.hid ((op6 a n p).symm.trans hv)
    clear hv
    by_cases h0 : a = 0
    · subst h0
      have hr := Lib.hid (show right 0 = true from rfl)
      have hv : v = false := HW.out.symm.trans (by decide)
      subst hv
      go_enter Tryd.func29, Tryd.ntmps29
      go_wp2_with (go_at_call 43; refine (right_as' hr _).mono ?_; rintro e w' ⟨rfl, rfl⟩)
      go_ret
      exact ⟨rfl, Kept.one _ _⟩
    · have h0' : (a != 0) = true := bne_iff_ne.2 h0
      have hr := Lib.hid (show right a = v by
        rw [← HW.out]; unfold right inB
        rw [← Bool.decide_and]; exact decide_eq_decide.2 (by omega))
      clear h0
      go_enter Tryd.func29, Tryd.ntmps29
      cases v
      · go_wp2_with (go_at_call 43; refine (right_as' hr _).mono ?_; rintro e w' ⟨rfl, rfl⟩)
        go_ret
        exact ⟨rfl, Kept.one _ _⟩
      · go_wp2_with (go_at_call 43; refine (right_as' hr _).mono ?_; rintro e w' ⟨rfl, rfl⟩)
        go_ret
        exact ⟨rfl, Kept.one _ _⟩
  by_cases e7 : k = 7
  · subst e7
    have HW := Lib.hid ((op7 a n p).symm.trans hv)
    clear hv
    go_enter Tryd.func29, Tryd.ntmps29
    go_wp2_with (go_at_call 42; refine (within_as HW _).mono ?_; rintro e w' ⟨rfl, rfl⟩)
    go_ret
    exact ⟨rfl, Kept.one _ _⟩
  · have HW := Lib.hid ((op_else e1 hk e3 e4 e5 e6 e7 a n p).symm.trans hv)
    clear hv
    have f1 : (k == 1) = false := beq_eq_false_iff_ne.2 e1
    have f2 : (k == 2) = false := beq_eq_false_iff_ne.2 hk
    have f3 : (k == 3) = false := beq_eq_false_iff_ne.2 e3
    have f4 : (k == 4) = false := beq_eq_false_iff_ne.2 e4
    have f5 : (k == 5) = false := beq_eq_false_iff_ne.2 e5
    have f6 : (k == 6) = false := beq_eq_false_iff_ne.2 e6
    have f7 : (k == 7) = false := beq_eq_false_iff_ne.2 e7
    clear e1 hk e3 e4 e5 e6 e7
    go_enter Tryd.func29, Tryd.ntmps29
    go_wp2_with fail
    go_ret
    exact ⟨ret_bool HW.out, Kept.one _ _⟩

theorem op_any (o : Op) (n p : Int) (w : World) :
    Calls Tryd.prog 29 #[.agg o.arr, .int .i64 n, .int .i64 p] w fun e w' => e = .returned (.bool (opB o n p)) ∧ Kept w w' := by
  obtain ⟨k, a, b⟩ := o
  by_cases hk : k = 2
  · subst hk; exact op_2 a b n p w
  by_cases hb : b = 0
  · subst hb; exact op_0 k a n p hk w
  rw [op_b hk hb]
  have f2 : (k == 2) = false := beq_eq_false_iff_ne.2 hk
  have f0 : (b != 0) = true := bne_iff_ne.2 hb
  clear hk hb
  show Calls Tryd.prog 29 #[.agg #[.int .i64 k, .int .i64 a, .int .i64 b], .int .i64 n, .int .i64 p] w _
  go_enter Tryd.func29, Tryd.ntmps29
  go_wp2_with fail
  go_ret
  exact ⟨rfl, Kept.one _ _⟩

end Go.Proofs.YtcoagmkncjonmaaDoor.Pg

namespace Go.Proofs.YtcoagmkncjonmaaDoor.Pg
open Go.RowKit Go.Sort St Cd
open Wh (Fr)
open Go.Proofs.YtcoagmkncjonmaaDoor.Rv
set_option linter.unusedVariables false

theorem inB_yes {n x y : Int} (h1 : x ≤ n) (h2 : n ≤ y) : inB n x y = true := decide_eq_true ⟨h1, h2⟩
theorem inB_no {n x y : Int} (h : ¬ (x ≤ n ∧ n ≤ y)) : inB n x y = false := decide_eq_false h




/-! ### slices of steps -/
/-- v is a slice that reads as these steps -/
def Ops (W : World) (v : Value) (L : List Op) : Prop :=
  (L = [] ∧ ∃ a cap, v = .slice a 0 cap) ∨
  (L ≠ [] ∧ L.length ≤ maxLen ∧ ∃ b off cap, v = .slice (some ⟨b, off, none⟩) L.length cap ∧ b < W.heap.size ∧ ∀ i o, L[i]? = some o → ∀ j x, o.row[j]? = some x → W.cell? ⟨b, off + i * 3 + j, none⟩ = some x)
section
variable {W W' : World} {v : Value} {L : List Op}
theorem Ops.go (h : Ops W v L) (k : Kept W W') : Ops W' v L := by
  rcases h with h | ⟨h1, h2, b, off, cap, e, hb, hc⟩
  · exact .inl h
  · exact .inr ⟨h1, h2, b, off, cap, e, Nat.lt_of_lt_of_le hb (Below.size k), fun i o hi j x hj => (Below.cell k (p := ⟨b, _, none⟩) hb).trans (hc i o hi j x hj)⟩
theorem Ops.most (h : Ops W v L) : L.length ≤ maxLen := by
  rcases h with ⟨h, _⟩ | ⟨_, h, _⟩
  · rw [h]; exact Nat.zero_le _
  · exact h
theorem Ops.shape (h : Ops W v L) : ∃ p cap, v = .slice p L.length cap := by
  rcases h with ⟨rfl, a, cap, e⟩ | ⟨_, _, b, off, cap, e, _⟩
  · exact ⟨a, cap, e⟩
  · exact ⟨_, cap, e⟩
theorem Ops.len (h : Ops W v L) (ty : TypeId) (u : World) : (Builtin.len_ #[37] ty #[v]).run Tryd.prog u = .ok (.int .i64 (L.length : Int)) u := by
  obtain ⟨p, cap, rfl⟩ := h.shape
  simp [Builtin.len_, run_underlying Tryd.underlying37, goInt]
theorem Ops.at (h : Ops W v L) {i : Nat} {o : Op} (hi : L[i]? = some o) : ∃ b off cap, v = .slice (some ⟨b, off, none⟩) L.length cap ∧ b < W.heap.size ∧ W.cell? ⟨b, off + i * 3, none⟩ = some (.int .i64 o.k) ∧ W.cell? ⟨b, off + i * 3 + 1, none⟩ = some (.int .i64 o.a) ∧ W.cell? ⟨b, off + i * 3 + 2, none⟩ = some (.int .i64 o.b) := by
  rcases h with ⟨rfl, _⟩ | ⟨_, _, b, off, cap, e, hb, hc⟩
  · simp at hi
  · exact ⟨b, off, cap, e, hb, hc i o hi 0 _ rfl, hc i o hi 1 _ rfl, hc i o hi 2 _ rfl⟩
theorem ops_nil (W : World) (a : Option Addr) (cap : Nat) : Ops W (.slice a 0 cap) [] := .inl ⟨rfl, a, cap, rfl⟩
end
theorem enc_op : EncT (α := Op) 37 71 3 24 [.int .i64 0, .int .i64 0, .int .i64 0] Op.row :=
  ⟨Tryd.underlying37, by kernel_rfl, by decide, by decide, rfl, fun u hu => by simp only [List.mem_cons, List.not_mem_nil, or_false] at hu; rcases hu with rfl | rfl | rfl <;> rfl, fun _ => rfl,
    fun o u hu => by simp only [Op.row, List.mem_cons, List.not_mem_nil, or_false] at hu; rcases hu with rfl | rfl | rfl <;> rfl⟩
/-- a slice of a call's own -/
theorem ops_row {W : World} {v : Value} {L : List Op} (h : RowV W v 71 3 Op.row L) (hl : L.length ≤ 100000) : Ops W v L := by
  by_cases hn : L = []
  · subst hn
    obtain ⟨p, n, c, rfl⟩ := h.shape
    rcases h.2 with ⟨e, _⟩ | ⟨g, cap, cur, e, _⟩
    · exact .inl ⟨rfl, _, _, e⟩
    · exact .inl ⟨rfl, _, _, e⟩
  · obtain ⟨g, cap, cur, e, _⟩ := h.full hn
    refine .inr ⟨hn, by unfold maxLen; omega, g, 0, cap, e, h.lt (by rw [e]; rfl), fun i o hi j x hj => ?_⟩
    obtain ⟨g', cap', e', _, _, hc⟩ := h.at (fun _ => rfl) hi
    rw [e] at e'
    obtain rfl : g = g' := by injection e' with e'; injection e' with e'; injection e'
    rw [Nat.zero_add]; exact hc j x hj
/-- an argument -/
theorem ops_lies {W : World} {v : Value} {n : Nat} {F : Nat → Op} (h : Args.Lies W v 3 Op.row Op.Fit n F) : ∃ L : List Op, Ops W v L ∧ L.length = n ∧ ∀ o ∈ L, o.Fit := by
  rcases h with ⟨rfl, a, cap, e⟩ | ⟨h0, hm, b, off, cap, e, hb, hc⟩
  · exact ⟨[], .inl ⟨rfl, a, cap, e⟩, rfl, fun o h => by cases h⟩
  · have hl : ((List.range n).map F).length = n := by simp
    refine ⟨(List.range n).map F, .inr ⟨fun c => by rw [c] at hl; simp at hl; omega, by rw [hl]; exact hm, b, off, cap, by rw [hl]; exact e, hb, fun i o hi j x hj => ?_⟩, hl, fun o ho => ?_⟩
    · have hin : i < n := by have := (List.getElem?_eq_some_iff.1 hi).1; rwa [hl] at this
      simp [hin] at hi
      subst hi
      exact (hc i hin).2 j x hj
    · obtain ⟨i, hi, rfl⟩ := List.mem_map.1 ho
      exact (hc i (List.mem_range.1 hi)).1

end Go.Proofs.YtcoagmkncjonmaaDoor.Pg

namespace Go.Proofs.YtcoagmkncjonmaaDoor.Pg
open Go.RowKit Go.Sort St Cd
set_option linter.unusedVariables false

theorem Ops.pick {W : World} {p : Option Addr} {N cap : Nat} {L : List Op} (h : Ops W (.slice p N cap) L) {i : Nat} (hi : i < L.length) :
    ∃ o b off, L[i]? = some o ∧ p = some ⟨b, off, none⟩ ∧ W.cell? ⟨b, off + i * 3, none⟩ = some (.int .i64 o.k) ∧ W.cell? ⟨b, off + i * 3 + 1, none⟩ = some (.int .i64 o.a) ∧ W.cell? ⟨b, off + i * 3 + 2, none⟩ = some (.int .i64 o.b) := by
  obtain ⟨b, off, cap', e, _, c0, c1, c2⟩ := h.at (List.getElem?_eq_getElem hi)
  injection e with e
  exact ⟨_, b, off, List.getElem?_eq_getElem hi, e, c0, c1, c2⟩
theorem Ops.slice {W : World} {v : Value} {L : List Op} (h : Ops W v L) : ∃ p N cap, v = .slice p N cap ∧ L.length = N ∧ N ≤ maxLen := by
  obtain ⟨p, cap, e⟩ := h.shape
  exact ⟨p, _, cap, e, rfl, h.most⟩
theorem all_take {L : List Op} {f : Op → Bool} {i : Nat} {o : Op} (h : (L.take i).all f = true) (ho : L[i]? = some o) (hf : f o = true) : (L.take (i + 1)).all f = true := by
  rw [List.take_add_one, ho, List.all_append, h]; simp [hf]
theorem all_miss {L : List Op} {f : Op → Bool} {i : Nat} {o : Op} (ho : L[i]? = some o) (hf : f o = false) : L.all f = false := by
  rw [List.all_eq_false]; exact ⟨o, List.mem_of_getElem? ho, by rw [hf]; decide⟩
theorem right_miss {L : List Op} {n p : Int} (h : (L.all fun o => opB o n p) = false) : rightB L n p = false := by unfold rightB; rw [h]; simp
theorem right_hit {L : List Op} {n p : Int} (h : (L.all fun o => opB o n p) = true) : rightB L n p = decide (L.length ≤ 16) := by unfold rightB; rw [h]; simp


theorem units_take {L : List Op} {i : Nat} {o : Op} (ho : L[i]? = some o) : units (L.take (i + 1)) = units (L.take i) + unit o := by
  rw [List.take_add_one, ho]; exact units_snoc _ _
theorem units_bound (L : List Op) (i : Nat) (h : i ≤ 1000) : 0 ≤ units (L.take i) ∧ units (L.take i) ≤ 1000000 := by
  have h1 := units_lo (L.take i)
  have h2 := units_hi (L.take i)
  have h3 : (L.take i).length ≤ 1000 := by rw [List.length_take]; omega
  constructor <;> omega



end Go.Proofs.YtcoagmkncjonmaaDoor.Pg

namespace Go.Proofs.YtcoagmkncjonmaaDoor.Pg
open Go.RowKit Go.Sort Go.Shelf St Cd
set_option linter.unusedVariables false

theorem any_take {L : List Op} {f : Op → Bool} {i : Nat} {o : Op} (h : (L.take i).any f = false) (ho : L[i]? = some o) (hf : f o = false) : (L.take (i + 1)).any f = false := by
  rw [List.take_add_one, ho, List.any_append, h]; simp [hf]
theorem any_hit {L : List Op} {f : Op → Bool} {i : Nat} {o : Op} (ho : L[i]? = some o) (hf : f o = true) : L.any f = true :=
  List.any_eq_true.2 ⟨o, List.mem_of_getElem? ho, hf⟩

set_option maxHeartbeats 1000000 in
theorem index_ops {w : World} {v : Value} {L : List Op} (hv : Ops w v L) (f : Op → Bool) (g : Nat) (lb : Array Value) (eg : ∀ args u, (callFunc g args).run Tryd.prog u = .ok (.enter g args) u)
    (hp : ∀ u o, Kept w u → o ∈ L → Calls Tryd.prog g (#[.agg o.arr] ++ lb) u fun e u' => e = .returned (.bool (f o)) ∧ Kept u u') :
    Calls Tryd.prog 41 #[v, .func (.func g) #[] lb] w fun e w' => ∃ r : Int, e = .returned (.int .i64 r) ∧ ((L.any f = true ∧ 0 ≤ r) ∨ (L.any f = false ∧ r = -1)) ∧ Kept w w' := by
  obtain ⟨q, N, cap, rfl, hN, hm⟩ := hv.slice
  have HV := Lib.hid hv
  have HN := Lib.hid hN
  have HP := Lib.hid hp
  have hm2 : N ≤ 9223372036854775807 := by unfold maxLen at hm; omega
  clear hv hN hm hp
  go_enter Tryd.func41, Tryd.ntmps41
  go_wp2_with fail
  go_loopw [8] (fun x wr => ∃ i : Nat, i ≤ N ∧ x = .int .i64 (i : Int) ∧ Kept w wr ∧ Hid ((L.take i).any f = false)) (fun x _ => N - (intOf x).toNat)
  case atStart => exact ⟨0, Nat.zero_le _, rfl, Kept.refl _, rfl⟩
  case round =>
    obtain ⟨i, hi, rfl, hk, hA⟩ := hrel
    by_cases hlt : i < N
    · obtain ⟨o, b, off, ho, rfl, c0, c1, c2⟩ := (HV.out.go hk).pick (i := i) (by rw [HN.out]; exact hlt)
      have HO := Lib.hid ho
      have HC := Lib.hid (HP.out wr o hk (List.mem_of_getElem? ho))
      obtain ⟨z, hz⟩ : ∃ z, f o = z := ⟨_, rfl⟩
      rw [hz] at HC
      have HZ := Lib.hid hz
      clear ho hz
      obtain ⟨k, a, b2⟩ := o
      simp only [Op.arr] at HC c0 c1 c2
      cases z
      · go_wp2_with fail
        refine HC.out.mono ?_
        rintro e w' ⟨rfl, hk2⟩
        go_wp2_with fail
        go_roundw
        case rel => exact ⟨i + 1, hlt, by go_num, hk.trans hk2, any_take hA.out HO.out HZ.out⟩
        case measure => simp [intOf]; omega
      · go_wp2_with fail
        refine HC.out.mono ?_
        rintro e w' ⟨rfl, hk2⟩
        go_wp2_with fail
        go_ret
        exact ⟨_, rfl, .inl ⟨any_hit HO.out HZ.out, by omega⟩, hk.trans hk2⟩
    · obtain rfl : i = N := by omega
      go_wp2_with fail
      go_ret
      exact ⟨_, rfl, .inr ⟨by have := hA.out; rwa [List.take_of_length_le (Nat.le_of_eq HN.out)] at this, rfl⟩, hk⟩

theorem contains_ops {w : World} {v : Value} {L : List Op} (hv : Ops w v L) (f : Op → Bool) (g : Nat) (lb : Array Value) (eg : ∀ args u, (callFunc g args).run Tryd.prog u = .ok (.enter g args) u)
    (hp : ∀ u o, Kept w u → o ∈ L → Calls Tryd.prog g (#[.agg o.arr] ++ lb) u fun e u' => e = .returned (.bool (f o)) ∧ Kept u u') :
    Calls Tryd.prog 27 #[v, .func (.func g) #[] lb] w fun e w' => e = .returned (.bool (L.any f)) ∧ Kept w w' := by
  have HC := Lib.hid (index_ops hv f g lb eg hp)
  obtain ⟨z, hz⟩ : ∃ z, L.any f = z := ⟨_, rfl⟩
  rw [hz] at HC ⊢
  clear hv hp hz
  go_enter Tryd.func27, Tryd.ntmps27
  go_wp2_with fail
  refine HC.out.mono ?_
  rintro e w' ⟨r, rfl, h | h, hk⟩
  · obtain ⟨rfl, h0⟩ := h
    go_wp2_with fail
    go_ret
    exact ⟨rfl, hk⟩
  · obtain ⟨rfl, rfl⟩ := h
    go_wp2_with fail
    go_ret
    exact ⟨rfl, hk⟩

/-! ### the closures -/
theorem right1_any {w : World} {n p : Int} {B C : Nat} (o : Op) (hB : w.cell? ⟨B, 0, none⟩ = some (.int .i64 n)) (hC : w.cell? ⟨C, 0, none⟩ = some (.int .i64 p)) :
    Calls Tryd.prog 28 #[.agg o.arr, .pointer (some ⟨B, 0, none⟩), .pointer (some ⟨C, 0, none⟩)] w fun e w' => e = .returned (.bool (!opB o n p)) ∧ Kept w w' := by
  have HC := Lib.hid (op_any o n p)
  obtain ⟨z, hz⟩ : ∃ z, opB o n p = z := ⟨_, rfl⟩
  rw [hz] at HC ⊢
  clear hz
  obtain ⟨k, a, b⟩ := o
  simp only [Op.arr] at HC ⊢
  have hB2 := (Below.cell (Kept.one w (.cells #[.int .i64 k, .int .i64 a, .int .i64 b] 71)) (p := ⟨B, 0, none⟩) (World.block_lt_of_cell? w _ hB)).trans hB
  have hC2 := (Below.cell (Kept.one w (.cells #[.int .i64 k, .int .i64 a, .int .i64 b] 71)) (p := ⟨C, 0, none⟩) (World.block_lt_of_cell? w _ hC)).trans hC
  go_enter Tryd.func28, Tryd.ntmps28
  go_wp2_with (go_at_call 29; refine (HC.out _).mono ?_; rintro e w' ⟨rfl, hk⟩)
  go_ret
  exact ⟨rfl, (Kept.one _ _).trans hk⟩

theorem known_any (k : Int) (w : World) :
    Calls Tryd.prog 39 #[.int .i64 k] w fun e w' => e = .returned (.bool (knownB k)) ∧ w = w' := by
  unfold knownB
  by_cases h1 : 1 ≤ k
  · by_cases h2 : k ≤ 7
    · rw [decide_eq_true (show 1 ≤ k ∧ k ≤ 7 from ⟨h1, h2⟩)]
      go_enter Tryd.func39, Tryd.ntmps39
      go_wp2_with fail
      go_ret
      exact ⟨rfl, rfl⟩
    · rw [decide_eq_false (show ¬ (1 ≤ k ∧ k ≤ 7) from fun c => h2 c.2)]
      go_enter Tryd.func39, Tryd.ntmps39
      go_wp2_with fail
      go_ret
      exact ⟨rfl, rfl⟩
  · rw [decide_eq_false (show ¬ (1 ≤ k ∧ k ≤ 7) from fun c => h1 c.1)]
    go_enter Tryd.func39, Tryd.ntmps39
    go_wp2_with fail
    go_ret
    exact ⟨rfl, rfl⟩

theorem text1_any (o : Op) (w : World) :
    Calls Tryd.prog 38 #[.agg o.arr] w fun e w' => e = .returned (.bool (!knownB o.k)) ∧ Kept w w' := by
  have HC := Lib.hid (known_any o.k)
  obtain ⟨z, hz⟩ : ∃ z, knownB o.k = z := ⟨_, rfl⟩
  rw [hz] at HC ⊢
  clear hz
  obtain ⟨k, a, b⟩ := o
  simp only [Op.arr] at HC ⊢
  go_enter Tryd.func38, Tryd.ntmps38
  go_wp2_with (go_at_call 39; refine (HC.out _).mono ?_; rintro e w' ⟨rfl, rfl⟩)
  go_ret
  exact ⟨rfl, Kept.one _ _⟩

theorem any_not (L : List Op) (f : Op → Bool) : (L.any fun o => !f o) = !(L.all f) := by
  induction L with
  | nil => rfl
  | cons o L ih => simp only [List.any_cons, List.all_cons, ih, Bool.not_and]

set_option maxHeartbeats 1000000 in
theorem right_ops {w : World} {v : Value} {L : List Op} (hv : Ops w v L) (n p : Int) :
    Calls Tryd.prog 14 #[v, .int .i64 n, .int .i64 p] w fun e w' => e = .returned (.bool (rightB L n p)) ∧ Kept w w' := by
  have hk2 : Kept w ((w.alloc (.cells #[.int .i64 n] 3)).alloc (.cells #[.int .i64 p] 3)) := (Kept.one _ _).more _
  have hb1 : ((w.alloc (.cells #[.int .i64 n] 3)).alloc (.cells #[.int .i64 p] 3)).heap[w.heap.size]? = some (.cells #[.int .i64 n] 3 (0, 0)) :=
    (Below.block (Kept.one (w.alloc (.cells #[.int .i64 n] 3)) _) _ (by simp)).trans (blk_new w _)
  have hb2 : ((w.alloc (.cells #[.int .i64 n] 3)).alloc (.cells #[.int .i64 p] 3)).heap[w.heap.size + 1]? = some (.cells #[.int .i64 p] 3 (0, 0)) := by
    have := blk_new (w.alloc (.cells #[.int .i64 n] 3)) (.cells #[.int .i64 p] 3)
    rwa [World.size_alloc] at this
  obtain ⟨W, hW⟩ : ∃ W, (w.alloc (.cells #[.int .i64 n] 3)).alloc (.cells #[.int .i64 p] 3) = W := ⟨_, rfl⟩
  rw [hW] at hk2 hb1 hb2
  have HC := Lib.hid (contains_ops (hv.go hk2) (fun o => !opB o n p) 28 #[.pointer (some ⟨w.heap.size, 0, none⟩), .pointer (some ⟨w.heap.size + 1, 0, none⟩)] (enters_of Tryd.func28 (by kernel_rfl) rfl)
    (fun u o hu _ => right1_any o (by rw [blk_cell ((Below.block hu _ (blk_lt hb1)).trans hb1)]; rfl) (by rw [blk_cell ((Below.block hu _ (blk_lt hb2)).trans hb2)]; rfl)))
  rw [any_not] at HC
  obtain ⟨q, N, cap, rfl, hN, hm⟩ := hv.slice
  have HW := Lib.hid hW
  have HK := Lib.hid hk2
  have hsz : W.heap.size = w.heap.size + 2 := by rw [← hW]; simp
  have hm2 : N ≤ 9223372036854775807 := by unfold maxLen at hm; omega
  obtain ⟨z, hz⟩ : ∃ z, (L.all fun o => opB o n p) = z := ⟨_, rfl⟩
  rw [hz] at HC
  by_cases h16 : N ≤ 16
  · have hR : rightB L n p = z := by unfold rightB; rw [hN, decide_eq_true h16, hz]; rfl
    rw [hR]
    have h16' : (N : Int) ≤ 16 := by omega
    clear hv hN hm hW hk2 hb1 hb2 hz hR h16
    go_enter Tryd.func14, Tryd.ntmps14
    go_upto_region 1 with fail
    rw [HW.out]
    go_wp2_with (go_at_call 27; refine HC.out.mono ?_; rintro e w' ⟨rfl, hk⟩)
    go_ret
    exact ⟨ret_bool (by simp), HK.out.trans hk⟩
  · have hR : rightB L n p = false := by unfold rightB; rw [hN, decide_eq_false h16]; rfl
    rw [hR]
    have h16' : ¬ (N : Int) ≤ 16 := by omega
    clear hv hN hm hW hk2 hb1 hb2 hz hR h16
    go_enter Tryd.func14, Tryd.ntmps14
    go_upto_region 1 with fail
    rw [HW.out]
    go_wp2_with fail
    go_ret
    exact ⟨rfl, HK.out⟩

end Go.Proofs.YtcoagmkncjonmaaDoor.Pg
