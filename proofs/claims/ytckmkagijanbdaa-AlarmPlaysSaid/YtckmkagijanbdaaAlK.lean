/- maps.Keys over a map whose keys are names of alarms; slices.Collect of it. -/
import Derived.Test.YtckmkagijanbdaaAlS
import Derived.Test.YtckmkagijanbdaaAlMap
import Derived.RangeFuncNested
import Derived.RangeFuncBound
import Derived.RangeFuncCalls
import Derived.RangeFuncLeaves
import Derived.Shelf.Abstract
import Derived.Shelf.RegionOpen
import Derived.Sort.MapsRangeIn
import Derived.Maps.OwnIn
import Derived.WalkKit
import Derived.OwnWalkIn
import Derived.TacticsInMore
import Derived.RegionIn
import Derived.LoopNIn
import Derived.LoopIn
namespace Go.Proofs.Ytckmkagijanbdaa.Al
open Go.RowKit Go.Maps Go.Sort Go.Shelf IdM
set_option linter.unusedVariables false

def nv (x : Nm) : Value := .agg #[.int .i64 x.n, .int .i64 x.i, .int .i64 x.s, .int .i64 x.a, .int .i64 x.k]
theorem nv_iv (x : Nm) : nv x = iv x.ints := rfl

/-! ### what reads as a name's key is a name -/
theorem wf_i64 {a : Int} (h : (Lit.int .i64 a).wf = true) : I64 a := by
  simp only [Lit.wf, Bool.and_eq_true, decide_eq_true_eq] at h
  have h1 := h.1
  have h2 := h.2
  simp only [show IntKind.i64.max = 9223372036854775807 from rfl] at h2
  simp only [show IntKind.i64.min = -9223372036854775808 from rfl] at h1
  exact ⟨h1, h2⟩
theorem lits_3_inv (d : Nat) {c : Value} {ls : List Lit} (h : Try.prog.keyLits (d + 1) 3 [c] = some ls) : ∃ n, c = .int .i64 n ∧ I64 n ∧ ls = [.int .i64 n] := by
  unfold Program.keyLits at h
  simp only [Try.underlying3] at h
  cases c <;> simp at h
  rename_i q n
  obtain ⟨⟨rfl, hw⟩, rfl⟩ := h
  exact ⟨n, rfl, wf_i64 hw, rfl⟩
theorem lits_29_inv (d : Nat) {a b c : Value} {ls : List Lit} (h : Try.prog.keyLits (d + 2) 29 [a, b, c] = some ls) : ∃ n i s, a = .int .i64 n ∧ b = .int .i64 i ∧ c = .int .i64 s ∧ I64 n ∧ I64 i ∧ I64 s ∧ ls = [.int .i64 n, .int .i64 i, .int .i64 s] := by
  unfold Program.keyLits at h
  simp only [Try.underlying29] at h
  rw [if_pos ⟨by rw [cells_29]; rfl, by kernel_rfl⟩] at h
  simp [cells_3] at h
  obtain ⟨la, ha, h⟩ := Option.bind_eq_some_iff.1 h
  obtain ⟨n, rfl, hn, rfl⟩ := lits_3_inv d ha
  simp [Option.bind_eq_some_iff] at h
  obtain ⟨lb, ⟨l2, hb, l3, ⟨l4, hc, rfl⟩, rfl⟩, h⟩ := h
  obtain ⟨i, rfl, hi, rfl⟩ := lits_3_inv d hb
  obtain ⟨s, rfl, hs, rfl⟩ := lits_3_inv d hc
  exact ⟨n, i, s, rfl, rfl, rfl, hn, hi, hs, by simpa using h.symm⟩
theorem lits_31_inv (d : Nat) {a b c e : Value} {ls : List Lit} (h : Try.prog.keyLits (d + 3) 31 [a, b, c, e] = some ls) : ∃ n i s z, a = .int .i64 n ∧ b = .int .i64 i ∧ c = .int .i64 s ∧ e = .int .i64 z ∧ I64 n ∧ I64 i ∧ I64 s ∧ I64 z ∧ ls = [.int .i64 n, .int .i64 i, .int .i64 s, .int .i64 z] := by
  unfold Program.keyLits at h
  simp only [Try.underlying31] at h
  rw [if_pos ⟨by rw [cells_31]; rfl, by kernel_rfl⟩] at h
  simp [cells_3, cells_29] at h
  obtain ⟨la, ha, h⟩ := Option.bind_eq_some_iff.1 h
  obtain ⟨n, i, s, rfl, rfl, rfl, hn, hi, hs, rfl⟩ := lits_29_inv d ha
  simp [Option.bind_eq_some_iff] at h
  obtain ⟨lb, ⟨l2, hb, rfl⟩, h⟩ := h
  obtain ⟨z, rfl, hz, rfl⟩ := lits_3_inv (d + 1) hb
  exact ⟨n, i, s, z, rfl, rfl, rfl, rfl, hn, hi, hs, hz, by simpa using h.symm⟩
set_option maxRecDepth 100000 in
theorem key_inv {v : Value} {kl : Lit} (h : keyOf Try.prog 42 v = some kl) : ∃ x : Nm, v = nv x ∧ okN x ∧ kl = nmKey.l x := by
  obtain ⟨m, hm⟩ : ∃ m, Try.prog.types.size + 1 = m + 4 := ⟨Try.prog.types.size - 3, by
    have : 3 < Try.prog.types.size := of_decide_eq_true (by kernel_rfl)
    omega⟩
  unfold keyOf at h
  simp only [Try.underlying42] at h
  split at h
  · rename_i hf
    rw [hm] at h
    cases v <;> simp [Value.formed, Try.underlying42, cells_42] at hf
    rename_i cs
    obtain ⟨ls, hl, rfl⟩ := Option.map_eq_some_iff.1 h
    obtain ⟨l⟩ := cs
    match l, hf.2 with
    | [a, b, c, e, f], _ =>
      unfold Program.keyLits at hl
      simp only [Try.underlying42] at hl
      rw [if_pos ⟨by rw [cells_42]; rfl, by kernel_rfl⟩] at hl
      simp [cells_3, cells_31, Value.cells] at hl
      obtain ⟨la, ha, hl⟩ := Option.bind_eq_some_iff.1 hl
      obtain ⟨n, i, s, z, rfl, rfl, rfl, rfl, hn, hi, hs, hz, rfl⟩ := lits_31_inv m ha
      simp [Option.bind_eq_some_iff] at hl
      obtain ⟨lb, ⟨l2, hb, rfl⟩, hl⟩ := hl
      obtain ⟨k, rfl, hk, rfl⟩ := lits_3_inv (m + 2) hb
      refine ⟨⟨n, i, s, z, k⟩, rfl, ⟨hn, hi, hs, hz, hk⟩, ?_⟩
      have : ls = litN ⟨n, i, s, z, k⟩ := by simpa [litN, Nm.ints] using hl.symm
      rw [this]; rfl
  · cases h

/-! ### which names have come -/
def ColN {H : Type} (D0 : DataW H) (left : Lit → Bool) (ss : List Nm) : Prop := ss.Nodup ∧ ∀ x, x ∈ ss ↔ okN x ∧ has D0 (nmKey.l x) = true ∧ left (nmKey.l x) = false
section
variable {H : Type} {D0 : DataW H} {left : Lit → Bool} {ss : List Nm}
theorem ColN.start (D0 : DataW H) : ColN D0 (has D0) [] := ⟨List.nodup_nil, fun x => by cases has D0 (nmKey.l x) <;> simp⟩
theorem same_yes (x : Nm) : (nmKey.l x).sameKey (nmKey.l x) = true := by
  show (Lit.string (keyBytes (litN x))).sameKey (.string (keyBytes (litN x))) = true
  simp [Lit.sameKey]
theorem same_no {x y : Nm} (h : nmKey.l y ≠ nmKey.l x) : (nmKey.l y).sameKey (nmKey.l x) = false := by
  show (Lit.string (keyBytes (litN y))).sameKey (.string (keyBytes (litN x))) = false
  simp [Lit.sameKey]
  exact fun e => h (congrArg Lit.string e)
theorem ColN.step (h : ColN D0 left ss) {x : Nm} (hx : okN x) {y : DataW H} (hlk : left (nmKey.l x) = true) (hat : ∀ zd, D0.atKey (nmKey.l x) zd = y) : ColN D0 (fun z => left z && !z.sameKey (nmKey.l x)) (ss ++ [x]) := by
  have hhas : has D0 (nmKey.l x) = true := has_true_of_atKey hat
  have hnew : x ∉ ss := fun c => by have := ((h.2 x).1 c).2.2; rw [hlk] at this; cases this
  refine ⟨List.nodup_append.2 ⟨h.1, by simp, fun a ha b hb => by simp at hb; subst hb; exact fun e => hnew (e ▸ ha)⟩, fun y => ?_⟩
  by_cases hy : y = x
  · subst hy; simp [hx, hhas, same_yes]
  · constructor
    · intro hm
      have hm : y ∈ ss := by
        rcases List.mem_append.1 hm with c | c
        · exact c
        · simp at c; exact absurd c hy
      obtain ⟨h1, h2, h3⟩ := (h.2 y).1 hm
      exact ⟨h1, h2, by simp [h3]⟩
    · rintro ⟨h1, h2, h3⟩
      refine List.mem_append.2 (Or.inl ((h.2 y).2 ⟨h1, h2, ?_⟩))
      have hne : nmKey.l y ≠ nmKey.l x := fun e => hy (nmKey.inj y x h1 hx e)
      simpa [same_no hne] using h3
end

set_option maxRecDepth 100000 in
set_option maxHeartbeats 2000000 in
theorem akeys_in {H : Type} (F : Fence) (n : Nat) (h46 : F.fn 46) (hro : F.round = none) (hn : 1 ≤ n) (l Bm b nn : Nat) (D0 : DataW H) {R : Value → Option (DataW H × List MemPlace)} (J Jx : List Nm → World → Prop)
    (hY : ∀ pre x W, J pre W → pre.length < Maps.size D0 → YieldAt F (n - 1) Try.prog l #[nv x] W fun e W' => (e = .returned (.bool true) ∧ J (pre ++ [x]) W' ∧ KeepsWalks W W') ∨ (e = .returned (.bool false) ∧ Jx (pre ++ [x]) W'))
    (W : World) (hJ : AbidesFrom W.heap.size J) (hm : W.cell? ⟨Bm, 0, none⟩ = some (.map (some b))) (hown : W.ownsMap Try.prog 42 R b nn D0) (h0 : J [] W) :
    CallsIn F n Try.prog 46 #[.func (.yield l) #[] #[], .pointer (some ⟨Bm, 0, none⟩)] W fun e W' => (∃ v, e = .returned v) ∧
      ((∃ ss : List Nm, (ss.Nodup ∧ ∀ x, x ∈ ss ↔ okN x ∧ has D0 (nmKey.l x) = true) ∧ J ss W') ∨ (∃ pre : List Nm, True ∧ Jx pre W')) := by
  refine callsIn_of_wp Try.func46 rfl h46 ?_ hro
  simp only [Try.ntmps46, List.size_toArray, List.length_cons, List.length_nil, Nat.reduceAdd, Nat.reduceSub, Array.replicate_succ, Array.replicate_zero, List.push_toArray, List.append_toArray, List.nil_append, List.cons_append]
  gi_wp2_with (first | (gi_at_range; refine wpListIn_range_own _ rfl _ 60 rfl 42 81 law_N Try.underlying60 _ b nn _ rfl hown ?_; intro w0 hrg0 hg0 hs0) | gi_in)
  go_frame
  gi_loopw [3] (fun _ wr => ∃ (left : Lit → Bool) (cnt : Nat) (ss : List Nm), wr.ranges Try.prog 42 R b W.heap.size nn D0 left cnt ∧ ss.length + cnt ≤ Maps.size D0 ∧ ColN D0 left ss ∧ J ss wr)
    (fun _ wr => wr.rangeLeft b W.heap.size)
  case atStart =>
    exact ⟨_, _, [], hrg0, by simp, ColN.start D0, hJ [] W w0 none h0 hg0 (fun r e => by cases e)⟩
  case round =>
    obtain ⟨left, cnt, ss, hrg, hcs, hC, hJs⟩ := hrel
    gi_wp2_with (first | (gi_at_next; refine wpListIn_next_ranges _ rfl _ rfl 42 law_N R nv id (fun key kl hk => by obtain ⟨x, hx, _⟩ := key_inv hk; exact ⟨x, hx⟩) (fun v _ _ => ⟨v, rfl⟩) b W.heap.size nn _ _ _ rfl hrg ?_ ?_) | gi_in)
    · intro hc0 hl0
      gi_wp2
      go_end0
      exact ⟨⟨_, rfl⟩, .inl ⟨ss, ⟨hC.1, fun x => by rw [hC.2 x, hl0]; simp⟩, hJs⟩⟩
    · intro x c kl yd yp w2 cnt2 hkey hlk hv hat hrg2 hlt hg2 hs2 hen
      obtain ⟨x', ex, hox, rfl⟩ := key_inv hkey
      obtain rfl : x = x' := Nm.ints_inj (iv_inj ex)
      obtain ⟨n1, i1, s1, a1, k1⟩ := x
      have hC2 := hC.step hox hlk hat
      have hJ2 : J ss w2 := hJ ss wr w2 (some W.heap.size) hJs hg2 (fun r e => by cases e; exact ⟨Nat.le_refl _, hrg.iter_walk⟩)
      have hJ3 : J ss (w2.alloc (.cells #[.int .i64 n1, .int .i64 i1, .int .i64 s1, .int .i64 a1, .int .i64 k1] 42)) := hJ ss w2 _ none hJ2 (World.grownBy_alloc w2 _ none) (fun r e => by cases e)
      have hlen : ss.length < Maps.size D0 := by omega
      obtain ⟨fn, tmps, assign, body, hy, hR⟩ := hY ss ⟨n1, i1, s1, a1, k1⟩ (w2.alloc (.cells #[.int .i64 n1, .int .i64 i1, .int .i64 s1, .int .i64 a1, .int .i64 k1] 42)) hJ3 hlen
      have hrg3 := hrg2.of_walks (KeepsWalks.alloc w2 (.cells #[.int .i64 n1, .int .i64 i1, .int .i64 s1, .int .i64 a1, .int .i64 k1] 42))
      simp only [nv] at hen hy ⊢
      have HC := Lib.hid hC2
      have HRG := Lib.hid (And.intro hrg3 hrg2)
      clear hs2
      gi_wp2
      refine hR.mono ?_
      rintro e W3 (⟨rfl, hJ4, hk3⟩ | ⟨rfl, hJx3⟩)
      · gi_wp2
        have hrg4 := HRG.out.1.of_walks hk3
        go_roundw
        case rel => exact ⟨_, cnt2, ss ++ [⟨n1, i1, s1, a1, k1⟩], hrg4, by simp; omega, HC.out, hJ4⟩
        case measure => rw [hrg4.left_eq, hrg.left_eq]; exact hlt
      · gi_wp2
        refine bodyPost_ret (results_none rfl _ _ _) rfl ?_
        exact ⟨⟨_, rfl⟩, .inr ⟨ss ++ [⟨n1, i1, s1, a1, k1⟩], trivial, hJx3⟩⟩

end Go.Proofs.Ytckmkagijanbdaa.Al
