/- Programs: steps sought by closures; Right and Text's first test; the document's Same, the law's known. -/
import Derived.Test.YtkifekchalppnaaDoorPg3
import Derived.Shelf.Abstract
import Derived.Deep.DeepCutAuto
namespace Go.Proofs.YtkifekchalppnaaDoor.Pg
open Go.RowKit Go.Sort Go.Shelf St Cd
set_option linter.unusedVariables false

theorem any_take {L : List Op} {f : Op → Bool} {i : Nat} {o : Op} (h : (L.take i).any f = false) (ho : L[i]? = some o) (hf : f o = false) : (L.take (i + 1)).any f = false := by
  rw [List.take_add_one, ho, List.any_append, h]; simp [hf]
theorem any_hit {L : List Op} {f : Op → Bool} {i : Nat} {o : Op} (ho : L[i]? = some o) (hf : f o = true) : L.any f = true :=
  List.any_eq_true.2 ⟨o, List.mem_of_getElem? ho, hf⟩

set_option maxHeartbeats 1000000 in
theorem index_ops {w : World} {v : Value} {L : List Op} (hv : Ops w v L) (f : Op → Bool) (g : Nat) (lb : Array Value) (eg : ∀ args u, (callFunc g args).run Tryd.prog u = .ok (.enter g args) u)
    (hp : ∀ u o, Kept w u → o ∈ L → Calls Tryd.prog g (#[.agg o.arr] ++ lb) u fun e u' => e = .returned (.bool (f o)) ∧ Kept u u') :
    Calls Tryd.prog 41 #[v, .func (.func g) #[] lb] w fun e w' => ∃ r : Int, e = .returned (.int .i64 r) ∧ ((L.any f = true ∧ 0 ≤ r) ∨ (L.any f = false ∧ r = -1)) ∧ Kept w w' := by
  obtain ⟨q, N, cap, rfl, hN, hm⟩ := hv.slice
  have HV := Lib.hid hv
  have HN := Lib.hid hN
  have HP := Lib.hid hp
  have hm2 : N ≤ 9223372036854775807 := by unfold maxLen at hm; omega
  clear hv hN hm hp
  go_enter Tryd.func41, Tryd.ntmps41
  go_wp2_with fail
  go_loopw [8] (fun x wr => ∃ i : Nat, i ≤ N ∧ x = .int .i64 (i : Int) ∧ Kept w wr ∧ Hid ((L.take i).any f = false)) (fun x _ => N - (intOf x).toNat)
  case atStart => exact ⟨0, Nat.zero_le _, rfl, Kept.refl _, rfl⟩
  case round =>
    obtain ⟨i, hi, rfl, hk, hA⟩ := hrel
    by_cases hlt : i < N
    · obtain ⟨o, b, off, ho, rfl, c0, c1, c2⟩ := (HV.out.go hk).pick (i := i) (by rw [HN.out]; exact hlt)
      have HO := Lib.hid ho
      have HC := Lib.hid (HP.out wr o hk (List.mem_of_getElem? ho))
      obtain ⟨z, hz⟩ : ∃ z, f o = z := ⟨_, rfl⟩
      rw [hz] at HC
      have HZ := Lib.hid hz
      clear ho hz
      obtain ⟨k, a, b2⟩ := o
      simp only [Op.arr] at HC c0 c1 c2
      cases z
      · go_wp2_with fail
        refine HC.out.mono ?_
        rintro e w' ⟨rfl, hk2⟩
        go_wp2_with fail
        go_roundw
        case rel => exact ⟨i + 1, hlt, by go_num, hk.trans hk2, any_take hA.out HO.out HZ.out⟩
        case measure => simp [intOf]; omega
      · go_wp2_with fail
        refine HC.out.mono ?_
        rintro e w' ⟨rfl, hk2⟩
        go_wp2_with fail
        go_ret
        exact ⟨_, rfl, .inl ⟨any_hit HO.out HZ.out, by omega⟩, hk.trans hk2⟩
    · obtain rfl : i = N := by omega
      go_wp2_with fail
      go_ret
      exact ⟨_, rfl, .inr ⟨by have := hA.out; rwa [List.take_of_length_le (Nat.le_of_eq HN.out)] at this, rfl⟩, hk⟩

theorem contains_ops {w : World} {v : Value} {L : List Op} (hv : Ops w v L) (f : Op → Bool) (g : Nat) (lb : Array Value) (eg : ∀ args u, (callFunc g args).run Tryd.prog u = .ok (.enter g args) u)
    (hp : ∀ u o, Kept w u → o ∈ L → Calls Tryd.prog g (#[.agg o.arr] ++ lb) u fun e u' => e = .returned (.bool (f o)) ∧ Kept u u') :
    Calls Tryd.prog 25 #[v, .func (.func g) #[] lb] w fun e w' => e = .returned (.bool (L.any f)) ∧ Kept w w' := by
  have HC := Lib.hid (index_ops hv f g lb eg hp)
  obtain ⟨z, hz⟩ : ∃ z, L.any f = z := ⟨_, rfl⟩
  rw [hz] at HC ⊢
  clear hv hp hz
  go_enter Tryd.func25, Tryd.ntmps25
  go_wp2_with fail
  refine HC.out.mono ?_
  rintro e w' ⟨r, rfl, h | h, hk⟩
  · obtain ⟨rfl, h0⟩ := h
    go_wp2_with fail
    go_ret
    exact ⟨rfl, hk⟩
  · obtain ⟨rfl, rfl⟩ := h
    go_wp2_with fail
    go_ret
    exact ⟨rfl, hk⟩

/-! ### the closures -/
theorem right1_any {w : World} {n p : Int} {B C : Nat} (o : Op) (hB : w.cell? ⟨B, 0, none⟩ = some (.int .i64 n)) (hC : w.cell? ⟨C, 0, none⟩ = some (.int .i64 p)) :
    Calls Tryd.prog 26 #[.agg o.arr, .pointer (some ⟨B, 0, none⟩), .pointer (some ⟨C, 0, none⟩)] w fun e w' => e = .returned (.bool (!opB o n p)) ∧ Kept w w' := by
  have HC := Lib.hid (op_any o n p)
  obtain ⟨z, hz⟩ : ∃ z, opB o n p = z := ⟨_, rfl⟩
  rw [hz] at HC ⊢
  clear hz
  obtain ⟨k, a, b⟩ := o
  simp only [Op.arr] at HC ⊢
  have hB2 := (Below.cell (Kept.one w (.cells #[.int .i64 k, .int .i64 a, .int .i64 b] 26)) (p := ⟨B, 0, none⟩) (World.block_lt_of_cell? w _ hB)).trans hB
  have hC2 := (Below.cell (Kept.one w (.cells #[.int .i64 k, .int .i64 a, .int .i64 b] 26)) (p := ⟨C, 0, none⟩) (World.block_lt_of_cell? w _ hC)).trans hC
  go_enter Tryd.func26, Tryd.ntmps26
  go_wp2_with (go_at_call 9; refine (HC.out _).mono ?_; rintro e w' ⟨rfl, hk⟩)
  go_ret
  exact ⟨rfl, (Kept.one _ _).trans hk⟩

theorem known_any (k : Int) (w : World) :
    Calls Tryd.prog 28 #[.int .i64 k] w fun e w' => e = .returned (.bool (knownB k)) ∧ w = w' := by
  unfold knownB
  by_cases h1 : 1 ≤ k
  · by_cases h2 : k ≤ 7
    · rw [decide_eq_true (show 1 ≤ k ∧ k ≤ 7 from ⟨h1, h2⟩)]
      go_enter Tryd.func28, Tryd.ntmps28
      go_wp2_with fail
      go_ret
      exact ⟨rfl, rfl⟩
    · rw [decide_eq_false (show ¬ (1 ≤ k ∧ k ≤ 7) from fun c => h2 c.2)]
      go_enter Tryd.func28, Tryd.ntmps28
      go_wp2_with fail
      go_ret
      exact ⟨rfl, rfl⟩
  · rw [decide_eq_false (show ¬ (1 ≤ k ∧ k ≤ 7) from fun c => h1 c.1)]
    go_enter Tryd.func28, Tryd.ntmps28
    go_wp2_with fail
    go_ret
    exact ⟨rfl, rfl⟩

theorem text1_any (o : Op) (w : World) :
    Calls Tryd.prog 27 #[.agg o.arr] w fun e w' => e = .returned (.bool (!knownB o.k)) ∧ Kept w w' := by
  have HC := Lib.hid (known_any o.k)
  obtain ⟨z, hz⟩ : ∃ z, knownB o.k = z := ⟨_, rfl⟩
  rw [hz] at HC ⊢
  clear hz
  obtain ⟨k, a, b⟩ := o
  simp only [Op.arr] at HC ⊢
  go_enter Tryd.func27, Tryd.ntmps27
  go_wp2_with (go_at_call 28; refine (HC.out _).mono ?_; rintro e w' ⟨rfl, rfl⟩)
  go_ret
  exact ⟨rfl, Kept.one _ _⟩

theorem any_not (L : List Op) (f : Op → Bool) : (L.any fun o => !f o) = !(L.all f) := by
  induction L with
  | nil => rfl
  | cons o L ih => simp only [List.any_cons, List.all_cons, ih, Bool.not_and]

set_option maxHeartbeats 1000000 in
theorem right_ops {w : World} {v : Value} {L : List Op} (hv : Ops w v L) (n p : Int) :
    Calls Tryd.prog 11 #[v, .int .i64 n, .int .i64 p] w fun e w' => e = .returned (.bool (rightB L n p)) ∧ Kept w w' := by
  have hk2 : Kept w ((w.alloc (.cells #[.int .i64 n] 3)).alloc (.cells #[.int .i64 p] 3)) := (Kept.one _ _).more _
  have hb1 : ((w.alloc (.cells #[.int .i64 n] 3)).alloc (.cells #[.int .i64 p] 3)).heap[w.heap.size]? = some (.cells #[.int .i64 n] 3 (0, 0)) :=
    (Below.block (Kept.one (w.alloc (.cells #[.int .i64 n] 3)) _) _ (by simp)).trans (blk_new w _)
  have hb2 : ((w.alloc (.cells #[.int .i64 n] 3)).alloc (.cells #[.int .i64 p] 3)).heap[w.heap.size + 1]? = some (.cells #[.int .i64 p] 3 (0, 0)) := by
    have := blk_new (w.alloc (.cells #[.int .i64 n] 3)) (.cells #[.int .i64 p] 3)
    rwa [World.size_alloc] at this
  obtain ⟨W, hW⟩ : ∃ W, (w.alloc (.cells #[.int .i64 n] 3)).alloc (.cells #[.int .i64 p] 3) = W := ⟨_, rfl⟩
  rw [hW] at hk2 hb1 hb2
  have HC := Lib.hid (contains_ops (hv.go hk2) (fun o => !opB o n p) 26 #[.pointer (some ⟨w.heap.size, 0, none⟩), .pointer (some ⟨w.heap.size + 1, 0, none⟩)] (enters_of Tryd.func26 (by kernel_rfl) rfl)
    (fun u o hu _ => right1_any o (by rw [blk_cell ((Below.block hu _ (blk_lt hb1)).trans hb1)]; rfl) (by rw [blk_cell ((Below.block hu _ (blk_lt hb2)).trans hb2)]; rfl)))
  rw [any_not] at HC
  obtain ⟨q, N, cap, rfl, hN, hm⟩ := hv.slice
  have HW := Lib.hid hW
  have HK := Lib.hid hk2
  have hsz : W.heap.size = w.heap.size + 2 := by rw [← hW]; simp
  have hm2 : N ≤ 9223372036854775807 := by unfold maxLen at hm; omega
  obtain ⟨z, hz⟩ : ∃ z, (L.all fun o => opB o n p) = z := ⟨_, rfl⟩
  rw [hz] at HC
  by_cases h16 : N ≤ 16
  · have hR : rightB L n p = z := by unfold rightB; rw [hN, decide_eq_true h16, hz]; rfl
    rw [hR]
    have h16' : (N : Int) ≤ 16 := by omega
    clear hv hN hm hW hk2 hb1 hb2 hz hR h16
    go_enter Tryd.func11, Tryd.ntmps11
    go_upto_region 1 with fail
    rw [HW.out]
    go_wp2_with (go_at_call 25; refine HC.out.mono ?_; rintro e w' ⟨rfl, hk⟩)
    go_ret
    exact ⟨ret_bool (by simp), HK.out.trans hk⟩
  · have hR : rightB L n p = false := by unfold rightB; rw [hN, decide_eq_false h16]; rfl
    rw [hR]
    have h16' : ¬ (N : Int) ≤ 16 := by omega
    clear hv hN hm hW hk2 hb1 hb2 hz hR h16
    go_enter Tryd.func11, Tryd.ntmps11
    go_upto_region 1 with fail
    rw [HW.out]
    go_wp2_with fail
    go_ret
    exact ⟨rfl, HK.out⟩

end Go.Proofs.YtkifekchalppnaaDoor.Pg
