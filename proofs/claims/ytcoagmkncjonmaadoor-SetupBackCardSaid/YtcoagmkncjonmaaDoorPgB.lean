/- All programs of a configuration: package program, and the document's own answer. -/
import Derived.Test.YtcoagmkncjonmaaDoorPg
import Derived.Test.YtcoagmkncjonmaaDoorPgA
import Derived.Test.YtcoagmkncjonmaaDoorBlk
import Derived.BigQuiet
import Derived.Lib.QuietBelow
namespace Go.Proofs.YtcoagmkncjonmaaDoor.Pg
open Go.RowKit Go.Sort Go.Shelf St Cd
open Go.Proofs.YtcoagmkncjonmaaDoor.Id (quiet_at)
open Go.Proofs.YtcoagmkncjonmaaDoor.Blk (kept_at)
open Ad (Cf info_cf quiet_row loadc_regrown load_w)
set_option linter.unusedVariables false
set_option linter.unusedSimpArgs false

theorem anyM_take {M : List (List Op)} {f : List Op → Bool} {i : Nat} {L : List Op} (h : (M.take i).any f = false) (ho : M[i]? = some L) (hf : f L = false) : (M.take (i + 1)).any f = false := by
  rw [List.take_add_one, ho, List.any_append, h]; simp [hf]
theorem anyM_hit {M : List (List Op)} {f : List Op → Bool} {i : Nat} {L : List Op} (ho : M[i]? = some L) (hf : f L = true) : M.any f = true :=
  List.any_eq_true.2 ⟨L, List.mem_of_getElem? ho, hf⟩

set_option maxHeartbeats 1000000 in
theorem index_progs {w : World} {v : Value} {M : List (List Op)} (hv : Progs w v M) (f : List Op → Bool) (g : Nat) (lb : Array Value) (eg : ∀ args u, (callFunc g args).run Tryd.prog u = .ok (.enter g args) u)
    (hp : ∀ u x L, Kept w u → Ops u x L → Calls Tryd.prog g (#[x] ++ lb) u fun e u' => e = .returned (.bool (f L)) ∧ Kept u u') :
    Calls Tryd.prog 26 #[v, .func (.func g) #[] lb] w fun e w' => ∃ r : Int, e = .returned (.int .i64 r) ∧ ((M.any f = true ∧ 0 ≤ r) ∨ (M.any f = false ∧ r = -1)) ∧ Kept w w' := by
  obtain ⟨q, N, cap, rfl, hN, hm⟩ := hv.slice
  have HV := Lib.hid hv
  have HN := Lib.hid hN
  have HP := Lib.hid hp
  have hm2 : N ≤ 9223372036854775807 := by unfold maxLen at hm; omega
  clear hv hN hm hp
  go_enter Tryd.func26, Tryd.ntmps26
  go_wp2_with fail
  go_loopw [8] (fun x wr => ∃ i : Nat, i ≤ N ∧ x = .int .i64 (i : Int) ∧ Kept w wr ∧ Hid ((M.take i).any f = false)) (fun x _ => N - (intOf x).toNat)
  case atStart => exact ⟨0, Nat.zero_le _, rfl, Kept.refl _, rfl⟩
  case round =>
    obtain ⟨i, hi, rfl, hk, hA⟩ := hrel
    by_cases hlt : i < N
    · obtain ⟨L, b, off, x, ho, rfl, c0, hx⟩ := (HV.out.go hk).pick (i := i) (by rw [HN.out]; exact hlt)
      have HO := Lib.hid ho
      have HC := Lib.hid (HP.out wr x L hk hx)
      obtain ⟨z, hz⟩ : ∃ z, f L = z := ⟨_, rfl⟩
      rw [hz] at HC
      have HZ := Lib.hid hz
      obtain ⟨xp, xn, xc, rfl, _, _⟩ := hx.slice
      clear ho hz hx
      cases z
      · go_wp2_with fail
        refine HC.out.mono ?_
        rintro e w' ⟨rfl, hk2⟩
        go_wp2_with fail
        go_roundw
        case rel => exact ⟨i + 1, hlt, by go_num, hk.trans hk2, anyM_take hA.out HO.out HZ.out⟩
        case measure => simp [intOf]; omega
      · go_wp2_with fail
        refine HC.out.mono ?_
        rintro e w' ⟨rfl, hk2⟩
        go_wp2_with fail
        go_ret
        exact ⟨_, rfl, .inl ⟨anyM_hit HO.out HZ.out, by omega⟩, hk.trans hk2⟩
    · obtain rfl : i = N := by omega
      go_wp2_with fail
      go_ret
      exact ⟨_, rfl, .inr ⟨by have := hA.out; rwa [List.take_of_length_le (Nat.le_of_eq HN.out)] at this, rfl⟩, hk⟩

theorem contains_progs {w : World} {v : Value} {M : List (List Op)} (hv : Progs w v M) (f : List Op → Bool) (g : Nat) (lb : Array Value) (eg : ∀ args u, (callFunc g args).run Tryd.prog u = .ok (.enter g args) u)
    (hp : ∀ u x L, Kept w u → Ops u x L → Calls Tryd.prog g (#[x] ++ lb) u fun e u' => e = .returned (.bool (f L)) ∧ Kept u u') :
    Calls Tryd.prog 12 #[v, .func (.func g) #[] lb] w fun e w' => e = .returned (.bool (M.any f)) ∧ Kept w w' := by
  have HC := Lib.hid (index_progs hv f g lb eg hp)
  obtain ⟨z, hz⟩ : ∃ z, M.any f = z := ⟨_, rfl⟩
  rw [hz] at HC ⊢
  clear hv hp hz
  go_enter Tryd.func12, Tryd.ntmps12
  go_wp2_with fail
  refine HC.out.mono ?_
  rintro e w' ⟨r, rfl, h | h, hk⟩
  · obtain ⟨rfl, h0⟩ := h
    go_wp2_with fail
    go_ret
    exact ⟨rfl, hk⟩
  · obtain ⟨rfl, rfl⟩ := h
    go_wp2_with fail
    go_ret
    exact ⟨rfl, hk⟩

theorem anyM_not (M : List (List Op)) (f : List Op → Bool) : (M.any fun o => !f o) = !(M.all f) := by
  induction M with
  | nil => rfl
  | cons o M ih => simp only [List.any_cons, List.all_cons, ih, Bool.not_and]
def allB (M : List (List Op)) (n p : Int) : Bool := M.all fun L => rightB L n p

theorem all1_any {w : World} {c : Cf} {B : Nat} (hB : w.heap[B]? = some (.cells c.arr 24 (0, 0))) {x : Value} {L : List Op} (hx : Ops w x L) :
    Calls Tryd.prog 13 #[x, .pointer (some ⟨B, 0, none⟩)] w fun e w' => e = .returned (.bool (!rightB L c.nodes (c.pn : Int))) ∧ Kept w w' := by
  have HC := Lib.hid (right_ops hx c.nodes (c.pn : Int))
  obtain ⟨z, hz⟩ : ∃ z, rightB L c.nodes (c.pn : Int) = z := ⟨_, rfl⟩
  rw [hz] at HC ⊢
  have c0 : w.cell? ⟨B, 0, none⟩ = some (.int .i64 c.nodes) := by rw [blk_cell hB]; rfl
  have c13 : w.cell? ⟨B, 13, none⟩ = some (.slice c.pa c.pn c.pc) := by rw [blk_cell hB]; rfl
  clear hx hz hB
  go_enter Tryd.func13, Tryd.ntmps13
  go_wp2_with (go_at_call 14; refine HC.out.mono ?_; rintro e w' ⟨rfl, hk⟩)
  go_ret
  exact ⟨rfl, hk⟩

set_option maxRecDepth 100000 in
set_option maxHeartbeats 1000000 in
theorem all_any {w : World} {c : Cf} {M : List (List Op)} (hM : Progs w (.slice c.pa c.pn c.pc) M) :
    Calls Tryd.prog 5 #[.agg c.arr] w fun e w' => e = .returned (.bool (allB M c.nodes (c.pn : Int))) ∧ Kept w w' := by
  have hk := Kept.one w (.cells c.arr 24)
  have hb := blk_new w (.cells c.arr 24)
  obtain ⟨W, hW⟩ : ∃ W, w.alloc (.cells c.arr 24) = W := ⟨_, rfl⟩
  rw [hW] at hk hb
  have HC := Lib.hid (contains_progs (hM.go hk) (fun L => !rightB L c.nodes (c.pn : Int)) 13 #[.pointer (some ⟨w.heap.size, 0, none⟩)] (enters_of Tryd.func13 (by kernel_rfl) rfl)
    (fun u x L hu hx => all1_any (kept_at hu hb) hx))
  rw [anyM_not] at HC
  obtain ⟨z, hz⟩ : ∃ z, allB M c.nodes (c.pn : Int) = z := ⟨_, rfl⟩
  rw [hz]
  rw [show (M.all fun L => rightB L c.nodes (c.pn : Int)) = z from hz] at HC
  have HW := Lib.hid hW
  have HK := Lib.hid hk
  have c13 : W.cell? ⟨w.heap.size, 13, none⟩ = some (.slice c.pa c.pn c.pc) := by rw [blk_cell hb]; rfl
  clear hM hz hW hk hb
  go_enter Tryd.func5, Tryd.ntmps5
  go_upto_region 1 with fail
  rw [HW.out]
  go_wp2_with (go_at_call 12; refine HC.out.mono ?_; rintro e w' ⟨rfl, hk⟩)
  go_ret
  exact ⟨ret_bool (by simp), HK.out.trans hk⟩

theorem allM_take {M : List (List Op)} {f : List Op → Bool} {i : Nat} {L : List Op} (h : (M.take i).all f = true) (ho : M[i]? = some L) (hf : f L = true) : (M.take (i + 1)).all f = true := by
  rw [List.take_add_one, ho, List.all_append, h]; simp [hf]
theorem allM_miss {M : List (List Op)} {f : List Op → Bool} {i : Nat} {L : List Op} (ho : M[i]? = some L) (hf : f L = false) : M.all f = false := by
  rw [List.all_eq_false]; exact ⟨L, List.mem_of_getElem? ho, by rw [hf]; decide⟩
