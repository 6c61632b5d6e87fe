/- Package owner, and the document's own answers for it: which of its calls has a name. -/
import Derived.Test.YtncdiggejofbbaaDoorOw2
import Derived.Test.YtncdiggejofbbaaDoorEqs
import Derived.Shelf.Abstract
import Derived.Deep.DeepCutAuto
namespace Go.Proofs.YtncdiggejofbbaaDoor.Ow
open Go.RowKit Go.Sort Go.Shelf St Blk Eqs
open Go.Proofs.YtncdiggejofbbaaDoor.Cl
open Go.Proofs.YtncdiggejofbbaaDoor.Ls
open Go.Proofs.YtncdiggejofbbaaDoor.Id (quiet_at)
open Go.Proofs.YtncdiggejofbbaaDoor.Ad (load_w load_l store_new)
set_option linter.unusedVariables false



set_option maxRecDepth 100000 in
set_option maxHeartbeats 1000000 in
theorem index_cls {w : World} {v : Value} {K : List Cl} (hv : Cls w v K) (f : Cl → Bool) (g : Nat) (lb : Array Value) (eg : ∀ args u, (callFunc g args).run Tryd.prog u = .ok (.enter g args) u)
    (hp : ∀ u x, Kept w u → x ∈ K → Calls Tryd.prog g (#[.agg x.arr] ++ lb) u fun e u' => e = .returned (.bool (f x)) ∧ Kept u u') :
    Calls Tryd.prog 83 #[v, .func (.func g) #[] lb] w fun e w' => e = .returned (.int .i64 (idx f K)) ∧ Kept w w' := by
  obtain ⟨q, N, cap, rfl, hN, hm⟩ := hv.slice
  have HV := Lib.hid hv
  have HN := Lib.hid hN
  have HP := Lib.hid hp
  have hm2 : N ≤ 9223372036854775807 := by unfold maxLen at hm; omega
  obtain ⟨R, hR⟩ : ∃ R, idx f K = R := ⟨_, rfl⟩
  rw [hR]
  have HR := Lib.hid hR
  clear hv hN hm hp hR
  go_enter Tryd.func83, Tryd.ntmps83
  go_wp2_with fail
  go_loopw [8] (fun x wr => ∃ i : Nat, i ≤ N ∧ x = .int .i64 (i : Int) ∧ Kept w wr ∧ Hid ((K.take i).any f = false)) (fun x _ => N - (intOf x).toNat)
  case atStart => exact ⟨0, Nat.zero_le _, rfl, Kept.refl _, rfl⟩
  case round =>
    obtain ⟨i, hi, rfl, hk, hA⟩ := hrel
    by_cases hlt : i < N
    · obtain ⟨x, b, off, hx, rfl, hb, hc⟩ := (HV.out.go hk).pick (i := i) (by rw [HN.out]; exact hlt)
      obtain ⟨X, hX⟩ : ∃ X, x.arr = X := ⟨_, rfl⟩
      have hl := load_call hX hc
      have HX := Lib.hid hx
      have HC := Lib.hid (HP.out wr x hk (List.mem_of_getElem? hx))
      obtain ⟨z, hz⟩ : ∃ z, f x = z := ⟨_, rfl⟩
      rw [hz, hX] at HC
      have HZ := Lib.hid hz
      clear hx hz hX hc
      cases z
      · go_wp2_with (refine load_l 35 (.tmp 14) rfl _ rfl rfl (.agg X) hl ?_)
        refine HC.out.mono ?_
        rintro e w' ⟨rfl, hk2⟩
        go_wp2_with fail
        go_roundw
        case rel => exact ⟨i + 1, hlt, by go_num, hk.trans hk2, any_take hA.out HX.out HZ.out⟩
        case measure => simp [intOf]; omega
      · have HE := Lib.hid ((idx_hit hA.out HX.out HZ.out).symm.trans HR.out)
        go_wp2_with (refine load_l 35 (.tmp 14) rfl _ rfl rfl (.agg X) hl ?_)
        refine HC.out.mono ?_
        rintro e w' ⟨rfl, hk2⟩
        go_wp2_with fail
        go_ret
        exact ⟨ret_int HE.out, hk.trans hk2⟩
    · obtain rfl : i = N := by omega
      have HE := Lib.hid ((idx_miss (by have := hA.out; rwa [List.take_of_length_le (Nat.le_of_eq HN.out)] at this : K.any f = false)).symm.trans HR.out)
      go_wp2_with fail
      go_ret
      exact ⟨ret_int HE.out, hk⟩

set_option maxRecDepth 100000 in
set_option maxHeartbeats 1000000 in
theorem find1_any {w : World} {d : Nm} {B : Nat} (x : Cl) (hB : w.heap[B]? = some (.cells #[.int .i64 d.n, .int .i64 d.i, .int .i64 d.s] 26 (0, 0))) :
    Calls Tryd.prog 84 #[.agg x.arr, .pointer (some ⟨B, 0, none⟩)] w fun e w' => e = .returned (.bool (sameI d x)) ∧ Kept w w' := by
  obtain ⟨z, hz⟩ : ∃ z, sameI d x = z := ⟨_, rfl⟩
  obtain ⟨X, hX⟩ : ∃ X, x.arr = X := ⟨_, rfl⟩
  have x0 : X[0]? = some (.int .i64 x.n) := by rw [← hX]; rfl
  have x1 : X[1]? = some (.int .i64 x.i) := by rw [← hX]; rfl
  have x2 : X[2]? = some (.int .i64 x.s) := by rw [← hX]; rfl
  rw [hz, hX]
  clear hX
  obtain ⟨W, hW⟩ : ∃ W, w.alloc (.cells X 35) = W := ⟨_, rfl⟩
  have hb : Bl w W [(X, 35)] := hW ▸ Bl.one w X _
  have l1 : (loadVar 26 ⟨w.heap.size, 0, none⟩).run Tryd.prog W = .ok (.agg #[.int .i64 x.n, .int .i64 x.i, .int .i64 x.s]) W := load_id ((hb.cell 0 0 rfl).trans x0) ((hb.cell 0 1 rfl).trans x1) ((hb.cell 0 2 rfl).trans x2)
  have l2 : (loadVar 26 ⟨B, 0, none⟩).run Tryd.prog W = .ok (.agg #[.int .i64 d.n, .int .i64 d.i, .int .i64 d.s]) W := by
    have hB2 := kept_at hb.kept hB
    exact load_id (blk_cell hB2 0) (blk_cell hB2 1) (blk_cell hB2 2)
  have he := fun u => eq_id x.n x.i x.s d.n d.i d.s u
  rw [show (x.n == d.n && (x.i == d.i && x.s == d.s)) = z from hz] at he
  have HK := Lib.hid hb.kept
  have HW := Lib.hid hW
  clear x0 x1 x2 hb hW hz hB
  go_enter Tryd.func84, Tryd.ntmps84
  go_upto_region 1 with fail
  rw [HW.out]
  go_wp2_with (first
    | (refine load_l 26 (.tmp 4) rfl _ rfl rfl _ l1 ?_)
    | (refine load_l 26 (.tmp 1) rfl _ rfl rfl _ l2 ?_))
  go_ret
  exact ⟨rfl, HK.out⟩

set_option maxRecDepth 100000 in
set_option maxHeartbeats 1000000 in
theorem find_any {w : World} {q : Option Addr} {N c : Nat} {K : List Cl} (o : Ow) (hv : Cls w (.slice q N c) K) (d : Nm) :
    Calls Tryd.prog 65 #[.agg (o.arr q N c), .agg #[.int .i64 d.n, .int .i64 d.i, .int .i64 d.s]] w fun e w' => e = .returned (.int .i64 (findL K d)) ∧ Kept w w' := by
  obtain ⟨A, hA⟩ : ∃ A, o.arr q N c = A := ⟨_, rfl⟩
  have c18 : A[18]? = some (.slice q N c) := by rw [← hA]; rfl
  rw [hA]
  clear hA
  obtain ⟨W, hW⟩ : ∃ W, (w.alloc (.cells A 42)).alloc (.cells #[.int .i64 d.n, .int .i64 d.i, .int .i64 d.s] 26) = W := ⟨_, rfl⟩
  have hB : Bl w W [(A, 42), (#[.int .i64 d.n, .int .i64 d.i, .int .i64 d.s], 26)] := hW ▸ Bl.two w A _ _ _
  have h18 : W.cell? ⟨w.heap.size, 18, none⟩ = some (.slice q N c) := (hB.cell 0 18 rfl).trans c18
  have HC := Lib.hid (index_cls (hv.go hB.kept) (sameI d) 84 #[.pointer (some ⟨w.heap.size + 1, 0, none⟩)] (enters_of Tryd.func84 (by kernel_rfl) rfl)
    (fun u x hu _ => find1_any x (kept_at hu (hB.blk 1 rfl))))
  obtain ⟨z, hz⟩ : ∃ z, findL K d = z := ⟨_, rfl⟩
  rw [hz]
  rw [show idx (sameI d) K = z from hz] at HC
  have HK := Lib.hid hB.kept
  have HW := Lib.hid hW
  clear c18 hB hW hv hz
  go_enter Tryd.func65, Tryd.ntmps65
  go_upto_region 1 with fail
  rw [HW.out]
  go_wp2_with (go_at_call 83; refine HC.out.mono ?_; rintro e w' ⟨rfl, hk⟩)
  go_ret
  exact ⟨rfl, HK.out.trans hk⟩


end Go.Proofs.YtncdiggejofbbaaDoor.Ow
