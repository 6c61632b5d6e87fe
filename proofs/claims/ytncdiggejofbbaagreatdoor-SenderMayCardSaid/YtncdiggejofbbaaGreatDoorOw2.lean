/- Package owner, and the document's own answers for it: how many calls are open, what is to be said of them, their sum. -/
import Derived.Test.YtncdiggejofbbaaGreatDoorOwS
import Derived.Test.YtncdiggejofbbaaGreatDoorCd
import Derived.LoopTactic
import Derived.Lib.MinMax
import Derived.Deep.MidRow
namespace Go.Proofs.YtncdiggejofbbaaGreatDoor.Ow
open Go.RowKit Go.Sort St Blk
open Go.Proofs.YtncdiggejofbbaaGreatDoor.Cl
open Go.Proofs.YtncdiggejofbbaaGreatDoor.Ls
open Go.Proofs.YtncdiggejofbbaaGreatDoor.Ad (load_w load_l store_new)
set_option linter.unusedVariables false

def openF (n : Int) (c : Cl) : Int := if c.st = 3 then n else n + 1
def openL (K : List Cl) : Int := K.foldl openF 0
def worstF (n : Int) (c : Cl) : Int := if c.st = 3 then Cd.join n c.cd else n
def worstL (K : List Cl) : Int := K.foldl worstF 0
def val (n : Int) : Int := max 0 (min n 2147483647)
def sumF (n : Int) (c : Cl) : Int := (n + val c.va) % 2147483648
def sumL (K : List Cl) (n : Int) : Int := K.foldl sumF (val n)
theorem fold_take {α β : Type} {f : β → α → β} {z : β} {L : List α} {i : Nat} {a : α} (h : L[i]? = some a) : (L.take (i + 1)).foldl f z = f ((L.take i).foldl f z) a := by
  rw [List.take_add_one, h, List.foldl_append]; rfl
theorem fold_all {α β : Type} {f : β → α → β} {z : β} {L : List α} {N : Nat} (h : L.length = N) : (L.take N).foldl f z = L.foldl f z := by rw [List.take_of_length_le (by omega)]
theorem val_lo (n : Int) : 0 ≤ val n := by unfold val; omega
theorem val_hi (n : Int) : val n ≤ 2147483647 := by unfold val; omega
theorem open_over {n : Int} {c : Cl} (h : c.st = 3) : openF n c = n := by unfold openF; rw [if_pos h]
theorem open_not {n : Int} {c : Cl} (h : ¬ c.st = 3) : openF n c = n + 1 := by unfold openF; rw [if_neg h]
theorem worst_over {n : Int} {c : Cl} (h : c.st = 3) : worstF n c = Cd.join n c.cd := by unfold worstF; rw [if_pos h]
theorem worst_not {n : Int} {c : Cl} (h : ¬ c.st = 3) : worstF n c = n := by unfold worstF; rw [if_neg h]


set_option maxRecDepth 100000 in
set_option maxHeartbeats 1000000 in
theorem open_any {w : World} {q : Option Addr} {N c : Nat} {K : List Cl} (o : Ow) (hv : Cls w (.slice q N c) K) : Calls Tryz.prog 35 #[.agg (o.arr q N c)] w fun e w' => e = .returned (.int .i64 (openL K)) ∧ Kept w w' := by
  have hN : K.length = N := by obtain ⟨p, cap, e⟩ := hv.shape; cases e; rfl
  have hm2 : N ≤ 9223372036854775807 := by have := hv.most; unfold maxLen at this; omega
  have HV := Lib.hid hv
  have HN := Lib.hid hN
  obtain ⟨A, hA⟩ : ∃ A, o.arr q N c = A := ⟨_, rfl⟩
  have c18 : A[18]? = some (.slice q N c) := by rw [← hA]; rfl
  rw [hA]
  clear hA hv hN
  obtain ⟨W, hW⟩ : ∃ W, w.alloc (.cells A 39) = W := ⟨_, rfl⟩
  have hB : Bl w W [(A, 39)] := hW ▸ Bl.one w A _
  have h18 : W.cell? ⟨w.heap.size, 18, none⟩ = some (.slice q N c) := (hB.cell 0 18 rfl).trans c18
  have HB := Lib.hid hB
  have HW := Lib.hid hW
  clear c18 hB hW
  go_enter Tryz.func35, Tryz.ntmps35
  go_upto_region 1 with fail
  rw [HW.out]
  go_wp2_with fail
  go_loopw [3, 9] (fun s x wr => ∃ i : Nat, i ≤ N ∧ x = .int .i64 (i : Int) ∧ (∃ z : Int, s = .int .i64 z ∧ 0 ≤ z ∧ z ≤ (i : Int) ∧ Hid (openL (K.take i) = z)) ∧ Kept w wr) (fun _ x _ => N - (intOf x).toNat)
  case atStart => exact ⟨0, Nat.zero_le _, rfl, ⟨0, rfl, by omega, by omega, rfl⟩, HB.out.kept⟩
  case round =>
    obtain ⟨i, hi, rfl, ⟨z, rfl, hz0, hz1, hz⟩, hk⟩ := hrel
    by_cases hlt : i < N
    · obtain ⟨x, b, off, hx, rfl, hb, hc⟩ := (HV.out.go hk).pick (i := i) (by rw [HN.out]; exact hlt)
      obtain ⟨X, hX⟩ : ∃ X, x.arr = X := ⟨_, rfl⟩
      have hl := load_call hX hc
      have x6 : X[6]? = some (.int .i64 x.st) := by rw [← hX]; rfl
      have hs : X.size = 13 := by rw [← hX]; rfl
      have h1 : X.all (·.oneCell') = true := by rw [← hX]; exact one_cells x
      have HF := Lib.hid (fold_take (f := openF) (z := 0) hx)
      have hk2 := hk.more (.cells X 41)
      obtain ⟨V, hV⟩ : ∃ V, wr.alloc (.cells X 41) = V := ⟨_, rfl⟩
      have hn6 : V.cell? ⟨wr.heap.size, 6, none⟩ = some (.int .i64 x.st) := by rw [← hV]; exact (blk_cell (blk_new wr _) 6).trans x6
      rw [hV] at hk2
      have HVV := Lib.hid hV
      clear hX hc hx hV x6
      by_cases h3 : x.st = 3
      · have HE := Lib.hid (show openL (K.take (i + 1)) = z from HF.out.trans ((open_over h3).trans hz.out))
        rw [h3] at hn6
        clear HF h3
        go_wp2_with (first
          | (refine load_l 41 (.tmp 11) rfl _ rfl rfl (.agg X) hl ?_)
          | (refine store_new rfl 41 (.tmp 5) (.tmp 12) rfl wr.heap.size X rfl rfl _ _ rfl 13 info_cl hs rfl h1 ?_; rw [HVV.out]))
        go_roundw
        case rel => exact ⟨i + 1, hlt, by go_num, ⟨z, rfl, hz0, by omega, HE.out⟩, hk2⟩
        case measure => simp [intOf]; omega
      · have HE := Lib.hid (show openL (K.take (i + 1)) = z + 1 from HF.out.trans ((open_not h3).trans (by rw [show (K.take i).foldl openF 0 = z from hz.out])))
        have hb3 : (x.st != 3) = true := bne_iff_ne.2 h3
        clear HF h3
        go_wp2_with (first
          | (refine load_l 41 (.tmp 11) rfl _ rfl rfl (.agg X) hl ?_)
          | (refine store_new rfl 41 (.tmp 5) (.tmp 12) rfl wr.heap.size X rfl rfl _ _ rfl 13 info_cl hs rfl h1 ?_; rw [HVV.out]))
        go_roundw
        case rel => exact ⟨i + 1, hlt, by go_num, ⟨z + 1, by go_num, by omega, by omega, HE.out⟩, hk2⟩
        case measure => simp [intOf]; omega
    · obtain rfl : i = N := by omega
      have HE := Lib.hid (show openL K = z from (fold_all HN.out).symm.trans hz.out)
      go_wp2_with fail
      go_ret
      exact ⟨ret_int HE.out.symm, hk⟩

-- behind: laid by gen_ow2.py

set_option maxRecDepth 100000 in
set_option maxHeartbeats 1000000 in
theorem worst_any {w : World} {q : Option Addr} {N c : Nat} {K : List Cl} (o : Ow) (hv : Cls w (.slice q N c) K) : Calls Tryz.prog 36 #[.agg (o.arr q N c)] w fun e w' => e = .returned (.int .i64 (worstL K)) ∧ Kept w w' := by
  have hN : K.length = N := by obtain ⟨p, cap, e⟩ := hv.shape; cases e; rfl
  have hm2 : N ≤ 9223372036854775807 := by have := hv.most; unfold maxLen at this; omega
  have HV := Lib.hid hv
  have HN := Lib.hid hN
  obtain ⟨A, hA⟩ : ∃ A, o.arr q N c = A := ⟨_, rfl⟩
  have c18 : A[18]? = some (.slice q N c) := by rw [← hA]; rfl
  rw [hA]
  clear hA hv hN
  obtain ⟨W, hW⟩ : ∃ W, w.alloc (.cells A 39) = W := ⟨_, rfl⟩
  have hB : Bl w W [(A, 39)] := hW ▸ Bl.one w A _
  have h18 : W.cell? ⟨w.heap.size, 18, none⟩ = some (.slice q N c) := (hB.cell 0 18 rfl).trans c18
  have HB := Lib.hid hB
  have HW := Lib.hid hW
  clear c18 hB hW
  go_enter Tryz.func36, Tryz.ntmps36
  go_upto_region 1 with fail
  rw [HW.out]
  go_wp2_with fail
  go_loopw [3, 9] (fun s x wr => ∃ i : Nat, i ≤ N ∧ x = .int .i64 (i : Int) ∧ (∃ z : Int, s = .int .i64 z ∧ Hid (worstL (K.take i) = z)) ∧ Kept w wr) (fun _ x _ => N - (intOf x).toNat)
  case atStart => exact ⟨0, Nat.zero_le _, rfl, ⟨0, rfl, rfl⟩, HB.out.kept⟩
  case round =>
    obtain ⟨i, hi, rfl, ⟨z, rfl, hz⟩, hk⟩ := hrel
    by_cases hlt : i < N
    · obtain ⟨x, b, off, hx, rfl, hb, hc⟩ := (HV.out.go hk).pick (i := i) (by rw [HN.out]; exact hlt)
      obtain ⟨X, hX⟩ : ∃ X, x.arr = X := ⟨_, rfl⟩
      have hl := load_call hX hc
      have x6 : X[6]? = some (.int .i64 x.st) := by rw [← hX]; rfl
      have x10 : X[10]? = some (.int .i64 x.cd) := by rw [← hX]; rfl
      have hs : X.size = 13 := by rw [← hX]; rfl
      have h1 : X.all (·.oneCell') = true := by rw [← hX]; exact one_cells x
      have HF := Lib.hid (fold_take (f := worstF) (z := 0) hx)
      have hk2 := hk.more (.cells X 41)
      obtain ⟨V, hV⟩ : ∃ V, wr.alloc (.cells X 41) = V := ⟨_, rfl⟩
      have hn6 : V.cell? ⟨wr.heap.size, 6, none⟩ = some (.int .i64 x.st) := by rw [← hV]; exact (blk_cell (blk_new wr _) 6).trans x6
      have hn10 : V.cell? ⟨wr.heap.size, 10, none⟩ = some (.int .i64 x.cd) := by rw [← hV]; exact (blk_cell (blk_new wr _) 10).trans x10
      rw [hV] at hk2
      have HVV := Lib.hid hV
      clear hX hc hx hV x6 x10
      by_cases h3 : x.st = 3
      · obtain ⟨y, hy⟩ : ∃ y, Cd.join z x.cd = y := ⟨_, rfl⟩
        have C := Lib.hid (show ∀ u, Calls Tryz.prog 55 #[.int .i64 z, .int .i64 x.cd] u fun e w' => e = .returned (.int .i64 y) ∧ u = w' from fun u => by rw [← hy]; exact Cd.join_any _ _ u)
        have HE := Lib.hid (show worstL (K.take (i + 1)) = y from HF.out.trans ((worst_over h3).trans (by rw [show (K.take i).foldl worstF 0 = z from hz.out]; exact hy)))
        rw [h3] at hn6
        clear HF h3 hy
        go_wp2_with (first
          | (refine load_l 41 (.tmp 11) rfl _ rfl rfl (.agg X) hl ?_)
          | (refine store_new rfl 41 (.tmp 5) (.tmp 12) rfl wr.heap.size X rfl rfl _ _ rfl 13 info_cl hs rfl h1 ?_; rw [HVV.out])
          | (go_at_call 55; refine (C.out _).mono ?_; rintro e w1 ⟨rfl, rfl⟩))
        go_roundw
        case rel => exact ⟨i + 1, hlt, by go_num, ⟨y, rfl, HE.out⟩, hk2⟩
        case measure => simp [intOf]; omega
      · have HE := Lib.hid (show worstL (K.take (i + 1)) = z from HF.out.trans ((worst_not h3).trans hz.out))
        have hb3 : (x.st == 3) = false := beq_eq_false_iff_ne.2 h3
        clear HF h3
        go_wp2_with (first
          | (refine load_l 41 (.tmp 11) rfl _ rfl rfl (.agg X) hl ?_)
          | (refine store_new rfl 41 (.tmp 5) (.tmp 12) rfl wr.heap.size X rfl rfl _ _ rfl 13 info_cl hs rfl h1 ?_; rw [HVV.out]))
        go_roundw
        case rel => exact ⟨i + 1, hlt, by go_num, ⟨z, rfl, HE.out⟩, hk2⟩
        case measure => simp [intOf]; omega
    · obtain rfl : i = N := by omega
      have HE := Lib.hid (show worstL K = z from (fold_all HN.out).symm.trans hz.out)
      go_wp2_with fail
      go_ret
      exact ⟨ret_int HE.out.symm, hk⟩

theorem cleanv_any (n : Int) (w : World) : Calls Tryz.prog 56 #[.int .i64 n] w fun e w' => e = .returned (.int .i64 (val n)) ∧ w = w' := by
  go_enter Tryz.func56, Tryz.ntmps56
  go_wp2_with fail
  all_goals go_ret
  all_goals exact ⟨ret_int (by unfold val; omega), rfl⟩


set_option maxRecDepth 100000 in
set_option maxHeartbeats 1000000 in
theorem sum_any {w : World} {q : Option Addr} {N c : Nat} {K : List Cl} (o : Ow) (hv : Cls w (.slice q N c) K) (n : Int) : Calls Tryz.prog 37 #[.agg (o.arr q N c), .int .i64 n] w fun e w' => e = .returned (.int .i64 (sumL K n)) ∧ Kept w w' := by
  have hN : K.length = N := by obtain ⟨p, cap, e⟩ := hv.shape; cases e; rfl
  have hm2 : N ≤ 9223372036854775807 := by have := hv.most; unfold maxLen at this; omega
  have HV := Lib.hid hv
  have HN := Lib.hid hN
  obtain ⟨v0, hv0⟩ : ∃ v0, val n = v0 := ⟨_, rfl⟩
  have hv0a := val_lo n
  have hv0b := val_hi n
  have C0 := Lib.hid (show ∀ u, Calls Tryz.prog 56 #[.int .i64 n] u fun e w' => e = .returned (.int .i64 v0) ∧ u = w' from fun u => by rw [← hv0]; exact cleanv_any n u)
  rw [hv0] at hv0a hv0b
  have HV0 := Lib.hid (show ∀ L : List Cl, sumL L n = L.foldl sumF v0 from fun L => by unfold sumL; rw [hv0])
  clear hv0
  obtain ⟨A, hA⟩ : ∃ A, o.arr q N c = A := ⟨_, rfl⟩
  have c18 : A[18]? = some (.slice q N c) := by rw [← hA]; rfl
  rw [hA]
  clear hA hv hN
  obtain ⟨W, hW⟩ : ∃ W, w.alloc (.cells A 39) = W := ⟨_, rfl⟩
  have hB : Bl w W [(A, 39)] := hW ▸ Bl.one w A _
  have h18 : W.cell? ⟨w.heap.size, 18, none⟩ = some (.slice q N c) := (hB.cell 0 18 rfl).trans c18
  have HB := Lib.hid hB
  have HW := Lib.hid hW
  clear c18 hB hW
  go_enter Tryz.func37, Tryz.ntmps37
  go_upto_region 1 with fail
  rw [HW.out]
  go_wp2_with (go_at_call 56; refine (C0.out _).mono ?_; rintro e w1 ⟨rfl, rfl⟩)
  go_loopw [5, 13] (fun s x wr => ∃ i : Nat, i ≤ N ∧ x = .int .i64 (i : Int) ∧ (∃ z : Int, s = .int .i64 z ∧ 0 ≤ z ∧ z ≤ 2147483647 ∧ Hid (sumL (K.take i) n = z)) ∧ Kept w wr) (fun _ x _ => N - (intOf x).toNat)
  case atStart => exact ⟨0, Nat.zero_le _, rfl, ⟨v0, rfl, hv0a, hv0b, HV0.out []⟩, HB.out.kept⟩
  case round =>
    obtain ⟨i, hi, rfl, ⟨z, rfl, hz0, hz1, hz⟩, hk⟩ := hrel
    by_cases hlt : i < N
    · obtain ⟨x, b, off, hx, rfl, hb, hc⟩ := (HV.out.go hk).pick (i := i) (by rw [HN.out]; exact hlt)
      obtain ⟨X, hX⟩ : ∃ X, x.arr = X := ⟨_, rfl⟩
      have hl := load_call hX hc
      have x11 : X[11]? = some (.int .i64 x.va) := by rw [← hX]; rfl
      have hs : X.size = 13 := by rw [← hX]; rfl
      have h1 : X.all (·.oneCell') = true := by rw [← hX]; exact one_cells x
      have HF := Lib.hid (fold_take (f := sumF) (z := (val n)) hx)
      have hk2 := hk.more (.cells X 41)
      obtain ⟨V, hV⟩ : ∃ V, wr.alloc (.cells X 41) = V := ⟨_, rfl⟩
      have hn11 : V.cell? ⟨wr.heap.size, 11, none⟩ = some (.int .i64 x.va) := by rw [← hV]; exact (blk_cell (blk_new wr _) 11).trans x11
      rw [hV] at hk2
      have HVV := Lib.hid hV
      clear hX hc hx hV x11
      obtain ⟨v, hv⟩ : ∃ v, val x.va = v := ⟨_, rfl⟩
      have va := val_lo x.va
      have vb := val_hi x.va
      have C := Lib.hid (show ∀ u, Calls Tryz.prog 56 #[.int .i64 x.va] u fun e w' => e = .returned (.int .i64 v) ∧ u = w' from fun u => by rw [← hv]; exact cleanv_any _ u)
      have HE := Lib.hid (show sumL (K.take (i + 1)) n = (z + v) % 2147483648 from HF.out.trans (by rw [show (K.take i).foldl sumF (val n) = z from hz.out]; unfold sumF; rw [hv]))
      rw [hv] at va vb
      clear HF hv
      go_wp2_with (first
        | (refine load_l 41 (.tmp 15) rfl _ rfl rfl (.agg X) hl ?_)
        | (refine store_new rfl 41 (.tmp 7) (.tmp 16) rfl wr.heap.size X rfl rfl _ _ rfl 13 info_cl hs rfl h1 ?_; rw [HVV.out])
        | (go_at_call 56; refine (C.out _).mono ?_; rintro e w1 ⟨rfl, rfl⟩))
      go_roundw
      case rel => exact ⟨i + 1, hlt, by go_num, ⟨(z + v) % 2147483648, by go_num, by omega, by omega, HE.out⟩, hk2⟩
      case measure => simp [intOf]; omega
    · obtain rfl : i = N := by omega
      have HE := Lib.hid (show sumL K n = z from (fold_all HN.out).symm.trans hz.out)
      go_wp2_with fail
      go_ret
      exact ⟨ret_int HE.out.symm, hk⟩




end Go.Proofs.YtncdiggejofbbaaGreatDoor.Ow
