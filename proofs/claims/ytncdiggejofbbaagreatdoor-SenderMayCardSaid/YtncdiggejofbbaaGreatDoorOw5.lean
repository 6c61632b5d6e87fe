/- Package owner, and the document's own answers for it: which of its calls has a name. Package owner: an owner that shares no list; one with a call put. Package owner: an owner with a call put. -/
import Derived.Test.YtncdiggejofbbaaGreatDoorOw2
import Derived.Test.YtncdiggejofbbaaGreatDoorEqs
import Derived.Shelf.Abstract
import Derived.Deep.DeepCutAuto
import Derived.Test.YtncdiggejofbbaaGreatDoorOwS
namespace Go.Proofs.YtncdiggejofbbaaGreatDoor.Ow
open Go.RowKit Go.Sort Go.Shelf St Blk Eqs
open Go.Proofs.YtncdiggejofbbaaGreatDoor.Cl
open Go.Proofs.YtncdiggejofbbaaGreatDoor.Ls
open Go.Proofs.YtncdiggejofbbaaGreatDoor.Id (quiet_at)
open Go.Proofs.YtncdiggejofbbaaGreatDoor.Ad (load_w load_l store_new)
set_option linter.unusedVariables false



set_option maxRecDepth 100000 in
set_option maxHeartbeats 1000000 in
theorem index_cls {w : World} {v : Value} {K : List Cl} (hv : Cls w v K) (f : Cl → Bool) (g : Nat) (lb : Array Value) (eg : ∀ args u, (callFunc g args).run Tryz.prog u = .ok (.enter g args) u)
    (hp : ∀ u x, Kept w u → x ∈ K → Calls Tryz.prog g (#[.agg x.arr] ++ lb) u fun e u' => e = .returned (.bool (f x)) ∧ Kept u u') :
    Calls Tryz.prog 58 #[v, .func (.func g) #[] lb] w fun e w' => e = .returned (.int .i64 (idx f K)) ∧ Kept w w' := by
  obtain ⟨q, N, cap, rfl, hN, hm⟩ := hv.slice
  have HV := Lib.hid hv
  have HN := Lib.hid hN
  have HP := Lib.hid hp
  have hm2 : N ≤ 9223372036854775807 := by unfold maxLen at hm; omega
  obtain ⟨R, hR⟩ : ∃ R, idx f K = R := ⟨_, rfl⟩
  rw [hR]
  have HR := Lib.hid hR
  clear hv hN hm hp hR
  go_enter Tryz.func58, Tryz.ntmps58
  go_wp2_with fail
  go_loopw [8] (fun x wr => ∃ i : Nat, i ≤ N ∧ x = .int .i64 (i : Int) ∧ Kept w wr ∧ Hid ((K.take i).any f = false)) (fun x _ => N - (intOf x).toNat)
  case atStart => exact ⟨0, Nat.zero_le _, rfl, Kept.refl _, rfl⟩
  case round =>
    obtain ⟨i, hi, rfl, hk, hA⟩ := hrel
    by_cases hlt : i < N
    · obtain ⟨x, b, off, hx, rfl, hb, hc⟩ := (HV.out.go hk).pick (i := i) (by rw [HN.out]; exact hlt)
      obtain ⟨X, hX⟩ : ∃ X, x.arr = X := ⟨_, rfl⟩
      have hl := load_call hX hc
      have HX := Lib.hid hx
      have HC := Lib.hid (HP.out wr x hk (List.mem_of_getElem? hx))
      obtain ⟨z, hz⟩ : ∃ z, f x = z := ⟨_, rfl⟩
      rw [hz, hX] at HC
      have HZ := Lib.hid hz
      clear hx hz hX hc
      cases z
      · go_wp2_with (refine load_l 41 (.tmp 14) rfl _ rfl rfl (.agg X) hl ?_)
        refine HC.out.mono ?_
        rintro e w' ⟨rfl, hk2⟩
        go_wp2_with fail
        go_roundw
        case rel => exact ⟨i + 1, hlt, by go_num, hk.trans hk2, any_take hA.out HX.out HZ.out⟩
        case measure => simp [intOf]; omega
      · have HE := Lib.hid ((idx_hit hA.out HX.out HZ.out).symm.trans HR.out)
        go_wp2_with (refine load_l 41 (.tmp 14) rfl _ rfl rfl (.agg X) hl ?_)
        refine HC.out.mono ?_
        rintro e w' ⟨rfl, hk2⟩
        go_wp2_with fail
        go_ret
        exact ⟨ret_int HE.out, hk.trans hk2⟩
    · obtain rfl : i = N := by omega
      have HE := Lib.hid ((idx_miss (by have := hA.out; rwa [List.take_of_length_le (Nat.le_of_eq HN.out)] at this : K.any f = false)).symm.trans HR.out)
      go_wp2_with fail
      go_ret
      exact ⟨ret_int HE.out, hk⟩

set_option maxRecDepth 100000 in
set_option maxHeartbeats 1000000 in
theorem find1_any {w : World} {d : Nm} {B : Nat} (x : Cl) (hB : w.heap[B]? = some (.cells #[.int .i64 d.n, .int .i64 d.i, .int .i64 d.s] 26 (0, 0))) :
    Calls Tryz.prog 59 #[.agg x.arr, .pointer (some ⟨B, 0, none⟩)] w fun e w' => e = .returned (.bool (sameI d x)) ∧ Kept w w' := by
  obtain ⟨z, hz⟩ : ∃ z, sameI d x = z := ⟨_, rfl⟩
  obtain ⟨X, hX⟩ : ∃ X, x.arr = X := ⟨_, rfl⟩
  have x0 : X[0]? = some (.int .i64 x.n) := by rw [← hX]; rfl
  have x1 : X[1]? = some (.int .i64 x.i) := by rw [← hX]; rfl
  have x2 : X[2]? = some (.int .i64 x.s) := by rw [← hX]; rfl
  rw [hz, hX]
  clear hX
  obtain ⟨W, hW⟩ : ∃ W, w.alloc (.cells X 41) = W := ⟨_, rfl⟩
  have hb : Bl w W [(X, 41)] := hW ▸ Bl.one w X _
  have l1 : (loadVar 26 ⟨w.heap.size, 0, none⟩).run Tryz.prog W = .ok (.agg #[.int .i64 x.n, .int .i64 x.i, .int .i64 x.s]) W := load_id ((hb.cell 0 0 rfl).trans x0) ((hb.cell 0 1 rfl).trans x1) ((hb.cell 0 2 rfl).trans x2)
  have l2 : (loadVar 26 ⟨B, 0, none⟩).run Tryz.prog W = .ok (.agg #[.int .i64 d.n, .int .i64 d.i, .int .i64 d.s]) W := by
    have hB2 := kept_at hb.kept hB
    exact load_id (blk_cell hB2 0) (blk_cell hB2 1) (blk_cell hB2 2)
  have he := fun u => eq_id x.n x.i x.s d.n d.i d.s u
  rw [show (x.n == d.n && (x.i == d.i && x.s == d.s)) = z from hz] at he
  have HK := Lib.hid hb.kept
  have HW := Lib.hid hW
  clear x0 x1 x2 hb hW hz hB
  go_enter Tryz.func59, Tryz.ntmps59
  go_upto_region 1 with fail
  rw [HW.out]
  go_wp2_with (first
    | (refine load_l 26 (.tmp 4) rfl _ rfl rfl _ l1 ?_)
    | (refine load_l 26 (.tmp 1) rfl _ rfl rfl _ l2 ?_))
  go_ret
  exact ⟨rfl, HK.out⟩

set_option maxRecDepth 100000 in
set_option maxHeartbeats 1000000 in
theorem find_any {w : World} {q : Option Addr} {N c : Nat} {K : List Cl} (o : Ow) (hv : Cls w (.slice q N c) K) (d : Nm) :
    Calls Tryz.prog 40 #[.agg (o.arr q N c), .agg #[.int .i64 d.n, .int .i64 d.i, .int .i64 d.s]] w fun e w' => e = .returned (.int .i64 (findL K d)) ∧ Kept w w' := by
  obtain ⟨A, hA⟩ : ∃ A, o.arr q N c = A := ⟨_, rfl⟩
  have c18 : A[18]? = some (.slice q N c) := by rw [← hA]; rfl
  rw [hA]
  clear hA
  obtain ⟨W, hW⟩ : ∃ W, (w.alloc (.cells A 39)).alloc (.cells #[.int .i64 d.n, .int .i64 d.i, .int .i64 d.s] 26) = W := ⟨_, rfl⟩
  have hB : Bl w W [(A, 39), (#[.int .i64 d.n, .int .i64 d.i, .int .i64 d.s], 26)] := hW ▸ Bl.two w A _ _ _
  have h18 : W.cell? ⟨w.heap.size, 18, none⟩ = some (.slice q N c) := (hB.cell 0 18 rfl).trans c18
  have HC := Lib.hid (index_cls (hv.go hB.kept) (sameI d) 59 #[.pointer (some ⟨w.heap.size + 1, 0, none⟩)] (enters_of Tryz.func59 (by kernel_rfl) rfl)
    (fun u x hu _ => find1_any x (kept_at hu (hB.blk 1 rfl))))
  obtain ⟨z, hz⟩ : ∃ z, findL K d = z := ⟨_, rfl⟩
  rw [hz]
  rw [show idx (sameI d) K = z from hz] at HC
  have HK := Lib.hid hB.kept
  have HW := Lib.hid hW
  clear c18 hB hW hv hz
  go_enter Tryz.func40, Tryz.ntmps40
  go_upto_region 1 with fail
  rw [HW.out]
  go_wp2_with (go_at_call 58; refine HC.out.mono ?_; rintro e w' ⟨rfl, hk⟩)
  go_ret
  exact ⟨rfl, HK.out.trans hk⟩


end Go.Proofs.YtncdiggejofbbaaGreatDoor.Ow

namespace Go.Proofs.YtncdiggejofbbaaGreatDoor.Ow
open Go.RowKit Go.Sort Go.Shelf St Blk Eqs
open Go.Proofs.YtncdiggejofbbaaGreatDoor.Cl
open Go.Proofs.YtncdiggejofbbaaGreatDoor.Ls
open Go.Proofs.YtncdiggejofbbaaGreatDoor.Rv
open Wh (Fr)
open Go.Proofs.YtncdiggejofbbaaGreatDoor.Id (quiet_at)
open Go.Proofs.YtncdiggejofbbaaGreatDoor.Ad (load_w load_l store_new)
set_option linter.unusedVariables false

def zsC : List Value := [.int .i64 0, .int .i64 0, .int .i64 0, .int .i64 0, .int .i64 0, .int .i64 0, .int .i64 0, .int .i64 0, .int .i64 0, .bool false, .int .i64 0, .int .i64 0, .int .i64 0]
theorem oneC (c : Cl) : ∀ u ∈ encC c, u.oneCell' = true := fun u hu => by
  simp only [encC, List.mem_cons, List.not_mem_nil, or_false] at hu
  rcases hu with rfl | rfl | rfl | rfl | rfl | rfl | rfl | rfl | rfl | rfl | rfl | rfl | rfl <;> rfl
theorem oneZ : ∀ u ∈ zsC, u.oneCell' = true := fun u hu => by
  simp only [zsC, List.mem_cons, List.not_mem_nil, or_false] at hu
  rcases hu with rfl | rfl | rfl | rfl | rfl | rfl | rfl | rfl | rfl | rfl | rfl | rfl | rfl <;> rfl
theorem enc_cl : EncT (α := Cl) 37 41 13 104 zsC encC :=
  ⟨Tryz.underlying37, by kernel_rfl, by decide, by decide, rfl, oneZ, encC_len, oneC⟩
theorem enc_rcl : EncT (α := Cl) 29 33 13 104 zsC encC :=
  ⟨Tryz.underlying29, by kernel_rfl, by decide, by decide, rfl, oneZ, encC_len, oneC⟩
abbrev Mc (W : World) (v : Value) (K : List Cl) : Prop := RowV W v 41 13 encC K
abbrev Rc (W : World) (v : Value) (K : List Cl) : Prop := RowV W v 33 13 encC K
theorem mc_cls {W : World} {v : Value} {K : List Cl} (h : Mc W v K) (hl : K.length ≤ 1000000) : Cls W v K := ls_row encC_len h hl
theorem rc_cls {W : World} {v : Value} {K : List Cl} (h : Rc W v K) (hl : K.length ≤ 1000000) : Cls W v K := ls_row encC_len h hl
theorem arr_set (o : Ow) (q q' : Option Addr) (n n' c c' : Nat) : (o.arr q n c).setIfInBounds 18 (.slice q' n' c') = o.arr q' n' c' := rfl
theorem arr_size (o : Ow) (q : Option Addr) (n c : Nat) : (o.arr q n c).size = 19 := rfl
theorem arr_one (o : Ow) (q : Option Addr) (n c : Nat) : (o.arr q n c).all (·.oneCell') = true := by
  obtain ⟨x0, x1, x2, x3, x4, x5, x6, x7, x8, x9, x10, x11, x12, x13, x14, x15, x16, x17⟩ := o
  kernel_rfl
/-- what a whole owner holds that is read from a block -/
theorem load_ow {W : World} {b : Nat} {A : Array Value} (hb : W.heap[b]? = some (.cells A 39 (0, 0))) (hs : A.size = 19) : (loadVar 39 ⟨b, 0, none⟩).run Tryz.prog W = .ok (.agg A) W :=
  run_loadVar_row _ b _ _ A (0, 0) _ hb Tryz.underlying39 rfl (by rw [hs]; exact info_ow)

def zeroA : Array Value := zero.arr none 0 0
set_option maxRecDepth 100000 in
set_option maxHeartbeats 1000000 in
theorem clone_any {w : World} {q : Option Addr} {N c : Nat} {K : List Cl} (o : Ow) (hv : Cls w (.slice q N c) K) (hl : K.length ≤ 900000) :
    Calls Tryz.prog 39 #[.agg (o.arr q N c)] w fun e w' => ∃ q' c', e = .returned (.agg (o.arr q' N c')) ∧ Mc w' (.slice q' N c') K ∧ (∀ g, (Value.slice q' N c').ownBlock = some g → w.heap.size ≤ g) ∧ Kept w w' := by
  have hN : K.length = N := by obtain ⟨p, cap, e⟩ := hv.shape; cases e; rfl
  obtain ⟨A, hA⟩ : ∃ A, o.arr q N c = A := ⟨_, rfl⟩
  obtain ⟨B, hB⟩ : ∃ B, o.arr none 0 0 = B := ⟨_, rfl⟩
  have c18 : A[18]? = some (.slice q N c) := by rw [← hA]; rfl
  have eB : A.setIfInBounds 18 (.slice none 0 0) = B := by rw [← hA, ← hB]; exact arr_set _ _ _ _ _ _ _
  have sA : A.size = 19 := by rw [← hA]; rfl
  have sB : B.size = 19 := by rw [← hB]; rfl
  have oB : B.all (·.oneCell') = true := by rw [← hB]; exact arr_one _ _ _ _
  rw [hA]
  obtain ⟨W, hW⟩ : ∃ W, (w.alloc (.cells A 39)).alloc (.cells zeroA 39) = W := ⟨_, rfl⟩
  have hb : Bl w W [(A, 39), (zeroA, 39)] := hW ▸ Bl.two w A _ _ _
  have hsz : W.heap.size = w.heap.size + 2 := by rw [← hW]; simp
  have h18 : W.cell? ⟨w.heap.size, 18, none⟩ = some (.slice q N c) := (hb.cell 0 18 rfl).trans c18
  have hf : W.frozen? ⟨w.heap.size, 18, none⟩ = false := hb.free 0 18 rfl
  obtain ⟨W2, hW2⟩ : ∃ W2, W.setCell ⟨w.heap.size, 18, none⟩ (.slice none 0 0) = W2 := ⟨_, rfl⟩
  have hb2 : Bl w W2 [(B, 39), (zeroA, 39)] := by
    rw [← hW2, ← eB]; exact hb.put 0 18 rfl _
  have hsz2 : W2.heap.size = w.heap.size + 2 := by rw [← hW2, Wh.size_set]; exact hsz
  have HB2 := Lib.hid hb2
  have HS2 := Lib.hid hsz2
  have HW := Lib.hid hW
  have HW2 := Lib.hid hW2
  have HN := Lib.hid hN
  have HL := Lib.hid hl
  have HV := Lib.hid hv
  by_cases h0 : N = 0
  · subst h0
    have hK : K = [] := List.length_eq_zero_iff.mp hN
    clear hb hb2 hsz hsz2 hW hW2 hN hl hv c18 eB
    go_enter Tryz.func39, Tryz.ntmps39
    go_upto_region 1 with fail
    rw [show (w.alloc (.cells A 39)).alloc (.cells #[.int .i64 0, .int .i64 0, .int .i64 0, .int .i64 0, .int .i64 0, .int .i64 0, .int .i64 0, .int .i64 0, .int .i64 0, .int .i64 0, .int .i64 0, .int .i64 0, .int .i64 0, .int .i64 0, .int .i64 0, .int .i64 0, .int .i64 0, .int .i64 0, .slice none 0 0] 39) = W from HW.out]
    go_upto_region 3 with fail
    rw [HW2.out]
    have hl2 := load_ow (HB2.out.blk 0 rfl) sB
    go_wp2_with (first
      | (refine load_l 39 (.tmp 1) rfl _ rfl rfl (.agg B) hl2 ?_)
      | (refine wpList_store_row rfl 39 (.tmp 2) (.tmp 18) rfl (w.heap.size + 1) B rfl rfl 39 zeroA (HB2.out.blk 1 rfl) (by rw [sB]; exact info_ow) (by rw [sB]; rfl) oB ?_))
    have hb3 := HB2.out.row 1 rfl B
    refine bodyPost_ret (results_cell_row rfl _ _ (w.heap.size + 1) 39 B (0, 0) _ rfl (hb3.blk 1 rfl) Tryz.underlying39 rfl (by rw [sB]; exact info_ow)) rfl ?_
    exact ⟨none, 0, by rw [hB], by rw [hK]; exact rowv_nil _ _ _ _, (fun g e => by cases e), hb3.kept⟩
  · have hN0 : (0 : Int) < (N : Int) := by omega
    obtain ⟨Z, hZs, hM⟩ := make_rows enc_cl N (by omega)
    have hx : Nat.succ 0 ≤ N := by omega
    obtain ⟨W3, hW3⟩ : ∃ W3, W2.alloc (.cells Z 41) = W3 := ⟨_, rfl⟩
    have hb3 : Bl w W3 [(B, 39), (zeroA, 39), (Z, 41)] := by rw [← hW3]; exact hb2.more hsz2 _ _
    obtain ⟨D, hD⟩ : ∃ D, o.arr (some ⟨w.heap.size + 2, 0, none⟩) N N = D := ⟨_, rfl⟩
    have eD : B.setIfInBounds 18 (.slice (some ⟨w.heap.size + 2, 0, none⟩) N N) = D := by rw [← hB, ← hD]; exact arr_set _ _ _ _ _ _ _
    have sD : D.size = 19 := by rw [← hD]; rfl
    have oD : D.all (·.oneCell') = true := by rw [← hD]; exact arr_one _ _ _ _
    have c18D : D[18]? = some (.slice (some ⟨w.heap.size + 2, 0, none⟩) N N) := by rw [← hD]; rfl
    obtain ⟨W4, hW4⟩ : ∃ W4, W3.setCell ⟨w.heap.size, 18, none⟩ (.slice (some ⟨w.heap.size + 2, 0, none⟩) N N) = W4 := ⟨_, rfl⟩
    have hb4 : Bl w W4 [(D, 39), (zeroA, 39), (Z, 41)] := by
      rw [← hW4, ← eD]; exact hb3.put 0 18 rfl _
    have hb4' : Bl w W4 [(D, 39), (zeroA, 39)] := ⟨hb4.kept, fun i x hx => hb4.at' i x (by
      match i, hx with
      | 0, hx => exact hx
      | 1, hx => exact hx)⟩
    have hZ4 := hb4.blk 2 rfl
    have f2 : W2.frozen? ⟨w.heap.size, 18, none⟩ = false := hb2.free 0 18 rfl
    have f3 : W3.frozen? ⟨w.heap.size, 18, none⟩ = false := hb3.free 0 18 rfl
    have x2 : W2.cell? ⟨w.heap.size, 18, none⟩ = some (.slice none 0 0) := (hb2.cell 0 18 rfl).trans (by rw [← hB]; rfl)
    have x3 : W3.cell? ⟨w.heap.size, 18, none⟩ = some (.slice none 0 0) := (hb3.cell 0 18 rfl).trans (by rw [← hB]; rfl)
    have x4 : W4.cell? ⟨w.heap.size, 18, none⟩ = some (.slice (some ⟨w.heap.size + 2, 0, none⟩) N N) := (hb4.cell 0 18 rfl).trans c18D
    obtain ⟨W5, hcp, r5, f5⟩ := run_copy_rows enc_cl W4 3 (w.heap.size + 2) N q c K (hv.go hb4.kept) hN (by omega) (by omega) Z hZ4 hZs
    have hb5 := hb4'.fr f5 (fun k e => by subst e; exact Nat.le_refl _)
    have hl5 := load_ow (hb5.blk 0 rfl) sD
    have R5 := Lib.hid (And.intro r5 hb5)
    have HW3 := Lib.hid hW3
    have HW4 := Lib.hid hW4
    have HB4 := Lib.hid hb4'
    have HZ4 := Lib.hid hZ4
    have HM := Lib.hid hM
    have HD := Lib.hid hD
    have hM2 := hM W2
    rw [hsz2, hW3] at hM2
    clear hb hb2 hsz hsz2 hW hW2 hN hl hv c18 eB hb3 hb4 hb4' hZ4 hW3 hW4 eD hM h0 hx c18D hA hB hD r5 f5 hb5
    go_enter Tryz.func39, Tryz.ntmps39
    go_upto_region 1 with fail
    rw [show (w.alloc (.cells A 39)).alloc (.cells #[.int .i64 0, .int .i64 0, .int .i64 0, .int .i64 0, .int .i64 0, .int .i64 0, .int .i64 0, .int .i64 0, .int .i64 0, .int .i64 0, .int .i64 0, .int .i64 0, .int .i64 0, .int .i64 0, .int .i64 0, .int .i64 0, .int .i64 0, .int .i64 0, .slice none 0 0] 39) = W from HW.out]
    go_upto_region 3 with fail
    rw [HW2.out]
    go_upto_region 5 with fail
    rw [HW4.out]
    go_wp2_with (first
      | (refine load_l 39 (.tmp 1) rfl _ rfl rfl (.agg D) hl5 ?_)
      | (refine wpList_store_row rfl 39 (.tmp 2) (.tmp 18) rfl (w.heap.size + 1) D rfl rfl 39 zeroA (R5.out.2.blk 1 rfl) (by rw [sD]; exact info_ow) (by rw [sD]; rfl) oD ?_))
    have hb6 := R5.out.2.row 1 rfl D
    refine bodyPost_ret (results_cell_row rfl _ _ (w.heap.size + 1) 39 D (0, 0) _ rfl (hb6.blk 1 rfl) Tryz.underlying39 rfl (by rw [sD]; exact info_ow)) rfl ?_
    refine ⟨some ⟨w.heap.size + 2, 0, none⟩, N, by rw [HD.out], R5.out.1.kept (fun g e => ?_), (fun g e => ?_), hb6.kept⟩
    · obtain rfl : w.heap.size + 2 = g := Option.some.inj e
      exact setRow_other _ _ _ _ (by omega)
    · obtain rfl : w.heap.size + 2 = g := Option.some.inj e
      omega

end Go.Proofs.YtncdiggejofbbaaGreatDoor.Ow

namespace Go.Proofs.YtncdiggejofbbaaGreatDoor.Ow
open Go.RowKit Go.Sort Go.Shelf St Blk Eqs
open Go.Proofs.YtncdiggejofbbaaGreatDoor.Cl
open Go.Proofs.YtncdiggejofbbaaGreatDoor.Ls
open Go.Proofs.YtncdiggejofbbaaGreatDoor.Rv
open Wh (Fr)
open Go.Proofs.YtncdiggejofbbaaGreatDoor.Id (quiet_at)
open Go.Proofs.YtncdiggejofbbaaGreatDoor.Ad (load_w load_l store_new)
set_option linter.unusedVariables false

def nameOf (x : Cl) : Nm := ⟨x.n, x.i, x.s⟩
/-- with a call instead of the first one of its name, or behind all -/
def withL (K : List Cl) (x : Cl) : List Cl := match K.findIdx? (sameI (nameOf x)) with | some i => K.set i x | none => K ++ [x]
theorem with_hit {K : List Cl} {x : Cl} {i : Nat} (h : K.findIdx? (sameI (nameOf x)) = some i) : withL K x = K.set i x := by unfold withL; rw [h]
theorem with_miss {K : List Cl} {x : Cl} (h : K.findIdx? (sameI (nameOf x)) = none) : withL K x = K ++ [x] := by unfold withL; rw [h]
theorem find_hit {K : List Cl} {d : Nm} {i : Nat} (h : K.findIdx? (sameI d) = some i) : findL K d = (i : Int) := by unfold findL idx; rw [h]
theorem find_miss {K : List Cl} {d : Nm} (h : K.findIdx? (sameI d) = none) : findL K d = -1 := by unfold findL idx; rw [h]
theorem first_lt {f : Cl → Bool} : ∀ {K : List Cl} {i : Nat}, K.findIdx? f = some i → i < K.length
  | [], i, h => by cases h
  | a :: l, i, h => by
    rw [List.findIdx?_cons] at h
    split at h
    · cases h; exact Nat.zero_lt_succ _
    · cases hl : l.findIdx? f with
      | none => rw [hl] at h; cases h
      | some j =>
        rw [hl] at h
        cases h
        exact Nat.succ_lt_succ (first_lt hl)
theorem with_len (K : List Cl) (x : Cl) : (withL K x).length ≤ K.length + 1 := by
  cases h : K.findIdx? (sameI (nameOf x)) with
  | none => rw [with_miss h]; simp
  | some i => rw [with_hit h]; simp
theorem mc_len {W : World} {q : Option Addr} {n c : Nat} {K : List Cl} (h : Mc W (.slice q n c) K) : K.length = n := by
  rcases h.2 with ⟨e, hn⟩ | ⟨g, cap, cur, e, _⟩
  · cases e; rw [hn]
  · cases e; rfl
theorem rc_len {W : World} {q : Option Addr} {n c : Nat} {K : List Cl} (h : Rc W (.slice q n c) K) : K.length = n := by
  rcases h.2 with ⟨e, hn⟩ | ⟨g, cap, cur, e, _⟩
  · cases e; rw [hn]
  · cases e; rfl


set_option maxRecDepth 100000 in
set_option maxHeartbeats 1000000 in
theorem with_any {w : World} {q : Option Addr} {N c : Nat} {K : List Cl} (o : Ow) (hv : Cls w (.slice q N c) K) (hl : K.length ≤ 800000) (x : Cl) :
    Calls Tryz.prog 19 #[.agg (o.arr q N c), .agg x.arr] w fun e w' => ∃ q' n' c', e = .returned (.agg (o.arr q' n' c')) ∧ Mc w' (.slice q' n' c') (withL K x) ∧ Kept w w' := by
  have hN : K.length = N := by obtain ⟨p, cap, e⟩ := hv.shape; cases e; rfl
  obtain ⟨A, hA⟩ : ∃ A, o.arr q N c = A := ⟨_, rfl⟩
  obtain ⟨X, hX⟩ : ∃ X, x.arr = X := ⟨_, rfl⟩
  have sA : A.size = 19 := by rw [← hA]; rfl
  have sX : X.size = 13 := by rw [← hX]; rfl
  have x0 : X[0]? = some (.int .i64 x.n) := by rw [← hX]; rfl
  have x1 : X[1]? = some (.int .i64 x.i) := by rw [← hX]; rfl
  have x2 : X[2]? = some (.int .i64 x.s) := by rw [← hX]; rfl
  rw [hA, hX]
  obtain ⟨W, hW⟩ : ∃ W, ((w.alloc (.cells A 39)).alloc (.cells X 41)).alloc (.cells zeroA 39) = W := ⟨_, rfl⟩
  have hb : Bl w W [(A, 39), (X, 41), (zeroA, 39)] := hW ▸ Bl.three w A _ _ _ _ _
  have hsz : W.heap.size = w.heap.size + 3 := by rw [← hW]; simp
  have la := load_ow (hb.blk 0 rfl) sA
  have HW := Lib.hid hW
  have C1 := Lib.hid (clone_any o (hv.go hb.kept) (by omega))
  rw [hA] at C1
  have HB := Lib.hid hb
  clear hW hb hv hA
  go_enter Tryz.func19, Tryz.ntmps19
  go_upto_region 1 with fail
  rw [show ((w.alloc (.cells A 39)).alloc (.cells X 41)).alloc (.cells #[.int .i64 0, .int .i64 0, .int .i64 0, .int .i64 0, .int .i64 0, .int .i64 0, .int .i64 0, .int .i64 0, .int .i64 0, .int .i64 0, .int .i64 0, .int .i64 0, .int .i64 0, .int .i64 0, .int .i64 0, .int .i64 0, .int .i64 0, .int .i64 0, .slice none 0 0] 39) = W from HW.out]
  go_upto_region 2 with (first
    | (refine load_l 39 (.tmp 2) rfl _ rfl rfl (.agg A) la ?_)
    | (go_at_call 39; refine C1.out.mono ?_; rintro e w1 ⟨q1, c1, rfl, hr1, ho1, hk1⟩; obtain ⟨D, hD⟩ : ∃ D, o.arr q1 N c1 = D := ⟨_, rfl⟩; rw [hD]; have sD : D.size = 19 := (by rw [← hD]; rfl); have oD : D.all (·.oneCell') = true := (by rw [← hD]; exact arr_one _ _ _ _); have H1 := Lib.hid (And.intro hr1 (And.intro ho1 (And.intro hk1 hD))); clear hr1 ho1 hk1 hD)
    | (refine wpList_store_row rfl 39 (.tmp 2) (.tmp 7) rfl w.heap.size D rfl rfl 39 A ((HB.out.go H1.out.2.2.1).blk 0 rfl) (by rw [sD]; exact info_ow) (by rw [sD, sA]) oD ?_))
  obtain ⟨W2, hW2⟩ : ∃ W2, w1.setRow w.heap.size D = W2 := ⟨_, rfl⟩
  rw [hW2]
  have hb2 : Bl w W2 [(D, 39), (X, 41), (zeroA, 39)] := by
    rw [← hW2]; exact (HB.out.go H1.out.2.2.1).row 0 rfl D
  have hr2 : Mc W2 (.slice q1 N c1) K := H1.out.1.kept fun g e => by
    have := H1.out.2.1 g e
    rw [← hW2]; exact setRow_other _ _ _ _ (by omega)
  have hD := H1.out.2.2.2
  have l2 := load_ow (hb2.blk 0 rfl) sD
  have i2 : (loadVar 26 ⟨w.heap.size + 1, 0, none⟩).run Tryz.prog W2 = .ok (.agg #[.int .i64 x.n, .int .i64 x.i, .int .i64 x.s]) W2 := load_id ((hb2.cell 1 0 rfl).trans x0) ((hb2.cell 1 1 rfl).trans x1) ((hb2.cell 1 2 rfl).trans x2)
  have hl9 : K.length ≤ 1000000 := by omega
  have C2 := Lib.hid (find_any o (mc_cls hr2 hl9) (nameOf x))
  rw [hD] at C2
  have HO := Lib.hid (show ∀ g, (Value.slice q1 N c1).ownBlock = some g → w.heap.size + 3 ≤ g from fun g e => by have := H1.out.2.1 g e; omega)
  cases hf : K.findIdx? (sameI (nameOf x)) with
  | some i =>
    have hiK := first_lt hf
    have HE := Lib.hid (with_hit hf)
    rw [find_hit hf] at C2
    have hne : K ≠ [] := fun c => by rw [c] at hiK; simp at hiK
    obtain ⟨g, cap, cur, e0, hg0, _⟩ := hr2.full hne
    injection e0 with e1 e2 e3
    subst e1 e2 e3
    have hg3 : w.heap.size + 3 ≤ g := HO.out g rfl
    have HB2 := Lib.hid hb2
    have HR2 := Lib.hid hr2
    have hi1 : (i : Int) < (K.length : Int) := by omega
    have hi0 : (0 : Int) ≤ (i : Int) := by omega
    have H18 := Lib.hid (show D[18]? = some (.slice (some ⟨g, 0, none⟩) K.length c1) by rw [← hD]; rfl)
    have HX := Lib.hid hX
    have HDD := Lib.hid hD
    clear hb2 hr2 hD hW2 H1 C1 hf hg0 hN hl9 hX
    go_upto_region 4 with (first
      | (refine load_l 39 (.tmp 2) rfl _ rfl rfl (.agg D) l2 ?_)
      | (refine load_l 26 (.tmp 9) rfl _ rfl rfl _ i2 ?_)
      | (go_at_call 40; refine C2.out.mono ?_; rintro e w3 ⟨rfl, hk3⟩))
    have hb3 := HB2.out.go hk3
    have hr3 := HR2.out.keep hk3
    have lx := load_cl (hb3.blk 1 rfl) sX
    have h18 : w3.cell? ⟨w.heap.size, 18, none⟩ = some (.slice (some ⟨g, 0, none⟩) K.length c1) := (hb3.cell 0 18 rfl).trans H18.out
    have HB3 := Lib.hid hb3
    have HR3 := Lib.hid hr3
    clear hb3 hr3 hk3
    go_wp2_with (first
      | (refine load_l 41 (.tmp 3) rfl _ rfl rfl (.agg X) lx ?_)
      | (refine wpList_store_elem enc_cl rfl (.tmp 18) (.tmp 17) rfl g i c1 x X HX.out rfl rfl hiK HR3.out ?_; intro w4 r4 f4; have hb4 := HB3.out.fr f4 (fun k e => by subst e; exact hg3); have l4 := load_ow (hb4.blk 0 rfl) sD; have R4 := Lib.hid (And.intro r4 hb4); clear r4 f4 hb4)
      | (refine load_l 39 (.tmp 2) rfl _ rfl rfl (.agg D) l4 ?_)
      | (refine wpList_store_row rfl 39 (.tmp 4) (.tmp 19) rfl (w.heap.size + 1 + 1) D rfl rfl 39 zeroA (R4.out.2.blk 2 rfl) (by rw [sD]; exact info_ow) (by rw [sD]; rfl) oD ?_))
    have hb6 := R4.out.2.row 2 rfl D
    refine bodyPost_ret (results_cell_row rfl _ _ (w.heap.size + 2) 39 D (0, 0) _ rfl (hb6.blk 2 rfl) Tryz.underlying39 rfl (by rw [sD]; exact info_ow)) rfl ?_
    refine ⟨some ⟨g, 0, none⟩, K.length, c1, by rw [HDD.out], ?_, hb6.kept⟩
    rw [HE.out]
    have := R4.out.1.kept (w' := w4.setRow (w.heap.size + 2) D) (fun g' e => by
      obtain rfl : g = g' := Option.some.inj e
      exact setRow_other _ _ _ _ (by omega))
    exact this
  | none =>
    have HE := Lib.hid (with_miss hf)
    rw [find_miss hf] at C2
    have HB2 := Lib.hid hb2
    have HR2 := Lib.hid hr2
    have H18 := Lib.hid (show D[18]? = some (.slice q1 N c1) by rw [← hD]; rfl)
    have HX := Lib.hid hX
    have hfx := fold_cl x hX
    have HDD := Lib.hid hD
    clear hb2 hr2 hD hW2 H1 C1 hf hN hl9 hX
    go_upto_region 6 with (first
      | (refine load_l 39 (.tmp 2) rfl _ rfl rfl (.agg D) l2 ?_)
      | (refine load_l 26 (.tmp 9) rfl _ rfl rfl _ i2 ?_)
      | (go_at_call 40; refine C2.out.mono ?_; rintro e w3 ⟨rfl, hk3⟩))
    have hb3 := HB2.out.go hk3
    have hr3 := HR2.out.keep hk3
    have lx := load_cl (hb3.blk 1 rfl) sX
    have h18 : w3.cell? ⟨w.heap.size, 18, none⟩ = some (.slice q1 N c1) := (hb3.cell 0 18 rfl).trans H18.out
    have HB3 := Lib.hid hb3
    have HR3 := Lib.hid hr3
    have hs3 : w.heap.size + 3 ≤ w3.heap.size := hb3.size
    have HS3 := Lib.hid hs3
    clear hb3 hr3 hk3 hs3
    go_upto_region 7 with (first
      | (refine load_l 41 (.tmp 3) rfl _ rfl rfl (.agg X) lx ?_)
      | (refine wpList_append_onev enc_cl w3 rfl _ _ rfl (.slice q1 N c1) K x X HX.out rfl rfl HR3.out (by omega) ?_; intro v4 w4 r4 g4 b4; obtain ⟨q4, n4, c4, rfl⟩ := r4.shape; have ff := ((Fr.refl (fun j => w.heap.size + 3 ≤ j) w3).alloc (.cells X 41)).grown g4 (fun k e => .inl (HO.out k e)); have hb4 := HB3.out.fr ff (fun k h => h); have y4 : w4.cell? ⟨w.heap.size, 18, none⟩ = some (.slice q1 N c1) := (hb4.cell 0 18 rfl).trans H18.out; have f4 : w4.frozen? ⟨w.heap.size, 18, none⟩ = false := hb4.free 0 18 rfl; have R4 := Lib.hid (And.intro r4 (And.intro hb4 b4)); clear r4 g4 b4 ff hb4))
    obtain ⟨W5, hW5⟩ : ∃ W5, w4.setCell ⟨w.heap.size, 18, none⟩ (.slice q4 n4 c4) = W5 := ⟨_, rfl⟩
    rw [hW5]
    obtain ⟨E, hE⟩ : ∃ E, o.arr q4 n4 c4 = E := ⟨_, rfl⟩
    have eE : D.setIfInBounds 18 (.slice q4 n4 c4) = E := by rw [← HDD.out, ← hE]; exact arr_set _ _ _ _ _ _ _
    have sE : E.size = 19 := by rw [← hE]; rfl
    have oE : E.all (·.oneCell') = true := by rw [← hE]; exact arr_one _ _ _ _
    have hb5 : Bl w W5 [(E, 39), (X, 41), (zeroA, 39)] := by
      rw [← hW5, ← eE]; exact R4.out.2.1.put 0 18 rfl _
    have hn4 : ∀ g, (Value.slice q4 n4 c4).ownBlock = some g → w.heap.size + 3 ≤ g := fun g e => by
      rcases R4.out.2.2 with h | ⟨g', h, hg⟩
      · exact HO.out g (h.symm.trans e)
      · have e2 := h.symm.trans e
        obtain rfl : g' = g := Option.some.inj e2
        have := HS3.out
        omega
    have hr5 : Mc W5 (.slice q4 n4 c4) (K ++ [x]) := R4.out.1.kept fun g e => by
      rw [← hW5]
      have := hn4 g e
      exact Below.heap_setCell _ _ _ _ (by show g ≠ w.heap.size; omega)
    have l5 := load_ow (hb5.blk 0 rfl) sE
    have HB5 := Lib.hid hb5
    have HR5 := Lib.hid (And.intro hr5 hn4)
    clear hb5 hr5 hn4 hW5 eE
    go_wp2_with (first
      | (refine load_l 39 (.tmp 2) rfl _ rfl rfl (.agg E) l5 ?_)
      | (refine wpList_store_row rfl 39 (.tmp 4) (.tmp 26) rfl (w.heap.size + 1 + 1) E rfl rfl 39 zeroA (HB5.out.blk 2 rfl) (by rw [sE]; exact info_ow) (by rw [sE]; rfl) oE ?_))
    have hb6 := HB5.out.row 2 rfl E
    refine bodyPost_ret (results_cell_row rfl _ _ (w.heap.size + 2) 39 E (0, 0) _ rfl (hb6.blk 2 rfl) Tryz.underlying39 rfl (by rw [sE]; exact info_ow)) rfl ?_
    refine ⟨q4, n4, c4, by rw [hE], ?_, hb6.kept⟩
    rw [HE.out]
    exact HR5.out.1.kept (w' := W5.setRow (w.heap.size + 2) E) (fun g e => by
      have := HR5.out.2 g e
      exact setRow_other _ _ _ _ (by omega))

end Go.Proofs.YtncdiggejofbbaaGreatDoor.Ow
