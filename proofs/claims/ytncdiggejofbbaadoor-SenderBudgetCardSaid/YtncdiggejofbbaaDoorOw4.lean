/- Package owner: an owner that shares no list; one with a call put. -/
import Derived.Test.YtncdiggejofbbaaDoorOwS

namespace Go.Proofs.YtncdiggejofbbaaDoor.Ow
open Go.RowKit Go.Sort Go.Shelf St Blk Eqs
open Go.Proofs.YtncdiggejofbbaaDoor.Cl
open Go.Proofs.YtncdiggejofbbaaDoor.Ls
open Go.Proofs.YtncdiggejofbbaaDoor.Rv
open Wh (Fr)
open Go.Proofs.YtncdiggejofbbaaDoor.Id (quiet_at)
open Go.Proofs.YtncdiggejofbbaaDoor.Ad (load_w load_l store_new)
set_option linter.unusedVariables false

def zsC : List Value := [.int .i64 0, .int .i64 0, .int .i64 0, .int .i64 0, .int .i64 0, .int .i64 0, .int .i64 0, .int .i64 0, .int .i64 0, .bool false, .int .i64 0, .int .i64 0, .int .i64 0]
theorem oneC (c : Cl) : ∀ u ∈ encC c, u.oneCell' = true := fun u hu => by
  simp only [encC, List.mem_cons, List.not_mem_nil, or_false] at hu
  rcases hu with rfl | rfl | rfl | rfl | rfl | rfl | rfl | rfl | rfl | rfl | rfl | rfl | rfl <;> rfl
theorem oneZ : ∀ u ∈ zsC, u.oneCell' = true := fun u hu => by
  simp only [zsC, List.mem_cons, List.not_mem_nil, or_false] at hu
  rcases hu with rfl | rfl | rfl | rfl | rfl | rfl | rfl | rfl | rfl | rfl | rfl | rfl | rfl <;> rfl
theorem enc_cl : EncT (α := Cl) 40 35 13 104 zsC encC :=
  ⟨Tryd.underlying40, by kernel_rfl, by decide, by decide, rfl, oneZ, encC_len, oneC⟩
theorem enc_rcl : EncT (α := Cl) 29 33 13 104 zsC encC :=
  ⟨Tryd.underlying29, by kernel_rfl, by decide, by decide, rfl, oneZ, encC_len, oneC⟩
abbrev Mc (W : World) (v : Value) (K : List Cl) : Prop := RowV W v 35 13 encC K
abbrev Rc (W : World) (v : Value) (K : List Cl) : Prop := RowV W v 33 13 encC K
theorem mc_cls {W : World} {v : Value} {K : List Cl} (h : Mc W v K) (hl : K.length ≤ 1000000) : Cls W v K := ls_row encC_len h hl
theorem rc_cls {W : World} {v : Value} {K : List Cl} (h : Rc W v K) (hl : K.length ≤ 1000000) : Cls W v K := ls_row encC_len h hl
theorem arr_set (o : Ow) (q q' : Option Addr) (n n' c c' : Nat) : (o.arr q n c).setIfInBounds 18 (.slice q' n' c') = o.arr q' n' c' := rfl
theorem arr_size (o : Ow) (q : Option Addr) (n c : Nat) : (o.arr q n c).size = 19 := rfl
theorem arr_one (o : Ow) (q : Option Addr) (n c : Nat) : (o.arr q n c).all (·.oneCell') = true := by
  obtain ⟨x0, x1, x2, x3, x4, x5, x6, x7, x8, x9, x10, x11, x12, x13, x14, x15, x16, x17⟩ := o
  kernel_rfl
/-- what a whole owner holds that is read from a block -/
theorem load_ow {W : World} {b : Nat} {A : Array Value} (hb : W.heap[b]? = some (.cells A 42 (0, 0))) (hs : A.size = 19) : (loadVar 42 ⟨b, 0, none⟩).run Tryd.prog W = .ok (.agg A) W :=
  run_loadVar_row _ b _ _ A (0, 0) _ hb Tryd.underlying42 rfl (by rw [hs]; exact info_ow)

def zeroA : Array Value := zero.arr none 0 0
set_option maxRecDepth 100000 in
set_option maxHeartbeats 1000000 in
theorem clone_any {w : World} {q : Option Addr} {N c : Nat} {K : List Cl} (o : Ow) (hv : Cls w (.slice q N c) K) (hl : K.length ≤ 900000) :
    Calls Tryd.prog 64 #[.agg (o.arr q N c)] w fun e w' => ∃ q' c', e = .returned (.agg (o.arr q' N c')) ∧ Mc w' (.slice q' N c') K ∧ (∀ g, (Value.slice q' N c').ownBlock = some g → w.heap.size ≤ g) ∧ Kept w w' := by
  have hN : K.length = N := by obtain ⟨p, cap, e⟩ := hv.shape; cases e; rfl
  obtain ⟨A, hA⟩ : ∃ A, o.arr q N c = A := ⟨_, rfl⟩
  obtain ⟨B, hB⟩ : ∃ B, o.arr none 0 0 = B := ⟨_, rfl⟩
  have c18 : A[18]? = some (.slice q N c) := by rw [← hA]; rfl
  have eB : A.setIfInBounds 18 (.slice none 0 0) = B := by rw [← hA, ← hB]; exact arr_set _ _ _ _ _ _ _
  have sA : A.size = 19 := by rw [← hA]; rfl
  have sB : B.size = 19 := by rw [← hB]; rfl
  have oB : B.all (·.oneCell') = true := by rw [← hB]; exact arr_one _ _ _ _
  rw [hA]
  obtain ⟨W, hW⟩ : ∃ W, (w.alloc (.cells A 42)).alloc (.cells zeroA 42) = W := ⟨_, rfl⟩
  have hb : Bl w W [(A, 42), (zeroA, 42)] := hW ▸ Bl.two w A _ _ _
  have hsz : W.heap.size = w.heap.size + 2 := by rw [← hW]; simp
  have h18 : W.cell? ⟨w.heap.size, 18, none⟩ = some (.slice q N c) := (hb.cell 0 18 rfl).trans c18
  have hf : W.frozen? ⟨w.heap.size, 18, none⟩ = false := hb.free 0 18 rfl
  obtain ⟨W2, hW2⟩ : ∃ W2, W.setCell ⟨w.heap.size, 18, none⟩ (.slice none 0 0) = W2 := ⟨_, rfl⟩
  have hb2 : Bl w W2 [(B, 42), (zeroA, 42)] := by
    rw [← hW2, ← eB]; exact hb.put 0 18 rfl _
  have hsz2 : W2.heap.size = w.heap.size + 2 := by rw [← hW2, Wh.size_set]; exact hsz
  have HB2 := Lib.hid hb2
  have HS2 := Lib.hid hsz2
  have HW := Lib.hid hW
  have HW2 := Lib.hid hW2
  have HN := Lib.hid hN
  have HL := Lib.hid hl
  have HV := Lib.hid hv
  by_cases h0 : N = 0
  · subst h0
    have hK : K = [] := List.length_eq_zero_iff.mp hN
    clear hb hb2 hsz hsz2 hW hW2 hN hl hv c18 eB
    go_enter Tryd.func64, Tryd.ntmps64
    go_upto_region 1 with fail
    rw [show (w.alloc (.cells A 42)).alloc (.cells #[.int .i64 0, .int .i64 0, .int .i64 0, .int .i64 0, .int .i64 0, .int .i64 0, .int .i64 0, .int .i64 0, .int .i64 0, .int .i64 0, .int .i64 0, .int .i64 0, .int .i64 0, .int .i64 0, .int .i64 0, .int .i64 0, .int .i64 0, .int .i64 0, .slice none 0 0] 42) = W from HW.out]
    go_upto_region 3 with fail
    rw [HW2.out]
    have hl2 := load_ow (HB2.out.blk 0 rfl) sB
    go_wp2_with (first
      | (refine load_l 42 (.tmp 1) rfl _ rfl rfl (.agg B) hl2 ?_)
      | (refine wpList_store_row rfl 42 (.tmp 2) (.tmp 18) rfl (w.heap.size + 1) B rfl rfl 42 zeroA (HB2.out.blk 1 rfl) (by rw [sB]; exact info_ow) (by rw [sB]; rfl) oB ?_))
    have hb3 := HB2.out.row 1 rfl B
    refine bodyPost_ret (results_cell_row rfl _ _ (w.heap.size + 1) 42 B (0, 0) _ rfl (hb3.blk 1 rfl) Tryd.underlying42 rfl (by rw [sB]; exact info_ow)) rfl ?_
    exact ⟨none, 0, by rw [hB], by rw [hK]; exact rowv_nil _ _ _ _, (fun g e => by cases e), hb3.kept⟩
  · have hN0 : (0 : Int) < (N : Int) := by omega
    obtain ⟨Z, hZs, hM⟩ := make_rows enc_cl N (by omega)
    have hx : Nat.succ 0 ≤ N := by omega
    obtain ⟨W3, hW3⟩ : ∃ W3, W2.alloc (.cells Z 35) = W3 := ⟨_, rfl⟩
    have hb3 : Bl w W3 [(B, 42), (zeroA, 42), (Z, 35)] := by rw [← hW3]; exact hb2.more hsz2 _ _
    obtain ⟨D, hD⟩ : ∃ D, o.arr (some ⟨w.heap.size + 2, 0, none⟩) N N = D := ⟨_, rfl⟩
    have eD : B.setIfInBounds 18 (.slice (some ⟨w.heap.size + 2, 0, none⟩) N N) = D := by rw [← hB, ← hD]; exact arr_set _ _ _ _ _ _ _
    have sD : D.size = 19 := by rw [← hD]; rfl
    have oD : D.all (·.oneCell') = true := by rw [← hD]; exact arr_one _ _ _ _
    have c18D : D[18]? = some (.slice (some ⟨w.heap.size + 2, 0, none⟩) N N) := by rw [← hD]; rfl
    obtain ⟨W4, hW4⟩ : ∃ W4, W3.setCell ⟨w.heap.size, 18, none⟩ (.slice (some ⟨w.heap.size + 2, 0, none⟩) N N) = W4 := ⟨_, rfl⟩
    have hb4 : Bl w W4 [(D, 42), (zeroA, 42), (Z, 35)] := by
      rw [← hW4, ← eD]; exact hb3.put 0 18 rfl _
    have hb4' : Bl w W4 [(D, 42), (zeroA, 42)] := ⟨hb4.kept, fun i x hx => hb4.at' i x (by
      match i, hx with
      | 0, hx => exact hx
      | 1, hx => exact hx)⟩
    have hZ4 := hb4.blk 2 rfl
    have f2 : W2.frozen? ⟨w.heap.size, 18, none⟩ = false := hb2.free 0 18 rfl
    have f3 : W3.frozen? ⟨w.heap.size, 18, none⟩ = false := hb3.free 0 18 rfl
    have x2 : W2.cell? ⟨w.heap.size, 18, none⟩ = some (.slice none 0 0) := (hb2.cell 0 18 rfl).trans (by rw [← hB]; rfl)
    have x3 : W3.cell? ⟨w.heap.size, 18, none⟩ = some (.slice none 0 0) := (hb3.cell 0 18 rfl).trans (by rw [← hB]; rfl)
    have x4 : W4.cell? ⟨w.heap.size, 18, none⟩ = some (.slice (some ⟨w.heap.size + 2, 0, none⟩) N N) := (hb4.cell 0 18 rfl).trans c18D
    obtain ⟨W5, hcp, r5, f5⟩ := run_copy_rows enc_cl W4 3 (w.heap.size + 2) N q c K (hv.go hb4.kept) hN (by omega) (by omega) Z hZ4 hZs
    have hb5 := hb4'.fr f5 (fun k e => by subst e; exact Nat.le_refl _)
    have hl5 := load_ow (hb5.blk 0 rfl) sD
    have R5 := Lib.hid (And.intro r5 hb5)
    have HW3 := Lib.hid hW3
    have HW4 := Lib.hid hW4
    have HB4 := Lib.hid hb4'
    have HZ4 := Lib.hid hZ4
    have HM := Lib.hid hM
    have HD := Lib.hid hD
    have hM2 := hM W2
    rw [hsz2, hW3] at hM2
    clear hb hb2 hsz hsz2 hW hW2 hN hl hv c18 eB hb3 hb4 hb4' hZ4 hW3 hW4 eD hM h0 hx c18D hA hB hD r5 f5 hb5
    go_enter Tryd.func64, Tryd.ntmps64
    go_upto_region 1 with fail
    rw [show (w.alloc (.cells A 42)).alloc (.cells #[.int .i64 0, .int .i64 0, .int .i64 0, .int .i64 0, .int .i64 0, .int .i64 0, .int .i64 0, .int .i64 0, .int .i64 0, .int .i64 0, .int .i64 0, .int .i64 0, .int .i64 0, .int .i64 0, .int .i64 0, .int .i64 0, .int .i64 0, .int .i64 0, .slice none 0 0] 42) = W from HW.out]
    go_upto_region 3 with fail
    rw [HW2.out]
    go_upto_region 5 with fail
    rw [HW4.out]
    go_wp2_with (first
      | (refine load_l 42 (.tmp 1) rfl _ rfl rfl (.agg D) hl5 ?_)
      | (refine wpList_store_row rfl 42 (.tmp 2) (.tmp 18) rfl (w.heap.size + 1) D rfl rfl 42 zeroA (R5.out.2.blk 1 rfl) (by rw [sD]; exact info_ow) (by rw [sD]; rfl) oD ?_))
    have hb6 := R5.out.2.row 1 rfl D
    refine bodyPost_ret (results_cell_row rfl _ _ (w.heap.size + 1) 42 D (0, 0) _ rfl (hb6.blk 1 rfl) Tryd.underlying42 rfl (by rw [sD]; exact info_ow)) rfl ?_
    refine ⟨some ⟨w.heap.size + 2, 0, none⟩, N, by rw [HD.out], R5.out.1.kept (fun g e => ?_), (fun g e => ?_), hb6.kept⟩
    · obtain rfl : w.heap.size + 2 = g := Option.some.inj e
      exact setRow_other _ _ _ _ (by omega)
    · obtain rfl : w.heap.size + 2 = g := Option.some.inj e
      omega

end Go.Proofs.YtncdiggejofbbaaDoor.Ow
