/- Package table: the law TableNone. -/
import Derived.Test.YtiaafjabhnomeaaTbN
import Derived.Test.YtiaafjabhnomeaaTbW
import Derived.Test.YtiaafjabhnomeaaOwE
import Derived.Test.YtiaafjabhnomeaaRw
namespace Go.Proofs.Ytiaafjabhnomeaa.Tb
open Go.RowKit Go.Sort IdM Se Mv Blk
open St (Kept blk_cell blk_free blk_lt blk_set)
open Go.Proofs.Ytiaafjabhnomeaa.Ow (Ow Cls Mc mc_cls load_id load_key load_call info_cl one_cells take_snoc zeroA info_ow arr_one load_ow clone_any mine_any)
open Go.Proofs.Ytiaafjabhnomeaa.Cl (Cl encC)
open Go.Proofs.Ytiaafjabhnomeaa.Rv
open Go.Proofs.Ytiaafjabhnomeaa.Ad (load_w load_l store_new kept_row)
open Go.Proofs.Ytiaafjabhnomeaa.Au (Stab stab_and stab_kept)
open Wh (Fr)
set_option linter.unusedVariables false
set_option linter.unusedSimpArgs false
set_option maxRecDepth 20000

theorem load_p {u : World} {a : Addr} {p : Value} (h : u.cell? a = some p) (hp : p = .pointer none ∨ ∃ z, p = pB z) : (loadVar 23 a).run Try.prog u = .ok p u := by
  rcases hp with rfl | ⟨z, rfl⟩
  · go_simp
  · unfold pB at *; go_simp
theorem load_rrow {W : World} {b : Nat} {A : Array Value} (hb : W.heap[b]? = some (.cells A 35 (0, 0))) (hs : A.size = 19) : (loadVar 35 ⟨b, 0, none⟩).run Try.prog W = .ok (.agg A) W :=
  run_loadVar_row _ b _ _ A (0, 0) _ hb Try.underlying35 rfl (by rw [hs]; exact Ow.info_row)

set_option maxHeartbeats 4000000 in
theorem none_any {w : World} (o : Ow) {q : Option Addr} {n c : Nat} {K : List Cl} (hv : Cls w (.slice q n c) K) : Calls Try.prog 5 #[.agg (o.arr q n c)] w fun e w' => e = .returned (.bool true) ∧ Kept w w' := by
  have hN : K.length = n := by obtain ⟨p, cap, e⟩ := hv.shape; cases e; rfl
  have hm := hv.most
  obtain ⟨A, hA⟩ : ∃ A, o.arr q n c = A := ⟨_, rfl⟩
  have sA : A.size = 19 := by rw [← hA]; rfl
  have c18 : A[18]? = some (.slice q n c) := by rw [← hA]; rfl
  rw [hA]
  obtain ⟨W, hW⟩ : ∃ W, w.alloc (.cells A 35) = W := ⟨_, rfl⟩
  have hb : Bl w W [(A, 35)] := hW ▸ Bl.one w A _
  have h18 : W.cell? ⟨w.heap.size, 18, none⟩ = some (.slice q n c) := (hb.cell 0 18 rfl).trans c18
  have HB := Lib.hid hb
  have HW := Lib.hid hW
  have HA := Lib.hid hA
  have HV := Lib.hid (hv.go hb.kept)
  have HN := Lib.hid hN
  have hm2 : n ≤ 9223372036854775807 := by unfold maxLen at hm; omega
  have AW := Lib.hid (fun u => awake_any u)
  clear hb hW hA hv hN c18
  by_cases hgt : 10 < n
  · have e1 : (10 : Int) < (n : Int) := by omega
    go_enter Try.func5, Try.ntmps5
    go_upto_region 1 with fail
    rw [HW.out]
    go_wp2_with (first | (go_at_call 8; refine (AW.out _).mono ?_; rintro e w1 ⟨rfl, k1⟩))
    go_ret
    exact ⟨rfl, HB.out.kept.trans k1⟩
  · have e1 : ¬ (10 : Int) < (n : Int) := by omega
    have hz : W.heap.size = w.heap.size + 1 := by rw [← HW.out]; simp
    go_enter Try.func5, Try.ntmps5
    go_upto_region 1 with fail
    rw [HW.out]
    clear hz
    go_upto_region 5 with fail
    obtain ⟨W2, hW2⟩ : ∃ W2, (W.alloc (.cells #[.pointer none, .map none, .map none] 63)).alloc (.cells #[.pointer none, .pointer (some ⟨W.heap.size, 0, none⟩)] 23) = W2 := ⟨_, rfl⟩
    have hb2 : Bl W W2 [(#[.pointer none, .map none, .map none], 63), (#[.pointer none, .pointer (some ⟨W.heap.size, 0, none⟩)], 23)] := hW2 ▸ Bl.two W _ _ _ _
    rw [hW2]
    have HB2 := Lib.hid hb2
    clear hb2 hW2
    go_wp2_with fail
    go_loopw [5] (fun x wr => ∃ i : Nat, i ≤ 2 ∧ x = .int .i64 (i : Int) ∧ Kept W2 wr) (fun x _ => 2 - (intOf x).toNat)
    case atStart => exact ⟨0, Nat.zero_le _, rfl, Kept.refl _⟩
    case round =>
      obtain ⟨i, hi, rfl, hk⟩ := hrel
      by_cases hlt : i < 2
      · obtain ⟨p, hp, hn⟩ : ∃ p, wr.cell? ⟨W.heap.size + 1, i, none⟩ = some p ∧ NotT wr p := by
          have h0 := (HB2.out.go hk).cell 1 i rfl
          have hz := (HB2.out.go hk).cell 0 0 rfl
          match i, hlt with
          | 0, _ => exact ⟨_, h0, .inl rfl⟩
          | 1, _ => exact ⟨_, h0, .inr ⟨_, rfl, hz⟩⟩
        have lp := load_p hp (hn.imp id fun ⟨z, e, _⟩ => ⟨z, e⟩)
        have hi1 : (i : Int) < 2 := by omega
        have HNT := Lib.hid hn
        have B0 := Lib.hid (fun (u : World) (hu : Kept wr u) => ((HB.out.go HB2.out.kept).go hk).go hu)
        have G1 := Lib.hid (fun (u : World) (hu : Kept wr u) => by have := nget_any (hn.kept hu) (ok o); unfold kv ok at this; exact this)
        have G2 := Lib.hid (fun (u : World) (hu : Kept wr u) => by have := ncaller_any (hn.kept hu) ⟨o.rn, o.ri, o.rs⟩; unfold dv at this; exact this)
        have G3 := Lib.hid (fun (u : World) (hu : Kept wr u) => nput_any (hn.kept hu))
        have G4 := Lib.hid (fun (u : World) (hu : Kept wr u) => by have := ndrop_any (hn.kept hu) (ok o); unfold kv ok at this; exact this)
        have G5 := Lib.hid (fun (u : World) (hu : Kept wr u) => nkeys_any (hn.kept hu))
        have G6 := Lib.hid (fun (u : World) (hu : Kept wr u) => nrunning_any (hn.kept hu))
        have G7 := Lib.hid (fun (u : World) (hu : Kept wr u) => by have := nunder_any (hn.kept hu) ⟨o.rn, o.ri, o.rs⟩; unfold dv at this; exact this)
        have M1 := Lib.hid (fun (u : World) (hu : Kept wr u) => by
          have := mine_any (w := u) o (HV.out.go ((HB2.out.kept.trans hk).trans hu)) (by have := HN.out; omega)
          rw [HA.out] at this; exact this)
        have LK := Lib.hid (fun (u : World) (hu : Kept wr u) => load_key (u := u) (b := w.heap.size) (o := 0) (((B0.out u hu).cell 0 0 rfl).trans (show A[0]? = some (.int .i64 o.kn) by rw [← HA.out]; rfl)) (((B0.out u hu).cell 0 1 rfl).trans (show A[1]? = some (.int .i64 o.ki) by rw [← HA.out]; rfl)) (((B0.out u hu).cell 0 2 rfl).trans (show A[2]? = some (.int .i64 o.ks) by rw [← HA.out]; rfl)) (((B0.out u hu).cell 0 3 rfl).trans (show A[3]? = some (.int .i64 o.ka) by rw [← HA.out]; rfl)))
        have LR := Lib.hid (fun (u : World) (hu : Kept wr u) => load_id (u := u) (b := w.heap.size) (o := 4) (((B0.out u hu).cell 0 4 rfl).trans (show A[4]? = some (.int .i64 o.rn) by rw [← HA.out]; rfl)) (((B0.out u hu).cell 0 5 rfl).trans (show A[5]? = some (.int .i64 o.ri) by rw [← HA.out]; rfl)) (((B0.out u hu).cell 0 6 rfl).trans (show A[6]? = some (.int .i64 o.rs) by rw [← HA.out]; rfl)))
        have LW := Lib.hid (fun (u : World) (hu : Kept wr u) => load_rrow ((B0.out u hu).blk 0 rfl) sA)
        have l1 := LK.out wr (Kept.refl _)
        have C1 := Lib.hid (G1.out wr (Kept.refl _))
        clear hp hn
        go_upto_region 10 with (first
          | (refine load_l 23 (.tmp 28) rfl _ rfl rfl p lp ?_)
          | (refine load_l 32 (.tmp 32) rfl _ rfl rfl _ l1 ?_)
          | (go_at_call 18; refine C1.out.mono ?_; rintro e w5 ⟨rfl, k5⟩)
          | (refine store_new rfl 52 (.tmp 7) (.tmp 35) rfl w5.heap.size zeroA rfl rfl w5 _ rfl 19 info_ow rfl rfl (arr_one _ _ _ _) ?_))
        obtain ⟨w6, hw6⟩ : ∃ w6, w5.alloc (.cells zeroA 52) = w6 := ⟨_, rfl⟩
        have k6 : Kept wr w6 := by rw [← hw6]; exact k5.more _
        rw [hw6]
        have l2 := LR.out w6 k6
        have C2 := Lib.hid (G2.out w6 k6)
        clear hw6 k5
        go_upto_region 11 with (first
          | (refine load_l 30 (.tmp 39) rfl _ rfl rfl _ l2 ?_)
          | (go_at_call 22; refine C2.out.mono ?_; rintro e w7 ⟨rfl, k7⟩)
          | (refine store_new rfl 52 (.tmp 9) (.tmp 42) rfl w7.heap.size zeroA rfl rfl w7 _ rfl 19 info_ow rfl rfl (arr_one _ _ _ _) ?_))
        obtain ⟨w8, hw8⟩ : ∃ w8, w7.alloc (.cells zeroA 52) = w8 := ⟨_, rfl⟩
        have k8 : Kept wr w8 := by rw [← hw8]; exact (k6.trans k7).more _
        rw [hw8]
        have hSt : Stab (fun u => Kept wr u) := stab_kept wr
        clear hw8 k7 k6 l1 l2 C1 C2 lp
        refine Av.region 33 (fun u => Kept wr u) (by kernel_rfl) (k8.drew) ?_
        refine Av.take 0 (some 44) (v := ?_) rfl rfl (by kernel_rfl) (by kernel_rfl) (by kernel_rfl) (by kernel_rfl) (fun _ _ _ h => h) hSt (Au.yq_run (by rfl) (fun u hu => ?_)) ?_
        rotate_left
        · (clear hu; go_simp; try with_reducible rfl)
        simp only [Act.put, List.setIfInBounds_toArray, List.set_cons_zero, List.set_cons_succ]
        refine Av.take 1 (some 45) (v := ?_) rfl rfl (by kernel_rfl) (by kernel_rfl) (by kernel_rfl) (by kernel_rfl) (fun _ _ _ h => h) hSt (Au.yq_run (by rfl) (fun u hu => ?_)) ?_
        rotate_left
        · (clear hu; go_simp; try with_reducible rfl)
        simp only [Act.put, List.setIfInBounds_toArray, List.set_cons_zero, List.set_cons_succ]
        refine Av.take 2 (some 46) (v := ?_) rfl rfl (by kernel_rfl) (by kernel_rfl) (by kernel_rfl) (by kernel_rfl) (fun _ _ _ h => h) hSt (Au.yq_run (by rfl) (fun u hu => ?_)) ?_
        rotate_left
        · (clear hu; go_simp; try with_reducible rfl)
        simp only [Act.put, List.setIfInBounds_toArray, List.set_cons_zero, List.set_cons_succ]
        refine Av.take 3 (some 47) (v := ?_) rfl rfl (by kernel_rfl) (by kernel_rfl) (by kernel_rfl) (by kernel_rfl) (fun _ _ _ h => h) hSt (Au.yq_run (by rfl) (fun u hu => ?_)) ?_
        rotate_left
        · (clear hu; go_simp; try with_reducible rfl)
        simp only [Act.put, List.setIfInBounds_toArray, List.set_cons_zero, List.set_cons_succ]
        refine Av.take 4 (some 48) (v := ?_) rfl rfl (by kernel_rfl) (by kernel_rfl) (by kernel_rfl) (by kernel_rfl) (fun _ _ _ h => h) hSt (Au.yq_run (by rfl) (fun u hu => ?_)) ?_
        rotate_left
        · (clear hu; go_simp; try with_reducible rfl)
        simp only [Act.put, List.setIfInBounds_toArray, List.set_cons_zero, List.set_cons_succ]
        refine Av.take 5 (some 49) (v := ?_) rfl rfl (by kernel_rfl) (by kernel_rfl) (by kernel_rfl) (by kernel_rfl) (fun _ _ _ h => h) hSt (Au.yq_run (by rfl) (fun u hu => ?_)) ?_
        rotate_left
        · (clear hu; go_simp; try with_reducible rfl)
        simp only [Act.put, List.setIfInBounds_toArray, List.set_cons_zero, List.set_cons_succ]
        refine Av.take 6 (some 50) rfl rfl (by kernel_rfl) (by kernel_rfl) (by kernel_rfl) (by kernel_rfl) (fun _ _ _ h => h) hSt (Au.yq_load 35 (.tmp 1) rfl _ rfl (by rfl) (fun u hu => LW.out u hu)) ?_
        simp only [Act.put, List.setIfInBounds_toArray, List.set_cons_zero, List.set_cons_succ]
        refine Av.step_list 7 rfl (by kernel_rfl) (fun w9 hw9 K9 hK9 => ?_)
        have M9 := Lib.hid (M1.out w9 hw9)
        go_wp2_with (first | (go_at_call 17; refine M9.out.mono ?_; rintro e wa ⟨q1, n1, c1, rfl, _, _, ka⟩))
        refine hK9.out (fun u => Kept wr u) _ _ (hw9.trans ka) hSt (fun u hu => hu) ?_
        clear hK9 K9 M9 hw9 ka
        obtain ⟨Y, hY⟩ : ∃ Y, o.arr q1 n1 c1 = Y := ⟨_, rfl⟩
        rw [hY]
        clear hY
        try simp only [Act.put, List.setIfInBounds_toArray, List.set_cons_zero, List.set_cons_succ]
        refine Av.take 8 (some 52) rfl rfl (by kernel_rfl) (by kernel_rfl) (by kernel_rfl) (by kernel_rfl) (fun _ _ _ h => h) hSt (Au.yq_call 16 _ (by rfl) (fun u => by go_simp) (fun u hu => G3.out u hu Y)) ?_
        simp only [Act.put, List.setIfInBounds_toArray, List.set_cons_zero, List.set_cons_succ]
        refine Av.take 9 (some 53) (v := ?_) rfl rfl (by kernel_rfl) (by kernel_rfl) (by kernel_rfl) (by kernel_rfl) (fun _ _ _ h => h) hSt (Au.yq_run (by rfl) (fun u hu => ?_)) ?_
        rotate_left
        · (clear hu; go_simp; try with_reducible rfl)
        simp only [Act.put, List.setIfInBounds_toArray, List.set_cons_zero, List.set_cons_succ]
        refine Av.take 10 (some 54) (v := ?_) rfl rfl (by kernel_rfl) (by kernel_rfl) (by kernel_rfl) (by kernel_rfl) (fun _ _ _ h => h) hSt (Au.yq_run (by rfl) (fun u hu => ?_)) ?_
        rotate_left
        · (clear hu; go_simp; try with_reducible rfl)
        simp only [Act.put, List.setIfInBounds_toArray, List.set_cons_zero, List.set_cons_succ]
        refine Av.take 11 (some 55) (v := ?_) rfl rfl (by kernel_rfl) (by kernel_rfl) (by kernel_rfl) (by kernel_rfl) (fun _ _ _ h => h) hSt (Au.yq_run (by rfl) (fun u hu => ?_)) ?_
        rotate_left
        · (clear hu; go_simp; try with_reducible rfl)
        simp only [Act.put, List.setIfInBounds_toArray, List.set_cons_zero, List.set_cons_succ]
        refine Av.take 12 (some 56) (v := ?_) rfl rfl (by kernel_rfl) (by kernel_rfl) (by kernel_rfl) (by kernel_rfl) (fun _ _ _ h => h) hSt (Au.yq_run (by rfl) (fun u hu => ?_)) ?_
        rotate_left
        · (clear hu; go_simp; try with_reducible rfl)
        simp only [Act.put, List.setIfInBounds_toArray, List.set_cons_zero, List.set_cons_succ]
        refine Av.take 13 (some 57) (v := ?_) rfl rfl (by kernel_rfl) (by kernel_rfl) (by kernel_rfl) (by kernel_rfl) (fun _ _ _ h => h) hSt (Au.yq_run (by rfl) (fun u hu => ?_)) ?_
        rotate_left
        · (clear hu; go_simp; try with_reducible rfl)
        simp only [Act.put, List.setIfInBounds_toArray, List.set_cons_zero, List.set_cons_succ]
        refine Av.take 14 (some 58) rfl rfl (by kernel_rfl) (by kernel_rfl) (by kernel_rfl) (by kernel_rfl) (fun _ _ _ h => h) hSt (Au.yq_load 32 (.tmp 57) rfl _ rfl (by rfl) (fun u hu => LK.out u hu)) ?_
        simp only [Act.put, List.setIfInBounds_toArray, List.set_cons_zero, List.set_cons_succ]
        refine Av.take 15 (some 59) rfl rfl (by kernel_rfl) (by kernel_rfl) (by kernel_rfl) (by kernel_rfl) (fun _ _ _ h => h) hSt (Au.yq_call 23 _ (by rfl) (fun u => by go_simp) (fun u hu => G4.out u hu)) ?_
        simp only [Act.put, List.setIfInBounds_toArray, List.set_cons_zero, List.set_cons_succ]
        refine Av.take 16 (some 60) (v := ?_) rfl rfl (by kernel_rfl) (by kernel_rfl) (by kernel_rfl) (by kernel_rfl) (fun _ _ _ h => h) hSt (Au.yq_run (by rfl) (fun u hu => ?_)) ?_
        rotate_left
        · (clear hu; go_simp; try with_reducible rfl)
        simp only [Act.put, List.setIfInBounds_toArray, List.set_cons_zero, List.set_cons_succ]
        refine Av.take 17 (some 61) (v := ?_) rfl rfl (by kernel_rfl) (by kernel_rfl) (by kernel_rfl) (by kernel_rfl) (fun _ _ _ h => h) hSt (Au.yq_run (by rfl) (fun u hu => ?_)) ?_
        rotate_left
        · (clear hu; go_simp; try with_reducible rfl)
        simp only [Act.put, List.setIfInBounds_toArray, List.set_cons_zero, List.set_cons_succ]
        refine Av.take 18 (some 62) (v := ?_) rfl rfl (by kernel_rfl) (by kernel_rfl) (by kernel_rfl) (by kernel_rfl) (fun _ _ _ h => h) hSt (Au.yq_run (by rfl) (fun u hu => ?_)) ?_
        rotate_left
        · (clear hu; go_simp; try with_reducible rfl)
        simp only [Act.put, List.setIfInBounds_toArray, List.set_cons_zero, List.set_cons_succ]
        refine Av.take 19 (some 63) rfl rfl (by kernel_rfl) (by kernel_rfl) (by kernel_rfl) (by kernel_rfl) (fun _ _ _ h => h) hSt (Au.yq_call 11 _ (by rfl) (fun u => by go_simp) (fun u hu => G5.out u hu)) ?_
        simp only [Act.put, List.setIfInBounds_toArray, List.set_cons_zero, List.set_cons_succ]
        refine Av.take 20 (some 64) (v := ?_) rfl rfl (by kernel_rfl) (by kernel_rfl) (by kernel_rfl) (by kernel_rfl) (fun _ _ _ h => h) hSt (Au.yq_run (by rfl) (fun u hu => ?_)) ?_
        rotate_left
        · (clear hu; go_simp; try with_reducible rfl)
        simp only [Act.put, List.setIfInBounds_toArray, List.set_cons_zero, List.set_cons_succ]
        refine Av.take 21 (some 65) (v := ?_) rfl rfl (by kernel_rfl) (by kernel_rfl) (by kernel_rfl) (by kernel_rfl) (fun _ _ _ h => h) hSt (Au.yq_run (by rfl) (fun u hu => ?_)) ?_
        rotate_left
        · (clear hu; go_simp; try with_reducible rfl)
        simp only [Act.put, List.setIfInBounds_toArray, List.set_cons_zero, List.set_cons_succ]
        refine Av.take 22 (some 66) rfl rfl (by kernel_rfl) (by kernel_rfl) (by kernel_rfl) (by kernel_rfl) (fun _ _ _ h => h) hSt (Au.yq_call 13 _ (by rfl) (fun u => by go_simp) (fun u hu => G6.out u hu)) ?_
        simp only [Act.put, List.setIfInBounds_toArray, List.set_cons_zero, List.set_cons_succ]
        refine Av.take 23 (some 67) (v := ?_) rfl rfl (by kernel_rfl) (by kernel_rfl) (by kernel_rfl) (by kernel_rfl) (fun _ _ _ h => h) hSt (Au.yq_run (by rfl) (fun u hu => ?_)) ?_
        rotate_left
        · (clear hu; go_simp; try with_reducible rfl)
        simp only [Act.put, List.setIfInBounds_toArray, List.set_cons_zero, List.set_cons_succ]
        refine Av.take 24 (some 68) (v := ?_) rfl rfl (by kernel_rfl) (by kernel_rfl) (by kernel_rfl) (by kernel_rfl) (fun _ _ _ h => h) hSt (Au.yq_run (by rfl) (fun u hu => ?_)) ?_
        rotate_left
        · (clear hu; go_simp; try with_reducible rfl)
        simp only [Act.put, List.setIfInBounds_toArray, List.set_cons_zero, List.set_cons_succ]
        refine Av.take 25 (some 69) (v := ?_) rfl rfl (by kernel_rfl) (by kernel_rfl) (by kernel_rfl) (by kernel_rfl) (fun _ _ _ h => h) hSt (Au.yq_run (by rfl) (fun u hu => ?_)) ?_
        rotate_left
        · (clear hu; go_simp; try with_reducible rfl)
        simp only [Act.put, List.setIfInBounds_toArray, List.set_cons_zero, List.set_cons_succ]
        refine Av.take 26 (some 70) (v := ?_) rfl rfl (by kernel_rfl) (by kernel_rfl) (by kernel_rfl) (by kernel_rfl) (fun _ _ _ h => h) hSt (Au.yq_run (by rfl) (fun u hu => ?_)) ?_
        rotate_left
        · (clear hu; go_simp; try with_reducible rfl)
        simp only [Act.put, List.setIfInBounds_toArray, List.set_cons_zero, List.set_cons_succ]
        refine Av.take 27 (some 71) rfl rfl (by kernel_rfl) (by kernel_rfl) (by kernel_rfl) (by kernel_rfl) (fun _ _ _ h => h) hSt (Au.yq_load 30 (.tmp 70) rfl _ rfl (by rfl) (fun u hu => LR.out u hu)) ?_
        simp only [Act.put, List.setIfInBounds_toArray, List.set_cons_zero, List.set_cons_succ]
        refine Av.take 28 (some 72) rfl rfl (by kernel_rfl) (by kernel_rfl) (by kernel_rfl) (by kernel_rfl) (fun _ _ _ h => h) hSt (Au.yq_call 24 _ (by rfl) (fun u => by go_simp) (fun u hu => G7.out u hu)) ?_
        simp only [Act.put, List.setIfInBounds_toArray, List.set_cons_zero, List.set_cons_succ]
        refine Av.take 29 (some 73) (v := ?_) rfl rfl (by kernel_rfl) (by kernel_rfl) (by kernel_rfl) (by kernel_rfl) (fun _ _ _ h => h) hSt (Au.yq_run (by rfl) (fun u hu => ?_)) ?_
        rotate_left
        · (clear hu; go_simp; try with_reducible rfl)
        simp only [Act.put, List.setIfInBounds_toArray, List.set_cons_zero, List.set_cons_succ]
        refine Av.take 30 (some 74) (v := ?_) rfl rfl (by kernel_rfl) (by kernel_rfl) (by kernel_rfl) (by kernel_rfl) (fun _ _ _ h => h) hSt (Au.yq_run (by rfl) (fun u hu => ?_)) ?_
        rotate_left
        · (clear hu; go_simp; try with_reducible rfl)
        simp only [Act.put, List.setIfInBounds_toArray, List.set_cons_zero, List.set_cons_succ]
        refine Av.take 31 (some 75) (v := ?_) rfl rfl (by kernel_rfl) (by kernel_rfl) (by kernel_rfl) (by kernel_rfl) (fun _ _ _ h => h) hSt (Au.yq_run (by rfl) (fun u hu => ?_)) ?_
        rotate_left
        · (clear hu; go_simp; try with_reducible rfl)
        simp only [Act.put, List.setIfInBounds_toArray, List.set_cons_zero, List.set_cons_succ]
        refine Av.take 32 (some 76) (v := ?_) rfl rfl (by kernel_rfl) (by kernel_rfl) (by kernel_rfl) (by kernel_rfl) (fun _ _ _ h => h) hSt (Au.yq_run (by rfl) (fun u hu => ?_)) ?_
        rotate_left
        · (clear hu; go_simp; try with_reducible rfl)
        simp only [Act.put, List.setIfInBounds_toArray, List.set_cons_zero, List.set_cons_succ]
        refine Av.done (by kernel_rfl) (fun u hu => ?_)
        have HU := Lib.hid hu
        clear hu B0 G1 G2 G3 G4 G5 G6 G7 M1 LK LR LW
        go_wp2_with fail
        go_roundw
        case rel => exact ⟨i + 1, hlt, by go_num, hk.trans HU.out⟩
        case measure => simp [intOf]; omega
      · obtain rfl : i = 2 := by omega
        go_wp2_with (first | (go_at_call 8; refine (AW.out _).mono ?_; rintro e w1 ⟨rfl, k1⟩))
        go_ret
        exact ⟨rfl, ((HB.out.kept.trans HB2.out.kept).trans hk).trans k1⟩

end Go.Proofs.Ytiaafjabhnomeaa.Tb
