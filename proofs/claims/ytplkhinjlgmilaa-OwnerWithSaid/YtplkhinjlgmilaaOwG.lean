/- Chapter 23's example. -/
import Derived.Test.YtplkhinjlgmilaaOwC
namespace Go.Proofs.Ytplkhinjlgmilaa.Ow
open Go.RowKit Go.Sort Go.Shelf St Blk Eqs
open Go.Proofs.Ytplkhinjlgmilaa.Cl
open Go.Proofs.Ytplkhinjlgmilaa.Ls
open Go.Proofs.Ytplkhinjlgmilaa.Rv
open Go.Proofs.Ytplkhinjlgmilaa.Ad (load_w load_l store_new)
set_option linter.unusedVariables false

def exL : List Pg.Op := [⟨1, 2, 0⟩, ⟨5, 5, 0⟩]
def exA : Ow := { zero with dn := 1 }
def exB : Ow := { zero with pc := 1 }
theorem ex_1 : stepO zero [] exL = (exA, actA 0 0 0) := by kernel_rfl
theorem ex_2 : stepO exA [] exL = (exB, actA 0 0 0) := by kernel_rfl
theorem ex_3 : stepO exB [] exL = (exB, actA 4 5 0) := by kernel_rfl
def exArr : Array Value := #[.int .i64 1, .int .i64 2, .int .i64 0, .int .i64 5, .int .i64 5, .int .i64 0]
theorem ex_ops {w u : World} {g : Nat} (h : w.heap[g]? = some (.cells exArr 64 (0, 0))) (k : Kept w u) : Pg.Ops u (.slice (some ⟨g, 0, none⟩) 2 2) exL := by
  refine Pg.Ops.go (.inr ⟨by decide, by decide, g, 0, 2, rfl, blk_lt h, fun i o hi j x hx => ?_⟩) k
  rw [blk_cell h]
  match i, hi with
  | 0, hi =>
    cases hi
    match j, hx with
    | 0, hx => exact hx
    | 1, hx => exact hx
    | 2, hx => exact hx
  | 1, hi =>
    cases hi
    match j, hx with
    | 0, hx => exact hx
    | 1, hx => exact hx
    | 2, hx => exact hx

set_option maxRecDepth 100000 in
set_option maxHeartbeats 2000000 in
theorem awake_any (w : World) : Calls Try.prog 8 #[] w fun e w' => e = .returned (.bool true) ∧ Kept w w' := by
  obtain ⟨W, hW⟩ : ∃ W, w.alloc (.cells exArr 64) = W := ⟨_, rfl⟩
  have hg : W.heap[w.heap.size]? = some (.cells exArr 64 (0, 0)) := by rw [← hW]; exact blk_new w _
  have HK := Lib.hid (show Kept w W by rw [← hW]; exact Kept.one _ _)
  have HW := Lib.hid hW
  have S1 := Lib.hid (fun (u : World) (hu : Kept W u) => by have := step_any (w := u) zero (ls_nil u none 0) (by decide) (ex_ops hg hu) (by decide); rw [ex_1] at this; exact this)
  have S2 := Lib.hid (fun (u : World) (hu : Kept W u) (q : Option Addr) (c : Nat) (hm : Mc u (.slice q 0 c) []) => by have := step_any (w := u) exA (mc_cls hm (by decide)) (by decide) (ex_ops hg hu) (by decide); rw [ex_2] at this; exact this)
  have S3 := Lib.hid (fun (u : World) (hu : Kept W u) (q : Option Addr) (c : Nat) (hm : Mc u (.slice q 0 c) []) => by have := step_any (w := u) exB (mc_cls hm (by decide)) (by decide) (ex_ops hg hu) (by decide); rw [ex_3] at this; exact this)
  clear hg hW
  go_enter Try.func8, Try.ntmps8
  go_upto_region 2 with fail
  rw [show w.alloc (.cells #[.int .i64 1, .int .i64 2, .int .i64 0, .int .i64 5, .int .i64 5, .int .i64 0] 64) = W from HW.out]
  go_upto_region 3 with (first
    | (go_at_call 30; refine (S1.out _ (Kept.refl _)).mono ?_; rintro e w1 ⟨q1, c1, rfl, r1, k1⟩; have hB1 := Bl.two w1 zeroA zact 34 56; have K1 := Lib.hid (And.intro r1 k1); clear r1 k1)
    | (refine wpList_store_row rfl 34 (.tmp 2) (.tmp 15) rfl w1.heap.size ((exA).arr q1 0 c1) rfl rfl 34 zeroA (hB1.blk 0 rfl) info_ow rfl (arr_one _ _ _ _) ?_)
    | (refine wpList_store_row rfl 56 (.tmp 3) (.tmp 16) rfl (w1.heap.size + 1) (actA 0 0 0) rfl rfl 56 zact ((hB1.row 0 rfl ((exA).arr q1 0 c1)).blk 1 rfl) info_act rfl (act_one _ _ _) ?_))
  have hb1 := ((Bl.two w1 zeroA zact 34 56).row 0 rfl ((exA).arr q1 0 c1)).row 1 rfl (actA 0 0 0)
  obtain ⟨V1, hV1⟩ : ∃ V, (World.setRow (World.setRow ((w1.alloc (.cells zeroA 34)).alloc (.cells zact 56)) (w1.heap.size + 0) ((exA).arr q1 0 c1)) (w1.heap.size + 1) (actA 0 0 0)) = V := ⟨_, rfl⟩
  rw [hV1] at hb1
  rw [show (World.setRow (World.setRow ((w1.alloc (.cells #[.int .i64 0, .int .i64 0, .int .i64 0, .int .i64 0, .int .i64 0, .int .i64 0, .int .i64 0, .int .i64 0, .int .i64 0, .int .i64 0, .int .i64 0, .int .i64 0, .int .i64 0, .int .i64 0, .int .i64 0, .int .i64 0, .int .i64 0, .int .i64 0, .slice none 0 0] 34)).alloc (.cells #[.int .i64 0, .int .i64 0, .int .i64 0] 56)) w1.heap.size ((exA).arr q1 0 c1)) (w1.heap.size + 1) (actA 0 0 0)) = V1 from hV1]
  have L1 := load_ow (hb1.blk 0 rfl) (arr_size _ _ _ _)
  have HB1 := Lib.hid hb1
  clear hb1 hV1 hB1
  have KK1 := Lib.hid (show Kept W V1 from K1.out.2.trans HB1.out.kept)
  go_upto_region 4 with (first
    | (refine load_l 34 (.tmp 2) rfl _ rfl rfl _ L1 ?_)
    | (go_at_call 30; refine (S2.out _ KK1.out _ _ (K1.out.1.keep HB1.out.kept)).mono ?_; rintro e w2 ⟨q2, c2, rfl, r2, k2⟩; have hB2 := Bl.two w2 zeroA zact 34 56; have K2 := Lib.hid (And.intro r2 k2); clear r2 k2)
    | (refine wpList_store_row rfl 34 (.tmp 4) (.tmp 21) rfl w2.heap.size ((exB).arr q2 0 c2) rfl rfl 34 zeroA (hB2.blk 0 rfl) info_ow rfl (arr_one _ _ _ _) ?_)
    | (refine wpList_store_row rfl 56 (.tmp 5) (.tmp 22) rfl (w2.heap.size + 1) (actA 0 0 0) rfl rfl 56 zact ((hB2.row 0 rfl ((exB).arr q2 0 c2)).blk 1 rfl) info_act rfl (act_one _ _ _) ?_))
  have hb2 := ((Bl.two w2 zeroA zact 34 56).row 0 rfl ((exB).arr q2 0 c2)).row 1 rfl (actA 0 0 0)
  obtain ⟨V2, hV2⟩ : ∃ V, (World.setRow (World.setRow ((w2.alloc (.cells zeroA 34)).alloc (.cells zact 56)) (w2.heap.size + 0) ((exB).arr q2 0 c2)) (w2.heap.size + 1) (actA 0 0 0)) = V := ⟨_, rfl⟩
  rw [hV2] at hb2
  rw [show (World.setRow (World.setRow ((w2.alloc (.cells #[.int .i64 0, .int .i64 0, .int .i64 0, .int .i64 0, .int .i64 0, .int .i64 0, .int .i64 0, .int .i64 0, .int .i64 0, .int .i64 0, .int .i64 0, .int .i64 0, .int .i64 0, .int .i64 0, .int .i64 0, .int .i64 0, .int .i64 0, .int .i64 0, .slice none 0 0] 34)).alloc (.cells #[.int .i64 0, .int .i64 0, .int .i64 0] 56)) w2.heap.size ((exB).arr q2 0 c2)) (w2.heap.size + 1) (actA 0 0 0)) = V2 from hV2]
  have L2 := load_ow (hb2.blk 0 rfl) (arr_size _ _ _ _)
  have HB2 := Lib.hid hb2
  clear hb2 hV2 hB2
  have KK2 := Lib.hid (show Kept W V2 from KK1.out.trans (K2.out.2.trans HB2.out.kept))
  go_upto_region 5 with (first
    | (refine load_l 34 (.tmp 4) rfl _ rfl rfl _ L2 ?_)
    | (go_at_call 30; refine (S3.out _ KK2.out _ _ (K2.out.1.keep HB2.out.kept)).mono ?_; rintro e w3 ⟨q3, c3, rfl, r3, k3⟩; have hB3 := Bl.two w3 zeroA zact 34 56; have K3 := Lib.hid (And.intro r3 k3); clear r3 k3)
    | (refine wpList_store_row rfl 34 (.tmp 6) (.tmp 27) rfl w3.heap.size ((exB).arr q3 0 c3) rfl rfl 34 zeroA (hB3.blk 0 rfl) info_ow rfl (arr_one _ _ _ _) ?_)
    | (refine wpList_store_row rfl 56 (.tmp 7) (.tmp 28) rfl (w3.heap.size + 1) (actA 4 5 0) rfl rfl 56 zact ((hB3.row 0 rfl ((exB).arr q3 0 c3)).blk 1 rfl) info_act rfl (act_one _ _ _) ?_))
  have hb3 := ((Bl.two w3 zeroA zact 34 56).row 0 rfl ((exB).arr q3 0 c3)).row 1 rfl (actA 4 5 0)
  obtain ⟨V3, hV3⟩ : ∃ V, (World.setRow (World.setRow ((w3.alloc (.cells zeroA 34)).alloc (.cells zact 56)) (w3.heap.size + 0) ((exB).arr q3 0 c3)) (w3.heap.size + 1) (actA 4 5 0)) = V := ⟨_, rfl⟩
  rw [hV3] at hb3
  rw [show (World.setRow (World.setRow ((w3.alloc (.cells #[.int .i64 0, .int .i64 0, .int .i64 0, .int .i64 0, .int .i64 0, .int .i64 0, .int .i64 0, .int .i64 0, .int .i64 0, .int .i64 0, .int .i64 0, .int .i64 0, .int .i64 0, .int .i64 0, .int .i64 0, .int .i64 0, .int .i64 0, .int .i64 0, .slice none 0 0] 34)).alloc (.cells #[.int .i64 0, .int .i64 0, .int .i64 0] 56)) w3.heap.size ((exB).arr q3 0 c3)) (w3.heap.size + 1) (actA 4 5 0)) = V3 from hV3]
  have L3 := load_ow (hb3.blk 0 rfl) (arr_size _ _ _ _)
  have HB3 := Lib.hid hb3
  clear hb3 hV3 hB3
  have k23 : Kept V2 V3 := K3.out.2.trans HB3.out.kept
  have k13 : Kept V1 V3 := (K2.out.2.trans HB2.out.kept).trans k23
  have x30 : V3.cell? ⟨w1.heap.size + 1, 0, none⟩ = some (.int .i64 0) := (HB1.out.go k13).cell 1 0 rfl
  have x50 : V3.cell? ⟨w2.heap.size + 1, 0, none⟩ = some (.int .i64 0) := (HB2.out.go k23).cell 1 0 rfl
  have x48 : V3.cell? ⟨w2.heap.size, 16, none⟩ = some (.int .i64 1) := (HB2.out.go k23).cell 0 16 rfl
  have x70 : V3.cell? ⟨w3.heap.size + 1, 0, none⟩ = some (.int .i64 4) := HB3.out.cell 1 0 rfl
  have x71 : V3.cell? ⟨w3.heap.size + 1, 1, none⟩ = some (.int .i64 5) := HB3.out.cell 1 1 rfl
  have LZ := load_ow ((HB1.out.go k13).blk 0 rfl) (arr_size _ _ _ _)
  have C1 := Lib.hid (show ∀ u, Calls Try.prog 29 #[.agg (exA.arr q1 0 c1)] u fun e w' => e = .returned (.bool true) ∧ Kept u w' from fun u => isroot_any exA q1 0 c1 u)
  have HK3 := Lib.hid (show Kept w V3 from HK.out.trans (KK2.out.trans k23))
  clear k23 k13
  go_wp2_with (first
    | (refine load_l 34 (.tmp 2) rfl _ rfl rfl _ LZ ?_)
    | (go_at_call 29; refine (C1.out _).mono ?_; rintro e w9 ⟨rfl, k9⟩))
  go_ret
  exact ⟨rfl, HK3.out.trans k9⟩

end Go.Proofs.Ytplkhinjlgmilaa.Ow
