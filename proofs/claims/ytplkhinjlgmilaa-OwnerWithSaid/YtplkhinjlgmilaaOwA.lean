/- Package owner: what an owner does that waits for its calls. -/
import Derived.Test.YtplkhinjlgmilaaOw9
import Derived.Test.YtplkhinjlgmilaaAu
namespace Go.Proofs.Ytplkhinjlgmilaa.Ow
open Go.RowKit Go.Sort Go.Shelf St Blk Eqs
open Go.Proofs.Ytplkhinjlgmilaa.Cl
open Go.Proofs.Ytplkhinjlgmilaa.Ls
open Go.Proofs.Ytplkhinjlgmilaa.Rv
open Go.Proofs.Ytplkhinjlgmilaa.Id (quiet_at)
open Go.Proofs.Ytplkhinjlgmilaa.Ad (load_w load_l store_new)
set_option linter.unusedVariables false

/-- what a call hands back that has two results in memory -/
theorem results_rows {P : Program} {fn : Func} {p q : Tmp} {ty ty' : TypeId} (h : fn.results = #[.cell p ty, .cell q ty']) (tmps : Array Value) (w : World) (g g' : Nat) (t t' : TypeId) (cs ds : Array Value) (fr fr' : Nat × Nat) (d d' : TypeDesc)
    (hp : tmps.getD p undef = .pointer (some ⟨g, 0, none⟩)) (hq : tmps.getD q undef = .pointer (some ⟨g', 0, none⟩)) (hg : w.heap[g]? = some (.cells cs t fr)) (hg' : w.heap[g']? = some (.cells ds t' fr'))
    (hu : P.underlying ty = some d) (hd : (match d with | .struct _ | .array _ _ => true | _ => false) = true) (hi : (P.info? ty).map (·.size) = some cs.size)
    (hu' : P.underlying ty' = some d') (hd' : (match d' with | .struct _ | .array _ _ => true | _ => false) = true) (hi' : (P.info? ty').map (·.size) = some ds.size) :
    (results fn tmps).run P w = .ok (.tuple #[.agg cs, .agg ds]) w := by
  have hp' : tmps[p]?.getD undef = .pointer (some ⟨g, 0, none⟩) := by simpa using hp
  have hq' : tmps[q]?.getD undef = .pointer (some ⟨g', 0, none⟩) := by simpa using hq
  simp [results, h, hp', hq', asAddr, run_loadVar_row w g t ty cs fr d hg hu hd hi, run_loadVar_row w g' t' ty' ds fr' d' hg' hu' hd' hi']

def joinO (o : Ow) (K : List Cl) : Ow × Array Value := if 0 < openL K then (o, actA 1 0 0) else if worstL K = 0 then (nextO o, actA 0 0 0) else (o, actA 5 (worstL K) 0)
theorem join_open {o : Ow} {K : List Cl} (h : 0 < openL K) : joinO o K = (o, actA 1 0 0) := by unfold joinO; rw [if_pos h]
theorem join_on {o : Ow} {K : List Cl} (h : ¬ 0 < openL K) (h2 : worstL K = 0) : joinO o K = (nextO o, actA 0 0 0) := by unfold joinO; rw [if_neg h, if_pos h2]
theorem join_bad {o : Ow} {K : List Cl} (h : ¬ 0 < openL K) (h2 : ¬ worstL K = 0) : joinO o K = (o, actA 5 (worstL K) 0) := by unfold joinO; rw [if_neg h, if_neg h2]
def zact : Array Value := #[.int .i64 0, .int .i64 0, .int .i64 0]

set_option maxRecDepth 100000 in
set_option maxHeartbeats 1000000 in
theorem joined_any {w : World} {q : Option Addr} {N c : Nat} {K : List Cl} (o : Ow) (h0 : 0 ≤ o.pc) (h1 : o.pc < 9223372036854775807) (hv : Cls w (.slice q N c) K) :
    Calls Try.prog 49 #[.agg (o.arr q N c)] w fun e w' => e = .returned (.tuple #[.agg ((joinO o K).1.arr q N c), .agg (joinO o K).2]) ∧ Kept w w' := by
  have C := Lib.hid (next_any o h0 h1 q N c)
  have C1 := Lib.hid (fun (u : World) (hu : Kept w u) => open_any o (hv.go hu))
  have C2 := Lib.hid (fun (u : World) (hu : Kept w u) => worst_any o (hv.go hu))
  obtain ⟨z, hz⟩ : ∃ z, openL K = z := ⟨_, rfl⟩
  obtain ⟨y, hy⟩ : ∃ y, worstL K = y := ⟨_, rfl⟩
  rw [hz] at C1
  rw [hy] at C2
  obtain ⟨A, hA⟩ : ∃ A, o.arr q N c = A := ⟨_, rfl⟩
  obtain ⟨B, hB⟩ : ∃ B, (nextO o).arr q N c = B := ⟨_, rfl⟩
  have sA : A.size = 19 := by rw [← hA]; rfl
  have sB : B.size = 19 := by rw [← hB]; rfl
  have oA : A.all (·.oneCell') = true := by rw [← hA]; exact arr_one _ _ _ _
  have oB : B.all (·.oneCell') = true := by rw [← hB]; exact arr_one _ _ _ _
  rw [hA, hB] at C
  rw [hA] at C1 C2 ⊢
  obtain ⟨W, hW⟩ : ∃ W, ((w.alloc (.cells A 34)).alloc (.cells zeroA 34)).alloc (.cells zact 56) = W := ⟨_, rfl⟩
  have hb : Bl w W [(A, 34), (zeroA, 34), (zact, 56)] := hW ▸ Bl.three w A _ _ _ _ _
  have la := load_ow (hb.blk 0 rfl) sA
  have HB := Lib.hid hb
  have HW := Lib.hid hW
  have LA := Lib.hid (fun (u : World) (hu : Kept W u) => load_ow ((hb.go hu).blk 0 rfl) sA)
  by_cases ho : 0 < z
  · have HJ := Lib.hid (join_open (o := o) (by rw [hz]; exact ho) : joinO o K = _)
    have HA := Lib.hid hA
    clear hb hW hA hB hz hy hv la
    go_enter Try.func49, Try.ntmps49
    go_upto_region 1 with fail
    rw [show ((w.alloc (.cells A 34)).alloc (.cells #[.int .i64 0, .int .i64 0, .int .i64 0, .int .i64 0, .int .i64 0, .int .i64 0, .int .i64 0, .int .i64 0, .int .i64 0, .int .i64 0, .int .i64 0, .int .i64 0, .int .i64 0, .int .i64 0, .int .i64 0, .int .i64 0, .int .i64 0, .int .i64 0, .slice none 0 0] 34)).alloc (.cells #[.int .i64 0, .int .i64 0, .int .i64 0] 56) = W from HW.out]
    go_upto_region 2 with (first
      | (refine load_l 34 (.tmp 1) rfl _ rfl rfl (.agg A) (LA.out W (Kept.refl _)) ?_)
      | (go_at_call 14; refine (C1.out _ HB.out.kept).mono ?_; rintro e w1 ⟨rfl, k1⟩))
    have hb1 := HB.out.go k1
    have HB1 := Lib.hid hb1
    have l1 := load_ow (hb1.blk 0 rfl) sA
    clear hb1
    go_wp2_with (first
      | (refine load_l 34 (.tmp 1) rfl _ rfl rfl (.agg A) l1 ?_)
      | (refine wpList_store_row rfl 34 (.tmp 2) (.tmp 8) rfl (w.heap.size + 1) A rfl rfl 34 zeroA (HB1.out.blk 1 rfl) (by rw [sA]; exact info_ow) (by rw [sA]; rfl) oA ?_)
      | (refine wpList_store_row rfl 56 (.tmp 3) (.tmp 9) rfl (w.heap.size + 1 + 1) (actA 1 0 0) rfl rfl 56 zact ((HB1.out.row 1 rfl A).blk 2 rfl) info_act rfl (act_one _ _ _) ?_))
    have hb6 := (HB1.out.row 1 rfl A).row 2 rfl (actA 1 0 0)
    refine bodyPost_ret (results_rows rfl _ _ (w.heap.size + 1) (w.heap.size + 2) 34 56 A (actA 1 0 0) (0, 0) (0, 0) _ _ rfl rfl (hb6.blk 1 rfl) (hb6.blk 2 rfl) Try.underlying34 rfl (by rw [sA]; exact info_ow) Try.underlying56 rfl info_act) rfl ?_
    exact ⟨by rw [HJ.out, HA.out], hb6.kept⟩
  · by_cases hw0 : y = 0
    · have HJ := Lib.hid (join_on (o := o) (by rw [hz]; exact ho) (by rw [hy]; exact hw0) : joinO o K = _)
      have HBB := Lib.hid hB
      clear hb hW hA hB hz hy hv la
      subst hw0
      go_enter Try.func49, Try.ntmps49
      go_upto_region 1 with fail
      rw [show ((w.alloc (.cells A 34)).alloc (.cells #[.int .i64 0, .int .i64 0, .int .i64 0, .int .i64 0, .int .i64 0, .int .i64 0, .int .i64 0, .int .i64 0, .int .i64 0, .int .i64 0, .int .i64 0, .int .i64 0, .int .i64 0, .int .i64 0, .int .i64 0, .int .i64 0, .int .i64 0, .int .i64 0, .slice none 0 0] 34)).alloc (.cells #[.int .i64 0, .int .i64 0, .int .i64 0] 56) = W from HW.out]
      go_wp2_with (first
        | (refine load_l 34 (.tmp 1) rfl _ rfl rfl (.agg A) (LA.out _ (by first | assumption | exact Kept.refl _)) ?_)
        | (go_at_call 14; refine (C1.out _ HB.out.kept).mono ?_; rintro e w1 ⟨rfl, k1⟩)
        | (go_at_call 16; refine (C2.out _ (HB.out.kept.trans k1)).mono ?_; rintro e w2 ⟨rfl, k2⟩; replace k2 := k1.trans k2)
        | (go_at_call 48; refine (C.out _).mono ?_; rintro e w3 ⟨rfl, k3⟩; replace k3 := k2.trans k3)
        | (refine wpList_store_row rfl 34 (.tmp 2) (.tmp 18) rfl (w.heap.size + 1) B rfl rfl 34 zeroA ((HB.out.go k3).blk 1 rfl) (by rw [sB]; exact info_ow) (by rw [sB]; rfl) oB ?_)
        | (refine wpList_store_row rfl 56 (.tmp 3) (.tmp 19) rfl (w.heap.size + 1 + 1) (actA 0 0 0) rfl rfl 56 zact (((HB.out.go k3).row 1 rfl B).blk 2 rfl) info_act rfl (act_one _ _ _) ?_))
      have hb6 := ((HB.out.go k3).row 1 rfl B).row 2 rfl (actA 0 0 0)
      refine bodyPost_ret (results_rows rfl _ _ (w.heap.size + 1) (w.heap.size + 2) 34 56 B (actA 0 0 0) (0, 0) (0, 0) _ _ rfl rfl (hb6.blk 1 rfl) (hb6.blk 2 rfl) Try.underlying34 rfl (by rw [sB]; exact info_ow) Try.underlying56 rfl info_act) rfl ?_
      exact ⟨by rw [HJ.out, HBB.out], hb6.kept⟩
    · have HJ := Lib.hid (join_bad (o := o) (by rw [hz]; exact ho) (by rw [hy]; exact hw0) : joinO o K = _)
      have HA := Lib.hid hA
      have hyb : (y != 0) = true := bne_iff_ne.2 hw0
      rw [hy] at HJ
      clear hb hW hA hB hz hy hv la
      go_enter Try.func49, Try.ntmps49
      go_upto_region 1 with fail
      rw [show ((w.alloc (.cells A 34)).alloc (.cells #[.int .i64 0, .int .i64 0, .int .i64 0, .int .i64 0, .int .i64 0, .int .i64 0, .int .i64 0, .int .i64 0, .int .i64 0, .int .i64 0, .int .i64 0, .int .i64 0, .int .i64 0, .int .i64 0, .int .i64 0, .int .i64 0, .int .i64 0, .int .i64 0, .slice none 0 0] 34)).alloc (.cells #[.int .i64 0, .int .i64 0, .int .i64 0] 56) = W from HW.out]
      go_wp2_with (first
        | (refine load_l 34 (.tmp 1) rfl _ rfl rfl (.agg A) (LA.out _ (by first | assumption | exact Kept.refl _)) ?_)
        | (go_at_call 14; refine (C1.out _ HB.out.kept).mono ?_; rintro e w1 ⟨rfl, k1⟩)
        | (go_at_call 16; refine (C2.out _ (HB.out.kept.trans k1)).mono ?_; rintro e w2 ⟨rfl, k2⟩; replace k2 := k1.trans k2)
        | (refine wpList_store_row rfl 34 (.tmp 2) (.tmp 14) rfl (w.heap.size + 1) A rfl rfl 34 zeroA ((HB.out.go k2).blk 1 rfl) (by rw [sA]; exact info_ow) (by rw [sA]; rfl) oA ?_)
        | (refine wpList_store_row rfl 56 (.tmp 3) (.tmp 16) rfl (w.heap.size + 1 + 1) (actA 5 y 0) rfl rfl 56 zact (((HB.out.go k2).row 1 rfl A).blk 2 rfl) info_act rfl (act_one _ _ _) ?_))
      have hb6 := ((HB.out.go k2).row 1 rfl A).row 2 rfl (actA 5 y 0)
      refine bodyPost_ret (results_rows rfl _ _ (w.heap.size + 1) (w.heap.size + 2) 34 56 A (actA 5 y 0) (0, 0) (0, 0) _ _ rfl rfl (hb6.blk 1 rfl) (hb6.blk 2 rfl) Try.underlying34 rfl (by rw [sA]; exact info_ow) Try.underlying56 rfl info_act) rfl ?_
      exact ⟨by rw [HJ.out, HA.out], hb6.kept⟩

end Go.Proofs.Ytplkhinjlgmilaa.Ow
