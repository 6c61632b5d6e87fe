/- The document's configurations: their numbers, their words, and whether two are the same. The document's configurations: two that are the same. -/
import Derived.Test.YtcoagmkncjonmaaGreatDoorSu1
import Derived.Test.YtcoagmkncjonmaaGreatDoorPg12
import Derived.Test.YtcoagmkncjonmaaGreatDoorPgB
import Derived.Test.YtcoagmkncjonmaaGreatDoorHx
import Derived.BigQuiet
import Derived.Lib.QuietBelow
import Derived.Deep.QuietTactic
namespace Go.Proofs.YtcoagmkncjonmaaGreatDoor.Su
open Go.RowKit Go.Sort St Blk
open Ad (Cf info_cf load_l load_w)
open Pg (Ops Progs)
open Go.Proofs.YtcoagmkncjonmaaGreatDoor.Au (Stab stab_and stab_kept)
open Wh (Fr)
set_option linter.unusedVariables false
set_option linter.unusedSimpArgs false

def intsA (l : List Int) : Array Value := (l.map (Value.int .i64)).toArray
theorem ints_at {l : List Int} {k : Nat} (h : k < l.length) : (intsA l)[k]? = some (.int .i64 (l.getD k 0)) := by
  simp [intsA, List.getD_eq_getElem?_getD, h]
theorem load_cfa {W : World} {b : Nat} {A : Array Value} (hb : W.heap[b]? = some (.cells A 24 (0, 0))) (hs : A.size = 14) : (loadVar 24 ⟨b, 0, none⟩).run Tryz.prog W = .ok (.agg A) W :=
  run_loadVar_row _ b _ _ A (0, 0) _ hb Tryz.underlying24 rfl (by rw [hs]; exact info_cf)

set_option maxRecDepth 100000 in
set_option maxHeartbeats 1000000 in
theorem all_any (c : Cf) (w : World) : Calls Tryz.prog 8 #[.agg c.arr] w fun e w' => ∃ g, e = .returned (.slice (some ⟨g, 0, none⟩) 13 13) ∧ w.heap.size ≤ g ∧ w'.heap[g]? = some (.cells (intsA (numsL c)) 3 (0, 0)) ∧ Kept w w' := by
  obtain ⟨W, hW, hK, hx⟩ := Id.boxed1 w c.arr 24
  have x0 : W.cell? ⟨w.heap.size, 0, none⟩ = some (.int .i64 c.nodes) := hx 0
  have x1 : W.cell? ⟨w.heap.size, 1, none⟩ = some (.int .i64 c.skew) := hx 1
  have x2 : W.cell? ⟨w.heap.size, 2, none⟩ = some (.int .i64 c.lease) := hx 2
  have x3 : W.cell? ⟨w.heap.size, 3, none⟩ = some (.int .i64 c.grain) := hx 3
  have x4 : W.cell? ⟨w.heap.size, 4, none⟩ = some (.int .i64 c.least) := hx 4
  have x5 : W.cell? ⟨w.heap.size, 5, none⟩ = some (.int .i64 c.hops) := hx 5
  have x6 : W.cell? ⟨w.heap.size, 6, none⟩ = some (.int .i64 c.cap) := hx 6
  have x7 : W.cell? ⟨w.heap.size, 7, none⟩ = some (.int .i64 c.fan) := hx 7
  have x8 : W.cell? ⟨w.heap.size, 8, none⟩ = some (.int .i64 c.attempts) := hx 8
  have x9 : W.cell? ⟨w.heap.size, 9, none⟩ = some (.int .i64 c.base) := hx 9
  have x10 : W.cell? ⟨w.heap.size, 10, none⟩ = some (.int .i64 c.most) := hx 10
  have x11 : W.cell? ⟨w.heap.size, 11, none⟩ = some (.int .i64 c.wait) := hx 11
  have x12 : W.cell? ⟨w.heap.size, 12, none⟩ = some (.int .i64 c.tokens) := hx 12
  have HW := Lib.hid hW
  have HK := Lib.hid hK
  clear hW hK hx
  go_enter Tryz.func8, Tryz.ntmps8
  go_upto_region 1 with fail
  rw [HW.out]
  go_wp2_with fail
  go_ret
  exact ⟨W.heap.size, rfl, HK.out.size, blk_new W _, HK.out.more _⟩

def zeroC : Array Value := (mk [] none 0 0).arr
set_option maxRecDepth 100000 in
set_option maxHeartbeats 2000000 in
theorem of_any {l : List Int} (hl : l.length = 13) {g : Nat} {w : World} (hg : w.heap[g]? = some (.cells (intsA l) 3 (0, 0))) (pa : Option Addr) (pn pc : Nat) :
    Calls Tryz.prog 13 #[.slice (some ⟨g, 0, none⟩) 13 13, .slice pa pn pc] w fun e w' => e = .returned (.agg (mk l pa pn pc).arr) ∧ Kept w w' := by
  match l, hl with
  | [a0, a1, a2, a3, a4, a5, a6, a7, a8, a9, a10, a11, a12], _ =>
    obtain ⟨W, hW⟩ : ∃ W, w.alloc (.cells zeroC 24) = W := ⟨_, rfl⟩
    have hkW : Kept w W := by rw [← hW]; exact Kept.one _ _
    have hbW : W.heap[w.heap.size]? = some (.cells zeroC 24 (0, 0)) := by rw [← hW]; exact blk_new _ _
    have hx := kept_at hkW hg
    have x0 : W.cell? ⟨g, 0, none⟩ = some (.int .i64 a0) := blk_cell hx 0
    have x1 : W.cell? ⟨g, 1, none⟩ = some (.int .i64 a1) := blk_cell hx 1
    have x2 : W.cell? ⟨g, 2, none⟩ = some (.int .i64 a2) := blk_cell hx 2
    have x3 : W.cell? ⟨g, 3, none⟩ = some (.int .i64 a3) := blk_cell hx 3
    have x4 : W.cell? ⟨g, 4, none⟩ = some (.int .i64 a4) := blk_cell hx 4
    have x5 : W.cell? ⟨g, 5, none⟩ = some (.int .i64 a5) := blk_cell hx 5
    have x6 : W.cell? ⟨g, 6, none⟩ = some (.int .i64 a6) := blk_cell hx 6
    have x7 : W.cell? ⟨g, 7, none⟩ = some (.int .i64 a7) := blk_cell hx 7
    have x8 : W.cell? ⟨g, 8, none⟩ = some (.int .i64 a8) := blk_cell hx 8
    have x9 : W.cell? ⟨g, 9, none⟩ = some (.int .i64 a9) := blk_cell hx 9
    have x10 : W.cell? ⟨g, 10, none⟩ = some (.int .i64 a10) := blk_cell hx 10
    have x11 : W.cell? ⟨g, 11, none⟩ = some (.int .i64 a11) := blk_cell hx 11
    have x12 : W.cell? ⟨g, 12, none⟩ = some (.int .i64 a12) := blk_cell hx 12
    have HW := Lib.hid hW
    have HK := Lib.hid hkW
    have HB := Lib.hid hbW
    obtain ⟨V, hV⟩ : ∃ V, W.drew = V := ⟨_, rfl⟩
    have hkV : Kept W V := by rw [← hV]; exact (Kept.refl _).drew
    have HV := Lib.hid hV
    have HKV := Lib.hid hkV
    clear hV hkV
    clear hW hkW hbW hx hg
    go_enter Tryz.func13, Tryz.ntmps13
    go_upto_region 1 with fail
    rw [show w.alloc (.cells #[.int .i64 0, .int .i64 0, .int .i64 0, .int .i64 0, .int .i64 0, .int .i64 0, .int .i64 0, .int .i64 0, .int .i64 0, .int .i64 0, .int .i64 0, .int .i64 0, .int .i64 0, .slice none 0 0] 24) = W from HW.out]
    refine wp_region_still_tail 41 (by kernel_rfl) (by kernel_rfl) ?_
    change wpStill _ _ (World.drew _) (fun a' => wpList _ _ _ _ a' (World.drew _)) _ _
    simp only [List.take_succ_cons, List.take_zero, List.drop_succ_cons, List.drop_zero]
    repeat still_step
    refine wpStill_nil ?_
    rw [HV.out]
    refine wpList_store_row rfl 24 (.tmp 4) (.tmp 45) rfl w.heap.size (mk [a0, a1, a2, a3, a4, a5, a6, a7, a8, a9, a10, a11, a12] pa pn pc).arr rfl rfl 24 zeroC (kept_at HKV.out HB.out) info_cf rfl (arr_one _) ?_
    simp only [Act.put]
    go_wp2_with fail
    refine bodyPost_ret (results_cell_row rfl _ _ w.heap.size 24 (mk [a0, a1, a2, a3, a4, a5, a6, a7, a8, a9, a10, a11, a12] pa pn pc).arr (0, 0) _ rfl (setRow_heap _ _ zeroC _ _ _ (kept_at HKV.out HB.out)) Tryz.underlying24 rfl info_cf) rfl ?_
    exact ⟨rfl, Ad.kept_row (HK.out.trans HKV.out) (Nat.le_refl _) _⟩

theorem word_any {k : Nat} (h : k < 13) (w : World) : Calls Tryz.prog 16 #[.int .i64 (k : Int)] w fun e w' => e = .returned (.string (wordB k)) ∧ Kept w w' := by
  obtain ⟨W, hW⟩ : ∃ W, wordB k = W := ⟨_, rfl⟩
  have hc : ∀ (cs : Array Value), cs = ((List.range 13).map fun j => Value.string (wordB j)).toArray → cs[k]? = some (.string W) := fun cs e => by
    rw [e, ← hW]; simp [h]
  have hlt : (k : Int) < 13 := by omega
  rw [hW]
  have hcell : (w.alloc (.cells ((List.range 13).map fun j => Value.string (wordB j)).toArray 9)).cell? ⟨w.heap.size, k, none⟩ = some (.string W) := by rw [blk_cell (blk_new w _)]; exact hc _ rfl
  obtain ⟨V, hV⟩ : ∃ V, w.alloc (.cells ((List.range 13).map fun j => Value.string (wordB j)).toArray 9) = V := ⟨_, rfl⟩
  rw [hV] at hcell
  have HV := Lib.hid hV
  have HK := Lib.hid (show Kept w V by rw [← hV]; exact Kept.one _ _)
  clear hc hV hW
  go_enter Tryz.func16, Tryz.ntmps16
  go_upto_region 2 with fail
  rw [show w.alloc (.cells #[.string ⟨#[110, 111, 100, 101, 115]⟩, .string ⟨#[115, 107, 101, 119]⟩, .string ⟨#[108, 101, 97, 115, 101]⟩, .string ⟨#[103, 114, 97, 105, 110]⟩, .string ⟨#[108, 101, 97, 115, 116]⟩, .string ⟨#[104, 111, 112, 115]⟩, .string ⟨#[99, 97, 112]⟩, .string ⟨#[102, 97, 110]⟩, .string ⟨#[97, 116, 116, 101, 109, 112, 116, 115]⟩, .string ⟨#[98, 97, 115, 101]⟩, .string ⟨#[109, 111, 115, 116]⟩, .string ⟨#[119, 97, 105, 116]⟩, .string ⟨#[116, 111, 107, 101, 110, 115]⟩] 9) = V from HV.out]
  go_wp2_with fail
  go_ret
  exact ⟨rfl, HK.out⟩

end Go.Proofs.YtcoagmkncjonmaaGreatDoor.Su

namespace Go.Proofs.YtcoagmkncjonmaaGreatDoor.Su
open Go.RowKit Go.Sort St Blk
open Ad (Cf info_cf load_l load_w)
open Pg (Ops Progs)
open Go.Proofs.YtcoagmkncjonmaaGreatDoor.Id (quiet_at)
open Go.Proofs.YtcoagmkncjonmaaGreatDoor.Au (Stab stab_and stab_kept)
open Wh (Fr)
set_option linter.unusedVariables false
set_option linter.unusedSimpArgs false

theorem stab_at (g : Nat) (cs : Array Value) (t : TypeId) : Stab (fun u => u.heap[g]? = some (.cells cs t (0, 0))) := fun u u' h k => kept_at k h

set_option maxRecDepth 100000 in
set_option maxHeartbeats 4000000 in
theorem same_any {w : World} {a b : Cf} {M : List (List Pg.Op)} (ha : Progs w (.slice a.pa a.pn a.pc) M) (hb : Progs w (.slice b.pa b.pn b.pc) M) (hn : numsL a = numsL b) :
    Calls Tryz.prog 11 #[.agg a.arr, .agg b.arr] w fun e w' => e = .returned (.bool true) ∧ Kept w w' := by
    obtain ⟨W, hW⟩ : ∃ W, (w.alloc (.cells a.arr 24)).alloc (.cells b.arr 24) = W := ⟨_, rfl⟩
    have hbl : Bl w W [(a.arr, 24), (b.arr, 24)] := hW ▸ Bl.two w _ _ _ _
    obtain ⟨p1, N, c1, e1, hN, hm⟩ := ha.slice
    obtain ⟨p2, N2, c2, e2, hN2, _⟩ := hb.slice
    obtain rfl : N2 = N := hN2.symm.trans hN
    obtain ⟨l, hl⟩ : ∃ l, numsL b = l := ⟨_, rfl⟩
    have hl13 : l.length = 13 := by rw [← hl]; rfl
    obtain ⟨A, hA⟩ : ∃ A, a.arr = A := ⟨_, rfl⟩
    obtain ⟨B, hB⟩ : ∃ B, b.arr = B := ⟨_, rfl⟩
    have hm2 : N2 ≤ 9223372036854775807 := by unfold maxLen at hm; omega
    have sA : A.size = 14 := by rw [← hA]; rfl
    have sB : B.size = 14 := by rw [← hB]; rfl
    have HCA := Lib.hid (fun w => all_any a w)
    have HCB := Lib.hid (fun w => all_any b w)
    rw [hA, hn, hl] at HCA
    rw [hB, hl] at HCB
    rw [hA, hB] at hW hbl
    have HB := Lib.hid (show W.heap[w.heap.size]? = some (.cells A 24 (0, 0)) ∧ W.heap[w.heap.size + 1]? = some (.cells B 24 (0, 0)) from ⟨hbl.blk 0 rfl, hbl.blk 1 rfl⟩)
    have HW := Lib.hid hW
    have HK := Lib.hid hbl.kept
    have HP := Lib.hid (And.intro ha (And.intro hb (And.intro hN hN2)))
    have HE := Lib.hid (And.intro e1 (And.intro e2 (And.intro hA hB)))
    have HL := Lib.hid hl13
    rw [hA, hB]
    clear ha hb hn hW hbl e1 e2 hN hN2 hm hl hA hB hl13
    go_enter Tryz.func11, Tryz.ntmps11
    go_upto_region 1 with fail
    rw [HW.out]
    refine Hx.region [(0, .take []), (2, .take []), (1, .step), (3, .step), (4, .bare), (5, .bare)] 6 (fun u => Kept W u) (fun u => Kept W u) (W.heap.size) (by kernel_rfl) (by kernel_rfl) (fun d _ _ _ _ h => by cases d <;> exact h) (fun d _ _ _ _ h => by cases d <;> exact h) (Hx.mk_none (by decide)) (stab_kept W) (fun _ h => h) ((Kept.refl W).drew) (fun u hu => hu.size) ?_
    refine Hx.take (d := (some 9)) rfl rfl (Au.yq_load 24 (.tmp 2) rfl _ rfl (by rfl) (fun u hu => load_cfa (kept_at hu HB.out.1) sA)) ?_
    simp only [Act.put, List.setIfInBounds_toArray, List.set_cons_zero, List.set_cons_succ]
    refine Hx.take (d := (some 11)) rfl rfl (Au.yq_load 24 (.tmp 3) rfl _ rfl (by rfl) (fun u hu => load_cfa (kept_at hu HB.out.2) sB)) ?_
    simp only [Act.put, List.setIfInBounds_toArray, List.set_cons_zero, List.set_cons_succ]
    refine Hx.step rfl rfl (fun v1 hv1 KK hK => ?_)
    have HV1 := Lib.hid hv1
    clear hv1
    go_wp2_with (go_at_call 8; refine (HCA.out _).mono ?_; rintro e w1 ⟨g1, rfl, hg1, hb1, hk1⟩; have HG1 := Lib.hid (And.intro hb1 hk1); clear hg1 hb1 hk1)
    refine hK.out (fun u => Kept W u ∧ u.heap[g1]? = some (.cells (intsA l) 3 (0, 0))) _ w1 ⟨HV1.out.trans HG1.out.2, HG1.out.1⟩ (stab_and (stab_kept W) ((stab_at _ _ _))) (fun h u hu => hu.1) ⟨HG1.out.2.size, fun k c1 c2 c3 => HG1.out.2.block k c2⟩ ?_
    clear hK KK
    refine Hx.step rfl rfl (fun v2 hv2 KK hK => ?_)
    have HV2 := Lib.hid hv2
    clear hv2
    go_wp2_with (go_at_call 8; refine (HCB.out _).mono ?_; rintro e w2 ⟨g2, rfl, hg2, hb2, hk2⟩; have HG2 := Lib.hid (And.intro hb2 hk2); clear hg2 hb2 hk2)
    refine hK.out (fun u => Kept W u ∧ u.heap[g1]? = some (.cells (intsA l) 3 (0, 0)) ∧ u.heap[g2]? = some (.cells (intsA l) 3 (0, 0))) _ w2 ⟨HV2.out.1.trans HG2.out.2, kept_at HG2.out.2 HV2.out.2, HG2.out.1⟩ (stab_and (stab_kept W) (stab_and (stab_at _ _ _) (stab_at _ _ _))) (fun h u hu => hu.1) ⟨HG2.out.2.size, fun k c1 c2 c3 => HG2.out.2.block k c2⟩ ?_
    clear hK KK
    refine Hx.bare (d := (some 5)) (v := ?_) rfl rfl (Au.yq_run (by rfl) (fun u hu => ?_)) ?_
    rotate_left
    · (clear hu; go_simp; try with_reducible rfl)
    simp only [Act.put, List.setIfInBounds_toArray, List.set_cons_zero, List.set_cons_succ]
    refine Hx.bare (d := (some 6)) (v := ?_) rfl rfl (Au.yq_run (by rfl) (fun u hu => ?_)) ?_
    rotate_left
    · (clear hu; go_simp; try with_reducible rfl)
    simp only [Act.put, List.setIfInBounds_toArray, List.set_cons_zero, List.set_cons_succ]
    refine Hx.nil (fun u hu => ?_)
    have HU := Lib.hid hu
    clear hu
    go_wp2_with fail
    go_loopw [7] (fun x wr => ∃ i : Nat, i ≤ 13 ∧ x = .int .i64 (i : Int) ∧ Kept u wr) (fun x _ => 13 - (intOf x).toNat)
    case atStart => exact ⟨0, by omega, rfl, Kept.refl _⟩
    case round =>
      obtain ⟨i, hi, rfl, hk⟩ := hrel
      by_cases hlt : i < 13
      · have hb1 := kept_at hk HU.out.2.1
        have hb2 := kept_at hk HU.out.2.2
        have hx0 : (i : Int) < 13 := by omega
        have hat := ints_at (l := l) (k := i) (by rw [HL.out]; exact hlt)
        obtain ⟨n, hn⟩ : ∃ n, l.getD i 0 = n := ⟨_, rfl⟩
        rw [hn] at hat
        have p1 : wr.cell? ⟨g1, i, none⟩ = some (.int .i64 n) := by rw [blk_cell hb1]; exact hat
        have p2 : wr.cell? ⟨g2, i, none⟩ = some (.int .i64 n) := by rw [blk_cell hb2]; exact hat
        have HKK := Lib.hid hk
        clear hb1 hb2 hat hn hk
        go_wp2_with fail
        go_quiet (fail)
        go_wp2_with fail
        go_roundw
        case rel => exact ⟨i + 1, by omega, by go_num, HKK.out.drewN _⟩
        case measure => simp [intOf]; omega
      · obtain rfl : i = 13 := by omega
        rw [show ((13 : Nat) : Int) = 13 from rfl]
        have hbA := kept_at (HU.out.1.trans hk) HB.out.1
        have hbB := kept_at (HU.out.1.trans hk) HB.out.2
        have cA : wr.cell? ⟨w.heap.size, 13, none⟩ = some (.slice p1 N2 c1) := by rw [blk_cell hbA, ← HE.out.2.2.1, ← HE.out.1]; rfl
        have cB : wr.cell? ⟨w.heap.size + 1, 13, none⟩ = some (.slice p2 N2 c2) := by rw [blk_cell hbB, ← HE.out.2.2.2, ← HE.out.2.1]; rfl
        have HKK := Lib.hid (HU.out.1.trans hk)
        clear hbA hbB hk
        go_wp2_with fail
        go_loopw [8] (fun x wr => ∃ j : Nat, j ≤ N2 ∧ x = .int .i64 (j : Int) ∧ Kept W wr) (fun x _ => N2 - (intOf x).toNat)
        case atStart => exact ⟨0, by omega, rfl, HKK.out⟩
        case round =>
          obtain ⟨j, hj, rfl, hk⟩ := hrel
          have hbA := kept_at hk HB.out.1
          have hbB := kept_at hk HB.out.2
          have cA : wr.cell? ⟨w.heap.size, 13, none⟩ = some (.slice p1 N2 c1) := by rw [blk_cell hbA, ← HE.out.2.2.1, ← HE.out.1]; rfl
          have cB : wr.cell? ⟨w.heap.size + 1, 13, none⟩ = some (.slice p2 N2 c2) := by rw [blk_cell hbB, ← HE.out.2.2.2, ← HE.out.2.1]; rfl
          by_cases hlt : j < N2
          · have hkw := HK.out.trans hk
            have hpa := HP.out.1
            have hpb := HP.out.2.1
            rw [HE.out.1] at hpa
            rw [HE.out.2.1] at hpb
            obtain ⟨L, b1, o1, x1, hL1, rfl, d1, hx1⟩ := (hpa.go hkw).pick (i := j) (by rw [HP.out.2.2.1]; exact hlt)
            obtain ⟨L2, b2, o2, x2, hL2, rfl, d2, hx2⟩ := (hpb.go hkw).pick (i := j) (by rw [HP.out.2.2.1]; exact hlt)
            rw [hL1] at hL2
            cases hL2
            have Q1 := quiet_at (Kept.refl wr) (fun x hx => Pg.rsame_any (hx1.go hx) (hx2.go hx))
            obtain ⟨xp, xn, xc, rfl, _, _⟩ := hx1.slice
            obtain ⟨yp, yn, yc, rfl, _, _⟩ := hx2.slice
            have z1 := cell_regrown cA
            have z2 := cell_regrown cB
            have z3 := cell_regrown d1
            have z4 := cell_regrown d2
            have hltI : (j : Int) < (N2 : Int) := by omega
            have hj0 : (0 : Int) ≤ (j : Int) := by omega
            clear hbA hbB hkw hpa hpb hL1 hx1 hx2
            go_wp2_with fail
            refine wp_region_quiet_below (by kernel_rfl) (by kernel_rfl) ?_
            repeat (go_big_quiet_step (with_reducible exact Q1.out _))
            refine wpQuiet_nil ?_
            intro _ hw'
            obtain ⟨⟨dq, osq⟩, hw''⟩ := hw'
            subst hw''
            have hkf := hk.trans (below_regrown wr dq osq)
            clear z1 z2 z3 z4
            go_wp2_with fail
            go_roundw
            case rel => exact ⟨j + 1, hlt, by go_num, hkf⟩
            case measure => simp [intOf]; omega
          · obtain rfl : j = N2 := by omega
            have HKF := Lib.hid (HK.out.trans hk)
            clear hbA hbB hk
            go_wp2_with fail
            go_ret
            exact ⟨rfl, HKF.out⟩

end Go.Proofs.YtcoagmkncjonmaaGreatDoor.Su
