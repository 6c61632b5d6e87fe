/- The laws of configurations as text: the chapter's example; whether one is small. -/
import Derived.Test.YtcoagmkncjonmaaGreatDoorSuC
namespace Go.Proofs.YtcoagmkncjonmaaGreatDoor.Su
open Go.RowKit Go.Sort Go.Shelf St Blk At
open Ad (Cf info_cf load_l load_w)
open Pg (Ops Progs textT rightB)
open Wh (Fr)
set_option linter.unusedVariables false
set_option linter.unusedSimpArgs false

def exA : ByteArray := ⟨#[110, 111, 100, 101, 115, 32, 50, 10, 115, 107, 101, 119, 32, 51, 10, 112, 114, 111, 103, 114, 97, 109, 32, 97, 110, 115, 119, 101, 114, 32, 53, 10]⟩
def exB : ByteArray := ⟨#[110, 111, 100, 101, 115, 32, 50, 10, 110, 111, 100, 101, 115, 32, 50, 10]⟩
def lsA : List Ln := [.num 0 2, .num 1 3, .prog [⟨5, 5, 0⟩]]
def lsB : List Ln := [.num 0 2, .num 0 2]
def exL : List Int := [2, 3, 1000, 0, 1, 4, 8, 4, 1, 10, 100, 500, 10]
theorem exA_text : exA.data.toList = linesT lsA := by decide +kernel
theorem exB_text : exB.data.toList = linesT lsB := by decide +kernel
theorem lsA_ok : ∀ x ∈ lsA, x.Ok := by
  intro x hx
  simp only [lsA, List.mem_cons, List.not_mem_nil, or_false] at hx
  rcases hx with rfl | rfl | rfl
  · exact ⟨by decide, by decide, by decide⟩
  · exact ⟨by decide, by decide, by decide⟩
  · refine ⟨by decide +kernel, fun o ho => ?_⟩
    simp only [List.mem_cons, List.not_mem_nil, or_false] at ho
    subst ho
    exact ⟨⟨by decide, by decide⟩, ⟨by decide, by decide⟩, ⟨by decide, by decide⟩⟩
theorem lsB_ok : ∀ x ∈ lsB, x.Ok := by
  intro x hx
  simp only [lsB, List.mem_cons, List.not_mem_nil, or_false] at hx
  rcases hx with rfl | rfl <;> exact ⟨by decide, by decide, by decide⟩
theorem lsA_runs : runs rs0 lsA = some ⟨exL, [[⟨5, 5, 0⟩]], [0, 1]⟩ := rfl
theorem lsA_right (q : Option Addr) (m : Nat) : (Ad.right (Su.mk exL q 1 m) && Pg.allB [[⟨5, 5, 0⟩]] 2 1) = true := rfl
theorem exA_read {w : World} (hE : Env w) : Calls Tryz.prog 20 #[.string exA] w fun e w' => ∃ q m, e = .returned (.tuple #[.agg (Su.mk exL q 1 m).arr, .int .i64 0, .int .i64 0]) ∧ Kept w w' := by
  refine (read_any lsA lsA_ok (by decide) exA exA_text w hE).mono ?_
  rintro e w' (⟨s, q, n, m, h1, h2, h3, h4, rfl, h5, h6⟩ | ⟨s, q, n, m, h1, h2, h3, rfl, h6⟩ | ⟨i, x, s, h1, h2, h3, rfl, h6⟩)
  · rw [lsA_runs] at h1
    cases h1
    subst h2
    exact ⟨q, m, rfl, h6⟩
  · rw [lsA_runs] at h1
    cases h1
    subst h2
    have h4 := lsA_right q m
    have h5 : (Ad.right (Su.mk exL q 1 m) && Pg.allB [[⟨5, 5, 0⟩]] 2 1) = false := h3
    rw [h4] at h5
    cases h5
  · exfalso
    have h4 : runs rs0 (lsA.take i ++ x :: lsA.drop (i + 1)) = none := by
      rw [runs_app, h2]
      show runs s (x :: _) = none
      simp only [runs, h3]
    rw [show lsA.take i ++ x :: lsA.drop (i + 1) = lsA by
      obtain ⟨hl, e⟩ := List.getElem?_eq_some_iff.1 h1
      rw [← e, ← List.drop_eq_getElem_cons hl, List.take_append_drop], lsA_runs] at h4
    cases h4
theorem exB_read {w : World} (hE : Env w) : Calls Tryz.prog 20 #[.string exB] w fun e w' => e = .returned (.tuple #[.agg zeroA, .int .i64 2, .int .i64 8]) ∧ Kept w w' := by
  have hn : runs rs0 lsB = none := rfl
  refine (read_any lsB lsB_ok (by decide) exB exB_text w hE).mono ?_
  rintro e w' (⟨s, q, n, m, h1, h2, h3, h4, rfl, h5, h6⟩ | ⟨s, q, n, m, h1, h2, h3, rfl, h6⟩ | ⟨i, x, s, h1, h2, h3, rfl, h6⟩)
  · rw [hn] at h1; cases h1
  · rw [hn] at h1; cases h1
  · have hi : i < 2 := (List.getElem?_eq_some_iff.1 h1).1
    have h01 : i = 0 ∨ i = 1 := by omega
    rcases h01 with rfl | rfl
    · exfalso
      cases h1
      cases h2
      cases h3
    · exact ⟨rfl, h6⟩

set_option maxRecDepth 100000 in
set_option maxHeartbeats 2000000 in
theorem awake_any {w : World} (hE : Env w) : Calls Tryz.prog 6 #[] w fun e w' => e = .returned (.bool true) ∧ Kept w w' := by
  have HA := Lib.hid (exA_read hE)
  have HB := Lib.hid (fun (u : World) (hu : Kept w u) => exB_read (hE.kept hu))
  clear hE
  go_enter Tryz.func6, Tryz.ntmps6
  go_upto_region 2 with (first
    | (go_at_call 20; refine HA.out.mono ?_; rintro e w1 ⟨q, m, rfl, hk1⟩; obtain ⟨A, hA⟩ : ∃ A, (Su.mk exL q 1 m).arr = A := ⟨_, rfl⟩; rw [hA]; have sA : A.size = 14 := (by rw [← hA]; rfl); have oA : A.all (·.oneCell') = true := (by rw [← hA]; exact arr_one _); have HA2 := Lib.hid (And.intro hA hk1); clear hA hk1)
    | (refine Ad.store_new rfl 24 (.tmp 1) (.tmp 9) rfl w1.heap.size A rfl rfl w1 _ rfl 14 info_cf sA rfl oA ?_))
  obtain ⟨W1, hW1⟩ : ∃ W1, w1.alloc (.cells A 24) = W1 := ⟨_, rfl⟩
  have hkW : Kept w W1 := by rw [← hW1]; exact HA2.out.2.more _
  have hbW : W1.heap[w1.heap.size]? = some (.cells A 24 (0, 0)) := by rw [← hW1]; exact blk_new _ _
  rw [hW1]
  have HW1 := Lib.hid (And.intro hkW hbW)
  clear hkW hbW hW1
  have sZ : zeroA.size = 14 := rfl
  have oZ : zeroA.all (·.oneCell') = true := by kernel_rfl
  go_upto_region 3 with (first
    | (go_at_call 20; refine (HB.out _ HW1.out.1).mono ?_; rintro e w2 ⟨rfl, hk2⟩; obtain ⟨Z, hZ⟩ : ∃ Z, zeroA = Z := ⟨_, rfl⟩; rw [hZ] at sZ oZ ⊢; have HB2 := Lib.hid (And.intro hZ hk2); clear hZ hk2)
    | (refine Ad.store_new rfl 24 (.tmp 4) (.tmp 14) rfl w2.heap.size Z rfl rfl w2 _ rfl 14 info_cf sZ rfl oZ ?_))
  obtain ⟨W2, hW2⟩ : ∃ W2, w2.alloc (.cells Z 24) = W2 := ⟨_, rfl⟩
  rw [hW2]
  have hk12 : Kept W1 W2 := by rw [← hW2]; exact HB2.out.2.more _
  have hbA := kept_at hk12 HW1.out.2
  have c0 : W2.cell? ⟨w1.heap.size, 0, none⟩ = some (.int .i64 2) := by rw [blk_cell hbA, ← HA2.out.1]; rfl
  have c1 : W2.cell? ⟨w1.heap.size, 1, none⟩ = some (.int .i64 3) := by rw [blk_cell hbA, ← HA2.out.1]; rfl
  have c2 : W2.cell? ⟨w1.heap.size, 2, none⟩ = some (.int .i64 1000) := by rw [blk_cell hbA, ← HA2.out.1]; rfl
  have c13 : W2.cell? ⟨w1.heap.size, 13, none⟩ = some (.slice q 1 m) := by rw [blk_cell hbA, ← HA2.out.1]; rfl
  have HK2 := Lib.hid (HW1.out.1.trans hk12)
  clear hW2 hk12 hbA
  go_wp2_with fail
  go_ret
  exact ⟨rfl, HK2.out⟩

/-- may it be told? -/
def smallB (M : List (List Pg.Op)) : Bool := decide (M.length ≤ 20) && M.all fun L => decide (L.length ≤ 20)
set_option maxRecDepth 100000 in
set_option maxHeartbeats 2000000 in
theorem small_any {w : World} {c : Cf} {M : List (List Pg.Op)} (hM : Progs w (.slice c.pa c.pn c.pc) M) : Calls Tryz.prog 5 #[.agg c.arr] w fun e w' => e = .returned (.bool (smallB M)) ∧ Kept w w' := by
  obtain ⟨W, hW⟩ : ∃ W, w.alloc (.cells c.arr 24) = W := ⟨_, rfl⟩
  have hkW : Kept w W := by rw [← hW]; exact Kept.one _ _
  have hbW : W.heap[w.heap.size]? = some (.cells c.arr 24 (0, 0)) := by rw [← hW]; exact blk_new _ _
  obtain ⟨q, N, cap, hq, hN, hm⟩ := hM.slice
  have hm2 : N ≤ 9223372036854775807 := by unfold maxLen at hm; omega
  have c13 : W.cell? ⟨w.heap.size, 13, none⟩ = some (.slice q N cap) := by rw [blk_cell hbW, ← hq]; rfl
  have HW := Lib.hid hW
  have HK := Lib.hid (And.intro hkW hbW)
  have HM := Lib.hid (show Progs W (.slice q N cap) M by rw [← hq]; exact hM.go hkW)
  have HN := Lib.hid hN
  have HQ := Lib.hid hq
  obtain ⟨z, hz⟩ : ∃ z, smallB M = z := ⟨_, rfl⟩
  rw [hz]
  have HZ := Lib.hid hz
  clear hM hW hkW hbW hq hN hm hz
  by_cases h20 : N ≤ 20
  · have h20I : ¬ 20 < (N : Int) := by omega
    go_enter Tryz.func5, Tryz.ntmps5
    go_upto_region 1 with fail
    rw [HW.out]
    go_wp2_with fail
    clear c13
    go_loop [3] (fun x => ∃ i : Nat, i ≤ N ∧ x = .int .i64 (i : Int) ∧ Hid ((M.take i).all (fun L => decide (L.length ≤ 20)) = true)) (fun x => N - (intOf x).toNat)
    case atStart => exact ⟨0, Nat.zero_le _, rfl, rfl⟩
    case round =>
      obtain ⟨i, hi, rfl, hA⟩ := hrel
      have c13 : W.cell? ⟨w.heap.size, 13, none⟩ = some (.slice q N cap) := by rw [blk_cell HK.out.2, ← HQ.out]; rfl
      by_cases hlt : i < N
      · obtain ⟨L, b, off, x, hL, rfl, d0, hx⟩ := HM.out.pick (i := i) (by rw [HN.out]; exact hlt)
        obtain ⟨xp, xn, xc, rfl, hxn, hxm⟩ := hx.slice
        have hxm2 : xn ≤ 9223372036854775807 := by unfold maxLen at hxm; omega
        have HL := Lib.hid (And.intro hL hxn)
        clear hL hx hxn hxm
        by_cases hx20 : xn ≤ 20
        · have hxI : ¬ 20 < (xn : Int) := by omega
          go_wp2_with fail
          go_round
          case rel => exact ⟨i + 1, hlt, by go_num, Pg.allM_take hA.out HL.out.1 (by rw [HL.out.2]; exact decide_eq_true hx20)⟩
          case measure => simp [intOf]; omega
        · have hxI : 20 < (xn : Int) := by omega
          have hf : z = false := by
            rw [← HZ.out]
            unfold smallB
            rw [Pg.allM_miss HL.out.1 (show decide (L.length ≤ 20) = false by rw [HL.out.2]; exact decide_eq_false hx20)]
            simp
          go_wp2_with fail
          go_ret
          first | exact ⟨rfl, HK.out.1⟩ | exact ⟨ret_bool hf.symm, HK.out.1⟩
      · obtain rfl : i = N := by omega
        have hf : z = true := by
          rw [← HZ.out]
          unfold smallB
          have h1 := hA.out
          rw [List.take_of_length_le (Nat.le_of_eq HN.out)] at h1
          rw [h1, HN.out, decide_eq_true h20]
          rfl
        go_wp2_with fail
        go_ret
        first | exact ⟨rfl, HK.out.1⟩ | exact ⟨ret_bool hf.symm, HK.out.1⟩
  · have h20I : 20 < (N : Int) := by omega
    have hf : z = false := by
      rw [← HZ.out]
      unfold smallB
      rw [HN.out, decide_eq_false h20]; rfl
    go_enter Tryz.func5, Tryz.ntmps5
    go_upto_region 1 with fail
    rw [HW.out]
    go_wp2_with fail
    go_ret
    first | exact ⟨rfl, HK.out.1⟩ | exact ⟨ret_bool hf.symm, HK.out.1⟩

end Go.Proofs.YtcoagmkncjonmaaGreatDoor.Su
