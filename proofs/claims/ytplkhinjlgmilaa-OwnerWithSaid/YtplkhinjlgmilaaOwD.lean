/- The document's: what an owner does next of its program. -/
import Derived.Test.YtplkhinjlgmilaaOwB
import Derived.Test.YtplkhinjlgmilaaOwC
namespace Go.Proofs.Ytplkhinjlgmilaa.Ow
open Go.RowKit Go.Sort Go.Shelf St Blk Eqs
open Go.Proofs.Ytplkhinjlgmilaa.Cl
open Go.Proofs.Ytplkhinjlgmilaa.Ls
open Go.Proofs.Ytplkhinjlgmilaa.Rv
open Go.Proofs.Ytplkhinjlgmilaa.Au (Stab stab_and)
open Go.Proofs.Ytplkhinjlgmilaa.Ad (load_w load_l store_new)
set_option linter.unusedVariables false

def PostR (w : World) (q : Option Addr) (N c : Nat) (r : Ow × Array Value) (e : Ending) (w' : World) : Prop := e = .returned (.tuple #[.agg (r.1.arr q N c), .agg r.2]) ∧ Kept w w'

set_option maxRecDepth 100000 in
set_option maxHeartbeats 2000000 in
theorem rstep_o {w : World} {q : Option Addr} {N c : Nat} {K : List Cl} {v : Value} {L : List Pg.Op} (o : Ow) (hv : Cls w (.slice q N c) K) (hl : K.length ≤ 800000) (hL : Pg.Ops w v L) (hp : o.pc < 0 ∨ (L.length : Int) ≤ o.pc) :
    Calls Try.prog 31 #[.agg (o.arr q N c), v] w (PostR w q N c (o, actA 4 (sumL K 0) 0)) := by
  have hN : K.length = N := by obtain ⟨p, cap, e⟩ := hv.shape; cases e; rfl
  obtain ⟨p, M, cap, rfl, hM, hmM⟩ := hL.slice
  have hm2 : M ≤ 9223372036854775807 := by unfold maxLen at hmM; omega
  obtain ⟨A, hA⟩ : ∃ A, o.arr q N c = A := ⟨_, rfl⟩
  have sA : A.size = 19 := by rw [← hA]; rfl
  have oA : A.all (·.oneCell') = true := by rw [← hA]; exact arr_one _ _ _ _
  rw [hA]
  obtain ⟨W, hW⟩ : ∃ W, ((w.alloc (.cells A 28)).alloc (.cells zeroA 28)).alloc (.cells zact 59) = W := ⟨_, rfl⟩
  have hb : Bl w W [(A, 28), (zeroA, 28), (zact, 59)] := hW ▸ Bl.three w A _ _ _ _ _
  have hsz : W.heap.size = w.heap.size + 3 := by rw [← hW]; simp
  have c16 : W.cell? ⟨w.heap.size, 16, none⟩ = some (.int .i64 o.pc) := (hb.cell 0 16 rfl).trans (show A[16]? = _ by rw [← hA]; rfl)
  have HW := Lib.hid hW
  have HM := Lib.hid hM
  rw [HM.out] at hp
  have hFine : Fine w (fun _ => True) := true_fine w
  have hSt : Stab (Sp 28 59 w A (fun _ => True)) := sp_stab hFine
  have hS2 : Sp 28 59 w A (fun _ => True) W := ⟨hb.kept, hb.blk 0 rfl, ⟨_, hb.blk 1 rfl, rfl⟩, ⟨_, hb.blk 2 rfl, rfl⟩, trivial⟩
  have CS := fun (u : World) (hu : Sp 28 59 w A (fun _ => True) u) => rsum_any o (hv.go hu.kept) 0
  obtain ⟨y, hy⟩ : ∃ y, sumL K 0 = y := ⟨_, rfl⟩
  rw [hy] at CS
  rw [hA] at CS
  have HR := Lib.hid hA
  have HY := Lib.hid hy
  have HCS := Lib.hid CS
  have HS2 := Lib.hid hS2
  clear hb hS2 CS hy hW hM hv hL hA
  obtain ⟨x, hx⟩ : ∃ x, o.pc = x := ⟨_, rfl⟩
  rw [hx] at hp c16
  go_enter Try.func31, Try.ntmps31
  go_upto_region 1 with fail
  rw [show ((w.alloc (.cells A 28)).alloc (.cells #[.int .i64 0, .int .i64 0, .int .i64 0, .int .i64 0, .int .i64 0, .int .i64 0, .int .i64 0, .int .i64 0, .int .i64 0, .int .i64 0, .int .i64 0, .int .i64 0, .int .i64 0, .int .i64 0, .int .i64 0, .int .i64 0, .int .i64 0, .int .i64 0, .slice none 0 0] 28)).alloc (.cells #[.int .i64 0, .int .i64 0, .int .i64 0] 59) = W from HW.out]
  rcases (show x < 0 ∨ ¬ x < 0 ∧ (M : Int) ≤ x by omega) with hp1 | ⟨hp0, hp1⟩
  all_goals
    go_upto_region 2 with fail
    refine Au.region (Sp 28 59 w A (fun _ => True)) (by kernel_rfl) (HS2.out.go hFine (Kept.refl _).drew) ?_
    refine Au.take 0 (some 18) rfl rfl (by kernel_rfl) (by kernel_rfl) (by kernel_rfl) (fun _ _ _ h => h) hSt (Au.yq_load 28 (.tmp 2) rfl _ rfl (by rfl) (fun u hu => load_row hu.own sA)) ?_
    simp only [Act.put, List.setIfInBounds_toArray, List.set_cons_zero, List.set_cons_succ]
    refine Au.take 1 (some 19) rfl rfl (by kernel_rfl) (by kernel_rfl) (by kernel_rfl) (fun _ _ _ h => h) hSt (Au.yq_load 28 (.tmp 2) rfl _ rfl (by rfl) (fun u hu => load_row hu.own sA)) ?_
    simp only [Act.put, List.setIfInBounds_toArray, List.set_cons_zero, List.set_cons_succ]
    refine Au.take 2 (some 20) rfl rfl (by kernel_rfl) (by kernel_rfl) (by kernel_rfl) (fun _ _ _ h => h) hSt (Au.yq_call 19 _ (by rfl) (fun u => by go_simp) (fun u hu => HCS.out u hu)) ?_
    simp only [Act.put, List.setIfInBounds_toArray, List.set_cons_zero, List.set_cons_succ]
    refine Au.take 3 (some 21) (v := ?_) rfl rfl (by kernel_rfl) (by kernel_rfl) (by kernel_rfl) (fun _ _ _ h => h) hSt (Au.yq_run (by rfl) (fun u hu => ?_)) ?_
    rotate_left
    · (clear hu; go_simp; try with_reducible rfl)
    simp only [Act.put, List.setIfInBounds_toArray, List.set_cons_zero, List.set_cons_succ]
    refine Au.store 4 28 (.tmp 4) (.tmp 18) rfl (by kernel_rfl) (by kernel_rfl) rfl rfl (w.heap.size + 1) A rfl rfl 28 (fun u hu => by rw [sA]; exact hu.res) (by rw [sA]; exact info_row) (oA) (At1 28 w A) (at1_stab) hSt (fun u hu => hu.row hFine A sA) (fun u hu => by obtain ⟨xs, h1, _⟩ := hu.res; exact setRow_heap _ _ xs _ _ _ h1) ?_
    refine Au.store 5 59 (.tmp 5) (.tmp 21) rfl (by kernel_rfl) (by kernel_rfl) rfl rfl (w.heap.size + 2) (actA 4 y 0) rfl rfl 59 (fun u hu => hu.1.act) (info_ract) (act_one _ _ _) (At2 59 w (actA 4 y 0)) (at2_stab) (stab_and hSt at1_stab) (fun u hu => ⟨hu.1.row2 hFine (actA 4 y 0) rfl, (setRow_other _ _ _ _ (by omega)).trans hu.2⟩) (fun u hu => by obtain ⟨xs, h1, _⟩ := hu.1.act; exact setRow_heap _ _ xs _ _ _ h1) ?_
    refine Au.done (by kernel_rfl) ?_
    rintro u ⟨⟨hS6, hA6⟩, hB6⟩
    go_wp2_with fail
    refine bodyPost_ret (results_rows rfl _ _ (w.heap.size + 1) (w.heap.size + 2) 28 59 A (actA 4 y 0) (0, 0) (0, 0) _ _ rfl rfl hA6 hB6 Try.underlying28 rfl (by rw [sA]; exact info_row) Try.underlying59 rfl info_ract) rfl ?_
    exact ⟨by rw [HR.out, HY.out], hS6.kept⟩

set_option maxRecDepth 100000 in
set_option maxHeartbeats 2000000 in
theorem rstep_2 {w : World} {q : Option Addr} {N c : Nat} {K : List Cl} {v : Value} {L : List Pg.Op} (o : Ow) (hv : Cls w (.slice q N c) K) (hl : K.length ≤ 800000) (hL : Pg.Ops w v L) (i : Nat) (x : Pg.Op) (hpc : o.pc = (i : Int)) (hx : L[i]? = some x) (hk : x.k = 2) :
    Calls Try.prog 31 #[.agg (o.arr q N c), v] w (PostR w q N c (nextO o, actA 2 x.a x.b)) := by
  have hN : K.length = N := by obtain ⟨p, cap, e⟩ := hv.shape; cases e; rfl
  obtain ⟨p, M, cap, rfl, hM, hmM⟩ := hL.slice
  have hm2 : M ≤ 9223372036854775807 := by unfold maxLen at hmM; omega
  obtain ⟨A, hA⟩ : ∃ A, o.arr q N c = A := ⟨_, rfl⟩
  have sA : A.size = 19 := by rw [← hA]; rfl
  have oA : A.all (·.oneCell') = true := by rw [← hA]; exact arr_one _ _ _ _
  rw [hA]
  obtain ⟨W, hW⟩ : ∃ W, ((w.alloc (.cells A 28)).alloc (.cells zeroA 28)).alloc (.cells zact 59) = W := ⟨_, rfl⟩
  have hb : Bl w W [(A, 28), (zeroA, 28), (zact, 59)] := hW ▸ Bl.three w A _ _ _ _ _
  have hsz : W.heap.size = w.heap.size + 3 := by rw [← hW]; simp
  have c16 : W.cell? ⟨w.heap.size, 16, none⟩ = some (.int .i64 o.pc) := (hb.cell 0 16 rfl).trans (show A[16]? = _ by rw [← hA]; rfl)
  have HW := Lib.hid hW
  have HM := Lib.hid hM
  have hi : i < M := by rw [← HM.out]; exact (List.getElem?_eq_some_iff.1 hx).1
  have hi0 : ¬ (i : Int) < 0 := by omega
  have hi1 : ¬ (M : Int) ≤ (i : Int) := by omega
  have hi2 : (i : Int) < (M : Int) := by omega
  have hpcm : -9223372036854775808 ≤ (i : Int) + 1 ∧ (i : Int) + 1 ≤ 9223372036854775807 := by omega
  obtain ⟨x', b, off, hx', rfl, d0, d1, d2⟩ := (hL.go hb.kept).pick (i := i) (by rw [hM]; exact hi)
  rw [hx] at hx'
  cases hx'
  rw [hpc] at c16
  obtain ⟨k, a, bb⟩ := x
  simp only at hk
  subst hk
  have lop := load_op d0 d1 d2
  simp only at lop
  obtain ⟨W3, hW3⟩ : ∃ W3, W.alloc (.cells #[.int .i64 2, .int .i64 a, .int .i64 bb] 64) = W3 := ⟨_, rfl⟩
  have hsz3 : W3.heap.size = w.heap.size + 4 := by rw [← hW3, World.size_alloc, hsz]
  have hb3 : Bl w W3 [(A, 28), (zeroA, 28), (zact, 59), (#[.int .i64 2, .int .i64 a, .int .i64 bb], 64)] := by rw [← hW3]; exact hb.more hsz _ _
  obtain ⟨W4, hW4⟩ : ∃ W4, W3.alloc (.cells A 28) = W4 := ⟨_, rfl⟩
  have hb4 : Bl w W4 [(A, 28), (zeroA, 28), (zact, 59), (#[.int .i64 2, .int .i64 a, .int .i64 bb], 64), (A, 28)] := by rw [← hW4]; exact hb3.more hsz3 _ _
  obtain ⟨A1, hA1⟩ : ∃ A1, A.setIfInBounds 16 (.int .i64 ((i : Int) + 1)) = A1 := ⟨_, rfl⟩
  obtain ⟨B, hB⟩ : ∃ B, (nextO o).arr q N c = B := ⟨_, rfl⟩
  have hAB : A1.setIfInBounds 17 (.int .i64 0) = B := by rw [← hA1, ← hA, ← hB, ← hpc]; rfl
  have sB : B.size = 19 := by rw [← hB]; rfl
  have oB : B.all (·.oneCell') = true := by rw [← hB]; exact arr_one _ _ _ _
  obtain ⟨W5, hW5⟩ : ∃ W5, W4.setCell ⟨w.heap.size + 4, 16, none⟩ (.int .i64 ((i : Int) + 1)) = W5 := ⟨_, rfl⟩
  have hb5 : Bl w W5 [(A, 28), (zeroA, 28), (zact, 59), (#[.int .i64 2, .int .i64 a, .int .i64 bb], 64), (A1, 28)] := by rw [← hW5, ← hA1]; exact hb4.put 4 16 rfl _
  obtain ⟨W6, hW6⟩ : ∃ W6, W5.setCell ⟨w.heap.size + 4, 17, none⟩ (.int .i64 0) = W6 := ⟨_, rfl⟩
  have hb6 : Bl w W6 [(A, 28), (zeroA, 28), (zact, 59), (#[.int .i64 2, .int .i64 a, .int .i64 bb], 64), (B, 28)] := by rw [← hW6, ← hAB]; exact hb5.put 4 17 rfl _
  have la3 := load_row (hb3.blk 0 rfl) sA
  have x16 : W4.cell? ⟨w.heap.size, 16, none⟩ = some (.int .i64 (i : Int)) := (hb4.cell 0 16 rfl).trans (show A[16]? = _ by rw [← hA, ← hpc]; rfl)
  have y16 : W4.cell? ⟨w.heap.size + 4, 16, none⟩ = some (.int .i64 (i : Int)) := (hb4.cell 4 16 rfl).trans (show A[16]? = _ by rw [← hA, ← hpc]; rfl)
  have z16 : W4.frozen? ⟨w.heap.size + 4, 16, none⟩ = false := hb4.free 4 16 rfl
  have y17 : W5.cell? ⟨w.heap.size + 4, 17, none⟩ = some (.int .i64 o.dn) := (hb5.cell 4 17 rfl).trans (show A1[17]? = _ by rw [← hA1, ← hA]; rfl)
  have z17 : W5.frozen? ⟨w.heap.size + 4, 17, none⟩ = false := hb5.free 4 17 rfl
  have e0 : W6.cell? ⟨w.heap.size + 3, 0, none⟩ = some (.int .i64 2) := hb6.cell 3 0 rfl
  have e1 : W6.cell? ⟨w.heap.size + 3, 1, none⟩ = some (.int .i64 a) := hb6.cell 3 1 rfl
  have e2 : W6.cell? ⟨w.heap.size + 3, 2, none⟩ = some (.int .i64 bb) := hb6.cell 3 2 rfl
  have hFine : Fine w (fun u => u.heap[w.heap.size + 3]? = some (.cells #[.int .i64 2, .int .i64 a, .int .i64 bb] 64 (0, 0)) ∧ u.heap[w.heap.size + 4]? = some (.cells B 28 (0, 0))) := (at_fine (Nat.le_refl _)).and (at_fine (by omega))
  have hSt : Stab (Sp 28 59 w A (fun u => u.heap[w.heap.size + 3]? = some (.cells #[.int .i64 2, .int .i64 a, .int .i64 bb] 64 (0, 0)) ∧ u.heap[w.heap.size + 4]? = some (.cells B 28 (0, 0)))) := sp_stab hFine
  have hS3 : Sp 28 59 w A (fun u => u.heap[w.heap.size + 3]? = some (.cells #[.int .i64 2, .int .i64 a, .int .i64 bb] 64 (0, 0)) ∧ u.heap[w.heap.size + 4]? = some (.cells B 28 (0, 0))) W6 := ⟨hb6.kept, hb6.blk 0 rfl, ⟨_, hb6.blk 1 rfl, rfl⟩, ⟨_, hb6.blk 2 rfl, rfl⟩, hb6.blk 3 rfl, hb6.blk 4 rfl⟩
  have lA := load_row hS3.own sA
  have lB := load_row hS3.mem.2 sB
  have HS3 := Lib.hid hS3
  have HW3 := Lib.hid hW3
  have HW4 := Lib.hid hW4
  have HW5 := Lib.hid hW5
  have HW6 := Lib.hid hW6
  have HB6 := Lib.hid hb6
  have HSZ := Lib.hid (And.intro hsz hsz3)
  have HR := Lib.hid hB
  clear hb hb3 hb4 hb5 hb6 hS3 hW hW3 hW4 hW5 hW6 d0 d1 d2 hx hL hM hA1 hAB hA hB hv
  go_enter Try.func31, Try.ntmps31
  go_upto_region 1 with fail
  rw [show ((w.alloc (.cells A 28)).alloc (.cells #[.int .i64 0, .int .i64 0, .int .i64 0, .int .i64 0, .int .i64 0, .int .i64 0, .int .i64 0, .int .i64 0, .int .i64 0, .int .i64 0, .int .i64 0, .int .i64 0, .int .i64 0, .int .i64 0, .int .i64 0, .int .i64 0, .int .i64 0, .int .i64 0, .slice none 0 0] 28)).alloc (.cells #[.int .i64 0, .int .i64 0, .int .i64 0] 59) = W from HW.out]
  go_upto_region 4 with (refine load_l 64 (.tmp 25) rfl _ rfl rfl _ lop ?_)
  rw [HW3.out]
  go_upto_region 5 with (first
    | (refine load_l 28 (.tmp 2) rfl _ rfl rfl (.agg A) la3 ?_)
    | (refine store_new rfl 28 (.tmp 7) (.tmp 27) rfl (w.heap.size + 4) A rfl rfl W3 _ hsz3 19 info_row sA rfl oA ?_; rw [HW4.out]))
  go_upto_region 6 with fail
  rw [HW5.out]
  go_upto_region 7 with fail
  rw [HW6.out]
  go_upto_region 15 with fail
  refine Au.region (Sp 28 59 w A (fun u => u.heap[w.heap.size + 3]? = some (.cells #[.int .i64 2, .int .i64 a, .int .i64 bb] 64 (0, 0)) ∧ u.heap[w.heap.size + 4]? = some (.cells B 28 (0, 0)))) (by kernel_rfl) (HS3.out.go hFine (Kept.refl _).drew) ?_
  refine Au.take 0 (some 54) rfl rfl (by kernel_rfl) (by kernel_rfl) (by kernel_rfl) (fun _ _ _ h => h) hSt (Au.yq_load 28 (.tmp 7) rfl _ rfl (by rfl) (fun u hu => load_row hu.mem.2 sB)) ?_
  simp only [Act.put, List.setIfInBounds_toArray, List.set_cons_zero, List.set_cons_succ]
  refine Au.take 1 (some 55) (v := ?_) rfl rfl (by kernel_rfl) (by kernel_rfl) (by kernel_rfl) (fun _ _ _ h => h) hSt (Au.yq_run (by rfl) (fun u hu => ?_)) ?_
  rotate_left
  · (clear hu; go_simp; try with_reducible rfl)
  simp only [Act.put, List.setIfInBounds_toArray, List.set_cons_zero, List.set_cons_succ]
  refine Au.take 2 (some 56) rfl rfl (by kernel_rfl) (by kernel_rfl) (by kernel_rfl) (fun _ _ _ h => h) hSt (Au.yq_load 3 (.tmp 55) rfl _ rfl (by rfl) (fun u hu => Ad.run_loadi (blk_cell hu.mem.1 1))) ?_
  simp only [Act.put, List.setIfInBounds_toArray, List.set_cons_zero, List.set_cons_succ]
  refine Au.take 3 (some 57) (v := ?_) rfl rfl (by kernel_rfl) (by kernel_rfl) (by kernel_rfl) (fun _ _ _ h => h) hSt (Au.yq_run (by rfl) (fun u hu => ?_)) ?_
  rotate_left
  · (clear hu; go_simp; try with_reducible rfl)
  simp only [Act.put, List.setIfInBounds_toArray, List.set_cons_zero, List.set_cons_succ]
  refine Au.take 4 (some 58) rfl rfl (by kernel_rfl) (by kernel_rfl) (by kernel_rfl) (fun _ _ _ h => h) hSt (Au.yq_load 3 (.tmp 57) rfl _ rfl (by rfl) (fun u hu => Ad.run_loadi (blk_cell hu.mem.1 2))) ?_
  simp only [Act.put, List.setIfInBounds_toArray, List.set_cons_zero, List.set_cons_succ]
  refine Au.take 5 (some 59) (v := ?_) rfl rfl (by kernel_rfl) (by kernel_rfl) (by kernel_rfl) (fun _ _ _ h => h) hSt (Au.yq_run (by rfl) (fun u hu => ?_)) ?_
  rotate_left
  · (clear hu; go_simp; try with_reducible rfl)
  simp only [Act.put, List.setIfInBounds_toArray, List.set_cons_zero, List.set_cons_succ]
  refine Au.store 6 28 (.tmp 4) (.tmp 54) rfl (by kernel_rfl) (by kernel_rfl) rfl rfl (w.heap.size + 1) B rfl rfl 28 (fun u hu => by rw [sB]; exact hu.res) (by rw [sB]; exact info_row) (oB) (At1 28 w B) (at1_stab) hSt (fun u hu => hu.row hFine B sB) (fun u hu => by obtain ⟨xs, h1, _⟩ := hu.res; exact setRow_heap _ _ xs _ _ _ h1) ?_
  refine Au.store 7 59 (.tmp 5) (.tmp 59) rfl (by kernel_rfl) (by kernel_rfl) rfl rfl (w.heap.size + 2) (actA 2 a bb) rfl rfl 59 (fun u hu => hu.1.act) (info_ract) (act_one _ _ _) (At2 59 w (actA 2 a bb)) (at2_stab) (stab_and hSt at1_stab) (fun u hu => ⟨hu.1.row2 hFine (actA 2 a bb) rfl, (setRow_other _ _ _ _ (by omega)).trans hu.2⟩) (fun u hu => by obtain ⟨xs, h1, _⟩ := hu.1.act; exact setRow_heap _ _ xs _ _ _ h1) ?_
  refine Au.done (by kernel_rfl) ?_
  rintro u ⟨⟨hS6, hA6⟩, hB6⟩
  go_wp2_with fail
  refine bodyPost_ret (results_rows rfl _ _ (w.heap.size + 1) (w.heap.size + 2) 28 59 B (actA 2 a bb) (0, 0) (0, 0) _ _ rfl rfl hA6 hB6 Try.underlying28 rfl (by rw [sB]; exact info_row) Try.underlying59 rfl info_ract) rfl ?_
  exact ⟨by rw [HR.out], hS6.kept⟩

set_option maxRecDepth 100000 in
set_option maxHeartbeats 2000000 in
theorem rstep_4 {w : World} {q : Option Addr} {N c : Nat} {K : List Cl} {v : Value} {L : List Pg.Op} (o : Ow) (hv : Cls w (.slice q N c) K) (hl : K.length ≤ 800000) (hL : Pg.Ops w v L) (i : Nat) (x : Pg.Op) (hpc : o.pc = (i : Int)) (hx : L[i]? = some x) (hk : x.k = 4) :
    Calls Try.prog 31 #[.agg (o.arr q N c), v] w (PostR w q N c (nextO o, actA 3 0 0)) := by
  have hN : K.length = N := by obtain ⟨p, cap, e⟩ := hv.shape; cases e; rfl
  obtain ⟨p, M, cap, rfl, hM, hmM⟩ := hL.slice
  have hm2 : M ≤ 9223372036854775807 := by unfold maxLen at hmM; omega
  obtain ⟨A, hA⟩ : ∃ A, o.arr q N c = A := ⟨_, rfl⟩
  have sA : A.size = 19 := by rw [← hA]; rfl
  have oA : A.all (·.oneCell') = true := by rw [← hA]; exact arr_one _ _ _ _
  rw [hA]
  obtain ⟨W, hW⟩ : ∃ W, ((w.alloc (.cells A 28)).alloc (.cells zeroA 28)).alloc (.cells zact 59) = W := ⟨_, rfl⟩
  have hb : Bl w W [(A, 28), (zeroA, 28), (zact, 59)] := hW ▸ Bl.three w A _ _ _ _ _
  have hsz : W.heap.size = w.heap.size + 3 := by rw [← hW]; simp
  have c16 : W.cell? ⟨w.heap.size, 16, none⟩ = some (.int .i64 o.pc) := (hb.cell 0 16 rfl).trans (show A[16]? = _ by rw [← hA]; rfl)
  have HW := Lib.hid hW
  have HM := Lib.hid hM
  have hi : i < M := by rw [← HM.out]; exact (List.getElem?_eq_some_iff.1 hx).1
  have hi0 : ¬ (i : Int) < 0 := by omega
  have hi1 : ¬ (M : Int) ≤ (i : Int) := by omega
  have hi2 : (i : Int) < (M : Int) := by omega
  have hpcm : -9223372036854775808 ≤ (i : Int) + 1 ∧ (i : Int) + 1 ≤ 9223372036854775807 := by omega
  obtain ⟨x', b, off, hx', rfl, d0, d1, d2⟩ := (hL.go hb.kept).pick (i := i) (by rw [hM]; exact hi)
  rw [hx] at hx'
  cases hx'
  rw [hpc] at c16
  obtain ⟨k, a, bb⟩ := x
  simp only at hk
  subst hk
  have lop := load_op d0 d1 d2
  simp only at lop
  obtain ⟨W3, hW3⟩ : ∃ W3, W.alloc (.cells #[.int .i64 4, .int .i64 a, .int .i64 bb] 64) = W3 := ⟨_, rfl⟩
  have hsz3 : W3.heap.size = w.heap.size + 4 := by rw [← hW3, World.size_alloc, hsz]
  have hb3 : Bl w W3 [(A, 28), (zeroA, 28), (zact, 59), (#[.int .i64 4, .int .i64 a, .int .i64 bb], 64)] := by rw [← hW3]; exact hb.more hsz _ _
  obtain ⟨W4, hW4⟩ : ∃ W4, W3.alloc (.cells A 28) = W4 := ⟨_, rfl⟩
  have hb4 : Bl w W4 [(A, 28), (zeroA, 28), (zact, 59), (#[.int .i64 4, .int .i64 a, .int .i64 bb], 64), (A, 28)] := by rw [← hW4]; exact hb3.more hsz3 _ _
  obtain ⟨A1, hA1⟩ : ∃ A1, A.setIfInBounds 16 (.int .i64 ((i : Int) + 1)) = A1 := ⟨_, rfl⟩
  obtain ⟨B, hB⟩ : ∃ B, (nextO o).arr q N c = B := ⟨_, rfl⟩
  have hAB : A1.setIfInBounds 17 (.int .i64 0) = B := by rw [← hA1, ← hA, ← hB, ← hpc]; rfl
  have sB : B.size = 19 := by rw [← hB]; rfl
  have oB : B.all (·.oneCell') = true := by rw [← hB]; exact arr_one _ _ _ _
  obtain ⟨W5, hW5⟩ : ∃ W5, W4.setCell ⟨w.heap.size + 4, 16, none⟩ (.int .i64 ((i : Int) + 1)) = W5 := ⟨_, rfl⟩
  have hb5 : Bl w W5 [(A, 28), (zeroA, 28), (zact, 59), (#[.int .i64 4, .int .i64 a, .int .i64 bb], 64), (A1, 28)] := by rw [← hW5, ← hA1]; exact hb4.put 4 16 rfl _
  obtain ⟨W6, hW6⟩ : ∃ W6, W5.setCell ⟨w.heap.size + 4, 17, none⟩ (.int .i64 0) = W6 := ⟨_, rfl⟩
  have hb6 : Bl w W6 [(A, 28), (zeroA, 28), (zact, 59), (#[.int .i64 4, .int .i64 a, .int .i64 bb], 64), (B, 28)] := by rw [← hW6, ← hAB]; exact hb5.put 4 17 rfl _
  have la3 := load_row (hb3.blk 0 rfl) sA
  have x16 : W4.cell? ⟨w.heap.size, 16, none⟩ = some (.int .i64 (i : Int)) := (hb4.cell 0 16 rfl).trans (show A[16]? = _ by rw [← hA, ← hpc]; rfl)
  have y16 : W4.cell? ⟨w.heap.size + 4, 16, none⟩ = some (.int .i64 (i : Int)) := (hb4.cell 4 16 rfl).trans (show A[16]? = _ by rw [← hA, ← hpc]; rfl)
  have z16 : W4.frozen? ⟨w.heap.size + 4, 16, none⟩ = false := hb4.free 4 16 rfl
  have y17 : W5.cell? ⟨w.heap.size + 4, 17, none⟩ = some (.int .i64 o.dn) := (hb5.cell 4 17 rfl).trans (show A1[17]? = _ by rw [← hA1, ← hA]; rfl)
  have z17 : W5.frozen? ⟨w.heap.size + 4, 17, none⟩ = false := hb5.free 4 17 rfl
  have e0 : W6.cell? ⟨w.heap.size + 3, 0, none⟩ = some (.int .i64 4) := hb6.cell 3 0 rfl
  have e1 : W6.cell? ⟨w.heap.size + 3, 1, none⟩ = some (.int .i64 a) := hb6.cell 3 1 rfl
  have e2 : W6.cell? ⟨w.heap.size + 3, 2, none⟩ = some (.int .i64 bb) := hb6.cell 3 2 rfl
  have hFine : Fine w (fun u => u.heap[w.heap.size + 3]? = some (.cells #[.int .i64 4, .int .i64 a, .int .i64 bb] 64 (0, 0)) ∧ u.heap[w.heap.size + 4]? = some (.cells B 28 (0, 0))) := (at_fine (Nat.le_refl _)).and (at_fine (by omega))
  have hSt : Stab (Sp 28 59 w A (fun u => u.heap[w.heap.size + 3]? = some (.cells #[.int .i64 4, .int .i64 a, .int .i64 bb] 64 (0, 0)) ∧ u.heap[w.heap.size + 4]? = some (.cells B 28 (0, 0)))) := sp_stab hFine
  have hS3 : Sp 28 59 w A (fun u => u.heap[w.heap.size + 3]? = some (.cells #[.int .i64 4, .int .i64 a, .int .i64 bb] 64 (0, 0)) ∧ u.heap[w.heap.size + 4]? = some (.cells B 28 (0, 0))) W6 := ⟨hb6.kept, hb6.blk 0 rfl, ⟨_, hb6.blk 1 rfl, rfl⟩, ⟨_, hb6.blk 2 rfl, rfl⟩, hb6.blk 3 rfl, hb6.blk 4 rfl⟩
  have lA := load_row hS3.own sA
  have lB := load_row hS3.mem.2 sB
  have HS3 := Lib.hid hS3
  have HW3 := Lib.hid hW3
  have HW4 := Lib.hid hW4
  have HW5 := Lib.hid hW5
  have HW6 := Lib.hid hW6
  have HB6 := Lib.hid hb6
  have HSZ := Lib.hid (And.intro hsz hsz3)
  have HR := Lib.hid hB
  clear hb hb3 hb4 hb5 hb6 hS3 hW hW3 hW4 hW5 hW6 d0 d1 d2 hx hL hM hA1 hAB hA hB hv
  go_enter Try.func31, Try.ntmps31
  go_upto_region 1 with fail
  rw [show ((w.alloc (.cells A 28)).alloc (.cells #[.int .i64 0, .int .i64 0, .int .i64 0, .int .i64 0, .int .i64 0, .int .i64 0, .int .i64 0, .int .i64 0, .int .i64 0, .int .i64 0, .int .i64 0, .int .i64 0, .int .i64 0, .int .i64 0, .int .i64 0, .int .i64 0, .int .i64 0, .int .i64 0, .slice none 0 0] 28)).alloc (.cells #[.int .i64 0, .int .i64 0, .int .i64 0] 59) = W from HW.out]
  go_upto_region 4 with (refine load_l 64 (.tmp 25) rfl _ rfl rfl _ lop ?_)
  rw [HW3.out]
  go_upto_region 5 with (first
    | (refine load_l 28 (.tmp 2) rfl _ rfl rfl (.agg A) la3 ?_)
    | (refine store_new rfl 28 (.tmp 7) (.tmp 27) rfl (w.heap.size + 4) A rfl rfl W3 _ hsz3 19 info_row sA rfl oA ?_; rw [HW4.out]))
  go_upto_region 6 with fail
  rw [HW5.out]
  go_upto_region 7 with fail
  rw [HW6.out]
  go_upto_region 23 with fail
  go_wp2_with (first
    | (refine load_l 28 (.tmp 2) rfl _ rfl rfl (.agg A) lA ?_)
    | (refine load_l 28 (.tmp 7) rfl _ rfl rfl (.agg B) lB ?_)
    | (refine store_res hFine HS3.out rfl (.tmp 4) (.tmp 78) rfl B rfl rfl info_row sB oB ?_; intro u6 hS7 hA7)
    | (refine store_act hFine hS7 hA7 rfl (.tmp 5) (.tmp 79) rfl (actA 3 0 0) rfl rfl info_ract rfl (act_one _ _ _) ?_; intro u7 hS6 hA6 hB6))
  refine bodyPost_ret (results_rows rfl _ _ (w.heap.size + 1) (w.heap.size + 2) 28 59 B (actA 3 0 0) (0, 0) (0, 0) _ _ rfl rfl hA6 hB6 Try.underlying28 rfl (by rw [sB]; exact info_row) Try.underlying59 rfl info_ract) rfl ?_
  exact ⟨by rw [HR.out], hS6.kept⟩

set_option maxRecDepth 100000 in
set_option maxHeartbeats 2000000 in
theorem rstep_5 {w : World} {q : Option Addr} {N c : Nat} {K : List Cl} {v : Value} {L : List Pg.Op} (o : Ow) (hv : Cls w (.slice q N c) K) (hl : K.length ≤ 800000) (hL : Pg.Ops w v L) (i : Nat) (x : Pg.Op) (hpc : o.pc = (i : Int)) (hx : L[i]? = some x) (hk : x.k = 5) :
    Calls Try.prog 31 #[.agg (o.arr q N c), v] w (PostR w q N c (o, actA 4 (sumL K x.a) 0)) := by
  have hN : K.length = N := by obtain ⟨p, cap, e⟩ := hv.shape; cases e; rfl
  obtain ⟨p, M, cap, rfl, hM, hmM⟩ := hL.slice
  have hm2 : M ≤ 9223372036854775807 := by unfold maxLen at hmM; omega
  obtain ⟨A, hA⟩ : ∃ A, o.arr q N c = A := ⟨_, rfl⟩
  have sA : A.size = 19 := by rw [← hA]; rfl
  have oA : A.all (·.oneCell') = true := by rw [← hA]; exact arr_one _ _ _ _
  rw [hA]
  obtain ⟨W, hW⟩ : ∃ W, ((w.alloc (.cells A 28)).alloc (.cells zeroA 28)).alloc (.cells zact 59) = W := ⟨_, rfl⟩
  have hb : Bl w W [(A, 28), (zeroA, 28), (zact, 59)] := hW ▸ Bl.three w A _ _ _ _ _
  have hsz : W.heap.size = w.heap.size + 3 := by rw [← hW]; simp
  have c16 : W.cell? ⟨w.heap.size, 16, none⟩ = some (.int .i64 o.pc) := (hb.cell 0 16 rfl).trans (show A[16]? = _ by rw [← hA]; rfl)
  have HW := Lib.hid hW
  have HM := Lib.hid hM
  have hi : i < M := by rw [← HM.out]; exact (List.getElem?_eq_some_iff.1 hx).1
  have hi0 : ¬ (i : Int) < 0 := by omega
  have hi1 : ¬ (M : Int) ≤ (i : Int) := by omega
  have hi2 : (i : Int) < (M : Int) := by omega
  have hpcm : -9223372036854775808 ≤ (i : Int) + 1 ∧ (i : Int) + 1 ≤ 9223372036854775807 := by omega
  obtain ⟨x', b, off, hx', rfl, d0, d1, d2⟩ := (hL.go hb.kept).pick (i := i) (by rw [hM]; exact hi)
  rw [hx] at hx'
  cases hx'
  rw [hpc] at c16
  obtain ⟨k, a, bb⟩ := x
  simp only at hk
  subst hk
  have lop := load_op d0 d1 d2
  simp only at lop
  obtain ⟨W3, hW3⟩ : ∃ W3, W.alloc (.cells #[.int .i64 5, .int .i64 a, .int .i64 bb] 64) = W3 := ⟨_, rfl⟩
  have hsz3 : W3.heap.size = w.heap.size + 4 := by rw [← hW3, World.size_alloc, hsz]
  have hb3 : Bl w W3 [(A, 28), (zeroA, 28), (zact, 59), (#[.int .i64 5, .int .i64 a, .int .i64 bb], 64)] := by rw [← hW3]; exact hb.more hsz _ _
  obtain ⟨W4, hW4⟩ : ∃ W4, W3.alloc (.cells A 28) = W4 := ⟨_, rfl⟩
  have hb4 : Bl w W4 [(A, 28), (zeroA, 28), (zact, 59), (#[.int .i64 5, .int .i64 a, .int .i64 bb], 64), (A, 28)] := by rw [← hW4]; exact hb3.more hsz3 _ _
  obtain ⟨A1, hA1⟩ : ∃ A1, A.setIfInBounds 16 (.int .i64 ((i : Int) + 1)) = A1 := ⟨_, rfl⟩
  obtain ⟨B, hB⟩ : ∃ B, (nextO o).arr q N c = B := ⟨_, rfl⟩
  have hAB : A1.setIfInBounds 17 (.int .i64 0) = B := by rw [← hA1, ← hA, ← hB, ← hpc]; rfl
  have sB : B.size = 19 := by rw [← hB]; rfl
  have oB : B.all (·.oneCell') = true := by rw [← hB]; exact arr_one _ _ _ _
  obtain ⟨W5, hW5⟩ : ∃ W5, W4.setCell ⟨w.heap.size + 4, 16, none⟩ (.int .i64 ((i : Int) + 1)) = W5 := ⟨_, rfl⟩
  have hb5 : Bl w W5 [(A, 28), (zeroA, 28), (zact, 59), (#[.int .i64 5, .int .i64 a, .int .i64 bb], 64), (A1, 28)] := by rw [← hW5, ← hA1]; exact hb4.put 4 16 rfl _
  obtain ⟨W6, hW6⟩ : ∃ W6, W5.setCell ⟨w.heap.size + 4, 17, none⟩ (.int .i64 0) = W6 := ⟨_, rfl⟩
  have hb6 : Bl w W6 [(A, 28), (zeroA, 28), (zact, 59), (#[.int .i64 5, .int .i64 a, .int .i64 bb], 64), (B, 28)] := by rw [← hW6, ← hAB]; exact hb5.put 4 17 rfl _
  have la3 := load_row (hb3.blk 0 rfl) sA
  have x16 : W4.cell? ⟨w.heap.size, 16, none⟩ = some (.int .i64 (i : Int)) := (hb4.cell 0 16 rfl).trans (show A[16]? = _ by rw [← hA, ← hpc]; rfl)
  have y16 : W4.cell? ⟨w.heap.size + 4, 16, none⟩ = some (.int .i64 (i : Int)) := (hb4.cell 4 16 rfl).trans (show A[16]? = _ by rw [← hA, ← hpc]; rfl)
  have z16 : W4.frozen? ⟨w.heap.size + 4, 16, none⟩ = false := hb4.free 4 16 rfl
  have y17 : W5.cell? ⟨w.heap.size + 4, 17, none⟩ = some (.int .i64 o.dn) := (hb5.cell 4 17 rfl).trans (show A1[17]? = _ by rw [← hA1, ← hA]; rfl)
  have z17 : W5.frozen? ⟨w.heap.size + 4, 17, none⟩ = false := hb5.free 4 17 rfl
  have e0 : W6.cell? ⟨w.heap.size + 3, 0, none⟩ = some (.int .i64 5) := hb6.cell 3 0 rfl
  have e1 : W6.cell? ⟨w.heap.size + 3, 1, none⟩ = some (.int .i64 a) := hb6.cell 3 1 rfl
  have e2 : W6.cell? ⟨w.heap.size + 3, 2, none⟩ = some (.int .i64 bb) := hb6.cell 3 2 rfl
  have hFine : Fine w (fun u => u.heap[w.heap.size + 3]? = some (.cells #[.int .i64 5, .int .i64 a, .int .i64 bb] 64 (0, 0)) ∧ u.heap[w.heap.size + 4]? = some (.cells B 28 (0, 0))) := (at_fine (Nat.le_refl _)).and (at_fine (by omega))
  have hSt : Stab (Sp 28 59 w A (fun u => u.heap[w.heap.size + 3]? = some (.cells #[.int .i64 5, .int .i64 a, .int .i64 bb] 64 (0, 0)) ∧ u.heap[w.heap.size + 4]? = some (.cells B 28 (0, 0)))) := sp_stab hFine
  have hS3 : Sp 28 59 w A (fun u => u.heap[w.heap.size + 3]? = some (.cells #[.int .i64 5, .int .i64 a, .int .i64 bb] 64 (0, 0)) ∧ u.heap[w.heap.size + 4]? = some (.cells B 28 (0, 0))) W6 := ⟨hb6.kept, hb6.blk 0 rfl, ⟨_, hb6.blk 1 rfl, rfl⟩, ⟨_, hb6.blk 2 rfl, rfl⟩, hb6.blk 3 rfl, hb6.blk 4 rfl⟩
  have lA := load_row hS3.own sA
  have lB := load_row hS3.mem.2 sB
  have HS3 := Lib.hid hS3
  have HW3 := Lib.hid hW3
  have HW4 := Lib.hid hW4
  have HW5 := Lib.hid hW5
  have HW6 := Lib.hid hW6
  have HB6 := Lib.hid hb6
  have HSZ := Lib.hid (And.intro hsz hsz3)
  have CN := fun (u : World) (hu : Kept w u) => rsum_any o (hv.go hu) a
  obtain ⟨y, hy⟩ : ∃ y, sumL K a = y := ⟨_, rfl⟩
  rw [hy] at CN
  rw [hA] at CN
  have HY := Lib.hid hy
  have HCN := Lib.hid CN
  have HR := Lib.hid hA
  clear CN hy
  clear hb hb3 hb4 hb5 hb6 hS3 hW hW3 hW4 hW5 hW6 d0 d1 d2 hx hL hM hA1 hAB hA hB hv
  go_enter Try.func31, Try.ntmps31
  go_upto_region 1 with fail
  rw [show ((w.alloc (.cells A 28)).alloc (.cells #[.int .i64 0, .int .i64 0, .int .i64 0, .int .i64 0, .int .i64 0, .int .i64 0, .int .i64 0, .int .i64 0, .int .i64 0, .int .i64 0, .int .i64 0, .int .i64 0, .int .i64 0, .int .i64 0, .int .i64 0, .int .i64 0, .int .i64 0, .int .i64 0, .slice none 0 0] 28)).alloc (.cells #[.int .i64 0, .int .i64 0, .int .i64 0] 59) = W from HW.out]
  go_upto_region 4 with (refine load_l 64 (.tmp 25) rfl _ rfl rfl _ lop ?_)
  rw [HW3.out]
  go_upto_region 5 with (first
    | (refine load_l 28 (.tmp 2) rfl _ rfl rfl (.agg A) la3 ?_)
    | (refine store_new rfl 28 (.tmp 7) (.tmp 27) rfl (w.heap.size + 4) A rfl rfl W3 _ hsz3 19 info_row sA rfl oA ?_; rw [HW4.out]))
  go_upto_region 6 with fail
  rw [HW5.out]
  go_upto_region 7 with fail
  rw [HW6.out]
  go_upto_region 25 with fail
  refine Au.region (Sp 28 59 w A (fun u => u.heap[w.heap.size + 3]? = some (.cells #[.int .i64 5, .int .i64 a, .int .i64 bb] 64 (0, 0)) ∧ u.heap[w.heap.size + 4]? = some (.cells B 28 (0, 0)))) (by kernel_rfl) (HS3.out.go hFine (Kept.refl _).drew) ?_
  refine Au.take 0 (some 82) rfl rfl (by kernel_rfl) (by kernel_rfl) (by kernel_rfl) (fun _ _ _ h => h) hSt (Au.yq_load 28 (.tmp 2) rfl _ rfl (by rfl) (fun u hu => load_row hu.own sA)) ?_
  simp only [Act.put, List.setIfInBounds_toArray, List.set_cons_zero, List.set_cons_succ]
  refine Au.take 1 (some 83) rfl rfl (by kernel_rfl) (by kernel_rfl) (by kernel_rfl) (fun _ _ _ h => h) hSt (Au.yq_load 28 (.tmp 2) rfl _ rfl (by rfl) (fun u hu => load_row hu.own sA)) ?_
  simp only [Act.put, List.setIfInBounds_toArray, List.set_cons_zero, List.set_cons_succ]
  refine Au.take 2 (some 84) (v := ?_) rfl rfl (by kernel_rfl) (by kernel_rfl) (by kernel_rfl) (fun _ _ _ h => h) hSt (Au.yq_run (by rfl) (fun u hu => ?_)) ?_
  rotate_left
  · (clear hu; go_simp; try with_reducible rfl)
  simp only [Act.put, List.setIfInBounds_toArray, List.set_cons_zero, List.set_cons_succ]
  refine Au.take 3 (some 85) rfl rfl (by kernel_rfl) (by kernel_rfl) (by kernel_rfl) (fun _ _ _ h => h) hSt (Au.yq_load 3 (.tmp 84) rfl _ rfl (by rfl) (fun u hu => Ad.run_loadi (blk_cell hu.mem.1 1))) ?_
  simp only [Act.put, List.setIfInBounds_toArray, List.set_cons_zero, List.set_cons_succ]
  refine Au.take 4 (some 86) rfl rfl (by kernel_rfl) (by kernel_rfl) (by kernel_rfl) (fun _ _ _ h => h) hSt (Au.yq_call 19 _ (by rfl) (fun u => by go_simp) (fun u hu => HCN.out u hu.kept)) ?_
  simp only [Act.put, List.setIfInBounds_toArray, List.set_cons_zero, List.set_cons_succ]
  refine Au.take 5 (some 87) (v := ?_) rfl rfl (by kernel_rfl) (by kernel_rfl) (by kernel_rfl) (fun _ _ _ h => h) hSt (Au.yq_run (by rfl) (fun u hu => ?_)) ?_
  rotate_left
  · (clear hu; go_simp; try with_reducible rfl)
  simp only [Act.put, List.setIfInBounds_toArray, List.set_cons_zero, List.set_cons_succ]
  refine Au.store 6 28 (.tmp 4) (.tmp 82) rfl (by kernel_rfl) (by kernel_rfl) rfl rfl (w.heap.size + 1) A rfl rfl 28 (fun u hu => by rw [sA]; exact hu.res) (by rw [sA]; exact info_row) (oA) (At1 28 w A) (at1_stab) hSt (fun u hu => hu.row hFine A sA) (fun u hu => by obtain ⟨xs, h1, _⟩ := hu.res; exact setRow_heap _ _ xs _ _ _ h1) ?_
  refine Au.store 7 59 (.tmp 5) (.tmp 87) rfl (by kernel_rfl) (by kernel_rfl) rfl rfl (w.heap.size + 2) (actA 4 y 0) rfl rfl 59 (fun u hu => hu.1.act) (info_ract) (act_one _ _ _) (At2 59 w (actA 4 y 0)) (at2_stab) (stab_and hSt at1_stab) (fun u hu => ⟨hu.1.row2 hFine (actA 4 y 0) rfl, (setRow_other _ _ _ _ (by omega)).trans hu.2⟩) (fun u hu => by obtain ⟨xs, h1, _⟩ := hu.1.act; exact setRow_heap _ _ xs _ _ _ h1) ?_
  refine Au.done (by kernel_rfl) ?_
  rintro u ⟨⟨hS6, hA6⟩, hB6⟩
  go_wp2_with fail
  refine bodyPost_ret (results_rows rfl _ _ (w.heap.size + 1) (w.heap.size + 2) 28 59 A (actA 4 y 0) (0, 0) (0, 0) _ _ rfl rfl hA6 hB6 Try.underlying28 rfl (by rw [sA]; exact info_row) Try.underlying59 rfl info_ract) rfl ?_
  exact ⟨by rw [HR.out, HY.out], hS6.kept⟩

set_option maxRecDepth 100000 in
set_option maxHeartbeats 2000000 in
theorem rstep_6 {w : World} {q : Option Addr} {N c : Nat} {K : List Cl} {v : Value} {L : List Pg.Op} (o : Ow) (hv : Cls w (.slice q N c) K) (hl : K.length ≤ 800000) (hL : Pg.Ops w v L) (i : Nat) (x : Pg.Op) (hpc : o.pc = (i : Int)) (hx : L[i]? = some x) (hk : x.k = 6) :
    Calls Try.prog 31 #[.agg (o.arr q N c), v] w (PostR w q N c (o, actA 5 (Cd.clean x.a) 0)) := by
  have hN : K.length = N := by obtain ⟨p, cap, e⟩ := hv.shape; cases e; rfl
  obtain ⟨p, M, cap, rfl, hM, hmM⟩ := hL.slice
  have hm2 : M ≤ 9223372036854775807 := by unfold maxLen at hmM; omega
  obtain ⟨A, hA⟩ : ∃ A, o.arr q N c = A := ⟨_, rfl⟩
  have sA : A.size = 19 := by rw [← hA]; rfl
  have oA : A.all (·.oneCell') = true := by rw [← hA]; exact arr_one _ _ _ _
  rw [hA]
  obtain ⟨W, hW⟩ : ∃ W, ((w.alloc (.cells A 28)).alloc (.cells zeroA 28)).alloc (.cells zact 59) = W := ⟨_, rfl⟩
  have hb : Bl w W [(A, 28), (zeroA, 28), (zact, 59)] := hW ▸ Bl.three w A _ _ _ _ _
  have hsz : W.heap.size = w.heap.size + 3 := by rw [← hW]; simp
  have c16 : W.cell? ⟨w.heap.size, 16, none⟩ = some (.int .i64 o.pc) := (hb.cell 0 16 rfl).trans (show A[16]? = _ by rw [← hA]; rfl)
  have HW := Lib.hid hW
  have HM := Lib.hid hM
  have hi : i < M := by rw [← HM.out]; exact (List.getElem?_eq_some_iff.1 hx).1
  have hi0 : ¬ (i : Int) < 0 := by omega
  have hi1 : ¬ (M : Int) ≤ (i : Int) := by omega
  have hi2 : (i : Int) < (M : Int) := by omega
  have hpcm : -9223372036854775808 ≤ (i : Int) + 1 ∧ (i : Int) + 1 ≤ 9223372036854775807 := by omega
  obtain ⟨x', b, off, hx', rfl, d0, d1, d2⟩ := (hL.go hb.kept).pick (i := i) (by rw [hM]; exact hi)
  rw [hx] at hx'
  cases hx'
  rw [hpc] at c16
  obtain ⟨k, a, bb⟩ := x
  simp only at hk
  subst hk
  have lop := load_op d0 d1 d2
  simp only at lop
  obtain ⟨W3, hW3⟩ : ∃ W3, W.alloc (.cells #[.int .i64 6, .int .i64 a, .int .i64 bb] 64) = W3 := ⟨_, rfl⟩
  have hsz3 : W3.heap.size = w.heap.size + 4 := by rw [← hW3, World.size_alloc, hsz]
  have hb3 : Bl w W3 [(A, 28), (zeroA, 28), (zact, 59), (#[.int .i64 6, .int .i64 a, .int .i64 bb], 64)] := by rw [← hW3]; exact hb.more hsz _ _
  obtain ⟨W4, hW4⟩ : ∃ W4, W3.alloc (.cells A 28) = W4 := ⟨_, rfl⟩
  have hb4 : Bl w W4 [(A, 28), (zeroA, 28), (zact, 59), (#[.int .i64 6, .int .i64 a, .int .i64 bb], 64), (A, 28)] := by rw [← hW4]; exact hb3.more hsz3 _ _
  obtain ⟨A1, hA1⟩ : ∃ A1, A.setIfInBounds 16 (.int .i64 ((i : Int) + 1)) = A1 := ⟨_, rfl⟩
  obtain ⟨B, hB⟩ : ∃ B, (nextO o).arr q N c = B := ⟨_, rfl⟩
  have hAB : A1.setIfInBounds 17 (.int .i64 0) = B := by rw [← hA1, ← hA, ← hB, ← hpc]; rfl
  have sB : B.size = 19 := by rw [← hB]; rfl
  have oB : B.all (·.oneCell') = true := by rw [← hB]; exact arr_one _ _ _ _
  obtain ⟨W5, hW5⟩ : ∃ W5, W4.setCell ⟨w.heap.size + 4, 16, none⟩ (.int .i64 ((i : Int) + 1)) = W5 := ⟨_, rfl⟩
  have hb5 : Bl w W5 [(A, 28), (zeroA, 28), (zact, 59), (#[.int .i64 6, .int .i64 a, .int .i64 bb], 64), (A1, 28)] := by rw [← hW5, ← hA1]; exact hb4.put 4 16 rfl _
  obtain ⟨W6, hW6⟩ : ∃ W6, W5.setCell ⟨w.heap.size + 4, 17, none⟩ (.int .i64 0) = W6 := ⟨_, rfl⟩
  have hb6 : Bl w W6 [(A, 28), (zeroA, 28), (zact, 59), (#[.int .i64 6, .int .i64 a, .int .i64 bb], 64), (B, 28)] := by rw [← hW6, ← hAB]; exact hb5.put 4 17 rfl _
  have la3 := load_row (hb3.blk 0 rfl) sA
  have x16 : W4.cell? ⟨w.heap.size, 16, none⟩ = some (.int .i64 (i : Int)) := (hb4.cell 0 16 rfl).trans (show A[16]? = _ by rw [← hA, ← hpc]; rfl)
  have y16 : W4.cell? ⟨w.heap.size + 4, 16, none⟩ = some (.int .i64 (i : Int)) := (hb4.cell 4 16 rfl).trans (show A[16]? = _ by rw [← hA, ← hpc]; rfl)
  have z16 : W4.frozen? ⟨w.heap.size + 4, 16, none⟩ = false := hb4.free 4 16 rfl
  have y17 : W5.cell? ⟨w.heap.size + 4, 17, none⟩ = some (.int .i64 o.dn) := (hb5.cell 4 17 rfl).trans (show A1[17]? = _ by rw [← hA1, ← hA]; rfl)
  have z17 : W5.frozen? ⟨w.heap.size + 4, 17, none⟩ = false := hb5.free 4 17 rfl
  have e0 : W6.cell? ⟨w.heap.size + 3, 0, none⟩ = some (.int .i64 6) := hb6.cell 3 0 rfl
  have e1 : W6.cell? ⟨w.heap.size + 3, 1, none⟩ = some (.int .i64 a) := hb6.cell 3 1 rfl
  have e2 : W6.cell? ⟨w.heap.size + 3, 2, none⟩ = some (.int .i64 bb) := hb6.cell 3 2 rfl
  have hFine : Fine w (fun u => u.heap[w.heap.size + 3]? = some (.cells #[.int .i64 6, .int .i64 a, .int .i64 bb] 64 (0, 0)) ∧ u.heap[w.heap.size + 4]? = some (.cells B 28 (0, 0))) := (at_fine (Nat.le_refl _)).and (at_fine (by omega))
  have hSt : Stab (Sp 28 59 w A (fun u => u.heap[w.heap.size + 3]? = some (.cells #[.int .i64 6, .int .i64 a, .int .i64 bb] 64 (0, 0)) ∧ u.heap[w.heap.size + 4]? = some (.cells B 28 (0, 0)))) := sp_stab hFine
  have hS3 : Sp 28 59 w A (fun u => u.heap[w.heap.size + 3]? = some (.cells #[.int .i64 6, .int .i64 a, .int .i64 bb] 64 (0, 0)) ∧ u.heap[w.heap.size + 4]? = some (.cells B 28 (0, 0))) W6 := ⟨hb6.kept, hb6.blk 0 rfl, ⟨_, hb6.blk 1 rfl, rfl⟩, ⟨_, hb6.blk 2 rfl, rfl⟩, hb6.blk 3 rfl, hb6.blk 4 rfl⟩
  have lA := load_row hS3.own sA
  have lB := load_row hS3.mem.2 sB
  have HS3 := Lib.hid hS3
  have HW3 := Lib.hid hW3
  have HW4 := Lib.hid hW4
  have HW5 := Lib.hid hW5
  have HW6 := Lib.hid hW6
  have HB6 := Lib.hid hb6
  have HSZ := Lib.hid (And.intro hsz hsz3)
  obtain ⟨y, hy⟩ : ∃ y, Cd.clean a = y := ⟨_, rfl⟩
  have CN : ∀ u, Calls Try.prog 51 #[.int .i64 a] u fun e w' => e = .returned (.int .i64 y) ∧ Kept u w' := fun u => by rw [← hy]; exact (Cd.rclean_any a u).mono fun e w' h => ⟨h.1, h.2 ▸ Kept.refl _⟩
  have HY := Lib.hid hy
  have HCN := Lib.hid CN
  have HR := Lib.hid hA
  clear CN hy
  clear hb hb3 hb4 hb5 hb6 hS3 hW hW3 hW4 hW5 hW6 d0 d1 d2 hx hL hM hA1 hAB hA hB hv
  go_enter Try.func31, Try.ntmps31
  go_upto_region 1 with fail
  rw [show ((w.alloc (.cells A 28)).alloc (.cells #[.int .i64 0, .int .i64 0, .int .i64 0, .int .i64 0, .int .i64 0, .int .i64 0, .int .i64 0, .int .i64 0, .int .i64 0, .int .i64 0, .int .i64 0, .int .i64 0, .int .i64 0, .int .i64 0, .int .i64 0, .int .i64 0, .int .i64 0, .int .i64 0, .slice none 0 0] 28)).alloc (.cells #[.int .i64 0, .int .i64 0, .int .i64 0] 59) = W from HW.out]
  go_upto_region 4 with (refine load_l 64 (.tmp 25) rfl _ rfl rfl _ lop ?_)
  rw [HW3.out]
  go_upto_region 5 with (first
    | (refine load_l 28 (.tmp 2) rfl _ rfl rfl (.agg A) la3 ?_)
    | (refine store_new rfl 28 (.tmp 7) (.tmp 27) rfl (w.heap.size + 4) A rfl rfl W3 _ hsz3 19 info_row sA rfl oA ?_; rw [HW4.out]))
  go_upto_region 6 with fail
  rw [HW5.out]
  go_upto_region 7 with fail
  rw [HW6.out]
  go_upto_region 27 with fail
  refine Au.region (Sp 28 59 w A (fun u => u.heap[w.heap.size + 3]? = some (.cells #[.int .i64 6, .int .i64 a, .int .i64 bb] 64 (0, 0)) ∧ u.heap[w.heap.size + 4]? = some (.cells B 28 (0, 0)))) (by kernel_rfl) (HS3.out.go hFine (Kept.refl _).drew) ?_
  refine Au.take 0 (some 90) rfl rfl (by kernel_rfl) (by kernel_rfl) (by kernel_rfl) (fun _ _ _ h => h) hSt (Au.yq_load 28 (.tmp 2) rfl _ rfl (by rfl) (fun u hu => load_row hu.own sA)) ?_
  simp only [Act.put, List.setIfInBounds_toArray, List.set_cons_zero, List.set_cons_succ]
  refine Au.take 1 (some 91) (v := ?_) rfl rfl (by kernel_rfl) (by kernel_rfl) (by kernel_rfl) (fun _ _ _ h => h) hSt (Au.yq_run (by rfl) (fun u hu => ?_)) ?_
  rotate_left
  · (clear hu; go_simp; try with_reducible rfl)
  simp only [Act.put, List.setIfInBounds_toArray, List.set_cons_zero, List.set_cons_succ]
  refine Au.take 2 (some 92) rfl rfl (by kernel_rfl) (by kernel_rfl) (by kernel_rfl) (fun _ _ _ h => h) hSt (Au.yq_load 3 (.tmp 91) rfl _ rfl (by rfl) (fun u hu => Ad.run_loadi (blk_cell hu.mem.1 1))) ?_
  simp only [Act.put, List.setIfInBounds_toArray, List.set_cons_zero, List.set_cons_succ]
  refine Au.take 3 (some 93) rfl rfl (by kernel_rfl) (by kernel_rfl) (by kernel_rfl) (fun _ _ _ h => h) hSt (Au.yq_call 51 _ (by rfl) (fun u => by go_simp) (fun u hu => HCN.out u)) ?_
  simp only [Act.put, List.setIfInBounds_toArray, List.set_cons_zero, List.set_cons_succ]
  refine Au.take 4 (some 94) (v := ?_) rfl rfl (by kernel_rfl) (by kernel_rfl) (by kernel_rfl) (fun _ _ _ h => h) hSt (Au.yq_run (by rfl) (fun u hu => ?_)) ?_
  rotate_left
  · (clear hu; go_simp; try with_reducible rfl)
  simp only [Act.put, List.setIfInBounds_toArray, List.set_cons_zero, List.set_cons_succ]
  refine Au.store 5 28 (.tmp 4) (.tmp 90) rfl (by kernel_rfl) (by kernel_rfl) rfl rfl (w.heap.size + 1) A rfl rfl 28 (fun u hu => by rw [sA]; exact hu.res) (by rw [sA]; exact info_row) (oA) (At1 28 w A) (at1_stab) hSt (fun u hu => hu.row hFine A sA) (fun u hu => by obtain ⟨xs, h1, _⟩ := hu.res; exact setRow_heap _ _ xs _ _ _ h1) ?_
  refine Au.store 6 59 (.tmp 5) (.tmp 94) rfl (by kernel_rfl) (by kernel_rfl) rfl rfl (w.heap.size + 2) (actA 5 y 0) rfl rfl 59 (fun u hu => hu.1.act) (info_ract) (act_one _ _ _) (At2 59 w (actA 5 y 0)) (at2_stab) (stab_and hSt at1_stab) (fun u hu => ⟨hu.1.row2 hFine (actA 5 y 0) rfl, (setRow_other _ _ _ _ (by omega)).trans hu.2⟩) (fun u hu => by obtain ⟨xs, h1, _⟩ := hu.1.act; exact setRow_heap _ _ xs _ _ _ h1) ?_
  refine Au.done (by kernel_rfl) ?_
  rintro u ⟨⟨hS6, hA6⟩, hB6⟩
  go_wp2_with fail
  refine bodyPost_ret (results_rows rfl _ _ (w.heap.size + 1) (w.heap.size + 2) 28 59 A (actA 5 y 0) (0, 0) (0, 0) _ _ rfl rfl hA6 hB6 Try.underlying28 rfl (by rw [sA]; exact info_row) Try.underlying59 rfl info_ract) rfl ?_
  exact ⟨by rw [HR.out, HY.out], hS6.kept⟩

set_option maxRecDepth 100000 in
set_option maxHeartbeats 2000000 in
theorem rstep_7 {w : World} {q : Option Addr} {N c : Nat} {K : List Cl} {v : Value} {L : List Pg.Op} (o : Ow) (hv : Cls w (.slice q N c) K) (hl : K.length ≤ 800000) (hL : Pg.Ops w v L) (i : Nat) (x : Pg.Op) (hpc : o.pc = (i : Int)) (hx : L[i]? = some x) (hk : x.k = 7) :
    Calls Try.prog 31 #[.agg (o.arr q N c), v] w (PostR w q N c (o, actA 6 (max (-1) x.a) 0)) := by
  have hN : K.length = N := by obtain ⟨p, cap, e⟩ := hv.shape; cases e; rfl
  obtain ⟨p, M, cap, rfl, hM, hmM⟩ := hL.slice
  have hm2 : M ≤ 9223372036854775807 := by unfold maxLen at hmM; omega
  obtain ⟨A, hA⟩ : ∃ A, o.arr q N c = A := ⟨_, rfl⟩
  have sA : A.size = 19 := by rw [← hA]; rfl
  have oA : A.all (·.oneCell') = true := by rw [← hA]; exact arr_one _ _ _ _
  rw [hA]
  obtain ⟨W, hW⟩ : ∃ W, ((w.alloc (.cells A 28)).alloc (.cells zeroA 28)).alloc (.cells zact 59) = W := ⟨_, rfl⟩
  have hb : Bl w W [(A, 28), (zeroA, 28), (zact, 59)] := hW ▸ Bl.three w A _ _ _ _ _
  have hsz : W.heap.size = w.heap.size + 3 := by rw [← hW]; simp
  have c16 : W.cell? ⟨w.heap.size, 16, none⟩ = some (.int .i64 o.pc) := (hb.cell 0 16 rfl).trans (show A[16]? = _ by rw [← hA]; rfl)
  have HW := Lib.hid hW
  have HM := Lib.hid hM
  have hi : i < M := by rw [← HM.out]; exact (List.getElem?_eq_some_iff.1 hx).1
  have hi0 : ¬ (i : Int) < 0 := by omega
  have hi1 : ¬ (M : Int) ≤ (i : Int) := by omega
  have hi2 : (i : Int) < (M : Int) := by omega
  have hpcm : -9223372036854775808 ≤ (i : Int) + 1 ∧ (i : Int) + 1 ≤ 9223372036854775807 := by omega
  obtain ⟨x', b, off, hx', rfl, d0, d1, d2⟩ := (hL.go hb.kept).pick (i := i) (by rw [hM]; exact hi)
  rw [hx] at hx'
  cases hx'
  rw [hpc] at c16
  obtain ⟨k, a, bb⟩ := x
  simp only at hk
  subst hk
  have lop := load_op d0 d1 d2
  simp only at lop
  obtain ⟨W3, hW3⟩ : ∃ W3, W.alloc (.cells #[.int .i64 7, .int .i64 a, .int .i64 bb] 64) = W3 := ⟨_, rfl⟩
  have hsz3 : W3.heap.size = w.heap.size + 4 := by rw [← hW3, World.size_alloc, hsz]
  have hb3 : Bl w W3 [(A, 28), (zeroA, 28), (zact, 59), (#[.int .i64 7, .int .i64 a, .int .i64 bb], 64)] := by rw [← hW3]; exact hb.more hsz _ _
  obtain ⟨W4, hW4⟩ : ∃ W4, W3.alloc (.cells A 28) = W4 := ⟨_, rfl⟩
  have hb4 : Bl w W4 [(A, 28), (zeroA, 28), (zact, 59), (#[.int .i64 7, .int .i64 a, .int .i64 bb], 64), (A, 28)] := by rw [← hW4]; exact hb3.more hsz3 _ _
  obtain ⟨A1, hA1⟩ : ∃ A1, A.setIfInBounds 16 (.int .i64 ((i : Int) + 1)) = A1 := ⟨_, rfl⟩
  obtain ⟨B, hB⟩ : ∃ B, (nextO o).arr q N c = B := ⟨_, rfl⟩
  have hAB : A1.setIfInBounds 17 (.int .i64 0) = B := by rw [← hA1, ← hA, ← hB, ← hpc]; rfl
  have sB : B.size = 19 := by rw [← hB]; rfl
  have oB : B.all (·.oneCell') = true := by rw [← hB]; exact arr_one _ _ _ _
  obtain ⟨W5, hW5⟩ : ∃ W5, W4.setCell ⟨w.heap.size + 4, 16, none⟩ (.int .i64 ((i : Int) + 1)) = W5 := ⟨_, rfl⟩
  have hb5 : Bl w W5 [(A, 28), (zeroA, 28), (zact, 59), (#[.int .i64 7, .int .i64 a, .int .i64 bb], 64), (A1, 28)] := by rw [← hW5, ← hA1]; exact hb4.put 4 16 rfl _
  obtain ⟨W6, hW6⟩ : ∃ W6, W5.setCell ⟨w.heap.size + 4, 17, none⟩ (.int .i64 0) = W6 := ⟨_, rfl⟩
  have hb6 : Bl w W6 [(A, 28), (zeroA, 28), (zact, 59), (#[.int .i64 7, .int .i64 a, .int .i64 bb], 64), (B, 28)] := by rw [← hW6, ← hAB]; exact hb5.put 4 17 rfl _
  have la3 := load_row (hb3.blk 0 rfl) sA
  have x16 : W4.cell? ⟨w.heap.size, 16, none⟩ = some (.int .i64 (i : Int)) := (hb4.cell 0 16 rfl).trans (show A[16]? = _ by rw [← hA, ← hpc]; rfl)
  have y16 : W4.cell? ⟨w.heap.size + 4, 16, none⟩ = some (.int .i64 (i : Int)) := (hb4.cell 4 16 rfl).trans (show A[16]? = _ by rw [← hA, ← hpc]; rfl)
  have z16 : W4.frozen? ⟨w.heap.size + 4, 16, none⟩ = false := hb4.free 4 16 rfl
  have y17 : W5.cell? ⟨w.heap.size + 4, 17, none⟩ = some (.int .i64 o.dn) := (hb5.cell 4 17 rfl).trans (show A1[17]? = _ by rw [← hA1, ← hA]; rfl)
  have z17 : W5.frozen? ⟨w.heap.size + 4, 17, none⟩ = false := hb5.free 4 17 rfl
  have e0 : W6.cell? ⟨w.heap.size + 3, 0, none⟩ = some (.int .i64 7) := hb6.cell 3 0 rfl
  have e1 : W6.cell? ⟨w.heap.size + 3, 1, none⟩ = some (.int .i64 a) := hb6.cell 3 1 rfl
  have e2 : W6.cell? ⟨w.heap.size + 3, 2, none⟩ = some (.int .i64 bb) := hb6.cell 3 2 rfl
  have hFine : Fine w (fun u => u.heap[w.heap.size + 3]? = some (.cells #[.int .i64 7, .int .i64 a, .int .i64 bb] 64 (0, 0)) ∧ u.heap[w.heap.size + 4]? = some (.cells B 28 (0, 0))) := (at_fine (Nat.le_refl _)).and (at_fine (by omega))
  have hSt : Stab (Sp 28 59 w A (fun u => u.heap[w.heap.size + 3]? = some (.cells #[.int .i64 7, .int .i64 a, .int .i64 bb] 64 (0, 0)) ∧ u.heap[w.heap.size + 4]? = some (.cells B 28 (0, 0)))) := sp_stab hFine
  have hS3 : Sp 28 59 w A (fun u => u.heap[w.heap.size + 3]? = some (.cells #[.int .i64 7, .int .i64 a, .int .i64 bb] 64 (0, 0)) ∧ u.heap[w.heap.size + 4]? = some (.cells B 28 (0, 0))) W6 := ⟨hb6.kept, hb6.blk 0 rfl, ⟨_, hb6.blk 1 rfl, rfl⟩, ⟨_, hb6.blk 2 rfl, rfl⟩, hb6.blk 3 rfl, hb6.blk 4 rfl⟩
  have lA := load_row hS3.own sA
  have lB := load_row hS3.mem.2 sB
  have HS3 := Lib.hid hS3
  have HW3 := Lib.hid hW3
  have HW4 := Lib.hid hW4
  have HW5 := Lib.hid hW5
  have HW6 := Lib.hid hW6
  have HB6 := Lib.hid hb6
  have HSZ := Lib.hid (And.intro hsz hsz3)
  have HR := Lib.hid hA
  clear hb hb3 hb4 hb5 hb6 hS3 hW hW3 hW4 hW5 hW6 d0 d1 d2 hx hL hM hA1 hAB hA hB hv
  go_enter Try.func31, Try.ntmps31
  go_upto_region 1 with fail
  rw [show ((w.alloc (.cells A 28)).alloc (.cells #[.int .i64 0, .int .i64 0, .int .i64 0, .int .i64 0, .int .i64 0, .int .i64 0, .int .i64 0, .int .i64 0, .int .i64 0, .int .i64 0, .int .i64 0, .int .i64 0, .int .i64 0, .int .i64 0, .int .i64 0, .int .i64 0, .int .i64 0, .int .i64 0, .slice none 0 0] 28)).alloc (.cells #[.int .i64 0, .int .i64 0, .int .i64 0] 59) = W from HW.out]
  go_upto_region 4 with (refine load_l 64 (.tmp 25) rfl _ rfl rfl _ lop ?_)
  rw [HW3.out]
  go_upto_region 5 with (first
    | (refine load_l 28 (.tmp 2) rfl _ rfl rfl (.agg A) la3 ?_)
    | (refine store_new rfl 28 (.tmp 7) (.tmp 27) rfl (w.heap.size + 4) A rfl rfl W3 _ hsz3 19 info_row sA rfl oA ?_; rw [HW4.out]))
  go_upto_region 6 with fail
  rw [HW5.out]
  go_upto_region 7 with fail
  rw [HW6.out]
  go_upto_region 29 with fail
  by_cases hlt : a < -1
  · have HY := Lib.hid (show max (-1) a = -1 by omega)
    go_wp2_with (first
      | (refine load_l 28 (.tmp 2) rfl _ rfl rfl (.agg A) lA ?_)
      | (refine load_l 28 (.tmp 7) rfl _ rfl rfl (.agg B) lB ?_)
      | (refine store_res hFine HS3.out rfl (.tmp 4) (.tmp 100) rfl A rfl rfl info_row sA oA ?_; intro u6 hS7 hA7)
      | (refine store_act hFine hS7 hA7 rfl (.tmp 5) (.tmp 101) rfl (actA 6 (-1) 0) rfl rfl info_ract rfl (act_one _ _ _) ?_; intro u7 hS6 hA6 hB6))
    refine bodyPost_ret (results_rows rfl _ _ (w.heap.size + 1) (w.heap.size + 2) 28 59 A (actA 6 (-1) 0) (0, 0) (0, 0) _ _ rfl rfl hA6 hB6 Try.underlying28 rfl (by rw [sA]; exact info_row) Try.underlying59 rfl info_ract) rfl ?_
    exact ⟨by rw [HR.out, HY.out], hS6.kept⟩
  · have HY := Lib.hid (show max (-1) a = a by omega)
    go_upto_region 31 with fail
    refine Au.region (Sp 28 59 w A (fun u => u.heap[w.heap.size + 3]? = some (.cells #[.int .i64 7, .int .i64 a, .int .i64 bb] 64 (0, 0)) ∧ u.heap[w.heap.size + 4]? = some (.cells B 28 (0, 0)))) (by kernel_rfl) (HS3.out.go hFine (Kept.refl _).drew) ?_
    refine Au.take 0 (some 102) rfl rfl (by kernel_rfl) (by kernel_rfl) (by kernel_rfl) (fun _ _ _ h => h) hSt (Au.yq_load 28 (.tmp 2) rfl _ rfl (by rfl) (fun u hu => load_row hu.own sA)) ?_
    simp only [Act.put, List.setIfInBounds_toArray, List.set_cons_zero, List.set_cons_succ]
    refine Au.take 1 (some 103) (v := ?_) rfl rfl (by kernel_rfl) (by kernel_rfl) (by kernel_rfl) (fun _ _ _ h => h) hSt (Au.yq_run (by rfl) (fun u hu => ?_)) ?_
    rotate_left
    · (clear hu; go_simp; try with_reducible rfl)
    simp only [Act.put, List.setIfInBounds_toArray, List.set_cons_zero, List.set_cons_succ]
    refine Au.take 2 (some 104) rfl rfl (by kernel_rfl) (by kernel_rfl) (by kernel_rfl) (fun _ _ _ h => h) hSt (Au.yq_load 3 (.tmp 103) rfl _ rfl (by rfl) (fun u hu => Ad.run_loadi (blk_cell hu.mem.1 1))) ?_
    simp only [Act.put, List.setIfInBounds_toArray, List.set_cons_zero, List.set_cons_succ]
    refine Au.take 3 (some 105) (v := ?_) rfl rfl (by kernel_rfl) (by kernel_rfl) (by kernel_rfl) (fun _ _ _ h => h) hSt (Au.yq_run (by rfl) (fun u hu => ?_)) ?_
    rotate_left
    · (clear hu; go_simp; try with_reducible rfl)
    simp only [Act.put, List.setIfInBounds_toArray, List.set_cons_zero, List.set_cons_succ]
    refine Au.store 4 28 (.tmp 4) (.tmp 102) rfl (by kernel_rfl) (by kernel_rfl) rfl rfl (w.heap.size + 1) A rfl rfl 28 (fun u hu => by rw [sA]; exact hu.res) (by rw [sA]; exact info_row) (oA) (At1 28 w A) (at1_stab) hSt (fun u hu => hu.row hFine A sA) (fun u hu => by obtain ⟨xs, h1, _⟩ := hu.res; exact setRow_heap _ _ xs _ _ _ h1) ?_
    refine Au.store 5 59 (.tmp 5) (.tmp 105) rfl (by kernel_rfl) (by kernel_rfl) rfl rfl (w.heap.size + 2) (actA 6 a 0) rfl rfl 59 (fun u hu => hu.1.act) (info_ract) (act_one _ _ _) (At2 59 w (actA 6 a 0)) (at2_stab) (stab_and hSt at1_stab) (fun u hu => ⟨hu.1.row2 hFine (actA 6 a 0) rfl, (setRow_other _ _ _ _ (by omega)).trans hu.2⟩) (fun u hu => by obtain ⟨xs, h1, _⟩ := hu.1.act; exact setRow_heap _ _ xs _ _ _ h1) ?_
    refine Au.done (by kernel_rfl) ?_
    rintro u ⟨⟨hS6, hA6⟩, hB6⟩
    go_wp2_with fail
    refine bodyPost_ret (results_rows rfl _ _ (w.heap.size + 1) (w.heap.size + 2) 28 59 A (actA 6 a 0) (0, 0) (0, 0) _ _ rfl rfl hA6 hB6 Try.underlying28 rfl (by rw [sA]; exact info_row) Try.underlying59 rfl info_ract) rfl ?_
    exact ⟨by rw [HR.out, HY.out], hS6.kept⟩

set_option maxRecDepth 100000 in
set_option maxHeartbeats 2000000 in
theorem rstep_x {w : World} {q : Option Addr} {N c : Nat} {K : List Cl} {v : Value} {L : List Pg.Op} (o : Ow) (hv : Cls w (.slice q N c) K) (hl : K.length ≤ 800000) (hL : Pg.Ops w v L) (i : Nat) (x : Pg.Op) (hpc : o.pc = (i : Int)) (hx : L[i]? = some x) (hk : ¬ x.k = 1 ∧ ¬ x.k = 2 ∧ ¬ x.k = 3 ∧ ¬ x.k = 4 ∧ ¬ x.k = 5 ∧ ¬ x.k = 6 ∧ ¬ x.k = 7) :
    Calls Try.prog 31 #[.agg (o.arr q N c), v] w (PostR w q N c (o, actA 5 13 0)) := by
  have hN : K.length = N := by obtain ⟨p, cap, e⟩ := hv.shape; cases e; rfl
  obtain ⟨p, M, cap, rfl, hM, hmM⟩ := hL.slice
  have hm2 : M ≤ 9223372036854775807 := by unfold maxLen at hmM; omega
  obtain ⟨A, hA⟩ : ∃ A, o.arr q N c = A := ⟨_, rfl⟩
  have sA : A.size = 19 := by rw [← hA]; rfl
  have oA : A.all (·.oneCell') = true := by rw [← hA]; exact arr_one _ _ _ _
  rw [hA]
  obtain ⟨W, hW⟩ : ∃ W, ((w.alloc (.cells A 28)).alloc (.cells zeroA 28)).alloc (.cells zact 59) = W := ⟨_, rfl⟩
  have hb : Bl w W [(A, 28), (zeroA, 28), (zact, 59)] := hW ▸ Bl.three w A _ _ _ _ _
  have hsz : W.heap.size = w.heap.size + 3 := by rw [← hW]; simp
  have c16 : W.cell? ⟨w.heap.size, 16, none⟩ = some (.int .i64 o.pc) := (hb.cell 0 16 rfl).trans (show A[16]? = _ by rw [← hA]; rfl)
  have HW := Lib.hid hW
  have HM := Lib.hid hM
  have hi : i < M := by rw [← HM.out]; exact (List.getElem?_eq_some_iff.1 hx).1
  have hi0 : ¬ (i : Int) < 0 := by omega
  have hi1 : ¬ (M : Int) ≤ (i : Int) := by omega
  have hi2 : (i : Int) < (M : Int) := by omega
  have hpcm : -9223372036854775808 ≤ (i : Int) + 1 ∧ (i : Int) + 1 ≤ 9223372036854775807 := by omega
  obtain ⟨x', b, off, hx', rfl, d0, d1, d2⟩ := (hL.go hb.kept).pick (i := i) (by rw [hM]; exact hi)
  rw [hx] at hx'
  cases hx'
  rw [hpc] at c16
  obtain ⟨k, a, bb⟩ := x
  simp only at hk
  have lop := load_op d0 d1 d2
  simp only at lop
  obtain ⟨W3, hW3⟩ : ∃ W3, W.alloc (.cells #[.int .i64 k, .int .i64 a, .int .i64 bb] 64) = W3 := ⟨_, rfl⟩
  have hsz3 : W3.heap.size = w.heap.size + 4 := by rw [← hW3, World.size_alloc, hsz]
  have hb3 : Bl w W3 [(A, 28), (zeroA, 28), (zact, 59), (#[.int .i64 k, .int .i64 a, .int .i64 bb], 64)] := by rw [← hW3]; exact hb.more hsz _ _
  obtain ⟨W4, hW4⟩ : ∃ W4, W3.alloc (.cells A 28) = W4 := ⟨_, rfl⟩
  have hb4 : Bl w W4 [(A, 28), (zeroA, 28), (zact, 59), (#[.int .i64 k, .int .i64 a, .int .i64 bb], 64), (A, 28)] := by rw [← hW4]; exact hb3.more hsz3 _ _
  obtain ⟨A1, hA1⟩ : ∃ A1, A.setIfInBounds 16 (.int .i64 ((i : Int) + 1)) = A1 := ⟨_, rfl⟩
  obtain ⟨B, hB⟩ : ∃ B, (nextO o).arr q N c = B := ⟨_, rfl⟩
  have hAB : A1.setIfInBounds 17 (.int .i64 0) = B := by rw [← hA1, ← hA, ← hB, ← hpc]; rfl
  have sB : B.size = 19 := by rw [← hB]; rfl
  have oB : B.all (·.oneCell') = true := by rw [← hB]; exact arr_one _ _ _ _
  obtain ⟨W5, hW5⟩ : ∃ W5, W4.setCell ⟨w.heap.size + 4, 16, none⟩ (.int .i64 ((i : Int) + 1)) = W5 := ⟨_, rfl⟩
  have hb5 : Bl w W5 [(A, 28), (zeroA, 28), (zact, 59), (#[.int .i64 k, .int .i64 a, .int .i64 bb], 64), (A1, 28)] := by rw [← hW5, ← hA1]; exact hb4.put 4 16 rfl _
  obtain ⟨W6, hW6⟩ : ∃ W6, W5.setCell ⟨w.heap.size + 4, 17, none⟩ (.int .i64 0) = W6 := ⟨_, rfl⟩
  have hb6 : Bl w W6 [(A, 28), (zeroA, 28), (zact, 59), (#[.int .i64 k, .int .i64 a, .int .i64 bb], 64), (B, 28)] := by rw [← hW6, ← hAB]; exact hb5.put 4 17 rfl _
  have la3 := load_row (hb3.blk 0 rfl) sA
  have x16 : W4.cell? ⟨w.heap.size, 16, none⟩ = some (.int .i64 (i : Int)) := (hb4.cell 0 16 rfl).trans (show A[16]? = _ by rw [← hA, ← hpc]; rfl)
  have y16 : W4.cell? ⟨w.heap.size + 4, 16, none⟩ = some (.int .i64 (i : Int)) := (hb4.cell 4 16 rfl).trans (show A[16]? = _ by rw [← hA, ← hpc]; rfl)
  have z16 : W4.frozen? ⟨w.heap.size + 4, 16, none⟩ = false := hb4.free 4 16 rfl
  have y17 : W5.cell? ⟨w.heap.size + 4, 17, none⟩ = some (.int .i64 o.dn) := (hb5.cell 4 17 rfl).trans (show A1[17]? = _ by rw [← hA1, ← hA]; rfl)
  have z17 : W5.frozen? ⟨w.heap.size + 4, 17, none⟩ = false := hb5.free 4 17 rfl
  have e0 : W6.cell? ⟨w.heap.size + 3, 0, none⟩ = some (.int .i64 k) := hb6.cell 3 0 rfl
  have e1 : W6.cell? ⟨w.heap.size + 3, 1, none⟩ = some (.int .i64 a) := hb6.cell 3 1 rfl
  have e2 : W6.cell? ⟨w.heap.size + 3, 2, none⟩ = some (.int .i64 bb) := hb6.cell 3 2 rfl
  have hFine : Fine w (fun u => u.heap[w.heap.size + 3]? = some (.cells #[.int .i64 k, .int .i64 a, .int .i64 bb] 64 (0, 0)) ∧ u.heap[w.heap.size + 4]? = some (.cells B 28 (0, 0))) := (at_fine (Nat.le_refl _)).and (at_fine (by omega))
  have hSt : Stab (Sp 28 59 w A (fun u => u.heap[w.heap.size + 3]? = some (.cells #[.int .i64 k, .int .i64 a, .int .i64 bb] 64 (0, 0)) ∧ u.heap[w.heap.size + 4]? = some (.cells B 28 (0, 0)))) := sp_stab hFine
  have hS3 : Sp 28 59 w A (fun u => u.heap[w.heap.size + 3]? = some (.cells #[.int .i64 k, .int .i64 a, .int .i64 bb] 64 (0, 0)) ∧ u.heap[w.heap.size + 4]? = some (.cells B 28 (0, 0))) W6 := ⟨hb6.kept, hb6.blk 0 rfl, ⟨_, hb6.blk 1 rfl, rfl⟩, ⟨_, hb6.blk 2 rfl, rfl⟩, hb6.blk 3 rfl, hb6.blk 4 rfl⟩
  have lA := load_row hS3.own sA
  have lB := load_row hS3.mem.2 sB
  have HS3 := Lib.hid hS3
  have HW3 := Lib.hid hW3
  have HW4 := Lib.hid hW4
  have HW5 := Lib.hid hW5
  have HW6 := Lib.hid hW6
  have HB6 := Lib.hid hb6
  have HSZ := Lib.hid (And.intro hsz hsz3)
  obtain ⟨f1, f2, f3, f4, f5, f6, f7⟩ := hk
  have g1 : (k == 1) = false := beq_eq_false_iff_ne.2 f1
  have g2 : (k == 2) = false := beq_eq_false_iff_ne.2 f2
  have g3 : (k == 3) = false := beq_eq_false_iff_ne.2 f3
  have g4 : (k == 4) = false := beq_eq_false_iff_ne.2 f4
  have g5 : (k == 5) = false := beq_eq_false_iff_ne.2 f5
  have g6 : (k == 6) = false := beq_eq_false_iff_ne.2 f6
  have g7 : (k == 7) = false := beq_eq_false_iff_ne.2 f7
  have HR := Lib.hid hA
  clear f1 f2 f3 f4 f5 f6 f7
  clear hb hb3 hb4 hb5 hb6 hS3 hW hW3 hW4 hW5 hW6 d0 d1 d2 hx hL hM hA1 hAB hA hB hv
  go_enter Try.func31, Try.ntmps31
  go_upto_region 1 with fail
  rw [show ((w.alloc (.cells A 28)).alloc (.cells #[.int .i64 0, .int .i64 0, .int .i64 0, .int .i64 0, .int .i64 0, .int .i64 0, .int .i64 0, .int .i64 0, .int .i64 0, .int .i64 0, .int .i64 0, .int .i64 0, .int .i64 0, .int .i64 0, .int .i64 0, .int .i64 0, .int .i64 0, .int .i64 0, .slice none 0 0] 28)).alloc (.cells #[.int .i64 0, .int .i64 0, .int .i64 0] 59) = W from HW.out]
  go_upto_region 4 with (refine load_l 64 (.tmp 25) rfl _ rfl rfl _ lop ?_)
  rw [HW3.out]
  go_upto_region 5 with (first
    | (refine load_l 28 (.tmp 2) rfl _ rfl rfl (.agg A) la3 ?_)
    | (refine store_new rfl 28 (.tmp 7) (.tmp 27) rfl (w.heap.size + 4) A rfl rfl W3 _ hsz3 19 info_row sA rfl oA ?_; rw [HW4.out]))
  go_upto_region 6 with fail
  rw [HW5.out]
  go_upto_region 7 with fail
  rw [HW6.out]
  go_upto_region 8 with fail
  go_wp2_with (first
    | (refine load_l 28 (.tmp 2) rfl _ rfl rfl (.agg A) lA ?_)
    | (refine load_l 28 (.tmp 7) rfl _ rfl rfl (.agg B) lB ?_)
    | (refine store_res hFine HS3.out rfl (.tmp 4) (.tmp 35) rfl A rfl rfl info_row sA oA ?_; intro u6 hS7 hA7)
    | (refine store_act hFine hS7 hA7 rfl (.tmp 5) (.tmp 36) rfl (actA 5 13 0) rfl rfl info_ract rfl (act_one _ _ _) ?_; intro u7 hS6 hA6 hB6))
  refine bodyPost_ret (results_rows rfl _ _ (w.heap.size + 1) (w.heap.size + 2) 28 59 A (actA 5 13 0) (0, 0) (0, 0) _ _ rfl rfl hA6 hB6 Try.underlying28 rfl (by rw [sA]; exact info_row) Try.underlying59 rfl info_ract) rfl ?_
  exact ⟨by rw [HR.out], hS6.kept⟩

set_option maxRecDepth 100000 in
set_option maxHeartbeats 2000000 in
theorem rstep_3 {w : World} {q : Option Addr} {N c : Nat} {K : List Cl} {v : Value} {L : List Pg.Op} (o : Ow) (hv : Cls w (.slice q N c) K) (hl : K.length ≤ 800000) (hL : Pg.Ops w v L) (i : Nat) (x : Pg.Op) (hpc : o.pc = (i : Int)) (hx : L[i]? = some x) (hk : x.k = 3) :
    Calls Try.prog 31 #[.agg (o.arr q N c), v] w (PostR w q N c (joinO o K)) := by
  have hN : K.length = N := by obtain ⟨p, cap, e⟩ := hv.shape; cases e; rfl
  obtain ⟨p, M, cap, rfl, hM, hmM⟩ := hL.slice
  have hm2 : M ≤ 9223372036854775807 := by unfold maxLen at hmM; omega
  obtain ⟨A, hA⟩ : ∃ A, o.arr q N c = A := ⟨_, rfl⟩
  have sA : A.size = 19 := by rw [← hA]; rfl
  have oA : A.all (·.oneCell') = true := by rw [← hA]; exact arr_one _ _ _ _
  rw [hA]
  obtain ⟨W, hW⟩ : ∃ W, ((w.alloc (.cells A 28)).alloc (.cells zeroA 28)).alloc (.cells zact 59) = W := ⟨_, rfl⟩
  have hb : Bl w W [(A, 28), (zeroA, 28), (zact, 59)] := hW ▸ Bl.three w A _ _ _ _ _
  have hsz : W.heap.size = w.heap.size + 3 := by rw [← hW]; simp
  have c16 : W.cell? ⟨w.heap.size, 16, none⟩ = some (.int .i64 o.pc) := (hb.cell 0 16 rfl).trans (show A[16]? = _ by rw [← hA]; rfl)
  have HW := Lib.hid hW
  have HM := Lib.hid hM
  have hi : i < M := by rw [← HM.out]; exact (List.getElem?_eq_some_iff.1 hx).1
  have hi0 : ¬ (i : Int) < 0 := by omega
  have hi1 : ¬ (M : Int) ≤ (i : Int) := by omega
  have hi2 : (i : Int) < (M : Int) := by omega
  have hpcm : -9223372036854775808 ≤ (i : Int) + 1 ∧ (i : Int) + 1 ≤ 9223372036854775807 := by omega
  obtain ⟨x', b, off, hx', rfl, d0, d1, d2⟩ := (hL.go hb.kept).pick (i := i) (by rw [hM]; exact hi)
  rw [hx] at hx'
  cases hx'
  rw [hpc] at c16
  obtain ⟨k, a, bb⟩ := x
  simp only at hk
  subst hk
  have lop := load_op d0 d1 d2
  simp only at lop
  obtain ⟨W3, hW3⟩ : ∃ W3, W.alloc (.cells #[.int .i64 3, .int .i64 a, .int .i64 bb] 64) = W3 := ⟨_, rfl⟩
  have hsz3 : W3.heap.size = w.heap.size + 4 := by rw [← hW3, World.size_alloc, hsz]
  have hb3 : Bl w W3 [(A, 28), (zeroA, 28), (zact, 59), (#[.int .i64 3, .int .i64 a, .int .i64 bb], 64)] := by rw [← hW3]; exact hb.more hsz _ _
  obtain ⟨W4, hW4⟩ : ∃ W4, W3.alloc (.cells A 28) = W4 := ⟨_, rfl⟩
  have hb4 : Bl w W4 [(A, 28), (zeroA, 28), (zact, 59), (#[.int .i64 3, .int .i64 a, .int .i64 bb], 64), (A, 28)] := by rw [← hW4]; exact hb3.more hsz3 _ _
  obtain ⟨A1, hA1⟩ : ∃ A1, A.setIfInBounds 16 (.int .i64 ((i : Int) + 1)) = A1 := ⟨_, rfl⟩
  obtain ⟨B, hB⟩ : ∃ B, (nextO o).arr q N c = B := ⟨_, rfl⟩
  have hAB : A1.setIfInBounds 17 (.int .i64 0) = B := by rw [← hA1, ← hA, ← hB, ← hpc]; rfl
  have sB : B.size = 19 := by rw [← hB]; rfl
  have oB : B.all (·.oneCell') = true := by rw [← hB]; exact arr_one _ _ _ _
  obtain ⟨W5, hW5⟩ : ∃ W5, W4.setCell ⟨w.heap.size + 4, 16, none⟩ (.int .i64 ((i : Int) + 1)) = W5 := ⟨_, rfl⟩
  have hb5 : Bl w W5 [(A, 28), (zeroA, 28), (zact, 59), (#[.int .i64 3, .int .i64 a, .int .i64 bb], 64), (A1, 28)] := by rw [← hW5, ← hA1]; exact hb4.put 4 16 rfl _
  obtain ⟨W6, hW6⟩ : ∃ W6, W5.setCell ⟨w.heap.size + 4, 17, none⟩ (.int .i64 0) = W6 := ⟨_, rfl⟩
  have hb6 : Bl w W6 [(A, 28), (zeroA, 28), (zact, 59), (#[.int .i64 3, .int .i64 a, .int .i64 bb], 64), (B, 28)] := by rw [← hW6, ← hAB]; exact hb5.put 4 17 rfl _
  have la3 := load_row (hb3.blk 0 rfl) sA
  have x16 : W4.cell? ⟨w.heap.size, 16, none⟩ = some (.int .i64 (i : Int)) := (hb4.cell 0 16 rfl).trans (show A[16]? = _ by rw [← hA, ← hpc]; rfl)
  have y16 : W4.cell? ⟨w.heap.size + 4, 16, none⟩ = some (.int .i64 (i : Int)) := (hb4.cell 4 16 rfl).trans (show A[16]? = _ by rw [← hA, ← hpc]; rfl)
  have z16 : W4.frozen? ⟨w.heap.size + 4, 16, none⟩ = false := hb4.free 4 16 rfl
  have y17 : W5.cell? ⟨w.heap.size + 4, 17, none⟩ = some (.int .i64 o.dn) := (hb5.cell 4 17 rfl).trans (show A1[17]? = _ by rw [← hA1, ← hA]; rfl)
  have z17 : W5.frozen? ⟨w.heap.size + 4, 17, none⟩ = false := hb5.free 4 17 rfl
  have e0 : W6.cell? ⟨w.heap.size + 3, 0, none⟩ = some (.int .i64 3) := hb6.cell 3 0 rfl
  have e1 : W6.cell? ⟨w.heap.size + 3, 1, none⟩ = some (.int .i64 a) := hb6.cell 3 1 rfl
  have e2 : W6.cell? ⟨w.heap.size + 3, 2, none⟩ = some (.int .i64 bb) := hb6.cell 3 2 rfl
  have hFine : Fine w (fun u => u.heap[w.heap.size + 3]? = some (.cells #[.int .i64 3, .int .i64 a, .int .i64 bb] 64 (0, 0)) ∧ u.heap[w.heap.size + 4]? = some (.cells B 28 (0, 0))) := (at_fine (Nat.le_refl _)).and (at_fine (by omega))
  have hSt : Stab (Sp 28 59 w A (fun u => u.heap[w.heap.size + 3]? = some (.cells #[.int .i64 3, .int .i64 a, .int .i64 bb] 64 (0, 0)) ∧ u.heap[w.heap.size + 4]? = some (.cells B 28 (0, 0)))) := sp_stab hFine
  have hS3 : Sp 28 59 w A (fun u => u.heap[w.heap.size + 3]? = some (.cells #[.int .i64 3, .int .i64 a, .int .i64 bb] 64 (0, 0)) ∧ u.heap[w.heap.size + 4]? = some (.cells B 28 (0, 0))) W6 := ⟨hb6.kept, hb6.blk 0 rfl, ⟨_, hb6.blk 1 rfl, rfl⟩, ⟨_, hb6.blk 2 rfl, rfl⟩, hb6.blk 3 rfl, hb6.blk 4 rfl⟩
  have lA := load_row hS3.own sA
  have lB := load_row hS3.mem.2 sB
  have HS3 := Lib.hid hS3
  have HW3 := Lib.hid hW3
  have HW4 := Lib.hid hW4
  have HW5 := Lib.hid hW5
  have HW6 := Lib.hid hW6
  have HB6 := Lib.hid hb6
  have HSZ := Lib.hid (And.intro hsz hsz3)
  have C1 := Lib.hid (fun (u : World) (hu : Kept w u) => ropen_any o (hv.go hu))
  have C2 := Lib.hid (fun (u : World) (hu : Kept w u) => rworst_any o (hv.go hu))
  obtain ⟨z, hz⟩ : ∃ z, openL K = z := ⟨_, rfl⟩
  obtain ⟨y, hy⟩ : ∃ y, worstL K = y := ⟨_, rfl⟩
  rw [hz, hA] at C1
  rw [hy, hA] at C2
  have HR := Lib.hid (And.intro hA hB)
  have HZ := Lib.hid (And.intro hz hy)
  clear hz hy
  clear hb hb3 hb4 hb5 hb6 hS3 hW hW3 hW4 hW5 hW6 d0 d1 d2 hx hL hM hA1 hAB hA hB hv
  go_enter Try.func31, Try.ntmps31
  go_upto_region 1 with fail
  rw [show ((w.alloc (.cells A 28)).alloc (.cells #[.int .i64 0, .int .i64 0, .int .i64 0, .int .i64 0, .int .i64 0, .int .i64 0, .int .i64 0, .int .i64 0, .int .i64 0, .int .i64 0, .int .i64 0, .int .i64 0, .int .i64 0, .int .i64 0, .int .i64 0, .int .i64 0, .int .i64 0, .int .i64 0, .slice none 0 0] 28)).alloc (.cells #[.int .i64 0, .int .i64 0, .int .i64 0] 59) = W from HW.out]
  go_upto_region 4 with (refine load_l 64 (.tmp 25) rfl _ rfl rfl _ lop ?_)
  rw [HW3.out]
  go_upto_region 5 with (first
    | (refine load_l 28 (.tmp 2) rfl _ rfl rfl (.agg A) la3 ?_)
    | (refine store_new rfl 28 (.tmp 7) (.tmp 27) rfl (w.heap.size + 4) A rfl rfl W3 _ hsz3 19 info_row sA rfl oA ?_; rw [HW4.out]))
  go_upto_region 6 with fail
  rw [HW5.out]
  go_upto_region 7 with fail
  rw [HW6.out]
  go_upto_region 17 with fail
  by_cases ho : 0 < z
  · have HJ := Lib.hid (join_open (o := o) (by rw [HZ.out.1]; exact ho) : joinO o K = _)
    go_wp2_with (first
      | (refine load_l 28 (.tmp 2) rfl _ rfl rfl (.agg A) lA ?_)
      | (refine load_l 28 (.tmp 7) rfl _ rfl rfl (.agg B) lB ?_)
      | (go_at_call 15; refine (C1.out _ HS3.out.kept).mono ?_; rintro e w4 ⟨rfl, k4⟩; have hS5 := HS3.out.go hFine k4; replace lA := load_row hS5.own sA)
      | (refine store_res hFine hS5 rfl (.tmp 4) (.tmp 65) rfl A rfl rfl info_row sA oA ?_; intro u6 hS7 hA7)
      | (refine store_act hFine hS7 hA7 rfl (.tmp 5) (.tmp 66) rfl (actA 1 0 0) rfl rfl info_ract rfl (act_one _ _ _) ?_; intro u7 hS6 hA6 hB6))
    refine bodyPost_ret (results_rows rfl _ _ (w.heap.size + 1) (w.heap.size + 2) 28 59 A (actA 1 0 0) (0, 0) (0, 0) _ _ rfl rfl hA6 hB6 Try.underlying28 rfl (by rw [sA]; exact info_row) Try.underlying59 rfl info_ract) rfl ?_
    exact ⟨by rw [HJ.out, HR.out.1], hS6.kept⟩
  · by_cases hw0 : y = 0
    · have HJ := Lib.hid (join_on (o := o) (by rw [HZ.out.1]; exact ho) (by rw [HZ.out.2]; exact hw0) : joinO o K = _)
      clear HZ
      subst hw0
      go_wp2_with (first
        | (refine load_l 28 (.tmp 2) rfl _ rfl rfl (.agg A) lA ?_)
        | (refine load_l 28 (.tmp 7) rfl _ rfl rfl (.agg B) lB ?_)
        | (go_at_call 15; refine (C1.out _ HS3.out.kept).mono ?_; rintro e w4 ⟨rfl, k4⟩; have hS4 := HS3.out.go hFine k4; replace lA := load_row hS4.own sA)
        | (go_at_call 17; refine (C2.out _ hS4.kept).mono ?_; rintro e w5 ⟨rfl, k5⟩; have hS5 := hS4.go hFine k5; replace lB := load_row hS5.mem.2 sB)
        | (refine store_res hFine hS5 rfl (.tmp 4) (.tmp 74) rfl B rfl rfl info_row sB oB ?_; intro u6 hS7 hA7)
        | (refine store_act hFine hS7 hA7 rfl (.tmp 5) (.tmp 75) rfl (actA 0 0 0) rfl rfl info_ract rfl (act_one _ _ _) ?_; intro u7 hS6 hA6 hB6))
      refine bodyPost_ret (results_rows rfl _ _ (w.heap.size + 1) (w.heap.size + 2) 28 59 B (actA 0 0 0) (0, 0) (0, 0) _ _ rfl rfl hA6 hB6 Try.underlying28 rfl (by rw [sB]; exact info_row) Try.underlying59 rfl info_ract) rfl ?_
      exact ⟨by rw [HJ.out, HR.out.2], hS6.kept⟩
    · have HJ0 := join_bad (o := o) (K := K) (by rw [HZ.out.1]; exact ho) (by rw [HZ.out.2]; exact hw0)
      rw [HZ.out.2] at HJ0
      have HJ := Lib.hid HJ0
      have hyb : (y != 0) = true := bne_iff_ne.2 hw0
      clear HJ0
      go_upto_region 20 with (first
        | (refine load_l 28 (.tmp 2) rfl _ rfl rfl (.agg A) lA ?_)
        | (go_at_call 15; refine (C1.out _ HS3.out.kept).mono ?_; rintro e w4 ⟨rfl, k4⟩; have hS4 := HS3.out.go hFine k4; replace lA := load_row hS4.own sA)
        | (go_at_call 17; refine (C2.out _ hS4.kept).mono ?_; rintro e w5 ⟨rfl, k5⟩; have hS5 := hS4.go hFine k5))
      refine Au.region (Sp 28 59 w A (fun u => u.heap[w.heap.size + 3]? = some (.cells #[.int .i64 3, .int .i64 a, .int .i64 bb] 64 (0, 0)) ∧ u.heap[w.heap.size + 4]? = some (.cells B 28 (0, 0)))) (by kernel_rfl) (hS5.go hFine (Kept.refl _).drew) ?_
      refine Au.take 0 (some 70) rfl rfl (by kernel_rfl) (by kernel_rfl) (by kernel_rfl) (fun _ _ _ h => h) hSt (Au.yq_load 28 (.tmp 2) rfl _ rfl (by rfl) (fun u hu => load_row hu.own sA)) ?_
      simp only [Act.put, List.setIfInBounds_toArray, List.set_cons_zero, List.set_cons_succ]
      refine Au.take 1 (some 71) rfl rfl (by kernel_rfl) (by kernel_rfl) (by kernel_rfl) (fun _ _ _ h => h) hSt (Au.yq_load 28 (.tmp 2) rfl _ rfl (by rfl) (fun u hu => load_row hu.own sA)) ?_
      simp only [Act.put, List.setIfInBounds_toArray, List.set_cons_zero, List.set_cons_succ]
      refine Au.take 2 (some 72) rfl rfl (by kernel_rfl) (by kernel_rfl) (by kernel_rfl) (fun _ _ _ h => h) hSt (Au.yq_call 17 _ (by rfl) (fun u => by go_simp) (fun u hu => C2.out u hu.kept)) ?_
      simp only [Act.put, List.setIfInBounds_toArray, List.set_cons_zero, List.set_cons_succ]
      refine Au.take 3 (some 73) (v := ?_) rfl rfl (by kernel_rfl) (by kernel_rfl) (by kernel_rfl) (fun _ _ _ h => h) hSt (Au.yq_run (by rfl) (fun u hu => ?_)) ?_
      rotate_left
      · (clear hu; go_simp; try with_reducible rfl)
      simp only [Act.put, List.setIfInBounds_toArray, List.set_cons_zero, List.set_cons_succ]
      refine Au.store 4 28 (.tmp 4) (.tmp 70) rfl (by kernel_rfl) (by kernel_rfl) rfl rfl (w.heap.size + 1) A rfl rfl 28 (fun u hu => by rw [sA]; exact hu.res) (by rw [sA]; exact info_row) (oA) (At1 28 w A) (at1_stab) hSt (fun u hu => hu.row hFine A sA) (fun u hu => by obtain ⟨xs, h1, _⟩ := hu.res; exact setRow_heap _ _ xs _ _ _ h1) ?_
      refine Au.store 5 59 (.tmp 5) (.tmp 73) rfl (by kernel_rfl) (by kernel_rfl) rfl rfl (w.heap.size + 2) (actA 5 y 0) rfl rfl 59 (fun u hu => hu.1.act) (info_ract) (act_one _ _ _) (At2 59 w (actA 5 y 0)) (at2_stab) (stab_and hSt at1_stab) (fun u hu => ⟨hu.1.row2 hFine (actA 5 y 0) rfl, (setRow_other _ _ _ _ (by omega)).trans hu.2⟩) (fun u hu => by obtain ⟨xs, h1, _⟩ := hu.1.act; exact setRow_heap _ _ xs _ _ _ h1) ?_
      refine Au.done (by kernel_rfl) ?_
      rintro u ⟨⟨hS6, hA6⟩, hB6⟩
      go_wp2_with fail
      refine bodyPost_ret (results_rows rfl _ _ (w.heap.size + 1) (w.heap.size + 2) 28 59 A (actA 5 y 0) (0, 0) (0, 0) _ _ rfl rfl hA6 hB6 Try.underlying28 rfl (by rw [sA]; exact info_row) Try.underlying59 rfl info_ract) rfl ?_
      exact ⟨by rw [HJ.out, HR.out.1], hS6.kept⟩

set_option maxRecDepth 100000 in
set_option maxHeartbeats 2000000 in
theorem rstep_1 {w : World} {q : Option Addr} {N c : Nat} {K : List Cl} {v : Value} {L : List Pg.Op} (o : Ow) (hv : Cls w (.slice q N c) K) (hl : K.length ≤ 800000) (hL : Pg.Ops w v L) (i : Nat) (x : Pg.Op) (hpc : o.pc = (i : Int)) (hx : L[i]? = some x) (hk : x.k = 1) (hdn : 0 ≤ o.dn ∧ o.dn ≤ 2000000) :
    Calls Try.prog 31 #[.agg (o.arr q N c), v] w (PostR w q N c (workO o x.a, actA 0 0 0)) := by
  have hN : K.length = N := by obtain ⟨p, cap, e⟩ := hv.shape; cases e; rfl
  obtain ⟨p, M, cap, rfl, hM, hmM⟩ := hL.slice
  have hm2 : M ≤ 9223372036854775807 := by unfold maxLen at hmM; omega
  obtain ⟨A, hA⟩ : ∃ A, o.arr q N c = A := ⟨_, rfl⟩
  have sA : A.size = 19 := by rw [← hA]; rfl
  have oA : A.all (·.oneCell') = true := by rw [← hA]; exact arr_one _ _ _ _
  rw [hA]
  obtain ⟨W, hW⟩ : ∃ W, ((w.alloc (.cells A 28)).alloc (.cells zeroA 28)).alloc (.cells zact 59) = W := ⟨_, rfl⟩
  have hb : Bl w W [(A, 28), (zeroA, 28), (zact, 59)] := hW ▸ Bl.three w A _ _ _ _ _
  have hsz : W.heap.size = w.heap.size + 3 := by rw [← hW]; simp
  have c16 : W.cell? ⟨w.heap.size, 16, none⟩ = some (.int .i64 o.pc) := (hb.cell 0 16 rfl).trans (show A[16]? = _ by rw [← hA]; rfl)
  have HW := Lib.hid hW
  have HM := Lib.hid hM
  have hi : i < M := by rw [← HM.out]; exact (List.getElem?_eq_some_iff.1 hx).1
  have hi0 : ¬ (i : Int) < 0 := by omega
  have hi1 : ¬ (M : Int) ≤ (i : Int) := by omega
  have hi2 : (i : Int) < (M : Int) := by omega
  have hpcm : -9223372036854775808 ≤ (i : Int) + 1 ∧ (i : Int) + 1 ≤ 9223372036854775807 := by omega
  obtain ⟨x', b, off, hx', rfl, d0, d1, d2⟩ := (hL.go hb.kept).pick (i := i) (by rw [hM]; exact hi)
  rw [hx] at hx'
  cases hx'
  rw [hpc] at c16
  obtain ⟨k, a, bb⟩ := x
  simp only at hk
  subst hk
  have lop := load_op d0 d1 d2
  simp only at lop
  obtain ⟨W3, hW3⟩ : ∃ W3, W.alloc (.cells #[.int .i64 1, .int .i64 a, .int .i64 bb] 64) = W3 := ⟨_, rfl⟩
  have hsz3 : W3.heap.size = w.heap.size + 4 := by rw [← hW3, World.size_alloc, hsz]
  have hb3 : Bl w W3 [(A, 28), (zeroA, 28), (zact, 59), (#[.int .i64 1, .int .i64 a, .int .i64 bb], 64)] := by rw [← hW3]; exact hb.more hsz _ _
  obtain ⟨W4, hW4⟩ : ∃ W4, W3.alloc (.cells A 28) = W4 := ⟨_, rfl⟩
  have hb4 : Bl w W4 [(A, 28), (zeroA, 28), (zact, 59), (#[.int .i64 1, .int .i64 a, .int .i64 bb], 64), (A, 28)] := by rw [← hW4]; exact hb3.more hsz3 _ _
  obtain ⟨A1, hA1⟩ : ∃ A1, A.setIfInBounds 16 (.int .i64 ((i : Int) + 1)) = A1 := ⟨_, rfl⟩
  obtain ⟨B, hB⟩ : ∃ B, (nextO o).arr q N c = B := ⟨_, rfl⟩
  have hAB : A1.setIfInBounds 17 (.int .i64 0) = B := by rw [← hA1, ← hA, ← hB, ← hpc]; rfl
  have sB : B.size = 19 := by rw [← hB]; rfl
  have oB : B.all (·.oneCell') = true := by rw [← hB]; exact arr_one _ _ _ _
  obtain ⟨W5, hW5⟩ : ∃ W5, W4.setCell ⟨w.heap.size + 4, 16, none⟩ (.int .i64 ((i : Int) + 1)) = W5 := ⟨_, rfl⟩
  have hb5 : Bl w W5 [(A, 28), (zeroA, 28), (zact, 59), (#[.int .i64 1, .int .i64 a, .int .i64 bb], 64), (A1, 28)] := by rw [← hW5, ← hA1]; exact hb4.put 4 16 rfl _
  obtain ⟨W6, hW6⟩ : ∃ W6, W5.setCell ⟨w.heap.size + 4, 17, none⟩ (.int .i64 0) = W6 := ⟨_, rfl⟩
  have hb6 : Bl w W6 [(A, 28), (zeroA, 28), (zact, 59), (#[.int .i64 1, .int .i64 a, .int .i64 bb], 64), (B, 28)] := by rw [← hW6, ← hAB]; exact hb5.put 4 17 rfl _
  have la3 := load_row (hb3.blk 0 rfl) sA
  have x16 : W4.cell? ⟨w.heap.size, 16, none⟩ = some (.int .i64 (i : Int)) := (hb4.cell 0 16 rfl).trans (show A[16]? = _ by rw [← hA, ← hpc]; rfl)
  have y16 : W4.cell? ⟨w.heap.size + 4, 16, none⟩ = some (.int .i64 (i : Int)) := (hb4.cell 4 16 rfl).trans (show A[16]? = _ by rw [← hA, ← hpc]; rfl)
  have z16 : W4.frozen? ⟨w.heap.size + 4, 16, none⟩ = false := hb4.free 4 16 rfl
  have y17 : W5.cell? ⟨w.heap.size + 4, 17, none⟩ = some (.int .i64 o.dn) := (hb5.cell 4 17 rfl).trans (show A1[17]? = _ by rw [← hA1, ← hA]; rfl)
  have z17 : W5.frozen? ⟨w.heap.size + 4, 17, none⟩ = false := hb5.free 4 17 rfl
  have e0 : W6.cell? ⟨w.heap.size + 3, 0, none⟩ = some (.int .i64 1) := hb6.cell 3 0 rfl
  have e1 : W6.cell? ⟨w.heap.size + 3, 1, none⟩ = some (.int .i64 a) := hb6.cell 3 1 rfl
  have e2 : W6.cell? ⟨w.heap.size + 3, 2, none⟩ = some (.int .i64 bb) := hb6.cell 3 2 rfl
  have hFine : Fine w (fun u => u.heap[w.heap.size + 3]? = some (.cells #[.int .i64 1, .int .i64 a, .int .i64 bb] 64 (0, 0)) ∧ u.heap[w.heap.size + 4]? = some (.cells B 28 (0, 0))) := (at_fine (Nat.le_refl _)).and (at_fine (by omega))
  have hSt : Stab (Sp 28 59 w A (fun u => u.heap[w.heap.size + 3]? = some (.cells #[.int .i64 1, .int .i64 a, .int .i64 bb] 64 (0, 0)) ∧ u.heap[w.heap.size + 4]? = some (.cells B 28 (0, 0)))) := sp_stab hFine
  have hS3 : Sp 28 59 w A (fun u => u.heap[w.heap.size + 3]? = some (.cells #[.int .i64 1, .int .i64 a, .int .i64 bb] 64 (0, 0)) ∧ u.heap[w.heap.size + 4]? = some (.cells B 28 (0, 0))) W6 := ⟨hb6.kept, hb6.blk 0 rfl, ⟨_, hb6.blk 1 rfl, rfl⟩, ⟨_, hb6.blk 2 rfl, rfl⟩, hb6.blk 3 rfl, hb6.blk 4 rfl⟩
  have lA := load_row hS3.own sA
  have lB := load_row hS3.mem.2 sB
  have HS3 := Lib.hid hS3
  have HW3 := Lib.hid hW3
  have HW4 := Lib.hid hW4
  have HW5 := Lib.hid hW5
  have HW6 := Lib.hid hW6
  have HB6 := Lib.hid hb6
  have HSZ := Lib.hid (And.intro hsz hsz3)
  obtain ⟨E, hE⟩ : ∃ E, ({ o with dn := o.dn + 1 } : Ow).arr q N c = E := ⟨_, rfl⟩
  have sE : E.size = 19 := by rw [← hE]; rfl
  have oE : E.all (·.oneCell') = true := by rw [← hE]; exact arr_one _ _ _ _
  have hAE : A.setIfInBounds 17 (.int .i64 (o.dn + 1)) = E := by rw [← hA, ← hE]; rfl
  obtain ⟨W7, hW7⟩ : ∃ W7, W6.setCell ⟨w.heap.size, 17, none⟩ (.int .i64 (o.dn + 1)) = W7 := ⟨_, rfl⟩
  have hb7 : Bl w W7 [(E, 28), (zeroA, 28), (zact, 59), (#[.int .i64 1, .int .i64 a, .int .i64 bb], 64), (B, 28)] := by rw [← hW7, ← hAE]; exact hb6.put 0 17 rfl _
  have v17 : W6.cell? ⟨w.heap.size, 17, none⟩ = some (.int .i64 o.dn) := (hb6.cell 0 17 rfl).trans (show A[17]? = _ by rw [← hA]; rfl)
  have g17 : W6.frozen? ⟨w.heap.size, 17, none⟩ = false := hb6.free 0 17 rfl
  have t17 : W7.cell? ⟨w.heap.size, 17, none⟩ = some (.int .i64 (o.dn + 1)) := (hb7.cell 0 17 rfl).trans (show E[17]? = _ by rw [← hE]; rfl)
  have s1 : W7.cell? ⟨w.heap.size + 3, 1, none⟩ = some (.int .i64 a) := hb7.cell 3 1 rfl
  have hS7 : Sp 28 59 w E (fun u => u.heap[w.heap.size + 3]? = some (.cells #[.int .i64 1, .int .i64 a, .int .i64 bb] 64 (0, 0)) ∧ u.heap[w.heap.size + 4]? = some (.cells B 28 (0, 0))) W7 := ⟨hb7.kept, hb7.blk 0 rfl, ⟨_, hb7.blk 1 rfl, rfl⟩, ⟨_, hb7.blk 2 rfl, rfl⟩, hb7.blk 3 rfl, hb7.blk 4 rfl⟩
  have lE := load_row hS7.own sE
  replace lB := load_row hS7.mem.2 sB
  have HS7 := Lib.hid hS7
  have HR := Lib.hid (And.intro hB hE)
  obtain ⟨d, hd⟩ : ∃ d, o.dn = d := ⟨_, rfl⟩
  have HDD := Lib.hid hd
  rw [hd] at hdn v17 t17 hW7 y17
  have HW7 := Lib.hid hW7
  clear hb7 hS7 hAE hE hW7 hd
  clear hb hb3 hb4 hb5 hb6 hS3 hW hW3 hW4 hW5 hW6 d0 d1 d2 hx hL hM hA1 hAB hA hB hv
  go_enter Try.func31, Try.ntmps31
  go_upto_region 1 with fail
  rw [show ((w.alloc (.cells A 28)).alloc (.cells #[.int .i64 0, .int .i64 0, .int .i64 0, .int .i64 0, .int .i64 0, .int .i64 0, .int .i64 0, .int .i64 0, .int .i64 0, .int .i64 0, .int .i64 0, .int .i64 0, .int .i64 0, .int .i64 0, .int .i64 0, .int .i64 0, .int .i64 0, .int .i64 0, .slice none 0 0] 28)).alloc (.cells #[.int .i64 0, .int .i64 0, .int .i64 0] 59) = W from HW.out]
  go_upto_region 4 with (refine load_l 64 (.tmp 25) rfl _ rfl rfl _ lop ?_)
  rw [HW3.out]
  go_upto_region 5 with (first
    | (refine load_l 28 (.tmp 2) rfl _ rfl rfl (.agg A) la3 ?_)
    | (refine store_new rfl 28 (.tmp 7) (.tmp 27) rfl (w.heap.size + 4) A rfl rfl W3 _ hsz3 19 info_row sA rfl oA ?_; rw [HW4.out]))
  go_upto_region 6 with fail
  rw [HW5.out]
  go_upto_region 7 with fail
  rw [HW6.out]
  go_upto_region 10 with fail
  go_upto_region 11 with fail
  rw [HW7.out]
  by_cases hu : a ≤ d + 1
  · have HJ := Lib.hid (work_on (o := o) (u := a) (by rw [HDD.out]; exact hu))
    go_wp2_with (first
      | (refine load_l 28 (.tmp 2) rfl _ rfl rfl (.agg E) lE ?_)
      | (refine load_l 28 (.tmp 7) rfl _ rfl rfl (.agg B) lB ?_)
      | (refine store_res hFine HS7.out rfl (.tmp 4) (.tmp 48) rfl B rfl rfl info_row sB oB ?_; intro u6 hS7 hA7)
      | (refine store_act hFine hS7 hA7 rfl (.tmp 5) (.tmp 49) rfl (actA 0 0 0) rfl rfl info_ract rfl (act_one _ _ _) ?_; intro u7 hS6 hA6 hB6))
    refine bodyPost_ret (results_rows rfl _ _ (w.heap.size + 1) (w.heap.size + 2) 28 59 B (actA 0 0 0) (0, 0) (0, 0) _ _ rfl rfl hA6 hB6 Try.underlying28 rfl (by rw [sB]; exact info_row) Try.underlying59 rfl info_ract) rfl ?_
    exact ⟨by rw [HJ.out, HR.out.1], hS6.kept⟩
  · have HJ := Lib.hid (work_not (o := o) (u := a) (by rw [HDD.out]; exact hu))
    go_wp2_with (first
      | (refine load_l 28 (.tmp 2) rfl _ rfl rfl (.agg E) lE ?_)
      | (refine load_l 28 (.tmp 7) rfl _ rfl rfl (.agg B) lB ?_)
      | (refine store_res hFine HS7.out rfl (.tmp 4) (.tmp 50) rfl E rfl rfl info_row sE oE ?_; intro u6 hS7 hA7)
      | (refine store_act hFine hS7 hA7 rfl (.tmp 5) (.tmp 51) rfl (actA 0 0 0) rfl rfl info_ract rfl (act_one _ _ _) ?_; intro u7 hS6 hA6 hB6))
    refine bodyPost_ret (results_rows rfl _ _ (w.heap.size + 1) (w.heap.size + 2) 28 59 E (actA 0 0 0) (0, 0) (0, 0) _ _ rfl rfl hA6 hB6 Try.underlying28 rfl (by rw [sE]; exact info_row) Try.underlying59 rfl info_ract) rfl ?_
    exact ⟨by rw [HJ.out, HR.out.2], hS6.kept⟩

/-- .. to the document -/
theorem rstep_any {w : World} {q : Option Addr} {N c : Nat} {K : List Cl} {v : Value} {L : List Pg.Op} (o : Ow) (hv : Cls w (.slice q N c) K) (hl : K.length ≤ 800000) (hL : Pg.Ops w v L) (hdn : 0 ≤ o.dn ∧ o.dn ≤ 2000000) :
    Calls Try.prog 31 #[.agg (o.arr q N c), v] w (PostR w q N c (stepO o K L)) := by
  by_cases hp : o.pc < 0 ∨ (L.length : Int) ≤ o.pc
  · rw [step_out hp]; exact rstep_o o hv hl hL hp
  · obtain ⟨i, hi⟩ : ∃ i : Nat, o.pc = (i : Int) := ⟨o.pc.toNat, by omega⟩
    obtain ⟨x, hx⟩ : ∃ x, L[i]? = some x := ⟨_, List.getElem?_eq_getElem (by omega)⟩
    rw [step_at hi hx]
    by_cases h1 : x.k = 1
    · rw [if_pos h1]; exact rstep_1 o hv hl hL i x hi hx h1 hdn
    by_cases h2 : x.k = 2
    · rw [if_neg h1, if_pos h2]; exact rstep_2 o hv hl hL i x hi hx h2
    by_cases h3 : x.k = 3
    · rw [if_neg h1, if_neg h2, if_pos h3]; exact rstep_3 o hv hl hL i x hi hx h3
    by_cases h4 : x.k = 4
    · rw [if_neg h1, if_neg h2, if_neg h3, if_pos h4]; exact rstep_4 o hv hl hL i x hi hx h4
    by_cases h5 : x.k = 5
    · rw [if_neg h1, if_neg h2, if_neg h3, if_neg h4, if_pos h5]; exact rstep_5 o hv hl hL i x hi hx h5
    by_cases h6 : x.k = 6
    · rw [if_neg h1, if_neg h2, if_neg h3, if_neg h4, if_neg h5, if_pos h6]; exact rstep_6 o hv hl hL i x hi hx h6
    by_cases h7 : x.k = 7
    · rw [if_neg h1, if_neg h2, if_neg h3, if_neg h4, if_neg h5, if_neg h6, if_pos h7]; exact rstep_7 o hv hl hL i x hi hx h7
    rw [if_neg h1, if_neg h2, if_neg h3, if_neg h4, if_neg h5, if_neg h6, if_neg h7]
    exact rstep_x o hv hl hL i x hi hx ⟨h1, h2, h3, h4, h5, h6, h7⟩

end Go.Proofs.Ytplkhinjlgmilaa.Ow
