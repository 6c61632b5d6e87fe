/- Package owner: on it goes; one more unit is done; what an owner does that waits for its calls. -/
import Derived.Test.YtplkhinjlgmilaaOw8
import Derived.Test.YtplkhinjlgmilaaRw
namespace Go.Proofs.Ytplkhinjlgmilaa.Ow
open Go.RowKit Go.Sort Go.Shelf St Blk Eqs
open Go.Proofs.Ytplkhinjlgmilaa.Cl
open Go.Proofs.Ytplkhinjlgmilaa.Ls
open Go.Proofs.Ytplkhinjlgmilaa.Rv
open Go.Proofs.Ytplkhinjlgmilaa.Id (quiet_at)
open Go.Proofs.Ytplkhinjlgmilaa.Ad (load_w load_l store_new)
set_option linter.unusedVariables false

def nextO (o : Ow) : Ow := { o with pc := o.pc + 1, dn := 0 }
def workO (o : Ow) (u : Int) : Ow := if u ≤ o.dn + 1 then nextO o else { o with dn := o.dn + 1 }
/-- what is done next -/
def actA (k a b : Int) : Array Value := #[.int .i64 k, .int .i64 a, .int .i64 b]
theorem act_one (k a b : Int) : (actA k a b).all (·.oneCell') = true := by kernel_rfl
theorem info_act : (Try.prog.info? 56).map (·.size) = some 3 := by kernel_rfl
theorem info_ract : (Try.prog.info? 59).map (·.size) = some 3 := by kernel_rfl
theorem work_on {o : Ow} {u : Int} (h : u ≤ o.dn + 1) : workO o u = nextO o := by unfold workO; rw [if_pos h]
theorem work_not {o : Ow} {u : Int} (h : ¬ u ≤ o.dn + 1) : workO o u = { o with dn := o.dn + 1 } := by unfold workO; rw [if_neg h]
theorem set_next (o : Ow) (q : Option Addr) (n c : Nat) : ((o.arr q n c).setIfInBounds 16 (.int .i64 (o.pc + 1))).setIfInBounds 17 (.int .i64 0) = (nextO o).arr q n c := rfl
theorem set_done (o : Ow) (q : Option Addr) (n c : Nat) : (o.arr q n c).setIfInBounds 17 (.int .i64 (o.dn + 1)) = ({ o with dn := o.dn + 1 } : Ow).arr q n c := rfl

set_option maxRecDepth 100000 in
set_option maxHeartbeats 1000000 in
theorem next_any (o : Ow) (h0 : 0 ≤ o.pc) (h1 : o.pc < 9223372036854775807) (q : Option Addr) (n c : Nat) (w : World) :
    Calls Try.prog 48 #[.agg (o.arr q n c)] w fun e w' => e = .returned (.agg ((nextO o).arr q n c)) ∧ Kept w w' := by
  obtain ⟨A, hA⟩ : ∃ A, o.arr q n c = A := ⟨_, rfl⟩
  obtain ⟨B, hB⟩ : ∃ B, (nextO o).arr q n c = B := ⟨_, rfl⟩
  obtain ⟨A1, hA1⟩ : ∃ A1, A.setIfInBounds 16 (.int .i64 (o.pc + 1)) = A1 := ⟨_, rfl⟩
  have hAB : A1.setIfInBounds 17 (.int .i64 0) = B := by rw [← hA1, ← hA, ← hB]; rfl
  have sB : B.size = 19 := by rw [← hB]; rfl
  have oB : B.all (·.oneCell') = true := by rw [← hB]; exact arr_one _ _ _ _
  have c16 : A[16]? = some (.int .i64 o.pc) := by rw [← hA]; rfl
  have c17 : A1[17]? = some (.int .i64 o.dn) := by rw [← hA1, ← hA]; rfl
  rw [hA, hB]
  obtain ⟨W, hW⟩ : ∃ W, (w.alloc (.cells A 34)).alloc (.cells zeroA 34) = W := ⟨_, rfl⟩
  have hb : Bl w W [(A, 34), (zeroA, 34)] := hW ▸ Bl.two w A _ _ _
  have h16 : W.cell? ⟨w.heap.size, 16, none⟩ = some (.int .i64 o.pc) := (hb.cell 0 16 rfl).trans c16
  have hf : W.frozen? ⟨w.heap.size, 16, none⟩ = false := hb.free 0 16 rfl
  obtain ⟨W2, hW2⟩ : ∃ W2, W.setCell ⟨w.heap.size, 16, none⟩ (.int .i64 (o.pc + 1)) = W2 := ⟨_, rfl⟩
  have hb2 : Bl w W2 [(A1, 34), (zeroA, 34)] := by rw [← hW2, ← hA1]; exact hb.put 0 16 rfl _
  have h17 : W2.cell? ⟨w.heap.size, 17, none⟩ = some (.int .i64 o.dn) := (hb2.cell 0 17 rfl).trans c17
  have hf2 : W2.frozen? ⟨w.heap.size, 17, none⟩ = false := hb2.free 0 17 rfl
  obtain ⟨W3, hW3⟩ : ∃ W3, W2.setCell ⟨w.heap.size, 17, none⟩ (.int .i64 0) = W3 := ⟨_, rfl⟩
  have hb3 : Bl w W3 [(B, 34), (zeroA, 34)] := by rw [← hW3, ← hAB]; exact hb2.put 0 17 rfl _
  have l3 := load_ow (hb3.blk 0 rfl) sB
  have HW := Lib.hid hW
  have HW2 := Lib.hid hW2
  have HW3 := Lib.hid hW3
  have HB3 := Lib.hid hb3
  obtain ⟨x, hx⟩ : ∃ x, o.pc = x := ⟨_, rfl⟩
  rw [hx] at h0 h1 h16 HW2
  clear hb hb2 hb3 hW hW2 hW3 hA hB hA1 hAB c16 c17 hx
  go_enter Try.func48, Try.ntmps48
  go_upto_region 1 with fail
  rw [show (w.alloc (.cells A 34)).alloc (.cells #[.int .i64 0, .int .i64 0, .int .i64 0, .int .i64 0, .int .i64 0, .int .i64 0, .int .i64 0, .int .i64 0, .int .i64 0, .int .i64 0, .int .i64 0, .int .i64 0, .int .i64 0, .int .i64 0, .int .i64 0, .int .i64 0, .int .i64 0, .int .i64 0, .slice none 0 0] 34) = W from HW.out]
  go_upto_region 2 with fail
  rw [HW2.out]
  go_upto_region 3 with fail
  rw [HW3.out]
  go_wp2_with (first
    | (refine load_l 34 (.tmp 1) rfl _ rfl rfl (.agg B) l3 ?_)
    | (refine wpList_store_row rfl 34 (.tmp 2) (.tmp 8) rfl (w.heap.size + 1) B rfl rfl 34 zeroA (HB3.out.blk 1 rfl) (by rw [sB]; exact info_ow) (by rw [sB]; rfl) oB ?_))
  have hb6 := HB3.out.row 1 rfl B
  refine bodyPost_ret (results_cell_row rfl _ _ (w.heap.size + 1) 34 B (0, 0) _ rfl (hb6.blk 1 rfl) Try.underlying34 rfl (by rw [sB]; exact info_ow)) rfl ?_
  exact ⟨rfl, hb6.kept⟩

set_option maxRecDepth 100000 in
set_option maxHeartbeats 1000000 in
theorem worked_any (o : Ow) (u : Int) (h0 : 0 ≤ o.pc) (h1 : o.pc < 9223372036854775807) (h2 : 0 ≤ o.dn) (h3 : o.dn ≤ 2000000) (q : Option Addr) (n c : Nat) (w : World) :
    Calls Try.prog 47 #[.agg (o.arr q n c), .int .i64 u] w fun e w' => e = .returned (.agg ((workO o u).arr q n c)) ∧ Kept w w' := by
  have C := Lib.hid (next_any o h0 h1 q n c)
  obtain ⟨A, hA⟩ : ∃ A, o.arr q n c = A := ⟨_, rfl⟩
  obtain ⟨B, hB⟩ : ∃ B, (workO o u).arr q n c = B := ⟨_, rfl⟩
  have sA : A.size = 19 := by rw [← hA]; rfl
  have sB : B.size = 19 := by rw [← hB]; rfl
  have oB : B.all (·.oneCell') = true := by rw [← hB]; exact arr_one _ _ _ _
  have c17 : A[17]? = some (.int .i64 o.dn) := by rw [← hA]; rfl
  rw [hA, hB]
  obtain ⟨W, hW⟩ : ∃ W, (w.alloc (.cells A 34)).alloc (.cells zeroA 34) = W := ⟨_, rfl⟩
  have hb : Bl w W [(A, 34), (zeroA, 34)] := hW ▸ Bl.two w A _ _ _
  have h17 : W.cell? ⟨w.heap.size, 17, none⟩ = some (.int .i64 o.dn) := (hb.cell 0 17 rfl).trans c17
  have la := load_ow (hb.blk 0 rfl) sA
  have HW := Lib.hid hW
  by_cases hu : u ≤ o.dn + 1
  · rw [work_on hu] at hB
    rw [hA, hB] at C
    have HB := Lib.hid hb
    have hlast : ¬ ((u ≤ o.dn) ∨ (u ≤ o.dn + 1)) → False := fun h => h (.inr hu)
    obtain ⟨x, hx⟩ : ∃ x, o.dn = x := ⟨_, rfl⟩
    rw [hx] at h2 h3 h17 hu
    clear hb hW hA hB c17 hx hlast
    go_enter Try.func47, Try.ntmps47
    go_upto_region 1 with fail
    rw [show (w.alloc (.cells A 34)).alloc (.cells #[.int .i64 0, .int .i64 0, .int .i64 0, .int .i64 0, .int .i64 0, .int .i64 0, .int .i64 0, .int .i64 0, .int .i64 0, .int .i64 0, .int .i64 0, .int .i64 0, .int .i64 0, .int .i64 0, .int .i64 0, .int .i64 0, .int .i64 0, .int .i64 0, .slice none 0 0] 34) = W from HW.out]
    by_cases hd : u ≤ x
    all_goals
      go_wp2_with (first
        | (refine load_l 34 (.tmp 2) rfl _ rfl rfl (.agg A) la ?_)
        | (go_at_call 48; refine (C.out _).mono ?_; rintro e w1 ⟨rfl, k1⟩)
        | (refine wpList_store_row rfl 34 (.tmp 4) (.tmp 17) rfl (w.heap.size + 1) B rfl rfl 34 zeroA ((HB.out.go k1).blk 1 rfl) (by rw [sB]; exact info_ow) (by rw [sB]; rfl) oB ?_))
      have hb6 := (HB.out.go k1).row 1 rfl B
      refine bodyPost_ret (results_cell_row rfl _ _ (w.heap.size + 1) 34 B (0, 0) _ rfl (hb6.blk 1 rfl) Try.underlying34 rfl (by rw [sB]; exact info_ow)) rfl ?_
      exact ⟨rfl, hb6.kept⟩
  · rw [work_not hu] at hB
    have hAB : A.setIfInBounds 17 (.int .i64 (o.dn + 1)) = B := by rw [← hA, ← hB]; rfl
    have hf : W.frozen? ⟨w.heap.size, 17, none⟩ = false := hb.free 0 17 rfl
    obtain ⟨W2, hW2⟩ : ∃ W2, W.setCell ⟨w.heap.size, 17, none⟩ (.int .i64 (o.dn + 1)) = W2 := ⟨_, rfl⟩
    have hb2 : Bl w W2 [(B, 34), (zeroA, 34)] := by rw [← hW2, ← hAB]; exact hb.put 0 17 rfl _
    have l2 := load_ow (hb2.blk 0 rfl) sB
    have HW2 := Lib.hid hW2
    have HB2 := Lib.hid hb2
    obtain ⟨x, hx⟩ : ∃ x, o.dn = x := ⟨_, rfl⟩
    rw [hx] at h2 h3 h17 hu HW2
    have hd : ¬ u ≤ x := by omega
    clear hb hb2 hW hW2 hA hB hAB c17 hx
    go_enter Try.func47, Try.ntmps47
    go_upto_region 1 with fail
    rw [show (w.alloc (.cells A 34)).alloc (.cells #[.int .i64 0, .int .i64 0, .int .i64 0, .int .i64 0, .int .i64 0, .int .i64 0, .int .i64 0, .int .i64 0, .int .i64 0, .int .i64 0, .int .i64 0, .int .i64 0, .int .i64 0, .int .i64 0, .int .i64 0, .int .i64 0, .int .i64 0, .int .i64 0, .slice none 0 0] 34) = W from HW.out]
    go_upto_region 4 with fail
    rw [HW2.out]
    go_wp2_with (first
      | (refine load_l 34 (.tmp 2) rfl _ rfl rfl (.agg B) l2 ?_)
      | (refine wpList_store_row rfl 34 (.tmp 4) (.tmp 22) rfl (w.heap.size + 1) B rfl rfl 34 zeroA (HB2.out.blk 1 rfl) (by rw [sB]; exact info_ow) (by rw [sB]; rfl) oB ?_))
    have hb6 := HB2.out.row 1 rfl B
    refine bodyPost_ret (results_cell_row rfl _ _ (w.heap.size + 1) 34 B (0, 0) _ rfl (hb6.blk 1 rfl) Try.underlying34 rfl (by rw [sB]; exact info_ow)) rfl ?_
    exact ⟨rfl, hb6.kept⟩

end Go.Proofs.Ytplkhinjlgmilaa.Ow
