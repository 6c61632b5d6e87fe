/- The document's alarms: rows under way; Clear. -/
import Derived.Test.YtckmkagijanbdaaAr
namespace Go.Proofs.Ytckmkagijanbdaa.Al
open Go.RowKit Go.Sort Tk Wh IdM
open St (Kept blk_cell blk_free blk_lt blk_set)
set_option linter.unusedVariables false

/-- a row of the call's own, laid since W -/
def Rg (W : World) (vl : Value) (et : TypeId) (k : Nat) (L : List (List Int)) (wr : World) : Prop := RowI wr vl et k L ∧ Kept W wr ∧ ∀ b, vl.ownBlock = some b → W.heap.size ≤ b
section
variable {W wr wr' w4 : World} {vl v2 vo : Value} {et et2 : TypeId} {k k2 : Nat} {L L2 : List (List Int)} {l : List Int}
theorem rg_nil (W : World) (et : TypeId) (k : Nat) (h : Kept W wr) : Rg W (.slice none 0 0) et k [] wr := ⟨rowi_nil _ _ _, h, fun b e => by cases e⟩
theorem Rg.keep (h : Rg W vl et k L wr) (hk : Kept wr wr') : Rg W vl et k L wr' := ⟨h.1.keep hk, h.2.1.trans hk, h.2.2⟩
theorem Rg.app (h : Rg W vl et k L wr) {o : Obj} (hr : RowI w4 v2 et k (L ++ [l])) (hg : (wr.alloc o).grownBy w4 vl.ownBlock) (hb : v2.ownBlock = vl.ownBlock ∨ ∃ b, v2.ownBlock = some b ∧ wr.heap.size ≤ b) : Rg W v2 et k (L ++ [l]) w4 := by
  refine ⟨hr, (h.2.1.more o).grown hg (h.2.1.more o).size (fun j e => h.2.2 j e), fun b e => ?_⟩
  rcases hb with c | ⟨b', c, d⟩
  · rw [c] at e; exact h.2.2 b e
  · rw [c] at e; obtain rfl := Option.some.inj e; have := h.2.1.size; omega
/-- another row grows -/
theorem Rg.other (h : Rg W vl et k L wr) (h2 : Rg W vo et2 k2 L2 wr) (hne : et ≠ et2) {o : Obj} (hg : (wr.alloc o).grownBy w4 vo.ownBlock) : Rg W vl et k L w4 := by
  have ht : ∀ b, vl.ownBlock = some b → vo.ownBlock ≠ some b := fun b e1 e2 => by
    rcases h.1.1.2 with ⟨c, _⟩ | ⟨b1, cap, cur, c, _, hb, _⟩
    · rw [c] at e1; cases e1
    · rcases h2.1.1.2 with ⟨d, _⟩ | ⟨b2, cap2, cur2, d, _, hb2, _⟩
      · rw [d] at e2; cases e2
      · rw [c] at e1; rw [d] at e2
        obtain rfl : b1 = b := by simpa [Value.ownBlock] using e1
        obtain rfl : b2 = b1 := by simpa [Value.ownBlock] using e2
        rw [hb] at hb2
        simp at hb2
        exact hne hb2.2
  refine ⟨h.1.kept fun b e => ?_, (h.2.1.more o).grown hg (h.2.1.more o).size (fun j e => h2.2.2 j e), h.2.2⟩
  have hl := h.1.lt e
  rw [hg.block b (by simp; omega) (fun c => ht b e c.symm), Below.heap_alloc _ _ _ hl]
end

section
variable {w W wr : World} {S : Nat → Prop} {R : Nat} {g now : Int} {A A' : List (Nm × Int)} {vL vl : Value}
/-- the list that was laid is put in -/
theorem RIs.put (h : RIs w S R g now A vL) (hk : Kept w W) (hr : Rg W vl 45 6 (A'.map e6) wr) (ho : A'.Pairwise ltA) (hok : ∀ x c, (x, c) ∈ A' → okN x ∧ 0 ≤ c ∧ c ≤ 1125899906842624) (hl : A'.length ≤ 4096) :
    Rent w S R g now A' (wr.setCell ⟨R, 0, none⟩ vl) := by
  have kw := hk.trans hr.2.1
  refine ⟨_, vl, (h.kept kw).setL hr.1 ho hok hl, fun k c => c.imp id (fun e => ?_), (Fr.kept kw).setCell (Or.inl h.sR) _⟩
  have := hr.2.2 k e
  have := hk.size
  omega
theorem Rent.then {w' w'' : World} {now' : Int} {vL : Value} (h : Rent w S R g now A w') (k : ∀ S' vL, RIs w' S' R g now A vL → Rent w' S' R g now' A' w'') : Rent w S R g now' A' w'' := by
  obtain ⟨S1, v1, h1, h2, h3⟩ := h
  obtain ⟨S2, v2, k1, k2, k3⟩ := k S1 v1 h1
  exact ⟨S2, v2, k1, fun i c => (k2 i c).elim (h2 i) (fun c => Or.inr (Nat.le_trans h3.size c)), h3.trans k3 h2⟩
end

theorem drop_take {A : List (Nm × Int)} {x : Nm} {j : Nat} {e : Nm × Int} (he : A[j]? = some e) : drop x (A.take (j + 1)) = drop x (A.take j) ++ (if e.1 = x then [] else [e]) := by
  unfold drop
  rw [List.take_add_one, he, List.filter_append]
  congr 1
  by_cases c : e.1 = x
  · simp [c]
  · simp [c]

section
variable {w w' : World} {S : Nat → Prop} {R : Nat} {g now : Int} {A : List (Nm × Int)} {vL : Value} {n i s a k : Int}
set_option maxHeartbeats 1600000 in
set_option maxRecDepth 100000 in
theorem rclear_any (h : RIs w S R g now A vL) :
    Calls Try.prog 26 #[.pointer (some ⟨R, 0, none⟩), .agg #[.int .i64 n, .int .i64 i, .int .i64 s, .int .i64 a, .int .i64 k]] w fun e w' =>
      e = .returned (.bool (timA ⟨n, i, s, a, k⟩ A).isSome) ∧ Rent w S R g now (drop ⟨n, i, s, a, k⟩ A) w' := by
  obtain ⟨W, hW⟩ : ∃ W, w.alloc (.cells #[.int .i64 n, .int .i64 i, .int .i64 s, .int .i64 a, .int .i64 k] 33) = W := ⟨_, rfl⟩
  have k0 : Kept w W := by rw [← hW]; exact Kept.one _ _
  have b0 : W.heap[w.heap.size]? = some (.cells #[.int .i64 n, .int .i64 i, .int .i64 s, .int .i64 a, .int .i64 k] 33 (0, 0)) := by rw [← hW]; exact St.blk_new _ _
  have HI := Lib.hid h
  have CT := Lib.hid (rtime_any (h.kept k0) (n := n) (i := i) (s := s) (a := a) (k := k))
  have hlenL := h.lenL
  have HW := Lib.hid hW
  have HB := Lib.hid b0
  have HK := Lib.hid k0
  have hAl := h.len
  have x0 : W.cell? ⟨w.heap.size, 0, none⟩ = some (.int .i64 n) := by rw [blk_cell b0]; rfl
  have x1 : W.cell? ⟨w.heap.size, 1, none⟩ = some (.int .i64 i) := by rw [blk_cell b0]; rfl
  have x2 : W.cell? ⟨w.heap.size, 2, none⟩ = some (.int .i64 s) := by rw [blk_cell b0]; rfl
  have x3 : W.cell? ⟨w.heap.size, 3, none⟩ = some (.int .i64 a) := by rw [blk_cell b0]; rfl
  have x4 : W.cell? ⟨w.heap.size, 4, none⟩ = some (.int .i64 k) := by rw [blk_cell b0]; rfl
  obtain ⟨tv, htv⟩ : ∃ t, timA ⟨n, i, s, a, k⟩ A = t := ⟨_, rfl⟩
  rw [htv] at CT
  rw [htv]
  clear h hW b0 k0 htv
  go_enter Try.func26, Try.ntmps26
  go_wp2_with fail
  rw [HW.out]
  go_wp2_with (go_at_call 29; refine CT.out.mono ?_; rintro e w1 ⟨rfl, hk1⟩)
  have HK1 := Lib.hid (HK.out.trans hk1)
  have HB1 := Lib.hid ((hk1.block _ (blk_lt HB.out)).trans HB.out)
  clear hk1 x0 x1 x2 x3 x4 CT
  go_loopw [8, 7] (fun iv vl wr => ∃ j : Nat, j ≤ A.length ∧ iv = .int .i64 (j : Int) ∧ Rg w1 vl 45 6 ((drop ⟨n, i, s, a, k⟩ (A.take j)).map e6) wr) (fun iv _ _ => A.length - (intOf iv).toNat)
  case atStart => exact ⟨0, Nat.zero_le _, rfl, rg_nil _ _ _ (Kept.refl _)⟩
  case round =>
    obtain ⟨j, hj, rfl, hr⟩ := hrel
    have hk := hr.2.1
    have H1 := HI.out.kept (HK1.out.trans hk)
    have c0 := H1.c0
    by_cases hlt : j < A.length
    · obtain ⟨⟨y, c⟩, hy⟩ : ∃ e, A[j]? = some e := ⟨_, List.getElem?_eq_getElem hlt⟩
      have hdt := drop_take (x := ⟨n, i, s, a, k⟩) hy
      obtain ⟨yn, yi, ys, ya, yk⟩ := y
      obtain ⟨b, cap, hv, hcap, hbl, p0, p1, p2, p3, p4, p5⟩ := H1.at hy
      have hcap2 : (A.length : Int) ≤ (cap : Int) := by omega
      have hj0 : (0 : Int) ≤ (j : Int) := by omega
      have hjl : (j : Int) < (A.length : Int) := by omega
      have bb := (hk.block _ (blk_lt HB1.out)).trans HB1.out
      have x0 : wr.cell? ⟨w.heap.size, 0, none⟩ = some (.int .i64 n) := by rw [blk_cell bb]; rfl
      have x1 : wr.cell? ⟨w.heap.size, 1, none⟩ = some (.int .i64 i) := by rw [blk_cell bb]; rfl
      have x2 : wr.cell? ⟨w.heap.size, 2, none⟩ = some (.int .i64 s) := by rw [blk_cell bb]; rfl
      have x3 : wr.cell? ⟨w.heap.size, 3, none⟩ = some (.int .i64 a) := by rw [blk_cell bb]; rfl
      have x4 : wr.cell? ⟨w.heap.size, 4, none⟩ = some (.int .i64 k) := by rw [blk_cell bb]; rfl
      have hdl : ((drop ⟨n, i, s, a, k⟩ (A.take j)).map e6).length ≤ 900000 := by
        rw [List.length_map]
        have h1 : (drop ⟨n, i, s, a, k⟩ (A.take j)).length ≤ (A.take j).length := List.length_filter_le _ _
        rw [List.length_take] at h1; omega
      have HR := Lib.hid hr
      clear bb H1 hbl hcap hk hr hy
      subst hv
      by_cases hyx : (⟨yn, yi, ys, ya, yk⟩ : Nm) = ⟨n, i, s, a, k⟩
      · have he2 : ∀ w, (binOp .neq 33 (.agg #[.int .i64 yn, .int .i64 yi, .int .i64 ys, .int .i64 ya, .int .i64 yk]) (.agg #[.int .i64 n, .int .i64 i, .int .i64 s, .int .i64 a, .int .i64 k])).run Try.prog w = .ok (.bool false) w := fun w => by rw [neq33, decide_eq_true hyx]; rfl
        rw [if_pos hyx, List.append_nil] at hdt
        have HD := Lib.hid hdt
        clear hyx hdt
        go_wp2_with fail
        go_quiet (fail)
        go_wp2_with fail
        go_roundw
        case rel => exact ⟨j + 1, hlt, by go_num, by rw [HD.out]; exact HR.out.keep ((Kept.refl _).drewN _)⟩
        case measure => simp [intOf]; omega
      · have he2 : ∀ w, (binOp .neq 33 (.agg #[.int .i64 yn, .int .i64 yi, .int .i64 ys, .int .i64 ya, .int .i64 yk]) (.agg #[.int .i64 n, .int .i64 i, .int .i64 s, .int .i64 a, .int .i64 k])).run Try.prog w = .ok (.bool true) w := fun w => by rw [neq33, decide_eq_false hyx]; rfl
        rw [if_neg hyx] at hdt
        have HD := Lib.hid hdt
        have HR2 : ∀ m, Rg w1 _ 45 6 _ (wr.drewN m) := fun m => HR.out.keep ((Kept.refl _).drewN m)
        have HR2 := Lib.hid HR2
        clear hyx hdt
        go_wp2_with fail
        go_quiet (fail)
        go_wp2_with (at_builtin; refine wpList_append_onei rowA _ rfl (.tmp 34) (.tmp 42) rfl _ _ [yn, yi, ys, ya, yk, c] rfl rfl (HR2.out _).1 rfl hdl ?_; intro v3 w4 hr3 hg3 hb3)
        have HX := Lib.hid ((HR2.out _).app hr3 hg3 hb3)
        clear hr3 hg3 hb3
        go_roundw
        case rel => exact ⟨j + 1, hlt, by go_num, by rw [HD.out, List.map_append]; exact HX.out⟩
        case measure => simp [intOf]; omega
    · have hje : j = A.length := by omega
      subst hje
      rw [List.take_length] at hr
      have hf := H1.free 0
      obtain ⟨p, m, cc, hsh⟩ := hr.1.shape
      have FIN := Lib.hid (HI.out.put HK1.out hr (HI.out.ord.filter _) (fun x c hm => HI.out.ok x c (mem_drop.1 hm).1) (Nat.le_trans (List.length_filter_le _ _) hAl))
      clear hlt H1 hr hk
      subst hsh
      go_wp2_with fail
      go_ret
      exact ⟨rfl, FIN.out⟩
end

end Go.Proofs.Ytckmkagijanbdaa.Al
