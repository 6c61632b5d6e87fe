/- Programs: the shapes of steps, a step as text; the document's Verb and Numbers. -/
import Derived.Test.YtcoagmkncjonmaaGreatDoorPg
import Derived.Test.YtcoagmkncjonmaaGreatDoorIt
import Derived.Laws.Rows
import Derived.Great.BuildSlice
import Derived.BigRegion
import Derived.Deep.RegionWith
import Derived.Deep.RegionHeld3
import Derived.StillTailTactics
import Derived.Test.YtcoagmkncjonmaaGreatDoorAu
namespace Go.Proofs.YtcoagmkncjonmaaGreatDoor.Pg
open Go.RowKit Go.Sort Go.Shelf St Cd It
set_option linter.unusedVariables false

def verbB (k : Int) : ByteArray := ⟨(verb k).toArray⟩
def shapeRow : Array Value := ((verbs.zip [0, 1, 2, 0, 0, 1, 1, 1]).flatMap fun x => [Value.string ⟨x.1.toArray⟩, Value.int .i64 x.2]).toArray
theorem info_shapes : (Tryz.prog.info? 86).map (·.size) = some shapeRow.size := by kernel_rfl
set_option maxHeartbeats 1000000 in
theorem shapes_any (w : World) :
    Calls Tryz.prog 50 #[] w fun e w' => e = .returned (.agg shapeRow) ∧ Kept w w' := by
  go_enter Tryz.func50, Tryz.ntmps50
  go_wp2_with fail
  refine bodyPost_ret (results_cell_row rfl _ _ w.heap.size 86 shapeRow (0, 0) _ rfl (blk_new w _) Tryz.underlying86 rfl info_shapes) rfl ⟨rfl, (Kept.refl w).grow #[_]⟩
theorem shape_at (k : Int) (h : knownB k = true) (w : World) : (Instr.index 86 (.agg shapeRow) (.int .i64 k)).run Tryz.prog w = .ok (.agg #[.string (verbB k), .int .i64 (nums k)]) w := by
  rcases known_cases h with rfl | rfl | rfl | rfl | rfl | rfl | rfl <;> kernel_rfl

theorem kept_at {x y : World} {g : Nat} {o : Obj} (h : Kept x y) (hb : x.heap[g]? = some o) : y.heap[g]? = some o := (Below.block h _ (blk_lt hb)).trans hb
theorem kept_setRow {a b : World} (h : Kept a b) {g : Nat} (hg : a.heap.size ≤ g) (cs : Array Value) : Kept a (b.setRow g cs) :=
  ⟨by rw [setRow_os]; exact h.os, by rw [setRow_tape]; exact h.tape, by rw [setRow_output]; exact h.output, by rw [setRow_size]; exact Below.size h, fun k hk => by rw [setRow_other _ _ _ _ (by omega)]; exact h.block k hk⟩
theorem info_shape : (Tryz.prog.info? 85).map (·.size) = some 2 := by kernel_rfl
theorem numT_one (o : Op) : numT o 1 = numT o 0 ++ 32 :: Lib.itoa o.a := rfl
theorem numT_two (o : Op) : numT o 2 = numT o 1 ++ 32 :: Lib.itoa o.b := by show _ = (32 :: Lib.itoa o.a) ++ _; rfl
theorem itoa_named (n : Int) (h : Wd n) : ∃ D : ByteArray, Hid (D.data.toList = Lib.itoa n) ∧ D.size ≤ 21 :=
  ⟨⟨(Lib.itoa n).toArray⟩, rfl, by rw [size_list]; exact Lib.itoa_length_le n h.1 h.2⟩
theorem verb_size {k : Int} (h : knownB k = true) : (verbB k).size ≤ 6 := by rw [size_list]; exact (verb_len h).1

set_option maxHeartbeats 2000000 in
theorem step_any (o : Op) (hk : knownB o.k = true) (hf : o.Fit) (E : ByteArray) (hE : Hid (E.data.toList = stepT o)) (w : World) (ht : Tab w) :
    Calls Tryz.prog 35 #[.agg o.arr] w fun e w' => e = .returned (.string E) ∧ Kept w w' := by
  have HC := Lib.hid shapes_any
  have hix := shape_at o.k hk
  have hVs := verb_size hk
  have hm2 := nums_le hk
  obtain ⟨D1, hD1, hS1⟩ := itoa_named o.a hf.2.1
  obtain ⟨D2, hD2, hS2⟩ := itoa_named o.b hf.2.2
  have HI1 := Lib.hid (fun u hu => itoa_any o.a hf.2.1.1 hf.2.1.2 D1 hD1 u hu)
  have HI2 := Lib.hid (fun u hu => itoa_any o.b hf.2.2.1 hf.2.2.2 D2 hD2 u hu)
  have HT := Lib.hid ht
  obtain ⟨V, hV⟩ : ∃ V, verbB o.k = V := ⟨_, rfl⟩
  obtain ⟨m, hm⟩ : ∃ m : Nat, nums o.k = m := ⟨_, rfl⟩
  have hVl : Hid (V.data.toList = verb o.k) := by show _ = _; rw [← hV]; rfl
  have HE := Lib.hid (show E.data.toList = V.data.toList ++ numT o m by rw [hE.out, hVl.out, ← hm]; rfl)
  rw [hV] at hix hVs
  rw [hm] at hix hm2
  have HN := Lib.hid (And.intro (numT_one o) (numT_two o))
  have HD := Lib.hid (And.intro hD1.out hD2.out)
  clear hk hf hE ht hV hm hVl hD1 hD2
  have hm3 : m ≤ 2 := by omega
  clear hm2
  obtain ⟨T, hT⟩ : ∃ T, numT o = T := ⟨_, rfl⟩
  rw [hT] at HE HN
  have HT0 := Lib.hid (show T 0 = [] by rw [← hT]; rfl)
  clear hT
  obtain ⟨k, a, b⟩ := o
  simp only [Op.arr] at hix HI1 HI2 HN HD ⊢
  go_enter Tryz.func35, Tryz.ntmps35
  go_upto_region 1 with fail
  have hBx := blk_new w (.cells #[.int .i64 k, .int .i64 a, .int .i64 b] 67)
  have hk0 := Kept.one w (.cells #[.int .i64 k, .int .i64 a, .int .i64 b] 67)
  obtain ⟨W, hW⟩ : ∃ W, w.alloc (.cells #[.int .i64 k, .int .i64 a, .int .i64 b] 67) = W := ⟨_, rfl⟩
  rw [hW] at hBx hk0 ⊢
  have HB := Lib.hid hBx
  clear hW hBx
  have hcell : ∀ u, Kept W u → u.cell? ⟨w.heap.size, 0, none⟩ = some (.int .i64 k) ∧ u.cell? ⟨w.heap.size, 1, none⟩ = some (.int .i64 a) ∧ u.cell? ⟨w.heap.size, 2, none⟩ = some (.int .i64 b) := fun u hu => by
    have hb := (Below.block hu _ (blk_lt HB.out)).trans HB.out
    exact ⟨by rw [blk_cell hb]; rfl, by rw [blk_cell hb]; rfl, by rw [blk_cell hb]; rfl⟩
  have HL := Lib.hid hcell
  have HK0 := Lib.hid hk0
  clear hcell hk0
  go_cut [3] (fun x wx => ∃ Bs : Nat, x = .pointer (some ⟨Bs, 0, none⟩) ∧ Kept W wx ∧ wx.heap[Bs]? = some (.cells #[.string V, .int .i64 (m : Int)] 85 (0, 0)))
  case first =>
    refine Hg.region_g 5 (fun w' => Kept W w') (by kernel_rfl) ((Kept.refl W).drew) (fun hHeld => ?_)
    refine Hg.take_b 1 (some 8) (v := ?_) rfl rfl (by kernel_rfl) (by kernel_rfl) (by kernel_rfl) (by kernel_rfl) (fun _ _ _ h => h) (Or.inl ⟨by rfl, ?_⟩) hHeld ?_
    rotate_left
    · (intro w hSw; go_simp; try with_reducible rfl)
    simp only [Act.put, List.setIfInBounds_toArray, List.set_cons_zero, List.set_cons_succ]
    refine Hg.take_b 2 (some 9) (v := ?_) rfl rfl (by kernel_rfl) (by kernel_rfl) (by kernel_rfl) (by kernel_rfl) (fun _ _ _ h => h) (Or.inl ⟨by rfl, ?_⟩) hHeld ?_
    rotate_left
    · (intro w hSw; have hc := (HL.out _ hSw).1; go_simp; try with_reducible rfl)
    simp only [Act.put, List.setIfInBounds_toArray, List.set_cons_zero, List.set_cons_succ]
    refine Hg.fork_b 0 4 rfl rfl (by kernel_rfl) (fun K hK => ?_) (fun K hK => ?_)
    · go_simp
      refine (HC.out _).mono ?_
      rintro e u1 ⟨rfl, k1⟩
      go_wp2_with fail
      have hHeld := hHeld.trans k1
      refine hK.out _ _ hHeld ?_
      clear hK K
      refine Hg.take_b 3 (some 10) (v := ?_) rfl rfl (by kernel_rfl) (by kernel_rfl) (by kernel_rfl) (by kernel_rfl) (fun _ _ _ h => h) (Or.inl ⟨by rfl, ?_⟩) hHeld ?_
      rotate_left
      · (intro w hSw; have hc := hix w; go_simp; try with_reducible rfl)
      simp only [Act.put, List.setIfInBounds_toArray, List.set_cons_zero, List.set_cons_succ]
      refine Hg.step_b 4 rfl (by kernel_rfl) (fun K hK => ?_)
      go_simp
      have hkk := hHeld
      have hHeld := hHeld.trans (Kept.one u1 (.cells #[.string ⟨#[]⟩, .int .i64 0] 85))
      refine hK.out _ _ hHeld ?_
      clear hK K
      refine Hg.store_s 5 85 (.tmp 3) (.tmp 10) rfl (by kernel_rfl) (by kernel_rfl) rfl rfl rfl u1.heap.size #[.string V, .int .i64 (m : Int)] rfl rfl 85 _ (blk_new u1 _) info_shape rfl (by kernel_rfl) ?_
      refine Hg.done_g (by kernel_rfl) ?_
      have hs := setRow_heap _ u1.heap.size _ #[.string V, .int .i64 (m : Int)] _ _ (blk_new u1 (.cells #[.string ⟨#[]⟩, .int .i64 0] 85))
      have hq := kept_setRow hHeld (show W.heap.size ≤ u1.heap.size from Below.size (hkk)) #[.string V, .int .i64 (m : Int)]
      go_wp2_with fail
      go_meet
      exact ⟨_, rfl, hq, hs⟩
    · go_simp
      have hHeld := hHeld.trans (Kept.one _ (.cells #[.string ⟨#[]⟩, .int .i64 0] 85))
      refine hK.out _ _ hHeld ?_
      clear hK K
      refine Hg.step_b 0 rfl (by kernel_rfl) (fun K hK => ?_)
      go_simp
      refine (HC.out _).mono ?_
      rintro e u1 ⟨rfl, k1⟩
      go_wp2_with fail
      have hb9 := kept_at k1 (blk_new (World.drew _) (.cells #[.string ⟨#[]⟩, .int .i64 0] 85))
      have hHeld := hHeld.trans k1
      refine hK.out _ _ hHeld ?_
      clear hK K
      refine Hg.take_b 3 (some 10) (v := ?_) rfl rfl (by kernel_rfl) (by kernel_rfl) (by kernel_rfl) (by kernel_rfl) (fun _ _ _ h => h) (Or.inl ⟨by rfl, ?_⟩) hHeld ?_
      rotate_left
      · (intro w hSw; have hc := hix w; go_simp; try with_reducible rfl)
      simp only [Act.put, List.setIfInBounds_toArray, List.set_cons_zero, List.set_cons_succ]
      refine Hg.store_s 5 85 (.tmp 3) (.tmp 10) rfl (by kernel_rfl) (by kernel_rfl) rfl rfl rfl _ #[.string V, .int .i64 (m : Int)] rfl rfl 85 _ hb9 info_shape rfl (by kernel_rfl) ?_
      refine Hg.done_g (by kernel_rfl) ?_
      have hs := setRow_heap _ _ _ #[.string V, .int .i64 (m : Int)] _ _ hb9
      have hq := kept_setRow hHeld (show W.heap.size ≤ (World.drew W).heap.size from Nat.le_refl _) #[.string V, .int .i64 (m : Int)]
      go_wp2_with fail
      go_meet
      exact ⟨_, rfl, hq, hs⟩
  case rest =>
    obtain ⟨Bs, rfl, hk, hb⟩ := hcut
    have HW := Lib.hid hk
    obtain ⟨-, ca, cb⟩ := HL.out wc hk
    have cs0 : wc.cell? ⟨Bs, 0, none⟩ = some (.string V) := by rw [blk_cell hb]; rfl
    have hb2 := kept_at (Kept.one wc (.cells #[.int .i64 a, .int .i64 b] 3)) hb
    have cs1 : (wc.alloc (.cells #[.int .i64 a, .int .i64 b] 3)).cell? ⟨Bs, 1, none⟩ = some (.int .i64 (m : Int)) := by rw [blk_cell hb2]; rfl
    have hm4 : (m : Int) ≤ 2 := by omega
    clear hk hb hb2
    go_upto_region 4 with fail
    have hBa := blk_new wc (.cells #[.int .i64 a, .int .i64 b] 3)
    have hk1 := HW.out.trans (Kept.one wc (.cells #[.int .i64 a, .int .i64 b] 3))
    obtain ⟨X, hX⟩ : ∃ X, wc.alloc (.cells #[.int .i64 a, .int .i64 b] 3) = X := ⟨_, rfl⟩
    obtain ⟨Ba, hBa0⟩ : ∃ Ba, wc.heap.size = Ba := ⟨_, rfl⟩
    rw [hX, hBa0] at hBa
    rw [hX] at hk1
    rw [hX, hBa0]
    have HA := Lib.hid hBa
    have HX := Lib.hid hk1
    clear hX hBa hk1 cs0 cs1 ca cb hBa0
    go_loopw [4, 22] (fun x y wr => ∃ (i : Nat) (S : ByteArray), i ≤ m ∧ x = .string S ∧ y = .int .i64 (i : Int) ∧ Kept X wr ∧ S.size ≤ 100 + i * 30 ∧ Hid (S.data.toList = V.data.toList ++ T i)) (fun _ y _ => m - (intOf y).toNat)
    case atStart => exact ⟨0, V, Nat.zero_le _, rfl, rfl, Kept.refl _, by omega, by show _ = _; rw [HT0.out, List.append_nil]⟩
    case round =>
      obtain ⟨i, S, hi, rfl, rfl, hk, hS, hSl⟩ := hrel
      by_cases hlt : i < m
      · have hbr := kept_at hk HA.out
        have ht := HT.out.kept ((HK0.out.trans HX.out).trans hk)
        have HTr := Lib.hid ht
        rcases (by omega : i = 0 ∨ i = 1) with rfl | rfl
        · have c0 : wr.cell? ⟨Ba, 0, none⟩ = some (.int .i64 a) := by rw [blk_cell hbr]; rfl
          have n1 : ¬ 9223372036854775807 < 1 + D1.size := by omega
          have n2 : ¬ 9223372036854775807 < S.size + (1 + D1.size) := by omega
          clear hbr ht
          go_wp2_with (go_at_call 23; refine (HI1.out _ HTr.out).mono ?_; rintro e w' ⟨rfl, hk2⟩)
          go_roundw
          case rel => exact ⟨1, _, hlt, rfl, by go_num, hk.trans hk2, by rw [ByteArray.size_append, ByteArray.size_append]; show S.size + (1 + D1.size) ≤ _; omega, by show _ = _; rw [HN.out.1]; simp [hSl.out, HD.out.1]⟩
          case measure => simp [intOf]; omega
        · have c0 : wr.cell? ⟨Ba, 1, none⟩ = some (.int .i64 b) := by rw [blk_cell hbr]; rfl
          have n1 : ¬ 9223372036854775807 < 1 + D2.size := by omega
          have n2 : ¬ 9223372036854775807 < S.size + (1 + D2.size) := by omega
          clear hbr ht
          go_wp2_with (go_at_call 23; refine (HI2.out _ HTr.out).mono ?_; rintro e w' ⟨rfl, hk2⟩)
          go_roundw
          case rel => exact ⟨2, _, hlt, rfl, by go_num, hk.trans hk2, by rw [ByteArray.size_append, ByteArray.size_append]; show S.size + (1 + D2.size) ≤ _; omega, by show _ = _; rw [HN.out.2]; simp [hSl.out, HD.out.2]⟩
          case measure => simp [intOf]; omega
      · obtain rfl : i = m := by omega
        go_wp2_with fail
        go_ret
        exact ⟨ret_str (hSl.out.trans HE.out.symm), (HK0.out.trans HX.out).trans hk⟩

end Go.Proofs.YtcoagmkncjonmaaGreatDoor.Pg
