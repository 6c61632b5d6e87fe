/- Programs: the step that a step's text tells. -/
import Derived.Test.YtcoagmkncjonmaaDoorPg7
import Derived.Test.YtcoagmkncjonmaaDoorCf
namespace Go.Proofs.YtcoagmkncjonmaaDoor.Pg
open Go.RowKit Go.Sort Go.Shelf St Cd It At
set_option linter.unusedVariables false
set_option linter.unusedSimpArgs false

theorem info_op : (Tryd.prog.info? 71).map (·.size) = some 3 := by kernel_rfl
set_option maxRecDepth 100000 in
set_option maxHeartbeats 4000000 in
theorem find_any (o : Op) (hk : knownB o.k = true) (hf : o.Fit) (ho : Own o) (s : ByteArray) (hs : Hid (s.data.toList = stepT o)) (w : World) (hE : Env w) :
    Calls Tryd.prog 58 #[.string s] w fun e w' => e = .returned (.tuple #[.agg o.arr, .bool true]) ∧ Kept w w' := by
  have hsl : s.size ≤ 50 := by rw [size_list, hs.out]; exact (step_len hk hf).1
  obtain ⟨A, B, hA, hB, hAl, hBl⟩ := cutb_named s
  obtain ⟨C, D, hC, hD, hCl, hDl⟩ := cutb_named B
  have hA2 := Lib.hid (show A.data.toList = verb o.k by rw [hA.out, hs.out]; exact word_step hk)
  have hn := num_step hk hf ho
  have hC2 := Lib.hid (show NumOf C.data.toList o.a by rw [hC.out, hB.out, hs.out]; exact hn.1)
  have hD2 := Lib.hid (show NumOf D.data.toList o.b by rw [hD.out, hB.out, hs.out]; exact hn.2)
  have HE := Lib.hid (hE.kept (Kept.one w (.cells #[.int .i64 0, .int .i64 0, .int .i64 0] 71)))
  have HS := Lib.hid shapes_any
  have HI := Lib.hid (fun (u : World) (G Bw : Nat) (h1 : u.heap[G]? = some (.cells shapeRow 99 (0, 0))) (h2 : u.heap[Bw]? = some (.cells #[.string A] 9 (0, 0))) => index_shapes hk hA2 h1 h2)
  have HK := Lib.hid hk
  have HT := Lib.hid (fun u hu => step_any o hk hf s hs u hu)
  have HN := Lib.hid (known_any o.k)
  rw [hk] at HN
  clear hn hE hk hf ho
  obtain ⟨k, a, b⟩ := o
  simp only [Op.arr] at *
  have K0 := Kept.refl (w.alloc (.cells #[.int .i64 0, .int .i64 0, .int .i64 0] 71))
  go_enter Tryd.func58, Tryd.ntmps58
  go_upto_region 3 with (go_at_call 32; first
    | ((with_reducible refine (cutb_as (by omega) hA hB (HE.out.kept (by assumption))).mono ?_); rintro e u1 ⟨z1, rfl, k1⟩; have K1 := (K0.trans k1).more (.cells #[.string A] 9); have B1 := blk_new u1 (.cells #[.string A] 9))
    | ((with_reducible refine (cutb_as (by omega) hC hD (HE.out.kept (by assumption))).mono ?_); rintro e u2 ⟨z2, rfl, k2⟩; have K2 := K1.trans k2; have B2 := kept_at k2 B1))
  go_upto_region 4 with (first
    | (go_at_call 54; refine (HS.out _).mono ?_; rintro e u3 ⟨rfl, k3⟩; have K3 := K2.trans k3; have B3 := kept_at k3 B2)
    | (refine Ad.store_new rfl 99 (.tmp 10) (.tmp 25) rfl u3.heap.size shapeRow rfl rfl u3 _ rfl 16 info_shapes rfl rfl (by kernel_rfl) ?_; simp only [Act.put]))
  have B4 := blk_new u3 (.cells shapeRow 99)
  have K4 := K3.more (.cells shapeRow 99)
  have B5 := kept_at (Kept.one u3 (.cells shapeRow 99)) B3
  obtain ⟨U4, hU4⟩ : ∃ U, u3.alloc (.cells shapeRow 99) = U := ⟨_, rfl⟩
  rw [hU4] at B4 K4 B5 ⊢
  have HI5 := Lib.hid (HI.out U4 _ _ B4 B5)
  have BR := Lib.hid (blk_new w (.cells #[.int .i64 0, .int .i64 0, .int .i64 0] 71))
  clear hU4 B1 B2 B3 B4 B5 k1 k2 k3 K1 K2 K3
  go_upto_region 6 with (first
    | (go_at_call 68; refine HI5.out.mono ?_; rintro e u5 ⟨rfl, k5⟩; have K5 := K4.trans k5)
    | (go_at_call 70; first
      | ((with_reducible refine (number_as (by omega) hC2 (HE.out.kept (by assumption))).mono ?_); rintro e u6 ⟨rfl, k6⟩; have K6 := K5.trans k6)
      | ((with_reducible refine (number_as (by omega) hD2 (HE.out.kept (by assumption))).mono ?_); rintro e u7 ⟨rfl, k7⟩; have K7 := K6.trans k7)))
  have K8 := K7.more (.cells #[.int .i64 k, .int .i64 a, .int .i64 b] 71)
  have B8 := blk_new u7 (.cells #[.int .i64 k, .int .i64 a, .int .i64 b] 71)
  obtain ⟨U8, hU8⟩ : ∃ U, u7.alloc (.cells #[.int .i64 k, .int .i64 a, .int .i64 b] 71) = U := ⟨_, rfl⟩
  rw [hU8] at B8 K8 ⊢
  have c0 := blk_cell B8 0
  have c1 := blk_cell B8 1
  have c2 := blk_cell B8 2
  have HB8 := Lib.hid B8
  have HT8 := Lib.hid (HE.out.tab.kept K8)
  clear hU8 k5 k6 k7 K5 K6 K7 B8
  go_wp2_with (first
    | (go_at_call 39; refine (HN.out _).mono ?_; rintro e u ⟨rfl, rfl⟩)
    | (go_at_call 40; refine (HT.out _ HT8.out).mono ?_; rintro e u9 ⟨rfl, k9⟩; have K9 := K8.trans k9; have B9 := kept_at k9 HB8.out; have d0 := blk_cell B9 0; have d1 := blk_cell B9 1; have d2 := blk_cell B9 2; have R9 := kept_at K9 BR.out; have f0 := blk_free R9 0; have f1 := blk_free R9 1; have f2 := blk_free R9 2; have r0 := blk_cell R9 0; have r1 := blk_cell R9 1; have r2 := blk_cell R9 2))
  have e2 := blk_set (blk_set (blk_set R9 0 (.int .i64 k)) 1 (.int .i64 a)) 2 (.int .i64 b)
  refine bodyPost_ret (Rw.results_row_tmp rfl _ _ w.heap.size 71 _ (0, 0) _ rfl e2 Tryd.underlying71 rfl info_op) rfl ?_
  have hk := (Kept.one w (.cells #[.int .i64 0, .int .i64 0, .int .i64 0] 71)).trans K9
  exact ⟨rfl, ((hk.setCell (p := ⟨w.heap.size, 0, none⟩) (Nat.le_refl _) _).setCell (p := ⟨w.heap.size, 1, none⟩) (Nat.le_refl _) _).setCell (p := ⟨w.heap.size, 2, none⟩) (Nat.le_refl _) _⟩

end Go.Proofs.YtcoagmkncjonmaaDoor.Pg
