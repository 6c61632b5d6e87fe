/- Package event: what a line has: words; whose; what is told of some kinds alone; the line. -/
import Derived.Test.YtckjdncacinnkaaDoorEv
import Derived.Test.YtckjdncacinnkaaDoorSs
import Derived.Test.YtckjdncacinnkaaDoorSbB
import Derived.Test.YtckjdncacinnkaaDoorId4
import Derived.Test.YtckjdncacinnkaaDoorAu
import Derived.Test.YtckjdncacinnkaaDoorBlk
namespace Go.Proofs.YtckjdncacinnkaaDoor.Ev
open Go.RowKit Go.Sort Go.Shelf IdM Se EvM Blk It
open St (Kept blk_cell blk_free blk_lt blk_set blk_new ret_str size_list)
open Go.Proofs.YtckjdncacinnkaaDoor.Ss
open Go.Proofs.YtckjdncacinnkaaDoor.Sb (lst)
open Go.Proofs.YtckjdncacinnkaaDoor.Id (itoa_named text_named)
open Go.Proofs.YtckjdncacinnkaaDoor.Ad (load_l store_new)
open Au (Stab stab_kept)
set_option linter.unusedVariables false
set_option linter.unusedSimpArgs false
set_option maxRecDepth 20000

/-- what a call that answers words comes to -/
def tellS (w : World) (L : List (List UInt8)) (e : Ending) (w' : World) : Prop := ∃ v xs, e = .returned v ∧ Ss w' w.heap.size v xs ∧ lst xs = L ∧ Kept w w'

theorem keyt_named (k : Ke) (h : okK k) : ∃ E : ByteArray, Hid (E.data.toList = keyT k) ∧ E.size ≤ 87 :=
  ⟨⟨(keyT k).toArray⟩, rfl, by rw [size_list]; exact keyT_len h⟩
theorem keytext_k {k : Ke} {D : ByteArray} (h : okK k) (hD : Hid (D.data.toList = keyT k)) {w : World} (ht : Tab w) : Calls Tryd.prog 40 #[kv k] w fun e w' => e = .returned (.string D) ∧ Kept w w' :=
  Id.keytext_as h.1 h.2.1 h.2.2.1 h.2.2.2 hD ht

set_option maxHeartbeats 1000000 in
theorem whose_any {e : Ev} (he : okE e) {w : World} (ht : Tab w) : Calls Tryd.prog 32 #[.agg (arr e)] w (tellS w (whoseL e)) := by
  obtain ⟨A, hA⟩ : ∃ A, arr e = A := ⟨_, rfl⟩
  rw [hA]
  obtain ⟨W, hW⟩ : ∃ W, w.alloc (.cells A 38) = W := ⟨_, rfl⟩
  have hB : Bl w W [(A, 38)] := hW ▸ Bl.one w _ _
  have hat : At W w.heap.size 0 e := at_blk (by rw [hA]; exact hB.blk 0 rfl)
  have y0 : W.cell? ⟨w.heap.size, 0, none⟩ = some (.int .i64 e.kind) := hat 0 _ rfl
  have lk := hat.key
  obtain ⟨E, hE, sE⟩ := keyt_named e.key he.key
  have CK := Lib.hid (keytext_k he.key hE (ht.kept hB.kept))
  have HW := Lib.hid hW
  have HB := Lib.hid hB
  have HE := Lib.hid hE
  unfold kv at lk CK
  clear hA hW hB hat he ht hE
  obtain ⟨z, hz⟩ : ∃ z, (e.kind == 9) = z := ⟨_, rfl⟩
  have HZ := Lib.hid hz
  cases z
  · have HL := Lib.hid (show whoseL e = [keyT e.key] by unfold whoseL; rw [if_neg (beq_eq_false_iff_ne.1 hz)])
    rw [HL.out]
    go_enter Tryd.func32, Tryd.ntmps32
    go_upto_region 1 with fail
    rw [HW.out]
    go_wp2_with (first
      | (refine load_l 26 (.tmp 6) rfl _ rfl rfl _ lk ?_)
      | (go_at_call 40; refine CK.out.mono ?_; rintro e' w2 ⟨rfl, k2⟩))
    go_ret
    exact ⟨_, [E], rfl, ss_new w2 _ (Below.size (HB.out.kept.trans k2)) [E] _ rfl (by simp) 1 rfl, by show [E.data.toList] = _; rw [HE.out.out], (HB.out.kept.trans k2).grow #[_]⟩
  · have HL := Lib.hid (show whoseL e = [] by unfold whoseL; rw [if_pos (beq_iff_eq.1 hz)])
    rw [HL.out]
    go_enter Tryd.func32, Tryd.ntmps32
    go_upto_region 1 with fail
    rw [HW.out]
    go_wp2_with fail
    go_ret
    exact ⟨_, [], rfl, ss_nil _ _, rfl, HB.out.kept⟩

set_option maxHeartbeats 4000000 in
theorem more_any {e : Ev} (he : okE e) {w : World} (ht : Tab w) : Calls Tryd.prog 33 #[.agg (arr e)] w (tellS w (moreL e)) := by
  obtain ⟨A, hA⟩ : ∃ A, arr e = A := ⟨_, rfl⟩
  rw [hA]
  obtain ⟨W, hW⟩ : ∃ W, w.alloc (.cells A 38) = W := ⟨_, rfl⟩
  have hB : Bl w W [(A, 38)] := hW ▸ Bl.one w _ _
  have hat : ∀ u, Kept W u → At u w.heap.size 0 e := fun u hu => at_blk (by rw [hA]; exact kept_at hu (hB.blk 0 rfl))
  have y0 : W.cell? ⟨w.heap.size, 0, none⟩ = some (.int .i64 e.kind) := hat W (Kept.refl _) 0 _ rfl
  have y17 : W.cell? ⟨w.heap.size, 17, none⟩ = some (.int .i64 e.vl) := hat W (Kept.refl _) 17 _ rfl
  have LP := Lib.hid (fun u (hu : Kept W u) => (hat u hu).par)
  have LR := Lib.hid (fun u (hu : Kept W u) => (hat u hu).root)
  have LH := Lib.hid (fun u (hu : Kept W u) => Ad.run_loadi (hat u hu 15 _ rfl))
  have LC := Lib.hid (fun u (hu : Kept W u) => Ad.run_loadi (hat u hu 16 _ rfl))
  have LV := Lib.hid (fun u (hu : Kept W u) => Ad.run_loadi (hat u hu 17 _ rfl))
  have T := fun u (hu : Kept W u) => ht.kept (hB.kept.trans hu)
  obtain ⟨E1, hE1, s1⟩ := keyt_named e.par he.par
  obtain ⟨E2, hE2, s2⟩ := text_named e.rn e.ri e.rs he.root.1 he.root.2.1 he.root.2.2
  obtain ⟨E3, hE3, s3⟩ := itoa_named e.hop he.hop
  obtain ⟨E4, hE4, s4⟩ := itoa_named e.cd he.cd
  obtain ⟨E5, hE5, s5⟩ := itoa_named e.vl he.vl
  have C1 := Lib.hid (fun u (hu : Kept W u) => keytext_k he.par hE1 (T u hu))
  have C2 := Lib.hid (fun u (hu : Kept W u) => Id.text_as he.root.1 he.root.2.1 he.root.2.2 hE2 (T u hu))
  have C3 := Lib.hid (fun u (hu : Kept W u) => itoa_any e.hop he.hop.1 he.hop.2 E3 hE3 u (T u hu))
  have C4 := Lib.hid (fun u (hu : Kept W u) => itoa_any e.cd he.cd.1 he.cd.2 E4 hE4 u (T u hu))
  have C5 := Lib.hid (fun u (hu : Kept W u) => itoa_any e.vl he.vl.1 he.vl.2 E5 hE5 u (T u hu))
  unfold kv at LP C1
  have HW := Lib.hid hW
  have HB := Lib.hid hB
  have HE := Lib.hid (And.intro hE1 (And.intro hE2 (And.intro hE3 (And.intro hE4 hE5))))
  clear hA hW hB hat he ht T hE1 hE2 hE3 hE4 hE5
  rcases (by omega : e.kind = 2 ∨ e.kind = 3 ∨ e.kind = 5 ∨ e.kind = 6 ∨ e.kind = 7 ∨ e.kind = 1 ∨ e.kind = 10 ∨ (e.kind ≠ 2 ∧ e.kind ≠ 3 ∧ e.kind ≠ 5 ∧ e.kind ≠ 6 ∧ e.kind ≠ 7 ∧ e.kind ≠ 1 ∧ e.kind ≠ 10)) with hm | hm | hm | hm | hm | hm | hm | hm
  · have HL := Lib.hid (show moreL e = [[98, 121], keyT e.par, [117, 110, 100, 101, 114], textL e.rn e.ri e.rs, [104, 111, 112], Lib.itoa e.hop] by unfold moreL; rw [if_pos (by omega)])
    rw [HL.out]
    have b2 : (e.kind == 2) = true := by rw [hm]; rfl
    have b3 : (e.kind == 3) = false := by rw [hm]; rfl
    have b5 : (e.kind == 5) = false := by rw [hm]; rfl
    have b6 : (e.kind == 6) = false := by rw [hm]; rfl
    have b7 : (e.kind == 7) = false := by rw [hm]; rfl
    have b1 : (e.kind == 1) = false := by rw [hm]; rfl
    have b10 : (e.kind == 10) = false := by rw [hm]; rfl
    clear hm
    go_enter Tryd.func33, Tryd.ntmps33
    go_upto_region 1 with fail
    rw [HW.out]
    go_upto_region 4 with fail
    refine Au.region (fun u => Kept W u) (by kernel_rfl) ((Kept.refl W).drew) ?_
    have hSt : Stab (fun u => Kept W u) := stab_kept W
    refine Au.take 0 (some 8) (v := ?_) rfl rfl (by kernel_rfl) (by kernel_rfl) (by kernel_rfl) (fun _ _ _ h => h) hSt (Au.yq_run (by rfl) (fun u hu => ?_)) ?_
    rotate_left
    · (clear hu; go_simp; try with_reducible rfl)
    simp only [Act.put, List.setIfInBounds_toArray, List.set_cons_zero, List.set_cons_succ]
    refine Au.take 1 (some 9) rfl rfl (by kernel_rfl) (by kernel_rfl) (by kernel_rfl) (fun _ _ _ h => h) hSt (Au.yq_load 26 (.tmp 8) rfl _ rfl (by rfl) (fun u hu => LP.out u hu)) ?_
    simp only [Act.put, List.setIfInBounds_toArray, List.set_cons_zero, List.set_cons_succ]
    refine Au.take 2 (some 10) rfl rfl (by kernel_rfl) (by kernel_rfl) (by kernel_rfl) (fun _ _ _ h => h) hSt (Au.yq_call 40 _ (by rfl) (fun u => by go_simp) (fun u hu => C1.out u hu)) ?_
    simp only [Act.put, List.setIfInBounds_toArray, List.set_cons_zero, List.set_cons_succ]
    refine Au.take 3 (some 11) (v := ?_) rfl rfl (by kernel_rfl) (by kernel_rfl) (by kernel_rfl) (fun _ _ _ h => h) hSt (Au.yq_run (by rfl) (fun u hu => ?_)) ?_
    rotate_left
    · (clear hu; go_simp; try with_reducible rfl)
    simp only [Act.put, List.setIfInBounds_toArray, List.set_cons_zero, List.set_cons_succ]
    refine Au.take 4 (some 12) rfl rfl (by kernel_rfl) (by kernel_rfl) (by kernel_rfl) (fun _ _ _ h => h) hSt (Au.yq_load 24 (.tmp 11) rfl _ rfl (by rfl) (fun u hu => LR.out u hu)) ?_
    simp only [Act.put, List.setIfInBounds_toArray, List.set_cons_zero, List.set_cons_succ]
    refine Au.take 5 (some 13) rfl rfl (by kernel_rfl) (by kernel_rfl) (by kernel_rfl) (fun _ _ _ h => h) hSt (Au.yq_call 41 _ (by rfl) (fun u => by go_simp) (fun u hu => C2.out u hu)) ?_
    simp only [Act.put, List.setIfInBounds_toArray, List.set_cons_zero, List.set_cons_succ]
    refine Au.take 6 (some 14) (v := ?_) rfl rfl (by kernel_rfl) (by kernel_rfl) (by kernel_rfl) (fun _ _ _ h => h) hSt (Au.yq_run (by rfl) (fun u hu => ?_)) ?_
    rotate_left
    · (clear hu; go_simp; try with_reducible rfl)
    simp only [Act.put, List.setIfInBounds_toArray, List.set_cons_zero, List.set_cons_succ]
    refine Au.take 7 (some 15) rfl rfl (by kernel_rfl) (by kernel_rfl) (by kernel_rfl) (fun _ _ _ h => h) hSt (Au.yq_load 3 (.tmp 14) rfl _ rfl (by rfl) (fun u hu => LH.out u hu)) ?_
    simp only [Act.put, List.setIfInBounds_toArray, List.set_cons_zero, List.set_cons_succ]
    refine Au.take 8 (some 16) rfl rfl (by kernel_rfl) (by kernel_rfl) (by kernel_rfl) (fun _ _ _ h => h) hSt (Au.yq_call 31 _ (by rfl) (fun u => by go_simp) (fun u hu => C3.out u hu)) ?_
    simp only [Act.put, List.setIfInBounds_toArray, List.set_cons_zero, List.set_cons_succ]
    refine Au.step 9 rfl (by kernel_rfl) (fun w1 hw1 K1 hK1 => ?_)
    rw [if_pos (by rfl)]
    go_simp
    obtain ⟨g, hg⟩ : ∃ g, w1.heap.size = g := ⟨_, rfl⟩
    obtain ⟨CS, hCS⟩ : ∃ CS : Array Value, #[.string { data := #[98, 121] }, .string E1, .string { data := #[117, 110, 100, 101, 114] }, .string E2, .string { data := #[104, 111, 112] }, .string E3] = CS := ⟨_, rfl⟩
    have hgw : w.heap.size ≤ g := by rw [← hg]; exact Below.size (HB.out.kept.trans hw1)
    have hgb : (w1.alloc (.cells CS 9)).heap[g]? = some (.cells CS 9 (0, 0)) := by rw [← hg]; exact blk_new _ _
    rw [hg, hCS]
    refine hK1.out (fun u => Kept W u ∧ u.heap[g]? = some (.cells CS 9 (0, 0))) _ _ ⟨hw1.trans (Kept.one _ _), hgb⟩ (Au.stab_and hSt (fun u u' h k => kept_at k h)) (fun u hu => hu.1) ?_
    have hSt2 : Stab (fun u => Kept W u ∧ u.heap[g]? = some (.cells CS 9 (0, 0))) := Au.stab_and hSt (fun u u' h k => kept_at k h)
    clear hK1 K1 hw1 hgb hg
    refine Au.take 10 (some 2) (v := ?_) rfl rfl (by kernel_rfl) (by kernel_rfl) (by kernel_rfl) (fun _ _ _ h => h) hSt2 (Au.yq_run (by rfl) (fun u hu => ?_)) ?_
    rotate_left
    · (clear hu; go_simp; try with_reducible rfl)
    simp only [Act.put, List.setIfInBounds_toArray, List.set_cons_zero, List.set_cons_succ]
    refine Au.done (by kernel_rfl) (fun u hu => ?_)
    go_wp2_with fail
    go_ret
    exact ⟨_, [({ data := #[98, 121] } : ByteArray), E1, ({ data := #[117, 110, 100, 101, 114] } : ByteArray), E2, ({ data := #[104, 111, 112] } : ByteArray), E3], rfl, ss_blk hu.2 hgw (by rw [← hCS]; rfl) (by simp) rfl, by simp only [lst, List.map_cons, List.map_nil, HE.out.1.out, HE.out.2.1.out, HE.out.2.2.1.out], HB.out.kept.trans hu.1⟩
  · have HL := Lib.hid (show moreL e = [[98, 121], keyT e.par, [117, 110, 100, 101, 114], textL e.rn e.ri e.rs, [104, 111, 112], Lib.itoa e.hop] by unfold moreL; rw [if_pos (by omega)])
    rw [HL.out]
    have b2 : (e.kind == 2) = false := by rw [hm]; rfl
    have b3 : (e.kind == 3) = true := by rw [hm]; rfl
    have b5 : (e.kind == 5) = false := by rw [hm]; rfl
    have b6 : (e.kind == 6) = false := by rw [hm]; rfl
    have b7 : (e.kind == 7) = false := by rw [hm]; rfl
    have b1 : (e.kind == 1) = false := by rw [hm]; rfl
    have b10 : (e.kind == 10) = false := by rw [hm]; rfl
    clear hm
    go_enter Tryd.func33, Tryd.ntmps33
    go_upto_region 1 with fail
    rw [HW.out]
    go_upto_region 4 with fail
    refine Au.region (fun u => Kept W u) (by kernel_rfl) ((Kept.refl W).drew) ?_
    have hSt : Stab (fun u => Kept W u) := stab_kept W
    refine Au.take 0 (some 8) (v := ?_) rfl rfl (by kernel_rfl) (by kernel_rfl) (by kernel_rfl) (fun _ _ _ h => h) hSt (Au.yq_run (by rfl) (fun u hu => ?_)) ?_
    rotate_left
    · (clear hu; go_simp; try with_reducible rfl)
    simp only [Act.put, List.setIfInBounds_toArray, List.set_cons_zero, List.set_cons_succ]
    refine Au.take 1 (some 9) rfl rfl (by kernel_rfl) (by kernel_rfl) (by kernel_rfl) (fun _ _ _ h => h) hSt (Au.yq_load 26 (.tmp 8) rfl _ rfl (by rfl) (fun u hu => LP.out u hu)) ?_
    simp only [Act.put, List.setIfInBounds_toArray, List.set_cons_zero, List.set_cons_succ]
    refine Au.take 2 (some 10) rfl rfl (by kernel_rfl) (by kernel_rfl) (by kernel_rfl) (fun _ _ _ h => h) hSt (Au.yq_call 40 _ (by rfl) (fun u => by go_simp) (fun u hu => C1.out u hu)) ?_
    simp only [Act.put, List.setIfInBounds_toArray, List.set_cons_zero, List.set_cons_succ]
    refine Au.take 3 (some 11) (v := ?_) rfl rfl (by kernel_rfl) (by kernel_rfl) (by kernel_rfl) (fun _ _ _ h => h) hSt (Au.yq_run (by rfl) (fun u hu => ?_)) ?_
    rotate_left
    · (clear hu; go_simp; try with_reducible rfl)
    simp only [Act.put, List.setIfInBounds_toArray, List.set_cons_zero, List.set_cons_succ]
    refine Au.take 4 (some 12) rfl rfl (by kernel_rfl) (by kernel_rfl) (by kernel_rfl) (fun _ _ _ h => h) hSt (Au.yq_load 24 (.tmp 11) rfl _ rfl (by rfl) (fun u hu => LR.out u hu)) ?_
    simp only [Act.put, List.setIfInBounds_toArray, List.set_cons_zero, List.set_cons_succ]
    refine Au.take 5 (some 13) rfl rfl (by kernel_rfl) (by kernel_rfl) (by kernel_rfl) (fun _ _ _ h => h) hSt (Au.yq_call 41 _ (by rfl) (fun u => by go_simp) (fun u hu => C2.out u hu)) ?_
    simp only [Act.put, List.setIfInBounds_toArray, List.set_cons_zero, List.set_cons_succ]
    refine Au.take 6 (some 14) (v := ?_) rfl rfl (by kernel_rfl) (by kernel_rfl) (by kernel_rfl) (fun _ _ _ h => h) hSt (Au.yq_run (by rfl) (fun u hu => ?_)) ?_
    rotate_left
    · (clear hu; go_simp; try with_reducible rfl)
    simp only [Act.put, List.setIfInBounds_toArray, List.set_cons_zero, List.set_cons_succ]
    refine Au.take 7 (some 15) rfl rfl (by kernel_rfl) (by kernel_rfl) (by kernel_rfl) (fun _ _ _ h => h) hSt (Au.yq_load 3 (.tmp 14) rfl _ rfl (by rfl) (fun u hu => LH.out u hu)) ?_
    simp only [Act.put, List.setIfInBounds_toArray, List.set_cons_zero, List.set_cons_succ]
    refine Au.take 8 (some 16) rfl rfl (by kernel_rfl) (by kernel_rfl) (by kernel_rfl) (fun _ _ _ h => h) hSt (Au.yq_call 31 _ (by rfl) (fun u => by go_simp) (fun u hu => C3.out u hu)) ?_
    simp only [Act.put, List.setIfInBounds_toArray, List.set_cons_zero, List.set_cons_succ]
    refine Au.step 9 rfl (by kernel_rfl) (fun w1 hw1 K1 hK1 => ?_)
    rw [if_pos (by rfl)]
    go_simp
    obtain ⟨g, hg⟩ : ∃ g, w1.heap.size = g := ⟨_, rfl⟩
    obtain ⟨CS, hCS⟩ : ∃ CS : Array Value, #[.string { data := #[98, 121] }, .string E1, .string { data := #[117, 110, 100, 101, 114] }, .string E2, .string { data := #[104, 111, 112] }, .string E3] = CS := ⟨_, rfl⟩
    have hgw : w.heap.size ≤ g := by rw [← hg]; exact Below.size (HB.out.kept.trans hw1)
    have hgb : (w1.alloc (.cells CS 9)).heap[g]? = some (.cells CS 9 (0, 0)) := by rw [← hg]; exact blk_new _ _
    rw [hg, hCS]
    refine hK1.out (fun u => Kept W u ∧ u.heap[g]? = some (.cells CS 9 (0, 0))) _ _ ⟨hw1.trans (Kept.one _ _), hgb⟩ (Au.stab_and hSt (fun u u' h k => kept_at k h)) (fun u hu => hu.1) ?_
    have hSt2 : Stab (fun u => Kept W u ∧ u.heap[g]? = some (.cells CS 9 (0, 0))) := Au.stab_and hSt (fun u u' h k => kept_at k h)
    clear hK1 K1 hw1 hgb hg
    refine Au.take 10 (some 2) (v := ?_) rfl rfl (by kernel_rfl) (by kernel_rfl) (by kernel_rfl) (fun _ _ _ h => h) hSt2 (Au.yq_run (by rfl) (fun u hu => ?_)) ?_
    rotate_left
    · (clear hu; go_simp; try with_reducible rfl)
    simp only [Act.put, List.setIfInBounds_toArray, List.set_cons_zero, List.set_cons_succ]
    refine Au.done (by kernel_rfl) (fun u hu => ?_)
    go_wp2_with fail
    go_ret
    exact ⟨_, [({ data := #[98, 121] } : ByteArray), E1, ({ data := #[117, 110, 100, 101, 114] } : ByteArray), E2, ({ data := #[104, 111, 112] } : ByteArray), E3], rfl, ss_blk hu.2 hgw (by rw [← hCS]; rfl) (by simp) rfl, by simp only [lst, List.map_cons, List.map_nil, HE.out.1.out, HE.out.2.1.out, HE.out.2.2.1.out], HB.out.kept.trans hu.1⟩
  · have HL := Lib.hid (show moreL e = [[99, 111, 100, 101], Lib.itoa e.cd, [118, 97, 108, 117, 101], Lib.itoa e.vl] by unfold moreL; rw [if_neg (by omega), if_pos (by omega)])
    rw [HL.out]
    have b2 : (e.kind == 2) = false := by rw [hm]; rfl
    have b3 : (e.kind == 3) = false := by rw [hm]; rfl
    have b5 : (e.kind == 5) = true := by rw [hm]; rfl
    have b6 : (e.kind == 6) = false := by rw [hm]; rfl
    have b7 : (e.kind == 7) = false := by rw [hm]; rfl
    have b1 : (e.kind == 1) = false := by rw [hm]; rfl
    have b10 : (e.kind == 10) = false := by rw [hm]; rfl
    clear hm
    go_enter Tryd.func33, Tryd.ntmps33
    go_upto_region 1 with fail
    rw [HW.out]
    go_upto_region 8 with fail
    refine Au.region (fun u => Kept W u) (by kernel_rfl) ((Kept.refl W).drew) ?_
    have hSt : Stab (fun u => Kept W u) := stab_kept W
    refine Au.take 0 (some 22) (v := ?_) rfl rfl (by kernel_rfl) (by kernel_rfl) (by kernel_rfl) (fun _ _ _ h => h) hSt (Au.yq_run (by rfl) (fun u hu => ?_)) ?_
    rotate_left
    · (clear hu; go_simp; try with_reducible rfl)
    simp only [Act.put, List.setIfInBounds_toArray, List.set_cons_zero, List.set_cons_succ]
    refine Au.take 1 (some 23) rfl rfl (by kernel_rfl) (by kernel_rfl) (by kernel_rfl) (fun _ _ _ h => h) hSt (Au.yq_load 3 (.tmp 22) rfl _ rfl (by rfl) (fun u hu => LC.out u hu)) ?_
    simp only [Act.put, List.setIfInBounds_toArray, List.set_cons_zero, List.set_cons_succ]
    refine Au.take 2 (some 24) rfl rfl (by kernel_rfl) (by kernel_rfl) (by kernel_rfl) (fun _ _ _ h => h) hSt (Au.yq_call 31 _ (by rfl) (fun u => by go_simp) (fun u hu => C4.out u hu)) ?_
    simp only [Act.put, List.setIfInBounds_toArray, List.set_cons_zero, List.set_cons_succ]
    refine Au.take 3 (some 25) (v := ?_) rfl rfl (by kernel_rfl) (by kernel_rfl) (by kernel_rfl) (fun _ _ _ h => h) hSt (Au.yq_run (by rfl) (fun u hu => ?_)) ?_
    rotate_left
    · (clear hu; go_simp; try with_reducible rfl)
    simp only [Act.put, List.setIfInBounds_toArray, List.set_cons_zero, List.set_cons_succ]
    refine Au.take 4 (some 26) rfl rfl (by kernel_rfl) (by kernel_rfl) (by kernel_rfl) (fun _ _ _ h => h) hSt (Au.yq_load 3 (.tmp 25) rfl _ rfl (by rfl) (fun u hu => LV.out u hu)) ?_
    simp only [Act.put, List.setIfInBounds_toArray, List.set_cons_zero, List.set_cons_succ]
    refine Au.take 5 (some 27) rfl rfl (by kernel_rfl) (by kernel_rfl) (by kernel_rfl) (fun _ _ _ h => h) hSt (Au.yq_call 31 _ (by rfl) (fun u => by go_simp) (fun u hu => C5.out u hu)) ?_
    simp only [Act.put, List.setIfInBounds_toArray, List.set_cons_zero, List.set_cons_succ]
    refine Au.step 6 rfl (by kernel_rfl) (fun w1 hw1 K1 hK1 => ?_)
    rw [if_pos (by rfl)]
    go_simp
    obtain ⟨g, hg⟩ : ∃ g, w1.heap.size = g := ⟨_, rfl⟩
    obtain ⟨CS, hCS⟩ : ∃ CS : Array Value, #[.string { data := #[99, 111, 100, 101] }, .string E4, .string { data := #[118, 97, 108, 117, 101] }, .string E5] = CS := ⟨_, rfl⟩
    have hgw : w.heap.size ≤ g := by rw [← hg]; exact Below.size (HB.out.kept.trans hw1)
    have hgb : (w1.alloc (.cells CS 9)).heap[g]? = some (.cells CS 9 (0, 0)) := by rw [← hg]; exact blk_new _ _
    rw [hg, hCS]
    refine hK1.out (fun u => Kept W u ∧ u.heap[g]? = some (.cells CS 9 (0, 0))) _ _ ⟨hw1.trans (Kept.one _ _), hgb⟩ (Au.stab_and hSt (fun u u' h k => kept_at k h)) (fun u hu => hu.1) ?_
    have hSt2 : Stab (fun u => Kept W u ∧ u.heap[g]? = some (.cells CS 9 (0, 0))) := Au.stab_and hSt (fun u u' h k => kept_at k h)
    clear hK1 K1 hw1 hgb hg
    refine Au.take 7 (some 2) (v := ?_) rfl rfl (by kernel_rfl) (by kernel_rfl) (by kernel_rfl) (fun _ _ _ h => h) hSt2 (Au.yq_run (by rfl) (fun u hu => ?_)) ?_
    rotate_left
    · (clear hu; go_simp; try with_reducible rfl)
    simp only [Act.put, List.setIfInBounds_toArray, List.set_cons_zero, List.set_cons_succ]
    refine Au.done (by kernel_rfl) (fun u hu => ?_)
    go_wp2_with fail
    go_ret
    exact ⟨_, [({ data := #[99, 111, 100, 101] } : ByteArray), E4, ({ data := #[118, 97, 108, 117, 101] } : ByteArray), E5], rfl, ss_blk hu.2 hgw (by rw [← hCS]; rfl) (by simp) rfl, by simp only [lst, List.map_cons, List.map_nil, HE.out.2.2.2.1.out, HE.out.2.2.2.2.out], HB.out.kept.trans hu.1⟩
  · have HL := Lib.hid (show moreL e = [[99, 111, 100, 101], Lib.itoa e.cd, [118, 97, 108, 117, 101], Lib.itoa e.vl] by unfold moreL; rw [if_neg (by omega), if_pos (by omega)])
    rw [HL.out]
    have b2 : (e.kind == 2) = false := by rw [hm]; rfl
    have b3 : (e.kind == 3) = false := by rw [hm]; rfl
    have b5 : (e.kind == 5) = false := by rw [hm]; rfl
    have b6 : (e.kind == 6) = true := by rw [hm]; rfl
    have b7 : (e.kind == 7) = false := by rw [hm]; rfl
    have b1 : (e.kind == 1) = false := by rw [hm]; rfl
    have b10 : (e.kind == 10) = false := by rw [hm]; rfl
    clear hm
    go_enter Tryd.func33, Tryd.ntmps33
    go_upto_region 1 with fail
    rw [HW.out]
    go_upto_region 8 with fail
    refine Au.region (fun u => Kept W u) (by kernel_rfl) ((Kept.refl W).drew) ?_
    have hSt : Stab (fun u => Kept W u) := stab_kept W
    refine Au.take 0 (some 22) (v := ?_) rfl rfl (by kernel_rfl) (by kernel_rfl) (by kernel_rfl) (fun _ _ _ h => h) hSt (Au.yq_run (by rfl) (fun u hu => ?_)) ?_
    rotate_left
    · (clear hu; go_simp; try with_reducible rfl)
    simp only [Act.put, List.setIfInBounds_toArray, List.set_cons_zero, List.set_cons_succ]
    refine Au.take 1 (some 23) rfl rfl (by kernel_rfl) (by kernel_rfl) (by kernel_rfl) (fun _ _ _ h => h) hSt (Au.yq_load 3 (.tmp 22) rfl _ rfl (by rfl) (fun u hu => LC.out u hu)) ?_
    simp only [Act.put, List.setIfInBounds_toArray, List.set_cons_zero, List.set_cons_succ]
    refine Au.take 2 (some 24) rfl rfl (by kernel_rfl) (by kernel_rfl) (by kernel_rfl) (fun _ _ _ h => h) hSt (Au.yq_call 31 _ (by rfl) (fun u => by go_simp) (fun u hu => C4.out u hu)) ?_
    simp only [Act.put, List.setIfInBounds_toArray, List.set_cons_zero, List.set_cons_succ]
    refine Au.take 3 (some 25) (v := ?_) rfl rfl (by kernel_rfl) (by kernel_rfl) (by kernel_rfl) (fun _ _ _ h => h) hSt (Au.yq_run (by rfl) (fun u hu => ?_)) ?_
    rotate_left
    · (clear hu; go_simp; try with_reducible rfl)
    simp only [Act.put, List.setIfInBounds_toArray, List.set_cons_zero, List.set_cons_succ]
    refine Au.take 4 (some 26) rfl rfl (by kernel_rfl) (by kernel_rfl) (by kernel_rfl) (fun _ _ _ h => h) hSt (Au.yq_load 3 (.tmp 25) rfl _ rfl (by rfl) (fun u hu => LV.out u hu)) ?_
    simp only [Act.put, List.setIfInBounds_toArray, List.set_cons_zero, List.set_cons_succ]
    refine Au.take 5 (some 27) rfl rfl (by kernel_rfl) (by kernel_rfl) (by kernel_rfl) (fun _ _ _ h => h) hSt (Au.yq_call 31 _ (by rfl) (fun u => by go_simp) (fun u hu => C5.out u hu)) ?_
    simp only [Act.put, List.setIfInBounds_toArray, List.set_cons_zero, List.set_cons_succ]
    refine Au.step 6 rfl (by kernel_rfl) (fun w1 hw1 K1 hK1 => ?_)
    rw [if_pos (by rfl)]
    go_simp
    obtain ⟨g, hg⟩ : ∃ g, w1.heap.size = g := ⟨_, rfl⟩
    obtain ⟨CS, hCS⟩ : ∃ CS : Array Value, #[.string { data := #[99, 111, 100, 101] }, .string E4, .string { data := #[118, 97, 108, 117, 101] }, .string E5] = CS := ⟨_, rfl⟩
    have hgw : w.heap.size ≤ g := by rw [← hg]; exact Below.size (HB.out.kept.trans hw1)
    have hgb : (w1.alloc (.cells CS 9)).heap[g]? = some (.cells CS 9 (0, 0)) := by rw [← hg]; exact blk_new _ _
    rw [hg, hCS]
    refine hK1.out (fun u => Kept W u ∧ u.heap[g]? = some (.cells CS 9 (0, 0))) _ _ ⟨hw1.trans (Kept.one _ _), hgb⟩ (Au.stab_and hSt (fun u u' h k => kept_at k h)) (fun u hu => hu.1) ?_
    have hSt2 : Stab (fun u => Kept W u ∧ u.heap[g]? = some (.cells CS 9 (0, 0))) := Au.stab_and hSt (fun u u' h k => kept_at k h)
    clear hK1 K1 hw1 hgb hg
    refine Au.take 7 (some 2) (v := ?_) rfl rfl (by kernel_rfl) (by kernel_rfl) (by kernel_rfl) (fun _ _ _ h => h) hSt2 (Au.yq_run (by rfl) (fun u hu => ?_)) ?_
    rotate_left
    · (clear hu; go_simp; try with_reducible rfl)
    simp only [Act.put, List.setIfInBounds_toArray, List.set_cons_zero, List.set_cons_succ]
    refine Au.done (by kernel_rfl) (fun u hu => ?_)
    go_wp2_with fail
    go_ret
    exact ⟨_, [({ data := #[99, 111, 100, 101] } : ByteArray), E4, ({ data := #[118, 97, 108, 117, 101] } : ByteArray), E5], rfl, ss_blk hu.2 hgw (by rw [← hCS]; rfl) (by simp) rfl, by simp only [lst, List.map_cons, List.map_nil, HE.out.2.2.2.1.out, HE.out.2.2.2.2.out], HB.out.kept.trans hu.1⟩
  · have HL := Lib.hid (show moreL e = [[99, 111, 100, 101], Lib.itoa e.cd, [118, 97, 108, 117, 101], Lib.itoa e.vl] by unfold moreL; rw [if_neg (by omega), if_pos (by omega)])
    rw [HL.out]
    have b2 : (e.kind == 2) = false := by rw [hm]; rfl
    have b3 : (e.kind == 3) = false := by rw [hm]; rfl
    have b5 : (e.kind == 5) = false := by rw [hm]; rfl
    have b6 : (e.kind == 6) = false := by rw [hm]; rfl
    have b7 : (e.kind == 7) = true := by rw [hm]; rfl
    have b1 : (e.kind == 1) = false := by rw [hm]; rfl
    have b10 : (e.kind == 10) = false := by rw [hm]; rfl
    clear hm
    go_enter Tryd.func33, Tryd.ntmps33
    go_upto_region 1 with fail
    rw [HW.out]
    go_upto_region 8 with fail
    refine Au.region (fun u => Kept W u) (by kernel_rfl) ((Kept.refl W).drew) ?_
    have hSt : Stab (fun u => Kept W u) := stab_kept W
    refine Au.take 0 (some 22) (v := ?_) rfl rfl (by kernel_rfl) (by kernel_rfl) (by kernel_rfl) (fun _ _ _ h => h) hSt (Au.yq_run (by rfl) (fun u hu => ?_)) ?_
    rotate_left
    · (clear hu; go_simp; try with_reducible rfl)
    simp only [Act.put, List.setIfInBounds_toArray, List.set_cons_zero, List.set_cons_succ]
    refine Au.take 1 (some 23) rfl rfl (by kernel_rfl) (by kernel_rfl) (by kernel_rfl) (fun _ _ _ h => h) hSt (Au.yq_load 3 (.tmp 22) rfl _ rfl (by rfl) (fun u hu => LC.out u hu)) ?_
    simp only [Act.put, List.setIfInBounds_toArray, List.set_cons_zero, List.set_cons_succ]
    refine Au.take 2 (some 24) rfl rfl (by kernel_rfl) (by kernel_rfl) (by kernel_rfl) (fun _ _ _ h => h) hSt (Au.yq_call 31 _ (by rfl) (fun u => by go_simp) (fun u hu => C4.out u hu)) ?_
    simp only [Act.put, List.setIfInBounds_toArray, List.set_cons_zero, List.set_cons_succ]
    refine Au.take 3 (some 25) (v := ?_) rfl rfl (by kernel_rfl) (by kernel_rfl) (by kernel_rfl) (fun _ _ _ h => h) hSt (Au.yq_run (by rfl) (fun u hu => ?_)) ?_
    rotate_left
    · (clear hu; go_simp; try with_reducible rfl)
    simp only [Act.put, List.setIfInBounds_toArray, List.set_cons_zero, List.set_cons_succ]
    refine Au.take 4 (some 26) rfl rfl (by kernel_rfl) (by kernel_rfl) (by kernel_rfl) (fun _ _ _ h => h) hSt (Au.yq_load 3 (.tmp 25) rfl _ rfl (by rfl) (fun u hu => LV.out u hu)) ?_
    simp only [Act.put, List.setIfInBounds_toArray, List.set_cons_zero, List.set_cons_succ]
    refine Au.take 5 (some 27) rfl rfl (by kernel_rfl) (by kernel_rfl) (by kernel_rfl) (fun _ _ _ h => h) hSt (Au.yq_call 31 _ (by rfl) (fun u => by go_simp) (fun u hu => C5.out u hu)) ?_
    simp only [Act.put, List.setIfInBounds_toArray, List.set_cons_zero, List.set_cons_succ]
    refine Au.step 6 rfl (by kernel_rfl) (fun w1 hw1 K1 hK1 => ?_)
    rw [if_pos (by rfl)]
    go_simp
    obtain ⟨g, hg⟩ : ∃ g, w1.heap.size = g := ⟨_, rfl⟩
    obtain ⟨CS, hCS⟩ : ∃ CS : Array Value, #[.string { data := #[99, 111, 100, 101] }, .string E4, .string { data := #[118, 97, 108, 117, 101] }, .string E5] = CS := ⟨_, rfl⟩
    have hgw : w.heap.size ≤ g := by rw [← hg]; exact Below.size (HB.out.kept.trans hw1)
    have hgb : (w1.alloc (.cells CS 9)).heap[g]? = some (.cells CS 9 (0, 0)) := by rw [← hg]; exact blk_new _ _
    rw [hg, hCS]
    refine hK1.out (fun u => Kept W u ∧ u.heap[g]? = some (.cells CS 9 (0, 0))) _ _ ⟨hw1.trans (Kept.one _ _), hgb⟩ (Au.stab_and hSt (fun u u' h k => kept_at k h)) (fun u hu => hu.1) ?_
    have hSt2 : Stab (fun u => Kept W u ∧ u.heap[g]? = some (.cells CS 9 (0, 0))) := Au.stab_and hSt (fun u u' h k => kept_at k h)
    clear hK1 K1 hw1 hgb hg
    refine Au.take 7 (some 2) (v := ?_) rfl rfl (by kernel_rfl) (by kernel_rfl) (by kernel_rfl) (fun _ _ _ h => h) hSt2 (Au.yq_run (by rfl) (fun u hu => ?_)) ?_
    rotate_left
    · (clear hu; go_simp; try with_reducible rfl)
    simp only [Act.put, List.setIfInBounds_toArray, List.set_cons_zero, List.set_cons_succ]
    refine Au.done (by kernel_rfl) (fun u hu => ?_)
    go_wp2_with fail
    go_ret
    exact ⟨_, [({ data := #[99, 111, 100, 101] } : ByteArray), E4, ({ data := #[118, 97, 108, 117, 101] } : ByteArray), E5], rfl, ss_blk hu.2 hgw (by rw [← hCS]; rfl) (by simp) rfl, by simp only [lst, List.map_cons, List.map_nil, HE.out.2.2.2.1.out, HE.out.2.2.2.2.out], HB.out.kept.trans hu.1⟩
  · have HL := Lib.hid (show moreL e = [[118, 97, 108, 117, 101], Lib.itoa e.vl] by unfold moreL; rw [if_neg (by omega), if_neg (by omega), if_pos (by omega)])
    rw [HL.out]
    have b2 : (e.kind == 2) = false := by rw [hm]; rfl
    have b3 : (e.kind == 3) = false := by rw [hm]; rfl
    have b5 : (e.kind == 5) = false := by rw [hm]; rfl
    have b6 : (e.kind == 6) = false := by rw [hm]; rfl
    have b7 : (e.kind == 7) = false := by rw [hm]; rfl
    have b1 : (e.kind == 1) = true := by rw [hm]; rfl
    have b10 : (e.kind == 10) = false := by rw [hm]; rfl
    clear hm
    go_enter Tryd.func33, Tryd.ntmps33
    go_upto_region 1 with fail
    rw [HW.out]
    go_wp2_with (first | (go_at_call 31; refine (C5.out W (Kept.refl W)).mono ?_; rintro e' w2 ⟨rfl, k2⟩))
    go_ret
    exact ⟨_, [({ data := #[118, 97, 108, 117, 101] } : ByteArray), E5], rfl, ss_new w2 _ (Below.size (HB.out.kept.trans k2)) [({ data := #[118, 97, 108, 117, 101] } : ByteArray), E5] _ rfl (by simp) 2 rfl, by simp only [lst, List.map_cons, List.map_nil, HE.out.2.2.2.2.out], (HB.out.kept.trans k2).grow #[_]⟩
  · have HL := Lib.hid (show moreL e = [[118, 97, 108, 117, 101], Lib.itoa e.vl] by unfold moreL; rw [if_neg (by omega), if_neg (by omega), if_pos (by omega)])
    rw [HL.out]
    have b2 : (e.kind == 2) = false := by rw [hm]; rfl
    have b3 : (e.kind == 3) = false := by rw [hm]; rfl
    have b5 : (e.kind == 5) = false := by rw [hm]; rfl
    have b6 : (e.kind == 6) = false := by rw [hm]; rfl
    have b7 : (e.kind == 7) = false := by rw [hm]; rfl
    have b1 : (e.kind == 1) = false := by rw [hm]; rfl
    have b10 : (e.kind == 10) = true := by rw [hm]; rfl
    clear hm
    go_enter Tryd.func33, Tryd.ntmps33
    go_upto_region 1 with fail
    rw [HW.out]
    go_wp2_with (first | (go_at_call 31; refine (C5.out W (Kept.refl W)).mono ?_; rintro e' w2 ⟨rfl, k2⟩))
    go_ret
    exact ⟨_, [({ data := #[118, 97, 108, 117, 101] } : ByteArray), E5], rfl, ss_new w2 _ (Below.size (HB.out.kept.trans k2)) [({ data := #[118, 97, 108, 117, 101] } : ByteArray), E5] _ rfl (by simp) 2 rfl, by simp only [lst, List.map_cons, List.map_nil, HE.out.2.2.2.2.out], (HB.out.kept.trans k2).grow #[_]⟩
  · have HL := Lib.hid (show moreL e = [] by unfold moreL; rw [if_neg (by omega), if_neg (by omega), if_neg (by omega)])
    rw [HL.out]
    have b2 : (e.kind == 2) = false := beq_eq_false_iff_ne.2 (by omega)
    have b3 : (e.kind == 3) = false := beq_eq_false_iff_ne.2 (by omega)
    have b5 : (e.kind == 5) = false := beq_eq_false_iff_ne.2 (by omega)
    have b6 : (e.kind == 6) = false := beq_eq_false_iff_ne.2 (by omega)
    have b7 : (e.kind == 7) = false := beq_eq_false_iff_ne.2 (by omega)
    have b1 : (e.kind == 1) = false := beq_eq_false_iff_ne.2 (by omega)
    have b10 : (e.kind == 10) = false := beq_eq_false_iff_ne.2 (by omega)
    clear hm
    go_enter Tryd.func33, Tryd.ntmps33
    go_upto_region 1 with fail
    rw [HW.out]
    go_wp2_with fail
    go_ret
    exact ⟨_, [], rfl, ss_nil _ _, rfl, HB.out.kept⟩

end Go.Proofs.YtckjdncacinnkaaDoor.Ev
