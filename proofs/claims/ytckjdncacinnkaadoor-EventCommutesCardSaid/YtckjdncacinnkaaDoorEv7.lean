/- Package event: an event's line. -/
import Derived.Test.YtckjdncacinnkaaDoorEv6
import Derived.Test.YtckjdncacinnkaaDoorFr
import Derived.Deep.DeepCutAuto
namespace Go.Proofs.YtckjdncacinnkaaDoor.Ev
open Go.RowKit Go.Sort Go.Shelf IdM Se EvM Blk It
open St (Kept blk_cell blk_free blk_lt blk_set blk_new ret_str size_list)
open Go.Proofs.YtckjdncacinnkaaDoor.Ss
open Go.Proofs.YtckjdncacinnkaaDoor.Sb (lst joinS tailS)
open Go.Proofs.YtckjdncacinnkaaDoor.Id (itoa_named text_named)
open Go.Proofs.YtckjdncacinnkaaDoor.Ad (load_l store_new)
open Au (Stab stab_kept)
open Wh (Fr)
set_option linter.unusedVariables false
set_option linter.unusedSimpArgs false
set_option maxRecDepth 20000

theorem join_is (l : List (List UInt8)) : joinL l = joinS [32] l := by cases l <;> rfl
theorem own_kept {w wr w3 : World} {v : Value} {H : List ByteArray} (hk : Kept w wr) (hv : Ss wr w.heap.size v H) (g : wr.grownBy w3 v.ownBlock) : Kept w w3 :=
  ((Fr.kept (S := fun k => w.heap.size ≤ k) hk).grown g (fun k c => .inl (hv.lt c).1)).keeps (fun k c => c)
theorem lst_app (a b : List ByteArray) : lst (a ++ b) = lst a ++ lst b := List.map_append
theorem lst_len (a : List ByteArray) : (lst a).length = a.length := List.length_map ..
theorem name_named (k : Int) : ∃ E : ByteArray, Hid (E.data.toList = nameT k) ∧ E.size ≤ 9 :=
  ⟨⟨(nameT k).toArray⟩, rfl, by rw [size_list]; exact name_len k⟩

set_option maxHeartbeats 4000000 in
theorem line_any {e : Ev} (he : okE e) {D : ByteArray} (hD : Hid (D.data.toList = lineL e)) {w : World} (ht : Tab w) : Calls Tryd.prog 21 #[.agg (arr e)] w fun en w' => en = .returned (.string D) ∧ Kept w w' := by
  obtain ⟨A, hA⟩ : ∃ A, arr e = A := ⟨_, rfl⟩
  rw [hA]
  obtain ⟨W, hW⟩ : ∃ W, w.alloc (.cells A 38) = W := ⟨_, rfl⟩
  have hB : Bl w W [(A, 38)] := hW ▸ Bl.one w _ _
  have hat : ∀ u, Kept W u → At u w.heap.size 0 e := fun u hu => at_blk (by rw [hA]; exact kept_at hu (hB.blk 0 rfl))
  have LW := Lib.hid (fun u (hu : Kept W u) => (hat u hu).all)
  have L0 := Lib.hid (fun u (hu : Kept W u) => Ad.run_loadi (hat u hu 0 _ rfl))
  have L1 := Lib.hid (fun u (hu : Kept W u) => Ad.run_loadi (hat u hu 1 _ rfl))
  have L2 := Lib.hid (fun u (hu : Kept W u) => Ad.run_loadi (hat u hu 2 _ rfl))
  have L3 := Lib.hid (fun u (hu : Kept W u) => Ad.run_loadi (hat u hu 3 _ rfl))
  have T := fun u (hu : Kept W u) => ht.kept (hB.kept.trans hu)
  obtain ⟨E1, hE1, s1⟩ := itoa_named e.rl he.rl
  obtain ⟨E2, hE2, s2⟩ := name_named e.kind
  obtain ⟨E3, hE3, s3⟩ := itoa_named e.nd he.nd
  obtain ⟨E4, hE4, s4⟩ := itoa_named e.lc he.lc
  have C1 := Lib.hid (fun u (hu : Kept W u) => itoa_any e.rl he.rl.1 he.rl.2 E1 hE1 u (T u hu))
  have C2 := Lib.hid (fun u (hu : Kept W u) => name_any hE2 u)
  have C3 := Lib.hid (fun u (hu : Kept W u) => itoa_any e.nd he.nd.1 he.nd.2 E3 hE3 u (T u hu))
  have C4 := Lib.hid (fun u (hu : Kept W u) => itoa_any e.lc he.lc.1 he.lc.2 E4 hE4 u (T u hu))
  have CW := Lib.hid (fun u (hu : Kept W u) => whose_any he (T u hu))
  have CM := Lib.hid (fun u (hu : Kept W u) => more_any he (T u hu))
  have HP := Lib.hid (parts_le he)
  rw [hA] at LW CW CM
  have HW := Lib.hid hW
  have HB := Lib.hid hB
  have HE := Lib.hid (And.intro hE1 (And.intro hE2 (And.intro hE3 hE4)))
  clear hA hW hB hat he ht T hE1 hE2 hE3 hE4
  go_enter Tryd.func21, Tryd.ntmps21
  go_upto_region 1 with fail
  rw [HW.out]
  refine Au.region (fun u => Kept W u) (by kernel_rfl) ((Kept.refl W).drew) ?_
  have hSt : Stab (fun u => Kept W u) := stab_kept W
  refine Au.take 0 (some 4) (v := ?_) rfl rfl (by kernel_rfl) (by kernel_rfl) (by kernel_rfl) (fun _ _ _ h => h) hSt (Au.yq_run (by rfl) (fun u hu => ?_)) ?_
  rotate_left
  · (clear hu; go_simp; try with_reducible rfl)
  simp only [Act.put, List.setIfInBounds_toArray, List.set_cons_zero, List.set_cons_succ]
  refine Au.take 1 (some 5) rfl rfl (by kernel_rfl) (by kernel_rfl) (by kernel_rfl) (fun _ _ _ h => h) hSt (Au.yq_load 3 (.tmp 4) rfl _ rfl (by rfl) (fun u hu => L1.out u hu)) ?_
  simp only [Act.put, List.setIfInBounds_toArray, List.set_cons_zero, List.set_cons_succ]
  refine Au.take 2 (some 6) rfl rfl (by kernel_rfl) (by kernel_rfl) (by kernel_rfl) (fun _ _ _ h => h) hSt (Au.yq_call 31 _ (by rfl) (fun u => by go_simp) (fun u hu => C1.out u hu)) ?_
  simp only [Act.put, List.setIfInBounds_toArray, List.set_cons_zero, List.set_cons_succ]
  refine Au.take 3 (some 7) (v := ?_) rfl rfl (by kernel_rfl) (by kernel_rfl) (by kernel_rfl) (fun _ _ _ h => h) hSt (Au.yq_run (by rfl) (fun u hu => ?_)) ?_
  rotate_left
  · (clear hu; go_simp; try with_reducible rfl)
  simp only [Act.put, List.setIfInBounds_toArray, List.set_cons_zero, List.set_cons_succ]
  refine Au.take 4 (some 8) rfl rfl (by kernel_rfl) (by kernel_rfl) (by kernel_rfl) (fun _ _ _ h => h) hSt (Au.yq_load 3 (.tmp 7) rfl _ rfl (by rfl) (fun u hu => L0.out u hu)) ?_
  simp only [Act.put, List.setIfInBounds_toArray, List.set_cons_zero, List.set_cons_succ]
  refine Au.take 5 (some 9) rfl rfl (by kernel_rfl) (by kernel_rfl) (by kernel_rfl) (fun _ _ _ h => h) hSt (Au.yq_call 8 _ (by rfl) (fun u => by go_simp) (fun u hu => C2.out u hu)) ?_
  simp only [Act.put, List.setIfInBounds_toArray, List.set_cons_zero, List.set_cons_succ]
  refine Au.take 6 (some 10) (v := ?_) rfl rfl (by kernel_rfl) (by kernel_rfl) (by kernel_rfl) (fun _ _ _ h => h) hSt (Au.yq_run (by rfl) (fun u hu => ?_)) ?_
  rotate_left
  · (clear hu; go_simp; try with_reducible rfl)
  simp only [Act.put, List.setIfInBounds_toArray, List.set_cons_zero, List.set_cons_succ]
  refine Au.take 7 (some 11) rfl rfl (by kernel_rfl) (by kernel_rfl) (by kernel_rfl) (fun _ _ _ h => h) hSt (Au.yq_load 3 (.tmp 10) rfl _ rfl (by rfl) (fun u hu => L2.out u hu)) ?_
  simp only [Act.put, List.setIfInBounds_toArray, List.set_cons_zero, List.set_cons_succ]
  refine Au.take 8 (some 12) rfl rfl (by kernel_rfl) (by kernel_rfl) (by kernel_rfl) (fun _ _ _ h => h) hSt (Au.yq_call 31 _ (by rfl) (fun u => by go_simp) (fun u hu => C3.out u hu)) ?_
  simp only [Act.put, List.setIfInBounds_toArray, List.set_cons_zero, List.set_cons_succ]
  refine Au.take 9 (some 13) (v := ?_) rfl rfl (by kernel_rfl) (by kernel_rfl) (by kernel_rfl) (fun _ _ _ h => h) hSt (Au.yq_run (by rfl) (fun u hu => ?_)) ?_
  rotate_left
  · (clear hu; go_simp; try with_reducible rfl)
  simp only [Act.put, List.setIfInBounds_toArray, List.set_cons_zero, List.set_cons_succ]
  refine Au.take 10 (some 14) rfl rfl (by kernel_rfl) (by kernel_rfl) (by kernel_rfl) (fun _ _ _ h => h) hSt (Au.yq_load 3 (.tmp 13) rfl _ rfl (by rfl) (fun u hu => L3.out u hu)) ?_
  simp only [Act.put, List.setIfInBounds_toArray, List.set_cons_zero, List.set_cons_succ]
  refine Au.take 11 (some 15) rfl rfl (by kernel_rfl) (by kernel_rfl) (by kernel_rfl) (fun _ _ _ h => h) hSt (Au.yq_call 31 _ (by rfl) (fun u => by go_simp) (fun u hu => C4.out u hu)) ?_
  simp only [Act.put, List.setIfInBounds_toArray, List.set_cons_zero, List.set_cons_succ]
  refine Au.step 12 rfl (by kernel_rfl) (fun w1 hw1 K1 hK1 => ?_)
  rw [if_pos (by rfl)]
  go_simp
  obtain ⟨g, hg⟩ : ∃ g, w1.heap.size = g := ⟨_, rfl⟩
  obtain ⟨CS, hCS⟩ : ∃ CS : Array Value, #[.string E1, .string E2, .string { data := #[97, 116] }, .string E3, .string E4] = CS := ⟨_, rfl⟩
  have hgw : W.heap.size ≤ g := by rw [← hg]; exact Below.size hw1
  have hgb : (w1.alloc (.cells CS 9)).heap[g]? = some (.cells CS 9 (0, 0)) := by rw [← hg]; exact blk_new _ _
  rw [hg, hCS]
  refine hK1.out (fun u => Kept W u ∧ u.heap[g]? = some (.cells CS 9 (0, 0))) _ _ ⟨hw1.trans (Kept.one _ _), hgb⟩ (Au.stab_and hSt (fun u u' h k => kept_at k h)) (fun u hu => hu.1) ?_
  have hSt2 : Stab (fun u => Kept W u ∧ u.heap[g]? = some (.cells CS 9 (0, 0))) := Au.stab_and hSt (fun u u' h k => kept_at k h)
  clear hK1 K1 hw1 hgb hg
  refine Au.take 13 (some 3) (v := ?_) rfl rfl (by kernel_rfl) (by kernel_rfl) (by kernel_rfl) (fun _ _ _ h => h) hSt2 (Au.yq_run (by rfl) (fun u hu => ?_)) ?_
  rotate_left
  · (clear hu; go_simp; try with_reducible rfl)
  simp only [Act.put, List.setIfInBounds_toArray, List.set_cons_zero, List.set_cons_succ]
  refine Au.done (by kernel_rfl) (fun u hu => ?_)
  obtain ⟨X, hX⟩ : ∃ X : List ByteArray, X = [E1, E2, ({ data := #[97, 116] } : ByteArray), E3, E4] := ⟨_, rfl⟩
  have hX5 : X.length = 5 := by rw [hX]; rfl
  have r5 : Ss u W.heap.size (.slice (some ⟨g, 0, none⟩) 5 5) X := ss_blk hu.2 hgw (by rw [← hCS, hX]; rfl) (by omega) hX5
  have hXl : lst X = headL e := by rw [hX]; simp only [lst, List.map_cons, List.map_nil, HE.out.1.out, HE.out.2.1.out, HE.out.2.2.1.out, HE.out.2.2.2.out]; rfl
  have R5 := Lib.hid (And.intro r5 (And.intro hXl hX5))
  have ku := hu.1
  have lu := LW.out u ku
  have CWu := Lib.hid (CW.out u ku)
  have KU := Lib.hid ku
  clear r5 hXl hX5 hX hu hCS ku
  go_upto_region 3 with (first
    | (refine load_l 38 (.tmp 1) rfl _ rfl rfl (.agg A) lu ?_)
    | (go_at_call 32; refine CWu.out.mono ?_; rintro e' w2 ⟨v2, x2, rfl, r2, l2, k2⟩)
    | (at_builtin; refine wpList_append_strs w2 rfl (.tmp 17) (.tmp 19) rfl _ _ X x2 rfl rfl (R5.out.1.keep k2) r2 (by have := whose_num e; rw [← l2, lst_len] at this; have := R5.out.2.2; omega) (Below.size (KU.out.trans k2)) ?_; intro v3 w3 r3 g3))
  have k3 := own_kept (KU.out.trans k2) (R5.out.1.keep k2) g3
  have l3 := LW.out w3 k3
  have CMu := Lib.hid (CM.out w3 k3)
  have R3 := Lib.hid (And.intro r3 (And.intro k3 l2))
  have hn2 : x2.length ≤ 1 := by have := whose_num e; rw [← l2, lst_len] at this; exact this
  have HN2 := Lib.hid hn2
  clear r3 k3 g3 k2 r2 l2 lu hn2
  go_upto_region 4 with (first
    | (refine load_l 38 (.tmp 1) rfl _ rfl rfl (.agg A) l3 ?_)
    | (go_at_call 33; refine CMu.out.mono ?_; rintro e' w4 ⟨v4, x4, rfl, r4, l4, k4⟩)
    | (at_builtin; refine wpList_append_strs w4 rfl (.tmp 21) (.tmp 23) rfl _ _ (X ++ x2) x4 rfl rfl (R3.out.1.keep k4) r4 (by have := more_num e; rw [← l4, lst_len] at this; have := R5.out.2.2; have := HN2.out; rw [List.length_append]; omega) (Below.size (R3.out.2.1.trans k4)) ?_; intro v5 w5 r5 g5))
  have k5 := own_kept (R3.out.2.1.trans k4) (R3.out.1.keep k4) g5
  have hn4 : x4.length ≤ 6 := by have := more_num e; rw [← l4, lst_len] at this; exact this
  have hlen : (X ++ x2 ++ x4).length = 5 + x2.length + x4.length := by rw [List.length_append, List.length_append, R5.out.2.2]
  have hlst : lst (X ++ x2 ++ x4) = headL e ++ whoseL e ++ moreL e := by rw [lst_app, lst_app, R5.out.2.1, R3.out.2.2, l4]
  obtain ⟨Z, hZ⟩ : ∃ Z, X ++ x2 ++ x4 = Z := ⟨_, rfl⟩
  rw [hZ] at r5 hlen hlst
  obtain ⟨gb, cap, rfl, hcap, _, hgl, hcells⟩ := r5.full (fun c => by rw [c] at hlen; simp at hlen; omega)
  have hDj : Hid (D.data.toList = joinS ({ data := #[32] } : ByteArray).data.toList (lst (Z))) := by
    show _ = _
    rw [hD.out, hlst, ← join_is]; rfl
  have hsz : ∀ x ∈ Z, x.size ≤ 1000000 := fun x hx => by
    have h1 : x.data.toList ∈ lst (Z) := List.mem_map.2 ⟨x, hx, rfl⟩
    rw [hlst] at h1
    have h2 := HP.out _ h1
    rw [size_list]; omega
  have CJ := Lib.hid (Sb.join_any hcells hgl (by have := HN2.out; omega) (by have := HN2.out; omega) hcap (by decide) (by decide) hsz hDj)
  have K5 := Lib.hid (HB.out.kept.trans k5)
  clear hcells hgl hcap hsz hDj hlen hlst hZ k5 r5 g5 k4 r4 l4 hn4 l3
  go_wp2_with (first | (go_at_call 34; refine CJ.out.mono ?_; rintro e' w6 ⟨rfl, k6⟩))
  go_ret
  exact ⟨rfl, K5.out.trans k6⟩

end Go.Proofs.YtckjdncacinnkaaDoor.Ev
