/- The laws of events: EventTells, EventCommutes. -/
import Derived.Test.YtckjdncacinnkaaDoorEvL
namespace Go.Proofs.YtckjdncacinnkaaDoor.Ev
open Go.RowKit Go.Sort Go.Shelf IdM Se EvM Blk It
open St (Kept blk_cell blk_free blk_lt blk_set blk_new ret_str size_list)
open Go.Proofs.YtckjdncacinnkaaDoor.Rv
open Go.Proofs.YtckjdncacinnkaaDoor.Ls
open Go.Proofs.YtckjdncacinnkaaDoor.Ad (load_l store_new)
open Go.Proofs.YtckjdncacinnkaaDoor.Tb (Lk kr_lk lk_load Kr encK enc_key lk_take same_any)
open Au (Stab stab_kept stab_and)
open Wh (Fr)
set_option linter.unusedVariables false
set_option linter.unusedSimpArgs false
set_option maxRecDepth 100000

theorem evs_same {w : World} {u v : Value} {K : List Ev} (hu : Le w u K) (hv : Le w v K) : Calls Tryd.prog 12 #[u, v] w fun e w' => e = .returned (.bool true) ∧ Kept w w' := by
  have := rsame_any hu hv
  rwa [decide_eq_true rfl] at this

set_option maxHeartbeats 8000000 in
theorem tells_law {w : World} {v : Value} {L : List Ev} (hv : Le w v L) (hL : ∀ e ∈ L, okE e) (kind : Int) (k : Ke) (hk : okK k) (ht : Tab w) :
    Calls Tryd.prog 3 #[v, .int .i64 kind, kv k] w fun e w' => e = .returned (.bool true) ∧ Kept w w' := by
  obtain ⟨q, N, cap, rfl, hN, hm⟩ := hv.slice
  obtain ⟨W, hW⟩ : ∃ W, w.alloc (.cells #[.int .i64 k.n, .int .i64 k.i, .int .i64 k.s, .int .i64 k.a] 26) = W := ⟨_, rfl⟩
  have hB : Bl w W [(#[.int .i64 k.n, .int .i64 k.i, .int .i64 k.s, .int .i64 k.a], 26)] := hW ▸ Bl.one w _ _
  have lk := fun (u : World) (hu : Kept W u) => lk_blk (u := u) (b := w.heap.size) (k := k) (kept_at hu (hB.blk 0 rfl))
  have hTab := fun u (hu : Kept W u) => ht.kept (hB.kept.trans hu)
  have AW := Lib.hid (fun u (hu : Kept W u) => awake_any (hTab u hu))
  have HW := Lib.hid hW
  have HB := Lib.hid hB
  by_cases h60 : 60 < N
  · have h60' : (60 : Int) < (N : Int) := by omega
    have A0 := Lib.hid (AW.out W (Kept.refl W))
    clear hv ht hW hB lk hL hTab
    unfold kv
    go_enter Tryd.func3, Tryd.ntmps3
    go_upto_region 1 with fail
    rw [HW.out]
    go_wp2_with (first | (go_at_call 7; refine A0.out.mono ?_; rintro e' w2 ⟨rfl, k2⟩))
    go_ret
    exact ⟨rfl, HB.out.kept.trans k2⟩
  · have h60' : ¬ (60 : Int) < (N : Int) := by omega
    have hl : L.length ≤ 60 := by omega
    obtain ⟨DN, hDN, _⟩ := name_named kind
    obtain ⟨DT, hDT⟩ : ∃ D : ByteArray, Hid (D.data.toList = textAll L) := ⟨⟨(textAll L).toArray⟩, rfl⟩
    have hvu := fun u (hu : Kept W u) => hv.go (hB.kept.trans hu)
    have CN1 := Lib.hid (fun u => name_any hDN u)
    have CN2 := Lib.hid (fun u => rname_any hDN u)
    have CT1 := Lib.hid (fun u (hu : Kept W u) => text_any (hvu u hu) (by omega) hL hDT (hTab u hu))
    have CT2 := Lib.hid (fun u (hu : Kept W u) => rtext_any (hvu u hu) (by omega) hL hDT)
    have CO1 := Lib.hid (fun u (hu : Kept W u) => of_any (hvu u hu) (by omega) kind)
    have CO2 := Lib.hid (fun u (hu : Kept W u) => rof_any (hvu u hu) (by omega) kind)
    have CK1 := Lib.hid (fun u (hu : Kept W u) => key_any (hvu u hu) (by omega) k)
    have CK2 := Lib.hid (fun u (hu : Kept W u) => rkey_any (hvu u hu) (by omega) k)
    have CB1 := Lib.hid (fun u (hu : Kept W u) => below_any (hvu u hu) (by omega) hL k hk)
    have CB2 := Lib.hid (fun u (hu : Kept W u) => rbelow_any (hvu u hu) (by omega) k)
    have CS := Lib.hid (fun (u : World) (x y : Value) (h : Lk u x (bel k L)) (h2 : Lk u y (bel k L)) => (by have := same_any h h2; rwa [decide_eq_true rfl] at this : Calls Tryd.prog 17 #[x, y] u fun e u' => e = .returned (.bool true) ∧ Kept u u'))
    have LK := Lib.hid lk
    unfold kv at LK CK1 CK2 CB1 CB2
    clear hv ht hm h60 hW hB lk hL hk hTab hvu hN hl hDN hDT
    unfold kv
    go_enter Tryd.func3, Tryd.ntmps3
    go_upto_region 1 with fail
    rw [HW.out]
    go_upto_region 3 with fail
    refine Au.region (fun u => Kept W u) (by kernel_rfl) ((Kept.refl W).drew) ?_
    have hSt0 : Stab (fun u => Kept W u) := stab_kept W
    refine Au.take 0 (some 11) (v := ?_) rfl rfl (by kernel_rfl) (by kernel_rfl) (by kernel_rfl) (fun _ _ _ h => h) hSt0 (Au.yq_run (by rfl) (fun u hu => ?_)) ?_
    rotate_left
    · (clear hu; go_simp; try with_reducible rfl)
    simp only [Act.put, List.setIfInBounds_toArray, List.set_cons_zero, List.set_cons_succ]
    refine Au.take 1 (some 12) rfl rfl (by kernel_rfl) (by kernel_rfl) (by kernel_rfl) (fun _ _ _ h => h) hSt0 (Au.yq_call 8 _ (by rfl) (fun u => by go_simp) (fun u hu => CN1.out u)) ?_
    simp only [Act.put, List.setIfInBounds_toArray, List.set_cons_zero, List.set_cons_succ]
    refine Au.take 2 (some 13) (v := ?_) rfl rfl (by kernel_rfl) (by kernel_rfl) (by kernel_rfl) (fun _ _ _ h => h) hSt0 (Au.yq_run (by rfl) (fun u hu => ?_)) ?_
    rotate_left
    · (clear hu; go_simp; try with_reducible rfl)
    simp only [Act.put, List.setIfInBounds_toArray, List.set_cons_zero, List.set_cons_succ]
    refine Au.take 3 (some 14) rfl rfl (by kernel_rfl) (by kernel_rfl) (by kernel_rfl) (fun _ _ _ h => h) hSt0 (Au.yq_call 9 _ (by rfl) (fun u => by go_simp) (fun u hu => CN2.out u)) ?_
    simp only [Act.put, List.setIfInBounds_toArray, List.set_cons_zero, List.set_cons_succ]
    refine Au.take 4 (some 15) (v := ?_) rfl rfl (by kernel_rfl) (by kernel_rfl) (by kernel_rfl) (fun _ _ _ h => h) hSt0 (Au.yq_run (by rfl) (fun u hu => ?_)) ?_
    rotate_left
    · (clear hu; go_simp; try with_reducible rfl)
    simp only [Act.put, List.setIfInBounds_toArray, List.set_cons_zero, List.set_cons_succ]
    refine Au.take 5 (some 16) (v := ?_) rfl rfl (by kernel_rfl) (by kernel_rfl) (by kernel_rfl) (fun _ _ _ h => h) hSt0 (Au.yq_run (by rfl) (fun u hu => ?_)) ?_
    rotate_left
    · (clear hu; go_simp; try with_reducible rfl)
    simp only [Act.put, List.setIfInBounds_toArray, List.set_cons_zero, List.set_cons_succ]
    refine Au.take 6 (some 17) (v := ?_) rfl rfl (by kernel_rfl) (by kernel_rfl) (by kernel_rfl) (fun _ _ _ h => h) hSt0 (Au.yq_run (by rfl) (fun u hu => ?_)) ?_
    rotate_left
    · (clear hu; go_simp; try with_reducible rfl)
    simp only [Act.put, List.setIfInBounds_toArray, List.set_cons_zero, List.set_cons_succ]
    refine Au.take 7 (some 18) rfl rfl (by kernel_rfl) (by kernel_rfl) (by kernel_rfl) (fun _ _ _ h => h) hSt0 (Au.yq_call 10 _ (by rfl) (fun u => by go_simp) (fun u hu => CT1.out u hu)) ?_
    simp only [Act.put, List.setIfInBounds_toArray, List.set_cons_zero, List.set_cons_succ]
    refine Au.take 8 (some 19) (v := ?_) rfl rfl (by kernel_rfl) (by kernel_rfl) (by kernel_rfl) (fun _ _ _ h => h) hSt0 (Au.yq_run (by rfl) (fun u hu => ?_)) ?_
    rotate_left
    · (clear hu; go_simp; try with_reducible rfl)
    simp only [Act.put, List.setIfInBounds_toArray, List.set_cons_zero, List.set_cons_succ]
    refine Au.take 9 (some 20) rfl rfl (by kernel_rfl) (by kernel_rfl) (by kernel_rfl) (fun _ _ _ h => h) hSt0 (Au.yq_call 11 _ (by rfl) (fun u => by go_simp) (fun u hu => CT2.out u hu)) ?_
    simp only [Act.put, List.setIfInBounds_toArray, List.set_cons_zero, List.set_cons_succ]
    refine Au.take 10 (some 21) (v := ?_) rfl rfl (by kernel_rfl) (by kernel_rfl) (by kernel_rfl) (fun _ _ _ h => h) hSt0 (Au.yq_run (by rfl) (fun u hu => ?_)) ?_
    rotate_left
    · (clear hu; go_simp; try with_reducible rfl)
    simp only [Act.put, List.setIfInBounds_toArray, List.set_cons_zero, List.set_cons_succ]
    refine Au.take 11 (some 22) (v := ?_) rfl rfl (by kernel_rfl) (by kernel_rfl) (by kernel_rfl) (fun _ _ _ h => h) hSt0 (Au.yq_run (by rfl) (fun u hu => ?_)) ?_
    rotate_left
    · (clear hu; go_simp; try with_reducible rfl)
    simp only [Act.put, List.setIfInBounds_toArray, List.set_cons_zero, List.set_cons_succ]
    refine Au.take 12 (some 23) (v := ?_) rfl rfl (by kernel_rfl) (by kernel_rfl) (by kernel_rfl) (fun _ _ _ h => h) hSt0 (Au.yq_run (by rfl) (fun u hu => ?_)) ?_
    rotate_left
    · (clear hu; go_simp; try with_reducible rfl)
    simp only [Act.put, List.setIfInBounds_toArray, List.set_cons_zero, List.set_cons_succ]
    refine Au.take 13 (some 24) (v := ?_) rfl rfl (by kernel_rfl) (by kernel_rfl) (by kernel_rfl) (fun _ _ _ h => h) hSt0 (Au.yq_run (by rfl) (fun u hu => ?_)) ?_
    rotate_left
    · (clear hu; go_simp; try with_reducible rfl)
    simp only [Act.put, List.setIfInBounds_toArray, List.set_cons_zero, List.set_cons_succ]
    refine Au.take 14 (some 25) (v := ?_) rfl rfl (by kernel_rfl) (by kernel_rfl) (by kernel_rfl) (fun _ _ _ h => h) hSt0 (Au.yq_run (by rfl) (fun u hu => ?_)) ?_
    rotate_left
    · (clear hu; go_simp; try with_reducible rfl)
    simp only [Act.put, List.setIfInBounds_toArray, List.set_cons_zero, List.set_cons_succ]
    refine Au.take 16 (some 27) (v := ?_) rfl rfl (by kernel_rfl) (by kernel_rfl) (by kernel_rfl) (fun _ _ _ h => h) hSt0 (Au.yq_run (by rfl) (fun u hu => ?_)) ?_
    rotate_left
    · (clear hu; go_simp; try with_reducible rfl)
    simp only [Act.put, List.setIfInBounds_toArray, List.set_cons_zero, List.set_cons_succ]
    refine Au.take 17 (some 28) (v := ?_) rfl rfl (by kernel_rfl) (by kernel_rfl) (by kernel_rfl) (fun _ _ _ h => h) hSt0 (Au.yq_run (by rfl) (fun u hu => ?_)) ?_
    rotate_left
    · (clear hu; go_simp; try with_reducible rfl)
    simp only [Act.put, List.setIfInBounds_toArray, List.set_cons_zero, List.set_cons_succ]
    refine Au.step 15 rfl (by kernel_rfl) (fun w1 hw1 K1 hK1 => ?_)
    rw [if_pos (by rfl)]
    go_simp
    refine (CO1.out w1 (hw1)).mono ?_
    rintro e' w2 ⟨v15, rfl, r2, k2⟩
    go_wp2_with fail
    refine hK1.out (fun u => (Kept W u) ∧ Le u v15 (L.filter (ofP kind))) _ _ ⟨hSt0 _ _ hw1 k2, r2⟩ (stab_and hSt0 (fun u u' h k => h.go k)) (fun u hu => hu.1) ?_
    have hSt1 : Stab (fun u => (Kept W u) ∧ Le u v15 (L.filter (ofP kind))) := stab_and hSt0 (fun u u' h k => h.go k)
    clear hK1 K1 r2 k2 hw1
    refine Au.step 18 rfl (by kernel_rfl) (fun w1 hw1 K1 hK1 => ?_)
    rw [if_pos (by rfl)]
    go_simp
    refine (CO2.out w1 (hw1.1)).mono ?_
    rintro e' w2 ⟨v18, rfl, r2, k2⟩
    go_wp2_with fail
    refine hK1.out (fun u => ((Kept W u) ∧ Le u v15 (L.filter (ofP kind))) ∧ Le u v18 (L.filter (ofP kind))) _ _ ⟨hSt1 _ _ hw1 k2, r2⟩ (stab_and hSt1 (fun u u' h k => h.go k)) (fun u hu => hu.1) ?_
    have hSt2 : Stab (fun u => ((Kept W u) ∧ Le u v15 (L.filter (ofP kind))) ∧ Le u v18 (L.filter (ofP kind))) := stab_and hSt1 (fun u u' h k => h.go k)
    clear hK1 K1 r2 k2 hw1
    refine Au.take 19 (some 30) rfl rfl (by kernel_rfl) (by kernel_rfl) (by kernel_rfl) (fun _ _ _ h => h) hSt2 (Au.yq_call 12 _ (by rfl) (fun u => by go_simp) (fun u hu => evs_same (hu.1.2) (hu.2))) ?_
    simp only [Act.put, List.setIfInBounds_toArray, List.set_cons_zero, List.set_cons_succ]
    refine Au.take 20 (some 31) (v := ?_) rfl rfl (by kernel_rfl) (by kernel_rfl) (by kernel_rfl) (fun _ _ _ h => h) hSt2 (Au.yq_run (by rfl) (fun u hu => ?_)) ?_
    rotate_left
    · (clear hu; go_simp; try with_reducible rfl)
    simp only [Act.put, List.setIfInBounds_toArray, List.set_cons_zero, List.set_cons_succ]
    refine Au.take 21 (some 32) (v := ?_) rfl rfl (by kernel_rfl) (by kernel_rfl) (by kernel_rfl) (fun _ _ _ h => h) hSt2 (Au.yq_run (by rfl) (fun u hu => ?_)) ?_
    rotate_left
    · (clear hu; go_simp; try with_reducible rfl)
    simp only [Act.put, List.setIfInBounds_toArray, List.set_cons_zero, List.set_cons_succ]
    refine Au.take 22 (some 33) (v := ?_) rfl rfl (by kernel_rfl) (by kernel_rfl) (by kernel_rfl) (fun _ _ _ h => h) hSt2 (Au.yq_run (by rfl) (fun u hu => ?_)) ?_
    rotate_left
    · (clear hu; go_simp; try with_reducible rfl)
    simp only [Act.put, List.setIfInBounds_toArray, List.set_cons_zero, List.set_cons_succ]
    refine Au.take 23 (some 34) rfl rfl (by kernel_rfl) (by kernel_rfl) (by kernel_rfl) (fun _ _ _ h => h) hSt2 (Au.yq_load 26 (.tmp 5) rfl _ rfl (by rfl) (fun u hu => LK.out u (hu.1.1))) ?_
    simp only [Act.put, List.setIfInBounds_toArray, List.set_cons_zero, List.set_cons_succ]
    refine Au.take 25 (some 36) (v := ?_) rfl rfl (by kernel_rfl) (by kernel_rfl) (by kernel_rfl) (fun _ _ _ h => h) hSt2 (Au.yq_run (by rfl) (fun u hu => ?_)) ?_
    rotate_left
    · (clear hu; go_simp; try with_reducible rfl)
    simp only [Act.put, List.setIfInBounds_toArray, List.set_cons_zero, List.set_cons_succ]
    refine Au.take 26 (some 37) rfl rfl (by kernel_rfl) (by kernel_rfl) (by kernel_rfl) (fun _ _ _ h => h) hSt2 (Au.yq_load 26 (.tmp 5) rfl _ rfl (by rfl) (fun u hu => LK.out u (hu.1.1))) ?_
    simp only [Act.put, List.setIfInBounds_toArray, List.set_cons_zero, List.set_cons_succ]
    refine Au.step 24 rfl (by kernel_rfl) (fun w1 hw1 K1 hK1 => ?_)
    rw [if_pos (by rfl)]
    go_simp
    refine (CK1.out w1 (hw1.1.1)).mono ?_
    rintro e' w2 ⟨v24, rfl, r2, k2⟩
    go_wp2_with fail
    refine hK1.out (fun u => (((Kept W u) ∧ Le u v15 (L.filter (ofP kind))) ∧ Le u v18 (L.filter (ofP kind))) ∧ Le u v24 (L.filter (keyP k))) _ _ ⟨hSt2 _ _ hw1 k2, r2⟩ (stab_and hSt2 (fun u u' h k => h.go k)) (fun u hu => hu.1) ?_
    have hSt3 : Stab (fun u => (((Kept W u) ∧ Le u v15 (L.filter (ofP kind))) ∧ Le u v18 (L.filter (ofP kind))) ∧ Le u v24 (L.filter (keyP k))) := stab_and hSt2 (fun u u' h k => h.go k)
    clear hK1 K1 r2 k2 hw1
    refine Au.step 27 rfl (by kernel_rfl) (fun w1 hw1 K1 hK1 => ?_)
    rw [if_pos (by rfl)]
    go_simp
    refine (CK2.out w1 (hw1.1.1.1)).mono ?_
    rintro e' w2 ⟨v27, rfl, r2, k2⟩
    go_wp2_with fail
    refine hK1.out (fun u => ((((Kept W u) ∧ Le u v15 (L.filter (ofP kind))) ∧ Le u v18 (L.filter (ofP kind))) ∧ Le u v24 (L.filter (keyP k))) ∧ Le u v27 (L.filter (keyP k))) _ _ ⟨hSt3 _ _ hw1 k2, r2⟩ (stab_and hSt3 (fun u u' h k => h.go k)) (fun u hu => hu.1) ?_
    have hSt4 : Stab (fun u => ((((Kept W u) ∧ Le u v15 (L.filter (ofP kind))) ∧ Le u v18 (L.filter (ofP kind))) ∧ Le u v24 (L.filter (keyP k))) ∧ Le u v27 (L.filter (keyP k))) := stab_and hSt3 (fun u u' h k => h.go k)
    clear hK1 K1 r2 k2 hw1
    refine Au.take 28 (some 39) rfl rfl (by kernel_rfl) (by kernel_rfl) (by kernel_rfl) (fun _ _ _ h => h) hSt4 (Au.yq_call 12 _ (by rfl) (fun u => by go_simp) (fun u hu => evs_same (hu.1.2) (hu.2))) ?_
    simp only [Act.put, List.setIfInBounds_toArray, List.set_cons_zero, List.set_cons_succ]
    refine Au.take 29 (some 40) (v := ?_) rfl rfl (by kernel_rfl) (by kernel_rfl) (by kernel_rfl) (fun _ _ _ h => h) hSt4 (Au.yq_run (by rfl) (fun u hu => ?_)) ?_
    rotate_left
    · (clear hu; go_simp; try with_reducible rfl)
    simp only [Act.put, List.setIfInBounds_toArray, List.set_cons_zero, List.set_cons_succ]
    refine Au.take 30 (some 41) (v := ?_) rfl rfl (by kernel_rfl) (by kernel_rfl) (by kernel_rfl) (fun _ _ _ h => h) hSt4 (Au.yq_run (by rfl) (fun u hu => ?_)) ?_
    rotate_left
    · (clear hu; go_simp; try with_reducible rfl)
    simp only [Act.put, List.setIfInBounds_toArray, List.set_cons_zero, List.set_cons_succ]
    refine Au.take 31 (some 42) (v := ?_) rfl rfl (by kernel_rfl) (by kernel_rfl) (by kernel_rfl) (fun _ _ _ h => h) hSt4 (Au.yq_run (by rfl) (fun u hu => ?_)) ?_
    rotate_left
    · (clear hu; go_simp; try with_reducible rfl)
    simp only [Act.put, List.setIfInBounds_toArray, List.set_cons_zero, List.set_cons_succ]
    refine Au.take 32 (some 43) rfl rfl (by kernel_rfl) (by kernel_rfl) (by kernel_rfl) (fun _ _ _ h => h) hSt4 (Au.yq_load 26 (.tmp 5) rfl _ rfl (by rfl) (fun u hu => LK.out u (hu.1.1.1.1))) ?_
    simp only [Act.put, List.setIfInBounds_toArray, List.set_cons_zero, List.set_cons_succ]
    refine Au.take 34 (some 45) (v := ?_) rfl rfl (by kernel_rfl) (by kernel_rfl) (by kernel_rfl) (fun _ _ _ h => h) hSt4 (Au.yq_run (by rfl) (fun u hu => ?_)) ?_
    rotate_left
    · (clear hu; go_simp; try with_reducible rfl)
    simp only [Act.put, List.setIfInBounds_toArray, List.set_cons_zero, List.set_cons_succ]
    refine Au.take 35 (some 46) rfl rfl (by kernel_rfl) (by kernel_rfl) (by kernel_rfl) (fun _ _ _ h => h) hSt4 (Au.yq_load 26 (.tmp 5) rfl _ rfl (by rfl) (fun u hu => LK.out u (hu.1.1.1.1))) ?_
    simp only [Act.put, List.setIfInBounds_toArray, List.set_cons_zero, List.set_cons_succ]
    refine Au.step 33 rfl (by kernel_rfl) (fun w1 hw1 K1 hK1 => ?_)
    rw [if_pos (by rfl)]
    go_simp
    refine (CB1.out w1 (hw1.1.1.1.1)).mono ?_
    rintro e' w2 ⟨v33, rfl, r2, k2⟩
    go_wp2_with fail
    refine hK1.out (fun u => (((((Kept W u) ∧ Le u v15 (L.filter (ofP kind))) ∧ Le u v18 (L.filter (ofP kind))) ∧ Le u v24 (L.filter (keyP k))) ∧ Le u v27 (L.filter (keyP k))) ∧ Lk u v33 (bel k L)) _ _ ⟨hSt4 _ _ hw1 k2, r2⟩ (stab_and hSt4 (fun u u' h k => h.go k)) (fun u hu => hu.1) ?_
    have hSt5 : Stab (fun u => (((((Kept W u) ∧ Le u v15 (L.filter (ofP kind))) ∧ Le u v18 (L.filter (ofP kind))) ∧ Le u v24 (L.filter (keyP k))) ∧ Le u v27 (L.filter (keyP k))) ∧ Lk u v33 (bel k L)) := stab_and hSt4 (fun u u' h k => h.go k)
    clear hK1 K1 r2 k2 hw1
    refine Au.step 36 rfl (by kernel_rfl) (fun w1 hw1 K1 hK1 => ?_)
    rw [if_pos (by rfl)]
    go_simp
    refine (CB2.out w1 (hw1.1.1.1.1.1)).mono ?_
    rintro e' w2 ⟨v36, rfl, r2, k2⟩
    go_wp2_with fail
    refine hK1.out (fun u => ((((((Kept W u) ∧ Le u v15 (L.filter (ofP kind))) ∧ Le u v18 (L.filter (ofP kind))) ∧ Le u v24 (L.filter (keyP k))) ∧ Le u v27 (L.filter (keyP k))) ∧ Lk u v33 (bel k L)) ∧ Lk u v36 (bel k L)) _ _ ⟨hSt5 _ _ hw1 k2, r2⟩ (stab_and hSt5 (fun u u' h k => h.go k)) (fun u hu => hu.1) ?_
    have hSt6 : Stab (fun u => ((((((Kept W u) ∧ Le u v15 (L.filter (ofP kind))) ∧ Le u v18 (L.filter (ofP kind))) ∧ Le u v24 (L.filter (keyP k))) ∧ Le u v27 (L.filter (keyP k))) ∧ Lk u v33 (bel k L)) ∧ Lk u v36 (bel k L)) := stab_and hSt5 (fun u u' h k => h.go k)
    clear hK1 K1 r2 k2 hw1
    refine Au.take 37 (some 48) rfl rfl (by kernel_rfl) (by kernel_rfl) (by kernel_rfl) (fun _ _ _ h => h) hSt6 (Au.yq_call 17 _ (by rfl) (fun u => by go_simp) (fun u hu => CS.out u _ _ (hu.1.2) (hu.2))) ?_
    simp only [Act.put, List.setIfInBounds_toArray, List.set_cons_zero, List.set_cons_succ]
    refine Au.take 38 (some 49) (v := ?_) rfl rfl (by kernel_rfl) (by kernel_rfl) (by kernel_rfl) (fun _ _ _ h => h) hSt6 (Au.yq_run (by rfl) (fun u hu => ?_)) ?_
    rotate_left
    · (clear hu; go_simp; try with_reducible rfl)
    simp only [Act.put, List.setIfInBounds_toArray, List.set_cons_zero, List.set_cons_succ]
    refine Au.take 39 (some 50) (v := ?_) rfl rfl (by kernel_rfl) (by kernel_rfl) (by kernel_rfl) (fun _ _ _ h => h) hSt6 (Au.yq_run (by rfl) (fun u hu => ?_)) ?_
    rotate_left
    · (clear hu; go_simp; try with_reducible rfl)
    simp only [Act.put, List.setIfInBounds_toArray, List.set_cons_zero, List.set_cons_succ]
    refine Au.take 40 (some 51) rfl rfl (by kernel_rfl) (by kernel_rfl) (by kernel_rfl) (fun _ _ _ h => h) hSt6 (Au.yq_call 7 _ (by rfl) (fun u => by go_simp) (fun u hu => AW.out u (hu.1.1.1.1.1.1))) ?_
    simp only [Act.put, List.setIfInBounds_toArray, List.set_cons_zero, List.set_cons_succ]
    refine Au.take 41 (some 52) (v := ?_) rfl rfl (by kernel_rfl) (by kernel_rfl) (by kernel_rfl) (fun _ _ _ h => h) hSt6 (Au.yq_run (by rfl) (fun u hu => ?_)) ?_
    rotate_left
    · (clear hu; go_simp; try with_reducible rfl)
    simp only [Act.put, List.setIfInBounds_toArray, List.set_cons_zero, List.set_cons_succ]
    refine Au.take 42 (some 6) (v := ?_) rfl rfl (by kernel_rfl) (by kernel_rfl) (by kernel_rfl) (fun _ _ _ h => h) hSt6 (Au.yq_run (by rfl) (fun u hu => ?_)) ?_
    rotate_left
    · (clear hu; go_simp; try with_reducible rfl)
    simp only [Act.put, List.setIfInBounds_toArray, List.set_cons_zero, List.set_cons_succ]
    refine Au.done (by kernel_rfl) (fun u hu => ?_)
    have ku := hu.1.1.1.1.1.1
    go_wp2_with fail
    go_ret
    exact ⟨rfl, HB.out.kept.trans ku⟩

/-- 'append(v, u...)', u whoever's -/
theorem append_les (w : World) {ops : Array Oper} {rest : List Oper} {o : Oper} {a : Act} {Q : Exit → Act → World → Prop} (hgd : o.guard = none) (s x : Operand)
    (ho : o.op = .call { callee := .builtin .append, args := #[s, x], argTypes := #[22, 22] }) (v u : Value) (H K : List Ev) (hs : a.eval s = v) (hx : a.eval x = u) (hv' : Er w v H) (hu : Le w u K) (hnil : ∀ n c, u = .slice none n c → n = 0 ∧ c = 0) (hn : H.length + K.length ≤ 1000000)
    (h : ∀ v2 w2, Er w2 v2 (H ++ K) → w.grownBy w2 v.ownBlock → (v2.ownBlock = v.ownBlock ∨ ∃ g, v2.ownBlock = some g ∧ w.heap.size ≤ g) → wpList Tryd.prog ops Q rest (a.put o.dst v2) w2) : wpList Tryd.prog ops Q (o :: rest) a w := by
  by_cases hK : K = []
  · subst hK
    obtain ⟨p, c, rfl⟩ := hu.shape
    cases p with
    | none =>
      obtain ⟨_, rfl⟩ := hnil _ _ rfl
      obtain ⟨i0, hi, hz0, hz1, hz2⟩ := info_parts enc_ev.info
      rw [List.append_nil] at h
      exact wpList_append_own_none hgd s x _ ho 0 _ i0 18 enc_ev.us hi v H.length (fl encE H) hs hv' hx (h v w hv' ⟨rfl, rfl, rfl, Nat.le_refl _, fun _ _ _ => rfl⟩ (Or.inl rfl))
    | some ad => exact wpList_append_rowv enc_ev w hgd s x ho v _ H [] hs hx hv' ⟨ad, c, rfl, fun j y hy => by simp [fl] at hy⟩ hn h
  · exact wpList_append_rowv enc_ev w hgd s x ho v u H K hs hx hv' (Ls.src (fun _ => rfl) (by decide) hu hK) hn h

set_option maxHeartbeats 8000000 in
theorem commutes_law {w : World} {v v2 : Value} {L M : List Ev} (hv : Le w v L) (hv2 : Le w v2 M) (hn1 : ∀ n c, v = .slice none n c → n = 0 ∧ c = 0) (hn2 : ∀ n c, v2 = .slice none n c → n = 0 ∧ c = 0) (hL : ∀ e ∈ L, okE e) (hM : ∀ e ∈ M, okE e) (kind : Int) (k : Ke) (ht : Tab w) :
    Calls Tryd.prog 6 #[v, v2, .int .i64 kind, kv k] w fun e w' => e = .returned (.bool true) ∧ Kept w w' := by
  obtain ⟨q2, N2, cap2, rfl, hN2, hm2⟩ := hv2.slice
  obtain ⟨q, N, cap, rfl, hN, hm⟩ := hv.slice
  obtain ⟨W, hW⟩ : ∃ W, w.alloc (.cells #[.int .i64 k.n, .int .i64 k.i, .int .i64 k.s, .int .i64 k.a] 26) = W := ⟨_, rfl⟩
  have hB : Bl w W [(#[.int .i64 k.n, .int .i64 k.i, .int .i64 k.s, .int .i64 k.a], 26)] := hW ▸ Bl.one w _ _
  have lk := fun (u : World) (hu : Kept W u) => lk_blk (u := u) (b := w.heap.size) (k := k) (kept_at hu (hB.blk 0 rfl))
  have hTab := fun u (hu : Kept W u) => ht.kept (hB.kept.trans hu)
  have AW := Lib.hid (fun u (hu : Kept W u) => awake_any (hTab u hu))
  have HW := Lib.hid hW
  have HB := Lib.hid hB
  by_cases h60 : 60 < N ∨ 60 < N2
  · have A0 := Lib.hid (AW.out W (Kept.refl W))
    clear hv hv2 ht hW hB lk hL hM hTab hn1 hn2
    unfold kv
    by_cases h1 : 60 < N
    · have h60' : (60 : Int) < (N : Int) := by omega
      go_enter Tryd.func6, Tryd.ntmps6
      go_upto_region 1 with fail
      rw [HW.out]
      go_wp2_with (first | (go_at_call 7; refine A0.out.mono ?_; rintro e' w2 ⟨rfl, k2⟩))
      go_ret
      exact ⟨rfl, HB.out.kept.trans k2⟩
    · have h60' : ¬ (60 : Int) < (N : Int) := by omega
      have h60'' : (60 : Int) < (N2 : Int) := by omega
      go_enter Tryd.func6, Tryd.ntmps6
      go_upto_region 1 with fail
      rw [HW.out]
      go_wp2_with (first | (go_at_call 7; refine A0.out.mono ?_; rintro e' w2 ⟨rfl, k2⟩))
      go_ret
      exact ⟨rfl, HB.out.kept.trans k2⟩
  · have h60' : ¬ (60 : Int) < (N : Int) := by omega
    have h60'' : ¬ (60 : Int) < (N2 : Int) := by omega
    have hl : L.length ≤ 60 := by omega
    have hl2 : M.length ≤ 60 := by omega
    have hvW := hv.go hB.kept
    have hvW2 := hv2.go hB.kept
    have HV := Lib.hid (And.intro hvW (And.intro hvW2 (And.intro hn1 hn2)))
    have HL := Lib.hid (And.intro hL (And.intro hM (And.intro hl hl2)))
    have HT := Lib.hid hTab
    have LK0 := Lib.hid lk
    clear hv hv2 ht hm hm2 h60 hW hB lk hL hM hTab hN hN2 hn1 hn2 hvW hvW2 hl hl2
    unfold kv
    go_enter Tryd.func6, Tryd.ntmps6
    go_upto_region 1 with fail
    rw [HW.out]
    go_upto_region 5 with (first
      | (at_builtin; refine append_les W rfl (.tmp 19) (.tmp 20) rfl _ _ [] L rfl rfl (rowv_nil _ _ _ _) HV.out.1 HV.out.2.2.1 (by have := HL.out.2.2.1; simp; omega) ?_; intro v3 w3 r3 g3 b3))
    have k3 : Kept W w3 := ((Fr.kept (S := fun j => W.heap.size ≤ j) (Kept.refl W)).grown g3 (fun j c => by cases c)).keeps (fun j c => c)
    have o3 : ∀ g, v3.ownBlock = some g → W.heap.size ≤ g := fun g c => by
      rcases b3 with d | ⟨g2, d, h⟩
      · rw [d] at c; cases c
      · rw [c] at d; cases d; exact h
    have R3 := Lib.hid (And.intro r3 (And.intro k3 o3))
    clear r3 g3 b3 k3 o3
    go_upto_region 6 with (first
      | (at_builtin; refine append_les w3 rfl (.tmp 22) (.tmp 23) rfl _ _ ([] ++ L) M rfl rfl R3.out.1 (HV.out.2.1.go R3.out.2.1) HV.out.2.2.2 (by have := HL.out.2.2.1; have := HL.out.2.2.2; simp; omega) ?_; intro v4 V r4 g4 b4))
    have kV : Kept W V := ((Fr.kept (S := fun j => W.heap.size ≤ j) R3.out.2.1).grown g4 (fun j c => .inl (R3.out.2.2 j c))).keeps (fun j c => c)
    rw [List.nil_append] at r4
    have hboth : Le V v4 (L ++ M) := er_le r4 (by rw [List.length_append]; have := HL.out.2.2.1; have := HL.out.2.2.2; omega)
    obtain ⟨DL, hDL⟩ : ∃ D : ByteArray, Hid (D.data.toList = textAll L) := ⟨⟨(textAll L).toArray⟩, rfl⟩
    obtain ⟨DM, hDM⟩ : ∃ D : ByteArray, Hid (D.data.toList = textAll M) := ⟨⟨(textAll M).toArray⟩, rfl⟩
    obtain ⟨DB, hDB⟩ : ∃ D : ByteArray, Hid (D.data.toList = textAll (L ++ M)) := ⟨⟨(textAll (L ++ M)).toArray⟩, rfl⟩
    have hcat : DL ++ DM = DB := by
      rw [St.str_of DB _ hDB.out, St.str_of (DL ++ DM) (textAll (L ++ M)) (by rw [text_app]; simp [hDL.out, hDM.out])]
    have hsz : ¬ 9223372036854775807 < DL.size + DM.size := by
      have h1 := textAll_len HL.out.1
      have h2 := textAll_len HL.out.2.1
      have h3 := HL.out.2.2.1
      have h4 := HL.out.2.2.2
      have h5 : L.length * 1057 ≤ 60 * 1057 := Nat.mul_le_mul_right _ h3
      have h6 : M.length * 1057 ≤ 60 * 1057 := Nat.mul_le_mul_right _ h4
      rw [size_list, size_list, hDL.out, hDM.out]; omega
    have CK1 := Lib.hid (fun u (hu : Kept V u) => key_any (HV.out.1.go (kV.trans hu)) (by have := HL.out.2.2.1; omega) k)
    have CO1 := Lib.hid (fun u x (hx : Le u x (L.filter (keyP k))) => of_any hx (by have := HL.out.2.2.1; have := List.length_filter_le (keyP k) L; omega) kind)
    have CO2 := Lib.hid (fun u (hu : Kept V u) => of_any (HV.out.1.go (kV.trans hu)) (by have := HL.out.2.2.1; omega) kind)
    have CK2 := Lib.hid (fun u x (hx : Le u x (L.filter (ofP kind))) => (by have := key_any hx (by have := HL.out.2.2.1; have := List.length_filter_le (ofP kind) L; omega) k; rwa [filter_turn] at this : Calls Tryd.prog 15 #[x, kv k] u (tellE u ((L.filter (keyP k)).filter (ofP kind)))))
    have CT1 := Lib.hid (fun u (hu : Kept V u) => text_any (HV.out.1.go (kV.trans hu)) (by have := HL.out.2.2.1; omega) HL.out.1 hDL (HT.out u (kV.trans hu)))
    have CT2 := Lib.hid (fun u (hu : Kept V u) => text_any (HV.out.2.1.go (kV.trans hu)) (by have := HL.out.2.2.2; omega) HL.out.2.1 hDM (HT.out u (kV.trans hu)))
    have CT3 := Lib.hid (fun u (hu : Kept V u) => text_any (hboth.go hu) (by rw [List.length_append]; have := HL.out.2.2.1; have := HL.out.2.2.2; omega) (fun e he => (List.mem_append.1 he).elim (HL.out.1 e) (HL.out.2.1 e)) hDB (HT.out u (kV.trans hu)))
    have AV := Lib.hid (fun u (hu : Kept V u) => AW.out u (kV.trans hu))
    have LK := Lib.hid (fun u (hu : Kept V u) => LK0.out u (kV.trans hu))
    have KV := Lib.hid kV
    unfold kv at LK CK1 CK2
    clear g4 b4 r4 hboth kV hDL hDM hDB
    refine Au.region (fun u => Kept V u) (by kernel_rfl) ((Kept.refl V).drew) ?_
    have hSt0 : Stab (fun u => Kept V u) := stab_kept V
    refine Au.take 0 (some 25) (v := ?_) rfl rfl (by kernel_rfl) (by kernel_rfl) (by kernel_rfl) (fun _ _ _ h => h) hSt0 (Au.yq_run (by rfl) (fun u hu => ?_)) ?_
    rotate_left
    · (clear hu; go_simp; try with_reducible rfl)
    simp only [Act.put, List.setIfInBounds_toArray, List.set_cons_zero, List.set_cons_succ]
    refine Au.take 1 (some 26) rfl rfl (by kernel_rfl) (by kernel_rfl) (by kernel_rfl) (fun _ _ _ h => h) hSt0 (Au.yq_load 26 (.tmp 7) rfl _ rfl (by rfl) (fun u hu => LK.out u (hu))) ?_
    simp only [Act.put, List.setIfInBounds_toArray, List.set_cons_zero, List.set_cons_succ]
    refine Au.take 3 (some 28) (v := ?_) rfl rfl (by kernel_rfl) (by kernel_rfl) (by kernel_rfl) (fun _ _ _ h => h) hSt0 (Au.yq_run (by rfl) (fun u hu => ?_)) ?_
    rotate_left
    · (clear hu; go_simp; try with_reducible rfl)
    simp only [Act.put, List.setIfInBounds_toArray, List.set_cons_zero, List.set_cons_succ]
    refine Au.take 5 (some 30) (v := ?_) rfl rfl (by kernel_rfl) (by kernel_rfl) (by kernel_rfl) (fun _ _ _ h => h) hSt0 (Au.yq_run (by rfl) (fun u hu => ?_)) ?_
    rotate_left
    · (clear hu; go_simp; try with_reducible rfl)
    simp only [Act.put, List.setIfInBounds_toArray, List.set_cons_zero, List.set_cons_succ]
    refine Au.take 6 (some 31) (v := ?_) rfl rfl (by kernel_rfl) (by kernel_rfl) (by kernel_rfl) (fun _ _ _ h => h) hSt0 (Au.yq_run (by rfl) (fun u hu => ?_)) ?_
    rotate_left
    · (clear hu; go_simp; try with_reducible rfl)
    simp only [Act.put, List.setIfInBounds_toArray, List.set_cons_zero, List.set_cons_succ]
    refine Au.take 8 (some 33) rfl rfl (by kernel_rfl) (by kernel_rfl) (by kernel_rfl) (fun _ _ _ h => h) hSt0 (Au.yq_load 26 (.tmp 7) rfl _ rfl (by rfl) (fun u hu => LK.out u (hu))) ?_
    simp only [Act.put, List.setIfInBounds_toArray, List.set_cons_zero, List.set_cons_succ]
    refine Au.step 2 rfl (by kernel_rfl) (fun w1 hw1 K1 hK1 => ?_)
    rw [if_pos (by rfl)]
    go_simp
    refine (CK1.out w1 (hw1)).mono ?_
    rintro e' w2 ⟨v2, rfl, r2, k2⟩
    go_wp2_with fail
    refine hK1.out (fun u => (Kept V u) ∧ Le u v2 (L.filter (keyP k))) _ _ ⟨hSt0 _ _ hw1 k2, r2⟩ (stab_and hSt0 (fun u u' h k => h.go k)) (fun u hu => hu.1) ?_
    have hSt1 : Stab (fun u => (Kept V u) ∧ Le u v2 (L.filter (keyP k))) := stab_and hSt0 (fun u u' h k => h.go k)
    clear hK1 K1 r2 k2 hw1
    refine Au.step 4 rfl (by kernel_rfl) (fun w1 hw1 K1 hK1 => ?_)
    rw [if_pos (by rfl)]
    go_simp
    refine (CO1.out w1 _ (hw1.2)).mono ?_
    rintro e' w2 ⟨v4, rfl, r2, k2⟩
    go_wp2_with fail
    refine hK1.out (fun u => ((Kept V u) ∧ Le u v2 (L.filter (keyP k))) ∧ Le u v4 ((L.filter (keyP k)).filter (ofP kind))) _ _ ⟨hSt1 _ _ hw1 k2, r2⟩ (stab_and hSt1 (fun u u' h k => h.go k)) (fun u hu => hu.1) ?_
    have hSt2 : Stab (fun u => ((Kept V u) ∧ Le u v2 (L.filter (keyP k))) ∧ Le u v4 ((L.filter (keyP k)).filter (ofP kind))) := stab_and hSt1 (fun u u' h k => h.go k)
    clear hK1 K1 r2 k2 hw1
    refine Au.step 7 rfl (by kernel_rfl) (fun w1 hw1 K1 hK1 => ?_)
    rw [if_pos (by rfl)]
    go_simp
    refine (CO2.out w1 (hw1.1.1)).mono ?_
    rintro e' w2 ⟨v7, rfl, r2, k2⟩
    go_wp2_with fail
    refine hK1.out (fun u => (((Kept V u) ∧ Le u v2 (L.filter (keyP k))) ∧ Le u v4 ((L.filter (keyP k)).filter (ofP kind))) ∧ Le u v7 (L.filter (ofP kind))) _ _ ⟨hSt2 _ _ hw1 k2, r2⟩ (stab_and hSt2 (fun u u' h k => h.go k)) (fun u hu => hu.1) ?_
    have hSt3 : Stab (fun u => (((Kept V u) ∧ Le u v2 (L.filter (keyP k))) ∧ Le u v4 ((L.filter (keyP k)).filter (ofP kind))) ∧ Le u v7 (L.filter (ofP kind))) := stab_and hSt2 (fun u u' h k => h.go k)
    clear hK1 K1 r2 k2 hw1
    refine Au.step 9 rfl (by kernel_rfl) (fun w1 hw1 K1 hK1 => ?_)
    rw [if_pos (by rfl)]
    go_simp
    refine (CK2.out w1 _ (hw1.2)).mono ?_
    rintro e' w2 ⟨v9, rfl, r2, k2⟩
    go_wp2_with fail
    refine hK1.out (fun u => ((((Kept V u) ∧ Le u v2 (L.filter (keyP k))) ∧ Le u v4 ((L.filter (keyP k)).filter (ofP kind))) ∧ Le u v7 (L.filter (ofP kind))) ∧ Le u v9 ((L.filter (keyP k)).filter (ofP kind))) _ _ ⟨hSt3 _ _ hw1 k2, r2⟩ (stab_and hSt3 (fun u u' h k => h.go k)) (fun u hu => hu.1) ?_
    have hSt4 : Stab (fun u => ((((Kept V u) ∧ Le u v2 (L.filter (keyP k))) ∧ Le u v4 ((L.filter (keyP k)).filter (ofP kind))) ∧ Le u v7 (L.filter (ofP kind))) ∧ Le u v9 ((L.filter (keyP k)).filter (ofP kind))) := stab_and hSt3 (fun u u' h k => h.go k)
    clear hK1 K1 r2 k2 hw1
    refine Au.take 10 (some 35) rfl rfl (by kernel_rfl) (by kernel_rfl) (by kernel_rfl) (fun _ _ _ h => h) hSt4 (Au.yq_call 12 _ (by rfl) (fun u => by go_simp) (fun u hu => evs_same (hu.1.1.2) (hu.2))) ?_
    simp only [Act.put, List.setIfInBounds_toArray, List.set_cons_zero, List.set_cons_succ]
    refine Au.take 11 (some 36) (v := ?_) rfl rfl (by kernel_rfl) (by kernel_rfl) (by kernel_rfl) (fun _ _ _ h => h) hSt4 (Au.yq_run (by rfl) (fun u hu => ?_)) ?_
    rotate_left
    · (clear hu; go_simp; try with_reducible rfl)
    simp only [Act.put, List.setIfInBounds_toArray, List.set_cons_zero, List.set_cons_succ]
    refine Au.take 12 (some 37) (v := ?_) rfl rfl (by kernel_rfl) (by kernel_rfl) (by kernel_rfl) (fun _ _ _ h => h) hSt4 (Au.yq_run (by rfl) (fun u hu => ?_)) ?_
    rotate_left
    · (clear hu; go_simp; try with_reducible rfl)
    simp only [Act.put, List.setIfInBounds_toArray, List.set_cons_zero, List.set_cons_succ]
    refine Au.take 13 (some 38) rfl rfl (by kernel_rfl) (by kernel_rfl) (by kernel_rfl) (fun _ _ _ h => h) hSt4 (Au.yq_call 10 _ (by rfl) (fun u => by go_simp) (fun u hu => CT3.out u (hu.1.1.1.1))) ?_
    simp only [Act.put, List.setIfInBounds_toArray, List.set_cons_zero, List.set_cons_succ]
    refine Au.take 14 (some 39) (v := ?_) rfl rfl (by kernel_rfl) (by kernel_rfl) (by kernel_rfl) (fun _ _ _ h => h) hSt4 (Au.yq_run (by rfl) (fun u hu => ?_)) ?_
    rotate_left
    · (clear hu; go_simp; try with_reducible rfl)
    simp only [Act.put, List.setIfInBounds_toArray, List.set_cons_zero, List.set_cons_succ]
    refine Au.take 15 (some 40) rfl rfl (by kernel_rfl) (by kernel_rfl) (by kernel_rfl) (fun _ _ _ h => h) hSt4 (Au.yq_call 10 _ (by rfl) (fun u => by go_simp) (fun u hu => CT1.out u (hu.1.1.1.1))) ?_
    simp only [Act.put, List.setIfInBounds_toArray, List.set_cons_zero, List.set_cons_succ]
    refine Au.take 16 (some 41) (v := ?_) rfl rfl (by kernel_rfl) (by kernel_rfl) (by kernel_rfl) (fun _ _ _ h => h) hSt4 (Au.yq_run (by rfl) (fun u hu => ?_)) ?_
    rotate_left
    · (clear hu; go_simp; try with_reducible rfl)
    simp only [Act.put, List.setIfInBounds_toArray, List.set_cons_zero, List.set_cons_succ]
    refine Au.take 17 (some 42) rfl rfl (by kernel_rfl) (by kernel_rfl) (by kernel_rfl) (fun _ _ _ h => h) hSt4 (Au.yq_call 10 _ (by rfl) (fun u => by go_simp) (fun u hu => CT2.out u (hu.1.1.1.1))) ?_
    simp only [Act.put, List.setIfInBounds_toArray, List.set_cons_zero, List.set_cons_succ]
    refine Au.take 18 (some 43) (v := ?_) rfl rfl (by kernel_rfl) (by kernel_rfl) (by kernel_rfl) (fun _ _ _ h => h) hSt4 (Au.yq_run (by rfl) (fun u hu => ?_)) ?_
    rotate_left
    · (clear hu; go_simp; try with_reducible rfl)
    simp only [Act.put, List.setIfInBounds_toArray, List.set_cons_zero, List.set_cons_succ]
    refine Au.take 19 (some 44) (v := ?_) rfl rfl (by kernel_rfl) (by kernel_rfl) (by kernel_rfl) (fun _ _ _ h => h) hSt4 (Au.yq_run (by rfl) (fun u hu => ?_)) ?_
    rotate_left
    · (clear hu; go_simp; try with_reducible rfl)
    simp only [Act.put, List.setIfInBounds_toArray, List.set_cons_zero, List.set_cons_succ]
    refine Au.take 20 (some 45) (v := ?_) rfl rfl (by kernel_rfl) (by kernel_rfl) (by kernel_rfl) (fun _ _ _ h => h) hSt4 (Au.yq_run (by rfl) (fun u hu => ?_)) ?_
    rotate_left
    · (clear hu; go_simp; try with_reducible rfl)
    simp only [Act.put, List.setIfInBounds_toArray, List.set_cons_zero, List.set_cons_succ]
    refine Au.take 21 (some 46) (v := ?_) rfl rfl (by kernel_rfl) (by kernel_rfl) (by kernel_rfl) (fun _ _ _ h => h) hSt4 (Au.yq_run (by rfl) (fun u hu => ?_)) ?_
    rotate_left
    · (clear hu; go_simp; try with_reducible rfl)
    simp only [Act.put, List.setIfInBounds_toArray, List.set_cons_zero, List.set_cons_succ]
    refine Au.take 22 (some 47) rfl rfl (by kernel_rfl) (by kernel_rfl) (by kernel_rfl) (fun _ _ _ h => h) hSt4 (Au.yq_call 7 _ (by rfl) (fun u => by go_simp) (fun u hu => AV.out u (hu.1.1.1.1))) ?_
    simp only [Act.put, List.setIfInBounds_toArray, List.set_cons_zero, List.set_cons_succ]
    refine Au.take 23 (some 48) (v := ?_) rfl rfl (by kernel_rfl) (by kernel_rfl) (by kernel_rfl) (fun _ _ _ h => h) hSt4 (Au.yq_run (by rfl) (fun u hu => ?_)) ?_
    rotate_left
    · (clear hu; go_simp; try with_reducible rfl)
    simp only [Act.put, List.setIfInBounds_toArray, List.set_cons_zero, List.set_cons_succ]
    refine Au.take 24 (some 8) (v := ?_) rfl rfl (by kernel_rfl) (by kernel_rfl) (by kernel_rfl) (fun _ _ _ h => h) hSt4 (Au.yq_run (by rfl) (fun u hu => ?_)) ?_
    rotate_left
    · (clear hu; go_simp; try with_reducible rfl)
    simp only [Act.put, List.setIfInBounds_toArray, List.set_cons_zero, List.set_cons_succ]
    refine Au.done (by kernel_rfl) (fun u hu => ?_)
    have ku := hu.1.1.1.1
    go_wp2_with fail
    go_ret
    exact ⟨rfl, HB.out.kept.trans (KV.out.trans ku)⟩

end Go.Proofs.YtckjdncacinnkaaDoor.Ev
