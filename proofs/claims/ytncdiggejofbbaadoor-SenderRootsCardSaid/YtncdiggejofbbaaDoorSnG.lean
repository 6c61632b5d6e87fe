/- The law: what a root is settled as. -/
import Derived.Test.YtncdiggejofbbaaDoorSn6
import Derived.Test.YtncdiggejofbbaaDoorSnW
import Derived.Test.YtncdiggejofbbaaDoorOwE
import Derived.Test.YtncdiggejofbbaaDoorSnC
namespace Go.Proofs.YtncdiggejofbbaaDoor.Sn
open Go.RowKit Go.Sort Go.Shelf St PkM Ad Po Blk Eqs
open Go.Proofs.YtncdiggejofbbaaDoor.Cl
open Go.Proofs.YtncdiggejofbbaaDoor.Ow
open Go.Proofs.YtncdiggejofbbaaDoor.Ls
open Go.Proofs.YtncdiggejofbbaaDoor.Rv
open Go.Proofs.YtncdiggejofbbaaDoor.Au (Stab stab_and)
open Go.Proofs.YtncdiggejofbbaaDoor.Ad (load_w load_l store_new)
set_option linter.unusedVariables false
set_option linter.unusedSimpArgs false

theorem clean_in (n : Int) : 0 ≤ Cd.clean n ∧ Cd.clean n ≤ 16 := ⟨Cd.clean_lo n, Cd.clean_hi n⟩
theorem join_in (a b : Int) : 0 ≤ Cd.join a b ∧ Cd.join a b ≤ 16 := by
  unfold Cd.join
  split
  · exact clean_in b
  · exact clean_in a
theorem worst_from : ∀ (K : List Cl) (n : Int), (0 ≤ n ∧ n ≤ 16) → 0 ≤ K.foldl worstF n ∧ K.foldl worstF n ≤ 16
  | [], n, h => h
  | c :: K, n, h => worst_from K _ (by
      unfold worstF
      split
      · exact join_in _ _
      · exact h)
theorem worst_in (K : List Cl) : 0 ≤ worstL K ∧ worstL K ≤ 16 := worst_from K 0 (by decide)
/-- what is so of what a root ends with -/
theorem stl_facts (o : Ow) (K : List Cl) (now : Int) : stl o K now = (0, 0, false) ∨
    ∃ n v, stl o K now = (n, v, true) ∧ o.ka = 0 ∧ openL K = 0 ∧ ¬ K = [] ∧ ¬ n = 1 ∧ (n = 4 → ¬ Tk.clamp now < Tk.clamp o.dl) ∧ 0 ≤ n ∧ n ≤ 16 ∧ (n = 0 ∨ ¬ n = 0 ∧ v = 0) := by
  by_cases h : o.ka = 0 ∧ ¬ K = [] ∧ openL K = 0
  · have hw := worst_in K
    by_cases h0 : worstL K = 0
    · exact .inr ⟨_, _, stl_ok h h0, h.1, h.2.2, h.2.1, by omega, fun c => by omega, by omega, by omega, .inl rfl⟩
    by_cases h1 : worstL K = 1
    · exact .inr ⟨_, _, stl_cancelled h h1, h.1, h.2.2, h.2.1, by omega, fun c => by omega, by omega, by omega, .inr ⟨by omega, rfl⟩⟩
    by_cases h4 : worstL K = 4
    · by_cases hl : 0 < Tk.sub o.dl now
      · exact .inl (stl_early h h4 hl)
      · exact .inr ⟨_, _, stl_late h h4 hl, h.1, h.2.2, h.2.1, by omega, fun _ => by unfold Tk.sub at hl; omega, by omega, by omega, .inr ⟨by omega, rfl⟩⟩
    · exact .inr ⟨_, _, stl_else h h0 h1 h4, h.1, h.2.2, h.2.1, h1, fun c => absurd c h4, hw.1, hw.2, .inr ⟨h0, rfl⟩⟩
  · exact .inl (stl_no h)

set_option maxRecDepth 100000 in
set_option maxHeartbeats 4000000 in
theorem roots_any {w : World} {q : Option Addr} {N c : Nat} {K : List Cl} (o : Ow) (now : Int) (hv : Cls w (.slice q N c) K) (ht : Tm.Tab w) :
    Calls Tryd.prog 7 #[.agg (o.arr q N c), .int .i64 now] w fun e w' => e = .returned (.bool true) ∧ Kept w w' := by
  have hN : K.length = N := by obtain ⟨p, cap, e⟩ := hv.shape; cases e; rfl
  obtain ⟨A, hA⟩ : ∃ A, o.arr q N c = A := ⟨_, rfl⟩
  have sA : A.size = 19 := by rw [← hA]; rfl
  have c3 : A[3]? = some (.int .i64 o.ka) := by rw [← hA]; rfl
  have c13 : A[13]? = some (.int .i64 o.dl) := by rw [← hA]; rfl
  have c18 : A[18]? = some (.slice q N c) := by rw [← hA]; rfl
  obtain ⟨W, hW⟩ : ∃ W, w.alloc (.cells A 31) = W := ⟨_, rfl⟩
  have hb : Bl w W [(A, 31)] := hW ▸ Bl.one w A _
  have h18 : W.cell? ⟨w.heap.size, 18, none⟩ = some (.slice q N c) := (hb.cell 0 18 rfl).trans c18
  have HW := Lib.hid hW
  have HS0 := Lib.hid hb
  have HAW := Lib.hid (show ∀ u, Kept w u → Calls Tryd.prog 8 #[] u fun e w' => e = .returned (.bool true) ∧ Kept u w' from fun u hu => awake_any u (ht.kept hu))
  by_cases hok : N ≤ 30
  · have e1 : ¬ 30 < (N : Int) := by omega
    have CM := Lib.hid (show ∀ u, Kept w u → Calls Tryd.prog 10 #[.agg A] u fun e w' => ∃ q' n' c', e = .returned (.agg (o.arr q' n' c')) ∧ Mc w' (.slice q' n' c') K ∧ (∀ g, (Value.slice q' n' c').ownBlock = some g → u.heap.size ≤ g) ∧ Kept u w' from fun u hu => by rw [← hA]; exact mine_any o (hv.go hu) (by omega))
    have CO := Lib.hid (show ∀ u, Kept w u → Calls Tryd.prog 31 #[.agg A] u fun e w' => e = .returned (.int .i64 (openL K)) ∧ Kept u w' from fun u hu => by rw [← hA]; exact ropen_any o (hv.go hu))
    have CS := Lib.hid (fun (u : World) (q' : Option Addr) (n' c' : Nat) (h : Mc u (.slice q' n' c') K) => settled_any o now (mc_cls h (by omega)))
    have hN0 : ¬ K = [] → ¬ N = 0 := fun c d => c (List.eq_nil_of_length_eq_zero (hN.trans d))
    rw [hA]
    rcases stl_facts o K now with hs | ⟨n, v, hs, hka, hop, hne, hn1, hn4, hn0, hn16, hnv⟩
    · rw [hs] at CS
      clear hv ht hb hW hN hA hs hN0 hok
      go_enter Tryd.func7, Tryd.ntmps7
      go_upto_region 1 with fail
      rw [HW.out]
      go_wp2_with (first
        | (refine load_w 31 (.tmp 2) rfl w.heap.size rfl rfl A 19 (HS0.out.blk 0 rfl) Tryd.underlying31 sA info_row ?_)
        | (go_at_call 10; refine (CM.out _ HS0.out.kept).mono ?_; rintro e w1 ⟨q1, n1, c1, rfl, r1, -, k1⟩)
        | (go_at_call 22; refine (CS.out _ _ _ _ r1).mono ?_; rintro e w2 ⟨rfl, k2⟩)
        | (go_at_call 8; refine (HAW.out _ (HS0.out.kept.trans (k1.trans k2))).mono ?_; rintro e w3 ⟨rfl, k3⟩))
      go_ret
      exact ⟨rfl, HS0.out.kept.trans (k1.trans (k2.trans k3))⟩
    · have hN1 : ¬ N = 0 := hN0 hne
      rw [hs] at CS
      rw [hop] at CO
      rw [hka] at c3
      have b1 : (n == 1) = false := beq_eq_false_iff_ne.2 hn1
      clear hv ht hb hW hN hA hs hne hN0 hok hop hka
      go_enter Tryd.func7, Tryd.ntmps7
      go_upto_region 1 with fail
      rw [HW.out]
      go_upto_region 6 with (first
        | (refine load_w 31 (.tmp 2) rfl w.heap.size rfl rfl A 19 (HS0.out.blk 0 rfl) Tryd.underlying31 sA info_row ?_)
        | (go_at_call 10; refine (CM.out _ HS0.out.kept).mono ?_; rintro e w1 ⟨q1, n1, c1, rfl, r1, -, k1⟩)
        | (go_at_call 22; refine (CS.out _ _ _ _ r1).mono ?_; rintro e w2 ⟨rfl, k2⟩))
      have HZ := Lib.hid (HS0.out.go (k1.trans k2))
      clear r1 k1 k2 h18 e1
      go_cut [45] (fun tt wx => tt = .bool false ∧ Bl w wx [(A, 31)])
      case first =>
        obtain ⟨z1, hz1⟩ : ∃ z, Tk.clamp now = z := ⟨_, rfl⟩
        obtain ⟨z2, hz2⟩ : ∃ z, Tk.clamp o.dl = z := ⟨_, rfl⟩
        rw [hz1, hz2] at hn4
        have K1 := Lib.hid (show ∀ u, Calls Tryd.prog 30 #[.int .i64 now] u fun e w' => e = .returned (.int .i64 z1) ∧ Kept u w' from fun u => by rw [← hz1]; exact (Tk.rclamp_any _ u).mono fun e w' h => ⟨h.1, h.2 ▸ Kept.refl _⟩)
        have K2 := Lib.hid (show ∀ u, Calls Tryd.prog 30 #[.int .i64 o.dl] u fun e w' => e = .returned (.int .i64 z2) ∧ Kept u w' from fun u => by rw [← hz2]; exact (Tk.rclamp_any _ u).mono fun e w' h => ⟨h.1, h.2 ▸ Kept.refl _⟩)
        clear hz1 hz2
        by_cases h4 : n = 4
        · have h9 : decide (z1 < z2) = false := decide_eq_false (by have := hn4 h4; omega)
          subst h4
          have hST : Stab (fun u => Bl w u [(A, 31)]) ∧ ∀ u, (fun u => Bl w u [(A, 31)]) u → (fun u => Bl w u [(A, 31)]) u := ⟨bl_stab, fun u h => h⟩
          refine AvT.region (fun u => Bl w u [(A, 31)]) (fun u => Bl w u [(A, 31)]) (by kernel_rfl) (hST.1 _ _ HZ.out (Kept.refl _).drew) ?_
          refine AvT.take 0 (some 32) (v := ?_) rfl rfl (by kernel_rfl) (by kernel_rfl) (by kernel_rfl) (fun _ _ _ h => h) hST (Au.yq_run (by rfl) (fun u hu => ?_)) ?_
          rotate_left
          · (clear hu; go_simp; try with_reducible rfl)
          simp only [Act.put, List.setIfInBounds_toArray, List.set_cons_zero, List.set_cons_succ]
          refine AvT.take 1 (some 33) (v := .bool false) rfl rfl (by kernel_rfl) (by kernel_rfl) (by kernel_rfl) (fun _ _ _ h => h) hST (Au.yq_run (by rfl) (fun u hu => ?_)) ?_
          · (clear hu; go_simp; (try simp_all))
          simp only [Act.put, List.setIfInBounds_toArray, List.set_cons_zero, List.set_cons_succ]
          refine AvT.take 2 (some 34) (v := ?_) rfl rfl (by kernel_rfl) (by kernel_rfl) (by kernel_rfl) (fun _ _ _ h => h) hST (Au.yq_run (by rfl) (fun u hu => ?_)) ?_
          rotate_left
          · (clear hu; go_simp; try with_reducible rfl)
          simp only [Act.put, List.setIfInBounds_toArray, List.set_cons_zero, List.set_cons_succ]
          refine AvT.take 3 (some 35) (v := ?_) rfl rfl (by kernel_rfl) (by kernel_rfl) (by kernel_rfl) (fun _ _ _ h => h) hST (Au.yq_run (by rfl) (fun u hu => ?_)) ?_
          rotate_left
          · (clear hu; go_simp; try with_reducible rfl)
          simp only [Act.put, List.setIfInBounds_toArray, List.set_cons_zero, List.set_cons_succ]
          refine AvT.take 4 (some 36) (v := .bool true) rfl rfl (by kernel_rfl) (by kernel_rfl) (by kernel_rfl) (fun _ _ _ h => h) hST (Au.yq_run (by rfl) (fun u hu => ?_)) ?_
          · (clear hu; go_simp; (try simp_all))
          simp only [Act.put, List.setIfInBounds_toArray, List.set_cons_zero, List.set_cons_succ]
          refine AvT.take 5 (some 37) (v := ?_) rfl rfl (by kernel_rfl) (by kernel_rfl) (by kernel_rfl) (fun _ _ _ h => h) hST (Au.yq_run (by rfl) (fun u hu => ?_)) ?_
          rotate_left
          · (clear hu; go_simp; try with_reducible rfl)
          simp only [Act.put, List.setIfInBounds_toArray, List.set_cons_zero, List.set_cons_succ]
          refine AvT.take 6 (some 38) (v := ?_) rfl rfl (by kernel_rfl) (by kernel_rfl) (by kernel_rfl) (fun _ _ _ h => h) hST (Au.yq_run (by rfl) (fun u hu => ?_)) ?_
          rotate_left
          · (clear hu; go_simp; try with_reducible rfl)
          simp only [Act.put, List.setIfInBounds_toArray, List.set_cons_zero, List.set_cons_succ]
          refine AvT.take 7 (some 39) rfl rfl (by kernel_rfl) (by kernel_rfl) (by kernel_rfl) (fun _ _ _ h => h) hST (Au.yq_call 30 _ (by rfl) (fun u => by go_simp) (fun u hu => K1.out u)) ?_
          simp only [Act.put, List.setIfInBounds_toArray, List.set_cons_zero, List.set_cons_succ]
          refine AvT.take 8 (some 40) (v := ?_) rfl rfl (by kernel_rfl) (by kernel_rfl) (by kernel_rfl) (fun _ _ _ h => h) hST (Au.yq_run (by rfl) (fun u hu => ?_)) ?_
          rotate_left
          · (clear hu; go_simp; try with_reducible rfl)
          simp only [Act.put, List.setIfInBounds_toArray, List.set_cons_zero, List.set_cons_succ]
          refine AvT.take 9 (some 41) rfl rfl (by kernel_rfl) (by kernel_rfl) (by kernel_rfl) (fun _ _ _ h => h) hST (Au.yq_load 3 (.tmp 40) rfl _ rfl (by rfl) (fun u hu => run_loadi ((hu.cell 0 13 rfl).trans c13))) ?_
          simp only [Act.put, List.setIfInBounds_toArray, List.set_cons_zero, List.set_cons_succ]
          refine AvT.take 10 (some 42) rfl rfl (by kernel_rfl) (by kernel_rfl) (by kernel_rfl) (fun _ _ _ h => h) hST (Au.yq_call 30 _ (by rfl) (fun u => by go_simp) (fun u hu => K2.out u)) ?_
          simp only [Act.put, List.setIfInBounds_toArray, List.set_cons_zero, List.set_cons_succ]
          refine AvT.take 11 (some 43) (v := .bool false) rfl rfl (by kernel_rfl) (by kernel_rfl) (by kernel_rfl) (fun _ _ _ h => h) hST (Au.yq_run (by rfl) (fun u hu => ?_)) ?_
          · (clear hu; go_simp; (try simp_all))
          simp only [Act.put, List.setIfInBounds_toArray, List.set_cons_zero, List.set_cons_succ]
          refine AvT.take 12 (some 44) (v := ?_) rfl rfl (by kernel_rfl) (by kernel_rfl) (by kernel_rfl) (fun _ _ _ h => h) hST (Au.yq_run (by rfl) (fun u hu => ?_)) ?_
          rotate_left
          · (clear hu; go_simp; try with_reducible rfl)
          simp only [Act.put, List.setIfInBounds_toArray, List.set_cons_zero, List.set_cons_succ]
          refine AvT.take 13 (some 45) (v := ?_) rfl rfl (by kernel_rfl) (by kernel_rfl) (by kernel_rfl) (fun _ _ _ h => h) hST (Au.yq_run (by rfl) (fun u hu => ?_)) ?_
          rotate_left
          · (clear hu; go_simp; try with_reducible rfl)
          simp only [Act.put, List.setIfInBounds_toArray, List.set_cons_zero, List.set_cons_succ]
          refine AvT.done (by kernel_rfl) (fun V hV => ?_)
          go_wp2_with fail
          go_meet
          exact ⟨rfl, hV⟩
        · have b4 : (n == 4) = false := beq_eq_false_iff_ne.2 h4
          have hST : Stab (fun u => Bl w u [(A, 31)]) ∧ ∀ u, (fun u => Bl w u [(A, 31)]) u → (fun u => Bl w u [(A, 31)]) u := ⟨bl_stab, fun u h => h⟩
          refine AvT.region (fun u => Bl w u [(A, 31)]) (fun u => Bl w u [(A, 31)]) (by kernel_rfl) (hST.1 _ _ HZ.out (Kept.refl _).drew) ?_
          refine AvT.take 0 (some 32) (v := ?_) rfl rfl (by kernel_rfl) (by kernel_rfl) (by kernel_rfl) (fun _ _ _ h => h) hST (Au.yq_run (by rfl) (fun u hu => ?_)) ?_
          rotate_left
          · (clear hu; go_simp; try with_reducible rfl)
          simp only [Act.put, List.setIfInBounds_toArray, List.set_cons_zero, List.set_cons_succ]
          refine AvT.take 1 (some 33) (v := .bool false) rfl rfl (by kernel_rfl) (by kernel_rfl) (by kernel_rfl) (fun _ _ _ h => h) hST (Au.yq_run (by rfl) (fun u hu => ?_)) ?_
          · (clear hu; go_simp; (try simp_all))
          simp only [Act.put, List.setIfInBounds_toArray, List.set_cons_zero, List.set_cons_succ]
          refine AvT.take 2 (some 34) (v := ?_) rfl rfl (by kernel_rfl) (by kernel_rfl) (by kernel_rfl) (fun _ _ _ h => h) hST (Au.yq_run (by rfl) (fun u hu => ?_)) ?_
          rotate_left
          · (clear hu; go_simp; try with_reducible rfl)
          simp only [Act.put, List.setIfInBounds_toArray, List.set_cons_zero, List.set_cons_succ]
          refine AvT.take 3 (some 35) (v := ?_) rfl rfl (by kernel_rfl) (by kernel_rfl) (by kernel_rfl) (fun _ _ _ h => h) hST (Au.yq_run (by rfl) (fun u hu => ?_)) ?_
          rotate_left
          · (clear hu; go_simp; try with_reducible rfl)
          simp only [Act.put, List.setIfInBounds_toArray, List.set_cons_zero, List.set_cons_succ]
          refine AvT.take 4 (some 36) (v := .bool false) rfl rfl (by kernel_rfl) (by kernel_rfl) (by kernel_rfl) (fun _ _ _ h => h) hST (Au.yq_run (by rfl) (fun u hu => ?_)) ?_
          · (clear hu; go_simp; (try simp_all))
          simp only [Act.put, List.setIfInBounds_toArray, List.set_cons_zero, List.set_cons_succ]
          refine AvT.take 5 (some 37) (v := ?_) rfl rfl (by kernel_rfl) (by kernel_rfl) (by kernel_rfl) (fun _ _ _ h => h) hST (Au.yq_run (by rfl) (fun u hu => ?_)) ?_
          rotate_left
          · (clear hu; go_simp; try with_reducible rfl)
          simp only [Act.put, List.setIfInBounds_toArray, List.set_cons_zero, List.set_cons_succ]
          refine AvT.take 6 (some 38) rfl rfl (by kernel_rfl) (by kernel_rfl) (by kernel_rfl) (fun _ _ _ h => h) hST (Au.yq_skip (by rfl)) ?_
          simp only [Act.put, List.setIfInBounds_toArray, List.set_cons_zero, List.set_cons_succ]
          refine AvT.take 7 (some 39) rfl rfl (by kernel_rfl) (by kernel_rfl) (by kernel_rfl) (fun _ _ _ h => h) hST (Au.yq_skip (by rfl)) ?_
          simp only [Act.put, List.setIfInBounds_toArray, List.set_cons_zero, List.set_cons_succ]
          refine AvT.take 8 (some 40) rfl rfl (by kernel_rfl) (by kernel_rfl) (by kernel_rfl) (fun _ _ _ h => h) hST (Au.yq_skip (by rfl)) ?_
          simp only [Act.put, List.setIfInBounds_toArray, List.set_cons_zero, List.set_cons_succ]
          refine AvT.take 9 (some 41) rfl rfl (by kernel_rfl) (by kernel_rfl) (by kernel_rfl) (fun _ _ _ h => h) hST (Au.yq_skip (by rfl)) ?_
          simp only [Act.put, List.setIfInBounds_toArray, List.set_cons_zero, List.set_cons_succ]
          refine AvT.take 10 (some 42) rfl rfl (by kernel_rfl) (by kernel_rfl) (by kernel_rfl) (fun _ _ _ h => h) hST (Au.yq_skip (by rfl)) ?_
          simp only [Act.put, List.setIfInBounds_toArray, List.set_cons_zero, List.set_cons_succ]
          refine AvT.take 11 (some 43) rfl rfl (by kernel_rfl) (by kernel_rfl) (by kernel_rfl) (fun _ _ _ h => h) hST (Au.yq_skip (by rfl)) ?_
          simp only [Act.put, List.setIfInBounds_toArray, List.set_cons_zero, List.set_cons_succ]
          refine AvT.take 12 (some 44) (v := ?_) rfl rfl (by kernel_rfl) (by kernel_rfl) (by kernel_rfl) (fun _ _ _ h => h) hST (Au.yq_run (by rfl) (fun u hu => ?_)) ?_
          rotate_left
          · (clear hu; go_simp; try with_reducible rfl)
          simp only [Act.put, List.setIfInBounds_toArray, List.set_cons_zero, List.set_cons_succ]
          refine AvT.take 13 (some 45) (v := ?_) rfl rfl (by kernel_rfl) (by kernel_rfl) (by kernel_rfl) (fun _ _ _ h => h) hST (Au.yq_run (by rfl) (fun u hu => ?_)) ?_
          rotate_left
          · (clear hu; go_simp; try with_reducible rfl)
          simp only [Act.put, List.setIfInBounds_toArray, List.set_cons_zero, List.set_cons_succ]
          refine AvT.done (by kernel_rfl) (fun V hV => ?_)
          go_wp2_with fail
          go_meet
          exact ⟨rfl, hV⟩
      case rest =>
        obtain ⟨rfl, hb⟩ := hcut
        have h3 : wc.cell? ⟨w.heap.size, 3, none⟩ = some (.int .i64 0) := (hb.cell 0 3 rfl).trans c3
        have h18 : wc.cell? ⟨w.heap.size, 18, none⟩ = some (.slice q N c) := (hb.cell 0 18 rfl).trans c18
        have HB := Lib.hid hb
        have d1 : decide (0 < (N : Int)) = true := decide_eq_true (by omega)
        have d2 : decide (0 ≤ n) = true := decide_eq_true hn0
        have d3 : decide (n ≤ 16) = true := decide_eq_true hn16
        clear hb hn1 hn4 hn0 hn16 b1
        rcases hnv with h0 | ⟨h0, rfl⟩
        · subst h0
          go_wp2_with (first
            | (refine load_w 31 (.tmp 2) rfl w.heap.size rfl rfl A 19 (HB.out.blk 0 rfl) Tryd.underlying31 sA info_row ?_)
            | (go_at_call 31; refine (CO.out _ HB.out.kept).mono ?_; rintro e w4 ⟨rfl, k4⟩; have h18b : w4.cell? ⟨w.heap.size, 18, none⟩ = some (.slice q N c) := ((HB.out.go k4).cell 0 18 rfl).trans c18)
            | (go_at_call 8; refine (HAW.out _ (HB.out.kept.trans k4)).mono ?_; rintro e w5 ⟨rfl, k5⟩))
          go_ret
          exact ⟨rfl, HB.out.kept.trans (k4.trans k5)⟩
        · have b0 : (n == 0) = false := beq_eq_false_iff_ne.2 h0
          go_wp2_with (first
            | (refine load_w 31 (.tmp 2) rfl w.heap.size rfl rfl A 19 (HB.out.blk 0 rfl) Tryd.underlying31 sA info_row ?_)
            | (go_at_call 31; refine (CO.out _ HB.out.kept).mono ?_; rintro e w4 ⟨rfl, k4⟩; have h18b : w4.cell? ⟨w.heap.size, 18, none⟩ = some (.slice q N c) := ((HB.out.go k4).cell 0 18 rfl).trans c18)
            | (go_at_call 8; refine (HAW.out _ (HB.out.kept.trans k4)).mono ?_; rintro e w5 ⟨rfl, k5⟩))
          go_ret
          exact ⟨rfl, HB.out.kept.trans (k4.trans k5)⟩
  · have HB := Lib.hid hb
    have e1 : 30 < (N : Int) := by omega
    rw [hA]
    clear hv ht hb hW hA hN
    go_enter Tryd.func7, Tryd.ntmps7
    go_upto_region 1 with fail
    rw [HW.out]
    go_wp2_with (go_at_call 8; refine (HAW.out _ HB.out.kept).mono ?_; rintro e w' ⟨rfl, hk⟩)
    go_ret
    exact ⟨rfl, HB.out.kept.trans hk⟩

end Go.Proofs.YtncdiggejofbbaaDoor.Sn
