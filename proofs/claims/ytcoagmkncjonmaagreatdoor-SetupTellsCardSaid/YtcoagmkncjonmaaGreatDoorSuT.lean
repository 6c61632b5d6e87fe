/- The law: any configuration's text, and its settings. -/
import Derived.Test.YtcoagmkncjonmaaGreatDoorSuL
import Derived.Test.YtcoagmkncjonmaaGreatDoorSu2
import Derived.Test.YtcoagmkncjonmaaGreatDoorSu4
import Derived.Test.YtcoagmkncjonmaaGreatDoorRs1
import Derived.Test.YtcoagmkncjonmaaGreatDoorRs3
namespace Go.Proofs.YtcoagmkncjonmaaGreatDoor.Su
open Go.RowKit Go.Sort Go.Shelf St Blk At
open Ad (Cf info_cf load_l load_w)
open Pg (Ops Progs textT rightB)
open Go.Proofs.YtcoagmkncjonmaaGreatDoor.Au (Stab stab_and stab_kept)
open Wh (Fr)
set_option linter.unusedVariables false
set_option linter.unusedSimpArgs false

/-- the words, in a block of a call's own -/
def Wrd (g : Nat) (u : World) : Prop := g < u.heap.size ∧ ∀ j, j < 13 → u.cell? ⟨g, j, none⟩ = some (.string (wordB j))
theorem wrd_stab (g : Nat) : Stab (Wrd g) := fun u u' h k => ⟨Nat.lt_of_lt_of_le h.1 k.size, fun j hj => (Below.cell k (p := ⟨g, j, none⟩) h.1).trans (h.2 j hj)⟩
theorem wrd_of {w : World} {base : Nat} {v : Value} (h : Ss.Ss w base v (wordsB 13)) : ∃ g cap, v = .slice (some ⟨g, 0, none⟩) 13 cap ∧ Wrd g w := by
  obtain ⟨g, cap, e, _, _, hg, hc⟩ := h.full (by decide)
  refine ⟨g, cap, e, hg, fun j hj => ?_⟩
  have := hc j (wordB j) (by simp [wordsB, hj])
  rwa [Nat.zero_add] at this
theorem progs_none (w : World) : Progs w (.slice none 0 0) [] := .inl ⟨rfl, _, _, rfl⟩
theorem small_all {M : List (List Pg.Op)} (h : smallB M = true) : M.length ≤ 20 ∧ ∀ L ∈ M, L.length ≤ 20 := by
  unfold smallB at h
  rw [Bool.and_eq_true] at h
  exact ⟨of_decide_eq_true h.1, fun L hL => of_decide_eq_true (List.all_eq_true.1 h.2 L hL)⟩
theorem ld_s {u : World} {b i : Nat} {s : ByteArray} (h : u.cell? ⟨b, i, none⟩ = some (.string s)) : (loadVar 9 ⟨b, i, none⟩).run Tryz.prog u = .ok (.string s) u := by go_simp
theorem ld_ps {u : World} {b i : Nat} {a : Option Addr} {n m : Nat} (h : u.cell? ⟨b, i, none⟩ = some (.slice a n m)) : (loadVar 22 ⟨b, i, none⟩).run Tryz.prog u = .ok (.slice a n m) u := by go_simp

theorem getD_set {l : List Int} (n : Int) {j : Nat} (h : j < l.length) : (l.set j n).getD j 0 = n := by simp [List.getD_eq_getElem?_getD, h]
theorem ints_set (l : List Int) (j : Nat) (n : Int) : (intsA l).setIfInBounds j (.int .i64 n) = intsA (l.set j n) := by
  unfold intsA
  rw [List.setIfInBounds_toArray, List.map_set]
theorem set_back {l : List Int} (n : Int) {j : Nat} (h : j < l.length) (m : Int) (hm : l.getD j 0 = m) : (l.set j n).set j m = l := by
  rw [List.set_set, ← hm, List.getD_eq_getElem?_getD, List.getElem?_eq_getElem h, Option.getD_some, List.set_getElem_self]
theorem progs_stab {v : Value} {M : List (List Pg.Op)} : Stab (fun u => Progs u v M) := fun u u' h k => h.go k

set_option maxRecDepth 100000 in
set_option maxHeartbeats 8000000 in
theorem tells_any {w : World} {c : Cf} {M : List (List Pg.Op)} (hv : Progs w (.slice c.pa c.pn c.pc) M) (hf : ∀ L ∈ M, ∀ o ∈ L, o.Fit) (hn : ∀ n ∈ numsL c, Ad.Wd n) (k n : Int) (hE : Env w) :
    Calls Tryz.prog 3 #[.agg c.arr, .int .i64 k, .int .i64 n] w fun e w' => e = .returned (.bool true) ∧ Kept w w' := by
  obtain ⟨W2, hW⟩ : ∃ W, w.alloc (.cells c.arr 24) = W := ⟨_, rfl⟩
  have hkW : Kept w W2 := by rw [← hW]; exact Kept.one _ _
  have hbW : W2.heap[w.heap.size]? = some (.cells c.arr 24 (0, 0)) := by rw [← hW]; exact blk_new _ _
  have HAW := Lib.hid (fun (u : World) (hu : Kept w u) => awake_any (hE.kept hu))
  have HSM := Lib.hid (small_any (hv.go hkW))
  obtain ⟨A, hA⟩ : ∃ A, c.arr = A := ⟨_, rfl⟩
  have sA : A.size = 14 := by rw [← hA]; rfl
  obtain ⟨z, hz⟩ : ∃ z, smallB M = z := ⟨_, rfl⟩
  rw [hz, hA] at HSM
  rw [hA] at hW hbW
  have lA := load_cfa hbW sA
  have HW := Lib.hid hW
  have HKW := Lib.hid hkW
  have HB := Lib.hid hbW
  cases z
  · rw [hA]
    clear hv hf hn hE hW hkW hbW hA hz
    go_enter Tryz.func3, Tryz.ntmps3
    go_upto_region 1 with fail
    rw [HW.out]
    go_wp2_with (first
      | (refine load_l 24 (.tmp 3) rfl _ rfl rfl (.agg A) lA ?_)
      | (go_at_call 5; refine HSM.out.mono ?_; rintro e w1 ⟨rfl, hk1⟩; have H1 := Lib.hid hk1; clear hk1)
      | (go_at_call 6; refine (HAW.out _ (HKW.out.trans H1.out)).mono ?_; rintro e w2 ⟨rfl, hk2⟩; have H2 := Lib.hid hk2; clear hk2))
    go_ret
    exact ⟨rfl, (HKW.out.trans H1.out).trans H2.out⟩
  · obtain ⟨hl20, hL20⟩ := small_all hz
    have hl1 : M.length ≤ 1000 := by omega
    have hL1 : ∀ L ∈ M, L.length ≤ 1000 := fun L hL => by have := hL20 L hL; omega
    obtain ⟨E, hEE⟩ : ∃ E : ByteArray, Hid (E.data.toList = cfgT (numsL c) M) := ⟨⟨(cfgT (numsL c) M).toArray⟩, rfl⟩
    have HWD := Lib.hid (fun w => words_any w)
    have HAL := Lib.hid (fun w => all_any c w)
    have HTX := Lib.hid (fun (u : World) (hu : Kept w u) => text_any (hv.go hu) hl1 hL1 hf hn E hEE (hE.kept hu).tab)
    have HRT := Lib.hid (fun (u : World) (hu : Kept w u) => rtext_any (hv.go hu) hl1 hL1 hf hn E hEE)
    obtain ⟨F0, hF0⟩ : ∃ F0, (Su.mk firstL none 0 0).arr = F0 := ⟨_, rfl⟩
    have HFI := Lib.hid (fun w => first_any w)
    have HOF := Lib.hid (fun (g : Nat) (u : World) (hg : u.heap[g]? = some (.cells (intsA firstL) 3 (0, 0))) => of_any (l := firstL) rfl hg none 0 0)
    have HSF := Lib.hid (fun (u : World) => same_any (w := u) (a := Su.mk firstL none 0 0) (b := Su.mk firstL none 0 0) (progs_none u) (progs_none u) rfl)
    rw [hF0] at HFI HOF HSF
    have HGN := Lib.hid (fun (hk : k < 0 ∨ 13 ≤ k) (u : World) => get_none c k hk u)
    have HSN := Lib.hid (fun (hk : k < 0 ∨ 13 ≤ k) (u : World) (hu : Kept w u) => set_out (hv.go hu) hl1 hL1 k n hk)
    have HSS := Lib.hid (fun (u : World) (q : Option Addr) (m : Nat) (hu : Kept w u) (hp : Progs u (.slice q c.pn m) M) => same_any (w := u) (a := Su.mk (numsL c) q c.pn m) (b := c) hp (hv.go hu) rfl)
    have HGS := Lib.hid (fun (j : Nat) (hj : j < 13) (u : World) => get_some c j hj u)
    have HSI := Lib.hid (fun (j : Nat) (hj : j < 13) (u : World) (hu : Kept w u) => set_fr (hv.go hu) hl1 hL1 j hj n)
    have HLM := Lib.hid (And.intro hl1 (And.intro hL1 hv))
    rw [hA] at HAL HTX HRT HGN HSN HSS HGS HSI ⊢
    have HAA := Lib.hid hA
    clear hv hf hn hE hW hkW hbW hA hz hl20 hL20 hl1 hL1 hEE hF0
    go_enter Tryz.func3, Tryz.ntmps3
    go_upto_region 1 with fail
    rw [HW.out]
    go_upto_region 3 with (first
      | (refine load_l 24 (.tmp 3) rfl _ rfl rfl (.agg A) lA ?_)
      | (go_at_call 5; refine HSM.out.mono ?_; rintro e w1 ⟨rfl, hk1'⟩; have H1 := Lib.hid hk1'; clear hk1'))
    have HB1 := Lib.hid (kept_at H1.out HB.out)
    clear HB lA
    have HB := HB1
    have HKW3 := Lib.hid (HKW.out.trans H1.out)
    clear HKW HB1
    have HKW := HKW3
    clear HKW3
    obtain ⟨W2, hWW⟩ : ∃ W2, W2 = w1 := ⟨_, rfl⟩
    rw [← hWW] at HB HKW ⊢
    clear H1 hWW
    refine Hx.region [(1, .take []), (0, .step), (2, .step), (3, .bare), (4, .bare)] 5 (fun u => Kept W2 u) (fun u => Kept W2 u) (W2.heap.size) (by kernel_rfl) (by kernel_rfl) (fun d _ _ _ _ h => by cases d <;> exact h) (fun d _ _ _ _ h => by cases d <;> exact h) (Hx.mk_none (by decide)) (stab_kept W2) (fun _ h => h) ((Kept.refl W2).drew) (fun u hu => hu.size) ?_
    refine Hx.take (d := (some 17)) rfl rfl (Au.yq_load 24 (.tmp 3) rfl _ rfl (by rfl) (fun u hu => load_cfa (kept_at hu HB.out) sA)) ?_
    simp only [Act.put, List.setIfInBounds_toArray, List.set_cons_zero, List.set_cons_succ]
    refine Hx.step rfl rfl (fun va hva KK hK => ?_)
    have HVa := Lib.hid hva
    clear hva
    go_wp2_with (go_at_call 7; refine (HWD.out _).mono ?_; rintro e wa ⟨v0, bs0, rfl, hs0, hka⟩; obtain ⟨gw, capw, rfl, hw0⟩ := wrd_of hs0; have HGa := Lib.hid (And.intro hw0 hka); clear hs0 hw0 hka)
    refine hK.out (fun u => Kept W2 u ∧ Wrd gw u) _ wa ⟨HVa.out.trans HGa.out.2, HGa.out.1⟩ (stab_and (stab_kept W2) (wrd_stab gw)) (fun h u hu => hu.1) ⟨HGa.out.2.size, fun k c1 c2 c3 => HGa.out.2.block k c2⟩ ?_
    clear hK KK
    refine Hx.step rfl rfl (fun vb hvb KK hK => ?_)
    have HVb := Lib.hid hvb
    clear hvb
    go_wp2_with (go_at_call 8; refine (HAL.out _).mono ?_; rintro e wb ⟨ga, rfl, hga, hgb, hkb⟩; have HGb := Lib.hid (And.intro hgb hkb); have HGA := Lib.hid (show W2.heap.size ≤ ga ∧ gw < ga from ⟨Nat.le_trans HVb.out.1.size hga, Nat.lt_of_lt_of_le HVb.out.2.1 hga⟩); clear hga hgb hkb)
    refine hK.out (fun u => Kept W2 u ∧ Wrd gw u ∧ u.heap[ga]? = some (.cells (intsA (numsL c)) 3 (0, 0))) _ wb ⟨HVb.out.1.trans HGb.out.2, wrd_stab gw _ _ HVb.out.2 HGb.out.2, HGb.out.1⟩ (stab_and (stab_kept W2) (stab_and (wrd_stab gw) (stab_at _ _ _))) (fun h u hu => hu.1) ⟨HGb.out.2.size, fun k c1 c2 c3 => HGb.out.2.block k c2⟩ ?_
    clear hK KK
    refine Hx.bare (d := (some 7)) (v := ?_) rfl rfl (Au.yq_run (by rfl) (fun u hu => ?_)) ?_
    rotate_left
    · (clear hu; go_simp; try with_reducible rfl)
    simp only [Act.put, List.setIfInBounds_toArray, List.set_cons_zero, List.set_cons_succ]
    refine Hx.bare (d := (some 8)) (v := ?_) rfl rfl (Au.yq_run (by rfl) (fun u hu => ?_)) ?_
    rotate_left
    · (clear hu; go_simp; try with_reducible rfl)
    simp only [Act.put, List.setIfInBounds_toArray, List.set_cons_zero, List.set_cons_succ]
    refine Hx.nil (fun u1 hu1 => ?_)
    have HU1 := Lib.hid (show Kept w u1 ∧ Kept W2 u1 ∧ Wrd gw u1 ∧ u1.heap[ga]? = some (.cells (intsA (numsL c)) 3 (0, 0)) from ⟨HKW.out.trans hu1.1, hu1.1, hu1.2.1, hu1.2.2⟩)
    clear hu1
    go_wp2_with fail
    refine Hx.region [(0, .bare), (1, .bare), (2, .bare), (3, .bare), (4, .take []), (5, .take []), (6, .take []), (7, .take []), (8, .bare), (9, .bare), (10, .bare), (11, .take []), (12, .step), (13, .step), (14, .step), (15, .bare), (16, .bare)] 17 (fun u => Kept u1 u) (fun u => Kept u1 u) (u1.heap.size) (by kernel_rfl) (by kernel_rfl) (fun d _ _ _ _ h => by cases d <;> exact h) (fun d _ _ _ _ h => by cases d <;> exact h) (Hx.mk_none (by decide)) (stab_kept u1) (fun _ h => h) ((Kept.refl u1).drew) (fun u hu => hu.size) ?_
    refine Hx.bare (d := (some 19)) (v := ?_) rfl rfl (Au.yq_run (by rfl) (fun u hu => ?_)) ?_
    rotate_left
    · (clear hu; go_simp; try with_reducible rfl)
    simp only [Act.put, List.setIfInBounds_toArray, List.set_cons_zero, List.set_cons_succ]
    refine Hx.bare (d := (some 20)) (v := ?_) rfl rfl (Au.yq_run (by rfl) (fun u hu => ?_)) ?_
    rotate_left
    · (clear hu; go_simp; try with_reducible rfl)
    simp only [Act.put, List.setIfInBounds_toArray, List.set_cons_zero, List.set_cons_succ]
    refine Hx.bare (d := (some 21)) (v := ?_) rfl rfl (Au.yq_run (by rfl) (fun u hu => ?_)) ?_
    rotate_left
    · (clear hu; go_simp; try with_reducible rfl)
    simp only [Act.put, List.setIfInBounds_toArray, List.set_cons_zero, List.set_cons_succ]
    refine Hx.bare (d := (some 22)) (v := ?_) rfl rfl (Au.yq_run (by rfl) (fun u hu => ?_)) ?_
    rotate_left
    · (clear hu; go_simp; try with_reducible rfl)
    simp only [Act.put, List.setIfInBounds_toArray, List.set_cons_zero, List.set_cons_succ]
    refine Hx.take (d := (some 23)) rfl rfl (Au.yq_load 24 (.tmp 3) rfl _ rfl (by rfl) (fun u hu => load_cfa (kept_at (HU1.out.2.1.trans hu) HB.out) sA)) ?_
    simp only [Act.put, List.setIfInBounds_toArray, List.set_cons_zero, List.set_cons_succ]
    refine Hx.take (d := (some 24)) rfl rfl (Au.yq_call 9 _ (by rfl) (fun u => by go_simp) (fun u hu => HTX.out u (HU1.out.1.trans hu))) ?_
    simp only [Act.put, List.setIfInBounds_toArray, List.set_cons_zero, List.set_cons_succ]
    refine Hx.take (d := (some 25)) rfl rfl (Au.yq_load 24 (.tmp 3) rfl _ rfl (by rfl) (fun u hu => load_cfa (kept_at (HU1.out.2.1.trans hu) HB.out) sA)) ?_
    simp only [Act.put, List.setIfInBounds_toArray, List.set_cons_zero, List.set_cons_succ]
    refine Hx.take (d := (some 26)) rfl rfl (Au.yq_call 10 _ (by rfl) (fun u => by go_simp) (fun u hu => HRT.out u (HU1.out.1.trans hu))) ?_
    simp only [Act.put, List.setIfInBounds_toArray, List.set_cons_zero, List.set_cons_succ]
    refine Hx.bare (d := (some 27)) (v := ?_) rfl rfl (Au.yq_run (by rfl) (fun u hu => ?_)) ?_
    rotate_left
    · (clear hu; go_simp; try with_reducible rfl)
    simp only [Act.put, List.setIfInBounds_toArray, List.set_cons_zero, List.set_cons_succ]
    refine Hx.bare (d := (some 28)) (v := ?_) rfl rfl (Au.yq_run (by rfl) (fun u hu => ?_)) ?_
    rotate_left
    · (clear hu; go_simp; try with_reducible rfl)
    simp only [Act.put, List.setIfInBounds_toArray, List.set_cons_zero, List.set_cons_succ]
    refine Hx.bare (d := (some 29)) (v := ?_) rfl rfl (Au.yq_run (by rfl) (fun u hu => ?_)) ?_
    rotate_left
    · (clear hu; go_simp; try with_reducible rfl)
    simp only [Act.put, List.setIfInBounds_toArray, List.set_cons_zero, List.set_cons_succ]
    refine Hx.take (d := (some 30)) rfl rfl (Au.yq_call 12 _ (by rfl) (fun u => by go_simp) (fun u hu => HFI.out u)) ?_
    simp only [Act.put, List.setIfInBounds_toArray, List.set_cons_zero, List.set_cons_succ]
    refine Hx.step rfl rfl (fun vc hvc KK hK => ?_)
    have HVc := Lib.hid hvc
    clear hvc
    go_wp2_with fail
    obtain ⟨wc, hwc⟩ : ∃ wc, vc.alloc (.cells (intsA firstL) 3) = wc := ⟨_, rfl⟩
    rw [show vc.alloc (.cells #[.int .i64 1, .int .i64 0, .int .i64 1000, .int .i64 0, .int .i64 1, .int .i64 4, .int .i64 8, .int .i64 4, .int .i64 1, .int .i64 10, .int .i64 100, .int .i64 500, .int .i64 10] 3) = wc from hwc]
    have HGc := Lib.hid (show wc.heap[vc.heap.size]? = some (.cells (intsA firstL) 3 (0, 0)) ∧ Kept vc wc from by rw [← hwc]; exact ⟨blk_new _ _, Kept.one _ _⟩)
    refine hK.out (fun u => Kept u1 u ∧ u.heap[vc.heap.size]? = some (.cells (intsA firstL) 3 (0, 0))) _ wc ⟨HVc.out.trans HGc.out.2, HGc.out.1⟩ (stab_and (stab_kept u1) (stab_at _ _ _)) (fun h u hu => hu.1) ⟨HGc.out.2.size, fun k c1 c2 c3 => HGc.out.2.block k c2⟩ ?_
    clear hK KK hwc
    refine Hx.step rfl rfl (fun vd hvd KK hK => ?_)
    have HVd := Lib.hid hvd
    clear hvd
    go_wp2_with (go_at_call 13; refine (HOF.out _ _ HVd.out.2).mono ?_; rintro e wd ⟨rfl, hkd⟩; have HGd := Lib.hid hkd; clear hkd)
    refine hK.out (fun u => Kept u1 u) _ wd (HVd.out.1.trans HGd.out) (stab_kept u1) (fun h u hu => hu) ⟨HGd.out.size, fun k c1 c2 c3 => HGd.out.block k c2⟩ ?_
    clear hK KK
    refine Hx.step rfl rfl (fun ve hve KK hK => ?_)
    have HVe := Lib.hid hve
    clear hve
    go_wp2_with (go_at_call 11; refine (HSF.out _).mono ?_; rintro e we ⟨rfl, hke⟩; have HGe := Lib.hid hke; clear hke)
    refine hK.out (fun u => Kept u1 u) _ we (HVe.out.trans HGe.out) (stab_kept u1) (fun h u hu => hu) ⟨HGe.out.size, fun k c1 c2 c3 => HGe.out.block k c2⟩ ?_
    clear hK KK
    refine Hx.bare (d := (some 34)) (v := ?_) rfl rfl (Au.yq_run (by rfl) (fun u hu => ?_)) ?_
    rotate_left
    · (clear hu; go_simp; try with_reducible rfl)
    simp only [Act.put, List.setIfInBounds_toArray, List.set_cons_zero, List.set_cons_succ]
    refine Hx.bare (d := (some 35)) (v := ?_) rfl rfl (Au.yq_run (by rfl) (fun u hu => ?_)) ?_
    rotate_left
    · (clear hu; go_simp; try with_reducible rfl)
    simp only [Act.put, List.setIfInBounds_toArray, List.set_cons_zero, List.set_cons_succ]
    refine Hx.nil (fun u2 hu2 => ?_)
    have HU2 := Lib.hid (show Kept w u2 ∧ Kept W2 u2 ∧ Wrd gw u2 ∧ u2.heap[ga]? = some (.cells (intsA (numsL c)) 3 (0, 0)) from ⟨HU1.out.1.trans hu2, HU1.out.2.1.trans hu2, wrd_stab gw _ _ HU1.out.2.2.1 hu2, kept_at hu2 HU1.out.2.2.2⟩)
    clear hu2
    go_upto_region 6 with fail
    by_cases hk : k < 0 ∨ 13 ≤ k
    · have hkc : k < 0 ∨ (¬ k < 0 ∧ 13 ≤ k) := by omega
      have HGN2 := Lib.hid (HGN.out hk)
      have HSN2 := Lib.hid (HSN.out hk)
      clear hk HGN HSN HGS HSI
      have HGN := HGN2
      have HSN := HSN2
      clear HGN2 HSN2
      rcases hkc with hk0 | ⟨hk0, hk1⟩
      · go_upto_region 7 with fail
        refine Hx.region [(0, .take []), (1, .bare), (2, .take []), (3, .bare), (4, .bare), (5, .take []), (6, .bare), (7, .bare), (9, .take []), (8, .step), (10, .step), (11, .bare), (12, .bare), (13, .take []), (14, .bare), (15, .bare)] 16 (fun u => Kept u2 u) (fun u => Kept u2 u) (u2.heap.size) (by kernel_rfl) (by kernel_rfl) (fun d _ _ _ _ h => by cases d <;> exact h) (fun d _ _ _ _ h => by cases d <;> exact h) (Hx.mk_none (by decide)) (stab_kept u2) (fun _ h => h) ((Kept.refl u2).drew) (fun u hu => hu.size) ?_
        refine Hx.take (d := (some 42)) rfl rfl (Au.yq_load 24 (.tmp 3) rfl _ rfl (by rfl) (fun u hu => load_cfa (kept_at (HU2.out.2.1.trans hu) HB.out) sA)) ?_
        simp only [Act.put, List.setIfInBounds_toArray, List.set_cons_zero, List.set_cons_succ]
        refine Hx.bare (d := (some 43)) (v := ?_) rfl rfl (Au.yq_run (by rfl) (fun u hu => ?_)) ?_
        rotate_left
        · (clear hu; go_simp; try with_reducible rfl)
        simp only [Act.put, List.setIfInBounds_toArray, List.set_cons_zero, List.set_cons_succ]
        refine Hx.take (d := (some 44)) rfl rfl (Au.yq_call 14 _ (by rfl) (fun u => by go_simp) (fun u hu => HGN.out u)) ?_
        simp only [Act.put, List.setIfInBounds_toArray, List.set_cons_zero, List.set_cons_succ]
        refine Hx.bare (d := (some 45)) (v := ?_) rfl rfl (Au.yq_run (by rfl) (fun u hu => ?_)) ?_
        rotate_left
        · (clear hu; go_simp; try with_reducible rfl)
        simp only [Act.put, List.setIfInBounds_toArray, List.set_cons_zero, List.set_cons_succ]
        refine Hx.bare (d := (some 46)) (v := ?_) rfl rfl (Au.yq_run (by rfl) (fun u hu => ?_)) ?_
        rotate_left
        · (clear hu; go_simp; try with_reducible rfl)
        simp only [Act.put, List.setIfInBounds_toArray, List.set_cons_zero, List.set_cons_succ]
        refine Hx.take (d := (some 47)) rfl rfl (Au.yq_load 24 (.tmp 3) rfl _ rfl (by rfl) (fun u hu => load_cfa (kept_at (HU2.out.2.1.trans hu) HB.out) sA)) ?_
        simp only [Act.put, List.setIfInBounds_toArray, List.set_cons_zero, List.set_cons_succ]
        refine Hx.bare (d := (some 48)) (v := ?_) rfl rfl (Au.yq_run (by rfl) (fun u hu => ?_)) ?_
        rotate_left
        · (clear hu; go_simp; try with_reducible rfl)
        simp only [Act.put, List.setIfInBounds_toArray, List.set_cons_zero, List.set_cons_succ]
        refine Hx.bare (d := (some 49)) (v := ?_) rfl rfl (Au.yq_run (by rfl) (fun u hu => ?_)) ?_
        rotate_left
        · (clear hu; go_simp; try with_reducible rfl)
        simp only [Act.put, List.setIfInBounds_toArray, List.set_cons_zero, List.set_cons_succ]
        refine Hx.take (d := (some 51)) rfl rfl (Au.yq_load 24 (.tmp 3) rfl _ rfl (by rfl) (fun u hu => load_cfa (kept_at (HU2.out.2.1.trans hu) HB.out) sA)) ?_
        simp only [Act.put, List.setIfInBounds_toArray, List.set_cons_zero, List.set_cons_succ]
        refine Hx.step rfl rfl (fun vf hvf KK hK => ?_)
        have HVf := Lib.hid hvf
        clear hvf
        go_wp2_with (go_at_call 15; refine (HSN.out _ (HU2.out.1.trans HVf.out)).mono ?_; rintro e wf ⟨q8, m8, rfl, hp8, hk8⟩; obtain ⟨D8, hD8⟩ : ∃ D, (Su.mk (numsL c) q8 c.pn m8).arr = D := ⟨_, rfl⟩; rw [hD8]; have HGf := Lib.hid (And.intro hp8 (And.intro hk8 hD8)); clear hp8 hk8 hD8)
        refine hK.out (fun u => Kept u2 u ∧ Progs u (.slice q8 c.pn m8) M) _ wf ⟨HVf.out.trans HGf.out.2.1, HGf.out.1⟩ (stab_and (stab_kept u2) progs_stab) (fun h u hu => hu.1) ⟨HGf.out.2.1.size, fun k c1 c2 c3 => HGf.out.2.1.block k c2⟩ ?_
        clear hK KK
        refine Hx.step rfl rfl (fun vg hvg KK hK => ?_)
        have HVg := Lib.hid hvg
        clear hvg
        go_wp2_with (go_at_call 11; (rw [← HGf.out.2.2]); refine (HSS.out _ q8 m8 (HU2.out.1.trans HVg.out.1) HVg.out.2).mono ?_; rintro e wg ⟨rfl, hkg⟩; rw [HGf.out.2.2]; have HGg := Lib.hid hkg; clear hkg)
        refine hK.out (fun u => Kept u2 u) _ wg (HVg.out.1.trans HGg.out) (stab_kept u2) (fun h u hu => hu) ⟨HGg.out.size, fun k c1 c2 c3 => HGg.out.block k c2⟩ ?_
        clear hK KK
        refine Hx.bare (d := (some 53)) (v := ?_) rfl rfl (Au.yq_run (by rfl) (fun u hu => ?_)) ?_
        rotate_left
        · (clear hu; go_simp; try with_reducible rfl)
        simp only [Act.put, List.setIfInBounds_toArray, List.set_cons_zero, List.set_cons_succ]
        refine Hx.bare (d := (some 54)) (v := ?_) rfl rfl (Au.yq_run (by rfl) (fun u hu => ?_)) ?_
        rotate_left
        · (clear hu; go_simp; try with_reducible rfl)
        simp only [Act.put, List.setIfInBounds_toArray, List.set_cons_zero, List.set_cons_succ]
        refine Hx.take (d := (some 55)) rfl rfl (Au.yq_call 6 _ (by rfl) (fun u => by go_simp) (fun u hu => HAW.out u (HU2.out.1.trans hu))) ?_
        simp only [Act.put, List.setIfInBounds_toArray, List.set_cons_zero, List.set_cons_succ]
        refine Hx.bare (d := (some 56)) (v := ?_) rfl rfl (Au.yq_run (by rfl) (fun u hu => ?_)) ?_
        rotate_left
        · (clear hu; go_simp; try with_reducible rfl)
        simp only [Act.put, List.setIfInBounds_toArray, List.set_cons_zero, List.set_cons_succ]
        refine Hx.bare (d := (some 6)) (v := ?_) rfl rfl (Au.yq_run (by rfl) (fun u hu => ?_)) ?_
        rotate_left
        · (clear hu; go_simp; try with_reducible rfl)
        simp only [Act.put, List.setIfInBounds_toArray, List.set_cons_zero, List.set_cons_succ]
        refine Hx.nil (fun u3 hu3 => ?_)
        have HU3 := Lib.hid (HU2.out.1.trans hu3)
        clear hu3
        go_wp2_with fail
        go_ret
        exact ⟨rfl, HU3.out⟩
      · go_upto_region 7 with fail
        refine Hx.region [(0, .take []), (1, .bare), (2, .take []), (3, .bare), (4, .bare), (5, .take []), (6, .bare), (7, .bare), (9, .take []), (8, .step), (10, .step), (11, .bare), (12, .bare), (13, .take []), (14, .bare), (15, .bare)] 16 (fun u => Kept u2 u) (fun u => Kept u2 u) (u2.heap.size) (by kernel_rfl) (by kernel_rfl) (fun d _ _ _ _ h => by cases d <;> exact h) (fun d _ _ _ _ h => by cases d <;> exact h) (Hx.mk_none (by decide)) (stab_kept u2) (fun _ h => h) ((Kept.refl u2).drew) (fun u hu => hu.size) ?_
        refine Hx.take (d := (some 42)) rfl rfl (Au.yq_load 24 (.tmp 3) rfl _ rfl (by rfl) (fun u hu => load_cfa (kept_at (HU2.out.2.1.trans hu) HB.out) sA)) ?_
        simp only [Act.put, List.setIfInBounds_toArray, List.set_cons_zero, List.set_cons_succ]
        refine Hx.bare (d := (some 43)) (v := ?_) rfl rfl (Au.yq_run (by rfl) (fun u hu => ?_)) ?_
        rotate_left
        · (clear hu; go_simp; try with_reducible rfl)
        simp only [Act.put, List.setIfInBounds_toArray, List.set_cons_zero, List.set_cons_succ]
        refine Hx.take (d := (some 44)) rfl rfl (Au.yq_call 14 _ (by rfl) (fun u => by go_simp) (fun u hu => HGN.out u)) ?_
        simp only [Act.put, List.setIfInBounds_toArray, List.set_cons_zero, List.set_cons_succ]
        refine Hx.bare (d := (some 45)) (v := ?_) rfl rfl (Au.yq_run (by rfl) (fun u hu => ?_)) ?_
        rotate_left
        · (clear hu; go_simp; try with_reducible rfl)
        simp only [Act.put, List.setIfInBounds_toArray, List.set_cons_zero, List.set_cons_succ]
        refine Hx.bare (d := (some 46)) (v := ?_) rfl rfl (Au.yq_run (by rfl) (fun u hu => ?_)) ?_
        rotate_left
        · (clear hu; go_simp; try with_reducible rfl)
        simp only [Act.put, List.setIfInBounds_toArray, List.set_cons_zero, List.set_cons_succ]
        refine Hx.take (d := (some 47)) rfl rfl (Au.yq_load 24 (.tmp 3) rfl _ rfl (by rfl) (fun u hu => load_cfa (kept_at (HU2.out.2.1.trans hu) HB.out) sA)) ?_
        simp only [Act.put, List.setIfInBounds_toArray, List.set_cons_zero, List.set_cons_succ]
        refine Hx.bare (d := (some 48)) (v := ?_) rfl rfl (Au.yq_run (by rfl) (fun u hu => ?_)) ?_
        rotate_left
        · (clear hu; go_simp; try with_reducible rfl)
        simp only [Act.put, List.setIfInBounds_toArray, List.set_cons_zero, List.set_cons_succ]
        refine Hx.bare (d := (some 49)) (v := ?_) rfl rfl (Au.yq_run (by rfl) (fun u hu => ?_)) ?_
        rotate_left
        · (clear hu; go_simp; try with_reducible rfl)
        simp only [Act.put, List.setIfInBounds_toArray, List.set_cons_zero, List.set_cons_succ]
        refine Hx.take (d := (some 51)) rfl rfl (Au.yq_load 24 (.tmp 3) rfl _ rfl (by rfl) (fun u hu => load_cfa (kept_at (HU2.out.2.1.trans hu) HB.out) sA)) ?_
        simp only [Act.put, List.setIfInBounds_toArray, List.set_cons_zero, List.set_cons_succ]
        refine Hx.step rfl rfl (fun vf hvf KK hK => ?_)
        have HVf := Lib.hid hvf
        clear hvf
        go_wp2_with (go_at_call 15; refine (HSN.out _ (HU2.out.1.trans HVf.out)).mono ?_; rintro e wf ⟨q8, m8, rfl, hp8, hk8⟩; obtain ⟨D8, hD8⟩ : ∃ D, (Su.mk (numsL c) q8 c.pn m8).arr = D := ⟨_, rfl⟩; rw [hD8]; have HGf := Lib.hid (And.intro hp8 (And.intro hk8 hD8)); clear hp8 hk8 hD8)
        refine hK.out (fun u => Kept u2 u ∧ Progs u (.slice q8 c.pn m8) M) _ wf ⟨HVf.out.trans HGf.out.2.1, HGf.out.1⟩ (stab_and (stab_kept u2) progs_stab) (fun h u hu => hu.1) ⟨HGf.out.2.1.size, fun k c1 c2 c3 => HGf.out.2.1.block k c2⟩ ?_
        clear hK KK
        refine Hx.step rfl rfl (fun vg hvg KK hK => ?_)
        have HVg := Lib.hid hvg
        clear hvg
        go_wp2_with (go_at_call 11; (rw [← HGf.out.2.2]); refine (HSS.out _ q8 m8 (HU2.out.1.trans HVg.out.1) HVg.out.2).mono ?_; rintro e wg ⟨rfl, hkg⟩; rw [HGf.out.2.2]; have HGg := Lib.hid hkg; clear hkg)
        refine hK.out (fun u => Kept u2 u) _ wg (HVg.out.1.trans HGg.out) (stab_kept u2) (fun h u hu => hu) ⟨HGg.out.size, fun k c1 c2 c3 => HGg.out.block k c2⟩ ?_
        clear hK KK
        refine Hx.bare (d := (some 53)) (v := ?_) rfl rfl (Au.yq_run (by rfl) (fun u hu => ?_)) ?_
        rotate_left
        · (clear hu; go_simp; try with_reducible rfl)
        simp only [Act.put, List.setIfInBounds_toArray, List.set_cons_zero, List.set_cons_succ]
        refine Hx.bare (d := (some 54)) (v := ?_) rfl rfl (Au.yq_run (by rfl) (fun u hu => ?_)) ?_
        rotate_left
        · (clear hu; go_simp; try with_reducible rfl)
        simp only [Act.put, List.setIfInBounds_toArray, List.set_cons_zero, List.set_cons_succ]
        refine Hx.take (d := (some 55)) rfl rfl (Au.yq_call 6 _ (by rfl) (fun u => by go_simp) (fun u hu => HAW.out u (HU2.out.1.trans hu))) ?_
        simp only [Act.put, List.setIfInBounds_toArray, List.set_cons_zero, List.set_cons_succ]
        refine Hx.bare (d := (some 56)) (v := ?_) rfl rfl (Au.yq_run (by rfl) (fun u hu => ?_)) ?_
        rotate_left
        · (clear hu; go_simp; try with_reducible rfl)
        simp only [Act.put, List.setIfInBounds_toArray, List.set_cons_zero, List.set_cons_succ]
        refine Hx.bare (d := (some 6)) (v := ?_) rfl rfl (Au.yq_run (by rfl) (fun u hu => ?_)) ?_
        rotate_left
        · (clear hu; go_simp; try with_reducible rfl)
        simp only [Act.put, List.setIfInBounds_toArray, List.set_cons_zero, List.set_cons_succ]
        refine Hx.nil (fun u3 hu3 => ?_)
        have HU3 := Lib.hid (HU2.out.1.trans hu3)
        clear hu3
        go_wp2_with fail
        go_ret
        exact ⟨rfl, HU3.out⟩
    · obtain ⟨j, rfl⟩ : ∃ j : Nat, k = (j : Int) := ⟨k.toNat, by omega⟩
      have hj : j < 13 := by omega
      have HJ := Lib.hid (And.intro (HGS.out j hj) (HSI.out j hj))
      have hk0 : ¬ (j : Int) < 0 := by omega
      have hk1 : ¬ 13 ≤ (j : Int) := by omega
      have hkI : (j : Int) < 13 := by omega
      obtain ⟨had, hhad⟩ : ∃ h, (numsL c).getD j 0 = h := ⟨_, rfl⟩
      rw [hhad] at HJ
      have hat := ints_at (l := numsL c) (k := j) hj
      rw [hhad] at hat
      have HHAD := Lib.hid hhad
      have HHAT := Lib.hid hat
      have lA2 := load_cfa (kept_at HU2.out.2.1 HB.out) sA
      clear hk hhad hat HGN HSN HGS HSI
      go_upto_region 9 with (first
        | (refine load_l 24 (.tmp 3) rfl _ rfl rfl (.agg A) lA2 ?_)
        | (go_at_call 15; refine (HJ.out.2 _ HU2.out.1).mono ?_; rintro e w3 ⟨q8, m8, rfl, hp8, hk8⟩; obtain ⟨D8, hD8⟩ : ∃ D, (Su.mk ((numsL c).set j n) q8 c.pn m8).arr = D := ⟨_, rfl⟩; rw [hD8]; have sD : D8.size = 14 := (by rw [← hD8]; rfl); have oD : D8.all (·.oneCell') = true := (by rw [← hD8]; exact arr_one _); have H3 := Lib.hid (And.intro hp8 (And.intro hk8 hD8)); clear hp8 hk8 hD8)
        | (refine Ad.store_new rfl 24 (.tmp 9) (.tmp 60) rfl w3.heap.size D8 rfl rfl w3 _ rfl 14 info_cf sD rfl oD ?_))
      obtain ⟨u4, hu4⟩ : ∃ u4, w3.alloc (.cells D8 24) = u4 := ⟨_, rfl⟩
      rw [hu4]
      have hk4 : Kept u2 u4 := by rw [← hu4]; exact H3.out.2.1.more _
      have hd4 : u4.heap[w3.heap.size]? = some (.cells D8 24 (0, 0)) := by rw [← hu4]; exact blk_new _ _
      have hk34 : Kept w3 u4 := by rw [← hu4]; exact Kept.one _ _
      have H4 := Lib.hid (And.intro hk4 (And.intro hd4 hk34))
      have lA4 := load_cfa (kept_at (HU2.out.2.1.trans hk4) HB.out) sA
      have HGW := Lib.hid (show ga ≠ w3.heap.size by have h1 := blk_lt HU2.out.2.2.2; have h2 := H3.out.2.1.size; omega)
      clear hu4 hk4 hd4 hk34 lA2
      go_upto_region 12 with (first
        | (refine load_l 24 (.tmp 3) rfl _ rfl rfl (.agg A) lA4 ?_)
        | (go_at_call 14; refine (HJ.out.1 _).mono ?_; rintro e w5 ⟨rfl, hk5⟩; have hb5 := kept_at (H4.out.1.trans hk5) HU2.out.2.2.2; have g1 : w5.cell? ⟨ga, j, none⟩ = some (.int .i64 had) := (by rw [blk_cell hb5]; exact HHAT.out); have g2 : w5.frozen? ⟨ga, j, none⟩ = false := blk_free hb5 j; have H5 := Lib.hid (And.intro hk5 hb5); clear hk5 hb5))
      obtain ⟨u5, hu5⟩ : ∃ u5, w5.setCell ⟨ga, j, none⟩ (.int .i64 n) = u5 := ⟨_, rfl⟩
      rw [hu5]
      have f5 : Fr (fun i => i = ga) w5 u5 := by rw [← hu5]; exact fr_cell w5 ga j _
      have k25 : Kept W2 w5 := HU2.out.2.1.trans (H4.out.1.trans H5.out.1)
      have K25 : Kept W2 u5 := ((Fr.kept (S := fun i => i = ga) k25).trans f5 (fun i e => .inl e)).keeps (fun i e => by rw [e]; exact HGA.out.1)
      have hw5 : Wrd gw w5 := wrd_stab gw _ _ HU2.out.2.2.1 (H4.out.1.trans H5.out.1)
      have HU5 := Lib.hid (show Kept w u5 ∧ Kept W2 u5 ∧ Wrd gw u5 ∧ u5.heap[ga]? = some (.cells (intsA ((numsL c).set j n)) 3 (0, 0)) ∧ u5.heap[w3.heap.size]? = some (.cells D8 24 (0, 0)) from
        ⟨HKW.out.trans K25, K25, ⟨Nat.lt_of_lt_of_le hw5.1 f5.size, fun i hi => f5.cell (hw5.2 i hi) (fun e => Nat.ne_of_lt HGA.out.2 e)⟩, by rw [← hu5, ← ints_set]; exact blk_set H5.out.2 j _, by
          have h8 := kept_at H5.out.1 H4.out.2.1
          rw [f5.block _ (blk_lt h8) (fun e => HGW.out e.symm)]; exact h8⟩)
      have P5 : Progs u5 (.slice q8 c.pn m8) M := H3.out.1 _ ((Fr.kept (H4.out.2.2.trans H5.out.1)).trans f5 (fun i e => .inl (by rw [e]; exact blk_lt HU2.out.2.2.2)))
      obtain ⟨hl1, hL1, hv⟩ := HLM.out
      have hlen : ((numsL c).set j n).length = 13 := by rw [List.length_set]; rfl
      obtain ⟨O8, hO8⟩ : ∃ O, (Su.mk ((numsL c).set j n) c.pa c.pn c.pc).arr = O := ⟨_, rfl⟩
      have h8 := H3.out.2.2
      have HWO := Lib.hid (fun (u : World) => word_any hj u)
      have HGD := Lib.hid (show ∀ u : World, Calls Tryz.prog 14 #[.agg D8, .int .i64 (j : Int)] u fun e w' => e = .returned (.int .i64 n) ∧ Kept u w' from fun u => by
        have t := get_some (Su.mk ((numsL c).set j n) q8 c.pn m8) j hj u
        rw [nums_mk hlen, h8, getD_set _ hj] at t
        exact t)
      have HOL := Lib.hid (show ∀ u : World, u.heap[ga]? = some (.cells (intsA ((numsL c).set j n)) 3 (0, 0)) → Calls Tryz.prog 13 #[.slice (some ⟨ga, 0, none⟩) 13 13, .slice c.pa c.pn c.pc] u fun e w' => e = .returned (.agg O8) ∧ Kept u w' from fun u hg => by
        have t := of_any hlen hg c.pa c.pn c.pc
        rw [hO8] at t
        exact t)
      have HS1 := Lib.hid (show ∀ u : World, Kept u5 u → Calls Tryz.prog 11 #[.agg D8, .agg O8] u fun e w' => e = .returned (.bool true) ∧ Kept u w' from fun u hu => by
        have t := same_any (w := u) (a := Su.mk ((numsL c).set j n) q8 c.pn m8) (b := Su.mk ((numsL c).set j n) c.pa c.pn c.pc) (P5.go hu) (hv.go (HU5.out.1.trans hu)) (by rw [nums_mk hlen, nums_mk hlen])
        rw [h8, hO8] at t
        exact t)
      have HS2 := Lib.hid (show ∀ u : World, Kept u5 u → Calls Tryz.prog 15 #[.agg D8, .int .i64 (j : Int), .int .i64 had] u fun e w' => ∃ q m, e = .returned (.agg (Su.mk ((numsL (Su.mk ((numsL c).set j n) q8 c.pn m8)).set j had) q c.pn m).arr) ∧ Progs w' (.slice q c.pn m) M ∧ Kept u w' from fun u hu => by
        have t := set_in (c := Su.mk ((numsL c).set j n) q8 c.pn m8) (P5.go hu) hl1 hL1 j hj had
        rw [h8] at t
        exact t)
      have HS3 := Lib.hid (show ∀ (u : World) (q : Option Addr) (m : Nat), Kept u5 u → Progs u (.slice q c.pn m) M → Calls Tryz.prog 11 #[.agg (Su.mk ((numsL (Su.mk ((numsL c).set j n) q8 c.pn m8)).set j had) q c.pn m).arr, .agg A] u fun e w' => e = .returned (.bool true) ∧ Kept u w' from fun u q m hu hp => by
        have t := same_any (w := u) (a := Su.mk ((numsL (Su.mk ((numsL c).set j n) q8 c.pn m8)).set j had) q c.pn m) (b := c) hp (hv.go (HU5.out.1.trans hu)) (by rw [nums_mk (by rw [nums_mk hlen, List.length_set]; exact hlen), nums_mk hlen]; exact set_back _ hj _ HHAD.out)
        rw [HAA.out] at t
        exact t)
      clear f5 k25 K25 hw5 P5 hl1 hL1 hv hlen hO8 h8 hu5
      go_wp2_with fail
      refine Hx.region [(0, .bare), (1, .bare), (2, .bare), (3, .take []), (4, .bare), (5, .take []), (6, .bare), (7, .bare), (8, .bare), (9, .bare), (10, .bare), (11, .bare), (12, .bare), (13, .take []), (14, .bare), (15, .take []), (16, .bare), (17, .bare), (18, .bare), (19, .bare), (20, .take []), (21, .bare), (22, .bare), (23, .take []), (24, .take []), (25, .take []), (26, .bare), (27, .bare), (28, .take []), (29, .bare), (30, .bare), (32, .take []), (31, .step), (33, .step), (34, .bare), (35, .bare), (36, .take []), (37, .bare), (38, .bare)] 39 (fun u => Kept u5 u) (fun u => Kept u5 u) (u5.heap.size) (by kernel_rfl) (by kernel_rfl) (fun d _ _ _ _ h => by cases d <;> exact h) (fun d _ _ _ _ h => by cases d <;> exact h) (Hx.mk_none (by decide)) (stab_kept u5) (fun _ h => h) ((Kept.refl u5).drew) (fun u hu => hu.size) ?_
      refine Hx.bare (d := (some 72)) (v := ?_) rfl rfl (Au.yq_run (by rfl) (fun u hu => ?_)) ?_
      rotate_left
      · (clear hu; go_simp; try with_reducible rfl)
      simp only [Act.put, List.setIfInBounds_toArray, List.set_cons_zero, List.set_cons_succ]
      refine Hx.bare (d := (some 73)) (v := ?_) rfl rfl (Au.yq_run (by rfl) (fun u hu => ?_)) ?_
      rotate_left
      · (clear hu; go_simp; try with_reducible rfl)
      simp only [Act.put, List.setIfInBounds_toArray, List.set_cons_zero, List.set_cons_succ]
      refine Hx.bare (d := (some 74)) (v := ?_) rfl rfl (Au.yq_run (by rfl) (fun u hu => ?_)) ?_
      rotate_left
      · (clear hu; go_simp; try with_reducible rfl)
      simp only [Act.put, List.setIfInBounds_toArray, List.set_cons_zero, List.set_cons_succ]
      refine Hx.take (d := (some 75)) rfl rfl (Au.yq_load 9 (.tmp 74) rfl _ rfl (by rfl) (fun u hu => ld_s ((wrd_stab gw _ _ HU5.out.2.2.1 hu).2 j hj))) ?_
      simp only [Act.put, List.setIfInBounds_toArray, List.set_cons_zero, List.set_cons_succ]
      refine Hx.bare (d := (some 76)) (v := ?_) rfl rfl (Au.yq_run (by rfl) (fun u hu => ?_)) ?_
      rotate_left
      · (clear hu; go_simp; try with_reducible rfl)
      simp only [Act.put, List.setIfInBounds_toArray, List.set_cons_zero, List.set_cons_succ]
      refine Hx.take (d := (some 77)) rfl rfl (Au.yq_call 16 _ (by rfl) (fun u => by go_simp) (fun u hu => HWO.out u)) ?_
      simp only [Act.put, List.setIfInBounds_toArray, List.set_cons_zero, List.set_cons_succ]
      refine Hx.bare (d := (some 78)) (v := .bool true) rfl rfl (Au.yq_run (by rfl) (fun u hu => ?_)) ?_
      · (clear hu; go_simp; try first | rfl | exact IntKind.wrap_i64 _ | (simp only [wrap64, IntKind.wrap_i64]))
      simp only [Act.put, List.setIfInBounds_toArray, List.set_cons_zero, List.set_cons_succ]
      refine Hx.bare (d := (some 79)) (v := ?_) rfl rfl (Au.yq_run (by rfl) (fun u hu => ?_)) ?_
      rotate_left
      · (clear hu; go_simp; try with_reducible rfl)
      simp only [Act.put, List.setIfInBounds_toArray, List.set_cons_zero, List.set_cons_succ]
      refine Hx.bare (d := (some 80)) (v := ?_) rfl rfl (Au.yq_run (by rfl) (fun u hu => ?_)) ?_
      rotate_left
      · (clear hu; go_simp; try with_reducible rfl)
      simp only [Act.put, List.setIfInBounds_toArray, List.set_cons_zero, List.set_cons_succ]
      refine Hx.bare (d := (some 81)) (v := ?_) rfl rfl (Au.yq_run (by rfl) (fun u hu => ?_)) ?_
      rotate_left
      · (clear hu; go_simp; try with_reducible rfl)
      simp only [Act.put, List.setIfInBounds_toArray, List.set_cons_zero, List.set_cons_succ]
      refine Hx.bare (d := (some 82)) (v := .bool true) rfl rfl (Au.yq_run (by rfl) (fun u hu => ?_)) ?_
      · (clear hu; go_simp; try first | rfl | exact IntKind.wrap_i64 _ | (simp only [wrap64, IntKind.wrap_i64]))
      simp only [Act.put, List.setIfInBounds_toArray, List.set_cons_zero, List.set_cons_succ]
      refine Hx.bare (d := (some 83)) (v := ?_) rfl rfl (Au.yq_run (by rfl) (fun u hu => ?_)) ?_
      rotate_left
      · (clear hu; go_simp; try with_reducible rfl)
      simp only [Act.put, List.setIfInBounds_toArray, List.set_cons_zero, List.set_cons_succ]
      refine Hx.bare (d := (some 84)) (v := ?_) rfl rfl (Au.yq_run (by rfl) (fun u hu => ?_)) ?_
      rotate_left
      · (clear hu; go_simp; try with_reducible rfl)
      simp only [Act.put, List.setIfInBounds_toArray, List.set_cons_zero, List.set_cons_succ]
      refine Hx.take (d := (some 85)) rfl rfl (Au.yq_load 24 (.tmp 9) rfl _ rfl (by rfl) (fun u hu => load_cfa (kept_at hu HU5.out.2.2.2.2) sD)) ?_
      simp only [Act.put, List.setIfInBounds_toArray, List.set_cons_zero, List.set_cons_succ]
      refine Hx.bare (d := (some 86)) (v := ?_) rfl rfl (Au.yq_run (by rfl) (fun u hu => ?_)) ?_
      rotate_left
      · (clear hu; go_simp; try with_reducible rfl)
      simp only [Act.put, List.setIfInBounds_toArray, List.set_cons_zero, List.set_cons_succ]
      refine Hx.take (d := (some 87)) rfl rfl (Au.yq_call 14 _ (by rfl) (fun u => by go_simp) (fun u hu => HGD.out u)) ?_
      simp only [Act.put, List.setIfInBounds_toArray, List.set_cons_zero, List.set_cons_succ]
      refine Hx.bare (d := (some 88)) (v := ?_) rfl rfl (Au.yq_run (by rfl) (fun u hu => ?_)) ?_
      rotate_left
      · (clear hu; go_simp; try with_reducible rfl)
      simp only [Act.put, List.setIfInBounds_toArray, List.set_cons_zero, List.set_cons_succ]
      refine Hx.bare (d := (some 89)) (v := .bool true) rfl rfl (Au.yq_run (by rfl) (fun u hu => ?_)) ?_
      · (clear hu; go_simp; try first | rfl | exact IntKind.wrap_i64 _ | (simp only [wrap64, IntKind.wrap_i64]))
      simp only [Act.put, List.setIfInBounds_toArray, List.set_cons_zero, List.set_cons_succ]
      refine Hx.bare (d := (some 90)) (v := ?_) rfl rfl (Au.yq_run (by rfl) (fun u hu => ?_)) ?_
      rotate_left
      · (clear hu; go_simp; try with_reducible rfl)
      simp only [Act.put, List.setIfInBounds_toArray, List.set_cons_zero, List.set_cons_succ]
      refine Hx.bare (d := (some 91)) (v := ?_) rfl rfl (Au.yq_run (by rfl) (fun u hu => ?_)) ?_
      rotate_left
      · (clear hu; go_simp; try with_reducible rfl)
      simp only [Act.put, List.setIfInBounds_toArray, List.set_cons_zero, List.set_cons_succ]
      refine Hx.take (d := (some 92)) rfl rfl (Au.yq_load 24 (.tmp 9) rfl _ rfl (by rfl) (fun u hu => load_cfa (kept_at hu HU5.out.2.2.2.2) sD)) ?_
      simp only [Act.put, List.setIfInBounds_toArray, List.set_cons_zero, List.set_cons_succ]
      refine Hx.bare (d := (some 93)) (v := ?_) rfl rfl (Au.yq_run (by rfl) (fun u hu => ?_)) ?_
      rotate_left
      · (clear hu; go_simp; try with_reducible rfl)
      simp only [Act.put, List.setIfInBounds_toArray, List.set_cons_zero, List.set_cons_succ]
      refine Hx.bare (d := (some 94)) (v := ?_) rfl rfl (Au.yq_run (by rfl) (fun u hu => ?_)) ?_
      rotate_left
      · (clear hu; go_simp; try with_reducible rfl)
      simp only [Act.put, List.setIfInBounds_toArray, List.set_cons_zero, List.set_cons_succ]
      refine Hx.take (d := (some 95)) rfl rfl (Au.yq_load 22 (.tmp 94) rfl _ rfl (by rfl) (fun u hu => ld_ps (by rw [blk_cell (kept_at (HU5.out.2.1.trans hu) HB.out), ← HAA.out]; rfl))) ?_
      simp only [Act.put, List.setIfInBounds_toArray, List.set_cons_zero, List.set_cons_succ]
      refine Hx.take (d := (some 96)) rfl rfl (Au.yq_call 13 _ (by rfl) (fun u => by go_simp) (fun u hu => HOL.out u (kept_at hu HU5.out.2.2.2.1))) ?_
      simp only [Act.put, List.setIfInBounds_toArray, List.set_cons_zero, List.set_cons_succ]
      refine Hx.take (d := (some 97)) rfl rfl (Au.yq_call 11 _ (by rfl) (fun u => by go_simp) (fun u hu => HS1.out u hu)) ?_
      simp only [Act.put, List.setIfInBounds_toArray, List.set_cons_zero, List.set_cons_succ]
      refine Hx.bare (d := (some 98)) (v := ?_) rfl rfl (Au.yq_run (by rfl) (fun u hu => ?_)) ?_
      rotate_left
      · (clear hu; go_simp; try with_reducible rfl)
      simp only [Act.put, List.setIfInBounds_toArray, List.set_cons_zero, List.set_cons_succ]
      refine Hx.bare (d := (some 99)) (v := ?_) rfl rfl (Au.yq_run (by rfl) (fun u hu => ?_)) ?_
      rotate_left
      · (clear hu; go_simp; try with_reducible rfl)
      simp only [Act.put, List.setIfInBounds_toArray, List.set_cons_zero, List.set_cons_succ]
      refine Hx.take (d := (some 100)) rfl rfl (Au.yq_load 24 (.tmp 9) rfl _ rfl (by rfl) (fun u hu => load_cfa (kept_at hu HU5.out.2.2.2.2) sD)) ?_
      simp only [Act.put, List.setIfInBounds_toArray, List.set_cons_zero, List.set_cons_succ]
      refine Hx.bare (d := (some 101)) (v := ?_) rfl rfl (Au.yq_run (by rfl) (fun u hu => ?_)) ?_
      rotate_left
      · (clear hu; go_simp; try with_reducible rfl)
      simp only [Act.put, List.setIfInBounds_toArray, List.set_cons_zero, List.set_cons_succ]
      refine Hx.bare (d := (some 102)) (v := ?_) rfl rfl (Au.yq_run (by rfl) (fun u hu => ?_)) ?_
      rotate_left
      · (clear hu; go_simp; try with_reducible rfl)
      simp only [Act.put, List.setIfInBounds_toArray, List.set_cons_zero, List.set_cons_succ]
      refine Hx.take (d := (some 104)) rfl rfl (Au.yq_load 24 (.tmp 3) rfl _ rfl (by rfl) (fun u hu => load_cfa (kept_at (HU5.out.2.1.trans hu) HB.out) sA)) ?_
      simp only [Act.put, List.setIfInBounds_toArray, List.set_cons_zero, List.set_cons_succ]
      refine Hx.step rfl rfl (fun vh hvh KK hK => ?_)
      have HVh := Lib.hid hvh
      clear hvh
      go_wp2_with (go_at_call 15; refine (HS2.out _ HVh.out).mono ?_; rintro e wh ⟨q9, m9, rfl, hp9, hk9⟩; obtain ⟨D9, hD9⟩ : ∃ D, (Su.mk ((numsL (Su.mk ((numsL c).set j n) q8 c.pn m8)).set j had) q9 c.pn m9).arr = D := ⟨_, rfl⟩; rw [hD9]; have HGh := Lib.hid (And.intro hp9 (And.intro hk9 hD9)); clear hp9 hk9 hD9)
      refine hK.out (fun u => Kept u5 u ∧ Progs u (.slice q9 c.pn m9) M) _ wh ⟨HVh.out.trans HGh.out.2.1, HGh.out.1⟩ (stab_and (stab_kept u5) progs_stab) (fun h u hu => hu.1) ⟨HGh.out.2.1.size, fun k c1 c2 c3 => HGh.out.2.1.block k c2⟩ ?_
      clear hK KK
      refine Hx.step rfl rfl (fun vi hvi KK hK => ?_)
      have HVi := Lib.hid hvi
      clear hvi
      go_wp2_with (go_at_call 11; (rw [← HGh.out.2.2]); refine (HS3.out _ q9 m9 HVi.out.1 HVi.out.2).mono ?_; rintro e wi ⟨rfl, hki⟩; rw [HGh.out.2.2]; have HGi := Lib.hid hki; clear hki)
      refine hK.out (fun u => Kept u5 u) _ wi (HVi.out.1.trans HGi.out) (stab_kept u5) (fun h u hu => hu) ⟨HGi.out.size, fun k c1 c2 c3 => HGi.out.block k c2⟩ ?_
      clear hK KK
      refine Hx.bare (d := (some 106)) (v := ?_) rfl rfl (Au.yq_run (by rfl) (fun u hu => ?_)) ?_
      rotate_left
      · (clear hu; go_simp; try with_reducible rfl)
      simp only [Act.put, List.setIfInBounds_toArray, List.set_cons_zero, List.set_cons_succ]
      refine Hx.bare (d := (some 107)) (v := ?_) rfl rfl (Au.yq_run (by rfl) (fun u hu => ?_)) ?_
      rotate_left
      · (clear hu; go_simp; try with_reducible rfl)
      simp only [Act.put, List.setIfInBounds_toArray, List.set_cons_zero, List.set_cons_succ]
      refine Hx.take (d := (some 108)) rfl rfl (Au.yq_call 6 _ (by rfl) (fun u => by go_simp) (fun u hu => HAW.out u (HU5.out.1.trans hu))) ?_
      simp only [Act.put, List.setIfInBounds_toArray, List.set_cons_zero, List.set_cons_succ]
      refine Hx.bare (d := (some 109)) (v := ?_) rfl rfl (Au.yq_run (by rfl) (fun u hu => ?_)) ?_
      rotate_left
      · (clear hu; go_simp; try with_reducible rfl)
      simp only [Act.put, List.setIfInBounds_toArray, List.set_cons_zero, List.set_cons_succ]
      refine Hx.bare (d := (some 6)) (v := ?_) rfl rfl (Au.yq_run (by rfl) (fun u hu => ?_)) ?_
      rotate_left
      · (clear hu; go_simp; try with_reducible rfl)
      simp only [Act.put, List.setIfInBounds_toArray, List.set_cons_zero, List.set_cons_succ]
      refine Hx.nil (fun u6 hu6 => ?_)
      have HU6 := Lib.hid (HU5.out.1.trans hu6)
      clear hu6
      go_wp2_with fail
      go_ret
      exact ⟨rfl, HU6.out⟩


end Go.Proofs.YtcoagmkncjonmaaGreatDoor.Su
