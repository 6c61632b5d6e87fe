/- The document's table: Put. -/
import Derived.Test.YtiaafjabhnomeaaTbX
import Derived.Test.YtiaafjabhnomeaaId3
import Derived.Test.YtiaafjabhnomeaaAv
namespace Go.Proofs.Ytiaafjabhnomeaa.Tb
open Go.RowKit Go.Sort IdM Se Mv Blk
open St (Kept blk_cell blk_free blk_lt blk_set)
open Go.Proofs.Ytiaafjabhnomeaa.Ow (Ow Cls load_key arr_one info_row)
open Go.Proofs.Ytiaafjabhnomeaa.Rv
open Go.Proofs.Ytiaafjabhnomeaa.Ad (load_w load_l store_new kept_row)
open Go.Proofs.Ytiaafjabhnomeaa.Au (Stab stab_and stab_kept)
open Wh (Fr)
set_option linter.unusedVariables false
set_option linter.unusedSimpArgs false
set_option maxRecDepth 20000

def insR (e : Re) : List Re → List Re
  | [] => [e]
  | y :: r => if kI e.k y.k < 0 then e :: y :: r else y :: insR e r
/-- does one of these stand behind it? -/
def later (e : Re) (E : List Re) : Bool := E.any fun y => decide (kI e.k y.k < 0)
def accR (e : Re) (E : List Re) : List Re := if later e E = true then insR e E else E
theorem later_app (e : Re) (A : List Re) (y : Re) : later e (A ++ [y]) = (later e A || decide (kI e.k y.k < 0)) := by unfold later; rw [List.any_append]; simp
theorem ins_laid {e : Re} : ∀ {A : List Re} (B : List Re), later e A = true → insR e (A ++ B) = insR e A ++ B
  | [], B, h => by simp [later] at h
  | a :: A, B, h => by
    show insR e (a :: (A ++ B)) = _
    unfold insR
    by_cases c : kI e.k a.k < 0
    · rw [if_pos c, if_pos c]; rfl
    · rw [if_neg c, if_neg c, ins_laid B (by unfold later at *; simpa [c] using h)]; rfl
theorem ins_not {e : Re} : ∀ {A : List Re}, later e A = false → insR e A = A ++ [e]
  | [], _ => rfl
  | a :: A, h => by
    have c : ¬ kI e.k a.k < 0 := fun c => by unfold later at h; simp [c] at h
    unfold insR
    rw [if_neg c, ins_not (by unfold later at *; simpa [c] using h)]; rfl
theorem ins_here {e y : Re} : ∀ {A : List Re}, later e A = false → kI e.k y.k < 0 → insR e (A ++ [y]) = (A ++ [e]) ++ [y]
  | [], _, c => by show insR e [y] = [e, y]; unfold insR; rw [if_pos c]
  | a :: A, h, c => by
    have c2 : ¬ kI e.k a.k < 0 := fun c => by unfold later at h; simp [c] at h
    show insR e (a :: (A ++ [y])) = _
    unfold insR
    rw [if_neg c2, ins_here (by unfold later at *; simpa [c2] using h) c]; rfl
theorem acc_laid {e y : Re} {A : List Re} (h : later e A = true) : accR e (A ++ [y]) = accR e A ++ [y] := by
  unfold accR; rw [later_app, h, Bool.true_or, if_pos rfl, if_pos rfl, ins_laid [y] h]
theorem acc_here {e y : Re} {A : List Re} (h : later e A = false) (c : kI e.k y.k < 0) : accR e (A ++ [y]) = (A ++ [e]) ++ [y] := by
  unfold accR; rw [later_app, h, Bool.false_or, decide_eq_true c, if_pos rfl, ins_here h c]
theorem acc_on {e y : Re} {A : List Re} (h : later e A = false) (c : ¬ kI e.k y.k < 0) : accR e (A ++ [y]) = A ++ [y] := by
  unfold accR; rw [later_app, h, Bool.false_or, decide_eq_false c, if_neg (by decide)]
theorem acc_not {e : Re} {A : List Re} (h : later e A = false) : accR e A = A := by unfold accR; rw [h, if_neg (by decide)]
theorem acc_yes {e : Re} {A : List Re} (h : later e A = true) : accR e A = insR e A := by unfold accR; rw [h, if_pos rfl]
theorem ins_len (e : Re) : ∀ E : List Re, (insR e E).length = E.length + 1
  | [] => rfl
  | y :: r => by
    unfold insR
    split
    · simp
    · rw [List.length_cons, ins_len e r, List.length_cons]
theorem acc_len (e : Re) (E : List Re) : (accR e E).length ≤ E.length + 1 := by
  unfold accR; split
  · rw [ins_len]; exact Nat.le_refl _
  · omega
theorem re_snoc {E : List Re} {i : Nat} {y : Re} (h : E[i]? = some y) : E.take (i + 1) = E.take i ++ [y] := by rw [List.take_add_one, h]; rfl
theorem apart_drop {E : List Re} (h : Apart E) (x : Ke) : Apart (dropR x E) := List.Pairwise.sublist List.filter_sublist h

set_option maxHeartbeats 4000000 in
theorem rtput_any {w : World} {R : Nat} {v : Value} {E0 : List Re} (h : Rt w R v E0) (hu : Apart E0) (e : Re) : Calls Try.prog 15 #[.pointer (some ⟨R, 0, none⟩), .agg e.arr] w fun r w' => r = .returned (.tuple #[]) ∧ ∃ v', (E0.length + 1 ≤ 800000 → Rt w' R v' (insR e (dropR e.k E0))) ∧ (∀ g, v'.ownBlock = some g → w.heap.size ≤ g) ∧ Fr (fun k => k = R) w w' := by
  obtain ⟨A, hA⟩ : ∃ A, e.arr = A := ⟨_, rfl⟩
  have sA : A.size = 19 := by rw [← hA]; rfl
  have hfx := fold_ow e hA
  have HEA := Lib.hid (show (encR e).toArray = A by rw [arr_to, hA])
  have a0 : A[0]? = some (.int .i64 e.k.n) := by rw [← hA]; rfl
  have a1 : A[1]? = some (.int .i64 e.k.i) := by rw [← hA]; rfl
  have a2 : A[2]? = some (.int .i64 e.k.s) := by rw [← hA]; rfl
  have a3 : A[3]? = some (.int .i64 e.k.a) := by rw [← hA]; rfl
  rw [hA]
  clear hA
  obtain ⟨W, hW⟩ : ∃ W, w.alloc (.cells A 35) = W := ⟨_, rfl⟩
  have hb : Bl w W [(A, 35)] := hW ▸ Bl.one w _ _
  have CD := rtdrop_any (h.kept hb.kept) hu e.k
  have hR0 := blk_lt h.blk
  have zW : w.heap.size < W.heap.size := blk_lt (hb.blk 0 rfl)
  have y0 : W.cell? ⟨w.heap.size, 0, none⟩ = some (.int .i64 e.k.n) := (hb.cell 0 0 rfl).trans a0
  have y1 : W.cell? ⟨w.heap.size, 1, none⟩ = some (.int .i64 e.k.i) := (hb.cell 0 1 rfl).trans a1
  have y2 : W.cell? ⟨w.heap.size, 2, none⟩ = some (.int .i64 e.k.s) := (hb.cell 0 2 rfl).trans a2
  have y3 : W.cell? ⟨w.heap.size, 3, none⟩ = some (.int .i64 e.k.a) := (hb.cell 0 3 rfl).trans a3
  unfold kv at CD
  have CD := Lib.hid CD
  have HB := Lib.hid hb
  have HW := Lib.hid hW
  have HC := Lib.hid (And.intro a0 (And.intro a1 (And.intro a2 a3)))
  have HU := Lib.hid (apart_drop hu e.k)
  have hE0 := h.len
  have HDL := Lib.hid (dropR_le e.k E0)
  clear h hu hb hW a0 a1 a2 a3
  go_enter Try.func15, Try.ntmps15
  go_upto_region 1 with fail
  rw [HW.out]
  go_upto_region 2 with (first | (go_at_call 26; refine CD.out.mono ?_; rintro r w1 ⟨rfl, v1, T1, o1, f1⟩))
  obtain ⟨E, hE⟩ : ∃ E, dropR e.k E0 = E := ⟨_, rfl⟩
  rw [hE] at T1 HU HDL
  have HEE := Lib.hid hE
  obtain ⟨p, N, cap, rfl⟩ := RowV.shape T1.row
  have hN : E.length = N := by
    rcases T1.row.2 with ⟨e, hn⟩ | ⟨g, cap, cur, e, _⟩
    · cases e; exact hn
    · cases e; rfl
  have hm2 : N ≤ 800000 := by have := T1.len; omega
  have b1 : w1.heap[w.heap.size]? = some (.cells A 35 (0, 0)) := (f1.block _ zW (fun c => by omega)).trans (HB.out.blk 0 rfl)
  have HT := Lib.hid T1
  have H1 := Lib.hid (And.intro b1 (And.intro o1 f1))
  have HN := Lib.hid hN
  have LB := Lib.hid (fun (u : World) (hu : Kept w1 u) => run_loadVar_row u w.heap.size (P := Try.prog) _ 35 A (0, 0) _ (kept_at hu b1) Try.underlying35 rfl (by rw [sA]; exact info_row))
  have LK := Lib.hid (fun (u : World) (hu : Kept w1 u) => load_key (u := u) (b := w.heap.size) (o := 0) ((blk_cell (kept_at hu b1) 0).trans HC.out.1) ((blk_cell (kept_at hu b1) 1).trans HC.out.2.1) ((blk_cell (kept_at hu b1) 2).trans HC.out.2.2.1) ((blk_cell (kept_at hu b1) 3).trans HC.out.2.2.2))
  clear T1 o1 f1 b1 hN hE CD y0 y1 y2 y3
  go_wp2_with fail
  go_loopw [4, 5, 6] (fun d b y wr => ∃ i : Nat, i ≤ N ∧ y = .int .i64 (i : Int) ∧ b = .bool (later e (E.take i)) ∧ Hid (Kept w1 wr) ∧ Hid (Rr wr d (accR e (E.take i))) ∧ Hid (∀ g, d.ownBlock = some g → w1.heap.size ≤ g)) (fun _ _ y _ => N - (intOf y).toNat)
  case atStart => exact ⟨0, Nat.zero_le _, rfl, rfl, Lib.hid (Kept.refl _), Lib.hid (rowv_nil _ _ _ _), Lib.hid (fun g e => by cases e)⟩
  case round =>
    obtain ⟨i, hi, rfl, rfl, hk, hr, ho⟩ := hrel
    have c0 := (HT.out.kept hk.out).c0
    obtain ⟨la, hla⟩ : ∃ la, later e (E.take i) = la := ⟨_, rfl⟩
    rw [hla]
    by_cases hlt : i < N
    · obtain ⟨y, g, cap', hy, e1, hg, le, lk⟩ := Rr.at (HT.out.kept hk.out).row (i := i) (by rw [HN.out]; exact hlt)
      obtain ⟨e2, e3⟩ : p = some ⟨g, 0, none⟩ ∧ cap = cap' := by injection e1 with a b c; exact ⟨a, c⟩
      clear e1
      subst e2; subst e3
      have hi1 : (i : Int) < N := by omega
      have e5 : (0 : Nat) + i * 19 = i * 19 := Nat.zero_add _
      obtain ⟨Y, hY⟩ : ∃ Y, y.arr = Y := ⟨_, rfl⟩
      have sY : Y.size = 19 := by rw [← hY]; rfl
      have hfy := fold_ow y hY
      have HYA := Lib.hid (show (encR y).toArray = Y by rw [arr_to, hY])
      rw [hY] at le
      have HLE := Lib.hid le
      have HLK := Lib.hid (show ∀ u, Kept wr u → (loadVar 32 ⟨g, i * 19, none⟩).run Try.prog u = .ok (.agg #[.int .i64 y.k.n, .int .i64 y.k.i, .int .i64 y.k.s, .int .i64 y.k.a]) u from lk)
      have HS := Lib.hid (re_snoc hy)
      have hlen : (accR e (E.take i)).length ≤ 800001 := Nat.le_trans (acc_len _ _) (by rw [List.length_take]; omega)
      have LL := Lib.hid (fun (u : World) (hu : Kept wr u) => run_loadL ((HT.out.kept (hk.out.trans hu)).c0))
      have hSt : Stab (fun u => Kept wr u) := stab_kept wr
      clear hy hY le lk
      cases la
      · obtain ⟨z, hz⟩ : ∃ z, kI e.k y.k = z := ⟨_, rfl⟩
        have CK := Lib.hid (fun (u : World) => Id.rkeys_as (Lib.hid (show keysI e.k.n e.k.i e.k.s e.k.a y.k.n y.k.i y.k.s y.k.a = z from hz)) (w := u))
        have HZ := Lib.hid hz
        have HLA := Lib.hid hla
        clear hz hla
        go_upto_region 7 with fail
        refine Av.region 16 (fun u => Kept wr u) (by kernel_rfl) ((Kept.refl wr).drew) ?_
        refine Av.take 0 (some 20) (v := ?_) rfl rfl (by kernel_rfl) (by kernel_rfl) (by kernel_rfl) (by kernel_rfl) (fun _ _ _ h => h) hSt (Au.yq_run (by rfl) (fun u hu => ?_)) ?_
        rotate_left
        · (clear hu; go_simp; try with_reducible rfl)
        simp only [Act.put, List.setIfInBounds_toArray, List.set_cons_zero, List.set_cons_succ]
        refine Av.take 1 (some 21) (v := ?_) rfl rfl (by kernel_rfl) (by kernel_rfl) (by kernel_rfl) (by kernel_rfl) (fun _ _ _ h => h) hSt (Au.yq_run (by rfl) (fun u hu => ?_)) ?_
        rotate_left
        · (clear hu; go_simp; try with_reducible rfl)
        simp only [Act.put, List.setIfInBounds_toArray, List.set_cons_zero, List.set_cons_succ]
        refine Av.take 2 (some 22) (v := ?_) rfl rfl (by kernel_rfl) (by kernel_rfl) (by kernel_rfl) (by kernel_rfl) (fun _ _ _ h => h) hSt (Au.yq_run (by rfl) (fun u hu => ?_)) ?_
        rotate_left
        · (clear hu; go_simp; try with_reducible rfl)
        simp only [Act.put, List.setIfInBounds_toArray, List.set_cons_zero, List.set_cons_succ]
        refine Av.take 3 (some 23) (v := ?_) rfl rfl (by kernel_rfl) (by kernel_rfl) (by kernel_rfl) (by kernel_rfl) (fun _ _ _ h => h) hSt (Au.yq_run (by rfl) (fun u hu => ?_)) ?_
        rotate_left
        · (clear hu; go_simp; try with_reducible rfl)
        simp only [Act.put, List.setIfInBounds_toArray, List.set_cons_zero, List.set_cons_succ]
        refine Av.take 4 (some 24) rfl rfl (by kernel_rfl) (by kernel_rfl) (by kernel_rfl) (by kernel_rfl) (fun _ _ _ h => h) hSt (Au.yq_load 32 (.tmp 23) rfl _ rfl (by rfl) (fun u hu => LK.out u (hk.out.trans hu))) ?_
        simp only [Act.put, List.setIfInBounds_toArray, List.set_cons_zero, List.set_cons_succ]
        refine Av.take 5 (some 25) (v := ?_) rfl rfl (by kernel_rfl) (by kernel_rfl) (by kernel_rfl) (by kernel_rfl) (fun _ _ _ h => h) hSt (Au.yq_run (by rfl) (fun u hu => ?_)) ?_
        rotate_left
        · (clear hu; go_simp; try with_reducible rfl)
        simp only [Act.put, List.setIfInBounds_toArray, List.set_cons_zero, List.set_cons_succ]
        refine Av.take 6 (some 26) (v := ?_) rfl rfl (by kernel_rfl) (by kernel_rfl) (by kernel_rfl) (by kernel_rfl) (fun _ _ _ h => h) hSt (Au.yq_run (by rfl) (fun u hu => ?_)) ?_
        rotate_left
        · (clear hu; go_simp; try with_reducible rfl)
        simp only [Act.put, List.setIfInBounds_toArray, List.set_cons_zero, List.set_cons_succ]
        refine Av.take 7 (some 27) (v := ?_) rfl rfl (by kernel_rfl) (by kernel_rfl) (by kernel_rfl) (by kernel_rfl) (fun _ _ _ h => h) hSt (Au.yq_run (by rfl) (fun u hu => ?_)) ?_
        rotate_left
        · (clear hu; go_simp; try with_reducible rfl)
        simp only [Act.put, List.setIfInBounds_toArray, List.set_cons_zero, List.set_cons_succ]
        refine Av.take 8 (some 28) rfl rfl (by kernel_rfl) (by kernel_rfl) (by kernel_rfl) (by kernel_rfl) (fun _ _ _ h => h) hSt (Au.yq_load 26 (.tmp 27) rfl _ rfl (by rfl) (fun u hu => LL.out u hu)) ?_
        simp only [Act.put, List.setIfInBounds_toArray, List.set_cons_zero, List.set_cons_succ]
        refine Av.take 9 (some 29) (v := ?_) rfl rfl (by kernel_rfl) (by kernel_rfl) (by kernel_rfl) (by kernel_rfl) (fun _ _ _ h => h) hSt (Au.yq_run (by rfl) (fun u hu => ?_)) ?_
        rotate_left
        · (clear hu; go_simp; try with_reducible rfl)
        simp only [Act.put, List.setIfInBounds_toArray, List.set_cons_zero, List.set_cons_succ]
        refine Av.take 10 (some 30) (v := ?_) rfl rfl (by kernel_rfl) (by kernel_rfl) (by kernel_rfl) (by kernel_rfl) (fun _ _ _ h => h) hSt (Au.yq_run (by rfl) (fun u hu => ?_)) ?_
        rotate_left
        · (clear hu; go_simp; try with_reducible rfl)
        simp only [Act.put, List.setIfInBounds_toArray, List.set_cons_zero, List.set_cons_succ]
        refine Av.take 11 (some 31) (v := ?_) rfl rfl (by kernel_rfl) (by kernel_rfl) (by kernel_rfl) (by kernel_rfl) (fun _ _ _ h => h) hSt (Au.yq_run (by rfl) (fun u hu => ?_)) ?_
        rotate_left
        · (clear hu; go_simp; try with_reducible rfl)
        simp only [Act.put, List.setIfInBounds_toArray, List.set_cons_zero, List.set_cons_succ]
        refine Av.take 12 (some 32) rfl rfl (by kernel_rfl) (by kernel_rfl) (by kernel_rfl) (by kernel_rfl) (fun _ _ _ h => h) hSt (Au.yq_load 32 (.tmp 31) rfl _ rfl (by rfl) (fun u hu => HLK.out u hu)) ?_
        simp only [Act.put, List.setIfInBounds_toArray, List.set_cons_zero, List.set_cons_succ]
        refine Av.take 13 (some 33) rfl rfl (by kernel_rfl) (by kernel_rfl) (by kernel_rfl) (by kernel_rfl) (fun _ _ _ h => h) hSt (Au.yq_call 34 _ (by rfl) (fun u => by go_simp) (fun u hu => CK.out u)) ?_
        simp only [Act.put, List.setIfInBounds_toArray, List.set_cons_zero, List.set_cons_succ]
        by_cases hz0 : z < 0
        · have hd : decide (z < 0) = true := decide_eq_true hz0
          refine Av.take 14 (some 34) (v := ?_) rfl rfl (by kernel_rfl) (by kernel_rfl) (by kernel_rfl) (by kernel_rfl) (fun _ _ _ h => h) hSt (Au.yq_run (by rfl) (fun u hu => ?_)) ?_
          rotate_left
          · (clear hu; go_simp; try with_reducible rfl)
          simp only [Act.put, List.setIfInBounds_toArray, List.set_cons_zero, List.set_cons_succ]
          refine Av.take 15 (some 35) (v := ?_) rfl rfl (by kernel_rfl) (by kernel_rfl) (by kernel_rfl) (by kernel_rfl) (fun _ _ _ h => h) hSt (Au.yq_run (by rfl) (fun u hu => ?_)) ?_
          rotate_left
          · (clear hu; go_simp; try with_reducible rfl)
          simp only [Act.put, List.setIfInBounds_toArray, List.set_cons_zero, List.set_cons_succ]
          refine Av.done (by kernel_rfl) (fun u hu => ?_)
          have HUU := Lib.hid hu
          have lb := LB.out u (hk.out.trans hu)
          have hr1 : Hid (Rr u u4 (E.take i)) := Lib.hid (by have := RowV.keep hr.out hu; rwa [acc_not HLA.out] at this)
          clear hu
          go_upto_region 9 with (first
            | (refine load_l 35 (.tmp 3) rfl _ rfl rfl (.agg A) lb ?_)
            | (at_builtin; refine wpList_append_onev enc_row u rfl (.tmp 36) (.tmp 38) rfl _ _ e A HEA.out rfl rfl hr1.out (by rw [List.length_take]; omega) ?_; intro v3 w3 r3 g3 b3))
          have k3 : Kept w1 w3 := ((Fr.kept (S := fun k => w1.heap.size ≤ k) ((hk.out.trans HUU.out).trans (Kept.one u _))).grown g3 (fun k c => .inl (ho.out k c))).keeps (fun k c => c)
          have zz := Below.size (hk.out.trans HUU.out)
          have o3 : ∀ g, v3.ownBlock = some g → w1.heap.size ≤ g := fun g' c => by
            rcases b3 with d | ⟨g2, d, hl⟩
            · exact ho.out g' (d.symm.trans c)
            · obtain rfl : g2 = g' := Option.some.inj (d.symm.trans c)
              omega
          have l9 : (loadVar 35 ⟨g, i * 19, none⟩).run Try.prog w3 = .ok (.agg Y) w3 := by
            obtain ⟨y', g', cap', hy', e1, _, le', _⟩ := Rr.at (HT.out.kept k3).row (i := i) (by rw [HN.out]; exact hlt)
            have : y' = y := by
              have h1 := re_snoc hy'
              rw [HS.out] at h1
              have h2 := List.append_cancel_left h1
              simpa using h2.symm
            subst this
            injection e1 with a b c
            injection a with a
            injection a with a
            subst a
            have := le' w3 (Kept.refl _)
            rw [← arr_to, HYA.out] at this; exact this
          have c9 := (HT.out.kept k3).c0
          have H3 := Lib.hid (And.intro r3 (And.intro k3 o3))
          clear r3 g3 b3 k3 o3 lb c0
          go_wp2_with (first
            | (refine load_l 35 (.tmp 46) rfl _ rfl rfl (.agg Y) l9 ?_)
            | (at_builtin; refine wpList_append_onev enc_row w3 rfl (.tmp 40) (.tmp 48) rfl _ _ y Y HYA.out rfl rfl H3.out.1 (by simp; omega) ?_; intro v5 w5 r5 g5 b5))
          have k5 : Kept w1 w5 := ((Fr.kept (S := fun k => w1.heap.size ≤ k) (H3.out.2.1.trans (Kept.one w3 _))).grown g5 (fun k c => .inl (H3.out.2.2 k c))).keeps (fun k c => c)
          have z5 := Below.size H3.out.2.1
          have o5 : ∀ g, v5.ownBlock = some g → w1.heap.size ≤ g := fun g' c => by
            rcases b5 with d | ⟨g2, d, hl⟩
            · exact H3.out.2.2 g' (d.symm.trans c)
            · obtain rfl : g2 = g' := Option.some.inj (d.symm.trans c)
              omega
          have H5 := Lib.hid (And.intro r5 (And.intro k5 o5))
          clear r5 g5 b5 k5 o5
          have HLT : later e (E.take (i + 1)) = true := by rw [HS.out, later_app, HLA.out, HZ.out, hd]; rfl
          go_roundw
          case rel => exact ⟨i + 1, hlt, by go_num, by rw [HLT], Lib.hid H5.out.2.1, by rw [HS.out, acc_here HLA.out (by rw [HZ.out]; exact hz0)]; exact Lib.hid H5.out.1, Lib.hid H5.out.2.2⟩
          case measure => simp [intOf]; omega
        · have hd : decide (z < 0) = false := decide_eq_false hz0
          refine Av.take 14 (some 34) (v := ?_) rfl rfl (by kernel_rfl) (by kernel_rfl) (by kernel_rfl) (by kernel_rfl) (fun _ _ _ h => h) hSt (Au.yq_run (by rfl) (fun u hu => ?_)) ?_
          rotate_left
          · (clear hu; go_simp; try with_reducible rfl)
          simp only [Act.put, List.setIfInBounds_toArray, List.set_cons_zero, List.set_cons_succ]
          refine Av.take 15 (some 35) (v := ?_) rfl rfl (by kernel_rfl) (by kernel_rfl) (by kernel_rfl) (by kernel_rfl) (fun _ _ _ h => h) hSt (Au.yq_run (by rfl) (fun u hu => ?_)) ?_
          rotate_left
          · (clear hu; go_simp; try with_reducible rfl)
          simp only [Act.put, List.setIfInBounds_toArray, List.set_cons_zero, List.set_cons_succ]
          refine Av.done (by kernel_rfl) (fun u hu => ?_)
          have HUU := Lib.hid hu
          have hr1 : Hid (Rr u u4 (accR e (E.take i))) := Lib.hid (RowV.keep hr.out hu)
          have HLT : later e (E.take (i + 1)) = false := by rw [HS.out, later_app, HLA.out, HZ.out, hd]; rfl
          have HAC : accR e (E.take (i + 1)) = accR e (E.take i) ++ [y] := by rw [HS.out, acc_on HLA.out (by rw [HZ.out]; exact hz0), acc_not HLA.out]
          clear hu
          have l9 := HLE.out u HUU.out
          have c9 := (HT.out.kept (hk.out.trans HUU.out)).c0
          go_wp2_with (first
            | (refine load_l 35 (.tmp 46) rfl _ rfl rfl (.agg Y) l9 ?_)
            | (at_builtin; refine wpList_append_onev enc_row u rfl (.tmp 40) (.tmp 48) rfl _ _ y Y HYA.out rfl rfl hr1.out (by omega) ?_; intro v5 w5 r5 g5 b5))
          have k5 : Kept w1 w5 := ((Fr.kept (S := fun k => w1.heap.size ≤ k) ((hk.out.trans HUU.out).trans (Kept.one u _))).grown g5 (fun k c => .inl (ho.out k c))).keeps (fun k c => c)
          have z5 := Below.size (hk.out.trans HUU.out)
          have o5 : ∀ g, v5.ownBlock = some g → w1.heap.size ≤ g := fun g' c => by
            rcases b5 with d | ⟨g2, d, hl⟩
            · exact ho.out g' (d.symm.trans c)
            · obtain rfl : g2 = g' := Option.some.inj (d.symm.trans c)
              omega
          have H5 := Lib.hid (And.intro r5 (And.intro k5 o5))
          clear r5 g5 b5 k5 o5
          go_roundw
          case rel => exact ⟨i + 1, hlt, by go_num, by rw [HLT], Lib.hid H5.out.2.1, by rw [HAC]; exact Lib.hid H5.out.1, Lib.hid H5.out.2.2⟩
          case measure => simp [intOf]; omega
      · have HLA := Lib.hid hla
        clear hla
        go_upto_region 7 with fail
        refine Av.region 16 (fun u => Kept wr u) (by kernel_rfl) ((Kept.refl wr).drew) ?_
        refine Av.take 0 (some 20) (v := ?_) rfl rfl (by kernel_rfl) (by kernel_rfl) (by kernel_rfl) (by kernel_rfl) (fun _ _ _ h => h) hSt (Au.yq_run (by rfl) (fun u hu => ?_)) ?_
        rotate_left
        · (clear hu; go_simp; try with_reducible rfl)
        simp only [Act.put, List.setIfInBounds_toArray, List.set_cons_zero, List.set_cons_succ]
        refine Av.take 1 (some 21) (v := ?_) rfl rfl (by kernel_rfl) (by kernel_rfl) (by kernel_rfl) (by kernel_rfl) (fun _ _ _ h => h) hSt (Au.yq_run (by rfl) (fun u hu => ?_)) ?_
        rotate_left
        · (clear hu; go_simp; try with_reducible rfl)
        simp only [Act.put, List.setIfInBounds_toArray, List.set_cons_zero, List.set_cons_succ]
        refine Av.take 2 (some 22) (v := ?_) rfl rfl (by kernel_rfl) (by kernel_rfl) (by kernel_rfl) (by kernel_rfl) (fun _ _ _ h => h) hSt (Au.yq_run (by rfl) (fun u hu => ?_)) ?_
        rotate_left
        · (clear hu; go_simp; try with_reducible rfl)
        simp only [Act.put, List.setIfInBounds_toArray, List.set_cons_zero, List.set_cons_succ]
        refine Av.take 3 (some 23) rfl rfl (by kernel_rfl) (by kernel_rfl) (by kernel_rfl) (by kernel_rfl) (fun _ _ _ h => h) hSt (Au.yq_skip (by rfl)) ?_
        simp only [Act.put, List.setIfInBounds_toArray, List.set_cons_zero, List.set_cons_succ]
        refine Av.take 4 (some 24) rfl rfl (by kernel_rfl) (by kernel_rfl) (by kernel_rfl) (by kernel_rfl) (fun _ _ _ h => h) hSt (Au.yq_skip (by rfl)) ?_
        simp only [Act.put, List.setIfInBounds_toArray, List.set_cons_zero, List.set_cons_succ]
        refine Av.take 5 (some 25) rfl rfl (by kernel_rfl) (by kernel_rfl) (by kernel_rfl) (by kernel_rfl) (fun _ _ _ h => h) hSt (Au.yq_skip (by rfl)) ?_
        simp only [Act.put, List.setIfInBounds_toArray, List.set_cons_zero, List.set_cons_succ]
        refine Av.take 6 (some 26) rfl rfl (by kernel_rfl) (by kernel_rfl) (by kernel_rfl) (by kernel_rfl) (fun _ _ _ h => h) hSt (Au.yq_skip (by rfl)) ?_
        simp only [Act.put, List.setIfInBounds_toArray, List.set_cons_zero, List.set_cons_succ]
        refine Av.take 7 (some 27) rfl rfl (by kernel_rfl) (by kernel_rfl) (by kernel_rfl) (by kernel_rfl) (fun _ _ _ h => h) hSt (Au.yq_skip (by rfl)) ?_
        simp only [Act.put, List.setIfInBounds_toArray, List.set_cons_zero, List.set_cons_succ]
        refine Av.take 8 (some 28) rfl rfl (by kernel_rfl) (by kernel_rfl) (by kernel_rfl) (by kernel_rfl) (fun _ _ _ h => h) hSt (Au.yq_skip (by rfl)) ?_
        simp only [Act.put, List.setIfInBounds_toArray, List.set_cons_zero, List.set_cons_succ]
        refine Av.take 9 (some 29) rfl rfl (by kernel_rfl) (by kernel_rfl) (by kernel_rfl) (by kernel_rfl) (fun _ _ _ h => h) hSt (Au.yq_skip (by rfl)) ?_
        simp only [Act.put, List.setIfInBounds_toArray, List.set_cons_zero, List.set_cons_succ]
        refine Av.take 10 (some 30) rfl rfl (by kernel_rfl) (by kernel_rfl) (by kernel_rfl) (by kernel_rfl) (fun _ _ _ h => h) hSt (Au.yq_skip (by rfl)) ?_
        simp only [Act.put, List.setIfInBounds_toArray, List.set_cons_zero, List.set_cons_succ]
        refine Av.take 11 (some 31) rfl rfl (by kernel_rfl) (by kernel_rfl) (by kernel_rfl) (by kernel_rfl) (fun _ _ _ h => h) hSt (Au.yq_skip (by rfl)) ?_
        simp only [Act.put, List.setIfInBounds_toArray, List.set_cons_zero, List.set_cons_succ]
        refine Av.take 12 (some 32) rfl rfl (by kernel_rfl) (by kernel_rfl) (by kernel_rfl) (by kernel_rfl) (fun _ _ _ h => h) hSt (Au.yq_skip (by rfl)) ?_
        simp only [Act.put, List.setIfInBounds_toArray, List.set_cons_zero, List.set_cons_succ]
        refine Av.take 13 (some 33) rfl rfl (by kernel_rfl) (by kernel_rfl) (by kernel_rfl) (by kernel_rfl) (fun _ _ _ h => h) hSt (Au.yq_skip (by rfl)) ?_
        simp only [Act.put, List.setIfInBounds_toArray, List.set_cons_zero, List.set_cons_succ]
        refine Av.take 14 (some 34) rfl rfl (by kernel_rfl) (by kernel_rfl) (by kernel_rfl) (by kernel_rfl) (fun _ _ _ h => h) hSt (Au.yq_skip (by rfl)) ?_
        simp only [Act.put, List.setIfInBounds_toArray, List.set_cons_zero, List.set_cons_succ]
        refine Av.take 15 (some 35) (v := ?_) rfl rfl (by kernel_rfl) (by kernel_rfl) (by kernel_rfl) (by kernel_rfl) (fun _ _ _ h => h) hSt (Au.yq_run (by rfl) (fun u hu => ?_)) ?_
        rotate_left
        · (clear hu; go_simp; try with_reducible rfl)
        simp only [Act.put, List.setIfInBounds_toArray, List.set_cons_zero, List.set_cons_succ]
        refine Av.done (by kernel_rfl) (fun u hu => ?_)
        have HUU := Lib.hid hu
        have hr1 : Hid (Rr u u4 (accR e (E.take i))) := Lib.hid (RowV.keep hr.out hu)
        have HLT : later e (E.take (i + 1)) = true := by rw [HS.out, later_app, HLA.out]; rfl
        have HAC : accR e (E.take (i + 1)) = accR e (E.take i) ++ [y] := by rw [HS.out, acc_laid HLA.out]
        clear hu
        have l9 := HLE.out u HUU.out
        have c9 := (HT.out.kept (hk.out.trans HUU.out)).c0
        go_wp2_with (first
          | (refine load_l 35 (.tmp 46) rfl _ rfl rfl (.agg Y) l9 ?_)
          | (at_builtin; refine wpList_append_onev enc_row u rfl (.tmp 40) (.tmp 48) rfl _ _ y Y HYA.out rfl rfl hr1.out (by omega) ?_; intro v5 w5 r5 g5 b5))
        have k5 : Kept w1 w5 := ((Fr.kept (S := fun k => w1.heap.size ≤ k) ((hk.out.trans HUU.out).trans (Kept.one u _))).grown g5 (fun k c => .inl (ho.out k c))).keeps (fun k c => c)
        have z5 := Below.size (hk.out.trans HUU.out)
        have o5 : ∀ g, v5.ownBlock = some g → w1.heap.size ≤ g := fun g' c => by
          rcases b5 with d | ⟨g2, d, hl⟩
          · exact ho.out g' (d.symm.trans c)
          · obtain rfl : g2 = g' := Option.some.inj (d.symm.trans c)
            omega
        have H5 := Lib.hid (And.intro r5 (And.intro k5 o5))
        clear r5 g5 b5 k5 o5
        go_roundw
        case rel => exact ⟨i + 1, hlt, by go_num, by rw [HLT], Lib.hid H5.out.2.1, by rw [HAC]; exact Lib.hid H5.out.1, Lib.hid H5.out.2.2⟩
        case measure => simp [intOf]; omega
    · obtain rfl : i = N := by omega
      have hkk : E.take i = E := List.take_of_length_le (Nat.le_of_eq HN.out)
      rw [hkk] at hr hla
      have HLA := Lib.hid hla
      have hRl := blk_lt HT.out.blk
      have FIN : ∀ wz vz, Kept w1 wz → Rr wz vz (insR e E) → (∀ g, vz.ownBlock = some g → w1.heap.size ≤ g) → ∃ v', (E0.length + 1 ≤ 800000 → Rt (wz.setCell ⟨R, 0, none⟩ vz) R v' (insR e (dropR e.k E0))) ∧ (∀ g, v'.ownBlock = some g → w.heap.size ≤ g) ∧ Fr (fun k => k = R) w (wz.setCell ⟨R, 0, none⟩ vz) := fun wz vz hkz hrz hoz => by
        refine ⟨vz, fun hl => ⟨blk_set (HT.out.kept hkz).blk 0 vz, ?_, fun g c => by have := hoz g c; omega, ?_⟩, fun g c => ?_, ?_⟩
        · rw [HEE.out]
          exact RowV.kept hrz fun g c => Below.heap_setCell _ _ _ _ (by have := hoz g c; show g ≠ R; omega)
        · rw [HEE.out, ins_len]
          have := HDL.out
          omega
        · have := hoz g c
          have := H1.out.2.2.size
          have := Below.size HB.out.kept
          omega
        · exact (((Fr.kept (S := fun k => k = R) HB.out.kept).trans H1.out.2.2 (fun _ c => .inl c)).then_kept hkz).setCell (.inl rfl) _
      have HFIN := Lib.hid FIN
      clear FIN hla
      cases la
      · have lb := LB.out wr hk.out
        have hr1 : Hid (Rr wr u4 E) := Lib.hid (by have := hr.out; rwa [acc_not HLA.out] at this)
        go_upto_region 13 with (first
          | (refine load_l 35 (.tmp 3) rfl _ rfl rfl (.agg A) lb ?_)
          | (at_builtin; refine wpList_append_onev enc_row wr rfl (.tmp 52) (.tmp 54) rfl _ _ e A HEA.out rfl rfl hr1.out (by have := HN.out; omega) ?_; intro v3 w3 r3 g3 b3))
        have k3 : Kept w1 w3 := ((Fr.kept (S := fun k => w1.heap.size ≤ k) (hk.out.trans (Kept.one wr _))).grown g3 (fun k c => .inl (ho.out k c))).keeps (fun k c => c)
        have zz := Below.size hk.out
        have o3 : ∀ g, v3.ownBlock = some g → w1.heap.size ≤ g := fun g' c => by
          rcases b3 with d | ⟨g2, d, hl⟩
          · exact ho.out g' (d.symm.trans c)
          · obtain rfl : g2 = g' := Option.some.inj (d.symm.trans c)
            omega
        obtain ⟨q6, n6, c6, rfl⟩ := RowV.shape r3
        have cz := (HT.out.kept k3).c0
        have fz : w3.frozen? ⟨R, 0, none⟩ = false := blk_free (HT.out.kept k3).blk 0
        have F3 := Lib.hid (HFIN.out _ _ k3 (by rw [ins_not HLA.out]; exact r3) o3)
        clear r3 g3 b3 k3 o3 lb c0
        go_wp2_with fail
        go_end0
        exact ⟨rfl, F3.out⟩
      · have F3 := Lib.hid (HFIN.out wr u4 hk.out (by have := hr.out; rwa [acc_yes HLA.out] at this) ho.out)
        obtain ⟨q6, n6, c6, rfl⟩ := RowV.shape hr.out
        have fz : wr.frozen? ⟨R, 0, none⟩ = false := blk_free (HT.out.kept hk.out).blk 0
        go_wp2_with fail
        go_end0
        exact ⟨rfl, F3.out⟩

end Go.Proofs.Ytiaafjabhnomeaa.Tb
