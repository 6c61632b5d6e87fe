/- Package sender: a call is sent. -/
import Derived.Test.YtncdiggejofbbaaGreatDoorSn
import Derived.Test.YtncdiggejofbbaaGreatDoorOw5
namespace Go.Proofs.YtncdiggejofbbaaGreatDoor.Sn
open Go.RowKit Go.Sort Go.Shelf St PkM Ad Po Blk Eqs
open Go.Proofs.YtncdiggejofbbaaGreatDoor.Cl
open Go.Proofs.YtncdiggejofbbaaGreatDoor.Ow
open Go.Proofs.YtncdiggejofbbaaGreatDoor.Au (Stab stab_and)
open Go.Proofs.YtncdiggejofbbaaGreatDoor.Ad (load_w load_l store_new)
set_option linter.unusedVariables false

def zeroC : Array Value := Cl.zero.arr

theorem Bl.five (w : World) (a b c d e : Array Value) (ta tb tc td te : TypeId) : Bl w (((((w.alloc (.cells a ta)).alloc (.cells b tb)).alloc (.cells c tc)).alloc (.cells d td)).alloc (.cells e te)) [(a, ta), (b, tb), (c, tc), (d, td), (e, te)] := Bl.start [(a, ta), (b, tb), (c, tc), (d, td), (e, te)] w

set_option maxRecDepth 100000 in
set_option maxHeartbeats 4000000 in
theorem send_any (cf : Cf) (me : Int) (o : Ow) (x : Cl) (now : Int) (q : Option Addr) (N c : Nat) (w : World) (ht : Tm.Tab w) (ha : Wd x.att) :
    Calls Tryz.prog 8 #[.agg cf.arr, .int .i64 me, .agg (o.arr q N c), .agg x.arr, .int .i64 now] w fun e w' => e = .returned (.tuple #[.agg (snd cf me o x now).1.arr, .agg (snd cf me o x now).2.arr]) ∧ Kept w w' := by
  obtain ⟨F, hF⟩ : ∃ F, cf.arr = F := ⟨_, rfl⟩
  obtain ⟨A, hA⟩ : ∃ A, o.arr q N c = A := ⟨_, rfl⟩
  obtain ⟨X, hX⟩ : ∃ X, x.arr = X := ⟨_, rfl⟩
  obtain ⟨b, hb⟩ : ∃ b, beg x now = b := ⟨_, rfl⟩
  obtain ⟨B, hB⟩ : ∃ B, b.arr = B := ⟨_, rfl⟩
  have sX : X.size = 13 := by rw [← hX]; rfl
  have sB : B.size = 13 := by rw [← hB]; rfl
  have oX : X.all (·.oneCell') = true := by rw [← hX]; exact cl_one x
  have oB : B.all (·.oneCell') = true := by rw [← hB]; exact cl_one b
  have sA : A.size = 19 := by rw [← hA]; rfl
  have c12 : A[12]? = some (.int .i64 o.hp) := by rw [← hA]; rfl
  have c13 : A[13]? = some (.int .i64 o.dl) := by rw [← hA]; rfl
  have d4 : F[4]? = some (.int .i64 cf.least) := by rw [← hF]; rfl
  have d5 : F[5]? = some (.int .i64 cf.hops) := by rw [← hF]; rfl
  have C1 := Lib.hid (show ∀ u, Calls Tryz.prog 21 #[.agg X, .int .i64 now] u fun e w' => e = .returned (.agg B) ∧ Kept u w' from fun u => by rw [← hX, ← hB, ← hb]; exact beg_any x ha now u)
  obtain ⟨W, hW⟩ : ∃ W, ((((w.alloc (.cells F 24)).alloc (.cells A 39)).alloc (.cells X 41)).alloc (.cells zeroC 41)).alloc (.cells zeroP 43) = W := ⟨_, rfl⟩
  have hL : Bl w W [(F, 24), (A, 39), (X, 41), (zeroC, 41), (zeroP, 43)] := hW ▸ Bl.five w F A X _ _ _ _ _ _ _
  have HW := Lib.hid hW
  have HS := Lib.hid hL
  have HT := Lib.hid ht
  have HN := Lib.hid (And.intro hF (And.intro hA (And.intro hX (And.intro hb hB))))
  rw [hF, hA, hX]
  clear hW hL ht
  by_cases h : (x.st = 0 ∨ x.st = 2) ∧ x.att < 5
  · have he : ∀ u, (binOp .eql 41 (.agg B) (.agg X)).run Tryz.prog u = .ok (.bool false) u := fun u => by rw [← hB, ← hX, ← hb]; exact (eq_cl _ _ u).trans (by rw [beg_same h])
    by_cases h2 : cf.hops ≤ o.hp
    · rw [snd_far h h2]
      obtain ⟨E, hE⟩ : ∃ E, (ends x 8).arr = E := ⟨_, rfl⟩
      have sE : E.size = 13 := by rw [← hE]; rfl
      have oE : E.all (·.oneCell') = true := by rw [← hE]; exact cl_one _
      have CE := Lib.hid (show ∀ u, Calls Tryz.prog 22 #[.agg X, .int .i64 8] u fun e w' => e = .returned (.agg E) ∧ Kept u w' from fun u => by rw [← hX, ← hE]; exact ends_any x 8 u)
      rw [show (ends x 8, Pk.none).1.arr = E from hE]
      clear hE h
      clear hF hA hX hb hB
      go_enter Tryz.func8, Tryz.ntmps8
      go_upto_region 1 with fail
      rw [show ((((w.alloc (.cells F 24)).alloc (.cells A 39)).alloc (.cells X 41)).alloc (.cells #[.int .i64 0, .int .i64 0, .int .i64 0, .int .i64 0, .int .i64 0, .int .i64 0, .int .i64 0, .int .i64 0, .int .i64 0, .bool false, .int .i64 0, .int .i64 0, .int .i64 0] 41)).alloc (.cells #[.int .i64 0, .int .i64 0, .int .i64 0, .int .i64 0, .int .i64 0, .int .i64 0, .int .i64 0, .int .i64 0, .int .i64 0, .string ⟨#[]⟩, .int .i64 0, .int .i64 0, .int .i64 0, .int .i64 0, .int .i64 0, .int .i64 0, .int .i64 0, .int .i64 0, .int .i64 0, .int .i64 0, .int .i64 0, .bool false, .int .i64 0] 43) = W from HW.out]
      go_upto_region 2 with (first
        | (refine load_w 41 (.tmp 8) rfl (w.heap.size + 1 + 1) rfl rfl X 13 (HS.out.blk 2 rfl) Tryz.underlying41 sX info_cl ?_)
        | (go_at_call 21; refine (C1.out _).mono ?_; rintro e u ⟨rfl, k⟩)
        | (refine store_new rfl 41 (.tmp 12) (.tmp 15) rfl u.heap.size B rfl rfl u _ rfl 13 info_cl sB rfl oB ?_))
      obtain ⟨V, hV⟩ : ∃ V, u.alloc (.cells B 41) = V := ⟨_, rfl⟩
      rw [hV]
      have hV0 : Bl w V [(F, 24), (A, 39), (X, 41), (zeroC, 41), (zeroP, 43)] := by rw [← hV]; exact (HS.out.go k).go (Kept.one _ _)
      have bV : V.heap[u.heap.size]? = some (.cells B 41 (0, 0)) := by rw [← hV]; exact blk_new u _
      obtain ⟨g, hg⟩ : ∃ g, u.heap.size = g := ⟨_, rfl⟩
      rw [hg] at bV ⊢
      have h12 : V.cell? ⟨w.heap.size + 1, 12, none⟩ = some (.int .i64 o.hp) := (hV0.cell 1 12 rfl).trans c12
      have h13 : V.cell? ⟨w.heap.size + 1, 13, none⟩ = some (.int .i64 o.dl) := (hV0.cell 1 13 rfl).trans c13
      have l4 : V.cell? ⟨w.heap.size, 4, none⟩ = some (.int .i64 cf.least) := (hV0.cell 0 4 rfl).trans d4
      have l5 : V.cell? ⟨w.heap.size, 5, none⟩ = some (.int .i64 cf.hops) := (hV0.cell 0 5 rfl).trans d5
      have HV := Lib.hid (And.intro hV0 bV)
      clear hV hg hV0 bV k C1 c12 c13 d4 d5
      go_upto_region 5 with (first
        | (refine load_w 41 (.tmp 12) rfl g rfl rfl B 13 HV.out.2 Tryz.underlying41 sB info_cl ?_)
        | (refine load_w 41 (.tmp 8) rfl (w.heap.size + 1 + 1) rfl rfl X 13 (HV.out.1.blk 2 rfl) Tryz.underlying41 sX info_cl ?_))
      have HL := Lib.hid HV.out.1
      clear h12 h13 l4 l5
      go_wp2_with (first
        | (refine load_w 41 (.tmp 8) rfl (w.heap.size + 1 + 1) rfl rfl X 13 (HL.out.blk 2 rfl) Tryz.underlying41 sX info_cl ?_)
        | (go_at_call 22; refine (CE.out _).mono ?_; rintro e u2 ⟨rfl, k2⟩)
        | (refine wpList_store_row rfl 41 (.tmp 10) (.tmp 29) rfl (w.heap.size + 1 + 1 + 1) E rfl rfl 41 zeroC ((HL.out.go k2).blk 3 rfl) (by rw [sE]; exact info_cl) (by rw [sE]; rfl) oE ?_)
        | (refine wpList_store_row rfl 43 (.tmp 11) (.tmp 30) rfl (w.heap.size + 1 + 1 + 1 + 1) Pk.none.arr rfl rfl 43 zeroP (((HL.out.go k2).row 3 rfl E).blk 4 rfl) info_pk rfl (pk_one _) ?_))
      have hz := ((HL.out.go k2).row 3 rfl E).row 4 rfl Pk.none.arr
      exact bodyPost_ret (results_row_row rfl _ _ (w.heap.size + 3) (w.heap.size + 4) 41 43 _ _ (0, 0) (0, 0) _ _ rfl (hz.blk 3 rfl) Tryz.underlying41 rfl (by rw [sE]; exact info_cl) rfl (hz.blk 4 rfl) Tryz.underlying43 rfl info_pk) rfl ⟨rfl, hz.kept⟩
    by_cases h3 : Bu.enough o.dl now cf.least = true
    · rw [snd_goes h h2 h3]
      have CN := Lib.hid (show ∀ u, Calls Tryz.prog 23 #[.int .i64 o.dl, .int .i64 now, .int .i64 cf.least] u fun e w' => e = .returned (.bool true) ∧ u = w' from fun u => by rw [← h3]; exact Bu.enough_any _ _ _ u)
      obtain ⟨R, hR⟩ : ∃ R : Pk, ask me o b now (hopS o now) = R := ⟨_, rfl⟩
      have CA := Lib.hid (show ∀ u, Tm.Tab u → Calls Tryz.prog 24 #[.int .i64 me, .agg A, .agg B, .int .i64 now] u fun e w' => e = .returned (.agg R.arr) ∧ Kept u w' from fun u hu => by rw [← hA, ← hB, ← hR]; exact asks_any me o b now q N c u hu)
      rw [hb, hR, show (b, R).1.arr = B from hB]
      clear hR h h3
      clear hF hA hX hb hB
      go_enter Tryz.func8, Tryz.ntmps8
      go_upto_region 1 with fail
      rw [show ((((w.alloc (.cells F 24)).alloc (.cells A 39)).alloc (.cells X 41)).alloc (.cells #[.int .i64 0, .int .i64 0, .int .i64 0, .int .i64 0, .int .i64 0, .int .i64 0, .int .i64 0, .int .i64 0, .int .i64 0, .bool false, .int .i64 0, .int .i64 0, .int .i64 0] 41)).alloc (.cells #[.int .i64 0, .int .i64 0, .int .i64 0, .int .i64 0, .int .i64 0, .int .i64 0, .int .i64 0, .int .i64 0, .int .i64 0, .string ⟨#[]⟩, .int .i64 0, .int .i64 0, .int .i64 0, .int .i64 0, .int .i64 0, .int .i64 0, .int .i64 0, .int .i64 0, .int .i64 0, .int .i64 0, .int .i64 0, .bool false, .int .i64 0] 43) = W from HW.out]
      go_upto_region 2 with (first
        | (refine load_w 41 (.tmp 8) rfl (w.heap.size + 1 + 1) rfl rfl X 13 (HS.out.blk 2 rfl) Tryz.underlying41 sX info_cl ?_)
        | (go_at_call 21; refine (C1.out _).mono ?_; rintro e u ⟨rfl, k⟩)
        | (refine store_new rfl 41 (.tmp 12) (.tmp 15) rfl u.heap.size B rfl rfl u _ rfl 13 info_cl sB rfl oB ?_))
      obtain ⟨V, hV⟩ : ∃ V, u.alloc (.cells B 41) = V := ⟨_, rfl⟩
      rw [hV]
      have hV0 : Bl w V [(F, 24), (A, 39), (X, 41), (zeroC, 41), (zeroP, 43)] := by rw [← hV]; exact (HS.out.go k).go (Kept.one _ _)
      have bV : V.heap[u.heap.size]? = some (.cells B 41 (0, 0)) := by rw [← hV]; exact blk_new u _
      obtain ⟨g, hg⟩ : ∃ g, u.heap.size = g := ⟨_, rfl⟩
      rw [hg] at bV ⊢
      have h12 : V.cell? ⟨w.heap.size + 1, 12, none⟩ = some (.int .i64 o.hp) := (hV0.cell 1 12 rfl).trans c12
      have h13 : V.cell? ⟨w.heap.size + 1, 13, none⟩ = some (.int .i64 o.dl) := (hV0.cell 1 13 rfl).trans c13
      have l4 : V.cell? ⟨w.heap.size, 4, none⟩ = some (.int .i64 cf.least) := (hV0.cell 0 4 rfl).trans d4
      have l5 : V.cell? ⟨w.heap.size, 5, none⟩ = some (.int .i64 cf.hops) := (hV0.cell 0 5 rfl).trans d5
      have HV := Lib.hid (And.intro hV0 bV)
      clear hV hg hV0 bV k C1 c12 c13 d4 d5
      go_upto_region 8 with (first
        | (refine load_w 41 (.tmp 12) rfl g rfl rfl B 13 HV.out.2 Tryz.underlying41 sB info_cl ?_)
        | (refine load_w 41 (.tmp 8) rfl (w.heap.size + 1 + 1) rfl rfl X 13 (HV.out.1.blk 2 rfl) Tryz.underlying41 sX info_cl ?_)
        | (go_at_call 23; refine (CN.out _).mono ?_; rintro e u2 ⟨rfl, rfl⟩))
      clear h12 h13 l4 l5
      have hSt : Stab (fun u => Bl w u [(F, 24), (A, 39), (X, 41), (zeroC, 41), (zeroP, 43)] ∧ u.heap[g]? = some (.cells B 41 (0, 0)) ∧ Tm.Tab u) := stab_and bl_stab (stab_and blk_stab (fun u u' h k => h.kept k))
      refine Av.region 6 (fun u => Bl w u [(F, 24), (A, 39), (X, 41), (zeroC, 41), (zeroP, 43)] ∧ u.heap[g]? = some (.cells B 41 (0, 0)) ∧ Tm.Tab u) (by kernel_rfl) (⟨HV.out.1.go (Kept.refl _).drew, kept_at (Kept.refl _).drew HV.out.2, HT.out.kept (HV.out.1.kept.drew)⟩) ?_
      refine Av.take 0 (some 42) rfl rfl (by kernel_rfl) (by kernel_rfl) (by kernel_rfl) (by kernel_rfl) (fun _ _ _ h => h) hSt (Au.yq_load 41 (.tmp 12) rfl _ rfl (by rfl) (fun u hu => load_cl hu.2.1 sB)) ?_
      simp only [Act.put, List.setIfInBounds_toArray, List.set_cons_zero, List.set_cons_succ]
      refine Av.take 1 (some 43) (v := ?_) rfl rfl (by kernel_rfl) (by kernel_rfl) (by kernel_rfl) (by kernel_rfl) (fun _ _ _ h => h) hSt (Au.yq_run (by rfl) (fun u hu => ?_)) ?_
      rotate_left
      · (clear hu; go_simp; try with_reducible rfl)
      simp only [Act.put, List.setIfInBounds_toArray, List.set_cons_zero, List.set_cons_succ]
      refine Av.take 2 (some 44) rfl rfl (by kernel_rfl) (by kernel_rfl) (by kernel_rfl) (by kernel_rfl) (fun _ _ _ h => h) hSt (Au.yq_load 39 (.tmp 7) rfl _ rfl (by rfl) (fun u hu => load_ow (hu.1.blk 1 rfl) sA)) ?_
      simp only [Act.put, List.setIfInBounds_toArray, List.set_cons_zero, List.set_cons_succ]
      refine Av.take 3 (some 45) rfl rfl (by kernel_rfl) (by kernel_rfl) (by kernel_rfl) (by kernel_rfl) (fun _ _ _ h => h) hSt (Au.yq_load 41 (.tmp 12) rfl _ rfl (by rfl) (fun u hu => load_cl hu.2.1 sB)) ?_
      simp only [Act.put, List.setIfInBounds_toArray, List.set_cons_zero, List.set_cons_succ]
      refine Av.take 4 (some 46) (v := ?_) rfl rfl (by kernel_rfl) (by kernel_rfl) (by kernel_rfl) (by kernel_rfl) (fun _ _ _ h => h) hSt (Au.yq_run (by rfl) (fun u hu => ?_)) ?_
      rotate_left
      · (clear hu; go_simp; try with_reducible rfl)
      simp only [Act.put, List.setIfInBounds_toArray, List.set_cons_zero, List.set_cons_succ]
      refine Av.take 5 (some 47) rfl rfl (by kernel_rfl) (by kernel_rfl) (by kernel_rfl) (by kernel_rfl) (fun _ _ _ h => h) hSt (Au.yq_call 24 _ (by rfl) (fun u => by go_simp) (fun u hu => CA.out u hu.2.2)) ?_
      simp only [Act.put, List.setIfInBounds_toArray, List.set_cons_zero, List.set_cons_succ]
      refine Av.tail 6 rfl (by kernel_rfl) (by decide) (fun w5 hw5 K5 hK5 => ?_)
      rw [if_pos (by rfl)]
      refine wp_store_row 41 (.tmp 10) (.tmp 42) rfl (w.heap.size + 1 + 1 + 1) B rfl rfl 41 zeroC (hw5.1.blk 3 rfl) (by rw [sB]; exact info_cl) (by rw [sB]; rfl) (oB) ?_
      refine hK5.out _ _ ?_
      clear hK5 K5
      refine Av.tail 7 rfl (by kernel_rfl) (by decide) (fun w6 hw6 K6 hK6 => ?_)
      subst hw6
      rw [if_pos (by rfl)]
      refine wp_store_row 43 (.tmp 11) (.tmp 47) rfl (w.heap.size + 1 + 1 + 1 + 1) R.arr rfl rfl 43 zeroP ((hw5.1.row 3 rfl B).blk 4 rfl) (info_pk) (rfl) (pk_one _) ?_
      refine hK6.out _ _ ?_
      clear hK6 K6
      refine Av.done (by kernel_rfl) (fun u hu => ?_)
      subst hu
      go_wp2_with fail
      have hz := (hw5.1.row 3 rfl B).row 4 rfl R.arr
      exact bodyPost_ret (results_row_row rfl _ _ (w.heap.size + 3) (w.heap.size + 4) 41 43 _ _ (0, 0) (0, 0) _ _ rfl (hz.blk 3 rfl) Tryz.underlying41 rfl (by rw [sB]; exact info_cl) rfl (hz.blk 4 rfl) Tryz.underlying43 rfl info_pk) rfl ⟨rfl, hz.kept⟩
    · have h4 : Bu.enough o.dl now cf.least = false := by simpa using h3
      rw [snd_late h h2 h4]
      have CN := Lib.hid (show ∀ u, Calls Tryz.prog 23 #[.int .i64 o.dl, .int .i64 now, .int .i64 cf.least] u fun e w' => e = .returned (.bool false) ∧ u = w' from fun u => by rw [← h4]; exact Bu.enough_any _ _ _ u)
      obtain ⟨E, hE⟩ : ∃ E, (ends x 4).arr = E := ⟨_, rfl⟩
      have sE : E.size = 13 := by rw [← hE]; rfl
      have oE : E.all (·.oneCell') = true := by rw [← hE]; exact cl_one _
      have CE := Lib.hid (show ∀ u, Calls Tryz.prog 22 #[.agg X, .int .i64 4] u fun e w' => e = .returned (.agg E) ∧ Kept u w' from fun u => by rw [← hX, ← hE]; exact ends_any x 4 u)
      rw [show (ends x 4, Pk.none).1.arr = E from hE]
      clear hE h h3 h4
      clear hF hA hX hb hB
      go_enter Tryz.func8, Tryz.ntmps8
      go_upto_region 1 with fail
      rw [show ((((w.alloc (.cells F 24)).alloc (.cells A 39)).alloc (.cells X 41)).alloc (.cells #[.int .i64 0, .int .i64 0, .int .i64 0, .int .i64 0, .int .i64 0, .int .i64 0, .int .i64 0, .int .i64 0, .int .i64 0, .bool false, .int .i64 0, .int .i64 0, .int .i64 0] 41)).alloc (.cells #[.int .i64 0, .int .i64 0, .int .i64 0, .int .i64 0, .int .i64 0, .int .i64 0, .int .i64 0, .int .i64 0, .int .i64 0, .string ⟨#[]⟩, .int .i64 0, .int .i64 0, .int .i64 0, .int .i64 0, .int .i64 0, .int .i64 0, .int .i64 0, .int .i64 0, .int .i64 0, .int .i64 0, .int .i64 0, .bool false, .int .i64 0] 43) = W from HW.out]
      go_upto_region 2 with (first
        | (refine load_w 41 (.tmp 8) rfl (w.heap.size + 1 + 1) rfl rfl X 13 (HS.out.blk 2 rfl) Tryz.underlying41 sX info_cl ?_)
        | (go_at_call 21; refine (C1.out _).mono ?_; rintro e u ⟨rfl, k⟩)
        | (refine store_new rfl 41 (.tmp 12) (.tmp 15) rfl u.heap.size B rfl rfl u _ rfl 13 info_cl sB rfl oB ?_))
      obtain ⟨V, hV⟩ : ∃ V, u.alloc (.cells B 41) = V := ⟨_, rfl⟩
      rw [hV]
      have hV0 : Bl w V [(F, 24), (A, 39), (X, 41), (zeroC, 41), (zeroP, 43)] := by rw [← hV]; exact (HS.out.go k).go (Kept.one _ _)
      have bV : V.heap[u.heap.size]? = some (.cells B 41 (0, 0)) := by rw [← hV]; exact blk_new u _
      obtain ⟨g, hg⟩ : ∃ g, u.heap.size = g := ⟨_, rfl⟩
      rw [hg] at bV ⊢
      have h12 : V.cell? ⟨w.heap.size + 1, 12, none⟩ = some (.int .i64 o.hp) := (hV0.cell 1 12 rfl).trans c12
      have h13 : V.cell? ⟨w.heap.size + 1, 13, none⟩ = some (.int .i64 o.dl) := (hV0.cell 1 13 rfl).trans c13
      have l4 : V.cell? ⟨w.heap.size, 4, none⟩ = some (.int .i64 cf.least) := (hV0.cell 0 4 rfl).trans d4
      have l5 : V.cell? ⟨w.heap.size, 5, none⟩ = some (.int .i64 cf.hops) := (hV0.cell 0 5 rfl).trans d5
      have HV := Lib.hid (And.intro hV0 bV)
      clear hV hg hV0 bV k C1 c12 c13 d4 d5
      go_upto_region 7 with (first
        | (refine load_w 41 (.tmp 12) rfl g rfl rfl B 13 HV.out.2 Tryz.underlying41 sB info_cl ?_)
        | (refine load_w 41 (.tmp 8) rfl (w.heap.size + 1 + 1) rfl rfl X 13 (HV.out.1.blk 2 rfl) Tryz.underlying41 sX info_cl ?_)
        | (go_at_call 23; refine (CN.out _).mono ?_; rintro e u2 ⟨rfl, rfl⟩))
      have HL := Lib.hid HV.out.1
      clear h12 h13 l4 l5
      go_wp2_with (first
        | (refine load_w 41 (.tmp 8) rfl (w.heap.size + 1 + 1) rfl rfl X 13 (HL.out.blk 2 rfl) Tryz.underlying41 sX info_cl ?_)
        | (go_at_call 22; refine (CE.out _).mono ?_; rintro e u2 ⟨rfl, k2⟩)
        | (refine wpList_store_row rfl 41 (.tmp 10) (.tmp 40) rfl (w.heap.size + 1 + 1 + 1) E rfl rfl 41 zeroC ((HL.out.go k2).blk 3 rfl) (by rw [sE]; exact info_cl) (by rw [sE]; rfl) oE ?_)
        | (refine wpList_store_row rfl 43 (.tmp 11) (.tmp 41) rfl (w.heap.size + 1 + 1 + 1 + 1) Pk.none.arr rfl rfl 43 zeroP (((HL.out.go k2).row 3 rfl E).blk 4 rfl) info_pk rfl (pk_one _) ?_))
      have hz := ((HL.out.go k2).row 3 rfl E).row 4 rfl Pk.none.arr
      exact bodyPost_ret (results_row_row rfl _ _ (w.heap.size + 3) (w.heap.size + 4) 41 43 _ _ (0, 0) (0, 0) _ _ rfl (hz.blk 3 rfl) Tryz.underlying41 rfl (by rw [sE]; exact info_cl) rfl (hz.blk 4 rfl) Tryz.underlying43 rfl info_pk) rfl ⟨rfl, hz.kept⟩
  · have he : ∀ u, (binOp .eql 41 (.agg B) (.agg X)).run Tryz.prog u = .ok (.bool true) u := fun u => by rw [← hB, ← hX, ← hb]; exact (eq_cl _ _ u).trans (by rw [beg_same_no h])
    rw [snd_idle h, show (x, Pk.none).1.arr = X from hX]
    clear h
    clear hF hA hX hb hB
    go_enter Tryz.func8, Tryz.ntmps8
    go_upto_region 1 with fail
    rw [show ((((w.alloc (.cells F 24)).alloc (.cells A 39)).alloc (.cells X 41)).alloc (.cells #[.int .i64 0, .int .i64 0, .int .i64 0, .int .i64 0, .int .i64 0, .int .i64 0, .int .i64 0, .int .i64 0, .int .i64 0, .bool false, .int .i64 0, .int .i64 0, .int .i64 0] 41)).alloc (.cells #[.int .i64 0, .int .i64 0, .int .i64 0, .int .i64 0, .int .i64 0, .int .i64 0, .int .i64 0, .int .i64 0, .int .i64 0, .string ⟨#[]⟩, .int .i64 0, .int .i64 0, .int .i64 0, .int .i64 0, .int .i64 0, .int .i64 0, .int .i64 0, .int .i64 0, .int .i64 0, .int .i64 0, .int .i64 0, .bool false, .int .i64 0] 43) = W from HW.out]
    go_upto_region 2 with (first
      | (refine load_w 41 (.tmp 8) rfl (w.heap.size + 1 + 1) rfl rfl X 13 (HS.out.blk 2 rfl) Tryz.underlying41 sX info_cl ?_)
      | (go_at_call 21; refine (C1.out _).mono ?_; rintro e u ⟨rfl, k⟩)
      | (refine store_new rfl 41 (.tmp 12) (.tmp 15) rfl u.heap.size B rfl rfl u _ rfl 13 info_cl sB rfl oB ?_))
    obtain ⟨V, hV⟩ : ∃ V, u.alloc (.cells B 41) = V := ⟨_, rfl⟩
    rw [hV]
    have hV0 : Bl w V [(F, 24), (A, 39), (X, 41), (zeroC, 41), (zeroP, 43)] := by rw [← hV]; exact (HS.out.go k).go (Kept.one _ _)
    have bV : V.heap[u.heap.size]? = some (.cells B 41 (0, 0)) := by rw [← hV]; exact blk_new u _
    obtain ⟨g, hg⟩ : ∃ g, u.heap.size = g := ⟨_, rfl⟩
    rw [hg] at bV ⊢
    have h12 : V.cell? ⟨w.heap.size + 1, 12, none⟩ = some (.int .i64 o.hp) := (hV0.cell 1 12 rfl).trans c12
    have h13 : V.cell? ⟨w.heap.size + 1, 13, none⟩ = some (.int .i64 o.dl) := (hV0.cell 1 13 rfl).trans c13
    have l4 : V.cell? ⟨w.heap.size, 4, none⟩ = some (.int .i64 cf.least) := (hV0.cell 0 4 rfl).trans d4
    have l5 : V.cell? ⟨w.heap.size, 5, none⟩ = some (.int .i64 cf.hops) := (hV0.cell 0 5 rfl).trans d5
    have HV := Lib.hid (And.intro hV0 bV)
    clear hV hg hV0 bV k C1 c12 c13 d4 d5
    go_upto_region 3 with (first
      | (refine load_w 41 (.tmp 12) rfl g rfl rfl B 13 HV.out.2 Tryz.underlying41 sB info_cl ?_)
      | (refine load_w 41 (.tmp 8) rfl (w.heap.size + 1 + 1) rfl rfl X 13 (HV.out.1.blk 2 rfl) Tryz.underlying41 sX info_cl ?_))
    have HL := Lib.hid HV.out.1
    clear h12 h13 l4 l5
    go_wp2_with (first
      | (refine load_w 41 (.tmp 8) rfl (w.heap.size + 1 + 1) rfl rfl X 13 (HL.out.blk 2 rfl) Tryz.underlying41 sX info_cl ?_)
      | (refine wpList_store_row rfl 41 (.tmp 10) (.tmp 20) rfl (w.heap.size + 1 + 1 + 1) X rfl rfl 41 zeroC (HL.out.blk 3 rfl) (by rw [sX]; exact info_cl) (by rw [sX]; rfl) oX ?_)
      | (refine wpList_store_row rfl 43 (.tmp 11) (.tmp 21) rfl (w.heap.size + 1 + 1 + 1 + 1) Pk.none.arr rfl rfl 43 zeroP ((HL.out.row 3 rfl X).blk 4 rfl) info_pk rfl (pk_one _) ?_))
    have hz := (HL.out.row 3 rfl X).row 4 rfl Pk.none.arr
    exact bodyPost_ret (results_row_row rfl _ _ (w.heap.size + 3) (w.heap.size + 4) 41 43 _ _ (0, 0) (0, 0) _ _ rfl (hz.blk 3 rfl) Tryz.underlying41 rfl (by rw [sX]; exact info_cl) rfl (hz.blk 4 rfl) Tryz.underlying43 rfl info_pk) rfl ⟨rfl, hz.kept⟩

end Go.Proofs.YtncdiggejofbbaaGreatDoor.Sn
