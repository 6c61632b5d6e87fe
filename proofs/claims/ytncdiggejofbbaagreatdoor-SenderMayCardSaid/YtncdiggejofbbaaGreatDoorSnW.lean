/- The law's own: the document's call, the chapter's example. -/
import Derived.Test.YtncdiggejofbbaaGreatDoorSn3
import Derived.Test.YtncdiggejofbbaaGreatDoorSn6
import Derived.Test.YtncdiggejofbbaaGreatDoorOw5
import Derived.Test.YtncdiggejofbbaaGreatDoorAu
namespace Go.Proofs.YtncdiggejofbbaaGreatDoor.Sn
open Go.RowKit Go.Sort Go.Shelf St PkM Ad Po Blk Eqs
open Go.Proofs.YtncdiggejofbbaaGreatDoor.Cl
open Go.Proofs.YtncdiggejofbbaaGreatDoor.Ow
open Go.Proofs.YtncdiggejofbbaaGreatDoor.Ls
open Go.Proofs.YtncdiggejofbbaaGreatDoor.Rv
open Go.Proofs.YtncdiggejofbbaaGreatDoor.Au (Stab stab_and)
open Go.Proofs.YtncdiggejofbbaaGreatDoor.Ad (load_w load_l store_new)
set_option linter.unusedVariables false
set_option linter.unusedSimpArgs false


/-- an operation that yields a value, under a name of ours -/
theorem wpList_named {ops : Array Oper} {rest : List Oper} {o : Oper} {a : Act} {w : World} {Q : Exit → Act → World → Prop} (v : Value) (hw : Region.wanted o (yielded ops a.tmps) = true)
    (hr : (execOp a.eval o).run Tryz.prog w = .ok (.value v) w) (h : wpList Tryz.prog ops Q rest (a.put o.dst v) w) : wpList Tryz.prog ops Q (o :: rest) a w :=
  wpList_step fun K hK => by
    rw [if_pos hw]
    unfold Oper.wp
    rw [hr]
    exact hK _ _ h

def exC : Cf := ⟨0, 0, 0, 0, 1, 1, 0, 0, 0, 0, 0, 0, 0, none, 0, 0⟩
def exO : Ow := ⟨0, 0, 1, 0, 0, 0, 0, 0, 0, 0, 0, 0, 0, 110, 60, 0, 0, 0⟩
def exX : Cl := ⟨0, 0, 2, 3, 0, 0, 0, 0, 0, false, 0, 0, 0⟩
def exB : Cl := ⟨0, 0, 2, 3, 0, 1, 1, 10, 0, false, 0, 0, 1⟩
def exG : Cl := ⟨0, 0, 2, 3, 0, 1, 3, 10, 0, false, 0, 7, 1⟩
def exS : ByteArray := ⟨#[49, 48, 48, 117]⟩
def exP : Pk := ⟨1, 0, 3, 0, 0, 2, 1, 1, 10, exS, 60, 0, 0, 0, 0, 0, 0, 1, 0, 0, 0, false, 0⟩
open IntWalk in
theorem beg_ex : beg exX 10 = exB := by 
  rw [beg_on 10 (.inl rfl) (by decide)]
  have h1 : wrap64 (exX.tr + 1) = 1 := (wrap64_in _ (by decide)).trans rfl
  have h2 : Tk.clamp 10 = 10 := by decide
  rw [h1, h2]; rfl
theorem hop_ex : hopS exO 10 = exS := by
  have e : Tk.sub 110 10 = 100 := by decide
  unfold hopS Bu.hop Bu.str exS
  rw [show exO.dl = 110 from rfl, e]
  unfold Tm.enc
  rw [show Tm.fin 100 = 0 from rfl]
  rw [show (100 / Tm.uAt 0).toNat = 100 from rfl]
  rw [show Lib.decDigits 100 ++ [Tm.cAt 0] = [49, 48, 48, 117] from by decide +kernel]
open IntWalk in
theorem snd_ex : snd exC 0 exO exX 10 = (exB, exP) := by
  rw [snd_goes ⟨.inl rfl, by decide⟩ (by decide) (by decide), beg_ex, hop_ex]
  have h1 : wrap64 (exO.hp + 1) = 1 := (wrap64_in _ (by decide)).trans rfl
  have h2 : Tk.clamp 10 = 10 := by decide
  have h3 : Tk.clamp exO.un = 60 := by decide
  unfold ask
  rw [h1, h2, h3]
  rfl
theorem good_ex : Cl.good exB 7 = exG := by rw [good_on 7 rfl]; rfl
theorem stl_ex1 : stl exO [exB] 20 = (0, 0, false) := stl_no (fun c => absurd c.2.2 (by decide))
theorem stl_ex2 : stl exO [exG] 20 = (0, 7, true) := by
  rw [stl_ok ⟨rfl, by simp, by decide⟩ (by decide)]
  decide

set_option maxRecDepth 100000 in
set_option maxHeartbeats 4000000 in
theorem awake_any (w : World) (ht : Tm.Tab w) : Calls Tryz.prog 6 #[] w fun e w' => e = .returned (.bool true) ∧ Kept w w' := by
  obtain ⟨O, hO⟩ : ∃ O, exO.arr none 0 0 = O := ⟨_, rfl⟩
  obtain ⟨B, hB⟩ : ∃ B, exB.arr = B := ⟨_, rfl⟩
  obtain ⟨P, hP⟩ : ∃ P, exP.arr = P := ⟨_, rfl⟩
  obtain ⟨G, hG⟩ : ∃ G, exG.arr = G := ⟨_, rfl⟩
  have sO : O.size = 19 := by rw [← hO]; rfl
  have sB : B.size = 13 := by rw [← hB]; rfl
  have oB : B.all (·.oneCell') = true := by rw [← hB]; exact cl_one _
  have sP : P.size = 23 := by rw [← hP]; rfl
  have oP : P.all (·.oneCell') = true := by rw [← hP]; exact pk_one _
  have CS := Lib.hid (show ∀ u, Tm.Tab u → Calls Tryz.prog 8 #[.agg #[.int .i64 0, .int .i64 0, .int .i64 0, .int .i64 0, .int .i64 1, .int .i64 1, .int .i64 0, .int .i64 0, .int .i64 0, .int .i64 0, .int .i64 0, .int .i64 0, .int .i64 0, .slice none 0 0], .int .i64 0, .agg O, .agg #[.int .i64 0, .int .i64 0, .int .i64 2, .int .i64 3, .int .i64 0, .int .i64 0, .int .i64 0, .int .i64 0, .int .i64 0, .bool false, .int .i64 0, .int .i64 0, .int .i64 0], .int .i64 10] u fun e w' => e = .returned (.tuple #[.agg B, .agg P]) ∧ Kept u w' from fun u hu => by
    have := send_any exC 0 exO exX 10 none 0 0 u hu ⟨by decide, by decide⟩
    rw [snd_ex, hO] at this; rw [← hB, ← hP]; exact this)
  have CG := Lib.hid (show ∀ u, Calls Tryz.prog 20 #[.agg B, .int .i64 7] u fun e w' => e = .returned (.agg G) ∧ Kept u w' from fun u => by
    have := Cl.good_any exB 7 u
    rw [good_ex] at this; rw [← hB, ← hG]; exact this)
  have CW1 := Lib.hid (show ∀ u, Calls Tryz.prog 19 #[.agg O, .agg B] u fun e w' => ∃ q n c, e = .returned (.agg (exO.arr q n c)) ∧ Mc w' (.slice q n c) [exB] ∧ Kept u w' from fun u => by
    rw [← hO, ← hB]; exact with_any exO (ls_nil u none 0) (by decide) exB)
  have CW2 := Lib.hid (show ∀ u, Calls Tryz.prog 19 #[.agg O, .agg G] u fun e w' => ∃ q n c, e = .returned (.agg (exO.arr q n c)) ∧ Mc w' (.slice q n c) [exG] ∧ Kept u w' from fun u => by
    rw [← hO, ← hG]; exact with_any exO (ls_nil u none 0) (by decide) exG)
  obtain ⟨W, hW⟩ : ∃ W, w.alloc (.cells O 39) = W := ⟨_, rfl⟩
  have hL : Bl w W [(O, 39)] := hW ▸ Bl.one w O _
  have HW := Lib.hid hW
  have HS := Lib.hid hL
  have HO := Lib.hid (show Value.agg #[.int .i64 0, .int .i64 0, .int .i64 1, .int .i64 0, .int .i64 0, .int .i64 0, .int .i64 0, .int .i64 0, .int .i64 0, .int .i64 0, .int .i64 0, .int .i64 0, .int .i64 0, .int .i64 110, .int .i64 60, .int .i64 0, .int .i64 0, .int .i64 0, .slice none 0 0] = .agg O by rw [← hO]; rfl)
  have oO : O.all (·.oneCell') = true := by rw [← hO]; exact arr_one _ _ _ _
  have HT := Lib.hid (ht.kept hL.kept)
  have b6 : B[6]? = some (.int .i64 1) := by rw [← hB]; rfl
  have p0 : P[0]? = some (.int .i64 1) := by rw [← hP]; rfl
  have p2 : P[2]? = some (.int .i64 3) := by rw [← hP]; rfl
  have p8 : P[8]? = some (.int .i64 10) := by rw [← hP]; rfl
  have p9 : P[9]? = some (.string ⟨#[49, 48, 48, 117]⟩) := by rw [← hP]; rfl
  have p10 : P[10]? = some (.int .i64 60) := by rw [← hP]; rfl
  clear hO hB hP hG hW hL ht
  go_enter Tryz.func6, Tryz.ntmps6
  go_upto_region 1 with fail
  refine wp_region_lit ?_
  refine wpList_named (.agg #[.int .i64 0, .int .i64 0, .int .i64 1]) rfl (by go_simp) ?_
  simp only [Act.put, List.setIfInBounds_toArray, List.set_cons_zero, List.set_cons_succ]
  refine wpList_named (.agg #[.int .i64 0, .int .i64 0, .int .i64 1, .int .i64 0]) rfl (by go_simp) ?_
  simp only [Act.put, List.setIfInBounds_toArray, List.set_cons_zero, List.set_cons_succ]
  refine wpList_named (.agg O) rfl (by go_simp; exact Value.agg.inj HO.out) ?_
  simp only [Act.put, List.setIfInBounds_toArray, List.set_cons_zero, List.set_cons_succ]
  go_upto_region 2 with (refine store_new rfl 39 (.tmp 1) (.tmp 12) rfl w.heap.size O rfl rfl w _ rfl 19 info_ow sO rfl oO ?_)
  rw [HW.out]
  go_upto_region 3 with (first
    | (refine load_w 39 (.tmp 1) rfl w.heap.size rfl rfl O 19 (HS.out.blk 0 rfl) Tryz.underlying39 sO info_ow ?_)
    | (go_at_call 8; refine (CS.out _ HT.out).mono ?_; rintro e w1 ⟨rfl, k1⟩; have hB1 := Bl.two w1 zeroC zeroP 41 43; have K1 := Lib.hid k1; clear k1)
    | (refine wpList_store_row rfl 41 (.tmp 2) (.tmp 19) rfl w1.heap.size B rfl rfl 41 zeroC (hB1.blk 0 rfl) (by rw [sB]; exact info_cl) (by rw [sB]; rfl) oB ?_)
    | (refine wpList_store_row rfl 43 (.tmp 3) (.tmp 20) rfl (w1.heap.size + 1) P rfl rfl 43 zeroP ((hB1.row 0 rfl B).blk 1 rfl) (by rw [sP]; exact info_pk) (by rw [sP]; rfl) oP ?_))
  have hb1 := ((Bl.two w1 zeroC zeroP 41 43).row 0 rfl B).row 1 rfl P
  obtain ⟨V1, hV1⟩ : ∃ V, (World.setRow (World.setRow ((w1.alloc (.cells zeroC 41)).alloc (.cells zeroP 43)) (w1.heap.size + 0) B) (w1.heap.size + 1) P) = V := ⟨_, rfl⟩
  rw [hV1] at hb1
  rw [show (World.setRow (World.setRow ((w1.alloc (.cells #[.int .i64 0, .int .i64 0, .int .i64 0, .int .i64 0, .int .i64 0, .int .i64 0, .int .i64 0, .int .i64 0, .int .i64 0, .bool false, .int .i64 0, .int .i64 0, .int .i64 0] 41)).alloc (.cells #[.int .i64 0, .int .i64 0, .int .i64 0, .int .i64 0, .int .i64 0, .int .i64 0, .int .i64 0, .int .i64 0, .int .i64 0, .string ⟨#[]⟩, .int .i64 0, .int .i64 0, .int .i64 0, .int .i64 0, .int .i64 0, .int .i64 0, .int .i64 0, .int .i64 0, .int .i64 0, .int .i64 0, .int .i64 0, .bool false, .int .i64 0] 43)) w1.heap.size B) (w1.heap.size + 1) P) = V1 from hV1]
  have HB1 := Lib.hid hb1
  have HW1 := Lib.hid ((HS.out.go K1.out).go hb1.kept)
  clear hb1 hV1 hB1
  go_upto_region 4 with (first
    | (refine load_w 39 (.tmp 1) rfl w.heap.size rfl rfl O 19 (HW1.out.blk 0 rfl) Tryz.underlying39 sO info_ow ?_)
    | (refine load_w 41 (.tmp 2) rfl w1.heap.size rfl rfl B 13 (HB1.out.blk 0 rfl) Tryz.underlying41 sB info_cl ?_)
    | (go_at_call 19; refine (CW1.out _).mono ?_; rintro e w2 ⟨q2, n2, c2, rfl, r2, k2⟩; have C1 := Lib.hid (by have := settled_any exO 20 (mc_cls r2 (by decide)); rw [stl_ex1] at this; exact this))
    | (go_at_call 18; refine C1.out.mono ?_; rintro e w3 ⟨rfl, k3⟩))
  have HK := Lib.hid (k2.trans k3)
  clear k2 k3 r2 C1
  have hS : Stab (fun u => Bl w u [(O, 39)] ∧ Bl w1 u [(B, 41), (P, 43)]) := stab_and bl_stab bl_stab
  have hST : Stab (fun u => Bl w u [(O, 39)] ∧ Bl w1 u [(B, 41), (P, 43)]) ∧ ∀ u, (fun u => Bl w u [(O, 39)] ∧ Bl w1 u [(B, 41), (P, 43)]) u → (fun u => Bl w u [(O, 39)] ∧ Bl w1 u [(B, 41), (P, 43)]) u := ⟨hS, fun u h => h⟩
  refine AvT.region (fun u => Bl w u [(O, 39)] ∧ Bl w1 u [(B, 41), (P, 43)]) (fun u => Bl w u [(O, 39)] ∧ Bl w1 u [(B, 41), (P, 43)]) (by kernel_rfl) (hS _ _ ⟨HW1.out.go HK.out, HB1.out.go HK.out⟩ (Kept.refl _).drew) ?_
  refine AvT.take 0 (some 30) rfl rfl (by kernel_rfl) (by kernel_rfl) (by kernel_rfl) (fun _ _ _ h => h) hST (Au.yq_load 39 (.tmp 1) rfl _ rfl (by rfl) (fun u hu => load_ow (hu.1.blk 0 rfl) sO)) ?_
  simp only [Act.put, List.setIfInBounds_toArray, List.set_cons_zero, List.set_cons_succ]
  refine AvT.take 1 (some 31) rfl rfl (by kernel_rfl) (by kernel_rfl) (by kernel_rfl) (fun _ _ _ h => h) hST (Au.yq_load 41 (.tmp 2) rfl _ rfl (by rfl) (fun u hu => load_cl (hu.2.blk 0 rfl) sB)) ?_
  simp only [Act.put, List.setIfInBounds_toArray, List.set_cons_zero, List.set_cons_succ]
  refine AvT.take 2 (some 32) rfl rfl (by kernel_rfl) (by kernel_rfl) (by kernel_rfl) (fun _ _ _ h => h) hST (Au.yq_call 20 _ (by rfl) (fun u => by go_simp) (fun u hu => CG.out u)) ?_
  simp only [Act.put, List.setIfInBounds_toArray, List.set_cons_zero, List.set_cons_succ]
  refine AvT.step 3 rfl (by kernel_rfl) (fun v hv K hK => ?_)
  rw [if_pos (by rfl)]
  go_simp
  refine (CW2.out _).mono ?_
  rintro e v2 ⟨q2, n2, c2, rfl, r2, k2⟩
  go_wp2_with fail
  refine hK.out (fun u => (fun u => Bl w u [(O, 39)] ∧ Bl w1 u [(B, 41), (P, 43)]) u ∧ Mc u (.slice q2 n2 c2) [exG]) _ _ ⟨hS _ _ hv k2, r2⟩ (stab_and hS (fun u u' h k => h.keep k)) (fun u h => h.1) ?_
  clear hK K r2 k2 hv
  clear v v2
  have CST := Lib.hid (fun (u : World) (h : Mc u (.slice q2 n2 c2) [exG]) => (by have := settled_any exO 20 (mc_cls h (by decide)); rw [stl_ex2] at this; exact this : Calls Tryz.prog 18 #[.agg (exO.arr q2 n2 c2), .int .i64 20] u fun e w' => e = .returned (.tuple #[.int .i64 0, .int .i64 7, .bool true]) ∧ Kept u w'))
  refine AvT.narrow (T' := fun u => (fun u => Bl w u [(O, 39)] ∧ Bl w1 u [(B, 41), (P, 43)]) u ∧ Mc u (.slice q2 n2 c2) [exG]) (fun u h => h.1) _ _ _ _ ?_
  clear hST
  have hST : Stab (fun u => (fun u => Bl w u [(O, 39)] ∧ Bl w1 u [(B, 41), (P, 43)]) u ∧ Mc u (.slice q2 n2 c2) [exG]) ∧ ∀ u, ((fun u => Bl w u [(O, 39)] ∧ Bl w1 u [(B, 41), (P, 43)]) u ∧ Mc u (.slice q2 n2 c2) [exG]) → ((fun u => Bl w u [(O, 39)] ∧ Bl w1 u [(B, 41), (P, 43)]) u ∧ Mc u (.slice q2 n2 c2) [exG]) := ⟨stab_and hS (fun u u' h k => h.keep k), fun u h => h⟩
  refine AvT.take 4 (some 34) rfl rfl (by kernel_rfl) (by kernel_rfl) (by kernel_rfl) (fun _ _ _ h => h) hST (Au.yq_call 18 _ (by rfl) (fun u => by go_simp) (fun u hu => CST.out u hu.2)) ?_
  simp only [Act.put, List.setIfInBounds_toArray, List.set_cons_zero, List.set_cons_succ]
  refine AvT.take 5 (some 29) (v := ?_) rfl rfl (by kernel_rfl) (by kernel_rfl) (by kernel_rfl) (fun _ _ _ h => h) hST (Au.yq_run (by rfl) (fun u hu => ?_)) ?_
  rotate_left
  · (clear hu; go_simp; try with_reducible rfl)
  simp only [Act.put, List.setIfInBounds_toArray, List.set_cons_zero, List.set_cons_succ]
  refine AvT.take 6 (some 35) (v := ?_) rfl rfl (by kernel_rfl) (by kernel_rfl) (by kernel_rfl) (fun _ _ _ h => h) hST (Au.yq_run (by rfl) (fun u hu => ?_)) ?_
  rotate_left
  · (clear hu; go_simp; try with_reducible rfl)
  simp only [Act.put, List.setIfInBounds_toArray, List.set_cons_zero, List.set_cons_succ]
  refine AvT.take 7 (some 36) (v := ?_) rfl rfl (by kernel_rfl) (by kernel_rfl) (by kernel_rfl) (fun _ _ _ h => h) hST (Au.yq_run (by rfl) (fun u hu => ?_)) ?_
  rotate_left
  · (clear hu; go_simp; try with_reducible rfl)
  simp only [Act.put, List.setIfInBounds_toArray, List.set_cons_zero, List.set_cons_succ]
  refine AvT.take 8 (some 37) (v := ?_) rfl rfl (by kernel_rfl) (by kernel_rfl) (by kernel_rfl) (fun _ _ _ h => h) hST (Au.yq_run (by rfl) (fun u hu => ?_)) ?_
  rotate_left
  · (clear hu; go_simp; try with_reducible rfl)
  simp only [Act.put, List.setIfInBounds_toArray, List.set_cons_zero, List.set_cons_succ]
  refine AvT.take 9 (some 7) (v := ?_) rfl rfl (by kernel_rfl) (by kernel_rfl) (by kernel_rfl) (fun _ _ _ h => h) hST (Au.yq_run (by rfl) (fun u hu => ?_)) ?_
  rotate_left
  · (clear hu; go_simp; try with_reducible rfl)
  simp only [Act.put, List.setIfInBounds_toArray, List.set_cons_zero, List.set_cons_succ]
  refine AvT.take 10 (some 8) (v := ?_) rfl rfl (by kernel_rfl) (by kernel_rfl) (by kernel_rfl) (fun _ _ _ h => h) hST (Au.yq_run (by rfl) (fun u hu => ?_)) ?_
  rotate_left
  · (clear hu; go_simp; try with_reducible rfl)
  simp only [Act.put, List.setIfInBounds_toArray, List.set_cons_zero, List.set_cons_succ]
  refine AvT.take 11 (some 9) (v := ?_) rfl rfl (by kernel_rfl) (by kernel_rfl) (by kernel_rfl) (fun _ _ _ h => h) hST (Au.yq_run (by rfl) (fun u hu => ?_)) ?_
  rotate_left
  · (clear hu; go_simp; try with_reducible rfl)
  simp only [Act.put, List.setIfInBounds_toArray, List.set_cons_zero, List.set_cons_succ]
  refine AvT.done (by kernel_rfl) (fun V8 hV8 => ?_)
  have HZ := Lib.hid hV8.1.2
  have HK8 := Lib.hid hV8.1.1.kept
  have z6 : V8.cell? ⟨w1.heap.size, 6, none⟩ = some (.int .i64 1) := (HZ.out.cell 0 6 rfl).trans b6
  have y0 : V8.cell? ⟨w1.heap.size + 1, 0, none⟩ = some (.int .i64 1) := (HZ.out.cell 1 0 rfl).trans p0
  have y2 : V8.cell? ⟨w1.heap.size + 1, 2, none⟩ = some (.int .i64 3) := (HZ.out.cell 1 2 rfl).trans p2
  have y8 : V8.cell? ⟨w1.heap.size + 1, 8, none⟩ = some (.int .i64 10) := (HZ.out.cell 1 8 rfl).trans p8
  have y9 : V8.cell? ⟨w1.heap.size + 1, 9, none⟩ = some (.string ⟨#[49, 48, 48, 117]⟩) := (HZ.out.cell 1 9 rfl).trans p9
  have y10 : V8.cell? ⟨w1.heap.size + 1, 10, none⟩ = some (.int .i64 60) := (HZ.out.cell 1 10 rfl).trans p10
  clear hV8 hST hS HB1 HW1 HK
  go_wp2_with fail
  go_ret
  exact ⟨rfl, HK8.out⟩

end Go.Proofs.YtncdiggejofbbaaGreatDoor.Sn
