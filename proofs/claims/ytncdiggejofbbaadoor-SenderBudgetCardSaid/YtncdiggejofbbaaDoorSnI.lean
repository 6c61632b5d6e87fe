/- The law: the deadline that goes along is never behind the owner's. -/
import Derived.Test.YtncdiggejofbbaaDoorSn4
import Derived.Test.YtncdiggejofbbaaDoorAdD
import Derived.Test.YtncdiggejofbbaaDoorSnW
import Derived.Test.YtncdiggejofbbaaDoorOwE
import Derived.Test.YtncdiggejofbbaaDoorSnC
namespace Go.Proofs.YtncdiggejofbbaaDoor.Sn
open Go.RowKit Go.Sort Go.Shelf St PkM Ad Po Blk Eqs
open Go.Proofs.YtncdiggejofbbaaDoor.Cl
open Go.Proofs.YtncdiggejofbbaaDoor.Ow
open Go.Proofs.YtncdiggejofbbaaDoor.Ls
open Go.Proofs.YtncdiggejofbbaaDoor.Rv
open Go.Proofs.YtncdiggejofbbaaDoor.Au (Stab stab_and)
open Go.Proofs.YtncdiggejofbbaaDoor.Ad (load_w load_l store_new)
set_option linter.unusedVariables false
set_option linter.unusedSimpArgs false

/-- how it stands with a deadline that goes along -/
theorem dl_ask (me : Int) (o : Ow) (b : Cl) (now least : Int) (he : Bu.enough o.dl now least = true) :
    ∃ d, Ad.dlP (ask me o b now (hopS o now)) = d ∧ d ≤ Tk.clamp o.dl ∧ (99999999 < Tk.sub o.dl now ∨ d = Tk.clamp o.dl) ∧ Tk.clamp now < d := by
  have h0 : 0 < Tk.sub o.dl now := by
    unfold Bu.enough at he
    have := of_decide_eq_true he
    exact this.1
  have e : Tk.sub o.dl now = Tk.clamp o.dl - Tk.clamp now := by unfold Tk.sub at h0 ⊢; omega
  obtain ⟨x, hx⟩ : ∃ x, Tk.sub o.dl now = x := ⟨_, rfl⟩
  have l1 := Tk.clamp_lo now
  have l2 := Tk.clamp_hi o.dl
  have hd : Ad.dlP (ask me o b now (hopS o now)) = Tk.add (Tk.clamp now) (Tm.left x) := by
    show (Bu.dl (Tk.clamp now) (Bu.hop o.dl now)).1 = _
    unfold Bu.hop
    rw [hx, Bu.dl_yes (Tm.dec_enc (by omega) (by omega))]
  have h1 := Tm.left_le (x := x)
  have h2 := Tm.left_lo (x := x) (by omega)
  have h3 : 0 < Tm.left x := by
    by_cases hs : x ≤ 99999999
    · rw [Tm.left_small hs]; omega
    · have := Tm.left_lt x
      have hu : Tm.uAt (Tm.fin x) ≤ 60000000 := by
        unfold Tm.fin
        repeat' split
        all_goals first | (exfalso; omega) | decide
      omega
  have ha : Tk.add (Tk.clamp now) (Tm.left x) = Tk.clamp now + Tm.left x := by
    rw [Tk.add_eq, Tk.clamp_clamp, Tk.clamp_id (Tm.left x) h2 (by omega)]
    omega
  refine ⟨_, hd.trans ha, by omega, ?_, by omega⟩
  by_cases hs : x ≤ 99999999
  · exact .inr (by rw [Tm.left_small hs]; omega)
  · exact .inl (by omega)
/-- what is so of what is sent -/
theorem snd_facts (g : Cf) (me : Int) (o : Ow) (x : Cl) (now : Int) (hhp : -9223372036854775808 ≤ o.hp ∧ o.hp ≤ 9223372036854775807) (hg : Wd g.hops) {y : Cl} {p : Pk} (hy : snd g me o x now = (y, p)) :
    (p = Pk.none ∧ (y.st = 3 ∨ ¬ y.st = 3 ∧ y = x)) ∨ (p.kind = 1 ∧ y.st = 1 ∧ y.att = x.att + 1 ∧ x.att < 5 ∧ p.hop = wrap64 (o.hp + 1) ∧ ¬ g.hops < p.hop ∧ p.til = Tk.clamp o.un ∧
      ∃ d, Ad.dlP p = d ∧ d ≤ Tk.clamp o.dl ∧ (99999999 < Tk.sub o.dl now ∨ d = Tk.clamp o.dl) ∧ Tk.clamp now < d) := by
  by_cases h : (x.st = 0 ∨ x.st = 2) ∧ x.att < 5
  · have hes : ∀ n, (ends x n).st = 3 := fun n => by rw [ends_on n (by omega)]
    by_cases h2 : g.hops ≤ o.hp
    · rw [snd_far h h2] at hy
      cases hy
      exact .inl ⟨rfl, .inl (hes 8)⟩
    by_cases h3 : Bu.enough o.dl now g.least = true
    · rw [snd_goes h h2 h3, beg_on now h.1 h.2] at hy
      obtain ⟨h5, h6⟩ := Prod.mk.inj hy
      subst h5
      subst h6
      refine .inr ⟨rfl, rfl, rfl, h.2, rfl, ?_, rfl, dl_ask me o _ now g.least h3⟩
      show ¬ g.hops < wrap64 (o.hp + 1)
      rw [IntWalk.wrap64_in _ (by have := hg.2; omega)]
      omega
    · rw [snd_late h h2 (by simpa using h3)] at hy
      cases hy
      exact .inl ⟨rfl, .inl (hes 4)⟩
  · rw [snd_idle h] at hy
    cases hy
    refine .inl ⟨rfl, ?_⟩
    by_cases h3 : x.st = 3
    · exact .inl h3
    · exact .inr ⟨h3, rfl⟩

set_option maxRecDepth 100000 in
set_option maxHeartbeats 4000000 in
theorem budget_any {w : World} {q : Option Addr} {N c : Nat} {K : List Cl} (cf : Cf) (me : Int) (o : Ow) (x : Cl) (now : Int) (hv : Cls w (.slice q N c) K) (ht : Tm.Tab w) (ha : Wd x.att) (hhp : -9223372036854775808 ≤ o.hp ∧ o.hp ≤ 9223372036854775807) (hgh : Wd cf.hops) :
    Calls Tryd.prog 6 #[.agg cf.arr, .int .i64 me, .agg (o.arr q N c), .agg x.arr, .int .i64 now] w fun e w' => e = .returned (.bool true) ∧ Kept w w' := by
  have hN : K.length = N := by obtain ⟨p, cap, e⟩ := hv.shape; cases e; rfl
  obtain ⟨F, hF⟩ : ∃ F, cf.arr = F := ⟨_, rfl⟩
  obtain ⟨A, hA⟩ : ∃ A, o.arr q N c = A := ⟨_, rfl⟩
  obtain ⟨X, hX⟩ : ∃ X, x.arr = X := ⟨_, rfl⟩
  have sF : F.size = 14 := by rw [← hF]; rfl
  have sA : A.size = 19 := by rw [← hA]; rfl
  have sX : X.size = 13 := by rw [← hX]; rfl
  obtain ⟨W, hW⟩ : ∃ W, ((w.alloc (.cells F 24)).alloc (.cells A 31)).alloc (.cells X 33) = W := ⟨_, rfl⟩
  have hb : Bl w W [(F, 24), (A, 31), (X, 33)] := hW ▸ Bl.three w F A X _ _ _
  have h18 : W.cell? ⟨w.heap.size + 1, 18, none⟩ = some (.slice q N c) := (hb.cell 1 18 rfl).trans (show A[18]? = _ by rw [← hA]; rfl)
  have x12 : W.cell? ⟨w.heap.size + 1 + 1, 12, none⟩ = some (.int .i64 x.tr) := (hb.cell 2 12 rfl).trans (show X[12]? = _ by rw [← hX]; rfl)
  have HW := Lib.hid hW
  have HS0 := Lib.hid hb
  have HT := Lib.hid ht
  have HAW := Lib.hid (show ∀ u, Kept w u → Calls Tryd.prog 8 #[] u fun e w' => e = .returned (.bool true) ∧ Kept u w' from fun u hu => awake_any u (ht.kept hu))
  have a12 : A[12]? = some (.int .i64 o.hp) := by rw [← hA]; rfl
  have a13 : A[13]? = some (.int .i64 o.dl) := by rw [← hA]; rfl
  have a14 : A[14]? = some (.int .i64 o.un) := by rw [← hA]; rfl
  have x5 : X[5]? = some (.int .i64 x.att) := by rw [← hX]; rfl
  have f5 : F[5]? = some (.int .i64 cf.hops) := by rw [← hF]; rfl
  rw [hF, hA, hX]
  by_cases hok : N ≤ 30
  · have e1 : ¬ 30 < (N : Int) := by omega
    obtain ⟨y, p, hy⟩ : ∃ y p, snd cf me o x now = (y, p) := ⟨_, _, rfl⟩
    have hfc := snd_facts cf me o x now hhp hgh hy
    obtain ⟨Y, hY⟩ : ∃ Y, y.arr = Y := ⟨_, rfl⟩
    obtain ⟨R, hR⟩ : ∃ R, p.arr = R := ⟨_, rfl⟩
    have sY : Y.size = 13 := by rw [← hY]; rfl
    have oY : Y.all (·.oneCell') = true := by rw [← hY]; exact cl_one y
    have sR : R.size = 23 := by rw [← hR]; rfl
    have oR : R.all (·.oneCell') = true := by rw [← hR]; exact pk_one p
    have HV := Lib.hid hv
    have HN := Lib.hid hN
    have C1 := Lib.hid (show ∀ u, Calls Tryd.prog 11 #[.agg X] u fun e w' => e = .returned (.agg X) ∧ Kept u w' from fun u => by rw [← hX]; exact one_any x u)
    have CM := Lib.hid (show ∀ u, Kept w u → Calls Tryd.prog 10 #[.agg A] u fun e w' => ∃ q' n' c', e = .returned (.agg (o.arr q' n' c')) ∧ Mc w' (.slice q' n' c') K ∧ (∀ g, (Value.slice q' n' c').ownBlock = some g → u.heap.size ≤ g) ∧ Kept u w' from fun u hu => by rw [← hA]; exact mine_any o (hv.go hu) (by omega))
    have CS := Lib.hid (show ∀ u q' n' c', Kept w u → Calls Tryd.prog 9 #[.agg F, .int .i64 me, .agg (o.arr q' n' c'), .agg X, .int .i64 now] u fun e w' => e = .returned (.tuple #[.agg Y, .agg R]) ∧ Kept u w' from fun u q' n' c' hu => by
      have := send_any cf me o x now q' n' c' u (ht.kept hu) ha
      rw [hy, hF, hX] at this; rw [← hY, ← hR]; exact this)
    have CT := Lib.hid (show ∀ u, Calls Tryd.prog 13 #[.agg Y] u fun e w' => e = .returned (.agg Y) ∧ Kept u w' from fun u => by rw [← hY]; exact theirs_any y u)
    have CD := Lib.hid (show ∀ u, Calls Tryd.prog 28 #[.agg R] u fun e w' => e = .returned (.int .i64 (Ad.dlP p)) ∧ Kept u w' from fun u => by rw [← hR]; exact Ad.deadline_p p u)
    have y5 : Y[5]? = some (.int .i64 y.att) := by rw [← hY]; rfl
    have y6 : Y[6]? = some (.int .i64 y.st) := by rw [← hY]; rfl
    have r0 : R[0]? = some (.int .i64 p.kind) := by rw [← hR]; rfl
    have r7 : R[7]? = some (.int .i64 p.hop) := by rw [← hR]; rfl
    have r10 : R[10]? = some (.int .i64 p.til) := by rw [← hR]; rfl
    have HYX := Lib.hid (And.intro hX (And.intro hY hR))
    clear hv ht hb hW hN hF hA hX hy hY hR x12
    go_enter Tryd.func6, Tryd.ntmps6
    go_upto_region 1 with fail
    rw [HW.out]
    go_upto_region 3 with fail
    clear h18 e1
    go_cut [11, 12] (fun p1 p2 wx => ∃ gA gB : Nat, p1 = .pointer (some ⟨gA, 0, none⟩) ∧ p2 = .pointer (some ⟨gB, 0, none⟩) ∧ Bl w wx [(F, 24), (A, 31), (X, 33)] ∧ wx.heap[gA]? = some (.cells Y 35 (0, 0)) ∧ wx.heap[gB]? = some (.cells R 37 (0, 0)) ∧ w.heap.size + 3 ≤ gA ∧ w.heap.size + 3 ≤ gB)
    case first =>
      have hST : Stab (fun u => Bl w u [(F, 24), (A, 31), (X, 33)]) ∧ ∀ u, (fun u => Bl w u [(F, 24), (A, 31), (X, 33)]) u → (fun u => Bl w u [(F, 24), (A, 31), (X, 33)]) u := ⟨bl_stab, fun u h => h⟩
      refine AvT.region (fun u => Bl w u [(F, 24), (A, 31), (X, 33)]) (fun u => Bl w u [(F, 24), (A, 31), (X, 33)]) (by kernel_rfl) (hST.1 _ _ HS0.out (Kept.refl _).drew) ?_
      refine AvT.take 0 (some 21) rfl rfl (by kernel_rfl) (by kernel_rfl) (by kernel_rfl) (fun _ _ _ h => h) hST (Au.yq_load 24 (.tmp 5) rfl _ rfl (by rfl) (fun u hu => load_cf (hu.blk 0 rfl) sF)) ?_
      simp only [Act.put, List.setIfInBounds_toArray, List.set_cons_zero, List.set_cons_succ]
      refine AvT.take 1 (some 22) (v := ?_) rfl rfl (by kernel_rfl) (by kernel_rfl) (by kernel_rfl) (fun _ _ _ h => h) hST (Au.yq_run (by rfl) (fun u hu => ?_)) ?_
      rotate_left
      · (clear hu; go_simp; try with_reducible rfl)
      simp only [Act.put, List.setIfInBounds_toArray, List.set_cons_zero, List.set_cons_succ]
      refine AvT.take 2 (some 23) rfl rfl (by kernel_rfl) (by kernel_rfl) (by kernel_rfl) (fun _ _ _ h => h) hST (Au.yq_load 31 (.tmp 7) rfl _ rfl (by rfl) (fun u hu => load_row (hu.blk 1 rfl) sA)) ?_
      simp only [Act.put, List.setIfInBounds_toArray, List.set_cons_zero, List.set_cons_succ]
      refine AvT.take 4 (some 25) rfl rfl (by kernel_rfl) (by kernel_rfl) (by kernel_rfl) (fun _ _ _ h => h) hST (Au.yq_load 33 (.tmp 8) rfl _ rfl (by rfl) (fun u hu => load_rcl (hu.blk 2 rfl) sX)) ?_
      simp only [Act.put, List.setIfInBounds_toArray, List.set_cons_zero, List.set_cons_succ]
      refine AvT.take 6 (some 27) (v := ?_) rfl rfl (by kernel_rfl) (by kernel_rfl) (by kernel_rfl) (fun _ _ _ h => h) hST (Au.yq_run (by rfl) (fun u hu => ?_)) ?_
      rotate_left
      · (clear hu; go_simp; try with_reducible rfl)
      simp only [Act.put, List.setIfInBounds_toArray, List.set_cons_zero, List.set_cons_succ]
      refine AvT.fork3 3 11 12 rfl rfl rfl (by kernel_rfl) (fun v hv KK hK => ?_) (fun v hv KK hK => ?_) (fun v hv KK hK => ?_)
      · rw [if_pos (by rfl)]
        go_simp
        refine (CM.out _ (hv.kept)).mono ?_
        rintro e v2 ⟨q1, n1, c1, rfl, r1, fr1, k2⟩
        obtain rfl : n1 = N := (mc_len r1).symm.trans HN.out
        go_wp2_with fail
        refine hK.out (fun u => Bl w u [(F, 24), (A, 31), (X, 33)] ∧ Mc u (.slice q1 n1 c1) K) _ _ ⟨(bl_stab _ _ (hv) k2), r1⟩ (stab_and bl_stab mcs) (fun u h => h.1) ?_
        clear hK KK hv r1 fr1 k2
        clear v v2 hST
        refine AvT.narrow (T' := fun u => Bl w u [(F, 24), (A, 31), (X, 33)] ∧ Mc u (.slice q1 n1 c1) K) (fun u h => h.1) _ _ _ _ ?_
        have hST : Stab (fun u => Bl w u [(F, 24), (A, 31), (X, 33)] ∧ Mc u (.slice q1 n1 c1) K) ∧ ∀ u, (fun u => Bl w u [(F, 24), (A, 31), (X, 33)] ∧ Mc u (.slice q1 n1 c1) K) u → (fun u => Bl w u [(F, 24), (A, 31), (X, 33)] ∧ Mc u (.slice q1 n1 c1) K) u := ⟨(stab_and bl_stab mcs), fun u h => ⟨h.1, h.2⟩⟩
        refine AvT.take 5 (some 26) rfl rfl (by kernel_rfl) (by kernel_rfl) (by kernel_rfl) (fun _ _ _ h => h) hST (Au.yq_call 11 _ (by rfl) (fun u => by go_simp) (fun u hu => C1.out u)) ?_
        simp only [Act.put, List.setIfInBounds_toArray, List.set_cons_zero, List.set_cons_succ]
        refine AvT.take 7 (some 28) rfl rfl (by kernel_rfl) (by kernel_rfl) (by kernel_rfl) (fun _ _ _ h => h) hST (Au.yq_call 9 _ (by rfl) (fun u => by go_simp) (fun u hu => CS.out u q1 n1 c1 (hu.1.kept))) ?_
        simp only [Act.put, List.setIfInBounds_toArray, List.set_cons_zero, List.set_cons_succ]
        refine AvT.take 8 (some 20) (v := ?_) rfl rfl (by kernel_rfl) (by kernel_rfl) (by kernel_rfl) (fun _ _ _ h => h) hST (Au.yq_run (by rfl) (fun u hu => ?_)) ?_
        rotate_left
        · (clear hu; go_simp; try with_reducible rfl)
        simp only [Act.put, List.setIfInBounds_toArray, List.set_cons_zero, List.set_cons_succ]
        refine AvT.take 9 (some 29) (v := ?_) rfl rfl (by kernel_rfl) (by kernel_rfl) (by kernel_rfl) (fun _ _ _ h => h) hST (Au.yq_run (by rfl) (fun u hu => ?_)) ?_
        rotate_left
        · (clear hu; go_simp; try with_reducible rfl)
        simp only [Act.put, List.setIfInBounds_toArray, List.set_cons_zero, List.set_cons_succ]
        refine AvT.take 10 (some 30) (v := ?_) rfl rfl (by kernel_rfl) (by kernel_rfl) (by kernel_rfl) (fun _ _ _ h => h) hST (Au.yq_run (by rfl) (fun u hu => ?_)) ?_
        rotate_left
        · (clear hu; go_simp; try with_reducible rfl)
        simp only [Act.put, List.setIfInBounds_toArray, List.set_cons_zero, List.set_cons_succ]
        refine AvT.fork 11 12 rfl rfl (by kernel_rfl) (fun v hv KK hK => ?_) (fun v hv KK hK => ?_)
        · rw [if_pos (by rfl)]
          go_simp
          have bA : w.heap.size + 3 ≤ v.heap.size := (hv.1).size
          have dA : ∀ j, (Value.slice q1 n1 c1).ownBlock = some j → j ≠ v.heap.size := fun j e => by have := (hv.2).lt e; omega
          refine hK.out (fun u => Bl w u [(F, 24), (A, 31), (X, 33)] ∧ Mc u (.slice q1 n1 c1) K ∧ u.heap[v.heap.size]? = some (.cells zeroC 35 (0, 0))) _ _ ⟨(bl_stab _ _ (hv.1) (Kept.one _ _)), (mcs _ _ (hv.2) (Kept.one _ _)), blk_new v _⟩ (stab_and bl_stab (stab_and mcs blk_stab)) (fun u h => ⟨h.1, h.2.1⟩) ?_
          obtain ⟨gA, hg⟩ : ∃ g, v.heap.size = g := ⟨_, rfl⟩
          rw [hg] at bA dA  ⊢
          clear hK KK hv hg
          clear v hST
          have hST : Stab (fun u => Bl w u [(F, 24), (A, 31), (X, 33)] ∧ Mc u (.slice q1 n1 c1) K ∧ u.heap[gA]? = some (.cells zeroC 35 (0, 0))) ∧ ∀ u, (fun u => Bl w u [(F, 24), (A, 31), (X, 33)] ∧ Mc u (.slice q1 n1 c1) K ∧ u.heap[gA]? = some (.cells zeroC 35 (0, 0))) u → (fun u => Bl w u [(F, 24), (A, 31), (X, 33)] ∧ Mc u (.slice q1 n1 c1) K) u := ⟨(stab_and bl_stab (stab_and mcs blk_stab)), fun u h => ⟨h.1, h.2.1⟩⟩
          refine AvT.step 12 rfl (by kernel_rfl) (fun v hv KK hK => ?_)
          rw [if_pos (by rfl)]
          go_simp
          have bB : w.heap.size + 3 ≤ v.heap.size := (hv.1).size
          have dB : ∀ j, (Value.slice q1 n1 c1).ownBlock = some j → j ≠ v.heap.size := fun j e => by have := (hv.2.1).lt e; omega
          have eAB : gA ≠ v.heap.size := by have := blk_lt (hv.2.2); omega
          refine hK.out (fun u => Bl w u [(F, 24), (A, 31), (X, 33)] ∧ Mc u (.slice q1 n1 c1) K ∧ u.heap[gA]? = some (.cells zeroC 35 (0, 0)) ∧ u.heap[v.heap.size]? = some (.cells zeroP 37 (0, 0))) _ _ ⟨(bl_stab _ _ (hv.1) (Kept.one _ _)), (mcs _ _ (hv.2.1) (Kept.one _ _)), (blk_stab _ _ (hv.2.2) (Kept.one _ _)), blk_new v _⟩ (stab_and bl_stab (stab_and mcs (stab_and blk_stab blk_stab))) (fun u h => ⟨h.1, h.2.1⟩) ?_
          obtain ⟨gB, hg⟩ : ∃ g, v.heap.size = g := ⟨_, rfl⟩
          rw [hg] at bB dB eAB ⊢
          clear hK KK hv hg
          clear v hST
          have hST : Stab (fun u => Bl w u [(F, 24), (A, 31), (X, 33)] ∧ Mc u (.slice q1 n1 c1) K ∧ u.heap[gA]? = some (.cells zeroC 35 (0, 0)) ∧ u.heap[gB]? = some (.cells zeroP 37 (0, 0))) ∧ ∀ u, (fun u => Bl w u [(F, 24), (A, 31), (X, 33)] ∧ Mc u (.slice q1 n1 c1) K ∧ u.heap[gA]? = some (.cells zeroC 35 (0, 0)) ∧ u.heap[gB]? = some (.cells zeroP 37 (0, 0))) u → (fun u => Bl w u [(F, 24), (A, 31), (X, 33)] ∧ Mc u (.slice q1 n1 c1) K) u := ⟨(stab_and bl_stab (stab_and mcs (stab_and blk_stab blk_stab))), fun u h => ⟨h.1, h.2.1⟩⟩
          refine AvT.step 13 rfl (by kernel_rfl) (fun v hv KK hK => ?_)
          rw [if_pos (by rfl)]
          refine wp_store_row 35 (.tmp 11) (.tmp 29) rfl gA Y rfl rfl 35 zeroC (hv.2.2.1) (by rw [sY]; exact info_cl) (by rw [sY]; rfl) oY ?_
          refine hK.out (fun u => Bl w u [(F, 24), (A, 31), (X, 33)] ∧ Mc u (.slice q1 n1 c1) K ∧ u.heap[gB]? = some (.cells zeroP 37 (0, 0)) ∧ u.heap[gA]? = some (.cells Y 35 (0, 0))) _ _ ⟨hv.1.far bA Y, hv.2.1.kept (fun j e => setRow_other _ _ _ _ (dA j e)), far_rw hv.2.2.2 (by omega), setRow_heap _ _ zeroC Y _ _ (hv.2.2.1)⟩ (stab_and bl_stab (stab_and mcs (stab_and blk_stab blk_stab))) (fun u h => ⟨h.1, h.2.1⟩) ?_
          clear hK KK hv
          clear v hST
          have hST : Stab (fun u => Bl w u [(F, 24), (A, 31), (X, 33)] ∧ Mc u (.slice q1 n1 c1) K ∧ u.heap[gB]? = some (.cells zeroP 37 (0, 0)) ∧ u.heap[gA]? = some (.cells Y 35 (0, 0))) ∧ ∀ u, (fun u => Bl w u [(F, 24), (A, 31), (X, 33)] ∧ Mc u (.slice q1 n1 c1) K ∧ u.heap[gB]? = some (.cells zeroP 37 (0, 0)) ∧ u.heap[gA]? = some (.cells Y 35 (0, 0))) u → (fun u => Bl w u [(F, 24), (A, 31), (X, 33)] ∧ Mc u (.slice q1 n1 c1) K) u := ⟨(stab_and bl_stab (stab_and mcs (stab_and blk_stab blk_stab))), fun u h => ⟨h.1, h.2.1⟩⟩
          refine AvT.step 14 rfl (by kernel_rfl) (fun v hv KK hK => ?_)
          rw [if_pos (by rfl)]
          refine wp_store_row 37 (.tmp 12) (.tmp 30) rfl gB R rfl rfl 37 zeroP (hv.2.2.1) (by rw [sR]; exact info_pk) (by rw [sR]; rfl) oR ?_
          refine hK.out (fun u => Bl w u [(F, 24), (A, 31), (X, 33)] ∧ Mc u (.slice q1 n1 c1) K ∧ u.heap[gA]? = some (.cells Y 35 (0, 0)) ∧ u.heap[gB]? = some (.cells R 37 (0, 0))) _ _ ⟨hv.1.far bB R, hv.2.1.kept (fun j e => setRow_other _ _ _ _ (dB j e)), far_rw hv.2.2.2 (by omega), setRow_heap _ _ zeroP R _ _ (hv.2.2.1)⟩ (stab_and bl_stab (stab_and mcs (stab_and blk_stab blk_stab))) (fun u h => ⟨h.1, h.2.1⟩) ?_
          clear hK KK hv
          clear v hST
          have hST : Stab (fun u => Bl w u [(F, 24), (A, 31), (X, 33)] ∧ Mc u (.slice q1 n1 c1) K ∧ u.heap[gA]? = some (.cells Y 35 (0, 0)) ∧ u.heap[gB]? = some (.cells R 37 (0, 0))) ∧ ∀ u, (fun u => Bl w u [(F, 24), (A, 31), (X, 33)] ∧ Mc u (.slice q1 n1 c1) K ∧ u.heap[gA]? = some (.cells Y 35 (0, 0)) ∧ u.heap[gB]? = some (.cells R 37 (0, 0))) u → (fun u => Bl w u [(F, 24), (A, 31), (X, 33)] ∧ Mc u (.slice q1 n1 c1) K) u := ⟨(stab_and bl_stab (stab_and mcs (stab_and blk_stab blk_stab))), fun u h => ⟨h.1, h.2.1⟩⟩
          refine AvT.done (by kernel_rfl) (fun V hV => ?_)
          clear hST
          go_wp2_with fail
          go_meet
          exact ⟨gA, gB, rfl, rfl, hV.1, hV.2.2.1, hV.2.2.2, bA, bB⟩
        · rw [if_pos (by rfl)]
          go_simp
          have bB : w.heap.size + 3 ≤ v.heap.size := (hv.1).size
          have dB : ∀ j, (Value.slice q1 n1 c1).ownBlock = some j → j ≠ v.heap.size := fun j e => by have := (hv.2).lt e; omega
          refine hK.out (fun u => Bl w u [(F, 24), (A, 31), (X, 33)] ∧ Mc u (.slice q1 n1 c1) K ∧ u.heap[v.heap.size]? = some (.cells zeroP 37 (0, 0))) _ _ ⟨(bl_stab _ _ (hv.1) (Kept.one _ _)), (mcs _ _ (hv.2) (Kept.one _ _)), blk_new v _⟩ (stab_and bl_stab (stab_and mcs blk_stab)) (fun u h => ⟨h.1, h.2.1⟩) ?_
          obtain ⟨gB, hg⟩ : ∃ g, v.heap.size = g := ⟨_, rfl⟩
          rw [hg] at bB dB  ⊢
          clear hK KK hv hg
          clear v hST
          have hST : Stab (fun u => Bl w u [(F, 24), (A, 31), (X, 33)] ∧ Mc u (.slice q1 n1 c1) K ∧ u.heap[gB]? = some (.cells zeroP 37 (0, 0))) ∧ ∀ u, (fun u => Bl w u [(F, 24), (A, 31), (X, 33)] ∧ Mc u (.slice q1 n1 c1) K ∧ u.heap[gB]? = some (.cells zeroP 37 (0, 0))) u → (fun u => Bl w u [(F, 24), (A, 31), (X, 33)] ∧ Mc u (.slice q1 n1 c1) K) u := ⟨(stab_and bl_stab (stab_and mcs blk_stab)), fun u h => ⟨h.1, h.2.1⟩⟩
          refine AvT.step 11 rfl (by kernel_rfl) (fun v hv KK hK => ?_)
          rw [if_pos (by rfl)]
          go_simp
          have bA : w.heap.size + 3 ≤ v.heap.size := (hv.1).size
          have dA : ∀ j, (Value.slice q1 n1 c1).ownBlock = some j → j ≠ v.heap.size := fun j e => by have := (hv.2.1).lt e; omega
          have eBA : gB ≠ v.heap.size := by have := blk_lt (hv.2.2); omega
          refine hK.out (fun u => Bl w u [(F, 24), (A, 31), (X, 33)] ∧ Mc u (.slice q1 n1 c1) K ∧ u.heap[gB]? = some (.cells zeroP 37 (0, 0)) ∧ u.heap[v.heap.size]? = some (.cells zeroC 35 (0, 0))) _ _ ⟨(bl_stab _ _ (hv.1) (Kept.one _ _)), (mcs _ _ (hv.2.1) (Kept.one _ _)), (blk_stab _ _ (hv.2.2) (Kept.one _ _)), blk_new v _⟩ (stab_and bl_stab (stab_and mcs (stab_and blk_stab blk_stab))) (fun u h => ⟨h.1, h.2.1⟩) ?_
          obtain ⟨gA, hg⟩ : ∃ g, v.heap.size = g := ⟨_, rfl⟩
          rw [hg] at bA dA eBA ⊢
          clear hK KK hv hg
          clear v hST
          have hST : Stab (fun u => Bl w u [(F, 24), (A, 31), (X, 33)] ∧ Mc u (.slice q1 n1 c1) K ∧ u.heap[gB]? = some (.cells zeroP 37 (0, 0)) ∧ u.heap[gA]? = some (.cells zeroC 35 (0, 0))) ∧ ∀ u, (fun u => Bl w u [(F, 24), (A, 31), (X, 33)] ∧ Mc u (.slice q1 n1 c1) K ∧ u.heap[gB]? = some (.cells zeroP 37 (0, 0)) ∧ u.heap[gA]? = some (.cells zeroC 35 (0, 0))) u → (fun u => Bl w u [(F, 24), (A, 31), (X, 33)] ∧ Mc u (.slice q1 n1 c1) K) u := ⟨(stab_and bl_stab (stab_and mcs (stab_and blk_stab blk_stab))), fun u h => ⟨h.1, h.2.1⟩⟩
          refine AvT.step 13 rfl (by kernel_rfl) (fun v hv KK hK => ?_)
          rw [if_pos (by rfl)]
          refine wp_store_row 35 (.tmp 11) (.tmp 29) rfl gA Y rfl rfl 35 zeroC (hv.2.2.2) (by rw [sY]; exact info_cl) (by rw [sY]; rfl) oY ?_
          refine hK.out (fun u => Bl w u [(F, 24), (A, 31), (X, 33)] ∧ Mc u (.slice q1 n1 c1) K ∧ u.heap[gB]? = some (.cells zeroP 37 (0, 0)) ∧ u.heap[gA]? = some (.cells Y 35 (0, 0))) _ _ ⟨hv.1.far bA Y, hv.2.1.kept (fun j e => setRow_other _ _ _ _ (dA j e)), far_rw hv.2.2.1 (by omega), setRow_heap _ _ zeroC Y _ _ (hv.2.2.2)⟩ (stab_and bl_stab (stab_and mcs (stab_and blk_stab blk_stab))) (fun u h => ⟨h.1, h.2.1⟩) ?_
          clear hK KK hv
          clear v hST
          have hST : Stab (fun u => Bl w u [(F, 24), (A, 31), (X, 33)] ∧ Mc u (.slice q1 n1 c1) K ∧ u.heap[gB]? = some (.cells zeroP 37 (0, 0)) ∧ u.heap[gA]? = some (.cells Y 35 (0, 0))) ∧ ∀ u, (fun u => Bl w u [(F, 24), (A, 31), (X, 33)] ∧ Mc u (.slice q1 n1 c1) K ∧ u.heap[gB]? = some (.cells zeroP 37 (0, 0)) ∧ u.heap[gA]? = some (.cells Y 35 (0, 0))) u → (fun u => Bl w u [(F, 24), (A, 31), (X, 33)] ∧ Mc u (.slice q1 n1 c1) K) u := ⟨(stab_and bl_stab (stab_and mcs (stab_and blk_stab blk_stab))), fun u h => ⟨h.1, h.2.1⟩⟩
          refine AvT.step 14 rfl (by kernel_rfl) (fun v hv KK hK => ?_)
          rw [if_pos (by rfl)]
          refine wp_store_row 37 (.tmp 12) (.tmp 30) rfl gB R rfl rfl 37 zeroP (hv.2.2.1) (by rw [sR]; exact info_pk) (by rw [sR]; rfl) oR ?_
          refine hK.out (fun u => Bl w u [(F, 24), (A, 31), (X, 33)] ∧ Mc u (.slice q1 n1 c1) K ∧ u.heap[gA]? = some (.cells Y 35 (0, 0)) ∧ u.heap[gB]? = some (.cells R 37 (0, 0))) _ _ ⟨hv.1.far bB R, hv.2.1.kept (fun j e => setRow_other _ _ _ _ (dB j e)), far_rw hv.2.2.2 (by omega), setRow_heap _ _ zeroP R _ _ (hv.2.2.1)⟩ (stab_and bl_stab (stab_and mcs (stab_and blk_stab blk_stab))) (fun u h => ⟨h.1, h.2.1⟩) ?_
          clear hK KK hv
          clear v hST
          have hST : Stab (fun u => Bl w u [(F, 24), (A, 31), (X, 33)] ∧ Mc u (.slice q1 n1 c1) K ∧ u.heap[gA]? = some (.cells Y 35 (0, 0)) ∧ u.heap[gB]? = some (.cells R 37 (0, 0))) ∧ ∀ u, (fun u => Bl w u [(F, 24), (A, 31), (X, 33)] ∧ Mc u (.slice q1 n1 c1) K ∧ u.heap[gA]? = some (.cells Y 35 (0, 0)) ∧ u.heap[gB]? = some (.cells R 37 (0, 0))) u → (fun u => Bl w u [(F, 24), (A, 31), (X, 33)] ∧ Mc u (.slice q1 n1 c1) K) u := ⟨(stab_and bl_stab (stab_and mcs (stab_and blk_stab blk_stab))), fun u h => ⟨h.1, h.2.1⟩⟩
          refine AvT.done (by kernel_rfl) (fun V hV => ?_)
          clear hST
          go_wp2_with fail
          go_meet
          exact ⟨gA, gB, rfl, rfl, hV.1, hV.2.2.1, hV.2.2.2, bA, bB⟩
      · rw [if_pos (by rfl)]
        go_simp
        have bA : w.heap.size + 3 ≤ v.heap.size := (hv).size
        refine hK.out (fun u => Bl w u [(F, 24), (A, 31), (X, 33)] ∧ u.heap[v.heap.size]? = some (.cells zeroC 35 (0, 0))) _ _ ⟨(bl_stab _ _ (hv) (Kept.one _ _)), blk_new v _⟩ (stab_and bl_stab blk_stab) (fun u h => h.1) ?_
        obtain ⟨gA, hg⟩ : ∃ g, v.heap.size = g := ⟨_, rfl⟩
        rw [hg] at bA   ⊢
        clear hK KK hv hg
        clear v hST
        have hST : Stab (fun u => Bl w u [(F, 24), (A, 31), (X, 33)] ∧ u.heap[gA]? = some (.cells zeroC 35 (0, 0))) ∧ ∀ u, (fun u => Bl w u [(F, 24), (A, 31), (X, 33)] ∧ u.heap[gA]? = some (.cells zeroC 35 (0, 0))) u → (fun u => Bl w u [(F, 24), (A, 31), (X, 33)]) u := ⟨(stab_and bl_stab blk_stab), fun u h => h.1⟩
        refine AvT.fork 3 12 rfl rfl (by kernel_rfl) (fun v hv KK hK => ?_) (fun v hv KK hK => ?_)
        · rw [if_pos (by rfl)]
          go_simp
          refine (CM.out _ (hv.1.kept)).mono ?_
          rintro e v2 ⟨q1, n1, c1, rfl, r1, fr1, k2⟩
          obtain rfl : n1 = N := (mc_len r1).symm.trans HN.out
          go_wp2_with fail
          refine hK.out (fun u => Bl w u [(F, 24), (A, 31), (X, 33)] ∧ u.heap[gA]? = some (.cells zeroC 35 (0, 0)) ∧ Mc u (.slice q1 n1 c1) K) _ _ ⟨(bl_stab _ _ (hv.1) k2), (blk_stab _ _ (hv.2) k2), r1⟩ (stab_and bl_stab (stab_and blk_stab mcs)) (fun u h => h.1) ?_
          have dA : ∀ j, (Value.slice q1 n1 c1).ownBlock = some j → j ≠ gA := fun j e => by have h1 := fr1 j e; have h2 := blk_lt (hv.2); omega
          clear hK KK hv r1 fr1 k2
          clear v v2 hST
          refine AvT.narrow (T' := fun u => Bl w u [(F, 24), (A, 31), (X, 33)] ∧ Mc u (.slice q1 n1 c1) K) (fun u h => h.1) _ _ _ _ ?_
          have hST : Stab (fun u => Bl w u [(F, 24), (A, 31), (X, 33)] ∧ u.heap[gA]? = some (.cells zeroC 35 (0, 0)) ∧ Mc u (.slice q1 n1 c1) K) ∧ ∀ u, (fun u => Bl w u [(F, 24), (A, 31), (X, 33)] ∧ u.heap[gA]? = some (.cells zeroC 35 (0, 0)) ∧ Mc u (.slice q1 n1 c1) K) u → (fun u => Bl w u [(F, 24), (A, 31), (X, 33)] ∧ Mc u (.slice q1 n1 c1) K) u := ⟨(stab_and bl_stab (stab_and blk_stab mcs)), fun u h => ⟨h.1, h.2.2⟩⟩
          refine AvT.take 5 (some 26) rfl rfl (by kernel_rfl) (by kernel_rfl) (by kernel_rfl) (fun _ _ _ h => h) hST (Au.yq_call 11 _ (by rfl) (fun u => by go_simp) (fun u hu => C1.out u)) ?_
          simp only [Act.put, List.setIfInBounds_toArray, List.set_cons_zero, List.set_cons_succ]
          refine AvT.take 7 (some 28) rfl rfl (by kernel_rfl) (by kernel_rfl) (by kernel_rfl) (fun _ _ _ h => h) hST (Au.yq_call 9 _ (by rfl) (fun u => by go_simp) (fun u hu => CS.out u q1 n1 c1 (hu.1.kept))) ?_
          simp only [Act.put, List.setIfInBounds_toArray, List.set_cons_zero, List.set_cons_succ]
          refine AvT.take 8 (some 20) (v := ?_) rfl rfl (by kernel_rfl) (by kernel_rfl) (by kernel_rfl) (fun _ _ _ h => h) hST (Au.yq_run (by rfl) (fun u hu => ?_)) ?_
          rotate_left
          · (clear hu; go_simp; try with_reducible rfl)
          simp only [Act.put, List.setIfInBounds_toArray, List.set_cons_zero, List.set_cons_succ]
          refine AvT.take 9 (some 29) (v := ?_) rfl rfl (by kernel_rfl) (by kernel_rfl) (by kernel_rfl) (fun _ _ _ h => h) hST (Au.yq_run (by rfl) (fun u hu => ?_)) ?_
          rotate_left
          · (clear hu; go_simp; try with_reducible rfl)
          simp only [Act.put, List.setIfInBounds_toArray, List.set_cons_zero, List.set_cons_succ]
          refine AvT.take 10 (some 30) (v := ?_) rfl rfl (by kernel_rfl) (by kernel_rfl) (by kernel_rfl) (fun _ _ _ h => h) hST (Au.yq_run (by rfl) (fun u hu => ?_)) ?_
          rotate_left
          · (clear hu; go_simp; try with_reducible rfl)
          simp only [Act.put, List.setIfInBounds_toArray, List.set_cons_zero, List.set_cons_succ]
          refine AvT.step 12 rfl (by kernel_rfl) (fun v hv KK hK => ?_)
          rw [if_pos (by rfl)]
          go_simp
          have bB : w.heap.size + 3 ≤ v.heap.size := (hv.1).size
          have dB : ∀ j, (Value.slice q1 n1 c1).ownBlock = some j → j ≠ v.heap.size := fun j e => by have := (hv.2.2).lt e; omega
          have eAB : gA ≠ v.heap.size := by have := blk_lt (hv.2.1); omega
          refine hK.out (fun u => Bl w u [(F, 24), (A, 31), (X, 33)] ∧ u.heap[gA]? = some (.cells zeroC 35 (0, 0)) ∧ Mc u (.slice q1 n1 c1) K ∧ u.heap[v.heap.size]? = some (.cells zeroP 37 (0, 0))) _ _ ⟨(bl_stab _ _ (hv.1) (Kept.one _ _)), (blk_stab _ _ (hv.2.1) (Kept.one _ _)), (mcs _ _ (hv.2.2) (Kept.one _ _)), blk_new v _⟩ (stab_and bl_stab (stab_and blk_stab (stab_and mcs blk_stab))) (fun u h => ⟨h.1, h.2.2.1⟩) ?_
          obtain ⟨gB, hg⟩ : ∃ g, v.heap.size = g := ⟨_, rfl⟩
          rw [hg] at bB dB eAB ⊢
          clear hK KK hv hg
          clear v hST
          have hST : Stab (fun u => Bl w u [(F, 24), (A, 31), (X, 33)] ∧ u.heap[gA]? = some (.cells zeroC 35 (0, 0)) ∧ Mc u (.slice q1 n1 c1) K ∧ u.heap[gB]? = some (.cells zeroP 37 (0, 0))) ∧ ∀ u, (fun u => Bl w u [(F, 24), (A, 31), (X, 33)] ∧ u.heap[gA]? = some (.cells zeroC 35 (0, 0)) ∧ Mc u (.slice q1 n1 c1) K ∧ u.heap[gB]? = some (.cells zeroP 37 (0, 0))) u → (fun u => Bl w u [(F, 24), (A, 31), (X, 33)] ∧ Mc u (.slice q1 n1 c1) K) u := ⟨(stab_and bl_stab (stab_and blk_stab (stab_and mcs blk_stab))), fun u h => ⟨h.1, h.2.2.1⟩⟩
          refine AvT.step 13 rfl (by kernel_rfl) (fun v hv KK hK => ?_)
          rw [if_pos (by rfl)]
          refine wp_store_row 35 (.tmp 11) (.tmp 29) rfl gA Y rfl rfl 35 zeroC (hv.2.1) (by rw [sY]; exact info_cl) (by rw [sY]; rfl) oY ?_
          refine hK.out (fun u => Bl w u [(F, 24), (A, 31), (X, 33)] ∧ Mc u (.slice q1 n1 c1) K ∧ u.heap[gB]? = some (.cells zeroP 37 (0, 0)) ∧ u.heap[gA]? = some (.cells Y 35 (0, 0))) _ _ ⟨hv.1.far bA Y, hv.2.2.1.kept (fun j e => setRow_other _ _ _ _ (dA j e)), far_rw hv.2.2.2 (by omega), setRow_heap _ _ zeroC Y _ _ (hv.2.1)⟩ (stab_and bl_stab (stab_and mcs (stab_and blk_stab blk_stab))) (fun u h => ⟨h.1, h.2.1⟩) ?_
          clear hK KK hv
          clear v hST
          have hST : Stab (fun u => Bl w u [(F, 24), (A, 31), (X, 33)] ∧ Mc u (.slice q1 n1 c1) K ∧ u.heap[gB]? = some (.cells zeroP 37 (0, 0)) ∧ u.heap[gA]? = some (.cells Y 35 (0, 0))) ∧ ∀ u, (fun u => Bl w u [(F, 24), (A, 31), (X, 33)] ∧ Mc u (.slice q1 n1 c1) K ∧ u.heap[gB]? = some (.cells zeroP 37 (0, 0)) ∧ u.heap[gA]? = some (.cells Y 35 (0, 0))) u → (fun u => Bl w u [(F, 24), (A, 31), (X, 33)] ∧ Mc u (.slice q1 n1 c1) K) u := ⟨(stab_and bl_stab (stab_and mcs (stab_and blk_stab blk_stab))), fun u h => ⟨h.1, h.2.1⟩⟩
          refine AvT.step 14 rfl (by kernel_rfl) (fun v hv KK hK => ?_)
          rw [if_pos (by rfl)]
          refine wp_store_row 37 (.tmp 12) (.tmp 30) rfl gB R rfl rfl 37 zeroP (hv.2.2.1) (by rw [sR]; exact info_pk) (by rw [sR]; rfl) oR ?_
          refine hK.out (fun u => Bl w u [(F, 24), (A, 31), (X, 33)] ∧ Mc u (.slice q1 n1 c1) K ∧ u.heap[gA]? = some (.cells Y 35 (0, 0)) ∧ u.heap[gB]? = some (.cells R 37 (0, 0))) _ _ ⟨hv.1.far bB R, hv.2.1.kept (fun j e => setRow_other _ _ _ _ (dB j e)), far_rw hv.2.2.2 (by omega), setRow_heap _ _ zeroP R _ _ (hv.2.2.1)⟩ (stab_and bl_stab (stab_and mcs (stab_and blk_stab blk_stab))) (fun u h => ⟨h.1, h.2.1⟩) ?_
          clear hK KK hv
          clear v hST
          have hST : Stab (fun u => Bl w u [(F, 24), (A, 31), (X, 33)] ∧ Mc u (.slice q1 n1 c1) K ∧ u.heap[gA]? = some (.cells Y 35 (0, 0)) ∧ u.heap[gB]? = some (.cells R 37 (0, 0))) ∧ ∀ u, (fun u => Bl w u [(F, 24), (A, 31), (X, 33)] ∧ Mc u (.slice q1 n1 c1) K ∧ u.heap[gA]? = some (.cells Y 35 (0, 0)) ∧ u.heap[gB]? = some (.cells R 37 (0, 0))) u → (fun u => Bl w u [(F, 24), (A, 31), (X, 33)] ∧ Mc u (.slice q1 n1 c1) K) u := ⟨(stab_and bl_stab (stab_and mcs (stab_and blk_stab blk_stab))), fun u h => ⟨h.1, h.2.1⟩⟩
          refine AvT.done (by kernel_rfl) (fun V hV => ?_)
          clear hST
          go_wp2_with fail
          go_meet
          exact ⟨gA, gB, rfl, rfl, hV.1, hV.2.2.1, hV.2.2.2, bA, bB⟩
        · rw [if_pos (by rfl)]
          go_simp
          have bB : w.heap.size + 3 ≤ v.heap.size := (hv.1).size
          have eAB : gA ≠ v.heap.size := by have := blk_lt (hv.2); omega
          refine hK.out (fun u => Bl w u [(F, 24), (A, 31), (X, 33)] ∧ u.heap[gA]? = some (.cells zeroC 35 (0, 0)) ∧ u.heap[v.heap.size]? = some (.cells zeroP 37 (0, 0))) _ _ ⟨(bl_stab _ _ (hv.1) (Kept.one _ _)), (blk_stab _ _ (hv.2) (Kept.one _ _)), blk_new v _⟩ (stab_and bl_stab (stab_and blk_stab blk_stab)) (fun u h => h.1) ?_
          obtain ⟨gB, hg⟩ : ∃ g, v.heap.size = g := ⟨_, rfl⟩
          rw [hg] at bB  eAB ⊢
          clear hK KK hv hg
          clear v hST
          have hST : Stab (fun u => Bl w u [(F, 24), (A, 31), (X, 33)] ∧ u.heap[gA]? = some (.cells zeroC 35 (0, 0)) ∧ u.heap[gB]? = some (.cells zeroP 37 (0, 0))) ∧ ∀ u, (fun u => Bl w u [(F, 24), (A, 31), (X, 33)] ∧ u.heap[gA]? = some (.cells zeroC 35 (0, 0)) ∧ u.heap[gB]? = some (.cells zeroP 37 (0, 0))) u → (fun u => Bl w u [(F, 24), (A, 31), (X, 33)]) u := ⟨(stab_and bl_stab (stab_and blk_stab blk_stab)), fun u h => h.1⟩
          refine AvT.step 3 rfl (by kernel_rfl) (fun v hv KK hK => ?_)
          rw [if_pos (by rfl)]
          go_simp
          refine (CM.out _ (hv.1.kept)).mono ?_
          rintro e v2 ⟨q1, n1, c1, rfl, r1, fr1, k2⟩
          obtain rfl : n1 = N := (mc_len r1).symm.trans HN.out
          go_wp2_with fail
          refine hK.out (fun u => Bl w u [(F, 24), (A, 31), (X, 33)] ∧ u.heap[gA]? = some (.cells zeroC 35 (0, 0)) ∧ u.heap[gB]? = some (.cells zeroP 37 (0, 0)) ∧ Mc u (.slice q1 n1 c1) K) _ _ ⟨(bl_stab _ _ (hv.1) k2), (blk_stab _ _ (hv.2.1) k2), (blk_stab _ _ (hv.2.2) k2), r1⟩ (stab_and bl_stab (stab_and blk_stab (stab_and blk_stab mcs))) (fun u h => h.1) ?_
          have dA : ∀ j, (Value.slice q1 n1 c1).ownBlock = some j → j ≠ gA := fun j e => by have h1 := fr1 j e; have h2 := blk_lt (hv.2.1); omega
          have dB : ∀ j, (Value.slice q1 n1 c1).ownBlock = some j → j ≠ gB := fun j e => by have h1 := fr1 j e; have h2 := blk_lt (hv.2.2); omega
          clear hK KK hv r1 fr1 k2
          clear v v2 hST
          refine AvT.narrow (T' := fun u => Bl w u [(F, 24), (A, 31), (X, 33)] ∧ Mc u (.slice q1 n1 c1) K) (fun u h => h.1) _ _ _ _ ?_
          have hST : Stab (fun u => Bl w u [(F, 24), (A, 31), (X, 33)] ∧ u.heap[gA]? = some (.cells zeroC 35 (0, 0)) ∧ u.heap[gB]? = some (.cells zeroP 37 (0, 0)) ∧ Mc u (.slice q1 n1 c1) K) ∧ ∀ u, (fun u => Bl w u [(F, 24), (A, 31), (X, 33)] ∧ u.heap[gA]? = some (.cells zeroC 35 (0, 0)) ∧ u.heap[gB]? = some (.cells zeroP 37 (0, 0)) ∧ Mc u (.slice q1 n1 c1) K) u → (fun u => Bl w u [(F, 24), (A, 31), (X, 33)] ∧ Mc u (.slice q1 n1 c1) K) u := ⟨(stab_and bl_stab (stab_and blk_stab (stab_and blk_stab mcs))), fun u h => ⟨h.1, h.2.2.2⟩⟩
          refine AvT.take 5 (some 26) rfl rfl (by kernel_rfl) (by kernel_rfl) (by kernel_rfl) (fun _ _ _ h => h) hST (Au.yq_call 11 _ (by rfl) (fun u => by go_simp) (fun u hu => C1.out u)) ?_
          simp only [Act.put, List.setIfInBounds_toArray, List.set_cons_zero, List.set_cons_succ]
          refine AvT.take 7 (some 28) rfl rfl (by kernel_rfl) (by kernel_rfl) (by kernel_rfl) (fun _ _ _ h => h) hST (Au.yq_call 9 _ (by rfl) (fun u => by go_simp) (fun u hu => CS.out u q1 n1 c1 (hu.1.kept))) ?_
          simp only [Act.put, List.setIfInBounds_toArray, List.set_cons_zero, List.set_cons_succ]
          refine AvT.take 8 (some 20) (v := ?_) rfl rfl (by kernel_rfl) (by kernel_rfl) (by kernel_rfl) (fun _ _ _ h => h) hST (Au.yq_run (by rfl) (fun u hu => ?_)) ?_
          rotate_left
          · (clear hu; go_simp; try with_reducible rfl)
          simp only [Act.put, List.setIfInBounds_toArray, List.set_cons_zero, List.set_cons_succ]
          refine AvT.take 9 (some 29) (v := ?_) rfl rfl (by kernel_rfl) (by kernel_rfl) (by kernel_rfl) (fun _ _ _ h => h) hST (Au.yq_run (by rfl) (fun u hu => ?_)) ?_
          rotate_left
          · (clear hu; go_simp; try with_reducible rfl)
          simp only [Act.put, List.setIfInBounds_toArray, List.set_cons_zero, List.set_cons_succ]
          refine AvT.take 10 (some 30) (v := ?_) rfl rfl (by kernel_rfl) (by kernel_rfl) (by kernel_rfl) (fun _ _ _ h => h) hST (Au.yq_run (by rfl) (fun u hu => ?_)) ?_
          rotate_left
          · (clear hu; go_simp; try with_reducible rfl)
          simp only [Act.put, List.setIfInBounds_toArray, List.set_cons_zero, List.set_cons_succ]
          refine AvT.step 13 rfl (by kernel_rfl) (fun v hv KK hK => ?_)
          rw [if_pos (by rfl)]
          refine wp_store_row 35 (.tmp 11) (.tmp 29) rfl gA Y rfl rfl 35 zeroC (hv.2.1) (by rw [sY]; exact info_cl) (by rw [sY]; rfl) oY ?_
          refine hK.out (fun u => Bl w u [(F, 24), (A, 31), (X, 33)] ∧ u.heap[gB]? = some (.cells zeroP 37 (0, 0)) ∧ Mc u (.slice q1 n1 c1) K ∧ u.heap[gA]? = some (.cells Y 35 (0, 0))) _ _ ⟨hv.1.far bA Y, far_rw hv.2.2.1 (by omega), hv.2.2.2.kept (fun j e => setRow_other _ _ _ _ (dA j e)), setRow_heap _ _ zeroC Y _ _ (hv.2.1)⟩ (stab_and bl_stab (stab_and blk_stab (stab_and mcs blk_stab))) (fun u h => ⟨h.1, h.2.2.1⟩) ?_
          clear hK KK hv
          clear v hST
          have hST : Stab (fun u => Bl w u [(F, 24), (A, 31), (X, 33)] ∧ u.heap[gB]? = some (.cells zeroP 37 (0, 0)) ∧ Mc u (.slice q1 n1 c1) K ∧ u.heap[gA]? = some (.cells Y 35 (0, 0))) ∧ ∀ u, (fun u => Bl w u [(F, 24), (A, 31), (X, 33)] ∧ u.heap[gB]? = some (.cells zeroP 37 (0, 0)) ∧ Mc u (.slice q1 n1 c1) K ∧ u.heap[gA]? = some (.cells Y 35 (0, 0))) u → (fun u => Bl w u [(F, 24), (A, 31), (X, 33)] ∧ Mc u (.slice q1 n1 c1) K) u := ⟨(stab_and bl_stab (stab_and blk_stab (stab_and mcs blk_stab))), fun u h => ⟨h.1, h.2.2.1⟩⟩
          refine AvT.step 14 rfl (by kernel_rfl) (fun v hv KK hK => ?_)
          rw [if_pos (by rfl)]
          refine wp_store_row 37 (.tmp 12) (.tmp 30) rfl gB R rfl rfl 37 zeroP (hv.2.1) (by rw [sR]; exact info_pk) (by rw [sR]; rfl) oR ?_
          refine hK.out (fun u => Bl w u [(F, 24), (A, 31), (X, 33)] ∧ Mc u (.slice q1 n1 c1) K ∧ u.heap[gA]? = some (.cells Y 35 (0, 0)) ∧ u.heap[gB]? = some (.cells R 37 (0, 0))) _ _ ⟨hv.1.far bB R, hv.2.2.1.kept (fun j e => setRow_other _ _ _ _ (dB j e)), far_rw hv.2.2.2 (by omega), setRow_heap _ _ zeroP R _ _ (hv.2.1)⟩ (stab_and bl_stab (stab_and mcs (stab_and blk_stab blk_stab))) (fun u h => ⟨h.1, h.2.1⟩) ?_
          clear hK KK hv
          clear v hST
          have hST : Stab (fun u => Bl w u [(F, 24), (A, 31), (X, 33)] ∧ Mc u (.slice q1 n1 c1) K ∧ u.heap[gA]? = some (.cells Y 35 (0, 0)) ∧ u.heap[gB]? = some (.cells R 37 (0, 0))) ∧ ∀ u, (fun u => Bl w u [(F, 24), (A, 31), (X, 33)] ∧ Mc u (.slice q1 n1 c1) K ∧ u.heap[gA]? = some (.cells Y 35 (0, 0)) ∧ u.heap[gB]? = some (.cells R 37 (0, 0))) u → (fun u => Bl w u [(F, 24), (A, 31), (X, 33)] ∧ Mc u (.slice q1 n1 c1) K) u := ⟨(stab_and bl_stab (stab_and mcs (stab_and blk_stab blk_stab))), fun u h => ⟨h.1, h.2.1⟩⟩
          refine AvT.done (by kernel_rfl) (fun V hV => ?_)
          clear hST
          go_wp2_with fail
          go_meet
          exact ⟨gA, gB, rfl, rfl, hV.1, hV.2.2.1, hV.2.2.2, bA, bB⟩
      · rw [if_pos (by rfl)]
        go_simp
        have bB : w.heap.size + 3 ≤ v.heap.size := (hv).size
        refine hK.out (fun u => Bl w u [(F, 24), (A, 31), (X, 33)] ∧ u.heap[v.heap.size]? = some (.cells zeroP 37 (0, 0))) _ _ ⟨(bl_stab _ _ (hv) (Kept.one _ _)), blk_new v _⟩ (stab_and bl_stab blk_stab) (fun u h => h.1) ?_
        obtain ⟨gB, hg⟩ : ∃ g, v.heap.size = g := ⟨_, rfl⟩
        rw [hg] at bB   ⊢
        clear hK KK hv hg
        clear v hST
        have hST : Stab (fun u => Bl w u [(F, 24), (A, 31), (X, 33)] ∧ u.heap[gB]? = some (.cells zeroP 37 (0, 0))) ∧ ∀ u, (fun u => Bl w u [(F, 24), (A, 31), (X, 33)] ∧ u.heap[gB]? = some (.cells zeroP 37 (0, 0))) u → (fun u => Bl w u [(F, 24), (A, 31), (X, 33)]) u := ⟨(stab_and bl_stab blk_stab), fun u h => h.1⟩
        refine AvT.fork 3 11 rfl rfl (by kernel_rfl) (fun v hv KK hK => ?_) (fun v hv KK hK => ?_)
        · rw [if_pos (by rfl)]
          go_simp
          refine (CM.out _ (hv.1.kept)).mono ?_
          rintro e v2 ⟨q1, n1, c1, rfl, r1, fr1, k2⟩
          obtain rfl : n1 = N := (mc_len r1).symm.trans HN.out
          go_wp2_with fail
          refine hK.out (fun u => Bl w u [(F, 24), (A, 31), (X, 33)] ∧ u.heap[gB]? = some (.cells zeroP 37 (0, 0)) ∧ Mc u (.slice q1 n1 c1) K) _ _ ⟨(bl_stab _ _ (hv.1) k2), (blk_stab _ _ (hv.2) k2), r1⟩ (stab_and bl_stab (stab_and blk_stab mcs)) (fun u h => h.1) ?_
          have dB : ∀ j, (Value.slice q1 n1 c1).ownBlock = some j → j ≠ gB := fun j e => by have h1 := fr1 j e; have h2 := blk_lt (hv.2); omega
          clear hK KK hv r1 fr1 k2
          clear v v2 hST
          refine AvT.narrow (T' := fun u => Bl w u [(F, 24), (A, 31), (X, 33)] ∧ Mc u (.slice q1 n1 c1) K) (fun u h => h.1) _ _ _ _ ?_
          have hST : Stab (fun u => Bl w u [(F, 24), (A, 31), (X, 33)] ∧ u.heap[gB]? = some (.cells zeroP 37 (0, 0)) ∧ Mc u (.slice q1 n1 c1) K) ∧ ∀ u, (fun u => Bl w u [(F, 24), (A, 31), (X, 33)] ∧ u.heap[gB]? = some (.cells zeroP 37 (0, 0)) ∧ Mc u (.slice q1 n1 c1) K) u → (fun u => Bl w u [(F, 24), (A, 31), (X, 33)] ∧ Mc u (.slice q1 n1 c1) K) u := ⟨(stab_and bl_stab (stab_and blk_stab mcs)), fun u h => ⟨h.1, h.2.2⟩⟩
          refine AvT.take 5 (some 26) rfl rfl (by kernel_rfl) (by kernel_rfl) (by kernel_rfl) (fun _ _ _ h => h) hST (Au.yq_call 11 _ (by rfl) (fun u => by go_simp) (fun u hu => C1.out u)) ?_
          simp only [Act.put, List.setIfInBounds_toArray, List.set_cons_zero, List.set_cons_succ]
          refine AvT.take 7 (some 28) rfl rfl (by kernel_rfl) (by kernel_rfl) (by kernel_rfl) (fun _ _ _ h => h) hST (Au.yq_call 9 _ (by rfl) (fun u => by go_simp) (fun u hu => CS.out u q1 n1 c1 (hu.1.kept))) ?_
          simp only [Act.put, List.setIfInBounds_toArray, List.set_cons_zero, List.set_cons_succ]
          refine AvT.take 8 (some 20) (v := ?_) rfl rfl (by kernel_rfl) (by kernel_rfl) (by kernel_rfl) (fun _ _ _ h => h) hST (Au.yq_run (by rfl) (fun u hu => ?_)) ?_
          rotate_left
          · (clear hu; go_simp; try with_reducible rfl)
          simp only [Act.put, List.setIfInBounds_toArray, List.set_cons_zero, List.set_cons_succ]
          refine AvT.take 9 (some 29) (v := ?_) rfl rfl (by kernel_rfl) (by kernel_rfl) (by kernel_rfl) (fun _ _ _ h => h) hST (Au.yq_run (by rfl) (fun u hu => ?_)) ?_
          rotate_left
          · (clear hu; go_simp; try with_reducible rfl)
          simp only [Act.put, List.setIfInBounds_toArray, List.set_cons_zero, List.set_cons_succ]
          refine AvT.take 10 (some 30) (v := ?_) rfl rfl (by kernel_rfl) (by kernel_rfl) (by kernel_rfl) (fun _ _ _ h => h) hST (Au.yq_run (by rfl) (fun u hu => ?_)) ?_
          rotate_left
          · (clear hu; go_simp; try with_reducible rfl)
          simp only [Act.put, List.setIfInBounds_toArray, List.set_cons_zero, List.set_cons_succ]
          refine AvT.step 11 rfl (by kernel_rfl) (fun v hv KK hK => ?_)
          rw [if_pos (by rfl)]
          go_simp
          have bA : w.heap.size + 3 ≤ v.heap.size := (hv.1).size
          have dA : ∀ j, (Value.slice q1 n1 c1).ownBlock = some j → j ≠ v.heap.size := fun j e => by have := (hv.2.2).lt e; omega
          have eBA : gB ≠ v.heap.size := by have := blk_lt (hv.2.1); omega
          refine hK.out (fun u => Bl w u [(F, 24), (A, 31), (X, 33)] ∧ u.heap[gB]? = some (.cells zeroP 37 (0, 0)) ∧ Mc u (.slice q1 n1 c1) K ∧ u.heap[v.heap.size]? = some (.cells zeroC 35 (0, 0))) _ _ ⟨(bl_stab _ _ (hv.1) (Kept.one _ _)), (blk_stab _ _ (hv.2.1) (Kept.one _ _)), (mcs _ _ (hv.2.2) (Kept.one _ _)), blk_new v _⟩ (stab_and bl_stab (stab_and blk_stab (stab_and mcs blk_stab))) (fun u h => ⟨h.1, h.2.2.1⟩) ?_
          obtain ⟨gA, hg⟩ : ∃ g, v.heap.size = g := ⟨_, rfl⟩
          rw [hg] at bA dA eBA ⊢
          clear hK KK hv hg
          clear v hST
          have hST : Stab (fun u => Bl w u [(F, 24), (A, 31), (X, 33)] ∧ u.heap[gB]? = some (.cells zeroP 37 (0, 0)) ∧ Mc u (.slice q1 n1 c1) K ∧ u.heap[gA]? = some (.cells zeroC 35 (0, 0))) ∧ ∀ u, (fun u => Bl w u [(F, 24), (A, 31), (X, 33)] ∧ u.heap[gB]? = some (.cells zeroP 37 (0, 0)) ∧ Mc u (.slice q1 n1 c1) K ∧ u.heap[gA]? = some (.cells zeroC 35 (0, 0))) u → (fun u => Bl w u [(F, 24), (A, 31), (X, 33)] ∧ Mc u (.slice q1 n1 c1) K) u := ⟨(stab_and bl_stab (stab_and blk_stab (stab_and mcs blk_stab))), fun u h => ⟨h.1, h.2.2.1⟩⟩
          refine AvT.step 13 rfl (by kernel_rfl) (fun v hv KK hK => ?_)
          rw [if_pos (by rfl)]
          refine wp_store_row 35 (.tmp 11) (.tmp 29) rfl gA Y rfl rfl 35 zeroC (hv.2.2.2) (by rw [sY]; exact info_cl) (by rw [sY]; rfl) oY ?_
          refine hK.out (fun u => Bl w u [(F, 24), (A, 31), (X, 33)] ∧ u.heap[gB]? = some (.cells zeroP 37 (0, 0)) ∧ Mc u (.slice q1 n1 c1) K ∧ u.heap[gA]? = some (.cells Y 35 (0, 0))) _ _ ⟨hv.1.far bA Y, far_rw hv.2.1 (by omega), hv.2.2.1.kept (fun j e => setRow_other _ _ _ _ (dA j e)), setRow_heap _ _ zeroC Y _ _ (hv.2.2.2)⟩ (stab_and bl_stab (stab_and blk_stab (stab_and mcs blk_stab))) (fun u h => ⟨h.1, h.2.2.1⟩) ?_
          clear hK KK hv
          clear v hST
          have hST : Stab (fun u => Bl w u [(F, 24), (A, 31), (X, 33)] ∧ u.heap[gB]? = some (.cells zeroP 37 (0, 0)) ∧ Mc u (.slice q1 n1 c1) K ∧ u.heap[gA]? = some (.cells Y 35 (0, 0))) ∧ ∀ u, (fun u => Bl w u [(F, 24), (A, 31), (X, 33)] ∧ u.heap[gB]? = some (.cells zeroP 37 (0, 0)) ∧ Mc u (.slice q1 n1 c1) K ∧ u.heap[gA]? = some (.cells Y 35 (0, 0))) u → (fun u => Bl w u [(F, 24), (A, 31), (X, 33)] ∧ Mc u (.slice q1 n1 c1) K) u := ⟨(stab_and bl_stab (stab_and blk_stab (stab_and mcs blk_stab))), fun u h => ⟨h.1, h.2.2.1⟩⟩
          refine AvT.step 14 rfl (by kernel_rfl) (fun v hv KK hK => ?_)
          rw [if_pos (by rfl)]
          refine wp_store_row 37 (.tmp 12) (.tmp 30) rfl gB R rfl rfl 37 zeroP (hv.2.1) (by rw [sR]; exact info_pk) (by rw [sR]; rfl) oR ?_
          refine hK.out (fun u => Bl w u [(F, 24), (A, 31), (X, 33)] ∧ Mc u (.slice q1 n1 c1) K ∧ u.heap[gA]? = some (.cells Y 35 (0, 0)) ∧ u.heap[gB]? = some (.cells R 37 (0, 0))) _ _ ⟨hv.1.far bB R, hv.2.2.1.kept (fun j e => setRow_other _ _ _ _ (dB j e)), far_rw hv.2.2.2 (by omega), setRow_heap _ _ zeroP R _ _ (hv.2.1)⟩ (stab_and bl_stab (stab_and mcs (stab_and blk_stab blk_stab))) (fun u h => ⟨h.1, h.2.1⟩) ?_
          clear hK KK hv
          clear v hST
          have hST : Stab (fun u => Bl w u [(F, 24), (A, 31), (X, 33)] ∧ Mc u (.slice q1 n1 c1) K ∧ u.heap[gA]? = some (.cells Y 35 (0, 0)) ∧ u.heap[gB]? = some (.cells R 37 (0, 0))) ∧ ∀ u, (fun u => Bl w u [(F, 24), (A, 31), (X, 33)] ∧ Mc u (.slice q1 n1 c1) K ∧ u.heap[gA]? = some (.cells Y 35 (0, 0)) ∧ u.heap[gB]? = some (.cells R 37 (0, 0))) u → (fun u => Bl w u [(F, 24), (A, 31), (X, 33)] ∧ Mc u (.slice q1 n1 c1) K) u := ⟨(stab_and bl_stab (stab_and mcs (stab_and blk_stab blk_stab))), fun u h => ⟨h.1, h.2.1⟩⟩
          refine AvT.done (by kernel_rfl) (fun V hV => ?_)
          clear hST
          go_wp2_with fail
          go_meet
          exact ⟨gA, gB, rfl, rfl, hV.1, hV.2.2.1, hV.2.2.2, bA, bB⟩
        · rw [if_pos (by rfl)]
          go_simp
          have bA : w.heap.size + 3 ≤ v.heap.size := (hv.1).size
          have eBA : gB ≠ v.heap.size := by have := blk_lt (hv.2); omega
          refine hK.out (fun u => Bl w u [(F, 24), (A, 31), (X, 33)] ∧ u.heap[gB]? = some (.cells zeroP 37 (0, 0)) ∧ u.heap[v.heap.size]? = some (.cells zeroC 35 (0, 0))) _ _ ⟨(bl_stab _ _ (hv.1) (Kept.one _ _)), (blk_stab _ _ (hv.2) (Kept.one _ _)), blk_new v _⟩ (stab_and bl_stab (stab_and blk_stab blk_stab)) (fun u h => h.1) ?_
          obtain ⟨gA, hg⟩ : ∃ g, v.heap.size = g := ⟨_, rfl⟩
          rw [hg] at bA  eBA ⊢
          clear hK KK hv hg
          clear v hST
          have hST : Stab (fun u => Bl w u [(F, 24), (A, 31), (X, 33)] ∧ u.heap[gB]? = some (.cells zeroP 37 (0, 0)) ∧ u.heap[gA]? = some (.cells zeroC 35 (0, 0))) ∧ ∀ u, (fun u => Bl w u [(F, 24), (A, 31), (X, 33)] ∧ u.heap[gB]? = some (.cells zeroP 37 (0, 0)) ∧ u.heap[gA]? = some (.cells zeroC 35 (0, 0))) u → (fun u => Bl w u [(F, 24), (A, 31), (X, 33)]) u := ⟨(stab_and bl_stab (stab_and blk_stab blk_stab)), fun u h => h.1⟩
          refine AvT.step 3 rfl (by kernel_rfl) (fun v hv KK hK => ?_)
          rw [if_pos (by rfl)]
          go_simp
          refine (CM.out _ (hv.1.kept)).mono ?_
          rintro e v2 ⟨q1, n1, c1, rfl, r1, fr1, k2⟩
          obtain rfl : n1 = N := (mc_len r1).symm.trans HN.out
          go_wp2_with fail
          refine hK.out (fun u => Bl w u [(F, 24), (A, 31), (X, 33)] ∧ u.heap[gB]? = some (.cells zeroP 37 (0, 0)) ∧ u.heap[gA]? = some (.cells zeroC 35 (0, 0)) ∧ Mc u (.slice q1 n1 c1) K) _ _ ⟨(bl_stab _ _ (hv.1) k2), (blk_stab _ _ (hv.2.1) k2), (blk_stab _ _ (hv.2.2) k2), r1⟩ (stab_and bl_stab (stab_and blk_stab (stab_and blk_stab mcs))) (fun u h => h.1) ?_
          have dB : ∀ j, (Value.slice q1 n1 c1).ownBlock = some j → j ≠ gB := fun j e => by have h1 := fr1 j e; have h2 := blk_lt (hv.2.1); omega
          have dA : ∀ j, (Value.slice q1 n1 c1).ownBlock = some j → j ≠ gA := fun j e => by have h1 := fr1 j e; have h2 := blk_lt (hv.2.2); omega
          clear hK KK hv r1 fr1 k2
          clear v v2 hST
          refine AvT.narrow (T' := fun u => Bl w u [(F, 24), (A, 31), (X, 33)] ∧ Mc u (.slice q1 n1 c1) K) (fun u h => h.1) _ _ _ _ ?_
          have hST : Stab (fun u => Bl w u [(F, 24), (A, 31), (X, 33)] ∧ u.heap[gB]? = some (.cells zeroP 37 (0, 0)) ∧ u.heap[gA]? = some (.cells zeroC 35 (0, 0)) ∧ Mc u (.slice q1 n1 c1) K) ∧ ∀ u, (fun u => Bl w u [(F, 24), (A, 31), (X, 33)] ∧ u.heap[gB]? = some (.cells zeroP 37 (0, 0)) ∧ u.heap[gA]? = some (.cells zeroC 35 (0, 0)) ∧ Mc u (.slice q1 n1 c1) K) u → (fun u => Bl w u [(F, 24), (A, 31), (X, 33)] ∧ Mc u (.slice q1 n1 c1) K) u := ⟨(stab_and bl_stab (stab_and blk_stab (stab_and blk_stab mcs))), fun u h => ⟨h.1, h.2.2.2⟩⟩
          refine AvT.take 5 (some 26) rfl rfl (by kernel_rfl) (by kernel_rfl) (by kernel_rfl) (fun _ _ _ h => h) hST (Au.yq_call 11 _ (by rfl) (fun u => by go_simp) (fun u hu => C1.out u)) ?_
          simp only [Act.put, List.setIfInBounds_toArray, List.set_cons_zero, List.set_cons_succ]
          refine AvT.take 7 (some 28) rfl rfl (by kernel_rfl) (by kernel_rfl) (by kernel_rfl) (fun _ _ _ h => h) hST (Au.yq_call 9 _ (by rfl) (fun u => by go_simp) (fun u hu => CS.out u q1 n1 c1 (hu.1.kept))) ?_
          simp only [Act.put, List.setIfInBounds_toArray, List.set_cons_zero, List.set_cons_succ]
          refine AvT.take 8 (some 20) (v := ?_) rfl rfl (by kernel_rfl) (by kernel_rfl) (by kernel_rfl) (fun _ _ _ h => h) hST (Au.yq_run (by rfl) (fun u hu => ?_)) ?_
          rotate_left
          · (clear hu; go_simp; try with_reducible rfl)
          simp only [Act.put, List.setIfInBounds_toArray, List.set_cons_zero, List.set_cons_succ]
          refine AvT.take 9 (some 29) (v := ?_) rfl rfl (by kernel_rfl) (by kernel_rfl) (by kernel_rfl) (fun _ _ _ h => h) hST (Au.yq_run (by rfl) (fun u hu => ?_)) ?_
          rotate_left
          · (clear hu; go_simp; try with_reducible rfl)
          simp only [Act.put, List.setIfInBounds_toArray, List.set_cons_zero, List.set_cons_succ]
          refine AvT.take 10 (some 30) (v := ?_) rfl rfl (by kernel_rfl) (by kernel_rfl) (by kernel_rfl) (fun _ _ _ h => h) hST (Au.yq_run (by rfl) (fun u hu => ?_)) ?_
          rotate_left
          · (clear hu; go_simp; try with_reducible rfl)
          simp only [Act.put, List.setIfInBounds_toArray, List.set_cons_zero, List.set_cons_succ]
          refine AvT.step 13 rfl (by kernel_rfl) (fun v hv KK hK => ?_)
          rw [if_pos (by rfl)]
          refine wp_store_row 35 (.tmp 11) (.tmp 29) rfl gA Y rfl rfl 35 zeroC (hv.2.2.1) (by rw [sY]; exact info_cl) (by rw [sY]; rfl) oY ?_
          refine hK.out (fun u => Bl w u [(F, 24), (A, 31), (X, 33)] ∧ u.heap[gB]? = some (.cells zeroP 37 (0, 0)) ∧ Mc u (.slice q1 n1 c1) K ∧ u.heap[gA]? = some (.cells Y 35 (0, 0))) _ _ ⟨hv.1.far bA Y, far_rw hv.2.1 (by omega), hv.2.2.2.kept (fun j e => setRow_other _ _ _ _ (dA j e)), setRow_heap _ _ zeroC Y _ _ (hv.2.2.1)⟩ (stab_and bl_stab (stab_and blk_stab (stab_and mcs blk_stab))) (fun u h => ⟨h.1, h.2.2.1⟩) ?_
          clear hK KK hv
          clear v hST
          have hST : Stab (fun u => Bl w u [(F, 24), (A, 31), (X, 33)] ∧ u.heap[gB]? = some (.cells zeroP 37 (0, 0)) ∧ Mc u (.slice q1 n1 c1) K ∧ u.heap[gA]? = some (.cells Y 35 (0, 0))) ∧ ∀ u, (fun u => Bl w u [(F, 24), (A, 31), (X, 33)] ∧ u.heap[gB]? = some (.cells zeroP 37 (0, 0)) ∧ Mc u (.slice q1 n1 c1) K ∧ u.heap[gA]? = some (.cells Y 35 (0, 0))) u → (fun u => Bl w u [(F, 24), (A, 31), (X, 33)] ∧ Mc u (.slice q1 n1 c1) K) u := ⟨(stab_and bl_stab (stab_and blk_stab (stab_and mcs blk_stab))), fun u h => ⟨h.1, h.2.2.1⟩⟩
          refine AvT.step 14 rfl (by kernel_rfl) (fun v hv KK hK => ?_)
          rw [if_pos (by rfl)]
          refine wp_store_row 37 (.tmp 12) (.tmp 30) rfl gB R rfl rfl 37 zeroP (hv.2.1) (by rw [sR]; exact info_pk) (by rw [sR]; rfl) oR ?_
          refine hK.out (fun u => Bl w u [(F, 24), (A, 31), (X, 33)] ∧ Mc u (.slice q1 n1 c1) K ∧ u.heap[gA]? = some (.cells Y 35 (0, 0)) ∧ u.heap[gB]? = some (.cells R 37 (0, 0))) _ _ ⟨hv.1.far bB R, hv.2.2.1.kept (fun j e => setRow_other _ _ _ _ (dB j e)), far_rw hv.2.2.2 (by omega), setRow_heap _ _ zeroP R _ _ (hv.2.1)⟩ (stab_and bl_stab (stab_and mcs (stab_and blk_stab blk_stab))) (fun u h => ⟨h.1, h.2.1⟩) ?_
          clear hK KK hv
          clear v hST
          have hST : Stab (fun u => Bl w u [(F, 24), (A, 31), (X, 33)] ∧ Mc u (.slice q1 n1 c1) K ∧ u.heap[gA]? = some (.cells Y 35 (0, 0)) ∧ u.heap[gB]? = some (.cells R 37 (0, 0))) ∧ ∀ u, (fun u => Bl w u [(F, 24), (A, 31), (X, 33)] ∧ Mc u (.slice q1 n1 c1) K ∧ u.heap[gA]? = some (.cells Y 35 (0, 0)) ∧ u.heap[gB]? = some (.cells R 37 (0, 0))) u → (fun u => Bl w u [(F, 24), (A, 31), (X, 33)] ∧ Mc u (.slice q1 n1 c1) K) u := ⟨(stab_and bl_stab (stab_and mcs (stab_and blk_stab blk_stab))), fun u h => ⟨h.1, h.2.1⟩⟩
          refine AvT.done (by kernel_rfl) (fun V hV => ?_)
          clear hST
          go_wp2_with fail
          go_meet
          exact ⟨gA, gB, rfl, rfl, hV.1, hV.2.2.1, hV.2.2.2, bA, bB⟩
    case rest =>
      obtain ⟨gA, gB, rfl, rfl, hb, hgA, hgB, bA, bB⟩ := hcut
      have HB := Lib.hid (And.intro hb (And.intro hgA hgB))
      have k0 : wc.cell? ⟨gB, 0, none⟩ = some (.int .i64 p.kind) := (blk_cell hgB 0).trans r0
      clear hb hgA hgB bA bB CS CM C1
      rcases hfc with ⟨hp, hys⟩ | ⟨hk1, hst1, hatt, hlt5, hhop, hhops, htil, d, hd, hd1, hd2, hd3⟩
      · rw [show p.kind = 0 by rw [hp]; rfl] at k0
        have he2 : ∀ u, (binOp .eql 37 (.agg R) (.agg #[.int .i64 0, .int .i64 0, .int .i64 0, .int .i64 0, .int .i64 0, .int .i64 0, .int .i64 0, .int .i64 0, .int .i64 0, .string ⟨#[]⟩, .int .i64 0, .int .i64 0, .int .i64 0, .int .i64 0, .int .i64 0, .int .i64 0, .int .i64 0, .int .i64 0, .int .i64 0, .int .i64 0, .int .i64 0, .bool false, .int .i64 0])).run Tryd.prog u = .ok (.bool true) u := fun u => by rw [← HYX.out.2.2, hp]; exact (Pk.eql_run Pk.none Pk.none u).trans (by rw [same_self])
        have he1 : y = x → ∀ u, (binOp .eql 33 (.agg Y) (.agg X)).run Tryd.prog u = .ok (.bool true) u := fun hyx u => by rw [← HYX.out.1, ← HYX.out.2.1, hyx]; exact (eq_rcl x x u).trans (by rw [sameC_self])
        clear hp r0 r7 r10 HYX
        go_upto_region 5 with fail
        clear k0
        rcases hys with h3 | ⟨h3, hyx⟩
        · rw [h3] at y6
          clear he1 h3
          have hST : Stab (fun u => Bl w u [(F, 24), (A, 31), (X, 33)] ∧ u.heap[gA]? = some (.cells Y 35 (0, 0)) ∧ u.heap[gB]? = some (.cells R 37 (0, 0))) ∧ ∀ u, (fun u => Bl w u [(F, 24), (A, 31), (X, 33)] ∧ u.heap[gA]? = some (.cells Y 35 (0, 0)) ∧ u.heap[gB]? = some (.cells R 37 (0, 0))) u → (fun u => Bl w u [(F, 24), (A, 31), (X, 33)] ∧ u.heap[gA]? = some (.cells Y 35 (0, 0)) ∧ u.heap[gB]? = some (.cells R 37 (0, 0))) u := ⟨(stab_and bl_stab (stab_and blk_stab blk_stab)), fun u h => ⟨h.1, h.2.1, h.2.2⟩⟩
          refine AvT.region (fun u => Bl w u [(F, 24), (A, 31), (X, 33)] ∧ u.heap[gA]? = some (.cells Y 35 (0, 0)) ∧ u.heap[gB]? = some (.cells R 37 (0, 0))) (fun u => Bl w u [(F, 24), (A, 31), (X, 33)] ∧ u.heap[gA]? = some (.cells Y 35 (0, 0)) ∧ u.heap[gB]? = some (.cells R 37 (0, 0))) (by kernel_rfl) (hST.1 _ _ HB.out (Kept.refl _).drew) ?_
          refine AvT.take 0 (some 34) rfl rfl (by kernel_rfl) (by kernel_rfl) (by kernel_rfl) (fun _ _ _ h => h) hST (Au.yq_load 37 (.tmp 12) rfl _ rfl (by rfl) (fun u hu => load_pk hu.2.2 sR)) ?_
          simp only [Act.put, List.setIfInBounds_toArray, List.set_cons_zero, List.set_cons_succ]
          refine AvT.take 1 (some 35) (v := ?_) rfl rfl (by kernel_rfl) (by kernel_rfl) (by kernel_rfl) (fun _ _ _ h => h) hST (Au.yq_run (by rfl) (fun u hu => ?_)) ?_
          rotate_left
          · (clear hu; go_simp; try with_reducible rfl)
          simp only [Act.put, List.setIfInBounds_toArray, List.set_cons_zero, List.set_cons_succ]
          refine AvT.take 2 (some 36) (v := .bool true) rfl rfl (by kernel_rfl) (by kernel_rfl) (by kernel_rfl) (fun _ _ _ h => h) hST (Au.yq_run (by rfl) (fun u hu => ?_)) ?_
          · have := he2 u
            clear hu; go_simp
          simp only [Act.put, List.setIfInBounds_toArray, List.set_cons_zero, List.set_cons_succ]
          refine AvT.take 3 (some 37) (v := ?_) rfl rfl (by kernel_rfl) (by kernel_rfl) (by kernel_rfl) (fun _ _ _ h => h) hST (Au.yq_run (by rfl) (fun u hu => ?_)) ?_
          rotate_left
          · (clear hu; go_simp; try with_reducible rfl)
          simp only [Act.put, List.setIfInBounds_toArray, List.set_cons_zero, List.set_cons_succ]
          refine AvT.take 4 (some 38) (v := ?_) rfl rfl (by kernel_rfl) (by kernel_rfl) (by kernel_rfl) (fun _ _ _ h => h) hST (Au.yq_run (by rfl) (fun u hu => ?_)) ?_
          rotate_left
          · (clear hu; go_simp; try with_reducible rfl)
          simp only [Act.put, List.setIfInBounds_toArray, List.set_cons_zero, List.set_cons_succ]
          refine AvT.take 5 (some 39) rfl rfl (by kernel_rfl) (by kernel_rfl) (by kernel_rfl) (fun _ _ _ h => h) hST (Au.yq_load 3 (.tmp 38) rfl _ rfl (by rfl) (fun u hu => run_loadi ((blk_cell hu.2.1 6).trans y6))) ?_
          simp only [Act.put, List.setIfInBounds_toArray, List.set_cons_zero, List.set_cons_succ]
          refine AvT.take 6 (some 40) (v := .bool true) rfl rfl (by kernel_rfl) (by kernel_rfl) (by kernel_rfl) (fun _ _ _ h => h) hST (Au.yq_run (by rfl) (fun u hu => ?_)) ?_
          · (clear hu; go_simp; (try simp_all))
          simp only [Act.put, List.setIfInBounds_toArray, List.set_cons_zero, List.set_cons_succ]
          refine AvT.take 7 (some 41) (v := ?_) rfl rfl (by kernel_rfl) (by kernel_rfl) (by kernel_rfl) (fun _ _ _ h => h) hST (Au.yq_run (by rfl) (fun u hu => ?_)) ?_
          rotate_left
          · (clear hu; go_simp; try with_reducible rfl)
          simp only [Act.put, List.setIfInBounds_toArray, List.set_cons_zero, List.set_cons_succ]
          refine AvT.take 8 (some 42) rfl rfl (by kernel_rfl) (by kernel_rfl) (by kernel_rfl) (fun _ _ _ h => h) hST (Au.yq_skip (by rfl)) ?_
          simp only [Act.put, List.setIfInBounds_toArray, List.set_cons_zero, List.set_cons_succ]
          refine AvT.take 9 (some 43) rfl rfl (by kernel_rfl) (by kernel_rfl) (by kernel_rfl) (fun _ _ _ h => h) hST (Au.yq_skip (by rfl)) ?_
          simp only [Act.put, List.setIfInBounds_toArray, List.set_cons_zero, List.set_cons_succ]
          refine AvT.take 10 (some 44) rfl rfl (by kernel_rfl) (by kernel_rfl) (by kernel_rfl) (fun _ _ _ h => h) hST (Au.yq_skip (by rfl)) ?_
          simp only [Act.put, List.setIfInBounds_toArray, List.set_cons_zero, List.set_cons_succ]
          refine AvT.take 11 (some 45) rfl rfl (by kernel_rfl) (by kernel_rfl) (by kernel_rfl) (fun _ _ _ h => h) hST (Au.yq_skip (by rfl)) ?_
          simp only [Act.put, List.setIfInBounds_toArray, List.set_cons_zero, List.set_cons_succ]
          refine AvT.take 12 (some 46) (v := ?_) rfl rfl (by kernel_rfl) (by kernel_rfl) (by kernel_rfl) (fun _ _ _ h => h) hST (Au.yq_run (by rfl) (fun u hu => ?_)) ?_
          rotate_left
          · (clear hu; go_simp; try with_reducible rfl)
          simp only [Act.put, List.setIfInBounds_toArray, List.set_cons_zero, List.set_cons_succ]
          refine AvT.take 13 (some 47) (v := ?_) rfl rfl (by kernel_rfl) (by kernel_rfl) (by kernel_rfl) (fun _ _ _ h => h) hST (Au.yq_run (by rfl) (fun u hu => ?_)) ?_
          rotate_left
          · (clear hu; go_simp; try with_reducible rfl)
          simp only [Act.put, List.setIfInBounds_toArray, List.set_cons_zero, List.set_cons_succ]
          refine AvT.take 14 (some 48) (v := ?_) rfl rfl (by kernel_rfl) (by kernel_rfl) (by kernel_rfl) (fun _ _ _ h => h) hST (Au.yq_run (by rfl) (fun u hu => ?_)) ?_
          rotate_left
          · (clear hu; go_simp; try with_reducible rfl)
          simp only [Act.put, List.setIfInBounds_toArray, List.set_cons_zero, List.set_cons_succ]
          refine AvT.take 15 (some 49) rfl rfl (by kernel_rfl) (by kernel_rfl) (by kernel_rfl) (fun _ _ _ h => h) hST (Au.yq_call 8 _ (by rfl) (fun u => by go_simp) (fun u hu => HAW.out u hu.1.kept)) ?_
          simp only [Act.put, List.setIfInBounds_toArray, List.set_cons_zero, List.set_cons_succ]
          refine AvT.take 16 (some 50) (v := ?_) rfl rfl (by kernel_rfl) (by kernel_rfl) (by kernel_rfl) (fun _ _ _ h => h) hST (Au.yq_run (by rfl) (fun u hu => ?_)) ?_
          rotate_left
          · (clear hu; go_simp; try with_reducible rfl)
          simp only [Act.put, List.setIfInBounds_toArray, List.set_cons_zero, List.set_cons_succ]
          refine AvT.take 17 (some 10) (v := ?_) rfl rfl (by kernel_rfl) (by kernel_rfl) (by kernel_rfl) (fun _ _ _ h => h) hST (Au.yq_run (by rfl) (fun u hu => ?_)) ?_
          rotate_left
          · (clear hu; go_simp; try with_reducible rfl)
          simp only [Act.put, List.setIfInBounds_toArray, List.set_cons_zero, List.set_cons_succ]
          refine AvT.done (by kernel_rfl) (fun V hV => ?_)
          go_wp2_with fail
          go_ret
          exact ⟨rfl, hV.1.kept⟩
        · have h3b : (y.st == 3) = false := beq_eq_false_iff_ne.2 h3
          have he3 := he1 hyx
          clear he1 hyx h3
          have hST : Stab (fun u => Bl w u [(F, 24), (A, 31), (X, 33)] ∧ u.heap[gA]? = some (.cells Y 35 (0, 0)) ∧ u.heap[gB]? = some (.cells R 37 (0, 0))) ∧ ∀ u, (fun u => Bl w u [(F, 24), (A, 31), (X, 33)] ∧ u.heap[gA]? = some (.cells Y 35 (0, 0)) ∧ u.heap[gB]? = some (.cells R 37 (0, 0))) u → (fun u => Bl w u [(F, 24), (A, 31), (X, 33)] ∧ u.heap[gA]? = some (.cells Y 35 (0, 0)) ∧ u.heap[gB]? = some (.cells R 37 (0, 0))) u := ⟨(stab_and bl_stab (stab_and blk_stab blk_stab)), fun u h => ⟨h.1, h.2.1, h.2.2⟩⟩
          refine AvT.region (fun u => Bl w u [(F, 24), (A, 31), (X, 33)] ∧ u.heap[gA]? = some (.cells Y 35 (0, 0)) ∧ u.heap[gB]? = some (.cells R 37 (0, 0))) (fun u => Bl w u [(F, 24), (A, 31), (X, 33)] ∧ u.heap[gA]? = some (.cells Y 35 (0, 0)) ∧ u.heap[gB]? = some (.cells R 37 (0, 0))) (by kernel_rfl) (hST.1 _ _ HB.out (Kept.refl _).drew) ?_
          refine AvT.take 0 (some 34) rfl rfl (by kernel_rfl) (by kernel_rfl) (by kernel_rfl) (fun _ _ _ h => h) hST (Au.yq_load 37 (.tmp 12) rfl _ rfl (by rfl) (fun u hu => load_pk hu.2.2 sR)) ?_
          simp only [Act.put, List.setIfInBounds_toArray, List.set_cons_zero, List.set_cons_succ]
          refine AvT.take 1 (some 35) (v := ?_) rfl rfl (by kernel_rfl) (by kernel_rfl) (by kernel_rfl) (fun _ _ _ h => h) hST (Au.yq_run (by rfl) (fun u hu => ?_)) ?_
          rotate_left
          · (clear hu; go_simp; try with_reducible rfl)
          simp only [Act.put, List.setIfInBounds_toArray, List.set_cons_zero, List.set_cons_succ]
          refine AvT.take 2 (some 36) (v := .bool true) rfl rfl (by kernel_rfl) (by kernel_rfl) (by kernel_rfl) (fun _ _ _ h => h) hST (Au.yq_run (by rfl) (fun u hu => ?_)) ?_
          · have := he2 u
            clear hu; go_simp
          simp only [Act.put, List.setIfInBounds_toArray, List.set_cons_zero, List.set_cons_succ]
          refine AvT.take 3 (some 37) (v := ?_) rfl rfl (by kernel_rfl) (by kernel_rfl) (by kernel_rfl) (fun _ _ _ h => h) hST (Au.yq_run (by rfl) (fun u hu => ?_)) ?_
          rotate_left
          · (clear hu; go_simp; try with_reducible rfl)
          simp only [Act.put, List.setIfInBounds_toArray, List.set_cons_zero, List.set_cons_succ]
          refine AvT.take 4 (some 38) (v := ?_) rfl rfl (by kernel_rfl) (by kernel_rfl) (by kernel_rfl) (fun _ _ _ h => h) hST (Au.yq_run (by rfl) (fun u hu => ?_)) ?_
          rotate_left
          · (clear hu; go_simp; try with_reducible rfl)
          simp only [Act.put, List.setIfInBounds_toArray, List.set_cons_zero, List.set_cons_succ]
          refine AvT.take 5 (some 39) rfl rfl (by kernel_rfl) (by kernel_rfl) (by kernel_rfl) (fun _ _ _ h => h) hST (Au.yq_load 3 (.tmp 38) rfl _ rfl (by rfl) (fun u hu => run_loadi ((blk_cell hu.2.1 6).trans y6))) ?_
          simp only [Act.put, List.setIfInBounds_toArray, List.set_cons_zero, List.set_cons_succ]
          refine AvT.take 6 (some 40) (v := .bool false) rfl rfl (by kernel_rfl) (by kernel_rfl) (by kernel_rfl) (fun _ _ _ h => h) hST (Au.yq_run (by rfl) (fun u hu => ?_)) ?_
          · (clear hu; go_simp; (try simp_all))
          simp only [Act.put, List.setIfInBounds_toArray, List.set_cons_zero, List.set_cons_succ]
          refine AvT.take 7 (some 41) (v := ?_) rfl rfl (by kernel_rfl) (by kernel_rfl) (by kernel_rfl) (fun _ _ _ h => h) hST (Au.yq_run (by rfl) (fun u hu => ?_)) ?_
          rotate_left
          · (clear hu; go_simp; try with_reducible rfl)
          simp only [Act.put, List.setIfInBounds_toArray, List.set_cons_zero, List.set_cons_succ]
          refine AvT.take 8 (some 42) rfl rfl (by kernel_rfl) (by kernel_rfl) (by kernel_rfl) (fun _ _ _ h => h) hST (Au.yq_load 35 (.tmp 11) rfl _ rfl (by rfl) (fun u hu => load_cl hu.2.1 sY)) ?_
          simp only [Act.put, List.setIfInBounds_toArray, List.set_cons_zero, List.set_cons_succ]
          refine AvT.take 9 (some 43) rfl rfl (by kernel_rfl) (by kernel_rfl) (by kernel_rfl) (fun _ _ _ h => h) hST (Au.yq_call 13 _ (by rfl) (fun u => by go_simp) (fun u hu => CT.out u)) ?_
          simp only [Act.put, List.setIfInBounds_toArray, List.set_cons_zero, List.set_cons_succ]
          refine AvT.take 10 (some 44) rfl rfl (by kernel_rfl) (by kernel_rfl) (by kernel_rfl) (fun _ _ _ h => h) hST (Au.yq_load 33 (.tmp 8) rfl _ rfl (by rfl) (fun u hu => load_rcl (hu.1.blk 2 rfl) sX)) ?_
          simp only [Act.put, List.setIfInBounds_toArray, List.set_cons_zero, List.set_cons_succ]
          refine AvT.take 11 (some 45) (v := .bool true) rfl rfl (by kernel_rfl) (by kernel_rfl) (by kernel_rfl) (fun _ _ _ h => h) hST (Au.yq_run (by rfl) (fun u hu => ?_)) ?_
          · have := he3 u
            clear hu; go_simp
          simp only [Act.put, List.setIfInBounds_toArray, List.set_cons_zero, List.set_cons_succ]
          refine AvT.take 12 (some 46) (v := ?_) rfl rfl (by kernel_rfl) (by kernel_rfl) (by kernel_rfl) (fun _ _ _ h => h) hST (Au.yq_run (by rfl) (fun u hu => ?_)) ?_
          rotate_left
          · (clear hu; go_simp; try with_reducible rfl)
          simp only [Act.put, List.setIfInBounds_toArray, List.set_cons_zero, List.set_cons_succ]
          refine AvT.take 13 (some 47) (v := ?_) rfl rfl (by kernel_rfl) (by kernel_rfl) (by kernel_rfl) (fun _ _ _ h => h) hST (Au.yq_run (by rfl) (fun u hu => ?_)) ?_
          rotate_left
          · (clear hu; go_simp; try with_reducible rfl)
          simp only [Act.put, List.setIfInBounds_toArray, List.set_cons_zero, List.set_cons_succ]
          refine AvT.take 14 (some 48) (v := ?_) rfl rfl (by kernel_rfl) (by kernel_rfl) (by kernel_rfl) (fun _ _ _ h => h) hST (Au.yq_run (by rfl) (fun u hu => ?_)) ?_
          rotate_left
          · (clear hu; go_simp; try with_reducible rfl)
          simp only [Act.put, List.setIfInBounds_toArray, List.set_cons_zero, List.set_cons_succ]
          refine AvT.take 15 (some 49) rfl rfl (by kernel_rfl) (by kernel_rfl) (by kernel_rfl) (fun _ _ _ h => h) hST (Au.yq_call 8 _ (by rfl) (fun u => by go_simp) (fun u hu => HAW.out u hu.1.kept)) ?_
          simp only [Act.put, List.setIfInBounds_toArray, List.set_cons_zero, List.set_cons_succ]
          refine AvT.take 16 (some 50) (v := ?_) rfl rfl (by kernel_rfl) (by kernel_rfl) (by kernel_rfl) (fun _ _ _ h => h) hST (Au.yq_run (by rfl) (fun u hu => ?_)) ?_
          rotate_left
          · (clear hu; go_simp; try with_reducible rfl)
          simp only [Act.put, List.setIfInBounds_toArray, List.set_cons_zero, List.set_cons_succ]
          refine AvT.take 17 (some 10) (v := ?_) rfl rfl (by kernel_rfl) (by kernel_rfl) (by kernel_rfl) (fun _ _ _ h => h) hST (Au.yq_run (by rfl) (fun u hu => ?_)) ?_
          rotate_left
          · (clear hu; go_simp; try with_reducible rfl)
          simp only [Act.put, List.setIfInBounds_toArray, List.set_cons_zero, List.set_cons_succ]
          refine AvT.done (by kernel_rfl) (fun V hV => ?_)
          go_wp2_with fail
          go_ret
          exact ⟨rfl, hV.1.kept⟩
      · rw [hk1] at k0
        rw [hk1] at r0
        rw [hhop] at r7 hhops
        rw [htil] at r10
        rw [hd] at CD
        rw [hst1] at y6
        rw [hatt] at y5
        obtain ⟨z4, hz4⟩ : ∃ z, wrap64 (o.hp + 1) = z := ⟨_, rfl⟩
        rw [hz4] at r7 hhops
        obtain ⟨z5, hz5⟩ : ∃ z, x.att + 1 = z := ⟨_, rfl⟩
        have hw5 : wrap64 (x.att + 1) = z5 := (IntWalk.wrap64_in _ (by have := ha.1; omega)).trans hz5
        rw [hz5] at y5
        obtain ⟨z1, hz1⟩ : ∃ z, Tk.clamp o.un = z := ⟨_, rfl⟩
        obtain ⟨z2, hz2⟩ : ∃ z, Tk.clamp o.dl = z := ⟨_, rfl⟩
        obtain ⟨z3, hz3⟩ : ∃ z, Tk.clamp now = z := ⟨_, rfl⟩
        obtain ⟨lf, hlf⟩ : ∃ z, Tk.sub o.dl now = z := ⟨_, rfl⟩
        rw [hz1] at r10
        rw [hz2] at hd1 hd2
        rw [hz3] at hd3
        rw [hlf] at hd2
        have K1 := Lib.hid (show ∀ u, Calls Tryd.prog 30 #[.int .i64 o.un] u fun e w' => e = .returned (.int .i64 z1) ∧ Kept u w' from fun u => by rw [← hz1]; exact (Tk.rclamp_any _ u).mono fun e w' h => ⟨h.1, h.2 ▸ Kept.refl _⟩)
        have K2 := Lib.hid (show ∀ u, Calls Tryd.prog 30 #[.int .i64 o.dl] u fun e w' => e = .returned (.int .i64 z2) ∧ u = w' from fun u => by rw [← hz2]; exact Tk.rclamp_any _ u)
        have K3 := Lib.hid (show ∀ u, Calls Tryd.prog 30 #[.int .i64 now] u fun e w' => e = .returned (.int .i64 z3) ∧ u = w' from fun u => by rw [← hz3]; exact Tk.rclamp_any _ u)
        have K4 := Lib.hid (show ∀ u, Calls Tryd.prog 29 #[.int .i64 o.dl, .int .i64 now] u fun e w' => e = .returned (.int .i64 lf) ∧ Kept u w' from fun u => by rw [← hlf]; exact (Tk.rsub_any _ _ u).mono fun e w' h => ⟨h.1, h.2 ▸ Kept.refl _⟩)
        have hh9 : decide (cf.hops < z4) = false := decide_eq_false hhops
        have hz4b : wrap64 (o.hp + 1) = z4 := hz4
        clear HYX hk1 hst1 hatt hlt5 hhop htil hd hz1 hz2 hz3 hlf hz5 hz4 hhops
        go_upto_region 6 with fail
        clear k0
        have hST : Stab (fun u => Bl w u [(F, 24), (A, 31), (X, 33)] ∧ u.heap[gA]? = some (.cells Y 35 (0, 0)) ∧ u.heap[gB]? = some (.cells R 37 (0, 0))) ∧ ∀ u, (fun u => Bl w u [(F, 24), (A, 31), (X, 33)] ∧ u.heap[gA]? = some (.cells Y 35 (0, 0)) ∧ u.heap[gB]? = some (.cells R 37 (0, 0))) u → (fun u => Bl w u [(F, 24), (A, 31), (X, 33)] ∧ u.heap[gA]? = some (.cells Y 35 (0, 0)) ∧ u.heap[gB]? = some (.cells R 37 (0, 0))) u := ⟨(stab_and bl_stab (stab_and blk_stab blk_stab)), fun u h => ⟨h.1, h.2.1, h.2.2⟩⟩
        refine AvT.region (fun u => Bl w u [(F, 24), (A, 31), (X, 33)] ∧ u.heap[gA]? = some (.cells Y 35 (0, 0)) ∧ u.heap[gB]? = some (.cells R 37 (0, 0))) (fun u => Bl w u [(F, 24), (A, 31), (X, 33)] ∧ u.heap[gA]? = some (.cells Y 35 (0, 0)) ∧ u.heap[gB]? = some (.cells R 37 (0, 0))) (by kernel_rfl) (hST.1 _ _ HB.out (Kept.refl _).drew) ?_
        refine AvT.take 0 (some 51) rfl rfl (by kernel_rfl) (by kernel_rfl) (by kernel_rfl) (fun _ _ _ h => h) hST (Au.yq_load 37 (.tmp 12) rfl _ rfl (by rfl) (fun u hu => load_pk hu.2.2 sR)) ?_
        simp only [Act.put, List.setIfInBounds_toArray, List.set_cons_zero, List.set_cons_succ]
        refine AvT.take 1 (some 52) rfl rfl (by kernel_rfl) (by kernel_rfl) (by kernel_rfl) (fun _ _ _ h => h) hST (Au.yq_call 28 _ (by rfl) (fun u => by go_simp) (fun u hu => CD.out u)) ?_
        simp only [Act.put, List.setIfInBounds_toArray, List.set_cons_zero, List.set_cons_succ]
        refine AvT.take 2 (some 53) (v := ?_) rfl rfl (by kernel_rfl) (by kernel_rfl) (by kernel_rfl) (fun _ _ _ h => h) hST (Au.yq_run (by rfl) (fun u hu => ?_)) ?_
        rotate_left
        · (clear hu; go_simp; try with_reducible rfl)
        simp only [Act.put, List.setIfInBounds_toArray, List.set_cons_zero, List.set_cons_succ]
        refine AvT.take 3 (some 54) rfl rfl (by kernel_rfl) (by kernel_rfl) (by kernel_rfl) (fun _ _ _ h => h) hST (Au.yq_load 3 (.tmp 53) rfl _ rfl (by rfl) (fun u hu => run_loadi ((hu.1.cell 1 13 rfl).trans a13))) ?_
        simp only [Act.put, List.setIfInBounds_toArray, List.set_cons_zero, List.set_cons_succ]
        refine AvT.take 4 (some 55) (v := ?_) rfl rfl (by kernel_rfl) (by kernel_rfl) (by kernel_rfl) (fun _ _ _ h => h) hST (Au.yq_run (by rfl) (fun u hu => ?_)) ?_
        rotate_left
        · (clear hu; go_simp; try with_reducible rfl)
        simp only [Act.put, List.setIfInBounds_toArray, List.set_cons_zero, List.set_cons_succ]
        refine AvT.take 5 (some 56) rfl rfl (by kernel_rfl) (by kernel_rfl) (by kernel_rfl) (fun _ _ _ h => h) hST (Au.yq_call 29 _ (by rfl) (fun u => by go_simp) (fun u hu => K4.out u)) ?_
        simp only [Act.put, List.setIfInBounds_toArray, List.set_cons_zero, List.set_cons_succ]
        refine AvT.take 6 (some 13) (v := ?_) rfl rfl (by kernel_rfl) (by kernel_rfl) (by kernel_rfl) (fun _ _ _ h => h) hST (Au.yq_run (by rfl) (fun u hu => ?_)) ?_
        rotate_left
        · (clear hu; go_simp; try with_reducible rfl)
        simp only [Act.put, List.setIfInBounds_toArray, List.set_cons_zero, List.set_cons_succ]
        refine AvT.take 7 (some 14) (v := ?_) rfl rfl (by kernel_rfl) (by kernel_rfl) (by kernel_rfl) (fun _ _ _ h => h) hST (Au.yq_run (by rfl) (fun u hu => ?_)) ?_
        rotate_left
        · (clear hu; go_simp; try with_reducible rfl)
        simp only [Act.put, List.setIfInBounds_toArray, List.set_cons_zero, List.set_cons_succ]
        refine AvT.done (by kernel_rfl) (fun V6 hV6 => ?_)
        have HB6 := Lib.hid hV6
        clear hV6 hST HB
        go_upto_region 7 with fail
        go_cut [95] (fun tt wx => tt = .bool false ∧ Hid (Bl w wx [(F, 24), (A, 31), (X, 33)]))
        case first =>
          have hST : Stab (fun u => Bl w u [(F, 24), (A, 31), (X, 33)] ∧ u.heap[gA]? = some (.cells Y 35 (0, 0)) ∧ u.heap[gB]? = some (.cells R 37 (0, 0))) ∧ ∀ u, (fun u => Bl w u [(F, 24), (A, 31), (X, 33)] ∧ u.heap[gA]? = some (.cells Y 35 (0, 0)) ∧ u.heap[gB]? = some (.cells R 37 (0, 0))) u → (fun u => Bl w u [(F, 24), (A, 31), (X, 33)] ∧ u.heap[gA]? = some (.cells Y 35 (0, 0)) ∧ u.heap[gB]? = some (.cells R 37 (0, 0))) u := ⟨(stab_and bl_stab (stab_and blk_stab blk_stab)), fun u h => ⟨h.1, h.2.1, h.2.2⟩⟩
          refine AvT.region (fun u => Bl w u [(F, 24), (A, 31), (X, 33)] ∧ u.heap[gA]? = some (.cells Y 35 (0, 0)) ∧ u.heap[gB]? = some (.cells R 37 (0, 0))) (fun u => Bl w u [(F, 24), (A, 31), (X, 33)] ∧ u.heap[gA]? = some (.cells Y 35 (0, 0)) ∧ u.heap[gB]? = some (.cells R 37 (0, 0))) (by kernel_rfl) (hST.1 _ _ HB6.out (Kept.refl _).drew) ?_
          refine AvT.take 0 (some 57) (v := ?_) rfl rfl (by kernel_rfl) (by kernel_rfl) (by kernel_rfl) (fun _ _ _ h => h) hST (Au.yq_run (by rfl) (fun u hu => ?_)) ?_
          rotate_left
          · (clear hu; go_simp; try with_reducible rfl)
          simp only [Act.put, List.setIfInBounds_toArray, List.set_cons_zero, List.set_cons_succ]
          refine AvT.take 1 (some 58) rfl rfl (by kernel_rfl) (by kernel_rfl) (by kernel_rfl) (fun _ _ _ h => h) hST (Au.yq_load 3 (.tmp 57) rfl _ rfl (by rfl) (fun u hu => run_loadi ((blk_cell hu.2.2 0).trans r0))) ?_
          simp only [Act.put, List.setIfInBounds_toArray, List.set_cons_zero, List.set_cons_succ]
          refine AvT.take 2 (some 59) (v := .bool false) rfl rfl (by kernel_rfl) (by kernel_rfl) (by kernel_rfl) (fun _ _ _ h => h) hST (Au.yq_run (by rfl) (fun u hu => ?_)) ?_
          · (clear hu; go_simp; (try simp_all))
          simp only [Act.put, List.setIfInBounds_toArray, List.set_cons_zero, List.set_cons_succ]
          refine AvT.take 3 (some 60) (v := ?_) rfl rfl (by kernel_rfl) (by kernel_rfl) (by kernel_rfl) (fun _ _ _ h => h) hST (Au.yq_run (by rfl) (fun u hu => ?_)) ?_
          rotate_left
          · (clear hu; go_simp; try with_reducible rfl)
          simp only [Act.put, List.setIfInBounds_toArray, List.set_cons_zero, List.set_cons_succ]
          refine AvT.take 4 (some 61) (v := ?_) rfl rfl (by kernel_rfl) (by kernel_rfl) (by kernel_rfl) (fun _ _ _ h => h) hST (Au.yq_run (by rfl) (fun u hu => ?_)) ?_
          rotate_left
          · (clear hu; go_simp; try with_reducible rfl)
          simp only [Act.put, List.setIfInBounds_toArray, List.set_cons_zero, List.set_cons_succ]
          refine AvT.take 5 (some 62) rfl rfl (by kernel_rfl) (by kernel_rfl) (by kernel_rfl) (fun _ _ _ h => h) hST (Au.yq_load 3 (.tmp 61) rfl _ rfl (by rfl) (fun u hu => run_loadi ((blk_cell hu.2.1 6).trans y6))) ?_
          simp only [Act.put, List.setIfInBounds_toArray, List.set_cons_zero, List.set_cons_succ]
          refine AvT.take 6 (some 63) (v := .bool false) rfl rfl (by kernel_rfl) (by kernel_rfl) (by kernel_rfl) (fun _ _ _ h => h) hST (Au.yq_run (by rfl) (fun u hu => ?_)) ?_
          · (clear hu; go_simp; (try simp_all))
          simp only [Act.put, List.setIfInBounds_toArray, List.set_cons_zero, List.set_cons_succ]
          refine AvT.take 7 (some 64) (v := ?_) rfl rfl (by kernel_rfl) (by kernel_rfl) (by kernel_rfl) (fun _ _ _ h => h) hST (Au.yq_run (by rfl) (fun u hu => ?_)) ?_
          rotate_left
          · (clear hu; go_simp; try with_reducible rfl)
          simp only [Act.put, List.setIfInBounds_toArray, List.set_cons_zero, List.set_cons_succ]
          refine AvT.take 8 (some 65) (v := ?_) rfl rfl (by kernel_rfl) (by kernel_rfl) (by kernel_rfl) (fun _ _ _ h => h) hST (Au.yq_run (by rfl) (fun u hu => ?_)) ?_
          rotate_left
          · (clear hu; go_simp; try with_reducible rfl)
          simp only [Act.put, List.setIfInBounds_toArray, List.set_cons_zero, List.set_cons_succ]
          refine AvT.take 9 (some 66) (v := ?_) rfl rfl (by kernel_rfl) (by kernel_rfl) (by kernel_rfl) (fun _ _ _ h => h) hST (Au.yq_run (by rfl) (fun u hu => ?_)) ?_
          rotate_left
          · (clear hu; go_simp; try with_reducible rfl)
          simp only [Act.put, List.setIfInBounds_toArray, List.set_cons_zero, List.set_cons_succ]
          refine AvT.take 10 (some 67) rfl rfl (by kernel_rfl) (by kernel_rfl) (by kernel_rfl) (fun _ _ _ h => h) hST (Au.yq_load 3 (.tmp 66) rfl _ rfl (by rfl) (fun u hu => run_loadi ((blk_cell hu.2.1 5).trans y5))) ?_
          simp only [Act.put, List.setIfInBounds_toArray, List.set_cons_zero, List.set_cons_succ]
          refine AvT.take 11 (some 68) (v := ?_) rfl rfl (by kernel_rfl) (by kernel_rfl) (by kernel_rfl) (fun _ _ _ h => h) hST (Au.yq_run (by rfl) (fun u hu => ?_)) ?_
          rotate_left
          · (clear hu; go_simp; try with_reducible rfl)
          simp only [Act.put, List.setIfInBounds_toArray, List.set_cons_zero, List.set_cons_succ]
          refine AvT.take 12 (some 69) rfl rfl (by kernel_rfl) (by kernel_rfl) (by kernel_rfl) (fun _ _ _ h => h) hST (Au.yq_load 3 (.tmp 68) rfl _ rfl (by rfl) (fun u hu => run_loadi ((hu.1.cell 2 5 rfl).trans x5))) ?_
          simp only [Act.put, List.setIfInBounds_toArray, List.set_cons_zero, List.set_cons_succ]
          refine AvT.take 13 (some 70) (v := .int .i64 z5) rfl rfl (by kernel_rfl) (by kernel_rfl) (by kernel_rfl) (fun _ _ _ h => h) hST (Au.yq_run (by rfl) (fun u hu => ?_)) ?_
          · (clear hu; go_simp; (try simp only [IntWalk.i64_left]); (try exact hw5))
          simp only [Act.put, List.setIfInBounds_toArray, List.set_cons_zero, List.set_cons_succ]
          refine AvT.take 14 (some 71) (v := .bool false) rfl rfl (by kernel_rfl) (by kernel_rfl) (by kernel_rfl) (fun _ _ _ h => h) hST (Au.yq_run (by rfl) (fun u hu => ?_)) ?_
          · (clear hu; go_simp; (try simp_all))
          simp only [Act.put, List.setIfInBounds_toArray, List.set_cons_zero, List.set_cons_succ]
          refine AvT.take 15 (some 72) (v := ?_) rfl rfl (by kernel_rfl) (by kernel_rfl) (by kernel_rfl) (fun _ _ _ h => h) hST (Au.yq_run (by rfl) (fun u hu => ?_)) ?_
          rotate_left
          · (clear hu; go_simp; try with_reducible rfl)
          simp only [Act.put, List.setIfInBounds_toArray, List.set_cons_zero, List.set_cons_succ]
          refine AvT.take 16 (some 73) (v := ?_) rfl rfl (by kernel_rfl) (by kernel_rfl) (by kernel_rfl) (fun _ _ _ h => h) hST (Au.yq_run (by rfl) (fun u hu => ?_)) ?_
          rotate_left
          · (clear hu; go_simp; try with_reducible rfl)
          simp only [Act.put, List.setIfInBounds_toArray, List.set_cons_zero, List.set_cons_succ]
          refine AvT.take 17 (some 74) (v := ?_) rfl rfl (by kernel_rfl) (by kernel_rfl) (by kernel_rfl) (fun _ _ _ h => h) hST (Au.yq_run (by rfl) (fun u hu => ?_)) ?_
          rotate_left
          · (clear hu; go_simp; try with_reducible rfl)
          simp only [Act.put, List.setIfInBounds_toArray, List.set_cons_zero, List.set_cons_succ]
          refine AvT.take 18 (some 75) rfl rfl (by kernel_rfl) (by kernel_rfl) (by kernel_rfl) (fun _ _ _ h => h) hST (Au.yq_load 3 (.tmp 74) rfl _ rfl (by rfl) (fun u hu => run_loadi ((blk_cell hu.2.2 7).trans r7))) ?_
          simp only [Act.put, List.setIfInBounds_toArray, List.set_cons_zero, List.set_cons_succ]
          refine AvT.take 19 (some 76) (v := ?_) rfl rfl (by kernel_rfl) (by kernel_rfl) (by kernel_rfl) (fun _ _ _ h => h) hST (Au.yq_run (by rfl) (fun u hu => ?_)) ?_
          rotate_left
          · (clear hu; go_simp; try with_reducible rfl)
          simp only [Act.put, List.setIfInBounds_toArray, List.set_cons_zero, List.set_cons_succ]
          refine AvT.take 20 (some 77) rfl rfl (by kernel_rfl) (by kernel_rfl) (by kernel_rfl) (fun _ _ _ h => h) hST (Au.yq_load 3 (.tmp 76) rfl _ rfl (by rfl) (fun u hu => run_loadi ((hu.1.cell 1 12 rfl).trans a12))) ?_
          simp only [Act.put, List.setIfInBounds_toArray, List.set_cons_zero, List.set_cons_succ]
          refine AvT.take 21 (some 78) (v := .int .i64 z4) rfl rfl (by kernel_rfl) (by kernel_rfl) (by kernel_rfl) (fun _ _ _ h => h) hST (Au.yq_run (by rfl) (fun u hu => ?_)) ?_
          · (clear hu; go_simp; (try simp only [IntWalk.i64_left]); (try exact hz4b))
          simp only [Act.put, List.setIfInBounds_toArray, List.set_cons_zero, List.set_cons_succ]
          refine AvT.take 22 (some 79) (v := .bool false) rfl rfl (by kernel_rfl) (by kernel_rfl) (by kernel_rfl) (fun _ _ _ h => h) hST (Au.yq_run (by rfl) (fun u hu => ?_)) ?_
          · (clear hu; go_simp; (try simp_all))
          simp only [Act.put, List.setIfInBounds_toArray, List.set_cons_zero, List.set_cons_succ]
          refine AvT.take 23 (some 80) (v := ?_) rfl rfl (by kernel_rfl) (by kernel_rfl) (by kernel_rfl) (fun _ _ _ h => h) hST (Au.yq_run (by rfl) (fun u hu => ?_)) ?_
          rotate_left
          · (clear hu; go_simp; try with_reducible rfl)
          simp only [Act.put, List.setIfInBounds_toArray, List.set_cons_zero, List.set_cons_succ]
          refine AvT.take 24 (some 81) (v := ?_) rfl rfl (by kernel_rfl) (by kernel_rfl) (by kernel_rfl) (fun _ _ _ h => h) hST (Au.yq_run (by rfl) (fun u hu => ?_)) ?_
          rotate_left
          · (clear hu; go_simp; try with_reducible rfl)
          simp only [Act.put, List.setIfInBounds_toArray, List.set_cons_zero, List.set_cons_succ]
          refine AvT.take 25 (some 82) (v := ?_) rfl rfl (by kernel_rfl) (by kernel_rfl) (by kernel_rfl) (fun _ _ _ h => h) hST (Au.yq_run (by rfl) (fun u hu => ?_)) ?_
          rotate_left
          · (clear hu; go_simp; try with_reducible rfl)
          simp only [Act.put, List.setIfInBounds_toArray, List.set_cons_zero, List.set_cons_succ]
          refine AvT.take 26 (some 83) rfl rfl (by kernel_rfl) (by kernel_rfl) (by kernel_rfl) (fun _ _ _ h => h) hST (Au.yq_load 3 (.tmp 82) rfl _ rfl (by rfl) (fun u hu => run_loadi ((blk_cell hu.2.2 7).trans r7))) ?_
          simp only [Act.put, List.setIfInBounds_toArray, List.set_cons_zero, List.set_cons_succ]
          refine AvT.take 27 (some 84) (v := ?_) rfl rfl (by kernel_rfl) (by kernel_rfl) (by kernel_rfl) (fun _ _ _ h => h) hST (Au.yq_run (by rfl) (fun u hu => ?_)) ?_
          rotate_left
          · (clear hu; go_simp; try with_reducible rfl)
          simp only [Act.put, List.setIfInBounds_toArray, List.set_cons_zero, List.set_cons_succ]
          refine AvT.take 28 (some 85) rfl rfl (by kernel_rfl) (by kernel_rfl) (by kernel_rfl) (fun _ _ _ h => h) hST (Au.yq_load 3 (.tmp 84) rfl _ rfl (by rfl) (fun u hu => run_loadi ((hu.1.cell 0 5 rfl).trans f5))) ?_
          simp only [Act.put, List.setIfInBounds_toArray, List.set_cons_zero, List.set_cons_succ]
          refine AvT.take 29 (some 86) (v := .bool false) rfl rfl (by kernel_rfl) (by kernel_rfl) (by kernel_rfl) (fun _ _ _ h => h) hST (Au.yq_run (by rfl) (fun u hu => ?_)) ?_
          · (clear hu; go_simp; (try simp_all))
          simp only [Act.put, List.setIfInBounds_toArray, List.set_cons_zero, List.set_cons_succ]
          refine AvT.take 30 (some 87) (v := ?_) rfl rfl (by kernel_rfl) (by kernel_rfl) (by kernel_rfl) (fun _ _ _ h => h) hST (Au.yq_run (by rfl) (fun u hu => ?_)) ?_
          rotate_left
          · (clear hu; go_simp; try with_reducible rfl)
          simp only [Act.put, List.setIfInBounds_toArray, List.set_cons_zero, List.set_cons_succ]
          refine AvT.take 31 (some 88) (v := ?_) rfl rfl (by kernel_rfl) (by kernel_rfl) (by kernel_rfl) (fun _ _ _ h => h) hST (Au.yq_run (by rfl) (fun u hu => ?_)) ?_
          rotate_left
          · (clear hu; go_simp; try with_reducible rfl)
          simp only [Act.put, List.setIfInBounds_toArray, List.set_cons_zero, List.set_cons_succ]
          refine AvT.take 32 (some 89) (v := ?_) rfl rfl (by kernel_rfl) (by kernel_rfl) (by kernel_rfl) (fun _ _ _ h => h) hST (Au.yq_run (by rfl) (fun u hu => ?_)) ?_
          rotate_left
          · (clear hu; go_simp; try with_reducible rfl)
          simp only [Act.put, List.setIfInBounds_toArray, List.set_cons_zero, List.set_cons_succ]
          refine AvT.take 33 (some 90) rfl rfl (by kernel_rfl) (by kernel_rfl) (by kernel_rfl) (fun _ _ _ h => h) hST (Au.yq_load 3 (.tmp 89) rfl _ rfl (by rfl) (fun u hu => run_loadi ((blk_cell hu.2.2 10).trans r10))) ?_
          simp only [Act.put, List.setIfInBounds_toArray, List.set_cons_zero, List.set_cons_succ]
          refine AvT.take 34 (some 91) (v := ?_) rfl rfl (by kernel_rfl) (by kernel_rfl) (by kernel_rfl) (fun _ _ _ h => h) hST (Au.yq_run (by rfl) (fun u hu => ?_)) ?_
          rotate_left
          · (clear hu; go_simp; try with_reducible rfl)
          simp only [Act.put, List.setIfInBounds_toArray, List.set_cons_zero, List.set_cons_succ]
          refine AvT.take 35 (some 92) rfl rfl (by kernel_rfl) (by kernel_rfl) (by kernel_rfl) (fun _ _ _ h => h) hST (Au.yq_load 3 (.tmp 91) rfl _ rfl (by rfl) (fun u hu => run_loadi ((hu.1.cell 1 14 rfl).trans a14))) ?_
          simp only [Act.put, List.setIfInBounds_toArray, List.set_cons_zero, List.set_cons_succ]
          refine AvT.take 36 (some 93) rfl rfl (by kernel_rfl) (by kernel_rfl) (by kernel_rfl) (fun _ _ _ h => h) hST (Au.yq_call 30 _ (by rfl) (fun u => by go_simp) (fun u hu => K1.out u)) ?_
          simp only [Act.put, List.setIfInBounds_toArray, List.set_cons_zero, List.set_cons_succ]
          refine AvT.take 37 (some 94) (v := .bool false) rfl rfl (by kernel_rfl) (by kernel_rfl) (by kernel_rfl) (fun _ _ _ h => h) hST (Au.yq_run (by rfl) (fun u hu => ?_)) ?_
          · (clear hu; go_simp; (try simp_all))
          simp only [Act.put, List.setIfInBounds_toArray, List.set_cons_zero, List.set_cons_succ]
          refine AvT.take 38 (some 95) (v := ?_) rfl rfl (by kernel_rfl) (by kernel_rfl) (by kernel_rfl) (fun _ _ _ h => h) hST (Au.yq_run (by rfl) (fun u hu => ?_)) ?_
          rotate_left
          · (clear hu; go_simp; try with_reducible rfl)
          simp only [Act.put, List.setIfInBounds_toArray, List.set_cons_zero, List.set_cons_succ]
          refine AvT.done (by kernel_rfl) (fun V7 hV7 => ?_)
          go_wp2_with fail
          go_meet
          exact ⟨rfl, Lib.hid hV7.1⟩
        case rest =>
          obtain ⟨rfl, HB7⟩ := hcut
          have w13 : wc.cell? ⟨w.heap.size + 1, 13, none⟩ = some (.int .i64 o.dl) := (HB7.out.cell 1 13 rfl).trans a13
          have t1 : decide (d ≤ z2) = true := decide_eq_true hd1
          have t3 : decide (z3 < d) = true := decide_eq_true hd3
          clear r0 r7 r10 y5 y6 x5 f5 a12 a14 HB6 hw5 hz4b hh9
          rcases hd2 with h9 | h9
          · have t2 : decide (99999999 < lf) = true := decide_eq_true h9
            go_wp2_with (first
              | (go_at_call 8; refine (HAW.out _ HB7.out.kept).mono ?_; rintro e w9 ⟨rfl, k9⟩)
              | (go_at_call 30; refine (K3.out _).mono ?_; rintro e w8 ⟨rfl, rfl⟩)
              | (go_at_call 30; refine (K2.out _).mono ?_; rintro e w8 ⟨rfl, rfl⟩))
            go_ret
            exact ⟨rfl, HB7.out.kept.trans k9⟩
          · subst h9
            by_cases h8 : 99999999 < lf
            · have t2 : decide (99999999 < lf) = true := decide_eq_true h8
              go_wp2_with (first
                | (go_at_call 8; refine (HAW.out _ HB7.out.kept).mono ?_; rintro e w9 ⟨rfl, k9⟩)
                | (go_at_call 30; refine (K3.out _).mono ?_; rintro e w8 ⟨rfl, rfl⟩)
                | (go_at_call 30; refine (K2.out _).mono ?_; rintro e w8 ⟨rfl, rfl⟩))
              go_ret
              exact ⟨rfl, HB7.out.kept.trans k9⟩
            · have t2 : decide (99999999 < lf) = false := decide_eq_false h8
              go_wp2_with (first
                | (go_at_call 8; refine (HAW.out _ HB7.out.kept).mono ?_; rintro e w9 ⟨rfl, k9⟩)
                | (go_at_call 30; refine (K3.out _).mono ?_; rintro e w8 ⟨rfl, rfl⟩)
                | (go_at_call 30; refine (K2.out _).mono ?_; rintro e w8 ⟨rfl, rfl⟩))
              go_ret
              exact ⟨rfl, HB7.out.kept.trans k9⟩
  · have HB := Lib.hid hb
    have e1 : 30 < (N : Int) := by omega
    clear hv ht hb hW hF hA hX hN x12
    go_enter Tryd.func6, Tryd.ntmps6
    go_upto_region 1 with fail
    rw [HW.out]
    go_wp2_with (go_at_call 8; refine (HAW.out _ HB.out.kept).mono ?_; rintro e w' ⟨rfl, hk⟩)
    go_ret
    exact ⟨rfl, HB.out.kept.trans hk⟩

end Go.Proofs.YtncdiggejofbbaaDoor.Sn
