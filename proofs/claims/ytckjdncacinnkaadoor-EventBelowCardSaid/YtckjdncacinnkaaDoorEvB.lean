/- The laws of events: EventBelow. -/
import Derived.Test.YtckjdncacinnkaaDoorEvL
namespace Go.Proofs.YtckjdncacinnkaaDoor.Ev
open Go.RowKit Go.Sort Go.Shelf IdM Se EvM Blk It
open St (Kept blk_cell blk_free blk_lt blk_set blk_new ret_str size_list)
open Go.Proofs.YtckjdncacinnkaaDoor.Rv
open Go.Proofs.YtckjdncacinnkaaDoor.Ls
open Go.Proofs.YtckjdncacinnkaaDoor.Ad (load_l store_new)
open Go.Proofs.YtckjdncacinnkaaDoor.Tb (Lk kr_lk lk_load Kr encK enc_key lk_take same_any)
open Au (Stab stab_kept stab_and)
set_option linter.unusedVariables false
set_option linter.unusedSimpArgs false
set_option maxRecDepth 20000

/-- the first so many of a row -/
theorem le_cut {u : World} {b off N cap : Nat} {L : List Ev} (h : Le u (.slice (some ⟨b, off, none⟩) N cap) L) (hN : L.length = N) {i : Nat} (hi : i ≤ N) : Le u (.slice (some ⟨b, off, none⟩) i cap) (L.take i) := by
  by_cases h0 : i = 0
  · subst h0; exact .inl ⟨rfl, _, _, rfl⟩
  · have hl : (L.take i).length = i := by rw [List.length_take]; omega
    rcases h with ⟨e, _⟩ | ⟨_, hm, b', off', cap', e, hb, hc⟩
    · rw [e] at hN; simp at hN; omega
    · injection e with e1 e2 e3
      injection e1 with e1
      injection e1 with e4 e5
      subst e3; subst e4; subst e5
      refine .inr ⟨fun c => by rw [c] at hl; simp at hl; omega, by rw [hl]; omega, b, off, cap, by rw [hl], hb, fun j o hj m x hx => hc j o ?_ m x hx⟩
      rw [List.getElem?_take] at hj
      split at hj
      · exact hj
      · cases hj

/-- whatever is read, where no guard stands -/
theorem load_p {P : Program} {ops : Array Oper} {rest : List Oper} {o : Oper} {a : Act} {w : World} {Q : Exit → Act → World → Prop} (hgd : o.guard = none) (ty : TypeId) (x : Operand) (ho : o.op = .load ty x) (p : Addr) (hx : a.eval x = .pointer (some p)) (v : Value)
    (hl : (loadVar ty p).run P w = .ok v w) (h : wpList P ops Q rest (a.put o.dst v) w) : wpList P ops Q (o :: rest) a w :=
  wpList_plain hgd fun K hK => by
    unfold Oper.wp execOp
    simp only [ho, hx, Instr.loadAt, Instr.sureAddr, Sem.run_bind, Sem.run_pure, Result.andThen_ok, hl]
    exact hK _ _ h

set_option maxHeartbeats 8000000 in
theorem below_law {w : World} {v : Value} {L : List Ev} (hv : Le w v L) (hcap : ∀ p n c, v = .slice p n c → n ≤ c) (hL : ∀ e ∈ L, okE e) (k : Ke) (hk : okK k) (ht : Tab w) :
    Calls Tryd.prog 5 #[v, kv k] w fun e w' => e = .returned (.bool true) ∧ Kept w w' := by
  obtain ⟨q, N, cap, rfl, hN, hm⟩ := hv.slice
  have hNc : N ≤ cap := hcap _ _ _ rfl
  obtain ⟨W, hW⟩ : ∃ W, w.alloc (.cells #[.int .i64 k.n, .int .i64 k.i, .int .i64 k.s, .int .i64 k.a] 26) = W := ⟨_, rfl⟩
  have hB : Bl w W [(#[.int .i64 k.n, .int .i64 k.i, .int .i64 k.s, .int .i64 k.a], 26)] := hW ▸ Bl.one w _ _
  have lk := fun (u : World) (hu : Kept W u) => lk_blk (u := u) (b := w.heap.size) (k := k) (kept_at hu (hB.blk 0 rfl))
  have AW := Lib.hid (fun u (hu : Kept W u) => awake_any (ht.kept (hB.kept.trans hu)))
  have HW := Lib.hid hW
  have HB := Lib.hid hB
  by_cases h60 : 60 < N
  · have h60' : (60 : Int) < (N : Int) := by omega
    have A0 := Lib.hid (AW.out W (Kept.refl W))
    clear hv ht hW hB lk hL hcap
    unfold kv
    go_enter Tryd.func5, Tryd.ntmps5
    go_upto_region 1 with fail
    rw [HW.out]
    go_wp2_with (first | (go_at_call 7; refine A0.out.mono ?_; rintro e' w2 ⟨rfl, k2⟩))
    go_ret
    exact ⟨rfl, HB.out.kept.trans k2⟩
  · have h60' : ¬ (60 : Int) < (N : Int) := by omega
    have LK := Lib.hid lk
    have HV := Lib.hid (hv.go hB.kept)
    have HN := Lib.hid hN
    have HL := Lib.hid hL
    have HK := Lib.hid hk
    have hm2 : N ≤ 60 := by omega
    have l0 := lk W (Kept.refl W)
    have C0 := Lib.hid (below_any (hv.go hB.kept) (by omega) hL k hk)
    unfold kv at l0 C0
    clear hv ht hN hm h60 hW hB lk hL hk hcap
    unfold kv
    go_enter Tryd.func5, Tryd.ntmps5
    go_upto_region 1 with fail
    rw [HW.out]
    go_wp2_with (first
      | (refine load_l 26 (.tmp 3) rfl _ rfl rfl _ l0 ?_)
      | (go_at_call 18; refine C0.out.mono ?_; rintro e' w1 ⟨v1, rfl, r1, k1⟩))
    have R1 := Lib.hid r1
    have K1 := Lib.hid k1
    clear r1 k1 l0
    go_loopw [6] (fun y wr => ∃ i : Nat, i ≤ N ∧ y = .int .i64 (i : Int) ∧ Kept w1 wr) (fun y _ => N - (intOf y).toNat)
    case atStart => exact ⟨0, Nat.zero_le _, rfl, Kept.refl _⟩
    case round =>
      obtain ⟨i, hi, rfl, hkr⟩ := hrel
      by_cases hlt : i < N
      · obtain ⟨e, b, off, he, rfl, hb, hc⟩ := (HV.out.go (K1.out.trans hkr)).pick (i := i) (by rw [HN.out]; exact hlt)
        have hi1 : (i : Int) < N := by omega
        have hic : (i : Int) ≤ (cap : Int) := by omega
        have l1 := load_ev hc
        obtain ⟨A, hA⟩ : ∃ A, arr e = A := ⟨_, rfl⟩
        have sA : A.size = 18 := by rw [← hA]; rfl
        have oA : A.all (·.oneCell') = true := by rw [← hA]; exact arr_one e
        rw [hA] at l1
        obtain ⟨X, hX⟩ : ∃ X, wr.alloc (.cells A 38) = X := ⟨_, rfl⟩
        have hBX : Bl wr X [(A, 38)] := hX ▸ Bl.one wr _ _
        have hat : ∀ u, Kept X u → At u wr.heap.size 0 e := fun u hu => at_blk (by rw [hA]; exact kept_at hu (hBX.blk 0 rfl))
        have c0 : X.cell? ⟨wr.heap.size, 0, none⟩ = some (.int .i64 e.kind) := hat X (Kept.refl _) 0 _ rfl
        have c4 : X.cell? ⟨wr.heap.size, 4, none⟩ = some (.int .i64 e.key.n) := hat X (Kept.refl _) 4 _ rfl
        have c5 : X.cell? ⟨wr.heap.size, 5, none⟩ = some (.int .i64 e.key.i) := hat X (Kept.refl _) 5 _ rfl
        have c6 : X.cell? ⟨wr.heap.size, 6, none⟩ = some (.int .i64 e.key.s) := hat X (Kept.refl _) 6 _ rfl
        have c7 : X.cell? ⟨wr.heap.size, 7, none⟩ = some (.int .i64 e.key.a) := hat X (Kept.refl _) 7 _ rfl
        have c8 : X.cell? ⟨wr.heap.size, 8, none⟩ = some (.int .i64 e.par.n) := hat X (Kept.refl _) 8 _ rfl
        have c9 : X.cell? ⟨wr.heap.size, 9, none⟩ = some (.int .i64 e.par.i) := hat X (Kept.refl _) 9 _ rfl
        have c10 : X.cell? ⟨wr.heap.size, 10, none⟩ = some (.int .i64 e.par.s) := hat X (Kept.refl _) 10 _ rfl
        have c11 : X.cell? ⟨wr.heap.size, 11, none⟩ = some (.int .i64 e.par.a) := hat X (Kept.refl _) 11 _ rfl
        have hkX := kept_at ((K1.out.trans hkr).trans hBX.kept) (HB.out.blk 0 rfl)
        have q0 : X.cell? ⟨w.heap.size, 0, none⟩ = some (.int .i64 k.n) := (blk_cell hkX 0).trans rfl
        have q1 : X.cell? ⟨w.heap.size, 1, none⟩ = some (.int .i64 k.i) := (blk_cell hkX 1).trans rfl
        have q2 : X.cell? ⟨w.heap.size, 2, none⟩ = some (.int .i64 k.s) := (blk_cell hkX 2).trans rfl
        have q3 : X.cell? ⟨w.heap.size, 3, none⟩ = some (.int .i64 k.a) := (blk_cell hkX 3).trans rfl
        clear hkX
        have kWX : Kept W X := (K1.out.trans hkr).trans hBX.kept
        have LE := Lib.hid (fun u (hu : Kept X u) => (hat u hu).key)
        have LP := Lib.hid (fun u (hu : Kept X u) => (hat u hu).par)
        have LQ := Lib.hid (fun u (hu : Kept X u) => LK.out u (kWX.trans hu))
        have HR := Lib.hid (fun u (hu : Kept X u) => R1.out.go ((hkr.trans hBX.kept).trans hu))
        have CB := Lib.hid (fun u (hu : Kept X u) => below_any (L := L.take i) (le_cut (HV.out.go (kWX.trans hu)) HN.out hi) (by rw [List.length_take]; omega) (fun x hx => HL.out x (List.mem_of_mem_take hx)) k HK.out)
        obtain ⟨z1, hz1⟩ : ∃ z, (e.kind == 3) = z := ⟨_, rfl⟩
        obtain ⟨z4, hz4⟩ : ∃ z, decide (e.key = k) = z := ⟨_, rfl⟩
        obtain ⟨z2, hz2⟩ : ∃ z, decide (e.par = k) = z := ⟨_, rfl⟩
        obtain ⟨z3, hz3⟩ : ∃ z, decide (e.par ∈ bel k (L.take i)) = z := ⟨_, rfl⟩
        have hn1 : (e.kind != 3) = !z1 := by rw [← hz1]; rfl
        have he2 : ∀ w, (binOp .eql 26 (kv e.par) (kv k)).run Tryd.prog w = .ok (.bool z2) w := fun w => by rw [← hz2]; exact eq_key e.pn e.pi e.ps e.pa k.n k.i k.s k.a w
        have he4 : ∀ w, (binOp .eql 26 (kv e.key) (kv k)).run Tryd.prog w = .ok (.bool z4) w := fun w => by rw [← hz4]; exact eq_key e.kn e.ki e.ks e.ka k.n k.i k.s k.a w
        have HS := Lib.hid (fun (h1 : z1 = true) (h4 : z4 = false) (h23 : z2 = true ∨ z3 = true) => (show e.key ∈ bel k L from bel_step k L i he (by rw [h1] at hz1; exact beq_iff_eq.1 hz1) (by rw [h4] at hz4; exact of_decide_eq_false hz4) (h23.imp (fun h => by rw [h] at hz2; exact of_decide_eq_true hz2) (fun h => by rw [h] at hz3; exact of_decide_eq_true hz3))))
        have HC := Lib.hid (fun u (hu : Kept X u) (hin : e.key ∈ bel k L) => (has_any (HR.out u hu) e.key).mono (fun e' u' (h : _ ∧ Kept u u') => (⟨by rw [h.1, decide_eq_true hin], hu.trans h.2⟩ : e' = .returned (.bool true) ∧ Kept X u')))
        have HC2 := Lib.hid (fun u (hu : Kept X u) (hin : e.key ∈ bel k L) => (has_any (HR.out u hu) e.key).mono (fun e' u' (h : _ ∧ Kept u u') => (⟨by rw [h.1, decide_eq_true hin], h.2⟩ : e' = .returned (.bool true) ∧ Kept u u')))
        have HP := Lib.hid (fun u vb (hb : Lk u vb (bel k (L.take i))) => (by have := has_any hb e.par; rw [hz3] at this; exact this))
        have kX := Kept.refl X
        have HBX := Lib.hid hBX
        have HX := Lib.hid hX
        have HKR := Lib.hid (hkr.trans hBX.kept)
        clear he hc hb hA hX hBX hat hz1 hz2 hz3 hz4 kWX
        unfold kv at LE LP LQ CB he2 he4 HC HC2 HP
        cases z1
        · go_upto_region 8 with (first
            | (refine load_l 38 (.tmp 23) rfl _ rfl rfl (.agg A) l1 ?_)
            | (refine store_new rfl 38 (.tmp 7) (.tmp 24) rfl wr.heap.size A rfl rfl wr _ rfl 18 info_ev sA rfl oA ?_; rw [HX.out]))
          go_wp2_with fail
          go_roundw
          case rel => exact ⟨i + 1, hlt, by go_num, HKR.out.trans (by assumption)⟩
          case measure => simp [intOf]; omega
        · cases z4
          · cases z2
            · cases z3
              · go_upto_region 8 with (first
                  | (refine load_l 38 (.tmp 23) rfl _ rfl rfl (.agg A) l1 ?_)
                  | (refine store_new rfl 38 (.tmp 7) (.tmp 24) rfl wr.heap.size A rfl rfl wr _ rfl 18 info_ev sA rfl oA ?_; rw [HX.out]))
                go_upto_region 11 with fail
                refine Au.region (fun u => Kept X u) (by kernel_rfl) ((show Kept X _ from by assumption).drew) ?_
                have hSt : Stab (fun u => Kept X u) := stab_kept X
                refine Au.take 0 (some 45) (v := ?_) rfl rfl (by kernel_rfl) (by kernel_rfl) (by kernel_rfl) (fun _ _ _ h => h) hSt (Au.yq_run (by rfl) (fun u hu => ?_)) ?_
                rotate_left
                · (clear hu; go_simp; try with_reducible rfl)
                simp only [Act.put, List.setIfInBounds_toArray, List.set_cons_zero, List.set_cons_succ]
                refine Au.take 1 (some 46) (v := ?_) rfl rfl (by kernel_rfl) (by kernel_rfl) (by kernel_rfl) (fun _ _ _ h => h) hSt (Au.yq_run (by rfl) (fun u hu => ?_)) ?_
                rotate_left
                · (clear hu; go_simp; try with_reducible rfl)
                simp only [Act.put, List.setIfInBounds_toArray, List.set_cons_zero, List.set_cons_succ]
                refine Au.take 2 (some 47) (v := ?_) rfl rfl (by kernel_rfl) (by kernel_rfl) (by kernel_rfl) (fun _ _ _ h => h) hSt (Au.yq_run (by rfl) (fun u hu => ?_)) ?_
                rotate_left
                · (clear hu; go_simp; try with_reducible rfl)
                simp only [Act.put, List.setIfInBounds_toArray, List.set_cons_zero, List.set_cons_succ]
                refine Au.take 3 (some 48) rfl rfl (by kernel_rfl) (by kernel_rfl) (by kernel_rfl) (fun _ _ _ h => h) hSt (Au.yq_load 26 (.tmp 3) rfl _ rfl (by rfl) (fun u hu => LQ.out u hu)) ?_
                simp only [Act.put, List.setIfInBounds_toArray, List.set_cons_zero, List.set_cons_succ]
                refine Au.take 5 (some 50) (v := ?_) rfl rfl (by kernel_rfl) (by kernel_rfl) (by kernel_rfl) (fun _ _ _ h => h) hSt (Au.yq_run (by rfl) (fun u hu => ?_)) ?_
                rotate_left
                · (clear hu; go_simp; try with_reducible rfl)
                simp only [Act.put, List.setIfInBounds_toArray, List.set_cons_zero, List.set_cons_succ]
                refine Au.take 6 (some 51) rfl rfl (by kernel_rfl) (by kernel_rfl) (by kernel_rfl) (fun _ _ _ h => h) hSt (Au.yq_load 26 (.tmp 50) rfl _ rfl (by rfl) (fun u hu => LP.out u hu)) ?_
                simp only [Act.put, List.setIfInBounds_toArray, List.set_cons_zero, List.set_cons_succ]
                refine Au.step 4 rfl (by kernel_rfl) (fun w3 hw3 K3 hK3 => ?_)
                rw [if_pos (by rfl)]
                go_simp
                refine (CB.out w3 hw3).mono ?_
                rintro e' w4 ⟨v4, rfl, r4, k4⟩
                go_wp2_with fail
                refine hK3.out (fun u => Kept X u ∧ Lk u v4 (bel k (L.take i))) _ _ ⟨hw3.trans k4, r4⟩ (stab_and hSt (fun u u' h k => h.go k)) (fun u hu => hu.1) ?_
                have hSt2 : Stab (fun u => Kept X u ∧ Lk u v4 (bel k (L.take i))) := stab_and hSt (fun u u' h k => h.go k)
                clear hK3 K3 r4 k4 hw3
                refine Au.take 7 (some 52) rfl rfl (by kernel_rfl) (by kernel_rfl) (by kernel_rfl) (fun _ _ _ h => h) hSt2 (Au.yq_call 20 _ (by rfl) (fun u => by go_simp) (fun u hu => HP.out u v4 hu.2)) ?_
                simp only [Act.put, List.setIfInBounds_toArray, List.set_cons_zero, List.set_cons_succ]
                refine Au.take 8 (some 53) (v := ?_) rfl rfl (by kernel_rfl) (by kernel_rfl) (by kernel_rfl) (fun _ _ _ h => h) hSt2 (Au.yq_run (by rfl) (fun u hu => ?_)) ?_
                rotate_left
                · (clear hu; go_simp; try with_reducible rfl)
                simp only [Act.put, List.setIfInBounds_toArray, List.set_cons_zero, List.set_cons_succ]
                refine Au.take 9 (some 54) rfl rfl (by kernel_rfl) (by kernel_rfl) (by kernel_rfl) (fun _ _ _ h => h) hSt2 (Au.yq_skip (by rfl)) ?_
                simp only [Act.put, List.setIfInBounds_toArray, List.set_cons_zero, List.set_cons_succ]
                refine Au.take 10 (some 55) rfl rfl (by kernel_rfl) (by kernel_rfl) (by kernel_rfl) (fun _ _ _ h => h) hSt2 (Au.yq_skip (by rfl)) ?_
                simp only [Act.put, List.setIfInBounds_toArray, List.set_cons_zero, List.set_cons_succ]
                refine Au.take 11 (some 56) rfl rfl (by kernel_rfl) (by kernel_rfl) (by kernel_rfl) (fun _ _ _ h => h) hSt2 (Au.yq_skip (by rfl)) ?_
                simp only [Act.put, List.setIfInBounds_toArray, List.set_cons_zero, List.set_cons_succ]
                refine Au.take 12 (some 57) rfl rfl (by kernel_rfl) (by kernel_rfl) (by kernel_rfl) (fun _ _ _ h => h) hSt2 (Au.yq_skip (by rfl)) ?_
                simp only [Act.put, List.setIfInBounds_toArray, List.set_cons_zero, List.set_cons_succ]
                refine Au.take 13 (some 58) rfl rfl (by kernel_rfl) (by kernel_rfl) (by kernel_rfl) (fun _ _ _ h => h) hSt2 (Au.yq_skip (by rfl)) ?_
                simp only [Act.put, List.setIfInBounds_toArray, List.set_cons_zero, List.set_cons_succ]
                refine Au.take 14 (some 59) (v := ?_) rfl rfl (by kernel_rfl) (by kernel_rfl) (by kernel_rfl) (fun _ _ _ h => h) hSt2 (Au.yq_run (by rfl) (fun u hu => ?_)) ?_
                rotate_left
                · (clear hu; go_simp; try with_reducible rfl)
                simp only [Act.put, List.setIfInBounds_toArray, List.set_cons_zero, List.set_cons_succ]
                refine Au.done (by kernel_rfl) (fun u hu => ?_)
                have ku := hu.1
                go_wp2_with fail
                go_roundw
                case rel => exact ⟨i + 1, hlt, by go_num, HKR.out.trans (by assumption)⟩
                case measure => simp [intOf]; omega
              · go_upto_region 8 with (first
                  | (refine load_l 38 (.tmp 23) rfl _ rfl rfl (.agg A) l1 ?_)
                  | (refine store_new rfl 38 (.tmp 7) (.tmp 24) rfl wr.heap.size A rfl rfl wr _ rfl 18 info_ev sA rfl oA ?_; rw [HX.out]))
                go_upto_region 11 with fail
                refine Au.region (fun u => Kept X u) (by kernel_rfl) ((show Kept X _ from by assumption).drew) ?_
                have hSt : Stab (fun u => Kept X u) := stab_kept X
                refine Au.take 0 (some 45) (v := ?_) rfl rfl (by kernel_rfl) (by kernel_rfl) (by kernel_rfl) (fun _ _ _ h => h) hSt (Au.yq_run (by rfl) (fun u hu => ?_)) ?_
                rotate_left
                · (clear hu; go_simp; try with_reducible rfl)
                simp only [Act.put, List.setIfInBounds_toArray, List.set_cons_zero, List.set_cons_succ]
                refine Au.take 1 (some 46) (v := ?_) rfl rfl (by kernel_rfl) (by kernel_rfl) (by kernel_rfl) (fun _ _ _ h => h) hSt (Au.yq_run (by rfl) (fun u hu => ?_)) ?_
                rotate_left
                · (clear hu; go_simp; try with_reducible rfl)
                simp only [Act.put, List.setIfInBounds_toArray, List.set_cons_zero, List.set_cons_succ]
                refine Au.take 2 (some 47) (v := ?_) rfl rfl (by kernel_rfl) (by kernel_rfl) (by kernel_rfl) (fun _ _ _ h => h) hSt (Au.yq_run (by rfl) (fun u hu => ?_)) ?_
                rotate_left
                · (clear hu; go_simp; try with_reducible rfl)
                simp only [Act.put, List.setIfInBounds_toArray, List.set_cons_zero, List.set_cons_succ]
                refine Au.take 3 (some 48) rfl rfl (by kernel_rfl) (by kernel_rfl) (by kernel_rfl) (fun _ _ _ h => h) hSt (Au.yq_load 26 (.tmp 3) rfl _ rfl (by rfl) (fun u hu => LQ.out u hu)) ?_
                simp only [Act.put, List.setIfInBounds_toArray, List.set_cons_zero, List.set_cons_succ]
                refine Au.take 5 (some 50) (v := ?_) rfl rfl (by kernel_rfl) (by kernel_rfl) (by kernel_rfl) (fun _ _ _ h => h) hSt (Au.yq_run (by rfl) (fun u hu => ?_)) ?_
                rotate_left
                · (clear hu; go_simp; try with_reducible rfl)
                simp only [Act.put, List.setIfInBounds_toArray, List.set_cons_zero, List.set_cons_succ]
                refine Au.take 6 (some 51) rfl rfl (by kernel_rfl) (by kernel_rfl) (by kernel_rfl) (fun _ _ _ h => h) hSt (Au.yq_load 26 (.tmp 50) rfl _ rfl (by rfl) (fun u hu => LP.out u hu)) ?_
                simp only [Act.put, List.setIfInBounds_toArray, List.set_cons_zero, List.set_cons_succ]
                refine Au.step 4 rfl (by kernel_rfl) (fun w3 hw3 K3 hK3 => ?_)
                rw [if_pos (by rfl)]
                go_simp
                refine (CB.out w3 hw3).mono ?_
                rintro e' w4 ⟨v4, rfl, r4, k4⟩
                go_wp2_with fail
                refine hK3.out (fun u => Kept X u ∧ Lk u v4 (bel k (L.take i))) _ _ ⟨hw3.trans k4, r4⟩ (stab_and hSt (fun u u' h k => h.go k)) (fun u hu => hu.1) ?_
                have hSt2 : Stab (fun u => Kept X u ∧ Lk u v4 (bel k (L.take i))) := stab_and hSt (fun u u' h k => h.go k)
                clear hK3 K3 r4 k4 hw3
                refine Au.take 7 (some 52) rfl rfl (by kernel_rfl) (by kernel_rfl) (by kernel_rfl) (fun _ _ _ h => h) hSt2 (Au.yq_call 20 _ (by rfl) (fun u => by go_simp) (fun u hu => HP.out u v4 hu.2)) ?_
                simp only [Act.put, List.setIfInBounds_toArray, List.set_cons_zero, List.set_cons_succ]
                refine Au.take 8 (some 53) (v := ?_) rfl rfl (by kernel_rfl) (by kernel_rfl) (by kernel_rfl) (fun _ _ _ h => h) hSt2 (Au.yq_run (by rfl) (fun u hu => ?_)) ?_
                rotate_left
                · (clear hu; go_simp; try with_reducible rfl)
                simp only [Act.put, List.setIfInBounds_toArray, List.set_cons_zero, List.set_cons_succ]
                refine Au.take 9 (some 54) (v := ?_) rfl rfl (by kernel_rfl) (by kernel_rfl) (by kernel_rfl) (fun _ _ _ h => h) hSt2 (Au.yq_run (by rfl) (fun u hu => ?_)) ?_
                rotate_left
                · (clear hu; go_simp; try with_reducible rfl)
                simp only [Act.put, List.setIfInBounds_toArray, List.set_cons_zero, List.set_cons_succ]
                refine Au.take 10 (some 55) (v := ?_) rfl rfl (by kernel_rfl) (by kernel_rfl) (by kernel_rfl) (fun _ _ _ h => h) hSt2 (Au.yq_run (by rfl) (fun u hu => ?_)) ?_
                rotate_left
                · (clear hu; go_simp; try with_reducible rfl)
                simp only [Act.put, List.setIfInBounds_toArray, List.set_cons_zero, List.set_cons_succ]
                refine Au.take 11 (some 56) rfl rfl (by kernel_rfl) (by kernel_rfl) (by kernel_rfl) (fun _ _ _ h => h) hSt2 (Au.yq_load 26 (.tmp 55) rfl _ rfl (by rfl) (fun u hu => LE.out u hu.1)) ?_
                simp only [Act.put, List.setIfInBounds_toArray, List.set_cons_zero, List.set_cons_succ]
                refine Au.take 12 (some 57) rfl rfl (by kernel_rfl) (by kernel_rfl) (by kernel_rfl) (fun _ _ _ h => h) hSt2 (Au.yq_call 20 _ (by rfl) (fun u => by go_simp) (fun u hu => HC2.out u hu.1 (HS.out (by first | rfl | trivial) (by first | rfl | trivial) (by first | exact .inr rfl | exact .inr trivial)))) ?_
                simp only [Act.put, List.setIfInBounds_toArray, List.set_cons_zero, List.set_cons_succ]
                refine Au.take 13 (some 58) (v := ?_) rfl rfl (by kernel_rfl) (by kernel_rfl) (by kernel_rfl) (fun _ _ _ h => h) hSt2 (Au.yq_run (by rfl) (fun u hu => ?_)) ?_
                rotate_left
                · (clear hu; go_simp; try with_reducible rfl)
                simp only [Act.put, List.setIfInBounds_toArray, List.set_cons_zero, List.set_cons_succ]
                refine Au.take 14 (some 59) (v := ?_) rfl rfl (by kernel_rfl) (by kernel_rfl) (by kernel_rfl) (fun _ _ _ h => h) hSt2 (Au.yq_run (by rfl) (fun u hu => ?_)) ?_
                rotate_left
                · (clear hu; go_simp; try with_reducible rfl)
                simp only [Act.put, List.setIfInBounds_toArray, List.set_cons_zero, List.set_cons_succ]
                refine Au.done (by kernel_rfl) (fun u hu => ?_)
                have ku := hu.1
                go_wp2_with fail
                go_roundw
                case rel => exact ⟨i + 1, hlt, by go_num, HKR.out.trans (by assumption)⟩
                case measure => simp [intOf]; omega
            · cases z3
              · go_upto_region 8 with (first
                  | (refine load_l 38 (.tmp 23) rfl _ rfl rfl (.agg A) l1 ?_)
                  | (refine store_new rfl 38 (.tmp 7) (.tmp 24) rfl wr.heap.size A rfl rfl wr _ rfl 18 info_ev sA rfl oA ?_; rw [HX.out]))
                go_upto_region 11 with (first | (go_at_call 20; refine (HC.out _ (by assumption) (HS.out (by first | rfl | trivial) (by first | rfl | trivial) (by first | exact .inl rfl | exact .inl trivial))).mono ?_; rintro e' w5 ⟨rfl, k5⟩))
                refine Au.region (fun u => Kept X u) (by kernel_rfl) ((show Kept X _ from by assumption).drew) ?_
                have hSt : Stab (fun u => Kept X u) := stab_kept X
                refine Au.take 0 (some 45) (v := ?_) rfl rfl (by kernel_rfl) (by kernel_rfl) (by kernel_rfl) (fun _ _ _ h => h) hSt (Au.yq_run (by rfl) (fun u hu => ?_)) ?_
                rotate_left
                · (clear hu; go_simp; try with_reducible rfl)
                simp only [Act.put, List.setIfInBounds_toArray, List.set_cons_zero, List.set_cons_succ]
                refine Au.take 1 (some 46) (v := ?_) rfl rfl (by kernel_rfl) (by kernel_rfl) (by kernel_rfl) (fun _ _ _ h => h) hSt (Au.yq_run (by rfl) (fun u hu => ?_)) ?_
                rotate_left
                · (clear hu; go_simp; try with_reducible rfl)
                simp only [Act.put, List.setIfInBounds_toArray, List.set_cons_zero, List.set_cons_succ]
                refine Au.take 2 (some 47) (v := ?_) rfl rfl (by kernel_rfl) (by kernel_rfl) (by kernel_rfl) (fun _ _ _ h => h) hSt (Au.yq_run (by rfl) (fun u hu => ?_)) ?_
                rotate_left
                · (clear hu; go_simp; try with_reducible rfl)
                simp only [Act.put, List.setIfInBounds_toArray, List.set_cons_zero, List.set_cons_succ]
                refine Au.take 3 (some 48) rfl rfl (by kernel_rfl) (by kernel_rfl) (by kernel_rfl) (fun _ _ _ h => h) hSt (Au.yq_load 26 (.tmp 3) rfl _ rfl (by rfl) (fun u hu => LQ.out u hu)) ?_
                simp only [Act.put, List.setIfInBounds_toArray, List.set_cons_zero, List.set_cons_succ]
                refine Au.take 5 (some 50) (v := ?_) rfl rfl (by kernel_rfl) (by kernel_rfl) (by kernel_rfl) (fun _ _ _ h => h) hSt (Au.yq_run (by rfl) (fun u hu => ?_)) ?_
                rotate_left
                · (clear hu; go_simp; try with_reducible rfl)
                simp only [Act.put, List.setIfInBounds_toArray, List.set_cons_zero, List.set_cons_succ]
                refine Au.take 6 (some 51) rfl rfl (by kernel_rfl) (by kernel_rfl) (by kernel_rfl) (fun _ _ _ h => h) hSt (Au.yq_load 26 (.tmp 50) rfl _ rfl (by rfl) (fun u hu => LP.out u hu)) ?_
                simp only [Act.put, List.setIfInBounds_toArray, List.set_cons_zero, List.set_cons_succ]
                refine Au.step 4 rfl (by kernel_rfl) (fun w3 hw3 K3 hK3 => ?_)
                rw [if_pos (by rfl)]
                go_simp
                refine (CB.out w3 hw3).mono ?_
                rintro e' w4 ⟨v4, rfl, r4, k4⟩
                go_wp2_with fail
                refine hK3.out (fun u => Kept X u ∧ Lk u v4 (bel k (L.take i))) _ _ ⟨hw3.trans k4, r4⟩ (stab_and hSt (fun u u' h k => h.go k)) (fun u hu => hu.1) ?_
                have hSt2 : Stab (fun u => Kept X u ∧ Lk u v4 (bel k (L.take i))) := stab_and hSt (fun u u' h k => h.go k)
                clear hK3 K3 r4 k4 hw3
                refine Au.take 7 (some 52) rfl rfl (by kernel_rfl) (by kernel_rfl) (by kernel_rfl) (fun _ _ _ h => h) hSt2 (Au.yq_call 20 _ (by rfl) (fun u => by go_simp) (fun u hu => HP.out u v4 hu.2)) ?_
                simp only [Act.put, List.setIfInBounds_toArray, List.set_cons_zero, List.set_cons_succ]
                refine Au.take 8 (some 53) (v := ?_) rfl rfl (by kernel_rfl) (by kernel_rfl) (by kernel_rfl) (fun _ _ _ h => h) hSt2 (Au.yq_run (by rfl) (fun u hu => ?_)) ?_
                rotate_left
                · (clear hu; go_simp; try with_reducible rfl)
                simp only [Act.put, List.setIfInBounds_toArray, List.set_cons_zero, List.set_cons_succ]
                refine Au.take 9 (some 54) rfl rfl (by kernel_rfl) (by kernel_rfl) (by kernel_rfl) (fun _ _ _ h => h) hSt2 (Au.yq_skip (by rfl)) ?_
                simp only [Act.put, List.setIfInBounds_toArray, List.set_cons_zero, List.set_cons_succ]
                refine Au.take 10 (some 55) rfl rfl (by kernel_rfl) (by kernel_rfl) (by kernel_rfl) (fun _ _ _ h => h) hSt2 (Au.yq_skip (by rfl)) ?_
                simp only [Act.put, List.setIfInBounds_toArray, List.set_cons_zero, List.set_cons_succ]
                refine Au.take 11 (some 56) rfl rfl (by kernel_rfl) (by kernel_rfl) (by kernel_rfl) (fun _ _ _ h => h) hSt2 (Au.yq_skip (by rfl)) ?_
                simp only [Act.put, List.setIfInBounds_toArray, List.set_cons_zero, List.set_cons_succ]
                refine Au.take 12 (some 57) rfl rfl (by kernel_rfl) (by kernel_rfl) (by kernel_rfl) (fun _ _ _ h => h) hSt2 (Au.yq_skip (by rfl)) ?_
                simp only [Act.put, List.setIfInBounds_toArray, List.set_cons_zero, List.set_cons_succ]
                refine Au.take 13 (some 58) rfl rfl (by kernel_rfl) (by kernel_rfl) (by kernel_rfl) (fun _ _ _ h => h) hSt2 (Au.yq_skip (by rfl)) ?_
                simp only [Act.put, List.setIfInBounds_toArray, List.set_cons_zero, List.set_cons_succ]
                refine Au.take 14 (some 59) (v := ?_) rfl rfl (by kernel_rfl) (by kernel_rfl) (by kernel_rfl) (fun _ _ _ h => h) hSt2 (Au.yq_run (by rfl) (fun u hu => ?_)) ?_
                rotate_left
                · (clear hu; go_simp; try with_reducible rfl)
                simp only [Act.put, List.setIfInBounds_toArray, List.set_cons_zero, List.set_cons_succ]
                refine Au.done (by kernel_rfl) (fun u hu => ?_)
                have ku := hu.1
                go_wp2_with fail
                go_roundw
                case rel => exact ⟨i + 1, hlt, by go_num, HKR.out.trans (by assumption)⟩
                case measure => simp [intOf]; omega
              · go_upto_region 8 with (first
                  | (refine load_l 38 (.tmp 23) rfl _ rfl rfl (.agg A) l1 ?_)
                  | (refine store_new rfl 38 (.tmp 7) (.tmp 24) rfl wr.heap.size A rfl rfl wr _ rfl 18 info_ev sA rfl oA ?_; rw [HX.out]))
                go_upto_region 11 with (first | (go_at_call 20; refine (HC.out _ (by assumption) (HS.out (by first | rfl | trivial) (by first | rfl | trivial) (by first | exact .inl rfl | exact .inl trivial))).mono ?_; rintro e' w5 ⟨rfl, k5⟩))
                refine Au.region (fun u => Kept X u) (by kernel_rfl) ((show Kept X _ from by assumption).drew) ?_
                have hSt : Stab (fun u => Kept X u) := stab_kept X
                refine Au.take 0 (some 45) (v := ?_) rfl rfl (by kernel_rfl) (by kernel_rfl) (by kernel_rfl) (fun _ _ _ h => h) hSt (Au.yq_run (by rfl) (fun u hu => ?_)) ?_
                rotate_left
                · (clear hu; go_simp; try with_reducible rfl)
                simp only [Act.put, List.setIfInBounds_toArray, List.set_cons_zero, List.set_cons_succ]
                refine Au.take 1 (some 46) (v := ?_) rfl rfl (by kernel_rfl) (by kernel_rfl) (by kernel_rfl) (fun _ _ _ h => h) hSt (Au.yq_run (by rfl) (fun u hu => ?_)) ?_
                rotate_left
                · (clear hu; go_simp; try with_reducible rfl)
                simp only [Act.put, List.setIfInBounds_toArray, List.set_cons_zero, List.set_cons_succ]
                refine Au.take 2 (some 47) (v := ?_) rfl rfl (by kernel_rfl) (by kernel_rfl) (by kernel_rfl) (fun _ _ _ h => h) hSt (Au.yq_run (by rfl) (fun u hu => ?_)) ?_
                rotate_left
                · (clear hu; go_simp; try with_reducible rfl)
                simp only [Act.put, List.setIfInBounds_toArray, List.set_cons_zero, List.set_cons_succ]
                refine Au.take 3 (some 48) rfl rfl (by kernel_rfl) (by kernel_rfl) (by kernel_rfl) (fun _ _ _ h => h) hSt (Au.yq_load 26 (.tmp 3) rfl _ rfl (by rfl) (fun u hu => LQ.out u hu)) ?_
                simp only [Act.put, List.setIfInBounds_toArray, List.set_cons_zero, List.set_cons_succ]
                refine Au.take 5 (some 50) (v := ?_) rfl rfl (by kernel_rfl) (by kernel_rfl) (by kernel_rfl) (fun _ _ _ h => h) hSt (Au.yq_run (by rfl) (fun u hu => ?_)) ?_
                rotate_left
                · (clear hu; go_simp; try with_reducible rfl)
                simp only [Act.put, List.setIfInBounds_toArray, List.set_cons_zero, List.set_cons_succ]
                refine Au.take 6 (some 51) rfl rfl (by kernel_rfl) (by kernel_rfl) (by kernel_rfl) (fun _ _ _ h => h) hSt (Au.yq_load 26 (.tmp 50) rfl _ rfl (by rfl) (fun u hu => LP.out u hu)) ?_
                simp only [Act.put, List.setIfInBounds_toArray, List.set_cons_zero, List.set_cons_succ]
                refine Au.step 4 rfl (by kernel_rfl) (fun w3 hw3 K3 hK3 => ?_)
                rw [if_pos (by rfl)]
                go_simp
                refine (CB.out w3 hw3).mono ?_
                rintro e' w4 ⟨v4, rfl, r4, k4⟩
                go_wp2_with fail
                refine hK3.out (fun u => Kept X u ∧ Lk u v4 (bel k (L.take i))) _ _ ⟨hw3.trans k4, r4⟩ (stab_and hSt (fun u u' h k => h.go k)) (fun u hu => hu.1) ?_
                have hSt2 : Stab (fun u => Kept X u ∧ Lk u v4 (bel k (L.take i))) := stab_and hSt (fun u u' h k => h.go k)
                clear hK3 K3 r4 k4 hw3
                refine Au.take 7 (some 52) rfl rfl (by kernel_rfl) (by kernel_rfl) (by kernel_rfl) (fun _ _ _ h => h) hSt2 (Au.yq_call 20 _ (by rfl) (fun u => by go_simp) (fun u hu => HP.out u v4 hu.2)) ?_
                simp only [Act.put, List.setIfInBounds_toArray, List.set_cons_zero, List.set_cons_succ]
                refine Au.take 8 (some 53) (v := ?_) rfl rfl (by kernel_rfl) (by kernel_rfl) (by kernel_rfl) (fun _ _ _ h => h) hSt2 (Au.yq_run (by rfl) (fun u hu => ?_)) ?_
                rotate_left
                · (clear hu; go_simp; try with_reducible rfl)
                simp only [Act.put, List.setIfInBounds_toArray, List.set_cons_zero, List.set_cons_succ]
                refine Au.take 9 (some 54) (v := ?_) rfl rfl (by kernel_rfl) (by kernel_rfl) (by kernel_rfl) (fun _ _ _ h => h) hSt2 (Au.yq_run (by rfl) (fun u hu => ?_)) ?_
                rotate_left
                · (clear hu; go_simp; try with_reducible rfl)
                simp only [Act.put, List.setIfInBounds_toArray, List.set_cons_zero, List.set_cons_succ]
                refine Au.take 10 (some 55) (v := ?_) rfl rfl (by kernel_rfl) (by kernel_rfl) (by kernel_rfl) (fun _ _ _ h => h) hSt2 (Au.yq_run (by rfl) (fun u hu => ?_)) ?_
                rotate_left
                · (clear hu; go_simp; try with_reducible rfl)
                simp only [Act.put, List.setIfInBounds_toArray, List.set_cons_zero, List.set_cons_succ]
                refine Au.take 11 (some 56) rfl rfl (by kernel_rfl) (by kernel_rfl) (by kernel_rfl) (fun _ _ _ h => h) hSt2 (Au.yq_load 26 (.tmp 55) rfl _ rfl (by rfl) (fun u hu => LE.out u hu.1)) ?_
                simp only [Act.put, List.setIfInBounds_toArray, List.set_cons_zero, List.set_cons_succ]
                refine Au.take 12 (some 57) rfl rfl (by kernel_rfl) (by kernel_rfl) (by kernel_rfl) (fun _ _ _ h => h) hSt2 (Au.yq_call 20 _ (by rfl) (fun u => by go_simp) (fun u hu => HC2.out u hu.1 (HS.out (by first | rfl | trivial) (by first | rfl | trivial) (by first | exact .inr rfl | exact .inr trivial)))) ?_
                simp only [Act.put, List.setIfInBounds_toArray, List.set_cons_zero, List.set_cons_succ]
                refine Au.take 13 (some 58) (v := ?_) rfl rfl (by kernel_rfl) (by kernel_rfl) (by kernel_rfl) (fun _ _ _ h => h) hSt2 (Au.yq_run (by rfl) (fun u hu => ?_)) ?_
                rotate_left
                · (clear hu; go_simp; try with_reducible rfl)
                simp only [Act.put, List.setIfInBounds_toArray, List.set_cons_zero, List.set_cons_succ]
                refine Au.take 14 (some 59) (v := ?_) rfl rfl (by kernel_rfl) (by kernel_rfl) (by kernel_rfl) (fun _ _ _ h => h) hSt2 (Au.yq_run (by rfl) (fun u hu => ?_)) ?_
                rotate_left
                · (clear hu; go_simp; try with_reducible rfl)
                simp only [Act.put, List.setIfInBounds_toArray, List.set_cons_zero, List.set_cons_succ]
                refine Au.done (by kernel_rfl) (fun u hu => ?_)
                have ku := hu.1
                go_wp2_with fail
                go_roundw
                case rel => exact ⟨i + 1, hlt, by go_num, HKR.out.trans (by assumption)⟩
                case measure => simp [intOf]; omega
          · go_upto_region 8 with (first
              | (refine load_l 38 (.tmp 23) rfl _ rfl rfl (.agg A) l1 ?_)
              | (refine store_new rfl 38 (.tmp 7) (.tmp 24) rfl wr.heap.size A rfl rfl wr _ rfl 18 info_ev sA rfl oA ?_; rw [HX.out]))
            go_wp2_with fail
            go_roundw
            case rel => exact ⟨i + 1, hlt, by go_num, HKR.out.trans (by assumption)⟩
            case measure => simp [intOf]; omega
      · obtain rfl : i = N := by omega
        have CH := Lib.hid (has_any (R1.out.go hkr) k)
        rw [decide_eq_false (bel_self k L)] at CH
        have lq := LK.out wr (K1.out.trans hkr)
        have A9 := Lib.hid (fun u (hu : Kept wr u) => AW.out u ((K1.out.trans hkr).trans hu))
        unfold kv at CH lq
        go_wp2_with (first
          | (refine load_l 26 (.tmp 3) rfl _ rfl rfl _ lq ?_)
          | (go_at_call 20; refine CH.out.mono ?_; rintro e' w5 ⟨rfl, k5⟩)
          | (go_at_call 7; refine (A9.out _ (by assumption)).mono ?_; rintro e' w6 ⟨rfl, k6⟩))
        go_ret
        exact ⟨rfl, HB.out.kept.trans (K1.out.trans (hkr.trans (k5.trans k6)))⟩

end Go.Proofs.YtckjdncacinnkaaDoor.Ev
