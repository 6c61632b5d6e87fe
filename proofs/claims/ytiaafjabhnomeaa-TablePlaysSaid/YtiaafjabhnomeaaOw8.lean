/- The document's owners held against each other. -/
import Derived.Test.YtiaafjabhnomeaaOw7
import Derived.Test.YtiaafjabhnomeaaWq
namespace Go.Proofs.Ytiaafjabhnomeaa.Ow
open Go.RowKit Go.Sort Go.Shelf St Blk Eqs
open Go.Proofs.Ytiaafjabhnomeaa.Cl
open Go.Proofs.Ytiaafjabhnomeaa.Ls
open Go.Proofs.Ytiaafjabhnomeaa.Rv
open Go.Proofs.Ytiaafjabhnomeaa.Id (quiet_at)
open Go.Proofs.Ytiaafjabhnomeaa.Ad (load_w load_l store_new)
set_option linter.unusedVariables false

set_option maxRecDepth 100000 in
set_option maxHeartbeats 4000000 in
theorem rsame_any {w : World} {q q' : Option Addr} {N M c c' : Nat} {K L : List Cl} (o p : Ow) (hu : Cls w (.slice q N c) K) (hv : Cls w (.slice q' M c') L) :
    Calls Try.prog 19 #[.agg (o.arr q N c), .agg (p.arr q' M c')] w fun e w' => e = .returned (.bool (sameO o p K L)) ∧ Kept w w' := by
  have hN : K.length = N := by obtain ⟨p, cap, e⟩ := hu.shape; cases e; rfl
  have hM : L.length = M := by obtain ⟨p, cap, e⟩ := hv.shape; cases e; rfl
  have hm2 : N ≤ 9223372036854775807 := by have := hu.most; unfold maxLen at this; omega
  obtain ⟨A, hA⟩ : ∃ A, o.arr q N c = A := ⟨_, rfl⟩
  obtain ⟨B, hB⟩ : ∃ B, p.arr q' M c' = B := ⟨_, rfl⟩
  rw [hA, hB]
  obtain ⟨W, hW⟩ : ∃ W, (w.alloc (.cells A 35)).alloc (.cells B 35) = W := ⟨_, rfl⟩
  have hb : Bl w W [(A, 35), (B, 35)] := hW ▸ Bl.two w A _ _ _
  have H18 := Lib.hid (fun (u : World) (hu : Bl w u [(A, 35), (B, 35)]) => (⟨(hu.cell 0 18 rfl).trans (by rw [← hA]; rfl), (hu.cell 1 18 rfl).trans (by rw [← hB]; rfl)⟩ : u.cell? ⟨w.heap.size, 18, none⟩ = some (.slice q N c) ∧ u.cell? ⟨w.heap.size + 1, 18, none⟩ = some (.slice q' M c')))
  obtain ⟨a18, b18⟩ := H18.out W hb
  have HW := Lib.hid hW
  by_cases hNM : N = M
  · subst hNM
    have HA := Lib.hid (And.intro hA hB)
    have HU := Lib.hid hu
    have HV := Lib.hid hv
    have HN := Lib.hid (And.intro hN hM)
    have HB := Lib.hid hb
    obtain ⟨R, hR⟩ : ∃ R, sameO o p K L = R := ⟨_, rfl⟩
    rw [hR]
    have HR := Lib.hid hR
    clear hu hv hN hM hA hB hb hW hR
    go_enter Try.func19, Try.ntmps19
    go_upto_region 1 with fail
    rw [HW.out]
    go_wp2_with fail
    go_loopw [5] (fun x wr => ∃ i : Nat, i ≤ N ∧ x = .int .i64 (i : Int) ∧ Bl w wr [(A, 35), (B, 35)] ∧ Hid (K.take i = L.take i)) (fun x _ => N - (intOf x).toNat)
    case atStart => exact ⟨0, Nat.zero_le _, rfl, HB.out, rfl⟩
    case round =>
      obtain ⟨i, hi, rfl, hbr, hA⟩ := hrel
      have HBr := Lib.hid hbr
      obtain ⟨a18, b18⟩ := H18.out wr hbr
      have hk := hbr.kept
      by_cases hlt : i < N
      · obtain ⟨x, b, off, hx, rfl, hb, hc⟩ := (HU.out.go hk).pick (i := i) (by rw [HN.out.1]; exact hlt)
        obtain ⟨y, b', off', hy, rfl, hb', hc'⟩ := (HV.out.go hk).pick (i := i) (by rw [HN.out.2]; exact hlt)
        obtain ⟨X, hX⟩ : ∃ X, x.arr = X := ⟨_, rfl⟩
        obtain ⟨Y, hY⟩ : ∃ Y, y.arr = Y := ⟨_, rfl⟩
        have lx := Ad.loadk_regrown (W := wr) (p := ⟨b, off + i * 13, none⟩) (fun u hu => load_rcall hX (fun j z hz => (Below.cell hu (p := ⟨b, _, none⟩) hb).trans (hc j z hz)))
        have ly := Ad.loadk_regrown (W := wr) (p := ⟨b', off' + i * 13, none⟩) (fun u hu => load_rcall hY (fun j z hz => (Below.cell hu (p := ⟨b', _, none⟩) hb').trans (hc' j z hz)))
        have la := Ad.loadk_regrown (W := wr) (p := ⟨w.heap.size, 18, none⟩) (fun u hu => run_loads (H18.out u (HBr.out.go hu)).1)
        have lb := Ad.loadk_regrown (W := wr) (p := ⟨w.heap.size + 1, 18, none⟩) (fun u hu => run_loads (H18.out u (HBr.out.go hu)).2)
        have he := fun u => neq_rcl x y u
        rw [hX, hY] at he
        obtain ⟨z, hz⟩ : ∃ z, decide (x = y) = z := ⟨_, rfl⟩
        rw [hz] at he
        have HX := Lib.hid (And.intro hx hy)
        have HZ := Lib.hid hz
        have hi1 : (i : Int) < N := by omega
        clear hx hy hc hc' hz hX hY hk hbr
        go_upto_region 6 with fail
        refine wp_region_quiet_below (by kernel_rfl) (by kernel_rfl) ?_
        repeat (first
          | (go_big_quiet_want; refine Ad.quiet_load 33 (.tmp 20) rfl _ rfl _ la.out ?_; simp only [Act.put, List.setIfInBounds_toArray, List.set_cons_succ, List.set_cons_zero]; go_big_quiet_on)
          | (go_big_quiet_want; refine Ad.quiet_load 33 (.tmp 25) rfl _ rfl _ lb.out ?_; simp only [Act.put, List.setIfInBounds_toArray, List.set_cons_succ, List.set_cons_zero]; go_big_quiet_on)
          | (go_big_quiet_want; refine Ad.quiet_load 70 (.tmp 23) rfl _ rfl _ lx.out ?_; simp only [Act.put, List.setIfInBounds_toArray, List.set_cons_succ, List.set_cons_zero]; go_big_quiet_on)
          | (go_big_quiet_want; refine Ad.quiet_load 70 (.tmp 28) rfl _ rfl _ ly.out ?_; simp only [Act.put, List.setIfInBounds_toArray, List.set_cons_succ, List.set_cons_zero]; go_big_quiet_on)
          | go_big_quiet_step (fail))
        refine wpQuiet_nil ?_
        intro _ hw'
        obtain ⟨⟨dq, osq⟩, hw''⟩ := hw'
        subst hw''
        have hk2 := HBr.out.go (below_regrown wr dq osq)
        cases z
        · have HE := Lib.hid ((show sameO o p K L = false by unfold sameO; rw [decide_eq_false (not_same HX.out.1 HX.out.2 (of_decide_eq_false HZ.out))]; rfl).symm.trans HR.out)
          go_wp2_with fail
          go_ret
          exact ⟨ret_bool HE.out, hk2.kept⟩
        · go_wp2_with fail
          go_roundw
          case rel => exact ⟨i + 1, hlt, by go_num, hk2, take_same hA.out HX.out.1 HX.out.2 (of_decide_eq_true HZ.out)⟩
          case measure => simp [intOf]; omega
      · obtain rfl : i = N := by omega
        have hKL : K = L := by have := hA.out; rwa [List.take_of_length_le (Nat.le_of_eq HN.out.1), List.take_of_length_le (Nat.le_of_eq HN.out.2)] at this
        have HE := Lib.hid (show R = sameF o p by rw [← HR.out]; unfold sameO; rw [decide_eq_true hKL]; rfl)
        clear hA
        obtain ⟨hA, hB⟩ := HA.out
        have hb := hbr
        clear hbr hk hKL hm2
        go_upto_region 8 with fail
        simp only [List.append]
        have a11 : wr.cell? ⟨w.heap.size, 11, none⟩ = some (.int .i64 o.fr) := (hb.cell 0 11 rfl).trans (by rw [← hA]; rfl)
        have a12 : wr.cell? ⟨w.heap.size, 12, none⟩ = some (.int .i64 o.hp) := (hb.cell 0 12 rfl).trans (by rw [← hA]; rfl)
        have a13 : wr.cell? ⟨w.heap.size, 13, none⟩ = some (.int .i64 o.dl) := (hb.cell 0 13 rfl).trans (by rw [← hA]; rfl)
        have a14 : wr.cell? ⟨w.heap.size, 14, none⟩ = some (.int .i64 o.un) := (hb.cell 0 14 rfl).trans (by rw [← hA]; rfl)
        have a15 : wr.cell? ⟨w.heap.size, 15, none⟩ = some (.int .i64 o.pr) := (hb.cell 0 15 rfl).trans (by rw [← hA]; rfl)
        have a16 : wr.cell? ⟨w.heap.size, 16, none⟩ = some (.int .i64 o.pc) := (hb.cell 0 16 rfl).trans (by rw [← hA]; rfl)
        have a17 : wr.cell? ⟨w.heap.size, 17, none⟩ = some (.int .i64 o.dn) := (hb.cell 0 17 rfl).trans (by rw [← hA]; rfl)
        have kA := load_key (u := wr) (b := w.heap.size) (o := 0) ((hb.cell 0 0 rfl).trans (show A[0]? = some (.int .i64 o.kn) by rw [← hA]; rfl)) ((hb.cell 0 1 rfl).trans (show A[1]? = some (.int .i64 o.ki) by rw [← hA]; rfl)) ((hb.cell 0 2 rfl).trans (show A[2]? = some (.int .i64 o.ks) by rw [← hA]; rfl)) ((hb.cell 0 3 rfl).trans (show A[3]? = some (.int .i64 o.ka) by rw [← hA]; rfl))
        have rA := load_id (u := wr) (b := w.heap.size) (o := 4) ((hb.cell 0 4 rfl).trans (show A[4]? = some (.int .i64 o.rn) by rw [← hA]; rfl)) ((hb.cell 0 5 rfl).trans (show A[5]? = some (.int .i64 o.ri) by rw [← hA]; rfl)) ((hb.cell 0 6 rfl).trans (show A[6]? = some (.int .i64 o.rs) by rw [← hA]; rfl))
        have pA := load_key (u := wr) (b := w.heap.size) (o := 7) ((hb.cell 0 7 rfl).trans (show A[7]? = some (.int .i64 o.pn) by rw [← hA]; rfl)) ((hb.cell 0 8 rfl).trans (show A[8]? = some (.int .i64 o.pi) by rw [← hA]; rfl)) ((hb.cell 0 9 rfl).trans (show A[9]? = some (.int .i64 o.ps) by rw [← hA]; rfl)) ((hb.cell 0 10 rfl).trans (show A[10]? = some (.int .i64 o.pa) by rw [← hA]; rfl))
        have b11 : wr.cell? ⟨w.heap.size + 1, 11, none⟩ = some (.int .i64 p.fr) := (hb.cell 1 11 rfl).trans (by rw [← hB]; rfl)
        have b12 : wr.cell? ⟨w.heap.size + 1, 12, none⟩ = some (.int .i64 p.hp) := (hb.cell 1 12 rfl).trans (by rw [← hB]; rfl)
        have b13 : wr.cell? ⟨w.heap.size + 1, 13, none⟩ = some (.int .i64 p.dl) := (hb.cell 1 13 rfl).trans (by rw [← hB]; rfl)
        have b14 : wr.cell? ⟨w.heap.size + 1, 14, none⟩ = some (.int .i64 p.un) := (hb.cell 1 14 rfl).trans (by rw [← hB]; rfl)
        have b15 : wr.cell? ⟨w.heap.size + 1, 15, none⟩ = some (.int .i64 p.pr) := (hb.cell 1 15 rfl).trans (by rw [← hB]; rfl)
        have b16 : wr.cell? ⟨w.heap.size + 1, 16, none⟩ = some (.int .i64 p.pc) := (hb.cell 1 16 rfl).trans (by rw [← hB]; rfl)
        have b17 : wr.cell? ⟨w.heap.size + 1, 17, none⟩ = some (.int .i64 p.dn) := (hb.cell 1 17 rfl).trans (by rw [← hB]; rfl)
        have kB := load_key (u := wr) (b := w.heap.size + 1) (o := 0) ((hb.cell 1 0 rfl).trans (show B[0]? = some (.int .i64 p.kn) by rw [← hB]; rfl)) ((hb.cell 1 1 rfl).trans (show B[1]? = some (.int .i64 p.ki) by rw [← hB]; rfl)) ((hb.cell 1 2 rfl).trans (show B[2]? = some (.int .i64 p.ks) by rw [← hB]; rfl)) ((hb.cell 1 3 rfl).trans (show B[3]? = some (.int .i64 p.ka) by rw [← hB]; rfl))
        have rB := load_id (u := wr) (b := w.heap.size + 1) (o := 4) ((hb.cell 1 4 rfl).trans (show B[4]? = some (.int .i64 p.rn) by rw [← hB]; rfl)) ((hb.cell 1 5 rfl).trans (show B[5]? = some (.int .i64 p.ri) by rw [← hB]; rfl)) ((hb.cell 1 6 rfl).trans (show B[6]? = some (.int .i64 p.rs) by rw [← hB]; rfl))
        have pB := load_key (u := wr) (b := w.heap.size + 1) (o := 7) ((hb.cell 1 7 rfl).trans (show B[7]? = some (.int .i64 p.pn) by rw [← hB]; rfl)) ((hb.cell 1 8 rfl).trans (show B[8]? = some (.int .i64 p.pi) by rw [← hB]; rfl)) ((hb.cell 1 9 rfl).trans (show B[9]? = some (.int .i64 p.ps) by rw [← hB]; rfl)) ((hb.cell 1 10 rfl).trans (show B[10]? = some (.int .i64 p.pa) by rw [← hB]; rfl))
        have eK := fun u => eq_key o.kn o.ki o.ks o.ka p.kn p.ki p.ks p.ka u
        have eR := fun u => eq_id o.rn o.ri o.rs p.rn p.ri p.rs u
        have eP := fun u => eq_key o.pn o.pi o.ps o.pa p.pn p.pi p.ps p.pa u
        have HS := Lib.hid (sameF_eq o p)
        obtain ⟨z0, hz0⟩ : ∃ z, keyB o p = z := ⟨_, rfl⟩
        obtain ⟨z1, hz1⟩ : ∃ z, rootB o p = z := ⟨_, rfl⟩
        obtain ⟨z2, hz2⟩ : ∃ z, parB o p = z := ⟨_, rfl⟩
        rw [hz0, hz1, hz2] at HS
        rw [show (o.kn == p.kn && (o.ki == p.ki && (o.ks == p.ks && o.ka == p.ka))) = z0 from hz0] at eK
        rw [show (o.rn == p.rn && (o.ri == p.ri && o.rs == p.rs)) = z1 from hz1] at eR
        rw [show (o.pn == p.pn && (o.pi == p.pi && (o.ps == p.ps && o.pa == p.pa))) = z2 from hz2] at eP
        clear hz0 hz1 hz2
        obtain ⟨S, hS⟩ : ∃ S, sameF o p = S := ⟨_, rfl⟩
        obtain ⟨x11, hx11⟩ : ∃ x, o.fr = x := ⟨_, rfl⟩
        obtain ⟨y11, hy11⟩ : ∃ y, p.fr = y := ⟨_, rfl⟩
        obtain ⟨x12, hx12⟩ : ∃ x, o.hp = x := ⟨_, rfl⟩
        obtain ⟨y12, hy12⟩ : ∃ y, p.hp = y := ⟨_, rfl⟩
        obtain ⟨x13, hx13⟩ : ∃ x, o.dl = x := ⟨_, rfl⟩
        obtain ⟨y13, hy13⟩ : ∃ y, p.dl = y := ⟨_, rfl⟩
        obtain ⟨x14, hx14⟩ : ∃ x, o.un = x := ⟨_, rfl⟩
        obtain ⟨y14, hy14⟩ : ∃ y, p.un = y := ⟨_, rfl⟩
        obtain ⟨x15, hx15⟩ : ∃ x, o.pr = x := ⟨_, rfl⟩
        obtain ⟨y15, hy15⟩ : ∃ y, p.pr = y := ⟨_, rfl⟩
        obtain ⟨x16, hx16⟩ : ∃ x, o.pc = x := ⟨_, rfl⟩
        obtain ⟨y16, hy16⟩ : ∃ y, p.pc = y := ⟨_, rfl⟩
        obtain ⟨x17, hx17⟩ : ∃ x, o.dn = x := ⟨_, rfl⟩
        obtain ⟨y17, hy17⟩ : ∃ y, p.dn = y := ⟨_, rfl⟩
        rw [hS, hx11, hy11, hx12, hy12, hx13, hy13, hx14, hy14, hx15, hy15, hx16, hy16, hx17, hy17] at HS
        rw [hx11] at a11
        rw [hy11] at b11
        rw [hx12] at a12
        rw [hy12] at b12
        rw [hx13] at a13
        rw [hy13] at b13
        rw [hx14] at a14
        rw [hy14] at b14
        rw [hx15] at a15
        rw [hy15] at b15
        rw [hx16] at a16
        rw [hy16] at b16
        rw [hx17] at a17
        rw [hy17] at b17
        clear hx11 hy11 hx12 hy12 hx13 hy13 hx14 hy14 hx15 hy15 hx16 hy16 hx17 hy17
        rw [hS] at HE
        have HK := Lib.hid hb.kept
        clear hS hb
        obtain ⟨b_11, hb11⟩ : ∃ b, (x11 == y11) = b := ⟨_, rfl⟩
        obtain ⟨b_12, hb12⟩ : ∃ b, (x12 == y12) = b := ⟨_, rfl⟩
        obtain ⟨b_13, hb13⟩ : ∃ b, (x13 == y13) = b := ⟨_, rfl⟩
        obtain ⟨b_14, hb14⟩ : ∃ b, (x14 == y14) = b := ⟨_, rfl⟩
        obtain ⟨b_15, hb15⟩ : ∃ b, (x15 == y15) = b := ⟨_, rfl⟩
        obtain ⟨b_16, hb16⟩ : ∃ b, (x16 == y16) = b := ⟨_, rfl⟩
        obtain ⟨b_17, hb17⟩ : ∃ b, (x17 == y17) = b := ⟨_, rfl⟩
        rw [hb11, hb12, hb13, hb14, hb15, hb16, hb17] at HS
        refine Ad.wp_region_quietly (C := fun w' => wr = w') rfl ?_
        go_big_quiet_step (fail)
        go_big_quiet_want
        refine Ad.quiet_load 32 (.tmp 31) rfl _ rfl _ (fun u hu => by subst hu; exact kA) ?_
        simp only [Act.put, List.setIfInBounds_toArray, List.set_cons_succ, List.set_cons_zero]
        go_big_quiet_on
        go_big_quiet_step (fail)
        go_big_quiet_want
        refine Ad.quiet_load 32 (.tmp 33) rfl _ rfl _ (fun u hu => by subst hu; exact kB) ?_
        simp only [Act.put, List.setIfInBounds_toArray, List.set_cons_succ, List.set_cons_zero]
        go_big_quiet_on
        go_big_quiet_step (fail)
        go_big_quiet_step (fail)
        cases z0
        · repeat (first | go_big_quiet_skip | go_big_quiet_step (fail))
          refine wpQuiet_nil ?_
          rintro _ rfl
          go_wp2_with fail
          go_ret
          exact ⟨ret_bool (by rw [HE.out, HS.out]; try simp), HK.out⟩
        go_big_quiet_step (fail)
        go_big_quiet_want
        refine Ad.quiet_load 30 (.tmp 37) rfl _ rfl _ (fun u hu => by subst hu; exact rA) ?_
        simp only [Act.put, List.setIfInBounds_toArray, List.set_cons_succ, List.set_cons_zero]
        go_big_quiet_on
        go_big_quiet_step (fail)
        go_big_quiet_want
        refine Ad.quiet_load 30 (.tmp 39) rfl _ rfl _ (fun u hu => by subst hu; exact rB) ?_
        simp only [Act.put, List.setIfInBounds_toArray, List.set_cons_succ, List.set_cons_zero]
        go_big_quiet_on
        go_big_quiet_step (fail)
        go_big_quiet_step (fail)
        go_big_quiet_step (fail)
        cases z1
        · repeat (first | go_big_quiet_skip | go_big_quiet_step (fail))
          refine wpQuiet_nil ?_
          rintro _ rfl
          go_wp2_with fail
          go_ret
          exact ⟨ret_bool (by rw [HE.out, HS.out]; try simp), HK.out⟩
        go_big_quiet_step (fail)
        go_big_quiet_want
        refine Ad.quiet_load 32 (.tmp 44) rfl _ rfl _ (fun u hu => by subst hu; exact pA) ?_
        simp only [Act.put, List.setIfInBounds_toArray, List.set_cons_succ, List.set_cons_zero]
        go_big_quiet_on
        go_big_quiet_step (fail)
        go_big_quiet_want
        refine Ad.quiet_load 32 (.tmp 46) rfl _ rfl _ (fun u hu => by subst hu; exact pB) ?_
        simp only [Act.put, List.setIfInBounds_toArray, List.set_cons_succ, List.set_cons_zero]
        go_big_quiet_on
        go_big_quiet_step (fail)
        go_big_quiet_step (fail)
        go_big_quiet_step (fail)
        cases z2
        · repeat (first | go_big_quiet_skip | go_big_quiet_step (fail))
          refine wpQuiet_nil ?_
          rintro _ rfl
          go_wp2_with fail
          go_ret
          exact ⟨ret_bool (by rw [HE.out, HS.out]; try simp), HK.out⟩
        go_big_quiet_step (fail)
        go_big_quiet_want
        refine Ad.quiet_load 3 (.tmp 51) rfl _ rfl _ (fun u hu => by subst hu; exact Ad.run_loadi a11) ?_
        simp only [Act.put, List.setIfInBounds_toArray, List.set_cons_succ, List.set_cons_zero]
        go_big_quiet_on
        go_big_quiet_step (fail)
        go_big_quiet_want
        refine Ad.quiet_load 3 (.tmp 53) rfl _ rfl _ (fun u hu => by subst hu; exact Ad.run_loadi b11) ?_
        simp only [Act.put, List.setIfInBounds_toArray, List.set_cons_succ, List.set_cons_zero]
        go_big_quiet_on
        go_big_quiet_step (fail)
        go_big_quiet_step (fail)
        go_big_quiet_step (fail)
        cases b_11
        · repeat (first | go_big_quiet_skip | go_big_quiet_step (fail))
          refine wpQuiet_nil ?_
          rintro _ rfl
          go_wp2_with fail
          go_ret
          exact ⟨ret_bool (by rw [HE.out, HS.out]; try simp), HK.out⟩
        go_big_quiet_step (fail)
        go_big_quiet_want
        refine Ad.quiet_load 3 (.tmp 58) rfl _ rfl _ (fun u hu => by subst hu; exact Ad.run_loadi a12) ?_
        simp only [Act.put, List.setIfInBounds_toArray, List.set_cons_succ, List.set_cons_zero]
        go_big_quiet_on
        go_big_quiet_step (fail)
        go_big_quiet_want
        refine Ad.quiet_load 3 (.tmp 60) rfl _ rfl _ (fun u hu => by subst hu; exact Ad.run_loadi b12) ?_
        simp only [Act.put, List.setIfInBounds_toArray, List.set_cons_succ, List.set_cons_zero]
        go_big_quiet_on
        go_big_quiet_step (fail)
        go_big_quiet_step (fail)
        go_big_quiet_step (fail)
        cases b_12
        · repeat (first | go_big_quiet_skip | go_big_quiet_step (fail))
          refine wpQuiet_nil ?_
          rintro _ rfl
          go_wp2_with fail
          go_ret
          exact ⟨ret_bool (by rw [HE.out, HS.out]; try simp), HK.out⟩
        go_big_quiet_step (fail)
        go_big_quiet_want
        refine Ad.quiet_load 3 (.tmp 65) rfl _ rfl _ (fun u hu => by subst hu; exact Ad.run_loadi a13) ?_
        simp only [Act.put, List.setIfInBounds_toArray, List.set_cons_succ, List.set_cons_zero]
        go_big_quiet_on
        go_big_quiet_step (fail)
        go_big_quiet_want
        refine Ad.quiet_load 3 (.tmp 67) rfl _ rfl _ (fun u hu => by subst hu; exact Ad.run_loadi b13) ?_
        simp only [Act.put, List.setIfInBounds_toArray, List.set_cons_succ, List.set_cons_zero]
        go_big_quiet_on
        go_big_quiet_step (fail)
        go_big_quiet_step (fail)
        go_big_quiet_step (fail)
        cases b_13
        · repeat (first | go_big_quiet_skip | go_big_quiet_step (fail))
          refine wpQuiet_nil ?_
          rintro _ rfl
          go_wp2_with fail
          go_ret
          exact ⟨ret_bool (by rw [HE.out, HS.out]; try simp), HK.out⟩
        go_big_quiet_step (fail)
        go_big_quiet_want
        refine Ad.quiet_load 3 (.tmp 72) rfl _ rfl _ (fun u hu => by subst hu; exact Ad.run_loadi a14) ?_
        simp only [Act.put, List.setIfInBounds_toArray, List.set_cons_succ, List.set_cons_zero]
        go_big_quiet_on
        go_big_quiet_step (fail)
        go_big_quiet_want
        refine Ad.quiet_load 3 (.tmp 74) rfl _ rfl _ (fun u hu => by subst hu; exact Ad.run_loadi b14) ?_
        simp only [Act.put, List.setIfInBounds_toArray, List.set_cons_succ, List.set_cons_zero]
        go_big_quiet_on
        go_big_quiet_step (fail)
        go_big_quiet_step (fail)
        go_big_quiet_step (fail)
        cases b_14
        · repeat (first | go_big_quiet_skip | go_big_quiet_step (fail))
          refine wpQuiet_nil ?_
          rintro _ rfl
          go_wp2_with fail
          go_ret
          exact ⟨ret_bool (by rw [HE.out, HS.out]; try simp), HK.out⟩
        go_big_quiet_step (fail)
        go_big_quiet_want
        refine Ad.quiet_load 3 (.tmp 79) rfl _ rfl _ (fun u hu => by subst hu; exact Ad.run_loadi a15) ?_
        simp only [Act.put, List.setIfInBounds_toArray, List.set_cons_succ, List.set_cons_zero]
        go_big_quiet_on
        go_big_quiet_step (fail)
        go_big_quiet_want
        refine Ad.quiet_load 3 (.tmp 81) rfl _ rfl _ (fun u hu => by subst hu; exact Ad.run_loadi b15) ?_
        simp only [Act.put, List.setIfInBounds_toArray, List.set_cons_succ, List.set_cons_zero]
        go_big_quiet_on
        go_big_quiet_step (fail)
        go_big_quiet_step (fail)
        go_big_quiet_step (fail)
        cases b_15
        · repeat (first | go_big_quiet_skip | go_big_quiet_step (fail))
          refine wpQuiet_nil ?_
          rintro _ rfl
          go_wp2_with fail
          go_ret
          exact ⟨ret_bool (by rw [HE.out, HS.out]; try simp), HK.out⟩
        go_big_quiet_step (fail)
        go_big_quiet_want
        refine Ad.quiet_load 3 (.tmp 86) rfl _ rfl _ (fun u hu => by subst hu; exact Ad.run_loadi a16) ?_
        simp only [Act.put, List.setIfInBounds_toArray, List.set_cons_succ, List.set_cons_zero]
        go_big_quiet_on
        go_big_quiet_step (fail)
        go_big_quiet_want
        refine Ad.quiet_load 3 (.tmp 88) rfl _ rfl _ (fun u hu => by subst hu; exact Ad.run_loadi b16) ?_
        simp only [Act.put, List.setIfInBounds_toArray, List.set_cons_succ, List.set_cons_zero]
        go_big_quiet_on
        go_big_quiet_step (fail)
        go_big_quiet_step (fail)
        go_big_quiet_step (fail)
        cases b_16
        · repeat (first | go_big_quiet_skip | go_big_quiet_step (fail))
          refine wpQuiet_nil ?_
          rintro _ rfl
          go_wp2_with fail
          go_ret
          exact ⟨ret_bool (by rw [HE.out, HS.out]; try simp), HK.out⟩
        go_big_quiet_step (fail)
        go_big_quiet_want
        refine Ad.quiet_load 3 (.tmp 93) rfl _ rfl _ (fun u hu => by subst hu; exact Ad.run_loadi a17) ?_
        simp only [Act.put, List.setIfInBounds_toArray, List.set_cons_succ, List.set_cons_zero]
        go_big_quiet_on
        go_big_quiet_step (fail)
        go_big_quiet_want
        refine Ad.quiet_load 3 (.tmp 95) rfl _ rfl _ (fun u hu => by subst hu; exact Ad.run_loadi b17) ?_
        simp only [Act.put, List.setIfInBounds_toArray, List.set_cons_succ, List.set_cons_zero]
        go_big_quiet_on
        go_big_quiet_step (fail)
        go_big_quiet_step (fail)
        cases b_17
        · repeat (first | go_big_quiet_skip | go_big_quiet_step (fail))
          refine wpQuiet_nil ?_
          rintro _ rfl
          go_wp2_with fail
          go_ret
          exact ⟨ret_bool (by rw [HE.out, HS.out]; try simp), HK.out⟩
        repeat (first | go_big_quiet_skip | go_big_quiet_step (fail))
        refine wpQuiet_nil ?_
        rintro _ rfl
        go_wp2_with fail
        go_ret
        exact ⟨ret_bool (by rw [HE.out, HS.out]; try simp), HK.out⟩
  · have HE := Lib.hid (show sameO o p K L = false by unfold sameO; rw [decide_eq_false (show ¬ K = L from fun c => hNM (by rw [← hN, ← hM, c]))]; rfl)
    rw [HE.out]
    have hne : ¬ (N : Int) = (M : Int) := by omega
    have hneb : ((N : Int) != (M : Int)) = true := bne_iff_ne.2 hne
    have HK := Lib.hid hb.kept
    clear hu hv hN hM hA hB hb hW hNM H18 HE
    go_enter Try.func19, Try.ntmps19
    go_upto_region 1 with fail
    rw [HW.out]
    go_wp2_with fail
    go_ret
    exact ⟨rfl, HK.out⟩

end Go.Proofs.Ytiaafjabhnomeaa.Ow
