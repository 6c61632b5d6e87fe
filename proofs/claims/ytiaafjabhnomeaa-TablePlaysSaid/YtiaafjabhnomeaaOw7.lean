/- Package owner, and the document's own answers for it: are two owners the same? -/
import Derived.Test.YtiaafjabhnomeaaOwS
namespace Go.Proofs.Ytiaafjabhnomeaa.Ow
open Go.RowKit Go.Sort Go.Shelf St Blk Eqs
open Go.Proofs.Ytiaafjabhnomeaa.Cl
open Go.Proofs.Ytiaafjabhnomeaa.Ls
open Go.Proofs.Ytiaafjabhnomeaa.Rv
open Go.Proofs.Ytiaafjabhnomeaa.Id (quiet_at)
open Go.Proofs.Ytiaafjabhnomeaa.Ad (load_w load_l store_new)
set_option linter.unusedVariables false

deriving instance DecidableEq for Cl.Cl
deriving instance DecidableEq for Ow
def eqC (a b : Cl) : Bool := a.n == b.n && (a.i == b.i && (a.s == b.s && (a.to == b.to && (a.pr == b.pr && (a.att == b.att && (a.st == b.st && (a.se == b.se && (a.re == b.re && (a.co == b.co && (a.cd == b.cd && (a.va == b.va && (a.tr == b.tr))))))))))))
theorem eqC_iff (a b : Cl) : eqC a b = decide (a = b) := by
  obtain ⟨a0, a1, a2, a3, a4, a5, a6, a7, a8, a9, a10, a11, a12⟩ := a
  obtain ⟨b0, b1, b2, b3, b4, b5, b6, b7, b8, b9, b10, b11, b12⟩ := b
  unfold eqC
  rw [Bool.eq_iff_iff]
  simp only [Bool.and_eq_true, beq_iff_eq, decide_eq_true_eq, Cl.Cl.mk.injEq]
set_option maxRecDepth 100000 in
theorem neq_cl (a b : Cl) (w : World) : (binOp .neq 79 (.agg a.arr) (.agg b.arr)).run Try.prog w = .ok (.bool (!decide (a = b))) w := by
  rw [← eqC_iff]
  simp [go_sem, Cl.Cl.arr]
  unfold eqC
  repeat (first | exact neq_end | refine neq_on ?_)
set_option maxRecDepth 100000 in
theorem neq_rcl (a b : Cl) (w : World) : (binOp .neq 70 (.agg a.arr) (.agg b.arr)).run Try.prog w = .ok (.bool (!decide (a = b))) w := by
  rw [← eqC_iff]
  simp [go_sem, Cl.Cl.arr]
  unfold eqC
  repeat (first | exact neq_end | refine neq_on ?_)
theorem eq_key (n i s k n' i' s' k' : Int) (w : World) : (binOp .eql 32 (.agg #[.int .i64 n, .int .i64 i, .int .i64 s, .int .i64 k]) (.agg #[.int .i64 n', .int .i64 i', .int .i64 s', .int .i64 k'])).run Try.prog w = .ok (.bool (n == n' && (i == i' && (s == s' && k == k')))) w := by
  simp [go_sem]
  repeat (first | exact eq_end | refine eq_on ?_)
def keyB (o p : Ow) : Bool := o.kn == p.kn && (o.ki == p.ki && (o.ks == p.ks && o.ka == p.ka))
def rootB (o p : Ow) : Bool := o.rn == p.rn && (o.ri == p.ri && o.rs == p.rs)
def parB (o p : Ow) : Bool := o.pn == p.pn && (o.pi == p.pi && (o.ps == p.ps && o.pa == p.pa))
/-- all fields are the same, but for the calls -/
def sameF (o p : Ow) : Bool := decide (o = p)
theorem sameF_eq (o p : Ow) : sameF o p = (keyB o p && (rootB o p && (parB o p && (o.fr == p.fr && (o.hp == p.hp && (o.dl == p.dl && (o.un == p.un && (o.pr == p.pr && (o.pc == p.pc && o.dn == p.dn))))))))) := by
  obtain ⟨a0, a1, a2, a3, a4, a5, a6, a7, a8, a9, a10, a11, a12, a13, a14, a15, a16, a17⟩ := o
  obtain ⟨b0, b1, b2, b3, b4, b5, b6, b7, b8, b9, b10, b11, b12, b13, b14, b15, b16, b17⟩ := p
  unfold sameF keyB rootB parB
  rw [Bool.eq_iff_iff]
  simp only [Bool.and_eq_true, beq_iff_eq, decide_eq_true_eq, Ow.mk.injEq, and_assoc]
def sameO (o p : Ow) (K L : List Cl) : Bool := decide (K = L) && sameF o p
theorem sameO_self (o : Ow) (K : List Cl) : sameO o o K K = true := by simp [sameO, sameF]
theorem take_same {K L : List Cl} {i : Nat} {x y : Cl} (h : K.take i = L.take i) (hx : K[i]? = some x) (hy : L[i]? = some y) (e : x = y) : K.take (i + 1) = L.take (i + 1) := by
  rw [List.take_add_one, List.take_add_one, h, hx, hy, e]
theorem not_same {K L : List Cl} {i : Nat} {x y : Cl} (hx : K[i]? = some x) (hy : L[i]? = some y) (e : ¬ x = y) : ¬ K = L := fun c => by
  subst c; rw [hx] at hy; exact e (Option.some.inj hy)

set_option maxRecDepth 100000 in
set_option maxHeartbeats 1000000 in
theorem equal_any {w : World} {u v : Value} {K L : List Cl} (hu : Cls w u K) (hv : Cls w v L) :
    Calls Try.prog 39 #[u, v] w fun e w' => e = .returned (.bool (decide (K = L))) ∧ Kept w w' := by
  obtain ⟨q, N, cap, rfl, hN, hm⟩ := hu.slice
  obtain ⟨q2, M, cap2, rfl, hM, hm'⟩ := hv.slice
  obtain ⟨R, hR⟩ : ∃ R, decide (K = L) = R := ⟨_, rfl⟩
  rw [hR]
  have hm2 : N ≤ 9223372036854775807 := by unfold maxLen at hm; omega
  by_cases hNM : N = M
  · subst hNM
    have HU := Lib.hid hu
    have HV := Lib.hid hv
    have HN := Lib.hid (And.intro hN hM)
    have HR := Lib.hid hR
    clear hu hv hN hM hm hm' hR
    go_enter Try.func39, Try.ntmps39
    go_wp2_with fail
    go_loopw [13] (fun x wr => ∃ i : Nat, i ≤ N ∧ x = .int .i64 (i : Int) ∧ Kept w wr ∧ Hid (K.take i = L.take i)) (fun x _ => N - (intOf x).toNat)
    case atStart => exact ⟨0, Nat.zero_le _, rfl, Kept.refl _, rfl⟩
    case round =>
      obtain ⟨i, hi, rfl, hk, hA⟩ := hrel
      by_cases hlt : i < N
      · obtain ⟨x, b, off, hx, rfl, hb, hc⟩ := (HU.out.go hk).pick (i := i) (by rw [HN.out.1]; exact hlt)
        obtain ⟨y, b', off', hy, rfl, hb', hc'⟩ := (HV.out.go hk).pick (i := i) (by rw [HN.out.2]; exact hlt)
        obtain ⟨X, hX⟩ : ∃ X, x.arr = X := ⟨_, rfl⟩
        obtain ⟨Y, hY⟩ : ∃ Y, y.arr = Y := ⟨_, rfl⟩
        have lx := Ad.loadk_regrown (W := wr) (p := ⟨b, off + i * 13, none⟩) (fun u hu => load_call hX (fun j z hz => (Below.cell hu (p := ⟨b, _, none⟩) hb).trans (hc j z hz)))
        have ly := Ad.loadk_regrown (W := wr) (p := ⟨b', off' + i * 13, none⟩) (fun u hu => load_call hY (fun j z hz => (Below.cell hu (p := ⟨b', _, none⟩) hb').trans (hc' j z hz)))
        have he := fun u => neq_cl x y u
        rw [hX, hY] at he
        obtain ⟨z, hz⟩ : ∃ z, decide (x = y) = z := ⟨_, rfl⟩
        rw [hz] at he
        have HX := Lib.hid (And.intro hx hy)
        have HZ := Lib.hid hz
        have hi1 : (i : Int) < N := by omega
        clear hx hy hc hc' hz hX hY
        go_wp2_with fail
        refine wp_region_quiet_below (by kernel_rfl) (by kernel_rfl) ?_
        repeat (first
          | (go_big_quiet_want; refine Ad.quiet_load 79 (.tmp 18) rfl _ rfl _ lx.out ?_; simp only [Act.put, List.setIfInBounds_toArray, List.set_cons_succ, List.set_cons_zero]; go_big_quiet_on)
          | (go_big_quiet_want; refine Ad.quiet_load 79 (.tmp 22) rfl _ rfl _ ly.out ?_; simp only [Act.put, List.setIfInBounds_toArray, List.set_cons_succ, List.set_cons_zero]; go_big_quiet_on)
          | go_big_quiet_step (fail))
        refine wpQuiet_nil ?_
        intro _ hw'
        obtain ⟨⟨dq, osq⟩, hw''⟩ := hw'
        subst hw''
        have hk2 := hk.trans (below_regrown wr dq osq)
        cases z
        · have HE := Lib.hid ((decide_eq_false (not_same HX.out.1 HX.out.2 (of_decide_eq_false HZ.out))).symm.trans HR.out)
          go_wp2_with fail
          go_ret
          exact ⟨ret_bool HE.out, hk2⟩
        · go_wp2_with fail
          go_roundw
          case rel => exact ⟨i + 1, hlt, by go_num, hk2, take_same hA.out HX.out.1 HX.out.2 (of_decide_eq_true HZ.out)⟩
          case measure => simp [intOf]; omega
      · obtain rfl : i = N := by omega
        have HE := Lib.hid ((decide_eq_true (show K = L by have := hA.out; rwa [List.take_of_length_le (Nat.le_of_eq HN.out.1), List.take_of_length_le (Nat.le_of_eq HN.out.2)] at this)).symm.trans HR.out)
        go_wp2_with fail
        go_ret
        exact ⟨ret_bool HE.out, hk⟩
  · have HE := Lib.hid ((decide_eq_false (show ¬ K = L from fun c => hNM (by rw [← hN, ← hM, c]))).symm.trans hR)
    have hne : ¬ (N : Int) = (M : Int) := by omega
    have hneb : ((N : Int) != (M : Int)) = true := bne_iff_ne.2 hne
    clear hu hv hN hM hm hm' hR hNM
    go_enter Try.func39, Try.ntmps39
    go_wp2_with fail
    go_ret
    exact ⟨ret_bool HE.out, Kept.refl _⟩

set_option maxRecDepth 100000 in
set_option maxHeartbeats 4000000 in
theorem same_any {w : World} {q q' : Option Addr} {N M c c' : Nat} {K L : List Cl} (o p : Ow) (hu : Cls w (.slice q N c) K) (hv : Cls w (.slice q' M c') L) :
    Calls Try.prog 21 #[.agg (o.arr q N c), .agg (p.arr q' M c')] w fun e w' => e = .returned (.bool (sameO o p K L)) ∧ Kept w w' := by
  have hN : K.length = N := by obtain ⟨p, cap, e⟩ := hu.shape; cases e; rfl
  have hM : L.length = M := by obtain ⟨p, cap, e⟩ := hv.shape; cases e; rfl
  have hm2 : N ≤ 9223372036854775807 := by have := hu.most; unfold maxLen at this; omega
  obtain ⟨A, hA⟩ : ∃ A, o.arr q N c = A := ⟨_, rfl⟩
  obtain ⟨B, hB⟩ : ∃ B, p.arr q' M c' = B := ⟨_, rfl⟩
  rw [hA, hB]
  obtain ⟨W, hW⟩ : ∃ W, (w.alloc (.cells A 52)).alloc (.cells B 52) = W := ⟨_, rfl⟩
  have hb : Bl w W [(A, 52), (B, 52)] := hW ▸ Bl.two w A _ _ _
  have a11 : W.cell? ⟨w.heap.size, 11, none⟩ = some (.int .i64 o.fr) := (hb.cell 0 11 rfl).trans (by rw [← hA]; rfl)
  have a12 : W.cell? ⟨w.heap.size, 12, none⟩ = some (.int .i64 o.hp) := (hb.cell 0 12 rfl).trans (by rw [← hA]; rfl)
  have a13 : W.cell? ⟨w.heap.size, 13, none⟩ = some (.int .i64 o.dl) := (hb.cell 0 13 rfl).trans (by rw [← hA]; rfl)
  have a14 : W.cell? ⟨w.heap.size, 14, none⟩ = some (.int .i64 o.un) := (hb.cell 0 14 rfl).trans (by rw [← hA]; rfl)
  have a15 : W.cell? ⟨w.heap.size, 15, none⟩ = some (.int .i64 o.pr) := (hb.cell 0 15 rfl).trans (by rw [← hA]; rfl)
  have a16 : W.cell? ⟨w.heap.size, 16, none⟩ = some (.int .i64 o.pc) := (hb.cell 0 16 rfl).trans (by rw [← hA]; rfl)
  have a17 : W.cell? ⟨w.heap.size, 17, none⟩ = some (.int .i64 o.dn) := (hb.cell 0 17 rfl).trans (by rw [← hA]; rfl)
  have kA := load_key (u := W) (b := w.heap.size) (o := 0) ((hb.cell 0 0 rfl).trans (show A[0]? = some (.int .i64 o.kn) by rw [← hA]; rfl)) ((hb.cell 0 1 rfl).trans (show A[1]? = some (.int .i64 o.ki) by rw [← hA]; rfl)) ((hb.cell 0 2 rfl).trans (show A[2]? = some (.int .i64 o.ks) by rw [← hA]; rfl)) ((hb.cell 0 3 rfl).trans (show A[3]? = some (.int .i64 o.ka) by rw [← hA]; rfl))
  have rA := load_id (u := W) (b := w.heap.size) (o := 4) ((hb.cell 0 4 rfl).trans (show A[4]? = some (.int .i64 o.rn) by rw [← hA]; rfl)) ((hb.cell 0 5 rfl).trans (show A[5]? = some (.int .i64 o.ri) by rw [← hA]; rfl)) ((hb.cell 0 6 rfl).trans (show A[6]? = some (.int .i64 o.rs) by rw [← hA]; rfl))
  have pA := load_key (u := W) (b := w.heap.size) (o := 7) ((hb.cell 0 7 rfl).trans (show A[7]? = some (.int .i64 o.pn) by rw [← hA]; rfl)) ((hb.cell 0 8 rfl).trans (show A[8]? = some (.int .i64 o.pi) by rw [← hA]; rfl)) ((hb.cell 0 9 rfl).trans (show A[9]? = some (.int .i64 o.ps) by rw [← hA]; rfl)) ((hb.cell 0 10 rfl).trans (show A[10]? = some (.int .i64 o.pa) by rw [← hA]; rfl))
  have b11 : W.cell? ⟨w.heap.size + 1, 11, none⟩ = some (.int .i64 p.fr) := (hb.cell 1 11 rfl).trans (by rw [← hB]; rfl)
  have b12 : W.cell? ⟨w.heap.size + 1, 12, none⟩ = some (.int .i64 p.hp) := (hb.cell 1 12 rfl).trans (by rw [← hB]; rfl)
  have b13 : W.cell? ⟨w.heap.size + 1, 13, none⟩ = some (.int .i64 p.dl) := (hb.cell 1 13 rfl).trans (by rw [← hB]; rfl)
  have b14 : W.cell? ⟨w.heap.size + 1, 14, none⟩ = some (.int .i64 p.un) := (hb.cell 1 14 rfl).trans (by rw [← hB]; rfl)
  have b15 : W.cell? ⟨w.heap.size + 1, 15, none⟩ = some (.int .i64 p.pr) := (hb.cell 1 15 rfl).trans (by rw [← hB]; rfl)
  have b16 : W.cell? ⟨w.heap.size + 1, 16, none⟩ = some (.int .i64 p.pc) := (hb.cell 1 16 rfl).trans (by rw [← hB]; rfl)
  have b17 : W.cell? ⟨w.heap.size + 1, 17, none⟩ = some (.int .i64 p.dn) := (hb.cell 1 17 rfl).trans (by rw [← hB]; rfl)
  have kB := load_key (u := W) (b := w.heap.size + 1) (o := 0) ((hb.cell 1 0 rfl).trans (show B[0]? = some (.int .i64 p.kn) by rw [← hB]; rfl)) ((hb.cell 1 1 rfl).trans (show B[1]? = some (.int .i64 p.ki) by rw [← hB]; rfl)) ((hb.cell 1 2 rfl).trans (show B[2]? = some (.int .i64 p.ks) by rw [← hB]; rfl)) ((hb.cell 1 3 rfl).trans (show B[3]? = some (.int .i64 p.ka) by rw [← hB]; rfl))
  have rB := load_id (u := W) (b := w.heap.size + 1) (o := 4) ((hb.cell 1 4 rfl).trans (show B[4]? = some (.int .i64 p.rn) by rw [← hB]; rfl)) ((hb.cell 1 5 rfl).trans (show B[5]? = some (.int .i64 p.ri) by rw [← hB]; rfl)) ((hb.cell 1 6 rfl).trans (show B[6]? = some (.int .i64 p.rs) by rw [← hB]; rfl))
  have pB := load_key (u := W) (b := w.heap.size + 1) (o := 7) ((hb.cell 1 7 rfl).trans (show B[7]? = some (.int .i64 p.pn) by rw [← hB]; rfl)) ((hb.cell 1 8 rfl).trans (show B[8]? = some (.int .i64 p.pi) by rw [← hB]; rfl)) ((hb.cell 1 9 rfl).trans (show B[9]? = some (.int .i64 p.ps) by rw [← hB]; rfl)) ((hb.cell 1 10 rfl).trans (show B[10]? = some (.int .i64 p.pa) by rw [← hB]; rfl))
  have a18 : W.cell? ⟨w.heap.size, 18, none⟩ = some (.slice q N c) := (hb.cell 0 18 rfl).trans (by rw [← hA]; rfl)
  have b18 : W.cell? ⟨w.heap.size + 1, 18, none⟩ = some (.slice q' M c') := (hb.cell 1 18 rfl).trans (by rw [← hB]; rfl)
  have HC := Lib.hid (equal_any (hu.go hb.kept) (hv.go hb.kept))
  obtain ⟨zc, hzc⟩ : ∃ z, decide (K = L) = z := ⟨_, rfl⟩
  rw [hzc] at HC
  have eK := fun u => eq_key o.kn o.ki o.ks o.ka p.kn p.ki p.ks p.ka u
  have eR := fun u => eq_id o.rn o.ri o.rs p.rn p.ri p.rs u
  have eP := fun u => eq_key o.pn o.pi o.ps o.pa p.pn p.pi p.ps p.pa u
  have HS := Lib.hid (sameF_eq o p)
  obtain ⟨z0, hz0⟩ : ∃ z, keyB o p = z := ⟨_, rfl⟩
  obtain ⟨z1, hz1⟩ : ∃ z, rootB o p = z := ⟨_, rfl⟩
  obtain ⟨z2, hz2⟩ : ∃ z, parB o p = z := ⟨_, rfl⟩
  rw [hz0, hz1, hz2] at HS
  rw [show (o.kn == p.kn && (o.ki == p.ki && (o.ks == p.ks && o.ka == p.ka))) = z0 from hz0] at eK
  rw [show (o.rn == p.rn && (o.ri == p.ri && o.rs == p.rs)) = z1 from hz1] at eR
  rw [show (o.pn == p.pn && (o.pi == p.pi && (o.ps == p.ps && o.pa == p.pa))) = z2 from hz2] at eP
  clear hz0 hz1 hz2
  obtain ⟨S, hS⟩ : ∃ S, sameF o p = S := ⟨_, rfl⟩
  obtain ⟨x11, hx11⟩ : ∃ x, o.fr = x := ⟨_, rfl⟩
  obtain ⟨y11, hy11⟩ : ∃ y, p.fr = y := ⟨_, rfl⟩
  obtain ⟨x12, hx12⟩ : ∃ x, o.hp = x := ⟨_, rfl⟩
  obtain ⟨y12, hy12⟩ : ∃ y, p.hp = y := ⟨_, rfl⟩
  obtain ⟨x13, hx13⟩ : ∃ x, o.dl = x := ⟨_, rfl⟩
  obtain ⟨y13, hy13⟩ : ∃ y, p.dl = y := ⟨_, rfl⟩
  obtain ⟨x14, hx14⟩ : ∃ x, o.un = x := ⟨_, rfl⟩
  obtain ⟨y14, hy14⟩ : ∃ y, p.un = y := ⟨_, rfl⟩
  obtain ⟨x15, hx15⟩ : ∃ x, o.pr = x := ⟨_, rfl⟩
  obtain ⟨y15, hy15⟩ : ∃ y, p.pr = y := ⟨_, rfl⟩
  obtain ⟨x16, hx16⟩ : ∃ x, o.pc = x := ⟨_, rfl⟩
  obtain ⟨y16, hy16⟩ : ∃ y, p.pc = y := ⟨_, rfl⟩
  obtain ⟨x17, hx17⟩ : ∃ x, o.dn = x := ⟨_, rfl⟩
  obtain ⟨y17, hy17⟩ : ∃ y, p.dn = y := ⟨_, rfl⟩
  rw [hS, hx11, hy11, hx12, hy12, hx13, hy13, hx14, hy14, hx15, hy15, hx16, hy16, hx17, hy17] at HS
  rw [hx11] at a11
  rw [hy11] at b11
  rw [hx12] at a12
  rw [hy12] at b12
  rw [hx13] at a13
  rw [hy13] at b13
  rw [hx14] at a14
  rw [hy14] at b14
  rw [hx15] at a15
  rw [hy15] at b15
  rw [hx16] at a16
  rw [hy16] at b16
  rw [hx17] at a17
  rw [hy17] at b17
  clear hx11 hy11 hx12 hy12 hx13 hy13 hx14 hy14 hx15 hy15 hx16 hy16 hx17 hy17
  rw [show sameO o p K L = (zc && S) by unfold sameO; rw [hzc, hS]]
  have HK := Lib.hid hb.kept
  have HW := Lib.hid hW
  clear hA hB hb hW hu hv hN hM hm2 hzc hS
  go_enter Try.func21, Try.ntmps21
  go_upto_region 1 with fail
  rw [HW.out]
  go_cut [5] (fun t wx => t = .bool (z0 && (z1 && z2)) ∧ wx = W)
  case first =>
    cases z0
    · go_wp2_with (first | (refine load_l 32 (.tmp 9) rfl _ rfl rfl _ kA ?_) | (refine load_l 32 (.tmp 11) rfl _ rfl rfl _ kB ?_) | (refine load_l 30 (.tmp 15) rfl _ rfl rfl _ rA ?_) | (refine load_l 30 (.tmp 17) rfl _ rfl rfl _ rB ?_) | (refine load_l 32 (.tmp 22) rfl _ rfl rfl _ pA ?_) | (refine load_l 32 (.tmp 24) rfl _ rfl rfl _ pB ?_))
      go_meet
      exact ⟨by first | rfl | simp [*], by trivial⟩
    · cases z1
      · go_wp2_with (first | (refine load_l 32 (.tmp 9) rfl _ rfl rfl _ kA ?_) | (refine load_l 32 (.tmp 11) rfl _ rfl rfl _ kB ?_) | (refine load_l 30 (.tmp 15) rfl _ rfl rfl _ rA ?_) | (refine load_l 30 (.tmp 17) rfl _ rfl rfl _ rB ?_) | (refine load_l 32 (.tmp 22) rfl _ rfl rfl _ pA ?_) | (refine load_l 32 (.tmp 24) rfl _ rfl rfl _ pB ?_))
        go_meet
        exact ⟨by first | rfl | simp [*], by trivial⟩
      · cases z2
        · go_wp2_with (first | (refine load_l 32 (.tmp 9) rfl _ rfl rfl _ kA ?_) | (refine load_l 32 (.tmp 11) rfl _ rfl rfl _ kB ?_) | (refine load_l 30 (.tmp 15) rfl _ rfl rfl _ rA ?_) | (refine load_l 30 (.tmp 17) rfl _ rfl rfl _ rB ?_) | (refine load_l 32 (.tmp 22) rfl _ rfl rfl _ pA ?_) | (refine load_l 32 (.tmp 24) rfl _ rfl rfl _ pB ?_))
          go_meet
          exact ⟨by first | rfl | simp [*], by trivial⟩
        · go_wp2_with (first | (refine load_l 32 (.tmp 9) rfl _ rfl rfl _ kA ?_) | (refine load_l 32 (.tmp 11) rfl _ rfl rfl _ kB ?_) | (refine load_l 30 (.tmp 15) rfl _ rfl rfl _ rA ?_) | (refine load_l 30 (.tmp 17) rfl _ rfl rfl _ rB ?_) | (refine load_l 32 (.tmp 22) rfl _ rfl rfl _ pA ?_) | (refine load_l 32 (.tmp 24) rfl _ rfl rfl _ pB ?_))
          go_meet
          exact ⟨by first | rfl | simp [*], by trivial⟩
  case rest =>
  obtain ⟨rfl, hwc⟩ := hcut
  rw [hwc]
  clear hwc
  go_upto_region 2 with fail
  go_cut [6] (fun t wx => t = .bool (x11 == y11 && x12 == y12) ∧ wx = W)
  case first =>
    by_cases h11 : x11 = y11
    · subst h11
      by_cases h12 : x12 = y12
      · subst h12
        go_wp2_with fail
        go_meet
        exact ⟨by first | rfl | simp [*], by trivial⟩
      · have hb12 : (x12 == y12) = false := beq_eq_false_iff_ne.2 h12
        go_wp2_with fail
        go_meet
        exact ⟨by first | rfl | simp [*], by trivial⟩
    · have hb11 : (x11 == y11) = false := beq_eq_false_iff_ne.2 h11
      go_wp2_with fail
      go_meet
      exact ⟨by first | rfl | simp [*], by trivial⟩
  case rest =>
  obtain ⟨rfl, hwc⟩ := hcut
  rw [hwc]
  clear hwc
  go_upto_region 3 with fail
  go_cut [7] (fun t wx => t = .bool (x13 == y13 && x14 == y14) ∧ wx = W)
  case first =>
    by_cases h13 : x13 = y13
    · subst h13
      by_cases h14 : x14 = y14
      · subst h14
        go_wp2_with fail
        go_meet
        exact ⟨by first | rfl | simp [*], by trivial⟩
      · have hb14 : (x14 == y14) = false := beq_eq_false_iff_ne.2 h14
        go_wp2_with fail
        go_meet
        exact ⟨by first | rfl | simp [*], by trivial⟩
    · have hb13 : (x13 == y13) = false := beq_eq_false_iff_ne.2 h13
      go_wp2_with fail
      go_meet
      exact ⟨by first | rfl | simp [*], by trivial⟩
  case rest =>
  obtain ⟨rfl, hwc⟩ := hcut
  rw [hwc]
  clear hwc
  go_upto_region 4 with fail
  go_cut [8] (fun t wx => t = .bool (x15 == y15 && (x16 == y16 && x17 == y17)) ∧ wx = W)
  case first =>
    by_cases h15 : x15 = y15
    · subst h15
      by_cases h16 : x16 = y16
      · subst h16
        by_cases h17 : x17 = y17
        · subst h17
          go_wp2_with fail
          go_meet
          exact ⟨by first | rfl | simp [*], by trivial⟩
        · have hb17 : (x17 == y17) = false := beq_eq_false_iff_ne.2 h17
          go_wp2_with fail
          go_meet
          exact ⟨by first | rfl | simp [*], by trivial⟩
      · have hb16 : (x16 == y16) = false := beq_eq_false_iff_ne.2 h16
        go_wp2_with fail
        go_meet
        exact ⟨by first | rfl | simp [*], by trivial⟩
    · have hb15 : (x15 == y15) = false := beq_eq_false_iff_ne.2 h15
      go_wp2_with fail
      go_meet
      exact ⟨by first | rfl | simp [*], by trivial⟩
  case rest =>
  obtain ⟨rfl, hwc⟩ := hcut
  rw [hwc]
  clear hwc
  obtain ⟨d1, hd1⟩ : ∃ d, (z0 && (z1 && z2)) = d := ⟨_, rfl⟩
  obtain ⟨d2, hd2⟩ : ∃ d, (x11 == y11 && x12 == y12) = d := ⟨_, rfl⟩
  obtain ⟨d3, hd3⟩ : ∃ d, (x13 == y13 && x14 == y14) = d := ⟨_, rfl⟩
  obtain ⟨d4, hd4⟩ : ∃ d, (x15 == y15 && (x16 == y16 && x17 == y17)) = d := ⟨_, rfl⟩
  have HD := Lib.hid (show S = (d1 && (d2 && (d3 && d4))) by rw [HS.out, ← hd1, ← hd2, ← hd3, ← hd4]; simp only [Bool.and_assoc])
  rw [hd1, hd2, hd3, hd4]
  clear hd1 hd2 hd3 hd4 HS
  go_upto_region 5 with fail
  cases d1
  · go_wp2_with fail
    go_ret
    exact ⟨ret_bool (by rw [HD.out]; simp), HK.out⟩
  · cases d2
    · go_wp2_with fail
      go_ret
      exact ⟨ret_bool (by rw [HD.out]; simp), HK.out⟩
    · cases d3
      · go_wp2_with fail
        go_ret
        exact ⟨ret_bool (by rw [HD.out]; simp), HK.out⟩
      · cases d4
        · go_wp2_with fail
          go_ret
          exact ⟨ret_bool (by rw [HD.out]; simp), HK.out⟩
        · go_wp2_with (go_at_call 39; refine HC.out.mono ?_; rintro e w1 ⟨rfl, k1⟩)
          go_ret
          exact ⟨ret_bool (by rw [HD.out]; simp), HK.out.trans k1⟩

end Go.Proofs.Ytiaafjabhnomeaa.Ow
