/- The law's own: may an owner be; are packets parsed as they were told. -/
import Derived.Test.YtncdiggejofbbaaGreatDoorSnJ
namespace Go.Proofs.YtncdiggejofbbaaGreatDoor.Sn
open Go.RowKit Go.Sort Go.Shelf St PkM Ad Po Blk Eqs IdM
open Go.Proofs.YtncdiggejofbbaaGreatDoor.Cl
open Go.Proofs.YtncdiggejofbbaaGreatDoor.Ow
open Go.Proofs.YtncdiggejofbbaaGreatDoor.Ls
open Go.Proofs.YtncdiggejofbbaaGreatDoor.Rv
open Go.Proofs.YtncdiggejofbbaaGreatDoor.Au (Stab stab_and)
open Go.Proofs.YtncdiggejofbbaaGreatDoor.Ad (load_w load_l store_new)
set_option linter.unusedVariables false
set_option linter.unusedSimpArgs false

theorem load_pkm {u : World} {b o : Nat} {p : Pk} {X : Array Value} (hX : p.arr = X) (h : ∀ j x, (encP p)[j]? = some x → u.cell? ⟨b, o + j, none⟩ = some x) : (loadVar 43 ⟨b, o, none⟩).run Tryz.prog u = .ok (.agg X) u := by
  subst hX; exact run_loadVar_mid u b o _ (encP p) _ h Tryz.underlying43 rfl info_pk
theorem all_yes {K : List Cl} {f : Cl → Bool} {i : Nat} {x : Cl} (h : (K.take i).all f = true) (hx : K[i]? = some x) (hf : f x = true) : (K.take (i + 1)).all f = true := by
  rw [List.take_add_one, hx, List.all_append, h]; simp [hf]
theorem all_no {K : List Cl} {f : Cl → Bool} {i : Nat} {x : Cl} (hx : K[i]? = some x) (hf : f x = false) : K.all f = false := by
  rw [Bool.eq_false_iff]
  intro h
  have := List.all_eq_true.1 h x (List.mem_of_getElem? hx)
  rw [hf] at this; cases this

set_option maxRecDepth 100000 in
set_option maxHeartbeats 4000000 in
theorem may_any {w : World} {q : Option Addr} {N c : Nat} {K : List Cl} (me : Int) (o : Ow) (hv : Cls w (.slice q N c) K) :
    Calls Tryz.prog 4 #[.int .i64 me, .agg (o.arr q N c)] w fun e w' => e = .returned (.bool (mayB me o K)) ∧ Kept w w' := by
  have hN : K.length = N := by obtain ⟨p, cap, e⟩ := hv.shape; cases e; rfl
  obtain ⟨A, hA⟩ : ∃ A, o.arr q N c = A := ⟨_, rfl⟩
  obtain ⟨W, hW⟩ : ∃ W, w.alloc (.cells A 31) = W := ⟨_, rfl⟩
  have hb : Bl w W [(A, 31)] := hW ▸ Bl.one w A _
  have c11 : A[11]? = some (.int .i64 o.fr) := by rw [← hA]; rfl
  have c12 : A[12]? = some (.int .i64 o.hp) := by rw [← hA]; rfl
  have c18 : A[18]? = some (.slice q N c) := by rw [← hA]; rfl
  have lk := fun (u : World) (hu : Kept W u) => load_key (u := u) (b := w.heap.size) (o := 0) (((hb.go hu).cell 0 0 rfl).trans (show A[0]? = some (.int .i64 o.kn) by rw [← hA]; rfl)) (((hb.go hu).cell 0 1 rfl).trans (show A[1]? = some (.int .i64 o.ki) by rw [← hA]; rfl)) (((hb.go hu).cell 0 2 rfl).trans (show A[2]? = some (.int .i64 o.ks) by rw [← hA]; rfl)) (((hb.go hu).cell 0 3 rfl).trans (show A[3]? = some (.int .i64 o.ka) by rw [← hA]; rfl))
  have li := fun (u : World) (hu : Kept W u) => load_id (u := u) (b := w.heap.size) (o := 4) (((hb.go hu).cell 0 4 rfl).trans (show A[4]? = some (.int .i64 o.rn) by rw [← hA]; rfl)) (((hb.go hu).cell 0 5 rfl).trans (show A[5]? = some (.int .i64 o.ri) by rw [← hA]; rfl)) (((hb.go hu).cell 0 6 rfl).trans (show A[6]? = some (.int .i64 o.rs) by rw [← hA]; rfl))
  have lk0 := lk W (Kept.refl W)
  have LI := Lib.hid li
  obtain ⟨b2, h2⟩ : ∃ b, keyB o.kn o.ki o.ks o.ka = b := ⟨_, rfl⟩
  obtain ⟨b3, h3⟩ : ∃ b, rightB o.rn o.ri o.rs = b := ⟨_, rfl⟩
  have C2 := Lib.hid (show ∀ u, Calls Tryz.prog 16 #[.agg #[.int .i64 o.kn, .int .i64 o.ki, .int .i64 o.ks, .int .i64 o.ka]] u fun e w' => e = .returned (.bool b2) ∧ Kept u w' from fun u => Id.rkey_as (Lib.hid h2))
  have C3 := Lib.hid (show ∀ u, Calls Tryz.prog 17 #[.agg #[.int .i64 o.rn, .int .i64 o.ri, .int .i64 o.rs]] u fun e w' => e = .returned (.bool b3) ∧ Kept u w' from fun u => Id.rright_as (Lib.hid h3))
  obtain ⟨z, hz⟩ : ∃ z, mayB me o K = z := ⟨_, rfl⟩
  have HZ := Lib.hid (show z = (decide (0 ≤ me) && (decide (me ≤ 63) && (b2 && (b3 && (decide (0 ≤ o.fr) && (decide (o.fr ≤ 63) && (decide (0 ≤ o.hp) && (decide (N ≤ 30) && K.all inB)))))))) by rw [← hz, mayB, h2, h3, hN])
  have HW := Lib.hid hW
  have HB := Lib.hid hb
  have HV := Lib.hid hv
  have HN := Lib.hid hN
  rw [hz, hA]
  clear hA hW hb hv hN h2 h3 hz lk li
  by_cases e0 : me < 0
  · have f0 : decide (0 ≤ me) = false := decide_eq_false (by omega)
    go_enter Tryz.func4, Tryz.ntmps4
    go_upto_region 1 with fail
    rw [HW.out]
    go_wp2_with (first
      | (refine load_l 28 (.tmp 13) rfl _ rfl rfl _ lk0 ?_)
      | (go_at_call 16; refine (C2.out _).mono ?_; rintro e w1 ⟨rfl, k1⟩; have li1 := LI.out w1 k1)
      | (refine load_l 26 (.tmp 19) rfl _ rfl rfl _ li1 ?_)
      | (go_at_call 17; refine (C3.out _).mono ?_; rintro e w2 ⟨rfl, k2⟩; have k12 := k1.trans k2; have y11 : w2.cell? ⟨w.heap.size, 11, none⟩ = some (.int .i64 o.fr) := ((HB.out.go k12).cell 0 11 rfl).trans c11; have y12 : w2.cell? ⟨w.heap.size, 12, none⟩ = some (.int .i64 o.hp) := ((HB.out.go k12).cell 0 12 rfl).trans c12; have y18 : w2.cell? ⟨w.heap.size, 18, none⟩ = some (.slice q N c) := ((HB.out.go k12).cell 0 18 rfl).trans c18))
    go_ret
    exact ⟨ret_bool (by rw [HZ.out]; simp [*]), HB.out.kept⟩
  have f0 : decide (0 ≤ me) = true := decide_eq_true (by omega)
  have d0 : decide (me < 0) = false := decide_eq_false e0
  by_cases e1 : 63 < me
  · have f1 : decide (me ≤ 63) = false := decide_eq_false (by omega)
    go_enter Tryz.func4, Tryz.ntmps4
    go_upto_region 1 with fail
    rw [HW.out]
    go_wp2_with (first
      | (refine load_l 28 (.tmp 13) rfl _ rfl rfl _ lk0 ?_)
      | (go_at_call 16; refine (C2.out _).mono ?_; rintro e w1 ⟨rfl, k1⟩; have li1 := LI.out w1 k1)
      | (refine load_l 26 (.tmp 19) rfl _ rfl rfl _ li1 ?_)
      | (go_at_call 17; refine (C3.out _).mono ?_; rintro e w2 ⟨rfl, k2⟩; have k12 := k1.trans k2; have y11 : w2.cell? ⟨w.heap.size, 11, none⟩ = some (.int .i64 o.fr) := ((HB.out.go k12).cell 0 11 rfl).trans c11; have y12 : w2.cell? ⟨w.heap.size, 12, none⟩ = some (.int .i64 o.hp) := ((HB.out.go k12).cell 0 12 rfl).trans c12; have y18 : w2.cell? ⟨w.heap.size, 18, none⟩ = some (.slice q N c) := ((HB.out.go k12).cell 0 18 rfl).trans c18))
    go_ret
    exact ⟨ret_bool (by rw [HZ.out]; simp [*]), HB.out.kept⟩
  have f1 : decide (me ≤ 63) = true := decide_eq_true (by omega)
  have d1 : decide (63 < me) = false := decide_eq_false e1
  cases b2
  · go_enter Tryz.func4, Tryz.ntmps4
    go_upto_region 1 with fail
    rw [HW.out]
    go_wp2_with (first
      | (refine load_l 28 (.tmp 13) rfl _ rfl rfl _ lk0 ?_)
      | (go_at_call 16; refine (C2.out _).mono ?_; rintro e w1 ⟨rfl, k1⟩; have li1 := LI.out w1 k1)
      | (refine load_l 26 (.tmp 19) rfl _ rfl rfl _ li1 ?_)
      | (go_at_call 17; refine (C3.out _).mono ?_; rintro e w2 ⟨rfl, k2⟩; have k12 := k1.trans k2; have y11 : w2.cell? ⟨w.heap.size, 11, none⟩ = some (.int .i64 o.fr) := ((HB.out.go k12).cell 0 11 rfl).trans c11; have y12 : w2.cell? ⟨w.heap.size, 12, none⟩ = some (.int .i64 o.hp) := ((HB.out.go k12).cell 0 12 rfl).trans c12; have y18 : w2.cell? ⟨w.heap.size, 18, none⟩ = some (.slice q N c) := ((HB.out.go k12).cell 0 18 rfl).trans c18))
    go_ret
    exact ⟨ret_bool (by rw [HZ.out]; simp [*]), HB.out.kept.trans k1⟩
  cases b3
  · go_enter Tryz.func4, Tryz.ntmps4
    go_upto_region 1 with fail
    rw [HW.out]
    go_wp2_with (first
      | (refine load_l 28 (.tmp 13) rfl _ rfl rfl _ lk0 ?_)
      | (go_at_call 16; refine (C2.out _).mono ?_; rintro e w1 ⟨rfl, k1⟩; have li1 := LI.out w1 k1)
      | (refine load_l 26 (.tmp 19) rfl _ rfl rfl _ li1 ?_)
      | (go_at_call 17; refine (C3.out _).mono ?_; rintro e w2 ⟨rfl, k2⟩; have k12 := k1.trans k2; have y11 : w2.cell? ⟨w.heap.size, 11, none⟩ = some (.int .i64 o.fr) := ((HB.out.go k12).cell 0 11 rfl).trans c11; have y12 : w2.cell? ⟨w.heap.size, 12, none⟩ = some (.int .i64 o.hp) := ((HB.out.go k12).cell 0 12 rfl).trans c12; have y18 : w2.cell? ⟨w.heap.size, 18, none⟩ = some (.slice q N c) := ((HB.out.go k12).cell 0 18 rfl).trans c18))
    go_ret
    exact ⟨ret_bool (by rw [HZ.out]; simp [*]), HB.out.kept.trans k12⟩
  by_cases e4 : o.fr < 0
  · have f4 : decide (0 ≤ o.fr) = false := decide_eq_false (by omega)
    go_enter Tryz.func4, Tryz.ntmps4
    go_upto_region 1 with fail
    rw [HW.out]
    go_wp2_with (first
      | (refine load_l 28 (.tmp 13) rfl _ rfl rfl _ lk0 ?_)
      | (go_at_call 16; refine (C2.out _).mono ?_; rintro e w1 ⟨rfl, k1⟩; have li1 := LI.out w1 k1)
      | (refine load_l 26 (.tmp 19) rfl _ rfl rfl _ li1 ?_)
      | (go_at_call 17; refine (C3.out _).mono ?_; rintro e w2 ⟨rfl, k2⟩; have k12 := k1.trans k2; have y11 : w2.cell? ⟨w.heap.size, 11, none⟩ = some (.int .i64 o.fr) := ((HB.out.go k12).cell 0 11 rfl).trans c11; have y12 : w2.cell? ⟨w.heap.size, 12, none⟩ = some (.int .i64 o.hp) := ((HB.out.go k12).cell 0 12 rfl).trans c12; have y18 : w2.cell? ⟨w.heap.size, 18, none⟩ = some (.slice q N c) := ((HB.out.go k12).cell 0 18 rfl).trans c18))
    go_ret
    exact ⟨ret_bool (by rw [HZ.out]; simp [*]), HB.out.kept.trans k12⟩
  have f4 : decide (0 ≤ o.fr) = true := decide_eq_true (by omega)
  have d4 : decide (o.fr < 0) = false := decide_eq_false e4
  by_cases e5 : 63 < o.fr
  · have f5 : decide (o.fr ≤ 63) = false := decide_eq_false (by omega)
    go_enter Tryz.func4, Tryz.ntmps4
    go_upto_region 1 with fail
    rw [HW.out]
    go_wp2_with (first
      | (refine load_l 28 (.tmp 13) rfl _ rfl rfl _ lk0 ?_)
      | (go_at_call 16; refine (C2.out _).mono ?_; rintro e w1 ⟨rfl, k1⟩; have li1 := LI.out w1 k1)
      | (refine load_l 26 (.tmp 19) rfl _ rfl rfl _ li1 ?_)
      | (go_at_call 17; refine (C3.out _).mono ?_; rintro e w2 ⟨rfl, k2⟩; have k12 := k1.trans k2; have y11 : w2.cell? ⟨w.heap.size, 11, none⟩ = some (.int .i64 o.fr) := ((HB.out.go k12).cell 0 11 rfl).trans c11; have y12 : w2.cell? ⟨w.heap.size, 12, none⟩ = some (.int .i64 o.hp) := ((HB.out.go k12).cell 0 12 rfl).trans c12; have y18 : w2.cell? ⟨w.heap.size, 18, none⟩ = some (.slice q N c) := ((HB.out.go k12).cell 0 18 rfl).trans c18))
    go_ret
    exact ⟨ret_bool (by rw [HZ.out]; simp [*]), HB.out.kept.trans k12⟩
  have f5 : decide (o.fr ≤ 63) = true := decide_eq_true (by omega)
  have d5 : decide (63 < o.fr) = false := decide_eq_false e5
  by_cases e6 : o.hp < 0
  · have f6 : decide (0 ≤ o.hp) = false := decide_eq_false (by omega)
    go_enter Tryz.func4, Tryz.ntmps4
    go_upto_region 1 with fail
    rw [HW.out]
    go_wp2_with (first
      | (refine load_l 28 (.tmp 13) rfl _ rfl rfl _ lk0 ?_)
      | (go_at_call 16; refine (C2.out _).mono ?_; rintro e w1 ⟨rfl, k1⟩; have li1 := LI.out w1 k1)
      | (refine load_l 26 (.tmp 19) rfl _ rfl rfl _ li1 ?_)
      | (go_at_call 17; refine (C3.out _).mono ?_; rintro e w2 ⟨rfl, k2⟩; have k12 := k1.trans k2; have y11 : w2.cell? ⟨w.heap.size, 11, none⟩ = some (.int .i64 o.fr) := ((HB.out.go k12).cell 0 11 rfl).trans c11; have y12 : w2.cell? ⟨w.heap.size, 12, none⟩ = some (.int .i64 o.hp) := ((HB.out.go k12).cell 0 12 rfl).trans c12; have y18 : w2.cell? ⟨w.heap.size, 18, none⟩ = some (.slice q N c) := ((HB.out.go k12).cell 0 18 rfl).trans c18))
    go_ret
    exact ⟨ret_bool (by rw [HZ.out]; simp [*]), HB.out.kept.trans k12⟩
  have f6 : decide (0 ≤ o.hp) = true := decide_eq_true (by omega)
  have d6 : decide (o.hp < 0) = false := decide_eq_false e6
  by_cases e7 : 30 < (N : Int)
  · have f7 : decide (N ≤ 30) = false := decide_eq_false (by omega)
    go_enter Tryz.func4, Tryz.ntmps4
    go_upto_region 1 with fail
    rw [HW.out]
    go_wp2_with (first
      | (refine load_l 28 (.tmp 13) rfl _ rfl rfl _ lk0 ?_)
      | (go_at_call 16; refine (C2.out _).mono ?_; rintro e w1 ⟨rfl, k1⟩; have li1 := LI.out w1 k1)
      | (refine load_l 26 (.tmp 19) rfl _ rfl rfl _ li1 ?_)
      | (go_at_call 17; refine (C3.out _).mono ?_; rintro e w2 ⟨rfl, k2⟩; have k12 := k1.trans k2; have y11 : w2.cell? ⟨w.heap.size, 11, none⟩ = some (.int .i64 o.fr) := ((HB.out.go k12).cell 0 11 rfl).trans c11; have y12 : w2.cell? ⟨w.heap.size, 12, none⟩ = some (.int .i64 o.hp) := ((HB.out.go k12).cell 0 12 rfl).trans c12; have y18 : w2.cell? ⟨w.heap.size, 18, none⟩ = some (.slice q N c) := ((HB.out.go k12).cell 0 18 rfl).trans c18))
    go_ret
    exact ⟨ret_bool (by rw [HZ.out]; simp [*]), HB.out.kept.trans k12⟩
  have f7 : decide (N ≤ 30) = true := decide_eq_true (by omega)
  have HF := Lib.hid (show z = K.all inB by rw [HZ.out, f0, f1, f4, f5, f6, f7]; rfl)
  have hm2 : N ≤ 30 := by omega
  clear HZ f0 f1 f4 f5 f6 f7
  go_enter Tryz.func4, Tryz.ntmps4
  go_upto_region 1 with fail
  rw [HW.out]
  go_upto_region 4 with (first
    | (refine load_l 28 (.tmp 13) rfl _ rfl rfl _ lk0 ?_)
    | (go_at_call 16; refine (C2.out _).mono ?_; rintro e w1 ⟨rfl, k1⟩; have li1 := LI.out w1 k1)
    | (refine load_l 26 (.tmp 19) rfl _ rfl rfl _ li1 ?_)
    | (go_at_call 17; refine (C3.out _).mono ?_; rintro e w2 ⟨rfl, k2⟩; have k12 := k1.trans k2; have y11 : w2.cell? ⟨w.heap.size, 11, none⟩ = some (.int .i64 o.fr) := ((HB.out.go k12).cell 0 11 rfl).trans c11; have y12 : w2.cell? ⟨w.heap.size, 12, none⟩ = some (.int .i64 o.hp) := ((HB.out.go k12).cell 0 12 rfl).trans c12; have y18 : w2.cell? ⟨w.heap.size, 18, none⟩ = some (.slice q N c) := ((HB.out.go k12).cell 0 18 rfl).trans c18))
  have HB2 := Lib.hid (HB.out.go k12)
  clear y11 y12 y18 k12 k1 k2 li1 lk0 e0 e1 e4 e5 e6 e7 d0 d1 d4 d5 d6
  go_loopw [5] (fun y wr => ∃ i : Nat, i ≤ N ∧ y = .int .i64 (i : Int) ∧ Hid (Bl w wr [(A, 31)]) ∧ Hid ((K.take i).all inB = true)) (fun y _ => N - (intOf y).toNat)
  case atStart => exact ⟨0, Nat.zero_le _, rfl, HB2, Lib.hid rfl⟩
  case round =>
    obtain ⟨i, hi, rfl, hk, hall⟩ := hrel
    have h18 : wr.cell? ⟨w.heap.size, 18, none⟩ = some (.slice q N c) := (hk.out.cell 0 18 rfl).trans c18
    by_cases hlt : i < N
    · obtain ⟨x, b, off, hx, rfl, hbb, hc⟩ := (HV.out.go hk.out.kept).pick (i := i) (by rw [HN.out]; exact hlt)
      have hi1 : (i : Int) < (N : Int) := by omega
      obtain ⟨X, hX⟩ : ∃ X, x.arr = X := ⟨_, rfl⟩
      have hl := load_rcall hX hc
      have ha : ∀ u, Kept wr u → u.cell? ⟨b, off + i * 13 + 5, none⟩ = some (.int .i64 x.att) := fun u hu => (Below.cell hu (p := ⟨b, _, none⟩) hbb).trans (hc 5 _ rfl)
      have HA := Lib.hid ha
      obtain ⟨b1, hb1⟩ : ∃ y, oneB x = y := ⟨_, rfl⟩
      have CO := Lib.hid (show ∀ u, Calls Tryz.prog 5 #[.agg X] u fun e w' => e = .returned (.bool b1) ∧ Kept u w' from fun u => by rw [← hX, ← hb1]; exact mone_any x u)
      have HX := Lib.hid (And.intro hx hb1)
      clear hX hc hx hb1 ha
      cases b1
      · have HR := Lib.hid (show K.all inB = false from all_no HX.out.1 (by unfold inB; rw [HX.out.2]; rfl))
        go_wp2_with (first
          | (refine load_l 33 (.tmp 55) rfl _ rfl rfl (.agg X) hl ?_)
          | (go_at_call 5; refine (CO.out _).mono ?_; rintro e w3 ⟨rfl, k3⟩))
        go_ret
        exact ⟨ret_bool (by rw [HF.out, HR.out]), hk.out.kept.trans k3⟩
      · by_cases h1 : x.att < 1
        · have HR := Lib.hid (show K.all inB = false from all_no HX.out.1 (by unfold inB; rw [HX.out.2, decide_eq_false (by omega)]; rfl))
          go_wp2_with (first
            | (refine load_l 33 (.tmp 55) rfl _ rfl rfl (.agg X) hl ?_)
            | (go_at_call 5; refine (CO.out _).mono ?_; rintro e w3 ⟨rfl, k3⟩; have y18 : w3.cell? ⟨w.heap.size, 18, none⟩ = some (.slice (some ⟨b, off, none⟩) N c) := ((hk.out.go k3).cell 0 18 rfl).trans c18; have y5 : w3.cell? ⟨b, off + i * 13 + 5, none⟩ = some (.int .i64 x.att) := HA.out w3 k3))
          go_ret
          exact ⟨ret_bool (by rw [HF.out, HR.out]), hk.out.kept.trans k3⟩
        · have HR := Lib.hid (show (K.take (i + 1)).all inB = true from all_yes hall.out HX.out.1 (by unfold inB; rw [HX.out.2, decide_eq_true (by omega)]; rfl))
          go_wp2_with (first
            | (refine load_l 33 (.tmp 55) rfl _ rfl rfl (.agg X) hl ?_)
            | (go_at_call 5; refine (CO.out _).mono ?_; rintro e w3 ⟨rfl, k3⟩; have y18 : w3.cell? ⟨w.heap.size, 18, none⟩ = some (.slice (some ⟨b, off, none⟩) N c) := ((hk.out.go k3).cell 0 18 rfl).trans c18; have y5 : w3.cell? ⟨b, off + i * 13 + 5, none⟩ = some (.int .i64 x.att) := HA.out w3 k3))
          go_roundw
          case rel => exact ⟨i + 1, hlt, by go_num, Lib.hid (hk.out.go k3), HR⟩
          case measure => simp [intOf]; omega
    · obtain rfl : i = N := by omega
      have HR := Lib.hid (show K.all inB = true by have := hall.out; rwa [List.take_of_length_le (by rw [HN.out]; exact Nat.le_refl _)] at this)
      go_wp2_with fail
      go_ret
      exact ⟨ret_bool (by rw [HF.out, HR.out]), hk.out.kept⟩

set_option maxRecDepth 100000 in
set_option maxHeartbeats 4000000 in
theorem mback_any {w : World} {v : Value} {L : List Pk} (hv : Ls 23 encP w v L) (hl : L.length ≤ 900000) (hok : ∀ p ∈ L, Ok p) (ht : Cr.Tab w) :
    Calls Tryz.prog 15 #[v] w fun e w' => e = .returned (.bool true) ∧ Kept w w' := by
  obtain ⟨q, N, cc, rfl, hN, _⟩ := hv.slice
  have HV := Lib.hid hv
  have HN := Lib.hid hN
  have HOK := Lib.hid hok
  have HT := Lib.hid ht
  have hm2 : N ≤ 900000 := by omega
  clear hv hN hl hok ht
  go_enter Tryz.func15, Tryz.ntmps15
  go_upto_region 2 with fail
  go_loopw [3] (fun y wr => ∃ i : Nat, i ≤ N ∧ y = .int .i64 (i : Int) ∧ Hid (Kept w wr)) (fun y _ => N - (intOf y).toNat)
  case atStart => exact ⟨0, Nat.zero_le _, rfl, Lib.hid (Kept.refl _)⟩
  case round =>
    obtain ⟨i, hi, rfl, hk⟩ := hrel
    by_cases hlt : i < N
    · obtain ⟨p, b, off, hp, rfl, hbb, hc⟩ := (HV.out.go hk.out).pick (i := i) (by rw [HN.out]; exact hlt)
      have hi1 : (i : Int) < (N : Int) := by omega
      have ho := HOK.out p (List.mem_of_getElem? hp)
      obtain ⟨D, hD, hs, hDL, _⟩ := Pk.code_named p
      have hrest := Lib.hid (Pk.ok_rest ho.1)
      have CC := Lib.hid (show ∀ u, Kept w u → Calls Tryz.prog 32 #[.agg p.arr] u fun e w' => e = .returned (.string D) ∧ Kept u w' from fun u hu => Pk.code_pk hrest hD (HT.out.kept hu))
      have CP := Lib.hid (show ∀ u, Kept w u → Calls Tryz.prog 31 #[.string D] u fun e w' => e = .returned (.tuple #[.agg p.arr, .int .i64 0]) ∧ Kept u w' from fun u hu => by
        have := Pk.parse_any D (by omega) u (HT.out.kept hu)
        have h2 := Pk.prs_code ho.1 (by have h : p.tm.data.toList.length ≤ 20 := ho.2; omega)
        rw [hDL.out, h2.1, h2.2] at this
        exact this)
      have CR := Lib.hid (show ∀ u, Calls Tryz.prog 33 #[.agg p.arr] u fun e w' => e = .returned (.bool true) ∧ Kept u w' from fun u => Pk.okp_as (Lib.hid ho.1))
      obtain ⟨P, hP⟩ : ∃ P, p.arr = P := ⟨_, rfl⟩
      have sP : P.size = 23 := by rw [← hP]; rfl
      have oP : P.all (·.oneCell') = true := by rw [← hP]; exact pk_one p
      have HL := Lib.hid (fun (u : World) (hu : Kept wr u) => load_pkm (u := u) (b := b) (o := off + i * 23) hP (fun j z hz => (Below.cell hu (p := ⟨b, _, none⟩) hbb).trans (hc j z hz)))
      have hl0 := HL.out wr (Kept.refl _)
      have he : ∀ u, (binOp .neq 43 (.agg P) (.agg P)).run Tryz.prog u = .ok (.bool false) u := fun u => by rw [← hP]; exact (Pk.neq_run p p u).trans (by rw [same_self]; rfl)
      rw [hP] at CC CP CR
      clear hP hc hp ho hD hs hDL hrest
      go_upto_region 5 with (first
        | (refine load_l 43 (.tmp 15) rfl _ rfl rfl (.agg P) hl0 ?_)
        | (go_at_call 32; refine (CC.out _ hk.out).mono ?_; rintro e w1 ⟨rfl, k1⟩)
        | (go_at_call 31; refine (CP.out _ (hk.out.trans k1)).mono ?_; rintro e w2 ⟨rfl, k2⟩)
        | (refine store_new rfl 43 (.tmp 4) (.tmp 19) rfl w2.heap.size P rfl rfl w2 _ rfl 23 info_pk sP rfl oP ?_))
      obtain ⟨V, hV⟩ : ∃ V, w2.alloc (.cells P 43) = V := ⟨_, rfl⟩
      rw [hV]
      have bV : V.heap[w2.heap.size]? = some (.cells P 43 (0, 0)) := by rw [← hV]; exact blk_new w2 _
      have kV : Kept wr V := (k1.trans k2).trans (by rw [← hV]; exact Kept.one _ _)
      obtain ⟨g, hg⟩ : ∃ g, w2.heap.size = g := ⟨_, rfl⟩
      rw [hg] at bV ⊢
      have HZ := Lib.hid (And.intro kV bV)
      clear hV kV bV hg k1 k2 hl0
      have hST : Stab (fun u => Kept wr u ∧ u.heap[g]? = some (.cells P 43 (0, 0))) ∧ ∀ u, (fun u => Kept wr u ∧ u.heap[g]? = some (.cells P 43 (0, 0))) u → (fun u => Kept wr u ∧ u.heap[g]? = some (.cells P 43 (0, 0))) u := ⟨(stab_and (fun u u' h k => h.trans k) blk_stab), fun u h => ⟨h.1, h.2⟩⟩
      refine AvT.region (fun u => Kept wr u ∧ u.heap[g]? = some (.cells P 43 (0, 0))) (fun u => Kept wr u ∧ u.heap[g]? = some (.cells P 43 (0, 0))) (by kernel_rfl) (hST.1 _ _ HZ.out (Kept.refl _).drew) ?_
      refine AvT.take 0 (some 21) (v := ?_) rfl rfl (by kernel_rfl) (by kernel_rfl) (by kernel_rfl) (fun _ _ _ h => h) hST (Au.yq_run (by rfl) (fun u hu => ?_)) ?_
      rotate_left
      · (clear hu; go_simp; try with_reducible rfl)
      simp only [Act.put, List.setIfInBounds_toArray, List.set_cons_zero, List.set_cons_succ]
      refine AvT.take 1 (some 22) (v := ?_) rfl rfl (by kernel_rfl) (by kernel_rfl) (by kernel_rfl) (fun _ _ _ h => h) hST (Au.yq_run (by rfl) (fun u hu => ?_)) ?_
      rotate_left
      · (clear hu; go_simp; try with_reducible rfl)
      simp only [Act.put, List.setIfInBounds_toArray, List.set_cons_zero, List.set_cons_succ]
      refine AvT.take 2 (some 23) (v := ?_) rfl rfl (by kernel_rfl) (by kernel_rfl) (by kernel_rfl) (fun _ _ _ h => h) hST (Au.yq_run (by rfl) (fun u hu => ?_)) ?_
      rotate_left
      · (clear hu; go_simp; try with_reducible rfl)
      simp only [Act.put, List.setIfInBounds_toArray, List.set_cons_zero, List.set_cons_succ]
      refine AvT.take 3 (some 24) rfl rfl (by kernel_rfl) (by kernel_rfl) (by kernel_rfl) (fun _ _ _ h => h) hST (Au.yq_load 43 (.tmp 23) rfl _ rfl (by rfl) (fun u hu => HL.out u hu.1)) ?_
      simp only [Act.put, List.setIfInBounds_toArray, List.set_cons_zero, List.set_cons_succ]
      refine AvT.take 4 (some 25) rfl rfl (by kernel_rfl) (by kernel_rfl) (by kernel_rfl) (fun _ _ _ h => h) hST (Au.yq_call 33 _ (by rfl) (fun u => by go_simp) (fun u hu => CR.out u)) ?_
      simp only [Act.put, List.setIfInBounds_toArray, List.set_cons_zero, List.set_cons_succ]
      refine AvT.take 5 (some 26) (v := ?_) rfl rfl (by kernel_rfl) (by kernel_rfl) (by kernel_rfl) (fun _ _ _ h => h) hST (Au.yq_run (by rfl) (fun u hu => ?_)) ?_
      rotate_left
      · (clear hu; go_simp; try with_reducible rfl)
      simp only [Act.put, List.setIfInBounds_toArray, List.set_cons_zero, List.set_cons_succ]
      refine AvT.take 6 (some 27) (v := ?_) rfl rfl (by kernel_rfl) (by kernel_rfl) (by kernel_rfl) (fun _ _ _ h => h) hST (Au.yq_run (by rfl) (fun u hu => ?_)) ?_
      rotate_left
      · (clear hu; go_simp; try with_reducible rfl)
      simp only [Act.put, List.setIfInBounds_toArray, List.set_cons_zero, List.set_cons_succ]
      refine AvT.take 7 (some 28) (v := ?_) rfl rfl (by kernel_rfl) (by kernel_rfl) (by kernel_rfl) (fun _ _ _ h => h) hST (Au.yq_run (by rfl) (fun u hu => ?_)) ?_
      rotate_left
      · (clear hu; go_simp; try with_reducible rfl)
      simp only [Act.put, List.setIfInBounds_toArray, List.set_cons_zero, List.set_cons_succ]
      refine AvT.take 8 (some 29) (v := .bool false) rfl rfl (by kernel_rfl) (by kernel_rfl) (by kernel_rfl) (fun _ _ _ h => h) hST (Au.yq_run (by rfl) (fun u hu => ?_)) ?_
      · (clear hu; go_simp; (try simp_all))
      simp only [Act.put, List.setIfInBounds_toArray, List.set_cons_zero, List.set_cons_succ]
      refine AvT.take 9 (some 30) (v := ?_) rfl rfl (by kernel_rfl) (by kernel_rfl) (by kernel_rfl) (fun _ _ _ h => h) hST (Au.yq_run (by rfl) (fun u hu => ?_)) ?_
      rotate_left
      · (clear hu; go_simp; try with_reducible rfl)
      simp only [Act.put, List.setIfInBounds_toArray, List.set_cons_zero, List.set_cons_succ]
      refine AvT.take 10 (some 31) (v := ?_) rfl rfl (by kernel_rfl) (by kernel_rfl) (by kernel_rfl) (fun _ _ _ h => h) hST (Au.yq_run (by rfl) (fun u hu => ?_)) ?_
      rotate_left
      · (clear hu; go_simp; try with_reducible rfl)
      simp only [Act.put, List.setIfInBounds_toArray, List.set_cons_zero, List.set_cons_succ]
      refine AvT.take 11 (some 32) rfl rfl (by kernel_rfl) (by kernel_rfl) (by kernel_rfl) (fun _ _ _ h => h) hST (Au.yq_load 43 (.tmp 4) rfl _ rfl (by rfl) (fun u hu => load_pk hu.2 sP)) ?_
      simp only [Act.put, List.setIfInBounds_toArray, List.set_cons_zero, List.set_cons_succ]
      refine AvT.take 12 (some 33) (v := ?_) rfl rfl (by kernel_rfl) (by kernel_rfl) (by kernel_rfl) (fun _ _ _ h => h) hST (Au.yq_run (by rfl) (fun u hu => ?_)) ?_
      rotate_left
      · (clear hu; go_simp; try with_reducible rfl)
      simp only [Act.put, List.setIfInBounds_toArray, List.set_cons_zero, List.set_cons_succ]
      refine AvT.take 13 (some 34) (v := ?_) rfl rfl (by kernel_rfl) (by kernel_rfl) (by kernel_rfl) (fun _ _ _ h => h) hST (Au.yq_run (by rfl) (fun u hu => ?_)) ?_
      rotate_left
      · (clear hu; go_simp; try with_reducible rfl)
      simp only [Act.put, List.setIfInBounds_toArray, List.set_cons_zero, List.set_cons_succ]
      refine AvT.take 14 (some 35) (v := ?_) rfl rfl (by kernel_rfl) (by kernel_rfl) (by kernel_rfl) (fun _ _ _ h => h) hST (Au.yq_run (by rfl) (fun u hu => ?_)) ?_
      rotate_left
      · (clear hu; go_simp; try with_reducible rfl)
      simp only [Act.put, List.setIfInBounds_toArray, List.set_cons_zero, List.set_cons_succ]
      refine AvT.take 15 (some 36) rfl rfl (by kernel_rfl) (by kernel_rfl) (by kernel_rfl) (fun _ _ _ h => h) hST (Au.yq_load 43 (.tmp 35) rfl _ rfl (by rfl) (fun u hu => HL.out u hu.1)) ?_
      simp only [Act.put, List.setIfInBounds_toArray, List.set_cons_zero, List.set_cons_succ]
      refine AvT.take 16 (some 37) (v := .bool false) rfl rfl (by kernel_rfl) (by kernel_rfl) (by kernel_rfl) (fun _ _ _ h => h) hST (Au.yq_run (by rfl) (fun u hu => ?_)) ?_
      · have := he u
        clear hu; go_simp
      simp only [Act.put, List.setIfInBounds_toArray, List.set_cons_zero, List.set_cons_succ]
      refine AvT.take 17 (some 38) (v := ?_) rfl rfl (by kernel_rfl) (by kernel_rfl) (by kernel_rfl) (fun _ _ _ h => h) hST (Au.yq_run (by rfl) (fun u hu => ?_)) ?_
      rotate_left
      · (clear hu; go_simp; try with_reducible rfl)
      simp only [Act.put, List.setIfInBounds_toArray, List.set_cons_zero, List.set_cons_succ]
      refine AvT.done (by kernel_rfl) (fun u8 hu8 => ?_)
      clear hST he
      go_wp2_with fail
      go_roundw
      case rel => exact ⟨i + 1, hlt, by go_num, Lib.hid (hk.out.trans hu8.1)⟩
      case measure => simp [intOf]; omega
    · obtain rfl : i = N := by omega
      go_wp2_with fail
      go_ret
      exact ⟨rfl, hk.out⟩

end Go.Proofs.YtncdiggejofbbaaGreatDoor.Sn
