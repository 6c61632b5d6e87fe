/- The laws: whether steps may be, how many units they have, their text; programs are parsed as they were told. -/
import Derived.Test.YtkifekchalppnaaDoorPg12
namespace Go.Proofs.YtkifekchalppnaaDoor.Pg
open Go.RowKit Go.Sort Go.Shelf St Cd It At
set_option linter.unusedVariables false
set_option linter.unusedSimpArgs false

theorem op_at {o : Op} {n p : Int} {z : Bool} (h : Hid (opB o n p = z)) (w : World) :
    Calls Tryd.prog 9 #[.agg #[.int .i64 o.k, .int .i64 o.a, .int .i64 o.b], .int .i64 n, .int .i64 p] w fun e w' => e = .returned (.bool z) ∧ Kept w w' := by
  rw [← h.out]; exact op_any o n p w
theorem rop_at {o : Op} {n p : Int} {z : Bool} (h : Hid (opB o n p = z)) (w : World) :
    Calls Tryd.prog 10 #[.agg #[.int .i64 o.k, .int .i64 o.a, .int .i64 o.b], .int .i64 n, .int .i64 p] w fun e w' => e = .returned (.bool z) ∧ Kept w w' := by
  rw [← h.out]; exact rop_any o n p w

set_option maxHeartbeats 4000000 in
theorem tells_any {w : World} {v : Value} {L : List Op} (hv : Ops w v L) (hf : ∀ o ∈ L, o.Fit) (n p : Int) (hE : Env w) :
    Calls Tryd.prog 3 #[v, .int .i64 n, .int .i64 p] w fun e w' => e = .returned (.bool true) ∧ Kept w w' := by
  obtain ⟨q, N, cap, rfl, hN, hm⟩ := hv.slice
  have hm2 : N ≤ 9223372036854775807 := by unfold maxLen at hm; omega
  have HAW := Lib.hid (fun (u : World) (hu : Kept w u) => awake_any (hE.kept hu))
  by_cases h30 : N ≤ 30
  · have h30' : ¬ 30 < (N : Int) := by omega
    obtain ⟨z, hz⟩ : ∃ z, rightB L n p = z := ⟨_, rfl⟩
    obtain ⟨y, hy⟩ : ∃ y, units L = y := ⟨_, rfl⟩
    obtain ⟨E, hEE⟩ : ∃ E : ByteArray, Hid (E.data.toList = textT L) := ⟨⟨(textT L).toArray⟩, rfl⟩
    have HC1 := Lib.hid (fun (u : World) (hu : Kept w u) => by have := right_ops (hv.go hu) n p; rw [hz] at this; exact this)
    have HC2 := Lib.hid (fun (u : World) (hu : Kept w u) => by have := rright_any (hv.go hu) n p; rw [hz] at this; exact this)
    have HC3 := Lib.hid (fun (u : World) (hu : Kept w u) => by have := units_any (hv.go hu) (by omega); rw [hy] at this; exact this)
    have HC4 := Lib.hid (fun (u : World) (hu : Kept w u) => by have := runits_any (hv.go hu) (by omega); rw [hy] at this; exact this)
    have HC5 := Lib.hid (fun (u : World) (hu : Kept w u) => text_any (hv.go hu) (by omega) hf E hEE (hE.kept hu).tab)
    have HC6 := Lib.hid (fun (u : World) (hu : Kept w u) => rtext_any (hv.go hu) (by omega) hf E hEE)
    have HV := Lib.hid hv
    have HN := Lib.hid hN
    clear hv hf hE hN hm hz hy hEE
    go_enter Tryd.func3, Tryd.ntmps3
    go_wp2_with fail
    go_loopw [7] (fun x wr => ∃ i : Nat, i ≤ N ∧ x = .int .i64 (i : Int) ∧ Kept w wr) (fun x _ => N - (intOf x).toNat)
    case atStart => exact ⟨0, Nat.zero_le _, rfl, Kept.refl _⟩
    case round =>
      obtain ⟨i, hi, rfl, hk⟩ := hrel
      by_cases hlt : i < N
      · have hvr := HV.out.go hk
        obtain ⟨o, b, off, ho, rfl, -⟩ := hvr.pick (i := i) (by rw [HN.out]; exact hlt)
        have hcell : ∀ u, Kept wr u → u.cell? ⟨b, off + i * 3, none⟩ = some (.int .i64 o.k) ∧ u.cell? ⟨b, off + i * 3 + 1, none⟩ = some (.int .i64 o.a) ∧ u.cell? ⟨b, off + i * 3 + 2, none⟩ = some (.int .i64 o.b) := fun u hu => by
          obtain ⟨o2, b2, off2, ho2, e2, q0, q1, q2⟩ := (hvr.go hu).pick (i := i) (by rw [HN.out]; exact hlt)
          rw [ho] at ho2
          cases ho2
          cases e2
          exact ⟨q0, q1, q2⟩
        have HL := Lib.hid hcell
        obtain ⟨z2, hz2⟩ : ∃ z2, Hid (opB o n p = z2) := ⟨_, rfl⟩
        have O1 := Lib.hid (op_at hz2)
        have O2 := Lib.hid (rop_at hz2)
        have kd := (Kept.refl wr).drew
        clear hcell ho hvr hz2
        obtain ⟨k, a, b2⟩ := o
        simp only at HL O1 O2
        go_wp2_with fail
        go_region_held3 (fun w' => w'.cell? ⟨b, off + i * 3, none⟩ = some (.int .i64 k) ∧ w'.cell? ⟨b, off + i * 3 + 1, none⟩ = some (.int .i64 a) ∧ w'.cell? ⟨b, off + i * 3 + 2, none⟩ = some (.int .i64 b2))
          (exact HL.out _ (by assumption))
          (first | (go_at_call 9; refine (O1.out _).mono ?_; rintro e u1 ⟨rfl, j1⟩; replace j1 := Kept.trans (show Kept wr _ from by assumption) j1) | (go_at_call 10; refine (O2.out _).mono ?_; rintro e u2 ⟨rfl, j2⟩; replace j2 := Kept.trans (show Kept wr _ from by assumption) j2))
        go_wp2_with fail
        go_roundw
        case rel => exact ⟨i + 1, hlt, by go_num, hk.trans (by assumption)⟩
        case measure => simp [intOf]; omega
      · obtain rfl : i = N := by omega
        go_wp2_with (first
          | (go_at_call 11; refine (HC1.out _ hk).mono ?_; rintro e u1 ⟨rfl, j1⟩; replace j1 := hk.trans j1)
          | (go_at_call 12; refine (HC2.out _ j1).mono ?_; rintro e u2 ⟨rfl, j2⟩; replace j2 := j1.trans j2)
          | (go_at_call 13; refine (HC3.out _ j2).mono ?_; rintro e u3 ⟨rfl, j3⟩; replace j3 := j2.trans j3)
          | (go_at_call 14; refine (HC4.out _ j3).mono ?_; rintro e u4 ⟨rfl, rfl⟩)
          | (go_at_call 15; refine (HC5.out _ j3).mono ?_; rintro e u5 ⟨rfl, j5⟩; replace j5 := j3.trans j5)
          | (go_at_call 16; refine (HC6.out _ j5).mono ?_; rintro e u6 ⟨rfl, j6⟩; replace j6 := j5.trans j6)
          | (go_at_call 8; refine (HAW.out _ j6).mono ?_; rintro e u7 ⟨rfl, j7⟩; replace j7 := j6.trans j7))
        all_goals go_ret
        all_goals exact ⟨by simp, j7⟩
  · have h30' : 30 < (N : Int) := by omega
    have HA := Lib.hid (HAW.out w (Kept.refl _))
    clear hv hf hE hN hm HAW h30
    go_enter Tryd.func3, Tryd.ntmps3
    go_wp2_with (go_at_call 8; refine HA.out.mono ?_; rintro e w' ⟨rfl, hk⟩)
    go_ret
    exact ⟨rfl, hk⟩

set_option maxHeartbeats 4000000 in
theorem back_any {w : World} {v : Value} {L : List Op} (hv : Ops w v L) (hf : ∀ o ∈ L, o.Fit) (n p : Int) (hE : Env w) :
    Calls Tryd.prog 6 #[v, .int .i64 n, .int .i64 p] w fun e w' => e = .returned (.bool true) ∧ Kept w w' := by
  have HAW := Lib.hid (fun (u : World) (hu : Kept w u) => awake_any (hE.kept hu))
  have HR := Lib.hid (rright_any hv n p)
  obtain ⟨z, hz⟩ : ∃ z, rightB L n p = z := ⟨_, rfl⟩
  rw [hz] at HR
  cases z
  · clear hv hf hE hz
    go_enter Tryd.func6, Tryd.ntmps6
    go_wp2_with (first
      | (go_at_call 12; refine HR.out.mono ?_; rintro e u1 ⟨rfl, j1⟩)
      | (go_at_call 8; refine (HAW.out _ j1).mono ?_; rintro e u7 ⟨rfl, j7⟩; replace j7 := j1.trans j7))
    go_ret
    exact ⟨rfl, j7⟩
  · have hl16 := (right_all hz).1
    obtain ⟨E, hEE⟩ : ∃ E : ByteArray, Hid (E.data.toList = textT L) := ⟨⟨(textT L).toArray⟩, rfl⟩
    have HC5 := Lib.hid (fun (u : World) (hu : Kept w u) => text_any (hv.go hu) (by omega) hf E hEE (hE.kept hu).tab)
    have HC7 := Lib.hid (fun (u : World) (hu : Kept w u) => parse_any hz hf hEE (hE.kept hu))
    have HV := Lib.hid (fun (u : World) (hu : Kept w u) (x : Value) (hx : Ops u x L) => rsame_any (hv.go hu) hx)
    clear hv hf hE hz hl16 hEE
    go_enter Tryd.func6, Tryd.ntmps6
    go_wp2_with (first
      | (go_at_call 12; refine HR.out.mono ?_; rintro e u1 ⟨rfl, j1⟩)
      | (go_at_call 15; refine (HC5.out _ j1).mono ?_; rintro e u5 ⟨rfl, j5⟩; replace j5 := j1.trans j5)
      | (go_at_call 19; refine (HC7.out _ j5).mono ?_; rintro e u6 ⟨x, rfl, hx, j6⟩; replace j6 := j5.trans j6; have HX := Lib.hid hx; clear hx)
      | (go_at_call 21; refine (HV.out _ j6 _ HX.out).mono ?_; rintro e u8 ⟨rfl, j8⟩; replace j8 := j6.trans j8)
      | (go_at_call 8; refine (HAW.out _ j8).mono ?_; rintro e u7 ⟨rfl, j7⟩; replace j7 := j8.trans j7))
    go_ret
    exact ⟨rfl, j7⟩

end Go.Proofs.YtkifekchalppnaaDoor.Pg
