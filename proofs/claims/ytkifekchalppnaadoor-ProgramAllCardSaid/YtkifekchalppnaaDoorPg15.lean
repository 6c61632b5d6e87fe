/- The law: all programs of a configuration. -/
import Derived.Test.YtkifekchalppnaaDoorPg12
import Derived.Test.YtkifekchalppnaaDoorPgA
import Derived.BigQuiet
import Derived.Lib.QuietBelow
namespace Go.Proofs.YtkifekchalppnaaDoor.Pg
open Go.RowKit Go.Sort Go.Shelf St Cd It At
open Go.Proofs.YtkifekchalppnaaDoor.Id (quiet_at)
open Ad (Cf info_cf quiet_row loadc_regrown load_w)
set_option linter.unusedVariables false
set_option linter.unusedSimpArgs false

theorem anyM_take {M : List (List Op)} {f : List Op → Bool} {i : Nat} {L : List Op} (h : (M.take i).any f = false) (ho : M[i]? = some L) (hf : f L = false) : (M.take (i + 1)).any f = false := by
  rw [List.take_add_one, ho, List.any_append, h]; simp [hf]
theorem anyM_hit {M : List (List Op)} {f : List Op → Bool} {i : Nat} {L : List Op} (ho : M[i]? = some L) (hf : f L = true) : M.any f = true :=
  List.any_eq_true.2 ⟨L, List.mem_of_getElem? ho, hf⟩

set_option maxHeartbeats 1000000 in
theorem index_progs {w : World} {v : Value} {M : List (List Op)} (hv : Progs w v M) (f : List Op → Bool) (g : Nat) (lb : Array Value) (eg : ∀ args u, (callFunc g args).run Tryd.prog u = .ok (.enter g args) u)
    (hp : ∀ u x L, Kept w u → Ops u x L → Calls Tryd.prog g (#[x] ++ lb) u fun e u' => e = .returned (.bool (f L)) ∧ Kept u u') :
    Calls Tryd.prog 45 #[v, .func (.func g) #[] lb] w fun e w' => ∃ r : Int, e = .returned (.int .i64 r) ∧ ((M.any f = true ∧ 0 ≤ r) ∨ (M.any f = false ∧ r = -1)) ∧ Kept w w' := by
  obtain ⟨q, N, cap, rfl, hN, hm⟩ := hv.slice
  have HV := Lib.hid hv
  have HN := Lib.hid hN
  have HP := Lib.hid hp
  have hm2 : N ≤ 9223372036854775807 := by unfold maxLen at hm; omega
  clear hv hN hm hp
  go_enter Tryd.func45, Tryd.ntmps45
  go_wp2_with fail
  go_loopw [8] (fun x wr => ∃ i : Nat, i ≤ N ∧ x = .int .i64 (i : Int) ∧ Kept w wr ∧ Hid ((M.take i).any f = false)) (fun x _ => N - (intOf x).toNat)
  case atStart => exact ⟨0, Nat.zero_le _, rfl, Kept.refl _, rfl⟩
  case round =>
    obtain ⟨i, hi, rfl, hk, hA⟩ := hrel
    by_cases hlt : i < N
    · obtain ⟨L, b, off, x, ho, rfl, c0, hx⟩ := (HV.out.go hk).pick (i := i) (by rw [HN.out]; exact hlt)
      have HO := Lib.hid ho
      have HC := Lib.hid (HP.out wr x L hk hx)
      obtain ⟨z, hz⟩ : ∃ z, f L = z := ⟨_, rfl⟩
      rw [hz] at HC
      have HZ := Lib.hid hz
      obtain ⟨xp, xn, xc, rfl, _, _⟩ := hx.slice
      clear ho hz hx
      cases z
      · go_wp2_with fail
        refine HC.out.mono ?_
        rintro e w' ⟨rfl, hk2⟩
        go_wp2_with fail
        go_roundw
        case rel => exact ⟨i + 1, hlt, by go_num, hk.trans hk2, anyM_take hA.out HO.out HZ.out⟩
        case measure => simp [intOf]; omega
      · go_wp2_with fail
        refine HC.out.mono ?_
        rintro e w' ⟨rfl, hk2⟩
        go_wp2_with fail
        go_ret
        exact ⟨_, rfl, .inl ⟨anyM_hit HO.out HZ.out, by omega⟩, hk.trans hk2⟩
    · obtain rfl : i = N := by omega
      go_wp2_with fail
      go_ret
      exact ⟨_, rfl, .inr ⟨by have := hA.out; rwa [List.take_of_length_le (Nat.le_of_eq HN.out)] at this, rfl⟩, hk⟩

theorem contains_progs {w : World} {v : Value} {M : List (List Op)} (hv : Progs w v M) (f : List Op → Bool) (g : Nat) (lb : Array Value) (eg : ∀ args u, (callFunc g args).run Tryd.prog u = .ok (.enter g args) u)
    (hp : ∀ u x L, Kept w u → Ops u x L → Calls Tryd.prog g (#[x] ++ lb) u fun e u' => e = .returned (.bool (f L)) ∧ Kept u u') :
    Calls Tryd.prog 35 #[v, .func (.func g) #[] lb] w fun e w' => e = .returned (.bool (M.any f)) ∧ Kept w w' := by
  have HC := Lib.hid (index_progs hv f g lb eg hp)
  obtain ⟨z, hz⟩ : ∃ z, M.any f = z := ⟨_, rfl⟩
  rw [hz] at HC ⊢
  clear hv hp hz
  go_enter Tryd.func35, Tryd.ntmps35
  go_wp2_with fail
  refine HC.out.mono ?_
  rintro e w' ⟨r, rfl, h | h, hk⟩
  · obtain ⟨rfl, h0⟩ := h
    go_wp2_with fail
    go_ret
    exact ⟨rfl, hk⟩
  · obtain ⟨rfl, rfl⟩ := h
    go_wp2_with fail
    go_ret
    exact ⟨rfl, hk⟩

theorem anyM_not (M : List (List Op)) (f : List Op → Bool) : (M.any fun o => !f o) = !(M.all f) := by
  induction M with
  | nil => rfl
  | cons o M ih => simp only [List.any_cons, List.all_cons, ih, Bool.not_and]
def allB (M : List (List Op)) (n p : Int) : Bool := M.all fun L => rightB L n p

theorem all1_any {w : World} {c : Cf} {B : Nat} (hB : w.heap[B]? = some (.cells c.arr 32 (0, 0))) {x : Value} {L : List Op} (hx : Ops w x L) :
    Calls Tryd.prog 36 #[x, .pointer (some ⟨B, 0, none⟩)] w fun e w' => e = .returned (.bool (!rightB L c.nodes (c.pn : Int))) ∧ Kept w w' := by
  have HC := Lib.hid (right_ops hx c.nodes (c.pn : Int))
  obtain ⟨z, hz⟩ : ∃ z, rightB L c.nodes (c.pn : Int) = z := ⟨_, rfl⟩
  rw [hz] at HC ⊢
  have c0 : w.cell? ⟨B, 0, none⟩ = some (.int .i64 c.nodes) := by rw [blk_cell hB]; rfl
  have c13 : w.cell? ⟨B, 13, none⟩ = some (.slice c.pa c.pn c.pc) := by rw [blk_cell hB]; rfl
  clear hx hz hB
  go_enter Tryd.func36, Tryd.ntmps36
  go_wp2_with (go_at_call 11; refine HC.out.mono ?_; rintro e w' ⟨rfl, hk⟩)
  go_ret
  exact ⟨rfl, hk⟩

set_option maxRecDepth 100000 in
set_option maxHeartbeats 1000000 in
theorem all_any {w : World} {c : Cf} {M : List (List Op)} (hM : Progs w (.slice c.pa c.pn c.pc) M) :
    Calls Tryd.prog 17 #[.agg c.arr] w fun e w' => e = .returned (.bool (allB M c.nodes (c.pn : Int))) ∧ Kept w w' := by
  have hk := Kept.one w (.cells c.arr 32)
  have hb := blk_new w (.cells c.arr 32)
  obtain ⟨W, hW⟩ : ∃ W, w.alloc (.cells c.arr 32) = W := ⟨_, rfl⟩
  rw [hW] at hk hb
  have HC := Lib.hid (contains_progs (hM.go hk) (fun L => !rightB L c.nodes (c.pn : Int)) 36 #[.pointer (some ⟨w.heap.size, 0, none⟩)] (enters_of Tryd.func36 (by kernel_rfl) rfl)
    (fun u x L hu hx => all1_any (kept_at hu hb) hx))
  rw [anyM_not] at HC
  obtain ⟨z, hz⟩ : ∃ z, allB M c.nodes (c.pn : Int) = z := ⟨_, rfl⟩
  rw [hz]
  rw [show (M.all fun L => rightB L c.nodes (c.pn : Int)) = z from hz] at HC
  have HW := Lib.hid hW
  have HK := Lib.hid hk
  have c13 : W.cell? ⟨w.heap.size, 13, none⟩ = some (.slice c.pa c.pn c.pc) := by rw [blk_cell hb]; rfl
  clear hM hz hW hk hb
  go_enter Tryd.func17, Tryd.ntmps17
  go_upto_region 1 with fail
  rw [HW.out]
  go_wp2_with (go_at_call 35; refine HC.out.mono ?_; rintro e w' ⟨rfl, hk⟩)
  go_ret
  exact ⟨ret_bool (by simp), HK.out.trans hk⟩

theorem allM_take {M : List (List Op)} {f : List Op → Bool} {i : Nat} {L : List Op} (h : (M.take i).all f = true) (ho : M[i]? = some L) (hf : f L = true) : (M.take (i + 1)).all f = true := by
  rw [List.take_add_one, ho, List.all_append, h]; simp [hf]
theorem allM_miss {M : List (List Op)} {f : List Op → Bool} {i : Nat} {L : List Op} (ho : M[i]? = some L) (hf : f L = false) : M.all f = false := by
  rw [List.all_eq_false]; exact ⟨L, List.mem_of_getElem? ho, by rw [hf]; decide⟩

set_option maxRecDepth 100000 in
set_option maxHeartbeats 2000000 in
theorem rall_any {w : World} {c : Cf} {M : List (List Op)} (hM : Progs w (.slice c.pa c.pn c.pc) M) :
    Calls Tryd.prog 18 #[.agg c.arr] w fun e w' => e = .returned (.bool (allB M c.nodes (c.pn : Int))) ∧ Kept w w' := by
  have hk := Kept.one w (.cells c.arr 32)
  have hb := blk_new w (.cells c.arr 32)
  obtain ⟨W, hW⟩ : ∃ W, w.alloc (.cells c.arr 32) = W := ⟨_, rfl⟩
  rw [hW] at hk hb
  obtain ⟨q, N, cap, hq, hN, hm⟩ := hM.slice
  have hm2 : N ≤ 9223372036854775807 := by unfold maxLen at hm; omega
  obtain ⟨R, hR⟩ : ∃ R, allB M c.nodes (c.pn : Int) = R := ⟨_, rfl⟩
  rw [hR]
  have hpn : c.pn = N := by injection hq
  have HM := Lib.hid hM
  have HN := Lib.hid hN
  have HR := Lib.hid hR
  have HW := Lib.hid hW
  have HK := Lib.hid hk
  have hcells : ∀ u, Kept W u → u.cell? ⟨w.heap.size, 0, none⟩ = some (.int .i64 c.nodes) ∧ u.cell? ⟨w.heap.size, 13, none⟩ = some (.slice q N cap) := fun u hu => by
    have hb2 := kept_at hu hb
    exact ⟨by rw [blk_cell hb2]; rfl, by rw [blk_cell hb2, ← hq]; rfl⟩
  have HC := Lib.hid hcells
  have HQ := Lib.hid hq
  have HP := Lib.hid hpn
  clear hM hN hm hR hW hk hb hq hcells hpn
  go_enter Tryd.func18, Tryd.ntmps18
  go_upto_region 1 with fail
  rw [HW.out]
  go_wp2_with fail
  go_loopw [3] (fun x wr => ∃ i : Nat, i ≤ N ∧ x = .int .i64 (i : Int) ∧ Kept W wr ∧ Hid ((M.take i).all (fun L => rightB L c.nodes (c.pn : Int)) = true)) (fun x _ => N - (intOf x).toNat)
  case atStart => exact ⟨0, Nat.zero_le _, rfl, Kept.refl _, rfl⟩
  case round =>
    obtain ⟨i, hi, rfl, hk, hA⟩ := hrel
    obtain ⟨c0, c13⟩ := HC.out wr hk
    by_cases hlt : i < N
    · have hmw : Progs wr (.slice q N cap) M := by rw [← HQ.out]; exact HM.out.go (HK.out.trans hk)
      obtain ⟨L, b, off, x, ho, rfl, d0, hx⟩ := hmw.pick (i := i) (by rw [HN.out]; exact hlt)
      have hcell : ∀ u, Kept wr u → u.cell? ⟨b, off + i, none⟩ = some x := fun u hu => (Below.cell hu (p := ⟨b, off + i, none⟩) (World.block_lt_of_cell? wr _ d0)).trans d0
      have HX := Lib.hid (fun (u : World) (hu : Kept wr u) => by have := rright_any (hx.go hu) c.nodes (c.pn : Int); exact this)
      obtain ⟨z, hz⟩ : ∃ z, rightB L c.nodes (c.pn : Int) = z := ⟨_, rfl⟩
      rw [hz, HP.out] at HX
      have HO := Lib.hid ho
      have HZ := Lib.hid hz
      have HL := Lib.hid (fun (u : World) (hu : Kept wr u) => And.intro (HC.out u (hk.trans hu)).1 (And.intro (HC.out u (hk.trans hu)).2 (hcell u hu)))
      have kd := (Kept.refl wr).drew
      obtain ⟨xp, xn, xc, rfl, _, _⟩ := hx.slice
      clear ho hz hx hmw hcell c0 c13 d0
      cases z
      · obtain rfl : R = false := HR.out.symm.trans (allM_miss HO.out HZ.out)
        have c13 := (HC.out wr hk).2
        go_wp2_with fail
        go_region_held3 (fun w' => w'.cell? ⟨w.heap.size, 0, none⟩ = some (.int .i64 c.nodes) ∧ w'.cell? ⟨w.heap.size, 13, none⟩ = some (.slice (some ⟨b, off, none⟩) N cap) ∧ w'.cell? ⟨b, off + i, none⟩ = some (.slice xp xn xc))
          (exact HL.out _ (by assumption))
          (first | (go_at_call 12; refine (HX.out _ (by assumption)).mono ?_; rintro e u1 ⟨rfl, j1⟩; replace j1 := Kept.trans (show Kept wr _ from by assumption) j1))
        go_wp2_with fail
        go_ret
        exact ⟨rfl, (HK.out.trans hk).trans (by assumption)⟩
      · have c13 := (HC.out wr hk).2
        go_wp2_with fail
        go_region_held3 (fun w' => w'.cell? ⟨w.heap.size, 0, none⟩ = some (.int .i64 c.nodes) ∧ w'.cell? ⟨w.heap.size, 13, none⟩ = some (.slice (some ⟨b, off, none⟩) N cap) ∧ w'.cell? ⟨b, off + i, none⟩ = some (.slice xp xn xc))
          (exact HL.out _ (by assumption))
          (first | (go_at_call 12; refine (HX.out _ (by assumption)).mono ?_; rintro e u1 ⟨rfl, j1⟩; replace j1 := Kept.trans (show Kept wr _ from by assumption) j1))
        go_wp2_with fail
        go_roundw
        case rel => exact ⟨i + 1, hlt, by go_num, hk.trans (by assumption), allM_take hA.out HO.out HZ.out⟩
        case measure => simp [intOf]; omega
    · obtain rfl : i = N := by omega
      obtain rfl : R = true := HR.out.symm.trans (by have := hA.out; rwa [List.take_of_length_le (Nat.le_of_eq HN.out)] at this)
      go_wp2_with fail
      go_ret
      exact ⟨rfl, HK.out.trans hk⟩

set_option maxRecDepth 100000 in
set_option maxHeartbeats 4000000 in
theorem lall_any {w : World} {c : Cf} {M : List (List Op)} (hM : Progs w (.slice c.pa c.pn c.pc) M) (hE : Env w) :
    Calls Tryd.prog 4 #[.agg c.arr] w fun e w' => e = .returned (.bool true) ∧ Kept w w' := by
  have hk := Kept.one w (.cells c.arr 32)
  have hb := blk_new w (.cells c.arr 32)
  obtain ⟨W, hW⟩ : ∃ W, w.alloc (.cells c.arr 32) = W := ⟨_, rfl⟩
  rw [hW] at hk hb
  obtain ⟨q, N, cap, hq, hN, hm⟩ := hM.slice
  have hm2 : N ≤ 9223372036854775807 := by unfold maxLen at hm; omega
  have HAW := Lib.hid (fun (u : World) (hu : Kept w u) => awake_any (hE.kept hu))
  have hcells : ∀ u, Kept W u → u.cell? ⟨w.heap.size, 13, none⟩ = some (.slice q N cap) := fun u hu => by
    have hb2 := kept_at hu hb
    rw [blk_cell hb2, ← hq]; rfl
  have HA := Lib.hid (fun (u : World) (hu : Kept w u) => all_any (hM.go hu))
  have HB := Lib.hid (fun (u : World) (hu : Kept w u) => rall_any (hM.go hu))
  obtain ⟨z, hz⟩ : ∃ z, allB M c.nodes (c.pn : Int) = z := ⟨_, rfl⟩
  rw [hz] at HA HB
  have HM := Lib.hid hM
  have HN := Lib.hid hN
  have HW := Lib.hid hW
  have HK := Lib.hid hk
  have HBK := Lib.hid hb
  have HC := Lib.hid hcells
  have HQ := Lib.hid hq
  have c13 := hcells W (Kept.refl _)
  by_cases h20 : N ≤ 20
  · have h20' : ¬ 20 < (N : Int) := by omega
    clear hM hN hm hW hk hb hq hcells hE hz
    go_enter Tryd.func4, Tryd.ntmps4
    go_upto_region 1 with fail
    rw [HW.out]
    go_wp2_with fail
    clear c13
    go_loopw [3] (fun x wr => ∃ i : Nat, i ≤ N ∧ x = .int .i64 (i : Int) ∧ Kept W wr) (fun x _ => N - (intOf x).toNat)
    case atStart => exact ⟨0, Nat.zero_le _, rfl, Kept.refl _⟩
    case round =>
      obtain ⟨i, hi, rfl, hk⟩ := hrel
      have c13 := HC.out wr hk
      by_cases hlt : i < N
      · have hmw : Progs wr (.slice q N cap) M := by rw [← HQ.out]; exact HM.out.go (HK.out.trans hk)
        obtain ⟨L, b, off, x, ho, rfl, d0, hx⟩ := hmw.pick (i := i) (by rw [HN.out]; exact hlt)
        obtain ⟨xp, xn, xc, rfl, hxn, hxm⟩ := hx.slice
        have hxm2 : xn ≤ 9223372036854775807 := by unfold maxLen at hxm; omega
        have HAK := Lib.hid (HAW.out wr (HK.out.trans hk))
        clear ho hx hmw hxn hxm
        by_cases h30 : xn ≤ 30
        · have h30' : ¬ 30 < (xn : Int) := by omega
          go_wp2_with fail
          go_roundw
          case rel => exact ⟨i + 1, hlt, by go_num, hk⟩
          case measure => simp [intOf]; omega
        · have h30' : 30 < (xn : Int) := by omega
          go_wp2_with (go_at_call 8; refine HAK.out.mono ?_; rintro e w' ⟨rfl, hk2⟩)
          go_ret
          exact ⟨rfl, (HK.out.trans hk).trans hk2⟩
      · obtain rfl : i = N := by omega
        have hbr := kept_at hk HBK.out
        have kw := HK.out.trans hk
        have lc := loadc_regrown hbr
        have Q1 := quiet_at (Kept.refl wr) (fun x hx => HA.out x (kw.trans hx))
        have Q2 := quiet_at (Kept.refl wr) (fun x hx => HB.out x (kw.trans hx))
        have Q3 := quiet_at (Kept.refl wr) (fun x hx => HAW.out x (kw.trans hx))
        clear hbr
        go_wp2_with fail
        refine wp_region_quiet_below (by kernel_rfl) (by kernel_rfl) ?_
        repeat (first
          | (go_big_quiet_want; refine quiet_row 32 (.tmp 1) rfl w.heap.size rfl c.arr lc.out ?_; simp only [Act.put, List.setIfInBounds_toArray, List.set_cons_succ, List.set_cons_zero]; go_big_quiet_on)
          | go_big_quiet_step (first | (with_reducible exact Q1.out _) | (with_reducible exact Q2.out _) | (with_reducible exact Q3.out _)))
        refine wpQuiet_nil ?_
        intro _ hw'
        obtain ⟨⟨dq, osq⟩, hw''⟩ := hw'
        subst hw''
        have hkf := kw.trans (below_regrown wr dq osq)
        go_wp2_with fail
        go_ret
        exact ⟨by simp, hkf⟩
  · have h20' : 20 < (N : Int) := by omega
    have HAK := Lib.hid (HAW.out W hk)
    clear hM hN hm hW hk hb hq hcells hE hz h20
    go_enter Tryd.func4, Tryd.ntmps4
    go_upto_region 1 with fail
    rw [HW.out]
    go_wp2_with (go_at_call 8; refine HAK.out.mono ?_; rintro e w' ⟨rfl, hk2⟩)
    go_ret
    exact ⟨rfl, HK.out.trans hk2⟩

end Go.Proofs.YtkifekchalppnaaDoor.Pg
