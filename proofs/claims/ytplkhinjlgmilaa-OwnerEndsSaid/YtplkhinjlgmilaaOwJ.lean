/- The law: a program that waits for nobody ends. -/
import Derived.Test.YtplkhinjlgmilaaOwI
import Derived.LoopTactic
namespace Go.Proofs.Ytplkhinjlgmilaa.Ow
open Go.RowKit Go.Sort Go.Shelf St Blk Eqs
open Go.Proofs.Ytplkhinjlgmilaa.Cl
open Go.Proofs.Ytplkhinjlgmilaa.Ls
open Go.Proofs.Ytplkhinjlgmilaa.Rv
open Wh (Fr)
open Go.Proofs.Ytplkhinjlgmilaa.Ad (load_w load_l store_new)
set_option linter.unusedVariables false

/-- one step of it, as it comes to -/
theorem step_here {u : World} {q : Option Addr} {c : Nat} {v : Value} {L : List Pg.Op} {n : Int} {i : Nat} {d : Int} (hp : Plain L) (h : Here L n i d) (hm : Mc u (.slice q 0 c) []) (hL : Pg.Ops u v L) :
    Calls Try.prog 30 #[.agg ((stand i d).arr q 0 c), v] u (PostP u 0 [] (stepO (stand i d) [] L)) :=
  step_any (stand i d) (mc_cls hm (by decide)) (by decide) hL ⟨h.d0, by have := (here_hi hp h).1; show d ≤ 2000000; omega⟩

set_option maxRecDepth 100000 in
set_option maxHeartbeats 4000000 in
theorem lends_any {w : World} {v : Value} {L : List Pg.Op} (hL : Pg.Ops w v L) :
    Calls Try.prog 5 #[v] w fun e w' => e = .returned (.bool true) ∧ Kept w w' := by
  obtain ⟨p, M, cap, rfl, hM, hmM⟩ := hL.slice
  have hm2 : M ≤ 9223372036854775807 := by unfold maxLen at hmM; omega
  have HAW := Lib.hid awake_any
  have HR := Lib.hid (Pg.rright_any hL 3 2)
  obtain ⟨z, hz⟩ : ∃ z, Pg.rightB L 3 2 = z := ⟨_, rfl⟩
  rw [hz] at HR
  cases z
  · clear hL hM hmM hz
    go_enter Try.func5, Try.ntmps5
    go_wp2_with (first
      | (go_at_call 32; refine HR.out.mono ?_; rintro e u1 ⟨rfl, j1⟩)
      | (go_at_call 8; refine (HAW.out _).mono ?_; rintro e u7 ⟨rfl, j7⟩))
    go_ret
    exact ⟨rfl, j1.trans j7⟩
  · have hl16 := (Pg.right_all hz).1
    have HU := Lib.hid (fun (u : World) (hu : Kept w u) => Pg.runits_any (hL.go hu) (by omega))
    have hu0 := Pg.units_lo L
    have hu1 := Pg.units_hi L
    obtain ⟨U, hU⟩ : ∃ U, Pg.units L = U := ⟨_, rfl⟩
    rw [hU] at HU hu0 hu1
    have HL := Lib.hid hL
    have HM := Lib.hid hM
    have HZ := Lib.hid hz
    have HUU := Lib.hid hU
    have hu2 : U ≤ 16000 := by omega
    clear hL hM hmM hz hU hl16 hu1
    go_enter Try.func5, Try.ntmps5
    go_wp2_with (go_at_call 32; refine HR.out.mono ?_; rintro e u1 ⟨rfl, j1⟩)
    go_loopw [3] (fun x wr => ∃ i : Nat, i ≤ M ∧ x = .int .i64 (i : Int) ∧ Kept w wr ∧ Hid (∀ j x, j < i → L[j]? = some x → ¬ x.k = 2)) (fun x _ => M - (intOf x).toNat)
    case atStart => exact ⟨0, Nat.zero_le _, rfl, j1, fun j x hj => absurd hj (Nat.not_lt_zero j)⟩
    case round =>
      obtain ⟨i, hi, rfl, hk, hA⟩ := hrel
      by_cases hlt : i < M
      · obtain ⟨x, b, off, hx, rfl, d0, d1, d2⟩ := (HL.out.go hk).pick (i := i) (by rw [HM.out]; exact hlt)
        have HX := Lib.hid hx
        obtain ⟨k, a, bb⟩ := x
        simp only at d0 d1 d2
        by_cases h2 : k = 2
        · subst h2
          clear hx d1 d2
          go_wp2_with (go_at_call 8; refine (HAW.out _).mono ?_; rintro e u7 ⟨rfl, j7⟩)
          go_ret
          exact ⟨rfl, hk.trans j7⟩
        · have h2b : (k == 2) = false := beq_eq_false_iff_ne.2 h2
          have HN := Lib.hid h2
          clear hx d1 d2 h2
          go_wp2_with fail
          go_roundw
          case rel =>
            refine ⟨i + 1, hlt, by go_num, hk, fun j y hj hy => ?_⟩
            by_cases hji : j = i
            · subst hji; rw [HX.out] at hy; cases hy; exact HN.out
            · exact hA.out j y (by omega) hy
          case measure => simp [intOf]; omega
      · obtain rfl : i = M := by omega
        have HP := Lib.hid (show Plain L from ⟨HZ.out, fun x hx => by
          obtain ⟨j, hj⟩ := List.getElem?_of_mem hx
          exact hA.out j x (by have := (List.getElem?_eq_some_iff.1 hj).1; rw [HM.out] at this; exact this) hj⟩)
        go_upto_region 9 with fail
        obtain ⟨W1, hW1⟩ : ∃ W1, wr.alloc (.cells zeroA 34) = W1 := ⟨_, rfl⟩
        rw [show wr.alloc (.cells #[.int .i64 0, .int .i64 0, .int .i64 0, .int .i64 0, .int .i64 0, .int .i64 0, .int .i64 0, .int .i64 0, .int .i64 0, .int .i64 0, .int .i64 0, .int .i64 0, .int .i64 0, .int .i64 0, .int .i64 0, .int .i64 0, .int .i64 0, .int .i64 0, .slice none 0 0] 34) = W1 from hW1]
        have hb4 : W1.heap[wr.heap.size]? = some (.cells ((stand 0 0).arr none 0 0) 34 (0, 0)) := by rw [← hW1]; exact blk_new wr _
        have hk1 : Kept w W1 := hk.trans (by rw [← hW1]; exact Kept.one _ _)
        have hge : w.heap.size ≤ wr.heap.size := Below.size hk
        obtain ⟨B4, hB4⟩ : ∃ B, wr.heap.size = B := ⟨_, rfl⟩
        rw [hB4] at hb4 hge ⊢
        have H0 := Lib.hid (And.intro hk1 hb4)
        clear hW1 hk1 hb4 hB4 hk
        go_wp2_with fail
        go_loopw [5] (fun x wr => ∃ n : Int, x = .int .i64 n ∧ 0 ≤ n ∧ n ≤ U ∧ ∃ (i : Nat) (d : Int) (q : Option Addr) (c : Nat), Hid (Here L n i d) ∧ Hid (wr.heap[B4]? = some (.cells ((stand i d).arr q 0 c) 34 (0, 0)) ∧ Mc wr (.slice q 0 c) [] ∧ Kept w wr)) (fun x _ => (U + 1 - intOf x).toNat)
        case atStart => exact ⟨0, rfl, by omega, hu0, 0, 0, none, 0, here_start HP.out, H0.out.2, rowv_nil _ _ _ _, H0.out.1⟩
        case round =>
          obtain ⟨n, rfl, hn0, hn1, j, d, q, c, hH, hB⟩ := hrel
          obtain ⟨hb4, hm, hk⟩ := hB.out
          have hhi := here_hi HP.out hH.out
          have hd0 := hH.out.d0
          obtain ⟨A, hA⟩ : ∃ A, (stand j d).arr q 0 c = A := ⟨_, rfl⟩
          rw [hA] at hb4
          have sA : A.size = 19 := by rw [← hA]; rfl
          have CS := Lib.hid (fun (u : World) (hu : Kept wr u) => step_here HP.out hH.out (hm.keep hu) (HL.out.go (hk.trans hu)))
          rw [hA] at CS
          have LA := Lib.hid (fun (u : World) (hu : Kept wr u) => load_ow (kept_at hu hb4) sA)
          have HC := Lib.hid (And.intro hb4 hk)
          have HAA := Lib.hid hA
          have HST := Lib.hid (here_step HP.out hH.out)
          obtain ⟨r, hr⟩ : ∃ r, stepO (stand j d) [] L = r := ⟨_, rfl⟩
          rw [hr] at CS HST
          obtain ⟨r1, r2⟩ := r
          rw [HUU.out] at HST
          simp only at HST
          clear hb4 hm hk hA hr hB
          have hcond : n ≤ U := hn1
          rcases HST.out with ⟨⟨y1, y2, hy⟩, he⟩ | ⟨hle, y, hy, he2, hmv⟩
          · clear HST
            subst he
            obtain ⟨y, hy3, rfl⟩ : ∃ y, (y = 4 ∨ y = 5 ∨ y = 6) ∧ r2 = actA y y1 y2 := by
              rcases hy with h | h | h
              · exact ⟨4, .inl rfl, h⟩
              · exact ⟨5, .inr (.inl rfl), h⟩
              · exact ⟨6, .inr (.inr rfl), h⟩
            clear hy
            go_upto_region 13 with (first
              | (go_at_call 33; refine (HU.out _ HC.out.2).mono ?_; rintro e u2 ⟨rfl, rfl⟩)
              | (refine load_l 34 (.tmp 4) rfl _ rfl rfl (.agg A) (LA.out _ (Kept.refl _)) ?_)
              | (go_at_call 30; refine (CS.out _ (Kept.refl _)).mono ?_; rintro e u3 ⟨q3, c3, rfl, r3, k3⟩; have hB3 := Bl.two u3 zeroA zact 34 56; have K3 := Lib.hid (And.intro r3 k3); clear r3 k3)
              | (refine wpList_store_row rfl 34 (.tmp 6) (.tmp 35) rfl u3.heap.size ((stand j d).arr q3 0 c3) rfl rfl 34 zeroA (hB3.blk 0 rfl) info_ow rfl (arr_one _ _ _ _) ?_)
              | (refine wpList_store_row rfl 56 (.tmp 7) (.tmp 36) rfl (u3.heap.size + 1) (actA y y1 y2) rfl rfl 56 zact ((hB3.row 0 rfl ((stand j d).arr q3 0 c3)).blk 1 rfl) info_act rfl (act_one _ _ _) ?_))
            have hb3 := ((Bl.two u3 zeroA zact 34 56).row 0 rfl ((stand j d).arr q3 0 c3)).row 1 rfl (actA y y1 y2)
            obtain ⟨V3, hV3⟩ : ∃ V, (World.setRow (World.setRow ((u3.alloc (.cells zeroA 34)).alloc (.cells zact 56)) (u3.heap.size + 0) ((stand j d).arr q3 0 c3)) (u3.heap.size + 1) (actA y y1 y2)) = V := ⟨_, rfl⟩
            rw [hV3] at hb3
            rw [show (World.setRow (World.setRow ((u3.alloc (.cells #[.int .i64 0, .int .i64 0, .int .i64 0, .int .i64 0, .int .i64 0, .int .i64 0, .int .i64 0, .int .i64 0, .int .i64 0, .int .i64 0, .int .i64 0, .int .i64 0, .int .i64 0, .int .i64 0, .int .i64 0, .int .i64 0, .int .i64 0, .int .i64 0, .slice none 0 0] 34)).alloc (.cells #[.int .i64 0, .int .i64 0, .int .i64 0] 56)) u3.heap.size ((stand j d).arr q3 0 c3)) (u3.heap.size + 1) (actA y y1 y2)) = V3 from hV3]
            have x70 : V3.cell? ⟨u3.heap.size + 1, 0, none⟩ = some (.int .i64 y) := hb3.cell 1 0 rfl
            have kV : Kept wr V3 := K3.out.2.trans hb3.kept
            have HB3 := Lib.hid hb3
            have HKV := Lib.hid kV
            clear hV3 hB3 hb3 kV
            rcases hy3 with rfl | rfl | rfl
            all_goals
              go_wp2_with (go_at_call 8; refine (HAW.out _).mono ?_; rintro e u7 ⟨rfl, j7⟩)
              go_ret
              exact ⟨rfl, (HC.out.2.trans HKV.out).trans j7⟩
          · clear HST
            subst he2
            obtain ⟨j2, d2, hr1, hH2, hmove⟩ : ∃ j2 d2, r1 = stand j2 d2 ∧ Here L (n + 1) j2 d2 ∧ ((j2 : Int) = j + 1 ∨ (j2 : Int) = j ∧ d2 = d + 1) := by
              rcases hmv with ⟨h1, h2⟩ | ⟨h1, h2⟩
              · exact ⟨j + 1, 0, h1, h2, .inl (by omega)⟩
              · exact ⟨j, d + 1, h1, h2, .inr ⟨rfl, rfl⟩⟩
            subst hr1
            have HH2 := Lib.hid hH2
            clear hH2 hmv
            go_upto_region 13 with (first
              | (go_at_call 33; refine (HU.out _ HC.out.2).mono ?_; rintro e u2 ⟨rfl, rfl⟩)
              | (refine load_l 34 (.tmp 4) rfl _ rfl rfl (.agg A) (LA.out _ (Kept.refl _)) ?_)
              | (go_at_call 30; refine (CS.out _ (Kept.refl _)).mono ?_; rintro e u3 ⟨q3, c3, rfl, r3, k3⟩; have hB3 := Bl.two u3 zeroA zact 34 56; have K3 := Lib.hid (And.intro r3 k3); clear r3 k3)
              | (refine wpList_store_row rfl 34 (.tmp 6) (.tmp 35) rfl u3.heap.size ((stand j2 d2).arr q3 0 c3) rfl rfl 34 zeroA (hB3.blk 0 rfl) info_ow rfl (arr_one _ _ _ _) ?_)
              | (refine wpList_store_row rfl 56 (.tmp 7) (.tmp 36) rfl (u3.heap.size + 1) (actA y 0 0) rfl rfl 56 zact ((hB3.row 0 rfl ((stand j2 d2).arr q3 0 c3)).blk 1 rfl) info_act rfl (act_one _ _ _) ?_))
            have hb3 := ((Bl.two u3 zeroA zact 34 56).row 0 rfl ((stand j2 d2).arr q3 0 c3)).row 1 rfl (actA y 0 0)
            obtain ⟨V3, hV3⟩ : ∃ V, (World.setRow (World.setRow ((u3.alloc (.cells zeroA 34)).alloc (.cells zact 56)) (u3.heap.size + 0) ((stand j2 d2).arr q3 0 c3)) (u3.heap.size + 1) (actA y 0 0)) = V := ⟨_, rfl⟩
            rw [hV3] at hb3
            rw [show (World.setRow (World.setRow ((u3.alloc (.cells #[.int .i64 0, .int .i64 0, .int .i64 0, .int .i64 0, .int .i64 0, .int .i64 0, .int .i64 0, .int .i64 0, .int .i64 0, .int .i64 0, .int .i64 0, .int .i64 0, .int .i64 0, .int .i64 0, .int .i64 0, .int .i64 0, .int .i64 0, .int .i64 0, .slice none 0 0] 34)).alloc (.cells #[.int .i64 0, .int .i64 0, .int .i64 0] 56)) u3.heap.size ((stand j2 d2).arr q3 0 c3)) (u3.heap.size + 1) (actA y 0 0)) = V3 from hV3]
            have x70 : V3.cell? ⟨u3.heap.size + 1, 0, none⟩ = some (.int .i64 y) := hb3.cell 1 0 rfl
            have kV : Kept wr V3 := K3.out.2.trans hb3.kept
            have HB3 := Lib.hid hb3
            have HKV := Lib.hid kV
            clear hV3 hB3 hb3 kV
            have x6a : V3.cell? ⟨u3.heap.size, 16, none⟩ = some (.int .i64 (j2 : Int)) := HB3.out.cell 0 16 rfl
            have x6b : V3.cell? ⟨u3.heap.size, 17, none⟩ = some (.int .i64 d2) := HB3.out.cell 0 17 rfl
            have b43 := kept_at HKV.out HC.out.1
            have x4a : V3.cell? ⟨B4, 16, none⟩ = some (.int .i64 (j : Int)) := (blk_cell b43 16).trans (by rw [← HAA.out]; rfl)
            have x4b : V3.cell? ⟨B4, 17, none⟩ = some (.int .i64 d) := (blk_cell b43 17).trans (by rw [← HAA.out]; rfl)
            have l6 := load_ow (HB3.out.blk 0 rfl) (arr_size _ _ _ _)
            have hlt4 : B4 < u3.heap.size := Nat.lt_of_lt_of_le (blk_lt HC.out.1) (Below.size K3.out.2)
            have HB43 := Lib.hid b43
            clear b43
            have hneq : ∀ g, (Value.slice q3 0 c3).ownBlock = some g → g ≠ B4 := fun g e hgb => by
              rcases K3.out.1.2 with ⟨h1, _⟩ | ⟨g2, cap2, cur, h1, _, h3, _⟩
              · rw [h1] at e; cases e
              · rw [h1] at e
                obtain rfl : g2 = g := Option.some.inj e
                have h5 := kept_at HB3.out.kept h3
                rw [hgb, HB43.out] at h5
                simp at h5
            have HNQ := Lib.hid hneq
            clear hneq
            obtain ⟨t1, ht1⟩ : ∃ t : Bool, ((j2 : Int) == (j : Int)) = t := ⟨_, rfl⟩
            rcases hmove with hmove | ⟨hm1, hm2⟩
            · have hne : ¬ (j2 : Int) = (j : Int) := by omega
              have hneb : ((j2 : Int) == (j : Int)) = false := beq_eq_false_iff_ne.2 hne
              clear ht1
              rcases hy with rfl | rfl
              all_goals
                go_wp2_with (first
                  | (refine load_l 34 (.tmp 6) rfl _ rfl rfl _ l6 ?_)
                  | (refine wpList_store_row rfl 34 (.tmp 4) (.tmp 69) rfl B4 ((stand j2 d2).arr q3 0 c3) rfl rfl 34 A HB43.out info_ow (by rw [sA]; rfl) (arr_one _ _ _ _) ?_))
                go_roundw
                case rel => exact ⟨n + 1, by go_num, by omega, hle, j2, d2, q3, c3, HH2.out, setRow_heap _ _ A _ _ _ HB43.out, (K3.out.1.keep HB3.out.kept).kept (fun g e => setRow_other _ _ _ _ (HNQ.out g e)), Ad.kept_row (HC.out.2.trans HKV.out) hge _⟩
                case measure => simp [intOf]; omega
            · obtain rfl : j2 = j := by omega
              subst hm2
              have hm3 : (d + 1 != d + 1) = false := by simp
              clear ht1
              rcases hy with rfl | rfl
              all_goals
                go_wp2_with (first
                  | (refine load_l 34 (.tmp 6) rfl _ rfl rfl _ l6 ?_)
                  | (refine wpList_store_row rfl 34 (.tmp 4) (.tmp 69) rfl B4 ((stand j2 (d + 1)).arr q3 0 c3) rfl rfl 34 A HB43.out info_ow (by rw [sA]; rfl) (arr_one _ _ _ _) ?_))
                go_roundw
                case rel => exact ⟨n + 1, by go_num, by omega, hle, j2, d + 1, q3, c3, HH2.out, setRow_heap _ _ A _ _ _ HB43.out, (K3.out.1.keep HB3.out.kept).kept (fun g e => setRow_other _ _ _ _ (HNQ.out g e)), Ad.kept_row (HC.out.2.trans HKV.out) hge _⟩
                case measure => simp [intOf]; omega
      

end Go.Proofs.Ytplkhinjlgmilaa.Ow
