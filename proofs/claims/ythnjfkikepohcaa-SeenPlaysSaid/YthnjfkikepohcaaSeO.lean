/- SeenOnce. -/
import Derived.Test.YthnjfkikepohcaaSeL
import Derived.Test.YthnjfkikepohcaaSeD
import Derived.Test.YthnjfkikepohcaaKeE
import Derived.Deep.RegionHeld3
import Derived.Lib.MinMax
import Derived.IntWalk
namespace Go.Proofs.Ythnjfkikepohcaa.Se
open Go.RowKit Go.Sort Tk IdM
open St (Kept blk_cell blk_free blk_lt blk_set)
open Wh (Fr Mine)
set_option linter.unusedVariables false

section
variable {w W : World} {v : Value} {len : Nat} {G : Nat → Ke × Int × Int} {n i q a : Int}
set_option maxHeartbeats 4000000 in
set_option maxRecDepth 100000 in
theorem once_any (hx : okK ⟨n, i, q, a⟩) (u : Int) (hI : Dds w v len G) :
    Calls Try.prog 4 #[.agg #[.int .i64 n, .int .i64 i, .int .i64 q, .int .i64 a], .int .i64 u, v] w fun e w' => e = .returned (.bool true) ∧ Kept w w' := by
  have hlen := fun ty u => dds_len hI ty u
  obtain ⟨z, hz⟩ : ∃ z : Int, (len : Int) = z := ⟨_, rfl⟩
  rw [hz] at hlen
  have HZ := Lib.hid hz
  have HI := Lib.hid hI
  obtain ⟨cu, hcu⟩ : ∃ x, clamp u = x := ⟨_, rfl⟩
  have CU := Lib.hid (fun w => by have := rclamp_any u w; rw [hcu] at this; exact this)
  have HCU := Lib.hid hcu
  have N := Lib.hid (fun w => new_any w)
  have AW := Lib.hid (fun w => awake_any w)
  have HX := Lib.hid hx
  obtain ⟨W, hW⟩ : ∃ W, w.alloc (.cells #[.int .i64 n, .int .i64 i, .int .i64 q, .int .i64 a] 32) = W := ⟨_, rfl⟩
  have k0 : Kept w W := by rw [← hW]; exact Kept.one _ _
  have b0 : W.heap[w.heap.size]? = some (kbox n i q a) := by rw [← hW]; exact St.blk_new _ _
  have HW := Lib.hid hW
  have HB := Lib.hid (And.intro k0 b0)
  obtain ⟨b, hb⟩ : ∃ b, w.heap.size = b := ⟨_, rfl⟩
  have HS := Lib.hid hb
  clear hx hcu hW k0 b0 hb hI hz
  go_enter Try.func4, Try.ntmps4
  go_upto_region 2 with (go_at_call 7; refine (N.out _).mono ?_; rintro e w1 ⟨B, M, rfl, a1, a2, a3⟩; have HN := Lib.hid (And.intro a1 (And.intro a2 a3)); clear a1 a2 a3)
  have hN := HN.out
  rw [HW.out] at hN
  have h0 := In.new hN.1 hN.2.1 hN.2.2 HB.out.1 HB.out.2
  rw [HS.out] at h0 ⊢
  have H0 := Lib.hid h0
  clear HN hN N h0
  go_wp2_with fail
  go_loopw [10, 8, 9] (fun iv nv fv wr => ∃ (j : Nat) (nw f : Int) (s : Its), j ≤ len ∧ j ≤ 80 ∧ iv = .int .i64 (j : Int) ∧ nv = .int .i64 nw ∧ fv = .int .i64 f ∧ Hid (0 ≤ nw ∧ nw ≤ 1125899906842624) ∧ Hid (Once ⟨n, i, q, a⟩ cu nw s f) ∧ In w B M s b (kbox n i q a) wr) (fun iv _ _ _ => len - (intOf iv).toNat)
  case atStart => exact ⟨0, 0, 0, [], Nat.zero_le _, Nat.zero_le _, rfl, rfl, rfl, Lib.hid ⟨by omega, by omega⟩, Lib.hid (once_start _ _), H0.out⟩
  case round =>
    obtain ⟨j, nw, f, s, hj, hj80, rfl, rfl, rfl, hnw, hon, hE⟩ := hrel
    by_cases hlt : j < len ∧ j < 80
    · obtain ⟨hjl, hj8⟩ := hlt
      have hjz : (j : Int) < z := by have := HZ.out; omega
      have hjl2 : (j : Int) < (len : Int) := by omega
      have hj8' : (j : Int) < 80 := by omega
      obtain ⟨⟨⟨yn, yi, ys, ya⟩, yu, yt⟩, hG⟩ : ∃ d, G j = d := ⟨_, rfl⟩
      obtain ⟨p, off, cap, hv1, hoky, hcell⟩ := dds_at HI.out hjl hG
      have HV := Lib.hid hv1
      subst hv1
      obtain ⟨ct, hct⟩ : ∃ x, clamp yt = x := ⟨_, rfl⟩
      have CT := Lib.hid (fun w => by have := rclamp_any yt w; rw [hct] at this; exact this)
      obtain ⟨n2, hn2⟩ : ∃ x, max nw ct = x := ⟨_, rfl⟩
      have hc2 : Hid (nw ≤ n2 ∧ clamp n2 = n2 ∧ 0 ≤ n2 ∧ n2 ≤ 1125899906842624) := by
        have h1 := hnw.out
        have h2 := clamp_lo yt
        have h3 := clamp_hi yt
        have h4 : nw ≤ n2 ∧ 0 ≤ n2 ∧ n2 ≤ 1125899906842624 := by omega
        exact ⟨h4.1, clamp_id n2 h4.2.1 h4.2.2, h4.2⟩
      obtain ⟨c0, c1, c2, c3, c4, c5⟩ := hcell _ hE.kept
      obtain ⟨x0, x1, x2, x3⟩ := hE.cells
      have HC := Lib.hid hcell
      have HE := Lib.hid hE
      have HOY := Lib.hid hoky
      have HJ := Lib.hid (And.intro hjl hj8)
      by_cases hyx : (⟨yn, yi, ys, ya⟩ : Ke) = ⟨n, i, q, a⟩
      · have he2 : ∀ w, (binOp .neq 32 (.agg #[.int .i64 yn, .int .i64 yi, .int .i64 ys, .int .i64 ya]) (.agg #[.int .i64 n, .int .i64 i, .int .i64 q, .int .i64 a])).run Try.prog w = .ok (.bool false) w := fun w => by rw [neq_key, decide_eq_true hyx]; rfl
        clear hyx hG hcell hE hoky hjl hj8 hj hj80 hct
        go_wp2_with (go_at_call 14; refine (CT.out _).mono ?_; rintro e w4 ⟨rfl, rfl⟩)
        go_quiet (fail)
        have HE2 := Lib.hid (fun m => HE.out.go ((Kept.refl wr).drewN m))
        obtain ⟨s2, hs2⟩ : ∃ s2, markS ⟨n, i, q, a⟩ u n2 s = s2 := ⟨_, rfl⟩
        have HS2 := Lib.hid hs2
        cases hm : markE ⟨n, i, q, a⟩ u n2 s
        · have hon2 := hon.out.other hc2.out.1 hc2.out.2.1 (y := ⟨n, i, q, a⟩) u
          rw [hs2] at hon2
          have HON := Lib.hid hon2
          have HM := Lib.hid hm
          clear hm hs2 hon2
          go_wp2_with (go_at_call 8; refine (In.mark (HE2.out _) HX.out HM HS2).mono ?_; rintro e w5 ⟨rfl, hE5⟩)
          go_roundw
          case rel => exact ⟨j + 1, n2, f, s2, HJ.out.1, by have := HJ.out.2; omega, by go_num, rfl, rfl, Lib.hid hc2.out.2.2, HON, hE5⟩
          case measure => have := HJ.out.1; simp [intOf]; omega
        · obtain ⟨hf0, hlt2, hon2⟩ := hon.out.first hc2.out.1 hc2.out.2.1 HCU.out hm
          subst hf0
          rw [hs2] at hon2
          have HON := Lib.hid hon2
          have HM := Lib.hid hm
          have hnle : ¬ cu ≤ n2 := by omega
          clear hm hs2 hon2 hlt2
          go_wp2_with (first | (go_at_call 8; refine (In.mark (HE2.out _) HX.out HM HS2).mono ?_; rintro e w5 ⟨rfl, hE5⟩) | (go_at_call 14; refine (CU.out _).mono ?_; rintro e w6 ⟨rfl, rfl⟩))
          go_roundw
          case rel => exact ⟨j + 1, n2, 1, s2, HJ.out.1, by have := HJ.out.2; omega, by go_num, rfl, rfl, Lib.hid hc2.out.2.2, HON, hE5⟩
          case measure => have := HJ.out.1; simp [intOf]; omega
      · have he2 : ∀ w, (binOp .neq 32 (.agg #[.int .i64 yn, .int .i64 yi, .int .i64 ys, .int .i64 ya]) (.agg #[.int .i64 n, .int .i64 i, .int .i64 q, .int .i64 a])).run Try.prog w = .ok (.bool true) w := fun w => by rw [neq_key, decide_eq_false hyx]; rfl
        have HE2 : Hid (∀ w' : World, Kept wr w' → In w B M s b (kbox n i q a) w') := Lib.hid (fun w' hk => HE.out.go hk)
        have SX : Hid (∀ x : World, Kept w x → x.cell? ⟨p, off + j * 6, none⟩ = some (.int .i64 yn) ∧ x.cell? ⟨p, off + j * 6 + 1, none⟩ = some (.int .i64 yi) ∧ x.cell? ⟨p, off + j * 6 + 2, none⟩ = some (.int .i64 ys) ∧ x.cell? ⟨p, off + j * 6 + 3, none⟩ = some (.int .i64 ya) ∧ x.cell? ⟨p, off + j * 6 + 4, none⟩ = some (.int .i64 yu)) := Lib.hid (fun x hk => by
          obtain ⟨d0, d1, d2, d3, d4, _⟩ := HC.out x hk
          exact ⟨d0, d1, d2, d3, d4⟩)
        obtain ⟨s2, hs2⟩ : ∃ s2, markS ⟨yn, yi, ys, ya⟩ yu n2 s = s2 := ⟨_, rfl⟩
        obtain ⟨r, hr⟩ : ∃ r, markE ⟨yn, yi, ys, ya⟩ yu n2 s = r := ⟨_, rfl⟩
        have HS2 := Lib.hid hs2
        have HR2 := Lib.hid hr
        have CM : Hid (∀ w', Kept wr w' → Calls Try.prog 8 #[.pointer (some ⟨B, 0, none⟩), .agg #[.int .i64 yn, .int .i64 yi, .int .i64 ys, .int .i64 ya], .int .i64 yu, .int .i64 n2] w' fun e w5 => e = .returned (.bool r) ∧ In w B M s2 b (kbox n i q a) w5) := Lib.hid (fun w' hk => (HE2.out w' hk).mark HOY.out (Lib.hid hr) (Lib.hid hs2))
        have hon2 := hon.out.other hc2.out.1 hc2.out.2.1 (y := ⟨yn, yi, ys, ya⟩) yu
        rw [hs2] at hon2
        have HON := Lib.hid hon2
        clear hyx hG hcell hE hoky hjl hj8 hj hj80 hct hs2 hr hon2
        go_wp2_with (go_at_call 14; refine (CT.out _).mono ?_; rintro e w4 ⟨rfl, rfl⟩)
        go_quiet (fail)
        go_wp2_with fail
        go_region_held3 (fun w' => w'.cell? ⟨p, off + j * 6, none⟩ = some (.int .i64 yn) ∧ w'.cell? ⟨p, off + j * 6 + 1, none⟩ = some (.int .i64 yi) ∧ w'.cell? ⟨p, off + j * 6 + 2, none⟩ = some (.int .i64 ys) ∧ w'.cell? ⟨p, off + j * 6 + 3, none⟩ = some (.int .i64 ya) ∧ w'.cell? ⟨p, off + j * 6 + 4, none⟩ = some (.int .i64 yu))
          (first | exact SX.out _ (In.kept (by assumption)) | exact SX.out _ (In.kept (HE2.out _ ((Kept.refl _).drewN _).drew)))
          (first | (go_at_call 8; refine (CM.out _ ((Kept.refl _).drewN _).drew).mono ?_; rintro e w5 ⟨rfl, hE5⟩))
        go_wp2_with fail
        go_roundw
        case rel => exact ⟨j + 1, n2, f, s2, HJ.out.1, by have := HJ.out.2; omega, by go_num, rfl, rfl, Lib.hid hc2.out.2.2, HON, by assumption⟩
        case measure => have := HJ.out.1; simp [intOf]; omega
    · have HE := Lib.hid hE
      have hfl := hon.out.le
      have hf1 : f ≤ 1 := hfl.2
      have hsl := hE.seen.rt.len
      obtain ⟨y, hy⟩ : ∃ y : Int, ((s.length : Nat) : Int) = y := ⟨_, rfl⟩
      have hy5 : y ≤ 512 := by omega
      have HY := Lib.hid hy
      have LN := Lib.hid (hE.len HY)
      have hnj : ¬ ((j : Int) < z ∧ (j : Int) < 80) := by have := HZ.out; omega
      clear hE hy hfl hsl
      by_cases hjz : (j : Int) < z
      · have hj8 : ¬ (j : Int) < 80 := fun c => hnj ⟨hjz, c⟩
        clear hnj hlt hj hj80
        go_wp2_with (first
          | (go_at_call 12; refine LN.out.mono ?_; rintro e w4 ⟨rfl, rfl⟩)
          | (go_at_call 13; refine (AW.out _).mono ?_; rintro e w7 ⟨rfl, hk7⟩))
        go_ret
        exact ⟨rfl, HE.out.kept.trans hk7⟩
      · clear hnj hlt hj hj80
        go_wp2_with (first
          | (go_at_call 12; refine LN.out.mono ?_; rintro e w4 ⟨rfl, rfl⟩)
          | (go_at_call 13; refine (AW.out _).mono ?_; rintro e w7 ⟨rfl, hk7⟩))
        go_ret
        exact ⟨rfl, HE.out.kept.trans hk7⟩
end

end Go.Proofs.Ythnjfkikepohcaa.Se
