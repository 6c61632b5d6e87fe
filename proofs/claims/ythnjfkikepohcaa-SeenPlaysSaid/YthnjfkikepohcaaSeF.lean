/- SeenForgets, SeenFull. -/
import Derived.Test.YthnjfkikepohcaaSeL
namespace Go.Proofs.Ythnjfkikepohcaa.Se
open Go.RowKit Go.Sort Tk IdM
open St (Kept blk_cell blk_free blk_lt blk_set)
open Wh (Fr Mine)
set_option linter.unusedVariables false

section
variable {n i q a : Int}
/-- what the first mark leaves, and what the second one answers -/
theorem forgets_is (k : Ke) (u g t : Int) : ∃ (f f2 : Bool) (s1 s2 : Its), (f = decide (0 < clamp u)) ∧ markE k u 0 [] = f ∧ markS k u 0 [] = s1 ∧ hasK k s1 = f ∧ markE k g t s1 = f2 ∧ markS k g t s1 = s2 ∧ f2 = (decide (clamp u ≤ clamp t) && decide (clamp t < clamp g)) := by
  have c0 : clamp 0 = 0 := by decide
  refine ⟨_, _, _, _, rfl, by rw [mark_nil_e, c0], rfl, ?_, rfl, rfl, ?_⟩
  · rw [mark_nil_s, c0]
    by_cases h : 0 < clamp u
    · rw [if_pos h, has_self, decide_eq_true h]
    · rw [if_neg h, decide_eq_false h]; rfl
  · rw [mark_nil_s, c0]
    by_cases h : 0 < clamp u
    · rw [if_pos h]
      by_cases h2 : clamp u ≤ clamp t
      · rw [again_gone _ _ _ _ h2, decide_eq_true h2]; rfl
      · rw [again_kept _ _ _ _ (by omega), decide_eq_false h2]; rfl
    · have := clamp_lo t
      rw [if_neg h, mark_nil_e, decide_eq_true (show clamp u ≤ clamp t by omega)]; rfl

set_option maxHeartbeats 3200000 in
set_option maxRecDepth 100000 in
theorem forgets_any (hx : okK ⟨n, i, q, a⟩) (u g t : Int) (w : World) :
    Calls Try.prog 6 #[.agg #[.int .i64 n, .int .i64 i, .int .i64 q, .int .i64 a], .int .i64 u, .int .i64 g, .int .i64 t] w fun e w' => e = .returned (.bool true) ∧ Kept w w' := by
  obtain ⟨f, f2, s1, s2, hf, e1, z1, hh, e2, z2, hf2⟩ := forgets_is ⟨n, i, q, a⟩ u g t
  obtain ⟨cu, hcu⟩ : ∃ x, clamp u = x := ⟨_, rfl⟩
  obtain ⟨cg, hcg⟩ : ∃ x, clamp g = x := ⟨_, rfl⟩
  obtain ⟨ct, hct⟩ : ∃ x, clamp t = x := ⟨_, rfl⟩
  rw [hcu] at hf hf2
  rw [hct, hcg] at hf2
  have CU := Lib.hid (fun w => by have := rclamp_any u w; rw [hcu] at this; exact this)
  have CG := Lib.hid (fun w => by have := rclamp_any g w; rw [hcg] at this; exact this)
  have CT := Lib.hid (fun w => by have := rclamp_any t w; rw [hct] at this; exact this)
  have hct0 : 0 ≤ ct := by have := clamp_lo t; omega
  have N := Lib.hid (fun w => new_any w)
  have HX := Lib.hid hx
  have E1 := Lib.hid e1
  have Z1 := Lib.hid z1
  have HH := Lib.hid hh
  have E2 := Lib.hid e2
  have Z2 := Lib.hid z2
  have AW := Lib.hid (fun w => awake_any w)
  obtain ⟨W, hW⟩ : ∃ W, w.alloc (.cells #[.int .i64 n, .int .i64 i, .int .i64 q, .int .i64 a] 32) = W := ⟨_, rfl⟩
  have k0 : Kept w W := by rw [← hW]; exact Kept.one _ _
  have b0 : W.heap[w.heap.size]? = some (kbox n i q a) := by rw [← hW]; exact St.blk_new _ _
  have HW := Lib.hid hW
  have HB := Lib.hid (And.intro k0 b0)
  obtain ⟨b, hb⟩ : ∃ b, w.heap.size = b := ⟨_, rfl⟩
  have HS := Lib.hid hb
  clear hx e1 z1 hh e2 z2 hW k0 b0 hb hcu hcg hct
  by_cases c1 : 0 < cu <;> by_cases c2 : cu ≤ ct <;> by_cases c3 : ct < cg
  all_goals
    first
    | (exfalso; omega)
    | (simp only [c1, c2, c3, decide_true, decide_false, Bool.and_self, Bool.and_true, Bool.and_false] at hf hf2
       subst hf
       subst hf2
       go_enter Try.func6, Try.ntmps6
       go_upto_region 2 with (go_at_call 7; refine (N.out _).mono ?_; rintro e w1 ⟨B, M, rfl, a1, a2, a3⟩; have HN := Lib.hid (And.intro a1 (And.intro a2 a3)); clear a1 a2 a3)
       have hN := HN.out
       rw [HW.out] at hN
       have h0 := In.new hN.1 hN.2.1 hN.2.2 HB.out.1 HB.out.2
       rw [HS.out] at h0 ⊢
       obtain ⟨x0, x1, x2, x3⟩ := h0.cells
       clear HN hN N
       go_wp2_with (first
         | (go_at_call 8; refine (In.mark (by assumption) HX.out (by assumption) (by assumption)).mono ?_; rintro e w3 ⟨rfl, h3⟩; obtain ⟨y0, y1, y2, y3⟩ := h3.cells)
         | (go_at_call 10; refine (In.has (by assumption) HX.out (by assumption)).mono ?_; rintro e w3 ⟨rfl, h3⟩; obtain ⟨y0, y1, y2, y3⟩ := h3.cells)
         | (go_at_call 14; first | ((with_reducible refine (CU.out _).mono ?_); rintro e w4 ⟨rfl, rfl⟩) | ((with_reducible refine (CG.out _).mono ?_); rintro e w4 ⟨rfl, rfl⟩) | ((with_reducible refine (CT.out _).mono ?_); rintro e w4 ⟨rfl, rfl⟩))
         | (go_at_call 13; refine (AW.out _).mono ?_; rintro e w5 ⟨rfl, hk5⟩))
       go_ret
       first
       | exact ⟨rfl, (In.kept (by assumption)).trans (by assumption)⟩
       | exact ⟨Tk.ret_bool (a := !decide (ct < cg)) (by simp; omega), (In.kept (by assumption)).trans (by assumption)⟩)

def ibox (n i q : Int) : Obj := .cells #[.int .i64 n, .int .i64 i, .int .i64 q] 30 (0, 0)
theorem In.icells {W w : World} {B M b : Nat} {s : Its} (h : In W B M s b (ibox n i q) w) : w.cell? ⟨b, 0, none⟩ = some (.int .i64 n) ∧ w.cell? ⟨b, 1, none⟩ = some (.int .i64 i) ∧ w.cell? ⟨b, 2, none⟩ = some (.int .i64 q) := by
  have hb := h.box
  unfold ibox at hb
  exact ⟨by rw [blk_cell hb]; rfl, by rw [blk_cell hb]; rfl, by rw [blk_cell hb]; rfl⟩

set_option maxHeartbeats 3200000 in
set_option maxRecDepth 100000 in
theorem full_any (h1 : I64 n) (h2 : I64 i) (h3 : I64 q) (h4 : I64 a) (w : World) :
    Calls Try.prog 5 #[.agg #[.int .i64 n, .int .i64 i, .int .i64 q], .int .i64 a] w fun e w' => e = .returned (.bool true) ∧ Kept w w' := by
  have N := Lib.hid (fun w => new_any w)
  have AW := Lib.hid (fun w => awake_any w)
  obtain ⟨W, hW⟩ : ∃ W, w.alloc (.cells #[.int .i64 n, .int .i64 i, .int .i64 q] 30) = W := ⟨_, rfl⟩
  have k0 : Kept w W := by rw [← hW]; exact Kept.one _ _
  have b0 : W.heap[w.heap.size]? = some (ibox n i q) := by rw [← hW]; exact St.blk_new _ _
  have HW := Lib.hid hW
  have HB := Lib.hid (And.intro k0 b0)
  obtain ⟨b, hb⟩ : ∃ b, w.heap.size = b := ⟨_, rfl⟩
  have HS := Lib.hid hb
  have HOK := Lib.hid (fun (x : Int) (hx : I64 x) => show okK ⟨n, i, q, x⟩ from ⟨h1, h2, h3, hx⟩)
  have HA := Lib.hid h4
  clear hW k0 b0 hb h1 h2 h3 h4
  go_enter Try.func5, Try.ntmps5
  go_upto_region 3 with (go_at_call 7; refine (N.out _).mono ?_; rintro e w1 ⟨B, M, rfl, a1, a2, a3⟩; have HN := Lib.hid (And.intro a1 (And.intro a2 a3)); clear a1 a2 a3)
  have hN := HN.out
  rw [HW.out] at hN
  have h0 := In.new hN.1 hN.2.1 hN.2.2 HB.out.1 HB.out.2
  rw [HS.out] at h0 ⊢
  have H0 := Lib.hid h0
  clear HN hN N h0
  go_loopw [6] (fun iv wr => ∃ j : Nat, j ≤ 512 ∧ iv = .int .i64 (j : Int) ∧ In w B M (fullS n i q j) b (ibox n i q) wr) (fun iv _ => 512 - (intOf iv).toNat)
  case atStart => exact ⟨0, Nat.zero_le _, rfl, H0.out⟩
  case round =>
    obtain ⟨j, hj, rfl, hI⟩ := hrel
    obtain ⟨x0, x1, x2⟩ := hI.icells
    by_cases hlt : j < 512
    · obtain ⟨m1, m2⟩ := full_mark n i q hlt
      obtain ⟨r, hr⟩ : ∃ r : Int, ((j % 2 : Nat) : Int) = r := ⟨_, rfl⟩
      have hr2 : Int.tmod (j : Int) 2 = r := by rw [← hr]; rfl
      have hr0 : 0 ≤ r := by omega
      have hr1 : r ≤ 1 := by omega
      rw [hr] at m1 m2
      have hji : (j : Int) < 512 := by omega
      have hj0 : (0 : Int) ≤ (j : Int) := by omega
      have C := hI.mark (HOK.out (j : Int) ⟨by omega, by omega⟩) (Lib.hid m1) (Lib.hid m2)
      have C := Lib.hid C
      clear m1 m2 hr hI
      go_wp2_with (go_at_call 8; refine C.out.mono ?_; rintro e w3 ⟨rfl, hI3⟩)
      go_roundw
      case rel => exact ⟨j + 1, hlt, by go_num, hI3⟩
      case measure => simp [intOf]; omega
    · have hje : j = 512 := by omega
      subst hje
      obtain ⟨F, hF⟩ : ∃ F, fullS n i q 512 = F := ⟨_, rfl⟩
      obtain ⟨m1, m2⟩ := full_no n i q
      obtain ⟨m3, m4⟩ := full_yes n i q
      rw [hF] at hI m1 m2 m3 m4
      obtain ⟨F2, hF2⟩ : ∃ F2, markS ⟨n, i, q, -1⟩ 9 5 F = F2 := ⟨_, rfl⟩
      have M1 := Lib.hid m1
      have M2 := Lib.hid m2
      have M3 := Lib.hid m3
      have M4 := Lib.hid hF2
      have M5 := Lib.hid (show ((F2.length : Nat) : Int) = 257 by rw [← hF2, m4]; rfl)
      have MN := Lib.hid (fun w a u t => mark_nil w n i q a u t)
      have HNIL := Lib.hid (fun w a => has_nil w n i q a)
      have LN := Lib.hid (fun w => len_nil w)
      have HI := Lib.hid hI
      clear hlt hj m1 m2 m3 m4 hF hF2
      go_upto_region 9 with (first
        | (go_at_call 8; refine (In.mark (by assumption) (HOK.out (-1) ⟨by omega, by omega⟩) (by assumption) (by assumption)).mono ?_; rintro e w3 ⟨rfl, h3⟩; obtain ⟨y0, y1, y2⟩ := h3.icells)
        | (go_at_call 12; refine (In.len (by assumption) (by assumption)).mono ?_; rintro e w4 ⟨rfl, rfl⟩))
      have HK3 := Lib.hid h3.kept
      go_upto_region 11 with fail
      obtain ⟨U, hU⟩ : ∃ U, w3.alloc (.cells #[.int .i64 n, .int .i64 i, .int .i64 q, .int .i64 a] 32) = U := ⟨_, rfl⟩
      have kU : Kept w U := by rw [← hU]; exact HK3.out.more _
      have bU : U.heap[w3.heap.size]? = some (kbox n i q a) := by rw [← hU]; exact St.blk_new _ _
      obtain ⟨g, hg⟩ : ∃ g, w3.heap.size = g := ⟨_, rfl⟩
      rw [hU]
      rw [hg] at bU ⊢
      have SX : ∀ u, Kept U u → u.cell? ⟨g, 0, none⟩ = some (.int .i64 n) ∧ u.cell? ⟨g, 1, none⟩ = some (.int .i64 i) ∧ u.cell? ⟨g, 2, none⟩ = some (.int .i64 q) ∧ u.cell? ⟨g, 3, none⟩ = some (.int .i64 a) := fun u hk => by
        have hb := (hk.block g (blk_lt bU)).trans bU
        unfold kbox at hb
        exact ⟨by rw [blk_cell hb]; rfl, by rw [blk_cell hb]; rfl, by rw [blk_cell hb]; rfl, by rw [blk_cell hb]; rfl⟩
      obtain ⟨z0, z1, z2, z3⟩ := SX _ (Kept.refl _)
      have SX := Lib.hid SX
      have KU := Lib.hid kU
      clear bU hU hg kU h3 y0 y1 y2
      go_wp2_with (first
        | (go_at_call 8; refine (MN.out _ _ _ _).mono ?_; rintro e w4 ⟨rfl, hk4⟩; obtain ⟨v0, v1, v2, v3⟩ := SX.out _ hk4)
        | (go_at_call 10; refine (HNIL.out _ _).mono ?_; rintro e w5 ⟨rfl, hk5⟩)
        | (go_at_call 12; refine (LN.out _).mono ?_; rintro e w6 ⟨rfl, rfl⟩)
        | (go_at_call 13; refine (AW.out _).mono ?_; rintro e w7 ⟨rfl, hk7⟩))
      go_ret
      exact ⟨rfl, ((KU.out.trans hk4).trans hk5).trans hk7⟩
end

end Go.Proofs.Ythnjfkikepohcaa.Se
