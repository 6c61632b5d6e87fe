/- Whatever is sent, taken, doubled and spoilt: the law walked. -/
import Derived.Test.YtglgkgpmfeamnaaBp2
namespace Go.Proofs.Ytglgkgpmfeamnaa.Bg
open Go.RowKit Go.Sort Rv
open St (Kept blk_cell blk_free blk_lt blk_set)
open Wh (Fr Mine)
set_option linter.unusedVariables false

/-- both have the same -/
def Pl (W : World) (B R c : Nat) (w : World) : Prop := ∃ s, Tw W B R s s [] w ∧ Sml c s
section
variable {W w w' : World} {B R c : Nat} {s : Sta}
theorem pl_new {w1 : World} (h : Its PBt PT W B ⟨[], 0⟩ w1) : Pl W B w1.heap.size 0 (w1.alloc (.cells #[.slice none 0 0, .int .i64 0] RB)) := by
  obtain ⟨v, h1, h2⟩ := h
  have k := Kept.one w1 (.cells #[.slice none 0 0, .int .i64 0] RB)
  refine ⟨⟨[], 0⟩, ⟨v, .slice none 0 0, h1.kept k, ⟨St.blk_new _ _, rowv_nil _ _ _ _, fun g c => by simp [Value.ownBlock] at c, by simp⟩, fun j c d => ?_, h2.go k, ⟨h2.kept.trans k, fun j c => ?_⟩, fun p hp => by simp at hp⟩, Nat.le_refl _, fun f hf => by simp at hf⟩
  · rcases d with d | d
    · have := h1.lt j c; omega
    · simp [Value.ownBlock] at d
  · rcases c with c | c
    · have := h2.kept.size; omega
    · simp [Value.ownBlock] at c
/-- what the law asks behind a deed -/
theorem Tw.asks (h : Tw W B R s s [] w) : ∃ u, w.cell? ⟨R, 0, none⟩ = some u ∧ w.cell? ⟨R, 1, none⟩ = some (.int .i64 (s.lost : Int)) ∧ (∀ ty u', (Builtin.len_ #[26] ty #[u]).run Try.prog u' = .ok (.int .i64 (s.L.length : Int)) u') ∧
    (Calls Try.prog 9 #[PB B] w fun e w' => e = .returned (.int .i64 (s.L.length : Int)) ∧ w = w') ∧ (Calls Try.prog 10 #[PB B] w fun e w' => e = .returned (.int .i64 (s.lost : Int)) ∧ w = w') := by
  obtain ⟨v, u, h1, h2, h3, h4, h5, h6⟩ := h
  exact ⟨u, h2.c0, h2.c1, fun ty u' => h2.row.len encR.us ty u', len_any h1, lost_any h1⟩
theorem Tw.lenR (h : Tw W B R s s [] w) : ∃ u, w.cell? ⟨R, 0, none⟩ = some u ∧ R < w.heap.size ∧ ∀ ty u', (Builtin.len_ #[26] ty #[u]).run Try.prog u' = .ok (.int .i64 (s.L.length : Int)) u' := by
  obtain ⟨v, u, h1, h2, h3, h4, h5, h6⟩ := h
  exact ⟨u, h2.c0, blk_lt h2.blk, fun ty u' => h2.row.len encR.us ty u'⟩
theorem Tw.elemR (h : Tw W B R s s [] w) {i : Nat} {f : Fl} (hf : s.L[i]? = some f) : ∃ g cap, w.cell? ⟨R, 0, none⟩ = some (.slice (some ⟨g, 0, none⟩) s.L.length cap) ∧ w.cell? ⟨g, i * 4, none⟩ = some (.int .i64 f.fr) ∧ w.cell? ⟨g, i * 4 + 1, none⟩ = some (.int .i64 f.to) ∧ w.cell? ⟨g, i * 4 + 2, none⟩ = some (.string f.s) ∧ w.cell? ⟨g, i * 4 + 3, none⟩ = some (.bool f.h) := by
  obtain ⟨v, u, h1, h2, h3, h4, h5, h6⟩ := h
  obtain ⟨g, cap, e, _, _, hc⟩ := h2.row.at encR.len hf
  exact ⟨g, cap, by rw [h2.c0, e], hc 0 _ rfl, hc 1 _ rfl, hc 2 _ rfl, hc 3 _ rfl⟩
end

section
variable {W : World} {v : Value} {len : Nat} {F : Nat → Dd}
set_option maxHeartbeats 8000000 in
set_option maxRecDepth 100000 in
theorem plays_deeds (hD : Deeds W v len F) : Calls Try.prog 3 #[v] W fun e w' => e = .returned (.bool true) ∧ Kept W w' := by
  have hlen := fun ty u => hD.length Try.underlying22 ty u
  obtain ⟨q, hq⟩ : ∃ q : Int, (len : Int) = q := ⟨_, rfl⟩
  rw [hq] at hlen
  have HQ := Lib.hid hq
  have HD := Lib.hid hD
  have A := Lib.hid awake_any
  have NN := Lib.hid (fun w (h : Kept W w) => new_its W w h)
  clear hq hD
  go_enter Try.func3, Try.ntmps3
  go_wp2_with fail
  refine (NN.out _ (Kept.refl _)).mono ?_
  rintro e w1 ⟨B, rfl, a1, _, _⟩
  have A1 := Lib.hid (pl_new a1)
  clear a1
  go_wp2_with fail
  obtain ⟨R, hR⟩ : ∃ R, w1.heap.size = R := ⟨_, rfl⟩
  obtain ⟨w2, hw2⟩ : ∃ w2, w1.alloc (.cells #[.slice none 0 0, .int .i64 0] RB) = w2 := ⟨_, rfl⟩
  rw [hR, hw2] at A1
  rw [hR, hw2]
  clear hR hw2
  go_loopw [5] (fun i wr => ∃ m : Nat, m ≤ len ∧ m ≤ 300 ∧ i = .int .i64 (m : Int) ∧ Pl W B R m wr) (fun i _ => len - (intOf i).toNat)
  case atStart => exact ⟨0, Nat.zero_le _, Nat.zero_le _, rfl, A1.out⟩
  case round =>
    obtain ⟨m, hm, hm300, rfl, hP⟩ := hrel
    by_cases hlt : m < len ∧ m < 300
    · obtain ⟨hml, hm3⟩ := hlt
      have hmq : (m : Int) < q := by have := HQ.out; omega
      have hm3' : (m : Int) < 300 := by omega
      have hmn : (m : Int) < (len : Int) := by omega
      obtain ⟨b, off, cap, hv1, hok, hcell⟩ := HD.out.at hml
      have HV := Lib.hid hv1
      subst hv1
      obtain ⟨s, hT, hS⟩ := hP
      have hK := hT.kept
      obtain ⟨⟨kk, nn, aa, bb, ⟨fr, to, x, qq⟩⟩, hFm⟩ : ∃ d, F m = d := ⟨_, rfl⟩
      rw [hFm] at hcell
      have xs : wr.cell? ⟨b, off + m * 8 + 4 + 2, none⟩ = some (.string x) := hcell _ hK 6 _ rfl
      obtain ⟨xl, hxl⟩ : ∃ xl : Int, (x.size : Int) = xl := ⟨_, rfl⟩
      have HM := Lib.hid (And.intro hml hm3)
      by_cases hx : x.size ≤ 200
      · have hx' : ¬ (200 : Int) < (x.size : Int) := by omega
        have hT' := hT.go (Kept.refl _).drew
        have hK' := hT'.kept
        have y0 : wr.drew.cell? ⟨b, off + m * 8, none⟩ = some (.int .i64 kk) := hcell _ hK' 0 _ rfl
        have y1 : wr.drew.cell? ⟨b, off + m * 8 + 1, none⟩ = some (.int .i64 nn) := hcell _ hK' 1 _ rfl
        have y2 : wr.drew.cell? ⟨b, off + m * 8 + 2, none⟩ = some (.int .i64 aa) := hcell _ hK' 2 _ rfl
        have y3 : wr.drew.cell? ⟨b, off + m * 8 + 3, none⟩ = some (.int .i64 bb) := hcell _ hK' 3 _ rfl
        have y4 : wr.drew.cell? ⟨b, off + m * 8 + 4, none⟩ = some (.int .i64 fr) := hcell _ hK' 4 _ rfl
        have y5 : wr.drew.cell? ⟨b, off + m * 8 + 5, none⟩ = some (.int .i64 to) := hcell _ hK' 5 _ rfl
        have y6 : wr.drew.cell? ⟨b, off + m * 8 + 6, none⟩ = some (.string x) := hcell _ hK' 6 _ rfl
        have y7 : wr.drew.cell? ⟨b, off + m * 8 + 7, none⟩ = some (.bool qq) := hcell _ hK' 7 _ rfl
        have C := Lib.hid (does_any hT' hS (by omega) kk nn aa bb fr to hx qq)
        clear hcell hK hok hT hS hml hm3 hm hm300 hFm hx hxl hT' hK'
        go_wp2_with fail
        go_region_with
          (first
            | (go_at_call 8; refine C.out.mono ?_; rintro e w5 ⟨rfl, s5, d5, q5⟩; obtain ⟨u5, i1, i2, i3, i4, i5⟩ := d5.asks; obtain ⟨nl, hnl⟩ : ∃ nl : Int, (s5.L.length : Int) = nl := ⟨_, rfl⟩; obtain ⟨nt, hnt⟩ : ∃ nt : Int, (s5.lost : Int) = nt := ⟨_, rfl⟩; rw [hnl] at i3 i4; rw [hnt] at i2 i5; have I4 := Lib.hid i4; have I5 := Lib.hid i5; have D5 := Lib.hid (show Pl W B R (m + 1) w5 from ⟨s5, d5, q5⟩); clear hnl hnt i4 i5 d5 q5 y0 y1 y2 y3 y4 y5 y6 y7)
            | (go_at_call 9; refine I4.out.mono ?_; rintro e w' ⟨rfl, rfl⟩)
            | (go_at_call 10; refine I5.out.mono ?_; rintro e w' ⟨rfl, rfl⟩))
        all_goals
          clear I4 I5 C i1 i2 i3
          go_wp2_with fail
          go_roundw
          case rel => exact ⟨m + 1, HM.out.1, HM.out.2, by go_num, D5.out⟩
          case measure => have := HM.out; simp [intOf]; omega
      · have hx' : (200 : Int) < (x.size : Int) := by omega
        have HK := Lib.hid hK
        clear hcell hK hok hT hS hml hm3 hm hm300 hFm hx hxl
        go_wp2_with fail
        refine (A.out _).mono ?_
        rintro e w11 ⟨rfl, hk11⟩
        have K11 := Lib.hid (HK.out.trans hk11)
        clear hk11
        go_wp2_with fail
        go_ret
        exact ⟨rfl, K11.out⟩
    · obtain ⟨s, hT, hS⟩ := hP
      have HT := Lib.hid hT
      have hend : q ≤ (m : Int) ∨ ((m : Int) < q ∧ 300 ≤ (m : Int)) := by have := HQ.out; omega
      clear hT hS hlt
      rcases hend with hend | ⟨hend, hend2⟩
      all_goals
        go_wp2_with fail
        go_loopw [6] (fun i w4 => ∃ j : Nat, j ≤ s.L.length ∧ i = .int .i64 (j : Int) ∧ Tw W B R s s [] w4) (fun i _ => s.L.length - (intOf i).toNat)
        case atStart => exact ⟨0, Nat.zero_le _, rfl, HT.out⟩
        case round =>
          obtain ⟨j, hj, rfl, hT4⟩ := hrel
          obtain ⟨u4, i1, i2, i3⟩ := hT4.lenR
          have hl256 : s.L.length ≤ 256 := by obtain ⟨v, u, h1, _⟩ := hT4; exact h1.len
          obtain ⟨nl, hnl⟩ : ∃ nl : Int, (s.L.length : Int) = nl := ⟨_, rfl⟩
          rw [hnl] at i3
          have HNL := Lib.hid hnl
          have HT4 := Lib.hid hT4
          by_cases hlt2 : j < s.L.length
          · obtain ⟨f, hf⟩ : ∃ f, s.L[j]? = some f := ⟨_, List.getElem?_eq_getElem hlt2⟩
            have CK := hT4.lookA (j : Int)
            obtain ⟨_, _, e3, e4⟩ := look_yes hf
            rw [e3, e4] at CK
            unfold agg enc at CK
            have CK := Lib.hid CK
            have hjl : (j : Int) < nl := by omega
            have hj256 : (j : Int) < 256 := by omega
            have HJ := Lib.hid hlt2
            have HF := Lib.hid hf
            clear hlt2 hf e3 e4 hj hl256 hnl hT4
            go_wp2_with fail
            refine CK.out.mono ?_
            rintro e w6 ⟨rfl, hk6⟩
            have BX := Lib.hid (Box.new w6 PT f)
            have HT6 := Lib.hid (HT4.out.go (hk6.more (.cells #[.int .i64 f.fr, .int .i64 f.to, .string f.s, .bool f.h] PT)))
            clear hk6 i1 i2 i3
            go_wp2_with fail
            obtain ⟨b8, hb8⟩ : ∃ b8, w6.heap.size = b8 := ⟨_, rfl⟩
            obtain ⟨w7, hw7⟩ : ∃ w7, w6.alloc (.cells #[.int .i64 f.fr, .int .i64 f.to, .string f.s, .bool f.h] PT) = w7 := ⟨_, rfl⟩
            rw [hb8, hw7] at BX
            rw [hw7] at HT6
            rw [hb8, hw7]
            clear hb8 hw7
            obtain ⟨y0, y1, y2, y3, _, yl⟩ := BX.out.cells
            obtain ⟨g, cap, z, z0, z1, z2, z3⟩ := HT6.out.elemR HF.out
            have hjL : (j : Int) < (s.L.length : Int) := by have := HJ.out; omega
            have CS := Lib.hid (same_any f)
            clear CK
            refine wp_region_still_tail 11 (by kernel_rfl) (by kernel_rfl) ?_
            change wpStill _ _ (World.drew _) (fun a' => wpList _ _ _ _ a' (World.drew _)) _ _
            simp only [List.take_succ_cons, List.take_zero, List.drop_succ_cons, List.drop_zero]
            repeat (first | still_step)
            refine wpStill_nil ?_
            go_wp2_with fail
            refine (CS.out _).mono ?_
            rintro e w8 ⟨rfl, hk8⟩
            have HT8 := Lib.hid (HT6.out.go ((Kept.refl w7).drew.trans hk8))
            clear hk8 y0 y1 y2 y3 z z0 z1 z2 z3
            go_wp2_with fail
            go_roundw
            case rel => exact ⟨j + 1, HJ.out, by go_num, HT8.out⟩
            case measure => have := HJ.out; simp [intOf]; omega
          · have hjl : nl ≤ (j : Int) := by omega
            clear hlt2 hj hl256 hnl hT4
            go_wp2_with fail
            refine (A.out _).mono ?_
            rintro e w11 ⟨rfl, hk11⟩
            have K11 := Lib.hid (HT4.out.kept.trans hk11)
            clear hk11
            go_wp2_with fail
            go_ret
            exact ⟨rfl, K11.out⟩
theorem plays_all {H : Type} {en : TypeId × Value → H} {r : Reach} {b0 : Nat} {d : DataW H} {p : List MemPlace} (hv : Value.okWide Try.prog W r b0 22 v)
    (h : DataW.Trod en Try.prog W 0 (fun _ => true) true 22 v d p) :
    Calls Try.prog 3 #[v] W fun e w' => e = .returned (.bool true) ∧ Kept W w' := by
  obtain ⟨len, F, hD⟩ := open_deeds hv h
  exact plays_deeds hD
end

end Go.Proofs.Ytglgkgpmfeamnaa.Bg
