/- The document's Mark. -/
import Derived.Test.YthnjfkikepohcaaSr
import Derived.Deep.AppendLies
import Derived.Deep.RegionLaw
import Derived.Deep.DeepCutAuto
namespace Go.Proofs.Ythnjfkikepohcaa.Se
open Go.RowKit Go.Sort Tk IdM Rv
open St (Kept blk_cell blk_free blk_lt blk_set)
open Wh (Fr Mine)
set_option linter.unusedVariables false

/-- a row of the call's own, laid since W -/
def Rg (W : World) (vl : Value) (L : Its) (wr : World) : Prop := RowV wr vl 49 5 enc L ∧ Kept W wr ∧ ∀ b, vl.ownBlock = some b → W.heap.size ≤ b
section
variable {W wr wr' w4 : World} {vl v2 : Value} {L : Its} {x : Ke × Int}
theorem rg_nil (W : World) (h : Kept W wr) : Rg W (.slice none 0 0) [] wr := ⟨rowv_nil _ _ _ _, h, fun b e => by cases e⟩
theorem Rg.keep (h : Rg W vl L wr) (hk : Kept wr wr') : Rg W vl L wr' := ⟨h.1.keep hk, h.2.1.trans hk, h.2.2⟩
theorem Rg.app (h : Rg W vl L wr) {o : Obj} (hr : RowV w4 v2 49 5 enc (L ++ [x])) (hg : (wr.alloc o).grownBy w4 vl.ownBlock) (hb : v2.ownBlock = vl.ownBlock ∨ ∃ b, v2.ownBlock = some b ∧ wr.heap.size ≤ b) : Rg W v2 (L ++ [x]) w4 := by
  refine ⟨hr, (h.2.1.more o).grown hg (h.2.1.more o).size (fun j e => h.2.2 j e), fun b e => ?_⟩
  rcases hb with c | ⟨b', c, d⟩
  · rw [c] at e; exact h.2.2 b e
  · rw [c] at e; obtain rfl := Option.some.inj e; have := h.2.1.size; omega
end
theorem live_take {s : Its} {t : Int} {j : Nat} {e : Ke × Int} (he : s[j]? = some e) : live t (s.take (j + 1)) = live t (s.take j) ++ (if t < e.2 then [e] else []) := by
  unfold live
  rw [List.take_add_one, he, List.filter_append]
  congr 1
  by_cases c : t < e.2
  · simp [c]
  · simp [c]

theorem item_new (W : World) (et : TypeId) (e : Ke × Int) : ∀ j u, (enc e)[j]? = some u → (W.alloc (.cells #[.int .i64 e.1.n, .int .i64 e.1.i, .int .i64 e.1.s, .int .i64 e.1.a, .int .i64 e.2] et)).cell? ((⟨W.heap.size, 0, none⟩ : Addr).add j) = some u := by
  intro j u hj
  rw [addr_add, Nat.zero_add, World.cell?_alloc_new, ← Array.getElem?_toList]
  exact hj
theorem row_snoc {w : World} {v : Value} {et : TypeId} {L : Its} {f : Ke × Int} (h : w.ownsRow 0 et 5 v (L.length + 1) (fl enc L ++ enc f)) : RowV w v et 5 enc (L ++ [f]) := by
  unfold RowV; rw [List.length_append, fl_app, fl_one]; exact h
theorem lies_or {v : Value} {g m cap H H' : Nat} (h : v.ownBlock = some g ∨ g = H) (hH : H' ≤ H := by exact Nat.le_refl _) : (Value.slice (some ⟨g, 0, none⟩) m cap).ownBlock = v.ownBlock ∨ ∃ g', (Value.slice (some ⟨g, 0, none⟩) m cap).ownBlock = some g' ∧ H' ≤ g' :=
  h.elim (fun c => .inl c.symm) (fun c => .inr ⟨g, rfl, by omega⟩)

/-- what Mark does -/
def rmarked (w : World) (R : Nat) (v : Value) (s : Its) (k : Ke) (u t : Int) : Ending → World → Prop := fun e w' =>
  e = .returned (.bool (markE k u t s)) ∧ ∃ v', Rsn w' R v' (markS k u t s) ∧ Fr (SO R v) w w' ∧ ∀ k, SO R v' k → SO R v k ∨ w.heap.size ≤ k

section
variable {w w' W wr : World} {R : Nat} {v vl : Value} {s l : Its} {n i q a : Int}
/-- the list that was laid is put in -/
theorem Rsn.put (h : Rsn w R v s) (hk : Kept w W) (hr : Rg W vl l wr) (hl : Right l) : Rsn (wr.setCell ⟨R, 0, none⟩ vl) R vl l ∧ Fr (SO R v) w (wr.setCell ⟨R, 0, none⟩ vl) ∧ ∀ k, SO R vl k → SO R v k ∨ W.heap.size ≤ k := by
  have kw := hk.trans hr.2.1
  have hR := blk_lt h.blk
  have hn : ∀ g, vl.ownBlock = some g → g ≠ R := fun g e => by have := hr.2.2 g e; have := hk.size; omega
  exact ⟨⟨blk_set (h.kept kw).blk 0 vl, hr.1.kept fun g e => Below.heap_setCell _ _ _ _ (hn g e), hn, hl⟩, (Fr.kept kw).setCell (.inl (.inl rfl)) _, fun k c => c.imp .inl (fun e => hr.2.2 k e)⟩
/-- one more is laid behind -/
theorem Rsn.more (h : Rsn w R v s) {v2 : Value} {w2 : World} {e : Ke × Int} (hk : Kept w W) (hg : W.grownBy w2 v.ownBlock) (hr : RowV w2 v2 49 5 enc (s ++ [e])) (hb : v2.ownBlock = v.ownBlock ∨ ∃ g, v2.ownBlock = some g ∧ W.heap.size ≤ g) (hl : Right (s ++ [e])) :
    Rsn (w2.setCell ⟨R, 0, none⟩ v2) R v2 (s ++ [e]) ∧ Fr (SO R v) w (w2.setCell ⟨R, 0, none⟩ v2) ∧ ∀ k, SO R v2 k → SO R v k ∨ w.heap.size ≤ k := by
  have hz := hk.size
  have hR := blk_lt h.blk
  have hv2 : ∀ g, v2.ownBlock = some g → g ≠ R ∧ (v.ownBlock = some g ∨ w.heap.size ≤ g) := fun g c => by
    rcases hb with d | ⟨g', d, e⟩
    · rw [d] at c; exact ⟨h.ne g c, .inl c⟩
    · rw [d] at c; obtain rfl := Option.some.inj c; exact ⟨by omega, .inr (by omega)⟩
  have hblk : w2.heap[R]? = some (.cells #[v] 28 (0, 0)) := (hg.block R (by omega) (fun c => h.ne R c.symm rfl)).trans ((hk.block R hR).trans h.blk)
  have F : Fr (SO R v) w w2 := (Fr.kept hk).grown hg (fun k c => .inl (.inr c))
  exact ⟨⟨blk_set hblk 0 v2, hr.kept fun g c => Below.heap_setCell _ _ _ _ (hv2 g c).1, fun g c => (hv2 g c).1, hl⟩, F.setCell (.inl (.inl rfl)) _, fun k c => c.elim (fun c => .inl (.inl c)) (fun c => (hv2 k c).2.imp .inr id)⟩
theorem Rsn.cells_then (h : Rsn w R v s) {w2 : World} (k1 : Kept w W) (hg : W.grownBy w2 v.ownBlock) : w2.cell? ⟨R, 0, none⟩ = some v ∧ w2.frozen? ⟨R, 0, none⟩ = false := by
  have hblk : w2.heap[R]? = some (.cells #[v] 28 (0, 0)) := (hg.block R (by have := k1.size; have := blk_lt h.blk; omega) (fun c => h.ne R c.symm rfl)).trans ((k1.block R (blk_lt h.blk)).trans h.blk)
  exact ⟨by rw [blk_cell hblk]; rfl, blk_free hblk 0⟩

set_option maxHeartbeats 3200000 in
set_option maxRecDepth 100000 in
theorem rmark_any (h : Rsn w R v s) (hx : okK ⟨n, i, q, a⟩) (u t : Int) :
    Calls Try.prog 9 #[.pointer (some ⟨R, 0, none⟩), .agg #[.int .i64 n, .int .i64 i, .int .i64 q, .int .i64 a], .int .i64 u, .int .i64 t] w (rmarked w R v s ⟨n, i, q, a⟩ u t) := by
  obtain ⟨W, hW⟩ : ∃ W, w.alloc (.cells #[.int .i64 n, .int .i64 i, .int .i64 q, .int .i64 a] 32) = W := ⟨_, rfl⟩
  have k0 : Kept w W := by rw [← hW]; exact Kept.one _ _
  have b0 : W.heap[w.heap.size]? = some (.cells #[.int .i64 n, .int .i64 i, .int .i64 q, .int .i64 a] 32 (0, 0)) := by rw [← hW]; exact St.blk_new _ _
  have h1 := h.kept k0
  have hnb : ¬ SO R v w.heap.size := fun c => by have := h.lt _ c; omega
  obtain ⟨uu, hu⟩ : ∃ x, clamp u = x := ⟨_, rfl⟩
  obtain ⟨tt, ht⟩ : ∃ x, clamp t = x := ⟨_, rfl⟩
  have CU := Lib.hid (fun w => by have := rclamp_any u w; rw [hu] at this; exact this)
  have CT := Lib.hid (fun w => by have := rclamp_any t w; rw [ht] at this; exact this)
  obtain ⟨l, hl⟩ : ∃ l, live tt s = l := ⟨_, rfl⟩
  obtain ⟨p, hp⟩ : ∃ p, hasK ⟨n, i, q, a⟩ l = p := ⟨_, rfl⟩
  have hlen : l.length ≤ 512 := by have := live_len tt s; rw [hl] at this; have := h.rt.len; omega
  have hRl : Right l := by rw [← hl]; exact h.rt.live tt
  have hsl := h.rt.len
  have ME : markE ⟨n, i, q, a⟩ u t s = (!p && (decide (tt < uu) && decide (l.length < 512))) := by unfold markE; rw [hu, ht, hl, hp]
  have MS : markS ⟨n, i, q, a⟩ u t s = if (!p && (decide (tt < uu) && decide (l.length < 512))) then l ++ [(⟨n, i, q, a⟩, uu)] else l := by unfold markS; rw [ME, hu, ht, hl]
  have RT := h.rt.mark hx u t
  have HM := Lib.hid (And.intro ME (And.intro MS RT))
  have HW := Lib.hid hW
  have HX := Lib.hid hx
  have HP := Lib.hid hp
  have HLV := Lib.hid hl
  have HRL := Lib.hid hRl
  have HBX := Lib.hid (And.intro b0 hnb)
  have HI := Lib.hid h1
  have HK := Lib.hid k0
  have hlenL := h.len
  have hHS := Lib.hid h
  clear h h1 hW hx ME MS RT k0 b0 hnb hu ht hl hp hRl
  go_enter Try.func9, Try.ntmps9
  go_wp2_with fail
  rw [HW.out]
  go_wp2_with (first
    | (go_at_call 14; refine (CT.out _).mono ?_; rintro e w' ⟨rfl, rfl⟩)
    | (go_at_call 14; refine (CU.out _).mono ?_; rintro e w' ⟨rfl, rfl⟩))
  go_loopw [10, 9] (fun iv vl wr => ∃ j : Nat, j ≤ s.length ∧ iv = .int .i64 (j : Int) ∧ Rg W vl (live tt (s.take j)) wr) (fun iv _ _ => s.length - (intOf iv).toNat)
  case atStart => exact ⟨0, Nat.zero_le _, rfl, rg_nil _ (Kept.refl _)⟩
  case round =>
    obtain ⟨j, hj, rfl, hr⟩ := hrel
    have hk := hr.2.1
    have H1 := HI.out.kept hk
    have c0 := H1.c0
    by_cases hlt : j < s.length
    · obtain ⟨⟨y, c⟩, hy⟩ : ∃ e, s[j]? = some e := ⟨_, List.getElem?_eq_getElem hlt⟩
      have hdt := live_take (t := tt) hy
      obtain ⟨yn, yi, ys, ya⟩ := y
      obtain ⟨b, cap, hv, hcap, hbl, p0, p1, p2, p3, p4⟩ := H1.at hy
      have hcap2 : (s.length : Int) ≤ (cap : Int) := by omega
      have hj0 : (0 : Int) ≤ (j : Int) := by omega
      have hjl : (j : Int) < (s.length : Int) := by omega
      have hdl : (live tt (s.take j)).length ≤ 900000 := by
        have h1 := live_len tt (s.take j)
        rw [List.length_take] at h1; omega
      have HR := Lib.hid hr
      clear H1 hbl hcap hk hr hy
      subst hv
      by_cases hct : tt < c
      · simp only at hdt
        rw [if_pos hct] at hdt
        have HD := Lib.hid hdt
        clear hdt
        go_wp2_with (at_builtin; refine wpList_append_onev encI _ rfl (.tmp 34) (.tmp 42) rfl _ _ (⟨yn, yi, ys, ya⟩, c) _ rfl rfl rfl HR.out.1 hdl ?_; intro v3 w4 hr3 hg3 hb3)
        have HX := Lib.hid (HR.out.app hr3 hg3 hb3)
        clear hr3 hg3 hb3
        go_roundw
        case rel => exact ⟨j + 1, hlt, by go_num, by rw [HD.out]; exact HX.out⟩
        case measure => simp [intOf]; omega
      · simp only at hdt
        rw [if_neg hct, List.append_nil] at hdt
        have HD := Lib.hid hdt
        clear hdt
        go_wp2_with fail
        go_roundw
        case rel => exact ⟨j + 1, hlt, by go_num, by rw [HD.out]; exact HR.out⟩
        case measure => simp [intOf]; omega
    · have hje : j = s.length := by omega
      subst hje
      rw [List.take_length, HLV.out] at hr
      obtain ⟨vl, hvl, hr2⟩ : ∃ vl, vl = _ ∧ Rg W vl l wr := ⟨_, rfl, hr⟩
      subst hvl
      clear hr2
      have hf := blk_free H1.blk 0
      obtain ⟨p9, m9, c9, hsh⟩ := hr.1.shape
      obtain ⟨P1, P2, P3⟩ := hHS.out.put HK.out hr HRL.out
      have bb := (hk.block _ (blk_lt HBX.out.1)).trans HBX.out.1
      have bb2 := (Below.heap_setCell wr ⟨R, 0, none⟩ vl w.heap.size (fun e => HBX.out.2 (.inl e))).trans bb
      obtain ⟨U, hU⟩ : ∃ U, wr.setCell ⟨R, 0, none⟩ vl = U := ⟨_, rfl⟩
      rw [hU] at P1 P2 bb2
      have HU := Lib.hid hU
      have hzU : W.heap.size ≤ U.heap.size := by rw [← hU, Wh.size_set]; exact hk.size
      have d0 := P1.c0
      have hlenU := P1.len
      have y0 : U.cell? ⟨w.heap.size, 0, none⟩ = some (.int .i64 n) := by rw [blk_cell bb2]; rfl
      have y1 : U.cell? ⟨w.heap.size, 1, none⟩ = some (.int .i64 i) := by rw [blk_cell bb2]; rfl
      have y2 : U.cell? ⟨w.heap.size, 2, none⟩ = some (.int .i64 q) := by rw [blk_cell bb2]; rfl
      have y3 : U.cell? ⟨w.heap.size, 3, none⟩ = some (.int .i64 a) := by rw [blk_cell bb2]; rfl
      have CH := rhas_any P1 n i q a
      rw [HP.out] at CH
      have CH := Lib.hid CH
      have HPP := Lib.hid (And.intro P1 (And.intro P2 P3))
      have HB2 := Lib.hid (And.intro bb2 hzU)
      have END0 : ∀ w', Kept U w' → markE ⟨n, i, q, a⟩ u t s = false → rmarked w R v s ⟨n, i, q, a⟩ u t (.returned (.bool false)) w' := fun w' hk he => by
        refine ⟨by rw [he], vl, ?_, HPP.out.2.1.then_kept hk, fun k c => (HPP.out.2.2 k c).imp id (fun c => Nat.le_trans HK.out.size c)⟩
        have e := HM.out.2.1
        rw [← HM.out.1, he] at e
        rw [e]; exact HPP.out.1.kept hk
      have END0 := Lib.hid END0
      clear hlt H1 hr hk bb bb2 P1 P2 P3 hU hzU CU CT
      subst hsh
      by_cases hut : uu ≤ tt
      · have he := Lib.hid (show markE ⟨n, i, q, a⟩ u t s = false by rw [HM.out.1]; simp; intro c; omega)
        go_upto_region 9 with fail
        rw [HU.out]
        go_wp2_with fail
        go_ret
        exact END0.out _ (Kept.refl _) he.out
      · by_cases hfull : 512 ≤ l.length
        · have he := Lib.hid (show markE ⟨n, i, q, a⟩ u t s = false by rw [HM.out.1]; simp; intro c; omega)
          have hfi : (512 : Int) ≤ (l.length : Int) := by omega
          go_upto_region 9 with fail
          rw [HU.out]
          go_wp2_with fail
          go_ret
          exact END0.out _ (Kept.refl _) he.out
        · have hfi : ¬ (512 : Int) ≤ (l.length : Int) := by omega
          cases p
          · have he := Lib.hid (show markE ⟨n, i, q, a⟩ u t s = true by rw [HM.out.1]; simp; omega)
            go_upto_region 9 with fail
            rw [HU.out]
            go_wp2_with (go_at_call 11; refine CH.out.mono ?_; rintro e w2 ⟨rfl, hk2⟩)
            have hb2 := (hk2.block _ (blk_lt HB2.out.1)).trans HB2.out.1
            have z0 : w2.cell? ⟨w.heap.size, 0, none⟩ = some (.int .i64 n) := by rw [blk_cell hb2]; rfl
            have z1 : w2.cell? ⟨w.heap.size, 1, none⟩ = some (.int .i64 i) := by rw [blk_cell hb2]; rfl
            have z2 : w2.cell? ⟨w.heap.size, 2, none⟩ = some (.int .i64 q) := by rw [blk_cell hb2]; rfl
            have z3 : w2.cell? ⟨w.heap.size, 3, none⟩ = some (.int .i64 a) := by rw [blk_cell hb2]; rfl
            have hs2 := HPP.out.1.kept hk2
            have e0 := hs2.c0
            have hrow := hs2.row
            have e := HM.out.2.1
            rw [← HM.out.1, he.out, if_pos rfl] at e
            have hRE : Right (l ++ [(⟨n, i, q, a⟩, uu)]) := by rw [← e]; exact HM.out.2.2
            have FIN : ∀ W3 w3 v3, Kept w2 W3 → W3.grownBy w3 (Value.slice p9 m9 c9).ownBlock → RowV w3 v3 49 5 enc (l ++ [(⟨n, i, q, a⟩, uu)]) → (v3.ownBlock = (Value.slice p9 m9 c9).ownBlock ∨ ∃ g, v3.ownBlock = some g ∧ W3.heap.size ≤ g) →
                rmarked w R v s ⟨n, i, q, a⟩ u t (.returned (.bool true)) (w3.setCell ⟨R, 0, none⟩ v3) := fun W3 w3 v3 hk3 hg hr hb => by
              obtain ⟨Q1, Q2, Q3⟩ := hs2.more hk3 hg hr hb hRE
              refine ⟨by rw [he.out], v3, by rw [e]; exact Q1, (HPP.out.2.1.then_kept hk2).trans Q2 (fun k c => (HPP.out.2.2 k c).imp id (fun c => Nat.le_trans HK.out.size c)), fun k c => ?_⟩
              rcases Q3 k c with c | c
              · exact (HPP.out.2.2 k c).imp id (fun c => Nat.le_trans HK.out.size c)
              · have := hk2.size; have := HB2.out.2; have := HK.out.size; exact .inr (by omega)
            have FIN := Lib.hid FIN
            have KB := Lib.hid (fun W3 w3 => Rsn.cells_then (W := W3) (w2 := w3) hs2)
            have HL := Lib.hid hfull
            obtain ⟨i0, hi, hi0, hi1, hi2⟩ := info_parts encI.info
            have HI0 := Lib.hid (And.intro hi (And.intro hi0 (And.intro hi1 hi2)))
            have hRw : R < w2.heap.size := blk_lt hs2.blk
            have hsmall : l.length < 512 := by omega
            have HSM := Lib.hid hsmall
            clear hs2 hb2 hk2 e hRE y0 y1 y2 y3 hi hi0 hi1 hi2 hfull hfi hsmall
            go_region_law (first | (refine step_append_lies _ rfl (.tmp 68) (.tmp 72) 26 rfl 0 49 i0 (.agg #[.int .i64 0, .int .i64 0, .int .i64 0, .int .i64 0, .int .i64 0]) 5 40 encI.us HI0.out.1 HI0.out.2.1 HI0.out.2.2.1 HI0.out.2.2.2 rfl (by decide) _ _ _ (by simp [Act.eval]) (World.ownsRow.alloc hrow _) ⟨w2.heap.size, 0, none⟩ 1 1 (enc (⟨n, i, q, a⟩, uu)) (by simp [Act.eval]) rfl (item_new w2 _ _) (encI.one _) (by omega) (by unfold maxLen; have := HSM.out; omega) (by have := HSM.out; omega) (by simp) _ rfl ?_; intro g2 cap2 w3 hown3 hgrow3 hlie3 _; obtain ⟨f2, f3⟩ := KB.out _ w3 ((Kept.refl w2).more _).drew hgrow3))
            all_goals go_wp2_with fail
            all_goals go_ret
            all_goals exact FIN.out _ _ _ ((Kept.refl w2).more _).drew hgrow3 (row_snoc hown3) (lies_or hlie3)
          · have he := Lib.hid (show markE ⟨n, i, q, a⟩ u t s = false by rw [HM.out.1]; rfl)
            go_upto_region 9 with fail
            rw [HU.out]
            go_wp2_with (go_at_call 11; refine CH.out.mono ?_; rintro e w2 ⟨rfl, hk2⟩)
            go_ret
            exact END0.out _ hk2 he.out
end

end Go.Proofs.Ythnjfkikepohcaa.Se
