/- The document's bag: Take, which lays what is left anew; Twice. -/
import Derived.Test.YtglgkgpmfeamnaaBg4
namespace Go.Proofs.Ytglgkgpmfeamnaa.Bg
open Go.RowKit Go.Sort Rv
open St (Kept blk_cell blk_free blk_lt blk_set)
open Wh (Fr Mine)
set_option linter.unusedVariables false

/-- of the first m flights those that are not the one of number k -/
def skp (L : List Fl) (k : Int) : Nat → List Fl
  | 0 => []
  | m + 1 => if (m : Int) = k then skp L k m else skp L k m ++ (L[m]?).toList
theorem skp_is (L : List Fl) (k : Int) : ∀ m, m ≤ L.length → skp L k m = if 0 ≤ k ∧ k < (m : Int) then (L.take m).eraseIdx k.toNat else L.take m
  | 0, _ => by simp [skp]
  | m + 1, h => by
    have ih := skp_is L k m (by omega)
    have e : L[m]? = some L[m] := List.getElem?_eq_getElem (by omega)
    have ht : L.take (m + 1) = L.take m ++ [L[m]] := List.take_succ_eq_append_getElem (by omega)
    have hl : (L.take m).length = m := by rw [List.length_take, Nat.min_eq_left (by omega)]
    unfold skp
    rw [ih, e, ht]
    by_cases hk : (m : Int) = k
    · rw [if_pos hk, if_neg (by omega), if_pos (by omega)]
      have : k.toNat = (L.take m).length := by omega
      rw [this, List.eraseIdx_append_of_length_le (Nat.le_refl _)]
      simp
    · rw [if_neg hk]
      by_cases h2 : 0 ≤ k ∧ k < (m : Int)
      · rw [if_pos h2, if_pos (by omega), List.eraseIdx_append_of_lt_length (by omega)]
        rfl
      · rw [if_neg h2, if_neg (by omega)]
        rfl
theorem skp_take (s : Sta) (k : Int) : (⟨skp s.L k s.L.length, s.lost⟩ : Sta) = takeS s k := by
  rw [skp_is _ _ _ (Nat.le_refl _), List.take_length]
  by_cases h : 0 ≤ k ∧ k < (s.L.length : Int)
  · rw [if_pos h]; exact (if_pos (show has s k from h)).symm
  · rw [if_neg h]; exact (if_neg (show ¬ has s k from h)).symm
theorem skp_len (L : List Fl) (k : Int) (m : Nat) (h : m ≤ L.length) : (skp L k m).length ≤ m := by
  rw [skp_is L k m h]
  have hl : (L.take m).length = m := by rw [List.length_take, Nat.min_eq_left h]
  split
  · rw [List.length_eraseIdx]; split <;> omega
  · omega
theorem skp_in {L : List Fl} {k : Int} {m : Nat} {f : Fl} (h : L[m]? = some f) (hk : (m : Int) ≠ k) : skp L k (m + 1) = skp L k m ++ [f] := by
  show (if (m : Int) = k then _ else _) = _
  rw [if_neg hk, h]; rfl
theorem skp_out {L : List Fl} {k : Int} {m : Nat} (hk : (m : Int) = k) : skp L k (m + 1) = skp L k m := by
  show (if (m : Int) = k then _ else _) = _
  rw [if_pos hk]

abbrev RT : TypeId := 30
abbrev RB : TypeId := 28
/-- a row that is laid anew, beside two boxes -/
structure Lft (w : World) (R0 R1 : Nat) (l : Value) (K : List Fl) (f : Fl) (wr : World) : Prop where
  kept : Kept w wr
  row : RowV wr l RT 4 enc K
  b0 : Box wr R0 RT z
  b1 : Box wr R1 RT f
  own : ∀ g, l.ownBlock = some g → w.heap.size ≤ g ∧ g ≠ R0 ∧ g ≠ R1
theorem Lft.more {w wr w2 : World} {R0 R1 : Nat} {l l2 : Value} {K : List Fl} {f f2 : Fl} {o : Obj} (h : Lft w R0 R1 l K f wr) (hr : RowV w2 l2 RT 4 enc (K ++ [f2])) (hg : (wr.alloc o).grownBy w2 l.ownBlock) (hb : l2.ownBlock = l.ownBlock ∨ ∃ g, l2.ownBlock = some g ∧ wr.heap.size ≤ g) : Lft w R0 R1 l2 (K ++ [f2]) f w2 := by
  have k0 := blk_lt h.b0.blk
  have k1 := blk_lt h.b1.blk
  have hz := h.kept.size
  have old : ∀ j, j < wr.heap.size → l.ownBlock ≠ some j → w2.heap[j]? = wr.heap[j]? := fun j hj hn =>
    (hg.block j (by simp; omega) (fun c => hn c.symm)).trans (Below.heap_alloc _ _ _ hj)
  refine ⟨?_, hr, ⟨(old R0 k0 (fun c => (h.own R0 c).2.1 rfl)).trans h.b0.blk⟩, ⟨(old R1 k1 (fun c => (h.own R1 c).2.2 rfl)).trans h.b1.blk⟩, fun g c => ?_⟩
  · exact ((Fr.kept (S := fun k => l.ownBlock = some k) h.kept).alloc o |>.grown hg (fun k e => .inl e)).keeps (fun g c => (h.own g c).1)
  · rcases hb with d | ⟨g', d, e⟩
    · rw [d] at c; exact h.own g c
    · rw [d] at c; obtain rfl := Option.some.inj c
      exact ⟨by omega, by omega, by omega⟩
theorem Bag.laid {w wr w3 : World} {B R0 R1 : Nat} {v l : Value} {s : Sta} {K : List Fl} {f : Fl} {r : Value} {e : Ending} (h : Bag RB RT w B v s) (hl : Lft w R0 R1 l K f wr) (hK : K.length ≤ 256) (h0 : w.heap.size ≤ R0) (F : Fr (fun j => j = R0) (wr.setCell ⟨B, 0, none⟩ l) w3) (he : e = .returned r) : Turns RB RT w B v ⟨K, s.lost⟩ r e w3 := by
  have hB := blk_lt h.blk
  have hb2 := (h.kept hl.kept).blk
  have b3 : Bag RB RT (wr.setCell ⟨B, 0, none⟩ l) B l ⟨K, s.lost⟩ :=
    ⟨blk_set hb2 0 l, hl.row.kept fun g c => Below.heap_setCell _ _ _ _ (show g ≠ B by have := (hl.own g c).1; omega), fun g c => by have := (hl.own g c).1; omega, hK⟩
  refine ⟨he, l, b3.fr F (fun k c d => ?_), ((Fr.kept (S := Own B v) hl.kept).setCell (.inl (.inl rfl)) _).trans F (fun j c => .inr (by omega)), fun k c => ?_⟩
  · rcases c with c | c
    · omega
    · exact (hl.own k c).2.1 d
  · rcases c with c | c
    · exact .inl (.inl c)
    · exact .inr (hl.own k c).1

section
variable {w : World} {B : Nat} {v : Value} {s : Sta}
set_option maxHeartbeats 3200000 in
set_option maxRecDepth 100000 in
theorem rtake_any (h : Bag RB RT w B v s) (k : Int) : Calls Try.prog 18 #[PB B, .int .i64 k] w (Turns RB RT w B v (takeS s k) (.tuple #[agg (takeF s k), .int .i64 (lookE s k)])) := by
  have hB := blk_lt h.blk
  obtain ⟨f, hf⟩ : ∃ f, takeF s k = f := ⟨_, rfl⟩
  obtain ⟨er, her⟩ : ∃ er, lookE s k = er := ⟨_, rfl⟩
  have CL : ∀ W, Kept w W → Calls Try.prog 21 #[PB B, .int .i64 k] W fun e w' => e = .returned (.tuple #[agg f, .int .i64 er]) ∧ Kept w W ∧ Kept W w' := fun W k' => by
    have := rlook_any (h.kept k') k
    unfold looks at this; rw [hf, her] at this
    exact this.mono fun _ _ h => ⟨h.1, k', h.2⟩
  have CL := Lib.hid CL
  have HS := Lib.hid (skp_take s k)
  have HLen := Lib.hid h.len
  obtain ⟨n, hn⟩ : ∃ n : Int, (s.L.length : Int) = n := ⟨_, rfl⟩
  have hl := fun ty u => h.row.len encR.us ty u
  rw [hn] at hl
  have HN := Lib.hid hn
  have H := Lib.hid h
  rw [hf, her]
  clear h hf her hn
  unfold agg enc at CL ⊢
  go_enter Try.func18, Try.ntmps18
  go_wp2_with (go_at_call 21; refine (CL.out _ (Kept.one _ _)).mono ?_; rintro e w1 ⟨rfl, _, hk1⟩; have hw1 := hk1.size; simp at hw1; have HK1 := Lib.hid ((Kept.one w _).trans hk1); have BX := Lib.hid ((Box.newz w RT).kept hk1); clear hk1)
  obtain ⟨R1, hR1⟩ : ∃ R1, w1.heap.size = R1 := ⟨_, rfl⟩
  obtain ⟨R0, hR0⟩ : ∃ R0, w.heap.size = R0 := ⟨_, rfl⟩
  obtain ⟨W0, hW0⟩ : ∃ W0, w1.alloc (.cells #[.int .i64 f.fr, .int .i64 f.to, .string f.s, .bool f.h] RT) = W0 := ⟨_, rfl⟩
  have hL0 : Lft w R0 R1 (.slice none 0 0) (skp s.L k 0) f W0 :=
    ⟨by rw [← hW0]; exact HK1.out.more _, rowv_nil _ _ _ _, by rw [← hW0, ← hR0]; exact BX.out.kept (Kept.one _ _), by rw [← hW0, ← hR1]; exact Box.new w1 _ f, fun g c => by simp [Value.ownBlock] at c⟩
  have HR := Lib.hid (show w.heap.size ≤ R0 by omega)
  have HRR := Lib.hid (show w.heap.size ≤ R0 ∧ R0 < R1 by omega)
  have HL0 := Lib.hid hL0
  rw [hR1, hR0, hW0]
  clear hR1 hR0 hW0 hL0
  go_loopw [8, 9] (fun l i wr => ∃ m : Nat, m ≤ s.L.length ∧ i = .int .i64 (m : Int) ∧ Lft w R0 R1 l (skp s.L k m) f wr) (fun _ i _ => s.L.length - (intOf i).toNat)
  case atStart => exact ⟨0, Nat.zero_le _, rfl, HL0.out⟩
  case round =>
    obtain ⟨m, hm, rfl, hrow⟩ := hrel
    by_cases hlt : m < s.L.length
    · have hmn : (m : Int) < n := by have := HN.out; omega
      have hb := H.out.kept hrow.kept
      have c0 := hb.c0
      have HRW := Lib.hid hrow
      have HM := Lib.hid hlt
      have hm256 : (m : Int) < 256 := by have := HLen.out; omega
      by_cases hk : (m : Int) = k
      · have hd : ((m : Int) != k) = false := by simp [hk]
        have HK := Lib.hid hk
        clear hk hb hrow hlt hm
        go_wp2_with fail
        go_roundw
        case rel => exact ⟨m + 1, HM.out, by go_num, by rw [skp_out HK.out]; exact HRW.out⟩
        case measure => have := HM.out; simp [intOf]; omega
      · have hd : ((m : Int) != k) = true := by simp [hk]
        obtain ⟨f2, hf2⟩ : ∃ f2, s.L[m]? = some f2 := ⟨_, List.getElem?_eq_getElem hlt⟩
        obtain ⟨g, cap, ev, hcap, hg, hcell⟩ := hb.row.at encR.len hf2
        subst ev
        have q0 : wr.cell? ⟨g, m * 4, none⟩ = some (.int .i64 f2.fr) := hcell 0 _ rfl
        have q1 : wr.cell? ⟨g, m * 4 + 1, none⟩ = some (.int .i64 f2.to) := hcell 1 _ rfl
        have q2 : wr.cell? ⟨g, m * 4 + 2, none⟩ = some (.string f2.s) := hcell 2 _ rfl
        have q3 : wr.cell? ⟨g, m * 4 + 3, none⟩ = some (.bool f2.h) := hcell 3 _ rfl
        have hmL : (m : Int) < (s.L.length : Int) := by omega
        have hlen9 : (skp s.L k m).length ≤ 900000 := by have := skp_len s.L k m (by omega); have := HLen.out; omega
        have HK := Lib.hid (skp_in hf2 hk)
        clear hk hb hrow hlt hm hcell hf2 hcap
        go_wp2_with (at_builtin; refine wpList_append_onev encR wr rfl _ _ rfl f2 _ rfl HRW.out.row rfl rfl hlen9 ?_; intro v2 w2 r1 r2 r3; have HW := Lib.hid (HRW.out.more r1 r2 r3); clear r1 r2 r3)
        go_roundw
        case rel => exact ⟨m + 1, HM.out, by go_num, by rw [HK.out]; exact HW.out⟩
        case measure => have := HM.out; simp [intOf]; omega
    · have hmn : n ≤ (m : Int) := by have := HN.out; omega
      obtain rfl : m = s.L.length := by omega
      have hb := H.out.kept hrow.kept
      have c0 := hb.c0
      have fB := blk_free hb.blk 0
      have hBr := blk_lt hb.blk
      obtain ⟨p1, m1, q1, rfl⟩ := hrow.row.shape
      obtain ⟨x0, x1, x2, x3, xf, xl⟩ := hrow.b1.cells
      obtain ⟨y0, y1, y2, y3, yf, yl⟩ := hrow.b0.cells
      have yf0 := yf 0
      have yf1 := yf 1
      have yf2 := yf 2
      have yf3 := yf 3
      have hR0 : w.heap.size ≤ R0 := HR.out
      have hB0 : B < R0 := by omega
      have hB1 : B ≠ R1 := by have := HRR.out; omega
      have hR01 : R0 ≠ R1 := by have := HRR.out; omega
      have HRW := Lib.hid hrow
      have BE : Hid (Box (wr.setCell ⟨B, 0, none⟩ (.slice p1 m1 q1)) R0 RT z) := hrow.b0.fr ((Fr.refl (fun j => j = B) wr).setCell (p := ⟨B, 0, none⟩) (.inl rfl) _) (by omega)
      clear hb hrow hlt hm yf xf
      unfold z at y0 y1 y2 y3
      go_wp2_with fail
      refine bodyPost_ret (Rw.results_row_tmp rfl _ _ R0 RT _ (0, 0) _ rfl (BE.out.sets f).blk Try.underlying30 rfl info_r) rfl ?_
      rw [← HS.out]
      exact Bag.laid H.out HRW.out (by have := skp_len s.L k s.L.length (Nat.le_refl _); have := HLen.out; omega) HR.out (fr_sets _ _ _ _) rfl
set_option maxHeartbeats 1600000 in
theorem rtwice_any (h : Bag RB RT w B v s) (hlost : s.lost ≤ 1000000) (k : Int) : Calls Try.prog 19 #[PB B, .int .i64 k] w (Turns RB RT w B v (twiceS s k) (.int .i64 (twiceE s k))) := by
  have H := Lib.hid h
  by_cases hk : has s k
  · obtain ⟨i, f, rfl, hf, hi⟩ := has_at hk
    obtain ⟨_, _, e1, e2⟩ := look_yes hf
    have CL : Calls Try.prog 21 #[PB B, .int .i64 (i : Int)] w fun e w' => e = .returned (.tuple #[agg f, .int .i64 0]) ∧ Kept w w' := by
      have := rlook_any h (i : Int)
      unfold looks at this; rw [e1, e2] at this; exact this
    have CL := Lib.hid CL
    have CS := Lib.hid (fun W (k : Kept w W) => rsend_any (h.kept k) hlost f)
    obtain ⟨e3, e4⟩ := twice_yes hf
    rw [e3, e4]
    clear h hf e1 e2 e3 e4 hi hk
    unfold agg enc at CL CS
    go_enter Try.func19, Try.ntmps19
    go_wp2_with (first | (go_at_call 21; refine CL.out.mono ?_; rintro e w1 ⟨rfl, hk1⟩; have HK1 := Lib.hid hk1; clear hk1) | (go_at_call 17; refine (CS.out _ (HK1.out.more _)).mono ?_; rintro e w2 ⟨rfl, ht⟩; have HT := Lib.hid ht; clear ht))
    go_ret
    exact Turns.from ⟨rfl, HT.out⟩ (HK1.out.more _)
  · obtain ⟨e1, e2⟩ := look_no hk
    have CL : Calls Try.prog 21 #[PB B, .int .i64 k] w fun e w' => e = .returned (.tuple #[agg z, .int .i64 7]) ∧ Kept w w' := by
      have := rlook_any h k
      unfold looks at this; rw [e1, e2] at this; exact this
    have CL := Lib.hid CL
    obtain ⟨e3, e4⟩ := twice_no hk
    rw [e3, e4]
    clear h hk e1 e2 e3 e4
    unfold agg enc z at CL
    go_enter Try.func19, Try.ntmps19
    go_wp2_with (go_at_call 21; refine CL.out.mono ?_; rintro e w1 ⟨rfl, hk1⟩; have HK1 := Lib.hid hk1; clear hk1)
    go_ret
    exact Turns.none H.out (HK1.out.more _) rfl
end

end Go.Proofs.Ytglgkgpmfeamnaa.Bg
