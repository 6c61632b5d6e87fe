/- The document's New: clocks laid one by one. The chapter's example; nil clocks: the law 'nil clocks say nothing' walked. -/
import Derived.Test.YtmimhglegkkcbaaCk2
import Derived.Deep.DeepCutAuto
namespace Go.Proofs.Ytmimhglegkkcbaa.Ck
open Go.RowKit Go.Sort Tk Wh
open St (Kept blk_cell blk_free blk_lt blk_set)
set_option linter.unusedVariables false

/-- the document's New does: none -/
def rnewNo (w : World) : Ending → World → Prop := fun e w' => e = .returned (.tuple #[.pointer none, .bool false]) ∧ w = w'
set_option maxHeartbeats 400000 in
theorem rnew_no (a b : Int) (w : World) (h : a < 1 ∨ 64 < a ∨ b < 0 ∨ 1000 < b) : Calls Try.prog 6 #[.int .i64 a, .int .i64 b] w (rnewNo w) := by
  by_cases h1 : a < 1
  · go_enter Try.func6, Try.ntmps6
    go_wp2
    go_ret2
    exact ⟨rfl, rfl⟩
  · by_cases h2 : 64 < a
    · go_enter Try.func6, Try.ntmps6
      go_wp2
      go_ret2
      exact ⟨rfl, rfl⟩
    · by_cases h3 : b < 0
      · go_enter Try.func6, Try.ntmps6
        go_wp2
        go_ret2
        exact ⟨rfl, rfl⟩
      · have h4 : 1000 < b := by omega
        clear h
        go_enter Try.func6, Try.ntmps6
        go_wp2
        go_ret2
        exact ⟨rfl, rfl⟩

/-- clocks that are being laid: so many of the one slice, so many of the other one -/
structure Fil (w : World) (R : Nat) (skew : Int) (ka ks : Nat) (va vs : Value) (wr : World) : Prop where
  blk : wr.heap[R]? = some (.cells #[.int .i64 0, .int .i64 skew, va, vs] 36 (0, 0))
  ra : Row wr va (List.replicate ka 0)
  rs : Row wr vs (List.replicate ks 0)
  na : ∀ g, va.ownBlock = some g → g ≠ R ∧ w.heap.size ≤ g
  ns : ∀ g, vs.ownBlock = some g → g ≠ R ∧ w.heap.size ≤ g
  nn : ∀ g, va.ownBlock = some g → vs.ownBlock ≠ some g
  hR : w.heap.size ≤ R
  kept : Kept w wr

section
variable {w wr w1 : World} {R ka ks : Nat} {skew : Int} {va vs v1 : Value} {o : Obj}
theorem grown_blk (hg : (wr.alloc o).grownBy w1 va.ownBlock) {k : Nat} (hk : k < wr.heap.size) (hn : va.ownBlock ≠ some k) : w1.heap[k]? = wr.heap[k]? :=
  (hg.block k (by simp; omega) (fun c => hn c.symm)).trans (Below.heap_alloc _ _ _ hk)
theorem kept_grown (h : Kept w wr) (hg : (wr.alloc o).grownBy w1 va.ownBlock) (hn : ∀ g, va.ownBlock = some g → w.heap.size ≤ g) : Kept w w1 :=
  ((Fr.kept (S := fun k => va.ownBlock = some k) h).alloc o |>.grown hg (fun k e => .inl e)).keeps hn
theorem kept_set (h : Kept w wr) {k : Nat} (hk : w.heap.size ≤ k) (o : Nat) (u : Value) : Kept w (wr.setCell ⟨k, o, none⟩ u) :=
  ((Fr.kept (S := fun j => j = k) h).setCell (p := ⟨k, o, none⟩) (.inl rfl) u).keeps (fun j e => by subst e; exact hk)
theorem Fil.lt (h : Fil w R skew ka ks va vs wr) : R < wr.heap.size := blk_lt h.blk
theorem Fil.grownA (h : Fil w R skew ka ks va vs wr) (hg : (wr.alloc o).grownBy w1 va.ownBlock) : w1.heap[R]? = some (.cells #[.int .i64 0, .int .i64 skew, va, vs] 36 (0, 0)) :=
  (grown_blk hg h.lt (fun c => (h.na R c).1 rfl)).trans h.blk
theorem Fil.grownS (h : Fil w R skew ka ks va vs wr) (hg : (wr.alloc o).grownBy w1 vs.ownBlock) : w1.heap[R]? = some (.cells #[.int .i64 0, .int .i64 skew, va, vs] 36 (0, 0)) :=
  (grown_blk hg h.lt (fun c => (h.ns R c).1 rfl)).trans h.blk
theorem rep_snoc (k : Nat) : List.replicate k (0 : Int) ++ [0] = List.replicate (k + 1) 0 := by rw [List.replicate_succ']
theorem Fil.stepA (h : Fil w R skew ka ks va vs wr) (hr : Row w1 v1 (List.replicate ka 0 ++ [0])) (hg : (wr.alloc o).grownBy w1 va.ownBlock) (hb : v1.ownBlock = va.ownBlock ∨ ∃ g, v1.ownBlock = some g ∧ wr.heap.size ≤ g) :
    Fil w R skew (ka + 1) ks v1 vs (w1.setCell ⟨R, 2, none⟩ v1) := by
  have hz := h.kept.size
  have hv1 : ∀ g, v1.ownBlock = some g → g ≠ R ∧ w.heap.size ≤ g ∧ vs.ownBlock ≠ some g := fun g c => by
    rcases hb with d | ⟨g', d, e⟩
    · have c' := d ▸ c; exact ⟨(h.na g c').1, (h.na g c').2, h.nn g c'⟩
    · rw [d] at c; obtain rfl := Option.some.inj c
      have := h.lt
      exact ⟨by omega, by omega, fun c => by have := h.rs.lt c; omega⟩
  refine ⟨blk_set (h.grownA hg) 2 _, ?_, h.rs.kept fun g c => ?_, fun g c => ⟨(hv1 g c).1, (hv1 g c).2.1⟩, h.ns, fun g c => (hv1 g c).2.2, h.hR, kept_set (kept_grown h.kept hg (fun g c => (h.na g c).2)) h.hR _ _⟩
  · rw [rep_snoc] at hr
    exact hr.kept fun g c => Below.heap_setCell _ _ _ _ (hv1 g c).1
  · exact (Below.heap_setCell _ _ _ _ (h.ns g c).1).trans (grown_blk hg (h.rs.lt c) (fun d => h.nn g d c))
theorem Fil.stepS (h : Fil w R skew ka ks va vs wr) (hr : Row w1 v1 (List.replicate ks 0 ++ [0])) (hg : (wr.alloc o).grownBy w1 vs.ownBlock) (hb : v1.ownBlock = vs.ownBlock ∨ ∃ g, v1.ownBlock = some g ∧ wr.heap.size ≤ g) :
    Fil w R skew ka (ks + 1) va v1 (w1.setCell ⟨R, 3, none⟩ v1) := by
  have hz := h.kept.size
  have hv1 : ∀ g, v1.ownBlock = some g → g ≠ R ∧ w.heap.size ≤ g ∧ va.ownBlock ≠ some g := fun g c => by
    rcases hb with d | ⟨g', d, e⟩
    · have c' := d ▸ c; exact ⟨(h.ns g c').1, (h.ns g c').2, fun e => h.nn g e c'⟩
    · rw [d] at c; obtain rfl := Option.some.inj c
      have := h.lt
      exact ⟨by omega, by omega, fun c => by have := h.ra.lt c; omega⟩
  refine ⟨blk_set (h.grownS hg) 3 _, h.ra.kept fun g c => ?_, ?_, h.na, fun g c => ⟨(hv1 g c).1, (hv1 g c).2.1⟩, fun g c d => (hv1 g d).2.2 c, h.hR, kept_set (kept_grown h.kept hg (fun g c => (h.ns g c).2)) h.hR _ _⟩
  · exact (Below.heap_setCell _ _ _ _ (h.na g c).1).trans (grown_blk hg (h.ra.lt c) (fun d => h.nn g c d))
  · rw [rep_snoc] at hr
    exact hr.kept fun g c => Below.heap_setCell _ _ _ _ (hv1 g c).1
theorem Row.shape {w : World} {v : Value} {l : List Int} (h : Row w v l) : ∃ p n c, v = .slice p n c := by
  rcases h.2 with ⟨e, _⟩ | ⟨g, cap, cur, e, _⟩
  · exact ⟨_, _, _, e⟩
  · exact ⟨_, _, _, e⟩
theorem row_blk {w : World} {v : Value} {n : Nat} (h : Row w v (List.replicate n 0)) (hn : 1 ≤ n) : ∃ g c, v = .slice (some ⟨g, 0, none⟩) n c ∧ Blk w g n (fun _ => 0) := by
  obtain ⟨g, cap, cur, e1, e2, e3, e4, e5, e6⟩ := h.full (fun c => by have := congrArg List.length c; simp at this; omega)
  rw [List.length_replicate] at e1 e3 e6
  refine ⟨g, cap, e1, cur, e2, by omega, fun i hi => ?_⟩
  have := take_get e6 (hv_at (i := i) (x := 0) (by simp [hi]))
  simpa using this

/-- the document's New does: such clocks -/
def rnewYes (w : World) (n : Nat) (skew : Int) : Ending → World → Prop := fun e w' => ∃ R ga gs ca cs, e = .returned (.tuple #[.pointer (some ⟨R, 0, none⟩), .bool true]) ∧ Rck w' R ga gs ca cs n 0 skew (fun _ => 0) (fun _ => 0) ∧ (∀ k, SR R ga gs k → w.heap.size ≤ k) ∧ Kept w w'
theorem Fil.done {n : Nat} (h : Fil w R skew n n va vs wr) (n0 : 1 ≤ n) (n1 : n ≤ 64) (s0 : 0 ≤ skew) (s1 : skew ≤ 1000) : rnewYes w n skew (.returned (.tuple #[.pointer (some ⟨R, 0, none⟩), .bool true])) wr := by
  obtain ⟨ga, ca, ea, ba⟩ := row_blk h.ra n0
  obtain ⟨gs, cs, es, bs⟩ := row_blk h.rs n0
  have na := h.na ga (by rw [ea]; rfl)
  have ns := h.ns gs (by rw [es]; rfl)
  have nn := h.nn ga (by rw [ea]; rfl)
  refine ⟨R, ga, gs, ca, cs, rfl, ⟨by rw [← ea, ← es]; exact h.blk, ba, bs, fun c => na.1 c.symm, fun c => ns.1 c.symm, fun c => nn (by rw [es, c]; rfl), ⟨Int.le_refl _, by omega, s0, s1, n0, n1, fun _ _ => by omega, fun _ _ => s0⟩⟩, ?_, h.kept⟩
  rintro k (rfl | rfl | rfl)
  · exact h.hR
  · exact na.2
  · exact ns.2
end

set_option maxHeartbeats 1600000 in
theorem rnew_yes (n : Nat) (skew : Int) (w : World) (n0 : 1 ≤ n) (n1 : n ≤ 64) (s0 : 0 ≤ skew) (s1 : skew ≤ 1000) : Calls Try.prog 6 #[.int .i64 (n : Int), .int .i64 skew] w (rnewYes w n skew) := by
  have g0 : ¬ (n : Int) < 1 := by omega
  have g1 : ¬ (64 : Int) < (n : Int) := by omega
  have g2 : ¬ skew < 0 := by omega
  have g3 : ¬ 1000 < skew := by omega
  have N := Lib.hid (And.intro n0 (And.intro n1 (And.intro s0 s1)))
  clear n0 n1 s0 s1
  go_enter Try.func6, Try.ntmps6
  go_wp2_with fail
  have F0 : Fil w w.heap.size skew 0 0 (.slice none 0 0) (.slice none 0 0) (w.alloc (.cells #[.int .i64 0, .int .i64 skew, .slice none 0 0, .slice none 0 0] 36)) :=
    ⟨St.blk_new _ _, row_nil _, row_nil _, fun g c => by simp [Value.ownBlock] at c, fun g c => by simp [Value.ownBlock] at c, fun g c => by simp [Value.ownBlock] at c, Nat.le_refl _, Kept.one _ _⟩
  obtain ⟨R, hR⟩ : ∃ b, w.heap.size = b := ⟨_, rfl⟩
  rw [hR] at F0 ⊢
  clear hR g0 g1 g2 g3
  go_loopw [7] (fun i wr => ∃ k : Nat, k ≤ n ∧ i = .int .i64 (k : Int) ∧ ∃ va vs, Fil w R skew k k va vs wr) (fun i _ => n - (intOf i).toNat)
  case atStart => exact ⟨0, Nat.zero_le _, rfl, _, _, F0⟩
  case round =>
    obtain ⟨k, hk, rfl, va, vs, hF⟩ := hrel
    by_cases hlt : k < n
    · have hkn : (k : Int) < (n : Int) := by omega
      have hk64 : (k : Int) < 64 := by have := N.out.2.1; omega
      have c2 : wr.cell? ⟨R, 2, none⟩ = some va := by rw [blk_cell hF.blk]; rfl
      have hlen : (List.replicate k (0 : Int)).length ≤ 1000000 := by have := N.out.2.1; simp; omega
      have HF := Lib.hid hF
      clear hF
      go_upto_region 8 with (at_builtin; refine wpList_append_one _ rfl _ _ rfl va (List.replicate k 0) 0 rfl rfl HF.out.ra hlen ?_; intro v1 w1 hr1 hg1 hb1; have hR1 := HF.out.grownA hg1; have x2 := blk_free hR1 2; have x3 : w1.cell? ⟨R, 3, none⟩ = some vs := (by rw [blk_cell hR1]; rfl); have y2 : w1.cell? ⟨R, 2, none⟩ = some va := (by rw [blk_cell hR1]; rfl); have HA := Lib.hid (HF.out.stepA hr1 hg1 hb1); clear hR1 hg1 hb1 c2; obtain ⟨p1, m1, q1, rfl⟩ := Row.shape hr1; clear hr1)
      obtain ⟨z1, hz1⟩ : ∃ z, w1.setCell ⟨R, 2, none⟩ (.slice p1 m1 q1) = z := ⟨_, rfl⟩
      rw [hz1] at HA ⊢
      have c3 : z1.cell? ⟨R, 3, none⟩ = some vs := by rw [blk_cell HA.out.blk]; rfl
      clear x2 x3 y2 hz1
      go_wp2_with (at_builtin; refine wpList_append_one _ rfl _ _ rfl vs (List.replicate k 0) 0 rfl rfl HA.out.rs hlen ?_; intro v2 w2 hr2 hg2 hb2; have hR2 := HA.out.grownS hg2; have x3 := blk_free hR2 3; have y3 : w2.cell? ⟨R, 3, none⟩ = some vs := (by rw [blk_cell hR2]; rfl); have HB := Lib.hid (HA.out.stepS hr2 hg2 hb2); clear hR2 hg2 hb2 c3; obtain ⟨p2, m2, q2, rfl⟩ := Row.shape hr2; clear hr2)
      go_roundw
      case rel => exact ⟨k + 1, hlt, by go_num, _, _, HB.out⟩
      case measure => simp [intOf]; omega
    · have hkn : (n : Int) ≤ (k : Int) := by omega
      obtain rfl : k = n := by omega
      have HF := Lib.hid hF
      clear hF hlt
      go_wp2_with fail
      go_ret2
      obtain ⟨n0, n1, s0, s1⟩ := N.out
      exact HF.out.done n0 n1 s0 s1

/-- the program's clocks, a call's own -/
def Lc (W : World) (B H n : Nat) (real skew : Int) (A D : Nat → Int) (w : World) : Prop := Clk w B H n real skew A D ∧ Mine W (SC B H) w
section
variable {W w w' : World} {B H n : Nat} {real skew : Int} {A D : Nat → Int}
theorem Lc.go (h : Lc W B H n real skew A D w) (k : Kept w w') : Lc W B H n real skew A D w' := ⟨h.1.kept k, h.2.go k⟩
theorem Lc.tick (h : Lc W B H n real skew A D w) (a : Int) : Calls Try.prog 10 #[.pointer (some ⟨B, 0, none⟩), .int .i64 a] w fun e w' => e = .returned (.tuple #[]) ∧ Lc W B H n (add real a) skew A D w' :=
  (tick_any h.1 a).mono fun _ _ ⟨e, c, f⟩ => ⟨e, c, h.2.step f (fun _ c => .inl c)⟩
theorem Lc.shift (h : Lc W B H n real skew A D w) {i : Nat} (hi : i < n) (x : Int) : Calls Try.prog 13 #[.pointer (some ⟨B, 0, none⟩), .int .i64 (i : Int), .int .i64 x] w fun e w' => e = .returned (.int .i64 0) ∧ Lc W B H n real skew (upd A i (max (-skew) (min x skew))) D w' :=
  (shift_in h.1 hi x).mono fun _ _ ⟨e, c, f⟩ => ⟨e, c, h.2.step f (fun _ c => .inl c)⟩
theorem Lc.read (h : Lc W B H n real skew A D w) {i : Nat} (hi : i < n) : Calls Try.prog 12 #[.pointer (some ⟨B, 0, none⟩), .int .i64 (i : Int)] w fun e w' => e = .returned (.int .i64 (says real A D i)) ∧ Lc W B H n real skew A (upd D i (says real A D i)) w' :=
  (read_in h.1 hi).mono fun _ _ ⟨e, c, f⟩ => ⟨e, c, h.2.step f (fun _ c => .inl c)⟩
end

set_option maxHeartbeats 800000 in
theorem awake_any (W : World) : Calls Try.prog 9 #[] W fun e w' => e = .returned (.bool true) ∧ Kept W w' := by
  have NW : Calls Try.prog 5 #[.int .i64 2, .int .i64 5] W (newYes W 2 5) := new_yes 2 5 W (by omega) (by omega) (by omega) (by omega)
  have NW := Lib.hid NW
  have T : ∀ {B H w}, Lc W B H 2 0 5 (fun _ => 0) (fun _ => 0) w → Calls Try.prog 10 #[.pointer (some ⟨B, 0, none⟩), .int .i64 100] w fun e w' => e = .returned (.tuple #[]) ∧ Lc W B H 2 100 5 (fun _ => 0) (fun _ => 0) w' := fun h => h.tick 100
  have S : ∀ {B H w}, Lc W B H 2 100 5 (fun _ => 0) (fun _ => 0) w → Calls Try.prog 13 #[.pointer (some ⟨B, 0, none⟩), .int .i64 1, .int .i64 99] w fun e w' => e = .returned (.int .i64 0) ∧ Lc W B H 2 100 5 (upd (fun _ => 0) 1 5) (fun _ => 0) w' := fun h => h.shift (i := 1) (by omega) 99
  have R1 : ∀ {B H w}, Lc W B H 2 100 5 (upd (fun _ => 0) 1 5) (fun _ => 0) w → Calls Try.prog 12 #[.pointer (some ⟨B, 0, none⟩), .int .i64 1] w fun e w' => e = .returned (.int .i64 105) ∧ Lc W B H 2 100 5 (upd (fun _ => 0) 1 5) (upd (fun _ => 0) 1 105) w' := fun h => h.read (i := 1) (by omega)
  have R0 : ∀ {B H w}, Lc W B H 2 100 5 (upd (fun _ => 0) 1 5) (upd (fun _ => 0) 1 105) w → Calls Try.prog 12 #[.pointer (some ⟨B, 0, none⟩), .int .i64 0] w fun e w' => e = .returned (.int .i64 100) ∧ Lc W B H 2 100 5 (upd (fun _ => 0) 1 5) (upd (upd (fun _ => 0) 1 105) 0 100) w' := fun h => h.read (i := 0) (by omega)
  have RR : ∀ {B H w}, Lc W B H 2 100 5 (upd (fun _ => 0) 1 5) (upd (upd (fun _ => 0) 1 105) 0 100) w → Calls Try.prog 11 #[.pointer (some ⟨B, 0, none⟩)] w fun e w' => e = .returned (.int .i64 100) ∧ w = w' := fun h => real_any h.1
  have ALL := Lib.hid (And.intro @T (And.intro @S (And.intro @R1 (And.intro @R0 @RR))))
  clear T S R1 R0 RR
  go_enter Try.func9, Try.ntmps9
  go_wp2_with (first | (go_at_call 5; refine NW.out.mono ?_; rintro e w1 ⟨B, H, rfl, hc, hB, hH, hk⟩; have L0 := Lib.hid (show Lc W B H 2 0 5 (fun _ => 0) (fun _ => 0) w1 from ⟨hc, hk, fun k c => c.elim (fun c => c ▸ hB) (fun c => c ▸ hH)⟩); clear hc hB hH hk) | (go_at_call 10; refine (ALL.out.1 L0.out).mono ?_; rintro e w2 ⟨rfl, h1⟩; have L1 := Lib.hid h1; clear h1) | (go_at_call 13; refine (ALL.out.2.1 L1.out).mono ?_; rintro e w3 ⟨rfl, h1⟩; have L2 := Lib.hid h1; clear h1) | (go_at_call 11; refine (ALL.out.2.2.2.2 L4.out).mono ?_; rintro e w6 ⟨rfl, rfl⟩) | (go_at_call 12; ((with_reducible refine (ALL.out.2.2.1 L2.out).mono ?_); rintro e w4 ⟨rfl, h1⟩; have L3 := Lib.hid h1; clear h1)) | (go_at_call 12; ((with_reducible refine (ALL.out.2.2.2.1 L3.out).mono ?_); rintro e w5 ⟨rfl, h1⟩; have L4 := Lib.hid h1; clear h1)))
  go_ret
  exact ⟨rfl, L4.out.2.kept⟩

set_option maxHeartbeats 800000 in
theorem none_any (i x : Int) (W : World) : Calls Try.prog 4 #[.int .i64 i, .int .i64 x] W fun e w' => e = .returned (.bool true) ∧ Kept W w' := by
  go_enter Try.func4, Try.ntmps4
  go_wp2_with (first | (go_at_call 10; refine (ntick _ _).mono ?_; rintro e w' ⟨rfl, rfl⟩) | (go_at_call 11; refine (nreal _).mono ?_; rintro e w' ⟨rfl, rfl⟩) | (go_at_call 8; refine (nskew _).mono ?_; rintro e w' ⟨rfl, rfl⟩) | (go_at_call 12; refine (nread _ _).mono ?_; rintro e w' ⟨rfl, rfl⟩) | (go_at_call 13; refine (nshift _ _ _).mono ?_; rintro e w' ⟨rfl, rfl⟩) | (go_at_call 9; refine (awake_any _).mono ?_; rintro e w9 ⟨rfl, hk9⟩))
  go_ret
  exact ⟨rfl, hk9⟩

end Go.Proofs.Ytmimhglegkkcbaa.Ck
