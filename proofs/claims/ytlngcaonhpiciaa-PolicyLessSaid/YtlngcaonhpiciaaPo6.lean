/- The law of layer 20: one hop more makes so many times as many attempts, and of the root's own; more never make fewer. -/
import Derived.Test.YtlngcaonhpiciaaPo3
import Derived.BigRegion
namespace Go.Proofs.Ytlngcaonhpiciaa.Po
open Go.RowKit Go.Sort St Ad
open Go.Proofs.Ytlngcaonhpiciaa.Id (quiet_at boxed1)
set_option linter.unusedVariables false

theorem pow_lo {b : Int} : ∀ k, 0 ≤ pow b k
  | 0 => by show (0 : Int) ≤ 1; omega
  | k + 1 => Tk.mul_lo _ _
theorem pow_hi {b : Int} : ∀ k, pow b k ≤ 1125899906842624
  | 0 => by show (1 : Int) ≤ _; omega
  | k + 1 => Tk.mul_hi _ _
theorem sum_lo {b : Int} : ∀ k, 0 ≤ sum b k
  | 0 => Int.le_refl _
  | k + 1 => Tk.add_lo _ _
theorem sum_hi {b : Int} : ∀ k, sum b k ≤ 1125899906842624
  | 0 => by show (0 : Int) ≤ _; omega
  | k + 1 => Tk.add_hi _ _
theorem sum_up (b : Int) (k : Nat) : sum b k ≤ sum b (k + 1) := by
  have h := Tk.add_ge (sum b k) (pow b (k + 1))
  rwa [Tk.clamp_id _ (sum_lo k) (sum_hi k)] at h
theorem mul_le {a b c d : Int} (h : a ≤ b) (k : c ≤ d) : Tk.mul a c ≤ Tk.mul b d := by
  have h1 := Int.mul_le_mul (Tk.clamp_mono h) (Tk.clamp_mono k) (Tk.clamp_lo c) (Tk.clamp_lo b)
  unfold Tk.mul; omega
theorem add_le {a b c d : Int} (h : a ≤ b) (k : c ≤ d) : Tk.add a c ≤ Tk.add b d := by
  have := Tk.clamp_mono h; have := Tk.clamp_mono k; unfold Tk.add; omega
theorem pow_mono {a b : Int} (h : a ≤ b) : ∀ k, pow a k ≤ pow b k
  | 0 => Int.le_refl _
  | k + 1 => mul_le (pow_mono h k) h
theorem sum_mono {a b : Int} (h : a ≤ b) : ∀ k, sum a k ≤ sum b k
  | 0 => Int.le_refl _
  | k + 1 => add_le (sum_mono h k) (pow_mono h (k + 1))
/-- the sum as it is, and as far as it may be -/
def S (b : Int) : Nat → Int
  | 0 => 0
  | k + 1 => b * (S b k + 1)
theorem S_lo {b : Int} (hb : 0 ≤ b) : ∀ k, 0 ≤ S b k
  | 0 => Int.le_refl _
  | k + 1 => Int.mul_nonneg hb (by have := S_lo hb k; omega)
theorem S_step (b : Int) : ∀ k, S b (k + 1) = S b k + b ^ (k + 1)
  | 0 => by show b * (0 + 1) = 0 + b ^ 1; rw [Int.pow_succ]; simp
  | k + 1 => by
    show b * (S b (k + 1) + 1) = b * (S b k + 1) + b ^ (k + 2)
    rw [S_step b k, Int.pow_succ b (k + 1), Int.mul_comm (b ^ (k + 1)) b, Int.add_right_comm, Int.mul_add]
theorem powi_lo {b : Int} (hb : 0 ≤ b) (k : Nat) : 0 ≤ b ^ k := by
  induction k with
  | zero => simp
  | succ k ih => rw [Int.pow_succ]; exact Int.mul_nonneg ih hb
theorem pow_is {b : Int} (h0 : 0 ≤ b) (h1 : b ≤ 1000000) : ∀ k, pow b k = min (b ^ k) 1125899906842624
  | 0 => by show (1 : Int) = min (b ^ 0) 1125899906842624; rw [Int.pow_zero]; omega
  | k + 1 => by
    have hp := powi_lo h0 k
    have e : pow b (k + 1) = min (pow b k * b) 1125899906842624 := by
      show min (Tk.clamp (pow b k) * Tk.clamp b) 1125899906842624 = _
      rw [Tk.clamp_id _ (pow_lo k) (pow_hi k), Tk.clamp_id b h0 (by omega)]
    rw [e, pow_is h0 h1 k, Int.pow_succ]
    rcases Int.lt_or_le 1125899906842624 (b ^ k) with h | h
    · rw [show min (b ^ k) 1125899906842624 = 1125899906842624 by omega]
      rcases Int.lt_or_le 0 b with hb | hb
      · have h2 : 1125899906842624 * 1 ≤ 1125899906842624 * b := Int.mul_le_mul_of_nonneg_left (by omega) (by omega)
        have h3 : b ^ k * 1 ≤ b ^ k * b := Int.mul_le_mul_of_nonneg_left (by omega) (by omega)
        omega
      · have : b = 0 := by omega
        rw [this]; simp
    · rw [show min (b ^ k) 1125899906842624 = b ^ k by omega]
theorem sum_is {b : Int} (h0 : 0 ≤ b) (h1 : b ≤ 1000000) : ∀ k, sum b k = min (S b k) 1125899906842624
  | 0 => by show (0 : Int) = min 0 _; omega
  | k + 1 => by
    have hp := powi_lo h0 (k + 1)
    have hs := S_lo h0 k
    have e : sum b (k + 1) = min (sum b k + pow b (k + 1)) 1125899906842624 := by
      show min (Tk.clamp (sum b k) + Tk.clamp (pow b (k + 1))) 1125899906842624 = _
      rw [Tk.clamp_id _ (sum_lo k) (sum_hi k), Tk.clamp_id _ (pow_lo (k + 1)) (pow_hi (k + 1))]
    rw [e, sum_is h0 h1 k, pow_is h0 h1 (k + 1), S_step b k]
    omega
/-- one hop more -/
theorem sum_hop {b : Int} (h0 : 0 ≤ b) (h1 : b ≤ 1000000) (k : Nat) (h : sum b (k + 1) ≠ 1125899906842624) : sum b (k + 1) = b * (sum b k + 1) := by
  have h2 := sum_is h0 h1 (k + 1)
  have h3 : sum b (k + 1) = S b (k + 1) := by omega
  have h4 := S_step b k
  have h5 := powi_lo h0 (k + 1)
  have h6 := sum_is h0 h1 k
  have h7 : sum b k = S b k := by omega
  rw [h3, h7]; rfl

def deepC (c : Cf) : Cf := { c with hops := c.hops + 1 }
def wideC (c : Cf) : Cf := { c with fan := c.fan + 1 }
/-- what the law comes to -/
theorem grows {c : Cf} (hf0 : 0 ≤ c.fan) (hf1 : c.fan ≤ 1000) (ha0 : 0 ≤ c.attempts) (ha1 : c.attempts ≤ 1000) (hh0 : 0 ≤ c.hops) (hh1 : c.hops ≤ 15) :
    0 ≤ most c ∧ most c ≤ most (deepC c) ∧ most c ≤ most (wideC c) ∧ (c.hops = 0 → most c = 0) ∧ most (deepC c) ≤ 1125899906842624 ∧
    0 ≤ c.fan * c.attempts ∧ c.fan * c.attempts ≤ 1000000 ∧ (most (deepC c) = 1125899906842624 ∨ most (deepC c) = c.fan * c.attempts * (most c + 1)) := by
  have hb0 : 0 ≤ c.fan * c.attempts := Int.mul_nonneg hf0 ha0
  have hb1 : c.fan * c.attempts ≤ 1000 * 1000 := Int.mul_le_mul hf1 ha1 ha0 (by omega)
  have eb : below c = c.fan * c.attempts := by
    unfold below; rw [Tk.mul_eq, Tk.clamp_id _ hf0 (by omega), Tk.clamp_id _ ha0 (by omega)]; omega
  have e1 : hops (c.hops + 1) = hops c.hops + 1 := by unfold hops; omega
  have ed : most (deepC c) = sum (c.fan * c.attempts) (hops c.hops + 1) := by
    show sum (below c) (hops (c.hops + 1)) = _; rw [eb, e1]
  have em : most c = sum (c.fan * c.attempts) (hops c.hops) := by show sum (below c) _ = _; rw [eb]
  have ew : below c ≤ below (wideC c) := mul_le (show c.fan ≤ c.fan + 1 by omega) (Int.le_refl _)
  rw [ed, em]
  refine ⟨sum_lo _, sum_up _ _, ?_, ?_, sum_hi _, hb0, by omega, ?_⟩
  · rw [← eb]; exact sum_mono ew _
  · intro h; rw [h]; rfl
  · by_cases h : sum (c.fan * c.attempts) (hops c.hops + 1) = 1125899906842624
    · exact .inl h
    · exact .inr (sum_hop hb0 (by omega) _ h)

/-- where the law stands: a configuration, and two copies of it -/
structure Cp (w W : World) (c : Cf) (D : Nat) (d : Cf) (X : Nat) (x : Cf) : Prop where
  kept : Kept w W
  bc : W.heap[w.heap.size]? = some (.cells c.arr 24 (0, 0))
  gd : w.heap.size < D
  gx : w.heap.size < X
  ne : D ≠ X
  bd : W.heap[D]? = some (.cells d.arr 24 (0, 0))
  bx : W.heap[X]? = some (.cells x.arr 24 (0, 0))
section
variable {w W W' : World} {c d x : Cf} {D X : Nat}
theorem Cp.go (h : Cp w W c D d X x) (k : Kept W W') : Cp w W' c D d X x := ⟨h.kept.trans k, kept_blk k h.bc, h.gd, h.gx, h.ne, kept_blk k h.bd, kept_blk k h.bx⟩
theorem Cp.flip (h : Cp w W c D d X x) : Cp w W c X x D d := ⟨h.kept, h.bc, h.gx, h.gd, Ne.symm h.ne, h.bx, h.bd⟩
theorem Cp.new (hk : Kept w W) (hb : W.heap[w.heap.size]? = some (.cells c.arr 24 (0, 0))) :
    Cp w ((W.alloc (.cells c.arr 24)).alloc (.cells c.arr 24)).drew c W.heap.size c (W.heap.size + 1) c := by
  have hs := blk_lt hb
  have h2 := blk_new (W.alloc (.cells c.arr 24)) (.cells c.arr 24)
  rw [show (W.alloc (.cells c.arr 24)).heap.size = W.heap.size + 1 by simp] at h2
  have h1 := kept_blk (Kept.one (W.alloc (.cells c.arr 24)) (.cells c.arr 24)) (blk_new W (.cells c.arr 24))
  have kk : Kept W ((W.alloc (.cells c.arr 24)).alloc (.cells c.arr 24)) := Kept.more (Kept.one _ _) _
  exact ⟨(hk.trans kk).drew, kept_blk kk.drew hb, hs, by omega, by omega, h1, h2⟩
theorem Cp.step (h : Cp w W c D c X c) : Cp w ((W.setCell ⟨D, 5, none⟩ (.int .i64 (c.hops + 1))).setCell ⟨X, 7, none⟩ (.int .i64 (c.fan + 1))) c D (deepC c) X (wideC c) := by
  have g1 := h.gd
  have g2 := h.gx
  have g3 := h.ne
  refine ⟨Below.setCell (Below.setCell h.kept (by show w.heap.size ≤ D; omega) _) (by show w.heap.size ≤ X; omega) _, ?_, g1, g2, g3, ?_, ?_⟩
  · rw [Below.heap_setCell _ _ _ _ (by show w.heap.size ≠ X; omega), Below.heap_setCell _ _ _ _ (by show w.heap.size ≠ D; omega)]; exact h.bc
  · rw [Below.heap_setCell _ _ _ _ (by show D ≠ X; omega)]; exact blk_set h.bd 5 _
  · refine blk_set (xs := c.arr) ?_ 7 _
    rw [Below.heap_setCell _ _ _ _ (by show X ≠ D; omega)]; exact h.bx
end

set_option maxRecDepth 100000 in
set_option maxHeartbeats 4000000 in
theorem grows_any (c : Cf) (w : World) : Calls Try.prog 6 #[.agg c.arr] w fun e w' => e = .returned (.bool true) ∧ Kept w w' := by
  obtain ⟨W, hW, hK, hx⟩ := boxed1 w c.arr 24
  have hbc : W.heap[w.heap.size]? = some (.cells c.arr 24 (0, 0)) := by rw [← hW]; exact blk_new w _
  have HW := Lib.hid hW
  have HK := Lib.hid hK
  have y5 : W.cell? ⟨w.heap.size, 5, none⟩ = some (.int .i64 c.hops) := hx 5
  have y7 : W.cell? ⟨w.heap.size, 7, none⟩ = some (.int .i64 c.fan) := hx 7
  have y8 : W.cell? ⟨w.heap.size, 8, none⟩ = some (.int .i64 c.attempts) := hx 8
  clear hW hx
  by_cases o : c.fan < 0
  · clear hK hbc
    go_enter Try.func6, Try.ntmps6
    go_upto_region 1 with fail
    rw [HW.out]
    go_wp2_with (go_at_call 14; refine (awake_any _).mono ?_; rintro e u3 ⟨rfl, hk3⟩)
    go_ret
    exact ⟨rfl, HK.out.trans hk3⟩
  have hf0 : 0 ≤ c.fan := Int.not_lt.1 o
  clear o
  by_cases o : 1000 < c.fan
  · clear hK hbc
    go_enter Try.func6, Try.ntmps6
    go_upto_region 1 with fail
    rw [HW.out]
    go_wp2_with (go_at_call 14; refine (awake_any _).mono ?_; rintro e u3 ⟨rfl, hk3⟩)
    go_ret
    exact ⟨rfl, HK.out.trans hk3⟩
  have hf1 : c.fan ≤ 1000 := Int.not_lt.1 o
  clear o
  by_cases o : c.attempts < 0
  · clear hK hbc
    go_enter Try.func6, Try.ntmps6
    go_upto_region 1 with fail
    rw [HW.out]
    go_wp2_with (go_at_call 14; refine (awake_any _).mono ?_; rintro e u3 ⟨rfl, hk3⟩)
    go_ret
    exact ⟨rfl, HK.out.trans hk3⟩
  have ha0 : 0 ≤ c.attempts := Int.not_lt.1 o
  clear o
  by_cases o : 1000 < c.attempts
  · clear hK hbc
    go_enter Try.func6, Try.ntmps6
    go_upto_region 1 with fail
    rw [HW.out]
    go_wp2_with (go_at_call 14; refine (awake_any _).mono ?_; rintro e u3 ⟨rfl, hk3⟩)
    go_ret
    exact ⟨rfl, HK.out.trans hk3⟩
  have ha1 : c.attempts ≤ 1000 := Int.not_lt.1 o
  clear o
  by_cases o : c.hops < 0
  · clear hK hbc
    go_enter Try.func6, Try.ntmps6
    go_upto_region 1 with fail
    rw [HW.out]
    go_wp2_with (go_at_call 14; refine (awake_any _).mono ?_; rintro e u3 ⟨rfl, hk3⟩)
    go_ret
    exact ⟨rfl, HK.out.trans hk3⟩
  have hh0 : 0 ≤ c.hops := Int.not_lt.1 o
  clear o
  by_cases o : 15 < c.hops
  · clear hK hbc
    go_enter Try.func6, Try.ntmps6
    go_upto_region 1 with fail
    rw [HW.out]
    go_wp2_with (go_at_call 14; refine (awake_any _).mono ?_; rintro e u3 ⟨rfl, hk3⟩)
    go_ret
    exact ⟨rfl, HK.out.trans hk3⟩
  have hh1 : c.hops ≤ 15 := Int.not_lt.1 o
  clear o
  obtain ⟨g1, g2, g3, g4, g5, g6, g7, g8⟩ := grows hf0 hf1 ha0 ha1 hh0 hh1
  obtain ⟨m, hm⟩ : ∃ m, most c = m := ⟨_, rfl⟩
  obtain ⟨md, hmd⟩ : ∃ m, most (deepC c) = m := ⟨_, rfl⟩
  obtain ⟨mw, hmw⟩ : ∃ m, most (wideC c) = m := ⟨_, rfl⟩
  rw [hm] at g1 g2 g3 g4 g8
  rw [hmd] at g2 g5 g8
  rw [hmw] at g3
  have C1 := Lib.hid (show ∀ u, Calls Try.prog 12 #[.agg c.arr] u fun e w' => e = .returned (.int .i64 m) ∧ Kept u w' from fun u => by rw [← hm]; exact most_any c u)
  have C2 := Lib.hid (show ∀ u, Calls Try.prog 12 #[.agg (deepC c).arr] u fun e w' => e = .returned (.int .i64 md) ∧ Kept u w' from fun u => by rw [← hmd]; exact most_any (deepC c) u)
  have C3 := Lib.hid (show ∀ u, Calls Try.prog 12 #[.agg (wideC c).arr] u fun e w' => e = .returned (.int .i64 mw) ∧ Kept u w' from fun u => by rw [← hmw]; exact most_any (wideC c) u)
  clear hm hmd hmw hK
  go_enter Try.func6, Try.ntmps6
  go_upto_region 1 with fail
  rw [HW.out]
  go_upto_region 4 with (first
    | (go_at_call 12; refine (C1.out _).mono ?_; rintro e u1 ⟨rfl, hk1⟩)
    | (refine load_w 24 (.tmp 1) rfl w.heap.size rfl rfl c.arr 14 hbc Try.underlying24 rfl info_cf ?_))
  have hb1 := kept_blk hk1 hbc
  have z0 : u1.cell? ⟨w.heap.size, 0, none⟩ = some (.int .i64 c.nodes) := blk_cell hb1 0
  have z1 : u1.cell? ⟨w.heap.size, 1, none⟩ = some (.int .i64 c.skew) := blk_cell hb1 1
  have z2 : u1.cell? ⟨w.heap.size, 2, none⟩ = some (.int .i64 c.lease) := blk_cell hb1 2
  have z3 : u1.cell? ⟨w.heap.size, 3, none⟩ = some (.int .i64 c.grain) := blk_cell hb1 3
  have z4 : u1.cell? ⟨w.heap.size, 4, none⟩ = some (.int .i64 c.least) := blk_cell hb1 4
  have z5 : u1.cell? ⟨w.heap.size, 5, none⟩ = some (.int .i64 c.hops) := blk_cell hb1 5
  have z6 : u1.cell? ⟨w.heap.size, 6, none⟩ = some (.int .i64 c.cap) := blk_cell hb1 6
  have z7 : u1.cell? ⟨w.heap.size, 7, none⟩ = some (.int .i64 c.fan) := blk_cell hb1 7
  have z8 : u1.cell? ⟨w.heap.size, 8, none⟩ = some (.int .i64 c.attempts) := blk_cell hb1 8
  have z9 : u1.cell? ⟨w.heap.size, 9, none⟩ = some (.int .i64 c.base) := blk_cell hb1 9
  have z10 : u1.cell? ⟨w.heap.size, 10, none⟩ = some (.int .i64 c.most) := blk_cell hb1 10
  have z11 : u1.cell? ⟨w.heap.size, 11, none⟩ = some (.int .i64 c.wait) := blk_cell hb1 11
  have z12 : u1.cell? ⟨w.heap.size, 12, none⟩ = some (.int .i64 c.tokens) := blk_cell hb1 12
  have z13 : u1.cell? ⟨w.heap.size, 13, none⟩ = some (.slice c.pa c.pn c.pc) := blk_cell hb1 13
  have hs1 := blk_lt hb1
  have hT := Cp.new (HK.out.trans hk1) hb1
  obtain ⟨U, hU⟩ : ∃ U, ((u1.alloc (.cells c.arr 24)).alloc (.cells c.arr 24)).drew = U := ⟨_, rfl⟩
  rw [hU] at hT
  simp only [Cf.arr] at hU
  have HU := Lib.hid hU
  obtain ⟨D, hD⟩ : ∃ D, u1.heap.size = D := ⟨_, rfl⟩
  obtain ⟨E, hE⟩ : ∃ E, u1.heap.size + 1 = E := ⟨_, rfl⟩
  have HD := Lib.hid hD
  have HE := Lib.hid hE
  rw [hE, hD] at hT
  have T1 := Lib.hid hT
  have T2 := Lib.hid hT.flip
  clear hU hD hE hT y5 y7 y8 hb1 hk1 hbc
  go_region
  all_goals (rw [HU.out, HE.out, HD.out]; clear HU HE HD z0 z1 z2 z3 z4 z5 z6 z7 z8 z9 z10 z11 z12 z13 hs1)
  · have hT := T1.out
    have s5 : U.cell? ⟨w.heap.size, 5, none⟩ = some (.int .i64 c.hops) := blk_cell hT.bc 5
    have s7 : U.cell? ⟨w.heap.size, 7, none⟩ = some (.int .i64 c.fan) := blk_cell hT.bc 7
    have d5 : U.cell? ⟨D, 5, none⟩ = some (.int .i64 c.hops) := blk_cell hT.bd 5
    have x7 : U.cell? ⟨E, 7, none⟩ = some (.int .i64 c.fan) := blk_cell hT.bx 7
    have k5 : U.frozen? ⟨D, 5, none⟩ = false := blk_free hT.bd 5
    have k7 : U.frozen? ⟨E, 7, none⟩ = false := blk_free hT.bx 7
    have n1 := hT.gd
    have n2 := hT.gx
    have n3 := hT.ne
    have hT2 := hT.step
    clear hT
    go_upto_region 7 with fail
    obtain ⟨Y, hY⟩ : ∃ Y, (U.setCell ⟨D, 5, none⟩ (.int .i64 (c.hops + 1))).setCell ⟨E, 7, none⟩ (.int .i64 (c.fan + 1)) = Y := ⟨_, rfl⟩
    rw [hY] at hT2 ⊢
    clear hY s5 s7 d5 x7 k5 k7 n1 n2 n3
    have HT2 := Lib.hid hT2
    go_upto_region 8 with (first
      | (go_at_call 12; refine (C2.out _).mono ?_; rintro e u2 ⟨rfl, hk2⟩)
      | (refine load_w 24 (.tmp 4) rfl D rfl rfl (deepC c).arr 14 hT2.bd Try.underlying24 rfl info_cf ?_))
    have hT3 := HT2.out.go hk2
    clear hT2 hk2 HT2
    have s5 : u2.cell? ⟨w.heap.size, 5, none⟩ = some (.int .i64 c.hops) := blk_cell hT3.bc 5
    have s7 : u2.cell? ⟨w.heap.size, 7, none⟩ = some (.int .i64 c.fan) := blk_cell hT3.bc 7
    have s8 : u2.cell? ⟨w.heap.size, 8, none⟩ = some (.int .i64 c.attempts) := blk_cell hT3.bc 8
    have q1 : ¬ m < 0 := by omega
    have q2 : ¬ md < m := by omega
    have q3 : ¬ mw < m := by omega
    have HT3 := Lib.hid hT3
    clear g1 g3
    have h5 : ((c.hops == 0) = true ∧ (m != 0) = false) ∨ (c.hops == 0) = false := by
      by_cases h : c.hops = 0
      · exact .inl ⟨by simpa using h, by simpa using g4 h⟩
      · exact .inr (by simpa using h)
    have h6 : (md == 1125899906842624) = true ∨ ((md == 1125899906842624) = false ∧ (md == c.fan * c.attempts * (m + 1)) = true ∧ 0 ≤ c.fan * c.attempts * (m + 1) ∧ c.fan * c.attempts * (m + 1) ≤ 1125899906842624) := by
      by_cases h : md = 1125899906842624
      · exact .inl (by simpa using h)
      · have e := g8.resolve_left h
        exact .inr ⟨by simpa using h, by simpa using e, by omega, by omega⟩
    clear g4 g8
    rcases h5 with ⟨b1, b2⟩ | b1 <;> rcases h6 with b3 | ⟨b3, b4, b5, b6⟩
    all_goals (
      go_wp2_with (first
        | (go_at_call 12; refine (C3.out _).mono ?_; rintro e u3 ⟨rfl, hk3⟩
           have hT4 := HT3.out.go hk3
           have r5 : u3.cell? ⟨w.heap.size, 5, none⟩ = some (.int .i64 c.hops) := blk_cell hT4.bc 5
           have r7 : u3.cell? ⟨w.heap.size, 7, none⟩ = some (.int .i64 c.fan) := blk_cell hT4.bc 7
           have r8 : u3.cell? ⟨w.heap.size, 8, none⟩ = some (.int .i64 c.attempts) := blk_cell hT4.bc 8
           have HK4 := Lib.hid hT4.kept
           clear hT4 hk3 s5 s7 s8)
        | (go_at_call 14; refine (awake_any _).mono ?_; rintro e u4 ⟨rfl, hk4⟩)
        | (refine load_w 24 (.tmp 5) rfl E rfl rfl (wideC c).arr 14 hT3.bx Try.underlying24 rfl info_cf ?_))
      go_ret
      exact ⟨rfl, HK4.out.trans hk4⟩)
  · have hT := T2.out
    have s5 : U.cell? ⟨w.heap.size, 5, none⟩ = some (.int .i64 c.hops) := blk_cell hT.bc 5
    have s7 : U.cell? ⟨w.heap.size, 7, none⟩ = some (.int .i64 c.fan) := blk_cell hT.bc 7
    have d5 : U.cell? ⟨E, 5, none⟩ = some (.int .i64 c.hops) := blk_cell hT.bd 5
    have x7 : U.cell? ⟨D, 7, none⟩ = some (.int .i64 c.fan) := blk_cell hT.bx 7
    have k5 : U.frozen? ⟨E, 5, none⟩ = false := blk_free hT.bd 5
    have k7 : U.frozen? ⟨D, 7, none⟩ = false := blk_free hT.bx 7
    have n1 := hT.gd
    have n2 := hT.gx
    have n3 := hT.ne
    have hT2 := hT.step
    clear hT
    go_upto_region 7 with fail
    obtain ⟨Y, hY⟩ : ∃ Y, (U.setCell ⟨E, 5, none⟩ (.int .i64 (c.hops + 1))).setCell ⟨D, 7, none⟩ (.int .i64 (c.fan + 1)) = Y := ⟨_, rfl⟩
    rw [hY] at hT2 ⊢
    clear hY s5 s7 d5 x7 k5 k7 n1 n2 n3
    have HT2 := Lib.hid hT2
    go_upto_region 8 with (first
      | (go_at_call 12; refine (C2.out _).mono ?_; rintro e u2 ⟨rfl, hk2⟩)
      | (refine load_w 24 (.tmp 4) rfl E rfl rfl (deepC c).arr 14 hT2.bd Try.underlying24 rfl info_cf ?_))
    have hT3 := HT2.out.go hk2
    clear hT2 hk2 HT2
    have s5 : u2.cell? ⟨w.heap.size, 5, none⟩ = some (.int .i64 c.hops) := blk_cell hT3.bc 5
    have s7 : u2.cell? ⟨w.heap.size, 7, none⟩ = some (.int .i64 c.fan) := blk_cell hT3.bc 7
    have s8 : u2.cell? ⟨w.heap.size, 8, none⟩ = some (.int .i64 c.attempts) := blk_cell hT3.bc 8
    have q1 : ¬ m < 0 := by omega
    have q2 : ¬ md < m := by omega
    have q3 : ¬ mw < m := by omega
    have HT3 := Lib.hid hT3
    clear g1 g3
    have h5 : ((c.hops == 0) = true ∧ (m != 0) = false) ∨ (c.hops == 0) = false := by
      by_cases h : c.hops = 0
      · exact .inl ⟨by simpa using h, by simpa using g4 h⟩
      · exact .inr (by simpa using h)
    have h6 : (md == 1125899906842624) = true ∨ ((md == 1125899906842624) = false ∧ (md == c.fan * c.attempts * (m + 1)) = true ∧ 0 ≤ c.fan * c.attempts * (m + 1) ∧ c.fan * c.attempts * (m + 1) ≤ 1125899906842624) := by
      by_cases h : md = 1125899906842624
      · exact .inl (by simpa using h)
      · have e := g8.resolve_left h
        exact .inr ⟨by simpa using h, by simpa using e, by omega, by omega⟩
    clear g4 g8
    rcases h5 with ⟨b1, b2⟩ | b1 <;> rcases h6 with b3 | ⟨b3, b4, b5, b6⟩
    all_goals (
      go_wp2_with (first
        | (go_at_call 12; refine (C3.out _).mono ?_; rintro e u3 ⟨rfl, hk3⟩
           have hT4 := HT3.out.go hk3
           have r5 : u3.cell? ⟨w.heap.size, 5, none⟩ = some (.int .i64 c.hops) := blk_cell hT4.bc 5
           have r7 : u3.cell? ⟨w.heap.size, 7, none⟩ = some (.int .i64 c.fan) := blk_cell hT4.bc 7
           have r8 : u3.cell? ⟨w.heap.size, 8, none⟩ = some (.int .i64 c.attempts) := blk_cell hT4.bc 8
           have HK4 := Lib.hid hT4.kept
           clear hT4 hk3 s5 s7 s8)
        | (go_at_call 14; refine (awake_any _).mono ?_; rintro e u4 ⟨rfl, hk4⟩)
        | (refine load_w 24 (.tmp 5) rfl D rfl rfl (wideC c).arr 14 hT3.bx Try.underlying24 rfl info_cf ?_))
      go_ret
      exact ⟨rfl, HK4.out.trans hk4⟩)

end Go.Proofs.Ytlngcaonhpiciaa.Po
