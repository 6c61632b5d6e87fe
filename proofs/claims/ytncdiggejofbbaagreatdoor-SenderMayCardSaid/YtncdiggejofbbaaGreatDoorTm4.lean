/- Contracts of package timeout: what is told. -/
import Derived.Test.YtncdiggejofbbaaGreatDoorTm3
import Derived.Test.YtncdiggejofbbaaGreatDoorShelf
namespace Go.Proofs.YtncdiggejofbbaaGreatDoor.Tm
open Go.RowKit St Go.Sort

def unitRow : ByteArray := ⟨#[117, 109, 83, 77, 72]⟩
theorem unit_index (k : Nat) (h : k < 5) (w : World) :
    (Instr.index 9 (.string { data := #[117, 109, 83, 77, 72] }) (.int .i64 (k : Int))).run Tryz.prog w = .ok (.int .u8 ((cAt k).toNat : Int)) w := by
  have hd : k = 0 ∨ k = 1 ∨ k = 2 ∨ k = 3 ∨ k = 4 := by omega
  rw [run_index_string w 9 _ .i64 k Tryz.underlying9, dif_pos ⟨by omega, by show (k : Int) < ((5 : Nat) : Int); omega⟩]
  rcases hd with rfl | rfl | rfl | rfl | rfl <;> rfl
/-- a unit's byte, and its ticks -/
theorem unit_at (k : Nat) (h : k < 5) : ∃ c u : Int, (∀ w,
    (Instr.index 9 (.string { data := #[117, 109, 83, 77, 72] }) (.int .i64 (k : Int))).run Tryz.prog w = .ok (.int .u8 c) w) ∧ unit c = u ∧ 0 < u ∧ RowKit.Hid (c = ((cAt k).toNat : Int)) ∧ RowKit.Hid (u = uAt k) :=
  ⟨_, uAt k, fun w => unit_index k h w, unit_cAt k, uAt_pos k, rfl, rfl⟩
theorem unit_piece (k : Nat) (h : k < 5) : unitRow.extract k (k + 1) = ⟨[cAt k].toArray⟩ := by
  have hd : k = 0 ∨ k = 1 ∨ k = 2 ∨ k = 3 ∨ k = 4 := by omega
  rcases hd with rfl | rfl | rfl | rfl | rfl <;> decide +kernel
/-- a unit, cut out of the row of units -/
theorem unit_cut (k : Nat) (h : k < 5) : ∃ D : ByteArray, (∀ w,
    (Instr.slice 9 (.string { data := #[117, 109, 83, 77, 72] }) (some (.int .i64 (k : Int))) (some (.int .i64 ((k : Int) + 1))) none).run Tryz.prog w = .ok (.string D) w) ∧
    RowKit.Hid (D.data.toList = [cAt k]) ∧ RowKit.Hid (D.size = 1) := by
  refine ⟨unitRow.extract k (k + 1), fun w => ?_, by show _ = _; rw [unit_piece k h], by show _ = _; rw [unit_piece k h]; rfl⟩
  rw [run_slice_string w 9 _ .i64 .i64 _ _ Tryz.underlying9 (by omega) (by omega) (by show ((k : Int) + 1) ≤ ((5 : Nat) : Int); omega), show ((k : Int)).toNat = k by omega, show ((k : Int) + 1).toNat = k + 1 by omega]
  rfl

set_option maxHeartbeats 1000000 in
theorem finest_any (t : Int) (h0 : 0 ≤ t) (h1 : t ≤ 1125899906842624) (w : World) :
    Calls Tryz.prog 80 #[.int .i64 t] w fun e w' => e = .returned (.int .i64 (fin t : Int)) ∧ w = w' := by
  have h4 := fin_le t
  have HE := Lib.hid (fin_eq h1)
  go_enter Tryz.func80, Tryz.ntmps80
  go_wp2_with fail
  go_loop [3] (fun i => ∃ k : Nat, k ≤ fin t ∧ i = .int .i64 (k : Int)) (fun i => 5 - (intOf i).toNat)
  case atStart => exact ⟨0, Nat.zero_le _, rfl⟩
  case round =>
    obtain ⟨k, hk, rfl⟩ := hrel
    obtain ⟨c, u, hidx, hu, hu0, hc, hU⟩ := unit_at k (by omega)
    obtain ⟨q, hq⟩ : ∃ q, t / u = q := ⟨_, rfl⟩
    have hq0 : 0 ≤ q := by rw [← hq]; exact Int.ediv_nonneg h0 (by omega)
    rcases Nat.lt_or_ge k (fin t) with hlt | hge
    · have hq1 : 99999999 < q := by rw [← hq, hU.out]; exact fin_lt hlt
      go_wp2_with (go_at_call 82; refine (unit_any _ _).mono ?_; rintro e w' ⟨rfl, rfl⟩)
      go_round
      case rel => exact ⟨k + 1, by omega, by go_num⟩
      case measure => simp [intOf]; omega
    · have hkf : k = fin t := by omega
      have hq1 : q ≤ 99999999 := by rw [← hq, hU.out, hkf]; exact HE.out
      have HK := Lib.hid hkf
      clear hkf
      go_wp2_with (go_at_call 82; refine (unit_any _ _).mono ?_; rintro e w' ⟨rfl, rfl⟩)
      go_ret
      exact ⟨ret_int (by rw [HK.out]), rfl⟩

theorem pow10 : Tryz.prog.globalNamed "internal/strconv.uint64pow10" = some 1 := by kernel_rfl
/-- what a table of the library's holds, when the call begins -/
def Tab (w : World) : Prop := Lib.TabIs Tryz.prog w "internal/strconv.uint64pow10" .u64 Lib.pow10Tab
theorem Tab.kept {a b : World} (h : Tab a) (k : Kept a b) : Tab b := k.tab pow10 h
theorem itoa_kept (n : Nat) (hn : n ≤ 4611686018427387904) (E : ByteArray) (hE : (⟨(Lib.decDigits n).toArray⟩ : ByteArray) = E) (w : World) (ht : Tab w) :
    Calls Tryz.prog 81 #[.int .i64 (n : Int)] w fun e w' => e = .returned (.string E) ∧ Below w.heap.size w w' := by
  refine (Tryz.strconv_Itoa (n : Int) (by omega) (by omega) w ht).mono ?_
  rintro e w' ⟨rfl, k, os, rfl⟩
  exact ⟨by rw [Lib.itoa_nonneg, hE], ((Kept.refl w).drewN k).grow os⟩

set_option maxHeartbeats 1000000 in
theorem enc_any (t : Int) (w : World) (ht : Tab w) :
    Calls Tryz.prog 61 #[.int .i64 t] w fun e w' => e = .returned (.string ⟨(enc (Tk.clamp t)).toArray⟩) ∧ Kept w w' := by
  have h0 := Tk.clamp_lo t
  have h1 := Tk.clamp_hi t
  obtain ⟨x, hx⟩ : ∃ x, Tk.clamp t = x := ⟨_, rfl⟩
  have hclamp := fun w => Tk.clamp_any t w
  rw [hx] at hclamp h0 h1 ⊢
  have h4 := fin_le x
  have HF := Lib.hid (finest_any x h0 h1)
  have HC := Lib.hid hclamp
  have hq9 := fin_eq h1
  have HX := Lib.hid (show enc x = Lib.decDigits (x / uAt (fin x)).toNat ++ [cAt (fin x)] from rfl)
  obtain ⟨c, u, hidx, hu, hu0, hc, hU⟩ := unit_at (fin x) (by omega)
  obtain ⟨D, hcut, hD, hS⟩ := unit_cut (fin x) (by omega)
  have hqn : 0 ≤ x / u := Int.ediv_nonneg h0 (by omega)
  rw [← hU.out] at hq9
  obtain ⟨q, hq⟩ : ∃ q : Nat, x / u = (q : Int) := ⟨(x / u).toNat, by omega⟩
  obtain ⟨E, hE, hEl, hEs⟩ := digits_named q (by omega)
  have HE := Lib.hid (show E.data.toList = Lib.decDigits (x / uAt (fin x)).toNat by rw [hEl, ← hU.out, hq]; rfl)
  have n1 : ¬ 9223372036854775807 < E.size + D.size := by have := hS.out; omega
  have hunit : ∀ p : Regrown, Calls Tryz.prog 82 #[.int .u8 c] (grow (redrawn w p.d) p.os) fun e w'' => e = .returned (.int .i64 u) ∧ ∃ p : Regrown, w'' = grow (redrawn w p.d) p.os :=
    fun p => Calls.regrown_of ((unit_any c _).mono (by rintro e w' ⟨rfl, rfl⟩; exact ⟨by rw [hu], Below.refl _ _⟩))
  have hitoa : ∀ p : Regrown, Calls Tryz.prog 81 #[.int .i64 (q : Int)] (grow (redrawn w p.d) p.os) fun e w'' => e = .returned (.string E) ∧ ∃ p : Regrown, w'' = grow (redrawn w p.d) p.os :=
    fun p => Calls.regrown_of (itoa_kept q (by omega) E hE _ (ht.kept (below_regrown w p.d p.os)))
  have HU := Lib.hid hunit
  have HI := Lib.hid hitoa
  have hf5 : (fin x : Int) ≤ 4 := by omega
  clear hunit hitoa hE hEl hEs hqn hq9 hclamp ht hx hu
  go_enter Tryz.func61, Tryz.ntmps61
  go_wp2_with (first | (go_at_call 29; refine (HC.out _).mono ?_; rintro e w' ⟨rfl, rfl⟩) | (go_at_call 80; refine (HF.out _).mono ?_; rintro e w' ⟨rfl, rfl⟩))
  refine wp_region_quiet_below (by kernel_rfl) (by kernel_rfl) ?_
  repeat (go_big_quiet_step (first | exact HU.out _ | exact HI.out _))
  refine wpQuiet_nil ?_
  intro _ hw'
  obtain ⟨⟨dq, osq⟩, hw''⟩ := hw'
  subst hw''
  go_wp2_with fail
  go_ret
  exact ⟨ret_str (by simp [hD.out, HX.out, HE.out]), below_regrown w dq osq⟩

end Go.Proofs.YtncdiggejofbbaaGreatDoor.Tm
