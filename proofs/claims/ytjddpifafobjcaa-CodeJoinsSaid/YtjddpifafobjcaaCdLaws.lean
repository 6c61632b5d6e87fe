/- The walks of layer 5's three statements. -/
import Derived.Test.YtjddpifafobjcaaCd3
namespace Go.Proofs.Ytjddpifafobjcaa.Cd
open Go.RowKit Go.Sort St

theorem right_as {c : Int} {x : Bool} (h : Hid (right c = x)) (w : World) : Calls Try.prog 8 #[.int .i64 c] w fun e w' => e = .returned (.bool x) ∧ w = w' := by
  have := right_any c w
  rwa [h.out] at this
theorem rright_as {c : Int} {x : Bool} (h : Hid (right c = x)) (w : World) : Calls Try.prog 9 #[.int .i64 c] w fun e w' => e = .returned (.bool x) ∧ w = w' := by
  have := rright_any c w
  rwa [h.out] at this
theorem again_as {c : Int} {x : Bool} (h : Hid ((c == 14 || c == 8) = x)) (w : World) : Calls Try.prog 14 #[.int .i64 c] w fun e w' => e = .returned (.bool x) ∧ w = w' := by
  have := again_any c w
  rwa [h.out] at this
theorem join_as {a b x : Int} (h : Hid (join a b = x)) (w : World) : Calls Try.prog 15 #[.int .i64 a, .int .i64 b] w fun e w' => e = .returned (.int .i64 x) ∧ w = w' := by
  have := join_any a b w
  rwa [h.out] at this
theorem rjoin_as {a b x : Int} (h : Hid (join a b = x)) (w : World) : Calls Try.prog 16 #[.int .i64 a, .int .i64 b] w fun e w' => e = .returned (.int .i64 x) ∧ Kept w w' := by
  have := rjoin_any a b w
  rwa [h.out] at this
theorem of_as {c x : Int} (h : Hid (ofE c = x)) (w : World) : Calls Try.prog 17 #[.int .i64 c] w fun e w' => e = .returned (.int .i64 x) ∧ w = w' := by
  have := of_any c w
  rwa [h.out] at this
theorem rof_as {c x : Int} (h : Hid (ofE c = x)) (w : World) : Calls Try.prog 18 #[.int .i64 c] w fun e w' => e = .returned (.int .i64 x) ∧ w = w' := by
  have := rof_any c w
  rwa [h.out] at this
theorem text_as {c : Int} {B : ByteArray} (h : Hid (nameB (clean c) = B)) (w : World) : Calls Try.prog 12 #[.int .i64 c] w fun e w' => e = .returned (.string B) ∧ Kept w w' := by
  have := text_any c w
  rwa [h.out] at this
theorem parse_as {s : ByteArray} {x y : Int} (h : Hid (codeI s = x ∧ codeE s = y)) (w : World) : Calls Try.prog 6 #[.string s] w fun e w' => e = .returned (.tuple #[.int .i64 x, .int .i64 y]) ∧ Kept w w' := by
  have := parse_any s w
  rwa [h.out.1, h.out.2] at this
theorem rparse_as {s : ByteArray} {x : Int} {y : Bool} (h : Hid (codeI s = x ∧ codeB s = y)) (w : World) : Calls Try.prog 7 #[.string s] w fun e w' => e = .returned (.tuple #[.int .i64 x, .bool y]) ∧ Kept w w' := by
  have := rparse_any s w
  rwa [h.out.1, h.out.2] at this

theorem awake_any (w : World) : Calls Try.prog 19 #[] w fun e w' => e = .returned (.bool true) ∧ Kept w w' := by
  have h1 := Lib.hid (show join 14 13 = 13 by decide)
  have h2 := Lib.hid (show nameB (clean 4) = ⟨#[68, 69, 65, 68, 76, 73, 78, 69, 95, 69, 88, 67, 69, 69, 68, 69, 68]⟩ by rfl)
  have h3 := Lib.hid (show (((8 : Int) == 14) || ((8 : Int) == 8)) = true by decide)
  go_enter Try.func19, Try.ntmps19
  go_wp2_with (first | (go_at_call 15; refine (join_as h1 _).mono ?_; rintro e w' ⟨rfl, rfl⟩) | (go_at_call 12; refine (text_as h2 _).mono ?_; rintro e w' ⟨rfl, hk⟩) | (go_at_call 14; refine (again_as h3 _).mono ?_; rintro e w' ⟨rfl, rfl⟩))
  go_ret
  exact ⟨rfl, hk⟩

/-! CodeNames -/
theorem name_inj : ∀ x y : Fin 17, nameL.getD x.val [] = nameL.getD y.val [] → x = y := by decide +kernel
theorem name_inj' {x y : Int} (hx : 0 ≤ x ∧ x ≤ 16) (hy : 0 ≤ y ∧ y ≤ 16) (h : nameB x = nameB y) : x = y := by
  have e : nameL.getD x.toNat [] = nameL.getD y.toNat [] := by
    have := congrArg (·.data.toList) h
    simpa [nameB] using this
  have := name_inj ⟨x.toNat, by omega⟩ ⟨y.toNat, by omega⟩ e
  have := Fin.mk.inj_iff.mp this
  omega
theorem code_name : ∀ x : Fin 17, codeOf (nameB (x.val : Int)) = some x.val := by decide +kernel
theorem code_name' (c : Int) : codeOf (nameB (clean c)) = some (clean c).toNat := by
  have h0 := clean_lo c
  have h1 := clean_hi c
  have := code_name ⟨(clean c).toNat, by omega⟩
  simpa [Int.toNat_of_nonneg h0] using this

set_option maxHeartbeats 1000000 in
theorem names_all (a b : Int) (w : World) :
    Calls Try.prog 5 #[.int .i64 a, .int .i64 b] w fun e w' => e = .returned (.bool true) ∧ Kept w w' := by
  have ha := clean_lo a
  have hb := clean_lo b
  have ha1 := clean_hi a
  have hb1 := clean_hi b
  have hc := code_name' a
  have hinj := @name_inj' (clean a) (clean b) ⟨ha, ha1⟩ ⟨hb, hb1⟩
  obtain ⟨x, hx⟩ : ∃ x, clean a = x := ⟨_, rfl⟩
  obtain ⟨y, hy⟩ : ∃ y, clean b = y := ⟨_, rfl⟩
  have HX := Lib.hid hx
  have HY := Lib.hid hy
  obtain ⟨B, hB⟩ : ∃ B, nameB (clean a) = B := ⟨_, rfl⟩
  obtain ⟨C, hC⟩ : ∃ C, nameB (clean b) = C := ⟨_, rfl⟩
  have HB := Lib.hid hB
  have HC := Lib.hid hC
  rw [hB, hC, hx, hy] at hinj
  have HP : Hid (codeI B = x ∧ codeE B = 0) := by
    show _ ∧ _
    rw [← hB]
    constructor
    · rw [codeI, hc]
      show ((clean a).toNat : Int) = x
      rw [Int.toNat_of_nonneg ha, hx]
    · rw [codeE, hc]
  have K0 := Kept.refl w
  by_cases he : x = y
  · have : B = C := by rw [← hB, ← hC, hx, hy, he]
    subst he
    subst this
    clear hx hy hB hC hc hinj ha hb ha1 hb1
    go_enter Try.func5, Try.ntmps5
    go_wp2_with (first | (go_at_call 6; refine (parse_as (by assumption) _).mono ?_; rintro e w' ⟨rfl, hk⟩; replace K0 := K0.trans hk; clear hk) | (go_at_call 12; refine (text_as (by assumption) _).mono ?_; rintro e w' ⟨rfl, hk⟩; replace K0 := K0.trans hk; clear hk) | (go_at_call 10; refine (clean_as (by assumption) _).mono ?_; rintro e w' ⟨rfl, rfl⟩) | (go_at_call 19; refine (awake_any _).mono ?_; rintro e w' ⟨rfl, hk⟩; replace K0 := K0.trans hk; clear hk))
    go_ret
    exact ⟨rfl, K0⟩
  · have ht := same_text (fun e => he (hinj e))
    have hq : (x == y) = false := beq_eq_false_iff_ne.2 he
    clear hx hy hB hC hc hinj ha hb ha1 hb1 he
    go_enter Try.func5, Try.ntmps5
    go_wp2_with (first | (go_at_call 6; refine (parse_as (by assumption) _).mono ?_; rintro e w' ⟨rfl, hk⟩; replace K0 := K0.trans hk; clear hk) | (go_at_call 12; refine (text_as (by assumption) _).mono ?_; rintro e w' ⟨rfl, hk⟩; replace K0 := K0.trans hk; clear hk) | (go_at_call 10; refine (clean_as (by assumption) _).mono ?_; rintro e w' ⟨rfl, rfl⟩) | (go_at_call 19; refine (awake_any _).mono ?_; rintro e w' ⟨rfl, hk⟩; replace K0 := K0.trans hk; clear hk))
    go_ret
    exact ⟨rfl, K0⟩

/-! CodeJoins -/
theorem clean_join (a b : Int) : clean (join a b) = join a b := by
  unfold join; split <;> exact clean_clean _
theorem says_inj : ∀ x y : Fin 17, says (x.val : Int) = says (y.val : Int) → x = y := by decide +kernel
theorem says_inj' {x y : Int} (hx : 0 ≤ x ∧ x ≤ 16) (hy : 0 ≤ y ∧ y ≤ 16) (h : says x = says y) : x = y := by
  have := says_inj ⟨x.toNat, by omega⟩ ⟨y.toNat, by omega⟩ (by simpa [Int.toNat_of_nonneg hx.1, Int.toNat_of_nonneg hy.1] using h)
  have := Fin.mk.inj_iff.mp this
  omega
theorem says_range : ∀ x : Fin 17, 0 ≤ says (x.val : Int) ∧ says (x.val : Int) ≤ 21 := by decide +kernel
theorem says_range' {x : Int} (hx : 0 ≤ x ∧ x ≤ 16) : 0 ≤ says x ∧ says x ≤ 21 := by
  have := says_range ⟨x.toNat, by omega⟩
  simpa [Int.toNat_of_nonneg hx.1] using this
theorem cl (c : Int) : 0 ≤ clean c ∧ clean c ≤ 16 := ⟨clean_lo c, clean_hi c⟩
theorem says_join (a b : Int) : says (join a b) = max (says (clean a)) (says (clean b)) := by
  unfold join; split <;> omega
theorem by_says {a b : Int} (h : says (clean a) = says (clean b)) : clean a = clean b := says_inj' (cl a) (cl b) h
theorem join_by {a b c d : Int} (h : max (says (clean a)) (says (clean b)) = max (says (clean c)) (says (clean d))) : join a b = join c d := by
  rw [← clean_join a b, ← clean_join c d]
  apply by_says
  rw [clean_join, clean_join, says_join, says_join, h]
theorem join_comm (a b : Int) : join b a = join a b := join_by (by omega)
theorem join_assoc (a b c : Int) : join a (join b c) = join (join a b) c := join_by (by rw [clean_join, clean_join, says_join, says_join]; omega)
theorem join_self (a : Int) : join a a = clean a := by unfold join; split <;> rfl
theorem join_ok (a : Int) : join 0 a = clean a := by
  rw [← clean_join]
  apply by_says
  rw [clean_join, says_join]
  have := says_range' (cl a)
  have e : says (clean 0) = 0 := by decide
  omega
theorem join_most (a : Int) : join a 1 = 1 := by
  have e1 : (1 : Int) = clean 1 := by decide
  conv => rhs; rw [e1]
  rw [← clean_join]
  apply by_says
  rw [clean_join, says_join]
  have := says_range' (cl a)
  have e : says (clean 1) = 21 := by decide
  omega
theorem join_one (a b : Int) : join a b = clean a ∨ join a b = clean b := by
  unfold join; split
  · exact .inr rfl
  · exact .inl rfl

set_option maxHeartbeats 1000000 in
theorem joins_all (a b c : Int) (w : World) :
    Calls Try.prog 4 #[.int .i64 a, .int .i64 b, .int .i64 c] w fun e w' => e = .returned (.bool true) ∧ Kept w w' := by
  obtain ⟨x, hx⟩ : ∃ x, clean a = x := ⟨_, rfl⟩
  obtain ⟨y, hy⟩ : ∃ y, clean b = y := ⟨_, rfl⟩
  obtain ⟨j, hj⟩ : ∃ j, join a b = j := ⟨_, rfl⟩
  obtain ⟨p, hp⟩ : ∃ p, join b c = p := ⟨_, rfl⟩
  obtain ⟨q, hq⟩ : ∃ q, join j c = q := ⟨_, rfl⟩
  have HX := Lib.hid hx
  have HY := Lib.hid hy
  have HJ := Lib.hid hj
  have HJ' := Lib.hid ((join_comm a b).trans hj)
  have HP := Lib.hid hp
  have HQ := Lib.hid hq
  have HQ' : Hid (join a p = q) := by show _ = _; rw [← hp, join_assoc, hj, hq]
  have HS := Lib.hid ((join_self a).trans hx)
  have HO := Lib.hid ((join_ok a).trans hx)
  have HM := Lib.hid (join_most a)
  have hone := join_one a b
  rw [hj, hx, hy] at hone
  clear hx hy hj hp hq
  have K0 := Kept.refl w
  by_cases he : j = x
  · subst he
    clear hone
    go_enter Try.func4, Try.ntmps4
    go_wp2_with (first | (go_at_call 15; refine (join_as (by assumption) _).mono ?_; rintro e w' ⟨rfl, rfl⟩) | (go_at_call 10; refine (clean_as (by assumption) _).mono ?_; rintro e w' ⟨rfl, rfl⟩) | (go_at_call 19; refine (awake_any _).mono ?_; rintro e w' ⟨rfl, hk⟩; replace K0 := K0.trans hk; clear hk))
    go_ret
    exact ⟨rfl, K0⟩
  · have e : j = y := hone.resolve_left he
    subst e
    have hq : (j == x) = false := beq_eq_false_iff_ne.2 he
    clear hone he
    go_enter Try.func4, Try.ntmps4
    go_wp2_with (first | (go_at_call 15; refine (join_as (by assumption) _).mono ?_; rintro e w' ⟨rfl, rfl⟩) | (go_at_call 10; refine (clean_as (by assumption) _).mono ?_; rintro e w' ⟨rfl, rfl⟩) | (go_at_call 19; refine (awake_any _).mono ?_; rintro e w' ⟨rfl, hk⟩; replace K0 := K0.trans hk; clear hk))
    go_ret
    exact ⟨rfl, K0⟩

theorem i16_in {a : Int} (h : (Lit.int .i16 a).wf = true) : IntKind.i64.wrap a = a := by
  simp only [Lit.wf, Bool.and_eq_true, decide_eq_true_eq] at h
  have h1 := h.1
  have h2 := h.2
  simp only [show IntKind.i16.min = -32768 from rfl] at h1
  simp only [show IntKind.i16.max = 32767 from rfl] at h2
  exact IntWalk.i64_in _ (by omega)
/-! CodeTells -/
set_option maxHeartbeats 2000000 in
theorem tells_all (a b : Int) (s : ByteArray) (n : Int) (hw : IntKind.i64.wrap n = n) (w : World) :
    Calls Try.prog 3 #[.int .i64 a, .int .i64 b, .string s, .int .i16 n] w fun e w' => e = .returned (.bool true) ∧ Kept w w' := by
  have hP : ∃ x : Int, (Hid (codeI s = x ∧ codeE s = 0) ∧ Hid (codeI s = x ∧ codeB s = true)) ∨ (Hid (codeI s = x ∧ codeE s = 10) ∧ Hid (codeI s = x ∧ codeB s = false)) := by
    refine ⟨codeI s, ?_⟩
    unfold codeE codeB
    cases codeOf s with
    | some k => exact .inl ⟨⟨rfl, rfl⟩, ⟨rfl, rfl⟩⟩
    | none => exact .inr ⟨⟨rfl, rfl⟩, ⟨rfl, rfl⟩⟩
  have hG : ∃ u v g : Bool, (a == 14) = u ∧ (a == 8) = v ∧ Hid ((a == 14 || a == 8) = g) ∧ ((u = true ∧ g = true) ∨ (u = false ∧ v = true ∧ g = true) ∨ (u = false ∧ v = false ∧ g = false)) := by
    refine ⟨_, _, _, rfl, rfl, rfl, ?_⟩
    cases (a == 14) <;> cases (a == 8) <;> simp
  obtain ⟨r, hr⟩ : ∃ r, right a = r := ⟨_, rfl⟩
  obtain ⟨k, hk⟩ : ∃ k, clean a = k := ⟨_, rfl⟩
  obtain ⟨B, hB⟩ : ∃ B, nameB (clean a) = B := ⟨_, rfl⟩
  obtain ⟨j, hj⟩ : ∃ j, join a b = j := ⟨_, rfl⟩
  obtain ⟨o, ho⟩ : ∃ o, ofE n = o := ⟨_, rfl⟩
  have HR := Lib.hid hr
  have HK := Lib.hid hk
  have HB := Lib.hid hB
  have HJ := Lib.hid hj
  have HO := Lib.hid ho
  clear hr hk hB hj ho
  have K0 := Kept.refl w
  obtain ⟨x, ⟨h1, h2⟩ | ⟨h1, h2⟩⟩ := hP <;> obtain ⟨u, v, g, hu, hv, hg, ⟨rfl, rfl⟩ | ⟨rfl, rfl, rfl⟩ | ⟨rfl, rfl, rfl⟩⟩ := hG
  all_goals
    go_enter Try.func3, Try.ntmps3
    go_wp2_with (first | (go_at_call 6; refine (parse_as (by assumption) _).mono ?_; rintro e w' ⟨rfl, hk⟩; replace K0 := K0.trans hk; clear hk) | (go_at_call 7; refine (rparse_as (by assumption) _).mono ?_; rintro e w' ⟨rfl, hk⟩; replace K0 := K0.trans hk; clear hk) | (go_at_call 8; refine (right_as (by assumption) _).mono ?_; rintro e w' ⟨rfl, rfl⟩) | (go_at_call 9; refine (rright_as (by assumption) _).mono ?_; rintro e w' ⟨rfl, rfl⟩) | (go_at_call 10; refine (clean_as (by assumption) _).mono ?_; rintro e w' ⟨rfl, rfl⟩) | (go_at_call 11; refine (rclean_as (by assumption) _).mono ?_; rintro e w' ⟨rfl, rfl⟩) | (go_at_call 12; refine (text_as (by assumption) _).mono ?_; rintro e w' ⟨rfl, hk⟩; replace K0 := K0.trans hk; clear hk) | (go_at_call 13; refine (rtext_as (by assumption) _).mono ?_; rintro e w' ⟨rfl, hk⟩; replace K0 := K0.trans hk; clear hk) | (go_at_call 14; refine (again_as (by assumption) _).mono ?_; rintro e w' ⟨rfl, rfl⟩) | (go_at_call 15; refine (join_as (by assumption) _).mono ?_; rintro e w' ⟨rfl, rfl⟩) | (go_at_call 16; refine (rjoin_as (by assumption) _).mono ?_; rintro e w' ⟨rfl, hk⟩; replace K0 := K0.trans hk; clear hk) | (go_at_call 17; refine (of_as (by assumption) _).mono ?_; rintro e w' ⟨rfl, rfl⟩) | (go_at_call 18; refine (rof_as (by assumption) _).mono ?_; rintro e w' ⟨rfl, rfl⟩) | (go_at_call 19; refine (awake_any _).mono ?_; rintro e w' ⟨rfl, hk⟩; replace K0 := K0.trans hk; clear hk))
    go_ret
    exact ⟨rfl, K0⟩

end Go.Proofs.Ytjddpifafobjcaa.Cd
