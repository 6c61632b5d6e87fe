/- The law that a call never has more attempts than may be. -/
import Derived.Test.YtpicjcophjekpaaCl3
import Derived.Test.YtpicjcophjekpaaCl5
import Derived.Test.YtpicjcophjekpaaClA
import Derived.Deep.DeepCutAuto
import Derived.Deep.LoopGhost
namespace Go.Proofs.Ytpicjcophjekpaa.Cl
open Go.RowKit Go.Sort St Ad Po Blk
set_option linter.unusedVariables false

theorem info_id2 : (Try.prog.info? 23).map (·.size) = some 3 := by kernel_rfl
theorem dec_zero {g : Cf} {f : Ft} (h : (dec g f).1 = 0) : f.com = false ∧ f.att < g.attempts := by
  unfold dec at h
  split at h
  · cases h
  split at h
  · cases h
  split at h
  · cases h
  rename_i h1 h2 h3
  exact ⟨by simpa using h2, by omega⟩
/-- what holds of a call that was fresh once -/
structure Inv (g : Cf) (r : Cl) : Prop where
  tr : r.att = r.tr
  lo : 0 ≤ r.att
  hi : r.att ≤ 5
  s0 : 0 ≤ r.st
  s3 : r.st ≤ 3
  f : r.st = 0 → r.att = 0
  rs : r.st = 2 → r.att < g.attempts
  at_ : r.att ≤ 1 ∨ r.att ≤ g.attempts
/-- what a deed does to it -/
structure Goes (g : Cf) (d : De) (r x : Cl) : Prop where
  inv : Inv g x
  ge : r.att ≤ x.att
  le : x.att ≤ r.att + 1
  co : r.co = true → x.co = true
  over : r.st = 3 → x = r
  bad : 5 ≤ d.k → d.k ≤ 7 → r.st = 1 → (r.co = true ∨ g.attempts ≤ r.att) → x.st = 3
theorem goes_same {g : Cf} {d : De} {r : Cl} (h : Inv g r) (k : ¬ (5 ≤ d.k ∧ d.k ≤ 7 ∧ r.st = 1)) : Goes g d r r :=
  ⟨h, by omega, by omega, id, fun _ => rfl, fun a b c _ => absurd ⟨a, b, c⟩ k⟩
theorem inv_over {g : Cf} {r x : Cl} (h : Inv g r) (a : x.att = r.att) (t : x.tr = r.tr) (s : x.st = 3) : Inv g x :=
  ⟨by rw [a, t]; exact h.tr, by rw [a]; exact h.lo, by rw [a]; exact h.hi, by omega, by omega, fun c => by omega, fun c => by omega, by rw [a]; exact h.at_⟩
theorem goes_over {g : Cf} {d : De} {r x : Cl} (h : Inv g r) (a : x.att = r.att) (t : x.tr = r.tr) (s : x.st = 3) (co : x.co = r.co) (n : ¬ r.st = 3) : Goes g d r x :=
  ⟨inv_over h a t s, by omega, by omega, fun c => by rw [co]; exact c, fun c => absurd c n, fun _ _ _ _ => s⟩
theorem goes_ends {g : Cf} {d : De} {r : Cl} (h : Inv g r) (n : Int) (k : r.st = 3 → ¬ (5 ≤ d.k ∧ d.k ≤ 7 ∧ r.st = 1)) : Goes g d r (ends r n) := by
  by_cases h3 : r.st = 3
  · rw [ends_over n h3]; exact goes_same h (k h3)
  · rw [ends_on n h3]; exact goes_over h rfl rfl rfl rfl h3
theorem goes_stp {g : Cf} {r : Cl} (d : De) (h : Inv g r) : Goes g d r (stp r g d).1 := by
  have h1 := h.tr
  have h2 := h.lo
  have h3 := h.hi
  have h4 := h.at_
  have h5 := h.f
  have h6 := h.rs
  by_cases k0 : d.k = 0 ∨ d.k = 1 ∨ d.k = 2
  · rw [stp_0 k0]
    show Goes g d r (begin r d.n)
    by_cases c : (r.st = 0 ∨ r.st = 2) ∧ r.att < 5
    · rw [begin_on d.n c.1 c.2]
      refine ⟨⟨?_, ?_, ?_, ?_, ?_, ?_, ?_, ?_⟩, ?_, ?_, id, ?_, ?_⟩ <;> (first | omega | (dsimp only; omega))
    · rw [begin_no d.n c]; exact goes_same h (by omega)
  by_cases k3 : d.k = 3
  · rw [stp_3 k3]
    show Goes g d r (good r d.n)
    by_cases c : r.st = 1
    · rw [good_on d.n c]; exact goes_over h rfl rfl rfl rfl (by omega)
    · rw [good_no d.n c]; exact goes_same h (by omega)
  by_cases k4 : d.k = 4
  · rw [stp_4 k4]
    show Goes g d r (taken r)
    by_cases c : r.st = 1
    · rw [taken_on c]
      exact ⟨⟨h.tr, h.lo, h.hi, h.s0, h.s3, h.f, h.rs, h.at_⟩, by show r.att ≤ r.att; omega, by show r.att ≤ r.att + 1; omega, fun _ => rfl, fun a => by omega, fun a b _ _ => by omega⟩
    · rw [taken_no c]; exact goes_same h (by omega)
  by_cases k5 : d.k = 5 ∨ d.k = 6 ∨ d.k = 7
  · rw [stp_5 k5]
    by_cases c : r.st = 1
    · obtain ⟨a, b, hab⟩ : ∃ a b, dec g (asks r d.f) = (a, b) := ⟨_, _, rfl⟩
      by_cases h0 : a = 0
      · have hz := dec_zero (g := g) (f := asks r d.f) (by rw [hab]; exact h0)
        have hz1 : r.co = false := hz.1
        have hz2 : r.att < g.attempts := hz.2
        rw [bad_again c hab h0]
        refine ⟨⟨h1, h2, h3, ?_, ?_, ?_, ?_, h4⟩, ?_, ?_, id, ?_, ?_⟩
        · show (0 : Int) ≤ 2; omega
        · show (2 : Int) ≤ 3; omega
        · intro e; exact absurd (show (2 : Int) = 0 from e) (by omega)
        · intro _; exact hz2
        · show r.att ≤ r.att; omega
        · show r.att ≤ r.att + 1; omega
        · intro e; omega
        · intro _ _ _ e
          rcases e with e | e
          · rw [hz1] at e; cases e
          · omega
      · rw [bad_ends c hab h0]; exact goes_ends h _ (fun e => by omega)
    · rw [bad_no g d.f c]; exact goes_same h (fun e => c e.2.2)
  by_cases k8 : d.k = 8
  · rw [stp_8 k8]; exact goes_ends h _ (fun _ => by omega)
  · rw [stp_no ⟨by omega, by omega, by omega, by omega, by omega, by omega, by omega, by omega, by omega⟩]; exact goes_same h (by omega)
theorem inv_fit {g : Cf} {r : Cl} (h : Inv g r) : r.Fit := ⟨⟨by have := h.lo; omega, by have := h.hi; omega⟩, by have := h.tr; have := h.lo; omega, by have := h.tr; have := h.hi; omega⟩

set_option maxRecDepth 100000 in
set_option maxHeartbeats 4000000 in
theorem bounds_any (a : Nm) (g : Cf) {w : World} {v : Value} {len : Nat} {F : Nat → De} (hI : Deeds w v len F) :
    Calls Try.prog 4 #[.agg #[.int .i64 a.n, .int .i64 a.i, .int .i64 a.s], .agg g.arr, v] w fun e w' => e = .returned (.bool true) ∧ Kept w w' := by
  obtain ⟨W, hW, hB⟩ : ∃ W, ((w.alloc (.cells #[.int .i64 a.n, .int .i64 a.i, .int .i64 a.s] 23)).alloc (.cells g.arr 28)).alloc (.cells #[.int .i64 a.n, .int .i64 a.i, .int .i64 a.s, .int .i64 0, .int .i64 0, .int .i64 0, .int .i64 0, .int .i64 0, .int .i64 0, .bool false, .int .i64 0, .int .i64 0, .int .i64 0] 31) = W ∧ Bl w W [(#[.int .i64 a.n, .int .i64 a.i, .int .i64 a.s], 23), (g.arr, 28), ((⟨a.n, a.i, a.s, 0, 0, 0, 0, 0, 0, false, 0, 0, 0⟩ : Cl).arr, 31)] := ⟨_, rfl, Bl.start [(_, _), (_, _), (_, _)] w⟩
  have HW := Lib.hid hW
  have HX := Lib.hid hB
  have AW := Lib.hid (fun w => awake_any w)
  have hlen := fun ty u => hI.length Try.underlying29 ty u
  obtain ⟨z, hz⟩ : ∃ z : Int, (len : Int) = z := ⟨_, rfl⟩
  rw [hz] at hlen
  have HZ := Lib.hid hz
  have HI := Lib.hid hI
  clear hB hW hI hz
  go_enter Try.func4, Try.ntmps4
  go_upto_region 2 with fail
  rw [HW.out]
  go_wp2_with fail
  go_loopg [8] len (fun gh iv wr => ∃ j : Nat, gh = len - j ∧ j ≤ len ∧ j ≤ 40 ∧ iv = .int .i64 (j : Int) ∧ ∃ r : Cl, Bl w wr [(#[.int .i64 a.n, .int .i64 a.i, .int .i64 a.s], 23), (g.arr, 28), (r.arr, 31)] ∧ Inv g r)
  case atStart => exact ⟨0, rfl, Nat.zero_le _, Nat.zero_le _, rfl, _, HX.out, ⟨rfl, (by decide : (0 : Int) ≤ 0), (by decide : (0 : Int) ≤ 5), (by decide : (0 : Int) ≤ 0), (by decide : (0 : Int) ≤ 3), fun _ => rfl, fun e => absurd (show (0 : Int) = 2 from e) (by decide), .inl (by decide : (0 : Int) ≤ 1)⟩⟩
  case round =>
    obtain ⟨j, rfl, hj, hj40, rfl, r, hB, hinv⟩ := hrel
    have HB := Lib.hid hB
    have HV := Lib.hid hinv
    by_cases hlt : j < len ∧ j < 40
    · obtain ⟨hjl, hj4⟩ := hlt
      have hjz : (j : Int) < z := by have := HZ.out; omega
      have hjl2 : (j : Int) < (len : Int) := by omega
      have hj4' : (j : Int) < 40 := by omega
      obtain ⟨b, off, cap, hv1, _, hcell⟩ := HI.out.at hjl
      have HC := Lib.hid hcell
      have hgo := goes_stp (F j) hinv
      have s1 := step_any r (inv_fit hinv) g (F j)
      obtain ⟨q, y, hq⟩ : ∃ q y, stp r g (F j) = (q, y) := ⟨_, _, rfl⟩
      rw [hq] at hgo s1
      have HG := Lib.hid (show Goes g (F j) r q from hgo)
      have S1 := Lib.hid s1
      have HJ := Lib.hid (And.intro hj40 hjl)
      subst hv1
      clear hB hinv hcell hgo s1 hq hj hj40
      go_upto_region 5 with fail
      go_cut [9, 10] (fun p o wx => ∃ X : Nat, p = .pointer (some ⟨X, 0, none⟩) ∧ (∃ ov : Int, o = .int .i64 ov) ∧ Bl w wx [(#[.int .i64 a.n, .int .i64 a.i, .int .i64 a.s], 23), (g.arr, 28), (r.arr, 31)] ∧ wx.heap[X]? = some (.cells q.arr 31 (0, 0)))
      case first =>
        refine Hg.region_g 11 (fun u => Bl w u [(#[.int .i64 a.n, .int .i64 a.i, .int .i64 a.s], 23), (g.arr, 28), (r.arr, 31)]) (by kernel_rfl) (HB.out.go (Kept.refl _).drew) (fun hHeld => ?_)
        refine Hg.take_b 0 (some 24) rfl rfl (by kernel_rfl) (by kernel_rfl) (by kernel_rfl) (by kernel_rfl) (fun _ _ _ h => h) (Hg.yields_row 31 (.tmp 7) rfl (w.heap.size + 1 + 1) 0 rfl rfl (fun u hu => run_loadVar_row _ (w.heap.size + 1 + 1) _ _ r.arr (0, 0) _ (hu.blk 2 rfl) Try.underlying31 rfl info_cl)) hHeld ?_
        simp only [Act.put, List.setIfInBounds_toArray, List.set_cons_zero, List.set_cons_succ]
        refine Hg.take_b 1 (some 25) rfl rfl (by kernel_rfl) (by kernel_rfl) (by kernel_rfl) (by kernel_rfl) (fun _ _ _ h => h) (Hg.yields_row 28 (.tmp 4) rfl (w.heap.size + 1) 0 rfl rfl (fun u hu => run_loadVar_row _ (w.heap.size + 1) _ _ g.arr (0, 0) _ (hu.blk 1 rfl) Try.underlying28 rfl info_cf)) hHeld ?_
        simp only [Act.put, List.setIfInBounds_toArray, List.set_cons_zero, List.set_cons_succ]
        refine Hg.take_b 2 (some 26) (v := ?_) rfl rfl (by kernel_rfl) (by kernel_rfl) (by kernel_rfl) (by kernel_rfl) (fun _ _ _ h => h) (Or.inl ⟨by rfl, ?_⟩) hHeld ?_
        rotate_left
        · (intro w hSw; go_simp; try with_reducible rfl)
        simp only [Act.put, List.setIfInBounds_toArray, List.set_cons_zero, List.set_cons_succ]
        refine Hg.take_b 3 (some 27) (v := ?_) rfl rfl (by kernel_rfl) (by kernel_rfl) (by kernel_rfl) (by kernel_rfl) (fun _ _ _ h => h) (Or.inl ⟨by rfl, ?_⟩) hHeld ?_
        rotate_left
        · (intro w hSw; go_simp; try with_reducible rfl)
        simp only [Act.put, List.setIfInBounds_toArray, List.set_cons_zero, List.set_cons_succ]
        refine Hg.take_b 4 (some 28) (v := ?_) rfl rfl (by kernel_rfl) (by kernel_rfl) (by kernel_rfl) (by kernel_rfl) (fun _ _ _ h => h) (Or.inl ⟨by rfl, ?_⟩) hHeld ?_
        rotate_left
        · (intro w hSw; go_simp; try with_reducible rfl)
        simp only [Act.put, List.setIfInBounds_toArray, List.set_cons_zero, List.set_cons_succ]
        refine Hg.take_b 5 (some 29) rfl rfl (by kernel_rfl) (by kernel_rfl) (by kernel_rfl) (by kernel_rfl) (fun _ _ _ h => h) (Hg.yields_row 37 (.tmp 28) rfl b (off + j * 10) rfl rfl (fun u hu => load_deed (HC.out u hu.kept))) hHeld ?_
        simp only [Act.put, List.setIfInBounds_toArray, List.set_cons_zero, List.set_cons_succ]
        refine Hg.fork_b 6 10 rfl rfl (by kernel_rfl) (fun K hK => ?_) (fun K hK => ?_)
        · go_simp
          refine (S1.out _).mono ?_
          rintro e u1 ⟨rfl, k1⟩
          go_wp2_with fail
          have hHeld := hHeld.go k1
          refine hK.out _ _ hHeld ?_
          clear hK K
          refine Hg.take_b 7 (some 23) (v := ?_) rfl rfl (by kernel_rfl) (by kernel_rfl) (by kernel_rfl) (by kernel_rfl) (fun _ _ _ h => h) (Or.inl ⟨by rfl, ?_⟩) hHeld ?_
          rotate_left
          · (intro w hSw; go_simp; try with_reducible rfl)
          simp only [Act.put, List.setIfInBounds_toArray, List.set_cons_zero, List.set_cons_succ]
          refine Hg.take_b 8 (some 31) (v := ?_) rfl rfl (by kernel_rfl) (by kernel_rfl) (by kernel_rfl) (by kernel_rfl) (fun _ _ _ h => h) (Or.inl ⟨by rfl, ?_⟩) hHeld ?_
          rotate_left
          · (intro w hSw; go_simp; try with_reducible rfl)
          simp only [Act.put, List.setIfInBounds_toArray, List.set_cons_zero, List.set_cons_succ]
          refine Hg.take_p 9 (some 32) (v := ?_) rfl rfl (by kernel_rfl) (by kernel_rfl) (by kernel_rfl) (by kernel_rfl) (fun _ _ _ h => h) (Or.inl ⟨by rfl, ?_⟩) (fun _ => hHeld) ?_
          rotate_left
          · (intro w hSw; clear hSw; go_simp; try with_reducible rfl)
          simp only [Act.put, List.setIfInBounds_toArray, List.set_cons_zero, List.set_cons_succ]
          refine Hg.step_b 10 rfl (by kernel_rfl) (fun K hK => ?_)
          go_simp
          have hHeld0 := hHeld
          have hHeld := hHeld.go (Kept.one u1 (.cells #[.int .i64 0, .int .i64 0, .int .i64 0, .int .i64 0, .int .i64 0, .int .i64 0, .int .i64 0, .int .i64 0, .int .i64 0, .bool false, .int .i64 0, .int .i64 0, .int .i64 0] 31))
          refine hK.out _ _ hHeld ?_
          clear hK K
          refine Hg.store_s 11 31 (.tmp 9) (.tmp 31) rfl (by kernel_rfl) (by kernel_rfl) rfl rfl rfl u1.heap.size q.arr rfl rfl 31 _ (blk_new u1 _) info_cl rfl (by kernel_rfl) ?_
          refine Hg.take_p 12 (some 10) (v := ?_) rfl rfl (by kernel_rfl) (by kernel_rfl) (by kernel_rfl) (by kernel_rfl) (fun _ _ _ h => h) (Or.inl ⟨by rfl, ?_⟩) (fun h => by have h2 : true = false := h; cases h2) ?_
          rotate_left
          · (intro w hSw; clear hSw; go_simp; try with_reducible rfl)
          simp only [Act.put, List.setIfInBounds_toArray, List.set_cons_zero, List.set_cons_succ]
          refine Hg.done_g (by kernel_rfl) ?_
          have hS := hHeld.far (X := u1.heap.size) (hHeld0.size) q.arr
          have hr := setRow_heap _ u1.heap.size _ q.arr _ _ (blk_new u1 (.cells #[.int .i64 0, .int .i64 0, .int .i64 0, .int .i64 0, .int .i64 0, .int .i64 0, .int .i64 0, .int .i64 0, .int .i64 0, .bool false, .int .i64 0, .int .i64 0, .int .i64 0] 31))
          go_wp2_with fail
          go_meet
          exact ⟨_, rfl, ⟨_, rfl⟩, hS, hr⟩
        · go_simp
          have hHeld00 := hHeld
          have hHeld := hHeld.go (Kept.one _ (.cells #[.int .i64 0, .int .i64 0, .int .i64 0, .int .i64 0, .int .i64 0, .int .i64 0, .int .i64 0, .int .i64 0, .int .i64 0, .bool false, .int .i64 0, .int .i64 0, .int .i64 0] 31))
          refine hK.out _ _ hHeld ?_
          clear hK K
          refine Hg.step_b 6 rfl (by kernel_rfl) (fun K hK => ?_)
          go_simp
          refine (S1.out _).mono ?_
          rintro e u1 ⟨rfl, k1⟩
          go_wp2_with fail
          have hb9 := kept_at k1 (blk_new (World.drew _) (.cells #[.int .i64 0, .int .i64 0, .int .i64 0, .int .i64 0, .int .i64 0, .int .i64 0, .int .i64 0, .int .i64 0, .int .i64 0, .bool false, .int .i64 0, .int .i64 0, .int .i64 0] 31))
          have hHeld := hHeld.go k1
          refine hK.out _ _ hHeld ?_
          clear hK K
          refine Hg.take_b 7 (some 23) (v := ?_) rfl rfl (by kernel_rfl) (by kernel_rfl) (by kernel_rfl) (by kernel_rfl) (fun _ _ _ h => h) (Or.inl ⟨by rfl, ?_⟩) hHeld ?_
          rotate_left
          · (intro w hSw; go_simp; try with_reducible rfl)
          simp only [Act.put, List.setIfInBounds_toArray, List.set_cons_zero, List.set_cons_succ]
          refine Hg.take_b 8 (some 31) (v := ?_) rfl rfl (by kernel_rfl) (by kernel_rfl) (by kernel_rfl) (by kernel_rfl) (fun _ _ _ h => h) (Or.inl ⟨by rfl, ?_⟩) hHeld ?_
          rotate_left
          · (intro w hSw; go_simp; try with_reducible rfl)
          simp only [Act.put, List.setIfInBounds_toArray, List.set_cons_zero, List.set_cons_succ]
          refine Hg.take_p 9 (some 32) (v := ?_) rfl rfl (by kernel_rfl) (by kernel_rfl) (by kernel_rfl) (by kernel_rfl) (fun _ _ _ h => h) (Or.inl ⟨by rfl, ?_⟩) (fun _ => hHeld) ?_
          rotate_left
          · (intro w hSw; clear hSw; go_simp; try with_reducible rfl)
          simp only [Act.put, List.setIfInBounds_toArray, List.set_cons_zero, List.set_cons_succ]
          refine Hg.store_s 11 31 (.tmp 9) (.tmp 31) rfl (by kernel_rfl) (by kernel_rfl) rfl rfl rfl _ q.arr rfl rfl 31 _ hb9 info_cl rfl (by kernel_rfl) ?_
          refine Hg.take_p 12 (some 10) (v := ?_) rfl rfl (by kernel_rfl) (by kernel_rfl) (by kernel_rfl) (by kernel_rfl) (fun _ _ _ h => h) (Or.inl ⟨by rfl, ?_⟩) (fun h => by have h2 : true = false := h; cases h2) ?_
          rotate_left
          · (intro w hSw; clear hSw; go_simp; try with_reducible rfl)
          simp only [Act.put, List.setIfInBounds_toArray, List.set_cons_zero, List.set_cons_succ]
          refine Hg.done_g (by kernel_rfl) ?_
          have hS := hHeld.far hHeld00.size q.arr
          have hr := setRow_heap _ _ _ q.arr _ _ hb9
          go_wp2_with fail
          go_meet
          exact ⟨_, rfl, ⟨_, rfl⟩, hS, hr⟩
      case rest =>
        obtain ⟨X, rfl, ⟨ov, rfl⟩, hB1, hX⟩ := hcut
        have HB1 := Lib.hid hB1
        have HX1 := Lib.hid hX
        have HGI := HG.out
        go_upto_region 6 with fail
        go_cut [40] (fun t wx => t = .bool false ∧ Bl w wx [(#[.int .i64 a.n, .int .i64 a.i, .int .i64 a.s], 23), (g.arr, 28), (r.arr, 31)] ∧ wx.heap[X]? = some (.cells q.arr 31 (0, 0)))
        case first =>
          have c6 : wc.cell? ⟨w.heap.size + 1 + 1, 6, none⟩ = some (.int .i64 r.st) := hB1.cell 2 6 rfl
          clear hB1 hX HGI
          by_cases hst : r.st = 3
          · have e := HG.out.over hst
            have hX3 := HX1.out
            rw [e] at hX3
            have HX3 := Lib.hid hX3
            rw [hst] at c6
            have n1 := neq_cl r
            clear hX3 e hst
            go_wp2_with (first
              | (refine load_w 31 (.tmp 9) rfl X rfl rfl r.arr 13 HX3.out Try.underlying31 rfl info_cl ?_)
              | (refine load_w 31 (.tmp 7) rfl (w.heap.size + 1 + 1) rfl rfl r.arr 13 (HB1.out.blk 2 rfl) Try.underlying31 rfl info_cl ?_))
            go_meet
            exact ⟨rfl, HB1.out, HX1.out⟩
          · go_wp2_with fail
            go_meet
            exact ⟨rfl, HB1.out, HX1.out⟩
        case rest =>
        clear hB1 hX HGI HB1 HX1
        obtain ⟨rfl, hB1, hX⟩ := hcut
        have HB1 := Lib.hid hB1
        have HX1 := Lib.hid hX
        go_upto_region 8 with fail
        go_cut [75] (fun t wx => t = .bool false ∧ Bl w wx [(#[.int .i64 a.n, .int .i64 a.i, .int .i64 a.s], 23), (g.arr, 28), (r.arr, 31)] ∧ wx.heap[X]? = some (.cells q.arr 31 (0, 0)))
        case first =>
          have HBAD := Lib.hid HG.out.bad
          obtain ⟨k, hk⟩ : ∃ k, (F j).k = k := ⟨_, rfl⟩
          rw [hk] at HBAD
          have y0 : wc.cell? ⟨b, off + j * 10, none⟩ = some (.int .i64 k) := HC.out _ hB1.kept 0 _ (by rw [← hk]; rfl)
          have c5 : wc.cell? ⟨w.heap.size + 1 + 1, 5, none⟩ = some (.int .i64 r.att) := hB1.cell 2 5 rfl
          have c6 : wc.cell? ⟨w.heap.size + 1 + 1, 6, none⟩ = some (.int .i64 r.st) := hB1.cell 2 6 rfl
          have c9 : wc.cell? ⟨w.heap.size + 1 + 1, 9, none⟩ = some (.bool r.co) := hB1.cell 2 9 rfl
          have g8 : wc.cell? ⟨w.heap.size + 1, 8, none⟩ = some (.int .i64 g.attempts) := hB1.cell 1 8 rfl
          have x6 : wc.cell? ⟨X, 6, none⟩ = some (.int .i64 q.st) := blk_cell hX 6
          clear hB1 hX hk
          by_cases k1 : 5 ≤ k
          · by_cases k2 : k ≤ 7
            · by_cases s1 : r.st = 1
              · rcases Bool.eq_false_or_eq_true r.co with hco | hco
                · have e := HBAD.out k1 k2 s1 (.inl hco)
                  rw [e] at x6
                  rw [hco] at c9
                  rw [s1] at c6
                  clear e hco s1
                  go_wp2_with fail
                  go_meet
                  exact ⟨rfl, HB1.out, HX1.out⟩
                · by_cases ha : g.attempts ≤ r.att
                  · have e := HBAD.out k1 k2 s1 (.inr ha)
                    rw [e] at x6
                    rw [hco] at c9
                    rw [s1] at c6
                    clear e hco s1
                    go_wp2_with fail
                    go_meet
                    exact ⟨rfl, HB1.out, HX1.out⟩
                  · rw [hco] at c9
                    rw [s1] at c6
                    clear hco s1
                    go_wp2_with fail
                    go_meet
                    exact ⟨rfl, HB1.out, HX1.out⟩
              · go_wp2_with fail
                go_meet
                exact ⟨rfl, HB1.out, HX1.out⟩
            · go_wp2_with fail
              go_meet
              exact ⟨rfl, HB1.out, HX1.out⟩
          · go_wp2_with fail
            go_meet
            exact ⟨rfl, HB1.out, HX1.out⟩
        case rest =>
        clear hB1 hX HB1 HX1
        obtain ⟨rfl, hB1, hX⟩ := hcut
        have HB1 := Lib.hid hB1
        have HX1 := Lib.hid hX
        go_upto_region 10 with fail
        go_cut [119] (fun t wx => t = .bool false ∧ Bl w wx [(#[.int .i64 a.n, .int .i64 a.i, .int .i64 a.s], 23), (g.arr, 28), (r.arr, 31)] ∧ wx.heap[X]? = some (.cells q.arr 31 (0, 0)))
        case first =>
          obtain ⟨i1, i2, i3, i4, i5, _, _, _⟩ := HG.out.inv
          have i6 := HG.out.ge
          have i7 := HG.out.le
          have i8 := HG.out.co
          have i9 := HV.out.lo
          have i10 := HV.out.hi
          have c5 : wc.cell? ⟨w.heap.size + 1 + 1, 5, none⟩ = some (.int .i64 r.att) := hB1.cell 2 5 rfl
          have c9 : wc.cell? ⟨w.heap.size + 1 + 1, 9, none⟩ = some (.bool r.co) := hB1.cell 2 9 rfl
          have x5 : wc.cell? ⟨X, 5, none⟩ = some (.int .i64 q.att) := blk_cell hX 5
          have x6 : wc.cell? ⟨X, 6, none⟩ = some (.int .i64 q.st) := blk_cell hX 6
          have x9 : wc.cell? ⟨X, 9, none⟩ = some (.bool q.co) := blk_cell hX 9
          have x12 : wc.cell? ⟨X, 12, none⟩ = some (.int .i64 q.att) := by rw [i1]; exact blk_cell hX 12
          have nn : (q.att != q.att) = false := by simp
          have o1 : ¬ q.att < r.att := by omega
          have o2 : ¬ r.att + 1 < q.att := by omega
          clear hB1 hX i1 i2 i4 i5 i6 i7
          have o3 : ¬ 5 < q.att := by omega
          have o4 : ¬ q.st < 0 := by have := HG.out.inv.s0; omega
          have o5 : ¬ 3 < q.st := by have := HG.out.inv.s3; omega
          rcases Bool.eq_false_or_eq_true r.co with hco | hco
          · rw [hco] at c9
            rw [i8 hco] at x9
            clear i8 hco
            go_wp2_with fail
            go_meet
            exact ⟨rfl, HB1.out, HX1.out⟩
          · rw [hco] at c9
            clear i8 hco
            go_wp2_with fail
            go_meet
            exact ⟨rfl, HB1.out, HX1.out⟩
        case rest =>
        clear hB1 hX HB1 HX1
        obtain ⟨rfl, hB1, hX⟩ := hcut
        have HB1 := Lib.hid hB1
        have HX1 := Lib.hid hX
        clear hB1 hX
        go_wp2_with (first
          | (refine load_w 31 (.tmp 9) rfl X rfl rfl q.arr 13 HX1.out Try.underlying31 rfl info_cl ?_)
          | (refine wpList_store_row rfl 31 (.tmp 7) (.tmp 120) rfl (w.heap.size + 1 + 1) _ rfl rfl 31 _ (HB1.out.blk 2 rfl) info_cl rfl (by kernel_rfl) ?_))
        go_roundg (len - (j + 1))
        case measure => have := HJ.out; omega
        case rel => exact ⟨j + 1, rfl, HJ.out.2, by omega, by go_num, q, HB1.out.row 2 rfl q.arr, HG.out.inv⟩
    · have hend : z ≤ (j : Int) ∨ ((j : Int) < z ∧ 40 ≤ (j : Int)) := by have := HZ.out; omega
      have g8 : wr.cell? ⟨w.heap.size + 1, 8, none⟩ = some (.int .i64 g.attempts) := hB.cell 1 8 rfl
      have c5 : wr.cell? ⟨w.heap.size + 1 + 1, 5, none⟩ = some (.int .i64 r.att) := hB.cell 2 5 rfl
      have hat := hinv.at_
      clear hB hinv hlt hj hj40
      by_cases ga : g.attempts < 1
      · clear hat
        rcases hend with hend | ⟨hend, hend2⟩
        all_goals
          go_wp2_with (go_at_call 6; refine (AW.out _).mono ?_; rintro e u ⟨rfl, hk⟩)
          go_ret
          exact ⟨rfl, HB.out.kept.trans hk⟩
      · by_cases ra : r.att ≤ 1
        · clear hat
          rcases hend with hend | ⟨hend, hend2⟩
          all_goals
            go_wp2_with (go_at_call 6; refine (AW.out _).mono ?_; rintro e u ⟨rfl, hk⟩)
            go_ret
            exact ⟨rfl, HB.out.kept.trans hk⟩
        · have ra2 : r.att ≤ g.attempts := by omega
          clear hat
          rcases hend with hend | ⟨hend, hend2⟩
          all_goals
            go_wp2_with (go_at_call 6; refine (AW.out _).mono ?_; rintro e u ⟨rfl, hk⟩)
            go_ret
            exact ⟨rfl, HB.out.kept.trans hk⟩

end Go.Proofs.Ytpicjcophjekpaa.Cl
