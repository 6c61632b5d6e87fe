/- Programs: the document's words, numbers and texts. -/
import Derived.Test.YtcoagmkncjonmaaGreatDoorPg5
import Derived.Test.YtcoagmkncjonmaaGreatDoorDg
namespace Go.Proofs.YtcoagmkncjonmaaGreatDoor.Pg
open Go.RowKit Go.Sort Go.Shelf St Cd It
set_option linter.unusedVariables false
set_option linter.unusedSimpArgs false

theorem rverb_any (k : Int) (h : knownB k = true) (w : World) :
    Calls Tryz.prog 43 #[.int .i64 k] w fun e w' => e = .returned (.string (verbB k)) ∧ Kept w w' := by
  rcases known_cases h with rfl | rfl | rfl | rfl | rfl | rfl | rfl
  all_goals
    clear h
    go_enter Tryz.func43, Tryz.ntmps43
    go_wp2_with fail
    go_ret
    exact ⟨rfl, Kept.one _ _⟩

theorem rnums_any (k : Int) (h : knownB k = true) (w : World) :
    Calls Tryz.prog 44 #[.int .i64 k] w fun e w' => e = .returned (.int .i64 (nums k : Int)) ∧ w = w' := by
  rcases known_cases h with rfl | rfl | rfl | rfl | rfl | rfl | rfl
  all_goals
    clear h
    go_enter Tryz.func44, Tryz.ntmps44
    go_wp2_with fail
    go_ret
    exact ⟨rfl, rfl⟩

theorem size2 : (⟨#[59, 32]⟩ : ByteArray).size = 2 := rfl
theorem size1 : (⟨#[32]⟩ : ByteArray).size = 1 := rfl
/-- what stands ahead of a step -/
def sepT (i : Nat) : List UInt8 := if i = 0 then [] else [59, 32]
theorem join_take {L : List Op} {i : Nat} {o : Op} (ho : L[i]? = some o) : joinT (L.take (i + 1)) = joinT (L.take i) ++ (sepT i ++ stepT o) := by
  rw [List.take_add_one, ho]
  cases i with
  | zero => simp [joinT, tailT, sepT]
  | succ j =>
    have hne : L.take (j + 1) ≠ [] := fun c => by
      have h1 := (List.getElem?_eq_some_iff.1 ho).1
      have h2 : (L.take (j + 1)).length = 0 := by rw [c]; rfl
      rw [List.length_take] at h2
      omega
    show joinT (L.take (j + 1) ++ [o]) = _
    rw [joinT_app hne]
    simp [tailT, sepT]
theorem allK_take {L : List Op} {i : Nat} {o : Op} (h : allK (L.take i) = true) (ho : L[i]? = some o) (hf : knownB o.k = true) : allK (L.take (i + 1)) = true := all_take h ho hf
theorem text_none {L : List Op} {i : Nat} {o : Op} (ho : L[i]? = some o) (hf : knownB o.k = false) : textT L = [] := by
  unfold textT; rw [if_neg]; unfold allK; rw [all_miss ho hf]; decide
theorem not_known {k : Int} (h : knownB k = false) : k < 1 ∨ 7 < k := by
  unfold knownB at h; have := of_decide_eq_false h; omega

set_option maxHeartbeats 2000000 in
theorem rtext_any {w : World} {v : Value} {L : List Op} (hv : Ops w v L) (hl : L.length ≤ 1000) (hf : ∀ o ∈ L, o.Fit) (E : ByteArray) (hE : Hid (E.data.toList = textT L)) :
    Calls Tryz.prog 26 #[v] w fun e w' => e = .returned (.string E) ∧ Kept w w' := by
  obtain ⟨q, N, cap, rfl, hN, hm⟩ := hv.slice
  have HV := Lib.hid hv
  have HN := Lib.hid hN
  have HF := Lib.hid hf
  have hm2 : N ≤ 1000 := by rw [← hN]; exact hl
  clear hv hN hm hl hf
  go_enter Tryz.func26, Tryz.ntmps26
  go_wp2_with fail
  go_loopw [3, 4] (fun s x wr => ∃ (i : Nat) (S : ByteArray), i ≤ N ∧ x = .int .i64 (i : Int) ∧ s = .string S ∧ Kept w wr ∧ S.size ≤ 100 * i ∧ Hid (S.data.toList = joinT (L.take i)) ∧ Hid (allK (L.take i) = true)) (fun _ x _ => N - (intOf x).toNat)
  case atStart => exact ⟨0, ⟨#[]⟩, Nat.zero_le _, rfl, rfl, Kept.refl _, Nat.le_refl _, rfl, rfl⟩
  case round =>
    obtain ⟨i, S, hi, rfl, rfl, hk, hS, hSl, hA⟩ := hrel
    by_cases hlt : i < N
    · have hvr := HV.out.go hk
      obtain ⟨o, b, off, ho, rfl, -⟩ := hvr.pick (i := i) (by rw [HN.out]; exact hlt)
      have hcell : ∀ u, Kept wr u → u.cell? ⟨b, off + i * 3, none⟩ = some (.int .i64 o.k) ∧ u.cell? ⟨b, off + i * 3 + 1, none⟩ = some (.int .i64 o.a) ∧ u.cell? ⟨b, off + i * 3 + 2, none⟩ = some (.int .i64 o.b) := fun u hu => by
        obtain ⟨o2, b2, off2, ho2, e2, q0, q1, q2⟩ := (hvr.go hu).pick (i := i) (by rw [HN.out]; exact hlt)
        rw [ho] at ho2
        cases ho2
        cases e2
        exact ⟨q0, q1, q2⟩
      have hfo := HF.out o (List.mem_of_getElem? ho)
      have HO := Lib.hid ho
      have HL := Lib.hid hcell
      have HJ := Lib.hid (join_take ho)
      obtain ⟨c0, c1, c2⟩ := hcell wr (Kept.refl _)
      have HK := Lib.hid hk
      clear hcell ho hvr hk
      by_cases hkn : knownB o.k = true
      · have hVs := verb_size hkn
        have HC1 := Lib.hid (rverb_any o.k hkn)
        have HC2 := Lib.hid (rnums_any o.k hkn)
        have h17 := of_decide_eq_true hkn
        have hm3 := nums_le hkn
        obtain ⟨D1, hD1, hS1⟩ := itoa_named o.a hfo.2.1
        obtain ⟨D2, hD2, hS2⟩ := itoa_named o.b hfo.2.2
        have HI1 := Lib.hid (fun u => Dg.digits_int o.a hfo.2.1.1 hfo.2.1.2 D1 hD1 u)
        have HI2 := Lib.hid (fun u => Dg.digits_int o.b hfo.2.2.1 hfo.2.2.2 D2 hD2 u)
        have HA2 := Lib.hid (allK_take hA.out HO.out hkn)
        obtain ⟨V, hV⟩ : ∃ V, verbB o.k = V := ⟨_, rfl⟩
        obtain ⟨m, hm⟩ : ∃ m : Nat, nums o.k = m := ⟨_, rfl⟩
        have HT := Lib.hid (show joinT (L.take (i + 1)) = S.data.toList ++ (sepT i ++ (V.data.toList ++ numT o m)) by rw [HJ.out, hSl.out, ← hV, ← hm]; rfl)
        rw [hV] at HC1 hVs
        rw [hm] at HC2 hm3
        have HD := Lib.hid (And.intro hD1.out hD2.out)
        obtain ⟨h1, h7⟩ := h17
        have k1 : ¬ o.k < 1 := by omega
        have k7 : ¬ 7 < o.k := by omega
        clear hkn hV hm hD1 hD2 hfo h1 h7
        have HNT := Lib.hid (And.intro (show numT o 0 = [] from rfl) (And.intro (show numT o 1 = 32 :: Lib.itoa o.a from rfl) (show numT o 2 = 32 :: (Lib.itoa o.a ++ 32 :: Lib.itoa o.b) from rfl)))
        obtain ⟨T, hT⟩ : ∃ T, numT o = T := ⟨_, rfl⟩
        rw [hT] at HT HNT
        clear hT
        obtain ⟨k, a, b2⟩ := o
        simp only at *
        have z1 : ¬ 9223372036854775807 < S.size + 2 := by omega
        have z2 : ¬ 9223372036854775807 < S.size + 2 + V.size := by omega
        have z3 : ¬ 9223372036854775807 < S.size + V.size := by omega
        have z4 : ¬ 9223372036854775807 < S.size + 2 + V.size + 1 := by omega
        have z5 : ¬ 9223372036854775807 < S.size + V.size + 1 := by omega
        have z6 : ¬ 9223372036854775807 < S.size + 2 + V.size + 1 + D1.size := by omega
        have z7 : ¬ 9223372036854775807 < S.size + V.size + 1 + D1.size := by omega
        have z8 : ¬ 9223372036854775807 < S.size + 2 + V.size + 1 + D1.size + 1 := by omega
        have z9 : ¬ 9223372036854775807 < S.size + V.size + 1 + D1.size + 1 := by omega
        have y1 : ¬ 9223372036854775807 < S.size + 2 + V.size + 1 + D1.size + 1 + D2.size := by omega
        have y2 : ¬ 9223372036854775807 < S.size + V.size + 1 + D1.size + 1 + D2.size := by omega
        by_cases hz : i = 0
        · have hp : ¬ 0 < (i : Int) := by omega
          have HZ := Lib.hid (show sepT i = [] by rw [hz]; rfl)
          clear hz
          rcases hm3 with rfl | rfl | rfl
          · go_wp2_with (first
              | (go_at_call 43; refine (HC1.out _).mono ?_; rintro e u1 ⟨rfl, j1⟩; obtain ⟨c0, c1, c2⟩ := HL.out u1 j1)
              | (go_at_call 44; refine (HC2.out _).mono ?_; rintro e w' ⟨rfl, rfl⟩)
              | (go_at_call 25; first
                | ((with_reducible refine (HI1.out _).mono ?_); rintro e u2 ⟨rfl, j2⟩; obtain ⟨c0, c1, c2⟩ := HL.out u2 (Kept.trans (by assumption) j2))
                | ((with_reducible refine (HI2.out _).mono ?_); rintro e u3 ⟨rfl, j3⟩)))
            go_roundw
            case rel => exact ⟨i + 1, _, hlt, by go_num, rfl, HK.out.trans j1, by simp only [ByteArray.size_append]; (try simp only [size2, size1]); omega, by show _ = _; rw [HT.out, HZ.out, HNT.out.1]; simp [HD.out.1, HD.out.2], HA2.out⟩
            case measure => simp [intOf]; omega
          · go_wp2_with (first
              | (go_at_call 43; refine (HC1.out _).mono ?_; rintro e u1 ⟨rfl, j1⟩; obtain ⟨c0, c1, c2⟩ := HL.out u1 j1)
              | (go_at_call 44; refine (HC2.out _).mono ?_; rintro e w' ⟨rfl, rfl⟩)
              | (go_at_call 25; first
                | ((with_reducible refine (HI1.out _).mono ?_); rintro e u2 ⟨rfl, j2⟩; obtain ⟨c0, c1, c2⟩ := HL.out u2 (Kept.trans (by assumption) j2))
                | ((with_reducible refine (HI2.out _).mono ?_); rintro e u3 ⟨rfl, j3⟩)))
            go_roundw
            case rel => exact ⟨i + 1, _, hlt, by go_num, rfl, (HK.out.trans j1).trans j2, by simp only [ByteArray.size_append]; (try simp only [size2, size1]); omega, by show _ = _; rw [HT.out, HZ.out, HNT.out.2.1]; simp [HD.out.1, HD.out.2], HA2.out⟩
            case measure => simp [intOf]; omega
          · go_wp2_with (first
              | (go_at_call 43; refine (HC1.out _).mono ?_; rintro e u1 ⟨rfl, j1⟩; obtain ⟨c0, c1, c2⟩ := HL.out u1 j1)
              | (go_at_call 44; refine (HC2.out _).mono ?_; rintro e w' ⟨rfl, rfl⟩)
              | (go_at_call 25; first
                | ((with_reducible refine (HI1.out _).mono ?_); rintro e u2 ⟨rfl, j2⟩; obtain ⟨c0, c1, c2⟩ := HL.out u2 (Kept.trans (by assumption) j2))
                | ((with_reducible refine (HI2.out _).mono ?_); rintro e u3 ⟨rfl, j3⟩)))
            go_roundw
            case rel => exact ⟨i + 1, _, hlt, by go_num, rfl, ((HK.out.trans j1).trans j2).trans j3, by simp only [ByteArray.size_append]; (try simp only [size2, size1]); omega, by show _ = _; rw [HT.out, HZ.out, HNT.out.2.2]; simp [HD.out.1, HD.out.2], HA2.out⟩
            case measure => simp [intOf]; omega
        · have hp : 0 < (i : Int) := by omega
          have HP := Lib.hid (show sepT i = [59, 32] by unfold sepT; rw [if_neg hz])
          clear hz
          rcases hm3 with rfl | rfl | rfl
          · go_wp2_with (first
              | (go_at_call 43; refine (HC1.out _).mono ?_; rintro e u1 ⟨rfl, j1⟩; obtain ⟨c0, c1, c2⟩ := HL.out u1 j1)
              | (go_at_call 44; refine (HC2.out _).mono ?_; rintro e w' ⟨rfl, rfl⟩)
              | (go_at_call 25; first
                | ((with_reducible refine (HI1.out _).mono ?_); rintro e u2 ⟨rfl, j2⟩; obtain ⟨c0, c1, c2⟩ := HL.out u2 (Kept.trans (by assumption) j2))
                | ((with_reducible refine (HI2.out _).mono ?_); rintro e u3 ⟨rfl, j3⟩)))
            go_roundw
            case rel => exact ⟨i + 1, _, hlt, by go_num, rfl, HK.out.trans j1, by simp only [ByteArray.size_append]; (try simp only [size2, size1]); omega, by show _ = _; rw [HT.out, HP.out, HNT.out.1]; simp [HD.out.1, HD.out.2], HA2.out⟩
            case measure => simp [intOf]; omega
          · go_wp2_with (first
              | (go_at_call 43; refine (HC1.out _).mono ?_; rintro e u1 ⟨rfl, j1⟩; obtain ⟨c0, c1, c2⟩ := HL.out u1 j1)
              | (go_at_call 44; refine (HC2.out _).mono ?_; rintro e w' ⟨rfl, rfl⟩)
              | (go_at_call 25; first
                | ((with_reducible refine (HI1.out _).mono ?_); rintro e u2 ⟨rfl, j2⟩; obtain ⟨c0, c1, c2⟩ := HL.out u2 (Kept.trans (by assumption) j2))
                | ((with_reducible refine (HI2.out _).mono ?_); rintro e u3 ⟨rfl, j3⟩)))
            go_roundw
            case rel => exact ⟨i + 1, _, hlt, by go_num, rfl, (HK.out.trans j1).trans j2, by simp only [ByteArray.size_append]; (try simp only [size2, size1]); omega, by show _ = _; rw [HT.out, HP.out, HNT.out.2.1]; simp [HD.out.1, HD.out.2], HA2.out⟩
            case measure => simp [intOf]; omega
          · go_wp2_with (first
              | (go_at_call 43; refine (HC1.out _).mono ?_; rintro e u1 ⟨rfl, j1⟩; obtain ⟨c0, c1, c2⟩ := HL.out u1 j1)
              | (go_at_call 44; refine (HC2.out _).mono ?_; rintro e w' ⟨rfl, rfl⟩)
              | (go_at_call 25; first
                | ((with_reducible refine (HI1.out _).mono ?_); rintro e u2 ⟨rfl, j2⟩; obtain ⟨c0, c1, c2⟩ := HL.out u2 (Kept.trans (by assumption) j2))
                | ((with_reducible refine (HI2.out _).mono ?_); rintro e u3 ⟨rfl, j3⟩)))
            go_roundw
            case rel => exact ⟨i + 1, _, hlt, by go_num, rfl, ((HK.out.trans j1).trans j2).trans j3, by simp only [ByteArray.size_append]; (try simp only [size2, size1]); omega, by show _ = _; rw [HT.out, HP.out, HNT.out.2.2]; simp [HD.out.1, HD.out.2], HA2.out⟩
            case measure => simp [intOf]; omega
      · have hkn2 : knownB o.k = false := by simpa using hkn
        have HE := Lib.hid (hE.out.trans (text_none HO.out hkn2))
        have h17 := not_known hkn2
        clear hkn hkn2
        obtain ⟨k, a, b2⟩ := o
        simp only at *
        rcases h17 with h | h
        · go_wp2_with fail
          go_ret
          exact ⟨ret_str HE.out.symm, HK.out⟩
        · have h2 : ¬ k < 1 := by omega
          go_wp2_with fail
          go_ret
          exact ⟨ret_str HE.out.symm, HK.out⟩
    · obtain rfl : i = N := by omega
      have HE := Lib.hid (show E.data.toList = S.data.toList by
        have e : L.take i = L := List.take_of_length_le (Nat.le_of_eq HN.out)
        rw [hE.out, hSl.out, e]
        have := hA.out
        rw [e] at this
        unfold textT; rw [if_pos this])
      go_wp2_with fail
      go_ret
      exact ⟨ret_str HE.out.symm, hk⟩

end Go.Proofs.YtcoagmkncjonmaaGreatDoor.Pg
