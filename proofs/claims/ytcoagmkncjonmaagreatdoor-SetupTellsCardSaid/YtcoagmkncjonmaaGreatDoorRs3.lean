/- The document's configurations as text. -/
import Derived.Test.YtcoagmkncjonmaaGreatDoorRs1
import Derived.Test.YtcoagmkncjonmaaGreatDoorSu4
import Derived.Test.YtcoagmkncjonmaaGreatDoorDg
import Derived.Test.YtcoagmkncjonmaaGreatDoorPg6
import Derived.BigQuiet
import Derived.Lib.QuietBelow
namespace Go.Proofs.YtcoagmkncjonmaaGreatDoor.Su
open Go.RowKit Go.Sort St Blk It
open Ad (Cf info_cf load_l load_w)
open Pg (Ops Progs textT)
open Go.Proofs.YtcoagmkncjonmaaGreatDoor.Id (quiet_at)
open Wh (Fr)
set_option linter.unusedVariables false
set_option linter.unusedSimpArgs false

theorem word_len {k : Nat} (hk : k < 13) : (wordB k).size ≤ 10 := by
  rcases k_cases hk with rfl | rfl | rfl | rfl | rfl | rfl | rfl | rfl | rfl | rfl | rfl | rfl | rfl <;> decide

set_option maxRecDepth 100000 in
set_option maxHeartbeats 4000000 in
theorem rtext_any {w : World} {c : Cf} {M : List (List Pg.Op)} (hv : Progs w (.slice c.pa c.pn c.pc) M) (hl : M.length ≤ 1000) (hL : ∀ L ∈ M, L.length ≤ 1000) (hf : ∀ L ∈ M, ∀ o ∈ L, o.Fit) (hn : ∀ n ∈ numsL c, Ad.Wd n) (E : ByteArray) (hE : Hid (E.data.toList = cfgT (numsL c) M)) :
    Calls Tryz.prog 10 #[.agg c.arr] w fun e w' => e = .returned (.string E) ∧ Kept w w' := by
  obtain ⟨W, hW⟩ : ∃ W, w.alloc (.cells c.arr 24) = W := ⟨_, rfl⟩
  have hkW : Kept w W := by rw [← hW]; exact Kept.one _ _
  have hbW : W.heap[w.heap.size]? = some (.cells c.arr 24 (0, 0)) := by rw [← hW]; exact blk_new _ _
  obtain ⟨total, hT⟩ : ∃ t, cfgT (numsL c) M = t := ⟨_, rfl⟩
  have HLN := Lib.hid (show total.length ≤ 1099511627776 by
    rw [← hT]; unfold cfgT; rw [List.length_append]
    have h1 := sets_len hn (nums_len c) 13 (by omega)
    have h2 := progs_len hL hf
    simp only [Nat.sub_self] at h1
    have h3 : 60000 * M.length ≤ 60000 * 1000 := Nat.mul_le_mul_left _ hl
    omega)
  have HE := Lib.hid (hE.out.trans hT)
  have HC := Lib.hid (all_any c W)
  have HW := Lib.hid hW
  have HT := Lib.hid (show setsT (numsL c) 0 ++ progsT M = total from hT)
  have HK := Lib.hid (And.intro hkW hbW)
  have HV := Lib.hid (And.intro hv (And.intro hl (And.intro hL (And.intro hf hn))))
  obtain ⟨q, N, cap, hq, hN, hm⟩ := hv.slice
  have HQ := Lib.hid (And.intro hq hN)
  obtain ⟨A, hA⟩ : ∃ A, c.arr = A := ⟨_, rfl⟩
  have sA : A.size = 14 := by rw [← hA]; rfl
  have HA := Lib.hid hA
  have lA : (loadVar 24 ⟨w.heap.size, 0, none⟩).run Tryz.prog W = .ok (.agg A) W := load_cfa (by rw [← hA]; exact hbW) sA
  rw [hA] at HC HW ⊢
  clear hv hl hL hf hn hE hW hkW hbW hT hq hN hm hA
  go_enter Tryz.func10, Tryz.ntmps10
  go_upto_region 1 with fail
  rw [HW.out]
  go_wp2_with (first
    | (refine load_l 24 (.tmp 1) rfl _ rfl rfl (.agg A) lA ?_)
    | (go_at_call 8; refine HC.out.mono ?_; rintro e w1 ⟨g, rfl, hg, hb, hk⟩; have H1 := Lib.hid (And.intro hb hk); clear hg hb hk))
  go_loopw [3, 5] (fun s x wr => ∃ (i : Nat) (S : ByteArray), i ≤ 13 ∧ x = .int .i64 (i : Int) ∧ s = .string S ∧ Hid (S.data.toList ++ (setsT (numsL c) i ++ progsT M) = total) ∧ Kept w1 wr) (fun _ x _ => 13 - (intOf x).toNat)
  case atStart => exact ⟨0, ⟨#[]⟩, by omega, rfl, rfl, HT.out, Kept.refl _⟩
  case round =>
    obtain ⟨i, S, hi, rfl, rfl, hS, hk⟩ := hrel
    by_cases hlt : i < 13
    · have hx0 : (i : Int) < 13 := by omega
      obtain ⟨W1, hW1⟩ : ∃ W1, wordB i = W1 := ⟨_, rfl⟩
      have hWs : W1.size ≤ 10 := by rw [← hW1]; exact word_len hlt
      obtain ⟨n, hn⟩ : ∃ n, (numsL c).getD i 0 = n := ⟨_, rfl⟩
      have hwd := HV.out.2.2.2.2 n (by rw [← hn]; exact mem_getD (by rw [nums_len]; exact hlt))
      have hbg := kept_at hk H1.out.1
      have hat := ints_at (l := numsL c) (k := i) (by rw [nums_len]; exact hlt)
      rw [hn] at hat
      have p1 : wr.cell? ⟨g, i, none⟩ = some (.int .i64 n) := by rw [blk_cell hbg]; exact hat
      obtain ⟨I, hI⟩ : ∃ I : ByteArray, Hid (I.data.toList = Lib.itoa n) := ⟨⟨(Lib.itoa n).toArray⟩, rfl⟩
      have hIs : I.size ≤ 21 := by rw [size_list, hI.out]; exact Lib.itoa_length_le n hwd.1 hwd.2
      have Q1 := quiet_at (Kept.refl wr) (fun x hx => word_any hlt x)
      rw [hW1] at Q1
      have Q2 := quiet_at (Kept.refl wr) (fun x hx => Dg.digits_int n hwd.1 hwd.2 I hI x)
      have z1 := cell_regrown p1
      have hSs : S.size ≤ 1099511627776 := by
        have h1 := HLN.out
        rw [← hS.out, List.length_append, ← size_list] at h1
        omega
      have n1 : ¬ 9223372036854775807 < S.size + W1.size := by omega
      have n2 : ¬ 9223372036854775807 < S.size + W1.size + 1 := by omega
      have n3 : ¬ 9223372036854775807 < S.size + W1.size + 1 + I.size := by omega
      have n4 : ¬ 9223372036854775807 < S.size + W1.size + 1 + I.size + 1 := by omega
      have HX := Lib.hid (show (S ++ W1 ++ ⟨#[32]⟩ ++ I ++ ⟨#[10]⟩ : ByteArray).data.toList ++ (setsT (numsL c) (i + 1) ++ progsT M) = total by
        rw [← hS.out, sets_step _ hlt, hn]
        have h1 : W1.data.toList = wordL i := by rw [← hW1]; rfl
        simp [hI.out, h1, lineT])
      have hj0 : (0 : Int) ≤ (i : Int) := by omega
      clear hS hWs hn hwd hbg hat hI hIs hSs hW1
      go_wp2_with fail
      refine wp_region_quiet_below (by kernel_rfl) (by kernel_rfl) ?_
      repeat (go_big_quiet_step (first | (with_reducible exact Q1.out _) | (with_reducible exact Q2.out _)))
      refine wpQuiet_nil ?_
      intro _ hw'
      obtain ⟨⟨dq, osq⟩, hw''⟩ := hw'
      subst hw''
      have hkf := hk.trans (below_regrown wr dq osq)
      clear z1
      go_wp2_with fail
      go_roundw
      case rel => exact ⟨i + 1, _, by omega, by go_num, rfl, HX.out, hkf⟩
      case measure => simp [intOf]; omega
    · obtain rfl : i = 13 := by omega
      rw [show ((13 : Nat) : Int) = 13 from rfl]
      have HS := Lib.hid (show S.data.toList ++ progsT M = total by have h := hS.out; rw [sets_end] at h; exact h)
      have HKR := Lib.hid (H1.out.2.trans hk)
      have hkw := HK.out.1.trans HKR.out
      have hb13 := kept_at HKR.out HK.out.2
      have c13 : wr.cell? ⟨w.heap.size, 13, none⟩ = some (.slice q N cap) := by rw [blk_cell hb13, ← HQ.out.1]; rfl
      have hNlt : N ≤ 1000 := by rw [← HQ.out.2]; exact HV.out.2.1
      have HKW := Lib.hid hkw
      clear hS hk hb13 hkw
      go_wp2_with fail
      go_loopw [3, 6] (fun s x wr => ∃ (j : Nat) (S : ByteArray), j ≤ N ∧ x = .int .i64 (j : Int) ∧ s = .string S ∧ Hid (S.data.toList ++ progsT (M.drop j) = total) ∧ Kept W wr) (fun _ x _ => N - (intOf x).toNat)
      case atStart => exact ⟨0, S, Nat.zero_le _, rfl, rfl, HS.out, HKR.out⟩
      case round =>
        obtain ⟨j, S2, hj, rfl, rfl, hS, hk⟩ := hrel
        have hb13 := kept_at hk HK.out.2
        have c13 : wr.cell? ⟨w.heap.size, 13, none⟩ = some (.slice q N cap) := by rw [blk_cell hb13, ← HQ.out.1]; rfl
        by_cases hlt : j < N
        · have hkq := HK.out.1.trans hk
          have hvw := HV.out.1
          rw [HQ.out.1] at hvw
          obtain ⟨L, b, off, x, hL, rfl, d00, hx⟩ := hvw.pick (i := j) (by rw [HQ.out.2]; exact hlt)
          have d0 := (Below.cell hkq (p := ⟨b, off + j, none⟩) (World.block_lt_of_cell? w _ d00)).trans d00
          obtain ⟨T, hT⟩ : ∃ T : ByteArray, Hid (T.data.toList = textT L) := ⟨⟨(textT L).toArray⟩, rfl⟩
          have hmem := List.mem_of_getElem? hL
          have hps := progs_step hL
          have HTC := Lib.hid (Pg.rtext_any (hx.go hkq) (HV.out.2.2.1 L hmem) (HV.out.2.2.2.1 L hmem) T hT)
          obtain ⟨xp, xn, xc, rfl, _, _⟩ := hx.slice
          have hj0 : (0 : Int) ≤ (j : Int) := by omega
          have hjN : (j : Int) < (N : Int) := by omega
          have hR : S2.data.toList ++ (progW ++ (behind (textT L) ++ ([10] ++ progsT (M.drop (j + 1))))) = total := by
            have h := hS.out
            rw [hps] at h
            unfold progT at h
            simpa [List.append_assoc] using h
          have hlen := congrArg List.length hR
          have h7 : progW.length = 7 := rfl
          simp only [List.length_append, ← size_list, List.length_cons, List.length_nil] at hlen
          have hLN := HLN.out
          by_cases h0 : textT L = []
          · obtain rfl : T = ⟨#[]⟩ := by
              have h := hT.out
              rw [h0] at h
              exact same_bytes h
            have hbh : behind (textT L) = [] := by unfold behind; rw [if_pos h0]
            rw [hbh] at hR hlen
            have n1 : ¬ 9223372036854775807 < S2.size + 7 := by omega
            have n2 : ¬ 9223372036854775807 < S2.size + 7 + 1 := by omega
            have HX := Lib.hid (show (S2 ++ ⟨#[112, 114, 111, 103, 114, 97, 109]⟩ ++ ⟨#[10]⟩ : ByteArray).data.toList ++ progsT (M.drop (j + 1)) = total by
              rw [← hR]; simp [progW])
            clear hR hlen hLN h0 hbh hvw hkq d00 hL hx hT hmem hps hb13 hS
            go_wp2_with (go_at_call 26; refine HTC.out.mono ?_; rintro e w3 ⟨rfl, k3⟩)
            go_roundw
            case rel => exact ⟨j + 1, _, hlt, by go_num, rfl, HX.out, hk.trans k3⟩
            case measure => simp [intOf]; omega
          · have hne : T.toList.isEmpty = false := by rw [ByteArray.toList_eq, hT.out]; exact List.isEmpty_eq_false_iff.2 h0
            have hbh : behind (textT L) = 32 :: textT L := by unfold behind; rw [if_neg h0]
            have hTs : T.size = (textT L).length := by rw [size_list, hT.out]
            rw [hbh] at hR hlen
            simp only [List.length_cons] at hlen
            have n1 : ¬ 9223372036854775807 < S2.size + 7 := by omega
            have n2 : ¬ 9223372036854775807 < S2.size + 7 + 1 := by omega
            have n3 : ¬ 9223372036854775807 < S2.size + 7 + 1 + T.size := by omega
            have n4 : ¬ 9223372036854775807 < S2.size + 7 + 1 + T.size + 1 := by omega
            have HX := Lib.hid (show (S2 ++ ⟨#[112, 114, 111, 103, 114, 97, 109]⟩ ++ ⟨#[32]⟩ ++ T ++ ⟨#[10]⟩ : ByteArray).data.toList ++ progsT (M.drop (j + 1)) = total by
              rw [← hR]; simp [progW, hT.out])
            clear hR hlen hLN h0 hbh hTs hvw hkq d00 hL hx hT hmem hps hb13 hS
            go_wp2_with (go_at_call 26; refine HTC.out.mono ?_; rintro e w3 ⟨rfl, k3⟩)
            go_roundw
            case rel => exact ⟨j + 1, _, hlt, by go_num, rfl, HX.out, hk.trans k3⟩
            case measure => simp [intOf]; omega
        · obtain rfl : j = N := by omega
          have hfin : E = S2 := by
            refine same_bytes (HE.out.trans ?_)
            have h := hS.out
            rw [List.drop_of_length_le (by rw [HQ.out.2]; exact Nat.le_refl _)] at h
            rw [← h]; simp [progsT]
          subst hfin
          have HKF := Lib.hid (HK.out.1.trans hk)
          clear hS hk hb13
          go_wp2_with fail
          go_ret
          exact ⟨rfl, HKF.out⟩

end Go.Proofs.YtcoagmkncjonmaaGreatDoor.Su
