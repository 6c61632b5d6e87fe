/- Contracts of the document's own sums, bit by bit. -/
import Derived.Test.YtpgfaklnbehmhaaDoorCr
namespace Go.Proofs.YtpgfaklnbehmhaaDoor.Cr
open Go.RowKit St Go.Sort CrM
set_option linter.unusedVariables false

/-- so many bits of a byte behind, the higher ones first -/
def steps : Nat → V → Nat → V
  | 0, c, _ => c
  | n + 1, c, b => b1 (steps n c b) (b.testBit (7 - n))
theorem steps_all (c : V) (b : Nat) : steps 8 c b = byte c b := by
  have t : ∀ j, (b / 16).testBit j = b.testBit (j + 4) := fun j => by
    rw [show (16 : Nat) = 2 ^ 4 from rfl, Nat.testBit_div_two_pow, Nat.add_comm]
  simp only [steps, byte, half, t]

theorem bitAt (b K : Nat) : ((b : Int) / 2 ^ K).tmod 2 = ((b / 2 ^ K % 2 : Nat) : Int) := by
  have e : (b : Int) / 2 ^ K = ((b / 2 ^ K : Nat) : Int) := by rw [Int.natCast_ediv]; simp
  rw [e, Int.tmod_eq_emod_of_nonneg (Int.natCast_nonneg _)]; rfl
theorem same_bit (f : V) (b K : Nat) : (decide (f.toNat / 32768 = 1) = b.testBit K) ↔ ((f.toNat : Int) / 32768 != ((b : Int) / 2 ^ K).tmod 2) = false := by
  have hf := f.isLt
  rw [bitAt, Nat.testBit_eq_decide_div_mod_eq]
  have h2 : b / 2 ^ K % 2 < 2 := Nat.mod_lt _ (by omega)
  generalize b / 2 ^ K % 2 = x at h2
  have hx : x = 0 ∨ x = 1 := by omega
  have hy : f.toNat / 32768 = 0 ∨ f.toNat / 32768 = 1 := by omega
  have e : (f.toNat : Int) / 32768 = ((f.toNat / 32768 : Nat) : Int) := rfl
  rw [e]
  rcases hx with rfl | rfl <;> rcases hy with h | h <;> rw [h] <;> decide
theorem b1_flip (f : V) (b K : Nat) (h : ((f.toNat : Int) / 32768 != ((b : Int) / 2 ^ K).tmod 2) = true) :
    bits .xor .u16 (IntKind.u16.wrap ((f.toNat : Int) * 2)) 4129 = ((b1 f (b.testBit K)).toNat : Int) := by
  have hn : ¬ (decide (f.toNat / 32768 = 1) = b.testBit K) := fun hh => by rw [same_bit] at hh; rw [hh] at h; cases h
  rw [b1_eq, if_neg hn, IntKind.wrap_u16]
  exact u16_xor_nat (f.toNat * 2 % 65536) 4129 (by omega) (by omega)
theorem b1_keep (f : V) (b K : Nat) (h : ((f.toNat : Int) / 32768 != ((b : Int) / 2 ^ K).tmod 2) = false) :
    IntKind.u16.wrap ((f.toNat : Int) * 2) = ((b1 f (b.testBit K)).toNat : Int) := by
  rw [b1_eq, if_pos ((same_bit f b K).mpr h), IntKind.wrap_u16]; rfl

set_option maxHeartbeats 400000 in
theorem rmore_any (c : V) (s : ByteArray) (hs : s.size ≤ maxLen) (w : World) :
    Calls Tryd.prog 56 #[.int .u16 (c.toNat : Int), .string s] w fun e w' => e = .returned (.int .u16 ((cr c s.data.toList).toNat : Int)) ∧ w = w' := by
  unfold maxLen at hs
  have hl := size_list s
  have HL := Lib.hid hl
  clear hl
  go_enter Tryd.func56, Tryd.ntmps56
  go_wp2_with fail
  go_loop [0, 5, 6, 7, 8] (fun x i _ _ _ => ∃ k : Nat, k ≤ s.size ∧ i = .int .i64 (k : Int) ∧ x = .int .u16 ((cr c (s.data.toList.take k)).toNat : Int)) (fun _ i _ _ _ => s.size - (intOf i).toNat)
  case atStart => exact ⟨0, Nat.zero_le _, rfl, rfl⟩
  case round =>
    obtain ⟨k, hk, rfl, rfl⟩ := hrel
    obtain ⟨d, hd⟩ : ∃ d, cr c (s.data.toList.take k) = d := ⟨_, rfl⟩
    rw [hd]
    by_cases hlt : k < s.size
    · obtain ⟨b, hb, hidx, hB⟩ := byteNat s k hlt
      have hn : Hid (cr c (s.data.toList.take (k + 1)) = steps 8 d b) := by
        show _ = _
        rw [steps_all, cr_take c _ k (by rw [← HL.out]; exact hlt), hd, hB.out]
      clear hd
      go_wp2_with fail
      go_loop [0, 6, 7, 8] (fun x i _ _ => ∃ m : Nat, m ≤ 8 ∧ i = .int .i64 ((m : Int) - 1) ∧ x = .int .u16 ((steps (8 - m) d b).toNat : Int)) (fun _ i _ _ => (intOf i + 1).toNat)
      case atStart => exact ⟨8, by omega, rfl, rfl⟩
      case round =>
        obtain ⟨m, hm, rfl, rfl⟩ := hrel
        obtain ⟨f, hf⟩ : ∃ f, steps (8 - m) d b = f := ⟨_, rfl⟩
        rw [hf]
        rcases Nat.eq_zero_or_pos m with rfl | hp
        · have HF := Lib.hid hf
          clear hf
          go_wp2_with fail
          go_round
          case rel => exact ⟨k + 1, by omega, by go_num, by rw [hn.out, ← HF.out]⟩
          case measure => simp [intOf]; omega
        · obtain ⟨K, rfl⟩ : ∃ K, m = K + 1 := ⟨m - 1, by omega⟩
          have e : ((K + 1 : Nat) : Int) - 1 = (K : Int) := by omega
          rw [e]
          have HE := Lib.hid e
          have HF := Lib.hid hf
          clear hf e
          have hf2 := f.isLt
          have hst : Hid (steps (8 - K) d b = b1 f (b.testBit K)) := by
            show _ = _
            rw [show 8 - K = (8 - (K + 1)) + 1 by omega]
            show b1 (steps (8 - (K + 1)) d b) (b.testBit (7 - (8 - (K + 1)))) = _
            rw [HF.out, show 7 - (8 - (K + 1)) = K by omega]
          go_wp2_with fail
          · have ht : ((f.toNat : Int) / 32768 != ((b : Int) / 2 ^ K).tmod 2) = true := by assumption
            have hv := Lib.hid (b1_flip f b K ht)
            go_round
            case rel => exact ⟨K, by omega, rfl, by rw [hv.out, hst.out]⟩
            case measure => simp [intOf] <;> omega
          · have ht : ((f.toNat : Int) / 32768 != ((b : Int) / 2 ^ K).tmod 2) = false := by assumption
            have hv := Lib.hid (b1_keep f b K ht)
            go_round
            case rel => exact ⟨K, by omega, rfl, by rw [hv.out, hst.out]⟩
            case measure => simp [intOf] <;> omega
    · have hD := Lib.hid hd
      clear hd
      go_wp2_with fail
      go_ret
      exact ⟨ret_int (by rw [← hD.out, List.take_of_length_le (by rw [← HL.out]; omega)]), rfl⟩

theorem rsum_any (s : ByteArray) (hs : s.size ≤ maxLen) (w : World) :
    Calls Tryd.prog 36 #[.string s] w fun e w' => e = .returned (.int .u16 ((cr 0xFFFF#16 s.data.toList).toNat : Int)) ∧ w = w' := by
  have h := rmore_any 0xFFFF#16 s hs w
  have H := Lib.hid (show Calls Tryd.prog 56 #[.int .u16 65535, .string s] w _ from h)
  clear h
  go_enter Tryd.func36, Tryd.ntmps36
  go_wp2_with (go_at_call 56; refine H.out.mono ?_; rintro e w' ⟨rfl, rfl⟩)
  go_ret
  exact ⟨rfl, rfl⟩

end Go.Proofs.YtpgfaklnbehmhaaDoor.Cr
