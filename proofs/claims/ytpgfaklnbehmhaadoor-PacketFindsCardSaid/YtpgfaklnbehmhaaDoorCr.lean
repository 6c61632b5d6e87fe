/- Contracts of package crc and of the document's own sums: a half byte, a byte, bytes. -/
import Derived.Test.YtpgfaklnbehmhaaDoorCrMath
import Derived.Test.YtpgfaklnbehmhaaDoorSt
namespace Go.Proofs.YtpgfaklnbehmhaaDoor.Cr
open Go.RowKit St Go.Sort CrM
set_option linter.unusedVariables false

def tabI : List Int := [0, 4129, 8258, 12387, 16516, 20645, 24774, 28903, 33032, 37161, 41290, 45419, 49548, 53677, 57806, 61935]
/-- the sums of half a byte stand where the program lays them -/
def Tab (w : World) : Prop := Lib.TabIs Tryd.prog w "hourglass/crc.halfSums" .u16 tabI
theorem tabG : Tryd.prog.globalNamed "hourglass/crc.halfSums" = some 0 := by kernel_rfl
theorem Tab.kept {a b : World} (h : Tab a) (k : Kept a b) : Tab b := k.tab tabG h

theorem nib_eq (c : V) (h : Nat) (hh : h < 256) : ∃ k : Nat, k < 16 ∧ bits .xor .u16 ((c.toNat : Int) / 4096) ((h : Int) % 16) = (k : Int) ∧ k = (c.toNat / 4096) ^^^ (h % 16) := by
  have hc := c.isLt
  have hx : (c.toNat / 4096) ^^^ (h % 16) < 2 ^ 4 := Nat.xor_lt_two_pow (by omega) (by omega)
  refine ⟨_, hx, ?_, rfl⟩
  have := u16_xor_nat (c.toNat / 4096) (h % 16) (by omega) (by omega)
  rw [← this]; rfl
theorem tab_at (k : Nat) (h : k < 16) : ∃ t : Nat, t < 65536 ∧ tabI.getD k 0 = (t : Int) ∧ t = tab.getD k 0 := by
  have all : ∀ k : Fin 16, tab.getD k.val 0 < 65536 ∧ tabI.getD k.val 0 = ((tab.getD k.val 0 : Nat) : Int) := by decide +kernel
  exact ⟨_, (all ⟨k, h⟩).1, (all ⟨k, h⟩).2, rfl⟩

set_option maxHeartbeats 400000 in
theorem half_any (c : V) (h : Nat) (hh : h < 256) (w : World) (ht : Tab w) :
    Calls Tryd.prog 73 #[.int .u16 (c.toNat : Int), .int .u8 (h : Int)] w fun e w' => e = .returned (.int .u16 ((half c h).toNat : Int)) ∧ w = w' := by
  have hc := c.isLt
  obtain ⟨k, hk, hx, hke⟩ := nib_eq c h hh
  obtain ⟨t, htl, hte, htt⟩ := tab_at k hk
  have hcell := ht.cell tabG k hk
  rw [hte] at hcell
  have hr : bits .xor .u16 (IntKind.u16.wrap ((c.toNat : Int) * 16)) (t : Int) = ((half c h).toNat : Int) := by
    rw [half_eq, ← hke, ← htt, IntKind.wrap_u16]
    have := u16_xor_nat (c.toNat * 16 % 65536) t (by omega) htl
    rw [← this]; rfl
  have HR := Lib.hid hr
  clear hr hte htt hke ht
  go_enter Tryd.func73, Tryd.ntmps73
  go_wp2_with fail
  go_ret
  exact ⟨ret_int HR.out, rfl⟩

/-- bytes behind, of which k are done -/
theorem cr_take (c : V) (l : List UInt8) (k : Nat) (h : k < l.length) : cr c (l.take (k + 1)) = byte (cr c (l.take k)) (l.getD k 0).toNat := by
  rw [List.take_succ_eq_append_getElem h, cr_append, cr_cons, cr_nil, List.getD_eq_getElem?_getD, List.getElem?_eq_getElem h]; rfl
theorem byteNat (s : ByteArray) (i : Nat) (h : i < s.size) :
    ∃ b : Nat, b < 256 ∧ (∀ w, (Instr.index 9 (.string s) (.int .i64 (i : Int))).run Tryd.prog w = .ok (.int .u8 (b : Int)) w) ∧ Hid (b = (s.data.toList.getD i 0).toNat) :=
  ⟨_, (s.data.toList.getD i 0).toNat_lt, fun w => by
    rw [run_index_string w 9 s .i64 i Tryd.underlying9, dif_pos ⟨by omega, by omega⟩]
    have e := get_byte s i h
    simp only [Int.toNat_natCast]
    rw [e], rfl⟩

set_option maxHeartbeats 400000 in
theorem more_any (c : V) (s : ByteArray) (hs : s.size ≤ maxLen) (w : World) (ht : Tab w) :
    Calls Tryd.prog 63 #[.int .u16 (c.toNat : Int), .string s] w fun e w' => e = .returned (.int .u16 ((cr c s.data.toList).toNat : Int)) ∧ w = w' := by
  unfold maxLen at hs
  have hl := size_list s
  have HL := Lib.hid hl
  clear hl
  go_enter Tryd.func63, Tryd.ntmps63
  go_wp2_with fail
  go_loop [0, 8] (fun x i => ∃ k : Nat, k ≤ s.size ∧ i = .int .i64 (k : Int) ∧ x = .int .u16 ((cr c (s.data.toList.take k)).toNat : Int)) (fun _ i => s.size - (intOf i).toNat)
  case atStart => exact ⟨0, Nat.zero_le _, rfl, rfl⟩
  case round =>
    obtain ⟨k, hk, rfl, rfl⟩ := hrel
    obtain ⟨d, hd⟩ : ∃ d, cr c (s.data.toList.take k) = d := ⟨_, rfl⟩
    rw [hd]
    by_cases hlt : k < s.size
    · obtain ⟨b, hb, hidx, hB⟩ := byteNat s k hlt
      have hn : Hid (cr c (s.data.toList.take (k + 1)) = half (half d (b / 16)) b) := by
        show _ = _
        rw [cr_take c _ k (by rw [← HL.out]; exact hlt), hd, hB.out]; rfl
      clear hd
      have h1 := half_any d (b / 16) (by omega) w ht
      have h2 := half_any (half d (b / 16)) b hb w ht
      have e16 : ((b / 16 : Nat) : Int) = (b : Int) / 16 := rfl
      rw [e16] at h1
      have H1 := Lib.hid h1
      have H2 := Lib.hid h2
      clear h1 h2 e16
      go_wp2_with (first | (go_at_call 73; ((with_reducible refine H1.out.mono ?_)); rintro e w' ⟨rfl, rfl⟩) | (go_at_call 73; ((with_reducible refine H2.out.mono ?_)); rintro e w' ⟨rfl, rfl⟩))
      go_round
      case rel => exact ⟨k + 1, by omega, by go_num, by rw [hn.out]⟩
      case measure => simp [intOf]; omega
    · have hD := Lib.hid hd
      clear hd
      go_wp2_with fail
      go_ret
      exact ⟨ret_int (by rw [← hD.out, List.take_of_length_le (by rw [← HL.out]; omega)]), rfl⟩

theorem sum_any (s : ByteArray) (hs : s.size ≤ maxLen) (w : World) (ht : Tab w) :
    Calls Tryd.prog 45 #[.string s] w fun e w' => e = .returned (.int .u16 ((cr 0xFFFF#16 s.data.toList).toNat : Int)) ∧ w = w' := by
  have h := more_any 0xFFFF#16 s hs w ht
  have H := Lib.hid (show Calls Tryd.prog 63 #[.int .u16 65535, .string s] w _ from h)
  clear h
  go_enter Tryd.func45, Tryd.ntmps45
  go_wp2_with (go_at_call 63; refine H.out.mono ?_; rintro e w' ⟨rfl, rfl⟩)
  go_ret
  exact ⟨rfl, rfl⟩

end Go.Proofs.YtpgfaklnbehmhaaDoor.Cr
