/- Contracts of the document's own answers for package timeout: what is read, and what is told. -/
import Derived.Test.YtnloliedmdjakaaTm
namespace Go.Proofs.Ytnloliedmdjakaa.Tm
open Go.RowKit St

theorem take_getD (l : List UInt8) {m k : Nat} (h : k < m) : (l.take m).getD k 0 = l.getD k 0 := by
  simp [List.getD_eq_getElem?_getD, h]

set_option maxHeartbeats 1000000 in
theorem rdec_any (s : ByteArray) (w : World) :
    Calls Try.prog 25 #[.string s] w fun e w' => e = .returned (.tuple #[.int .i64 (dec s.data.toList).1, .int .i64 (dec s.data.toList).2]) ∧ w = w' := by
  have HL := Lib.hid (size_list s)
  by_cases hsz : s.size < 2 ∨ 9 < s.size
  · have HD := Lib.hid (dec_short (by rw [← HL.out]; exact hsz))
    rcases hsz with h | h
    all_goals (
      go_enter Try.func25, Try.ntmps25
      go_wp2
      go_ret2
      exact ⟨ret_dec HD.out, rfl⟩)
  · obtain ⟨m, hm⟩ : ∃ m, s.size = m + 1 := ⟨s.size - 1, by omega⟩
    have h1 : 1 ≤ m := by omega
    have h8 : m ≤ 8 := by omega
    have HM := Lib.hid (show s.data.toList.length = m + 1 by rw [← HL.out]; exact hm)
    obtain ⟨c, hidx, hc0, hc1, hc⟩ := byteAt s m (by omega)
    have HT := Lib.hid (show (s.data.toList.take m).length = m by rw [List.length_take, HM.out]; omega)
    clear hsz
    go_enter Try.func25, Try.ntmps25
    go_wp2
    go_loop [5, 6] (fun x i => ∃ k n : Nat, k ≤ m ∧ n < 10 ^ k ∧ RowKit.Hid (rd ((s.data.toList.take m).drop k) n = rd (s.data.toList.take m) 0) ∧ i = .int .i64 (k : Int) ∧ ∃ a : Int, RowKit.Hid (a = (n : Int)) ∧ x = .int .i64 a) (fun _ i => m - (intOf i).toNat)
    case atStart => exact ⟨0, 0, Nat.zero_le _, by simp, rfl, rfl, 0, rfl, rfl⟩
    case round =>
      obtain ⟨k, n, hk, hn, he, rfl, a, ha, rfl⟩ := hrel
      rcases Nat.lt_or_ge k m with hlt | hge
      · obtain ⟨d, hidx2, hd0, hd1, hd⟩ := byteAt s k (by omega)
        have hd2 : d = (((s.data.toList.take m).getD k 0).toNat : Int) := by rw [take_getD _ hlt]; exact hd.out
        have HD2 := Lib.hid hd2
        by_cases hdg : 48 ≤ d ∧ d ≤ 57
        · have hs := step_lt (d := (d - 48).toNat) hn (by omega) (by omega)
          have HS := Lib.hid hs
          have ha0 : 0 ≤ a := by have := ha.out; omega
          have ha1 : a * 10 + (d - 48) ≤ 99999999 := by have := ha.out; omega
          have hb : ¬ (((s.data.toList.take m).getD k 0).toNat < 48 ∨ 57 < ((s.data.toList.take m).getD k 0).toNat) := by omega
          have HR := Lib.hid (rd_drop_digit (n := n) (by rw [HT.out]; exact hlt) hb)
          have hg1 := hdg.1
          have hg2 := hdg.2
          clear hs hb hn hdg hd2
          go_wp2
          go_round
          case rel => exact ⟨k + 1, n * 10 + (d - 48).toNat, by omega, HS.out.1, by have h1 := HR.out; have h2 := HD2.out; rw [show ((s.data.toList.take m).getD k 0).toNat - 48 = (d - 48).toNat by omega] at h1; rw [← h1]; exact he, by go_num, a * 10 + (d - 48), Lib.hid (by have := ha.out; omega), by go_num⟩
          case measure => simp [intOf]; omega
        · have hb : ((s.data.toList.take m).getD k 0).toNat < 48 ∨ 57 < ((s.data.toList.take m).getD k 0).toNat := by omega
          have HR := Lib.hid (dec_bad HM.out h1 h8 (by rw [← he.out]; exact rd_drop_bad (n := n) (by rw [HT.out]; exact hlt) hb))
          clear hb hn hd2
          rcases Int.lt_or_le d 48 with hg1 | hg1
          · go_wp2
            go_ret2
            exact ⟨ret_dec HR.out, rfl⟩
          · have hg2 : 57 < d := by omega
            go_wp2
            go_ret2
            exact ⟨ret_dec HR.out, rfl⟩
      · have hkm : k = m := by omega
        subst hkm
        have hr : rd (s.data.toList.take k) 0 = some n := by rw [← he.out, List.drop_eq_nil_of_le (by rw [HT.out]; omega)]; rfl
        have hn8 := rd_8 hr (by rw [HT.out]; exact h8)
        have ha0 : 0 ≤ a := by have := ha.out; omega
        have ha1 : a ≤ 99999999 := by have := ha.out; omega
        clear hn hn8
        by_cases hn' : c = 110
        · have HD := Lib.hid (dec_n HM.out h1 h8 hr (by have := hc.out; omega))
          have hb : (c == 110) = true := by simpa using hn'
          clear hr hn'
          go_wp2
          go_ret2
          exact ⟨ret_dec (by rw [HD.out, ha.out]), rfl⟩
        · have hcn : (s.data.toList.getD k 0).toNat ≠ 110 := by have := hc.out; omega
          have hb : (c == 110) = false := by simpa using hn'
          by_cases hu : unit c = 0
          · have HD := Lib.hid (dec_no HM.out h1 h8 hr hcn (by rw [← hc.out]; exact hu))
            have hz : (unit c == 0) = true := by simpa using hu
            clear hr hn' hcn hu
            go_wp2_with (go_at_call 31; refine (runit_any _ _).mono ?_; rintro e w' ⟨rfl, rfl⟩)
            go_ret2
            exact ⟨ret_dec HD.out, rfl⟩
          · have HD := Lib.hid (dec_yes HM.out h1 h8 hr hcn (by rw [← hc.out]; exact hu))
            have hz : (unit c == 0) = false := by simpa using hu
            clear hr hn' hcn hu
            go_wp2_with (first | (go_at_call 31; refine (runit_any _ _).mono ?_; rintro e w' ⟨rfl, rfl⟩) | (go_at_call 32; refine (Tk.rmul_any _ _ _).mono ?_; rintro e w' ⟨rfl, rfl⟩))
            go_ret2
            exact ⟨ret_dec (by rw [HD.out, ← hc.out, ← ha.out]), rfl⟩

end Go.Proofs.Ytnloliedmdjakaa.Tm
