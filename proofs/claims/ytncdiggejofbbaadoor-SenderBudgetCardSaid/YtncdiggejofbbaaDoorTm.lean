/- Contracts of package timeout, and of the document's own answers for it: what is read. Contracts of the document's own answers for package timeout: what is read, and what is told. Contracts of package budget, and of the document's own answers for it: deadlines and what is left to them. -/
import Derived.Test.YtncdiggejofbbaaDoorTmMath
import Derived.Test.YtncdiggejofbbaaDoorSt
import Derived.Test.YtncdiggejofbbaaDoorTk
import Derived.LoopTactic
import Derived.Test.YtncdiggejofbbaaDoorBuE
namespace Go.Proofs.YtncdiggejofbbaaDoor.Tm
open Go.RowKit St

set_option maxHeartbeats 400000 in
theorem unit_any (c : Int) (w : World) :
    Calls Tryd.prog 98 #[.int .u8 c] w fun e w' => e = .returned (.int .i64 (unit c)) ∧ w = w' := by
  go_enter Tryd.func98, Tryd.ntmps98
  go_wp2
  all_goals go_ret
  all_goals exact ⟨ret_int (by unfold unit; simp_all), rfl⟩

set_option maxHeartbeats 400000 in
theorem runit_any (c : Int) (w : World) :
    Calls Tryd.prog 69 #[.int .u8 c] w fun e w' => e = .returned (.int .i64 (unit c)) ∧ w = w' := by
  go_enter Tryd.func69, Tryd.ntmps69
  go_wp2
  all_goals go_ret
  all_goals exact ⟨ret_int (by unfold unit; simp_all), rfl⟩

/-- how reading of digits ends -/
def rdEnd : Option Nat → Value
  | none => .tuple #[.int .i64 0, .bool false]
  | some n => .tuple #[.int .i64 (n : Int), .bool true]

set_option maxHeartbeats 400000 in
theorem readNumber_any (s : ByteArray) (h8 : s.size ≤ 8) (w : World) :
    Calls Tryd.prog 97 #[.string s] w fun e w' => e = .returned (rdEnd (rd s.data.toList 0)) ∧ w = w' := by
  have hl := size_list s
  have HL := Lib.hid hl; clear hl
  go_enter Tryd.func97, Tryd.ntmps97
  go_wp2
  go_loop [4, 9] (fun x i => ∃ k n : Nat, k ≤ s.size ∧ n < 10 ^ k ∧ RowKit.Hid (rd (s.data.toList.drop k) n = rd s.data.toList 0) ∧ i = .int .i64 (k : Int) ∧ ∃ a : Int, RowKit.Hid (a = (n : Int)) ∧ x = .int .i64 a) (fun _ i => s.size - (intOf i).toNat)
  case atStart => exact ⟨0, 0, Nat.zero_le _, by simp, rfl, rfl, 0, rfl, rfl⟩
  case round =>
    obtain ⟨k, n, hk, hn, he, rfl, a, ha, rfl⟩ := hrel
    rcases Nat.lt_or_ge k s.size with hlt | hge
    · obtain ⟨c, hidx, hc0, hc1, hc⟩ := byteAt s k hlt
      by_cases hd : 48 ≤ c ∧ c ≤ 57
      · have hs := step_lt (d := (c - 48).toNat) hn (by omega) (by omega)
        have HS := Lib.hid hs
        have ha0 : 0 ≤ a := by have := ha.out; omega
        have ha1 : a * 10 + (c - 48) ≤ 99999999 := by have := ha.out; omega
        have hd1 := hd.1
        have hd2 := hd.2
        have hb : ¬ ((s.data.toList.getD k 0).toNat < 48 ∨ 57 < (s.data.toList.getD k 0).toNat) := by have := hc.out; omega
        have HR := Lib.hid (rd_drop_digit (n := n) (by rw [← HL.out]; exact hlt) hb)
        clear hs hb hn hd
        go_wp2
        go_round
        case rel => exact ⟨k + 1, n * 10 + (c - 48).toNat, by omega, HS.out.1, by have h1 := HR.out; have h2 := hc.out; rw [show (s.data.toList.getD k 0).toNat - 48 = (c - 48).toNat by omega] at h1; rw [← h1]; exact he, by go_num, a * 10 + (c - 48), Lib.hid (by have := ha.out; omega), by go_num⟩
        case measure => simp [intOf]; omega
      · have hb : (s.data.toList.getD k 0).toNat < 48 ∨ 57 < (s.data.toList.getD k 0).toNat := by have := hc.out; omega
        have HR := Lib.hid (rd_drop_bad (n := n) (by rw [← HL.out]; exact hlt) hb)
        clear hb hn
        rcases Int.lt_or_le c 48 with hd1 | hd1
        · go_wp2
          go_ret2
          exact ⟨by rw [← he.out, HR.out]; rfl, rfl⟩
        · have hd2 : 57 < c := by omega
          go_wp2
          go_ret2
          exact ⟨by rw [← he.out, HR.out]; rfl, rfl⟩
    · have hks : k = s.size := by omega
      subst hks
      have HR := Lib.hid (show rd (s.data.toList.drop s.size) n = some n by rw [HL.out, List.drop_length]; rfl)
      clear hn
      go_wp2
      go_ret2
      exact ⟨by rw [← he.out, HR.out, ha.out]; rfl, rfl⟩

/-- the two values of reading a text -/
theorem ret_dec {l : List UInt8} {a b : Int} (h : dec l = (a, b)) : Ending.returned (.tuple #[.int .i64 a, .int .i64 b]) = .returned (.tuple #[.int .i64 (dec l).1, .int .i64 (dec l).2]) := by rw [h]
theorem dec_short {l : List UInt8} (h : l.length < 2 ∨ 9 < l.length) : dec l = (0, 3) := by unfold dec; rw [if_pos h]
theorem dec_bad {l : List UInt8} {m : Nat} (h : l.length = m + 1) (h1 : 1 ≤ m) (h8 : m ≤ 8) (hr : rd (l.take m) 0 = none) : dec l = (0, 5) := by
  unfold dec; rw [if_neg (by omega), show l.length - 1 = m by omega, hr]
theorem dec_n {l : List UInt8} {m n : Nat} (h : l.length = m + 1) (h1 : 1 ≤ m) (h8 : m ≤ 8) (hr : rd (l.take m) 0 = some n) (hc : (l.getD m 0).toNat = 110) : dec l = ((n : Int) / 1000, 0) := by
  unfold dec; rw [if_neg (by omega), show l.length - 1 = m by omega, hr]; simp only [hc, if_true]
theorem dec_no {l : List UInt8} {m n : Nat} (h : l.length = m + 1) (h1 : 1 ≤ m) (h8 : m ≤ 8) (hr : rd (l.take m) 0 = some n) (hc : (l.getD m 0).toNat ≠ 110) (hu : unit (l.getD m 0).toNat = 0) : dec l = (0, 5) := by
  unfold dec; rw [if_neg (by omega), show l.length - 1 = m by omega, hr]; simp only [hc, hu, if_true, if_false]
theorem dec_yes {l : List UInt8} {m n : Nat} (h : l.length = m + 1) (h1 : 1 ≤ m) (h8 : m ≤ 8) (hr : rd (l.take m) 0 = some n) (hc : (l.getD m 0).toNat ≠ 110) (hu : unit (l.getD m 0).toNat ≠ 0) :
    dec l = (Tk.mul n (unit (l.getD m 0).toNat), 0) := by
  unfold dec; rw [if_neg (by omega), show l.length - 1 = m by omega, hr]; simp only [hc, hu, if_false]

set_option maxHeartbeats 1000000 in
theorem dec_any (s : ByteArray) (w : World) :
    Calls Tryd.prog 81 #[.string s] w fun e w' => e = .returned (.tuple #[.int .i64 (dec s.data.toList).1, .int .i64 (dec s.data.toList).2]) ∧ w = w' := by
  have HL := Lib.hid (size_list s)
  by_cases hsz : s.size < 2 ∨ 9 < s.size
  · have HD := Lib.hid (dec_short (by rw [← HL.out]; exact hsz))
    rcases hsz with h | h
    all_goals (
      go_enter Tryd.func81, Tryd.ntmps81
      go_wp2
      go_ret2
      exact ⟨ret_dec HD.out, rfl⟩)
  · obtain ⟨m, hm⟩ : ∃ m, s.size = m + 1 := ⟨s.size - 1, by omega⟩
    have h1 : 1 ≤ m := by omega
    have h8 : m ≤ 8 := by omega
    have HM := Lib.hid (show s.data.toList.length = m + 1 by rw [← HL.out]; exact hm)
    have hsl : ∀ w, (Instr.slice 9 (.string s) none (some (.int .i64 (m : Int))) none).run Tryd.prog w = .ok (.string (s.extract 0 m)) w := fun w => by
      rw [run_slice_string_h w 9 s Tryd.underlying9 .i64 (m : Int) (by omega) (by omega), Int.toNat_natCast]
    have hrn := fun w => readNumber_any (s.extract 0 m) (by rw [size_list, extract_list]; simp; omega) w
    rw [extract_list, List.drop_zero] at hrn
    obtain ⟨c, hidx, hc0, hc1, hc⟩ := byteAt s m (by omega)
    clear hsz
    cases hr : rd (s.data.toList.take m) 0 with
    | none =>
      rw [hr] at hrn
      have hrn2 : ∀ w, Calls Tryd.prog 97 #[.string (s.extract 0 m)] w fun e w' => e = .returned (.tuple #[.int .i64 0, .bool false]) ∧ w = w' := hrn
      have HD := Lib.hid (dec_bad HM.out h1 h8 hr)
      have HR := Lib.hid hrn2
      clear hrn hrn2 hr hidx
      go_enter Tryd.func81, Tryd.ntmps81
      go_wp2_with (go_at_call 97; refine (HR.out _).mono ?_; rintro e w' ⟨rfl, rfl⟩)
      go_ret2
      exact ⟨ret_dec HD.out, rfl⟩
    | some n =>
      rw [hr] at hrn
      have hn := rd_8 hr (by simp; omega)
      obtain ⟨a, ha⟩ : ∃ a : Int, a = (n : Int) := ⟨_, rfl⟩
      have hrn2 : ∀ w, Calls Tryd.prog 97 #[.string (s.extract 0 m)] w fun e w' => e = .returned (.tuple #[.int .i64 a, .bool true]) ∧ w = w' := by
        intro w; rw [ha]; exact hrn w
      have ha0 : 0 ≤ a := by omega
      have ha1 : a ≤ 99999999 := by omega
      have HA := Lib.hid ha
      have HR := Lib.hid hrn2
      clear hrn hrn2 hn ha
      by_cases hn' : c = 110
      · have HD := Lib.hid (dec_n HM.out h1 h8 hr (by have := hc.out; omega))
        have hb : (c == 110) = true := by simpa using hn'
        clear hr hn'
        go_enter Tryd.func81, Tryd.ntmps81
        go_wp2_with (go_at_call 97; refine (HR.out _).mono ?_; rintro e w' ⟨rfl, rfl⟩)
        go_ret2
        exact ⟨ret_dec (by rw [HD.out, HA.out]), rfl⟩
      · have hcn : (s.data.toList.getD m 0).toNat ≠ 110 := by have := hc.out; omega
        have hb : (c == 110) = false := by simpa using hn'
        by_cases hu : unit c = 0
        · have HD := Lib.hid (dec_no HM.out h1 h8 hr hcn (by rw [← hc.out]; exact hu))
          have hz : (unit c == 0) = true := by simpa using hu
          clear hr hn' hcn hu
          go_enter Tryd.func81, Tryd.ntmps81
          go_wp2_with (first | (go_at_call 97; refine (HR.out _).mono ?_; rintro e w' ⟨rfl, rfl⟩) | (go_at_call 98; refine (unit_any _ _).mono ?_; rintro e w' ⟨rfl, rfl⟩))
          go_ret2
          exact ⟨ret_dec HD.out, rfl⟩
        · have HD := Lib.hid (dec_yes HM.out h1 h8 hr hcn (by rw [← hc.out]; exact hu))
          have hz : (unit c == 0) = false := by simpa using hu
          clear hr hn' hcn hu
          go_enter Tryd.func81, Tryd.ntmps81
          go_wp2_with (first | (go_at_call 97; refine (HR.out _).mono ?_; rintro e w' ⟨rfl, rfl⟩) | (go_at_call 98; refine (unit_any _ _).mono ?_; rintro e w' ⟨rfl, rfl⟩) | (go_at_call 99; refine (Tk.mul_any _ _ _).mono ?_; rintro e w' ⟨rfl, rfl⟩))
          go_ret2
          exact ⟨ret_dec (by rw [HD.out, ← hc.out, ← HA.out]), rfl⟩

end Go.Proofs.YtncdiggejofbbaaDoor.Tm

namespace Go.Proofs.YtncdiggejofbbaaDoor.Tm
open Go.RowKit St

theorem take_getD (l : List UInt8) {m k : Nat} (h : k < m) : (l.take m).getD k 0 = l.getD k 0 := by
  simp [List.getD_eq_getElem?_getD, h]


end Go.Proofs.YtncdiggejofbbaaDoor.Tm

namespace Go.Proofs.YtncdiggejofbbaaDoor.Bu
open Go.RowKit St Go.Sort Tm

/-- the deadline that a text tells -/
def dl (a : Int) (l : List UInt8) : Int × Int := if (dec l).2 = 0 then (Tk.add a (dec l).1, 0) else (0, (dec l).2)
theorem dl_yes {a x : Int} {l : List UInt8} (h : dec l = (x, 0)) : dl a l = (Tk.add a x, 0) := by simp [dl, h]
theorem dl_no {a x y : Int} {l : List UInt8} (h : dec l = (x, y)) (hy : y ≠ 0) : dl a l = (0, y) := by simp [dl, h, hy]
theorem ret_dl {a : Int} {l : List UInt8} {x y : Int} (h : dl a l = (x, y)) : Ending.returned (.tuple #[.int .i64 x, .int .i64 y]) = .returned (.tuple #[.int .i64 (dl a l).1, .int .i64 (dl a l).2]) := by rw [h]

set_option maxHeartbeats 1000000 in
theorem deadline_any (a : Int) (s : ByteArray) (w : World) :
    Calls Tryd.prog 63 #[.int .i64 a, .string s] w fun e w' => e = .returned (.tuple #[.int .i64 (dl a s.data.toList).1, .int .i64 (dl a s.data.toList).2]) ∧ w = w' := by
  obtain ⟨x, hx⟩ : ∃ x, (dec s.data.toList).1 = x := ⟨_, rfl⟩
  obtain ⟨y, hy⟩ : ∃ y, (dec s.data.toList).2 = y := ⟨_, rfl⟩
  have c1 : ∀ b, Calls Tryd.prog 81 #[.string s] b fun e w' => e = .returned (.tuple #[.int .i64 x, .int .i64 y]) ∧ b = w' := fun b => by rw [← hx, ← hy]; exact dec_any s b
  have C1 := Lib.hid c1
  have HD := Lib.hid (show dec s.data.toList = (x, y) by rw [← hx, ← hy])
  clear c1 hx hy
  by_cases hz : y = 0
  · subst hz
    have HR := Lib.hid (dl_yes (a := a) HD.out)
    go_enter Tryd.func63, Tryd.ntmps63
    go_wp2_with (first | (go_at_call 81; refine (C1.out _).mono ?_; rintro e w' ⟨rfl, rfl⟩) | (go_at_call 82; refine (Tk.add_any _ _ _).mono ?_; rintro e w' ⟨rfl, rfl⟩))
    go_ret2
    exact ⟨ret_dl HR.out, rfl⟩
  · have HR := Lib.hid (dl_no (a := a) HD.out hz)
    have hb : (y == 0) = false := by simpa using hz
    clear hz
    go_enter Tryd.func63, Tryd.ntmps63
    go_wp2_with (go_at_call 81; refine (C1.out _).mono ?_; rintro e w' ⟨rfl, rfl⟩)
    go_ret2
    exact ⟨ret_dl HR.out, rfl⟩


end Go.Proofs.YtncdiggejofbbaaDoor.Bu
