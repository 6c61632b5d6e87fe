/- Plain mathematics of spans as text: no Go text is spoken of here. Contracts of package timeout, and of the document's own answers for it: what is read. Contracts of the document's own answers for package timeout: what is read, and what is told. Contracts of package budget, and of the document's own answers for it: deadlines and what is left to them. -/
import Derived.Test.YtncdiggejofbbaaGreatDoorTk
import Derived.Lib.ItoaNum
import Derived.Test.YtncdiggejofbbaaGreatDoorSt
import Derived.LoopTactic
import Derived.Test.YtncdiggejofbbaaGreatDoorBuE
namespace Go.Proofs.YtncdiggejofbbaaGreatDoor.Tm

/-- a unit's ticks; 0: none -/
def unit (c : Int) : Int := if c = 117 then 1 else if c = 109 then 1000 else if c = 83 then 1000000 else if c = 77 then 60000000 else if c = 72 then 3600000000 else 0
theorem unit_lo (c : Int) : 0 ≤ unit c := by unfold unit; repeat' split
                                             all_goals omega
theorem unit_hi (c : Int) : unit c ≤ 3600000000 := by unfold unit; repeat' split
                                                      all_goals omega

/-- the number that digits say, behind n -/
def rd : List UInt8 → Nat → Option Nat
  | [], n => some n
  | c :: r, n => if c.toNat < 48 ∨ 57 < c.toNat then none else rd r (n * 10 + (c.toNat - 48))

theorem rd_drop_bad {l : List UInt8} {k n : Nat} (hk : k < l.length) (h : (l.getD k 0).toNat < 48 ∨ 57 < (l.getD k 0).toNat) : rd (l.drop k) n = none := by
  rw [List.drop_eq_getElem_cons hk, rd]
  have e : l.getD k 0 = l[k] := by simp [List.getD, hk]
  rw [e] at h
  rw [if_pos h]
theorem rd_drop_digit {l : List UInt8} {k n : Nat} (hk : k < l.length) (h : ¬ ((l.getD k 0).toNat < 48 ∨ 57 < (l.getD k 0).toNat)) :
    rd (l.drop k) n = rd (l.drop (k + 1)) (n * 10 + ((l.getD k 0).toNat - 48)) := by
  have e : l.getD k 0 = l[k] := by simp [List.getD, hk]
  rw [List.drop_eq_getElem_cons hk, rd]
  rw [e] at h ⊢
  rw [if_neg h]
theorem rd_lt : ∀ (l : List UInt8) (n k m : Nat), rd l n = some m → n < 10 ^ k → m < 10 ^ (k + l.length)
  | [], n, k, m, h, hn => by simp [rd] at h; subst h; simpa using hn
  | c :: r, n, k, m, h, hn => by
    rw [rd] at h
    split at h
    · cases h
    · have := rd_lt r _ (k + 1) m h (by rw [Nat.pow_succ]; omega)
      simpa [Nat.add_assoc, Nat.add_comm 1] using this
theorem rd_8 {l : List UInt8} {m : Nat} (h : rd l 0 = some m) (h8 : l.length ≤ 8) : m ≤ 99999999 := by
  have h1 := rd_lt l 0 0 m h (by simp)
  have h2 : 10 ^ (0 + l.length) ≤ 10 ^ 8 := Nat.pow_le_pow_right (by decide) (by omega)
  simp at h1 h2
  omega
/-- one step of reading keeps within as many digits -/
theorem step_lt {n k d : Nat} (h : n < 10 ^ k) (hd : d ≤ 9) (hk : k < 8) : n * 10 + d < 10 ^ (k + 1) ∧ n * 10 + d ≤ 99999999 := by
  have e : 10 ^ (k + 1) = 10 ^ k * 10 := Nat.pow_succ ..
  have h2 : 10 ^ (k + 1) ≤ 10 ^ 8 := Nat.pow_le_pow_right (by decide) (by omega)
  have h3 : (10 : Nat) ^ 8 = 100000000 := by decide
  omega

/-- what a text says: the span, and the error -/
def dec (l : List UInt8) : Int × Int :=
  if l.length < 2 ∨ 9 < l.length then (0, 3)
  else match rd (l.take (l.length - 1)) 0 with
    | none => (0, 5)
    | some n =>
      if (l.getD (l.length - 1) 0).toNat = 110 then ((n : Int) / 1000, 0)
      else if unit (l.getD (l.length - 1) 0).toNat = 0 then (0, 5)
      else (Tk.mul n (unit (l.getD (l.length - 1) 0).toNat), 0)

/-- the unit at a place of the row of units, and its byte -/
def cAt (k : Nat) : UInt8 := if k = 0 then 117 else if k = 1 then 109 else if k = 2 then 83 else if k = 3 then 77 else 72
def uAt (k : Nat) : Int := if k = 0 then 1 else if k = 1 then 1000 else if k = 2 then 1000000 else if k = 3 then 60000000 else 3600000000
theorem unit_cAt (k : Nat) : unit ((cAt k).toNat : Int) = uAt k := by
  unfold cAt uAt; repeat' split
  all_goals decide
theorem uAt_pos (k : Nat) : 0 < uAt k := by unfold uAt; repeat' split
                                            all_goals omega
/-- the first unit in which a span has no more than eight digits -/
def fin (t : Int) : Nat := if t ≤ 99999999 then 0 else if t / 1000 ≤ 99999999 then 1 else if t / 1000000 ≤ 99999999 then 2 else if t / 60000000 ≤ 99999999 then 3 else 4
theorem fin_le (t : Int) : fin t ≤ 4 := by unfold fin; repeat' split
                                           all_goals omega
theorem fin_lt {t : Int} {k : Nat} (h : k < fin t) : 99999999 < t / uAt k := by
  have h4 := fin_le t
  have hk : k = 0 ∨ k = 1 ∨ k = 2 ∨ k = 3 := by omega
  rcases hk with rfl | rfl | rfl | rfl <;> simp only [uAt] <;> unfold fin at h <;> (repeat' split at h) <;> simp at * <;> omega
theorem fin_eq {t : Int} (h : t ≤ 1125899906842624) : t / uAt (fin t) ≤ 99999999 := by
  unfold fin; repeat' split
  all_goals (simp only [uAt]; simp; omega)

/-- a span's text -/
def enc (t : Int) : List UInt8 := Lib.decDigits (t / uAt (fin t)).toNat ++ [cAt (fin t)]

end Go.Proofs.YtncdiggejofbbaaGreatDoor.Tm

namespace Go.Proofs.YtncdiggejofbbaaGreatDoor.Tm
open Go.RowKit St

set_option maxHeartbeats 400000 in
theorem unit_any (c : Int) (w : World) :
    Calls Tryz.prog 82 #[.int .u8 c] w fun e w' => e = .returned (.int .i64 (unit c)) ∧ w = w' := by
  go_enter Tryz.func82, Tryz.ntmps82
  go_wp2
  all_goals go_ret
  all_goals exact ⟨ret_int (by unfold unit; simp_all), rfl⟩


/-- how reading of digits ends -/
def rdEnd : Option Nat → Value
  | none => .tuple #[.int .i64 0, .bool false]
  | some n => .tuple #[.int .i64 (n : Int), .bool true]

set_option maxHeartbeats 400000 in
theorem readNumber_any (s : ByteArray) (h8 : s.size ≤ 8) (w : World) :
    Calls Tryz.prog 95 #[.string s] w fun e w' => e = .returned (rdEnd (rd s.data.toList 0)) ∧ w = w' := by
  have hl := size_list s
  have HL := Lib.hid hl; clear hl
  go_enter Tryz.func95, Tryz.ntmps95
  go_wp2
  go_loop [4, 9] (fun x i => ∃ k n : Nat, k ≤ s.size ∧ n < 10 ^ k ∧ RowKit.Hid (rd (s.data.toList.drop k) n = rd s.data.toList 0) ∧ i = .int .i64 (k : Int) ∧ ∃ a : Int, RowKit.Hid (a = (n : Int)) ∧ x = .int .i64 a) (fun _ i => s.size - (intOf i).toNat)
  case atStart => exact ⟨0, 0, Nat.zero_le _, by simp, rfl, rfl, 0, rfl, rfl⟩
  case round =>
    obtain ⟨k, n, hk, hn, he, rfl, a, ha, rfl⟩ := hrel
    rcases Nat.lt_or_ge k s.size with hlt | hge
    · obtain ⟨c, hidx, hc0, hc1, hc⟩ := byteAt s k hlt
      by_cases hd : 48 ≤ c ∧ c ≤ 57
      · have hs := step_lt (d := (c - 48).toNat) hn (by omega) (by omega)
        have HS := Lib.hid hs
        have ha0 : 0 ≤ a := by have := ha.out; omega
        have ha1 : a * 10 + (c - 48) ≤ 99999999 := by have := ha.out; omega
        have hd1 := hd.1
        have hd2 := hd.2
        have hb : ¬ ((s.data.toList.getD k 0).toNat < 48 ∨ 57 < (s.data.toList.getD k 0).toNat) := by have := hc.out; omega
        have HR := Lib.hid (rd_drop_digit (n := n) (by rw [← HL.out]; exact hlt) hb)
        clear hs hb hn hd
        go_wp2
        go_round
        case rel => exact ⟨k + 1, n * 10 + (c - 48).toNat, by omega, HS.out.1, by have h1 := HR.out; have h2 := hc.out; rw [show (s.data.toList.getD k 0).toNat - 48 = (c - 48).toNat by omega] at h1; rw [← h1]; exact he, by go_num, a * 10 + (c - 48), Lib.hid (by have := ha.out; omega), by go_num⟩
        case measure => simp [intOf]; omega
      · have hb : (s.data.toList.getD k 0).toNat < 48 ∨ 57 < (s.data.toList.getD k 0).toNat := by have := hc.out; omega
        have HR := Lib.hid (rd_drop_bad (n := n) (by rw [← HL.out]; exact hlt) hb)
        clear hb hn
        rcases Int.lt_or_le c 48 with hd1 | hd1
        · go_wp2
          go_ret2
          exact ⟨by rw [← he.out, HR.out]; rfl, rfl⟩
        · have hd2 : 57 < c := by omega
          go_wp2
          go_ret2
          exact ⟨by rw [← he.out, HR.out]; rfl, rfl⟩
    · have hks : k = s.size := by omega
      subst hks
      have HR := Lib.hid (show rd (s.data.toList.drop s.size) n = some n by rw [HL.out, List.drop_length]; rfl)
      clear hn
      go_wp2
      go_ret2
      exact ⟨by rw [← he.out, HR.out, ha.out]; rfl, rfl⟩

/-- the two values of reading a text -/
theorem ret_dec {l : List UInt8} {a b : Int} (h : dec l = (a, b)) : Ending.returned (.tuple #[.int .i64 a, .int .i64 b]) = .returned (.tuple #[.int .i64 (dec l).1, .int .i64 (dec l).2]) := by rw [h]
theorem dec_short {l : List UInt8} (h : l.length < 2 ∨ 9 < l.length) : dec l = (0, 3) := by unfold dec; rw [if_pos h]
theorem dec_bad {l : List UInt8} {m : Nat} (h : l.length = m + 1) (h1 : 1 ≤ m) (h8 : m ≤ 8) (hr : rd (l.take m) 0 = none) : dec l = (0, 5) := by
  unfold dec; rw [if_neg (by omega), show l.length - 1 = m by omega, hr]
theorem dec_n {l : List UInt8} {m n : Nat} (h : l.length = m + 1) (h1 : 1 ≤ m) (h8 : m ≤ 8) (hr : rd (l.take m) 0 = some n) (hc : (l.getD m 0).toNat = 110) : dec l = ((n : Int) / 1000, 0) := by
  unfold dec; rw [if_neg (by omega), show l.length - 1 = m by omega, hr]; simp only [hc, if_true]
theorem dec_no {l : List UInt8} {m n : Nat} (h : l.length = m + 1) (h1 : 1 ≤ m) (h8 : m ≤ 8) (hr : rd (l.take m) 0 = some n) (hc : (l.getD m 0).toNat ≠ 110) (hu : unit (l.getD m 0).toNat = 0) : dec l = (0, 5) := by
  unfold dec; rw [if_neg (by omega), show l.length - 1 = m by omega, hr]; simp only [hc, hu, if_true, if_false]
theorem dec_yes {l : List UInt8} {m n : Nat} (h : l.length = m + 1) (h1 : 1 ≤ m) (h8 : m ≤ 8) (hr : rd (l.take m) 0 = some n) (hc : (l.getD m 0).toNat ≠ 110) (hu : unit (l.getD m 0).toNat ≠ 0) :
    dec l = (Tk.mul n (unit (l.getD m 0).toNat), 0) := by
  unfold dec; rw [if_neg (by omega), show l.length - 1 = m by omega, hr]; simp only [hc, hu, if_false]

set_option maxHeartbeats 1000000 in
theorem dec_any (s : ByteArray) (w : World) :
    Calls Tryz.prog 92 #[.string s] w fun e w' => e = .returned (.tuple #[.int .i64 (dec s.data.toList).1, .int .i64 (dec s.data.toList).2]) ∧ w = w' := by
  have HL := Lib.hid (size_list s)
  by_cases hsz : s.size < 2 ∨ 9 < s.size
  · have HD := Lib.hid (dec_short (by rw [← HL.out]; exact hsz))
    rcases hsz with h | h
    all_goals (
      go_enter Tryz.func92, Tryz.ntmps92
      go_wp2
      go_ret2
      exact ⟨ret_dec HD.out, rfl⟩)
  · obtain ⟨m, hm⟩ : ∃ m, s.size = m + 1 := ⟨s.size - 1, by omega⟩
    have h1 : 1 ≤ m := by omega
    have h8 : m ≤ 8 := by omega
    have HM := Lib.hid (show s.data.toList.length = m + 1 by rw [← HL.out]; exact hm)
    have hsl : ∀ w, (Instr.slice 9 (.string s) none (some (.int .i64 (m : Int))) none).run Tryz.prog w = .ok (.string (s.extract 0 m)) w := fun w => by
      rw [run_slice_string_h w 9 s Tryz.underlying9 .i64 (m : Int) (by omega) (by omega), Int.toNat_natCast]
    have hrn := fun w => readNumber_any (s.extract 0 m) (by rw [size_list, extract_list]; simp; omega) w
    rw [extract_list, List.drop_zero] at hrn
    obtain ⟨c, hidx, hc0, hc1, hc⟩ := byteAt s m (by omega)
    clear hsz
    cases hr : rd (s.data.toList.take m) 0 with
    | none =>
      rw [hr] at hrn
      have hrn2 : ∀ w, Calls Tryz.prog 95 #[.string (s.extract 0 m)] w fun e w' => e = .returned (.tuple #[.int .i64 0, .bool false]) ∧ w = w' := hrn
      have HD := Lib.hid (dec_bad HM.out h1 h8 hr)
      have HR := Lib.hid hrn2
      clear hrn hrn2 hr hidx
      go_enter Tryz.func92, Tryz.ntmps92
      go_wp2_with (go_at_call 95; refine (HR.out _).mono ?_; rintro e w' ⟨rfl, rfl⟩)
      go_ret2
      exact ⟨ret_dec HD.out, rfl⟩
    | some n =>
      rw [hr] at hrn
      have hn := rd_8 hr (by simp; omega)
      obtain ⟨a, ha⟩ : ∃ a : Int, a = (n : Int) := ⟨_, rfl⟩
      have hrn2 : ∀ w, Calls Tryz.prog 95 #[.string (s.extract 0 m)] w fun e w' => e = .returned (.tuple #[.int .i64 a, .bool true]) ∧ w = w' := by
        intro w; rw [ha]; exact hrn w
      have ha0 : 0 ≤ a := by omega
      have ha1 : a ≤ 99999999 := by omega
      have HA := Lib.hid ha
      have HR := Lib.hid hrn2
      clear hrn hrn2 hn ha
      by_cases hn' : c = 110
      · have HD := Lib.hid (dec_n HM.out h1 h8 hr (by have := hc.out; omega))
        have hb : (c == 110) = true := by simpa using hn'
        clear hr hn'
        go_enter Tryz.func92, Tryz.ntmps92
        go_wp2_with (go_at_call 95; refine (HR.out _).mono ?_; rintro e w' ⟨rfl, rfl⟩)
        go_ret2
        exact ⟨ret_dec (by rw [HD.out, HA.out]), rfl⟩
      · have hcn : (s.data.toList.getD m 0).toNat ≠ 110 := by have := hc.out; omega
        have hb : (c == 110) = false := by simpa using hn'
        by_cases hu : unit c = 0
        · have HD := Lib.hid (dec_no HM.out h1 h8 hr hcn (by rw [← hc.out]; exact hu))
          have hz : (unit c == 0) = true := by simpa using hu
          clear hr hn' hcn hu
          go_enter Tryz.func92, Tryz.ntmps92
          go_wp2_with (first | (go_at_call 95; refine (HR.out _).mono ?_; rintro e w' ⟨rfl, rfl⟩) | (go_at_call 82; refine (unit_any _ _).mono ?_; rintro e w' ⟨rfl, rfl⟩))
          go_ret2
          exact ⟨ret_dec HD.out, rfl⟩
        · have HD := Lib.hid (dec_yes HM.out h1 h8 hr hcn (by rw [← hc.out]; exact hu))
          have hz : (unit c == 0) = false := by simpa using hu
          clear hr hn' hcn hu
          go_enter Tryz.func92, Tryz.ntmps92
          go_wp2_with (first | (go_at_call 95; refine (HR.out _).mono ?_; rintro e w' ⟨rfl, rfl⟩) | (go_at_call 82; refine (unit_any _ _).mono ?_; rintro e w' ⟨rfl, rfl⟩) | (go_at_call 96; refine (Tk.mul_any _ _ _).mono ?_; rintro e w' ⟨rfl, rfl⟩))
          go_ret2
          exact ⟨ret_dec (by rw [HD.out, ← hc.out, ← HA.out]), rfl⟩

end Go.Proofs.YtncdiggejofbbaaGreatDoor.Tm

namespace Go.Proofs.YtncdiggejofbbaaGreatDoor.Tm
open Go.RowKit St

theorem take_getD (l : List UInt8) {m k : Nat} (h : k < m) : (l.take m).getD k 0 = l.getD k 0 := by
  simp [List.getD_eq_getElem?_getD, h]


end Go.Proofs.YtncdiggejofbbaaGreatDoor.Tm

namespace Go.Proofs.YtncdiggejofbbaaGreatDoor.Bu
open Go.RowKit St Go.Sort Tm

/-- the deadline that a text tells -/
def dl (a : Int) (l : List UInt8) : Int × Int := if (dec l).2 = 0 then (Tk.add a (dec l).1, 0) else (0, (dec l).2)
theorem dl_yes {a x : Int} {l : List UInt8} (h : dec l = (x, 0)) : dl a l = (Tk.add a x, 0) := by simp [dl, h]
theorem dl_no {a x y : Int} {l : List UInt8} (h : dec l = (x, y)) (hy : y ≠ 0) : dl a l = (0, y) := by simp [dl, h, hy]
theorem ret_dl {a : Int} {l : List UInt8} {x y : Int} (h : dl a l = (x, y)) : Ending.returned (.tuple #[.int .i64 x, .int .i64 y]) = .returned (.tuple #[.int .i64 (dl a l).1, .int .i64 (dl a l).2]) := by rw [h]



end Go.Proofs.YtncdiggejofbbaaGreatDoor.Bu
