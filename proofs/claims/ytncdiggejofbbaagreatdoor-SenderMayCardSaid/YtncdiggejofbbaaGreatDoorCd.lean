/- Package code: names, numbers, what says more. Package code: which code a name is, what says more, and of errors. The document's answers of layer 5. -/
import Derived.Test.YtncdiggejofbbaaGreatDoorCdC
import Derived.Laws.Rows
import Derived.Great.BuildSlice
import Derived.Deep.QuietTactic
import Derived.BigQuiet
namespace Go.Proofs.YtncdiggejofbbaaGreatDoor.Cd
open Go.RowKit Go.Sort St

/-- the names, each at its number -/
def nameL : List (List UInt8) :=
  [[79, 75],
   [67, 65, 78, 67, 69, 76, 76, 69, 68],
   [85, 78, 75, 78, 79, 87, 78],
   [73, 78, 86, 65, 76, 73, 68, 95, 65, 82, 71, 85, 77, 69, 78, 84],
   [68, 69, 65, 68, 76, 73, 78, 69, 95, 69, 88, 67, 69, 69, 68, 69, 68],
   [78, 79, 84, 95, 70, 79, 85, 78, 68],
   [65, 76, 82, 69, 65, 68, 89, 95, 69, 88, 73, 83, 84, 83],
   [80, 69, 82, 77, 73, 83, 83, 73, 79, 78, 95, 68, 69, 78, 73, 69, 68],
   [82, 69, 83, 79, 85, 82, 67, 69, 95, 69, 88, 72, 65, 85, 83, 84, 69, 68],
   [70, 65, 73, 76, 69, 68, 95, 80, 82, 69, 67, 79, 78, 68, 73, 84, 73, 79, 78],
   [65, 66, 79, 82, 84, 69, 68],
   [79, 85, 84, 95, 79, 70, 95, 82, 65, 78, 71, 69],
   [85, 78, 73, 77, 80, 76, 69, 77, 69, 78, 84, 69, 68],
   [73, 78, 84, 69, 82, 78, 65, 76],
   [85, 78, 65, 86, 65, 73, 76, 65, 66, 76, 69],
   [68, 65, 84, 65, 95, 76, 79, 83, 83],
   [85, 78, 65, 85, 84, 72, 69, 78, 84, 73, 67, 65, 84, 69, 68]]
def nameB (i : Int) : ByteArray := ⟨(nameL.getD i.toNat []).toArray⟩
def row : Array Value := (nameL.map fun l => .string ⟨l.toArray⟩).toArray




end Go.Proofs.YtncdiggejofbbaaGreatDoor.Cd

namespace Go.Proofs.YtncdiggejofbbaaGreatDoor.Cd
open Go.RowKit Go.Sort St

/-- which name it is, of those from k on -/
def find (s : ByteArray) : Nat → Nat → Option Nat
  | 0, _ => none
  | n + 1, k => if nameB (k : Int) = s then some k else find s n (k + 1)
def codeOf (s : ByteArray) : Option Nat := find s 17 0
theorem find_yes {s : ByteArray} {n k : Nat} (h : nameB (k : Int) = s) : find s (n + 1) k = some k := by simp [find, h]
theorem find_no {s : ByteArray} {n k : Nat} (h : ¬ nameB (k : Int) = s) : find s (n + 1) k = find s n (k + 1) := by simp [find, h]
def codeI (s : ByteArray) : Int := match codeOf s with | some k => k | none => 2
def codeE (s : ByteArray) : Int := match codeOf s with | some _ => 0 | none => 10
def codeB (s : ByteArray) : Bool := (codeOf s).isSome
theorem same_text {a b : ByteArray} (h : ¬ a = b) : (a.toList == b.toList) = false := by
  rw [beq_eq_false_iff_ne, ByteArray.toList_eq, ByteArray.toList_eq]
  intro e
  exact h (by cases a; cases b; simp_all)
theorem ret_two {a b a' b' : Value} (h1 : a = a') (h2 : b = b') : Ending.returned (.tuple #[a, b]) = .returned (.tuple #[a', b']) := by rw [h1, h2]


/-- how much a code says -/
def says (c : Int) : Int := if c = 0 then 0 else if c = 14 then 1 else if c = 8 then 2 else if c = 4 then 20 else if c = 1 then 21 else 3 + c
set_option maxHeartbeats 1000000 in
theorem says_any (c : Int) (h0 : 0 ≤ c) (h1 : c ≤ 16) (w : World) :
    Calls Tryz.prog 79 #[.int .i64 c] w fun e w' => e = .returned (.int .i64 (says c)) ∧ w = w' := by
  by_cases e0 : c = 0
  · subst e0
    go_enter Tryz.func79, Tryz.ntmps79
    go_wp2_with fail
    go_ret
    exact ⟨rfl, rfl⟩
  by_cases e1 : c = 14
  · subst e1
    go_enter Tryz.func79, Tryz.ntmps79
    go_wp2_with fail
    go_ret
    exact ⟨rfl, rfl⟩
  by_cases e2 : c = 8
  · subst e2
    go_enter Tryz.func79, Tryz.ntmps79
    go_wp2_with fail
    go_ret
    exact ⟨rfl, rfl⟩
  by_cases e3 : c = 4
  · subst e3
    go_enter Tryz.func79, Tryz.ntmps79
    go_wp2_with fail
    go_ret
    exact ⟨rfl, rfl⟩
  by_cases e4 : c = 1
  · subst e4
    go_enter Tryz.func79, Tryz.ntmps79
    go_wp2_with fail
    go_ret
    exact ⟨rfl, rfl⟩
  have h := Lib.hid (show says c = 3 + c by simp [says, e0, e1, e2, e3, e4])
  have t0 : (c == 0) = false := beq_eq_false_iff_ne.2 e0
  have t1 : (c == 14) = false := beq_eq_false_iff_ne.2 e1
  have t2 : (c == 8) = false := beq_eq_false_iff_ne.2 e2
  have t3 : (c == 4) = false := beq_eq_false_iff_ne.2 e3
  have t4 : (c == 1) = false := beq_eq_false_iff_ne.2 e4
  clear e0 e1 e2 e3 e4
  go_enter Tryz.func79, Tryz.ntmps79
  go_wp2_with fail
  go_ret
  exact ⟨ret_int h.out.symm, rfl⟩

def join (a b : Int) : Int := if says (clean a) < says (clean b) then clean b else clean a
theorem clean_as {c x : Int} (h : Hid (clean c = x)) (w : World) : Calls Tryz.prog 41 #[.int .i64 c] w fun e w' => e = .returned (.int .i64 x) ∧ w = w' := by
  have := clean_any c w
  rwa [h.out] at this
theorem says_as {c x : Int} (h : Hid (says c = x)) (k : Hid (0 ≤ c ∧ c ≤ 16)) (w : World) : Calls Tryz.prog 79 #[.int .i64 c] w fun e w' => e = .returned (.int .i64 x) ∧ w = w' := by
  have := says_any c k.out.1 k.out.2 w
  rwa [h.out] at this
theorem join_any (a b : Int) (w : World) :
    Calls Tryz.prog 55 #[.int .i64 a, .int .i64 b] w fun e w' => e = .returned (.int .i64 (join a b)) ∧ w = w' := by
  have kA := Lib.hid (show 0 ≤ clean a ∧ clean a ≤ 16 from ⟨clean_lo a, clean_hi a⟩)
  have kB := Lib.hid (show 0 ≤ clean b ∧ clean b ≤ 16 from ⟨clean_lo b, clean_hi b⟩)
  have hj : join a b = if says (clean a) < says (clean b) then clean b else clean a := rfl
  obtain ⟨x, hx⟩ : ∃ x, clean a = x := ⟨_, rfl⟩
  obtain ⟨y, hy⟩ : ∃ y, clean b = y := ⟨_, rfl⟩
  rw [hx] at kA hj
  rw [hy] at kB hj
  obtain ⟨p, hp⟩ : ∃ p, says x = p := ⟨_, rfl⟩
  obtain ⟨q, hq⟩ : ∃ q, says y = q := ⟨_, rfl⟩
  rw [hp, hq] at hj
  have HX := Lib.hid hx
  have HY := Lib.hid hy
  have HP := Lib.hid hp
  have HQ := Lib.hid hq
  clear hx hy hp hq
  by_cases h : p < q
  · rw [if_pos h] at hj
    have HJ := Lib.hid hj
    clear hj
    go_enter Tryz.func55, Tryz.ntmps55
    go_wp2_with (first | (go_at_call 41; refine (clean_as (by assumption) _).mono ?_; rintro e w' ⟨rfl, rfl⟩) | (go_at_call 79; refine (says_as (by assumption) (by assumption) _).mono ?_; rintro e w' ⟨rfl, rfl⟩))
    go_ret
    exact ⟨ret_int HJ.out.symm, rfl⟩
  · rw [if_neg h] at hj
    have HJ := Lib.hid hj
    clear hj
    go_enter Tryz.func55, Tryz.ntmps55
    go_wp2_with (first | (go_at_call 41; refine (clean_as (by assumption) _).mono ?_; rintro e w' ⟨rfl, rfl⟩) | (go_at_call 79; refine (says_as (by assumption) (by assumption) _).mono ?_; rintro e w' ⟨rfl, rfl⟩))
    go_ret
    exact ⟨ret_int HJ.out.symm, rfl⟩


end Go.Proofs.YtncdiggejofbbaaGreatDoor.Cd

namespace Go.Proofs.YtncdiggejofbbaaGreatDoor.Cd
open Go.RowKit Go.Sort St










end Go.Proofs.YtncdiggejofbbaaGreatDoor.Cd
