/- Plain mathematics of configurations as text: settings, lines, what is read of them. No function of the program is spoken of here. -/
import Derived.Test.YtcoagmkncjonmaaGreatDoorPgM
import Derived.Test.YtcoagmkncjonmaaGreatDoorCf
namespace Go.Proofs.YtcoagmkncjonmaaGreatDoor.Su
open Go.RowKit Go.Sort St
open Ad (Cf)
open Pg (textT rightB)
set_option linter.unusedVariables false

/-- a configuration's numbers -/
def numsL (c : Cf) : List Int := [c.nodes, c.skew, c.lease, c.grain, c.least, c.hops, c.cap, c.fan, c.attempts, c.base, c.most, c.wait, c.tokens]
/-- a configuration of numbers, and of a slice of programs -/
def mk (l : List Int) (q : Option Addr) (n m : Nat) : Cf :=
  ⟨l.getD 0 0, l.getD 1 0, l.getD 2 0, l.getD 3 0, l.getD 4 0, l.getD 5 0, l.getD 6 0, l.getD 7 0, l.getD 8 0, l.getD 9 0, l.getD 10 0, l.getD 11 0, l.getD 12 0, q, n, m⟩
theorem mk_nums (c : Cf) : mk (numsL c) c.pa c.pn c.pc = c := rfl
theorem nums_len (c : Cf) : (numsL c).length = 13 := rfl
theorem nums_mk {l : List Int} (h : l.length = 13) (q : Option Addr) (n m : Nat) : numsL (mk l q n m) = l := by
  match l, h with
  | [a0, a1, a2, a3, a4, a5, a6, a7, a8, a9, a10, a11, a12], _ => rfl
theorem k_cases {k : Nat} (h : k < 13) : k = 0 ∨ k = 1 ∨ k = 2 ∨ k = 3 ∨ k = 4 ∨ k = 5 ∨ k = 6 ∨ k = 7 ∨ k = 8 ∨ k = 9 ∨ k = 10 ∨ k = 11 ∨ k = 12 := by omega
theorem arr_at (c : Cf) {k : Nat} (h : k < 13) : c.arr[k]? = some (.int .i64 ((numsL c).getD k 0)) := by
  rcases k_cases h with rfl | rfl | rfl | rfl | rfl | rfl | rfl | rfl | rfl | rfl | rfl | rfl | rfl <;> rfl
theorem arr_put (c : Cf) {k : Nat} (h : k < 13) (n : Int) : c.arr.setIfInBounds k (.int .i64 n) = (mk ((numsL c).set k n) c.pa c.pn c.pc).arr := by
  rcases k_cases h with rfl | rfl | rfl | rfl | rfl | rfl | rfl | rfl | rfl | rfl | rfl | rfl | rfl <;> rfl
theorem arr_progs (c : Cf) (q : Option Addr) (n m : Nat) : c.arr.setIfInBounds 13 (.slice q n m) = (mk (numsL c) q n m).arr := rfl
theorem arr_size (c : Cf) : c.arr.size = 14 := rfl
theorem arr_one (c : Cf) : c.arr.all (·.oneCell') = true := by
  obtain ⟨x0, x1, x2, x3, x4, x5, x6, x7, x8, x9, x10, x11, x12, q, n, m⟩ := c
  kernel_rfl

/-- the settings' words -/
def wsL : List (List UInt8) := [[110, 111, 100, 101, 115], [115, 107, 101, 119], [108, 101, 97, 115, 101], [103, 114, 97, 105, 110], [108, 101, 97, 115, 116], [104, 111, 112, 115], [99, 97, 112], [102, 97, 110], [97, 116, 116, 101, 109, 112, 116, 115], [98, 97, 115, 101], [109, 111, 115, 116], [119, 97, 105, 116], [116, 111, 107, 101, 110, 115]]
def wordL (k : Nat) : List UInt8 := wsL.getD k []
def wordB (k : Nat) : ByteArray := ⟨(wordL k).toArray⟩
/-- what a line is that sets one -/
def lineT (k : Nat) (n : Int) : List UInt8 := wordL k ++ (32 :: Lib.itoa n)
def progW : List UInt8 := [112, 114, 111, 103, 114, 97, 109]
def behind (t : List UInt8) : List UInt8 := if t = [] then [] else 32 :: t
/-- a program's line -/
def progT (L : List Pg.Op) : List UInt8 := progW ++ behind (textT L)
/-- what the settings from k on are told as -/
def setsT (l : List Int) (k : Nat) : List UInt8 := ((List.range' k (13 - k)).flatMap fun j => lineT j (l.getD j 0) ++ [10])
def progsT (M : List (List Pg.Op)) : List UInt8 := M.flatMap fun L => progT L ++ [10]
def cfgT (l : List Int) (M : List (List Pg.Op)) : List UInt8 := setsT l 0 ++ progsT M

theorem sets_step (l : List Int) {k : Nat} (h : k < 13) : setsT l k = (lineT k (l.getD k 0) ++ [10]) ++ setsT l (k + 1) := by
  unfold setsT
  rw [show 13 - k = (13 - (k + 1)) + 1 by omega, List.range'_succ, List.flatMap_cons]
theorem sets_end (l : List Int) : setsT l 13 = [] := rfl
theorem progs_step {M : List (List Pg.Op)} {i : Nat} {L : List Pg.Op} (h : M[i]? = some L) : progsT (M.drop i) = (progT L ++ [10]) ++ progsT (M.drop (i + 1)) := by
  obtain ⟨h1, e⟩ := List.getElem?_eq_some_iff.1 h
  rw [List.drop_eq_getElem_cons h1, e]; rfl

/-! ### lines -/
/-- what a line may be that is read -/
inductive Ln
  | no (t : List UInt8)
  | prog (L : List Pg.Op)
  | num (k : Nat) (n : Int)
def Ln.txt : Ln → List UInt8
  | .no t => t
  | .prog L => progT L
  | .num k n => lineT k n
/-- it may be -/
def Ln.Ok : Ln → Prop
  | .no t => (t = [] ∨ ∃ r, t = 35 :: r) ∧ (∀ x ∈ t, x ≠ 10) ∧ t.length ≤ 1000
  | .prog L => rightB L 64 16 = true ∧ ∀ o ∈ L, o.Fit
  | .num k n => k < 13 ∧ 0 ≤ n ∧ n ≤ 9999999
/-- what lines so far come to: the numbers, the programs, which were set -/
structure Rs where
  (l : List Int) (M : List (List Pg.Op)) (had : List Int)
def Rs.step (s : Rs) : Ln → Option Rs
  | .no _ => some s
  | .prog L => some { s with M := s.M ++ [L] }
  | .num k n => if s.had.contains (k : Int) then none else some { s with l := s.l.set k n, had := s.had ++ [(k : Int)] }
def firstL : List Int := [1, 0, 1000, 0, 1, 4, 8, 4, 1, 10, 100, 500, 10]
def rs0 : Rs := ⟨firstL, [], []⟩
/-- .. the first i of them -/
def runs (s : Rs) : List Ln → Option Rs
  | [] => some s
  | x :: r => match s.step x with
    | none => none
    | some s' => runs s' r
theorem runs_app (s : Rs) (a b : List Ln) : runs s (a ++ b) = (runs s a).bind fun s' => runs s' b := by
  induction a generalizing s with
  | nil => rfl
  | cons x a ih =>
    simp only [List.cons_append, runs]
    cases s.step x with
    | none => rfl
    | some s' => exact ih s'
def linesT (ls : List Ln) : List UInt8 := ls.flatMap fun x => x.txt ++ [10]
theorem lines_step {ls : List Ln} {i : Nat} {x : Ln} (h : ls[i]? = some x) : linesT (ls.drop i) = (x.txt ++ [10]) ++ linesT (ls.drop (i + 1)) := by
  obtain ⟨h1, e⟩ := List.getElem?_eq_some_iff.1 h
  rw [List.drop_eq_getElem_cons h1, e]; rfl
theorem step_len {s s' : Rs} {x : Ln} (h : s.step x = some s') (hl : s.l.length = 13) : s'.l.length = 13 := by
  cases x with
  | no t => cases h; exact hl
  | prog L => cases h; exact hl
  | num k n =>
    simp only [Rs.step] at h
    split at h
    · cases h
    · cases h; simpa using hl

end Go.Proofs.YtcoagmkncjonmaaGreatDoor.Su
