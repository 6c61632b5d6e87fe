/- Plain mathematics of programs: steps, their texts, what is read of a text. No function of the program is spoken of here. -/
import Derived.Test.YtcoagmkncjonmaaGreatDoorIdMath
import Derived.Lib.ItoaLen
import Derived.Lib.SlBy
import Derived.Lib.Hide
namespace Go.Proofs.YtcoagmkncjonmaaGreatDoor.Pg
open Go IdM
open Go.RowKit (Hid)
set_option linter.unusedVariables false

/-- a step -/
structure Op where
  (k a b : Int)
instance : Inhabited Op := ⟨⟨0, 0, 0⟩⟩
theorem Op.eq_of {x y : Op} (h1 : x.k = y.k) (h2 : x.a = y.a) (h3 : x.b = y.b) : x = y := by cases x; cases y; simp_all
def Op.arr (o : Op) : Array Value := #[.int .i64 o.k, .int .i64 o.a, .int .i64 o.b]
def Op.row (o : Op) : List Value := [.int .i64 o.k, .int .i64 o.a, .int .i64 o.b]
theorem Op.row_len (o : Op) : o.row.length = 3 := rfl
/-- its numbers are words -/
def Wd (n : Int) : Prop := -9223372036854775808 ≤ n ∧ n ≤ 9223372036854775807
def Op.Fit (o : Op) : Prop := Wd o.k ∧ Wd o.a ∧ Wd o.b

/-- may it be, among n nodes and p programs? -/
def opK (k a b n p : Int) : Bool :=
  if k = 2 then decide (0 ≤ a ∧ a < n ∧ 0 ≤ b ∧ b < p)
  else decide (b = 0 ∧ ((k = 1 ∧ 1 ≤ a ∧ a ≤ 1000) ∨ (k = 3 ∧ a = 0) ∨ (k = 4 ∧ a = 0) ∨ (k = 5 ∧ 0 ≤ a ∧ a ≤ 2147483647) ∨ (k = 6 ∧ 1 ≤ a ∧ a ≤ 16) ∨ (k = 7 ∧ -1 ≤ a ∧ a ≤ 1000000)))
def opB (o : Op) (n p : Int) : Bool := opK o.k o.a o.b n p
def rightB (l : List Op) (n p : Int) : Bool := decide (l.length ≤ 16) && l.all fun o => opB o n p
def unit (o : Op) : Int := if o.k = 1 then max 0 (min o.a 1000) else 1
def units : List Op → Int
  | [] => 0
  | o :: l => unit o + units l
theorem units_app (l m : List Op) : units (l ++ m) = units l + units m := by
  induction l with
  | nil => simp [units]
  | cons o l ih => simp only [List.cons_append, units, ih]; omega
theorem units_snoc (l : List Op) (o : Op) : units (l ++ [o]) = units l + unit o := by rw [units_app]; simp [units]
theorem unit_lo (o : Op) : 0 ≤ unit o := by unfold unit; split <;> omega
theorem unit_hi (o : Op) : unit o ≤ 1000 := by unfold unit; split <;> omega
theorem units_lo (l : List Op) : 0 ≤ units l := by
  induction l with
  | nil => exact Int.le_refl _
  | cons o l ih => have := unit_lo o; simp only [units]; omega
theorem units_hi (l : List Op) : units l ≤ 1000 * l.length := by
  induction l with
  | nil => simp [units]
  | cons o l ih => have := unit_hi o; simp only [units, List.length_cons]; omega

/-! ### texts -/
def verbs : List (List UInt8) := [[], [119, 111, 114, 107], [115, 112, 97, 119, 110], [106, 111, 105, 110], [104, 101, 97, 100], [97, 110, 115, 119, 101, 114], [102, 97, 105, 108], [114, 101, 102, 117, 115, 101]]
def verb (k : Int) : List UInt8 := verbs.getD k.toNat []
def nums (k : Int) : Nat := ([0, 1, 2, 0, 0, 1, 1, 1] : List Nat).getD k.toNat 0
def numT (o : Op) : Nat → List UInt8
  | 0 => []
  | 1 => 32 :: Lib.itoa o.a
  | _ => 32 :: (Lib.itoa o.a ++ 32 :: Lib.itoa o.b)
def stepT (o : Op) : List UInt8 := verb o.k ++ numT o (nums o.k)
def knownB (k : Int) : Bool := decide (1 ≤ k ∧ k ≤ 7)
def tailT : List Op → List UInt8
  | [] => []
  | o :: l => 59 :: 32 :: (stepT o ++ tailT l)
def joinT : List Op → List UInt8
  | [] => []
  | o :: l => stepT o ++ tailT l
def allK (l : List Op) : Bool := l.all fun o => knownB o.k
def textT (l : List Op) : List UInt8 := if allK l then joinT l else []
theorem tailT_app (l m : List Op) : tailT (l ++ m) = tailT l ++ tailT m := by
  induction l with
  | nil => rfl
  | cons o l ih => simp [tailT, ih]
theorem joinT_app {l : List Op} (h : l ≠ []) (m : List Op) : joinT (l ++ m) = joinT l ++ tailT m := by
  cases l with
  | nil => exact absurd rfl h
  | cons o l => simp [joinT, tailT_app]
theorem tailT_join {l : List Op} (h : l ≠ []) : tailT l = 59 :: 32 :: joinT l := by
  cases l with
  | nil => exact absurd rfl h
  | cons o l => rfl
theorem allK_app (l m : List Op) : allK (l ++ m) = (allK l && allK m) := by unfold allK; rw [List.all_append]

/-! ### which bytes there are -/
theorem known_cases {k : Int} (h : knownB k = true) : k = 1 ∨ k = 2 ∨ k = 3 ∨ k = 4 ∨ k = 5 ∨ k = 6 ∨ k = 7 := by
  unfold knownB at h
  have := of_decide_eq_true h
  omega
theorem verb_plain (c : UInt8) (hc : c = 32 ∨ c = 59) {k : Int} (h : knownB k = true) : ∀ x ∈ verb k, x ≠ c := by
  rcases known_cases h with rfl | rfl | rfl | rfl | rfl | rfl | rfl <;> rcases hc with rfl | rfl <;> decide +kernel
theorem verb_len {k : Int} (h : knownB k = true) : (verb k).length ≤ 6 ∧ 1 ≤ (verb k).length := by
  rcases known_cases h with rfl | rfl | rfl | rfl | rfl | rfl | rfl <;> decide +kernel
theorem nums_le {k : Int} (h : knownB k = true) : nums k = 0 ∨ nums k = 1 ∨ nums k = 2 := by
  rcases known_cases h with rfl | rfl | rfl | rfl | rfl | rfl | rfl <;> decide +kernel
theorem itoa_plain (c : UInt8) (hc : c = 32 ∨ c = 59) (n : Int) : ∀ x ∈ Lib.itoa n, x ≠ c := by
  intro x hx e
  subst e
  have hd : ¬ IdM.digit x := by
    unfold IdM.digit
    rcases hc with rfl | rfl <;> decide
  unfold Lib.itoa at hx
  split at hx
  · rcases List.mem_cons.1 hx with h | h
    · rcases hc with rfl | rfl <;> exact absurd h (by decide)
    · exact hd (dec_digits _ _ h)
  · exact hd (dec_digits _ _ hx)
theorem step_plain {o : Op} (h : knownB o.k = true) : ∀ x ∈ stepT o, x ≠ 59 := by
  intro x hx
  unfold stepT at hx
  rcases List.mem_append.1 hx with hx | hx
  · exact verb_plain 59 (.inr rfl) h x hx
  · rcases nums_le h with e | e | e <;> rw [e] at hx <;> simp only [numT, List.mem_cons, List.mem_append, List.not_mem_nil] at hx
    · rcases hx with rfl | hx
      · decide
      · exact itoa_plain 59 (.inr rfl) _ x hx
    · rcases hx with rfl | hx | rfl | hx
      · decide
      · exact itoa_plain 59 (.inr rfl) _ x hx
      · decide
      · exact itoa_plain 59 (.inr rfl) _ x hx
theorem step_len {o : Op} (h : knownB o.k = true) (hf : o.Fit) : (stepT o).length ≤ 50 ∧ 1 ≤ (stepT o).length := by
  have h1 := verb_len h
  have h2 := Lib.itoa_length_le o.a hf.2.1.1 hf.2.1.2
  have h3 := Lib.itoa_length_le o.b hf.2.2.1 hf.2.2.2
  unfold stepT
  rw [List.length_append]
  rcases nums_le h with e | e | e <;> rw [e] <;> simp only [numT, List.length_nil, List.length_cons, List.length_append] <;> omega
theorem tail_len {l : List Op} (h : allK l = true) (hf : ∀ o ∈ l, o.Fit) : (tailT l).length ≤ 52 * l.length := by
  induction l with
  | nil => simp [tailT]
  | cons o l ih =>
    unfold allK at h
    rw [List.all_cons, Bool.and_eq_true] at h
    have h1 := (step_len h.1 (hf o (by simp))).1
    have h2 := ih h.2 (fun x hx => hf x (by simp [hx]))
    simp only [tailT, List.length_cons, List.length_append]; omega
theorem join_len {l : List Op} (h : allK l = true) (hf : ∀ o ∈ l, o.Fit) : (joinT l).length ≤ 52 * l.length := by
  cases l with
  | nil => simp [joinT]
  | cons o l =>
    have := tail_len h hf
    simp only [joinT, tailT, List.length_cons, List.length_append] at this ⊢; omega

/-! ### the first place of a text in another one -/
theorem index_miss1 (c : UInt8) (t : List UInt8) : ∀ (l : List UInt8), (∀ x ∈ l, x ≠ c) → Lib.index l (c :: t) = -1
  | [], _ => rfl
  | x :: l, h => by
    have ih := index_miss1 c t l fun y hy => h y (List.mem_cons_of_mem _ hy)
    have hx : x ≠ c := h x List.mem_cons_self
    have hp : List.isPrefixOf (c :: t) (x :: l) = false := by simp [List.isPrefixOf]; intro e; exact absurd e.symm hx
    unfold Lib.index
    rw [hp, ih]; rfl
theorem index_hit1 (c : UInt8) (t : List UInt8) : ∀ (l r : List UInt8), (∀ x ∈ l, x ≠ c) → Lib.index (l ++ (c :: t ++ r)) (c :: t) = l.length
  | [], r, _ => by
    have hp : List.isPrefixOf (c :: t) (c :: (t ++ r)) = true := List.isPrefixOf_iff_prefix.2 ⟨r, rfl⟩
    show Lib.index (c :: (t ++ r)) (c :: t) = 0
    unfold Lib.index
    rw [hp]; rfl
  | x :: l, r, h => by
    have ih := index_hit1 c t l r fun y hy => h y (List.mem_cons_of_mem _ hy)
    have hx : x ≠ c := h x List.mem_cons_self
    have hp : List.isPrefixOf (c :: t) (x :: (l ++ (c :: t ++ r))) = false := by simp [List.isPrefixOf]; intro e; exact absurd e.symm hx
    show Lib.index (x :: (l ++ (c :: t ++ r))) (c :: t) = _
    unfold Lib.index
    rw [hp, ih]
    have : ((l.length : Int) == -1) = false := beq_eq_false_iff_ne.2 (by omega)
    rw [this]
    simp
theorem cutb_hit (l r : List UInt8) (h : ∀ x ∈ l, x ≠ 32) : (Lib.cut (l ++ 32 :: r) [32]).1 = l ∧ (Lib.cut (l ++ 32 :: r) [32]).2.1 = r := by
  have e := index_hit1 32 [] l r h
  rw [show l ++ (32 :: [] ++ r) = l ++ 32 :: r from rfl] at e
  unfold Lib.cut
  rw [e, if_pos (by omega)]
  simp
theorem cutb_miss (l : List UInt8) (h : ∀ x ∈ l, x ≠ 32) : (Lib.cut l [32]).1 = l ∧ (Lib.cut l [32]).2.1 = [] := by
  unfold Lib.cut
  rw [index_miss1 32 [] l h, if_neg (by omega)]
  exact ⟨rfl, rfl⟩
/-- a text ahead of the first blank, and behind it -/
def wordOf (l : List UInt8) : List UInt8 := (Lib.cut l [32]).1
def restOf (l : List UInt8) : List UInt8 := (Lib.cut l [32]).2.1
theorem word_le (l : List UInt8) : (wordOf l).length ≤ l.length ∧ (restOf l).length ≤ l.length := by
  unfold wordOf restOf Lib.cut
  split
  · constructor
    · show (List.take _ l).length ≤ _; rw [List.length_take]; omega
    · show (List.drop _ l).length ≤ _; rw [List.length_drop]; omega
  · simp

/-! ### numbers that are read -/
theorem uint_snoc2 : ∀ (l : List UInt8) (acc m d : Nat), Lib.parseUint10 acc l = .ok m → m < 1844674407370955161 → d < 10 → Lib.parseUint10 acc (l ++ [UInt8.ofNat (48 + d)]) = .ok (m * 10 + d)
  | [], acc, m, d, h, hm, hd => by
    simp only [Lib.parseUint10] at h
    injection h with h
    subst h
    have e := (digit_of d hd).2
    simp only [List.nil_append, Lib.parseUint10, e]
    rw [if_pos ⟨by omega, by omega⟩, if_neg (by omega), if_neg (by omega)]
    congr 1; omega
  | c :: r, acc, m, d, h, hm, hd => by
    simp only [List.cons_append, Lib.parseUint10] at h ⊢
    split at h
    · split at h
      · cases h
      · split at h
        · cases h
        · rename_i a b c
          rw [if_pos a, if_neg b, if_neg c]
          exact uint_snoc2 r _ m d h hm hd
    · cases h
theorem uint_dec2 (u : Nat) (hu : u < 18446744073709551610) : Lib.parseUint10 0 (Lib.decDigits u) = .ok u := by
  induction u using Nat.strongRecOn with
  | _ u ih =>
    by_cases h : u < 10
    · rw [dec_small h]
      have := uint_snoc2 [] 0 0 u rfl (by decide) h
      simpa using this
    · rw [dec_big h]
      have := uint_snoc2 _ 0 (u / 10) (u % 10) (ih (u / 10) (by omega) (by omega)) (by omega) (by omega)
      rw [this]
      congr 1; omega
theorem atoi_itoa2 (n : Int) (h : Wd n) : Lib.atoiAll (Lib.itoa n) = .ok n := by
  obtain ⟨h0, h1⟩ := h
  unfold Lib.itoa
  split
  · rename_i hn
    obtain ⟨u, hu⟩ : ∃ u : Nat, n.natAbs = u := ⟨_, rfl⟩
    have hun : n = -(u : Int) := by omega
    rw [hu]
    have h2 := uint_dec2 u (by omega)
    have e : (45 : UInt8).toNat = 45 := rfl
    simp only [Lib.atoiAll, Lib.parseMag, e]
    rw [if_pos (show (45 : Nat) = 43 ∨ True from .inr trivial), if_neg (dec_ne u), h2]
    simp only
    rw [if_neg (fun c => c.1 trivial), if_neg (fun c => by have := c.2; omega), if_pos trivial, ← hun]
  · obtain ⟨u, hu⟩ : ∃ u : Nat, n.toNat = u := ⟨_, rfl⟩
    have hun : n = (u : Int) := by omega
    rw [hu]
    have hd := dec_digits u
    have h2 := uint_dec2 u (by omega)
    cases hl : Lib.decDigits u with
    | nil => exact absurd hl (dec_ne u)
    | cons c r =>
      rw [hl] at hd h2
      have hc := hd c List.mem_cons_self
      unfold IdM.digit at hc
      simp only [Lib.atoiAll, Lib.parseMag]
      rw [if_neg (by omega : ¬ (c.toNat = 43 ∨ c.toNat = 45)), if_neg (by simp), h2]
      simp only
      rw [if_neg (by omega), if_neg (by omega), if_neg (by omega), ← hun]
/-! ### what is found in a step's text -/
theorem op_known {o : Op} {n p : Int} (h : opB o n p = true) : knownB o.k = true := by
  unfold opB opK at h
  unfold knownB
  split at h
  · rename_i e; rw [e]; rfl
  · have := of_decide_eq_true h
    exact decide_eq_true (by omega)
/-- what a step of its kind has not is 0 -/
def Own (o : Op) : Prop := (nums o.k = 0 → o.a = 0 ∧ o.b = 0) ∧ (nums o.k = 1 → o.b = 0)
theorem op_own {o : Op} {n p : Int} (h : opB o n p = true) : Own o := by
  obtain ⟨k, a, b⟩ := o
  have hk := op_known h
  unfold opB opK at h
  simp only at h hk
  unfold Own
  simp only
  rcases known_cases hk with rfl | rfl | rfl | rfl | rfl | rfl | rfl
  all_goals
    first
    | (rw [if_pos rfl] at h; exact ⟨fun c => absurd c (by decide), fun c => absurd c (by decide)⟩)
    | (rw [if_neg (by decide)] at h
       have := of_decide_eq_true h
       first
       | exact ⟨fun c => absurd c (by decide), fun _ => by omega⟩
       | exact ⟨fun _ => by omega, fun c => absurd c (by decide)⟩)
theorem word_step {o : Op} (h : knownB o.k = true) : wordOf (stepT o) = verb o.k := by
  have hv := verb_plain 32 (.inl rfl) h
  unfold stepT wordOf
  rcases nums_le h with e | e | e <;> rw [e]
  · show (Lib.cut (verb o.k ++ []) [32]).1 = _
    rw [List.append_nil]; exact (cutb_miss _ hv).1
  · exact (cutb_hit _ _ hv).1
  · exact (cutb_hit _ _ hv).1
/-! ### steps' texts, one behind the other -/
/-- ahead of the next '; ' -/
theorem split_hit {o : Op} (h : knownB o.k = true) (r : List UInt8) : Lib.index (stepT o ++ (59 :: 32 :: r)) [59, 32] = (stepT o).length :=
  index_hit1 59 [32] (stepT o) r (step_plain h)
theorem split_miss {o : Op} (h : knownB o.k = true) : Lib.index (stepT o) [59, 32] = -1 := index_miss1 59 [32] (stepT o) (step_plain h)
theorem right_all {l : List Op} {n p : Int} (h : rightB l n p = true) : l.length ≤ 16 ∧ ∀ o ∈ l, opB o n p = true := by
  unfold rightB at h
  rw [Bool.and_eq_true] at h
  exact ⟨of_decide_eq_true h.1, List.all_eq_true.1 h.2⟩
theorem right_allK {l : List Op} {n p : Int} (h : rightB l n p = true) : allK l = true :=
  List.all_eq_true.2 fun o ho => op_known ((right_all h).2 o ho)
theorem right_text {l : List Op} {n p : Int} (h : rightB l n p = true) : textT l = joinT l := by unfold textT; rw [if_pos (right_allK h)]

end Go.Proofs.YtcoagmkncjonmaaGreatDoor.Pg
