/- Plain mathematics of numbers as bytes, and of reading: no function of the program is spoken of here. Contracts of numbers as bytes: package bytes' own and the document's. Contracts of numbers, texts and truths as bytes: the document's own, and package bytes' texts and truths. Contracts of package bytes' reader. Contracts of package bytes' reader: texts, truths, what is left, its end; and of a nil one. Plain mathematics: what is told is read as it was, and what is read is told as just these bytes. -/
import Derived.Test.YtncdiggejofbbaaGreatDoorChecked
import Derived.WalkKit
import Derived.Test.YtncdiggejofbbaaGreatDoorSt
import Derived.Deep.OwnRows
import Derived.OneCell
import Derived.Laws.BitsAllLaws
import Derived.IntWalk
namespace Go.Proofs.YtncdiggejofbbaaGreatDoor.BsM
set_option linter.unusedVariables false

/-- the last k digits of n to the base 256, the highest one first -/
def be : Nat → Nat → List UInt8
  | 0, _ => []
  | k + 1, n => UInt8.ofNat (n / 256 ^ k) :: be k n
/-- the number that bytes tell -/
def val : List UInt8 → Nat
  | [] => 0
  | b :: l => b.toNat * 256 ^ l.length + val l

theorem be_len (k n : Nat) : (be k n).length = k := by induction k with | zero => rfl | succ k ih => simp [be, ih]
theorem be_zero (n : Nat) : be 0 n = [] := rfl
theorem be_succ (k n : Nat) : be (k + 1) n = UInt8.ofNat (n / 256 ^ k) :: be k n := rfl
theorem pow_pos' (k : Nat) : 0 < 256 ^ k := Nat.pow_pos (by decide)
theorem pow_succ' (k : Nat) : 256 ^ (k + 1) = 256 ^ k * 256 := Nat.pow_succ ..
theorem val_lt (l : List UInt8) : val l < 256 ^ l.length := by
  induction l with
  | nil => decide
  | cons b l ih =>
    have := b.toNat_lt
    simp only [val, List.length_cons, pow_succ']
    calc b.toNat * 256 ^ l.length + val l < b.toNat * 256 ^ l.length + 256 ^ l.length := by omega
      _ = (b.toNat + 1) * 256 ^ l.length := by rw [Nat.add_mul]; omega
      _ ≤ 256 * 256 ^ l.length := Nat.mul_le_mul_right _ (by omega)
      _ = _ := Nat.mul_comm ..
theorem val_be (k n : Nat) : val (be k n) = n % 256 ^ k := by
  induction k with
  | zero => simp [be, val, Nat.mod_one]
  | succ k ih =>
    simp only [be, val, be_len, ih, UInt8.toNat_ofNat']
    rw [pow_succ', Nat.mod_mul, Nat.mul_comm (n / 256 ^ k % _), Nat.add_comm]
theorem val_be_lt (k n : Nat) (h : n < 256 ^ k) : val (be k n) = n := by rw [val_be, Nat.mod_eq_of_lt h]
theorem be_add (k a n : Nat) : be k (a * 256 ^ k + n) = be k n := by
  induction k generalizing a with
  | zero => rfl
  | succ k ih =>
    have e : a * 256 ^ (k + 1) + n = (a * 256) * 256 ^ k + n := by rw [pow_succ', Nat.mul_assoc, Nat.mul_comm 256]
    have e2 : ((a * 256) * 256 ^ k + n) / 256 ^ k = a * 256 + n / 256 ^ k := by
      rw [Nat.mul_comm, Nat.mul_add_div (pow_pos' k)]
    rw [be_succ, be_succ, e, ih, e2]
    congr 1
    apply UInt8.toNat_inj.mp
    simp [UInt8.toNat_ofNat']
theorem be_val (l : List UInt8) : be l.length (val l) = l := by
  induction l with
  | nil => rfl
  | cons b l ih =>
    have h := val_lt l
    have e : (b.toNat * 256 ^ l.length + val l) / 256 ^ l.length = b.toNat := by
      rw [Nat.mul_comm, Nat.mul_add_div (pow_pos' _), Nat.div_eq_of_lt h]; rfl
    simp only [List.length_cons, be_succ, val, e, be_add, ih]
    simp
theorem val_snoc (l : List UInt8) (b : UInt8) : val (l ++ [b]) = val l * 256 + b.toNat := by
  induction l with
  | nil => simp [val]
  | cons c l ih =>
    simp only [List.cons_append, val, ih, List.length_append, List.length_cons, List.length_nil, Nat.zero_add, pow_succ', Nat.add_mul, Nat.mul_assoc]
    omega
theorem val_take (l : List UInt8) (k : Nat) (h : k < l.length) : val (l.take (k + 1)) = val (l.take k) * 256 + (l.getD k 0).toNat := by
  rw [List.take_succ_eq_append_getElem h, val_snoc, List.getD_eq_getElem?_getD, List.getElem?_eq_getElem h]; rfl
theorem val_take_lt (l : List UInt8) (k : Nat) : val (l.take k) < 256 ^ k :=
  Nat.lt_of_lt_of_le (val_lt _) (Nat.pow_le_pow_right (by decide) (List.length_take_le ..))
theorem pow_le (k j : Nat) (h : k ≤ j) : 256 ^ k ≤ 256 ^ j := Nat.pow_le_pow_right (by decide) h
theorem pow7 : 256 ^ 7 = 72057594037927936 := by decide
theorem pow6 : 256 ^ 6 = 281474976710656 := by decide

/-- whether numbers may have so many bytes; a number's bytes -/
def okw (k : Int) : Bool := decide (1 ≤ k) && decide (k ≤ 7)
def numOk (n k : Int) : Bool := okw k && decide (0 ≤ n) && decide (n.toNat / 256 ^ k.toNat = 0)
def numL (n k : Int) : List UInt8 := if numOk n k then be k.toNat n.toNat else []
def textL (l : List UInt8) : List UInt8 := if l.length ≤ 255 then UInt8.ofNat l.length :: l else []
def flagL (b : Bool) : List UInt8 := if b then [1] else [0]
theorem okw_yes {k : Int} (h1 : 1 ≤ k) (h2 : k ≤ 7) : okw k = true := by simp [okw, h1, h2]
theorem okw_lo {k : Int} (h : k < 1) : okw k = false := by simp [okw]; omega
theorem okw_hi {k : Int} (h : 7 < k) : okw k = false := by simp [okw]; omega
theorem okw_iff {k : Int} : okw k = true ↔ 1 ≤ k ∧ k ≤ 7 := by simp [okw]
theorem num_no {n k : Int} (h : numOk n k = false) : numL n k = [] := by simp [numL, h]
theorem num_yes {n k : Int} (h : numOk n k = true) : numL n k = be k.toNat n.toNat := by simp [numL, h]
theorem num_one (n : Nat) (h : n < 256) : numL (n : Int) 1 = [UInt8.ofNat n] := by
  have : numOk (n : Int) 1 = true := by simp [numOk, okw]; omega
  rw [num_yes this]; simp [be]
theorem numOk_lt {n k : Int} (h : numOk n k = true) : 1 ≤ k ∧ k ≤ 7 ∧ 0 ≤ n ∧ n.toNat < 256 ^ k.toNat := by
  simp only [numOk, okw, Bool.and_eq_true, decide_eq_true_eq] at h
  exact ⟨h.1.1.1, h.1.1.2, h.1.2, by have := (Nat.div_eq_zero_iff).mp h.2; have := pow_pos' k.toNat; omega⟩
theorem numOk_mk {n k : Int} (h1 : 1 ≤ k) (h2 : k ≤ 7) (h3 : 0 ≤ n) (h4 : n.toNat < 256 ^ k.toNat) : numOk n k = true := by
  simp only [numOk, okw, Bool.and_eq_true, decide_eq_true_eq]
  exact ⟨⟨⟨h1, h2⟩, h3⟩, Nat.div_eq_of_lt h4⟩
theorem num_len {n k : Int} (h : numOk n k = true) : (numL n k).length = k.toNat := by rw [num_yes h, be_len]
theorem num_val {n k : Int} (h : numOk n k = true) : val (numL n k) = n.toNat := by rw [num_yes h, val_be_lt _ _ (numOk_lt h).2.2.2]
theorem num_nil {n k : Int} : numL n k = [] ↔ numOk n k = false := by
  constructor
  · intro h
    by_cases h2 : numOk n k = true
    · have := num_len h2; have := numOk_lt h2; rw [h] at *; simp at *; omega
    · simpa using h2
  · exact num_no

/-- cells of which the last i are done -/
theorem cells_step {α : Type} (z : α) (k i : Nat) (x : α) (r : List α) (h : i < k) : (List.replicate (k - i) z ++ r).set (k - 1 - i) x = List.replicate (k - (i + 1)) z ++ x :: r := by
  have e : k - i = (k - (i + 1)) + 1 := by omega
  have e2 : k - 1 - i = k - (i + 1) := by omega
  rw [e, e2, List.replicate_succ', List.append_assoc, List.set_append_right _ _ (by simp)]
  simp

/-! ### what a reader does: the bytes that are left, and what is wrong -/
abbrev S := List UInt8 × Int
def failS (s : S) (x : Int) : S := if s.2 = 0 ∧ x ≠ 0 then ([], x) else s
def takeV (s : S) (n : Nat) : List UInt8 := if n ≤ s.1.length then s.1.take n else []
def takeS (s : S) (n : Nat) : S := if n ≤ s.1.length then (s.1.drop n, s.2) else failS s 3
def numV (s : S) (k : Int) : Nat := if okw k then val (takeV s k.toNat) else 0
def numS (s : S) (k : Int) : S := if okw k then takeS s k.toNat else failS s 2
def textV (s : S) : List UInt8 := takeV (numS s 1) (numV s 1)
def textS (s : S) : S := takeS (numS s 1) (numV s 1)
def flagV (s : S) : Bool := decide (numV s 1 = 1)
def flagS (s : S) : S := if 1 < numV s 1 then failS (numS s 1) 5 else numS s 1
def endS (s : S) : S := if 0 < s.1.length then failS s 5 else s
def endV (s : S) : Int := (endS s).2

theorem takeV_len (s : S) (n : Nat) : (takeV s n).length ≤ n := by unfold takeV; split <;> simp; omega
theorem takeV_le (s : S) (n : Nat) : (takeV s n).length ≤ s.1.length := by unfold takeV; split <;> simp; omega
theorem numV_lt (s : S) (k : Int) : numV s k < 72057594037927936 := by
  unfold numV
  split
  · rename_i h
    have := okw_iff.mp h
    have h1 := val_lt (takeV s k.toNat)
    have h2 := pow_le _ 7 (Nat.le_trans (takeV_len s k.toNat) (by omega))
    rw [pow7] at h2
    omega
  · decide
theorem numV_one_lt (s : S) : numV s 1 < 256 := by
  unfold numV
  rw [if_pos (show okw 1 = true from rfl)]
  have h1 := val_lt (takeV s (1 : Int).toNat)
  have h2 := pow_le _ 1 (takeV_len s (1 : Int).toNat)
  omega
theorem failS_len (s : S) (x : Int) : (failS s x).1.length ≤ s.1.length := by unfold failS; split <;> simp
theorem takeS_len (s : S) (n : Nat) : (takeS s n).1.length ≤ s.1.length := by unfold takeS; split; simp; exact failS_len ..
theorem numS_len (s : S) (k : Int) : (numS s k).1.length ≤ s.1.length := by unfold numS; split; exact takeS_len ..; exact failS_len ..

end Go.Proofs.YtncdiggejofbbaaGreatDoor.BsM

namespace Go.Proofs.YtncdiggejofbbaaGreatDoor.Bs
open Go.RowKit St Go.Sort BsM
set_option linter.unusedVariables false

theorem info8 : (Tryz.prog.info? 5).map (fun i => (i.zero, i.size, i.bytes)) = some (some (.int .u8 0), 1, 1) := by kernel_rfl
theorem made_eq (k : Nat) : madeCells #[.int .u8 0] k = (List.replicate k (Value.int .u8 0)).toArray := by
  apply Array.ext
  · simp [size_madeCells]
  · intro i h1 h2; simp [madeCells, Nat.mod_one]

theorem shr_eq (m j : Nat) : (m : Int) / 2 ^ (8 * j) = ((m / 256 ^ j : Nat) : Int) := by
  rw [show (256 : Nat) ^ j = 2 ^ (8 * j) by rw [Nat.pow_mul]]
  norm_cast

theorem right_any (k : Int) (w : World) :
    Calls Tryz.prog 83 #[.int .i64 k] w fun e w' => e = .returned (.bool (okw k)) ∧ w = w' := by
  by_cases h1 : 1 ≤ k
  · by_cases h2 : k ≤ 7
    · have h := Lib.hid (okw_yes h1 h2)
      go_enter Tryz.func83, Tryz.ntmps83
      go_wp2_with fail
      go_ret
      exact ⟨ret_bool h.out.symm, rfl⟩
    · have h := Lib.hid (okw_hi (k := k) (by omega))
      go_enter Tryz.func83, Tryz.ntmps83
      go_wp2_with fail
      go_ret
      exact ⟨ret_bool h.out.symm, rfl⟩
  · have h := Lib.hid (okw_lo (k := k) (by omega))
    go_enter Tryz.func83, Tryz.ntmps83
    go_wp2_with fail
    go_ret
    exact ⟨ret_bool h.out.symm, rfl⟩

set_option maxHeartbeats 400000 in
theorem num_no_any (n k : Int) (h : numOk n k = false) (w : World) :
    Calls Tryz.prog 68 #[.int .i64 n, .int .i64 k] w fun e w' => e = .returned (.string ⟨#[]⟩) ∧ w = w' := by
  by_cases h1 : okw k = true
  · have hr := right_any k w
    rw [h1] at hr
    have HR := Lib.hid hr
    have hk := okw_iff.mp h1
    clear hr
    by_cases h0 : n < 0
    · clear h h1
      go_enter Tryz.func68, Tryz.ntmps68
      go_wp2_with (go_at_call 83; refine HR.out.mono ?_; rintro e w' ⟨rfl, rfl⟩)
      go_ret
      exact ⟨rfl, rfl⟩
    · obtain ⟨m, rfl⟩ : ∃ m : Nat, n = m := ⟨n.toNat, by omega⟩
      obtain ⟨j, rfl⟩ : ∃ j : Nat, k = j := ⟨k.toNat, by omega⟩
      have hq : 0 < (m : Int) / 2 ^ (8 * j) := by
        rw [shr_eq]
        have : ¬ m / 256 ^ j = 0 := fun e => by
          have : numOk m j = true := by simp [numOk, h1, e]
          rw [this] at h; cases h
        exact Int.natCast_pos.mpr (Nat.pos_of_ne_zero this)
      clear h h1 h0
      go_enter Tryz.func68, Tryz.ntmps68
      go_wp2_with (go_at_call 83; refine HR.out.mono ?_; rintro e w' ⟨rfl, rfl⟩)
      go_ret
      exact ⟨rfl, rfl⟩
  · have hr := right_any k w
    rw [show okw k = false by simpa using h1] at hr
    have HR := Lib.hid hr
    clear hr h h1
    go_enter Tryz.func68, Tryz.ntmps68
    go_wp2_with (go_at_call 83; refine HR.out.mono ?_; rintro e w' ⟨rfl, rfl⟩)
    go_ret
    exact ⟨rfl, rfl⟩

set_option maxHeartbeats 400000 in
theorem num_yes_any (n k : Nat) (h1 : 1 ≤ k) (h2 : k ≤ 7) (h : n < 256 ^ k) (w : World) :
    Calls Tryz.prog 68 #[.int .i64 (n : Int), .int .i64 (k : Int)] w fun e w' => e = .returned (.string ⟨(be k n).toArray⟩) ∧ Kept w w' := by
  have hr := right_any k w
  rw [okw_yes (by omega) (by omega)] at hr
  have HR := Lib.hid hr
  have hq : (n : Int) / 2 ^ (8 * k) ≤ 0 := by rw [shr_eq, Nat.div_eq_of_lt h]; decide
  have H := Lib.hid h
  clear hr h
  have hmk := run_make_row' (P := Tryz.prog) 100 5 (.int .u8 0) 1 Tryz.underlying100 info8 rfl .i64 .i64 k (by omega) (by omega)
  go_enter Tryz.func68, Tryz.ntmps68
  go_wp2_with (go_at_call 83; refine HR.out.mono ?_; rintro e w' ⟨rfl, rfl⟩)
  go_loopw [24] (fun i wr => ∃ q : Nat, q ≤ k ∧ i = .int .i64 (q : Int) ∧ wr.heap[w.heap.size]? = some (.cells (List.replicate (k - q) (Value.int .u8 0) ++ cellsOf (be q n)).toArray 5 (0, 0)) ∧ Kept w wr) (fun i _ => k - (intOf i).toNat)
  case atStart => exact ⟨0, Nat.zero_le _, rfl, by rw [blk_new, made_eq]; simp [be, cellsOf], (Below.refl _ _).alloc (Nat.le_refl _) _⟩
  case round =>
    obtain ⟨q, hqk, rfl, hblk, hkept⟩ := hrel
    by_cases hlt : q < k
    · have hcell : wr.cell? ⟨w.heap.size, k - 1 - q, none⟩ = some (.int .u8 0) := by
        rw [blk_cell hblk, List.getElem?_toArray, List.getElem?_append_left (by simp; omega), List.getElem?_replicate, if_pos (by omega)]
      have hfree := blk_free hblk (k - 1 - q)
      obtain ⟨z, hz⟩ : ∃ z : Int, (n : Int) / 2 ^ (8 * q) % 256 = z := ⟨_, rfl⟩
      have hset : ∀ v : Value, v = .int .u8 z → (wr.setCell ⟨w.heap.size, k - 1 - q, none⟩ v).heap[w.heap.size]? = some (.cells (List.replicate (k - (q + 1)) (Value.int .u8 0) ++ cellsOf (be (q + 1) n)).toArray 5 (0, 0)) := fun v hv => by
        rw [blk_set hblk, hv]
        have hc := cells_step (Value.int .u8 0) k q (.int .u8 z) (cellsOf (be q n)) hlt
        have e : cellsOf (be (q + 1) n) = .int .u8 z :: cellsOf (be q n) := by
          rw [be_succ, ← hz, shr_eq]
          simp [cellsOf, UInt8.toNat_ofNat']
        rw [e, ← hc]
        simp
      have HS := Lib.hid hset
      have HB := Lib.hid hblk
      clear hset hblk
      go_wp2_with fail
      go_roundw
      case rel => exact ⟨q + 1, by omega, by go_num, HS.out _ rfl, hkept.setCell (Nat.le_refl _) _⟩
      case measure => simp [intOf]; omega
    · obtain rfl : q = k := by omega
      have hb2 : wr.heap[w.heap.size]? = some (.cells (cellsOf (be q n)).toArray 5 (0, 0)) := by rw [hblk]; simp
      have hconv := conv_blk (l := be q n) q hb2
      rw [be_len] at hconv
      clear hblk hb2
      go_wp2_with fail
      go_ret
      exact ⟨rfl, hkept⟩

end Go.Proofs.YtncdiggejofbbaaGreatDoor.Bs

namespace Go.Proofs.YtncdiggejofbbaaGreatDoor.Bs
open Go.RowKit St Go.Sort BsM
set_option linter.unusedVariables false

/-- one byte told as a text -/
theorem one_text (m : Nat) : ∃ E : ByteArray, (∀ w : World, (convert 100 9 (.slice (some ⟨w.heap.size, 0, none⟩) 1 1)).run Tryz.prog (w.alloc (.cells #[.int .u8 ((m : Int) % 256)] 5)) =
    .ok (.string E) (w.alloc (.cells #[.int .u8 ((m : Int) % 256)] 5))) ∧ Hid (E.data.toList = [UInt8.ofNat m]) ∧ E.size ≤ 1 := by
  refine ⟨⟨[UInt8.ofNat m].toArray⟩, fun w => ?_, rfl, Nat.le_refl _⟩
  have h := conv_new w [UInt8.ofNat m] 1
  have e : (cellsOf [UInt8.ofNat m]).toArray = #[.int .u8 ((m : Int) % 256)] := by simp [cellsOf, UInt8.toNat_ofNat']
  rw [e] at h
  exact h
theorem ret_list {a : ByteArray} {l : List UInt8} (h : a.data.toList = l) : Ending.returned (.string a) = .returned (.string ⟨l.toArray⟩) := by rw [str_of a l h]
theorem ret_none {l : List UInt8} (h : l = []) : Ending.returned (.string ⟨#[]⟩) = .returned (.string ⟨l.toArray⟩) := by rw [h]
theorem cat_list {D E : ByteArray} {a b c : List UInt8} (hD : D.data.toList = a) (hE : E.data.toList = b) (h : a ++ b = c) : (D ++ E).data.toList = c := by rw [← h, ← hD, ← hE]; simp
theorem str_cat {D E : ByteArray} {a b c : List UInt8} (hD : D.data.toList = a) (hE : E.data.toList = b) (h : a ++ b = c) : Value.string (D ++ E) = .string ⟨c.toArray⟩ := by
  have : (D ++ E).data.toList = c := by rw [← h, ← hD, ← hE]; simp
  rw [str_of _ _ this]




theorem num_any (n k : Int) (w : World) :
    Calls Tryz.prog 68 #[.int .i64 n, .int .i64 k] w fun e w' => e = .returned (.string ⟨(numL n k).toArray⟩) ∧ Kept w w' := by
  by_cases h : numOk n k = true
  · obtain ⟨h1, h2, h3, h4⟩ := numOk_lt h
    obtain ⟨m, rfl⟩ : ∃ m : Nat, n = m := ⟨n.toNat, by omega⟩
    obtain ⟨j, rfl⟩ : ∃ j : Nat, k = j := ⟨k.toNat, by omega⟩
    rw [num_yes h]
    exact num_yes_any m j (by omega) (by omega) h4 w
  · have h' : numOk n k = false := by simpa using h
    rw [num_no h']
    exact (num_no_any n k h' w).mono fun _ _ ⟨he, hw⟩ => ⟨he, by subst hw; exact Kept.refl _⟩

theorem text_no {l : List UInt8} (h : 255 < l.length) : textL l = [] := by unfold textL; rw [if_neg (by omega)]
theorem text_yes {l : List UInt8} (h : l.length ≤ 255) : textL l = [UInt8.ofNat l.length] ++ l := by unfold textL; rw [if_pos h]; rfl

set_option maxHeartbeats 400000 in
theorem text_any (s : ByteArray) (w : World) :
    Calls Tryz.prog 70 #[.string s] w fun e w' => e = .returned (.string ⟨(textL s.data.toList).toArray⟩) ∧ Kept w w' := by
  have hl := Lib.hid (size_list s)
  by_cases h : 255 < s.size
  · have ht := Lib.hid (text_no (l := s.data.toList) (by rw [← hl.out]; exact h))
    go_enter Tryz.func70, Tryz.ntmps70
    go_wp2_with fail
    go_ret
    exact ⟨ret_none ht.out, Kept.refl _⟩
  · have ht := Lib.hid (text_yes (l := s.data.toList) (by rw [← hl.out]; omega))
    have hn := num_any (s.size : Int) 1 w
    obtain ⟨D, hD⟩ : ∃ D : ByteArray, (⟨(numL (s.size : Int) 1).toArray⟩ : ByteArray) = D := ⟨_, rfl⟩
    rw [hD] at hn
    have hDl : Hid (D.data.toList = [UInt8.ofNat s.data.toList.length]) := by show _ = _; rw [← hD, num_one _ (by omega), hl.out]
    have hDs : D.size ≤ 1 := by rw [size_list, hDl.out]; simp
    have HN := Lib.hid hn
    clear hD hn
    go_enter Tryz.func70, Tryz.ntmps70
    go_wp2_with (go_at_call 68; refine HN.out.mono ?_; rintro e w' ⟨rfl, hk⟩)
    go_ret
    exact ⟨ret_list (cat_list hDl.out rfl ht.out.symm), hk⟩


theorem flag_any (b : Bool) (w : World) :
    Calls Tryz.prog 72 #[.bool b] w fun e w' => e = .returned (.string ⟨(flagL b).toArray⟩) ∧ Kept w w' := by
  cases b
  · have hn := num_any ((0 : Nat) : Int) 1 w
    rw [num_one _ (by decide)] at hn
    have HN := Lib.hid (show Calls Tryz.prog 68 #[.int .i64 0, .int .i64 1] w fun e w' => e = .returned (.string ⟨#[0]⟩) ∧ Kept w w' from hn)
    clear hn
    go_enter Tryz.func72, Tryz.ntmps72
    go_wp2_with (go_at_call 68; refine HN.out.mono ?_; rintro e w' ⟨rfl, hk⟩)
    go_ret
    exact ⟨rfl, hk⟩
  · have hn := num_any ((1 : Nat) : Int) 1 w
    rw [num_one _ (by decide)] at hn
    have HN := Lib.hid (show Calls Tryz.prog 68 #[.int .i64 1, .int .i64 1] w fun e w' => e = .returned (.string ⟨#[1]⟩) ∧ Kept w w' from hn)
    clear hn
    go_enter Tryz.func72, Tryz.ntmps72
    go_wp2_with (go_at_call 68; refine HN.out.mono ?_; rintro e w' ⟨rfl, hk⟩)
    go_ret
    exact ⟨rfl, hk⟩

end Go.Proofs.YtncdiggejofbbaaGreatDoor.Bs

namespace Go.Proofs.YtncdiggejofbbaaGreatDoor.Bs
open Go.RowKit St Go.Sort BsM
set_option linter.unusedVariables false

/-- but for one block nothing of what was there has turned -/
structure Only (b : Nat) (w w' : World) : Prop where
  os : w'.os = w.os
  tape : w'.tape = w.tape
  output : w'.output = w.output
  size : w.heap.size ≤ w'.heap.size
  block : ∀ k, k < w.heap.size → k ≠ b → w'.heap[k]? = w.heap[k]?
theorem Only.refl (b : Nat) (w : World) : Only b w w := ⟨rfl, rfl, rfl, Nat.le_refl _, fun _ _ _ => rfl⟩
theorem Only.trans {b : Nat} {x y z : World} (h : Only b x y) (k : Only b y z) : Only b x z :=
  ⟨k.os.trans h.os, k.tape.trans h.tape, k.output.trans h.output, Nat.le_trans h.size k.size, fun i hi hb => (k.block i (Nat.lt_of_lt_of_le hi h.size) hb).trans (h.block i hi hb)⟩
theorem Only.set {b : Nat} {x y : World} (h : Only b x y) (o : Nat) (u : Value) : Only b x (y.setCell ⟨b, o, none⟩ u) :=
  h.trans ⟨rfl, rfl, rfl, by simp [World.setCell], fun k hk hb => Below.heap_setCell _ _ _ _ hb⟩
theorem Only.drew {b : Nat} {x y : World} (h : Only b x y) : Only b x y.drew := h.trans ⟨rfl, rfl, rfl, Nat.le_refl _, fun _ _ _ => rfl⟩
theorem Only.drewN {b : Nat} {x y : World} (h : Only b x y) (n : Nat) : Only b x (y.drewN n) := h.trans ⟨rfl, rfl, rfl, Nat.le_refl _, fun _ _ _ => rfl⟩
/-- a block of the call's own -/
theorem Only.below {b B : Nat} {a x y : World} (h : Only b x y) (hk : Below B a x) (hB : B ≤ b) (hx : B ≤ x.heap.size) : Below B a y :=
  hk.trans ⟨h.os, h.tape, h.output, h.size, fun k hk' => h.block k (Nat.lt_of_lt_of_le hk' hx) (by omega)⟩
theorem Only.other {b c : Nat} {x y : World} {o : Obj} (h : Only b x y) (hc : x.heap[c]? = some o) (hn : c ≠ b) : y.heap[c]? = some o := by rw [h.block c (blk_lt hc) hn]; exact hc
theorem kept_blk {c : Nat} {x y : World} {o : Obj} (h : Kept x y) (hc : x.heap[c]? = some o) : y.heap[c]? = some o := by rw [Below.block h c (blk_lt hc)]; exact hc

/-- the reader at block b: the bytes that are left, and what is wrong -/
def Rd (w : World) (b : Nat) (s : S) : Prop := w.heap[b]? = some (.cells #[.string ⟨s.1.toArray⟩, .int .i64 s.2] 94 (0, 0))
def Does (b : Nat) (a : World) (v : Value) (s' : S) (e : Ending) (w' : World) : Prop := e = .returned v ∧ Rd w' b s' ∧ Only b a w'
theorem Rd.kept {x y : World} {b : Nat} {s : S} (h : Rd x b s) (k : Kept x y) : Rd y b s := kept_blk k h
theorem Rd.other {x y : World} {b c : Nat} {s : S} (h : Rd x c s) (k : Only b x y) (hn : c ≠ b) : Rd y c s := k.other h hn
/-- what stands in the reader's two cells, its text under a name -/
theorem Rd.open {w : World} {b : Nat} {s : S} (h : Rd w b s) : ∃ D : ByteArray, w.cell? ⟨b, 0, none⟩ = some (.string D) ∧ w.cell? ⟨b, 1, none⟩ = some (.int .i64 s.2) ∧ w.frozen? ⟨b, 0, none⟩ = false ∧ w.frozen? ⟨b, 1, none⟩ = false ∧
    Hid (D.data.toList = s.1) ∧ Hid (D.size = s.1.length) ∧ Hid (∀ (o : Nat) (u : Value) , (w.setCell ⟨b, o, none⟩ u).heap[b]? = some (.cells ((#[.string D, .int .i64 s.2] : Array Value).setIfInBounds o u) 94 (0, 0))) := by
  have h' : w.heap[b]? = some (.cells #[.string ⟨s.1.toArray⟩, .int .i64 s.2] 94 (0, 0)) := h
  exact ⟨⟨s.1.toArray⟩, by rw [blk_cell h']; rfl, by rw [blk_cell h']; rfl, blk_free h' 0, blk_free h' 1, rfl, by show _ = _; rw [size_list], fun o u => blk_set h' o u⟩
theorem Rd.mk {w : World} {b : Nat} {D : ByteArray} {x : Int} {l : List UInt8} (h : w.heap[b]? = some (.cells #[.string D, .int .i64 x] 94 (0, 0))) (hD : D.data.toList = l) : Rd w b (l, x) := by
  have := str_of D l hD; subst this; exact h

theorem open_any (s : ByteArray) (w : World) :
    Calls Tryz.prog 45 #[.string s] w fun e w' => e = .returned (.pointer (some ⟨w.heap.size, 0, none⟩)) ∧ Rd w' w.heap.size (s.data.toList, 0) ∧ Kept w w' := by
  go_enter Tryz.func45, Tryz.ntmps45
  go_wp2_with fail
  go_ret
  exact ⟨rfl, by rw [Rd, blk_new], (Below.refl _ _).alloc (Nat.le_refl _) _⟩

theorem fail_no1 {s : S} {x : Int} (h : s.2 ≠ 0) : failS s x = s := by simp [failS, h]
theorem fail_no2 {s : S} : failS s 0 = s := by simp [failS]
theorem fail_yes {s : S} {x : Int} (h : s.2 = 0) (hx : x ≠ 0) : failS s x = ([], x) := by simp [failS, h, hx]

theorem two_first {s : ByteArray} {v : Value} : ((#[.string s, v] : Array Value).setIfInBounds 0 (.string ⟨#[]⟩)) = #[.string ⟨#[]⟩, v] := rfl

set_option maxHeartbeats 400000 in
theorem fail_any (b : Nat) (s : S) (x : Int) (w : World) (hr : Rd w b s) :
    Calls Tryz.prog 65 #[.pointer (some ⟨b, 0, none⟩), .int .i64 x] w (Does b w (.tuple #[]) (failS s x)) := by
  obtain ⟨D, hc0, hc1, hf0, hf1, hD, hDs, hset⟩ := hr.open
  have HR := Lib.hid hr
  clear hr
  by_cases h0 : s.2 = 0
  · rw [h0] at hc1
    by_cases hx : x = 0
    · subst hx
      have he := Lib.hid (fail_no2 (s := s))
      clear h0
      go_enter Tryz.func65, Tryz.ntmps65
      go_wp2_with fail
      refine bodyPost_ret (results_none rfl _ _ _) rfl ?_
      exact ⟨rfl, by rw [he.out]; exact HR.out, Only.refl _ _⟩
    · have he := Lib.hid (fail_yes (s := s) h0 hx)
      have h1 : (x == 0) = false := by simpa using hx
      clear h0 hx
      go_enter Tryz.func65, Tryz.ntmps65
      go_wp2_with fail
      go_end0
      exact ⟨rfl, by rw [he.out]; exact blk_set (hset.out 1 (.int .i64 x)) 0 _, ((Only.refl _ _).set _ _).set _ _⟩
  · have he := Lib.hid (fail_no1 (s := s) (x := x) h0)
    obtain ⟨z, hz⟩ : ∃ z, s.2 = z := ⟨_, rfl⟩
    have h1 : (z != 0) = true := by rw [← hz]; simpa using h0
    rw [hz] at hc1
    clear h0 hz
    go_enter Tryz.func65, Tryz.ntmps65
    go_wp2_with fail
    refine bodyPost_ret (results_none rfl _ _ _) rfl ?_
    exact ⟨rfl, by rw [he.out]; exact HR.out, Only.refl _ _⟩

theorem take_no {s : S} {n : Nat} (h : s.1.length < n) : takeV s n = [] ∧ takeS s n = failS s 3 := by
  constructor
  · unfold takeV; rw [if_neg (by omega)]
  · unfold takeS; rw [if_neg (by omega)]
theorem take_yes {s : S} {n : Nat} (h : n ≤ s.1.length) : takeV s n = s.1.take n ∧ takeS s n = (s.1.drop n, s.2) := by
  constructor
  · unfold takeV; rw [if_pos h]
  · unfold takeS; rw [if_pos h]
/-- a text cut in two -/
theorem cut_two (D : ByteArray) (n : Nat) (h : n ≤ D.size) : ∃ E F : ByteArray, (∀ w, (Instr.slice 9 (.string D) none (some (.int .i64 (n : Int))) none).run Tryz.prog w = .ok (.string E) w) ∧
    (∀ w, (Instr.slice 9 (.string D) (some (.int .i64 (n : Int))) none none).run Tryz.prog w = .ok (.string F) w) ∧ Hid (E.data.toList = D.data.toList.take n) ∧ Hid (F.data.toList = D.data.toList.drop n) := by
  refine ⟨D.extract 0 n, D.extract n D.size, fun w => ?_, fun w => ?_, ?_, ?_⟩
  · rw [run_slice_string_to_if w 9 D .i64 _ Tryz.underlying9, if_pos ⟨by omega, by omega⟩]; rfl
  · rw [run_slice_string_from_if w 9 D .i64 _ Tryz.underlying9, if_pos ⟨by omega, by omega⟩]; rfl
  · show _ = _; rw [extract_list]; rfl
  · show _ = _; rw [extract_list, List.take_of_length_le (by rw [size_list]; exact Nat.le_refl _)]

set_option maxHeartbeats 400000 in
theorem take_any (b : Nat) (s : S) (n : Nat) (w : World) (hr : Rd w b s) :
    Calls Tryz.prog 84 #[.pointer (some ⟨b, 0, none⟩), .int .i64 (n : Int)] w (Does b w (.string ⟨(takeV s n).toArray⟩) (takeS s n)) := by
  obtain ⟨D, hc0, hc1, hf0, hf1, hD, hDs, hset⟩ := hr.open
  by_cases hn : n ≤ D.size
  · obtain ⟨E, F, hE, hF, hEl, hFl⟩ := cut_two D n hn
    have hT := Lib.hid (take_yes (s := s) (n := n) (by rw [← hDs.out]; exact hn))
    have HR := Lib.hid hr
    clear hr
    go_enter Tryz.func84, Tryz.ntmps84
    go_wp2_with fail
    go_ret
    exact ⟨ret_list (by rw [hEl.out, hD.out, hT.out.1]), by rw [hT.out.2]; exact Rd.mk (hset.out 0 _) (by rw [hFl.out, hD.out]), (Only.refl _ _).set _ _⟩
  · have hT := Lib.hid (take_no (s := s) (n := n) (by rw [← hDs.out]; omega))
    have hn2 : D.size < n := by omega
    have hfail := Lib.hid (fail_any b s 3 w hr)
    clear hr hn
    go_enter Tryz.func84, Tryz.ntmps84
    go_wp2_with (go_at_call 65; refine hfail.out.mono ?_; rintro e w' ⟨rfl, hr', ho⟩)
    go_ret
    exact ⟨ret_none hT.out.1, by rw [hT.out.2]; exact hr', ho⟩

theorem take_nil (n : Int) (w : World) (hfail : Calls Tryz.prog 65 #[.pointer none, .int .i64 3] w fun e w' => e = .returned (.tuple #[]) ∧ w = w') :
    Calls Tryz.prog 84 #[.pointer none, .int .i64 n] w fun e w' => e = .returned (.string ⟨#[]⟩) ∧ w = w' := by
  have H := Lib.hid hfail
  clear hfail
  go_enter Tryz.func84, Tryz.ntmps84
  go_wp2_with (go_at_call 65; refine H.out.mono ?_; rintro e w' ⟨rfl, rfl⟩)
  go_ret
  exact ⟨rfl, rfl⟩
theorem fail_nil (x : Int) (w : World) :
    Calls Tryz.prog 65 #[.pointer none, .int .i64 x] w fun e w' => e = .returned (.tuple #[]) ∧ w = w' := by
  go_enter Tryz.func65, Tryz.ntmps65
  go_wp2_with fail
  refine bodyPost_ret (results_none rfl _ _ _) rfl ?_
  exact ⟨rfl, rfl⟩

theorem or_byte (n c : Nat) (hn : n < 281474976710656) (hc : c < 256) : bits .or .i64 ((n : Int) * 256) (c : Int) = ((n * 256 + c : Nat) : Int) := by
  have e : (n : Int) * 256 = ((n * 256 : Nat) : Int) := by omega
  have h1 : (BitVec.ofInt 64 ((n * 256 : Nat) : Int)).toNat = n * 256 := by rw [BitVec.ofInt_natCast, BitVec.toNat_ofNat]; exact Nat.mod_eq_of_lt (by omega)
  have h2 : (BitVec.ofInt 64 (c : Int)).toNat = c := by rw [BitVec.ofInt_natCast, BitVec.toNat_ofNat]; exact Nat.mod_eq_of_lt (by omega)
  have h3 : n * 256 ||| c = n * 256 + c := by
    have := Nat.shiftLeft_add_eq_or_of_lt (b := c) (i := 8) (by omega) n
    rw [Nat.shiftLeft_eq] at this; exact this.symm
  rw [e]
  show IntKind.i64.wrap ((BitVec.ofInt 64 ((n * 256 : Nat) : Int) ||| BitVec.ofInt 64 (c : Int)).toNat : Int) = _
  rw [BitVec.toNat_or, h1, h2, h3]
  exact IntWalk.i64_in _ (by omega)

theorem byteNat (s : ByteArray) (i : Nat) (h : i < s.size) :
    ∃ b : Nat, b < 256 ∧ (∀ w, (Instr.index 9 (.string s) (.int .i64 (i : Int))).run Tryz.prog w = .ok (.int .u8 (b : Int)) w) ∧ Hid (b = (s.data.toList.getD i 0).toNat) :=
  ⟨_, (s.data.toList.getD i 0).toNat_lt, fun w => by
    rw [run_index_string w 9 s .i64 i Tryz.underlying9, dif_pos ⟨by omega, by omega⟩]
    have e := get_byte s i h
    simp only [Int.toNat_natCast]
    rw [e], rfl⟩

theorem numS_yes {s : S} {k : Int} (h : okw k = true) : numV s k = val (takeV s k.toNat) ∧ numS s k = takeS s k.toNat := by unfold numV numS; rw [if_pos h, if_pos h]; exact ⟨rfl, rfl⟩
theorem numS_no {s : S} {k : Int} (h : okw k = false) : numV s k = 0 ∧ numS s k = failS s 2 := by unfold numV numS; rw [h]; exact ⟨rfl, rfl⟩

set_option maxHeartbeats 800000 in
theorem rdnum_any (b : Nat) (s : S) (k : Int) (w : World) (hr : Rd w b s) :
    Calls Tryz.prog 62 #[.pointer (some ⟨b, 0, none⟩), .int .i64 k] w (Does b w (.int .i64 (numV s k : Int)) (numS s k)) := by
  have hok := right_any k w
  by_cases hk : okw k = true
  · obtain ⟨j, rfl⟩ : ∃ j : Nat, k = j := ⟨k.toNat, by have := okw_iff.mp hk; omega⟩
    have hj : 1 ≤ j ∧ j ≤ 7 := by have := okw_iff.mp hk; omega
    have hT := numS_yes (s := s) hk
    rw [hk] at hok
    have htake := take_any b s j w hr
    have hlen := takeV_len s j
    rw [Int.toNat_natCast] at hT
    obtain ⟨t, ht⟩ : ∃ t, takeV s j = t := ⟨_, rfl⟩
    rw [ht] at htake hT hlen
    obtain ⟨D, hD⟩ : ∃ D : ByteArray, (⟨t.toArray⟩ : ByteArray) = D := ⟨_, rfl⟩
    have hDl : D.data.toList = t := by rw [← hD]
    have hDs : D.size ≤ 7 := by rw [size_list, hDl]; omega
    have hDs2 : D.size = t.length := by rw [size_list, hDl]
    rw [hD] at htake
    have HK := Lib.hid hok
    have HT := Lib.hid hT
    have HC := Lib.hid htake
    have HD := Lib.hid hDl
    have HDS := Lib.hid hDs2
    clear hok hT htake hDl hD ht hDs2 hk hr
    go_enter Tryz.func62, Tryz.ntmps62
    go_wp2_with (first | (go_at_call 83; refine HK.out.mono ?_; rintro e w' ⟨rfl, rfl⟩) | (go_at_call 84; refine HC.out.mono ?_; rintro e w' ⟨rfl, hr', ho⟩))
    go_loop [6, 18] (fun n i => ∃ q : Nat, q ≤ D.size ∧ i = .int .i64 (q : Int) ∧ n = .int .i64 (val (t.take q) : Int)) (fun _ i => D.size - (intOf i).toNat)
    case atStart => exact ⟨0, Nat.zero_le _, rfl, rfl⟩
    case round =>
      obtain ⟨q, hq, rfl, rfl⟩ := hrel
      obtain ⟨m, hm⟩ : ∃ m, val (t.take q) = m := ⟨_, rfl⟩
      rw [hm]
      by_cases hlt : q < D.size
      · obtain ⟨c, hc, hidx, hcl⟩ := byteNat D q hlt
        have hml : m < 281474976710656 := by
          have h1 := val_take_lt t q
          have h2 := pow_le q 6 (by omega)
          rw [pow6] at h2; omega
        have hor := or_byte m c hml hc
        have hv : Hid (((m * 256 + c : Nat) : Int) = (val (t.take (q + 1)) : Int)) := by
          show _ = _
          rw [val_take t q (by rw [← HDS.out]; exact hlt), hm, hcl.out, HD.out]
        clear hm
        obtain ⟨z, hz⟩ : ∃ z : Int, ((m * 256 + c : Nat) : Int) = z := ⟨_, rfl⟩
        rw [hz] at hor hv
        clear hz
        go_wp2_with fail
        go_round
        case rel => exact ⟨q + 1, by omega, by go_num, by rw [hv.out]⟩
        case measure => simp [intOf]; omega
      · have hmv : Hid (m = val t) := by show _ = _; rw [← hm, List.take_of_length_le (by rw [← HDS.out]; omega)]
        clear hm
        go_wp2_with fail
        go_ret
        exact ⟨ret_int (by rw [HT.out.1, hmv.out]), by rw [HT.out.2]; exact hr', ho⟩
  · have hk' : okw k = false := by simpa using hk
    have hT := Lib.hid (numS_no (s := s) hk')
    rw [hk'] at hok
    have HK := Lib.hid hok
    have HC := Lib.hid (fail_any b s 2 w hr)
    clear hok hk hk' hr
    go_enter Tryz.func62, Tryz.ntmps62
    go_wp2_with (first | (go_at_call 83; refine HK.out.mono ?_; rintro e w' ⟨rfl, rfl⟩) | (go_at_call 65; refine HC.out.mono ?_; rintro e w' ⟨rfl, hr', ho⟩))
    go_ret
    exact ⟨ret_int (by rw [hT.out.1]; rfl), by rw [hT.out.2]; exact hr', ho⟩

end Go.Proofs.YtncdiggejofbbaaGreatDoor.Bs

namespace Go.Proofs.YtncdiggejofbbaaGreatDoor.Bs
open Go.RowKit St Go.Sort BsM
set_option linter.unusedVariables false

set_option maxHeartbeats 400000 in
theorem rdtext_any (b : Nat) (s : S) (w : World) (hr : Rd w b s) :
    Calls Tryz.prog 85 #[.pointer (some ⟨b, 0, none⟩)] w (Does b w (.string ⟨(textV s).toArray⟩) (textS s)) := by
  have h1 := rdnum_any b s 1 w hr
  have h2 : ∀ w1, Rd w1 b (numS s 1) → Only b w w1 → Calls Tryz.prog 84 #[.pointer (some ⟨b, 0, none⟩), .int .i64 (numV s 1 : Int)] w1 (Does b w (.string ⟨(textV s).toArray⟩) (textS s)) :=
    fun w1 hr1 ho1 => (take_any b (numS s 1) (numV s 1) w1 hr1).mono fun _ _ ⟨he, hr2, ho2⟩ => ⟨he, hr2, ho1.trans ho2⟩
  obtain ⟨z, hz⟩ : ∃ z : Int, (numV s 1 : Int) = z := ⟨_, rfl⟩
  rw [hz] at h1
  rw [hz] at h2
  have H1 := Lib.hid h1
  have H2 := Lib.hid h2
  clear h1 h2 hz hr
  go_enter Tryz.func85, Tryz.ntmps85
  go_wp2_with (first | (go_at_call 62; refine H1.out.mono ?_; rintro e w1 ⟨rfl, hr1, ho1⟩) | (go_at_call 84; refine (H2.out _ (by assumption) (by assumption)).mono ?_; rintro e w2 ⟨rfl, hr2, ho2⟩))
  go_ret
  exact ⟨rfl, hr2, ho2⟩

theorem flag_hi {s : S} (h : 1 < numV s 1) : flagV s = false ∧ flagS s = failS (numS s 1) 5 := by
  constructor
  · simp [flagV]; omega
  · unfold flagS; rw [if_pos h]
theorem flag_one {s : S} (h : numV s 1 = 1) : flagV s = true ∧ flagS s = numS s 1 := by
  constructor
  · simp [flagV, h]
  · unfold flagS; rw [if_neg (by omega)]
theorem flag_zero {s : S} (h : numV s 1 = 0) : flagV s = false ∧ flagS s = numS s 1 := by
  constructor
  · simp [flagV, h]
  · unfold flagS; rw [if_neg (by omega)]

set_option maxHeartbeats 400000 in
theorem rdflag_any (b : Nat) (s : S) (w : World) (hr : Rd w b s) :
    Calls Tryz.prog 64 #[.pointer (some ⟨b, 0, none⟩)] w (Does b w (.bool (flagV s)) (flagS s)) := by
  have h1 := rdnum_any b s 1 w hr
  have hl := numV_one_lt s
  by_cases hi : 1 < numV s 1
  · have hF := Lib.hid (flag_hi hi)
    have h2 : ∀ w1, Rd w1 b (numS s 1) → Only b w w1 → Calls Tryz.prog 65 #[.pointer (some ⟨b, 0, none⟩), .int .i64 5] w1 (Does b w (.tuple #[]) (failS (numS s 1) 5)) :=
      fun w1 hr1 ho1 => (fail_any b (numS s 1) 5 w1 hr1).mono fun _ _ ⟨he, hr2, ho2⟩ => ⟨he, hr2, ho1.trans ho2⟩
    obtain ⟨z, hz⟩ : ∃ z : Int, (numV s 1 : Int) = z := ⟨_, rfl⟩
    have hz1 : 1 < z := by omega
    have hz2 : (z == 1) = false := by simp; omega
    rw [hz] at h1
    have H1 := Lib.hid h1
    have H2 := Lib.hid h2
    clear h1 h2 hz hr hi hl
    go_enter Tryz.func64, Tryz.ntmps64
    go_wp2_with (first | (go_at_call 62; refine H1.out.mono ?_; rintro e w1 ⟨rfl, hr1, ho1⟩) | (go_at_call 65; refine (H2.out _ (by assumption) (by assumption)).mono ?_; rintro e w2 ⟨rfl, hr2, ho2⟩))
    go_ret
    exact ⟨ret_bool hF.out.1.symm, by rw [hF.out.2]; exact hr2, ho2⟩
  · by_cases h0 : numV s 1 = 1
    · have hF := Lib.hid (flag_one h0)
      rw [h0] at h1
      have H1 := Lib.hid (show Calls Tryz.prog 62 #[.pointer (some ⟨b, 0, none⟩), .int .i64 1] w (Does b w (.int .i64 1) (numS s 1)) from h1)
      clear h1 hi h0 hr hl
      go_enter Tryz.func64, Tryz.ntmps64
      go_wp2_with (go_at_call 62; refine H1.out.mono ?_; rintro e w1 ⟨rfl, hr1, ho1⟩)
      go_ret
      exact ⟨ret_bool hF.out.1.symm, by rw [hF.out.2]; exact hr1, ho1⟩
    · have h00 : numV s 1 = 0 := by omega
      have hF := Lib.hid (flag_zero h00)
      rw [h00] at h1
      have H1 := Lib.hid (show Calls Tryz.prog 62 #[.pointer (some ⟨b, 0, none⟩), .int .i64 1] w (Does b w (.int .i64 0) (numS s 1)) from h1)
      clear h1 hi h0 h00 hr hl
      go_enter Tryz.func64, Tryz.ntmps64
      go_wp2_with (go_at_call 62; refine H1.out.mono ?_; rintro e w1 ⟨rfl, hr1, ho1⟩)
      go_ret
      exact ⟨ret_bool hF.out.1.symm, by rw [hF.out.2]; exact hr1, ho1⟩

theorem left_any (b : Nat) (s : S) (w : World) (hr : Rd w b s) :
    Calls Tryz.prog 87 #[.pointer (some ⟨b, 0, none⟩)] w fun e w' => e = .returned (.int .i64 (s.1.length : Int)) ∧ w = w' := by
  obtain ⟨D, hc0, hc1, hf0, hf1, hD, hDs, hset⟩ := hr.open
  clear hr
  go_enter Tryz.func87, Tryz.ntmps87
  go_wp2_with fail
  go_ret
  exact ⟨ret_int (by rw [hDs.out]), rfl⟩

theorem end_yes {s : S} (h : 0 < s.1.length) : endS s = failS s 5 := by unfold endS; rw [if_pos h]
theorem end_no {s : S} (h : s.1.length = 0) : endS s = s := by unfold endS; rw [if_neg (by omega)]

set_option maxHeartbeats 400000 in
theorem end_any (b : Nat) (s : S) (w : World) (hr : Rd w b s) :
    Calls Tryz.prog 48 #[.pointer (some ⟨b, 0, none⟩)] w (Does b w (.int .i64 (endV s)) (endS s)) := by
  obtain ⟨D, hc0, hc1, hf0, hf1, hD, hDs, hset⟩ := hr.open
  by_cases h : 0 < D.size
  · have hE := Lib.hid (end_yes (s := s) (by rw [← hDs.out]; exact h))
    have HC := Lib.hid (fail_any b s 5 w hr)
    clear hr
    go_enter Tryz.func48, Tryz.ntmps48
    go_wp2_with (go_at_call 65; refine HC.out.mono ?_; rintro e w1 ⟨rfl, hr1, ho1⟩; obtain ⟨D2, hd0, hd1, hg0, hg1, _⟩ := hr1.open)
    go_ret
    exact ⟨ret_int (by show _ = (endS s).2; rw [hE.out]), by rw [hE.out]; exact hr1, ho1⟩
  · have hE := Lib.hid (end_no (s := s) (by rw [← hDs.out]; omega))
    have h2 : D.size ≤ 0 := by omega
    have HR := Lib.hid hr
    clear hr h
    go_enter Tryz.func48, Tryz.ntmps48
    go_wp2_with fail
    go_ret
    exact ⟨ret_int (by show _ = (endS s).2; rw [hE.out]), by rw [hE.out]; exact HR.out, Only.refl _ _⟩

/-! ### a nil reader -/
set_option maxHeartbeats 400000 in
theorem rdnum_nil (k : Int) (w : World) :
    Calls Tryz.prog 62 #[.pointer none, .int .i64 k] w fun e w' => e = .returned (.int .i64 0) ∧ w = w' := by
  have hok := right_any k w
  by_cases hk : okw k = true
  · rw [hk] at hok
    have HK := Lib.hid hok
    have HC := Lib.hid (take_nil k w (fail_nil 3 w))
    clear hok hk
    go_enter Tryz.func62, Tryz.ntmps62
    go_wp2_with (first | (go_at_call 83; refine HK.out.mono ?_; rintro e w' ⟨rfl, rfl⟩) | (go_at_call 84; refine HC.out.mono ?_; rintro e w' ⟨rfl, rfl⟩))
    go_loop [6, 18] (fun n i => i = .int .i64 0 ∧ n = .int .i64 0) (fun _ _ => 0)
    case atStart => exact ⟨rfl, rfl⟩
    case round =>
      obtain ⟨rfl, rfl⟩ := hrel
      go_wp2_with fail
      go_ret
      exact ⟨rfl, rfl⟩
  · have hk' : okw k = false := by simpa using hk
    rw [hk'] at hok
    have HK := Lib.hid hok
    have HC := Lib.hid (fail_nil 2 w)
    clear hok hk hk'
    go_enter Tryz.func62, Tryz.ntmps62
    go_wp2_with (first | (go_at_call 83; refine HK.out.mono ?_; rintro e w' ⟨rfl, rfl⟩) | (go_at_call 65; refine HC.out.mono ?_; rintro e w' ⟨rfl, rfl⟩))
    go_ret
    exact ⟨rfl, rfl⟩

theorem rdtext_nil (w : World) :
    Calls Tryz.prog 85 #[.pointer none] w fun e w' => e = .returned (.string ⟨#[]⟩) ∧ w = w' := by
  have H1 := Lib.hid (rdnum_nil 1 w)
  have H2 := Lib.hid (take_nil 0 w (fail_nil 3 w))
  go_enter Tryz.func85, Tryz.ntmps85
  go_wp2_with (first | (go_at_call 62; refine H1.out.mono ?_; rintro e w1 ⟨rfl, rfl⟩) | (go_at_call 84; refine H2.out.mono ?_; rintro e w2 ⟨rfl, rfl⟩))
  go_ret
  exact ⟨rfl, rfl⟩

theorem rdflag_nil (w : World) :
    Calls Tryz.prog 64 #[.pointer none] w fun e w' => e = .returned (.bool false) ∧ w = w' := by
  have H1 := Lib.hid (rdnum_nil 1 w)
  go_enter Tryz.func64, Tryz.ntmps64
  go_wp2_with (go_at_call 62; refine H1.out.mono ?_; rintro e w1 ⟨rfl, rfl⟩)
  go_ret
  exact ⟨rfl, rfl⟩

theorem left_nil (w : World) :
    Calls Tryz.prog 87 #[.pointer none] w fun e w' => e = .returned (.int .i64 0) ∧ w = w' := by
  go_enter Tryz.func87, Tryz.ntmps87
  go_wp2_with fail
  go_ret
  exact ⟨rfl, rfl⟩

theorem end_nil (w : World) :
    Calls Tryz.prog 48 #[.pointer none] w fun e w' => e = .returned (.int .i64 1) ∧ w = w' := by
  go_enter Tryz.func48, Tryz.ntmps48
  go_wp2_with fail
  go_ret
  exact ⟨rfl, rfl⟩

end Go.Proofs.YtncdiggejofbbaaGreatDoor.Bs

namespace Go.Proofs.YtncdiggejofbbaaGreatDoor.BsM
set_option linter.unusedVariables false

theorem mnum_yes {s : S} {k : Int} (h : okw k = true) : numV s k = val (takeV s k.toNat) ∧ numS s k = takeS s k.toNat := by unfold numV numS; rw [if_pos h, if_pos h]; exact ⟨rfl, rfl⟩
theorem mnum_no {s : S} {k : Int} (h : okw k = false) : numV s k = 0 ∧ numS s k = failS s 2 := by unfold numV numS; rw [h]; exact ⟨rfl, rfl⟩
theorem mtake_yes {s : S} {n : Nat} (h : n ≤ s.1.length) : takeV s n = s.1.take n ∧ takeS s n = (s.1.drop n, s.2) := by
  constructor
  · unfold takeV; rw [if_pos h]
  · unfold takeS; rw [if_pos h]
theorem mtake_no {s : S} {n : Nat} (h : s.1.length < n) : takeV s n = [] ∧ takeS s n = failS s 3 := by
  constructor
  · unfold takeV; rw [if_neg (by omega)]
  · unfold takeS; rw [if_neg (by omega)]
theorem take_app (a r : List UInt8) (e : Int) : takeV (a ++ r, e) a.length = a ∧ takeS (a ++ r, e) a.length = (r, e) := by
  have h := mtake_yes (s := (a ++ r, e)) (n := a.length) (by simp)
  simpa using h

theorem num_of {n k : Int} (h : numOk n k = true) (r : List UInt8) (e : Int) : (numV (numL n k ++ r, e) k : Int) = n ∧ numS (numL n k ++ r, e) k = (r, e) := by
  obtain ⟨h1, h2, h3, h4⟩ := numOk_lt h
  have hy := mnum_yes (s := (numL n k ++ r, e)) (okw_yes h1 h2)
  have ht := take_app (numL n k) r e
  rw [num_len h] at ht
  rw [hy.1, hy.2, ht.1, ht.2, num_val h]
  exact ⟨by omega, rfl⟩
theorem text_of {l : List UInt8} (h : l.length ≤ 255) (r : List UInt8) (e : Int) : textV (textL l ++ r, e) = l ∧ textS (textL l ++ r, e) = (r, e) := by
  have hx : textL l = numL (l.length : Int) 1 ++ l := by unfold textL; rw [if_pos h, num_one _ (by omega)]; rfl
  have hn := num_of (n := (l.length : Int)) (k := 1) (numOk_mk (by decide) (by decide) (by omega) (by simp; omega)) (l ++ r) e
  rw [hx, List.append_assoc]
  unfold textV textS
  rw [hn.2, show numV (numL (l.length : Int) 1 ++ (l ++ r), e) 1 = l.length by have := hn.1; omega]
  exact take_app l r e
theorem flag_of (b : Bool) (r : List UInt8) (e : Int) : flagV (flagL b ++ r, e) = b ∧ flagS (flagL b ++ r, e) = (r, e) := by
  cases b
  · have hn := num_of (n := 0) (k := 1) (by decide) r e
    have hx : numL 0 1 = flagL false := by decide
    rw [hx] at hn
    have h0 : numV (flagL false ++ r, e) 1 = 0 := by have := hn.1; omega
    unfold flagV flagS; rw [h0, hn.2]; exact ⟨rfl, rfl⟩
  · have hn := num_of (n := 1) (k := 1) (by decide) r e
    have hx : numL 1 1 = flagL true := by decide
    rw [hx] at hn
    have h0 : numV (flagL true ++ r, e) 1 = 1 := by have := hn.1; omega
    unfold flagV flagS; rw [h0, hn.2]; exact ⟨rfl, rfl⟩

/-- nothing is left, once something is wrong -/
def Good (s : S) : Prop := s.2 ≠ 0 → s.1 = []
theorem failS_bad {s : S} {x : Int} (hx : x ≠ 0) : (failS s x).2 ≠ 0 := by
  unfold failS; split
  · exact hx
  · rename_i h; intro h0; exact h ⟨h0, hx⟩
theorem failS_good {s : S} {x : Int} (h : Good s) : Good (failS s x) := by
  unfold failS; split
  · exact fun _ => rfl
  · exact h
theorem takeS_good {s : S} {n : Nat} (h : Good s) : Good (takeS s n) := by
  unfold takeS; split
  · intro hb; show s.1.drop n = []; rw [h hb]; simp
  · exact failS_good h
theorem numS_good {s : S} {k : Int} (h : Good s) : Good (numS s k) := by unfold numS; split; exact takeS_good h; exact failS_good h
theorem textS_good {s : S} (h : Good s) : Good (textS s) := takeS_good (numS_good h)
theorem flagS_good {s : S} (h : Good s) : Good (flagS s) := by unfold flagS; split; exact failS_good (numS_good h); exact numS_good h
theorem takeS_zero {s : S} {n : Nat} (h : (takeS s n).2 = 0) : s.2 = 0 ∧ n ≤ s.1.length := by
  unfold takeS at h
  split at h
  · exact ⟨h, by assumption⟩
  · exact absurd h (failS_bad (by decide))
theorem numS_zero {s : S} {k : Int} (h : (numS s k).2 = 0) : s.2 = 0 ∧ okw k = true ∧ k.toNat ≤ s.1.length := by
  unfold numS at h
  split at h
  · have := takeS_zero h; exact ⟨this.1, by assumption, this.2⟩
  · exact absurd h (failS_bad (by decide))
theorem num_back {s : S} {k : Int} (h : (numS s k).2 = 0) : s.2 = 0 ∧ numL (numV s k : Int) k ++ (numS s k).1 = s.1 := by
  obtain ⟨h0, hk, hl⟩ := numS_zero h
  have hy := mnum_yes (s := s) hk
  have ht := mtake_yes (s := s) hl
  have hk2 := okw_iff.mp hk
  refine ⟨h0, ?_⟩
  rw [hy.1, hy.2, ht.1, ht.2]
  have hlen : (s.1.take k.toNat).length = k.toNat := by rw [List.length_take]; omega
  have hv := val_lt (s.1.take k.toNat)
  rw [hlen] at hv
  rw [num_yes (numOk_mk hk2.1 hk2.2 (by omega) (by rw [Int.toNat_natCast]; exact hv)), Int.toNat_natCast]
  have := be_val (s.1.take k.toNat)
  rw [hlen] at this
  rw [this]
  exact List.take_append_drop ..
theorem text_back {s : S} (h : (textS s).2 = 0) : s.2 = 0 ∧ textL (textV s) ++ (textS s).1 = s.1 := by
  unfold textS at h
  obtain ⟨h1, h2⟩ := takeS_zero h
  obtain ⟨h0, hb⟩ := num_back h1
  have hlt := numV_one_lt s
  refine ⟨h0, ?_⟩
  have ht := mtake_yes (s := numS s 1) h2
  have hV : textV s = (numS s 1).1.take (numV s 1) := ht.1
  have hS : textS s = ((numS s 1).1.drop (numV s 1), (numS s 1).2) := ht.2
  have hlen : (textV s).length = numV s 1 := by rw [hV, List.length_take]; omega
  rw [hS]
  unfold textL
  rw [if_pos (by omega), hlen]
  rw [num_one _ hlt] at hb
  rw [← hb, hV]
  simp
theorem flag_back {s : S} (h : (flagS s).2 = 0) : s.2 = 0 ∧ flagL (flagV s) ++ (flagS s).1 = s.1 := by
  unfold flagS at h
  split at h
  · exact absurd h (failS_bad (by decide))
  · rename_i hle
    obtain ⟨h0, hb⟩ := num_back h
    have hlt := numV_one_lt s
    rw [num_one _ hlt] at hb
    refine ⟨h0, ?_⟩
    have hS : flagS s = numS s 1 := by unfold flagS; rw [if_neg hle]
    rw [hS]
    by_cases h1 : numV s 1 = 1
    · rw [h1] at hb; rw [show flagV s = true by simp [flagV, h1]]; exact hb
    · have h00 : numV s 1 = 0 := by omega
      rw [h00] at hb; rw [show flagV s = false by simp [flagV, h00]]; exact hb
/-- all that was read -/
theorem all_back {l : List UInt8} {k : Int} (h : (flagS (textS (numS (l, 0) k))).2 = 0) :
    (numL (numV (l, 0) k : Int) k ++ textL (textV (numS (l, 0) k)) ++ flagL (flagV (textS (numS (l, 0) k)))) ++ (flagS (textS (numS (l, 0) k))).1 = l := by
  have h3 := flag_back h
  have h2 := text_back h3.1
  have h1 := num_back h2.1
  rw [List.append_assoc, List.append_assoc, h3.2, h2.2, h1.2]
theorem all_good {l : List UInt8} {k : Int} (h : (flagS (textS (numS (l, 0) k))).2 ≠ 0) : (flagS (textS (numS (l, 0) k))).1 = [] :=
  flagS_good (textS_good (numS_good (s := (l, 0)) (fun h => absurd rfl h))) h
theorem end_bad {s : S} (h : s.1 = []) : endV s = s.2 ∧ endS s = s := by unfold endV endS; rw [h]; exact ⟨rfl, rfl⟩
theorem end_left {s : S} (h : 0 < s.1.length) (h0 : s.2 = 0) : endV s = 5 ∧ endS s = ([], 5) := by
  have : endS s = ([], 5) := by unfold endS failS; rw [if_pos h, if_pos ⟨h0, by decide⟩]
  exact ⟨by unfold endV; rw [this], this⟩

end Go.Proofs.YtncdiggejofbbaaGreatDoor.BsM
