/- Plain mathematics of a sum of sixteen bits, bit by bit: no function of the program is spoken of here. Contracts of package crc and of the document's own sums: a half byte, a byte, bytes. Contracts of the document's own sums, bit by bit. Contracts of what seals and opens. Contracts of what turns bytes: one of them is another one; two texts put together. -/
import Derived.Test.YtncdiggejofbbaaGreatDoorSt
import Derived.Deep.DeepHandedRow
namespace Go.Proofs.YtncdiggejofbbaaGreatDoor.CrM

abbrev V := BitVec 16
/-- one bit behind -/
def b1 (c : V) (x : Bool) : V := (c <<< 1) ^^^ (if (c.msb ^^ x) then 0x1021#16 else 0#16)
theorem b1_xor (c d : V) (x y : Bool) : b1 (c ^^^ d) (x ^^ y) = b1 c x ^^^ b1 d y := by
  unfold b1
  rw [BitVec.shiftLeft_xor_distrib, BitVec.msb_xor]
  have e : (if ((c.msb ^^ d.msb) ^^ (x ^^ y)) then 0x1021#16 else 0#16) = (if (c.msb ^^ x) then 0x1021#16 else 0#16) ^^^ (if (d.msb ^^ y) then 0x1021#16 else 0#16) := by
    cases c.msb <;> cases d.msb <;> cases x <;> cases y <;> rfl
  rw [e]
  apply BitVec.eq_of_getLsbD_eq
  intro i _
  simp only [BitVec.getLsbD_xor]
  cases (c <<< 1).getLsbD i <;> cases (d <<< 1).getLsbD i <;> cases BitVec.getLsbD (if (c.msb ^^ x) then 0x1021#16 else 0#16) i <;> cases BitVec.getLsbD (if (d.msb ^^ y) then 0x1021#16 else 0#16) i <;> rfl
/-- four bits behind -/
def half (c : V) (h : Nat) : V := b1 (b1 (b1 (b1 c (h.testBit 3)) (h.testBit 2)) (h.testBit 1)) (h.testBit 0)
theorem half_xor (c d : V) (g h : Nat) : half (c ^^^ d) (g ^^^ h) = half c g ^^^ half d h := by
  unfold half
  simp only [Nat.testBit_xor, b1_xor]
/-- a byte behind -/
def byte (c : V) (b : Nat) : V := half (half c (b / 16)) b
theorem byte_xor (c d : V) (a b : Nat) : byte (c ^^^ d) (a ^^^ b) = byte c a ^^^ byte d b := by
  unfold byte
  rw [← half_xor, ← half_xor]
  congr 2
  have : (16 : Nat) = 2 ^ 4 := rfl
  rw [this, Nat.xor_div_two_pow]
/-- bytes behind -/
def cr (c : V) (l : List UInt8) : V := l.foldl (fun c b => byte c b.toNat) c
theorem cr_nil (c : V) : cr c [] = c := rfl
theorem cr_cons (c : V) (b : UInt8) (l : List UInt8) : cr c (b :: l) = cr (byte c b.toNat) l := rfl
theorem cr_append (c : V) (l m : List UInt8) : cr c (l ++ m) = cr (cr c l) m := List.foldl_append
theorem cr_xor : ∀ (l m : List UInt8) (c d : V), l.length = m.length → cr (c ^^^ d) (List.zipWith (· ^^^ ·) l m) = cr c l ^^^ cr d m
  | [], [], c, d, _ => rfl
  | a :: l, b :: m, c, d, h => by
    simp only [List.zipWith_cons_cons, cr_cons, UInt8.toNat_xor, byte_xor]
    exact cr_xor l m _ _ (by simpa using h)

/-- one bit as the document says it -/
theorem b1_eq (c : V) (x : Bool) : (b1 c x).toNat = if (decide (c.toNat / 32768 = 1)) = x then c.toNat * 2 % 65536 else (c.toNat * 2 % 65536) ^^^ 4129 := by
  unfold b1
  have hc := c.isLt
  have hm : c.msb = decide (c.toNat / 32768 = 1) := by
    rw [BitVec.msb_eq_decide]; congr 1; simp; omega
  rw [hm, BitVec.toNat_xor, BitVec.toNat_shiftLeft, Nat.shiftLeft_eq]
  cases x <;> cases hd : decide (c.toNat / 32768 = 1) <;> simp
theorem bit_of (b k : Nat) : (b / 2 ^ k % 2 = 1) = (b.testBit k = true) := by
  rw [Nat.testBit_eq_decide_div_mod_eq]; simp

theorem b1_low (c : V) (h : c.toNat < 32768) : (b1 c false).toNat = c.toNat * 2 := by
  rw [b1_eq, if_pos (by simp; omega)]; omega
theorem lowOf (b : Nat) (h : b < 4096) : (half (BitVec.ofNat 16 b) 0).toNat = b * 16 := by
  have h0 : (BitVec.ofNat 16 b).toNat = b := by rw [BitVec.toNat_ofNat]; omega
  have h1 := b1_low (BitVec.ofNat 16 b) (by omega)
  have h2 := b1_low (b1 (BitVec.ofNat 16 b) false) (by omega)
  have h3 := b1_low (b1 (b1 (BitVec.ofNat 16 b) false) false) (by omega)
  have h4 := b1_low (b1 (b1 (b1 (BitVec.ofNat 16 b) false) false) false) (by omega)
  unfold half
  simp only [Nat.zero_testBit]
  omega
def tab : List Nat := [0x0000, 0x1021, 0x2042, 0x3063, 0x4084, 0x50A5, 0x60C6, 0x70E7, 0x8108, 0x9129, 0xA14A, 0xB16B, 0xC18C, 0xD1AD, 0xE1CE, 0xF1EF]
theorem highOf : ∀ a g : Fin 16, (half (BitVec.ofNat 16 (a.val * 4096)) g.val).toNat = tab.getD (a.val ^^^ g.val) 0 := by decide +kernel
theorem half_mod (c : V) (h : Nat) : half c (h % 16) = half c h := by
  have : (16 : Nat) = 2 ^ 4 := rfl
  unfold half
  rw [this]
  simp only [Nat.testBit_mod_two_pow]
  simp
theorem half_eq (c : V) (h : Nat) : (half c h).toNat = (c.toNat * 16 % 65536) ^^^ tab.getD ((c.toNat / 4096) ^^^ (h % 16)) 0 := by
  have hc := c.isLt
  have e : c = BitVec.ofNat 16 (c.toNat % 4096) ^^^ BitVec.ofNat 16 (c.toNat / 4096 * 4096) := by
    apply BitVec.eq_of_toNat_eq
    rw [BitVec.toNat_xor, BitVec.toNat_ofNat, BitVec.toNat_ofNat, Nat.mod_eq_of_lt (by omega : c.toNat % 4096 < 2 ^ 16), Nat.mod_eq_of_lt (by omega : c.toNat / 4096 * 4096 < 2 ^ 16)]
    have h1 : (c.toNat % 4096) ^^^ (c.toNat / 4096 * 4096) = (c.toNat / 4096 * 4096) + (c.toNat % 4096) := by
      have : c.toNat / 4096 * 4096 = 2 ^ 12 * (c.toNat / 4096) := by omega
      rw [this, Nat.xor_comm]
      apply Nat.eq_of_testBit_eq
      intro i
      have lt : c.toNat % 4096 < 2 ^ 12 := by omega
      rw [Nat.testBit_xor, Nat.testBit_two_pow_mul_add _ lt, Nat.testBit_two_pow_mul]
      by_cases hi : i < 12
      · have h12 : decide (12 ≤ i) = false := by simp; omega
        simp [hi, h12]
      · simp [hi, Nat.testBit_lt_two_pow (Nat.lt_of_lt_of_le lt (Nat.pow_le_pow_right (by omega) (by omega : 12 ≤ i)))]
        intro hh; omega
    rw [h1]; omega
  have e2 : half c h = half (BitVec.ofNat 16 (c.toNat % 4096)) 0 ^^^ half (BitVec.ofNat 16 (c.toNat / 4096 * 4096)) (h % 16) := by
    rw [← half_xor, ← e, Nat.zero_xor, half_mod]
  rw [e2, BitVec.toNat_xor, lowOf (c.toNat % 4096) (by omega), highOf ⟨c.toNat / 4096, by omega⟩ ⟨h % 16, by omega⟩]
  have e3 : c.toNat % 4096 * 16 = c.toNat * 16 % 65536 := by omega
  rw [e3]

theorem b1_inj (c : V) (h : b1 c false = 0#16) : c = 0#16 := by
  have hc := c.isLt
  have e := b1_eq c false
  rw [h] at e
  apply BitVec.eq_of_toNat_eq
  show c.toNat = 0
  by_cases hd : c.toNat / 32768 = 1
  · rw [if_neg (by simp [hd])] at e
    have e2 : c.toNat * 2 % 65536 = 4129 := by
      have := congrArg (· ^^^ 4129) e
      simp only [Nat.xor_assoc, Nat.xor_self, Nat.xor_zero] at this
      simpa using this.symm
    omega
  · rw [if_pos (by simp [hd])] at e
    have e0 : (0#16).toNat = 0 := rfl
    omega
theorem half_inj (c : V) (h : half c 0 = 0#16) : c = 0#16 := by
  unfold half at h
  simp only [Nat.zero_testBit] at h
  exact b1_inj _ (b1_inj _ (b1_inj _ (b1_inj _ h)))
theorem byte_inj (c : V) (h : byte c 0 = 0#16) : c = 0#16 := half_inj _ (half_inj _ h)
theorem byte_zero : byte 0#16 0 = 0#16 := by decide
theorem byte_one (x : UInt8) (h : byte 0#16 x.toNat = 0#16) : x = 0 := by
  have all : ∀ x : Fin 256, byte 0#16 x.val = 0#16 → x.val = 0 := by decide +kernel
  exact UInt8.toNat_inj.mp (all ⟨x.toNat, x.toNat_lt⟩ h)

/-- the two bytes of a sum, the higher one first -/
def hi8 (c : V) : UInt8 := UInt8.ofNat (c.toNat / 256)
def lo8 (c : V) : UInt8 := UInt8.ofNat (c.toNat % 256)
theorem hi8_nat (c : V) : (hi8 c).toNat = c.toNat / 256 := by
  have := c.isLt
  simp [hi8]; omega
theorem lo8_nat (c : V) : (lo8 c).toNat = c.toNat % 256 := by
  simp [lo8]
theorem b1_own (c : V) : b1 c c.msb = c <<< 1 := by unfold b1; simp
theorem half_own (c : V) (h : Nat) (e : h % 16 = c.toNat / 4096) : half c h = c <<< 4 := by
  have hc := c.isLt
  apply BitVec.eq_of_toNat_eq
  rw [half_eq, e, Nat.xor_self, BitVec.toNat_shiftLeft, Nat.shiftLeft_eq]
  simp [tab]
theorem byte_own (c : V) (b : Nat) (e : b % 256 = c.toNat / 256) : byte c b = c <<< 8 := by
  have hc := c.isLt
  unfold byte
  rw [half_own c (b / 16) (by omega), half_own (c <<< 4) b (by rw [BitVec.toNat_shiftLeft, Nat.shiftLeft_eq]; omega)]
  apply BitVec.eq_of_toNat_eq
  simp only [BitVec.toNat_shiftLeft, Nat.shiftLeft_eq]
  omega
theorem cr_own (c : V) : cr c [hi8 c, lo8 c] = 0#16 := by
  have hc := c.isLt
  show byte (byte c (hi8 c).toNat) (lo8 c).toNat = _
  rw [hi8_nat, lo8_nat, byte_own c _ (by omega), byte_own _ _ (by rw [BitVec.toNat_shiftLeft, Nat.shiftLeft_eq]; omega)]
  apply BitVec.eq_of_toNat_eq
  simp only [BitVec.toNat_shiftLeft, Nat.shiftLeft_eq]
  show _ = 0
  omega
theorem xor_zero_eq (c d : V) (h : c ^^^ d = 0#16) : c = d := by
  have := congrArg (· ^^^ d) h
  simpa [BitVec.xor_assoc] using this
/-- two bytes bring a sum to nought just where they are its own -/
theorem cr_two (c : V) (a b : UInt8) (h : cr c [a, b] = 0#16) : a = hi8 c ∧ b = lo8 c := by
  have ha := a.toNat_lt
  have hb := b.toNat_lt
  obtain ⟨d, hd⟩ : ∃ d : V, d = BitVec.ofNat 16 (a.toNat * 256 + b.toNat) := ⟨_, rfl⟩
  have hdn : d.toNat = a.toNat * 256 + b.toNat := by rw [hd, BitVec.toNat_ofNat]; omega
  have e1 : hi8 d = a := UInt8.toNat_inj.mp (by rw [hi8_nat, hdn]; omega)
  have e2 : lo8 d = b := UInt8.toNat_inj.mp (by rw [lo8_nat, hdn]; omega)
  have h0 := cr_own d
  rw [e1, e2] at h0
  have hx := cr_xor [a, b] [a, b] c d rfl
  rw [h, h0] at hx
  have hz : cr (c ^^^ d) [0, 0] = 0#16 := by simpa using hx
  have hcd := xor_zero_eq _ _ (byte_inj _ (byte_inj _ hz))
  subst hcd
  exact ⟨e1.symm, e2.symm⟩

/-- a text, and its sum's two bytes -/
def sealed (l : List UInt8) : List UInt8 := l ++ [hi8 (cr 0xFFFF#16 l), lo8 (cr 0xFFFF#16 l)]
theorem seal_cr (l : List UInt8) : cr 0xFFFF#16 (sealed l) = 0#16 := by unfold sealed; rw [cr_append]; exact cr_own _
theorem seal_len (l : List UInt8) : (sealed l).length = l.length + 2 := by simp [sealed]
theorem seal_of (t : List UInt8) (h2 : 2 ≤ t.length) (h : cr 0xFFFF#16 t = 0#16) : sealed (t.take (t.length - 2)) = t := by
  obtain ⟨a, b, hab⟩ : ∃ a b, t.drop (t.length - 2) = [a, b] := by
    have hl : (t.drop (t.length - 2)).length = 2 := by simp; omega
    match hm : t.drop (t.length - 2), hl with
    | [a, b], _ => exact ⟨a, b, rfl⟩
  have hs : t = t.take (t.length - 2) ++ [a, b] := by rw [← hab, List.take_append_drop]
  have h' := h
  rw [hs, cr_append] at h'
  obtain ⟨e1, e2⟩ := cr_two _ _ _ h'
  show t.take (t.length - 2) ++ [_, _] = t
  rw [← e1, ← e2]
  exact hs.symm
theorem seal_iff (t : List UInt8) (h2 : 2 ≤ t.length) : sealed (t.take (t.length - 2)) = t ↔ cr 0xFFFF#16 t = 0#16 :=
  ⟨fun h => by rw [← h]; exact seal_cr _, seal_of t h2⟩

/-- zeros with one byte -/
def one (n i : Nat) (x : UInt8) : List UInt8 := (List.range n).map fun j => if j = i then x else 0
/-- bytes, of which one is another one -/
def chg (l : List UInt8) (i : Nat) (x : UInt8) : List UInt8 := l.mapIdx fun j b => if j = i then b ^^^ x else b
theorem chg_len (l : List UInt8) (i : Nat) (x : UInt8) : (chg l i x).length = l.length := by simp [chg]
theorem chg_zip (l : List UInt8) (i : Nat) (x : UInt8) : chg l i x = List.zipWith (· ^^^ ·) l (one l.length i x) := by
  apply List.ext_getElem
  · simp [chg, one]
  · intro j h1 h2
    simp only [chg, one, List.getElem_mapIdx, List.getElem_zipWith, List.getElem_map, List.getElem_range]
    split <;> simp
theorem cr_zeros (n : Nat) (c : V) (h : cr c (List.replicate n 0) = 0#16) : c = 0#16 := by
  induction n generalizing c with
  | zero => exact h
  | succ n ih => rw [List.replicate_succ, cr_cons] at h; exact byte_inj _ (ih _ h)
theorem cr_zero (n : Nat) : cr 0#16 (List.replicate n 0) = 0#16 := by
  induction n with
  | zero => rfl
  | succ n ih => rw [List.replicate_succ, cr_cons]; exact (congrArg (fun c => cr c _) byte_zero).trans ih
theorem one_split (n i : Nat) (x : UInt8) (h : i < n) : one n i x = List.replicate i 0 ++ x :: List.replicate (n - i - 1) 0 := by
  apply List.ext_getElem
  · simp [one]; omega
  · intro j h1 h2
    simp only [one, List.getElem_map, List.getElem_range]
    rcases Nat.lt_trichotomy j i with h' | h' | h'
    · rw [if_neg (by omega), List.getElem_append_left (by simpa using h')]; simp
    · subst h'; rw [if_pos rfl, List.getElem_append_right (by simp)]; simp
    · rw [if_neg (by omega), List.getElem_append_right (by simp; omega)]
      rw [List.getElem_cons]
      rw [dif_neg (by simp; omega)]; simp
theorem cr_chg (l : List UInt8) (i : Nat) (x : UInt8) (h : i < l.length) (h0 : cr 0xFFFF#16 l = 0#16) :
    cr 0xFFFF#16 (chg l i x) = cr (byte 0#16 x.toNat) (List.replicate (l.length - i - 1) 0) := by
  have hx := cr_xor l (one l.length i x) 0xFFFF#16 0#16 (by simp [one])
  rw [h0, ← chg_zip, one_split _ _ _ h, cr_append, cr_zero, cr_cons] at hx
  simpa using hx
/-- ONE OTHER BYTE IS FOUND -/
theorem finds_one (l : List UInt8) (i : Nat) (x : UInt8) (h : i < l.length) (h0 : cr 0xFFFF#16 l = 0#16) (hx : x ≠ 0) : cr 0xFFFF#16 (chg l i x) ≠ 0#16 := by
  intro hh
  rw [cr_chg l i x h h0] at hh
  exact hx (byte_one x (cr_zeros _ _ hh))
/-- SO ARE TWO SIDE BY SIDE -/
theorem finds_two (l : List UInt8) (i : Nat) (x y : UInt8) (h : i + 1 < l.length) (h0 : cr 0xFFFF#16 l = 0#16) (hx : x ≠ 0) : cr 0xFFFF#16 (chg (chg l i x) (i + 1) y) ≠ 0#16 := by
  intro hh
  have e := cr_xor (chg l i x) (one l.length (i + 1) y) 0xFFFF#16 0#16 (by simp [one, chg])
  have e' : chg (chg l i x) (i + 1) y = List.zipWith (· ^^^ ·) (chg l i x) (one l.length (i + 1) y) := by
    have := chg_zip (chg l i x) (i + 1) y
    rwa [chg_len] at this
  rw [← e', cr_chg l i x (by omega) h0, one_split _ _ _ h, cr_append, cr_zero, cr_cons] at e
  have e2 : cr (byte 0#16 x.toNat) (List.replicate (l.length - i - 1) 0) = cr (byte (byte 0#16 x.toNat) 0) (List.replicate (l.length - (i + 1) - 1) 0) := by
    rw [show l.length - i - 1 = (l.length - (i + 1) - 1) + 1 by omega, List.replicate_succ, cr_cons]; rfl
  have e3 := cr_xor (List.replicate (l.length - (i + 1) - 1) (0 : UInt8)) (List.replicate (l.length - (i + 1) - 1) 0) (byte (byte 0#16 x.toNat) 0) (byte 0#16 y.toNat) rfl
  rw [← e2, ← e] at e3
  have hz : List.zipWith (· ^^^ ·) (List.replicate (l.length - (i + 1) - 1) (0 : UInt8)) (List.replicate (l.length - (i + 1) - 1) 0) = List.replicate (l.length - (i + 1) - 1) 0 := by
    simp
  rw [hz, BitVec.xor_zero] at e3
  rw [hh] at e3
  have e4 := cr_zeros _ _ e3
  rw [← byte_xor, Nat.zero_xor, BitVec.xor_zero] at e4
  have e5 := (cr_two 0#16 x y e4).1
  exact hx e5
/-- zeros ahead of a text tell -/
theorem both_len (a b : List UInt8) : (List.zipWith (· ^^^ ·) a b).length = min a.length b.length := by simp

end Go.Proofs.YtncdiggejofbbaaGreatDoor.CrM

namespace Go.Proofs.YtncdiggejofbbaaGreatDoor.Cr
open Go.RowKit St Go.Sort CrM
set_option linter.unusedVariables false

def tabI : List Int := [0, 4129, 8258, 12387, 16516, 20645, 24774, 28903, 33032, 37161, 41290, 45419, 49548, 53677, 57806, 61935]
/-- the sums of half a byte stand where the program lays them -/
def Tab (w : World) : Prop := Lib.TabIs Tryz.prog w "hourglass/crc.halfSums" .u16 tabI
theorem tabG : Tryz.prog.globalNamed "hourglass/crc.halfSums" = some 0 := by kernel_rfl
theorem Tab.kept {a b : World} (h : Tab a) (k : Kept a b) : Tab b := k.tab tabG h

theorem nib_eq (c : V) (h : Nat) (hh : h < 256) : ∃ k : Nat, k < 16 ∧ bits .xor .u16 ((c.toNat : Int) / 4096) ((h : Int) % 16) = (k : Int) ∧ k = (c.toNat / 4096) ^^^ (h % 16) := by
  have hc := c.isLt
  have hx : (c.toNat / 4096) ^^^ (h % 16) < 2 ^ 4 := Nat.xor_lt_two_pow (by omega) (by omega)
  refine ⟨_, hx, ?_, rfl⟩
  have := u16_xor_nat (c.toNat / 4096) (h % 16) (by omega) (by omega)
  rw [← this]; rfl
theorem tab_at (k : Nat) (h : k < 16) : ∃ t : Nat, t < 65536 ∧ tabI.getD k 0 = (t : Int) ∧ t = tab.getD k 0 := by
  have all : ∀ k : Fin 16, tab.getD k.val 0 < 65536 ∧ tabI.getD k.val 0 = ((tab.getD k.val 0 : Nat) : Int) := by decide +kernel
  exact ⟨_, (all ⟨k, h⟩).1, (all ⟨k, h⟩).2, rfl⟩

set_option maxHeartbeats 400000 in
theorem half_any (c : V) (h : Nat) (hh : h < 256) (w : World) (ht : Tab w) :
    Calls Tryz.prog 94 #[.int .u16 (c.toNat : Int), .int .u8 (h : Int)] w fun e w' => e = .returned (.int .u16 ((half c h).toNat : Int)) ∧ w = w' := by
  have hc := c.isLt
  obtain ⟨k, hk, hx, hke⟩ := nib_eq c h hh
  obtain ⟨t, htl, hte, htt⟩ := tab_at k hk
  have hcell := ht.cell tabG k hk
  rw [hte] at hcell
  have hr : bits .xor .u16 (IntKind.u16.wrap ((c.toNat : Int) * 16)) (t : Int) = ((half c h).toNat : Int) := by
    rw [half_eq, ← hke, ← htt, IntKind.wrap_u16]
    have := u16_xor_nat (c.toNat * 16 % 65536) t (by omega) htl
    rw [← this]; rfl
  have HR := Lib.hid hr
  clear hr hte htt hke ht
  go_enter Tryz.func94, Tryz.ntmps94
  go_wp2_with fail
  go_ret
  exact ⟨ret_int HR.out, rfl⟩

/-- bytes behind, of which k are done -/
theorem cr_take (c : V) (l : List UInt8) (k : Nat) (h : k < l.length) : cr c (l.take (k + 1)) = byte (cr c (l.take k)) (l.getD k 0).toNat := by
  rw [List.take_succ_eq_append_getElem h, cr_append, cr_cons, cr_nil, List.getD_eq_getElem?_getD, List.getElem?_eq_getElem h]; rfl
theorem byteNat (s : ByteArray) (i : Nat) (h : i < s.size) :
    ∃ b : Nat, b < 256 ∧ (∀ w, (Instr.index 9 (.string s) (.int .i64 (i : Int))).run Tryz.prog w = .ok (.int .u8 (b : Int)) w) ∧ Hid (b = (s.data.toList.getD i 0).toNat) :=
  ⟨_, (s.data.toList.getD i 0).toNat_lt, fun w => by
    rw [run_index_string w 9 s .i64 i Tryz.underlying9, dif_pos ⟨by omega, by omega⟩]
    have e := get_byte s i h
    simp only [Int.toNat_natCast]
    rw [e], rfl⟩

set_option maxHeartbeats 400000 in
theorem more_any (c : V) (s : ByteArray) (hs : s.size ≤ maxLen) (w : World) (ht : Tab w) :
    Calls Tryz.prog 88 #[.int .u16 (c.toNat : Int), .string s] w fun e w' => e = .returned (.int .u16 ((cr c s.data.toList).toNat : Int)) ∧ w = w' := by
  unfold maxLen at hs
  have hl := size_list s
  have HL := Lib.hid hl
  clear hl
  go_enter Tryz.func88, Tryz.ntmps88
  go_wp2_with fail
  go_loop [0, 8] (fun x i => ∃ k : Nat, k ≤ s.size ∧ i = .int .i64 (k : Int) ∧ x = .int .u16 ((cr c (s.data.toList.take k)).toNat : Int)) (fun _ i => s.size - (intOf i).toNat)
  case atStart => exact ⟨0, Nat.zero_le _, rfl, rfl⟩
  case round =>
    obtain ⟨k, hk, rfl, rfl⟩ := hrel
    obtain ⟨d, hd⟩ : ∃ d, cr c (s.data.toList.take k) = d := ⟨_, rfl⟩
    rw [hd]
    by_cases hlt : k < s.size
    · obtain ⟨b, hb, hidx, hB⟩ := byteNat s k hlt
      have hn : Hid (cr c (s.data.toList.take (k + 1)) = half (half d (b / 16)) b) := by
        show _ = _
        rw [cr_take c _ k (by rw [← HL.out]; exact hlt), hd, hB.out]; rfl
      clear hd
      have h1 := half_any d (b / 16) (by omega) w ht
      have h2 := half_any (half d (b / 16)) b hb w ht
      have e16 : ((b / 16 : Nat) : Int) = (b : Int) / 16 := rfl
      rw [e16] at h1
      have H1 := Lib.hid h1
      have H2 := Lib.hid h2
      clear h1 h2 e16
      go_wp2_with (first | (go_at_call 94; ((with_reducible refine H1.out.mono ?_)); rintro e w' ⟨rfl, rfl⟩) | (go_at_call 94; ((with_reducible refine H2.out.mono ?_)); rintro e w' ⟨rfl, rfl⟩))
      go_round
      case rel => exact ⟨k + 1, by omega, by go_num, by rw [hn.out]⟩
      case measure => simp [intOf]; omega
    · have hD := Lib.hid hd
      clear hd
      go_wp2_with fail
      go_ret
      exact ⟨ret_int (by rw [← hD.out, List.take_of_length_le (by rw [← HL.out]; omega)]), rfl⟩

theorem sum_any (s : ByteArray) (hs : s.size ≤ maxLen) (w : World) (ht : Tab w) :
    Calls Tryz.prog 67 #[.string s] w fun e w' => e = .returned (.int .u16 ((cr 0xFFFF#16 s.data.toList).toNat : Int)) ∧ w = w' := by
  have h := more_any 0xFFFF#16 s hs w ht
  have H := Lib.hid (show Calls Tryz.prog 88 #[.int .u16 65535, .string s] w _ from h)
  clear h
  go_enter Tryz.func67, Tryz.ntmps67
  go_wp2_with (go_at_call 88; refine H.out.mono ?_; rintro e w' ⟨rfl, rfl⟩)
  go_ret
  exact ⟨rfl, rfl⟩

end Go.Proofs.YtncdiggejofbbaaGreatDoor.Cr

namespace Go.Proofs.YtncdiggejofbbaaGreatDoor.Cr
open Go.RowKit St Go.Sort CrM
set_option linter.unusedVariables false

/-- so many bits of a byte behind, the higher ones first -/
def steps : Nat → V → Nat → V
  | 0, c, _ => c
  | n + 1, c, b => b1 (steps n c b) (b.testBit (7 - n))
theorem steps_all (c : V) (b : Nat) : steps 8 c b = byte c b := by
  have t : ∀ j, (b / 16).testBit j = b.testBit (j + 4) := fun j => by
    rw [show (16 : Nat) = 2 ^ 4 from rfl, Nat.testBit_div_two_pow, Nat.add_comm]
  simp only [steps, byte, half, t]

theorem bitAt (b K : Nat) : ((b : Int) / 2 ^ K).tmod 2 = ((b / 2 ^ K % 2 : Nat) : Int) := by
  have e : (b : Int) / 2 ^ K = ((b / 2 ^ K : Nat) : Int) := by rw [Int.natCast_ediv]; simp
  rw [e, Int.tmod_eq_emod_of_nonneg (Int.natCast_nonneg _)]; rfl
theorem same_bit (f : V) (b K : Nat) : (decide (f.toNat / 32768 = 1) = b.testBit K) ↔ ((f.toNat : Int) / 32768 != ((b : Int) / 2 ^ K).tmod 2) = false := by
  have hf := f.isLt
  rw [bitAt, Nat.testBit_eq_decide_div_mod_eq]
  have h2 : b / 2 ^ K % 2 < 2 := Nat.mod_lt _ (by omega)
  generalize b / 2 ^ K % 2 = x at h2
  have hx : x = 0 ∨ x = 1 := by omega
  have hy : f.toNat / 32768 = 0 ∨ f.toNat / 32768 = 1 := by omega
  have e : (f.toNat : Int) / 32768 = ((f.toNat / 32768 : Nat) : Int) := rfl
  rw [e]
  rcases hx with rfl | rfl <;> rcases hy with h | h <;> rw [h] <;> decide
theorem b1_flip (f : V) (b K : Nat) (h : ((f.toNat : Int) / 32768 != ((b : Int) / 2 ^ K).tmod 2) = true) :
    bits .xor .u16 (IntKind.u16.wrap ((f.toNat : Int) * 2)) 4129 = ((b1 f (b.testBit K)).toNat : Int) := by
  have hn : ¬ (decide (f.toNat / 32768 = 1) = b.testBit K) := fun hh => by rw [same_bit] at hh; rw [hh] at h; cases h
  rw [b1_eq, if_neg hn, IntKind.wrap_u16]
  exact u16_xor_nat (f.toNat * 2 % 65536) 4129 (by omega) (by omega)
theorem b1_keep (f : V) (b K : Nat) (h : ((f.toNat : Int) / 32768 != ((b : Int) / 2 ^ K).tmod 2) = false) :
    IntKind.u16.wrap ((f.toNat : Int) * 2) = ((b1 f (b.testBit K)).toNat : Int) := by
  rw [b1_eq, if_pos ((same_bit f b K).mpr h), IntKind.wrap_u16]; rfl



end Go.Proofs.YtncdiggejofbbaaGreatDoor.Cr

namespace Go.Proofs.YtncdiggejofbbaaGreatDoor.Cr
open Go.RowKit St Go.Sort CrM
set_option linter.unusedVariables false

theorem two_text (c : V) (w : World) : ∃ D : ByteArray, (convert 100 9 (.slice (some ⟨w.heap.size, 0, none⟩) 2 2)).run Tryz.prog (w.alloc (.cells #[.int .u8 ((c.toNat : Int) / 256), .int .u8 ((c.toNat : Int) % 256)] 5)) =
    .ok (.string D) (w.alloc (.cells #[.int .u8 ((c.toNat : Int) / 256), .int .u8 ((c.toNat : Int) % 256)] 5)) ∧ RowKit.Hid (D.data.toList = [hi8 c, lo8 c]) ∧ RowKit.Hid (D.size = 2) := by
  refine ⟨⟨[hi8 c, lo8 c].toArray⟩, ?_, rfl, rfl⟩
  have h := conv_new w [hi8 c, lo8 c] 2
  have e : (cellsOf [hi8 c, lo8 c]).toArray = #[.int .u8 ((c.toNat : Int) / 256), .int .u8 ((c.toNat : Int) % 256)] := by
    simp only [cellsOf, List.map, hi8_nat, lo8_nat]; rfl
  rw [e] at h
  exact h

set_option maxHeartbeats 400000 in
theorem seal_any (s : ByteArray) (hs : s.size ≤ 5000) (w : World) (ht : Tab w) :
    Calls Tryz.prog 49 #[.string s] w fun e w' => e = .returned (.string ⟨(sealed s.data.toList).toArray⟩) ∧ Kept w w' := by
  have hsum := sum_any s (by unfold maxLen; omega) w ht
  obtain ⟨c, hc⟩ : ∃ c, cr 0xFFFF#16 s.data.toList = c := ⟨_, rfl⟩
  rw [hc] at hsum
  have HV := Lib.hid (show sealed s.data.toList = s.data.toList ++ [hi8 c, lo8 c] by unfold sealed; rw [hc])
  have HS := Lib.hid hsum
  clear hc hsum
  have hl := c.isLt
  obtain ⟨D, hconv, hD, hS⟩ := two_text c w
  have n1 : ¬ 9223372036854775807 < s.size + D.size := by have := hS.out; omega
  go_enter Tryz.func49, Tryz.ntmps49
  go_wp2_with (go_at_call 67; refine HS.out.mono ?_; rintro e w' ⟨rfl, rfl⟩)
  go_ret
  exact ⟨ret_str (by simp [HV.out, hD.out]), (Below.refl _ _).alloc (Nat.le_refl _) _⟩


/-- whether a text is sealed; what is sealed there -/
def openOk (l : List UInt8) : Bool := decide (2 ≤ l.length) && decide (cr 0xFFFF#16 l = 0#16)
def openT (l : List UInt8) : List UInt8 := if openOk l then l.take (l.length - 2) else []
theorem openT_no (l : List UInt8) (h : openOk l = false) : openT l = [] := by unfold openT; rw [h]; rfl
theorem openT_yes (l : List UInt8) (h : openOk l = true) : openT l = l.take (l.length - 2) := by unfold openT; rw [h]; rfl
theorem open_seal (l : List UInt8) (h : 2 ≤ l.length) : openOk l = decide (sealed (l.take (l.length - 2)) = l) := by
  unfold openOk
  rw [decide_eq_true h, Bool.true_and]
  exact decide_eq_decide.mpr (seal_iff l h).symm
/-- what stands ahead of the last two bytes -/
theorem head_cut (s : ByteArray) (h : 2 ≤ s.size) : ∃ D : ByteArray, (∀ w, (Instr.slice 9 (.string s) none (some (.int .i64 ((s.size : Int) - 2))) none).run Tryz.prog w = .ok (.string D) w) ∧
    RowKit.Hid (D.data.toList = s.data.toList.take (s.data.toList.length - 2)) ∧ D.size ≤ s.size := by
  have e := size_list s
  refine ⟨s.extract 0 (s.size - 2), fun w => ?_, ?_, ?_⟩
  · rw [run_slice_string_to_if w 9 s .i64 _ Tryz.underlying9, if_pos ⟨by omega, by omega⟩]
    rw [show ((s.size : Int) - 2).toNat = s.size - 2 by omega]
  · show _ = _; rw [extract_list, ← e]; rfl
  · simp

theorem told_no {D E s : ByteArray} (h2 : 2 ≤ s.data.toList.length) (hD : D.data.toList = s.data.toList.take (s.data.toList.length - 2)) (hE : E = ⟨(sealed D.data.toList).toArray⟩)
    (h : (!E.toList == s.toList) = true) : openOk s.data.toList = false := by
  rw [open_seal _ h2, ← hD]
  rw [ByteArray.toList_eq, ByteArray.toList_eq, hE] at h
  simpa using h
theorem told_yes {D E s : ByteArray} (h2 : 2 ≤ s.data.toList.length) (hD : D.data.toList = s.data.toList.take (s.data.toList.length - 2)) (hE : E = ⟨(sealed D.data.toList).toArray⟩)
    (h : (!E.toList == s.toList) = false) : openOk s.data.toList = true ∧ openT s.data.toList = D.data.toList := by
  have : openOk s.data.toList = true := by
    rw [open_seal _ h2, ← hD]
    rw [ByteArray.toList_eq, ByteArray.toList_eq, hE] at h
    simpa using h
  exact ⟨this, by rw [openT_yes _ this, hD]⟩
theorem ret_pair {a b : ByteArray} {x y : Bool} (h : a.data.toList = b.data.toList) (h2 : x = y) : Ending.returned (.tuple #[.string a, .bool x]) = .returned (.tuple #[.string b, .bool y]) := by
  cases a; cases b; simp_all

set_option maxHeartbeats 400000 in
theorem open_any (s : ByteArray) (hs : s.size ≤ 5000) (w : World) (ht : Tab w) :
    Calls Tryz.prog 44 #[.string s] w fun e w' => e = .returned (.tuple #[.string ⟨(openT s.data.toList).toArray⟩, .bool (openOk s.data.toList)]) ∧ Kept w w' := by
  have hl := Lib.hid (size_list s)
  by_cases h2 : s.size < 2
  · have hno : openOk s.data.toList = false := by unfold openOk; rw [← hl.out, decide_eq_false (by omega)]; rfl
    have hT := Lib.hid (openT_no _ hno)
    have HN := Lib.hid hno
    clear hno
    go_enter Tryz.func44, Tryz.ntmps44
    go_wp2_with fail
    go_ret2
    exact ⟨ret_pair (by rw [hT.out]) HN.out.symm, Kept.refl _⟩
  · obtain ⟨D, hcut, hD, hsz⟩ := head_cut s (by omega)
    have hS := seal_any D (by omega) w ht
    obtain ⟨E, hE⟩ : ∃ E : ByteArray, E = ⟨(sealed D.data.toList).toArray⟩ := ⟨_, rfl⟩
    rw [← hE] at hS
    have HS := Lib.hid hS
    have HE := Lib.hid hE
    clear hS hE
    have h2' : 2 ≤ s.data.toList.length := by rw [← hl.out]; omega
    go_enter Tryz.func44, Tryz.ntmps44
    go_wp2_with (go_at_call 49; refine HS.out.mono ?_; rintro e w' ⟨rfl, hk⟩)
    · have ht : (!E.toList == s.toList) = true := by assumption
      have hno := told_no h2' hD.out HE.out ht
      have hT := openT_no _ hno
      go_ret2
      exact ⟨ret_pair (by rw [hT]) hno.symm, hk⟩
    · have ht : (!E.toList == s.toList) = false := by assumption
      obtain ⟨hyes, hT⟩ := told_yes h2' hD.out HE.out ht
      go_ret2
      exact ⟨ret_pair (by rw [hT]) hyes.symm, hk⟩


end Go.Proofs.YtncdiggejofbbaaGreatDoor.Cr

namespace Go.Proofs.YtncdiggejofbbaaGreatDoor.Cr
open Go.RowKit St Go.Sort CrM
set_option linter.unusedVariables false

theorem cell_one (w : World) (x : Value) (t : TypeId) : ∀ j u, ([x] : List Value)[j]? = some u → (w.alloc (.cells #[x] t)).cell? ((⟨w.heap.size, 0, none⟩ : Addr).add j) = some u := by
  intro j u h
  have e : (⟨w.heap.size, 0, none⟩ : Addr).add j = ⟨w.heap.size, j, none⟩ := by unfold Addr.add; split <;> simp_all
  rw [e, World.cell?_alloc_new]
  simpa using h
theorem info8 : (Tryz.prog.info? 5).map (fun i => (i.zero, i.size, i.bytes)) = some (some (.int .u8 0), 1, 1) := by kernel_rfl
theorem take_one (l : List UInt8) (k : Nat) (h : k < l.length) : cellsOf (l.take (k + 1)) = cellsOf (l.take k) ++ [.int .u8 ((l.getD k 0).toNat : Int)] := by
  rw [List.take_succ_eq_append_getElem h, cellsOf_snoc, List.getD_eq_getElem?_getD, List.getElem?_eq_getElem h]; rfl
theorem chg_at (l : List UInt8) (i k : Nat) (x : UInt8) (h : k < l.length) : (chg l i x).getD k 0 = if k = i then l.getD k 0 ^^^ x else l.getD k 0 := by
  simp [chg, List.getD_eq_getElem?_getD, List.getElem?_mapIdx, List.getElem?_eq_getElem h]


end Go.Proofs.YtncdiggejofbbaaGreatDoor.Cr
