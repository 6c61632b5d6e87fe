/- Plain mathematics of identities: texts, numbers that are read of them. No function of the program is spoken of here. -/
import Derived.Lib.AtoiAll
import Derived.Lib.ItoaNum
import Derived.Lib.IndexMore
import Derived.Test.YtcoagmkncjonmaaDoorIdM0
namespace Go.Proofs.YtcoagmkncjonmaaDoor.IdM
open Go
set_option linter.unusedVariables false

def textL (n i s : Int) : List UInt8 := Lib.itoa n ++ 46 :: (Lib.itoa i ++ 46 :: Lib.itoa s)
def keyTextL (n i s a : Int) : List UInt8 := textL n i s ++ 47 :: Lib.itoa a

/-! ### texts -/
def digit (c : UInt8) : Prop := 48 ≤ c.toNat ∧ c.toNat ≤ 57
theorem digit_of (d : Nat) (h : d < 10) : digit (UInt8.ofNat (48 + d)) ∧ (UInt8.ofNat (48 + d)).toNat = 48 + d := by
  have : (UInt8.ofNat (48 + d)).toNat = 48 + d := by rw [UInt8.toNat_ofNat']; omega
  exact ⟨⟨by omega, by omega⟩, this⟩
theorem dec_small {u : Nat} (h : u < 10) : Lib.decDigits u = [UInt8.ofNat (48 + u)] := by rw [Lib.decDigits, dif_pos h]
theorem dec_big {u : Nat} (h : ¬ u < 10) : Lib.decDigits u = Lib.decDigits (u / 10) ++ [UInt8.ofNat (48 + u % 10)] := by rw [Lib.decDigits, dif_neg h]
theorem dec_digits (u : Nat) : ∀ c ∈ Lib.decDigits u, digit c := by
  induction u using Nat.strongRecOn with
  | _ u ih =>
    by_cases h : u < 10
    · rw [dec_small h]; intro c hc; obtain rfl := List.mem_singleton.1 hc; exact (digit_of u h).1
    · rw [dec_big h]
      intro c hc
      rcases List.mem_append.1 hc with hc | hc
      · exact ih (u / 10) (by omega) c hc
      · obtain rfl := List.mem_singleton.1 hc; exact (digit_of (u % 10) (by omega)).1
theorem dec_ne (u : Nat) : Lib.decDigits u ≠ [] := by
  by_cases h : u < 10
  · rw [dec_small h]; simp
  · rw [dec_big h]; simp
theorem uint_snoc : ∀ (l : List UInt8) (acc m d : Nat), Lib.parseUint10 acc l = .ok m → m < 100000000000000000 → d < 10 → Lib.parseUint10 acc (l ++ [UInt8.ofNat (48 + d)]) = .ok (m * 10 + d)
  | [], acc, m, d, h, hm, hd => by
    simp only [Lib.parseUint10] at h
    injection h with h
    subst h
    have e := (digit_of d hd).2
    simp only [List.nil_append, Lib.parseUint10, e]
    rw [if_pos ⟨by omega, by omega⟩, if_neg (by omega), if_neg (by omega)]
    congr 1; omega
  | c :: r, acc, m, d, h, hm, hd => by
    simp only [List.cons_append, Lib.parseUint10] at h ⊢
    split at h
    · split at h
      · cases h
      · split at h
        · cases h
        · rename_i a b c
          rw [if_pos a, if_neg b, if_neg c]
          exact uint_snoc r _ m d h hm hd
    · cases h
theorem uint_dec (u : Nat) (hu : u < 1000000000) : Lib.parseUint10 0 (Lib.decDigits u) = .ok u := by
  induction u using Nat.strongRecOn with
  | _ u ih =>
    by_cases h : u < 10
    · rw [dec_small h]
      have := uint_snoc [] 0 0 u rfl (by decide) h
      simpa using this
    · rw [dec_big h]
      have := uint_snoc _ 0 (u / 10) (u % 10) (ih (u / 10) (by omega) (by omega)) (by omega) (by omega)
      rw [this]
      congr 1; omega
/-- the number that Atoi hands back, whatever it says of it -/
def atoiV (l : List UInt8) : Int := match Lib.atoiAll l with
  | .ok v => v
  | .range => Lib.atoiSat l
  | _ => 0
theorem atoi_dec (u : Nat) (hu : u < 1000000000) : atoiV (Lib.decDigits u) = u := by
  have hd := dec_digits u
  have h := uint_dec u hu
  have hn := dec_ne u
  unfold atoiV
  have : Lib.atoiAll (Lib.decDigits u) = .ok (u : Int) := by
    cases hl : Lib.decDigits u with
    | nil => exact absurd hl hn
    | cons c r =>
      rw [hl] at hd h
      have hc := hd c List.mem_cons_self
      unfold digit at hc
      simp only [Lib.atoiAll, Lib.parseMag]
      rw [if_neg (by omega : ¬ (c.toNat = 43 ∨ c.toNat = 45)), if_neg (by simp), h]
      simp only
      rw [if_neg (by omega), if_neg (by omega), if_neg (by omega)]
  rw [this]
theorem itoa_nat (u : Nat) : Lib.itoa (u : Int) = Lib.decDigits u := by unfold Lib.itoa; rw [if_neg (by omega)]; simp
theorem atoi_itoa (n : Int) (h0 : 0 ≤ n) (h1 : n < 1000000000) : atoiV (Lib.itoa n) = n := by
  obtain ⟨u, rfl⟩ : ∃ u : Nat, n = u := ⟨n.toNat, by omega⟩
  rw [itoa_nat, atoi_dec u (by omega)]
theorem itoa_dot (n : Int) (h0 : 0 ≤ n) : ∀ c ∈ Lib.itoa n, c ≠ 46 := by
  obtain ⟨u, rfl⟩ : ∃ u : Nat, n = u := ⟨n.toNat, by omega⟩
  rw [itoa_nat]
  intro c hc he
  have := dec_digits u c hc
  subst he
  exact absurd this.1 (by decide)
theorem index_miss : ∀ (l : List UInt8), (∀ c ∈ l, c ≠ 46) → Lib.index l [46] = -1
  | [], _ => rfl
  | c :: l, h => by
    have ih := index_miss l fun x hx => h x (List.mem_cons_of_mem _ hx)
    have hc : c ≠ 46 := h c List.mem_cons_self
    have hp : List.isPrefixOf [46] (c :: l) = false := by simp [List.isPrefixOf]; exact fun e => hc e.symm
    unfold Lib.index
    rw [hp, ih]; rfl
theorem index_hit : ∀ (l r : List UInt8), (∀ c ∈ l, c ≠ 46) → Lib.index (l ++ 46 :: r) [46] = l.length
  | [], r, _ => by
    have hp : List.isPrefixOf [46] (46 :: r) = true := by simp [List.isPrefixOf]
    show Lib.index (46 :: r) [46] = 0
    unfold Lib.index
    rw [hp]; rfl
  | c :: l, r, h => by
    have ih := index_hit l r fun x hx => h x (List.mem_cons_of_mem _ hx)
    have hc : c ≠ 46 := h c List.mem_cons_self
    have hp : List.isPrefixOf [46] (c :: (l ++ 46 :: r)) = false := by simp [List.isPrefixOf]; exact fun e => hc e.symm
    show Lib.index (c :: (l ++ 46 :: r)) [46] = _
    unfold Lib.index
    rw [hp, ih]
    have : ((l.length : Int) == -1) = false := beq_eq_false_iff_ne.2 (by omega)
    rw [this]
    simp
theorem cut_hit (l r : List UInt8) (h : ∀ c ∈ l, c ≠ 46) : (Lib.cut (l ++ 46 :: r) [46]).1 = l ∧ (Lib.cut (l ++ 46 :: r) [46]).2.1 = r := by
  unfold Lib.cut
  rw [index_hit l r h, if_pos (by omega)]
  simp
theorem cut_miss (l : List UInt8) (h : ∀ c ∈ l, c ≠ 46) : (Lib.cut l [46]).1 = l ∧ (Lib.cut l [46]).2.1 = [] := by
  unfold Lib.cut
  rw [index_miss l h, if_neg (by omega)]
  exact ⟨rfl, rfl⟩
/-- the first of three parts, and what is left -/
def c1 (l : List UInt8) : List UInt8 := (Lib.cut l [46]).1
def r1 (l : List UInt8) : List UInt8 := (Lib.cut l [46]).2.1
def pn (l : List UInt8) : Int := atoiV (c1 l)
def pi (l : List UInt8) : Int := atoiV (c1 (r1 l))
def ps (l : List UInt8) : Int := atoiV (c1 (r1 (r1 l)))
theorem p_text {n i s : Int} (h : rightB n i s = true) : pn (textL n i s) = n ∧ pi (textL n i s) = i ∧ ps (textL n i s) = s := by
  obtain ⟨h1, h2, h3⟩ := right_iff.1 h
  have a := cut_hit (Lib.itoa n) (Lib.itoa i ++ 46 :: Lib.itoa s) (itoa_dot n (by omega))
  have b := cut_hit (Lib.itoa i) (Lib.itoa s) (itoa_dot i (by omega))
  have c := cut_miss (Lib.itoa s) (itoa_dot s (by omega))
  unfold pn pi ps c1 r1 textL
  rw [a.1, a.2, b.1, b.2, c.1]
  exact ⟨atoi_itoa n (by omega) (by omega), atoi_itoa i (by omega) (by omega), atoi_itoa s (by omega) (by omega)⟩
/-- a text is an identity's -/
def isT (l : List UInt8) : Bool := rightB (pn l) (pi l) (ps l) && decide (textL (pn l) (pi l) (ps l) = l)
theorem isT_text {n i s : Int} (h : rightB n i s = true) : isT (textL n i s) = true := by
  obtain ⟨a, b, c⟩ := p_text h
  unfold isT; rw [a, b, c, h]; simp
theorem isT_of {l : List UInt8} {n i s : Int} (h : rightB n i s = true) (e : textL n i s = l) : isT l = true ∧ pn l = n ∧ pi l = i ∧ ps l = s := by
  subst e; exact ⟨isT_text h, p_text h⟩

/-! ### the document's way of reading a text -/
def rp : List UInt8 → Nat → List Nat → Option (List Nat)
  | [], _, n => some n
  | x :: l, p, n => if x = 46 then (if 2 < p + 1 then none else rp l (p + 1) n)
    else if x.toNat < 48 ∨ 57 < x.toNat ∨ 100000000 < n.getD p 0 then none
    else rp l p (n.set p (10 * n.getD p 0 + x.toNat - 48))
theorem rp_cons (x : UInt8) (l : List UInt8) (p : Nat) (n : List Nat) : rp (x :: l) p n = if x = 46 then (if 2 < p + 1 then none else rp l (p + 1) n)
    else if x.toNat < 48 ∨ 57 < x.toNat ∨ 100000000 < n.getD p 0 then none
    else rp l p (n.set p (10 * n.getD p 0 + x.toNat - 48)) := rfl
def dv (acc : Nat) (l : List UInt8) : Nat := l.foldl (fun a c => 10 * a + c.toNat - 48) acc
theorem dv_mono : ∀ (l : List UInt8) (acc : Nat), (∀ c ∈ l, digit c) → acc ≤ dv acc l
  | [], acc, _ => Nat.le_refl _
  | c :: l, acc, h => by
    have hc := h c List.mem_cons_self
    unfold digit at hc
    have := dv_mono l (10 * acc + c.toNat - 48) fun x hx => h x (List.mem_cons_of_mem _ hx)
    show acc ≤ dv (10 * acc + c.toNat - 48) l
    omega
theorem dv_dec (u : Nat) : dv 0 (Lib.decDigits u) = u := by
  induction u using Nat.strongRecOn with
  | _ u ih =>
    by_cases h : u < 10
    · rw [dec_small h]; have := (digit_of u h).2; simp only [dv, List.foldl, this]; omega
    · rw [dec_big h]
      unfold dv
      rw [List.foldl_append]
      have e := ih (u / 10) (by omega)
      unfold dv at e
      rw [e]
      have := (digit_of (u % 10) (by omega)).2
      simp only [List.foldl, this]; omega
theorem rp_digits : ∀ (l r : List UInt8) (p : Nat) (n : List Nat), (∀ c ∈ l, digit c) → p < n.length → dv (n.getD p 0) l < 1000000000 → rp (l ++ r) p n = rp r p (n.set p (dv (n.getD p 0) l))
  | [], r, p, n, _, hp, _ => by
    show rp r p n = rp r p (n.set p (n.getD p 0))
    congr 1
    apply List.ext_getElem (by simp)
    intro j h1 h2
    rw [List.getElem_set]
    split
    · rename_i e; subst e; rw [List.getD_eq_getElem?_getD, List.getElem?_eq_getElem hp]; rfl
    · rfl
  | c :: l, r, p, n, h, hp, hv => by
    have hc := h c List.mem_cons_self
    have hl : ∀ x ∈ l, digit x := fun x hx => h x (List.mem_cons_of_mem _ hx)
    have hm := dv_mono l (10 * n.getD p 0 + c.toNat - 48) hl
    have hv' : dv (10 * n.getD p 0 + c.toNat - 48) l < 1000000000 := hv
    unfold digit at hc
    have hne : c ≠ 46 := fun e => by subst e; exact absurd hc.1 (by decide)
    show rp (c :: (l ++ r)) p n = _
    rw [rp_cons, if_neg hne, if_neg (by omega)]
    have hg : (n.set p (10 * n.getD p 0 + c.toNat - 48)).getD p 0 = 10 * n.getD p 0 + c.toNat - 48 := by
      rw [List.getD_eq_getElem?_getD, List.getElem?_set_self hp]; rfl
    have ih := rp_digits l r p (n.set p (10 * n.getD p 0 + c.toNat - 48)) hl (by simpa using hp) (by rw [hg]; exact hv')
    rw [ih, hg, List.set_set]
    rfl
theorem rp_dot (r : List UInt8) (p : Nat) (n : List Nat) (h : p + 1 ≤ 2) : rp (46 :: r) p n = rp r (p + 1) n := by
  show (if (46 : UInt8) = 46 then (if 2 < p + 1 then none else rp r (p + 1) n) else _) = _
  rw [if_pos rfl, if_neg (by omega)]
theorem rp_text {n i s : Int} (h : rightB n i s = true) : rp (textL n i s) 0 [0, 0, 0] = some [n.toNat, i.toNat, s.toNat] := by
  obtain ⟨h1, h2, h3⟩ := right_iff.1 h
  obtain ⟨a, rfl⟩ : ∃ u : Nat, n = u := ⟨n.toNat, by omega⟩
  obtain ⟨b, rfl⟩ : ∃ u : Nat, i = u := ⟨i.toNat, by omega⟩
  obtain ⟨c, rfl⟩ : ∃ u : Nat, s = u := ⟨s.toNat, by omega⟩
  unfold textL
  rw [itoa_nat, itoa_nat, itoa_nat]
  rw [rp_digits _ _ 0 _ (dec_digits a) (by decide) (by show dv 0 _ < _; rw [dv_dec]; omega), rp_dot _ _ _ (by decide)]
  show rp _ 1 [dv 0 (Lib.decDigits a), 0, 0] = _
  rw [rp_digits _ _ 1 _ (dec_digits b) (by simp) (by show dv 0 _ < _; rw [dv_dec]; omega), rp_dot _ _ _ (by decide)]
  show rp _ 2 [dv 0 (Lib.decDigits a), dv 0 (Lib.decDigits b), 0] = _
  have := rp_digits (Lib.decDigits c) [] 2 [dv 0 (Lib.decDigits a), dv 0 (Lib.decDigits b), 0] (dec_digits c) (by simp) (by show dv 0 _ < _; rw [dv_dec]; omega)
  rw [List.append_nil] at this
  rw [this]
  show some [dv 0 (Lib.decDigits a), dv 0 (Lib.decDigits b), dv 0 (Lib.decDigits c)] = _
  rw [dv_dec, dv_dec, dv_dec]
  simp
/-- a text that is read to no end is nobody's -/
theorem rp_none {l : List UInt8} (h : rp l 0 [0, 0, 0] = none) : isT l = false := by
  by_cases e : isT l = true
  · have e' := e
    unfold isT at e'
    simp only [Bool.and_eq_true, decide_eq_true_eq] at e'
    have := rp_text e'.1
    rw [e'.2, h] at this
    cases this
  · simpa using e
theorem rp_some {l : List UInt8} {a b c : Nat} (h : rp l 0 [0, 0, 0] = some [a, b, c]) :
    (isT l = true → pn l = a ∧ pi l = b ∧ ps l = c) ∧ (rightB a b c = true → textL a b c = l → isT l = true) := by
  constructor
  · intro e
    have e' := e
    unfold isT at e'
    simp only [Bool.and_eq_true, decide_eq_true_eq] at e'
    have h2 := rp_text e'.1
    rw [e'.2, h] at h2
    have hr := right_iff.1 e'.1
    simp only [Option.some.injEq, List.cons.injEq, and_true] at h2
    omega
  · intro h1 h2
    exact (isT_of h1 h2).1
theorem rp_len : ∀ (l : List UInt8) (p : Nat) (n m : List Nat), rp l p n = some m → m.length = n.length
  | [], p, n, m, h => by injection h with h; rw [h]
  | x :: l, p, n, m, h => by
    unfold rp at h
    split at h
    · split at h
      · cases h
      · exact rp_len l _ n m h
    · split at h
      · cases h
      · have := rp_len l _ _ m h; simpa using this

/-! ### one step of it -/
theorem drop_cons {l : List UInt8} {k : Nat} (h : k < l.length) : l.drop k = l.getD k 0 :: l.drop (k + 1) := by
  rw [List.drop_eq_getElem_cons h, List.getD_eq_getElem?_getD, List.getElem?_eq_getElem h]; rfl
/-- so far l is read to the part p and the numbers x, y, z -/
def Rp (l : List UInt8) (k p : Nat) (x y z : Int) : Prop := rp l 0 [0, 0, 0] = rp (l.drop k) p [x.toNat, y.toNat, z.toNat]
theorem Rp.start (l : List UInt8) : Rp l 0 0 0 0 0 := rfl
theorem Rp.dot {l : List UInt8} {k p : Nat} {x y z c : Int} (h : Rp l k p x y z) (hk : k < l.length) (hc : c = ((l.getD k 0).toNat : Int)) (h46 : c = 46) (hp : p ≤ 1) : Rp l (k + 1) (p + 1) x y z := by
  have e : l.getD k 0 = 46 := UInt8.toNat_inj.1 (show (l.getD k 0).toNat = 46 by omega)
  unfold Rp at h ⊢
  rw [h, drop_cons hk, e, rp_dot _ _ _ (by omega)]
theorem Rp.over {l : List UInt8} {k : Nat} {x y z c : Int} (h : Rp l k 2 x y z) (hk : k < l.length) (hc : c = ((l.getD k 0).toNat : Int)) (h46 : c = 46) : isT l = false := by
  have e : l.getD k 0 = 46 := UInt8.toNat_inj.1 (show (l.getD k 0).toNat = 46 by omega)
  apply rp_none
  unfold Rp at h
  rw [h, drop_cons hk, e, rp_cons, if_pos rfl, if_pos (by omega)]
theorem Rp.bad {l : List UInt8} {k p : Nat} {x y z c cur : Int} (h : Rp l k p x y z) (hk : k < l.length) (hc : c = ((l.getD k 0).toNat : Int)) (h46 : c ≠ 46) (hcur : cur = (([x.toNat, y.toNat, z.toNat].getD p 0 : Nat) : Int))
    (hb : c < 48 ∨ 57 < c ∨ 100000000 < cur) : isT l = false := by
  have e : l.getD k 0 ≠ 46 := fun e => h46 (by rw [hc, e]; rfl)
  apply rp_none
  unfold Rp at h
  rw [h, drop_cons hk, rp_cons, if_neg e, if_pos (by omega)]
theorem Rp.digit {l : List UInt8} {k p : Nat} {x y z x' y' z' c cur : Int} (h : Rp l k p x y z) (hk : k < l.length) (hc : c = ((l.getD k 0).toNat : Int)) (h48 : 48 ≤ c) (h57 : c ≤ 57) (hcur : cur = (([x.toNat, y.toNat, z.toNat].getD p 0 : Nat) : Int)) (hm : cur ≤ 100000000)
    (e : [x.toNat, y.toNat, z.toNat].set p (10 * cur + c - 48).toNat = [x'.toNat, y'.toNat, z'.toNat]) : Rp l (k + 1) p x' y' z' := by
  have e1 : l.getD k 0 ≠ 46 := fun e => by rw [e] at hc; rw [hc] at h48; exact absurd h48 (by decide)
  unfold Rp at h ⊢
  rw [h, drop_cons hk, rp_cons, if_neg e1, if_neg (by omega), ← e]
  congr 2
  omega
theorem Rp.stop {l : List UInt8} {p : Nat} {x y z : Int} (h : Rp l l.length p x y z) (hx : 0 ≤ x) (hy : 0 ≤ y) (hz : 0 ≤ z) :
    (isT l = true → pn l = x ∧ pi l = y ∧ ps l = z) ∧ (rightB x y z = true → textL x y z = l → isT l = true) := by
  unfold Rp at h
  rw [List.drop_length] at h
  have h2 := rp_some (l := l) (a := x.toNat) (b := y.toNat) (c := z.toNat) h
  rw [Int.toNat_of_nonneg hx, Int.toNat_of_nonneg hy, Int.toNat_of_nonneg hz] at h2
  exact h2

end Go.Proofs.YtcoagmkncjonmaaDoor.IdM
