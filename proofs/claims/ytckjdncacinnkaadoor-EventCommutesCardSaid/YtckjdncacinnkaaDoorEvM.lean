/- Plain: events, their texts, those of a kind, of an attempt, who is below whom. No Go text is spoken of here. -/
import Derived.Test.YtckjdncacinnkaaDoorSeM
import Derived.Test.YtckjdncacinnkaaDoorIdMath
import Derived.Lib.ItoaLen
namespace Go.Proofs.YtckjdncacinnkaaDoor.EvM
open Go IdM Se
set_option linter.unusedVariables false

/-- an event: its eighteen numbers -/
structure Ev where
  (kind rl nd lc kn ki ks ka pn pi ps pa rn ri rs hop cd vl : Int)
def Ev.ints (e : Ev) : List Int := [e.kind, e.rl, e.nd, e.lc, e.kn, e.ki, e.ks, e.ka, e.pn, e.pi, e.ps, e.pa, e.rn, e.ri, e.rs, e.hop, e.cd, e.vl]
theorem Ev.ints_inj {x y : Ev} (h : x.ints = y.ints) : x = y := by
  cases x; cases y; unfold Ev.ints at h
  simp only [List.cons.injEq, and_true] at h
  obtain ⟨rfl, rfl, rfl, rfl, rfl, rfl, rfl, rfl, rfl, rfl, rfl, rfl, rfl, rfl, rfl, rfl, rfl, rfl⟩ := h
  rfl
instance : DecidableEq Ev := fun x y => if h : x.ints = y.ints then .isTrue (Ev.ints_inj h) else .isFalse fun e => h (by rw [e])
instance : Inhabited Ev := ⟨⟨0, 0, 0, 0, 0, 0, 0, 0, 0, 0, 0, 0, 0, 0, 0, 0, 0, 0⟩⟩
def Ev.key (e : Ev) : Ke := ⟨e.kn, e.ki, e.ks, e.ka⟩
def Ev.par (e : Ev) : Ke := ⟨e.pn, e.pi, e.ps, e.pa⟩
def okE (e : Ev) : Prop := ∀ x ∈ e.ints, I64 x
section
variable {e : Ev}
theorem okE.kind (h : okE e) : I64 e.kind := h _ (by simp [Ev.ints])
theorem okE.rl (h : okE e) : I64 e.rl := h _ (by simp [Ev.ints])
theorem okE.nd (h : okE e) : I64 e.nd := h _ (by simp [Ev.ints])
theorem okE.lc (h : okE e) : I64 e.lc := h _ (by simp [Ev.ints])
theorem okE.key (h : okE e) : okK e.key := ⟨h _ (by simp [Ev.ints, Ev.key]), h _ (by simp [Ev.ints, Ev.key]), h _ (by simp [Ev.ints, Ev.key]), h _ (by simp [Ev.ints, Ev.key])⟩
theorem okE.par (h : okE e) : okK e.par := ⟨h _ (by simp [Ev.ints, Ev.par]), h _ (by simp [Ev.ints, Ev.par]), h _ (by simp [Ev.ints, Ev.par]), h _ (by simp [Ev.ints, Ev.par])⟩
theorem okE.root (h : okE e) : I64 e.rn ∧ I64 e.ri ∧ I64 e.rs := ⟨h _ (by simp [Ev.ints]), h _ (by simp [Ev.ints]), h _ (by simp [Ev.ints])⟩
theorem okE.hop (h : okE e) : I64 e.hop := h _ (by simp [Ev.ints])
theorem okE.cd (h : okE e) : I64 e.cd := h _ (by simp [Ev.ints])
theorem okE.vl (h : okE e) : I64 e.vl := h _ (by simp [Ev.ints])
end
theorem key_eq (e : Ev) (k : Ke) : decide ((⟨e.kn, e.ki, e.ks, e.ka⟩ : Ke) = ⟨k.n, k.i, k.s, k.a⟩) = decide (e.key = k) := rfl

/-! ### texts -/
def nameL : List (List UInt8) :=
  [[], [105, 115, 115, 117, 101, 100], [115, 101, 110, 116], [115, 116, 97, 114, 116, 101, 100], [119, 111, 114, 107, 101, 100], [115, 116, 111, 112, 112, 101, 100], [114, 101, 112, 108, 105, 101, 100],
   [101, 110, 100, 101, 100], [99, 97, 110, 99, 101, 108, 108, 101, 100], [99, 114, 97, 115, 104, 101, 100], [112, 117, 115, 104, 101, 100], [99, 111, 109, 109, 105, 116, 116, 101, 100]]
/-- a kind's word -/
def nameT (k : Int) : List UInt8 := if 1 ≤ k ∧ k ≤ 11 then nameL.getD k.toNat [] else [63]
theorem name_len (k : Int) : (nameT k).length ≤ 9 := by
  unfold nameT
  split
  · rename_i h
    rcases (by omega : k = 1 ∨ k = 2 ∨ k = 3 ∨ k = 4 ∨ k = 5 ∨ k = 6 ∨ k = 7 ∨ k = 8 ∨ k = 9 ∨ k = 10 ∨ k = 11) with rfl | rfl | rfl | rfl | rfl | rfl | rfl | rfl | rfl | rfl | rfl <;> decide
  · decide
/-- words, with a blank ahead of each -/
def tailL (l : List (List UInt8)) : List UInt8 := l.flatMap fun x => 32 :: x
/-- words, with a blank between -/
def joinL : List (List UInt8) → List UInt8
  | [] => []
  | x :: r => x ++ tailL r
theorem tail_app (l m : List (List UInt8)) : tailL (l ++ m) = tailL l ++ tailL m := List.flatMap_append
theorem tail_cons (x : List UInt8) (r : List (List UInt8)) : tailL (x :: r) = 32 :: x ++ tailL r := rfl
theorem tail_len {l : List (List UInt8)} {b : Nat} (h : ∀ x ∈ l, x.length ≤ b) : (tailL l).length ≤ l.length * (b + 1) := by
  induction l with
  | nil => simp [tailL]
  | cons x r ih =>
    have h1 := h x (by simp)
    have h2 := ih fun y hy => h y (by simp [hy])
    rw [tail_cons, List.length_append, List.length_cons, List.length_cons, Nat.succ_mul]
    omega
theorem join_app {x : List UInt8} {r m : List (List UInt8)} : joinL (x :: (r ++ m)) = joinL (x :: r) ++ tailL m := by
  simp only [joinL, tail_app, List.append_assoc]
theorem join_len {l : List (List UInt8)} {b : Nat} (h : ∀ x ∈ l, x.length ≤ b) : (joinL l).length ≤ l.length * (b + 1) := by
  cases l with
  | nil => simp [joinL]
  | cons x r =>
    have h1 := h x (by simp)
    have h2 := tail_len fun y hy => h y (List.mem_cons_of_mem _ hy)
    show (x ++ tailL r).length ≤ _
    rw [List.length_append, List.length_cons, Nat.succ_mul]
    omega
def keyT (k : Ke) : List UInt8 := keyTextL k.n k.i k.s k.a
def whoseL (e : Ev) : List (List UInt8) := if e.kind = 9 then [] else [keyT e.key]
def moreL (e : Ev) : List (List UInt8) :=
  if e.kind = 2 ∨ e.kind = 3 then [[98, 121], keyT e.par, [117, 110, 100, 101, 114], textL e.rn e.ri e.rs, [104, 111, 112], Lib.itoa e.hop]
  else if e.kind = 5 ∨ e.kind = 6 ∨ e.kind = 7 then [[99, 111, 100, 101], Lib.itoa e.cd, [118, 97, 108, 117, 101], Lib.itoa e.vl]
  else if e.kind = 1 ∨ e.kind = 10 then [[118, 97, 108, 117, 101], Lib.itoa e.vl] else []
def headL (e : Ev) : List (List UInt8) := [Lib.itoa e.rl, nameT e.kind, [97, 116], Lib.itoa e.nd, Lib.itoa e.lc]
def lineL (e : Ev) : List UInt8 := joinL (headL e ++ whoseL e ++ moreL e)
def textAll (l : List Ev) : List UInt8 := l.flatMap fun e => lineL e ++ [10]
theorem itoa_len {n : Int} (h : I64 n) : (Lib.itoa n).length ≤ 21 := Lib.itoa_length_le n h.1 h.2
theorem text_len {n i s : Int} (h1 : I64 n) (h2 : I64 i) (h3 : I64 s) : (textL n i s).length ≤ 65 := by
  have := itoa_len h1; have := itoa_len h2; have := itoa_len h3
  simp [textL]; omega
theorem keyT_len {k : Ke} (h : okK k) : (keyT k).length ≤ 87 := by
  have := text_len h.1 h.2.1 h.2.2.1; have := itoa_len h.2.2.2
  simp [keyT, keyTextL]; omega
theorem head_le {e : Ev} (h : okE e) : ∀ x ∈ headL e, x.length ≤ 87 := fun x hx => by
  simp only [headL, List.mem_cons, List.not_mem_nil, or_false] at hx
  rcases hx with rfl | rfl | rfl | rfl | rfl
  · exact Nat.le_trans (itoa_len h.rl) (by decide)
  · exact Nat.le_trans (name_len _) (by decide)
  · decide
  · exact Nat.le_trans (itoa_len h.nd) (by decide)
  · exact Nat.le_trans (itoa_len h.lc) (by decide)
theorem whose_le {e : Ev} (h : okE e) : ∀ x ∈ whoseL e, x.length ≤ 87 := fun x hx => by
  unfold whoseL at hx
  split at hx
  · simp at hx
  · rw [List.mem_singleton.1 hx]; exact keyT_len h.key
theorem more_le {e : Ev} (h : okE e) : ∀ x ∈ moreL e, x.length ≤ 87 := fun x hx => by
  unfold moreL at hx
  split at hx
  · simp only [List.mem_cons, List.not_mem_nil, or_false] at hx
    rcases hx with rfl | rfl | rfl | rfl | rfl | rfl
    · decide
    · exact keyT_len h.par
    · decide
    · exact Nat.le_trans (text_len h.root.1 h.root.2.1 h.root.2.2) (by decide)
    · decide
    · exact Nat.le_trans (itoa_len h.hop) (by decide)
  · split at hx
    · simp only [List.mem_cons, List.not_mem_nil, or_false] at hx
      rcases hx with rfl | rfl | rfl | rfl
      · decide
      · exact Nat.le_trans (itoa_len h.cd) (by decide)
      · decide
      · exact Nat.le_trans (itoa_len h.vl) (by decide)
    · split at hx
      · simp only [List.mem_cons, List.not_mem_nil, or_false] at hx
        rcases hx with rfl | rfl
        · decide
        · exact Nat.le_trans (itoa_len h.vl) (by decide)
      · simp at hx
theorem parts_le {e : Ev} (h : okE e) : ∀ x ∈ headL e ++ whoseL e ++ moreL e, x.length ≤ 87 := fun x hx => by
  rcases List.mem_append.1 hx with hx | hx
  · rcases List.mem_append.1 hx with hx | hx
    · exact head_le h x hx
    · exact whose_le h x hx
  · exact more_le h x hx
theorem whose_num (e : Ev) : (whoseL e).length ≤ 1 := by unfold whoseL; split <;> simp
theorem more_num (e : Ev) : (moreL e).length ≤ 6 := by unfold moreL; split; · simp
                                                       split; · simp
                                                       split <;> simp
theorem line_len {e : Ev} (h : okE e) : (lineL e).length ≤ 1056 := by
  have h1 := join_len (parts_le h)
  have h2 := whose_num e
  have h3 := more_num e
  have h4 : (headL e ++ whoseL e ++ moreL e).length ≤ 12 := by
    rw [List.length_append, List.length_append]
    have : (headL e).length = 5 := rfl
    omega
  have h5 := Nat.mul_le_mul_right (87 + 1) h4
  unfold lineL
  omega
theorem text_app (l m : List Ev) : textAll (l ++ m) = textAll l ++ textAll m := List.flatMap_append
theorem text_one (e : Ev) : textAll [e] = lineL e ++ [10] := by unfold textAll; simp
theorem textAll_len {l : List Ev} (h : ∀ e ∈ l, okE e) : (textAll l).length ≤ l.length * 1057 := by
  induction l with
  | nil => simp [textAll]
  | cons e r ih =>
    have h1 := line_len (h e (by simp))
    have h2 := ih fun y hy => h y (by simp [hy])
    have h3 : textAll (e :: r) = (lineL e ++ [10]) ++ textAll r := rfl
    rw [h3]
    simp only [List.length_append, List.length_cons, List.length_nil]
    omega
theorem text_split (l : List Ev) (i : Nat) : textAll l = textAll (l.take i) ++ textAll (l.drop i) := by rw [← text_app, List.take_append_drop]
theorem drop_at {l : List Ev} {i : Nat} {e : Ev} (h : l[i]? = some e) : l.drop i = e :: l.drop (i + 1) := by
  obtain ⟨h1, h2⟩ := List.getElem?_eq_some_iff.1 h
  rw [List.drop_eq_getElem_cons h1, h2]
theorem text_drop {l : List Ev} {i : Nat} {e : Ev} (h : l[i]? = some e) : textAll (l.drop i) = lineL e ++ (10 :: textAll (l.drop (i + 1))) := by
  rw [drop_at h]
  show (lineL e ++ [10]) ++ _ = _
  rw [List.append_assoc]; rfl
theorem take_at {l : List Ev} {i : Nat} {e : Ev} (h : l[i]? = some e) : l.take (i + 1) = l.take i ++ [e] := by rw [List.take_add_one, h]; rfl

/-! ### those of a kind, of an attempt -/
def ofP (kind : Int) (e : Ev) : Bool := decide (e.kind = kind)
def keyP (k : Ke) (e : Ev) : Bool := decide (e.kind ≠ 9) && decide (e.key = k)
def outP (e : Ev) : Bool := decide (e.kind < 1 ∨ 11 < e.kind)
def kinds (l : List Ev) : Nat → Nat
  | 0 => 0
  | n + 1 => kinds l n + (l.filter (ofP ((n : Int) + 1))).length
theorem kinds_nil (n : Nat) : kinds [] n = 0 := by
  induction n with
  | zero => rfl
  | succ n ih => simp [kinds, ih]
theorem kinds_cons (e : Ev) (l : List Ev) (n : Nat) : kinds (e :: l) n = kinds l n + (if 1 ≤ e.kind ∧ e.kind ≤ n then 1 else 0) := by
  induction n with
  | zero => rw [if_neg (by omega)]; rfl
  | succ n ih =>
    show kinds (e :: l) n + _ = kinds l n + _ + _
    rw [ih]
    by_cases h : e.kind = (n : Int) + 1
    · rw [List.filter_cons_of_pos (show ofP ((n : Int) + 1) e = true from decide_eq_true h), if_neg (by omega), if_pos (by omega), List.length_cons]; omega
    · rw [List.filter_cons_of_neg (show ¬ ofP ((n : Int) + 1) e = true from fun c => h (of_decide_eq_true c))]
      by_cases h2 : 1 ≤ e.kind ∧ e.kind ≤ (n : Int)
      · rw [if_pos h2, if_pos (by omega)]; omega
      · rw [if_neg h2, if_neg (by omega)]; omega
theorem kinds_all (l : List Ev) : kinds l 11 + (l.filter outP).length = l.length := by
  induction l with
  | nil => rw [kinds_nil]; rfl
  | cons e l ih =>
    rw [kinds_cons, List.length_cons]
    by_cases h : e.kind < 1 ∨ 11 < e.kind
    · rw [List.filter_cons_of_pos (show outP e = true from decide_eq_true h), if_neg (by omega), List.length_cons]; omega
    · rw [List.filter_cons_of_neg (show ¬ outP e = true from fun c => h (of_decide_eq_true c)), if_pos (by omega)]; omega
theorem filter_turn (l : List Ev) (p q : Ev → Bool) : (l.filter p).filter q = (l.filter q).filter p := by
  rw [List.filter_filter, List.filter_filter]
  congr 1; funext e; exact Bool.and_comm _ _
theorem filter_take {p : Ev → Bool} {l : List Ev} {i : Nat} {e : Ev} (h : l[i]? = some e) : (l.take (i + 1)).filter p = (l.take i).filter p ++ (if p e then [e] else []) := by
  rw [take_at h, List.filter_append]
  congr 1
  by_cases c : p e = true
  · rw [if_pos c, List.filter_cons, if_pos c]; rfl
  · rw [if_neg c, List.filter_cons, if_neg c]; rfl

/-! ### who is below whom -/
/-- is this one begun below k, for the first time? -/
def begB (k : Ke) (out : List Ke) (e : Ev) : Bool := decide (e.kind = 3) && (decide (e.par = k) || decide (e.par ∈ out)) && !(decide (e.key = k) || decide (e.key ∈ out))
def bstep (k : Ke) (out : List Ke) (e : Ev) : List Ke := if begB k out e then out ++ [e.key] else out
def bel (k : Ke) (l : List Ev) : List Ke := l.foldl (bstep k) []
theorem bel_app (k : Ke) (l m : List Ev) : bel k (l ++ m) = m.foldl (bstep k) (bel k l) := List.foldl_append
theorem bel_take {k : Ke} {l : List Ev} {i : Nat} {e : Ev} (h : l[i]? = some e) : bel k (l.take (i + 1)) = bstep k (bel k (l.take i)) e := by
  rw [take_at h, bel_app]; rfl
theorem step_sub (k : Ke) (out : List Ke) (e : Ev) : ∀ x ∈ out, x ∈ bstep k out e := fun x hx => by
  unfold bstep; split
  · exact List.mem_append_left _ hx
  · exact hx
theorem fold_sub (k : Ke) : ∀ (m : List Ev) (out : List Ke), ∀ x ∈ out, x ∈ m.foldl (bstep k) out
  | [], out, x, hx => hx
  | e :: m, out, x, hx => fold_sub k m _ x (step_sub k out e x hx)
theorem bel_sub (k : Ke) (l : List Ev) (i : Nat) : ∀ x ∈ bel k (l.take i), x ∈ bel k l := fun x hx => by
  have : bel k l = (l.drop i).foldl (bstep k) (bel k (l.take i)) := by rw [← bel_app, List.take_append_drop]
  rw [this]; exact fold_sub k _ _ x hx
theorem step_len (k : Ke) (out : List Ke) (e : Ev) : (bstep k out e).length ≤ out.length + 1 := by
  unfold bstep; split
  · simp
  · omega
theorem fold_len (k : Ke) : ∀ (m : List Ev) (out : List Ke), (m.foldl (bstep k) out).length ≤ out.length + m.length
  | [], out => by simp
  | e :: m, out => by
    have h1 := fold_len k m (bstep k out e)
    have h2 := step_len k out e
    rw [List.foldl_cons, List.length_cons]; omega
theorem bel_len (k : Ke) (l : List Ev) : (bel k l).length ≤ l.length := by have := fold_len k l []; rwa [List.length_nil, Nat.zero_add] at this
theorem bel_step (k : Ke) (l : List Ev) (i : Nat) {e : Ev} (h : l[i]? = some e) (h3 : e.kind = 3) (hk : e.key ≠ k) (hp : e.par = k ∨ e.par ∈ bel k (l.take i)) : e.key ∈ bel k l := by
  refine bel_sub k l (i + 1) _ ?_
  rw [bel_take h]
  unfold bstep
  split
  · simp
  · rename_i hb
    unfold begB at hb
    rw [decide_eq_true h3, Bool.true_and] at hb
    have h5 : (decide (e.par = k) || decide (e.par ∈ bel k (l.take i))) = true := by
      rcases hp with hp | hp
      · rw [decide_eq_true hp]; rfl
      · rw [decide_eq_true hp, Bool.or_true]
    rw [h5, Bool.true_and, decide_eq_false hk, Bool.false_or] at hb
    simpa using hb
theorem step_self (k : Ke) (out : List Ke) (e : Ev) (h : k ∉ out) : k ∉ bstep k out e := by
  unfold bstep; split
  · rename_i hb
    intro hc
    rcases List.mem_append.1 hc with hc | hc
    · exact h hc
    · rw [List.mem_singleton] at hc
      unfold begB at hb
      rw [decide_eq_true hc.symm] at hb
      simp at hb
  · exact h
theorem fold_self (k : Ke) : ∀ (m : List Ev) (out : List Ke), k ∉ out → k ∉ m.foldl (bstep k) out
  | [], out, h => h
  | e :: m, out, h => fold_self k m _ (step_self k out e h)
theorem bel_self (k : Ke) (l : List Ev) : k ∉ bel k l := fold_self k l [] (by simp)
theorem step_ok {k : Ke} {out : List Ke} {e : Ev} (h : ∀ x ∈ out, okK x) (he : okE e) : ∀ x ∈ bstep k out e, okK x := fun x hx => by
  unfold bstep at hx; split at hx
  · rcases List.mem_append.1 hx with hx | hx
    · exact h x hx
    · rw [List.mem_singleton.1 hx]; exact he.key
  · exact h x hx
theorem bel_ok {k : Ke} : ∀ {l : List Ev}, (∀ e ∈ l, okE e) → ∀ x ∈ bel k l, okK x := by
  have : ∀ (m : List Ev) (out : List Ke), (∀ e ∈ m, okE e) → (∀ x ∈ out, okK x) → ∀ x ∈ m.foldl (bstep k) out, okK x := by
    intro m
    induction m with
    | nil => intro out _ h; exact h
    | cons e m ih => intro out hm h; exact ih _ (fun y hy => hm y (by simp [hy])) (step_ok h (hm e (by simp)))
  intro l h
  exact this l [] h (by simp)

end Go.Proofs.YtckjdncacinnkaaDoor.EvM
