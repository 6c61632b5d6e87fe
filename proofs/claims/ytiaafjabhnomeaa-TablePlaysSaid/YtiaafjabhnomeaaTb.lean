/- A table in memory: owners in one map, whose a call is in another; what it holds. -/
import Derived.Test.YtiaafjabhnomeaaMv
import Derived.Test.YtiaafjabhnomeaaTbM
import Derived.Test.YtiaafjabhnomeaaOw4
import Derived.Test.YtiaafjabhnomeaaKeE
import Derived.LaidEqlPtr
namespace Go.Proofs.Ytiaafjabhnomeaa.Tb
open Go.RowKit Go.Maps IdM Se Mv
open St (Kept blk_cell blk_free blk_lt blk_set)
open Go.Proofs.Ytiaafjabhnomeaa.Ow (Ow Cls Mc)
open Go.Proofs.Ytiaafjabhnomeaa.Cl (Cl)
open Go.Proofs.Ytiaafjabhnomeaa.Rv (RowV EncT SrcV rowv_nil)
open Wh (Fr)
set_option linter.unusedVariables false
set_option maxRecDepth 20000

/-! ### keys of both maps -/
def dv (x : Di) : Value := .agg #[.int .i64 x.n, .int .i64 x.i, .int .i64 x.s]
def litD (x : Di) : List Lit := x.ints.map (Lit.int .i64)
def dl (x : Di) : Lit := .string (keyBytes (litD x))
theorem klaw_K : Go.WideMaps.KeyLaw Try.prog 32 := deep_law_laid laidOut (m := 4) (by omega) (of_decide_eq_true (by kernel_rfl)) (by kernel_rfl) (by kernel_rfl)
theorem klaw_D : Go.WideMaps.KeyLaw Try.prog 30 := deep_law_laid laidOut (m := 3) (by omega) (of_decide_eq_true (by kernel_rfl)) (by kernel_rfl) (by kernel_rfl)
theorem key_D (x : Di) (h : okD x) : keyOf Try.prog 30 (dv x) = some (dl x) := by
  have hk : Try.prog.keyType 30 = true := by kernel_rfl
  obtain ⟨m, hm⟩ := deep_enough
  obtain ⟨h1, h2, h3⟩ := h
  have hl := lits_id (m + 1) h1 h2 h3
  unfold keyOf
  simp only [Try.underlying30]
  rw [if_pos (by rw [hk]; simp [dv, Value.formed, Try.underlying30, cells_id])]
  show Option.map _ (Try.prog.keyLits _ _ [.int .i64 x.n, .int .i64 x.i, .int .i64 x.s]) = _
  rw [hm, hl]; rfl
theorem dv_inj {x y : Di} (h : dv x = dv y) : x = y := by
  unfold dv at h
  injection h with h
  have h2 := congrArg Array.toList h
  simp only [List.cons.injEq, Value.int.injEq, true_and, and_true] at h2
  exact Di.ext h2.1 h2.2.1 h2.2.2
def keyK : KeyT Ke 32 where
  klaw := klaw_K
  v := kv
  l := kl
  ok := okK
  key := key_K
  inj := fun x y hx hy h => kl_inj hx hy h
def keyD : KeyT Di 30 where
  klaw := klaw_D
  v := dv
  l := dl
  ok := okD
  key := key_D
  inj := fun x y hx hy h => dv_inj ((Keyed.of_law klaw_D).inj (key_D x hx) (by have := key_D y hy; rw [← h] at this; exact this))

/-! ### elements of both maps -/
def li (l : List Int) : DataW Unit := .agg (l.map fun a => .lit (.int .i64 a))
theorem li_inj {l m : List Int} (h : li l = li m) : l = m := by
  unfold li at h
  injection h with h
  have : ∀ l m : List Int, (l.map fun a => (DataW.lit (.int .i64 a) : DataW Unit)) = (m.map fun a => .lit (.int .i64 a)) → l = m := by
    intro l
    induction l with
    | nil => intro m h; cases m with
      | nil => rfl
      | cons b m => simp at h
    | cons a l ih => intro m h; cases m with
      | nil => simp at h
      | cons b m =>
        simp only [List.map_cons, List.cons.injEq, DataW.lit.injEq, Lit.int.injEq, true_and] at h
        rw [h.1, ih m h.2]
  exact this l m h
/-- a slice of one's own: its block, its length, its capacity -/
structure Sl where
  q : Option Nat
  n : Nat
  c : Nat
def ad (q : Option Nat) : Option Addr := q.map fun g => ⟨g, 0, none⟩
def Sl.v (s : Sl) : Value := .slice (ad s.q) s.n s.c
def Sl.is (s : Sl) : List Int := [(match s.q with | none => -1 | some g => (g : Int)), s.n, s.c]
theorem ad_inj {q q' : Option Nat} (h : ad q = ad q') : q = q' := by
  cases q <;> cases q' <;> simp [ad] at h ⊢
  exact h
theorem Sl.v_inj {s t : Sl} (h : s.v = t.v) : s = t := by
  obtain ⟨q, n, c⟩ := s; obtain ⟨q', n', c'⟩ := t
  unfold Sl.v at h
  injection h with h1 h2 h3
  simp only at h1 h2 h3
  rw [ad_inj h1, h2, h3]
theorem Sl.is_inj {s t : Sl} (h : s.is = t.is) : s = t := by
  obtain ⟨q, n, c⟩ := s; obtain ⟨q', n', c'⟩ := t
  unfold Sl.is at h
  simp only [List.cons.injEq, and_true] at h
  obtain ⟨h1, h2, h3⟩ := h
  have e2 : n = n' := by omega
  have e3 : c = c' := by omega
  subst e2; subst e3
  congr 1
  cases q <;> cases q' <;> simp only at h1 <;> first | rfl | omega | (congr 1; omega)
def elS : ElT Sl where
  r := Sl.v
  d := fun s => li s.is
  r_inj := fun _ _ h => Sl.v_inj h
  d_inj := fun _ _ h => Sl.is_inj (li_inj h)
def zS : Sl := ⟨none, 0, 0⟩
def oi (o : Ow) : List Int := [o.kn, o.ki, o.ks, o.ka, o.rn, o.ri, o.rs, o.pn, o.pi, o.ps, o.pa, o.fr, o.hp, o.dl, o.un, o.pr, o.pc, o.dn]
theorem oi_inj {o p : Ow} (h : oi o = oi p) : o = p := by
  obtain ⟨x0, x1, x2, x3, x4, x5, x6, x7, x8, x9, x10, x11, x12, x13, x14, x15, x16, x17⟩ := o
  obtain ⟨y0, y1, y2, y3, y4, y5, y6, y7, y8, y9, y10, y11, y12, y13, y14, y15, y16, y17⟩ := p
  unfold oi at h
  simp only [List.cons.injEq, and_true] at h
  obtain ⟨rfl, rfl, rfl, rfl, rfl, rfl, rfl, rfl, rfl, rfl, rfl, rfl, rfl, rfl, rfl, rfl, rfl, rfl⟩ := h
  rfl
/-- an owner as it lies in its map -/
structure Eo where
  o : Ow
  s : Sl
def Eo.arr (e : Eo) : Array Value := e.o.arr (ad e.s.q) e.s.n e.s.c
theorem arr_list (o : Ow) (q : Option Addr) (n c : Nat) : (o.arr q n c).toList = (oi o).map (Value.int .i64) ++ [.slice q n c] := by
  obtain ⟨x0, x1, x2, x3, x4, x5, x6, x7, x8, x9, x10, x11, x12, x13, x14, x15, x16, x17⟩ := o
  rfl
theorem ints_inj : ∀ {l m : List Int}, l.map (Value.int .i64) = m.map (Value.int .i64) → l = m
  | [], [], _ => rfl
  | [], b :: m, h => by simp at h
  | a :: l, [], h => by simp at h
  | a :: l, b :: m, h => by
    simp only [List.map_cons, List.cons.injEq, Value.int.injEq, true_and] at h
    rw [h.1, ints_inj h.2]
theorem Eo.inj {e f : Eo} (h : e.arr = f.arr) : e = f := by
  obtain ⟨o, s⟩ := e; obtain ⟨p, t⟩ := f
  have h2 := congrArg Array.toList h
  unfold Eo.arr at h2
  rw [arr_list, arr_list] at h2
  obtain ⟨h3, h4⟩ := List.append_inj h2 (by simp [oi])
  have e1 : o = p := oi_inj (ints_inj h3)
  have e2 : s = t := Sl.v_inj (by unfold Sl.v; simpa using h4)
  subst e1; subst e2; rfl
def elO : ElT Eo where
  r := fun e => .agg e.arr
  d := fun e => li (oi e.o ++ e.s.is)
  r_inj := fun _ _ h => Eo.inj (by injection h)
  d_inj := fun e f h => by
    obtain ⟨o, s⟩ := e; obtain ⟨p, t⟩ := f
    obtain ⟨h1, h2⟩ := List.append_inj (li_inj h) (by simp [oi])
    obtain rfl : o = p := oi_inj h1
    obtain rfl : s = t := Sl.is_inj h2
    rfl
def zO : Eo := ⟨Ow.zero, zS⟩
theorem zero_own (u : World) : (zeroValue 52).run Try.prog u = .ok (elO.r zO) u := by kernel_rfl
theorem zero_row (u : World) : (zeroValue 42).run Try.prog u = .ok (elS.r zS) u := by kernel_rfl

/-! ### rows of keys -/
def encK (x : Ke) : List Value := [.int .i64 x.n, .int .i64 x.i, .int .i64 x.s, .int .i64 x.a]
def zsK : List Value := [.int .i64 0, .int .i64 0, .int .i64 0, .int .i64 0]
theorem one_K (x : Ke) : ∀ u ∈ encK x, u.oneCell' = true := fun u hu => by
  simp only [encK, List.mem_cons, List.not_mem_nil, or_false] at hu
  rcases hu with rfl | rfl | rfl | rfl <;> rfl
theorem enc_key : EncT (α := Ke) 42 32 4 32 zsK encK :=
  ⟨Try.underlying42, by kernel_rfl, by decide, by decide, rfl, fun u hu => by
    simp only [zsK, List.mem_cons, List.not_mem_nil, or_false] at hu
    rcases hu with rfl | rfl | rfl | rfl <;> rfl, fun _ => rfl, one_K⟩
abbrev Kr (w : World) (v : Value) (l : List Ke) : Prop := RowV w v 32 4 encK l
theorem row_sl {α : Type} {enc : α → List Value} {w : World} {v : Value} {et : TypeId} {k : Nat} {L : List α} (h : RowV w v et k enc L) : ∃ s : Sl, v = s.v ∧ s.n = L.length ∧ v.ownBlock = s.q ∧ (L ≠ [] → ∃ g, s.q = some g) := by
  rcases h.2 with ⟨e, hn⟩ | ⟨g, cap, cur, e, _⟩
  · exact ⟨zS, e, hn.symm, by rw [e]; rfl, fun c => absurd (List.length_eq_zero_iff.mp hn) c⟩
  · exact ⟨⟨some g, L.length, cap⟩, e, rfl, by rw [e]; rfl, fun _ => ⟨g, rfl⟩⟩

/-! ### whose calls are, in memory -/
structure CbA (w : World) (N : Nat) (C : Di → Option Sl) (n : Nat) (F : Cal) (m : Nat) (S : Nat → Prop) : Prop where
  map : MV keyD elS zS w N C n
  most : n ≤ m
  len : ∀ d, (F d).length ≤ m
  row : ∀ d, okD d → (C d = none ∧ F d = []) ∨ ∃ s g, C d = some s ∧ s.q = some g ∧ F d ≠ [] ∧ Kr w s.v (F d) ∧ S g ∧ g ≠ N
  inj : ∀ d d' s s', okD d → okD d' → C d = some s → C d' = some s' → s.q = s'.q → d = d'
  sN : S N
/-- BLOCK N IS A MAP that tells whose calls are; it and its rows lie in S -/
def Cb (w : World) (N : Nat) (F : Cal) (m : Nat) (S : Nat → Prop) : Prop := ∃ C n, CbA w N C n F m S

section
variable {w w' : World} {N m n : Nat} {F : Cal} {C : Di → Option Sl} {S S' : Nat → Prop}
theorem CbA.stay (h : CbA w N C n F m S) (hk : ∀ k, k < w.heap.size → S k → w'.heap[k]? = w.heap[k]?) : CbA w' N C n F m S :=
  ⟨h.map.kept (hk N h.map.lt h.sN), h.most, h.len, fun d hd => (h.row d hd).imp id fun ⟨s, g, h1, h2, h3, h4, h5, h6⟩ => ⟨s, g, h1, h2, h3, h4.kept fun g' e => by
    obtain ⟨s', e1, _, e2, _⟩ := row_sl h4
    have : g' = g := by
      have e3 : s.v.ownBlock = some g := by unfold Sl.v ad; rw [h2]; rfl
      exact Option.some.inj (e.symm.trans e3)
    subst this
    exact hk g' (h4.lt e) h5, h5, h6⟩, h.inj, h.sN⟩
theorem Cb.kept (h : Cb w N F m S) (hk : Kept w w') : Cb w' N F m S := by obtain ⟨C, n, h⟩ := h; exact ⟨C, n, h.stay fun k c _ => hk.block k c⟩
theorem Cb.fr (h : Cb w N F m S) (hk : Fr S' w w') (hn : ∀ k, S k → ¬ S' k) : Cb w' N F m S := by obtain ⟨C, n, h⟩ := h; exact ⟨C, n, h.stay fun k c d => hk.block k c (hn k d)⟩
theorem Cb.mono (h : Cb w N F m S) (hs : ∀ k, S k → S' k) {m' : Nat} (hm : m ≤ m') : Cb w N F m' S' := by
  obtain ⟨C, n, h⟩ := h
  exact ⟨C, n, ⟨h.map, Nat.le_trans h.most hm, fun d => Nat.le_trans (h.len d) hm, fun d hd => (h.row d hd).imp id fun ⟨s, g, h1, h2, h3, h4, h5, h6⟩ => ⟨s, g, h1, h2, h3, h4, hs g h5, h6⟩, h.inj, hs N h.sN⟩⟩
theorem Cb.made (w : World) : Cb (w.alloc (.map #[] 0)) w.heap.size (fun _ => []) 0 (fun k => k = w.heap.size) :=
  ⟨_, _, ⟨MV.made keyD elS zS w, Nat.le_refl _, fun _ => Nat.le_refl _, fun d hd => .inl ⟨rfl, rfl⟩, (fun d d' s s' _ _ e _ _ => by cases e), rfl⟩⟩
/-- the row of an identity -/
theorem Cb.at (h : Cb w N F m S) {d : Di} (hd : okD d) : ∃ s : Sl, (Instr.lookup 61 (.map (some N)) (dv d) false).run Try.prog w = .ok s.v w ∧ Kr w s.v (F d) ∧ ∀ g, s.v.ownBlock = some g → S g ∧ g ≠ N := by
  obtain ⟨C, n, h⟩ := h
  refine ⟨(C d).getD zS, h.map.look Try.underlying61 zero_row hd, ?_⟩
  rcases h.row d hd with ⟨h1, h2⟩ | ⟨s, g, h1, h2, h3, h4, h5, h6⟩
  · rw [h1, h2]; exact ⟨rowv_nil _ _ _ _, fun g e => by cases e⟩
  · rw [h1]; exact ⟨h4, fun g' e => by
      have e3 : s.v.ownBlock = some g := by unfold Sl.v ad; rw [h2]; rfl
      obtain rfl : g' = g := Option.some.inj (e.symm.trans e3)
      exact ⟨h5, h6⟩⟩
theorem ne_inj {s s' : Sl} {g : Nat} (h : s.v.ownBlock = some g) (h' : s'.q = some g) : s.q = s'.q := by
  obtain ⟨q, n, c⟩ := s
  cases q with
  | none => cases h
  | some k => rw [h']; exact h
/-- a row is another one; what of the others' blocks turned lies in S and is not theirs -/
theorem CbA.turn (h : CbA w N C n F m S) {d : Di} (hd : okD d) {l : List Ke} (hl : l ≠ []) {s : Sl} {n' m' : Nat} {w' : World} (hm : MV keyD elS zS w' N (upd C d (some s)) n') (h1 : n' ≤ m') (h2 : m ≤ m') (h3 : l.length ≤ m')
    (hr : Kr w' s.v l) (hg : ∀ g, s.q = some g → g ≠ N) (hb : (∃ t, C d = some t ∧ s.q = t.q) ∨ ∃ g, s.q = some g ∧ w.heap.size ≤ g)
    (hk : ∀ k, k < w.heap.size → (∀ t, C d = some t → t.q ≠ some k) → k ≠ N → w'.heap[k]? = w.heap[k]?) :
    CbA w' N (upd C d (some s)) n' (upd F d l) m' (fun k => S k ∨ s.q = some k) := by
  have far : ∀ d', okD d' → d' ≠ d → ∀ t g, C d' = some t → t.q = some g → Kr w t.v (F d') → s.q ≠ some g := fun d' hd' hne t g e1 e2 hr' c => by
    rcases hb with ⟨t', e3, e4⟩ | ⟨g', e3, e4⟩
    · exact hne (h.inj d' d t t' hd' hd e1 e3 (e2.trans (c.symm.trans e4)))
    · obtain rfl : g' = g := Option.some.inj (e3.symm.trans c)
      have := hr'.lt (g := g') (by unfold Sl.v ad; rw [e2]; rfl)
      omega
  refine ⟨hm, h1, fun d' => ?_, fun d' hd' => ?_, fun a b x y ha hb' ea eb hq => ?_, .inl h.sN⟩
  · by_cases c : d' = d
    · subst c; rw [upd_same]; exact h3
    · rw [upd_other _ _ c]; exact Nat.le_trans (h.len d') h2
  · by_cases c : d' = d
    · subst c
      rw [upd_same, upd_same]
      obtain ⟨s', e1, _, _, e4⟩ := row_sl hr
      obtain rfl := Sl.v_inj e1
      obtain ⟨g, e⟩ := e4 hl
      exact .inr ⟨_, g, rfl, e, hl, hr, .inr e, hg g e⟩
    · rw [upd_other _ _ c, upd_other _ _ c]
      refine (h.row d' hd').imp id fun ⟨t, g, e1, e2, e3, e4, e5, e6⟩ => ⟨t, g, e1, e2, e3, e4.kept fun g' e => ?_, .inl e5, e6⟩
      have e7 : t.v.ownBlock = some g := by unfold Sl.v ad; rw [e2]; rfl
      obtain rfl : g' = g := Option.some.inj (e.symm.trans e7)
      exact hk g' (e4.lt e) (fun t' e8 e9 => c (h.inj d' d t t' hd' hd e1 e8 (e2.trans e9.symm))) e6
  · by_cases ca : a = d
    · by_cases cb : b = d
      · rw [ca, cb]
      · subst ca
        rw [upd_same] at ea; rw [upd_other _ _ cb] at eb
        obtain rfl := Option.some.inj ea
        rcases h.row b hb' with ⟨e1, _⟩ | ⟨t, g, e1, e2, _, e4, _, _⟩
        · rw [e1] at eb; cases eb
        · rw [e1] at eb; obtain rfl := Option.some.inj eb
          exact absurd (hq.trans e2) (far b hb' cb t g e1 e2 e4)
    · rw [upd_other _ _ ca] at ea
      by_cases cb : b = d
      · subst cb
        rw [upd_same] at eb
        obtain rfl := Option.some.inj eb
        rcases h.row a ha with ⟨e1, _⟩ | ⟨t, g, e1, e2, _, e4, _, _⟩
        · rw [e1] at ea; cases ea
        · rw [e1] at ea; obtain rfl := Option.some.inj ea
          exact absurd (hq.symm.trans e2) (far a ha ca t g e1 e2 e4)
      · rw [upd_other _ _ cb] at eb
        exact h.inj a b x y ha hb' ea eb hq
/-- 't[d] = append(t[d], k)' -/
theorem Cb.note (h : Cb w N F m S) (hm : m ≤ 900000) {d : Di} (hd : okD d) (k : Ke) : ∃ (s : Sl) (st : Int) (w1 : World), (Instr.mapEntry 61 (.map (some N)) (dv d)).run Try.prog w = .ok (.tuple #[s.v, .int .i64 st]) w1 ∧
    Kr w1 s.v (F d) ∧ Fr (fun k => k = N) w w1 ∧ w1.heap.size = w.heap.size ∧
    ∀ v2 w2, Kr w2 v2 (F d ++ [k]) → w1.grownBy w2 s.v.ownBlock → (v2.ownBlock = s.v.ownBlock ∨ ∃ g, v2.ownBlock = some g ∧ w1.heap.size ≤ g) →
      ∃ w3, (Instr.entryStore 61 (.map (some N)) (.int .i64 st) v2).run Try.prog w2 = .ok () w3 ∧ Cb w3 N (noteS k F d) (m + 1) (fun k => S k ∨ v2.ownBlock = some k) ∧ Fr S w w3 ∧ (∀ g, v2.ownBlock = some g → S g ∨ w.heap.size ≤ g) := by
  obtain ⟨C, n, h⟩ := h
  have hn := h.most
  obtain ⟨st, w1, r1, f1, z1, hst⟩ := h.map.entry Try.underlying61 (by omega) zero_row hd
  have hN := h.map.lt
  have hrow : Kr w ((C d).getD zS).v (F d) ∧ ∀ g, ((C d).getD zS).q = some g → S g ∧ g ≠ N ∧ C d = some ((C d).getD zS) := by
    rcases h.row d hd with ⟨e1, e2⟩ | ⟨s, g, e1, e2, e3, e4, e5, e6⟩
    · rw [e1, e2]; exact ⟨rowv_nil _ _ _ _, fun g e => by cases e⟩
    · rw [e1]; exact ⟨e4, fun g' e => by
        obtain rfl : g' = g := Option.some.inj (e.symm.trans e2)
        exact ⟨e5, e6, rfl⟩⟩
  obtain ⟨s, hs⟩ : ∃ s, (C d).getD zS = s := ⟨_, rfl⟩
  rw [hs] at hrow r1
  have ob : s.v.ownBlock = s.q := by obtain ⟨q, n, c⟩ := s; cases q <;> rfl
  refine ⟨s, st, w1, r1, hrow.1.kept fun g e => ?_, f1, z1, fun v2 w2 hr2 hg2 hb2 => ?_⟩
  · rw [ob] at e
    exact f1.block g (hrow.1.lt (by rw [ob]; exact e)) (hrow.2 g e).2.1
  · have hN2 : w2.heap[N]? = w1.heap[N]? := hg2.block N (by omega) (fun c => by rw [ob] at c; exact (hrow.2 N c.symm).2.1 rfl)
    obtain ⟨s2, rfl, _, ob2, _⟩ := row_sl hr2
    obtain ⟨w3, r3, m3, f3, z3⟩ := hst w2 s2 hN2
    have z2 := hg2.size
    have hnew : ∀ g, s2.v.ownBlock = some g → (s.q = some g) ∨ w.heap.size ≤ g := fun g e => by
      rcases hb2 with c | ⟨g', c, hl⟩
      · exact .inl (by rw [← ob, ← c]; exact e)
      · obtain rfl : g' = g := Option.some.inj (c.symm.trans e)
        exact .inr (by omega)
    have hne : ∀ g, s2.v.ownBlock = some g → g ≠ N := fun g e c => by
      subst c
      rcases hnew g e with c | c
      · exact (hrow.2 g c).2.1 rfl
      · omega
    have hblk : ∀ k, k < w.heap.size → s.q ≠ some k → k ≠ N → w3.heap[k]? = w.heap[k]? := fun k hk c1 c2 =>
      (f3.block k (by omega) c2).trans ((hg2.block k (by omega) (fun c => c1 (by rw [← ob]; exact c.symm))).trans (f1.block k hk c2))
    refine ⟨w3, r3, ?_, ⟨(f3.os.trans hg2.os).trans f1.os, (f3.tape.trans hg2.tape).trans f1.tape, (f3.output.trans hg2.output).trans f1.output, by omega, fun k hk hS => hblk k hk (fun c => hS (hrow.2 k c).1) (fun c => hS (c ▸ h.sN))⟩, fun g e => (hnew g e).imp (fun c => (hrow.2 g c).1) id⟩
    have hr3 : Kr w3 s2.v (F d ++ [k]) := hr2.kept fun g e => f3.block g (hr2.lt e) (hne g e)
    have ht := h.turn hd (l := F d ++ [k]) (by simp) (s := s2) (n' := if (C d).isSome then n else n + 1) (m' := m + 1) (w' := w3) m3 (by split <;> omega) (by omega) (by have := h.len d; simp; omega) hr3 (fun g e => hne g (ob2.trans e)) ?_ ?_
    · rw [ob2]
      exact ⟨_, _, ht⟩
    · rcases hb2 with c | ⟨g', c, hl⟩
      · rw [ob, ob2] at c
        cases hq : s.q with
        | some g => exact .inl ⟨s, (hrow.2 g hq).2.2, c⟩
        | none =>
          obtain ⟨s', e1, _, _, e4⟩ := row_sl hr2
          obtain rfl := Sl.v_inj e1
          obtain ⟨g, e⟩ := e4 (by simp)
          rw [e, hq] at c; cases c
      · exact .inr ⟨g', by rw [← ob2]; exact c, by omega⟩
    · intro k hk hc hN'
      refine hblk k hk (fun c => ?_) hN'
      exact hc s (hrow.2 k c).2.2 c
theorem CbA.gone (h : CbA w N C n F m S) {d : Di} (hd : okD d) {n' : Nat} {w' : World} (hm : MV keyD elS zS w' N (upd C d none) n') (h1 : n' ≤ m)
    (hk : ∀ k, k < w.heap.size → (∀ t, C d = some t → t.q ≠ some k) → k ≠ N → w'.heap[k]? = w.heap[k]?) :
    CbA w' N (upd C d none) n' (upd F d []) m S := by
  refine ⟨hm, h1, fun d' => ?_, fun d' hd' => ?_, fun a b x y ha hb' ea eb hq => ?_, h.sN⟩
  · by_cases c : d' = d
    · subst c; rw [upd_same]; exact Nat.zero_le _
    · rw [upd_other _ _ c]; exact h.len d'
  · by_cases c : d' = d
    · subst c
      rw [upd_same, upd_same]; exact .inl ⟨rfl, rfl⟩
    · rw [upd_other _ _ c, upd_other _ _ c]
      refine (h.row d' hd').imp id fun ⟨t, g, e1, e2, e3, e4, e5, e6⟩ => ⟨t, g, e1, e2, e3, e4.kept fun g' e => ?_, e5, e6⟩
      have e7 : t.v.ownBlock = some g := by unfold Sl.v ad; rw [e2]; rfl
      obtain rfl : g' = g := Option.some.inj (e.symm.trans e7)
      exact hk g' (e4.lt e) (fun t' e8 e9 => c (h.inj d' d t t' hd' hd e1 e8 (e2.trans e9.symm))) e6
  · by_cases ca : a = d
    · subst ca; rw [upd_same] at ea; cases ea
    · by_cases cb : b = d
      · subst cb; rw [upd_same] at eb; cases eb
      · rw [upd_other _ _ ca] at ea; rw [upd_other _ _ cb] at eb
        exact h.inj a b x y ha hb' ea eb hq
/-- behind the search in a row's own memory: the row is struck out, or laid anew, shorter -/
theorem Cb.strike (h : Cb w N F m S) (hm : m ≤ 900000) {d : Di} (hd : okD d) (k : Ke) : ∃ s : Sl, (∀ u, u.heap[N]? = w.heap[N]? → (Instr.lookup 61 (.map (some N)) (dv d) false).run Try.prog u = .ok s.v u) ∧ Kr w s.v (F d) ∧ (∀ g, s.v.ownBlock = some g → S g ∧ g ≠ N) ∧
    ∀ W v2 w2, Kept w W → Fr (fun k => s.v.ownBlock = some k) W w2 → Kr w2 v2 ((F d).filter fun x => !decide (x = k)) → v2.ownBlock = s.v.ownBlock → ∀ U, Kept w2 U →
      (((F d).filter fun x => !decide (x = k)) = [] → ∀ ty, ∃ w3, (Builtin.delete_ #[61, 30] ty #[.map (some N), dv d]).run Try.prog U = .ok (.tuple #[]) w3 ∧ Cb w3 N (forS k F d) m S ∧ Fr S w w3) ∧
      (((F d).filter fun x => !decide (x = k)) ≠ [] → ∃ w3, (Instr.mapUpdate 61 (.map (some N)) (dv d) v2).run Try.prog U = .ok () w3 ∧ Cb w3 N (forS k F d) m S ∧ Fr S w w3) := by
  obtain ⟨C, n, h⟩ := h
  have hn := h.most
  have hN := h.map.lt
  have hrow : Kr w ((C d).getD zS).v (F d) ∧ ∀ g, ((C d).getD zS).q = some g → S g ∧ g ≠ N ∧ C d = some ((C d).getD zS) := by
    rcases h.row d hd with ⟨e1, e2⟩ | ⟨s, g, e1, e2, e3, e4, e5, e6⟩
    · rw [e1, e2]; exact ⟨rowv_nil _ _ _ _, fun g e => by cases e⟩
    · rw [e1]; exact ⟨e4, fun g' e => by
        obtain rfl : g' = g := Option.some.inj (e.symm.trans e2)
        exact ⟨e5, e6, rfl⟩⟩
  have hlook : ∀ u : World, u.heap[N]? = w.heap[N]? → (Instr.lookup 61 (.map (some N)) (dv d) false).run Try.prog u = .ok (elS.r ((C d).getD zS)) u := fun u hu => (h.map.kept hu).look Try.underlying61 zero_row hd
  obtain ⟨s, hs⟩ : ∃ s, (C d).getD zS = s := ⟨_, rfl⟩
  rw [hs] at hrow hlook
  have ob : s.v.ownBlock = s.q := by obtain ⟨q, n, c⟩ := s; cases q <;> rfl
  refine ⟨s, hlook, hrow.1, fun g e => ⟨(hrow.2 g (ob ▸ e)).1, (hrow.2 g (ob ▸ e)).2.1⟩, fun W v2 w2 hW hf hr2 hb2 U hU => ?_⟩
  have zW := hW.size
  have z2 := hf.size
  have zU := hU.size
  have hN2 : U.heap[N]? = w.heap[N]? := (hU.block N (by omega)).trans <| (hf.block N (by omega) (fun c => by rw [ob] at c; exact (hrow.2 N c).2.1 rfl)).trans (hW.block N hN)
  have hm2 := h.map.kept hN2
  have F2 : ∀ w3 : World, Fr (fun k => k = N) U w3 → Fr S w w3 ∧ ∀ k, k < w.heap.size → (∀ t, C d = some t → t.q ≠ some k) → k ≠ N → w3.heap[k]? = w.heap[k]? := fun w3 f3 => by
    have hblk : ∀ k, k < w.heap.size → s.q ≠ some k → k ≠ N → w3.heap[k]? = w.heap[k]? := fun k hk c1 c2 => by
      have z3 := f3.size
      exact (f3.block k (by omega) c2).trans <| (hU.block k (by omega)).trans ((hf.block k (by omega) (fun c => c1 (ob ▸ c))).trans (hW.block k hk))
    refine ⟨⟨((f3.os.trans hU.os).trans hf.os).trans hW.os, ((f3.tape.trans hU.tape).trans hf.tape).trans hW.tape, ((f3.output.trans hU.output).trans hf.output).trans hW.output, by have := f3.size; omega, fun k hk hS => hblk k hk (fun c => hS (hrow.2 k c).1) (fun c => hS (c ▸ h.sN))⟩, fun k hk hc hN' => hblk k hk (fun c => ?_) hN'⟩
    exact hc s (hrow.2 k c).2.2 c
  refine ⟨fun hnil ty => ?_, fun hne => ?_⟩
  · obtain ⟨w3, r3, m3, t3⟩ := hm2.drop Try.underlying61 hd ty
    obtain ⟨q1, q2⟩ := F2 w3 (Fr.turned (Fr.refl _ _) t3 (.inl rfl))
    have hgo := h.gone hd m3 (by split <;> omega) q2
    unfold forS; rw [hnil]
    exact ⟨w3, r3, ⟨_, _, hgo⟩, q1⟩
  · obtain ⟨s2, rfl, _, ob2, e4⟩ := row_sl hr2
    obtain ⟨g, eg⟩ := e4 hne
    obtain ⟨w3, r3, m3, t3⟩ := hm2.store Try.underlying61 (by omega) hd s2
    have f3 : Fr (fun k => k = N) U w3 := Fr.turned (Fr.refl _ _) t3 (.inl rfl)
    obtain ⟨q1, q2⟩ := F2 w3 f3
    have hsq : s2.q = s.q := ob2.symm.trans (hb2.trans ob)
    have hsg : s.q = some g := hsq.symm.trans eg
    have hr3 : Kr w3 s2.v ((F d).filter fun x => !decide (x = k)) := (RowV.keep hr2 hU).kept fun g' e => by
      have e' : s2.q = some g' := ob2.symm.trans e
      exact f3.block g' (Nat.lt_of_lt_of_le (hr2.lt e) zU) (fun c => (hrow.2 g' (hsq.symm.trans e')).2.1 c)
    refine ⟨w3, r3, ?_, q1⟩
    have ht := h.turn hd (l := (F d).filter fun x => !decide (x = k)) hne (s := s2) (n' := if (C d).isSome then n else n + 1) (m' := m) (w' := w3) m3 (by rw [(hrow.2 g hsg).2.2]; exact hn) (Nat.le_refl _) (Nat.le_trans (List.length_filter_le _ _) (h.len d)) hr3 (fun g' e => (hrow.2 g' (hsq.symm.trans e)).2.1) (.inl ⟨s, (hrow.2 g hsg).2.2, hsq⟩) q2
    exact Cb.mono (S := fun k => S k ∨ s2.q = some k) ⟨_, _, ht⟩ (fun k c => c.elim id fun c => (hrow.2 k (hsq.symm.trans c)).1) (Nat.le_refl _)
end

end Go.Proofs.Ytiaafjabhnomeaa.Tb
