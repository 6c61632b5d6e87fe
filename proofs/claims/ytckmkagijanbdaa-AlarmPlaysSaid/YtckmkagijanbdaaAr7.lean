/- A deed done in both, the program's alarms and the document's: the same answer; then both hold the same. -/
import Derived.Test.YtckmkagijanbdaaAr5
import Derived.Test.YtckmkagijanbdaaAr3
import Derived.Deep.RegionHeld3
namespace Go.Proofs.Ytckmkagijanbdaa.Al
open Go.RowKit Go.Sort Tk Wh IdM
open St (Kept blk_cell blk_free blk_lt blk_set)
set_option linter.unusedVariables false

/-- BOTH, and a block beside them -/
structure D3 (W : World) (B R : Nat) (g na la : Int) (Aa : List (Nm × Int)) (nr : Int) (Ar : List (Nm × Int)) (db : Nat) (o : Obj) (u : World) (Sa Sr : Nat → Prop) (vL : Value) : Prop where
  a : Alm u Sa B g na la Aa
  r : RIs u Sr R g nr Ar vL
  ap : ∀ k, Sa k → ¬ Sr k
  ka : Acc W Sa u
  kr : Acc W Sr u
  box : u.heap[db]? = some o
  ba : ¬ Sa db
  br : ¬ Sr db
def E3 (W : World) (B R : Nat) (g na la : Int) (Aa : List (Nm × Int)) (nr : Int) (Ar : List (Nm × Int)) (db : Nat) (o : Obj) (u : World) : Prop := ∃ Sa Sr vL, D3 W B R g na la Aa nr Ar db o u Sa Sr vL
/-- .. and what the first one's Due told -/
def F3 (W : World) (B R : Nat) (g na la : Int) (Aa : List (Nm × Int)) (nr : Int) (Ar : List (Nm × Int)) (db : Nat) (o : Obj) (va : Value) (E : List Nm) (u : World) : Prop :=
  ∃ Sa Sr vL, D3 W B R g na la Aa nr Ar db o u Sa Sr vL ∧ RowI u va 42 5 (E.map Nm.ints) ∧ ∀ b, va.ownBlock = some b → ¬ Sr b

section
variable {W u u' : World} {B R db : Nat} {g na la nr to : Int} {Aa Ar : List (Nm × Int)} {o : Obj} {Sa Sr S' : Nat → Prop} {vL : Value} {n i s a k t : Int}
theorem D3.left {na' la' : Int} {Aa' : List (Nm × Int)} (h : D3 W B R g na la Aa nr Ar db o u Sa Sr vL) (hw : Alm u' S' B g na' la' Aa') (hs : ∀ k, S' k → Sa k ∨ u.heap.size ≤ k) (hf : Fr Sa u u') : D3 W B R g na' la' Aa' nr Ar db o u' S' Sr vL :=
  ⟨hw, h.r.fr hf (fun k c d => h.ap k d c), fun k c d => (hs k c).elim (fun e => h.ap k e d) (fun e => by have := h.r.lt k d; omega), h.ka.step hf hs, ⟨(h.ka.step hf hs).kept, h.kr.new⟩, (hf.block db (blk_lt h.box) h.ba).trans h.box, fun c => (hs db c).elim h.ba (fun e => by have := blk_lt h.box; omega), h.br⟩
theorem D3.right {nr' : Int} {Ar' : List (Nm × Int)} (h : D3 W B R g na la Aa nr Ar db o u Sa Sr vL) (hw : Rent u Sr R g nr' Ar' u') : ∃ Sr' vL', D3 W B R g na la Aa nr' Ar' db o u' Sa Sr' vL' ∧ (∀ k, Sr' k → Sr k ∨ u.heap.size ≤ k) ∧ Fr Sr u u' := by
  obtain ⟨S2, v2, h2, hs, hf⟩ := hw
  exact ⟨S2, v2, ⟨h.a.fr hf h.ap, h2, fun k c d => (hs k d).elim (h.ap k c) (fun e => by have := h.a.lt k c; omega), ⟨(h.kr.step hf hs).kept, h.ka.new⟩, h.kr.step hf hs, (hf.block db (blk_lt h.box) h.br).trans h.box, h.ba, fun c => (hs db c).elim h.br (fun e => by have := blk_lt h.box; omega)⟩, hs, hf⟩
theorem D3.go (h : D3 W B R g na la Aa nr Ar db o u Sa Sr vL) (hk : Kept u u') : D3 W B R g na la Aa nr Ar db o u' Sa Sr vL :=
  ⟨h.a.kept hk, h.r.kept hk, h.ap, h.ka.go hk, h.kr.go hk, (hk.block db (blk_lt h.box)).trans h.box, h.ba, h.br⟩
theorem E3.go (h : E3 W B R g na la Aa nr Ar db o u) (hk : Kept u u') : E3 W B R g na la Aa nr Ar db o u' := by obtain ⟨Sa, Sr, vL, d⟩ := h; exact ⟨Sa, Sr, vL, d.go hk⟩
theorem E3.kept (h : E3 W B R g na la Aa nr Ar db o u) : Kept W u := by obtain ⟨Sa, Sr, vL, d⟩ := h; exact d.ka.kept
theorem E3.box (h : E3 W B R g na la Aa nr Ar db o u) : u.heap[db]? = some o := by obtain ⟨Sa, Sr, vL, d⟩ := h; exact d.box
theorem F3.go {va : Value} {E : List Nm} (h : F3 W B R g na la Aa nr Ar db o va E u) (hk : Kept u u') : F3 W B R g na la Aa nr Ar db o va E u' := by
  obtain ⟨Sa, Sr, vL, d, r, b⟩ := h; exact ⟨Sa, Sr, vL, d.go hk, r.keep hk, b⟩
theorem F3.box {va : Value} {E : List Nm} (h : F3 W B R g na la Aa nr Ar db o va E u) : u.heap[db]? = some o := by obtain ⟨Sa, Sr, vL, d, _⟩ := h; exact d.box

theorem E3.setA (h : E3 W B R g na la Aa nr Ar db o u) (hx : okN ⟨n, i, s, a, k⟩) (hl : Aa.length < 4096) (hla : la < 1152921504606846976) :
    Calls Try.prog 16 #[.pointer (some ⟨B, 0, none⟩), .agg #[.int .i64 n, .int .i64 i, .int .i64 s, .int .i64 a, .int .i64 k], .int .i64 t] u fun e u' => e = .returned (.int .i64 0) ∧ E3 W B R g na (la + 1) (put ⟨n, i, s, a, k⟩ (clamp t) Aa) nr Ar db o u' := by
  obtain ⟨Sa, Sr, vL, d⟩ := h
  refine (set_room (t := t) d.a hx (Nat.lt_of_le_of_lt (List.length_filter_le _ _) hl) hla).mono ?_
  rintro e u' ⟨rfl, S', h, s, f⟩
  exact ⟨rfl, _, _, _, d.left h s f⟩
theorem E3.setR (h : E3 W B R g na la Aa nr Ar db o u) (hx : okN ⟨n, i, s, a, k⟩) (hl : Ar.length < 4096) :
    Calls Try.prog 25 #[.pointer (some ⟨R, 0, none⟩), .agg #[.int .i64 n, .int .i64 i, .int .i64 s, .int .i64 a, .int .i64 k], .int .i64 t] u fun e u' => e = .returned (.int .i64 0) ∧ E3 W B R g na la Aa nr (put ⟨n, i, s, a, k⟩ (clamp t) Ar) db o u' := by
  obtain ⟨Sa, Sr, vL, d⟩ := h
  refine (rset_any (t := t) d.r hx hl).mono ?_
  rintro e u' ⟨rfl, h⟩
  obtain ⟨S2, v2, d2, _⟩ := d.right h
  exact ⟨rfl, _, _, _, d2⟩
theorem E3.clearA (h : E3 W B R g na la Aa nr Ar db o u) (hx : okN ⟨n, i, s, a, k⟩) :
    Calls Try.prog 23 #[.pointer (some ⟨B, 0, none⟩), .agg #[.int .i64 n, .int .i64 i, .int .i64 s, .int .i64 a, .int .i64 k]] u fun e u' => e = .returned (.bool (timA ⟨n, i, s, a, k⟩ Aa).isSome) ∧ E3 W B R g na la (drop ⟨n, i, s, a, k⟩ Aa) nr Ar db o u' := by
  obtain ⟨Sa, Sr, vL, d⟩ := h
  refine (clear_any d.a hx).mono ?_
  rintro e u' ⟨rfl, S', h, s, f⟩
  exact ⟨rfl, _, _, _, d.left h s f⟩
theorem E3.clearR (h : E3 W B R g na la Aa nr Ar db o u) :
    Calls Try.prog 26 #[.pointer (some ⟨R, 0, none⟩), .agg #[.int .i64 n, .int .i64 i, .int .i64 s, .int .i64 a, .int .i64 k]] u fun e u' => e = .returned (.bool (timA ⟨n, i, s, a, k⟩ Ar).isSome) ∧ E3 W B R g na la Aa nr (drop ⟨n, i, s, a, k⟩ Ar) db o u' := by
  obtain ⟨Sa, Sr, vL, d⟩ := h
  refine (rclear_any d.r).mono ?_
  rintro e u' ⟨rfl, h⟩
  obtain ⟨S2, v2, d2, _⟩ := d.right h
  exact ⟨rfl, _, _, _, d2⟩
theorem E3.timeA (h : E3 W B R g na la Aa nr Ar db o u) (hx : okN ⟨n, i, s, a, k⟩) :
    Calls Try.prog 20 #[.pointer (some ⟨B, 0, none⟩), .agg #[.int .i64 n, .int .i64 i, .int .i64 s, .int .i64 a, .int .i64 k]] u fun e u' => e = .returned (.tuple #[.int .i64 ((timA ⟨n, i, s, a, k⟩ Aa).getD 0), .bool (timA ⟨n, i, s, a, k⟩ Aa).isSome]) ∧ Kept u u' := by
  obtain ⟨Sa, Sr, vL, d⟩ := h; exact time_al d.a hx
theorem E3.timeR (h : E3 W B R g na la Aa nr Ar db o u) :
    Calls Try.prog 29 #[.pointer (some ⟨R, 0, none⟩), .agg #[.int .i64 n, .int .i64 i, .int .i64 s, .int .i64 a, .int .i64 k]] u fun e u' => e = .returned (.tuple #[.int .i64 ((timA ⟨n, i, s, a, k⟩ Ar).getD 0), .bool (timA ⟨n, i, s, a, k⟩ Ar).isSome]) ∧ Kept u u' := by
  obtain ⟨Sa, Sr, vL, d⟩ := h; exact rtime_any d.r
theorem E3.dueA (h : E3 W B R g na la Aa nr Ar db o u) (hto : max na (clamp t) = to) :
    Calls Try.prog 17 #[.pointer (some ⟨B, 0, none⟩), .int .i64 t] u fun e u' => ∃ va, e = .returned va ∧ F3 W B R g to la (restA g to Aa) nr Ar db o va ((Al.dueA g to Aa).map Prod.fst) u' := by
  obtain ⟨Sa, Sr, vL, d⟩ := h
  refine (due_any d.a t hto).mono ?_
  rintro e u' ⟨v, S', rfl, r, h, s, f, nb⟩
  exact ⟨v, rfl, _, _, _, d.left h s f, r, fun b e c => by have := (nb b e).1; have := d.r.lt b c; omega⟩
theorem F3.dueR {va : Value} {E : List Nm} (h : F3 W B R g na la Aa nr Ar db o va E u) (hto : max nr (clamp t) = to) :
    Calls Try.prog 28 #[.pointer (some ⟨R, 0, none⟩), .int .i64 t] u fun e u' => ∃ vb, e = .returned vb ∧ E3 W B R g na la Aa to (restA g to Ar) db o u' ∧ RowI u' va 42 5 (E.map Nm.ints) ∧ RowI u' vb 33 5 (((Al.dueA g to Ar).map Prod.fst).map Nm.ints) := by
  obtain ⟨Sa, Sr, vL, d, r, nb⟩ := h
  refine (rdue_any d.r t hto).mono ?_
  rintro e u' ⟨v, rfl, rv, h⟩
  obtain ⟨S2, v2, d2, _, f⟩ := d.right h
  exact ⟨v, rfl, ⟨_, _, _, d2⟩, r.kept fun b e => f.block b (r.lt e) (nb b e), rv⟩
end

/-- both hold the same, after so many deeds -/
def PD (W : World) (B R : Nat) (g : Int) (m : Nat) (u : World) : Prop := ∃ now last A Sa Sr vL, (Alm u Sa B g now last A ∧ RIs u Sr R g now A vL ∧ (∀ k, Sa k → ¬ Sr k) ∧ Acc W Sa u ∧ Acc W Sr u) ∧ last ≤ (m : Int) ∧ A.length ≤ m
theorem E3.pd {W u : World} {B R db m : Nat} {g now last : Int} {A : List (Nm × Int)} {o : Obj} (h : E3 W B R g now last A now A db o u) (h1 : last ≤ (m : Int)) (h2 : A.length ≤ m) : PD W B R g m u := by
  obtain ⟨Sa, Sr, vL, d⟩ := h
  exact ⟨now, last, A, Sa, Sr, vL, ⟨d.a, d.r, d.ap, d.ka, d.kr⟩, h1, h2⟩
theorem PD.kept {W u : World} {B R m : Nat} {g : Int} (h : PD W B R g m u) : Kept W u := by
  obtain ⟨now, last, A, Sa, Sr, vL, ⟨_, _, _, ka, _⟩, _⟩ := h; exact ka.kept
theorem PD.go {W u u' : World} {B R m : Nat} {g : Int} (h : PD W B R g m u) (hk : Kept u u') : PD W B R g m u' := by
  obtain ⟨now, last, A, Sa, Sr, vL, ⟨a, r, ap, ka, kr⟩, b⟩ := h; exact ⟨now, last, A, Sa, Sr, vL, ⟨a.kept hk, r.kept hk, ap, ka.go hk, kr.go hk⟩, b⟩
theorem PD.enter {W u : World} {B R m : Nat} {g : Int} (h : PD W B R g m u) (o : Obj) : ∃ now last A, E3 W B R g now last A now A u.heap.size o (u.alloc o) ∧ last ≤ (m : Int) ∧ A.length ≤ m ∧ A.Pairwise ltA := by
  obtain ⟨now, last, A, Sa, Sr, vL, ⟨a, r, ap, ka, kr⟩, b1, b2⟩ := h
  have hk := Kept.one u o
  exact ⟨now, last, A, ⟨Sa, Sr, vL, a.kept hk, r.kept hk, ap, ka.go hk, kr.go hk, St.blk_new _ _, fun c => by have := a.lt _ c; omega, fun c => by have := r.lt _ c; omega⟩, b1, b2, r.ord⟩

def dobj (q n i s a k t : Int) : Obj := .cells #[.int .i64 q, .int .i64 n, .int .i64 i, .int .i64 s, .int .i64 a, .int .i64 k, .int .i64 t] 35
theorem E3.cells {W u : World} {B R db : Nat} {g na la nr : Int} {Aa Ar : List (Nm × Int)} {q n i s a k t : Int} (h : E3 W B R g na la Aa nr Ar db (dobj q n i s a k t) u) :
    u.cell? ⟨db, 0, none⟩ = some (.int .i64 q) ∧ u.cell? ⟨db, 1, none⟩ = some (.int .i64 n) ∧ u.cell? ⟨db, 2, none⟩ = some (.int .i64 i) ∧ u.cell? ⟨db, 3, none⟩ = some (.int .i64 s) ∧ u.cell? ⟨db, 4, none⟩ = some (.int .i64 a) ∧ u.cell? ⟨db, 5, none⟩ = some (.int .i64 k) ∧ u.cell? ⟨db, 6, none⟩ = some (.int .i64 t) := by
  have hb := h.box
  unfold dobj at hb
  refine ⟨?_, ?_, ?_, ?_, ?_, ?_, ?_⟩ <;> (rw [blk_cell hb]; rfl)
theorem F3.cells {W u : World} {B R db : Nat} {g na la nr : Int} {Aa Ar : List (Nm × Int)} {q n i s a k t : Int} {va : Value} {E : List Nm} (h : F3 W B R g na la Aa nr Ar db (dobj q n i s a k t) va E u) :
    u.cell? ⟨db, 0, none⟩ = some (.int .i64 q) ∧ u.cell? ⟨db, 1, none⟩ = some (.int .i64 n) ∧ u.cell? ⟨db, 2, none⟩ = some (.int .i64 i) ∧ u.cell? ⟨db, 3, none⟩ = some (.int .i64 s) ∧ u.cell? ⟨db, 4, none⟩ = some (.int .i64 a) ∧ u.cell? ⟨db, 5, none⟩ = some (.int .i64 k) ∧ u.cell? ⟨db, 6, none⟩ = some (.int .i64 t) := by
  have hb := h.box
  unfold dobj at hb
  refine ⟨?_, ?_, ?_, ?_, ?_, ?_, ?_⟩ <;> (rw [blk_cell hb]; rfl)

section
variable {W u : World} {B R m : Nat} {g : Int} {q n i s a k t : Int}

set_option maxHeartbeats 4000000 in
set_option maxRecDepth 100000 in
theorem does_set (h : PD W B R g m u) (hx : okN ⟨n, i, s, a, k⟩) (hm : m ≤ 1000) (hq : q = 0 ∨ q = 1 ∨ q = 2) :
    Calls Try.prog 10 #[.pointer (some ⟨B, 0, none⟩), .pointer (some ⟨R, 0, none⟩), .agg #[.int .i64 q, .int .i64 n, .int .i64 i, .int .i64 s, .int .i64 a, .int .i64 k, .int .i64 t]] u fun e u' => e = .returned (.bool true) ∧ PD W B R g (m + 1) u' := by
  obtain ⟨now, last, A, hE, hl, hA, hord⟩ := h.enter (dobj q n i s a k t)
  have FIN : ∀ u', E3 W B R g now (last + 1) (put ⟨n, i, s, a, k⟩ (clamp t) A) now (put ⟨n, i, s, a, k⟩ (clamp t) A) u.heap.size (dobj q n i s a k t) u' → PD W B R g (m + 1) u' := fun u' h => h.pd (by omega) (by have := put_len_le hord (⟨n, i, s, a, k⟩ : Nm) (clamp t); omega)
  have FIN := Lib.hid FIN
  have HX := Lib.hid hx
  have HL : A.length < 4096 := by omega
  have HL := Lib.hid HL
  have HLA : last < 1152921504606846976 := by omega
  have HLA := Lib.hid HLA
  obtain ⟨db, hdb⟩ : ∃ b, u.heap.size = b := ⟨_, rfl⟩
  obtain ⟨u1, hu1⟩ : ∃ w, u.alloc (dobj q n i s a k t) = w := ⟨_, rfl⟩
  rw [hdb, hu1] at hE
  rw [hdb] at FIN
  have HDB := Lib.hid hdb
  have HU := Lib.hid hu1
  obtain ⟨c0, c1, c2, c3, c4, c5, c6⟩ := hE.cells
  have hD := hE.go (Kept.refl _).drew
  unfold dobj at HU
  clear hdb hu1 hx hord hA hl h
  rcases hq with rfl | rfl | rfl
  all_goals
    go_enter Try.func10, Try.ntmps10
    go_wp2_with fail
    rw [HU.out, HDB.out]
    go_wp2_with fail
    go_region_held3 (fun w' => w'.cell? ⟨db, 1, none⟩ = some (.int .i64 n) ∧ w'.cell? ⟨db, 2, none⟩ = some (.int .i64 i) ∧ w'.cell? ⟨db, 3, none⟩ = some (.int .i64 s) ∧ w'.cell? ⟨db, 4, none⟩ = some (.int .i64 a) ∧ w'.cell? ⟨db, 5, none⟩ = some (.int .i64 k) ∧ w'.cell? ⟨db, 6, none⟩ = some (.int .i64 t))
      (first | exact (E3.cells (by assumption)).2)
      (first | (go_at_call 14; refine (mine_any n i s a k _).mono ?_; rintro e w1 ⟨rfl, hk1⟩; have hE1 := E3.go (by assumption) hk1) | (go_at_call 16; refine (E3.setA (t := t) (by assumption) HX.out HL.out HLA.out).mono ?_; rintro e w1 ⟨rfl, hE1⟩) | (go_at_call 25; refine (E3.setR (t := t) (by assumption) HX.out HL.out).mono ?_; rintro e w1 ⟨rfl, hE1⟩))
    go_wp2_with fail
    go_ret
    exact ⟨rfl, FIN.out _ (by assumption)⟩
set_option maxHeartbeats 4000000 in
set_option maxRecDepth 100000 in
theorem does_clear (h : PD W B R g m u) (hx : okN ⟨n, i, s, a, k⟩) (hq : q = 3) :
    Calls Try.prog 10 #[.pointer (some ⟨B, 0, none⟩), .pointer (some ⟨R, 0, none⟩), .agg #[.int .i64 q, .int .i64 n, .int .i64 i, .int .i64 s, .int .i64 a, .int .i64 k, .int .i64 t]] u fun e u' => e = .returned (.bool true) ∧ PD W B R g (m + 1) u' := by
  obtain ⟨now, last, A, hE, hl, hA, hord⟩ := h.enter (dobj q n i s a k t)
  have FIN : ∀ u', E3 W B R g now last (drop ⟨n, i, s, a, k⟩ A) now (drop ⟨n, i, s, a, k⟩ A) u.heap.size (dobj q n i s a k t) u' → PD W B R g (m + 1) u' := fun u' h => h.pd (by omega) (by have : (drop ⟨n, i, s, a, k⟩ A).length ≤ A.length := List.length_filter_le _ _; omega)
  have FIN := Lib.hid FIN
  have HX := Lib.hid hx
  obtain ⟨db, hdb⟩ : ∃ b, u.heap.size = b := ⟨_, rfl⟩
  obtain ⟨u1, hu1⟩ : ∃ w, u.alloc (dobj q n i s a k t) = w := ⟨_, rfl⟩
  rw [hdb, hu1] at hE
  rw [hdb] at FIN
  have HDB := Lib.hid hdb
  have HU := Lib.hid hu1
  obtain ⟨c0, c1, c2, c3, c4, c5, c6⟩ := hE.cells
  have hD := hE.go (Kept.refl _).drew
  unfold dobj at HU
  obtain ⟨tb, htb⟩ : ∃ b, (timA ⟨n, i, s, a, k⟩ A).isSome = b := ⟨_, rfl⟩
  have CA : ∀ {w nr Ar}, E3 W B R g now last A nr Ar db (dobj q n i s a k t) w → Calls Try.prog 23 #[.pointer (some ⟨B, 0, none⟩), .agg #[.int .i64 n, .int .i64 i, .int .i64 s, .int .i64 a, .int .i64 k]] w fun e u' => e = .returned (.bool tb) ∧ E3 W B R g now last (drop ⟨n, i, s, a, k⟩ A) nr Ar db (dobj q n i s a k t) u' := fun h => by have := h.clearA HX.out; rw [htb] at this; exact this
  have CR : ∀ {w na la Aa}, E3 W B R g na la Aa now A db (dobj q n i s a k t) w → Calls Try.prog 26 #[.pointer (some ⟨R, 0, none⟩), .agg #[.int .i64 n, .int .i64 i, .int .i64 s, .int .i64 a, .int .i64 k]] w fun e u' => e = .returned (.bool tb) ∧ E3 W B R g na la Aa now (drop ⟨n, i, s, a, k⟩ A) db (dobj q n i s a k t) u' := fun h => by have := h.clearR (n := n) (i := i) (s := s) (a := a) (k := k); rw [htb] at this; exact this
  clear hdb hu1 hx hord hA hl h htb
  subst hq
  go_enter Try.func10, Try.ntmps10
  go_wp2_with fail
  rw [HU.out, HDB.out]
  go_wp2_with fail
  go_region_held3 (fun w' => w'.cell? ⟨db, 1, none⟩ = some (.int .i64 n) ∧ w'.cell? ⟨db, 2, none⟩ = some (.int .i64 i) ∧ w'.cell? ⟨db, 3, none⟩ = some (.int .i64 s) ∧ w'.cell? ⟨db, 4, none⟩ = some (.int .i64 a) ∧ w'.cell? ⟨db, 5, none⟩ = some (.int .i64 k) ∧ w'.cell? ⟨db, 6, none⟩ = some (.int .i64 t))
    (first | exact (E3.cells (by assumption)).2)
    (first | (go_at_call 14; refine (mine_any n i s a k _).mono ?_; rintro e w1 ⟨rfl, hk1⟩; have hE1 := E3.go (by assumption) hk1) | (go_at_call 23; refine (CA (by assumption)).mono ?_; rintro e w1 ⟨rfl, hE1⟩) | (go_at_call 26; refine (CR (by assumption)).mono ?_; rintro e w1 ⟨rfl, hE1⟩))
  go_wp2_with fail
  go_ret
  exact ⟨rfl, FIN.out _ (by assumption)⟩

set_option maxHeartbeats 4000000 in
set_option maxRecDepth 100000 in
theorem does_due (h : PD W B R g m u) (hx : okN ⟨n, i, s, a, k⟩) (hm : m ≤ 1000) (hq : q = 4 ∨ q = 5) :
    Calls Try.prog 10 #[.pointer (some ⟨B, 0, none⟩), .pointer (some ⟨R, 0, none⟩), .agg #[.int .i64 q, .int .i64 n, .int .i64 i, .int .i64 s, .int .i64 a, .int .i64 k, .int .i64 t]] u fun e u' => e = .returned (.bool true) ∧ PD W B R g (m + 1) u' := by
  obtain ⟨now, last, A, hE, hl, hA, hord⟩ := h.enter (dobj q n i s a k t)
  obtain ⟨to, hto⟩ : ∃ c, max now (clamp t) = c := ⟨_, rfl⟩
  have FIN : ∀ u', E3 W B R g to last (restA g to A) to (restA g to A) u.heap.size (dobj q n i s a k t) u' → PD W B R g (m + 1) u' := fun u' h => h.pd (by omega) (by have : (restA g to A).length ≤ A.length := List.length_filter_le _ _; omega)
  have FIN := Lib.hid FIN
  have HX := Lib.hid hx
  obtain ⟨db, hdb⟩ : ∃ b, u.heap.size = b := ⟨_, rfl⟩
  obtain ⟨u1, hu1⟩ : ∃ w, u.alloc (dobj q n i s a k t) = w := ⟨_, rfl⟩
  rw [hdb, hu1] at hE
  rw [hdb] at FIN
  have HDB := Lib.hid hdb
  have HU := Lib.hid hu1
  obtain ⟨c0, c1, c2, c3, c4, c5, c6⟩ := hE.cells
  have hD := hE.go (Kept.refl _).drew
  unfold dobj at HU
  have HTO := Lib.hid hto
  have HEL : ((Al.dueA g to A).map Prod.fst).length ≤ 1000000 := by rw [List.length_map]; have : (Al.dueA g to A).length ≤ A.length := List.length_filter_le _ _; omega
  obtain ⟨E, hEE⟩ : ∃ E, (Al.dueA g to A).map Prod.fst = E := ⟨_, rfl⟩
  have CA : ∀ {w}, E3 W B R g now last A now A db (dobj q n i s a k t) w → Calls Try.prog 17 #[.pointer (some ⟨B, 0, none⟩), .int .i64 t] w fun e u' => ∃ va, e = .returned va ∧ F3 W B R g to last (restA g to A) now A db (dobj q n i s a k t) va E u' := fun h => by have := h.dueA HTO.out; rw [hEE] at this; exact this
  have CR : ∀ {w va}, F3 W B R g to last (restA g to A) now A db (dobj q n i s a k t) va E w → Calls Try.prog 28 #[.pointer (some ⟨R, 0, none⟩), .int .i64 t] w fun e u' => ∃ vb, e = .returned vb ∧ E3 W B R g to last (restA g to A) to (restA g to A) db (dobj q n i s a k t) u' ∧ RowI u' va 42 5 (E.map Nm.ints) ∧ RowI u' vb 33 5 (E.map Nm.ints) := fun h => by have := h.dueR HTO.out; rw [hEE] at this; exact this
  rw [hEE] at HEL
  have HEL := Lib.hid HEL
  clear hdb hu1 hx hord hA hl h hto hEE
  rcases hq with rfl | rfl
  all_goals
    go_enter Try.func10, Try.ntmps10
    go_wp2_with fail
    rw [HU.out, HDB.out]
    go_wp2_with fail
    go_region_held3 (fun w' => w'.cell? ⟨db, 6, none⟩ = some (.int .i64 t))
      (first | exact (E3.cells (by assumption)).2.2.2.2.2.2 | exact (F3.cells (by assumption)).2.2.2.2.2.2)
      (first | (go_at_call 17; refine (CA (by assumption)).mono ?_; rintro e w1 ⟨va, rfl, hF1⟩) | (go_at_call 28; refine (CR (by assumption)).mono ?_; rintro e w2 ⟨vb, rfl, hE2, ra, rb⟩) | (go_at_call 27; refine (same_any ra rb HEL.out).mono ?_; rintro e w3 ⟨rfl, hk3⟩; have hE3 := E3.go hE2 hk3))
    go_wp2_with fail
    go_ret
    exact ⟨rfl, FIN.out _ (by assumption)⟩

set_option maxHeartbeats 4000000 in
set_option maxRecDepth 100000 in
theorem does_time (h : PD W B R g m u) (hx : okN ⟨n, i, s, a, k⟩) (hq : q = 6) :
    Calls Try.prog 10 #[.pointer (some ⟨B, 0, none⟩), .pointer (some ⟨R, 0, none⟩), .agg #[.int .i64 q, .int .i64 n, .int .i64 i, .int .i64 s, .int .i64 a, .int .i64 k, .int .i64 t]] u fun e u' => e = .returned (.bool true) ∧ PD W B R g (m + 1) u' := by
  obtain ⟨now, last, A, hE, hl, hA, hord⟩ := h.enter (dobj q n i s a k t)
  have FIN : ∀ u', E3 W B R g now last A now A u.heap.size (dobj q n i s a k t) u' → PD W B R g (m + 1) u' := fun u' h => h.pd (by omega) (by omega)
  have FIN := Lib.hid FIN
  have HX := Lib.hid hx
  obtain ⟨db, hdb⟩ : ∃ b, u.heap.size = b := ⟨_, rfl⟩
  obtain ⟨u1, hu1⟩ : ∃ w, u.alloc (dobj q n i s a k t) = w := ⟨_, rfl⟩
  rw [hdb, hu1] at hE
  rw [hdb] at FIN
  have HDB := Lib.hid hdb
  have HU := Lib.hid hu1
  obtain ⟨c0, c1, c2, c3, c4, c5, c6⟩ := hE.cells
  have hD := hE.go (Kept.refl _).drew
  unfold dobj at HU
  obtain ⟨tb, htb⟩ : ∃ b, (timA ⟨n, i, s, a, k⟩ A).isSome = b := ⟨_, rfl⟩
  obtain ⟨tv, htv⟩ : ∃ b, (timA ⟨n, i, s, a, k⟩ A).getD 0 = b := ⟨_, rfl⟩
  have CA : ∀ {w}, E3 W B R g now last A now A db (dobj q n i s a k t) w → Calls Try.prog 20 #[.pointer (some ⟨B, 0, none⟩), .agg #[.int .i64 n, .int .i64 i, .int .i64 s, .int .i64 a, .int .i64 k]] w fun e u' => e = .returned (.tuple #[.int .i64 tv, .bool tb]) ∧ Kept w u' := fun h => by have := h.timeA HX.out; rw [htb, htv] at this; exact this
  have CR : ∀ {w}, E3 W B R g now last A now A db (dobj q n i s a k t) w → Calls Try.prog 29 #[.pointer (some ⟨R, 0, none⟩), .agg #[.int .i64 n, .int .i64 i, .int .i64 s, .int .i64 a, .int .i64 k]] w fun e u' => e = .returned (.tuple #[.int .i64 tv, .bool tb]) ∧ Kept w u' := fun h => by have := h.timeR (n := n) (i := i) (s := s) (a := a) (k := k); rw [htb, htv] at this; exact this
  clear hdb hu1 hx hord hA hl h htb htv
  subst hq
  go_enter Try.func10, Try.ntmps10
  go_wp2_with fail
  rw [HU.out, HDB.out]
  go_wp2_with fail
  refine (mine_any n i s a k _).mono ?_
  rintro e w1 ⟨rfl, hk1⟩
  have hE1 := hE.go hk1
  have C1 := Lib.hid (CA hE1)
  have HE1 := Lib.hid hE1
  clear hE1 hk1 hE hD CA c0 c1 c2 c3 c4 c5 c6
  go_wp2_with fail
  refine C1.out.mono ?_
  rintro e w2 ⟨rfl, hk2⟩
  have hE2 := HE1.out.go hk2
  obtain ⟨c0, c1, c2, c3, c4, c5, c6⟩ := hE2.cells
  have C2 := Lib.hid (CR hE2)
  have HE2 := Lib.hid hE2
  clear hE2 hk2 CR C1
  go_wp2_with fail
  refine C2.out.mono ?_
  rintro e w3 ⟨rfl, hk3⟩
  have HE3 := Lib.hid (HE2.out.go hk3)
  clear hk3 C2
  go_wp2_with fail
  go_ret
  exact ⟨rfl, FIN.out _ HE3.out⟩

set_option maxHeartbeats 4000000 in
set_option maxRecDepth 100000 in
theorem does_other (h : PD W B R g m u) (h0 : q ≠ 0) (h1 : q ≠ 1) (h2 : q ≠ 2) (h3 : q ≠ 3) (h4 : q ≠ 4) (h5 : q ≠ 5) (h6 : q ≠ 6) :
    Calls Try.prog 10 #[.pointer (some ⟨B, 0, none⟩), .pointer (some ⟨R, 0, none⟩), .agg #[.int .i64 q, .int .i64 n, .int .i64 i, .int .i64 s, .int .i64 a, .int .i64 k, .int .i64 t]] u fun e u' => e = .returned (.bool true) ∧ PD W B R g (m + 1) u' := by
  obtain ⟨now, last, A, hE, hl, hA, hord⟩ := h.enter (dobj q n i s a k t)
  have FIN : ∀ u', E3 W B R g now last A now A u.heap.size (dobj q n i s a k t) u' → PD W B R g (m + 1) u' := fun u' h => h.pd (by omega) (by omega)
  have FIN := Lib.hid FIN
  obtain ⟨u1, hu1⟩ : ∃ w, u.alloc (dobj q n i s a k t) = w := ⟨_, rfl⟩
  rw [hu1] at hE
  have HU := Lib.hid hu1
  have HE := Lib.hid hE
  obtain ⟨c0, c1, c2, c3, c4, c5, c6⟩ := hE.cells
  unfold dobj at HU
  have b0 : (q == 0) = false := by simpa using h0
  have b1 : (q == 1) = false := by simpa using h1
  have b2 : (q == 2) = false := by simpa using h2
  have b3 : (q == 3) = false := by simpa using h3
  have b4 : (q == 4) = false := by simpa using h4
  have b5 : (q == 5) = false := by simpa using h5
  have b6 : (q == 6) = false := by simpa using h6
  clear hu1 hord hA hl h hE h0 h1 h2 h3 h4 h5 h6
  go_enter Try.func10, Try.ntmps10
  go_wp2_with fail
  rw [HU.out]
  go_wp2_with fail
  go_ret
  exact ⟨rfl, FIN.out _ HE.out⟩

theorem does_any (h : PD W B R g m u) (hx : okN ⟨n, i, s, a, k⟩) (hm : m ≤ 1000) :
    Calls Try.prog 10 #[.pointer (some ⟨B, 0, none⟩), .pointer (some ⟨R, 0, none⟩), .agg #[.int .i64 q, .int .i64 n, .int .i64 i, .int .i64 s, .int .i64 a, .int .i64 k, .int .i64 t]] u fun e u' => e = .returned (.bool true) ∧ PD W B R g (m + 1) u' := by
  by_cases h0 : q = 0
  · exact does_set h hx hm (Or.inl h0)
  by_cases h1 : q = 1
  · exact does_set h hx hm (Or.inr (Or.inl h1))
  by_cases h2 : q = 2
  · exact does_set h hx hm (Or.inr (Or.inr h2))
  by_cases h3 : q = 3
  · exact does_clear h hx h3
  by_cases h4 : q = 4
  · exact does_due h hx hm (Or.inl h4)
  by_cases h5 : q = 5
  · exact does_due h hx hm (Or.inr h5)
  by_cases h6 : q = 6
  · exact does_time h hx h6
  exact does_other h h0 h1 h2 h3 h4 h5 h6
end

end Go.Proofs.Ytckmkagijanbdaa.Al
