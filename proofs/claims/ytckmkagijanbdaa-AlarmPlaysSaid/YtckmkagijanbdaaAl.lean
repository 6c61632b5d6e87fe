/- What alarms are in memory: their block, their wheel, their two maps; and what may turn beside them. -/
import Derived.Test.YtckmkagijanbdaaAlMap
import Derived.Test.YtckmkagijanbdaaWh4
namespace Go.Proofs.Ytckmkagijanbdaa.Al
open Go.RowKit Go.Sort Tk Wh IdM
open St (Kept blk_cell blk_free blk_lt blk_set)
set_option linter.unusedVariables false

def tA (TA : Nm → Option (Int × Int)) : Nm → Option (List Int) := fun x => (TA x).map fun p => [p.1, p.2]
def tN (TN : Int → Option Nm) : Int → Option (List Int) := fun h => (TN h).map Nm.ints
theorem tA_upd (TA : Nm → Option (Int × Int)) (x : Nm) (c h : Int) : tA (upd TA x (some (c, h))) = upd (tA TA) x (some [c, h]) := by
  funext y; unfold tA upd; split <;> rfl
theorem tA_none (TA : Nm → Option (Int × Int)) (x : Nm) : tA (upd TA x none) = upd (tA TA) x none := by
  funext y; unfold tA upd; split <;> rfl
theorem tN_upd (TN : Int → Option Nm) (h : Int) (x : Nm) : tN (upd TN h (some x)) = upd (tN TN) h (some x.ints) := by
  funext y; unfold tN upd; split <;> rfl
theorem tN_none (TN : Int → Option Nm) (h : Int) : tN (upd TN h none) = upd (tN TN) h none := by
  funext y; unfold tN upd; split <;> rfl
theorem tA_some (TA : Nm → Option (Int × Int)) (x : Nm) : (tA TA x).isSome = (TA x).isSome := by unfold tA; cases TA x <;> rfl
theorem tN_some (TN : Int → Option Nm) (h : Int) : (tN TN h).isSome = (TN h).isSome := by unfold tN; cases TN h <;> rfl

/-- ALARMS in block B: their wheel in block Bw, whose blocks are Sw; their maps in MA and MN; S: all blocks that they have -/
structure AIs (w : World) (S Sw : Nat → Prop) (B Bw MA MN : Nat) (g now last : Int) (L : List (Int × Int)) (TA : Nm → Option (Int × Int)) (na : Nat) (TN : Int → Option Nm) (nn : Nat) : Prop where
  blk : w.heap[B]? = some (.cells #[.pointer (some ⟨B, 0, none⟩), .int .i64 g, .pointer (some ⟨Bw, 0, none⟩), .map (some MA), .map (some MN)] 63 (0, 0))
  whl : Whl w Sw Bw now last L
  ma : MIs nmKey 2 w MA (tA TA) na
  mn : MIs intKey 5 w MN (tN TN) nn
  sB : S B
  sA : S MA
  sN : S MN
  sub : ∀ k, Sw k → S k
  nB : ¬ Sw B
  nA : ¬ Sw MA
  nN : ¬ Sw MN
  ne : MA ≠ MN
  sLt : ∀ k, S k → k < w.heap.size

section
variable {w w' : World} {S Sw S' Sw' : Nat → Prop} {B Bw MA MN : Nat} {g now last now' last' : Int} {L L' : List (Int × Int)} {TA TA' : Nm → Option (Int × Int)} {na na' : Nat} {TN TN' : Int → Option Nm} {nn nn' : Nat}

theorem AIs.ltB (h : AIs w S Sw B Bw MA MN g now last L TA na TN nn) : B < w.heap.size := blk_lt h.blk
theorem AIs.c0 (h : AIs w S Sw B Bw MA MN g now last L TA na TN nn) : w.cell? ⟨B, 0, none⟩ = some (.pointer (some ⟨B, 0, none⟩)) := by rw [blk_cell h.blk]; rfl
theorem AIs.c1 (h : AIs w S Sw B Bw MA MN g now last L TA na TN nn) : w.cell? ⟨B, 1, none⟩ = some (.int .i64 g) := by rw [blk_cell h.blk]; rfl
theorem AIs.c2 (h : AIs w S Sw B Bw MA MN g now last L TA na TN nn) : w.cell? ⟨B, 2, none⟩ = some (.pointer (some ⟨Bw, 0, none⟩)) := by rw [blk_cell h.blk]; rfl
theorem AIs.c3 (h : AIs w S Sw B Bw MA MN g now last L TA na TN nn) : w.cell? ⟨B, 3, none⟩ = some (.map (some MA)) := by rw [blk_cell h.blk]; rfl
theorem AIs.c4 (h : AIs w S Sw B Bw MA MN g now last L TA na TN nn) : w.cell? ⟨B, 4, none⟩ = some (.map (some MN)) := by rw [blk_cell h.blk]; rfl
theorem AIs.neA (h : AIs w S Sw B Bw MA MN g now last L TA na TN nn) : B ≠ MA := by
  obtain ⟨es, c, hm⟩ := h.ma.is
  intro e; subst e; rw [h.blk] at hm; cases hm
theorem AIs.neN (h : AIs w S Sw B Bw MA MN g now last L TA na TN nn) : B ≠ MN := by
  obtain ⟨es, c, hm⟩ := h.mn.is
  intro e; subst e; rw [h.blk] at hm; cases hm

/-- they stay what they are while other blocks turn -/
theorem AIs.stay (h : AIs w S Sw B Bw MA MN g now last L TA na TN nn) (hz : w.heap.size ≤ w'.heap.size) (hk : ∀ k, S k → k < w.heap.size → w'.heap[k]? = w.heap[k]?) : AIs w' S Sw B Bw MA MN g now last L TA na TN nn :=
  ⟨(hk B h.sB h.ltB).trans h.blk, h.whl.stay hz (fun k c hl => hk k (h.sub k c) hl), h.ma.kept (hk MA h.sA h.ma.lt), h.mn.kept (hk MN h.sN h.mn.lt), h.sB, h.sA, h.sN, h.sub, h.nB, h.nA, h.nN, h.ne, fun k c => Nat.lt_of_lt_of_le (h.sLt k c) hz⟩
theorem AIs.kept (h : AIs w S Sw B Bw MA MN g now last L TA na TN nn) (hk : Kept w w') : AIs w' S Sw B Bw MA MN g now last L TA na TN nn := h.stay hk.size fun k _ hl => hk.block k hl
theorem AIs.fr (h : AIs w S Sw B Bw MA MN g now last L TA na TN nn) (hk : Fr S' w w') (hn : ∀ k, S k → ¬ S' k) : AIs w' S Sw B Bw MA MN g now last L TA na TN nn := h.stay hk.size fun k hs hl => hk.block k hl (hn k hs)

/-- the wheel has turned -/
theorem AIs.wheel (h : AIs w S Sw B Bw MA MN g now last L TA na TN nn) (hw : Whl w' Sw' Bw now' last' L') (hs : ∀ k, Sw' k → Sw k ∨ w.heap.size ≤ k) (hf : Fr Sw w w') :
    AIs w' (fun k => S k ∨ Sw' k) Sw' B Bw MA MN g now' last' L' TA na TN nn := by
  have old : ∀ k, S k → ¬ Sw k → ¬ Sw' k := fun k c n d => (hs k d).elim n (fun e => by have := h.sLt k c; omega)
  exact ⟨(hf.block B h.ltB h.nB).trans h.blk, hw, h.ma.kept (hf.block MA h.ma.lt h.nA), h.mn.kept (hf.block MN h.mn.lt h.nN), Or.inl h.sB, Or.inl h.sA, Or.inl h.sN, fun k c => Or.inr c,
    old B h.sB h.nB, old MA h.sA h.nA, old MN h.sN h.nN, h.ne, fun k c => c.elim (fun c => Nat.lt_of_lt_of_le (h.sLt k c) hf.size) (hw.lt k)⟩
/-- the one map turns -/
theorem AIs.setA (h : AIs w S Sw B Bw MA MN g now last L TA na TN nn) (ht : w.mapTurned w' MA) (hm : MIs nmKey 2 w' MA (tA TA') na') : AIs w' S Sw B Bw MA MN g now last L TA' na' TN nn := by
  have hg := ht.grown
  have ot : ∀ k, k < w.heap.size → k ≠ MA → w'.heap[k]? = w.heap[k]? := fun k hl hn => hg.block k hl (fun e => hn (Option.some.inj e))
  exact ⟨(ot B h.ltB h.neA).trans h.blk, h.whl.stay hg.size (fun k c hl => ot k hl (fun e => h.nA (e ▸ c))), hm, h.mn.kept (ot MN h.mn.lt h.ne.symm), h.sB, h.sA, h.sN, h.sub, h.nB, h.nA, h.nN, h.ne, fun k c => Nat.lt_of_lt_of_le (h.sLt k c) hg.size⟩
/-- the other map turns -/
theorem AIs.setN (h : AIs w S Sw B Bw MA MN g now last L TA na TN nn) (ht : w.mapTurned w' MN) (hm : MIs intKey 5 w' MN (tN TN') nn') : AIs w' S Sw B Bw MA MN g now last L TA na TN' nn' := by
  have hg := ht.grown
  have ot : ∀ k, k < w.heap.size → k ≠ MN → w'.heap[k]? = w.heap[k]? := fun k hl hn => hg.block k hl (fun e => hn (Option.some.inj e))
  exact ⟨(ot B h.ltB h.neN).trans h.blk, h.whl.stay hg.size (fun k c hl => ot k hl (fun e => h.nN (e ▸ c))), h.ma.kept (ot MA h.ma.lt h.ne), hm, h.sB, h.sA, h.sN, h.sub, h.nB, h.nA, h.nN, h.ne, fun k c => Nat.lt_of_lt_of_le (h.sLt k c) hg.size⟩
end

/-- what the alarms are when something was done with them -/
def Adid (w : World) (S : Nat → Prop) (B Bw MA MN : Nat) (g now last : Int) (L : List (Int × Int)) (TA : Nm → Option (Int × Int)) (na : Nat) (TN : Int → Option Nm) (nn : Nat) (w' : World) : Prop :=
  ∃ S' Sw', AIs w' S' Sw' B Bw MA MN g now last L TA na TN nn ∧ (∀ k, S' k → S k ∨ w.heap.size ≤ k) ∧ Fr S w w'

/-- ALARMS in block B, of the grain g, at now: A, by names; last: the wheel's last handle -/
def Alm (w : World) (S : Nat → Prop) (B : Nat) (g now last : Int) (A : List (Nm × Int)) : Prop :=
  ∃ Bw MA MN Sw L TA TN, AIs w S Sw B Bw MA MN g now last L TA L.length TN L.length ∧ Rel g A L TA TN ∧ 1 ≤ g ∧ g ≤ 64
/-- what alarms are when something was done with them -/
def Aent (w : World) (S : Nat → Prop) (B : Nat) (g now last : Int) (A : List (Nm × Int)) (w' : World) : Prop :=
  ∃ S', Alm w' S' B g now last A ∧ (∀ k, S' k → S k ∨ w.heap.size ≤ k) ∧ Fr S w w'

section
variable {w w' w'' : World} {S S' : Nat → Prop} {B : Nat} {g now last now' last' : Int} {A A' : List (Nm × Int)}
theorem Alm.stay (h : Alm w S B g now last A) (hz : w.heap.size ≤ w'.heap.size) (hk : ∀ k, S k → k < w.heap.size → w'.heap[k]? = w.heap[k]?) : Alm w' S B g now last A := by
  obtain ⟨Bw, MA, MN, Sw, L, TA, TN, h1, r⟩ := h; exact ⟨Bw, MA, MN, Sw, L, TA, TN, h1.stay hz hk, r⟩
theorem Alm.kept (h : Alm w S B g now last A) (hk : Kept w w') : Alm w' S B g now last A := h.stay hk.size fun k _ hl => hk.block k hl
theorem Alm.fr (h : Alm w S B g now last A) (hk : Fr S' w w') (hn : ∀ k, S k → ¬ S' k) : Alm w' S B g now last A := h.stay hk.size fun k hs hl => hk.block k hl (hn k hs)
theorem Alm.lt (h : Alm w S B g now last A) : ∀ k, S k → k < w.heap.size := by
  obtain ⟨Bw, MA, MN, Sw, L, TA, TN, h1, _⟩ := h; exact h1.sLt
theorem Alm.ord (h : Alm w S B g now last A) : A.Pairwise ltA := by
  obtain ⟨Bw, MA, MN, Sw, L, TA, TN, h1, R, _⟩ := h; exact R.ord
theorem Alm.ok (h : Alm w S B g now last A) : ∀ x c, (x, c) ∈ A → okN x ∧ 0 ≤ c ∧ c ≤ 1125899906842624 := by
  obtain ⟨Bw, MA, MN, Sw, L, TA, TN, h1, R, _⟩ := h; exact R.ok
theorem Alm.bounds (h : Alm w S B g now last A) : 0 ≤ now ∧ now ≤ 1125899906842624 ∧ 0 ≤ last ∧ A.length ≤ 4096 ∧ 1 ≤ g ∧ g ≤ 64 := by
  obtain ⟨Bw, MA, MN, Sw, L, TA, TN, h1, R, g1, g2⟩ := h
  obtain ⟨b1, b2, b3, b4⟩ := h1.whl.bounds
  exact ⟨b1, b2, b3, by rw [R.len]; exact b4, g1, g2⟩
theorem Alm.same (h : Alm w S B g now last A) (hk : Kept w w') : Aent w S B g now last A w' := ⟨S, h.kept hk, fun _ c => Or.inl c, Fr.kept hk⟩
theorem Aent.then (h : Aent w S B g now last A w') (k : ∀ S', Alm w' S' B g now last A → Aent w' S' B g now' last' A' w'') : Aent w S B g now' last' A' w'' := by
  obtain ⟨S1, h1, h2, h3⟩ := h
  obtain ⟨S2, k1, k2, k3⟩ := k S1 h1
  exact ⟨S2, k1, fun i c => (k2 i c).elim (h2 i) (fun c => Or.inr (Nat.le_trans h3.size c)), h3.trans k3 h2⟩
end

end Go.Proofs.Ytckmkagijanbdaa.Al
