/- Contracts of package alarm: what Due's loop keeps. -/
import Derived.Test.YtckmkagijanbdaaAl4
import Derived.Test.YtckmkagijanbdaaAlD
import Derived.Test.YtckmkagijanbdaaRs
namespace Go.Proofs.Ytckmkagijanbdaa.Al
open Go.RowKit Go.Sort Tk Wh IdM
open St (Kept blk_cell blk_free blk_lt blk_set)
set_option linter.unusedVariables false

/-- WHERE DUE's LOOP STANDS behind k rounds: H: the handles that the wheel told, in the slice vh; D: their names; vd: the names told so far -/
structure DueAt (w : World) (S : Nat → Prop) (B Bw MA MN : Nat) (g to last : Int) (L' : List (Int × Int)) (TA : Nm → Option (Int × Int)) (TN : Int → Option Nm) (n : Nat) (H : List Int) (D : List Nm) (vh vd : Value) (k : Nat) (wr : World) (S' Sw' : Nat → Prop) : Prop where
  is : AIs wr S' Sw' B Bw MA MN g to last L' (wo TA (D.take k)) (n - k) (wo TN (H.take k)) (n - k)
  rh : Row wr vh H
  rd : RowI wr vd 42 5 ((D.take k).map Nm.ints)
  sub : ∀ j, S' j → S j ∨ w.heap.size ≤ j
  fr : Fr S w wr
  bh : ∀ b, vh.ownBlock = some b → w.heap.size ≤ b ∧ ¬ S' b
  bd : ∀ b, vd.ownBlock = some b → w.heap.size ≤ b ∧ ¬ S' b ∧ vh.ownBlock ≠ some b

section
variable {w wr W2 w3 W3 w4 : World} {S S' Sw' : Nat → Prop} {B Bw MA MN : Nat} {g to last : Int} {L' : List (Int × Int)} {TA : Nm → Option (Int × Int)} {TN : Int → Option Nm} {n k : Nat} {H : List Int} {D : List Nm} {vh vd v2 : Value} {x : Nm} {h : Int}

theorem DueAt.step (A : DueAt w S B Bw MA MN g to last L' TA TN n H D vh vd k wr S' Sw') (hH : H[k]? = some h) (hD : D[k]? = some x)
    (k2 : Kept wr W2) (hA : Adid W2 S' B Bw MA MN g to last L' (upd (wo TA (D.take k)) x none) (n - k - 1) (upd (wo TN (H.take k)) h none) (n - k - 1) w3) (k3 : Kept w3 W3)
    (hr : RowI w4 v2 42 5 ((D.take k).map Nm.ints ++ [x.ints])) (hg : W3.grownBy w4 vd.ownBlock) (hb : v2.ownBlock = vd.ownBlock ∨ ∃ b, v2.ownBlock = some b ∧ w3.heap.size ≤ b) :
    ∃ S3 Sw3, DueAt w S B Bw MA MN g to last L' TA TN n H D vh v2 (k + 1) w4 S3 Sw3 := by
  obtain ⟨S3, Sw3, h3, s3, f3⟩ := hA
  have z2 := k2.size
  have z3 := k3.size
  have zf := f3.size
  have z4 := hg.size
  have zw := A.fr.size
  have far : ∀ b, ¬ S' b → b < wr.heap.size → ¬ S3 b := fun b n1 n2 c => (s3 b c).elim n1 (fun c => by omega)
  have hbd : ∀ b, vd.ownBlock = some b → b < wr.heap.size := fun b e => A.rd.lt e
  have hbh : ∀ b, vh.ownBlock = some b → b < wr.heap.size := fun b e => A.rh.lt e
  refine ⟨S3, Sw3, ?_, ?_, ?_, fun j c => ?_, ?_, fun b e => ?_, fun b e => ?_⟩
  · rw [wo_succ _ hD, wo_succ _ hH] at h3
    refine h3.stay (by omega) fun j c hl => ?_
    rw [hg.block j (by omega) (fun e => ?_), k3.block j hl]
    have := A.bd j e.symm
    exact far j this.2.1 (hbd j e.symm) c
  · refine A.rh.kept fun b e => ?_
    have hl := hbh b e
    rw [hg.block b (by omega) (fun c => (A.bd b c.symm).2.2 e), k3.block b (by omega), f3.block b (by omega) (A.bh b e).2, k2.block b hl]
  · rw [List.take_add_one, hD, Option.toList_some, List.map_append, List.map_singleton]; exact hr
  · rcases s3 j c with c | c
    · exact A.sub j c
    · exact Or.inr (by omega)
  · exact ((((A.fr.then_kept k2).trans f3 A.sub).then_kept k3).grown hg (fun j e => Or.inr (A.bd j e).1))
  · exact ⟨(A.bh b e).1, far b (A.bh b e).2 (hbh b e)⟩
  · rcases hb with hb | ⟨b', hb, hl⟩
    · rw [hb] at e
      obtain ⟨r1, r2, r3⟩ := A.bd b e
      exact ⟨r1, far b r2 (hbd b e), r3⟩
    · rw [hb] at e
      obtain rfl := Option.some.inj e
      exact ⟨by omega, fun c => by have := h3.sLt _ c; omega, fun c => by have := hbh _ c; omega⟩
theorem DueAt.kept (A : DueAt w S B Bw MA MN g to last L' TA TN n H D vh vd k wr S' Sw') (hk : Kept wr W2) : DueAt w S B Bw MA MN g to last L' TA TN n H D vh vd k W2 S' Sw' :=
  ⟨A.is.kept hk, A.rh.kept fun b e => hk.block b (A.rh.lt e), A.rd.keep hk, A.sub, A.fr.then_kept hk, A.bh, A.bd⟩
end

/-- what Due does -/
def dues (w : World) (S : Nat → Prop) (B : Nat) (g to last : Int) (A : List (Nm × Int)) : Ending → World → Prop := fun e w' =>
  ∃ v S', e = .returned v ∧ RowI w' v 42 5 (((dueA g to A).map Prod.fst).map Nm.ints) ∧ Alm w' S' B g to last (restA g to A) ∧ (∀ k, S' k → S k ∨ w.heap.size ≤ k) ∧ Fr S w w' ∧ ∀ b, v.ownBlock = some b → w.heap.size ≤ b ∧ ¬ S' b

section
variable {w wr w' : World} {S S' Sw' : Nat → Prop} {B Bw MA MN : Nat} {g to last : Int} {L : List (Int × Int)} {A : List (Nm × Int)} {TA : Nm → Option (Int × Int)} {TN : Int → Option Nm} {vh vd : Value} {D' : List Nm}

theorem DueAt.done (Q : DueAt w S B Bw MA MN g to last (Wh.rest to L) TA TN L.length (hDue to L) (nDue TN (hDue to L)) vh vd (hDue to L).length wr S' Sw') (R : Rel g A L TA TN) (hL : (L.map Prod.snd).Nodup) (g1 : 1 ≤ g) (g2 : g ≤ 64)
    (h1 : D'.Pairwise ltN) (h2 : D'.Perm (nDue TN (hDue to L))) (hr : RowI w' vd 42 5 (D'.map Nm.ints)) (hf : Fr (fun k => vd.ownBlock = some k) wr w') : dues w S B g to last A (.returned vd) w' := by
  have hD := R.due_sorted h1 h2
  subst hD
  have hT : (nDue TN (hDue to L)).take (hDue to L).length = nDue TN (hDue to L) := by rw [← nDue_len TN (hDue to L)]; exact List.take_length
  have hH : (hDue to L).take (hDue to L).length = hDue to L := List.take_length
  have hl : L.length - (hDue to L).length = (Wh.rest to L).length := by have := wdue_rest_len to L; omega
  have hi := Q.is
  rw [hT, hH, hl] at hi
  refine ⟨vd, S', rfl, hr, ⟨Bw, MA, MN, Sw', _, _, _, hi.stay hf.size fun j c hl => hf.block j hl (fun e => (Q.bd j e).2.1 c), R.due hL to, g1, g2⟩, Q.sub, Q.fr.trans hf (fun j c => Or.inr (Q.bd j c).1), fun b e => ⟨(Q.bd b e).1, (Q.bd b e).2.1⟩⟩
end

end Go.Proofs.Ytckmkagijanbdaa.Al
