/- A range over a function that keeps what is left to do in a cell of its own, and may be left early: the law. No function of the program is spoken of here. -/
import Derived.Test.YtcoagmkncjonmaaDoorSq
namespace Go.Proofs.YtcoagmkncjonmaaDoor.Sq
open Go Go.RowKit Go.Sort
open Wh (Fr)
open St (Kept blk_lt)
set_option linter.unusedVariables false

section
variable {P : Program} {n : Nat} {w : World}

/-- an iterator that yields N values at most, each as 'encs' says, and turns nothing but its own block bs; whoever calls it has an invariant J that abides that, and, when a round leaves the loop, Jx; a round leaves bs as it was -/
def SeqSx (n : Nat) (P : Program) (g : Nat) (lb : Array Value) (encs : Nat → Value → Prop) (N bs : Nat) (own st : World → Prop) : Prop :=
  ∀ (l : Nat) (J : Nat → World → Prop) (Jx : World → Prop) (W : World), (∀ i A B, J i A → Fr (fun k => k = bs) A B → J i B) → (∀ A B, Jx A → Fr (fun k => k = bs) A B → Jx B) → (∀ i A, J i A → own A) →
    (∀ i v W1, J i W1 → i < N → encs i v → YieldAt Fence.wide (n - 1) P l #[v] W1 fun e W' => (e = .returned (.bool true) ∧ J (i + 1) W' ∧ W'.heap[bs]? = W1.heap[bs]?) ∨ (e = .returned (.bool false) ∧ Jx W')) →
    J 0 W → st W → CallsIn Fence.wide n P g (#[.func (.yield l) #[] #[]] ++ lb) W fun e W' => (∃ v, e = .returned v) ∧ (J N W' ∨ Jx W')

/-- how a round's body may be left: it goes on, or returns -/
def goesOr (D l bs : Nat) (I Ix : World → Prop) (W : World) : Exit → Act → World → Prop
  | .normal, _, W' => I W' ∧ W'.heap[D]? = W.heap[D]? ∧ W'.heap[l]? = W.heap[l]? ∧ W'.heap[bs]? = W.heap[bs]?
  | .ret, _, W' => Ix W' ∧ W'.heap[D]? = W.heap[D]? ∧ W'.heap[l]? = W.heap[l]?
  | _, _, _ => False

theorem range_sx {g : Operand} {ps : Array Tmp} {assign body : Code} {Q : Exit → Act → World → Prop} {a : Act} (h1 : 1 ≤ n) {gf : Nat} {lb : Array Value} (hg : a.eval g = .func (.func gf) #[] lb)
    (eg : ∀ args w, (callFunc gf args).run P w = .ok (.enter gf args) w) {encs : Nat → Value → Prop} {N bs : Nat} {own st : World → Prop} (hseq : SeqSx (n - 1) P gf lb encs N bs own st) (hps : ps.size = 1) (hbs : bs < w.heap.size)
    (I : Nat → World → Prop) (Ix : World → Prop) (hI : ∀ i A B, I i A → Fr (fun k => k = bs ∨ k = w.heap.size ∨ k = w.heap.size + 1) A B → I i B) (hIx : ∀ A B, Ix A → Fr (fun k => k = bs ∨ k = w.heap.size ∨ k = w.heap.size + 1) A B → Ix B)
    (hown : ∀ i A, I i A → own A) (hst : ∀ A, Kept w A → st A) (h0 : I 0 w) (a₁ : Value → Act)
    (hassign : ∀ (l : Nat) (v : Value) (W : World) (K : Act → World → Prop), K (a₁ v) W →
      assign.wpIn (Fence.wide.inRound l) (n - 1 - 1) P (Exit.then K (fun _ _ _ => False)) { tmps := (ps.zip #[v]).foldl (fun t (p, v) => t.setIfInBounds p v) a.tmps, defers := [] } W)
    (hbody : ∀ (i : Nat) (v : Value) (W : World), I i W → w.heap.size + 2 ≤ W.heap.size → i < N → encs i v → body.wpIn (Fence.wide.inRound (w.heap.size + 1)) (n - 1 - 1) P (goesOr w.heap.size (w.heap.size + 1) bs (I (i + 1)) Ix W) (a₁ v) W)
    (hdone : ∀ W : World, I N W → W.heap[w.heap.size]? = some (.deferred (some [])) → Q .normal { a with defers := { target := .collected w.heap.size, args := #[] } :: a.defers } W)
    (hstop : ∀ W : World, Ix W → W.heap[w.heap.size]? = some (.deferred (some [])) → Q .ret { a with defers := { target := .collected w.heap.size, args := #[] } :: a.defers } W) :
    (Code.rangeFunc g ps assign body).wpIn Fence.wide n P Q a w := by
  refine wpIn_rangeFunc ?_
  intro fn hfn
  obtain ⟨mk, hmk⟩ : ∃ mk : LoopState → Option Code → Loop, mk = fun st pe => { state := st, pending := pe, fn, tmps := a.tmps, params := ps, assign, body, defers := w.heap.size } := ⟨_, rfl⟩
  obtain ⟨V, hV⟩ : ∃ V, (w.alloc (.deferred (some []))).alloc (.loop (mk .ready none)) = V := ⟨_, rfl⟩
  have hVk : Kept w V := by rw [← hV]; exact (Kept.one w _).more _
  have hVl : V.heap[w.heap.size + 1]? = some (.loop (mk .ready none)) := by
    have := St.blk_new (w.alloc (.deferred (some []))) (.loop (mk .ready none))
    rw [World.size_alloc] at this
    rw [← hV]; exact this
  have hVd : V.heap[w.heap.size]? = some (.deferred (some [])) := by
    rw [← hV]
    exact (Below.block (Kept.one (w.alloc (.deferred (some []))) (.loop (mk .ready none))) _ (by simp)).trans (St.blk_new w _)
  have hV0 : I 0 V := hI 0 w V h0 (Fr.kept hVk)
  refine ⟨w.heap.size + 1, [{ target := .collected w.heap.size, args := #[] }], V, { target := .fn (.func gf) lb, args := #[.func (.yield (w.heap.size + 1)) #[] #[]] }, V, gf,
    #[.func (.yield (w.heap.size + 1)) #[] #[]] ++ lb, V, ?_, ?_, ?_, ?_, fun _ => h1, ?_⟩
  · rw [← hV, hmk]; exact run_enterLoop_outer _ _ _ _ _
  · simp only [resolve, hg]
    simp [go_sem]
  · intro f' _; trivial
  · simp [invoke, go_sem, eg]
  refine (hseq (w.heap.size + 1) (fun i W => I i W ∧ W.heap[w.heap.size + 1]? = some (.loop (mk .ready none)) ∧ W.heap[w.heap.size]? = some (.deferred (some [])))
    (fun W => Ix W ∧ W.heap[w.heap.size + 1]? = some (.loop (mk .done (some .ret))) ∧ W.heap[w.heap.size]? = some (.deferred (some []))) V ?_ ?_ ?_ ?_ ⟨hV0, hVl, hVd⟩ (hst V hVk)).mono ?_
  · rintro i A B ⟨q1, q2, q3⟩ hf
    exact ⟨hI i A B q1 (hf.mono fun k c => .inl (.inl c)), (hf.block _ (blk_lt q2) (by omega)).trans q2, (hf.block _ (blk_lt q3) (by omega)).trans q3⟩
  · rintro A B ⟨q1, q2, q3⟩ hf
    exact ⟨hIx A B q1 (hf.mono fun k c => .inl (.inl c)), (hf.block _ (blk_lt q2) (by omega)).trans q2, (hf.block _ (blk_lt q3) (by omega)).trans q3⟩
  · rintro i A ⟨q1, _⟩
    exact hown i A q1
  · -- one round
    rintro i v W ⟨hi, hl, hd⟩ hlt hv
    have hy := run_yield (P := P) (args := #[v]) hl (by rw [hmk]; exact hps.symm)
    rw [hmk] at hy
    refine ⟨fn, _, assign, body, hy, roundIn_of_wpIn hfn (hassign _ v W _ ?_)⟩
    refine ⟨_, run_beginRound hl (by rw [hmk]), ?_⟩
    have hl2 := World.putObj_heap_same (o := .loop { mk .ready none with state := .busy }) (blk_lt hl)
    have hd2 := (World.putObj_heap_other (w := W) (o := .loop { mk .ready none with state := .busy }) (show w.heap.size ≠ w.heap.size + 1 by omega)).trans hd
    have hb2 := World.putObj_heap_other (w := W) (o := .loop { mk .ready none with state := .busy }) (show bs ≠ w.heap.size + 1 by omega)
    refine wpIn_mono (hbody i v _ (hI i W _ hi (fr_put W _ _ _ (.inr (.inr rfl)))) (by rw [World.putObj_size]; have := blk_lt hl; omega) hlt hv) ?_
    rintro e a3 W3 hp
    cases e with
    | normal =>
      obtain ⟨hi3, k1, k2, k3⟩ := hp
      have hl3 := k2.trans hl2
      have hend := run_endRound (P := P) none hl3
      refine ⟨_, _, hend, .inl ⟨rfl, ⟨hI _ _ _ hi3 (fr_put W3 _ _ _ (.inr (.inr rfl))), ?_, ?_⟩, ?_⟩⟩
      · rw [World.putObj_heap_same (blk_lt hl3)]; rw [hmk]; rfl
      · rw [World.putObj_heap_other (by omega)]; exact k1.trans hd2
      · rw [World.putObj_heap_other (by omega)]; exact k3.trans hb2
    | ret =>
      obtain ⟨hi3, k1, k2⟩ := hp
      have hl3 := k2.trans hl2
      have hend := run_endRound (P := P) (some .ret) hl3
      refine ⟨_, _, hend, .inr ⟨rfl, hIx _ _ hi3 (fr_put W3 _ _ _ (.inr (.inr rfl))), ?_, ?_⟩⟩
      · rw [World.putObj_heap_same (blk_lt hl3)]; rw [hmk]; rfl
      · rw [World.putObj_heap_other (by omega)]; exact k1.trans hd2
    | exit id => exact hp.elim
    | goto t => exact hp.elim
    | panic ch => exact hp.elim
    | outgrown => exact hp.elim
  · -- behind the iterator
    rintro e W2 ⟨⟨v, rfl⟩, ⟨hi, hl, hd⟩ | ⟨hi, hl, hd⟩⟩
    · refine ⟨none, _, (by have := run_endLoop (P := P) hl (by rw [hmk]; simp); rw [hmk] at this; exact this), hdone _ (hI _ _ _ hi (fr_put W2 _ _ _ (.inr (.inr rfl)))) ?_⟩
      rw [World.putObj_heap_other (by omega)]; exact hd
    · refine ⟨some .ret, _, (by have := run_endLoop (P := P) hl (by rw [hmk]; simp); rw [hmk] at this; exact this), wpIn_ret (hstop _ (hIx _ _ hi (fr_put W2 _ _ _ (.inr (.inr rfl)))) ?_)⟩
      rw [World.putObj_heap_other (by omega)]; exact hd
end

end Go.Proofs.YtcoagmkncjonmaaDoor.Sq
