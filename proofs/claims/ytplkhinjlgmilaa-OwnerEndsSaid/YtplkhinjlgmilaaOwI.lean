/- The law: a program that waits for nobody ends. -/
import Derived.Test.YtplkhinjlgmilaaOwG
namespace Go.Proofs.Ytplkhinjlgmilaa.Ow
open Go.RowKit Go.Sort Go.Shelf St Blk Eqs
open Go.Proofs.Ytplkhinjlgmilaa.Cl
open Go.Proofs.Ytplkhinjlgmilaa.Ls
open Go.Proofs.Ytplkhinjlgmilaa.Rv
open Go.Proofs.Ytplkhinjlgmilaa.Id (quiet_at)
open Go.Proofs.Ytplkhinjlgmilaa.Ad (load_w load_l store_new)
set_option linter.unusedVariables false

/-! ### plain: how many steps are left -/
/-- units from step i on -/
def left (L : List Pg.Op) (i : Nat) : Int := Pg.units (L.drop i)
theorem left_at {L : List Pg.Op} {i : Nat} {x : Pg.Op} (h : L[i]? = some x) : left L i = Pg.unit x + left L (i + 1) := by
  unfold left
  have hi := (List.getElem?_eq_some_iff.1 h).1
  rw [List.drop_eq_getElem_cons hi]
  have : L[i] = x := (List.getElem?_eq_some_iff.1 h).2
  rw [this]
  rfl
theorem left_lo (L : List Pg.Op) (i : Nat) : 0 ≤ left L i := Pg.units_lo _
/-- where an owner stands that began with nothing -/
def stand (i : Nat) (d : Int) : Ow := { zero with pc := (i : Int), dn := d }
/-- the program at hand may be, and has no Spawn -/
def Plain (L : List Pg.Op) : Prop := Pg.rightB L 3 2 = true ∧ ∀ x ∈ L, ¬ x.k = 2
/-- after n steps it stands at step i, with d units of it done -/
structure Here (L : List Pg.Op) (n : Int) (i : Nat) (d : Int) : Prop where
  le : i ≤ L.length
  d0 : 0 ≤ d
  dn : ∀ x, L[i]? = some x → x.k = 1 → d < x.a
  nd : (∀ x, L[i]? = some x → ¬ x.k = 1) ∨ i = L.length → d = 0
  sum : n + left L i = Pg.units L + d
theorem here_start {L : List Pg.Op} (hp : Plain L) : Here L 0 0 0 := by
  refine ⟨Nat.zero_le _, by omega, fun x hx hk => ?_, fun _ => rfl, by unfold left; simp⟩
  have := (Pg.right_all hp.1).2 x (List.mem_of_getElem? hx)
  obtain ⟨k, a, b⟩ := x
  simp only at hk
  subst hk
  unfold Pg.opB Pg.opK at this
  simp only [if_neg (show ¬ (1 : Int) = 2 by decide)] at this
  have := of_decide_eq_true this
  show (0 : Int) < a
  omega
/-- what comes of one more step: it ends, or it stands further on -/
theorem here_step {L : List Pg.Op} (hp : Plain L) {n : Int} {i : Nat} {d : Int} (h : Here L n i d) :
    (∃ a b, (stepO (stand i d) [] L).2 = actA 4 a b ∨ (stepO (stand i d) [] L).2 = actA 5 a b ∨ (stepO (stand i d) [] L).2 = actA 6 a b) ∧ (stepO (stand i d) [] L).1 = stand i d ∨
    n + 1 ≤ Pg.units L ∧ ∃ y, (y = 0 ∨ y = 3) ∧ (stepO (stand i d) [] L).2 = actA y 0 0 ∧
      ((stepO (stand i d) [] L).1 = stand (i + 1) 0 ∧ Here L (n + 1) (i + 1) 0 ∨ (stepO (stand i d) [] L).1 = stand i (d + 1) ∧ Here L (n + 1) i (d + 1)) := by
  have hz : 0 ≤ (i : Int) := by omega
  by_cases hi : i < L.length
  · obtain ⟨x, hx⟩ : ∃ x, L[i]? = some x := ⟨_, List.getElem?_eq_getElem hi⟩
    have hm := List.mem_of_getElem? hx
    have hop := (Pg.right_all hp.1).2 x hm
    have hns := hp.2 x hm
    have hl := left_at hx
    have hl1 := left_lo L (i + 1)
    have e := step_at (o := stand i d) (K := []) (L := L) (i := i) (x := x) rfl hx
    have hs := h.sum
    have hd0 := h.d0
    have hnew : ∀ m : Int, m + left L (i + 1) = Pg.units L → Here L m (i + 1) 0 := fun m hmm => by
      refine ⟨by omega, by omega, fun y hy hk => ?_, fun _ => rfl, by omega⟩
      have hy2 := (Pg.right_all hp.1).2 y (List.mem_of_getElem? hy)
      obtain ⟨k, a, b⟩ := y
      simp only at hk
      subst hk
      unfold Pg.opB Pg.opK at hy2
      simp only [if_neg (show ¬ (1 : Int) = 2 by decide)] at hy2
      have := of_decide_eq_true hy2
      show (0 : Int) < a
      omega
    have hnot1 : ¬ x.k = 1 → d = 0 ∧ Pg.unit x = 1 := fun h1 => ⟨h.nd (.inl fun y hy => by rw [hx] at hy; cases hy; exact h1), by unfold Pg.unit; rw [if_neg h1]⟩
    have hone : x.k = 1 → d < x.a ∧ Pg.unit x = x.a := fun h1 => by
      refine ⟨h.dn x hx h1, ?_⟩
      unfold Pg.unit
      rw [if_pos h1]
      obtain ⟨k, a, b⟩ := x
      simp only at h1
      subst h1
      unfold Pg.opB Pg.opK at hop
      simp only [if_neg (show ¬ (1 : Int) = 2 by decide)] at hop
      have := of_decide_eq_true hop
      show max 0 (min a 1000) = a
      omega
    rw [e]
    have hk := Pg.op_known hop
    rcases Pg.known_cases hk with h1 | h1 | h1 | h1 | h1 | h1 | h1
    · obtain ⟨hlt, hu⟩ := hone h1
      rw [if_pos h1]
      by_cases hge : x.a ≤ d + 1
      · exact .inr ⟨by omega, 0, .inl rfl, rfl, .inl ⟨(work_on (o := stand i d) hge).trans rfl, hnew _ (by omega)⟩⟩
      · refine .inr ⟨by omega, 0, .inl rfl, rfl, .inr ⟨(work_not (o := stand i d) hge).trans rfl, ⟨h.le, by omega, fun y hy hk => ?_, fun hc => ?_, by omega⟩⟩⟩
        · rw [hx] at hy; cases hy; omega
        · rcases hc with hc | hc
          · exact absurd h1 (hc x hx)
          · omega
    · exact absurd h1 hns
    · obtain ⟨hd, hu⟩ := hnot1 (by omega)
      rw [if_neg (by omega), if_neg (by omega), if_pos h1, join_on (by decide) (by decide)]
      exact .inr ⟨by omega, 0, .inl rfl, rfl, .inl ⟨rfl, hnew _ (by omega)⟩⟩
    · obtain ⟨hd, hu⟩ := hnot1 (by omega)
      rw [if_neg (by omega), if_neg (by omega), if_neg (by omega), if_pos h1]
      exact .inr ⟨by omega, 3, .inr rfl, rfl, .inl ⟨rfl, hnew _ (by omega)⟩⟩
    · rw [if_neg (by omega), if_neg (by omega), if_neg (by omega), if_neg (by omega), if_pos h1]
      exact .inl ⟨⟨_, _, .inl rfl⟩, rfl⟩
    · rw [if_neg (by omega), if_neg (by omega), if_neg (by omega), if_neg (by omega), if_neg (by omega), if_pos h1]
      exact .inl ⟨⟨_, _, .inr (.inl rfl)⟩, rfl⟩
    · rw [if_neg (by omega), if_neg (by omega), if_neg (by omega), if_neg (by omega), if_neg (by omega), if_neg (by omega), if_pos h1]
      exact .inl ⟨⟨_, _, .inr (.inr rfl)⟩, rfl⟩
  · rw [step_out (.inr (by show (L.length : Int) ≤ (i : Int); omega))]
    exact .inl ⟨⟨_, _, .inl rfl⟩, rfl⟩
theorem here_hi {L : List Pg.Op} (hp : Plain L) {n : Int} {i : Nat} {d : Int} (h : Here L n i d) : d ≤ 1000 ∧ (i : Int) ≤ 16 := by
  have h16 := (Pg.right_all hp.1).1
  have := h.le
  refine ⟨?_, by omega⟩
  by_cases hi : i < L.length
  · obtain ⟨x, hx⟩ : ∃ x, L[i]? = some x := ⟨_, List.getElem?_eq_getElem hi⟩
    by_cases h1 : x.k = 1
    · have h2 := h.dn x hx h1
      have hop := (Pg.right_all hp.1).2 x (List.mem_of_getElem? hx)
      obtain ⟨k, a, b⟩ := x
      simp only at h1 h2
      subst h1
      unfold Pg.opB Pg.opK at hop
      simp only [if_neg (show ¬ (1 : Int) = 2 by decide)] at hop
      have := of_decide_eq_true hop
      omega
    · have := h.nd (.inl fun y hy => by rw [hx] at hy; cases hy; exact h1)
      omega
  · have := h.nd (.inr (by omega))
    omega

end Go.Proofs.Ytplkhinjlgmilaa.Ow
