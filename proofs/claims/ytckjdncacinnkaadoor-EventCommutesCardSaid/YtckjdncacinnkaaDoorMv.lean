/- Maps whose keys are structs of integers and whose elements are of whatever kind, told as functions of their keys; an entry laid and stored by 'm[k] = f(m[k])'. No function of the program is spoken of here. -/
import Derived.Test.YtckjdncacinnkaaDoorKm
import Derived.Test.YtckjdncacinnkaaDoorFr
import Derived.WideKeyEntry
namespace Go.Proofs.YtckjdncacinnkaaDoor.Mv
open Go.RowKit Go.Maps IdM Se
open Go.ChangeMaps Go.MapKept
open Wh (Fr)
set_option linter.unusedVariables false

/-- how keys of a type are read -/
structure KeyT (α : Type) (kt : TypeId) where
  klaw : Go.WideMaps.KeyLaw Tryd.prog kt
  v : α → Value
  l : α → Lit
  ok : α → Prop
  key : ∀ x, ok x → keyOf Tryd.prog kt (v x) = some (l x)
  inj : ∀ x y, ok x → ok y → l x = l y → x = y
theorem KeyT.law {α : Type} {kt : TypeId} (K : KeyT α kt) : Keyed Tryd.prog kt := Keyed.of_law K.klaw

/-- how elements lie; how they read -/
structure ElT (β : Type) where
  r : β → Value
  d : β → DataW Unit
  r_inj : ∀ x y, r x = r y → x = y
  d_inj : ∀ x y, d x = d y → x = y
open Classical in
noncomputable def ElT.el {β : Type} (E : ElT β) (v : Value) : Option (DataW Unit × List MemPlace) := if h : ∃ b, E.r b = v then some (E.d h.choose, []) else none
theorem ElT.mk_el {β : Type} (E : ElT β) (b : β) : E.el (E.r b) = some (E.d b, []) := by
  unfold ElT.el
  have h : ∃ c, E.r c = E.r b := ⟨b, rfl⟩
  rw [dif_pos h, E.r_inj _ _ h.choose_spec]
theorem ElT.inv {β : Type} (E : ElT β) {v : Value} {z : DataW Unit × List MemPlace} (h : E.el v = some z) : ∃ b, v = E.r b ∧ z = (E.d b, []) := by
  unfold ElT.el at h
  split at h
  · rename_i hc
    obtain rfl := Option.some.inj h
    exact ⟨_, hc.choose_spec.symm, rfl⟩
  · cases h

def upd {α γ : Type} [DecidableEq α] (F : α → γ) (x : α) (y : γ) : α → γ := fun z => if z = x then y else F z
theorem upd_same {α γ : Type} [DecidableEq α] (F : α → γ) (x : α) (y : γ) : upd F x y x = y := if_pos rfl
theorem upd_other {α γ : Type} [DecidableEq α] (F : α → γ) {x z : α} (y : γ) (h : z ≠ x) : upd F x y z = F z := if_neg h

/-- BLOCK M IS A MAP of n entries: T; z is the element that no entry has -/
def MV {α β : Type} {kt : TypeId} (K : KeyT α kt) (E : ElT β) (z : β) (w : World) (M : Nat) (T : α → Option β) (n : Nat) : Prop :=
  ∃ D, w.ownsMap Tryd.prog kt E.el M n D ∧ Maps.size D = n ∧ ∀ x, K.ok x → Maps.has D (K.l x) = (T x).isSome ∧ D.atKey (K.l x) (E.d z) = E.d ((T x).getD z)

section
variable {α β : Type} {kt : TypeId} {K : KeyT α kt} {E : ElT β} {z : β} {w : World} {M n : Nat} {T : α → Option β} {t e : TypeId}

theorem MV.made (K : KeyT α kt) (E : ElT β) (z : β) (w : World) : MV K E z (w.alloc (.map #[] 0)) w.heap.size (fun _ => none) 0 :=
  ⟨.map [], World.ownsMap_made w _ _ _, rfl, fun _ _ => ⟨rfl, rfl⟩⟩
theorem MV.lt (h : MV K E z w M T n) : M < w.heap.size := by obtain ⟨D, h, _⟩ := h; exact h.lt
theorem MV.kept (h : MV K E z w M T n) {w' : World} (hk : w'.heap[M]? = w.heap[M]?) : MV K E z w' M T n := by
  obtain ⟨D, ⟨es, c, hb, r⟩, h2⟩ := h
  exact ⟨D, ⟨es, c, hk.trans hb, r⟩, h2⟩
theorem MV.congr (h : MV K E z w M T n) {U : α → Option β} (hU : ∀ x, K.ok x → U x = T x) : MV K E z w M U n := by
  obtain ⟨D, h1, h2, h3⟩ := h
  exact ⟨D, h1, h2, fun x hx => by rw [hU x hx]; exact h3 x hx⟩
theorem MV.look (h : MV K E z w M T n) (ht : Tryd.prog.underlying t = some (.map kt e)) (hz : ∀ u : World, (zeroValue e).run Tryd.prog u = .ok (E.r z) u) {x : α} (hx : K.ok x) :
    (Instr.lookup t (.map (some M)) (K.v x) false).run Tryd.prog w = .ok (E.r ((T x).getD z)) w := by
  obtain ⟨D, hown, _, hT⟩ := h
  obtain ⟨v, ps, hrun, hv⟩ := hown.lookup K.law ht (hz w) (E.mk_el _) (K.key x hx)
  obtain ⟨l, rfl, hl⟩ := E.inv hv
  rw [hrun, E.d_inj _ _ ((congrArg Prod.fst hl).symm.trans (hT x hx).2)]
theorem MV.look_ok (h : MV K E z w M T n) (ht : Tryd.prog.underlying t = some (.map kt e)) (hz : ∀ u : World, (zeroValue e).run Tryd.prog u = .ok (E.r z) u) {x : α} (hx : K.ok x) :
    (Instr.lookup t (.map (some M)) (K.v x) true).run Tryd.prog w = .ok (.tuple #[E.r ((T x).getD z), .bool (T x).isSome]) w := by
  obtain ⟨D, hown, _, hT⟩ := h
  obtain ⟨v, ps, hrun, hv⟩ := hown.look_ok K.law ht (hz w) (E.mk_el _) (K.key x hx)
  obtain ⟨l, rfl, hl⟩ := E.inv hv
  rw [hrun, E.d_inj _ _ ((congrArg Prod.fst hl).symm.trans (hT x hx).2), (hT x hx).1]
theorem MV.store [DecidableEq α] (h : MV K E z w M T n) (ht : Tryd.prog.underlying t = some (.map kt e)) (hn : n < 9223372036854775807) {x : α} (hx : K.ok x) (b : β) :
    ∃ w', (Instr.mapUpdate t (.map (some M)) (K.v x) (E.r b)).run Tryd.prog w = .ok () w' ∧ MV K E z w' M (upd T x (some b)) (if (T x).isSome then n else n + 1) ∧ w.mapTurned w' M := by
  obtain ⟨D, hown, hs, hT⟩ := h
  have hk : WideAt.IsKeyLit (K.l x) := K.law.key (K.key x hx)
  obtain ⟨w', hrun, hown', hturn⟩ := hown.store K.law ht (by unfold maxLen; omega) (K.key x hx) (E.mk_el b)
  have hsz := size_put (hown.tidy K.law) (k := K.l x) (E.d b)
  rw [(hT x hx).1, hs] at hsz
  refine ⟨w', hrun, ⟨_, ?_, hsz, fun y hy => ?_⟩, hturn⟩
  · obtain ⟨es, c, hb, F, hle, hD⟩ := hown'
    refine ⟨es, c, hb, F, ?_, hD⟩
    have : Maps.size (D.put (K.l x) (E.d b)) = es.size := by rw [hD]; simp [Maps.size, length_sorted]
    rw [← hsz, this]; exact Nat.le_refl _
  · by_cases c : y = x
    · subst c
      rw [has_put_same hown.isMap hk, atKey_put_same hown.isMap hk, upd_same]
      exact ⟨rfl, rfl⟩
    · have hne : K.l y ≠ K.l x := fun e => c (K.inj y x hy hx e)
      rw [has_put_other hne, atKey_put_other hne, upd_other _ _ c]
      exact hT y hy
theorem MV.drop [DecidableEq α] (h : MV K E z w M T n) (ht : Tryd.prog.underlying t = some (.map kt e)) {x : α} (hx : K.ok x) (ty : TypeId) :
    ∃ w', (Builtin.delete_ #[t, kt] ty #[.map (some M), K.v x]).run Tryd.prog w = .ok (.tuple #[]) w' ∧ MV K E z w' M (upd T x none) (if (T x).isSome then n - 1 else n) ∧ w.mapTurned w' M := by
  obtain ⟨D, hown, hs, hT⟩ := h
  have hk : WideAt.IsKeyLit (K.l x) := K.law.key (K.key x hx)
  obtain ⟨w', hrun, hown', hturn⟩ := hown.drop K.law ht (K.key x hx) ty
  have hsz := size_del (hown.tidy K.law) (k := K.l x)
  rw [(hT x hx).1, hs] at hsz
  have hsz' : Maps.size (D.del (K.l x)) = if (T x).isSome then n - 1 else n := by
    split at hsz
    · rename_i hc; rw [if_pos hc]; omega
    · rename_i hc; rw [if_neg hc]; omega
  refine ⟨w', hrun, ⟨_, ?_, hsz', fun y hy => ?_⟩, hturn⟩
  · obtain ⟨es, c, hb, F, hle, hD⟩ := hown'
    refine ⟨es, c, hb, F, ?_, hD⟩
    have : Maps.size (D.del (K.l x)) = es.size := by rw [hD]; simp [Maps.size, length_sorted]
    rw [← hsz', this]; exact Nat.le_refl _
  · by_cases c : y = x
    · subst c
      rw [has_del_same, atKey_del_same, upd_same]
      exact ⟨rfl, rfl⟩
    · have hne : K.l y ≠ K.l x := fun e => c (K.inj y x hy hx e)
      rw [has_del_other hne, atKey_del_other hne, upd_other _ _ c]
      exact hT y hy
theorem fr_block {S : Nat → Prop} {w : World} {M : Nat} (o : Obj) (hM : S M) : Fr S w (setBlock w M o) :=
  ⟨rfl, rfl, rfl, by simp [setBlock], fun k hk hn => by simp only [setBlock]; rw [Array.getElem?_setIfInBounds_ne (fun c : M = k => hn (by rw [← c]; exact hM))]⟩
/-- 'm[k] = f(m[k])': the entry, then its store -/
theorem MV.entry [DecidableEq α] (h : MV K E z w M T n) (ht : Tryd.prog.underlying t = some (.map kt e)) (hn : n < 9223372036854775807) (hz : ∀ u : World, (zeroValue e).run Tryd.prog u = .ok (E.r z) u) {x : α} (hx : K.ok x) :
    ∃ (st : Int) (w1 : World), (Instr.mapEntry t (.map (some M)) (K.v x)).run Tryd.prog w = .ok (.tuple #[E.r ((T x).getD z), .int .i64 st]) w1 ∧ Fr (fun k => k = M) w w1 ∧ w1.heap.size = w.heap.size ∧
      ∀ (w2 : World) (b : β), w2.heap[M]? = w1.heap[M]? → ∃ w3, (Instr.entryStore t (.map (some M)) (.int .i64 st) (E.r b)).run Tryd.prog w2 = .ok () w3 ∧ MV K E z w3 M (upd T x (some b)) (if (T x).isSome then n else n + 1) ∧ Fr (fun k => k = M) w2 w3 ∧ w3.heap.size = w2.heap.size := by
  have hM := h.lt
  have hl := h.look ht hz hx
  have hst := fun b => h.store ht hn hx b
  obtain ⟨D, hown, hs, hT⟩ := h
  obtain ⟨es, c, hb, F, hle, hD⟩ := hown
  obtain ⟨v0, st, es1, c1, hE, hv0, hS⟩ := Go.WideElems.entry_then_store K.klaw ht hz hb F (K.key x hx)
  have hev : v0 = E.r ((T x).getD z) := by
    have hpw : es.toList.Pairwise (fun x y => x.key ≠ y.key) := ((Go.MapKept.stamped_iff es c).1 F.stamped).2.2
    rcases Maps.fit_look false K.law ht (hz w) hb F (K.key x hx) with ⟨h1, h2, _⟩ | ⟨e1, y, h1, h2, h3, _⟩
    · have e := (Result.ok.inj (h1.symm.trans hl)).1
      simp only [Bool.false_eq_true, if_false] at e
      rcases hv0 with ⟨e0, m, k0, _⟩ | ⟨_, k0⟩
      · exact absurd k0 (h2 e0 m)
      · rw [k0, e]
    · have e := (Result.ok.inj (h3.symm.trans hl)).1
      simp only [Bool.false_eq_true, if_false] at e
      rcases hv0 with ⟨e0, m, k0, k1⟩ | ⟨k0, _⟩
      · rw [k1, ← e, entry_eq_of_key hpw m h1 (k0.trans h2.symm)]
      · exact absurd h2 (k0 e1 h1)
  refine ⟨st, _, by rw [hE, hev]; rfl, fr_block _ rfl, by simp [setBlock], fun w2 b hw2 => ?_⟩
  obtain ⟨es', c', r1, r2⟩ := hS w2 (E.r b) (by rw [hw2]; simp [setBlock, hM])
  obtain ⟨w', hrun, hmv, _⟩ := hst b
  rw [r2] at hrun
  obtain rfl := (Result.ok.inj hrun).2
  refine ⟨_, r1, hmv.kept ?_, fr_block _ rfl, by simp [setBlock]⟩
  have h2 : M < w2.heap.size := by
    have : w2.heap[M]? = some (.map es1 c1) := by rw [hw2]; simp [setBlock, hM]
    exact (Array.getElem?_eq_some_iff.1 this).1
  simp [setBlock, hM, h2]
end

end Go.Proofs.YtckjdncacinnkaaDoor.Mv
