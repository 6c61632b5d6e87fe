/- Rows of keys, ordered by slices.SortFunc; what a range over the owners has come to. -/
import Derived.Test.YtiaafjabhnomeaaTbF
import Derived.Test.YtiaafjabhnomeaaGr
namespace Go.Proofs.Ytiaafjabhnomeaa.Tb
open Go.RowKit Go.Sort IdM Se Mv Blk
open St (Kept blk_cell blk_free blk_lt blk_set)
open Go.Proofs.Ytiaafjabhnomeaa.Rv
open Wh (Fr)
set_option linter.unusedVariables false
set_option maxRecDepth 20000

theorem ltOf_yes (x y : Ke) : ltOf kI x y = true ↔ kI x y < 0 := decide_eq_true_iff
theorem ltOf_not (x y : Ke) : ltOf kI x y = false ↔ ¬ kI x y < 0 := by rw [← ltOf_yes]; simp
theorem swo_K : SWO (ltOf kI) where
  irrefl x := (ltOf_not x x).2 kI_irr
  trans x y z h k := (ltOf_yes x z).2 (kI_tr ((ltOf_yes x y).1 h) ((ltOf_yes y z).1 k))
  ntrans x y z h k := by
    rw [ltOf_not] at *
    intro c
    by_cases h1 : kI y x < 0
    · exact k (kI_tr h1 c)
    · obtain rfl := kI_tot h h1
      exact k c
theorem tot_K (x y : Ke) (h : ltOf kI x y = false) (k : ltOf kI y x = false) : x = y := by
  rw [ltOf_not] at h k; exact kI_tot h k
theorem sortedK_strict {D : List Ke} (hn : D.Nodup) : (D.mergeSort fun x y => !(ltOf kI) y x).Pairwise fun a b => kI a b < 0 := by
  have h1 := List.pairwise_mergeSort (le := fun x y : Ke => !(ltOf kI) y x) (fun a b c h k => by
      simp only [Bool.not_eq_true'] at *
      exact swo_K.ntrans c b a k h) (fun a b => by
      simp only [Bool.or_eq_true, Bool.not_eq_true']
      cases h : ltOf kI b a with
      | false => exact Or.inl rfl
      | true =>
        refine Or.inr ?_
        rw [ltOf_yes] at h
        rw [ltOf_not]
        exact fun c => kI_irr (kI_tr h c)) D
  have h2 := (List.mergeSort_perm D fun x y => !(ltOf kI) y x).symm.nodup hn
  rw [List.nodup_iff_pairwise_ne] at h2
  refine (List.pairwise_and_iff.2 ⟨h1, h2⟩).imp ?_
  rintro x y ⟨h, hne⟩
  simp only [Bool.not_eq_true'] at h
  rw [ltOf_not] at h
  rcases Classical.em (kI x y < 0) with c | c
  · exact c
  · exact absurd (kI_tot c h) hne

section
variable {w w' : World} {v : Value} {D : List Ke}
theorem sortK_block {blk off m : Nat} {dk : Array Ke} {os : Array Obj} {k : Nat} (hk : k < w.heap.size) (hne : k ≠ blk) : (sortWorldK encK 4 w blk off m dk os).heap[k]? = w.heap[k]? := by
  unfold sortWorldK
  show ((putRowK encK 4 (Sort.ahead w m) blk off dk).heap ++ os)[k]? = _
  have hs : (putRowK encK 4 (Sort.ahead w m) blk off dk).heap.size = w.heap.size := by unfold putRowK putRow mapBlock Sort.ahead; simp
  rw [Array.getElem?_append_left (by rw [hs]; exact hk)]
  unfold putRowK putRow mapBlock Sort.ahead
  simp only [Array.getElem?_modify]
  rw [if_neg (by omega)]
theorem sortK_size {blk off m : Nat} {dk : Array Ke} {os : Array Obj} : w.heap.size ≤ (sortWorldK encK 4 w blk off m dk os).heap.size := by
  unfold sortWorldK putRowK putRow mapBlock Sort.ahead grow; simp
theorem enters_keys : ∀ args w, (callFunc 41 args).run Try.prog w = .ok (.enter 41 args) w := enters_of Try.func41 (by kernel_rfl) rfl
theorem cmp_lays (blk off size : Nat) (w : World) : CmpLays Try.prog 41 #[] encK 4 kI blk off size w := by
  intro m os dk _ x y
  exact Al.keys_gr (w := _) (Lib.hid (rfl : keysI x.n x.i x.s x.a y.n y.i y.s y.a = kI x y))
theorem heap_sortK {g n : Nat} {cur : Array Value} {e : TypeId} (d : Array Ke) (os : Array Obj) (hb : w.heap[g]? = some (.cells cur e (0, 0))) : (sortWorldK encK 4 w g 0 n d os).heap[g]? = some (.cells (putCells id 0 (flatK encK 4 d) cur) e (0, 0)) := by
  have hlt := blk_lt hb
  unfold sortWorldK
  show ((putRowK encK 4 (Sort.ahead w n) g 0 d).heap ++ os)[g]? = _
  have hs : (putRowK encK 4 (Sort.ahead w n) g 0 d).heap.size = w.heap.size := by unfold putRowK putRow mapBlock Sort.ahead; simp
  rw [Array.getElem?_append_left (by rw [hs]; exact hlt)]
  unfold putRowK putRow mapBlock Sort.ahead
  simp only [Array.getElem?_modify, if_pos]
  rw [hb]; rfl
/-- what ordering does -/
def sorts (w : World) (v : Value) (D : List Ke) : Ending → World → Prop := fun e w' =>
  e = .returned (.tuple #[]) ∧ ∃ D' : List Ke, D'.Pairwise (fun a b => kI a b < 0) ∧ D'.Perm D ∧ Kr w' v D' ∧ Fr (fun k => v.ownBlock = some k) w w'
theorem flat_keys (D : List Ke) : (flatK encK 4 D.toArray).toList = fl encK D := by
  have hlen := fl_len (enc := encK) (k := 4) (fun _ => rfl) D
  apply List.ext_getElem?
  intro t
  by_cases ht : t < D.length * 4
  · have hi : t / 4 < D.length := by omega
    have h5 : t % 4 < 4 := Nat.mod_lt _ (by omega)
    have hx : D[t / 4]? = some (D[t / 4]) := by simp [hi]
    have hl5 : (encK (D[t / 4])).length = 4 := rfl
    obtain ⟨y, hy⟩ : ∃ y, (encK (D[t / 4]))[t % 4]? = some y := by
      have hq : t % 4 < (encK (D[t / 4])).length := by omega
      exact ⟨_, List.getElem?_eq_getElem hq⟩
    have h := fl_at (enc := encK) (k := 4) (fun _ => rfl) hx hy
    rw [Nat.div_add_mod' t 4] at h
    rw [h, Array.getElem?_toList]
    unfold flatK
    simp [ht, hi, hy]
  · rw [List.getElem?_eq_none (by simp; omega), List.getElem?_eq_none (by omega)]
theorem take_putI (cur F : Array Value) (h : F.size ≤ cur.size) : (putCells id 0 F cur).toList.take F.size = F.toList := by
  apply List.ext_getElem?
  intro i
  rw [List.getElem?_take]
  by_cases hi : i < F.size
  · rw [if_pos hi]
    have hc : i < cur.size := by omega
    simp [putCells, hi, hc]
  · rw [if_neg hi, List.getElem?_eq_none (by simp; omega)]
theorem put_sizeI (cur : Array Value) (off : Nat) (d : Array Value) : (putCells id off d cur).size = cur.size := by simp [putCells]
theorem sort_none (hr : Kr w v []) (fv : Value) : Calls Try.prog 44 #[v, fv] w (sorts w v []) := by
  obtain ⟨s, e, hn, _, _⟩ := row_sl hr
  have e2 : v = .slice (ad s.q) 0 s.c := by rw [e]; unfold Sl.v; rw [hn]; rfl
  rw [e2] at hr ⊢
  refine (Try.slices_SortFunc_noneK (ad s.q) s.c fv w).mono ?_
  rintro e w' ⟨rfl, rfl⟩
  exact ⟨rfl, [], List.Pairwise.nil, List.Perm.refl _, hr, Fr.refl _ _⟩
theorem sort_some (hr : Kr w v D) (hne : D ≠ []) (hn : D.Nodup) (hlen : D.length ≤ 1000000) :
    Calls Try.prog 44 #[v, .func (.func 41) #[] #[]] w (sorts w v D) := by
  obtain ⟨g, cap, cur, rfl, e2, e3, e4, e5, e6⟩ := RowV.full hr hne
  have hgl := blk_lt e2
  have hflat := flat_keys D
  have hH : HoldsK encK 4 w g 0 D.toArray := by
    intro j hj
    have hj' : j < D.length * 4 := by simpa using hj
    refine ⟨?_, blk_free e2 _⟩
    rw [blk_cell e2, Nat.zero_add, ← Array.getElem?_toList]
    have h1 : (cur.toList.take (D.length * 4))[j]? = (flatK encK 4 D.toArray).toList[j]? := by rw [e6, hflat]
    rw [List.getElem?_take, if_pos hj'] at h1
    rw [h1]; simp [hj']
  refine (Try.slices_SortFunc_totalK 4 (by intro w; kernel_rfl) (by intro w; kernel_rfl) encK (fun _ => rfl) one_K kI swo_K 41 #[] g 0 cap D.toArray w enters_keys (cmp_lays _ _ _ _) hH hgl (by simp; omega) tot_K).mono ?_
  rintro e w' ⟨rfl, m, os, rfl⟩
  have hperm := List.mergeSort_perm D fun x y => !(ltOf kI) y x
  have hst := sortedK_strict hn
  have hDt : D.toArray.toList = D := rfl
  rw [hDt]
  generalize D.mergeSort (fun x y => !(ltOf kI) y x) = N' at hperm hst
  have hl' : N'.length = D.length := hperm.length_eq
  refine ⟨rfl, N', hst, hperm, ?_, ⟨rfl, rfl, rfl, sortK_size, fun k hk hn => sortK_block hk (fun c => hn (by rw [c]; rfl))⟩⟩
  refine ⟨fl_len (enc := encK) (k := 4) (fun _ => rfl) N', .inr ⟨g, cap, _, by rw [hl'], Nat.zero_le _, heap_sortK _ _ e2, by rw [hl']; exact e3, e4, by rw [put_sizeI]; exact e5, ?_⟩⟩
  have hF : (flatK encK 4 N'.toArray).size = N'.length * 4 := by simp
  show List.take (N'.length * 4) _ = fl encK N'
  rw [← flat_keys, ← hF]
  exact take_putI _ _ (by rw [hF, hl', e5]; exact Nat.mul_le_mul_right _ e3)
theorem sort_any (hr : Kr w v D) (hn : D.Nodup) (hlen : D.length ≤ 1000000) :
    Calls Try.prog 44 #[v, .func (.func 41) #[] #[]] w (sorts w v D) := by
  by_cases hne : D = []
  · subst hne; exact sort_none hr _
  · exact sort_some hr hne hn hlen
end

/-! ### what a range over the owners has come to -/
/-- those of whom something holds, and that came up -/
structure Col (L : Tab) (f : Ow.Ow → Bool) (left : Lit → Bool) (acc : List Ke) : Prop where
  okk : ∀ x ∈ acc, okK x
  nd : acc.Nodup
  mem : ∀ x, okK x → (x ∈ acc ↔ left (kl x) = false ∧ ∃ e ∈ L, e.k = x ∧ f e.o = true)
section
variable {L : Tab} {f : Ow.Ow → Bool} {left : Lit → Bool} {acc : List Ke}
theorem Col.start (h : ∀ x, okK x → (∃ e ∈ L, e.k = x) → left (kl x) = true) : Col L f left [] :=
  ⟨fun x h => (List.not_mem_nil h).elim, List.nodup_nil, fun x hx => ⟨fun h => (List.not_mem_nil h).elim, fun ⟨h1, e, h2, h3, _⟩ => by rw [h x hx ⟨e, h2, h3⟩] at h1; cases h1⟩⟩
theorem left_at {x y : Ke} (hx : okK x) (hy : okK y) (hl : left (kl x) = true) : ((left (kl y) && !(kl y).sameKey (kl x)) = false) ↔ (left (kl y) = false ∨ y = x) := by
  by_cases c : y = x
  · subst c; rw [same_yes]; simp
  · rw [same_no (fun e => c (kl_inj hy hx e))]; simp [c]
theorem Col.yes (h : Col L f left acc) {x : Ke} (hx : okK x) (hl : left (kl x) = true) {e : En} (he : e ∈ L) (hk : e.k = x) (hf : f e.o = true) : Col L f (fun z => left z && !z.sameKey (kl x)) (acc ++ [x]) := by
  refine ⟨fun y hy => ?_, ?_, fun y hy => ?_⟩
  · rcases List.mem_append.1 hy with hy | hy
    · exact h.okk y hy
    · rw [List.mem_singleton.1 hy]; exact hx
  · refine List.nodup_append.2 ⟨h.nd, by simp, fun a ha b hb c => ?_⟩
    rw [List.mem_singleton.1 hb] at c
    subst c
    have := ((h.mem a hx).1 ha).1
    rw [hl] at this; cases this
  · rw [left_at hx hy hl, List.mem_append, List.mem_singleton, h.mem y hy]
    constructor
    · rintro (⟨a, b⟩ | rfl)
      · exact ⟨.inl a, b⟩
      · exact ⟨.inr rfl, e, he, hk, hf⟩
    · rintro ⟨a | rfl, b⟩
      · exact .inl ⟨a, b⟩
      · exact .inr rfl
theorem Col.no (h : Col L f left acc) (hs : Sorted L) {x : Ke} (hx : okK x) (hl : left (kl x) = true) {e : En} (he : e ∈ L) (hk : e.k = x) (hf : f e.o = false) : Col L f (fun z => left z && !z.sameKey (kl x)) acc := by
  refine ⟨h.okk, h.nd, fun y hy => ?_⟩
  rw [left_at hx hy hl, h.mem y hy]
  constructor
  · rintro ⟨a, b⟩; exact ⟨.inl a, b⟩
  · rintro ⟨a | rfl, b⟩
    · exact ⟨a, b⟩
    · obtain ⟨e', h1, h2, h3⟩ := b
      have : e' = e := Option.some.inj ((find_mem hs h1).symm.trans (by rw [h2, ← hk]; exact find_mem hs he))
      subst this
      rw [hf] at h3; cases h3
theorem Col.done (h : Col L f left acc) (hfit : ∀ e ∈ L, e.Fit) (hl : ∀ z, left z = false) (x : Ke) : x ∈ acc ↔ x ∈ keysOf f L := by
  rw [mem_keysOf]
  constructor
  · intro hx; exact ((h.mem x (h.okk x hx)).1 hx).2
  · rintro ⟨e, h1, h2, h3⟩
    exact (h.mem x (h2 ▸ (hfit e h1).1)).2 ⟨hl _, e, h1, h2, h3⟩
end

end Go.Proofs.Ytiaafjabhnomeaa.Tb
