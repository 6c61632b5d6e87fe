/- Names of alarms, ordered by slices.SortFunc. -/
import Derived.Test.YtckmkagijanbdaaGr
import Derived.Test.YtckmkagijanbdaaRs
import Derived.Test.YtckmkagijanbdaaWi
namespace Go.Proofs.Ytckmkagijanbdaa.Al
open Go.RowKit Go.Sort IdM
open Wh (Fr)
open St (Kept blk_cell blk_free blk_lt blk_set)
set_option linter.unusedVariables false

def encM (x : Nm) : List Value := x.ints.map (Value.int .i64)
theorem ltOf_yes (x y : Nm) : ltOf nmI x y = true ↔ ltN x y := decide_eq_true_iff
theorem ltOf_not (x y : Nm) : ltOf nmI x y = false ↔ ¬ ltN x y := by rw [← ltOf_yes]; simp
theorem swo_M : SWO (ltOf nmI) where
  irrefl x := (ltOf_not x x).2 (ltN_irr x)
  trans x y z h k := (ltOf_yes x z).2 (ltN_tr ((ltOf_yes x y).1 h) ((ltOf_yes y z).1 k))
  ntrans x y z h k := by
    rw [ltOf_not] at *
    rw [lt_lex] at *
    rcases nm_cases x y with ⟨_, g⟩ | ⟨_, g⟩ | ⟨_, g⟩
    · exact absurd g h
    · subst g; exact k
    · rcases nm_cases y z with ⟨_, f⟩ | ⟨_, f⟩ | ⟨_, f⟩
      · exact absurd f k
      · subst f; exact h
      · exact fun c => lex_irr x (lex_tr c (lex_tr f g))
theorem tot_M (x y : Nm) (h : ltOf nmI x y = false) (k : ltOf nmI y x = false) : x = y := by
  rw [ltOf_not] at h k; exact ltN_tot h k
theorem fl_names (D : List Nm) : fl (D.map Nm.ints) = D.flatMap encM := by
  unfold fl; rw [List.flatMap_map]; rfl
theorem wide_names (D : List Nm) : Wide 5 (D.map Nm.ints) := fun l hl => by
  obtain ⟨x, _, rfl⟩ := List.mem_map.1 hl; rfl

theorem sortedM_strict {D : List Nm} (hn : D.Nodup) : (D.mergeSort fun x y => !(ltOf nmI) y x).Pairwise ltN := by
  have h1 := List.pairwise_mergeSort (le := fun x y : Nm => !(ltOf nmI) y x) (fun a b c h k => by
      simp only [Bool.not_eq_true'] at *
      exact swo_M.ntrans c b a k h) (fun a b => by
      simp only [Bool.or_eq_true, Bool.not_eq_true']
      cases h : ltOf nmI b a with
      | false => exact Or.inl rfl
      | true =>
        refine Or.inr ?_
        rw [ltOf_yes] at h
        rw [ltOf_not]
        exact fun c => ltN_irr _ (ltN_tr h c)) D
  have h2 := (List.mergeSort_perm D fun x y => !(ltOf nmI) y x).symm.nodup hn
  rw [List.nodup_iff_pairwise_ne] at h2
  refine (List.pairwise_and_iff.2 ⟨h1, h2⟩).imp ?_
  rintro x y ⟨h, hne⟩
  simp only [Bool.not_eq_true'] at h
  rw [ltOf_not] at h
  rcases Classical.em (ltN x y) with c | c
  · exact c
  · exact absurd (ltN_tot c h) hne

section
variable {w w' : World} {v : Value} {D : List Nm}

theorem sortK_block {blk off m : Nat} {dk : Array Nm} {os : Array Obj} {k : Nat} (hk : k < w.heap.size) (hne : k ≠ blk) : (sortWorldK encM 5 w blk off m dk os).heap[k]? = w.heap[k]? := by
  unfold sortWorldK
  show ((putRowK encM 5 (Sort.ahead w m) blk off dk).heap ++ os)[k]? = _
  have hs : (putRowK encM 5 (Sort.ahead w m) blk off dk).heap.size = w.heap.size := by unfold putRowK putRow mapBlock Sort.ahead; simp
  rw [Array.getElem?_append_left (by rw [hs]; exact hk)]
  unfold putRowK putRow mapBlock Sort.ahead
  simp only [Array.getElem?_modify]
  rw [if_neg (by omega)]
theorem sortK_size {blk off m : Nat} {dk : Array Nm} {os : Array Obj} : w.heap.size ≤ (sortWorldK encM 5 w blk off m dk os).heap.size := by
  unfold sortWorldK putRowK putRow mapBlock Sort.ahead grow; simp

theorem enters_cmp : ∀ args w, (callFunc 21 args).run Try.prog w = .ok (.enter 21 args) w := enters_of Try.func21 (by kernel_rfl) rfl
theorem cmp_lays (blk off size : Nat) (w : World) : CmpLays Try.prog 21 #[] encM 5 nmI blk off size w := by
  intro m os dk _ x y
  obtain ⟨n, i, s, a, k⟩ := x
  obtain ⟨n', i', s', a', k'⟩ := y
  exact ncompare_gr n i s a k n' i' s' a' k' _

theorem heap_sortK {g n : Nat} {cur : Array Value} {e : TypeId} (d : Array Nm) (os : Array Obj) (hb : w.heap[g]? = some (.cells cur e (0, 0))) : (sortWorldK encM 5 w g 0 n d os).heap[g]? = some (.cells (putCells id 0 (flatK encM 5 d) cur) e (0, 0)) := by
  have hlt := blk_lt hb
  unfold sortWorldK
  show ((putRowK encM 5 (Sort.ahead w n) g 0 d).heap ++ os)[g]? = _
  have hs : (putRowK encM 5 (Sort.ahead w n) g 0 d).heap.size = w.heap.size := by unfold putRowK putRow mapBlock Sort.ahead; simp
  rw [Array.getElem?_append_left (by rw [hs]; exact hlt)]
  unfold putRowK putRow mapBlock Sort.ahead
  simp only [Array.getElem?_modify, if_pos]
  rw [hb]; rfl

/-- what ordering does -/
def sorts (w : World) (v : Value) (D : List Nm) : Ending → World → Prop := fun e w' =>
  e = .returned (.tuple #[]) ∧ ∃ D' : List Nm, D'.Pairwise ltN ∧ D'.Perm D ∧ RowI w' v 42 5 (D'.map Nm.ints) ∧ Fr (fun k => v.ownBlock = some k) w w'

theorem flat_names (D : List Nm) : (flatK encM 5 D.toArray).toList = fl (D.map Nm.ints) := by
  have hlen := fl_len (wide_names D)
  rw [List.length_map] at hlen
  apply List.ext_getElem?
  intro t
  by_cases ht : t < D.length * 5
  · have hi : t / 5 < D.length := by omega
    have h5 : t % 5 < 5 := Nat.mod_lt _ (by omega)
    have hx : (D.map Nm.ints)[t / 5]? = some (D[t / 5]).ints := by simp [hi]
    have hl5 : (D[t / 5]).ints.length = 5 := rfl
    obtain ⟨y, hy⟩ : ∃ y, (D[t / 5]).ints[t % 5]? = some y := by
      have : t % 5 < (D[t / 5]).ints.length := by omega
      exact ⟨_, List.getElem?_eq_getElem this⟩
    have h := fl_at (wide_names D) hx hy
    rw [Nat.div_add_mod' t 5] at h
    rw [h, Array.getElem?_toList]
    unfold flatK encM
    simp [ht, hi, hy]
  · rw [List.getElem?_eq_none (by simp; omega), List.getElem?_eq_none (by omega)]
theorem take_putI (cur F : Array Value) (h : F.size ≤ cur.size) : (putCells id 0 F cur).toList.take F.size = F.toList := by
  apply List.ext_getElem?
  intro i
  rw [List.getElem?_take]
  by_cases hi : i < F.size
  · rw [if_pos hi]
    have hc : i < cur.size := by omega
    simp [putCells, hi, hc]
  · rw [if_neg hi, List.getElem?_eq_none (by simp; omega)]
theorem put_sizeI (cur : Array Value) (off : Nat) (d : Array Value) : (putCells id off d cur).size = cur.size := by simp [putCells]

theorem sort_none (hr : RowI w v 42 5 []) (fv : Value) : Calls Try.prog 38 #[v, fv] w (sorts w v []) := by
  obtain ⟨p, cap, rfl⟩ := hr.nil
  refine (Try.slices_SortFunc_noneK p cap fv w).mono ?_
  rintro e w' ⟨rfl, rfl⟩
  exact ⟨rfl, [], List.Pairwise.nil, List.Perm.refl _, hr, Fr.refl _ _⟩
theorem sort_some (hr : RowI w v 42 5 (D.map Nm.ints)) (hne : D ≠ []) (hn : D.Nodup) (hlen : D.length ≤ 100000) :
    Calls Try.prog 38 #[v, .func (.func 21) #[] #[]] w (sorts w v D) := by
  obtain ⟨g, cap, cur, rfl, e2, e3, e4, e5, e6⟩ := hr.full (fun c => hne (List.map_eq_nil_iff.1 c))
  rw [List.length_map] at e3 e6 ⊢
  have hgl := blk_lt e2
  have hflat := flat_names D
  have hH : HoldsK encM 5 w g 0 D.toArray := by
    intro j hj
    have hj' : j < D.length * 5 := by simpa using hj
    refine ⟨?_, blk_free e2 _⟩
    rw [blk_cell e2, Nat.zero_add, ← Array.getElem?_toList]
    have h1 : (cur.toList.take (D.length * 5))[j]? = (flatK encM 5 D.toArray).toList[j]? := by rw [e6, hflat]
    rw [List.getElem?_take, if_pos hj'] at h1
    rw [h1]; simp [hj']
  refine (Try.slices_SortFunc_totalK 5 (by intro w; kernel_rfl) (by intro w; kernel_rfl) encM (fun _ => rfl) (fun x u hu => by
    unfold encM at hu; obtain ⟨y, _, rfl⟩ := List.mem_map.1 hu; rfl) nmI swo_M 21 #[] g 0 cap D.toArray w enters_cmp (cmp_lays _ _ _ _) hH hgl (by simp; omega) tot_M).mono ?_
  rintro e w' ⟨rfl, m, os, rfl⟩
  have hperm := List.mergeSort_perm D fun x y => !(ltOf nmI) y x
  have hst := sortedM_strict hn
  have hDt : D.toArray.toList = D := rfl
  rw [hDt]
  generalize D.mergeSort (fun x y => !(ltOf nmI) y x) = N' at hperm hst
  have hl' : N'.length = D.length := hperm.length_eq
  refine ⟨rfl, N', hst, hperm, ⟨?_, wide_names _⟩, ⟨rfl, rfl, rfl, sortK_size, fun k hk hn => sortK_block hk (fun c => hn (by rw [c]; rfl))⟩⟩
  refine ⟨fl_len (wide_names _), .inr ⟨g, cap, _, by simp [hl'], Nat.zero_le _, heap_sortK _ _ e2, by simp [hl']; exact e3, e4, by rw [put_sizeI]; exact e5, ?_⟩⟩
  have hF : (flatK encM 5 N'.toArray).size = (N'.map Nm.ints).length * 5 := by simp
  rw [← flat_names, ← hF]
  exact take_putI _ _ (by rw [hF, List.length_map, hl', e5]; exact Nat.mul_le_mul_right _ e3)
theorem sort_any (hr : RowI w v 42 5 (D.map Nm.ints)) (hn : D.Nodup) (hlen : D.length ≤ 100000) :
    Calls Try.prog 38 #[v, .func (.func 21) #[] #[]] w (sorts w v D) := by
  by_cases hne : D = []
  · subst hne; exact sort_none hr _
  · exact sort_some hr hne hn hlen
end

end Go.Proofs.Ytckmkagijanbdaa.Al
