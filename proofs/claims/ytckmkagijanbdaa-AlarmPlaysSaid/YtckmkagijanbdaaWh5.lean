/- Contracts of package wheel: how handles are ordered. -/
import Derived.Test.YtckmkagijanbdaaWh2
import Derived.Test.YtckmkagijanbdaaCp
namespace Go.Proofs.Ytckmkagijanbdaa.Wh
open Go.RowKit Go.Sort Tk Sl Cp
open St (Kept)

/-- how two handles stand -/
def cfI (T : Int → Option Tm) (x y : Int) : Int := orI (cmpI (tat T x) (tat T y)) (cmpI x y)
theorem cfI_lt (T : Int → Option Tm) (x y : Int) : cfI T x y < 0 ↔ ltH T x y := by
  unfold cfI ltH lt2 orI cmpI
  simp only
  rcases Int.lt_trichotomy (tat T x) (tat T y) with h | h | h
  · simp [h]
  · rw [h]; simp
    by_cases c : x < y
    · simp [c]
    · by_cases d : y < x <;> simp [c, d]
  · have h1 : ¬ tat T x < tat T y := by omega
    have h2 : tat T x ≠ tat T y := by omega
    simp [h, h1, h2]

/-- a number that a key may be -/
structure Num where
  val : Int
  ok : inR val
theorem Num.ext {x y : Num} (h : x.val = y.val) : x = y := by cases x; cases y; simp only at h; subst h; rfl
instance : Inhabited Num := ⟨⟨0, inR_of (by omega) (by omega)⟩⟩
def encN (x : Num) : Value := .int .i64 x.val
def cfN (T : Int → Option Tm) (x y : Num) : Int := cfI T x.1 y.1
theorem ltOf_N (T : Int → Option Tm) (x y : Num) : ltOf (cfN T) x y = true ↔ ltH T x.1 y.1 := by
  unfold ltOf cfN
  exact decide_eq_true_iff.trans (cfI_lt T x.1 y.1)
theorem ltOf_no (T : Int → Option Tm) (x y : Num) : ltOf (cfN T) x y = false ↔ ¬ ltH T x.1 y.1 := by
  rw [← ltOf_N]; simp
theorem ltH_irr (T : Int → Option Tm) (x : Int) : ¬ ltH T x x := lt2_irrefl _
theorem ltH_tr {T : Int → Option Tm} {x y z : Int} (h : ltH T x y) (k : ltH T y z) : ltH T x z := lt2_trans h k
theorem ltH_tot {T : Int → Option Tm} {x y : Int} (h : ¬ ltH T x y) (k : ¬ ltH T y x) : x = y := by
  unfold ltH lt2 at h k; simp only at h k; omega
theorem swo_N (T : Int → Option Tm) : SWO (ltOf (cfN T)) where
  irrefl x := (ltOf_no T x x).2 (ltH_irr T x.1)
  trans x y z h k := (ltOf_N T x z).2 (ltH_tr ((ltOf_N T x y).1 h) ((ltOf_N T y z).1 k))
  ntrans x y z h k := by
    rw [ltOf_no] at *
    unfold ltH lt2 at *; simp only at *; omega
theorem tot_N (T : Int → Option Tm) (x y : Num) (h : ltOf (cfN T) x y = false) (k : ltOf (cfN T) y x = false) : x = y := by
  rw [ltOf_no] at h k
  exact Num.ext (ltH_tot h k)

section
variable {w w' : World} {S : Nat → Prop} {B M : Nat} {now last : Int} {sv : Nat → Value} {ls : Nat → List Int} {T : Int → Option Tm} {n : Nat} {L : List (Int × Int)}

theorem tmv_look (o : Option Tm) : ∃ b c : Int, tmv o = .agg #[.int .i64 ((o.map Tm.at_).getD 0), .int .i64 b, .int .i64 c] := by
  obtain ⟨a, b, c, h, ha⟩ := tmv_three o
  exact ⟨b, c, ha ▸ h⟩

theorem one_drew (w : World) (o : Obj) : (w.alloc o).drew = grow (w.drewN 1) #[o] := by
  unfold World.alloc World.drew World.drewN grow; simp
/-- what the closure does -/
def compares (w : World) (z : Int) : Ending → World → Prop := fun e w' => e = .returned (.int .i64 z) ∧ ∃ q os', w' = grow (w.drewN q) os'
set_option maxHeartbeats 800000 in
set_option maxRecDepth 100000 in
theorem closure_any (h : Is w S B M now last sv ls T n) {bx : Nat} (hb : w.cell? ⟨bx, 0, none⟩ = some (.pointer (some ⟨B, 0, none⟩))) {x y : Int} (hx : inR x) (hy : inR y) :
    Calls Try.prog 66 #[.int .i64 x, .int .i64 y, .pointer (some ⟨bx, 0, none⟩)] w (compares w (cfI T x y)) := by
  have c3 := h.c3
  obtain ⟨b, c, hv⟩ := tmv_look (T x)
  obtain ⟨b', c', hv'⟩ := tmv_look (T y)
  have l1 := (h.map.kept (w' := w.drew) rfl).look hx
  have l2 := (h.map.kept (w' := w.drew) rfl).look hy
  rw [hv] at l1
  rw [hv'] at l2
  obtain ⟨a1, ha1⟩ : ∃ a, Hid (tat T x = a) := ⟨_, rfl⟩
  obtain ⟨a2, ha2⟩ : ∃ a, Hid (tat T y = a) := ⟨_, rfl⟩
  have e1 : ((T x).map Tm.at_).getD 0 = a1 := ha1.out
  have e2 : ((T y).map Tm.at_).getD 0 = a2 := ha2.out
  rw [e1] at l1
  rw [e2] at l2
  have q1 := field_0 a1 b c w.drew
  have q2 := field_0 a2 b' c' w.drew
  obtain ⟨z1, h1⟩ : ∃ z, Hid (cmpI a1 a2 = z) := ⟨_, rfl⟩
  obtain ⟨z2, h2⟩ : ∃ z, Hid (cmpI x y = z) := ⟨_, rfl⟩
  have HZ : Hid (cfI T x y = orI z1 z2) := by show _ = _; unfold cfI; rw [ha1.out, ha2.out, h1.out, h2.out]
  clear h hv hv' hx hy e1 e2 ha1 ha2
  go_enter Try.func66, Try.ntmps66
  go_wp2_with fail
  refine wp_region_still_tail 18 (by kernel_rfl) (by kernel_rfl) ?_
  change wpStill _ _ (World.drew _) (fun a' => wpList _ _ _ _ a' (World.drew _)) _ _
  simp only [List.take_succ_cons, List.take_zero, List.drop_succ_cons, List.drop_zero]
  repeat (first | still_step | still_call (cmp_q (by assumption)))
  refine wpStill_nil ?_
  go_wp2_with (go_at_call 40; refine (or2_any _ _ _ _ (show (World.drew _).heap[_]? = _ from St.blk_new w _)).mono ?_; rintro e w' ⟨rfl, rfl⟩)
  go_ret
  exact ⟨ret_int HZ.out.symm, 1, #[.cells #[.int .i64 z1, .int .i64 z2] 3], one_drew w _⟩

/-- the blocks of a sort's world, but for the row's own, are those that were there -/
theorem sort_block {blk off m : Nat} {dk : Array Num} {os : Array Obj} {k : Nat} (hk : k < w.heap.size) (hne : k ≠ blk) : (sortWorld encN w blk off m dk os).heap[k]? = w.heap[k]? := by
  unfold sortWorld
  show ((putRow encN (Sort.ahead w m) blk off dk).heap ++ os)[k]? = _
  have hs : (putRow encN (Sort.ahead w m) blk off dk).heap.size = w.heap.size := by unfold putRow mapBlock Sort.ahead; simp
  rw [Array.getElem?_append_left (by rw [hs]; exact hk)]
  unfold putRow mapBlock Sort.ahead
  simp only [Array.getElem?_modify]
  rw [if_neg (by omega)]
theorem sort_size {blk off m : Nat} {dk : Array Num} {os : Array Obj} : w.heap.size ≤ (sortWorld encN w blk off m dk os).heap.size := by
  unfold sortWorld putRow mapBlock Sort.ahead grow; simp
theorem closure_lays (h : Is w S B M now last sv ls T n) {bx blk off size : Nat} (hb : w.cell? ⟨bx, 0, none⟩ = some (.pointer (some ⟨B, 0, none⟩))) (hbk : bx ≠ blk) (hS : ¬ S blk) :
    CmpLays1 Try.prog 66 #[.pointer (some ⟨bx, 0, none⟩)] encN (cfN T) blk off size w := by
  intro m os dk _ x y
  have hlt := World.block_lt_of_cell? w _ hb
  have h2 : Is (sortWorld encN w blk off m dk os) S B M now last sv ls T n := h.stay sort_size (fun k hk hl => sort_block hl (fun e => hS (e ▸ hk)))
  have hb2 : (sortWorld encN w blk off m dk os).cell? ⟨bx, 0, none⟩ = some (.pointer (some ⟨B, 0, none⟩)) := (World.cell?_of_block (w := w) (sort_block hlt hbk)).trans hb
  exact closure_any h2 hb2 x.2 y.2

theorem take_put (cur : Array Value) (ts : List Num) (h : ts.length ≤ cur.size) : (putCells encN 0 ts.toArray cur).toList.take ts.length = ts.map encN := by
  apply List.ext_getElem?
  intro i
  rw [List.getElem?_take]
  by_cases hi : i < ts.length
  · rw [if_pos hi]
    have hc : i < cur.size := by omega
    simp [putCells, hi, hc]
  · rw [if_neg hi, List.getElem?_eq_none (by simp; omega)]
theorem put_size (cur : Array Value) (off : Nat) (d : Array Num) : (putCells encN off d cur).size = cur.size := by simp [putCells]
theorem heap_sort {g n : Nat} {cur : Array Value} {e : TypeId} (d : Array Num) (os : Array Obj) (hb : w.heap[g]? = some (.cells cur e (0, 0))) : (sortWorld encN w g 0 n d os).heap[g]? = some (.cells (putCells encN 0 d cur) e (0, 0)) := by
  have hlt := St.blk_lt hb
  unfold sortWorld
  show ((putRow encN (Sort.ahead w n) g 0 d).heap ++ os)[g]? = _
  have hs : (putRow encN (Sort.ahead w n) g 0 d).heap.size = w.heap.size := by unfold putRow mapBlock Sort.ahead; simp
  rw [Array.getElem?_append_left (by rw [hs]; exact hlt)]
  unfold putRow mapBlock Sort.ahead
  simp only [Array.getElem?_modify, if_pos]
  rw [hb]; rfl

/-- what ordering does: the row holds the same handles, in their order; but for the row nothing has turned -/
def orders (w : World) (v : Value) (T : Int → Option Tm) (D : List Int) : Ending → World → Prop := fun e w' =>
  e = .returned (.tuple #[]) ∧ ∃ D', D'.Pairwise (ltH T) ∧ (∀ x, x ∈ D' ↔ x ∈ D) ∧ D'.length = D.length ∧ Row w' v D' ∧ Fr (fun k => v.ownBlock = some k) w w'
theorem sorted_strict {D : List Num} (hn : D.Nodup) : (D.mergeSort fun x y => !(ltOf (cfN T)) y x).Pairwise fun x y => ltH T x.1 y.1 := by
  have h1 := List.pairwise_mergeSort (le := fun x y : Num => !(ltOf (cfN T)) y x) (fun a b c h k => by
      simp only [Bool.not_eq_true'] at *
      exact (swo_N T).ntrans c b a k h) (fun a b => by
      simp only [Bool.or_eq_true, Bool.not_eq_true']
      cases h : ltOf (cfN T) b a with
      | false => exact Or.inl rfl
      | true =>
        refine Or.inr ?_
        rw [ltOf_N] at h
        rw [ltOf_no]
        exact fun c => ltH_irr T _ (ltH_tr h c)) D
  have h2 := (List.mergeSort_perm D fun x y => !(ltOf (cfN T)) y x).symm.nodup hn
  rw [List.nodup_iff_pairwise_ne] at h2
  refine (List.pairwise_and_iff.2 ⟨h1, h2⟩).imp ?_
  rintro x y ⟨h, hne⟩
  simp only [Bool.not_eq_true'] at h
  rw [ltOf_no] at h
  rcases Classical.em (ltH T x.1 y.1) with c | c
  · exact c
  · exact absurd (Num.ext (ltH_tot c h)) hne

theorem enters_closure : ∀ args w, (callFunc 66 args).run Try.prog w = .ok (.enter 66 args) w := enters_of Try.func66 (by kernel_rfl) rfl

set_option maxHeartbeats 800000 in
theorem order_none (v : Value) (hv' : ∃ p cap, v = .slice p 0 cap) (hr : Row w v []) : Calls Try.prog 50 #[.pointer (some ⟨B, 0, none⟩), v] w (orders w v T []) := by
  obtain ⟨p, cap, rfl⟩ := hv'
  have FIN : ∀ w', Kept w w' → orders w (.slice p 0 cap) T [] (.returned (.tuple #[])) w' := fun w' hk => ⟨rfl, [], List.Pairwise.nil, fun x => Iff.rfl, rfl, hr.kept (fun g e => hk.block g (hr.lt e)), Fr.kept hk⟩
  have FIN := Lib.hid FIN
  clear hr
  go_enter Try.func50, Try.ntmps50
  go_wp2_with (go_at_call 65; refine (Try.slices_SortFunc_none (α := Num) _ _ _ _).mono ?_; rintro e w' ⟨rfl, rfl⟩)
  go_end0
  exact FIN.out _ (Kept.one _ _)

set_option maxHeartbeats 800000 in
theorem order_some (h : Is w S B M now last sv ls T n) {v : Value} {D : List Int} (hr : Row w v D) (hne : D ≠ []) (hn : D.Nodup) (hin : ∀ x ∈ D, inR x) (hS : ∀ g, v.ownBlock = some g → ¬ S g) (hlen : D.length ≤ 100000) :
    Calls Try.prog 50 #[.pointer (some ⟨B, 0, none⟩), v] w (orders w v T D) := by
  obtain ⟨g, cap, cur, rfl, e2, e3, e4, e5, e6⟩ := hr.full hne
  have hS := hS g rfl
  have hgl := St.blk_lt e2
  obtain ⟨w1, hw1⟩ : ∃ w1, w.alloc (.cells #[.pointer (some ⟨B, 0, none⟩)] 59) = w1 := ⟨_, rfl⟩
  have k1 : Kept w w1 := by rw [← hw1]; exact Kept.one _ _
  have hsz1 : w1.heap.size = w.heap.size + 1 := by rw [← hw1]; simp
  have hb : w1.cell? ⟨w.heap.size, 0, none⟩ = some (.pointer (some ⟨B, 0, none⟩)) := by rw [← hw1]; rw [St.blk_cell (St.blk_new w _)]; rfl
  have h1 := h.kept k1
  have e21 : w1.heap[g]? = some (.cells cur 3 (0, 0)) := (k1.block g hgl).trans e2
  obtain ⟨N, hN⟩ : ∃ N : List Num, N = D.pmap Num.mk hin := ⟨_, rfl⟩
  have hND : N.map Num.val = D := by rw [hN, List.map_pmap]; simp
  have hNl : N.length = D.length := by rw [hN]; simp
  have hNn : N.Nodup := by
    rw [List.nodup_iff_pairwise_ne] at *
    rw [← hND, List.pairwise_map] at hn
    exact hn.imp fun h e => h (congrArg Num.val e)
  have hNe : N.map encN = hv D := by rw [← hND]; unfold hv; rw [List.map_map]; rfl
  have hH : Holds encN w1 g 0 N.toArray := by
    intro j hj
    have hj' : j < N.length := by simpa using hj
    refine ⟨?_, St.blk_free e21 _⟩
    rw [St.blk_cell e21, Nat.zero_add, ← Array.getElem?_toList]
    have := take_get e6 (i := j) (x := encN N[j]) (by rw [← hNe]; simp [hj'])
    rw [this]; simp [hj']
  have hcmp := closure_lays h1 (bx := w.heap.size) (blk := g) (off := 0) (size := N.toArray.size) hb (by omega) hS
  have hcon := Try.slices_SortFunc_total encN (fun _ => rfl) (cfN T) (swo_N T) 66 #[.pointer (some ⟨w.heap.size, 0, none⟩)] g 0 cap N.toArray w1 enters_closure hcmp hH (by omega) (by simp; omega) (tot_N T)
  have hsize : N.toArray.size = D.length := by simp [hNl]
  rw [hsize] at hcon
  have FIN : ∀ w', (∃ n os, w' = sortWorld encN w1 g 0 n (N.toArray.toList.mergeSort fun x y => !(ltOf (cfN T)) y x).toArray os) → orders w (.slice (some ⟨g, 0, none⟩) D.length cap) T D (.returned (.tuple #[])) w' := by
    rintro w' ⟨m, os, rfl⟩
    have hperm := List.mergeSort_perm N fun x y => !(ltOf (cfN T)) y x
    have hst := sorted_strict (T := T) hNn
    have hNt : N.toArray.toList = N := rfl
    rw [hNt]
    generalize N.mergeSort (fun x y => !(ltOf (cfN T)) y x) = N' at hperm hst
    have hl' : N'.length = D.length := by rw [hperm.length_eq, hNl]
    refine ⟨rfl, N'.map Num.val, by rw [List.pairwise_map]; exact hst, fun x => ?_, by simp [hl'], ?_, ?_⟩
    · rw [← hND]; exact (hperm.map Num.val).mem_iff
    · refine ⟨by simp [hv], .inr ⟨g, cap, _, by simp [hl'], Nat.zero_le _, heap_sort _ _ e21, by simp [hl']; exact e3, e4, by rw [put_size]; simpa using e5, ?_⟩⟩
      rw [List.length_map, Nat.mul_one, take_put cur N' (by omega)]
      unfold hv; rw [List.map_map]; rfl
    · refine (Fr.kept k1).trans (S' := fun k => k = g) ⟨rfl, rfl, rfl, sort_size, fun k hk hne => sort_block hk hne⟩ (fun i c => Or.inl (by subst c; rfl))
  have FIN := Lib.hid FIN
  have HW := Lib.hid hw1
  have HC := Lib.hid hcon
  clear hcon hcmp hH hNe hNn hND hNl hN h1 hb hsz1 k1 e21 e2 e6 e5 hw1 hr h hn hin hS hsize
  go_enter Try.func50, Try.ntmps50
  go_wp2_with fail
  rw [HW.out]
  refine HC.out.mono ?_
  rintro e w' ⟨rfl, hw⟩
  have HF := Lib.hid (FIN.out _ hw)
  clear hw
  go_wp2_with fail
  go_end0
  exact HF.out
end

end Go.Proofs.Ytckmkagijanbdaa.Wh
