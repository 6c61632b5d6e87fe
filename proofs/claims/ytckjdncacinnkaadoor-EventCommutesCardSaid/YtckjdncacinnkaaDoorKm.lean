/- Maps from keys of attempts to times: how a key reads, what reads as a key, what such a map holds. No function of the program is spoken of here. -/
import Derived.Test.YtckjdncacinnkaaDoorChecked
import Derived.Test.YtckjdncacinnkaaDoorSeM
import Derived.Test.YtckjdncacinnkaaDoorSt
import Derived.WalkKit
import Derived.Lib.Hide
import Derived.Maps.OwnSet
import Derived.Maps.RangeWalk
import Derived.DeepKeys4
namespace Go.Proofs.YtckjdncacinnkaaDoor.Se
open Go.RowKit Go.Maps IdM
open Go.ChangeMaps Go.MapKept
set_option linter.unusedVariables false

theorem cells_id : Tryd.prog.cellsOf 24 = 3 := by kernel_rfl
theorem cells_key : Tryd.prog.cellsOf 26 = 4 := by kernel_rfl
theorem cells_int : Tryd.prog.cellsOf 3 = 1 := by kernel_rfl
theorem wf_of {n : Int} (h : I64 n) : (Lit.int .i64 n).wf = true := by
  obtain ⟨h1, h2⟩ := h
  simp [Lit.wf, IntKind.min, IntKind.max, IntKind.bits, IntKind.signed]; omega
theorem wf_i64 {a : Int} (h : (Lit.int .i64 a).wf = true) : I64 a := by
  simp only [Lit.wf, Bool.and_eq_true, decide_eq_true_eq] at h
  have h1 := h.1
  have h2 := h.2
  simp only [show IntKind.i64.max = 9223372036854775807 from rfl] at h2
  simp only [show IntKind.i64.min = -9223372036854775808 from rfl] at h1
  exact ⟨h1, h2⟩
def kv (x : Ke) : Value := .agg #[.int .i64 x.n, .int .i64 x.i, .int .i64 x.s, .int .i64 x.a]
def litK (x : Ke) : List Lit := x.ints.map (Lit.int .i64)
def kl (x : Ke) : Lit := .string (keyBytes (litK x))
theorem lits_int (d : Nat) {n : Int} (h : I64 n) : Tryd.prog.keyLits (d + 1) 3 [.int .i64 n] = some [.int .i64 n] := by
  simp [Program.keyLits, Tryd.underlying3, wf_of h]
theorem lits_id (d : Nat) {n i s : Int} (h1 : I64 n) (h2 : I64 i) (h3 : I64 s) : Tryd.prog.keyLits (d + 2) 24 [.int .i64 n, .int .i64 i, .int .i64 s] = some [.int .i64 n, .int .i64 i, .int .i64 s] := by
  unfold Program.keyLits
  simp only [Tryd.underlying24]
  rw [if_pos ⟨by rw [cells_id]; rfl, by kernel_rfl⟩]
  simp [lits_int d h1, lits_int d h2, lits_int d h3, cells_int]
theorem lits_key (d : Nat) {n i s a : Int} (h1 : I64 n) (h2 : I64 i) (h3 : I64 s) (h4 : I64 a) : Tryd.prog.keyLits (d + 3) 26 [.int .i64 n, .int .i64 i, .int .i64 s, .int .i64 a] = some [.int .i64 n, .int .i64 i, .int .i64 s, .int .i64 a] := by
  unfold Program.keyLits
  simp only [Tryd.underlying26]
  rw [if_pos ⟨by rw [cells_key]; rfl, by kernel_rfl⟩]
  simp [lits_id d h1 h2 h3, lits_int (d + 1) h4, cells_int, cells_id]
theorem deep_enough : ∃ m, Tryd.prog.types.size + 1 = m + 3 := ⟨Tryd.prog.types.size - 2, by
  have : 2 < Tryd.prog.types.size := of_decide_eq_true (by kernel_rfl)
  omega⟩
theorem laidOut : laidOutB Tryd.prog = true := by kernel_rfl
theorem law_K : Keyed Tryd.prog 26 := Keyed.of_law (deep_law_laid laidOut (m := 4) (by omega) (of_decide_eq_true (by kernel_rfl)) (by kernel_rfl) (by kernel_rfl))
theorem key_K (x : Ke) (h : okK x) : keyOf Tryd.prog 26 (kv x) = some (kl x) := by
  have hk : Tryd.prog.keyType 26 = true := by kernel_rfl
  obtain ⟨m, hm⟩ := deep_enough
  obtain ⟨h1, h2, h3, h4⟩ := h
  have hl := lits_key m h1 h2 h3 h4
  unfold keyOf
  simp only [Tryd.underlying26]
  rw [if_pos (by rw [hk]; simp [kv, Value.formed, Tryd.underlying26, cells_key])]
  show Option.map _ (Tryd.prog.keyLits _ _ [.int .i64 x.n, .int .i64 x.i, .int .i64 x.s, .int .i64 x.a]) = _
  rw [hm, hl]; rfl
theorem kv_inj {x y : Ke} (h : kv x = kv y) : x = y := by
  unfold kv at h
  injection h with h
  have h2 := congrArg Array.toList h
  simp only [List.cons.injEq, Value.int.injEq, true_and, and_true] at h2
  exact Ke.ext h2.1 h2.2.1 h2.2.2.1 h2.2.2.2
theorem kl_inj {x y : Ke} (hx : okK x) (hy : okK y) (h : kl x = kl y) : x = y := kv_inj (law_K.inj (key_K x hx) (by have := key_K y hy; rw [← h] at this; exact this))
theorem kl_key {x : Ke} (hx : okK x) : WideAt.IsKeyLit (kl x) := law_K.key (key_K x hx)
theorem same_yes (x : Ke) : (kl x).sameKey (kl x) = true := by
  show (Lit.string (keyBytes (litK x))).sameKey (.string (keyBytes (litK x))) = true
  simp [Lit.sameKey]
theorem same_no {x y : Ke} (h : kl y ≠ kl x) : (kl y).sameKey (kl x) = false := by
  show (Lit.string (keyBytes (litK y))).sameKey (.string (keyBytes (litK x))) = false
  simp [Lit.sameKey]
  exact fun e => h (congrArg Lit.string e)

/-! ### what reads as a key is one -/
theorem int_inv (d : Nat) {c : Value} {ls : List Lit} (h : Tryd.prog.keyLits (d + 1) 3 [c] = some ls) : ∃ n, c = .int .i64 n ∧ I64 n ∧ ls = [.int .i64 n] := by
  unfold Program.keyLits at h
  simp only [Tryd.underlying3] at h
  cases c <;> simp at h
  rename_i q n
  obtain ⟨⟨rfl, hw⟩, rfl⟩ := h
  exact ⟨n, rfl, wf_i64 hw, rfl⟩
theorem id_inv (d : Nat) {a b c : Value} {ls : List Lit} (h : Tryd.prog.keyLits (d + 2) 24 [a, b, c] = some ls) : ∃ n i s, a = .int .i64 n ∧ b = .int .i64 i ∧ c = .int .i64 s ∧ I64 n ∧ I64 i ∧ I64 s ∧ ls = [.int .i64 n, .int .i64 i, .int .i64 s] := by
  unfold Program.keyLits at h
  simp only [Tryd.underlying24] at h
  rw [if_pos ⟨by rw [cells_id]; rfl, by kernel_rfl⟩] at h
  simp [cells_int] at h
  obtain ⟨la, ha, h⟩ := Option.bind_eq_some_iff.1 h
  obtain ⟨n, rfl, hn, rfl⟩ := int_inv d ha
  simp [Option.bind_eq_some_iff] at h
  obtain ⟨lb, ⟨l2, hb, l3, ⟨l4, hc, rfl⟩, rfl⟩, h⟩ := h
  obtain ⟨i, rfl, hi, rfl⟩ := int_inv d hb
  obtain ⟨s, rfl, hs, rfl⟩ := int_inv d hc
  exact ⟨n, i, s, rfl, rfl, rfl, hn, hi, hs, by simpa using h.symm⟩
set_option maxRecDepth 100000 in
theorem key_inv {v : Value} {k : Lit} (h : keyOf Tryd.prog 26 v = some k) : ∃ x : Ke, v = kv x ∧ okK x ∧ k = kl x := by
  obtain ⟨m, hm⟩ := deep_enough
  unfold keyOf at h
  simp only [Tryd.underlying26] at h
  split at h
  · rename_i hf
    rw [hm] at h
    cases v <;> simp [Value.formed, Tryd.underlying26, cells_key] at hf
    rename_i cs
    obtain ⟨ls, hl, rfl⟩ := Option.map_eq_some_iff.1 h
    obtain ⟨l⟩ := cs
    match l, hf.2 with
    | [a, b, c, e], _ =>
      unfold Program.keyLits at hl
      simp only [Tryd.underlying26] at hl
      rw [if_pos ⟨by rw [cells_key]; rfl, by kernel_rfl⟩] at hl
      simp [cells_int, cells_id, Value.cells] at hl
      obtain ⟨la, ha, hl⟩ := Option.bind_eq_some_iff.1 hl
      obtain ⟨n, i, s, rfl, rfl, rfl, hn, hi, hs, rfl⟩ := id_inv m ha
      simp [Option.bind_eq_some_iff] at hl
      obtain ⟨lb, ⟨l2, hb, rfl⟩, hl⟩ := hl
      obtain ⟨z, rfl, hz, rfl⟩ := int_inv (m + 1) hb
      refine ⟨⟨n, i, s, z⟩, rfl, ⟨hn, hi, hs, hz⟩, ?_⟩
      have : ls = litK ⟨n, i, s, z⟩ := by simpa [litK, Ke.ints] using hl.symm
      rw [this]; rfl
  · cases h

/-! ### what such a map holds -/
noncomputable abbrev elK : Value → Option (DataW Unit × List MemPlace) := plainElem Tryd.prog 3
def Reads (D : DataW Unit) (s : Its) : Prop := Maps.size D = s.length ∧ ∀ x, okK x → Maps.has D (kl x) = hasK x s ∧ ∀ c, (x, c) ∈ s → ∀ z, D.atKey (kl x) z = .lit (.int .i64 c)
/-- BLOCK M IS A MAP that holds just these -/
def Holds (w : World) (M : Nat) (s : Its) : Prop := ∃ D, w.ownsMap Tryd.prog 26 elK M s.length D ∧ Reads D s

theorem reads_nil : Reads (.map []) [] := ⟨rfl, fun x _ => ⟨rfl, fun c m => (List.not_mem_nil m).elim⟩⟩
theorem Reads.del {D : DataW Unit} {s : Its} (h : Reads D s) (hD : Tidy D) (hs : Nd s) {x : Ke} (hx : okK x) : Reads (D.del (kl x)) (strike x s) := by
  have hz := size_del hD (k := kl x)
  have hl := strike_len hs x
  rw [(h.2 x hx).1, h.1] at hz
  refine ⟨by omega, fun y hy => ?_⟩
  by_cases c : y = x
  · subst c
    exact ⟨by rw [has_del_same, has_strike_same], fun d m => absurd rfl (mem_strike.1 m).2⟩
  · have hne : kl y ≠ kl x := fun e => c (kl_inj hy hx e)
    refine ⟨by rw [has_del_other hne, has_strike_other c]; exact (h.2 y hy).1, fun d m z => ?_⟩
    rw [atKey_del_other hne]; exact (h.2 y hy).2 d (mem_strike.1 m).1 z
theorem Reads.put {D : DataW Unit} {s : Its} (h : Reads D s) (hD : Tidy D) {x : Ke} (hx : okK x) (hn : hasK x s = false) (c : Int) : Reads (D.put (kl x) (.lit (.int .i64 c))) (s ++ [(x, c)]) := by
  have hz := size_put hD (k := kl x) (.lit (.int .i64 c))
  rw [(h.2 x hx).1, h.1, hn] at hz
  refine ⟨by rw [hz, List.length_append]; rfl, fun y hy => ?_⟩
  by_cases e : y = x
  · subst e
    refine ⟨by rw [has_put_same hD.isMap (kl_key hy), has_app]; simp [hasK], fun d m z => ?_⟩
    rw [atKey_put_same hD.isMap (kl_key hy)]
    rcases List.mem_append.1 m with m | m
    · exact absurd m (has_no.1 hn d)
    · rw [(Prod.mk.inj (List.mem_singleton.1 m)).2]
  · have hne : kl y ≠ kl x := fun g => e (kl_inj hy hx g)
    refine ⟨by rw [has_put_other hne, has_app, (h.2 y hy).1]; simp [hasK]; exact fun g => absurd g.symm e, fun d m z => ?_⟩
    rw [atKey_put_other hne]
    rcases List.mem_append.1 m with m | m
    · exact (h.2 y hy).2 d m z
    · exact absurd (Prod.mk.inj (List.mem_singleton.1 m)).1 e

theorem zero_int (w : World) : (zeroValue 3).run Tryd.prog w = .ok (.int .i64 0) w := by kernel_rfl
theorem el_int {c : Int} (h : I64 c) : elK (.int .i64 c) = some (.lit (.int .i64 c), []) := plainElem_int Tryd.underlying3 (wf_of h)
theorem tight {w : World} {M n : Nat} {D : DataW Unit} (h : w.ownsMap Tryd.prog 26 elK M n D) : w.ownsMap Tryd.prog 26 elK M (Maps.size D) D := by
  obtain ⟨es, c, hb, F, hle, hD⟩ := h
  refine ⟨es, c, hb, F, ?_, hD⟩
  have : Maps.size D = es.size := by rw [hD]; simp [Maps.size, length_sorted]
  rw [this]; exact Nat.le_refl _
theorem Holds.of {w : World} {M n : Nat} {D : DataW Unit} {s : Its} (h : w.ownsMap Tryd.prog 26 elK M n D) (hr : Reads D s) : Holds w M s := ⟨D, by rw [← hr.1]; exact tight h, hr⟩

section
variable {w w' : World} {M : Nat} {s : Its} {t : TypeId}
theorem Holds.made (w : World) : Holds (w.alloc (.map #[] 0)) w.heap.size [] := ⟨.map [], World.ownsMap_made w _ _ _, reads_nil⟩
theorem Holds.lt (h : Holds w M s) : M < w.heap.size := by obtain ⟨D, h, _⟩ := h; exact h.lt
theorem Holds.is (h : Holds w M s) : ∃ es clock, w.heap[M]? = some (.map es clock) := by obtain ⟨D, ⟨es, c, h, _⟩, _⟩ := h; exact ⟨es, c, h⟩
theorem Holds.kept (h : Holds w M s) (hk : w'.heap[M]? = w.heap[M]?) : Holds w' M s := by
  obtain ⟨D, ⟨es, c, hb, r⟩, h2⟩ := h
  exact ⟨D, ⟨es, c, hk.trans hb, r⟩, h2⟩
theorem Holds.look (h : Holds w M s) (ht : Tryd.prog.underlying t = some (.map 26 3)) {x : Ke} (hx : okK x) :
    ∃ c : Int, ∀ w' : World, w'.heap[M]? = w.heap[M]? → (Instr.lookup t (.map (some M)) (kv x) true).run Tryd.prog w' = .ok (.tuple #[.int .i64 c, .bool (hasK x s)]) w' := by
  obtain ⟨D, hown, _, hR⟩ := h
  obtain ⟨v, ps, _, hv⟩ := hown.look_ok law_K ht (zero_int w) (el_int ⟨by decide, by decide⟩) (key_K x hx)
  obtain ⟨c, rfl, hc, _⟩ := plainElem_int_inv Tryd.underlying3 hv
  refine ⟨c, fun w' hk => ?_⟩
  obtain ⟨es, cl, hb, r⟩ := hown
  have hown' : w'.ownsMap Tryd.prog 26 elK M s.length D := ⟨es, cl, hk.trans hb, r⟩
  obtain ⟨v, ps', hrun, hv'⟩ := hown'.look_ok law_K ht (zero_int w') (el_int ⟨by decide, by decide⟩) (key_K x hx)
  obtain ⟨c', rfl, hc', _⟩ := plainElem_int_inv Tryd.underlying3 hv'
  have e : (DataW.lit (.int .i64 c) : DataW Unit) = .lit (.int .i64 c') := (Prod.mk.inj hc).1.symm.trans (Prod.mk.inj hc').1
  obtain rfl : c = c' := by simpa using e
  rw [hrun, (hR x hx).1]
theorem Holds.len (h : Holds w M s) (ht : Tryd.prog.underlying t = some (.map 26 3)) (ty : TypeId) : (Builtin.len_ #[t] ty #[.map (some M)]).run Tryd.prog w = .ok (.int .i64 (s.length : Int)) w := by
  obtain ⟨D, hown, hR⟩ := h
  have := hown.len ht ty
  rw [hR.1] at this; exact this
theorem Holds.store (h : Holds w M s) (ht : Tryd.prog.underlying t = some (.map 26 3)) (hn : s.length < 9223372036854775807) {x : Ke} (hx : okK x) (hno : hasK x s = false) {c : Int} (hc : I64 c) :
    ∃ w', (Instr.mapUpdate t (.map (some M)) (kv x) (.int .i64 c)).run Tryd.prog w = .ok () w' ∧ Holds w' M (s ++ [(x, c)]) ∧ w.mapTurned w' M := by
  obtain ⟨D, hown, hR⟩ := h
  obtain ⟨w', hrun, hown', hturn⟩ := hown.store law_K ht (by unfold maxLen; omega) (key_K x hx) (el_int hc)
  exact ⟨w', hrun, .of hown' (hR.put (hown.tidy law_K) hx hno c), hturn⟩
end

/-- THE STEP over such a map -/
theorem next_is {D : DataW Unit} {left : Lit → Bool} {t : Int} {s : Its} (hR : Reads D (cur t s fun x => left (kl x))) {yd : DataW Unit} {yp : List MemPlace} {v kvl : Value} {k : Lit}
    (hk : keyOf Tryd.prog 26 kvl = some k) (hv : elK v = some (yd, yp)) (hat : ∀ zd, D.atKey k zd = yd) : ∃ (x : Ke) (c : Int), kvl = kv x ∧ okK x ∧ k = kl x ∧ v = .int .i64 c ∧ (x, c) ∈ s ∧ I64 c := by
  obtain ⟨x, rfl, hx, rfl⟩ := key_inv hk
  obtain ⟨c, rfl, hc, hwc⟩ := plainElem_int_inv Tryd.underlying3 hv
  have hh : Maps.has D (kl x) = true := has_true_of_atKey hat
  rw [(hR.2 x hx).1] at hh
  obtain ⟨d, hd⟩ := has_iff.1 hh
  have e := (hR.2 x hx).2 d hd (.lit (.int .i64 0))
  rw [hat, (Prod.mk.inj hc).1] at e
  obtain rfl : c = d := by simpa using e
  exact ⟨x, c, rfl, hx, rfl, rfl, (mem_cur.1 hd).1, wf_i64 hwc⟩

end Go.Proofs.YtckjdncacinnkaaDoor.Se
