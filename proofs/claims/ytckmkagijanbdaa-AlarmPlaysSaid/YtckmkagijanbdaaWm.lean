/- A map of timers, told as a function of handles: what is looked up, laid and deleted in it. -/
import Derived.Test.YtckmkagijanbdaaChecked
import Derived.Test.YtckmkagijanbdaaWhMath
import Derived.WalkKit
import Derived.Lib.Hide
import Derived.Maps.OwnSet
namespace Go.Proofs.Ytckmkagijanbdaa.Wh
open Go.RowKit Go.Maps
open Go.ChangeMaps Go.MapKept

theorem keyLaw : Keyed Try.prog 3 := int_keyed Try.underlying3
def inR (h : Int) : Prop := (Lit.int .i64 h).wf = true
theorem inR_of {h : Int} (h0 : 0 ≤ h) (h1 : h < 9223372036854775808) : inR h := by
  unfold inR; simp [Lit.wf, IntKind.min, IntKind.max, IntKind.bits, IntKind.signed]; omega
theorem key_of {h : Int} (hr : inR h) : keyOf Try.prog 3 (.int .i64 h) = some (.int .i64 h) := keyOf_int_mk Try.underlying3 hr

def tv (a b c : Int) : Value := .agg #[.int .i64 a, .int .i64 b, .int .i64 c]
def td (a b c : Int) : DataW Unit := .agg [.lit (.int .i64 a), .lit (.int .i64 b), .lit (.int .i64 c)]
def tmElem : Value → Option (DataW Unit × List MemPlace)
  | .agg cs => match cs.toList with
    | [.int .i64 a, .int .i64 b, .int .i64 c] => some (td a b c, [])
    | _ => none
  | _ => none
theorem tmElem_mk (a b c : Int) : tmElem (tv a b c) = some (td a b c, []) := rfl
theorem tmElem_inv {v : Value} {z : DataW Unit × List MemPlace} (h : tmElem v = some z) : ∃ a b c, v = tv a b c ∧ z = (td a b c, []) := by
  unfold tmElem at h
  split at h
  · rename_i cs
    split at h
    · rename_i a b c e
      refine ⟨a, b, c, ?_, (Option.some.inj h).symm⟩
      unfold tv; congr 1; cases cs; simpa using e
    · cases h
  · cases h
theorem td_inj {a b c x y z : Int} (h : td a b c = td x y z) : a = x ∧ b = y ∧ c = z := by
  unfold td at h; simp at h; exact h

/-- what the map gives for a handle -/
def tmv : Option Tm → Value
  | none => tv 0 0 0
  | some t => tv t.at_ t.list t.place
def tmd : Option Tm → DataW Unit
  | none => td 0 0 0
  | some t => td t.at_ t.list t.place

/-- BLOCK M IS A MAP of n timers, T -/
def MapIs (w : World) (M : Nat) (T : Int → Option Tm) (n : Nat) : Prop :=
  ∃ D, w.ownsMap Try.prog 3 tmElem M n D ∧ Maps.size D = n ∧ ∀ h, inR h → Maps.has D (.int .i64 h) = (T h).isSome ∧ D.atKey (.int .i64 h) (td 0 0 0) = tmd (T h)

theorem zero_tm (w : World) : (zeroValue 99).run Try.prog w = .ok (tv 0 0 0) w := by kernel_rfl

/-- a timer's time -/
theorem field_0 (a b c : Int) (w : World) : (Instr.field 99 (.agg #[.int .i64 a, .int .i64 b, .int .i64 c]) 0).run Try.prog w = .ok (.int .i64 a) w := by kernel_rfl

section
variable {w : World} {M n : Nat} {T : Int → Option Tm}

theorem MapIs.made (w : World) : MapIs (w.alloc (.map #[] 0)) w.heap.size (fun _ => none) 0 :=
  ⟨.map [], World.ownsMap_made w _ _ _, rfl, fun _ _ => ⟨rfl, rfl⟩⟩

theorem MapIs.lt (h : MapIs w M T n) : M < w.heap.size := by obtain ⟨D, h, _⟩ := h; exact h.lt
theorem MapIs.is (h : MapIs w M T n) : ∃ es clock, w.heap[M]? = some (.map es clock) := by obtain ⟨D, ⟨es, c, h, _⟩, _⟩ := h; exact ⟨es, c, h⟩
theorem MapIs.kept (h : MapIs w M T n) {w' : World} (hk : w'.heap[M]? = w.heap[M]?) : MapIs w' M T n := by
  obtain ⟨D, ⟨es, c, hb, r⟩, h2⟩ := h
  exact ⟨D, ⟨es, c, hk.trans hb, r⟩, h2⟩

theorem tmd_inv {a b c : Int} {o : Option Tm} (h : td a b c = tmd o) : tv a b c = tmv o := by
  cases o with
  | none => obtain ⟨rfl, rfl, rfl⟩ := td_inj h; rfl
  | some t => obtain ⟨rfl, rfl, rfl⟩ := td_inj h; rfl

theorem MapIs.look (h : MapIs w M T n) {x : Int} (hx : inR x) : (Instr.lookup 92 (.map (some M)) (.int .i64 x) false).run Try.prog w = .ok (tmv (T x)) w := by
  obtain ⟨D, hown, _, hT⟩ := h
  obtain ⟨v, ps, hrun, hv⟩ := hown.lookup keyLaw Try.underlying92 (zero_tm w) (tmElem_mk 0 0 0) (key_of hx)
  obtain ⟨a, b, c, rfl, hz⟩ := tmElem_inv hv
  rw [hrun, ← tmd_inv ((congrArg Prod.fst hz).symm.trans (hT x hx).2)]

theorem MapIs.look_ok (h : MapIs w M T n) {x : Int} (hx : inR x) : (Instr.lookup 92 (.map (some M)) (.int .i64 x) true).run Try.prog w = .ok (.tuple #[tmv (T x), .bool (T x).isSome]) w := by
  obtain ⟨D, hown, _, hT⟩ := h
  obtain ⟨v, ps, hrun, hv⟩ := hown.look_ok keyLaw Try.underlying92 (zero_tm w) (tmElem_mk 0 0 0) (key_of hx)
  obtain ⟨a, b, c, rfl, hz⟩ := tmElem_inv hv
  rw [hrun, ← tmd_inv ((congrArg Prod.fst hz).symm.trans (hT x hx).2), (hT x hx).1]

theorem MapIs.len (h : MapIs w M T n) (ty : TypeId) : (Builtin.len_ #[92] ty #[.map (some M)]).run Try.prog w = .ok (.int .i64 (n : Int)) w := by
  obtain ⟨D, hown, hs, _⟩ := h
  have := hown.len Try.underlying92 ty
  rw [hs] at this; exact this

theorem lit_ne {x y : Int} (h : x ≠ y) : Lit.int .i64 x ≠ Lit.int .i64 y := fun e => h (by injection e)

theorem MapIs.store (h : MapIs w M T n) (hn : n < 9223372036854775807) {x : Int} (hx : inR x) (t : Tm) :
    ∃ w', (Instr.mapUpdate 92 (.map (some M)) (.int .i64 x) (tv t.at_ t.list t.place)).run Try.prog w = .ok () w' ∧ MapIs w' M (upd T x (some t)) (if (T x).isSome then n else n + 1) ∧ w.mapTurned w' M := by
  obtain ⟨D, hown, hs, hT⟩ := h
  have hk : WideAt.IsKeyLit (Lit.int .i64 x) := keyLaw.key (key_of hx)
  obtain ⟨w', hrun, hown', hturn⟩ := hown.store keyLaw Try.underlying92 (by unfold maxLen; omega) (key_of hx) (tmElem_mk t.at_ t.list t.place)
  have hsz := size_put (hown.tidy keyLaw) (k := .int .i64 x) (td t.at_ t.list t.place)
  rw [(hT x hx).1, hs] at hsz
  refine ⟨w', hrun, ⟨_, ?_, hsz, fun y hy => ?_⟩, hturn⟩
  · obtain ⟨es, c, hb, F, hle, hD⟩ := hown'
    refine ⟨es, c, hb, F, ?_, hD⟩
    have : Maps.size (D.put (.int .i64 x) (td t.at_ t.list t.place)) = es.size := by rw [hD]; simp [Maps.size, length_sorted]
    rw [← hsz, this]; exact Nat.le_refl _
  · by_cases e : y = x
    · subst e
      rw [has_put_same hown.isMap hk, atKey_put_same hown.isMap hk, upd_same]
      exact ⟨rfl, rfl⟩
    · rw [has_put_other (lit_ne e), atKey_put_other (lit_ne e), upd_other _ _ e]
      exact hT y hy

theorem MapIs.drop (h : MapIs w M T n) {x : Int} (hx : inR x) (ty : TypeId) :
    ∃ w', (Builtin.delete_ #[92, 3] ty #[.map (some M), .int .i64 x]).run Try.prog w = .ok (.tuple #[]) w' ∧ MapIs w' M (upd T x none) (if (T x).isSome then n - 1 else n) ∧ w.mapTurned w' M := by
  obtain ⟨D, hown, hs, hT⟩ := h
  have hk : WideAt.IsKeyLit (Lit.int .i64 x) := keyLaw.key (key_of hx)
  obtain ⟨w', hrun, hown', hturn⟩ := hown.drop keyLaw Try.underlying92 (key_of hx) ty
  have hsz := size_del (hown.tidy keyLaw) (k := .int .i64 x)
  rw [(hT x hx).1, hs] at hsz
  have hsz' : Maps.size (D.del (.int .i64 x)) = if (T x).isSome then n - 1 else n := by
    split at hsz
    · rename_i hc; rw [if_pos hc]; omega
    · rename_i hc; rw [if_neg hc]; omega
  refine ⟨w', hrun, ⟨_, ?_, hsz', fun y hy => ?_⟩, hturn⟩
  · obtain ⟨es, c, hb, F, hle, hD⟩ := hown'
    refine ⟨es, c, hb, F, ?_, hD⟩
    have : Maps.size (D.del (.int .i64 x)) = es.size := by rw [hD]; simp [Maps.size, length_sorted]
    rw [← hsz', this]; exact Nat.le_refl _
  · by_cases e : y = x
    · subst e
      rw [has_del_same, atKey_del_same, upd_same]
      exact ⟨rfl, rfl⟩
    · rw [has_del_other (lit_ne e), atKey_del_other (lit_ne e), upd_other _ _ e]
      exact hT y hy
end

end Go.Proofs.Ytckmkagijanbdaa.Wh
