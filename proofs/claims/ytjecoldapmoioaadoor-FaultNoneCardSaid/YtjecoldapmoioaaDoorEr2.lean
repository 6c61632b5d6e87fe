/- errors.As at errors that went through nodes, by contracts. -/
import Derived.Test.YtjecoldapmoioaaDoorEr
namespace Go.Proofs.YtjecoldapmoioaaDoor.Er
open Go.RowKit Go.Extern.Stop Go.Stop Go.Extern St

/-- what the table of the library's own holds: which type 'error' is -/
def Eh (w : World) : Prop := w.cell? ⟨0, 0, none⟩ = some (.iface 78 (.agg #[.pointer (some ⟨4, 25, none⟩)]))
theorem Eh.kept {a b : World} (h : Eh a) (k : Kept a b) : Eh b := by
  unfold Eh at *
  rw [k.cell (p := ⟨0, 0, none⟩) ?_]; exact h
  rcases Nat.lt_or_ge 0 a.heap.size with h' | h'
  · exact h'
  · simp [World.cell?, Array.getElem?_eq_none h'] at h
theorem Eh.lt {a : World} (h : Eh a) : 0 < a.heap.size := by
  rcases Nat.eq_zero_or_pos a.heap.size with h0 | h'
  · unfold Eh at h; simp [World.cell?, h0] at h
  · exact h'

theorem xValueOf (args : Array Value) (w : World) : (callFunc 31 args).run Tryd.prog w = ((ReflectliteValue.unpack (args.getD 0 (.tuple #[]))).run Tryd.prog w).andThen fun v w' => .ok (.value v) w' :=
  run_callFunc_extern (e := fun args => ReflectliteValue.unpack (args.getD 0 (.tuple #[]))) Tryd.func31 (by kernel_rfl) (by kernel_rfl) (by kernel_rfl) (by kernel_rfl) args w

theorem xType (args : Array Value) (w : World) : (callFunc 32 args).run Tryd.prog w = ((ReflectliteValue.methodAny (ReflectliteValue.valueError "reflectlite.Value.Type" 0) (fun t _ _ _ => ReflectliteType.toType t) args).run Tryd.prog w).andThen fun v w' => .ok (.value v) w' :=
  run_callFunc_extern (e := fun args => ReflectliteValue.methodAny (ReflectliteValue.valueError "reflectlite.Value.Type" 0) (fun t _ _ _ => ReflectliteType.toType t) args) Tryd.func32 (by kernel_rfl) (by kernel_rfl) (by kernel_rfl) (by kernel_rfl) args w

theorem xIsNil (args : Array Value) (w : World) : (callFunc 33 args).run Tryd.prog w = ((ReflectliteValue.method (ReflectliteValue.valueError "reflectlite.Value.IsNil" 0) ReflectliteValue.isNil args).run Tryd.prog w).andThen fun v w' => .ok (.value v) w' :=
  run_callFunc_extern (e := fun args => ReflectliteValue.method (ReflectliteValue.valueError "reflectlite.Value.IsNil" 0) ReflectliteValue.isNil args) Tryd.func33 (by kernel_rfl) (by kernel_rfl) (by kernel_rfl) (by kernel_rfl) args w

theorem xKind (args : Array Value) (w : World) : (callFunc 68 args).run Tryd.prog w = (((ReflectliteType.abiMethod fun t => do pure (.int .u8 (← Rtype.kind t))) args).run Tryd.prog w).andThen fun v w' => .ok (.value v) w' :=
  run_callFunc_extern (e := fun args => (ReflectliteType.abiMethod fun t => do pure (.int .u8 (← Rtype.kind t))) args) Tryd.func68 (by kernel_rfl) (by kernel_rfl) (by kernel_rfl) (by kernel_rfl) args w

theorem xTElem (args : Array Value) (w : World) : (callFunc 81 args).run Tryd.prog w = ((ReflectliteType.method ReflectliteType.elem args).run Tryd.prog w).andThen fun v w' => .ok (.value v) w' :=
  run_callFunc_extern (e := fun args => ReflectliteType.method ReflectliteType.elem args) Tryd.func81 (by kernel_rfl) (by kernel_rfl) (by kernel_rfl) (by kernel_rfl) args w

theorem xImplements (args : Array Value) (w : World) : (callFunc 82 args).run Tryd.prog w = ((ReflectliteType.relation "Implements" ReflectliteType.implements_ args).run Tryd.prog w).andThen fun v w' => .ok (.value v) w' :=
  run_callFunc_extern (e := fun args => ReflectliteType.relation "Implements" ReflectliteType.implements_ args) Tryd.func82 (by kernel_rfl) (by kernel_rfl) (by kernel_rfl) (by kernel_rfl) args w

theorem xTypeOf (args : Array Value) (w : World) : (callFunc 35 args).run Tryd.prog w = ((ReflectliteType.typeOf args).run Tryd.prog w).andThen fun v w' => .ok (.value v) w' :=
  run_callFunc_extern (e := fun args => ReflectliteType.typeOf args) Tryd.func35 (by kernel_rfl) (by kernel_rfl) (by kernel_rfl) (by kernel_rfl) args w

theorem xAssignableTo (args : Array Value) (w : World) : (callFunc 79 args).run Tryd.prog w = ((ReflectliteType.relation "AssignableTo" ReflectliteType.assignableTo args).run Tryd.prog w).andThen fun v w' => .ok (.value v) w' :=
  run_callFunc_extern (e := fun args => ReflectliteType.relation "AssignableTo" ReflectliteType.assignableTo args) Tryd.func79 (by kernel_rfl) (by kernel_rfl) (by kernel_rfl) (by kernel_rfl) args w

theorem xComparable (args : Array Value) (w : World) : (callFunc 80 args).run Tryd.prog w = (((ReflectliteType.method fun t => do Rtype.noPackHeld "Comparable" t; pure (.bool (← typeInfo t).comparable)) args).run Tryd.prog w).andThen fun v w' => .ok (.value v) w' :=
  run_callFunc_extern (e := fun args => (ReflectliteType.method fun t => do Rtype.noPackHeld "Comparable" t; pure (.bool (← typeInfo t).comparable)) args) Tryd.func80 (by kernel_rfl) (by kernel_rfl) (by kernel_rfl) (by kernel_rfl) args w

theorem xVElem (args : Array Value) (w : World) : (callFunc 39 args).run Tryd.prog w = ((ReflectliteValue.method (ReflectliteValue.valueError "reflectlite.Value.Elem" 0) ReflectliteValue.elem args).run Tryd.prog w).andThen fun v w' => .ok (.value v) w' :=
  run_callFunc_extern (e := fun args => ReflectliteValue.method (ReflectliteValue.valueError "reflectlite.Value.Elem" 0) ReflectliteValue.elem args) Tryd.func39 (by kernel_rfl) (by kernel_rfl) (by kernel_rfl) (by kernel_rfl) args w

theorem xSet (args : Array Value) (w : World) : (callFunc 40 args).run Tryd.prog w = ((ReflectliteValue.set args).run Tryd.prog w).andThen fun v w' => .ok (.value v) w' :=
  run_callFunc_extern (e := fun args => ReflectliteValue.set args) Tryd.func40 (by kernel_rfl) (by kernel_rfl) (by kernel_rfl) (by kernel_rfl) args w

/-- a store to a cell, and two new blocks -/
theorem out2 {w : World} {t : Nat} {old v : Value} {T : TypeId} (ht : w.heap[t]? = some (.cells #[old] T (0, 0))) (o1 o2 : Obj) (ev : Ending) {r : Ending} (he : r = ev) :
    r = ev ∧ Only t w (((w.setCell ⟨t, 0, none⟩ v).alloc o1).alloc o2) ∧ (((w.setCell ⟨t, 0, none⟩ v).alloc o1).alloc o2).heap[t]? = some (.cells #[v] T (0, 0)) := by
  have k : Kept (w.setCell ⟨t, 0, none⟩ v) (((w.setCell ⟨t, 0, none⟩ v).alloc o1).alloc o2) := ((Kept.refl _).grow #[o1]).grow #[o2]
  have hs := blk_set ht 0 v
  refine ⟨he, ((Only.refl t w).set 0 v).trans (Only.of k), ?_⟩
  rw [k.block t (blk_lt hs), hs]; rfl

set_option maxHeartbeats 2000000 in
/-- the error's own type is the one that is sought -/
theorem as_FF (e : Addr) (t B : Nat) (old : Value) (w : World) (hB : w.heap[B]? = some (.cells #[.pointer (some ⟨t, 0, none⟩)] 51 (0, 0))) (ht : w.heap[t]? = some (.cells #[old] 41 (0, 0))) :
    Calls Tryd.prog 34 #[.iface 41 (.pointer (some e)), .iface 51 (.pointer (some ⟨t, 0, none⟩)), .agg #[.pointer (some ⟨4, 51, none⟩), .pointer (some ⟨B, 0, none⟩), .int .u64 150], .iface 78 (.agg #[.pointer (some ⟨4, 41, none⟩)])] w fun ev w' =>
      ev = .returned (.bool true) ∧ Only t w w' ∧ w'.heap[t]? = some (.cells #[.pointer (some e)] 41 (0, 0)) := by
  have h1 := xTypeOf; have h2 := xAssignableTo; have h3 := xVElem; have h4 := xValueOf; have h5 := xSet
  have h6 := typeOfF; have h7 := mAssignableTo; have h8 := assignFF; have h9 := valueOfEF
  have hBl := blk_lt hB
  have htl := blk_lt ht
  have el := elemVF ⟨B, 0, none⟩ ⟨t, 0, none⟩ (w.alloc (.cells #[.pointer (some ⟨4, 51, none⟩), .pointer (some ⟨B, 0, none⟩), .int .u64 150] 64)) (by rw [World.cell?_alloc_lt _ _ _ hBl, blk_cell hB]; rfl)
  have st := setF ⟨t, 0, none⟩ ⟨w.heap.size + 1, 0, none⟩ e old ((w.alloc (.cells #[.pointer (some ⟨4, 51, none⟩), .pointer (some ⟨B, 0, none⟩), .int .u64 150] 64)).alloc (.cells #[.pointer (some e)] 41))
    (by rw [World.cell?_alloc_at _ _ _ _ (by simp)]; rfl)
    (by rw [World.cell?_alloc_lt _ _ _ (by simp; omega), World.cell?_alloc_lt _ _ _ htl, blk_cell ht]; rfl)
    (by rw [World.frozen?_alloc_old _ _ _ (by simp; omega), World.frozen?_alloc_old _ _ _ (Nat.ne_of_lt htl), blk_free ht])
  go_enter Tryd.func34, Tryd.ntmps34
  go_wp2
  refine wp_loop_rounds 1 ?_
  rw [rounds_succ]
  go_wp2
  go_ret
  exact out2 ht _ _ _ rfl

set_option maxHeartbeats 2000000 in
/-- a status is no fault -/
theorem as_FS (c : Int) (t B : Nat) (w : World) :
    Calls Tryd.prog 34 #[.iface 48 (.int .i64 c), .iface 51 (.pointer (some ⟨t, 0, none⟩)), .agg #[.pointer (some ⟨4, 51, none⟩), .pointer (some ⟨B, 0, none⟩), .int .u64 150], .iface 78 (.agg #[.pointer (some ⟨4, 41, none⟩)])] w fun ev w' =>
      ev = .returned (.bool false) ∧ Kept w w' := by
  have h1 := xTypeOf; have h2 := xAssignableTo
  have h6 := typeOfS; have h7 := mAssignableTo; have h8 := assignSF
  have g1 := noAsS; have g2 := noUnwrapS; have g3 := noUnwrapsS
  go_enter Tryd.func34, Tryd.ntmps34
  go_wp2
  refine wp_loop_rounds 1 ?_
  rw [rounds_succ]
  go_wp2
  go_ret
  exact ⟨rfl, (Kept.refl w).grow #[_]⟩

/-- an error below which a status lies is none that is nil -/
theorem Err.some_ne {W : World} {c : Int} : ∀ {p : List Int} {e : Value}, Err W (some c) p e → ∃ ty v, e = .iface ty v
  | [], _, h => ⟨_, _, h⟩
  | _ :: _, _, ⟨_, _, he, _⟩ => ⟨_, _, he⟩
theorem unwrap_any (b : Nat) (n of : Value) (w : World) (hb : w.heap[b]? = some (.cells #[n, of] 43 (0, 0))) :
    Calls Tryd.prog 20 #[.pointer (some ⟨b, 0, none⟩)] w fun ev w' => ev = .returned of ∧ w = w' := by
  have hc : w.cell? ⟨b, 1, none⟩ = some of := by rw [blk_cell hb]; rfl
  go_enter Tryd.func20, Tryd.ntmps20
  go_wp2
  go_ret
  exact ⟨rfl, rfl⟩

set_option maxHeartbeats 2000000 in
/-- the status within is found -/
theorem as_SC (c : Int) (p : List Int) (e0 : Value) (t B : Nat) (old : Value) (w : World) (hB : w.heap[B]? = some (.cells #[.pointer (some ⟨t, 0, none⟩)] 50 (0, 0))) (ht : w.heap[t]? = some (.cells #[old] 48 (0, 0))) (he : Err w (some c) p e0) :
    Calls Tryd.prog 34 #[e0, .iface 50 (.pointer (some ⟨t, 0, none⟩)), .agg #[.pointer (some ⟨4, 50, none⟩), .pointer (some ⟨B, 0, none⟩), .int .u64 150], .iface 78 (.agg #[.pointer (some ⟨4, 48, none⟩)])] w fun ev w' =>
      ev = .returned (.bool true) ∧ Only t w w' ∧ w'.heap[t]? = some (.cells #[.int .i64 c] 48 (0, 0)) := by
  obtain ⟨e, hec⟩ : ∃ e, c = e := ⟨_, rfl⟩
  rw [hec] at he ⊢
  clear hec
  have h1 := xTypeOf; have h2 := xAssignableTo; have h3 := xVElem; have h4 := xValueOf; have h5 := xSet
  have h6 := typeOfS; have h7 := mAssignableTo; have h8 := assignSS; have h9 := valueOfES
  have hBl := blk_lt hB
  have htl := blk_lt ht
  have el := elemVS ⟨B, 0, none⟩ ⟨t, 0, none⟩ (w.alloc (.cells #[.pointer (some ⟨4, 50, none⟩), .pointer (some ⟨B, 0, none⟩), .int .u64 150] 64)) (by rw [World.cell?_alloc_lt _ _ _ hBl, blk_cell hB]; rfl)
  have st := setS ⟨t, 0, none⟩ ⟨w.heap.size + 1, 0, none⟩ e old ((w.alloc (.cells #[.pointer (some ⟨4, 50, none⟩), .pointer (some ⟨B, 0, none⟩), .int .u64 150] 64)).alloc (.cells #[.int .i64 e] 48))
    (by rw [World.cell?_alloc_at _ _ _ _ (by simp)]; rfl)
    (by rw [World.cell?_alloc_lt _ _ _ (by simp; omega), World.cell?_alloc_lt _ _ _ htl, blk_cell ht]; rfl)
    (by rw [World.frozen?_alloc_old _ _ _ (by simp; omega), World.frozen?_alloc_old _ _ _ (Nat.ne_of_lt htl), blk_free ht])
  have g1 := noAsF; have g2 := hasUnwrapF; have g3 := unwrapF; have g4 := typeOfF; have g5 := assignFS
  have he1 := he.kept ((Kept.refl w).grow #[.cells #[.pointer (some ⟨4, 50, none⟩), .pointer (some ⟨B, 0, none⟩), .int .u64 150] 64 (0, 0)])
  go_enter Tryd.func34, Tryd.ntmps34
  go_wp2
  go_loop [0] (fun e' => ∃ p', Err (w.alloc (.cells #[.pointer (some ⟨4, 50, none⟩), .pointer (some ⟨B, 0, none⟩), .int .u64 150] 64)) (some e) p' e') (fun e' => rank e')
  case atStart => exact ⟨p, he1⟩
  case round =>
    obtain ⟨p', hp⟩ := hrel
    cases p' with
    | nil =>
      obtain rfl := hp
      go_wp2
      go_ret
      exact out2 ht _ _ _ rfl
    | cons n q =>
      obtain ⟨b, of, rfl, hb, hr, ho⟩ := hp
      obtain ⟨ty, v, rfl⟩ := ho.some_ne
      have hr' := Lib.hid hr
      have ho' := Lib.hid ho
      clear hr ho
      go_wp2_with (go_at_call 20; refine (unwrap_any b _ _ _ hb).mono ?_; rintro ev w' ⟨rfl, rfl⟩)
      go_round
      case rel => exact ⟨q, ho'.out⟩
      case measure => exact Nat.lt_succ_of_le hr'.out

end Go.Proofs.YtjecoldapmoioaaDoor.Er
