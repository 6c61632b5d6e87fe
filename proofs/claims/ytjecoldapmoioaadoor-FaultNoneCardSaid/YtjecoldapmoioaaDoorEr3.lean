/- errors.As and errors.Is, by contracts, at the errors of package fault. -/
import Derived.Test.YtjecoldapmoioaaDoorEr2
namespace Go.Proofs.YtjecoldapmoioaaDoor.Er
open Go.RowKit Go.Extern.Stop Go.Stop Go.Extern St

set_option maxHeartbeats 2000000 in
/-- faults that are about nothing have no status within -/
theorem as_SN (n0 : Int) (p0 : List Int) (e0 : Value) (t B : Nat) (w : World) (he : Err w none (n0 :: p0) e0) :
    Calls Tryd.prog 34 #[e0, .iface 50 (.pointer (some ⟨t, 0, none⟩)), .agg #[.pointer (some ⟨4, 50, none⟩), .pointer (some ⟨B, 0, none⟩), .int .u64 150], .iface 78 (.agg #[.pointer (some ⟨4, 48, none⟩)])] w fun ev w' => ev = .returned (.bool false) ∧ Kept w w' := by
  have h1 := xTypeOf; have h2 := xAssignableTo; have h7 := mAssignableTo
  have g1 := noAsF; have g2 := hasUnwrapF; have g3 := unwrapF; have g4 := typeOfF; have g5 := assignFS
  have he1 := he.kept ((Kept.refl w).grow #[.cells #[.pointer (some ⟨4, 50, none⟩), .pointer (some ⟨B, 0, none⟩), .int .u64 150] 64 (0, 0)])
  go_enter Tryd.func34, Tryd.ntmps34
  go_wp2
  go_loop [0] (fun e' => ∃ n p', Err (w.alloc (.cells #[.pointer (some ⟨4, 50, none⟩), .pointer (some ⟨B, 0, none⟩), .int .u64 150] 64)) none (n :: p') e') (fun e' => rank e')
  case atStart => exact ⟨n0, p0, he1⟩
  case round =>
    obtain ⟨n, q, hp⟩ := hrel
    obtain ⟨b, of, rfl, hb, hr, ho⟩ := hp
    cases q with
    | nil =>
      obtain rfl := ho
      go_wp2_with (go_at_call 20; refine (unwrap_any b _ _ _ hb).mono ?_; rintro ev w' ⟨rfl, rfl⟩)
      go_ret
      exact ⟨rfl, (Kept.refl w).grow #[_]⟩
    | cons m q =>
      obtain ⟨ty, v, rfl⟩ : ∃ ty v, of = .iface ty v := ⟨_, _, ho.choose_spec.choose_spec.1⟩
      have hr' := Lib.hid hr
      have ho' := Lib.hid ho
      clear hr ho
      go_wp2_with (go_at_call 20; refine (unwrap_any b _ _ _ hb).mono ?_; rintro ev w' ⟨rfl, rfl⟩)
      go_round
      case rel => exact ⟨m, q, ho'.out⟩
      case measure => exact Nat.lt_succ_of_le hr'.out

set_option maxHeartbeats 2000000 in
/-- errors.As, whatever errors.as answers -/
theorem As_F (ty : TypeId) (v : Value) (t : Nat) (old : Value) (w : World) (hg : Eh w) (ht : w.heap[t]? = some (.cells #[old] 41 (0, 0))) (R : World → Bool → World → Prop)
    (H : ∀ w' B, Kept w w' → w'.heap[B]? = some (.cells #[.pointer (some ⟨t, 0, none⟩)] 51 (0, 0)) → w'.heap[t]? = some (.cells #[old] 41 (0, 0)) →
      Calls Tryd.prog 34 #[.iface ty v, .iface 51 (.pointer (some ⟨t, 0, none⟩)), .agg #[.pointer (some ⟨4, 51, none⟩), .pointer (some ⟨B, 0, none⟩), .int .u64 150], .iface 78 (.agg #[.pointer (some ⟨4, 41, none⟩)])] w' fun ev w'' => ∃ z, ev = .returned (.bool z) ∧ R w' z w'') :
    Calls Tryd.prog 22 #[.iface ty v, .iface 51 (.pointer (some ⟨t, 0, none⟩))] w fun ev w' => ∃ z, ev = .returned (.bool z) ∧ ∃ w1, Kept w w1 ∧ R w1 z w' := by
  have h1 := xValueOf; have h2 := xType; have h3 := xIsNil; have h4 := xKind; have h5 := xTElem; have h6 := xImplements
  have f1 := valueOfPF; have f2 := typePF; have f3 := kindPF; have f4 := kindEF; have f5 := elemPF; have f6 := implementsF
  have m1 := mKind; have m2 := mElem; have m3 := mImplements
  have n8 := isNilPF ⟨w.heap.size, 0, none⟩ ⟨t, 0, none⟩ ((w.alloc (.cells #[.pointer (some ⟨t, 0, none⟩)] 51)).alloc (.cells #[.pointer (some ⟨4, 51, none⟩), .pointer (some ⟨w.heap.size, 0, none⟩), .int .u64 150] 64)) (by simp)
  have k1 : Kept w ((w.alloc (.cells #[.pointer (some ⟨t, 0, none⟩)] 51)).alloc (.cells #[.pointer (some ⟨4, 51, none⟩), .pointer (some ⟨w.heap.size, 0, none⟩), .int .u64 150] 64)) := ((Kept.refl w).grow #[_]).grow #[_]
  have hg2 := hg.kept k1
  unfold Eh at hg2
  have H1 := Lib.hid (H ((w.alloc (.cells #[.pointer (some ⟨t, 0, none⟩)] 51)).alloc (.cells #[.pointer (some ⟨4, 51, none⟩), .pointer (some ⟨w.heap.size, 0, none⟩), .int .u64 150] 64)) w.heap.size k1
    (by rw [Below.heap_alloc _ _ _ (by simp)]; exact blk_new w _) (by rw [k1.block t (blk_lt ht)]; exact ht))
  clear H
  go_enter Tryd.func22, Tryd.ntmps22
  go_wp2_with (go_at_call 34; refine H1.out.mono ?_; rintro ev w' ⟨z, rfl, hR⟩)
  go_ret
  exact ⟨z, rfl, _, k1, hR⟩

set_option maxHeartbeats 2000000 in
/-- errors.As, whatever errors.as answers -/
theorem As_S (ty : TypeId) (v : Value) (t : Nat) (old : Value) (w : World) (hg : Eh w) (ht : w.heap[t]? = some (.cells #[old] 48 (0, 0))) (R : World → Bool → World → Prop)
    (H : ∀ w' B, Kept w w' → w'.heap[B]? = some (.cells #[.pointer (some ⟨t, 0, none⟩)] 50 (0, 0)) → w'.heap[t]? = some (.cells #[old] 48 (0, 0)) →
      Calls Tryd.prog 34 #[.iface ty v, .iface 50 (.pointer (some ⟨t, 0, none⟩)), .agg #[.pointer (some ⟨4, 50, none⟩), .pointer (some ⟨B, 0, none⟩), .int .u64 150], .iface 78 (.agg #[.pointer (some ⟨4, 48, none⟩)])] w' fun ev w'' => ∃ z, ev = .returned (.bool z) ∧ R w' z w'') :
    Calls Tryd.prog 22 #[.iface ty v, .iface 50 (.pointer (some ⟨t, 0, none⟩))] w fun ev w' => ∃ z, ev = .returned (.bool z) ∧ ∃ w1, Kept w w1 ∧ R w1 z w' := by
  have h1 := xValueOf; have h2 := xType; have h3 := xIsNil; have h4 := xKind; have h5 := xTElem; have h6 := xImplements
  have f1 := valueOfPS; have f2 := typePS; have f3 := kindPS; have f4 := kindES; have f5 := elemPS; have f6 := implementsS
  have m1 := mKind; have m2 := mElem; have m3 := mImplements
  have n8 := isNilPS ⟨w.heap.size, 0, none⟩ ⟨t, 0, none⟩ ((w.alloc (.cells #[.pointer (some ⟨t, 0, none⟩)] 50)).alloc (.cells #[.pointer (some ⟨4, 50, none⟩), .pointer (some ⟨w.heap.size, 0, none⟩), .int .u64 150] 64)) (by simp)
  have k1 : Kept w ((w.alloc (.cells #[.pointer (some ⟨t, 0, none⟩)] 50)).alloc (.cells #[.pointer (some ⟨4, 50, none⟩), .pointer (some ⟨w.heap.size, 0, none⟩), .int .u64 150] 64)) := ((Kept.refl w).grow #[_]).grow #[_]
  have hg2 := hg.kept k1
  unfold Eh at hg2
  have H1 := Lib.hid (H ((w.alloc (.cells #[.pointer (some ⟨t, 0, none⟩)] 50)).alloc (.cells #[.pointer (some ⟨4, 50, none⟩), .pointer (some ⟨w.heap.size, 0, none⟩), .int .u64 150] 64)) w.heap.size k1
    (by rw [Below.heap_alloc _ _ _ (by simp)]; exact blk_new w _) (by rw [k1.block t (blk_lt ht)]; exact ht))
  clear H
  go_enter Tryd.func22, Tryd.ntmps22
  go_wp2_with (go_at_call 34; refine H1.out.mono ?_; rintro ev w' ⟨z, rfl, hR⟩)
  go_ret
  exact ⟨z, rfl, _, k1, hR⟩

theorem As_nil (T' : TypeId) (t : Value) (w : World) : Calls Tryd.prog 22 #[.nilIface, .iface T' t] w fun ev w' => ev = .returned (.bool false) ∧ w = w' := by
  go_enter Tryd.func22, Tryd.ntmps22
  go_wp2
  go_ret
  exact ⟨rfl, rfl⟩

/-- a fault is sought, and the error is one -/
theorem As_FF (e : Addr) (t : Nat) (old : Value) (w : World) (hg : Eh w) (ht : w.heap[t]? = some (.cells #[old] 41 (0, 0))) :
    Calls Tryd.prog 22 #[.iface 41 (.pointer (some e)), .iface 51 (.pointer (some ⟨t, 0, none⟩))] w fun ev w' =>
      ev = .returned (.bool true) ∧ Only t w w' ∧ w'.heap[t]? = some (.cells #[.pointer (some e)] 41 (0, 0)) := by
  refine (As_F _ _ t old w hg ht (fun w1 z w' => z = true ∧ Only t w1 w' ∧ w'.heap[t]? = some (.cells #[.pointer (some e)] 41 (0, 0))) (fun w1 B _ h1 h2 => (as_FF e t B old w1 h1 h2).mono fun ev w' h => ⟨true, h.1, rfl, h.2⟩)).mono ?_
  rintro ev w' ⟨z, rfl, w1, k, rfl, h1, h2⟩
  exact ⟨rfl, (Only.of k).trans h1, h2⟩
/-- a fault is sought, and the error is a status -/
theorem As_FS (c : Int) (t : Nat) (old : Value) (w : World) (hg : Eh w) (ht : w.heap[t]? = some (.cells #[old] 41 (0, 0))) :
    Calls Tryd.prog 22 #[.iface 48 (.int .i64 c), .iface 51 (.pointer (some ⟨t, 0, none⟩))] w fun ev w' =>
      ev = .returned (.bool false) ∧ Kept w w' := by
  refine (As_F _ _ t old w hg ht (fun w1 z w' => z = false ∧ Kept w1 w') (fun w1 B _ _ _ => (as_FS c t B w1).mono fun ev w' h => ⟨false, h.1, rfl, h.2⟩)).mono ?_
  rintro ev w' ⟨z, rfl, w1, k, rfl, h1⟩
  exact ⟨rfl, k.trans h1⟩

end Go.Proofs.YtjecoldapmoioaaDoor.Er
