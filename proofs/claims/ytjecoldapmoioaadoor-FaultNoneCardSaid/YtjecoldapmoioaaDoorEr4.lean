/- errors.As with a status that is sought; errors.Is with one: by contracts. -/
import Derived.Test.YtjecoldapmoioaaDoorEr3
namespace Go.Proofs.YtjecoldapmoioaaDoor.Er
open Go.RowKit Go.Extern.Stop Go.Stop Go.Extern St

/-- a status is sought, and there is one within -/
theorem As_SC (c : Int) (p : List Int) (e : Value) (t : Nat) (old : Value) (w : World) (hg : Eh w) (ht : w.heap[t]? = some (.cells #[old] 48 (0, 0))) (he : Err w (some c) p e) :
    Calls Tryd.prog 22 #[e, .iface 50 (.pointer (some ⟨t, 0, none⟩))] w fun ev w' =>
      ev = .returned (.bool true) ∧ Only t w w' ∧ w'.heap[t]? = some (.cells #[.int .i64 c] 48 (0, 0)) := by
  obtain ⟨ty, v, rfl⟩ := he.some_ne
  refine (As_S ty v t old w hg ht (fun w1 z w' => z = true ∧ Only t w1 w' ∧ w'.heap[t]? = some (.cells #[.int .i64 c] 48 (0, 0))) (fun w1 B k h1 h2 => (as_SC c p _ t B old w1 h1 h2 (he.kept k)).mono fun ev w' h => ⟨true, h.1, rfl, h.2⟩)).mono ?_
  rintro ev w' ⟨z, rfl, w1, k, rfl, h1, h2⟩
  exact ⟨rfl, (Only.of k).trans h1, h2⟩
/-- a status is sought, and there is none within -/
theorem As_SN (n : Int) (p : List Int) (e : Value) (t : Nat) (old : Value) (w : World) (hg : Eh w) (ht : w.heap[t]? = some (.cells #[old] 48 (0, 0))) (he : Err w none (n :: p) e) :
    Calls Tryd.prog 22 #[e, .iface 50 (.pointer (some ⟨t, 0, none⟩))] w fun ev w' => ev = .returned (.bool false) ∧ Kept w w' := by
  obtain ⟨ty, v, rfl⟩ : ∃ ty v, e = .iface ty v := ⟨_, _, he.choose_spec.choose_spec.1⟩
  refine (As_S ty v t old w hg ht (fun w1 z w' => z = false ∧ Kept w1 w') (fun w1 B k h1 h2 => (as_SN n p _ t B w1 (he.kept k)).mono fun ev w' h => ⟨false, h.1, rfl, h.2⟩)).mono ?_
  rintro ev w' ⟨z, rfl, w1, k, rfl, h1⟩
  exact ⟨rfl, k.trans h1⟩

/-! errors.Is: a status that is sought -/
theorem xCmpS (w : World) : (callFunc 80 #[.agg #[.pointer (some ⟨4, 48, none⟩)]]).run Tryd.prog w = .ok (.value (.bool true)) w := by rw [xComparable]; kernel_rfl
theorem cmpS : (Tryd.prog.info? 48).map (·.comparable) = some true := by kernel_rfl
theorem eqS (c d : Int) (w : World) : (binOp .eql 25 (.iface 48 (.int .i64 c)) (.iface 48 (.int .i64 d))).run Tryd.prog w = .ok (.bool (decide (c = d))) w := by
  obtain ⟨i, hi, hc⟩ := Option.map_eq_some_iff.1 cmpS
  have h : ∀ k : Nat, (Op.equalIn (k + 2) 25 (.iface 48 (.int .i64 c)) (.iface 48 (.int .i64 d))).run Tryd.prog w = .ok (decide (c = d)) w := fun k => by
    simp [Op.equalIn, run_underlying Tryd.underlying25, run_underlying Tryd.underlying48, typeInfo, hi, hc]
    rfl
  simp only [binOp]
  simp [Op.equal, Op.maxDepth, h 9998]
theorem eqFS (v u : Value) (w : World) : (binOp .eql 25 (.iface 41 v) (.iface 48 u)).run Tryd.prog w = .ok (.bool false) w :=
  run_eql_iface_types _ _ _ _ Tryd.underlying25 (by decide) w

set_option maxHeartbeats 2000000 in
theorem is_C (c d : Int) (z : Bool) (hz : Hid (decide (c = d) = z)) (p : List Int) (e : Value) (w : World) (he : Err w (some c) p e) :
    Calls Tryd.prog 36 #[e, .iface 48 (.int .i64 d), .bool true] w fun ev w' => ev = .returned (.bool z) ∧ w = w' := by
  have hq := eqS c d
  rw [hz.out] at hq
  have h1 := eqFS
  have g1 := noIsF; have g2 := hasUnwrapF; have g3 := unwrapF
  have g4 := noIsS; have g5 := noUnwrapS; have g6 := noUnwrapsS
  go_enter Tryd.func36, Tryd.ntmps36
  go_wp2
  go_loop [0] (fun e' => ∃ p', Err w (some c) p' e') (fun e' => rank e')
  case atStart => exact ⟨p, he⟩
  case round =>
    obtain ⟨p', hp⟩ := hrel
    cases p' with
    | nil =>
      obtain rfl := hp
      clear hz
      cases z
      · go_wp2
        go_ret
        exact ⟨rfl, rfl⟩
      · go_wp2
        go_ret
        exact ⟨rfl, rfl⟩
    | cons n q =>
      obtain ⟨b, of, rfl, hb, hr, ho⟩ := hp
      obtain ⟨ty, v, rfl⟩ := ho.some_ne
      have hr' := Lib.hid hr
      have ho' := Lib.hid ho
      clear hr ho
      go_wp2_with (go_at_call 20; refine (unwrap_any b _ _ _ hb).mono ?_; rintro ev w' ⟨rfl, rfl⟩)
      go_round
      case rel => exact ⟨q, ho'.out⟩
      case measure => exact Nat.lt_succ_of_le hr'.out

/-- errors.Is at an error below which a status lies -/
theorem Is_C (c d : Int) (z : Bool) (hz : Hid (decide (c = d) = z)) (p : List Int) (e : Value) (w : World) (he : Err w (some c) p e) :
    Calls Tryd.prog 24 #[e, .iface 48 (.int .i64 d)] w fun ev w' => ev = .returned (.bool z) ∧ w = w' := by
  have h1 := xTypeOf; have h2 := typeOfS; have h3 := mComparable; have h4 := xCmpS
  have hi := is_C c d z hz p e w he
  obtain ⟨ty, v, rfl⟩ := he.some_ne
  have HI := Lib.hid hi
  clear hi he hz
  go_enter Tryd.func24, Tryd.ntmps24
  go_wp2_with (go_at_call 36; refine HI.out.mono ?_; rintro ev w' ⟨rfl, rfl⟩)
  go_ret
  exact ⟨rfl, rfl⟩
theorem Is_nil (d : Int) (w : World) :
    Calls Tryd.prog 24 #[.nilIface, .iface 48 (.int .i64 d)] w fun ev w' => ev = .returned (.bool false) ∧ w = w' := by
  have hn := run_eql_iface_nil_left (P := Tryd.prog) w 48 (.int .i64 d) Tryd.underlying25
  go_enter Tryd.func24, Tryd.ntmps24
  go_wp2
  go_ret
  exact ⟨rfl, rfl⟩

end Go.Proofs.YtjecoldapmoioaaDoor.Er
