/- Package fault: Path, itself. -/
import Derived.Test.YtjecoldapmoioaaDoorFa
namespace Go.Proofs.YtjecoldapmoioaaDoor.Fa
open Go.RowKit Go.Sort St Cd Er
set_option linter.unusedVariables false

theorem owns_slice {w : World} {base : Nat} {T : TypeId} {v : Value} {n : Nat} {l : List Value} (h : w.ownsRow base T 1 v n l) : ∃ ao cap, v = .slice ao n cap := by
  rcases h.2 with ⟨hv, h0⟩ | ⟨g, cap, cur, hv, _⟩
  · exact ⟨none, 0, by rw [hv, h0]⟩
  · exact ⟨_, _, hv⟩
/-- a row of the call's own stays where but for an elder block nothing turns -/
theorem owns_only {w w' : World} {base t : Nat} {T : TypeId} {v : Value} {n : Nat} {l : List Value} (h : w.ownsRow base T 1 v n l) (k : Only t w w') (ht : t < base) : w'.ownsRow base T 1 v n l := by
  refine ⟨h.1, ?_⟩
  rcases h.2 with h0 | ⟨g, cap, cur, hv, hBg, hg, r⟩
  · exact Or.inl h0
  · exact Or.inr ⟨g, cap, cur, hv, hBg, k.other hg (by omega), r⟩
theorem owns_kept {w w' : World} {base : Nat} {T : TypeId} {v : Value} {n : Nat} {l : List Value} (h : w.ownsRow base T 1 v n l) (k : Kept w w') : w'.ownsRow base T 1 v n l := by
  refine ⟨h.1, ?_⟩
  rcases h.2 with h0 | ⟨g, cap, cur, hv, hBg, hg, r⟩
  · exact Or.inl h0
  · exact Or.inr ⟨g, cap, cur, hv, hBg, by rw [k.block g (blk_lt hg)]; exact hg, r⟩

set_option maxHeartbeats 2000000 in
theorem path_any (c : Int) (p0 : List Int) (e0 : Value) (w : World) (hg : Eh w) (hlen : p0.length ≤ 10000) (he : Err w (some c) p0 e0) :
    Calls Tryd.prog 13 #[e0] w fun ev w' => ∃ ao cap, ev = .returned (.slice ao p0.length cap) ∧ w'.ownsRow (w.heap.size + 1) 3 1 (.slice ao p0.length cap) p0.length (ints p0) ∧ Kept w w' := by
  have k0 : Kept w (w.alloc (.cells #[.pointer none] 41)) := (Kept.refl w).grow #[_]
  have HE := Lib.hid he
  have HG := Lib.hid hg
  clear he hg
  obtain ⟨i0, hi, hz0, hz1, hz2⟩ := info_parts info64
  have HI := Lib.hid (And.intro hi (And.intro hz0 (And.intro hz1 hz2)))
  clear hi hz0 hz1 hz2
  go_enter Tryd.func13, Tryd.ntmps13
  go_wp2_with fail
  go_loopw [0, 3] (fun e v wr => ∃ p1 p2 old, Hid (p0 = p1 ++ p2) ∧ Err w (some c) p2 e ∧ Hid (wr.heap[w.heap.size]? = some (.cells #[old] 41 (0, 0))) ∧ wr.ownsRow (w.heap.size + 1) 3 1 v p1.length (ints p1) ∧ Kept w wr ∧ w.heap.size + 1 ≤ wr.heap.size) (fun e _ _ => rank e)
  case atStart => exact ⟨[], p0, _, rfl, HE.out, blk_new w _, World.ownsRow_nil _ _ _ _, k0, by simp⟩
  case round =>
    obtain ⟨p1, p2, old, hp, he, hT, hown, hkept, hsz⟩ := hrel
    have hpl : p1.length + p2.length = p0.length := by rw [hp.out, List.length_append]
    cases p2 with
    | nil =>
      obtain rfl := he
      have HA := Lib.hid (As_FS c w.heap.size old wr (HG.out.kept hkept) hT.out)
      have hp' : p1 = p0 := by rw [hp.out, List.append_nil]
      subst hp'
      obtain ⟨ao, cap, rfl⟩ := owns_slice hown
      have HO := Lib.hid hown
      clear hown
      go_wp2_with (go_at_call 22; refine HA.out.mono ?_; rintro ev w' ⟨rfl, hk⟩)
      go_ret
      exact ⟨_, _, rfl, owns_kept HO.out hk, hkept.trans hk⟩
    | cons n q =>
      obtain ⟨b, of, rfl, hb, hr, ho⟩ := he
      have hbl := blk_lt hb
      have hb2 := (hkept.block b hbl).trans hb
      have HA := Lib.hid (As_FF ⟨b, 0, none⟩ w.heap.size old wr (HG.out.kept hkept) hT.out)
      have HO := Lib.hid hown
      have HR := Lib.hid hr
      have HF := Lib.hid ho
      have HB := Lib.hid hb2
      simp only [List.length_cons] at hpl
      clear hown hr ho hb hb2
      go_wp2_with (first
        | (go_at_call 22; refine HA.out.mono ?_; rintro ev w' ⟨rfl, ho', hc⟩
           have hc0 : w'.cell? ⟨w.heap.size, 0, none⟩ = some (.pointer (some ⟨b, 0, none⟩)) := (by rw [blk_cell hc]; rfl)
           have hb0 := ho'.other HB.out (Nat.ne_of_lt hbl)
           have hn0 : w'.cell? ⟨b, 0, none⟩ = some (.int .i64 n) := (by rw [blk_cell hb0]; rfl)
           have hown' := owns_only HO.out ho' (Nat.lt_succ_self _)
           have hk' := ho'.below hkept (Nat.le_refl _) (Below.size hkept)
           have hsz' := Nat.le_trans hsz ho'.size
           clear HA)
        | (at_builtin
           refine wpList_append_own _ rfl _ _ 22 rfl (w.heap.size + 1) 3 i0 (.int .i64 0) 1 8 Tryd.underlying22 HI.out.1 HI.out.2.1 HI.out.2.2.1 HI.out.2.2.2 rfl (by decide) _ _ _ rfl (hown'.alloc _) ⟨w'.heap.size, 0, none⟩ 1 1 [.int .i64 n] rfl rfl (cell_one _ _ _) (by intro u hu; simp at hu; subst hu; rfl) (by unfold maxLen; omega) (by omega) (by simp; omega) ?_
           intro v1 w1 hown1 hgrow1 _
           have hT1 : w1.heap[w.heap.size]? = some (.cells #[.pointer (some ⟨b, 0, none⟩)] 41 (0, 0)) := by
             rw [hgrow1.block w.heap.size (by simp; omega) (fun e => by have := (hown'.lt _ (by first | exact e | exact e.symm)).1; omega), Below.heap_alloc _ _ _ (by omega)]; exact hc
           have hB1 : w1.heap[b]? = some (.cells #[.int .i64 n, of] 43 (0, 0)) := by
             rw [hgrow1.block b (by simp; omega) (fun e => by have := (hown'.lt _ (by first | exact e | exact e.symm)).1; omega), Below.heap_alloc _ _ _ (by omega)]; exact hb0
           have hc1 : w1.cell? ⟨w.heap.size, 0, none⟩ = some (.pointer (some ⟨b, 0, none⟩)) := (by rw [blk_cell hT1]; rfl)
           have hn1 : w1.cell? ⟨b, 1, none⟩ = some of := (by rw [blk_cell hB1]; rfl)
           have hk1 := (hk'.alloc (by omega) (.cells #[.int .i64 n] 3)).grown hgrow1 (by simp; omega) (fun j hj => Nat.le_of_succ_le (hown'.lt j hj).1)
           have hz1 : w.heap.size + 1 ≤ w1.heap.size := blk_lt hT1
           have HT := Lib.hid hT1
           have HW := Lib.hid hown1
           clear hT1 hB1 hown1 hgrow1 hc0 hb0 hn0 hown' ho' hc))
      go_roundw
      case rel => exact ⟨p1 ++ [n], q, _, by show _ = _; rw [hp.out]; simp, HF.out, HT.out, by rw [← ints_snoc, List.length_append]; exact HW.out, hk1, hz1⟩
      case measure => exact Nat.lt_succ_of_le HR.out

theorem eq_same (a : Addr) (w : World) : (binOp .eql 25 (.iface 41 (.pointer (some a))) (.iface 41 (.pointer (some a)))).run Tryd.prog w = .ok (.bool true) w := by
  obtain ⟨i, hi, hc⟩ := Option.map_eq_some_iff.1 (show (Tryd.prog.info? 41).map (·.comparable) = some true by kernel_rfl)
  obtain ⟨j, hj, _⟩ := Option.map_eq_some_iff.1 (show (Tryd.prog.info? 43).map (·.size) = some 2 by kernel_rfl)
  exact run_eql_iface_ptr_same w a Tryd.underlying25 Tryd.underlying41 hi hc hj

theorem itself_nil (w : World) :
    Calls Tryd.prog 28 #[.nilIface] w fun ev w' => ev = .returned (.pointer none) ∧ Kept w w' := by
  have k : Kept w (w.alloc (.cells #[.pointer none] 41)) := (Kept.refl w).grow #[_]
  go_enter Tryd.func28, Tryd.ntmps28
  go_wp2_with (go_at_call 22; refine (As_nil _ _ _).mono ?_; rintro ev w' ⟨rfl, rfl⟩)
  go_ret
  exact ⟨rfl, k⟩
theorem itself_S (c : Int) (w : World) (hg : Eh w) :
    Calls Tryd.prog 28 #[.iface 48 (.int .i64 c)] w fun ev w' => ev = .returned (.pointer none) ∧ Kept w w' := by
  have k : Kept w (w.alloc (.cells #[.pointer none] 41)) := (Kept.refl w).grow #[_]
  have HA := Lib.hid (As_FS c w.heap.size (.pointer none) _ (hg.kept k) (blk_new w _))
  go_enter Tryd.func28, Tryd.ntmps28
  go_wp2_with (go_at_call 22; refine HA.out.mono ?_; rintro ev w' ⟨rfl, hk⟩)
  go_ret
  exact ⟨rfl, k.trans hk⟩
theorem itself_F (a : Addr) (w : World) (hg : Eh w) :
    Calls Tryd.prog 28 #[.iface 41 (.pointer (some a))] w fun ev w' => ev = .returned (.pointer (some a)) ∧ Kept w w' := by
  have k : Kept w (w.alloc (.cells #[.pointer none] 41)) := (Kept.refl w).grow #[_]
  have HA := Lib.hid (As_FF a w.heap.size (.pointer none) _ (hg.kept k) (blk_new w _))
  have hq := eq_same a
  go_enter Tryd.func28, Tryd.ntmps28
  go_wp2_with (go_at_call 22; refine HA.out.mono ?_; rintro ev w' ⟨rfl, ho, hc⟩; have hcell : w'.cell? ⟨w.heap.size, 0, none⟩ = some (.pointer (some a)) := (by rw [blk_cell hc]; rfl))
  go_ret
  exact ⟨rfl, ho.below k (Nat.le_refl _) (by simp)⟩

end Go.Proofs.YtjecoldapmoioaaDoor.Fa
