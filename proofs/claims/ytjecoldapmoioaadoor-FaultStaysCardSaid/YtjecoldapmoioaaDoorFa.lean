/- Package fault: Wrap, New, Code, Is, Path. -/
import Derived.Test.YtjecoldapmoioaaDoorEr4
import Derived.Test.YtjecoldapmoioaaDoorCd
namespace Go.Proofs.YtjecoldapmoioaaDoor.Fa
open Go.RowKit Go.Sort St Cd Er
set_option linter.unusedVariables false

theorem wrap_nil (n : Int) (w : World) :
    Calls Tryd.prog 9 #[.nilIface, .int .i64 n] w fun ev w' => ev = .returned .nilIface ∧ w = w' := by
  go_enter Tryd.func9, Tryd.ntmps9
  go_wp2
  go_ret
  exact ⟨rfl, rfl⟩
theorem wrap_any (x : Option Int) (p : List Int) (ty : TypeId) (v : Value) (n : Int) (w : World) (he : Err w x p (.iface ty v)) :
    Calls Tryd.prog 9 #[.iface ty v, .int .i64 n] w fun ev w' => ∃ e', ev = .returned e' ∧ Err w' x (n :: p) e' ∧ Kept w w' := by
  have HE := Lib.hid he
  clear he
  go_enter Tryd.func9, Tryd.ntmps9
  go_wp2
  go_ret
  have k : Kept w (w.alloc (.cells #[.int .i64 n, .iface ty v] 43)) := (Kept.refl w).grow #[_]
  exact ⟨_, rfl, ⟨_, _, rfl, blk_new w _, HE.out.rank_lt, HE.out.kept k⟩, k⟩
theorem Err.is {W : World} {x : Option Int} {n : Int} {p : List Int} {e : Value} (h : Err W x (n :: p) e) : ∃ ty v, e = .iface ty v := ⟨_, _, h.choose_spec.choose_spec.1⟩

theorem new_nil (c n : Int) (h : Hid (clean c = 0)) (w : World) :
    Calls Tryd.prog 7 #[.int .i64 c, .int .i64 n] w fun ev w' => ev = .returned .nilIface ∧ w = w' := by
  have HC := Lib.hid (clean_any c)
  rw [h.out] at HC
  go_enter Tryd.func7, Tryd.ntmps7
  go_wp2_with (go_at_call 17; refine (HC.out _).mono ?_; rintro e w' ⟨rfl, rfl⟩)
  go_ret
  exact ⟨rfl, rfl⟩
theorem new_any (c n x : Int) (h : Hid (clean c = x)) (h0 : ¬ x = 0) (w : World) :
    Calls Tryd.prog 7 #[.int .i64 c, .int .i64 n] w fun ev w' => ∃ e', ev = .returned e' ∧ Err w' (some x) [n] e' ∧ Kept w w' := by
  have HC := Lib.hid (clean_any c)
  rw [h.out] at HC
  have HW := Lib.hid (wrap_any (some x) [] 48 (.int .i64 x) n w rfl)
  go_enter Tryd.func7, Tryd.ntmps7
  go_wp2_with (first | (go_at_call 17; refine (HC.out _).mono ?_; rintro e w' ⟨rfl, rfl⟩) | (go_at_call 9; refine HW.out.mono ?_; rintro e w' ⟨e', rfl, he', hk'⟩))
  all_goals (try go_ret)
  exact ⟨_, rfl, he', hk'⟩

theorem code_nil (w : World) :
    Calls Tryd.prog 11 #[.nilIface] w fun ev w' => ev = .returned (.int .i64 0) ∧ w = w' := by
  go_enter Tryd.func11, Tryd.ntmps11
  go_wp2
  go_ret
  exact ⟨rfl, rfl⟩
set_option maxHeartbeats 1000000 in
theorem code_C (c : Int) (p : List Int) (e : Value) (w : World) (hg : Eh w) (he : Err w (some c) p e) :
    Calls Tryd.prog 11 #[e] w fun ev w' => ev = .returned (.int .i64 c) ∧ Kept w w' := by
  have k : Kept w (w.alloc (.cells #[.int .i64 0] 48)) := (Kept.refl w).grow #[_]
  have HA := Lib.hid (As_SC c p e w.heap.size (.int .i64 0) _ (hg.kept k) (blk_new w _) (he.kept k))
  obtain ⟨ty, v, rfl⟩ := he.some_ne
  clear he
  go_enter Tryd.func11, Tryd.ntmps11
  go_wp2_with (go_at_call 22; refine HA.out.mono ?_; rintro ev w' ⟨rfl, ho, hc⟩; have hcell : w'.cell? ⟨w.heap.size, 0, none⟩ = some (.int .i64 c) := by (rw [blk_cell hc]; rfl))
  go_ret
  exact ⟨rfl, ho.below k (Nat.le_refl _) (by simp)⟩
set_option maxHeartbeats 1000000 in
theorem code_N (n : Int) (p : List Int) (e : Value) (w : World) (hg : Eh w) (he : Err w none (n :: p) e) :
    Calls Tryd.prog 11 #[e] w fun ev w' => ev = .returned (.int .i64 2) ∧ Kept w w' := by
  have k : Kept w (w.alloc (.cells #[.int .i64 0] 48)) := (Kept.refl w).grow #[_]
  have HA := Lib.hid (As_SN n p e w.heap.size (.int .i64 0) _ (hg.kept k) (blk_new w _) (he.kept k))
  obtain ⟨ty, v, rfl⟩ := Err.is he
  clear he
  go_enter Tryd.func11, Tryd.ntmps11
  go_wp2_with (go_at_call 22; refine HA.out.mono ?_; rintro ev w' ⟨rfl, ho⟩)
  go_ret
  exact ⟨rfl, k.trans ho⟩

theorem fis_nil (d : Int) (z : Bool) (hz : Hid (decide (d = 0) = z)) (w : World) :
    Calls Tryd.prog 16 #[.nilIface, .int .i64 d] w fun ev w' => ev = .returned (.bool z) ∧ w = w' := by
  have HI := Lib.hid (Is_nil d w)
  by_cases h : d = 0
  · obtain rfl : true = z := by rw [← hz.out, h]; rfl
    subst h
    go_enter Tryd.func16, Tryd.ntmps16
    go_wp2_with fail
    go_ret
    exact ⟨rfl, rfl⟩
  · obtain rfl : false = z := by rw [← hz.out]; simp [h]
    go_enter Tryd.func16, Tryd.ntmps16
    go_wp2_with (go_at_call 24; refine HI.out.mono ?_; rintro ev w' ⟨rfl, rfl⟩)
    go_ret
    exact ⟨rfl, rfl⟩
theorem fis_C (c d : Int) (hc : ¬ c = 0) (z : Bool) (hz : Hid (decide (c = d) = z)) (p : List Int) (e : Value) (w : World) (he : Err w (some c) p e) :
    Calls Tryd.prog 16 #[e, .int .i64 d] w fun ev w' => ev = .returned (.bool z) ∧ w = w' := by
  have HI := Lib.hid (Is_C c d z hz p e w he)
  obtain ⟨ty, v, rfl⟩ := he.some_ne
  by_cases h : d = 0
  · obtain rfl : false = z := by rw [← hz.out, h]; simp [hc]
    subst h
    clear hz he
    go_enter Tryd.func16, Tryd.ntmps16
    go_wp2_with fail
    go_ret
    exact ⟨rfl, rfl⟩
  · clear hz he
    go_enter Tryd.func16, Tryd.ntmps16
    go_wp2_with (go_at_call 24; refine HI.out.mono ?_; rintro ev w' ⟨rfl, rfl⟩)
    go_ret
    exact ⟨rfl, rfl⟩

/-- nodes, as cells -/
def ints (l : List Int) : List Value := l.map fun n => .int .i64 n
theorem ints_snoc (l : List Int) (n : Int) : ints l ++ [.int .i64 n] = ints (l ++ [n]) := by simp [ints]
theorem ints_at (l : List Int) (j : Nat) (h : j < l.length) : (ints l)[j]? = some (.int .i64 l[j]) := by simp [ints, h]
theorem info64 : (Tryd.prog.info? 3).map (fun i => (i.zero, i.size, i.bytes)) = some (some (.int .i64 0), 1, 8) := by kernel_rfl
theorem cell_one (w : World) (x : Value) (t : TypeId) : ∀ j u, ([x] : List Value)[j]? = some u → (w.alloc (.cells #[x] t)).cell? ((⟨w.heap.size, 0, none⟩ : Addr).add j) = some u := by
  intro j u h
  have e : (⟨w.heap.size, 0, none⟩ : Addr).add j = ⟨w.heap.size, j, none⟩ := by unfold Addr.add; split <;> simp_all
  rw [e, World.cell?_alloc_new]
  simpa using h

theorem path_nil (w : World) (hg : Eh w) :
    Calls Tryd.prog 13 #[.nilIface] w fun ev w' => ev = .returned (.slice none 0 0) ∧ Kept w w' := by
  have k : Kept w (w.alloc (.cells #[.pointer none] 41)) := (Kept.refl w).grow #[_]
  go_enter Tryd.func13, Tryd.ntmps13
  go_wp2_with fail
  refine wp_loop_rounds 1 ?_
  rw [rounds_succ]
  go_wp2_with (go_at_call 22; refine (As_nil _ _ _).mono ?_; rintro ev w' ⟨rfl, rfl⟩)
  go_ret
  exact ⟨rfl, k⟩

end Go.Proofs.YtjecoldapmoioaaDoor.Fa
