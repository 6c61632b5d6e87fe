/- The walks of the laws of layer 19. -/
import Derived.Test.YtijpdfcnbljhiaaTh2
import Derived.StillTailTactics
import Derived.Deep.RegionWith
namespace Go.Proofs.Ytijpdfcnbljhiaa.Th
open Go.RowKit St Go.Sort Args
set_option linter.unusedVariables false

/-- behind so many failures, in a block -/
theorem plays_made (t : Int) (n : Nat) (hn : n ≤ 1000000) {x : Int} (hx : max (tk t - n) 0 * 1000 = x) {A : Array Value} (hA : (bv (List.replicate n false)).toArray = A) (W : World) (b : Nat) (hb : W.heap[b]? = some (.cells A 4 (0, 0))) :
    Calls Try.prog 16 #[.int .i64 t, .slice (some ⟨b, 0, none⟩) n n] W fun e w' => e = .returned (.int .i64 x) ∧ W = w' := by
  have hR : RowB W (.slice (some ⟨b, 0, none⟩) n n) (List.replicate n false) := by
    refine ⟨by simp [bv], .inr ⟨b, n, A, by simp, Nat.zero_le _, hb, by simp, by unfold maxLen; omega, by rw [← hA]; simp [bv], ?_⟩⟩
    rw [← hA]; simp [bv]
  have := plays_any t _ n _ W (hR.cut (m := n) (by simp) (by rw [List.length_replicate]; unfold maxLen; omega)) hn
  rw [fails_all t n n (Nat.le_refl _), hx] at this
  exact this

theorem blk_old (u : World) (o p : Obj) : ((u.alloc o).alloc p).heap[u.heap.size]? = some o := by
  show ((u.heap.push o).push p)[u.heap.size]? = _
  simp [Array.getElem?_push]
theorem blk_snd (u : World) (o p : Obj) : ((u.alloc o).alloc p).heap[u.heap.size + 1]? = some p := by
  have := blk_new (u.alloc o) p
  rw [show (u.alloc o).heap.size = u.heap.size + 1 by show (u.heap.push o).size = _; simp] at this
  exact this

theorem new_d (u : World) (o : Obj) : (u.alloc o).drew.heap[u.heap.size]? = some o := blk_new u o
theorem old_d (u : World) (o p : Obj) : ((u.alloc o).alloc p).drew.heap[u.heap.size]? = some o := blk_old u o p
theorem snd_d (u : World) (o p : Obj) : ((u.alloc o).alloc p).drew.heap[u.heap.size + 1]? = some p := blk_snd u o p

set_option maxHeartbeats 1000000 in
theorem awake_any (w : World) : Calls Try.prog 15 #[] w fun e w' => e = .returned (.bool true) ∧ Kept w w' := by
  obtain ⟨A4, h4⟩ : ∃ A, (bv (List.replicate 4 false)).toArray = A := ⟨_, rfl⟩
  obtain ⟨A5, h5⟩ : ∃ A, (bv (List.replicate 5 false)).toArray = A := ⟨_, rfl⟩
  have M4 : ∀ w : World, (Instr.makeSlice 28 (.int .i64 4) (.int .i64 4)).run Try.prog w = .ok (.slice (some ⟨w.heap.size, 0, none⟩) 4 4) (w.alloc (.cells A4 4)) := fun w => h4 ▸ make_bools 4 (by omega) w
  have M5 : ∀ w : World, (Instr.makeSlice 28 (.int .i64 5) (.int .i64 5)).run Try.prog w = .ok (.slice (some ⟨w.heap.size, 0, none⟩) 5 5) (w.alloc (.cells A5 4)) := fun w => h5 ▸ make_bools 5 (by omega) w
  have C4 := Lib.hid (plays_made 10 4 (by omega) (x := 6000) (by decide +kernel) h4)
  have C5 := Lib.hid (plays_made 10 5 (by omega) (x := 5000) (by decide +kernel) h5)
  have C1 := Lib.hid (show ∀ u, Calls Try.prog 13 #[.int .i64 6000, .int .i64 10] u fun e w' => e = .returned (.bool true) ∧ u = w' from fun u => by have := may_any 6000 10 u; rw [show may 6000 10 = true by decide +kernel] at this; exact this)
  have C2 := Lib.hid (show ∀ u, Calls Try.prog 13 #[.int .i64 5000, .int .i64 10] u fun e w' => e = .returned (.bool false) ∧ u = w' from fun u => by have := may_any 5000 10 u; rw [show may 5000 10 = false by decide +kernel] at this; exact this)
  have C3 := Lib.hid (show ∀ u, Calls Try.prog 11 #[.int .i64 5000, .int .i64 10] u fun e w' => e = .returned (.int .i64 5100) ∧ u = w' from fun u => by have := good_any 5000 10 u; rw [show good 5000 10 = 5100 by decide +kernel] at this; exact this)
  have C6 := Lib.hid (show ∀ u, Calls Try.prog 13 #[.int .i64 5100, .int .i64 10] u fun e w' => e = .returned (.bool true) ∧ u = w' from fun u => by have := may_any 5100 10 u; rw [show may 5100 10 = true by decide +kernel] at this; exact this)
  have C7 := Lib.hid (show ∀ u, Calls Try.prog 7 #[.int .i64 10] u fun e w' => e = .returned (.int .i64 10000) ∧ u = w' from fun u => by have := full_any 10 u; rw [show full 10 = 10000 by decide +kernel] at this; exact this)
  clear h4 h5
  go_enter Try.func15, Try.ntmps15
  go_wp2_with fail
  go_region_with (first
    | (go_at_call 16; with_reducible refine (C4.out _ _ ?_).mono ?_; (first | exact new_d _ _ | exact old_d _ _ _ | exact snd_d _ _ _); rintro e w' ⟨rfl, rfl⟩)
    | (go_at_call 16; with_reducible refine (C5.out _ _ ?_).mono ?_; (first | exact new_d _ _ | exact old_d _ _ _ | exact snd_d _ _ _); rintro e w' ⟨rfl, rfl⟩))
  all_goals
    clear M4 M5 C4 C5
    go_wp2_with (first
      | (go_at_call 13; with_reducible refine (C1.out _).mono ?_; rintro e w' ⟨rfl, rfl⟩)
      | (go_at_call 13; with_reducible refine (C2.out _).mono ?_; rintro e w' ⟨rfl, rfl⟩)
      | (go_at_call 13; with_reducible refine (C6.out _).mono ?_; rintro e w' ⟨rfl, rfl⟩)
      | (go_at_call 11; with_reducible refine (C3.out _).mono ?_; rintro e w' ⟨rfl, rfl⟩)
      | (go_at_call 7; with_reducible refine (C7.out _).mono ?_; rintro e w' ⟨rfl, rfl⟩))
    go_ret
    exact ⟨rfl, (((Kept.refl w).more _).more _).drew⟩

end Go.Proofs.Ytijpdfcnbljhiaa.Th
