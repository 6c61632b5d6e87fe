/- Contracts of package wheel: New. -/
import Derived.Test.YtckmkagijanbdaaWh7
import Derived.Carry
namespace Go.Proofs.Ytckmkagijanbdaa.Wh
open Go.RowKit Tk Sl
open St (Kept)

theorem zero_size : Try.zeroCells95.size = 261 := by kernel_rfl
theorem zero_2 : Try.zeroCells95[2]? = some (.int .i64 0) := by kernel_rfl
theorem zero_lists : Try.zeroCells95.toList.drop 4 = List.replicate 257 (.slice none 0 0) := by kernel_rfl
theorem zero_list {i : Nat} (h : i < 257) : Try.zeroCells95[4 + i]? = some (.slice none 0 0) := by
  rw [← Array.getElem?_toList, ← List.getElem?_drop, zero_lists, List.getElem?_replicate, if_pos h]

section
variable {w : World}
/-- what New does -/
def news (w : World) (now : Int) : Ending → World → Prop := fun e w' =>
  ∃ S B, e = .returned (.pointer (some ⟨B, 0, none⟩)) ∧ Whl w' S B now 0 [] ∧ (∀ k, S k → w.heap.size ≤ k) ∧ Kept w w'

/-- a new wheel's cells -/
def fresh (Z : Array Value) (now : Int) (M B : Nat) : Array Value :=
  ((Z.setIfInBounds 1 (.int .i64 now)).setIfInBounds 3 (.map (some M))).setIfInBounds 0 (.pointer (some ⟨B, 0, none⟩))
theorem new_is (now : Int) (h0 : 0 ≤ now) (h1 : now ≤ 1125899906842624) : news w now (.returned (.pointer (some ⟨w.heap.size + 1, 0, none⟩))) ((w.alloc (.map #[] 0)).alloc (.cells (fresh Try.zeroCells95 now w.heap.size (w.heap.size + 1)) 95)) := by
  have hsz := zero_size
  have hs1 : (w.alloc (.map #[] 0)).heap.size = w.heap.size + 1 := by simp
  have hblk : ((w.alloc (.map #[] 0)).alloc (.cells (fresh Try.zeroCells95 now w.heap.size (w.heap.size + 1)) 95)).heap[w.heap.size + 1]? = some (.cells (fresh Try.zeroCells95 now w.heap.size (w.heap.size + 1)) 95 (0, 0)) := by
    have := St.blk_new (w.alloc (.map #[] 0)) (.cells (fresh Try.zeroCells95 now w.heap.size (w.heap.size + 1)) 95)
    rw [hs1] at this; exact this
  have hmap := (MapIs.made w).kept (w' := (w.alloc (.map #[] 0)).alloc (.cells (fresh Try.zeroCells95 now w.heap.size (w.heap.size + 1)) 95)) (Below.heap_alloc _ _ _ (by omega))
  refine ⟨fun k => k = w.heap.size ∨ k = w.heap.size + 1, w.heap.size + 1, rfl, ⟨w.heap.size, fun _ => .slice none 0 0, fun _ => [], fun _ => none, ⟨⟨_, hblk, ?_, ?_, ?_, ?_, ?_, fun i hi => ?_⟩, hmap, fun i _ => World.ownsRow_nil _ _ _ _, Or.inr rfl, Or.inl rfl, fun i _ g e => by simp [Value.ownBlock] at e, fun i j _ _ g e => by simp [Value.ownBlock] at e, fun k c => ?_⟩, ?_, ent_none (fun _ => rfl), by omega, by omega, by simp⟩, fun k c => by omega, (Kept.one w _).more _⟩
  · unfold fresh; simp [hsz]
  · unfold fresh; rw [Array.getElem?_setIfInBounds_self_of_lt (by simp [hsz])]
  · unfold fresh; rw [Array.getElem?_setIfInBounds_ne (by omega), Array.getElem?_setIfInBounds_ne (by omega), Array.getElem?_setIfInBounds_self_of_lt (by rw [hsz]; omega)]
  · unfold fresh; rw [Array.getElem?_setIfInBounds_ne (by omega), Array.getElem?_setIfInBounds_ne (by omega), Array.getElem?_setIfInBounds_ne (by omega)]; exact zero_2
  · unfold fresh; rw [Array.getElem?_setIfInBounds_ne (by omega), Array.getElem?_setIfInBounds_self_of_lt (by simp [hsz])]
  · unfold fresh; rw [Array.getElem?_setIfInBounds_ne (by omega), Array.getElem?_setIfInBounds_ne (by omega), Array.getElem?_setIfInBounds_ne (by omega)]; exact zero_list hi
  · show k < ((w.heap.push _).push _).size; simp; omega
  · exact ⟨h0, h1, fun _ _ c => absurd c (by simp), fun _ _ c => absurd c (by simp), fun _ _ _ _ c => absurd c (by simp)⟩

set_option maxHeartbeats 400000 in
set_option maxRecDepth 100000 in
theorem new_any (a : Int) : Calls Try.prog 24 #[.int .i64 a] w (news w (clamp a)) := by
  have hmm := @run_makeMap Try.prog
  have FIN := Lib.hid (new_is (w := w) (clamp a) (clamp_lo a) (clamp_hi a))
  go_enter Try.func24, Try.ntmps24
  go_wp2_with (first | (go_at_call 35; refine (clamp_any _ _).mono ?_; rintro e w' ⟨rfl, rfl⟩))
  go_ret
  exact FIN.out
end

end Go.Proofs.Ytckmkagijanbdaa.Wh
