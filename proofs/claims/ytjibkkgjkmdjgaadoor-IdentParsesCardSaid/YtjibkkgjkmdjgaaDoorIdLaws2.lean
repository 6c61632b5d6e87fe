/- The law of layer 7: any text is the identity that the document says, or none's. -/
import Derived.Test.YtjibkkgjkmdjgaaDoorIdLaws
import Derived.Test.YtjibkkgjkmdjgaaDoorId9
namespace Go.Proofs.YtjibkkgjkmdjgaaDoor.Id
open Go.RowKit Go.Sort St IdM BsM Bs It At Rw
set_option linter.unusedVariables false

/-- what a text tells, under names -/
theorem parsed_named (l : List UInt8) : ∃ (x y z e : Int) (b : Bool), parsedV l = .agg #[.int .i64 x, .int .i64 y, .int .i64 z] ∧ parsedE l = e ∧ isT l = b ∧ ((b = true ∧ e = 0) ∨ (b = false ∧ e = 10)) := by
  cases h : isT l with
  | true => exact ⟨_, _, _, _, true, (parsed_yes h).1, (parsed_yes h).2, rfl, .inl ⟨rfl, rfl⟩⟩
  | false => exact ⟨_, _, _, _, false, (parsed_no h).1, (parsed_no h).2, rfl, .inr ⟨rfl, rfl⟩⟩

set_option maxRecDepth 100000 in
set_option maxHeartbeats 4000000 in
theorem parses_any (t : ByteArray) (W : World) (h : Env W) :
    Calls Tryd.prog 4 #[.string t] W fun e w' => e = .returned (.bool true) ∧ Below W.heap.size W w' := by
  have HE := Lib.hid h
  obtain ⟨T, hT, hTs⟩ : ∃ T : ByteArray, (60 < t.size → ∀ w, (Instr.slice 9 (.string t) none (some (.int .i64 60)) none).run Tryd.prog w = .ok (.string T) w) ∧ ((60 < t.size ∨ T = t) ∧ T.size ≤ 60) := by
    by_cases h60 : 60 < t.size
    · obtain ⟨E, F, hE, _, hEl, _⟩ := cut_two t 60 (by omega)
      refine ⟨E, fun _ => hE, .inl h60, ?_⟩
      rw [size_list, hEl.out, List.length_take]; omega
    · exact ⟨t, fun h => absurd h h60, .inr rfl, by omega⟩
  obtain ⟨x, y, z, e, b, e1, e2, e3, e4⟩ := parsed_named T.data.toList
  have hp : ∀ u, Kept W u → Calls Tryd.prog 24 #[.string T] u fun r v => r = .returned (.tuple #[.agg #[.int .i64 x, .int .i64 y, .int .i64 z], .int .i64 e]) ∧ Kept W v := fun u hu => by
    have := parse_any T (by omega) u (h.kept hu)
    rw [e1, e2] at this
    exact this.mono fun _ _ r => ⟨r.1, hu.trans r.2⟩
  have hq : ∀ u, Calls Tryd.prog 25 #[.string T] u fun r v => r = .returned (.tuple #[.agg #[.int .i64 x, .int .i64 y, .int .i64 z], .bool b]) ∧ Kept u v := fun u => by
    have := rparse_any T (by omega) u
    rw [e1, e3] at this
    exact this
  have HP := Lib.hid hp
  have HQ := Lib.hid hq
  have K0 : Kept W W := Kept.refl _
  clear hp hq e1 e2 e3 h
  rcases e4 with ⟨rfl, rfl⟩ | ⟨rfl, rfl⟩
  all_goals
    by_cases h60 : 60 < t.size
    · have hcut := hT h60
      clear hT hTs
      go_enter Tryd.func4, Tryd.ntmps4
      go_wp2_with (first
        | (go_at_call 24; refine (HP.out _ K0).mono ?_; rintro e u ⟨rfl, hk⟩
           have hd := blk_new u (.cells #[.int .i64 x, .int .i64 y, .int .i64 z] 23 (0, 0)))
        | (go_at_call 25; refine (HQ.out _).mono ?_; rintro e v ⟨rfl, hk2⟩
           have hd2 := kept_blk hk2 hd
           have k0 := blk_cell hd2 0; have k1 := blk_cell hd2 1; have k2 := blk_cell hd2 2
           have hlt := blk_lt hd2)
        | (go_at_call 23; refine (awake_k HE (Kept.more ((Kept.more hk _).trans hk2) _)).mono ?_; rintro e v3 ⟨rfl, hk3⟩))
      go_ret
      exact ⟨rfl, hk3⟩
    · obtain rfl : T = t := by rcases hTs.1 with h | h; exact absurd h h60; exact h
      clear hT hTs
      go_enter Tryd.func4, Tryd.ntmps4
      go_wp2_with (first
        | (go_at_call 24; refine (HP.out _ K0).mono ?_; rintro e u ⟨rfl, hk⟩
           have hd := blk_new u (.cells #[.int .i64 x, .int .i64 y, .int .i64 z] 23 (0, 0)))
        | (go_at_call 25; refine (HQ.out _).mono ?_; rintro e v ⟨rfl, hk2⟩
           have hd2 := kept_blk hk2 hd
           have k0 := blk_cell hd2 0; have k1 := blk_cell hd2 1; have k2 := blk_cell hd2 2
           have hlt := blk_lt hd2)
        | (go_at_call 23; refine (awake_k HE (Kept.more ((Kept.more hk _).trans hk2) _)).mono ?_; rintro e v3 ⟨rfl, hk3⟩))
      go_ret
      exact ⟨rfl, hk3⟩

end Go.Proofs.YtjibkkgjkmdjgaaDoor.Id
