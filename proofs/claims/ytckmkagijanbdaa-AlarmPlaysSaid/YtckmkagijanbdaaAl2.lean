/- Contracts of package alarm: made, Grain, Len, Time, forget, Clear. -/
import Derived.Test.YtckmkagijanbdaaAl
import Derived.Deep.QuietTactic
import Derived.BigQuiet
import Derived.LaidEqlPtr
namespace Go.Proofs.Ytckmkagijanbdaa.Al
open Go.RowKit Go.Sort Tk Wh IdM
open St (Kept blk_cell blk_free blk_lt blk_set)
set_option linter.unusedVariables false

theorem zero_al (w : World) : (zeroValue 81).run Try.prog w = .ok (iv (List.replicate 2 0)) w := by kernel_rfl
theorem zero_nm (w : World) : (zeroValue 42).run Try.prog w = .ok (iv (List.replicate 5 0)) w := by kernel_rfl
theorem eq_self (a : Addr) (w : World) : (binOp .eql 23 (.pointer (some a)) (.pointer (some a))).run Try.prog w = .ok (.bool true) w := by
  obtain ⟨j, hj, _⟩ := Option.map_eq_some_iff.1 (show (Try.prog.info? 63).map (·.size) = some 5 by kernel_rfl)
  exact run_eql_ptr_same w a Try.underlying23 hj

section
variable {w w' : World} {S Sw : Nat → Prop} {B Bw MA MN : Nat} {g now last : Int} {L : List (Int × Int)} {TA : Nm → Option (Int × Int)} {na : Nat} {TN : Int → Option Nm} {nn : Nat}

set_option maxHeartbeats 400000 in
theorem amade_any (h : AIs w S Sw B Bw MA MN g now last L TA na TN nn) : Calls Try.prog 30 #[.pointer (some ⟨B, 0, none⟩)] w fun e w' => e = .returned (.bool true) ∧ w = w' := by
  have c0 := h.c0
  have he := eq_self ⟨B, 0, none⟩ w
  clear h
  go_enter Try.func30, Try.ntmps30
  go_wp2
  go_ret
  exact ⟨rfl, rfl⟩
set_option maxHeartbeats 400000 in
theorem amade_nil (w : World) : Calls Try.prog 30 #[.pointer none] w fun e w' => e = .returned (.bool false) ∧ w = w' := by
  go_enter Try.func30, Try.ntmps30
  go_wp2
  go_ret
  exact ⟨rfl, rfl⟩
theorem eq_none (b : Nat) (w : World) : (binOp .eql 23 (.pointer none) (.pointer (some ⟨b, 0, none⟩))).run Try.prog w = .ok (.bool false) w := by kernel_rfl
set_option maxHeartbeats 400000 in
theorem amade_zero {w : World} {b : Nat} (hc : w.cell? ⟨b, 0, none⟩ = some (.pointer none)) : Calls Try.prog 30 #[.pointer (some ⟨b, 0, none⟩)] w fun e w' => e = .returned (.bool false) ∧ w = w' := by
  have he := eq_none b w
  go_enter Try.func30, Try.ntmps30
  go_wp2
  go_ret
  exact ⟨rfl, rfl⟩

set_option maxHeartbeats 400000 in
theorem grain_is (h : AIs w S Sw B Bw MA MN g now last L TA na TN nn) : Calls Try.prog 13 #[.pointer (some ⟨B, 0, none⟩)] w fun e w' => e = .returned (.int .i64 g) ∧ w = w' := by
  have c1 := h.c1
  have C := Lib.hid (amade_any h)
  clear h
  go_enter Try.func13, Try.ntmps13
  go_wp2_with (go_at_call 30; refine C.out.mono ?_; rintro e w' ⟨rfl, rfl⟩)
  go_ret
  exact ⟨rfl, rfl⟩
set_option maxHeartbeats 400000 in
theorem len_is (h : AIs w S Sw B Bw MA MN g now last L TA na TN nn) : Calls Try.prog 11 #[.pointer (some ⟨B, 0, none⟩)] w fun e w' => e = .returned (.int .i64 (na : Int)) ∧ w = w' := by
  have c3 := h.c3
  have C := Lib.hid (amade_any h)
  have hl := fun ty => h.ma.len Try.underlying60 ty
  clear h
  go_enter Try.func11, Try.ntmps11
  go_wp2_with (go_at_call 30; refine C.out.mono ?_; rintro e w' ⟨rfl, rfl⟩)
  go_ret
  exact ⟨rfl, rfl⟩

/-- what the map tells of a name -/
theorem tA_two (TA : Nm → Option (Int × Int)) (x : Nm) : ∃ c h : Int, iv ((tA TA x).getD (List.replicate 2 0)) = .agg #[.int .i64 c, .int .i64 h] ∧ c = ((TA x).map Prod.fst).getD 0 := by
  unfold tA
  cases TA x with
  | none => exact ⟨0, 0, rfl, rfl⟩
  | some p => exact ⟨p.1, p.2, rfl, rfl⟩

set_option maxHeartbeats 800000 in
set_option maxRecDepth 100000 in
theorem time_is (h : AIs w S Sw B Bw MA MN g now last L TA na TN nn) {n i s a k : Int} (hx : okN ⟨n, i, s, a, k⟩) :
    Calls Try.prog 20 #[.pointer (some ⟨B, 0, none⟩), .agg #[.int .i64 n, .int .i64 i, .int .i64 s, .int .i64 a, .int .i64 k]] w fun e w' =>
      e = .returned (.tuple #[.int .i64 (((TA ⟨n, i, s, a, k⟩).map Prod.fst).getD 0), .bool (TA ⟨n, i, s, a, k⟩).isSome]) ∧ Kept w w' := by
  obtain ⟨W, hW⟩ : ∃ W, w.alloc (.cells #[.int .i64 n, .int .i64 i, .int .i64 s, .int .i64 a, .int .i64 k] 42) = W := ⟨_, rfl⟩
  have k1 : Kept w W := by rw [← hW]; exact Kept.one _ _
  have h1 := h.kept k1
  have C := Lib.hid (amade_any h1)
  have c3 := h1.c3
  obtain ⟨c, hh, hv, hc⟩ := tA_two TA ⟨n, i, s, a, k⟩
  have hl : ∀ W', W'.heap[MA]? = W.heap[MA]? → (Instr.lookup 60 (.map (some MA)) (.agg #[.int .i64 n, .int .i64 i, .int .i64 s, .int .i64 a, .int .i64 k]) true).run Try.prog W' = .ok (.tuple #[.agg #[.int .i64 c, .int .i64 hh], .bool (TA ⟨n, i, s, a, k⟩).isSome]) W' := fun W' hk => by
    have := (h1.ma.kept hk).look_ok Try.underlying60 (zero_al W') (x := ⟨n, i, s, a, k⟩) hx
    rw [hv, tA_some] at this
    exact this
  obtain ⟨p, hp⟩ : ∃ p, (TA ⟨n, i, s, a, k⟩).isSome = p := ⟨_, rfl⟩
  rw [hp] at hl ⊢
  have hl1 := hl W rfl
  have hl2 := hl W.drew rfl
  have hl3 := hl (W.alloc (.cells #[.int .i64 0, .int .i64 0] 81)).drew (Below.heap_alloc _ _ _ h1.ma.lt)
  have hlt : w.heap.size < W.heap.size := by rw [← hW]; simp
  have hB := h1.ltB
  have b0 : ∀ o, W.cell? ⟨w.heap.size, o, none⟩ = (#[.int .i64 n, .int .i64 i, .int .i64 s, .int .i64 a, .int .i64 k] : Array Value)[o]? := fun o => by rw [← hW]; exact blk_cell (St.blk_new _ _) o
  have x0 := b0 0
  have x1 := b0 1
  have x2 := b0 2
  have x3 := b0 3
  have x4 := b0 4
  simp at x0 x1 x2 x3 x4
  have HW := Lib.hid hW
  have HC := Lib.hid hc
  have HK := Lib.hid k1
  clear h h1 hl hv hc hp b0 k1 hW hx
  go_enter Try.func20, Try.ntmps20
  go_wp2_with fail
  rw [HW.out]
  go_wp2_with (go_at_call 30; refine C.out.mono ?_; rintro e w' ⟨rfl, rfl⟩)
  go_region
  all_goals
    go_wp2_with fail
    go_ret2
    exact ⟨ret_pair (by rw [HC.out]; rfl) rfl, by first | exact HK.out.drew.more _ | exact (HK.out.more _).drew⟩

set_option maxHeartbeats 800000 in
set_option maxRecDepth 100000 in
theorem forget_is (h : AIs w S Sw B Bw MA MN g now last L TA na TN nn) {n i s a k hd : Int} (hx : okN ⟨n, i, s, a, k⟩) (hh : inR hd) (hTA : (TA ⟨n, i, s, a, k⟩).isSome = true) (hTN : (TN hd).isSome = true) :
    Calls Try.prog 37 #[.pointer (some ⟨B, 0, none⟩), .agg #[.int .i64 n, .int .i64 i, .int .i64 s, .int .i64 a, .int .i64 k], .int .i64 hd] w fun e w' =>
      e = .returned (.tuple #[]) ∧ Adid w S B Bw MA MN g now last L (upd TA ⟨n, i, s, a, k⟩ none) (na - 1) (upd TN hd none) (nn - 1) w' := by
  obtain ⟨W, hW⟩ : ∃ W, w.alloc (.cells #[.int .i64 n, .int .i64 i, .int .i64 s, .int .i64 a, .int .i64 k] 42) = W := ⟨_, rfl⟩
  have k1 : Kept w W := by rw [← hW]; exact Kept.one _ _
  have h1 := h.kept k1
  have c3 := h1.c3
  have hB := h1.ltB
  have hlt : w.heap.size < W.heap.size := by rw [← hW]; simp
  have b0 : ∀ o, W.cell? ⟨w.heap.size, o, none⟩ = (#[.int .i64 n, .int .i64 i, .int .i64 s, .int .i64 a, .int .i64 k] : Array Value)[o]? := fun o => by rw [← hW]; exact blk_cell (St.blk_new _ _) o
  have x0 := b0 0
  have x1 := b0 1
  have x2 := b0 2
  have x3 := b0 3
  have x4 := b0 4
  simp at x0 x1 x2 x3 x4
  obtain ⟨w1, r1, m1, t1⟩ := (h1.ma.kept (w' := W.drew) rfl).drop Try.underlying60 (x := ⟨n, i, s, a, k⟩) hx 0
  have h2 := (h1.kept (Kept.refl _).drew).setA (TA' := upd TA ⟨n, i, s, a, k⟩ none) t1 (by rw [tA_none]; exact m1)
  rw [tA_some, if_pos hTA] at h2
  have f1 : Fr S w w1 := ((Fr.kept (k1.drew)).turned t1 (Or.inl h.sA))
  obtain ⟨w2, r2, m2, t2⟩ := (h2.mn.kept (w' := w1) rfl).drop Try.underlying61 (x := hd) hh 0
  obtain ⟨w3, r3, m3, t3⟩ := (h2.mn.kept (w' := w1.drew) rfl).drop Try.underlying61 (x := hd) hh 0
  have h3 := h2.setN (TN' := upd TN hd none) t2 (by rw [tN_none]; exact m2)
  have h4 := (h2.kept (Kept.refl _).drew).setN (TN' := upd TN hd none) t3 (by rw [tN_none]; exact m3)
  rw [tN_some, if_pos hTN] at h3 h4
  have q1 := h2.c4
  replace r1 : (Builtin.delete_ #[60, 42] 0 #[.map (some MA), .agg #[.int .i64 n, .int .i64 i, .int .i64 s, .int .i64 a, .int .i64 k]]).run Try.prog W.drew = .ok (.tuple #[]) w1 := r1
  replace r2 : (Builtin.delete_ #[61, 3] 0 #[.map (some MN), .int .i64 hd]).run Try.prog w1 = .ok (.tuple #[]) w2 := r2
  replace r3 : (Builtin.delete_ #[61, 3] 0 #[.map (some MN), .int .i64 hd]).run Try.prog w1.drew = .ok (.tuple #[]) w3 := r3
  have F2 := Lib.hid (show Adid w S B Bw MA MN g now last L _ _ _ _ w2 from ⟨S, Sw, h3, fun k c => Or.inl c, f1.turned t2 (Or.inl h.sN)⟩)
  have F3 := Lib.hid (show Adid w S B Bw MA MN g now last L _ _ _ _ w3 from ⟨S, Sw, h4, fun k c => Or.inl c, f1.drew.turned t3 (Or.inl h.sN)⟩)
  have HW := Lib.hid hW
  clear h h1 h2 h3 h4 m1 m2 m3 t1 t2 t3 f1 k1 b0 hW hx hh hTA hTN
  go_enter Try.func37, Try.ntmps37
  go_wp2_with fail
  rw [HW.out]
  go_region
  all_goals
    go_wp2_with fail
    go_end0
    exact ⟨rfl, by first | exact F2.out | exact F3.out⟩
end

end Go.Proofs.Ytckmkagijanbdaa.Al
