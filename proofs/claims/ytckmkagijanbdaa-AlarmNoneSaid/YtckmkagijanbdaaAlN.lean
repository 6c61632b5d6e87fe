/- Nil alarms, and such as New did not make: what their methods answer; the law that they have none walked. -/
import Derived.Test.YtckmkagijanbdaaAl8
import Derived.Test.YtckmkagijanbdaaArgN
import Derived.Deep.QuietTactic
import Derived.BigQuiet
import Derived.Deep.RegionHeld3
namespace Go.Proofs.Ytckmkagijanbdaa.Al
open Go.RowKit Go.Sort Tk Wh IdM
open St (Kept blk_cell blk_free blk_lt blk_set)
set_option linter.unusedVariables false

/-- v is nil alarms, or such as New did not make -/
def NotA (v : Value) (w : World) : Prop := v = .pointer none ∨ ∃ b, v = .pointer (some ⟨b, 0, none⟩) ∧ w.cell? ⟨b, 0, none⟩ = some (.pointer none)
theorem NotA.kept {v : Value} {w w' : World} (h : NotA v w) (hk : Kept w w') : NotA v w' := by
  rcases h with h | ⟨b, h1, h2⟩
  · exact Or.inl h
  · exact Or.inr ⟨b, h1, by rw [hk.cell (p := ⟨b, 0, none⟩) (World.block_lt_of_cell? w _ h2)]; exact h2⟩
theorem made_not {v : Value} {w : World} (h : NotA v w) : Calls Try.prog 30 #[v] w fun e w' => e = .returned (.bool false) ∧ w = w' := by
  rcases h with rfl | ⟨b, rfl, h2⟩
  · exact amade_nil w
  · exact amade_zero h2

section
variable {v : Value} {w : World} {n i s a k t : Int}
set_option maxHeartbeats 400000 in
theorem nset (h : NotA v w) : Calls Try.prog 16 #[v, .agg #[.int .i64 n, .int .i64 i, .int .i64 s, .int .i64 a, .int .i64 k], .int .i64 t] w fun e w' => e = .returned (.int .i64 1) ∧ Kept w w' := by
  have C := Lib.hid (made_not (h.kept (Kept.one w (.cells #[.int .i64 n, .int .i64 i, .int .i64 s, .int .i64 a, .int .i64 k] 42))))
  clear h
  go_enter Try.func16, Try.ntmps16
  go_wp2_with (go_at_call 30; refine C.out.mono ?_; rintro e w' ⟨rfl, rfl⟩)
  go_ret
  exact ⟨rfl, Kept.one _ _⟩
set_option maxHeartbeats 400000 in
theorem nclear (h : NotA v w) : Calls Try.prog 23 #[v, .agg #[.int .i64 n, .int .i64 i, .int .i64 s, .int .i64 a, .int .i64 k]] w fun e w' => e = .returned (.bool false) ∧ Kept w w' := by
  have C := Lib.hid (made_not (h.kept (Kept.one w (.cells #[.int .i64 n, .int .i64 i, .int .i64 s, .int .i64 a, .int .i64 k] 42))))
  clear h
  go_enter Try.func23, Try.ntmps23
  go_wp2_with (go_at_call 30; refine C.out.mono ?_; rintro e w' ⟨rfl, rfl⟩)
  go_ret
  exact ⟨rfl, Kept.one _ _⟩
set_option maxHeartbeats 400000 in
theorem ntime (h : NotA v w) : Calls Try.prog 20 #[v, .agg #[.int .i64 n, .int .i64 i, .int .i64 s, .int .i64 a, .int .i64 k]] w fun e w' => e = .returned (.tuple #[.int .i64 0, .bool false]) ∧ Kept w w' := by
  have C := Lib.hid (made_not (h.kept (Kept.one w (.cells #[.int .i64 n, .int .i64 i, .int .i64 s, .int .i64 a, .int .i64 k] 42))))
  clear h
  go_enter Try.func20, Try.ntmps20
  go_wp2_with (go_at_call 30; refine C.out.mono ?_; rintro e w' ⟨rfl, rfl⟩)
  go_ret2
  exact ⟨rfl, Kept.one _ _⟩
set_option maxHeartbeats 400000 in
theorem ndue (h : NotA v w) : Calls Try.prog 17 #[v, .int .i64 t] w fun e w' => e = .returned (.slice none 0 0) ∧ w = w' := by
  have C := Lib.hid (made_not h)
  clear h
  go_enter Try.func17, Try.ntmps17
  go_wp2_with (go_at_call 30; refine C.out.mono ?_; rintro e w' ⟨rfl, rfl⟩)
  go_ret
  exact ⟨rfl, rfl⟩
set_option maxHeartbeats 400000 in
theorem nall (h : NotA v w) : Calls Try.prog 12 #[v] w fun e w' => e = .returned (.slice none 0 0) ∧ w = w' := by
  have C := Lib.hid (made_not h)
  clear h
  go_enter Try.func12, Try.ntmps12
  go_wp2_with (go_at_call 30; refine C.out.mono ?_; rintro e w' ⟨rfl, rfl⟩)
  go_ret
  exact ⟨rfl, rfl⟩
set_option maxHeartbeats 400000 in
theorem nlen (h : NotA v w) : Calls Try.prog 11 #[v] w fun e w' => e = .returned (.int .i64 0) ∧ w = w' := by
  have C := Lib.hid (made_not h)
  clear h
  go_enter Try.func11, Try.ntmps11
  go_wp2_with (go_at_call 30; refine C.out.mono ?_; rintro e w' ⟨rfl, rfl⟩)
  go_ret
  exact ⟨rfl, rfl⟩
set_option maxHeartbeats 400000 in
theorem ngrain (h : NotA v w) : Calls Try.prog 13 #[v] w fun e w' => e = .returned (.int .i64 0) ∧ w = w' := by
  have C := Lib.hid (made_not h)
  clear h
  go_enter Try.func13, Try.ntmps13
  go_wp2_with (go_at_call 30; refine C.out.mono ?_; rintro e w' ⟨rfl, rfl⟩)
  go_ret
  exact ⟨rfl, rfl⟩
end

/-- WHERE THE LAW STANDS: the name's block, the list's, and alarms that are none -/
structure Nn (W : World) (nb lb : Nat) (j : Nat) (n i s a k : Int) (v : Value) (u : World) : Prop where
  kept : Kept W u
  not : NotA v u
  x0 : u.cell? ⟨nb, 0, none⟩ = some (.int .i64 n)
  x1 : u.cell? ⟨nb, 1, none⟩ = some (.int .i64 i)
  x2 : u.cell? ⟨nb, 2, none⟩ = some (.int .i64 s)
  x3 : u.cell? ⟨nb, 3, none⟩ = some (.int .i64 a)
  x4 : u.cell? ⟨nb, 4, none⟩ = some (.int .i64 k)
  l : u.cell? ⟨lb, j, none⟩ = some v
section
variable {W u u' : World} {nb lb j : Nat} {n i s a k : Int} {v : Value}
theorem cell_go {b o : Nat} {z : Value} (hk : Kept u u') (h : u.cell? ⟨b, o, none⟩ = some z) : u'.cell? ⟨b, o, none⟩ = some z := by
  rw [hk.cell (p := ⟨b, o, none⟩) (World.block_lt_of_cell? u _ h)]; exact h
theorem Nn.go (h : Nn W nb lb j n i s a k v u) (hk : Kept u u') : Nn W nb lb j n i s a k v u' :=
  ⟨h.kept.trans hk, h.not.kept hk, cell_go hk h.x0, cell_go hk h.x1, cell_go hk h.x2, cell_go hk h.x3, cell_go hk h.x4, cell_go hk h.l⟩
def NnS (nb lb j : Nat) (n i s a k : Int) (v : Value) (u : World) : Prop := u.cell? ⟨nb, 0, none⟩ = some (.int .i64 n) ∧ u.cell? ⟨nb, 1, none⟩ = some (.int .i64 i) ∧ u.cell? ⟨nb, 2, none⟩ = some (.int .i64 s) ∧ u.cell? ⟨nb, 3, none⟩ = some (.int .i64 a) ∧ u.cell? ⟨nb, 4, none⟩ = some (.int .i64 k) ∧ u.cell? ⟨lb, j, none⟩ = some v
theorem Nn.cells (h : Nn W nb lb j n i s a k v u) : NnS nb lb j n i s a k v u := ⟨h.x0, h.x1, h.x2, h.x3, h.x4, h.l⟩
end

set_option maxHeartbeats 3200000 in
set_option maxRecDepth 100000 in
theorem anone_any (n i s a k t : Int) (w : World) :
    Calls Try.prog 6 #[.agg #[.int .i64 n, .int .i64 i, .int .i64 s, .int .i64 a, .int .i64 k], .int .i64 t] w fun e w' => e = .returned (.bool true) ∧ Kept w w' := by
  obtain ⟨W, hW⟩ : ∃ W, ((w.alloc (.cells #[.int .i64 n, .int .i64 i, .int .i64 s, .int .i64 a, .int .i64 k] 33)).alloc (.cells #[.pointer none, .int .i64 0, .pointer none, .map none, .map none] 63)).alloc (.cells #[.pointer none, .pointer (some ⟨w.heap.size + 1, 0, none⟩)] 23) = W := ⟨_, rfl⟩
  have hkW : Kept w W := by rw [← hW]; exact ((Kept.one w _).more _).more _
  have bn : W.heap[w.heap.size]? = some (.cells #[.int .i64 n, .int .i64 i, .int .i64 s, .int .i64 a, .int .i64 k] 33 (0, 0)) := by
    rw [← hW, Below.heap_alloc _ _ _ (by simp; omega), Below.heap_alloc _ _ _ (by simp)]; exact St.blk_new _ _
  have ba : W.heap[w.heap.size + 1]? = some (.cells #[.pointer none, .int .i64 0, .pointer none, .map none, .map none] 63 (0, 0)) := by
    rw [← hW, Below.heap_alloc _ _ _ (by simp)]
    have := St.blk_new (w.alloc (.cells #[.int .i64 n, .int .i64 i, .int .i64 s, .int .i64 a, .int .i64 k] 33)) (.cells #[.pointer none, .int .i64 0, .pointer none, .map none, .map none] 63)
    simpa using this
  have bl : W.heap[w.heap.size + 1 + 1]? = some (.cells #[.pointer none, .pointer (some ⟨w.heap.size + 1, 0, none⟩)] 23 (0, 0)) := by
    rw [← hW]
    have := St.blk_new ((w.alloc (.cells #[.int .i64 n, .int .i64 i, .int .i64 s, .int .i64 a, .int .i64 k] 33)).alloc (.cells #[.pointer none, .int .i64 0, .pointer none, .map none, .map none] 63)) (.cells #[.pointer none, .pointer (some ⟨w.heap.size + 1, 0, none⟩)] 23)
    simpa using this
  obtain ⟨nb, hnb⟩ : ∃ b, w.heap.size = b := ⟨_, rfl⟩
  obtain ⟨lb, hlb⟩ : ∃ b, w.heap.size + 1 + 1 = b := ⟨_, rfl⟩
  have HN0 : ∀ j : Nat, j < 2 → ∃ v, Nn W nb lb j n i s a k v W := fun j hj => by
    have c0 : W.cell? ⟨nb, 0, none⟩ = some (.int .i64 n) := by rw [← hnb, blk_cell bn]; rfl
    have c1 : W.cell? ⟨nb, 1, none⟩ = some (.int .i64 i) := by rw [← hnb, blk_cell bn]; rfl
    have c2 : W.cell? ⟨nb, 2, none⟩ = some (.int .i64 s) := by rw [← hnb, blk_cell bn]; rfl
    have c3 : W.cell? ⟨nb, 3, none⟩ = some (.int .i64 a) := by rw [← hnb, blk_cell bn]; rfl
    have c4 : W.cell? ⟨nb, 4, none⟩ = some (.int .i64 k) := by rw [← hnb, blk_cell bn]; rfl
    rcases (by omega : j = 0 ∨ j = 1) with rfl | rfl
    · exact ⟨.pointer none, Kept.refl _, Or.inl rfl, c0, c1, c2, c3, c4, by rw [← hlb, blk_cell bl]; rfl⟩
    · exact ⟨.pointer (some ⟨w.heap.size + 1, 0, none⟩), Kept.refl _, Or.inr ⟨_, rfl, by rw [blk_cell ba]; rfl⟩, c0, c1, c2, c3, c4, by rw [← hlb, blk_cell bl]; rfl⟩
  have HN := Lib.hid HN0
  have HW := Lib.hid hW
  have HB := Lib.hid hnb
  have HL := Lib.hid hlb
  have HK := Lib.hid hkW
  clear bn ba bl hW hnb hlb hkW HN0
  go_enter Try.func6, Try.ntmps6
  go_wp2_with fail
  rw [HW.out, HL.out, HB.out]
  go_loopw [7] (fun q wr => ∃ j : Nat, j ≤ 2 ∧ q = .int .i64 (j : Int) ∧ Kept W wr) (fun q _ => 2 - (intOf q).toNat)
  case atStart => exact ⟨0, by omega, rfl, Kept.refl _⟩
  case round =>
    obtain ⟨j, hj, rfl, hk⟩ := hrel
    by_cases hlt : j < 2
    · obtain ⟨v, hv⟩ := HN.out j hlt
      have HA := hv.go hk
      have hi0 : (0 : Int) ≤ (j : Int) := by omega
      have hi1 : (j : Int) < 2 := by omega
      have HD := HA.go (Kept.refl _).drew
      have HK2 := Lib.hid hk
      clear hv hk
      go_wp2_with fail
      go_region_held3 (fun w' => w'.cell? ⟨nb, 0, none⟩ = some (.int .i64 n) ∧ w'.cell? ⟨nb, 1, none⟩ = some (.int .i64 i) ∧ w'.cell? ⟨nb, 2, none⟩ = some (.int .i64 s) ∧ w'.cell? ⟨nb, 3, none⟩ = some (.int .i64 a) ∧ w'.cell? ⟨nb, 4, none⟩ = some (.int .i64 k) ∧ w'.cell? ⟨lb, j, none⟩ = some v)
        (first | exact Nn.cells (by assumption) | exact (Nn.go (by assumption) (Kept.one _ _)).cells)
        (first | (go_at_call 14; refine (mine_any n i s a k _).mono ?_; rintro e u ⟨rfl, hk⟩; have HE := HD.go hk)
               | (go_at_call 20; refine (ntime (Nn.not (by assumption))).mono ?_; rintro e u ⟨rfl, hk⟩; have HF := HE.go hk))
      have HG := HF.go (Kept.refl _).drew
      clear HA HD HE
      go_wp2_with fail
      go_region_held3 (fun w' => w'.cell? ⟨nb, 0, none⟩ = some (.int .i64 n) ∧ w'.cell? ⟨nb, 1, none⟩ = some (.int .i64 i) ∧ w'.cell? ⟨nb, 2, none⟩ = some (.int .i64 s) ∧ w'.cell? ⟨nb, 3, none⟩ = some (.int .i64 a) ∧ w'.cell? ⟨nb, 4, none⟩ = some (.int .i64 k) ∧ w'.cell? ⟨lb, j, none⟩ = some v)
        (first | exact Nn.cells (by assumption) | exact (Nn.go (by assumption) (Kept.one _ _)).cells)
        (first | (go_at_call 14; refine (mine_any n i s a k _).mono ?_; rintro e u ⟨rfl, hk⟩; have HE := Nn.go (by assumption) hk)
               | (go_at_call 16; refine (nset (Nn.not (by assumption))).mono ?_; rintro e u ⟨rfl, hk⟩; have HE := Nn.go (by assumption) hk)
               | (go_at_call 23; refine (nclear (Nn.not (by assumption))).mono ?_; rintro e u ⟨rfl, hk⟩; have HE := Nn.go (by assumption) hk)
               | (go_at_call 17; refine (ndue (Nn.not (by assumption))).mono ?_; rintro e u ⟨rfl, rfl⟩)
               | (go_at_call 12; refine (nall (Nn.not (by assumption))).mono ?_; rintro e u ⟨rfl, rfl⟩)
               | (go_at_call 11; refine (nlen (Nn.not (by assumption))).mono ?_; rintro e u ⟨rfl, rfl⟩)
               | (go_at_call 13; refine (ngrain (Nn.not (by assumption))).mono ?_; rintro e u ⟨rfl, rfl⟩))
      go_wp2_with fail
      go_roundw
      case rel => exact ⟨j + 1, hlt, by go_num, Nn.kept (by assumption)⟩
      case measure => simp [intOf]; omega
    · have hj2 : j = 2 := by omega
      subst hj2
      go_wp2_with fail
      refine (awake_any _).mono ?_
      rintro e w7 ⟨rfl, k7⟩
      go_wp2_with fail
      go_ret
      exact ⟨rfl, (HK.out.trans hk).trans k7⟩

end Go.Proofs.Ytckmkagijanbdaa.Al
