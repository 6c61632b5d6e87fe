/- Contracts of package seen: Mark, New, and what a nil one answers. -/
import Derived.Test.YthnjfkikepohcaaSe
namespace Go.Proofs.Ythnjfkikepohcaa.Se
open Go.RowKit Go.Sort Tk IdM Go.Maps
open St (Kept blk_cell blk_free blk_lt blk_set)
open Wh (Fr Mine)
set_option linter.unusedVariables false

section
variable {w w' : World} {B M : Nat} {s : Its} {n i q a : Int}
/-- what Mark does -/
def marked (w : World) (B M : Nat) (s : Its) (k : Ke) (u t : Int) : Ending → World → Prop := fun e w' => e = .returned (.bool (markE k u t s)) ∧ Seen w' B M (markS k u t s) ∧ Fr (SB B M) w w'

set_option maxHeartbeats 1600000 in
set_option maxRecDepth 100000 in
theorem mark_any (h : Seen w B M s) (hx : okK ⟨n, i, q, a⟩) (u t : Int) :
    Calls Try.prog 8 #[.pointer (some ⟨B, 0, none⟩), .agg #[.int .i64 n, .int .i64 i, .int .i64 q, .int .i64 a], .int .i64 u, .int .i64 t] w (marked w B M s ⟨n, i, q, a⟩ u t) := by
  obtain ⟨W, hW⟩ : ∃ W, w.alloc (.cells #[.int .i64 n, .int .i64 i, .int .i64 q, .int .i64 a] 32) = W := ⟨_, rfl⟩
  have k1 : Kept w W := by rw [← hW]; exact Kept.one _ _
  have h1 := h.kept k1
  have hb0 : W.heap[w.heap.size]? = some (.cells #[.int .i64 n, .int .i64 i, .int .i64 q, .int .i64 a] 32 (0, 0)) := by rw [← hW]; exact St.blk_new _ _
  have hnb : ¬ SB B M w.heap.size := fun c => by have := h.lt _ c; omega
  have C := Lib.hid (made_any h1)
  obtain ⟨uu, hu⟩ : ∃ x, clamp u = x := ⟨_, rfl⟩
  obtain ⟨tt, ht⟩ : ∃ x, clamp t = x := ⟨_, rfl⟩
  have CU := Lib.hid (fun w => by have := clamp_any u w; rw [hu] at this; exact this)
  have CT := Lib.hid (fun w => by have := clamp_any t w; rw [ht] at this; exact this)
  have F := Lib.hid (forget_any h1 tt)
  have hu64 : I64 uu := by have := clamp_lo u; have := clamp_hi u; unfold I64; omega
  obtain ⟨l, hl⟩ : ∃ l, live tt s = l := ⟨_, rfl⟩
  obtain ⟨p, hp⟩ : ∃ p, hasK ⟨n, i, q, a⟩ l = p := ⟨_, rfl⟩
  have hlen : l.length ≤ 512 := by have := live_len tt s; rw [hl] at this; have := h.rt.len; omega
  have FIN : ∀ w', Fr (SB B M) W w' → Fr (SB B M) w w' := fun w' f => (Fr.kept (S := SB B M) k1).trans f (fun k c => .inl c)
  have FIN := Lib.hid FIN
  have ME : markE ⟨n, i, q, a⟩ u t s = (!p && (decide (tt < uu) && decide (l.length < 512))) := by unfold markE; rw [hu, ht, hl, hp]
  have MS : markS ⟨n, i, q, a⟩ u t s = if (!p && (decide (tt < uu) && decide (l.length < 512))) then l ++ [(⟨n, i, q, a⟩, uu)] else l := by unfold markS; rw [ME, hu, ht, hl]
  have RT := h.rt.mark hx u t
  have HM := Lib.hid (And.intro ME (And.intro MS RT))
  have HW := Lib.hid hW
  have HX := Lib.hid hx
  have HP := Lib.hid hp
  have HBX := Lib.hid (And.intro hb0 hnb)
  rw [hl] at F
  clear h h1 hW hx ME MS RT k1 hb0 hnb hu ht hl hp
  go_enter Try.func8, Try.ntmps8
  go_wp2_with fail
  rw [HW.out]
  go_wp2_with (first
    | (go_at_call 15; refine C.out.mono ?_; rintro e w' ⟨rfl, rfl⟩)
    | (go_at_call 16; refine (CU.out _).mono ?_; rintro e w' ⟨rfl, rfl⟩)
    | (go_at_call 16; refine (CT.out _).mono ?_; rintro e w' ⟨rfl, rfl⟩))
  refine F.out.mono ?_
  rintro e w1 ⟨rfl, hs1, f1⟩
  have hb1 := (f1.block _ (blk_lt HBX.out.1) HBX.out.2).trans HBX.out.1
  have y0 : w1.cell? ⟨w.heap.size, 0, none⟩ = some (.int .i64 n) := by rw [blk_cell hb1]; rfl
  have y1 : w1.cell? ⟨w.heap.size, 1, none⟩ = some (.int .i64 i) := by rw [blk_cell hb1]; rfl
  have y2 : w1.cell? ⟨w.heap.size, 2, none⟩ = some (.int .i64 q) := by rw [blk_cell hb1]; rfl
  have y3 : w1.cell? ⟨w.heap.size, 3, none⟩ = some (.int .i64 a) := by rw [blk_cell hb1]; rfl
  have CH := has_any hs1 HX.out
  rw [HP.out] at CH
  have CH := Lib.hid CH
  have HB1 := Lib.hid hb1
  have HS1 := Lib.hid hs1
  have HF1 := Lib.hid (FIN.out _ f1)
  clear hs1 f1 hb1 C CU CT F
  have END0 : ∀ w', Kept w1 w' → markE ⟨n, i, q, a⟩ u t s = false → marked w B M s ⟨n, i, q, a⟩ u t (.returned (.bool false)) w' := fun w' hk he => by
    refine ⟨by rw [he], ?_, HF1.out.then_kept hk⟩
    have e := HM.out.2.1
    rw [← HM.out.1, he] at e
    rw [e]; exact HS1.out.kept hk
  have END0 := Lib.hid END0
  cases p
  · by_cases hut : uu ≤ tt
    · have he := Lib.hid (show markE ⟨n, i, q, a⟩ u t s = false by rw [HM.out.1]; simp; intro c; omega)
      go_wp2_with (go_at_call 10; refine CH.out.mono ?_; rintro e w2 ⟨rfl, hk2⟩)
      go_ret
      exact END0.out _ hk2 he.out
    · by_cases hfull : 512 ≤ l.length
      · have he := Lib.hid (show markE ⟨n, i, q, a⟩ u t s = false by rw [HM.out.1]; simp; intro c; omega)
        have hfi : (512 : Int) ≤ (l.length : Int) := by omega
        go_wp2_with (go_at_call 10; refine CH.out.mono ?_; rintro e w2 ⟨rfl, hk2⟩; have c2 := (HS1.out.kept hk2).c1; have hl2 := fun ty => (HS1.out.kept hk2).map.len Try.underlying44 ty)
        go_ret
        exact END0.out _ hk2 he.out
      · have he := Lib.hid (show markE ⟨n, i, q, a⟩ u t s = true by rw [HM.out.1]; simp; omega)
        have hfi : ¬ (512 : Int) ≤ (l.length : Int) := by omega
        go_wp2_with (go_at_call 10; refine CH.out.mono ?_; rintro e w2 ⟨rfl, hk2⟩; have c2 := (HS1.out.kept hk2).c1; have hl2 := fun ty => (HS1.out.kept hk2).map.len Try.underlying44 ty)
        have hb2 := (hk2.block _ (blk_lt HB1.out)).trans HB1.out
        have z0 : w2.cell? ⟨w.heap.size, 0, none⟩ = some (.int .i64 n) := by rw [blk_cell hb2]; rfl
        have z1 : w2.cell? ⟨w.heap.size, 1, none⟩ = some (.int .i64 i) := by rw [blk_cell hb2]; rfl
        have z2 : w2.cell? ⟨w.heap.size, 2, none⟩ = some (.int .i64 q) := by rw [blk_cell hb2]; rfl
        have z3 : w2.cell? ⟨w.heap.size, 3, none⟩ = some (.int .i64 a) := by rw [blk_cell hb2]; rfl
        have hs2 := HS1.out.kept hk2
        have hs3 : Seen w2.drew B M l := hs2.kept (Kept.refl _).drew
        obtain ⟨w4, r4, m4, t4⟩ := hs3.map.store Try.underlying44 (by omega) HX.out HP.out hu64
        unfold kv at r4
        simp only at r4
        have e := HM.out.2.1
        rw [← HM.out.1, he.out, if_pos rfl] at e
        have HD := Lib.hid (show marked w B M s ⟨n, i, q, a⟩ u t (.returned (.bool true)) w4 from
          ⟨by rw [he.out], hs3.turn ((Fr.refl _ _).turned t4 (.inl rfl)) (by rw [e]; exact m4) HM.out.2.2,
            ((HF1.out.then_kept hk2).drew).turned t4 (.inl (.inr rfl))⟩)
        clear hb2 hs2 hs3 m4 t4 e hk2 y0 y1 y2 y3
        go_region
        all_goals
          go_wp2_with fail
          go_ret
          exact HD.out
  · have he := Lib.hid (show markE ⟨n, i, q, a⟩ u t s = false by rw [HM.out.1]; rfl)
    go_wp2_with (go_at_call 10; refine CH.out.mono ?_; rintro e w2 ⟨rfl, hk2⟩)
    go_ret
    exact END0.out _ hk2 he.out

set_option maxHeartbeats 400000 in
set_option maxRecDepth 100000 in
theorem mark_nil (w : World) (n i q a u t : Int) :
    Calls Try.prog 8 #[.pointer none, .agg #[.int .i64 n, .int .i64 i, .int .i64 q, .int .i64 a], .int .i64 u, .int .i64 t] w fun e w' => e = .returned (.bool false) ∧ Kept w w' := by
  have C := Lib.hid (fun w => made_nil w)
  go_enter Try.func8, Try.ntmps8
  go_wp2_with (go_at_call 15; refine (C.out _).mono ?_; rintro e w' ⟨rfl, rfl⟩)
  go_ret
  exact ⟨rfl, Kept.one _ _⟩

/-- what New makes -/
def news (w : World) : Ending → World → Prop := fun e w' => ∃ B M, e = .returned (.pointer (some ⟨B, 0, none⟩)) ∧ Seen w' B M [] ∧ (∀ k, SB B M k → w.heap.size ≤ k) ∧ Kept w w'
set_option maxHeartbeats 400000 in
set_option maxRecDepth 100000 in
theorem new_any (w : World) : Calls Try.prog 7 #[] w (news w) := by
  have hmm := @run_makeMap Try.prog
  go_enter Try.func7, Try.ntmps7
  go_wp2_with fail
  go_ret
  have hz : (w.alloc (.map #[] 0)).heap.size = w.heap.size + 1 := by simp
  have hb := St.blk_new (w.alloc (.map #[] 0)) (.cells #[.pointer (some ⟨w.heap.size + 1, 0, none⟩), .map (some w.heap.size)] 46)
  rw [hz] at hb
  exact ⟨_, w.heap.size, rfl, ⟨hb, (Holds.made w).kept (Below.heap_alloc _ _ _ (by rw [hz]; omega)), right_nil⟩, fun k c => by rcases c with c | c <;> omega, (Kept.one _ _).more _⟩
end

end Go.Proofs.Ythnjfkikepohcaa.Se
