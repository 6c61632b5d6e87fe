/- The document's bag: Hurt. -/
import Derived.Test.YtglgkgpmfeamnaaBr
import Derived.Test.YtglgkgpmfeamnaaBg5
namespace Go.Proofs.Ytglgkgpmfeamnaa.Bg
open Go.RowKit Go.Sort Rv
open St (Kept blk_cell blk_free blk_lt blk_set cellsOf)
open Wh (Fr Mine)
set_option linter.unusedVariables false

section
variable {w : World} {B : Nat} {v : Value} {s : Sta}
set_option maxHeartbeats 800000 in
theorem rhurt_out (h : Bag RB RT w B v s) {k : Int} (hk : ¬ has s k) (a b : Int) : Calls Try.prog 20 #[PB B, .int .i64 k, .int .i64 a, .int .i64 b] w fun e w' => e = .returned (.int .i64 7) ∧ Kept w w' := by
  obtain ⟨e1, e2⟩ := look_no hk
  have CL : Calls Try.prog 21 #[PB B, .int .i64 k] w fun e w' => e = .returned (.tuple #[agg z, .int .i64 7]) ∧ Kept w w' := by
    have := rlook_any h k
    unfold looks at this; rw [e1, e2] at this; exact this
  have CL := Lib.hid CL
  clear h hk e1 e2
  unfold agg enc z at CL
  go_enter Try.func20, Try.ntmps20
  go_wp2_with (go_at_call 21; refine CL.out.mono ?_; rintro e w1 ⟨rfl, hk1⟩; have HK1 := Lib.hid hk1; clear hk1)
  go_ret
  exact ⟨rfl, HK1.out.more _⟩
set_option maxHeartbeats 800000 in
theorem rhurt_again (h : Bag RB RT w B v s) {i : Nat} {fr to : Int} {t : ByteArray} (hf : s.L[i]? = some ⟨fr, to, t, true⟩) (a b : Int) : Calls Try.prog 20 #[PB B, .int .i64 (i : Int), .int .i64 a, .int .i64 b] w fun e w' => e = .returned (.int .i64 8) ∧ Kept w w' := by
  obtain ⟨_, _, e1, e2⟩ := look_yes hf
  have CL : Calls Try.prog 21 #[PB B, .int .i64 (i : Int)] w fun e w' => e = .returned (.tuple #[agg ⟨fr, to, t, true⟩, .int .i64 0]) ∧ Kept w w' := by
    have := rlook_any h (i : Int)
    unfold looks at this; rw [e1, e2] at this; exact this
  have CL := Lib.hid CL
  clear h hf e1 e2
  unfold agg enc at CL
  go_enter Try.func20, Try.ntmps20
  go_wp2_with (go_at_call 21; refine CL.out.mono ?_; rintro e w1 ⟨rfl, hk1⟩; have HK1 := Lib.hid hk1; clear hk1)
  go_ret
  exact ⟨rfl, HK1.out.more _⟩
set_option maxHeartbeats 1600000 in
theorem rhurt_wrong (h : Bag RB RT w B v s) {i : Nat} {fr to : Int} {t : ByteArray} (hf : s.L[i]? = some ⟨fr, to, t, false⟩) {a b : Int} (hm : ¬ may a b ⟨fr, to, t, false⟩) : Calls Try.prog 20 #[PB B, .int .i64 (i : Int), .int .i64 a, .int .i64 b] w fun e w' => e = .returned (.int .i64 2) ∧ Kept w w' := by
  obtain ⟨_, _, e1, e2⟩ := look_yes hf
  have CL : Calls Try.prog 21 #[PB B, .int .i64 (i : Int)] w fun e w' => e = .returned (.tuple #[agg ⟨fr, to, t, false⟩, .int .i64 0]) ∧ Kept w w' := by
    have := rlook_any h (i : Int)
    unfold looks at this; rw [e1, e2] at this; exact this
  have CL := Lib.hid CL
  have hm' := may_not hm
  clear h hf e1 e2 hm
  unfold agg enc at CL
  rcases hm' with h0 | ⟨h0, h1⟩ | ⟨h0, h1, h2⟩ | ⟨h0, h1, h2, h3⟩
  · go_enter Try.func20, Try.ntmps20
    go_wp2_with (go_at_call 21; refine CL.out.mono ?_; rintro e w1 ⟨rfl, hk1⟩; have HK1 := Lib.hid hk1; clear hk1)
    go_ret
    exact ⟨rfl, HK1.out.more _⟩
  · have hd : decide ((t.size : Int) ≤ a) = true := decide_eq_true h1
    clear h1
    go_enter Try.func20, Try.ntmps20
    go_wp2_with (go_at_call 21; refine CL.out.mono ?_; rintro e w1 ⟨rfl, hk1⟩; have HK1 := Lib.hid hk1; clear hk1)
    go_ret
    exact ⟨rfl, HK1.out.more _⟩
  · have hd : decide ((t.size : Int) ≤ a) = false := decide_eq_false (by show ¬ (t.size : Int) ≤ a; have : a < (t.size : Int) := h1; omega)
    clear h1
    go_enter Try.func20, Try.ntmps20
    go_wp2_with (go_at_call 21; refine CL.out.mono ?_; rintro e w1 ⟨rfl, hk1⟩; have HK1 := Lib.hid hk1; clear hk1)
    go_ret
    exact ⟨rfl, HK1.out.more _⟩
  · have hd : decide ((t.size : Int) ≤ a) = false := decide_eq_false (by show ¬ (t.size : Int) ≤ a; have : a < (t.size : Int) := h1; omega)
    clear h1
    go_enter Try.func20, Try.ntmps20
    go_wp2_with (go_at_call 21; refine CL.out.mono ?_; rintro e w1 ⟨rfl, hk1⟩; have HK1 := Lib.hid hk1; clear hk1)
    go_ret
    exact ⟨rfl, HK1.out.more _⟩
/-- a slice in another block -/
theorem Bag.renewed {bt et : TypeId} {w W : World} {B : Nat} {v v2 : Value} {s s' : Sta} {r : Value} {e : Ending} (h : Bag bt et w B v s) (hk : Kept w W) (hr : RowV W v2 et 4 enc s'.L) (hn : ∀ g, v2.ownBlock = some g → w.heap.size ≤ g) (hl : s'.L.length ≤ 256) (hs : s'.lost = s.lost) (he : e = .returned r) : Turns bt et w B v s' r e (W.setCell ⟨B, 0, none⟩ v2) := by
  have hB := blk_lt h.blk
  have hb2 := (h.kept hk).blk
  refine ⟨he, v2, ⟨by have := blk_set hb2 0 v2; rw [hs]; exact this, hr.kept fun g c => Below.heap_setCell _ _ _ _ (show g ≠ B by have := hn g c; omega), fun g c => by have := hn g c; omega, hl⟩, (Fr.kept hk).setCell (.inl (.inl rfl)) _, fun k c => ?_⟩
  rcases c with c | c
  · exact .inl (.inl c)
  · exact .inr (hn k c)
theorem renew_facts {W3 w5 : World} {b9 g2 m cap2 : Nat} {fr to : Int} {t S' : ByteArray} (h : Bag RB RT w B v s) (hk : Kept w W3) (bx : Box W3 b9 RT ⟨fr, to, t, false⟩) (h9 : w.heap.size ≤ b9) (h10 : b9 < W3.heap.size)
    (hg : ((W3.setCell ⟨b9, 2, none⟩ (.string S')).setCell ⟨b9, 3, none⟩ (.bool true)).grownBy w5 (Value.slice none 0 0).ownBlock) {v2 : Value} (hb : v2.ownBlock = (Value.slice none 0 0).ownBlock ∨ ∃ g, v2.ownBlock = some g ∧ ((W3.setCell ⟨b9, 2, none⟩ (.string S')).setCell ⟨b9, 3, none⟩ (.bool true)).heap.size ≤ g) (hv : v2 = .slice (some ⟨g2, 0, none⟩) m cap2) :
    Kept w w5 ∧ Box w5 b9 RT ⟨fr, to, S', true⟩ ∧ W3.heap.size ≤ g2 := by
  subst hv
  have e : (Value.slice none 0 0).ownBlock = none := rfl
  rw [e] at hg
  have k4 : Kept w ((W3.setCell ⟨b9, 2, none⟩ (.string S')).setCell ⟨b9, 3, none⟩ (.bool true)) := kept_set (kept_set hk h9 _ _) h9 _ _
  have b4 : Box ((W3.setCell ⟨b9, 2, none⟩ (.string S')).setCell ⟨b9, 3, none⟩ (.bool true)) b9 RT ⟨fr, to, S', true⟩ := ⟨blk_set (blk_set bx.blk 2 (.string S')) 3 (.bool true)⟩
  have hg' : Kept ((W3.setCell ⟨b9, 2, none⟩ (.string S')).setCell ⟨b9, 3, none⟩ (.bool true)) w5 := ⟨hg.os, hg.tape, hg.output, hg.size, fun k hk => hg.block k hk (by simp)⟩
  refine ⟨k4.trans hg', b4.kept hg', ?_⟩
  rcases hb with c | ⟨g, c, d⟩
  · simp [Value.ownBlock] at c
  · simp [Value.ownBlock] at c
    subst c
    simpa [World.setCell] using d
set_option maxHeartbeats 1600000 in
theorem rhurt_done (h : Bag RB RT w B v s) {i : Nat} {fr to : Int} {t : ByteArray} (ht : t.size ≤ 5000) (hf : s.L[i]? = some ⟨fr, to, t, false⟩) {j : Nat} {x : UInt8} (hj : j < t.size) (hx : 1 ≤ x.toNat) :
    Calls Try.prog 20 #[PB B, .int .i64 (i : Int), .int .i64 (j : Int), .int .i64 (x.toNat : Int)] w (Turns RB RT w B v ⟨s.L.set i ⟨fr, to, ⟨(Cg.chg t.data.toList j x).toArray⟩, true⟩, s.lost⟩ (.int .i64 0)) := by
  have hi := (List.getElem?_eq_some_iff.1 hf).1
  obtain ⟨_, _, e1, e2⟩ := look_yes hf
  have CL : Calls Try.prog 21 #[PB B, .int .i64 (i : Int)] w fun e w' => e = .returned (.tuple #[agg ⟨fr, to, t, false⟩, .int .i64 0]) ∧ Kept w w' := by
    have := rlook_any h (i : Int)
    unfold looks at this; rw [e1, e2] at this; exact this
  have CL := Lib.hid CL
  have hB := blk_lt h.blk
  have hx1 := x.toNat_lt
  have hd : decide ((t.size : Int) ≤ (j : Int)) = false := by simpa using hj
  have hj' : (j : Int) < (t.size : Int) := by omega
  have hx2 : (1 : Int) ≤ (x.toNat : Int) := by omega
  have hx3 : (x.toNat : Int) ≤ 255 := by omega
  obtain ⟨S', hS'⟩ : ∃ S' : ByteArray, (⟨(Cg.chg t.data.toList j x).toArray⟩ : ByteArray) = S' := ⟨_, rfl⟩
  have CC := fun W => Cg.changed_any t ht j x W
  obtain ⟨y, hy⟩ : ∃ y : Int, (x.toNat : Int) = y := ⟨_, rfl⟩
  rw [hS'] at CC ⊢
  rw [hy] at hx2 hx3 CC ⊢
  have CC := Lib.hid CC
  have hwy : IntKind.u8.wrap y = y := by rw [IntKind.wrap_u8]; omega
  have H := Lib.hid h
  have HI := Lib.hid hi
  have HLen := Lib.hid h.len
  clear h hf e1 e2 hy hx hx1 hj hS' ht
  unfold agg enc at CL
  go_enter Try.func20, Try.ntmps20
  go_wp2_with (first | (go_at_call 21; refine CL.out.mono ?_; rintro e w1 ⟨rfl, hk1⟩; have hw1 := hk1.size; have HK1 := Lib.hid hk1; have BX := Lib.hid (Box.new w1 RT ⟨fr, to, t, false⟩); clear hk1) | (go_at_call 23; refine (CC.out _).mono ?_; rintro e w3 ⟨rfl, hk3⟩; have hw3 := hk3.size; simp at hw3; have bx := BX.out.kept hk3; have hK3 : Kept w w3 := (HK1.out.more _).trans hk3; have hb := H.out.kept hK3; have c0 := hb.c0; have fB := blk_free hb.blk 0; obtain ⟨x0, x1, x2, x3, xf, xl⟩ := bx.cells; have xf2 := xf 2; have xf3 := xf 3; have hB3 : B < w3.heap.size := (by omega); have HK3 := Lib.hid hK3; have BX3 := Lib.hid bx; clear hK3 hk3 bx hb xf) | (at_builtin; refine wpList_append_rowsv encR _ rfl _ _ rfl (.slice none 0 0) v [] s.L rfl rfl (rowv_nil _ _ _ _) (H.out.kept (kept_set (kept_set HK3.out (by omega) 2 (.string S')) (by omega) 3 (.bool true))).row (by have := HLen.out; simp; omega) ?_; intro v2 w5 r1 r2 r3; rw [List.nil_append] at r1; obtain ⟨g2, cap2, _, rfl, _⟩ := r1.full (fun c => by have := HI.out; rw [c] at this; simp at this); have HP := Lib.hid (renew_facts H.out HK3.out BX3.out (by omega) (by omega) r2 r3 rfl); have HR5 := Lib.hid r1; obtain ⟨k5, bx5, hg2⟩ := HP.out; obtain ⟨z0, z1, z2, z3, _, _⟩ := bx5.cells; have hi' : (i : Int) < (s.L.length : Int) := (by have := HI.out; omega); clear r1 r2 r3 k5 bx5 x0 x1 x2 x3 xf2 xf3 c0 fB) | (refine wpList_store_elem encR rfl _ _ rfl g2 i cap2 ⟨fr, to, S', true⟩ _ rfl rfl rfl HI.out HR5.out ?_; intro w6 hr6 hf6; have hK6 : Kept w w6 := ((Fr.kept (S := fun j => j = g2) HP.out.1).trans hf6 (fun j c => .inl c)).keeps (fun j c => by have := HP.out.2.2; have := HK3.out.size; omega); have hb6 := H.out.kept hK6; have c6 := hb6.c0; have f6 := blk_free hb6.blk 0; have HK6 := Lib.hid hK6; have HR6 := Lib.hid hr6; clear hK6 hr6 hf6 hb6 z0 z1 z2 z3))
  go_ret
  exact Bag.renewed (s' := ⟨s.L.set i ⟨fr, to, S', true⟩, s.lost⟩) H.out HK6.out HR6.out (fun g c => by have := HP.out.2.2; have := HK3.out.size; simp [Value.ownBlock] at c; omega) (by show (s.L.set i _).length ≤ 256; rw [List.length_set]; exact HLen.out) rfl rfl
theorem rhurt_any (h : Bag RB RT w B v s) (hsz : ∀ f ∈ s.L, f.s.size ≤ 5000) (k a b : Int) :
    Calls Try.prog 20 #[PB B, .int .i64 k, .int .i64 a, .int .i64 b] w (Turns RB RT w B v (hurtS s k a b) (.int .i64 (hurtE s k a b))) := by
  by_cases hk : has s k
  · obtain ⟨i, ⟨fr, to, t, hb⟩, rfl, hf, hi⟩ := has_at hk
    cases hb with
    | true =>
      obtain ⟨e1, e2⟩ := hurt_twice (a := a) (b := b) hf rfl
      rw [e1, e2]
      exact (rhurt_again h hf a b).mono fun _ _ ⟨he, hk⟩ => Turns.none h hk he
    | false =>
      by_cases hm : may a b ⟨fr, to, t, false⟩
      · obtain ⟨e1, e2⟩ := hurt_yes hf rfl hm
        rw [e1, e2]
        obtain ⟨m0, m1, m2, m3⟩ := hm
        obtain ⟨x, rfl, hx⟩ := u8_of m2 m3
        obtain ⟨j, rfl⟩ : ∃ j : Nat, (j : Int) = a := ⟨a.toNat, by omega⟩
        rw [spoilt_eq]
        exact rhurt_done h (hsz _ (List.mem_of_getElem? hf)) hf (by have : (j : Int) < (t.size : Int) := m1; omega) (by omega)
      · obtain ⟨e1, e2⟩ := hurt_arg hf rfl hm
        rw [e1, e2]
        exact (rhurt_wrong h hf hm).mono fun _ _ ⟨he, hk⟩ => Turns.none h hk he
  · obtain ⟨e1, e2⟩ := hurt_no (a := a) (b := b) hk
    rw [e1, e2]
    exact (rhurt_out h hk a b).mono fun _ _ ⟨he, hk⟩ => Turns.none h hk he
end

end Go.Proofs.Ytglgkgpmfeamnaa.Bg
