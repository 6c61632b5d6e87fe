/- Spoiling a flight: the program's Hurt. -/
import Derived.Test.YtglgkgpmfeamnaaBg4
import Derived.Lib.ConvBytes
namespace Go.Proofs.Ytglgkgpmfeamnaa.Bg
open Go.RowKit Go.Sort Rv
open St (Kept blk_cell blk_free blk_lt blk_set cellsOf)
open Wh (Fr Mine)
set_option linter.unusedVariables false

theorem hurt_no {s : Sta} {k a b : Int} (h : ¬ has s k) : hurtE s k a b = 7 ∧ hurtS s k a b = s := ⟨if_neg h, if_neg (fun c => h c.1)⟩
section
variable {s : Sta} {i : Nat} {f : Fl} {a b : Int}
theorem hurt_twice (h : s.L[i]? = some f) (hh : f.h = true) : hurtE s (i : Int) a b = 8 ∧ hurtS s (i : Int) a b = s := by
  obtain ⟨h1, h2, h3, h4⟩ := look_yes h
  exact ⟨by unfold hurtE; rw [if_pos h1, h2, if_pos hh], by unfold hurtS; rw [if_neg (fun c => by rw [h2, hh] at c; exact absurd c.2.1 (by simp))]⟩
theorem hurt_arg (h : s.L[i]? = some f) (hh : f.h = false) (hm : ¬ may a b f) : hurtE s (i : Int) a b = 2 ∧ hurtS s (i : Int) a b = s := by
  obtain ⟨h1, h2, h3, h4⟩ := look_yes h
  exact ⟨by unfold hurtE; rw [if_pos h1, h2, if_neg (by rw [hh]; simp), if_neg hm], by unfold hurtS; rw [if_neg (fun c => hm (by have := c.2.2; rwa [h2] at this))]⟩
theorem hurt_yes (h : s.L[i]? = some f) (hh : f.h = false) (hm : may a b f) : hurtE s (i : Int) a b = 0 ∧ hurtS s (i : Int) a b = ⟨s.L.set i (spoilt a b f), s.lost⟩ := by
  obtain ⟨h1, h2, h3, h4⟩ := look_yes h
  exact ⟨by unfold hurtE; rw [if_pos h1, h2, if_neg (by rw [hh]; simp), if_pos hm], by unfold hurtS; rw [if_pos ⟨h1, by rw [h2]; exact hh, by rw [h2]; exact hm⟩, h2, Int.toNat_natCast]⟩
end
theorem u8_of {b : Int} (h0 : 1 ≤ b) (h1 : b ≤ 255) : ∃ x : UInt8, b = (x.toNat : Int) ∧ UInt8.ofNat b.toNat = x := ⟨UInt8.ofNat b.toNat, by rw [UInt8.toNat_ofNat']; omega, rfl⟩

/-- a text's bytes in a block of their own -/
theorem told_bytes (W : World) (s : ByteArray) : ∃ W2 cap, (convert 9 56 (.string s)).run Try.prog W = .ok (.slice (some ⟨W.heap.size, 0, none⟩) s.size cap) W2 ∧ Kept W W2 ∧ W.heap.size < W2.heap.size ∧
    ∀ j, j < s.size → W2.cell? ⟨W.heap.size, j, none⟩ = some (.int .u8 ((s.data.toList.getD j 0).toNat : Int)) ∧ W2.frozen? ⟨W.heap.size, j, none⟩ = false := by
  refine ⟨_, _, Lib.run_convert_string_bytes W 9 56 5 s Try.underlying9 Try.underlying56 Try.underlying5, ⟨rfl, rfl, rfl, ?_, fun k hk => Lib.bytesWorld_at_old W _ s k hk⟩, by rw [Lib.bytesWorld_size]; omega, fun j hj => ⟨Lib.bytesWorld_cell W _ s j hj, ?_⟩⟩
  · rw [Lib.bytesWorld_size]; omega
  · have hl : j < (Lib.bytesCells W 5 s).size := by
      unfold Lib.bytesCells
      rw [Array.size_append, Array.size_map]
      have : s.data.size = s.size := rfl
      omega
    simp [World.frozen?, Lib.bytesWorld_at_new]
    omega


section
variable {w : World} {B : Nat} {v : Value} {s : Sta}
/-- the byte is another one, and the text is told anew -/
theorem told_back {W2 W3 : World} {b cap i : Nat} {x : UInt8} {t : ByteArray} (hc : ∀ j, j < t.size → W2.cell? ⟨b, j, none⟩ = some (.int .u8 ((t.data.toList.getD j 0).toNat : Int))) (hi : i < t.size)
    (h3 : W3 = W2.setCell ⟨b, i, none⟩ (.int .u8 ((t.data.toList.getD i 0 ^^^ x).toNat : Int))) (hfr : W2.frozen? ⟨b, i, none⟩ = false) :
    (convert 56 9 (.slice (some ⟨b, 0, none⟩) t.size cap)).run Try.prog W3 = .ok (.string ⟨(Cg.chg t.data.toList i x).toArray⟩) W3 := by
  have hl : (Cg.chg t.data.toList i x).length = t.size := by rw [Cg.chg_len, ← St.size_list]
  have := run_convert_bytes_back W3 56 9 5 ⟨b, 0, none⟩ cap (Cg.chg t.data.toList i x) Try.underlying56 Try.underlying5 Try.underlying9 (fun j hj => by
    rw [addr_add, Nat.zero_add]
    have hjt : j < t.size := by rw [← hl]; exact hj
    have e := Cg.chg_at t.data.toList i j x (by rw [← St.size_list]; exact hjt)
    rw [List.getD_eq_getElem?_getD, List.getElem?_eq_getElem hj] at e
    simp only [Option.getD_some] at e
    rw [e, h3]
    by_cases c : j = i
    · subst c
      rw [if_pos rfl]
      rw [World.cell?_setCell_same (h := hc j hjt)]
    · rw [if_neg c, World.cell?_setCell_other (h := fun d => c (by cases d; rfl))]
      exact hc j hjt)
  rw [hl] at this
  exact this
end

theorem may_not {a b : Int} {f : Fl} (h : ¬ may a b f) : a < 0 ∨ (0 ≤ a ∧ (f.s.size : Int) ≤ a) ∨ (0 ≤ a ∧ a < (f.s.size : Int) ∧ b < 1) ∨ (0 ≤ a ∧ a < (f.s.size : Int) ∧ 1 ≤ b ∧ 255 < b) := by
  unfold may at h; omega

section
variable {w : World} {B : Nat} {v : Value} {s : Sta}
set_option maxHeartbeats 800000 in
theorem hurt_out (h : Bag 49 36 w B v s) {k : Int} (hk : ¬ has s k) (a b : Int) : Calls Try.prog 16 #[PB B, .int .i64 k, .int .i64 a, .int .i64 b] w fun e w' => e = .returned (.int .i64 7) ∧ Kept w w' := by
  obtain ⟨e1, e2⟩ := look_no hk
  have CL : Calls Try.prog 11 #[PB B, .int .i64 k] w fun e w' => e = .returned (.tuple #[agg z, .int .i64 7]) ∧ Kept w w' := by
    have := look_any h k
    unfold looks at this; rw [e1, e2] at this; exact this
  have CL := Lib.hid CL
  clear h hk e1 e2
  unfold agg enc z at CL
  go_enter Try.func16, Try.ntmps16
  go_wp2_with (go_at_call 11; refine CL.out.mono ?_; rintro e w1 ⟨rfl, hk1⟩; have HK1 := Lib.hid hk1; clear hk1)
  go_ret
  exact ⟨rfl, HK1.out.more _⟩
set_option maxHeartbeats 800000 in
theorem hurt_again (h : Bag 49 36 w B v s) {i : Nat} {fr to : Int} {t : ByteArray} (hf : s.L[i]? = some ⟨fr, to, t, true⟩) (a b : Int) : Calls Try.prog 16 #[PB B, .int .i64 (i : Int), .int .i64 a, .int .i64 b] w fun e w' => e = .returned (.int .i64 8) ∧ Kept w w' := by
  obtain ⟨_, _, e1, e2⟩ := look_yes hf
  have CL : Calls Try.prog 11 #[PB B, .int .i64 (i : Int)] w fun e w' => e = .returned (.tuple #[agg ⟨fr, to, t, true⟩, .int .i64 0]) ∧ Kept w w' := by
    have := look_any h (i : Int)
    unfold looks at this; rw [e1, e2] at this; exact this
  have CL := Lib.hid CL
  clear h hf e1 e2
  unfold agg enc at CL
  go_enter Try.func16, Try.ntmps16
  go_wp2_with (go_at_call 11; refine CL.out.mono ?_; rintro e w1 ⟨rfl, hk1⟩; have HK1 := Lib.hid hk1; clear hk1)
  go_ret
  exact ⟨rfl, HK1.out.more _⟩
set_option maxHeartbeats 1600000 in
theorem hurt_wrong (h : Bag 49 36 w B v s) {i : Nat} {fr to : Int} {t : ByteArray} (hf : s.L[i]? = some ⟨fr, to, t, false⟩) {a b : Int} (hm : ¬ may a b ⟨fr, to, t, false⟩) : Calls Try.prog 16 #[PB B, .int .i64 (i : Int), .int .i64 a, .int .i64 b] w fun e w' => e = .returned (.int .i64 2) ∧ Kept w w' := by
  obtain ⟨_, _, e1, e2⟩ := look_yes hf
  have CL : Calls Try.prog 11 #[PB B, .int .i64 (i : Int)] w fun e w' => e = .returned (.tuple #[agg ⟨fr, to, t, false⟩, .int .i64 0]) ∧ Kept w w' := by
    have := look_any h (i : Int)
    unfold looks at this; rw [e1, e2] at this; exact this
  have CL := Lib.hid CL
  have hm' := may_not hm
  clear h hf e1 e2 hm
  unfold agg enc at CL
  rcases hm' with h0 | ⟨h0, h1⟩ | ⟨h0, h1, h2⟩ | ⟨h0, h1, h2, h3⟩
  · go_enter Try.func16, Try.ntmps16
    go_wp2_with (go_at_call 11; refine CL.out.mono ?_; rintro e w1 ⟨rfl, hk1⟩; have HK1 := Lib.hid hk1; clear hk1)
    go_ret
    exact ⟨rfl, HK1.out.more _⟩
  · have hd : decide ((t.size : Int) ≤ a) = true := decide_eq_true h1
    clear h1
    go_enter Try.func16, Try.ntmps16
    go_wp2_with (go_at_call 11; refine CL.out.mono ?_; rintro e w1 ⟨rfl, hk1⟩; have HK1 := Lib.hid hk1; clear hk1)
    go_ret
    exact ⟨rfl, HK1.out.more _⟩
  · have hd : decide ((t.size : Int) ≤ a) = false := decide_eq_false (by show ¬ (t.size : Int) ≤ a; have : a < (t.size : Int) := h1; omega)
    clear h1
    go_enter Try.func16, Try.ntmps16
    go_wp2_with (go_at_call 11; refine CL.out.mono ?_; rintro e w1 ⟨rfl, hk1⟩; have HK1 := Lib.hid hk1; clear hk1)
    go_ret
    exact ⟨rfl, HK1.out.more _⟩
  · have hd : decide ((t.size : Int) ≤ a) = false := decide_eq_false (by show ¬ (t.size : Int) ≤ a; have : a < (t.size : Int) := h1; omega)
    clear h1
    go_enter Try.func16, Try.ntmps16
    go_wp2_with (go_at_call 11; refine CL.out.mono ?_; rintro e w1 ⟨rfl, hk1⟩; have HK1 := Lib.hid hk1; clear hk1)
    go_ret
    exact ⟨rfl, HK1.out.more _⟩
end

section
variable {w : World} {B : Nat} {v : Value} {s : Sta}
theorem spoilt_eq (i : Nat) (x : UInt8) (fr to : Int) (t : ByteArray) (hb : Bool) : spoilt (i : Int) (x.toNat : Int) ⟨fr, to, t, hb⟩ = ⟨fr, to, ⟨(Cg.chg t.data.toList i x).toArray⟩, true⟩ := by
  unfold spoilt
  simp
theorem Bag.placed {bt et : TypeId} {W w2 : World} {g cap i n : Nat} {r : Value} {e : Ending} {f : Fl} (h : Bag bt et w B (.slice (some ⟨g, 0, none⟩) n cap) s) (k1 : Kept w W) (hr : RowV w2 (.slice (some ⟨g, 0, none⟩) n cap) et 4 enc (s.L.set i f)) (hf : Fr (fun j => j = g) W w2) (he : e = .returned r) :
    Turns bt et w B (.slice (some ⟨g, 0, none⟩) n cap) ⟨s.L.set i f, s.lost⟩ r e w2 := by
  have hB := blk_lt h.blk
  have hne := h.ne g rfl
  have hz := k1.size
  refine ⟨he, _, ⟨(hf.block B (by omega) (fun c => hne c.symm)).trans ((k1.block B hB).trans h.blk), hr, h.ne, by show (s.L.set i f).length ≤ 256; rw [List.length_set]; exact h.len⟩, (Fr.kept k1).trans hf (fun j c => .inl (.inr (by rw [c]; rfl))), fun k c => .inl c⟩
set_option maxHeartbeats 1600000 in
theorem hurt_done (h : Bag 49 36 w B v s) {i : Nat} {fr to : Int} {t : ByteArray} (hf : s.L[i]? = some ⟨fr, to, t, false⟩) {j : Nat} {x : UInt8} (hj : j < t.size) (hx : 1 ≤ x.toNat) :
    Calls Try.prog 16 #[PB B, .int .i64 (i : Int), .int .i64 (j : Int), .int .i64 (x.toNat : Int)] w (Turns 49 36 w B v ⟨s.L.set i ⟨fr, to, ⟨(Cg.chg t.data.toList j x).toArray⟩, true⟩, s.lost⟩ (.int .i64 0)) := by
  have hi := (List.getElem?_eq_some_iff.1 hf).1
  obtain ⟨_, _, e1, e2⟩ := look_yes hf
  have CL : Calls Try.prog 11 #[PB B, .int .i64 (i : Int)] w fun e w' => e = .returned (.tuple #[agg ⟨fr, to, t, false⟩, .int .i64 0]) ∧ Kept w w' := by
    have := look_any h (i : Int)
    unfold looks at this; rw [e1, e2] at this; exact this
  have CL := Lib.hid CL
  have hB := blk_lt h.blk
  obtain ⟨g, cap, cur, ev, hb, hcap, _⟩ := h.row.full (fun c => by rw [c] at hi; simp at hi)
  subst ev
  have hg := h.row.lt (g := g) rfl
  have hx1 := x.toNat_lt
  have hd : decide ((t.size : Int) ≤ (j : Int)) = false := by simpa using hj
  have hj' : (j : Int) < (t.size : Int) := by omega
  have hx2 : (1 : Int) ≤ (x.toNat : Int) := by omega
  have hx3 : (x.toNat : Int) ≤ 255 := by omega
  obtain ⟨y, hy⟩ : ∃ y : Int, (x.toNat : Int) = y := ⟨_, rfl⟩
  rw [hy] at hx2 hx3 ⊢
  have H := Lib.hid h
  have HI := Lib.hid hi
  have HJ := Lib.hid hj
  have HY := Lib.hid hy
  have hHF := Lib.hid hf
  clear h hf e1 e2 hb hcap hy hx hx1
  unfold agg enc at CL
  go_enter Try.func16, Try.ntmps16
  go_wp2_with fail
  refine CL.out.mono ?_
  rintro e w1 ⟨rfl, hk1⟩
  have hw1 := hk1.size
  obtain ⟨b9, hb9⟩ : ∃ b9, w1.heap.size = b9 := ⟨_, rfl⟩
  obtain ⟨W0, hW0⟩ : ∃ W0, w1.alloc (.cells #[.int .i64 fr, .int .i64 to, .string t, .bool false] 36) = W0 := ⟨_, rfl⟩
  have bx0 : Box W0 b9 36 ⟨fr, to, t, false⟩ := by rw [← hW0, ← hb9]; exact Box.new w1 _ ⟨fr, to, t, false⟩
  have hk0 : Kept w W0 := by rw [← hW0]; exact hk1.more _
  obtain ⟨W2, tcap, hcv, hk2, hlt2, hc2⟩ := told_bytes W0 t
  have hs0 : W0.heap.size = b9 + 1 := by rw [← hW0, ← hb9]; simp
  rw [← hW0] at hcv
  obtain ⟨b, hb⟩ : ∃ b, b9 + 1 = b := ⟨_, rfl⟩
  have hsz : (w1.alloc (.cells #[.int .i64 fr, .int .i64 to, .string t, .bool false] 36)).heap.size = b := by rw [hW0, hs0, hb]
  rw [hsz] at hcv
  rw [hs0, hb] at hc2 hlt2
  have bx2 := bx0.kept hk2
  obtain ⟨hcj, hfj⟩ := hc2 j HJ.out
  obtain ⟨c, hc⟩ : ∃ c : Int, ((t.data.toList.getD j 0).toNat : Int) = c := ⟨_, rfl⟩
  obtain ⟨zz, hzz⟩ : ∃ zz : Int, ((t.data.toList.getD j 0 ^^^ x).toNat : Int) = zz := ⟨_, rfl⟩
  have hv : bits .xor .u8 c y = zz := by
    rw [← hc, ← hzz, ← HY.out, u8_xor_nat _ x.toNat (UInt8.toNat_lt _) (UInt8.toNat_lt _), UInt8.toNat_xor]
  have hback := told_back (W3 := W2.setCell ⟨b, j, none⟩ (.int .u8 zz)) (cap := tcap) (x := x) (fun k hk => (hc2 k hk).1) HJ.out (by rw [hzz]) hfj
  obtain ⟨S', hS'⟩ : ∃ S' : ByteArray, (⟨(Cg.chg t.data.toList j x).toArray⟩ : ByteArray) = S' := ⟨_, rfl⟩
  rw [hS'] at hback ⊢
  rw [hc] at hcj
  have hwy : IntKind.u8.wrap y = y := by rw [IntKind.wrap_u8]; omega
  obtain ⟨q0, q1, q2, q3, qf, ql⟩ := bx2.cells
  have qf2 := qf 2
  have qf3 := qf 3
  have hbb : b9 < b := by omega
  have K2 := hk0.trans hk2
  have HF : Hid (Kept w (((W2.setCell ⟨b, j, none⟩ (.int .u8 zz)).setCell ⟨b9, 2, none⟩ (.string S')).setCell ⟨b9, 3, none⟩ (.bool true))) := kept_set (kept_set (kept_set K2 (by omega) _ _) (by omega) _ _) (by omega) _ _
  have HX : Hid (Box (((W2.setCell ⟨b, j, none⟩ (.int .u8 zz)).setCell ⟨b9, 2, none⟩ (.string S')).setCell ⟨b9, 3, none⟩ (.bool true)) b9 36 ⟨fr, to, S', true⟩) := by
    have b3 := bx2.fr ((Fr.refl (fun k => k = b) W2).setCell (p := ⟨b, j, none⟩) (.inl rfl) (.int .u8 zz)) (by omega)
    exact ⟨blk_set (blk_set b3.blk 2 (.string S')) 3 (.bool true)⟩
  have HZ := Lib.hid (And.intro hS' hb)
  clear hk1 hk0 hk2 bx0 bx2 hc2 hc hzz hs0 hsz hS' K2 qf hb
  subst hb9
  clear hW0
  go_wp2_with fail
  obtain ⟨W5, hW5⟩ : ∃ W5, ((W2.setCell ⟨b, j, none⟩ (.int .u8 zz)).setCell ⟨w1.heap.size, 2, none⟩ (.string S')).setCell ⟨w1.heap.size, 3, none⟩ (.bool true) = W5 := ⟨_, rfl⟩
  rw [hW5] at HF HX ⊢
  have h5 := H.out.kept HF.out
  have c0 := h5.c0
  have hB5 := blk_lt h5.blk
  have hrow := h5.row.keep (Kept.refl W5).drew
  obtain ⟨x0, x1, x2, x3, _, x5⟩ := HX.out.cells
  have hi' : (i : Int) < (s.L.length : Int) := by have := HI.out; omega
  clear h5 hback hcv hv hcj hfj q0 q1 q2 q3 qf2 qf3 hW5 ql hlt2 hd
  refine wp_region_still_tail 7 (by kernel_rfl) (by kernel_rfl) ?_
  change wpStill _ _ (World.drew _) (fun a' => wpList _ _ _ _ a' (World.drew _)) _ _
  simp only [List.take_succ_cons, List.take_zero, List.drop_succ_cons, List.drop_zero]
  repeat (first | still_step)
  refine wpStill_nil ?_
  refine wpList_store_elem encP rfl _ _ rfl g i cap ⟨fr, to, S', true⟩ _ rfl rfl rfl HI.out hrow ?_
  intro w6 hr6 hf6
  have HR6 := Lib.hid (And.intro hr6 hf6)
  clear hr6 hf6
  go_wp2_with fail
  go_ret
  rw [HZ.out.1]
  exact Bag.placed H.out HF.out.drew HR6.out.1 HR6.out.2 rfl
theorem hurt_any (h : Bag 49 36 w B v s) (k a b : Int) :
    Calls Try.prog 16 #[PB B, .int .i64 k, .int .i64 a, .int .i64 b] w (Turns 49 36 w B v (hurtS s k a b) (.int .i64 (hurtE s k a b))) := by
  by_cases hk : has s k
  · obtain ⟨i, ⟨fr, to, t, hb⟩, rfl, hf, hi⟩ := has_at hk
    cases hb with
    | true =>
      obtain ⟨e1, e2⟩ := hurt_twice (a := a) (b := b) hf rfl
      rw [e1, e2]
      exact (hurt_again h hf a b).mono fun _ _ ⟨he, hk⟩ => Turns.none h hk he
    | false =>
      by_cases hm : may a b ⟨fr, to, t, false⟩
      · obtain ⟨e1, e2⟩ := hurt_yes hf rfl hm
        rw [e1, e2]
        obtain ⟨m0, m1, m2, m3⟩ := hm
        obtain ⟨x, rfl, hx⟩ := u8_of m2 m3
        obtain ⟨j, rfl⟩ : ∃ j : Nat, (j : Int) = a := ⟨a.toNat, by omega⟩
        rw [spoilt_eq]
        exact hurt_done h hf (by have : (j : Int) < (t.size : Int) := m1; omega) (by omega)
      · obtain ⟨e1, e2⟩ := hurt_arg hf rfl hm
        rw [e1, e2]
        exact (hurt_wrong h hf hm).mono fun _ _ ⟨he, hk⟩ => Turns.none h hk he
  · obtain ⟨e1, e2⟩ := hurt_no (a := a) (b := b) hk
    rw [e1, e2]
    exact (hurt_out h hk a b).mono fun _ _ ⟨he, hk⟩ => Turns.none h hk he
end

end Go.Proofs.Ytglgkgpmfeamnaa.Bg
