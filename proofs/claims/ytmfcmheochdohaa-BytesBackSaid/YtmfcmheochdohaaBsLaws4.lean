/- A deed done in both readers: the same answer. -/
import Derived.Test.YtmfcmheochdohaaBsLaws3
import Derived.Deep.RegionHeld3
namespace Go.Proofs.Ytmfcmheochdohaa.Bs
open Go.RowKit St Go.Sort BsM
set_option linter.unusedVariables false

/-- where the call stands: its own reader at block b, the document's at block c, a deed in block d -/
structure At2 (W : World) (b c d : Nat) (T : ByteArray) (q : Array Value) (s x : S) (w : World) : Prop where
  kept : Kept W w
  hb : W.heap.size ≤ b
  hc : W.heap.size ≤ c
  ne : b ≠ c
  rd : Rd w b s
  xd : Xd w c T x
  db : d ≠ b
  dc : d ≠ c
  deed : w.heap[d]? = some (.cells q 35 (0, 0))
theorem At2.code {W : World} {b c d : Nat} {T : ByteArray} {q : Array Value} {s x : S} {f : FuncId} {args : Array Value} {v : Value} {s' : S} (h : ∀ w, Rd w b s → Calls Try.prog f args w (Does b w v s')) :
    Hid (∀ w, At2 W b c d T q s x w → Calls Try.prog f args w fun e w' => e = .returned v ∧ At2 W b c d T q s' x w') :=
  fun w hw => (h w hw.rd).mono fun _ _ ⟨he, hr, ho⟩ => ⟨he, ho.below hw.kept hw.hb (Below.size hw.kept), hw.hb, hw.hc, hw.ne, hr, hw.xd.other ho hw.ne.symm, hw.db, hw.dc, ho.other hw.deed hw.db⟩
theorem At2.ref {W : World} {b c d : Nat} {T : ByteArray} {q : Array Value} {s x : S} {f : FuncId} {args : Array Value} {v : Value} {x' : S} (h : ∀ w, Xd w c T x → Calls Try.prog f args w (XDoes c T w v x')) :
    Hid (∀ w, At2 W b c d T q s x w → Calls Try.prog f args w fun e w' => e = .returned v ∧ At2 W b c d T q s x' w') :=
  fun w hw => (h w hw.xd).mono fun _ _ ⟨he, hr, ho⟩ => ⟨he, ho.below hw.kept hw.hc (Below.size hw.kept), hw.hb, hw.hc, hw.ne, hw.rd.other ho hw.ne, hr, hw.db, hw.dc, ho.other hw.deed hw.dc⟩
theorem At2.cells {W : World} {b c d : Nat} {T : ByteArray} {x y : Value} {s z : S} {w : World} (h : At2 W b c d T #[x, y] s z w) : w.cell? ⟨d, 0, none⟩ = some x ∧ w.cell? ⟨d, 1, none⟩ = some y :=
  ⟨by rw [blk_cell h.deed]; rfl, by rw [blk_cell h.deed]; rfl⟩

theorem At2.drew {W : World} {b c d : Nat} {T : ByteArray} {q : Array Value} {s x : S} {w : World} (h : At2 W b c d T q s x w) : At2 W b c d T q s x w.drew :=
  ⟨h.kept.drew, h.hb, h.hc, h.ne, h.rd, h.xd, h.db, h.dc, h.deed⟩
theorem At2.to {W : World} {b c d : Nat} {T : ByteArray} {q : Array Value} {s x : S} {w w' : World} (h : At2 W b c d T q s x w) (e : w = w') : At2 W b c d T q s x w' := by subst e; exact h

def doS (s : S) (kind n : Int) : S :=
  if kind = 0 ∨ kind = 1 then numS s n else if kind = 2 then textS s else if kind = 3 then flagS s else if kind = 4 then (if 1 ≤ n ∧ n ≤ 11 then failS s n else s) else if kind = 5 then endS s else s

/-- the two readers alone -/
def At3 (W : World) (b c : Nat) (T : ByteArray) (s : S) (w : World) : Prop := Kept W w ∧ W.heap.size ≤ b ∧ W.heap.size ≤ c ∧ b ≠ c ∧ Rd w b s ∧ Xd w c T s
theorem At3.two {W : World} {b c : Nat} {T : ByteArray} {s : S} {w : World} (h : At3 W b c T s w) (q : Array Value) : At2 W b c w.heap.size T q s s (w.alloc (.cells q 35)) := by
  obtain ⟨h1, h2, h3, h4, h5, h6⟩ := h
  have k : Kept w (w.alloc (.cells q 35)) := (Below.refl _ _).alloc (Nat.le_refl _) _
  obtain ⟨p, hp, hx⟩ := h6
  exact ⟨h1.trans k, h2, h3, h4, h5.kept k, ⟨p, hp, kept_blk k hx⟩, fun e => by have := blk_lt h5; omega, fun e => by have := blk_lt hx; omega, blk_new _ _⟩
theorem At2.three {W : World} {b c d : Nat} {T : ByteArray} {q : Array Value} {s : S} {w : World} (h : At2 W b c d T q s s w) : At3 W b c T s w := ⟨h.kept, h.hb, h.hc, h.ne, h.rd, h.xd⟩

set_option maxHeartbeats 1000000 in
theorem does_num (W : World) (b c : Nat) (T : ByteArray) (s : S) (k n : Int) (hk : k = 0 ∨ k = 1) (hT : T.size ≤ 5000) (w : World) (h : At3 W b c T s w) :
    Calls Try.prog 14 #[.pointer (some ⟨b, 0, none⟩), .pointer (some ⟨c, 0, none⟩), .agg #[.int .i64 k, .int .i64 n]] w fun e w' => e = .returned (.bool true) ∧ At3 W b c T (numS s n) w' := by
  have A0 := (h.two #[.int .i64 k, .int .i64 n]).drew
  obtain ⟨z, hz⟩ : ∃ z : Int, (numV s n : Int) = z := ⟨_, rfl⟩
  have h1 : Hid (∀ y, At2 W b c w.heap.size T #[.int .i64 k, .int .i64 n] s s y → Calls Try.prog 19 #[.pointer (some ⟨b, 0, none⟩), .int .i64 n] y fun e w' => e = .returned (.int .i64 z) ∧ At2 W b c w.heap.size T #[.int .i64 k, .int .i64 n] (numS s n) s w') := by
    rw [← hz]; exact At2.code fun y hy => rdnum_any b s n y hy
  have h2 : Hid (∀ y, At2 W b c w.heap.size T #[.int .i64 k, .int .i64 n] (numS s n) s y → Calls Try.prog 24 #[.pointer (some ⟨c, 0, none⟩), .int .i64 n] y fun e w' => e = .returned (.int .i64 z) ∧ At2 W b c w.heap.size T #[.int .i64 k, .int .i64 n] (numS s n) (numS s n) w') := by
    rw [← hz]; exact At2.ref fun y hy => xnum_any c T s n hT y hy
  clear hz h
  rcases hk with rfl | rfl
  · go_enter Try.func14, Try.ntmps14
    go_wp2_with fail
    go_region_held3 (fun w' => w'.cell? ⟨w.heap.size, 1, none⟩ = some (.int .i64 n)) (first | exact (At2.cells (by assumption)).2)
      (first | (go_at_call 19; refine (h1.out _ (by assumption)).mono ?_; rintro e w1 ⟨rfl, A1⟩) | (go_at_call 24; refine (h2.out _ (by assumption)).mono ?_; rintro e w1 ⟨rfl, A2⟩))
    go_wp2_with fail
    go_ret
    exact ⟨rfl, At2.three (by assumption)⟩
  · go_enter Try.func14, Try.ntmps14
    go_wp2_with fail
    go_region_held3 (fun w' => w'.cell? ⟨w.heap.size, 1, none⟩ = some (.int .i64 n)) (first | exact (At2.cells (by assumption)).2)
      (first | (go_at_call 19; refine (h1.out _ (by assumption)).mono ?_; rintro e w1 ⟨rfl, A1⟩) | (go_at_call 24; refine (h2.out _ (by assumption)).mono ?_; rintro e w1 ⟨rfl, A2⟩))
    go_wp2_with fail
    go_ret
    exact ⟨rfl, At2.three (by assumption)⟩

set_option maxHeartbeats 1000000 in
theorem does_text (W : World) (b c : Nat) (T : ByteArray) (s : S) (n : Int) (hT : T.size ≤ 5000) (w : World) (h : At3 W b c T s w) :
    Calls Try.prog 14 #[.pointer (some ⟨b, 0, none⟩), .pointer (some ⟨c, 0, none⟩), .agg #[.int .i64 2, .int .i64 n]] w fun e w' => e = .returned (.bool true) ∧ At3 W b c T (textS s) w' := by
  have A0 := h.two #[.int .i64 2, .int .i64 n]
  obtain ⟨Z, hz⟩ : ∃ Z : ByteArray, (⟨(textV s).toArray⟩ : ByteArray) = Z := ⟨_, rfl⟩
  have h1 : Hid (∀ y, At2 W b c w.heap.size T #[.int .i64 2, .int .i64 n] s s y → Calls Try.prog 20 #[.pointer (some ⟨b, 0, none⟩)] y fun e w' => e = .returned (.string Z) ∧ At2 W b c w.heap.size T #[.int .i64 2, .int .i64 n] (textS s) s w') := by
    rw [← hz]; exact At2.code fun y hy => rdtext_any b s y hy
  have h2 : Hid (∀ y, At2 W b c w.heap.size T #[.int .i64 2, .int .i64 n] (textS s) s y → Calls Try.prog 25 #[.pointer (some ⟨c, 0, none⟩)] y fun e w' => e = .returned (.string Z) ∧ At2 W b c w.heap.size T #[.int .i64 2, .int .i64 n] (textS s) (textS s) w') := by
    rw [← hz]; exact At2.ref fun y hy => xtext_any c T s hT y hy
  clear hz h
  go_enter Try.func14, Try.ntmps14
  go_wp2_with (first | (go_at_call 20; refine (h1.out _ (by assumption)).mono ?_; rintro e w1 ⟨rfl, A1⟩) | (go_at_call 25; refine (h2.out _ (by assumption)).mono ?_; rintro e w1 ⟨rfl, A2⟩))
  go_ret
  exact ⟨rfl, At2.three (by assumption)⟩

set_option maxHeartbeats 1000000 in
theorem does_flag (W : World) (b c : Nat) (T : ByteArray) (s : S) (n : Int) (hT : T.size ≤ 5000) (w : World) (h : At3 W b c T s w) :
    Calls Try.prog 14 #[.pointer (some ⟨b, 0, none⟩), .pointer (some ⟨c, 0, none⟩), .agg #[.int .i64 3, .int .i64 n]] w fun e w' => e = .returned (.bool true) ∧ At3 W b c T (flagS s) w' := by
  have A0 := h.two #[.int .i64 3, .int .i64 n]
  obtain ⟨z, hz⟩ : ∃ z : Bool, flagV s = z := ⟨_, rfl⟩
  have h1 : Hid (∀ y, At2 W b c w.heap.size T #[.int .i64 3, .int .i64 n] s s y → Calls Try.prog 21 #[.pointer (some ⟨b, 0, none⟩)] y fun e w' => e = .returned (.bool z) ∧ At2 W b c w.heap.size T #[.int .i64 3, .int .i64 n] (flagS s) s w') := by
    rw [← hz]; exact At2.code fun y hy => rdflag_any b s y hy
  have h2 : Hid (∀ y, At2 W b c w.heap.size T #[.int .i64 3, .int .i64 n] (flagS s) s y → Calls Try.prog 26 #[.pointer (some ⟨c, 0, none⟩)] y fun e w' => e = .returned (.bool z) ∧ At2 W b c w.heap.size T #[.int .i64 3, .int .i64 n] (flagS s) (flagS s) w') := by
    rw [← hz]; exact At2.ref fun y hy => xflag_any c T s hT y hy
  clear hz h
  go_enter Try.func14, Try.ntmps14
  go_wp2_with (first | (go_at_call 21; refine (h1.out _ (by assumption)).mono ?_; rintro e w1 ⟨rfl, A1⟩) | (go_at_call 26; refine (h2.out _ (by assumption)).mono ?_; rintro e w1 ⟨rfl, A2⟩))
  go_ret
  exact ⟨rfl, At2.three (by assumption)⟩

set_option maxHeartbeats 1000000 in
theorem does_end (W : World) (b c : Nat) (T : ByteArray) (s : S) (n : Int) (hT : T.size ≤ 5000) (w : World) (h : At3 W b c T s w) :
    Calls Try.prog 14 #[.pointer (some ⟨b, 0, none⟩), .pointer (some ⟨c, 0, none⟩), .agg #[.int .i64 5, .int .i64 n]] w fun e w' => e = .returned (.bool true) ∧ At3 W b c T (endS s) w' := by
  have A0 := h.two #[.int .i64 5, .int .i64 n]
  obtain ⟨z, hz⟩ : ∃ z : Int, endV s = z := ⟨_, rfl⟩
  have h1 : Hid (∀ y, At2 W b c w.heap.size T #[.int .i64 5, .int .i64 n] s s y → Calls Try.prog 17 #[.pointer (some ⟨b, 0, none⟩)] y fun e w' => e = .returned (.int .i64 z) ∧ At2 W b c w.heap.size T #[.int .i64 5, .int .i64 n] (endS s) s w') := by
    rw [← hz]; exact At2.code fun y hy => end_any b s y hy
  have h2 : Hid (∀ y, At2 W b c w.heap.size T #[.int .i64 5, .int .i64 n] (endS s) s y → Calls Try.prog 18 #[.pointer (some ⟨c, 0, none⟩)] y fun e w' => e = .returned (.int .i64 z) ∧ At2 W b c w.heap.size T #[.int .i64 5, .int .i64 n] (endS s) (endS s) w') := by
    rw [← hz]; exact At2.ref fun y hy => xend_any c T s hT y hy
  clear hz h
  go_enter Try.func14, Try.ntmps14
  go_wp2_with (first | (go_at_call 17; refine (h1.out _ (by assumption)).mono ?_; rintro e w1 ⟨rfl, A1⟩) | (go_at_call 18; refine (h2.out _ (by assumption)).mono ?_; rintro e w1 ⟨rfl, A2⟩))
  go_ret
  exact ⟨rfl, At2.three (by assumption)⟩

set_option maxHeartbeats 1000000 in
theorem does_fail (W : World) (b c : Nat) (T : ByteArray) (s : S) (n : Int) (hn : 1 ≤ n ∧ n ≤ 11) (w : World) (h : At3 W b c T s w) :
    Calls Try.prog 14 #[.pointer (some ⟨b, 0, none⟩), .pointer (some ⟨c, 0, none⟩), .agg #[.int .i64 4, .int .i64 n]] w fun e w' => e = .returned (.bool true) ∧ At3 W b c T (failS s n) w' := by
  have A0 := h.two #[.int .i64 4, .int .i64 n]
  obtain ⟨hn1, hn2⟩ := hn
  have h1 : Hid (∀ y, At2 W b c w.heap.size T #[.int .i64 4, .int .i64 n] s s y → Calls Try.prog 22 #[.pointer (some ⟨b, 0, none⟩), .int .i64 n] y fun e w' => e = .returned (.tuple #[]) ∧ At2 W b c w.heap.size T #[.int .i64 4, .int .i64 n] (failS s n) s w') :=
    At2.code fun y hy => fail_any b s n y hy
  have h2 : Hid (∀ y, At2 W b c w.heap.size T #[.int .i64 4, .int .i64 n] (failS s n) s y → Calls Try.prog 27 #[.pointer (some ⟨c, 0, none⟩), .int .i64 n] y fun e w' => e = .returned (.tuple #[]) ∧ At2 W b c w.heap.size T #[.int .i64 4, .int .i64 n] (failS s n) (failS s n) w') :=
    At2.ref fun y hy => xfail_any c T s n (by omega) y hy
  clear h
  go_enter Try.func14, Try.ntmps14
  go_wp2_with (first | (go_at_call 22; refine (h1.out _ (by assumption)).mono ?_; rintro e w1 ⟨rfl, A1⟩; have c1 := (At2.cells A1).2) | (go_at_call 27; refine (h2.out _ (by assumption)).mono ?_; rintro e w1 ⟨rfl, A2⟩))
  go_ret
  exact ⟨rfl, At2.three (by assumption)⟩

set_option maxHeartbeats 1000000 in
theorem does_none (W : World) (b c : Nat) (T : ByteArray) (s : S) (k n : Int) (hk : k = 4 ∧ ¬ (1 ≤ n ∧ n ≤ 11) ∨ k < 0 ∨ 5 < k) (w : World) (h : At3 W b c T s w) :
    Calls Try.prog 14 #[.pointer (some ⟨b, 0, none⟩), .pointer (some ⟨c, 0, none⟩), .agg #[.int .i64 k, .int .i64 n]] w fun e w' => e = .returned (.bool true) ∧ At3 W b c T s w' := by
  have A0 := h.two #[.int .i64 k, .int .i64 n]
  clear h
  by_cases h4 : k = 4
  · subst h4
    by_cases hn : n < 1
    · clear hk
      go_enter Try.func14, Try.ntmps14
      go_wp2_with fail
      go_ret
      exact ⟨rfl, At2.three (by assumption)⟩
    · have hn2 : 11 < n := by omega
      clear hk
      go_enter Try.func14, Try.ntmps14
      go_wp2_with fail
      go_ret
      exact ⟨rfl, At2.three (by assumption)⟩
  · have k0 : (k == 0) = false := by simp; omega
    have k1 : (k == 1) = false := by simp; omega
    have k2 : (k == 2) = false := by simp; omega
    have k3 : (k == 3) = false := by simp; omega
    have k4 : (k == 4) = false := by simp; omega
    have k5 : (k == 5) = false := by simp; omega
    clear hk h4
    go_enter Try.func14, Try.ntmps14
    go_wp2_with fail
    go_ret
    exact ⟨rfl, At2.three (by assumption)⟩

theorem does_any (W : World) (b c : Nat) (T : ByteArray) (s : S) (k n : Int) (hT : T.size ≤ 5000) (w : World) (h : At3 W b c T s w) :
    Calls Try.prog 14 #[.pointer (some ⟨b, 0, none⟩), .pointer (some ⟨c, 0, none⟩), .agg #[.int .i64 k, .int .i64 n]] w fun e w' => e = .returned (.bool true) ∧ At3 W b c T (doS s k n) w' := by
  unfold doS
  by_cases h01 : k = 0 ∨ k = 1
  · rw [if_pos h01]; exact does_num W b c T s k n h01 hT w h
  · rw [if_neg h01]
    by_cases h2 : k = 2
    · rw [if_pos h2]; subst h2; exact does_text W b c T s n hT w h
    · rw [if_neg h2]
      by_cases h3 : k = 3
      · rw [if_pos h3]; subst h3; exact does_flag W b c T s n hT w h
      · rw [if_neg h3]
        by_cases h4 : k = 4
        · rw [if_pos h4]; subst h4
          by_cases hn : 1 ≤ n ∧ n ≤ 11
          · rw [if_pos hn]; exact does_fail W b c T s n hn w h
          · rw [if_neg hn]; exact does_none W b c T s 4 n (.inl ⟨rfl, hn⟩) w h
        · rw [if_neg h4]
          by_cases h5 : k = 5
          · rw [if_pos h5]; subst h5; exact does_end W b c T s n hT w h
          · rw [if_neg h5]; exact does_none W b c T s k n (.inr (by omega)) w h

end Go.Proofs.Ytmfcmheochdohaa.Bs
