/- A deed done in both wheels: the same answer. -/
import Derived.Test.YtffhjdkhmggakaaRf6
import Derived.Test.YtffhjdkhmggakaaRf5
import Derived.Test.YtffhjdkhmggakaaWhO
namespace Go.Proofs.Ytffhjdkhmggakaa.Rf
open Go.RowKit Tk Wh
open St (Kept blk_cell blk_free blk_lt blk_set)
set_option linter.unusedVariables false

section
/-- where the call stands: the wheel at block A, the document's at block B, a deed in block D -/
structure Dt' (W : World) (A B D : Nat) (q : Array Value) (na la : Int) (La : List (Int × Int)) (nb lb : Int) (Lb : List (Int × Int)) (w : World) (Sa Sb : Nat → Prop) (v : Value) : Prop where
  a : Whl w Sa A na la La
  b : RW w Sb B nb lb v Lb
  ap : ∀ k, Sa k → ¬ Sb k
  ka : Acc W Sa w
  kb : Acc W Sb w
  deed : w.heap[D]? = some (.cells q 32 (0, 0))
  da : ¬ Sa D
  db : ¬ Sb D
def Dt (W : World) (A B D : Nat) (q : Array Value) (na la : Int) (La : List (Int × Int)) (nb lb : Int) (Lb : List (Int × Int)) (w : World) : Prop := ∃ Sa Sb v, Dt' W A B D q na la La nb lb Lb w Sa Sb v

variable {W w w' : World} {A B D : Nat} {q : Array Value} {na la : Int} {La : List (Int × Int)} {nb lb : Int} {Lb : List (Int × Int)} {Sa Sb S' : Nat → Prop} {v : Value}
theorem Dt'.left (h : Dt' W A B D q na la La nb lb Lb w Sa Sb v) {na' la' : Int} {La' : List (Int × Int)} (hw : Whl w' S' A na' la' La') (hs : ∀ k, S' k → Sa k ∨ w.heap.size ≤ k) (hf : Fr Sa w w') : Dt' W A B D q na' la' La' nb lb Lb w' S' Sb v := by
  have b' := h.b.fr hf (fun k c d => h.ap k d c)
  have hD := blk_lt h.deed
  exact ⟨hw, b', fun k c d => (hs k c).elim (fun e => h.ap k e d) (fun e => by have := h.b.sLt k d; omega), h.ka.step hf hs, ⟨(h.ka.step hf hs).kept, h.kb.new⟩, (hf.block D hD h.da).trans h.deed, fun c => (hs D c).elim h.da (fun e => by omega), h.db⟩
theorem Dt'.right (h : Dt' W A B D q na la La nb lb Lb w Sa Sb v) {nb' lb' : Int} {Lb' : List (Int × Int)} {v' : Value} (hw : RW w' S' B nb' lb' v' Lb') (hs : ∀ k, S' k → Sb k ∨ w.heap.size ≤ k) (hf : Fr Sb w w') : Dt' W A B D q na la La nb' lb' Lb' w' Sa S' v' := by
  have a' := h.a.fr hf h.ap
  have hD := blk_lt h.deed
  exact ⟨a', hw, fun k c d => (hs k d).elim (h.ap k c) (fun e => by have := h.a.lt k c; omega), ⟨(h.kb.step hf hs).kept, h.ka.new⟩, h.kb.step hf hs, (hf.block D hD h.db).trans h.deed, h.da, fun c => (hs D c).elim h.db (fun e => by omega)⟩
theorem Dt'.kept (h : Dt' W A B D q na la La nb lb Lb w Sa Sb v) (k : Kept w w') : Dt' W A B D q na la La nb lb Lb w' Sa Sb v :=
  ⟨h.a.kept k, h.b.kept k, h.ap, h.ka.go k, h.kb.go k, (k.block D (blk_lt h.deed)).trans h.deed, h.da, h.db⟩
theorem Dt.kept (h : Dt W A B D q na la La nb lb Lb w) (k : Kept w w') : Dt W A B D q na la La nb lb Lb w' := by obtain ⟨Sa, Sb, v, h⟩ := h; exact ⟨Sa, Sb, v, h.kept k⟩
theorem Dt.drew (h : Dt W A B D q na la La nb lb Lb w) : Dt W A B D q na la La nb lb Lb w.drew := h.kept (Kept.refl _).drew
theorem Dt.world (h : Dt W A B D q na la La nb lb Lb w) : Kept W w := by obtain ⟨Sa, Sb, v, h⟩ := h; exact h.ka.kept
theorem Dt.now (h : Dt W A B D q na la La nb lb Lb w) : w.cell? ⟨B, 0, none⟩ = some (.int .i64 nb) := by obtain ⟨Sa, Sb, v, h⟩ := h; exact h.b.c0
theorem Dt.cells {x y z : Value} (h : Dt W A B D #[x, y, z] na la La nb lb Lb w) : w.cell? ⟨D, 0, none⟩ = some x ∧ w.cell? ⟨D, 1, none⟩ = some y ∧ w.cell? ⟨D, 2, none⟩ = some z := by
  obtain ⟨Sa, Sb, v, h⟩ := h
  exact ⟨by rw [blk_cell h.deed]; rfl, by rw [blk_cell h.deed]; rfl, by rw [blk_cell h.deed]; rfl⟩

/-- the two wheels alone -/
def Du (W : World) (A B : Nat) (now last : Int) (L : List (Int × Int)) (w : World) : Prop := ∃ Sa Sb v, Whl w Sa A now last L ∧ RW w Sb B now last v L ∧ (∀ k, Sa k → ¬ Sb k) ∧ Acc W Sa w ∧ Acc W Sb w
theorem Du.with {now last : Int} {L : List (Int × Int)} (h : Du W A B now last L w) (q : Array Value) : Dt W A B w.heap.size q now last L now last L (w.alloc (.cells q 32)) := by
  obtain ⟨Sa, Sb, v, h1, h2, h3, h4, h5⟩ := h
  exact ⟨Sa, Sb, v, h1.kept (Kept.one _ _), h2.kept (Kept.one _ _), h3, h4.go (Kept.one _ _), h5.go (Kept.one _ _), St.blk_new _ _, fun c => by have := h1.lt _ c; omega, fun c => by have := h2.sLt _ c; omega⟩
theorem Dt.alone {now last : Int} {L : List (Int × Int)} (h : Dt W A B D q now last L now last L w) : Du W A B now last L w := by
  obtain ⟨Sa, Sb, v, h⟩ := h
  exact ⟨Sa, Sb, v, h.a, h.b, h.ap, h.ka, h.kb⟩

/-- the number that a deed means -/
def eff (more : Bool) (now n : Int) : Int := if more then Tk.add now n else n

/-- what the wheel does, where both stand -/
theorem Dt.code {na' la' : Int} {La' : List (Int × Int)} {f : FuncId} {args : Array Value} {u : Value} (h : ∀ w S, Whl w S A na la La → Calls Try.prog f args w fun e w' => e = .returned u ∧ Went w S A na' la' La' w') :
    Hid (∀ w, Dt W A B D q na la La nb lb Lb w → Calls Try.prog f args w fun e w' => e = .returned u ∧ Dt W A B D q na' la' La' nb lb Lb w') :=
  fun w ⟨Sa, Sb, v, hw⟩ => (h w Sa hw.a).mono fun _ _ ⟨he, S', d1, d2, d3⟩ => ⟨he, S', Sb, v, hw.left d1 d2 d3⟩
theorem Dt.ref {nb' lb' : Int} {Lb' : List (Int × Int)} {f : FuncId} {args : Array Value} {u : Value} (h : ∀ w S v, RW w S B nb lb v Lb → Calls Try.prog f args w fun e w' => e = .returned u ∧ Rent w S B nb' lb' Lb' w') :
    Hid (∀ w, Dt W A B D q na la La nb lb Lb w → Calls Try.prog f args w fun e w' => e = .returned u ∧ Dt W A B D q na la La nb' lb' Lb' w') :=
  fun w ⟨Sa, Sb, v, hw⟩ => (h w Sb v hw.b).mono fun _ _ ⟨he, S', v', d1, d2, d3⟩ => ⟨he, Sa, S', v', hw.right d1 d2 d3⟩
theorem Dt.codeK {f : FuncId} {args : Array Value} {u : Value} (h : ∀ w S, Whl w S A na la La → Calls Try.prog f args w fun e w' => e = .returned u ∧ Kept w w') :
    Hid (∀ w, Dt W A B D q na la La nb lb Lb w → Calls Try.prog f args w fun e w' => e = .returned u ∧ Dt W A B D q na la La nb lb Lb w') :=
  fun w ⟨Sa, Sb, v, hw⟩ => (h w Sa hw.a).mono fun _ _ ⟨he, d1⟩ => ⟨he, Sa, Sb, v, hw.kept d1⟩
theorem Du.ord {now last : Int} {L : List (Int × Int)} (h : Du W A B now last L w) : L.Pairwise lt2 := by obtain ⟨_, _, _, h, _⟩ := h; exact h.ord
theorem Du.bounds {now last : Int} {L : List (Int × Int)} (h : Du W A B now last L w) : 0 ≤ now ∧ now ≤ 1125899906842624 ∧ 0 ≤ last ∧ L.length ≤ 4096 := by obtain ⟨_, _, _, h, _⟩ := h; exact h.bounds

set_option maxHeartbeats 1000000 in
set_option maxRecDepth 100000 in
theorem does_add {now last : Int} {L : List (Int × Int)} (h : Du W A B now last L w) (hL : L.length < 4096) (hl : last < 1152921504606846976) (k n : Int) (hk : k = 0 ∨ k = 1 ∨ k = 2) (more : Bool) :
    Calls Try.prog 11 #[.pointer (some ⟨A, 0, none⟩), .pointer (some ⟨B, 0, none⟩), .agg #[.int .i64 k, .int .i64 n, .bool more]] w fun e w' => e = .returned (.bool true) ∧ Du W A B now (last + 1) (ins (clamp (eff more now n)) (last + 1) L) w' := by
  have A0 := h.with #[.int .i64 k, .int .i64 n, .bool more]
  obtain ⟨x, hx⟩ : ∃ x, eff more now n = x := ⟨_, rfl⟩
  obtain ⟨y, hy⟩ : ∃ y, Hid (ins (clamp x) (last + 1) L = y) := ⟨_, rfl⟩
  rw [hx, hy.out]
  have hord := h.ord
  have hbd := h.bounds
  have H1 := Dt.code (W := W) (B := B) (D := w.heap.size) (q := #[.int .i64 k, .int .i64 n, .bool more]) (nb := now) (lb := last) (Lb := L) fun w S hw => (add_room (w := w) (S := S) (B := A) (now := now) (L := L) hw hL hl x).mono fun e w' hp => ⟨hp.1, by have h2 := hp.2; rw [hy.out] at h2; exact h2⟩
  have H2 := Dt.ref (W := W) (A := A) (D := w.heap.size) (q := #[.int .i64 k, .int .i64 n, .bool more]) (na := now) (la := last + 1) (La := y) fun w S v hw => (radd_any' (w := w) (S := S) (B := B) (now := now) (v := v) hw hord hL hbd.2.2.1 hl x).mono fun e w' hp => ⟨hp.1, by have h2 := hp.2; rw [hy.out] at h2; exact h2⟩
  obtain ⟨c0, c1, c2⟩ := A0.cells
  have n0 := A0.now
  have RA : ∀ w, Calls Try.prog 22 #[.int .i64 now, .int .i64 n] w fun e w' => e = .returned (.int .i64 (Tk.add now n)) ∧ w = w' := fun w => Tk.radd_any now n w
  have RA := Lib.hid RA
  have HX := Lib.hid hx
  have A1 := A0.kept ((Kept.refl _).drewN 0)
  have A0 := Lib.hid A0
  clear h hx hbd hord A1
  cases more with
  | true =>
    have HX : Hid (Tk.add now n = x) := HX
    rw [HX.out] at RA
    rcases hk with rfl | rfl | rfl
    all_goals
      go_enter Try.func11, Try.ntmps11
      go_wp2_with fail
      go_quiet ((go_at_call 22; exact Calls.quiet_of_same ((RA.out _).mono fun _ _ h => ⟨h.1, h.2.symm⟩)))
      go_wp2_with (first | (go_at_call 16; refine (H1.out _ (A0.out.kept ((Kept.refl _).drewN _))).mono ?_; rintro e w1 ⟨rfl, A1⟩) | (go_at_call 23; refine (H2.out _ A1).mono ?_; rintro e w2 ⟨rfl, A2⟩))
      go_ret
      exact ⟨rfl, A2.alone⟩
  | false =>
    obtain rfl : n = x := HX.out
    rcases hk with rfl | rfl | rfl
    all_goals
      go_enter Try.func11, Try.ntmps11
      go_wp2_with (first | (go_at_call 16; refine (H1.out _ (A0.out.kept (Kept.refl _))).mono ?_; rintro e w1 ⟨rfl, A1⟩) | (go_at_call 23; refine (H2.out _ A1).mono ?_; rintro e w2 ⟨rfl, A2⟩))
      go_ret
      exact ⟨rfl, A2.alone⟩

theorem Whl.nodup {S : Nat → Prop} {now last : Int} {L : List (Int × Int)} (h : Whl w S A now last L) : (L.map Prod.snd).Nodup := by
  obtain ⟨M, sv, ls, T, h1, I, E, _⟩ := h; exact E.handles_nodup
theorem Du.nodup {now last : Int} {L : List (Int × Int)} (h : Du W A B now last L w) : (L.map Prod.snd).Nodup := by obtain ⟨_, _, _, h, _⟩ := h; exact Whl.nodup h

set_option maxHeartbeats 1000000 in
set_option maxRecDepth 100000 in
theorem does_cancel {now last : Int} {L : List (Int × Int)} (h : Du W A B now last L w) (n : Int) (hn : inR n) (more : Bool) :
    Calls Try.prog 11 #[.pointer (some ⟨A, 0, none⟩), .pointer (some ⟨B, 0, none⟩), .agg #[.int .i64 3, .int .i64 n, .bool more]] w fun e w' => e = .returned (.bool true) ∧ Du W A B now last (del n L) w' := by
  have A0 := h.with #[.int .i64 3, .int .i64 n, .bool more]
  obtain ⟨x, hx⟩ : ∃ x, eff more now n = x := ⟨_, rfl⟩
  obtain ⟨y, hy⟩ : ∃ y, Hid (del n L = y) := ⟨_, rfl⟩
  obtain ⟨b, hb⟩ : ∃ b, Hid ((tim n L).isSome = b) := ⟨_, rfl⟩
  rw [hy.out]
  have hbd := h.bounds
  have hnd := h.nodup
  have H1 := Dt.code (W := W) (B := B) (D := w.heap.size) (q := #[.int .i64 3, .int .i64 n, .bool more]) (nb := now) (lb := last) (Lb := L) (u := .bool b) fun w S hw => (cancel_any (w := w) (S := S) (B := A) (now := now) (last := last) (L := L) hw hn).mono fun e w' hp => ⟨by rw [← hb.out]; exact hp.1, by have h2 := hp.2; rw [hy.out] at h2; exact h2⟩
  have H2 := Dt.ref (W := W) (A := A) (D := w.heap.size) (q := #[.int .i64 3, .int .i64 n, .bool more]) (na := now) (la := last) (La := y) (u := .bool b) fun w S v hw => (rcancel_any (w := w) (S := S) (B := B) (now := now) (last := last) (v := v) hw (by omega) hnd n).mono fun e w' hp => ⟨by rw [← hb.out]; exact hp.1, by have h2 := hp.2; rw [hy.out] at h2; exact h2⟩
  obtain ⟨c0, c1, c2⟩ := A0.cells
  have n0 := A0.now
  have RA : ∀ w, Calls Try.prog 22 #[.int .i64 now, .int .i64 n] w fun e w' => e = .returned (.int .i64 (Tk.add now n)) ∧ w = w' := fun w => Tk.radd_any now n w
  have RA := Lib.hid RA
  have HX := Lib.hid hx
  have A0 := Lib.hid A0
  clear h hx hbd hnd
  cases more with
  | true =>
    have HX : Hid (Tk.add now n = x) := HX
    rw [HX.out] at RA
    go_enter Try.func11, Try.ntmps11
    go_wp2_with fail
    go_quiet ((go_at_call 22; exact Calls.quiet_of_same ((RA.out _).mono fun _ _ h => ⟨h.1, h.2.symm⟩)))
    have A3 := (A0.out.kept ((Kept.refl _).drewN nq)).drew
    go_wp2_with fail
    go_region_held3 (fun w' => w'.cell? ⟨w.heap.size, 1, none⟩ = some (.int .i64 n)) (first | exact (Dt.cells (by assumption)).2.1)
      (first | (go_at_call 19; refine (H1.out _ (by assumption)).mono ?_; rintro e w1 ⟨rfl, A1⟩) | (go_at_call 24; refine (H2.out _ (by assumption)).mono ?_; rintro e w2 ⟨rfl, A2⟩))
    go_wp2_with fail
    go_ret
    exact ⟨rfl, Dt.alone (by assumption)⟩
  | false =>
    go_enter Try.func11, Try.ntmps11
    have A3 := A0.out.drew
    go_wp2_with fail
    go_region_held3 (fun w' => w'.cell? ⟨w.heap.size, 1, none⟩ = some (.int .i64 n)) (first | exact (Dt.cells (by assumption)).2.1)
      (first | (go_at_call 19; refine (H1.out _ (by assumption)).mono ?_; rintro e w1 ⟨rfl, A1⟩) | (go_at_call 24; refine (H2.out _ (by assumption)).mono ?_; rintro e w2 ⟨rfl, A2⟩))
    go_wp2_with fail
    go_ret
    exact ⟨rfl, Dt.alone (by assumption)⟩

set_option maxHeartbeats 1000000 in
set_option maxRecDepth 100000 in
theorem does_time {now last : Int} {L : List (Int × Int)} (h : Du W A B now last L w) (n : Int) (hn : inR n) (more : Bool) :
    Calls Try.prog 11 #[.pointer (some ⟨A, 0, none⟩), .pointer (some ⟨B, 0, none⟩), .agg #[.int .i64 6, .int .i64 n, .bool more]] w fun e w' => e = .returned (.bool true) ∧ Du W A B now last L w' := by
  have A0 := h.with #[.int .i64 6, .int .i64 n, .bool more]
  obtain ⟨x, hx⟩ : ∃ x, eff more now n = x := ⟨_, rfl⟩
  obtain ⟨t, ht⟩ : ∃ t, Hid ((tim n L).getD 0 = t) := ⟨_, rfl⟩
  obtain ⟨b, hb⟩ : ∃ b, Hid ((tim n L).isSome = b) := ⟨_, rfl⟩
  have hbd := h.bounds
  have H1 := Dt.codeK (W := W) (B := B) (D := w.heap.size) (q := #[.int .i64 6, .int .i64 n, .bool more]) (nb := now) (lb := last) (Lb := L) (u := .tuple #[.int .i64 t, .bool b]) fun w S hw => (time_any (w := w) (S := S) (B := A) (now := now) (last := last) (L := L) hw hn).mono fun e w' hp => ⟨by rw [← hb.out, ← ht.out]; exact hp.1, hp.2⟩
  have H2 := Dt.ref (W := W) (A := A) (D := w.heap.size) (q := #[.int .i64 6, .int .i64 n, .bool more]) (na := now) (la := last) (La := L) (u := .tuple #[.int .i64 t, .bool b]) fun w S v hw => (rtime_any (w := w) (S := S) (B := B) (now := now) (last := last) (v := v) (L := L) hw (by omega) n).mono fun e w' hp => ⟨by rw [← hb.out, ← ht.out]; exact hp.1, show Rent w S B now last L w' from ⟨S, v, hp.2 ▸ hw, fun _ c => Or.inl c, hp.2 ▸ Fr.refl _ _⟩⟩
  obtain ⟨c0, c1, c2⟩ := A0.cells
  have n0 := A0.now
  have RA : ∀ w, Calls Try.prog 22 #[.int .i64 now, .int .i64 n] w fun e w' => e = .returned (.int .i64 (Tk.add now n)) ∧ w = w' := fun w => Tk.radd_any now n w
  have RA := Lib.hid RA
  have HX := Lib.hid hx
  have A0 := Lib.hid A0
  clear h hx hbd
  cases more with
  | true =>
    have HX : Hid (Tk.add now n = x) := HX
    rw [HX.out] at RA
    go_enter Try.func11, Try.ntmps11
    go_wp2_with fail
    go_quiet ((go_at_call 22; exact Calls.quiet_of_same ((RA.out _).mono fun _ _ h => ⟨h.1, h.2.symm⟩)))
    have A3 := A0.out.kept ((Kept.refl _).drewN nq)
    go_wp2_with (first | (go_at_call 20; refine (H1.out _ (by assumption)).mono ?_; rintro e w1 ⟨rfl, A1⟩; have c1' := A1.cells.2.1) | (go_at_call 27; refine (H2.out _ (by assumption)).mono ?_; rintro e w2 ⟨rfl, A2⟩))
    go_ret
    exact ⟨rfl, Dt.alone (by assumption)⟩
  | false =>
    have A3 := A0.out
    go_enter Try.func11, Try.ntmps11
    go_wp2_with (first | (go_at_call 20; refine (H1.out _ (by assumption)).mono ?_; rintro e w1 ⟨rfl, A1⟩; have c1' := A1.cells.2.1) | (go_at_call 27; refine (H2.out _ (by assumption)).mono ?_; rintro e w2 ⟨rfl, A2⟩))
    go_ret
    exact ⟨rfl, Dt.alone (by assumption)⟩

set_option maxHeartbeats 1000000 in
set_option maxRecDepth 100000 in
theorem does_none {now last : Int} {L : List (Int × Int)} (h : Du W A B now last L w) (k n : Int) (hk : k < 0 ∨ 6 < k) (more : Bool) :
    Calls Try.prog 11 #[.pointer (some ⟨A, 0, none⟩), .pointer (some ⟨B, 0, none⟩), .agg #[.int .i64 k, .int .i64 n, .bool more]] w fun e w' => e = .returned (.bool true) ∧ Du W A B now last L w' := by
  have A0 := h.with #[.int .i64 k, .int .i64 n, .bool more]
  obtain ⟨x, hx⟩ : ∃ x, eff more now n = x := ⟨_, rfl⟩
  obtain ⟨c0, c1, c2⟩ := A0.cells
  have n0 := A0.now
  have RA : ∀ w, Calls Try.prog 22 #[.int .i64 now, .int .i64 n] w fun e w' => e = .returned (.int .i64 (Tk.add now n)) ∧ w = w' := fun w => Tk.radd_any now n w
  have RA := Lib.hid RA
  have HX := Lib.hid hx
  have A0 := Lib.hid A0
  have k0 : (k == 0) = false := by simp; omega
  have k1 : (k == 1) = false := by simp; omega
  have k2 : (k == 2) = false := by simp; omega
  have k3 : (k == 3) = false := by simp; omega
  have k4 : (k == 4) = false := by simp; omega
  have k5 : (k == 5) = false := by simp; omega
  have k6 : (k == 6) = false := by simp; omega
  clear h hx hk
  cases more with
  | true =>
    have HX : Hid (Tk.add now n = x) := HX
    rw [HX.out] at RA
    go_enter Try.func11, Try.ntmps11
    go_wp2_with fail
    go_quiet ((go_at_call 22; exact Calls.quiet_of_same ((RA.out _).mono fun _ _ h => ⟨h.1, h.2.symm⟩)))
    go_wp2_with fail
    go_ret
    exact ⟨rfl, (A0.out.kept ((Kept.refl _).drewN _)).alone⟩
  | false =>
    go_enter Try.func11, Try.ntmps11
    go_wp2_with fail
    go_ret
    exact ⟨rfl, A0.out.alone⟩

/-- the wheel went on, and what it told -/
def DtR (W : World) (A B D : Nat) (q : Array Value) (na la : Int) (La : List (Int × Int)) (nb lb : Int) (Lb : List (Int × Int)) (u : Value) (X : List Int) (w : World) : Prop :=
  ∃ Sa Sb v, Dt' W A B D q na la La nb lb Lb w Sa Sb v ∧ Row w u X ∧ ∀ g, u.ownBlock = some g → ¬ Sb g
theorem Dt.adv {now last m n : Int} {L : List (Int × Int)} (hm : max now (clamp n) = m) : Hid (∀ w, Dt W A B D q now last L now last L w → Calls Try.prog 17 #[.pointer (some ⟨A, 0, none⟩), .int .i64 n] w fun e w' => ∃ u, e = .returned u ∧ DtR W A B D q m last (Wh.rest m L) now last L u ((Wh.due m L).map Prod.snd) w') :=
  fun w ⟨Sa, Sb, v, h⟩ => (advance_any h.a n hm).mono fun e w' ⟨u, S', he, r, h5, s5, f5, n5⟩ => ⟨u, he, S', Sb, v, h.left h5 s5 f5, r, fun g e c => by have := (n5 g e).1; have := h.b.sLt g c; omega⟩
theorem DtR.adv {now last m n : Int} {L La : List (Int × Int)} (hm : max now (clamp n) = m) (hs : L.Pairwise lt2) (hL : L.length ≤ 100000) (h0 : 0 ≤ now) (h1 : now ≤ 1125899906842624) {u : Value} {X : List Int} :
    Hid (∀ w, DtR W A B D q m last La now last L u X w → Calls Try.prog 26 #[.pointer (some ⟨B, 0, none⟩), .int .i64 n] w fun e w' => ∃ u2, e = .returned u2 ∧ Row w' u X ∧ Row w' u2 ((Wh.due m L).map Prod.snd) ∧ Dt W A B D q m last La m last (Wh.rest m L) w') :=
  fun w ⟨Sa, Sb, v, h, r, hn⟩ => (radvance_any h.b hs hL h0 h1 n hm).mono fun e w' ⟨u2, S', vw, he, r2, h5, s5, f5, n5⟩ => ⟨u2, he, r.kept fun g e => f5.block g (r.lt e) (hn g e), r2, Sa, S', vw, h.right h5 s5 f5⟩

set_option maxHeartbeats 1000000 in
set_option maxRecDepth 100000 in
theorem does_advance {now last m : Int} {L : List (Int × Int)} (h : Du W A B now last L w) (k n : Int) (hk : k = 4 ∨ k = 5) (more : Bool) (hm : max now (clamp (eff more now n)) = m) :
    Calls Try.prog 11 #[.pointer (some ⟨A, 0, none⟩), .pointer (some ⟨B, 0, none⟩), .agg #[.int .i64 k, .int .i64 n, .bool more]] w fun e w' => e = .returned (.bool true) ∧ Du W A B m last (Wh.rest m L) w' := by
  have A0 := h.with #[.int .i64 k, .int .i64 n, .bool more]
  obtain ⟨x, hx⟩ : ∃ x, eff more now n = x := ⟨_, rfl⟩
  rw [hx] at hm
  have hbd := h.bounds
  have hord := h.ord
  have H1 := Dt.adv (W := W) (A := A) (B := B) (D := w.heap.size) (q := #[.int .i64 k, .int .i64 n, .bool more]) (last := last) (L := L) hm
  have H2 := fun u => DtR.adv (W := W) (A := A) (B := B) (D := w.heap.size) (q := #[.int .i64 k, .int .i64 n, .bool more]) (last := last) (L := L) (La := Wh.rest m L) (u := u) (X := (Wh.due m L).map Prod.snd) hm hord (by omega) hbd.1 hbd.2.1
  have HL : Hid (((Wh.due m L).map Prod.snd).length ≤ 100000) := by
    show _ ≤ _; rw [List.length_map]; have := due_rest m L; omega
  have H2 := Lib.hid H2
  obtain ⟨c0, c1, c2⟩ := A0.cells
  have n0 := A0.now
  have RA : ∀ w, Calls Try.prog 22 #[.int .i64 now, .int .i64 n] w fun e w' => e = .returned (.int .i64 (Tk.add now n)) ∧ w = w' := fun w => Tk.radd_any now n w
  have RA := Lib.hid RA
  have HX := Lib.hid hx
  have A0 := Lib.hid A0
  clear h hx hbd hord hm
  cases more with
  | true =>
    have HX : Hid (Tk.add now n = x) := HX
    rw [HX.out] at RA
    rcases hk with rfl | rfl
    all_goals
      go_enter Try.func11, Try.ntmps11
      go_wp2_with fail
      go_quiet ((go_at_call 22; exact Calls.quiet_of_same ((RA.out _).mono fun _ _ h => ⟨h.1, h.2.symm⟩)))
      have A3 := A0.out.kept ((Kept.refl _).drewN nq)
      go_wp2_with fail
      refine (H1.out _ A3).mono ?_
      rintro e w1 ⟨u, rfl, A4⟩
      have H3 := H2.out u
      go_wp2_with fail
      refine (H3.out _ A4).mono ?_
      rintro e w2 ⟨u2, rfl, r1, r2, A5⟩
      have HI := Lib.hid (ints_same r1 r2 HL.out)
      clear r1 r2
      go_wp2_with fail
      refine HI.out.mono ?_
      rintro e w3 ⟨rfl, k3⟩
      go_wp2_with fail
      go_ret
      exact ⟨rfl, (A5.kept k3).alone⟩
  | false =>
    obtain rfl : n = x := HX.out
    have A3 := A0.out
    rcases hk with rfl | rfl
    all_goals
      go_enter Try.func11, Try.ntmps11
      go_wp2_with fail
      refine (H1.out _ A3).mono ?_
      rintro e w1 ⟨u, rfl, A4⟩
      have H3 := H2.out u
      go_wp2_with fail
      refine (H3.out _ A4).mono ?_
      rintro e w2 ⟨u2, rfl, r1, r2, A5⟩
      have HI := Lib.hid (ints_same r1 r2 HL.out)
      clear r1 r2
      go_wp2_with fail
      refine HI.out.mono ?_
      rintro e w3 ⟨rfl, k3⟩
      go_wp2_with fail
      go_ret
      exact ⟨rfl, (A5.kept k3).alone⟩
end

end Go.Proofs.Ytffhjdkhmggakaa.Rf
