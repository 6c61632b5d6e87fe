/- Package packet: packets read of bytes. -/
import Derived.Test.YtpgfaklnbehmhaaDoorPk5
import Derived.Test.YtpgfaklnbehmhaaDoorPkR
namespace Go.Proofs.YtpgfaklnbehmhaaDoor.Pk
open Go.RowKit Go.Sort St BsM IdM PkM
open Go.Proofs.YtpgfaklnbehmhaaDoor.Id
open Go.Proofs.YtpgfaklnbehmhaaDoor.Bs
set_option linter.unusedVariables false

theorem zero_arr : Pk.none.arr = #[.int .i64 0, .int .i64 0, .int .i64 0, .int .i64 0, .int .i64 0, .int .i64 0, .int .i64 0, .int .i64 0, .int .i64 0, .string ⟨#[]⟩, .int .i64 0, .int .i64 0, .int .i64 0, .int .i64 0, .int .i64 0, .int .i64 0, .int .i64 0, .int .i64 0, .int .i64 0, .int .i64 0, .int .i64 0, .bool false, .int .i64 0] := rfl
/-- where a call w on a reader (at block b) stands, that has laid a packet (at block q) and its result (at block r) -/
structure Rr (w : World) (b q r : Nat) (s : S) (A : Array Value) (u : World) : Prop where
  hb : b < w.heap.size
  hq : w.heap.size ≤ q
  hr : w.heap.size ≤ r
  ne : q ≠ r
  rd : Rd u b s
  only : Only b w u
  blk : u.heap[q]? = some (.cells A 27 (0, 0))
  res : u.heap[r]? = some (.cells Pk.none.arr 27 (0, 0))
theorem Rr.go {w : World} {b q r : Nat} {s s' : S} {A : Array Value} {u v : World} (h : Rr w b q r s A u) (hrd : Rd v b s') (ho : Only b u v) : Rr w b q r s' A v :=
  ⟨h.hb, h.hq, h.hr, h.ne, hrd, h.only.trans ho, ho.other h.blk (by have := h.hb; have := h.hq; omega), ho.other h.res (by have := h.hb; have := h.hr; omega)⟩
theorem Rr.set {w : World} {b q r : Nat} {s : S} {A : Array Value} {u : World} (h : Rr w b q r s A u) (o : Nat) (x : Value) : Rr w b q r s (A.setIfInBounds o x) (u.setCell ⟨q, o, none⟩ x) := by
  have h1 := h.hb
  have h2 := h.hq
  have h3 := h.ne
  refine ⟨h.hb, h.hq, h.hr, h.ne, (Below.heap_setCell _ _ _ _ (show b ≠ q by omega)).trans h.rd, ⟨h.only.os, h.only.tape, h.only.output, by simpa [World.setCell] using h.only.size, fun k hk hkb => ?_⟩, blk_set h.blk o x, (Below.heap_setCell _ _ _ _ (Ne.symm h3)).trans h.res⟩
  exact (Below.heap_setCell _ _ _ _ (show k ≠ q by omega)).trans (h.only.block k hk hkb)
theorem Rr.new1 {w : World} {b : Nat} {s : S} (hrd : Rd w b s) (A : Array Value) : Rr w b w.heap.size (w.heap.size + 1) s A ((w.alloc (.cells A 27 (0, 0))).alloc (.cells #[.int .i64 0, .int .i64 0, .int .i64 0, .int .i64 0, .int .i64 0, .int .i64 0, .int .i64 0, .int .i64 0, .int .i64 0, .string ⟨#[]⟩, .int .i64 0, .int .i64 0, .int .i64 0, .int .i64 0, .int .i64 0, .int .i64 0, .int .i64 0, .int .i64 0, .int .i64 0, .int .i64 0, .int .i64 0, .bool false, .int .i64 0] 27 (0, 0))) := by
  have k : Kept w ((w.alloc (.cells A 27 (0, 0))).alloc (.cells #[.int .i64 0, .int .i64 0, .int .i64 0, .int .i64 0, .int .i64 0, .int .i64 0, .int .i64 0, .int .i64 0, .int .i64 0, .string ⟨#[]⟩, .int .i64 0, .int .i64 0, .int .i64 0, .int .i64 0, .int .i64 0, .int .i64 0, .int .i64 0, .int .i64 0, .int .i64 0, .int .i64 0, .int .i64 0, .bool false, .int .i64 0] 27 (0, 0))) := Kept.more (Kept.one _ _) _
  exact ⟨blk_lt hrd, Nat.le_refl _, by omega, by omega, hrd.kept k, only_kept k, kept_blk (Kept.one _ _) (blk_new w _), blk2 w _ _⟩
theorem Rr.new2 {w : World} {b : Nat} {s : S} (hrd : Rd w b s) : Rr w b (w.heap.size + 1) w.heap.size s Pk.none.arr ((w.alloc (.cells #[.int .i64 0, .int .i64 0, .int .i64 0, .int .i64 0, .int .i64 0, .int .i64 0, .int .i64 0, .int .i64 0, .int .i64 0, .string ⟨#[]⟩, .int .i64 0, .int .i64 0, .int .i64 0, .int .i64 0, .int .i64 0, .int .i64 0, .int .i64 0, .int .i64 0, .int .i64 0, .int .i64 0, .int .i64 0, .bool false, .int .i64 0] 27 (0, 0))).alloc (.cells #[.int .i64 0, .int .i64 0, .int .i64 0, .int .i64 0, .int .i64 0, .int .i64 0, .int .i64 0, .int .i64 0, .int .i64 0, .string ⟨#[]⟩, .int .i64 0, .int .i64 0, .int .i64 0, .int .i64 0, .int .i64 0, .int .i64 0, .int .i64 0, .int .i64 0, .int .i64 0, .int .i64 0, .int .i64 0, .bool false, .int .i64 0] 27 (0, 0))) := by
  have k : Kept w ((w.alloc (.cells #[.int .i64 0, .int .i64 0, .int .i64 0, .int .i64 0, .int .i64 0, .int .i64 0, .int .i64 0, .int .i64 0, .int .i64 0, .string ⟨#[]⟩, .int .i64 0, .int .i64 0, .int .i64 0, .int .i64 0, .int .i64 0, .int .i64 0, .int .i64 0, .int .i64 0, .int .i64 0, .int .i64 0, .int .i64 0, .bool false, .int .i64 0] 27 (0, 0))).alloc (.cells #[.int .i64 0, .int .i64 0, .int .i64 0, .int .i64 0, .int .i64 0, .int .i64 0, .int .i64 0, .int .i64 0, .int .i64 0, .string ⟨#[]⟩, .int .i64 0, .int .i64 0, .int .i64 0, .int .i64 0, .int .i64 0, .int .i64 0, .int .i64 0, .int .i64 0, .int .i64 0, .int .i64 0, .int .i64 0, .bool false, .int .i64 0] 27 (0, 0))) := Kept.more (Kept.one _ _) _
  exact ⟨blk_lt hrd, by omega, Nat.le_refl _, by omega, hrd.kept k, only_kept k, blk2 w _ _, kept_blk (Kept.one _ _) (blk_new w _)⟩
theorem Rr.done {w : World} {b q r : Nat} {s : S} {A : Array Value} {u : World} (h : Rr w b q r s A u) (B : Array Value) : Rd (u.setRow r B) b s ∧ Only b w (u.setRow r B) := by
  have h1 := h.hb
  have h2 := h.hr
  refine ⟨(setRow_other _ _ _ _ (by omega)).trans h.rd, ⟨by rw [setRow_os]; exact h.only.os, by rw [setRow_tape]; exact h.only.tape, by rw [setRow_output]; exact h.only.output, by rw [setRow_size]; exact h.only.size, fun k hk hkb => ?_⟩⟩
  rw [setRow_other _ _ _ _ (by omega)]; exact h.only.block k hk hkb
theorem Rr.at {w : World} {b q r : Nat} {s : S} {A : Array Value} {u : World} (h : Rr w b q r s A u) (k : Nat) : u.cell? ⟨q, k, none⟩ = A[k]? := blk_cell h.blk k
theorem Rr.may {w : World} {b q r : Nat} {s : S} {A : Array Value} {u : World} (h : Rr w b q r s A u) (k : Nat) : u.frozen? ⟨q, k, none⟩ = false := blk_free h.blk k
theorem num_rr {w : World} {b q r : Nat} {s s' : S} {A : Array Value} {k m : Int} (hm : Hid ((numV s k : Int) = m)) (hs : Hid (numS s k = s')) {u : World} (h : Rr w b q r s A u) :
    Calls Tryd.prog 51 #[.pointer (some ⟨b, 0, none⟩), .int .i64 k] u fun e v => e = .returned (.int .i64 m) ∧ Rr w b q r s' A v := by
  have := rdnum_any b s k u h.rd
  rw [hm.out, hs.out] at this
  exact this.mono fun _ _ ⟨he, h1, h2⟩ => ⟨he, h.go h1 h2⟩
theorem text_rr {w : World} {b q r : Nat} {s s' : S} {A : Array Value} {D : ByteArray} (hm : Hid ((⟨(textV s).toArray⟩ : ByteArray) = D)) (hs : Hid (textS s = s')) {u : World} (h : Rr w b q r s A u) :
    Calls Tryd.prog 67 #[.pointer (some ⟨b, 0, none⟩)] u fun e v => e = .returned (.string D) ∧ Rr w b q r s' A v := by
  have := rdtext_any b s u h.rd
  rw [hm.out, hs.out] at this
  exact this.mono fun _ _ ⟨he, h1, h2⟩ => ⟨he, h.go h1 h2⟩
theorem flag_rr {w : World} {b q r : Nat} {s s' : S} {A : Array Value} {z : Bool} (hm : Hid (flagV s = z)) (hs : Hid (flagS s = s')) {u : World} (h : Rr w b q r s A u) :
    Calls Tryd.prog 53 #[.pointer (some ⟨b, 0, none⟩)] u fun e v => e = .returned (.bool z) ∧ Rr w b q r s' A v := by
  have := rdflag_any b s u h.rd
  rw [hm.out, hs.out] at this
  exact this.mono fun _ _ ⟨he, h1, h2⟩ => ⟨he, h.go h1 h2⟩
theorem fail_rr {w : World} {b q r : Nat} {s s' : S} {A : Array Value} {x : Int} (hs : Hid (failS s x = s')) {u : World} (h : Rr w b q r s A u) :
    Calls Tryd.prog 54 #[.pointer (some ⟨b, 0, none⟩), .int .i64 x] u fun e v => e = .returned (.tuple #[]) ∧ Rr w b q r s' A v := by
  have := fail_any b s x u h.rd
  rw [hs.out] at this
  exact this.mono fun _ _ ⟨he, h1, h2⟩ => ⟨he, h.go h1 h2⟩
theorem read_rr {w : World} {b q r : Nat} {s s' : S} {A : Array Value} {x y z : Int} (h1 : Hid (rdn s = x)) (h2 : Hid (rdi s = y)) (h3 : Hid (rds s = z)) (hs : Hid (readS s = s')) {u : World} (h : Rr w b q r s A u) :
    Calls Tryd.prog 68 #[.pointer (some ⟨b, 0, none⟩)] u fun e v => e = .returned (.agg #[.int .i64 x, .int .i64 y, .int .i64 z]) ∧ Rr w b q r s' A v := by
  have := read_any b s u h.rd
  rw [readV_eq, h1.out, h2.out, h3.out, hs.out] at this
  exact this.mono fun _ _ ⟨he, h1, h2⟩ => ⟨he, h.go h1 h2⟩
theorem key_rr {w : World} {b q r : Nat} {s s' : S} {A : Array Value} {x y z a : Int} (h1 : Hid (kvn s = x)) (h2 : Hid (kvi s = y)) (h3 : Hid (kvs s = z)) (h4 : Hid (kva s = a)) (hs : Hid (rkS s = s')) {u : World} (h : Rr w b q r s A u) :
    Calls Tryd.prog 55 #[.pointer (some ⟨b, 0, none⟩)] u fun e v => e = .returned (.agg #[.int .i64 x, .int .i64 y, .int .i64 z, .int .i64 a]) ∧ Rr w b q r s' A v := by
  have := readkey_any b s u h.rd
  rw [rkV_eq, h1.out, h2.out, h3.out, h4.out, hs.out] at this
  exact this.mono fun _ _ ⟨he, h1, h2⟩ => ⟨he, h.go h1 h2⟩
theorem head_arr (m1 m2 m3 x y z a : Int) : (((((((Pk.none.arr.setIfInBounds 0 (.int .i64 m1)).setIfInBounds 1 (.int .i64 m2)).setIfInBounds 2 (.int .i64 m3)).setIfInBounds 3 (.int .i64 x)).setIfInBounds 4 (.int .i64 y)).setIfInBounds 5 (.int .i64 z)).setIfInBounds 6 (.int .i64 a)) = (Pk.mk m1 m2 m3 x y z a 0 0 ⟨#[]⟩ 0 0 0 0 0 0 0 0 0 0 0 false 0).arr := rfl
theorem call_arr (p : Pk) (m1 m2 : Int) (D : ByteArray) (m4 m5 i1 i2 i3 x y z a : Int) : ((((((((((((p.arr.setIfInBounds 7 (.int .i64 m1)).setIfInBounds 8 (.int .i64 m2)).setIfInBounds 9 (.string D)).setIfInBounds 10 (.int .i64 m4)).setIfInBounds 11 (.int .i64 m5)).setIfInBounds 12 (.int .i64 i1)).setIfInBounds 13 (.int .i64 i2)).setIfInBounds 14 (.int .i64 i3)).setIfInBounds 15 (.int .i64 x)).setIfInBounds 16 (.int .i64 y)).setIfInBounds 17 (.int .i64 z)).setIfInBounds 18 (.int .i64 a)) =
    ({ p with hop := m1, stamp := m2, tm := D, til := m4, prog := m5, rn := i1, ri := i2, rs := i3, pn := x, pi := y, ps := z, pa := a } : Pk).arr := by
  unfold Pk.arr; simp only [List.setIfInBounds_toArray, List.set_cons_succ, List.set_cons_zero]

set_option maxRecDepth 100000 in
set_option maxHeartbeats 4000000 in
theorem readhead_any (b : Nat) (s : S) (w : World) (hrd : Rd w b s) : Calls Tryd.prog 29 #[.pointer (some ⟨b, 0, none⟩)] w (Does b w (.agg (headP s).arr) (headS s)) := by
  have h0 := Rr.new2 hrd
  obtain ⟨m1, hm1⟩ : ∃ x : Int, Hid ((numV s 1 : Int) = x) := ⟨_, rfl⟩
  obtain ⟨m2, hm2⟩ : ∃ x : Int, Hid ((numV (a1 s) 1 : Int) = x) := ⟨_, rfl⟩
  obtain ⟨m3, hm3⟩ : ∃ x : Int, Hid ((numV (a2 s) 1 : Int) = x) := ⟨_, rfl⟩
  obtain ⟨x, hx⟩ : ∃ x : Int, Hid (kvn (a3 s) = x) := ⟨_, rfl⟩
  obtain ⟨y, hy⟩ : ∃ x : Int, Hid (kvi (a3 s) = x) := ⟨_, rfl⟩
  obtain ⟨z, hz⟩ : ∃ x : Int, Hid (kvs (a3 s) = x) := ⟨_, rfl⟩
  obtain ⟨a, ha⟩ : ∃ x : Int, Hid (kva (a3 s) = x) := ⟨_, rfl⟩
  have t1 : Hid (numS s 1 = a1 s) := rfl
  have t2 : Hid (numS (a1 s) 1 = a2 s) := rfl
  have t3 : Hid (numS (a2 s) 1 = a3 s) := rfl
  have t4 : Hid (rkS (a3 s) = headS s) := rfl
  clear hrd
  go_enter Tryd.func29, Tryd.ntmps29
  go_upto_region 4 with (go_at_call 51; first
    | ((with_reducible refine (num_rr hm1 t1 h0).mono ?_); rintro e u1 ⟨rfl, hr1⟩)
    | ((with_reducible refine (num_rr hm2 t2 hr1).mono ?_); rintro e u2 ⟨rfl, hr2⟩)
    | ((with_reducible refine (num_rr hm3 t3 hr2).mono ?_); rintro e u3 ⟨rfl, hr3⟩; have g0 : u3.cell? ⟨w.heap.size + 1, 0, none⟩ = some (.int .i64 0) := hr3.at 0; have g1 : u3.cell? ⟨w.heap.size + 1, 1, none⟩ = some (.int .i64 0) := hr3.at 1; have g2 : u3.cell? ⟨w.heap.size + 1, 2, none⟩ = some (.int .i64 0) := hr3.at 2; have f0 := hr3.may 0; have f1 := hr3.may 1; have f2 := hr3.may 2))
  have hY := ((hr3.set 0 (.int .i64 m1)).set 1 (.int .i64 m2)).set 2 (.int .i64 m3)
  go_upto_region 5 with (go_at_call 55; (with_reducible refine (key_rr hx hy hz ha t4 hY).mono ?_); rintro e u4 ⟨rfl, hr4⟩; have g3 : u4.cell? ⟨w.heap.size + 1, 3, none⟩ = some (.int .i64 0) := hr4.at 3; have g4 : u4.cell? ⟨w.heap.size + 1, 4, none⟩ = some (.int .i64 0) := hr4.at 4; have g5 : u4.cell? ⟨w.heap.size + 1, 5, none⟩ = some (.int .i64 0) := hr4.at 5; have g6 : u4.cell? ⟨w.heap.size + 1, 6, none⟩ = some (.int .i64 0) := hr4.at 6; have k3 := hr4.may 3; have k4 := hr4.may 4; have k5 := hr4.may 5; have k6 := hr4.may 6)
  have hZ0 := (((hr4.set 3 (.int .i64 x)).set 4 (.int .i64 y)).set 5 (.int .i64 z)).set 6 (.int .i64 a)
  rw [head_arr] at hZ0
  have hP := Lib.hid (show headP s = Pk.mk m1 m2 m3 x y z a 0 0 ⟨#[]⟩ 0 0 0 0 0 0 0 0 0 0 0 false 0 by unfold headP; rw [hm1.out, hm2.out, hm3.out, hx.out, hy.out, hz.out, ha.out]; rfl)
  obtain ⟨P, hPP⟩ : ∃ P : Pk, Pk.mk m1 m2 m3 x y z a 0 0 ⟨#[]⟩ 0 0 0 0 0 0 0 0 0 0 0 false 0 = P := ⟨_, rfl⟩
  rw [hPP] at hZ0 hP
  have hZ := hZ0
  clear hZ0 hPP
  go_step
  refine wpList_load_row rfl 27 (.tmp 4) rfl (w.heap.size + 1) rfl 27 P.arr (0, 0) _ hZ.blk Tryd.underlying27 rfl info_pk ?_
  refine wpList_store_row rfl 27 (.tmp 2) (.tmp 19) rfl (w.heap.size) _ rfl rfl 27 _ hZ.res info_pk rfl ?h1 ?_
  case h1 => kernel_rfl
  go_wp2_with fail
  obtain ⟨e1, e2⟩ := hZ.done P.arr
  refine bodyPost_ret (results_cell_row rfl _ _ (w.heap.size) 27 _ (0, 0) _ rfl (setRow_heap _ _ _ _ _ _ hZ.res) Tryd.underlying27 rfl info_pk) rfl ?_
  exact ⟨by rw [hP.out], e1, e2⟩

set_option maxRecDepth 100000 in
set_option maxHeartbeats 4000000 in
theorem readcall_any (p : Pk) (b : Nat) (s : S) (w : World) (hrd : Rd w b s) : Calls Tryd.prog 52 #[.agg p.arr, .pointer (some ⟨b, 0, none⟩)] w (Does b w (.agg (callP p s).arr) (callS s)) := by
  have h0 := Rr.new1 hrd p.arr
  obtain ⟨m1, hm1⟩ : ∃ x : Int, Hid ((numV s 1 : Int) = x) := ⟨_, rfl⟩
  obtain ⟨m2, hm2⟩ : ∃ x : Int, Hid ((numV (c1 s) 7 : Int) = x) := ⟨_, rfl⟩
  obtain ⟨D, hD⟩ : ∃ x : ByteArray, Hid ((⟨(textV (c2 s)).toArray⟩ : ByteArray) = x) := ⟨_, rfl⟩
  obtain ⟨m4, hm4⟩ : ∃ x : Int, Hid ((numV (c3 s) 7 : Int) = x) := ⟨_, rfl⟩
  obtain ⟨m5, hm5⟩ : ∃ x : Int, Hid ((numV (c4 s) 1 : Int) = x) := ⟨_, rfl⟩
  obtain ⟨i1, hi1⟩ : ∃ x : Int, Hid (rdn (c5 s) = x) := ⟨_, rfl⟩
  obtain ⟨i2, hi2⟩ : ∃ x : Int, Hid (rdi (c5 s) = x) := ⟨_, rfl⟩
  obtain ⟨i3, hi3⟩ : ∃ x : Int, Hid (rds (c5 s) = x) := ⟨_, rfl⟩
  obtain ⟨x, hx⟩ : ∃ x : Int, Hid (kvn (c6 s) = x) := ⟨_, rfl⟩
  obtain ⟨y, hy⟩ : ∃ x : Int, Hid (kvi (c6 s) = x) := ⟨_, rfl⟩
  obtain ⟨z, hz⟩ : ∃ x : Int, Hid (kvs (c6 s) = x) := ⟨_, rfl⟩
  obtain ⟨a, ha⟩ : ∃ x : Int, Hid (kva (c6 s) = x) := ⟨_, rfl⟩
  have t1 : Hid (numS s 1 = c1 s) := rfl
  have t2 : Hid (numS (c1 s) 7 = c2 s) := rfl
  have t3 : Hid (textS (c2 s) = c3 s) := rfl
  have t4 : Hid (numS (c3 s) 7 = c4 s) := rfl
  have t5 : Hid (numS (c4 s) 1 = c5 s) := rfl
  have t6 : Hid (readS (c5 s) = c6 s) := rfl
  have t7 : Hid (rkS (c6 s) = callS s) := rfl
  clear hrd
  go_enter Tryd.func52, Tryd.ntmps52
  go_upto_region 3 with (first
    | (go_at_call 51; (first
        | ((with_reducible refine (num_rr hm1 t1 h0).mono ?_); rintro e u1 ⟨rfl, hr1⟩)
        | ((with_reducible refine (num_rr hm2 t2 hr1).mono ?_); rintro e u2 ⟨rfl, hr2⟩)
        | ((with_reducible refine (num_rr hm4 t4 hr3).mono ?_); rintro e u4 ⟨rfl, hr4⟩; have g7 : u4.cell? ⟨w.heap.size, 7, none⟩ = some (.int .i64 p.hop) := hr4.at 7; have f7 := hr4.may 7; have g8 : u4.cell? ⟨w.heap.size, 8, none⟩ = some (.int .i64 p.stamp) := hr4.at 8; have f8 := hr4.may 8; have g9 : u4.cell? ⟨w.heap.size, 9, none⟩ = some (.string p.tm) := hr4.at 9; have f9 := hr4.may 9; have g10 : u4.cell? ⟨w.heap.size, 10, none⟩ = some (.int .i64 p.til) := hr4.at 10; have f10 := hr4.may 10)))
    | (go_at_call 67; (with_reducible refine (text_rr hD t3 hr2).mono ?_); rintro e u3 ⟨rfl, hr3⟩))
  have hY := (((hr4.set 7 (.int .i64 m1)).set 8 (.int .i64 m2)).set 9 (.string D)).set 10 (.int .i64 m4)
  clear g7 g8 g9 g10 f7 f8 f9 f10
  go_upto_region 4 with (first
    | (go_at_call 51; (with_reducible refine (num_rr hm5 t5 hY).mono ?_); rintro e u5 ⟨rfl, hr5⟩)
    | (go_at_call 68; (with_reducible refine (read_rr hi1 hi2 hi3 t6 hr5).mono ?_); rintro e u6 ⟨rfl, hr6⟩)
    | (go_at_call 55; (with_reducible refine (key_rr hx hy hz ha t7 hr6).mono ?_); rintro e u7 ⟨rfl, hr7⟩; have g11 : u7.cell? ⟨w.heap.size, 11, none⟩ = some (.int .i64 p.prog) := hr7.at 11; have f11 := hr7.may 11; have g12 : u7.cell? ⟨w.heap.size, 12, none⟩ = some (.int .i64 p.rn) := hr7.at 12; have f12 := hr7.may 12; have g13 : u7.cell? ⟨w.heap.size, 13, none⟩ = some (.int .i64 p.ri) := hr7.at 13; have f13 := hr7.may 13; have g14 : u7.cell? ⟨w.heap.size, 14, none⟩ = some (.int .i64 p.rs) := hr7.at 14; have f14 := hr7.may 14; have g15 : u7.cell? ⟨w.heap.size, 15, none⟩ = some (.int .i64 p.pn) := hr7.at 15; have f15 := hr7.may 15; have g16 : u7.cell? ⟨w.heap.size, 16, none⟩ = some (.int .i64 p.pi) := hr7.at 16; have f16 := hr7.may 16; have g17 : u7.cell? ⟨w.heap.size, 17, none⟩ = some (.int .i64 p.ps) := hr7.at 17; have f17 := hr7.may 17; have g18 : u7.cell? ⟨w.heap.size, 18, none⟩ = some (.int .i64 p.pa) := hr7.at 18; have f18 := hr7.may 18))
  have hZ0 := (((((((hr7.set 11 (.int .i64 m5)).set 12 (.int .i64 i1)).set 13 (.int .i64 i2)).set 14 (.int .i64 i3)).set 15 (.int .i64 x)).set 16 (.int .i64 y)).set 17 (.int .i64 z)).set 18 (.int .i64 a)
  rw [call_arr] at hZ0
  have hP := Lib.hid (show callP p s = ({ p with hop := m1, stamp := m2, tm := D, til := m4, prog := m5, rn := i1, ri := i2, rs := i3, pn := x, pi := y, ps := z, pa := a } : Pk) by unfold callP; rw [hm1.out, hm2.out, hD.out, hm4.out, hm5.out, hi1.out, hi2.out, hi3.out, hx.out, hy.out, hz.out, ha.out])
  obtain ⟨P, hPP⟩ : ∃ P : Pk, ({ p with hop := m1, stamp := m2, tm := D, til := m4, prog := m5, rn := i1, ri := i2, rs := i3, pn := x, pi := y, ps := z, pa := a } : Pk) = P := ⟨_, rfl⟩
  rw [hPP] at hZ0 hP
  have hZ := hZ0
  clear hZ0 hPP
  go_step
  refine wpList_load_row rfl 27 (.tmp 2) rfl (w.heap.size) rfl 27 P.arr (0, 0) _ hZ.blk Tryd.underlying27 rfl info_pk ?_
  refine wpList_store_row rfl 27 (.tmp 4) (.tmp 29) rfl (w.heap.size + 1) _ rfl rfl 27 _ hZ.res info_pk rfl ?h1 ?_
  case h1 => kernel_rfl
  go_wp2_with fail
  obtain ⟨e1, e2⟩ := hZ.done P.arr
  refine bodyPost_ret (results_cell_row rfl _ _ (w.heap.size + 1) 27 _ (0, 0) _ rfl (setRow_heap _ _ _ _ _ _ hZ.res) Tryd.underlying27 rfl info_pk) rfl ?_
  exact ⟨by rw [hP.out], e1, e2⟩

end Go.Proofs.YtpgfaklnbehmhaaDoor.Pk
