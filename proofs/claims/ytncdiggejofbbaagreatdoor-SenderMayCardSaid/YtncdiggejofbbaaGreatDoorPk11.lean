/- Plain: packets read of bytes. No function of the program is spoken of here. Package packet: packets read of bytes. Package packet: what a kind has besides, read of bytes. -/
import Derived.Test.YtncdiggejofbbaaGreatDoorPkM
import Derived.Test.YtncdiggejofbbaaGreatDoorId5
import Derived.Test.YtncdiggejofbbaaGreatDoorPk3
namespace Go.Proofs.YtncdiggejofbbaaGreatDoor.PkM
open Go.RowKit BsM IdM
open Go.Proofs.YtncdiggejofbbaaGreatDoor.Id
set_option linter.unusedVariables false

/-- a key's four numbers, as they are read -/
def kvn (s : S) : Int := if rkOk s then rdn s else 0
def kvi (s : S) : Int := if rkOk s then rdi s else 0
def kvs (s : S) : Int := if rkOk s then rds s else 0
def kva (s : S) : Int := if rkOk s then rda s else 0
theorem rkV_eq (s : S) : rkV s = .agg #[.int .i64 (kvn s), .int .i64 (kvi s), .int .i64 (kvs s), .int .i64 (kva s)] := by
  unfold rkV kvn kvi kvs kva; split <;> rfl

def a1 (s : S) : S := numS s 1
def a2 (s : S) : S := numS (a1 s) 1
def a3 (s : S) : S := numS (a2 s) 1
def headP (s : S) : Pk := { Pk.none with kind := numV s 1, fr := numV (a1 s) 1, to := numV (a2 s) 1, kn := kvn (a3 s), ki := kvi (a3 s), ks := kvs (a3 s), ka := kva (a3 s) }
def headS (s : S) : S := rkS (a3 s)
def c1 (s : S) : S := numS s 1
def c2 (s : S) : S := numS (c1 s) 7
def c3 (s : S) : S := textS (c2 s)
def c4 (s : S) : S := numS (c3 s) 7
def c5 (s : S) : S := numS (c4 s) 1
def c6 (s : S) : S := readS (c5 s)
def callS (s : S) : S := rkS (c6 s)
def callP (p : Pk) (s : S) : Pk := { p with hop := numV s 1, stamp := numV (c1 s) 7, tm := ⟨(textV (c2 s)).toArray⟩, til := numV (c3 s) 7, prog := numV (c4 s) 1, rn := rdn (c5 s), ri := rdi (c5 s), rs := rds (c5 s), pn := kvn (c6 s), pi := kvi (c6 s), ps := kvs (c6 s), pa := kva (c6 s) }
def e2 (s : S) : S := numS (c1 s) 4
def replyP (p : Pk) (s : S) : Pk := { p with code := numV s 1, value := numV (c1 s) 4, more := flagV (e2 s) }
def restP (p : Pk) (s : S) : Pk :=
  if p.kind = 1 then callP p s else if p.kind = 2 then replyP p s else if p.kind = 3 then p else if p.kind = 4 then { p with til := numV s 7 } else if p.kind = 5 then { p with delay := numV s 7 - 1 } else p
def restS (p : Pk) (s : S) : S :=
  if p.kind = 1 then callS s else if p.kind = 2 then flagS (e2 s) else if p.kind = 3 then s else if p.kind = 4 then numS s 7 else if p.kind = 5 then numS s 7 else failS s 9
/-- what is read of a body, and where the reader stands -/
def bodP (s : S) : Pk := restP (headP s) (headS s)
def bodS (s : S) : S := restS (headP s) (headS s)

end Go.Proofs.YtncdiggejofbbaaGreatDoor.PkM

namespace Go.Proofs.YtncdiggejofbbaaGreatDoor.Pk
open Go.RowKit Go.Sort St BsM IdM PkM
open Go.Proofs.YtncdiggejofbbaaGreatDoor.Id
open Go.Proofs.YtncdiggejofbbaaGreatDoor.Bs
set_option linter.unusedVariables false

theorem zero_arr : Pk.none.arr = #[.int .i64 0, .int .i64 0, .int .i64 0, .int .i64 0, .int .i64 0, .int .i64 0, .int .i64 0, .int .i64 0, .int .i64 0, .string ⟨#[]⟩, .int .i64 0, .int .i64 0, .int .i64 0, .int .i64 0, .int .i64 0, .int .i64 0, .int .i64 0, .int .i64 0, .int .i64 0, .int .i64 0, .int .i64 0, .bool false, .int .i64 0] := rfl
/-- where a call w on a reader (at block b) stands, that has laid a packet (at block q) and its result (at block r) -/
structure Rr (w : World) (b q r : Nat) (s : S) (A : Array Value) (u : World) : Prop where
  hb : b < w.heap.size
  hq : w.heap.size ≤ q
  hr : w.heap.size ≤ r
  ne : q ≠ r
  rd : Rd u b s
  only : Only b w u
  blk : u.heap[q]? = some (.cells A 43 (0, 0))
  res : u.heap[r]? = some (.cells Pk.none.arr 43 (0, 0))
theorem Rr.go {w : World} {b q r : Nat} {s s' : S} {A : Array Value} {u v : World} (h : Rr w b q r s A u) (hrd : Rd v b s') (ho : Only b u v) : Rr w b q r s' A v :=
  ⟨h.hb, h.hq, h.hr, h.ne, hrd, h.only.trans ho, ho.other h.blk (by have := h.hb; have := h.hq; omega), ho.other h.res (by have := h.hb; have := h.hr; omega)⟩
theorem Rr.set {w : World} {b q r : Nat} {s : S} {A : Array Value} {u : World} (h : Rr w b q r s A u) (o : Nat) (x : Value) : Rr w b q r s (A.setIfInBounds o x) (u.setCell ⟨q, o, none⟩ x) := by
  have h1 := h.hb
  have h2 := h.hq
  have h3 := h.ne
  refine ⟨h.hb, h.hq, h.hr, h.ne, (Below.heap_setCell _ _ _ _ (show b ≠ q by omega)).trans h.rd, ⟨h.only.os, h.only.tape, h.only.output, by simpa [World.setCell] using h.only.size, fun k hk hkb => ?_⟩, blk_set h.blk o x, (Below.heap_setCell _ _ _ _ (Ne.symm h3)).trans h.res⟩
  exact (Below.heap_setCell _ _ _ _ (show k ≠ q by omega)).trans (h.only.block k hk hkb)
theorem Rr.new1 {w : World} {b : Nat} {s : S} (hrd : Rd w b s) (A : Array Value) : Rr w b w.heap.size (w.heap.size + 1) s A ((w.alloc (.cells A 43 (0, 0))).alloc (.cells #[.int .i64 0, .int .i64 0, .int .i64 0, .int .i64 0, .int .i64 0, .int .i64 0, .int .i64 0, .int .i64 0, .int .i64 0, .string ⟨#[]⟩, .int .i64 0, .int .i64 0, .int .i64 0, .int .i64 0, .int .i64 0, .int .i64 0, .int .i64 0, .int .i64 0, .int .i64 0, .int .i64 0, .int .i64 0, .bool false, .int .i64 0] 43 (0, 0))) := by
  have k : Kept w ((w.alloc (.cells A 43 (0, 0))).alloc (.cells #[.int .i64 0, .int .i64 0, .int .i64 0, .int .i64 0, .int .i64 0, .int .i64 0, .int .i64 0, .int .i64 0, .int .i64 0, .string ⟨#[]⟩, .int .i64 0, .int .i64 0, .int .i64 0, .int .i64 0, .int .i64 0, .int .i64 0, .int .i64 0, .int .i64 0, .int .i64 0, .int .i64 0, .int .i64 0, .bool false, .int .i64 0] 43 (0, 0))) := Kept.more (Kept.one _ _) _
  exact ⟨blk_lt hrd, Nat.le_refl _, by omega, by omega, hrd.kept k, only_kept k, kept_blk (Kept.one _ _) (blk_new w _), blk2 w _ _⟩
theorem Rr.new2 {w : World} {b : Nat} {s : S} (hrd : Rd w b s) : Rr w b (w.heap.size + 1) w.heap.size s Pk.none.arr ((w.alloc (.cells #[.int .i64 0, .int .i64 0, .int .i64 0, .int .i64 0, .int .i64 0, .int .i64 0, .int .i64 0, .int .i64 0, .int .i64 0, .string ⟨#[]⟩, .int .i64 0, .int .i64 0, .int .i64 0, .int .i64 0, .int .i64 0, .int .i64 0, .int .i64 0, .int .i64 0, .int .i64 0, .int .i64 0, .int .i64 0, .bool false, .int .i64 0] 43 (0, 0))).alloc (.cells #[.int .i64 0, .int .i64 0, .int .i64 0, .int .i64 0, .int .i64 0, .int .i64 0, .int .i64 0, .int .i64 0, .int .i64 0, .string ⟨#[]⟩, .int .i64 0, .int .i64 0, .int .i64 0, .int .i64 0, .int .i64 0, .int .i64 0, .int .i64 0, .int .i64 0, .int .i64 0, .int .i64 0, .int .i64 0, .bool false, .int .i64 0] 43 (0, 0))) := by
  have k : Kept w ((w.alloc (.cells #[.int .i64 0, .int .i64 0, .int .i64 0, .int .i64 0, .int .i64 0, .int .i64 0, .int .i64 0, .int .i64 0, .int .i64 0, .string ⟨#[]⟩, .int .i64 0, .int .i64 0, .int .i64 0, .int .i64 0, .int .i64 0, .int .i64 0, .int .i64 0, .int .i64 0, .int .i64 0, .int .i64 0, .int .i64 0, .bool false, .int .i64 0] 43 (0, 0))).alloc (.cells #[.int .i64 0, .int .i64 0, .int .i64 0, .int .i64 0, .int .i64 0, .int .i64 0, .int .i64 0, .int .i64 0, .int .i64 0, .string ⟨#[]⟩, .int .i64 0, .int .i64 0, .int .i64 0, .int .i64 0, .int .i64 0, .int .i64 0, .int .i64 0, .int .i64 0, .int .i64 0, .int .i64 0, .int .i64 0, .bool false, .int .i64 0] 43 (0, 0))) := Kept.more (Kept.one _ _) _
  exact ⟨blk_lt hrd, by omega, Nat.le_refl _, by omega, hrd.kept k, only_kept k, blk2 w _ _, kept_blk (Kept.one _ _) (blk_new w _)⟩
theorem Rr.done {w : World} {b q r : Nat} {s : S} {A : Array Value} {u : World} (h : Rr w b q r s A u) (B : Array Value) : Rd (u.setRow r B) b s ∧ Only b w (u.setRow r B) := by
  have h1 := h.hb
  have h2 := h.hr
  refine ⟨(setRow_other _ _ _ _ (by omega)).trans h.rd, ⟨by rw [setRow_os]; exact h.only.os, by rw [setRow_tape]; exact h.only.tape, by rw [setRow_output]; exact h.only.output, by rw [setRow_size]; exact h.only.size, fun k hk hkb => ?_⟩⟩
  rw [setRow_other _ _ _ _ (by omega)]; exact h.only.block k hk hkb
theorem Rr.at {w : World} {b q r : Nat} {s : S} {A : Array Value} {u : World} (h : Rr w b q r s A u) (k : Nat) : u.cell? ⟨q, k, none⟩ = A[k]? := blk_cell h.blk k
theorem Rr.may {w : World} {b q r : Nat} {s : S} {A : Array Value} {u : World} (h : Rr w b q r s A u) (k : Nat) : u.frozen? ⟨q, k, none⟩ = false := blk_free h.blk k
theorem num_rr {w : World} {b q r : Nat} {s s' : S} {A : Array Value} {k m : Int} (hm : Hid ((numV s k : Int) = m)) (hs : Hid (numS s k = s')) {u : World} (h : Rr w b q r s A u) :
    Calls Tryz.prog 62 #[.pointer (some ⟨b, 0, none⟩), .int .i64 k] u fun e v => e = .returned (.int .i64 m) ∧ Rr w b q r s' A v := by
  have := rdnum_any b s k u h.rd
  rw [hm.out, hs.out] at this
  exact this.mono fun _ _ ⟨he, h1, h2⟩ => ⟨he, h.go h1 h2⟩
theorem text_rr {w : World} {b q r : Nat} {s s' : S} {A : Array Value} {D : ByteArray} (hm : Hid ((⟨(textV s).toArray⟩ : ByteArray) = D)) (hs : Hid (textS s = s')) {u : World} (h : Rr w b q r s A u) :
    Calls Tryz.prog 85 #[.pointer (some ⟨b, 0, none⟩)] u fun e v => e = .returned (.string D) ∧ Rr w b q r s' A v := by
  have := rdtext_any b s u h.rd
  rw [hm.out, hs.out] at this
  exact this.mono fun _ _ ⟨he, h1, h2⟩ => ⟨he, h.go h1 h2⟩
theorem flag_rr {w : World} {b q r : Nat} {s s' : S} {A : Array Value} {z : Bool} (hm : Hid (flagV s = z)) (hs : Hid (flagS s = s')) {u : World} (h : Rr w b q r s A u) :
    Calls Tryz.prog 64 #[.pointer (some ⟨b, 0, none⟩)] u fun e v => e = .returned (.bool z) ∧ Rr w b q r s' A v := by
  have := rdflag_any b s u h.rd
  rw [hm.out, hs.out] at this
  exact this.mono fun _ _ ⟨he, h1, h2⟩ => ⟨he, h.go h1 h2⟩
theorem fail_rr {w : World} {b q r : Nat} {s s' : S} {A : Array Value} {x : Int} (hs : Hid (failS s x = s')) {u : World} (h : Rr w b q r s A u) :
    Calls Tryz.prog 65 #[.pointer (some ⟨b, 0, none⟩), .int .i64 x] u fun e v => e = .returned (.tuple #[]) ∧ Rr w b q r s' A v := by
  have := fail_any b s x u h.rd
  rw [hs.out] at this
  exact this.mono fun _ _ ⟨he, h1, h2⟩ => ⟨he, h.go h1 h2⟩
theorem read_rr {w : World} {b q r : Nat} {s s' : S} {A : Array Value} {x y z : Int} (h1 : Hid (rdn s = x)) (h2 : Hid (rdi s = y)) (h3 : Hid (rds s = z)) (hs : Hid (readS s = s')) {u : World} (h : Rr w b q r s A u) :
    Calls Tryz.prog 86 #[.pointer (some ⟨b, 0, none⟩)] u fun e v => e = .returned (.agg #[.int .i64 x, .int .i64 y, .int .i64 z]) ∧ Rr w b q r s' A v := by
  have := read_any b s u h.rd
  rw [readV_eq, h1.out, h2.out, h3.out, hs.out] at this
  exact this.mono fun _ _ ⟨he, h1, h2⟩ => ⟨he, h.go h1 h2⟩
theorem key_rr {w : World} {b q r : Nat} {s s' : S} {A : Array Value} {x y z a : Int} (h1 : Hid (kvn s = x)) (h2 : Hid (kvi s = y)) (h3 : Hid (kvs s = z)) (h4 : Hid (kva s = a)) (hs : Hid (rkS s = s')) {u : World} (h : Rr w b q r s A u) :
    Calls Tryz.prog 66 #[.pointer (some ⟨b, 0, none⟩)] u fun e v => e = .returned (.agg #[.int .i64 x, .int .i64 y, .int .i64 z, .int .i64 a]) ∧ Rr w b q r s' A v := by
  have := readkey_any b s u h.rd
  rw [rkV_eq, h1.out, h2.out, h3.out, h4.out, hs.out] at this
  exact this.mono fun _ _ ⟨he, h1, h2⟩ => ⟨he, h.go h1 h2⟩
theorem head_arr (m1 m2 m3 x y z a : Int) : (((((((Pk.none.arr.setIfInBounds 0 (.int .i64 m1)).setIfInBounds 1 (.int .i64 m2)).setIfInBounds 2 (.int .i64 m3)).setIfInBounds 3 (.int .i64 x)).setIfInBounds 4 (.int .i64 y)).setIfInBounds 5 (.int .i64 z)).setIfInBounds 6 (.int .i64 a)) = (Pk.mk m1 m2 m3 x y z a 0 0 ⟨#[]⟩ 0 0 0 0 0 0 0 0 0 0 0 false 0).arr := rfl
theorem call_arr (p : Pk) (m1 m2 : Int) (D : ByteArray) (m4 m5 i1 i2 i3 x y z a : Int) : ((((((((((((p.arr.setIfInBounds 7 (.int .i64 m1)).setIfInBounds 8 (.int .i64 m2)).setIfInBounds 9 (.string D)).setIfInBounds 10 (.int .i64 m4)).setIfInBounds 11 (.int .i64 m5)).setIfInBounds 12 (.int .i64 i1)).setIfInBounds 13 (.int .i64 i2)).setIfInBounds 14 (.int .i64 i3)).setIfInBounds 15 (.int .i64 x)).setIfInBounds 16 (.int .i64 y)).setIfInBounds 17 (.int .i64 z)).setIfInBounds 18 (.int .i64 a)) =
    ({ p with hop := m1, stamp := m2, tm := D, til := m4, prog := m5, rn := i1, ri := i2, rs := i3, pn := x, pi := y, ps := z, pa := a } : Pk).arr := by
  unfold Pk.arr; simp only [List.setIfInBounds_toArray, List.set_cons_succ, List.set_cons_zero]

set_option maxRecDepth 100000 in
set_option maxHeartbeats 4000000 in
theorem readhead_any (b : Nat) (s : S) (w : World) (hrd : Rd w b s) : Calls Tryz.prog 47 #[.pointer (some ⟨b, 0, none⟩)] w (Does b w (.agg (headP s).arr) (headS s)) := by
  have h0 := Rr.new2 hrd
  obtain ⟨m1, hm1⟩ : ∃ x : Int, Hid ((numV s 1 : Int) = x) := ⟨_, rfl⟩
  obtain ⟨m2, hm2⟩ : ∃ x : Int, Hid ((numV (a1 s) 1 : Int) = x) := ⟨_, rfl⟩
  obtain ⟨m3, hm3⟩ : ∃ x : Int, Hid ((numV (a2 s) 1 : Int) = x) := ⟨_, rfl⟩
  obtain ⟨x, hx⟩ : ∃ x : Int, Hid (kvn (a3 s) = x) := ⟨_, rfl⟩
  obtain ⟨y, hy⟩ : ∃ x : Int, Hid (kvi (a3 s) = x) := ⟨_, rfl⟩
  obtain ⟨z, hz⟩ : ∃ x : Int, Hid (kvs (a3 s) = x) := ⟨_, rfl⟩
  obtain ⟨a, ha⟩ : ∃ x : Int, Hid (kva (a3 s) = x) := ⟨_, rfl⟩
  have t1 : Hid (numS s 1 = a1 s) := rfl
  have t2 : Hid (numS (a1 s) 1 = a2 s) := rfl
  have t3 : Hid (numS (a2 s) 1 = a3 s) := rfl
  have t4 : Hid (rkS (a3 s) = headS s) := rfl
  clear hrd
  go_enter Tryz.func47, Tryz.ntmps47
  go_upto_region 4 with (go_at_call 62; first
    | ((with_reducible refine (num_rr hm1 t1 h0).mono ?_); rintro e u1 ⟨rfl, hr1⟩)
    | ((with_reducible refine (num_rr hm2 t2 hr1).mono ?_); rintro e u2 ⟨rfl, hr2⟩)
    | ((with_reducible refine (num_rr hm3 t3 hr2).mono ?_); rintro e u3 ⟨rfl, hr3⟩; have g0 : u3.cell? ⟨w.heap.size + 1, 0, none⟩ = some (.int .i64 0) := hr3.at 0; have g1 : u3.cell? ⟨w.heap.size + 1, 1, none⟩ = some (.int .i64 0) := hr3.at 1; have g2 : u3.cell? ⟨w.heap.size + 1, 2, none⟩ = some (.int .i64 0) := hr3.at 2; have f0 := hr3.may 0; have f1 := hr3.may 1; have f2 := hr3.may 2))
  have hY := ((hr3.set 0 (.int .i64 m1)).set 1 (.int .i64 m2)).set 2 (.int .i64 m3)
  go_upto_region 5 with (go_at_call 66; (with_reducible refine (key_rr hx hy hz ha t4 hY).mono ?_); rintro e u4 ⟨rfl, hr4⟩; have g3 : u4.cell? ⟨w.heap.size + 1, 3, none⟩ = some (.int .i64 0) := hr4.at 3; have g4 : u4.cell? ⟨w.heap.size + 1, 4, none⟩ = some (.int .i64 0) := hr4.at 4; have g5 : u4.cell? ⟨w.heap.size + 1, 5, none⟩ = some (.int .i64 0) := hr4.at 5; have g6 : u4.cell? ⟨w.heap.size + 1, 6, none⟩ = some (.int .i64 0) := hr4.at 6; have k3 := hr4.may 3; have k4 := hr4.may 4; have k5 := hr4.may 5; have k6 := hr4.may 6)
  have hZ0 := (((hr4.set 3 (.int .i64 x)).set 4 (.int .i64 y)).set 5 (.int .i64 z)).set 6 (.int .i64 a)
  rw [head_arr] at hZ0
  have hP := Lib.hid (show headP s = Pk.mk m1 m2 m3 x y z a 0 0 ⟨#[]⟩ 0 0 0 0 0 0 0 0 0 0 0 false 0 by unfold headP; rw [hm1.out, hm2.out, hm3.out, hx.out, hy.out, hz.out, ha.out]; rfl)
  obtain ⟨P, hPP⟩ : ∃ P : Pk, Pk.mk m1 m2 m3 x y z a 0 0 ⟨#[]⟩ 0 0 0 0 0 0 0 0 0 0 0 false 0 = P := ⟨_, rfl⟩
  rw [hPP] at hZ0 hP
  have hZ := hZ0
  clear hZ0 hPP
  go_step
  refine wpList_load_row rfl 43 (.tmp 4) rfl (w.heap.size + 1) rfl 43 P.arr (0, 0) _ hZ.blk Tryz.underlying43 rfl info_pk ?_
  refine wpList_store_row rfl 43 (.tmp 2) (.tmp 19) rfl (w.heap.size) _ rfl rfl 43 _ hZ.res info_pk rfl ?h1 ?_
  case h1 => kernel_rfl
  go_wp2_with fail
  obtain ⟨e1, e2⟩ := hZ.done P.arr
  refine bodyPost_ret (results_cell_row rfl _ _ (w.heap.size) 43 _ (0, 0) _ rfl (setRow_heap _ _ _ _ _ _ hZ.res) Tryz.underlying43 rfl info_pk) rfl ?_
  exact ⟨by rw [hP.out], e1, e2⟩

set_option maxRecDepth 100000 in
set_option maxHeartbeats 4000000 in
theorem readcall_any (p : Pk) (b : Nat) (s : S) (w : World) (hrd : Rd w b s) : Calls Tryz.prog 63 #[.agg p.arr, .pointer (some ⟨b, 0, none⟩)] w (Does b w (.agg (callP p s).arr) (callS s)) := by
  have h0 := Rr.new1 hrd p.arr
  obtain ⟨m1, hm1⟩ : ∃ x : Int, Hid ((numV s 1 : Int) = x) := ⟨_, rfl⟩
  obtain ⟨m2, hm2⟩ : ∃ x : Int, Hid ((numV (c1 s) 7 : Int) = x) := ⟨_, rfl⟩
  obtain ⟨D, hD⟩ : ∃ x : ByteArray, Hid ((⟨(textV (c2 s)).toArray⟩ : ByteArray) = x) := ⟨_, rfl⟩
  obtain ⟨m4, hm4⟩ : ∃ x : Int, Hid ((numV (c3 s) 7 : Int) = x) := ⟨_, rfl⟩
  obtain ⟨m5, hm5⟩ : ∃ x : Int, Hid ((numV (c4 s) 1 : Int) = x) := ⟨_, rfl⟩
  obtain ⟨i1, hi1⟩ : ∃ x : Int, Hid (rdn (c5 s) = x) := ⟨_, rfl⟩
  obtain ⟨i2, hi2⟩ : ∃ x : Int, Hid (rdi (c5 s) = x) := ⟨_, rfl⟩
  obtain ⟨i3, hi3⟩ : ∃ x : Int, Hid (rds (c5 s) = x) := ⟨_, rfl⟩
  obtain ⟨x, hx⟩ : ∃ x : Int, Hid (kvn (c6 s) = x) := ⟨_, rfl⟩
  obtain ⟨y, hy⟩ : ∃ x : Int, Hid (kvi (c6 s) = x) := ⟨_, rfl⟩
  obtain ⟨z, hz⟩ : ∃ x : Int, Hid (kvs (c6 s) = x) := ⟨_, rfl⟩
  obtain ⟨a, ha⟩ : ∃ x : Int, Hid (kva (c6 s) = x) := ⟨_, rfl⟩
  have t1 : Hid (numS s 1 = c1 s) := rfl
  have t2 : Hid (numS (c1 s) 7 = c2 s) := rfl
  have t3 : Hid (textS (c2 s) = c3 s) := rfl
  have t4 : Hid (numS (c3 s) 7 = c4 s) := rfl
  have t5 : Hid (numS (c4 s) 1 = c5 s) := rfl
  have t6 : Hid (readS (c5 s) = c6 s) := rfl
  have t7 : Hid (rkS (c6 s) = callS s) := rfl
  clear hrd
  go_enter Tryz.func63, Tryz.ntmps63
  go_upto_region 3 with (first
    | (go_at_call 62; (first
        | ((with_reducible refine (num_rr hm1 t1 h0).mono ?_); rintro e u1 ⟨rfl, hr1⟩)
        | ((with_reducible refine (num_rr hm2 t2 hr1).mono ?_); rintro e u2 ⟨rfl, hr2⟩)
        | ((with_reducible refine (num_rr hm4 t4 hr3).mono ?_); rintro e u4 ⟨rfl, hr4⟩; have g7 : u4.cell? ⟨w.heap.size, 7, none⟩ = some (.int .i64 p.hop) := hr4.at 7; have f7 := hr4.may 7; have g8 : u4.cell? ⟨w.heap.size, 8, none⟩ = some (.int .i64 p.stamp) := hr4.at 8; have f8 := hr4.may 8; have g9 : u4.cell? ⟨w.heap.size, 9, none⟩ = some (.string p.tm) := hr4.at 9; have f9 := hr4.may 9; have g10 : u4.cell? ⟨w.heap.size, 10, none⟩ = some (.int .i64 p.til) := hr4.at 10; have f10 := hr4.may 10)))
    | (go_at_call 85; (with_reducible refine (text_rr hD t3 hr2).mono ?_); rintro e u3 ⟨rfl, hr3⟩))
  have hY := (((hr4.set 7 (.int .i64 m1)).set 8 (.int .i64 m2)).set 9 (.string D)).set 10 (.int .i64 m4)
  clear g7 g8 g9 g10 f7 f8 f9 f10
  go_upto_region 4 with (first
    | (go_at_call 62; (with_reducible refine (num_rr hm5 t5 hY).mono ?_); rintro e u5 ⟨rfl, hr5⟩)
    | (go_at_call 86; (with_reducible refine (read_rr hi1 hi2 hi3 t6 hr5).mono ?_); rintro e u6 ⟨rfl, hr6⟩)
    | (go_at_call 66; (with_reducible refine (key_rr hx hy hz ha t7 hr6).mono ?_); rintro e u7 ⟨rfl, hr7⟩; have g11 : u7.cell? ⟨w.heap.size, 11, none⟩ = some (.int .i64 p.prog) := hr7.at 11; have f11 := hr7.may 11; have g12 : u7.cell? ⟨w.heap.size, 12, none⟩ = some (.int .i64 p.rn) := hr7.at 12; have f12 := hr7.may 12; have g13 : u7.cell? ⟨w.heap.size, 13, none⟩ = some (.int .i64 p.ri) := hr7.at 13; have f13 := hr7.may 13; have g14 : u7.cell? ⟨w.heap.size, 14, none⟩ = some (.int .i64 p.rs) := hr7.at 14; have f14 := hr7.may 14; have g15 : u7.cell? ⟨w.heap.size, 15, none⟩ = some (.int .i64 p.pn) := hr7.at 15; have f15 := hr7.may 15; have g16 : u7.cell? ⟨w.heap.size, 16, none⟩ = some (.int .i64 p.pi) := hr7.at 16; have f16 := hr7.may 16; have g17 : u7.cell? ⟨w.heap.size, 17, none⟩ = some (.int .i64 p.ps) := hr7.at 17; have f17 := hr7.may 17; have g18 : u7.cell? ⟨w.heap.size, 18, none⟩ = some (.int .i64 p.pa) := hr7.at 18; have f18 := hr7.may 18))
  have hZ0 := (((((((hr7.set 11 (.int .i64 m5)).set 12 (.int .i64 i1)).set 13 (.int .i64 i2)).set 14 (.int .i64 i3)).set 15 (.int .i64 x)).set 16 (.int .i64 y)).set 17 (.int .i64 z)).set 18 (.int .i64 a)
  rw [call_arr] at hZ0
  have hP := Lib.hid (show callP p s = ({ p with hop := m1, stamp := m2, tm := D, til := m4, prog := m5, rn := i1, ri := i2, rs := i3, pn := x, pi := y, ps := z, pa := a } : Pk) by unfold callP; rw [hm1.out, hm2.out, hD.out, hm4.out, hm5.out, hi1.out, hi2.out, hi3.out, hx.out, hy.out, hz.out, ha.out])
  obtain ⟨P, hPP⟩ : ∃ P : Pk, ({ p with hop := m1, stamp := m2, tm := D, til := m4, prog := m5, rn := i1, ri := i2, rs := i3, pn := x, pi := y, ps := z, pa := a } : Pk) = P := ⟨_, rfl⟩
  rw [hPP] at hZ0 hP
  have hZ := hZ0
  clear hZ0 hPP
  go_step
  refine wpList_load_row rfl 43 (.tmp 2) rfl (w.heap.size) rfl 43 P.arr (0, 0) _ hZ.blk Tryz.underlying43 rfl info_pk ?_
  refine wpList_store_row rfl 43 (.tmp 4) (.tmp 29) rfl (w.heap.size + 1) _ rfl rfl 43 _ hZ.res info_pk rfl ?h1 ?_
  case h1 => kernel_rfl
  go_wp2_with fail
  obtain ⟨e1, e2⟩ := hZ.done P.arr
  refine bodyPost_ret (results_cell_row rfl _ _ (w.heap.size + 1) 43 _ (0, 0) _ rfl (setRow_heap _ _ _ _ _ _ hZ.res) Tryz.underlying43 rfl info_pk) rfl ?_
  exact ⟨by rw [hP.out], e1, e2⟩

end Go.Proofs.YtncdiggejofbbaaGreatDoor.Pk

namespace Go.Proofs.YtncdiggejofbbaaGreatDoor.Pk
open Go.RowKit Go.Sort St BsM IdM PkM
open Go.Proofs.YtncdiggejofbbaaGreatDoor.Id
open Go.Proofs.YtncdiggejofbbaaGreatDoor.Bs
set_option linter.unusedVariables false

theorem restP1 {p : Pk} {s : S} (h : p.kind = 1) : restP p s = callP p s ∧ restS p s = callS s := by unfold restP restS; rw [if_pos h, if_pos h]; exact ⟨rfl, rfl⟩
theorem restP2 {p : Pk} {s : S} (h : p.kind = 2) : restP p s = replyP p s ∧ restS p s = flagS (e2 s) := by unfold restP restS; simp [h]
theorem restP3 {p : Pk} {s : S} (h : p.kind = 3) : restP p s = p ∧ restS p s = s := by unfold restP restS; simp [h]
theorem restP4 {p : Pk} {s : S} (h : p.kind = 4) : restP p s = { p with til := numV s 7 } ∧ restS p s = numS s 7 := by unfold restP restS; simp [h]
theorem restP5 {p : Pk} {s : S} (h : p.kind = 5) : restP p s = { p with delay := numV s 7 - 1 } ∧ restS p s = numS s 7 := by unfold restP restS; simp [h]
theorem restP0 {p : Pk} {s : S} (h : p.kind ≠ 1 ∧ p.kind ≠ 2 ∧ p.kind ≠ 3 ∧ p.kind ≠ 4 ∧ p.kind ≠ 5) : restP p s = p ∧ restS p s = failS s 9 := by unfold restP restS; simp [h.1, h.2.1, h.2.2.1, h.2.2.2.1, h.2.2.2.2]
theorem reply_arr (p : Pk) (m1 m2 : Int) (z : Bool) : (((p.arr.setIfInBounds 19 (.int .i64 m1)).setIfInBounds 20 (.int .i64 m2)).setIfInBounds 21 (.bool z)) = ({ p with code := m1, value := m2, more := z } : Pk).arr := by
  unfold Pk.arr; simp only [List.setIfInBounds_toArray, List.set_cons_succ, List.set_cons_zero]
theorem til_arr (p : Pk) (m1 : Int) : (p.arr.setIfInBounds 10 (.int .i64 m1)) = ({ p with til := m1 } : Pk).arr := by
  unfold Pk.arr; simp only [List.setIfInBounds_toArray, List.set_cons_succ, List.set_cons_zero]
theorem delay_arr (p : Pk) (m1 : Int) : (p.arr.setIfInBounds 22 (.int .i64 m1)) = ({ p with delay := m1 } : Pk).arr := by
  unfold Pk.arr; simp only [List.setIfInBounds_toArray, List.set_cons_succ, List.set_cons_zero]

set_option maxRecDepth 100000 in
set_option maxHeartbeats 4000000 in
theorem readrest1 {p : Pk} (hk : p.kind = 1) (b : Nat) (s : S) (w : World) (hrd : Rd w b s) : Calls Tryz.prog 46 #[.agg p.arr, .pointer (some ⟨b, 0, none⟩)] w (Does b w (.agg (restP p s).arr) (restS p s)) := by
  have x0 : p.arr[0]? = some (.int .i64 1) := by rw [← hk]; rfl
  have h0 := Rr.new1 hrd p.arr
  have HC := Lib.hid (show ∀ u, Rr w b w.heap.size (w.heap.size + 1) s p.arr u → Calls Tryz.prog 63 #[.agg p.arr, .pointer (some ⟨b, 0, none⟩)] u fun e v => e = .returned (.agg (callP p s).arr) ∧ Rr w b w.heap.size (w.heap.size + 1) (callS s) p.arr v from
    fun u hu => (readcall_any p b s u hu.rd).mono fun _ _ ⟨he, h1, h2⟩ => ⟨he, hu.go h1 h2⟩)
  have HP := Lib.hid (restP1 (s := s) hk)
  obtain ⟨P, hP⟩ : ∃ P, callP p s = P := ⟨_, rfl⟩
  rw [hP] at HC HP
  have hA := h0.blk
  clear hk hrd hP
  go_enter Tryz.func46, Tryz.ntmps46
  go_upto_region 5 with (fail)
  go_step
  refine wpList_load_row rfl 43 (.tmp 2) rfl w.heap.size rfl 43 p.arr (0, 0) _ hA Tryz.underlying43 rfl info_pk ?_
  go_wp2_with (first
    | (go_at_call 63; (refine (HC.out _ h0).mono ?_); rintro e u ⟨rfl, hr⟩)
    | (refine wpList_store_row rfl 43 (.tmp 4) (.tmp 16) rfl (w.heap.size + 1) P.arr rfl rfl 43 _ hr.res info_pk rfl (by kernel_rfl) ?_))
  obtain ⟨e1, e2⟩ := hr.done P.arr
  refine bodyPost_ret (results_cell_row rfl _ _ (w.heap.size + 1) 43 _ (0, 0) _ rfl (setRow_heap _ _ _ _ _ _ hr.res) Tryz.underlying43 rfl info_pk) rfl ?_
  exact ⟨by rw [HP.out.1], by rw [HP.out.2]; exact e1, e2⟩

set_option maxRecDepth 100000 in
set_option maxHeartbeats 4000000 in
theorem readrest2 {p : Pk} (hk : p.kind = 2) (b : Nat) (s : S) (w : World) (hrd : Rd w b s) : Calls Tryz.prog 46 #[.agg p.arr, .pointer (some ⟨b, 0, none⟩)] w (Does b w (.agg (restP p s).arr) (restS p s)) := by
  have x0 : p.arr[0]? = some (.int .i64 2) := by rw [← hk]; rfl
  have h0 := Rr.new1 hrd p.arr
  obtain ⟨m1, hm1⟩ : ∃ x : Int, Hid ((numV s 1 : Int) = x) := ⟨_, rfl⟩
  obtain ⟨m2, hm2⟩ : ∃ x : Int, Hid ((numV (c1 s) 4 : Int) = x) := ⟨_, rfl⟩
  obtain ⟨z, hz⟩ : ∃ x : Bool, Hid (flagV (e2 s) = x) := ⟨_, rfl⟩
  have t1 : Hid (numS s 1 = c1 s) := rfl
  have t2 : Hid (numS (c1 s) 4 = e2 s) := rfl
  obtain ⟨s3, t3⟩ : ∃ x, Hid (flagS (e2 s) = x) := ⟨_, rfl⟩
  have HP := Lib.hid (show restP p s = ({ p with code := m1, value := m2, more := z } : Pk) ∧ restS p s = s3 by rw [(restP2 hk).1, (restP2 hk).2]; unfold replyP; rw [hm1.out, hm2.out, hz.out, t3.out]; exact ⟨rfl, rfl⟩)
  clear hk hrd
  go_enter Tryz.func46, Tryz.ntmps46
  go_upto_region 13 with (first
    | (go_at_call 62; (first
        | ((with_reducible refine (num_rr hm1 t1 h0).mono ?_); rintro e u1 ⟨rfl, hr1⟩)
        | ((with_reducible refine (num_rr hm2 t2 hr1).mono ?_); rintro e u2 ⟨rfl, hr2⟩)))
    | (go_at_call 64; (with_reducible refine (flag_rr hz t3 hr2).mono ?_); rintro e u3 ⟨rfl, hr3⟩; have g19 : u3.cell? ⟨w.heap.size, 19, none⟩ = some (.int .i64 p.code) := hr3.at 19; have f19 := hr3.may 19; have g20 : u3.cell? ⟨w.heap.size, 20, none⟩ = some (.int .i64 p.value) := hr3.at 20; have f20 := hr3.may 20; have g21 : u3.cell? ⟨w.heap.size, 21, none⟩ = some (.bool p.more) := hr3.at 21; have f21 := hr3.may 21))
  have hZ := ((hr3.set 19 (.int .i64 m1)).set 20 (.int .i64 m2)).set 21 (.bool z)
  rw [reply_arr] at hZ
  obtain ⟨P, hPP⟩ : ∃ P : Pk, ({ p with code := m1, value := m2, more := z } : Pk) = P := ⟨_, rfl⟩
  rw [hPP] at hZ HP
  clear hPP
  go_step
  refine wpList_load_row rfl 43 (.tmp 2) rfl (w.heap.size) rfl 43 P.arr (0, 0) _ hZ.blk Tryz.underlying43 rfl info_pk ?_
  refine wpList_store_row rfl 43 (.tmp 4) (.tmp 41) rfl (w.heap.size + 1) _ rfl rfl 43 _ hZ.res info_pk rfl ?h1 ?_
  case h1 => kernel_rfl
  go_wp2_with fail
  obtain ⟨e1, e2⟩ := hZ.done P.arr
  refine bodyPost_ret (results_cell_row rfl _ _ (w.heap.size + 1) 43 _ (0, 0) _ rfl (setRow_heap _ _ _ _ _ _ hZ.res) Tryz.underlying43 rfl info_pk) rfl ?_
  exact ⟨by rw [HP.out.1], by rw [HP.out.2]; exact e1, e2⟩

set_option maxRecDepth 100000 in
set_option maxHeartbeats 4000000 in
theorem readrest4 {p : Pk} (hk : p.kind = 4) (b : Nat) (s : S) (w : World) (hrd : Rd w b s) : Calls Tryz.prog 46 #[.agg p.arr, .pointer (some ⟨b, 0, none⟩)] w (Does b w (.agg (restP p s).arr) (restS p s)) := by
  have x0 : p.arr[0]? = some (.int .i64 4) := by rw [← hk]; rfl
  have h0 := Rr.new1 hrd p.arr
  obtain ⟨m1, hm1⟩ : ∃ x : Int, Hid ((numV s 7 : Int) = x) := ⟨_, rfl⟩
  have t1 : Hid (numS s 7 = numS s 7) := Lib.hid rfl
  have hlt := numV_lt s 7
  have hm0 : 0 ≤ m1 := by rw [← hm1.out]; omega
  have hm9 : m1 < 72057594037927936 := by rw [← hm1.out]; omega
  have HP := Lib.hid (show restP p s = ({ p with til := m1 } : Pk) ∧ restS p s = numS s 7 by rw [(restP4 hk).1, (restP4 hk).2, hm1.out]; exact ⟨rfl, rfl⟩)
  clear hk hrd hlt
  go_enter Tryz.func46, Tryz.ntmps46
  go_upto_region 13 with (go_at_call 62; (with_reducible refine (num_rr hm1 t1 h0).mono ?_); rintro e u1 ⟨rfl, hr1⟩; have g10 : u1.cell? ⟨w.heap.size, 10, none⟩ = some (.int .i64 p.til) := hr1.at 10; have f10 := hr1.may 10)
  have hZ := hr1.set 10 (.int .i64 m1)
  rw [til_arr] at hZ
  obtain ⟨P, hPP⟩ : ∃ P : Pk, ({ p with til := m1 } : Pk) = P := ⟨_, rfl⟩
  rw [hPP] at hZ HP
  clear hPP
  go_step
  refine wpList_load_row rfl 43 (.tmp 2) rfl (w.heap.size) rfl 43 P.arr (0, 0) _ hZ.blk Tryz.underlying43 rfl info_pk ?_
  refine wpList_store_row rfl 43 (.tmp 4) (.tmp 41) rfl (w.heap.size + 1) _ rfl rfl 43 _ hZ.res info_pk rfl ?h1 ?_
  case h1 => kernel_rfl
  go_wp2_with fail
  obtain ⟨e1, e2⟩ := hZ.done P.arr
  refine bodyPost_ret (results_cell_row rfl _ _ (w.heap.size + 1) 43 _ (0, 0) _ rfl (setRow_heap _ _ _ _ _ _ hZ.res) Tryz.underlying43 rfl info_pk) rfl ?_
  exact ⟨by rw [HP.out.1], by rw [HP.out.2]; exact e1, e2⟩

set_option maxRecDepth 100000 in
set_option maxHeartbeats 4000000 in
theorem readrest5 {p : Pk} (hk : p.kind = 5) (b : Nat) (s : S) (w : World) (hrd : Rd w b s) : Calls Tryz.prog 46 #[.agg p.arr, .pointer (some ⟨b, 0, none⟩)] w (Does b w (.agg (restP p s).arr) (restS p s)) := by
  have x0 : p.arr[0]? = some (.int .i64 5) := by rw [← hk]; rfl
  have h0 := Rr.new1 hrd p.arr
  obtain ⟨m1, hm1⟩ : ∃ x : Int, Hid ((numV s 7 : Int) = x) := ⟨_, rfl⟩
  have t1 : Hid (numS s 7 = numS s 7) := Lib.hid rfl
  have hlt := numV_lt s 7
  have hm0 : 0 ≤ m1 := by rw [← hm1.out]; omega
  have hm9 : m1 < 72057594037927936 := by rw [← hm1.out]; omega
  have HP := Lib.hid (show restP p s = ({ p with delay := (m1 - 1) } : Pk) ∧ restS p s = numS s 7 by rw [(restP5 hk).1, (restP5 hk).2, hm1.out]; exact ⟨rfl, rfl⟩)
  clear hk hrd hlt
  go_enter Tryz.func46, Tryz.ntmps46
  go_upto_region 13 with (go_at_call 62; (with_reducible refine (num_rr hm1 t1 h0).mono ?_); rintro e u1 ⟨rfl, hr1⟩; have g22 : u1.cell? ⟨w.heap.size, 22, none⟩ = some (.int .i64 p.delay) := hr1.at 22; have f22 := hr1.may 22)
  have hZ := hr1.set 22 (.int .i64 (m1 - 1))
  rw [delay_arr] at hZ
  obtain ⟨P, hPP⟩ : ∃ P : Pk, ({ p with delay := (m1 - 1) } : Pk) = P := ⟨_, rfl⟩
  rw [hPP] at hZ HP
  clear hPP
  go_step
  refine wpList_load_row rfl 43 (.tmp 2) rfl (w.heap.size) rfl 43 P.arr (0, 0) _ hZ.blk Tryz.underlying43 rfl info_pk ?_
  refine wpList_store_row rfl 43 (.tmp 4) (.tmp 41) rfl (w.heap.size + 1) _ rfl rfl 43 _ hZ.res info_pk rfl ?h1 ?_
  case h1 => kernel_rfl
  go_wp2_with fail
  obtain ⟨e1, e2⟩ := hZ.done P.arr
  refine bodyPost_ret (results_cell_row rfl _ _ (w.heap.size + 1) 43 _ (0, 0) _ rfl (setRow_heap _ _ _ _ _ _ hZ.res) Tryz.underlying43 rfl info_pk) rfl ?_
  exact ⟨by rw [HP.out.1], by rw [HP.out.2]; exact e1, e2⟩

set_option maxRecDepth 100000 in
set_option maxHeartbeats 4000000 in
theorem readrest3 {p : Pk} (hk : p.kind = 3) (b : Nat) (s : S) (w : World) (hrd : Rd w b s) : Calls Tryz.prog 46 #[.agg p.arr, .pointer (some ⟨b, 0, none⟩)] w (Does b w (.agg (restP p s).arr) (restS p s)) := by
  have x0 : p.arr[0]? = some (.int .i64 3) := by rw [← hk]; rfl
  have h0 := Rr.new1 hrd p.arr
  have HP := Lib.hid (restP3 (s := s) hk)
  obtain ⟨P, hPP⟩ : ∃ P : Pk, p = P := ⟨_, rfl⟩
  subst hPP
  have hZ := h0
  clear hk hrd
  go_enter Tryz.func46, Tryz.ntmps46
  go_upto_region 13 with (fail)
  go_step
  refine wpList_load_row rfl 43 (.tmp 2) rfl (w.heap.size) rfl 43 p.arr (0, 0) _ hZ.blk Tryz.underlying43 rfl info_pk ?_
  refine wpList_store_row rfl 43 (.tmp 4) (.tmp 41) rfl (w.heap.size + 1) _ rfl rfl 43 _ hZ.res info_pk rfl ?h1 ?_
  case h1 => kernel_rfl
  go_wp2_with fail
  obtain ⟨e1, e2⟩ := hZ.done p.arr
  refine bodyPost_ret (results_cell_row rfl _ _ (w.heap.size + 1) 43 _ (0, 0) _ rfl (setRow_heap _ _ _ _ _ _ hZ.res) Tryz.underlying43 rfl info_pk) rfl ?_
  exact ⟨by rw [HP.out.1], by rw [HP.out.2]; exact e1, e2⟩

set_option maxRecDepth 100000 in
set_option maxHeartbeats 4000000 in
theorem readrest0 {p : Pk} (hk : p.kind ≠ 1 ∧ p.kind ≠ 2 ∧ p.kind ≠ 3 ∧ p.kind ≠ 4 ∧ p.kind ≠ 5) (b : Nat) (s : S) (w : World) (hrd : Rd w b s) : Calls Tryz.prog 46 #[.agg p.arr, .pointer (some ⟨b, 0, none⟩)] w (Does b w (.agg (restP p s).arr) (restS p s)) := by
  have x0 : p.arr[0]? = some (.int .i64 p.kind) := rfl
  have h0 := Rr.new1 hrd p.arr
  have HP := Lib.hid (restP0 (s := s) hk)
  have k1 : (p.kind == 1) = false := by simpa using hk.1
  have k2 : (p.kind == 2) = false := by simpa using hk.2.1
  have k3 : (p.kind == 3) = false := by simpa using hk.2.2.1
  have k4 : (p.kind == 4) = false := by simpa using hk.2.2.2.1
  have k5 : (p.kind == 5) = false := by simpa using hk.2.2.2.2
  have t1 : Hid (failS s 9 = failS s 9) := Lib.hid rfl
  clear hk hrd
  go_enter Tryz.func46, Tryz.ntmps46
  go_upto_region 13 with (go_at_call 65; (with_reducible refine (fail_rr t1 h0).mono ?_); rintro e u1 ⟨rfl, hZ⟩)
  go_step
  refine wpList_load_row rfl 43 (.tmp 2) rfl (w.heap.size) rfl 43 p.arr (0, 0) _ hZ.blk Tryz.underlying43 rfl info_pk ?_
  refine wpList_store_row rfl 43 (.tmp 4) (.tmp 41) rfl (w.heap.size + 1) _ rfl rfl 43 _ hZ.res info_pk rfl ?h1 ?_
  case h1 => kernel_rfl
  go_wp2_with fail
  obtain ⟨e1, e2⟩ := hZ.done p.arr
  refine bodyPost_ret (results_cell_row rfl _ _ (w.heap.size + 1) 43 _ (0, 0) _ rfl (setRow_heap _ _ _ _ _ _ hZ.res) Tryz.underlying43 rfl info_pk) rfl ?_
  exact ⟨by rw [HP.out.1], by rw [HP.out.2]; exact e1, e2⟩

theorem readrest_any (p : Pk) (b : Nat) (s : S) (w : World) (hrd : Rd w b s) : Calls Tryz.prog 46 #[.agg p.arr, .pointer (some ⟨b, 0, none⟩)] w (Does b w (.agg (restP p s).arr) (restS p s)) := by
  rcases kinds p.kind with hk | hk | hk | hk | hk | hk
  · exact readrest1 hk b s w hrd
  · exact readrest2 hk b s w hrd
  · exact readrest3 hk b s w hrd
  · exact readrest4 hk b s w hrd
  · exact readrest5 hk b s w hrd
  · exact readrest0 hk b s w hrd

end Go.Proofs.YtncdiggejofbbaaGreatDoor.Pk
