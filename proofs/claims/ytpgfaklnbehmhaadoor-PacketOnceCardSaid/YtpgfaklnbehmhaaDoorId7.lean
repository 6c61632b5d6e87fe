/- Package ident: keys read of bytes. -/
import Derived.Test.YtpgfaklnbehmhaaDoorId6
namespace Go.Proofs.YtpgfaklnbehmhaaDoor.Id
open Go.RowKit Go.Sort St IdM BsM Bs
set_option linter.unusedVariables false

def rdn (s : S) : Int := if readOk s then vn s else 0
def rdi (s : S) : Int := if readOk s then vi s else 0
def rds (s : S) : Int := if readOk s then vs s else 0
theorem readV_eq (s : S) : readV s = .agg #[.int .i64 (rdn s), .int .i64 (rdi s), .int .i64 (rds s)] := by
  unfold readV rdn rdi rds; split <;> rfl
def rda (s : S) : Int := numV (readS s) 1
def there (s : S) : Bool := decide (0 < (readS s).1.length)
def rkOk (s : S) : Bool := there s && keyB (rdn s) (rdi s) (rds s) (rda s)
def rkV (s : S) : Value := if rkOk s then .agg #[.int .i64 (rdn s), .int .i64 (rdi s), .int .i64 (rds s), .int .i64 (rda s)] else .agg #[.int .i64 0, .int .i64 0, .int .i64 0, .int .i64 0]
def rkS (s : S) : S := if rkOk s then numS (readS s) 1 else failS (numS (readS s) 1) 2
theorem rk_yes {s : S} (h : rkOk s = true) : rkV s = .agg #[.int .i64 (rdn s), .int .i64 (rdi s), .int .i64 (rds s), .int .i64 (rda s)] ∧ rkS s = numS (readS s) 1 := by
  unfold rkV rkS; rw [h]; exact ⟨rfl, rfl⟩
theorem rk_no {s : S} (h : rkOk s = false) : rkV s = .agg #[.int .i64 0, .int .i64 0, .int .i64 0, .int .i64 0] ∧ rkS s = failS (numS (readS s) 1) 2 := by
  unfold rkV rkS; rw [h]; exact ⟨rfl, rfl⟩

/-- where the call w stands: the reader at block b, its result's block, an identity at block q -/
structure Ro (w : World) (b q : Nat) (s : S) (D : Array Value) (u : World) : Prop where
  rd : Rd u b s
  only : Only b w u
  res : u.heap[w.heap.size]? = some (.cells #[.int .i64 0, .int .i64 0, .int .i64 0, .int .i64 0] 25 (0, 0))
  blk : u.heap[q]? = some (.cells D 23 (0, 0))
theorem Ro.go {w : World} {b q : Nat} {s s' : S} {D : Array Value} {u v : World} (hb : b < w.heap.size) (hq : q ≠ b) (h : Ro w b q s D u) (hr : Rd v b s') (ho : Only b u v) : Ro w b q s' D v :=
  ⟨hr, h.only.trans ho, ho.other h.res (by omega), ho.other h.blk hq⟩
theorem Ro.kept {w : World} {b q : Nat} {s : S} {D : Array Value} {u v : World} (hb : b < w.heap.size) (hq : q ≠ b) (h : Ro w b q s D u) (k : Kept u v) : Ro w b q s D v := h.go hb hq (h.rd.kept k) (only_kept k)
theorem Ro.cells {w : World} {b q : Nat} {s : S} {x y z : Value} {u : World} (h : Ro w b q s #[x, y, z] u) : u.cell? ⟨q, 0, none⟩ = some x ∧ u.cell? ⟨q, 1, none⟩ = some y ∧ u.cell? ⟨q, 2, none⟩ = some z :=
  ⟨blk_cell h.blk 0, blk_cell h.blk 1, blk_cell h.blk 2⟩
theorem Ro.cells4 {w : World} {b q k : Nat} {s : S} {x y z : Value} {u : World} (h : Ro w b q s #[x, y, z] u) (hk : q ≠ k) (v0 v1 v2 v3 : Value) :
    ((((u.setCell ⟨k, 0, none⟩ v0).setCell ⟨k, 1, none⟩ v1).setCell ⟨k, 2, none⟩ v2).setCell ⟨k, 3, none⟩ v3).cell? ⟨q, 0, none⟩ = some x ∧
    ((((u.setCell ⟨k, 0, none⟩ v0).setCell ⟨k, 1, none⟩ v1).setCell ⟨k, 2, none⟩ v2).setCell ⟨k, 3, none⟩ v3).cell? ⟨q, 1, none⟩ = some y ∧
    ((((u.setCell ⟨k, 0, none⟩ v0).setCell ⟨k, 1, none⟩ v1).setCell ⟨k, 2, none⟩ v2).setCell ⟨k, 3, none⟩ v3).cell? ⟨q, 2, none⟩ = some z := by
  have e : ((((u.setCell ⟨k, 0, none⟩ v0).setCell ⟨k, 1, none⟩ v1).setCell ⟨k, 2, none⟩ v2).setCell ⟨k, 3, none⟩ v3).heap[q]? = some (.cells #[x, y, z] 23 (0, 0)) :=
    (Below.heap_setCell _ _ _ _ hk).trans ((Below.heap_setCell _ _ _ _ hk).trans ((Below.heap_setCell _ _ _ _ hk).trans ((Below.heap_setCell _ _ _ _ hk).trans h.blk)))
  exact ⟨blk_cell e 0, blk_cell e 1, blk_cell e 2⟩
theorem left_ro {w : World} {b q : Nat} {s : S} {D : Array Value} {u : World} (h : Ro w b q s D u) :
    Calls Tryd.prog 69 #[.pointer (some ⟨b, 0, none⟩)] u fun e v => e = .returned (.int .i64 (s.1.length : Int)) ∧ u = v := left_any b s u h.rd
theorem num_ro {w : World} {b q : Nat} {s : S} {D : Array Value} {k m : Int} (hb : b < w.heap.size) (hq : q ≠ b) (hm : Hid ((numV s k : Int) = m)) {u : World} (h : Ro w b q s D u) :
    Calls Tryd.prog 51 #[.pointer (some ⟨b, 0, none⟩), .int .i64 k] u fun e v => e = .returned (.int .i64 m) ∧ Ro w b q (numS s k) D v :=
  (rdnum_any b s k u h.rd).mono fun _ _ ⟨he, hr, ho⟩ => ⟨by rw [he, hm.out], h.go hb hq hr ho⟩
theorem num_ro2 {w : World} {b q : Nat} {s : S} {D : Array Value} {k m : Int} (hb : b < w.heap.size) (hq : q ≠ b) (hm : Hid ((numV s k : Int) = m)) {u : World} (h : Ro w b q s D u) {o : Obj} (H : Nat) (hH : u.heap.size = H) :
    Calls Tryd.prog 51 #[.pointer (some ⟨b, 0, none⟩), .int .i64 k] (World.drew (u.alloc o)) fun e v => e = .returned (.int .i64 m) ∧ Ro w b q (numS s k) D v ∧ v.heap[H]? = some o := by
  subst hH
  have h2 := h.kept hb hq (Kept.one u o).drew
  have hl := h.only.size
  refine (rdnum_any b s k _ h2.rd).mono ?_
  rintro e v ⟨he, hr, ho⟩
  exact ⟨by rw [he, hm.out], h2.go hb hq hr ho, ho.other (show (World.drew _).heap[_]? = _ from blk_new u o) (by omega)⟩
theorem fail_ro {w : World} {b q : Nat} {s : S} {D : Array Value} {u : World} (hb : b < w.heap.size) (hq : q ≠ b) (e : Int) (h : Ro w b q s D u) :
    Calls Tryd.prog 54 #[.pointer (some ⟨b, 0, none⟩), .int .i64 e] u fun r v => r = .returned (.tuple #[]) ∧ Ro w b q (failS s e) D v :=
  (fail_any b s e u h.rd).mono fun _ _ ⟨he, hr, ho⟩ => ⟨he, h.go hb hq hr ho⟩
theorem read_ro {w W : World} {b : Nat} {s : S} (hb : b < w.heap.size) (hr : Rd w b s) (hk : Kept w W) (hres : W.heap[w.heap.size]? = some (.cells #[.int .i64 0, .int .i64 0, .int .i64 0, .int .i64 0] 25 (0, 0))) :
    Calls Tryd.prog 68 #[.pointer (some ⟨b, 0, none⟩)] W fun e v => e = .returned (.agg #[.int .i64 (rdn s), .int .i64 (rdi s), .int .i64 (rds s)]) ∧ w.heap.size < v.heap.size ∧
      Ro w b v.heap.size (readS s) #[.int .i64 (rdn s), .int .i64 (rdi s), .int .i64 (rds s)] (v.alloc (.cells #[.int .i64 (rdn s), .int .i64 (rdi s), .int .i64 (rds s)] 23 (0, 0))) := by
  refine (read_any b s W (hr.kept hk)).mono ?_
  rintro e v ⟨rfl, h1, h2⟩
  have hl := h2.size
  have hg := blk_lt hres
  refine ⟨by rw [readV_eq], by omega, h1.kept (Kept.one _ _), (only_kept hk).trans (h2.trans (only_kept (Kept.one _ _))), ?_, blk_new _ _⟩
  exact kept_blk (Kept.one _ _) (h2.other hres (by omega))
theorem Ro.done {w : World} {b q : Nat} {s : S} {D : Array Value} {u : World} (h : Ro w b q s D u) (hb : b < w.heap.size) (v0 v1 v2 v3 : Value) :
    Rd ((((u.setCell ⟨w.heap.size, 0, none⟩ v0).setCell ⟨w.heap.size, 1, none⟩ v1).setCell ⟨w.heap.size, 2, none⟩ v2).setCell ⟨w.heap.size, 3, none⟩ v3) b s ∧
    Only b w ((((u.setCell ⟨w.heap.size, 0, none⟩ v0).setCell ⟨w.heap.size, 1, none⟩ v1).setCell ⟨w.heap.size, 2, none⟩ v2).setCell ⟨w.heap.size, 3, none⟩ v3) ∧
    ((((u.setCell ⟨w.heap.size, 0, none⟩ v0).setCell ⟨w.heap.size, 1, none⟩ v1).setCell ⟨w.heap.size, 2, none⟩ v2).setCell ⟨w.heap.size, 3, none⟩ v3).heap[w.heap.size]? = some (.cells #[v0, v1, v2, v3] 25 (0, 0)) := by
  have hne : b ≠ w.heap.size := by omega
  refine ⟨?_, ⟨h.only.os, h.only.tape, h.only.output, ?_, fun j hj hjb => ?_⟩, ?_⟩
  · exact (Below.heap_setCell _ _ _ _ hne).trans ((Below.heap_setCell _ _ _ _ hne).trans ((Below.heap_setCell _ _ _ _ hne).trans ((Below.heap_setCell _ _ _ _ hne).trans h.rd)))
  · simpa [World.setCell] using h.only.size
  · have hj2 : j ≠ w.heap.size := by omega
    exact (Below.heap_setCell _ _ _ _ hj2).trans ((Below.heap_setCell _ _ _ _ hj2).trans ((Below.heap_setCell _ _ _ _ hj2).trans ((Below.heap_setCell _ _ _ _ hj2).trans (h.only.block j hj hjb))))
  · exact blk_set (blk_set (blk_set (blk_set h.res 0 v0) 1 v1) 2 v2) 3 v3
theorem Ro.set4 {w : World} {b q k : Nat} {s : S} {D : Array Value} {u : World} (h : Ro w b q s D u) (hb : b < w.heap.size) (hw : w.heap.size < k) (hqk : q ≠ k) {xs : Array Value} (hk : u.heap[k]? = some (.cells xs 25 (0, 0))) (hx : xs.size = 4) (v0 v1 v2 v3 : Value) :
    Ro w b q s D ((((u.setCell ⟨k, 0, none⟩ v0).setCell ⟨k, 1, none⟩ v1).setCell ⟨k, 2, none⟩ v2).setCell ⟨k, 3, none⟩ v3) ∧
    ((((u.setCell ⟨k, 0, none⟩ v0).setCell ⟨k, 1, none⟩ v1).setCell ⟨k, 2, none⟩ v2).setCell ⟨k, 3, none⟩ v3).heap[k]? = some (.cells #[v0, v1, v2, v3] 25 (0, 0)) := by
  have t : ∀ j, j ≠ k → ((((u.setCell ⟨k, 0, none⟩ v0).setCell ⟨k, 1, none⟩ v1).setCell ⟨k, 2, none⟩ v2).setCell ⟨k, 3, none⟩ v3).heap[j]? = u.heap[j]? := fun j hj =>
    (Below.heap_setCell _ _ _ _ hj).trans ((Below.heap_setCell _ _ _ _ hj).trans ((Below.heap_setCell _ _ _ _ hj).trans (Below.heap_setCell _ _ _ _ hj)))
  refine ⟨⟨(t b (by omega)).trans h.rd, ⟨h.only.os, h.only.tape, h.only.output, by simpa [World.setCell] using h.only.size, fun j hj hjb => (t j (by omega)).trans (h.only.block j hj hjb)⟩, (t _ (by omega)).trans h.res, (t _ hqk).trans h.blk⟩, ?_⟩
  have e := blk_set (blk_set (blk_set (blk_set hk 0 v0) 1 v1) 2 v2) 3 v3
  rw [e]
  obtain ⟨l⟩ := xs
  match l, hx with
  | [_, _, _, _], _ => rfl
theorem Ro.new {w : World} {b q : Nat} {s : S} {D : Array Value} {u : World} (h : Ro w b q s D u) (hb : b < w.heap.size) (hq : q ≠ b) (o : Obj) :
    Ro w b q s D (u.alloc o) ∧ (u.alloc o).heap[u.heap.size]? = some o := ⟨h.kept hb hq (Kept.one _ _), blk_new _ _⟩
theorem key_ro {w : World} {b q k : Nat} {s : S} {D xs : Array Value} {u : World} (hb : b < w.heap.size) (hq : q ≠ b) {n i s' a : Int} {z : Bool} (hz : Hid (keyB n i s' a = z)) (h : Ro w b q s D u) (hk : u.heap[k]? = some (.cells xs 25 (0, 0))) :
    Calls Tryd.prog 40 #[.agg #[.int .i64 n, .int .i64 i, .int .i64 s', .int .i64 a]] u fun e v => e = .returned (.bool z) ∧ Ro w b q s D v ∧ v.heap[k]? = some (.cells xs 25 (0, 0)) :=
  (key_as hz).mono fun _ _ ⟨he, k2⟩ => ⟨he, h.kept hb hq k2, kept_blk k2 hk⟩
theorem info_key : (Tryd.prog.info? 25).map (·.size) = some 4 := by kernel_rfl

set_option maxRecDepth 100000 in
set_option maxHeartbeats 8000000 in
theorem readkey_any (b : Nat) (s : S) (w : World) (hr : Rd w b s) :
    Calls Tryd.prog 55 #[.pointer (some ⟨b, 0, none⟩)] w (Does b w (rkV s) (rkS s)) := by
  have hb : b < w.heap.size := blk_lt hr
  obtain ⟨W, hW, hK, hx⟩ := boxed1 w #[.int .i64 0, .int .i64 0, .int .i64 0, .int .i64 0] 25
  have hres : W.heap[w.heap.size]? = some (.cells #[.int .i64 0, .int .i64 0, .int .i64 0, .int .i64 0] 25 (0, 0)) := by rw [← hW]; exact blk_new _ _
  have HRD := Lib.hid (read_ro hb hr hK hres)
  have HW := Lib.hid hW
  have HB := Lib.hid hb
  have HV := Lib.hid (And.intro (rk_yes (s := s)) (rk_no (s := s)))
  have hm : Hid ((numV (readS s) 1 : Int) = rda s) := rfl
  obtain ⟨L, hL⟩ : ∃ L : Nat, Hid ((readS s).1.length = L) := ⟨_, rfl⟩
  obtain ⟨ok, hok⟩ : ∃ z, Hid (keyB (rdn s) (rdi s) (rds s) (rda s) = z) := ⟨_, rfl⟩
  obtain ⟨th, hth⟩ : ∃ z, decide (0 < L) = z := ⟨_, rfl⟩
  have hrk : Hid (rkOk s = (th && ok)) := Lib.hid (by unfold rkOk there; rw [hL.out, hth, hok.out])
  obtain ⟨x, hxd⟩ : ∃ x, rdn s = x := ⟨_, rfl⟩
  obtain ⟨y, hyd⟩ : ∃ x, rdi s = x := ⟨_, rfl⟩
  obtain ⟨z, hzd⟩ : ∃ x, rds s = x := ⟨_, rfl⟩
  obtain ⟨a, had⟩ : ∃ x, rda s = x := ⟨_, rfl⟩
  rw [hxd, hyd, hzd] at HRD hok HV
  rw [had] at hok hm HV
  clear hW hK hx hres hr hb hxd hyd hzd had
  cases th <;> cases ok
  case true.true =>
    go_enter Tryd.func55, Tryd.ntmps55
    go_wp2_with fail
    rw [HW.out]
    go_wp2_with (first
      | (go_at_call 68; refine HRD.out.mono ?_; rintro e u1 ⟨rfl, hlt, hO⟩; have hq : u1.heap.size ≠ b := (by have := HB.out; omega))
      | (go_at_call 69; refine (left_ro (by assumption)).mono ?_; rintro e u2 ⟨rfl, rfl⟩; rw [hL.out]))
    have hO2 := hO.kept HB.out hq (Kept.refl _).drew
    have HL := Lib.hid hlt
    have hqk : u1.heap.size ≠ u1.heap.size + 1 := by omega
    go_region_held3 (fun w' => w'.cell? ⟨u1.heap.size, 0, none⟩ = some (.int .i64 x) ∧ w'.cell? ⟨u1.heap.size, 1, none⟩ = some (.int .i64 y) ∧ w'.cell? ⟨u1.heap.size, 2, none⟩ = some (.int .i64 z))
      (first | (with_reducible exact Ro.cells (by assumption)) | (with_reducible exact Ro.cells4 (by assumption) hqk _ _ _ _) | (with_reducible exact (Ro.kept HB.out hq (by assumption) (Kept.one _ _)).cells) | go_keep)
      (first | (go_at_call 51; first
        | ((with_reducible refine (num_ro HB.out hq hm hO2).mono ?_); rintro e u2 ⟨rfl, hP⟩)
        | ((with_reducible refine (num_ro2 HB.out hq hm hO (u1.heap.size + 1) (by simp)).mono ?_); rintro e u2 ⟨rfl, hP, hk4⟩; have k0 := blk_cell hk4 0; have k1 := blk_cell hk4 1; have k2 := blk_cell hk4 2; have k3 := blk_cell hk4 3; have m0 := blk_free hk4 0; have m1 := blk_free hk4 1; have m2 := blk_free hk4 2; have m3 := blk_free hk4 3)))
    all_goals
      first
        | (have hX := hP.set4 HB.out (by have := HL.out; omega) hqk hk4 rfl (.int .i64 x) (.int .i64 y) (.int .i64 z) (.int .i64 a); clear k0 k1 k2 k3 m0 m1 m2 m3)
        | have hX := hP.new HB.out hq (.cells #[.int .i64 x, .int .i64 y, .int .i64 z, .int .i64 a] 25 (0, 0))
      obtain ⟨hX1, hX2⟩ := hX
      have k0 := blk_cell hX2 0
      have k1 := blk_cell hX2 1
      have k2 := blk_cell hX2 2
      have k3 := blk_cell hX2 3
      go_wp2_with (go_at_call 40; refine (key_ro HB.out hq hok hX1 hX2).mono ?_; rintro e u3 ⟨rfl, hR, hk5⟩; have l0 := blk_cell hk5 0; have l1 := blk_cell hk5 1; have l2 := blk_cell hk5 2; have l3 := blk_cell hk5 3; have r0 := blk_cell hR.res 0; have r1 := blk_cell hR.res 1; have r2 := blk_cell hR.res 2; have r3 := blk_cell hR.res 3; have f0 := blk_free hR.res 0; have f1 := blk_free hR.res 1; have f2 := blk_free hR.res 2; have f3 := blk_free hR.res 3)
      obtain ⟨e1, e2, e3⟩ := hR.done HB.out (.int .i64 x) (.int .i64 y) (.int .i64 z) (.int .i64 a)
      refine bodyPost_ret (results_cell_row rfl _ _ w.heap.size 25 _ (0, 0) _ rfl e3 Tryd.underlying25 rfl info_key) rfl ?_
      exact ⟨by rw [(HV.out.1 hrk.out).1], by rw [(HV.out.1 hrk.out).2]; exact e1, e2⟩
  all_goals
    go_enter Tryd.func55, Tryd.ntmps55
    go_wp2_with fail
    rw [HW.out]
    go_wp2_with (first
      | (go_at_call 68; refine HRD.out.mono ?_; rintro e u1 ⟨rfl, hlt, hO⟩; have hq : u1.heap.size ≠ b := (by have := HB.out; omega))
      | (go_at_call 69; refine (left_ro (by assumption)).mono ?_; rintro e u2 ⟨rfl, rfl⟩; rw [hL.out]))
    have hO2 := hO.kept HB.out hq (Kept.refl _).drew
    have HL := Lib.hid hlt
    have hqk : u1.heap.size ≠ u1.heap.size + 1 := by omega
    go_region_held3 (fun w' => w'.cell? ⟨u1.heap.size, 0, none⟩ = some (.int .i64 x) ∧ w'.cell? ⟨u1.heap.size, 1, none⟩ = some (.int .i64 y) ∧ w'.cell? ⟨u1.heap.size, 2, none⟩ = some (.int .i64 z))
      (first | (with_reducible exact Ro.cells (by assumption)) | (with_reducible exact Ro.cells4 (by assumption) hqk _ _ _ _) | (with_reducible exact (Ro.kept HB.out hq (by assumption) (Kept.one _ _)).cells) | go_keep)
      (first | (go_at_call 51; first
        | ((with_reducible refine (num_ro HB.out hq hm hO2).mono ?_); rintro e u2 ⟨rfl, hP⟩)
        | ((with_reducible refine (num_ro2 HB.out hq hm hO (u1.heap.size + 1) (by simp)).mono ?_); rintro e u2 ⟨rfl, hP, hk4⟩; have k0 := blk_cell hk4 0; have k1 := blk_cell hk4 1; have k2 := blk_cell hk4 2; have k3 := blk_cell hk4 3; have m0 := blk_free hk4 0; have m1 := blk_free hk4 1; have m2 := blk_free hk4 2; have m3 := blk_free hk4 3)))
    all_goals
      first
        | (have hX := hP.set4 HB.out (by have := HL.out; omega) hqk hk4 rfl (.int .i64 x) (.int .i64 y) (.int .i64 z) (.int .i64 a); clear k0 k1 k2 k3 m0 m1 m2 m3)
        | have hX := hP.new HB.out hq (.cells #[.int .i64 x, .int .i64 y, .int .i64 z, .int .i64 a] 25 (0, 0))
      obtain ⟨hX1, hX2⟩ := hX
      have k0 := blk_cell hX2 0
      have k1 := blk_cell hX2 1
      have k2 := blk_cell hX2 2
      have k3 := blk_cell hX2 3
      go_wp2_with (first
        | (go_at_call 40; refine (key_ro HB.out hq hok hX1 hX2).mono ?_; rintro e u3 ⟨rfl, hR, hk5⟩)
        | (go_at_call 54; refine (fail_ro HB.out hq 2 (by assumption)).mono ?_; rintro e v ⟨rfl, hC⟩; have r0 := blk_cell hC.res 0; have r1 := blk_cell hC.res 1; have r2 := blk_cell hC.res 2; have r3 := blk_cell hC.res 3; have f0 := blk_free hC.res 0; have f1 := blk_free hC.res 1; have f2 := blk_free hC.res 2; have f3 := blk_free hC.res 3))
      obtain ⟨e1, e2, e3⟩ := hC.done HB.out (.int .i64 0) (.int .i64 0) (.int .i64 0) (.int .i64 0)
      refine bodyPost_ret (results_cell_row rfl _ _ w.heap.size 25 _ (0, 0) _ rfl e3 Tryd.underlying25 rfl info_key) rfl ?_
      exact ⟨by rw [(HV.out.2 hrk.out).1], by rw [(HV.out.2 hrk.out).2]; exact e1, e2⟩

end Go.Proofs.YtpgfaklnbehmhaaDoor.Id
