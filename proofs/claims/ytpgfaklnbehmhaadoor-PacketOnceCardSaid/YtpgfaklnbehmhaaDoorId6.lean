/- Package ident: identities and keys read of bytes. -/
import Derived.Test.YtpgfaklnbehmhaaDoorId5
import Derived.Test.YtpgfaklnbehmhaaDoorBs4
import Derived.Test.YtpgfaklnbehmhaaDoorBsBack
namespace Go.Proofs.YtpgfaklnbehmhaaDoor.Id
open Go.RowKit Go.Sort St IdM BsM Bs
set_option linter.unusedVariables false

/-- the three numbers that are read, and where the reader stands behind each -/
def s1 (s : S) : S := numS s 1
def s2 (s : S) : S := numS (s1 s) 2
def s3 (s : S) : S := numS (s2 s) 3
def vn (s : S) : Int := numV s 1
def vi (s : S) : Int := numV (s1 s) 2
def vs (s : S) : Int := numV (s2 s) 3
def readOk (s : S) : Bool := rightB (vn s) (vi s) (vs s)
def readV (s : S) : Value := if readOk s then .agg #[.int .i64 (vn s), .int .i64 (vi s), .int .i64 (vs s)] else .agg #[.int .i64 0, .int .i64 0, .int .i64 0]
def readS (s : S) : S := if readOk s then s3 s else failS (s3 s) 2

/-- where a call on a reader stands, that has laid blocks of its own (W): the reader at block b, an identity at block c; but for these two nothing has turned -/
structure Ra (W : World) (b c : Nat) (s : S) (x y z : Int) (u : World) : Prop where
  rd : Rd u b s
  blk : u.heap[c]? = some (.cells #[.int .i64 x, .int .i64 y, .int .i64 z] 23 (0, 0))
  os : u.os = W.os
  tape : u.tape = W.tape
  output : u.output = W.output
  size : W.heap.size ≤ u.heap.size
  block : ∀ j, j < W.heap.size → j ≠ b → j ≠ c → u.heap[j]? = W.heap[j]?
theorem Ra.lt {W : World} {b c : Nat} {s : S} {x y z : Int} {u : World} (h : Ra W b c s x y z u) : c < u.heap.size := blk_lt h.blk
theorem Ra.only {W : World} {b c : Nat} {s s' : S} {x y z : Int} {u v : World} (h : Ra W b c s x y z u) (hbc : c ≠ b) (hr : Rd v b s') (ho : Only b u v) : Ra W b c s' x y z v :=
  ⟨hr, ho.other h.blk hbc, ho.os.trans h.os, ho.tape.trans h.tape, ho.output.trans h.output, Nat.le_trans h.size ho.size, fun j hj hb hc => (ho.block j (Nat.lt_of_lt_of_le hj h.size) hb).trans (h.block j hj hb hc)⟩
theorem only_kept {b : Nat} {u v : World} (k : Kept u v) : Only b u v := ⟨k.os, k.tape, k.output, Below.size k, fun j hj _ => k.block j hj⟩
theorem Ra.kept {W : World} {b c : Nat} {s : S} {x y z : Int} {u v : World} (h : Ra W b c s x y z u) (hbc : c ≠ b) (k : Kept u v) : Ra W b c s x y z v := h.only hbc (h.rd.kept k) (only_kept k)
/-- a part is laid beside it, at block q -/
def Rq (W : World) (b c q : Nat) (s : S) (x y z : Int) (p0 p1 : Value) (u : World) : Prop := Ra W b c s x y z u ∧ u.heap[q]? = some (.cells #[p0, p1] 72 (0, 0))
theorem Rq.kept {W : World} {b c q : Nat} {s : S} {x y z : Int} {p0 p1 : Value} {u v : World} (h : Rq W b c q s x y z p0 p1 u) (hbc : c ≠ b) (k : Kept u v) : Rq W b c q s x y z p0 p1 v := ⟨h.1.kept hbc k, kept_blk k h.2⟩
theorem Rq.cells {W : World} {b c q : Nat} {s : S} {x y z : Int} {p0 p1 : Value} {u : World} (h : Rq W b c q s x y z p0 p1 u) : u.cell? ⟨q, 0, none⟩ = some p0 ∧ u.cell? ⟨q, 1, none⟩ = some p1 := ⟨blk_cell h.2 0, blk_cell h.2 1⟩
theorem Rq.num {W : World} {b c q : Nat} {s s' : S} {x y z k m : Int} {p0 p1 : Value} (hbc : c ≠ b) (hqb : q ≠ b) (hm : Hid ((numV s k : Int) = m)) (hs : Hid (numS s k = s')) {u : World} (h : Rq W b c q s x y z p0 p1 u) :
    Calls Tryd.prog 51 #[.pointer (some ⟨b, 0, none⟩), .int .i64 k] u fun e v => e = .returned (.int .i64 m) ∧ Rq W b c q s' x y z p0 p1 v :=
  (rdnum_any b s k u h.1.rd).mono fun _ _ ⟨he, hr, ho⟩ => ⟨by rw [he, hm.out], by rw [← hs.out]; exact h.1.only hbc hr ho, ho.other h.2 hqb⟩
theorem Ra.set {W : World} {b c : Nat} {s : S} {x y z x' y' z' : Int} {u : World} (h : Ra W b c s x y z u) (hbc : c ≠ b) (o : Nat) (v : Value)
    (e : (#[.int .i64 x, .int .i64 y, .int .i64 z] : Array Value).setIfInBounds o v = #[.int .i64 x', .int .i64 y', .int .i64 z']) : Ra W b c s x' y' z' (u.setCell ⟨c, o, none⟩ v) := by
  refine ⟨?_, ?_, h.os, h.tape, h.output, by simpa [World.setCell] using h.size, fun j hj hb hc => ?_⟩
  · exact (Below.heap_setCell _ _ _ _ (fun e => hbc e.symm)).trans h.rd
  · rw [← e]; exact blk_set h.blk o v
  · exact (Below.heap_setCell _ _ _ _ hc).trans (h.block j hj hb hc)

theorem Rq.setcells {W : World} {b c q : Nat} {s : S} {x y z : Int} {p0 p1 : Value} {u : World} (hqc : q ≠ c) (h : Rq W b c q s x y z p0 p1 u) (o : Nat) (v : Value) :
    (u.setCell ⟨c, o, none⟩ v).cell? ⟨q, 0, none⟩ = some p0 ∧ (u.setCell ⟨c, o, none⟩ v).cell? ⟨q, 1, none⟩ = some p1 := by
  have h2 : (u.setCell ⟨c, o, none⟩ v).heap[q]? = some (.cells #[p0, p1] 72 (0, 0)) := (Below.heap_setCell _ _ _ _ hqc).trans h.2
  exact ⟨blk_cell h2 0, blk_cell h2 1⟩

/-- the loop's place behind k rounds -/
def Rk (W : World) (b c : Nat) (s : S) (k : Nat) (u : World) : Prop :=
  (k = 0 ∧ Ra W b c s 0 0 0 u) ∨ (k = 1 ∧ Ra W b c (s1 s) (vn s) 0 0 u) ∨ (k = 2 ∧ Ra W b c (s2 s) (vn s) (vi s) 0 u) ∨ (k = 3 ∧ Ra W b c (s3 s) (vn s) (vi s) (vs s) u)

theorem readV_yes {s : S} (h : readOk s = true) : readV s = .agg #[.int .i64 (vn s), .int .i64 (vi s), .int .i64 (vs s)] ∧ readS s = s3 s := by
  unfold readV readS; rw [h]; exact ⟨rfl, rfl⟩
theorem readV_no {s : S} (h : readOk s = false) : readV s = .agg #[.int .i64 0, .int .i64 0, .int .i64 0] ∧ readS s = failS (s3 s) 2 := by
  unfold readV readS; rw [h]; exact ⟨rfl, rfl⟩
/-- two blocks of the call's own -/
theorem own2 (w : World) (b : Nat) (s : S) (hr : Rd w b s) (xs : Array Value) (t : TypeId) (ht : t = 23) (hx : xs = #[.int .i64 0, .int .i64 0, .int .i64 0]) : ∃ W, (w.alloc (.cells xs t (0, 0))).alloc (.cells xs t (0, 0)) = W ∧ Kept w W ∧ W.heap.size = w.heap.size + 2 ∧
    W.heap[w.heap.size]? = some (.cells xs t (0, 0)) ∧ Ra W b (w.heap.size + 1) s 0 0 0 W := by
  subst ht; subst hx
  have h2 : ((w.alloc (.cells #[.int .i64 0, .int .i64 0, .int .i64 0] 23 (0, 0))).alloc (.cells #[.int .i64 0, .int .i64 0, .int .i64 0] 23 (0, 0))).heap[w.heap.size + 1]? = some (.cells #[.int .i64 0, .int .i64 0, .int .i64 0] 23 (0, 0)) := by
    have := blk_new (w.alloc (.cells #[.int .i64 0, .int .i64 0, .int .i64 0] 23 (0, 0))) (.cells #[.int .i64 0, .int .i64 0, .int .i64 0] 23 (0, 0))
    rw [show (w.alloc (.cells #[.int .i64 0, .int .i64 0, .int .i64 0] 23 (0, 0))).heap.size = w.heap.size + 1 by simp] at this
    exact this
  refine ⟨_, rfl, Kept.more (Kept.one _ _) _, by simp, ?_, hr.kept (Kept.more (Kept.one _ _) _), h2, rfl, rfl, rfl, Nat.le_refl _, fun _ _ _ _ => rfl⟩
  exact kept_blk (Kept.one _ _) (blk_new _ _)

/-- the result's block, as it was laid -/
theorem Ra.res {w W : World} {b c : Nat} {s : S} {x y z : Int} {u : World} (h : Ra W b c s x y z u) (hb : b < w.heap.size) (hc : c = w.heap.size + 1) (hs : W.heap.size = w.heap.size + 2) {xs : Array Value} {t : TypeId}
    (hr : W.heap[w.heap.size]? = some (.cells xs t (0, 0))) : u.heap[w.heap.size]? = some (.cells xs t (0, 0)) :=
  (h.block w.heap.size (by omega) (by omega) (by omega)).trans hr
theorem Ra.done {w W : World} {b c : Nat} {s : S} {x y z : Int} {u : World} (h : Ra W b c s x y z u) (hb : b < w.heap.size) (hc : c = w.heap.size + 1) (hk : Kept w W) {a0 a1 a2 : Value} {t : TypeId}
    (hr : u.heap[w.heap.size]? = some (.cells #[a0, a1, a2] t (0, 0))) (v0 v1 v2 : Value) :
    Rd (((u.setCell ⟨w.heap.size, 0, none⟩ v0).setCell ⟨w.heap.size, 1, none⟩ v1).setCell ⟨w.heap.size, 2, none⟩ v2) b s ∧
    Only b w (((u.setCell ⟨w.heap.size, 0, none⟩ v0).setCell ⟨w.heap.size, 1, none⟩ v1).setCell ⟨w.heap.size, 2, none⟩ v2) ∧
    (((u.setCell ⟨w.heap.size, 0, none⟩ v0).setCell ⟨w.heap.size, 1, none⟩ v1).setCell ⟨w.heap.size, 2, none⟩ v2).heap[w.heap.size]? = some (.cells #[v0, v1, v2] t (0, 0)) := by
  have hne : b ≠ w.heap.size := by omega
  refine ⟨?_, ⟨h.os.trans hk.os, h.tape.trans hk.tape, h.output.trans hk.output, ?_, fun j hj hjb => ?_⟩, ?_⟩
  · exact (Below.heap_setCell _ _ _ _ hne).trans ((Below.heap_setCell _ _ _ _ hne).trans ((Below.heap_setCell _ _ _ _ hne).trans h.rd))
  · simpa [World.setCell] using Nat.le_trans (Below.size hk) h.size
  · have hj2 : j ≠ w.heap.size := by omega
    exact (Below.heap_setCell _ _ _ _ hj2).trans ((Below.heap_setCell _ _ _ _ hj2).trans ((Below.heap_setCell _ _ _ _ hj2).trans ((h.block j (Nat.lt_of_lt_of_le hj (Below.size hk)) hjb (by omega)).trans (hk.block j hj))))
  · exact blk_set (blk_set (blk_set hr 0 v0) 1 v1) 2 v2
theorem fail_ra {W : World} {b c : Nat} {s : S} {x y z : Int} {u : World} (hbc : c ≠ b) (e : Int) (h : Ra W b c s x y z u) :
    Calls Tryd.prog 54 #[.pointer (some ⟨b, 0, none⟩), .int .i64 e] u fun r v => r = .returned (.tuple #[]) ∧ Ra W b c (failS s e) x y z v :=
  (fail_any b s e u h.rd).mono fun _ _ ⟨he, hr, ho⟩ => ⟨he, h.only hbc hr ho⟩
theorem info_id : (Tryd.prog.info? 23).map (·.size) = some 3 := by kernel_rfl

set_option maxRecDepth 100000 in
set_option maxHeartbeats 1600000 in
theorem read_any (b : Nat) (s : S) (w : World) (hr : Rd w b s) :
    Calls Tryd.prog 68 #[.pointer (some ⟨b, 0, none⟩)] w (Does b w (readV s) (readS s)) := by
  have hb : b < w.heap.size := blk_lt hr
  obtain ⟨W, hW, hK, hWs, hres, hRa⟩ := own2 w b s hr _ _ rfl rfl
  have HW := Lib.hid hW
  have HR := Lib.hid hres
  have HK := Lib.hid hK
  have HS := Lib.hid hWs
  have hbc : w.heap.size + 1 ≠ b := by omega
  have hm1 : Hid ((numV s 1 : Int) = vn s) := rfl
  have hm2 : Hid ((numV (s1 s) 2 : Int) = vi s) := rfl
  have hm3 : Hid ((numV (s2 s) 3 : Int) = vs s) := rfl
  have hs1 : Hid (numS s 1 = s1 s) := rfl
  have hs2 : Hid (numS (s1 s) 2 = s2 s) := rfl
  have hs3 : Hid (numS (s2 s) 3 = s3 s) := rfl
  obtain ⟨ok, hok⟩ : ∃ z, Hid (rightB (vn s) (vi s) (vs s) = z) := ⟨_, rfl⟩
  have HB := Lib.hid hb
  have HV := Lib.hid (And.intro (readV_yes (s := s)) (readV_no (s := s)))
  clear hW hK hres hr hWs
  go_enter Tryd.func68, Tryd.ntmps68
  go_wp2_with fail
  rw [HW.out]
  go_wp2_with (go_at_call 65; refine (parts_any _ _).mono ?_; rintro e w1 ⟨rfl, hk1⟩)
  go_loopw [7] (fun i wr => ∃ k : Nat, i = .int .i64 (k : Int) ∧ Rk W b (w.heap.size + 1) s k wr) (fun i _ => 3 - (intOf i).toNat)
  case atStart => exact ⟨0, rfl, .inl ⟨rfl, hRa.kept hbc hk1⟩⟩
  case round =>
    obtain ⟨k, rfl, hk⟩ := hrel
    rcases hk with ⟨rfl, hA⟩ | ⟨rfl, hA⟩ | ⟨rfl, hA⟩ | ⟨rfl, hA⟩
    · have hqb : wr.heap.size ≠ b := by have := hA.lt; omega
      have hqc : wr.heap.size ≠ w.heap.size + 1 := by have := hA.lt; omega
      have hq : Rq W b (w.heap.size + 1) wr.heap.size s 0 0 0 (.pointer (some ⟨w.heap.size + 1, 0, none⟩)) (.int .i64 1) (World.drew (wr.alloc (.cells #[.pointer (some ⟨w.heap.size + 1, 0, none⟩), .int .i64 1] 72 (0, 0)))) :=
        ⟨(hA.kept hbc (Kept.one _ _)).kept hbc (Kept.refl _).drew, blk_new _ _⟩
      have hp := part0 (w.heap.size + 1)
      go_wp2_with fail
      go_region_held3 (fun w' => w'.cell? ⟨wr.heap.size, 0, none⟩ = some (.pointer (some ⟨w.heap.size + 1, 0, none⟩)) ∧ w'.cell? ⟨wr.heap.size, 1, none⟩ = some (.int .i64 1)) (first | exact Rq.cells (by assumption) | exact Rq.setcells hqc (by assumption) _ _)
        (first | (go_at_call 51; refine (Rq.num hbc hqb hm1 hs1 (by assumption)).mono ?_; rintro e u ⟨rfl, hU⟩; have hc0 := blk_cell hU.1.blk 0; have hf0 := blk_free hU.1.blk 0))
      go_wp2_with fail
      go_roundw
      case rel => exact ⟨1, rfl, .inr (.inl ⟨rfl, hU.1.set hbc 0 _ rfl⟩)⟩
      case measure => simp [intOf]
    · have hqb : wr.heap.size ≠ b := by have := hA.lt; omega
      have hqc : wr.heap.size ≠ w.heap.size + 1 := by have := hA.lt; omega
      have hq : Rq W b (w.heap.size + 1) wr.heap.size (s1 s) (vn s) 0 0 (.pointer (some ⟨w.heap.size + 1, 1, none⟩)) (.int .i64 2) (World.drew (wr.alloc (.cells #[.pointer (some ⟨w.heap.size + 1, 1, none⟩), .int .i64 2] 72 (0, 0)))) :=
        ⟨(hA.kept hbc (Kept.one _ _)).kept hbc (Kept.refl _).drew, blk_new _ _⟩
      have hp := part1 (w.heap.size + 1)
      go_wp2_with fail
      go_region_held3 (fun w' => w'.cell? ⟨wr.heap.size, 0, none⟩ = some (.pointer (some ⟨w.heap.size + 1, 1, none⟩)) ∧ w'.cell? ⟨wr.heap.size, 1, none⟩ = some (.int .i64 2)) (first | exact Rq.cells (by assumption) | exact Rq.setcells hqc (by assumption) _ _)
        (first | (go_at_call 51; refine (Rq.num hbc hqb hm2 hs2 (by assumption)).mono ?_; rintro e u ⟨rfl, hU⟩; have hc0 := blk_cell hU.1.blk 1; have hf0 := blk_free hU.1.blk 1))
      go_wp2_with fail
      go_roundw
      case rel => exact ⟨2, rfl, .inr (.inr (.inl ⟨rfl, hU.1.set hbc 1 _ rfl⟩))⟩
      case measure => simp [intOf]
    · have hqb : wr.heap.size ≠ b := by have := hA.lt; omega
      have hqc : wr.heap.size ≠ w.heap.size + 1 := by have := hA.lt; omega
      have hq : Rq W b (w.heap.size + 1) wr.heap.size (s2 s) (vn s) (vi s) 0 (.pointer (some ⟨w.heap.size + 1, 2, none⟩)) (.int .i64 3) (World.drew (wr.alloc (.cells #[.pointer (some ⟨w.heap.size + 1, 2, none⟩), .int .i64 3] 72 (0, 0)))) :=
        ⟨(hA.kept hbc (Kept.one _ _)).kept hbc (Kept.refl _).drew, blk_new _ _⟩
      have hp := part2 (w.heap.size + 1)
      go_wp2_with fail
      go_region_held3 (fun w' => w'.cell? ⟨wr.heap.size, 0, none⟩ = some (.pointer (some ⟨w.heap.size + 1, 2, none⟩)) ∧ w'.cell? ⟨wr.heap.size, 1, none⟩ = some (.int .i64 3)) (first | exact Rq.cells (by assumption) | exact Rq.setcells hqc (by assumption) _ _)
        (first | (go_at_call 51; refine (Rq.num hbc hqb hm3 hs3 (by assumption)).mono ?_; rintro e u ⟨rfl, hU⟩; have hc0 := blk_cell hU.1.blk 2; have hf0 := blk_free hU.1.blk 2))
      go_wp2_with fail
      go_roundw
      case rel => exact ⟨3, rfl, .inr (.inr (.inr ⟨rfl, hU.1.set hbc 2 _ rfl⟩))⟩
      case measure => simp [intOf]
    · have c0 := blk_cell hA.blk 0
      have c1 := blk_cell hA.blk 1
      have c2 := blk_cell hA.blk 2
      cases ok
      · go_wp2_with (first
          | (go_at_call 59; refine (right_as hok).mono ?_; rintro e u ⟨rfl, hk⟩; have hB := hA.kept hbc hk)
          | (go_at_call 54; refine (fail_ra hbc 2 (by assumption)).mono ?_; rintro e v ⟨rfl, hC⟩; have hr := (hC).res HB.out rfl HS.out HR.out; have d0 := blk_cell hr 0; have d1 := blk_cell hr 1; have d2 := blk_cell hr 2; have f0 := blk_free hr 0; have f1 := blk_free hr 1; have f2 := blk_free hr 2))
        obtain ⟨e1, e2, e3⟩ := hC.done HB.out rfl HK.out hr (.int .i64 0) (.int .i64 0) (.int .i64 0)
        refine bodyPost_ret (results_cell_row rfl _ _ w.heap.size 23 _ (0, 0) _ rfl e3 Tryd.underlying23 rfl info_id) rfl ?_
        exact ⟨by rw [(HV.out.2 hok.out).1], by rw [(HV.out.2 hok.out).2]; exact e1, e2⟩
      · go_wp2_with (go_at_call 59; refine (right_as hok).mono ?_; rintro e u ⟨rfl, hk⟩; have hB := hA.kept hbc hk; have g0 := blk_cell hB.blk 0; have g1 := blk_cell hB.blk 1; have g2 := blk_cell hB.blk 2; have hr := (hB).res HB.out rfl HS.out HR.out; have d0 := blk_cell hr 0; have d1 := blk_cell hr 1; have d2 := blk_cell hr 2; have f0 := blk_free hr 0; have f1 := blk_free hr 1; have f2 := blk_free hr 2)
        obtain ⟨e1, e2, e3⟩ := hB.done HB.out rfl HK.out hr (.int .i64 (vn s)) (.int .i64 (vi s)) (.int .i64 (vs s))
        refine bodyPost_ret (results_cell_row rfl _ _ w.heap.size 23 _ (0, 0) _ rfl e3 Tryd.underlying23 rfl info_id) rfl ?_
        exact ⟨by rw [(HV.out.1 hok.out).1], by rw [(HV.out.1 hok.out).2]; exact e1, e2⟩

end Go.Proofs.YtpgfaklnbehmhaaDoor.Id
