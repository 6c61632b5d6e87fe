/- Package ident: identities and keys as bytes; and the document's. Package ident: identities and keys read of bytes. Package ident: keys read of bytes. -/
import Derived.Test.YtncdiggejofbbaaGreatDoorId
import Derived.Test.YtncdiggejofbbaaGreatDoorBx
import Derived.Test.YtncdiggejofbbaaGreatDoorBs
import Derived.StillTailTactics
import Derived.Laws.Rows
namespace Go.Proofs.YtncdiggejofbbaaGreatDoor.Id
open Go.RowKit Go.Sort St IdM BsM Bs
set_option linter.unusedVariables false

def codeL (n i s : Int) : List UInt8 := numL n 1 ++ (numL i 2 ++ numL s 3)
def keyCodeL (n i s a : Int) : List UInt8 := codeL n i s ++ numL a 1
theorem num_named (n k : Int) : ∃ E : ByteArray, Hid ((⟨(numL n k).toArray⟩ : ByteArray) = E) ∧ E.size ≤ 7 := by
  refine ⟨_, rfl, ?_⟩
  show (numL n k).toArray.size ≤ 7
  by_cases h : numOk n k = true
  · have := numOk_lt h; have := num_len h; simp; omega
  · rw [num_no (by simpa using h)]; simp
theorem codeL_len (n i s : Int) : (codeL n i s).length ≤ 21 := by
  obtain ⟨a, ha, h1⟩ := num_named n 1
  obtain ⟨b, hb, h2⟩ := num_named i 2
  obtain ⟨c, hc, h3⟩ := num_named s 3
  rw [← ha.out] at h1; rw [← hb.out] at h2; rw [← hc.out] at h3
  rw [size_list] at h1 h2 h3
  have h1' : (numL n 1).length ≤ 7 := h1
  have h2' : (numL i 2).length ≤ 7 := h2
  have h3' : (numL s 3).length ≤ 7 := h3
  simp only [codeL, List.length_append]
  omega
theorem code_named (n i s : Int) : ∃ E : ByteArray, Hid ((⟨(codeL n i s).toArray⟩ : ByteArray) = E) ∧ E.size ≤ 21 :=
  ⟨_, rfl, by rw [size_list]; exact codeL_len n i s⟩
theorem code_cat {a b c D : ByteArray} {n i s : Int} (h1 : Hid ((⟨(numL n 1).toArray⟩ : ByteArray) = a)) (h2 : Hid ((⟨(numL i 2).toArray⟩ : ByteArray) = b)) (h3 : Hid ((⟨(numL s 3).toArray⟩ : ByteArray) = c)) (hD : Hid ((⟨(codeL n i s).toArray⟩ : ByteArray) = D)) : (a ++ b ++ c).data.toList = D.data.toList := by
  rw [← h1.out, ← h2.out, ← h3.out, ← hD.out]; simp [codeL]
theorem keycode_cat {a b D : ByteArray} {n i s k : Int} (h1 : Hid ((⟨(codeL n i s).toArray⟩ : ByteArray) = a)) (h2 : Hid ((⟨(numL k 1).toArray⟩ : ByteArray) = b)) (hD : Hid ((⟨(keyCodeL n i s k).toArray⟩ : ByteArray) = D)) : (a ++ b).data.toList = D.data.toList := by
  rw [← h1.out, ← h2.out, ← hD.out]; simp [keyCodeL]



/-- an identity's parts, as places and widths -/
def partsV (b : Nat) : Array Value := #[.pointer (some ⟨b, 0, none⟩), .int .i64 1, .pointer (some ⟨b, 1, none⟩), .int .i64 2, .pointer (some ⟨b, 2, none⟩), .int .i64 3]
theorem info_parts (b : Nat) : (Tryz.prog.info? 112).map (·.size) = some (partsV b).size := by kernel_rfl
set_option maxRecDepth 100000 in
set_option maxHeartbeats 800000 in
theorem parts_any (b : Nat) (w : World) :
    Calls Tryz.prog 89 #[.pointer (some ⟨b, 0, none⟩)] w fun e w' => e = .returned (.agg (partsV b)) ∧ Kept w w' := by
  go_enter Tryz.func89, Tryz.ntmps89
  go_wp2_with fail
  refine wp_region_still_tail 13 (by kernel_rfl) (by kernel_rfl) ?_
  change wpStill _ _ (World.drew _) (fun a' => wpList _ _ _ _ a' (World.drew _)) _ _
  simp only [List.take_succ_cons, List.take_zero, List.drop_succ_cons, List.drop_zero]
  repeat still_step
  refine wpStill_nil ?_
  go_wp2_with fail
  refine bodyPost_ret (results_cell_row rfl _ _ w.heap.size 112 (partsV b) (0, 0) _ rfl (show (World.drew _).heap[_]? = _ from blk_new w _) Tryz.underlying112 rfl (info_parts b)) rfl ⟨rfl, Kept.drew (Kept.one _ _)⟩
theorem part0 (b : Nat) (w : World) : (Instr.index 112 (.agg (partsV b)) (.int .i64 0)).run Tryz.prog w = .ok (.agg #[.pointer (some ⟨b, 0, none⟩), .int .i64 1]) w := by kernel_rfl
theorem part1 (b : Nat) (w : World) : (Instr.index 112 (.agg (partsV b)) (.int .i64 1)).run Tryz.prog w = .ok (.agg #[.pointer (some ⟨b, 1, none⟩), .int .i64 2]) w := by kernel_rfl
theorem part2 (b : Nat) (w : World) : (Instr.index 112 (.agg (partsV b)) (.int .i64 2)).run Tryz.prog w = .ok (.agg #[.pointer (some ⟨b, 2, none⟩), .int .i64 3]) w := by kernel_rfl
theorem told_one {D a E : ByteArray} (h : (D ++ a).data.toList = E.data.toList) {v : Value} (hv : v = .string (D ++ a)) : v = .string E := by
  rw [hv, str_of (D ++ a) _ h, ← str_of E _ rfl]

/-- what stands in a place behind so many of three rounds -/
def Part3 (k : Nat) (t a b c d : Value) : Prop := (k = 0 ∧ t = a) ∨ (k = 1 ∧ t = b) ∨ (k = 2 ∧ t = c) ∨ (k = 3 ∧ t = d)

set_option maxRecDepth 100000 in
set_option maxHeartbeats 1600000 in
theorem code_as {n i s : Int} {D : ByteArray} (hD : Hid ((⟨(codeL n i s).toArray⟩ : ByteArray) = D)) {w : World} :
    Calls Tryz.prog 71 #[.agg #[.int .i64 n, .int .i64 i, .int .i64 s]] w fun e w' => e = .returned (.string D) ∧ Kept w w' := by
  obtain ⟨a, h1, s1⟩ := num_named n 1
  obtain ⟨b, h2, s2⟩ := num_named i 2
  obtain ⟨c, h3, s3⟩ := num_named s 3
  obtain ⟨D2, hD2⟩ : ∃ E : ByteArray, a ++ b = E := ⟨_, rfl⟩
  have s4 : D2.size ≤ 14 := by rw [← hD2]; simp; omega
  have HC := Lib.hid (code_cat h1 h2 h3 hD)
  have r1 : ∀ {v : Value}, v = .string ({ data := #[] } ++ a) → v = .string a := fun hv => told_one (by simp) hv
  have r2 : ∀ {v : Value}, v = .string (a ++ b) → v = .string D2 := fun hv => told_one (by rw [hD2]) hv
  have r3 : ∀ {v : Value}, v = .string (D2 ++ c) → v = .string D := fun hv => told_one (by rw [← HC.out, hD2]) hv
  have R1 : Hid (∀ {v : Value}, v = .string ({ data := #[] } ++ a) → v = .string a) := r1
  have R2 : Hid (∀ {v : Value}, v = .string (a ++ b) → v = .string D2) := r2
  have R3 : Hid (∀ {v : Value}, v = .string (D2 ++ c) → v = .string D) := r3
  have n1 : ¬ 9223372036854775807 < 0 + a.size := by omega
  have n2 : ¬ 9223372036854775807 < a.size + b.size := by omega
  have n3 : ¬ 9223372036854775807 < D2.size + c.size := by omega
  obtain ⟨W, hW, hK, hx⟩ := boxed1 w #[.int .i64 n, .int .i64 i, .int .i64 s] 26
  have HW := Lib.hid hW
  have HX : Hid (W.cell? ⟨w.heap.size, 0, none⟩ = some (.int .i64 n) ∧ W.cell? ⟨w.heap.size, 1, none⟩ = some (.int .i64 i) ∧ W.cell? ⟨w.heap.size, 2, none⟩ = some (.int .i64 s)) := ⟨hx 0, hx 1, hx 2⟩
  clear r1 r2 r3 hD2 hW hx hD
  go_enter Tryz.func71, Tryz.ntmps71
  go_wp2_with fail
  rw [HW.out]
  go_wp2_with (go_at_call 89; refine (parts_any _ _).mono ?_; rintro e w1 ⟨rfl, hk1⟩)
  go_loopw [3, 7] (fun t i wr => ∃ k : Nat, i = .int .i64 (k : Int) ∧ Part3 k t (.string { data := #[] }) (.string a) (.string D2) (.string D) ∧ Kept W wr) (fun _ i _ => 3 - (intOf i).toNat)
  case atStart => exact ⟨0, rfl, .inl ⟨rfl, rfl⟩, hk1⟩
  case round =>
    obtain ⟨k, rfl, hk, hkept⟩ := hrel
    have g0 := (hkept.cell (p := ⟨w.heap.size, 0, none⟩) (cell_lt HX.out.1)).trans HX.out.1
    have g1 := (hkept.cell (p := ⟨w.heap.size, 1, none⟩) (cell_lt HX.out.2.1)).trans HX.out.2.1
    have g2 := (hkept.cell (p := ⟨w.heap.size, 2, none⟩) (cell_lt HX.out.2.2)).trans HX.out.2.2
    have gl : w.heap.size < wr.heap.size := cell_lt g0
    rcases hk with ⟨rfl, rfl⟩ | ⟨rfl, rfl⟩ | ⟨rfl, rfl⟩ | ⟨rfl, rfl⟩
    · obtain ⟨W1, hW1, hK1, hy⟩ := boxed1 wr #[.pointer (some ⟨w.heap.size, 0, none⟩), .int .i64 1] 111
      have HW1 := Lib.hid hW1
      have y0 := cell_regrown (hy 0)
      have y1 := cell_regrown (hy 1)
      have y2 := cell_regrown ((hK1.cell (p := ⟨w.heap.size, 0, none⟩) gl).trans g0)
      have hq := quiet_at hK1 (fun x hx => num_any n 1 x)
      rw [h1.out] at hq
      have HQ := Lib.hid hq
      have hp := part0 w.heap.size
      clear hW1 hy hq g0 g1 g2
      go_wp2_with fail
      rw [HW1.out]
      refine wp_region_quiet_below (by kernel_rfl) (by kernel_rfl) ?_
      repeat (go_big_quiet_step (exact HQ.out _))
      refine wpQuiet_nil ?_
      intro _ hw'
      obtain ⟨⟨dq, osq⟩, hw''⟩ := hw'
      subst hw''
      have K3 := (hkept.trans hK1).trans (below_regrown W1 dq osq)
      go_wp2_with fail
      go_roundw
      case rel => exact ⟨1, rfl, .inr (.inl ⟨rfl, R1.out rfl⟩), K3⟩
      case measure => simp [intOf]
    · obtain ⟨W1, hW1, hK1, hy⟩ := boxed1 wr #[.pointer (some ⟨w.heap.size, 1, none⟩), .int .i64 2] 111
      have HW1 := Lib.hid hW1
      have y0 := cell_regrown (hy 0)
      have y1 := cell_regrown (hy 1)
      have y2 := cell_regrown ((hK1.cell (p := ⟨w.heap.size, 1, none⟩) gl).trans g1)
      have hq := quiet_at hK1 (fun x hx => num_any i 2 x)
      rw [h2.out] at hq
      have HQ := Lib.hid hq
      have hp := part1 w.heap.size
      clear hW1 hy hq g0 g1 g2
      go_wp2_with fail
      rw [HW1.out]
      refine wp_region_quiet_below (by kernel_rfl) (by kernel_rfl) ?_
      repeat (go_big_quiet_step (exact HQ.out _))
      refine wpQuiet_nil ?_
      intro _ hw'
      obtain ⟨⟨dq, osq⟩, hw''⟩ := hw'
      subst hw''
      have K3 := (hkept.trans hK1).trans (below_regrown W1 dq osq)
      go_wp2_with fail
      go_roundw
      case rel => exact ⟨2, rfl, .inr (.inr (.inl ⟨rfl, R2.out rfl⟩)), K3⟩
      case measure => simp [intOf]
    · obtain ⟨W1, hW1, hK1, hy⟩ := boxed1 wr #[.pointer (some ⟨w.heap.size, 2, none⟩), .int .i64 3] 111
      have HW1 := Lib.hid hW1
      have y0 := cell_regrown (hy 0)
      have y1 := cell_regrown (hy 1)
      have y2 := cell_regrown ((hK1.cell (p := ⟨w.heap.size, 2, none⟩) gl).trans g2)
      have hq := quiet_at hK1 (fun x hx => num_any s 3 x)
      rw [h3.out] at hq
      have HQ := Lib.hid hq
      have hp := part2 w.heap.size
      clear hW1 hy hq g0 g1 g2
      go_wp2_with fail
      rw [HW1.out]
      refine wp_region_quiet_below (by kernel_rfl) (by kernel_rfl) ?_
      repeat (go_big_quiet_step (exact HQ.out _))
      refine wpQuiet_nil ?_
      intro _ hw'
      obtain ⟨⟨dq, osq⟩, hw''⟩ := hw'
      subst hw''
      have K3 := (hkept.trans hK1).trans (below_regrown W1 dq osq)
      go_wp2_with fail
      go_roundw
      case rel => exact ⟨3, rfl, .inr (.inr (.inr ⟨rfl, R3.out rfl⟩)), K3⟩
      case measure => simp [intOf]
    · go_wp2_with fail
      go_ret
      exact ⟨rfl, hK.trans hkept⟩

set_option maxRecDepth 100000 in
set_option maxHeartbeats 800000 in
theorem keycode_as {n i s k : Int} {D : ByteArray} (hD : Hid ((⟨(keyCodeL n i s k).toArray⟩ : ByteArray) = D)) {w : World} :
    Calls Tryz.prog 69 #[.agg #[.int .i64 n, .int .i64 i, .int .i64 s, .int .i64 k]] w fun e w' => e = .returned (.string D) ∧ Kept w w' := by
  obtain ⟨a, h1, s1⟩ := code_named n i s
  obtain ⟨b, h2, s2⟩ := num_named k 1
  obtain ⟨W, hW, hK, hx⟩ := boxed1 w #[.int .i64 n, .int .i64 i, .int .i64 s, .int .i64 k] 28
  have x0 := cell_regrown (hx 0)
  have x1 := cell_regrown (hx 1)
  have x2 := cell_regrown (hx 2)
  have x3 := cell_regrown (hx 3)
  clear hx
  have Q1 := quiet_at hK (fun x hx => code_as (w := x) h1)
  have Q2 := quiet_at hK (fun x hx => num_any k 1 x)
  rw [h2.out] at Q2
  have HW := Lib.hid hW
  clear hW
  have HC := Lib.hid (keycode_cat h1 h2 hD)
  have n1 : ¬ 9223372036854775807 < a.size + b.size := by omega
  clear hD
  go_enter Tryz.func69, Tryz.ntmps69
  go_wp2_with fail
  rw [HW.out]
  refine wp_region_quiet_below (by kernel_rfl) (by kernel_rfl) ?_
  repeat (go_big_quiet_step (first | (with_reducible exact Q1.out _) | (with_reducible exact Q2.out _)))
  refine wpQuiet_nil ?_
  intro _ hw'
  obtain ⟨⟨dq, osq⟩, hw''⟩ := hw'
  subst hw''
  go_wp2_with fail
  go_ret
  exact ⟨ret_str HC.out, hK.trans (below_regrown _ dq osq)⟩

end Go.Proofs.YtncdiggejofbbaaGreatDoor.Id

namespace Go.Proofs.YtncdiggejofbbaaGreatDoor.Id
open Go.RowKit Go.Sort St IdM BsM Bs
set_option linter.unusedVariables false

/-- the three numbers that are read, and where the reader stands behind each -/
def s1 (s : S) : S := numS s 1
def s2 (s : S) : S := numS (s1 s) 2
def s3 (s : S) : S := numS (s2 s) 3
def vn (s : S) : Int := numV s 1
def vi (s : S) : Int := numV (s1 s) 2
def vs (s : S) : Int := numV (s2 s) 3
def readOk (s : S) : Bool := rightB (vn s) (vi s) (vs s)
def readV (s : S) : Value := if readOk s then .agg #[.int .i64 (vn s), .int .i64 (vi s), .int .i64 (vs s)] else .agg #[.int .i64 0, .int .i64 0, .int .i64 0]
def readS (s : S) : S := if readOk s then s3 s else failS (s3 s) 2

/-- where a call on a reader stands, that has laid blocks of its own (W): the reader at block b, an identity at block c; but for these two nothing has turned -/
structure Ra (W : World) (b c : Nat) (s : S) (x y z : Int) (u : World) : Prop where
  rd : Rd u b s
  blk : u.heap[c]? = some (.cells #[.int .i64 x, .int .i64 y, .int .i64 z] 26 (0, 0))
  os : u.os = W.os
  tape : u.tape = W.tape
  output : u.output = W.output
  size : W.heap.size ≤ u.heap.size
  block : ∀ j, j < W.heap.size → j ≠ b → j ≠ c → u.heap[j]? = W.heap[j]?
theorem Ra.lt {W : World} {b c : Nat} {s : S} {x y z : Int} {u : World} (h : Ra W b c s x y z u) : c < u.heap.size := blk_lt h.blk
theorem Ra.only {W : World} {b c : Nat} {s s' : S} {x y z : Int} {u v : World} (h : Ra W b c s x y z u) (hbc : c ≠ b) (hr : Rd v b s') (ho : Only b u v) : Ra W b c s' x y z v :=
  ⟨hr, ho.other h.blk hbc, ho.os.trans h.os, ho.tape.trans h.tape, ho.output.trans h.output, Nat.le_trans h.size ho.size, fun j hj hb hc => (ho.block j (Nat.lt_of_lt_of_le hj h.size) hb).trans (h.block j hj hb hc)⟩
theorem only_kept {b : Nat} {u v : World} (k : Kept u v) : Only b u v := ⟨k.os, k.tape, k.output, Below.size k, fun j hj _ => k.block j hj⟩
theorem Ra.kept {W : World} {b c : Nat} {s : S} {x y z : Int} {u v : World} (h : Ra W b c s x y z u) (hbc : c ≠ b) (k : Kept u v) : Ra W b c s x y z v := h.only hbc (h.rd.kept k) (only_kept k)
/-- a part is laid beside it, at block q -/
def Rq (W : World) (b c q : Nat) (s : S) (x y z : Int) (p0 p1 : Value) (u : World) : Prop := Ra W b c s x y z u ∧ u.heap[q]? = some (.cells #[p0, p1] 111 (0, 0))
theorem Rq.kept {W : World} {b c q : Nat} {s : S} {x y z : Int} {p0 p1 : Value} {u v : World} (h : Rq W b c q s x y z p0 p1 u) (hbc : c ≠ b) (k : Kept u v) : Rq W b c q s x y z p0 p1 v := ⟨h.1.kept hbc k, kept_blk k h.2⟩
theorem Rq.cells {W : World} {b c q : Nat} {s : S} {x y z : Int} {p0 p1 : Value} {u : World} (h : Rq W b c q s x y z p0 p1 u) : u.cell? ⟨q, 0, none⟩ = some p0 ∧ u.cell? ⟨q, 1, none⟩ = some p1 := ⟨blk_cell h.2 0, blk_cell h.2 1⟩
theorem Rq.num {W : World} {b c q : Nat} {s s' : S} {x y z k m : Int} {p0 p1 : Value} (hbc : c ≠ b) (hqb : q ≠ b) (hm : Hid ((numV s k : Int) = m)) (hs : Hid (numS s k = s')) {u : World} (h : Rq W b c q s x y z p0 p1 u) :
    Calls Tryz.prog 62 #[.pointer (some ⟨b, 0, none⟩), .int .i64 k] u fun e v => e = .returned (.int .i64 m) ∧ Rq W b c q s' x y z p0 p1 v :=
  (rdnum_any b s k u h.1.rd).mono fun _ _ ⟨he, hr, ho⟩ => ⟨by rw [he, hm.out], by rw [← hs.out]; exact h.1.only hbc hr ho, ho.other h.2 hqb⟩
theorem Ra.set {W : World} {b c : Nat} {s : S} {x y z x' y' z' : Int} {u : World} (h : Ra W b c s x y z u) (hbc : c ≠ b) (o : Nat) (v : Value)
    (e : (#[.int .i64 x, .int .i64 y, .int .i64 z] : Array Value).setIfInBounds o v = #[.int .i64 x', .int .i64 y', .int .i64 z']) : Ra W b c s x' y' z' (u.setCell ⟨c, o, none⟩ v) := by
  refine ⟨?_, ?_, h.os, h.tape, h.output, by simpa [World.setCell] using h.size, fun j hj hb hc => ?_⟩
  · exact (Below.heap_setCell _ _ _ _ (fun e => hbc e.symm)).trans h.rd
  · rw [← e]; exact blk_set h.blk o v
  · exact (Below.heap_setCell _ _ _ _ hc).trans (h.block j hj hb hc)

theorem Rq.setcells {W : World} {b c q : Nat} {s : S} {x y z : Int} {p0 p1 : Value} {u : World} (hqc : q ≠ c) (h : Rq W b c q s x y z p0 p1 u) (o : Nat) (v : Value) :
    (u.setCell ⟨c, o, none⟩ v).cell? ⟨q, 0, none⟩ = some p0 ∧ (u.setCell ⟨c, o, none⟩ v).cell? ⟨q, 1, none⟩ = some p1 := by
  have h2 : (u.setCell ⟨c, o, none⟩ v).heap[q]? = some (.cells #[p0, p1] 111 (0, 0)) := (Below.heap_setCell _ _ _ _ hqc).trans h.2
  exact ⟨blk_cell h2 0, blk_cell h2 1⟩

/-- the loop's place behind k rounds -/
def Rk (W : World) (b c : Nat) (s : S) (k : Nat) (u : World) : Prop :=
  (k = 0 ∧ Ra W b c s 0 0 0 u) ∨ (k = 1 ∧ Ra W b c (s1 s) (vn s) 0 0 u) ∨ (k = 2 ∧ Ra W b c (s2 s) (vn s) (vi s) 0 u) ∨ (k = 3 ∧ Ra W b c (s3 s) (vn s) (vi s) (vs s) u)

theorem readV_yes {s : S} (h : readOk s = true) : readV s = .agg #[.int .i64 (vn s), .int .i64 (vi s), .int .i64 (vs s)] ∧ readS s = s3 s := by
  unfold readV readS; rw [h]; exact ⟨rfl, rfl⟩
theorem readV_no {s : S} (h : readOk s = false) : readV s = .agg #[.int .i64 0, .int .i64 0, .int .i64 0] ∧ readS s = failS (s3 s) 2 := by
  unfold readV readS; rw [h]; exact ⟨rfl, rfl⟩
/-- two blocks of the call's own -/
theorem own2 (w : World) (b : Nat) (s : S) (hr : Rd w b s) (xs : Array Value) (t : TypeId) (ht : t = 26) (hx : xs = #[.int .i64 0, .int .i64 0, .int .i64 0]) : ∃ W, (w.alloc (.cells xs t (0, 0))).alloc (.cells xs t (0, 0)) = W ∧ Kept w W ∧ W.heap.size = w.heap.size + 2 ∧
    W.heap[w.heap.size]? = some (.cells xs t (0, 0)) ∧ Ra W b (w.heap.size + 1) s 0 0 0 W := by
  subst ht; subst hx
  have h2 : ((w.alloc (.cells #[.int .i64 0, .int .i64 0, .int .i64 0] 26 (0, 0))).alloc (.cells #[.int .i64 0, .int .i64 0, .int .i64 0] 26 (0, 0))).heap[w.heap.size + 1]? = some (.cells #[.int .i64 0, .int .i64 0, .int .i64 0] 26 (0, 0)) := by
    have := blk_new (w.alloc (.cells #[.int .i64 0, .int .i64 0, .int .i64 0] 26 (0, 0))) (.cells #[.int .i64 0, .int .i64 0, .int .i64 0] 26 (0, 0))
    rw [show (w.alloc (.cells #[.int .i64 0, .int .i64 0, .int .i64 0] 26 (0, 0))).heap.size = w.heap.size + 1 by simp] at this
    exact this
  refine ⟨_, rfl, Kept.more (Kept.one _ _) _, by simp, ?_, hr.kept (Kept.more (Kept.one _ _) _), h2, rfl, rfl, rfl, Nat.le_refl _, fun _ _ _ _ => rfl⟩
  exact kept_blk (Kept.one _ _) (blk_new _ _)

/-- the result's block, as it was laid -/
theorem Ra.res {w W : World} {b c : Nat} {s : S} {x y z : Int} {u : World} (h : Ra W b c s x y z u) (hb : b < w.heap.size) (hc : c = w.heap.size + 1) (hs : W.heap.size = w.heap.size + 2) {xs : Array Value} {t : TypeId}
    (hr : W.heap[w.heap.size]? = some (.cells xs t (0, 0))) : u.heap[w.heap.size]? = some (.cells xs t (0, 0)) :=
  (h.block w.heap.size (by omega) (by omega) (by omega)).trans hr
theorem Ra.done {w W : World} {b c : Nat} {s : S} {x y z : Int} {u : World} (h : Ra W b c s x y z u) (hb : b < w.heap.size) (hc : c = w.heap.size + 1) (hk : Kept w W) {a0 a1 a2 : Value} {t : TypeId}
    (hr : u.heap[w.heap.size]? = some (.cells #[a0, a1, a2] t (0, 0))) (v0 v1 v2 : Value) :
    Rd (((u.setCell ⟨w.heap.size, 0, none⟩ v0).setCell ⟨w.heap.size, 1, none⟩ v1).setCell ⟨w.heap.size, 2, none⟩ v2) b s ∧
    Only b w (((u.setCell ⟨w.heap.size, 0, none⟩ v0).setCell ⟨w.heap.size, 1, none⟩ v1).setCell ⟨w.heap.size, 2, none⟩ v2) ∧
    (((u.setCell ⟨w.heap.size, 0, none⟩ v0).setCell ⟨w.heap.size, 1, none⟩ v1).setCell ⟨w.heap.size, 2, none⟩ v2).heap[w.heap.size]? = some (.cells #[v0, v1, v2] t (0, 0)) := by
  have hne : b ≠ w.heap.size := by omega
  refine ⟨?_, ⟨h.os.trans hk.os, h.tape.trans hk.tape, h.output.trans hk.output, ?_, fun j hj hjb => ?_⟩, ?_⟩
  · exact (Below.heap_setCell _ _ _ _ hne).trans ((Below.heap_setCell _ _ _ _ hne).trans ((Below.heap_setCell _ _ _ _ hne).trans h.rd))
  · simpa [World.setCell] using Nat.le_trans (Below.size hk) h.size
  · have hj2 : j ≠ w.heap.size := by omega
    exact (Below.heap_setCell _ _ _ _ hj2).trans ((Below.heap_setCell _ _ _ _ hj2).trans ((Below.heap_setCell _ _ _ _ hj2).trans ((h.block j (Nat.lt_of_lt_of_le hj (Below.size hk)) hjb (by omega)).trans (hk.block j hj))))
  · exact blk_set (blk_set (blk_set hr 0 v0) 1 v1) 2 v2
theorem fail_ra {W : World} {b c : Nat} {s : S} {x y z : Int} {u : World} (hbc : c ≠ b) (e : Int) (h : Ra W b c s x y z u) :
    Calls Tryz.prog 65 #[.pointer (some ⟨b, 0, none⟩), .int .i64 e] u fun r v => r = .returned (.tuple #[]) ∧ Ra W b c (failS s e) x y z v :=
  (fail_any b s e u h.rd).mono fun _ _ ⟨he, hr, ho⟩ => ⟨he, h.only hbc hr ho⟩
theorem info_id : (Tryz.prog.info? 26).map (·.size) = some 3 := by kernel_rfl

set_option maxRecDepth 100000 in
set_option maxHeartbeats 1600000 in
theorem read_any (b : Nat) (s : S) (w : World) (hr : Rd w b s) :
    Calls Tryz.prog 86 #[.pointer (some ⟨b, 0, none⟩)] w (Does b w (readV s) (readS s)) := by
  have hb : b < w.heap.size := blk_lt hr
  obtain ⟨W, hW, hK, hWs, hres, hRa⟩ := own2 w b s hr _ _ rfl rfl
  have HW := Lib.hid hW
  have HR := Lib.hid hres
  have HK := Lib.hid hK
  have HS := Lib.hid hWs
  have hbc : w.heap.size + 1 ≠ b := by omega
  have hm1 : Hid ((numV s 1 : Int) = vn s) := rfl
  have hm2 : Hid ((numV (s1 s) 2 : Int) = vi s) := rfl
  have hm3 : Hid ((numV (s2 s) 3 : Int) = vs s) := rfl
  have hs1 : Hid (numS s 1 = s1 s) := rfl
  have hs2 : Hid (numS (s1 s) 2 = s2 s) := rfl
  have hs3 : Hid (numS (s2 s) 3 = s3 s) := rfl
  obtain ⟨ok, hok⟩ : ∃ z, Hid (rightB (vn s) (vi s) (vs s) = z) := ⟨_, rfl⟩
  have HB := Lib.hid hb
  have HV := Lib.hid (And.intro (readV_yes (s := s)) (readV_no (s := s)))
  clear hW hK hres hr hWs
  go_enter Tryz.func86, Tryz.ntmps86
  go_wp2_with fail
  rw [HW.out]
  go_wp2_with (go_at_call 89; refine (parts_any _ _).mono ?_; rintro e w1 ⟨rfl, hk1⟩)
  go_loopw [7] (fun i wr => ∃ k : Nat, i = .int .i64 (k : Int) ∧ Rk W b (w.heap.size + 1) s k wr) (fun i _ => 3 - (intOf i).toNat)
  case atStart => exact ⟨0, rfl, .inl ⟨rfl, hRa.kept hbc hk1⟩⟩
  case round =>
    obtain ⟨k, rfl, hk⟩ := hrel
    rcases hk with ⟨rfl, hA⟩ | ⟨rfl, hA⟩ | ⟨rfl, hA⟩ | ⟨rfl, hA⟩
    · have hqb : wr.heap.size ≠ b := by have := hA.lt; omega
      have hqc : wr.heap.size ≠ w.heap.size + 1 := by have := hA.lt; omega
      have hq : Rq W b (w.heap.size + 1) wr.heap.size s 0 0 0 (.pointer (some ⟨w.heap.size + 1, 0, none⟩)) (.int .i64 1) (World.drew (wr.alloc (.cells #[.pointer (some ⟨w.heap.size + 1, 0, none⟩), .int .i64 1] 111 (0, 0)))) :=
        ⟨(hA.kept hbc (Kept.one _ _)).kept hbc (Kept.refl _).drew, blk_new _ _⟩
      have hp := part0 (w.heap.size + 1)
      go_wp2_with fail
      go_region_held3 (fun w' => w'.cell? ⟨wr.heap.size, 0, none⟩ = some (.pointer (some ⟨w.heap.size + 1, 0, none⟩)) ∧ w'.cell? ⟨wr.heap.size, 1, none⟩ = some (.int .i64 1)) (first | exact Rq.cells (by assumption) | exact Rq.setcells hqc (by assumption) _ _)
        (first | (go_at_call 62; refine (Rq.num hbc hqb hm1 hs1 (by assumption)).mono ?_; rintro e u ⟨rfl, hU⟩; have hc0 := blk_cell hU.1.blk 0; have hf0 := blk_free hU.1.blk 0))
      go_wp2_with fail
      go_roundw
      case rel => exact ⟨1, rfl, .inr (.inl ⟨rfl, hU.1.set hbc 0 _ rfl⟩)⟩
      case measure => simp [intOf]
    · have hqb : wr.heap.size ≠ b := by have := hA.lt; omega
      have hqc : wr.heap.size ≠ w.heap.size + 1 := by have := hA.lt; omega
      have hq : Rq W b (w.heap.size + 1) wr.heap.size (s1 s) (vn s) 0 0 (.pointer (some ⟨w.heap.size + 1, 1, none⟩)) (.int .i64 2) (World.drew (wr.alloc (.cells #[.pointer (some ⟨w.heap.size + 1, 1, none⟩), .int .i64 2] 111 (0, 0)))) :=
        ⟨(hA.kept hbc (Kept.one _ _)).kept hbc (Kept.refl _).drew, blk_new _ _⟩
      have hp := part1 (w.heap.size + 1)
      go_wp2_with fail
      go_region_held3 (fun w' => w'.cell? ⟨wr.heap.size, 0, none⟩ = some (.pointer (some ⟨w.heap.size + 1, 1, none⟩)) ∧ w'.cell? ⟨wr.heap.size, 1, none⟩ = some (.int .i64 2)) (first | exact Rq.cells (by assumption) | exact Rq.setcells hqc (by assumption) _ _)
        (first | (go_at_call 62; refine (Rq.num hbc hqb hm2 hs2 (by assumption)).mono ?_; rintro e u ⟨rfl, hU⟩; have hc0 := blk_cell hU.1.blk 1; have hf0 := blk_free hU.1.blk 1))
      go_wp2_with fail
      go_roundw
      case rel => exact ⟨2, rfl, .inr (.inr (.inl ⟨rfl, hU.1.set hbc 1 _ rfl⟩))⟩
      case measure => simp [intOf]
    · have hqb : wr.heap.size ≠ b := by have := hA.lt; omega
      have hqc : wr.heap.size ≠ w.heap.size + 1 := by have := hA.lt; omega
      have hq : Rq W b (w.heap.size + 1) wr.heap.size (s2 s) (vn s) (vi s) 0 (.pointer (some ⟨w.heap.size + 1, 2, none⟩)) (.int .i64 3) (World.drew (wr.alloc (.cells #[.pointer (some ⟨w.heap.size + 1, 2, none⟩), .int .i64 3] 111 (0, 0)))) :=
        ⟨(hA.kept hbc (Kept.one _ _)).kept hbc (Kept.refl _).drew, blk_new _ _⟩
      have hp := part2 (w.heap.size + 1)
      go_wp2_with fail
      go_region_held3 (fun w' => w'.cell? ⟨wr.heap.size, 0, none⟩ = some (.pointer (some ⟨w.heap.size + 1, 2, none⟩)) ∧ w'.cell? ⟨wr.heap.size, 1, none⟩ = some (.int .i64 3)) (first | exact Rq.cells (by assumption) | exact Rq.setcells hqc (by assumption) _ _)
        (first | (go_at_call 62; refine (Rq.num hbc hqb hm3 hs3 (by assumption)).mono ?_; rintro e u ⟨rfl, hU⟩; have hc0 := blk_cell hU.1.blk 2; have hf0 := blk_free hU.1.blk 2))
      go_wp2_with fail
      go_roundw
      case rel => exact ⟨3, rfl, .inr (.inr (.inr ⟨rfl, hU.1.set hbc 2 _ rfl⟩))⟩
      case measure => simp [intOf]
    · have c0 := blk_cell hA.blk 0
      have c1 := blk_cell hA.blk 1
      have c2 := blk_cell hA.blk 2
      cases ok
      · go_wp2_with (first
          | (go_at_call 90; refine (right_as hok).mono ?_; rintro e u ⟨rfl, hk⟩; have hB := hA.kept hbc hk)
          | (go_at_call 65; refine (fail_ra hbc 2 (by assumption)).mono ?_; rintro e v ⟨rfl, hC⟩; have hr := (hC).res HB.out rfl HS.out HR.out; have d0 := blk_cell hr 0; have d1 := blk_cell hr 1; have d2 := blk_cell hr 2; have f0 := blk_free hr 0; have f1 := blk_free hr 1; have f2 := blk_free hr 2))
        obtain ⟨e1, e2, e3⟩ := hC.done HB.out rfl HK.out hr (.int .i64 0) (.int .i64 0) (.int .i64 0)
        refine bodyPost_ret (results_cell_row rfl _ _ w.heap.size 26 _ (0, 0) _ rfl e3 Tryz.underlying26 rfl info_id) rfl ?_
        exact ⟨by rw [(HV.out.2 hok.out).1], by rw [(HV.out.2 hok.out).2]; exact e1, e2⟩
      · go_wp2_with (go_at_call 90; refine (right_as hok).mono ?_; rintro e u ⟨rfl, hk⟩; have hB := hA.kept hbc hk; have g0 := blk_cell hB.blk 0; have g1 := blk_cell hB.blk 1; have g2 := blk_cell hB.blk 2; have hr := (hB).res HB.out rfl HS.out HR.out; have d0 := blk_cell hr 0; have d1 := blk_cell hr 1; have d2 := blk_cell hr 2; have f0 := blk_free hr 0; have f1 := blk_free hr 1; have f2 := blk_free hr 2)
        obtain ⟨e1, e2, e3⟩ := hB.done HB.out rfl HK.out hr (.int .i64 (vn s)) (.int .i64 (vi s)) (.int .i64 (vs s))
        refine bodyPost_ret (results_cell_row rfl _ _ w.heap.size 26 _ (0, 0) _ rfl e3 Tryz.underlying26 rfl info_id) rfl ?_
        exact ⟨by rw [(HV.out.1 hok.out).1], by rw [(HV.out.1 hok.out).2]; exact e1, e2⟩

end Go.Proofs.YtncdiggejofbbaaGreatDoor.Id

namespace Go.Proofs.YtncdiggejofbbaaGreatDoor.Id
open Go.RowKit Go.Sort St IdM BsM Bs
set_option linter.unusedVariables false

def rdn (s : S) : Int := if readOk s then vn s else 0
def rdi (s : S) : Int := if readOk s then vi s else 0
def rds (s : S) : Int := if readOk s then vs s else 0
theorem readV_eq (s : S) : readV s = .agg #[.int .i64 (rdn s), .int .i64 (rdi s), .int .i64 (rds s)] := by
  unfold readV rdn rdi rds; split <;> rfl
def rda (s : S) : Int := numV (readS s) 1
def there (s : S) : Bool := decide (0 < (readS s).1.length)
def rkOk (s : S) : Bool := there s && keyB (rdn s) (rdi s) (rds s) (rda s)
def rkV (s : S) : Value := if rkOk s then .agg #[.int .i64 (rdn s), .int .i64 (rdi s), .int .i64 (rds s), .int .i64 (rda s)] else .agg #[.int .i64 0, .int .i64 0, .int .i64 0, .int .i64 0]
def rkS (s : S) : S := if rkOk s then numS (readS s) 1 else failS (numS (readS s) 1) 2
theorem rk_yes {s : S} (h : rkOk s = true) : rkV s = .agg #[.int .i64 (rdn s), .int .i64 (rdi s), .int .i64 (rds s), .int .i64 (rda s)] ∧ rkS s = numS (readS s) 1 := by
  unfold rkV rkS; rw [h]; exact ⟨rfl, rfl⟩
theorem rk_no {s : S} (h : rkOk s = false) : rkV s = .agg #[.int .i64 0, .int .i64 0, .int .i64 0, .int .i64 0] ∧ rkS s = failS (numS (readS s) 1) 2 := by
  unfold rkV rkS; rw [h]; exact ⟨rfl, rfl⟩

/-- where the call w stands: the reader at block b, its result's block, an identity at block q -/
structure Ro (w : World) (b q : Nat) (s : S) (D : Array Value) (u : World) : Prop where
  rd : Rd u b s
  only : Only b w u
  res : u.heap[w.heap.size]? = some (.cells #[.int .i64 0, .int .i64 0, .int .i64 0, .int .i64 0] 28 (0, 0))
  blk : u.heap[q]? = some (.cells D 26 (0, 0))
theorem Ro.go {w : World} {b q : Nat} {s s' : S} {D : Array Value} {u v : World} (hb : b < w.heap.size) (hq : q ≠ b) (h : Ro w b q s D u) (hr : Rd v b s') (ho : Only b u v) : Ro w b q s' D v :=
  ⟨hr, h.only.trans ho, ho.other h.res (by omega), ho.other h.blk hq⟩
theorem Ro.kept {w : World} {b q : Nat} {s : S} {D : Array Value} {u v : World} (hb : b < w.heap.size) (hq : q ≠ b) (h : Ro w b q s D u) (k : Kept u v) : Ro w b q s D v := h.go hb hq (h.rd.kept k) (only_kept k)
theorem Ro.cells {w : World} {b q : Nat} {s : S} {x y z : Value} {u : World} (h : Ro w b q s #[x, y, z] u) : u.cell? ⟨q, 0, none⟩ = some x ∧ u.cell? ⟨q, 1, none⟩ = some y ∧ u.cell? ⟨q, 2, none⟩ = some z :=
  ⟨blk_cell h.blk 0, blk_cell h.blk 1, blk_cell h.blk 2⟩
theorem Ro.cells4 {w : World} {b q k : Nat} {s : S} {x y z : Value} {u : World} (h : Ro w b q s #[x, y, z] u) (hk : q ≠ k) (v0 v1 v2 v3 : Value) :
    ((((u.setCell ⟨k, 0, none⟩ v0).setCell ⟨k, 1, none⟩ v1).setCell ⟨k, 2, none⟩ v2).setCell ⟨k, 3, none⟩ v3).cell? ⟨q, 0, none⟩ = some x ∧
    ((((u.setCell ⟨k, 0, none⟩ v0).setCell ⟨k, 1, none⟩ v1).setCell ⟨k, 2, none⟩ v2).setCell ⟨k, 3, none⟩ v3).cell? ⟨q, 1, none⟩ = some y ∧
    ((((u.setCell ⟨k, 0, none⟩ v0).setCell ⟨k, 1, none⟩ v1).setCell ⟨k, 2, none⟩ v2).setCell ⟨k, 3, none⟩ v3).cell? ⟨q, 2, none⟩ = some z := by
  have e : ((((u.setCell ⟨k, 0, none⟩ v0).setCell ⟨k, 1, none⟩ v1).setCell ⟨k, 2, none⟩ v2).setCell ⟨k, 3, none⟩ v3).heap[q]? = some (.cells #[x, y, z] 26 (0, 0)) :=
    (Below.heap_setCell _ _ _ _ hk).trans ((Below.heap_setCell _ _ _ _ hk).trans ((Below.heap_setCell _ _ _ _ hk).trans ((Below.heap_setCell _ _ _ _ hk).trans h.blk)))
  exact ⟨blk_cell e 0, blk_cell e 1, blk_cell e 2⟩
theorem left_ro {w : World} {b q : Nat} {s : S} {D : Array Value} {u : World} (h : Ro w b q s D u) :
    Calls Tryz.prog 87 #[.pointer (some ⟨b, 0, none⟩)] u fun e v => e = .returned (.int .i64 (s.1.length : Int)) ∧ u = v := left_any b s u h.rd
theorem num_ro {w : World} {b q : Nat} {s : S} {D : Array Value} {k m : Int} (hb : b < w.heap.size) (hq : q ≠ b) (hm : Hid ((numV s k : Int) = m)) {u : World} (h : Ro w b q s D u) :
    Calls Tryz.prog 62 #[.pointer (some ⟨b, 0, none⟩), .int .i64 k] u fun e v => e = .returned (.int .i64 m) ∧ Ro w b q (numS s k) D v :=
  (rdnum_any b s k u h.rd).mono fun _ _ ⟨he, hr, ho⟩ => ⟨by rw [he, hm.out], h.go hb hq hr ho⟩
theorem num_ro2 {w : World} {b q : Nat} {s : S} {D : Array Value} {k m : Int} (hb : b < w.heap.size) (hq : q ≠ b) (hm : Hid ((numV s k : Int) = m)) {u : World} (h : Ro w b q s D u) {o : Obj} (H : Nat) (hH : u.heap.size = H) :
    Calls Tryz.prog 62 #[.pointer (some ⟨b, 0, none⟩), .int .i64 k] (World.drew (u.alloc o)) fun e v => e = .returned (.int .i64 m) ∧ Ro w b q (numS s k) D v ∧ v.heap[H]? = some o := by
  subst hH
  have h2 := h.kept hb hq (Kept.one u o).drew
  have hl := h.only.size
  refine (rdnum_any b s k _ h2.rd).mono ?_
  rintro e v ⟨he, hr, ho⟩
  exact ⟨by rw [he, hm.out], h2.go hb hq hr ho, ho.other (show (World.drew _).heap[_]? = _ from blk_new u o) (by omega)⟩
theorem fail_ro {w : World} {b q : Nat} {s : S} {D : Array Value} {u : World} (hb : b < w.heap.size) (hq : q ≠ b) (e : Int) (h : Ro w b q s D u) :
    Calls Tryz.prog 65 #[.pointer (some ⟨b, 0, none⟩), .int .i64 e] u fun r v => r = .returned (.tuple #[]) ∧ Ro w b q (failS s e) D v :=
  (fail_any b s e u h.rd).mono fun _ _ ⟨he, hr, ho⟩ => ⟨he, h.go hb hq hr ho⟩
theorem read_ro {w W : World} {b : Nat} {s : S} (hb : b < w.heap.size) (hr : Rd w b s) (hk : Kept w W) (hres : W.heap[w.heap.size]? = some (.cells #[.int .i64 0, .int .i64 0, .int .i64 0, .int .i64 0] 28 (0, 0))) :
    Calls Tryz.prog 86 #[.pointer (some ⟨b, 0, none⟩)] W fun e v => e = .returned (.agg #[.int .i64 (rdn s), .int .i64 (rdi s), .int .i64 (rds s)]) ∧ w.heap.size < v.heap.size ∧
      Ro w b v.heap.size (readS s) #[.int .i64 (rdn s), .int .i64 (rdi s), .int .i64 (rds s)] (v.alloc (.cells #[.int .i64 (rdn s), .int .i64 (rdi s), .int .i64 (rds s)] 26 (0, 0))) := by
  refine (read_any b s W (hr.kept hk)).mono ?_
  rintro e v ⟨rfl, h1, h2⟩
  have hl := h2.size
  have hg := blk_lt hres
  refine ⟨by rw [readV_eq], by omega, h1.kept (Kept.one _ _), (only_kept hk).trans (h2.trans (only_kept (Kept.one _ _))), ?_, blk_new _ _⟩
  exact kept_blk (Kept.one _ _) (h2.other hres (by omega))
theorem Ro.done {w : World} {b q : Nat} {s : S} {D : Array Value} {u : World} (h : Ro w b q s D u) (hb : b < w.heap.size) (v0 v1 v2 v3 : Value) :
    Rd ((((u.setCell ⟨w.heap.size, 0, none⟩ v0).setCell ⟨w.heap.size, 1, none⟩ v1).setCell ⟨w.heap.size, 2, none⟩ v2).setCell ⟨w.heap.size, 3, none⟩ v3) b s ∧
    Only b w ((((u.setCell ⟨w.heap.size, 0, none⟩ v0).setCell ⟨w.heap.size, 1, none⟩ v1).setCell ⟨w.heap.size, 2, none⟩ v2).setCell ⟨w.heap.size, 3, none⟩ v3) ∧
    ((((u.setCell ⟨w.heap.size, 0, none⟩ v0).setCell ⟨w.heap.size, 1, none⟩ v1).setCell ⟨w.heap.size, 2, none⟩ v2).setCell ⟨w.heap.size, 3, none⟩ v3).heap[w.heap.size]? = some (.cells #[v0, v1, v2, v3] 28 (0, 0)) := by
  have hne : b ≠ w.heap.size := by omega
  refine ⟨?_, ⟨h.only.os, h.only.tape, h.only.output, ?_, fun j hj hjb => ?_⟩, ?_⟩
  · exact (Below.heap_setCell _ _ _ _ hne).trans ((Below.heap_setCell _ _ _ _ hne).trans ((Below.heap_setCell _ _ _ _ hne).trans ((Below.heap_setCell _ _ _ _ hne).trans h.rd)))
  · simpa [World.setCell] using h.only.size
  · have hj2 : j ≠ w.heap.size := by omega
    exact (Below.heap_setCell _ _ _ _ hj2).trans ((Below.heap_setCell _ _ _ _ hj2).trans ((Below.heap_setCell _ _ _ _ hj2).trans ((Below.heap_setCell _ _ _ _ hj2).trans (h.only.block j hj hjb))))
  · exact blk_set (blk_set (blk_set (blk_set h.res 0 v0) 1 v1) 2 v2) 3 v3
theorem Ro.set4 {w : World} {b q k : Nat} {s : S} {D : Array Value} {u : World} (h : Ro w b q s D u) (hb : b < w.heap.size) (hw : w.heap.size < k) (hqk : q ≠ k) {xs : Array Value} (hk : u.heap[k]? = some (.cells xs 28 (0, 0))) (hx : xs.size = 4) (v0 v1 v2 v3 : Value) :
    Ro w b q s D ((((u.setCell ⟨k, 0, none⟩ v0).setCell ⟨k, 1, none⟩ v1).setCell ⟨k, 2, none⟩ v2).setCell ⟨k, 3, none⟩ v3) ∧
    ((((u.setCell ⟨k, 0, none⟩ v0).setCell ⟨k, 1, none⟩ v1).setCell ⟨k, 2, none⟩ v2).setCell ⟨k, 3, none⟩ v3).heap[k]? = some (.cells #[v0, v1, v2, v3] 28 (0, 0)) := by
  have t : ∀ j, j ≠ k → ((((u.setCell ⟨k, 0, none⟩ v0).setCell ⟨k, 1, none⟩ v1).setCell ⟨k, 2, none⟩ v2).setCell ⟨k, 3, none⟩ v3).heap[j]? = u.heap[j]? := fun j hj =>
    (Below.heap_setCell _ _ _ _ hj).trans ((Below.heap_setCell _ _ _ _ hj).trans ((Below.heap_setCell _ _ _ _ hj).trans (Below.heap_setCell _ _ _ _ hj)))
  refine ⟨⟨(t b (by omega)).trans h.rd, ⟨h.only.os, h.only.tape, h.only.output, by simpa [World.setCell] using h.only.size, fun j hj hjb => (t j (by omega)).trans (h.only.block j hj hjb)⟩, (t _ (by omega)).trans h.res, (t _ hqk).trans h.blk⟩, ?_⟩
  have e := blk_set (blk_set (blk_set (blk_set hk 0 v0) 1 v1) 2 v2) 3 v3
  rw [e]
  obtain ⟨l⟩ := xs
  match l, hx with
  | [_, _, _, _], _ => rfl
theorem Ro.new {w : World} {b q : Nat} {s : S} {D : Array Value} {u : World} (h : Ro w b q s D u) (hb : b < w.heap.size) (hq : q ≠ b) (o : Obj) :
    Ro w b q s D (u.alloc o) ∧ (u.alloc o).heap[u.heap.size]? = some o := ⟨h.kept hb hq (Kept.one _ _), blk_new _ _⟩
theorem key_ro {w : World} {b q k : Nat} {s : S} {D xs : Array Value} {u : World} (hb : b < w.heap.size) (hq : q ≠ b) {n i s' a : Int} {z : Bool} (hz : Hid (keyB n i s' a = z)) (h : Ro w b q s D u) (hk : u.heap[k]? = some (.cells xs 28 (0, 0))) :
    Calls Tryz.prog 74 #[.agg #[.int .i64 n, .int .i64 i, .int .i64 s', .int .i64 a]] u fun e v => e = .returned (.bool z) ∧ Ro w b q s D v ∧ v.heap[k]? = some (.cells xs 28 (0, 0)) :=
  (key_as hz).mono fun _ _ ⟨he, k2⟩ => ⟨he, h.kept hb hq k2, kept_blk k2 hk⟩
theorem info_key : (Tryz.prog.info? 28).map (·.size) = some 4 := by kernel_rfl

set_option maxRecDepth 100000 in
set_option maxHeartbeats 8000000 in
theorem readkey_any (b : Nat) (s : S) (w : World) (hr : Rd w b s) :
    Calls Tryz.prog 66 #[.pointer (some ⟨b, 0, none⟩)] w (Does b w (rkV s) (rkS s)) := by
  have hb : b < w.heap.size := blk_lt hr
  obtain ⟨W, hW, hK, hx⟩ := boxed1 w #[.int .i64 0, .int .i64 0, .int .i64 0, .int .i64 0] 28
  have hres : W.heap[w.heap.size]? = some (.cells #[.int .i64 0, .int .i64 0, .int .i64 0, .int .i64 0] 28 (0, 0)) := by rw [← hW]; exact blk_new _ _
  have HRD := Lib.hid (read_ro hb hr hK hres)
  have HW := Lib.hid hW
  have HB := Lib.hid hb
  have HV := Lib.hid (And.intro (rk_yes (s := s)) (rk_no (s := s)))
  have hm : Hid ((numV (readS s) 1 : Int) = rda s) := rfl
  obtain ⟨L, hL⟩ : ∃ L : Nat, Hid ((readS s).1.length = L) := ⟨_, rfl⟩
  obtain ⟨ok, hok⟩ : ∃ z, Hid (keyB (rdn s) (rdi s) (rds s) (rda s) = z) := ⟨_, rfl⟩
  obtain ⟨th, hth⟩ : ∃ z, decide (0 < L) = z := ⟨_, rfl⟩
  have hrk : Hid (rkOk s = (th && ok)) := Lib.hid (by unfold rkOk there; rw [hL.out, hth, hok.out])
  obtain ⟨x, hxd⟩ : ∃ x, rdn s = x := ⟨_, rfl⟩
  obtain ⟨y, hyd⟩ : ∃ x, rdi s = x := ⟨_, rfl⟩
  obtain ⟨z, hzd⟩ : ∃ x, rds s = x := ⟨_, rfl⟩
  obtain ⟨a, had⟩ : ∃ x, rda s = x := ⟨_, rfl⟩
  rw [hxd, hyd, hzd] at HRD hok HV
  rw [had] at hok hm HV
  clear hW hK hx hres hr hb hxd hyd hzd had
  cases th <;> cases ok
  case true.true =>
    go_enter Tryz.func66, Tryz.ntmps66
    go_wp2_with fail
    rw [HW.out]
    go_wp2_with (first
      | (go_at_call 86; refine HRD.out.mono ?_; rintro e u1 ⟨rfl, hlt, hO⟩; have hq : u1.heap.size ≠ b := (by have := HB.out; omega))
      | (go_at_call 87; refine (left_ro (by assumption)).mono ?_; rintro e u2 ⟨rfl, rfl⟩; rw [hL.out]))
    have hO2 := hO.kept HB.out hq (Kept.refl _).drew
    have HL := Lib.hid hlt
    have hqk : u1.heap.size ≠ u1.heap.size + 1 := by omega
    go_region_held3 (fun w' => w'.cell? ⟨u1.heap.size, 0, none⟩ = some (.int .i64 x) ∧ w'.cell? ⟨u1.heap.size, 1, none⟩ = some (.int .i64 y) ∧ w'.cell? ⟨u1.heap.size, 2, none⟩ = some (.int .i64 z))
      (first | (with_reducible exact Ro.cells (by assumption)) | (with_reducible exact Ro.cells4 (by assumption) hqk _ _ _ _) | (with_reducible exact (Ro.kept HB.out hq (by assumption) (Kept.one _ _)).cells) | go_keep)
      (first | (go_at_call 62; first
        | ((with_reducible refine (num_ro HB.out hq hm hO2).mono ?_); rintro e u2 ⟨rfl, hP⟩)
        | ((with_reducible refine (num_ro2 HB.out hq hm hO (u1.heap.size + 1) (by simp)).mono ?_); rintro e u2 ⟨rfl, hP, hk4⟩; have k0 := blk_cell hk4 0; have k1 := blk_cell hk4 1; have k2 := blk_cell hk4 2; have k3 := blk_cell hk4 3; have m0 := blk_free hk4 0; have m1 := blk_free hk4 1; have m2 := blk_free hk4 2; have m3 := blk_free hk4 3)))
    all_goals
      first
        | (have hX := hP.set4 HB.out (by have := HL.out; omega) hqk hk4 rfl (.int .i64 x) (.int .i64 y) (.int .i64 z) (.int .i64 a); clear k0 k1 k2 k3 m0 m1 m2 m3)
        | have hX := hP.new HB.out hq (.cells #[.int .i64 x, .int .i64 y, .int .i64 z, .int .i64 a] 28 (0, 0))
      obtain ⟨hX1, hX2⟩ := hX
      have k0 := blk_cell hX2 0
      have k1 := blk_cell hX2 1
      have k2 := blk_cell hX2 2
      have k3 := blk_cell hX2 3
      go_wp2_with (go_at_call 74; refine (key_ro HB.out hq hok hX1 hX2).mono ?_; rintro e u3 ⟨rfl, hR, hk5⟩; have l0 := blk_cell hk5 0; have l1 := blk_cell hk5 1; have l2 := blk_cell hk5 2; have l3 := blk_cell hk5 3; have r0 := blk_cell hR.res 0; have r1 := blk_cell hR.res 1; have r2 := blk_cell hR.res 2; have r3 := blk_cell hR.res 3; have f0 := blk_free hR.res 0; have f1 := blk_free hR.res 1; have f2 := blk_free hR.res 2; have f3 := blk_free hR.res 3)
      obtain ⟨e1, e2, e3⟩ := hR.done HB.out (.int .i64 x) (.int .i64 y) (.int .i64 z) (.int .i64 a)
      refine bodyPost_ret (results_cell_row rfl _ _ w.heap.size 28 _ (0, 0) _ rfl e3 Tryz.underlying28 rfl info_key) rfl ?_
      exact ⟨by rw [(HV.out.1 hrk.out).1], by rw [(HV.out.1 hrk.out).2]; exact e1, e2⟩
  all_goals
    go_enter Tryz.func66, Tryz.ntmps66
    go_wp2_with fail
    rw [HW.out]
    go_wp2_with (first
      | (go_at_call 86; refine HRD.out.mono ?_; rintro e u1 ⟨rfl, hlt, hO⟩; have hq : u1.heap.size ≠ b := (by have := HB.out; omega))
      | (go_at_call 87; refine (left_ro (by assumption)).mono ?_; rintro e u2 ⟨rfl, rfl⟩; rw [hL.out]))
    have hO2 := hO.kept HB.out hq (Kept.refl _).drew
    have HL := Lib.hid hlt
    have hqk : u1.heap.size ≠ u1.heap.size + 1 := by omega
    go_region_held3 (fun w' => w'.cell? ⟨u1.heap.size, 0, none⟩ = some (.int .i64 x) ∧ w'.cell? ⟨u1.heap.size, 1, none⟩ = some (.int .i64 y) ∧ w'.cell? ⟨u1.heap.size, 2, none⟩ = some (.int .i64 z))
      (first | (with_reducible exact Ro.cells (by assumption)) | (with_reducible exact Ro.cells4 (by assumption) hqk _ _ _ _) | (with_reducible exact (Ro.kept HB.out hq (by assumption) (Kept.one _ _)).cells) | go_keep)
      (first | (go_at_call 62; first
        | ((with_reducible refine (num_ro HB.out hq hm hO2).mono ?_); rintro e u2 ⟨rfl, hP⟩)
        | ((with_reducible refine (num_ro2 HB.out hq hm hO (u1.heap.size + 1) (by simp)).mono ?_); rintro e u2 ⟨rfl, hP, hk4⟩; have k0 := blk_cell hk4 0; have k1 := blk_cell hk4 1; have k2 := blk_cell hk4 2; have k3 := blk_cell hk4 3; have m0 := blk_free hk4 0; have m1 := blk_free hk4 1; have m2 := blk_free hk4 2; have m3 := blk_free hk4 3)))
    all_goals
      first
        | (have hX := hP.set4 HB.out (by have := HL.out; omega) hqk hk4 rfl (.int .i64 x) (.int .i64 y) (.int .i64 z) (.int .i64 a); clear k0 k1 k2 k3 m0 m1 m2 m3)
        | have hX := hP.new HB.out hq (.cells #[.int .i64 x, .int .i64 y, .int .i64 z, .int .i64 a] 28 (0, 0))
      obtain ⟨hX1, hX2⟩ := hX
      have k0 := blk_cell hX2 0
      have k1 := blk_cell hX2 1
      have k2 := blk_cell hX2 2
      have k3 := blk_cell hX2 3
      go_wp2_with (first
        | (go_at_call 74; refine (key_ro HB.out hq hok hX1 hX2).mono ?_; rintro e u3 ⟨rfl, hR, hk5⟩)
        | (go_at_call 65; refine (fail_ro HB.out hq 2 (by assumption)).mono ?_; rintro e v ⟨rfl, hC⟩; have r0 := blk_cell hC.res 0; have r1 := blk_cell hC.res 1; have r2 := blk_cell hC.res 2; have r3 := blk_cell hC.res 3; have f0 := blk_free hC.res 0; have f1 := blk_free hC.res 1; have f2 := blk_free hC.res 2; have f3 := blk_free hC.res 3))
      obtain ⟨e1, e2, e3⟩ := hC.done HB.out (.int .i64 0) (.int .i64 0) (.int .i64 0) (.int .i64 0)
      refine bodyPost_ret (results_cell_row rfl _ _ w.heap.size 28 _ (0, 0) _ rfl e3 Tryz.underlying28 rfl info_key) rfl ?_
      exact ⟨by rw [(HV.out.2 hrk.out).1], by rw [(HV.out.2 hrk.out).2]; exact e1, e2⟩

end Go.Proofs.YtncdiggejofbbaaGreatDoor.Id
