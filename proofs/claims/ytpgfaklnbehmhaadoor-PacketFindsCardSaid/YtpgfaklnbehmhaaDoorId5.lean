/- Package ident: identities and keys as bytes; and the document's. -/
import Derived.Test.YtpgfaklnbehmhaaDoorId
import Derived.Test.YtpgfaklnbehmhaaDoorBx
import Derived.Test.YtpgfaklnbehmhaaDoorBs2
import Derived.StillTailTactics
import Derived.Laws.Rows
namespace Go.Proofs.YtpgfaklnbehmhaaDoor.Id
open Go.RowKit Go.Sort St IdM BsM Bs
set_option linter.unusedVariables false

def codeL (n i s : Int) : List UInt8 := numL n 1 ++ (numL i 2 ++ numL s 3)
def keyCodeL (n i s a : Int) : List UInt8 := codeL n i s ++ numL a 1
theorem num_named (n k : Int) : ∃ E : ByteArray, Hid ((⟨(numL n k).toArray⟩ : ByteArray) = E) ∧ E.size ≤ 7 := by
  refine ⟨_, rfl, ?_⟩
  show (numL n k).toArray.size ≤ 7
  by_cases h : numOk n k = true
  · have := numOk_lt h; have := num_len h; simp; omega
  · rw [num_no (by simpa using h)]; simp
theorem codeL_len (n i s : Int) : (codeL n i s).length ≤ 21 := by
  obtain ⟨a, ha, h1⟩ := num_named n 1
  obtain ⟨b, hb, h2⟩ := num_named i 2
  obtain ⟨c, hc, h3⟩ := num_named s 3
  rw [← ha.out] at h1; rw [← hb.out] at h2; rw [← hc.out] at h3
  rw [size_list] at h1 h2 h3
  have h1' : (numL n 1).length ≤ 7 := h1
  have h2' : (numL i 2).length ≤ 7 := h2
  have h3' : (numL s 3).length ≤ 7 := h3
  simp only [codeL, List.length_append]
  omega
theorem code_named (n i s : Int) : ∃ E : ByteArray, Hid ((⟨(codeL n i s).toArray⟩ : ByteArray) = E) ∧ E.size ≤ 21 :=
  ⟨_, rfl, by rw [size_list]; exact codeL_len n i s⟩
theorem code_cat {a b c D : ByteArray} {n i s : Int} (h1 : Hid ((⟨(numL n 1).toArray⟩ : ByteArray) = a)) (h2 : Hid ((⟨(numL i 2).toArray⟩ : ByteArray) = b)) (h3 : Hid ((⟨(numL s 3).toArray⟩ : ByteArray) = c)) (hD : Hid ((⟨(codeL n i s).toArray⟩ : ByteArray) = D)) : (a ++ b ++ c).data.toList = D.data.toList := by
  rw [← h1.out, ← h2.out, ← h3.out, ← hD.out]; simp [codeL]
theorem keycode_cat {a b D : ByteArray} {n i s k : Int} (h1 : Hid ((⟨(codeL n i s).toArray⟩ : ByteArray) = a)) (h2 : Hid ((⟨(numL k 1).toArray⟩ : ByteArray) = b)) (hD : Hid ((⟨(keyCodeL n i s k).toArray⟩ : ByteArray) = D)) : (a ++ b).data.toList = D.data.toList := by
  rw [← h1.out, ← h2.out, ← hD.out]; simp [keyCodeL]

set_option maxRecDepth 100000 in
set_option maxHeartbeats 800000 in
theorem rcode_as {n i s : Int} {D : ByteArray} (hn : I64 n) (hi : I64 i) (hs : I64 s) (hD : Hid ((⟨(codeL n i s).toArray⟩ : ByteArray) = D)) {w : World} :
    Calls Tryd.prog 34 #[.agg #[.int .i64 n, .int .i64 i, .int .i64 s]] w fun e w' => e = .returned (.string D) ∧ Kept w w' := by
  obtain ⟨a, h1, s1⟩ := num_named n 1
  obtain ⟨b, h2, s2⟩ := num_named i 2
  obtain ⟨c, h3, s3⟩ := num_named s 3
  obtain ⟨W, hW, hK, hx⟩ := boxed1 w #[.int .i64 n, .int .i64 i, .int .i64 s] 23
  have x0 := cell_regrown (hx 0)
  have x1 := cell_regrown (hx 1)
  have x2 := cell_regrown (hx 2)
  clear hx
  have Q1 := quiet_at hK (fun x hx => rnum_any n 1 hn.2 x)
  have Q2 := quiet_at hK (fun x hx => rnum_any i 2 hi.2 x)
  have Q3 := quiet_at hK (fun x hx => rnum_any s 3 hs.2 x)
  rw [h1.out] at Q1; rw [h2.out] at Q2; rw [h3.out] at Q3
  have HW := Lib.hid hW
  clear hW
  have HC := Lib.hid (code_cat h1 h2 h3 hD)
  have n1 : ¬ 9223372036854775807 < a.size + b.size := by omega
  have n2 : ¬ 9223372036854775807 < a.size + b.size + c.size := by omega
  clear hn hi hs hD
  go_enter Tryd.func34, Tryd.ntmps34
  go_wp2_with fail
  rw [HW.out]
  refine wp_region_quiet_below (by kernel_rfl) (by kernel_rfl) ?_
  repeat (go_big_quiet_step (first | (with_reducible exact Q1.out _) | (with_reducible exact Q2.out _) | (with_reducible exact Q3.out _)))
  refine wpQuiet_nil ?_
  intro _ hw'
  obtain ⟨⟨dq, osq⟩, hw''⟩ := hw'
  subst hw''
  go_wp2_with fail
  go_ret
  exact ⟨ret_str HC.out, hK.trans (below_regrown _ dq osq)⟩

set_option maxRecDepth 100000 in
set_option maxHeartbeats 800000 in
theorem rkeycode_as {n i s k : Int} {D : ByteArray} (hn : I64 n) (hi : I64 i) (hs : I64 s) (hk : I64 k) (hD : Hid ((⟨(keyCodeL n i s k).toArray⟩ : ByteArray) = D)) {w : World} :
    Calls Tryd.prog 32 #[.agg #[.int .i64 n, .int .i64 i, .int .i64 s, .int .i64 k]] w fun e w' => e = .returned (.string D) ∧ Kept w w' := by
  obtain ⟨a, h1, s1⟩ := code_named n i s
  obtain ⟨b, h2, s2⟩ := num_named k 1
  obtain ⟨W, hW, hK, hx⟩ := boxed1 w #[.int .i64 n, .int .i64 i, .int .i64 s, .int .i64 k] 25
  have x0 := cell_regrown (hx 0)
  have x1 := cell_regrown (hx 1)
  have x2 := cell_regrown (hx 2)
  have x3 := cell_regrown (hx 3)
  clear hx
  have Q1 := quiet_at hK (fun x hx => rcode_as (w := x) hn hi hs h1)
  have Q2 := quiet_at hK (fun x hx => rnum_any k 1 hk.2 x)
  rw [h2.out] at Q2
  have HW := Lib.hid hW
  clear hW
  have HC := Lib.hid (keycode_cat h1 h2 hD)
  have n1 : ¬ 9223372036854775807 < a.size + b.size := by omega
  clear hn hi hs hD hk
  go_enter Tryd.func32, Tryd.ntmps32
  go_wp2_with fail
  rw [HW.out]
  refine wp_region_quiet_below (by kernel_rfl) (by kernel_rfl) ?_
  repeat (go_big_quiet_step (first | (with_reducible exact Q1.out _) | (with_reducible exact Q2.out _)))
  refine wpQuiet_nil ?_
  intro _ hw'
  obtain ⟨⟨dq, osq⟩, hw''⟩ := hw'
  subst hw''
  go_wp2_with fail
  go_ret
  exact ⟨ret_str HC.out, hK.trans (below_regrown _ dq osq)⟩

/-- an identity's parts, as places and widths -/
def partsV (b : Nat) : Array Value := #[.pointer (some ⟨b, 0, none⟩), .int .i64 1, .pointer (some ⟨b, 1, none⟩), .int .i64 2, .pointer (some ⟨b, 2, none⟩), .int .i64 3]
theorem info_parts (b : Nat) : (Tryd.prog.info? 73).map (·.size) = some (partsV b).size := by kernel_rfl
set_option maxRecDepth 100000 in
set_option maxHeartbeats 800000 in
theorem parts_any (b : Nat) (w : World) :
    Calls Tryd.prog 65 #[.pointer (some ⟨b, 0, none⟩)] w fun e w' => e = .returned (.agg (partsV b)) ∧ Kept w w' := by
  go_enter Tryd.func65, Tryd.ntmps65
  go_wp2_with fail
  refine wp_region_still_tail 13 (by kernel_rfl) (by kernel_rfl) ?_
  change wpStill _ _ (World.drew _) (fun a' => wpList _ _ _ _ a' (World.drew _)) _ _
  simp only [List.take_succ_cons, List.take_zero, List.drop_succ_cons, List.drop_zero]
  repeat still_step
  refine wpStill_nil ?_
  go_wp2_with fail
  refine bodyPost_ret (results_cell_row rfl _ _ w.heap.size 73 (partsV b) (0, 0) _ rfl (show (World.drew _).heap[_]? = _ from blk_new w _) Tryd.underlying73 rfl (info_parts b)) rfl ⟨rfl, Kept.drew (Kept.one _ _)⟩
theorem part0 (b : Nat) (w : World) : (Instr.index 73 (.agg (partsV b)) (.int .i64 0)).run Tryd.prog w = .ok (.agg #[.pointer (some ⟨b, 0, none⟩), .int .i64 1]) w := by kernel_rfl
theorem part1 (b : Nat) (w : World) : (Instr.index 73 (.agg (partsV b)) (.int .i64 1)).run Tryd.prog w = .ok (.agg #[.pointer (some ⟨b, 1, none⟩), .int .i64 2]) w := by kernel_rfl
theorem part2 (b : Nat) (w : World) : (Instr.index 73 (.agg (partsV b)) (.int .i64 2)).run Tryd.prog w = .ok (.agg #[.pointer (some ⟨b, 2, none⟩), .int .i64 3]) w := by kernel_rfl
theorem told_one {D a E : ByteArray} (h : (D ++ a).data.toList = E.data.toList) {v : Value} (hv : v = .string (D ++ a)) : v = .string E := by
  rw [hv, str_of (D ++ a) _ h, ← str_of E _ rfl]

/-- what stands in a place behind so many of three rounds -/
def Part3 (k : Nat) (t a b c d : Value) : Prop := (k = 0 ∧ t = a) ∨ (k = 1 ∧ t = b) ∨ (k = 2 ∧ t = c) ∨ (k = 3 ∧ t = d)

set_option maxRecDepth 100000 in
set_option maxHeartbeats 1600000 in
theorem code_as {n i s : Int} {D : ByteArray} (hD : Hid ((⟨(codeL n i s).toArray⟩ : ByteArray) = D)) {w : World} :
    Calls Tryd.prog 49 #[.agg #[.int .i64 n, .int .i64 i, .int .i64 s]] w fun e w' => e = .returned (.string D) ∧ Kept w w' := by
  obtain ⟨a, h1, s1⟩ := num_named n 1
  obtain ⟨b, h2, s2⟩ := num_named i 2
  obtain ⟨c, h3, s3⟩ := num_named s 3
  obtain ⟨D2, hD2⟩ : ∃ E : ByteArray, a ++ b = E := ⟨_, rfl⟩
  have s4 : D2.size ≤ 14 := by rw [← hD2]; simp; omega
  have HC := Lib.hid (code_cat h1 h2 h3 hD)
  have r1 : ∀ {v : Value}, v = .string ({ data := #[] } ++ a) → v = .string a := fun hv => told_one (by simp) hv
  have r2 : ∀ {v : Value}, v = .string (a ++ b) → v = .string D2 := fun hv => told_one (by rw [hD2]) hv
  have r3 : ∀ {v : Value}, v = .string (D2 ++ c) → v = .string D := fun hv => told_one (by rw [← HC.out, hD2]) hv
  have R1 : Hid (∀ {v : Value}, v = .string ({ data := #[] } ++ a) → v = .string a) := r1
  have R2 : Hid (∀ {v : Value}, v = .string (a ++ b) → v = .string D2) := r2
  have R3 : Hid (∀ {v : Value}, v = .string (D2 ++ c) → v = .string D) := r3
  have n1 : ¬ 9223372036854775807 < 0 + a.size := by omega
  have n2 : ¬ 9223372036854775807 < a.size + b.size := by omega
  have n3 : ¬ 9223372036854775807 < D2.size + c.size := by omega
  obtain ⟨W, hW, hK, hx⟩ := boxed1 w #[.int .i64 n, .int .i64 i, .int .i64 s] 23
  have HW := Lib.hid hW
  have HX : Hid (W.cell? ⟨w.heap.size, 0, none⟩ = some (.int .i64 n) ∧ W.cell? ⟨w.heap.size, 1, none⟩ = some (.int .i64 i) ∧ W.cell? ⟨w.heap.size, 2, none⟩ = some (.int .i64 s)) := ⟨hx 0, hx 1, hx 2⟩
  clear r1 r2 r3 hD2 hW hx hD
  go_enter Tryd.func49, Tryd.ntmps49
  go_wp2_with fail
  rw [HW.out]
  go_wp2_with (go_at_call 65; refine (parts_any _ _).mono ?_; rintro e w1 ⟨rfl, hk1⟩)
  go_loopw [3, 7] (fun t i wr => ∃ k : Nat, i = .int .i64 (k : Int) ∧ Part3 k t (.string { data := #[] }) (.string a) (.string D2) (.string D) ∧ Kept W wr) (fun _ i _ => 3 - (intOf i).toNat)
  case atStart => exact ⟨0, rfl, .inl ⟨rfl, rfl⟩, hk1⟩
  case round =>
    obtain ⟨k, rfl, hk, hkept⟩ := hrel
    have g0 := (hkept.cell (p := ⟨w.heap.size, 0, none⟩) (cell_lt HX.out.1)).trans HX.out.1
    have g1 := (hkept.cell (p := ⟨w.heap.size, 1, none⟩) (cell_lt HX.out.2.1)).trans HX.out.2.1
    have g2 := (hkept.cell (p := ⟨w.heap.size, 2, none⟩) (cell_lt HX.out.2.2)).trans HX.out.2.2
    have gl : w.heap.size < wr.heap.size := cell_lt g0
    rcases hk with ⟨rfl, rfl⟩ | ⟨rfl, rfl⟩ | ⟨rfl, rfl⟩ | ⟨rfl, rfl⟩
    · obtain ⟨W1, hW1, hK1, hy⟩ := boxed1 wr #[.pointer (some ⟨w.heap.size, 0, none⟩), .int .i64 1] 72
      have HW1 := Lib.hid hW1
      have y0 := cell_regrown (hy 0)
      have y1 := cell_regrown (hy 1)
      have y2 := cell_regrown ((hK1.cell (p := ⟨w.heap.size, 0, none⟩) gl).trans g0)
      have hq := quiet_at hK1 (fun x hx => num_any n 1 x)
      rw [h1.out] at hq
      have HQ := Lib.hid hq
      have hp := part0 w.heap.size
      clear hW1 hy hq g0 g1 g2
      go_wp2_with fail
      rw [HW1.out]
      refine wp_region_quiet_below (by kernel_rfl) (by kernel_rfl) ?_
      repeat (go_big_quiet_step (exact HQ.out _))
      refine wpQuiet_nil ?_
      intro _ hw'
      obtain ⟨⟨dq, osq⟩, hw''⟩ := hw'
      subst hw''
      have K3 := (hkept.trans hK1).trans (below_regrown W1 dq osq)
      go_wp2_with fail
      go_roundw
      case rel => exact ⟨1, rfl, .inr (.inl ⟨rfl, R1.out rfl⟩), K3⟩
      case measure => simp [intOf]
    · obtain ⟨W1, hW1, hK1, hy⟩ := boxed1 wr #[.pointer (some ⟨w.heap.size, 1, none⟩), .int .i64 2] 72
      have HW1 := Lib.hid hW1
      have y0 := cell_regrown (hy 0)
      have y1 := cell_regrown (hy 1)
      have y2 := cell_regrown ((hK1.cell (p := ⟨w.heap.size, 1, none⟩) gl).trans g1)
      have hq := quiet_at hK1 (fun x hx => num_any i 2 x)
      rw [h2.out] at hq
      have HQ := Lib.hid hq
      have hp := part1 w.heap.size
      clear hW1 hy hq g0 g1 g2
      go_wp2_with fail
      rw [HW1.out]
      refine wp_region_quiet_below (by kernel_rfl) (by kernel_rfl) ?_
      repeat (go_big_quiet_step (exact HQ.out _))
      refine wpQuiet_nil ?_
      intro _ hw'
      obtain ⟨⟨dq, osq⟩, hw''⟩ := hw'
      subst hw''
      have K3 := (hkept.trans hK1).trans (below_regrown W1 dq osq)
      go_wp2_with fail
      go_roundw
      case rel => exact ⟨2, rfl, .inr (.inr (.inl ⟨rfl, R2.out rfl⟩)), K3⟩
      case measure => simp [intOf]
    · obtain ⟨W1, hW1, hK1, hy⟩ := boxed1 wr #[.pointer (some ⟨w.heap.size, 2, none⟩), .int .i64 3] 72
      have HW1 := Lib.hid hW1
      have y0 := cell_regrown (hy 0)
      have y1 := cell_regrown (hy 1)
      have y2 := cell_regrown ((hK1.cell (p := ⟨w.heap.size, 2, none⟩) gl).trans g2)
      have hq := quiet_at hK1 (fun x hx => num_any s 3 x)
      rw [h3.out] at hq
      have HQ := Lib.hid hq
      have hp := part2 w.heap.size
      clear hW1 hy hq g0 g1 g2
      go_wp2_with fail
      rw [HW1.out]
      refine wp_region_quiet_below (by kernel_rfl) (by kernel_rfl) ?_
      repeat (go_big_quiet_step (exact HQ.out _))
      refine wpQuiet_nil ?_
      intro _ hw'
      obtain ⟨⟨dq, osq⟩, hw''⟩ := hw'
      subst hw''
      have K3 := (hkept.trans hK1).trans (below_regrown W1 dq osq)
      go_wp2_with fail
      go_roundw
      case rel => exact ⟨3, rfl, .inr (.inr (.inr ⟨rfl, R3.out rfl⟩)), K3⟩
      case measure => simp [intOf]
    · go_wp2_with fail
      go_ret
      exact ⟨rfl, hK.trans hkept⟩

set_option maxRecDepth 100000 in
set_option maxHeartbeats 800000 in
theorem keycode_as {n i s k : Int} {D : ByteArray} (hD : Hid ((⟨(keyCodeL n i s k).toArray⟩ : ByteArray) = D)) {w : World} :
    Calls Tryd.prog 47 #[.agg #[.int .i64 n, .int .i64 i, .int .i64 s, .int .i64 k]] w fun e w' => e = .returned (.string D) ∧ Kept w w' := by
  obtain ⟨a, h1, s1⟩ := code_named n i s
  obtain ⟨b, h2, s2⟩ := num_named k 1
  obtain ⟨W, hW, hK, hx⟩ := boxed1 w #[.int .i64 n, .int .i64 i, .int .i64 s, .int .i64 k] 25
  have x0 := cell_regrown (hx 0)
  have x1 := cell_regrown (hx 1)
  have x2 := cell_regrown (hx 2)
  have x3 := cell_regrown (hx 3)
  clear hx
  have Q1 := quiet_at hK (fun x hx => code_as (w := x) h1)
  have Q2 := quiet_at hK (fun x hx => num_any k 1 x)
  rw [h2.out] at Q2
  have HW := Lib.hid hW
  clear hW
  have HC := Lib.hid (keycode_cat h1 h2 hD)
  have n1 : ¬ 9223372036854775807 < a.size + b.size := by omega
  clear hD
  go_enter Tryd.func47, Tryd.ntmps47
  go_wp2_with fail
  rw [HW.out]
  refine wp_region_quiet_below (by kernel_rfl) (by kernel_rfl) ?_
  repeat (go_big_quiet_step (first | (with_reducible exact Q1.out _) | (with_reducible exact Q2.out _)))
  refine wpQuiet_nil ?_
  intro _ hw'
  obtain ⟨⟨dq, osq⟩, hw''⟩ := hw'
  subst hw''
  go_wp2_with fail
  go_ret
  exact ⟨ret_str HC.out, hK.trans (below_regrown _ dq osq)⟩

end Go.Proofs.YtpgfaklnbehmhaaDoor.Id
