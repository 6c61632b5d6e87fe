/- Package packet: its packets' bytes. -/
import Derived.Test.YtpgfaklnbehmhaaDoorPk5
import Derived.Test.YtpgfaklnbehmhaaDoorId5
import Derived.Test.YtpgfaklnbehmhaaDoorCr3
namespace Go.Proofs.YtpgfaklnbehmhaaDoor.Pk
open Go.RowKit Go.Sort St BsM IdM PkM
open Go.Proofs.YtpgfaklnbehmhaaDoor.Id
open Go.Proofs.YtpgfaklnbehmhaaDoor.Bs (kept_blk num_any text_any flag_any)
set_option linter.unusedVariables false

theorem key_named (n i s a : Int) : ∃ E : ByteArray, Hid ((⟨(keyCodeL n i s a).toArray⟩ : ByteArray) = E) ∧ E.size ≤ 28 := by
  refine ⟨_, rfl, ?_⟩
  rw [size_list]
  obtain ⟨b, hb, h2⟩ := num_named a 1
  rw [← hb.out, size_list] at h2
  have h1 := codeL_len n i s
  have h2' : (numL a 1).length ≤ 7 := h2
  show (keyCodeL n i s a).length ≤ 28
  simp only [keyCodeL, List.length_append]
  omega
theorem text_named (l : List UInt8) : ∃ E : ByteArray, Hid ((⟨(textL l).toArray⟩ : ByteArray) = E) ∧ E.size ≤ 256 := by
  refine ⟨_, rfl, ?_⟩
  rw [size_list]
  show (textL l).length ≤ 256
  unfold textL; split <;> simp; omega
theorem flag_named (b : Bool) : ∃ E : ByteArray, Hid ((⟨(flagL b).toArray⟩ : ByteArray) = E) ∧ E.size ≤ 1 := by
  refine ⟨_, rfl, ?_⟩
  rw [size_list]
  cases b <;> decide
theorem cat4 {a b c d D : ByteArray} {p : Pk} (h1 : Hid ((⟨(numL p.kind 1).toArray⟩ : ByteArray) = a)) (h2 : Hid ((⟨(numL p.fr 1).toArray⟩ : ByteArray) = b)) (h3 : Hid ((⟨(numL p.to 1).toArray⟩ : ByteArray) = c)) (h4 : Hid ((⟨(keyCodeL p.kn p.ki p.ks p.ka).toArray⟩ : ByteArray) = d)) (hD : Hid ((⟨(headL p).toArray⟩ : ByteArray) = D)) : (a ++ b ++ c ++ d).data.toList = D.data.toList := by
  rw [← h1.out, ← h2.out, ← h3.out, ← h4.out, ← hD.out]; simp [headL]
theorem cat3r {a b c D : ByteArray} {p : Pk} (h1 : Hid ((⟨(numL p.code 1).toArray⟩ : ByteArray) = a)) (h2 : Hid ((⟨(numL p.value 4).toArray⟩ : ByteArray) = b)) (h3 : Hid ((⟨(flagL p.more).toArray⟩ : ByteArray) = c)) (hD : Hid ((⟨(replyL p).toArray⟩ : ByteArray) = D)) : (a ++ b ++ c).data.toList = D.data.toList := by
  rw [← h1.out, ← h2.out, ← h3.out, ← hD.out]; simp [replyL]
theorem cat7 {a b c d e f g D : ByteArray} {p : Pk} (h1 : Hid ((⟨(numL p.hop 1).toArray⟩ : ByteArray) = a)) (h2 : Hid ((⟨(numL p.stamp 7).toArray⟩ : ByteArray) = b)) (h3 : Hid ((⟨(textL p.tm.data.toList).toArray⟩ : ByteArray) = c)) (h4 : Hid ((⟨(numL p.til 7).toArray⟩ : ByteArray) = d))
    (h5 : Hid ((⟨(numL p.prog 1).toArray⟩ : ByteArray) = e)) (h6 : Hid ((⟨(codeL p.rn p.ri p.rs).toArray⟩ : ByteArray) = f)) (h7 : Hid ((⟨(keyCodeL p.pn p.pi p.ps p.pa).toArray⟩ : ByteArray) = g)) (hD : Hid ((⟨(callL p).toArray⟩ : ByteArray) = D)) : (a ++ b ++ c ++ d ++ e ++ f ++ g).data.toList = D.data.toList := by
  rw [← h1.out, ← h2.out, ← h3.out, ← h4.out, ← h5.out, ← h6.out, ← h7.out, ← hD.out]; simp [callL]

set_option maxRecDepth 100000 in
set_option maxHeartbeats 4000000 in
theorem headcode_as {p : Pk} {D : ByteArray} (hD : Hid ((⟨(headL p).toArray⟩ : ByteArray) = D)) {w : World} : Calls Tryd.prog 24 #[.agg p.arr] w fun e w' => e = .returned (.string D) ∧ Kept w w' := by
  obtain ⟨a, h1, s1⟩ := num_named p.kind 1
  obtain ⟨b, h2, s2⟩ := num_named p.fr 1
  obtain ⟨c, h3, s3⟩ := num_named p.to 1
  obtain ⟨d, h4, s4⟩ := key_named p.kn p.ki p.ks p.ka
  obtain ⟨W, hW, hA⟩ := boxp w p
  have HW := Lib.hid hW
  have x0 := cell_regrown (show W.cell? ⟨w.heap.size, 0, none⟩ = some (.int .i64 p.kind) from hA.c 0)
  have x1 := cell_regrown (show W.cell? ⟨w.heap.size, 1, none⟩ = some (.int .i64 p.fr) from hA.c 1)
  have x2 := cell_regrown (show W.cell? ⟨w.heap.size, 2, none⟩ = some (.int .i64 p.to) from hA.c 2)
  have x3 := cell_regrown (show W.cell? ⟨w.heap.size, 3, none⟩ = some (.int .i64 p.kn) from hA.c 3)
  have x4 := cell_regrown (show W.cell? ⟨w.heap.size, 4, none⟩ = some (.int .i64 p.ki) from hA.c 4)
  have x5 := cell_regrown (show W.cell? ⟨w.heap.size, 5, none⟩ = some (.int .i64 p.ks) from hA.c 5)
  have x6 := cell_regrown (show W.cell? ⟨w.heap.size, 6, none⟩ = some (.int .i64 p.ka) from hA.c 6)
  have Q1 := quiet_at hA.kept (fun x hx => num_any p.kind 1 x)
  have Q2 := quiet_at hA.kept (fun x hx => num_any p.fr 1 x)
  have Q3 := quiet_at hA.kept (fun x hx => num_any p.to 1 x)
  have Q4 := quiet_at hA.kept (fun x hx => keycode_as (w := x) h4)
  rw [h1.out] at Q1; rw [h2.out] at Q2; rw [h3.out] at Q3
  have HC := Lib.hid (cat4 h1 h2 h3 h4 hD)
  have n1 : ¬ 9223372036854775807 < a.size + b.size := by omega
  have n2 : ¬ 9223372036854775807 < a.size + b.size + c.size := by omega
  have n3 : ¬ 9223372036854775807 < a.size + b.size + c.size + d.size := by omega
  have HA := Lib.hid hA
  clear hW hA hD
  go_enter Tryd.func24, Tryd.ntmps24
  go_wp2_with fail
  rw [HW.out]
  refine wp_region_quiet_below (by kernel_rfl) (by kernel_rfl) ?_
  repeat (go_big_quiet_step (first | (with_reducible exact Q1.out _) | (with_reducible exact Q2.out _) | (with_reducible exact Q3.out _) | (with_reducible exact Q4.out _)))
  refine wpQuiet_nil ?_
  intro _ hw'
  obtain ⟨⟨dq, osq⟩, hw''⟩ := hw'
  subst hw''
  go_wp2_with fail
  go_ret
  exact ⟨ret_str HC.out, HA.out.kept.trans (below_regrown _ dq osq)⟩

theorem restL1 {p : Pk} (h : p.kind = 1) : restL p = callL p := by unfold restL; rw [if_pos h]
theorem restL2 {p : Pk} (h : p.kind = 2) : restL p = replyL p := by unfold restL; rw [if_neg (by omega), if_pos h]
theorem restL4 {p : Pk} (h : p.kind = 4) : restL p = numL p.til 7 := by unfold restL; rw [if_neg (by omega), if_neg (by omega), if_pos h]
theorem restL5 {p : Pk} (h : p.kind = 5) : restL p = numL (p.delay + 1) 7 := by unfold restL; rw [if_neg (by omega), if_neg (by omega), if_neg (by omega), if_pos h]
theorem restL0 {p : Pk} (h : p.kind = 3) : restL p = [] := by unfold restL; rw [if_neg (by omega), if_neg (by omega), if_neg (by omega), if_neg (by omega)]

set_option maxRecDepth 100000 in
set_option maxHeartbeats 4000000 in
theorem restcode1 {p : Pk} (hk : p.kind = 1) {D : ByteArray} (hD : Hid ((⟨(callL p).toArray⟩ : ByteArray) = D)) {w : World} : Calls Tryd.prog 25 #[.agg p.arr] w fun e w' => e = .returned (.string D) ∧ Kept w w' := by
  obtain ⟨a, h1, s1⟩ := num_named p.hop 1
  obtain ⟨b, h2, s2⟩ := num_named p.stamp 7
  obtain ⟨c, h3, s3⟩ := text_named p.tm.data.toList
  obtain ⟨d, h4, s4⟩ := num_named p.til 7
  obtain ⟨e, h5, s5⟩ := num_named p.prog 1
  obtain ⟨f, h6, s6⟩ := code_named p.rn p.ri p.rs
  obtain ⟨g, h7, s7⟩ := key_named p.pn p.pi p.ps p.pa
  have x0 : p.arr[0]? = some (.int .i64 1) := by rw [← hk]; rfl
  obtain ⟨W, hW, hA⟩ := boxp w p
  have HW := Lib.hid hW
  have x7 := cell_regrown (show W.cell? ⟨w.heap.size, 7, none⟩ = some (.int .i64 p.hop) from hA.c 7)
  have x8 := cell_regrown (show W.cell? ⟨w.heap.size, 8, none⟩ = some (.int .i64 p.stamp) from hA.c 8)
  have x9 := cell_regrown (show W.cell? ⟨w.heap.size, 9, none⟩ = some (.string p.tm) from hA.c 9)
  have x10 := cell_regrown (show W.cell? ⟨w.heap.size, 10, none⟩ = some (.int .i64 p.til) from hA.c 10)
  have x11 := cell_regrown (show W.cell? ⟨w.heap.size, 11, none⟩ = some (.int .i64 p.prog) from hA.c 11)
  have x12 := cell_regrown (show W.cell? ⟨w.heap.size, 12, none⟩ = some (.int .i64 p.rn) from hA.c 12)
  have x13 := cell_regrown (show W.cell? ⟨w.heap.size, 13, none⟩ = some (.int .i64 p.ri) from hA.c 13)
  have x14 := cell_regrown (show W.cell? ⟨w.heap.size, 14, none⟩ = some (.int .i64 p.rs) from hA.c 14)
  have x15 := cell_regrown (show W.cell? ⟨w.heap.size, 15, none⟩ = some (.int .i64 p.pn) from hA.c 15)
  have x16 := cell_regrown (show W.cell? ⟨w.heap.size, 16, none⟩ = some (.int .i64 p.pi) from hA.c 16)
  have x17 := cell_regrown (show W.cell? ⟨w.heap.size, 17, none⟩ = some (.int .i64 p.ps) from hA.c 17)
  have x18 := cell_regrown (show W.cell? ⟨w.heap.size, 18, none⟩ = some (.int .i64 p.pa) from hA.c 18)
  have Q1 := quiet_at hA.kept (fun x hx => num_any p.hop 1 x)
  have Q2 := quiet_at hA.kept (fun x hx => num_any p.stamp 7 x)
  have Q3 := quiet_at hA.kept (fun x hx => text_any p.tm x)
  have Q4 := quiet_at hA.kept (fun x hx => num_any p.til 7 x)
  have Q5 := quiet_at hA.kept (fun x hx => num_any p.prog 1 x)
  have Q6 := quiet_at hA.kept (fun x hx => code_as (w := x) h6)
  have Q7 := quiet_at hA.kept (fun x hx => keycode_as (w := x) h7)
  rw [h1.out] at Q1; rw [h2.out] at Q2; rw [h3.out] at Q3; rw [h4.out] at Q4; rw [h5.out] at Q5
  have HC := Lib.hid (cat7 h1 h2 h3 h4 h5 h6 h7 hD)
  have n1 : ¬ 9223372036854775807 < a.size + b.size := by omega
  have n2 : ¬ 9223372036854775807 < a.size + b.size + c.size := by omega
  have n3 : ¬ 9223372036854775807 < a.size + b.size + c.size + d.size := by omega
  have n4 : ¬ 9223372036854775807 < a.size + b.size + c.size + d.size + e.size := by omega
  have n5 : ¬ 9223372036854775807 < a.size + b.size + c.size + d.size + e.size + f.size := by omega
  have n6 : ¬ 9223372036854775807 < a.size + b.size + c.size + d.size + e.size + f.size + g.size := by omega
  have HA := Lib.hid hA
  clear hW hA hD hk
  go_enter Tryd.func25, Tryd.ntmps25
  go_wp2_with fail
  rw [HW.out]
  refine wp_region_quiet_below (by kernel_rfl) (by kernel_rfl) ?_
  repeat (go_big_quiet_step (first | (with_reducible exact Q1.out _) | (with_reducible exact Q2.out _) | (with_reducible exact Q3.out _) | (with_reducible exact Q4.out _) | (with_reducible exact Q5.out _) | (with_reducible exact Q6.out _) | (with_reducible exact Q7.out _)))
  refine wpQuiet_nil ?_
  intro _ hw'
  obtain ⟨⟨dq, osq⟩, hw''⟩ := hw'
  subst hw''
  go_wp2_with fail
  go_ret
  exact ⟨ret_str HC.out, HA.out.kept.trans (below_regrown _ dq osq)⟩

set_option maxRecDepth 100000 in
set_option maxHeartbeats 4000000 in
theorem restcode2 {p : Pk} (hk : p.kind = 2) {D : ByteArray} (hD : Hid ((⟨(replyL p).toArray⟩ : ByteArray) = D)) {w : World} : Calls Tryd.prog 25 #[.agg p.arr] w fun e w' => e = .returned (.string D) ∧ Kept w w' := by
  obtain ⟨a, h1, s1⟩ := num_named p.code 1
  obtain ⟨b, h2, s2⟩ := num_named p.value 4
  obtain ⟨c, h3, s3⟩ := flag_named p.more
  have x0 : p.arr[0]? = some (.int .i64 2) := by rw [← hk]; rfl
  obtain ⟨W, hW, hA⟩ := boxp w p
  have HW := Lib.hid hW
  have x19 := cell_regrown (show W.cell? ⟨w.heap.size, 19, none⟩ = some (.int .i64 p.code) from hA.c 19)
  have x20 := cell_regrown (show W.cell? ⟨w.heap.size, 20, none⟩ = some (.int .i64 p.value) from hA.c 20)
  have x21 := cell_regrown (show W.cell? ⟨w.heap.size, 21, none⟩ = some (.bool p.more) from hA.c 21)
  have Q1 := quiet_at hA.kept (fun x hx => num_any p.code 1 x)
  have Q2 := quiet_at hA.kept (fun x hx => num_any p.value 4 x)
  have Q3 := quiet_at hA.kept (fun x hx => flag_any p.more x)
  rw [h1.out] at Q1; rw [h2.out] at Q2; rw [h3.out] at Q3
  have HC := Lib.hid (cat3r h1 h2 h3 hD)
  have n1 : ¬ 9223372036854775807 < a.size + b.size := by omega
  have n2 : ¬ 9223372036854775807 < a.size + b.size + c.size := by omega
  have HA := Lib.hid hA
  clear hW hA hD hk
  go_enter Tryd.func25, Tryd.ntmps25
  go_wp2_with fail
  rw [HW.out]
  refine wp_region_quiet_below (by kernel_rfl) (by kernel_rfl) ?_
  repeat (go_big_quiet_step (first | (with_reducible exact Q1.out _) | (with_reducible exact Q2.out _) | (with_reducible exact Q3.out _)))
  refine wpQuiet_nil ?_
  intro _ hw'
  obtain ⟨⟨dq, osq⟩, hw''⟩ := hw'
  subst hw''
  go_wp2_with fail
  go_ret
  exact ⟨ret_str HC.out, HA.out.kept.trans (below_regrown _ dq osq)⟩

set_option maxRecDepth 100000 in
set_option maxHeartbeats 4000000 in
theorem restcode_as {p : Pk} (hr : Hid (restB p = true)) {D : ByteArray} (hD : Hid ((⟨(restL p).toArray⟩ : ByteArray) = D)) {w : World} : Calls Tryd.prog 25 #[.agg p.arr] w fun e w' => e = .returned (.string D) ∧ Kept w w' := by
  have hA := At.new w p
  rcases kinds p.kind with hk | hk | hk | hk | hk | hk
  · exact restcode1 hk (Lib.hid (by rw [← restL1 hk]; exact hD.out))
  · exact restcode2 hk (Lib.hid (by rw [← restL2 hk]; exact hD.out))
  · have x0 : p.arr[0]? = some (.int .i64 3) := by rw [← hk]; rfl
    have hd : Hid ((⟨#[]⟩ : ByteArray) = D) := Lib.hid (by rw [← hD.out, restL0 hk])
    clear hk hD hr
    go_enter Tryd.func25, Tryd.ntmps25
    go_wp2_with fail
    go_ret
    exact ⟨by rw [← hd.out]; rfl, hA.kept⟩
  · have x0 : p.arr[0]? = some (.int .i64 4) := by rw [← hk]; rfl
    have x10 : p.arr[10]? = some (.int .i64 p.til) := rfl
    have hd : Hid ((⟨(numL p.til 7).toArray⟩ : ByteArray) = D) := Lib.hid (by rw [← hD.out, restL4 hk])
    have hn := num_any p.til 7 (w.alloc (.cells p.arr 27 (0, 0)))
    rw [hd.out] at hn
    have HN := Lib.hid hn
    clear hk hD hn hr
    go_enter Tryd.func25, Tryd.ntmps25
    go_wp2_with (go_at_call 46; refine (at_as hA HN.out).mono ?_; rintro e u ⟨rfl, hB⟩)
    go_ret
    exact ⟨rfl, hB.kept⟩
  · have x0 : p.arr[0]? = some (.int .i64 5) := by rw [← hk]; rfl
    have x22 : p.arr[22]? = some (.int .i64 p.delay) := rfl
    have hb : -1 ≤ p.delay ∧ p.delay ≤ 1125899906842624 := by have := hr.out; rw [rest5 hk] at this; simpa using this
    have hb1 := hb.1
    have hb2 := hb.2
    have hd : Hid ((⟨(numL (p.delay + 1) 7).toArray⟩ : ByteArray) = D) := Lib.hid (by rw [← hD.out, restL5 hk])
    have hn := num_any (p.delay + 1) 7 (w.alloc (.cells p.arr 27 (0, 0)))
    rw [hd.out] at hn
    have HN := Lib.hid hn
    clear hk hD hn hr hb
    go_enter Tryd.func25, Tryd.ntmps25
    go_wp2_with (go_at_call 46; refine (at_as hA HN.out).mono ?_; rintro e u ⟨rfl, hB⟩)
    go_ret
    exact ⟨rfl, hB.kept⟩
  · have := hr.out; rw [rest0 hk] at this; cases this

theorem headL_len (p : Pk) : (headL p).length ≤ 49 := by
  obtain ⟨a, h1, s1⟩ := num_named p.kind 1
  obtain ⟨b, h2, s2⟩ := num_named p.fr 1
  obtain ⟨c, h3, s3⟩ := num_named p.to 1
  obtain ⟨d, h4, s4⟩ := key_named p.kn p.ki p.ks p.ka
  have e := congrArg List.length (cat4 h1 h2 h3 h4 (D := ⟨(headL p).toArray⟩) rfl)
  rw [← size_list] at e
  simp at e
  omega
theorem restL_len (p : Pk) : (restL p).length ≤ 400 := by
  unfold restL
  split
  · obtain ⟨a, h1, s1⟩ := num_named p.hop 1
    obtain ⟨b, h2, s2⟩ := num_named p.stamp 7
    obtain ⟨c, h3, s3⟩ := text_named p.tm.data.toList
    obtain ⟨d, h4, s4⟩ := num_named p.til 7
    obtain ⟨e, h5, s5⟩ := num_named p.prog 1
    obtain ⟨f, h6, s6⟩ := code_named p.rn p.ri p.rs
    obtain ⟨g, h7, s7⟩ := key_named p.pn p.pi p.ps p.pa
    have e := congrArg List.length (cat7 h1 h2 h3 h4 h5 h6 h7 (D := ⟨(callL p).toArray⟩) rfl)
    rw [← size_list] at e
    simp at e
    omega
  · split
    · obtain ⟨a, h1, s1⟩ := num_named p.code 1
      obtain ⟨b, h2, s2⟩ := num_named p.value 4
      obtain ⟨c, h3, s3⟩ := flag_named p.more
      have e := congrArg List.length (cat3r h1 h2 h3 (D := ⟨(replyL p).toArray⟩) rfl)
      rw [← size_list] at e
      simp at e
      omega
    · have t : ∀ n k, (numL n k).length ≤ 400 := fun n k => by
        obtain ⟨a, h1, s1⟩ := num_named n k
        rw [← h1.out, size_list] at s1
        have s1' : (numL n k).length ≤ 7 := s1
        omega
      split
      · exact t _ _
      · split
        · exact t _ _
        · simp

set_option maxRecDepth 100000 in
set_option maxHeartbeats 4000000 in
theorem code_pk {p : Pk} (hr : Hid (restB p = true)) {D : ByteArray} (hD : Hid ((⟨(CrM.sealed (bodyL p)).toArray⟩ : ByteArray) = D)) {w : World} (ht : Cr.Tab w) : Calls Tryd.prog 11 #[.agg p.arr] w fun e w' => e = .returned (.string D) ∧ Kept w w' := by
  obtain ⟨a, h1⟩ : ∃ E : ByteArray, Hid ((⟨(headL p).toArray⟩ : ByteArray) = E) := ⟨_, rfl⟩
  obtain ⟨b, h2⟩ : ∃ E : ByteArray, Hid ((⟨(restL p).toArray⟩ : ByteArray) = E) := ⟨_, rfl⟩
  have s1 : a.size ≤ 49 := by rw [← h1.out]; exact headL_len p
  have s2 : b.size ≤ 400 := by rw [← h2.out]; exact restL_len p
  obtain ⟨c, hc⟩ : ∃ E : ByteArray, a ++ b = E := ⟨_, rfl⟩
  have hcl : c.data.toList = bodyL p := by rw [← hc, ← h1.out, ← h2.out]; simp [bodyL]
  have s3 : c.size ≤ 5000 := by rw [← hc]; simp; omega
  obtain ⟨W, hW, hA⟩ := boxp w p
  have HW := Lib.hid hW
  have hl := load_regrown hA.blk
  have Q1 := quiet_at hA.kept (fun x hx => headcode_as (w := x) h1)
  have Q2 := quiet_at hA.kept (fun x hx => restcode_as (w := x) hr h2)
  have Q3 := quiet_at hA.kept (fun x hx => Cr.seal_any c s3 x (ht.kept hx))
  rw [hcl, hD.out, ← hc] at Q3
  have n1 : ¬ 9223372036854775807 < a.size + b.size := by omega
  have HA := Lib.hid hA
  clear hW hA hD hr hcl hc ht
  go_enter Tryd.func11, Tryd.ntmps11
  go_wp2_with fail
  rw [HW.out]
  refine wp_region_quiet_below (by kernel_rfl) (by kernel_rfl) ?_
  repeat (first | (go_big_quiet_want; refine quiet_row 27 (.tmp 1) rfl w.heap.size rfl p.arr hl.out ?_; simp only [Act.put, List.setIfInBounds_toArray, List.set_cons_succ, List.set_cons_zero]; go_big_quiet_on) | go_big_quiet_step (first | (with_reducible exact Q1.out _) | (with_reducible exact Q2.out _) | (with_reducible exact Q3.out _)))
  refine wpQuiet_nil ?_
  intro _ hw'
  obtain ⟨⟨dq, osq⟩, hw''⟩ := hw'
  subst hw''
  go_wp2_with fail
  go_ret
  exact ⟨rfl, HA.out.kept.trans (below_regrown _ dq osq)⟩

end Go.Proofs.YtpgfaklnbehmhaaDoor.Pk
