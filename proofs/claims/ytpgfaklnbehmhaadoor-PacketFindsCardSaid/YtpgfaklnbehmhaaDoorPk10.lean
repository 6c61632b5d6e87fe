/- Packets' bytes, as the document says them. -/
import Derived.Test.YtpgfaklnbehmhaaDoorPk9
namespace Go.Proofs.YtpgfaklnbehmhaaDoor.Pk
open Go.RowKit Go.Sort St BsM IdM PkM
open Go.Proofs.YtpgfaklnbehmhaaDoor.Id
open Go.Proofs.YtpgfaklnbehmhaaDoor.Bs (kept_blk rnum_any rtext_any)
set_option linter.unusedVariables false

/-- all its numbers are numbers -/
structure Nm (p : Pk) : Prop where
  kind : I64 p.kind
  fr : I64 p.fr
  to : I64 p.to
  kn : I64 p.kn
  ki : I64 p.ki
  ks : I64 p.ks
  ka : I64 p.ka
  hop : I64 p.hop
  stamp : I64 p.stamp
  til : I64 p.til
  prog : I64 p.prog
  rn : I64 p.rn
  ri : I64 p.ri
  rs : I64 p.rs
  pn : I64 p.pn
  pi : I64 p.pi
  ps : I64 p.ps
  pa : I64 p.pa
  code : I64 p.code
  value : I64 p.value
  delay : I64 p.delay

theorem rflag_any (b : Bool) (w : World) : Calls Tryd.prog 35 #[.bool b] w fun e w' => e = .returned (.string ⟨(flagL b).toArray⟩) ∧ Kept w w' := by
  cases b
  · have hn := rnum_any ((0 : Nat) : Int) 1 (by decide) w
    rw [num_one _ (by decide)] at hn
    have HN := Lib.hid (show Calls Tryd.prog 31 #[.int .i64 0, .int .i64 1] w fun e w' => e = .returned (.string ⟨#[0]⟩) ∧ Kept w w' from hn)
    clear hn
    go_enter Tryd.func35, Tryd.ntmps35
    go_wp2_with (go_at_call 31; refine HN.out.mono ?_; rintro e w' ⟨rfl, hk⟩)
    go_ret
    exact ⟨rfl, hk⟩
  · have hn := rnum_any ((1 : Nat) : Int) 1 (by decide) w
    rw [num_one _ (by decide)] at hn
    have HN := Lib.hid (show Calls Tryd.prog 31 #[.int .i64 1, .int .i64 1] w fun e w' => e = .returned (.string ⟨#[1]⟩) ∧ Kept w w' from hn)
    clear hn
    go_enter Tryd.func35, Tryd.ntmps35
    go_wp2_with (go_at_call 31; refine HN.out.mono ?_; rintro e w' ⟨rfl, hk⟩)
    go_ret
    exact ⟨rfl, hk⟩
/-- what is told so far, and what is still to come -/
theorem cat6 {H a b c d e D : ByteArray} {p : Pk} (h1 : Hid ((⟨(numL p.hop 1).toArray⟩ : ByteArray) = a)) (h2 : Hid ((⟨(numL p.stamp 7).toArray⟩ : ByteArray) = b)) (h3 : Hid ((⟨(textL p.tm.data.toList).toArray⟩ : ByteArray) = c)) (h4 : Hid ((⟨(numL p.til 7).toArray⟩ : ByteArray) = d))
    (h5 : Hid ((⟨(numL p.prog 1).toArray⟩ : ByteArray) = e)) {f g : ByteArray} (h6 : Hid ((⟨(codeL p.rn p.ri p.rs).toArray⟩ : ByteArray) = f)) (h7 : Hid ((⟨(keyCodeL p.pn p.pi p.ps p.pa).toArray⟩ : ByteArray) = g)) (hH : Hid ((⟨(headL p).toArray⟩ : ByteArray) = H)) (hk : p.kind = 1) (hD : Hid ((⟨(bodyL p).toArray⟩ : ByteArray) = D)) : H ++ a ++ b ++ c ++ d ++ e ++ f ++ g = D := by
  rw [str_of D _ rfl, str_of (H ++ a ++ b ++ c ++ d ++ e ++ f ++ g) D.data.toList (by rw [← h1.out, ← h2.out, ← h3.out, ← h4.out, ← h5.out, ← h6.out, ← h7.out, ← hH.out, ← hD.out]; simp [bodyL, restL1 hk, callL])]
theorem cat3b {H a b c D : ByteArray} {p : Pk} (h1 : Hid ((⟨(numL p.code 1).toArray⟩ : ByteArray) = a)) (h2 : Hid ((⟨(numL p.value 4).toArray⟩ : ByteArray) = b)) (h3 : Hid ((⟨(flagL p.more).toArray⟩ : ByteArray) = c)) (hH : Hid ((⟨(headL p).toArray⟩ : ByteArray) = H)) (hk : p.kind = 2) (hD : Hid ((⟨(bodyL p).toArray⟩ : ByteArray) = D)) : H ++ a ++ b ++ c = D := by
  rw [str_of D _ rfl, str_of (H ++ a ++ b ++ c) D.data.toList (by rw [← h1.out, ← h2.out, ← h3.out, ← hH.out, ← hD.out]; simp [bodyL, restL2 hk, replyL])]
theorem cat1b {H a D : ByteArray} {p : Pk} {l : List UInt8} (h1 : Hid ((⟨l.toArray⟩ : ByteArray) = a)) (hH : Hid ((⟨(headL p).toArray⟩ : ByteArray) = H)) (hk : restL p = l) (hD : Hid ((⟨(bodyL p).toArray⟩ : ByteArray) = D)) : H ++ a = D := by
  rw [str_of D _ rfl, str_of (H ++ a) D.data.toList (by rw [← h1.out, ← hH.out, ← hD.out]; simp [bodyL, hk])]
theorem cat0b {H D : ByteArray} {p : Pk} (hH : Hid ((⟨(headL p).toArray⟩ : ByteArray) = H)) (hk : restL p = []) (hD : Hid ((⟨(bodyL p).toArray⟩ : ByteArray) = D)) : H = D := by
  rw [← hH.out, ← hD.out]; simp [bodyL, hk]
theorem cat4h {a b c d H : ByteArray} {p : Pk} (h1 : Hid ((⟨(numL p.kind 1).toArray⟩ : ByteArray) = a)) (h2 : Hid ((⟨(numL p.fr 1).toArray⟩ : ByteArray) = b)) (h3 : Hid ((⟨(numL p.to 1).toArray⟩ : ByteArray) = c)) (h4 : Hid ((⟨(keyCodeL p.kn p.ki p.ks p.ka).toArray⟩ : ByteArray) = d)) (hH : Hid ((⟨(headL p).toArray⟩ : ByteArray) = H)) : a ++ b ++ c ++ d = H := by
  rw [str_of H _ rfl, str_of (a ++ b ++ c ++ d) H.data.toList (cat4 h1 h2 h3 h4 hH)]

set_option maxRecDepth 100000 in
set_option maxHeartbeats 4000000 in
theorem rcode3 {p : Pk} (hk : p.kind = 3) (hn : Nm p) (ht : Hid (restB p = true)) {D : ByteArray} (hD : Hid ((⟨(CrM.sealed (bodyL p)).toArray⟩ : ByteArray) = D)) {w : World} : Calls Tryd.prog 13 #[.agg p.arr] w fun e w' => e = .returned (.string D) ∧ Kept w w' := by
  obtain ⟨a, h1, s1⟩ := num_named p.kind 1
  obtain ⟨b, h2, s2⟩ := num_named p.fr 1
  obtain ⟨c, h3, s3⟩ := num_named p.to 1
  obtain ⟨d, h4, s4⟩ := key_named p.kn p.ki p.ks p.ka
  obtain ⟨H, hH⟩ : ∃ E : ByteArray, Hid ((⟨(headL p).toArray⟩ : ByteArray) = E) := ⟨_, rfl⟩
  have hHs : H.size ≤ 49 := by rw [← hH.out]; exact headL_len p
  obtain ⟨B, hB⟩ : ∃ E : ByteArray, Hid ((⟨(bodyL p).toArray⟩ : ByteArray) = E) := ⟨_, rfl⟩
  have hBs : B.size ≤ 5000 := by rw [← hB.out, size_list]; show (bodyL p).length ≤ 5000; have := headL_len p; have := restL_len p; simp only [bodyL, List.length_append]; omega
  have hBl : B.data.toList = bodyL p := by rw [← hB.out]
  have HS := Lib.hid (show ∀ x, Calls Tryd.prog 14 #[.string B] x fun e x' => e = .returned (.string D) ∧ Kept x x' from fun x => by have := Cr.rseal_any B hBs x; rw [hBl, hD.out] at this; exact this)
  clear hBl
  obtain ⟨W, hW, hA⟩ := boxp w p
  have HW := Lib.hid hW
  have x0 := cell_regrown (show W.cell? ⟨w.heap.size, 0, none⟩ = some (.int .i64 p.kind) from hA.c 0)
  have x1 := cell_regrown (show W.cell? ⟨w.heap.size, 1, none⟩ = some (.int .i64 p.fr) from hA.c 1)
  have x2 := cell_regrown (show W.cell? ⟨w.heap.size, 2, none⟩ = some (.int .i64 p.to) from hA.c 2)
  have x3 := cell_regrown (show W.cell? ⟨w.heap.size, 3, none⟩ = some (.int .i64 p.kn) from hA.c 3)
  have x4 := cell_regrown (show W.cell? ⟨w.heap.size, 4, none⟩ = some (.int .i64 p.ki) from hA.c 4)
  have x5 := cell_regrown (show W.cell? ⟨w.heap.size, 5, none⟩ = some (.int .i64 p.ks) from hA.c 5)
  have x6 := cell_regrown (show W.cell? ⟨w.heap.size, 6, none⟩ = some (.int .i64 p.ka) from hA.c 6)
  have Q1 := quiet_at hA.kept (fun x hx => rnum_any p.kind 1 hn.kind.2 x)
  have Q2 := quiet_at hA.kept (fun x hx => rnum_any p.fr 1 hn.fr.2 x)
  have Q3 := quiet_at hA.kept (fun x hx => rnum_any p.to 1 hn.to.2 x)
  have Q4 := quiet_at hA.kept (fun x hx => rkeycode_as (w := x) hn.kn hn.ki hn.ks hn.ka h4)
  rw [h1.out] at Q1; rw [h2.out] at Q2; rw [h3.out] at Q3
  have HC := Lib.hid (cat4h h1 h2 h3 h4 hH)
  have n1 : ¬ 9223372036854775807 < a.size + b.size := by omega
  have n2 : ¬ 9223372036854775807 < a.size + b.size + c.size := by omega
  have n3 : ¬ 9223372036854775807 < a.size + b.size + c.size + d.size := by omega
  have HA := Lib.hid hA
  have HR := ht
  clear hW hA hD ht
  have hd := cat0b hH (restL0 hk) hB
  subst hd
  have HK := Lib.hid hk
  clear hk
  go_enter Tryd.func13, Tryd.ntmps13
  go_wp2_with fail
  rw [HW.out]
  refine wp_region_quiet_below (by kernel_rfl) (by kernel_rfl) ?_
  repeat (go_big_quiet_step (first | (with_reducible exact Q1.out _) | (with_reducible exact Q2.out _) | (with_reducible exact Q3.out _) | (with_reducible exact Q4.out _)))
  refine wpQuiet_nil ?_
  intro _ hw'
  obtain ⟨⟨dq, osq⟩, hw''⟩ := hw'
  subst hw''
  have hU : At w p (grow (redrawn W dq) osq) := HA.out.go (below_regrown W dq osq)
  obtain ⟨u, hu⟩ : ∃ u, grow (redrawn W dq) osq = u := ⟨_, rfl⟩
  rw [hu] at hU ⊢
  rw [HC.out]
  clear hu x0 x1 x2 x3 x4 x5 x6 Q1 Q2 Q3 Q4 n1 n2 n3
  have y0 : u.cell? ⟨w.heap.size, 0, none⟩ = some (.int .i64 3) := by rw [hU.c 0, ← HK.out]; rfl
  go_wp2_with (go_at_call 14; refine (HS.out _).mono ?_; rintro e v ⟨rfl, hv⟩)
  go_ret
  exact ⟨rfl, hU.kept.trans hv⟩

set_option maxRecDepth 100000 in
set_option maxHeartbeats 4000000 in
theorem rcode4 {p : Pk} (hk : p.kind = 4) (hn : Nm p) (ht : Hid (restB p = true)) {D : ByteArray} (hD : Hid ((⟨(CrM.sealed (bodyL p)).toArray⟩ : ByteArray) = D)) {w : World} : Calls Tryd.prog 13 #[.agg p.arr] w fun e w' => e = .returned (.string D) ∧ Kept w w' := by
  obtain ⟨a, h1, s1⟩ := num_named p.kind 1
  obtain ⟨b, h2, s2⟩ := num_named p.fr 1
  obtain ⟨c, h3, s3⟩ := num_named p.to 1
  obtain ⟨d, h4, s4⟩ := key_named p.kn p.ki p.ks p.ka
  obtain ⟨H, hH⟩ : ∃ E : ByteArray, Hid ((⟨(headL p).toArray⟩ : ByteArray) = E) := ⟨_, rfl⟩
  have hHs : H.size ≤ 49 := by rw [← hH.out]; exact headL_len p
  obtain ⟨B, hB⟩ : ∃ E : ByteArray, Hid ((⟨(bodyL p).toArray⟩ : ByteArray) = E) := ⟨_, rfl⟩
  have hBs : B.size ≤ 5000 := by rw [← hB.out, size_list]; show (bodyL p).length ≤ 5000; have := headL_len p; have := restL_len p; simp only [bodyL, List.length_append]; omega
  have hBl : B.data.toList = bodyL p := by rw [← hB.out]
  have HS := Lib.hid (show ∀ x, Calls Tryd.prog 14 #[.string B] x fun e x' => e = .returned (.string D) ∧ Kept x x' from fun x => by have := Cr.rseal_any B hBs x; rw [hBl, hD.out] at this; exact this)
  clear hBl
  obtain ⟨W, hW, hA⟩ := boxp w p
  have HW := Lib.hid hW
  have x0 := cell_regrown (show W.cell? ⟨w.heap.size, 0, none⟩ = some (.int .i64 p.kind) from hA.c 0)
  have x1 := cell_regrown (show W.cell? ⟨w.heap.size, 1, none⟩ = some (.int .i64 p.fr) from hA.c 1)
  have x2 := cell_regrown (show W.cell? ⟨w.heap.size, 2, none⟩ = some (.int .i64 p.to) from hA.c 2)
  have x3 := cell_regrown (show W.cell? ⟨w.heap.size, 3, none⟩ = some (.int .i64 p.kn) from hA.c 3)
  have x4 := cell_regrown (show W.cell? ⟨w.heap.size, 4, none⟩ = some (.int .i64 p.ki) from hA.c 4)
  have x5 := cell_regrown (show W.cell? ⟨w.heap.size, 5, none⟩ = some (.int .i64 p.ks) from hA.c 5)
  have x6 := cell_regrown (show W.cell? ⟨w.heap.size, 6, none⟩ = some (.int .i64 p.ka) from hA.c 6)
  have Q1 := quiet_at hA.kept (fun x hx => rnum_any p.kind 1 hn.kind.2 x)
  have Q2 := quiet_at hA.kept (fun x hx => rnum_any p.fr 1 hn.fr.2 x)
  have Q3 := quiet_at hA.kept (fun x hx => rnum_any p.to 1 hn.to.2 x)
  have Q4 := quiet_at hA.kept (fun x hx => rkeycode_as (w := x) hn.kn hn.ki hn.ks hn.ka h4)
  rw [h1.out] at Q1; rw [h2.out] at Q2; rw [h3.out] at Q3
  have HC := Lib.hid (cat4h h1 h2 h3 h4 hH)
  have n1 : ¬ 9223372036854775807 < a.size + b.size := by omega
  have n2 : ¬ 9223372036854775807 < a.size + b.size + c.size := by omega
  have n3 : ¬ 9223372036854775807 < a.size + b.size + c.size + d.size := by omega
  have HA := Lib.hid hA
  have HR := ht
  clear hW hA hD ht
  obtain ⟨f, h5, s5⟩ := num_named p.til 7
  have HD := Lib.hid (cat1b h5 hH (restL4 hk) hB)
  have HN := Lib.hid (show ∀ x, Calls Tryd.prog 31 #[.int .i64 p.til, .int .i64 7] x fun e x' => e = .returned (.string f) ∧ Kept x x' from fun x => by have := rnum_any p.til 7 hn.til.2 x; rw [h5.out] at this; exact this)
  have HS2 := Lib.hid (show ∀ x, Calls Tryd.prog 14 #[.string (H ++ f)] x fun e x' => e = .returned (.string D) ∧ Kept x x' from fun x => by rw [HD.out]; exact HS.out x)
  have n5 : ¬ 9223372036854775807 < H.size + f.size := by omega
  have HK := Lib.hid hk
  clear hk
  go_enter Tryd.func13, Tryd.ntmps13
  go_wp2_with fail
  rw [HW.out]
  refine wp_region_quiet_below (by kernel_rfl) (by kernel_rfl) ?_
  repeat (go_big_quiet_step (first | (with_reducible exact Q1.out _) | (with_reducible exact Q2.out _) | (with_reducible exact Q3.out _) | (with_reducible exact Q4.out _)))
  refine wpQuiet_nil ?_
  intro _ hw'
  obtain ⟨⟨dq, osq⟩, hw''⟩ := hw'
  subst hw''
  have hU : At w p (grow (redrawn W dq) osq) := HA.out.go (below_regrown W dq osq)
  obtain ⟨u, hu⟩ : ∃ u, grow (redrawn W dq) osq = u := ⟨_, rfl⟩
  rw [hu] at hU ⊢
  rw [HC.out]
  clear hu x0 x1 x2 x3 x4 x5 x6 Q1 Q2 Q3 Q4 n1 n2 n3
  have y0 : u.cell? ⟨w.heap.size, 0, none⟩ = some (.int .i64 4) := by rw [hU.c 0, ← HK.out]; rfl
  have y10 : u.cell? ⟨w.heap.size, 10, none⟩ = some (.int .i64 p.til) := hU.c 10
  go_wp2_with (first
    | (go_at_call 31; refine (at_as hU (HN.out _)).mono ?_; rintro e u2 ⟨rfl, hU2⟩; have z0 : u2.cell? ⟨w.heap.size, 0, none⟩ = some (.int .i64 4) := (hU2.c 0).trans ((hU.c 0).symm.trans y0))
    | (go_at_call 14; refine (HS2.out _).mono ?_; rintro e v ⟨rfl, hv⟩))
  go_ret
  exact ⟨rfl, hU2.kept.trans hv⟩

set_option maxRecDepth 100000 in
set_option maxHeartbeats 4000000 in
theorem rcode5 {p : Pk} (hk : p.kind = 5) (hn : Nm p) (ht : Hid (restB p = true)) {D : ByteArray} (hD : Hid ((⟨(CrM.sealed (bodyL p)).toArray⟩ : ByteArray) = D)) {w : World} : Calls Tryd.prog 13 #[.agg p.arr] w fun e w' => e = .returned (.string D) ∧ Kept w w' := by
  obtain ⟨a, h1, s1⟩ := num_named p.kind 1
  obtain ⟨b, h2, s2⟩ := num_named p.fr 1
  obtain ⟨c, h3, s3⟩ := num_named p.to 1
  obtain ⟨d, h4, s4⟩ := key_named p.kn p.ki p.ks p.ka
  obtain ⟨H, hH⟩ : ∃ E : ByteArray, Hid ((⟨(headL p).toArray⟩ : ByteArray) = E) := ⟨_, rfl⟩
  have hHs : H.size ≤ 49 := by rw [← hH.out]; exact headL_len p
  obtain ⟨B, hB⟩ : ∃ E : ByteArray, Hid ((⟨(bodyL p).toArray⟩ : ByteArray) = E) := ⟨_, rfl⟩
  have hBs : B.size ≤ 5000 := by rw [← hB.out, size_list]; show (bodyL p).length ≤ 5000; have := headL_len p; have := restL_len p; simp only [bodyL, List.length_append]; omega
  have hBl : B.data.toList = bodyL p := by rw [← hB.out]
  have HS := Lib.hid (show ∀ x, Calls Tryd.prog 14 #[.string B] x fun e x' => e = .returned (.string D) ∧ Kept x x' from fun x => by have := Cr.rseal_any B hBs x; rw [hBl, hD.out] at this; exact this)
  clear hBl
  obtain ⟨W, hW, hA⟩ := boxp w p
  have HW := Lib.hid hW
  have x0 := cell_regrown (show W.cell? ⟨w.heap.size, 0, none⟩ = some (.int .i64 p.kind) from hA.c 0)
  have x1 := cell_regrown (show W.cell? ⟨w.heap.size, 1, none⟩ = some (.int .i64 p.fr) from hA.c 1)
  have x2 := cell_regrown (show W.cell? ⟨w.heap.size, 2, none⟩ = some (.int .i64 p.to) from hA.c 2)
  have x3 := cell_regrown (show W.cell? ⟨w.heap.size, 3, none⟩ = some (.int .i64 p.kn) from hA.c 3)
  have x4 := cell_regrown (show W.cell? ⟨w.heap.size, 4, none⟩ = some (.int .i64 p.ki) from hA.c 4)
  have x5 := cell_regrown (show W.cell? ⟨w.heap.size, 5, none⟩ = some (.int .i64 p.ks) from hA.c 5)
  have x6 := cell_regrown (show W.cell? ⟨w.heap.size, 6, none⟩ = some (.int .i64 p.ka) from hA.c 6)
  have Q1 := quiet_at hA.kept (fun x hx => rnum_any p.kind 1 hn.kind.2 x)
  have Q2 := quiet_at hA.kept (fun x hx => rnum_any p.fr 1 hn.fr.2 x)
  have Q3 := quiet_at hA.kept (fun x hx => rnum_any p.to 1 hn.to.2 x)
  have Q4 := quiet_at hA.kept (fun x hx => rkeycode_as (w := x) hn.kn hn.ki hn.ks hn.ka h4)
  rw [h1.out] at Q1; rw [h2.out] at Q2; rw [h3.out] at Q3
  have HC := Lib.hid (cat4h h1 h2 h3 h4 hH)
  have n1 : ¬ 9223372036854775807 < a.size + b.size := by omega
  have n2 : ¬ 9223372036854775807 < a.size + b.size + c.size := by omega
  have n3 : ¬ 9223372036854775807 < a.size + b.size + c.size + d.size := by omega
  have HA := Lib.hid hA
  have HR := ht
  clear hW hA hD ht
  obtain ⟨f, h5, s5⟩ := num_named (p.delay + 1) 7
  have hb : -1 ≤ p.delay ∧ p.delay ≤ 1125899906842624 := by have := HR.out; rw [rest5 hk] at this; simpa using this
  have hb1 := hb.1
  have hb2 := hb.2
  have HD := Lib.hid (cat1b h5 hH (restL5 hk) hB)
  have HN := Lib.hid (show ∀ x, Calls Tryd.prog 31 #[.int .i64 (p.delay + 1), .int .i64 7] x fun e x' => e = .returned (.string f) ∧ Kept x x' from fun x => by have := rnum_any (p.delay + 1) 7 (by omega) x; rw [h5.out] at this; exact this)
  have HS2 := Lib.hid (show ∀ x, Calls Tryd.prog 14 #[.string (H ++ f)] x fun e x' => e = .returned (.string D) ∧ Kept x x' from fun x => by rw [HD.out]; exact HS.out x)
  have n5 : ¬ 9223372036854775807 < H.size + f.size := by omega
  clear hb
  have HK := Lib.hid hk
  clear hk
  go_enter Tryd.func13, Tryd.ntmps13
  go_wp2_with fail
  rw [HW.out]
  refine wp_region_quiet_below (by kernel_rfl) (by kernel_rfl) ?_
  repeat (go_big_quiet_step (first | (with_reducible exact Q1.out _) | (with_reducible exact Q2.out _) | (with_reducible exact Q3.out _) | (with_reducible exact Q4.out _)))
  refine wpQuiet_nil ?_
  intro _ hw'
  obtain ⟨⟨dq, osq⟩, hw''⟩ := hw'
  subst hw''
  have hU : At w p (grow (redrawn W dq) osq) := HA.out.go (below_regrown W dq osq)
  obtain ⟨u, hu⟩ : ∃ u, grow (redrawn W dq) osq = u := ⟨_, rfl⟩
  rw [hu] at hU ⊢
  rw [HC.out]
  clear hu x0 x1 x2 x3 x4 x5 x6 Q1 Q2 Q3 Q4 n1 n2 n3
  have y0 : u.cell? ⟨w.heap.size, 0, none⟩ = some (.int .i64 5) := by rw [hU.c 0, ← HK.out]; rfl
  have y22 : u.cell? ⟨w.heap.size, 22, none⟩ = some (.int .i64 p.delay) := hU.c 22
  go_wp2_with (first
    | (go_at_call 31; refine (at_as hU (HN.out _)).mono ?_; rintro e u2 ⟨rfl, hU2⟩)
    | (go_at_call 14; refine (HS2.out _).mono ?_; rintro e v ⟨rfl, hv⟩))
  go_ret
  exact ⟨rfl, hU2.kept.trans hv⟩

theorem at_id (w : World) : Kept w w := Kept.refl w

set_option maxRecDepth 100000 in
set_option maxHeartbeats 4000000 in
theorem rcode2 {p : Pk} (hk : p.kind = 2) (hn : Nm p) (ht : Hid (restB p = true)) {D : ByteArray} (hD : Hid ((⟨(CrM.sealed (bodyL p)).toArray⟩ : ByteArray) = D)) {w : World} : Calls Tryd.prog 13 #[.agg p.arr] w fun e w' => e = .returned (.string D) ∧ Kept w w' := by
  obtain ⟨a, h1, s1⟩ := num_named p.kind 1
  obtain ⟨b, h2, s2⟩ := num_named p.fr 1
  obtain ⟨c, h3, s3⟩ := num_named p.to 1
  obtain ⟨d, h4, s4⟩ := key_named p.kn p.ki p.ks p.ka
  obtain ⟨H, hH⟩ : ∃ E : ByteArray, Hid ((⟨(headL p).toArray⟩ : ByteArray) = E) := ⟨_, rfl⟩
  have hHs : H.size ≤ 49 := by rw [← hH.out]; exact headL_len p
  obtain ⟨B, hB⟩ : ∃ E : ByteArray, Hid ((⟨(bodyL p).toArray⟩ : ByteArray) = E) := ⟨_, rfl⟩
  have hBs : B.size ≤ 5000 := by rw [← hB.out, size_list]; show (bodyL p).length ≤ 5000; have := headL_len p; have := restL_len p; simp only [bodyL, List.length_append]; omega
  have hBl : B.data.toList = bodyL p := by rw [← hB.out]
  have HS := Lib.hid (show ∀ x, Calls Tryd.prog 14 #[.string B] x fun e x' => e = .returned (.string D) ∧ Kept x x' from fun x => by have := Cr.rseal_any B hBs x; rw [hBl, hD.out] at this; exact this)
  clear hBl
  obtain ⟨W, hW, hA⟩ := boxp w p
  have HW := Lib.hid hW
  have x0 := cell_regrown (show W.cell? ⟨w.heap.size, 0, none⟩ = some (.int .i64 p.kind) from hA.c 0)
  have x1 := cell_regrown (show W.cell? ⟨w.heap.size, 1, none⟩ = some (.int .i64 p.fr) from hA.c 1)
  have x2 := cell_regrown (show W.cell? ⟨w.heap.size, 2, none⟩ = some (.int .i64 p.to) from hA.c 2)
  have x3 := cell_regrown (show W.cell? ⟨w.heap.size, 3, none⟩ = some (.int .i64 p.kn) from hA.c 3)
  have x4 := cell_regrown (show W.cell? ⟨w.heap.size, 4, none⟩ = some (.int .i64 p.ki) from hA.c 4)
  have x5 := cell_regrown (show W.cell? ⟨w.heap.size, 5, none⟩ = some (.int .i64 p.ks) from hA.c 5)
  have x6 := cell_regrown (show W.cell? ⟨w.heap.size, 6, none⟩ = some (.int .i64 p.ka) from hA.c 6)
  have Q1 := quiet_at hA.kept (fun x hx => rnum_any p.kind 1 hn.kind.2 x)
  have Q2 := quiet_at hA.kept (fun x hx => rnum_any p.fr 1 hn.fr.2 x)
  have Q3 := quiet_at hA.kept (fun x hx => rnum_any p.to 1 hn.to.2 x)
  have Q4 := quiet_at hA.kept (fun x hx => rkeycode_as (w := x) hn.kn hn.ki hn.ks hn.ka h4)
  rw [h1.out] at Q1; rw [h2.out] at Q2; rw [h3.out] at Q3
  have HC := Lib.hid (cat4h h1 h2 h3 h4 hH)
  have n1 : ¬ 9223372036854775807 < a.size + b.size := by omega
  have n2 : ¬ 9223372036854775807 < a.size + b.size + c.size := by omega
  have n3 : ¬ 9223372036854775807 < a.size + b.size + c.size + d.size := by omega
  have HA := Lib.hid hA
  have HR := ht
  clear hW hA hD ht
  obtain ⟨f, h5, s5⟩ := num_named p.code 1
  obtain ⟨g, h6, s6⟩ := num_named p.value 4
  obtain ⟨h, h7, s7⟩ := flag_named p.more
  have HD := Lib.hid (cat3b h5 h6 h7 hH hk hB)
  have n5 : ¬ 9223372036854775807 < H.size + f.size := by omega
  have n6 : ¬ 9223372036854775807 < H.size + f.size + g.size := by omega
  have n7 : ¬ 9223372036854775807 < H.size + f.size + g.size + h.size := by omega
  have HK := Lib.hid hk
  clear hk
  go_enter Tryd.func13, Tryd.ntmps13
  go_wp2_with fail
  rw [HW.out]
  refine wp_region_quiet_below (by kernel_rfl) (by kernel_rfl) ?_
  repeat (go_big_quiet_step (first | (with_reducible exact Q1.out _) | (with_reducible exact Q2.out _) | (with_reducible exact Q3.out _) | (with_reducible exact Q4.out _)))
  refine wpQuiet_nil ?_
  intro _ hw'
  obtain ⟨⟨dq, osq⟩, hw''⟩ := hw'
  subst hw''
  have hU : At w p (grow (redrawn W dq) osq) := HA.out.go (below_regrown W dq osq)
  obtain ⟨u, hu⟩ : ∃ u, grow (redrawn W dq) osq = u := ⟨_, rfl⟩
  rw [hu] at hU ⊢
  rw [HC.out]
  clear hu x0 x1 x2 x3 x4 x5 x6 Q1 Q2 Q3 Q4 n1 n2 n3
  have y0 : u.cell? ⟨w.heap.size, 0, none⟩ = some (.int .i64 2) := by rw [hU.c 0, ← HK.out]; rfl
  have x19 := cell_regrown (show u.cell? ⟨w.heap.size, 19, none⟩ = some (.int .i64 p.code) from hU.c 19)
  have x20 := cell_regrown (show u.cell? ⟨w.heap.size, 20, none⟩ = some (.int .i64 p.value) from hU.c 20)
  have x21 := cell_regrown (show u.cell? ⟨w.heap.size, 21, none⟩ = some (.bool p.more) from hU.c 21)
  have Q1 := quiet_at (Kept.refl u) (fun x hx => rnum_any p.code 1 hn.code.2 x)
  have Q2 := quiet_at (Kept.refl u) (fun x hx => rnum_any p.value 4 hn.value.2 x)
  have Q3 := quiet_at (Kept.refl u) (fun x hx => rflag_any p.more x)
  rw [h5.out] at Q1; rw [h6.out] at Q2; rw [h7.out] at Q3
  go_wp2_with fail
  refine wp_region_quiet_below (by kernel_rfl) (by kernel_rfl) ?_
  repeat (go_big_quiet_step (first | (with_reducible exact Q1.out _) | (with_reducible exact Q2.out _) | (with_reducible exact Q3.out _)))
  refine wpQuiet_nil ?_
  intro _ hw'
  obtain ⟨⟨dq, osq⟩, hw''⟩ := hw'
  subst hw''
  have hV : At w p (grow (redrawn u dq) osq) := hU.go (below_regrown u dq osq)
  obtain ⟨u2, hu⟩ : ∃ x, grow (redrawn u dq) osq = x := ⟨_, rfl⟩
  rw [hu] at hV ⊢
  rw [HD.out]
  have z0 : u2.cell? ⟨w.heap.size, 0, none⟩ = some (.int .i64 2) := (hV.c 0).trans ((hU.c 0).symm.trans y0)
  clear hu x19 x20 x21 Q1 Q2 Q3 n5 n6 n7
  go_wp2_with (go_at_call 14; refine (HS.out _).mono ?_; rintro e v ⟨rfl, hv⟩)
  go_ret
  exact ⟨rfl, hV.kept.trans hv⟩

set_option maxRecDepth 100000 in
set_option maxHeartbeats 4000000 in
theorem rcode1 {p : Pk} (hk : p.kind = 1) (hn : Nm p) (ht : Hid (restB p = true)) {D : ByteArray} (hD : Hid ((⟨(CrM.sealed (bodyL p)).toArray⟩ : ByteArray) = D)) {w : World} : Calls Tryd.prog 13 #[.agg p.arr] w fun e w' => e = .returned (.string D) ∧ Kept w w' := by
  obtain ⟨a, h1, s1⟩ := num_named p.kind 1
  obtain ⟨b, h2, s2⟩ := num_named p.fr 1
  obtain ⟨c, h3, s3⟩ := num_named p.to 1
  obtain ⟨d, h4, s4⟩ := key_named p.kn p.ki p.ks p.ka
  obtain ⟨H, hH⟩ : ∃ E : ByteArray, Hid ((⟨(headL p).toArray⟩ : ByteArray) = E) := ⟨_, rfl⟩
  have hHs : H.size ≤ 49 := by rw [← hH.out]; exact headL_len p
  obtain ⟨B, hB⟩ : ∃ E : ByteArray, Hid ((⟨(bodyL p).toArray⟩ : ByteArray) = E) := ⟨_, rfl⟩
  have hBs : B.size ≤ 5000 := by rw [← hB.out, size_list]; show (bodyL p).length ≤ 5000; have := headL_len p; have := restL_len p; simp only [bodyL, List.length_append]; omega
  have hBl : B.data.toList = bodyL p := by rw [← hB.out]
  have HS := Lib.hid (show ∀ x, Calls Tryd.prog 14 #[.string B] x fun e x' => e = .returned (.string D) ∧ Kept x x' from fun x => by have := Cr.rseal_any B hBs x; rw [hBl, hD.out] at this; exact this)
  clear hBl
  obtain ⟨W, hW, hA⟩ := boxp w p
  have HW := Lib.hid hW
  have x0 := cell_regrown (show W.cell? ⟨w.heap.size, 0, none⟩ = some (.int .i64 p.kind) from hA.c 0)
  have x1 := cell_regrown (show W.cell? ⟨w.heap.size, 1, none⟩ = some (.int .i64 p.fr) from hA.c 1)
  have x2 := cell_regrown (show W.cell? ⟨w.heap.size, 2, none⟩ = some (.int .i64 p.to) from hA.c 2)
  have x3 := cell_regrown (show W.cell? ⟨w.heap.size, 3, none⟩ = some (.int .i64 p.kn) from hA.c 3)
  have x4 := cell_regrown (show W.cell? ⟨w.heap.size, 4, none⟩ = some (.int .i64 p.ki) from hA.c 4)
  have x5 := cell_regrown (show W.cell? ⟨w.heap.size, 5, none⟩ = some (.int .i64 p.ks) from hA.c 5)
  have x6 := cell_regrown (show W.cell? ⟨w.heap.size, 6, none⟩ = some (.int .i64 p.ka) from hA.c 6)
  have Q1 := quiet_at hA.kept (fun x hx => rnum_any p.kind 1 hn.kind.2 x)
  have Q2 := quiet_at hA.kept (fun x hx => rnum_any p.fr 1 hn.fr.2 x)
  have Q3 := quiet_at hA.kept (fun x hx => rnum_any p.to 1 hn.to.2 x)
  have Q4 := quiet_at hA.kept (fun x hx => rkeycode_as (w := x) hn.kn hn.ki hn.ks hn.ka h4)
  rw [h1.out] at Q1; rw [h2.out] at Q2; rw [h3.out] at Q3
  have HC := Lib.hid (cat4h h1 h2 h3 h4 hH)
  have n1 : ¬ 9223372036854775807 < a.size + b.size := by omega
  have n2 : ¬ 9223372036854775807 < a.size + b.size + c.size := by omega
  have n3 : ¬ 9223372036854775807 < a.size + b.size + c.size + d.size := by omega
  have HA := Lib.hid hA
  have HR := ht
  clear hW hA hD ht
  obtain ⟨e1, h5, s5⟩ := num_named p.hop 1
  obtain ⟨e2, h6, s6⟩ := num_named p.stamp 7
  obtain ⟨e3, h7, s7⟩ := text_named p.tm.data.toList
  obtain ⟨e4, h8, s8⟩ := num_named p.til 7
  obtain ⟨e5, h9, s9⟩ := num_named p.prog 1
  obtain ⟨e6, h10, s10⟩ := code_named p.rn p.ri p.rs
  obtain ⟨e7, h11, s11⟩ := key_named p.pn p.pi p.ps p.pa
  have HD := Lib.hid (cat6 h5 h6 h7 h8 h9 h10 h11 hH hk hB)
  obtain ⟨M, hM⟩ : ∃ M, H ++ e1 ++ e2 ++ e3 ++ e4 ++ e5 = M := ⟨_, rfl⟩
  have hMs : M.size ≤ 400 := by rw [← hM]; simp; omega
  have HD2 := Lib.hid (show M ++ e6 ++ e7 = B by rw [← hM]; exact HD.out)
  have HM := Lib.hid hM
  have n5 : ¬ 9223372036854775807 < H.size + e1.size := by omega
  have n6 : ¬ 9223372036854775807 < H.size + e1.size + e2.size := by omega
  have n7 : ¬ 9223372036854775807 < H.size + e1.size + e2.size + e3.size := by omega
  have n8 : ¬ 9223372036854775807 < H.size + e1.size + e2.size + e3.size + e4.size := by omega
  have n9 : ¬ 9223372036854775807 < H.size + e1.size + e2.size + e3.size + e4.size + e5.size := by omega
  have n10 : ¬ 9223372036854775807 < M.size + e6.size := by omega
  have n11 : ¬ 9223372036854775807 < M.size + e6.size + e7.size := by omega
  clear hM
  have HK := Lib.hid hk
  clear hk
  go_enter Tryd.func13, Tryd.ntmps13
  go_wp2_with fail
  rw [HW.out]
  refine wp_region_quiet_below (by kernel_rfl) (by kernel_rfl) ?_
  repeat (go_big_quiet_step (first | (with_reducible exact Q1.out _) | (with_reducible exact Q2.out _) | (with_reducible exact Q3.out _) | (with_reducible exact Q4.out _)))
  refine wpQuiet_nil ?_
  intro _ hw'
  obtain ⟨⟨dq, osq⟩, hw''⟩ := hw'
  subst hw''
  have hU : At w p (grow (redrawn W dq) osq) := HA.out.go (below_regrown W dq osq)
  obtain ⟨u, hu⟩ : ∃ u, grow (redrawn W dq) osq = u := ⟨_, rfl⟩
  rw [hu] at hU ⊢
  rw [HC.out]
  clear hu x0 x1 x2 x3 x4 x5 x6 Q1 Q2 Q3 Q4 n1 n2 n3
  have y0 : u.cell? ⟨w.heap.size, 0, none⟩ = some (.int .i64 1) := by rw [hU.c 0, ← HK.out]; rfl
  have x7 := cell_regrown (show u.cell? ⟨w.heap.size, 7, none⟩ = some (.int .i64 p.hop) from hU.c 7)
  have x8 := cell_regrown (show u.cell? ⟨w.heap.size, 8, none⟩ = some (.int .i64 p.stamp) from hU.c 8)
  have x9 := cell_regrown (show u.cell? ⟨w.heap.size, 9, none⟩ = some (.string p.tm) from hU.c 9)
  have x10 := cell_regrown (show u.cell? ⟨w.heap.size, 10, none⟩ = some (.int .i64 p.til) from hU.c 10)
  have x11 := cell_regrown (show u.cell? ⟨w.heap.size, 11, none⟩ = some (.int .i64 p.prog) from hU.c 11)
  have Q1 := quiet_at (Kept.refl u) (fun x hx => rnum_any p.hop 1 hn.hop.2 x)
  have Q2 := quiet_at (Kept.refl u) (fun x hx => rnum_any p.stamp 7 hn.stamp.2 x)
  have Q3 := quiet_at (Kept.refl u) (fun x hx => rtext_any p.tm x)
  have Q4 := quiet_at (Kept.refl u) (fun x hx => rnum_any p.til 7 hn.til.2 x)
  have Q5 := quiet_at (Kept.refl u) (fun x hx => rnum_any p.prog 1 hn.prog.2 x)
  rw [h5.out] at Q1; rw [h6.out] at Q2; rw [h7.out] at Q3; rw [h8.out] at Q4; rw [h9.out] at Q5
  go_wp2_with fail
  refine wp_region_quiet_below (by kernel_rfl) (by kernel_rfl) ?_
  repeat (go_big_quiet_step (first | (with_reducible exact Q1.out _) | (with_reducible exact Q2.out _) | (with_reducible exact Q3.out _) | (with_reducible exact Q4.out _) | (with_reducible exact Q5.out _)))
  refine wpQuiet_nil ?_
  intro _ hw'
  obtain ⟨⟨dq, osq⟩, hw''⟩ := hw'
  subst hw''
  have hV : At w p (grow (redrawn u dq) osq) := hU.go (below_regrown u dq osq)
  obtain ⟨u2, hu⟩ : ∃ x, grow (redrawn u dq) osq = x := ⟨_, rfl⟩
  rw [hu] at hV ⊢
  rw [HM.out]
  have z0 : u2.cell? ⟨w.heap.size, 0, none⟩ = some (.int .i64 1) := (hV.c 0).trans ((hU.c 0).symm.trans y0)
  clear hu x7 x8 x9 x10 x11 Q1 Q2 Q3 Q4 Q5 n5 n6 n7 n8 n9 y0 hU
  have x12 := cell_regrown (show u2.cell? ⟨w.heap.size, 12, none⟩ = some (.int .i64 p.rn) from hV.c 12)
  have x13 := cell_regrown (show u2.cell? ⟨w.heap.size, 13, none⟩ = some (.int .i64 p.ri) from hV.c 13)
  have x14 := cell_regrown (show u2.cell? ⟨w.heap.size, 14, none⟩ = some (.int .i64 p.rs) from hV.c 14)
  have x15 := cell_regrown (show u2.cell? ⟨w.heap.size, 15, none⟩ = some (.int .i64 p.pn) from hV.c 15)
  have x16 := cell_regrown (show u2.cell? ⟨w.heap.size, 16, none⟩ = some (.int .i64 p.pi) from hV.c 16)
  have x17 := cell_regrown (show u2.cell? ⟨w.heap.size, 17, none⟩ = some (.int .i64 p.ps) from hV.c 17)
  have x18 := cell_regrown (show u2.cell? ⟨w.heap.size, 18, none⟩ = some (.int .i64 p.pa) from hV.c 18)
  have Q1 := quiet_at (Kept.refl u2) (fun x hx => rcode_as (w := x) hn.rn hn.ri hn.rs h10)
  have Q2 := quiet_at (Kept.refl u2) (fun x hx => rkeycode_as (w := x) hn.pn hn.pi hn.ps hn.pa h11)
  go_wp2_with fail
  refine wp_region_quiet_below (by kernel_rfl) (by kernel_rfl) ?_
  repeat (go_big_quiet_step (first | (with_reducible exact Q1.out _) | (with_reducible exact Q2.out _)))
  refine wpQuiet_nil ?_
  intro _ hw'
  obtain ⟨⟨dq, osq⟩, hw''⟩ := hw'
  subst hw''
  have hX : At w p (grow (redrawn u2 dq) osq) := hV.go (below_regrown u2 dq osq)
  obtain ⟨u3, hu⟩ : ∃ x, grow (redrawn u2 dq) osq = x := ⟨_, rfl⟩
  rw [hu] at hX ⊢
  rw [HD2.out]
  have t0 : u3.cell? ⟨w.heap.size, 0, none⟩ = some (.int .i64 1) := (hX.c 0).trans ((hV.c 0).symm.trans z0)
  clear hu x12 x13 x14 x15 x16 x17 x18 Q1 Q2 n10 n11
  go_wp2_with (go_at_call 14; refine (HS.out _).mono ?_; rintro e v ⟨rfl, hv⟩)
  go_ret
  exact ⟨rfl, hX.kept.trans hv⟩

theorem rcode_pk {p : Pk} (hn : Nm p) (ht : Hid (restB p = true)) {D : ByteArray} (hD : Hid ((⟨(CrM.sealed (bodyL p)).toArray⟩ : ByteArray) = D)) {w : World} : Calls Tryd.prog 13 #[.agg p.arr] w fun e w' => e = .returned (.string D) ∧ Kept w w' := by
  rcases kinds p.kind with hk | hk | hk | hk | hk | hk
  · exact rcode1 hk hn ht hD
  · exact rcode2 hk hn ht hD
  · exact rcode3 hk hn ht hD
  · exact rcode4 hk hn ht hD
  · exact rcode5 hk hn ht hD
  · have := ht.out; rw [rest0 hk] at this; cases this

end Go.Proofs.YtpgfaklnbehmhaaDoor.Pk
