/- Package ident: identities and keys as text; and the document's. -/
import Derived.Test.YtckjdncacinnkaaDoorId
import Derived.Test.YtckjdncacinnkaaDoorIdMath
import Derived.Test.YtckjdncacinnkaaDoorIt
import Derived.Test.YtckjdncacinnkaaDoorDg
import Derived.Test.YtckjdncacinnkaaDoorBx
namespace Go.Proofs.YtckjdncacinnkaaDoor.Id
open Go.RowKit Go.Sort St IdM It
set_option linter.unusedVariables false

theorem itoa_named (n : Int) (h : I64 n) : ∃ E : ByteArray, Hid (E.data.toList = Lib.itoa n) ∧ E.size ≤ 21 :=
  ⟨⟨(Lib.itoa n).toArray⟩, rfl, by rw [size_list]; exact Lib.itoa_length_le n h.1 h.2⟩
theorem cat5 {a b c D : ByteArray} {n i s : Int} (h1 : Hid (a.data.toList = Lib.itoa n)) (h2 : Hid (b.data.toList = Lib.itoa i)) (h3 : Hid (c.data.toList = Lib.itoa s)) (hD : Hid (D.data.toList = textL n i s)) :
    a ++ { data := #[46] } ++ b ++ { data := #[46] } ++ c = D := by
  rw [str_of D _ hD.out, str_of (a ++ { data := #[46] } ++ b ++ { data := #[46] } ++ c) (textL n i s) (by simp [h1.out, h2.out, h3.out, textL])]
theorem cat3 {a b D : ByteArray} {n i s k : Int} (h1 : Hid (a.data.toList = textL n i s)) (h2 : Hid (b.data.toList = Lib.itoa k)) (hD : Hid (D.data.toList = keyTextL n i s k)) :
    a ++ { data := #[47] } ++ b = D := by
  rw [str_of D _ hD.out, str_of (a ++ { data := #[47] } ++ b) (keyTextL n i s k) (by simp [h1.out, h2.out, keyTextL])]

set_option maxRecDepth 100000 in
set_option maxHeartbeats 800000 in
theorem text_as {n i s : Int} {D : ByteArray} (hn : I64 n) (hi : I64 i) (hs : I64 s) (hD : Hid (D.data.toList = textL n i s)) {w : World} (ht : Tab w) :
    Calls Tryd.prog 41 #[.agg #[.int .i64 n, .int .i64 i, .int .i64 s]] w fun e w' => e = .returned (.string D) ∧ Kept w w' := by
  obtain ⟨a, h1, s1⟩ := itoa_named n hn
  obtain ⟨b, h2, s2⟩ := itoa_named i hi
  obtain ⟨c, h3, s3⟩ := itoa_named s hs
  obtain ⟨W, hW, hK, hx⟩ := boxed1 w #[.int .i64 n, .int .i64 i, .int .i64 s] 24
  have x0 := cell_regrown (hx 0)
  have x1 := cell_regrown (hx 1)
  have x2 := cell_regrown (hx 2)
  clear hx
  have Q1 := quiet_at hK (fun x hx => itoa_any n hn.1 hn.2 a h1 x (ht.kept hx))
  have Q2 := quiet_at hK (fun x hx => itoa_any i hi.1 hi.2 b h2 x (ht.kept hx))
  have Q3 := quiet_at hK (fun x hx => itoa_any s hs.1 hs.2 c h3 x (ht.kept hx))
  have HW := Lib.hid hW
  clear hW
  have HC := Lib.hid (cat5 h1 h2 h3 hD)
  have n1 : ¬ 9223372036854775807 < a.size + 1 := by omega
  have n2 : ¬ 9223372036854775807 < a.size + 1 + b.size := by omega
  have n3 : ¬ 9223372036854775807 < a.size + 1 + b.size + 1 := by omega
  have n4 : ¬ 9223372036854775807 < a.size + 1 + b.size + 1 + c.size := by omega
  clear hn hi hs hD
  go_enter Tryd.func41, Tryd.ntmps41
  go_wp2_with fail
  rw [HW.out]
  refine wp_region_quiet_below (by kernel_rfl) (by kernel_rfl) ?_
  repeat (go_big_quiet_step (first | (with_reducible exact Q1.out _) | (with_reducible exact Q2.out _) | (with_reducible exact Q3.out _)))
  refine wpQuiet_nil ?_
  intro _ hw'
  obtain ⟨⟨dq, osq⟩, hw''⟩ := hw'
  subst hw''
  go_wp2_with fail
  go_ret
  exact ⟨ret_str (congrArg (fun x : ByteArray => x.data.toList) HC.out), hK.trans (below_regrown _ dq osq)⟩

set_option maxRecDepth 100000 in
set_option maxHeartbeats 800000 in
theorem rtext_as {n i s : Int} {D : ByteArray} (hn : I64 n) (hi : I64 i) (hs : I64 s) (hD : Hid (D.data.toList = textL n i s)) {w : World} :
    Calls Tryd.prog 38 #[.agg #[.int .i64 n, .int .i64 i, .int .i64 s]] w fun e w' => e = .returned (.string D) ∧ Kept w w' := by
  obtain ⟨a, h1, s1⟩ := itoa_named n hn
  obtain ⟨b, h2, s2⟩ := itoa_named i hi
  obtain ⟨c, h3, s3⟩ := itoa_named s hs
  obtain ⟨W, hW, hK, hx⟩ := boxed1 w #[.int .i64 n, .int .i64 i, .int .i64 s] 24
  have x0 := cell_regrown (hx 0)
  have x1 := cell_regrown (hx 1)
  have x2 := cell_regrown (hx 2)
  clear hx
  have Q1 := quiet_at hK (fun x hx => Dg.digits_int n hn.1 hn.2 a h1 x)
  have Q2 := quiet_at hK (fun x hx => Dg.digits_int i hi.1 hi.2 b h2 x)
  have Q3 := quiet_at hK (fun x hx => Dg.digits_int s hs.1 hs.2 c h3 x)
  have HW := Lib.hid hW
  clear hW
  have HC := Lib.hid (cat5 h1 h2 h3 hD)
  have n1 : ¬ 9223372036854775807 < a.size + 1 := by omega
  have n2 : ¬ 9223372036854775807 < a.size + 1 + b.size := by omega
  have n3 : ¬ 9223372036854775807 < a.size + 1 + b.size + 1 := by omega
  have n4 : ¬ 9223372036854775807 < a.size + 1 + b.size + 1 + c.size := by omega
  clear hn hi hs hD
  go_enter Tryd.func38, Tryd.ntmps38
  go_wp2_with fail
  rw [HW.out]
  refine wp_region_quiet_below (by kernel_rfl) (by kernel_rfl) ?_
  repeat (go_big_quiet_step (first | (with_reducible exact Q1.out _) | (with_reducible exact Q2.out _) | (with_reducible exact Q3.out _)))
  refine wpQuiet_nil ?_
  intro _ hw'
  obtain ⟨⟨dq, osq⟩, hw''⟩ := hw'
  subst hw''
  go_wp2_with fail
  go_ret
  exact ⟨ret_str (congrArg (fun x : ByteArray => x.data.toList) HC.out), hK.trans (below_regrown _ dq osq)⟩

theorem text_named (n i s : Int) (hn : I64 n) (hi : I64 i) (hs : I64 s) : ∃ E : ByteArray, Hid (E.data.toList = textL n i s) ∧ E.size ≤ 65 := by
  refine ⟨⟨(textL n i s).toArray⟩, rfl, ?_⟩
  have h1 := Lib.itoa_length_le n hn.1 hn.2
  have h2 := Lib.itoa_length_le i hi.1 hi.2
  have h3 := Lib.itoa_length_le s hs.1 hs.2
  rw [size_list]
  show (textL n i s).length ≤ 65
  simp [textL]; omega

set_option maxRecDepth 100000 in
set_option maxHeartbeats 800000 in
theorem keytext_as {n i s k : Int} {D : ByteArray} (hn : I64 n) (hi : I64 i) (hs : I64 s) (hk : I64 k) (hD : Hid (D.data.toList = keyTextL n i s k)) {w : World} (ht : Tab w) :
    Calls Tryd.prog 40 #[.agg #[.int .i64 n, .int .i64 i, .int .i64 s, .int .i64 k]] w fun e w' => e = .returned (.string D) ∧ Kept w w' := by
  obtain ⟨a, h1, s1⟩ := text_named n i s hn hi hs
  obtain ⟨b, h2, s2⟩ := itoa_named k hk
  obtain ⟨W, hW, hK, hx⟩ := boxed1 w #[.int .i64 n, .int .i64 i, .int .i64 s, .int .i64 k] 26
  have x0 := cell_regrown (hx 0)
  have x1 := cell_regrown (hx 1)
  have x2 := cell_regrown (hx 2)
  have x3 := cell_regrown (hx 3)
  clear hx
  have Q1 := quiet_at hK (fun x hx => text_as hn hi hs h1 (ht.kept hx))
  have Q2 := quiet_at hK (fun x hx => itoa_any k hk.1 hk.2 b h2 x (ht.kept hx))
  have HW := Lib.hid hW
  clear hW
  have HC := Lib.hid (cat3 h1 h2 hD)
  have n1 : ¬ 9223372036854775807 < a.size + 1 := by omega
  have n2 : ¬ 9223372036854775807 < a.size + 1 + b.size := by omega
  clear hn hi hs hD hk
  go_enter Tryd.func40, Tryd.ntmps40
  go_wp2_with fail
  rw [HW.out]
  refine wp_region_quiet_below (by kernel_rfl) (by kernel_rfl) ?_
  repeat (go_big_quiet_step (first | (with_reducible exact Q1.out _) | (with_reducible exact Q2.out _)))
  refine wpQuiet_nil ?_
  intro _ hw'
  obtain ⟨⟨dq, osq⟩, hw''⟩ := hw'
  subst hw''
  go_wp2_with fail
  go_ret
  exact ⟨ret_str (congrArg (fun x : ByteArray => x.data.toList) HC.out), hK.trans (below_regrown _ dq osq)⟩

set_option maxRecDepth 100000 in
set_option maxHeartbeats 800000 in
theorem rkeytext_as {n i s k : Int} {D : ByteArray} (hn : I64 n) (hi : I64 i) (hs : I64 s) (hk : I64 k) (hD : Hid (D.data.toList = keyTextL n i s k)) {w : World} :
    Calls Tryd.prog 37 #[.agg #[.int .i64 n, .int .i64 i, .int .i64 s, .int .i64 k]] w fun e w' => e = .returned (.string D) ∧ Kept w w' := by
  obtain ⟨a, h1, s1⟩ := text_named n i s hn hi hs
  obtain ⟨b, h2, s2⟩ := itoa_named k hk
  obtain ⟨W, hW, hK, hx⟩ := boxed1 w #[.int .i64 n, .int .i64 i, .int .i64 s, .int .i64 k] 26
  have x0 := cell_regrown (hx 0)
  have x1 := cell_regrown (hx 1)
  have x2 := cell_regrown (hx 2)
  have x3 := cell_regrown (hx 3)
  clear hx
  have Q1 := quiet_at hK (fun x hx => rtext_as (w := x) hn hi hs h1)
  have Q2 := quiet_at hK (fun x hx => Dg.digits_int k hk.1 hk.2 b h2 x)
  have HW := Lib.hid hW
  clear hW
  have HC := Lib.hid (cat3 h1 h2 hD)
  have n1 : ¬ 9223372036854775807 < a.size + 1 := by omega
  have n2 : ¬ 9223372036854775807 < a.size + 1 + b.size := by omega
  clear hn hi hs hD hk
  go_enter Tryd.func37, Tryd.ntmps37
  go_wp2_with fail
  rw [HW.out]
  refine wp_region_quiet_below (by kernel_rfl) (by kernel_rfl) ?_
  repeat (go_big_quiet_step (first | (with_reducible exact Q1.out _) | (with_reducible exact Q2.out _)))
  refine wpQuiet_nil ?_
  intro _ hw'
  obtain ⟨⟨dq, osq⟩, hw''⟩ := hw'
  subst hw''
  go_wp2_with fail
  go_ret
  exact ⟨ret_str (congrArg (fun x : ByteArray => x.data.toList) HC.out), hK.trans (below_regrown _ dq osq)⟩

end Go.Proofs.YtckjdncacinnkaaDoor.Id
