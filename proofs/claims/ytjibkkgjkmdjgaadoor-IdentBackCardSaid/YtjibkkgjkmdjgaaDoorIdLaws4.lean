/- The law of layer 7: identities and keys are as the document says. -/
import Derived.Test.YtjibkkgjkmdjgaaDoorIdLaws
namespace Go.Proofs.YtjibkkgjkmdjgaaDoor.Id
open Go.RowKit Go.Sort St IdM BsM Bs It At Rw
set_option linter.unusedVariables false

theorem keytext_named (n i s k : Int) (hn : I64 n) (hi : I64 i) (hs : I64 s) (hk : I64 k) : ∃ E : ByteArray, Hid (E.data.toList = keyTextL n i s k) := ⟨⟨(keyTextL n i s k).toArray⟩, rfl⟩

set_option maxRecDepth 100000 in
set_option maxHeartbeats 8000000 in
theorem tells_any (n i s a n' i' s' a' : Int) (w : World) (h : Env w) (hn : I64 n) (hi : I64 i) (hs : I64 s) (ha : I64 a) :
    Calls Tryd.prog 3 #[.agg #[.int .i64 n, .int .i64 i, .int .i64 s, .int .i64 a], .agg #[.int .i64 n', .int .i64 i', .int .i64 s', .int .i64 a']] w
      fun e w' => e = .returned (.bool true) ∧ Below w.heap.size w w' := by
  obtain ⟨W, hW, hK, hE8⟩ := eight_new w n i s a n' i' s' a'
  have HW := Lib.hid hW
  have H8 := Lib.hid hE8
  obtain ⟨e0, e1, e2, e3, e4, e5, e6, e7⟩ := hE8
  have x0 := cell_regrown e0
  have x1 := cell_regrown e1
  have x2 := cell_regrown e2
  have x3 := cell_regrown e3
  have x4 := cell_regrown e4
  have x5 := cell_regrown e5
  have x6 := cell_regrown e6
  have x7 := cell_regrown e7
  clear e0 e1 e2 e3 e4 e5 e6 e7 hW
  obtain ⟨zr, hr⟩ : ∃ z, Hid (rightB n i s = z) := ⟨_, rfl⟩
  obtain ⟨zk, hk⟩ : ∃ z, Hid (keyB n i s a = z) := ⟨_, rfl⟩
  obtain ⟨zc, hc⟩ : ∃ z, Hid (compareI n i s n' i' s' = z) := ⟨_, rfl⟩
  obtain ⟨zz, hz⟩ : ∃ z, Hid (keysI n i s a n' i' s' a' = z) := ⟨_, rfl⟩
  obtain ⟨D, hD, hDs⟩ := text_named n i s hn hi hs
  obtain ⟨E, hEk⟩ := keytext_named n i s a hn hi hs ha
  obtain ⟨C, hC⟩ : ∃ C : ByteArray, Hid ((⟨(codeL n i s).toArray⟩ : ByteArray) = C) := ⟨_, rfl⟩
  obtain ⟨G, hG⟩ : ∃ C : ByteArray, Hid ((⟨(keyCodeL n i s a).toArray⟩ : ByteArray) = C) := ⟨_, rfl⟩
  have q1 := quiet_at (W := W) hK (fun x hx => right_as (w := x) hr)
  have q2 := quiet_at (W := W) hK (fun x hx => rright_as (w := x) hr)
  have q3 := quiet_at (W := W) hK (fun x hx => key_as (w := x) hk)
  have q4 := quiet_at (W := W) hK (fun x hx => rkey_as (w := x) hk)
  have q5 := quiet_at (W := W) hK (fun x hx => text_as (w := x) hn hi hs hD (h.tab.kept hx))
  have q6 := quiet_at (W := W) hK (fun x hx => rtext_as (w := x) hn hi hs hD)
  have q7 := quiet_at (W := W) hK (fun x hx => keytext_as (w := x) hn hi hs ha hEk (h.tab.kept hx))
  have q8 := quiet_at (W := W) hK (fun x hx => rkeytext_as (w := x) hn hi hs ha hEk)
  have HB := Lib.hid (And.intro hn (And.intro hi (And.intro hs (And.intro ha h))))
  clear hn hi hs ha h
  cases zk
  all_goals
    go_enter Tryd.func3, Tryd.ntmps3
    go_wp2_with fail
    rw [HW.out]
    refine wp_region_quiet_below (by kernel_rfl) (by kernel_rfl) ?_
    repeat (go_big_quiet_step (first | (with_reducible exact q1.out _) | (with_reducible exact q2.out _) | (with_reducible exact q3.out _) | (with_reducible exact q4.out _) | (with_reducible exact q5.out _) | (with_reducible exact q6.out _) | (with_reducible exact q7.out _) | (with_reducible exact q8.out _)))
    refine wpQuiet_nil ?_
    intro _ hw'
    obtain ⟨⟨dq, osq⟩, hw''⟩ := hw'
    subst hw''
    clear x0 x1 x2 x3 x4 x5 x6 x7 q1 q2 q3 q4 q5 q6 q7 q8
    go_wp2_with fail
    obtain ⟨V, hV⟩ : ∃ V, grow (redrawn W dq) osq = V := ⟨_, rfl⟩
    have hk0 := below_regrown W dq osq
    rw [hV] at hk0 ⊢
    have hKV : Kept w V := hK.trans hk0
    obtain ⟨e0, e1, e2, e3, e4, e5, e6, e7⟩ := H8.out.kept hk0
    have x0 := cell_regrown e0
    have x1 := cell_regrown e1
    have x2 := cell_regrown e2
    have x3 := cell_regrown e3
    have x4 := cell_regrown e4
    have x5 := cell_regrown e5
    have x6 := cell_regrown e6
    have x7 := cell_regrown e7
    obtain ⟨hn, hi, hs, ha, h⟩ := HB.out
    have p1 := quiet_at (W := V) hKV (fun x hx => compare_as (w := x) hc)
    have p2 := quiet_at (W := V) hKV (fun x hx => rcompare_as (w := x) hc)
    have p3 := quiet_at (W := V) hKV (fun x hx => keys_as (w := x) hz)
    have p4 := quiet_at (W := V) hKV (fun x hx => rkeys_as (w := x) hz)
    have p5 := quiet_at (W := V) hKV (fun x hx => keycode_as (w := x) hG)
    have p6 := quiet_at (W := V) hKV (fun x hx => rkeycode_as (w := x) hn hi hs ha hG)
    have p7 := quiet_at (W := V) hKV (fun x hx => code_as (w := x) hC)
    have p8 := quiet_at (W := V) hKV (fun x hx => rcode_as (w := x) hn hi hs hC)
    have p9 := quiet_at (W := V) hKV (fun x hx => awake_any x (h.kept hx))
    have p10 := quiet_at (W := V) hKV (fun x hx => rkey_as (w := x) hk)
    clear e0 e1 e2 e3 e4 e5 e6 e7 hV hk0 hn hi hs ha h
    refine wp_region_quiet_below (by kernel_rfl) (by kernel_rfl) ?_
    repeat (go_big_quiet_step (first | (with_reducible exact p1.out _) | (with_reducible exact p2.out _) | (with_reducible exact p3.out _) | (with_reducible exact p4.out _) | (with_reducible exact p5.out _) | (with_reducible exact p6.out _) | (with_reducible exact p7.out _) | (with_reducible exact p8.out _) | (with_reducible exact p9.out _) | (with_reducible exact p10.out _)))
    refine wpQuiet_nil ?_
    intro _ hw'
    obtain ⟨⟨dr, osr⟩, hw''⟩ := hw'
    subst hw''
    go_wp2_with fail
    go_ret
    exact ⟨rfl, hKV.trans (below_regrown V dr osr)⟩

end Go.Proofs.YtjibkkgjkmdjgaaDoor.Id
