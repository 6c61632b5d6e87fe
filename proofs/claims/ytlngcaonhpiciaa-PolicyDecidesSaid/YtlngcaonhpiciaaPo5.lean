/- The law of layer 20: with less time, fewer tokens, or one attempt more, none is tried again that was not. -/
import Derived.Test.YtlngcaonhpiciaaPo3
namespace Go.Proofs.Ytlngcaonhpiciaa.Po
open Go.RowKit Go.Sort St Ad
open Go.Proofs.Ytlngcaonhpiciaa.Id (quiet_at boxed1)
set_option linter.unusedVariables false

/-- when it is tried again -/
theorem dec_zero (c : Cf) (f : Ft) : (dec c f).1 = 0 ↔ (f.code == 14 || f.code == 8) = true ∧ f.com = false ∧ f.att < c.attempts ∧ f.push ≠ -1 ∧ Th.may f.have_ c.tokens = true ∧ Bu.enough f.due (ready c f) c.least = true := by
  constructor
  · intro h
    rcases Bool.eq_false_or_eq_true (f.code == 14 || f.code == 8) with h1 | h1
    rotate_left
    · rw [dec_bad h1] at h; exact absurd h (by decide)
    rcases Bool.eq_false_or_eq_true f.com with h2 | h2
    · rw [dec_taken h1 h2] at h; exact absurd h (by decide)
    by_cases h3 : c.attempts ≤ f.att
    · rw [dec_spent h1 h2 h3] at h; exact absurd h (by decide)
    by_cases h4 : f.push = -1
    · rw [dec_push h1 h2 h3 h4] at h; exact absurd h (by decide)
    rcases Bool.eq_false_or_eq_true (Th.may f.have_ c.tokens) with h5 | h5
    rotate_left
    · rw [dec_thr h1 h2 h3 h4 h5] at h; exact absurd h (by decide)
    rcases Bool.eq_false_or_eq_true (Bu.enough f.due (ready c f) c.least) with h6 | h6
    rotate_left
    · rw [dec_late h1 h2 h3 h4 h5 h6] at h; exact absurd h (by decide)
    exact ⟨h1, h2, by omega, h4, h5, h6⟩
  · rintro ⟨h1, h2, h3, h4, h5, h6⟩
    rw [dec_again h1 h2 (by omega) h4 h5 h6]
theorem may_mono {h k t : Int} (hk : h ≤ k) (hm : Th.may h t = true) : Th.may k t = true := by
  unfold Th.may at *
  have h2 := of_decide_eq_true hm
  refine decide_eq_true ?_
  unfold Th.held at *
  have := Th.full_lo t
  omega
theorem enough_mono {d e z l : Int} (he : d ≤ e) (h : Bu.enough d z l = true) : Bu.enough e z l = true := by
  unfold Bu.enough at *
  have h2 := of_decide_eq_true h
  have h3 := Tk.sub_mono z he
  exact decide_eq_true (by omega)
/-- less time, fewer tokens -/
def lessF (f : Ft) (d h : Int) : Ft := { f with due := d, have_ := h }
def moreF (f : Ft) : Ft := { f with att := f.att + 1 }
theorem less_again {c : Cf} {f : Ft} {d h : Int} (hp : 0 ≤ f.push) (hd : d ≤ f.due) (hh : h ≤ f.have_) (hz : (dec c (lessF f d h)).1 = 0) : (dec c f).1 = 0 := by
  rw [dec_zero] at hz ⊢
  obtain ⟨h1, h2, h3, h4, h5, h6⟩ := hz
  rw [wait_push (show 0 ≤ (lessF f d h).push from hp)] at h6
  refine ⟨h1, h2, h3, h4, may_mono hh h5, ?_⟩
  rw [wait_push hp]
  exact enough_mono hd h6
theorem more_again {c : Cf} {f : Ft} (hp : 0 ≤ f.push) (hz : (dec c (moreF f)).1 = 0) : (dec c f).1 = 0 := by
  rw [dec_zero] at hz ⊢
  obtain ⟨h1, h2, h3, h4, h5, h6⟩ := hz
  rw [wait_push (show 0 ≤ (moreF f).push from hp)] at h6
  refine ⟨h1, h2, ?_, h4, h5, ?_⟩
  · have : f.att + 1 < c.attempts := h3
    omega
  · rw [wait_push hp]; exact h6

theorem all_ft (f : Ft) : f.arr.all (·.oneCell') = true := by kernel_rfl
/-- where the law stands: a configuration, facts, and a copy of them -/
structure Mo (w W : World) (c : Cf) (f : Ft) (G : Nat) (g : Ft) : Prop where
  at_ : In w W 26 c f
  gt : w.heap.size + 1 < G
  bg : W.heap[G]? = some (.cells g.arr 26 (0, 0))
section
variable {w W W' : World} {c : Cf} {f g : Ft} {G : Nat}
theorem Mo.go (h : Mo w W c f G g) (k : Kept W W') : Mo w W' c f G g := ⟨h.at_.go k, h.gt, kept_blk k h.bg⟩
theorem Mo.atg (h : Mo w W c f G g) (k : Nat) : W.cell? ⟨G, k, none⟩ = g.arr[k]? := blk_cell h.bg k
theorem Mo.free (h : Mo w W c f G g) (k : Nat) : W.frozen? ⟨G, k, none⟩ = false := blk_free h.bg k
theorem In.copy (h : In w W 26 c f) : Mo w (W.alloc (.cells f.arr 26)) c f W.heap.size f := by
  refine ⟨h.go (Kept.one _ _), ?_, blk_new _ _⟩
  exact blk_lt h.bf
theorem In.set (h : In w W 26 c f) {a : Addr} (ha : w.heap.size + 1 < a.block) (v : Value) : In w (W.setCell a v) 26 c f := by
  refine ⟨Below.setCell h.kept (by omega) _, ?_, ?_⟩
  · rw [Below.heap_setCell _ _ _ _ (by omega)]; exact h.bc
  · rw [Below.heap_setCell _ _ _ _ (by omega)]; exact h.bf
theorem In.row (h : In w W 26 c f) {G : Nat} (hG : w.heap.size + 1 < G) (cs : Array Value) : In w (W.setRow G cs) 26 c f :=
  ⟨kept_row h.kept (by omega) cs, by rw [setRow_other _ _ _ _ (by omega)]; exact h.bc, by rw [setRow_other _ _ _ _ (by omega)]; exact h.bf⟩
theorem Mo.less (h : Mo w W c f G f) (d t : Int) : Mo w ((W.setCell ⟨G, 6, none⟩ (.int .i64 d)).setCell ⟨G, 4, none⟩ (.int .i64 t)) c f G (lessF f d t) :=
  ⟨(h.at_.set h.gt _).set h.gt _, h.gt, blk_set (blk_set h.bg 6 _) 4 _⟩
theorem Mo.back (h : Mo w W c f G g) : Mo w (W.setRow G f.arr) c f G f :=
  ⟨h.at_.row h.gt _, h.gt, setRow_heap _ _ _ _ _ _ h.bg⟩
theorem Mo.more (h : Mo w W c f G f) : Mo w (W.setCell ⟨G, 1, none⟩ (.int .i64 (f.att + 1))) c f G (moreF f) :=
  ⟨h.at_.set h.gt _, h.gt, blk_set h.bg 1 _⟩
end

set_option maxRecDepth 100000 in
set_option maxHeartbeats 4000000 in
theorem less_any (c : Cf) (f : Ft) (d t : Int) (hl : f.Lim) (w : World) : Calls Try.prog 5 #[.agg c.arr, .agg f.arr, .int .i64 d, .int .i64 t] w fun e w' => e = .returned (.bool true) ∧ Kept w w' := by
  have hf := hl.2.1.2
  obtain ⟨W, hW, hI⟩ := In.new w 26 c f
  have HW := Lib.hid hW
  have HI := Lib.hid hI
  have HK := Lib.hid hI.kept
  have x3 : W.cell? ⟨w.heap.size + 1, 3, none⟩ = some (.int .i64 f.push) := hI.atf 3
  have x4 : W.cell? ⟨w.heap.size + 1, 4, none⟩ = some (.int .i64 f.have_) := hI.atf 4
  have x6 : W.cell? ⟨w.heap.size + 1, 6, none⟩ = some (.int .i64 f.due) := hI.atf 6
  clear hW
  by_cases hp : f.push < 0
  · clear hl hf hI
    go_enter Try.func5, Try.ntmps5
    go_upto_region 1 with fail
    rw [HW.out]
    go_wp2_with (go_at_call 14; refine (awake_any _).mono ?_; rintro e u3 ⟨rfl, hk3⟩)
    go_ret
    exact ⟨rfl, HK.out.trans hk3⟩
  by_cases hd : f.due < d
  · clear hl hf hI
    go_enter Try.func5, Try.ntmps5
    go_upto_region 1 with fail
    rw [HW.out]
    go_wp2_with (go_at_call 14; refine (awake_any _).mono ?_; rintro e u3 ⟨rfl, hk3⟩)
    go_ret
    exact ⟨rfl, HK.out.trans hk3⟩
  by_cases ht : f.have_ < t
  · clear hl hf hI
    go_enter Try.func5, Try.ntmps5
    go_upto_region 1 with fail
    rw [HW.out]
    go_wp2_with (go_at_call 14; refine (awake_any _).mono ?_; rintro e u3 ⟨rfl, hk3⟩)
    go_ret
    exact ⟨rfl, HK.out.trans hk3⟩
  have q0 : ∀ g u, Calls Try.prog 8 #[.agg (Ft.arr g)] u fun e w' => e = .returned (.agg g.arr) ∧ Kept u w' := fun g u => mine_any g u
  have hal := @less_again c f d t (by omega) (by omega) (by omega)
  have ham := @more_again c f (by omega)
  have q1 : ∀ u, Calls Try.prog 7 #[.agg c.arr, .agg f.arr] u fun e w' => e = .returned (.tuple #[.int .i64 (dec c f).1, .int .i64 (dec c f).2]) ∧ Kept u w' := fun u => dec_any c f hf u
  have q2 : ∀ u, Calls Try.prog 7 #[.agg c.arr, .agg (lessF f d t).arr] u fun e w' => e = .returned (.tuple #[.int .i64 (dec c (lessF f d t)).1, .int .i64 (dec c (lessF f d t)).2]) ∧ Kept u w' := fun u => dec_any c (lessF f d t) hf u
  have q3 : ∀ u, f.att < 1000000 → Calls Try.prog 7 #[.agg c.arr, .agg (moreF f).arr] u fun e w' => e = .returned (.tuple #[.int .i64 (dec c (moreF f)).1, .int .i64 (dec c (moreF f)).2]) ∧ Kept u w' := fun u h => dec_any c (moreF f) (by show f.att + 1 ≤ _; omega) u
  obtain ⟨a, ha⟩ : ∃ a, (dec c f).1 = a := ⟨_, rfl⟩
  obtain ⟨a2, ha2⟩ : ∃ a, (dec c f).2 = a := ⟨_, rfl⟩
  obtain ⟨l, hl1⟩ : ∃ a, (dec c (lessF f d t)).1 = a := ⟨_, rfl⟩
  obtain ⟨l2, hl2⟩ : ∃ a, (dec c (lessF f d t)).2 = a := ⟨_, rfl⟩
  obtain ⟨m, hm1⟩ : ∃ a, (dec c (moreF f)).1 = a := ⟨_, rfl⟩
  obtain ⟨m2, hm2⟩ : ∃ a, (dec c (moreF f)).2 = a := ⟨_, rfl⟩
  rw [ha, ha2] at q1
  rw [hl1, hl2] at q2
  rw [hm1, hm2] at q3
  rw [hl1, ha] at hal
  rw [hm1, ha] at ham
  have lc := loadc_regrown hI.bc
  have lf := loadf_regrown hI.bf
  have Q0 := quiet_at (Kept.refl W) (fun x hx => q0 f x)
  have Q1 := quiet_at (Kept.refl W) (fun x hx => q1 x)
  clear hl hf hI ha ha2 hl1 hl2 hm1 hm2 q1
  go_enter Try.func5, Try.ntmps5
  go_upto_region 1 with fail
  rw [HW.out]
  go_upto_region 3 with fail
  refine wp_region_quiet_below (by kernel_rfl) (by kernel_rfl) ?_
  repeat (first
    | (go_big_quiet_want; refine quiet_row 24 (.tmp 4) rfl w.heap.size rfl c.arr lc.out ?_; simp only [Act.put, List.setIfInBounds_toArray, List.set_cons_succ, List.set_cons_zero]; go_big_quiet_on)
    | (go_big_quiet_want; refine quiet_row 26 (.tmp 5) rfl (w.heap.size + 1) rfl f.arr lf.out ?_; simp only [Act.put, List.setIfInBounds_toArray, List.set_cons_succ, List.set_cons_zero]; go_big_quiet_on)
    | go_big_quiet_step (first | (with_reducible exact Q0.out _) | (with_reducible exact Q1.out _)))
  refine wpQuiet_nil ?_
  intro _ hw'
  obtain ⟨⟨dq, osq⟩, hw''⟩ := hw'
  subst hw''
  have hJ := HI.out.go (below_regrown W dq osq)
  obtain ⟨V, hV⟩ : ∃ V, grow (redrawn W dq) osq = V := ⟨_, rfl⟩
  rw [hV] at hJ ⊢
  clear hV lc lf Q0 Q1 x3 x4 x6
  have HM := Lib.hid hJ.copy
  go_upto_region 5 with (first
    | (refine load_w 26 (.tmp 5) rfl (w.heap.size + 1) rfl rfl f.arr 8 hJ.bf Try.underlying26 rfl info_rft ?_)
    | (refine store_new rfl 26 (.tmp 11) (.tmp 39) rfl V.heap.size f.arr rfl rfl V _ rfl 8 info_rft rfl rfl (all_ft f) ?_))
  obtain ⟨X, hX⟩ : ∃ X, V.alloc (.cells f.arr 26) = X := ⟨_, rfl⟩
  have HM2 := Lib.hid (show Mo w X c f V.heap.size f from hX ▸ HM.out)
  rw [hX]
  obtain ⟨G, hG⟩ : ∃ G, V.heap.size = G := ⟨_, rfl⟩
  rw [hG] at HM2 ⊢
  clear hX hG HM hJ
  have g4 : X.cell? ⟨G, 4, none⟩ = some (.int .i64 f.have_) := HM2.out.atg 4
  have g6 : X.cell? ⟨G, 6, none⟩ = some (.int .i64 f.due) := HM2.out.atg 6
  have k4 := HM2.out.free 4
  have k6 := HM2.out.free 6
  go_upto_region 6 with fail
  have hM3 := HM2.out.less d t
  obtain ⟨Y, hY⟩ : ∃ Y, (X.setCell ⟨G, 6, none⟩ (.int .i64 d)).setCell ⟨G, 4, none⟩ (.int .i64 t) = Y := ⟨_, rfl⟩
  rw [hY] at hM3 ⊢
  clear hY HM2 g4 g6 k4 k6
  have lc := loadc_regrown hM3.at_.bc
  have lf := loadf_regrown hM3.bg
  have Q0 := quiet_at (Kept.refl Y) (fun x hx => q0 (lessF f d t) x)
  have Q1 := quiet_at (Kept.refl Y) (fun x hx => q2 x)
  have HM3 := Lib.hid hM3
  clear hM3 q2
  refine wp_region_quiet_below (by kernel_rfl) (by kernel_rfl) ?_
  repeat (first
    | (go_big_quiet_want; refine quiet_row 24 (.tmp 4) rfl w.heap.size rfl c.arr lc.out ?_; simp only [Act.put, List.setIfInBounds_toArray, List.set_cons_succ, List.set_cons_zero]; go_big_quiet_on)
    | (go_big_quiet_want; refine quiet_row 26 (.tmp 11) rfl G rfl (lessF f d t).arr lf.out ?_; simp only [Act.put, List.setIfInBounds_toArray, List.set_cons_succ, List.set_cons_zero]; go_big_quiet_on)
    | go_big_quiet_step (first | (with_reducible exact Q0.out _) | (with_reducible exact Q1.out _)))
  refine wpQuiet_nil ?_
  intro _ hw'
  obtain ⟨⟨dq2, osq2⟩, hw''⟩ := hw'
  subst hw''
  have hM4 := HM3.out.go (below_regrown Y dq2 osq2)
  obtain ⟨V2, hV⟩ : ∃ V, grow (redrawn Y dq2) osq2 = V := ⟨_, rfl⟩
  rw [hV] at hM4 ⊢
  clear hV lc lf Q0 Q1 HM3
  have x1 : V2.cell? ⟨w.heap.size + 1, 1, none⟩ = some (.int .i64 f.att) := hM4.at_.atf 1
  have HM4 := Lib.hid hM4
  have hw : (a = 0 ∧ ((l != 0) = true ∨ (l != 0) = false)) ∨ ((a == 0) = false ∧ (l != 0) = true ∧ (m == 0) = false) := by
    by_cases h : a = 0
    · exact .inl ⟨h, Bool.eq_false_or_eq_true _⟩
    · refine .inr ⟨by simpa using h, ?_, ?_⟩
      · simpa using fun e => h (hal e)
      · simpa using fun e => h (ham e)
  clear hal ham
  by_cases hr : f.att < 1000000 ∧ -1000000 < f.att
  rotate_left
  · have HM7 := Lib.hid hM4.at_.kept
    clear hM4 HM4 q3 q0
    have hr3 : f.att < 1000000 → ¬ -1000000 < f.att := fun h1 h2 => hr ⟨h1, h2⟩
    clear hr
    by_cases h1 : f.att < 1000000
    · have h2 := hr3 h1
      clear hr3
      rcases hw with ⟨ha, hb | hb⟩ | ⟨ha, hb, hc⟩
      · subst ha
        go_wp2_with (go_at_call 14; refine (awake_any _).mono ?_; rintro e u3 ⟨rfl, hk3⟩)
        go_ret
        exact ⟨rfl, HM7.out.trans hk3⟩
      · subst ha
        go_wp2_with (go_at_call 14; refine (awake_any _).mono ?_; rintro e u3 ⟨rfl, hk3⟩)
        go_ret
        exact ⟨rfl, HM7.out.trans hk3⟩
      · go_wp2_with (go_at_call 14; refine (awake_any _).mono ?_; rintro e u3 ⟨rfl, hk3⟩)
        go_ret
        exact ⟨rfl, HM7.out.trans hk3⟩
    · clear hr3
      rcases hw with ⟨ha, hb | hb⟩ | ⟨ha, hb, hc⟩
      · subst ha
        go_wp2_with (go_at_call 14; refine (awake_any _).mono ?_; rintro e u3 ⟨rfl, hk3⟩)
        go_ret
        exact ⟨rfl, HM7.out.trans hk3⟩
      · subst ha
        go_wp2_with (go_at_call 14; refine (awake_any _).mono ?_; rintro e u3 ⟨rfl, hk3⟩)
        go_ret
        exact ⟨rfl, HM7.out.trans hk3⟩
      · go_wp2_with (go_at_call 14; refine (awake_any _).mono ?_; rintro e u3 ⟨rfl, hk3⟩)
        go_ret
        exact ⟨rfl, HM7.out.trans hk3⟩
  obtain ⟨hr1, hr2⟩ := hr
  have q4 := fun u => q3 u hr1
  clear q3
  go_upto_region 9 with (first
    | (refine load_w 26 (.tmp 5) rfl (w.heap.size + 1) rfl rfl f.arr 8 hM4.at_.bf Try.underlying26 rfl info_rft ?_)
    | (refine wpList_store_row rfl 26 (.tmp 11) (.tmp 59) rfl G f.arr rfl rfl 26 (lessF f d t).arr hM4.bg info_rft rfl (all_ft f) ?_))
  have hM5 := HM4.out.back
  obtain ⟨Z, hZ⟩ : ∃ Z, V2.setRow G f.arr = Z := ⟨_, rfl⟩
  rw [hZ] at hM5 ⊢
  clear hZ hM4 HM4 x1
  have x1 : Z.cell? ⟨w.heap.size + 1, 1, none⟩ = some (.int .i64 f.att) := hM5.at_.atf 1
  have g1 : Z.cell? ⟨G, 1, none⟩ = some (.int .i64 f.att) := hM5.atg 1
  have k1 := hM5.free 1
  have HM5 := Lib.hid hM5
  clear hM5
  go_upto_region 10 with fail
  have hM6 := HM5.out.more
  obtain ⟨Y2, hY⟩ : ∃ Y, Z.setCell ⟨G, 1, none⟩ (.int .i64 (f.att + 1)) = Y := ⟨_, rfl⟩
  rw [hY] at hM6 ⊢
  clear hY HM5 x1 g1 k1
  have lc := loadc_regrown hM6.at_.bc
  have lf := loadf_regrown hM6.bg
  have Q0 := quiet_at (Kept.refl Y2) (fun x hx => q0 (moreF f) x)
  have Q1 := quiet_at (Kept.refl Y2) (fun x hx => q4 x)
  have HM6 := Lib.hid hM6.at_
  clear hM6 q4 q0
  refine wp_region_quiet_below (by kernel_rfl) (by kernel_rfl) ?_
  repeat (first
    | (go_big_quiet_want; refine quiet_row 24 (.tmp 4) rfl w.heap.size rfl c.arr lc.out ?_; simp only [Act.put, List.setIfInBounds_toArray, List.set_cons_succ, List.set_cons_zero]; go_big_quiet_on)
    | (go_big_quiet_want; refine quiet_row 26 (.tmp 11) rfl G rfl (moreF f).arr lf.out ?_; simp only [Act.put, List.setIfInBounds_toArray, List.set_cons_succ, List.set_cons_zero]; go_big_quiet_on)
    | go_big_quiet_step (first | (with_reducible exact Q0.out _) | (with_reducible exact Q1.out _)))
  refine wpQuiet_nil ?_
  intro _ hw'
  obtain ⟨⟨dq3, osq3⟩, hw''⟩ := hw'
  subst hw''
  have HM7 := Lib.hid (HM6.out.go (below_regrown Y2 dq3 osq3)).kept
  obtain ⟨V3, hV⟩ : ∃ V, grow (redrawn Y2 dq3) osq3 = V := ⟨_, rfl⟩
  rw [hV] at HM7 ⊢
  clear hV lc lf Q0 Q1 HM6
  rcases hw with ⟨ha, hb | hb⟩ | ⟨ha, hb, hc⟩
  · subst ha
    obtain ⟨b, hb2⟩ : ∃ b, (m == 0) = b := ⟨_, rfl⟩
    cases b
    all_goals (
      go_wp2_with (go_at_call 14; refine (awake_any _).mono ?_; rintro e u3 ⟨rfl, hk3⟩)
      go_ret
      exact ⟨rfl, HM7.out.trans hk3⟩)
  · subst ha
    obtain ⟨b, hb2⟩ : ∃ b, (m == 0) = b := ⟨_, rfl⟩
    cases b
    all_goals (
      go_wp2_with (go_at_call 14; refine (awake_any _).mono ?_; rintro e u3 ⟨rfl, hk3⟩)
      go_ret
      exact ⟨rfl, HM7.out.trans hk3⟩)
  · go_wp2_with (go_at_call 14; refine (awake_any _).mono ?_; rintro e u3 ⟨rfl, hk3⟩)
    go_ret
    exact ⟨rfl, HM7.out.trans hk3⟩

end Go.Proofs.Ytlngcaonhpiciaa.Po
