/- The document's alarms: Due; New. -/
import Derived.Test.YtckmkagijanbdaaAr2
import Derived.Deep.RegionHeld3
namespace Go.Proofs.Ytckmkagijanbdaa.Al
open Go.RowKit Go.Sort Tk Wh IdM
open St (Kept blk_cell blk_free blk_lt blk_set)
set_option linter.unusedVariables false

theorem due_take {g to : Int} {A : List (Nm × Int)} {j : Nat} {e : Nm × Int} (he : A[j]? = some e) : dueA g to (A.take (j + 1)) = dueA g to (A.take j) ++ (if up e.2 g ≤ to then [e] else []) := by
  unfold dueA
  rw [List.take_add_one, he, List.filter_append]
  congr 1
  by_cases c : up e.2 g ≤ to <;> simp [c]
theorem rest_take {g to : Int} {A : List (Nm × Int)} {j : Nat} {e : Nm × Int} (he : A[j]? = some e) : restA g to (A.take (j + 1)) = restA g to (A.take j) ++ (if up e.2 g ≤ to then [] else [e]) := by
  unfold restA
  rw [List.take_add_one, he, List.filter_append]
  congr 1
  by_cases c : up e.2 g ≤ to
  · have : ¬ to < up e.2 g := by omega
    simp [c, this]
  · have : to < up e.2 g := by omega
    simp [c, this]

theorem Rent.glueF {w w2 w3 : World} {S : Nat → Prop} {R : Nat} {g now : Int} {A : List (Nm × Int)} (h : Rent w2 S R g now A w3) (f : Fr S w w2) : Rent w S R g now A w3 := by
  obtain ⟨S3, v3, h1, h2, h3⟩ := h
  have z2 := f.size
  exact ⟨S3, v3, h1, fun k c => (h2 k c).imp id (fun c => by omega), f.trans h3 (fun k c => Or.inl c)⟩

/-- what Due does -/
def rdues (w : World) (S : Nat → Prop) (R : Nat) (g to : Int) (A : List (Nm × Int)) : Ending → World → Prop := fun e w' =>
  ∃ v, e = .returned v ∧ RowI w' v 33 5 (((dueA g to A).map Prod.fst).map Nm.ints) ∧ Rent w S R g to (restA g to A) w'

theorem rdue_end {w W0 wr : World} {S : Nat → Prop} {R : Nat} {g to : Int} {A : List (Nm × Int)} {vL vo vl : Value} (HR : RIs W0 S R g to A vL) (HF : Fr S w W0) (hro : Rg W0 vo 33 5 (((dueA g to A).map Prod.fst).map Nm.ints) wr) (hrl : Rg W0 vl 45 6 ((restA g to A).map e6) wr) :
    rdues w S R g to A (.returned vo) (wr.setCell ⟨R, 0, none⟩ vl) :=
  ⟨vo, rfl, hro.1.kept fun b e => Below.heap_setCell _ _ _ _ (fun c => by have h1 := hro.2.2 b e; have h2 := HR.ltR; have c : b = R := c; omega),
    (HR.put (Kept.refl _) hrl (HR.ord.filter _) (fun x c hm => HR.ok x c (mem_rest.1 hm).1) (Nat.le_trans (List.length_filter_le _ _) HR.len)).glueF HF⟩

section
variable {w w' : World} {S : Nat → Prop} {R : Nat} {g now to : Int} {A : List (Nm × Int)} {vL : Value} {t : Int}
set_option maxHeartbeats 3200000 in
set_option maxRecDepth 100000 in
theorem rdue_any (h : RIs w S R g now A vL) (t : Int) (hto : max now (clamp t) = to) :
    Calls Try.prog 28 #[.pointer (some ⟨R, 0, none⟩), .int .i64 t] w (rdues w S R g to A) := by
  obtain ⟨cc, hcc⟩ : ∃ c, clamp t = c := ⟨_, rfl⟩
  have TC : ∀ w, Calls Try.prog 18 #[.int .i64 t] w fun e w' => e = .returned (.int .i64 cc) ∧ w = w' := fun w => by have := rclamp_any t w; rw [hcc] at this; exact this
  have TC := Lib.hid TC
  have cc0 := clamp_lo t
  have cc1 := clamp_hi t
  rw [hcc] at cc0 cc1 hto
  have nw := h.nw
  have gr := h.gr
  have hlenL := h.lenL
  have hAl := h.len
  have c2 := h.c2
  have f2 := h.free 2
  have HI := Lib.hid h
  clear h hcc
  by_cases hgt : now < cc
  case' pos =>
    obtain rfl : to = cc := by omega
    clear hto
    have hd : decide (now < to) = true := by simp [hgt]
    have hW : ∀ m, RIs ((w.drewN m).setCell ⟨R, 2, none⟩ (.int .i64 to)) S R g to A vL := fun m => (HI.out.kept ((Kept.refl w).drewN m)).setN cc0 cc1
    have hF : ∀ m, Fr S w ((w.drewN m).setCell ⟨R, 2, none⟩ (.int .i64 to)) := fun m => ((Fr.refl S w).drewN m).setCell (Or.inl HI.out.sR) _
    have HWF := Lib.hid (And.intro hW hF)
    clear hW hF
    go_enter Try.func28, Try.ntmps28
    go_wp2_with fail
    go_quiet ((first | (go_at_call 18; exact Calls.quiet_of_same ((TC.out _).mono fun _ _ h => ⟨h.1, h.2.symm⟩))))
    go_wp2_with (go_at_call 18; refine (TC.out _).mono ?_; rintro e w' ⟨rfl, rfl⟩)
    have HR0 := HWF.out.1 nq
    have HF0 := HWF.out.2 nq
    obtain ⟨W0, hW0⟩ : ∃ u, (w.drewN nq).setCell ⟨R, 2, none⟩ (.int .i64 to) = u := ⟨_, rfl⟩
  case' neg =>
    obtain rfl : to = now := by omega
    clear hto
    have hd : decide (to < cc) = false := by simp; omega
    go_enter Try.func28, Try.ntmps28
    go_wp2_with fail
    go_quiet ((first | (go_at_call 18; exact Calls.quiet_of_same ((TC.out _).mono fun _ _ h => ⟨h.1, h.2.symm⟩))))
    go_wp2_with fail
    have HR0 := HI.out.kept ((Kept.refl w).drewN nq)
    have HF0 : Fr S w (w.drewN nq) := (Fr.refl S w).drewN nq
    obtain ⟨W0, hW0⟩ : ∃ u, w.drewN nq = u := ⟨_, rfl⟩
  all_goals
    rw [hW0] at HR0 HF0 ⊢
    have hto0 := HR0.nw
    have PC : ∀ c w, Calls Try.prog 19 #[.int .i64 to, .int .i64 c, .int .i64 g] w fun e w' => e = .returned (.bool (decide (up c g ≤ to))) ∧ w = w' := fun c w => by
      have := rpast_any to c g w; unfold past at this; rw [clamp_id to hto0.1 hto0.2] at this; exact this
    have PC := Lib.hid PC
    have HR := Lib.hid HR0
    have HF := Lib.hid HF0
    clear hW0 HR0 HF0 c2 f2 HI TC hto0
    go_loopw [7, 5, 6] (fun iv vo vl wr => ∃ j : Nat, j ≤ A.length ∧ iv = .int .i64 (j : Int) ∧ Rg W0 vo 33 5 (((dueA g to (A.take j)).map Prod.fst).map Nm.ints) wr ∧ Rg W0 vl 45 6 ((restA g to (A.take j)).map e6) wr) (fun iv _ _ _ => A.length - (intOf iv).toNat)
    case atStart => exact ⟨0, Nat.zero_le _, rfl, rg_nil _ _ _ (Kept.refl _), rg_nil _ _ _ (Kept.refl _)⟩
    case round =>
      obtain ⟨j, hj, rfl, hro, hrl⟩ := hrel
      have hk := hrl.2.1
      have H1 := HR.out.kept hk
      have c0 := H1.c0
      have c1 := H1.c1
      have c2 := H1.c2
      by_cases hlt : j < A.length
      · obtain ⟨⟨y, c⟩, hy⟩ : ∃ e, A[j]? = some e := ⟨_, List.getElem?_eq_getElem hlt⟩
        have hdt := due_take (g := g) (to := to) hy
        have hrt := rest_take (g := g) (to := to) hy
        obtain ⟨yn, yi, ys, ya, yk⟩ := y
        obtain ⟨b, cap, hv, hcap, hbl, p0, p1, p2, p3, p4, p5⟩ := H1.at hy
        have hcap2 : (A.length : Int) ≤ (cap : Int) := by omega
        have hj0 : (0 : Int) ≤ (j : Int) := by omega
        have hjl : (j : Int) < (A.length : Int) := by omega
        have hdo : (((dueA g to (A.take j)).map Prod.fst).map Nm.ints).length ≤ 900000 := by
          rw [List.length_map, List.length_map]
          have := List.length_filter_le (fun e : Nm × Int => decide (up e.2 g ≤ to)) (A.take j)
          have h2 : (A.take j).length ≤ A.length := by rw [List.length_take]; omega
          unfold dueA; omega
        have hdl : ((restA g to (A.take j)).map e6).length ≤ 900000 := by
          rw [List.length_map]
          have := List.length_filter_le (fun e : Nm × Int => decide (to < up e.2 g)) (A.take j)
          have h2 : (A.take j).length ≤ A.length := by rw [List.length_take]; omega
          unfold restA; omega
        have RO := Lib.hid (fun m => hro.keep ((Kept.refl _).drewN m))
        have RL := Lib.hid (fun m => hrl.keep ((Kept.refl _).drewN m))
        have hlenL2 : ∀ ty u, (Builtin.len_ #[37] ty #[.slice (some ⟨b, 0, none⟩) A.length cap]).run Try.prog u = .ok (.int .i64 (A.length : Int)) u := fun ty u => by have := hlenL ty u; rw [hv] at this; exact this
        rw [hv] at c0
        clear H1 hbl hcap hk hro hrl hy hv
        by_cases hdue : up c g ≤ to
        · rw [if_pos hdue] at hdt hrt
          rw [List.append_nil] at hrt
          have HD := Lib.hid (And.intro hdt hrt)
          have PC2 : ∀ w, Calls Try.prog 19 #[.int .i64 to, .int .i64 c, .int .i64 g] w fun e w' => e = .returned (.bool true) ∧ w = w' := fun w => by have := PC.out c w; rw [decide_eq_true hdue] at this; exact this
          have PC2 := Lib.hid PC2
          clear hdue hdt hrt
          go_wp2_with fail
          go_quiet ((first | (go_at_call 19; exact Calls.quiet_of_same ((PC2.out _).mono fun _ _ h => ⟨h.1, h.2.symm⟩))))
          go_wp2_with (at_builtin; refine wpList_append_onei rowR _ rfl (.tmp 46) (.tmp 55) rfl _ _ [yn, yi, ys, ya, yk] rfl rfl (RO.out _).1 rfl hdo ?_; intro v3 w4 hr3 hg3 hb3)
          have HO := Lib.hid ((RO.out _).app hr3 hg3 hb3)
          have HL := Lib.hid ((RL.out _).other (RO.out _) (by decide) hg3)
          clear hr3 hg3 hb3
          go_roundw
          case rel => exact ⟨j + 1, hlt, by go_num, by rw [HD.out.1, List.map_append, List.map_append]; exact HO.out, by rw [HD.out.2]; exact HL.out⟩
          case measure => simp [intOf]; omega
        · rw [if_neg hdue] at hdt hrt
          rw [List.append_nil] at hdt
          have HD := Lib.hid (And.intro hdt hrt)
          have PC2 : ∀ w, Calls Try.prog 19 #[.int .i64 to, .int .i64 c, .int .i64 g] w fun e w' => e = .returned (.bool false) ∧ w = w' := fun w => by have := PC.out c w; rw [decide_eq_false hdue] at this; exact this
          have PC2 := Lib.hid PC2
          clear hdue hdt hrt
          go_wp2_with fail
          go_quiet ((first | (go_at_call 19; exact Calls.quiet_of_same ((PC2.out _).mono fun _ _ h => ⟨h.1, h.2.symm⟩))))
          go_wp2_with (at_builtin; refine wpList_append_onei rowA _ rfl (.tmp 57) (.tmp 65) rfl _ _ [yn, yi, ys, ya, yk, c] rfl rfl (RL.out _).1 rfl hdl ?_; intro v3 w4 hr3 hg3 hb3)
          have HL := Lib.hid ((RL.out _).app hr3 hg3 hb3)
          have HO := Lib.hid ((RO.out _).other (RL.out _) (by decide) hg3)
          clear hr3 hg3 hb3
          go_roundw
          case rel => exact ⟨j + 1, hlt, by go_num, by rw [HD.out.1]; exact HO.out, by rw [HD.out.2, List.map_append]; exact HL.out⟩
          case measure => simp [intOf]; omega
      · have hje : j = A.length := by omega
        subst hje
        rw [List.take_length] at hro hrl
        have d1 := H1.free 0
        obtain ⟨p9, m9, c9, rfl⟩ := hrl.1.shape
        have FIN := Lib.hid (rdue_end HR.out HF.out hro hrl)
        clear hlt H1 hro hrl hk
        go_wp2_with fail
        go_ret
        exact FIN.out
end

end Go.Proofs.Ytckmkagijanbdaa.Al
