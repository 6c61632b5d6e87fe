/- The document's alarms: Set. -/
import Derived.Test.YtckmkagijanbdaaAr2
import Derived.Deep.RegionHeld3
namespace Go.Proofs.Ytckmkagijanbdaa.Al
open Go.RowKit Go.Sort Tk Wh IdM
open St (Kept blk_cell blk_free blk_lt blk_set)
set_option linter.unusedVariables false

/-- how far Set's loop has come: what is laid; whether the new one is laid -/
def Sj (B : List (Nm × Int)) (x : Nm) (c : Int) (j : Nat) (laid : Bool) (L : List (Nm × Int)) : Prop :=
  (laid = false ∧ L = B.take j ∧ ∀ e ∈ B.take j, ltN e.1 x) ∨ (laid = true ∧ L = put x c (B.take j) ∧ ∃ e ∈ B.take j, ltN x e.1)
section
variable {B L : List (Nm × Int)} {x : Nm} {c : Int} {j : Nat} {e : Nm × Int} {laid : Bool}
theorem sj_start (B : List (Nm × Int)) (x : Nm) (c : Int) : Sj B x c 0 false [] := Or.inl ⟨rfl, by simp, fun e h => by simp at h⟩
theorem put_all {B : List (Nm × Int)} (h : ∀ e ∈ B, ltN e.1 x) : put x c B = B ++ [(x, c)] := by
  unfold put
  rw [List.filter_eq_self.2 (fun e he => by simpa using h e he), List.filter_eq_nil_iff.2 (fun e he => by simpa using (fun k => lex_as (lt_lex.1 (h e he)) (lt_lex.1 k)))]
theorem put_snoc {B : List (Nm × Int)} (h : ltN x e.1) : put x c (B ++ [e]) = put x c B ++ [e] := by
  unfold put
  have h1 : ¬ ltN e.1 x := fun k => lex_as (lt_lex.1 h) (lt_lex.1 k)
  rw [List.filter_append, List.filter_append]
  simp [h, h1]
theorem Sj.lay (h : Sj B x c j false L) (he : B[j]? = some e) (hx : ltN x e.1) : Sj B x c (j + 1) true (L ++ [(x, c)] ++ [e]) := by
  rcases h with ⟨_, rfl, h2⟩ | ⟨h0, _⟩
  · refine Or.inr ⟨rfl, ?_, e, by rw [List.take_add_one, he]; simp, hx⟩
    rw [List.take_add_one, he, Option.toList_some, put_snoc hx, put_all h2]
  · cases h0
theorem Sj.skip (h : Sj B x c j false L) (he : B[j]? = some e) (hx : ltN e.1 x) : Sj B x c (j + 1) false (L ++ [e]) := by
  rcases h with ⟨_, rfl, h2⟩ | ⟨h0, _⟩
  · refine Or.inl ⟨rfl, by rw [List.take_add_one, he]; rfl, fun f hf => ?_⟩
    rw [List.take_add_one, he] at hf
    rcases List.mem_append.1 hf with hf | hf
    · exact h2 f hf
    · simp at hf; subst hf; exact hx
  · cases h0
theorem Sj.more (h : Sj B x c j true L) (ho : B.Pairwise ltA) (he : B[j]? = some e) : Sj B x c (j + 1) true (L ++ [e]) := by
  rcases h with ⟨h0, _⟩ | ⟨_, rfl, f, hf, hx⟩
  · cases h0
  · have hfe : ltN f.1 e.1 := by
      have h1 : (B.take (j + 1)).Pairwise ltA := ho.sublist (List.take_sublist _ _)
      rw [List.take_add_one, he, List.pairwise_append] at h1
      exact h1.2.2 f hf e (by simp)
    have hxe := ltN_tr hx hfe
    refine Or.inr ⟨rfl, ?_, e, by rw [List.take_add_one, he]; simp, hxe⟩
    rw [List.take_add_one, he, Option.toList_some, put_snoc hxe]
theorem Sj.len (h : Sj B x c j laid L) : L.length ≤ B.length + 1 := by
  rcases h with ⟨_, rfl, _⟩ | ⟨_, rfl, _⟩
  · rw [List.length_take]; omega
  · unfold put
    rw [List.length_append, List.length_cons]
    have h1 := List.length_filter_le (fun e : Nm × Int => decide (ltN e.1 x)) (B.take j)
    have hn : (B.take j).length ≤ B.length := by rw [List.length_take]; omega
    have h2 : ∀ M : List (Nm × Int), (M.filter fun e => decide (ltN e.1 x)).length + (M.filter fun e => decide (ltN x e.1)).length ≤ M.length := by
      intro M
      induction M with
      | nil => simp
      | cons e M ih =>
        rw [List.filter_cons, List.filter_cons]
        by_cases a : ltN e.1 x
        · have b : ¬ ltN x e.1 := fun k => lex_as (lt_lex.1 a) (lt_lex.1 k)
          simp [a, b]; omega
        · by_cases b : ltN x e.1
          · simp [a, b]; omega
          · simp [a, b]; omega
    have := h2 (B.take j)
    omega
theorem Sj.end0 (h : Sj B x c B.length false L) : L ++ [(x, c)] = put x c B := by
  rcases h with ⟨_, rfl, h2⟩ | ⟨h0, _⟩
  · rw [List.take_length] at *; rw [put_all h2]
  · cases h0
theorem Sj.end1 (h : Sj B x c B.length true L) : L = put x c B := by
  rcases h with ⟨h0, _⟩ | ⟨_, rfl, _⟩
  · cases h0
  · rw [List.take_length]
end

theorem Rent.glue {w w1 w2 w3 : World} {S S2 : Nat → Prop} {R : Nat} {g now : Int} {A : List (Nm × Int)} (h : Rent w2 S2 R g now A w3) (hk : Kept w w1) (s2 : ∀ k, S2 k → S k ∨ w1.heap.size ≤ k) (f2 : Fr S w1 w2) : Rent w S R g now A w3 := by
  obtain ⟨S3, v3, h1, h2, h3⟩ := h
  have z1 := hk.size
  have z2 := f2.size
  have hs : ∀ k, S2 k → S k ∨ w.heap.size ≤ k := fun k c => (s2 k c).imp id (fun c => by omega)
  exact ⟨S3, v3, h1, fun k c => (h2 k c).elim (hs k) (fun c => Or.inr (by omega)), ((Fr.kept (S := S) hk).trans f2 (fun i c => Or.inl c)).trans h3 hs⟩

section
variable {w w' : World} {S : Nat → Prop} {R : Nat} {g now : Int} {A : List (Nm × Int)} {vL : Value} {n i s a k t : Int}
set_option maxHeartbeats 3200000 in
set_option maxRecDepth 100000 in
theorem rset_any (h : RIs w S R g now A vL) (hx : okN ⟨n, i, s, a, k⟩) (hroom : A.length < 4096) :
    Calls Try.prog 25 #[.pointer (some ⟨R, 0, none⟩), .agg #[.int .i64 n, .int .i64 i, .int .i64 s, .int .i64 a, .int .i64 k], .int .i64 t] w fun e w' =>
      e = .returned (.int .i64 0) ∧ Rent w S R g now (put ⟨n, i, s, a, k⟩ (clamp t) A) w' := by
  have FIN0 := Lib.hid (put_drop h.ord (⟨n, i, s, a, k⟩ : Nm) (clamp t))
  obtain ⟨W, hW⟩ : ∃ W, w.alloc (.cells #[.int .i64 n, .int .i64 i, .int .i64 s, .int .i64 a, .int .i64 k] 33) = W := ⟨_, rfl⟩
  have k0 : Kept w W := by rw [← hW]; exact Kept.one _ _
  have b0 : W.heap[w.heap.size]? = some (.cells #[.int .i64 n, .int .i64 i, .int .i64 s, .int .i64 a, .int .i64 k] 33 (0, 0)) := by rw [← hW]; exact St.blk_new _ _
  have HI := Lib.hid h
  have CT := Lib.hid (rtime_any (h.kept k0) (n := n) (i := i) (s := s) (a := a) (k := k))
  have hlenL := h.lenL
  have HW := Lib.hid hW
  have HB := Lib.hid b0
  have HK := Lib.hid k0
  have HX := Lib.hid hx
  have hAl : (A.length : Int) < 4096 := by omega
  have hdA : decide ((4096 : Int) ≤ (A.length : Int)) = false := by simp; omega
  have x0 : W.cell? ⟨w.heap.size, 0, none⟩ = some (.int .i64 n) := by rw [blk_cell b0]; rfl
  have x1 : W.cell? ⟨w.heap.size, 1, none⟩ = some (.int .i64 i) := by rw [blk_cell b0]; rfl
  have x2 : W.cell? ⟨w.heap.size, 2, none⟩ = some (.int .i64 s) := by rw [blk_cell b0]; rfl
  have x3 : W.cell? ⟨w.heap.size, 3, none⟩ = some (.int .i64 a) := by rw [blk_cell b0]; rfl
  have x4 : W.cell? ⟨w.heap.size, 4, none⟩ = some (.int .i64 k) := by rw [blk_cell b0]; rfl
  have hns : ¬ S w.heap.size := fun c => by have := h.lt _ c; omega
  have HNS := Lib.hid hns
  obtain ⟨tv, htv⟩ : ∃ t, timA ⟨n, i, s, a, k⟩ A = t := ⟨_, rfl⟩
  rw [htv] at CT
  obtain ⟨t0, ht0⟩ : ∃ t, tv.getD 0 = t := ⟨_, rfl⟩
  obtain ⟨ts, hts⟩ : ∃ t, tv.isSome = t := ⟨_, rfl⟩
  rw [ht0, hts] at CT
  obtain ⟨cc, hcc⟩ : ∃ c, clamp t = c := ⟨_, rfl⟩
  have TC : ∀ w, Calls Try.prog 18 #[.int .i64 t] w fun e w' => e = .returned (.int .i64 cc) ∧ w = w' := fun w => by have := rclamp_any t w; rw [hcc] at this; exact this
  have TC := Lib.hid TC
  have cc0 := clamp_lo t
  have cc1 := clamp_hi t
  rw [hcc] at cc0 cc1 FIN0 ⊢
  have HCC := Lib.hid (And.intro cc0 cc1)
  clear h hW b0 k0 htv ht0 hts hx hns hcc cc0 cc1
  go_enter Try.func25, Try.ntmps25
  go_wp2_with fail
  rw [HW.out]
  refine CT.out.mono ?_
  rintro e w1 ⟨rfl, hk1⟩
  have hb1 := (hk1.block _ (blk_lt HB.out)).trans HB.out
  have H1 := HI.out.kept (HK.out.trans hk1)
  have c0 := H1.c0
  have y0 : w1.cell? ⟨w.heap.size, 0, none⟩ = some (.int .i64 n) := by rw [blk_cell hb1]; rfl
  have y1 : w1.cell? ⟨w.heap.size, 1, none⟩ = some (.int .i64 i) := by rw [blk_cell hb1]; rfl
  have y2 : w1.cell? ⟨w.heap.size, 2, none⟩ = some (.int .i64 s) := by rw [blk_cell hb1]; rfl
  have y3 : w1.cell? ⟨w.heap.size, 3, none⟩ = some (.int .i64 a) := by rw [blk_cell hb1]; rfl
  have y4 : w1.cell? ⟨w.heap.size, 4, none⟩ = some (.int .i64 k) := by rw [blk_cell hb1]; rfl
  have CC := Lib.hid (rclear_any H1 (n := n) (i := i) (s := s) (a := a) (k := k))
  have HK1 := Lib.hid (HK.out.trans hk1)
  have HB1 := Lib.hid hb1
  obtain ⟨bb, hbb⟩ : ∃ b, (timA ⟨n, i, s, a, k⟩ A).isSome = b := ⟨_, rfl⟩
  have CC2 := CC.out
  unfold Rent at CC2
  rw [hbb] at CC2
  have CC2 := Lib.hid CC2
  clear hk1 x0 x1 x2 x3 x4 CT hb1 H1 CC hbb
  cases ts
  all_goals
    go_wp2_with fail
    refine CC2.out.mono ?_
    rintro e w2 ⟨rfl, S2, vL2, H2, s2, f2⟩
    have hlw := blk_lt HB1.out
    have hb2 := (f2.block _ hlw HNS.out).trans HB1.out
    have z0 : w2.cell? ⟨w.heap.size, 0, none⟩ = some (.int .i64 n) := by rw [blk_cell hb2]; rfl
    have z1 : w2.cell? ⟨w.heap.size, 1, none⟩ = some (.int .i64 i) := by rw [blk_cell hb2]; rfl
    have z2 : w2.cell? ⟨w.heap.size, 2, none⟩ = some (.int .i64 s) := by rw [blk_cell hb2]; rfl
    have z3 : w2.cell? ⟨w.heap.size, 3, none⟩ = some (.int .i64 a) := by rw [blk_cell hb2]; rfl
    have z4 : w2.cell? ⟨w.heap.size, 4, none⟩ = some (.int .i64 k) := by rw [blk_cell hb2]; rfl
    have HH2 := Lib.hid (And.intro H2 (And.intro s2 f2))
    have HB2 := Lib.hid hb2
    clear H2 s2 f2 hb2 y0 y1 y2 y3 y4 c0 hlw CC2 hlenL
    have SX : ∀ u, Kept w2 u → u.cell? ⟨w.heap.size, 0, none⟩ = some (.int .i64 n) ∧ u.cell? ⟨w.heap.size, 1, none⟩ = some (.int .i64 i) ∧ u.cell? ⟨w.heap.size, 2, none⟩ = some (.int .i64 s) ∧ u.cell? ⟨w.heap.size, 3, none⟩ = some (.int .i64 a) ∧ u.cell? ⟨w.heap.size, 4, none⟩ = some (.int .i64 k) := fun u hk => ⟨cell_on hk z0, cell_on hk z1, cell_on hk z2, cell_on hk z3, cell_on hk z4⟩
    have SX := Lib.hid SX
    clear z0 z1 z2 z3 z4
    go_wp2_with fail
    go_region_held3 (fun w' => w'.cell? ⟨w.heap.size, 0, none⟩ = some (.int .i64 n) ∧ w'.cell? ⟨w.heap.size, 1, none⟩ = some (.int .i64 i) ∧ w'.cell? ⟨w.heap.size, 2, none⟩ = some (.int .i64 s) ∧ w'.cell? ⟨w.heap.size, 3, none⟩ = some (.int .i64 a) ∧ w'.cell? ⟨w.heap.size, 4, none⟩ = some (.int .i64 k))
      (first | exact SX.out _ (Kept.refl _).drew | exact SX.out _ ((Kept.refl _).drew.more _) | exact SX.out _ (((Kept.refl _).more _).drew))
      (first | (go_at_call 18; refine (TC.out _).mono ?_; rintro e w' ⟨rfl, rfl⟩))
    all_goals
      obtain ⟨W3, hW3, k3⟩ : ∃ W3, (w2.alloc (.cells #[.int .i64 n, .int .i64 i, .int .i64 s, .int .i64 a, .int .i64 k, .int .i64 cc] 45)).drew = W3 ∧ Kept w2 W3 := ⟨_, rfl, (Kept.one _ _).drew⟩
      have hb3 : W3.heap[w2.heap.size]? = some (.cells #[.int .i64 n, .int .i64 i, .int .i64 s, .int .i64 a, .int .i64 k, .int .i64 cc] 45 (0, 0)) := by rw [← hW3]; exact St.blk_new w2 _
      rw [hW3]
      obtain ⟨B, hB⟩ : ∃ B, drop ⟨n, i, s, a, k⟩ A = B := ⟨_, rfl⟩
      have H3 := HH2.out.1.kept k3
      rw [hB] at H3
      have hlenB := H3.lenL
      have hBn : B.length ≤ A.length := by rw [← hB]; exact List.length_filter_le _ _
      have hnx : ∀ e ∈ B, e.1 ≠ ⟨n, i, s, a, k⟩ := fun e he => by rw [← hB] at he; exact (mem_drop.1 he).2
      have H3 := Lib.hid H3
      have HB3 := Lib.hid (And.intro k3 hb3)
      have HBD := Lib.hid (And.intro hB hnx)
      have AC : ∀ u, Kept W3 u → u.cell? ⟨w2.heap.size, 0, none⟩ = some (.int .i64 n) ∧ u.cell? ⟨w2.heap.size, 1, none⟩ = some (.int .i64 i) ∧ u.cell? ⟨w2.heap.size, 2, none⟩ = some (.int .i64 s) ∧ u.cell? ⟨w2.heap.size, 3, none⟩ = some (.int .i64 a) ∧ u.cell? ⟨w2.heap.size, 4, none⟩ = some (.int .i64 k) ∧ u.cell? ⟨w2.heap.size, 5, none⟩ = some (.int .i64 cc) := fun u hk => by
        have b := (hk.block _ (blk_lt hb3)).trans hb3
        refine ⟨?_, ?_, ?_, ?_, ?_, ?_⟩ <;> (rw [blk_cell b]; rfl)
      have AC := Lib.hid AC
      clear hW3 k3 hb3 hB hnx
      go_wp2_with fail
      go_loopw [12, 10, 11] (fun iv vl lv wr => ∃ (j : Nat) (lb : Bool) (L : List (Nm × Int)), j ≤ B.length ∧ iv = .int .i64 (j : Int) ∧ lv = .bool lb ∧ Hid (Sj B ⟨n, i, s, a, k⟩ cc j lb L) ∧ Rg W3 vl 45 6 (L.map e6) wr) (fun iv _ _ _ => B.length - (intOf iv).toNat)
      case atStart => exact ⟨0, false, [], Nat.zero_le _, rfl, rfl, Lib.hid (sj_start _ _ _), rg_nil _ _ _ (Kept.refl _)⟩
      case round =>
        obtain ⟨j, lb, L, hj, rfl, rfl, hsj, hr⟩ := hrel
        have hk := hr.2.1
        have H4 := H3.out.kept hk
        have c0 := H4.c0
        have hLl := hsj.out.len
        by_cases hlt : j < B.length
        · obtain ⟨⟨y, c⟩, hy⟩ : ∃ e, B[j]? = some e := ⟨_, List.getElem?_eq_getElem hlt⟩
          have hyne := HBD.out.2 _ (List.mem_of_getElem? hy)
          obtain ⟨yn, yi, ys, ya, yk⟩ := y
          obtain ⟨b, cap, hv, hcap, hbl, p0, p1, p2, p3, p4, p5⟩ := H3.out.at hy
          have hcap2 : (B.length : Int) ≤ (cap : Int) := by omega
          have hj0 : (0 : Int) ≤ (j : Int) := by omega
          have hjl : (j : Int) < (B.length : Int) := by omega
          have c1 := H3.out.c0
          rw [hv] at c0 c1
          obtain ⟨q0, q1, q2, q3, q4⟩ := SX.out _ HB3.out.1
          have SY : ∀ u, Kept W3 u → u.cell? ⟨R, 0, none⟩ = some (.slice (some ⟨b, 0, none⟩) B.length cap) ∧ u.cell? ⟨w.heap.size, 0, none⟩ = some (.int .i64 n) ∧ u.cell? ⟨w.heap.size, 1, none⟩ = some (.int .i64 i) ∧ u.cell? ⟨w.heap.size, 2, none⟩ = some (.int .i64 s) ∧ u.cell? ⟨w.heap.size, 3, none⟩ = some (.int .i64 a) ∧ u.cell? ⟨w.heap.size, 4, none⟩ = some (.int .i64 k) ∧ u.cell? ⟨b, j * 6, none⟩ = some (.int .i64 yn) ∧ u.cell? ⟨b, j * 6 + 1, none⟩ = some (.int .i64 yi) ∧ u.cell? ⟨b, j * 6 + 2, none⟩ = some (.int .i64 ys) ∧ u.cell? ⟨b, j * 6 + 3, none⟩ = some (.int .i64 ya) ∧ u.cell? ⟨b, j * 6 + 4, none⟩ = some (.int .i64 yk) := fun u hk => ⟨cell_on hk c1, cell_on hk q0, cell_on hk q1, cell_on hk q2, cell_on hk q3, cell_on hk q4, cell_on hk p0, cell_on hk p1, cell_on hk p2, cell_on hk p3, cell_on hk p4⟩
          have SY := Lib.hid SY
          have EC : ∀ u, Kept W3 u → u.cell? ⟨R, 0, none⟩ = some (.slice (some ⟨b, 0, none⟩) B.length cap) ∧ u.cell? ⟨b, j * 6, none⟩ = some (.int .i64 yn) ∧ u.cell? ⟨b, j * 6 + 1, none⟩ = some (.int .i64 yi) ∧ u.cell? ⟨b, j * 6 + 2, none⟩ = some (.int .i64 ys) ∧ u.cell? ⟨b, j * 6 + 3, none⟩ = some (.int .i64 ya) ∧ u.cell? ⟨b, j * 6 + 4, none⟩ = some (.int .i64 yk) ∧ u.cell? ⟨b, j * 6 + 5, none⟩ = some (.int .i64 c) := fun u hk => ⟨cell_on hk c1, cell_on hk p0, cell_on hk p1, cell_on hk p2, cell_on hk p3, cell_on hk p4, cell_on hk p5⟩
          have EC := Lib.hid EC
          have hlenB2 : ∀ ty u, (Builtin.len_ #[37] ty #[.slice (some ⟨b, 0, none⟩) B.length cap]).run Try.prog u = .ok (.int .i64 (B.length : Int)) u := fun ty u => by have := hlenB ty u; rw [hv] at this; exact this
          have KD := Lib.hid hk.drew
          have HR := Lib.hid hr
          clear H4 hbl hcap hk hr c1 p0 p1 p2 p3 p4 p5 q0 q1 q2 q3 q4 hv
          have hdl : (L.map e6).length ≤ 900000 := by rw [List.length_map]; omega
          have hdl2 : (L.map e6 ++ [[n, i, s, a, k, cc]]).length ≤ 900000 := by rw [List.length_append, List.length_map]; simp; omega
          cases lb
          · obtain ⟨z, hz⟩ : ∃ z, nmI ⟨n, i, s, a, k⟩ ⟨yn, yi, ys, ya, yk⟩ = z := ⟨_, rfl⟩
            have C2 := fun w => rncompare_any n i s a k yn yi ys ya yk w
            rw [hz] at C2
            have C2 := Lib.hid C2
            by_cases hzz : z < 0
            · have hltN : ltN ⟨n, i, s, a, k⟩ ⟨yn, yi, ys, ya, yk⟩ := by unfold ltN; rw [hz]; exact hzz
              have HSJ := Lib.hid (hsj.out.lay hy hltN)
              clear hz hltN hy hyne hsj
              go_wp2_with fail
              go_region_held3 (fun w' => w'.cell? ⟨R, 0, none⟩ = some (.slice (some ⟨b, 0, none⟩) B.length cap) ∧ w'.cell? ⟨w.heap.size, 0, none⟩ = some (.int .i64 n) ∧ w'.cell? ⟨w.heap.size, 1, none⟩ = some (.int .i64 i) ∧ w'.cell? ⟨w.heap.size, 2, none⟩ = some (.int .i64 s) ∧ w'.cell? ⟨w.heap.size, 3, none⟩ = some (.int .i64 a) ∧ w'.cell? ⟨w.heap.size, 4, none⟩ = some (.int .i64 k) ∧ w'.cell? ⟨b, j * 6, none⟩ = some (.int .i64 yn) ∧ w'.cell? ⟨b, j * 6 + 1, none⟩ = some (.int .i64 yi) ∧ w'.cell? ⟨b, j * 6 + 2, none⟩ = some (.int .i64 ys) ∧ w'.cell? ⟨b, j * 6 + 3, none⟩ = some (.int .i64 ya) ∧ w'.cell? ⟨b, j * 6 + 4, none⟩ = some (.int .i64 yk))
                (first | exact SY.out _ KD.out | exact SY.out _ (Kept.trans KD.out (by assumption)))
                (first | (go_at_call 22; refine (C2.out _).mono ?_; rintro e w5 ⟨rfl, hk5⟩))
              have HR5 := HR.out.keep ((Kept.refl wr).drew.trans hk5)
              have hkk := HR5.2.1
              obtain ⟨r0, r1, r2, r3, r4, r5⟩ := AC.out _ hkk
              have HR5 := Lib.hid HR5
              clear hkk hk5
              go_wp2_with (first | (at_builtin; refine wpList_append_onei rowA _ rfl (.tmp 60) (.tmp 62) rfl _ _ [n, i, s, a, k, cc] rfl rfl HR5.out.1 rfl hdl ?_; intro v6 w6 hr6 hg6 hb6; have HR7 := HR5.out.app hr6 hg6 hb6; obtain ⟨t0, t1, t2, t3, t4, t5, t6⟩ := EC.out _ HR7.2.1; have HR7 := Lib.hid HR7; clear hr6 hg6 hb6 r0 r1 r2 r3 r4 r5) | (at_builtin; refine wpList_append_onei rowA _ rfl (.tmp 64) (.tmp 72) rfl _ _ [yn, yi, ys, ya, yk, c] rfl rfl HR7.out.1 rfl hdl2 ?_; intro v8 w8 hr8 hg8 hb8))
              have HX := Lib.hid (HR7.out.app hr8 hg8 hb8)
              clear hr8 hg8 hb8 t0 t1 t2 t3 t4 t5 t6
              go_roundw
              case rel => exact ⟨j + 1, true, _, hlt, by go_num, rfl, HSJ, by rw [List.map_append, List.map_append]; exact HX.out⟩
              case measure => simp [intOf]; omega
            · have hltN : ltN ⟨yn, yi, ys, ya, yk⟩ ⟨n, i, s, a, k⟩ := by
                rw [lt_lex]
                rcases nm_cases ⟨n, i, s, a, k⟩ ⟨yn, yi, ys, ya, yk⟩ with ⟨h1, _⟩ | ⟨_, h2⟩ | ⟨_, h2⟩
                · rw [hz] at h1; omega
                · exact absurd h2.symm hyne
                · exact h2
              have HSJ := Lib.hid (hsj.out.skip hy hltN)
              clear hz hltN hy hyne hsj
              go_wp2_with fail
              go_region_held3 (fun w' => w'.cell? ⟨R, 0, none⟩ = some (.slice (some ⟨b, 0, none⟩) B.length cap) ∧ w'.cell? ⟨w.heap.size, 0, none⟩ = some (.int .i64 n) ∧ w'.cell? ⟨w.heap.size, 1, none⟩ = some (.int .i64 i) ∧ w'.cell? ⟨w.heap.size, 2, none⟩ = some (.int .i64 s) ∧ w'.cell? ⟨w.heap.size, 3, none⟩ = some (.int .i64 a) ∧ w'.cell? ⟨w.heap.size, 4, none⟩ = some (.int .i64 k) ∧ w'.cell? ⟨b, j * 6, none⟩ = some (.int .i64 yn) ∧ w'.cell? ⟨b, j * 6 + 1, none⟩ = some (.int .i64 yi) ∧ w'.cell? ⟨b, j * 6 + 2, none⟩ = some (.int .i64 ys) ∧ w'.cell? ⟨b, j * 6 + 3, none⟩ = some (.int .i64 ya) ∧ w'.cell? ⟨b, j * 6 + 4, none⟩ = some (.int .i64 yk))
                (first | exact SY.out _ KD.out | exact SY.out _ (Kept.trans KD.out (by assumption)))
                (first | (go_at_call 22; refine (C2.out _).mono ?_; rintro e w5 ⟨rfl, hk5⟩))
              have HR5 := HR.out.keep ((Kept.refl wr).drew.trans hk5)
              obtain ⟨t0, t1, t2, t3, t4, t5, t6⟩ := EC.out _ HR5.2.1
              have HR5 := Lib.hid HR5
              clear hk5
              go_wp2_with (at_builtin; refine wpList_append_onei rowA _ rfl (.tmp 64) (.tmp 72) rfl _ _ [yn, yi, ys, ya, yk, c] rfl rfl HR5.out.1 rfl hdl ?_; intro v8 w8 hr8 hg8 hb8)
              have HX := Lib.hid (HR5.out.app hr8 hg8 hb8)
              clear hr8 hg8 hb8 t0 t1 t2 t3 t4 t5 t6
              go_roundw
              case rel => exact ⟨j + 1, false, _, hlt, by go_num, rfl, HSJ, by rw [List.map_append]; exact HX.out⟩
              case measure => simp [intOf]; omega
          · have HSJ := Lib.hid (hsj.out.more H3.out.ord hy)
            clear hy hyne hsj
            obtain ⟨t0, t1, t2, t3, t4, t5, t6⟩ := EC.out _ HR.out.2.1
            have HR2 := Lib.hid (fun m => HR.out.keep ((Kept.refl _).drewN m))
            go_wp2_with fail
            go_quiet (fail)
            go_wp2_with (at_builtin; refine wpList_append_onei rowA _ rfl (.tmp 64) (.tmp 72) rfl _ _ [yn, yi, ys, ya, yk, c] rfl rfl (HR2.out _).1 rfl hdl ?_; intro v8 w8 hr8 hg8 hb8)
            have HX := Lib.hid ((HR2.out _).app hr8 hg8 hb8)
            clear hr8 hg8 hb8 t0 t1 t2 t3 t4 t5 t6
            go_roundw
            case rel => exact ⟨j + 1, true, _, hlt, by go_num, rfl, HSJ, by rw [List.map_append]; exact HX.out⟩
            case measure => simp [intOf]; omega
        · have hje : j = B.length := by omega
          subst hje
          have hpl : (put ⟨n, i, s, a, k⟩ cc B).length ≤ 4096 := by have := put_len_le H3.out.ord (⟨n, i, s, a, k⟩ : Nm) cc; omega
          have hpk : ∀ y d, (y, d) ∈ put ⟨n, i, s, a, k⟩ cc B → okN y ∧ 0 ≤ d ∧ d ≤ 1125899906842624 := fun y d hm => by
            rcases mem_put.1 hm with e | e
            · obtain ⟨rfl, rfl⟩ := Prod.mk.inj e; exact ⟨HX.out, HCC.out⟩
            · exact H3.out.ok y d e.1
          have FIN : ∀ v u, Rg W3 v 45 6 ((put ⟨n, i, s, a, k⟩ cc B).map e6) u → Rent w S R g now (put ⟨n, i, s, a, k⟩ cc A) (u.setCell ⟨R, 0, none⟩ v) := fun v u hr => by
            have h2 := HH2.out.1
            rw [HBD.out.1] at h2
            have := h2.put HB3.out.1 hr (ord_put H3.out.ord) hpk hpl
            have e := FIN0.out
            rw [HBD.out.1] at e
            rw [← e]
            exact this.glue HK1.out HH2.out.2.1 HH2.out.2.2
          have FIN := Lib.hid FIN
          have hdl : (L.map e6).length ≤ 900000 := by rw [List.length_map]; omega
          cases lb
          · have HSJ := Lib.hid hsj.out.end0
            obtain ⟨t0, t1, t2, t3, t4, t5⟩ := AC.out _ hk
            have HR := Lib.hid hr
            clear hr hk H4 hlt hsj hLl hpk hpl
            go_wp2_with (at_builtin; refine wpList_append_onei rowA _ rfl (.tmp 76) (.tmp 78) rfl _ _ [n, i, s, a, k, cc] rfl rfl HR.out.1 rfl hdl ?_; intro v6 w6 hr6 hg6 hb6; have HR7 := HR.out.app hr6 hg6 hb6; have d0 := (H3.out.kept HR7.2.1).c0; have d1 := (H3.out.kept HR7.2.1).free 0; obtain ⟨p9, m9, c9, rfl⟩ := HR7.1.shape; have HR7 := Lib.hid HR7; clear hr6 hg6 hb6 t0 t1 t2 t3 t4 t5)
            go_ret
            exact ⟨rfl, FIN.out _ _ (by rw [← HSJ.out, List.map_append]; exact HR7.out)⟩
          · have HSJ := Lib.hid hsj.out.end1
            obtain ⟨p9, m9, c9, rfl⟩ := hr.1.shape
            have d1 := H4.free 0
            have HR := Lib.hid hr
            clear hr hk H4 hlt hsj hLl hpk hpl
            go_wp2_with fail
            go_ret
            exact ⟨rfl, FIN.out _ _ (by rw [← HSJ.out]; exact HR.out)⟩
end

end Go.Proofs.Ytckmkagijanbdaa.Al
