/- The law 'alarms of unlike names do not matter to each other' walked. -/
import Derived.Test.YtckmkagijanbdaaAlC
import Derived.Test.YtckmkagijanbdaaAl9
import Derived.Deep.QuietTactic
import Derived.BigQuiet
import Derived.Deep.RegionHeld3
namespace Go.Proofs.Ytckmkagijanbdaa.Al
open Go.RowKit Go.Sort Tk Wh IdM
open St (Kept blk_cell blk_free blk_lt blk_set)
set_option linter.unusedVariables false

/-- two lots of alarms that share nothing -/
structure Tw (W : World) (A B : Nat) (ga na la : Int) (La : List (Nm × Int)) (gb nb lb : Int) (Lb : List (Nm × Int)) (w : World) (Sa Sb : Nat → Prop) : Prop where
  a : Alm w Sa A ga na la La
  b : Alm w Sb B gb nb lb Lb
  ap : ∀ k, Sa k → ¬ Sb k
  ka : Acc W Sa w
  kb : Acc W Sb w
section
variable {W w w' : World} {A B : Nat} {ga na la gb nb lb na' la' nb' lb' : Int} {La Lb La' Lb' : List (Nm × Int)} {Sa Sb S' : Nat → Prop}
theorem Tw.right (h : Tw W A B ga na la La gb nb lb Lb w Sa Sb) (hw : Alm w' S' B gb nb' lb' Lb') (hs : ∀ k, S' k → Sb k ∨ w.heap.size ≤ k) (hf : Fr Sb w w') : Tw W A B ga na la La gb nb' lb' Lb' w' Sa S' :=
  ⟨h.a.fr hf h.ap, hw, fun k c d => (hs k d).elim (h.ap k c) (fun e => by have := h.a.lt k c; omega), ⟨(h.kb.step hf hs).kept, h.ka.new⟩, h.kb.step hf hs⟩
theorem Tw.left (h : Tw W A B ga na la La gb nb lb Lb w Sa Sb) (hw : Alm w' S' A ga na' la' La') (hs : ∀ k, S' k → Sa k ∨ w.heap.size ≤ k) (hf : Fr Sa w w') : Tw W A B ga na' la' La' gb nb lb Lb w' S' Sb :=
  ⟨hw, h.b.fr hf (fun k c d => h.ap k d c), fun k c d => (hs k c).elim (fun e => h.ap k e d) (fun e => by have := h.b.lt k d; omega), h.ka.step hf hs, ⟨(h.ka.step hf hs).kept, h.kb.new⟩⟩
theorem Tw.go (h : Tw W A B ga na la La gb nb lb Lb w Sa Sb) (hk : Kept w w') : Tw W A B ga na la La gb nb lb Lb w' Sa Sb :=
  ⟨h.a.kept hk, h.b.kept hk, h.ap, h.ka.go hk, h.kb.go hk⟩
/-- other blocks turn -/
theorem Tw.other (h : Tw W A B ga na la La gb nb lb Lb w Sa Sb) (hf : Fr S' w w') (ha : ∀ k, Sa k → ¬ S' k) (hb : ∀ k, Sb k → ¬ S' k) (hn : ∀ k, S' k → W.heap.size ≤ k ∨ w.heap.size ≤ k) : Tw W A B ga na la La gb nb lb Lb w' Sa Sb := by
  have hk : Kept W w' := ((Fr.kept (S := fun k => W.heap.size ≤ k) h.ka.kept).trans hf (fun k c => (hn k c).elim Or.inl (fun d => by have := h.ka.kept.size; exact Or.inl (by omega)))).keeps (fun k c => c)
  exact ⟨h.a.fr hf ha, h.b.fr hf hb, h.ap, ⟨hk, h.ka.new⟩, ⟨hk, h.kb.new⟩⟩
end

section
variable {A : List (Nm × Int)} {g q c : Int} {x : Nm}
theorem rest_tim (h : A.Pairwise ltA) (hx : timA x A = some c) : timA x (restA g q A) = if up c g ≤ q then none else some c := by
  rw [tim_some h] at hx
  by_cases d : up c g ≤ q
  · rw [if_pos d, tim_none]
    intro e he
    obtain ⟨h1, h2⟩ := mem_rest.1 he
    rw [names_inj h h1 hx] at h2
    have h2 : q < up c g := h2
    omega
  · rw [if_neg d]
    exact (tim_some (h.filter _)).2 (mem_rest.2 ⟨hx, show q < up c g by omega⟩)
theorem due_tim (h : A.Pairwise ltA) (hx : timA x A = some c) : x ∈ (dueA g q A).map Prod.fst ↔ up c g ≤ q := by
  rw [tim_some h] at hx
  rw [List.mem_map]
  constructor
  · rintro ⟨⟨y, e⟩, he, rfl⟩
    obtain ⟨h1, h2⟩ := mem_due.1 he
    rw [names_inj h h1 hx] at h2; exact h2
  · intro d
    exact ⟨(x, c), mem_due.2 ⟨hx, d⟩, rfl⟩
theorem tim_put_other {y : Nm} {d : Int} (h : A.Pairwise ltA) (hx : timA x A = some c) (hn : x ≠ y) : timA x (put y d A) = some c := by
  rw [tim_some h] at hx
  exact (tim_some (ord_put h)).2 (mem_put.2 (Or.inr ⟨hx, hn⟩))
end

theorem one_due {A : List (Nm × Int)} {g q c : Int} {x : Nm} (h : A.Pairwise ltA) (hx : timA x A = some c) (hl : A.length = 1) : ((dueA g q A).length : Int) = if up c g ≤ q then 1 else 0 := by
  rw [tim_some h] at hx
  match A, hl with
  | [e], _ =>
    obtain rfl := List.mem_singleton.1 hx
    by_cases d : up c g ≤ q
    · rw [if_pos d, (due_yes x d).1]; rfl
    · rw [if_neg d, (due_no x d).1]; rfl

/-- has the name come among the first? -/
def hasI (E : List Nm) (x : Nm) (j : Nat) : Int := if x ∈ E.take j then 1 else 0
theorem hasI_zero (E : List Nm) (x : Nm) : hasI E x 0 = 0 := by unfold hasI; simp
theorem hasI_hit {E : List Nm} {x : Nm} {j : Nat} (hn : E.Nodup) (h : E[j]? = some x) : hasI E x j = 0 ∧ hasI E x (j + 1) = 1 := by
  unfold hasI
  rw [if_neg (not_taken hn h), List.take_add_one, h]
  exact ⟨rfl, by simp⟩
theorem hasI_miss {E : List Nm} {x y : Nm} {j : Nat} (h : E[j]? = some y) (hne : y ≠ x) : hasI E x (j + 1) = hasI E x j := by
  unfold hasI
  rw [List.take_add_one, h]
  have : ¬ x = y := fun e => hne e.symm
  simp [this]
theorem hasI_end (E : List Nm) (x : Nm) : hasI E x E.length = if x ∈ E then 1 else 0 := by unfold hasI; rw [List.take_length]
theorem hasI_le (E : List Nm) (x : Nm) (j : Nat) : 0 ≤ hasI E x j ∧ hasI E x j ≤ 1 := by unfold hasI; split <;> omega

set_option maxHeartbeats 4000000 in
set_option maxRecDepth 100000 in
theorem aapart_same (p : Int) (n i s a k t u ask : Int) (w : World) :
    Calls Try.prog 5 #[.int .i64 p, .agg #[.int .i64 n, .int .i64 i, .int .i64 s, .int .i64 a, .int .i64 k], .agg #[.int .i64 n, .int .i64 i, .int .i64 s, .int .i64 a, .int .i64 k], .int .i64 t, .int .i64 u, .int .i64 ask] w fun e w' => e = .returned (.bool true) ∧ Kept w w' := by
  have he : ∀ w, (binOp .eql 33 (.agg #[.int .i64 n, .int .i64 i, .int .i64 s, .int .i64 a, .int .i64 k]) (.agg #[.int .i64 n, .int .i64 i, .int .i64 s, .int .i64 a, .int .i64 k])).run Try.prog w = .ok (.bool true) w := fun w => by rw [eq33, decide_eq_true rfl]
  go_enter Try.func5, Try.ntmps5
  go_wp2_with (go_at_call 15; refine (awake_any _).mono ?_; rintro e w' ⟨rfl, hk⟩)
  go_ret
  exact ⟨rfl, ((Kept.one w _).more _).trans hk⟩

set_option maxHeartbeats 4000000 in
set_option maxRecDepth 100000 in
theorem aapart_not (p : Int) {n i s a k n' i' s' a' k' : Int} (hx : okN ⟨n, i, s, a, k⟩) (hy : okN ⟨n', i', s', a', k'⟩) (hne : (⟨n, i, s, a, k⟩ : Nm) ≠ ⟨n', i', s', a', k'⟩) (t u ask : Int) (w : World) :
    Calls Try.prog 5 #[.int .i64 p, .agg #[.int .i64 n, .int .i64 i, .int .i64 s, .int .i64 a, .int .i64 k], .agg #[.int .i64 n', .int .i64 i', .int .i64 s', .int .i64 a', .int .i64 k'], .int .i64 t, .int .i64 u, .int .i64 ask] w fun e w' => e = .returned (.bool true) ∧ Kept w w' := by
  have he : ∀ w, (binOp .eql 33 (.agg #[.int .i64 n, .int .i64 i, .int .i64 s, .int .i64 a, .int .i64 k]) (.agg #[.int .i64 n', .int .i64 i', .int .i64 s', .int .i64 a', .int .i64 k'])).run Try.prog w = .ok (.bool false) w := fun w => by rw [eq33, decide_eq_false hne]
  obtain ⟨W, hW, k0, bx, bY⟩ := two_box w #[.int .i64 n, .int .i64 i, .int .i64 s, .int .i64 a, .int .i64 k] #[.int .i64 n', .int .i64 i', .int .i64 s', .int .i64 a', .int .i64 k'] 33
  obtain ⟨g, hg⟩ : ∃ g, gr p = g := ⟨_, rfl⟩
  have CN := fun w => anew_any (w := w) p
  rw [hg] at CN
  have hz : W.heap.size = w.heap.size + 1 + 1 := by rw [← hW]; simp
  have HW := Lib.hid hW
  have HK0 := Lib.hid k0
  have BX := Lib.hid bx
  have BY := Lib.hid bY
  have HX := Lib.hid hx
  have HY := Lib.hid hy
  have HNE := Lib.hid hne
  have HCN := Lib.hid CN
  have HZ := Lib.hid hz
  clear hW k0 bx bY hx hy hne CN hg hz
  go_enter Try.func5, Try.ntmps5
  go_wp2_with fail
  rw [HW.out]
  refine (HCN.out _).mono ?_
  rintro e w1 ⟨S1, A, rfl, h1, s1, k1⟩
  have H1 := Lib.hid (And.intro h1 (And.intro s1 k1))
  clear h1 s1 k1
  go_wp2_with fail
  refine (HCN.out _).mono ?_
  rintro e w2 ⟨S2, B, rfl, h2, s2, k2⟩
  have T0 : Tw W A B g 0 0 [] g 0 0 [] w2 S1 S2 := ⟨H1.out.1.kept k2, h2, fun k c d => by have := H1.out.1.lt k c; have := s2 k d; omega, ⟨H1.out.2.2.trans k2, H1.out.2.1⟩, ⟨H1.out.2.2.trans k2, fun k d => by have := s2 k d; have := H1.out.2.2.size; omega⟩⟩
  have x0 : ∀ W', Kept W W' → W'.cell? ⟨w.heap.size, 0, none⟩ = some (.int .i64 n) ∧ W'.cell? ⟨w.heap.size, 1, none⟩ = some (.int .i64 i) ∧ W'.cell? ⟨w.heap.size, 2, none⟩ = some (.int .i64 s) ∧ W'.cell? ⟨w.heap.size, 3, none⟩ = some (.int .i64 a) ∧ W'.cell? ⟨w.heap.size, 4, none⟩ = some (.int .i64 k) := fun W' hk => by
    have b := (hk.block _ (blk_lt BX.out)).trans BX.out
    refine ⟨?_, ?_, ?_, ?_, ?_⟩ <;> (rw [blk_cell b]; rfl)
  have y0 : ∀ W', Kept W W' → W'.cell? ⟨w.heap.size + 1, 0, none⟩ = some (.int .i64 n') ∧ W'.cell? ⟨w.heap.size + 1, 1, none⟩ = some (.int .i64 i') ∧ W'.cell? ⟨w.heap.size + 1, 2, none⟩ = some (.int .i64 s') ∧ W'.cell? ⟨w.heap.size + 1, 3, none⟩ = some (.int .i64 a') ∧ W'.cell? ⟨w.heap.size + 1, 4, none⟩ = some (.int .i64 k') := fun W' hk => by
    have b := (hk.block _ (blk_lt BY.out)).trans BY.out
    refine ⟨?_, ?_, ?_, ?_, ?_⟩ <;> (rw [blk_cell b]; rfl)
  have X := Lib.hid x0
  have Y := Lib.hid y0
  have HT0 := Lib.hid T0
  obtain ⟨c0, c1, c2, c3, c4⟩ := X.out w2 T0.ka.kept
  clear h2 s2 k2 T0 x0 y0 HCN
  go_wp2_with fail
  refine (mine_any n i s a k _).mono ?_
  rintro e w3 ⟨rfl, k3⟩
  have CS := Lib.hid (set_room (t := t) (HT0.out.go k3).a HX.out (by simp [drop]) (by decide))
  have HT := Lib.hid (HT0.out.go k3)
  clear k3 c0 c1 c2 c3 c4
  go_wp2_with fail
  refine CS.out.mono ?_
  rintro e w4 ⟨rfl, S4, h4, s4, f4⟩
  have HT4 := Lib.hid (HT.out.left h4 s4 f4)
  obtain ⟨c0, c1, c2, c3, c4⟩ := X.out w4 HT4.out.ka.kept
  clear h4 s4 f4 CS HT HT0
  go_wp2_with fail
  refine (mine_any n i s a k _).mono ?_
  rintro e w5 ⟨rfl, k5⟩
  have CS := Lib.hid (set_room (t := t) (HT4.out.go k5).b HX.out (by simp [drop]) (by decide))
  have HT := Lib.hid (HT4.out.go k5)
  clear k5 c0 c1 c2 c3 c4
  go_wp2_with fail
  refine CS.out.mono ?_
  rintro e w6 ⟨rfl, S6, h6, s6, f6⟩
  have HT6 := Lib.hid (HT.out.right h6 s6 f6)
  obtain ⟨c0, c1, c2, c3, c4⟩ := Y.out w6 HT6.out.ka.kept
  clear h6 s6 f6 CS HT HT4
  go_wp2_with fail
  refine (mine_any n' i' s' a' k' _).mono ?_
  rintro e w7 ⟨rfl, k7⟩
  have CS := Lib.hid (set_room (t := u) (HT6.out.go k7).b HY.out (Nat.lt_of_le_of_lt (List.length_filter_le _ _) (by simp [put])) (by decide))
  have HT := Lib.hid (HT6.out.go k7)
  clear k7 c0 c1 c2 c3 c4
  go_wp2_with fail
  refine CS.out.mono ?_
  rintro e w8 ⟨rfl, S8, h8, s8, f8⟩
  have HT8 := Lib.hid (HT.out.right h8 s8 f8)
  clear h8 s8 f8 CS HT HT6
  obtain ⟨q, hq⟩ : ∃ q, clamp ask = q := ⟨_, rfl⟩
  have q0 := clamp_lo ask
  have q1 := clamp_hi ask
  rw [hq] at q0 q1
  obtain ⟨c, hc⟩ : ∃ c, clamp t = c := ⟨_, rfl⟩
  obtain ⟨La, hLa⟩ : ∃ L, put ⟨n, i, s, a, k⟩ (clamp t) [] = L := ⟨_, rfl⟩
  obtain ⟨Lb, hLb⟩ : ∃ L, put ⟨n', i', s', a', k'⟩ (clamp u) La = L := ⟨_, rfl⟩
  rw [hLa, hLb] at HT8
  have ta : timA ⟨n, i, s, a, k⟩ La = some c := by rw [← hLa, hc, tim_some (ord_put List.Pairwise.nil)]; exact mem_put.2 (Or.inl rfl)
  have oa : La.Pairwise ltA := by rw [← hLa]; exact ord_put List.Pairwise.nil
  have tb : timA ⟨n, i, s, a, k⟩ Lb = some c := by rw [← hLb]; exact tim_put_other oa ta HNE.out
  have ob : Lb.Pairwise ltA := by rw [← hLb]; exact ord_put oa
  have la : La.length = 1 := by rw [← hLa]; simp [put]
  have lb : Lb.length ≤ 2 := by rw [← hLb]; have := put_len_le oa (⟨n', i', s', a', k'⟩ : Nm) (clamp u); omega
  have HTA := Lib.hid (And.intro ta oa)
  have HTB := Lib.hid (And.intro tb ob)
  have HLA := Lib.hid la
  have HLB := Lib.hid lb
  have CD := Lib.hid (due_any (to := q) HT8.out.a ask (by rw [hq]; omega))
  clear hLa hLb ta oa tb ob la lb hc
  have HQ := Lib.hid hq
  clear hq
  go_wp2_with fail
  refine CD.out.mono ?_
  rintro e w9 ⟨va, S9, rfl, ra, h9, s9, f9, n9⟩
  have T9 := HT8.out.left h9 s9 f9
  have CD2 := Lib.hid (due_any (to := q) T9.b ask (by rw [HQ.out]; omega))
  have HT9 := Lib.hid T9
  have hla := fun ty u => ra.len Try.underlying40 ty u
  clear h9 s9 f9 T9 CD HT8 ra
  go_wp2_with fail
  refine CD2.out.mono ?_
  rintro e w10 ⟨vb, S10, rfl, rb, h10, s10, f10, n10⟩
  have HT := Lib.hid (HT9.out.right h10 s10 f10)
  have hlb := fun ty u => rb.len Try.underlying40 ty u
  have RB := Lib.hid rb
  clear h10 s10 f10 HT9 CD2 n9 n10 rb
  obtain ⟨E, hE⟩ : ∃ E, (dueA g q Lb).map Prod.fst = E := ⟨_, rfl⟩
  rw [hE] at RB hlb
  obtain ⟨ha, hha⟩ : ∃ ha : Int, (((((dueA g q La).map Prod.fst).map Nm.ints).length : Nat) : Int) = ha := ⟨_, rfl⟩
  rw [hha] at hla
  have hend : hasI E ⟨n, i, s, a, k⟩ E.length = ha := by
    rw [hasI_end, ← hha, List.length_map, List.length_map, one_due HTA.out.2 HTA.out.1 HLA.out]
    by_cases d : up c g ≤ q
    · rw [if_pos d, if_pos (by rw [← hE]; exact (due_tim HTB.out.2 HTB.out.1).2 d)]
    · rw [if_neg d, if_neg (fun h => d ((due_tim HTB.out.2 HTB.out.1).1 (by rw [hE]; exact h)))]
  have hEn : E.Nodup := by rw [← hE]; exact names_nodup (HTB.out.2.filter _)
  have hEl : E.length ≤ 2 := by rw [← hE, List.length_map]; have := List.length_filter_le (fun e : Nm × Int => decide (up e.2 g ≤ q)) Lb; have := HLB.out; unfold dueA; omega
  simp only [List.length_map] at hlb
  obtain ⟨le, hle⟩ : ∃ l : Int, (E.length : Int) = l := ⟨_, rfl⟩
  rw [hle] at hlb
  have HE := Lib.hid (And.intro hEn (And.intro hend hle))
  have HKW := Lib.hid HT.out.ka.kept
  obtain ⟨r0, r1, hr⟩ : ∃ r0 r1, ∀ W', Kept w10 W' → (Calls Try.prog 20 #[.pointer (some ⟨A, 0, none⟩), .agg #[.int .i64 n, .int .i64 i, .int .i64 s, .int .i64 a, .int .i64 k]] W' fun e w' => e = .returned (.tuple #[.int .i64 r0, .bool r1]) ∧ Kept W' w') ∧
      (Calls Try.prog 20 #[.pointer (some ⟨B, 0, none⟩), .agg #[.int .i64 n, .int .i64 i, .int .i64 s, .int .i64 a, .int .i64 k]] W' fun e w' => e = .returned (.tuple #[.int .i64 r0, .bool r1]) ∧ Kept W' w') := by
    refine ⟨_, _, fun W' hk => ⟨time_al (HT.out.go hk).a HX.out, ?_⟩⟩
    have := time_al (HT.out.go hk).b HX.out
    rw [rest_tim HTB.out.2 HTB.out.1, ← rest_tim HTA.out.2 HTA.out.1] at this
    exact this
  have HR := Lib.hid hr
  clear hE hha hend hEn hle hr
  go_wp2_with fail
  go_loopw [17, 18] (fun hs iv wr => ∃ (j : Nat) (h : Int), j ≤ E.length ∧ iv = .int .i64 (j : Int) ∧ hs = .int .i64 h ∧ Hid (h = hasI E ⟨n, i, s, a, k⟩ j) ∧ Kept w10 wr) (fun _ iv _ => E.length - (intOf iv).toNat)
  case atStart => exact ⟨0, 0, Nat.zero_le _, rfl, rfl, Lib.hid (hasI_zero _ _).symm, Kept.refl _⟩
  case round =>
    obtain ⟨j, h, hj, rfl, rfl, hh, hk⟩ := hrel
    by_cases hlt : j < E.length
    · have hltq : (j : Int) < le := by have := HE.out.2.2; omega
      have hj0 : (0 : Int) ≤ (j : Int) := by omega
      obtain ⟨y, hy⟩ : ∃ y, E[j]? = some y := ⟨_, List.getElem?_eq_getElem hlt⟩
      have hk2 : Kept w10 wr.drew := hk.drew
      obtain ⟨b, cap, hv, hcap, hbl, hc⟩ := (RB.out.keep hk2).at (i := j) (l := y.ints) (by rw [List.getElem?_map, hy]; rfl)
      have hcap2 : (E.length : Int) ≤ (cap : Int) := by rw [List.length_map] at hcap; omega
      obtain ⟨yn, yi, ys, ya, yk⟩ := y
      have e0 := hc 0 _ rfl
      have e1 := hc 1 _ rfl
      have e2 := hc 2 _ rfl
      have e3 := hc 3 _ rfl
      have e4 := hc 4 _ rfl
      rw [Nat.add_zero] at e0
      have XW := X.out _ (HKW.out.trans hk2)
      have HK := Lib.hid hk
      have HKD := Lib.hid hk2
      clear hc hk hk2 hbl hcap
      rw [List.length_map] at hv
      subst hv
      have SX : ∀ W', Kept wr.drew W' → W'.cell? ⟨b, j * 5, none⟩ = some (.int .i64 yn) ∧ W'.cell? ⟨b, j * 5 + 1, none⟩ = some (.int .i64 yi) ∧ W'.cell? ⟨b, j * 5 + 2, none⟩ = some (.int .i64 ys) ∧ W'.cell? ⟨b, j * 5 + 3, none⟩ = some (.int .i64 ya) ∧ W'.cell? ⟨b, j * 5 + 4, none⟩ = some (.int .i64 yk) ∧ W'.cell? ⟨w.heap.size, 0, none⟩ = some (.int .i64 n) ∧ W'.cell? ⟨w.heap.size, 1, none⟩ = some (.int .i64 i) ∧ W'.cell? ⟨w.heap.size, 2, none⟩ = some (.int .i64 s) ∧ W'.cell? ⟨w.heap.size, 3, none⟩ = some (.int .i64 a) ∧ W'.cell? ⟨w.heap.size, 4, none⟩ = some (.int .i64 k) := fun W' hk => ⟨cell_on hk e0, cell_on hk e1, cell_on hk e2, cell_on hk e3, cell_on hk e4, cell_on hk XW.1, cell_on hk XW.2.1, cell_on hk XW.2.2.1, cell_on hk XW.2.2.2.1, cell_on hk XW.2.2.2.2⟩
      have SX := Lib.hid SX
      by_cases hyx : (⟨yn, yi, ys, ya, yk⟩ : Nm) = ⟨n, i, s, a, k⟩
      · have he2 : ∀ w, (binOp .eql 42 (.agg #[.int .i64 yn, .int .i64 yi, .int .i64 ys, .int .i64 ya, .int .i64 yk]) (.agg #[.int .i64 n, .int .i64 i, .int .i64 s, .int .i64 a, .int .i64 k])).run Try.prog w = .ok (.bool true) w := fun w => by rw [eq42, decide_eq_true hyx]
        obtain ⟨h1, h2⟩ := hasI_hit HE.out.1 (by rw [← hyx]; exact hy : E[j]? = some (⟨n, i, s, a, k⟩ : Nm))
        have h0 : h = 0 := by rw [hh.out, h1]
        have H2 := Lib.hid h2
        clear h1 h2 hy hyx hh XW
        subst h0
        go_wp2_with fail
        go_region_held3 (fun w' => w'.cell? ⟨b, j * 5, none⟩ = some (.int .i64 yn) ∧ w'.cell? ⟨b, j * 5 + 1, none⟩ = some (.int .i64 yi) ∧ w'.cell? ⟨b, j * 5 + 2, none⟩ = some (.int .i64 ys) ∧ w'.cell? ⟨b, j * 5 + 3, none⟩ = some (.int .i64 ya) ∧ w'.cell? ⟨b, j * 5 + 4, none⟩ = some (.int .i64 yk) ∧ w'.cell? ⟨w.heap.size, 0, none⟩ = some (.int .i64 n) ∧ w'.cell? ⟨w.heap.size, 1, none⟩ = some (.int .i64 i) ∧ w'.cell? ⟨w.heap.size, 2, none⟩ = some (.int .i64 s) ∧ w'.cell? ⟨w.heap.size, 3, none⟩ = some (.int .i64 a) ∧ w'.cell? ⟨w.heap.size, 4, none⟩ = some (.int .i64 k))
          (first | exact SX.out _ (Kept.refl _) | exact SX.out _ (by assumption))
          (first | (go_at_call 14; refine (mine_any n i s a k _).mono ?_; rintro e w11 ⟨rfl, hk11⟩))
        go_wp2_with fail
        go_roundw
        case rel => exact ⟨j + 1, 1, hlt, by go_num, by go_num, Lib.hid H2.out.symm, HKD.out.trans hk11⟩
        case measure => simp [intOf]; omega
      · have he2 : ∀ w, (binOp .eql 42 (.agg #[.int .i64 yn, .int .i64 yi, .int .i64 ys, .int .i64 ya, .int .i64 yk]) (.agg #[.int .i64 n, .int .i64 i, .int .i64 s, .int .i64 a, .int .i64 k])).run Try.prog w = .ok (.bool false) w := fun w => by rw [eq42, decide_eq_false hyx]
        have h2 := hasI_miss hy hyx
        have H2 := Lib.hid h2
        have HH := Lib.hid hh.out
        clear h2 hy hyx hh XW
        go_wp2_with fail
        go_region_held3 (fun w' => w'.cell? ⟨b, j * 5, none⟩ = some (.int .i64 yn) ∧ w'.cell? ⟨b, j * 5 + 1, none⟩ = some (.int .i64 yi) ∧ w'.cell? ⟨b, j * 5 + 2, none⟩ = some (.int .i64 ys) ∧ w'.cell? ⟨b, j * 5 + 3, none⟩ = some (.int .i64 ya) ∧ w'.cell? ⟨b, j * 5 + 4, none⟩ = some (.int .i64 yk) ∧ w'.cell? ⟨w.heap.size, 0, none⟩ = some (.int .i64 n) ∧ w'.cell? ⟨w.heap.size, 1, none⟩ = some (.int .i64 i) ∧ w'.cell? ⟨w.heap.size, 2, none⟩ = some (.int .i64 s) ∧ w'.cell? ⟨w.heap.size, 3, none⟩ = some (.int .i64 a) ∧ w'.cell? ⟨w.heap.size, 4, none⟩ = some (.int .i64 k))
          (first | exact SX.out _ (Kept.refl _) | exact SX.out _ (by assumption))
          (first | (go_at_call 14; refine (mine_any n i s a k _).mono ?_; rintro e w11 ⟨rfl, hk11⟩))
        go_wp2_with fail
        go_roundw
        case rel => exact ⟨j + 1, h, hlt, by go_num, rfl, Lib.hid (by rw [H2.out]; exact HH.out), HKD.out.trans hk11⟩
        case measure => simp [intOf]; omega
    · have hje : j = E.length := by omega
      have hjl : le ≤ (j : Int) := by have := HE.out.2.2; omega
      have hh2 : h = ha := by rw [hh.out, hje]; exact HE.out.2.1
      subst hh2
      obtain ⟨c0, c1, c2, c3, c4⟩ := X.out wr (HKW.out.trans hk)
      have HK := Lib.hid hk
      clear hk hh hje
      go_wp2_with fail
      refine (mine_any n i s a k _).mono ?_
      rintro e w11 ⟨rfl, k11⟩
      have HK2 := Lib.hid (HK.out.trans k11)
      clear k11 c0 c1 c2 c3 c4
      go_wp2_with fail
      refine (HR.out _ HK2.out).1.mono ?_
      rintro e w12 ⟨rfl, k12⟩
      have HK3 := Lib.hid (HK2.out.trans k12)
      obtain ⟨c0, c1, c2, c3, c4⟩ := X.out w12 (HKW.out.trans HK3.out)
      clear k12
      go_wp2_with fail
      refine (mine_any n i s a k _).mono ?_
      rintro e w13 ⟨rfl, k13⟩
      have HK4 := Lib.hid (HK3.out.trans k13)
      clear k13 c0 c1 c2 c3 c4
      go_wp2_with fail
      refine (HR.out _ HK4.out).2.mono ?_
      rintro e w14 ⟨rfl, k14⟩
      have HK5 := (HKW.out.trans (HK4.out.trans k14)).drew
      clear k14
      obtain ⟨z, hz⟩ : ∃ z, nmI ⟨n, i, s, a, k⟩ ⟨n', i', s', a', k'⟩ = z := ⟨_, rfl⟩
      have C1 := fun w => ncompare_gr n i s a k n' i' s' a' k' w
      have C2 := fun w => rncompare_any n i s a k n' i' s' a' k' w
      rw [hz] at C1 C2
      have C1 := Lib.hid C1
      have C2 := Lib.hid C2
      clear hz
      have XY : ∀ W', Kept W W' → W'.cell? ⟨w.heap.size, 0, none⟩ = some (.int .i64 n) ∧ W'.cell? ⟨w.heap.size, 1, none⟩ = some (.int .i64 i) ∧ W'.cell? ⟨w.heap.size, 2, none⟩ = some (.int .i64 s) ∧ W'.cell? ⟨w.heap.size, 3, none⟩ = some (.int .i64 a) ∧ W'.cell? ⟨w.heap.size, 4, none⟩ = some (.int .i64 k) ∧ W'.cell? ⟨w.heap.size + 1, 0, none⟩ = some (.int .i64 n') ∧ W'.cell? ⟨w.heap.size + 1, 1, none⟩ = some (.int .i64 i') ∧ W'.cell? ⟨w.heap.size + 1, 2, none⟩ = some (.int .i64 s') ∧ W'.cell? ⟨w.heap.size + 1, 3, none⟩ = some (.int .i64 a') ∧ W'.cell? ⟨w.heap.size + 1, 4, none⟩ = some (.int .i64 k') := fun W' hk => by
        obtain ⟨x0, x1, x2, x3, x4⟩ := X.out W' hk
        obtain ⟨y0, y1, y2, y3, y4⟩ := Y.out W' hk
        exact ⟨x0, x1, x2, x3, x4, y0, y1, y2, y3, y4⟩
      have XY := Lib.hid XY
      go_wp2_with fail
      go_region_held3 (fun w' => w'.cell? ⟨w.heap.size, 0, none⟩ = some (.int .i64 n) ∧ w'.cell? ⟨w.heap.size, 1, none⟩ = some (.int .i64 i) ∧ w'.cell? ⟨w.heap.size, 2, none⟩ = some (.int .i64 s) ∧ w'.cell? ⟨w.heap.size, 3, none⟩ = some (.int .i64 a) ∧ w'.cell? ⟨w.heap.size, 4, none⟩ = some (.int .i64 k) ∧ w'.cell? ⟨w.heap.size + 1, 0, none⟩ = some (.int .i64 n') ∧ w'.cell? ⟨w.heap.size + 1, 1, none⟩ = some (.int .i64 i') ∧ w'.cell? ⟨w.heap.size + 1, 2, none⟩ = some (.int .i64 s') ∧ w'.cell? ⟨w.heap.size + 1, 3, none⟩ = some (.int .i64 a') ∧ w'.cell? ⟨w.heap.size + 1, 4, none⟩ = some (.int .i64 k'))
        (first | exact XY.out _ (by assumption))
        (first | (go_at_call 14; first | ((with_reducible refine (mine_any n i s a k _).mono ?_); rintro e u1 ⟨rfl, hk1⟩; have HE1 := Kept.trans (by assumption) hk1) | ((with_reducible refine (mine_any n' i' s' a' k' _).mono ?_); rintro e u1 ⟨rfl, hk1⟩; have HE1 := Kept.trans (by assumption) hk1))
               | (go_at_call 21; refine (C1.out _).mono ?_; rintro e u1 ⟨rfl, hk1⟩; have HE1 := Kept.trans (by assumption) (Grew.kept hk1))
               | (go_at_call 22; refine (C2.out _).mono ?_; rintro e u1 ⟨rfl, hk1⟩; have HE1 := Kept.trans (by assumption) hk1)
               | (go_at_call 15; refine (awake_any _).mono ?_; rintro e u1 ⟨rfl, hk1⟩; have HE1 := Kept.trans (by assumption) hk1))
      go_wp2_with fail
      go_ret
      exact ⟨rfl, HK0.out.trans (by assumption)⟩

end Go.Proofs.Ytckmkagijanbdaa.Al
