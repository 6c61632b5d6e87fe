/- The document's table: Get, Keys, Under, Caller, Apart. -/
import Derived.Test.YtiaafjabhnomeaaTbX
import Derived.Test.YtiaafjabhnomeaaTbT
import Derived.Test.YtiaafjabhnomeaaRw
import Derived.Test.YtiaafjabhnomeaaOwS
import Derived.Test.YtiaafjabhnomeaaAv
section
namespace Go.Proofs.Ytiaafjabhnomeaa.Tb
open Go.RowKit Go.Sort IdM Se Mv Blk
open St (Kept blk_cell blk_free blk_lt blk_set)
open Go.Proofs.Ytiaafjabhnomeaa.Ow (Ow Cls load_key load_id eq_id arr_one info_row zeroA)
open Go.Proofs.Ytiaafjabhnomeaa.Rv
open Go.Proofs.Ytiaafjabhnomeaa.Ls
open Go.Proofs.Ytiaafjabhnomeaa.Ad (load_w load_l store_new kept_row)
open Wh (Fr)
set_option linter.unusedVariables false
set_option linter.unusedSimpArgs false
set_option maxRecDepth 20000

def reZ : Re := ⟨Ow.zero, none, 0, 0, []⟩
theorem idx_cases (x : Ke) (E : List Re) : (E.find? (fun e => decide (e.k = x)) = none ∧ idxE x E = -1) ∨ ∃ i e, E[i]? = some e ∧ E.find? (fun e => decide (e.k = x)) = some e ∧ idxE x E = ((i : Nat) : Int) := by
  unfold idxE
  cases hf : E.findIdx? (fun e => decide (e.k = x)) with
  | none =>
    refine .inl ⟨List.find?_eq_none.2 fun e he => ?_, rfl⟩
    have := List.findIdx?_eq_none_iff.1 hf e he
    rw [this]; decide
  | some j =>
    obtain ⟨hj, h2, h3⟩ := List.findIdx?_eq_some_iff_getElem.1 hf
    refine .inr ⟨j, E[j], List.getElem?_eq_getElem hj, ?_, rfl⟩
    rw [List.find?_eq_some_iff_getElem]
    exact ⟨h2, j, hj, rfl, fun k hk => by have := h3 k hk; simpa using this⟩

set_option maxHeartbeats 2000000 in
theorem rtget_any {w : World} {R : Nat} {v : Value} {E : List Re} (h : Rt w R v E) (x : Ke) : Calls Try.prog 27 #[.pointer (some ⟨R, 0, none⟩), kv x] w fun r w' => r = .returned (.tuple #[.agg ((E.find? fun e => decide (e.k = x)).getD reZ).arr, .bool (E.find? fun e => decide (e.k = x)).isSome]) ∧ Kept w w' := by
  obtain ⟨W, hW⟩ : ∃ W, (w.alloc (.cells #[.int .i64 x.n, .int .i64 x.i, .int .i64 x.s, .int .i64 x.a] 32)).alloc (.cells zeroA 35) = W := ⟨_, rfl⟩
  have hb : Bl w W [(#[.int .i64 x.n, .int .i64 x.i, .int .i64 x.s, .int .i64 x.a], 32), (zeroA, 35)] := hW ▸ Bl.two w _ _ _ _
  have hT := h.kept hb.kept
  have CF := rtfind_any hT x
  unfold kv at CF ⊢
  have y0 : W.cell? ⟨w.heap.size, 0, none⟩ = some (.int .i64 x.n) := hb.cell 0 0 rfl
  have y1 : W.cell? ⟨w.heap.size, 1, none⟩ = some (.int .i64 x.i) := hb.cell 0 1 rfl
  have y2 : W.cell? ⟨w.heap.size, 2, none⟩ = some (.int .i64 x.s) := hb.cell 0 2 rfl
  have y3 : W.cell? ⟨w.heap.size, 3, none⟩ = some (.int .i64 x.a) := hb.cell 0 3 rfl
  have HB := Lib.hid hb
  have HW := Lib.hid hW
  have HT := Lib.hid hT
  have hlen := h.len
  clear h hT hb hW
  rcases idx_cases x E with ⟨h1, h2⟩ | ⟨i, e, he, h1, h2⟩
  · rw [h1]
    rw [h2] at CF
    have CF := Lib.hid CF
    clear h1 h2
    go_enter Try.func27, Try.ntmps27
    go_upto_region 1 with fail
    rw [show (w.alloc (.cells #[.int .i64 x.n, .int .i64 x.i, .int .i64 x.s, .int .i64 x.a] 32)).alloc (.cells #[.int .i64 0, .int .i64 0, .int .i64 0, .int .i64 0, .int .i64 0, .int .i64 0, .int .i64 0, .int .i64 0, .int .i64 0, .int .i64 0, .int .i64 0, .int .i64 0, .int .i64 0, .int .i64 0, .int .i64 0, .int .i64 0, .int .i64 0, .int .i64 0, .slice none 0 0] 35) = W from HW.out]
    go_upto_region 2 with (first | (go_at_call 14; refine CF.out.mono ?_; rintro r w1 ⟨rfl, k1⟩))
    have hb1 := HB.out.go k1
    go_wp2_with (first
      | (refine wpList_store_row rfl 35 (.tmp 4) (.tmp 12) rfl (w.heap.size + 1) zeroA rfl rfl 35 zeroA (hb1.blk 1 rfl) info_row rfl (arr_one _ _ _ _) ?_))
    have hb6 := hb1.row 1 rfl zeroA
    refine bodyPost_ret (Rw.results_row_tmp rfl _ _ (w.heap.size + 1) 35 zeroA (0, 0) _ rfl (hb6.blk 1 rfl) Try.underlying35 rfl info_row) rfl ?_
    exact ⟨rfl, hb6.kept⟩
  · rw [h1]
    rw [h2] at CF
    have CF := Lib.hid CF
    have hi : i < E.length := (List.getElem?_eq_some_iff.1 he).1
    clear h1 h2
    obtain ⟨A, hA⟩ : ∃ A, e.arr = A := ⟨_, rfl⟩
    have sA : A.size = 19 := by rw [← hA]; rfl
    have oA : A.all (·.oneCell') = true := by rw [← hA]; exact arr_one _ _ _ _
    show Calls Try.prog _ _ _ fun r w' => r = .returned (.tuple #[.agg e.arr, .bool true]) ∧ Kept w w'
    rw [hA]
    have hi9 : (i : Int) ≤ 9223372036854775807 := by omega
    go_enter Try.func27, Try.ntmps27
    go_upto_region 1 with fail
    rw [show (w.alloc (.cells #[.int .i64 x.n, .int .i64 x.i, .int .i64 x.s, .int .i64 x.a] 32)).alloc (.cells #[.int .i64 0, .int .i64 0, .int .i64 0, .int .i64 0, .int .i64 0, .int .i64 0, .int .i64 0, .int .i64 0, .int .i64 0, .int .i64 0, .int .i64 0, .int .i64 0, .int .i64 0, .int .i64 0, .int .i64 0, .int .i64 0, .int .i64 0, .int .i64 0, .slice none 0 0] 35) = W from HW.out]
    go_upto_region 2 with (first | (go_at_call 14; refine CF.out.mono ?_; rintro r w1 ⟨rfl, k1⟩))
    have hb1 := HB.out.go k1
    have ht := HT.out.kept k1
    have c0 := ht.c0
    obtain ⟨e', g, cap, he', ev, hg, le, _⟩ := Rr.at ht.row hi
    obtain rfl : e' = e := Option.some.inj (he'.symm.trans he)
    subst ev
    have hin : (i : Int) < (E.length : Int) := by omega
    have e5 : (0 : Nat) + i * 19 = i * 19 := Nat.zero_add _
    have l1 := le w1 (Kept.refl _)
    rw [hA] at l1
    have HB1 := Lib.hid hb1
    clear le hg he' he hA ht hb1
    go_wp2_with (first
      | (refine load_l 35 (.tmp 18) rfl _ rfl rfl (.agg A) l1 ?_)
      | (refine wpList_store_row rfl 35 (.tmp 4) (.tmp 19) rfl (w.heap.size + 1) A rfl rfl 35 zeroA (HB1.out.blk 1 rfl) (by rw [sA]; exact info_row) (by rw [sA]; rfl) oA ?_))
    have hb6 := HB1.out.row 1 rfl A
    refine bodyPost_ret (Rw.results_row_tmp rfl _ _ (w.heap.size + 1) 35 A (0, 0) _ rfl (hb6.blk 1 rfl) Try.underlying35 rfl (by rw [sA]; exact info_row)) rfl ?_
    exact ⟨rfl, hb6.kept⟩

/-! ### keys -/
def rkeys (f : Ow → Bool) (E : List Re) : List Ke := (E.filter fun e => f e.o).map Re.k
theorem rkeys_en (f : Ow → Bool) (E : List Re) : rkeys f E = keysOf f (E.map Re.en) := by
  unfold rkeys keysOf
  rw [List.filter_map, List.map_map]
  rfl
theorem rkeys_yes {f : Ow → Bool} {E : List Re} {i : Nat} {e : Re} (he : E[i]? = some e) (h : f e.o = true) : rkeys f (E.take (i + 1)) = rkeys f (E.take i) ++ [e.k] := by
  unfold rkeys; rw [List.take_add_one, he, Option.toList_some, List.filter_append, List.map_append]; simp [h]
theorem rkeys_no {f : Ow → Bool} {E : List Re} {i : Nat} {e : Re} (he : E[i]? = some e) (h : f e.o = false) : rkeys f (E.take (i + 1)) = rkeys f (E.take i) := by
  unfold rkeys; rw [List.take_add_one, he, Option.toList_some, List.filter_append, List.map_append]; simp [h]
theorem rkeys_le (f : Ow → Bool) (E : List Re) : (rkeys f E).length ≤ E.length := by unfold rkeys; rw [List.length_map]; exact List.length_filter_le _ _
theorem Rr.cells {w : World} {v : Value} {E : List Re} (h : Rr w v E) {i : Nat} {e : Re} (he : E[i]? = some e) {g cap : Nat} (hv : v = .slice (some ⟨g, 0, none⟩) E.length cap) {j : Nat} {x : Value} (hx : (encR e)[j]? = some x) : w.cell? ⟨g, i * 19 + j, none⟩ = some x := by
  obtain ⟨g', cap', e1, _, _, hc⟩ := RowV.at h (fun _ => rfl) he
  rw [hv] at e1
  injection e1 with a b c
  injection a with a
  injection a with a
  subst a
  exact hc j x hx

set_option maxHeartbeats 2000000 in
theorem rtkeys0_any {w : World} {R : Nat} {v : Value} {E : List Re} (h : Rt w R v E) : Calls Try.prog 12 #[.pointer (some ⟨R, 0, none⟩), .int .i64 0] w (tells w (rkeys allF E)) := by
  obtain ⟨p, N, cap, rfl⟩ := RowV.shape h.row
  have hN : E.length = N := by
    rcases h.row.2 with ⟨e, hn⟩ | ⟨g, cap, cur, e, _⟩
    · cases e; exact hn
    · cases e; rfl
  have hm2 : N ≤ 800000 := by have := h.len; omega
  have HT := Lib.hid h
  have HN := Lib.hid hN
  clear h hN
  go_enter Try.func12, Try.ntmps12
  go_wp2_with fail
  go_loopw [5, 6] (fun d y wr => ∃ i : Nat, i ≤ N ∧ y = .int .i64 (i : Int) ∧ Hid (Kept w wr) ∧ Hid (Kr wr d (rkeys allF (E.take i))) ∧ Hid (∀ g, d.ownBlock = some g → w.heap.size ≤ g)) (fun _ y _ => N - (intOf y).toNat)
  case atStart => exact ⟨0, Nat.zero_le _, rfl, Lib.hid (Kept.refl _), Lib.hid (rowv_nil _ _ _ _), Lib.hid (fun g e => by cases e)⟩
  case round =>
    obtain ⟨i, hi, rfl, hk, hr, ho⟩ := hrel
    have c0 := (HT.out.kept hk.out).c0
    by_cases hlt : i < N
    · obtain ⟨e, g, cap', he, e1, hg, le, lk⟩ := Rr.at (HT.out.kept hk.out).row (i := i) (by rw [HN.out]; exact hlt)
      obtain ⟨e2, e3⟩ : p = some ⟨g, 0, none⟩ ∧ cap = cap' := by injection e1 with a b c; exact ⟨a, c⟩
      subst e2; subst e3
      have c3 : wr.cell? ⟨g, i * 19 + 3, none⟩ = some (.int .i64 e.o.ka) := Rr.cells (HT.out.kept hk.out).row he e1 (j := 3) rfl
      clear e1
      have hi1 : (i : Int) < N := by omega
      have e5 : (0 : Nat) + i * 19 = i * 19 := Nat.zero_add _
      have l1 := lk wr (Kept.refl _)
      unfold kv at l1
      have hle : (rkeys allF (E.take i)).length ≤ 900000 := Nat.le_trans (rkeys_le _ _) (by rw [List.length_take]; omega)
      clear le lk
      have HD := Lib.hid (rkeys_yes (f := allF) he rfl)
      clear he
      go_wp2_with (first
        | (refine load_l 32 (.tmp 37) rfl _ rfl rfl _ l1 ?_)
        | (at_builtin; refine wpList_append_onev enc_key wr rfl (.tmp 30) (.tmp 39) rfl _ _ e.k _ rfl rfl rfl hr.out hle ?_; intro v3 w3 r3 g3 b3))
      have k3 : Kept w w3 := ((Fr.kept (S := fun k => w.heap.size ≤ k) (hk.out.trans (Kept.one wr _))).grown g3 (fun k c => .inl (ho.out k c))).keeps (fun k c => c)
      have o3 : ∀ g, v3.ownBlock = some g → w.heap.size ≤ g := fun g' c => by
        rcases b3 with d | ⟨g2, d, hl⟩
        · exact ho.out g' (d.symm.trans c)
        · obtain rfl : g2 = g' := Option.some.inj (d.symm.trans c)
          have := Below.size hk.out; omega
      have H3 := Lib.hid (And.intro r3 (And.intro k3 o3))
      clear r3 g3 b3 k3 o3
      go_roundw
      case rel => exact ⟨i + 1, hlt, by go_num, Lib.hid H3.out.2.1, by rw [HD.out]; exact Lib.hid H3.out.1, Lib.hid H3.out.2.2⟩
      case measure => simp [intOf]; omega
    · obtain rfl : i = N := by omega
      have hkk : E.take i = E := List.take_of_length_le (Nat.le_of_eq HN.out)
      rw [hkk] at hr
      go_wp2_with fail
      go_ret
      exact ⟨_, rfl, hr.out, ho.out, hk.out⟩

set_option maxHeartbeats 2000000 in
theorem rtkeys1_any {w : World} {R : Nat} {v : Value} {E : List Re} (h : Rt w R v E) : Calls Try.prog 12 #[.pointer (some ⟨R, 0, none⟩), .int .i64 1] w (tells w (rkeys runF E)) := by
  obtain ⟨p, N, cap, rfl⟩ := RowV.shape h.row
  have hN : E.length = N := by
    rcases h.row.2 with ⟨e, hn⟩ | ⟨g, cap, cur, e, _⟩
    · cases e; exact hn
    · cases e; rfl
  have hm2 : N ≤ 800000 := by have := h.len; omega
  have HT := Lib.hid h
  have HN := Lib.hid hN
  clear h hN
  go_enter Try.func12, Try.ntmps12
  go_wp2_with fail
  go_loopw [5, 6] (fun d y wr => ∃ i : Nat, i ≤ N ∧ y = .int .i64 (i : Int) ∧ Hid (Kept w wr) ∧ Hid (Kr wr d (rkeys runF (E.take i))) ∧ Hid (∀ g, d.ownBlock = some g → w.heap.size ≤ g)) (fun _ y _ => N - (intOf y).toNat)
  case atStart => exact ⟨0, Nat.zero_le _, rfl, Lib.hid (Kept.refl _), Lib.hid (rowv_nil _ _ _ _), Lib.hid (fun g e => by cases e)⟩
  case round =>
    obtain ⟨i, hi, rfl, hk, hr, ho⟩ := hrel
    have c0 := (HT.out.kept hk.out).c0
    by_cases hlt : i < N
    · obtain ⟨e, g, cap', he, e1, hg, le, lk⟩ := Rr.at (HT.out.kept hk.out).row (i := i) (by rw [HN.out]; exact hlt)
      obtain ⟨e2, e3⟩ : p = some ⟨g, 0, none⟩ ∧ cap = cap' := by injection e1 with a b c; exact ⟨a, c⟩
      subst e2; subst e3
      have c3 : wr.cell? ⟨g, i * 19 + 3, none⟩ = some (.int .i64 e.o.ka) := Rr.cells (HT.out.kept hk.out).row he e1 (j := 3) rfl
      clear e1
      have hi1 : (i : Int) < N := by omega
      have e5 : (0 : Nat) + i * 19 = i * 19 := Nat.zero_add _
      have l1 := lk wr (Kept.refl _)
      unfold kv at l1
      have hle : (rkeys runF (E.take i)).length ≤ 900000 := Nat.le_trans (rkeys_le _ _) (by rw [List.length_take]; omega)
      clear le lk
      cases hf : runF e.o with
      | true =>
        have hka : (e.o.ka == 0) = false := by unfold runF at hf; simpa using hf
        have hka2 : ¬ e.o.ka = 0 := by simpa using hka
        have HD := Lib.hid (rkeys_yes (f := runF) he hf)
        clear he
        go_wp2_with (first
          | (refine load_l 32 (.tmp 37) rfl _ rfl rfl _ l1 ?_)
          | (at_builtin; refine wpList_append_onev enc_key wr rfl (.tmp 30) (.tmp 39) rfl _ _ e.k _ rfl rfl rfl hr.out hle ?_; intro v3 w3 r3 g3 b3))
        have k3 : Kept w w3 := ((Fr.kept (S := fun k => w.heap.size ≤ k) (hk.out.trans (Kept.one wr _))).grown g3 (fun k c => .inl (ho.out k c))).keeps (fun k c => c)
        have o3 : ∀ g, v3.ownBlock = some g → w.heap.size ≤ g := fun g' c => by
          rcases b3 with d | ⟨g2, d, hl⟩
          · exact ho.out g' (d.symm.trans c)
          · obtain rfl : g2 = g' := Option.some.inj (d.symm.trans c)
            have := Below.size hk.out; omega
        have H3 := Lib.hid (And.intro r3 (And.intro k3 o3))
        clear r3 g3 b3 k3 o3
        go_roundw
        case rel => exact ⟨i + 1, hlt, by go_num, Lib.hid H3.out.2.1, by rw [HD.out]; exact Lib.hid H3.out.1, Lib.hid H3.out.2.2⟩
        case measure => simp [intOf]; omega
      | false =>
        have hka2 : e.o.ka = 0 := by unfold runF at hf; simpa using hf
        rw [hka2] at c3
        have HD := Lib.hid (rkeys_no (f := runF) he hf)
        clear he hf
        go_wp2_with fail
        go_roundw
        case rel => exact ⟨i + 1, hlt, by go_num, hk, by rw [HD.out]; exact hr, ho⟩
        case measure => simp [intOf]; omega
    · obtain rfl : i = N := by omega
      have hkk : E.take i = E := List.take_of_length_le (Nat.le_of_eq HN.out)
      rw [hkk] at hr
      go_wp2_with fail
      go_ret
      exact ⟨_, rfl, hr.out, ho.out, hk.out⟩

end Go.Proofs.Ytiaafjabhnomeaa.Tb
end
section
namespace Go.Proofs.Ytiaafjabhnomeaa.Tb
open Go.RowKit Go.Sort IdM Se Mv Blk
open St (Kept blk_cell blk_free blk_lt blk_set)
open Go.Proofs.Ytiaafjabhnomeaa.Ow (Ow Cls load_key load_id eq_id arr_one info_row zeroA findL sameI)
open Go.Proofs.Ytiaafjabhnomeaa.Cl (Cl)
open Go.Proofs.Ytiaafjabhnomeaa.Rv
open Go.Proofs.Ytiaafjabhnomeaa.Ls
open Go.Proofs.Ytiaafjabhnomeaa.Ad (load_w load_l store_new kept_row)
open Go.Proofs.Ytiaafjabhnomeaa.Au (Stab stab_and stab_kept)
open Wh (Fr)
set_option linter.unusedVariables false
set_option linter.unusedSimpArgs false
set_option maxRecDepth 20000

set_option maxHeartbeats 2000000 in
theorem rtunder_any {w : World} {R : Nat} {v : Value} {E : List Re} (h : Rt w R v E) (d : Di) : Calls Try.prog 29 #[.pointer (some ⟨R, 0, none⟩), dv d] w (tells w (rkeys (undF d) E)) := by
  obtain ⟨W, hW⟩ : ∃ W, w.alloc (.cells #[.int .i64 d.n, .int .i64 d.i, .int .i64 d.s] 30) = W := ⟨_, rfl⟩
  have hb : Bl w W [(#[.int .i64 d.n, .int .i64 d.i, .int .i64 d.s], 30)] := hW ▸ Bl.one w _ _
  obtain ⟨p, N, cap, rfl⟩ := RowV.shape h.row
  have hN : E.length = N := by
    rcases h.row.2 with ⟨e, hn⟩ | ⟨g, cap, cur, e, _⟩
    · cases e; exact hn
    · cases e; rfl
  have hm2 : N ≤ 800000 := by have := h.len; omega
  have HT := Lib.hid (h.kept hb.kept)
  have HN := Lib.hid hN
  have HB := Lib.hid hb
  have HW := Lib.hid hW
  clear h hN hb hW
  unfold dv
  go_enter Try.func29, Try.ntmps29
  go_upto_region 1 with fail
  rw [HW.out]
  go_wp2_with fail
  go_loopw [5, 6] (fun x y wr => ∃ i : Nat, i ≤ N ∧ y = .int .i64 (i : Int) ∧ Hid (Kept W wr) ∧ Hid (Kr wr x (rkeys (undF d) (E.take i))) ∧ Hid (∀ g, x.ownBlock = some g → W.heap.size ≤ g)) (fun _ y _ => N - (intOf y).toNat)
  case atStart => exact ⟨0, Nat.zero_le _, rfl, Lib.hid (Kept.refl _), Lib.hid (rowv_nil _ _ _ _), Lib.hid (fun g e => by cases e)⟩
  case round =>
    obtain ⟨i, hi, rfl, hk, hr, ho⟩ := hrel
    have c0 := (HT.out.kept hk.out).c0
    by_cases hlt : i < N
    · obtain ⟨e, g, cap', he, e1, hg, le, lk⟩ := Rr.at (HT.out.kept hk.out).row (i := i) (by rw [HN.out]; exact hlt)
      obtain ⟨e2, e3⟩ : p = some ⟨g, 0, none⟩ ∧ cap = cap' := by injection e1 with a b c; exact ⟨a, c⟩
      subst e2; subst e3
      have hi1 : (i : Int) < N := by omega
      have e5 : (0 : Nat) + i * 19 = i * 19 := Nat.zero_add _
      have la := Ad.loadk_regrown (W := wr) (p := ⟨R, 0, none⟩) (fun u hu => run_loadL ((HT.out.kept (hk.out.trans hu)).c0))
      have lb := Ad.loadk_regrown (W := wr) (p := ⟨g, i * 19 + 4, none⟩) (fun u hu => by
        have hh := HT.out.kept (hk.out.trans hu)
        exact load_id (Rr.cells hh.row he e1 (j := 4) rfl) (Rr.cells hh.row he e1 (j := 5) rfl) (Rr.cells hh.row he e1 (j := 6) rfl))
      have lc := Ad.loadk_regrown (W := wr) (p := ⟨w.heap.size, 0, none⟩) (fun u hu => load_id ((HB.out.go (hk.out.trans hu)).cell 0 0 rfl) ((HB.out.go (hk.out.trans hu)).cell 0 1 rfl) ((HB.out.go (hk.out.trans hu)).cell 0 2 rfl))
      have hq := fun u => eq_id e.o.rn e.o.ri e.o.rs d.n d.i d.s u
      obtain ⟨z, hz⟩ : ∃ z, undF d e.o = z := ⟨_, rfl⟩
      rw [show (e.o.rn == d.n && (e.o.ri == d.i && e.o.rs == d.s)) = z from hz] at hq
      have hle : (rkeys (undF d) (E.take i)).length ≤ 900000 := Nat.le_trans (rkeys_le _ _) (by rw [List.length_take]; omega)
      have LK := Lib.hid (show ∀ u, Kept wr u → (loadVar 32 ⟨g, i * 19, none⟩).run Try.prog u = .ok (.agg #[.int .i64 e.k.n, .int .i64 e.k.i, .int .i64 e.k.s, .int .i64 e.k.a]) u from lk)
      have HE := Lib.hid he
      clear le lk e1 he
      go_wp2_with fail
      refine wp_region_quiet_below (by kernel_rfl) (by kernel_rfl) ?_
      repeat (first
        | (go_big_quiet_want; refine Ad.quiet_load 26 (.tmp 18) rfl _ rfl _ la.out ?_; simp only [Act.put, List.setIfInBounds_toArray, List.set_cons_succ, List.set_cons_zero]; go_big_quiet_on)
        | (go_big_quiet_want; refine Ad.quiet_load 30 (.tmp 22) rfl _ rfl _ lb.out ?_; simp only [Act.put, List.setIfInBounds_toArray, List.set_cons_succ, List.set_cons_zero]; go_big_quiet_on)
        | (go_big_quiet_want; refine Ad.quiet_load 30 (.tmp 3) rfl _ rfl _ lc.out ?_; simp only [Act.put, List.setIfInBounds_toArray, List.set_cons_succ, List.set_cons_zero]; go_big_quiet_on)
        | go_big_quiet_step (fail))
      refine wpQuiet_nil ?_
      intro _ hw'
      obtain ⟨⟨dq, osq⟩, hw''⟩ := hw'
      subst hw''
      have kq : Kept wr (grow (redrawn wr dq) osq) := below_regrown wr dq osq
      obtain ⟨wz, hwz⟩ : ∃ wz, grow (redrawn wr dq) osq = wz := ⟨_, rfl⟩
      rw [hwz] at kq ⊢
      have KQ := Lib.hid kq
      clear hwz kq la lb lc hq
      cases z
      · have HD := Lib.hid (rkeys_no (f := undF d) HE.out hz)
        go_wp2_with fail
        go_roundw
        case rel => exact ⟨i + 1, hlt, by go_num, Lib.hid (hk.out.trans KQ.out), by rw [HD.out]; exact Lib.hid (RowV.keep hr.out KQ.out), ho⟩
        case measure => simp [intOf]; omega
      · have HD := Lib.hid (rkeys_yes (f := undF d) HE.out hz)
        have l1 := LK.out wz KQ.out
        have hr1 : Hid (Kr wz u5 (rkeys (undF d) (E.take i))) := Lib.hid (RowV.keep hr.out KQ.out)
        have c1 := (HT.out.kept (hk.out.trans KQ.out)).c0
        clear c0
        go_wp2_with (first
          | (refine load_l 32 (.tmp 33) rfl _ rfl rfl _ l1 ?_)
          | (at_builtin; refine wpList_append_onev enc_key wz rfl (.tmp 26) (.tmp 35) rfl _ _ e.k _ rfl rfl rfl hr1.out hle ?_; intro v3 w3 r3 g3 b3))
        have k3 : Kept W w3 := ((Fr.kept (S := fun k => W.heap.size ≤ k) ((hk.out.trans KQ.out).trans (Kept.one wz _))).grown g3 (fun k c => .inl (ho.out k c))).keeps (fun k c => c)
        have o3 : ∀ g, v3.ownBlock = some g → W.heap.size ≤ g := fun g' c => by
          rcases b3 with d | ⟨g2, d, hl⟩
          · exact ho.out g' (d.symm.trans c)
          · obtain rfl : g2 = g' := Option.some.inj (d.symm.trans c)
            have := Below.size (hk.out.trans KQ.out); omega
        have H3 := Lib.hid (And.intro r3 (And.intro k3 o3))
        clear r3 g3 b3 k3 o3
        go_roundw
        case rel => exact ⟨i + 1, hlt, by go_num, Lib.hid H3.out.2.1, by rw [HD.out]; exact Lib.hid H3.out.1, Lib.hid H3.out.2.2⟩
        case measure => simp [intOf]; omega
    · obtain rfl : i = N := by omega
      have hkk : E.take i = E := List.take_of_length_le (Nat.le_of_eq HN.out)
      rw [hkk] at hr
      go_wp2_with fail
      go_ret
      have := Below.size HB.out.kept
      exact ⟨_, rfl, hr.out, fun b c => by have := ho.out b c; omega, HB.out.kept.trans hk.out⟩

/-! ### whose a call is -/
theorem found_has (e : Re) (d : Di) : decide (0 ≤ findL e.K ⟨d.n, d.i, d.s⟩) = e.en.has d := by
  have key : ∀ c : Cl, sameI ⟨d.n, d.i, d.s⟩ c = decide (ci c = d) := fun c => by
    unfold sameI
    by_cases h : ci c = d
    · subst h; simp [ci]
    · rw [decide_eq_false h, Bool.eq_false_iff]
      intro h2
      simp only [Bool.and_eq_true, beq_iff_eq] at h2
      exact h (Di.ext h2.1 h2.2.1 h2.2.2)
  have e1 : e.en.has d = e.K.any (sameI ⟨d.n, d.i, d.s⟩) := by
    unfold En.has Re.en
    exact (congrArg (fun f => List.any e.K f) (funext key)).symm
  rw [e1]
  unfold findL Ow.idx
  cases hf : e.K.findIdx? (sameI ⟨d.n, d.i, d.s⟩) with
  | none =>
    have h2 : e.K.any (sameI ⟨d.n, d.i, d.s⟩) = false := List.any_eq_false.2 fun c hc => by
      have h1 := List.findIdx?_eq_none_iff.1 hf c hc
      rw [h1]; exact Bool.false_ne_true
    rw [h2]; rfl
  | some j =>
    obtain ⟨hj, h2, _⟩ := List.findIdx?_eq_some_iff_getElem.1 hf
    have h3 : e.K.any (sameI ⟨d.n, d.i, d.s⟩) = true := List.any_eq_true.2 ⟨e.K[j], List.getElem_mem hj, h2⟩
    rw [h3]
    exact decide_eq_true (by simp only; omega)
theorem who_hit {d : Di} : ∀ {E : List Re} {i : Nat} {e : Re}, (E.take i).any (fun e => e.en.has d) = false → E[i]? = some e → e.en.has d = true → E.find? (fun e => e.en.has d) = some e
  | [], i, e, _, hx, _ => by simp at hx
  | a :: l, 0, e, _, hx, hf => by
    simp only [List.getElem?_cons_zero, Option.some.injEq] at hx
    subst hx
    rw [List.find?_cons, hf]
  | a :: l, i + 1, e, h, hx, hf => by
    rw [List.take_succ_cons, List.any_cons, Bool.or_eq_false_iff] at h
    rw [List.find?_cons, h.1]
    exact who_hit h.2 (by simpa using hx) hf
theorem who_miss {d : Di} {E : List Re} (h : E.any (fun e => e.en.has d) = false) : E.find? (fun e => e.en.has d) = none := List.find?_eq_none.2 fun e he => by
  rw [List.any_eq_false] at h; exact h e he
theorem who_take {d : Di} {E : List Re} {i : Nat} {e : Re} (h : (E.take i).any (fun e => e.en.has d) = false) (hx : E[i]? = some e) (hf : e.en.has d = false) : (E.take (i + 1)).any (fun e => e.en.has d) = false := by
  rw [List.take_add_one, hx, List.any_append, h]; simp [hf]

set_option maxHeartbeats 4000000 in
theorem rtcaller_any {w : World} {R : Nat} {v : Value} {E : List Re} (h : Rt w R v E) (hcl : ∀ e ∈ E, ∀ u, Kept w u → Cls u (.slice e.q e.n e.c) e.K) (d : Di) : Calls Try.prog 28 #[.pointer (some ⟨R, 0, none⟩), dv d] w fun r w' => r = .returned (.tuple #[.agg ((E.find? fun e => e.en.has d).getD reZ).arr, .bool (E.find? fun e => e.en.has d).isSome]) ∧ Kept w w' := by
  obtain ⟨W, hW⟩ : ∃ W, (w.alloc (.cells #[.int .i64 d.n, .int .i64 d.i, .int .i64 d.s] 30)).alloc (.cells zeroA 35) = W := ⟨_, rfl⟩
  have hb : Bl w W [(#[.int .i64 d.n, .int .i64 d.i, .int .i64 d.s], 30), (zeroA, 35)] := hW ▸ Bl.two w _ _ _ _
  obtain ⟨p, N, cap, rfl⟩ := RowV.shape h.row
  have hN : E.length = N := by
    rcases h.row.2 with ⟨e, hn⟩ | ⟨g, cap, cur, e, _⟩
    · cases e; exact hn
    · cases e; rfl
  have hm2 : N ≤ 800000 := by have := h.len; omega
  have HT := Lib.hid (h.kept hb.kept)
  have HN := Lib.hid hN
  have HB := Lib.hid hb
  have HW := Lib.hid hW
  have HC := Lib.hid hcl
  obtain ⟨X, hX⟩ : ∃ X, E.find? (fun e => e.en.has d) = X := ⟨_, rfl⟩
  rw [hX]
  have HX := Lib.hid hX
  clear h hN hb hW hcl hX
  unfold dv
  go_enter Try.func28, Try.ntmps28
  go_upto_region 1 with fail
  rw [show (w.alloc (.cells #[.int .i64 d.n, .int .i64 d.i, .int .i64 d.s] 30)).alloc (.cells #[.int .i64 0, .int .i64 0, .int .i64 0, .int .i64 0, .int .i64 0, .int .i64 0, .int .i64 0, .int .i64 0, .int .i64 0, .int .i64 0, .int .i64 0, .int .i64 0, .int .i64 0, .int .i64 0, .int .i64 0, .int .i64 0, .int .i64 0, .int .i64 0, .slice none 0 0] 35) = W from HW.out]
  go_wp2_with fail
  go_loopw [6] (fun y wr => ∃ i : Nat, i ≤ N ∧ y = .int .i64 (i : Int) ∧ Kept W wr ∧ Hid ((E.take i).any (fun e => e.en.has d) = false)) (fun y _ => N - (intOf y).toNat)
  case atStart => exact ⟨0, Nat.zero_le _, rfl, Kept.refl _, rfl⟩
  case round =>
    obtain ⟨i, hi, rfl, hk, hA⟩ := hrel
    have c0 := (HT.out.kept hk).c0
    by_cases hlt : i < N
    · obtain ⟨e, g, cap', he, e1, hg, le, _⟩ := Rr.at (HT.out.kept hk).row (i := i) (by rw [HN.out]; exact hlt)
      obtain ⟨e2, e3⟩ : p = some ⟨g, 0, none⟩ ∧ cap = cap' := by injection e1 with a b c; exact ⟨a, c⟩
      clear e1
      subst e2; subst e3
      have hi1 : (i : Int) < N := by omega
      have e5 : (0 : Nat) + i * 19 = i * 19 := Nat.zero_add _
      have hmem := List.mem_of_getElem? he
      obtain ⟨z, hz⟩ : ∃ z, e.en.has d = z := ⟨_, rfl⟩
      obtain ⟨y, hy⟩ : ∃ y, findL e.K ⟨d.n, d.i, d.s⟩ = y := ⟨_, rfl⟩
      have hyz := found_has e d
      rw [hy, hz] at hyz
      have LL := Lib.hid (fun (u : World) (hu : Kept wr u) => run_loadL ((HT.out.kept (hk.trans hu)).c0))
      have LE := Lib.hid (fun (u : World) (hu : Kept wr u) => show (loadVar 35 ⟨g, i * 19, none⟩).run Try.prog u = .ok (.agg (e.o.arr e.q e.n e.c)) u from le u hu)
      have LD := Lib.hid (fun (u : World) (hu : Kept wr u) => load_id (u := u) (b := w.heap.size) (o := 0) ((HB.out.go (hk.trans hu)).cell 0 0 rfl) ((HB.out.go (hk.trans hu)).cell 0 1 rfl) ((HB.out.go (hk.trans hu)).cell 0 2 rfl))
      have CF := Lib.hid (fun (u : World) (hu : Kept wr u) => by
        have := Ow.rfind_any e.o (HC.out e hmem u ((HB.out.kept.trans hk).trans hu)) ⟨d.n, d.i, d.s⟩
        rw [hy] at this; exact this)
      have HE := Lib.hid (And.intro he hz)
      have hSt : Stab (fun u => Kept wr u) := stab_kept wr
      clear le he hy hz
      go_upto_region 4 with fail
      refine Av.region 10 (fun u => Kept wr u) (by kernel_rfl) ((Kept.refl wr).drew) ?_
      refine Av.take 0 (some 16) (v := ?_) rfl rfl (by kernel_rfl) (by kernel_rfl) (by kernel_rfl) (by kernel_rfl) (fun _ _ _ h => h) hSt (Au.yq_run (by rfl) (fun u hu => ?_)) ?_
      rotate_left
      · (clear hu; go_simp; try with_reducible rfl)
      simp only [Act.put, List.setIfInBounds_toArray, List.set_cons_zero, List.set_cons_succ]
      refine Av.take 1 (some 17) (v := ?_) rfl rfl (by kernel_rfl) (by kernel_rfl) (by kernel_rfl) (by kernel_rfl) (fun _ _ _ h => h) hSt (Au.yq_run (by rfl) (fun u hu => ?_)) ?_
      rotate_left
      · (clear hu; go_simp; try with_reducible rfl)
      simp only [Act.put, List.setIfInBounds_toArray, List.set_cons_zero, List.set_cons_succ]
      refine Av.take 2 (some 18) (v := ?_) rfl rfl (by kernel_rfl) (by kernel_rfl) (by kernel_rfl) (by kernel_rfl) (fun _ _ _ h => h) hSt (Au.yq_run (by rfl) (fun u hu => ?_)) ?_
      rotate_left
      · (clear hu; go_simp; try with_reducible rfl)
      simp only [Act.put, List.setIfInBounds_toArray, List.set_cons_zero, List.set_cons_succ]
      refine Av.take 3 (some 19) rfl rfl (by kernel_rfl) (by kernel_rfl) (by kernel_rfl) (by kernel_rfl) (fun _ _ _ h => h) hSt (Au.yq_load 26 (.tmp 18) rfl _ rfl (by rfl) (fun u hu => LL.out u hu)) ?_
      simp only [Act.put, List.setIfInBounds_toArray, List.set_cons_zero, List.set_cons_succ]
      refine Av.take 4 (some 20) (v := ?_) rfl rfl (by kernel_rfl) (by kernel_rfl) (by kernel_rfl) (by kernel_rfl) (fun _ _ _ h => h) hSt (Au.yq_run (by rfl) (fun u hu => ?_)) ?_
      rotate_left
      · (clear hu; go_simp; try with_reducible rfl)
      simp only [Act.put, List.setIfInBounds_toArray, List.set_cons_zero, List.set_cons_succ]
      refine Av.take 5 (some 21) (v := ?_) rfl rfl (by kernel_rfl) (by kernel_rfl) (by kernel_rfl) (by kernel_rfl) (fun _ _ _ h => h) hSt (Au.yq_run (by rfl) (fun u hu => ?_)) ?_
      rotate_left
      · (clear hu; go_simp; try with_reducible rfl)
      simp only [Act.put, List.setIfInBounds_toArray, List.set_cons_zero, List.set_cons_succ]
      refine Av.take 6 (some 22) rfl rfl (by kernel_rfl) (by kernel_rfl) (by kernel_rfl) (by kernel_rfl) (fun _ _ _ h => h) hSt (Au.yq_load 35 (.tmp 21) rfl _ rfl (by rfl) (fun u hu => LE.out u hu)) ?_
      simp only [Act.put, List.setIfInBounds_toArray, List.set_cons_zero, List.set_cons_succ]
      refine Av.take 7 (some 23) rfl rfl (by kernel_rfl) (by kernel_rfl) (by kernel_rfl) (by kernel_rfl) (fun _ _ _ h => h) hSt (Au.yq_load 30 (.tmp 3) rfl _ rfl (by rfl) (fun u hu => LD.out u hu)) ?_
      simp only [Act.put, List.setIfInBounds_toArray, List.set_cons_zero, List.set_cons_succ]
      refine Av.take 8 (some 24) rfl rfl (by kernel_rfl) (by kernel_rfl) (by kernel_rfl) (by kernel_rfl) (fun _ _ _ h => h) hSt (Au.yq_call 25 _ (by rfl) (fun u => by go_simp) (fun u hu => CF.out u hu)) ?_
      simp only [Act.put, List.setIfInBounds_toArray, List.set_cons_zero, List.set_cons_succ]
      cases z
      · have hy0 : ¬ 0 ≤ y := of_decide_eq_false hyz
        refine Av.take 9 (some 25) (v := ?_) rfl rfl (by kernel_rfl) (by kernel_rfl) (by kernel_rfl) (by kernel_rfl) (fun _ _ _ h => h) hSt (Au.yq_run (by rfl) (fun u hu => ?_)) ?_
        rotate_left
        · (clear hu; go_simp; try with_reducible rfl)
        simp only [Act.put, List.setIfInBounds_toArray, List.set_cons_zero, List.set_cons_succ]
        refine Av.done (by kernel_rfl) (fun u hu => ?_)
        have HU := Lib.hid hu
        clear hu
        go_wp2_with fail
        go_roundw
        case rel => exact ⟨i + 1, hlt, by go_num, hk.trans HU.out, who_take hA.out HE.out.1 HE.out.2⟩
        case measure => simp [intOf]; omega
      · have hy0 : 0 ≤ y := of_decide_eq_true hyz
        refine Av.take 9 (some 25) (v := ?_) rfl rfl (by kernel_rfl) (by kernel_rfl) (by kernel_rfl) (by kernel_rfl) (fun _ _ _ h => h) hSt (Au.yq_run (by rfl) (fun u hu => ?_)) ?_
        rotate_left
        · (clear hu; go_simp; try with_reducible rfl)
        simp only [Act.put, List.setIfInBounds_toArray, List.set_cons_zero, List.set_cons_succ]
        refine Av.done (by kernel_rfl) (fun u hu => ?_)
        have hX : X = some e := HX.out.symm.trans (who_hit hA.out HE.out.1 HE.out.2)
        have l1 := LE.out u hu
        have c1 := (HT.out.kept (hk.trans hu)).c0
        have hb1 := HB.out.go (hk.trans hu)
        have HB1 := Lib.hid hb1
        clear hu hb1 c0
        go_wp2_with (first
          | (refine load_l 35 (.tmp 31) rfl _ rfl rfl _ l1 ?_)
          | (refine wpList_store_row rfl 35 (.tmp 4) (.tmp 32) rfl (w.heap.size + 1) (e.o.arr e.q e.n e.c) rfl rfl 35 zeroA (HB1.out.blk 1 rfl) info_row rfl (arr_one _ _ _ _) ?_))
        have hb6 := HB1.out.row 1 rfl (e.o.arr e.q e.n e.c)
        refine bodyPost_ret (Rw.results_row_tmp rfl _ _ (w.heap.size + 1) 35 (e.o.arr e.q e.n e.c) (0, 0) _ rfl (hb6.blk 1 rfl) Try.underlying35 rfl info_row) rfl ?_
        exact ⟨by first | rfl | (rw [hX]; rfl), hb6.kept⟩
    · obtain rfl : i = N := by omega
      have hX : X = none := HX.out.symm.trans (who_miss (by have := hA.out; rwa [List.take_of_length_le (Nat.le_of_eq HN.out)] at this))
      have hb1 := HB.out.go hk
      go_wp2_with (first
        | (refine wpList_store_row rfl 35 (.tmp 4) (.tmp 33) rfl (w.heap.size + 1) zeroA rfl rfl 35 zeroA (hb1.blk 1 rfl) info_row rfl (arr_one _ _ _ _) ?_))
      have hb6 := hb1.row 1 rfl zeroA
      refine bodyPost_ret (Rw.results_row_tmp rfl _ _ (w.heap.size + 1) 35 zeroA (0, 0) _ rfl (hb6.blk 1 rfl) Try.underlying35 rfl info_row) rfl ?_
      exact ⟨by first | rfl | (rw [hX]; rfl), hb6.kept⟩
end Go.Proofs.Ytiaafjabhnomeaa.Tb
end
section
namespace Go.Proofs.Ytiaafjabhnomeaa.Tb
open Go.RowKit Go.Sort IdM Se Mv Blk
open St (Kept blk_cell blk_free blk_lt blk_set)
open Go.Proofs.Ytiaafjabhnomeaa.Ow (Ow Cls load_key load_id eq_id arr_one info_row zeroA findL sameI run_loads)
open Go.Proofs.Ytiaafjabhnomeaa.Cl (Cl encC encC_len)
open Go.Proofs.Ytiaafjabhnomeaa.Rv
open Go.Proofs.Ytiaafjabhnomeaa.Ls
open Go.Proofs.Ytiaafjabhnomeaa.Ad (load_w load_l store_new kept_row)
open Go.Proofs.Ytiaafjabhnomeaa.Au (Stab stab_and stab_kept)
open Wh (Fr)
set_option linter.unusedVariables false
set_option linter.unusedSimpArgs false
set_option maxRecDepth 20000

/-- no call of x's is e's, or they have one key -/
def okC (x e : Re) (c : Cl) : Bool := !(!decide (e.k = x.k) && e.en.has (ci c))
def okE (x e : Re) : Bool := x.K.all fun c => okC x e c
def apartB (x : Re) (E : List Re) : Bool := E.all fun e => okE x e
theorem all_take {α : Type} {f : α → Bool} {L : List α} {i : Nat} {x : α} (h : (L.take i).all f = true) (hx : L[i]? = some x) (hf : f x = true) : (L.take (i + 1)).all f = true := by
  rw [List.take_add_one, hx, List.all_append, h]; simp [hf]
theorem all_no {α : Type} {f : α → Bool} {L : List α} {i : Nat} {x : α} (hx : L[i]? = some x) (hf : f x = false) : L.all f = false :=
  List.all_eq_false.2 ⟨x, List.mem_of_getElem? hx, by rw [hf]; exact Bool.false_ne_true⟩
theorem okC_same {x e : Re} (c : Cl) (h : (!decide (e.k = x.k)) = false) : okC x e c = true := by unfold okC; rw [h]; rfl
theorem okC_other {x e : Re} (c : Cl) (h : (!decide (e.k = x.k)) = true) : okC x e c = !e.en.has (ci c) := by unfold okC; rw [h]; rfl

set_option maxHeartbeats 8000000 in
theorem rtapart_any {w : World} {R : Nat} {v : Value} {E : List Re} (h : Rt w R v E) (hcl : ∀ e ∈ E, ∀ u, Kept w u → Cls u (.slice e.q e.n e.c) e.K) (x : Re) (hx : ∀ u, Kept w u → Cls u (.slice x.q x.n x.c) x.K) : Calls Try.prog 7 #[.pointer (some ⟨R, 0, none⟩), .agg x.arr] w fun r w' => r = .returned (.bool (apartB x E)) ∧ Kept w w' := by
  obtain ⟨A, hA⟩ : ∃ A, x.arr = A := ⟨_, rfl⟩
  obtain ⟨xp, xn, xc, hsl, hM, hxm⟩ := (hx w (Kept.refl _)).slice
  have c0 : A[0]? = some (.int .i64 x.o.kn) := by rw [← hA]; rfl
  have c1 : A[1]? = some (.int .i64 x.o.ki) := by rw [← hA]; rfl
  have c2 : A[2]? = some (.int .i64 x.o.ks) := by rw [← hA]; rfl
  have c3 : A[3]? = some (.int .i64 x.o.ka) := by rw [← hA]; rfl
  have c18 : A[18]? = some (.slice x.q x.n x.c) := by rw [← hA]; rfl
  rw [hsl] at c18 hx
  rw [hA]
  clear hA hsl
  obtain ⟨W, hW⟩ : ∃ W, w.alloc (.cells A 35) = W := ⟨_, rfl⟩
  have hb : Bl w W [(A, 35)] := hW ▸ Bl.one w _ _
  obtain ⟨p, N, cap, rfl⟩ := RowV.shape h.row
  have hN : E.length = N := by
    rcases h.row.2 with ⟨e, hn⟩ | ⟨g, cap, cur, e, _⟩
    · cases e; exact hn
    · cases e; rfl
  have hm2 : N ≤ 800000 := by have := h.len; omega
  have hm3 : xn ≤ 9223372036854775807 := by unfold maxLen at hxm; omega
  obtain ⟨Z, hZ⟩ : ∃ Z, apartB x E = Z := ⟨_, rfl⟩
  rw [hZ]
  have HC := Lib.hid (And.intro c0 (And.intro c1 (And.intro c2 (And.intro c3 c18))))
  have HT := Lib.hid (h.kept hb.kept)
  have HN := Lib.hid hN
  have HM := Lib.hid hM
  have HB := Lib.hid hb
  have HW := Lib.hid hW
  have HL := Lib.hid hcl
  have HX := Lib.hid hx
  have HZ := Lib.hid hZ
  clear h hN hM hb hW hcl hx hZ c0 c1 c2 c3 c18 hxm
  go_enter Try.func7, Try.ntmps7
  go_upto_region 1 with fail
  rw [HW.out]
  go_wp2_with fail
  go_loopw [5] (fun y wr => ∃ i : Nat, i ≤ N ∧ y = .int .i64 (i : Int) ∧ Hid (Kept W wr) ∧ Hid ((E.take i).all (okE x) = true)) (fun y _ => N - (intOf y).toNat)
  case atStart => exact ⟨0, Nat.zero_le _, rfl, Lib.hid (Kept.refl _), rfl⟩
  case round =>
    obtain ⟨i, hi, rfl, hk, hA⟩ := hrel
    have c0 := (HT.out.kept hk.out).c0
    by_cases hlt : i < N
    · obtain ⟨e, g, cap', he, e1, hg, le, lk⟩ := Rr.at (HT.out.kept hk.out).row (i := i) (by rw [HN.out]; exact hlt)
      obtain ⟨e2, e3⟩ : p = some ⟨g, 0, none⟩ ∧ cap = cap' := by injection e1 with a b c; exact ⟨a, c⟩
      clear e1
      subst e2; subst e3
      have hi1 : (i : Int) < N := by omega
      have e5 : (0 : Nat) + i * 19 = i * 19 := Nat.zero_add _
      have HE := Lib.hid he
      have hmem := List.mem_of_getElem? he
      have LE := Lib.hid (fun (u : World) (hu : Kept wr u) => show (loadVar 35 ⟨g, i * 19, none⟩).run Try.prog u = .ok (.agg (e.o.arr e.q e.n e.c)) u from le u hu)
      have LK := Lib.hid (show ∀ u, Kept wr u → (loadVar 32 ⟨g, i * 19, none⟩).run Try.prog u = .ok (.agg #[.int .i64 e.k.n, .int .i64 e.k.i, .int .i64 e.k.s, .int .i64 e.k.a]) u from lk)
      obtain ⟨z, hz⟩ : ∃ z, (!decide (e.k = x.k)) = z := ⟨_, rfl⟩
      have hq := fun u => neq_key e.k.n e.k.i e.k.s e.k.a x.o.kn x.o.ki x.o.ks x.o.ka u
      rw [show (⟨e.k.n, e.k.i, e.k.s, e.k.a⟩ : Ke) = e.k from rfl, show (⟨x.o.kn, x.o.ki, x.o.ks, x.o.ka⟩ : Ke) = x.k from rfl, hz] at hq
      have HZ1 := Lib.hid hz
      clear le lk he hz
      go_wp2_with fail
      go_loopw [6] (fun y wq => ∃ j : Nat, j ≤ xn ∧ y = .int .i64 (j : Int) ∧ Hid (Kept wr wq) ∧ Hid ((x.K.take j).all (okC x e) = true)) (fun y _ => xn - (intOf y).toNat)
      case atStart => exact ⟨0, Nat.zero_le _, rfl, Lib.hid (Kept.refl _), rfl⟩
      case round =>
        obtain ⟨j, hj, rfl, hkq, hJ⟩ := hrel
        have k18 : wr.cell? ⟨w.heap.size, 18, none⟩ = some (.slice xp xn xc) := ((HB.out.go (hk.out.trans hkq.out)).cell 0 18 rfl).trans HC.out.2.2.2.2
        by_cases hlj : j < xn
        · obtain ⟨c, cb, co, hc, rfl, hcb, hcc⟩ := (HX.out wr ((HB.out.kept.trans hk.out).trans hkq.out)).pick (i := j) (by rw [HM.out]; exact hlj)
          have hj1 : (j : Int) < xn := by omega
          have HJ := Lib.hid hc
          have hSt : Stab (fun u => Kept wr u) := stab_kept wr
          have LL := Lib.hid (fun (u : World) (hu : Kept wr u) => run_loadL ((HT.out.kept ((hk.out.trans hkq.out).trans hu)).c0))
          have L1 := Lib.hid (fun (u : World) (hu : Kept wr u) => LK.out u (hkq.out.trans hu))
          have L2 := Lib.hid (fun (u : World) (hu : Kept wr u) => by
            have hB := HB.out.go ((hk.out.trans hkq.out).trans hu)
            exact load_key (u := u) (b := w.heap.size) (o := 0) ((hB.cell 0 0 rfl).trans HC.out.1) ((hB.cell 0 1 rfl).trans HC.out.2.1) ((hB.cell 0 2 rfl).trans HC.out.2.2.1) ((hB.cell 0 3 rfl).trans HC.out.2.2.2.1))
          have L3 := Lib.hid (fun (u : World) (hu : Kept wr u) => LE.out u (hkq.out.trans hu))
          have L4 := Lib.hid (fun (u : World) (hu : Kept wr u) => run_loads (p := ⟨w.heap.size, 18, none⟩) (((HB.out.go ((hk.out.trans hkq.out).trans hu)).cell 0 18 rfl).trans HC.out.2.2.2.2))
          have L5 := Lib.hid (fun (u : World) (hu : Kept wr u) => load_id (u := u) (b := cb) (o := co + j * 13) ((Below.cell hu (p := ⟨cb, _, none⟩) hcb).trans (hcc 0 _ rfl)) ((Below.cell hu (p := ⟨cb, _, none⟩) hcb).trans (hcc 1 _ rfl)) ((Below.cell hu (p := ⟨cb, _, none⟩) hcb).trans (hcc 2 _ rfl)))
          obtain ⟨f, hf⟩ : ∃ f, e.en.has (ci c) = f := ⟨_, rfl⟩
          obtain ⟨y, hy⟩ : ∃ y, findL e.K ⟨c.n, c.i, c.s⟩ = y := ⟨_, rfl⟩
          have hyz := found_has e (ci c)
          rw [show findL e.K ⟨(ci c).n, (ci c).i, (ci c).s⟩ = y from hy, hf] at hyz
          have CF := Lib.hid (fun (u : World) (hu : Kept wr u) => by
            have := Ow.rfind_any e.o (HL.out e hmem u ((((HB.out.kept.trans hk.out).trans hkq.out).trans hu))) ⟨c.n, c.i, c.s⟩
            rw [hy] at this; exact this)
          have HF := Lib.hid hf
          clear hc hcc hf hy hcb
          go_upto_region 7 with fail
          refine Av.region 28 (fun u => Kept wr u) (by kernel_rfl) ((Kept.refl wr).drew) ?_
          refine Av.take 0 (some 23) (v := ?_) rfl rfl (by kernel_rfl) (by kernel_rfl) (by kernel_rfl) (by kernel_rfl) (fun _ _ _ h => h) hSt (Au.yq_run (by rfl) (fun u hu => ?_)) ?_
          rotate_left
          · (clear hu; go_simp; try with_reducible rfl)
          simp only [Act.put, List.setIfInBounds_toArray, List.set_cons_zero, List.set_cons_succ]
          refine Av.take 1 (some 24) (v := ?_) rfl rfl (by kernel_rfl) (by kernel_rfl) (by kernel_rfl) (by kernel_rfl) (fun _ _ _ h => h) hSt (Au.yq_run (by rfl) (fun u hu => ?_)) ?_
          rotate_left
          · (clear hu; go_simp; try with_reducible rfl)
          simp only [Act.put, List.setIfInBounds_toArray, List.set_cons_zero, List.set_cons_succ]
          refine Av.take 2 (some 25) (v := ?_) rfl rfl (by kernel_rfl) (by kernel_rfl) (by kernel_rfl) (by kernel_rfl) (fun _ _ _ h => h) hSt (Au.yq_run (by rfl) (fun u hu => ?_)) ?_
          rotate_left
          · (clear hu; go_simp; try with_reducible rfl)
          simp only [Act.put, List.setIfInBounds_toArray, List.set_cons_zero, List.set_cons_succ]
          refine Av.take 3 (some 26) rfl rfl (by kernel_rfl) (by kernel_rfl) (by kernel_rfl) (by kernel_rfl) (fun _ _ _ h => h) hSt (Au.yq_load 26 (.tmp 25) rfl _ rfl (by rfl) (fun u hu => LL.out u hu)) ?_
          simp only [Act.put, List.setIfInBounds_toArray, List.set_cons_zero, List.set_cons_succ]
          refine Av.take 4 (some 27) (v := ?_) rfl rfl (by kernel_rfl) (by kernel_rfl) (by kernel_rfl) (by kernel_rfl) (fun _ _ _ h => h) hSt (Au.yq_run (by rfl) (fun u hu => ?_)) ?_
          rotate_left
          · (clear hu; go_simp; try with_reducible rfl)
          simp only [Act.put, List.setIfInBounds_toArray, List.set_cons_zero, List.set_cons_succ]
          refine Av.take 5 (some 28) (v := ?_) rfl rfl (by kernel_rfl) (by kernel_rfl) (by kernel_rfl) (by kernel_rfl) (fun _ _ _ h => h) hSt (Au.yq_run (by rfl) (fun u hu => ?_)) ?_
          rotate_left
          · (clear hu; go_simp; try with_reducible rfl)
          simp only [Act.put, List.setIfInBounds_toArray, List.set_cons_zero, List.set_cons_succ]
          refine Av.take 6 (some 29) (v := ?_) rfl rfl (by kernel_rfl) (by kernel_rfl) (by kernel_rfl) (by kernel_rfl) (fun _ _ _ h => h) hSt (Au.yq_run (by rfl) (fun u hu => ?_)) ?_
          rotate_left
          · (clear hu; go_simp; try with_reducible rfl)
          simp only [Act.put, List.setIfInBounds_toArray, List.set_cons_zero, List.set_cons_succ]
          refine Av.take 7 (some 30) rfl rfl (by kernel_rfl) (by kernel_rfl) (by kernel_rfl) (by kernel_rfl) (fun _ _ _ h => h) hSt (Au.yq_load 32 (.tmp 29) rfl _ rfl (by rfl) (fun u hu => L1.out u hu)) ?_
          simp only [Act.put, List.setIfInBounds_toArray, List.set_cons_zero, List.set_cons_succ]
          refine Av.take 8 (some 31) (v := ?_) rfl rfl (by kernel_rfl) (by kernel_rfl) (by kernel_rfl) (by kernel_rfl) (fun _ _ _ h => h) hSt (Au.yq_run (by rfl) (fun u hu => ?_)) ?_
          rotate_left
          · (clear hu; go_simp; try with_reducible rfl)
          simp only [Act.put, List.setIfInBounds_toArray, List.set_cons_zero, List.set_cons_succ]
          refine Av.take 9 (some 32) rfl rfl (by kernel_rfl) (by kernel_rfl) (by kernel_rfl) (by kernel_rfl) (fun _ _ _ h => h) hSt (Au.yq_load 32 (.tmp 31) rfl _ rfl (by rfl) (fun u hu => L2.out u hu)) ?_
          simp only [Act.put, List.setIfInBounds_toArray, List.set_cons_zero, List.set_cons_succ]
          refine Av.take 10 (some 33) (v := ?_) rfl rfl (by kernel_rfl) (by kernel_rfl) (by kernel_rfl) (by kernel_rfl) (fun _ _ _ h => h) hSt (Au.yq_run (by rfl) (fun u hu => ?_)) ?_
          rotate_left
          · (clear hu; go_simp; try with_reducible rfl)
          simp only [Act.put, List.setIfInBounds_toArray, List.set_cons_zero, List.set_cons_succ]
          refine Av.take 11 (some 34) (v := ?_) rfl rfl (by kernel_rfl) (by kernel_rfl) (by kernel_rfl) (by kernel_rfl) (fun _ _ _ h => h) hSt (Au.yq_run (by rfl) (fun u hu => ?_)) ?_
          rotate_left
          · (clear hu; go_simp; try with_reducible rfl)
          simp only [Act.put, List.setIfInBounds_toArray, List.set_cons_zero, List.set_cons_succ]
          cases z
          · have hoc : okC x e c = true := okC_same c HZ1.out
            refine Av.take 12 (some 35) rfl rfl (by kernel_rfl) (by kernel_rfl) (by kernel_rfl) (by kernel_rfl) (fun _ _ _ h => h) hSt (Au.yq_skip (by rfl)) ?_
            simp only [Act.put, List.setIfInBounds_toArray, List.set_cons_zero, List.set_cons_succ]
            refine Av.take 13 (some 36) rfl rfl (by kernel_rfl) (by kernel_rfl) (by kernel_rfl) (by kernel_rfl) (fun _ _ _ h => h) hSt (Au.yq_skip (by rfl)) ?_
            simp only [Act.put, List.setIfInBounds_toArray, List.set_cons_zero, List.set_cons_succ]
            refine Av.take 14 (some 37) rfl rfl (by kernel_rfl) (by kernel_rfl) (by kernel_rfl) (by kernel_rfl) (fun _ _ _ h => h) hSt (Au.yq_skip (by rfl)) ?_
            simp only [Act.put, List.setIfInBounds_toArray, List.set_cons_zero, List.set_cons_succ]
            refine Av.take 15 (some 38) rfl rfl (by kernel_rfl) (by kernel_rfl) (by kernel_rfl) (by kernel_rfl) (fun _ _ _ h => h) hSt (Au.yq_skip (by rfl)) ?_
            simp only [Act.put, List.setIfInBounds_toArray, List.set_cons_zero, List.set_cons_succ]
            refine Av.take 16 (some 39) rfl rfl (by kernel_rfl) (by kernel_rfl) (by kernel_rfl) (by kernel_rfl) (fun _ _ _ h => h) hSt (Au.yq_skip (by rfl)) ?_
            simp only [Act.put, List.setIfInBounds_toArray, List.set_cons_zero, List.set_cons_succ]
            refine Av.take 17 (some 40) rfl rfl (by kernel_rfl) (by kernel_rfl) (by kernel_rfl) (by kernel_rfl) (fun _ _ _ h => h) hSt (Au.yq_skip (by rfl)) ?_
            simp only [Act.put, List.setIfInBounds_toArray, List.set_cons_zero, List.set_cons_succ]
            refine Av.take 18 (some 41) rfl rfl (by kernel_rfl) (by kernel_rfl) (by kernel_rfl) (by kernel_rfl) (fun _ _ _ h => h) hSt (Au.yq_skip (by rfl)) ?_
            simp only [Act.put, List.setIfInBounds_toArray, List.set_cons_zero, List.set_cons_succ]
            refine Av.take 19 (some 42) rfl rfl (by kernel_rfl) (by kernel_rfl) (by kernel_rfl) (by kernel_rfl) (fun _ _ _ h => h) hSt (Au.yq_skip (by rfl)) ?_
            simp only [Act.put, List.setIfInBounds_toArray, List.set_cons_zero, List.set_cons_succ]
            refine Av.take 20 (some 43) rfl rfl (by kernel_rfl) (by kernel_rfl) (by kernel_rfl) (by kernel_rfl) (fun _ _ _ h => h) hSt (Au.yq_skip (by rfl)) ?_
            simp only [Act.put, List.setIfInBounds_toArray, List.set_cons_zero, List.set_cons_succ]
            refine Av.take 21 (some 44) rfl rfl (by kernel_rfl) (by kernel_rfl) (by kernel_rfl) (by kernel_rfl) (fun _ _ _ h => h) hSt (Au.yq_skip (by rfl)) ?_
            simp only [Act.put, List.setIfInBounds_toArray, List.set_cons_zero, List.set_cons_succ]
            refine Av.take 22 (some 45) rfl rfl (by kernel_rfl) (by kernel_rfl) (by kernel_rfl) (by kernel_rfl) (fun _ _ _ h => h) hSt (Au.yq_skip (by rfl)) ?_
            simp only [Act.put, List.setIfInBounds_toArray, List.set_cons_zero, List.set_cons_succ]
            refine Av.take 23 (some 46) rfl rfl (by kernel_rfl) (by kernel_rfl) (by kernel_rfl) (by kernel_rfl) (fun _ _ _ h => h) hSt (Au.yq_skip (by rfl)) ?_
            simp only [Act.put, List.setIfInBounds_toArray, List.set_cons_zero, List.set_cons_succ]
            refine Av.take 24 (some 47) rfl rfl (by kernel_rfl) (by kernel_rfl) (by kernel_rfl) (by kernel_rfl) (fun _ _ _ h => h) hSt (Au.yq_skip (by rfl)) ?_
            simp only [Act.put, List.setIfInBounds_toArray, List.set_cons_zero, List.set_cons_succ]
            refine Av.take 25 (some 48) rfl rfl (by kernel_rfl) (by kernel_rfl) (by kernel_rfl) (by kernel_rfl) (fun _ _ _ h => h) hSt (Au.yq_skip (by rfl)) ?_
            simp only [Act.put, List.setIfInBounds_toArray, List.set_cons_zero, List.set_cons_succ]
            refine Av.take 26 (some 49) rfl rfl (by kernel_rfl) (by kernel_rfl) (by kernel_rfl) (by kernel_rfl) (fun _ _ _ h => h) hSt (Au.yq_skip (by rfl)) ?_
            simp only [Act.put, List.setIfInBounds_toArray, List.set_cons_zero, List.set_cons_succ]
            refine Av.take 27 (some 50) (v := ?_) rfl rfl (by kernel_rfl) (by kernel_rfl) (by kernel_rfl) (by kernel_rfl) (fun _ _ _ h => h) hSt (Au.yq_run (by rfl) (fun u hu => ?_)) ?_
            rotate_left
            · (clear hu; go_simp; try with_reducible rfl)
            simp only [Act.put, List.setIfInBounds_toArray, List.set_cons_zero, List.set_cons_succ]
            refine Av.done (by kernel_rfl) (fun u hu => ?_)
            have HU := Lib.hid hu
            clear hu
            go_wp2_with fail
            go_roundw
            case rel => exact ⟨j + 1, hlj, by go_num, Lib.hid (hkq.out.trans HU.out), Lib.hid (all_take hJ.out HJ.out hoc)⟩
            case measure => simp [intOf]; omega
          · have hoc : okC x e c = !f := by rw [okC_other c HZ1.out, HF.out]
            refine Av.take 12 (some 35) (v := ?_) rfl rfl (by kernel_rfl) (by kernel_rfl) (by kernel_rfl) (by kernel_rfl) (fun _ _ _ h => h) hSt (Au.yq_run (by rfl) (fun u hu => ?_)) ?_
            rotate_left
            · (clear hu; go_simp; try with_reducible rfl)
            simp only [Act.put, List.setIfInBounds_toArray, List.set_cons_zero, List.set_cons_succ]
            refine Av.take 13 (some 36) (v := ?_) rfl rfl (by kernel_rfl) (by kernel_rfl) (by kernel_rfl) (by kernel_rfl) (fun _ _ _ h => h) hSt (Au.yq_run (by rfl) (fun u hu => ?_)) ?_
            rotate_left
            · (clear hu; go_simp; try with_reducible rfl)
            simp only [Act.put, List.setIfInBounds_toArray, List.set_cons_zero, List.set_cons_succ]
            refine Av.take 14 (some 37) (v := ?_) rfl rfl (by kernel_rfl) (by kernel_rfl) (by kernel_rfl) (by kernel_rfl) (fun _ _ _ h => h) hSt (Au.yq_run (by rfl) (fun u hu => ?_)) ?_
            rotate_left
            · (clear hu; go_simp; try with_reducible rfl)
            simp only [Act.put, List.setIfInBounds_toArray, List.set_cons_zero, List.set_cons_succ]
            refine Av.take 15 (some 38) rfl rfl (by kernel_rfl) (by kernel_rfl) (by kernel_rfl) (by kernel_rfl) (fun _ _ _ h => h) hSt (Au.yq_load 26 (.tmp 37) rfl _ rfl (by rfl) (fun u hu => LL.out u hu)) ?_
            simp only [Act.put, List.setIfInBounds_toArray, List.set_cons_zero, List.set_cons_succ]
            refine Av.take 16 (some 39) (v := ?_) rfl rfl (by kernel_rfl) (by kernel_rfl) (by kernel_rfl) (by kernel_rfl) (fun _ _ _ h => h) hSt (Au.yq_run (by rfl) (fun u hu => ?_)) ?_
            rotate_left
            · (clear hu; go_simp; try with_reducible rfl)
            simp only [Act.put, List.setIfInBounds_toArray, List.set_cons_zero, List.set_cons_succ]
            refine Av.take 17 (some 40) (v := ?_) rfl rfl (by kernel_rfl) (by kernel_rfl) (by kernel_rfl) (by kernel_rfl) (fun _ _ _ h => h) hSt (Au.yq_run (by rfl) (fun u hu => ?_)) ?_
            rotate_left
            · (clear hu; go_simp; try with_reducible rfl)
            simp only [Act.put, List.setIfInBounds_toArray, List.set_cons_zero, List.set_cons_succ]
            refine Av.take 18 (some 41) rfl rfl (by kernel_rfl) (by kernel_rfl) (by kernel_rfl) (by kernel_rfl) (fun _ _ _ h => h) hSt (Au.yq_load 35 (.tmp 40) rfl _ rfl (by rfl) (fun u hu => L3.out u hu)) ?_
            simp only [Act.put, List.setIfInBounds_toArray, List.set_cons_zero, List.set_cons_succ]
            refine Av.take 19 (some 42) (v := ?_) rfl rfl (by kernel_rfl) (by kernel_rfl) (by kernel_rfl) (by kernel_rfl) (fun _ _ _ h => h) hSt (Au.yq_run (by rfl) (fun u hu => ?_)) ?_
            rotate_left
            · (clear hu; go_simp; try with_reducible rfl)
            simp only [Act.put, List.setIfInBounds_toArray, List.set_cons_zero, List.set_cons_succ]
            refine Av.take 20 (some 43) rfl rfl (by kernel_rfl) (by kernel_rfl) (by kernel_rfl) (by kernel_rfl) (fun _ _ _ h => h) hSt (Au.yq_load 33 (.tmp 42) rfl _ rfl (by rfl) (fun u hu => L4.out u hu)) ?_
            simp only [Act.put, List.setIfInBounds_toArray, List.set_cons_zero, List.set_cons_succ]
            refine Av.take 21 (some 44) (v := ?_) rfl rfl (by kernel_rfl) (by kernel_rfl) (by kernel_rfl) (by kernel_rfl) (fun _ _ _ h => h) hSt (Au.yq_run (by rfl) (fun u hu => ?_)) ?_
            rotate_left
            · (clear hu; go_simp; try with_reducible rfl)
            simp only [Act.put, List.setIfInBounds_toArray, List.set_cons_zero, List.set_cons_succ]
            refine Av.take 22 (some 45) (v := ?_) rfl rfl (by kernel_rfl) (by kernel_rfl) (by kernel_rfl) (by kernel_rfl) (fun _ _ _ h => h) hSt (Au.yq_run (by rfl) (fun u hu => ?_)) ?_
            rotate_left
            · (clear hu; go_simp; try with_reducible rfl)
            simp only [Act.put, List.setIfInBounds_toArray, List.set_cons_zero, List.set_cons_succ]
            refine Av.take 23 (some 46) (v := ?_) rfl rfl (by kernel_rfl) (by kernel_rfl) (by kernel_rfl) (by kernel_rfl) (fun _ _ _ h => h) hSt (Au.yq_run (by rfl) (fun u hu => ?_)) ?_
            rotate_left
            · (clear hu; go_simp; try with_reducible rfl)
            simp only [Act.put, List.setIfInBounds_toArray, List.set_cons_zero, List.set_cons_succ]
            refine Av.take 24 (some 47) rfl rfl (by kernel_rfl) (by kernel_rfl) (by kernel_rfl) (by kernel_rfl) (fun _ _ _ h => h) hSt (Au.yq_load 30 (.tmp 46) rfl _ rfl (by rfl) (fun u hu => L5.out u hu)) ?_
            simp only [Act.put, List.setIfInBounds_toArray, List.set_cons_zero, List.set_cons_succ]
            refine Av.take 25 (some 48) rfl rfl (by kernel_rfl) (by kernel_rfl) (by kernel_rfl) (by kernel_rfl) (fun _ _ _ h => h) hSt (Au.yq_call 25 _ (by rfl) (fun u => by go_simp) (fun u hu => CF.out u hu)) ?_
            simp only [Act.put, List.setIfInBounds_toArray, List.set_cons_zero, List.set_cons_succ]
            cases f
            · have hy0 : ¬ 0 ≤ y := of_decide_eq_false hyz
              refine Av.take 26 (some 49) (v := ?_) rfl rfl (by kernel_rfl) (by kernel_rfl) (by kernel_rfl) (by kernel_rfl) (fun _ _ _ h => h) hSt (Au.yq_run (by rfl) (fun u hu => ?_)) ?_
              rotate_left
              · (clear hu; go_simp; try with_reducible rfl)
              simp only [Act.put, List.setIfInBounds_toArray, List.set_cons_zero, List.set_cons_succ]
              refine Av.take 27 (some 50) (v := ?_) rfl rfl (by kernel_rfl) (by kernel_rfl) (by kernel_rfl) (by kernel_rfl) (fun _ _ _ h => h) hSt (Au.yq_run (by rfl) (fun u hu => ?_)) ?_
              rotate_left
              · (clear hu; go_simp; try with_reducible rfl)
              simp only [Act.put, List.setIfInBounds_toArray, List.set_cons_zero, List.set_cons_succ]
              refine Av.done (by kernel_rfl) (fun u hu => ?_)
              have HU := Lib.hid hu
              clear hu
              go_wp2_with fail
              go_roundw
              case rel => exact ⟨j + 1, hlj, by go_num, Lib.hid (hkq.out.trans HU.out), Lib.hid (all_take hJ.out HJ.out hoc)⟩
              case measure => simp [intOf]; omega
            · have hy0 : 0 ≤ y := of_decide_eq_true hyz
              refine Av.take 26 (some 49) (v := ?_) rfl rfl (by kernel_rfl) (by kernel_rfl) (by kernel_rfl) (by kernel_rfl) (fun _ _ _ h => h) hSt (Au.yq_run (by rfl) (fun u hu => ?_)) ?_
              rotate_left
              · (clear hu; go_simp; try with_reducible rfl)
              simp only [Act.put, List.setIfInBounds_toArray, List.set_cons_zero, List.set_cons_succ]
              refine Av.take 27 (some 50) (v := ?_) rfl rfl (by kernel_rfl) (by kernel_rfl) (by kernel_rfl) (by kernel_rfl) (fun _ _ _ h => h) hSt (Au.yq_run (by rfl) (fun u hu => ?_)) ?_
              rotate_left
              · (clear hu; go_simp; try with_reducible rfl)
              simp only [Act.put, List.setIfInBounds_toArray, List.set_cons_zero, List.set_cons_succ]
              refine Av.done (by kernel_rfl) (fun u hu => ?_)
              have HU := Lib.hid hu
              clear hu
              have hZ : Z = false := HZ.out.symm.trans (all_no HE.out (all_no HJ.out hoc))
              go_wp2_with fail
              go_ret
              exact ⟨by subst hZ; rfl, ((HB.out.kept.trans hk.out).trans hkq.out).trans HU.out⟩
        · obtain rfl : j = xn := by omega
          have hoe : okE x e = true := by have := hJ.out; rwa [List.take_of_length_le (Nat.le_of_eq HM.out)] at this
          go_wp2_with fail
          go_roundw
          case rel => exact ⟨i + 1, hlt, by go_num, Lib.hid (hk.out.trans hkq.out), Lib.hid (all_take hA.out HE.out hoe)⟩
          case measure => simp [intOf]; omega
    · obtain rfl : i = N := by omega
      have hZ : Z = true := HZ.out.symm.trans (by have := hA.out; rwa [List.take_of_length_le (Nat.le_of_eq HN.out)] at this)
      go_wp2_with fail
      go_ret
      exact ⟨by subst hZ; rfl, HB.out.kept.trans hk.out⟩

end Go.Proofs.Ytiaafjabhnomeaa.Tb
end
