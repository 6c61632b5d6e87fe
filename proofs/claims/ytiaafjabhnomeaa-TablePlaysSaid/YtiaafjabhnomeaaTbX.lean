/- The document's table in memory: owners in a slice, rising; Find, Drop. -/
import Derived.Test.YtiaafjabhnomeaaTbR
import Derived.Test.YtiaafjabhnomeaaTbM
import Derived.Test.YtiaafjabhnomeaaOw4
namespace Go.Proofs.Ytiaafjabhnomeaa.Tb
open Go.RowKit Go.Sort IdM Se Mv Blk
open St (Kept blk_cell blk_free blk_lt blk_set)
open Go.Proofs.Ytiaafjabhnomeaa.Ow (Ow Cls load_key arr_one info_row)
open Go.Proofs.Ytiaafjabhnomeaa.Cl (Cl)
open Go.Proofs.Ytiaafjabhnomeaa.Rv
open Go.Proofs.Ytiaafjabhnomeaa.Ls
open Go.Proofs.Ytiaafjabhnomeaa.Ad (load_w load_l store_new kept_row)
open Wh (Fr)
set_option linter.unusedVariables false
set_option linter.unusedSimpArgs false
set_option maxRecDepth 20000

/-- an owner as the document's table has it; K: what its calls read as -/
structure Re where
  o : Ow
  q : Option Addr
  n : Nat
  c : Nat
  K : List Cl
def Re.arr (e : Re) : Array Value := e.o.arr e.q e.n e.c
def Re.en (e : Re) : En := ⟨e.o, e.K⟩
def Re.k (e : Re) : Ke := ok e.o
def encR (e : Re) : List Value := e.arr.toList
def zsR : List Value := (Ow.zero.arr none 0 0).toList
theorem arr_list_one (o : Ow) (q : Option Addr) (n c : Nat) : ∀ u ∈ (o.arr q n c).toList, u.oneCell' = true := fun u hu => by
  have h := arr_one o q n c
  rw [Array.all_eq_true'] at h
  exact h u (by simpa using hu)
theorem enc_row : EncT (α := Re) 26 35 19 168 zsR encR :=
  ⟨Try.underlying26, by kernel_rfl, by decide, by decide, rfl, arr_list_one _ _ _ _, fun _ => rfl, fun e => arr_list_one _ _ _ _⟩
abbrev Rr (w : World) (v : Value) (E : List Re) : Prop := RowV w v 35 19 encR E
theorem arr_to (e : Re) : (encR e).toArray = e.arr := by unfold encR; simp
theorem Re.size (e : Re) : e.arr.size = 19 := rfl

structure Rt (w : World) (R : Nat) (v : Value) (E : List Re) : Prop where
  blk : w.heap[R]? = some (.cells #[v] 28 (0, 0))
  row : Rr w v E
  ne : ∀ g, v.ownBlock = some g → g ≠ R
  len : E.length ≤ 800000
section
variable {w w' : World} {R : Nat} {v : Value} {E : List Re} {S : Nat → Prop}
theorem Rt.kept (h : Rt w R v E) (k : Kept w w') : Rt w' R v E := ⟨kept_at k h.blk, RowV.keep h.row k, h.ne, h.len⟩
theorem Rt.fr (h : Rt w R v E) (k : Fr S w w') (h1 : ¬ S R) (h2 : ∀ g, v.ownBlock = some g → ¬ S g) : Rt w' R v E := ⟨(k.block R (blk_lt h.blk) h1).trans h.blk, RowV.kept h.row fun g e => k.block g (RowV.lt h.row e) (h2 g e), h.ne, h.len⟩
theorem Rt.c0 (h : Rt w R v E) : w.cell? ⟨R, 0, none⟩ = some v := by rw [blk_cell h.blk]; rfl
theorem Rr.at {i : Nat} (h : Rr w v E) (hi : i < E.length) : ∃ e g cap, E[i]? = some e ∧ v = .slice (some ⟨g, 0, none⟩) E.length cap ∧ g < w.heap.size ∧ (∀ u, Kept w u → (loadVar 35 ⟨g, i * 19, none⟩).run Try.prog u = .ok (.agg e.arr) u) ∧
    ∀ u, Kept w u → (loadVar 32 ⟨g, i * 19, none⟩).run Try.prog u = .ok (kv e.k) u := by
  have hx := List.getElem?_eq_getElem hi
  obtain ⟨g, cap, e1, h1, h2, hc⟩ := RowV.at h (fun _ => rfl) hx
  refine ⟨_, g, cap, hx, e1, h2, fun u hu => ?_, fun u hu => ?_⟩
  · have := run_loadVar_mid u g (i * 19) (P := Try.prog) 35 (encR E[i]) _ (fun j x hj => (Below.cell hu (p := ⟨g, _, none⟩) h2).trans (hc j x hj)) Try.underlying35 rfl info_row
    rw [arr_to] at this; exact this
  · have hk : ∀ j x, j < 19 → (encR E[i])[j]? = some x → u.cell? ⟨g, i * 19 + j, none⟩ = some x := fun j x _ hj => (Below.cell hu (p := ⟨g, _, none⟩) h2).trans (hc j x hj)
    exact load_key (hk 0 _ (by decide) rfl) (hk 1 _ (by decide) rfl) (hk 2 _ (by decide) rfl) (hk 3 _ (by decide) rfl)
theorem run_loadL {w : World} {p : Addr} {q : Option Addr} {n c : Nat} (hc : w.cell? p = some (.slice q n c)) : (loadVar 26 p).run Try.prog w = .ok (.slice q n c) w := by go_simp
end

/-- the place of a key -/
def idxE (x : Ke) (E : List Re) : Int := match E.findIdx? fun e => decide (e.k = x) with | some i => (i : Int) | none => -1
theorem re_hit {x : Ke} : ∀ {E : List Re} {i : Nat} {e : Re}, (E.take i).any (fun e => decide (e.k = x)) = false → E[i]? = some e → e.k = x → E.findIdx? (fun e => decide (e.k = x)) = some i
  | [], i, e, _, hx, _ => by simp at hx
  | a :: l, 0, e, _, hx, hf => by
    simp only [List.getElem?_cons_zero, Option.some.injEq] at hx
    subst hx
    simp [List.findIdx?_cons, hf]
  | a :: l, i + 1, e, h, hx, hf => by
    rw [List.take_succ_cons, List.any_cons, Bool.or_eq_false_iff] at h
    have ih := re_hit h.2 (by simpa using hx) hf
    simp only [List.findIdx?_cons, h.1, ih]
    rfl
theorem re_miss {x : Ke} : ∀ {E : List Re}, E.any (fun e => decide (e.k = x)) = false → E.findIdx? (fun e => decide (e.k = x)) = none
  | [], _ => rfl
  | a :: l, h => by
    rw [List.any_cons, Bool.or_eq_false_iff] at h
    simp only [List.findIdx?_cons, h.1, re_miss h.2]
    rfl
theorem re_take {x : Ke} {E : List Re} {i : Nat} {e : Re} (h : (E.take i).any (fun e => decide (e.k = x)) = false) (hx : E[i]? = some e) (hf : decide (e.k = x) = false) : (E.take (i + 1)).any (fun e => decide (e.k = x)) = false := by
  rw [List.take_add_one, hx, List.any_append, h]; simp only [Option.toList_some, List.any_cons, List.any_nil, hf]; rfl
theorem idxE_hit {x : Ke} {E : List Re} {i : Nat} {e : Re} (h : (E.take i).any (fun e => decide (e.k = x)) = false) (hx : E[i]? = some e) (hf : decide (e.k = x) = true) : idxE x E = (i : Int) := by unfold idxE; rw [re_hit h hx (of_decide_eq_true hf)]
theorem idxE_miss {x : Ke} {E : List Re} (h : E.any (fun e => decide (e.k = x)) = false) : idxE x E = -1 := by unfold idxE; rw [re_miss h]

set_option maxHeartbeats 2000000 in
theorem rtfind_any {w : World} {R : Nat} {v : Value} {E : List Re} (h : Rt w R v E) (x : Ke) : Calls Try.prog 14 #[.pointer (some ⟨R, 0, none⟩), kv x] w fun e w' => e = .returned (.int .i64 (idxE x E)) ∧ Kept w w' := by
  obtain ⟨W, hW⟩ : ∃ W, w.alloc (.cells #[.int .i64 x.n, .int .i64 x.i, .int .i64 x.s, .int .i64 x.a] 32) = W := ⟨_, rfl⟩
  have hb : Bl w W [(#[.int .i64 x.n, .int .i64 x.i, .int .i64 x.s, .int .i64 x.a], 32)] := hW ▸ Bl.one w _ _
  obtain ⟨Z, hZ⟩ : ∃ Z, idxE x E = Z := ⟨_, rfl⟩
  rw [hZ]
  obtain ⟨p, N, cap, rfl⟩ := RowV.shape h.row
  have hN : E.length = N := by
    rcases h.row.2 with ⟨e, hn⟩ | ⟨g, cap, cur, e, _⟩
    · cases e; exact hn
    · cases e; rfl
  have hm2 : N ≤ 800000 := by have := h.len; omega
  have HT := Lib.hid (h.kept hb.kept)
  have HZ := Lib.hid hZ
  have HB := Lib.hid hb
  have HW := Lib.hid hW
  have HN := Lib.hid hN
  clear h hb hW hN hZ
  unfold kv
  go_enter Try.func14, Try.ntmps14
  go_upto_region 1 with fail
  rw [HW.out]
  go_wp2_with fail
  go_loopw [5] (fun y wr => ∃ i : Nat, i ≤ N ∧ y = .int .i64 (i : Int) ∧ Kept W wr ∧ Hid ((E.take i).any (fun e => decide (e.k = x)) = false)) (fun y _ => N - (intOf y).toNat)
  case atStart => exact ⟨0, Nat.zero_le _, rfl, Kept.refl _, rfl⟩
  case round =>
    obtain ⟨i, hi, rfl, hk, hA⟩ := hrel
    have c0 := (HT.out.kept hk).c0
    by_cases hlt : i < N
    · obtain ⟨e, g, cap', he, e1, hg, _, lk⟩ := Rr.at (HT.out.kept hk).row (i := i) (by rw [HN.out]; exact hlt)
      obtain ⟨e2, e3⟩ : p = some ⟨g, 0, none⟩ ∧ cap = cap' := by injection e1 with a b c; exact ⟨a, c⟩
      clear e1
      subst e2; subst e3
      have l1 := Ad.loadk_regrown (W := wr) (p := ⟨R, 0, none⟩) (fun u hu => run_loadL ((HT.out.kept (hk.trans hu)).c0))
      have l2 := Ad.loadk_regrown (W := wr) (p := ⟨g, i * 19, none⟩) lk
      have l3 := Ad.loadk_regrown (W := wr) (p := ⟨w.heap.size, 0, none⟩) (fun u hu => load_key ((HB.out.go (hk.trans hu)).cell 0 0 rfl) ((HB.out.go (hk.trans hu)).cell 0 1 rfl) ((HB.out.go (hk.trans hu)).cell 0 2 rfl) ((HB.out.go (hk.trans hu)).cell 0 3 rfl))
      obtain ⟨z, hz⟩ : ∃ z, decide (e.k = x) = z := ⟨_, rfl⟩
      have hq := fun u => eq_key e.k.n e.k.i e.k.s e.k.a x.n x.i x.s x.a u
      rw [show (⟨e.k.n, e.k.i, e.k.s, e.k.a⟩ : Ke) = e.k from rfl, show (⟨x.n, x.i, x.s, x.a⟩ : Ke) = x from rfl, hz] at hq
      have HE := Lib.hid he
      have HZZ := Lib.hid hz
      have hi1 : (i : Int) < N := by omega
      have e5 : (0 : Nat) + i * 19 = i * 19 := Nat.zero_add _
      clear he hz lk
      unfold kv at l2
      go_wp2_with fail
      refine wp_region_quiet_below (by kernel_rfl) (by kernel_rfl) ?_
      repeat (first
        | (go_big_quiet_want; refine Ad.quiet_load 26 (.tmp 17) rfl _ rfl _ l1.out ?_; simp only [Act.put, List.setIfInBounds_toArray, List.set_cons_succ, List.set_cons_zero]; go_big_quiet_on)
        | (go_big_quiet_want; refine Ad.quiet_load 32 (.tmp 21) rfl _ rfl _ l2.out ?_; simp only [Act.put, List.setIfInBounds_toArray, List.set_cons_succ, List.set_cons_zero]; go_big_quiet_on)
        | (go_big_quiet_want; refine Ad.quiet_load 32 (.tmp 3) rfl _ rfl _ l3.out ?_; simp only [Act.put, List.setIfInBounds_toArray, List.set_cons_succ, List.set_cons_zero]; go_big_quiet_on)
        | go_big_quiet_step (fail))
      refine wpQuiet_nil ?_
      intro _ hw'
      obtain ⟨⟨dq, osq⟩, hw''⟩ := hw'
      subst hw''
      have hk2 := hk.trans (below_regrown wr dq osq)
      cases z
      · go_wp2_with fail
        go_roundw
        case rel => exact ⟨i + 1, hlt, by go_num, hk2, re_take hA.out HE.out HZZ.out⟩
        case measure => simp [intOf]; omega
      · have HR := Lib.hid ((idxE_hit hA.out HE.out HZZ.out).symm.trans HZ.out)
        go_wp2_with fail
        go_ret
        exact ⟨congrArg (fun b => Ending.returned (.int .i64 b)) HR.out, HB.out.kept.trans hk2⟩
    · obtain rfl : i = N := by omega
      have HR := Lib.hid ((idxE_miss (by have := hA.out; rwa [List.take_of_length_le (Nat.le_of_eq HN.out)] at this)).symm.trans HZ.out)
      go_wp2_with fail
      go_ret
      exact ⟨congrArg (fun b => Ending.returned (.int .i64 b)) HR.out, HB.out.kept.trans hk⟩

theorem fold_ow (e : Re) {X : Array Value} (h : e.arr = X) : Array.foldl (fun (cs : Array Value) (y : Value × Nat) => cs.setIfInBounds y.snd y.fst) #[.int .i64 0, .int .i64 0, .int .i64 0, .int .i64 0, .int .i64 0, .int .i64 0, .int .i64 0, .int .i64 0, .int .i64 0, .int .i64 0, .int .i64 0, .int .i64 0, .int .i64 0, .int .i64 0, .int .i64 0, .int .i64 0, .int .i64 0, .int .i64 0, .slice none 0 0] (X.zipIdx 0) 0 19 = X := by
  subst h
  obtain ⟨⟨x0, x1, x2, x3, x4, x5, x6, x7, x8, x9, x10, x11, x12, x13, x14, x15, x16, x17⟩, q, n, c, K⟩ := e
  simp [Re.arr, Ow.arr]

/-! ### Drop -/
def Apart (E : List Re) : Prop := E.Pairwise fun a b => a.k ≠ b.k
def dropR (x : Ke) (E : List Re) : List Re := E.filter fun e => decide (e.k ≠ x)
theorem idx_at {x : Ke} {E : List Re} (hu : Apart E) {i : Nat} {e : Re} (he : E[i]? = some e) : ((i : Int) = idxE x E) ↔ e.k = x := by
  unfold idxE
  constructor
  · intro h
    cases hf : E.findIdx? (fun e => decide (e.k = x)) with
    | none => rw [hf] at h; simp only at h; omega
    | some j =>
      rw [hf] at h
      simp only at h
      obtain rfl : i = j := by omega
      obtain ⟨hj, h2, _⟩ := List.findIdx?_eq_some_iff_getElem.1 hf
      have h3 := List.getElem?_eq_getElem hj
      rw [he] at h3
      obtain rfl := Option.some.inj h3
      exact of_decide_eq_true h2
  · intro h
    have hi := (List.getElem?_eq_some_iff.1 he).1
    have he2 := (List.getElem?_eq_some_iff.1 he).2
    rw [List.findIdx?_eq_some_iff_getElem.2 ⟨hi, by rw [he2]; exact decide_eq_true h, fun j hj => ?_⟩]
    simp only [decide_eq_true_eq]
    intro c
    have := (List.pairwise_iff_getElem.1 hu) j i (by omega) hi hj
    exact this (by rw [c, he2, h])
theorem idx_neg {x : Ke} {E : List Re} : 0 ≤ idxE x E ↔ ∃ e ∈ E, e.k = x := by
  unfold idxE
  cases hf : E.findIdx? (fun e => decide (e.k = x)) with
  | none =>
    simp only
    refine ⟨fun h => by omega, fun ⟨e, h1, h2⟩ => ?_⟩
    have := List.findIdx?_eq_none_iff.1 hf e h1
    rw [decide_eq_true h2] at this; cases this
  | some j =>
    simp only
    refine ⟨fun _ => ?_, fun _ => by omega⟩
    obtain ⟨hj, h2, _⟩ := List.findIdx?_eq_some_iff_getElem.1 hf
    exact ⟨E[j], List.getElem_mem hj, of_decide_eq_true h2⟩
theorem drop_yes {x : Ke} {E : List Re} {i : Nat} {e : Re} (he : E[i]? = some e) (h : e.k ≠ x) : dropR x (E.take (i + 1)) = dropR x (E.take i) ++ [e] := by
  unfold dropR; rw [List.take_add_one, he, Option.toList_some, List.filter_append]; simp [h]
theorem drop_no {x : Ke} {E : List Re} {i : Nat} {e : Re} (he : E[i]? = some e) (h : e.k = x) : dropR x (E.take (i + 1)) = dropR x (E.take i) := by
  unfold dropR; rw [List.take_add_one, he, Option.toList_some, List.filter_append]; simp [h]
theorem dropR_le (x : Ke) (E : List Re) : (dropR x E).length ≤ E.length := List.length_filter_le _ _

set_option maxHeartbeats 2000000 in
theorem rtdrop_any {w : World} {R : Nat} {v : Value} {E : List Re} (h : Rt w R v E) (hu : Apart E) (x : Ke) : Calls Try.prog 26 #[.pointer (some ⟨R, 0, none⟩), kv x] w fun e w' => e = .returned (.bool (decide (0 ≤ idxE x E))) ∧ ∃ v', Rt w' R v' (dropR x E) ∧ (∀ g, v'.ownBlock = some g → w.heap.size ≤ g) ∧ Fr (fun k => k = R) w w' := by
  obtain ⟨W, hW⟩ : ∃ W, w.alloc (.cells #[.int .i64 x.n, .int .i64 x.i, .int .i64 x.s, .int .i64 x.a] 32) = W := ⟨_, rfl⟩
  have hb : Bl w W [(#[.int .i64 x.n, .int .i64 x.i, .int .i64 x.s, .int .i64 x.a], 32)] := hW ▸ Bl.one w _ _
  have CF := rtfind_any (h.kept hb.kept) x
  obtain ⟨Z, hZ⟩ : ∃ Z, idxE x E = Z := ⟨_, rfl⟩
  have hIA := fun (i : Nat) (e : Re) (he : E[i]? = some e) => idx_at (x := x) hu he
  rw [hZ] at CF ⊢
  simp only [hZ] at hIA
  have hZl : Z ≤ 9223372036854775807 ∧ -1 ≤ Z := by
    have hl := h.len
    rw [← hZ]; unfold idxE
    cases hf : E.findIdx? (fun e => decide (e.k = x)) with
    | none => simp
    | some j =>
      obtain ⟨hj, _, _⟩ := List.findIdx?_eq_some_iff_getElem.1 hf
      simp only; omega
  obtain ⟨hZ1, hZ2⟩ := hZl
  obtain ⟨p, N, cap, rfl⟩ := RowV.shape h.row
  have hN : E.length = N := by
    rcases h.row.2 with ⟨e, hn⟩ | ⟨g, cap, cur, e, _⟩
    · cases e; exact hn
    · cases e; rfl
  have hm2 : N ≤ 800000 := by have := h.len; omega
  have y0 : W.cell? ⟨w.heap.size, 0, none⟩ = some (.int .i64 x.n) := hb.cell 0 0 rfl
  have y1 : W.cell? ⟨w.heap.size, 1, none⟩ = some (.int .i64 x.i) := hb.cell 0 1 rfl
  have y2 : W.cell? ⟨w.heap.size, 2, none⟩ = some (.int .i64 x.s) := hb.cell 0 2 rfl
  have y3 : W.cell? ⟨w.heap.size, 3, none⟩ = some (.int .i64 x.a) := hb.cell 0 3 rfl
  have HT := Lib.hid (h.kept hb.kept)
  have HB := Lib.hid hb
  have HW := Lib.hid hW
  have HN := Lib.hid hN
  have HI := Lib.hid hIA
  unfold kv at CF ⊢
  have CF := Lib.hid CF
  clear h hb hW hN hZ hu hIA
  go_enter Try.func26, Try.ntmps26
  go_upto_region 1 with fail
  rw [HW.out]
  go_wp2_with (first | (go_at_call 14; refine CF.out.mono ?_; rintro e w1 ⟨rfl, k1⟩))
  have K1 := Lib.hid k1
  have HT1 := Lib.hid (HT.out.kept k1)
  clear k1 y0 y1 y2 y3
  go_loopw [6, 7] (fun d y wr => ∃ i : Nat, i ≤ N ∧ y = .int .i64 (i : Int) ∧ Hid (Kept w1 wr) ∧ Hid (Rr wr d (dropR x (E.take i))) ∧ Hid (∀ g, d.ownBlock = some g → w1.heap.size ≤ g)) (fun _ y _ => N - (intOf y).toNat)
  case atStart => exact ⟨0, Nat.zero_le _, rfl, Lib.hid (Kept.refl _), Lib.hid (rowv_nil _ _ _ _), Lib.hid (fun g e => by cases e)⟩
  case round =>
    obtain ⟨i, hi, rfl, hk, hr, ho⟩ := hrel
    have c0 := (HT1.out.kept hk.out).c0
    by_cases hlt : i < N
    · obtain ⟨e, g, cap', he, e1, hg, le, _⟩ := Rr.at (HT1.out.kept hk.out).row (i := i) (by rw [HN.out]; exact hlt)
      obtain ⟨e2, e3⟩ : p = some ⟨g, 0, none⟩ ∧ cap = cap' := by injection e1 with a b c; exact ⟨a, c⟩
      clear e1
      subst e2; subst e3
      have hi1 : (i : Int) < N := by omega
      have e5 : (0 : Nat) + i * 19 = i * 19 := Nat.zero_add _
      have l1 := le wr (Kept.refl _)
      obtain ⟨A, hA⟩ : ∃ A, e.arr = A := ⟨_, rfl⟩
      rw [hA] at l1
      by_cases hx : e.k = x
      · have hz : (i : Int) = Z := (HI.out i e he).2 hx
        have HD := Lib.hid (drop_no he hx)
        clear he le
        subst hz
        go_wp2_with fail
        go_roundw
        case rel => exact ⟨i + 1, hlt, by go_num, hk, by rw [HD.out]; exact hr, ho⟩
        case measure => simp [intOf]; omega
      · have hz : ((i : Int) == Z) = false := beq_eq_false_iff_ne.2 fun c => hx ((HI.out i e he).1 c)
        have hz' : ¬ (i : Int) = Z := fun c => hx ((HI.out i e he).1 c)
        have HD := Lib.hid (drop_yes he hx)
        have HA := Lib.hid (show (encR e).toArray = A by rw [arr_to, hA])
        have hfx := fold_ow e hA
        have sA : A.size = 19 := by rw [← hA]; rfl
        have hle : (dropR x (E.take i)).length ≤ 900000 := Nat.le_trans (dropR_le _ _) (by rw [List.length_take]; omega)
        clear he le hA
        go_wp2_with (first
          | (refine load_l 35 (.tmp 29) rfl _ rfl rfl (.agg A) l1 ?_)
          | (at_builtin; refine wpList_append_onev enc_row wr rfl (.tmp 23) (.tmp 31) rfl _ _ e A HA.out rfl rfl hr.out hle ?_; intro v3 w3 r3 g3 b3))
        have k3 : Kept w1 w3 := ((Fr.kept (S := fun k => w1.heap.size ≤ k) (hk.out.trans (Kept.one wr _))).grown g3 (fun k c => .inl (ho.out k c))).keeps (fun k c => c)
        have o3 : ∀ g, v3.ownBlock = some g → w1.heap.size ≤ g := fun g' c => by
          rcases b3 with d | ⟨g2, d, hl⟩
          · exact ho.out g' (d.symm.trans c)
          · obtain rfl : g2 = g' := Option.some.inj (d.symm.trans c)
            have := Below.size hk.out; omega
        have H3 := Lib.hid (And.intro r3 (And.intro k3 o3))
        clear r3 g3 b3 k3 o3
        go_roundw
        case rel => exact ⟨i + 1, hlt, by go_num, Lib.hid H3.out.2.1, by rw [HD.out]; exact Lib.hid H3.out.1, Lib.hid H3.out.2.2⟩
        case measure => simp [intOf]; omega
    · obtain rfl : i = N := by omega
      have hkk : E.take i = E := List.take_of_length_le (Nat.le_of_eq HN.out)
      rw [hkk] at hr
      have f0 : wr.frozen? ⟨R, 0, none⟩ = false := blk_free (HT1.out.kept hk.out).blk 0
      obtain ⟨q6, n6, c6, rfl⟩ := RowV.shape hr.out
      go_wp2_with fail
      go_ret
      have hRb := (HT1.out.kept hk.out).blk
      have hRl := blk_lt HT1.out.blk
      refine ⟨by simp, _, ⟨blk_set hRb 0 _, RowV.kept hr.out fun g c => Below.heap_setCell _ _ _ _ (by have := ho.out g c; show g ≠ R; omega), fun g c => by have := ho.out g c; omega, Nat.le_trans (dropR_le _ _) (by have := HN.out; omega)⟩, fun g c => ?_, ?_⟩
      · have := ho.out g c
        have := Below.size K1.out
        have := Below.size HB.out.kept
        omega
      · exact (((Fr.kept (S := fun k => k = R) HB.out.kept).then_kept K1.out).then_kept hk.out).setCell (.inl rfl) _

end Go.Proofs.Ytiaafjabhnomeaa.Tb
