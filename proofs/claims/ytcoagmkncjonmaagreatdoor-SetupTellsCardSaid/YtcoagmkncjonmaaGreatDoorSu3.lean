/- Slices of steps, and of programs, cloned; package setup: a configuration with another setting. -/
import Derived.Test.YtcoagmkncjonmaaGreatDoorSu1
import Derived.Test.YtcoagmkncjonmaaGreatDoorPgB
import Derived.WalkSpells
import Derived.Test.YtcoagmkncjonmaaGreatDoorPgS
import Derived.Test.YtcoagmkncjonmaaGreatDoorSv
namespace Go.Proofs.YtcoagmkncjonmaaGreatDoor.Su
open Go.RowKit Go.Sort St Blk
open Ad (Cf info_cf load_l load_w)
open Pg (Ops Progs enc_op)
open Rv
open Wh (Fr)
set_option linter.unusedVariables false
set_option linter.unusedSimpArgs false

set_option maxHeartbeats 1000000 in
theorem clone_ops {w : World} {v : Value} {L : List Pg.Op} (hv : Ops w v L) (hl : L.length ≤ 1000) :
    Calls Tryz.prog 46 #[v] w fun e w' => ∃ v', e = .returned v' ∧ RowV w' v' 67 3 Pg.Op.row L ∧ (∀ g, v'.ownBlock = some g → w.heap.size ≤ g) ∧ Kept w w' := by
  have q0 : ∀ (u : World) (a : Option Addr) (n c n' c' : Nat), (binOp .eql 39 (.slice a n c) (.slice none n' c')).run Tryz.prog u = .ok (.bool a.isNone) u := fun u a n c n' c' => Lib.run_eql_slice_nil u _ _ a n c n' c' Tryz.underlying39
  obtain ⟨q, N, cap, rfl, hN, hm⟩ := hv.slice
  cases q with
  | none =>
    have hL : L = [] := by
      rcases hv with ⟨h, _⟩ | ⟨_, _, b, off, c, e, _⟩
      · exact h
      · cases e
    subst hL
    obtain rfl : N = 0 := by simpa using hN.symm
    clear hv hN hm hl
    go_enter Tryz.func46, Tryz.ntmps46
    go_wp2_with fail
    go_ret
    exact ⟨_, rfl, rowv_nil _ _ _ _, (fun g e => by cases e), Kept.refl _⟩
  | some ad =>
    have HN := Lib.hid hN
    have HV := Lib.hid hv
    have HL := Lib.hid (And.intro hl hm)
    clear hv hN hm hl
    go_enter Tryz.func46, Tryz.ntmps46
    have HV2 := Lib.hid (HV.out.go (Kept.one w (.cells #[] 67)))
    have HR := Lib.hid (show RowV (w.alloc (.cells #[] 67)) (.slice (some ⟨w.heap.size, 0, none⟩) 0 0) 67 3 Pg.Op.row [] from ⟨rfl, .inr ⟨w.heap.size, 0, #[], rfl, Nat.zero_le _, blk_new _ _, Nat.le_refl _, Nat.zero_le _, rfl, rfl⟩⟩)
    go_wp2_with (at_builtin; refine Pg.append_ops _ rfl _ _ rfl _ _ [] L rfl rfl HR.out HV2.out (by have := HL.out.1; simp; omega) ?_; intro v2 w2 r1 r2 r3; have R := Lib.hid (And.intro r1 (And.intro r2 r3)); clear r1 r2 r3)
    go_ret
    obtain ⟨r1, r2, r3⟩ : RowV w2 v2 67 3 Pg.Op.row ([] ++ L) ∧ (w.alloc (.cells #[] 67)).grownBy w2 (some w.heap.size) ∧ (v2.ownBlock = some w.heap.size ∨ ∃ g, v2.ownBlock = some g ∧ (w.alloc (.cells #[] 67)).heap.size ≤ g) := R.out
    refine ⟨v2, rfl, r1, fun g e => ?_, ?_⟩
    · rcases r3 with h | ⟨g2, h, h2⟩
      · rw [h] at e; cases e; exact Nat.le_refl _
      · rw [h] at e; cases e; simp at h2; omega
    · exact ((Fr.kept (S := fun k => w.heap.size ≤ k) (Kept.one w (.cells #[] 67))).grown r2 (fun k e => by cases e; exact .inl (Nat.le_refl _))).keeps fun k c => c

theorem enc_pv : Sv.EncV 22 39 24 (.slice none 0 0) := ⟨Tryz.underlying22, by kernel_rfl, by decide, rfl⟩
/-- the slices of which a slice of programs is made -/
theorem progs_vals {W : World} {p : Option Addr} {N cap : Nat} {M : List (List Pg.Op)} (h : Progs W (.slice p N cap) M) : ∃ xs : List Value, xs.length = M.length ∧ (∀ x ∈ xs, x.oneCell' = true) ∧ (∀ (i : Nat) (x : Value), xs[i]? = some x → ∃ b off, p = some ⟨b, off, none⟩ ∧ W.cell? ⟨b, off + i, none⟩ = some x) ∧ ∀ (i : Nat) (x : Value) (L : List Pg.Op), xs[i]? = some x → M[i]? = some L → Ops W x L := by
  have hp : ∀ i, i < M.length → ∃ x : Value, ∃ L b off, M[i]? = some L ∧ p = some ⟨b, off, none⟩ ∧ W.cell? ⟨b, off + i, none⟩ = some x ∧ Ops W x L := fun i hi => by
    obtain ⟨L, b, off, x, h1, h2, h3, h4⟩ := h.pick hi
    exact ⟨x, L, b, off, h1, h2, h3, h4⟩
  obtain ⟨F, hF⟩ := Deep.choose_lt hp
  have hin : ∀ (i : Nat) (x : Value), ((List.range M.length).map F)[i]? = some x → i < M.length ∧ x = F i := fun i x hx => by
    have h1 := (List.getElem?_eq_some_iff.1 hx).1
    simp at h1
    simp [h1] at hx
    exact ⟨h1, hx.symm⟩
  refine ⟨(List.range M.length).map F, by simp, fun x hx => ?_, fun i x hx => ?_, fun i x L hx hL => ?_⟩
  · obtain ⟨i, hi, rfl⟩ := List.mem_map.1 hx
    obtain ⟨L, b, off, h1, h2, h3, h4⟩ := hF i (List.mem_range.1 hi)
    obtain ⟨q, n, c, e, _⟩ := h4.slice
    rw [e]; rfl
  · obtain ⟨h1, rfl⟩ := hin i x hx
    obtain ⟨L, b, off, h1, h2, h3, h4⟩ := hF i h1
    exact ⟨b, off, h2, h3⟩
  · obtain ⟨h1, rfl⟩ := hin i x hx
    obtain ⟨L', b, off, h1, h2, h3, h4⟩ := hF i h1
    rw [h1] at hL
    cases hL
    exact h4

set_option maxHeartbeats 1000000 in
theorem clone_progs {w : World} {p : Option Addr} {N cap : Nat} {M : List (List Pg.Op)} (hv : Progs w (.slice p N cap) M) (hl : M.length ≤ 1000) {xs : List Value} (hx : xs.length = M.length) (h1 : ∀ x ∈ xs, x.oneCell' = true) (hc : ∀ (i : Nat) (x : Value), xs[i]? = some x → ∃ b off, p = some ⟨b, off, none⟩ ∧ w.cell? ⟨b, off + i, none⟩ = some x) :
    Calls Tryz.prog 45 #[.slice p N cap] w fun e w' => ∃ v', e = .returned v' ∧ Sv.Sv 39 w' w.heap.size v' xs ∧ Kept w w' := by
  have q0 : ∀ (u : World) (a : Option Addr) (n c n' c' : Nat), (binOp .eql 22 (.slice a n c) (.slice none n' c')).run Tryz.prog u = .ok (.bool a.isNone) u := fun u a n c n' c' => Lib.run_eql_slice_nil u _ _ a n c n' c' Tryz.underlying22
  obtain ⟨_, _, _, e, hN, hm⟩ := hv.slice
  cases e
  cases p with
  | none =>
    have hM : M = [] := by
      rcases hv with ⟨h, _⟩ | ⟨_, _, b, off, c, e, _⟩
      · exact h
      · cases e
    subst hM
    obtain rfl : N = 0 := by simpa using hN.symm
    obtain rfl : xs = [] := List.length_eq_zero_iff.1 hx
    clear hv hN hm hl hx h1 hc
    go_enter Tryz.func45, Tryz.ntmps45
    go_wp2_with fail
    go_ret
    exact ⟨_, rfl, Sv.sv_nil _ _ _, Kept.refl _⟩
  | some ad =>
    have HX := Lib.hid (show Sv.Sv 39 (w.alloc (.cells #[] 39)) w.heap.size (.slice (some ⟨w.heap.size, 0, none⟩) 0 0) [] from ⟨rfl, .inr ⟨w.heap.size, 0, #[], rfl, Nat.le_refl _, blk_new _ _, Nat.le_refl _, Nat.zero_le _, rfl, rfl⟩⟩)
    have HL := Lib.hid (show ([] : List Value).length + xs.length ≤ 1000000 by rw [hx]; simp; omega)
    have HM := Lib.hid (show xs.length = N by rw [hx]; exact hN)
    have HC := Lib.hid (show ∀ j y, xs[j]? = some y → (w.alloc (.cells #[] 39)).cell? (ad.add j) = some y from fun j y hy => by
      obtain ⟨b, off, e, hcell⟩ := hc j y hy
      cases e
      rw [Rv.addr_add]
      exact (Below.cell (Kept.one w _) (World.block_lt_of_cell? w _ hcell)).trans hcell)
    have H1 := Lib.hid h1
    have HS := Lib.hid (show w.heap.size ≤ (w.alloc (.cells #[] 39)).heap.size by simp)
    clear hv hN hm hl hx h1 hc
    go_enter Tryz.func45, Tryz.ntmps45
    go_wp2_with (at_builtin; refine Sv.wpList_append_vals enc_pv _ rfl _ _ rfl _ [] xs ad N cap rfl rfl HX.out HM.out HC.out H1.out HL.out HS.out ?_; intro v2 w2 r1 r2 r3; have R := Lib.hid (And.intro r1 r2); clear r1 r2 r3)
    go_ret
    obtain ⟨r1, r2⟩ : Sv.Sv 39 w2 w.heap.size v2 ([] ++ xs) ∧ (w.alloc (.cells #[] 39)).grownBy w2 (some w.heap.size) := R.out
    exact ⟨v2, rfl, r1, ((Fr.kept (S := fun k => w.heap.size ≤ k) (Kept.one w (.cells #[] 39))).grown r2 (fun k e => by cases e; exact .inl (Nat.le_refl _))).keeps fun k c => c⟩

theorem sv_cell {et : TypeId} {w : World} {base g N c i : Nat} {ys : List Value} (h : Sv.Sv et w base (.slice (some ⟨g, 0, none⟩) N c) ys) (hl : ys.length = N) (hi : i < N) : (∃ u, w.cell? ⟨g, i, none⟩ = some u) ∧ w.frozen? ⟨g, i, none⟩ = false := by
  obtain ⟨g2, cap2, cur, e, _, _, hg, hcs, _⟩ := Sv.Sv.full h (fun c => by rw [c] at hl; simp at hl; omega)
  cases e
  exact ⟨⟨cur[i]'(by omega), by rw [blk_cell hg, Array.getElem?_eq_getElem (by omega)]⟩, blk_free hg i⟩
/-- rows of a call's own that hold the first i of the programs -/
def Rows (w : World) (base g : Nat) (M : List (List Pg.Op)) (i : Nat) (ys : List Value) : Prop :=
  ∀ (j : Nat) (y : Value) (L : List Pg.Op), j < i → ys[j]? = some y → M[j]? = some L → RowV w y 67 3 Pg.Op.row L ∧ y.ownBlock ≠ some g ∧ ∀ b, y.ownBlock = some b → base ≤ b
theorem progs_of {w : World} {base : Nat} {v : Value} {ys : List Value} {M : List (List Pg.Op)} (h : Sv.Sv 39 w base v ys) (hl : ys.length = M.length) (hm : M.length ≤ 1000) (hr : ∀ (j : Nat) (y : Value) (L : List Pg.Op), ys[j]? = some y → M[j]? = some L → Ops w y L) : Progs w v M := by
  by_cases hM : M = []
  · subst hM
    obtain ⟨p, cap, e⟩ := h.shape
    rw [hl] at e
    exact .inl ⟨rfl, _, _, e⟩
  · obtain ⟨g, cap, cur, e, _, hb, hg, _, hc⟩ := Sv.Sv.full h (fun c => by rw [c] at hl; exact hM (List.length_eq_zero_iff.1 hl.symm))
    refine .inr ⟨hM, by unfold maxLen; omega, g, 0, cap, by rw [← hl]; exact e, blk_lt hg, fun i L hi => ?_⟩
    have hlt : i < ys.length := by rw [hl]; exact (List.getElem?_eq_some_iff.1 hi).1
    obtain ⟨y, hy⟩ : ∃ y, ys[i]? = some y := ⟨_, List.getElem?_eq_getElem hlt⟩
    refine ⟨y, ?_, hr i y L hy hi⟩
    rw [Nat.zero_add, blk_cell hg]; exact hc i y hy

set_option maxHeartbeats 2000000 in
theorem apart_any {w : World} {p : Option Addr} {N cap : Nat} {M : List (List Pg.Op)} (hv : Progs w (.slice p N cap) M) (hl : M.length ≤ 1000) (hL : ∀ L ∈ M, L.length ≤ 1000) :
    Calls Tryz.prog 29 #[.slice p N cap] w fun e w' => ∃ q c, e = .returned (.slice q N c) ∧ (∀ u, Fr (fun k => k < w.heap.size) w' u → Progs u (.slice q N c) M) ∧ Kept w w' := by
  obtain ⟨xs, hx, h1, hc, ho⟩ := progs_vals hv
  have hNM : M.length = N := by obtain ⟨_, _, _, e, hN, hm⟩ := hv.slice; cases e; exact hN
  have HC := Lib.hid (clone_progs hv hl hx h1 hc)
  have HO := Lib.hid ho
  have HX := Lib.hid (hx.trans hNM)
  have HN := Lib.hid hNM
  have HL := Lib.hid hL
  have hn1 : N ≤ 1000 := by omega
  clear hv hl hx h1 hc ho hNM hL
  go_enter Tryz.func29, Tryz.ntmps29
  go_upto_region 2 with (go_at_call 45; refine HC.out.mono ?_; rintro e w1 ⟨v, rfl, hS, hk⟩)
  obtain ⟨q, c, rfl⟩ := hS.shape
  rw [HX.out] at hS ⊢
  have HS := Lib.hid hS
  have HK := Lib.hid hk
  clear hS hk
  go_wp2_with fail
  go_loopw [10] (fun x wr => ∃ (i : Nat) (ys : List Value), i ≤ N ∧ x = .int .i64 (i : Int) ∧ Hid (ys.length = N) ∧ Sv.Sv 39 wr w.heap.size (.slice q N c) ys ∧ (∀ (j : Nat), i ≤ j → ys[j]? = xs[j]?) ∧ (∀ g, (Value.slice q N c).ownBlock = some g → Rows wr w.heap.size g M i ys) ∧ Kept w wr) (fun x _ => N - (intOf x).toNat)
  case atStart => exact ⟨0, xs, Nat.zero_le _, rfl, HX.out, HS.out, fun j _ => rfl, fun g _ j y L hj => absurd hj (Nat.not_lt_zero _), HK.out⟩
  case round =>
    obtain ⟨i, ys, hi, rfl, hlen, hS, hrest, hR, hk⟩ := hrel
    by_cases hlt : i < N
    · obtain ⟨x, hxi⟩ : ∃ x, ys[i]? = some x := ⟨_, List.getElem?_eq_getElem (by rw [hlen.out]; exact hlt)⟩
      obtain ⟨g, cap2, e, hb, hgl, c0⟩ := Sv.Sv.at hS hxi
      rw [hlen.out] at e
      cases e
      obtain ⟨L, hL⟩ : ∃ L, M[i]? = some L := ⟨_, List.getElem?_eq_getElem (by rw [HN.out]; exact hlt)⟩
      have hops : Ops w x L := HO.out i x L (by rw [← hrest i (Nat.le_refl _)]; exact hxi) hL
      have hCC := Lib.hid (clone_ops (hops.go hk) (HL.out L (List.mem_of_getElem? hL)))
      obtain ⟨xp, xn, xc, rfl, _, _⟩ := hops.slice
      have HH := Lib.hid (And.intro hS (And.intro hrest (And.intro (hR g rfl) (And.intro hk (And.intro hL (And.intro hb hgl))))))
      clear hS hrest hR hk hL hops hxi hb
      go_wp2_with (go_at_call 46; refine hCC.out.mono ?_; rintro e w2 ⟨v2, rfl, r2, f2, k2⟩; obtain ⟨yp, yn, yc, rfl⟩ := r2.shape; obtain ⟨⟨u0, d0⟩, d1⟩ := sv_cell (HH.out.1.keep k2) hlen.out hlt; have HR2 := Lib.hid (And.intro r2 (And.intro f2 k2)); clear r2 f2 k2)
      obtain ⟨hS, hrest, hR, hk, hL, hb, _⟩ := HH.out
      obtain ⟨r2, f2, k2⟩ := HR2.out
      have hS2 := hS.keep k2
      go_roundw
      case rel =>
        refine ⟨i + 1, ys.set i (.slice yp yn yc), by omega, by go_num, by show _ = _; rw [List.length_set]; exact hlen.out, ?_, fun j hj => ?_, fun g' e => ?_, ?_⟩
        · have := hlen.out; subst this
          have := Sv.sv_set hS2 hlt (.slice yp yn yc)
          exact this
        · rw [List.getElem?_set_ne (by omega)]; exact hrest j (by omega)
        · cases e
          intro j y L' hj hy hL'
          by_cases hji : j = i
          · subst hji
            rw [List.getElem?_set_self (by rw [hlen.out]; exact hlt)] at hy
            cases hy
            rw [hL] at hL'
            cases hL'
            exact ⟨r2.kept fun b e => Below.heap_setCell _ _ _ _ (by have := f2 b e; show b ≠ g; omega), fun e => by have := f2 g e; omega, fun b e => Nat.le_trans hk.size (f2 b e)⟩
          · rw [List.getElem?_set_ne (fun c => hji c.symm)] at hy
            obtain ⟨h1, h2, h3⟩ := hR j y L' (by omega) hy hL'
            exact ⟨(h1.keep k2).kept fun b e => Below.heap_setCell _ _ _ _ (fun c => h2 (by rw [e]; exact congrArg some c)), h2, h3⟩
        · exact ((Fr.kept (S := fun k => w.heap.size ≤ k) (hk.trans k2)).setCell (p := ⟨g, i, none⟩) (.inl hb) _).keeps fun k c => c
      case measure => simp [intOf]; omega
    · obtain rfl : i = N := by omega
      have HH := Lib.hid (And.intro hS (And.intro hR hk))
      clear hS hR hk hrest
      go_wp2_with fail
      go_ret
      obtain ⟨hS, hR, hk⟩ := HH.out
      refine ⟨q, c, rfl, fun u hu => progs_of (hS.fr hu fun g e => by have := (hS.lt e).1; omega) (hlen.out.trans HN.out.symm) (by rw [HN.out]; exact hn1) fun j y L hy hL => ?_, hk⟩
      obtain ⟨g, cap2, e, _⟩ := Sv.Sv.at hS hy
      rw [hlen.out] at e
      cases e
      have hj : j < i := by rw [← hlen.out]; exact (List.getElem?_eq_some_iff.1 hy).1
      have hLl := HL.out L (List.mem_of_getElem? hL)
      obtain ⟨h1, h2, h3⟩ := hR g rfl j y L hj hy hL
      exact Pg.ops_row (h1.kept fun b e => hu.block b (h1.lt e) (by have := h3 b e; omega)) (by omega)

def zeroA : Array Value := (mk [] none 0 0).arr
theorem load_cf {W : World} {b : Nat} {A : Array Value} (hb : W.heap[b]? = some (.cells A 24 (0, 0))) (hs : A.size = 14) : (loadVar 24 ⟨b, 0, none⟩).run Tryz.prog W = .ok (.agg A) W :=
  run_loadVar_row _ b _ _ A (0, 0) _ hb Tryz.underlying24 rfl (by rw [hs]; exact info_cf)

set_option maxRecDepth 100000 in
set_option maxHeartbeats 2000000 in
theorem set_out {w : World} {c : Cf} {M : List (List Pg.Op)} (hv : Progs w (.slice c.pa c.pn c.pc) M) (hl : M.length ≤ 1000) (hL : ∀ L ∈ M, L.length ≤ 1000) (k n : Int) (hk : k < 0 ∨ 13 ≤ k) :
    Calls Tryz.prog 15 #[.agg c.arr, .int .i64 k, .int .i64 n] w fun e w' => ∃ q m, e = .returned (.agg (mk (numsL c) q c.pn m).arr) ∧ Progs w' (.slice q c.pn m) M ∧ Kept w w' := by
  obtain ⟨A, hA⟩ : ∃ A, c.arr = A := ⟨_, rfl⟩
  have sA : A.size = 14 := by rw [← hA]; rfl
  have c13 : A[13]? = some (.slice c.pa c.pn c.pc) := by rw [← hA]; rfl
  obtain ⟨W, hW⟩ : ∃ W, (w.alloc (.cells A 24)).alloc (.cells zeroA 24) = W := ⟨_, rfl⟩
  have hb : Bl w W [(A, 24), (zeroA, 24)] := hW ▸ Bl.two w A _ _ _
  have h13 : W.cell? ⟨w.heap.size, 13, none⟩ = some (.slice c.pa c.pn c.pc) := (hb.cell 0 13 rfl).trans c13
  have HC := Lib.hid (apart_any (hv.go hb.kept) hl hL)
  have HP := Lib.hid (fun W => place_none w.heap.size k hk W)
  have HB := Lib.hid hb
  have HW := Lib.hid hW
  have HA := Lib.hid hA
  rw [hA]
  clear hv hl hL hk hb hW c13 hA
  go_enter Tryz.func15, Tryz.ntmps15
  go_upto_region 1 with fail
  rw [show (w.alloc (.cells A 24)).alloc (.cells #[.int .i64 0, .int .i64 0, .int .i64 0, .int .i64 0, .int .i64 0, .int .i64 0, .int .i64 0, .int .i64 0, .int .i64 0, .int .i64 0, .int .i64 0, .int .i64 0, .int .i64 0, .slice none 0 0] 24) = W from HW.out]
  go_upto_region 2 with (go_at_call 29; refine HC.out.mono ?_; rintro e w1 ⟨q, m, rfl, hP, hk⟩; have hb1 := HB.out.go hk; have d0 : w1.cell? ⟨w.heap.size, 13, none⟩ = some (.slice c.pa c.pn c.pc) := (hb1.cell 0 13 rfl).trans (by rw [← HA.out]; rfl); have d1 : w1.frozen? ⟨w.heap.size, 13, none⟩ = false := hb1.free 0 13 rfl; have H1 := Lib.hid (And.intro hP (And.intro hk hb1)); clear hP hk hb1)
  obtain ⟨hP, hk, hb1⟩ := H1.out
  obtain ⟨B, hBe⟩ : ∃ B, (mk (numsL c) q c.pn m).arr = B := ⟨_, rfl⟩
  have eB : A.setIfInBounds 13 (.slice q c.pn m) = B := by rw [← HA.out, ← hBe]; exact arr_progs c q c.pn m
  obtain ⟨W2, hW2⟩ : ∃ W2, w1.setCell ⟨w.heap.size, 13, none⟩ (.slice q c.pn m) = W2 := ⟨_, rfl⟩
  have hb2 : Bl w W2 [(B, 24), (zeroA, 24)] := by rw [← hW2, ← eB]; exact hb1.put 0 13 rfl _
  have hf2 : Fr (fun k => k < W.heap.size) w1 W2 := by rw [← hW2]; exact (Fr.refl _ _).setCell (.inl (blk_lt (HB.out.blk 0 rfl))) _
  have sB : B.size = 14 := by rw [← hBe]; rfl
  have oB : B.all (·.oneCell') = true := by rw [← hBe]; exact arr_one _
  have H2 := Lib.hid (And.intro hP (And.intro hf2 (And.intro hb2 hBe)))
  rw [hW2]
  clear hP hk hb1 hBe eB hW2 hb2 hf2 H1
  go_wp2_with (first
    | (go_at_call 28; refine (HP.out _).mono ?_; rintro e w3 ⟨rfl, hk3⟩; have hb3 := H2.out.2.2.1.go hk3; have l3 := load_cf (hb3.blk 0 rfl) sB; have H3 := Lib.hid (And.intro hk3 hb3); clear hk3 hb3)
    | (refine load_l 24 (.tmp 3) rfl _ rfl rfl (.agg B) l3 ?_)
    | (refine wpList_store_row rfl 24 (.tmp 6) (.tmp 19) rfl (w.heap.size + 1) B rfl rfl 24 zeroA (H3.out.2.blk 1 rfl) (by rw [sB]; exact info_cf) (by rw [sB]; rfl) oB ?_))
  obtain ⟨hP, hf2, hb2, hBe⟩ := H2.out
  obtain ⟨hk3, hb3⟩ := H3.out
  have hb4 := hb3.row 1 rfl B
  refine bodyPost_ret (results_cell_row rfl _ _ (w.heap.size + 1) 24 B (0, 0) _ rfl (hb4.blk 1 rfl) Tryz.underlying24 rfl (by rw [sB]; exact info_cf)) rfl ?_
  refine ⟨q, m, by rw [hBe], hP _ ((hf2.then_kept hk3).trans (S' := fun k => k = w.heap.size + 1) ⟨setRow_os _ _ _, setRow_tape _ _ _, setRow_output _ _ _, by rw [setRow_size]; exact Nat.le_refl _, fun k _ hk => setRow_other _ _ _ _ hk⟩ (fun k e => by subst e; exact .inl (blk_lt (HB.out.blk 1 rfl)))), hb4.kept⟩

set_option maxRecDepth 100000 in
set_option maxHeartbeats 2000000 in
theorem set_fr {w : World} {c : Cf} {M : List (List Pg.Op)} (hv : Progs w (.slice c.pa c.pn c.pc) M) (hl : M.length ≤ 1000) (hL : ∀ L ∈ M, L.length ≤ 1000) (k : Nat) (hk : k < 13) (n : Int) :
    Calls Tryz.prog 15 #[.agg c.arr, .int .i64 (k : Int), .int .i64 n] w fun e w' => ∃ q m, e = .returned (.agg (mk ((numsL c).set k n) q c.pn m).arr) ∧ (∀ u, Fr (fun k => k < w.heap.size) w' u → Progs u (.slice q c.pn m) M) ∧ Kept w w' := by
  obtain ⟨A, hA⟩ : ∃ A, c.arr = A := ⟨_, rfl⟩
  have sA : A.size = 14 := by rw [← hA]; rfl
  have c13 : A[13]? = some (.slice c.pa c.pn c.pc) := by rw [← hA]; rfl
  obtain ⟨W, hW⟩ : ∃ W, (w.alloc (.cells A 24)).alloc (.cells zeroA 24) = W := ⟨_, rfl⟩
  have hb : Bl w W [(A, 24), (zeroA, 24)] := hW ▸ Bl.two w A _ _ _
  have h13 : W.cell? ⟨w.heap.size, 13, none⟩ = some (.slice c.pa c.pn c.pc) := (hb.cell 0 13 rfl).trans c13
  have HC := Lib.hid (apart_any (hv.go hb.kept) hl hL)
  have HP := Lib.hid (fun W => place_some w.heap.size k hk W)
  have HB := Lib.hid hb
  have HW := Lib.hid hW
  have HA := Lib.hid hA
  have HKK := Lib.hid hk
  rw [hA]
  clear hv hl hL hk hb hW c13 hA
  go_enter Tryz.func15, Tryz.ntmps15
  go_upto_region 1 with fail
  rw [show (w.alloc (.cells A 24)).alloc (.cells #[.int .i64 0, .int .i64 0, .int .i64 0, .int .i64 0, .int .i64 0, .int .i64 0, .int .i64 0, .int .i64 0, .int .i64 0, .int .i64 0, .int .i64 0, .int .i64 0, .int .i64 0, .slice none 0 0] 24) = W from HW.out]
  go_upto_region 2 with (go_at_call 29; refine HC.out.mono ?_; rintro e w1 ⟨q, m, rfl, hP, hk⟩; have hb1 := HB.out.go hk; have d0 : w1.cell? ⟨w.heap.size, 13, none⟩ = some (.slice c.pa c.pn c.pc) := (hb1.cell 0 13 rfl).trans (by rw [← HA.out]; rfl); have d1 : w1.frozen? ⟨w.heap.size, 13, none⟩ = false := hb1.free 0 13 rfl; have H1 := Lib.hid (And.intro hP (And.intro hk hb1)); clear hP hk hb1)
  obtain ⟨hP, hk, hb1⟩ := H1.out
  obtain ⟨B, hBe⟩ : ∃ B, (mk (numsL c) q c.pn m).arr = B := ⟨_, rfl⟩
  have eB : A.setIfInBounds 13 (.slice q c.pn m) = B := by rw [← HA.out, ← hBe]; exact arr_progs c q c.pn m
  obtain ⟨W2, hW2⟩ : ∃ W2, w1.setCell ⟨w.heap.size, 13, none⟩ (.slice q c.pn m) = W2 := ⟨_, rfl⟩
  have hb2 : Bl w W2 [(B, 24), (zeroA, 24)] := by rw [← hW2, ← eB]; exact hb1.put 0 13 rfl _
  have hf2 : Fr (fun k => k < W.heap.size) w1 W2 := by rw [← hW2]; exact (Fr.refl _ _).setCell (.inl (blk_lt (HB.out.blk 0 rfl))) _
  have sB : B.size = 14 := by rw [← hBe]; rfl
  have oB : B.all (·.oneCell') = true := by rw [← hBe]; exact arr_one _
  have H2 := Lib.hid (And.intro hP (And.intro hf2 (And.intro hb2 hBe)))
  rw [hW2]
  clear hP hk hb1 hBe eB hW2 hb2 hf2 H1
  go_upto_region 5 with (first
    | (go_at_call 28; refine (HP.out _).mono ?_; rintro e w3 ⟨rfl, hk3⟩; have hb3 := H2.out.2.2.1.go hk3; have d0 : w3.cell? ⟨w.heap.size, k, none⟩ = some (.int .i64 ((numsL (mk (numsL c) q c.pn m)).getD k 0)) := (hb3.cell 0 k rfl).trans (by rw [← H2.out.2.2.2]; exact arr_at _ HKK.out); have d1 : w3.frozen? ⟨w.heap.size, k, none⟩ = false := hb3.free 0 k rfl; have H3 := Lib.hid (And.intro hk3 hb3); clear hk3 hb3))
  obtain ⟨hk3, hb3⟩ := H3.out
  obtain ⟨D, hDe⟩ : ∃ D, (mk ((numsL c).set k n) q c.pn m).arr = D := ⟨_, rfl⟩
  have eD : B.setIfInBounds k (.int .i64 n) = D := by rw [← H2.out.2.2.2, ← hDe, arr_put _ HKK.out]; rfl
  obtain ⟨W4, hW4⟩ : ∃ W4, w3.setCell ⟨w.heap.size, k, none⟩ (.int .i64 n) = W4 := ⟨_, rfl⟩
  have hb4 : Bl w W4 [(D, 24), (zeroA, 24)] := by rw [← hW4, ← eD]; exact hb3.put 0 k rfl _
  have hf4 : Fr (fun k => k < W.heap.size) w1 W4 := by rw [← hW4]; exact (H2.out.2.1.then_kept hk3).setCell (.inl (blk_lt (HB.out.blk 0 rfl))) _
  have sD : D.size = 14 := by rw [← hDe]; rfl
  have oD : D.all (·.oneCell') = true := by rw [← hDe]; exact arr_one _
  have l4 := load_cf (hb4.blk 0 rfl) sD
  have H4 := Lib.hid (And.intro hf4 (And.intro hb4 hDe))
  rw [hW4]
  clear hk3 hb3 hDe eD hW4 hb4 hf4
  go_wp2_with (first
    | (refine load_l 24 (.tmp 3) rfl _ rfl rfl (.agg D) l4 ?_)
    | (refine wpList_store_row rfl 24 (.tmp 6) (.tmp 19) rfl (w.heap.size + 1) D rfl rfl 24 zeroA (H4.out.2.1.blk 1 rfl) (by rw [sD]; exact info_cf) (by rw [sD]; rfl) oD ?_))
  obtain ⟨hf4, hb4, hDe⟩ := H4.out
  have hb5 := hb4.row 1 rfl D
  refine bodyPost_ret (results_cell_row rfl _ _ (w.heap.size + 1) 24 D (0, 0) _ rfl (hb5.blk 1 rfl) Tryz.underlying24 rfl (by rw [sD]; exact info_cf)) rfl ?_
  refine ⟨q, m, by rw [hDe], fun u hu => H2.out.1 _ ((hf4.trans (S' := fun k => k = w.heap.size + 1) ⟨setRow_os _ _ _, setRow_tape _ _ _, setRow_output _ _ _, by rw [setRow_size]; exact Nat.le_refl _, fun k _ hk => setRow_other _ _ _ _ hk⟩ (fun k e => by subst e; exact .inl (blk_lt (HB.out.blk 1 rfl)))).trans hu (fun k e => .inl (Nat.lt_of_lt_of_le e HB.out.kept.size))), hb5.kept⟩

theorem set_in {w : World} {c : Cf} {M : List (List Pg.Op)} (hv : Progs w (.slice c.pa c.pn c.pc) M) (hl : M.length ≤ 1000) (hL : ∀ L ∈ M, L.length ≤ 1000) (k : Nat) (hk : k < 13) (n : Int) :
    Calls Tryz.prog 15 #[.agg c.arr, .int .i64 (k : Int), .int .i64 n] w fun e w' => ∃ q m, e = .returned (.agg (mk ((numsL c).set k n) q c.pn m).arr) ∧ Progs w' (.slice q c.pn m) M ∧ Kept w w' := by
  refine (set_fr hv hl hL k hk n).mono ?_
  rintro e w' ⟨q, m, h1, h2, h3⟩
  exact ⟨q, m, h1, h2 _ (Fr.refl _ _), h3⟩

end Go.Proofs.YtcoagmkncjonmaaGreatDoor.Su
