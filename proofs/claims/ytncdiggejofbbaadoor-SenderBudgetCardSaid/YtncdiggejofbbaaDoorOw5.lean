/- Package owner: an owner with a call put. -/
import Derived.Test.YtncdiggejofbbaaDoorOw3
import Derived.Test.YtncdiggejofbbaaDoorOw4
namespace Go.Proofs.YtncdiggejofbbaaDoor.Ow
open Go.RowKit Go.Sort Go.Shelf St Blk Eqs
open Go.Proofs.YtncdiggejofbbaaDoor.Cl
open Go.Proofs.YtncdiggejofbbaaDoor.Ls
open Go.Proofs.YtncdiggejofbbaaDoor.Rv
open Wh (Fr)
open Go.Proofs.YtncdiggejofbbaaDoor.Id (quiet_at)
open Go.Proofs.YtncdiggejofbbaaDoor.Ad (load_w load_l store_new)
set_option linter.unusedVariables false

def nameOf (x : Cl) : Nm := ⟨x.n, x.i, x.s⟩
/-- with a call instead of the first one of its name, or behind all -/
def withL (K : List Cl) (x : Cl) : List Cl := match K.findIdx? (sameI (nameOf x)) with | some i => K.set i x | none => K ++ [x]
theorem with_hit {K : List Cl} {x : Cl} {i : Nat} (h : K.findIdx? (sameI (nameOf x)) = some i) : withL K x = K.set i x := by unfold withL; rw [h]
theorem with_miss {K : List Cl} {x : Cl} (h : K.findIdx? (sameI (nameOf x)) = none) : withL K x = K ++ [x] := by unfold withL; rw [h]
theorem find_hit {K : List Cl} {d : Nm} {i : Nat} (h : K.findIdx? (sameI d) = some i) : findL K d = (i : Int) := by unfold findL idx; rw [h]
theorem find_miss {K : List Cl} {d : Nm} (h : K.findIdx? (sameI d) = none) : findL K d = -1 := by unfold findL idx; rw [h]
theorem first_lt {f : Cl → Bool} : ∀ {K : List Cl} {i : Nat}, K.findIdx? f = some i → i < K.length
  | [], i, h => by cases h
  | a :: l, i, h => by
    rw [List.findIdx?_cons] at h
    split at h
    · cases h; exact Nat.zero_lt_succ _
    · cases hl : l.findIdx? f with
      | none => rw [hl] at h; cases h
      | some j =>
        rw [hl] at h
        cases h
        exact Nat.succ_lt_succ (first_lt hl)
theorem with_len (K : List Cl) (x : Cl) : (withL K x).length ≤ K.length + 1 := by
  cases h : K.findIdx? (sameI (nameOf x)) with
  | none => rw [with_miss h]; simp
  | some i => rw [with_hit h]; simp
theorem mc_len {W : World} {q : Option Addr} {n c : Nat} {K : List Cl} (h : Mc W (.slice q n c) K) : K.length = n := by
  rcases h.2 with ⟨e, hn⟩ | ⟨g, cap, cur, e, _⟩
  · cases e; rw [hn]
  · cases e; rfl
theorem rc_len {W : World} {q : Option Addr} {n c : Nat} {K : List Cl} (h : Rc W (.slice q n c) K) : K.length = n := by
  rcases h.2 with ⟨e, hn⟩ | ⟨g, cap, cur, e, _⟩
  · cases e; rw [hn]
  · cases e; rfl


set_option maxRecDepth 100000 in
set_option maxHeartbeats 1000000 in
theorem with_any {w : World} {q : Option Addr} {N c : Nat} {K : List Cl} (o : Ow) (hv : Cls w (.slice q N c) K) (hl : K.length ≤ 800000) (x : Cl) :
    Calls Tryd.prog 32 #[.agg (o.arr q N c), .agg x.arr] w fun e w' => ∃ q' n' c', e = .returned (.agg (o.arr q' n' c')) ∧ Mc w' (.slice q' n' c') (withL K x) ∧ Kept w w' := by
  have hN : K.length = N := by obtain ⟨p, cap, e⟩ := hv.shape; cases e; rfl
  obtain ⟨A, hA⟩ : ∃ A, o.arr q N c = A := ⟨_, rfl⟩
  obtain ⟨X, hX⟩ : ∃ X, x.arr = X := ⟨_, rfl⟩
  have sA : A.size = 19 := by rw [← hA]; rfl
  have sX : X.size = 13 := by rw [← hX]; rfl
  have x0 : X[0]? = some (.int .i64 x.n) := by rw [← hX]; rfl
  have x1 : X[1]? = some (.int .i64 x.i) := by rw [← hX]; rfl
  have x2 : X[2]? = some (.int .i64 x.s) := by rw [← hX]; rfl
  rw [hA, hX]
  obtain ⟨W, hW⟩ : ∃ W, ((w.alloc (.cells A 42)).alloc (.cells X 35)).alloc (.cells zeroA 42) = W := ⟨_, rfl⟩
  have hb : Bl w W [(A, 42), (X, 35), (zeroA, 42)] := hW ▸ Bl.three w A _ _ _ _ _
  have hsz : W.heap.size = w.heap.size + 3 := by rw [← hW]; simp
  have la := load_ow (hb.blk 0 rfl) sA
  have HW := Lib.hid hW
  have C1 := Lib.hid (clone_any o (hv.go hb.kept) (by omega))
  rw [hA] at C1
  have HB := Lib.hid hb
  clear hW hb hv hA
  go_enter Tryd.func32, Tryd.ntmps32
  go_upto_region 1 with fail
  rw [show ((w.alloc (.cells A 42)).alloc (.cells X 35)).alloc (.cells #[.int .i64 0, .int .i64 0, .int .i64 0, .int .i64 0, .int .i64 0, .int .i64 0, .int .i64 0, .int .i64 0, .int .i64 0, .int .i64 0, .int .i64 0, .int .i64 0, .int .i64 0, .int .i64 0, .int .i64 0, .int .i64 0, .int .i64 0, .int .i64 0, .slice none 0 0] 42) = W from HW.out]
  go_upto_region 2 with (first
    | (refine load_l 42 (.tmp 2) rfl _ rfl rfl (.agg A) la ?_)
    | (go_at_call 64; refine C1.out.mono ?_; rintro e w1 ⟨q1, c1, rfl, hr1, ho1, hk1⟩; obtain ⟨D, hD⟩ : ∃ D, o.arr q1 N c1 = D := ⟨_, rfl⟩; rw [hD]; have sD : D.size = 19 := (by rw [← hD]; rfl); have oD : D.all (·.oneCell') = true := (by rw [← hD]; exact arr_one _ _ _ _); have H1 := Lib.hid (And.intro hr1 (And.intro ho1 (And.intro hk1 hD))); clear hr1 ho1 hk1 hD)
    | (refine wpList_store_row rfl 42 (.tmp 2) (.tmp 7) rfl w.heap.size D rfl rfl 42 A ((HB.out.go H1.out.2.2.1).blk 0 rfl) (by rw [sD]; exact info_ow) (by rw [sD, sA]) oD ?_))
  obtain ⟨W2, hW2⟩ : ∃ W2, w1.setRow w.heap.size D = W2 := ⟨_, rfl⟩
  rw [hW2]
  have hb2 : Bl w W2 [(D, 42), (X, 35), (zeroA, 42)] := by
    rw [← hW2]; exact (HB.out.go H1.out.2.2.1).row 0 rfl D
  have hr2 : Mc W2 (.slice q1 N c1) K := H1.out.1.kept fun g e => by
    have := H1.out.2.1 g e
    rw [← hW2]; exact setRow_other _ _ _ _ (by omega)
  have hD := H1.out.2.2.2
  have l2 := load_ow (hb2.blk 0 rfl) sD
  have i2 : (loadVar 26 ⟨w.heap.size + 1, 0, none⟩).run Tryd.prog W2 = .ok (.agg #[.int .i64 x.n, .int .i64 x.i, .int .i64 x.s]) W2 := load_id ((hb2.cell 1 0 rfl).trans x0) ((hb2.cell 1 1 rfl).trans x1) ((hb2.cell 1 2 rfl).trans x2)
  have hl9 : K.length ≤ 1000000 := by omega
  have C2 := Lib.hid (find_any o (mc_cls hr2 hl9) (nameOf x))
  rw [hD] at C2
  have HO := Lib.hid (show ∀ g, (Value.slice q1 N c1).ownBlock = some g → w.heap.size + 3 ≤ g from fun g e => by have := H1.out.2.1 g e; omega)
  cases hf : K.findIdx? (sameI (nameOf x)) with
  | some i =>
    have hiK := first_lt hf
    have HE := Lib.hid (with_hit hf)
    rw [find_hit hf] at C2
    have hne : K ≠ [] := fun c => by rw [c] at hiK; simp at hiK
    obtain ⟨g, cap, cur, e0, hg0, _⟩ := hr2.full hne
    injection e0 with e1 e2 e3
    subst e1 e2 e3
    have hg3 : w.heap.size + 3 ≤ g := HO.out g rfl
    have HB2 := Lib.hid hb2
    have HR2 := Lib.hid hr2
    have hi1 : (i : Int) < (K.length : Int) := by omega
    have hi0 : (0 : Int) ≤ (i : Int) := by omega
    have H18 := Lib.hid (show D[18]? = some (.slice (some ⟨g, 0, none⟩) K.length c1) by rw [← hD]; rfl)
    have HX := Lib.hid hX
    have HDD := Lib.hid hD
    clear hb2 hr2 hD hW2 H1 C1 hf hg0 hN hl9 hX
    go_upto_region 4 with (first
      | (refine load_l 42 (.tmp 2) rfl _ rfl rfl (.agg D) l2 ?_)
      | (refine load_l 26 (.tmp 9) rfl _ rfl rfl _ i2 ?_)
      | (go_at_call 65; refine C2.out.mono ?_; rintro e w3 ⟨rfl, hk3⟩))
    have hb3 := HB2.out.go hk3
    have hr3 := HR2.out.keep hk3
    have lx := load_cl (hb3.blk 1 rfl) sX
    have h18 : w3.cell? ⟨w.heap.size, 18, none⟩ = some (.slice (some ⟨g, 0, none⟩) K.length c1) := (hb3.cell 0 18 rfl).trans H18.out
    have HB3 := Lib.hid hb3
    have HR3 := Lib.hid hr3
    clear hb3 hr3 hk3
    go_wp2_with (first
      | (refine load_l 35 (.tmp 3) rfl _ rfl rfl (.agg X) lx ?_)
      | (refine wpList_store_elem enc_cl rfl (.tmp 18) (.tmp 17) rfl g i c1 x X HX.out rfl rfl hiK HR3.out ?_; intro w4 r4 f4; have hb4 := HB3.out.fr f4 (fun k e => by subst e; exact hg3); have l4 := load_ow (hb4.blk 0 rfl) sD; have R4 := Lib.hid (And.intro r4 hb4); clear r4 f4 hb4)
      | (refine load_l 42 (.tmp 2) rfl _ rfl rfl (.agg D) l4 ?_)
      | (refine wpList_store_row rfl 42 (.tmp 4) (.tmp 19) rfl (w.heap.size + 1 + 1) D rfl rfl 42 zeroA (R4.out.2.blk 2 rfl) (by rw [sD]; exact info_ow) (by rw [sD]; rfl) oD ?_))
    have hb6 := R4.out.2.row 2 rfl D
    refine bodyPost_ret (results_cell_row rfl _ _ (w.heap.size + 2) 42 D (0, 0) _ rfl (hb6.blk 2 rfl) Tryd.underlying42 rfl (by rw [sD]; exact info_ow)) rfl ?_
    refine ⟨some ⟨g, 0, none⟩, K.length, c1, by rw [HDD.out], ?_, hb6.kept⟩
    rw [HE.out]
    have := R4.out.1.kept (w' := w4.setRow (w.heap.size + 2) D) (fun g' e => by
      obtain rfl : g = g' := Option.some.inj e
      exact setRow_other _ _ _ _ (by omega))
    exact this
  | none =>
    have HE := Lib.hid (with_miss hf)
    rw [find_miss hf] at C2
    have HB2 := Lib.hid hb2
    have HR2 := Lib.hid hr2
    have H18 := Lib.hid (show D[18]? = some (.slice q1 N c1) by rw [← hD]; rfl)
    have HX := Lib.hid hX
    have hfx := fold_cl x hX
    have HDD := Lib.hid hD
    clear hb2 hr2 hD hW2 H1 C1 hf hN hl9 hX
    go_upto_region 6 with (first
      | (refine load_l 42 (.tmp 2) rfl _ rfl rfl (.agg D) l2 ?_)
      | (refine load_l 26 (.tmp 9) rfl _ rfl rfl _ i2 ?_)
      | (go_at_call 65; refine C2.out.mono ?_; rintro e w3 ⟨rfl, hk3⟩))
    have hb3 := HB2.out.go hk3
    have hr3 := HR2.out.keep hk3
    have lx := load_cl (hb3.blk 1 rfl) sX
    have h18 : w3.cell? ⟨w.heap.size, 18, none⟩ = some (.slice q1 N c1) := (hb3.cell 0 18 rfl).trans H18.out
    have HB3 := Lib.hid hb3
    have HR3 := Lib.hid hr3
    have hs3 : w.heap.size + 3 ≤ w3.heap.size := hb3.size
    have HS3 := Lib.hid hs3
    clear hb3 hr3 hk3 hs3
    go_upto_region 7 with (first
      | (refine load_l 35 (.tmp 3) rfl _ rfl rfl (.agg X) lx ?_)
      | (refine wpList_append_onev enc_cl w3 rfl _ _ rfl (.slice q1 N c1) K x X HX.out rfl rfl HR3.out (by omega) ?_; intro v4 w4 r4 g4 b4; obtain ⟨q4, n4, c4, rfl⟩ := r4.shape; have ff := ((Fr.refl (fun j => w.heap.size + 3 ≤ j) w3).alloc (.cells X 35)).grown g4 (fun k e => .inl (HO.out k e)); have hb4 := HB3.out.fr ff (fun k h => h); have y4 : w4.cell? ⟨w.heap.size, 18, none⟩ = some (.slice q1 N c1) := (hb4.cell 0 18 rfl).trans H18.out; have f4 : w4.frozen? ⟨w.heap.size, 18, none⟩ = false := hb4.free 0 18 rfl; have R4 := Lib.hid (And.intro r4 (And.intro hb4 b4)); clear r4 g4 b4 ff hb4))
    obtain ⟨W5, hW5⟩ : ∃ W5, w4.setCell ⟨w.heap.size, 18, none⟩ (.slice q4 n4 c4) = W5 := ⟨_, rfl⟩
    rw [hW5]
    obtain ⟨E, hE⟩ : ∃ E, o.arr q4 n4 c4 = E := ⟨_, rfl⟩
    have eE : D.setIfInBounds 18 (.slice q4 n4 c4) = E := by rw [← HDD.out, ← hE]; exact arr_set _ _ _ _ _ _ _
    have sE : E.size = 19 := by rw [← hE]; rfl
    have oE : E.all (·.oneCell') = true := by rw [← hE]; exact arr_one _ _ _ _
    have hb5 : Bl w W5 [(E, 42), (X, 35), (zeroA, 42)] := by
      rw [← hW5, ← eE]; exact R4.out.2.1.put 0 18 rfl _
    have hn4 : ∀ g, (Value.slice q4 n4 c4).ownBlock = some g → w.heap.size + 3 ≤ g := fun g e => by
      rcases R4.out.2.2 with h | ⟨g', h, hg⟩
      · exact HO.out g (h.symm.trans e)
      · have e2 := h.symm.trans e
        obtain rfl : g' = g := Option.some.inj e2
        have := HS3.out
        omega
    have hr5 : Mc W5 (.slice q4 n4 c4) (K ++ [x]) := R4.out.1.kept fun g e => by
      rw [← hW5]
      have := hn4 g e
      exact Below.heap_setCell _ _ _ _ (by show g ≠ w.heap.size; omega)
    have l5 := load_ow (hb5.blk 0 rfl) sE
    have HB5 := Lib.hid hb5
    have HR5 := Lib.hid (And.intro hr5 hn4)
    clear hb5 hr5 hn4 hW5 eE
    go_wp2_with (first
      | (refine load_l 42 (.tmp 2) rfl _ rfl rfl (.agg E) l5 ?_)
      | (refine wpList_store_row rfl 42 (.tmp 4) (.tmp 26) rfl (w.heap.size + 1 + 1) E rfl rfl 42 zeroA (HB5.out.blk 2 rfl) (by rw [sE]; exact info_ow) (by rw [sE]; rfl) oE ?_))
    have hb6 := HB5.out.row 2 rfl E
    refine bodyPost_ret (results_cell_row rfl _ _ (w.heap.size + 2) 42 E (0, 0) _ rfl (hb6.blk 2 rfl) Tryd.underlying42 rfl (by rw [sE]; exact info_ow)) rfl ?_
    refine ⟨q4, n4, c4, by rw [hE], ?_, hb6.kept⟩
    rw [HE.out]
    exact HR5.out.1.kept (w' := W5.setRow (w.heap.size + 2) E) (fun g e => by
      have := HR5.out.2 g e
      exact setRow_other _ _ _ _ (by omega))

end Go.Proofs.YtncdiggejofbbaaDoor.Ow
