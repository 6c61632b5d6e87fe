/- The law's Theirs. -/
import Derived.Test.YtiaafjabhnomeaaOwE
namespace Go.Proofs.Ytiaafjabhnomeaa.Ow
open Go.RowKit Go.Sort Go.Shelf St Blk Eqs
open Go.Proofs.Ytiaafjabhnomeaa.Cl
open Go.Proofs.Ytiaafjabhnomeaa.Ls
open Go.Proofs.Ytiaafjabhnomeaa.Rv
open Wh (Fr)
open Go.Proofs.Ytiaafjabhnomeaa.Au (Stab stab_and)
open Go.Proofs.Ytiaafjabhnomeaa.Ad (load_w load_l store_new)
set_option linter.unusedVariables false

set_option maxRecDepth 100000 in
set_option maxHeartbeats 2000000 in
theorem theirs_any {w : World} {q : Option Addr} {N c : Nat} {K : List Cl} (o : Ow) (hv : Cls w (.slice q N c) K) (hl : K.length ≤ 900000) :
    Calls Try.prog 20 #[.agg (o.arr q N c)] w fun e w' => ∃ q' n' c', e = .returned (.agg (o.arr q' n' c')) ∧ Rc w' (.slice q' n' c') K ∧ (∀ g, (Value.slice q' n' c').ownBlock = some g → w.heap.size ≤ g) ∧ Kept w w' := by
  have hN : K.length = N := by obtain ⟨p, cap, e⟩ := hv.shape; cases e; rfl
  obtain ⟨A, hA⟩ : ∃ A, o.arr q N c = A := ⟨_, rfl⟩
  rw [hA]
  obtain ⟨W, hW⟩ : ∃ W, (w.alloc (.cells A 52)).alloc (.cells zeroA 35) = W := ⟨_, rfl⟩
  have hb : Bl w W [(A, 52), (zeroA, 35)] := hW ▸ Bl.two w A _ _ _
  have hsz : W.heap.size = w.heap.size + 2 := by rw [← hW]; simp
  have a11 : W.cell? ⟨w.heap.size, 11, none⟩ = some (.int .i64 o.fr) := (hb.cell 0 11 rfl).trans (by rw [← hA]; rfl)
  have a12 : W.cell? ⟨w.heap.size, 12, none⟩ = some (.int .i64 o.hp) := (hb.cell 0 12 rfl).trans (by rw [← hA]; rfl)
  have a13 : W.cell? ⟨w.heap.size, 13, none⟩ = some (.int .i64 o.dl) := (hb.cell 0 13 rfl).trans (by rw [← hA]; rfl)
  have a14 : W.cell? ⟨w.heap.size, 14, none⟩ = some (.int .i64 o.un) := (hb.cell 0 14 rfl).trans (by rw [← hA]; rfl)
  have a15 : W.cell? ⟨w.heap.size, 15, none⟩ = some (.int .i64 o.pr) := (hb.cell 0 15 rfl).trans (by rw [← hA]; rfl)
  have a16 : W.cell? ⟨w.heap.size, 16, none⟩ = some (.int .i64 o.pc) := (hb.cell 0 16 rfl).trans (by rw [← hA]; rfl)
  have a17 : W.cell? ⟨w.heap.size, 17, none⟩ = some (.int .i64 o.dn) := (hb.cell 0 17 rfl).trans (by rw [← hA]; rfl)
  have kA := load_key (u := W) (b := w.heap.size) (o := 0) ((hb.cell 0 0 rfl).trans (show A[0]? = some (.int .i64 o.kn) by rw [← hA]; rfl)) ((hb.cell 0 1 rfl).trans (show A[1]? = some (.int .i64 o.ki) by rw [← hA]; rfl)) ((hb.cell 0 2 rfl).trans (show A[2]? = some (.int .i64 o.ks) by rw [← hA]; rfl)) ((hb.cell 0 3 rfl).trans (show A[3]? = some (.int .i64 o.ka) by rw [← hA]; rfl))
  have rA := load_id (u := W) (b := w.heap.size) (o := 4) ((hb.cell 0 4 rfl).trans (show A[4]? = some (.int .i64 o.rn) by rw [← hA]; rfl)) ((hb.cell 0 5 rfl).trans (show A[5]? = some (.int .i64 o.ri) by rw [← hA]; rfl)) ((hb.cell 0 6 rfl).trans (show A[6]? = some (.int .i64 o.rs) by rw [← hA]; rfl))
  have pA := load_key (u := W) (b := w.heap.size) (o := 7) ((hb.cell 0 7 rfl).trans (show A[7]? = some (.int .i64 o.pn) by rw [← hA]; rfl)) ((hb.cell 0 8 rfl).trans (show A[8]? = some (.int .i64 o.pi) by rw [← hA]; rfl)) ((hb.cell 0 9 rfl).trans (show A[9]? = some (.int .i64 o.ps) by rw [← hA]; rfl)) ((hb.cell 0 10 rfl).trans (show A[10]? = some (.int .i64 o.pa) by rw [← hA]; rfl))
  have c18 : A[18]? = some (.slice q N c) := by rw [← hA]; rfl
  obtain ⟨W2, hW2⟩ : ∃ W2, W.alloc (.cells (o.arr none 0 0) 35) = W2 := ⟨_, rfl⟩
  have hb2 : Bl w W2 [(A, 52), (zeroA, 35), (o.arr none 0 0, 35)] := by rw [← hW2]; exact hb.more hsz _ _
  have HW := Lib.hid hW
  have HW2 := Lib.hid hW2
  have HB2 := Lib.hid hb2
  have HV := Lib.hid hv
  have HN := Lib.hid hN
  have HC := Lib.hid c18
  have hm2 : N ≤ 900000 := by omega
  clear hb hW hW2 hb2 hv hN hA c18
  go_enter Try.func20, Try.ntmps20
  go_upto_region 1 with fail
  rw [show (w.alloc (.cells A 52)).alloc (.cells #[.int .i64 0, .int .i64 0, .int .i64 0, .int .i64 0, .int .i64 0, .int .i64 0, .int .i64 0, .int .i64 0, .int .i64 0, .int .i64 0, .int .i64 0, .int .i64 0, .int .i64 0, .int .i64 0, .int .i64 0, .int .i64 0, .int .i64 0, .int .i64 0, .slice none 0 0] 35) = W from HW.out]
  go_upto_region 2 with (first
    | (refine load_l 32 (.tmp 6) rfl _ rfl rfl _ kA ?_)
    | (refine load_l 30 (.tmp 8) rfl _ rfl rfl _ rA ?_)
    | (refine load_l 32 (.tmp 10) rfl _ rfl rfl _ pA ?_)
    | (refine store_new rfl 35 (.tmp 3) (.tmp 26) rfl (w.heap.size + 2) (o.arr none 0 0) rfl rfl W _ hsz 19 info_row rfl rfl (arr_one _ _ _ _) ?_; rw [HW2.out]))
  clear kA rA pA a11 a12 a13 a14 a15 a16 a17
  go_wp2_with fail
  go_loopw [4] (fun y wr => ∃ i : Nat, i ≤ N ∧ y = .int .i64 (i : Int) ∧ ∃ q2 n2 c2, Bl w wr [(A, 52), (zeroA, 35), (o.arr q2 n2 c2, 35)] ∧ Rc wr (.slice q2 n2 c2) (K.take i) ∧ (∀ g, (Value.slice q2 n2 c2).ownBlock = some g → w.heap.size + 3 ≤ g)) (fun y _ => N - (intOf y).toNat)
  case atStart => exact ⟨0, Nat.zero_le _, rfl, none, 0, 0, HB2.out, rowv_nil _ _ _ _, fun g e => by cases e⟩
  case round =>
    obtain ⟨i, hi, rfl, q2, n2, c2, hb, hr, ho⟩ := hrel
    have h18 : wr.cell? ⟨w.heap.size, 18, none⟩ = some (.slice q N c) := (hb.cell 0 18 rfl).trans HC.out
    by_cases hlt : i < N
    · obtain ⟨x, b, off, hx, rfl, hbb, hc⟩ := HV.out.pick (i := i) (by rw [HN.out]; exact hlt)
      have HT := Lib.hid (take_snoc hx)
      obtain ⟨X, hX⟩ : ∃ X, x.arr = X := ⟨_, rfl⟩
      have sX : X.size = 13 := by rw [← hX]; rfl
      have hle : (K.take i).length ≤ 900000 := by rw [List.length_take]; omega
      have hi1 : (i : Int) < (N : Int) := by omega
      obtain ⟨E, hE⟩ : ∃ E, o.arr q2 n2 c2 = E := ⟨_, rfl⟩
      rw [hE] at hb
      have oX : X.all (·.oneCell') = true := by rw [← hX]; exact one_cells x
      have lx := load_call (u := wr) (b := b) (o := off + i * 13) hX (fun j z hz => (Below.cell hb.kept (p := ⟨b, _, none⟩) hbb).trans (hc j z hz))
      have cE : E[18]? = some (.slice q2 n2 c2) := by rw [← hE]; rfl
      have HCE := Lib.hid cE
      have HEE := Lib.hid hE
      obtain ⟨V, hV⟩ : ∃ V, wr.alloc (.cells X 79) = V := ⟨_, rfl⟩
      have hbV : V.heap[wr.heap.size]? = some (.cells X 79 (0, 0)) := by rw [← hV]; exact blk_new wr _
      have hkV : Kept wr V := by rw [← hV]; exact Kept.one _ _
      have li : (loadVar 30 ⟨wr.heap.size, 0, none⟩).run Try.prog V = .ok (.agg #[.int .i64 x.n, .int .i64 x.i, .int .i64 x.s]) V := load_id ((blk_cell hbV 0).trans (by rw [← hX]; rfl)) ((blk_cell hbV 1).trans (by rw [← hX]; rfl)) ((blk_cell hbV 2).trans (by rw [← hX]; rfl))
      have z3 : V.cell? ⟨wr.heap.size, 3, none⟩ = some (.int .i64 x.to) := (blk_cell hbV 3).trans (by rw [← hX]; rfl)
      have z4 : V.cell? ⟨wr.heap.size, 4, none⟩ = some (.int .i64 x.pr) := (blk_cell hbV 4).trans (by rw [← hX]; rfl)
      have z5 : V.cell? ⟨wr.heap.size, 5, none⟩ = some (.int .i64 x.att) := (blk_cell hbV 5).trans (by rw [← hX]; rfl)
      have z6 : V.cell? ⟨wr.heap.size, 6, none⟩ = some (.int .i64 x.st) := (blk_cell hbV 6).trans (by rw [← hX]; rfl)
      have z7 : V.cell? ⟨wr.heap.size, 7, none⟩ = some (.int .i64 x.se) := (blk_cell hbV 7).trans (by rw [← hX]; rfl)
      have z8 : V.cell? ⟨wr.heap.size, 8, none⟩ = some (.int .i64 x.re) := (blk_cell hbV 8).trans (by rw [← hX]; rfl)
      have z9 : V.cell? ⟨wr.heap.size, 9, none⟩ = some (.bool x.co) := (blk_cell hbV 9).trans (by rw [← hX]; rfl)
      have z10 : V.cell? ⟨wr.heap.size, 10, none⟩ = some (.int .i64 x.cd) := (blk_cell hbV 10).trans (by rw [← hX]; rfl)
      have z11 : V.cell? ⟨wr.heap.size, 11, none⟩ = some (.int .i64 x.va) := (blk_cell hbV 11).trans (by rw [← hX]; rfl)
      have z12 : V.cell? ⟨wr.heap.size, 12, none⟩ = some (.int .i64 x.tr) := (blk_cell hbV 12).trans (by rw [← hX]; rfl)
      have u18 : V.cell? ⟨w.heap.size + 2, 18, none⟩ = some (.slice q2 n2 c2) := ((hb.go hkV).cell 2 18 rfl).trans cE
      have HV4 := Lib.hid (And.intro (hb.go hkV) (And.intro (hr.keep hkV) ho))
      have HVV := Lib.hid hV
      clear hb hr ho hx hc hX cE hE hbV hkV hV
      go_upto_region 6 with (first
        | (refine load_l 79 (.tmp 37) rfl _ rfl rfl (.agg X) lx ?_)
        | (refine store_new rfl 79 (.tmp 5) (.tmp 38) rfl wr.heap.size X rfl rfl _ _ rfl 13 info_cl sX rfl oX ?_; rw [HVV.out]))
      go_wp2_with (first
        | (refine load_l 30 (.tmp 41) rfl _ rfl rfl _ li ?_)
        | (refine wpList_append_onev enc_rcl V rfl _ _ rfl (.slice q2 n2 c2) (K.take i) x _ rfl rfl rfl HV4.out.2.1 hle ?_; intro v4 w4 r4 g4 b4; obtain ⟨q4, n4, c4, rfl⟩ := r4.shape; have ff := ((Fr.refl (fun j => w.heap.size + 3 ≤ j) V).alloc (.cells x.arr 70)).grown g4 (fun k e => .inl (HV4.out.2.2 k e)); have hb4 := HV4.out.1.fr ff (fun k h => h); have y4 : w4.cell? ⟨w.heap.size + 2, 18, none⟩ = some (.slice q2 n2 c2) := (hb4.cell 2 18 rfl).trans HCE.out; have f4 : w4.frozen? ⟨w.heap.size + 2, 18, none⟩ = false := hb4.free 2 18 rfl; have H4 := Lib.hid (And.intro r4 (And.intro hb4 b4)); clear r4 g4 b4 ff hb4))
      have ho4 : ∀ g, (Value.slice q4 n4 c4).ownBlock = some g → w.heap.size + 3 ≤ g := fun g e => by
        rcases H4.out.2.2 with h | ⟨g', h, hg⟩
        · exact HV4.out.2.2 g (h.symm.trans e)
        · obtain rfl : g' = g := Option.some.inj (h.symm.trans e)
          have := HV4.out.1.size
          simp at this
          omega
      go_roundw
      case rel =>
        have hr4 := H4.out.1.kept (w' := w4.setCell ⟨w.heap.size + 2, 18, none⟩ (.slice q4 n4 c4)) (fun g e => by
          have := ho4 g e
          exact Below.heap_setCell _ _ _ _ (by show g ≠ w.heap.size + 2; omega))
        refine ⟨i + 1, hlt, by go_num, q4, n4, c4, ?_, by rw [HT.out]; exact hr4, ho4⟩
        have := H4.out.2.1.put 2 18 rfl (.slice q4 n4 c4)
        rwa [show E.setIfInBounds 18 (.slice q4 n4 c4) = o.arr q4 n4 c4 by rw [← HEE.out]; exact arr_set _ _ _ _ _ _ _] at this
      case measure => simp [intOf]; omega
    · obtain rfl : i = N := by omega
      have hKN : K.take i = K := List.take_of_length_le (by rw [HN.out]; exact Nat.le_refl _)
      rw [hKN] at hr
      obtain ⟨E, hE⟩ : ∃ E, o.arr q2 n2 c2 = E := ⟨_, rfl⟩
      rw [hE] at hb
      have sE : E.size = 19 := by rw [← hE]; rfl
      have oE : E.all (·.oneCell') = true := by rw [← hE]; exact arr_one _ _ _ _
      have lE : (loadVar 35 ⟨w.heap.size + 2, 0, none⟩).run Try.prog wr = .ok (.agg E) wr := load_row (hb.blk 2 rfl) sE
      have HR := Lib.hid (And.intro hr (And.intro ho hb))
      have HE := Lib.hid hE
      clear hr ho hb hE
      go_upto_region 7 with fail
      go_wp2_with (first
        | (refine load_l 35 (.tmp 3) rfl _ rfl rfl (.agg E) lE ?_)
        | (refine wpList_store_row rfl 35 (.tmp 2) (.tmp 67) rfl (w.heap.size + 1) E rfl rfl 35 zeroA (HR.out.2.2.blk 1 rfl) (by rw [sE]; exact info_row) (by rw [sE]; rfl) oE ?_))
      have hb6 := HR.out.2.2.row 1 rfl E
      refine bodyPost_ret (results_cell_row rfl _ _ (w.heap.size + 1) 35 E (0, 0) _ rfl (hb6.blk 1 rfl) Try.underlying35 rfl (by rw [sE]; exact info_row)) rfl ?_
      refine ⟨q2, n2, c2, by rw [HE.out], HR.out.1.kept (fun g e => ?_), fun g e => ?_, hb6.kept⟩
      · have := HR.out.2.1 g e
        exact setRow_other _ _ _ _ (by omega)
      · have := HR.out.2.1 g e
        omega

end Go.Proofs.Ytiaafjabhnomeaa.Ow
