/- The document's owner with a call put. -/
import Derived.Test.YtplkhinjlgmilaaOw5
namespace Go.Proofs.Ytplkhinjlgmilaa.Ow
open Go.RowKit Go.Sort Go.Shelf St Blk Eqs
open Go.Proofs.Ytplkhinjlgmilaa.Cl
open Go.Proofs.Ytplkhinjlgmilaa.Ls
open Go.Proofs.Ytplkhinjlgmilaa.Rv
open Wh (Fr)
open Go.Proofs.Ytplkhinjlgmilaa.Id (quiet_at)
open Go.Proofs.Ytplkhinjlgmilaa.Ad (load_w load_l store_new)
set_option linter.unusedVariables false

/-- what is gathered before what lacks is laid behind: by the place p that was found -/
theorem with_by (K : List Cl) (x : Cl) : ∃ L : List Cl, L.length = K.length ∧ (∀ i : Nat, (i : Int) = findL K (nameOf x) → i < K.length → L[i]? = some x) ∧ (∀ i : Nat, ¬ (i : Int) = findL K (nameOf x) → L[i]? = K[i]?) ∧ (findL K (nameOf x) < 0 → withL K x = L ++ [x]) ∧ (¬ findL K (nameOf x) < 0 → withL K x = L) := by
  cases hf : K.findIdx? (sameI (nameOf x)) with
  | none =>
    rw [find_miss hf, with_miss hf]
    exact ⟨K, rfl, fun i h => by omega, fun i _ => rfl, fun _ => rfl, fun h => absurd (by decide) h⟩
  | some j =>
    rw [find_hit hf, with_hit hf]
    have hj := first_lt hf
    refine ⟨K.set j x, by simp, fun i h hi => ?_, fun i h => ?_, fun h => by omega, fun _ => rfl⟩
    · obtain rfl : i = j := by omega
      rw [List.getElem?_set_self hi]
    · rw [List.getElem?_set_ne (by omega)]
theorem load_row {W : World} {b : Nat} {A : Array Value} (hb : W.heap[b]? = some (.cells A 28 (0, 0))) (hs : A.size = 19) : (loadVar 28 ⟨b, 0, none⟩).run Try.prog W = .ok (.agg A) W :=
  run_loadVar_row _ b _ _ A (0, 0) _ hb Try.underlying28 rfl (by rw [hs]; exact info_row)
theorem load_rcl {W : World} {b : Nat} {X : Array Value} (hb : W.heap[b]? = some (.cells X 30 (0, 0))) (hs : X.size = 13) : (loadVar 30 ⟨b, 0, none⟩).run Try.prog W = .ok (.agg X) W :=
  run_loadVar_row _ b _ _ X (0, 0) _ hb Try.underlying30 rfl (by rw [hs]; exact info_rcl)
theorem take_snoc {L : List Cl} {i : Nat} {x : Cl} (h : L[i]? = some x) : L.take (i + 1) = L.take i ++ [x] := by rw [List.take_add_one, h]; rfl

set_option maxRecDepth 100000 in
set_option maxHeartbeats 1000000 in
theorem rwith_any {w : World} {q : Option Addr} {N c : Nat} {K : List Cl} (o : Ow) (hv : Cls w (.slice q N c) K) (hl : K.length ≤ 800000) (x : Cl) :
    Calls Try.prog 26 #[.agg (o.arr q N c), .agg x.arr] w fun e w' => ∃ q' n' c', e = .returned (.agg (o.arr q' n' c')) ∧ Rc w' (.slice q' n' c') (withL K x) ∧ Kept w w' := by
  have hN : K.length = N := by obtain ⟨p, cap, e⟩ := hv.shape; cases e; rfl
  obtain ⟨L, hL, hyes, hno, hlo, hhi⟩ := with_by K x
  obtain ⟨A, hA⟩ : ∃ A, o.arr q N c = A := ⟨_, rfl⟩
  obtain ⟨X, hX⟩ : ∃ X, x.arr = X := ⟨_, rfl⟩
  have sA : A.size = 19 := by rw [← hA]; rfl
  have sX : X.size = 13 := by rw [← hX]; rfl
  have x0 : X[0]? = some (.int .i64 x.n) := by rw [← hX]; rfl
  have x1 : X[1]? = some (.int .i64 x.i) := by rw [← hX]; rfl
  have x2 : X[2]? = some (.int .i64 x.s) := by rw [← hX]; rfl
  have hfx := fold_cl x hX
  have c18 : A[18]? = some (.slice q N c) := by rw [← hA]; rfl
  obtain ⟨W, hW⟩ : ∃ W, ((w.alloc (.cells A 28)).alloc (.cells X 30)).alloc (.cells zeroA 28) = W := ⟨_, rfl⟩
  have hb : Bl w W [(A, 28), (X, 30), (zeroA, 28)] := hW ▸ Bl.three w A _ _ _ _ _
  have C2 := rfind_any o (hv.go hb.kept) (nameOf x)
  obtain ⟨p, hp⟩ : ∃ p, findL K (nameOf x) = p := ⟨_, rfl⟩
  rw [hp, hA] at C2
  rw [hp] at hyes hno hlo hhi
  rw [hA, hX]
  have la := load_row (hb.blk 0 rfl) sA
  have li : (loadVar 23 ⟨w.heap.size + 1, 0, none⟩).run Try.prog W = .ok (.agg #[.int .i64 x.n, .int .i64 x.i, .int .i64 x.s]) W := load_id ((hb.cell 1 0 rfl).trans x0) ((hb.cell 1 1 rfl).trans x1) ((hb.cell 1 2 rfl).trans x2)
  have HW := Lib.hid hW
  have HC2 := Lib.hid C2
  have HB := Lib.hid hb
  have HV := Lib.hid hv
  have HX := Lib.hid hX
  have HA := Lib.hid hA
  have HL := Lib.hid (And.intro hL hN)
  have HY := Lib.hid (And.intro hyes hno)
  have HLO := Lib.hid (And.intro hlo hhi)
  have hN8 : N ≤ 800000 := by omega
  have HC := Lib.hid c18
  have H18 := Lib.hid (fun (u : World) (hu : Bl w u [(A, 28), (X, 30), (zeroA, 28)]) => show u.cell? ⟨w.heap.size, 18, none⟩ = some (.slice q N c) from (hu.cell 0 18 rfl).trans c18)
  clear hW hb hv hA hX hL hN hyes hno hlo hhi hp C2 x0 x1 x2 hl c18
  go_enter Try.func26, Try.ntmps26
  go_upto_region 1 with fail
  rw [show ((w.alloc (.cells A 28)).alloc (.cells X 30)).alloc (.cells #[.int .i64 0, .int .i64 0, .int .i64 0, .int .i64 0, .int .i64 0, .int .i64 0, .int .i64 0, .int .i64 0, .int .i64 0, .int .i64 0, .int .i64 0, .int .i64 0, .int .i64 0, .int .i64 0, .int .i64 0, .int .i64 0, .int .i64 0, .int .i64 0, .slice none 0 0] 28) = W from HW.out]
  go_wp2_with (first
    | (refine load_l 28 (.tmp 2) rfl _ rfl rfl (.agg A) la ?_)
    | (refine load_l 23 (.tmp 9) rfl _ rfl rfl _ li ?_)
    | (go_at_call 21; refine HC2.out.mono ?_; rintro e w1 ⟨rfl, hk1⟩))
  go_loopw [6, 7] (fun s y wr => ∃ i : Nat, i ≤ N ∧ y = .int .i64 (i : Int) ∧ (∃ q2 n2 c2, s = .slice q2 n2 c2 ∧ Rc wr (.slice q2 n2 c2) (L.take i) ∧ (∀ g, (Value.slice q2 n2 c2).ownBlock = some g → w.heap.size + 3 ≤ g)) ∧ Bl w wr [(A, 28), (X, 30), (zeroA, 28)]) (fun _ y _ => N - (intOf y).toNat)
  case atStart => exact ⟨0, Nat.zero_le _, rfl, ⟨none, 0, 0, rfl, rowv_nil _ _ _ _, fun g e => by cases e⟩, HB.out.go hk1⟩
  case round =>
    obtain ⟨i, hi, rfl, ⟨q2, n2, c2, rfl, hr, ho⟩, hb⟩ := hrel
    have h18 := H18.out wr hb
    by_cases hlt : i < N
    · by_cases hip : (i : Int) = p
      · have hx := HY.out.1 i hip (by rw [HL.out.2]; exact hlt)
        have HT := Lib.hid (take_snoc hx)
        have lx := load_rcl (hb.blk 1 rfl) sX
        have HR := Lib.hid (And.intro hr (And.intro ho hb))
        have HS := Lib.hid hb.size
        have hle : (L.take i).length ≤ 900000 := by rw [List.length_take]; omega
        clear hr ho hb hx
        subst hip
        go_wp2_with (first
          | (refine load_l 30 (.tmp 3) rfl _ rfl rfl (.agg X) lx ?_)
          | (refine wpList_append_onev enc_rcl wr rfl _ _ rfl (.slice q2 n2 c2) (L.take i) x X HX.out rfl rfl HR.out.1 hle ?_; intro v4 w4 r4 g4 b4; obtain ⟨q4, n4, c4, rfl⟩ := r4.shape; have ff := ((Fr.refl (fun j => w.heap.size + 3 ≤ j) wr).alloc (.cells X 30)).grown g4 (fun k e => .inl (HR.out.2.1 k e)); have R4 := Lib.hid (And.intro r4 (And.intro (HR.out.2.2.fr ff (fun k h => h)) b4)); clear r4 g4 b4 ff))
        go_roundw
        case rel =>
          refine ⟨i + 1, hlt, by go_num, ⟨q4, n4, c4, rfl, by rw [HT.out]; exact R4.out.1, fun g e => ?_⟩, R4.out.2.1⟩
          rcases R4.out.2.2 with h | ⟨g', h, hg⟩
          · exact HR.out.2.1 g (h.symm.trans e)
          · obtain rfl : g' = g := Option.some.inj (h.symm.trans e)
            have := HS.out
            simp at this
            omega
        case measure => simp [intOf]; omega
      · obtain ⟨y, b, off, hy, rfl, hbb, hc⟩ := (HV.out.go hb.kept).pick (i := i) (by rw [HL.out.2]; exact hlt)
        have hx := (HY.out.2 i hip).trans hy
        have HT := Lib.hid (take_snoc hx)
        obtain ⟨Y, hY⟩ : ∃ Y, y.arr = Y := ⟨_, rfl⟩
        have ly := load_rcall hY hc
        have hfy := fold_cl y hY
        have sY : Y.size = 13 := by rw [← hY]; rfl
        have HYY := Lib.hid hY
        have HR := Lib.hid (And.intro hr (And.intro ho hb))
        have HS := Lib.hid hb.size
        have hle : (L.take i).length ≤ 900000 := by rw [List.length_take]; omega
        have hb0 : ((i : Int) == p) = false := beq_eq_false_iff_ne.2 hip
        clear hr ho hb hx hy hc hY hip
        go_wp2_with (first
          | (refine load_l 30 (.tmp 30) rfl _ rfl rfl (.agg Y) ly ?_)
          | (refine wpList_append_onev enc_rcl wr rfl _ _ rfl (.slice q2 n2 c2) (L.take i) y Y HYY.out rfl rfl HR.out.1 hle ?_; intro v4 w4 r4 g4 b4; obtain ⟨q4, n4, c4, rfl⟩ := r4.shape; have ff := ((Fr.refl (fun j => w.heap.size + 3 ≤ j) wr).alloc (.cells Y 30)).grown g4 (fun k e => .inl (HR.out.2.1 k e)); have R4 := Lib.hid (And.intro r4 (And.intro (HR.out.2.2.fr ff (fun k h => h)) b4)); clear r4 g4 b4 ff))
        go_roundw
        case rel =>
          refine ⟨i + 1, hlt, by go_num, ⟨q4, n4, c4, rfl, by rw [HT.out]; exact R4.out.1, fun g e => ?_⟩, R4.out.2.1⟩
          rcases R4.out.2.2 with h | ⟨g', h, hg⟩
          · exact HR.out.2.1 g (h.symm.trans e)
          · obtain rfl : g' = g := Option.some.inj (h.symm.trans e)
            have := HS.out
            simp at this
            omega
        case measure => simp [intOf]; omega
    · obtain rfl : i = N := by omega
      have hLN : L.take i = L := List.take_of_length_le (by rw [HL.out.1, HL.out.2]; exact Nat.le_refl _)
      rw [hLN] at hr
      have hle : L.length ≤ 900000 := by rw [HL.out.1, HL.out.2]; omega
      have hfr : wr.frozen? ⟨w.heap.size, 18, none⟩ = false := hb.free 0 18 rfl
      by_cases hp0 : p < 0
      · have HWL := Lib.hid (HLO.out.1 hp0)
        have lx := load_rcl (hb.blk 1 rfl) sX
        have HR := Lib.hid (And.intro hr (And.intro ho hb))
        have HS := Lib.hid hb.size
        clear hr ho hb
        go_upto_region 11 with (first
          | (refine load_l 30 (.tmp 3) rfl _ rfl rfl (.agg X) lx ?_)
          | (refine wpList_append_onev enc_rcl wr rfl _ _ rfl (.slice q2 n2 c2) L x X HX.out rfl rfl HR.out.1 hle ?_; intro v4 w4 r4 g4 b4; obtain ⟨q4, n4, c4, rfl⟩ := r4.shape; have ff := ((Fr.refl (fun j => w.heap.size + 3 ≤ j) wr).alloc (.cells X 30)).grown g4 (fun k e => .inl (HR.out.2.1 k e)); have hb4 := HR.out.2.2.fr ff (fun k h => h); have f4 : w4.frozen? ⟨w.heap.size, 18, none⟩ = false := hb4.free 0 18 rfl; have x4 := H18.out w4 hb4; have R4 := Lib.hid (And.intro r4 (And.intro hb4 b4)); clear r4 g4 b4 ff hb4))
        have hn4 : ∀ g, (Value.slice q4 n4 c4).ownBlock = some g → w.heap.size + 3 ≤ g := fun g e => by
          rcases R4.out.2.2 with h | ⟨g', h, hg⟩
          · exact HR.out.2.1 g (h.symm.trans e)
          · obtain rfl : g' = g := Option.some.inj (h.symm.trans e)
            have := HS.out
            simp at this
            omega
        go_upto_region 12 with fail
        obtain ⟨W5, hW5⟩ : ∃ W5, w4.setCell ⟨w.heap.size, 18, none⟩ (.slice q4 n4 c4) = W5 := ⟨_, rfl⟩
        rw [hW5]
        obtain ⟨E, hE⟩ : ∃ E, o.arr q4 n4 c4 = E := ⟨_, rfl⟩
        have eE : A.setIfInBounds 18 (.slice q4 n4 c4) = E := by rw [← HA.out, ← hE]; exact arr_set _ _ _ _ _ _ _
        have sE : E.size = 19 := by rw [← hE]; rfl
        have oE : E.all (·.oneCell') = true := by rw [← hE]; exact arr_one _ _ _ _
        have hb5 : Bl w W5 [(E, 28), (X, 30), (zeroA, 28)] := by
          rw [← hW5, ← eE]; exact R4.out.2.1.put 0 18 rfl _
        have hr5 : Rc W5 (.slice q4 n4 c4) (L ++ [x]) := R4.out.1.kept fun g e => by
          rw [← hW5]
          have := hn4 g e
          exact Below.heap_setCell _ _ _ _ (by show g ≠ w.heap.size; omega)
        have l5 := load_row (hb5.blk 0 rfl) sE
        have HB5 := Lib.hid hb5
        have HR5 := Lib.hid (And.intro hr5 hn4)
        clear hb5 hr5 hW5 eE
        go_wp2_with (first
          | (refine load_l 28 (.tmp 2) rfl _ rfl rfl (.agg E) l5 ?_)
          | (refine wpList_store_row rfl 28 (.tmp 4) (.tmp 42) rfl (w.heap.size + 1 + 1) E rfl rfl 28 zeroA (HB5.out.blk 2 rfl) (by rw [sE]; exact info_row) (by rw [sE]; rfl) oE ?_))
        have hb6 := HB5.out.row 2 rfl E
        refine bodyPost_ret (results_cell_row rfl _ _ (w.heap.size + 2) 28 E (0, 0) _ rfl (hb6.blk 2 rfl) Try.underlying28 rfl (by rw [sE]; exact info_row)) rfl ?_
        refine ⟨q4, n4, c4, by rw [hE], ?_, hb6.kept⟩
        rw [HWL.out]
        exact HR5.out.1.kept (w' := W5.setRow (w.heap.size + 2) E) (fun g e => by
          have := HR5.out.2 g e
          exact setRow_other _ _ _ _ (by omega))
      · have HWL := Lib.hid (HLO.out.2 (by omega))
        have HR := Lib.hid (And.intro hr (And.intro ho hb))
        have hn4 := ho
        clear hr ho hb
        go_upto_region 12 with fail
        obtain ⟨W5, hW5⟩ : ∃ W5, wr.setCell ⟨w.heap.size, 18, none⟩ (.slice q2 n2 c2) = W5 := ⟨_, rfl⟩
        rw [hW5]
        obtain ⟨E, hE⟩ : ∃ E, o.arr q2 n2 c2 = E := ⟨_, rfl⟩
        have eE : A.setIfInBounds 18 (.slice q2 n2 c2) = E := by rw [← HA.out, ← hE]; exact arr_set _ _ _ _ _ _ _
        have sE : E.size = 19 := by rw [← hE]; rfl
        have oE : E.all (·.oneCell') = true := by rw [← hE]; exact arr_one _ _ _ _
        have hb5 : Bl w W5 [(E, 28), (X, 30), (zeroA, 28)] := by
          rw [← hW5, ← eE]; exact HR.out.2.2.put 0 18 rfl _
        have hr5 : Rc W5 (.slice q2 n2 c2) (L) := HR.out.1.kept fun g e => by
          rw [← hW5]
          have := hn4 g e
          exact Below.heap_setCell _ _ _ _ (by show g ≠ w.heap.size; omega)
        have l5 := load_row (hb5.blk 0 rfl) sE
        have HB5 := Lib.hid hb5
        have HR5 := Lib.hid (And.intro hr5 hn4)
        clear hb5 hr5 hW5 eE
        go_wp2_with (first
          | (refine load_l 28 (.tmp 2) rfl _ rfl rfl (.agg E) l5 ?_)
          | (refine wpList_store_row rfl 28 (.tmp 4) (.tmp 42) rfl (w.heap.size + 1 + 1) E rfl rfl 28 zeroA (HB5.out.blk 2 rfl) (by rw [sE]; exact info_row) (by rw [sE]; rfl) oE ?_))
        have hb6 := HB5.out.row 2 rfl E
        refine bodyPost_ret (results_cell_row rfl _ _ (w.heap.size + 2) 28 E (0, 0) _ rfl (hb6.blk 2 rfl) Try.underlying28 rfl (by rw [sE]; exact info_row)) rfl ?_
        refine ⟨q2, n2, c2, by rw [hE], ?_, hb6.kept⟩
        rw [HWL.out]
        exact HR5.out.1.kept (w' := W5.setRow (w.heap.size + 2) E) (fun g e => by
          have := HR5.out.2 g e
          exact setRow_other _ _ _ _ (by omega))

end Go.Proofs.Ytplkhinjlgmilaa.Ow
