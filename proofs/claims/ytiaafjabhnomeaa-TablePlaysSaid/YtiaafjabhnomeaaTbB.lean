/- Caller; both tables under a deed; the law TablePlays, and rows of deeds as arguments. -/
import Derived.Test.YtiaafjabhnomeaaTbH
import Derived.Test.YtiaafjabhnomeaaTbS
import Derived.Test.YtiaafjabhnomeaaTbR
import Derived.LoopTactic
import Derived.Deep.DeepCutAuto
import Derived.Test.YtiaafjabhnomeaaRw
import Derived.Test.YtiaafjabhnomeaaAv
import Derived.Test.YtiaafjabhnomeaaTbV
import Derived.Test.YtiaafjabhnomeaaTbY
import Derived.Test.YtiaafjabhnomeaaTbW
import Derived.Test.YtiaafjabhnomeaaOwF
import Derived.Test.YtiaafjabhnomeaaOw8
import Derived.Test.YtiaafjabhnomeaaTbA0
section
namespace Go.Proofs.Ytiaafjabhnomeaa.Tb
open Go.RowKit Go.Sort IdM Se Mv Blk
open St (Kept blk_cell blk_free blk_lt blk_set)
open Go.Proofs.Ytiaafjabhnomeaa.Ow (Ow Cls Mc mc_cls load_id load_key load_call info_cl one_cells take_snoc zeroA info_ow arr_one load_ow clone_any)
open Go.Proofs.Ytiaafjabhnomeaa.Cl (Cl encC)
open Go.Proofs.Ytiaafjabhnomeaa.Rv
open Go.Proofs.Ytiaafjabhnomeaa.Ad (load_w load_l store_new kept_row)
open Go.Proofs.Ytiaafjabhnomeaa.Au (Stab stab_and stab_kept)
open Wh (Fr)
set_option linter.unusedVariables false
set_option linter.unusedSimpArgs false
set_option maxRecDepth 20000

theorem info_k4 : (Try.prog.info? 32).map (·.size) = some 4 := by kernel_rfl
set_option maxHeartbeats 2000000 in
theorem min_any {w : World} {v : Value} {L : List Ke} (hv : Kr w v L) (hl : L.length ≤ 900000) (hne : L ≠ []) {k : Ke} (hall : ∀ x ∈ L, x = k) :
    Calls Try.prog 40 #[v, .func (.func 41) #[] #[]] w fun e w' => e = .returned (kv k) ∧ Kept w w' := by
  have CK := Lib.hid (fun (u : World) => Al.keys_gr (Lib.hid (show keysI k.n k.i k.s k.a k.n k.i k.s k.a = 0 from kI_self k)) (w := u))
  obtain ⟨q, N, cap, rfl⟩ := hv.shape
  have hN : L.length = N := by obtain ⟨s, e, h, _⟩ := row_sl hv; obtain ⟨a, b, c⟩ := s; unfold Sl.v at e; cases e; exact h.symm
  have hN0 : 0 < N := by rw [← hN]; exact List.length_pos_iff.2 hne
  obtain ⟨x, g, cap', hx, e, hcap, hgl, _⟩ := Kr.pick hv (i := 0) (by omega)
  obtain ⟨e1, e3⟩ : q = some ⟨g, 0, none⟩ ∧ cap = cap' := by injection e with e1 e2 e3; exact ⟨e1, e3⟩
  clear e
  subst e1; subst e3
  have CELL : ∀ i, i < N → ∀ u, Kept w u → u.cell? ⟨g, i * 4, none⟩ = some (.int .i64 k.n) ∧ u.cell? ⟨g, i * 4 + 1, none⟩ = some (.int .i64 k.i) ∧ u.cell? ⟨g, i * 4 + 2, none⟩ = some (.int .i64 k.s) ∧ u.cell? ⟨g, i * 4 + 3, none⟩ = some (.int .i64 k.a) := fun i hi u hu => by
    obtain ⟨y, g', cap', hy, e, _, _, c0, c1, c2, c3⟩ := Kr.pick (RowV.keep hv hu) (i := i) (by omega)
    have : y = k := hall y (List.mem_of_getElem? hy)
    subst this
    injection e with e1 _ _
    injection e1 with e1
    injection e1 with e1
    subst e1
    exact ⟨c0, c1, c2, c3⟩
  have HC := Lib.hid CELL
  have hm2 : N ≤ 900000 := by omega
  clear hv hl hne hall hN hx hcap hgl CELL
  obtain ⟨z0, z1, z2, z3⟩ := HC.out 0 hN0 (w.alloc (.cells #[.int .i64 0, .int .i64 0, .int .i64 0, .int .i64 0] 32)) (Kept.one _ _)
  have e1 : ¬ (N : Int) < 1 := by omega
  have e2 : (0 : Int) < (N : Int) := by omega
  simp only [Nat.zero_mul, Nat.zero_add] at z0 z1 z2 z3
  go_enter Try.func40, Try.ntmps40
  go_upto_region 4 with fail
  obtain ⟨W, hW⟩ : ∃ W, (w.alloc (.cells #[.int .i64 0, .int .i64 0, .int .i64 0, .int .i64 0] 32)).alloc (.cells #[.int .i64 k.n, .int .i64 k.i, .int .i64 k.s, .int .i64 k.a] 32) = W := ⟨_, rfl⟩
  have hb : Bl w W [(#[.int .i64 0, .int .i64 0, .int .i64 0, .int .i64 0], 32), (#[.int .i64 k.n, .int .i64 k.i, .int .i64 k.s, .int .i64 k.a], 32)] := hW ▸ Bl.two w _ _ _ _
  rw [hW]
  have HB := Lib.hid hb
  clear hb hW z0 z1 z2 z3
  go_wp2_with fail
  go_loopw [6] (fun y wr => ∃ i : Nat, i ≤ N ∧ y = .int .i64 (i : Int) ∧ Kept W wr) (fun y _ => N - (intOf y).toNat)
  case atStart => exact ⟨1, by omega, rfl, Kept.refl _⟩
  case round =>
    obtain ⟨i, hi, rfl, hk⟩ := hrel
    by_cases hlt : i < N
    · have hi1 : (i : Int) < N := by omega
      have e5 : (0 : Nat) + i * 4 = i * 4 := Nat.zero_add _
      have LE := Lib.hid (fun (u : World) (hu : Kept wr u) => by
        obtain ⟨c0, c1, c2, c3⟩ := HC.out i hlt u ((HB.out.kept.trans hk).trans hu)
        exact load_key (u := u) (b := g) (o := i * 4) c0 c1 c2 c3)
      have LM := Lib.hid (fun (u : World) (hu : Kept wr u) => load_key (u := u) (b := w.heap.size + 1) (o := 0) ((HB.out.go (hk.trans hu)).cell 1 0 rfl) ((HB.out.go (hk.trans hu)).cell 1 1 rfl) ((HB.out.go (hk.trans hu)).cell 1 2 rfl) ((HB.out.go (hk.trans hu)).cell 1 3 rfl))
      have CK2 := Lib.hid (show ∀ u, Calls Try.prog 41 #[.agg #[.int .i64 k.n, .int .i64 k.i, .int .i64 k.s, .int .i64 k.a], .agg #[.int .i64 k.n, .int .i64 k.i, .int .i64 k.s, .int .i64 k.a]] u fun e w' => e = .returned (.int .i64 0) ∧ Kept u w' from fun u => (CK.out u).mono fun e w' ⟨a, b⟩ => ⟨a, b.kept⟩)
      have hSt : Stab (fun u => Kept wr u) := stab_kept wr
      go_upto_region 7 with fail
      refine Av.region 8 (fun u => Kept wr u) (by kernel_rfl) ((Kept.refl wr).drew) ?_
      refine Av.take 0 (some 20) (v := ?_) rfl rfl (by kernel_rfl) (by kernel_rfl) (by kernel_rfl) (by kernel_rfl) (fun _ _ _ h => h) hSt (Au.yq_run (by rfl) (fun u hu => ?_)) ?_
      rotate_left
      · (clear hu; go_simp; try with_reducible rfl)
      simp only [Act.put, List.setIfInBounds_toArray, List.set_cons_zero, List.set_cons_succ]
      refine Av.take 1 (some 21) (v := ?_) rfl rfl (by kernel_rfl) (by kernel_rfl) (by kernel_rfl) (by kernel_rfl) (fun _ _ _ h => h) hSt (Au.yq_run (by rfl) (fun u hu => ?_)) ?_
      rotate_left
      · (clear hu; go_simp; try with_reducible rfl)
      simp only [Act.put, List.setIfInBounds_toArray, List.set_cons_zero, List.set_cons_succ]
      refine Av.take 2 (some 22) (v := ?_) rfl rfl (by kernel_rfl) (by kernel_rfl) (by kernel_rfl) (by kernel_rfl) (fun _ _ _ h => h) hSt (Au.yq_run (by rfl) (fun u hu => ?_)) ?_
      rotate_left
      · (clear hu; go_simp; try with_reducible rfl)
      simp only [Act.put, List.setIfInBounds_toArray, List.set_cons_zero, List.set_cons_succ]
      refine Av.take 3 (some 23) (v := ?_) rfl rfl (by kernel_rfl) (by kernel_rfl) (by kernel_rfl) (by kernel_rfl) (fun _ _ _ h => h) hSt (Au.yq_run (by rfl) (fun u hu => ?_)) ?_
      rotate_left
      · (clear hu; go_simp; try with_reducible rfl)
      simp only [Act.put, List.setIfInBounds_toArray, List.set_cons_zero, List.set_cons_succ]
      refine Av.take 4 (some 24) rfl rfl (by kernel_rfl) (by kernel_rfl) (by kernel_rfl) (by kernel_rfl) (fun _ _ _ h => h) hSt (Au.yq_load 32 (.tmp 23) rfl _ rfl (by rfl) (fun u hu => LE.out u hu)) ?_
      simp only [Act.put, List.setIfInBounds_toArray, List.set_cons_zero, List.set_cons_succ]
      refine Av.take 5 (some 25) rfl rfl (by kernel_rfl) (by kernel_rfl) (by kernel_rfl) (by kernel_rfl) (fun _ _ _ h => h) hSt (Au.yq_load 32 (.tmp 5) rfl _ rfl (by rfl) (fun u hu => LM.out u hu)) ?_
      simp only [Act.put, List.setIfInBounds_toArray, List.set_cons_zero, List.set_cons_succ]
      refine Av.take 6 (some 26) rfl rfl (by kernel_rfl) (by kernel_rfl) (by kernel_rfl) (by kernel_rfl) (fun _ _ _ h => h) hSt (Au.yq_call 41 _ (by rfl) (fun u => by go_simp) (fun u hu => CK2.out u)) ?_
      simp only [Act.put, List.setIfInBounds_toArray, List.set_cons_zero, List.set_cons_succ]
      refine Av.take 7 (some 27) (v := ?_) rfl rfl (by kernel_rfl) (by kernel_rfl) (by kernel_rfl) (by kernel_rfl) (fun _ _ _ h => h) hSt (Au.yq_run (by rfl) (fun u hu => ?_)) ?_
      rotate_left
      · (clear hu; go_simp; try with_reducible rfl)
      simp only [Act.put, List.setIfInBounds_toArray, List.set_cons_zero, List.set_cons_succ]
      refine Av.done (by kernel_rfl) (fun u hu => ?_)
      have HU := Lib.hid hu
      clear hu LE LM CK2
      go_wp2_with fail
      go_roundw
      case rel => exact ⟨i + 1, hlt, by go_num, hk.trans HU.out⟩
      case measure => simp [intOf]; omega
    · obtain rfl : i = N := by omega
      have hbr := HB.out.go hk
      have y0 : wr.cell? ⟨w.heap.size + 1, 0, none⟩ = some (.int .i64 k.n) := hbr.cell 1 0 rfl
      have y1 : wr.cell? ⟨w.heap.size + 1, 1, none⟩ = some (.int .i64 k.i) := hbr.cell 1 1 rfl
      have y2 : wr.cell? ⟨w.heap.size + 1, 2, none⟩ = some (.int .i64 k.s) := hbr.cell 1 2 rfl
      have y3 : wr.cell? ⟨w.heap.size + 1, 3, none⟩ = some (.int .i64 k.a) := hbr.cell 1 3 rfl
      have hbz : wr.heap[w.heap.size]? = some (.cells #[.int .i64 0, .int .i64 0, .int .i64 0, .int .i64 0] 32 (0, 0)) := hbr.blk 0 rfl
      have s0 : wr.cell? ⟨w.heap.size, 0, none⟩ = some (.int .i64 0) := by rw [blk_cell hbz]; rfl
      have s1 : wr.cell? ⟨w.heap.size, 1, none⟩ = some (.int .i64 0) := by rw [blk_cell hbz]; rfl
      have s2 : wr.cell? ⟨w.heap.size, 2, none⟩ = some (.int .i64 0) := by rw [blk_cell hbz]; rfl
      have s3 : wr.cell? ⟨w.heap.size, 3, none⟩ = some (.int .i64 0) := by rw [blk_cell hbz]; rfl
      have f0 : wr.frozen? ⟨w.heap.size, 0, none⟩ = false := blk_free hbz 0
      have f1 : wr.frozen? ⟨w.heap.size, 1, none⟩ = false := blk_free hbz 1
      have f2 : wr.frozen? ⟨w.heap.size, 2, none⟩ = false := blk_free hbz 2
      have f3 : wr.frozen? ⟨w.heap.size, 3, none⟩ = false := blk_free hbz 3
      go_wp2_with fail
      have hb6 := (((hbr.put 0 0 rfl (.int .i64 k.n)).put 0 1 rfl (.int .i64 k.i)).put 0 2 rfl (.int .i64 k.s)).put 0 3 rfl (.int .i64 k.a)
      refine bodyPost_ret (results_cell_row rfl _ _ w.heap.size 32 #[.int .i64 k.n, .int .i64 k.i, .int .i64 k.s, .int .i64 k.a] (0, 0) _ rfl (hb6.blk 0 rfl) Try.underlying32 rfl info_k4) rfl ?_
      exact ⟨rfl, hb6.kept⟩

/-- whose a call is -/
def who (d : Di) (L : Tab) : Option En := L.find? fun e => e.has d
def theOne (d : Di) (L : Tab) : En := (who d L).getD ⟨Ow.zero, []⟩
/-- no two owners have calls of one identity -/
def Single (L : Tab) : Prop := ∀ d, ∀ e ∈ L, ∀ f ∈ L, e.has d = true → f.has d = true → e.k = f.k
theorem who_some {d : Di} {L : Tab} (hs : Sorted L) (h1 : Single L) {e : En} (he : e ∈ L) (hd : e.has d = true) : who d L = some e := by
  cases hw : who d L with
  | none => have := List.find?_eq_none.1 hw e he; rw [hd] at this; exact absurd rfl this
  | some f =>
    have hf := List.mem_of_find?_eq_some hw
    have hfd : f.has d = true := by have := List.find?_some (p := fun e : En => e.has d) hw; exact this
    have hk := h1 d e he f hf hd hfd
    have : some f = some e := by rw [← find_mem hs hf, ← hk, find_mem hs he]
    rw [← Option.some.inj this]
theorem who_none {d : Di} {L : Tab} (h : ∀ e ∈ L, e.has d = false) : who d L = none := List.find?_eq_none.2 fun e he => by rw [h e he]; decide

theorem Cb.all {w : World} {N m : Nat} {F : Cal} {S : Nat → Prop} (h : Cb w N F m S) {d : Di} (hd : okD d) : ∃ s : Sl, ∀ u, Kept w u → (Instr.lookup 61 (.map (some N)) (dv d) false).run Try.prog u = .ok s.v u ∧ Kr u s.v (F d) := by
  obtain ⟨C, n, h⟩ := h
  refine ⟨(C d).getD zS, fun u hu => ⟨(h.map.kept (hu.block N h.map.lt)).look Try.underlying61 zero_row hd, ?_⟩⟩
  rcases h.row d hd with ⟨h1, h2⟩ | ⟨s, g, h1, h2, h3, h4, h5, h6⟩
  · rw [h1, h2]; exact rowv_nil _ _ _ _
  · rw [h1]; exact RowV.keep h4 hu
set_option maxHeartbeats 4000000 in
theorem caller_any {w : World} {B m : Nat} {S : Nat → Prop} {L : Tab} (h0 : Tbl w B L m S) (hm : m ≤ 900000) (h1 : Single L) {d : Di} (hd : okD d) :
    Calls Try.prog 22 #[pB B, dv d] w fun e w' => ∃ q n c, e = .returned (.tuple #[.agg ((theOne d L).o.arr q n c), .bool (who d L).isSome]) ∧ Mc w' (.slice q n c) (theOne d L).K ∧ (∀ g, (Value.slice q n c).ownBlock = some g → w.heap.size ≤ g) ∧ Kept w w' := by
  obtain ⟨W, hW⟩ : ∃ W, (w.alloc (.cells #[.int .i64 d.n, .int .i64 d.i, .int .i64 d.s] 30)).alloc (.cells zeroA 52) = W := ⟨_, rfl⟩
  have hb : Bl w W [(#[.int .i64 d.n, .int .i64 d.i, .int .i64 d.s], 30), (zeroA, 52)] := hW ▸ Bl.two w _ _ _ _
  have hT := h0.kept hb.kept
  have hso := h0.sorted
  have hft := h0.fit
  have GT := Lib.hid (fun (u : World) (hu : Kept W u) (x : Ke) (hx : okK x) => get_any (hT.kept hu) hx)
  obtain ⟨M, N, Sc, T, n0, F, h⟩ := hT
  have C := Lib.hid (show ∀ u, Kept W u → Calls Try.prog 35 #[pB B] u fun e w' => e = .returned (.bool true) ∧ Kept u w' from fun u hu => (made_any (h.blk.kept hu)).mono fun e w' ⟨a, b⟩ => ⟨a, b ▸ Kept.refl _⟩)
  obtain ⟨⟨q, n, c⟩, LOOK⟩ := h.cb.all hd
  have hfl : (F d).length ≤ 900000 := by obtain ⟨_, _, hc⟩ := h.cb; exact Nat.le_trans (hc.len d) hm
  have hn : n = (F d).length := by
    obtain ⟨s, e, h2, _⟩ := row_sl (LOOK W (Kept.refl W)).2
    have := Sl.v_inj e
    subst this; exact h2
  have LN := Lib.hid (fun (u : World) (hu : Kept W u) => run_loadN ((h.blk.kept hu).c2))
  have LI := Lib.hid (fun (u : World) (hu : Kept W u) => load_id (u := u) (b := w.heap.size) (o := 0) ((hb.go hu).cell 0 0 rfl) ((hb.go hu).cell 0 1 rfl) ((hb.go hu).cell 0 2 rfl))
  have LO := Lib.hid (fun (u : World) (hu : Kept W u) => show (Instr.lookup 61 (.map (some N)) (.agg #[.int .i64 d.n, .int .i64 d.i, .int .i64 d.s]) false).run Try.prog u = .ok (.slice (ad q) n c) u from (LOOK u hu).1)
  have LR := Lib.hid (fun (u : World) (hu : Kept W u) => (LOOK u hu).2)
  have TO := Lib.hid h.told
  have HB := Lib.hid hb
  have HW := Lib.hid hW
  have HS := Lib.hid (And.intro hso (And.intro hft h1))
  have hSt : Stab (fun u => Kept W u) := stab_kept W
  have hn9 : n ≤ 900000 := by omega
  have HFL := Lib.hid hfl
  clear h h0 hb hW LOOK hso hft h1 hfl
  unfold pB at C GT ⊢
  unfold dv
  by_cases hnil : F d = []
  · have hn0 : n = 0 := by rw [hn, hnil]; rfl
    have hwho : who d L = none := who_none fun e he => by
      cases hh : e.has d with
      | false => rfl
      | true => have := (TO.out d e.k).2 ⟨e, he, rfl, hh⟩; rw [hnil] at this; cases this
    have hone : theOne d L = ⟨Ow.zero, []⟩ := by unfold theOne; rw [hwho]; rfl
    rw [hwho, hone]
    subst hn0
    clear hn hnil hwho hone
    go_enter Try.func22, Try.ntmps22
    go_upto_region 1 with fail
    rw [show (w.alloc (.cells #[.int .i64 d.n, .int .i64 d.i, .int .i64 d.s] 30)).alloc (.cells #[.int .i64 0, .int .i64 0, .int .i64 0, .int .i64 0, .int .i64 0, .int .i64 0, .int .i64 0, .int .i64 0, .int .i64 0, .int .i64 0, .int .i64 0, .int .i64 0, .int .i64 0, .int .i64 0, .int .i64 0, .int .i64 0, .int .i64 0, .int .i64 0, .slice none 0 0] 52) = W from HW.out]
    refine Av.region 13 (fun u => Kept W u) (by kernel_rfl) ((Kept.refl W).drew) ?_
    refine Av.take 0 (some 6) (v := ?_) rfl rfl (by kernel_rfl) (by kernel_rfl) (by kernel_rfl) (by kernel_rfl) (fun _ _ _ h => h) hSt (Au.yq_run (by rfl) (fun u hu => ?_)) ?_
    rotate_left
    · (clear hu; go_simp; try with_reducible rfl)
    simp only [Act.put, List.setIfInBounds_toArray, List.set_cons_zero, List.set_cons_succ]
    refine Av.take 1 (some 7) rfl rfl (by kernel_rfl) (by kernel_rfl) (by kernel_rfl) (by kernel_rfl) (fun _ _ _ h => h) hSt (Au.yq_call 35 _ (by rfl) (fun u => by go_simp) (fun u hu => C.out u hu)) ?_
    simp only [Act.put, List.setIfInBounds_toArray, List.set_cons_zero, List.set_cons_succ]
    refine Av.take 2 (some 8) (v := ?_) rfl rfl (by kernel_rfl) (by kernel_rfl) (by kernel_rfl) (by kernel_rfl) (fun _ _ _ h => h) hSt (Au.yq_run (by rfl) (fun u hu => ?_)) ?_
    rotate_left
    · (clear hu; go_simp; try with_reducible rfl)
    simp only [Act.put, List.setIfInBounds_toArray, List.set_cons_zero, List.set_cons_succ]
    refine Av.take 3 (some 9) (v := ?_) rfl rfl (by kernel_rfl) (by kernel_rfl) (by kernel_rfl) (by kernel_rfl) (fun _ _ _ h => h) hSt (Au.yq_run (by rfl) (fun u hu => ?_)) ?_
    rotate_left
    · (clear hu; go_simp; try with_reducible rfl)
    simp only [Act.put, List.setIfInBounds_toArray, List.set_cons_zero, List.set_cons_succ]
    refine Av.take 4 (some 10) (v := ?_) rfl rfl (by kernel_rfl) (by kernel_rfl) (by kernel_rfl) (by kernel_rfl) (fun _ _ _ h => h) hSt (Au.yq_run (by rfl) (fun u hu => ?_)) ?_
    rotate_left
    · (clear hu; go_simp; try with_reducible rfl)
    simp only [Act.put, List.setIfInBounds_toArray, List.set_cons_zero, List.set_cons_succ]
    refine Av.take 5 (some 11) (v := ?_) rfl rfl (by kernel_rfl) (by kernel_rfl) (by kernel_rfl) (by kernel_rfl) (fun _ _ _ h => h) hSt (Au.yq_run (by rfl) (fun u hu => ?_)) ?_
    rotate_left
    · (clear hu; go_simp; try with_reducible rfl)
    simp only [Act.put, List.setIfInBounds_toArray, List.set_cons_zero, List.set_cons_succ]
    refine Av.take 6 (some 12) (v := ?_) rfl rfl (by kernel_rfl) (by kernel_rfl) (by kernel_rfl) (by kernel_rfl) (fun _ _ _ h => h) hSt (Au.yq_run (by rfl) (fun u hu => ?_)) ?_
    rotate_left
    · (clear hu; go_simp; try with_reducible rfl)
    simp only [Act.put, List.setIfInBounds_toArray, List.set_cons_zero, List.set_cons_succ]
    refine Av.take 7 (some 13) rfl rfl (by kernel_rfl) (by kernel_rfl) (by kernel_rfl) (by kernel_rfl) (fun _ _ _ h => h) hSt (Au.yq_load 61 (.tmp 12) rfl _ rfl (by rfl) (fun u hu => LN.out u hu)) ?_
    simp only [Act.put, List.setIfInBounds_toArray, List.set_cons_zero, List.set_cons_succ]
    refine Av.take 8 (some 14) rfl rfl (by kernel_rfl) (by kernel_rfl) (by kernel_rfl) (by kernel_rfl) (fun _ _ _ h => h) hSt (Au.yq_load 30 (.tmp 3) rfl _ rfl (by rfl) (fun u hu => LI.out u hu)) ?_
    simp only [Act.put, List.setIfInBounds_toArray, List.set_cons_zero, List.set_cons_succ]
    refine Av.take 9 (some 15) (v := ?_) rfl rfl (by kernel_rfl) (by kernel_rfl) (by kernel_rfl) (by kernel_rfl) (fun _ _ _ h => h) hSt (Au.yq_run (by rfl) (fun u hu => ?_)) ?_
    rotate_left
    · (have hrun := LO.out u hu; clear hu; go_simp; try with_reducible rfl)
    simp only [Act.put, List.setIfInBounds_toArray, List.set_cons_zero, List.set_cons_succ]
    refine Av.take 10 (some 16) (v := ?_) rfl rfl (by kernel_rfl) (by kernel_rfl) (by kernel_rfl) (by kernel_rfl) (fun _ _ _ h => h) hSt (Au.yq_run (by rfl) (fun u hu => ?_)) ?_
    rotate_left
    · (clear hu; go_simp; try with_reducible rfl)
    simp only [Act.put, List.setIfInBounds_toArray, List.set_cons_zero, List.set_cons_succ]
    refine Av.take 11 (some 17) (v := ?_) rfl rfl (by kernel_rfl) (by kernel_rfl) (by kernel_rfl) (by kernel_rfl) (fun _ _ _ h => h) hSt (Au.yq_run (by rfl) (fun u hu => ?_)) ?_
    rotate_left
    · (clear hu; go_simp; try with_reducible rfl)
    simp only [Act.put, List.setIfInBounds_toArray, List.set_cons_zero, List.set_cons_succ]
    refine Av.take 12 (some 18) (v := ?_) rfl rfl (by kernel_rfl) (by kernel_rfl) (by kernel_rfl) (by kernel_rfl) (fun _ _ _ h => h) hSt (Au.yq_run (by rfl) (fun u hu => ?_)) ?_
    rotate_left
    · (clear hu; go_simp; try with_reducible rfl)
    simp only [Act.put, List.setIfInBounds_toArray, List.set_cons_zero, List.set_cons_succ]
    refine Av.done (by kernel_rfl) (fun u hu => ?_)
    have HU := Lib.hid hu
    clear hu
    go_wp2_with (first
      | (refine wpList_store_row rfl 52 (.tmp 4) (.tmp 19) rfl (w.heap.size + 1) zeroA rfl rfl 52 zeroA ((HB.out.go HU.out).blk 1 rfl) info_ow rfl (arr_one _ _ _ _) ?_))
    have hb6 := (HB.out.go HU.out).row 1 rfl zeroA
    refine bodyPost_ret (Rw.results_row_tmp rfl _ _ (w.heap.size + 1) 52 zeroA (0, 0) _ rfl (hb6.blk 1 rfl) Try.underlying52 rfl info_ow) rfl ?_
    exact ⟨none, 0, 0, rfl, rowv_nil _ _ _ _, (fun g e => by cases e), hb6.kept⟩
  · have hn0 : 0 < n := by rw [hn]; exact List.length_pos_iff.2 hnil
    obtain ⟨x, r, hxr⟩ : ∃ x r, F d = x :: r := by
      cases hF : F d with
      | nil => exact absurd hF hnil
      | cons x r => exact ⟨x, r, rfl⟩
    obtain ⟨e, he, hk, hh⟩ := (TO.out d x).1 (by rw [hxr]; exact List.mem_cons_self)
    have hall : ∀ y ∈ F d, y = e.k := fun y hy => by
      obtain ⟨f, hf, hfk, hfh⟩ := (TO.out d y).1 hy
      rw [← hfk]; exact HS.out.2.2 d f hf e he hfh hh
    have hwho : who d L = some e := who_some HS.out.1 HS.out.2.2 he hh
    have hone : theOne d L = e := by unfold theOne; rw [hwho]; rfl
    have hgot : got e.k L = e := by unfold got; rw [find_mem HS.out.1 he]; rfl
    have hfind : find e.k L = some e := find_mem HS.out.1 he
    rw [hwho, hone]
    have MN := Lib.hid (fun (u : World) (hu : Kept W u) => show Calls Try.prog 40 #[.slice (ad q) n c, .func (.func 41) #[] #[]] u fun r w' => r = .returned (.agg #[.int .i64 e.k.n, .int .i64 e.k.i, .int .i64 e.k.s, .int .i64 e.k.a]) ∧ Kept u w' from min_any (LR.out u hu) HFL.out hnil hall)
    have GE := Lib.hid (fun (u : World) (hu : Kept W u) => by
      have := GT.out u hu e.k (HS.out.2.1 e he).1
      rw [hgot, hfind] at this
      unfold kv at this
      exact this)
    have e9 : ((n : Int) == 0) = false := beq_eq_false_iff_ne.2 (by omega)
    clear hn hnil hwho hone hall hh hk hxr TO HS GT hgot hfind LR HFL
    go_enter Try.func22, Try.ntmps22
    go_upto_region 1 with fail
    rw [show (w.alloc (.cells #[.int .i64 d.n, .int .i64 d.i, .int .i64 d.s] 30)).alloc (.cells #[.int .i64 0, .int .i64 0, .int .i64 0, .int .i64 0, .int .i64 0, .int .i64 0, .int .i64 0, .int .i64 0, .int .i64 0, .int .i64 0, .int .i64 0, .int .i64 0, .int .i64 0, .int .i64 0, .int .i64 0, .int .i64 0, .int .i64 0, .int .i64 0, .slice none 0 0] 52) = W from HW.out]
    refine Av.region 13 (fun u => Kept W u) (by kernel_rfl) ((Kept.refl W).drew) ?_
    refine Av.take 0 (some 6) (v := ?_) rfl rfl (by kernel_rfl) (by kernel_rfl) (by kernel_rfl) (by kernel_rfl) (fun _ _ _ h => h) hSt (Au.yq_run (by rfl) (fun u hu => ?_)) ?_
    rotate_left
    · (clear hu; go_simp; try with_reducible rfl)
    simp only [Act.put, List.setIfInBounds_toArray, List.set_cons_zero, List.set_cons_succ]
    refine Av.take 1 (some 7) rfl rfl (by kernel_rfl) (by kernel_rfl) (by kernel_rfl) (by kernel_rfl) (fun _ _ _ h => h) hSt (Au.yq_call 35 _ (by rfl) (fun u => by go_simp) (fun u hu => C.out u hu)) ?_
    simp only [Act.put, List.setIfInBounds_toArray, List.set_cons_zero, List.set_cons_succ]
    refine Av.take 2 (some 8) (v := ?_) rfl rfl (by kernel_rfl) (by kernel_rfl) (by kernel_rfl) (by kernel_rfl) (fun _ _ _ h => h) hSt (Au.yq_run (by rfl) (fun u hu => ?_)) ?_
    rotate_left
    · (clear hu; go_simp; try with_reducible rfl)
    simp only [Act.put, List.setIfInBounds_toArray, List.set_cons_zero, List.set_cons_succ]
    refine Av.take 3 (some 9) (v := ?_) rfl rfl (by kernel_rfl) (by kernel_rfl) (by kernel_rfl) (by kernel_rfl) (fun _ _ _ h => h) hSt (Au.yq_run (by rfl) (fun u hu => ?_)) ?_
    rotate_left
    · (clear hu; go_simp; try with_reducible rfl)
    simp only [Act.put, List.setIfInBounds_toArray, List.set_cons_zero, List.set_cons_succ]
    refine Av.take 4 (some 10) (v := ?_) rfl rfl (by kernel_rfl) (by kernel_rfl) (by kernel_rfl) (by kernel_rfl) (fun _ _ _ h => h) hSt (Au.yq_run (by rfl) (fun u hu => ?_)) ?_
    rotate_left
    · (clear hu; go_simp; try with_reducible rfl)
    simp only [Act.put, List.setIfInBounds_toArray, List.set_cons_zero, List.set_cons_succ]
    refine Av.take 5 (some 11) (v := ?_) rfl rfl (by kernel_rfl) (by kernel_rfl) (by kernel_rfl) (by kernel_rfl) (fun _ _ _ h => h) hSt (Au.yq_run (by rfl) (fun u hu => ?_)) ?_
    rotate_left
    · (clear hu; go_simp; try with_reducible rfl)
    simp only [Act.put, List.setIfInBounds_toArray, List.set_cons_zero, List.set_cons_succ]
    refine Av.take 6 (some 12) (v := ?_) rfl rfl (by kernel_rfl) (by kernel_rfl) (by kernel_rfl) (by kernel_rfl) (fun _ _ _ h => h) hSt (Au.yq_run (by rfl) (fun u hu => ?_)) ?_
    rotate_left
    · (clear hu; go_simp; try with_reducible rfl)
    simp only [Act.put, List.setIfInBounds_toArray, List.set_cons_zero, List.set_cons_succ]
    refine Av.take 7 (some 13) rfl rfl (by kernel_rfl) (by kernel_rfl) (by kernel_rfl) (by kernel_rfl) (fun _ _ _ h => h) hSt (Au.yq_load 61 (.tmp 12) rfl _ rfl (by rfl) (fun u hu => LN.out u hu)) ?_
    simp only [Act.put, List.setIfInBounds_toArray, List.set_cons_zero, List.set_cons_succ]
    refine Av.take 8 (some 14) rfl rfl (by kernel_rfl) (by kernel_rfl) (by kernel_rfl) (by kernel_rfl) (fun _ _ _ h => h) hSt (Au.yq_load 30 (.tmp 3) rfl _ rfl (by rfl) (fun u hu => LI.out u hu)) ?_
    simp only [Act.put, List.setIfInBounds_toArray, List.set_cons_zero, List.set_cons_succ]
    refine Av.take 9 (some 15) (v := ?_) rfl rfl (by kernel_rfl) (by kernel_rfl) (by kernel_rfl) (by kernel_rfl) (fun _ _ _ h => h) hSt (Au.yq_run (by rfl) (fun u hu => ?_)) ?_
    rotate_left
    · (have hrun := LO.out u hu; clear hu; go_simp; try with_reducible rfl)
    simp only [Act.put, List.setIfInBounds_toArray, List.set_cons_zero, List.set_cons_succ]
    refine Av.take 10 (some 16) (v := ?_) rfl rfl (by kernel_rfl) (by kernel_rfl) (by kernel_rfl) (by kernel_rfl) (fun _ _ _ h => h) hSt (Au.yq_run (by rfl) (fun u hu => ?_)) ?_
    rotate_left
    · (clear hu; go_simp; try with_reducible rfl)
    simp only [Act.put, List.setIfInBounds_toArray, List.set_cons_zero, List.set_cons_succ]
    refine Av.take 11 (some 17) (v := ?_) rfl rfl (by kernel_rfl) (by kernel_rfl) (by kernel_rfl) (by kernel_rfl) (fun _ _ _ h => h) hSt (Au.yq_run (by rfl) (fun u hu => ?_)) ?_
    rotate_left
    · (clear hu; go_simp; try with_reducible rfl)
    simp only [Act.put, List.setIfInBounds_toArray, List.set_cons_zero, List.set_cons_succ]
    refine Av.take 12 (some 18) (v := ?_) rfl rfl (by kernel_rfl) (by kernel_rfl) (by kernel_rfl) (by kernel_rfl) (fun _ _ _ h => h) hSt (Au.yq_run (by rfl) (fun u hu => ?_)) ?_
    rotate_left
    · (clear hu; go_simp; try with_reducible rfl)
    simp only [Act.put, List.setIfInBounds_toArray, List.set_cons_zero, List.set_cons_succ]
    refine Av.done (by kernel_rfl) (fun u hu => ?_)
    have HU := Lib.hid hu
    clear hu
    go_upto_region 3 with fail
    have hSu : Stab (fun x => Kept u x) := stab_kept u
    refine Av.region 11 (fun x => Kept u x) (by kernel_rfl) ((Kept.refl u).drew) ?_
    refine Av.take 0 (some 20) (v := ?_) rfl rfl (by kernel_rfl) (by kernel_rfl) (by kernel_rfl) (by kernel_rfl) (fun _ _ _ h => h) hSu (Au.yq_run (by rfl) (fun u hu => ?_)) ?_
    rotate_left
    · (clear hu; go_simp; try with_reducible rfl)
    simp only [Act.put, List.setIfInBounds_toArray, List.set_cons_zero, List.set_cons_succ]
    refine Av.take 1 (some 21) (v := ?_) rfl rfl (by kernel_rfl) (by kernel_rfl) (by kernel_rfl) (by kernel_rfl) (fun _ _ _ h => h) hSu (Au.yq_run (by rfl) (fun u hu => ?_)) ?_
    rotate_left
    · (clear hu; go_simp; try with_reducible rfl)
    simp only [Act.put, List.setIfInBounds_toArray, List.set_cons_zero, List.set_cons_succ]
    refine Av.take 2 (some 22) (v := ?_) rfl rfl (by kernel_rfl) (by kernel_rfl) (by kernel_rfl) (by kernel_rfl) (fun _ _ _ h => h) hSu (Au.yq_run (by rfl) (fun u hu => ?_)) ?_
    rotate_left
    · (clear hu; go_simp; try with_reducible rfl)
    simp only [Act.put, List.setIfInBounds_toArray, List.set_cons_zero, List.set_cons_succ]
    refine Av.take 3 (some 23) (v := ?_) rfl rfl (by kernel_rfl) (by kernel_rfl) (by kernel_rfl) (by kernel_rfl) (fun _ _ _ h => h) hSu (Au.yq_run (by rfl) (fun u hu => ?_)) ?_
    rotate_left
    · (clear hu; go_simp; try with_reducible rfl)
    simp only [Act.put, List.setIfInBounds_toArray, List.set_cons_zero, List.set_cons_succ]
    refine Av.take 4 (some 24) rfl rfl (by kernel_rfl) (by kernel_rfl) (by kernel_rfl) (by kernel_rfl) (fun _ _ _ h => h) hSu (Au.yq_load 61 (.tmp 23) rfl _ rfl (by rfl) (fun x hx => LN.out x (HU.out.trans hx))) ?_
    simp only [Act.put, List.setIfInBounds_toArray, List.set_cons_zero, List.set_cons_succ]
    refine Av.take 5 (some 25) rfl rfl (by kernel_rfl) (by kernel_rfl) (by kernel_rfl) (by kernel_rfl) (fun _ _ _ h => h) hSu (Au.yq_load 30 (.tmp 3) rfl _ rfl (by rfl) (fun x hx => LI.out x (HU.out.trans hx))) ?_
    simp only [Act.put, List.setIfInBounds_toArray, List.set_cons_zero, List.set_cons_succ]
    refine Av.take 6 (some 26) (v := ?_) rfl rfl (by kernel_rfl) (by kernel_rfl) (by kernel_rfl) (by kernel_rfl) (fun _ _ _ h => h) hSu (Au.yq_run (by rfl) (fun u hu => ?_)) ?_
    rotate_left
    · (have hrun := LO.out _ (HU.out.trans hu); clear hu; go_simp; try with_reducible rfl)
    simp only [Act.put, List.setIfInBounds_toArray, List.set_cons_zero, List.set_cons_succ]
    refine Av.take 7 (some 27) rfl rfl (by kernel_rfl) (by kernel_rfl) (by kernel_rfl) (by kernel_rfl) (fun _ _ _ h => h) hSu (Au.yq_call 40 _ (by rfl) (fun u => by go_simp) (fun x hx => MN.out x (HU.out.trans hx))) ?_
    simp only [Act.put, List.setIfInBounds_toArray, List.set_cons_zero, List.set_cons_succ]
    refine Av.step_list 8 rfl (by kernel_rfl) (fun w6 hw6 K6 hK6 => ?_)
    have G6 := Lib.hid (GE.out w6 (HU.out.trans hw6))
    go_wp2_with (first | (go_at_call 18; refine G6.out.mono ?_; rintro r w7 ⟨q7, n7, c7, rfl, r7, f7, k7⟩))
    refine hK6.out (fun x => Kept u x ∧ Mc x (.slice q7 n7 c7) e.K) _ _ ⟨hw6.trans k7, r7⟩ (stab_and hSu (fun u u' h k => RowV.keep h k)) (fun x hx => hx.1) ?_
    have Z6 := Lib.hid (And.intro f7 (Below.size (HU.out.trans hw6)))
    clear hK6 K6 G6 r7 f7 k7 hw6
    have hS7 : Stab (fun x => Kept u x ∧ Mc x (.slice q7 n7 c7) e.K) := stab_and hSu (fun u u' h k => RowV.keep h k)
    try simp only [Act.put, List.setIfInBounds_toArray, List.set_cons_zero, List.set_cons_succ]
    refine Av.take 9 (some 29) (v := ?_) rfl rfl (by kernel_rfl) (by kernel_rfl) (by kernel_rfl) (by kernel_rfl) (fun _ _ _ h => h) hS7 (Au.yq_run (by rfl) (fun u hu => ?_)) ?_
    rotate_left
    · (clear hu; go_simp; try with_reducible rfl)
    simp only [Act.put, List.setIfInBounds_toArray, List.set_cons_zero, List.set_cons_succ]
    refine Av.take 10 (some 30) (v := ?_) rfl rfl (by kernel_rfl) (by kernel_rfl) (by kernel_rfl) (by kernel_rfl) (fun _ _ _ h => h) hS7 (Au.yq_run (by rfl) (fun u hu => ?_)) ?_
    rotate_left
    · (clear hu; go_simp; try with_reducible rfl)
    simp only [Act.put, List.setIfInBounds_toArray, List.set_cons_zero, List.set_cons_succ]
    refine Av.tail_list 11 rfl (by kernel_rfl) (by decide) (fun w8 hw8 K8 hK8 => ?_)
    have hb8 := HB.out.go (HU.out.trans hw8.1)
    refine wpList_store_row rfl 52 (.tmp 4) (.tmp 29) rfl (w.heap.size + 1) (e.o.arr q7 n7 c7) rfl rfl 52 zeroA (hb8.blk 1 rfl) info_ow rfl (arr_one _ _ _ _) ?_
    have hb9 := hb8.row 1 rfl (e.o.arr q7 n7 c7)
    have H9 := Lib.hid (And.intro hb9 hw8.2)
    refine wpList_nil (hK8.out _ _ ?_)
    clear hK8 K8 hw8 hb8 hb9
    refine Av.tail_list 12 rfl (by kernel_rfl) (by decide) (fun x hx K8 hK8 => ?_)
    subst hx
    go_wp2_with fail
    refine hK8.out _ _ ?_
    clear hK8 K8
    refine Av.done (by kernel_rfl) (fun x hx => ?_)
    subst hx
    go_wp2_with fail
    refine bodyPost_ret (Rw.results_row_tmp rfl _ _ (w.heap.size + 1) 52 (e.o.arr q7 n7 c7) (0, 0) _ rfl (H9.out.1.blk 1 rfl) Try.underlying52 rfl info_ow) rfl ?_
    have hzz := Z6.out.2
    have h8 : w.heap.size + 2 ≤ W.heap.size := HB.out.size
    refine ⟨q7, n7, c7, rfl, RowV.kept H9.out.2 fun g' e' => ?_, fun g' e' => ?_, H9.out.1.kept⟩
    · have h9 := Z6.out.1 g' e'
      exact setRow_other _ _ _ _ (by omega)
    · have := Z6.out.1 g' e'
      omega

end Go.Proofs.Ytiaafjabhnomeaa.Tb
end
section
namespace Go.Proofs.Ytiaafjabhnomeaa.At
open Go.RowKit Go.Sort
open Go.Proofs.Ytiaafjabhnomeaa.Av
open St (Kept)
open Au (Stab stab_and stab_kept YQ wpOp_putQ yq_run yq_skip yq_load yq_call)
open Hg (waits not_ready)
set_option linter.unusedVariables false

section
variable {P : Program} {ops : Array Oper} {Q : Exit → Act → World → Prop} {md : Region.Mode} {S T : World → Prop}

def wpAnyT (P : Program) (md : Region.Mode) (ops : Array Oper) (Q : Exit → Act → World → Prop) (T : World → Prop) : Nat → Array Bool → Act → (World → Prop) → Prop
  | 0, listed, a, S => Region.ready md ops listed = [] ∧ ∀ w, S w → Q .normal a w
  | fuel + 1, listed, a, S => ∀ w, S w → (Region.ready md ops listed = [] → Q .normal a w) ∧
    ∀ i ∈ Region.ready md ops listed, Go.wpOp P ops Q i (fun a' w' => ∃ S' : World → Prop, S' w' ∧ (Stab S' ∧ ∀ u, S' u → T u) ∧ wpAnyT P md ops Q T fuel (listed.setIfInBounds i true) a' S') a w

theorem wpAny_of_t : ∀ (fuel : Nat) (listed : Array Bool) (a : Act) (S : World → Prop) (w : World), S w → wpAnyT P md ops Q T fuel listed a S → wpAny P md ops Q fuel listed a w
  | 0, _, _, _, w, hS, h => ⟨h.1, h.2 w hS⟩
  | fuel + 1, _, _, _, w, hS, h => ⟨(h w hS).1, fun i hi => wpOp_mono (fun a' w' ⟨S', h1, _, h4⟩ => wpAny_of_t fuel _ a' S' w' h1 h4) ((h w hS).2 i hi)⟩

theorem t_first {i : Nat} {oi : Oper} {v : Value} (hi : ops[i]? = some oi) (hsel : ∀ (j : Nat) (o : Oper) cs b, ops[j]? = some o → o.op ≠ .select cs b)
    (hQ : ∀ c a w, Q (.panic c) (a.put oi.dst v) w → Q (.panic c) a w) :
    ∀ (fuel : Nat) (listed : Array Bool) (a : Act) (S : World → Prop), (Stab S ∧ ∀ u, S u → T u) →
      (∀ j oj, ops[j]? = some oj → j ≠ i → listed.getD j true = false → (∀ e ∈ oj.after, Region.binds md e = true → e.on ≠ i) → oi.apart ops oj = true) →
      i ∈ Region.ready md ops listed → YQ P ops T oi v a →
      wpAnyT P md ops Q T fuel (listed.setIfInBounds i true) (a.put oi.dst v) S → wpAnyT P md ops Q T (fuel + 1) listed a S := by
  intro fuel
  induction fuel with
  | zero =>
    intro listed a S hst _ hr hy H w hS
    refine ⟨fun h => (by rw [h] at hr; cases hr), fun j hj => ?_⟩
    by_cases hji : j = i
    · subst hji; exact hy.wpOp hi (hst.2 _ hS) fun w' k => ⟨S, hst.1 _ _ hS k, hst, H⟩
    · have := ready_mono hj hji
      rw [H.1] at this
      cases this
  | succ fuel ih =>
    intro listed a S hst hfree hr hy H w hS
    refine ⟨fun h => (by rw [h] at hr; cases hr), fun j hj => ?_⟩
    by_cases hji : j = i
    · subst hji; exact hy.wpOp hi (hst.2 _ hS) fun w' k => ⟨S, hst.1 _ _ hS k, hst, H⟩
    · have h1 := (H w hS).2 j (ready_mono hj hji)
      obtain ⟨hjun, oj, hoj, hall⟩ := mem_ready.1 hj
      have hiun := (mem_ready.1 hr).1
      have hnot : ∀ e ∈ oj.after, Region.binds md e = true → e.on ≠ i := fun e he hb heq => by
        have h1 := hall e he hb
        rw [heq] at h1
        rcases Nat.lt_or_ge i listed.size with h' | h'
        · simp [h'] at hiun h1; rw [hiun] at h1; cases h1
        · simp [Array.getElem?_eq_none h'] at h1
      have h2 := wpOp_putQ hoj (hfree j oj hoj hji hjun hnot) (fun cs b => hsel i oi cs b hi) (fun cs b => hsel j oj cs b hoj) hQ hy h1
      have hfree' : ∀ k ok, ops[k]? = some ok → k ≠ i → (listed.setIfInBounds j true).getD k true = false →
          (∀ e ∈ ok.after, Region.binds md e = true → e.on ≠ i) → oi.apart ops ok = true := fun k ok hk hki hun hno => by
        refine hfree k ok hk hki ?_ hno
        by_cases hjk : j = k
        · subst hjk; exact hjun
        · rw [getD_set_ne true hjk] at hun; exact hun
      have hcomm : (listed.setIfInBounds i true).setIfInBounds j true = (listed.setIfInBounds j true).setIfInBounds i true := Array.setIfInBounds_comm _ _ (Ne.symm hji)
      refine wpOp_mono (fun a' w' h3 => ?_) h2
      obtain ⟨hy3, S', hS', hss, h4⟩ := h3
      rw [hcomm] at h4
      exact ⟨S', hS', hss, ih (listed.setIfInBounds j true) a' S' hss hfree' (ready_mono hr (Ne.symm hji)) hy3 h4⟩

/-- an operation that yields one value is taken first -/
theorem take (i : Nat) (d : Option Tmp) {oi : Oper} {v : Value} {fuel : Nat} {listed : Array Bool} {a : Act} (hi : ops[i]? = some oi) (hd : oi.dst = d)
    (hs : Region.noSelect ops = true) (hf : Region.free md ops listed i = true) (hr : (Region.ready md ops listed).contains i = true)
    (hQ : ∀ c a w, Q (.panic c) (a.put oi.dst v) w → Q (.panic c) a w) (hS : Stab S ∧ ∀ u, S u → T u) (hy : YQ P ops T oi v a)
    (h : wpAnyT P md ops Q T fuel (listed.setIfInBounds i true) (a.put d v) S) : wpAnyT P md ops Q T (fuel + 1) listed a S :=
  t_first hi (Region.noSelect_spec hs) hQ fuel listed a S hS (Region.free_spec hi hf) (by simpa using hr) hy (by rw [hd]; exact h)
/-- all have come up -/
theorem done {fuel : Nat} {listed : Array Bool} {a : Act} (hr : Region.ready md ops listed = []) (h : ∀ w, S w → Q .normal a w) : wpAnyT P md ops Q T fuel listed a S := by
  cases fuel with
  | zero => exact ⟨hr, h⟩
  | succ n => exact fun w hw => ⟨fun _ => h w hw, by rw [hr]; simp⟩
/-- operation i comes up next, alone; it is walked as a list of its own -/
theorem step_list (i : Nat) {o : Oper} {fuel : Nat} {listed : Array Bool} {a : Act} (ho : ops[i]? = some o) (hr : Region.ready md ops listed = [i])
    (h : ∀ w, S w → ∀ K' : Act → World → Prop, Shut (∀ (S' : World → Prop) (a : Act) (w : World), S' w → Stab S' → (∀ u, S' u → T u) → wpAnyT P md ops Q T fuel (listed.setIfInBounds i true) a S' → K' a w) → wpList P ops (Qk K' Q) [o] a w) :
    wpAnyT P md ops Q T (fuel + 1) listed a S := fun w hw =>
  ⟨fun h0 => (by rw [hr] at h0; cases h0), fun j hj => by
    rw [hr] at hj
    obtain rfl : j = i := by simpa using hj
    exact wpOp_of_list ho (h w hw _ (fun S' a w h1 h2 h3 h4 => ⟨S', h1, ⟨h2, h3⟩, h4⟩))⟩
/-- the beginning -/
theorem region (T S : World → Prop) {id : Nat} {a : Act} {w : World} (hm : P.follows .mixedOrders = true) (hS : S w.drew) (h : wpAnyT P .any ops Q T ops.size (Array.replicate ops.size false) a S) : (Code.region id ops true).wp P Q a w :=
  wp_region_any hm (wpAny_of_t _ _ _ S _ hS h)
end

end Go.Proofs.Ytiaafjabhnomeaa.At
end
section
namespace Go.Proofs.Ytiaafjabhnomeaa.Tb
open Go.RowKit Go.Sort IdM Se Mv Blk
open St (Kept blk_cell blk_free blk_lt blk_set)
open Go.Proofs.Ytiaafjabhnomeaa.Ow (Ow Cls Mc Rc mc_cls rc_cls load_key load_id load_ow load_row info_ow info_row arr_one mine_any theirs_any zeroA sameO_self)
open Go.Proofs.Ytiaafjabhnomeaa.Cl (Cl)
open Go.Proofs.Ytiaafjabhnomeaa.Rv
open Go.Proofs.Ytiaafjabhnomeaa.Ls
open Go.Proofs.Ytiaafjabhnomeaa.Ad (load_w load_l store_new kept_row)
open Go.Proofs.Ytiaafjabhnomeaa.Au (Stab stab_and stab_kept)
open Wh (Fr)
set_option linter.unusedVariables false
set_option linter.unusedSimpArgs false
set_option maxRecDepth 20000

/-! ### both tables, as lists -/
theorem map_drop (x : Ke) (E : List Re) : (dropR x E).map Re.en = drop x (E.map Re.en) := by
  unfold dropR drop
  rw [List.filter_map]; rfl
theorem map_ins (e : Re) : ∀ E : List Re, (insR e E).map Re.en = ins e.en (E.map Re.en)
  | [] => rfl
  | y :: r => by
    unfold insR
    show _ = ins e.en (y.en :: r.map Re.en)
    unfold ins
    by_cases c : kI e.k y.k < 0
    · rw [if_pos c, if_pos (show kI e.en.k y.en.k < 0 from c)]; rfl
    · rw [if_neg c, if_neg (show ¬ kI e.en.k y.en.k < 0 from c), List.map_cons, map_ins e r]
theorem map_put (e : Re) (E : List Re) : (insR e (dropR e.k E)).map Re.en = put e.en (E.map Re.en) := by
  rw [map_ins, map_drop]; rfl
theorem map_find (x : Ke) (E : List Re) : find x (E.map Re.en) = (E.find? fun e => decide (e.k = x)).map Re.en := by
  unfold find
  rw [List.find?_map]; rfl
theorem map_who (d : Di) (E : List Re) : who d (E.map Re.en) = (E.find? fun e => e.en.has d).map Re.en := by
  unfold who
  rw [List.find?_map]; rfl
theorem map_got (x : Ke) (E : List Re) : got x (E.map Re.en) = ((E.find? fun e => decide (e.k = x)).getD reZ).en := by
  unfold got
  rw [map_find]
  cases E.find? fun e => decide (e.k = x) <;> rfl
theorem map_one (d : Di) (E : List Re) : theOne d (E.map Re.en) = ((E.find? fun e => e.en.has d).getD reZ).en := by
  unfold theOne
  rw [map_who]
  cases E.find? fun e => e.en.has d <;> rfl
theorem some_find (x : Ke) (E : List Re) : (find x (E.map Re.en)).isSome = (E.find? fun e => decide (e.k = x)).isSome := by rw [map_find, Option.isSome_map]
theorem some_who (d : Di) (E : List Re) : (who d (E.map Re.en)).isSome = (E.find? fun e => e.en.has d).isSome := by rw [map_who, Option.isSome_map]
theorem some_idx (x : Ke) (E : List Re) : decide (0 ≤ idxE x E) = (find x (E.map Re.en)).isSome := by
  rw [some_find]
  rcases idx_cases x E with ⟨h1, h2⟩ | ⟨i, e, _, h1, h2⟩
  · rw [h1, h2]; rfl
  · rw [h1, h2]; exact decide_eq_true (by omega)
theorem apart_map {E : List Re} (h : Sorted (E.map Re.en)) : Apart E := by
  unfold Sorted at h
  rw [List.pairwise_map] at h
  refine List.Pairwise.imp ?_ h
  intro a b h c
  have h' : kI a.k b.k < 0 := h
  rw [c] at h'; exact kI_irr h'
theorem mem_insR' {e y : Re} : ∀ {E : List Re}, y ∈ insR e E → y = e ∨ y ∈ E
  | [], h => by simp [insR] at h; exact .inl h
  | a :: r, h => by
    unfold insR at h
    split at h
    · rcases List.mem_cons.1 h with h | h
      · exact .inl h
      · exact .inr h
    · rcases List.mem_cons.1 h with h | h
      · exact .inr (h ▸ List.mem_cons_self)
      · exact (mem_insR' h).imp id (List.mem_cons_of_mem _)
theorem mem_dropR' {x : Ke} {E : List Re} {e : Re} (h : e ∈ dropR x E) : e ∈ E ∧ e.k ≠ x := by unfold dropR at h; rw [List.mem_filter] at h; simpa using h
theorem same_rows {u : World} {a b : Value} {l : List Ke} (ha : Kr u a l) (hb : Kr u b l) (hl : l.length ≤ 1000000) : Calls Try.prog 10 #[a, b] u fun e w' => e = .returned (.bool true) ∧ Kept u w' := by
  have := same_any (kr_lk ha hl) (kr_lk hb hl)
  rw [decide_eq_true rfl] at this; exact this

/-! ### what is known of the owners, and both tables in memory -/
structure Pu (W0 : World) (E : List Re) : Prop where
  cl : ∀ e ∈ E, ∀ u, Kept W0 u → Cls u (.slice e.q e.n e.c) e.K
  ten : ∀ e ∈ E, e.K.length ≤ 10
  one : Single (E.map Re.en)
theorem Pu.nil (W0 : World) : Pu W0 [] := ⟨fun e h => (by cases h), fun e h => (by cases h), fun d e h => (by cases h)⟩
theorem Pu.drop {W0 : World} {E : List Re} (h : Pu W0 E) (x : Ke) : Pu W0 (dropR x E) := by
  refine ⟨fun e he => h.cl e (mem_dropR' he).1, fun e he => h.ten e (mem_dropR' he).1, fun d e he f hf => ?_⟩
  rw [map_drop] at he hf
  exact h.one d e (mem_drop.1 he).1 f (mem_drop.1 hf).1
theorem Pu.put {W0 : World} {E : List Re} (h : Pu W0 E) {x : Re} (hx : ∀ u, Kept W0 u → Cls u (.slice x.q x.n x.c) x.K) (ht : x.K.length ≤ 10) (ha : apartB x E = true) : Pu W0 (insR x (dropR x.k E)) := by
  have hne : ∀ y ∈ E.map Re.en, y.k ≠ x.en.k → ∀ d, x.en.has d = true → y.has d = true → False := fun y hy hk d h1 h2 => by
    obtain ⟨e, he, rfl⟩ := List.mem_map.1 hy
    obtain ⟨c, hc, rfl⟩ := has_iff.1 h1
    have h3 := List.all_eq_true.1 (List.all_eq_true.1 ha e he) c hc
    rw [okC_other c (by rw [decide_eq_false (show ¬ e.k = x.k from hk)]; rfl), h2] at h3
    cases h3
  refine ⟨fun e he => ?_, fun e he => ?_, fun d e he f hf h1 h2 => ?_⟩
  · rcases mem_insR' he with rfl | he
    · exact hx
    · exact h.cl e (mem_dropR' he).1
  · rcases mem_insR' he with rfl | he
    · exact ht
    · exact h.ten e (mem_dropR' he).1
  · rw [map_put] at he hf
    rcases mem_put.1 he with rfl | ⟨he, hk⟩ <;> rcases mem_put.1 hf with rfl | ⟨hf, hk'⟩
    · rfl
    · exact (hne f hf hk' d h1 h2).elim
    · exact (hne e he hk d h2 h1).elim
    · exact h.one d e he f hf h1 h2

structure Pl (W0 w : World) (B R : Nat) (L : Tab) (m : Nat) (v : Value) (E : List Re) (S : Nat → Prop) : Prop where
  base : Kept W0 w
  tb : Tbl w B L m S
  rt : Rt w R v E
  sR : ¬ S R
  sv : ∀ g, v.ownBlock = some g → ¬ S g
  nS : ∀ k, S k → W0.heap.size ≤ k
  nR : W0.heap.size ≤ R
section
variable {W0 w w' : World} {B R : Nat} {L L' : Tab} {m m' : Nat} {v v' : Value} {E E' : List Re} {S S' : Nat → Prop}
theorem Pl.kept (h : Pl W0 w B R L m v E S) (k : Kept w w') : Pl W0 w' B R L m v E S :=
  ⟨h.base.trans k, h.tb.kept k, h.rt.kept k, h.sR, h.sv, h.nS, h.nR⟩
theorem Pl.stepR (h : Pl W0 w B R L m v E S) (t : Rt w' R v' E') (o : ∀ g, v'.ownBlock = some g → w.heap.size ≤ g) (f : Fr (fun k => k = R) w w') : Pl W0 w' B R L m v' E' S :=
  ⟨((Fr.kept (S := fun k => W0.heap.size ≤ k) h.base).trans f (fun k c => .inl (by rw [c]; exact h.nR))).keeps (fun k c => c), h.tb.fr f (fun k c d => h.sR (d ▸ c)), t, h.sR, fun g c d => by have := h.tb.lt g d; have := o g c; omega, h.nS, h.nR⟩
theorem Pl.stepT (h : Pl W0 w B R L m v E S) (t : Tbl w' B L' m' S') (s : ∀ k, S' k → S k ∨ w.heap.size ≤ k) (f : Fr S w w') : Pl W0 w' B R L' m' v E S' := by
  have hz := Below.size h.base
  have hR := blk_lt h.rt.blk
  exact ⟨((Fr.kept (S := fun k => W0.heap.size ≤ k) h.base).trans f (fun k c => .inl (h.nS k c))).keeps (fun k c => c), t, h.rt.fr f h.sR (fun g c => h.sv g c), fun c => (s R c).elim h.sR (fun c => by omega), fun g c d => (s g d).elim (h.sv g c) (fun d => by have := RowV.lt h.rt.row c; omega), fun k c => (s k c).elim (h.nS k) (fun c => by omega), h.nR⟩
end
/-- both tables agree on, behind a deed -/
def Doing (W0 : World) (B R m : Nat) (E : List Re) : Ending → World → Prop := fun r w' => r = .returned (.bool true) ∧ ∃ m' v' E' S', Pl W0 w' B R (E'.map Re.en) m' v' E' S' ∧ Pu W0 E' ∧ E'.length ≤ E.length + 1 ∧ m' ≤ m + 11

/-! ### a deed -/
def encDe (kind : Int) (x : Re) (k : Ke) : List Value := .int .i64 kind :: (encR x ++ encK k)
theorem de_load {u : World} {b : Nat} {A : Array Value} {kind : Int} {x : Re} {k : Ke} (hc : ∀ (j : Nat) (y : Value), (encDe kind x k)[j]? = some y → A[j]? = some y) (hb : u.heap[b]? = some (.cells A 37 (0, 0))) :
    (loadVar 35 ⟨b, 1, none⟩).run Try.prog u = .ok (.agg (x.o.arr x.q x.n x.c)) u ∧ (loadVar 32 ⟨b, 20, none⟩).run Try.prog u = .ok (.agg #[.int .i64 k.n, .int .i64 k.i, .int .i64 k.s, .int .i64 k.a]) u ∧
    (loadVar 30 ⟨b, 20, none⟩).run Try.prog u = .ok (.agg #[.int .i64 k.n, .int .i64 k.i, .int .i64 k.s]) u ∧ u.cell? ⟨b, 0, none⟩ = some (.int .i64 kind) := by
  have hcell : ∀ j y, (encDe kind x k)[j]? = some y → u.cell? ⟨b, j, none⟩ = some y := fun j y hj => by rw [blk_cell hb]; exact hc j y hj
  refine ⟨?_, ?_, ?_, hcell 0 _ rfl⟩
  · have := run_loadVar_mid u b 1 (P := Try.prog) 35 (encR x) _ (fun j y hj => hcell (1 + j) y (by
        show (Value.int .i64 kind :: (encR x ++ encK k))[1 + j]? = some y
        rw [Nat.add_comm, List.getElem?_cons_succ, List.getElem?_append_left (by exact (List.getElem?_eq_some_iff.1 hj).1)]; exact hj)) Try.underlying35 rfl info_row
    rw [arr_to] at this; exact this
  · exact load_key (hcell 20 _ rfl) (hcell 21 _ rfl) (hcell 22 _ rfl) (hcell 23 _ rfl)
  · exact load_id (hcell 20 _ rfl) (hcell 21 _ rfl) (hcell 22 _ rfl)
theorem okD_of {k : Ke} (h : okK k) : okD ⟨k.n, k.i, k.s⟩ := ⟨h.1, h.2.1, h.2.2.1⟩

set_option maxHeartbeats 4000000 in
theorem does_no {W0 w : World} {B R m : Nat} {v : Value} {E : List Re} {S : Nat → Prop} (hP : Pl W0 w B R (E.map Re.en) m v E S) (hU : Pu W0 E) (hE : E.length ≤ 1000) (hm : m ≤ 800000) (x : Re) {k : Ke} (hk : okK k) {kind : Int} (h0 : kind ≠ 0) (h1 : kind ≠ 1) (h2 : kind ≠ 2) (h3 : kind ≠ 3) (h4 : kind ≠ 4) (h5 : kind ≠ 5) (h6 : kind ≠ 6) :
    Calls Try.prog 9 #[pB B, .pointer (some ⟨R, 0, none⟩), .agg (encDe kind x k).toArray] w (Doing W0 B R m E) := by
  obtain ⟨A, hA⟩ : ∃ A, (encDe kind x k).toArray = A := ⟨_, rfl⟩
  have hc : ∀ j y, (encDe kind x k)[j]? = some y → A[j]? = some y := fun j y hj => by rw [← hA, List.getElem?_toArray]; exact hj
  rw [hA]
  clear hA
  obtain ⟨W, hW⟩ : ∃ W, w.alloc (.cells A 37) = W := ⟨_, rfl⟩
  have hb : Bl w W [(A, 37)] := hW ▸ Bl.one w _ _
  have hb0 := hb.blk 0 rfl
  have hP0 := hP
  have hP := hP.kept hb.kept
  have hbW := Below.size hb.kept
  have hbl : w.heap.size < W.heap.size := blk_lt hb0
  obtain ⟨b, hbn⟩ : ∃ b, w.heap.size = b := ⟨_, rfl⟩
  have hSb : ¬ S b := fun c => by have := hP.tb.lt b c; rw [← hbn] at c; exact absurd (hP0.tb.lt _ c) (Nat.lt_irrefl _)
  rw [show w.heap.size + 0 = b from hbn] at hb0
  have hRb : b ≠ R := fun c => by have := blk_lt hP0.rt.blk; omega
  rw [hbn] at hbl
  have DL := Lib.hid (fun (u : World) (hu : u.heap[b]? = some (.cells A 37 (0, 0))) => de_load hc hu)
  have HW := Lib.hid hW
  have HP := Lib.hid hP
  have HU := Lib.hid hU
  have HB0 := Lib.hid hb0
  obtain ⟨_, lk, li, c0⟩ := DL.out W hb0
  unfold pB
  clear hb hW hc hb0 hU hP hP0
  go_enter Try.func9, Try.ntmps9
  go_upto_region 1 with fail
  rw [HW.out]
  try rw [hbn]
  have q0 : ((kind : Int) == 0) = false := beq_eq_false_iff_ne.2 h0
  have q1 : ((kind : Int) == 1) = false := beq_eq_false_iff_ne.2 h1
  have q2 : ((kind : Int) == 2) = false := beq_eq_false_iff_ne.2 h2
  have q3 : ((kind : Int) == 3) = false := beq_eq_false_iff_ne.2 h3
  have q4 : ((kind : Int) == 4) = false := beq_eq_false_iff_ne.2 h4
  have q5 : ((kind : Int) == 5) = false := beq_eq_false_iff_ne.2 h5
  have q6 : ((kind : Int) == 6) = false := beq_eq_false_iff_ne.2 h6
  go_wp2_with fail
  go_ret
  exact ⟨rfl, m, v, E, S, HP.out, HU.out, by omega, by omega⟩

set_option maxHeartbeats 4000000 in
theorem does_put0 {W0 w : World} {B R m : Nat} {v : Value} {E : List Re} {S : Nat → Prop} (hP : Pl W0 w B R (E.map Re.en) m v E S) (hU : Pu W0 E) (hE : E.length ≤ 1000) (hm : m ≤ 800000) (x : Re) {k : Ke} (hk : okK k) (hx : ∀ u, Kept W0 u → Cls u (.slice x.q x.n x.c) x.K) (ht : x.K.length ≤ 10) (hf : x.en.Fit) (ha : apartB x E = true) :
    Calls Try.prog 9 #[pB B, .pointer (some ⟨R, 0, none⟩), .agg (encDe 0 x k).toArray] w (Doing W0 B R m E) := by
  obtain ⟨A, hA⟩ : ∃ A, (encDe 0 x k).toArray = A := ⟨_, rfl⟩
  have hc : ∀ j y, (encDe 0 x k)[j]? = some y → A[j]? = some y := fun j y hj => by rw [← hA, List.getElem?_toArray]; exact hj
  rw [hA]
  clear hA
  obtain ⟨W, hW⟩ : ∃ W, w.alloc (.cells A 37) = W := ⟨_, rfl⟩
  have hb : Bl w W [(A, 37)] := hW ▸ Bl.one w _ _
  have hb0 := hb.blk 0 rfl
  have hP0 := hP
  have hP := hP.kept hb.kept
  have hbW := Below.size hb.kept
  have hbl : w.heap.size < W.heap.size := blk_lt hb0
  obtain ⟨b, hbn⟩ : ∃ b, w.heap.size = b := ⟨_, rfl⟩
  have hSb : ¬ S b := fun c => by have := hP.tb.lt b c; rw [← hbn] at c; exact absurd (hP0.tb.lt _ c) (Nat.lt_irrefl _)
  rw [show w.heap.size + 0 = b from hbn] at hb0
  have hRb : b ≠ R := fun c => by have := blk_lt hP0.rt.blk; omega
  rw [hbn] at hbl
  have DL := Lib.hid (fun (u : World) (hu : u.heap[b]? = some (.cells A 37 (0, 0))) => de_load hc hu)
  have HW := Lib.hid hW
  have HP := Lib.hid hP
  have HU := Lib.hid hU
  have HB0 := Lib.hid hb0
  obtain ⟨_, lk, li, c0⟩ := DL.out W hb0
  unfold pB
  clear hb hW hc hb0 hU hP hP0
  go_enter Try.func9, Try.ntmps9
  go_upto_region 1 with fail
  rw [HW.out]
  try rw [hbn]
  obtain ⟨lo, _⟩ := DL.out W HB0.out
  have CP := Lib.hid (rtput_any HP.out.rt (apart_map HP.out.tb.sorted) x)
  have HE := Lib.hid (show ∀ (x : Re), x.arr = x.o.arr x.q x.n x.c from fun _ => rfl)
  rw [HE.out x] at CP
  have HH := Lib.hid (And.intro hx (And.intro hf ha))
  clear hx hf ha
  go_upto_region 6 with fail
  clear c0
  go_upto_region 7 with (first
    | (refine load_l 35 (.tmp 22) rfl _ rfl rfl _ lo ?_)
    | (go_at_call 15; refine CP.out.mono ?_; rintro r wp ⟨rfl, vp, tp, op, fp⟩))
  have hbp : wp.heap[b]? = some (.cells A 37 (0, 0)) := (fp.block b hbl hRb).trans HB0.out
  obtain ⟨lo2, _⟩ := DL.out wp hbp
  have o1 := HP.out.stepR (tp (by omega)) op fp
  have M1 := Lib.hid (mine_any x.o (HH.out.1 wp o1.base) (by omega))
  have P1 := Lib.hid (fun (q : Option Addr) (n c : Nat) (w' : World) (k : Kept wp w') (r : Mc w' (.slice q n c) x.K) (g : ∀ g, (Value.slice q n c).ownBlock = some g → wp.heap.size ≤ g) => by
    have := put_any (o1.tb.kept k) x.o (q := q) (n := n) (c := c) (K := x.K) (fun u hu => mc_cls (RowV.kept r fun g' c' => hu.block g' (RowV.lt r c') (fun d => by have := o1.tb.lt g' d; have := g g' c'; omega)) (by omega)) (by omega) HH.out.2.1.1 HH.out.2.1.2
    unfold pB at this; exact this)
  go_wp2_with (first
    | (refine load_l 35 (.tmp 26) rfl _ rfl rfl _ lo2 ?_)
    | (go_at_call 17; refine M1.out.mono ?_; rintro r wm ⟨qm, nm, cm, rfl, rm, gm, km⟩)
    | (go_at_call 16; refine (P1.out _ _ _ _ km rm gm).mono ?_; rintro r wa ⟨rfl, Sa', ta, sa, fa⟩))
  have o2 := (o1.kept km).stepT ta sa fa
  have o3 : Pl W0 wa B R ((insR x (dropR x.k E)).map Re.en) (m + x.K.length + 1) vp (insR x (dropR x.k E)) Sa' := by rw [map_put]; exact o2
  go_ret
  exact ⟨rfl, _, _, _, _, o3, HU.out.put HH.out.1 ht HH.out.2.2, by rw [ins_len]; have := dropR_le x.k E; omega, by omega⟩

set_option maxHeartbeats 4000000 in
theorem does_put1 {W0 w : World} {B R m : Nat} {v : Value} {E : List Re} {S : Nat → Prop} (hP : Pl W0 w B R (E.map Re.en) m v E S) (hU : Pu W0 E) (hE : E.length ≤ 1000) (hm : m ≤ 800000) (x : Re) {k : Ke} (hk : okK k) (hx : ∀ u, Kept W0 u → Cls u (.slice x.q x.n x.c) x.K) (ht : x.K.length ≤ 10) (hf : x.en.Fit) (ha : apartB x E = true) :
    Calls Try.prog 9 #[pB B, .pointer (some ⟨R, 0, none⟩), .agg (encDe 1 x k).toArray] w (Doing W0 B R m E) := by
  obtain ⟨A, hA⟩ : ∃ A, (encDe 1 x k).toArray = A := ⟨_, rfl⟩
  have hc : ∀ j y, (encDe 1 x k)[j]? = some y → A[j]? = some y := fun j y hj => by rw [← hA, List.getElem?_toArray]; exact hj
  rw [hA]
  clear hA
  obtain ⟨W, hW⟩ : ∃ W, w.alloc (.cells A 37) = W := ⟨_, rfl⟩
  have hb : Bl w W [(A, 37)] := hW ▸ Bl.one w _ _
  have hb0 := hb.blk 0 rfl
  have hP0 := hP
  have hP := hP.kept hb.kept
  have hbW := Below.size hb.kept
  have hbl : w.heap.size < W.heap.size := blk_lt hb0
  obtain ⟨b, hbn⟩ : ∃ b, w.heap.size = b := ⟨_, rfl⟩
  have hSb : ¬ S b := fun c => by have := hP.tb.lt b c; rw [← hbn] at c; exact absurd (hP0.tb.lt _ c) (Nat.lt_irrefl _)
  rw [show w.heap.size + 0 = b from hbn] at hb0
  have hRb : b ≠ R := fun c => by have := blk_lt hP0.rt.blk; omega
  rw [hbn] at hbl
  have DL := Lib.hid (fun (u : World) (hu : u.heap[b]? = some (.cells A 37 (0, 0))) => de_load hc hu)
  have HW := Lib.hid hW
  have HP := Lib.hid hP
  have HU := Lib.hid hU
  have HB0 := Lib.hid hb0
  obtain ⟨_, lk, li, c0⟩ := DL.out W hb0
  unfold pB
  clear hb hW hc hb0 hU hP hP0
  go_enter Try.func9, Try.ntmps9
  go_upto_region 1 with fail
  rw [HW.out]
  try rw [hbn]
  obtain ⟨lo, _⟩ := DL.out W HB0.out
  have CP := Lib.hid (rtput_any HP.out.rt (apart_map HP.out.tb.sorted) x)
  have HE := Lib.hid (show ∀ (x : Re), x.arr = x.o.arr x.q x.n x.c from fun _ => rfl)
  rw [HE.out x] at CP
  have HH := Lib.hid (And.intro hx (And.intro hf ha))
  clear hx hf ha
  go_upto_region 6 with fail
  clear c0
  go_upto_region 7 with (first
    | (refine load_l 35 (.tmp 22) rfl _ rfl rfl _ lo ?_)
    | (go_at_call 15; refine CP.out.mono ?_; rintro r wp ⟨rfl, vp, tp, op, fp⟩))
  have hbp : wp.heap[b]? = some (.cells A 37 (0, 0)) := (fp.block b hbl hRb).trans HB0.out
  obtain ⟨lo2, _⟩ := DL.out wp hbp
  have o1 := HP.out.stepR (tp (by omega)) op fp
  have M1 := Lib.hid (mine_any x.o (HH.out.1 wp o1.base) (by omega))
  have P1 := Lib.hid (fun (q : Option Addr) (n c : Nat) (w' : World) (k : Kept wp w') (r : Mc w' (.slice q n c) x.K) (g : ∀ g, (Value.slice q n c).ownBlock = some g → wp.heap.size ≤ g) => by
    have := put_any (o1.tb.kept k) x.o (q := q) (n := n) (c := c) (K := x.K) (fun u hu => mc_cls (RowV.kept r fun g' c' => hu.block g' (RowV.lt r c') (fun d => by have := o1.tb.lt g' d; have := g g' c'; omega)) (by omega)) (by omega) HH.out.2.1.1 HH.out.2.1.2
    unfold pB at this; exact this)
  go_wp2_with (first
    | (refine load_l 35 (.tmp 26) rfl _ rfl rfl _ lo2 ?_)
    | (go_at_call 17; refine M1.out.mono ?_; rintro r wm ⟨qm, nm, cm, rfl, rm, gm, km⟩)
    | (go_at_call 16; refine (P1.out _ _ _ _ km rm gm).mono ?_; rintro r wa ⟨rfl, Sa', ta, sa, fa⟩))
  have o2 := (o1.kept km).stepT ta sa fa
  have o3 : Pl W0 wa B R ((insR x (dropR x.k E)).map Re.en) (m + x.K.length + 1) vp (insR x (dropR x.k E)) Sa' := by rw [map_put]; exact o2
  go_ret
  exact ⟨rfl, _, _, _, _, o3, HU.out.put HH.out.1 ht HH.out.2.2, by rw [ins_len]; have := dropR_le x.k E; omega, by omega⟩

set_option maxHeartbeats 4000000 in
theorem does_put2 {W0 w : World} {B R m : Nat} {v : Value} {E : List Re} {S : Nat → Prop} (hP : Pl W0 w B R (E.map Re.en) m v E S) (hU : Pu W0 E) (hE : E.length ≤ 1000) (hm : m ≤ 800000) (x : Re) {k : Ke} (hk : okK k) (hx : ∀ u, Kept W0 u → Cls u (.slice x.q x.n x.c) x.K) (ht : x.K.length ≤ 10) (hf : x.en.Fit) (ha : apartB x E = true) :
    Calls Try.prog 9 #[pB B, .pointer (some ⟨R, 0, none⟩), .agg (encDe 2 x k).toArray] w (Doing W0 B R m E) := by
  obtain ⟨A, hA⟩ : ∃ A, (encDe 2 x k).toArray = A := ⟨_, rfl⟩
  have hc : ∀ j y, (encDe 2 x k)[j]? = some y → A[j]? = some y := fun j y hj => by rw [← hA, List.getElem?_toArray]; exact hj
  rw [hA]
  clear hA
  obtain ⟨W, hW⟩ : ∃ W, w.alloc (.cells A 37) = W := ⟨_, rfl⟩
  have hb : Bl w W [(A, 37)] := hW ▸ Bl.one w _ _
  have hb0 := hb.blk 0 rfl
  have hP0 := hP
  have hP := hP.kept hb.kept
  have hbW := Below.size hb.kept
  have hbl : w.heap.size < W.heap.size := blk_lt hb0
  obtain ⟨b, hbn⟩ : ∃ b, w.heap.size = b := ⟨_, rfl⟩
  have hSb : ¬ S b := fun c => by have := hP.tb.lt b c; rw [← hbn] at c; exact absurd (hP0.tb.lt _ c) (Nat.lt_irrefl _)
  rw [show w.heap.size + 0 = b from hbn] at hb0
  have hRb : b ≠ R := fun c => by have := blk_lt hP0.rt.blk; omega
  rw [hbn] at hbl
  have DL := Lib.hid (fun (u : World) (hu : u.heap[b]? = some (.cells A 37 (0, 0))) => de_load hc hu)
  have HW := Lib.hid hW
  have HP := Lib.hid hP
  have HU := Lib.hid hU
  have HB0 := Lib.hid hb0
  obtain ⟨_, lk, li, c0⟩ := DL.out W hb0
  unfold pB
  clear hb hW hc hb0 hU hP hP0
  go_enter Try.func9, Try.ntmps9
  go_upto_region 1 with fail
  rw [HW.out]
  try rw [hbn]
  obtain ⟨lo, _⟩ := DL.out W HB0.out
  have CP := Lib.hid (rtput_any HP.out.rt (apart_map HP.out.tb.sorted) x)
  have HE := Lib.hid (show ∀ (x : Re), x.arr = x.o.arr x.q x.n x.c from fun _ => rfl)
  rw [HE.out x] at CP
  have HH := Lib.hid (And.intro hx (And.intro hf ha))
  clear hx hf ha
  go_upto_region 6 with fail
  clear c0
  go_upto_region 7 with (first
    | (refine load_l 35 (.tmp 22) rfl _ rfl rfl _ lo ?_)
    | (go_at_call 15; refine CP.out.mono ?_; rintro r wp ⟨rfl, vp, tp, op, fp⟩))
  have hbp : wp.heap[b]? = some (.cells A 37 (0, 0)) := (fp.block b hbl hRb).trans HB0.out
  obtain ⟨lo2, _⟩ := DL.out wp hbp
  have o1 := HP.out.stepR (tp (by omega)) op fp
  have M1 := Lib.hid (mine_any x.o (HH.out.1 wp o1.base) (by omega))
  have P1 := Lib.hid (fun (q : Option Addr) (n c : Nat) (w' : World) (k : Kept wp w') (r : Mc w' (.slice q n c) x.K) (g : ∀ g, (Value.slice q n c).ownBlock = some g → wp.heap.size ≤ g) => by
    have := put_any (o1.tb.kept k) x.o (q := q) (n := n) (c := c) (K := x.K) (fun u hu => mc_cls (RowV.kept r fun g' c' => hu.block g' (RowV.lt r c') (fun d => by have := o1.tb.lt g' d; have := g g' c'; omega)) (by omega)) (by omega) HH.out.2.1.1 HH.out.2.1.2
    unfold pB at this; exact this)
  go_wp2_with (first
    | (refine load_l 35 (.tmp 26) rfl _ rfl rfl _ lo2 ?_)
    | (go_at_call 17; refine M1.out.mono ?_; rintro r wm ⟨qm, nm, cm, rfl, rm, gm, km⟩)
    | (go_at_call 16; refine (P1.out _ _ _ _ km rm gm).mono ?_; rintro r wa ⟨rfl, Sa', ta, sa, fa⟩))
  have o2 := (o1.kept km).stepT ta sa fa
  have o3 : Pl W0 wa B R ((insR x (dropR x.k E)).map Re.en) (m + x.K.length + 1) vp (insR x (dropR x.k E)) Sa' := by rw [map_put]; exact o2
  go_ret
  exact ⟨rfl, _, _, _, _, o3, HU.out.put HH.out.1 ht HH.out.2.2, by rw [ins_len]; have := dropR_le x.k E; omega, by omega⟩

set_option maxHeartbeats 4000000 in
theorem does_get {W0 w : World} {B R m : Nat} {v : Value} {E : List Re} {S : Nat → Prop} (hP : Pl W0 w B R (E.map Re.en) m v E S) (hU : Pu W0 E) (hE : E.length ≤ 1000) (hm : m ≤ 800000) (x : Re) {k : Ke} (hk : okK k) :
    Calls Try.prog 9 #[pB B, .pointer (some ⟨R, 0, none⟩), .agg (encDe 4 x k).toArray] w (Doing W0 B R m E) := by
  obtain ⟨A, hA⟩ : ∃ A, (encDe 4 x k).toArray = A := ⟨_, rfl⟩
  have hc : ∀ j y, (encDe 4 x k)[j]? = some y → A[j]? = some y := fun j y hj => by rw [← hA, List.getElem?_toArray]; exact hj
  rw [hA]
  clear hA
  obtain ⟨W, hW⟩ : ∃ W, w.alloc (.cells A 37) = W := ⟨_, rfl⟩
  have hb : Bl w W [(A, 37)] := hW ▸ Bl.one w _ _
  have hb0 := hb.blk 0 rfl
  have hP0 := hP
  have hP := hP.kept hb.kept
  have hbW := Below.size hb.kept
  have hbl : w.heap.size < W.heap.size := blk_lt hb0
  obtain ⟨b, hbn⟩ : ∃ b, w.heap.size = b := ⟨_, rfl⟩
  have hSb : ¬ S b := fun c => by have := hP.tb.lt b c; rw [← hbn] at c; exact absurd (hP0.tb.lt _ c) (Nat.lt_irrefl _)
  rw [show w.heap.size + 0 = b from hbn] at hb0
  have hRb : b ≠ R := fun c => by have := blk_lt hP0.rt.blk; omega
  rw [hbn] at hbl
  have DL := Lib.hid (fun (u : World) (hu : u.heap[b]? = some (.cells A 37 (0, 0))) => de_load hc hu)
  have HW := Lib.hid hW
  have HP := Lib.hid hP
  have HU := Lib.hid hU
  have HB0 := Lib.hid hb0
  obtain ⟨_, lk, li, c0⟩ := DL.out W hb0
  unfold pB
  clear hb hW hc hb0 hU hP hP0
  go_enter Try.func9, Try.ntmps9
  go_upto_region 1 with fail
  rw [HW.out]
  try rw [hbn]
  obtain ⟨y, hy⟩ : ∃ y, (E.find? (fun e => decide (e.k = k))).getD reZ = y := ⟨_, rfl⟩
  obtain ⟨z, hz⟩ : ∃ z, (E.find? (fun e => decide (e.k = k))).isSome = z := ⟨_, rfl⟩
  have MC := get_any HP.out.tb hk
  rw [map_got, some_find, hy, hz] at MC
  unfold kv pB at MC
  have MC := Lib.hid (show Calls Try.prog 18 #[.pointer (some ⟨B, 0, none⟩), .agg #[.int .i64 k.n, .int .i64 k.i, .int .i64 k.s, .int .i64 k.a]] W fun r w' => ∃ q n c, r = .returned (.tuple #[.agg (y.o.arr q n c), .bool z]) ∧ Mc w' (.slice q n c) y.K ∧ (∀ g, (Value.slice q n c).ownBlock = some g → W.heap.size ≤ g) ∧ Kept W w' from MC)
  have RC0 := Lib.hid (fun (u : World) (hu : Kept W u) => by
    have := rtget_any (HP.out.rt.kept hu) k
    rw [hy, hz] at this
    unfold kv at this
    exact (show Calls Try.prog 27 #[.pointer (some ⟨R, 0, none⟩), .agg #[.int .i64 k.n, .int .i64 k.i, .int .i64 k.s, .int .i64 k.a]] u fun r w' => r = .returned (.tuple #[.agg (y.o.arr y.q y.n y.c), .bool z]) ∧ Kept u w' from this))
  have HY := Lib.hid (show ∀ u, Kept W u → Cls u (.slice y.q y.n y.c) y.K from fun u hu => by
    rw [← hy]
    cases hq : E.find? (fun e => decide (e.k = k)) with
    | none => exact ls_nil _ _ _
    | some e => exact HU.out.cl e (List.mem_of_find?_eq_some hq) u (HP.out.base.trans hu))
  have hten : y.K.length ≤ 10 := by
    rw [← hy]
    cases hq : E.find? (fun e => decide (e.k = k)) with
    | none => exact Nat.zero_le _
    | some e => exact HU.out.ten e (List.mem_of_find?_eq_some hq)
  clear hy
  go_upto_region 11 with fail
  clear c0
  go_upto_region 12 with (first
    | (refine load_l 32 (.tmp 46) rfl _ rfl rfl _ lk ?_)
    | (go_at_call 18; refine MC.out.mono ?_; rintro r w4 ⟨q4, n4, c4, rfl, r4, f4, k4⟩)
    | (refine store_new rfl 52 (.tmp 7) (.tmp 49) rfl w4.heap.size (y.o.arr q4 n4 c4) rfl rfl w4 _ rfl 19 info_ow rfl rfl (arr_one _ _ _ _) ?_))
  obtain ⟨w5, hw5⟩ : ∃ w5, w4.alloc (.cells (y.o.arr q4 n4 c4) 52) = w5 := ⟨_, rfl⟩
  have k5 : Kept w4 w5 := by rw [← hw5]; exact Kept.one _ _
  have b5 : w5.heap[w4.heap.size]? = some (.cells (y.o.arr q4 n4 c4) 52 (0, 0)) := by rw [← hw5]; exact St.blk_new _ _
  rw [hw5]
  obtain ⟨g8, hg8⟩ : ∃ g, w4.heap.size = g := ⟨_, rfl⟩
  rw [hg8] at b5 ⊢
  have kk5 : Kept W w5 := k4.trans k5
  obtain ⟨_, lk5, li5, _⟩ := DL.out w5 (kept_at kk5 HB0.out)
  have RC := Lib.hid (RC0.out w5 kk5)
  have H5 := Lib.hid (And.intro b5 (And.intro (RowV.keep r4 k5) kk5))
  clear hw5 hg8 r4 k4 k5 b5 f4 MC lk
  go_upto_region 13 with (first
    | (refine load_l 32 (.tmp 53) rfl _ rfl rfl _ lk5 ?_)
    | (go_at_call 27; refine RC.out.mono ?_; rintro r w6 ⟨rfl, k6⟩)
    | (refine store_new rfl 35 (.tmp 9) (.tmp 56) rfl w6.heap.size (y.o.arr y.q y.n y.c) rfl rfl w6 _ rfl 19 info_row rfl rfl (arr_one _ _ _ _) ?_))
  obtain ⟨w7, hw7⟩ : ∃ w7, w6.alloc (.cells (y.o.arr y.q y.n y.c) 35) = w7 := ⟨_, rfl⟩
  have k7 : Kept w6 w7 := by rw [← hw7]; exact Kept.one _ _
  have b7 : w7.heap[w6.heap.size]? = some (.cells (y.o.arr y.q y.n y.c) 35 (0, 0)) := by rw [← hw7]; exact St.blk_new _ _
  rw [hw7]
  obtain ⟨g10, hg10⟩ : ∃ g, w6.heap.size = g := ⟨_, rfl⟩
  rw [hg10] at b7 ⊢
  have k57 : Kept w5 w7 := k6.trans k7
  have LX := Lib.hid (fun (u : World) (hu : Kept w7 u) => load_ow (kept_at (k57.trans hu) H5.out.1) rfl)
  have LY := Lib.hid (fun (u : World) (hu : Kept w7 u) => load_row (kept_at hu b7) rfl)
  have MX := Lib.hid (fun (u : World) (hu : Kept w7 u) => mc_cls (RowV.keep H5.out.2.1 (k57.trans hu)) (by omega))
  have K7 := Lib.hid (H5.out.2.2.trans k57)
  have YC := Lib.hid (fun (u : World) (hu : Kept w7 u) => HY.out u (K7.out.trans hu))
  have hK9 : y.K.length ≤ 900000 := by omega
  have TH := Lib.hid (fun (u : World) (hu : Kept w7 u) => theirs_any y.o (MX.out u hu) hK9)
  have hSt : Stab (fun u => Kept w7 u) := stab_kept w7
  clear hw7 hg10 k6 k7 b7 RC lk5 li5 k57 kk5
  refine Av.region 10 (fun u => Kept w7 u) (by kernel_rfl) ((Kept.refl w7).drew) ?_
  refine Av.take 0 (some 58) (v := ?_) rfl rfl (by kernel_rfl) (by kernel_rfl) (by kernel_rfl) (by kernel_rfl) (fun _ _ _ h => h) hSt (Au.yq_run (by rfl) (fun u hu => ?_)) ?_
  rotate_left
  · (clear hu; go_simp; try with_reducible rfl)
  simp only [Act.put, List.setIfInBounds_toArray, List.set_cons_zero, List.set_cons_succ]
  refine Av.take 1 (some 59) (v := ?_) rfl rfl (by kernel_rfl) (by kernel_rfl) (by kernel_rfl) (by kernel_rfl) (fun _ _ _ h => h) hSt (Au.yq_run (by rfl) (fun u hu => ?_)) ?_
  rotate_left
  · (clear hu; go_simp; try with_reducible rfl)
  simp only [Act.put, List.setIfInBounds_toArray, List.set_cons_zero, List.set_cons_succ]
  refine Av.take 2 (some 60) (v := ?_) rfl rfl (by kernel_rfl) (by kernel_rfl) (by kernel_rfl) (by kernel_rfl) (fun _ _ _ h => h) hSt (Au.yq_run (by rfl) (fun u hu => ?_)) ?_
  rotate_left
  · (clear hu; go_simp; try with_reducible rfl)
  simp only [Act.put, List.setIfInBounds_toArray, List.set_cons_zero, List.set_cons_succ]
  refine Av.take 3 (some 61) (v := ?_) rfl rfl (by kernel_rfl) (by kernel_rfl) (by kernel_rfl) (by kernel_rfl) (fun _ _ _ h => h) hSt (Au.yq_run (by rfl) (fun u hu => ?_)) ?_
  rotate_left
  · (clear hu; go_simp; try with_reducible rfl)
  simp only [Act.put, List.setIfInBounds_toArray, List.set_cons_zero, List.set_cons_succ]
  refine Av.take 4 (some 62) rfl rfl (by kernel_rfl) (by kernel_rfl) (by kernel_rfl) (by kernel_rfl) (fun _ _ _ h => h) hSt (Au.yq_load 52 (.tmp 7) rfl _ rfl (by rfl) (fun u hu => LX.out u hu)) ?_
  simp only [Act.put, List.setIfInBounds_toArray, List.set_cons_zero, List.set_cons_succ]
  refine Av.take 6 (some 64) rfl rfl (by kernel_rfl) (by kernel_rfl) (by kernel_rfl) (by kernel_rfl) (fun _ _ _ h => h) hSt (Au.yq_load 35 (.tmp 9) rfl _ rfl (by rfl) (fun u hu => LY.out u hu)) ?_
  simp only [Act.put, List.setIfInBounds_toArray, List.set_cons_zero, List.set_cons_succ]
  refine Av.step_list 5 rfl (by kernel_rfl) (fun w9 hw9 K9 hK9 => ?_)
  have T9 := Lib.hid (TH.out w9 hw9)
  go_wp2_with (first | (go_at_call 20; refine T9.out.mono ?_; rintro r wa ⟨q1, n1, c1, rfl, r1, _, ka⟩))
  refine hK9.out (fun u => Kept w7 u ∧ Rc u (.slice q1 n1 c1) y.K) _ _ ⟨hw9.trans ka, r1⟩ (stab_and hSt (fun u u' h k => RowV.keep h k)) (fun u hu => hu.1) ?_
  clear hK9 K9 T9 hw9 ka r1
  have hSt9 : Stab (fun u => Kept w7 u ∧ Rc u (.slice q1 n1 c1) y.K) := stab_and hSt (fun u u' h k => RowV.keep h k)
  have SR := Lib.hid (fun (u : World) (hu : Kept w7 u ∧ Rc u (.slice q1 n1 c1) y.K) => by
    have := Ow.rsame_any y.o y.o (rc_cls hu.2 (by omega)) (YC.out u hu.1)
    rw [sameO_self] at this; exact this)
  try simp only [Act.put, List.setIfInBounds_toArray, List.set_cons_zero, List.set_cons_succ]
  refine Av.take 7 (some 65) rfl rfl (by kernel_rfl) (by kernel_rfl) (by kernel_rfl) (by kernel_rfl) (fun _ _ _ h => h) hSt9 (Au.yq_call 19 _ (by rfl) (fun u => by go_simp) (fun u hu => SR.out u hu)) ?_
  simp only [Act.put, List.setIfInBounds_toArray, List.set_cons_zero, List.set_cons_succ]
  refine Av.take 8 (some 66) (v := ?_) rfl rfl (by kernel_rfl) (by kernel_rfl) (by kernel_rfl) (by kernel_rfl) (fun _ _ _ h => h) hSt9 (Au.yq_run (by rfl) (fun u hu => ?_)) ?_
  rotate_left
  · (clear hu; go_simp; try with_reducible rfl)
  simp only [Act.put, List.setIfInBounds_toArray, List.set_cons_zero, List.set_cons_succ]
  refine Av.take 9 (some 6) (v := ?_) rfl rfl (by kernel_rfl) (by kernel_rfl) (by kernel_rfl) (by kernel_rfl) (fun _ _ _ h => h) hSt9 (Au.yq_run (by rfl) (fun u hu => ?_)) ?_
  rotate_left
  · (clear hu; go_simp; try with_reducible rfl)
  simp only [Act.put, List.setIfInBounds_toArray, List.set_cons_zero, List.set_cons_succ]
  refine Av.done (by kernel_rfl) (fun u hu => ?_)
  replace hu := hu.1
  have HU2 := Lib.hid hu
  clear hu
  go_wp2_with fail
  go_ret
  exact ⟨rfl, m, v, E, S, HP.out.kept (K7.out.trans HU2.out), HU.out, by omega, by omega⟩

set_option maxHeartbeats 4000000 in
theorem does_caller {W0 w : World} {B R m : Nat} {v : Value} {E : List Re} {S : Nat → Prop} (hP : Pl W0 w B R (E.map Re.en) m v E S) (hU : Pu W0 E) (hE : E.length ≤ 1000) (hm : m ≤ 800000) (x : Re) {k : Ke} (hk : okK k) :
    Calls Try.prog 9 #[pB B, .pointer (some ⟨R, 0, none⟩), .agg (encDe 5 x k).toArray] w (Doing W0 B R m E) := by
  obtain ⟨A, hA⟩ : ∃ A, (encDe 5 x k).toArray = A := ⟨_, rfl⟩
  have hc : ∀ j y, (encDe 5 x k)[j]? = some y → A[j]? = some y := fun j y hj => by rw [← hA, List.getElem?_toArray]; exact hj
  rw [hA]
  clear hA
  obtain ⟨W, hW⟩ : ∃ W, w.alloc (.cells A 37) = W := ⟨_, rfl⟩
  have hb : Bl w W [(A, 37)] := hW ▸ Bl.one w _ _
  have hb0 := hb.blk 0 rfl
  have hP0 := hP
  have hP := hP.kept hb.kept
  have hbW := Below.size hb.kept
  have hbl : w.heap.size < W.heap.size := blk_lt hb0
  obtain ⟨b, hbn⟩ : ∃ b, w.heap.size = b := ⟨_, rfl⟩
  have hSb : ¬ S b := fun c => by have := hP.tb.lt b c; rw [← hbn] at c; exact absurd (hP0.tb.lt _ c) (Nat.lt_irrefl _)
  rw [show w.heap.size + 0 = b from hbn] at hb0
  have hRb : b ≠ R := fun c => by have := blk_lt hP0.rt.blk; omega
  rw [hbn] at hbl
  have DL := Lib.hid (fun (u : World) (hu : u.heap[b]? = some (.cells A 37 (0, 0))) => de_load hc hu)
  have HW := Lib.hid hW
  have HP := Lib.hid hP
  have HU := Lib.hid hU
  have HB0 := Lib.hid hb0
  obtain ⟨_, lk, li, c0⟩ := DL.out W hb0
  unfold pB
  clear hb hW hc hb0 hU hP hP0
  go_enter Try.func9, Try.ntmps9
  go_upto_region 1 with fail
  rw [HW.out]
  try rw [hbn]
  obtain ⟨y, hy⟩ : ∃ y, (E.find? (fun e => e.en.has ⟨k.n, k.i, k.s⟩)).getD reZ = y := ⟨_, rfl⟩
  obtain ⟨z, hz⟩ : ∃ z, (E.find? (fun e => e.en.has ⟨k.n, k.i, k.s⟩)).isSome = z := ⟨_, rfl⟩
  have MC := caller_any HP.out.tb (by omega) HU.out.one (okD_of hk)
  rw [map_one, some_who, hy, hz] at MC
  unfold dv pB at MC
  have MC := Lib.hid (show Calls Try.prog 22 #[.pointer (some ⟨B, 0, none⟩), .agg #[.int .i64 k.n, .int .i64 k.i, .int .i64 k.s]] W fun r w' => ∃ q n c, r = .returned (.tuple #[.agg (y.o.arr q n c), .bool z]) ∧ Mc w' (.slice q n c) y.K ∧ (∀ g, (Value.slice q n c).ownBlock = some g → W.heap.size ≤ g) ∧ Kept W w' from MC)
  have RC0 := Lib.hid (fun (u : World) (hu : Kept W u) => by
    have := rtcaller_any (HP.out.rt.kept hu) (fun e he u' hu' => HU.out.cl e he u' ((HP.out.base.trans hu).trans hu')) ⟨k.n, k.i, k.s⟩
    rw [hy, hz] at this
    unfold dv at this
    exact (show Calls Try.prog 28 #[.pointer (some ⟨R, 0, none⟩), .agg #[.int .i64 k.n, .int .i64 k.i, .int .i64 k.s]] u fun r w' => r = .returned (.tuple #[.agg (y.o.arr y.q y.n y.c), .bool z]) ∧ Kept u w' from this))
  have HY := Lib.hid (show ∀ u, Kept W u → Cls u (.slice y.q y.n y.c) y.K from fun u hu => by
    rw [← hy]
    cases hq : E.find? (fun e => e.en.has ⟨k.n, k.i, k.s⟩) with
    | none => exact ls_nil _ _ _
    | some e => exact HU.out.cl e (List.mem_of_find?_eq_some hq) u (HP.out.base.trans hu))
  have hten : y.K.length ≤ 10 := by
    rw [← hy]
    cases hq : E.find? (fun e => e.en.has ⟨k.n, k.i, k.s⟩) with
    | none => exact Nat.zero_le _
    | some e => exact HU.out.ten e (List.mem_of_find?_eq_some hq)
  clear hy
  go_upto_region 15 with fail
  clear c0
  go_upto_region 16 with (first
    | (refine load_l 30 (.tmp 72) rfl _ rfl rfl _ li ?_)
    | (go_at_call 22; refine MC.out.mono ?_; rintro r w4 ⟨q4, n4, c4, rfl, r4, f4, k4⟩)
    | (refine store_new rfl 52 (.tmp 11) (.tmp 75) rfl w4.heap.size (y.o.arr q4 n4 c4) rfl rfl w4 _ rfl 19 info_ow rfl rfl (arr_one _ _ _ _) ?_))
  obtain ⟨w5, hw5⟩ : ∃ w5, w4.alloc (.cells (y.o.arr q4 n4 c4) 52) = w5 := ⟨_, rfl⟩
  have k5 : Kept w4 w5 := by rw [← hw5]; exact Kept.one _ _
  have b5 : w5.heap[w4.heap.size]? = some (.cells (y.o.arr q4 n4 c4) 52 (0, 0)) := by rw [← hw5]; exact St.blk_new _ _
  rw [hw5]
  obtain ⟨g8, hg8⟩ : ∃ g, w4.heap.size = g := ⟨_, rfl⟩
  rw [hg8] at b5 ⊢
  have kk5 : Kept W w5 := k4.trans k5
  obtain ⟨_, lk5, li5, _⟩ := DL.out w5 (kept_at kk5 HB0.out)
  have RC := Lib.hid (RC0.out w5 kk5)
  have H5 := Lib.hid (And.intro b5 (And.intro (RowV.keep r4 k5) kk5))
  clear hw5 hg8 r4 k4 k5 b5 f4 MC li
  go_upto_region 17 with (first
    | (refine load_l 30 (.tmp 80) rfl _ rfl rfl _ li5 ?_)
    | (go_at_call 28; refine RC.out.mono ?_; rintro r w6 ⟨rfl, k6⟩)
    | (refine store_new rfl 35 (.tmp 13) (.tmp 83) rfl w6.heap.size (y.o.arr y.q y.n y.c) rfl rfl w6 _ rfl 19 info_row rfl rfl (arr_one _ _ _ _) ?_))
  obtain ⟨w7, hw7⟩ : ∃ w7, w6.alloc (.cells (y.o.arr y.q y.n y.c) 35) = w7 := ⟨_, rfl⟩
  have k7 : Kept w6 w7 := by rw [← hw7]; exact Kept.one _ _
  have b7 : w7.heap[w6.heap.size]? = some (.cells (y.o.arr y.q y.n y.c) 35 (0, 0)) := by rw [← hw7]; exact St.blk_new _ _
  rw [hw7]
  obtain ⟨g10, hg10⟩ : ∃ g, w6.heap.size = g := ⟨_, rfl⟩
  rw [hg10] at b7 ⊢
  have k57 : Kept w5 w7 := k6.trans k7
  have LX := Lib.hid (fun (u : World) (hu : Kept w7 u) => load_ow (kept_at (k57.trans hu) H5.out.1) rfl)
  have LY := Lib.hid (fun (u : World) (hu : Kept w7 u) => load_row (kept_at hu b7) rfl)
  have MX := Lib.hid (fun (u : World) (hu : Kept w7 u) => mc_cls (RowV.keep H5.out.2.1 (k57.trans hu)) (by omega))
  have K7 := Lib.hid (H5.out.2.2.trans k57)
  have YC := Lib.hid (fun (u : World) (hu : Kept w7 u) => HY.out u (K7.out.trans hu))
  have hK9 : y.K.length ≤ 900000 := by omega
  have TH := Lib.hid (fun (u : World) (hu : Kept w7 u) => theirs_any y.o (MX.out u hu) hK9)
  have hSt : Stab (fun u => Kept w7 u) := stab_kept w7
  clear hw7 hg10 k6 k7 b7 RC lk5 li5 k57 kk5
  refine Av.region 10 (fun u => Kept w7 u) (by kernel_rfl) ((Kept.refl w7).drew) ?_
  refine Av.take 0 (some 85) (v := ?_) rfl rfl (by kernel_rfl) (by kernel_rfl) (by kernel_rfl) (by kernel_rfl) (fun _ _ _ h => h) hSt (Au.yq_run (by rfl) (fun u hu => ?_)) ?_
  rotate_left
  · (clear hu; go_simp; try with_reducible rfl)
  simp only [Act.put, List.setIfInBounds_toArray, List.set_cons_zero, List.set_cons_succ]
  refine Av.take 1 (some 86) (v := ?_) rfl rfl (by kernel_rfl) (by kernel_rfl) (by kernel_rfl) (by kernel_rfl) (fun _ _ _ h => h) hSt (Au.yq_run (by rfl) (fun u hu => ?_)) ?_
  rotate_left
  · (clear hu; go_simp; try with_reducible rfl)
  simp only [Act.put, List.setIfInBounds_toArray, List.set_cons_zero, List.set_cons_succ]
  refine Av.take 2 (some 87) (v := ?_) rfl rfl (by kernel_rfl) (by kernel_rfl) (by kernel_rfl) (by kernel_rfl) (fun _ _ _ h => h) hSt (Au.yq_run (by rfl) (fun u hu => ?_)) ?_
  rotate_left
  · (clear hu; go_simp; try with_reducible rfl)
  simp only [Act.put, List.setIfInBounds_toArray, List.set_cons_zero, List.set_cons_succ]
  refine Av.take 3 (some 88) (v := ?_) rfl rfl (by kernel_rfl) (by kernel_rfl) (by kernel_rfl) (by kernel_rfl) (fun _ _ _ h => h) hSt (Au.yq_run (by rfl) (fun u hu => ?_)) ?_
  rotate_left
  · (clear hu; go_simp; try with_reducible rfl)
  simp only [Act.put, List.setIfInBounds_toArray, List.set_cons_zero, List.set_cons_succ]
  refine Av.take 4 (some 89) rfl rfl (by kernel_rfl) (by kernel_rfl) (by kernel_rfl) (by kernel_rfl) (fun _ _ _ h => h) hSt (Au.yq_load 52 (.tmp 11) rfl _ rfl (by rfl) (fun u hu => LX.out u hu)) ?_
  simp only [Act.put, List.setIfInBounds_toArray, List.set_cons_zero, List.set_cons_succ]
  refine Av.take 6 (some 91) rfl rfl (by kernel_rfl) (by kernel_rfl) (by kernel_rfl) (by kernel_rfl) (fun _ _ _ h => h) hSt (Au.yq_load 35 (.tmp 13) rfl _ rfl (by rfl) (fun u hu => LY.out u hu)) ?_
  simp only [Act.put, List.setIfInBounds_toArray, List.set_cons_zero, List.set_cons_succ]
  refine Av.step_list 5 rfl (by kernel_rfl) (fun w9 hw9 K9 hK9 => ?_)
  have T9 := Lib.hid (TH.out w9 hw9)
  go_wp2_with (first | (go_at_call 20; refine T9.out.mono ?_; rintro r wa ⟨q1, n1, c1, rfl, r1, _, ka⟩))
  refine hK9.out (fun u => Kept w7 u ∧ Rc u (.slice q1 n1 c1) y.K) _ _ ⟨hw9.trans ka, r1⟩ (stab_and hSt (fun u u' h k => RowV.keep h k)) (fun u hu => hu.1) ?_
  clear hK9 K9 T9 hw9 ka r1
  have hSt9 : Stab (fun u => Kept w7 u ∧ Rc u (.slice q1 n1 c1) y.K) := stab_and hSt (fun u u' h k => RowV.keep h k)
  have SR := Lib.hid (fun (u : World) (hu : Kept w7 u ∧ Rc u (.slice q1 n1 c1) y.K) => by
    have := Ow.rsame_any y.o y.o (rc_cls hu.2 (by omega)) (YC.out u hu.1)
    rw [sameO_self] at this; exact this)
  try simp only [Act.put, List.setIfInBounds_toArray, List.set_cons_zero, List.set_cons_succ]
  refine Av.take 7 (some 92) rfl rfl (by kernel_rfl) (by kernel_rfl) (by kernel_rfl) (by kernel_rfl) (fun _ _ _ h => h) hSt9 (Au.yq_call 19 _ (by rfl) (fun u => by go_simp) (fun u hu => SR.out u hu)) ?_
  simp only [Act.put, List.setIfInBounds_toArray, List.set_cons_zero, List.set_cons_succ]
  refine Av.take 8 (some 93) (v := ?_) rfl rfl (by kernel_rfl) (by kernel_rfl) (by kernel_rfl) (by kernel_rfl) (fun _ _ _ h => h) hSt9 (Au.yq_run (by rfl) (fun u hu => ?_)) ?_
  rotate_left
  · (clear hu; go_simp; try with_reducible rfl)
  simp only [Act.put, List.setIfInBounds_toArray, List.set_cons_zero, List.set_cons_succ]
  refine Av.take 9 (some 6) (v := ?_) rfl rfl (by kernel_rfl) (by kernel_rfl) (by kernel_rfl) (by kernel_rfl) (fun _ _ _ h => h) hSt9 (Au.yq_run (by rfl) (fun u hu => ?_)) ?_
  rotate_left
  · (clear hu; go_simp; try with_reducible rfl)
  simp only [Act.put, List.setIfInBounds_toArray, List.set_cons_zero, List.set_cons_succ]
  refine Av.done (by kernel_rfl) (fun u hu => ?_)
  replace hu := hu.1
  have HU2 := Lib.hid hu
  clear hu
  go_wp2_with fail
  go_ret
  exact ⟨rfl, m, v, E, S, HP.out.kept (K7.out.trans HU2.out), HU.out, by omega, by omega⟩

set_option maxHeartbeats 4000000 in
theorem does_under {W0 w : World} {B R m : Nat} {v : Value} {E : List Re} {S : Nat → Prop} (hP : Pl W0 w B R (E.map Re.en) m v E S) (hU : Pu W0 E) (hE : E.length ≤ 1000) (hm : m ≤ 800000) (x : Re) {k : Ke} (hk : okK k) :
    Calls Try.prog 9 #[pB B, .pointer (some ⟨R, 0, none⟩), .agg (encDe 6 x k).toArray] w (Doing W0 B R m E) := by
  obtain ⟨A, hA⟩ : ∃ A, (encDe 6 x k).toArray = A := ⟨_, rfl⟩
  have hc : ∀ j y, (encDe 6 x k)[j]? = some y → A[j]? = some y := fun j y hj => by rw [← hA, List.getElem?_toArray]; exact hj
  rw [hA]
  clear hA
  obtain ⟨W, hW⟩ : ∃ W, w.alloc (.cells A 37) = W := ⟨_, rfl⟩
  have hb : Bl w W [(A, 37)] := hW ▸ Bl.one w _ _
  have hb0 := hb.blk 0 rfl
  have hP0 := hP
  have hP := hP.kept hb.kept
  have hbW := Below.size hb.kept
  have hbl : w.heap.size < W.heap.size := blk_lt hb0
  obtain ⟨b, hbn⟩ : ∃ b, w.heap.size = b := ⟨_, rfl⟩
  have hSb : ¬ S b := fun c => by have := hP.tb.lt b c; rw [← hbn] at c; exact absurd (hP0.tb.lt _ c) (Nat.lt_irrefl _)
  rw [show w.heap.size + 0 = b from hbn] at hb0
  have hRb : b ≠ R := fun c => by have := blk_lt hP0.rt.blk; omega
  rw [hbn] at hbl
  have DL := Lib.hid (fun (u : World) (hu : u.heap[b]? = some (.cells A 37 (0, 0))) => de_load hc hu)
  have HW := Lib.hid hW
  have HP := Lib.hid hP
  have HU := Lib.hid hU
  have HB0 := Lib.hid hb0
  obtain ⟨_, lk, li, c0⟩ := DL.out W hb0
  unfold pB
  clear hb hW hc hb0 hU hP hP0
  go_enter Try.func9, Try.ntmps9
  go_upto_region 1 with fail
  rw [HW.out]
  try rw [hbn]
  obtain ⟨l, hl⟩ : ∃ l, rkeys (undF ⟨k.n, k.i, k.s⟩) E = l := ⟨_, rfl⟩
  have hll : l.length ≤ 1000 := by rw [← hl]; exact Nat.le_trans (rkeys_le _ _) hE
  have MC := Lib.hid (fun (u : World) (hu : Kept W u) => by
    have := under_any (HP.out.tb.kept hu) (by omega) ⟨k.n, k.i, k.s⟩
    rw [← rkeys_en, hl] at this
    unfold dv pB at this
    exact this)
  have RC := Lib.hid (fun (u : World) (hu : Kept W u) => by
    have := rtunder_any (HP.out.rt.kept hu) ⟨k.n, k.i, k.s⟩
    rw [hl] at this
    unfold dv at this
    exact this)
  have LI := Lib.hid (fun (u : World) (hu : Kept W u) => (DL.out u (kept_at hu HB0.out)).2.2.1)
  have hSt : Stab (fun u => Kept W u) := stab_kept W
  clear hl
  go_upto_region 19 with fail
  clear c0 lk li
  refine Av.region 12 (fun u => Kept W u) (by kernel_rfl) ((Kept.refl W).drew) ?_
  refine Av.take 0 (some 96) (v := ?_) rfl rfl (by kernel_rfl) (by kernel_rfl) (by kernel_rfl) (by kernel_rfl) (fun _ _ _ h => h) hSt (Au.yq_run (by rfl) (fun u hu => ?_)) ?_
  rotate_left
  · (clear hu; go_simp; try with_reducible rfl)
  simp only [Act.put, List.setIfInBounds_toArray, List.set_cons_zero, List.set_cons_succ]
  refine Av.take 1 (some 97) (v := ?_) rfl rfl (by kernel_rfl) (by kernel_rfl) (by kernel_rfl) (by kernel_rfl) (fun _ _ _ h => h) hSt (Au.yq_run (by rfl) (fun u hu => ?_)) ?_
  rotate_left
  · (clear hu; go_simp; try with_reducible rfl)
  simp only [Act.put, List.setIfInBounds_toArray, List.set_cons_zero, List.set_cons_succ]
  refine Av.take 2 (some 98) (v := ?_) rfl rfl (by kernel_rfl) (by kernel_rfl) (by kernel_rfl) (by kernel_rfl) (fun _ _ _ h => h) hSt (Au.yq_run (by rfl) (fun u hu => ?_)) ?_
  rotate_left
  · (clear hu; go_simp; try with_reducible rfl)
  simp only [Act.put, List.setIfInBounds_toArray, List.set_cons_zero, List.set_cons_succ]
  refine Av.take 3 (some 99) rfl rfl (by kernel_rfl) (by kernel_rfl) (by kernel_rfl) (by kernel_rfl) (fun _ _ _ h => h) hSt (Au.yq_load 30 (.tmp 98) rfl _ rfl (by rfl) (fun u hu => LI.out u hu)) ?_
  simp only [Act.put, List.setIfInBounds_toArray, List.set_cons_zero, List.set_cons_succ]
  refine Av.take 5 (some 101) (v := ?_) rfl rfl (by kernel_rfl) (by kernel_rfl) (by kernel_rfl) (by kernel_rfl) (fun _ _ _ h => h) hSt (Au.yq_run (by rfl) (fun u hu => ?_)) ?_
  rotate_left
  · (clear hu; go_simp; try with_reducible rfl)
  simp only [Act.put, List.setIfInBounds_toArray, List.set_cons_zero, List.set_cons_succ]
  refine Av.take 6 (some 102) (v := ?_) rfl rfl (by kernel_rfl) (by kernel_rfl) (by kernel_rfl) (by kernel_rfl) (fun _ _ _ h => h) hSt (Au.yq_run (by rfl) (fun u hu => ?_)) ?_
  rotate_left
  · (clear hu; go_simp; try with_reducible rfl)
  simp only [Act.put, List.setIfInBounds_toArray, List.set_cons_zero, List.set_cons_succ]
  refine Av.take 7 (some 103) (v := ?_) rfl rfl (by kernel_rfl) (by kernel_rfl) (by kernel_rfl) (by kernel_rfl) (fun _ _ _ h => h) hSt (Au.yq_run (by rfl) (fun u hu => ?_)) ?_
  rotate_left
  · (clear hu; go_simp; try with_reducible rfl)
  simp only [Act.put, List.setIfInBounds_toArray, List.set_cons_zero, List.set_cons_succ]
  refine Av.take 8 (some 104) rfl rfl (by kernel_rfl) (by kernel_rfl) (by kernel_rfl) (by kernel_rfl) (fun _ _ _ h => h) hSt (Au.yq_load 30 (.tmp 103) rfl _ rfl (by rfl) (fun u hu => LI.out u hu)) ?_
  simp only [Act.put, List.setIfInBounds_toArray, List.set_cons_zero, List.set_cons_succ]
  refine Av.step_list 4 rfl (by kernel_rfl) (fun w9 hw9 K9 hK9 => ?_)
  have T9 := Lib.hid (MC.out w9 hw9)
  go_wp2_with (first | (go_at_call 24; refine T9.out.mono ?_; rintro r wa ⟨v1, rfl, r1, _, ka⟩))
  refine hK9.out (fun u => Kept W u ∧ Kr u v1 l) _ _ ⟨hw9.trans ka, r1⟩ (stab_and hSt (fun u u' h k => RowV.keep h k)) (fun u hu => hu.1) ?_
  clear hK9 K9 T9 hw9 ka r1
  have hSt9 : Stab (fun u => Kept W u ∧ Kr u v1 l) := stab_and hSt (fun u u' h k => RowV.keep h k)
  try simp only [Act.put, List.setIfInBounds_toArray, List.set_cons_zero, List.set_cons_succ]
  refine Av.step_list 9 rfl (by kernel_rfl) (fun w9 hw9 K9 hK9 => ?_)
  have T9 := Lib.hid (RC.out w9 hw9.1)
  go_wp2_with (first | (go_at_call 29; refine T9.out.mono ?_; rintro r wa ⟨v2, rfl, r2, _, ka⟩))
  refine hK9.out (fun u => (Kept W u ∧ Kr u v1 l) ∧ Kr u v2 l) _ _ ⟨⟨hw9.1.trans ka, RowV.keep hw9.2 ka⟩, r2⟩ (stab_and hSt9 (fun u u' h k => RowV.keep h k)) (fun u hu => hu.1) ?_
  clear hK9 K9 T9 hw9 ka r2
  have hSt10 : Stab (fun u => (Kept W u ∧ Kr u v1 l) ∧ Kr u v2 l) := stab_and hSt9 (fun u u' h k => RowV.keep h k)
  have SR := Lib.hid (fun (u : World) (hu : (Kept W u ∧ Kr u v1 l) ∧ Kr u v2 l) => same_rows hu.1.2 hu.2 (by omega))
  try simp only [Act.put, List.setIfInBounds_toArray, List.set_cons_zero, List.set_cons_succ]
  refine Av.take 10 (some 106) rfl rfl (by kernel_rfl) (by kernel_rfl) (by kernel_rfl) (by kernel_rfl) (fun _ _ _ h => h) hSt10 (Au.yq_call 10 _ (by rfl) (fun u => by go_simp) (fun u hu => SR.out u hu)) ?_
  simp only [Act.put, List.setIfInBounds_toArray, List.set_cons_zero, List.set_cons_succ]
  refine Av.take 11 (some 6) (v := ?_) rfl rfl (by kernel_rfl) (by kernel_rfl) (by kernel_rfl) (by kernel_rfl) (fun _ _ _ h => h) hSt10 (Au.yq_run (by rfl) (fun u hu => ?_)) ?_
  rotate_left
  · (clear hu; go_simp; try with_reducible rfl)
  simp only [Act.put, List.setIfInBounds_toArray, List.set_cons_zero, List.set_cons_succ]
  refine Av.done (by kernel_rfl) (fun u hu => ?_)
  have HU2 := Lib.hid hu.1.1
  clear hu
  go_wp2_with fail
  go_ret
  exact ⟨rfl, m, v, E, S, HP.out.kept HU2.out, HU.out, by omega, by omega⟩

set_option maxHeartbeats 4000000 in
theorem does_drop {W0 w : World} {B R m : Nat} {v : Value} {E : List Re} {S : Nat → Prop} (hP : Pl W0 w B R (E.map Re.en) m v E S) (hU : Pu W0 E) (hE : E.length ≤ 1000) (hm : m ≤ 800000) (x : Re) {k : Ke} (hk : okK k) :
    Calls Try.prog 9 #[pB B, .pointer (some ⟨R, 0, none⟩), .agg (encDe 3 x k).toArray] w (Doing W0 B R m E) := by
  obtain ⟨A, hA⟩ : ∃ A, (encDe 3 x k).toArray = A := ⟨_, rfl⟩
  have hc : ∀ j y, (encDe 3 x k)[j]? = some y → A[j]? = some y := fun j y hj => by rw [← hA, List.getElem?_toArray]; exact hj
  rw [hA]
  clear hA
  obtain ⟨W, hW⟩ : ∃ W, w.alloc (.cells A 37) = W := ⟨_, rfl⟩
  have hb : Bl w W [(A, 37)] := hW ▸ Bl.one w _ _
  have hb0 := hb.blk 0 rfl
  have hP0 := hP
  have hP := hP.kept hb.kept
  have hbW := Below.size hb.kept
  have hbl : w.heap.size < W.heap.size := blk_lt hb0
  obtain ⟨b, hbn⟩ : ∃ b, w.heap.size = b := ⟨_, rfl⟩
  have hSb : ¬ S b := fun c => by have := hP.tb.lt b c; rw [← hbn] at c; exact absurd (hP0.tb.lt _ c) (Nat.lt_irrefl _)
  rw [show w.heap.size + 0 = b from hbn] at hb0
  have hRb : b ≠ R := fun c => by have := blk_lt hP0.rt.blk; omega
  rw [hbn] at hbl
  have DL := Lib.hid (fun (u : World) (hu : u.heap[b]? = some (.cells A 37 (0, 0))) => de_load hc hu)
  have HW := Lib.hid hW
  have HP := Lib.hid hP
  have HU := Lib.hid hU
  have HB0 := Lib.hid hb0
  obtain ⟨_, lk, li, c0⟩ := DL.out W hb0
  unfold pB
  clear hb hW hc hb0 hU hP hP0
  go_enter Try.func9, Try.ntmps9
  go_upto_region 1 with fail
  rw [HW.out]
  try rw [hbn]
  obtain ⟨z, hz⟩ : ∃ z, (find k (E.map Re.en)).isSome = z := ⟨_, rfl⟩
  have HA := Lib.hid (apart_map HP.out.tb.sorted)
  have MC := Lib.hid (fun (u : World) (hu : Kept W u) => by
    have := drop_any (HP.out.tb.kept hu) (by omega) hk
    rw [hz] at this
    unfold kv pB at this
    exact this)
  have LK := Lib.hid (fun (u : World) (hu : Fr (fun j => S j ∨ j = R) W u) => (DL.out u ((hu.block b hbl (fun c => c.elim hSb hRb)).trans HB0.out)).2.1)
  have hT : Stab (fun u => Fr (fun j => S j ∨ j = R) W u) := fun u u' h k => h.then_kept k
  have hSt : Stab (fun u => Kept W u) ∧ ∀ u, Kept W u → Fr (fun j => S j ∨ j = R) W u := ⟨stab_kept W, fun u hu => Fr.kept hu⟩
  go_upto_region 9 with fail
  clear c0 lk li
  refine At.region (fun u => Fr (fun j => S j ∨ j = R) W u) (fun u => Kept W u) (by kernel_rfl) ((Kept.refl W).drew) ?_
  refine At.take 0 (some 33) (v := ?_) rfl rfl (by kernel_rfl) (by kernel_rfl) (by kernel_rfl) (fun _ _ _ h => h) hSt (Au.yq_run (by rfl) (fun u hu => ?_)) ?_
  rotate_left
  · (clear hu; go_simp; try with_reducible rfl)
  simp only [Act.put, List.setIfInBounds_toArray, List.set_cons_zero, List.set_cons_succ]
  refine At.take 1 (some 34) (v := ?_) rfl rfl (by kernel_rfl) (by kernel_rfl) (by kernel_rfl) (fun _ _ _ h => h) hSt (Au.yq_run (by rfl) (fun u hu => ?_)) ?_
  rotate_left
  · (clear hu; go_simp; try with_reducible rfl)
  simp only [Act.put, List.setIfInBounds_toArray, List.set_cons_zero, List.set_cons_succ]
  refine At.take 2 (some 35) rfl rfl (by kernel_rfl) (by kernel_rfl) (by kernel_rfl) (fun _ _ _ h => h) hSt (Au.yq_load 32 (.tmp 34) rfl _ rfl (by rfl) (fun u hu => LK.out u hu)) ?_
  simp only [Act.put, List.setIfInBounds_toArray, List.set_cons_zero, List.set_cons_succ]
  refine At.take 4 (some 37) (v := ?_) rfl rfl (by kernel_rfl) (by kernel_rfl) (by kernel_rfl) (fun _ _ _ h => h) hSt (Au.yq_run (by rfl) (fun u hu => ?_)) ?_
  rotate_left
  · (clear hu; go_simp; try with_reducible rfl)
  simp only [Act.put, List.setIfInBounds_toArray, List.set_cons_zero, List.set_cons_succ]
  refine At.take 5 (some 38) (v := ?_) rfl rfl (by kernel_rfl) (by kernel_rfl) (by kernel_rfl) (fun _ _ _ h => h) hSt (Au.yq_run (by rfl) (fun u hu => ?_)) ?_
  rotate_left
  · (clear hu; go_simp; try with_reducible rfl)
  simp only [Act.put, List.setIfInBounds_toArray, List.set_cons_zero, List.set_cons_succ]
  refine At.take 6 (some 39) rfl rfl (by kernel_rfl) (by kernel_rfl) (by kernel_rfl) (fun _ _ _ h => h) hSt (Au.yq_load 32 (.tmp 38) rfl _ rfl (by rfl) (fun u hu => LK.out u hu)) ?_
  simp only [Act.put, List.setIfInBounds_toArray, List.set_cons_zero, List.set_cons_succ]
  refine At.step_list 3 rfl (by kernel_rfl) (fun w9 hw9 K9 hK9 => ?_)
  have T9 := Lib.hid (MC.out w9 hw9)
  go_wp2_with (first | (go_at_call 23; refine T9.out.mono ?_; rintro r wa ⟨rfl, S1, t1, s1, f1⟩))
  refine hK9.out (fun u => Fr (fun j => S j ∨ j = R) W u ∧ ∃ S1, Pl W0 u B R (drop k (E.map Re.en)) m v E S1) _ _ ⟨(Fr.kept (S := fun j => S j ∨ j = R) hw9).trans f1 (fun j c => .inl (.inl c)), S1, (HP.out.kept hw9).stepT t1 s1 f1⟩ (stab_and hT (fun u u' h k => by obtain ⟨S1, h⟩ := h; exact ⟨S1, h.kept k⟩)) (fun u hu => hu.1) ?_
  clear hK9 K9 T9 hw9 t1 s1 f1
  try simp only [Act.put, List.setIfInBounds_toArray, List.set_cons_zero, List.set_cons_succ]
  refine At.step_list 7 rfl (by kernel_rfl) (fun w9 hw9 K9 hK9 => ?_)
  obtain ⟨S2, h2⟩ := hw9.2
  have T9 := rtdrop_any h2.rt HA.out k
  rw [some_idx, hz] at T9
  unfold kv at T9
  have T9 := Lib.hid T9
  go_wp2_with (first | (go_at_call 26; refine T9.out.mono ?_; rintro r wa ⟨rfl, v2, t2, o2, f2⟩))
  refine hK9.out (fun u => Fr (fun j => S j ∨ j = R) W u ∧ ∃ v2 S1, Pl W0 u B R (drop k (E.map Re.en)) m v2 (dropR k E) S1) _ _ ⟨hw9.1.trans f2 (fun j c => .inl (.inr c)), v2, S2, h2.stepR t2 o2 f2⟩ (stab_and hT (fun u u' h k => by obtain ⟨v2, S1, h⟩ := h; exact ⟨v2, S1, h.kept k⟩)) (fun u hu => hu.1) ?_
  clear hK9 K9 T9 hw9 h2 t2 o2 f2
  have hSt10 : Stab (fun u => Fr (fun j => S j ∨ j = R) W u ∧ ∃ v2 S1, Pl W0 u B R (drop k (E.map Re.en)) m v2 (dropR k E) S1) ∧ ∀ u, (Fr (fun j => S j ∨ j = R) W u ∧ ∃ v2 S1, Pl W0 u B R (drop k (E.map Re.en)) m v2 (dropR k E) S1) → Fr (fun j => S j ∨ j = R) W u := ⟨stab_and hT (fun u u' h k => by obtain ⟨v2, S1, h⟩ := h; exact ⟨v2, S1, h.kept k⟩), fun u hu => hu.1⟩
  try simp only [Act.put, List.setIfInBounds_toArray, List.set_cons_zero, List.set_cons_succ]
  refine At.take 8 (some 41) (v := ?_) rfl rfl (by kernel_rfl) (by kernel_rfl) (by kernel_rfl) (fun _ _ _ h => h) hSt10 (Au.yq_run (by rfl) (fun u hu => ?_)) ?_
  rotate_left
  · (clear hu; go_simp; try with_reducible rfl)
  simp only [Act.put, List.setIfInBounds_toArray, List.set_cons_zero, List.set_cons_succ]
  refine At.take 9 (some 6) (v := ?_) rfl rfl (by kernel_rfl) (by kernel_rfl) (by kernel_rfl) (fun _ _ _ h => h) hSt10 (Au.yq_run (by rfl) (fun u hu => ?_)) ?_
  rotate_left
  · (clear hu; go_simp; try with_reducible rfl)
  simp only [Act.put, List.setIfInBounds_toArray, List.set_cons_zero, List.set_cons_succ]
  refine At.done (by kernel_rfl) (fun u hu => ?_)
  obtain ⟨_, v2, S2, h2⟩ := hu
  have H2 := Lib.hid (show Pl W0 u B R ((dropR k E).map Re.en) m v2 (dropR k E) S2 by rw [map_drop]; exact h2)
  clear h2
  go_wp2_with fail
  go_ret
  exact ⟨rfl, m, v2, dropR k E, S2, H2.out, HU.out.drop k, by have := dropR_le k E; omega, by omega⟩

end Go.Proofs.Ytiaafjabhnomeaa.Tb
end
section
namespace Go.Proofs.Ytiaafjabhnomeaa.Tb
open Go.RowKit Go.Sort IdM Se Mv Blk
open St (Kept blk_cell blk_free blk_lt blk_set)
open Go.Proofs.Ytiaafjabhnomeaa.Ow (Ow Cls load_key load_id info_row arr_one)
open Go.Proofs.Ytiaafjabhnomeaa.Cl (Cl int_in)
open Go.Proofs.Ytiaafjabhnomeaa.Rv
open Go.Proofs.Ytiaafjabhnomeaa.Ls
open Go.Proofs.Ytiaafjabhnomeaa.Ad (load_w load_l store_new kept_row)
open Go.Proofs.Ytiaafjabhnomeaa.Au (Stab stab_and stab_kept)
open Wh (Fr)
set_option linter.unusedVariables false
set_option linter.unusedSimpArgs false
set_option maxRecDepth 20000

/-- whatever deed -/
theorem does_any {W0 w : World} {B R m : Nat} {v : Value} {E : List Re} {S : Nat → Prop} (hP : Pl W0 w B R (E.map Re.en) m v E S) (hU : Pu W0 E) (hE : E.length ≤ 1000) (hm : m ≤ 800000) (kind : Int) (x : Re) {k : Ke} (hk : okK k)
    (hx : ∀ u, Kept W0 u → Cls u (.slice x.q x.n x.c) x.K) (ht : x.K.length ≤ 10) (hf : x.en.Fit) (ha : apartB x E = true) :
    Calls Try.prog 9 #[pB B, .pointer (some ⟨R, 0, none⟩), .agg (encDe kind x k).toArray] w (Doing W0 B R m E) := by
  by_cases h0 : kind = 0
  · subst h0; exact does_put0 hP hU hE hm x hk hx ht hf ha
  by_cases h1 : kind = 1
  · subst h1; exact does_put1 hP hU hE hm x hk hx ht hf ha
  by_cases h2 : kind = 2
  · subst h2; exact does_put2 hP hU hE hm x hk hx ht hf ha
  by_cases h3 : kind = 3
  · subst h3; exact does_drop hP hU hE hm x hk
  by_cases h4 : kind = 4
  · subst h4; exact does_get hP hU hE hm x hk
  by_cases h5 : kind = 5
  · subst h5; exact does_caller hP hU hE hm x hk
  by_cases h6 : kind = 6
  · subst h6; exact does_under hP hU hE hm x hk
  · exact does_no hP hU hE hm x hk h0 h1 h2 h3 h4 h5 h6

/-! ### rows of deeds -/
structure De where
  kind : Int
  x : Re
  k : Ke
instance : Inhabited De := ⟨⟨0, default, ⟨0, 0, 0, 0⟩⟩⟩
def De.enc (d : De) : List Value := encDe d.kind d.x d.k
structure ArgD (W : World) (v : Value) (D : List De) : Prop where
  ls : Ls 24 De.enc W v D
  cl : ∀ d ∈ D, Cls W (.slice d.x.q d.x.n d.x.c) d.x.K
  fit : ∀ d ∈ D, d.x.en.Fit
  ok : ∀ d ∈ D, okK d.k
theorem info_de : (Try.prog.info? 37).map (·.size) = some 24 := by kernel_rfl
theorem ArgD.pick {W : World} {p : Option Addr} {N cap : Nat} {D : List De} (h : ArgD W (.slice p N cap) D) {i : Nat} (hi : i < D.length) :
    ∃ d b off, D[i]? = some d ∧ d ∈ D ∧ p = some ⟨b, off, none⟩ ∧ (∀ u, Kept W u → (loadVar 37 ⟨b, off + i * 24, none⟩).run Try.prog u = .ok (.agg d.enc.toArray) u) ∧
      (∀ u, Kept W u → (loadVar 35 ⟨b, off + i * 24 + 1, none⟩).run Try.prog u = .ok (.agg d.x.arr) u) ∧
      (∀ u, Kept W u → u.cell? ⟨b, off + i * 24 + 1 + 18, none⟩ = some (.slice d.x.q d.x.n d.x.c)) ∧ ∀ u, Kept W u → Cls u (.slice d.x.q d.x.n d.x.c) d.x.K := by
  obtain ⟨d, b, off, h1, h2, h3, h4⟩ := h.ls.pick hi
  have hc : ∀ u, Kept W u → ∀ j x, d.enc[j]? = some x → u.cell? ⟨b, off + i * 24 + j, none⟩ = some x := fun u hu j x hj => (Below.cell hu (p := ⟨b, _, none⟩) h3).trans (h4 j x hj)
  refine ⟨d, b, off, h1, List.mem_of_getElem? h1, h2, fun u hu => ?_, fun u hu => ?_, fun u hu => ?_, fun u hu => (h.cl d (List.mem_of_getElem? h1)).go hu⟩
  · exact run_loadVar_mid u b (off + i * 24) (P := Try.prog) 37 d.enc _ (hc u hu) Try.underlying37 rfl info_de
  · have := run_loadVar_mid u b (off + i * 24 + 1) (P := Try.prog) 35 (encR d.x) _ (fun j y hj => by
      have := hc u hu (1 + j) y (by
        show (Value.int .i64 d.kind :: (encR d.x ++ encK d.k))[1 + j]? = some y
        rw [Nat.add_comm, List.getElem?_cons_succ, List.getElem?_append_left (by exact (List.getElem?_eq_some_iff.1 hj).1)]; exact hj)
      rw [← Nat.add_assoc] at this; exact this) Try.underlying35 rfl info_row
    rw [arr_to] at this; exact this
  · have := hc u hu 19 _ rfl
    rw [Nat.add_assoc (off + i * 24) 1 18]; exact this

set_option maxHeartbeats 8000000 in
theorem plays_any {w : World} {v : Value} {D : List De} (hv : ArgD w v D) : Calls Try.prog 3 #[v] w fun e w' => e = .returned (.bool true) ∧ Kept w w' := by
  obtain ⟨p, N, cap, rfl, hN, hm⟩ := hv.ls.slice
  have HV := Lib.hid hv
  have HN := Lib.hid hN
  have AW := Lib.hid (fun u => awake_any u)
  have hm2 : N ≤ 9223372036854775807 := by unfold maxLen at hm; omega
  have N1 := Lib.hid (new_any w)
  clear hv hN hm
  unfold pB at N1
  go_enter Try.func3, Try.ntmps3
  go_upto_region 2 with (first
    | (go_at_call 6; refine N1.out.mono ?_; rintro e w1 ⟨B, S, rfl, T1, s1, k1⟩))
  obtain ⟨W3, hW3⟩ : ∃ W3, w1.alloc (.cells #[.slice none 0 0] 28) = W3 := ⟨_, rfl⟩
  have k3 : Kept w1 W3 := by rw [← hW3]; exact Kept.one _ _
  have b3 : W3.heap[w1.heap.size]? = some (.cells #[.slice none 0 0] 28 (0, 0)) := by rw [← hW3]; exact St.blk_new _ _
  obtain ⟨R, hR⟩ : ∃ R, w1.heap.size = R := ⟨_, rfl⟩
  rw [hW3, hR]
  rw [hR] at b3
  have z1 := Below.size k1
  have O0 : Pl w W3 B R (([] : List Re).map Re.en) 0 (.slice none 0 0) [] S :=
    ⟨k1.trans k3, T1.kept k3, ⟨b3, rowv_nil _ _ _ _, (fun g c => by cases c), by simp⟩, fun c => by have := T1.lt R c; omega, (fun g c => by cases c), s1, by omega⟩
  have HO := Lib.hid O0
  clear hW3 k3 b3 hR z1 T1 s1 k1 O0 N1
  go_wp2_with fail
  go_loopw [5] (fun y wr => ∃ i : Nat, i ≤ N ∧ i ≤ 40 ∧ y = .int .i64 (i : Int) ∧ ∃ m v E S, m ≤ 11 * i ∧ E.length ≤ i ∧ Hid (Pu w E) ∧ Hid (Pl w wr B R (E.map Re.en) m v E S)) (fun y _ => N - (intOf y).toNat)
  case atStart => exact ⟨0, Nat.zero_le _, by omega, rfl, 0, _, [], S, by omega, Nat.le_refl _, Lib.hid (Pu.nil w), HO⟩
  case round =>
    obtain ⟨i, hi, hi40, rfl, m, vr, E, S, hma, hEl, hU, ho⟩ := hrel
    by_cases hlt : i < N
    · have hi1 : (i : Int) < N := by omega
      by_cases hlt4 : i < 40
      · have hi2 : (i : Int) < 40 := by omega
        obtain ⟨d, b, off, hd, hmem, rfl, ld, lo, l18, hcl⟩ := HV.out.pick (i := i) (by rw [HN.out]; exact hlt)
        have s18 := l18 wr ho.out.base
        have hKn : d.x.K.length = d.x.n := by obtain ⟨q, cc, ee⟩ := (hcl wr ho.out.base).shape; injection ee with _ h _; exact h.symm
        obtain ⟨xn, hxn⟩ : ∃ xn, d.x.n = xn := ⟨_, rfl⟩
        have hx9 : xn ≤ 9223372036854775807 := by
          have h9 := (hcl wr ho.out.base).most
          unfold maxLen at h9; omega
        rw [hxn] at s18 hKn
        by_cases hten : 10 < xn
        · have e3 : (10 : Int) < (xn : Int) := by omega
          go_wp2_with (first | (go_at_call 8; refine (AW.out _).mono ?_; rintro r wz ⟨rfl, kz⟩))
          go_ret
          exact ⟨rfl, ho.out.base.trans kz⟩
        · have e3 : ¬ (10 : Int) < (xn : Int) := by omega
          have lx := lo wr ho.out.base
          have CA := Lib.hid (rtapart_any ho.out.rt (fun e he u hu => hU.out.cl e he u (ho.out.base.trans hu)) d.x (fun u hu => hcl u (ho.out.base.trans hu)))
          obtain ⟨z, hz⟩ : ∃ z, apartB d.x E = z := ⟨_, rfl⟩
          rw [hz] at CA
          cases z
          · go_wp2_with (first
              | (refine load_l 35 (.tmp 32) rfl _ rfl rfl _ lx ?_)
              | (go_at_call 7; refine CA.out.mono ?_; rintro r wx ⟨rfl, kx⟩)
              | (go_at_call 8; refine (AW.out _).mono ?_; rintro r wz ⟨rfl, kz⟩))
            go_ret
            exact ⟨rfl, (ho.out.base.trans kx).trans kz⟩
          · go_upto_region 7 with (first
              | (refine load_l 35 (.tmp 32) rfl _ rfl rfl _ lx ?_)
              | (go_at_call 7; refine CA.out.mono ?_; rintro r wx ⟨rfl, kx⟩))
            have ox := ho.out.kept kx
            have ldx := ld wx ox.base
            have CD := does_any ox hU.out (by omega) (by omega) d.kind d.x (HV.out.ok d hmem) hcl (by omega) (HV.out.fit d hmem) hz
            unfold pB at CD
            have CD := Lib.hid (show Calls Try.prog 9 #[.pointer (some ⟨B, 0, none⟩), .pointer (some ⟨R, 0, none⟩), .agg d.enc.toArray] wx (Doing w B R m E) from CD)
            have K0 := Lib.hid (fun (u : World) (m' : Nat) (v' : Value) (E' : List Re) (S' : Nat → Prop) (h : Pl w u B R (E'.map Re.en) m' v' E' S') (hm : m' ≤ 900000) => by
              have := keys_any h.tb hm
              rw [← rkeys_en] at this
              unfold pB at this; exact this)
            have K1 := Lib.hid (fun (u : World) (m' : Nat) (v' : Value) (E' : List Re) (S' : Nat → Prop) (h : Pl w u B R (E'.map Re.en) m' v' E' S') (hm : m' ≤ 900000) => by
              have := running_any h.tb hm
              rw [← rkeys_en] at this
              unfold pB at this; exact this)
            clear s18 ho kx CA lx lo l18 ld hcl ox
            go_wp2_with (first
              | (refine load_l 37 (.tmp 42) rfl _ rfl rfl _ ldx ?_)
              | (go_at_call 9; refine CD.out.mono ?_; rintro r wd ⟨rfl, m2, v2, E2, S2, hp, hu, hl, hmm⟩; have hm9 : m2 ≤ 900000 := (by omega); have hk6 : ∀ f, (rkeys f E2).length ≤ 1000000 := (fun f => Nat.le_trans (rkeys_le f E2) (by omega)))
              | (go_at_call 11; refine (K0.out _ _ _ _ _ hp hm9).mono ?_; rintro r wa ⟨va, rfl, ra, _, ka⟩)
              | (go_at_call 12; first
                  | (refine (rtkeys1_any (hp.rt.kept (((ka.trans kb).trans kc).trans kd))).mono ?_; rintro r we ⟨ve, rfl, re, _, ke⟩)
                  | (refine (rtkeys0_any (hp.rt.kept ka)).mono ?_; rintro r wb ⟨vb, rfl, rb, _, kb⟩))
              | (go_at_call 10; first
                  | (refine (same_rows (RowV.keep rd ke) re (hk6 _)).mono ?_; rintro r wf ⟨rfl, kf⟩)
                  | (refine (same_rows (RowV.keep ra kb) rb (hk6 _)).mono ?_; rintro r wc ⟨rfl, kc⟩))
              | (go_at_call 13; refine (K1.out _ _ _ _ _ (hp.kept ((ka.trans kb).trans kc)) hm9).mono ?_; rintro r wd2 ⟨vd, rfl, rd, _, kd⟩))
            have HP2 := Lib.hid (hp.kept (((((ka.trans kb).trans kc).trans kd).trans ke).trans kf))
            have HU2 := Lib.hid hu
            clear hp hu ka kb kc kd ke kf ra rb rd re CD
            go_roundw
            case rel => exact ⟨i + 1, hlt, by omega, by go_num, m2, v2, E2, S2, by omega, by omega, HU2, HP2⟩
            case measure => simp [intOf]; omega
      · have hi2 : ¬ (i : Int) < 40 := by omega
        have hbase := Lib.hid ho.out.base
        clear ho
        go_wp2_with (first | (go_at_call 8; refine (AW.out _).mono ?_; rintro r wz ⟨rfl, kz⟩))
        go_ret
        exact ⟨rfl, hbase.out.trans kz⟩
    · have hi1 : ¬ (i : Int) < N := by omega
      have hbase := Lib.hid ho.out.base
      clear ho
      go_wp2_with (first | (go_at_call 8; refine (AW.out _).mono ?_; rintro r wz ⟨rfl, kz⟩))
      go_ret
      exact ⟨rfl, hbase.out.trans kz⟩

/-! ### as arguments -/
section
open Go.Deep Go.ChangeShapes Go.WideShapes Args
/-- a deed's cells -/
theorem deed_in {H : Type} {en : TypeId × Value → H} {W : World} {n : Nat} {l : List Value} {y : DataW H × List MemPlace} (hfl : DataW.trod en Try.prog W 0 (fun _ => true) true n 37 l = some y) (hcl : l.length = 24) :
    ∃ d : De, l = d.enc ∧ Cls W (.slice d.x.q d.x.n d.x.c) d.x.K ∧ d.x.en.Fit ∧ okK d.k := by
  obtain ⟨xs, m, _, _, _, hlen, hg⟩ := DataW.trod_struct Try.underlying37 hfl
  match xs, hlen with
  | [y0, y1, y2], _ =>
    match l, hcl with
    | c0 :: t, hcl =>
      have ht : t.length = 23 := by simpa using hcl
      have s0 : DataW.trod en Try.prog W 0 (fun _ => true) true m 3 ((List.drop 0 (c0 :: t)).take (Try.prog.cellsOf 3)) = ([y0, y1, y2] : List (DataW H × List MemPlace))[0]? := hg 0 _ rfl
      rw [show Try.prog.cellsOf 3 = 1 by kernel_rfl] at s0
      have t0 : DataW.trod en Try.prog W 0 (fun _ => true) true m 3 [c0] = some y0 := s0
      have s1 : DataW.trod en Try.prog W 0 (fun _ => true) true m 35 ((List.drop 1 (c0 :: t)).take (Try.prog.cellsOf 35)) = ([y0, y1, y2] : List (DataW H × List MemPlace))[1]? := hg 1 _ rfl
      rw [show Try.prog.cellsOf 35 = 19 by kernel_rfl] at s1
      have t1 : DataW.trod en Try.prog W 0 (fun _ => true) true m 35 (t.take 19) = some y1 := s1
      have s2 : DataW.trod en Try.prog W 0 (fun _ => true) true m 32 ((List.drop 20 (c0 :: t)).take (Try.prog.cellsOf 32)) = ([y0, y1, y2] : List (DataW H × List MemPlace))[2]? := hg 2 _ rfl
      rw [show Try.prog.cellsOf 32 = 4 by kernel_rfl] at s2
      have t2 : DataW.trod en Try.prog W 0 (fun _ => true) true m 32 ((t.drop 19).take 4) = some y2 := s2
      have hd : (t.drop 19).length = 4 := by rw [List.length_drop, ht]
      rw [List.take_of_length_le (Nat.le_of_eq hd)] at t2
      obtain ⟨kind, rfl, -⟩ := int_in t0
      obtain ⟨x, hx, q1, q2, -⟩ := owner_in t1 (by rw [List.length_take, ht]; rfl)
      obtain ⟨r, hr⟩ : ∃ r, t.drop 19 = r := ⟨_, rfl⟩
      rw [hr] at t2 hd
      match r, hd, hr, t2 with
      | [a0, a1, a2, a3], _, hr, t2 =>
        obtain ⟨k0, k1, k2, k3, rfl, rfl, rfl, rfl, i0, i1, i2, i3⟩ := rd_key t2
        refine ⟨⟨kind, x, ⟨k0, k1, k2, k3⟩⟩, ?_, q1, q2, ⟨i0, i1, i2, i3⟩⟩
        show _ = Value.int .i64 kind :: (encR x ++ encK ⟨k0, k1, k2, k3⟩)
        rw [← hx, show encK ⟨k0, k1, k2, k3⟩ = t.drop 19 from hr.symm, List.take_append_drop]

variable {H : Type} {en : TypeId × Value → H} {W : World} {r : Reach} {b0 : Nat} {v : Value} {d : DataW H} {q : List MemPlace}
set_option maxHeartbeats 1000000 in
/-- a row of deeds as an argument -/
theorem open_deeds (hv : Value.okWide Try.prog W r b0 22 v) (h : DataW.Trod en Try.prog W 0 (fun _ => true) true 22 v d q) : ∃ D, ArgD W v D := by
  have ce : Try.prog.cellsOf 37 = 24 := by kernel_rfl
  obtain ⟨a0, len0, cap0, rfl⟩ := okWide_slice Try.underlying22 hv
  obtain ⟨fuel, hf⟩ := h
  rcases open_slice Try.underlying22 hf with ⟨hcs, hx⟩ | ⟨a, len, cap, m, n, D, Pl, hcs, _, hle, hm, hmm, hx, hall⟩
  · simp [Value.cells] at hcs
    obtain ⟨rfl, rfl, rfl⟩ := hcs
    exact ⟨[], ls_nil _ _ _, (fun e h => by cases h), (fun e h => by cases h), (fun e h => by cases h)⟩
  · simp [Value.cells] at hcs
    obtain ⟨rfl, rfl, rfl⟩ := hcs
    simp only [if_true] at hmm
    by_cases h0 : len0 = 0
    · subst h0; exact ⟨[], ls_nil _ _ _, (fun e h => by cases h), (fun e h => by cases h), (fun e h => by cases h)⟩
    · have hcell : ∀ i, i < len0 → ∃ d : De, (Cls W (.slice d.x.q d.x.n d.x.c) d.x.K ∧ d.x.en.Fit ∧ okK d.k) ∧ ∀ j x, d.enc[j]? = some x → W.cell? (a.add (i * 24 + j)) = some x := fun i hi => by
        obtain ⟨cs', h1, h2⟩ := hall i (by omega)
        rw [ce] at h1
        obtain ⟨_, hl, hcell⟩ := World.cells?_some h1
        obtain ⟨d, rfl, q1, q2, q3⟩ := deed_in h2 hl
        refine ⟨d, ⟨q1, q2, q3⟩, fun j x hj => ?_⟩
        have hjl : j < 24 := by rw [← hl]; exact (List.getElem?_eq_some_iff.1 hj).1
        have := hcell j hjl
        rw [add_add] at this
        rw [this]
        exact hj
      obtain ⟨b, off, spot⟩ := a
      obtain ⟨F, hF⟩ := choose_lt hcell
      have hspot : spot = none := by simpa [Addr.add] using World.cell?_spot ((hF 0 (by omega)).2 0 _ rfl)
      subst hspot
      have hF2 : ∀ i, i < len0 → ∀ j x, (F i).enc[j]? = some x → W.cell? ⟨b, off + i * 24 + j, none⟩ = some x := fun i hi j x hj => by
        have := (hF i hi).2 j x hj
        rw [add_plain] at this
        rw [Nat.add_assoc]; exact this
      have hlen : ((List.range len0).map F).length = len0 := by simp
      refine ⟨(List.range len0).map F, .inr ⟨fun c => by rw [c] at hlen; simp at hlen; omega, by rw [hlen]; omega, b, off, cap0, by rw [hlen], cell_in (hF2 0 (by omega) 0 _ rfl), fun i e hi j x hj => ?_⟩, fun e he => ?_, fun e he => ?_, fun e he => ?_⟩
      · have hi2 : i < len0 := by have := (List.getElem?_eq_some_iff.1 hi).1; rwa [hlen] at this
        rw [List.getElem?_map, List.getElem?_range hi2] at hi
        obtain rfl := Option.some.inj hi
        exact hF2 i hi2 j x hj
      · obtain ⟨i, hi, rfl⟩ := List.mem_map.1 he
        exact (hF i (List.mem_range.1 hi)).1.1
      · obtain ⟨i, hi, rfl⟩ := List.mem_map.1 he
        exact (hF i (List.mem_range.1 hi)).1.2.1
      · obtain ⟨i, hi, rfl⟩ := List.mem_map.1 he
        exact (hF i (List.mem_range.1 hi)).1.2.2
/-- the law TablePlays at arguments -/
theorem plays_all (hv : Value.okWide Try.prog W r b0 22 v) (h : DataW.Trod en Try.prog W 0 (fun _ => true) true 22 v d q) :
    Calls Try.prog 3 #[v] W fun e w' => e = .returned (.bool true) ∧ Below W.heap.size W w' := by
  obtain ⟨D, hD⟩ := open_deeds hv h
  exact plays_any hD
end

end Go.Proofs.Ytiaafjabhnomeaa.Tb
end
