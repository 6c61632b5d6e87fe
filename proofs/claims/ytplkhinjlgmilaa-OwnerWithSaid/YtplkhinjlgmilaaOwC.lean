/- Package owner: what an owner does next of its program. -/
import Derived.Test.YtplkhinjlgmilaaOwB
namespace Go.Proofs.Ytplkhinjlgmilaa.Ow
open Go.RowKit Go.Sort Go.Shelf St Blk Eqs
open Go.Proofs.Ytplkhinjlgmilaa.Cl
open Go.Proofs.Ytplkhinjlgmilaa.Ls
open Go.Proofs.Ytplkhinjlgmilaa.Rv
open Go.Proofs.Ytplkhinjlgmilaa.Au (Stab stab_and)
open Go.Proofs.Ytplkhinjlgmilaa.Ad (load_w load_l store_new)
set_option linter.unusedVariables false

theorem mc_fine {w : World} {v : Value} {K : List Cl} (hf : ∀ g, v.ownBlock = some g → w.heap.size + 3 ≤ g) : Fine w (fun u => Mc u v K) :=
  ⟨fun u u' h k => h.keep k, fun u g xs hg h => h.kept fun k e => by have := hf k e; exact setRow_other _ _ _ _ (by omega)⟩
theorem at_fine {w : World} {b : Nat} {X : Array Value} {t : TypeId} (hb : w.heap.size + 3 ≤ b) : Fine w (fun u => u.heap[b]? = some (.cells X t (0, 0))) :=
  ⟨fun u u' h k => kept_at k h, fun u g xs hg h => (setRow_other _ _ _ _ (by omega)).trans h⟩
theorem Fine.and {w : World} {M M' : World → Prop} (h : Fine w M) (k : Fine w M') : Fine w (fun u => M u ∧ M' u) :=
  ⟨stab_and h.stab k.stab, fun u g xs hg m => ⟨h.rows u g xs hg m.1, k.rows u g xs hg m.2⟩⟩
theorem true_fine (w : World) : Fine w (fun _ => True) := ⟨fun _ _ _ _ => trivial, fun _ _ _ _ _ => trivial⟩
theorem info_op : (Try.prog.info? 64).map (·.size) = some 3 := by kernel_rfl
theorem load_op {u : World} {b o : Nat} {k a c : Int} (h0 : u.cell? ⟨b, o, none⟩ = some (.int .i64 k)) (h1 : u.cell? ⟨b, o + 1, none⟩ = some (.int .i64 a)) (h2 : u.cell? ⟨b, o + 2, none⟩ = some (.int .i64 c)) :
    (loadVar 64 ⟨b, o, none⟩).run Try.prog u = .ok (.agg #[.int .i64 k, .int .i64 a, .int .i64 c]) u :=
  run_loadVar_mid u b o _ [.int .i64 k, .int .i64 a, .int .i64 c] _ (fun j x hj => by
    match j, hj with
    | 0, hj => cases hj; exact h0
    | 1, hj => cases hj; exact h1
    | 2, hj => cases hj; exact h2) Try.underlying64 rfl info_op
/-- the first result's block is stored -/
theorem store_res {ops : Array Oper} {rest : List Oper} {o : Oper} {a : Act} {Q : Exit → Act → World → Prop} {t ta : TypeId} {w u : World} {D : Array Value} {M : World → Prop} (hM : Fine w M) (hS : Sp t ta w D M u) (hgd : o.guard = none) (x y : Operand) (ho : o.op = .store t x y) (cells : Array Value)
    (hx : a.eval x = .pointer (some ⟨w.heap.size + 1, 0, none⟩)) (hy : a.eval y = .agg cells) (hi : (Try.prog.info? t).map (·.size) = some 19) (hs : cells.size = 19) (h1 : cells.all (·.oneCell') = true)
    (h : ∀ u', Sp t ta w D M u' → At1 t w cells u' → wpList Try.prog ops Q rest (a.put o.dst undef) u') : wpList Try.prog ops Q (o :: rest) a u := by
  obtain ⟨old, h3, h4⟩ := hS.res
  exact wpList_store_row hgd t x y ho (w.heap.size + 1) cells hx hy t old h3 (by rw [hs]; exact hi) (by rw [hs, h4]) h1 (h _ (hS.row hM cells hs) (setRow_heap _ _ old _ _ _ h3))
/-- .. the second one's -/
theorem store_act {ops : Array Oper} {rest : List Oper} {o : Oper} {a : Act} {Q : Exit → Act → World → Prop} {t ta : TypeId} {w u : World} {D R : Array Value} {M : World → Prop} (hM : Fine w M) (hS : Sp t ta w D M u) (hA : At1 t w R u) (hgd : o.guard = none) (x y : Operand) (ho : o.op = .store ta x y) (cells : Array Value)
    (hx : a.eval x = .pointer (some ⟨w.heap.size + 2, 0, none⟩)) (hy : a.eval y = .agg cells) (hi : (Try.prog.info? ta).map (·.size) = some 3) (hs : cells.size = 3) (h1 : cells.all (·.oneCell') = true)
    (h : ∀ u', Sp t ta w D M u' → At1 t w R u' → At2 ta w cells u' → wpList Try.prog ops Q rest (a.put o.dst undef) u') : wpList Try.prog ops Q (o :: rest) a u := by
  obtain ⟨old, h3, h4⟩ := hS.act
  exact wpList_store_row hgd ta x y ho (w.heap.size + 2) cells hx hy ta old h3 (by rw [hs]; exact hi) (by rw [hs, h4]) h1 (h _ (hS.row2 hM cells hs) ((setRow_other _ _ _ _ (by omega)).trans hA) (setRow_heap _ _ old _ _ _ h3))
def PostP (w : World) (N : Nat) (K : List Cl) (r : Ow × Array Value) (e : Ending) (w' : World) : Prop := ∃ q' c', e = .returned (.tuple #[.agg (r.1.arr q' N c'), .agg r.2]) ∧ Mc w' (.slice q' N c') K ∧ Kept w w'

set_option maxRecDepth 100000 in
set_option maxHeartbeats 2000000 in
theorem step_o {w : World} {q : Option Addr} {N c : Nat} {K : List Cl} {v : Value} {L : List Pg.Op} (o : Ow) (hv : Cls w (.slice q N c) K) (hl : K.length ≤ 800000) (hL : Pg.Ops w v L) (hp : o.pc < 0 ∨ (L.length : Int) ≤ o.pc) :
    Calls Try.prog 30 #[.agg (o.arr q N c), v] w (PostP w N K (o, actA 4 (sumL K 0) 0)) := by
  have hN : K.length = N := by obtain ⟨p, cap, e⟩ := hv.shape; cases e; rfl
  obtain ⟨p, M, cap, rfl, hM, hmM⟩ := hL.slice
  have hm2 : M ≤ 9223372036854775807 := by unfold maxLen at hmM; omega
  obtain ⟨A, hA⟩ : ∃ A, o.arr q N c = A := ⟨_, rfl⟩
  have sA : A.size = 19 := by rw [← hA]; rfl
  rw [hA]
  obtain ⟨W, hW⟩ : ∃ W, ((w.alloc (.cells A 34)).alloc (.cells zeroA 34)).alloc (.cells zact 56) = W := ⟨_, rfl⟩
  have hb : Bl w W [(A, 34), (zeroA, 34), (zact, 56)] := hW ▸ Bl.three w A _ _ _ _ _
  have hsz : W.heap.size = w.heap.size + 3 := by rw [← hW]; simp
  have la := load_ow (hb.blk 0 rfl) sA
  have HW := Lib.hid hW
  have C1 := Lib.hid (clone_any o (hv.go hb.kept) (by omega))
  rw [hA] at C1
  have HB := Lib.hid hb
  have HL := Lib.hid hL
  have HM := Lib.hid hM
  clear hW hb hv hA hL hM
  go_enter Try.func30, Try.ntmps30
  go_upto_region 1 with fail
  rw [show ((w.alloc (.cells A 34)).alloc (.cells #[.int .i64 0, .int .i64 0, .int .i64 0, .int .i64 0, .int .i64 0, .int .i64 0, .int .i64 0, .int .i64 0, .int .i64 0, .int .i64 0, .int .i64 0, .int .i64 0, .int .i64 0, .int .i64 0, .int .i64 0, .int .i64 0, .int .i64 0, .int .i64 0, .slice none 0 0] 34)).alloc (.cells #[.int .i64 0, .int .i64 0, .int .i64 0] 56) = W from HW.out]
  go_upto_region 2 with (first
    | (refine load_l 34 (.tmp 2) rfl _ rfl rfl (.agg A) la ?_)
    | (go_at_call 28; refine C1.out.mono ?_; rintro e w1 ⟨q1, c1, rfl, hr1, ho1, hk1⟩; obtain ⟨D, hD⟩ : ∃ D, o.arr q1 N c1 = D := ⟨_, rfl⟩; rw [hD]; have sD : D.size = 19 := (by rw [← hD]; rfl); have oD : D.all (·.oneCell') = true := (by rw [← hD]; exact arr_one _ _ _ _); have H1 := Lib.hid (And.intro hr1 (And.intro ho1 (And.intro hk1 hD))); clear hr1 ho1 hk1 hD)
    | (refine wpList_store_row rfl 34 (.tmp 2) (.tmp 8) rfl w.heap.size D rfl rfl 34 A ((HB.out.go H1.out.2.2.1).blk 0 rfl) (by rw [sD]; exact info_ow) (by rw [sD, sA]) oD ?_))
  obtain ⟨W2, hW2⟩ : ∃ W2, w1.setRow w.heap.size D = W2 := ⟨_, rfl⟩
  rw [hW2]
  have hb2 : Bl w W2 [(D, 34), (zeroA, 34), (zact, 56)] := by rw [← hW2]; exact (HB.out.go H1.out.2.2.1).row 0 rfl D
  have hr2 : Mc W2 (.slice q1 N c1) K := H1.out.1.kept fun g e => by
    have := H1.out.2.1 g e
    rw [← hW2]; exact setRow_other _ _ _ _ (by omega)
  have hfar : ∀ g, (Value.slice q1 N c1).ownBlock = some g → w.heap.size + 3 ≤ g := fun g e => by have := H1.out.2.1 g e; omega
  have hD := H1.out.2.2.2
  have c16 : W2.cell? ⟨w.heap.size, 16, none⟩ = some (.int .i64 o.pc) := (hb2.cell 0 16 rfl).trans (show D[16]? = _ by rw [← hD]; rfl)
  clear hW2 H1 HB C1 la
  rw [HM.out] at hp
  have hFine : Fine w (fun u => Mc u (.slice q1 N c1) K ∧ True) := (mc_fine hfar).and (true_fine w)
  have hSt : Stab (Sp 34 56 w D (fun u => Mc u (.slice q1 N c1) K ∧ True)) := sp_stab hFine
  have hS2 : Sp 34 56 w D (fun u => Mc u (.slice q1 N c1) K ∧ True) W2 := ⟨hb2.kept, hb2.blk 0 rfl, ⟨_, hb2.blk 1 rfl, rfl⟩, ⟨_, hb2.blk 2 rfl, rfl⟩, hr2, trivial⟩
  have CS := fun (u : World) (hu : Sp 34 56 w D (fun u => Mc u (.slice q1 N c1) K ∧ True) u) => sum_any o (mc_cls hu.mem.1 (by omega)) 0
  obtain ⟨y, hy⟩ : ∃ y, sumL K 0 = y := ⟨_, rfl⟩
  rw [hy] at CS
  rw [hD] at CS
  have HY := Lib.hid hy
  have HCS := Lib.hid CS
  have hR := hD
  have HS2 := Lib.hid hS2
  clear hb2 hr2 hS2 CS hy
  obtain ⟨x, hx⟩ : ∃ x, o.pc = x := ⟨_, rfl⟩
  rw [hx] at hp c16
  rcases (show x < 0 ∨ ¬ x < 0 ∧ (M : Int) ≤ x by omega) with hp1 | ⟨hp0, hp1⟩
  all_goals
    go_upto_region 3 with fail
    refine Au.region (Sp 34 56 w D (fun u => Mc u (.slice q1 N c1) K ∧ True)) (by kernel_rfl) (HS2.out.go hFine (Kept.refl _).drew) ?_
    refine Au.take 0 (some 19) rfl rfl (by kernel_rfl) (by kernel_rfl) (by kernel_rfl) (fun _ _ _ h => h) hSt (Au.yq_load 34 (.tmp 2) rfl _ rfl (by rfl) (fun u hu => load_ow hu.own sD)) ?_
    simp only [Act.put, List.setIfInBounds_toArray, List.set_cons_zero, List.set_cons_succ]
    refine Au.take 1 (some 20) rfl rfl (by kernel_rfl) (by kernel_rfl) (by kernel_rfl) (fun _ _ _ h => h) hSt (Au.yq_load 34 (.tmp 2) rfl _ rfl (by rfl) (fun u hu => load_ow hu.own sD)) ?_
    simp only [Act.put, List.setIfInBounds_toArray, List.set_cons_zero, List.set_cons_succ]
    refine Au.take 2 (some 21) rfl rfl (by kernel_rfl) (by kernel_rfl) (by kernel_rfl) (fun _ _ _ h => h) hSt (Au.yq_call 18 _ (by rfl) (fun u => by go_simp) (fun u hu => HCS.out u hu)) ?_
    simp only [Act.put, List.setIfInBounds_toArray, List.set_cons_zero, List.set_cons_succ]
    refine Au.take 3 (some 22) (v := ?_) rfl rfl (by kernel_rfl) (by kernel_rfl) (by kernel_rfl) (fun _ _ _ h => h) hSt (Au.yq_run (by rfl) (fun u hu => ?_)) ?_
    rotate_left
    · (clear hu; go_simp; try with_reducible rfl)
    simp only [Act.put, List.setIfInBounds_toArray, List.set_cons_zero, List.set_cons_succ]
    refine Au.store 4 34 (.tmp 4) (.tmp 19) rfl (by kernel_rfl) (by kernel_rfl) rfl rfl (w.heap.size + 1) D rfl rfl 34 (fun u hu => by rw [sD]; exact hu.res) (by rw [sD]; exact info_ow) (oD) (At1 34 w D) (at1_stab) hSt (fun u hu => hu.row hFine D sD) (fun u hu => by obtain ⟨xs, h1, _⟩ := hu.res; exact setRow_heap _ _ xs _ _ _ h1) ?_
    refine Au.store 5 56 (.tmp 5) (.tmp 22) rfl (by kernel_rfl) (by kernel_rfl) rfl rfl (w.heap.size + 2) (actA 4 y 0) rfl rfl 56 (fun u hu => hu.1.act) (info_act) (act_one _ _ _) (At2 56 w (actA 4 y 0)) (at2_stab) (stab_and hSt at1_stab) (fun u hu => ⟨hu.1.row2 hFine (actA 4 y 0) rfl, (setRow_other _ _ _ _ (by omega)).trans hu.2⟩) (fun u hu => by obtain ⟨xs, h1, _⟩ := hu.1.act; exact setRow_heap _ _ xs _ _ _ h1) ?_
    refine Au.done (by kernel_rfl) ?_
    rintro u ⟨⟨hS6, hA6⟩, hB6⟩
    go_wp2_with fail
    refine bodyPost_ret (results_rows rfl _ _ (w.heap.size + 1) (w.heap.size + 2) 34 56 D (actA 4 y 0) (0, 0) (0, 0) _ _ rfl rfl hA6 hB6 Try.underlying34 rfl (by rw [sD]; exact info_ow) Try.underlying56 rfl info_act) rfl ?_
    exact ⟨q1, c1, by rw [hR, HY.out], hS6.mem.1, hS6.kept⟩

set_option maxRecDepth 100000 in
set_option maxHeartbeats 2000000 in
theorem step_1 {w : World} {q : Option Addr} {N c : Nat} {K : List Cl} {v : Value} {L : List Pg.Op} (o : Ow) (hv : Cls w (.slice q N c) K) (hl : K.length ≤ 800000) (hL : Pg.Ops w v L) (i : Nat) (x : Pg.Op) (hpc : o.pc = (i : Int)) (hx : L[i]? = some x) (hk : x.k = 1) (hdn : 0 ≤ o.dn ∧ o.dn ≤ 2000000) :
    Calls Try.prog 30 #[.agg (o.arr q N c), v] w (PostP w N K (workO o x.a, actA 0 0 0)) := by
  have hN : K.length = N := by obtain ⟨p, cap, e⟩ := hv.shape; cases e; rfl
  obtain ⟨p, M, cap, rfl, hM, hmM⟩ := hL.slice
  have hm2 : M ≤ 9223372036854775807 := by unfold maxLen at hmM; omega
  obtain ⟨A, hA⟩ : ∃ A, o.arr q N c = A := ⟨_, rfl⟩
  have sA : A.size = 19 := by rw [← hA]; rfl
  rw [hA]
  obtain ⟨W, hW⟩ : ∃ W, ((w.alloc (.cells A 34)).alloc (.cells zeroA 34)).alloc (.cells zact 56) = W := ⟨_, rfl⟩
  have hb : Bl w W [(A, 34), (zeroA, 34), (zact, 56)] := hW ▸ Bl.three w A _ _ _ _ _
  have hsz : W.heap.size = w.heap.size + 3 := by rw [← hW]; simp
  have la := load_ow (hb.blk 0 rfl) sA
  have HW := Lib.hid hW
  have C1 := Lib.hid (clone_any o (hv.go hb.kept) (by omega))
  rw [hA] at C1
  have HB := Lib.hid hb
  have HL := Lib.hid hL
  have HM := Lib.hid hM
  clear hW hb hv hA hL hM
  go_enter Try.func30, Try.ntmps30
  go_upto_region 1 with fail
  rw [show ((w.alloc (.cells A 34)).alloc (.cells #[.int .i64 0, .int .i64 0, .int .i64 0, .int .i64 0, .int .i64 0, .int .i64 0, .int .i64 0, .int .i64 0, .int .i64 0, .int .i64 0, .int .i64 0, .int .i64 0, .int .i64 0, .int .i64 0, .int .i64 0, .int .i64 0, .int .i64 0, .int .i64 0, .slice none 0 0] 34)).alloc (.cells #[.int .i64 0, .int .i64 0, .int .i64 0] 56) = W from HW.out]
  go_upto_region 2 with (first
    | (refine load_l 34 (.tmp 2) rfl _ rfl rfl (.agg A) la ?_)
    | (go_at_call 28; refine C1.out.mono ?_; rintro e w1 ⟨q1, c1, rfl, hr1, ho1, hk1⟩; obtain ⟨D, hD⟩ : ∃ D, o.arr q1 N c1 = D := ⟨_, rfl⟩; rw [hD]; have sD : D.size = 19 := (by rw [← hD]; rfl); have oD : D.all (·.oneCell') = true := (by rw [← hD]; exact arr_one _ _ _ _); have H1 := Lib.hid (And.intro hr1 (And.intro ho1 (And.intro hk1 hD))); clear hr1 ho1 hk1 hD)
    | (refine wpList_store_row rfl 34 (.tmp 2) (.tmp 8) rfl w.heap.size D rfl rfl 34 A ((HB.out.go H1.out.2.2.1).blk 0 rfl) (by rw [sD]; exact info_ow) (by rw [sD, sA]) oD ?_))
  obtain ⟨W2, hW2⟩ : ∃ W2, w1.setRow w.heap.size D = W2 := ⟨_, rfl⟩
  rw [hW2]
  have hb2 : Bl w W2 [(D, 34), (zeroA, 34), (zact, 56)] := by rw [← hW2]; exact (HB.out.go H1.out.2.2.1).row 0 rfl D
  have hr2 : Mc W2 (.slice q1 N c1) K := H1.out.1.kept fun g e => by
    have := H1.out.2.1 g e
    rw [← hW2]; exact setRow_other _ _ _ _ (by omega)
  have hfar : ∀ g, (Value.slice q1 N c1).ownBlock = some g → w.heap.size + 3 ≤ g := fun g e => by have := H1.out.2.1 g e; omega
  have hD := H1.out.2.2.2
  have c16 : W2.cell? ⟨w.heap.size, 16, none⟩ = some (.int .i64 o.pc) := (hb2.cell 0 16 rfl).trans (show D[16]? = _ by rw [← hD]; rfl)
  clear hW2 H1 HB C1 la
  have hi : i < M := by rw [← HM.out]; exact (List.getElem?_eq_some_iff.1 hx).1
  have hi0 : ¬ (i : Int) < 0 := by omega
  have hi1 : ¬ (M : Int) ≤ (i : Int) := by omega
  have hi2 : (i : Int) < (M : Int) := by omega
  obtain ⟨x', b, off, hx', rfl, d0, d1, d2⟩ := (HL.out.go hb2.kept).pick (i := i) (by rw [HM.out]; exact hi)
  rw [hx] at hx'
  cases hx'
  rw [hpc] at c16
  obtain ⟨k, a, bb⟩ := x
  simp only at hk
  subst hk
  have lop := load_op d0 d1 d2
  simp only at lop
  have hsz2 : w.heap.size + 3 ≤ W2.heap.size := hb2.size
  obtain ⟨W3, hW3⟩ : ∃ W3, W2.alloc (.cells #[.int .i64 1, .int .i64 a, .int .i64 bb] 64) = W3 := ⟨_, rfl⟩
  have hFine : Fine w (fun u => Mc u (.slice q1 N c1) K ∧ u.heap[W2.heap.size]? = some (.cells #[.int .i64 1, .int .i64 a, .int .i64 bb] 64 (0, 0))) := (mc_fine hfar).and (at_fine hsz2)
  have hSt : Stab (Sp 34 56 w D (fun u => Mc u (.slice q1 N c1) K ∧ u.heap[W2.heap.size]? = some (.cells #[.int .i64 1, .int .i64 a, .int .i64 bb] 64 (0, 0)))) := sp_stab hFine
  have hS3 : Sp 34 56 w D (fun u => Mc u (.slice q1 N c1) K ∧ u.heap[W2.heap.size]? = some (.cells #[.int .i64 1, .int .i64 a, .int .i64 bb] 64 (0, 0))) W3 := by
    have hk3 : Kept W2 W3 := by rw [← hW3]; exact Kept.one _ _
    exact ⟨hb2.kept.trans hk3, kept_at hk3 (hb2.blk 0 rfl), ⟨_, kept_at hk3 (hb2.blk 1 rfl), rfl⟩, ⟨_, kept_at hk3 (hb2.blk 2 rfl), rfl⟩, hr2.keep hk3, by rw [← hW3]; exact blk_new W2 _⟩
  have e0 : W3.cell? ⟨W2.heap.size, 0, none⟩ = some (.int .i64 1) := blk_cell hS3.mem.2 0
  have e1 : W3.cell? ⟨W2.heap.size, 1, none⟩ = some (.int .i64 a) := blk_cell hS3.mem.2 1
  have e2 : W3.cell? ⟨W2.heap.size, 2, none⟩ = some (.int .i64 bb) := blk_cell hS3.mem.2 2
  have lD := load_ow hS3.own sD
  have HS3 := Lib.hid hS3
  have HW3 := Lib.hid hW3
  clear hb2 hr2 hS3 hW3 d0 d1 d2 hx
  have hpc0 : 0 ≤ o.pc := by omega
  have hpc1 : o.pc < 9223372036854775807 := by omega
  have CN := fun u => worked_any o a hpc0 hpc1 hdn.1 hdn.2 q1 N c1 u
  rw [hD] at CN
  obtain ⟨R, hR⟩ : ∃ R, (workO o a).arr q1 N c1 = R := ⟨_, rfl⟩
  rw [hR] at CN
  have sR : R.size = 19 := by rw [← hR]; rfl
  have oR : R.all (·.oneCell') = true := by rw [← hR]; exact arr_one _ _ _ _
  have HCN := Lib.hid CN
  have HR := Lib.hid hR
  clear CN hR hD
  go_upto_region 7 with (first
    | (refine load_l 64 (.tmp 26) rfl _ rfl rfl _ lop ?_)
    | (refine store_new rfl 64 (.tmp 6) (.tmp 27) rfl W2.heap.size #[.int .i64 1, .int .i64 a, .int .i64 bb] rfl rfl _ _ rfl 3 info_op rfl rfl (by kernel_rfl) ?_; rw [HW3.out]))
  go_wp2_with (first
    | (refine load_l 34 (.tmp 2) rfl _ rfl rfl (.agg D) lD ?_)
    | (go_at_call 47; refine (HCN.out _).mono ?_; rintro e w4 ⟨rfl, k4⟩; have hS5 := HS3.out.go hFine k4)
    | (refine store_res hFine hS5 rfl (.tmp 4) (.tmp 35) rfl R rfl rfl info_ow sR oR ?_; intro u6 hS7 hA7)
    | (refine store_act hFine hS7 hA7 rfl (.tmp 5) (.tmp 36) rfl (actA 0 0 0) rfl rfl info_act rfl (act_one _ _ _) ?_; intro u7 hS6 hA6 hB6))
  refine bodyPost_ret (results_rows rfl _ _ (w.heap.size + 1) (w.heap.size + 2) 34 56 R (actA 0 0 0) (0, 0) (0, 0) _ _ rfl rfl hA6 hB6 Try.underlying34 rfl (by rw [sR]; exact info_ow) Try.underlying56 rfl info_act) rfl ?_
  exact ⟨q1, c1, by first | rw [hR] | rw [HR.out], hS6.mem.1, hS6.kept⟩

set_option maxRecDepth 100000 in
set_option maxHeartbeats 2000000 in
theorem step_2 {w : World} {q : Option Addr} {N c : Nat} {K : List Cl} {v : Value} {L : List Pg.Op} (o : Ow) (hv : Cls w (.slice q N c) K) (hl : K.length ≤ 800000) (hL : Pg.Ops w v L) (i : Nat) (x : Pg.Op) (hpc : o.pc = (i : Int)) (hx : L[i]? = some x) (hk : x.k = 2) :
    Calls Try.prog 30 #[.agg (o.arr q N c), v] w (PostP w N K (nextO o, actA 2 x.a x.b)) := by
  have hN : K.length = N := by obtain ⟨p, cap, e⟩ := hv.shape; cases e; rfl
  obtain ⟨p, M, cap, rfl, hM, hmM⟩ := hL.slice
  have hm2 : M ≤ 9223372036854775807 := by unfold maxLen at hmM; omega
  obtain ⟨A, hA⟩ : ∃ A, o.arr q N c = A := ⟨_, rfl⟩
  have sA : A.size = 19 := by rw [← hA]; rfl
  rw [hA]
  obtain ⟨W, hW⟩ : ∃ W, ((w.alloc (.cells A 34)).alloc (.cells zeroA 34)).alloc (.cells zact 56) = W := ⟨_, rfl⟩
  have hb : Bl w W [(A, 34), (zeroA, 34), (zact, 56)] := hW ▸ Bl.three w A _ _ _ _ _
  have hsz : W.heap.size = w.heap.size + 3 := by rw [← hW]; simp
  have la := load_ow (hb.blk 0 rfl) sA
  have HW := Lib.hid hW
  have C1 := Lib.hid (clone_any o (hv.go hb.kept) (by omega))
  rw [hA] at C1
  have HB := Lib.hid hb
  have HL := Lib.hid hL
  have HM := Lib.hid hM
  clear hW hb hv hA hL hM
  go_enter Try.func30, Try.ntmps30
  go_upto_region 1 with fail
  rw [show ((w.alloc (.cells A 34)).alloc (.cells #[.int .i64 0, .int .i64 0, .int .i64 0, .int .i64 0, .int .i64 0, .int .i64 0, .int .i64 0, .int .i64 0, .int .i64 0, .int .i64 0, .int .i64 0, .int .i64 0, .int .i64 0, .int .i64 0, .int .i64 0, .int .i64 0, .int .i64 0, .int .i64 0, .slice none 0 0] 34)).alloc (.cells #[.int .i64 0, .int .i64 0, .int .i64 0] 56) = W from HW.out]
  go_upto_region 2 with (first
    | (refine load_l 34 (.tmp 2) rfl _ rfl rfl (.agg A) la ?_)
    | (go_at_call 28; refine C1.out.mono ?_; rintro e w1 ⟨q1, c1, rfl, hr1, ho1, hk1⟩; obtain ⟨D, hD⟩ : ∃ D, o.arr q1 N c1 = D := ⟨_, rfl⟩; rw [hD]; have sD : D.size = 19 := (by rw [← hD]; rfl); have oD : D.all (·.oneCell') = true := (by rw [← hD]; exact arr_one _ _ _ _); have H1 := Lib.hid (And.intro hr1 (And.intro ho1 (And.intro hk1 hD))); clear hr1 ho1 hk1 hD)
    | (refine wpList_store_row rfl 34 (.tmp 2) (.tmp 8) rfl w.heap.size D rfl rfl 34 A ((HB.out.go H1.out.2.2.1).blk 0 rfl) (by rw [sD]; exact info_ow) (by rw [sD, sA]) oD ?_))
  obtain ⟨W2, hW2⟩ : ∃ W2, w1.setRow w.heap.size D = W2 := ⟨_, rfl⟩
  rw [hW2]
  have hb2 : Bl w W2 [(D, 34), (zeroA, 34), (zact, 56)] := by rw [← hW2]; exact (HB.out.go H1.out.2.2.1).row 0 rfl D
  have hr2 : Mc W2 (.slice q1 N c1) K := H1.out.1.kept fun g e => by
    have := H1.out.2.1 g e
    rw [← hW2]; exact setRow_other _ _ _ _ (by omega)
  have hfar : ∀ g, (Value.slice q1 N c1).ownBlock = some g → w.heap.size + 3 ≤ g := fun g e => by have := H1.out.2.1 g e; omega
  have hD := H1.out.2.2.2
  have c16 : W2.cell? ⟨w.heap.size, 16, none⟩ = some (.int .i64 o.pc) := (hb2.cell 0 16 rfl).trans (show D[16]? = _ by rw [← hD]; rfl)
  clear hW2 H1 HB C1 la
  have hi : i < M := by rw [← HM.out]; exact (List.getElem?_eq_some_iff.1 hx).1
  have hi0 : ¬ (i : Int) < 0 := by omega
  have hi1 : ¬ (M : Int) ≤ (i : Int) := by omega
  have hi2 : (i : Int) < (M : Int) := by omega
  obtain ⟨x', b, off, hx', rfl, d0, d1, d2⟩ := (HL.out.go hb2.kept).pick (i := i) (by rw [HM.out]; exact hi)
  rw [hx] at hx'
  cases hx'
  rw [hpc] at c16
  obtain ⟨k, a, bb⟩ := x
  simp only at hk
  subst hk
  have lop := load_op d0 d1 d2
  simp only at lop
  have hsz2 : w.heap.size + 3 ≤ W2.heap.size := hb2.size
  obtain ⟨W3, hW3⟩ : ∃ W3, W2.alloc (.cells #[.int .i64 2, .int .i64 a, .int .i64 bb] 64) = W3 := ⟨_, rfl⟩
  have hFine : Fine w (fun u => Mc u (.slice q1 N c1) K ∧ u.heap[W2.heap.size]? = some (.cells #[.int .i64 2, .int .i64 a, .int .i64 bb] 64 (0, 0))) := (mc_fine hfar).and (at_fine hsz2)
  have hSt : Stab (Sp 34 56 w D (fun u => Mc u (.slice q1 N c1) K ∧ u.heap[W2.heap.size]? = some (.cells #[.int .i64 2, .int .i64 a, .int .i64 bb] 64 (0, 0)))) := sp_stab hFine
  have hS3 : Sp 34 56 w D (fun u => Mc u (.slice q1 N c1) K ∧ u.heap[W2.heap.size]? = some (.cells #[.int .i64 2, .int .i64 a, .int .i64 bb] 64 (0, 0))) W3 := by
    have hk3 : Kept W2 W3 := by rw [← hW3]; exact Kept.one _ _
    exact ⟨hb2.kept.trans hk3, kept_at hk3 (hb2.blk 0 rfl), ⟨_, kept_at hk3 (hb2.blk 1 rfl), rfl⟩, ⟨_, kept_at hk3 (hb2.blk 2 rfl), rfl⟩, hr2.keep hk3, by rw [← hW3]; exact blk_new W2 _⟩
  have e0 : W3.cell? ⟨W2.heap.size, 0, none⟩ = some (.int .i64 2) := blk_cell hS3.mem.2 0
  have e1 : W3.cell? ⟨W2.heap.size, 1, none⟩ = some (.int .i64 a) := blk_cell hS3.mem.2 1
  have e2 : W3.cell? ⟨W2.heap.size, 2, none⟩ = some (.int .i64 bb) := blk_cell hS3.mem.2 2
  have lD := load_ow hS3.own sD
  have HS3 := Lib.hid hS3
  have HW3 := Lib.hid hW3
  clear hb2 hr2 hS3 hW3 d0 d1 d2 hx
  have hpc0 : 0 ≤ o.pc := by omega
  have hpc1 : o.pc < 9223372036854775807 := by omega
  have CN := fun u => next_any o hpc0 hpc1 q1 N c1 u
  rw [hD] at CN
  obtain ⟨R, hR⟩ : ∃ R, (nextO o).arr q1 N c1 = R := ⟨_, rfl⟩
  rw [hR] at CN
  have sR : R.size = 19 := by rw [← hR]; rfl
  have oR : R.all (·.oneCell') = true := by rw [← hR]; exact arr_one _ _ _ _
  have HCN := Lib.hid CN
  have HR := Lib.hid hR
  clear CN hR hD
  go_upto_region 9 with (first
    | (refine load_l 64 (.tmp 26) rfl _ rfl rfl _ lop ?_)
    | (refine store_new rfl 64 (.tmp 6) (.tmp 27) rfl W2.heap.size #[.int .i64 2, .int .i64 a, .int .i64 bb] rfl rfl _ _ rfl 3 info_op rfl rfl (by kernel_rfl) ?_; rw [HW3.out]))
  refine Au.region (Sp 34 56 w D (fun u => Mc u (.slice q1 N c1) K ∧ u.heap[W2.heap.size]? = some (.cells #[.int .i64 2, .int .i64 a, .int .i64 bb] 64 (0, 0)))) (by kernel_rfl) (HS3.out.go hFine (Kept.refl _).drew) ?_
  refine Au.take 0 (some 39) rfl rfl (by kernel_rfl) (by kernel_rfl) (by kernel_rfl) (fun _ _ _ h => h) hSt (Au.yq_load 34 (.tmp 2) rfl _ rfl (by rfl) (fun u hu => load_ow hu.own sD)) ?_
  simp only [Act.put, List.setIfInBounds_toArray, List.set_cons_zero, List.set_cons_succ]
  refine Au.take 1 (some 40) rfl rfl (by kernel_rfl) (by kernel_rfl) (by kernel_rfl) (fun _ _ _ h => h) hSt (Au.yq_call 48 _ (by rfl) (fun u => by go_simp) (fun u hu => HCN.out u)) ?_
  simp only [Act.put, List.setIfInBounds_toArray, List.set_cons_zero, List.set_cons_succ]
  refine Au.take 2 (some 41) (v := ?_) rfl rfl (by kernel_rfl) (by kernel_rfl) (by kernel_rfl) (fun _ _ _ h => h) hSt (Au.yq_run (by rfl) (fun u hu => ?_)) ?_
  rotate_left
  · (clear hu; go_simp; try with_reducible rfl)
  simp only [Act.put, List.setIfInBounds_toArray, List.set_cons_zero, List.set_cons_succ]
  refine Au.take 3 (some 42) rfl rfl (by kernel_rfl) (by kernel_rfl) (by kernel_rfl) (fun _ _ _ h => h) hSt (Au.yq_load 3 (.tmp 41) rfl _ rfl (by rfl) (fun u hu => Ad.run_loadi (blk_cell hu.mem.2 1))) ?_
  simp only [Act.put, List.setIfInBounds_toArray, List.set_cons_zero, List.set_cons_succ]
  refine Au.take 4 (some 43) (v := ?_) rfl rfl (by kernel_rfl) (by kernel_rfl) (by kernel_rfl) (fun _ _ _ h => h) hSt (Au.yq_run (by rfl) (fun u hu => ?_)) ?_
  rotate_left
  · (clear hu; go_simp; try with_reducible rfl)
  simp only [Act.put, List.setIfInBounds_toArray, List.set_cons_zero, List.set_cons_succ]
  refine Au.take 5 (some 44) rfl rfl (by kernel_rfl) (by kernel_rfl) (by kernel_rfl) (fun _ _ _ h => h) hSt (Au.yq_load 3 (.tmp 43) rfl _ rfl (by rfl) (fun u hu => Ad.run_loadi (blk_cell hu.mem.2 2))) ?_
  simp only [Act.put, List.setIfInBounds_toArray, List.set_cons_zero, List.set_cons_succ]
  refine Au.take 6 (some 45) (v := ?_) rfl rfl (by kernel_rfl) (by kernel_rfl) (by kernel_rfl) (fun _ _ _ h => h) hSt (Au.yq_run (by rfl) (fun u hu => ?_)) ?_
  rotate_left
  · (clear hu; go_simp; try with_reducible rfl)
  simp only [Act.put, List.setIfInBounds_toArray, List.set_cons_zero, List.set_cons_succ]
  refine Au.store 7 34 (.tmp 4) (.tmp 40) rfl (by kernel_rfl) (by kernel_rfl) rfl rfl (w.heap.size + 1) R rfl rfl 34 (fun u hu => by rw [sR]; exact hu.res) (by rw [sR]; exact info_ow) (oR) (At1 34 w R) (at1_stab) hSt (fun u hu => hu.row hFine R sR) (fun u hu => by obtain ⟨xs, h1, _⟩ := hu.res; exact setRow_heap _ _ xs _ _ _ h1) ?_
  refine Au.store 8 56 (.tmp 5) (.tmp 45) rfl (by kernel_rfl) (by kernel_rfl) rfl rfl (w.heap.size + 2) (actA 2 a bb) rfl rfl 56 (fun u hu => hu.1.act) (info_act) (act_one _ _ _) (At2 56 w (actA 2 a bb)) (at2_stab) (stab_and hSt at1_stab) (fun u hu => ⟨hu.1.row2 hFine (actA 2 a bb) rfl, (setRow_other _ _ _ _ (by omega)).trans hu.2⟩) (fun u hu => by obtain ⟨xs, h1, _⟩ := hu.1.act; exact setRow_heap _ _ xs _ _ _ h1) ?_
  refine Au.done (by kernel_rfl) ?_
  rintro u ⟨⟨hS6, hA6⟩, hB6⟩
  go_wp2_with fail
  refine bodyPost_ret (results_rows rfl _ _ (w.heap.size + 1) (w.heap.size + 2) 34 56 R (actA 2 a bb) (0, 0) (0, 0) _ _ rfl rfl hA6 hB6 Try.underlying34 rfl (by rw [sR]; exact info_ow) Try.underlying56 rfl info_act) rfl ?_
  exact ⟨q1, c1, by first | rw [hR] | rw [HR.out], hS6.mem.1, hS6.kept⟩

set_option maxRecDepth 100000 in
set_option maxHeartbeats 2000000 in
theorem step_3 {w : World} {q : Option Addr} {N c : Nat} {K : List Cl} {v : Value} {L : List Pg.Op} (o : Ow) (hv : Cls w (.slice q N c) K) (hl : K.length ≤ 800000) (hL : Pg.Ops w v L) (i : Nat) (x : Pg.Op) (hpc : o.pc = (i : Int)) (hx : L[i]? = some x) (hk : x.k = 3) :
    Calls Try.prog 30 #[.agg (o.arr q N c), v] w (PostP w N K (joinO o K)) := by
  have hN : K.length = N := by obtain ⟨p, cap, e⟩ := hv.shape; cases e; rfl
  obtain ⟨p, M, cap, rfl, hM, hmM⟩ := hL.slice
  have hm2 : M ≤ 9223372036854775807 := by unfold maxLen at hmM; omega
  obtain ⟨A, hA⟩ : ∃ A, o.arr q N c = A := ⟨_, rfl⟩
  have sA : A.size = 19 := by rw [← hA]; rfl
  rw [hA]
  obtain ⟨W, hW⟩ : ∃ W, ((w.alloc (.cells A 34)).alloc (.cells zeroA 34)).alloc (.cells zact 56) = W := ⟨_, rfl⟩
  have hb : Bl w W [(A, 34), (zeroA, 34), (zact, 56)] := hW ▸ Bl.three w A _ _ _ _ _
  have hsz : W.heap.size = w.heap.size + 3 := by rw [← hW]; simp
  have la := load_ow (hb.blk 0 rfl) sA
  have HW := Lib.hid hW
  have C1 := Lib.hid (clone_any o (hv.go hb.kept) (by omega))
  rw [hA] at C1
  have HB := Lib.hid hb
  have HL := Lib.hid hL
  have HM := Lib.hid hM
  clear hW hb hv hA hL hM
  go_enter Try.func30, Try.ntmps30
  go_upto_region 1 with fail
  rw [show ((w.alloc (.cells A 34)).alloc (.cells #[.int .i64 0, .int .i64 0, .int .i64 0, .int .i64 0, .int .i64 0, .int .i64 0, .int .i64 0, .int .i64 0, .int .i64 0, .int .i64 0, .int .i64 0, .int .i64 0, .int .i64 0, .int .i64 0, .int .i64 0, .int .i64 0, .int .i64 0, .int .i64 0, .slice none 0 0] 34)).alloc (.cells #[.int .i64 0, .int .i64 0, .int .i64 0] 56) = W from HW.out]
  go_upto_region 2 with (first
    | (refine load_l 34 (.tmp 2) rfl _ rfl rfl (.agg A) la ?_)
    | (go_at_call 28; refine C1.out.mono ?_; rintro e w1 ⟨q1, c1, rfl, hr1, ho1, hk1⟩; obtain ⟨D, hD⟩ : ∃ D, o.arr q1 N c1 = D := ⟨_, rfl⟩; rw [hD]; have sD : D.size = 19 := (by rw [← hD]; rfl); have oD : D.all (·.oneCell') = true := (by rw [← hD]; exact arr_one _ _ _ _); have H1 := Lib.hid (And.intro hr1 (And.intro ho1 (And.intro hk1 hD))); clear hr1 ho1 hk1 hD)
    | (refine wpList_store_row rfl 34 (.tmp 2) (.tmp 8) rfl w.heap.size D rfl rfl 34 A ((HB.out.go H1.out.2.2.1).blk 0 rfl) (by rw [sD]; exact info_ow) (by rw [sD, sA]) oD ?_))
  obtain ⟨W2, hW2⟩ : ∃ W2, w1.setRow w.heap.size D = W2 := ⟨_, rfl⟩
  rw [hW2]
  have hb2 : Bl w W2 [(D, 34), (zeroA, 34), (zact, 56)] := by rw [← hW2]; exact (HB.out.go H1.out.2.2.1).row 0 rfl D
  have hr2 : Mc W2 (.slice q1 N c1) K := H1.out.1.kept fun g e => by
    have := H1.out.2.1 g e
    rw [← hW2]; exact setRow_other _ _ _ _ (by omega)
  have hfar : ∀ g, (Value.slice q1 N c1).ownBlock = some g → w.heap.size + 3 ≤ g := fun g e => by have := H1.out.2.1 g e; omega
  have hD := H1.out.2.2.2
  have c16 : W2.cell? ⟨w.heap.size, 16, none⟩ = some (.int .i64 o.pc) := (hb2.cell 0 16 rfl).trans (show D[16]? = _ by rw [← hD]; rfl)
  clear hW2 H1 HB C1 la
  have hi : i < M := by rw [← HM.out]; exact (List.getElem?_eq_some_iff.1 hx).1
  have hi0 : ¬ (i : Int) < 0 := by omega
  have hi1 : ¬ (M : Int) ≤ (i : Int) := by omega
  have hi2 : (i : Int) < (M : Int) := by omega
  obtain ⟨x', b, off, hx', rfl, d0, d1, d2⟩ := (HL.out.go hb2.kept).pick (i := i) (by rw [HM.out]; exact hi)
  rw [hx] at hx'
  cases hx'
  rw [hpc] at c16
  obtain ⟨k, a, bb⟩ := x
  simp only at hk
  subst hk
  have lop := load_op d0 d1 d2
  simp only at lop
  have hsz2 : w.heap.size + 3 ≤ W2.heap.size := hb2.size
  obtain ⟨W3, hW3⟩ : ∃ W3, W2.alloc (.cells #[.int .i64 3, .int .i64 a, .int .i64 bb] 64) = W3 := ⟨_, rfl⟩
  have hFine : Fine w (fun u => Mc u (.slice q1 N c1) K ∧ u.heap[W2.heap.size]? = some (.cells #[.int .i64 3, .int .i64 a, .int .i64 bb] 64 (0, 0))) := (mc_fine hfar).and (at_fine hsz2)
  have hSt : Stab (Sp 34 56 w D (fun u => Mc u (.slice q1 N c1) K ∧ u.heap[W2.heap.size]? = some (.cells #[.int .i64 3, .int .i64 a, .int .i64 bb] 64 (0, 0)))) := sp_stab hFine
  have hS3 : Sp 34 56 w D (fun u => Mc u (.slice q1 N c1) K ∧ u.heap[W2.heap.size]? = some (.cells #[.int .i64 3, .int .i64 a, .int .i64 bb] 64 (0, 0))) W3 := by
    have hk3 : Kept W2 W3 := by rw [← hW3]; exact Kept.one _ _
    exact ⟨hb2.kept.trans hk3, kept_at hk3 (hb2.blk 0 rfl), ⟨_, kept_at hk3 (hb2.blk 1 rfl), rfl⟩, ⟨_, kept_at hk3 (hb2.blk 2 rfl), rfl⟩, hr2.keep hk3, by rw [← hW3]; exact blk_new W2 _⟩
  have e0 : W3.cell? ⟨W2.heap.size, 0, none⟩ = some (.int .i64 3) := blk_cell hS3.mem.2 0
  have e1 : W3.cell? ⟨W2.heap.size, 1, none⟩ = some (.int .i64 a) := blk_cell hS3.mem.2 1
  have e2 : W3.cell? ⟨W2.heap.size, 2, none⟩ = some (.int .i64 bb) := blk_cell hS3.mem.2 2
  have lD := load_ow hS3.own sD
  have HS3 := Lib.hid hS3
  have HW3 := Lib.hid hW3
  clear hb2 hr2 hS3 hW3 d0 d1 d2 hx
  have hpc0 : 0 ≤ o.pc := by omega
  have hpc1 : o.pc < 9223372036854775807 := by omega
  have CN := joined_any o hpc0 hpc1 (mc_cls HS3.out.mem.1 (by omega))
  rw [hD] at CN
  obtain ⟨R, hR⟩ : ∃ R, (joinO o K).1.arr q1 N c1 = R := ⟨_, rfl⟩
  obtain ⟨Y, hY⟩ : ∃ Y, (joinO o K).2 = Y := ⟨_, rfl⟩
  have sR : R.size = 19 := by rw [← hR]; rfl
  have oR : R.all (·.oneCell') = true := by rw [← hR]; exact arr_one _ _ _ _
  have sY : Y.size = 3 ∧ Y.all (·.oneCell') = true := by rw [← hY]; unfold joinO; split; exact ⟨rfl, act_one _ _ _⟩; split; exact ⟨rfl, act_one _ _ _⟩; exact ⟨rfl, act_one _ _ _⟩
  obtain ⟨sY, oY⟩ := sY
  rw [hR, hY] at CN
  have HCN := Lib.hid CN
  have HR := Lib.hid (And.intro hR hY)
  clear CN hR hD hY
  go_upto_region 11 with (first
    | (refine load_l 64 (.tmp 26) rfl _ rfl rfl _ lop ?_)
    | (refine store_new rfl 64 (.tmp 6) (.tmp 27) rfl W2.heap.size #[.int .i64 3, .int .i64 a, .int .i64 bb] rfl rfl _ _ rfl 3 info_op rfl rfl (by kernel_rfl) ?_; rw [HW3.out]))
  go_wp2_with (first
    | (refine load_l 34 (.tmp 2) rfl _ rfl rfl (.agg D) lD ?_)
    | (go_at_call 49; refine HCN.out.mono ?_; rintro e w4 ⟨rfl, k4⟩; have hS5 := HS3.out.go hFine k4)
    | (refine store_res hFine hS5 rfl (.tmp 4) (.tmp 50) rfl R rfl rfl info_ow sR oR ?_; intro u6 hS7 hA7)
    | (refine store_act hFine hS7 hA7 rfl (.tmp 5) (.tmp 51) rfl Y rfl rfl info_act sY oY ?_; intro u7 hS6 hA6 hB6))
  refine bodyPost_ret (results_rows rfl _ _ (w.heap.size + 1) (w.heap.size + 2) 34 56 R (Y) (0, 0) (0, 0) _ _ rfl rfl hA6 hB6 Try.underlying34 rfl (by rw [sR]; exact info_ow) Try.underlying56 rfl (by rw [sY]; exact info_act)) rfl ?_
  exact ⟨q1, c1, by rw [HR.out.1, HR.out.2], hS6.mem.1, hS6.kept⟩

set_option maxRecDepth 100000 in
set_option maxHeartbeats 2000000 in
theorem step_4 {w : World} {q : Option Addr} {N c : Nat} {K : List Cl} {v : Value} {L : List Pg.Op} (o : Ow) (hv : Cls w (.slice q N c) K) (hl : K.length ≤ 800000) (hL : Pg.Ops w v L) (i : Nat) (x : Pg.Op) (hpc : o.pc = (i : Int)) (hx : L[i]? = some x) (hk : x.k = 4) :
    Calls Try.prog 30 #[.agg (o.arr q N c), v] w (PostP w N K (nextO o, actA 3 0 0)) := by
  have hN : K.length = N := by obtain ⟨p, cap, e⟩ := hv.shape; cases e; rfl
  obtain ⟨p, M, cap, rfl, hM, hmM⟩ := hL.slice
  have hm2 : M ≤ 9223372036854775807 := by unfold maxLen at hmM; omega
  obtain ⟨A, hA⟩ : ∃ A, o.arr q N c = A := ⟨_, rfl⟩
  have sA : A.size = 19 := by rw [← hA]; rfl
  rw [hA]
  obtain ⟨W, hW⟩ : ∃ W, ((w.alloc (.cells A 34)).alloc (.cells zeroA 34)).alloc (.cells zact 56) = W := ⟨_, rfl⟩
  have hb : Bl w W [(A, 34), (zeroA, 34), (zact, 56)] := hW ▸ Bl.three w A _ _ _ _ _
  have hsz : W.heap.size = w.heap.size + 3 := by rw [← hW]; simp
  have la := load_ow (hb.blk 0 rfl) sA
  have HW := Lib.hid hW
  have C1 := Lib.hid (clone_any o (hv.go hb.kept) (by omega))
  rw [hA] at C1
  have HB := Lib.hid hb
  have HL := Lib.hid hL
  have HM := Lib.hid hM
  clear hW hb hv hA hL hM
  go_enter Try.func30, Try.ntmps30
  go_upto_region 1 with fail
  rw [show ((w.alloc (.cells A 34)).alloc (.cells #[.int .i64 0, .int .i64 0, .int .i64 0, .int .i64 0, .int .i64 0, .int .i64 0, .int .i64 0, .int .i64 0, .int .i64 0, .int .i64 0, .int .i64 0, .int .i64 0, .int .i64 0, .int .i64 0, .int .i64 0, .int .i64 0, .int .i64 0, .int .i64 0, .slice none 0 0] 34)).alloc (.cells #[.int .i64 0, .int .i64 0, .int .i64 0] 56) = W from HW.out]
  go_upto_region 2 with (first
    | (refine load_l 34 (.tmp 2) rfl _ rfl rfl (.agg A) la ?_)
    | (go_at_call 28; refine C1.out.mono ?_; rintro e w1 ⟨q1, c1, rfl, hr1, ho1, hk1⟩; obtain ⟨D, hD⟩ : ∃ D, o.arr q1 N c1 = D := ⟨_, rfl⟩; rw [hD]; have sD : D.size = 19 := (by rw [← hD]; rfl); have oD : D.all (·.oneCell') = true := (by rw [← hD]; exact arr_one _ _ _ _); have H1 := Lib.hid (And.intro hr1 (And.intro ho1 (And.intro hk1 hD))); clear hr1 ho1 hk1 hD)
    | (refine wpList_store_row rfl 34 (.tmp 2) (.tmp 8) rfl w.heap.size D rfl rfl 34 A ((HB.out.go H1.out.2.2.1).blk 0 rfl) (by rw [sD]; exact info_ow) (by rw [sD, sA]) oD ?_))
  obtain ⟨W2, hW2⟩ : ∃ W2, w1.setRow w.heap.size D = W2 := ⟨_, rfl⟩
  rw [hW2]
  have hb2 : Bl w W2 [(D, 34), (zeroA, 34), (zact, 56)] := by rw [← hW2]; exact (HB.out.go H1.out.2.2.1).row 0 rfl D
  have hr2 : Mc W2 (.slice q1 N c1) K := H1.out.1.kept fun g e => by
    have := H1.out.2.1 g e
    rw [← hW2]; exact setRow_other _ _ _ _ (by omega)
  have hfar : ∀ g, (Value.slice q1 N c1).ownBlock = some g → w.heap.size + 3 ≤ g := fun g e => by have := H1.out.2.1 g e; omega
  have hD := H1.out.2.2.2
  have c16 : W2.cell? ⟨w.heap.size, 16, none⟩ = some (.int .i64 o.pc) := (hb2.cell 0 16 rfl).trans (show D[16]? = _ by rw [← hD]; rfl)
  clear hW2 H1 HB C1 la
  have hi : i < M := by rw [← HM.out]; exact (List.getElem?_eq_some_iff.1 hx).1
  have hi0 : ¬ (i : Int) < 0 := by omega
  have hi1 : ¬ (M : Int) ≤ (i : Int) := by omega
  have hi2 : (i : Int) < (M : Int) := by omega
  obtain ⟨x', b, off, hx', rfl, d0, d1, d2⟩ := (HL.out.go hb2.kept).pick (i := i) (by rw [HM.out]; exact hi)
  rw [hx] at hx'
  cases hx'
  rw [hpc] at c16
  obtain ⟨k, a, bb⟩ := x
  simp only at hk
  subst hk
  have lop := load_op d0 d1 d2
  simp only at lop
  have hsz2 : w.heap.size + 3 ≤ W2.heap.size := hb2.size
  obtain ⟨W3, hW3⟩ : ∃ W3, W2.alloc (.cells #[.int .i64 4, .int .i64 a, .int .i64 bb] 64) = W3 := ⟨_, rfl⟩
  have hFine : Fine w (fun u => Mc u (.slice q1 N c1) K ∧ u.heap[W2.heap.size]? = some (.cells #[.int .i64 4, .int .i64 a, .int .i64 bb] 64 (0, 0))) := (mc_fine hfar).and (at_fine hsz2)
  have hSt : Stab (Sp 34 56 w D (fun u => Mc u (.slice q1 N c1) K ∧ u.heap[W2.heap.size]? = some (.cells #[.int .i64 4, .int .i64 a, .int .i64 bb] 64 (0, 0)))) := sp_stab hFine
  have hS3 : Sp 34 56 w D (fun u => Mc u (.slice q1 N c1) K ∧ u.heap[W2.heap.size]? = some (.cells #[.int .i64 4, .int .i64 a, .int .i64 bb] 64 (0, 0))) W3 := by
    have hk3 : Kept W2 W3 := by rw [← hW3]; exact Kept.one _ _
    exact ⟨hb2.kept.trans hk3, kept_at hk3 (hb2.blk 0 rfl), ⟨_, kept_at hk3 (hb2.blk 1 rfl), rfl⟩, ⟨_, kept_at hk3 (hb2.blk 2 rfl), rfl⟩, hr2.keep hk3, by rw [← hW3]; exact blk_new W2 _⟩
  have e0 : W3.cell? ⟨W2.heap.size, 0, none⟩ = some (.int .i64 4) := blk_cell hS3.mem.2 0
  have e1 : W3.cell? ⟨W2.heap.size, 1, none⟩ = some (.int .i64 a) := blk_cell hS3.mem.2 1
  have e2 : W3.cell? ⟨W2.heap.size, 2, none⟩ = some (.int .i64 bb) := blk_cell hS3.mem.2 2
  have lD := load_ow hS3.own sD
  have HS3 := Lib.hid hS3
  have HW3 := Lib.hid hW3
  clear hb2 hr2 hS3 hW3 d0 d1 d2 hx
  have hpc0 : 0 ≤ o.pc := by omega
  have hpc1 : o.pc < 9223372036854775807 := by omega
  have CN := fun u => next_any o hpc0 hpc1 q1 N c1 u
  rw [hD] at CN
  obtain ⟨R, hR⟩ : ∃ R, (nextO o).arr q1 N c1 = R := ⟨_, rfl⟩
  rw [hR] at CN
  have sR : R.size = 19 := by rw [← hR]; rfl
  have oR : R.all (·.oneCell') = true := by rw [← hR]; exact arr_one _ _ _ _
  have HCN := Lib.hid CN
  have HR := Lib.hid hR
  clear CN hR hD
  go_upto_region 13 with (first
    | (refine load_l 64 (.tmp 26) rfl _ rfl rfl _ lop ?_)
    | (refine store_new rfl 64 (.tmp 6) (.tmp 27) rfl W2.heap.size #[.int .i64 4, .int .i64 a, .int .i64 bb] rfl rfl _ _ rfl 3 info_op rfl rfl (by kernel_rfl) ?_; rw [HW3.out]))
  go_wp2_with (first
    | (refine load_l 34 (.tmp 2) rfl _ rfl rfl (.agg D) lD ?_)
    | (go_at_call 48; refine (HCN.out _).mono ?_; rintro e w4 ⟨rfl, k4⟩; have hS5 := HS3.out.go hFine k4)
    | (refine store_res hFine hS5 rfl (.tmp 4) (.tmp 55) rfl R rfl rfl info_ow sR oR ?_; intro u6 hS7 hA7)
    | (refine store_act hFine hS7 hA7 rfl (.tmp 5) (.tmp 56) rfl (actA 3 0 0) rfl rfl info_act rfl (act_one _ _ _) ?_; intro u7 hS6 hA6 hB6))
  refine bodyPost_ret (results_rows rfl _ _ (w.heap.size + 1) (w.heap.size + 2) 34 56 R (actA 3 0 0) (0, 0) (0, 0) _ _ rfl rfl hA6 hB6 Try.underlying34 rfl (by rw [sR]; exact info_ow) Try.underlying56 rfl info_act) rfl ?_
  exact ⟨q1, c1, by first | rw [hR] | rw [HR.out], hS6.mem.1, hS6.kept⟩

set_option maxRecDepth 100000 in
set_option maxHeartbeats 2000000 in
theorem step_5 {w : World} {q : Option Addr} {N c : Nat} {K : List Cl} {v : Value} {L : List Pg.Op} (o : Ow) (hv : Cls w (.slice q N c) K) (hl : K.length ≤ 800000) (hL : Pg.Ops w v L) (i : Nat) (x : Pg.Op) (hpc : o.pc = (i : Int)) (hx : L[i]? = some x) (hk : x.k = 5) :
    Calls Try.prog 30 #[.agg (o.arr q N c), v] w (PostP w N K (o, actA 4 (sumL K x.a) 0)) := by
  have hN : K.length = N := by obtain ⟨p, cap, e⟩ := hv.shape; cases e; rfl
  obtain ⟨p, M, cap, rfl, hM, hmM⟩ := hL.slice
  have hm2 : M ≤ 9223372036854775807 := by unfold maxLen at hmM; omega
  obtain ⟨A, hA⟩ : ∃ A, o.arr q N c = A := ⟨_, rfl⟩
  have sA : A.size = 19 := by rw [← hA]; rfl
  rw [hA]
  obtain ⟨W, hW⟩ : ∃ W, ((w.alloc (.cells A 34)).alloc (.cells zeroA 34)).alloc (.cells zact 56) = W := ⟨_, rfl⟩
  have hb : Bl w W [(A, 34), (zeroA, 34), (zact, 56)] := hW ▸ Bl.three w A _ _ _ _ _
  have hsz : W.heap.size = w.heap.size + 3 := by rw [← hW]; simp
  have la := load_ow (hb.blk 0 rfl) sA
  have HW := Lib.hid hW
  have C1 := Lib.hid (clone_any o (hv.go hb.kept) (by omega))
  rw [hA] at C1
  have HB := Lib.hid hb
  have HL := Lib.hid hL
  have HM := Lib.hid hM
  clear hW hb hv hA hL hM
  go_enter Try.func30, Try.ntmps30
  go_upto_region 1 with fail
  rw [show ((w.alloc (.cells A 34)).alloc (.cells #[.int .i64 0, .int .i64 0, .int .i64 0, .int .i64 0, .int .i64 0, .int .i64 0, .int .i64 0, .int .i64 0, .int .i64 0, .int .i64 0, .int .i64 0, .int .i64 0, .int .i64 0, .int .i64 0, .int .i64 0, .int .i64 0, .int .i64 0, .int .i64 0, .slice none 0 0] 34)).alloc (.cells #[.int .i64 0, .int .i64 0, .int .i64 0] 56) = W from HW.out]
  go_upto_region 2 with (first
    | (refine load_l 34 (.tmp 2) rfl _ rfl rfl (.agg A) la ?_)
    | (go_at_call 28; refine C1.out.mono ?_; rintro e w1 ⟨q1, c1, rfl, hr1, ho1, hk1⟩; obtain ⟨D, hD⟩ : ∃ D, o.arr q1 N c1 = D := ⟨_, rfl⟩; rw [hD]; have sD : D.size = 19 := (by rw [← hD]; rfl); have oD : D.all (·.oneCell') = true := (by rw [← hD]; exact arr_one _ _ _ _); have H1 := Lib.hid (And.intro hr1 (And.intro ho1 (And.intro hk1 hD))); clear hr1 ho1 hk1 hD)
    | (refine wpList_store_row rfl 34 (.tmp 2) (.tmp 8) rfl w.heap.size D rfl rfl 34 A ((HB.out.go H1.out.2.2.1).blk 0 rfl) (by rw [sD]; exact info_ow) (by rw [sD, sA]) oD ?_))
  obtain ⟨W2, hW2⟩ : ∃ W2, w1.setRow w.heap.size D = W2 := ⟨_, rfl⟩
  rw [hW2]
  have hb2 : Bl w W2 [(D, 34), (zeroA, 34), (zact, 56)] := by rw [← hW2]; exact (HB.out.go H1.out.2.2.1).row 0 rfl D
  have hr2 : Mc W2 (.slice q1 N c1) K := H1.out.1.kept fun g e => by
    have := H1.out.2.1 g e
    rw [← hW2]; exact setRow_other _ _ _ _ (by omega)
  have hfar : ∀ g, (Value.slice q1 N c1).ownBlock = some g → w.heap.size + 3 ≤ g := fun g e => by have := H1.out.2.1 g e; omega
  have hD := H1.out.2.2.2
  have c16 : W2.cell? ⟨w.heap.size, 16, none⟩ = some (.int .i64 o.pc) := (hb2.cell 0 16 rfl).trans (show D[16]? = _ by rw [← hD]; rfl)
  clear hW2 H1 HB C1 la
  have hi : i < M := by rw [← HM.out]; exact (List.getElem?_eq_some_iff.1 hx).1
  have hi0 : ¬ (i : Int) < 0 := by omega
  have hi1 : ¬ (M : Int) ≤ (i : Int) := by omega
  have hi2 : (i : Int) < (M : Int) := by omega
  obtain ⟨x', b, off, hx', rfl, d0, d1, d2⟩ := (HL.out.go hb2.kept).pick (i := i) (by rw [HM.out]; exact hi)
  rw [hx] at hx'
  cases hx'
  rw [hpc] at c16
  obtain ⟨k, a, bb⟩ := x
  simp only at hk
  subst hk
  have lop := load_op d0 d1 d2
  simp only at lop
  have hsz2 : w.heap.size + 3 ≤ W2.heap.size := hb2.size
  obtain ⟨W3, hW3⟩ : ∃ W3, W2.alloc (.cells #[.int .i64 5, .int .i64 a, .int .i64 bb] 64) = W3 := ⟨_, rfl⟩
  have hFine : Fine w (fun u => Mc u (.slice q1 N c1) K ∧ u.heap[W2.heap.size]? = some (.cells #[.int .i64 5, .int .i64 a, .int .i64 bb] 64 (0, 0))) := (mc_fine hfar).and (at_fine hsz2)
  have hSt : Stab (Sp 34 56 w D (fun u => Mc u (.slice q1 N c1) K ∧ u.heap[W2.heap.size]? = some (.cells #[.int .i64 5, .int .i64 a, .int .i64 bb] 64 (0, 0)))) := sp_stab hFine
  have hS3 : Sp 34 56 w D (fun u => Mc u (.slice q1 N c1) K ∧ u.heap[W2.heap.size]? = some (.cells #[.int .i64 5, .int .i64 a, .int .i64 bb] 64 (0, 0))) W3 := by
    have hk3 : Kept W2 W3 := by rw [← hW3]; exact Kept.one _ _
    exact ⟨hb2.kept.trans hk3, kept_at hk3 (hb2.blk 0 rfl), ⟨_, kept_at hk3 (hb2.blk 1 rfl), rfl⟩, ⟨_, kept_at hk3 (hb2.blk 2 rfl), rfl⟩, hr2.keep hk3, by rw [← hW3]; exact blk_new W2 _⟩
  have e0 : W3.cell? ⟨W2.heap.size, 0, none⟩ = some (.int .i64 5) := blk_cell hS3.mem.2 0
  have e1 : W3.cell? ⟨W2.heap.size, 1, none⟩ = some (.int .i64 a) := blk_cell hS3.mem.2 1
  have e2 : W3.cell? ⟨W2.heap.size, 2, none⟩ = some (.int .i64 bb) := blk_cell hS3.mem.2 2
  have lD := load_ow hS3.own sD
  have HS3 := Lib.hid hS3
  have HW3 := Lib.hid hW3
  clear hb2 hr2 hS3 hW3 d0 d1 d2 hx
  have CN := fun (u : World) (hu : Sp 34 56 w D (fun u => Mc u (.slice q1 N c1) K ∧ u.heap[W2.heap.size]? = some (.cells #[.int .i64 5, .int .i64 a, .int .i64 bb] 64 (0, 0))) u) => sum_any o (mc_cls hu.mem.1 (by omega)) a
  obtain ⟨y, hy⟩ : ∃ y, sumL K a = y := ⟨_, rfl⟩
  rw [hD] at CN
  rw [hy] at CN
  have HY := Lib.hid hy
  have HCN := Lib.hid CN
  have HR := Lib.hid hD
  clear CN hD hy
  go_upto_region 15 with (first
    | (refine load_l 64 (.tmp 26) rfl _ rfl rfl _ lop ?_)
    | (refine store_new rfl 64 (.tmp 6) (.tmp 27) rfl W2.heap.size #[.int .i64 5, .int .i64 a, .int .i64 bb] rfl rfl _ _ rfl 3 info_op rfl rfl (by kernel_rfl) ?_; rw [HW3.out]))
  refine Au.region (Sp 34 56 w D (fun u => Mc u (.slice q1 N c1) K ∧ u.heap[W2.heap.size]? = some (.cells #[.int .i64 5, .int .i64 a, .int .i64 bb] 64 (0, 0)))) (by kernel_rfl) (HS3.out.go hFine (Kept.refl _).drew) ?_
  refine Au.take 0 (some 59) rfl rfl (by kernel_rfl) (by kernel_rfl) (by kernel_rfl) (fun _ _ _ h => h) hSt (Au.yq_load 34 (.tmp 2) rfl _ rfl (by rfl) (fun u hu => load_ow hu.own sD)) ?_
  simp only [Act.put, List.setIfInBounds_toArray, List.set_cons_zero, List.set_cons_succ]
  refine Au.take 1 (some 60) rfl rfl (by kernel_rfl) (by kernel_rfl) (by kernel_rfl) (fun _ _ _ h => h) hSt (Au.yq_load 34 (.tmp 2) rfl _ rfl (by rfl) (fun u hu => load_ow hu.own sD)) ?_
  simp only [Act.put, List.setIfInBounds_toArray, List.set_cons_zero, List.set_cons_succ]
  refine Au.take 2 (some 61) (v := ?_) rfl rfl (by kernel_rfl) (by kernel_rfl) (by kernel_rfl) (fun _ _ _ h => h) hSt (Au.yq_run (by rfl) (fun u hu => ?_)) ?_
  rotate_left
  · (clear hu; go_simp; try with_reducible rfl)
  simp only [Act.put, List.setIfInBounds_toArray, List.set_cons_zero, List.set_cons_succ]
  refine Au.take 3 (some 62) rfl rfl (by kernel_rfl) (by kernel_rfl) (by kernel_rfl) (fun _ _ _ h => h) hSt (Au.yq_load 3 (.tmp 61) rfl _ rfl (by rfl) (fun u hu => Ad.run_loadi (blk_cell hu.mem.2 1))) ?_
  simp only [Act.put, List.setIfInBounds_toArray, List.set_cons_zero, List.set_cons_succ]
  refine Au.take 4 (some 63) rfl rfl (by kernel_rfl) (by kernel_rfl) (by kernel_rfl) (fun _ _ _ h => h) hSt (Au.yq_call 18 _ (by rfl) (fun u => by go_simp) (fun u hu => HCN.out u hu)) ?_
  simp only [Act.put, List.setIfInBounds_toArray, List.set_cons_zero, List.set_cons_succ]
  refine Au.take 5 (some 64) (v := ?_) rfl rfl (by kernel_rfl) (by kernel_rfl) (by kernel_rfl) (fun _ _ _ h => h) hSt (Au.yq_run (by rfl) (fun u hu => ?_)) ?_
  rotate_left
  · (clear hu; go_simp; try with_reducible rfl)
  simp only [Act.put, List.setIfInBounds_toArray, List.set_cons_zero, List.set_cons_succ]
  refine Au.store 6 34 (.tmp 4) (.tmp 59) rfl (by kernel_rfl) (by kernel_rfl) rfl rfl (w.heap.size + 1) D rfl rfl 34 (fun u hu => by rw [sD]; exact hu.res) (by rw [sD]; exact info_ow) (oD) (At1 34 w D) (at1_stab) hSt (fun u hu => hu.row hFine D sD) (fun u hu => by obtain ⟨xs, h1, _⟩ := hu.res; exact setRow_heap _ _ xs _ _ _ h1) ?_
  refine Au.store 7 56 (.tmp 5) (.tmp 64) rfl (by kernel_rfl) (by kernel_rfl) rfl rfl (w.heap.size + 2) (actA 4 y 0) rfl rfl 56 (fun u hu => hu.1.act) (info_act) (act_one _ _ _) (At2 56 w (actA 4 y 0)) (at2_stab) (stab_and hSt at1_stab) (fun u hu => ⟨hu.1.row2 hFine (actA 4 y 0) rfl, (setRow_other _ _ _ _ (by omega)).trans hu.2⟩) (fun u hu => by obtain ⟨xs, h1, _⟩ := hu.1.act; exact setRow_heap _ _ xs _ _ _ h1) ?_
  refine Au.done (by kernel_rfl) ?_
  rintro u ⟨⟨hS6, hA6⟩, hB6⟩
  go_wp2_with fail
  refine bodyPost_ret (results_rows rfl _ _ (w.heap.size + 1) (w.heap.size + 2) 34 56 D (actA 4 y 0) (0, 0) (0, 0) _ _ rfl rfl hA6 hB6 Try.underlying34 rfl (by rw [sD]; exact info_ow) Try.underlying56 rfl info_act) rfl ?_
  exact ⟨q1, c1, by rw [HR.out, HY.out], hS6.mem.1, hS6.kept⟩

set_option maxRecDepth 100000 in
set_option maxHeartbeats 2000000 in
theorem step_6 {w : World} {q : Option Addr} {N c : Nat} {K : List Cl} {v : Value} {L : List Pg.Op} (o : Ow) (hv : Cls w (.slice q N c) K) (hl : K.length ≤ 800000) (hL : Pg.Ops w v L) (i : Nat) (x : Pg.Op) (hpc : o.pc = (i : Int)) (hx : L[i]? = some x) (hk : x.k = 6) :
    Calls Try.prog 30 #[.agg (o.arr q N c), v] w (PostP w N K (o, actA 5 (Cd.clean x.a) 0)) := by
  have hN : K.length = N := by obtain ⟨p, cap, e⟩ := hv.shape; cases e; rfl
  obtain ⟨p, M, cap, rfl, hM, hmM⟩ := hL.slice
  have hm2 : M ≤ 9223372036854775807 := by unfold maxLen at hmM; omega
  obtain ⟨A, hA⟩ : ∃ A, o.arr q N c = A := ⟨_, rfl⟩
  have sA : A.size = 19 := by rw [← hA]; rfl
  rw [hA]
  obtain ⟨W, hW⟩ : ∃ W, ((w.alloc (.cells A 34)).alloc (.cells zeroA 34)).alloc (.cells zact 56) = W := ⟨_, rfl⟩
  have hb : Bl w W [(A, 34), (zeroA, 34), (zact, 56)] := hW ▸ Bl.three w A _ _ _ _ _
  have hsz : W.heap.size = w.heap.size + 3 := by rw [← hW]; simp
  have la := load_ow (hb.blk 0 rfl) sA
  have HW := Lib.hid hW
  have C1 := Lib.hid (clone_any o (hv.go hb.kept) (by omega))
  rw [hA] at C1
  have HB := Lib.hid hb
  have HL := Lib.hid hL
  have HM := Lib.hid hM
  clear hW hb hv hA hL hM
  go_enter Try.func30, Try.ntmps30
  go_upto_region 1 with fail
  rw [show ((w.alloc (.cells A 34)).alloc (.cells #[.int .i64 0, .int .i64 0, .int .i64 0, .int .i64 0, .int .i64 0, .int .i64 0, .int .i64 0, .int .i64 0, .int .i64 0, .int .i64 0, .int .i64 0, .int .i64 0, .int .i64 0, .int .i64 0, .int .i64 0, .int .i64 0, .int .i64 0, .int .i64 0, .slice none 0 0] 34)).alloc (.cells #[.int .i64 0, .int .i64 0, .int .i64 0] 56) = W from HW.out]
  go_upto_region 2 with (first
    | (refine load_l 34 (.tmp 2) rfl _ rfl rfl (.agg A) la ?_)
    | (go_at_call 28; refine C1.out.mono ?_; rintro e w1 ⟨q1, c1, rfl, hr1, ho1, hk1⟩; obtain ⟨D, hD⟩ : ∃ D, o.arr q1 N c1 = D := ⟨_, rfl⟩; rw [hD]; have sD : D.size = 19 := (by rw [← hD]; rfl); have oD : D.all (·.oneCell') = true := (by rw [← hD]; exact arr_one _ _ _ _); have H1 := Lib.hid (And.intro hr1 (And.intro ho1 (And.intro hk1 hD))); clear hr1 ho1 hk1 hD)
    | (refine wpList_store_row rfl 34 (.tmp 2) (.tmp 8) rfl w.heap.size D rfl rfl 34 A ((HB.out.go H1.out.2.2.1).blk 0 rfl) (by rw [sD]; exact info_ow) (by rw [sD, sA]) oD ?_))
  obtain ⟨W2, hW2⟩ : ∃ W2, w1.setRow w.heap.size D = W2 := ⟨_, rfl⟩
  rw [hW2]
  have hb2 : Bl w W2 [(D, 34), (zeroA, 34), (zact, 56)] := by rw [← hW2]; exact (HB.out.go H1.out.2.2.1).row 0 rfl D
  have hr2 : Mc W2 (.slice q1 N c1) K := H1.out.1.kept fun g e => by
    have := H1.out.2.1 g e
    rw [← hW2]; exact setRow_other _ _ _ _ (by omega)
  have hfar : ∀ g, (Value.slice q1 N c1).ownBlock = some g → w.heap.size + 3 ≤ g := fun g e => by have := H1.out.2.1 g e; omega
  have hD := H1.out.2.2.2
  have c16 : W2.cell? ⟨w.heap.size, 16, none⟩ = some (.int .i64 o.pc) := (hb2.cell 0 16 rfl).trans (show D[16]? = _ by rw [← hD]; rfl)
  clear hW2 H1 HB C1 la
  have hi : i < M := by rw [← HM.out]; exact (List.getElem?_eq_some_iff.1 hx).1
  have hi0 : ¬ (i : Int) < 0 := by omega
  have hi1 : ¬ (M : Int) ≤ (i : Int) := by omega
  have hi2 : (i : Int) < (M : Int) := by omega
  obtain ⟨x', b, off, hx', rfl, d0, d1, d2⟩ := (HL.out.go hb2.kept).pick (i := i) (by rw [HM.out]; exact hi)
  rw [hx] at hx'
  cases hx'
  rw [hpc] at c16
  obtain ⟨k, a, bb⟩ := x
  simp only at hk
  subst hk
  have lop := load_op d0 d1 d2
  simp only at lop
  have hsz2 : w.heap.size + 3 ≤ W2.heap.size := hb2.size
  obtain ⟨W3, hW3⟩ : ∃ W3, W2.alloc (.cells #[.int .i64 6, .int .i64 a, .int .i64 bb] 64) = W3 := ⟨_, rfl⟩
  have hFine : Fine w (fun u => Mc u (.slice q1 N c1) K ∧ u.heap[W2.heap.size]? = some (.cells #[.int .i64 6, .int .i64 a, .int .i64 bb] 64 (0, 0))) := (mc_fine hfar).and (at_fine hsz2)
  have hSt : Stab (Sp 34 56 w D (fun u => Mc u (.slice q1 N c1) K ∧ u.heap[W2.heap.size]? = some (.cells #[.int .i64 6, .int .i64 a, .int .i64 bb] 64 (0, 0)))) := sp_stab hFine
  have hS3 : Sp 34 56 w D (fun u => Mc u (.slice q1 N c1) K ∧ u.heap[W2.heap.size]? = some (.cells #[.int .i64 6, .int .i64 a, .int .i64 bb] 64 (0, 0))) W3 := by
    have hk3 : Kept W2 W3 := by rw [← hW3]; exact Kept.one _ _
    exact ⟨hb2.kept.trans hk3, kept_at hk3 (hb2.blk 0 rfl), ⟨_, kept_at hk3 (hb2.blk 1 rfl), rfl⟩, ⟨_, kept_at hk3 (hb2.blk 2 rfl), rfl⟩, hr2.keep hk3, by rw [← hW3]; exact blk_new W2 _⟩
  have e0 : W3.cell? ⟨W2.heap.size, 0, none⟩ = some (.int .i64 6) := blk_cell hS3.mem.2 0
  have e1 : W3.cell? ⟨W2.heap.size, 1, none⟩ = some (.int .i64 a) := blk_cell hS3.mem.2 1
  have e2 : W3.cell? ⟨W2.heap.size, 2, none⟩ = some (.int .i64 bb) := blk_cell hS3.mem.2 2
  have lD := load_ow hS3.own sD
  have HS3 := Lib.hid hS3
  have HW3 := Lib.hid hW3
  clear hb2 hr2 hS3 hW3 d0 d1 d2 hx
  obtain ⟨y, hy⟩ : ∃ y, Cd.clean a = y := ⟨_, rfl⟩
  have CN : ∀ u, Calls Try.prog 50 #[.int .i64 a] u fun e w' => e = .returned (.int .i64 y) ∧ Kept u w' := fun u => by rw [← hy]; exact (Cd.clean_any a u).mono fun e w' h => ⟨h.1, h.2 ▸ Kept.refl _⟩
  have HY := Lib.hid hy
  have HCN := Lib.hid CN
  have HR := Lib.hid hD
  clear CN hD hy
  go_upto_region 17 with (first
    | (refine load_l 64 (.tmp 26) rfl _ rfl rfl _ lop ?_)
    | (refine store_new rfl 64 (.tmp 6) (.tmp 27) rfl W2.heap.size #[.int .i64 6, .int .i64 a, .int .i64 bb] rfl rfl _ _ rfl 3 info_op rfl rfl (by kernel_rfl) ?_; rw [HW3.out]))
  refine Au.region (Sp 34 56 w D (fun u => Mc u (.slice q1 N c1) K ∧ u.heap[W2.heap.size]? = some (.cells #[.int .i64 6, .int .i64 a, .int .i64 bb] 64 (0, 0)))) (by kernel_rfl) (HS3.out.go hFine (Kept.refl _).drew) ?_
  refine Au.take 0 (some 67) rfl rfl (by kernel_rfl) (by kernel_rfl) (by kernel_rfl) (fun _ _ _ h => h) hSt (Au.yq_load 34 (.tmp 2) rfl _ rfl (by rfl) (fun u hu => load_ow hu.own sD)) ?_
  simp only [Act.put, List.setIfInBounds_toArray, List.set_cons_zero, List.set_cons_succ]
  refine Au.take 1 (some 68) (v := ?_) rfl rfl (by kernel_rfl) (by kernel_rfl) (by kernel_rfl) (fun _ _ _ h => h) hSt (Au.yq_run (by rfl) (fun u hu => ?_)) ?_
  rotate_left
  · (clear hu; go_simp; try with_reducible rfl)
  simp only [Act.put, List.setIfInBounds_toArray, List.set_cons_zero, List.set_cons_succ]
  refine Au.take 2 (some 69) rfl rfl (by kernel_rfl) (by kernel_rfl) (by kernel_rfl) (fun _ _ _ h => h) hSt (Au.yq_load 3 (.tmp 68) rfl _ rfl (by rfl) (fun u hu => Ad.run_loadi (blk_cell hu.mem.2 1))) ?_
  simp only [Act.put, List.setIfInBounds_toArray, List.set_cons_zero, List.set_cons_succ]
  refine Au.take 3 (some 70) rfl rfl (by kernel_rfl) (by kernel_rfl) (by kernel_rfl) (fun _ _ _ h => h) hSt (Au.yq_call 50 _ (by rfl) (fun u => by go_simp) (fun u hu => HCN.out u)) ?_
  simp only [Act.put, List.setIfInBounds_toArray, List.set_cons_zero, List.set_cons_succ]
  refine Au.take 4 (some 71) (v := ?_) rfl rfl (by kernel_rfl) (by kernel_rfl) (by kernel_rfl) (fun _ _ _ h => h) hSt (Au.yq_run (by rfl) (fun u hu => ?_)) ?_
  rotate_left
  · (clear hu; go_simp; try with_reducible rfl)
  simp only [Act.put, List.setIfInBounds_toArray, List.set_cons_zero, List.set_cons_succ]
  refine Au.store 5 34 (.tmp 4) (.tmp 67) rfl (by kernel_rfl) (by kernel_rfl) rfl rfl (w.heap.size + 1) D rfl rfl 34 (fun u hu => by rw [sD]; exact hu.res) (by rw [sD]; exact info_ow) (oD) (At1 34 w D) (at1_stab) hSt (fun u hu => hu.row hFine D sD) (fun u hu => by obtain ⟨xs, h1, _⟩ := hu.res; exact setRow_heap _ _ xs _ _ _ h1) ?_
  refine Au.store 6 56 (.tmp 5) (.tmp 71) rfl (by kernel_rfl) (by kernel_rfl) rfl rfl (w.heap.size + 2) (actA 5 y 0) rfl rfl 56 (fun u hu => hu.1.act) (info_act) (act_one _ _ _) (At2 56 w (actA 5 y 0)) (at2_stab) (stab_and hSt at1_stab) (fun u hu => ⟨hu.1.row2 hFine (actA 5 y 0) rfl, (setRow_other _ _ _ _ (by omega)).trans hu.2⟩) (fun u hu => by obtain ⟨xs, h1, _⟩ := hu.1.act; exact setRow_heap _ _ xs _ _ _ h1) ?_
  refine Au.done (by kernel_rfl) ?_
  rintro u ⟨⟨hS6, hA6⟩, hB6⟩
  go_wp2_with fail
  refine bodyPost_ret (results_rows rfl _ _ (w.heap.size + 1) (w.heap.size + 2) 34 56 D (actA 5 y 0) (0, 0) (0, 0) _ _ rfl rfl hA6 hB6 Try.underlying34 rfl (by rw [sD]; exact info_ow) Try.underlying56 rfl info_act) rfl ?_
  exact ⟨q1, c1, by rw [HR.out, HY.out], hS6.mem.1, hS6.kept⟩

set_option maxRecDepth 100000 in
set_option maxHeartbeats 2000000 in
theorem step_7 {w : World} {q : Option Addr} {N c : Nat} {K : List Cl} {v : Value} {L : List Pg.Op} (o : Ow) (hv : Cls w (.slice q N c) K) (hl : K.length ≤ 800000) (hL : Pg.Ops w v L) (i : Nat) (x : Pg.Op) (hpc : o.pc = (i : Int)) (hx : L[i]? = some x) (hk : x.k = 7) :
    Calls Try.prog 30 #[.agg (o.arr q N c), v] w (PostP w N K (o, actA 6 (max (-1) x.a) 0)) := by
  have hN : K.length = N := by obtain ⟨p, cap, e⟩ := hv.shape; cases e; rfl
  obtain ⟨p, M, cap, rfl, hM, hmM⟩ := hL.slice
  have hm2 : M ≤ 9223372036854775807 := by unfold maxLen at hmM; omega
  obtain ⟨A, hA⟩ : ∃ A, o.arr q N c = A := ⟨_, rfl⟩
  have sA : A.size = 19 := by rw [← hA]; rfl
  rw [hA]
  obtain ⟨W, hW⟩ : ∃ W, ((w.alloc (.cells A 34)).alloc (.cells zeroA 34)).alloc (.cells zact 56) = W := ⟨_, rfl⟩
  have hb : Bl w W [(A, 34), (zeroA, 34), (zact, 56)] := hW ▸ Bl.three w A _ _ _ _ _
  have hsz : W.heap.size = w.heap.size + 3 := by rw [← hW]; simp
  have la := load_ow (hb.blk 0 rfl) sA
  have HW := Lib.hid hW
  have C1 := Lib.hid (clone_any o (hv.go hb.kept) (by omega))
  rw [hA] at C1
  have HB := Lib.hid hb
  have HL := Lib.hid hL
  have HM := Lib.hid hM
  clear hW hb hv hA hL hM
  go_enter Try.func30, Try.ntmps30
  go_upto_region 1 with fail
  rw [show ((w.alloc (.cells A 34)).alloc (.cells #[.int .i64 0, .int .i64 0, .int .i64 0, .int .i64 0, .int .i64 0, .int .i64 0, .int .i64 0, .int .i64 0, .int .i64 0, .int .i64 0, .int .i64 0, .int .i64 0, .int .i64 0, .int .i64 0, .int .i64 0, .int .i64 0, .int .i64 0, .int .i64 0, .slice none 0 0] 34)).alloc (.cells #[.int .i64 0, .int .i64 0, .int .i64 0] 56) = W from HW.out]
  go_upto_region 2 with (first
    | (refine load_l 34 (.tmp 2) rfl _ rfl rfl (.agg A) la ?_)
    | (go_at_call 28; refine C1.out.mono ?_; rintro e w1 ⟨q1, c1, rfl, hr1, ho1, hk1⟩; obtain ⟨D, hD⟩ : ∃ D, o.arr q1 N c1 = D := ⟨_, rfl⟩; rw [hD]; have sD : D.size = 19 := (by rw [← hD]; rfl); have oD : D.all (·.oneCell') = true := (by rw [← hD]; exact arr_one _ _ _ _); have H1 := Lib.hid (And.intro hr1 (And.intro ho1 (And.intro hk1 hD))); clear hr1 ho1 hk1 hD)
    | (refine wpList_store_row rfl 34 (.tmp 2) (.tmp 8) rfl w.heap.size D rfl rfl 34 A ((HB.out.go H1.out.2.2.1).blk 0 rfl) (by rw [sD]; exact info_ow) (by rw [sD, sA]) oD ?_))
  obtain ⟨W2, hW2⟩ : ∃ W2, w1.setRow w.heap.size D = W2 := ⟨_, rfl⟩
  rw [hW2]
  have hb2 : Bl w W2 [(D, 34), (zeroA, 34), (zact, 56)] := by rw [← hW2]; exact (HB.out.go H1.out.2.2.1).row 0 rfl D
  have hr2 : Mc W2 (.slice q1 N c1) K := H1.out.1.kept fun g e => by
    have := H1.out.2.1 g e
    rw [← hW2]; exact setRow_other _ _ _ _ (by omega)
  have hfar : ∀ g, (Value.slice q1 N c1).ownBlock = some g → w.heap.size + 3 ≤ g := fun g e => by have := H1.out.2.1 g e; omega
  have hD := H1.out.2.2.2
  have c16 : W2.cell? ⟨w.heap.size, 16, none⟩ = some (.int .i64 o.pc) := (hb2.cell 0 16 rfl).trans (show D[16]? = _ by rw [← hD]; rfl)
  clear hW2 H1 HB C1 la
  have hi : i < M := by rw [← HM.out]; exact (List.getElem?_eq_some_iff.1 hx).1
  have hi0 : ¬ (i : Int) < 0 := by omega
  have hi1 : ¬ (M : Int) ≤ (i : Int) := by omega
  have hi2 : (i : Int) < (M : Int) := by omega
  obtain ⟨x', b, off, hx', rfl, d0, d1, d2⟩ := (HL.out.go hb2.kept).pick (i := i) (by rw [HM.out]; exact hi)
  rw [hx] at hx'
  cases hx'
  rw [hpc] at c16
  obtain ⟨k, a, bb⟩ := x
  simp only at hk
  subst hk
  have lop := load_op d0 d1 d2
  simp only at lop
  have hsz2 : w.heap.size + 3 ≤ W2.heap.size := hb2.size
  obtain ⟨W3, hW3⟩ : ∃ W3, W2.alloc (.cells #[.int .i64 7, .int .i64 a, .int .i64 bb] 64) = W3 := ⟨_, rfl⟩
  have hFine : Fine w (fun u => Mc u (.slice q1 N c1) K ∧ u.heap[W2.heap.size]? = some (.cells #[.int .i64 7, .int .i64 a, .int .i64 bb] 64 (0, 0))) := (mc_fine hfar).and (at_fine hsz2)
  have hSt : Stab (Sp 34 56 w D (fun u => Mc u (.slice q1 N c1) K ∧ u.heap[W2.heap.size]? = some (.cells #[.int .i64 7, .int .i64 a, .int .i64 bb] 64 (0, 0)))) := sp_stab hFine
  have hS3 : Sp 34 56 w D (fun u => Mc u (.slice q1 N c1) K ∧ u.heap[W2.heap.size]? = some (.cells #[.int .i64 7, .int .i64 a, .int .i64 bb] 64 (0, 0))) W3 := by
    have hk3 : Kept W2 W3 := by rw [← hW3]; exact Kept.one _ _
    exact ⟨hb2.kept.trans hk3, kept_at hk3 (hb2.blk 0 rfl), ⟨_, kept_at hk3 (hb2.blk 1 rfl), rfl⟩, ⟨_, kept_at hk3 (hb2.blk 2 rfl), rfl⟩, hr2.keep hk3, by rw [← hW3]; exact blk_new W2 _⟩
  have e0 : W3.cell? ⟨W2.heap.size, 0, none⟩ = some (.int .i64 7) := blk_cell hS3.mem.2 0
  have e1 : W3.cell? ⟨W2.heap.size, 1, none⟩ = some (.int .i64 a) := blk_cell hS3.mem.2 1
  have e2 : W3.cell? ⟨W2.heap.size, 2, none⟩ = some (.int .i64 bb) := blk_cell hS3.mem.2 2
  have lD := load_ow hS3.own sD
  have HS3 := Lib.hid hS3
  have HW3 := Lib.hid hW3
  clear hb2 hr2 hS3 hW3 d0 d1 d2 hx
  obtain ⟨y, hy⟩ : ∃ y, max (-1) a = y := ⟨_, rfl⟩
  have HY := Lib.hid hy
  have HR := Lib.hid hD
  clear hD hy
  go_upto_region 19 with (first
    | (refine load_l 64 (.tmp 26) rfl _ rfl rfl _ lop ?_)
    | (refine store_new rfl 64 (.tmp 6) (.tmp 27) rfl W2.heap.size #[.int .i64 7, .int .i64 a, .int .i64 bb] rfl rfl _ _ rfl 3 info_op rfl rfl (by kernel_rfl) ?_; rw [HW3.out]))
  refine Au.region (Sp 34 56 w D (fun u => Mc u (.slice q1 N c1) K ∧ u.heap[W2.heap.size]? = some (.cells #[.int .i64 7, .int .i64 a, .int .i64 bb] 64 (0, 0)))) (by kernel_rfl) (HS3.out.go hFine (Kept.refl _).drew) ?_
  refine Au.take 0 (some 74) rfl rfl (by kernel_rfl) (by kernel_rfl) (by kernel_rfl) (fun _ _ _ h => h) hSt (Au.yq_load 34 (.tmp 2) rfl _ rfl (by rfl) (fun u hu => load_ow hu.own sD)) ?_
  simp only [Act.put, List.setIfInBounds_toArray, List.set_cons_zero, List.set_cons_succ]
  refine Au.take 1 (some 75) (v := ?_) rfl rfl (by kernel_rfl) (by kernel_rfl) (by kernel_rfl) (fun _ _ _ h => h) hSt (Au.yq_run (by rfl) (fun u hu => ?_)) ?_
  rotate_left
  · (clear hu; go_simp; try with_reducible rfl)
  simp only [Act.put, List.setIfInBounds_toArray, List.set_cons_zero, List.set_cons_succ]
  refine Au.take 2 (some 76) rfl rfl (by kernel_rfl) (by kernel_rfl) (by kernel_rfl) (fun _ _ _ h => h) hSt (Au.yq_load 3 (.tmp 75) rfl _ rfl (by rfl) (fun u hu => Ad.run_loadi (blk_cell hu.mem.2 1))) ?_
  simp only [Act.put, List.setIfInBounds_toArray, List.set_cons_zero, List.set_cons_succ]
  refine Au.take 3 (some 77) (v := .int .i64 y) rfl rfl (by kernel_rfl) (by kernel_rfl) (by kernel_rfl) (fun _ _ _ h => h) hSt (Au.yq_run (by rfl) (fun u hu => ?_)) ?_
  · (clear hu; go_simp; first | exact congrArg (fun z => Result.ok (Next.value (Value.int IntKind.i64 z)) u) HY.out | (rw [← HY.out]; try rfl))
  simp only [Act.put, List.setIfInBounds_toArray, List.set_cons_zero, List.set_cons_succ]
  refine Au.take 4 (some 78) (v := ?_) rfl rfl (by kernel_rfl) (by kernel_rfl) (by kernel_rfl) (fun _ _ _ h => h) hSt (Au.yq_run (by rfl) (fun u hu => ?_)) ?_
  rotate_left
  · (clear hu; go_simp; try with_reducible rfl)
  simp only [Act.put, List.setIfInBounds_toArray, List.set_cons_zero, List.set_cons_succ]
  refine Au.store 5 34 (.tmp 4) (.tmp 74) rfl (by kernel_rfl) (by kernel_rfl) rfl rfl (w.heap.size + 1) D rfl rfl 34 (fun u hu => by rw [sD]; exact hu.res) (by rw [sD]; exact info_ow) (oD) (At1 34 w D) (at1_stab) hSt (fun u hu => hu.row hFine D sD) (fun u hu => by obtain ⟨xs, h1, _⟩ := hu.res; exact setRow_heap _ _ xs _ _ _ h1) ?_
  refine Au.store 6 56 (.tmp 5) (.tmp 78) rfl (by kernel_rfl) (by kernel_rfl) rfl rfl (w.heap.size + 2) (actA 6 y 0) rfl rfl 56 (fun u hu => hu.1.act) (info_act) (act_one _ _ _) (At2 56 w (actA 6 y 0)) (at2_stab) (stab_and hSt at1_stab) (fun u hu => ⟨hu.1.row2 hFine (actA 6 y 0) rfl, (setRow_other _ _ _ _ (by omega)).trans hu.2⟩) (fun u hu => by obtain ⟨xs, h1, _⟩ := hu.1.act; exact setRow_heap _ _ xs _ _ _ h1) ?_
  refine Au.done (by kernel_rfl) ?_
  rintro u ⟨⟨hS6, hA6⟩, hB6⟩
  go_wp2_with fail
  refine bodyPost_ret (results_rows rfl _ _ (w.heap.size + 1) (w.heap.size + 2) 34 56 D (actA 6 y 0) (0, 0) (0, 0) _ _ rfl rfl hA6 hB6 Try.underlying34 rfl (by rw [sD]; exact info_ow) Try.underlying56 rfl info_act) rfl ?_
  exact ⟨q1, c1, by rw [HR.out, HY.out], hS6.mem.1, hS6.kept⟩

set_option maxRecDepth 100000 in
set_option maxHeartbeats 2000000 in
theorem step_x {w : World} {q : Option Addr} {N c : Nat} {K : List Cl} {v : Value} {L : List Pg.Op} (o : Ow) (hv : Cls w (.slice q N c) K) (hl : K.length ≤ 800000) (hL : Pg.Ops w v L) (i : Nat) (x : Pg.Op) (hpc : o.pc = (i : Int)) (hx : L[i]? = some x) (hk : ¬ x.k = 1 ∧ ¬ x.k = 2 ∧ ¬ x.k = 3 ∧ ¬ x.k = 4 ∧ ¬ x.k = 5 ∧ ¬ x.k = 6 ∧ ¬ x.k = 7) :
    Calls Try.prog 30 #[.agg (o.arr q N c), v] w (PostP w N K (o, actA 5 13 0)) := by
  have hN : K.length = N := by obtain ⟨p, cap, e⟩ := hv.shape; cases e; rfl
  obtain ⟨p, M, cap, rfl, hM, hmM⟩ := hL.slice
  have hm2 : M ≤ 9223372036854775807 := by unfold maxLen at hmM; omega
  obtain ⟨A, hA⟩ : ∃ A, o.arr q N c = A := ⟨_, rfl⟩
  have sA : A.size = 19 := by rw [← hA]; rfl
  rw [hA]
  obtain ⟨W, hW⟩ : ∃ W, ((w.alloc (.cells A 34)).alloc (.cells zeroA 34)).alloc (.cells zact 56) = W := ⟨_, rfl⟩
  have hb : Bl w W [(A, 34), (zeroA, 34), (zact, 56)] := hW ▸ Bl.three w A _ _ _ _ _
  have hsz : W.heap.size = w.heap.size + 3 := by rw [← hW]; simp
  have la := load_ow (hb.blk 0 rfl) sA
  have HW := Lib.hid hW
  have C1 := Lib.hid (clone_any o (hv.go hb.kept) (by omega))
  rw [hA] at C1
  have HB := Lib.hid hb
  have HL := Lib.hid hL
  have HM := Lib.hid hM
  clear hW hb hv hA hL hM
  go_enter Try.func30, Try.ntmps30
  go_upto_region 1 with fail
  rw [show ((w.alloc (.cells A 34)).alloc (.cells #[.int .i64 0, .int .i64 0, .int .i64 0, .int .i64 0, .int .i64 0, .int .i64 0, .int .i64 0, .int .i64 0, .int .i64 0, .int .i64 0, .int .i64 0, .int .i64 0, .int .i64 0, .int .i64 0, .int .i64 0, .int .i64 0, .int .i64 0, .int .i64 0, .slice none 0 0] 34)).alloc (.cells #[.int .i64 0, .int .i64 0, .int .i64 0] 56) = W from HW.out]
  go_upto_region 2 with (first
    | (refine load_l 34 (.tmp 2) rfl _ rfl rfl (.agg A) la ?_)
    | (go_at_call 28; refine C1.out.mono ?_; rintro e w1 ⟨q1, c1, rfl, hr1, ho1, hk1⟩; obtain ⟨D, hD⟩ : ∃ D, o.arr q1 N c1 = D := ⟨_, rfl⟩; rw [hD]; have sD : D.size = 19 := (by rw [← hD]; rfl); have oD : D.all (·.oneCell') = true := (by rw [← hD]; exact arr_one _ _ _ _); have H1 := Lib.hid (And.intro hr1 (And.intro ho1 (And.intro hk1 hD))); clear hr1 ho1 hk1 hD)
    | (refine wpList_store_row rfl 34 (.tmp 2) (.tmp 8) rfl w.heap.size D rfl rfl 34 A ((HB.out.go H1.out.2.2.1).blk 0 rfl) (by rw [sD]; exact info_ow) (by rw [sD, sA]) oD ?_))
  obtain ⟨W2, hW2⟩ : ∃ W2, w1.setRow w.heap.size D = W2 := ⟨_, rfl⟩
  rw [hW2]
  have hb2 : Bl w W2 [(D, 34), (zeroA, 34), (zact, 56)] := by rw [← hW2]; exact (HB.out.go H1.out.2.2.1).row 0 rfl D
  have hr2 : Mc W2 (.slice q1 N c1) K := H1.out.1.kept fun g e => by
    have := H1.out.2.1 g e
    rw [← hW2]; exact setRow_other _ _ _ _ (by omega)
  have hfar : ∀ g, (Value.slice q1 N c1).ownBlock = some g → w.heap.size + 3 ≤ g := fun g e => by have := H1.out.2.1 g e; omega
  have hD := H1.out.2.2.2
  have c16 : W2.cell? ⟨w.heap.size, 16, none⟩ = some (.int .i64 o.pc) := (hb2.cell 0 16 rfl).trans (show D[16]? = _ by rw [← hD]; rfl)
  clear hW2 H1 HB C1 la
  have hi : i < M := by rw [← HM.out]; exact (List.getElem?_eq_some_iff.1 hx).1
  have hi0 : ¬ (i : Int) < 0 := by omega
  have hi1 : ¬ (M : Int) ≤ (i : Int) := by omega
  have hi2 : (i : Int) < (M : Int) := by omega
  obtain ⟨x', b, off, hx', rfl, d0, d1, d2⟩ := (HL.out.go hb2.kept).pick (i := i) (by rw [HM.out]; exact hi)
  rw [hx] at hx'
  cases hx'
  rw [hpc] at c16
  obtain ⟨k, a, bb⟩ := x
  simp only at hk
  have lop := load_op d0 d1 d2
  simp only at lop
  have hsz2 : w.heap.size + 3 ≤ W2.heap.size := hb2.size
  obtain ⟨W3, hW3⟩ : ∃ W3, W2.alloc (.cells #[.int .i64 k, .int .i64 a, .int .i64 bb] 64) = W3 := ⟨_, rfl⟩
  have hFine : Fine w (fun u => Mc u (.slice q1 N c1) K ∧ u.heap[W2.heap.size]? = some (.cells #[.int .i64 k, .int .i64 a, .int .i64 bb] 64 (0, 0))) := (mc_fine hfar).and (at_fine hsz2)
  have hSt : Stab (Sp 34 56 w D (fun u => Mc u (.slice q1 N c1) K ∧ u.heap[W2.heap.size]? = some (.cells #[.int .i64 k, .int .i64 a, .int .i64 bb] 64 (0, 0)))) := sp_stab hFine
  have hS3 : Sp 34 56 w D (fun u => Mc u (.slice q1 N c1) K ∧ u.heap[W2.heap.size]? = some (.cells #[.int .i64 k, .int .i64 a, .int .i64 bb] 64 (0, 0))) W3 := by
    have hk3 : Kept W2 W3 := by rw [← hW3]; exact Kept.one _ _
    exact ⟨hb2.kept.trans hk3, kept_at hk3 (hb2.blk 0 rfl), ⟨_, kept_at hk3 (hb2.blk 1 rfl), rfl⟩, ⟨_, kept_at hk3 (hb2.blk 2 rfl), rfl⟩, hr2.keep hk3, by rw [← hW3]; exact blk_new W2 _⟩
  have e0 : W3.cell? ⟨W2.heap.size, 0, none⟩ = some (.int .i64 k) := blk_cell hS3.mem.2 0
  have e1 : W3.cell? ⟨W2.heap.size, 1, none⟩ = some (.int .i64 a) := blk_cell hS3.mem.2 1
  have e2 : W3.cell? ⟨W2.heap.size, 2, none⟩ = some (.int .i64 bb) := blk_cell hS3.mem.2 2
  have lD := load_ow hS3.own sD
  have HS3 := Lib.hid hS3
  have HW3 := Lib.hid hW3
  clear hb2 hr2 hS3 hW3 d0 d1 d2 hx
  obtain ⟨f1, f2, f3, f4, f5, f6, f7⟩ := hk
  have g1 : (k == 1) = false := beq_eq_false_iff_ne.2 f1
  have g2 : (k == 2) = false := beq_eq_false_iff_ne.2 f2
  have g3 : (k == 3) = false := beq_eq_false_iff_ne.2 f3
  have g4 : (k == 4) = false := beq_eq_false_iff_ne.2 f4
  have g5 : (k == 5) = false := beq_eq_false_iff_ne.2 f5
  have g6 : (k == 6) = false := beq_eq_false_iff_ne.2 f6
  have g7 : (k == 7) = false := beq_eq_false_iff_ne.2 f7
  have HR := Lib.hid hD
  clear f1 f2 f3 f4 f5 f6 f7 hD
  go_upto_region 20 with (first
    | (refine load_l 64 (.tmp 26) rfl _ rfl rfl _ lop ?_)
    | (refine store_new rfl 64 (.tmp 6) (.tmp 27) rfl W2.heap.size #[.int .i64 k, .int .i64 a, .int .i64 bb] rfl rfl _ _ rfl 3 info_op rfl rfl (by kernel_rfl) ?_; rw [HW3.out]))
  have hS5 := HS3.out
  go_wp2_with (first
    | (refine load_l 34 (.tmp 2) rfl _ rfl rfl (.agg D) lD ?_)
    | (refine store_res hFine hS5 rfl (.tmp 4) (.tmp 79) rfl D rfl rfl info_ow sD oD ?_; intro u6 hS7 hA7)
    | (refine store_act hFine hS7 hA7 rfl (.tmp 5) (.tmp 80) rfl (actA 5 13 0) rfl rfl info_act rfl (act_one _ _ _) ?_; intro u7 hS6 hA6 hB6))
  refine bodyPost_ret (results_rows rfl _ _ (w.heap.size + 1) (w.heap.size + 2) 34 56 D (actA 5 13 0) (0, 0) (0, 0) _ _ rfl rfl hA6 hB6 Try.underlying34 rfl (by rw [sD]; exact info_ow) Try.underlying56 rfl info_act) rfl ?_
  exact ⟨q1, c1, by first | rw [hR] | rw [HR.out], hS6.mem.1, hS6.kept⟩

/-- what an owner does next of a program -/
theorem step_any {w : World} {q : Option Addr} {N c : Nat} {K : List Cl} {v : Value} {L : List Pg.Op} (o : Ow) (hv : Cls w (.slice q N c) K) (hl : K.length ≤ 800000) (hL : Pg.Ops w v L) (hdn : 0 ≤ o.dn ∧ o.dn ≤ 2000000) :
    Calls Try.prog 30 #[.agg (o.arr q N c), v] w (PostP w N K (stepO o K L)) := by
  by_cases hp : o.pc < 0 ∨ (L.length : Int) ≤ o.pc
  · rw [step_out hp]; exact step_o o hv hl hL hp
  · obtain ⟨i, hi⟩ : ∃ i : Nat, o.pc = (i : Int) := ⟨o.pc.toNat, by omega⟩
    obtain ⟨x, hx⟩ : ∃ x, L[i]? = some x := ⟨_, List.getElem?_eq_getElem (by omega)⟩
    rw [step_at hi hx]
    by_cases h1 : x.k = 1
    · rw [if_pos h1]; exact step_1 o hv hl hL i x hi hx h1 hdn
    by_cases h2 : x.k = 2
    · rw [if_neg h1, if_pos h2]; exact step_2 o hv hl hL i x hi hx h2
    by_cases h3 : x.k = 3
    · rw [if_neg h1, if_neg h2, if_pos h3]; exact step_3 o hv hl hL i x hi hx h3
    by_cases h4 : x.k = 4
    · rw [if_neg h1, if_neg h2, if_neg h3, if_pos h4]; exact step_4 o hv hl hL i x hi hx h4
    by_cases h5 : x.k = 5
    · rw [if_neg h1, if_neg h2, if_neg h3, if_neg h4, if_pos h5]; exact step_5 o hv hl hL i x hi hx h5
    by_cases h6 : x.k = 6
    · rw [if_neg h1, if_neg h2, if_neg h3, if_neg h4, if_neg h5, if_pos h6]; exact step_6 o hv hl hL i x hi hx h6
    by_cases h7 : x.k = 7
    · rw [if_neg h1, if_neg h2, if_neg h3, if_neg h4, if_neg h5, if_neg h6, if_pos h7]; exact step_7 o hv hl hL i x hi hx h7
    rw [if_neg h1, if_neg h2, if_neg h3, if_neg h4, if_neg h5, if_neg h6, if_neg h7]
    exact step_x o hv hl hL i x hi hx ⟨h1, h2, h3, h4, h5, h6, h7⟩

end Go.Proofs.Ytplkhinjlgmilaa.Ow
