/- The law's own: a call, and an owner, turned into the program's, and back. -/
import Derived.Test.YtncdiggejofbbaaGreatDoorOwS
import Derived.Test.YtncdiggejofbbaaGreatDoorOw5
import Derived.Test.YtncdiggejofbbaaGreatDoorAu
namespace Go.Proofs.YtncdiggejofbbaaGreatDoor.Ow
open Go.RowKit Go.Sort Go.Shelf St Blk Eqs
open Go.Proofs.YtncdiggejofbbaaGreatDoor.Cl
open Go.Proofs.YtncdiggejofbbaaGreatDoor.Ls
open Go.Proofs.YtncdiggejofbbaaGreatDoor.Rv
open Wh (Fr)
open Go.Proofs.YtncdiggejofbbaaGreatDoor.Au (Stab stab_and)
open Go.Proofs.YtncdiggejofbbaaGreatDoor.Ad (load_w load_l store_new)
set_option linter.unusedVariables false

def zeroC : Array Value := Cl.zero.arr

set_option maxRecDepth 100000 in
set_option maxHeartbeats 1000000 in
theorem one_any (x : Cl) (w : World) : Calls Tryz.prog 9 #[.agg x.arr] w fun e w' => e = .returned (.agg x.arr) ∧ Kept w w' := by
  obtain ⟨X, hX⟩ : ∃ X, x.arr = X := ⟨_, rfl⟩
  have x3 : X[3]? = some (.int .i64 x.to) := by rw [← hX]; rfl
  have x4 : X[4]? = some (.int .i64 x.pr) := by rw [← hX]; rfl
  have x5 : X[5]? = some (.int .i64 x.att) := by rw [← hX]; rfl
  have x6 : X[6]? = some (.int .i64 x.st) := by rw [← hX]; rfl
  have x7 : X[7]? = some (.int .i64 x.se) := by rw [← hX]; rfl
  have x8 : X[8]? = some (.int .i64 x.re) := by rw [← hX]; rfl
  have x9 : X[9]? = some (.bool x.co) := by rw [← hX]; rfl
  have x10 : X[10]? = some (.int .i64 x.cd) := by rw [← hX]; rfl
  have x11 : X[11]? = some (.int .i64 x.va) := by rw [← hX]; rfl
  have x12 : X[12]? = some (.int .i64 x.tr) := by rw [← hX]; rfl
  have sX : X.size = 13 := by rw [← hX]; rfl
  have oX : X.all (·.oneCell') = true := by rw [← hX]; exact one_cells x
  have y0 : X[0]? = some (.int .i64 x.n) := by rw [← hX]; rfl
  have y1 : X[1]? = some (.int .i64 x.i) := by rw [← hX]; rfl
  have y2 : X[2]? = some (.int .i64 x.s) := by rw [← hX]; rfl
  rw [hX]
  obtain ⟨W, hW⟩ : ∃ W, (w.alloc (.cells X 33)).alloc (.cells zeroC 41) = W := ⟨_, rfl⟩
  have hb : Bl w W [(X, 33), (zeroC, 41)] := hW ▸ Bl.two w X _ _ _
  have li : (loadVar 26 ⟨w.heap.size, 0, none⟩).run Tryz.prog W = .ok (.agg #[.int .i64 x.n, .int .i64 x.i, .int .i64 x.s]) W := load_id ((hb.cell 0 0 rfl).trans y0) ((hb.cell 0 1 rfl).trans y1) ((hb.cell 0 2 rfl).trans y2)
  have c3 : W.cell? ⟨w.heap.size, 3, none⟩ = some (.int .i64 x.to) := (hb.cell 0 3 rfl).trans x3
  have c4 : W.cell? ⟨w.heap.size, 4, none⟩ = some (.int .i64 x.pr) := (hb.cell 0 4 rfl).trans x4
  have c5 : W.cell? ⟨w.heap.size, 5, none⟩ = some (.int .i64 x.att) := (hb.cell 0 5 rfl).trans x5
  have c6 : W.cell? ⟨w.heap.size, 6, none⟩ = some (.int .i64 x.st) := (hb.cell 0 6 rfl).trans x6
  have c7 : W.cell? ⟨w.heap.size, 7, none⟩ = some (.int .i64 x.se) := (hb.cell 0 7 rfl).trans x7
  have c8 : W.cell? ⟨w.heap.size, 8, none⟩ = some (.int .i64 x.re) := (hb.cell 0 8 rfl).trans x8
  have c9 : W.cell? ⟨w.heap.size, 9, none⟩ = some (.bool x.co) := (hb.cell 0 9 rfl).trans x9
  have c10 : W.cell? ⟨w.heap.size, 10, none⟩ = some (.int .i64 x.cd) := (hb.cell 0 10 rfl).trans x10
  have c11 : W.cell? ⟨w.heap.size, 11, none⟩ = some (.int .i64 x.va) := (hb.cell 0 11 rfl).trans x11
  have c12 : W.cell? ⟨w.heap.size, 12, none⟩ = some (.int .i64 x.tr) := (hb.cell 0 12 rfl).trans x12
  have HB := Lib.hid hb
  have HW := Lib.hid hW
  have HX := Lib.hid hX
  clear hb hW hX y0 y1 y2 x3 x4 x5 x6 x7 x8 x9 x10 x11 x12
  go_enter Tryz.func9, Tryz.ntmps9
  go_upto_region 1 with fail
  rw [show (w.alloc (.cells X 33)).alloc (.cells #[.int .i64 0, .int .i64 0, .int .i64 0, .int .i64 0, .int .i64 0, .int .i64 0, .int .i64 0, .int .i64 0, .int .i64 0, .bool false, .int .i64 0, .int .i64 0, .int .i64 0] 41) = W from HW.out]
  go_wp2_with (first
    | (refine load_l 26 (.tmp 3) rfl _ rfl rfl _ li ?_)
    | (refine wpList_store_row rfl 41 (.tmp 2) (.tmp 25) rfl (w.heap.size + 1) X rfl (congrArg Value.agg HX.out) 41 zeroC (HB.out.blk 1 rfl) (by rw [sX]; exact info_cl) (by rw [sX]; rfl) oX ?_))
  have hb6 := HB.out.row 1 rfl X
  refine bodyPost_ret (results_cell_row rfl _ _ (w.heap.size + 1) 41 X (0, 0) _ rfl (hb6.blk 1 rfl) Tryz.underlying41 rfl (by rw [sX]; exact info_cl)) rfl ?_
  exact ⟨rfl, hb6.kept⟩

theorem run_loadm {w : World} {p : Addr} {q : Option Addr} {n c : Nat} (hc : w.cell? p = some (.slice q n c)) : (loadVar 37 p).run Tryz.prog w = .ok (.slice q n c) w := by go_simp
/-- what a slice of one call reads as -/
theorem src_one {x : Cl} {X : Array Value} {w : World} {g : Nat} {t : TypeId} (hX : x.arr = X) (h : w.heap[g]? = some (.cells X t (0, 0))) : SrcV w (.slice (some ⟨g, 0, none⟩) 1 1) encC [x] :=
  ⟨⟨g, 0, none⟩, 1, rfl, fun j y hj => by
    rw [Rv.addr_add, Nat.zero_add, blk_cell h, ← Array.getElem?_toList]
    rw [fl_one] at hj
    rw [← hX]
    exact hj⟩

set_option maxRecDepth 100000 in
set_option maxHeartbeats 2000000 in
theorem mine_any {w : World} {q : Option Addr} {N c : Nat} {K : List Cl} (o : Ow) (hv : Cls w (.slice q N c) K) (hl : K.length ≤ 900000) :
    Calls Tryz.prog 7 #[.agg (o.arr q N c)] w fun e w' => ∃ q' n' c', e = .returned (.agg (o.arr q' n' c')) ∧ Mc w' (.slice q' n' c') K ∧ (∀ g, (Value.slice q' n' c').ownBlock = some g → w.heap.size ≤ g) ∧ Kept w w' := by
  have hN : K.length = N := by obtain ⟨p, cap, e⟩ := hv.shape; cases e; rfl
  obtain ⟨A, hA⟩ : ∃ A, o.arr q N c = A := ⟨_, rfl⟩
  rw [hA]
  obtain ⟨W, hW⟩ : ∃ W, (w.alloc (.cells A 31)).alloc (.cells zeroA 39) = W := ⟨_, rfl⟩
  have hb : Bl w W [(A, 31), (zeroA, 39)] := hW ▸ Bl.two w A _ _ _
  have hsz : W.heap.size = w.heap.size + 2 := by rw [← hW]; simp
  have a11 : W.cell? ⟨w.heap.size, 11, none⟩ = some (.int .i64 o.fr) := (hb.cell 0 11 rfl).trans (by rw [← hA]; rfl)
  have a12 : W.cell? ⟨w.heap.size, 12, none⟩ = some (.int .i64 o.hp) := (hb.cell 0 12 rfl).trans (by rw [← hA]; rfl)
  have a13 : W.cell? ⟨w.heap.size, 13, none⟩ = some (.int .i64 o.dl) := (hb.cell 0 13 rfl).trans (by rw [← hA]; rfl)
  have a14 : W.cell? ⟨w.heap.size, 14, none⟩ = some (.int .i64 o.un) := (hb.cell 0 14 rfl).trans (by rw [← hA]; rfl)
  have a15 : W.cell? ⟨w.heap.size, 15, none⟩ = some (.int .i64 o.pr) := (hb.cell 0 15 rfl).trans (by rw [← hA]; rfl)
  have a16 : W.cell? ⟨w.heap.size, 16, none⟩ = some (.int .i64 o.pc) := (hb.cell 0 16 rfl).trans (by rw [← hA]; rfl)
  have a17 : W.cell? ⟨w.heap.size, 17, none⟩ = some (.int .i64 o.dn) := (hb.cell 0 17 rfl).trans (by rw [← hA]; rfl)
  have kA := load_key (u := W) (b := w.heap.size) (o := 0) ((hb.cell 0 0 rfl).trans (show A[0]? = some (.int .i64 o.kn) by rw [← hA]; rfl)) ((hb.cell 0 1 rfl).trans (show A[1]? = some (.int .i64 o.ki) by rw [← hA]; rfl)) ((hb.cell 0 2 rfl).trans (show A[2]? = some (.int .i64 o.ks) by rw [← hA]; rfl)) ((hb.cell 0 3 rfl).trans (show A[3]? = some (.int .i64 o.ka) by rw [← hA]; rfl))
  have rA := load_id (u := W) (b := w.heap.size) (o := 4) ((hb.cell 0 4 rfl).trans (show A[4]? = some (.int .i64 o.rn) by rw [← hA]; rfl)) ((hb.cell 0 5 rfl).trans (show A[5]? = some (.int .i64 o.ri) by rw [← hA]; rfl)) ((hb.cell 0 6 rfl).trans (show A[6]? = some (.int .i64 o.rs) by rw [← hA]; rfl))
  have pA := load_key (u := W) (b := w.heap.size) (o := 7) ((hb.cell 0 7 rfl).trans (show A[7]? = some (.int .i64 o.pn) by rw [← hA]; rfl)) ((hb.cell 0 8 rfl).trans (show A[8]? = some (.int .i64 o.pi) by rw [← hA]; rfl)) ((hb.cell 0 9 rfl).trans (show A[9]? = some (.int .i64 o.ps) by rw [← hA]; rfl)) ((hb.cell 0 10 rfl).trans (show A[10]? = some (.int .i64 o.pa) by rw [← hA]; rfl))
  have c18 : A[18]? = some (.slice q N c) := by rw [← hA]; rfl
  obtain ⟨W2, hW2⟩ : ∃ W2, W.alloc (.cells (o.arr none 0 0) 39) = W2 := ⟨_, rfl⟩
  have hb2 : Bl w W2 [(A, 31), (zeroA, 39), (o.arr none 0 0, 39)] := by rw [← hW2]; exact hb.more hsz _ _
  have HW := Lib.hid hW
  have HW2 := Lib.hid hW2
  have HB2 := Lib.hid hb2
  have HV := Lib.hid hv
  have HN := Lib.hid hN
  have HC := Lib.hid c18
  have hm2 : N ≤ 900000 := by omega
  clear hb hW hW2 hb2 hv hN hA c18
  go_enter Tryz.func7, Tryz.ntmps7
  go_upto_region 1 with fail
  rw [show (w.alloc (.cells A 31)).alloc (.cells #[.int .i64 0, .int .i64 0, .int .i64 0, .int .i64 0, .int .i64 0, .int .i64 0, .int .i64 0, .int .i64 0, .int .i64 0, .int .i64 0, .int .i64 0, .int .i64 0, .int .i64 0, .int .i64 0, .int .i64 0, .int .i64 0, .int .i64 0, .int .i64 0, .slice none 0 0] 39) = W from HW.out]
  go_upto_region 2 with (first
    | (refine load_l 28 (.tmp 5) rfl _ rfl rfl _ kA ?_)
    | (refine load_l 26 (.tmp 7) rfl _ rfl rfl _ rA ?_)
    | (refine load_l 28 (.tmp 9) rfl _ rfl rfl _ pA ?_)
    | (refine store_new rfl 39 (.tmp 3) (.tmp 25) rfl (w.heap.size + 2) (o.arr none 0 0) rfl rfl W _ hsz 19 info_ow rfl rfl (arr_one _ _ _ _) ?_; rw [HW2.out]))
  clear kA rA pA a11 a12 a13 a14 a15 a16 a17
  go_wp2_with fail
  go_loopw [4] (fun y wr => ∃ i : Nat, i ≤ N ∧ y = .int .i64 (i : Int) ∧ ∃ q2 n2 c2, Bl w wr [(A, 31), (zeroA, 39), (o.arr q2 n2 c2, 39)] ∧ Mc wr (.slice q2 n2 c2) (K.take i) ∧ (∀ g, (Value.slice q2 n2 c2).ownBlock = some g → w.heap.size + 3 ≤ g)) (fun y _ => N - (intOf y).toNat)
  case atStart => exact ⟨0, Nat.zero_le _, rfl, none, 0, 0, HB2.out, rowv_nil _ _ _ _, fun g e => by cases e⟩
  case round =>
    obtain ⟨i, hi, rfl, q2, n2, c2, hb, hr, ho⟩ := hrel
    have h18 : wr.cell? ⟨w.heap.size, 18, none⟩ = some (.slice q N c) := (hb.cell 0 18 rfl).trans HC.out
    by_cases hlt : i < N
    · obtain ⟨x, b, off, hx, rfl, hbb, hc⟩ := HV.out.pick (i := i) (by rw [HN.out]; exact hlt)
      have HT := Lib.hid (take_snoc hx)
      obtain ⟨X, hX⟩ : ∃ X, x.arr = X := ⟨_, rfl⟩
      have sX : X.size = 13 := by rw [← hX]; rfl
      have hle : (K.take i).length ≤ 900000 := by rw [List.length_take]; omega
      have hi1 : (i : Int) < (N : Int) := by omega
      obtain ⟨E, hE⟩ : ∃ E, o.arr q2 n2 c2 = E := ⟨_, rfl⟩
      rw [hE] at hb
      have hfx := fold_cl x hX
      have HX := Lib.hid hX
      have cE : E[18]? = some (.slice q2 n2 c2) := by rw [← hE]; rfl
      have HCE := Lib.hid cE
      have HEE := Lib.hid hE
      have HHO := Lib.hid ho
      have hSt : Stab (fun u => Bl w u [(A, 31), (zeroA, 39), (E, 39)] ∧ Mc u (.slice q2 n2 c2) (K.take i)) := fun u u' h k => ⟨h.1.go k, h.2.keep k⟩
      have HCC := Lib.hid (fun (u : World) (hu : Kept w u) => load_rcall (u := u) (b := b) (o := off + i * 13) hX (fun j z hz => (Below.cell hu (p := ⟨b, _, none⟩) hbb).trans (hc j z hz)))
      have C1 := Lib.hid (show ∀ u, Calls Tryz.prog 9 #[.agg X] u fun e w' => e = .returned (.agg X) ∧ Kept u w' from fun u => by have := one_any x u; rw [hX] at this; exact this)
      have HS0 := Lib.hid (And.intro hb hr)
      clear hx hc hX cE hE hb hr ho
      go_upto_region 5 with fail
      refine Av.region 9 (fun u => Bl w u [(A, 31), (zeroA, 39), (E, 39)] ∧ Mc u (.slice q2 n2 c2) (K.take i)) (by kernel_rfl) (hSt _ _ HS0.out (Kept.refl _).drew) ?_
      refine Av.take 0 (some 33) (v := ?_) rfl rfl (by kernel_rfl) (by kernel_rfl) (by kernel_rfl) (by kernel_rfl) (fun _ _ _ h => h) hSt (Au.yq_run (by rfl) (fun u hu => ?_)) ?_
      rotate_left
      · (clear hu; go_simp; try with_reducible rfl)
      simp only [Act.put, List.setIfInBounds_toArray, List.set_cons_zero, List.set_cons_succ]
      refine Av.take 1 (some 34) rfl rfl (by kernel_rfl) (by kernel_rfl) (by kernel_rfl) (by kernel_rfl) (fun _ _ _ h => h) hSt (Au.yq_load 37 (.tmp 33) rfl _ rfl (by rfl) (fun u hu => run_loadm ((hu.1.cell 2 18 rfl).trans HCE.out))) ?_
      simp only [Act.put, List.setIfInBounds_toArray, List.set_cons_zero, List.set_cons_succ]
      refine Av.take 2 (some 35) (v := ?_) rfl rfl (by kernel_rfl) (by kernel_rfl) (by kernel_rfl) (by kernel_rfl) (fun _ _ _ h => h) hSt (Au.yq_run (by rfl) (fun u hu => ?_)) ?_
      rotate_left
      · (clear hu; go_simp; try with_reducible rfl)
      simp only [Act.put, List.setIfInBounds_toArray, List.set_cons_zero, List.set_cons_succ]
      refine Av.take 3 (some 36) rfl rfl (by kernel_rfl) (by kernel_rfl) (by kernel_rfl) (by kernel_rfl) (fun _ _ _ h => h) hSt (Au.yq_load 29 (.tmp 35) rfl _ rfl (by rfl) (fun u hu => run_loads ((hu.1.cell 0 18 rfl).trans HC.out))) ?_
      simp only [Act.put, List.setIfInBounds_toArray, List.set_cons_zero, List.set_cons_succ]
      refine Av.take 4 (some 37) (v := ?_) rfl rfl (by kernel_rfl) (by kernel_rfl) (by kernel_rfl) (by kernel_rfl) (fun _ _ _ h => h) hSt (Au.yq_run (by rfl) (fun u hu => ?_)) ?_
      rotate_left
      · (clear hu; go_simp; try with_reducible rfl)
      simp only [Act.put, List.setIfInBounds_toArray, List.set_cons_zero, List.set_cons_succ]
      refine Av.take 5 (some 38) (v := ?_) rfl rfl (by kernel_rfl) (by kernel_rfl) (by kernel_rfl) (by kernel_rfl) (fun _ _ _ h => h) hSt (Au.yq_run (by rfl) (fun u hu => ?_)) ?_
      rotate_left
      · (clear hu; go_simp; try with_reducible rfl)
      simp only [Act.put, List.setIfInBounds_toArray, List.set_cons_zero, List.set_cons_succ]
      refine Av.take 6 (some 39) rfl rfl (by kernel_rfl) (by kernel_rfl) (by kernel_rfl) (by kernel_rfl) (fun _ _ _ h => h) hSt (Au.yq_load 33 (.tmp 38) rfl _ rfl (by rfl) (fun u hu => HCC.out u hu.1.kept)) ?_
      simp only [Act.put, List.setIfInBounds_toArray, List.set_cons_zero, List.set_cons_succ]
      refine Av.take 7 (some 40) rfl rfl (by kernel_rfl) (by kernel_rfl) (by kernel_rfl) (by kernel_rfl) (fun _ _ _ h => h) hSt (Au.yq_call 9 _ (by rfl) (fun u => by go_simp) (fun u hu => C1.out u)) ?_
      simp only [Act.put, List.setIfInBounds_toArray, List.set_cons_zero, List.set_cons_succ]
      refine Av.step 8 rfl (by kernel_rfl) (fun w1 hw1 K1 hK1 => ?_)
      rw [if_pos (by rfl)]
      go_simp
      refine hK1.out (fun u => (fun u => Bl w u [(A, 31), (zeroA, 39), (E, 39)] ∧ Mc u (.slice q2 n2 c2) (K.take i)) u ∧ u.heap[w1.heap.size]? = some (.cells X 41 (0, 0))) _ _ ⟨hSt _ _ hw1 (Kept.one _ _), blk_new w1 _⟩ (stab_and hSt (fun u u' h k => kept_at k h)) (fun u hu => hu.1) ?_
      clear hK1 K1
      refine Av.tail_list 9 rfl (by kernel_rfl) (by decide) (fun w2 hw2 K2 hK2 => ?_)
      refine wpList_append_rowv enc_cl w2 rfl _ _ rfl (.slice q2 n2 c2) (.slice (some ⟨w1.heap.size, 0, none⟩) 1 1) (K.take i) [x] rfl rfl hw2.1.2 (src_one HX.out hw2.2) (by simp only [List.length_singleton]; omega) ?_
      intro v4 w4 r4 g4 b4
      obtain ⟨q4, n4, c4, rfl⟩ := r4.shape
      have ff := (Fr.refl (fun j => w.heap.size + 3 ≤ j) w2).grown g4 (fun k e => .inl (HHO.out k e))
      have hb4 := hw2.1.1.fr ff (fun k h => h)
      have ho4 : ∀ g, (Value.slice q4 n4 c4).ownBlock = some g → w.heap.size + 3 ≤ g := fun g e => by
        rcases b4 with h | ⟨g', h, hg⟩
        · exact HHO.out g (h.symm.trans e)
        · obtain rfl : g' = g := Option.some.inj (h.symm.trans e)
          have := hw2.1.1.size
          simp at this
          omega
      have y4 : w4.cell? ⟨w.heap.size + 2, 18, none⟩ = some (.slice q2 n2 c2) := (hb4.cell 2 18 rfl).trans HCE.out
      have f4 : w4.frozen? ⟨w.heap.size + 2, 18, none⟩ = false := hb4.free 2 18 rfl
      have H4 := Lib.hid (And.intro r4 (And.intro hb4 ho4))
      clear r4 g4 b4 ff hb4 ho4
      refine wpList_nil (hK2.out _ _ ?_)
      clear hK2 K2 hw2
      refine Av.tail 10 rfl (by kernel_rfl) (by decide) (fun w5 hw5 K5 hK5 => ?_)
      subst hw5
      rw [if_pos (by rfl)]
      go_simp
      refine hK5.out _ _ ?_
      clear hK5 K5
      refine Av.tail 11 rfl (by kernel_rfl) (by decide) (fun w5 hw5 K5 hK5 => ?_)
      subst hw5
      rw [if_pos (by rfl)]
      go_simp
      refine hK5.out _ _ ?_
      clear hK5 K5
      refine Av.done (by kernel_rfl) (fun u hu => ?_)
      subst hu
      go_wp2_with fail
      go_roundw
      case rel =>
        have hr4 := H4.out.1.kept (w' := w4.setCell ⟨w.heap.size + 2, 18, none⟩ (.slice q4 n4 c4)) (fun g e => by
          have := H4.out.2.2 g e
          exact Below.heap_setCell _ _ _ _ (by show g ≠ w.heap.size + 2; omega))
        refine ⟨i + 1, hlt, by go_num, q4, n4, c4, ?_, by rw [HT.out]; exact hr4, H4.out.2.2⟩
        have := H4.out.2.1.put 2 18 rfl (.slice q4 n4 c4)
        rwa [show E.setIfInBounds 18 (.slice q4 n4 c4) = o.arr q4 n4 c4 by rw [← HEE.out]; exact arr_set _ _ _ _ _ _ _] at this
      case measure => simp [intOf]; omega
    · obtain rfl : i = N := by omega
      have hKN : K.take i = K := List.take_of_length_le (by rw [HN.out]; exact Nat.le_refl _)
      rw [hKN] at hr
      obtain ⟨E, hE⟩ : ∃ E, o.arr q2 n2 c2 = E := ⟨_, rfl⟩
      rw [hE] at hb
      have sE : E.size = 19 := by rw [← hE]; rfl
      have oE : E.all (·.oneCell') = true := by rw [← hE]; exact arr_one _ _ _ _
      have lE : (loadVar 39 ⟨w.heap.size + 2, 0, none⟩).run Tryz.prog wr = .ok (.agg E) wr := load_ow (hb.blk 2 rfl) sE
      have HR := Lib.hid (And.intro hr (And.intro ho hb))
      have HE := Lib.hid hE
      clear hr ho hb hE
      go_upto_region 6 with fail
      go_wp2_with (first
        | (refine load_l 39 (.tmp 3) rfl _ rfl rfl (.agg E) lE ?_)
        | (refine wpList_store_row rfl 39 (.tmp 2) (.tmp 44) rfl (w.heap.size + 1) E rfl rfl 39 zeroA (HR.out.2.2.blk 1 rfl) (by rw [sE]; exact info_ow) (by rw [sE]; rfl) oE ?_))
      have hb6 := HR.out.2.2.row 1 rfl E
      refine bodyPost_ret (results_cell_row rfl _ _ (w.heap.size + 1) 39 E (0, 0) _ rfl (hb6.blk 1 rfl) Tryz.underlying39 rfl (by rw [sE]; exact info_ow)) rfl ?_
      refine ⟨q2, n2, c2, by rw [HE.out], HR.out.1.kept (fun g e => ?_), fun g e => ?_, hb6.kept⟩
      · have := HR.out.2.1 g e
        exact setRow_other _ _ _ _ (by omega)
      · have := HR.out.2.1 g e
        omega

end Go.Proofs.YtncdiggejofbbaaGreatDoor.Ow
