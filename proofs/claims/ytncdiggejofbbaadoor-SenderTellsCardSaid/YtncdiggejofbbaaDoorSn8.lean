/- Cancels, Keeps: package sender. -/
import Derived.Test.YtncdiggejofbbaaDoorSn7
namespace Go.Proofs.YtncdiggejofbbaaDoor.Sn
open Go.RowKit Go.Sort Go.Shelf St PkM Ad Po Blk Eqs
open Go.Proofs.YtncdiggejofbbaaDoor.Cl
open Go.Proofs.YtncdiggejofbbaaDoor.Ow
open Go.Proofs.YtncdiggejofbbaaDoor.Ls
open Go.Proofs.YtncdiggejofbbaaDoor.Rv
open Wh (Fr)
open Go.Proofs.YtncdiggejofbbaaDoor.Au (Stab stab_and)
open Go.Proofs.YtncdiggejofbbaaDoor.Ad (load_w load_l store_new)
set_option linter.unusedVariables false
set_option linter.unusedSimpArgs false

theorem src_pk {p : Pk} {w : World} {g : Nat} {X : Array Value} {t : TypeId} (hX : p.arr = X) (h : w.heap[g]? = some (.cells X t (0, 0))) : SrcV w (.slice (some ⟨g, 0, none⟩) 1 1) encP [p] :=
  ⟨⟨g, 0, none⟩, 1, rfl, fun j y hj => by
    rw [Rv.addr_add, Nat.zero_add, blk_cell h, ← Array.getElem?_toList]
    rw [fl_one] at hj
    rw [← hX]
    exact hj⟩
theorem fold_pk (p : Pk) {X : Array Value} (h : p.arr = X) : Array.foldl (fun (cs : Array Value) (y : Value × Nat) => cs.setIfInBounds y.snd y.fst) #[.int .i64 0, .int .i64 0, .int .i64 0, .int .i64 0, .int .i64 0, .int .i64 0, .int .i64 0, .int .i64 0, .int .i64 0, .string ⟨#[]⟩, .int .i64 0, .int .i64 0, .int .i64 0, .int .i64 0, .int .i64 0, .int .i64 0, .int .i64 0, .int .i64 0, .int .i64 0, .int .i64 0, .int .i64 0, .bool false, .int .i64 0] (X.zipIdx 0) 0 23 = X := by
  subst h
  obtain ⟨x0, x1, x2, x3, x4, x5, x6, x7, x8, x9, x10, x11, x12, x13, x14, x15, x16, x17, x18, x19, x20, x21, x22⟩ := p
  simp [Pk.arr]
theorem run_loadp {w : World} {p : Addr} {q : Option Addr} {n c : Nat} (hc : w.cell? p = some (.slice q n c)) : (loadVar 64 p).run Tryd.prog w = .ok (.slice q n c) w := by go_simp
/-- where me is held -/
def BaseC (bm : Nat) (me : Int) (u : World) : Prop := u.heap[bm]? = some (.cells #[.int .i64 me] 3 (0, 0))
/-- where me, and the owner, are held -/
def BaseK (bm bo : Nat) (me : Int) (A : Array Value) (u : World) : Prop := BaseC bm me u ∧ u.heap[bo]? = some (.cells A 42 (0, 0))
theorem base_c {bp bm : Nat} {me : Int} (h : bm < bp) (u u' : World) (hb : BaseC bm me u) (hf : Fr (fun k => bp ≤ k) u u') : BaseC bm me u' := by
  unfold BaseC at *
  rw [hf.block bm (blk_lt hb) (by omega)]; exact hb
theorem base_k {bp bm bo : Nat} {me : Int} {A : Array Value} (h : bm < bp) (h2 : bo < bp) (u u' : World) (hb : BaseK bm bo me A u) (hf : Fr (fun k => bp ≤ k) u u') : BaseK bm bo me A u' :=
  ⟨base_c h u u' hb.1 hf, by rw [hf.block bo (blk_lt hb.2) (by omega)]; exact hb.2⟩

set_option maxRecDepth 100000 in
set_option maxHeartbeats 4000000 in
theorem cancels1 (bp bm : Nat) (hbm : bm < bp) (me : Int) (o : Ow) : Hands bp (wtP 3 me o) (BaseC bm me) 59 #[.pointer (some ⟨bp, 0, none⟩), .pointer (some ⟨bm, 0, none⟩)] := by
  intro w v L x hb ha hl
  obtain ⟨X, hX⟩ : ∃ X, x.arr = X := ⟨_, rfl⟩
  have sX : X.size = 13 := by rw [← hX]; rfl
  obtain ⟨R, hR⟩ : ∃ R, onw 3 me x = R := ⟨_, rfl⟩
  have hR2 : wtP 3 me o x = R := hR
  have C1 := Lib.hid (show ∀ u, Calls Tryd.prog 60 #[.int .i64 3, .int .i64 me, .agg X] u fun e w' => e = .returned (.agg R.arr) ∧ Kept u w' from fun u => by rw [← hX, ← hR]; exact onward_any 3 me x u)
  rw [hX, hR2]
  obtain ⟨W, hW⟩ : ∃ W, w.alloc (.cells X 35) = W := ⟨_, rfl⟩
  have hL : Bl w W [(X, 35)] := hW ▸ Bl.one w X _
  obtain ⟨q0, n0, c0, rfl⟩ := ha.row.shape
  have HW := Lib.hid hW
  have HS := Lib.hid (show BaseC bm me W ∧ Acc bp (.slice q0 n0 c0) L W ∧ Bl w W [(X, 35)] from ⟨base_c hbm _ _ hb (Fr.kept hL.kept), ha.go hL.kept, hL⟩)
  have HA := Lib.hid ha
  have hbp : bp < w.heap.size := blk_lt ha.var
  obtain ⟨Z, hZ⟩ : ∃ Z, R.arr = Z := ⟨_, rfl⟩
  have hfx := fold_pk R hZ
  have sZ : Z.size = 23 := by rw [← hZ]; rfl
  rw [hZ] at C1
  clear hW hL hX hR hR2 hb ha
  show Calls Tryd.prog 59 #[.agg X, .pointer (some ⟨bp, 0, none⟩), .pointer (some ⟨bm, 0, none⟩)] w _
  go_enter Tryd.func59, Tryd.ntmps59
  go_upto_region 1 with fail
  rw [HW.out]
  have hSt : Stab (fun u => BaseC bm me u ∧ Acc bp (.slice q0 n0 c0) L u ∧ Bl w u [(X, 35)]) := fun u u' h k => ⟨base_c hbm _ _ h.1 (Fr.kept k), h.2.1.go k, h.2.2.go k⟩
  refine Av.region 5 (fun u => BaseC bm me u ∧ Acc bp (.slice q0 n0 c0) L u ∧ Bl w u [(X, 35)]) (by kernel_rfl) (hSt _ _ HS.out (Kept.refl _).drew) ?_
  refine Av.take 0 (some 4) rfl rfl (by kernel_rfl) (by kernel_rfl) (by kernel_rfl) (by kernel_rfl) (fun _ _ _ h => h) hSt (Au.yq_load 64 (.tmp 1) rfl _ rfl (by rfl) (fun u hu => run_loadp (blk_cell hu.2.1.var 0))) ?_
  simp only [Act.put, List.setIfInBounds_toArray, List.set_cons_zero, List.set_cons_succ]
  refine Av.take 1 (some 5) rfl rfl (by kernel_rfl) (by kernel_rfl) (by kernel_rfl) (by kernel_rfl) (fun _ _ _ h => h) hSt (Au.yq_load 3 (.tmp 2) rfl _ rfl (by rfl) (fun u hu => run_loadi (blk_cell hu.1 0))) ?_
  simp only [Act.put, List.setIfInBounds_toArray, List.set_cons_zero, List.set_cons_succ]
  refine Av.take 2 (some 6) rfl rfl (by kernel_rfl) (by kernel_rfl) (by kernel_rfl) (by kernel_rfl) (fun _ _ _ h => h) hSt (Au.yq_load 35 (.tmp 3) rfl _ rfl (by rfl) (fun u hu => load_cl (hu.2.2.blk 0 rfl) sX)) ?_
  simp only [Act.put, List.setIfInBounds_toArray, List.set_cons_zero, List.set_cons_succ]
  refine Av.take 3 (some 7) rfl rfl (by kernel_rfl) (by kernel_rfl) (by kernel_rfl) (by kernel_rfl) (fun _ _ _ h => h) hSt (Au.yq_call 60 _ (by rfl) (fun u => by go_simp) (fun u hu => C1.out u)) ?_
  simp only [Act.put, List.setIfInBounds_toArray, List.set_cons_zero, List.set_cons_succ]
  refine Av.step 4 rfl (by kernel_rfl) (fun w1 hw1 K1 hK1 => ?_)
  rw [if_pos (by rfl)]
  go_simp
  refine hK1.out (fun u => (fun u => BaseC bm me u ∧ Acc bp (.slice q0 n0 c0) L u ∧ Bl w u [(X, 35)]) u ∧ u.heap[w1.heap.size]? = some (.cells Z 37 (0, 0)) ∧ Kept w1 u) _ _ ⟨hSt _ _ hw1 (Kept.one _ _), blk_new w1 _, Kept.one _ _⟩ (stab_and hSt (fun u u' h k => ⟨kept_at k h.1, h.2.trans k⟩)) (fun u hu => hu.1) ?_
  clear hK1 K1
  refine Av.tail_list 5 rfl (by kernel_rfl) (by decide) (fun w2 hw2 K2 hK2 => ?_)
  refine wpList_append_rowv enc_pk w2 rfl _ _ rfl (.slice q0 n0 c0) (.slice (some ⟨w1.heap.size, 0, none⟩) 1 1) L [R] rfl rfl hw2.1.2.1.row (src_pk hZ hw2.2.1) (by simp only [List.length_singleton]; omega) ?_
  intro v4 w4 r4 g4 b4
  have hsz : w.heap.size ≤ w2.heap.size := Below.size hw2.1.2.2.kept
  have ff : Fr (fun k => bp ≤ k) w w4 := (Fr.kept (S := fun k => bp ≤ k) hw2.1.2.2.kept).trans ((Fr.refl (fun j => bp ≤ j) w2).grown g4 (fun k e => .inl (Nat.le_of_lt (HA.out.own k e)))) (fun j hj => .inl hj)
  have ho4 : ∀ g, v4.ownBlock = some g → bp < g := fun g e => by
    rcases b4 with h | ⟨g', h, hg⟩
    · exact HA.out.own g (h.symm.trans e)
    · obtain rfl : g' = g := Option.some.inj (h.symm.trans e)
      omega
  have hv4 : w4.heap[bp]? = some (.cells #[.slice q0 n0 c0] 64 (0, 0)) := by
    rw [g4.block bp (by omega) (fun c => by have := HA.out.own bp c.symm; omega)]; exact hw2.1.2.1.var
  have y4 : w4.cell? ⟨bp, 0, none⟩ = some (.slice q0 n0 c0) := blk_cell hv4 0
  have f4 : w4.frozen? ⟨bp, 0, none⟩ = false := blk_free hv4 0
  obtain ⟨q4, n4, c4, rfl⟩ := r4.shape
  have H4 := Lib.hid (And.intro r4 (And.intro ff (And.intro ho4 hv4)))
  clear r4 g4 b4 ff ho4 hv4
  refine wpList_nil (hK2.out _ _ ?_)
  clear hK2 K2 hw2
  refine Av.tail 6 rfl (by kernel_rfl) (by decide) (fun w5 hw5 K5 hK5 => ?_)
  subst hw5
  rw [if_pos (by rfl)]
  go_simp
  refine hK5.out _ _ ?_
  clear hK5 K5
  refine Av.done (by kernel_rfl) (fun u hu => ?_)
  subst hu
  go_wp2_with fail
  refine bodyPost_end (results_none rfl _ _ _) rfl ⟨rfl, .slice q4 n4 c4, ⟨blk_set H4.out.2.2.2 0 (.slice q4 n4 c4), H4.out.1.kept (fun g e => Below.heap_setCell _ _ _ _ (by have := H4.out.2.2.1 g e; show g ≠ bp; omega)), H4.out.2.2.1⟩, ?_⟩
  exact H4.out.2.1.setCell (.inl (Nat.le_refl bp)) _

set_option maxRecDepth 100000 in
set_option maxHeartbeats 4000000 in
theorem keeps1 (bp bm bo : Nat) (hbm : bm < bp) (hbo : bo < bp) (me : Int) (o : Ow) (q : Option Addr) (N c : Nat) : Hands bp (wtP 4 me o) (BaseK bm bo me (o.arr q N c)) 61 #[.pointer (some ⟨bm, 0, none⟩), .pointer (some ⟨bo, 0, none⟩), .pointer (some ⟨bp, 0, none⟩)] := by
  intro w v L x hb ha hl
  obtain ⟨X, hX⟩ : ∃ X, x.arr = X := ⟨_, rfl⟩
  obtain ⟨A, hA⟩ : ∃ A, o.arr q N c = A := ⟨_, rfl⟩
  have sX : X.size = 13 := by rw [← hX]; rfl
  have c14 : A[14]? = some (.int .i64 o.un) := by rw [← hA]; rfl
  obtain ⟨P, hP⟩ : ∃ P, onw 4 me x = P := ⟨_, rfl⟩
  obtain ⟨z, hz⟩ : ∃ z, Tk.clamp o.un = z := ⟨_, rfl⟩
  obtain ⟨R, hR⟩ : ∃ R, wtP 4 me o x = R := ⟨_, rfl⟩
  have hPR : P.arr.setIfInBounds 10 (.int .i64 z) = R.arr := by rw [← hP, ← hR, ← hz]; rfl
  have p10 : P.arr[10]? = some (.int .i64 0) := by rw [← hP]; rfl
  have C1 := Lib.hid (show ∀ u, Calls Tryd.prog 60 #[.int .i64 4, .int .i64 me, .agg X] u fun e w' => e = .returned (.agg P.arr) ∧ Kept u w' from fun u => by rw [← hX, ← hP]; exact onward_any 4 me x u)
  have C2 := Lib.hid (show ∀ u, Calls Tryd.prog 62 #[.int .i64 o.un] u fun e w' => e = .returned (.int .i64 z) ∧ u = w' from fun u => by rw [← hz]; exact Tk.clamp_any _ u)
  rw [hX, hR]
  rw [hA] at hb
  obtain ⟨W, hW⟩ : ∃ W, w.alloc (.cells X 35) = W := ⟨_, rfl⟩
  have hL : Bl w W [(X, 35)] := hW ▸ Bl.one w X _
  obtain ⟨q0, n0, c0, rfl⟩ := ha.row.shape
  have HW := Lib.hid hW
  have hbW := base_k hbm hbo _ _ hb (Fr.kept hL.kept)
  have lm : W.cell? ⟨bm, 0, none⟩ = some (.int .i64 me) := blk_cell hbW.1 0
  have HS := Lib.hid (show BaseK bm bo me A W ∧ Acc bp (.slice q0 n0 c0) L W ∧ Bl w W [(X, 35)] from ⟨hbW, ha.go hL.kept, hL⟩)
  have HA := Lib.hid ha
  have hbp : bp < w.heap.size := blk_lt ha.var
  obtain ⟨Z, hZ⟩ : ∃ Z, R.arr = Z := ⟨_, rfl⟩
  have hfx := fold_pk R hZ
  have sZ : Z.size = 23 := by rw [← hZ]; rfl
  have HZ := Lib.hid hZ
  obtain ⟨PA, hPA⟩ : ∃ PA, P.arr = PA := ⟨_, rfl⟩
  have sPA : PA.size = 23 := by rw [← hPA]; rfl
  have oPA : PA.all (·.oneCell') = true := by rw [← hPA]; exact pk_one P
  rw [hPA] at C1 p10 hPR
  rw [hZ] at hPR
  have HPR := Lib.hid hPR
  clear hW hL hX hR hb ha hA hP hz hZ hPA hPR hbW
  show Calls Tryd.prog 61 #[.agg X, .pointer (some ⟨bm, 0, none⟩), .pointer (some ⟨bo, 0, none⟩), .pointer (some ⟨bp, 0, none⟩)] w _
  go_enter Tryd.func61, Tryd.ntmps61
  go_upto_region 1 with fail
  rw [HW.out]
  go_upto_region 2 with (first
    | (refine load_w 35 (.tmp 4) rfl w.heap.size rfl rfl X 13 (HS.out.2.2.blk 0 rfl) Tryd.underlying35 sX info_cl ?_)
    | (go_at_call 60; refine (C1.out _).mono ?_; rintro e u ⟨rfl, k⟩)
    | (refine store_new rfl 37 (.tmp 5) (.tmp 8) rfl u.heap.size PA rfl rfl u _ rfl 23 info_pk sPA rfl oPA ?_))
  obtain ⟨V, hV⟩ : ∃ V, u.alloc (.cells PA 37) = V := ⟨_, rfl⟩
  rw [hV]
  have hb : Bl u V [(PA, 37)] := by rw [← hV]; exact Bl.one u _ _
  have kV : Kept W V := k.trans hb.kept
  obtain ⟨g, hg⟩ : ∃ g, u.heap.size = g := ⟨_, rfl⟩
  have hug : w.heap.size ≤ g := by rw [← hg]; exact Nat.le_trans (Below.size HS.out.2.2.kept) (Below.size k)
  rw [hg]
  have hB := base_k hbm hbo _ _ HS.out.1 (Fr.kept kV)
  have a14 : V.cell? ⟨bo, 14, none⟩ = some (.int .i64 o.un) := (blk_cell hB.2 14).trans c14
  have y10 : V.cell? ⟨g, 10, none⟩ = some (.int .i64 0) := by rw [← hg]; exact (hb.cell 0 10 rfl).trans p10
  have f10 : V.frozen? ⟨g, 10, none⟩ = false := by rw [← hg]; exact hb.free 0 10 rfl
  have hb2 : Bl u (V.setCell ⟨g, 10, none⟩ (.int .i64 z)) [(Z, 37)] := by
    have := hb.put 0 10 rfl (.int .i64 z)
    rw [show u.heap.size + 0 = g from hg] at this
    exact this.as (by rw [← HPR.out]; rfl)
  have HV := Lib.hid (And.intro hb2 (And.intro (k.trans hb2.kept) hg))
  clear hV hb kV hg hB hb2 k
  go_upto_region 3 with (go_at_call 62; refine (C2.out _).mono ?_; rintro e u2 ⟨rfl, rfl⟩)
  obtain ⟨V2, hV2⟩ : ∃ V2, V.setCell ⟨g, 10, none⟩ (.int .i64 z) = V2 := ⟨_, rfl⟩
  rw [hV2] at HV ⊢
  clear a14 y10 f10 hV2 lm
  have bg : V2.heap[g]? = some (.cells Z 37 (0, 0)) := by have := HV.out.1.blk 0 rfl; rwa [show u.heap.size + 0 = g from HV.out.2.2] at this
  have hacc := HS.out.2.1.go HV.out.2.1
  have l0 := run_loadp (blk_cell hacc.var 0 : V2.cell? ⟨bp, 0, none⟩ = _)
  have HB := Lib.hid (And.intro hacc bg)
  have HK := Lib.hid (HS.out.2.2.kept.trans HV.out.2.1)
  clear hacc bg HV HS
  go_upto_region 3 with fail
  go_wp2_with (first
    | (refine load_l 64 (.tmp 3) rfl _ rfl rfl _ l0 ?_)
    | (refine load_w 37 (.tmp 5) rfl g rfl rfl Z 23 HB.out.2 Tryd.underlying37 (by rw [← HZ.out]; rfl) info_pk ?_)
    | (at_builtin; refine wpList_append_onev enc_pk V2 rfl _ _ rfl (.slice q0 n0 c0) L R Z (by rw [← HZ.out]; rfl) rfl rfl HB.out.1.row hl ?_; intro v4 w4 r4 g4 b4; obtain ⟨q4, n4, c4, rfl⟩ := r4.shape; have hv4 : w4.heap[bp]? = some (.cells #[.slice q0 n0 c0] 64 (0, 0)) := ((g4.block bp (by have := blk_lt HB.out.1.var; simp; omega) (fun c => by have := HB.out.1.own bp c.symm; omega)).trans (kept_at (Kept.one V2 _) HB.out.1.var)); have y4 : w4.cell? ⟨bp, 0, none⟩ = some (.slice q0 n0 c0) := blk_cell hv4 0; have f4 : w4.frozen? ⟨bp, 0, none⟩ = false := blk_free hv4 0))
  have ff : Fr (fun k => bp ≤ k) w w4 := (Fr.kept (S := fun k => bp ≤ k) (HK.out.more _)).trans ((Fr.refl (fun j => bp ≤ j) (V2.alloc (.cells Z 37))).grown g4 (fun k e => .inl (Nat.le_of_lt (HB.out.1.own k e)))) (fun j hj => .inl hj)
  have ho4 : ∀ g, (Value.slice q4 n4 c4).ownBlock = some g → bp < g := fun g e => by
    rcases b4 with h | ⟨g', h, hg⟩
    · exact HB.out.1.own g (h.symm.trans e)
    · obtain rfl : g' = g := Option.some.inj (h.symm.trans e)
      have := Below.size HK.out
      omega
  refine bodyPost_end (results_none rfl _ _ _) rfl ⟨rfl, .slice q4 n4 c4, ⟨blk_set hv4 0 (.slice q4 n4 c4), r4.kept (fun g e => Below.heap_setCell _ _ _ _ (by have := ho4 g e; show g ≠ bp; omega)), ho4⟩, ?_⟩
  exact ff.setCell (.inl (Nat.le_refl bp)) _

set_option maxRecDepth 100000 in
set_option maxHeartbeats 4000000 in
theorem cancels_any {w : World} {q : Option Addr} {N c : Nat} {K : List Cl} (me : Int) (o : Ow) (hv : Cls w (.slice q N c) K) (hl : K.length ≤ 900000) :
    Calls Tryd.prog 25 #[.int .i64 me, .agg (o.arr q N c)] w fun e w' => ∃ v, e = .returned v ∧ Mp w' v (waitL (wtP 3 me o) K) ∧ (∀ g, v.ownBlock = some g → w.heap.size ≤ g) ∧ Kept w w' := by
  obtain ⟨W, hW⟩ : ∃ W, ((w.alloc (.cells #[.int .i64 me] 3)).alloc (.cells (o.arr q N c) 42)).alloc (.cells #[.slice none 0 0] 64) = W := ⟨_, rfl⟩
  have hL : Bl w W [(#[.int .i64 me], 3), (o.arr q N c, 42), (#[.slice none 0 0], 64)] := hW ▸ Bl.three w _ _ _ _ _ _
  have eg : ∀ (args : Array Value) (u : World), (callFunc 59 args).run Tryd.prog u = .ok (.enter 59 args) u := fun args u => by go_simp
  have HC := Lib.hid (show Calls Tryd.prog 58 #[.agg (o.arr q N c), .func (.func 59) #[] #[.pointer (some ⟨w.heap.size + 1 + 1, 0, none⟩), .pointer (some ⟨w.heap.size, 0, none⟩)]] W fun e w' => e = .returned (.tuple #[]) ∧ ∃ v', Acc (w.heap.size + 1 + 1) v' (waitL (wtP 3 me o) K) w' ∧ Kept w w' from
    waiting_any o hv (w.heap.size + 1 + 1) (by omega) hL.kept hl _ (BaseC w.heap.size me) (fun u u' => base_c (by omega) u u') 59 _ eg (cancels1 (w.heap.size + 1 + 1) w.heap.size (by omega) me o) (.slice none 0 0) ⟨hL.blk 2 rfl, rowv_nil _ _ _ _, fun g e => by cases e⟩ (hL.blk 0 rfl))
  obtain ⟨A, hA⟩ : ∃ A, o.arr q N c = A := ⟨_, rfl⟩
  have sA : A.size = 19 := by rw [← hA]; rfl
  rw [hA] at HC hL hW ⊢
  have HW := Lib.hid hW
  have HL := Lib.hid hL
  clear hA hW hL hv eg
  go_enter Tryd.func25, Tryd.ntmps25
  go_upto_region 2 with fail
  rw [HW.out]
  go_wp2_with (first
    | (refine load_w 42 (.tmp 3) rfl (w.heap.size + 1) rfl rfl A 19 (HL.out.blk 1 rfl) Tryd.underlying42 sA info_ow ?_)
    | (go_at_call 58; refine HC.out.mono ?_; rintro e w1 ⟨rfl, v1, ha1, hk1⟩; obtain ⟨q1, n1, c1, rfl⟩ := ha1.row.shape; have l1 : w1.cell? ⟨w.heap.size + 1 + 1, 0, none⟩ = some (.slice q1 n1 c1) := blk_cell ha1.var 0))
  go_ret
  exact ⟨_, rfl, ha1.row, fun g e => by have := ha1.own g e; omega, hk1⟩

set_option maxRecDepth 100000 in
set_option maxHeartbeats 4000000 in
theorem keeps_any {w : World} {q : Option Addr} {N c : Nat} {K : List Cl} (me : Int) (o : Ow) (hv : Cls w (.slice q N c) K) (hl : K.length ≤ 900000) :
    Calls Tryd.prog 27 #[.int .i64 me, .agg (o.arr q N c)] w fun e w' => ∃ v, e = .returned v ∧ Mp w' v (waitL (wtP 4 me o) K) ∧ (∀ g, v.ownBlock = some g → w.heap.size ≤ g) ∧ Kept w w' := by
  obtain ⟨W, hW⟩ : ∃ W, ((w.alloc (.cells #[.int .i64 me] 3)).alloc (.cells (o.arr q N c) 42)).alloc (.cells #[.slice none 0 0] 64) = W := ⟨_, rfl⟩
  have hL : Bl w W [(#[.int .i64 me], 3), (o.arr q N c, 42), (#[.slice none 0 0], 64)] := hW ▸ Bl.three w _ _ _ _ _ _
  have eg : ∀ (args : Array Value) (u : World), (callFunc 61 args).run Tryd.prog u = .ok (.enter 61 args) u := fun args u => by go_simp
  have HC := Lib.hid (show Calls Tryd.prog 58 #[.agg (o.arr q N c), .func (.func 61) #[] #[.pointer (some ⟨w.heap.size, 0, none⟩), .pointer (some ⟨w.heap.size + 1, 0, none⟩), .pointer (some ⟨w.heap.size + 1 + 1, 0, none⟩)]] W fun e w' => e = .returned (.tuple #[]) ∧ ∃ v', Acc (w.heap.size + 1 + 1) v' (waitL (wtP 4 me o) K) w' ∧ Kept w w' from
    waiting_any o hv (w.heap.size + 1 + 1) (by omega) hL.kept hl _ (BaseK w.heap.size (w.heap.size + 1) me (o.arr q N c)) (fun u u' => base_k (by omega) (by omega) u u') 61 _ eg (keeps1 (w.heap.size + 1 + 1) w.heap.size (w.heap.size + 1) (by omega) (by omega) me o q N c) (.slice none 0 0) ⟨hL.blk 2 rfl, rowv_nil _ _ _ _, fun g e => by cases e⟩ (⟨hL.blk 0 rfl, hL.blk 1 rfl⟩))
  obtain ⟨A, hA⟩ : ∃ A, o.arr q N c = A := ⟨_, rfl⟩
  have sA : A.size = 19 := by rw [← hA]; rfl
  rw [hA] at HC hL hW ⊢
  have HW := Lib.hid hW
  have HL := Lib.hid hL
  clear hA hW hL hv eg
  go_enter Tryd.func27, Tryd.ntmps27
  go_upto_region 2 with fail
  rw [HW.out]
  go_wp2_with (first
    | (refine load_w 42 (.tmp 3) rfl (w.heap.size + 1) rfl rfl A 19 (HL.out.blk 1 rfl) Tryd.underlying42 sA info_ow ?_)
    | (go_at_call 58; refine HC.out.mono ?_; rintro e w1 ⟨rfl, v1, ha1, hk1⟩; obtain ⟨q1, n1, c1, rfl⟩ := ha1.row.shape; have l1 : w1.cell? ⟨w.heap.size + 1 + 1, 0, none⟩ = some (.slice q1 n1 c1) := blk_cell ha1.var 0))
  go_ret
  exact ⟨_, rfl, ha1.row, fun g e => by have := ha1.own g e; omega, hk1⟩

end Go.Proofs.YtncdiggejofbbaaDoor.Sn
