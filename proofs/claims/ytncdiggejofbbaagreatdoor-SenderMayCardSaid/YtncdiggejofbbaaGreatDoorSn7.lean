/- Those that wait are handed on one by one (a closure that lays a packet each into a row of its caller's): sender.waiting, Cancels, Keeps. Cancels, Keeps: package sender. -/
import Derived.Test.YtncdiggejofbbaaGreatDoorSn
import Derived.Test.YtncdiggejofbbaaGreatDoorOw5
import Derived.Test.YtncdiggejofbbaaGreatDoorAu
import Derived.LoopTactic
import Derived.Shelf.Abstract
namespace Go.Proofs.YtncdiggejofbbaaGreatDoor.Sn
open Go.RowKit Go.Sort Go.Shelf St PkM Ad Po Blk Eqs
open Go.Proofs.YtncdiggejofbbaaGreatDoor.Cl
open Go.Proofs.YtncdiggejofbbaaGreatDoor.Ow
open Go.Proofs.YtncdiggejofbbaaGreatDoor.Ls
open Go.Proofs.YtncdiggejofbbaaGreatDoor.Rv
open Wh (Fr)
open Go.Proofs.YtncdiggejofbbaaGreatDoor.Au (Stab stab_and)
open Go.Proofs.YtncdiggejofbbaaGreatDoor.Ad (load_w load_l store_new)
set_option linter.unusedVariables false
set_option linter.unusedSimpArgs false

def encP (p : Pk) : List Value := p.arr.toList
def zsP : List Value := Pk.none.arr.toList
theorem encP_len (p : Pk) : (encP p).length = 23 := rfl
theorem oneP (p : Pk) : ∀ u ∈ encP p, u.oneCell' = true := fun u hu => by
  have := pk_one p
  rw [Array.all_eq_true_iff_forall_mem] at this
  exact this u (by unfold encP at hu; simpa using hu)
theorem enc_pk : EncT (α := Pk) 47 43 23 192 zsP encP :=
  ⟨Tryz.underlying47, by kernel_rfl, by decide, by decide, rfl, oneP _, encP_len, oneP⟩
abbrev Mp (W : World) (v : Value) (L : List Pk) : Prop := RowV W v 43 23 encP L

/-- the packet for one that waits -/
def wtP (k me : Int) (o : Ow) (x : Cl) : Pk := if k = 4 then { onw 4 me x with til := Tk.clamp o.un } else onw k me x
/-- .. for all of them -/
def waitL (f : Cl → Pk) (K : List Cl) : List Pk := (K.filter fun x => x.st == 1).map f
theorem wait_yes {f : Cl → Pk} {K : List Cl} {i : Nat} {x : Cl} (h : K[i]? = some x) (hs : x.st = 1) : waitL f (K.take (i + 1)) = waitL f (K.take i) ++ [f x] := by
  unfold waitL
  rw [List.take_add_one, h, List.filter_append, List.map_append]
  simp [hs]
theorem wait_no {f : Cl → Pk} {K : List Cl} {i : Nat} {x : Cl} (h : K[i]? = some x) (hs : ¬ x.st = 1) : waitL f (K.take (i + 1)) = waitL f (K.take i) := by
  unfold waitL
  rw [List.take_add_one, h, List.filter_append, List.map_append]
  simp [hs]
theorem wait_len (f : Cl → Pk) (K : List Cl) : (waitL f K).length ≤ K.length := by unfold waitL; rw [List.length_map]; exact List.length_filter_le _ _
theorem wait_lenk (f : Cl → Pk) (K : List Cl) (i : Nat) : (waitL f (K.take i)).length ≤ K.length := Nat.le_trans (wait_len f _) (by rw [List.length_take]; omega)

/-- the caller's variable holds a row of its own with these packets -/
structure Acc (bp : Nat) (v : Value) (L : List Pk) (u : World) : Prop where
  var : u.heap[bp]? = some (.cells #[v] 47 (0, 0))
  row : Mp u v L
  own : ∀ g, v.ownBlock = some g → bp < g
theorem Acc.go {bp : Nat} {v : Value} {L : List Pk} {u u' : World} (h : Acc bp v L u) (k : Kept u u') : Acc bp v L u' := ⟨kept_at k h.var, h.row.keep k, h.own⟩
/-- what a function value does that lays the packet f x of what is handed to it -/
def Hands (bp : Nat) (f : Cl → Pk) (Base : World → Prop) (g : FuncId) (lb : Array Value) : Prop :=
  ∀ (u : World) (v : Value) (L : List Pk) (x : Cl), Base u → Acc bp v L u → L.length ≤ 900000 →
    Calls Tryz.prog g (#[.agg x.arr] ++ lb) u fun e w' => e = .returned (.tuple #[]) ∧ ∃ v', Acc bp v' (L ++ [f x]) w' ∧ Fr (fun k => bp ≤ k) u w'

set_option maxRecDepth 100000 in
set_option maxHeartbeats 4000000 in
theorem waiting_any {w0 w : World} {q : Option Addr} {N c : Nat} {K : List Cl} (o : Ow) (hv : Cls w0 (.slice q N c) K) (bp : Nat) (hbp : w0.heap.size ≤ bp) (hk0 : Kept w0 w) (hl : K.length ≤ 900000)
    (f : Cl → Pk) (Base : World → Prop) (hBase : ∀ u u', Base u → Fr (fun k => bp ≤ k) u u' → Base u') (g : FuncId) (lb : Array Value) (eg : ∀ args u, (callFunc g args).run Tryz.prog u = .ok (.enter g args) u)
    (hh : Hands bp f Base g lb) (v : Value) (ha : Acc bp v [] w) (hb : Base w) :
    Calls Tryz.prog 25 #[.agg (o.arr q N c), .func (.func g) #[] lb] w fun e w' => e = .returned (.tuple #[]) ∧ ∃ v', Acc bp v' (waitL f K) w' ∧ Kept w0 w' := by
  have hN : K.length = N := by obtain ⟨p, cap, e⟩ := hv.shape; cases e; rfl
  have hm2 : N ≤ 900000 := by omega
  obtain ⟨A, hA⟩ : ∃ A, o.arr q N c = A := ⟨_, rfl⟩
  have c18 : A[18]? = some (.slice q N c) := by rw [← hA]; rfl
  rw [hA]
  obtain ⟨W, hW⟩ : ∃ W, w.alloc (.cells A 39) = W := ⟨_, rfl⟩
  have hB : Bl w W [(A, 39)] := hW ▸ Bl.one w A _
  have h18 : W.cell? ⟨w.heap.size, 18, none⟩ = some (.slice q N c) := (hB.cell 0 18 rfl).trans c18
  have HV := Lib.hid hv
  have HN := Lib.hid hN
  have HB := Lib.hid hB
  have HW := Lib.hid hW
  have HH := Lib.hid hh
  have HBS := Lib.hid hBase
  have HA0 := Lib.hid (ha.go hB.kept)
  have HB0 := Lib.hid (hBase _ _ hb (Fr.kept hB.kept))
  have HK0 := Lib.hid (hk0.trans hB.kept)
  clear hv hN hA c18 hB hW hh hBase ha hb hk0 hl
  go_enter Tryz.func25, Tryz.ntmps25
  go_upto_region 1 with fail
  rw [HW.out]
  go_wp2_with fail
  go_loopw [9] (fun y wr => ∃ i : Nat, i ≤ N ∧ y = .int .i64 (i : Int) ∧ Hid (Kept w0 wr) ∧ Hid (Base wr) ∧ ∃ v', Hid (Acc bp v' (waitL f (K.take i)) wr)) (fun y _ => N - (intOf y).toNat)
  case atStart => exact ⟨0, Nat.zero_le _, rfl, HK0, HB0, v, HA0⟩
  case round =>
    obtain ⟨i, hi, rfl, hk, hb, v', ha⟩ := hrel
    by_cases hlt : i < N
    · obtain ⟨x, b, off, hx, rfl, hbb, hc⟩ := (HV.out.go hk.out).pick (i := i) (by rw [HN.out]; exact hlt)
      have hi1 : (i : Int) < (N : Int) := by omega
      obtain ⟨X, hX⟩ : ∃ X, x.arr = X := ⟨_, rfl⟩
      have hl := load_call hX hc
      have x6 : X[6]? = some (.int .i64 x.st) := by rw [← hX]; rfl
      have sX : X.size = 13 := by rw [← hX]; rfl
      have oX : X.all (·.oneCell') = true := by rw [← hX]; exact cl_one x
      obtain ⟨V, hV⟩ : ∃ V, wr.alloc (.cells X 41) = V := ⟨_, rfl⟩
      have kV : Kept wr V := by rw [← hV]; exact Kept.one _ _
      have bV : V.heap[wr.heap.size]? = some (.cells X 41 (0, 0)) := by rw [← hV]; exact blk_new wr _
      have h6 : V.cell? ⟨wr.heap.size, 6, none⟩ = some (.int .i64 x.st) := (blk_cell bV 6).trans x6
      have HVV := Lib.hid hV
      have HKV := Lib.hid kV
      have HBV := Lib.hid bV
      by_cases h1 : x.st = 1
      · have HT := Lib.hid (wait_yes (f := f) hx h1)
        have HC := Lib.hid (show Calls Tryz.prog g (#[.agg X] ++ lb) V fun e w' => e = .returned (.tuple #[]) ∧ ∃ v2, Acc bp v2 (waitL f (K.take i) ++ [f x]) w' ∧ Fr (fun k => bp ≤ k) V w' from by
          rw [← hX]; exact HH.out V v' _ x (HBS.out _ _ hb.out (Fr.kept kV)) (ha.out.go kV) (Nat.le_trans (wait_lenk f K i) (by rw [HN.out]; omega)))
        rw [h1] at h6
        clear hX hc hx hV x6 h1 kV bV
        go_wp2_with (first
          | (refine load_l 41 (.tmp 11) rfl _ rfl rfl (.agg X) hl ?_)
          | (refine load_w 41 (.tmp 5) rfl wr.heap.size rfl rfl X 13 HBV.out Tryz.underlying41 sX info_cl ?_)
          | (refine store_new rfl 41 (.tmp 5) (.tmp 12) rfl wr.heap.size X rfl rfl _ _ rfl 13 info_cl sX rfl oX ?_; rw [HVV.out]))
        refine HC.out.mono ?_
        rintro e w' ⟨rfl, v2, ha2, hf2⟩
        have HR := Lib.hid (And.intro ha2 hf2)
        clear ha2 hf2
        go_wp2_with fail
        go_roundw
        case rel =>
          refine ⟨i + 1, hlt, by go_num, Lib.hid ?_, Lib.hid (HBS.out _ _ (HBS.out _ _ hb.out (Fr.kept HKV.out)) HR.out.2), v2, Lib.hid (by rw [HT.out]; exact HR.out.1)⟩
          exact ((Fr.kept (S := fun k => bp ≤ k) (hk.out.trans HKV.out)).trans HR.out.2 (fun j hj => .inl hj)).keeps (fun j hj => Nat.le_trans hbp hj)
        case measure => simp [intOf]; omega
      · have HT := Lib.hid (wait_no (f := f) hx h1)
        have h1b : (x.st == 1) = false := beq_eq_false_iff_ne.2 h1
        clear hX hc hx hV x6 kV bV
        go_wp2_with (first
          | (refine load_l 41 (.tmp 11) rfl _ rfl rfl (.agg X) hl ?_)
          | (refine store_new rfl 41 (.tmp 5) (.tmp 12) rfl wr.heap.size X rfl rfl _ _ rfl 13 info_cl sX rfl oX ?_; rw [HVV.out]))
        go_roundw
        case rel => exact ⟨i + 1, hlt, by go_num, Lib.hid (hk.out.trans HKV.out), Lib.hid (HBS.out _ _ hb.out (Fr.kept HKV.out)), v', Lib.hid (by rw [HT.out]; exact ha.out.go HKV.out)⟩
        case measure => simp [intOf]; omega
    · obtain rfl : i = N := by omega
      have hKN : K.take i = K := List.take_of_length_le (by rw [HN.out]; exact Nat.le_refl _)
      have HA2 := Lib.hid (by have := ha.out; rw [hKN] at this; exact this)
      clear ha hb hKN
      go_wp2_with fail
      refine bodyPost_end (results_none rfl _ _ _) rfl ?_
      exact ⟨rfl, v', HA2.out, hk.out⟩

end Go.Proofs.YtncdiggejofbbaaGreatDoor.Sn

namespace Go.Proofs.YtncdiggejofbbaaGreatDoor.Sn
open Go.RowKit Go.Sort Go.Shelf St PkM Ad Po Blk Eqs
open Go.Proofs.YtncdiggejofbbaaGreatDoor.Cl
open Go.Proofs.YtncdiggejofbbaaGreatDoor.Ow
open Go.Proofs.YtncdiggejofbbaaGreatDoor.Ls
open Go.Proofs.YtncdiggejofbbaaGreatDoor.Rv
open Wh (Fr)
open Go.Proofs.YtncdiggejofbbaaGreatDoor.Au (Stab stab_and)
open Go.Proofs.YtncdiggejofbbaaGreatDoor.Ad (load_w load_l store_new)
set_option linter.unusedVariables false
set_option linter.unusedSimpArgs false

theorem src_pk {p : Pk} {w : World} {g : Nat} {X : Array Value} {t : TypeId} (hX : p.arr = X) (h : w.heap[g]? = some (.cells X t (0, 0))) : SrcV w (.slice (some ⟨g, 0, none⟩) 1 1) encP [p] :=
  ⟨⟨g, 0, none⟩, 1, rfl, fun j y hj => by
    rw [Rv.addr_add, Nat.zero_add, blk_cell h, ← Array.getElem?_toList]
    rw [fl_one] at hj
    rw [← hX]
    exact hj⟩
theorem fold_pk (p : Pk) {X : Array Value} (h : p.arr = X) : Array.foldl (fun (cs : Array Value) (y : Value × Nat) => cs.setIfInBounds y.snd y.fst) #[.int .i64 0, .int .i64 0, .int .i64 0, .int .i64 0, .int .i64 0, .int .i64 0, .int .i64 0, .int .i64 0, .int .i64 0, .string ⟨#[]⟩, .int .i64 0, .int .i64 0, .int .i64 0, .int .i64 0, .int .i64 0, .int .i64 0, .int .i64 0, .int .i64 0, .int .i64 0, .int .i64 0, .int .i64 0, .bool false, .int .i64 0] (X.zipIdx 0) 0 23 = X := by
  subst h
  obtain ⟨x0, x1, x2, x3, x4, x5, x6, x7, x8, x9, x10, x11, x12, x13, x14, x15, x16, x17, x18, x19, x20, x21, x22⟩ := p
  simp [Pk.arr]
theorem run_loadp {w : World} {p : Addr} {q : Option Addr} {n c : Nat} (hc : w.cell? p = some (.slice q n c)) : (loadVar 47 p).run Tryz.prog w = .ok (.slice q n c) w := by go_simp
/-- where me is held -/
def BaseC (bm : Nat) (me : Int) (u : World) : Prop := u.heap[bm]? = some (.cells #[.int .i64 me] 3 (0, 0))
/-- where me, and the owner, are held -/
def BaseK (bm bo : Nat) (me : Int) (A : Array Value) (u : World) : Prop := BaseC bm me u ∧ u.heap[bo]? = some (.cells A 39 (0, 0))
theorem base_c {bp bm : Nat} {me : Int} (h : bm < bp) (u u' : World) (hb : BaseC bm me u) (hf : Fr (fun k => bp ≤ k) u u') : BaseC bm me u' := by
  unfold BaseC at *
  rw [hf.block bm (blk_lt hb) (by omega)]; exact hb
theorem base_k {bp bm bo : Nat} {me : Int} {A : Array Value} (h : bm < bp) (h2 : bo < bp) (u u' : World) (hb : BaseK bm bo me A u) (hf : Fr (fun k => bp ≤ k) u u') : BaseK bm bo me A u' :=
  ⟨base_c h u u' hb.1 hf, by rw [hf.block bo (blk_lt hb.2) (by omega)]; exact hb.2⟩

set_option maxRecDepth 100000 in
set_option maxHeartbeats 4000000 in
theorem cancels1 (bp bm : Nat) (hbm : bm < bp) (me : Int) (o : Ow) : Hands bp (wtP 3 me o) (BaseC bm me) 26 #[.pointer (some ⟨bp, 0, none⟩), .pointer (some ⟨bm, 0, none⟩)] := by
  intro w v L x hb ha hl
  obtain ⟨X, hX⟩ : ∃ X, x.arr = X := ⟨_, rfl⟩
  have sX : X.size = 13 := by rw [← hX]; rfl
  obtain ⟨R, hR⟩ : ∃ R, onw 3 me x = R := ⟨_, rfl⟩
  have hR2 : wtP 3 me o x = R := hR
  have C1 := Lib.hid (show ∀ u, Calls Tryz.prog 27 #[.int .i64 3, .int .i64 me, .agg X] u fun e w' => e = .returned (.agg R.arr) ∧ Kept u w' from fun u => by rw [← hX, ← hR]; exact onward_any 3 me x u)
  rw [hX, hR2]
  obtain ⟨W, hW⟩ : ∃ W, w.alloc (.cells X 41) = W := ⟨_, rfl⟩
  have hL : Bl w W [(X, 41)] := hW ▸ Bl.one w X _
  obtain ⟨q0, n0, c0, rfl⟩ := ha.row.shape
  have HW := Lib.hid hW
  have HS := Lib.hid (show BaseC bm me W ∧ Acc bp (.slice q0 n0 c0) L W ∧ Bl w W [(X, 41)] from ⟨base_c hbm _ _ hb (Fr.kept hL.kept), ha.go hL.kept, hL⟩)
  have HA := Lib.hid ha
  have hbp : bp < w.heap.size := blk_lt ha.var
  obtain ⟨Z, hZ⟩ : ∃ Z, R.arr = Z := ⟨_, rfl⟩
  have hfx := fold_pk R hZ
  have sZ : Z.size = 23 := by rw [← hZ]; rfl
  rw [hZ] at C1
  clear hW hL hX hR hR2 hb ha
  show Calls Tryz.prog 26 #[.agg X, .pointer (some ⟨bp, 0, none⟩), .pointer (some ⟨bm, 0, none⟩)] w _
  go_enter Tryz.func26, Tryz.ntmps26
  go_upto_region 1 with fail
  rw [HW.out]
  have hSt : Stab (fun u => BaseC bm me u ∧ Acc bp (.slice q0 n0 c0) L u ∧ Bl w u [(X, 41)]) := fun u u' h k => ⟨base_c hbm _ _ h.1 (Fr.kept k), h.2.1.go k, h.2.2.go k⟩
  refine Av.region 5 (fun u => BaseC bm me u ∧ Acc bp (.slice q0 n0 c0) L u ∧ Bl w u [(X, 41)]) (by kernel_rfl) (hSt _ _ HS.out (Kept.refl _).drew) ?_
  refine Av.take 0 (some 4) rfl rfl (by kernel_rfl) (by kernel_rfl) (by kernel_rfl) (by kernel_rfl) (fun _ _ _ h => h) hSt (Au.yq_load 47 (.tmp 1) rfl _ rfl (by rfl) (fun u hu => run_loadp (blk_cell hu.2.1.var 0))) ?_
  simp only [Act.put, List.setIfInBounds_toArray, List.set_cons_zero, List.set_cons_succ]
  refine Av.take 1 (some 5) rfl rfl (by kernel_rfl) (by kernel_rfl) (by kernel_rfl) (by kernel_rfl) (fun _ _ _ h => h) hSt (Au.yq_load 3 (.tmp 2) rfl _ rfl (by rfl) (fun u hu => run_loadi (blk_cell hu.1 0))) ?_
  simp only [Act.put, List.setIfInBounds_toArray, List.set_cons_zero, List.set_cons_succ]
  refine Av.take 2 (some 6) rfl rfl (by kernel_rfl) (by kernel_rfl) (by kernel_rfl) (by kernel_rfl) (fun _ _ _ h => h) hSt (Au.yq_load 41 (.tmp 3) rfl _ rfl (by rfl) (fun u hu => load_cl (hu.2.2.blk 0 rfl) sX)) ?_
  simp only [Act.put, List.setIfInBounds_toArray, List.set_cons_zero, List.set_cons_succ]
  refine Av.take 3 (some 7) rfl rfl (by kernel_rfl) (by kernel_rfl) (by kernel_rfl) (by kernel_rfl) (fun _ _ _ h => h) hSt (Au.yq_call 27 _ (by rfl) (fun u => by go_simp) (fun u hu => C1.out u)) ?_
  simp only [Act.put, List.setIfInBounds_toArray, List.set_cons_zero, List.set_cons_succ]
  refine Av.step 4 rfl (by kernel_rfl) (fun w1 hw1 K1 hK1 => ?_)
  rw [if_pos (by rfl)]
  go_simp
  refine hK1.out (fun u => (fun u => BaseC bm me u ∧ Acc bp (.slice q0 n0 c0) L u ∧ Bl w u [(X, 41)]) u ∧ u.heap[w1.heap.size]? = some (.cells Z 43 (0, 0)) ∧ Kept w1 u) _ _ ⟨hSt _ _ hw1 (Kept.one _ _), blk_new w1 _, Kept.one _ _⟩ (stab_and hSt (fun u u' h k => ⟨kept_at k h.1, h.2.trans k⟩)) (fun u hu => hu.1) ?_
  clear hK1 K1
  refine Av.tail_list 5 rfl (by kernel_rfl) (by decide) (fun w2 hw2 K2 hK2 => ?_)
  refine wpList_append_rowv enc_pk w2 rfl _ _ rfl (.slice q0 n0 c0) (.slice (some ⟨w1.heap.size, 0, none⟩) 1 1) L [R] rfl rfl hw2.1.2.1.row (src_pk hZ hw2.2.1) (by simp only [List.length_singleton]; omega) ?_
  intro v4 w4 r4 g4 b4
  have hsz : w.heap.size ≤ w2.heap.size := Below.size hw2.1.2.2.kept
  have ff : Fr (fun k => bp ≤ k) w w4 := (Fr.kept (S := fun k => bp ≤ k) hw2.1.2.2.kept).trans ((Fr.refl (fun j => bp ≤ j) w2).grown g4 (fun k e => .inl (Nat.le_of_lt (HA.out.own k e)))) (fun j hj => .inl hj)
  have ho4 : ∀ g, v4.ownBlock = some g → bp < g := fun g e => by
    rcases b4 with h | ⟨g', h, hg⟩
    · exact HA.out.own g (h.symm.trans e)
    · obtain rfl : g' = g := Option.some.inj (h.symm.trans e)
      omega
  have hv4 : w4.heap[bp]? = some (.cells #[.slice q0 n0 c0] 47 (0, 0)) := by
    rw [g4.block bp (by omega) (fun c => by have := HA.out.own bp c.symm; omega)]; exact hw2.1.2.1.var
  have y4 : w4.cell? ⟨bp, 0, none⟩ = some (.slice q0 n0 c0) := blk_cell hv4 0
  have f4 : w4.frozen? ⟨bp, 0, none⟩ = false := blk_free hv4 0
  obtain ⟨q4, n4, c4, rfl⟩ := r4.shape
  have H4 := Lib.hid (And.intro r4 (And.intro ff (And.intro ho4 hv4)))
  clear r4 g4 b4 ff ho4 hv4
  refine wpList_nil (hK2.out _ _ ?_)
  clear hK2 K2 hw2
  refine Av.tail 6 rfl (by kernel_rfl) (by decide) (fun w5 hw5 K5 hK5 => ?_)
  subst hw5
  rw [if_pos (by rfl)]
  go_simp
  refine hK5.out _ _ ?_
  clear hK5 K5
  refine Av.done (by kernel_rfl) (fun u hu => ?_)
  subst hu
  go_wp2_with fail
  refine bodyPost_end (results_none rfl _ _ _) rfl ⟨rfl, .slice q4 n4 c4, ⟨blk_set H4.out.2.2.2 0 (.slice q4 n4 c4), H4.out.1.kept (fun g e => Below.heap_setCell _ _ _ _ (by have := H4.out.2.2.1 g e; show g ≠ bp; omega)), H4.out.2.2.1⟩, ?_⟩
  exact H4.out.2.1.setCell (.inl (Nat.le_refl bp)) _

set_option maxRecDepth 100000 in
set_option maxHeartbeats 4000000 in
theorem keeps1 (bp bm bo : Nat) (hbm : bm < bp) (hbo : bo < bp) (me : Int) (o : Ow) (q : Option Addr) (N c : Nat) : Hands bp (wtP 4 me o) (BaseK bm bo me (o.arr q N c)) 28 #[.pointer (some ⟨bm, 0, none⟩), .pointer (some ⟨bo, 0, none⟩), .pointer (some ⟨bp, 0, none⟩)] := by
  intro w v L x hb ha hl
  obtain ⟨X, hX⟩ : ∃ X, x.arr = X := ⟨_, rfl⟩
  obtain ⟨A, hA⟩ : ∃ A, o.arr q N c = A := ⟨_, rfl⟩
  have sX : X.size = 13 := by rw [← hX]; rfl
  have c14 : A[14]? = some (.int .i64 o.un) := by rw [← hA]; rfl
  obtain ⟨P, hP⟩ : ∃ P, onw 4 me x = P := ⟨_, rfl⟩
  obtain ⟨z, hz⟩ : ∃ z, Tk.clamp o.un = z := ⟨_, rfl⟩
  obtain ⟨R, hR⟩ : ∃ R, wtP 4 me o x = R := ⟨_, rfl⟩
  have hPR : P.arr.setIfInBounds 10 (.int .i64 z) = R.arr := by rw [← hP, ← hR, ← hz]; rfl
  have p10 : P.arr[10]? = some (.int .i64 0) := by rw [← hP]; rfl
  have C1 := Lib.hid (show ∀ u, Calls Tryz.prog 27 #[.int .i64 4, .int .i64 me, .agg X] u fun e w' => e = .returned (.agg P.arr) ∧ Kept u w' from fun u => by rw [← hX, ← hP]; exact onward_any 4 me x u)
  have C2 := Lib.hid (show ∀ u, Calls Tryz.prog 29 #[.int .i64 o.un] u fun e w' => e = .returned (.int .i64 z) ∧ u = w' from fun u => by rw [← hz]; exact Tk.clamp_any _ u)
  rw [hX, hR]
  rw [hA] at hb
  obtain ⟨W, hW⟩ : ∃ W, w.alloc (.cells X 41) = W := ⟨_, rfl⟩
  have hL : Bl w W [(X, 41)] := hW ▸ Bl.one w X _
  obtain ⟨q0, n0, c0, rfl⟩ := ha.row.shape
  have HW := Lib.hid hW
  have hbW := base_k hbm hbo _ _ hb (Fr.kept hL.kept)
  have lm : W.cell? ⟨bm, 0, none⟩ = some (.int .i64 me) := blk_cell hbW.1 0
  have HS := Lib.hid (show BaseK bm bo me A W ∧ Acc bp (.slice q0 n0 c0) L W ∧ Bl w W [(X, 41)] from ⟨hbW, ha.go hL.kept, hL⟩)
  have HA := Lib.hid ha
  have hbp : bp < w.heap.size := blk_lt ha.var
  obtain ⟨Z, hZ⟩ : ∃ Z, R.arr = Z := ⟨_, rfl⟩
  have hfx := fold_pk R hZ
  have sZ : Z.size = 23 := by rw [← hZ]; rfl
  have HZ := Lib.hid hZ
  obtain ⟨PA, hPA⟩ : ∃ PA, P.arr = PA := ⟨_, rfl⟩
  have sPA : PA.size = 23 := by rw [← hPA]; rfl
  have oPA : PA.all (·.oneCell') = true := by rw [← hPA]; exact pk_one P
  rw [hPA] at C1 p10 hPR
  rw [hZ] at hPR
  have HPR := Lib.hid hPR
  clear hW hL hX hR hb ha hA hP hz hZ hPA hPR hbW
  show Calls Tryz.prog 28 #[.agg X, .pointer (some ⟨bm, 0, none⟩), .pointer (some ⟨bo, 0, none⟩), .pointer (some ⟨bp, 0, none⟩)] w _
  go_enter Tryz.func28, Tryz.ntmps28
  go_upto_region 1 with fail
  rw [HW.out]
  go_upto_region 2 with (first
    | (refine load_w 41 (.tmp 4) rfl w.heap.size rfl rfl X 13 (HS.out.2.2.blk 0 rfl) Tryz.underlying41 sX info_cl ?_)
    | (go_at_call 27; refine (C1.out _).mono ?_; rintro e u ⟨rfl, k⟩)
    | (refine store_new rfl 43 (.tmp 5) (.tmp 8) rfl u.heap.size PA rfl rfl u _ rfl 23 info_pk sPA rfl oPA ?_))
  obtain ⟨V, hV⟩ : ∃ V, u.alloc (.cells PA 43) = V := ⟨_, rfl⟩
  rw [hV]
  have hb : Bl u V [(PA, 43)] := by rw [← hV]; exact Bl.one u _ _
  have kV : Kept W V := k.trans hb.kept
  obtain ⟨g, hg⟩ : ∃ g, u.heap.size = g := ⟨_, rfl⟩
  have hug : w.heap.size ≤ g := by rw [← hg]; exact Nat.le_trans (Below.size HS.out.2.2.kept) (Below.size k)
  rw [hg]
  have hB := base_k hbm hbo _ _ HS.out.1 (Fr.kept kV)
  have a14 : V.cell? ⟨bo, 14, none⟩ = some (.int .i64 o.un) := (blk_cell hB.2 14).trans c14
  have y10 : V.cell? ⟨g, 10, none⟩ = some (.int .i64 0) := by rw [← hg]; exact (hb.cell 0 10 rfl).trans p10
  have f10 : V.frozen? ⟨g, 10, none⟩ = false := by rw [← hg]; exact hb.free 0 10 rfl
  have hb2 : Bl u (V.setCell ⟨g, 10, none⟩ (.int .i64 z)) [(Z, 43)] := by
    have := hb.put 0 10 rfl (.int .i64 z)
    rw [show u.heap.size + 0 = g from hg] at this
    exact this.as (by rw [← HPR.out]; rfl)
  have HV := Lib.hid (And.intro hb2 (And.intro (k.trans hb2.kept) hg))
  clear hV hb kV hg hB hb2 k
  go_upto_region 3 with (go_at_call 29; refine (C2.out _).mono ?_; rintro e u2 ⟨rfl, rfl⟩)
  obtain ⟨V2, hV2⟩ : ∃ V2, V.setCell ⟨g, 10, none⟩ (.int .i64 z) = V2 := ⟨_, rfl⟩
  rw [hV2] at HV ⊢
  clear a14 y10 f10 hV2 lm
  have bg : V2.heap[g]? = some (.cells Z 43 (0, 0)) := by have := HV.out.1.blk 0 rfl; rwa [show u.heap.size + 0 = g from HV.out.2.2] at this
  have hacc := HS.out.2.1.go HV.out.2.1
  have l0 := run_loadp (blk_cell hacc.var 0 : V2.cell? ⟨bp, 0, none⟩ = _)
  have HB := Lib.hid (And.intro hacc bg)
  have HK := Lib.hid (HS.out.2.2.kept.trans HV.out.2.1)
  clear hacc bg HV HS
  go_upto_region 3 with fail
  go_wp2_with (first
    | (refine load_l 47 (.tmp 3) rfl _ rfl rfl _ l0 ?_)
    | (refine load_w 43 (.tmp 5) rfl g rfl rfl Z 23 HB.out.2 Tryz.underlying43 (by rw [← HZ.out]; rfl) info_pk ?_)
    | (at_builtin; refine wpList_append_onev enc_pk V2 rfl _ _ rfl (.slice q0 n0 c0) L R Z (by rw [← HZ.out]; rfl) rfl rfl HB.out.1.row hl ?_; intro v4 w4 r4 g4 b4; obtain ⟨q4, n4, c4, rfl⟩ := r4.shape; have hv4 : w4.heap[bp]? = some (.cells #[.slice q0 n0 c0] 47 (0, 0)) := ((g4.block bp (by have := blk_lt HB.out.1.var; simp; omega) (fun c => by have := HB.out.1.own bp c.symm; omega)).trans (kept_at (Kept.one V2 _) HB.out.1.var)); have y4 : w4.cell? ⟨bp, 0, none⟩ = some (.slice q0 n0 c0) := blk_cell hv4 0; have f4 : w4.frozen? ⟨bp, 0, none⟩ = false := blk_free hv4 0))
  have ff : Fr (fun k => bp ≤ k) w w4 := (Fr.kept (S := fun k => bp ≤ k) (HK.out.more _)).trans ((Fr.refl (fun j => bp ≤ j) (V2.alloc (.cells Z 43))).grown g4 (fun k e => .inl (Nat.le_of_lt (HB.out.1.own k e)))) (fun j hj => .inl hj)
  have ho4 : ∀ g, (Value.slice q4 n4 c4).ownBlock = some g → bp < g := fun g e => by
    rcases b4 with h | ⟨g', h, hg⟩
    · exact HB.out.1.own g (h.symm.trans e)
    · obtain rfl : g' = g := Option.some.inj (h.symm.trans e)
      have := Below.size HK.out
      omega
  refine bodyPost_end (results_none rfl _ _ _) rfl ⟨rfl, .slice q4 n4 c4, ⟨blk_set hv4 0 (.slice q4 n4 c4), r4.kept (fun g e => Below.heap_setCell _ _ _ _ (by have := ho4 g e; show g ≠ bp; omega)), ho4⟩, ?_⟩
  exact ff.setCell (.inl (Nat.le_refl bp)) _

set_option maxRecDepth 100000 in
set_option maxHeartbeats 4000000 in
theorem cancels_any {w : World} {q : Option Addr} {N c : Nat} {K : List Cl} (me : Int) (o : Ow) (hv : Cls w (.slice q N c) K) (hl : K.length ≤ 900000) :
    Calls Tryz.prog 10 #[.int .i64 me, .agg (o.arr q N c)] w fun e w' => ∃ v, e = .returned v ∧ Mp w' v (waitL (wtP 3 me o) K) ∧ (∀ g, v.ownBlock = some g → w.heap.size ≤ g) ∧ Kept w w' := by
  obtain ⟨W, hW⟩ : ∃ W, ((w.alloc (.cells #[.int .i64 me] 3)).alloc (.cells (o.arr q N c) 39)).alloc (.cells #[.slice none 0 0] 47) = W := ⟨_, rfl⟩
  have hL : Bl w W [(#[.int .i64 me], 3), (o.arr q N c, 39), (#[.slice none 0 0], 47)] := hW ▸ Bl.three w _ _ _ _ _ _
  have eg : ∀ (args : Array Value) (u : World), (callFunc 26 args).run Tryz.prog u = .ok (.enter 26 args) u := fun args u => by go_simp
  have HC := Lib.hid (show Calls Tryz.prog 25 #[.agg (o.arr q N c), .func (.func 26) #[] #[.pointer (some ⟨w.heap.size + 1 + 1, 0, none⟩), .pointer (some ⟨w.heap.size, 0, none⟩)]] W fun e w' => e = .returned (.tuple #[]) ∧ ∃ v', Acc (w.heap.size + 1 + 1) v' (waitL (wtP 3 me o) K) w' ∧ Kept w w' from
    waiting_any o hv (w.heap.size + 1 + 1) (by omega) hL.kept hl _ (BaseC w.heap.size me) (fun u u' => base_c (by omega) u u') 26 _ eg (cancels1 (w.heap.size + 1 + 1) w.heap.size (by omega) me o) (.slice none 0 0) ⟨hL.blk 2 rfl, rowv_nil _ _ _ _, fun g e => by cases e⟩ (hL.blk 0 rfl))
  obtain ⟨A, hA⟩ : ∃ A, o.arr q N c = A := ⟨_, rfl⟩
  have sA : A.size = 19 := by rw [← hA]; rfl
  rw [hA] at HC hL hW ⊢
  have HW := Lib.hid hW
  have HL := Lib.hid hL
  clear hA hW hL hv eg
  go_enter Tryz.func10, Tryz.ntmps10
  go_upto_region 2 with fail
  rw [HW.out]
  go_wp2_with (first
    | (refine load_w 39 (.tmp 3) rfl (w.heap.size + 1) rfl rfl A 19 (HL.out.blk 1 rfl) Tryz.underlying39 sA info_ow ?_)
    | (go_at_call 25; refine HC.out.mono ?_; rintro e w1 ⟨rfl, v1, ha1, hk1⟩; obtain ⟨q1, n1, c1, rfl⟩ := ha1.row.shape; have l1 : w1.cell? ⟨w.heap.size + 1 + 1, 0, none⟩ = some (.slice q1 n1 c1) := blk_cell ha1.var 0))
  go_ret
  exact ⟨_, rfl, ha1.row, fun g e => by have := ha1.own g e; omega, hk1⟩

set_option maxRecDepth 100000 in
set_option maxHeartbeats 4000000 in
theorem keeps_any {w : World} {q : Option Addr} {N c : Nat} {K : List Cl} (me : Int) (o : Ow) (hv : Cls w (.slice q N c) K) (hl : K.length ≤ 900000) :
    Calls Tryz.prog 11 #[.int .i64 me, .agg (o.arr q N c)] w fun e w' => ∃ v, e = .returned v ∧ Mp w' v (waitL (wtP 4 me o) K) ∧ (∀ g, v.ownBlock = some g → w.heap.size ≤ g) ∧ Kept w w' := by
  obtain ⟨W, hW⟩ : ∃ W, ((w.alloc (.cells #[.int .i64 me] 3)).alloc (.cells (o.arr q N c) 39)).alloc (.cells #[.slice none 0 0] 47) = W := ⟨_, rfl⟩
  have hL : Bl w W [(#[.int .i64 me], 3), (o.arr q N c, 39), (#[.slice none 0 0], 47)] := hW ▸ Bl.three w _ _ _ _ _ _
  have eg : ∀ (args : Array Value) (u : World), (callFunc 28 args).run Tryz.prog u = .ok (.enter 28 args) u := fun args u => by go_simp
  have HC := Lib.hid (show Calls Tryz.prog 25 #[.agg (o.arr q N c), .func (.func 28) #[] #[.pointer (some ⟨w.heap.size, 0, none⟩), .pointer (some ⟨w.heap.size + 1, 0, none⟩), .pointer (some ⟨w.heap.size + 1 + 1, 0, none⟩)]] W fun e w' => e = .returned (.tuple #[]) ∧ ∃ v', Acc (w.heap.size + 1 + 1) v' (waitL (wtP 4 me o) K) w' ∧ Kept w w' from
    waiting_any o hv (w.heap.size + 1 + 1) (by omega) hL.kept hl _ (BaseK w.heap.size (w.heap.size + 1) me (o.arr q N c)) (fun u u' => base_k (by omega) (by omega) u u') 28 _ eg (keeps1 (w.heap.size + 1 + 1) w.heap.size (w.heap.size + 1) (by omega) (by omega) me o q N c) (.slice none 0 0) ⟨hL.blk 2 rfl, rowv_nil _ _ _ _, fun g e => by cases e⟩ (⟨hL.blk 0 rfl, hL.blk 1 rfl⟩))
  obtain ⟨A, hA⟩ : ∃ A, o.arr q N c = A := ⟨_, rfl⟩
  have sA : A.size = 19 := by rw [← hA]; rfl
  rw [hA] at HC hL hW ⊢
  have HW := Lib.hid hW
  have HL := Lib.hid hL
  clear hA hW hL hv eg
  go_enter Tryz.func11, Tryz.ntmps11
  go_upto_region 2 with fail
  rw [HW.out]
  go_wp2_with (first
    | (refine load_w 39 (.tmp 3) rfl (w.heap.size + 1) rfl rfl A 19 (HL.out.blk 1 rfl) Tryz.underlying39 sA info_ow ?_)
    | (go_at_call 25; refine HC.out.mono ?_; rintro e w1 ⟨rfl, v1, ha1, hk1⟩; obtain ⟨q1, n1, c1, rfl⟩ := ha1.row.shape; have l1 : w1.cell? ⟨w.heap.size + 1 + 1, 0, none⟩ = some (.slice q1 n1 c1) := blk_cell ha1.var 0))
  go_ret
  exact ⟨_, rfl, ha1.row, fun g e => by have := ha1.own g e; omega, hk1⟩

end Go.Proofs.YtncdiggejofbbaaGreatDoor.Sn
