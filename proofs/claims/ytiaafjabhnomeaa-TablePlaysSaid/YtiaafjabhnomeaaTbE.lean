/- Package table: made; whose calls are is told, and forgotten. -/
import Derived.Test.YtiaafjabhnomeaaTbD
import Derived.Test.YtiaafjabhnomeaaAw
import Derived.Test.YtiaafjabhnomeaaOwS
import Derived.LoopTactic
namespace Go.Proofs.Ytiaafjabhnomeaa.Tb
open Go.RowKit Go.Sort IdM Se Mv Blk
open St (Kept blk_cell blk_free blk_lt blk_set)
open Go.Proofs.Ytiaafjabhnomeaa.Ow (Ow Cls Mc load_id load_key load_call info_cl one_cells take_snoc)
open Go.Proofs.Ytiaafjabhnomeaa.Cl (Cl encC)
open Go.Proofs.Ytiaafjabhnomeaa.Rv
open Go.Proofs.Ytiaafjabhnomeaa.Ad (load_w load_l store_new)
open Go.Proofs.Ytiaafjabhnomeaa.Au (Stab stab_and stab_kept)
open Wh (Fr)
set_option linter.unusedVariables false
set_option linter.unusedSimpArgs false
set_option maxRecDepth 20000

def pB (B : Nat) : Value := .pointer (some ⟨B, 0, none⟩)
/-- a table's block -/
def Blk0 (w : World) (B M N : Nat) : Prop := w.heap[B]? = some (.cells #[pB B, .map (some M), .map (some N)] 63 (0, 0))
theorem eq_selfT (a : Addr) (w : World) : (binOp .eql 23 (.pointer (some a)) (.pointer (some a))).run Try.prog w = .ok (.bool true) w := by
  obtain ⟨j, hj, _⟩ := Option.map_eq_some_iff.1 (show (Try.prog.info? 63).map (·.size) = some 3 by kernel_rfl)
  exact run_eql_ptr_same w a Try.underlying23 hj
theorem run_loadN {w : World} {p : Addr} {q : Option Nat} (hc : w.cell? p = some (.map q)) : (loadVar 61 p).run Try.prog w = .ok (.map q) w := by go_simp
theorem run_loadM {w : World} {p : Addr} {q : Option Nat} (hc : w.cell? p = some (.map q)) : (loadVar 60 p).run Try.prog w = .ok (.map q) w := by go_simp
theorem Blk0.c0 {w : World} {B M N : Nat} (h : Blk0 w B M N) : w.cell? ⟨B, 0, none⟩ = some (.pointer (some ⟨B, 0, none⟩)) := by rw [blk_cell h]; rfl
theorem Blk0.c1 {w : World} {B M N : Nat} (h : Blk0 w B M N) : w.cell? ⟨B, 1, none⟩ = some (.map (some M)) := by rw [blk_cell h]; rfl
theorem Blk0.c2 {w : World} {B M N : Nat} (h : Blk0 w B M N) : w.cell? ⟨B, 2, none⟩ = some (.map (some N)) := by rw [blk_cell h]; rfl
theorem Blk0.kept {w w' : World} {B M N : Nat} (h : Blk0 w B M N) (k : Kept w w') : Blk0 w' B M N := (k.block B (blk_lt h)).trans h
theorem Blk0.fr {w w' : World} {S : Nat → Prop} {B M N : Nat} (h : Blk0 w B M N) (k : Fr S w w') (hn : ¬ S B) : Blk0 w' B M N := (k.block B (blk_lt h) hn).trans h

set_option maxHeartbeats 400000 in
theorem made_any {w : World} {B M N : Nat} (h : Blk0 w B M N) : Calls Try.prog 35 #[pB B] w fun e w' => e = .returned (.bool true) ∧ w = w' := by
  have c0 := h.c0
  have he := eq_selfT ⟨B, 0, none⟩ w
  clear h
  unfold pB
  go_enter Try.func35, Try.ntmps35
  go_wp2
  go_ret
  exact ⟨rfl, rfl⟩

set_option maxHeartbeats 400000 in
theorem made_nil (w : World) : Calls Try.prog 35 #[.pointer none] w fun e w' => e = .returned (.bool false) ∧ w = w' := by
  go_enter Try.func35, Try.ntmps35
  go_wp2
  go_ret
  exact ⟨rfl, rfl⟩

set_option maxHeartbeats 400000 in
/-- one that New did not make: it does not point to itself -/
theorem made_zero {w : World} {B : Nat} (c0 : w.cell? ⟨B, 0, none⟩ = some (.pointer none)) : Calls Try.prog 35 #[pB B] w fun e w' => e = .returned (.bool false) ∧ w = w' := by
  have he : ∀ u : World, (binOp .eql 23 (.pointer none) (.pointer (some ⟨B, 0, none⟩))).run Try.prog u = .ok (.bool false) u := fun u => by
    have h : ∀ d : Nat, (Op.equalIn (d + 1) 23 (.pointer none) (.pointer (some ⟨B, 0, none⟩))).run Try.prog u = .ok false u := fun d => by simp [Op.equalIn, run_underlying Try.underlying23]
    simp only [binOp]
    simp [Op.equal, Op.maxDepth, h 9999]
  unfold pB
  go_enter Try.func35, Try.ntmps35
  go_wp2
  go_ret
  exact ⟨rfl, rfl⟩

set_option maxHeartbeats 3000000 in
theorem note_any {w : World} {B M N : Nat} (hB : Blk0 w B M N) {F : Cal} {m : Nat} {S : Nat → Prop} (hc : Cb w N F m S) (hS : ∀ k, S k → k < w.heap.size) (hBS : ¬ S B) (o : Ow) {q : Option Addr} {n c : Nat} {K : List Cl}
    (hv : ∀ u, Fr S w u → Cls u (.slice q n c) K) (hm : m + K.length ≤ 900000) (hok : ∀ x ∈ K, okD (ci x)) :
    Calls Try.prog 37 #[pB B, .agg (o.arr q n c)] w fun e w' => e = .returned (.tuple #[]) ∧ ∃ S', Cb w' N (noteF (ok o) K F) (m + K.length) S' ∧ (∀ k, S' k → S k ∨ w.heap.size ≤ k) ∧ Fr S w w' := by
  have hN : K.length = n := by obtain ⟨p, cap, e⟩ := (hv w (Fr.refl _ _)).shape; cases e; rfl
  obtain ⟨A, hA⟩ : ∃ A, o.arr q n c = A := ⟨_, rfl⟩
  have c18 : A[18]? = some (.slice q n c) := by rw [← hA]; rfl
  have c0 : A[0]? = some (.int .i64 o.kn) := by rw [← hA]; rfl
  have c1 : A[1]? = some (.int .i64 o.ki) := by rw [← hA]; rfl
  have c2 : A[2]? = some (.int .i64 o.ks) := by rw [← hA]; rfl
  have c3 : A[3]? = some (.int .i64 o.ka) := by rw [← hA]; rfl
  rw [hA]
  clear hA
  obtain ⟨W, hW⟩ : ∃ W, w.alloc (.cells A 52) = W := ⟨_, rfl⟩
  have hb : Bl w W [(A, 52)] := hW ▸ Bl.one w A _
  have h18 : W.cell? ⟨w.heap.size, 18, none⟩ = some (.slice q n c) := (hb.cell 0 18 rfl).trans c18
  have HB := Lib.hid hb
  have HW := Lib.hid hW
  have HV := Lib.hid (fun u (hu : Fr S W u) => hv u ((Fr.kept (S := S) hb.kept).trans hu (fun _ c => .inl c)))
  have HN := Lib.hid hN
  have HT := Lib.hid (And.intro (hB.kept hb.kept) (And.intro (hc.kept hb.kept) hBS))
  have HS := Lib.hid hS
  have HOK := Lib.hid hok
  have HM := Lib.hid hm
  have HK := Lib.hid (And.intro c0 (And.intro c1 (And.intro c2 c3)))
  have hm2 : n ≤ 900000 := by omega
  clear hv hN hc hB hBS hS hok hm c0 c1 c2 c3 c18 hb hW
  unfold pB
  go_enter Try.func37, Try.ntmps37
  go_upto_region 1 with fail
  rw [HW.out]
  go_wp2_with fail
  go_loopw [9] (fun y wr => ∃ i : Nat, i ≤ n ∧ y = .int .i64 (i : Int) ∧ ∃ S', Cb wr N (noteF (ok o) (K.take i) F) (m + i) S' ∧ (∀ k, S' k → S k ∨ W.heap.size ≤ k) ∧ Fr S W wr) (fun y wr => n - (intOf y).toNat)
  case atStart => exact ⟨0, Nat.zero_le _, rfl, S, HT.out.2.1, fun _ c => .inl c, Fr.refl _ _⟩
  case round =>
    obtain ⟨i, hi, rfl, S', hcb, hsub, hfr⟩ := hrel
    by_cases hlt : i < n
    · obtain ⟨x, b, off, hx, rfl, hbb, hcl⟩ := (HV.out wr hfr).pick (i := i) (by rw [HN.out]; exact hlt)
      obtain ⟨X, hX⟩ : ∃ X, x.arr = X := ⟨_, rfl⟩
      have sX : X.size = 13 := by rw [← hX]; rfl
      have oX : X.all (·.oneCell') = true := by rw [← hX]; exact one_cells x
      have lX := load_call (u := wr) (b := b) (o := off + i * 13) hX (fun j z hz => hcl j z hz)
      obtain ⟨W1, hW1⟩ : ∃ W1, wr.alloc (.cells X 79) = W1 := ⟨_, rfl⟩
      have k1 : Kept wr W1 := by rw [← hW1]; exact Kept.one _ _
      have b1 : W1.heap[wr.heap.size]? = some (.cells X 79 (0, 0)) := by rw [← hW1]; exact St.blk_new _ _
      have z0 : w.heap.size < W.heap.size := blk_lt (HB.out.blk 0 rfl)
      have b0 : W1.heap[w.heap.size]? = some (.cells A 52 (0, 0)) := by
        rw [k1.block _ (Nat.lt_of_lt_of_le z0 hfr.size), hfr.block _ z0 (fun c => by have := HS.out _ c; omega)]
        exact HB.out.blk 0 rfl
      have bB : Blk0 W1 B M N := (HT.out.1.fr hfr HT.out.2.2).kept k1
      have LI := Lib.hid (fun (u : World) (hu : Kept W1 u) => load_id (u := u) (b := wr.heap.size) (o := 0) ((blk_cell (kept_at hu b1) 0).trans (show X[0]? = some (.int .i64 x.n) by rw [← hX]; rfl)) ((blk_cell (kept_at hu b1) 1).trans (show X[1]? = some (.int .i64 x.i) by rw [← hX]; rfl)) ((blk_cell (kept_at hu b1) 2).trans (show X[2]? = some (.int .i64 x.s) by rw [← hX]; rfl)))
      have LK := Lib.hid (fun (u : World) (hu : Kept W1 u) => load_key (u := u) (b := w.heap.size) (o := 0) ((blk_cell (kept_at hu b0) 0).trans HK.out.1) ((blk_cell (kept_at hu b0) 1).trans HK.out.2.1) ((blk_cell (kept_at hu b0) 2).trans HK.out.2.2.1) ((blk_cell (kept_at hu b0) 3).trans HK.out.2.2.2))
      have LN := Lib.hid (fun (u : World) (hu : Kept W1 u) => run_loadN ((blk_cell (kept_at hu bB) 2).trans rfl))
      have HCB := Lib.hid (hcb.kept k1)
      have HX := Lib.hid (And.intro hx (HOK.out x (List.mem_of_getElem? hx)))
      have HF := Lib.hid (And.intro hsub (And.intro hfr k1))
      have HW1 := Lib.hid hW1
      have hSt : Stab (fun u => Kept W1 u) := stab_kept W1
      have hi1 : (i : Int) < (n : Int) := by omega
      have hm3 : m + i ≤ 900000 := by have := HM.out; have := HN.out; omega
      clear hx hcl hX hcb hsub hfr k1 b1 b0 bB hW1
      go_upto_region 4 with (first
        | (refine load_l 79 (.tmp 11) rfl _ rfl rfl (.agg X) lX ?_)
        | (refine store_new rfl 79 (.tmp 5) (.tmp 12) rfl wr.heap.size X rfl rfl wr _ rfl 13 info_cl sX rfl oX ?_; rw [HW1.out]))
      refine Av.region 9 (fun u => Kept W1 u) (by kernel_rfl) ((Kept.refl W1).drew) ?_
      refine Av.take 0 (some 13) (v := ?_) rfl rfl (by kernel_rfl) (by kernel_rfl) (by kernel_rfl) (by kernel_rfl) (fun _ _ _ h => h) hSt (Au.yq_run (by rfl) (fun u hu => ?_)) ?_
      rotate_left
      · (clear hu; go_simp; try with_reducible rfl)
      simp only [Act.put, List.setIfInBounds_toArray, List.set_cons_zero, List.set_cons_succ]
      refine Av.take 1 (some 14) (v := ?_) rfl rfl (by kernel_rfl) (by kernel_rfl) (by kernel_rfl) (by kernel_rfl) (fun _ _ _ h => h) hSt (Au.yq_run (by rfl) (fun u hu => ?_)) ?_
      rotate_left
      · (clear hu; go_simp; try with_reducible rfl)
      simp only [Act.put, List.setIfInBounds_toArray, List.set_cons_zero, List.set_cons_succ]
      refine Av.take 2 (some 15) (v := ?_) rfl rfl (by kernel_rfl) (by kernel_rfl) (by kernel_rfl) (by kernel_rfl) (fun _ _ _ h => h) hSt (Au.yq_run (by rfl) (fun u hu => ?_)) ?_
      rotate_left
      · (clear hu; go_simp; try with_reducible rfl)
      simp only [Act.put, List.setIfInBounds_toArray, List.set_cons_zero, List.set_cons_succ]
      refine Av.take 3 (some 16) rfl rfl (by kernel_rfl) (by kernel_rfl) (by kernel_rfl) (by kernel_rfl) (fun _ _ _ h => h) hSt (Au.yq_load 61 (.tmp 15) rfl _ rfl (by rfl) (fun u hu => LN.out u hu)) ?_
      simp only [Act.put, List.setIfInBounds_toArray, List.set_cons_zero, List.set_cons_succ]
      refine Av.take 4 (some 17) (v := ?_) rfl rfl (by kernel_rfl) (by kernel_rfl) (by kernel_rfl) (by kernel_rfl) (fun _ _ _ h => h) hSt (Au.yq_run (by rfl) (fun u hu => ?_)) ?_
      rotate_left
      · (clear hu; go_simp; try with_reducible rfl)
      simp only [Act.put, List.setIfInBounds_toArray, List.set_cons_zero, List.set_cons_succ]
      refine Av.take 5 (some 18) rfl rfl (by kernel_rfl) (by kernel_rfl) (by kernel_rfl) (by kernel_rfl) (fun _ _ _ h => h) hSt (Au.yq_load 30 (.tmp 17) rfl _ rfl (by rfl) (fun u hu => LI.out u hu)) ?_
      simp only [Act.put, List.setIfInBounds_toArray, List.set_cons_zero, List.set_cons_succ]
      refine Av.take 6 (some 20) (v := ?_) rfl rfl (by kernel_rfl) (by kernel_rfl) (by kernel_rfl) (by kernel_rfl) (fun _ _ _ h => h) hSt (Au.yq_run (by rfl) (fun u hu => ?_)) ?_
      rotate_left
      · (clear hu; go_simp; try with_reducible rfl)
      simp only [Act.put, List.setIfInBounds_toArray, List.set_cons_zero, List.set_cons_succ]
      refine Av.take 7 (some 21) rfl rfl (by kernel_rfl) (by kernel_rfl) (by kernel_rfl) (by kernel_rfl) (fun _ _ _ h => h) hSt (Au.yq_load 32 (.tmp 20) rfl _ rfl (by rfl) (fun u hu => LK.out u hu)) ?_
      simp only [Act.put, List.setIfInBounds_toArray, List.set_cons_zero, List.set_cons_succ]
      refine Av.step 8 rfl (by kernel_rfl) (fun w1 hw1 K1 hK1 => ?_)
      rw [if_pos (by rfl)]
      go_simp
      refine hK1.out (fun u => Kept W1 u ∧ u.heap[w1.heap.size]? = some (.cells #[.int .i64 o.kn, .int .i64 o.ki, .int .i64 o.ks, .int .i64 o.ka] 32 (0, 0))) _ _ ⟨hw1.more _, St.blk_new w1 _⟩ (stab_and hSt (fun u u' h k => kept_at k h)) (fun u hu => hu.1) ?_
      clear hK1 K1
      refine Av.tail_list 9 rfl (by kernel_rfl) (by decide) (fun w2 hw2 K2 hK2 => ?_)
      obtain ⟨s, st, w3, r3, hr3, f3, z3, hst⟩ := (HCB.out.kept hw2.1).note hm3 HX.out.2 (ok o)
      have hz3 : w1.heap.size ≠ N := fun c => by
        have hsN : S' N := by obtain ⟨_, _, h⟩ := HCB.out; exact h.sN
        have hlN : N < W1.heap.size := by obtain ⟨_, _, h⟩ := HCB.out; exact h.map.lt
        have := Below.size hw1
        omega
      have b3 : w3.heap[w1.heap.size]? = some (.cells #[.int .i64 o.kn, .int .i64 o.ki, .int .i64 o.ks, .int .i64 o.ka] 32 (0, 0)) := (f3.block _ (blk_lt hw2.2) hz3).trans hw2.2
      have src3 : SrcV w3 (.slice (some ⟨w1.heap.size, 0, none⟩) 1 1) encK [ok o] := ⟨_, 1, rfl, fun j y hj => by
        rw [Rv.addr_add, Nat.zero_add, blk_cell b3, ← Array.getElem?_toList]
        rw [fl_one] at hj
        exact hj⟩
      have hFl : (noteF (ok o) (K.take i) F (ci x)).length ≤ 900000 := by
        obtain ⟨_, _, h⟩ := HCB.out
        exact Nat.le_trans (h.len _) hm3
      have FIN : ∀ v2 w4, Kr w4 v2 (noteF (ok o) (K.take i) F (ci x) ++ [ok o]) → w3.grownBy w4 s.v.ownBlock → (v2.ownBlock = s.v.ownBlock ∨ ∃ g, v2.ownBlock = some g ∧ w3.heap.size ≤ g) →
          ∃ w5, (Instr.entryStore 61 (.map (some N)) (.int .i64 st) v2).run Try.prog w4 = .ok () w5 ∧ ∃ S'', Cb w5 N (noteF (ok o) (K.take (i + 1)) F) (m + (i + 1)) S'' ∧ (∀ k, S'' k → S k ∨ W.heap.size ≤ k) ∧ Fr S W w5 := fun v2 w4 h1 h2 h3 => by
        obtain ⟨w5, r5, c5, f5, g5⟩ := hst v2 w4 h1 h2 h3
        have zW1 := Below.size HF.out.2.2
        have zw2 := Below.size hw2.1
        have zr := HF.out.2.1.size
        refine ⟨w5, r5, fun k => S' k ∨ v2.ownBlock = some k, ?_, fun k hk => ?_, ?_⟩
        · rw [take_snoc HX.out.1, noteF_app]; exact c5
        · rcases hk with hk | hk
          · exact HF.out.1 k hk
          · rcases g5 k hk with hk | hk
            · exact HF.out.1 k hk
            · exact .inr (by omega)
        · exact ((HF.out.2.1.then_kept HF.out.2.2).then_kept hw2.1).trans f5 HF.out.1
      have HFIN := Lib.hid FIN
      have H3 := Lib.hid (And.intro hr3 src3)
      clear FIN hst hr3 src3 f3 z3 b3 hz3
      refine Av.run_entry rfl (.tmp 16) (.tmp 18) 61 rfl rfl rfl r3 ?_
      refine wpList_nil (hK2.out _ _ ?_)
      clear hK2 K2 hw2 hw1
      try simp only [Act.put, List.setIfInBounds_toArray, List.set_cons_zero, List.set_cons_succ]
      refine Av.tail_fork 10 12 rfl rfl (by kernel_rfl) (by decide) (by decide) (fun u hu K3 hK3 => ?_) (fun u hu K3 hK3 => ?_)
      all_goals subst hu
      · refine Av.run_extract rfl (.tmp 23) 0 rfl rfl rfl ?_
        refine wpList_nil (hK3.out _ _ ?_)
        clear hK3 K3
        simp only [Act.put, List.setIfInBounds_toArray, List.set_cons_zero, List.set_cons_succ]
        refine Av.tail_fork 11 12 rfl rfl (by kernel_rfl) (by decide) (by decide) (fun u hu K3 hK3 => ?_) (fun u hu K3 hK3 => ?_)
        all_goals subst hu
        · refine wpList_append_rowv enc_key w3 rfl (.tmp 19) (.tmp 22) rfl s.v (.slice (some ⟨w1.heap.size, 0, none⟩) 1 1) _ [ok o] rfl rfl H3.out.1 H3.out.2 (by simp only [List.length_singleton]; omega) ?_
          intro v4 w4 r4 g4 b4
          obtain ⟨w5, r5, R5⟩ := HFIN.out v4 w4 r4 g4 b4
          clear r4 g4 b4
          refine wpList_nil (hK3.out _ _ ?_)
          clear hK3 K3
          simp only [Act.put, List.setIfInBounds_toArray, List.set_cons_zero, List.set_cons_succ]
          refine Av.tail_list 12 rfl (by kernel_rfl) (by decide) (fun u hu K3 hK3 => ?_)
          subst hu
          refine Av.run_extract rfl (.tmp 23) 1 rfl rfl rfl ?_
          refine wpList_nil (hK3.out _ _ ?_)
          clear hK3 K3
          simp only [Act.put, List.setIfInBounds_toArray, List.set_cons_zero, List.set_cons_succ]
          refine Av.tail_list 13 rfl (by kernel_rfl) (by decide) (fun u hu K3 hK3 => ?_)
          subst hu
          refine Av.run_entryStore rfl (.tmp 16) (.tmp 25) (.tmp 24) 61 rfl rfl rfl rfl r5 ?_
          refine wpList_nil (hK3.out _ _ ?_)
          clear hK3 K3
          refine Av.done (by kernel_rfl) (fun u hu => ?_)
          subst hu
          have HR5 := Lib.hid R5
          clear R5 r5 HFIN H3
          go_wp2_with fail
          go_roundw
          case rel => exact ⟨i + 1, hlt, by go_num, HR5.out⟩
          case measure => simp [intOf]; omega
        · refine Av.run_extract rfl (.tmp 23) 1 rfl rfl rfl ?_
          refine wpList_nil (hK3.out _ _ ?_)
          clear hK3 K3
          simp only [Act.put, List.setIfInBounds_toArray, List.set_cons_zero, List.set_cons_succ]
          refine Av.tail_list 11 rfl (by kernel_rfl) (by decide) (fun u hu K3 hK3 => ?_)
          subst hu
          refine wpList_append_rowv enc_key w3 rfl (.tmp 19) (.tmp 22) rfl s.v (.slice (some ⟨w1.heap.size, 0, none⟩) 1 1) _ [ok o] rfl rfl H3.out.1 H3.out.2 (by simp only [List.length_singleton]; omega) ?_
          intro v4 w4 r4 g4 b4
          obtain ⟨w5, r5, R5⟩ := HFIN.out v4 w4 r4 g4 b4
          clear r4 g4 b4
          refine wpList_nil (hK3.out _ _ ?_)
          clear hK3 K3
          simp only [Act.put, List.setIfInBounds_toArray, List.set_cons_zero, List.set_cons_succ]
          refine Av.tail_list 13 rfl (by kernel_rfl) (by decide) (fun u hu K3 hK3 => ?_)
          subst hu
          refine Av.run_entryStore rfl (.tmp 16) (.tmp 25) (.tmp 24) 61 rfl rfl rfl rfl r5 ?_
          refine wpList_nil (hK3.out _ _ ?_)
          clear hK3 K3
          refine Av.done (by kernel_rfl) (fun u hu => ?_)
          subst hu
          have HR5 := Lib.hid R5
          clear R5 r5 HFIN H3
          go_wp2_with fail
          go_roundw
          case rel => exact ⟨i + 1, hlt, by go_num, HR5.out⟩
          case measure => simp [intOf]; omega
      · refine Av.run_extract rfl (.tmp 23) 1 rfl rfl rfl ?_
        refine wpList_nil (hK3.out _ _ ?_)
        clear hK3 K3
        simp only [Act.put, List.setIfInBounds_toArray, List.set_cons_zero, List.set_cons_succ]
        refine Av.tail_list 10 rfl (by kernel_rfl) (by decide) (fun u hu K3 hK3 => ?_)
        subst hu
        refine Av.run_extract rfl (.tmp 23) 0 rfl rfl rfl ?_
        refine wpList_nil (hK3.out _ _ ?_)
        clear hK3 K3
        simp only [Act.put, List.setIfInBounds_toArray, List.set_cons_zero, List.set_cons_succ]
        refine Av.tail_list 11 rfl (by kernel_rfl) (by decide) (fun u hu K3 hK3 => ?_)
        subst hu
        refine wpList_append_rowv enc_key w3 rfl (.tmp 19) (.tmp 22) rfl s.v (.slice (some ⟨w1.heap.size, 0, none⟩) 1 1) _ [ok o] rfl rfl H3.out.1 H3.out.2 (by simp only [List.length_singleton]; omega) ?_
        intro v4 w4 r4 g4 b4
        obtain ⟨w5, r5, R5⟩ := HFIN.out v4 w4 r4 g4 b4
        clear r4 g4 b4
        refine wpList_nil (hK3.out _ _ ?_)
        clear hK3 K3
        simp only [Act.put, List.setIfInBounds_toArray, List.set_cons_zero, List.set_cons_succ]
        refine Av.tail_list 13 rfl (by kernel_rfl) (by decide) (fun u hu K3 hK3 => ?_)
        subst hu
        refine Av.run_entryStore rfl (.tmp 16) (.tmp 25) (.tmp 24) 61 rfl rfl rfl rfl r5 ?_
        refine wpList_nil (hK3.out _ _ ?_)
        clear hK3 K3
        refine Av.done (by kernel_rfl) (fun u hu => ?_)
        subst hu
        have HR5 := Lib.hid R5
        clear R5 r5 HFIN H3
        go_wp2_with fail
        go_roundw
        case rel => exact ⟨i + 1, hlt, by go_num, HR5.out⟩
        case measure => simp [intOf]; omega
    · obtain rfl : i = n := by omega
      have hkk : K.take i = K := List.take_of_length_le (Nat.le_of_eq HN.out)
      rw [hkk] at hcb
      go_wp2_with fail
      go_end0
      refine ⟨rfl, S', ?_, fun k hk => (hsub k hk).imp id (fun h => ?_), (Fr.kept (S := S) HB.out.kept).trans hfr (fun _ c => .inl c)⟩
      · rw [HN.out]; exact hcb
      · have := Below.size HB.out.kept; omega

set_option maxHeartbeats 400000 in
theorem forget1_any {u : World} {b : Nat} {A : Array Value} {k : Ke} (hb : u.heap[b]? = some (.cells A 52 (0, 0))) (c0 : A[0]? = some (.int .i64 k.n)) (c1 : A[1]? = some (.int .i64 k.i)) (c2 : A[2]? = some (.int .i64 k.s)) (c3 : A[3]? = some (.int .i64 k.a)) (x : Ke) :
    Calls Try.prog 51 #[kv x, .pointer (some ⟨b, 0, none⟩)] u fun e u' => e = .returned (.bool (decide (x = k))) ∧ Kept u u' := by
  have he := fun w => eq_key x.n x.i x.s x.a k.n k.i k.s k.a w
  have e1 : (⟨x.n, x.i, x.s, x.a⟩ : Ke) = x := rfl
  have e2 : (⟨k.n, k.i, k.s, k.a⟩ : Ke) = k := rfl
  rw [e1, e2] at he
  obtain ⟨z, hz⟩ : ∃ z, decide (x = k) = z := ⟨_, rfl⟩
  rw [hz] at he ⊢
  have d0 : ∀ o : Obj, (u.alloc o).cell? ⟨b, 0, none⟩ = some (.int .i64 k.n) := fun o => by rw [blk_cell (kept_at (Kept.one u o) hb)]; exact c0
  have d1 : ∀ o : Obj, (u.alloc o).cell? ⟨b, 1, none⟩ = some (.int .i64 k.i) := fun o => by rw [blk_cell (kept_at (Kept.one u o) hb)]; exact c1
  have d2 : ∀ o : Obj, (u.alloc o).cell? ⟨b, 2, none⟩ = some (.int .i64 k.s) := fun o => by rw [blk_cell (kept_at (Kept.one u o) hb)]; exact c2
  have d3 : ∀ o : Obj, (u.alloc o).cell? ⟨b, 3, none⟩ = some (.int .i64 k.a) := fun o => by rw [blk_cell (kept_at (Kept.one u o) hb)]; exact c3
  obtain ⟨n, i, s, a⟩ := x
  obtain ⟨n', i', s', a'⟩ := k
  simp only [kv] at *
  obtain ⟨W, hW⟩ : ∃ W, u.alloc (.cells #[.int .i64 n, .int .i64 i, .int .i64 s, .int .i64 a] 32) = W := ⟨_, rfl⟩
  have k1 : Kept u W := by rw [← hW]; exact Kept.one _ _
  have b1 : W.heap[u.heap.size]? = some (.cells #[.int .i64 n, .int .i64 i, .int .i64 s, .int .i64 a] 32 (0, 0)) := by rw [← hW]; exact St.blk_new _ _
  have y0 : W.cell? ⟨u.heap.size, 0, none⟩ = some (.int .i64 n) := by rw [blk_cell b1]; rfl
  have y1 : W.cell? ⟨u.heap.size, 1, none⟩ = some (.int .i64 i) := by rw [blk_cell b1]; rfl
  have y2 : W.cell? ⟨u.heap.size, 2, none⟩ = some (.int .i64 s) := by rw [blk_cell b1]; rfl
  have y3 : W.cell? ⟨u.heap.size, 3, none⟩ = some (.int .i64 a) := by rw [blk_cell b1]; rfl
  have x0 : W.cell? ⟨b, 0, none⟩ = some (.int .i64 n') := by rw [← hW]; exact d0 _
  have x1 : W.cell? ⟨b, 1, none⟩ = some (.int .i64 i') := by rw [← hW]; exact d1 _
  have x2 : W.cell? ⟨b, 2, none⟩ = some (.int .i64 s') := by rw [← hW]; exact d2 _
  have x3 : W.cell? ⟨b, 3, none⟩ = some (.int .i64 a') := by rw [← hW]; exact d3 _
  have HW := Lib.hid hW
  have HK := Lib.hid k1
  clear d0 d1 d2 d3 hb c0 c1 c2 c3 hW b1 k1 e1 e2 hz
  go_enter Try.func51, Try.ntmps51
  go_upto_region 1 with fail
  rw [HW.out]
  go_wp2_with fail
  go_ret
  exact ⟨rfl, HK.out⟩

theorem enters_forget1 : ∀ args u, (callFunc 51 args).run Try.prog u = .ok (.enter 51 args) u := enters_of Try.func51 (by kernel_rfl) rfl

set_option maxHeartbeats 3000000 in
theorem forget_any {w : World} {B M N : Nat} (hB : Blk0 w B M N) {F : Cal} {m : Nat} {S : Nat → Prop} (hc : Cb w N F m S) (hS : ∀ k, S k → k < w.heap.size) (hBS : ¬ S B) (o : Ow) {q : Option Addr} {n c : Nat} {K : List Cl}
    (hv : ∀ u, Fr S w u → Cls u (.slice q n c) K) (hm : m ≤ 900000) (hl : K.length ≤ 900000) (hok : ∀ x ∈ K, okD (ci x)) :
    Calls Try.prog 42 #[pB B, .agg (o.arr q n c)] w fun e w' => e = .returned (.tuple #[]) ∧ ∃ S', Cb w' N (forF (ok o) K F) m S' ∧ (∀ k, S' k → S k ∨ w.heap.size ≤ k) ∧ Fr S w w' := by
  have hN : K.length = n := by obtain ⟨p, cap, e⟩ := (hv w (Fr.refl _ _)).shape; cases e; rfl
  obtain ⟨A, hA⟩ : ∃ A, o.arr q n c = A := ⟨_, rfl⟩
  have c18 : A[18]? = some (.slice q n c) := by rw [← hA]; rfl
  have c0 : A[0]? = some (.int .i64 o.kn) := by rw [← hA]; rfl
  have c1 : A[1]? = some (.int .i64 o.ki) := by rw [← hA]; rfl
  have c2 : A[2]? = some (.int .i64 o.ks) := by rw [← hA]; rfl
  have c3 : A[3]? = some (.int .i64 o.ka) := by rw [← hA]; rfl
  rw [hA]
  clear hA
  obtain ⟨W, hW⟩ : ∃ W, w.alloc (.cells A 52) = W := ⟨_, rfl⟩
  have hb : Bl w W [(A, 52)] := hW ▸ Bl.one w A _
  have h18 : W.cell? ⟨w.heap.size, 18, none⟩ = some (.slice q n c) := (hb.cell 0 18 rfl).trans c18
  have HB := Lib.hid hb
  have HW := Lib.hid hW
  have HV := Lib.hid (fun u (hu : Fr S W u) => hv u ((Fr.kept (S := S) hb.kept).trans hu (fun _ c => .inl c)))
  have HN := Lib.hid hN
  have HT := Lib.hid (And.intro (hB.kept hb.kept) (And.intro (hc.kept hb.kept) hBS))
  have HS := Lib.hid hS
  have HOK := Lib.hid hok
  have HK := Lib.hid (And.intro c0 (And.intro c1 (And.intro c2 c3)))
  have hm2 : n ≤ 900000 := by omega
  clear hv hN hc hB hBS hS hok c0 c1 c2 c3 c18 hb hW
  unfold pB
  go_enter Try.func42, Try.ntmps42
  go_upto_region 1 with fail
  rw [HW.out]
  go_wp2_with fail
  go_loopw [10] (fun y wr => ∃ i : Nat, i ≤ n ∧ y = .int .i64 (i : Int) ∧ Cb wr N (forF (ok o) (K.take i) F) m S ∧ Fr S W wr) (fun y wr => n - (intOf y).toNat)
  case atStart => exact ⟨0, Nat.zero_le _, rfl, HT.out.2.1, Fr.refl _ _⟩
  case round =>
    obtain ⟨i, hi, rfl, hcb, hfr⟩ := hrel
    by_cases hlt : i < n
    · obtain ⟨x, b, off, hx, rfl, hbb, hcl⟩ := (HV.out wr hfr).pick (i := i) (by rw [HN.out]; exact hlt)
      obtain ⟨X, hX⟩ : ∃ X, x.arr = X := ⟨_, rfl⟩
      have sX : X.size = 13 := by rw [← hX]; rfl
      have oX : X.all (·.oneCell') = true := by rw [← hX]; exact one_cells x
      have lX := load_call (u := wr) (b := b) (o := off + i * 13) hX (fun j z hz => hcl j z hz)
      obtain ⟨W1, hW1⟩ : ∃ W1, wr.alloc (.cells X 79) = W1 := ⟨_, rfl⟩
      have k1 : Kept wr W1 := by rw [← hW1]; exact Kept.one _ _
      have b1 : W1.heap[wr.heap.size]? = some (.cells X 79 (0, 0)) := by rw [← hW1]; exact St.blk_new _ _
      have z0 : w.heap.size < W.heap.size := blk_lt (HB.out.blk 0 rfl)
      have b0 : W1.heap[w.heap.size]? = some (.cells A 52 (0, 0)) := by
        rw [k1.block _ (Nat.lt_of_lt_of_le z0 hfr.size), hfr.block _ z0 (fun c => by have := HS.out _ c; omega)]
        exact HB.out.blk 0 rfl
      have bB : Blk0 W1 B M N := (HT.out.1.fr hfr HT.out.2.2).kept k1
      have LI := Lib.hid (fun (u : World) (hu : Kept W1 u) => load_id (u := u) (b := wr.heap.size) (o := 0) ((blk_cell (kept_at hu b1) 0).trans (show X[0]? = some (.int .i64 x.n) by rw [← hX]; rfl)) ((blk_cell (kept_at hu b1) 1).trans (show X[1]? = some (.int .i64 x.i) by rw [← hX]; rfl)) ((blk_cell (kept_at hu b1) 2).trans (show X[2]? = some (.int .i64 x.s) by rw [← hX]; rfl)))
      have XI0 : X[0]? = some (.int .i64 x.n) := by rw [← hX]; rfl
      have XI1 : X[1]? = some (.int .i64 x.i) := by rw [← hX]; rfl
      have XI2 : X[2]? = some (.int .i64 x.s) := by rw [← hX]; rfl
      have LN := Lib.hid (fun (u : World) (hu : Kept W1 u) => run_loadN ((blk_cell (kept_at hu bB) 2).trans rfl))
      have hcb1 := hcb.kept k1
      have hN1 : N < W1.heap.size := by obtain ⟨_, _, h⟩ := hcb1; exact h.map.lt
      have hlen : (forF (ok o) (K.take i) F (ci x)).length ≤ 900000 := by obtain ⟨_, _, h⟩ := hcb1; exact Nat.le_trans (h.len _) hm
      obtain ⟨s, hlook, hrow, hown, hst⟩ := hcb1.strike hm (HOK.out x (List.mem_of_getElem? hx)) (ok o)
      have HST := Lib.hid hst
      have HLK := Lib.hid (fun (u : World) (hu : Kept W1 u) => hlook u (hu.block N hN1))
      have HROW := Lib.hid (And.intro hrow hown)
      have HX := Lib.hid (take_snoc hx)
      have HF := Lib.hid (And.intro hfr k1)
      have HB1 := Lib.hid (And.intro b1 (And.intro b0 bB))
      have HW1 := Lib.hid hW1
      have hSt : Stab (fun u => Kept W1 u) := stab_kept W1
      have hi1 : (i : Int) < (n : Int) := by omega
      clear hx hcl hX hcb hcb1 hfr k1 b1 b0 bB hW1 hst hlook hrow hown
      go_upto_region 4 with (first
        | (refine load_l 79 (.tmp 12) rfl _ rfl rfl (.agg X) lX ?_)
        | (refine store_new rfl 79 (.tmp 5) (.tmp 13) rfl wr.heap.size X rfl rfl wr _ rfl 13 info_cl sX rfl oX ?_; rw [HW1.out]))
      refine Av.region 8 (fun u => Kept W1 u) (by kernel_rfl) ((Kept.refl W1).drew) ?_
      refine Av.take 0 (some 14) (v := ?_) rfl rfl (by kernel_rfl) (by kernel_rfl) (by kernel_rfl) (by kernel_rfl) (fun _ _ _ h => h) hSt (Au.yq_run (by rfl) (fun u hu => ?_)) ?_
      rotate_left
      · (clear hu; go_simp; try with_reducible rfl)
      simp only [Act.put, List.setIfInBounds_toArray, List.set_cons_zero, List.set_cons_succ]
      refine Av.take 1 (some 15) (v := ?_) rfl rfl (by kernel_rfl) (by kernel_rfl) (by kernel_rfl) (by kernel_rfl) (fun _ _ _ h => h) hSt (Au.yq_run (by rfl) (fun u hu => ?_)) ?_
      rotate_left
      · (clear hu; go_simp; try with_reducible rfl)
      simp only [Act.put, List.setIfInBounds_toArray, List.set_cons_zero, List.set_cons_succ]
      refine Av.take 2 (some 16) (v := ?_) rfl rfl (by kernel_rfl) (by kernel_rfl) (by kernel_rfl) (by kernel_rfl) (fun _ _ _ h => h) hSt (Au.yq_run (by rfl) (fun u hu => ?_)) ?_
      rotate_left
      · (clear hu; go_simp; try with_reducible rfl)
      simp only [Act.put, List.setIfInBounds_toArray, List.set_cons_zero, List.set_cons_succ]
      refine Av.take 3 (some 17) rfl rfl (by kernel_rfl) (by kernel_rfl) (by kernel_rfl) (by kernel_rfl) (fun _ _ _ h => h) hSt (Au.yq_load 61 (.tmp 16) rfl _ rfl (by rfl) (fun u hu => LN.out u hu)) ?_
      simp only [Act.put, List.setIfInBounds_toArray, List.set_cons_zero, List.set_cons_succ]
      refine Av.take 4 (some 18) (v := ?_) rfl rfl (by kernel_rfl) (by kernel_rfl) (by kernel_rfl) (by kernel_rfl) (fun _ _ _ h => h) hSt (Au.yq_run (by rfl) (fun u hu => ?_)) ?_
      rotate_left
      · (clear hu; go_simp; try with_reducible rfl)
      simp only [Act.put, List.setIfInBounds_toArray, List.set_cons_zero, List.set_cons_succ]
      refine Av.take 5 (some 19) rfl rfl (by kernel_rfl) (by kernel_rfl) (by kernel_rfl) (by kernel_rfl) (fun _ _ _ h => h) hSt (Au.yq_load 30 (.tmp 18) rfl _ rfl (by rfl) (fun u hu => LI.out u hu)) ?_
      simp only [Act.put, List.setIfInBounds_toArray, List.set_cons_zero, List.set_cons_succ]
      refine Av.take 6 (some 20) (v := ?_) rfl rfl (by kernel_rfl) (by kernel_rfl) (by kernel_rfl) (by kernel_rfl) (fun _ _ _ h => h) hSt (Au.yq_run (by rfl) (fun u hu => ?_)) ?_
      rotate_left
      · (have hrun := HLK.out u hu; unfold dv ci at hrun; clear hu; go_simp; try with_reducible rfl)
      simp only [Act.put, List.setIfInBounds_toArray, List.set_cons_zero, List.set_cons_succ]
      refine Av.take 7 (some 21) (v := ?_) rfl rfl (by kernel_rfl) (by kernel_rfl) (by kernel_rfl) (by kernel_rfl) (fun _ _ _ h => h) hSt (Au.yq_run (by rfl) (fun u hu => ?_)) ?_
      rotate_left
      · (clear hu; go_simp; try with_reducible rfl)
      simp only [Act.put, List.setIfInBounds_toArray, List.set_cons_zero, List.set_cons_succ]
      refine Av.tail_list 8 rfl (by kernel_rfl) (by decide) (fun w2 hw2 K2 hK2 => ?_)
      have CD := Lib.hid (delete_keys (RowV.keep HROW.out.1 hw2) hlen (fun y => decide (y = ok o)) 51 #[.pointer (some ⟨w.heap.size, 0, none⟩)] enters_forget1 (fun u y hu => by
        have hz : w.heap.size < w2.heap.size := Nat.lt_of_lt_of_le (blk_lt HB1.out.2.1) (Below.size hw2)
        have hbu : u.heap[w.heap.size]? = some (.cells A 52 (0, 0)) := (hu.block _ hz (fun c => by have := HS.out _ (HROW.out.2 _ c).1; omega)).trans (kept_at hw2 HB1.out.2.1)
        exact forget1_any hbu HK.out.1 HK.out.2.1 HK.out.2.2.1 HK.out.2.2.2 y))
      go_wp2_with (first | (refine CD.out.mono ?_; rintro e w3 ⟨v2, rfl, r3, ob3, f3⟩))
      refine hK2.out _ _ ?_
      clear hK2 K2 CD
      try simp only [Act.put, List.setIfInBounds_toArray, List.set_cons_zero, List.set_cons_succ]
      refine Av.tail_list 9 rfl (by kernel_rfl) (by decide) (fun u hu K3 hK3 => ?_)
      subst hu
      go_wp2_with fail
      refine hK3.out _ _ ?_
      clear hK3 K3
      try simp only [Act.put, List.setIfInBounds_toArray, List.set_cons_zero, List.set_cons_succ]
      refine Av.done (by kernel_rfl) (fun u hu => ?_)
      subst hu
      obtain ⟨L', hL'⟩ : ∃ L', ((forF (ok o) (K.take i) F (ci x)).filter fun y => !decide (y = ok o)) = L' := ⟨_, rfl⟩
      have hst9 := fun U hU => HST.out w2 v2 w3 hw2 f3 r3 ob3 U hU
      rw [hL'] at r3 hst9
      have hlen2 := fun (u : World) (ty : TypeId) => RowV.len (st := 42) r3 Try.underlying42 ty u
      have z3 := f3.size
      have z2 := Below.size hw2
      have b13 : w3.heap[wr.heap.size]? = some (.cells X 79 (0, 0)) := (f3.block _ (Nat.lt_of_lt_of_le (blk_lt HB1.out.1) z2) (fun c => by
        have h1 := (HROW.out.2 _ c).1
        have h2 := HS.out _ h1
        have h3 := HF.out.1.size
        have h4 := Below.size HB.out.kept
        omega)).trans (kept_at hw2 HB1.out.1)
      have bB3 : Blk0 w3 B M N := (f3.block _ (Nat.lt_of_lt_of_le (blk_lt HB1.out.2.2) z2) (fun c => HT.out.2.2 (HROW.out.2 _ c).1)).trans (kept_at hw2 HB1.out.2.2)
      have LI3 := Lib.hid (fun (u : World) (hu : Kept w3 u) => load_id (u := u) (b := wr.heap.size) (o := 0) ((blk_cell (kept_at hu b13) 0).trans (show X[0]? = some (.int .i64 x.n) from XI0)) ((blk_cell (kept_at hu b13) 1).trans (show X[1]? = some (.int .i64 x.i) from XI1)) ((blk_cell (kept_at hu b13) 2).trans (show X[2]? = some (.int .i64 x.s) from XI2)))
      have LN3 := Lib.hid (fun (u : World) (hu : Kept w3 u) => run_loadN ((blk_cell (kept_at hu bB3) 2).trans rfl))
      have HST9 := Lib.hid hst9
      have hSt3 : Stab (fun u => Kept w3 u) := stab_kept w3
      have HFR := Lib.hid (fun (w9 : World) (h : Fr S W1 w9) => (HF.out.1.then_kept HF.out.2).trans h (fun _ c => .inl c))
      clear LI LN HLK f3 r3 ob3 hst9 b13 bB3 hw2
      by_cases hnil : L' = []
      · have e0 : (L'.length : Int) = 0 := by rw [hnil]; rfl
        rw [e0] at hlen2
        go_upto_region 6 with fail
        refine Av.region 6 (fun u => Kept w3 u) (by kernel_rfl) ((Kept.refl w3).drew) ?_
        refine Av.take 0 (some 26) (v := ?_) rfl rfl (by kernel_rfl) (by kernel_rfl) (by kernel_rfl) (by kernel_rfl) (fun _ _ _ h => h) hSt3 (Au.yq_run (by rfl) (fun u hu => ?_)) ?_
        rotate_left
        · (clear hu; go_simp; try with_reducible rfl)
        simp only [Act.put, List.setIfInBounds_toArray, List.set_cons_zero, List.set_cons_succ]
        refine Av.take 1 (some 27) (v := ?_) rfl rfl (by kernel_rfl) (by kernel_rfl) (by kernel_rfl) (by kernel_rfl) (fun _ _ _ h => h) hSt3 (Au.yq_run (by rfl) (fun u hu => ?_)) ?_
        rotate_left
        · (clear hu; go_simp; try with_reducible rfl)
        simp only [Act.put, List.setIfInBounds_toArray, List.set_cons_zero, List.set_cons_succ]
        refine Av.take 2 (some 28) (v := ?_) rfl rfl (by kernel_rfl) (by kernel_rfl) (by kernel_rfl) (by kernel_rfl) (fun _ _ _ h => h) hSt3 (Au.yq_run (by rfl) (fun u hu => ?_)) ?_
        rotate_left
        · (clear hu; go_simp; try with_reducible rfl)
        simp only [Act.put, List.setIfInBounds_toArray, List.set_cons_zero, List.set_cons_succ]
        refine Av.take 3 (some 29) rfl rfl (by kernel_rfl) (by kernel_rfl) (by kernel_rfl) (by kernel_rfl) (fun _ _ _ h => h) hSt3 (Au.yq_load 61 (.tmp 28) rfl _ rfl (by rfl) (fun u hu => LN3.out u hu)) ?_
        simp only [Act.put, List.setIfInBounds_toArray, List.set_cons_zero, List.set_cons_succ]
        refine Av.take 4 (some 30) (v := ?_) rfl rfl (by kernel_rfl) (by kernel_rfl) (by kernel_rfl) (by kernel_rfl) (fun _ _ _ h => h) hSt3 (Au.yq_run (by rfl) (fun u hu => ?_)) ?_
        rotate_left
        · (clear hu; go_simp; try with_reducible rfl)
        simp only [Act.put, List.setIfInBounds_toArray, List.set_cons_zero, List.set_cons_succ]
        refine Av.take 5 (some 31) rfl rfl (by kernel_rfl) (by kernel_rfl) (by kernel_rfl) (by kernel_rfl) (fun _ _ _ h => h) hSt3 (Au.yq_load 30 (.tmp 30) rfl _ rfl (by rfl) (fun u hu => LI3.out u hu)) ?_
        simp only [Act.put, List.setIfInBounds_toArray, List.set_cons_zero, List.set_cons_succ]
        refine Av.tail_list 6 rfl (by kernel_rfl) (by decide) (fun u hu K3 hK3 => ?_)
        obtain ⟨w9, r9, c9, f9⟩ := (HST9.out u hu).1 hnil 0
        refine Av.run_delete rfl (.tmp 29) (.tmp 31) 61 30 rfl rfl rfl r9 ?_
        have C9 := Lib.hid (And.intro c9 (HFR.out w9 f9))
        clear c9 f9 r9 hu
        refine wpList_nil (hK3.out _ _ ?_)
        clear hK3 K3
        refine Av.done (by kernel_rfl) (fun u hu => ?_)
        subst hu
        go_wp2_with fail
        go_roundw
        case rel => exact ⟨i + 1, hlt, by go_num, by rw [HX.out, forF_app]; exact C9.out.1, C9.out.2⟩
        case measure => simp [intOf]; omega
      · have e0 : 0 < (L'.length : Int) := by have := List.length_pos_iff.2 hnil; omega
        have e1 : ((L'.length : Int) == 0) = false := beq_eq_false_iff_ne.2 (by omega)
        go_upto_region 7 with fail
        refine Av.region 7 (fun u => Kept w3 u) (by kernel_rfl) ((Kept.refl w3).drew) ?_
        refine Av.take 0 (some 32) (v := ?_) rfl rfl (by kernel_rfl) (by kernel_rfl) (by kernel_rfl) (by kernel_rfl) (fun _ _ _ h => h) hSt3 (Au.yq_run (by rfl) (fun u hu => ?_)) ?_
        rotate_left
        · (clear hu; go_simp; try with_reducible rfl)
        simp only [Act.put, List.setIfInBounds_toArray, List.set_cons_zero, List.set_cons_succ]
        refine Av.take 1 (some 33) (v := ?_) rfl rfl (by kernel_rfl) (by kernel_rfl) (by kernel_rfl) (by kernel_rfl) (fun _ _ _ h => h) hSt3 (Au.yq_run (by rfl) (fun u hu => ?_)) ?_
        rotate_left
        · (clear hu; go_simp; try with_reducible rfl)
        simp only [Act.put, List.setIfInBounds_toArray, List.set_cons_zero, List.set_cons_succ]
        refine Av.take 2 (some 34) (v := ?_) rfl rfl (by kernel_rfl) (by kernel_rfl) (by kernel_rfl) (by kernel_rfl) (fun _ _ _ h => h) hSt3 (Au.yq_run (by rfl) (fun u hu => ?_)) ?_
        rotate_left
        · (clear hu; go_simp; try with_reducible rfl)
        simp only [Act.put, List.setIfInBounds_toArray, List.set_cons_zero, List.set_cons_succ]
        refine Av.take 3 (some 35) rfl rfl (by kernel_rfl) (by kernel_rfl) (by kernel_rfl) (by kernel_rfl) (fun _ _ _ h => h) hSt3 (Au.yq_load 61 (.tmp 34) rfl _ rfl (by rfl) (fun u hu => LN3.out u hu)) ?_
        simp only [Act.put, List.setIfInBounds_toArray, List.set_cons_zero, List.set_cons_succ]
        refine Av.take 4 (some 36) (v := ?_) rfl rfl (by kernel_rfl) (by kernel_rfl) (by kernel_rfl) (by kernel_rfl) (fun _ _ _ h => h) hSt3 (Au.yq_run (by rfl) (fun u hu => ?_)) ?_
        rotate_left
        · (clear hu; go_simp; try with_reducible rfl)
        simp only [Act.put, List.setIfInBounds_toArray, List.set_cons_zero, List.set_cons_succ]
        refine Av.take 5 (some 37) rfl rfl (by kernel_rfl) (by kernel_rfl) (by kernel_rfl) (by kernel_rfl) (fun _ _ _ h => h) hSt3 (Au.yq_load 30 (.tmp 36) rfl _ rfl (by rfl) (fun u hu => LI3.out u hu)) ?_
        simp only [Act.put, List.setIfInBounds_toArray, List.set_cons_zero, List.set_cons_succ]
        refine Av.take 6 (some 38) (v := ?_) rfl rfl (by kernel_rfl) (by kernel_rfl) (by kernel_rfl) (by kernel_rfl) (fun _ _ _ h => h) hSt3 (Au.yq_run (by rfl) (fun u hu => ?_)) ?_
        rotate_left
        · (clear hu; go_simp; try with_reducible rfl)
        simp only [Act.put, List.setIfInBounds_toArray, List.set_cons_zero, List.set_cons_succ]
        refine Av.tail_list 7 rfl (by kernel_rfl) (by decide) (fun u hu K3 hK3 => ?_)
        obtain ⟨w9, r9, c9, f9⟩ := (HST9.out u hu).2 hnil
        refine Av.run_update rfl (.tmp 35) (.tmp 37) (.tmp 38) 61 rfl rfl rfl rfl r9 ?_
        have C9 := Lib.hid (And.intro c9 (HFR.out w9 f9))
        clear c9 f9 r9 hu
        refine wpList_nil (hK3.out _ _ ?_)
        clear hK3 K3
        refine Av.done (by kernel_rfl) (fun u hu => ?_)
        subst hu
        go_wp2_with fail
        go_roundw
        case rel => exact ⟨i + 1, hlt, by go_num, by rw [HX.out, forF_app]; exact C9.out.1, C9.out.2⟩
        case measure => simp [intOf]; omega
    · obtain rfl : i = n := by omega
      have hkk : K.take i = K := List.take_of_length_le (Nat.le_of_eq HN.out)
      rw [hkk] at hcb
      go_wp2_with fail
      go_end0
      exact ⟨rfl, S, hcb, fun k hk => .inl hk, (Fr.kept (S := S) HB.out.kept).trans hfr (fun _ c => .inl c)⟩

end Go.Proofs.Ytiaafjabhnomeaa.Tb
