/- Package event: those of which something holds; those of a kind, of an attempt; and the document's; are two rows of events the same? -/
import Derived.Test.YtckjdncacinnkaaDoorEv
import Derived.Test.YtckjdncacinnkaaDoorBlk
import Derived.Shelf.Abstract
import Derived.Deep.DeepCutAuto
import Derived.LoopTactic
namespace Go.Proofs.YtckjdncacinnkaaDoor.Ev
open Go.RowKit Go.Sort Go.Shelf IdM Se EvM Blk
open St (Kept blk_cell blk_free blk_lt blk_set blk_new)
open Go.Proofs.YtckjdncacinnkaaDoor.Rv
open Go.Proofs.YtckjdncacinnkaaDoor.Ls
open Go.Proofs.YtckjdncacinnkaaDoor.Ad (load_l store_new)
open Go.Proofs.YtckjdncacinnkaaDoor.Tb (Lk kr_lk lk_load Kr encK enc_key lk_take)
open Wh (Fr)
set_option linter.unusedVariables false
set_option linter.unusedSimpArgs false
set_option maxRecDepth 20000

/-- what a call that answers events comes to -/
def tellE (w : World) (L : List Ev) (e : Ending) (w' : World) : Prop := ∃ v, e = .returned v ∧ Le w' v L ∧ Kept w w'
def tellK (w : World) (L : List Ke) (e : Ending) (w' : World) : Prop := ∃ v, e = .returned v ∧ Lk w' v L ∧ Kept w w'

theorem fold_ev (e : Ev) {X : Array Value} (h : arr e = X) : Array.foldl (fun (cs : Array Value) (y : Value × Nat) => cs.setIfInBounds y.snd y.fst) #[.int .i64 0, .int .i64 0, .int .i64 0, .int .i64 0, .int .i64 0, .int .i64 0, .int .i64 0, .int .i64 0, .int .i64 0, .int .i64 0, .int .i64 0, .int .i64 0, .int .i64 0, .int .i64 0, .int .i64 0, .int .i64 0, .int .i64 0, .int .i64 0] (X.zipIdx 0) 0 18 = X := by
  subst h
  simp [arr]
/-- what was made behind a call's beginning grows: nothing of what was there turns -/
theorem own_on {w wr w3 : World} {d v3 : Value} {o : Obj} (hk : Kept w wr) (ho : ∀ g, d.ownBlock = some g → w.heap.size ≤ g) (g3 : (wr.alloc o).grownBy w3 d.ownBlock) (b3 : v3.ownBlock = d.ownBlock ∨ ∃ g, v3.ownBlock = some g ∧ wr.heap.size ≤ g) :
    Kept w w3 ∧ ∀ g, v3.ownBlock = some g → w.heap.size ≤ g :=
  ⟨((Fr.kept (S := fun k => w.heap.size ≤ k) (hk.trans (Kept.one wr _))).grown g3 (fun k c => .inl (ho k c))).keeps (fun k c => c), fun g' c => by
    rcases b3 with d' | ⟨g2, d', hl⟩
    · exact ho g' (d'.symm.trans c)
    · obtain rfl : g2 = g' := Option.some.inj (d'.symm.trans c)
      have := Below.size hk; omega⟩
theorem filt_le (p : Ev → Bool) (L : List Ev) (i : Nat) : ((L.take i).filter p).length ≤ L.length := Nat.le_trans (List.length_filter_le _ _) (by rw [List.length_take]; omega)
theorem filt_yes {p : Ev → Bool} {L : List Ev} {i : Nat} {e : Ev} (h : L[i]? = some e) (hp : p e = true) : (L.take (i + 1)).filter p = (L.take i).filter p ++ [e] := by rw [filter_take h, if_pos hp]
theorem filt_no {p : Ev → Bool} {L : List Ev} {i : Nat} {e : Ev} (h : L[i]? = some e) (hp : p e = false) : (L.take (i + 1)).filter p = (L.take i).filter p := by rw [filter_take h, if_neg (by rw [hp]; exact Bool.noConfusion), List.append_nil]

set_option maxHeartbeats 2000000 in
theorem those_any {w : World} {v : Value} {L : List Ev} (hv : Le w v L) (hl : L.length ≤ 900000) (p : Ev → Bool) (g : Nat) (lb : Array Value) (eg : ∀ args u, (callFunc g args).run Tryd.prog u = .ok (.enter g args) u)
    (hp : ∀ u x, x ∈ L → Kept w u → Calls Tryd.prog g (#[.agg (arr x)] ++ lb) u fun e u' => e = .returned (.bool (p x)) ∧ Kept u u') :
    Calls Tryd.prog 27 #[v, .func (.func g) #[] lb] w (tellE w (L.filter p)) := by
  obtain ⟨q, N, cap, rfl, hN, hm⟩ := hv.slice
  have HV := Lib.hid hv
  have HN := Lib.hid hN
  have HP := Lib.hid hp
  have hm2 : N ≤ 900000 := by omega
  clear hv hN hp hm
  go_enter Tryd.func27, Tryd.ntmps27
  go_wp2_with fail
  go_loopw [5, 10] (fun d y wr => ∃ i : Nat, i ≤ N ∧ y = .int .i64 (i : Int) ∧ Hid (Kept w wr) ∧ Hid (Er wr d ((L.take i).filter p)) ∧ Hid (∀ g, d.ownBlock = some g → w.heap.size ≤ g)) (fun _ y _ => N - (intOf y).toNat)
  case atStart => exact ⟨0, Nat.zero_le _, rfl, Lib.hid (Kept.refl _), Lib.hid (rowv_nil _ _ _ _), Lib.hid (fun g e => by cases e)⟩
  case round =>
    obtain ⟨i, hi, rfl, hk, hr, ho⟩ := hrel
    by_cases hlt : i < N
    · obtain ⟨e, b, off, he, rfl, hb, hc⟩ := (HV.out.go hk.out).pick (i := i) (by rw [HN.out]; exact hlt)
      have hi1 : (i : Int) < N := by omega
      have l1 := load_ev hc
      obtain ⟨A, hA⟩ : ∃ A, arr e = A := ⟨_, rfl⟩
      have sA : A.size = 18 := by rw [← hA]; rfl
      have oA : A.all (·.oneCell') = true := by rw [← hA]; exact arr_one e
      have hfx := fold_ev e hA
      have HA := Lib.hid (show (encE e).toArray = A by rw [enc_arr, hA])
      rw [hA] at l1
      obtain ⟨W, hW⟩ : ∃ W, wr.alloc (.cells A 38) = W := ⟨_, rfl⟩
      have hB : Bl wr W [(A, 38)] := hW ▸ Bl.one wr _ _
      have lW : ∀ u, Kept W u → (loadVar 38 ⟨wr.heap.size, 0, none⟩).run Tryd.prog u = .ok (.agg A) u := fun u hu => by
        have := load_ev (e := e) (b := wr.heap.size) (o := 0) (at_blk (by rw [hA]; exact kept_at hu (hB.blk 0 rfl)))
        rwa [hA] at this
      have CP := Lib.hid (HP.out W e (List.mem_of_getElem? he) (hk.out.trans hB.kept))
      obtain ⟨z, hz⟩ : ∃ z, p e = z := ⟨_, rfl⟩
      rw [hz, hA] at CP
      have lW1 := lW W (Kept.refl _)
      have LW := Lib.hid lW
      have HB := Lib.hid hB
      have HW := Lib.hid hW
      clear hA hc hb lW hB hW
      cases z
      · have HD := Lib.hid (filt_no he hz)
        clear he hz
        go_upto_region 5 with (first
          | (refine load_l 38 (.tmp 12) rfl _ rfl rfl (.agg A) l1 ?_)
          | (refine store_new rfl 38 (.tmp 7) (.tmp 13) rfl wr.heap.size A rfl rfl wr _ rfl 18 info_ev sA rfl oA ?_; rw [HW.out]))
        go_wp2_with (first | (refine load_l 38 (.tmp 7) rfl _ rfl rfl (.agg A) lW1 ?_))
        refine CP.out.mono ?_
        rintro e' w2 ⟨rfl, k2⟩
        have K2 := Lib.hid (HB.out.kept.trans k2)
        clear k2
        go_wp2_with fail
        go_roundw
        case rel => exact ⟨i + 1, hlt, by go_num, Lib.hid (hk.out.trans K2.out), by rw [HD.out]; exact Lib.hid (RowV.keep hr.out K2.out), ho⟩
        case measure => simp [intOf]; omega
      · have HD := Lib.hid (filt_yes he hz)
        have hle : ((L.take i).filter p).length ≤ 900000 := Nat.le_trans (filt_le _ _ _) (by have := HN.out; omega)
        clear he hz
        go_upto_region 5 with (first
          | (refine load_l 38 (.tmp 12) rfl _ rfl rfl (.agg A) l1 ?_)
          | (refine store_new rfl 38 (.tmp 7) (.tmp 13) rfl wr.heap.size A rfl rfl wr _ rfl 18 info_ev sA rfl oA ?_; rw [HW.out]))
        go_wp2_with (first | (refine load_l 38 (.tmp 7) rfl _ rfl rfl (.agg A) lW1 ?_))
        refine CP.out.mono ?_
        rintro e' w2 ⟨rfl, k2⟩
        have l2 := LW.out w2 k2
        have r2 := Lib.hid ((RowV.keep hr.out HB.out.kept).keep k2)
        have K2 := Lib.hid (hk.out.trans (HB.out.kept.trans k2))
        clear k2
        go_wp2_with (first
          | (refine load_l 38 (.tmp 7) rfl _ rfl rfl (.agg A) l2 ?_)
          | (at_builtin; refine wpList_append_onev enc_ev w2 rfl (.tmp 17) (.tmp 19) rfl _ _ e A HA.out rfl rfl r2.out hle ?_; intro v3 w3 r3 g3 b3))
        have H3 := Lib.hid (And.intro r3 (own_on K2.out ho.out g3 b3))
        clear r3 g3 b3
        go_roundw
        case rel => exact ⟨i + 1, hlt, by go_num, Lib.hid H3.out.2.1, by rw [HD.out]; exact Lib.hid H3.out.1, Lib.hid H3.out.2.2⟩
        case measure => simp [intOf]; omega
    · obtain rfl : i = N := by omega
      have hkk : L.take i = L := List.take_of_length_le (Nat.le_of_eq HN.out)
      rw [hkk] at hr
      go_wp2_with fail
      go_ret
      exact ⟨_, rfl, er_le hr.out (Nat.le_trans (List.length_filter_le _ _) (by have := HN.out; omega)), hk.out⟩

theorem enters_of1 : ∀ args u, (callFunc 28 args).run Tryd.prog u = .ok (.enter 28 args) u := enters_of Tryd.func28 (by kernel_rfl) rfl
theorem enters_key1 : ∀ args u, (callFunc 29 args).run Tryd.prog u = .ok (.enter 29 args) u := enters_of Tryd.func29 (by kernel_rfl) rfl

theorem of1_any {u : World} {b : Nat} {kind : Int} (hb : u.cell? ⟨b, 0, none⟩ = some (.int .i64 kind)) (x : Ev) :
    Calls Tryd.prog 28 #[.agg (arr x), .pointer (some ⟨b, 0, none⟩)] u fun e u' => e = .returned (.bool (ofP kind x)) ∧ Kept u u' := by
  obtain ⟨A, hA⟩ : ∃ A, arr x = A := ⟨_, rfl⟩
  rw [hA]
  obtain ⟨W, hW⟩ : ∃ W, u.alloc (.cells A 38) = W := ⟨_, rfl⟩
  have hB : Bl u W [(A, 38)] := hW ▸ Bl.one u _ _
  have y0 : W.cell? ⟨u.heap.size, 0, none⟩ = some (.int .i64 x.kind) := (hB.cell 0 0 rfl).trans (by rw [← hA]; rfl)
  have x0 : W.cell? ⟨b, 0, none⟩ = some (.int .i64 kind) := (hB.kept.cell (p := ⟨b, 0, none⟩) (World.block_lt_of_cell? u _ hb)).trans hb
  have HW := Lib.hid hW
  have HB := Lib.hid hB
  obtain ⟨z, hz⟩ : ∃ z, (x.kind == kind) = z := ⟨_, rfl⟩
  have HZ := Lib.hid (show ofP kind x = z from hz)
  rw [HZ.out]
  clear HZ hA hW hB hb
  go_enter Tryd.func28, Tryd.ntmps28
  go_upto_region 1 with fail
  rw [HW.out]
  cases z
  all_goals
    go_wp2_with fail
    go_ret
    exact ⟨rfl, HB.out.kept⟩

theorem of_any {w : World} {v : Value} {L : List Ev} (hv : Le w v L) (hl : L.length ≤ 900000) (kind : Int) :
    Calls Tryd.prog 13 #[v, .int .i64 kind] w (tellE w (L.filter (ofP kind))) := by
  obtain ⟨W, hW⟩ : ∃ W, w.alloc (.cells #[.int .i64 kind] 3) = W := ⟨_, rfl⟩
  have hB : Bl w W [(#[.int .i64 kind], 3)] := hW ▸ Bl.one w _ _
  have hc : W.cell? ⟨w.heap.size, 0, none⟩ = some (.int .i64 kind) := (hB.cell 0 0 rfl).trans rfl
  have HC := Lib.hid (those_any (hv.go hB.kept) hl (ofP kind) 28 #[.pointer (some ⟨w.heap.size, 0, none⟩)] enters_of1 (fun u x _ hu => of1_any ((hu.cell (p := ⟨w.heap.size, 0, none⟩) (World.block_lt_of_cell? W _ hc)).trans hc) x))
  have HW := Lib.hid hW
  have HB := Lib.hid hB
  clear hW hB hc hv
  go_enter Tryd.func13, Tryd.ntmps13
  go_upto_region 1 with fail
  rw [HW.out]
  go_wp2_with (first | (go_at_call 27; refine HC.out.mono ?_; rintro e w' ⟨v2, rfl, r2, k2⟩))
  go_ret
  exact ⟨_, rfl, r2, HB.out.kept.trans k2⟩

set_option maxHeartbeats 1000000 in
theorem key1_any {u : World} {b : Nat} {k : Ke} (hb : (u.heap[b]? = some (.cells #[.int .i64 k.n, .int .i64 k.i, .int .i64 k.s, .int .i64 k.a] 26 (0, 0)))) (x : Ev) :
    Calls Tryd.prog 29 #[.agg (arr x), .pointer (some ⟨b, 0, none⟩)] u fun e u' => e = .returned (.bool (keyP k x)) ∧ Kept u u' := by
  obtain ⟨A, hA⟩ : ∃ A, arr x = A := ⟨_, rfl⟩
  rw [hA]
  obtain ⟨W, hW⟩ : ∃ W, u.alloc (.cells A 38) = W := ⟨_, rfl⟩
  have hB : Bl u W [(A, 38)] := hW ▸ Bl.one u _ _
  have hat : At W u.heap.size 0 x := at_blk (by rw [hA]; exact hB.blk 0 rfl)
  have y0 : W.cell? ⟨u.heap.size, 0, none⟩ = some (.int .i64 x.kind) := hat 0 _ rfl
  have l1 := hat.key
  have l2 := lk_load (u := W) (b := b) (o := 0) (x := k) (fun j z hj => by rw [Nat.zero_add, blk_cell (kept_at hB.kept hb)]; simpa [encK] using hj)
  have he := fun w => eq_key x.kn x.ki x.ks x.ka k.n k.i k.s k.a w
  obtain ⟨z, hz⟩ : ∃ z, decide (x.key = k) = z := ⟨_, rfl⟩
  obtain ⟨y, hy⟩ : ∃ y, (x.kind != 9) = y := ⟨_, rfl⟩
  have HZ := Lib.hid (show keyP k x = (y && z) by rw [← hy, ← hz]; unfold keyP; congr 1; rw [Bool.eq_iff_iff]; simp)
  have he2 : ∀ w, (binOp .eql 26 (kv x.key) (kv k)).run Tryd.prog w = .ok (.bool z) w := fun w => by rw [← hz]; exact he w
  rw [HZ.out]
  have HW := Lib.hid hW
  have HB := Lib.hid hB
  clear HZ hA hW hB hb hat he hz
  unfold kv at l1 l2 he2
  go_enter Tryd.func29, Tryd.ntmps29
  go_upto_region 1 with fail
  rw [HW.out]
  cases y
  · go_wp2_with fail
    go_ret
    exact ⟨rfl, HB.out.kept⟩
  · cases z
    all_goals
      go_wp2_with (first
        | (refine load_l 26 (.tmp 8) rfl _ rfl rfl _ l1 ?_)
        | (refine load_l 26 (.tmp 1) rfl _ rfl rfl _ l2 ?_))
      go_ret
      exact ⟨rfl, HB.out.kept⟩

theorem key_any {w : World} {v : Value} {L : List Ev} (hv : Le w v L) (hl : L.length ≤ 900000) (k : Ke) :
    Calls Tryd.prog 15 #[v, kv k] w (tellE w (L.filter (keyP k))) := by
  obtain ⟨W, hW⟩ : ∃ W, w.alloc (.cells #[.int .i64 k.n, .int .i64 k.i, .int .i64 k.s, .int .i64 k.a] 26) = W := ⟨_, rfl⟩
  have hB : Bl w W [(#[.int .i64 k.n, .int .i64 k.i, .int .i64 k.s, .int .i64 k.a], 26)] := hW ▸ Bl.one w _ _
  have HC := Lib.hid (those_any (hv.go hB.kept) hl (keyP k) 29 #[.pointer (some ⟨w.heap.size, 0, none⟩)] enters_key1 (fun u x _ hu => key1_any (kept_at hu (hB.blk 0 rfl)) x))
  have HW := Lib.hid hW
  have HB := Lib.hid hB
  clear hW hB hv
  unfold kv
  go_enter Tryd.func15, Tryd.ntmps15
  go_upto_region 1 with fail
  rw [HW.out]
  go_wp2_with (first | (go_at_call 27; refine HC.out.mono ?_; rintro e w' ⟨v2, rfl, r2, k2⟩))
  go_ret
  exact ⟨_, rfl, r2, HB.out.kept.trans k2⟩

end Go.Proofs.YtckjdncacinnkaaDoor.Ev
