/- The law: what is sent of what may be, may be. -/
import Derived.Test.YtncdiggejofbbaaGreatDoorSnK
import Derived.Test.YtncdiggejofbbaaGreatDoorSnW
import Derived.Test.YtncdiggejofbbaaGreatDoorOwE
import Derived.Test.YtncdiggejofbbaaGreatDoorSnC
namespace Go.Proofs.YtncdiggejofbbaaGreatDoor.Sn
open Go.RowKit Go.Sort Go.Shelf St PkM Ad Po Blk Eqs IdM
open Go.Proofs.YtncdiggejofbbaaGreatDoor.Cl
open Go.Proofs.YtncdiggejofbbaaGreatDoor.Ow
open Go.Proofs.YtncdiggejofbbaaGreatDoor.Ls
open Go.Proofs.YtncdiggejofbbaaGreatDoor.Rv
open Wh (Fr)
open Go.Proofs.YtncdiggejofbbaaGreatDoor.Au (Stab stab_and)
open Go.Proofs.YtncdiggejofbbaaGreatDoor.Ad (load_w load_l store_new)
set_option linter.unusedVariables false
set_option linter.unusedSimpArgs false

theorem mps {v : Value} {L : List Pk} : Stab (fun u => Mp u v L) := fun u u' h k => h.keep k
theorem mp_ls {W : World} {v : Value} {L : List Pk} (h : Mp W v L) (hl : L.length ≤ 1000000) : Ls 23 encP W v L := ls_row encP_len h hl
/-- what a row of new packets under way leaves as it is -/
theorem acc_go {wc u w1 w3 : World} {v v3 : Value} (ff : Fr (fun j => wc.heap.size ≤ j) wc u) (ho : ∀ j, v.ownBlock = some j → wc.heap.size ≤ j) (k : Kept u w1) (g3 : w1.grownBy w3 v.ownBlock)
    (b3 : v3.ownBlock = v.ownBlock ∨ ∃ g, v3.ownBlock = some g ∧ w1.heap.size ≤ g) : Fr (fun j => wc.heap.size ≤ j) wc w3 ∧ ∀ j, v3.ownBlock = some j → wc.heap.size ≤ j := by
  have f1 := ff.then_kept k
  refine ⟨f1.trans ((Fr.refl (fun j => wc.heap.size ≤ j) w1).grown g3 (fun j e => .inl (ho j e))) (fun j hj => .inl hj), fun j e => ?_⟩
  rcases b3 with h | ⟨g, h, hg⟩
  · exact ho j (h.symm.trans e)
  · obtain rfl : g = j := Option.some.inj (h.symm.trans e)
    exact Nat.le_trans f1.size hg
theorem fr_blk {wc u : World} {g : Nat} {o : Obj} (ff : Fr (fun j => wc.heap.size ≤ j) wc u) (h : wc.heap[g]? = some o) : u.heap[g]? = some o := by
  have := blk_lt h
  rw [ff.block g this (by omega)]; exact h
theorem fr_bl {w wc u : World} {L : List (Array Value × TypeId)} (ff : Fr (fun j => wc.heap.size ≤ j) wc u) (h : Bl w wc L) : Bl w u L :=
  ⟨((Fr.kept (S := fun j => wc.heap.size ≤ j) h.kept).trans ff (fun j hj => .inl hj)).keeps (fun j hj => Nat.le_trans h.kept.size hj), fun i x hx => fr_blk ff (h.at' i x hx)⟩
theorem fr_mc {wc u : World} {v : Value} {K : List Cl} (ff : Fr (fun j => wc.heap.size ≤ j) wc u) (h : Mc wc v K) : Mc u v K :=
  h.kept (fun g e => ff.block g (h.lt e) (by have := h.lt e; omega))
theorem acc_new {wc w1 w3 : World} {v3 : Value} (k : Kept wc w1) (g3 : w1.grownBy w3 none) (b3 : v3.ownBlock = none ∨ ∃ g, v3.ownBlock = some g ∧ wc.heap.size ≤ g) : Fr (fun j => wc.heap.size ≤ j) wc w3 ∧ ∀ j, v3.ownBlock = some j → wc.heap.size ≤ j := by
  refine ⟨((Fr.refl (fun j => wc.heap.size ≤ j) wc).then_kept k).trans ((Fr.refl (fun j => wc.heap.size ≤ j) w1).grown g3 (fun j e => by cases e)) (fun j hj => .inl hj), fun j e => ?_⟩
  rcases b3 with h | ⟨g, h, hg⟩
  · rw [h] at e; cases e
  · obtain rfl : g = j := Option.some.inj (h.symm.trans e)
    exact hg
/-- a block of several packets beside each other, as what is appended -/
theorem src_of {L : List Pk} {w : World} {g n : Nat} {Z : Array Value} {t : TypeId} (hn : L.length = n) (hZ : (fl encP L).toArray = Z) (h : w.heap[g]? = some (.cells Z t (0, 0))) : SrcV w (.slice (some ⟨g, 0, none⟩) n n) encP L := by
  subst hn
  refine ⟨⟨g, 0, none⟩, L.length, rfl, fun j y hj => ?_⟩
  rw [Rv.addr_add, Nat.zero_add, blk_cell h, ← Array.getElem?_toList]
  subst hZ
  exact hj
theorem ok_app {L M : List Pk} (h : ∀ p ∈ L, Ok p) (k : ∀ p ∈ M, Ok p) : ∀ p ∈ L ++ M, Ok p := fun p hp => (List.mem_append.1 hp).elim (h p) (k p)
theorem fr_stab {wc : World} : Stab (fun u => Fr (fun j => wc.heap.size ≤ j) wc u) := fun u u' h k => h.then_kept k

set_option maxRecDepth 100000 in
set_option maxHeartbeats 4000000 in
theorem may_out1 {w : World} {q : Option Addr} {N c : Nat} {K : List Cl} (cf : Cf) (me : Int) (o : Ow) (x : Cl) (now vv : Int) (hv : Cls w (.slice q N c) K) (ht : Tm.Tab w) (hc : Cr.Tab w) (ha : Wd x.att) (hno : mayB me o K = false) :
    Calls Tryz.prog 3 #[.agg cf.arr, .int .i64 me, .agg (o.arr q N c), .agg x.arr, .int .i64 now, .int .i64 vv] w fun e w' => e = .returned (.bool true) ∧ Kept w w' := by
  have hN : K.length = N := by obtain ⟨p, cap, e⟩ := hv.shape; cases e; rfl
  obtain ⟨F, hF⟩ : ∃ F, cf.arr = F := ⟨_, rfl⟩
  obtain ⟨A, hA⟩ : ∃ A, o.arr q N c = A := ⟨_, rfl⟩
  obtain ⟨X, hX⟩ : ∃ X, x.arr = X := ⟨_, rfl⟩
  have sF : F.size = 14 := by rw [← hF]; rfl
  have sA : A.size = 19 := by rw [← hA]; rfl
  have sX : X.size = 13 := by rw [← hX]; rfl
  have f5 : F[5]? = some (.int .i64 cf.hops) := by rw [← hF]; rfl
  have c3 : A[3]? = some (.int .i64 o.ka) := by rw [← hA]; rfl
  have x5 : X[5]? = some (.int .i64 x.att) := by rw [← hX]; rfl
  obtain ⟨W, hW⟩ : ∃ W, ((w.alloc (.cells F 24)).alloc (.cells A 31)).alloc (.cells X 33) = W := ⟨_, rfl⟩
  have hb : Bl w W [(F, 24), (A, 31), (X, 33)] := hW ▸ Bl.three w F A X _ _ _
  have HW := Lib.hid hW
  have HS0 := Lib.hid hb
  have HAW := Lib.hid (show ∀ u, Kept w u → Calls Tryz.prog 6 #[] u fun e w' => e = .returned (.bool true) ∧ Kept u w' from fun u hu => awake_any u (ht.kept hu))
  obtain ⟨b1, hb1⟩ : ∃ b, mayB me o K = b := ⟨_, rfl⟩
  obtain ⟨b2, hb2⟩ : ∃ b, oneB x = b := ⟨_, rfl⟩
  have CB1 := Lib.hid (show ∀ u, Kept w u → Calls Tryz.prog 4 #[.int .i64 me, .agg A] u fun e w' => e = .returned (.bool b1) ∧ Kept u w' from fun u hu => by rw [← hA, ← hb1]; exact may_any me o (hv.go hu))
  have CB2 := Lib.hid (show ∀ u, Calls Tryz.prog 5 #[.agg X] u fun e w' => e = .returned (.bool b2) ∧ Kept u w' from fun u => by rw [← hX, ← hb2]; exact mone_any x u)
  obtain rfl : false = b1 := hno.symm.trans hb1
  clear hb1 hb2
  rw [hF, hA, hX]
  clear hv ht hc hb hW hN hF hA hX
  go_enter Tryz.func3, Tryz.ntmps3
  go_upto_region 1 with fail
  rw [HW.out]
  go_wp2_with (first
    | (refine load_w 31 (.tmp 8) rfl (w.heap.size + 1) rfl rfl A 19 (HS0.out.blk 1 rfl) Tryz.underlying31 sA info_row ?_)
    | (go_at_call 4; refine (CB1.out _ HS0.out.kept).mono ?_; rintro e w1 ⟨rfl, k1⟩; have HS1 := Lib.hid (HS0.out.go k1))
    | (refine load_w 33 (.tmp 9) rfl (w.heap.size + 1 + 1) rfl rfl X 13 (HS1.out.blk 2 rfl) Tryz.underlying33 sX info_rcl ?_)
    | (go_at_call 5; refine (CB2.out _).mono ?_; rintro e w2 ⟨rfl, k2⟩; have HS2 := Lib.hid (HS1.out.go k2); have y5 : w2.cell? ⟨w.heap.size, 5, none⟩ = some (.int .i64 cf.hops) := (HS2.out.cell 0 5 rfl).trans f5)
    | (go_at_call 6; refine (HAW.out _ HS1.out.kept).mono ?_; rintro e w9 ⟨rfl, k9⟩))
  go_ret
  exact ⟨rfl, HS1.out.kept.trans k9⟩

set_option maxRecDepth 100000 in
set_option maxHeartbeats 4000000 in
theorem may_out2 {w : World} {q : Option Addr} {N c : Nat} {K : List Cl} (cf : Cf) (me : Int) (o : Ow) (x : Cl) (now vv : Int) (hv : Cls w (.slice q N c) K) (ht : Tm.Tab w) (hc : Cr.Tab w) (ha : Wd x.att) (h1 : mayB me o K = true) (hno : oneB x = false) :
    Calls Tryz.prog 3 #[.agg cf.arr, .int .i64 me, .agg (o.arr q N c), .agg x.arr, .int .i64 now, .int .i64 vv] w fun e w' => e = .returned (.bool true) ∧ Kept w w' := by
  have hN : K.length = N := by obtain ⟨p, cap, e⟩ := hv.shape; cases e; rfl
  obtain ⟨F, hF⟩ : ∃ F, cf.arr = F := ⟨_, rfl⟩
  obtain ⟨A, hA⟩ : ∃ A, o.arr q N c = A := ⟨_, rfl⟩
  obtain ⟨X, hX⟩ : ∃ X, x.arr = X := ⟨_, rfl⟩
  have sF : F.size = 14 := by rw [← hF]; rfl
  have sA : A.size = 19 := by rw [← hA]; rfl
  have sX : X.size = 13 := by rw [← hX]; rfl
  have f5 : F[5]? = some (.int .i64 cf.hops) := by rw [← hF]; rfl
  have c3 : A[3]? = some (.int .i64 o.ka) := by rw [← hA]; rfl
  have x5 : X[5]? = some (.int .i64 x.att) := by rw [← hX]; rfl
  obtain ⟨W, hW⟩ : ∃ W, ((w.alloc (.cells F 24)).alloc (.cells A 31)).alloc (.cells X 33) = W := ⟨_, rfl⟩
  have hb : Bl w W [(F, 24), (A, 31), (X, 33)] := hW ▸ Bl.three w F A X _ _ _
  have HW := Lib.hid hW
  have HS0 := Lib.hid hb
  have HAW := Lib.hid (show ∀ u, Kept w u → Calls Tryz.prog 6 #[] u fun e w' => e = .returned (.bool true) ∧ Kept u w' from fun u hu => awake_any u (ht.kept hu))
  obtain ⟨b1, hb1⟩ : ∃ b, mayB me o K = b := ⟨_, rfl⟩
  obtain ⟨b2, hb2⟩ : ∃ b, oneB x = b := ⟨_, rfl⟩
  have CB1 := Lib.hid (show ∀ u, Kept w u → Calls Tryz.prog 4 #[.int .i64 me, .agg A] u fun e w' => e = .returned (.bool b1) ∧ Kept u w' from fun u hu => by rw [← hA, ← hb1]; exact may_any me o (hv.go hu))
  have CB2 := Lib.hid (show ∀ u, Calls Tryz.prog 5 #[.agg X] u fun e w' => e = .returned (.bool b2) ∧ Kept u w' from fun u => by rw [← hX, ← hb2]; exact mone_any x u)
  obtain rfl : true = b1 := h1.symm.trans hb1
  obtain rfl : false = b2 := hno.symm.trans hb2
  clear hb1 hb2
  rw [hF, hA, hX]
  clear hv ht hc hb hW hN hF hA hX
  go_enter Tryz.func3, Tryz.ntmps3
  go_upto_region 1 with fail
  rw [HW.out]
  go_wp2_with (first
    | (refine load_w 31 (.tmp 8) rfl (w.heap.size + 1) rfl rfl A 19 (HS0.out.blk 1 rfl) Tryz.underlying31 sA info_row ?_)
    | (go_at_call 4; refine (CB1.out _ HS0.out.kept).mono ?_; rintro e w1 ⟨rfl, k1⟩; have HS1 := Lib.hid (HS0.out.go k1))
    | (refine load_w 33 (.tmp 9) rfl (w.heap.size + 1 + 1) rfl rfl X 13 (HS1.out.blk 2 rfl) Tryz.underlying33 sX info_rcl ?_)
    | (go_at_call 5; refine (CB2.out _).mono ?_; rintro e w2 ⟨rfl, k2⟩; have HS2 := Lib.hid (HS1.out.go k2); have y5 : w2.cell? ⟨w.heap.size, 5, none⟩ = some (.int .i64 cf.hops) := (HS2.out.cell 0 5 rfl).trans f5)
    | (go_at_call 6; refine (HAW.out _ HS2.out.kept).mono ?_; rintro e w9 ⟨rfl, k9⟩))
  go_ret
  exact ⟨rfl, HS2.out.kept.trans k9⟩

set_option maxRecDepth 100000 in
set_option maxHeartbeats 4000000 in
theorem may_out3 {w : World} {q : Option Addr} {N c : Nat} {K : List Cl} (cf : Cf) (me : Int) (o : Ow) (x : Cl) (now vv : Int) (hv : Cls w (.slice q N c) K) (ht : Tm.Tab w) (hc : Cr.Tab w) (ha : Wd x.att) (hgo : mayB me o K = true ∧ oneB x = true) (e3 : 16 < cf.hops) :
    Calls Tryz.prog 3 #[.agg cf.arr, .int .i64 me, .agg (o.arr q N c), .agg x.arr, .int .i64 now, .int .i64 vv] w fun e w' => e = .returned (.bool true) ∧ Kept w w' := by
  have hN : K.length = N := by obtain ⟨p, cap, e⟩ := hv.shape; cases e; rfl
  obtain ⟨F, hF⟩ : ∃ F, cf.arr = F := ⟨_, rfl⟩
  obtain ⟨A, hA⟩ : ∃ A, o.arr q N c = A := ⟨_, rfl⟩
  obtain ⟨X, hX⟩ : ∃ X, x.arr = X := ⟨_, rfl⟩
  have sF : F.size = 14 := by rw [← hF]; rfl
  have sA : A.size = 19 := by rw [← hA]; rfl
  have sX : X.size = 13 := by rw [← hX]; rfl
  have f5 : F[5]? = some (.int .i64 cf.hops) := by rw [← hF]; rfl
  have c3 : A[3]? = some (.int .i64 o.ka) := by rw [← hA]; rfl
  have x5 : X[5]? = some (.int .i64 x.att) := by rw [← hX]; rfl
  obtain ⟨W, hW⟩ : ∃ W, ((w.alloc (.cells F 24)).alloc (.cells A 31)).alloc (.cells X 33) = W := ⟨_, rfl⟩
  have hb : Bl w W [(F, 24), (A, 31), (X, 33)] := hW ▸ Bl.three w F A X _ _ _
  have HW := Lib.hid hW
  have HS0 := Lib.hid hb
  have HAW := Lib.hid (show ∀ u, Kept w u → Calls Tryz.prog 6 #[] u fun e w' => e = .returned (.bool true) ∧ Kept u w' from fun u hu => awake_any u (ht.kept hu))
  obtain ⟨b1, hb1⟩ : ∃ b, mayB me o K = b := ⟨_, rfl⟩
  obtain ⟨b2, hb2⟩ : ∃ b, oneB x = b := ⟨_, rfl⟩
  have CB1 := Lib.hid (show ∀ u, Kept w u → Calls Tryz.prog 4 #[.int .i64 me, .agg A] u fun e w' => e = .returned (.bool b1) ∧ Kept u w' from fun u hu => by rw [← hA, ← hb1]; exact may_any me o (hv.go hu))
  have CB2 := Lib.hid (show ∀ u, Calls Tryz.prog 5 #[.agg X] u fun e w' => e = .returned (.bool b2) ∧ Kept u w' from fun u => by rw [← hX, ← hb2]; exact mone_any x u)
  obtain rfl : true = b1 := hgo.1.symm.trans hb1
  obtain rfl : true = b2 := hgo.2.symm.trans hb2
  clear hb1 hb2
  rw [hF, hA, hX]
  clear hv ht hc hb hW hN hF hA hX
  go_enter Tryz.func3, Tryz.ntmps3
  go_upto_region 1 with fail
  rw [HW.out]
  go_wp2_with (first
    | (refine load_w 31 (.tmp 8) rfl (w.heap.size + 1) rfl rfl A 19 (HS0.out.blk 1 rfl) Tryz.underlying31 sA info_row ?_)
    | (go_at_call 4; refine (CB1.out _ HS0.out.kept).mono ?_; rintro e w1 ⟨rfl, k1⟩; have HS1 := Lib.hid (HS0.out.go k1))
    | (refine load_w 33 (.tmp 9) rfl (w.heap.size + 1 + 1) rfl rfl X 13 (HS1.out.blk 2 rfl) Tryz.underlying33 sX info_rcl ?_)
    | (go_at_call 5; refine (CB2.out _).mono ?_; rintro e w2 ⟨rfl, k2⟩; have HS2 := Lib.hid (HS1.out.go k2); have y5 : w2.cell? ⟨w.heap.size, 5, none⟩ = some (.int .i64 cf.hops) := (HS2.out.cell 0 5 rfl).trans f5)
    | (go_at_call 6; refine (HAW.out _ HS2.out.kept).mono ?_; rintro e w9 ⟨rfl, k9⟩))
  go_ret
  exact ⟨rfl, HS2.out.kept.trans k9⟩

set_option maxRecDepth 100000 in
set_option maxHeartbeats 4000000 in
theorem may_out4 {w : World} {q : Option Addr} {N c : Nat} {K : List Cl} (cf : Cf) (me : Int) (o : Ow) (x : Cl) (now vv : Int) (hv : Cls w (.slice q N c) K) (ht : Tm.Tab w) (hc : Cr.Tab w) (ha : Wd x.att) (hgo : mayB me o K = true ∧ oneB x = true) (e3 : ¬ 16 < cf.hops) (e4 : vv < 0) :
    Calls Tryz.prog 3 #[.agg cf.arr, .int .i64 me, .agg (o.arr q N c), .agg x.arr, .int .i64 now, .int .i64 vv] w fun e w' => e = .returned (.bool true) ∧ Kept w w' := by
  have hN : K.length = N := by obtain ⟨p, cap, e⟩ := hv.shape; cases e; rfl
  obtain ⟨F, hF⟩ : ∃ F, cf.arr = F := ⟨_, rfl⟩
  obtain ⟨A, hA⟩ : ∃ A, o.arr q N c = A := ⟨_, rfl⟩
  obtain ⟨X, hX⟩ : ∃ X, x.arr = X := ⟨_, rfl⟩
  have sF : F.size = 14 := by rw [← hF]; rfl
  have sA : A.size = 19 := by rw [← hA]; rfl
  have sX : X.size = 13 := by rw [← hX]; rfl
  have f5 : F[5]? = some (.int .i64 cf.hops) := by rw [← hF]; rfl
  have c3 : A[3]? = some (.int .i64 o.ka) := by rw [← hA]; rfl
  have x5 : X[5]? = some (.int .i64 x.att) := by rw [← hX]; rfl
  obtain ⟨W, hW⟩ : ∃ W, ((w.alloc (.cells F 24)).alloc (.cells A 31)).alloc (.cells X 33) = W := ⟨_, rfl⟩
  have hb : Bl w W [(F, 24), (A, 31), (X, 33)] := hW ▸ Bl.three w F A X _ _ _
  have HW := Lib.hid hW
  have HS0 := Lib.hid hb
  have HAW := Lib.hid (show ∀ u, Kept w u → Calls Tryz.prog 6 #[] u fun e w' => e = .returned (.bool true) ∧ Kept u w' from fun u hu => awake_any u (ht.kept hu))
  obtain ⟨b1, hb1⟩ : ∃ b, mayB me o K = b := ⟨_, rfl⟩
  obtain ⟨b2, hb2⟩ : ∃ b, oneB x = b := ⟨_, rfl⟩
  have CB1 := Lib.hid (show ∀ u, Kept w u → Calls Tryz.prog 4 #[.int .i64 me, .agg A] u fun e w' => e = .returned (.bool b1) ∧ Kept u w' from fun u hu => by rw [← hA, ← hb1]; exact may_any me o (hv.go hu))
  have CB2 := Lib.hid (show ∀ u, Calls Tryz.prog 5 #[.agg X] u fun e w' => e = .returned (.bool b2) ∧ Kept u w' from fun u => by rw [← hX, ← hb2]; exact mone_any x u)
  obtain rfl : true = b1 := hgo.1.symm.trans hb1
  obtain rfl : true = b2 := hgo.2.symm.trans hb2
  clear hb1 hb2
  have d3 : decide (16 < cf.hops) = false := decide_eq_false e3
  rw [hF, hA, hX]
  clear hv ht hc hb hW hN hF hA hX
  go_enter Tryz.func3, Tryz.ntmps3
  go_upto_region 1 with fail
  rw [HW.out]
  go_wp2_with (first
    | (refine load_w 31 (.tmp 8) rfl (w.heap.size + 1) rfl rfl A 19 (HS0.out.blk 1 rfl) Tryz.underlying31 sA info_row ?_)
    | (go_at_call 4; refine (CB1.out _ HS0.out.kept).mono ?_; rintro e w1 ⟨rfl, k1⟩; have HS1 := Lib.hid (HS0.out.go k1))
    | (refine load_w 33 (.tmp 9) rfl (w.heap.size + 1 + 1) rfl rfl X 13 (HS1.out.blk 2 rfl) Tryz.underlying33 sX info_rcl ?_)
    | (go_at_call 5; refine (CB2.out _).mono ?_; rintro e w2 ⟨rfl, k2⟩; have HS2 := Lib.hid (HS1.out.go k2); have y5 : w2.cell? ⟨w.heap.size, 5, none⟩ = some (.int .i64 cf.hops) := (HS2.out.cell 0 5 rfl).trans f5)
    | (go_at_call 6; refine (HAW.out _ HS2.out.kept).mono ?_; rintro e w9 ⟨rfl, k9⟩))
  go_ret
  exact ⟨rfl, HS2.out.kept.trans k9⟩

set_option maxRecDepth 100000 in
set_option maxHeartbeats 4000000 in
theorem may_out5 {w : World} {q : Option Addr} {N c : Nat} {K : List Cl} (cf : Cf) (me : Int) (o : Ow) (x : Cl) (now vv : Int) (hv : Cls w (.slice q N c) K) (ht : Tm.Tab w) (hc : Cr.Tab w) (ha : Wd x.att) (hgo : mayB me o K = true ∧ oneB x = true) (e3 : ¬ 16 < cf.hops) (e4 : ¬ vv < 0) (e5 : 2147483647 < vv) :
    Calls Tryz.prog 3 #[.agg cf.arr, .int .i64 me, .agg (o.arr q N c), .agg x.arr, .int .i64 now, .int .i64 vv] w fun e w' => e = .returned (.bool true) ∧ Kept w w' := by
  have hN : K.length = N := by obtain ⟨p, cap, e⟩ := hv.shape; cases e; rfl
  obtain ⟨F, hF⟩ : ∃ F, cf.arr = F := ⟨_, rfl⟩
  obtain ⟨A, hA⟩ : ∃ A, o.arr q N c = A := ⟨_, rfl⟩
  obtain ⟨X, hX⟩ : ∃ X, x.arr = X := ⟨_, rfl⟩
  have sF : F.size = 14 := by rw [← hF]; rfl
  have sA : A.size = 19 := by rw [← hA]; rfl
  have sX : X.size = 13 := by rw [← hX]; rfl
  have f5 : F[5]? = some (.int .i64 cf.hops) := by rw [← hF]; rfl
  have c3 : A[3]? = some (.int .i64 o.ka) := by rw [← hA]; rfl
  have x5 : X[5]? = some (.int .i64 x.att) := by rw [← hX]; rfl
  obtain ⟨W, hW⟩ : ∃ W, ((w.alloc (.cells F 24)).alloc (.cells A 31)).alloc (.cells X 33) = W := ⟨_, rfl⟩
  have hb : Bl w W [(F, 24), (A, 31), (X, 33)] := hW ▸ Bl.three w F A X _ _ _
  have HW := Lib.hid hW
  have HS0 := Lib.hid hb
  have HAW := Lib.hid (show ∀ u, Kept w u → Calls Tryz.prog 6 #[] u fun e w' => e = .returned (.bool true) ∧ Kept u w' from fun u hu => awake_any u (ht.kept hu))
  obtain ⟨b1, hb1⟩ : ∃ b, mayB me o K = b := ⟨_, rfl⟩
  obtain ⟨b2, hb2⟩ : ∃ b, oneB x = b := ⟨_, rfl⟩
  have CB1 := Lib.hid (show ∀ u, Kept w u → Calls Tryz.prog 4 #[.int .i64 me, .agg A] u fun e w' => e = .returned (.bool b1) ∧ Kept u w' from fun u hu => by rw [← hA, ← hb1]; exact may_any me o (hv.go hu))
  have CB2 := Lib.hid (show ∀ u, Calls Tryz.prog 5 #[.agg X] u fun e w' => e = .returned (.bool b2) ∧ Kept u w' from fun u => by rw [← hX, ← hb2]; exact mone_any x u)
  obtain rfl : true = b1 := hgo.1.symm.trans hb1
  obtain rfl : true = b2 := hgo.2.symm.trans hb2
  clear hb1 hb2
  have d3 : decide (16 < cf.hops) = false := decide_eq_false e3
  have d4 : decide (vv < 0) = false := decide_eq_false e4
  rw [hF, hA, hX]
  clear hv ht hc hb hW hN hF hA hX
  go_enter Tryz.func3, Tryz.ntmps3
  go_upto_region 1 with fail
  rw [HW.out]
  go_wp2_with (first
    | (refine load_w 31 (.tmp 8) rfl (w.heap.size + 1) rfl rfl A 19 (HS0.out.blk 1 rfl) Tryz.underlying31 sA info_row ?_)
    | (go_at_call 4; refine (CB1.out _ HS0.out.kept).mono ?_; rintro e w1 ⟨rfl, k1⟩; have HS1 := Lib.hid (HS0.out.go k1))
    | (refine load_w 33 (.tmp 9) rfl (w.heap.size + 1 + 1) rfl rfl X 13 (HS1.out.blk 2 rfl) Tryz.underlying33 sX info_rcl ?_)
    | (go_at_call 5; refine (CB2.out _).mono ?_; rintro e w2 ⟨rfl, k2⟩; have HS2 := Lib.hid (HS1.out.go k2); have y5 : w2.cell? ⟨w.heap.size, 5, none⟩ = some (.int .i64 cf.hops) := (HS2.out.cell 0 5 rfl).trans f5)
    | (go_at_call 6; refine (HAW.out _ HS2.out.kept).mono ?_; rintro e w9 ⟨rfl, k9⟩))
  go_ret
  exact ⟨rfl, HS2.out.kept.trans k9⟩

set_option maxRecDepth 100000 in
set_option maxHeartbeats 4000000 in
theorem may_goA {w : World} {q : Option Addr} {N c : Nat} {K : List Cl} (cf : Cf) (me : Int) (o : Ow) (x : Cl) (now vv : Int) (hv : Cls w (.slice q N c) K) (ht : Tm.Tab w) (hc : Cr.Tab w) (ha : Wd x.att) (hgo : mayB me o K = true ∧ oneB x = true ∧ ¬ 16 < cf.hops ∧ ¬ vv < 0 ∧ ¬ 2147483647 < vv) (hk0 : (snd cf me o x now).2.kind = 0) (hka : 0 < o.ka) :
    Calls Tryz.prog 3 #[.agg cf.arr, .int .i64 me, .agg (o.arr q N c), .agg x.arr, .int .i64 now, .int .i64 vv] w fun e w' => e = .returned (.bool true) ∧ Kept w w' := by
  have hN : K.length = N := by obtain ⟨p, cap, e⟩ := hv.shape; cases e; rfl
  obtain ⟨F, hF⟩ : ∃ F, cf.arr = F := ⟨_, rfl⟩
  obtain ⟨A, hA⟩ : ∃ A, o.arr q N c = A := ⟨_, rfl⟩
  obtain ⟨X, hX⟩ : ∃ X, x.arr = X := ⟨_, rfl⟩
  have sF : F.size = 14 := by rw [← hF]; rfl
  have sA : A.size = 19 := by rw [← hA]; rfl
  have sX : X.size = 13 := by rw [← hX]; rfl
  have f5 : F[5]? = some (.int .i64 cf.hops) := by rw [← hF]; rfl
  have c3 : A[3]? = some (.int .i64 o.ka) := by rw [← hA]; rfl
  have x5 : X[5]? = some (.int .i64 x.att) := by rw [← hX]; rfl
  obtain ⟨W, hW⟩ : ∃ W, ((w.alloc (.cells F 24)).alloc (.cells A 31)).alloc (.cells X 33) = W := ⟨_, rfl⟩
  have hb : Bl w W [(F, 24), (A, 31), (X, 33)] := hW ▸ Bl.three w F A X _ _ _
  have HW := Lib.hid hW
  have HS0 := Lib.hid hb
  have HAW := Lib.hid (show ∀ u, Kept w u → Calls Tryz.prog 6 #[] u fun e w' => e = .returned (.bool true) ∧ Kept u w' from fun u hu => awake_any u (ht.kept hu))
  obtain ⟨b1, hb1⟩ : ∃ b, mayB me o K = b := ⟨_, rfl⟩
  obtain ⟨b2, hb2⟩ : ∃ b, oneB x = b := ⟨_, rfl⟩
  have CB1 := Lib.hid (show ∀ u, Kept w u → Calls Tryz.prog 4 #[.int .i64 me, .agg A] u fun e w' => e = .returned (.bool b1) ∧ Kept u w' from fun u hu => by rw [← hA, ← hb1]; exact may_any me o (hv.go hu))
  have CB2 := Lib.hid (show ∀ u, Calls Tryz.prog 5 #[.agg X] u fun e w' => e = .returned (.bool b2) ∧ Kept u w' from fun u => by rw [← hX, ← hb2]; exact mone_any x u)
  obtain rfl : true = b1 := hgo.1.symm.trans hb1
  obtain rfl : true = b2 := hgo.2.1.symm.trans hb2
  obtain ⟨-, -, e3, e4, e5⟩ := hgo
  have d3 : decide (16 < cf.hops) = false := decide_eq_false e3
  have d4 : decide (vv < 0) = false := decide_eq_false e4
  have hm := may_iff.1 hb1
  have hx1 := one_iff.1 hb2
  have HM := Lib.hid (And.intro hm (And.intro hb2 hx1))
  have hl30 : N ≤ 30 := by rw [← hN]; exact hm.2.2.2.2.2.1
  obtain ⟨y, p, hy⟩ : ∃ y p, snd cf me o x now = (y, p) := ⟨_, _, rfl⟩
  rw [hy] at hk0
  obtain ⟨Y, hY⟩ : ∃ Y, y.arr = Y := ⟨_, rfl⟩
  obtain ⟨R, hR⟩ : ∃ R, p.arr = R := ⟨_, rfl⟩
  have sY : Y.size = 13 := by rw [← hY]; rfl
  have oY : Y.all (·.oneCell') = true := by rw [← hY]; exact cl_one y
  have sR : R.size = 23 := by rw [← hR]; rfl
  have oR : R.all (·.oneCell') = true := by rw [← hR]; exact pk_one p
  have r0 : R[0]? = some (.int .i64 p.kind) := by rw [← hR]; rfl
  have hfR := fold_pk p hR
  have HR := Lib.hid hR
  have HN := Lib.hid hN
  have HT := Lib.hid (And.intro ht hc)
  have C1 := Lib.hid (show ∀ u, Calls Tryz.prog 9 #[.agg X] u fun e w' => e = .returned (.agg X) ∧ Kept u w' from fun u => by rw [← hX]; exact Ow.one_any x u)
  have CM := Lib.hid (show ∀ u, Kept w u → Calls Tryz.prog 7 #[.agg A] u fun e w' => ∃ q' n' c', e = .returned (.agg (o.arr q' n' c')) ∧ Mc w' (.slice q' n' c') K ∧ (∀ g, (Value.slice q' n' c').ownBlock = some g → u.heap.size ≤ g) ∧ Kept u w' from fun u hu => by rw [← hA]; exact Ow.mine_any o (hv.go hu) (by omega))
  have CS := Lib.hid (show ∀ u q' n' c', Kept w u → Calls Tryz.prog 8 #[.agg F, .int .i64 me, .agg (o.arr q' n' c'), .agg X, .int .i64 now] u fun e w' => e = .returned (.tuple #[.agg Y, .agg R]) ∧ Kept u w' from fun u q' n' c' hu => by
    have := send_any cf me o x now q' n' c' u (ht.kept hu) ha
    rw [hy, hF, hX] at this; rw [← hY, ← hR]; exact this)
  have e5b : decide (2147483647 < vv) = false := decide_eq_false e5
  rw [hF, hA, hX]
  clear hv ht hc hb hW hN hF hA hX hb1 hb2 hm hx1 hy hY hR
  go_enter Tryz.func3, Tryz.ntmps3
  go_upto_region 1 with fail
  rw [HW.out]
  go_upto_region 4 with (first
    | (refine load_w 31 (.tmp 8) rfl (w.heap.size + 1) rfl rfl A 19 (HS0.out.blk 1 rfl) Tryz.underlying31 sA info_row ?_)
    | (go_at_call 4; refine (CB1.out _ HS0.out.kept).mono ?_; rintro e w1 ⟨rfl, k1⟩; have HS1 := Lib.hid (HS0.out.go k1))
    | (refine load_w 33 (.tmp 9) rfl (w.heap.size + 1 + 1) rfl rfl X 13 (HS1.out.blk 2 rfl) Tryz.underlying33 sX info_rcl ?_)
    | (go_at_call 5; refine (CB2.out _).mono ?_; rintro e w2 ⟨rfl, k2⟩; have HS2 := Lib.hid (HS1.out.go k2); have y5 : w2.cell? ⟨w.heap.size, 5, none⟩ = some (.int .i64 cf.hops) := (HS2.out.cell 0 5 rfl).trans f5)
    | (refine load_w 31 (.tmp 8) rfl (w.heap.size + 1) rfl rfl A 19 (HS2.out.blk 1 rfl) Tryz.underlying31 sA info_row ?_)
    | (go_at_call 7; refine (CM.out _ HS2.out.kept).mono ?_; rintro e u1 ⟨q1, n1, c1, rfl, s1, -, k3⟩)
    | (refine store_new rfl 39 (.tmp 13) (.tmp 41) rfl u1.heap.size (o.arr q1 n1 c1) rfl rfl u1 _ rfl 19 info_ow rfl rfl (arr_one _ _ _ _) ?_))
  obtain ⟨V, hV⟩ : ∃ V, u1.alloc (.cells (o.arr q1 n1 c1) 39) = V := ⟨_, rfl⟩
  rw [hV]
  have kV : Kept u1 V := by rw [← hV]; exact Kept.one _ _
  have bV : V.heap[u1.heap.size]? = some (.cells (o.arr q1 n1 c1) 39 (0, 0)) := by rw [← hV]; exact blk_new u1 _
  obtain ⟨g0, hg⟩ : ∃ g, u1.heap.size = g := ⟨_, rfl⟩
  rw [hg] at bV ⊢
  obtain ⟨E, hE⟩ : ∃ E, o.arr q1 n1 c1 = E := ⟨_, rfl⟩
  have HZ := Lib.hid (And.intro ((HS2.out.go k3).go kV) (And.intro (show V.heap[g0]? = some (.cells E 39 (0, 0)) by rw [← hE]; exact bV) (s1.keep kV)))
  have HE := Lib.hid hE
  have sE : E.size = 19 := by rw [← hE]; rfl
  have CS2 := Lib.hid (show ∀ u, Kept w u → Calls Tryz.prog 8 #[.agg F, .int .i64 me, .agg E, .agg X, .int .i64 now] u fun e w' => e = .returned (.tuple #[.agg Y, .agg R]) ∧ Kept u w' from fun u hu => by rw [← hE]; exact CS.out u q1 n1 c1 hu)
  simp only [hE]
  clear hV kV bV hg s1 k3 HS2 HS1 k1 k2 y5 d3 d4 e5b CS CM CB1 CB2 hE
  simp only [Act.put]
  go_cut [14, 15] (fun p1 p2 wx => ∃ gA gB : Nat, p1 = .pointer (some ⟨gA, 0, none⟩) ∧ p2 = .pointer (some ⟨gB, 0, none⟩) ∧ Bl w wx [(F, 24), (A, 31), (X, 33)] ∧ wx.heap[g0]? = some (.cells E 39 (0, 0)) ∧ Mc wx (.slice q1 n1 c1) K ∧ wx.heap[gB]? = some (.cells R 43 (0, 0)))
  case first =>
    have hST : Stab (fun u => Bl w u [(F, 24), (A, 31), (X, 33)] ∧ u.heap[g0]? = some (.cells E 39 (0, 0)) ∧ Mc u (.slice q1 n1 c1) K) ∧ ∀ u, (fun u => Bl w u [(F, 24), (A, 31), (X, 33)] ∧ u.heap[g0]? = some (.cells E 39 (0, 0)) ∧ Mc u (.slice q1 n1 c1) K) u → (fun u => Bl w u [(F, 24), (A, 31), (X, 33)] ∧ u.heap[g0]? = some (.cells E 39 (0, 0)) ∧ Mc u (.slice q1 n1 c1) K) u := ⟨(stab_and bl_stab (stab_and blk_stab mcs)), fun u h => ⟨h.1, h.2.1, h.2.2⟩⟩
    refine AvT.region (fun u => Bl w u [(F, 24), (A, 31), (X, 33)] ∧ u.heap[g0]? = some (.cells E 39 (0, 0)) ∧ Mc u (.slice q1 n1 c1) K) (fun u => Bl w u [(F, 24), (A, 31), (X, 33)] ∧ u.heap[g0]? = some (.cells E 39 (0, 0)) ∧ Mc u (.slice q1 n1 c1) K) (by kernel_rfl) (hST.1 _ _ HZ.out (Kept.refl _).drew) ?_
    refine AvT.take 0 (some 43) rfl rfl (by kernel_rfl) (by kernel_rfl) (by kernel_rfl) (fun _ _ _ h => h) hST (Au.yq_load 24 (.tmp 6) rfl _ rfl (by rfl) (fun u hu => load_cf (hu.1.blk 0 rfl) sF)) ?_
    simp only [Act.put, List.setIfInBounds_toArray, List.set_cons_zero, List.set_cons_succ]
    refine AvT.take 1 (some 44) (v := ?_) rfl rfl (by kernel_rfl) (by kernel_rfl) (by kernel_rfl) (fun _ _ _ h => h) hST (Au.yq_run (by rfl) (fun u hu => ?_)) ?_
    rotate_left
    · (clear hu; go_simp; try with_reducible rfl)
    simp only [Act.put, List.setIfInBounds_toArray, List.set_cons_zero, List.set_cons_succ]
    refine AvT.take 2 (some 45) rfl rfl (by kernel_rfl) (by kernel_rfl) (by kernel_rfl) (fun _ _ _ h => h) hST (Au.yq_load 39 (.tmp 13) rfl _ rfl (by rfl) (fun u hu => load_ow hu.2.1 sE)) ?_
    simp only [Act.put, List.setIfInBounds_toArray, List.set_cons_zero, List.set_cons_succ]
    refine AvT.take 3 (some 46) rfl rfl (by kernel_rfl) (by kernel_rfl) (by kernel_rfl) (fun _ _ _ h => h) hST (Au.yq_load 33 (.tmp 9) rfl _ rfl (by rfl) (fun u hu => load_rcl (hu.1.blk 2 rfl) sX)) ?_
    simp only [Act.put, List.setIfInBounds_toArray, List.set_cons_zero, List.set_cons_succ]
    refine AvT.take 4 (some 47) rfl rfl (by kernel_rfl) (by kernel_rfl) (by kernel_rfl) (fun _ _ _ h => h) hST (Au.yq_call 9 _ (by rfl) (fun u => by go_simp) (fun u hu => C1.out u)) ?_
    simp only [Act.put, List.setIfInBounds_toArray, List.set_cons_zero, List.set_cons_succ]
    refine AvT.take 5 (some 48) (v := ?_) rfl rfl (by kernel_rfl) (by kernel_rfl) (by kernel_rfl) (fun _ _ _ h => h) hST (Au.yq_run (by rfl) (fun u hu => ?_)) ?_
    rotate_left
    · (clear hu; go_simp; try with_reducible rfl)
    simp only [Act.put, List.setIfInBounds_toArray, List.set_cons_zero, List.set_cons_succ]
    refine AvT.take 6 (some 49) rfl rfl (by kernel_rfl) (by kernel_rfl) (by kernel_rfl) (fun _ _ _ h => h) hST (Au.yq_call 8 _ (by rfl) (fun u => by go_simp) (fun u hu => CS2.out u hu.1.kept)) ?_
    simp only [Act.put, List.setIfInBounds_toArray, List.set_cons_zero, List.set_cons_succ]
    refine AvT.take 7 (some 42) (v := ?_) rfl rfl (by kernel_rfl) (by kernel_rfl) (by kernel_rfl) (fun _ _ _ h => h) hST (Au.yq_run (by rfl) (fun u hu => ?_)) ?_
    rotate_left
    · (clear hu; go_simp; try with_reducible rfl)
    simp only [Act.put, List.setIfInBounds_toArray, List.set_cons_zero, List.set_cons_succ]
    refine AvT.take 8 (some 50) (v := ?_) rfl rfl (by kernel_rfl) (by kernel_rfl) (by kernel_rfl) (fun _ _ _ h => h) hST (Au.yq_run (by rfl) (fun u hu => ?_)) ?_
    rotate_left
    · (clear hu; go_simp; try with_reducible rfl)
    simp only [Act.put, List.setIfInBounds_toArray, List.set_cons_zero, List.set_cons_succ]
    refine AvT.take 9 (some 51) (v := ?_) rfl rfl (by kernel_rfl) (by kernel_rfl) (by kernel_rfl) (fun _ _ _ h => h) hST (Au.yq_run (by rfl) (fun u hu => ?_)) ?_
    rotate_left
    · (clear hu; go_simp; try with_reducible rfl)
    simp only [Act.put, List.setIfInBounds_toArray, List.set_cons_zero, List.set_cons_succ]
    refine AvT.fork 10 11 rfl rfl (by kernel_rfl) (fun v hv KK hK => ?_) (fun v hv KK hK => ?_)
    · rw [if_pos (by rfl)]
      go_simp
      have bA : w.heap.size + 3 ≤ v.heap.size := (hv.1).size
      have dA : ∀ j, (Value.slice q1 n1 c1).ownBlock = some j → j ≠ v.heap.size := fun j e => by have := (hv.2.2).lt e; omega
      have e0A : g0 ≠ v.heap.size := by have := blk_lt (hv.2.1); omega
      refine hK.out (fun u => Bl w u [(F, 24), (A, 31), (X, 33)] ∧ u.heap[g0]? = some (.cells E 39 (0, 0)) ∧ Mc u (.slice q1 n1 c1) K ∧ u.heap[v.heap.size]? = some (.cells zeroC 41 (0, 0))) _ _ ⟨(bl_stab _ _ (hv.1) (Kept.one _ _)), (blk_stab _ _ (hv.2.1) (Kept.one _ _)), (mcs _ _ (hv.2.2) (Kept.one _ _)), blk_new v _⟩ (stab_and bl_stab (stab_and blk_stab (stab_and mcs blk_stab))) (fun u h => ⟨h.1, h.2.1, h.2.2.1⟩) ?_
      obtain ⟨gA, hg⟩ : ∃ g, v.heap.size = g := ⟨_, rfl⟩
      rw [hg] at bA dA e0A  ⊢
      clear hK KK hv hg
      clear v hST
      have hST : Stab (fun u => Bl w u [(F, 24), (A, 31), (X, 33)] ∧ u.heap[g0]? = some (.cells E 39 (0, 0)) ∧ Mc u (.slice q1 n1 c1) K ∧ u.heap[gA]? = some (.cells zeroC 41 (0, 0))) ∧ ∀ u, (fun u => Bl w u [(F, 24), (A, 31), (X, 33)] ∧ u.heap[g0]? = some (.cells E 39 (0, 0)) ∧ Mc u (.slice q1 n1 c1) K ∧ u.heap[gA]? = some (.cells zeroC 41 (0, 0))) u → (fun u => Bl w u [(F, 24), (A, 31), (X, 33)] ∧ u.heap[g0]? = some (.cells E 39 (0, 0)) ∧ Mc u (.slice q1 n1 c1) K) u := ⟨(stab_and bl_stab (stab_and blk_stab (stab_and mcs blk_stab))), fun u h => ⟨h.1, h.2.1, h.2.2.1⟩⟩
      refine AvT.step 11 rfl (by kernel_rfl) (fun v hv KK hK => ?_)
      rw [if_pos (by rfl)]
      go_simp
      have bB : w.heap.size + 3 ≤ v.heap.size := (hv.1).size
      have dB : ∀ j, (Value.slice q1 n1 c1).ownBlock = some j → j ≠ v.heap.size := fun j e => by have := (hv.2.2.1).lt e; omega
      have e0B : g0 ≠ v.heap.size := by have := blk_lt (hv.2.1); omega
      have eAB : gA ≠ v.heap.size := by have := blk_lt (hv.2.2.2); omega
      refine hK.out (fun u => Bl w u [(F, 24), (A, 31), (X, 33)] ∧ u.heap[g0]? = some (.cells E 39 (0, 0)) ∧ Mc u (.slice q1 n1 c1) K ∧ u.heap[gA]? = some (.cells zeroC 41 (0, 0)) ∧ u.heap[v.heap.size]? = some (.cells zeroP 43 (0, 0))) _ _ ⟨(bl_stab _ _ (hv.1) (Kept.one _ _)), (blk_stab _ _ (hv.2.1) (Kept.one _ _)), (mcs _ _ (hv.2.2.1) (Kept.one _ _)), (blk_stab _ _ (hv.2.2.2) (Kept.one _ _)), blk_new v _⟩ (stab_and bl_stab (stab_and blk_stab (stab_and mcs (stab_and blk_stab blk_stab)))) (fun u h => ⟨h.1, h.2.1, h.2.2.1⟩) ?_
      obtain ⟨gB, hg⟩ : ∃ g, v.heap.size = g := ⟨_, rfl⟩
      rw [hg] at bB dB e0B eAB ⊢
      clear hK KK hv hg
      clear v hST
      have hST : Stab (fun u => Bl w u [(F, 24), (A, 31), (X, 33)] ∧ u.heap[g0]? = some (.cells E 39 (0, 0)) ∧ Mc u (.slice q1 n1 c1) K ∧ u.heap[gA]? = some (.cells zeroC 41 (0, 0)) ∧ u.heap[gB]? = some (.cells zeroP 43 (0, 0))) ∧ ∀ u, (fun u => Bl w u [(F, 24), (A, 31), (X, 33)] ∧ u.heap[g0]? = some (.cells E 39 (0, 0)) ∧ Mc u (.slice q1 n1 c1) K ∧ u.heap[gA]? = some (.cells zeroC 41 (0, 0)) ∧ u.heap[gB]? = some (.cells zeroP 43 (0, 0))) u → (fun u => Bl w u [(F, 24), (A, 31), (X, 33)] ∧ u.heap[g0]? = some (.cells E 39 (0, 0)) ∧ Mc u (.slice q1 n1 c1) K) u := ⟨(stab_and bl_stab (stab_and blk_stab (stab_and mcs (stab_and blk_stab blk_stab)))), fun u h => ⟨h.1, h.2.1, h.2.2.1⟩⟩
      refine AvT.step 12 rfl (by kernel_rfl) (fun v hv KK hK => ?_)
      rw [if_pos (by rfl)]
      refine wp_store_row 41 (.tmp 14) (.tmp 50) rfl gA Y rfl rfl 41 zeroC (hv.2.2.2.1) (by rw [sY]; exact info_cl) (by rw [sY]; rfl) oY ?_
      refine hK.out (fun u => Bl w u [(F, 24), (A, 31), (X, 33)] ∧ u.heap[g0]? = some (.cells E 39 (0, 0)) ∧ Mc u (.slice q1 n1 c1) K ∧ u.heap[gB]? = some (.cells zeroP 43 (0, 0)) ∧ u.heap[gA]? = some (.cells Y 41 (0, 0))) _ _ ⟨hv.1.far bA Y, far_rw hv.2.1 (by omega), hv.2.2.1.kept (fun j e => setRow_other _ _ _ _ (dA j e)), far_rw hv.2.2.2.2 (by omega), setRow_heap _ _ zeroC Y _ _ (hv.2.2.2.1)⟩ (stab_and bl_stab (stab_and blk_stab (stab_and mcs (stab_and blk_stab blk_stab)))) (fun u h => ⟨h.1, h.2.1, h.2.2.1⟩) ?_
      clear hK KK hv
      clear v hST
      have hST : Stab (fun u => Bl w u [(F, 24), (A, 31), (X, 33)] ∧ u.heap[g0]? = some (.cells E 39 (0, 0)) ∧ Mc u (.slice q1 n1 c1) K ∧ u.heap[gB]? = some (.cells zeroP 43 (0, 0)) ∧ u.heap[gA]? = some (.cells Y 41 (0, 0))) ∧ ∀ u, (fun u => Bl w u [(F, 24), (A, 31), (X, 33)] ∧ u.heap[g0]? = some (.cells E 39 (0, 0)) ∧ Mc u (.slice q1 n1 c1) K ∧ u.heap[gB]? = some (.cells zeroP 43 (0, 0)) ∧ u.heap[gA]? = some (.cells Y 41 (0, 0))) u → (fun u => Bl w u [(F, 24), (A, 31), (X, 33)] ∧ u.heap[g0]? = some (.cells E 39 (0, 0)) ∧ Mc u (.slice q1 n1 c1) K) u := ⟨(stab_and bl_stab (stab_and blk_stab (stab_and mcs (stab_and blk_stab blk_stab)))), fun u h => ⟨h.1, h.2.1, h.2.2.1⟩⟩
      refine AvT.step 13 rfl (by kernel_rfl) (fun v hv KK hK => ?_)
      rw [if_pos (by rfl)]
      refine wp_store_row 43 (.tmp 15) (.tmp 51) rfl gB R rfl rfl 43 zeroP (hv.2.2.2.1) (by rw [sR]; exact info_pk) (by rw [sR]; rfl) oR ?_
      refine hK.out (fun u => Bl w u [(F, 24), (A, 31), (X, 33)] ∧ u.heap[g0]? = some (.cells E 39 (0, 0)) ∧ Mc u (.slice q1 n1 c1) K ∧ u.heap[gA]? = some (.cells Y 41 (0, 0)) ∧ u.heap[gB]? = some (.cells R 43 (0, 0))) _ _ ⟨hv.1.far bB R, far_rw hv.2.1 (by omega), hv.2.2.1.kept (fun j e => setRow_other _ _ _ _ (dB j e)), far_rw hv.2.2.2.2 (by omega), setRow_heap _ _ zeroP R _ _ (hv.2.2.2.1)⟩ (stab_and bl_stab (stab_and blk_stab (stab_and mcs (stab_and blk_stab blk_stab)))) (fun u h => ⟨h.1, h.2.1, h.2.2.1⟩) ?_
      clear hK KK hv
      clear v hST
      have hST : Stab (fun u => Bl w u [(F, 24), (A, 31), (X, 33)] ∧ u.heap[g0]? = some (.cells E 39 (0, 0)) ∧ Mc u (.slice q1 n1 c1) K ∧ u.heap[gA]? = some (.cells Y 41 (0, 0)) ∧ u.heap[gB]? = some (.cells R 43 (0, 0))) ∧ ∀ u, (fun u => Bl w u [(F, 24), (A, 31), (X, 33)] ∧ u.heap[g0]? = some (.cells E 39 (0, 0)) ∧ Mc u (.slice q1 n1 c1) K ∧ u.heap[gA]? = some (.cells Y 41 (0, 0)) ∧ u.heap[gB]? = some (.cells R 43 (0, 0))) u → (fun u => Bl w u [(F, 24), (A, 31), (X, 33)] ∧ u.heap[g0]? = some (.cells E 39 (0, 0)) ∧ Mc u (.slice q1 n1 c1) K) u := ⟨(stab_and bl_stab (stab_and blk_stab (stab_and mcs (stab_and blk_stab blk_stab)))), fun u h => ⟨h.1, h.2.1, h.2.2.1⟩⟩
      refine AvT.done (by kernel_rfl) (fun V hV => ?_)
      clear hST
      go_wp2_with fail
      go_meet
      exact ⟨gA, gB, rfl, rfl, hV.1, hV.2.1, hV.2.2.1, hV.2.2.2.2⟩
    · rw [if_pos (by rfl)]
      go_simp
      have bB : w.heap.size + 3 ≤ v.heap.size := (hv.1).size
      have dB : ∀ j, (Value.slice q1 n1 c1).ownBlock = some j → j ≠ v.heap.size := fun j e => by have := (hv.2.2).lt e; omega
      have e0B : g0 ≠ v.heap.size := by have := blk_lt (hv.2.1); omega
      refine hK.out (fun u => Bl w u [(F, 24), (A, 31), (X, 33)] ∧ u.heap[g0]? = some (.cells E 39 (0, 0)) ∧ Mc u (.slice q1 n1 c1) K ∧ u.heap[v.heap.size]? = some (.cells zeroP 43 (0, 0))) _ _ ⟨(bl_stab _ _ (hv.1) (Kept.one _ _)), (blk_stab _ _ (hv.2.1) (Kept.one _ _)), (mcs _ _ (hv.2.2) (Kept.one _ _)), blk_new v _⟩ (stab_and bl_stab (stab_and blk_stab (stab_and mcs blk_stab))) (fun u h => ⟨h.1, h.2.1, h.2.2.1⟩) ?_
      obtain ⟨gB, hg⟩ : ∃ g, v.heap.size = g := ⟨_, rfl⟩
      rw [hg] at bB dB e0B  ⊢
      clear hK KK hv hg
      clear v hST
      have hST : Stab (fun u => Bl w u [(F, 24), (A, 31), (X, 33)] ∧ u.heap[g0]? = some (.cells E 39 (0, 0)) ∧ Mc u (.slice q1 n1 c1) K ∧ u.heap[gB]? = some (.cells zeroP 43 (0, 0))) ∧ ∀ u, (fun u => Bl w u [(F, 24), (A, 31), (X, 33)] ∧ u.heap[g0]? = some (.cells E 39 (0, 0)) ∧ Mc u (.slice q1 n1 c1) K ∧ u.heap[gB]? = some (.cells zeroP 43 (0, 0))) u → (fun u => Bl w u [(F, 24), (A, 31), (X, 33)] ∧ u.heap[g0]? = some (.cells E 39 (0, 0)) ∧ Mc u (.slice q1 n1 c1) K) u := ⟨(stab_and bl_stab (stab_and blk_stab (stab_and mcs blk_stab))), fun u h => ⟨h.1, h.2.1, h.2.2.1⟩⟩
      refine AvT.step 10 rfl (by kernel_rfl) (fun v hv KK hK => ?_)
      rw [if_pos (by rfl)]
      go_simp
      have bA : w.heap.size + 3 ≤ v.heap.size := (hv.1).size
      have dA : ∀ j, (Value.slice q1 n1 c1).ownBlock = some j → j ≠ v.heap.size := fun j e => by have := (hv.2.2.1).lt e; omega
      have e0A : g0 ≠ v.heap.size := by have := blk_lt (hv.2.1); omega
      have eBA : gB ≠ v.heap.size := by have := blk_lt (hv.2.2.2); omega
      refine hK.out (fun u => Bl w u [(F, 24), (A, 31), (X, 33)] ∧ u.heap[g0]? = some (.cells E 39 (0, 0)) ∧ Mc u (.slice q1 n1 c1) K ∧ u.heap[gB]? = some (.cells zeroP 43 (0, 0)) ∧ u.heap[v.heap.size]? = some (.cells zeroC 41 (0, 0))) _ _ ⟨(bl_stab _ _ (hv.1) (Kept.one _ _)), (blk_stab _ _ (hv.2.1) (Kept.one _ _)), (mcs _ _ (hv.2.2.1) (Kept.one _ _)), (blk_stab _ _ (hv.2.2.2) (Kept.one _ _)), blk_new v _⟩ (stab_and bl_stab (stab_and blk_stab (stab_and mcs (stab_and blk_stab blk_stab)))) (fun u h => ⟨h.1, h.2.1, h.2.2.1⟩) ?_
      obtain ⟨gA, hg⟩ : ∃ g, v.heap.size = g := ⟨_, rfl⟩
      rw [hg] at bA dA e0A eBA ⊢
      clear hK KK hv hg
      clear v hST
      have hST : Stab (fun u => Bl w u [(F, 24), (A, 31), (X, 33)] ∧ u.heap[g0]? = some (.cells E 39 (0, 0)) ∧ Mc u (.slice q1 n1 c1) K ∧ u.heap[gB]? = some (.cells zeroP 43 (0, 0)) ∧ u.heap[gA]? = some (.cells zeroC 41 (0, 0))) ∧ ∀ u, (fun u => Bl w u [(F, 24), (A, 31), (X, 33)] ∧ u.heap[g0]? = some (.cells E 39 (0, 0)) ∧ Mc u (.slice q1 n1 c1) K ∧ u.heap[gB]? = some (.cells zeroP 43 (0, 0)) ∧ u.heap[gA]? = some (.cells zeroC 41 (0, 0))) u → (fun u => Bl w u [(F, 24), (A, 31), (X, 33)] ∧ u.heap[g0]? = some (.cells E 39 (0, 0)) ∧ Mc u (.slice q1 n1 c1) K) u := ⟨(stab_and bl_stab (stab_and blk_stab (stab_and mcs (stab_and blk_stab blk_stab)))), fun u h => ⟨h.1, h.2.1, h.2.2.1⟩⟩
      refine AvT.step 12 rfl (by kernel_rfl) (fun v hv KK hK => ?_)
      rw [if_pos (by rfl)]
      refine wp_store_row 41 (.tmp 14) (.tmp 50) rfl gA Y rfl rfl 41 zeroC (hv.2.2.2.2) (by rw [sY]; exact info_cl) (by rw [sY]; rfl) oY ?_
      refine hK.out (fun u => Bl w u [(F, 24), (A, 31), (X, 33)] ∧ u.heap[g0]? = some (.cells E 39 (0, 0)) ∧ Mc u (.slice q1 n1 c1) K ∧ u.heap[gB]? = some (.cells zeroP 43 (0, 0)) ∧ u.heap[gA]? = some (.cells Y 41 (0, 0))) _ _ ⟨hv.1.far bA Y, far_rw hv.2.1 (by omega), hv.2.2.1.kept (fun j e => setRow_other _ _ _ _ (dA j e)), far_rw hv.2.2.2.1 (by omega), setRow_heap _ _ zeroC Y _ _ (hv.2.2.2.2)⟩ (stab_and bl_stab (stab_and blk_stab (stab_and mcs (stab_and blk_stab blk_stab)))) (fun u h => ⟨h.1, h.2.1, h.2.2.1⟩) ?_
      clear hK KK hv
      clear v hST
      have hST : Stab (fun u => Bl w u [(F, 24), (A, 31), (X, 33)] ∧ u.heap[g0]? = some (.cells E 39 (0, 0)) ∧ Mc u (.slice q1 n1 c1) K ∧ u.heap[gB]? = some (.cells zeroP 43 (0, 0)) ∧ u.heap[gA]? = some (.cells Y 41 (0, 0))) ∧ ∀ u, (fun u => Bl w u [(F, 24), (A, 31), (X, 33)] ∧ u.heap[g0]? = some (.cells E 39 (0, 0)) ∧ Mc u (.slice q1 n1 c1) K ∧ u.heap[gB]? = some (.cells zeroP 43 (0, 0)) ∧ u.heap[gA]? = some (.cells Y 41 (0, 0))) u → (fun u => Bl w u [(F, 24), (A, 31), (X, 33)] ∧ u.heap[g0]? = some (.cells E 39 (0, 0)) ∧ Mc u (.slice q1 n1 c1) K) u := ⟨(stab_and bl_stab (stab_and blk_stab (stab_and mcs (stab_and blk_stab blk_stab)))), fun u h => ⟨h.1, h.2.1, h.2.2.1⟩⟩
      refine AvT.step 13 rfl (by kernel_rfl) (fun v hv KK hK => ?_)
      rw [if_pos (by rfl)]
      refine wp_store_row 43 (.tmp 15) (.tmp 51) rfl gB R rfl rfl 43 zeroP (hv.2.2.2.1) (by rw [sR]; exact info_pk) (by rw [sR]; rfl) oR ?_
      refine hK.out (fun u => Bl w u [(F, 24), (A, 31), (X, 33)] ∧ u.heap[g0]? = some (.cells E 39 (0, 0)) ∧ Mc u (.slice q1 n1 c1) K ∧ u.heap[gA]? = some (.cells Y 41 (0, 0)) ∧ u.heap[gB]? = some (.cells R 43 (0, 0))) _ _ ⟨hv.1.far bB R, far_rw hv.2.1 (by omega), hv.2.2.1.kept (fun j e => setRow_other _ _ _ _ (dB j e)), far_rw hv.2.2.2.2 (by omega), setRow_heap _ _ zeroP R _ _ (hv.2.2.2.1)⟩ (stab_and bl_stab (stab_and blk_stab (stab_and mcs (stab_and blk_stab blk_stab)))) (fun u h => ⟨h.1, h.2.1, h.2.2.1⟩) ?_
      clear hK KK hv
      clear v hST
      have hST : Stab (fun u => Bl w u [(F, 24), (A, 31), (X, 33)] ∧ u.heap[g0]? = some (.cells E 39 (0, 0)) ∧ Mc u (.slice q1 n1 c1) K ∧ u.heap[gA]? = some (.cells Y 41 (0, 0)) ∧ u.heap[gB]? = some (.cells R 43 (0, 0))) ∧ ∀ u, (fun u => Bl w u [(F, 24), (A, 31), (X, 33)] ∧ u.heap[g0]? = some (.cells E 39 (0, 0)) ∧ Mc u (.slice q1 n1 c1) K ∧ u.heap[gA]? = some (.cells Y 41 (0, 0)) ∧ u.heap[gB]? = some (.cells R 43 (0, 0))) u → (fun u => Bl w u [(F, 24), (A, 31), (X, 33)] ∧ u.heap[g0]? = some (.cells E 39 (0, 0)) ∧ Mc u (.slice q1 n1 c1) K) u := ⟨(stab_and bl_stab (stab_and blk_stab (stab_and mcs (stab_and blk_stab blk_stab)))), fun u h => ⟨h.1, h.2.1, h.2.2.1⟩⟩
      refine AvT.done (by kernel_rfl) (fun V hV => ?_)
      clear hST
      go_wp2_with fail
      go_meet
      exact ⟨gA, gB, rfl, rfl, hV.1, hV.2.1, hV.2.2.1, hV.2.2.2.2⟩
  case rest =>
    obtain ⟨gA, gB, rfl, rfl, hb, hg0, hmc, hgB⟩ := hcut
    have HB := Lib.hid (And.intro hb (And.intro hg0 (And.intro hmc hgB)))
    have k0 : wc.cell? ⟨gB, 0, none⟩ = some (.int .i64 p.kind) := (blk_cell hgB 0).trans r0
    have hlK : K.length ≤ 30 := by rw [HN.out]; exact hl30
    have L2l := wait_len (wtP 3 me o) K
    have L3l := wait_len (wtP 4 me o) K
    have OK2 := Lib.hid (ok_wait (f := wtP 3 me o) (K := K) (fun y hy => ok_onw3 HM.out.1.1 (in_mem HM.out.1.2.2.2.2.2.2 hy).1 (in_mem HM.out.1.2.2.2.2.2.2 hy).2))
    have OK3 := Lib.hid (ok_wait (f := wtP 4 me o) (K := K) (fun y hy => ok_wt4 HM.out.1.1 (in_mem HM.out.1.2.2.2.2.2.2 hy).1 (in_mem HM.out.1.2.2.2.2.2.2 hy).2))
    have W1 := Lib.hid (fun (u : World) (h : Mc u (.slice q1 n1 c1) K) => (by have := cancels_any me o (mc_cls h (by omega)) (by omega); rw [HE.out] at this; exact this : Calls Tryz.prog 10 #[.int .i64 me, .agg E] u fun e w' => ∃ v, e = .returned v ∧ Mp w' v (waitL (wtP 3 me o) K) ∧ (∀ g, v.ownBlock = some g → u.heap.size ≤ g) ∧ Kept u w'))
    have W2 := Lib.hid (fun (u : World) (h : Mc u (.slice q1 n1 c1) K) => (by have := keeps_any me o (mc_cls h (by omega)) (by omega); rw [HE.out] at this; exact this : Calls Tryz.prog 11 #[.int .i64 me, .agg E] u fun e w' => ∃ v, e = .returned v ∧ Mp w' v (waitL (wtP 4 me o) K) ∧ (∀ g, v.ownBlock = some g → u.heap.size ≤ g) ∧ Kept u w'))
    obtain ⟨M2, hM2⟩ : ∃ M, waitL (wtP 3 me o) K = M := ⟨_, rfl⟩
    obtain ⟨M3, hM3⟩ : ∃ M, waitL (wtP 4 me o) K = M := ⟨_, rfl⟩
    rw [hM2] at OK2 W1 L2l
    rw [hM3] at OK3 W2 L3l
    clear hb hg0 hmc hgB HZ hM2 hM3 CS2 C1
    · rw [show p.kind = 0 from hk0] at k0
      go_upto_region 8 with fail
      clear k0 hk0
      have HA0 := Lib.hid (show Fr (fun j => wc.heap.size ≤ j) wc wc ∧ Mp wc (.slice none 0 0) ([] : List Pk) ∧ (∀ j, (Value.slice none 0 0).ownBlock = some j → wc.heap.size ≤ j) from ⟨Fr.refl _ _, rowv_nil _ _ _ _, fun j e => by cases e⟩)
      have OK1 := Lib.hid (show ∀ p ∈ ([] : List Pk), Ok p from fun p h => by cases h)
      have L1l : ([] : List Pk).length ≤ 1 := by decide
      obtain ⟨M1, hM1⟩ : ∃ M : List Pk, [] = M := ⟨_, rfl⟩
      rw [hM1] at HA0 OK1 L1l
      obtain ⟨wa, hwa⟩ : ∃ wa, wc = wa := ⟨_, rfl⟩
      have HA := Lib.hid (by have := HA0.out; rw [← hwa]; exact this : Fr (fun j => wc.heap.size ≤ j) wc wa ∧ Mp wa (.slice none 0 0) M1 ∧ (∀ j, (Value.slice none 0 0).ownBlock = some j → wc.heap.size ≤ j))
      clear hM1 HA0
      obtain ⟨v16, hv16⟩ : ∃ v, Value.slice none 0 0 = v := ⟨_, rfl⟩
      rw [hv16] at HA
      subst hwa
      simp only [hv16]
      clear hv16
      go_upto_region 9 with (first
        | (refine load_w 39 (.tmp 13) rfl g0 rfl rfl E 19 (fr_blk HA.out.1 HB.out.2.1) Tryz.underlying39 sE info_ow ?_)
        | (go_at_call 10; refine (W1.out _ (fr_mc HA.out.1 HB.out.2.2.1)).mono ?_; rintro e wb ⟨v2, rfl, s2, -, k2⟩; have r1 := HA.out.2.1.keep k2)
        | (at_builtin; refine wpList_append_rowsv enc_pk wb rfl (.tmp 59) (.tmp 62) rfl v16 v2 M1 M2 rfl rfl r1 s2 (by omega) ?_; intro v17 wd r5 g5 b5))
      have HD := Lib.hid (show Fr (fun j => wc.heap.size ≤ j) wc wd ∧ Mp wd v17 (M1 ++ M2) ∧ (∀ j, v17.ownBlock = some j → wc.heap.size ≤ j) from by
        have h := acc_go HA.out.1 HA.out.2.2 k2 g5 b5
        exact ⟨h.1, r5, h.2⟩)
      clear r1 s2 k2 r5 g5 b5
      go_upto_region 10 with (first
        | (refine load_w 39 (.tmp 13) rfl g0 rfl rfl E 19 (fr_blk HD.out.1 HB.out.2.1) Tryz.underlying39 sE info_ow ?_)
        | (go_at_call 11; refine (W2.out _ (fr_mc HD.out.1 HB.out.2.2.1)).mono ?_; rintro e we ⟨v3, rfl, s3, -, k3⟩; have r1 := HD.out.2.1.keep k3)
        | (at_builtin; refine wpList_append_rowsv enc_pk we rfl (.tmp 64) (.tmp 67) rfl v17 v3 (M1 ++ M2) M3 rfl rfl r1 s3 (by rw [List.length_append]; omega) ?_; intro v18 wf r6 g6 b6))
      have HF := Lib.hid (show Fr (fun j => wc.heap.size ≤ j) wc wf ∧ Mp wf v18 (M1 ++ M2 ++ M3) ∧ (∀ j, v18.ownBlock = some j → wc.heap.size ≤ j) from by
        have h := acc_go HD.out.1 HD.out.2.2 k3 g6 b6
        exact ⟨h.1, r6, h.2⟩)
      clear r1 s3 k3 r6 g6 b6 HA HD
      have OK4 := Lib.hid (ok_app (ok_app OK1.out OK2.out) OK3.out)
      have L4l : (M1 ++ M2 ++ M3).length ≤ 100 := by rw [List.length_append, List.length_append]; omega
      obtain ⟨M4, hM4⟩ : ∃ M, M1 ++ M2 ++ M3 = M := ⟨_, rfl⟩
      rw [hM4] at HF OK4 L4l
      clear hM4 OK1 OK2 OK3 W1 W2 L1l L2l L3l
      have hbf := fr_bl HF.out.1 HB.out.1
      have y3 : wf.cell? ⟨w.heap.size + 1, 3, none⟩ = some (.int .i64 o.ka) := (hbf.cell 1 3 rfl).trans c3
      have HBF := Lib.hid hbf
      clear hbf
      · go_upto_region 11 with fail
        clear y3
        have R1 := Lib.hid (show ∀ u, Calls Tryz.prog 12 #[.int .i64 me, .agg E, .int .i64 x.att, .int .i64 vv] u fun e w' => e = .returned (.agg #[.int .i64 2, .int .i64 me, .int .i64 o.fr, .int .i64 o.kn, .int .i64 o.ki, .int .i64 o.ks, .int .i64 o.ka, .int .i64 0, .int .i64 0, .string ⟨#[]⟩, .int .i64 0, .int .i64 0, .int .i64 0, .int .i64 0, .int .i64 0, .int .i64 0, .int .i64 0, .int .i64 0, .int .i64 0, .int .i64 x.att, .int .i64 vv, .bool false, .int .i64 0]) ∧ Kept u w' from fun u => by rw [← HE.out]; exact reply_any me o x.att vv q1 n1 c1 u)
        have R2 := Lib.hid (show ∀ u, Calls Tryz.prog 13 #[.int .i64 me, .agg E] u fun e w' => e = .returned (.agg #[.int .i64 2, .int .i64 me, .int .i64 o.fr, .int .i64 o.kn, .int .i64 o.ki, .int .i64 o.ks, .int .i64 o.ka, .int .i64 0, .int .i64 0, .string ⟨#[]⟩, .int .i64 0, .int .i64 0, .int .i64 0, .int .i64 0, .int .i64 0, .int .i64 0, .int .i64 0, .int .i64 0, .int .i64 0, .int .i64 0, .int .i64 0, .bool true, .int .i64 0]) ∧ Kept u w' from fun u => by rw [← HE.out]; exact more_any me o q1 n1 c1 u)
        have R3 := Lib.hid (show ∀ u, Calls Tryz.prog 14 #[.int .i64 me, .agg E, .int .i64 (x.att - 1)] u fun e w' => e = .returned (.agg #[.int .i64 5, .int .i64 me, .int .i64 o.fr, .int .i64 o.kn, .int .i64 o.ki, .int .i64 o.ks, .int .i64 o.ka, .int .i64 0, .int .i64 0, .string ⟨#[]⟩, .int .i64 0, .int .i64 0, .int .i64 0, .int .i64 0, .int .i64 0, .int .i64 0, .int .i64 0, .int .i64 0, .int .i64 0, .int .i64 0, .int .i64 0, .bool false, .int .i64 (x.att - 1)]) ∧ Kept u w' from fun u => by rw [← HE.out]; exact refuse_any me o (x.att - 1) q1 n1 c1 u)
        have hws : wrap64 (x.att - 1) = x.att - 1 := IntWalk.wrap64_in _ (by have := HM.out.2.2.2.1; omega)
        have OK5 := Lib.hid (ok_app OK4.out (M := [rpl me o x.att vv, mre me o, rfs me o (x.att - 1)]) (fun r h => by
          have hm := HM.out
          rcases List.mem_cons.1 h with rfl | h
          · exact ok_rpl hm.1.1 hm.1.2.2.2.1 hm.1.2.1 (by omega) (by have := hm.2.2.2.1; omega) (by omega)
          rcases List.mem_cons.1 h with rfl | h
          · exact ok_mre hm.1.1 hm.1.2.2.2.1 hm.1.2.1 (by omega)
          rcases List.mem_cons.1 h with rfl | h
          · exact ok_rfs hm.1.1 hm.1.2.2.2.1 hm.1.2.1 (by omega) (by have := hm.2.2.2.1; omega)
          cases h))
        have L5l : (M4 ++ [rpl me o x.att vv, mre me o, rfs me o (x.att - 1)]).length ≤ 103 := by rw [List.length_append]; simp only [List.length_cons, List.length_nil]; omega
        obtain ⟨M5, hM5⟩ : ∃ M, M4 ++ [rpl me o x.att vv, mre me o, rfs me o (x.att - 1)] = M := ⟨_, rfl⟩
        rw [hM5] at OK5 L5l
        have hST : Stab (fun u => Fr (fun j => wc.heap.size ≤ j) wc u ∧ Mp u v18 M4) ∧ ∀ u, (fun u => Fr (fun j => wc.heap.size ≤ j) wc u ∧ Mp u v18 M4) u → (fun u => Fr (fun j => wc.heap.size ≤ j) wc u) u := ⟨(stab_and fr_stab mps), fun u h => h.1⟩
        refine AvT.region (fun u => Fr (fun j => wc.heap.size ≤ j) wc u) (fun u => Fr (fun j => wc.heap.size ≤ j) wc u ∧ Mp u v18 M4) (by kernel_rfl) (hST.1 _ _ ⟨HF.out.1, HF.out.2.1⟩ (Kept.refl _).drew) ?_
        refine AvT.take 0 (some 73) (v := ?_) rfl rfl (by kernel_rfl) (by kernel_rfl) (by kernel_rfl) (fun _ _ _ h => h) hST (Au.yq_run (by rfl) (fun u hu => ?_)) ?_
        rotate_left
        · (clear hu; go_simp; try with_reducible rfl)
        simp only [Act.put, List.setIfInBounds_toArray, List.set_cons_zero, List.set_cons_succ]
        refine AvT.take 1 (some 74) (v := ?_) rfl rfl (by kernel_rfl) (by kernel_rfl) (by kernel_rfl) (fun _ _ _ h => h) hST (Au.yq_run (by rfl) (fun u hu => ?_)) ?_
        rotate_left
        · (clear hu; go_simp; try with_reducible rfl)
        simp only [Act.put, List.setIfInBounds_toArray, List.set_cons_zero, List.set_cons_succ]
        refine AvT.take 2 (some 75) rfl rfl (by kernel_rfl) (by kernel_rfl) (by kernel_rfl) (fun _ _ _ h => h) hST (Au.yq_load 39 (.tmp 13) rfl _ rfl (by rfl) (fun u hu => load_ow (fr_blk hu HB.out.2.1) sE)) ?_
        simp only [Act.put, List.setIfInBounds_toArray, List.set_cons_zero, List.set_cons_succ]
        refine AvT.take 3 (some 76) (v := ?_) rfl rfl (by kernel_rfl) (by kernel_rfl) (by kernel_rfl) (fun _ _ _ h => h) hST (Au.yq_run (by rfl) (fun u hu => ?_)) ?_
        rotate_left
        · (clear hu; go_simp; try with_reducible rfl)
        simp only [Act.put, List.setIfInBounds_toArray, List.set_cons_zero, List.set_cons_succ]
        refine AvT.take 4 (some 77) rfl rfl (by kernel_rfl) (by kernel_rfl) (by kernel_rfl) (fun _ _ _ h => h) hST (Au.yq_load 3 (.tmp 76) rfl _ rfl (by rfl) (fun u hu => run_loadi (((fr_bl hu HB.out.1).cell 2 5 rfl).trans x5))) ?_
        simp only [Act.put, List.setIfInBounds_toArray, List.set_cons_zero, List.set_cons_succ]
        refine AvT.take 5 (some 78) (v := ?_) rfl rfl (by kernel_rfl) (by kernel_rfl) (by kernel_rfl) (fun _ _ _ h => h) hST (Au.yq_run (by rfl) (fun u hu => ?_)) ?_
        rotate_left
        · (clear hu; go_simp; try with_reducible rfl)
        simp only [Act.put, List.setIfInBounds_toArray, List.set_cons_zero, List.set_cons_succ]
        refine AvT.take 6 (some 79) rfl rfl (by kernel_rfl) (by kernel_rfl) (by kernel_rfl) (fun _ _ _ h => h) hST (Au.yq_call 12 _ (by rfl) (fun u => by go_simp) (fun u hu => R1.out u)) ?_
        simp only [Act.put, List.setIfInBounds_toArray, List.set_cons_zero, List.set_cons_succ]
        refine AvT.take 7 (some 80) (v := ?_) rfl rfl (by kernel_rfl) (by kernel_rfl) (by kernel_rfl) (fun _ _ _ h => h) hST (Au.yq_run (by rfl) (fun u hu => ?_)) ?_
        rotate_left
        · (clear hu; go_simp; try with_reducible rfl)
        simp only [Act.put, List.setIfInBounds_toArray, List.set_cons_zero, List.set_cons_succ]
        refine AvT.take 8 (some 81) rfl rfl (by kernel_rfl) (by kernel_rfl) (by kernel_rfl) (fun _ _ _ h => h) hST (Au.yq_load 39 (.tmp 13) rfl _ rfl (by rfl) (fun u hu => load_ow (fr_blk hu HB.out.2.1) sE)) ?_
        simp only [Act.put, List.setIfInBounds_toArray, List.set_cons_zero, List.set_cons_succ]
        refine AvT.take 9 (some 82) rfl rfl (by kernel_rfl) (by kernel_rfl) (by kernel_rfl) (fun _ _ _ h => h) hST (Au.yq_call 13 _ (by rfl) (fun u => by go_simp) (fun u hu => R2.out u)) ?_
        simp only [Act.put, List.setIfInBounds_toArray, List.set_cons_zero, List.set_cons_succ]
        refine AvT.take 10 (some 83) (v := ?_) rfl rfl (by kernel_rfl) (by kernel_rfl) (by kernel_rfl) (fun _ _ _ h => h) hST (Au.yq_run (by rfl) (fun u hu => ?_)) ?_
        rotate_left
        · (clear hu; go_simp; try with_reducible rfl)
        simp only [Act.put, List.setIfInBounds_toArray, List.set_cons_zero, List.set_cons_succ]
        refine AvT.take 11 (some 84) rfl rfl (by kernel_rfl) (by kernel_rfl) (by kernel_rfl) (fun _ _ _ h => h) hST (Au.yq_load 39 (.tmp 13) rfl _ rfl (by rfl) (fun u hu => load_ow (fr_blk hu HB.out.2.1) sE)) ?_
        simp only [Act.put, List.setIfInBounds_toArray, List.set_cons_zero, List.set_cons_succ]
        refine AvT.take 12 (some 85) (v := ?_) rfl rfl (by kernel_rfl) (by kernel_rfl) (by kernel_rfl) (fun _ _ _ h => h) hST (Au.yq_run (by rfl) (fun u hu => ?_)) ?_
        rotate_left
        · (clear hu; go_simp; try with_reducible rfl)
        simp only [Act.put, List.setIfInBounds_toArray, List.set_cons_zero, List.set_cons_succ]
        refine AvT.take 13 (some 86) rfl rfl (by kernel_rfl) (by kernel_rfl) (by kernel_rfl) (fun _ _ _ h => h) hST (Au.yq_load 3 (.tmp 85) rfl _ rfl (by rfl) (fun u hu => run_loadi (((fr_bl hu HB.out.1).cell 2 5 rfl).trans x5))) ?_
        simp only [Act.put, List.setIfInBounds_toArray, List.set_cons_zero, List.set_cons_succ]
        refine AvT.take 14 (some 87) (v := .int .i64 (x.att - 1)) rfl rfl (by kernel_rfl) (by kernel_rfl) (by kernel_rfl) (fun _ _ _ h => h) hST (Au.yq_run (by rfl) (fun u hu => ?_)) ?_
        · (clear hu; go_simp; (try simp only [IntWalk.i64_left]); (try exact hws))
        simp only [Act.put, List.setIfInBounds_toArray, List.set_cons_zero, List.set_cons_succ]
        refine AvT.take 15 (some 88) rfl rfl (by kernel_rfl) (by kernel_rfl) (by kernel_rfl) (fun _ _ _ h => h) hST (Au.yq_call 14 _ (by rfl) (fun u => by go_simp) (fun u hu => R3.out u)) ?_
        simp only [Act.put, List.setIfInBounds_toArray, List.set_cons_zero, List.set_cons_succ]
        refine AvT.step 16 rfl (by kernel_rfl) (fun v hv KK hK => ?_)
        rw [if_pos (by rfl)]
        go_simp
        obtain ⟨Z, hZ⟩ : ∃ Z, (fl encP [rpl me o x.att vv, mre me o, rfs me o (x.att - 1)]).toArray = Z := ⟨_, rfl⟩
        rw [show (#[.int .i64 2, .int .i64 me, .int .i64 o.fr, .int .i64 o.kn, .int .i64 o.ki, .int .i64 o.ks, .int .i64 o.ka, .int .i64 0, .int .i64 0, .string ⟨#[]⟩, .int .i64 0, .int .i64 0, .int .i64 0, .int .i64 0, .int .i64 0, .int .i64 0, .int .i64 0, .int .i64 0, .int .i64 0, .int .i64 x.att, .int .i64 vv, .bool false, .int .i64 0, .int .i64 2, .int .i64 me, .int .i64 o.fr, .int .i64 o.kn, .int .i64 o.ki, .int .i64 o.ks, .int .i64 o.ka, .int .i64 0, .int .i64 0, .string ⟨#[]⟩, .int .i64 0, .int .i64 0, .int .i64 0, .int .i64 0, .int .i64 0, .int .i64 0, .int .i64 0, .int .i64 0, .int .i64 0, .int .i64 0, .int .i64 0, .bool true, .int .i64 0, .int .i64 5, .int .i64 me, .int .i64 o.fr, .int .i64 o.kn, .int .i64 o.ki, .int .i64 o.ks, .int .i64 o.ka, .int .i64 0, .int .i64 0, .string ⟨#[]⟩, .int .i64 0, .int .i64 0, .int .i64 0, .int .i64 0, .int .i64 0, .int .i64 0, .int .i64 0, .int .i64 0, .int .i64 0, .int .i64 0, .int .i64 0, .bool false, .int .i64 (x.att - 1)] : Array Value) = Z from hZ]
        refine hK.out (fun u => (Fr (fun j => wc.heap.size ≤ j) wc u ∧ Mp u v18 M4) ∧ u.heap[v.heap.size]? = some (.cells Z 43 (0, 0))) _ _ ⟨hST.1 _ _ hv (Kept.one _ _), blk_new v _⟩ (stab_and hST.1 (fun u u' h k => kept_at k h)) (fun u hu => hu.1.1) ?_
        clear hK KK
        refine AvT.step_list 17 rfl (by kernel_rfl) (fun w2 hw2 K2 hK2 => ?_)
        refine wpList_append_rowv enc_pk w2 rfl _ _ rfl v18 (.slice (some ⟨v.heap.size, 0, none⟩) 3 3) M4 [rpl me o x.att vv, mre me o, rfs me o (x.att - 1)] rfl rfl hw2.1.2 (src_of rfl hZ hw2.2) (by simp only [List.length_cons, List.length_nil]; omega) ?_
        intro v19 w4 r4 g4 b4
        rw [hM5] at r4
        have h4 := acc_go hw2.1.1 HF.out.2.2 (Kept.refl _) g4 b4
        refine wpList_nil (hK2.out (fun u => Fr (fun j => wc.heap.size ≤ j) wc u ∧ Mp u v19 M5) _ _ ⟨h4.1, r4⟩ (stab_and fr_stab mps) (fun u h => h.1) ?_)
        clear hK2 K2 hw2 h4 r4 g4 b4 hST hZ hv
        have hST : Stab (fun u => Fr (fun j => wc.heap.size ≤ j) wc u ∧ Mp u v19 M5) ∧ ∀ u, (fun u => Fr (fun j => wc.heap.size ≤ j) wc u ∧ Mp u v19 M5) u → (fun u => Fr (fun j => wc.heap.size ≤ j) wc u) u := ⟨(stab_and fr_stab mps), fun u h => h.1⟩
        simp only [Act.put, List.setIfInBounds_toArray, List.set_cons_zero, List.set_cons_succ]
        refine AvT.take 18 (some 16) (v := ?_) rfl rfl (by kernel_rfl) (by kernel_rfl) (by kernel_rfl) (fun _ _ _ h => h) hST (Au.yq_run (by rfl) (fun u hu => ?_)) ?_
        rotate_left
        · (clear hu; go_simp; try with_reducible rfl)
        simp only [Act.put, List.setIfInBounds_toArray, List.set_cons_zero, List.set_cons_succ]
        refine AvT.done (by kernel_rfl) (fun wg hV => ?_)
        have HG := Lib.hid (And.intro (fr_bl hV.1 HB.out.1) hV.2)
        clear hV hST
        have CBK := Lib.hid (show Calls Tryz.prog 15 #[v19] wg fun e w' => e = .returned (.bool true) ∧ Kept wg w' from mback_any (mp_ls HG.out.2 (by omega)) (by omega) OK5.out (HT.out.2.kept HG.out.1.kept))
        go_wp2_with (first
          | (go_at_call 15; refine CBK.out.mono ?_; rintro e wh ⟨rfl, kg⟩)
          | (go_at_call 6; refine (HAW.out _ (HG.out.1.kept.trans kg)).mono ?_; rintro e wi ⟨rfl, kh⟩))
        go_ret
        exact ⟨rfl, HG.out.1.kept.trans (kg.trans kh)⟩

set_option maxRecDepth 100000 in
set_option maxHeartbeats 4000000 in
theorem may_goB {w : World} {q : Option Addr} {N c : Nat} {K : List Cl} (cf : Cf) (me : Int) (o : Ow) (x : Cl) (now vv : Int) (hv : Cls w (.slice q N c) K) (ht : Tm.Tab w) (hc : Cr.Tab w) (ha : Wd x.att) (hgo : mayB me o K = true ∧ oneB x = true ∧ ¬ 16 < cf.hops ∧ ¬ vv < 0 ∧ ¬ 2147483647 < vv) (hk0 : (snd cf me o x now).2.kind = 0) (hka : ¬ 0 < o.ka) :
    Calls Tryz.prog 3 #[.agg cf.arr, .int .i64 me, .agg (o.arr q N c), .agg x.arr, .int .i64 now, .int .i64 vv] w fun e w' => e = .returned (.bool true) ∧ Kept w w' := by
  have hN : K.length = N := by obtain ⟨p, cap, e⟩ := hv.shape; cases e; rfl
  obtain ⟨F, hF⟩ : ∃ F, cf.arr = F := ⟨_, rfl⟩
  obtain ⟨A, hA⟩ : ∃ A, o.arr q N c = A := ⟨_, rfl⟩
  obtain ⟨X, hX⟩ : ∃ X, x.arr = X := ⟨_, rfl⟩
  have sF : F.size = 14 := by rw [← hF]; rfl
  have sA : A.size = 19 := by rw [← hA]; rfl
  have sX : X.size = 13 := by rw [← hX]; rfl
  have f5 : F[5]? = some (.int .i64 cf.hops) := by rw [← hF]; rfl
  have c3 : A[3]? = some (.int .i64 o.ka) := by rw [← hA]; rfl
  have x5 : X[5]? = some (.int .i64 x.att) := by rw [← hX]; rfl
  obtain ⟨W, hW⟩ : ∃ W, ((w.alloc (.cells F 24)).alloc (.cells A 31)).alloc (.cells X 33) = W := ⟨_, rfl⟩
  have hb : Bl w W [(F, 24), (A, 31), (X, 33)] := hW ▸ Bl.three w F A X _ _ _
  have HW := Lib.hid hW
  have HS0 := Lib.hid hb
  have HAW := Lib.hid (show ∀ u, Kept w u → Calls Tryz.prog 6 #[] u fun e w' => e = .returned (.bool true) ∧ Kept u w' from fun u hu => awake_any u (ht.kept hu))
  obtain ⟨b1, hb1⟩ : ∃ b, mayB me o K = b := ⟨_, rfl⟩
  obtain ⟨b2, hb2⟩ : ∃ b, oneB x = b := ⟨_, rfl⟩
  have CB1 := Lib.hid (show ∀ u, Kept w u → Calls Tryz.prog 4 #[.int .i64 me, .agg A] u fun e w' => e = .returned (.bool b1) ∧ Kept u w' from fun u hu => by rw [← hA, ← hb1]; exact may_any me o (hv.go hu))
  have CB2 := Lib.hid (show ∀ u, Calls Tryz.prog 5 #[.agg X] u fun e w' => e = .returned (.bool b2) ∧ Kept u w' from fun u => by rw [← hX, ← hb2]; exact mone_any x u)
  obtain rfl : true = b1 := hgo.1.symm.trans hb1
  obtain rfl : true = b2 := hgo.2.1.symm.trans hb2
  obtain ⟨-, -, e3, e4, e5⟩ := hgo
  have d3 : decide (16 < cf.hops) = false := decide_eq_false e3
  have d4 : decide (vv < 0) = false := decide_eq_false e4
  have hm := may_iff.1 hb1
  have hx1 := one_iff.1 hb2
  have HM := Lib.hid (And.intro hm (And.intro hb2 hx1))
  have hl30 : N ≤ 30 := by rw [← hN]; exact hm.2.2.2.2.2.1
  obtain ⟨y, p, hy⟩ : ∃ y p, snd cf me o x now = (y, p) := ⟨_, _, rfl⟩
  rw [hy] at hk0
  obtain ⟨Y, hY⟩ : ∃ Y, y.arr = Y := ⟨_, rfl⟩
  obtain ⟨R, hR⟩ : ∃ R, p.arr = R := ⟨_, rfl⟩
  have sY : Y.size = 13 := by rw [← hY]; rfl
  have oY : Y.all (·.oneCell') = true := by rw [← hY]; exact cl_one y
  have sR : R.size = 23 := by rw [← hR]; rfl
  have oR : R.all (·.oneCell') = true := by rw [← hR]; exact pk_one p
  have r0 : R[0]? = some (.int .i64 p.kind) := by rw [← hR]; rfl
  have hfR := fold_pk p hR
  have HR := Lib.hid hR
  have HN := Lib.hid hN
  have HT := Lib.hid (And.intro ht hc)
  have C1 := Lib.hid (show ∀ u, Calls Tryz.prog 9 #[.agg X] u fun e w' => e = .returned (.agg X) ∧ Kept u w' from fun u => by rw [← hX]; exact Ow.one_any x u)
  have CM := Lib.hid (show ∀ u, Kept w u → Calls Tryz.prog 7 #[.agg A] u fun e w' => ∃ q' n' c', e = .returned (.agg (o.arr q' n' c')) ∧ Mc w' (.slice q' n' c') K ∧ (∀ g, (Value.slice q' n' c').ownBlock = some g → u.heap.size ≤ g) ∧ Kept u w' from fun u hu => by rw [← hA]; exact Ow.mine_any o (hv.go hu) (by omega))
  have CS := Lib.hid (show ∀ u q' n' c', Kept w u → Calls Tryz.prog 8 #[.agg F, .int .i64 me, .agg (o.arr q' n' c'), .agg X, .int .i64 now] u fun e w' => e = .returned (.tuple #[.agg Y, .agg R]) ∧ Kept u w' from fun u q' n' c' hu => by
    have := send_any cf me o x now q' n' c' u (ht.kept hu) ha
    rw [hy, hF, hX] at this; rw [← hY, ← hR]; exact this)
  have e5b : decide (2147483647 < vv) = false := decide_eq_false e5
  rw [hF, hA, hX]
  clear hv ht hc hb hW hN hF hA hX hb1 hb2 hm hx1 hy hY hR
  go_enter Tryz.func3, Tryz.ntmps3
  go_upto_region 1 with fail
  rw [HW.out]
  go_upto_region 4 with (first
    | (refine load_w 31 (.tmp 8) rfl (w.heap.size + 1) rfl rfl A 19 (HS0.out.blk 1 rfl) Tryz.underlying31 sA info_row ?_)
    | (go_at_call 4; refine (CB1.out _ HS0.out.kept).mono ?_; rintro e w1 ⟨rfl, k1⟩; have HS1 := Lib.hid (HS0.out.go k1))
    | (refine load_w 33 (.tmp 9) rfl (w.heap.size + 1 + 1) rfl rfl X 13 (HS1.out.blk 2 rfl) Tryz.underlying33 sX info_rcl ?_)
    | (go_at_call 5; refine (CB2.out _).mono ?_; rintro e w2 ⟨rfl, k2⟩; have HS2 := Lib.hid (HS1.out.go k2); have y5 : w2.cell? ⟨w.heap.size, 5, none⟩ = some (.int .i64 cf.hops) := (HS2.out.cell 0 5 rfl).trans f5)
    | (refine load_w 31 (.tmp 8) rfl (w.heap.size + 1) rfl rfl A 19 (HS2.out.blk 1 rfl) Tryz.underlying31 sA info_row ?_)
    | (go_at_call 7; refine (CM.out _ HS2.out.kept).mono ?_; rintro e u1 ⟨q1, n1, c1, rfl, s1, -, k3⟩)
    | (refine store_new rfl 39 (.tmp 13) (.tmp 41) rfl u1.heap.size (o.arr q1 n1 c1) rfl rfl u1 _ rfl 19 info_ow rfl rfl (arr_one _ _ _ _) ?_))
  obtain ⟨V, hV⟩ : ∃ V, u1.alloc (.cells (o.arr q1 n1 c1) 39) = V := ⟨_, rfl⟩
  rw [hV]
  have kV : Kept u1 V := by rw [← hV]; exact Kept.one _ _
  have bV : V.heap[u1.heap.size]? = some (.cells (o.arr q1 n1 c1) 39 (0, 0)) := by rw [← hV]; exact blk_new u1 _
  obtain ⟨g0, hg⟩ : ∃ g, u1.heap.size = g := ⟨_, rfl⟩
  rw [hg] at bV ⊢
  obtain ⟨E, hE⟩ : ∃ E, o.arr q1 n1 c1 = E := ⟨_, rfl⟩
  have HZ := Lib.hid (And.intro ((HS2.out.go k3).go kV) (And.intro (show V.heap[g0]? = some (.cells E 39 (0, 0)) by rw [← hE]; exact bV) (s1.keep kV)))
  have HE := Lib.hid hE
  have sE : E.size = 19 := by rw [← hE]; rfl
  have CS2 := Lib.hid (show ∀ u, Kept w u → Calls Tryz.prog 8 #[.agg F, .int .i64 me, .agg E, .agg X, .int .i64 now] u fun e w' => e = .returned (.tuple #[.agg Y, .agg R]) ∧ Kept u w' from fun u hu => by rw [← hE]; exact CS.out u q1 n1 c1 hu)
  simp only [hE]
  clear hV kV bV hg s1 k3 HS2 HS1 k1 k2 y5 d3 d4 e5b CS CM CB1 CB2 hE
  simp only [Act.put]
  go_cut [14, 15] (fun p1 p2 wx => ∃ gA gB : Nat, p1 = .pointer (some ⟨gA, 0, none⟩) ∧ p2 = .pointer (some ⟨gB, 0, none⟩) ∧ Bl w wx [(F, 24), (A, 31), (X, 33)] ∧ wx.heap[g0]? = some (.cells E 39 (0, 0)) ∧ Mc wx (.slice q1 n1 c1) K ∧ wx.heap[gB]? = some (.cells R 43 (0, 0)))
  case first =>
    have hST : Stab (fun u => Bl w u [(F, 24), (A, 31), (X, 33)] ∧ u.heap[g0]? = some (.cells E 39 (0, 0)) ∧ Mc u (.slice q1 n1 c1) K) ∧ ∀ u, (fun u => Bl w u [(F, 24), (A, 31), (X, 33)] ∧ u.heap[g0]? = some (.cells E 39 (0, 0)) ∧ Mc u (.slice q1 n1 c1) K) u → (fun u => Bl w u [(F, 24), (A, 31), (X, 33)] ∧ u.heap[g0]? = some (.cells E 39 (0, 0)) ∧ Mc u (.slice q1 n1 c1) K) u := ⟨(stab_and bl_stab (stab_and blk_stab mcs)), fun u h => ⟨h.1, h.2.1, h.2.2⟩⟩
    refine AvT.region (fun u => Bl w u [(F, 24), (A, 31), (X, 33)] ∧ u.heap[g0]? = some (.cells E 39 (0, 0)) ∧ Mc u (.slice q1 n1 c1) K) (fun u => Bl w u [(F, 24), (A, 31), (X, 33)] ∧ u.heap[g0]? = some (.cells E 39 (0, 0)) ∧ Mc u (.slice q1 n1 c1) K) (by kernel_rfl) (hST.1 _ _ HZ.out (Kept.refl _).drew) ?_
    refine AvT.take 0 (some 43) rfl rfl (by kernel_rfl) (by kernel_rfl) (by kernel_rfl) (fun _ _ _ h => h) hST (Au.yq_load 24 (.tmp 6) rfl _ rfl (by rfl) (fun u hu => load_cf (hu.1.blk 0 rfl) sF)) ?_
    simp only [Act.put, List.setIfInBounds_toArray, List.set_cons_zero, List.set_cons_succ]
    refine AvT.take 1 (some 44) (v := ?_) rfl rfl (by kernel_rfl) (by kernel_rfl) (by kernel_rfl) (fun _ _ _ h => h) hST (Au.yq_run (by rfl) (fun u hu => ?_)) ?_
    rotate_left
    · (clear hu; go_simp; try with_reducible rfl)
    simp only [Act.put, List.setIfInBounds_toArray, List.set_cons_zero, List.set_cons_succ]
    refine AvT.take 2 (some 45) rfl rfl (by kernel_rfl) (by kernel_rfl) (by kernel_rfl) (fun _ _ _ h => h) hST (Au.yq_load 39 (.tmp 13) rfl _ rfl (by rfl) (fun u hu => load_ow hu.2.1 sE)) ?_
    simp only [Act.put, List.setIfInBounds_toArray, List.set_cons_zero, List.set_cons_succ]
    refine AvT.take 3 (some 46) rfl rfl (by kernel_rfl) (by kernel_rfl) (by kernel_rfl) (fun _ _ _ h => h) hST (Au.yq_load 33 (.tmp 9) rfl _ rfl (by rfl) (fun u hu => load_rcl (hu.1.blk 2 rfl) sX)) ?_
    simp only [Act.put, List.setIfInBounds_toArray, List.set_cons_zero, List.set_cons_succ]
    refine AvT.take 4 (some 47) rfl rfl (by kernel_rfl) (by kernel_rfl) (by kernel_rfl) (fun _ _ _ h => h) hST (Au.yq_call 9 _ (by rfl) (fun u => by go_simp) (fun u hu => C1.out u)) ?_
    simp only [Act.put, List.setIfInBounds_toArray, List.set_cons_zero, List.set_cons_succ]
    refine AvT.take 5 (some 48) (v := ?_) rfl rfl (by kernel_rfl) (by kernel_rfl) (by kernel_rfl) (fun _ _ _ h => h) hST (Au.yq_run (by rfl) (fun u hu => ?_)) ?_
    rotate_left
    · (clear hu; go_simp; try with_reducible rfl)
    simp only [Act.put, List.setIfInBounds_toArray, List.set_cons_zero, List.set_cons_succ]
    refine AvT.take 6 (some 49) rfl rfl (by kernel_rfl) (by kernel_rfl) (by kernel_rfl) (fun _ _ _ h => h) hST (Au.yq_call 8 _ (by rfl) (fun u => by go_simp) (fun u hu => CS2.out u hu.1.kept)) ?_
    simp only [Act.put, List.setIfInBounds_toArray, List.set_cons_zero, List.set_cons_succ]
    refine AvT.take 7 (some 42) (v := ?_) rfl rfl (by kernel_rfl) (by kernel_rfl) (by kernel_rfl) (fun _ _ _ h => h) hST (Au.yq_run (by rfl) (fun u hu => ?_)) ?_
    rotate_left
    · (clear hu; go_simp; try with_reducible rfl)
    simp only [Act.put, List.setIfInBounds_toArray, List.set_cons_zero, List.set_cons_succ]
    refine AvT.take 8 (some 50) (v := ?_) rfl rfl (by kernel_rfl) (by kernel_rfl) (by kernel_rfl) (fun _ _ _ h => h) hST (Au.yq_run (by rfl) (fun u hu => ?_)) ?_
    rotate_left
    · (clear hu; go_simp; try with_reducible rfl)
    simp only [Act.put, List.setIfInBounds_toArray, List.set_cons_zero, List.set_cons_succ]
    refine AvT.take 9 (some 51) (v := ?_) rfl rfl (by kernel_rfl) (by kernel_rfl) (by kernel_rfl) (fun _ _ _ h => h) hST (Au.yq_run (by rfl) (fun u hu => ?_)) ?_
    rotate_left
    · (clear hu; go_simp; try with_reducible rfl)
    simp only [Act.put, List.setIfInBounds_toArray, List.set_cons_zero, List.set_cons_succ]
    refine AvT.fork 10 11 rfl rfl (by kernel_rfl) (fun v hv KK hK => ?_) (fun v hv KK hK => ?_)
    · rw [if_pos (by rfl)]
      go_simp
      have bA : w.heap.size + 3 ≤ v.heap.size := (hv.1).size
      have dA : ∀ j, (Value.slice q1 n1 c1).ownBlock = some j → j ≠ v.heap.size := fun j e => by have := (hv.2.2).lt e; omega
      have e0A : g0 ≠ v.heap.size := by have := blk_lt (hv.2.1); omega
      refine hK.out (fun u => Bl w u [(F, 24), (A, 31), (X, 33)] ∧ u.heap[g0]? = some (.cells E 39 (0, 0)) ∧ Mc u (.slice q1 n1 c1) K ∧ u.heap[v.heap.size]? = some (.cells zeroC 41 (0, 0))) _ _ ⟨(bl_stab _ _ (hv.1) (Kept.one _ _)), (blk_stab _ _ (hv.2.1) (Kept.one _ _)), (mcs _ _ (hv.2.2) (Kept.one _ _)), blk_new v _⟩ (stab_and bl_stab (stab_and blk_stab (stab_and mcs blk_stab))) (fun u h => ⟨h.1, h.2.1, h.2.2.1⟩) ?_
      obtain ⟨gA, hg⟩ : ∃ g, v.heap.size = g := ⟨_, rfl⟩
      rw [hg] at bA dA e0A  ⊢
      clear hK KK hv hg
      clear v hST
      have hST : Stab (fun u => Bl w u [(F, 24), (A, 31), (X, 33)] ∧ u.heap[g0]? = some (.cells E 39 (0, 0)) ∧ Mc u (.slice q1 n1 c1) K ∧ u.heap[gA]? = some (.cells zeroC 41 (0, 0))) ∧ ∀ u, (fun u => Bl w u [(F, 24), (A, 31), (X, 33)] ∧ u.heap[g0]? = some (.cells E 39 (0, 0)) ∧ Mc u (.slice q1 n1 c1) K ∧ u.heap[gA]? = some (.cells zeroC 41 (0, 0))) u → (fun u => Bl w u [(F, 24), (A, 31), (X, 33)] ∧ u.heap[g0]? = some (.cells E 39 (0, 0)) ∧ Mc u (.slice q1 n1 c1) K) u := ⟨(stab_and bl_stab (stab_and blk_stab (stab_and mcs blk_stab))), fun u h => ⟨h.1, h.2.1, h.2.2.1⟩⟩
      refine AvT.step 11 rfl (by kernel_rfl) (fun v hv KK hK => ?_)
      rw [if_pos (by rfl)]
      go_simp
      have bB : w.heap.size + 3 ≤ v.heap.size := (hv.1).size
      have dB : ∀ j, (Value.slice q1 n1 c1).ownBlock = some j → j ≠ v.heap.size := fun j e => by have := (hv.2.2.1).lt e; omega
      have e0B : g0 ≠ v.heap.size := by have := blk_lt (hv.2.1); omega
      have eAB : gA ≠ v.heap.size := by have := blk_lt (hv.2.2.2); omega
      refine hK.out (fun u => Bl w u [(F, 24), (A, 31), (X, 33)] ∧ u.heap[g0]? = some (.cells E 39 (0, 0)) ∧ Mc u (.slice q1 n1 c1) K ∧ u.heap[gA]? = some (.cells zeroC 41 (0, 0)) ∧ u.heap[v.heap.size]? = some (.cells zeroP 43 (0, 0))) _ _ ⟨(bl_stab _ _ (hv.1) (Kept.one _ _)), (blk_stab _ _ (hv.2.1) (Kept.one _ _)), (mcs _ _ (hv.2.2.1) (Kept.one _ _)), (blk_stab _ _ (hv.2.2.2) (Kept.one _ _)), blk_new v _⟩ (stab_and bl_stab (stab_and blk_stab (stab_and mcs (stab_and blk_stab blk_stab)))) (fun u h => ⟨h.1, h.2.1, h.2.2.1⟩) ?_
      obtain ⟨gB, hg⟩ : ∃ g, v.heap.size = g := ⟨_, rfl⟩
      rw [hg] at bB dB e0B eAB ⊢
      clear hK KK hv hg
      clear v hST
      have hST : Stab (fun u => Bl w u [(F, 24), (A, 31), (X, 33)] ∧ u.heap[g0]? = some (.cells E 39 (0, 0)) ∧ Mc u (.slice q1 n1 c1) K ∧ u.heap[gA]? = some (.cells zeroC 41 (0, 0)) ∧ u.heap[gB]? = some (.cells zeroP 43 (0, 0))) ∧ ∀ u, (fun u => Bl w u [(F, 24), (A, 31), (X, 33)] ∧ u.heap[g0]? = some (.cells E 39 (0, 0)) ∧ Mc u (.slice q1 n1 c1) K ∧ u.heap[gA]? = some (.cells zeroC 41 (0, 0)) ∧ u.heap[gB]? = some (.cells zeroP 43 (0, 0))) u → (fun u => Bl w u [(F, 24), (A, 31), (X, 33)] ∧ u.heap[g0]? = some (.cells E 39 (0, 0)) ∧ Mc u (.slice q1 n1 c1) K) u := ⟨(stab_and bl_stab (stab_and blk_stab (stab_and mcs (stab_and blk_stab blk_stab)))), fun u h => ⟨h.1, h.2.1, h.2.2.1⟩⟩
      refine AvT.step 12 rfl (by kernel_rfl) (fun v hv KK hK => ?_)
      rw [if_pos (by rfl)]
      refine wp_store_row 41 (.tmp 14) (.tmp 50) rfl gA Y rfl rfl 41 zeroC (hv.2.2.2.1) (by rw [sY]; exact info_cl) (by rw [sY]; rfl) oY ?_
      refine hK.out (fun u => Bl w u [(F, 24), (A, 31), (X, 33)] ∧ u.heap[g0]? = some (.cells E 39 (0, 0)) ∧ Mc u (.slice q1 n1 c1) K ∧ u.heap[gB]? = some (.cells zeroP 43 (0, 0)) ∧ u.heap[gA]? = some (.cells Y 41 (0, 0))) _ _ ⟨hv.1.far bA Y, far_rw hv.2.1 (by omega), hv.2.2.1.kept (fun j e => setRow_other _ _ _ _ (dA j e)), far_rw hv.2.2.2.2 (by omega), setRow_heap _ _ zeroC Y _ _ (hv.2.2.2.1)⟩ (stab_and bl_stab (stab_and blk_stab (stab_and mcs (stab_and blk_stab blk_stab)))) (fun u h => ⟨h.1, h.2.1, h.2.2.1⟩) ?_
      clear hK KK hv
      clear v hST
      have hST : Stab (fun u => Bl w u [(F, 24), (A, 31), (X, 33)] ∧ u.heap[g0]? = some (.cells E 39 (0, 0)) ∧ Mc u (.slice q1 n1 c1) K ∧ u.heap[gB]? = some (.cells zeroP 43 (0, 0)) ∧ u.heap[gA]? = some (.cells Y 41 (0, 0))) ∧ ∀ u, (fun u => Bl w u [(F, 24), (A, 31), (X, 33)] ∧ u.heap[g0]? = some (.cells E 39 (0, 0)) ∧ Mc u (.slice q1 n1 c1) K ∧ u.heap[gB]? = some (.cells zeroP 43 (0, 0)) ∧ u.heap[gA]? = some (.cells Y 41 (0, 0))) u → (fun u => Bl w u [(F, 24), (A, 31), (X, 33)] ∧ u.heap[g0]? = some (.cells E 39 (0, 0)) ∧ Mc u (.slice q1 n1 c1) K) u := ⟨(stab_and bl_stab (stab_and blk_stab (stab_and mcs (stab_and blk_stab blk_stab)))), fun u h => ⟨h.1, h.2.1, h.2.2.1⟩⟩
      refine AvT.step 13 rfl (by kernel_rfl) (fun v hv KK hK => ?_)
      rw [if_pos (by rfl)]
      refine wp_store_row 43 (.tmp 15) (.tmp 51) rfl gB R rfl rfl 43 zeroP (hv.2.2.2.1) (by rw [sR]; exact info_pk) (by rw [sR]; rfl) oR ?_
      refine hK.out (fun u => Bl w u [(F, 24), (A, 31), (X, 33)] ∧ u.heap[g0]? = some (.cells E 39 (0, 0)) ∧ Mc u (.slice q1 n1 c1) K ∧ u.heap[gA]? = some (.cells Y 41 (0, 0)) ∧ u.heap[gB]? = some (.cells R 43 (0, 0))) _ _ ⟨hv.1.far bB R, far_rw hv.2.1 (by omega), hv.2.2.1.kept (fun j e => setRow_other _ _ _ _ (dB j e)), far_rw hv.2.2.2.2 (by omega), setRow_heap _ _ zeroP R _ _ (hv.2.2.2.1)⟩ (stab_and bl_stab (stab_and blk_stab (stab_and mcs (stab_and blk_stab blk_stab)))) (fun u h => ⟨h.1, h.2.1, h.2.2.1⟩) ?_
      clear hK KK hv
      clear v hST
      have hST : Stab (fun u => Bl w u [(F, 24), (A, 31), (X, 33)] ∧ u.heap[g0]? = some (.cells E 39 (0, 0)) ∧ Mc u (.slice q1 n1 c1) K ∧ u.heap[gA]? = some (.cells Y 41 (0, 0)) ∧ u.heap[gB]? = some (.cells R 43 (0, 0))) ∧ ∀ u, (fun u => Bl w u [(F, 24), (A, 31), (X, 33)] ∧ u.heap[g0]? = some (.cells E 39 (0, 0)) ∧ Mc u (.slice q1 n1 c1) K ∧ u.heap[gA]? = some (.cells Y 41 (0, 0)) ∧ u.heap[gB]? = some (.cells R 43 (0, 0))) u → (fun u => Bl w u [(F, 24), (A, 31), (X, 33)] ∧ u.heap[g0]? = some (.cells E 39 (0, 0)) ∧ Mc u (.slice q1 n1 c1) K) u := ⟨(stab_and bl_stab (stab_and blk_stab (stab_and mcs (stab_and blk_stab blk_stab)))), fun u h => ⟨h.1, h.2.1, h.2.2.1⟩⟩
      refine AvT.done (by kernel_rfl) (fun V hV => ?_)
      clear hST
      go_wp2_with fail
      go_meet
      exact ⟨gA, gB, rfl, rfl, hV.1, hV.2.1, hV.2.2.1, hV.2.2.2.2⟩
    · rw [if_pos (by rfl)]
      go_simp
      have bB : w.heap.size + 3 ≤ v.heap.size := (hv.1).size
      have dB : ∀ j, (Value.slice q1 n1 c1).ownBlock = some j → j ≠ v.heap.size := fun j e => by have := (hv.2.2).lt e; omega
      have e0B : g0 ≠ v.heap.size := by have := blk_lt (hv.2.1); omega
      refine hK.out (fun u => Bl w u [(F, 24), (A, 31), (X, 33)] ∧ u.heap[g0]? = some (.cells E 39 (0, 0)) ∧ Mc u (.slice q1 n1 c1) K ∧ u.heap[v.heap.size]? = some (.cells zeroP 43 (0, 0))) _ _ ⟨(bl_stab _ _ (hv.1) (Kept.one _ _)), (blk_stab _ _ (hv.2.1) (Kept.one _ _)), (mcs _ _ (hv.2.2) (Kept.one _ _)), blk_new v _⟩ (stab_and bl_stab (stab_and blk_stab (stab_and mcs blk_stab))) (fun u h => ⟨h.1, h.2.1, h.2.2.1⟩) ?_
      obtain ⟨gB, hg⟩ : ∃ g, v.heap.size = g := ⟨_, rfl⟩
      rw [hg] at bB dB e0B  ⊢
      clear hK KK hv hg
      clear v hST
      have hST : Stab (fun u => Bl w u [(F, 24), (A, 31), (X, 33)] ∧ u.heap[g0]? = some (.cells E 39 (0, 0)) ∧ Mc u (.slice q1 n1 c1) K ∧ u.heap[gB]? = some (.cells zeroP 43 (0, 0))) ∧ ∀ u, (fun u => Bl w u [(F, 24), (A, 31), (X, 33)] ∧ u.heap[g0]? = some (.cells E 39 (0, 0)) ∧ Mc u (.slice q1 n1 c1) K ∧ u.heap[gB]? = some (.cells zeroP 43 (0, 0))) u → (fun u => Bl w u [(F, 24), (A, 31), (X, 33)] ∧ u.heap[g0]? = some (.cells E 39 (0, 0)) ∧ Mc u (.slice q1 n1 c1) K) u := ⟨(stab_and bl_stab (stab_and blk_stab (stab_and mcs blk_stab))), fun u h => ⟨h.1, h.2.1, h.2.2.1⟩⟩
      refine AvT.step 10 rfl (by kernel_rfl) (fun v hv KK hK => ?_)
      rw [if_pos (by rfl)]
      go_simp
      have bA : w.heap.size + 3 ≤ v.heap.size := (hv.1).size
      have dA : ∀ j, (Value.slice q1 n1 c1).ownBlock = some j → j ≠ v.heap.size := fun j e => by have := (hv.2.2.1).lt e; omega
      have e0A : g0 ≠ v.heap.size := by have := blk_lt (hv.2.1); omega
      have eBA : gB ≠ v.heap.size := by have := blk_lt (hv.2.2.2); omega
      refine hK.out (fun u => Bl w u [(F, 24), (A, 31), (X, 33)] ∧ u.heap[g0]? = some (.cells E 39 (0, 0)) ∧ Mc u (.slice q1 n1 c1) K ∧ u.heap[gB]? = some (.cells zeroP 43 (0, 0)) ∧ u.heap[v.heap.size]? = some (.cells zeroC 41 (0, 0))) _ _ ⟨(bl_stab _ _ (hv.1) (Kept.one _ _)), (blk_stab _ _ (hv.2.1) (Kept.one _ _)), (mcs _ _ (hv.2.2.1) (Kept.one _ _)), (blk_stab _ _ (hv.2.2.2) (Kept.one _ _)), blk_new v _⟩ (stab_and bl_stab (stab_and blk_stab (stab_and mcs (stab_and blk_stab blk_stab)))) (fun u h => ⟨h.1, h.2.1, h.2.2.1⟩) ?_
      obtain ⟨gA, hg⟩ : ∃ g, v.heap.size = g := ⟨_, rfl⟩
      rw [hg] at bA dA e0A eBA ⊢
      clear hK KK hv hg
      clear v hST
      have hST : Stab (fun u => Bl w u [(F, 24), (A, 31), (X, 33)] ∧ u.heap[g0]? = some (.cells E 39 (0, 0)) ∧ Mc u (.slice q1 n1 c1) K ∧ u.heap[gB]? = some (.cells zeroP 43 (0, 0)) ∧ u.heap[gA]? = some (.cells zeroC 41 (0, 0))) ∧ ∀ u, (fun u => Bl w u [(F, 24), (A, 31), (X, 33)] ∧ u.heap[g0]? = some (.cells E 39 (0, 0)) ∧ Mc u (.slice q1 n1 c1) K ∧ u.heap[gB]? = some (.cells zeroP 43 (0, 0)) ∧ u.heap[gA]? = some (.cells zeroC 41 (0, 0))) u → (fun u => Bl w u [(F, 24), (A, 31), (X, 33)] ∧ u.heap[g0]? = some (.cells E 39 (0, 0)) ∧ Mc u (.slice q1 n1 c1) K) u := ⟨(stab_and bl_stab (stab_and blk_stab (stab_and mcs (stab_and blk_stab blk_stab)))), fun u h => ⟨h.1, h.2.1, h.2.2.1⟩⟩
      refine AvT.step 12 rfl (by kernel_rfl) (fun v hv KK hK => ?_)
      rw [if_pos (by rfl)]
      refine wp_store_row 41 (.tmp 14) (.tmp 50) rfl gA Y rfl rfl 41 zeroC (hv.2.2.2.2) (by rw [sY]; exact info_cl) (by rw [sY]; rfl) oY ?_
      refine hK.out (fun u => Bl w u [(F, 24), (A, 31), (X, 33)] ∧ u.heap[g0]? = some (.cells E 39 (0, 0)) ∧ Mc u (.slice q1 n1 c1) K ∧ u.heap[gB]? = some (.cells zeroP 43 (0, 0)) ∧ u.heap[gA]? = some (.cells Y 41 (0, 0))) _ _ ⟨hv.1.far bA Y, far_rw hv.2.1 (by omega), hv.2.2.1.kept (fun j e => setRow_other _ _ _ _ (dA j e)), far_rw hv.2.2.2.1 (by omega), setRow_heap _ _ zeroC Y _ _ (hv.2.2.2.2)⟩ (stab_and bl_stab (stab_and blk_stab (stab_and mcs (stab_and blk_stab blk_stab)))) (fun u h => ⟨h.1, h.2.1, h.2.2.1⟩) ?_
      clear hK KK hv
      clear v hST
      have hST : Stab (fun u => Bl w u [(F, 24), (A, 31), (X, 33)] ∧ u.heap[g0]? = some (.cells E 39 (0, 0)) ∧ Mc u (.slice q1 n1 c1) K ∧ u.heap[gB]? = some (.cells zeroP 43 (0, 0)) ∧ u.heap[gA]? = some (.cells Y 41 (0, 0))) ∧ ∀ u, (fun u => Bl w u [(F, 24), (A, 31), (X, 33)] ∧ u.heap[g0]? = some (.cells E 39 (0, 0)) ∧ Mc u (.slice q1 n1 c1) K ∧ u.heap[gB]? = some (.cells zeroP 43 (0, 0)) ∧ u.heap[gA]? = some (.cells Y 41 (0, 0))) u → (fun u => Bl w u [(F, 24), (A, 31), (X, 33)] ∧ u.heap[g0]? = some (.cells E 39 (0, 0)) ∧ Mc u (.slice q1 n1 c1) K) u := ⟨(stab_and bl_stab (stab_and blk_stab (stab_and mcs (stab_and blk_stab blk_stab)))), fun u h => ⟨h.1, h.2.1, h.2.2.1⟩⟩
      refine AvT.step 13 rfl (by kernel_rfl) (fun v hv KK hK => ?_)
      rw [if_pos (by rfl)]
      refine wp_store_row 43 (.tmp 15) (.tmp 51) rfl gB R rfl rfl 43 zeroP (hv.2.2.2.1) (by rw [sR]; exact info_pk) (by rw [sR]; rfl) oR ?_
      refine hK.out (fun u => Bl w u [(F, 24), (A, 31), (X, 33)] ∧ u.heap[g0]? = some (.cells E 39 (0, 0)) ∧ Mc u (.slice q1 n1 c1) K ∧ u.heap[gA]? = some (.cells Y 41 (0, 0)) ∧ u.heap[gB]? = some (.cells R 43 (0, 0))) _ _ ⟨hv.1.far bB R, far_rw hv.2.1 (by omega), hv.2.2.1.kept (fun j e => setRow_other _ _ _ _ (dB j e)), far_rw hv.2.2.2.2 (by omega), setRow_heap _ _ zeroP R _ _ (hv.2.2.2.1)⟩ (stab_and bl_stab (stab_and blk_stab (stab_and mcs (stab_and blk_stab blk_stab)))) (fun u h => ⟨h.1, h.2.1, h.2.2.1⟩) ?_
      clear hK KK hv
      clear v hST
      have hST : Stab (fun u => Bl w u [(F, 24), (A, 31), (X, 33)] ∧ u.heap[g0]? = some (.cells E 39 (0, 0)) ∧ Mc u (.slice q1 n1 c1) K ∧ u.heap[gA]? = some (.cells Y 41 (0, 0)) ∧ u.heap[gB]? = some (.cells R 43 (0, 0))) ∧ ∀ u, (fun u => Bl w u [(F, 24), (A, 31), (X, 33)] ∧ u.heap[g0]? = some (.cells E 39 (0, 0)) ∧ Mc u (.slice q1 n1 c1) K ∧ u.heap[gA]? = some (.cells Y 41 (0, 0)) ∧ u.heap[gB]? = some (.cells R 43 (0, 0))) u → (fun u => Bl w u [(F, 24), (A, 31), (X, 33)] ∧ u.heap[g0]? = some (.cells E 39 (0, 0)) ∧ Mc u (.slice q1 n1 c1) K) u := ⟨(stab_and bl_stab (stab_and blk_stab (stab_and mcs (stab_and blk_stab blk_stab)))), fun u h => ⟨h.1, h.2.1, h.2.2.1⟩⟩
      refine AvT.done (by kernel_rfl) (fun V hV => ?_)
      clear hST
      go_wp2_with fail
      go_meet
      exact ⟨gA, gB, rfl, rfl, hV.1, hV.2.1, hV.2.2.1, hV.2.2.2.2⟩
  case rest =>
    obtain ⟨gA, gB, rfl, rfl, hb, hg0, hmc, hgB⟩ := hcut
    have HB := Lib.hid (And.intro hb (And.intro hg0 (And.intro hmc hgB)))
    have k0 : wc.cell? ⟨gB, 0, none⟩ = some (.int .i64 p.kind) := (blk_cell hgB 0).trans r0
    have hlK : K.length ≤ 30 := by rw [HN.out]; exact hl30
    have L2l := wait_len (wtP 3 me o) K
    have L3l := wait_len (wtP 4 me o) K
    have OK2 := Lib.hid (ok_wait (f := wtP 3 me o) (K := K) (fun y hy => ok_onw3 HM.out.1.1 (in_mem HM.out.1.2.2.2.2.2.2 hy).1 (in_mem HM.out.1.2.2.2.2.2.2 hy).2))
    have OK3 := Lib.hid (ok_wait (f := wtP 4 me o) (K := K) (fun y hy => ok_wt4 HM.out.1.1 (in_mem HM.out.1.2.2.2.2.2.2 hy).1 (in_mem HM.out.1.2.2.2.2.2.2 hy).2))
    have W1 := Lib.hid (fun (u : World) (h : Mc u (.slice q1 n1 c1) K) => (by have := cancels_any me o (mc_cls h (by omega)) (by omega); rw [HE.out] at this; exact this : Calls Tryz.prog 10 #[.int .i64 me, .agg E] u fun e w' => ∃ v, e = .returned v ∧ Mp w' v (waitL (wtP 3 me o) K) ∧ (∀ g, v.ownBlock = some g → u.heap.size ≤ g) ∧ Kept u w'))
    have W2 := Lib.hid (fun (u : World) (h : Mc u (.slice q1 n1 c1) K) => (by have := keeps_any me o (mc_cls h (by omega)) (by omega); rw [HE.out] at this; exact this : Calls Tryz.prog 11 #[.int .i64 me, .agg E] u fun e w' => ∃ v, e = .returned v ∧ Mp w' v (waitL (wtP 4 me o) K) ∧ (∀ g, v.ownBlock = some g → u.heap.size ≤ g) ∧ Kept u w'))
    obtain ⟨M2, hM2⟩ : ∃ M, waitL (wtP 3 me o) K = M := ⟨_, rfl⟩
    obtain ⟨M3, hM3⟩ : ∃ M, waitL (wtP 4 me o) K = M := ⟨_, rfl⟩
    rw [hM2] at OK2 W1 L2l
    rw [hM3] at OK3 W2 L3l
    clear hb hg0 hmc hgB HZ hM2 hM3 CS2 C1
    · rw [show p.kind = 0 from hk0] at k0
      go_upto_region 8 with fail
      clear k0 hk0
      have HA0 := Lib.hid (show Fr (fun j => wc.heap.size ≤ j) wc wc ∧ Mp wc (.slice none 0 0) ([] : List Pk) ∧ (∀ j, (Value.slice none 0 0).ownBlock = some j → wc.heap.size ≤ j) from ⟨Fr.refl _ _, rowv_nil _ _ _ _, fun j e => by cases e⟩)
      have OK1 := Lib.hid (show ∀ p ∈ ([] : List Pk), Ok p from fun p h => by cases h)
      have L1l : ([] : List Pk).length ≤ 1 := by decide
      obtain ⟨M1, hM1⟩ : ∃ M : List Pk, [] = M := ⟨_, rfl⟩
      rw [hM1] at HA0 OK1 L1l
      obtain ⟨wa, hwa⟩ : ∃ wa, wc = wa := ⟨_, rfl⟩
      have HA := Lib.hid (by have := HA0.out; rw [← hwa]; exact this : Fr (fun j => wc.heap.size ≤ j) wc wa ∧ Mp wa (.slice none 0 0) M1 ∧ (∀ j, (Value.slice none 0 0).ownBlock = some j → wc.heap.size ≤ j))
      clear hM1 HA0
      obtain ⟨v16, hv16⟩ : ∃ v, Value.slice none 0 0 = v := ⟨_, rfl⟩
      rw [hv16] at HA
      subst hwa
      simp only [hv16]
      clear hv16
      go_upto_region 9 with (first
        | (refine load_w 39 (.tmp 13) rfl g0 rfl rfl E 19 (fr_blk HA.out.1 HB.out.2.1) Tryz.underlying39 sE info_ow ?_)
        | (go_at_call 10; refine (W1.out _ (fr_mc HA.out.1 HB.out.2.2.1)).mono ?_; rintro e wb ⟨v2, rfl, s2, -, k2⟩; have r1 := HA.out.2.1.keep k2)
        | (at_builtin; refine wpList_append_rowsv enc_pk wb rfl (.tmp 59) (.tmp 62) rfl v16 v2 M1 M2 rfl rfl r1 s2 (by omega) ?_; intro v17 wd r5 g5 b5))
      have HD := Lib.hid (show Fr (fun j => wc.heap.size ≤ j) wc wd ∧ Mp wd v17 (M1 ++ M2) ∧ (∀ j, v17.ownBlock = some j → wc.heap.size ≤ j) from by
        have h := acc_go HA.out.1 HA.out.2.2 k2 g5 b5
        exact ⟨h.1, r5, h.2⟩)
      clear r1 s2 k2 r5 g5 b5
      go_upto_region 10 with (first
        | (refine load_w 39 (.tmp 13) rfl g0 rfl rfl E 19 (fr_blk HD.out.1 HB.out.2.1) Tryz.underlying39 sE info_ow ?_)
        | (go_at_call 11; refine (W2.out _ (fr_mc HD.out.1 HB.out.2.2.1)).mono ?_; rintro e we ⟨v3, rfl, s3, -, k3⟩; have r1 := HD.out.2.1.keep k3)
        | (at_builtin; refine wpList_append_rowsv enc_pk we rfl (.tmp 64) (.tmp 67) rfl v17 v3 (M1 ++ M2) M3 rfl rfl r1 s3 (by rw [List.length_append]; omega) ?_; intro v18 wf r6 g6 b6))
      have HF := Lib.hid (show Fr (fun j => wc.heap.size ≤ j) wc wf ∧ Mp wf v18 (M1 ++ M2 ++ M3) ∧ (∀ j, v18.ownBlock = some j → wc.heap.size ≤ j) from by
        have h := acc_go HD.out.1 HD.out.2.2 k3 g6 b6
        exact ⟨h.1, r6, h.2⟩)
      clear r1 s3 k3 r6 g6 b6 HA HD
      have OK4 := Lib.hid (ok_app (ok_app OK1.out OK2.out) OK3.out)
      have L4l : (M1 ++ M2 ++ M3).length ≤ 100 := by rw [List.length_append, List.length_append]; omega
      obtain ⟨M4, hM4⟩ : ∃ M, M1 ++ M2 ++ M3 = M := ⟨_, rfl⟩
      rw [hM4] at HF OK4 L4l
      clear hM4 OK1 OK2 OK3 W1 W2 L1l L2l L3l
      have hbf := fr_bl HF.out.1 HB.out.1
      have y3 : wf.cell? ⟨w.heap.size + 1, 3, none⟩ = some (.int .i64 o.ka) := (hbf.cell 1 3 rfl).trans c3
      have HBF := Lib.hid hbf
      clear hbf
      · have hka2 : decide (0 < o.ka) = false := decide_eq_false (by omega)
        have CBK := Lib.hid (show Calls Tryz.prog 15 #[v18] wf fun e w' => e = .returned (.bool true) ∧ Kept wf w' from mback_any (mp_ls HF.out.2.1 (by omega)) (by omega) OK4.out (HT.out.2.kept HBF.out.kept))
        go_wp2_with (first
          | (go_at_call 15; refine CBK.out.mono ?_; rintro e wg ⟨rfl, kg⟩)
          | (go_at_call 6; refine (HAW.out _ (HBF.out.kept.trans kg)).mono ?_; rintro e wh ⟨rfl, kh⟩))
        go_ret
        exact ⟨rfl, HBF.out.kept.trans (kg.trans kh)⟩

set_option maxRecDepth 100000 in
set_option maxHeartbeats 4000000 in
theorem may_goC {w : World} {q : Option Addr} {N c : Nat} {K : List Cl} (cf : Cf) (me : Int) (o : Ow) (x : Cl) (now vv : Int) (hv : Cls w (.slice q N c) K) (ht : Tm.Tab w) (hc : Cr.Tab w) (ha : Wd x.att) (hgo : mayB me o K = true ∧ oneB x = true ∧ ¬ 16 < cf.hops ∧ ¬ vv < 0 ∧ ¬ 2147483647 < vv) (hk1 : (snd cf me o x now).2.kind = 1) (hokp : Ok (snd cf me o x now).2) (hka : 0 < o.ka) :
    Calls Tryz.prog 3 #[.agg cf.arr, .int .i64 me, .agg (o.arr q N c), .agg x.arr, .int .i64 now, .int .i64 vv] w fun e w' => e = .returned (.bool true) ∧ Kept w w' := by
  have hN : K.length = N := by obtain ⟨p, cap, e⟩ := hv.shape; cases e; rfl
  obtain ⟨F, hF⟩ : ∃ F, cf.arr = F := ⟨_, rfl⟩
  obtain ⟨A, hA⟩ : ∃ A, o.arr q N c = A := ⟨_, rfl⟩
  obtain ⟨X, hX⟩ : ∃ X, x.arr = X := ⟨_, rfl⟩
  have sF : F.size = 14 := by rw [← hF]; rfl
  have sA : A.size = 19 := by rw [← hA]; rfl
  have sX : X.size = 13 := by rw [← hX]; rfl
  have f5 : F[5]? = some (.int .i64 cf.hops) := by rw [← hF]; rfl
  have c3 : A[3]? = some (.int .i64 o.ka) := by rw [← hA]; rfl
  have x5 : X[5]? = some (.int .i64 x.att) := by rw [← hX]; rfl
  obtain ⟨W, hW⟩ : ∃ W, ((w.alloc (.cells F 24)).alloc (.cells A 31)).alloc (.cells X 33) = W := ⟨_, rfl⟩
  have hb : Bl w W [(F, 24), (A, 31), (X, 33)] := hW ▸ Bl.three w F A X _ _ _
  have HW := Lib.hid hW
  have HS0 := Lib.hid hb
  have HAW := Lib.hid (show ∀ u, Kept w u → Calls Tryz.prog 6 #[] u fun e w' => e = .returned (.bool true) ∧ Kept u w' from fun u hu => awake_any u (ht.kept hu))
  obtain ⟨b1, hb1⟩ : ∃ b, mayB me o K = b := ⟨_, rfl⟩
  obtain ⟨b2, hb2⟩ : ∃ b, oneB x = b := ⟨_, rfl⟩
  have CB1 := Lib.hid (show ∀ u, Kept w u → Calls Tryz.prog 4 #[.int .i64 me, .agg A] u fun e w' => e = .returned (.bool b1) ∧ Kept u w' from fun u hu => by rw [← hA, ← hb1]; exact may_any me o (hv.go hu))
  have CB2 := Lib.hid (show ∀ u, Calls Tryz.prog 5 #[.agg X] u fun e w' => e = .returned (.bool b2) ∧ Kept u w' from fun u => by rw [← hX, ← hb2]; exact mone_any x u)
  obtain rfl : true = b1 := hgo.1.symm.trans hb1
  obtain rfl : true = b2 := hgo.2.1.symm.trans hb2
  obtain ⟨-, -, e3, e4, e5⟩ := hgo
  have d3 : decide (16 < cf.hops) = false := decide_eq_false e3
  have d4 : decide (vv < 0) = false := decide_eq_false e4
  have hm := may_iff.1 hb1
  have hx1 := one_iff.1 hb2
  have HM := Lib.hid (And.intro hm (And.intro hb2 hx1))
  have hl30 : N ≤ 30 := by rw [← hN]; exact hm.2.2.2.2.2.1
  obtain ⟨y, p, hy⟩ : ∃ y p, snd cf me o x now = (y, p) := ⟨_, _, rfl⟩
  rw [hy] at hk1 hokp
  obtain ⟨Y, hY⟩ : ∃ Y, y.arr = Y := ⟨_, rfl⟩
  obtain ⟨R, hR⟩ : ∃ R, p.arr = R := ⟨_, rfl⟩
  have sY : Y.size = 13 := by rw [← hY]; rfl
  have oY : Y.all (·.oneCell') = true := by rw [← hY]; exact cl_one y
  have sR : R.size = 23 := by rw [← hR]; rfl
  have oR : R.all (·.oneCell') = true := by rw [← hR]; exact pk_one p
  have r0 : R[0]? = some (.int .i64 p.kind) := by rw [← hR]; rfl
  have hfR := fold_pk p hR
  have HR := Lib.hid hR
  have HN := Lib.hid hN
  have HT := Lib.hid (And.intro ht hc)
  have C1 := Lib.hid (show ∀ u, Calls Tryz.prog 9 #[.agg X] u fun e w' => e = .returned (.agg X) ∧ Kept u w' from fun u => by rw [← hX]; exact Ow.one_any x u)
  have CM := Lib.hid (show ∀ u, Kept w u → Calls Tryz.prog 7 #[.agg A] u fun e w' => ∃ q' n' c', e = .returned (.agg (o.arr q' n' c')) ∧ Mc w' (.slice q' n' c') K ∧ (∀ g, (Value.slice q' n' c').ownBlock = some g → u.heap.size ≤ g) ∧ Kept u w' from fun u hu => by rw [← hA]; exact Ow.mine_any o (hv.go hu) (by omega))
  have CS := Lib.hid (show ∀ u q' n' c', Kept w u → Calls Tryz.prog 8 #[.agg F, .int .i64 me, .agg (o.arr q' n' c'), .agg X, .int .i64 now] u fun e w' => e = .returned (.tuple #[.agg Y, .agg R]) ∧ Kept u w' from fun u q' n' c' hu => by
    have := send_any cf me o x now q' n' c' u (ht.kept hu) ha
    rw [hy, hF, hX] at this; rw [← hY, ← hR]; exact this)
  have e5b : decide (2147483647 < vv) = false := decide_eq_false e5
  rw [hF, hA, hX]
  clear hv ht hc hb hW hN hF hA hX hb1 hb2 hm hx1 hy hY hR
  go_enter Tryz.func3, Tryz.ntmps3
  go_upto_region 1 with fail
  rw [HW.out]
  go_upto_region 4 with (first
    | (refine load_w 31 (.tmp 8) rfl (w.heap.size + 1) rfl rfl A 19 (HS0.out.blk 1 rfl) Tryz.underlying31 sA info_row ?_)
    | (go_at_call 4; refine (CB1.out _ HS0.out.kept).mono ?_; rintro e w1 ⟨rfl, k1⟩; have HS1 := Lib.hid (HS0.out.go k1))
    | (refine load_w 33 (.tmp 9) rfl (w.heap.size + 1 + 1) rfl rfl X 13 (HS1.out.blk 2 rfl) Tryz.underlying33 sX info_rcl ?_)
    | (go_at_call 5; refine (CB2.out _).mono ?_; rintro e w2 ⟨rfl, k2⟩; have HS2 := Lib.hid (HS1.out.go k2); have y5 : w2.cell? ⟨w.heap.size, 5, none⟩ = some (.int .i64 cf.hops) := (HS2.out.cell 0 5 rfl).trans f5)
    | (refine load_w 31 (.tmp 8) rfl (w.heap.size + 1) rfl rfl A 19 (HS2.out.blk 1 rfl) Tryz.underlying31 sA info_row ?_)
    | (go_at_call 7; refine (CM.out _ HS2.out.kept).mono ?_; rintro e u1 ⟨q1, n1, c1, rfl, s1, -, k3⟩)
    | (refine store_new rfl 39 (.tmp 13) (.tmp 41) rfl u1.heap.size (o.arr q1 n1 c1) rfl rfl u1 _ rfl 19 info_ow rfl rfl (arr_one _ _ _ _) ?_))
  obtain ⟨V, hV⟩ : ∃ V, u1.alloc (.cells (o.arr q1 n1 c1) 39) = V := ⟨_, rfl⟩
  rw [hV]
  have kV : Kept u1 V := by rw [← hV]; exact Kept.one _ _
  have bV : V.heap[u1.heap.size]? = some (.cells (o.arr q1 n1 c1) 39 (0, 0)) := by rw [← hV]; exact blk_new u1 _
  obtain ⟨g0, hg⟩ : ∃ g, u1.heap.size = g := ⟨_, rfl⟩
  rw [hg] at bV ⊢
  obtain ⟨E, hE⟩ : ∃ E, o.arr q1 n1 c1 = E := ⟨_, rfl⟩
  have HZ := Lib.hid (And.intro ((HS2.out.go k3).go kV) (And.intro (show V.heap[g0]? = some (.cells E 39 (0, 0)) by rw [← hE]; exact bV) (s1.keep kV)))
  have HE := Lib.hid hE
  have sE : E.size = 19 := by rw [← hE]; rfl
  have CS2 := Lib.hid (show ∀ u, Kept w u → Calls Tryz.prog 8 #[.agg F, .int .i64 me, .agg E, .agg X, .int .i64 now] u fun e w' => e = .returned (.tuple #[.agg Y, .agg R]) ∧ Kept u w' from fun u hu => by rw [← hE]; exact CS.out u q1 n1 c1 hu)
  simp only [hE]
  clear hV kV bV hg s1 k3 HS2 HS1 k1 k2 y5 d3 d4 e5b CS CM CB1 CB2 hE
  simp only [Act.put]
  go_cut [14, 15] (fun p1 p2 wx => ∃ gA gB : Nat, p1 = .pointer (some ⟨gA, 0, none⟩) ∧ p2 = .pointer (some ⟨gB, 0, none⟩) ∧ Bl w wx [(F, 24), (A, 31), (X, 33)] ∧ wx.heap[g0]? = some (.cells E 39 (0, 0)) ∧ Mc wx (.slice q1 n1 c1) K ∧ wx.heap[gB]? = some (.cells R 43 (0, 0)))
  case first =>
    have hST : Stab (fun u => Bl w u [(F, 24), (A, 31), (X, 33)] ∧ u.heap[g0]? = some (.cells E 39 (0, 0)) ∧ Mc u (.slice q1 n1 c1) K) ∧ ∀ u, (fun u => Bl w u [(F, 24), (A, 31), (X, 33)] ∧ u.heap[g0]? = some (.cells E 39 (0, 0)) ∧ Mc u (.slice q1 n1 c1) K) u → (fun u => Bl w u [(F, 24), (A, 31), (X, 33)] ∧ u.heap[g0]? = some (.cells E 39 (0, 0)) ∧ Mc u (.slice q1 n1 c1) K) u := ⟨(stab_and bl_stab (stab_and blk_stab mcs)), fun u h => ⟨h.1, h.2.1, h.2.2⟩⟩
    refine AvT.region (fun u => Bl w u [(F, 24), (A, 31), (X, 33)] ∧ u.heap[g0]? = some (.cells E 39 (0, 0)) ∧ Mc u (.slice q1 n1 c1) K) (fun u => Bl w u [(F, 24), (A, 31), (X, 33)] ∧ u.heap[g0]? = some (.cells E 39 (0, 0)) ∧ Mc u (.slice q1 n1 c1) K) (by kernel_rfl) (hST.1 _ _ HZ.out (Kept.refl _).drew) ?_
    refine AvT.take 0 (some 43) rfl rfl (by kernel_rfl) (by kernel_rfl) (by kernel_rfl) (fun _ _ _ h => h) hST (Au.yq_load 24 (.tmp 6) rfl _ rfl (by rfl) (fun u hu => load_cf (hu.1.blk 0 rfl) sF)) ?_
    simp only [Act.put, List.setIfInBounds_toArray, List.set_cons_zero, List.set_cons_succ]
    refine AvT.take 1 (some 44) (v := ?_) rfl rfl (by kernel_rfl) (by kernel_rfl) (by kernel_rfl) (fun _ _ _ h => h) hST (Au.yq_run (by rfl) (fun u hu => ?_)) ?_
    rotate_left
    · (clear hu; go_simp; try with_reducible rfl)
    simp only [Act.put, List.setIfInBounds_toArray, List.set_cons_zero, List.set_cons_succ]
    refine AvT.take 2 (some 45) rfl rfl (by kernel_rfl) (by kernel_rfl) (by kernel_rfl) (fun _ _ _ h => h) hST (Au.yq_load 39 (.tmp 13) rfl _ rfl (by rfl) (fun u hu => load_ow hu.2.1 sE)) ?_
    simp only [Act.put, List.setIfInBounds_toArray, List.set_cons_zero, List.set_cons_succ]
    refine AvT.take 3 (some 46) rfl rfl (by kernel_rfl) (by kernel_rfl) (by kernel_rfl) (fun _ _ _ h => h) hST (Au.yq_load 33 (.tmp 9) rfl _ rfl (by rfl) (fun u hu => load_rcl (hu.1.blk 2 rfl) sX)) ?_
    simp only [Act.put, List.setIfInBounds_toArray, List.set_cons_zero, List.set_cons_succ]
    refine AvT.take 4 (some 47) rfl rfl (by kernel_rfl) (by kernel_rfl) (by kernel_rfl) (fun _ _ _ h => h) hST (Au.yq_call 9 _ (by rfl) (fun u => by go_simp) (fun u hu => C1.out u)) ?_
    simp only [Act.put, List.setIfInBounds_toArray, List.set_cons_zero, List.set_cons_succ]
    refine AvT.take 5 (some 48) (v := ?_) rfl rfl (by kernel_rfl) (by kernel_rfl) (by kernel_rfl) (fun _ _ _ h => h) hST (Au.yq_run (by rfl) (fun u hu => ?_)) ?_
    rotate_left
    · (clear hu; go_simp; try with_reducible rfl)
    simp only [Act.put, List.setIfInBounds_toArray, List.set_cons_zero, List.set_cons_succ]
    refine AvT.take 6 (some 49) rfl rfl (by kernel_rfl) (by kernel_rfl) (by kernel_rfl) (fun _ _ _ h => h) hST (Au.yq_call 8 _ (by rfl) (fun u => by go_simp) (fun u hu => CS2.out u hu.1.kept)) ?_
    simp only [Act.put, List.setIfInBounds_toArray, List.set_cons_zero, List.set_cons_succ]
    refine AvT.take 7 (some 42) (v := ?_) rfl rfl (by kernel_rfl) (by kernel_rfl) (by kernel_rfl) (fun _ _ _ h => h) hST (Au.yq_run (by rfl) (fun u hu => ?_)) ?_
    rotate_left
    · (clear hu; go_simp; try with_reducible rfl)
    simp only [Act.put, List.setIfInBounds_toArray, List.set_cons_zero, List.set_cons_succ]
    refine AvT.take 8 (some 50) (v := ?_) rfl rfl (by kernel_rfl) (by kernel_rfl) (by kernel_rfl) (fun _ _ _ h => h) hST (Au.yq_run (by rfl) (fun u hu => ?_)) ?_
    rotate_left
    · (clear hu; go_simp; try with_reducible rfl)
    simp only [Act.put, List.setIfInBounds_toArray, List.set_cons_zero, List.set_cons_succ]
    refine AvT.take 9 (some 51) (v := ?_) rfl rfl (by kernel_rfl) (by kernel_rfl) (by kernel_rfl) (fun _ _ _ h => h) hST (Au.yq_run (by rfl) (fun u hu => ?_)) ?_
    rotate_left
    · (clear hu; go_simp; try with_reducible rfl)
    simp only [Act.put, List.setIfInBounds_toArray, List.set_cons_zero, List.set_cons_succ]
    refine AvT.fork 10 11 rfl rfl (by kernel_rfl) (fun v hv KK hK => ?_) (fun v hv KK hK => ?_)
    · rw [if_pos (by rfl)]
      go_simp
      have bA : w.heap.size + 3 ≤ v.heap.size := (hv.1).size
      have dA : ∀ j, (Value.slice q1 n1 c1).ownBlock = some j → j ≠ v.heap.size := fun j e => by have := (hv.2.2).lt e; omega
      have e0A : g0 ≠ v.heap.size := by have := blk_lt (hv.2.1); omega
      refine hK.out (fun u => Bl w u [(F, 24), (A, 31), (X, 33)] ∧ u.heap[g0]? = some (.cells E 39 (0, 0)) ∧ Mc u (.slice q1 n1 c1) K ∧ u.heap[v.heap.size]? = some (.cells zeroC 41 (0, 0))) _ _ ⟨(bl_stab _ _ (hv.1) (Kept.one _ _)), (blk_stab _ _ (hv.2.1) (Kept.one _ _)), (mcs _ _ (hv.2.2) (Kept.one _ _)), blk_new v _⟩ (stab_and bl_stab (stab_and blk_stab (stab_and mcs blk_stab))) (fun u h => ⟨h.1, h.2.1, h.2.2.1⟩) ?_
      obtain ⟨gA, hg⟩ : ∃ g, v.heap.size = g := ⟨_, rfl⟩
      rw [hg] at bA dA e0A  ⊢
      clear hK KK hv hg
      clear v hST
      have hST : Stab (fun u => Bl w u [(F, 24), (A, 31), (X, 33)] ∧ u.heap[g0]? = some (.cells E 39 (0, 0)) ∧ Mc u (.slice q1 n1 c1) K ∧ u.heap[gA]? = some (.cells zeroC 41 (0, 0))) ∧ ∀ u, (fun u => Bl w u [(F, 24), (A, 31), (X, 33)] ∧ u.heap[g0]? = some (.cells E 39 (0, 0)) ∧ Mc u (.slice q1 n1 c1) K ∧ u.heap[gA]? = some (.cells zeroC 41 (0, 0))) u → (fun u => Bl w u [(F, 24), (A, 31), (X, 33)] ∧ u.heap[g0]? = some (.cells E 39 (0, 0)) ∧ Mc u (.slice q1 n1 c1) K) u := ⟨(stab_and bl_stab (stab_and blk_stab (stab_and mcs blk_stab))), fun u h => ⟨h.1, h.2.1, h.2.2.1⟩⟩
      refine AvT.step 11 rfl (by kernel_rfl) (fun v hv KK hK => ?_)
      rw [if_pos (by rfl)]
      go_simp
      have bB : w.heap.size + 3 ≤ v.heap.size := (hv.1).size
      have dB : ∀ j, (Value.slice q1 n1 c1).ownBlock = some j → j ≠ v.heap.size := fun j e => by have := (hv.2.2.1).lt e; omega
      have e0B : g0 ≠ v.heap.size := by have := blk_lt (hv.2.1); omega
      have eAB : gA ≠ v.heap.size := by have := blk_lt (hv.2.2.2); omega
      refine hK.out (fun u => Bl w u [(F, 24), (A, 31), (X, 33)] ∧ u.heap[g0]? = some (.cells E 39 (0, 0)) ∧ Mc u (.slice q1 n1 c1) K ∧ u.heap[gA]? = some (.cells zeroC 41 (0, 0)) ∧ u.heap[v.heap.size]? = some (.cells zeroP 43 (0, 0))) _ _ ⟨(bl_stab _ _ (hv.1) (Kept.one _ _)), (blk_stab _ _ (hv.2.1) (Kept.one _ _)), (mcs _ _ (hv.2.2.1) (Kept.one _ _)), (blk_stab _ _ (hv.2.2.2) (Kept.one _ _)), blk_new v _⟩ (stab_and bl_stab (stab_and blk_stab (stab_and mcs (stab_and blk_stab blk_stab)))) (fun u h => ⟨h.1, h.2.1, h.2.2.1⟩) ?_
      obtain ⟨gB, hg⟩ : ∃ g, v.heap.size = g := ⟨_, rfl⟩
      rw [hg] at bB dB e0B eAB ⊢
      clear hK KK hv hg
      clear v hST
      have hST : Stab (fun u => Bl w u [(F, 24), (A, 31), (X, 33)] ∧ u.heap[g0]? = some (.cells E 39 (0, 0)) ∧ Mc u (.slice q1 n1 c1) K ∧ u.heap[gA]? = some (.cells zeroC 41 (0, 0)) ∧ u.heap[gB]? = some (.cells zeroP 43 (0, 0))) ∧ ∀ u, (fun u => Bl w u [(F, 24), (A, 31), (X, 33)] ∧ u.heap[g0]? = some (.cells E 39 (0, 0)) ∧ Mc u (.slice q1 n1 c1) K ∧ u.heap[gA]? = some (.cells zeroC 41 (0, 0)) ∧ u.heap[gB]? = some (.cells zeroP 43 (0, 0))) u → (fun u => Bl w u [(F, 24), (A, 31), (X, 33)] ∧ u.heap[g0]? = some (.cells E 39 (0, 0)) ∧ Mc u (.slice q1 n1 c1) K) u := ⟨(stab_and bl_stab (stab_and blk_stab (stab_and mcs (stab_and blk_stab blk_stab)))), fun u h => ⟨h.1, h.2.1, h.2.2.1⟩⟩
      refine AvT.step 12 rfl (by kernel_rfl) (fun v hv KK hK => ?_)
      rw [if_pos (by rfl)]
      refine wp_store_row 41 (.tmp 14) (.tmp 50) rfl gA Y rfl rfl 41 zeroC (hv.2.2.2.1) (by rw [sY]; exact info_cl) (by rw [sY]; rfl) oY ?_
      refine hK.out (fun u => Bl w u [(F, 24), (A, 31), (X, 33)] ∧ u.heap[g0]? = some (.cells E 39 (0, 0)) ∧ Mc u (.slice q1 n1 c1) K ∧ u.heap[gB]? = some (.cells zeroP 43 (0, 0)) ∧ u.heap[gA]? = some (.cells Y 41 (0, 0))) _ _ ⟨hv.1.far bA Y, far_rw hv.2.1 (by omega), hv.2.2.1.kept (fun j e => setRow_other _ _ _ _ (dA j e)), far_rw hv.2.2.2.2 (by omega), setRow_heap _ _ zeroC Y _ _ (hv.2.2.2.1)⟩ (stab_and bl_stab (stab_and blk_stab (stab_and mcs (stab_and blk_stab blk_stab)))) (fun u h => ⟨h.1, h.2.1, h.2.2.1⟩) ?_
      clear hK KK hv
      clear v hST
      have hST : Stab (fun u => Bl w u [(F, 24), (A, 31), (X, 33)] ∧ u.heap[g0]? = some (.cells E 39 (0, 0)) ∧ Mc u (.slice q1 n1 c1) K ∧ u.heap[gB]? = some (.cells zeroP 43 (0, 0)) ∧ u.heap[gA]? = some (.cells Y 41 (0, 0))) ∧ ∀ u, (fun u => Bl w u [(F, 24), (A, 31), (X, 33)] ∧ u.heap[g0]? = some (.cells E 39 (0, 0)) ∧ Mc u (.slice q1 n1 c1) K ∧ u.heap[gB]? = some (.cells zeroP 43 (0, 0)) ∧ u.heap[gA]? = some (.cells Y 41 (0, 0))) u → (fun u => Bl w u [(F, 24), (A, 31), (X, 33)] ∧ u.heap[g0]? = some (.cells E 39 (0, 0)) ∧ Mc u (.slice q1 n1 c1) K) u := ⟨(stab_and bl_stab (stab_and blk_stab (stab_and mcs (stab_and blk_stab blk_stab)))), fun u h => ⟨h.1, h.2.1, h.2.2.1⟩⟩
      refine AvT.step 13 rfl (by kernel_rfl) (fun v hv KK hK => ?_)
      rw [if_pos (by rfl)]
      refine wp_store_row 43 (.tmp 15) (.tmp 51) rfl gB R rfl rfl 43 zeroP (hv.2.2.2.1) (by rw [sR]; exact info_pk) (by rw [sR]; rfl) oR ?_
      refine hK.out (fun u => Bl w u [(F, 24), (A, 31), (X, 33)] ∧ u.heap[g0]? = some (.cells E 39 (0, 0)) ∧ Mc u (.slice q1 n1 c1) K ∧ u.heap[gA]? = some (.cells Y 41 (0, 0)) ∧ u.heap[gB]? = some (.cells R 43 (0, 0))) _ _ ⟨hv.1.far bB R, far_rw hv.2.1 (by omega), hv.2.2.1.kept (fun j e => setRow_other _ _ _ _ (dB j e)), far_rw hv.2.2.2.2 (by omega), setRow_heap _ _ zeroP R _ _ (hv.2.2.2.1)⟩ (stab_and bl_stab (stab_and blk_stab (stab_and mcs (stab_and blk_stab blk_stab)))) (fun u h => ⟨h.1, h.2.1, h.2.2.1⟩) ?_
      clear hK KK hv
      clear v hST
      have hST : Stab (fun u => Bl w u [(F, 24), (A, 31), (X, 33)] ∧ u.heap[g0]? = some (.cells E 39 (0, 0)) ∧ Mc u (.slice q1 n1 c1) K ∧ u.heap[gA]? = some (.cells Y 41 (0, 0)) ∧ u.heap[gB]? = some (.cells R 43 (0, 0))) ∧ ∀ u, (fun u => Bl w u [(F, 24), (A, 31), (X, 33)] ∧ u.heap[g0]? = some (.cells E 39 (0, 0)) ∧ Mc u (.slice q1 n1 c1) K ∧ u.heap[gA]? = some (.cells Y 41 (0, 0)) ∧ u.heap[gB]? = some (.cells R 43 (0, 0))) u → (fun u => Bl w u [(F, 24), (A, 31), (X, 33)] ∧ u.heap[g0]? = some (.cells E 39 (0, 0)) ∧ Mc u (.slice q1 n1 c1) K) u := ⟨(stab_and bl_stab (stab_and blk_stab (stab_and mcs (stab_and blk_stab blk_stab)))), fun u h => ⟨h.1, h.2.1, h.2.2.1⟩⟩
      refine AvT.done (by kernel_rfl) (fun V hV => ?_)
      clear hST
      go_wp2_with fail
      go_meet
      exact ⟨gA, gB, rfl, rfl, hV.1, hV.2.1, hV.2.2.1, hV.2.2.2.2⟩
    · rw [if_pos (by rfl)]
      go_simp
      have bB : w.heap.size + 3 ≤ v.heap.size := (hv.1).size
      have dB : ∀ j, (Value.slice q1 n1 c1).ownBlock = some j → j ≠ v.heap.size := fun j e => by have := (hv.2.2).lt e; omega
      have e0B : g0 ≠ v.heap.size := by have := blk_lt (hv.2.1); omega
      refine hK.out (fun u => Bl w u [(F, 24), (A, 31), (X, 33)] ∧ u.heap[g0]? = some (.cells E 39 (0, 0)) ∧ Mc u (.slice q1 n1 c1) K ∧ u.heap[v.heap.size]? = some (.cells zeroP 43 (0, 0))) _ _ ⟨(bl_stab _ _ (hv.1) (Kept.one _ _)), (blk_stab _ _ (hv.2.1) (Kept.one _ _)), (mcs _ _ (hv.2.2) (Kept.one _ _)), blk_new v _⟩ (stab_and bl_stab (stab_and blk_stab (stab_and mcs blk_stab))) (fun u h => ⟨h.1, h.2.1, h.2.2.1⟩) ?_
      obtain ⟨gB, hg⟩ : ∃ g, v.heap.size = g := ⟨_, rfl⟩
      rw [hg] at bB dB e0B  ⊢
      clear hK KK hv hg
      clear v hST
      have hST : Stab (fun u => Bl w u [(F, 24), (A, 31), (X, 33)] ∧ u.heap[g0]? = some (.cells E 39 (0, 0)) ∧ Mc u (.slice q1 n1 c1) K ∧ u.heap[gB]? = some (.cells zeroP 43 (0, 0))) ∧ ∀ u, (fun u => Bl w u [(F, 24), (A, 31), (X, 33)] ∧ u.heap[g0]? = some (.cells E 39 (0, 0)) ∧ Mc u (.slice q1 n1 c1) K ∧ u.heap[gB]? = some (.cells zeroP 43 (0, 0))) u → (fun u => Bl w u [(F, 24), (A, 31), (X, 33)] ∧ u.heap[g0]? = some (.cells E 39 (0, 0)) ∧ Mc u (.slice q1 n1 c1) K) u := ⟨(stab_and bl_stab (stab_and blk_stab (stab_and mcs blk_stab))), fun u h => ⟨h.1, h.2.1, h.2.2.1⟩⟩
      refine AvT.step 10 rfl (by kernel_rfl) (fun v hv KK hK => ?_)
      rw [if_pos (by rfl)]
      go_simp
      have bA : w.heap.size + 3 ≤ v.heap.size := (hv.1).size
      have dA : ∀ j, (Value.slice q1 n1 c1).ownBlock = some j → j ≠ v.heap.size := fun j e => by have := (hv.2.2.1).lt e; omega
      have e0A : g0 ≠ v.heap.size := by have := blk_lt (hv.2.1); omega
      have eBA : gB ≠ v.heap.size := by have := blk_lt (hv.2.2.2); omega
      refine hK.out (fun u => Bl w u [(F, 24), (A, 31), (X, 33)] ∧ u.heap[g0]? = some (.cells E 39 (0, 0)) ∧ Mc u (.slice q1 n1 c1) K ∧ u.heap[gB]? = some (.cells zeroP 43 (0, 0)) ∧ u.heap[v.heap.size]? = some (.cells zeroC 41 (0, 0))) _ _ ⟨(bl_stab _ _ (hv.1) (Kept.one _ _)), (blk_stab _ _ (hv.2.1) (Kept.one _ _)), (mcs _ _ (hv.2.2.1) (Kept.one _ _)), (blk_stab _ _ (hv.2.2.2) (Kept.one _ _)), blk_new v _⟩ (stab_and bl_stab (stab_and blk_stab (stab_and mcs (stab_and blk_stab blk_stab)))) (fun u h => ⟨h.1, h.2.1, h.2.2.1⟩) ?_
      obtain ⟨gA, hg⟩ : ∃ g, v.heap.size = g := ⟨_, rfl⟩
      rw [hg] at bA dA e0A eBA ⊢
      clear hK KK hv hg
      clear v hST
      have hST : Stab (fun u => Bl w u [(F, 24), (A, 31), (X, 33)] ∧ u.heap[g0]? = some (.cells E 39 (0, 0)) ∧ Mc u (.slice q1 n1 c1) K ∧ u.heap[gB]? = some (.cells zeroP 43 (0, 0)) ∧ u.heap[gA]? = some (.cells zeroC 41 (0, 0))) ∧ ∀ u, (fun u => Bl w u [(F, 24), (A, 31), (X, 33)] ∧ u.heap[g0]? = some (.cells E 39 (0, 0)) ∧ Mc u (.slice q1 n1 c1) K ∧ u.heap[gB]? = some (.cells zeroP 43 (0, 0)) ∧ u.heap[gA]? = some (.cells zeroC 41 (0, 0))) u → (fun u => Bl w u [(F, 24), (A, 31), (X, 33)] ∧ u.heap[g0]? = some (.cells E 39 (0, 0)) ∧ Mc u (.slice q1 n1 c1) K) u := ⟨(stab_and bl_stab (stab_and blk_stab (stab_and mcs (stab_and blk_stab blk_stab)))), fun u h => ⟨h.1, h.2.1, h.2.2.1⟩⟩
      refine AvT.step 12 rfl (by kernel_rfl) (fun v hv KK hK => ?_)
      rw [if_pos (by rfl)]
      refine wp_store_row 41 (.tmp 14) (.tmp 50) rfl gA Y rfl rfl 41 zeroC (hv.2.2.2.2) (by rw [sY]; exact info_cl) (by rw [sY]; rfl) oY ?_
      refine hK.out (fun u => Bl w u [(F, 24), (A, 31), (X, 33)] ∧ u.heap[g0]? = some (.cells E 39 (0, 0)) ∧ Mc u (.slice q1 n1 c1) K ∧ u.heap[gB]? = some (.cells zeroP 43 (0, 0)) ∧ u.heap[gA]? = some (.cells Y 41 (0, 0))) _ _ ⟨hv.1.far bA Y, far_rw hv.2.1 (by omega), hv.2.2.1.kept (fun j e => setRow_other _ _ _ _ (dA j e)), far_rw hv.2.2.2.1 (by omega), setRow_heap _ _ zeroC Y _ _ (hv.2.2.2.2)⟩ (stab_and bl_stab (stab_and blk_stab (stab_and mcs (stab_and blk_stab blk_stab)))) (fun u h => ⟨h.1, h.2.1, h.2.2.1⟩) ?_
      clear hK KK hv
      clear v hST
      have hST : Stab (fun u => Bl w u [(F, 24), (A, 31), (X, 33)] ∧ u.heap[g0]? = some (.cells E 39 (0, 0)) ∧ Mc u (.slice q1 n1 c1) K ∧ u.heap[gB]? = some (.cells zeroP 43 (0, 0)) ∧ u.heap[gA]? = some (.cells Y 41 (0, 0))) ∧ ∀ u, (fun u => Bl w u [(F, 24), (A, 31), (X, 33)] ∧ u.heap[g0]? = some (.cells E 39 (0, 0)) ∧ Mc u (.slice q1 n1 c1) K ∧ u.heap[gB]? = some (.cells zeroP 43 (0, 0)) ∧ u.heap[gA]? = some (.cells Y 41 (0, 0))) u → (fun u => Bl w u [(F, 24), (A, 31), (X, 33)] ∧ u.heap[g0]? = some (.cells E 39 (0, 0)) ∧ Mc u (.slice q1 n1 c1) K) u := ⟨(stab_and bl_stab (stab_and blk_stab (stab_and mcs (stab_and blk_stab blk_stab)))), fun u h => ⟨h.1, h.2.1, h.2.2.1⟩⟩
      refine AvT.step 13 rfl (by kernel_rfl) (fun v hv KK hK => ?_)
      rw [if_pos (by rfl)]
      refine wp_store_row 43 (.tmp 15) (.tmp 51) rfl gB R rfl rfl 43 zeroP (hv.2.2.2.1) (by rw [sR]; exact info_pk) (by rw [sR]; rfl) oR ?_
      refine hK.out (fun u => Bl w u [(F, 24), (A, 31), (X, 33)] ∧ u.heap[g0]? = some (.cells E 39 (0, 0)) ∧ Mc u (.slice q1 n1 c1) K ∧ u.heap[gA]? = some (.cells Y 41 (0, 0)) ∧ u.heap[gB]? = some (.cells R 43 (0, 0))) _ _ ⟨hv.1.far bB R, far_rw hv.2.1 (by omega), hv.2.2.1.kept (fun j e => setRow_other _ _ _ _ (dB j e)), far_rw hv.2.2.2.2 (by omega), setRow_heap _ _ zeroP R _ _ (hv.2.2.2.1)⟩ (stab_and bl_stab (stab_and blk_stab (stab_and mcs (stab_and blk_stab blk_stab)))) (fun u h => ⟨h.1, h.2.1, h.2.2.1⟩) ?_
      clear hK KK hv
      clear v hST
      have hST : Stab (fun u => Bl w u [(F, 24), (A, 31), (X, 33)] ∧ u.heap[g0]? = some (.cells E 39 (0, 0)) ∧ Mc u (.slice q1 n1 c1) K ∧ u.heap[gA]? = some (.cells Y 41 (0, 0)) ∧ u.heap[gB]? = some (.cells R 43 (0, 0))) ∧ ∀ u, (fun u => Bl w u [(F, 24), (A, 31), (X, 33)] ∧ u.heap[g0]? = some (.cells E 39 (0, 0)) ∧ Mc u (.slice q1 n1 c1) K ∧ u.heap[gA]? = some (.cells Y 41 (0, 0)) ∧ u.heap[gB]? = some (.cells R 43 (0, 0))) u → (fun u => Bl w u [(F, 24), (A, 31), (X, 33)] ∧ u.heap[g0]? = some (.cells E 39 (0, 0)) ∧ Mc u (.slice q1 n1 c1) K) u := ⟨(stab_and bl_stab (stab_and blk_stab (stab_and mcs (stab_and blk_stab blk_stab)))), fun u h => ⟨h.1, h.2.1, h.2.2.1⟩⟩
      refine AvT.done (by kernel_rfl) (fun V hV => ?_)
      clear hST
      go_wp2_with fail
      go_meet
      exact ⟨gA, gB, rfl, rfl, hV.1, hV.2.1, hV.2.2.1, hV.2.2.2.2⟩
  case rest =>
    obtain ⟨gA, gB, rfl, rfl, hb, hg0, hmc, hgB⟩ := hcut
    have HB := Lib.hid (And.intro hb (And.intro hg0 (And.intro hmc hgB)))
    have k0 : wc.cell? ⟨gB, 0, none⟩ = some (.int .i64 p.kind) := (blk_cell hgB 0).trans r0
    have hlK : K.length ≤ 30 := by rw [HN.out]; exact hl30
    have L2l := wait_len (wtP 3 me o) K
    have L3l := wait_len (wtP 4 me o) K
    have OK2 := Lib.hid (ok_wait (f := wtP 3 me o) (K := K) (fun y hy => ok_onw3 HM.out.1.1 (in_mem HM.out.1.2.2.2.2.2.2 hy).1 (in_mem HM.out.1.2.2.2.2.2.2 hy).2))
    have OK3 := Lib.hid (ok_wait (f := wtP 4 me o) (K := K) (fun y hy => ok_wt4 HM.out.1.1 (in_mem HM.out.1.2.2.2.2.2.2 hy).1 (in_mem HM.out.1.2.2.2.2.2.2 hy).2))
    have W1 := Lib.hid (fun (u : World) (h : Mc u (.slice q1 n1 c1) K) => (by have := cancels_any me o (mc_cls h (by omega)) (by omega); rw [HE.out] at this; exact this : Calls Tryz.prog 10 #[.int .i64 me, .agg E] u fun e w' => ∃ v, e = .returned v ∧ Mp w' v (waitL (wtP 3 me o) K) ∧ (∀ g, v.ownBlock = some g → u.heap.size ≤ g) ∧ Kept u w'))
    have W2 := Lib.hid (fun (u : World) (h : Mc u (.slice q1 n1 c1) K) => (by have := keeps_any me o (mc_cls h (by omega)) (by omega); rw [HE.out] at this; exact this : Calls Tryz.prog 11 #[.int .i64 me, .agg E] u fun e w' => ∃ v, e = .returned v ∧ Mp w' v (waitL (wtP 4 me o) K) ∧ (∀ g, v.ownBlock = some g → u.heap.size ≤ g) ∧ Kept u w'))
    obtain ⟨M2, hM2⟩ : ∃ M, waitL (wtP 3 me o) K = M := ⟨_, rfl⟩
    obtain ⟨M3, hM3⟩ : ∃ M, waitL (wtP 4 me o) K = M := ⟨_, rfl⟩
    rw [hM2] at OK2 W1 L2l
    rw [hM3] at OK3 W2 L3l
    clear hb hg0 hmc hgB HZ hM2 hM3 CS2 C1
    · rw [hk1] at k0
      have l15 := load_pk HB.out.2.2.2 sR
      go_upto_region 8 with (first
        | (refine load_l 43 (.tmp 15) rfl _ rfl rfl _ l15 ?_)
        | (at_builtin; refine wpList_append_onev enc_pk wc rfl (.tmp 55) (.tmp 57) rfl (.slice none 0 0) [] p R (by rw [← HR.out]; rfl) rfl rfl (rowv_nil _ _ _ _) (by decide) ?_; intro v16 wa r4 g4 b4))
      have HA := Lib.hid (show Fr (fun j => wc.heap.size ≤ j) wc wa ∧ Mp wa v16 [p] ∧ (∀ j, v16.ownBlock = some j → wc.heap.size ≤ j) from by
        have h := acc_new (Kept.one wc _) g4 b4
        exact ⟨h.1, r4, h.2⟩)
      have OK1 := Lib.hid (show ∀ r ∈ [p], Ok r from fun r h => by cases h with | head => exact hokp | tail _ h => cases h)
      have L1l : [p].length ≤ 1 := Nat.le_refl _
      clear r4 g4 b4 k0 hk1 hokp l15
      obtain ⟨M1, hM1⟩ : ∃ M : List Pk, [p] = M := ⟨_, rfl⟩
      rw [hM1] at HA OK1 L1l
      clear hM1
      go_upto_region 9 with (first
        | (refine load_w 39 (.tmp 13) rfl g0 rfl rfl E 19 (fr_blk HA.out.1 HB.out.2.1) Tryz.underlying39 sE info_ow ?_)
        | (go_at_call 10; refine (W1.out _ (fr_mc HA.out.1 HB.out.2.2.1)).mono ?_; rintro e wb ⟨v2, rfl, s2, -, k2⟩; have r1 := HA.out.2.1.keep k2)
        | (at_builtin; refine wpList_append_rowsv enc_pk wb rfl (.tmp 59) (.tmp 62) rfl v16 v2 M1 M2 rfl rfl r1 s2 (by omega) ?_; intro v17 wd r5 g5 b5))
      have HD := Lib.hid (show Fr (fun j => wc.heap.size ≤ j) wc wd ∧ Mp wd v17 (M1 ++ M2) ∧ (∀ j, v17.ownBlock = some j → wc.heap.size ≤ j) from by
        have h := acc_go HA.out.1 HA.out.2.2 k2 g5 b5
        exact ⟨h.1, r5, h.2⟩)
      clear r1 s2 k2 r5 g5 b5
      go_upto_region 10 with (first
        | (refine load_w 39 (.tmp 13) rfl g0 rfl rfl E 19 (fr_blk HD.out.1 HB.out.2.1) Tryz.underlying39 sE info_ow ?_)
        | (go_at_call 11; refine (W2.out _ (fr_mc HD.out.1 HB.out.2.2.1)).mono ?_; rintro e we ⟨v3, rfl, s3, -, k3⟩; have r1 := HD.out.2.1.keep k3)
        | (at_builtin; refine wpList_append_rowsv enc_pk we rfl (.tmp 64) (.tmp 67) rfl v17 v3 (M1 ++ M2) M3 rfl rfl r1 s3 (by rw [List.length_append]; omega) ?_; intro v18 wf r6 g6 b6))
      have HF := Lib.hid (show Fr (fun j => wc.heap.size ≤ j) wc wf ∧ Mp wf v18 (M1 ++ M2 ++ M3) ∧ (∀ j, v18.ownBlock = some j → wc.heap.size ≤ j) from by
        have h := acc_go HD.out.1 HD.out.2.2 k3 g6 b6
        exact ⟨h.1, r6, h.2⟩)
      clear r1 s3 k3 r6 g6 b6 HA HD
      have OK4 := Lib.hid (ok_app (ok_app OK1.out OK2.out) OK3.out)
      have L4l : (M1 ++ M2 ++ M3).length ≤ 100 := by rw [List.length_append, List.length_append]; omega
      obtain ⟨M4, hM4⟩ : ∃ M, M1 ++ M2 ++ M3 = M := ⟨_, rfl⟩
      rw [hM4] at HF OK4 L4l
      clear hM4 OK1 OK2 OK3 W1 W2 L1l L2l L3l
      have hbf := fr_bl HF.out.1 HB.out.1
      have y3 : wf.cell? ⟨w.heap.size + 1, 3, none⟩ = some (.int .i64 o.ka) := (hbf.cell 1 3 rfl).trans c3
      have HBF := Lib.hid hbf
      clear hbf
      · go_upto_region 11 with fail
        clear y3
        have R1 := Lib.hid (show ∀ u, Calls Tryz.prog 12 #[.int .i64 me, .agg E, .int .i64 x.att, .int .i64 vv] u fun e w' => e = .returned (.agg #[.int .i64 2, .int .i64 me, .int .i64 o.fr, .int .i64 o.kn, .int .i64 o.ki, .int .i64 o.ks, .int .i64 o.ka, .int .i64 0, .int .i64 0, .string ⟨#[]⟩, .int .i64 0, .int .i64 0, .int .i64 0, .int .i64 0, .int .i64 0, .int .i64 0, .int .i64 0, .int .i64 0, .int .i64 0, .int .i64 x.att, .int .i64 vv, .bool false, .int .i64 0]) ∧ Kept u w' from fun u => by rw [← HE.out]; exact reply_any me o x.att vv q1 n1 c1 u)
        have R2 := Lib.hid (show ∀ u, Calls Tryz.prog 13 #[.int .i64 me, .agg E] u fun e w' => e = .returned (.agg #[.int .i64 2, .int .i64 me, .int .i64 o.fr, .int .i64 o.kn, .int .i64 o.ki, .int .i64 o.ks, .int .i64 o.ka, .int .i64 0, .int .i64 0, .string ⟨#[]⟩, .int .i64 0, .int .i64 0, .int .i64 0, .int .i64 0, .int .i64 0, .int .i64 0, .int .i64 0, .int .i64 0, .int .i64 0, .int .i64 0, .int .i64 0, .bool true, .int .i64 0]) ∧ Kept u w' from fun u => by rw [← HE.out]; exact more_any me o q1 n1 c1 u)
        have R3 := Lib.hid (show ∀ u, Calls Tryz.prog 14 #[.int .i64 me, .agg E, .int .i64 (x.att - 1)] u fun e w' => e = .returned (.agg #[.int .i64 5, .int .i64 me, .int .i64 o.fr, .int .i64 o.kn, .int .i64 o.ki, .int .i64 o.ks, .int .i64 o.ka, .int .i64 0, .int .i64 0, .string ⟨#[]⟩, .int .i64 0, .int .i64 0, .int .i64 0, .int .i64 0, .int .i64 0, .int .i64 0, .int .i64 0, .int .i64 0, .int .i64 0, .int .i64 0, .int .i64 0, .bool false, .int .i64 (x.att - 1)]) ∧ Kept u w' from fun u => by rw [← HE.out]; exact refuse_any me o (x.att - 1) q1 n1 c1 u)
        have hws : wrap64 (x.att - 1) = x.att - 1 := IntWalk.wrap64_in _ (by have := HM.out.2.2.2.1; omega)
        have OK5 := Lib.hid (ok_app OK4.out (M := [rpl me o x.att vv, mre me o, rfs me o (x.att - 1)]) (fun r h => by
          have hm := HM.out
          rcases List.mem_cons.1 h with rfl | h
          · exact ok_rpl hm.1.1 hm.1.2.2.2.1 hm.1.2.1 (by omega) (by have := hm.2.2.2.1; omega) (by omega)
          rcases List.mem_cons.1 h with rfl | h
          · exact ok_mre hm.1.1 hm.1.2.2.2.1 hm.1.2.1 (by omega)
          rcases List.mem_cons.1 h with rfl | h
          · exact ok_rfs hm.1.1 hm.1.2.2.2.1 hm.1.2.1 (by omega) (by have := hm.2.2.2.1; omega)
          cases h))
        have L5l : (M4 ++ [rpl me o x.att vv, mre me o, rfs me o (x.att - 1)]).length ≤ 103 := by rw [List.length_append]; simp only [List.length_cons, List.length_nil]; omega
        obtain ⟨M5, hM5⟩ : ∃ M, M4 ++ [rpl me o x.att vv, mre me o, rfs me o (x.att - 1)] = M := ⟨_, rfl⟩
        rw [hM5] at OK5 L5l
        have hST : Stab (fun u => Fr (fun j => wc.heap.size ≤ j) wc u ∧ Mp u v18 M4) ∧ ∀ u, (fun u => Fr (fun j => wc.heap.size ≤ j) wc u ∧ Mp u v18 M4) u → (fun u => Fr (fun j => wc.heap.size ≤ j) wc u) u := ⟨(stab_and fr_stab mps), fun u h => h.1⟩
        refine AvT.region (fun u => Fr (fun j => wc.heap.size ≤ j) wc u) (fun u => Fr (fun j => wc.heap.size ≤ j) wc u ∧ Mp u v18 M4) (by kernel_rfl) (hST.1 _ _ ⟨HF.out.1, HF.out.2.1⟩ (Kept.refl _).drew) ?_
        refine AvT.take 0 (some 73) (v := ?_) rfl rfl (by kernel_rfl) (by kernel_rfl) (by kernel_rfl) (fun _ _ _ h => h) hST (Au.yq_run (by rfl) (fun u hu => ?_)) ?_
        rotate_left
        · (clear hu; go_simp; try with_reducible rfl)
        simp only [Act.put, List.setIfInBounds_toArray, List.set_cons_zero, List.set_cons_succ]
        refine AvT.take 1 (some 74) (v := ?_) rfl rfl (by kernel_rfl) (by kernel_rfl) (by kernel_rfl) (fun _ _ _ h => h) hST (Au.yq_run (by rfl) (fun u hu => ?_)) ?_
        rotate_left
        · (clear hu; go_simp; try with_reducible rfl)
        simp only [Act.put, List.setIfInBounds_toArray, List.set_cons_zero, List.set_cons_succ]
        refine AvT.take 2 (some 75) rfl rfl (by kernel_rfl) (by kernel_rfl) (by kernel_rfl) (fun _ _ _ h => h) hST (Au.yq_load 39 (.tmp 13) rfl _ rfl (by rfl) (fun u hu => load_ow (fr_blk hu HB.out.2.1) sE)) ?_
        simp only [Act.put, List.setIfInBounds_toArray, List.set_cons_zero, List.set_cons_succ]
        refine AvT.take 3 (some 76) (v := ?_) rfl rfl (by kernel_rfl) (by kernel_rfl) (by kernel_rfl) (fun _ _ _ h => h) hST (Au.yq_run (by rfl) (fun u hu => ?_)) ?_
        rotate_left
        · (clear hu; go_simp; try with_reducible rfl)
        simp only [Act.put, List.setIfInBounds_toArray, List.set_cons_zero, List.set_cons_succ]
        refine AvT.take 4 (some 77) rfl rfl (by kernel_rfl) (by kernel_rfl) (by kernel_rfl) (fun _ _ _ h => h) hST (Au.yq_load 3 (.tmp 76) rfl _ rfl (by rfl) (fun u hu => run_loadi (((fr_bl hu HB.out.1).cell 2 5 rfl).trans x5))) ?_
        simp only [Act.put, List.setIfInBounds_toArray, List.set_cons_zero, List.set_cons_succ]
        refine AvT.take 5 (some 78) (v := ?_) rfl rfl (by kernel_rfl) (by kernel_rfl) (by kernel_rfl) (fun _ _ _ h => h) hST (Au.yq_run (by rfl) (fun u hu => ?_)) ?_
        rotate_left
        · (clear hu; go_simp; try with_reducible rfl)
        simp only [Act.put, List.setIfInBounds_toArray, List.set_cons_zero, List.set_cons_succ]
        refine AvT.take 6 (some 79) rfl rfl (by kernel_rfl) (by kernel_rfl) (by kernel_rfl) (fun _ _ _ h => h) hST (Au.yq_call 12 _ (by rfl) (fun u => by go_simp) (fun u hu => R1.out u)) ?_
        simp only [Act.put, List.setIfInBounds_toArray, List.set_cons_zero, List.set_cons_succ]
        refine AvT.take 7 (some 80) (v := ?_) rfl rfl (by kernel_rfl) (by kernel_rfl) (by kernel_rfl) (fun _ _ _ h => h) hST (Au.yq_run (by rfl) (fun u hu => ?_)) ?_
        rotate_left
        · (clear hu; go_simp; try with_reducible rfl)
        simp only [Act.put, List.setIfInBounds_toArray, List.set_cons_zero, List.set_cons_succ]
        refine AvT.take 8 (some 81) rfl rfl (by kernel_rfl) (by kernel_rfl) (by kernel_rfl) (fun _ _ _ h => h) hST (Au.yq_load 39 (.tmp 13) rfl _ rfl (by rfl) (fun u hu => load_ow (fr_blk hu HB.out.2.1) sE)) ?_
        simp only [Act.put, List.setIfInBounds_toArray, List.set_cons_zero, List.set_cons_succ]
        refine AvT.take 9 (some 82) rfl rfl (by kernel_rfl) (by kernel_rfl) (by kernel_rfl) (fun _ _ _ h => h) hST (Au.yq_call 13 _ (by rfl) (fun u => by go_simp) (fun u hu => R2.out u)) ?_
        simp only [Act.put, List.setIfInBounds_toArray, List.set_cons_zero, List.set_cons_succ]
        refine AvT.take 10 (some 83) (v := ?_) rfl rfl (by kernel_rfl) (by kernel_rfl) (by kernel_rfl) (fun _ _ _ h => h) hST (Au.yq_run (by rfl) (fun u hu => ?_)) ?_
        rotate_left
        · (clear hu; go_simp; try with_reducible rfl)
        simp only [Act.put, List.setIfInBounds_toArray, List.set_cons_zero, List.set_cons_succ]
        refine AvT.take 11 (some 84) rfl rfl (by kernel_rfl) (by kernel_rfl) (by kernel_rfl) (fun _ _ _ h => h) hST (Au.yq_load 39 (.tmp 13) rfl _ rfl (by rfl) (fun u hu => load_ow (fr_blk hu HB.out.2.1) sE)) ?_
        simp only [Act.put, List.setIfInBounds_toArray, List.set_cons_zero, List.set_cons_succ]
        refine AvT.take 12 (some 85) (v := ?_) rfl rfl (by kernel_rfl) (by kernel_rfl) (by kernel_rfl) (fun _ _ _ h => h) hST (Au.yq_run (by rfl) (fun u hu => ?_)) ?_
        rotate_left
        · (clear hu; go_simp; try with_reducible rfl)
        simp only [Act.put, List.setIfInBounds_toArray, List.set_cons_zero, List.set_cons_succ]
        refine AvT.take 13 (some 86) rfl rfl (by kernel_rfl) (by kernel_rfl) (by kernel_rfl) (fun _ _ _ h => h) hST (Au.yq_load 3 (.tmp 85) rfl _ rfl (by rfl) (fun u hu => run_loadi (((fr_bl hu HB.out.1).cell 2 5 rfl).trans x5))) ?_
        simp only [Act.put, List.setIfInBounds_toArray, List.set_cons_zero, List.set_cons_succ]
        refine AvT.take 14 (some 87) (v := .int .i64 (x.att - 1)) rfl rfl (by kernel_rfl) (by kernel_rfl) (by kernel_rfl) (fun _ _ _ h => h) hST (Au.yq_run (by rfl) (fun u hu => ?_)) ?_
        · (clear hu; go_simp; (try simp only [IntWalk.i64_left]); (try exact hws))
        simp only [Act.put, List.setIfInBounds_toArray, List.set_cons_zero, List.set_cons_succ]
        refine AvT.take 15 (some 88) rfl rfl (by kernel_rfl) (by kernel_rfl) (by kernel_rfl) (fun _ _ _ h => h) hST (Au.yq_call 14 _ (by rfl) (fun u => by go_simp) (fun u hu => R3.out u)) ?_
        simp only [Act.put, List.setIfInBounds_toArray, List.set_cons_zero, List.set_cons_succ]
        refine AvT.step 16 rfl (by kernel_rfl) (fun v hv KK hK => ?_)
        rw [if_pos (by rfl)]
        go_simp
        obtain ⟨Z, hZ⟩ : ∃ Z, (fl encP [rpl me o x.att vv, mre me o, rfs me o (x.att - 1)]).toArray = Z := ⟨_, rfl⟩
        rw [show (#[.int .i64 2, .int .i64 me, .int .i64 o.fr, .int .i64 o.kn, .int .i64 o.ki, .int .i64 o.ks, .int .i64 o.ka, .int .i64 0, .int .i64 0, .string ⟨#[]⟩, .int .i64 0, .int .i64 0, .int .i64 0, .int .i64 0, .int .i64 0, .int .i64 0, .int .i64 0, .int .i64 0, .int .i64 0, .int .i64 x.att, .int .i64 vv, .bool false, .int .i64 0, .int .i64 2, .int .i64 me, .int .i64 o.fr, .int .i64 o.kn, .int .i64 o.ki, .int .i64 o.ks, .int .i64 o.ka, .int .i64 0, .int .i64 0, .string ⟨#[]⟩, .int .i64 0, .int .i64 0, .int .i64 0, .int .i64 0, .int .i64 0, .int .i64 0, .int .i64 0, .int .i64 0, .int .i64 0, .int .i64 0, .int .i64 0, .bool true, .int .i64 0, .int .i64 5, .int .i64 me, .int .i64 o.fr, .int .i64 o.kn, .int .i64 o.ki, .int .i64 o.ks, .int .i64 o.ka, .int .i64 0, .int .i64 0, .string ⟨#[]⟩, .int .i64 0, .int .i64 0, .int .i64 0, .int .i64 0, .int .i64 0, .int .i64 0, .int .i64 0, .int .i64 0, .int .i64 0, .int .i64 0, .int .i64 0, .bool false, .int .i64 (x.att - 1)] : Array Value) = Z from hZ]
        refine hK.out (fun u => (Fr (fun j => wc.heap.size ≤ j) wc u ∧ Mp u v18 M4) ∧ u.heap[v.heap.size]? = some (.cells Z 43 (0, 0))) _ _ ⟨hST.1 _ _ hv (Kept.one _ _), blk_new v _⟩ (stab_and hST.1 (fun u u' h k => kept_at k h)) (fun u hu => hu.1.1) ?_
        clear hK KK
        refine AvT.step_list 17 rfl (by kernel_rfl) (fun w2 hw2 K2 hK2 => ?_)
        refine wpList_append_rowv enc_pk w2 rfl _ _ rfl v18 (.slice (some ⟨v.heap.size, 0, none⟩) 3 3) M4 [rpl me o x.att vv, mre me o, rfs me o (x.att - 1)] rfl rfl hw2.1.2 (src_of rfl hZ hw2.2) (by simp only [List.length_cons, List.length_nil]; omega) ?_
        intro v19 w4 r4 g4 b4
        rw [hM5] at r4
        have h4 := acc_go hw2.1.1 HF.out.2.2 (Kept.refl _) g4 b4
        refine wpList_nil (hK2.out (fun u => Fr (fun j => wc.heap.size ≤ j) wc u ∧ Mp u v19 M5) _ _ ⟨h4.1, r4⟩ (stab_and fr_stab mps) (fun u h => h.1) ?_)
        clear hK2 K2 hw2 h4 r4 g4 b4 hST hZ hv
        have hST : Stab (fun u => Fr (fun j => wc.heap.size ≤ j) wc u ∧ Mp u v19 M5) ∧ ∀ u, (fun u => Fr (fun j => wc.heap.size ≤ j) wc u ∧ Mp u v19 M5) u → (fun u => Fr (fun j => wc.heap.size ≤ j) wc u) u := ⟨(stab_and fr_stab mps), fun u h => h.1⟩
        simp only [Act.put, List.setIfInBounds_toArray, List.set_cons_zero, List.set_cons_succ]
        refine AvT.take 18 (some 16) (v := ?_) rfl rfl (by kernel_rfl) (by kernel_rfl) (by kernel_rfl) (fun _ _ _ h => h) hST (Au.yq_run (by rfl) (fun u hu => ?_)) ?_
        rotate_left
        · (clear hu; go_simp; try with_reducible rfl)
        simp only [Act.put, List.setIfInBounds_toArray, List.set_cons_zero, List.set_cons_succ]
        refine AvT.done (by kernel_rfl) (fun wg hV => ?_)
        have HG := Lib.hid (And.intro (fr_bl hV.1 HB.out.1) hV.2)
        clear hV hST
        have CBK := Lib.hid (show Calls Tryz.prog 15 #[v19] wg fun e w' => e = .returned (.bool true) ∧ Kept wg w' from mback_any (mp_ls HG.out.2 (by omega)) (by omega) OK5.out (HT.out.2.kept HG.out.1.kept))
        go_wp2_with (first
          | (go_at_call 15; refine CBK.out.mono ?_; rintro e wh ⟨rfl, kg⟩)
          | (go_at_call 6; refine (HAW.out _ (HG.out.1.kept.trans kg)).mono ?_; rintro e wi ⟨rfl, kh⟩))
        go_ret
        exact ⟨rfl, HG.out.1.kept.trans (kg.trans kh)⟩

set_option maxRecDepth 100000 in
set_option maxHeartbeats 4000000 in
theorem may_goD {w : World} {q : Option Addr} {N c : Nat} {K : List Cl} (cf : Cf) (me : Int) (o : Ow) (x : Cl) (now vv : Int) (hv : Cls w (.slice q N c) K) (ht : Tm.Tab w) (hc : Cr.Tab w) (ha : Wd x.att) (hgo : mayB me o K = true ∧ oneB x = true ∧ ¬ 16 < cf.hops ∧ ¬ vv < 0 ∧ ¬ 2147483647 < vv) (hk1 : (snd cf me o x now).2.kind = 1) (hokp : Ok (snd cf me o x now).2) (hka : ¬ 0 < o.ka) :
    Calls Tryz.prog 3 #[.agg cf.arr, .int .i64 me, .agg (o.arr q N c), .agg x.arr, .int .i64 now, .int .i64 vv] w fun e w' => e = .returned (.bool true) ∧ Kept w w' := by
  have hN : K.length = N := by obtain ⟨p, cap, e⟩ := hv.shape; cases e; rfl
  obtain ⟨F, hF⟩ : ∃ F, cf.arr = F := ⟨_, rfl⟩
  obtain ⟨A, hA⟩ : ∃ A, o.arr q N c = A := ⟨_, rfl⟩
  obtain ⟨X, hX⟩ : ∃ X, x.arr = X := ⟨_, rfl⟩
  have sF : F.size = 14 := by rw [← hF]; rfl
  have sA : A.size = 19 := by rw [← hA]; rfl
  have sX : X.size = 13 := by rw [← hX]; rfl
  have f5 : F[5]? = some (.int .i64 cf.hops) := by rw [← hF]; rfl
  have c3 : A[3]? = some (.int .i64 o.ka) := by rw [← hA]; rfl
  have x5 : X[5]? = some (.int .i64 x.att) := by rw [← hX]; rfl
  obtain ⟨W, hW⟩ : ∃ W, ((w.alloc (.cells F 24)).alloc (.cells A 31)).alloc (.cells X 33) = W := ⟨_, rfl⟩
  have hb : Bl w W [(F, 24), (A, 31), (X, 33)] := hW ▸ Bl.three w F A X _ _ _
  have HW := Lib.hid hW
  have HS0 := Lib.hid hb
  have HAW := Lib.hid (show ∀ u, Kept w u → Calls Tryz.prog 6 #[] u fun e w' => e = .returned (.bool true) ∧ Kept u w' from fun u hu => awake_any u (ht.kept hu))
  obtain ⟨b1, hb1⟩ : ∃ b, mayB me o K = b := ⟨_, rfl⟩
  obtain ⟨b2, hb2⟩ : ∃ b, oneB x = b := ⟨_, rfl⟩
  have CB1 := Lib.hid (show ∀ u, Kept w u → Calls Tryz.prog 4 #[.int .i64 me, .agg A] u fun e w' => e = .returned (.bool b1) ∧ Kept u w' from fun u hu => by rw [← hA, ← hb1]; exact may_any me o (hv.go hu))
  have CB2 := Lib.hid (show ∀ u, Calls Tryz.prog 5 #[.agg X] u fun e w' => e = .returned (.bool b2) ∧ Kept u w' from fun u => by rw [← hX, ← hb2]; exact mone_any x u)
  obtain rfl : true = b1 := hgo.1.symm.trans hb1
  obtain rfl : true = b2 := hgo.2.1.symm.trans hb2
  obtain ⟨-, -, e3, e4, e5⟩ := hgo
  have d3 : decide (16 < cf.hops) = false := decide_eq_false e3
  have d4 : decide (vv < 0) = false := decide_eq_false e4
  have hm := may_iff.1 hb1
  have hx1 := one_iff.1 hb2
  have HM := Lib.hid (And.intro hm (And.intro hb2 hx1))
  have hl30 : N ≤ 30 := by rw [← hN]; exact hm.2.2.2.2.2.1
  obtain ⟨y, p, hy⟩ : ∃ y p, snd cf me o x now = (y, p) := ⟨_, _, rfl⟩
  rw [hy] at hk1 hokp
  obtain ⟨Y, hY⟩ : ∃ Y, y.arr = Y := ⟨_, rfl⟩
  obtain ⟨R, hR⟩ : ∃ R, p.arr = R := ⟨_, rfl⟩
  have sY : Y.size = 13 := by rw [← hY]; rfl
  have oY : Y.all (·.oneCell') = true := by rw [← hY]; exact cl_one y
  have sR : R.size = 23 := by rw [← hR]; rfl
  have oR : R.all (·.oneCell') = true := by rw [← hR]; exact pk_one p
  have r0 : R[0]? = some (.int .i64 p.kind) := by rw [← hR]; rfl
  have hfR := fold_pk p hR
  have HR := Lib.hid hR
  have HN := Lib.hid hN
  have HT := Lib.hid (And.intro ht hc)
  have C1 := Lib.hid (show ∀ u, Calls Tryz.prog 9 #[.agg X] u fun e w' => e = .returned (.agg X) ∧ Kept u w' from fun u => by rw [← hX]; exact Ow.one_any x u)
  have CM := Lib.hid (show ∀ u, Kept w u → Calls Tryz.prog 7 #[.agg A] u fun e w' => ∃ q' n' c', e = .returned (.agg (o.arr q' n' c')) ∧ Mc w' (.slice q' n' c') K ∧ (∀ g, (Value.slice q' n' c').ownBlock = some g → u.heap.size ≤ g) ∧ Kept u w' from fun u hu => by rw [← hA]; exact Ow.mine_any o (hv.go hu) (by omega))
  have CS := Lib.hid (show ∀ u q' n' c', Kept w u → Calls Tryz.prog 8 #[.agg F, .int .i64 me, .agg (o.arr q' n' c'), .agg X, .int .i64 now] u fun e w' => e = .returned (.tuple #[.agg Y, .agg R]) ∧ Kept u w' from fun u q' n' c' hu => by
    have := send_any cf me o x now q' n' c' u (ht.kept hu) ha
    rw [hy, hF, hX] at this; rw [← hY, ← hR]; exact this)
  have e5b : decide (2147483647 < vv) = false := decide_eq_false e5
  rw [hF, hA, hX]
  clear hv ht hc hb hW hN hF hA hX hb1 hb2 hm hx1 hy hY hR
  go_enter Tryz.func3, Tryz.ntmps3
  go_upto_region 1 with fail
  rw [HW.out]
  go_upto_region 4 with (first
    | (refine load_w 31 (.tmp 8) rfl (w.heap.size + 1) rfl rfl A 19 (HS0.out.blk 1 rfl) Tryz.underlying31 sA info_row ?_)
    | (go_at_call 4; refine (CB1.out _ HS0.out.kept).mono ?_; rintro e w1 ⟨rfl, k1⟩; have HS1 := Lib.hid (HS0.out.go k1))
    | (refine load_w 33 (.tmp 9) rfl (w.heap.size + 1 + 1) rfl rfl X 13 (HS1.out.blk 2 rfl) Tryz.underlying33 sX info_rcl ?_)
    | (go_at_call 5; refine (CB2.out _).mono ?_; rintro e w2 ⟨rfl, k2⟩; have HS2 := Lib.hid (HS1.out.go k2); have y5 : w2.cell? ⟨w.heap.size, 5, none⟩ = some (.int .i64 cf.hops) := (HS2.out.cell 0 5 rfl).trans f5)
    | (refine load_w 31 (.tmp 8) rfl (w.heap.size + 1) rfl rfl A 19 (HS2.out.blk 1 rfl) Tryz.underlying31 sA info_row ?_)
    | (go_at_call 7; refine (CM.out _ HS2.out.kept).mono ?_; rintro e u1 ⟨q1, n1, c1, rfl, s1, -, k3⟩)
    | (refine store_new rfl 39 (.tmp 13) (.tmp 41) rfl u1.heap.size (o.arr q1 n1 c1) rfl rfl u1 _ rfl 19 info_ow rfl rfl (arr_one _ _ _ _) ?_))
  obtain ⟨V, hV⟩ : ∃ V, u1.alloc (.cells (o.arr q1 n1 c1) 39) = V := ⟨_, rfl⟩
  rw [hV]
  have kV : Kept u1 V := by rw [← hV]; exact Kept.one _ _
  have bV : V.heap[u1.heap.size]? = some (.cells (o.arr q1 n1 c1) 39 (0, 0)) := by rw [← hV]; exact blk_new u1 _
  obtain ⟨g0, hg⟩ : ∃ g, u1.heap.size = g := ⟨_, rfl⟩
  rw [hg] at bV ⊢
  obtain ⟨E, hE⟩ : ∃ E, o.arr q1 n1 c1 = E := ⟨_, rfl⟩
  have HZ := Lib.hid (And.intro ((HS2.out.go k3).go kV) (And.intro (show V.heap[g0]? = some (.cells E 39 (0, 0)) by rw [← hE]; exact bV) (s1.keep kV)))
  have HE := Lib.hid hE
  have sE : E.size = 19 := by rw [← hE]; rfl
  have CS2 := Lib.hid (show ∀ u, Kept w u → Calls Tryz.prog 8 #[.agg F, .int .i64 me, .agg E, .agg X, .int .i64 now] u fun e w' => e = .returned (.tuple #[.agg Y, .agg R]) ∧ Kept u w' from fun u hu => by rw [← hE]; exact CS.out u q1 n1 c1 hu)
  simp only [hE]
  clear hV kV bV hg s1 k3 HS2 HS1 k1 k2 y5 d3 d4 e5b CS CM CB1 CB2 hE
  simp only [Act.put]
  go_cut [14, 15] (fun p1 p2 wx => ∃ gA gB : Nat, p1 = .pointer (some ⟨gA, 0, none⟩) ∧ p2 = .pointer (some ⟨gB, 0, none⟩) ∧ Bl w wx [(F, 24), (A, 31), (X, 33)] ∧ wx.heap[g0]? = some (.cells E 39 (0, 0)) ∧ Mc wx (.slice q1 n1 c1) K ∧ wx.heap[gB]? = some (.cells R 43 (0, 0)))
  case first =>
    have hST : Stab (fun u => Bl w u [(F, 24), (A, 31), (X, 33)] ∧ u.heap[g0]? = some (.cells E 39 (0, 0)) ∧ Mc u (.slice q1 n1 c1) K) ∧ ∀ u, (fun u => Bl w u [(F, 24), (A, 31), (X, 33)] ∧ u.heap[g0]? = some (.cells E 39 (0, 0)) ∧ Mc u (.slice q1 n1 c1) K) u → (fun u => Bl w u [(F, 24), (A, 31), (X, 33)] ∧ u.heap[g0]? = some (.cells E 39 (0, 0)) ∧ Mc u (.slice q1 n1 c1) K) u := ⟨(stab_and bl_stab (stab_and blk_stab mcs)), fun u h => ⟨h.1, h.2.1, h.2.2⟩⟩
    refine AvT.region (fun u => Bl w u [(F, 24), (A, 31), (X, 33)] ∧ u.heap[g0]? = some (.cells E 39 (0, 0)) ∧ Mc u (.slice q1 n1 c1) K) (fun u => Bl w u [(F, 24), (A, 31), (X, 33)] ∧ u.heap[g0]? = some (.cells E 39 (0, 0)) ∧ Mc u (.slice q1 n1 c1) K) (by kernel_rfl) (hST.1 _ _ HZ.out (Kept.refl _).drew) ?_
    refine AvT.take 0 (some 43) rfl rfl (by kernel_rfl) (by kernel_rfl) (by kernel_rfl) (fun _ _ _ h => h) hST (Au.yq_load 24 (.tmp 6) rfl _ rfl (by rfl) (fun u hu => load_cf (hu.1.blk 0 rfl) sF)) ?_
    simp only [Act.put, List.setIfInBounds_toArray, List.set_cons_zero, List.set_cons_succ]
    refine AvT.take 1 (some 44) (v := ?_) rfl rfl (by kernel_rfl) (by kernel_rfl) (by kernel_rfl) (fun _ _ _ h => h) hST (Au.yq_run (by rfl) (fun u hu => ?_)) ?_
    rotate_left
    · (clear hu; go_simp; try with_reducible rfl)
    simp only [Act.put, List.setIfInBounds_toArray, List.set_cons_zero, List.set_cons_succ]
    refine AvT.take 2 (some 45) rfl rfl (by kernel_rfl) (by kernel_rfl) (by kernel_rfl) (fun _ _ _ h => h) hST (Au.yq_load 39 (.tmp 13) rfl _ rfl (by rfl) (fun u hu => load_ow hu.2.1 sE)) ?_
    simp only [Act.put, List.setIfInBounds_toArray, List.set_cons_zero, List.set_cons_succ]
    refine AvT.take 3 (some 46) rfl rfl (by kernel_rfl) (by kernel_rfl) (by kernel_rfl) (fun _ _ _ h => h) hST (Au.yq_load 33 (.tmp 9) rfl _ rfl (by rfl) (fun u hu => load_rcl (hu.1.blk 2 rfl) sX)) ?_
    simp only [Act.put, List.setIfInBounds_toArray, List.set_cons_zero, List.set_cons_succ]
    refine AvT.take 4 (some 47) rfl rfl (by kernel_rfl) (by kernel_rfl) (by kernel_rfl) (fun _ _ _ h => h) hST (Au.yq_call 9 _ (by rfl) (fun u => by go_simp) (fun u hu => C1.out u)) ?_
    simp only [Act.put, List.setIfInBounds_toArray, List.set_cons_zero, List.set_cons_succ]
    refine AvT.take 5 (some 48) (v := ?_) rfl rfl (by kernel_rfl) (by kernel_rfl) (by kernel_rfl) (fun _ _ _ h => h) hST (Au.yq_run (by rfl) (fun u hu => ?_)) ?_
    rotate_left
    · (clear hu; go_simp; try with_reducible rfl)
    simp only [Act.put, List.setIfInBounds_toArray, List.set_cons_zero, List.set_cons_succ]
    refine AvT.take 6 (some 49) rfl rfl (by kernel_rfl) (by kernel_rfl) (by kernel_rfl) (fun _ _ _ h => h) hST (Au.yq_call 8 _ (by rfl) (fun u => by go_simp) (fun u hu => CS2.out u hu.1.kept)) ?_
    simp only [Act.put, List.setIfInBounds_toArray, List.set_cons_zero, List.set_cons_succ]
    refine AvT.take 7 (some 42) (v := ?_) rfl rfl (by kernel_rfl) (by kernel_rfl) (by kernel_rfl) (fun _ _ _ h => h) hST (Au.yq_run (by rfl) (fun u hu => ?_)) ?_
    rotate_left
    · (clear hu; go_simp; try with_reducible rfl)
    simp only [Act.put, List.setIfInBounds_toArray, List.set_cons_zero, List.set_cons_succ]
    refine AvT.take 8 (some 50) (v := ?_) rfl rfl (by kernel_rfl) (by kernel_rfl) (by kernel_rfl) (fun _ _ _ h => h) hST (Au.yq_run (by rfl) (fun u hu => ?_)) ?_
    rotate_left
    · (clear hu; go_simp; try with_reducible rfl)
    simp only [Act.put, List.setIfInBounds_toArray, List.set_cons_zero, List.set_cons_succ]
    refine AvT.take 9 (some 51) (v := ?_) rfl rfl (by kernel_rfl) (by kernel_rfl) (by kernel_rfl) (fun _ _ _ h => h) hST (Au.yq_run (by rfl) (fun u hu => ?_)) ?_
    rotate_left
    · (clear hu; go_simp; try with_reducible rfl)
    simp only [Act.put, List.setIfInBounds_toArray, List.set_cons_zero, List.set_cons_succ]
    refine AvT.fork 10 11 rfl rfl (by kernel_rfl) (fun v hv KK hK => ?_) (fun v hv KK hK => ?_)
    · rw [if_pos (by rfl)]
      go_simp
      have bA : w.heap.size + 3 ≤ v.heap.size := (hv.1).size
      have dA : ∀ j, (Value.slice q1 n1 c1).ownBlock = some j → j ≠ v.heap.size := fun j e => by have := (hv.2.2).lt e; omega
      have e0A : g0 ≠ v.heap.size := by have := blk_lt (hv.2.1); omega
      refine hK.out (fun u => Bl w u [(F, 24), (A, 31), (X, 33)] ∧ u.heap[g0]? = some (.cells E 39 (0, 0)) ∧ Mc u (.slice q1 n1 c1) K ∧ u.heap[v.heap.size]? = some (.cells zeroC 41 (0, 0))) _ _ ⟨(bl_stab _ _ (hv.1) (Kept.one _ _)), (blk_stab _ _ (hv.2.1) (Kept.one _ _)), (mcs _ _ (hv.2.2) (Kept.one _ _)), blk_new v _⟩ (stab_and bl_stab (stab_and blk_stab (stab_and mcs blk_stab))) (fun u h => ⟨h.1, h.2.1, h.2.2.1⟩) ?_
      obtain ⟨gA, hg⟩ : ∃ g, v.heap.size = g := ⟨_, rfl⟩
      rw [hg] at bA dA e0A  ⊢
      clear hK KK hv hg
      clear v hST
      have hST : Stab (fun u => Bl w u [(F, 24), (A, 31), (X, 33)] ∧ u.heap[g0]? = some (.cells E 39 (0, 0)) ∧ Mc u (.slice q1 n1 c1) K ∧ u.heap[gA]? = some (.cells zeroC 41 (0, 0))) ∧ ∀ u, (fun u => Bl w u [(F, 24), (A, 31), (X, 33)] ∧ u.heap[g0]? = some (.cells E 39 (0, 0)) ∧ Mc u (.slice q1 n1 c1) K ∧ u.heap[gA]? = some (.cells zeroC 41 (0, 0))) u → (fun u => Bl w u [(F, 24), (A, 31), (X, 33)] ∧ u.heap[g0]? = some (.cells E 39 (0, 0)) ∧ Mc u (.slice q1 n1 c1) K) u := ⟨(stab_and bl_stab (stab_and blk_stab (stab_and mcs blk_stab))), fun u h => ⟨h.1, h.2.1, h.2.2.1⟩⟩
      refine AvT.step 11 rfl (by kernel_rfl) (fun v hv KK hK => ?_)
      rw [if_pos (by rfl)]
      go_simp
      have bB : w.heap.size + 3 ≤ v.heap.size := (hv.1).size
      have dB : ∀ j, (Value.slice q1 n1 c1).ownBlock = some j → j ≠ v.heap.size := fun j e => by have := (hv.2.2.1).lt e; omega
      have e0B : g0 ≠ v.heap.size := by have := blk_lt (hv.2.1); omega
      have eAB : gA ≠ v.heap.size := by have := blk_lt (hv.2.2.2); omega
      refine hK.out (fun u => Bl w u [(F, 24), (A, 31), (X, 33)] ∧ u.heap[g0]? = some (.cells E 39 (0, 0)) ∧ Mc u (.slice q1 n1 c1) K ∧ u.heap[gA]? = some (.cells zeroC 41 (0, 0)) ∧ u.heap[v.heap.size]? = some (.cells zeroP 43 (0, 0))) _ _ ⟨(bl_stab _ _ (hv.1) (Kept.one _ _)), (blk_stab _ _ (hv.2.1) (Kept.one _ _)), (mcs _ _ (hv.2.2.1) (Kept.one _ _)), (blk_stab _ _ (hv.2.2.2) (Kept.one _ _)), blk_new v _⟩ (stab_and bl_stab (stab_and blk_stab (stab_and mcs (stab_and blk_stab blk_stab)))) (fun u h => ⟨h.1, h.2.1, h.2.2.1⟩) ?_
      obtain ⟨gB, hg⟩ : ∃ g, v.heap.size = g := ⟨_, rfl⟩
      rw [hg] at bB dB e0B eAB ⊢
      clear hK KK hv hg
      clear v hST
      have hST : Stab (fun u => Bl w u [(F, 24), (A, 31), (X, 33)] ∧ u.heap[g0]? = some (.cells E 39 (0, 0)) ∧ Mc u (.slice q1 n1 c1) K ∧ u.heap[gA]? = some (.cells zeroC 41 (0, 0)) ∧ u.heap[gB]? = some (.cells zeroP 43 (0, 0))) ∧ ∀ u, (fun u => Bl w u [(F, 24), (A, 31), (X, 33)] ∧ u.heap[g0]? = some (.cells E 39 (0, 0)) ∧ Mc u (.slice q1 n1 c1) K ∧ u.heap[gA]? = some (.cells zeroC 41 (0, 0)) ∧ u.heap[gB]? = some (.cells zeroP 43 (0, 0))) u → (fun u => Bl w u [(F, 24), (A, 31), (X, 33)] ∧ u.heap[g0]? = some (.cells E 39 (0, 0)) ∧ Mc u (.slice q1 n1 c1) K) u := ⟨(stab_and bl_stab (stab_and blk_stab (stab_and mcs (stab_and blk_stab blk_stab)))), fun u h => ⟨h.1, h.2.1, h.2.2.1⟩⟩
      refine AvT.step 12 rfl (by kernel_rfl) (fun v hv KK hK => ?_)
      rw [if_pos (by rfl)]
      refine wp_store_row 41 (.tmp 14) (.tmp 50) rfl gA Y rfl rfl 41 zeroC (hv.2.2.2.1) (by rw [sY]; exact info_cl) (by rw [sY]; rfl) oY ?_
      refine hK.out (fun u => Bl w u [(F, 24), (A, 31), (X, 33)] ∧ u.heap[g0]? = some (.cells E 39 (0, 0)) ∧ Mc u (.slice q1 n1 c1) K ∧ u.heap[gB]? = some (.cells zeroP 43 (0, 0)) ∧ u.heap[gA]? = some (.cells Y 41 (0, 0))) _ _ ⟨hv.1.far bA Y, far_rw hv.2.1 (by omega), hv.2.2.1.kept (fun j e => setRow_other _ _ _ _ (dA j e)), far_rw hv.2.2.2.2 (by omega), setRow_heap _ _ zeroC Y _ _ (hv.2.2.2.1)⟩ (stab_and bl_stab (stab_and blk_stab (stab_and mcs (stab_and blk_stab blk_stab)))) (fun u h => ⟨h.1, h.2.1, h.2.2.1⟩) ?_
      clear hK KK hv
      clear v hST
      have hST : Stab (fun u => Bl w u [(F, 24), (A, 31), (X, 33)] ∧ u.heap[g0]? = some (.cells E 39 (0, 0)) ∧ Mc u (.slice q1 n1 c1) K ∧ u.heap[gB]? = some (.cells zeroP 43 (0, 0)) ∧ u.heap[gA]? = some (.cells Y 41 (0, 0))) ∧ ∀ u, (fun u => Bl w u [(F, 24), (A, 31), (X, 33)] ∧ u.heap[g0]? = some (.cells E 39 (0, 0)) ∧ Mc u (.slice q1 n1 c1) K ∧ u.heap[gB]? = some (.cells zeroP 43 (0, 0)) ∧ u.heap[gA]? = some (.cells Y 41 (0, 0))) u → (fun u => Bl w u [(F, 24), (A, 31), (X, 33)] ∧ u.heap[g0]? = some (.cells E 39 (0, 0)) ∧ Mc u (.slice q1 n1 c1) K) u := ⟨(stab_and bl_stab (stab_and blk_stab (stab_and mcs (stab_and blk_stab blk_stab)))), fun u h => ⟨h.1, h.2.1, h.2.2.1⟩⟩
      refine AvT.step 13 rfl (by kernel_rfl) (fun v hv KK hK => ?_)
      rw [if_pos (by rfl)]
      refine wp_store_row 43 (.tmp 15) (.tmp 51) rfl gB R rfl rfl 43 zeroP (hv.2.2.2.1) (by rw [sR]; exact info_pk) (by rw [sR]; rfl) oR ?_
      refine hK.out (fun u => Bl w u [(F, 24), (A, 31), (X, 33)] ∧ u.heap[g0]? = some (.cells E 39 (0, 0)) ∧ Mc u (.slice q1 n1 c1) K ∧ u.heap[gA]? = some (.cells Y 41 (0, 0)) ∧ u.heap[gB]? = some (.cells R 43 (0, 0))) _ _ ⟨hv.1.far bB R, far_rw hv.2.1 (by omega), hv.2.2.1.kept (fun j e => setRow_other _ _ _ _ (dB j e)), far_rw hv.2.2.2.2 (by omega), setRow_heap _ _ zeroP R _ _ (hv.2.2.2.1)⟩ (stab_and bl_stab (stab_and blk_stab (stab_and mcs (stab_and blk_stab blk_stab)))) (fun u h => ⟨h.1, h.2.1, h.2.2.1⟩) ?_
      clear hK KK hv
      clear v hST
      have hST : Stab (fun u => Bl w u [(F, 24), (A, 31), (X, 33)] ∧ u.heap[g0]? = some (.cells E 39 (0, 0)) ∧ Mc u (.slice q1 n1 c1) K ∧ u.heap[gA]? = some (.cells Y 41 (0, 0)) ∧ u.heap[gB]? = some (.cells R 43 (0, 0))) ∧ ∀ u, (fun u => Bl w u [(F, 24), (A, 31), (X, 33)] ∧ u.heap[g0]? = some (.cells E 39 (0, 0)) ∧ Mc u (.slice q1 n1 c1) K ∧ u.heap[gA]? = some (.cells Y 41 (0, 0)) ∧ u.heap[gB]? = some (.cells R 43 (0, 0))) u → (fun u => Bl w u [(F, 24), (A, 31), (X, 33)] ∧ u.heap[g0]? = some (.cells E 39 (0, 0)) ∧ Mc u (.slice q1 n1 c1) K) u := ⟨(stab_and bl_stab (stab_and blk_stab (stab_and mcs (stab_and blk_stab blk_stab)))), fun u h => ⟨h.1, h.2.1, h.2.2.1⟩⟩
      refine AvT.done (by kernel_rfl) (fun V hV => ?_)
      clear hST
      go_wp2_with fail
      go_meet
      exact ⟨gA, gB, rfl, rfl, hV.1, hV.2.1, hV.2.2.1, hV.2.2.2.2⟩
    · rw [if_pos (by rfl)]
      go_simp
      have bB : w.heap.size + 3 ≤ v.heap.size := (hv.1).size
      have dB : ∀ j, (Value.slice q1 n1 c1).ownBlock = some j → j ≠ v.heap.size := fun j e => by have := (hv.2.2).lt e; omega
      have e0B : g0 ≠ v.heap.size := by have := blk_lt (hv.2.1); omega
      refine hK.out (fun u => Bl w u [(F, 24), (A, 31), (X, 33)] ∧ u.heap[g0]? = some (.cells E 39 (0, 0)) ∧ Mc u (.slice q1 n1 c1) K ∧ u.heap[v.heap.size]? = some (.cells zeroP 43 (0, 0))) _ _ ⟨(bl_stab _ _ (hv.1) (Kept.one _ _)), (blk_stab _ _ (hv.2.1) (Kept.one _ _)), (mcs _ _ (hv.2.2) (Kept.one _ _)), blk_new v _⟩ (stab_and bl_stab (stab_and blk_stab (stab_and mcs blk_stab))) (fun u h => ⟨h.1, h.2.1, h.2.2.1⟩) ?_
      obtain ⟨gB, hg⟩ : ∃ g, v.heap.size = g := ⟨_, rfl⟩
      rw [hg] at bB dB e0B  ⊢
      clear hK KK hv hg
      clear v hST
      have hST : Stab (fun u => Bl w u [(F, 24), (A, 31), (X, 33)] ∧ u.heap[g0]? = some (.cells E 39 (0, 0)) ∧ Mc u (.slice q1 n1 c1) K ∧ u.heap[gB]? = some (.cells zeroP 43 (0, 0))) ∧ ∀ u, (fun u => Bl w u [(F, 24), (A, 31), (X, 33)] ∧ u.heap[g0]? = some (.cells E 39 (0, 0)) ∧ Mc u (.slice q1 n1 c1) K ∧ u.heap[gB]? = some (.cells zeroP 43 (0, 0))) u → (fun u => Bl w u [(F, 24), (A, 31), (X, 33)] ∧ u.heap[g0]? = some (.cells E 39 (0, 0)) ∧ Mc u (.slice q1 n1 c1) K) u := ⟨(stab_and bl_stab (stab_and blk_stab (stab_and mcs blk_stab))), fun u h => ⟨h.1, h.2.1, h.2.2.1⟩⟩
      refine AvT.step 10 rfl (by kernel_rfl) (fun v hv KK hK => ?_)
      rw [if_pos (by rfl)]
      go_simp
      have bA : w.heap.size + 3 ≤ v.heap.size := (hv.1).size
      have dA : ∀ j, (Value.slice q1 n1 c1).ownBlock = some j → j ≠ v.heap.size := fun j e => by have := (hv.2.2.1).lt e; omega
      have e0A : g0 ≠ v.heap.size := by have := blk_lt (hv.2.1); omega
      have eBA : gB ≠ v.heap.size := by have := blk_lt (hv.2.2.2); omega
      refine hK.out (fun u => Bl w u [(F, 24), (A, 31), (X, 33)] ∧ u.heap[g0]? = some (.cells E 39 (0, 0)) ∧ Mc u (.slice q1 n1 c1) K ∧ u.heap[gB]? = some (.cells zeroP 43 (0, 0)) ∧ u.heap[v.heap.size]? = some (.cells zeroC 41 (0, 0))) _ _ ⟨(bl_stab _ _ (hv.1) (Kept.one _ _)), (blk_stab _ _ (hv.2.1) (Kept.one _ _)), (mcs _ _ (hv.2.2.1) (Kept.one _ _)), (blk_stab _ _ (hv.2.2.2) (Kept.one _ _)), blk_new v _⟩ (stab_and bl_stab (stab_and blk_stab (stab_and mcs (stab_and blk_stab blk_stab)))) (fun u h => ⟨h.1, h.2.1, h.2.2.1⟩) ?_
      obtain ⟨gA, hg⟩ : ∃ g, v.heap.size = g := ⟨_, rfl⟩
      rw [hg] at bA dA e0A eBA ⊢
      clear hK KK hv hg
      clear v hST
      have hST : Stab (fun u => Bl w u [(F, 24), (A, 31), (X, 33)] ∧ u.heap[g0]? = some (.cells E 39 (0, 0)) ∧ Mc u (.slice q1 n1 c1) K ∧ u.heap[gB]? = some (.cells zeroP 43 (0, 0)) ∧ u.heap[gA]? = some (.cells zeroC 41 (0, 0))) ∧ ∀ u, (fun u => Bl w u [(F, 24), (A, 31), (X, 33)] ∧ u.heap[g0]? = some (.cells E 39 (0, 0)) ∧ Mc u (.slice q1 n1 c1) K ∧ u.heap[gB]? = some (.cells zeroP 43 (0, 0)) ∧ u.heap[gA]? = some (.cells zeroC 41 (0, 0))) u → (fun u => Bl w u [(F, 24), (A, 31), (X, 33)] ∧ u.heap[g0]? = some (.cells E 39 (0, 0)) ∧ Mc u (.slice q1 n1 c1) K) u := ⟨(stab_and bl_stab (stab_and blk_stab (stab_and mcs (stab_and blk_stab blk_stab)))), fun u h => ⟨h.1, h.2.1, h.2.2.1⟩⟩
      refine AvT.step 12 rfl (by kernel_rfl) (fun v hv KK hK => ?_)
      rw [if_pos (by rfl)]
      refine wp_store_row 41 (.tmp 14) (.tmp 50) rfl gA Y rfl rfl 41 zeroC (hv.2.2.2.2) (by rw [sY]; exact info_cl) (by rw [sY]; rfl) oY ?_
      refine hK.out (fun u => Bl w u [(F, 24), (A, 31), (X, 33)] ∧ u.heap[g0]? = some (.cells E 39 (0, 0)) ∧ Mc u (.slice q1 n1 c1) K ∧ u.heap[gB]? = some (.cells zeroP 43 (0, 0)) ∧ u.heap[gA]? = some (.cells Y 41 (0, 0))) _ _ ⟨hv.1.far bA Y, far_rw hv.2.1 (by omega), hv.2.2.1.kept (fun j e => setRow_other _ _ _ _ (dA j e)), far_rw hv.2.2.2.1 (by omega), setRow_heap _ _ zeroC Y _ _ (hv.2.2.2.2)⟩ (stab_and bl_stab (stab_and blk_stab (stab_and mcs (stab_and blk_stab blk_stab)))) (fun u h => ⟨h.1, h.2.1, h.2.2.1⟩) ?_
      clear hK KK hv
      clear v hST
      have hST : Stab (fun u => Bl w u [(F, 24), (A, 31), (X, 33)] ∧ u.heap[g0]? = some (.cells E 39 (0, 0)) ∧ Mc u (.slice q1 n1 c1) K ∧ u.heap[gB]? = some (.cells zeroP 43 (0, 0)) ∧ u.heap[gA]? = some (.cells Y 41 (0, 0))) ∧ ∀ u, (fun u => Bl w u [(F, 24), (A, 31), (X, 33)] ∧ u.heap[g0]? = some (.cells E 39 (0, 0)) ∧ Mc u (.slice q1 n1 c1) K ∧ u.heap[gB]? = some (.cells zeroP 43 (0, 0)) ∧ u.heap[gA]? = some (.cells Y 41 (0, 0))) u → (fun u => Bl w u [(F, 24), (A, 31), (X, 33)] ∧ u.heap[g0]? = some (.cells E 39 (0, 0)) ∧ Mc u (.slice q1 n1 c1) K) u := ⟨(stab_and bl_stab (stab_and blk_stab (stab_and mcs (stab_and blk_stab blk_stab)))), fun u h => ⟨h.1, h.2.1, h.2.2.1⟩⟩
      refine AvT.step 13 rfl (by kernel_rfl) (fun v hv KK hK => ?_)
      rw [if_pos (by rfl)]
      refine wp_store_row 43 (.tmp 15) (.tmp 51) rfl gB R rfl rfl 43 zeroP (hv.2.2.2.1) (by rw [sR]; exact info_pk) (by rw [sR]; rfl) oR ?_
      refine hK.out (fun u => Bl w u [(F, 24), (A, 31), (X, 33)] ∧ u.heap[g0]? = some (.cells E 39 (0, 0)) ∧ Mc u (.slice q1 n1 c1) K ∧ u.heap[gA]? = some (.cells Y 41 (0, 0)) ∧ u.heap[gB]? = some (.cells R 43 (0, 0))) _ _ ⟨hv.1.far bB R, far_rw hv.2.1 (by omega), hv.2.2.1.kept (fun j e => setRow_other _ _ _ _ (dB j e)), far_rw hv.2.2.2.2 (by omega), setRow_heap _ _ zeroP R _ _ (hv.2.2.2.1)⟩ (stab_and bl_stab (stab_and blk_stab (stab_and mcs (stab_and blk_stab blk_stab)))) (fun u h => ⟨h.1, h.2.1, h.2.2.1⟩) ?_
      clear hK KK hv
      clear v hST
      have hST : Stab (fun u => Bl w u [(F, 24), (A, 31), (X, 33)] ∧ u.heap[g0]? = some (.cells E 39 (0, 0)) ∧ Mc u (.slice q1 n1 c1) K ∧ u.heap[gA]? = some (.cells Y 41 (0, 0)) ∧ u.heap[gB]? = some (.cells R 43 (0, 0))) ∧ ∀ u, (fun u => Bl w u [(F, 24), (A, 31), (X, 33)] ∧ u.heap[g0]? = some (.cells E 39 (0, 0)) ∧ Mc u (.slice q1 n1 c1) K ∧ u.heap[gA]? = some (.cells Y 41 (0, 0)) ∧ u.heap[gB]? = some (.cells R 43 (0, 0))) u → (fun u => Bl w u [(F, 24), (A, 31), (X, 33)] ∧ u.heap[g0]? = some (.cells E 39 (0, 0)) ∧ Mc u (.slice q1 n1 c1) K) u := ⟨(stab_and bl_stab (stab_and blk_stab (stab_and mcs (stab_and blk_stab blk_stab)))), fun u h => ⟨h.1, h.2.1, h.2.2.1⟩⟩
      refine AvT.done (by kernel_rfl) (fun V hV => ?_)
      clear hST
      go_wp2_with fail
      go_meet
      exact ⟨gA, gB, rfl, rfl, hV.1, hV.2.1, hV.2.2.1, hV.2.2.2.2⟩
  case rest =>
    obtain ⟨gA, gB, rfl, rfl, hb, hg0, hmc, hgB⟩ := hcut
    have HB := Lib.hid (And.intro hb (And.intro hg0 (And.intro hmc hgB)))
    have k0 : wc.cell? ⟨gB, 0, none⟩ = some (.int .i64 p.kind) := (blk_cell hgB 0).trans r0
    have hlK : K.length ≤ 30 := by rw [HN.out]; exact hl30
    have L2l := wait_len (wtP 3 me o) K
    have L3l := wait_len (wtP 4 me o) K
    have OK2 := Lib.hid (ok_wait (f := wtP 3 me o) (K := K) (fun y hy => ok_onw3 HM.out.1.1 (in_mem HM.out.1.2.2.2.2.2.2 hy).1 (in_mem HM.out.1.2.2.2.2.2.2 hy).2))
    have OK3 := Lib.hid (ok_wait (f := wtP 4 me o) (K := K) (fun y hy => ok_wt4 HM.out.1.1 (in_mem HM.out.1.2.2.2.2.2.2 hy).1 (in_mem HM.out.1.2.2.2.2.2.2 hy).2))
    have W1 := Lib.hid (fun (u : World) (h : Mc u (.slice q1 n1 c1) K) => (by have := cancels_any me o (mc_cls h (by omega)) (by omega); rw [HE.out] at this; exact this : Calls Tryz.prog 10 #[.int .i64 me, .agg E] u fun e w' => ∃ v, e = .returned v ∧ Mp w' v (waitL (wtP 3 me o) K) ∧ (∀ g, v.ownBlock = some g → u.heap.size ≤ g) ∧ Kept u w'))
    have W2 := Lib.hid (fun (u : World) (h : Mc u (.slice q1 n1 c1) K) => (by have := keeps_any me o (mc_cls h (by omega)) (by omega); rw [HE.out] at this; exact this : Calls Tryz.prog 11 #[.int .i64 me, .agg E] u fun e w' => ∃ v, e = .returned v ∧ Mp w' v (waitL (wtP 4 me o) K) ∧ (∀ g, v.ownBlock = some g → u.heap.size ≤ g) ∧ Kept u w'))
    obtain ⟨M2, hM2⟩ : ∃ M, waitL (wtP 3 me o) K = M := ⟨_, rfl⟩
    obtain ⟨M3, hM3⟩ : ∃ M, waitL (wtP 4 me o) K = M := ⟨_, rfl⟩
    rw [hM2] at OK2 W1 L2l
    rw [hM3] at OK3 W2 L3l
    clear hb hg0 hmc hgB HZ hM2 hM3 CS2 C1
    · rw [hk1] at k0
      have l15 := load_pk HB.out.2.2.2 sR
      go_upto_region 8 with (first
        | (refine load_l 43 (.tmp 15) rfl _ rfl rfl _ l15 ?_)
        | (at_builtin; refine wpList_append_onev enc_pk wc rfl (.tmp 55) (.tmp 57) rfl (.slice none 0 0) [] p R (by rw [← HR.out]; rfl) rfl rfl (rowv_nil _ _ _ _) (by decide) ?_; intro v16 wa r4 g4 b4))
      have HA := Lib.hid (show Fr (fun j => wc.heap.size ≤ j) wc wa ∧ Mp wa v16 [p] ∧ (∀ j, v16.ownBlock = some j → wc.heap.size ≤ j) from by
        have h := acc_new (Kept.one wc _) g4 b4
        exact ⟨h.1, r4, h.2⟩)
      have OK1 := Lib.hid (show ∀ r ∈ [p], Ok r from fun r h => by cases h with | head => exact hokp | tail _ h => cases h)
      have L1l : [p].length ≤ 1 := Nat.le_refl _
      clear r4 g4 b4 k0 hk1 hokp l15
      obtain ⟨M1, hM1⟩ : ∃ M : List Pk, [p] = M := ⟨_, rfl⟩
      rw [hM1] at HA OK1 L1l
      clear hM1
      go_upto_region 9 with (first
        | (refine load_w 39 (.tmp 13) rfl g0 rfl rfl E 19 (fr_blk HA.out.1 HB.out.2.1) Tryz.underlying39 sE info_ow ?_)
        | (go_at_call 10; refine (W1.out _ (fr_mc HA.out.1 HB.out.2.2.1)).mono ?_; rintro e wb ⟨v2, rfl, s2, -, k2⟩; have r1 := HA.out.2.1.keep k2)
        | (at_builtin; refine wpList_append_rowsv enc_pk wb rfl (.tmp 59) (.tmp 62) rfl v16 v2 M1 M2 rfl rfl r1 s2 (by omega) ?_; intro v17 wd r5 g5 b5))
      have HD := Lib.hid (show Fr (fun j => wc.heap.size ≤ j) wc wd ∧ Mp wd v17 (M1 ++ M2) ∧ (∀ j, v17.ownBlock = some j → wc.heap.size ≤ j) from by
        have h := acc_go HA.out.1 HA.out.2.2 k2 g5 b5
        exact ⟨h.1, r5, h.2⟩)
      clear r1 s2 k2 r5 g5 b5
      go_upto_region 10 with (first
        | (refine load_w 39 (.tmp 13) rfl g0 rfl rfl E 19 (fr_blk HD.out.1 HB.out.2.1) Tryz.underlying39 sE info_ow ?_)
        | (go_at_call 11; refine (W2.out _ (fr_mc HD.out.1 HB.out.2.2.1)).mono ?_; rintro e we ⟨v3, rfl, s3, -, k3⟩; have r1 := HD.out.2.1.keep k3)
        | (at_builtin; refine wpList_append_rowsv enc_pk we rfl (.tmp 64) (.tmp 67) rfl v17 v3 (M1 ++ M2) M3 rfl rfl r1 s3 (by rw [List.length_append]; omega) ?_; intro v18 wf r6 g6 b6))
      have HF := Lib.hid (show Fr (fun j => wc.heap.size ≤ j) wc wf ∧ Mp wf v18 (M1 ++ M2 ++ M3) ∧ (∀ j, v18.ownBlock = some j → wc.heap.size ≤ j) from by
        have h := acc_go HD.out.1 HD.out.2.2 k3 g6 b6
        exact ⟨h.1, r6, h.2⟩)
      clear r1 s3 k3 r6 g6 b6 HA HD
      have OK4 := Lib.hid (ok_app (ok_app OK1.out OK2.out) OK3.out)
      have L4l : (M1 ++ M2 ++ M3).length ≤ 100 := by rw [List.length_append, List.length_append]; omega
      obtain ⟨M4, hM4⟩ : ∃ M, M1 ++ M2 ++ M3 = M := ⟨_, rfl⟩
      rw [hM4] at HF OK4 L4l
      clear hM4 OK1 OK2 OK3 W1 W2 L1l L2l L3l
      have hbf := fr_bl HF.out.1 HB.out.1
      have y3 : wf.cell? ⟨w.heap.size + 1, 3, none⟩ = some (.int .i64 o.ka) := (hbf.cell 1 3 rfl).trans c3
      have HBF := Lib.hid hbf
      clear hbf
      · have hka2 : decide (0 < o.ka) = false := decide_eq_false (by omega)
        have CBK := Lib.hid (show Calls Tryz.prog 15 #[v18] wf fun e w' => e = .returned (.bool true) ∧ Kept wf w' from mback_any (mp_ls HF.out.2.1 (by omega)) (by omega) OK4.out (HT.out.2.kept HBF.out.kept))
        go_wp2_with (first
          | (go_at_call 15; refine CBK.out.mono ?_; rintro e wg ⟨rfl, kg⟩)
          | (go_at_call 6; refine (HAW.out _ (HBF.out.kept.trans kg)).mono ?_; rintro e wh ⟨rfl, kh⟩))
        go_ret
        exact ⟨rfl, HBF.out.kept.trans (kg.trans kh)⟩

theorem may_law {w : World} {q : Option Addr} {N c : Nat} {K : List Cl} (cf : Cf) (me : Int) (o : Ow) (x : Cl) (now vv : Int) (hv : Cls w (.slice q N c) K) (ht : Tm.Tab w) (hc : Cr.Tab w) (ha : Wd x.att) :
    Calls Tryz.prog 3 #[.agg cf.arr, .int .i64 me, .agg (o.arr q N c), .agg x.arr, .int .i64 now, .int .i64 vv] w fun e w' => e = .returned (.bool true) ∧ Kept w w' := by
  cases h1 : mayB me o K with
  | false => exact may_out1 cf me o x now vv hv ht hc ha h1
  | true =>
    cases h2 : oneB x with
    | false => exact may_out2 cf me o x now vv hv ht hc ha h1 h2
    | true =>
      by_cases e3 : 16 < cf.hops
      · exact may_out3 cf me o x now vv hv ht hc ha ⟨h1, h2⟩ e3
      by_cases e4 : vv < 0
      · exact may_out4 cf me o x now vv hv ht hc ha ⟨h1, h2⟩ e3 e4
      by_cases e5 : 2147483647 < vv
      · exact may_out5 cf me o x now vv hv ht hc ha ⟨h1, h2⟩ e3 e4 e5
      have hm := may_iff.1 h1
      have hos := ok_snd (g := cf) (me := me) (o := o) (x := x) (now := now) hm.1 h2 (by omega) hm.2.2.2.2.1 hm.2.1 hm.2.2.1
      rcases hos with hk0 | ⟨hk1, hokp⟩
      · by_cases hka : 0 < o.ka
        · exact may_goA cf me o x now vv hv ht hc ha ⟨h1, h2, e3, e4, e5⟩ hk0 hka
        · exact may_goB cf me o x now vv hv ht hc ha ⟨h1, h2, e3, e4, e5⟩ hk0 hka
      · by_cases hka : 0 < o.ka
        · exact may_goC cf me o x now vv hv ht hc ha ⟨h1, h2, e3, e4, e5⟩ hk1 hokp hka
        · exact may_goD cf me o x now vv hv ht hc ha ⟨h1, h2, e3, e4, e5⟩ hk1 hokp hka
end Go.Proofs.YtncdiggejofbbaaGreatDoor.Sn
