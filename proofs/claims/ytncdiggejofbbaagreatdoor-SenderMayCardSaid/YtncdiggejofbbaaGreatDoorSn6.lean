/- What a root ends with: package sender, and the document's own answer. -/
import Derived.Test.YtncdiggejofbbaaGreatDoorSn
import Derived.Test.YtncdiggejofbbaaGreatDoorOw5
import Derived.OwnWalk
namespace Go.Proofs.YtncdiggejofbbaaGreatDoor.Sn
open Go.RowKit Go.Sort Go.Shelf St PkM Ad Po Blk Eqs
open Go.Proofs.YtncdiggejofbbaaGreatDoor.Cl
open Go.Proofs.YtncdiggejofbbaaGreatDoor.Ow
open Go.Proofs.YtncdiggejofbbaaGreatDoor.Ad (load_w load_l store_new)
set_option linter.unusedVariables false
set_option linter.unusedSimpArgs false

theorem open_from : ∀ (K : List Cl) (n : Int), 0 ≤ n → 0 ≤ K.foldl openF n
  | [], n, h => h
  | c :: K, n, h => open_from K _ (by unfold openF; split <;> omega)
theorem open_lo (K : List Cl) : 0 ≤ openL K := open_from K 0 (Int.le_refl 0)
section
variable {o : Ow} {K : List Cl} {now : Int}
theorem stl_no (h : ¬ (o.ka = 0 ∧ ¬ K = [] ∧ openL K = 0)) : stl o K now = (0, 0, false) := by unfold stl; rw [if_neg h]
theorem stl_ok (h : o.ka = 0 ∧ ¬ K = [] ∧ openL K = 0) (h0 : worstL K = 0) : stl o K now = (0, sumL K 0, true) := by unfold stl; rw [if_pos h, if_pos h0]
theorem stl_cancelled (h : o.ka = 0 ∧ ¬ K = [] ∧ openL K = 0) (h0 : worstL K = 1) : stl o K now = (13, 0, true) := by unfold stl; rw [if_pos h, if_neg (by omega), if_pos h0]
theorem stl_early (h : o.ka = 0 ∧ ¬ K = [] ∧ openL K = 0) (h0 : worstL K = 4) (h1 : 0 < Tk.sub o.dl now) : stl o K now = (0, 0, false) := by unfold stl; rw [if_pos h, if_neg (by omega), if_neg (by omega), if_pos ⟨h0, h1⟩]
theorem stl_late (h : o.ka = 0 ∧ ¬ K = [] ∧ openL K = 0) (h0 : worstL K = 4) (h1 : ¬ 0 < Tk.sub o.dl now) : stl o K now = (4, 0, true) := by unfold stl; rw [if_pos h, if_neg (by omega), if_neg (by omega), if_neg (fun c => h1 c.2), h0]
theorem stl_else (h : o.ka = 0 ∧ ¬ K = [] ∧ openL K = 0) (h0 : ¬ worstL K = 0) (h1 : ¬ worstL K = 1) (h4 : ¬ worstL K = 4) : stl o K now = (worstL K, 0, true) := by unfold stl; rw [if_pos h, if_neg h0, if_neg h1, if_neg (fun c => h4 c.1)]
end

set_option maxRecDepth 100000 in
set_option maxHeartbeats 4000000 in
theorem settled0 {w : World} {q : Option Addr} {N c : Nat} {K : List Cl} (o : Ow) (now : Int) (hv : Cls w (.slice q N c) K) (h : ¬ o.ka = 0) :
    Calls Tryz.prog 18 #[.agg (o.arr q N c), .int .i64 now] w fun e w' => e = .returned (.tuple #[.int .i64 (stl o K now).1, .int .i64 (stl o K now).2.1, .bool (stl o K now).2.2]) ∧ Kept w w' := by
  have hNK : K.length = N := by obtain ⟨p, cap, e⟩ := hv.shape; cases e; rfl
  rw [stl_no (fun c => h c.1)]
  obtain ⟨A, hA⟩ : ∃ A, o.arr q N c = A := ⟨_, rfl⟩
  have sA : A.size = 19 := by rw [← hA]; rfl
  obtain ⟨W, hW⟩ : ∃ W, w.alloc (.cells A 39) = W := ⟨_, rfl⟩
  have hL : Bl w W [(A, 39)] := hW ▸ Bl.one w A _
  have h3 : W.cell? ⟨w.heap.size, 3, none⟩ = some (.int .i64 o.ka) := (hL.cell 0 3 rfl).trans (by rw [← hA]; rfl)
  have h13 : W.cell? ⟨w.heap.size, 13, none⟩ = some (.int .i64 o.dl) := (hL.cell 0 13 rfl).trans (by rw [← hA]; rfl)
  have h18 : W.cell? ⟨w.heap.size, 18, none⟩ = some (.slice q N c) := (hL.cell 0 18 rfl).trans (by rw [← hA]; rfl)
  have HS := Lib.hid hL
  have CR := Lib.hid (show ∀ u, Kept W u → Calls Tryz.prog 34 #[.agg A] u fun e w' => e = .returned (.bool false) ∧ Kept u w' from fun u hu => by rw [← hA]; have := isroot_any o q N c u; rw [show (o.ka == 0) = false from beq_eq_false_iff_ne.2 h] at this; exact this)
  have c13 : A[13]? = some (.int .i64 o.dl) := by rw [← hA]; rfl
  have c18 : A[18]? = some (.slice q N c) := by rw [← hA]; rfl
  have hb0 : (o.ka == 0) = false := beq_eq_false_iff_ne.2 h
  rw [hA]
  have HW := Lib.hid hW
  clear hW hL hA
  go_enter Tryz.func18, Tryz.ntmps18
  go_upto_region 1 with fail
  rw [HW.out]
  go_wp2_with (first
    | (go_at_call 34; refine (CR.out _ (Kept.refl W)).mono ?_; rintro e ur ⟨rfl, kr⟩; have g13r : ur.cell? ⟨w.heap.size, 13, none⟩ = some (.int .i64 o.dl) := ((HS.out.go ((Kept.refl W).trans kr)).cell 0 13 rfl).trans c13; have g18r : ur.cell? ⟨w.heap.size, 18, none⟩ = some (.slice q N c) := ((HS.out.go ((Kept.refl W).trans kr)).cell 0 18 rfl).trans c18)
    | (refine load_w 39 (.tmp 2) rfl w.heap.size rfl rfl A 19 (HS.out.blk 0 rfl) Tryz.underlying39 sA info_ow ?_)
    | (refine load_w 39 (.tmp 2) rfl w.heap.size rfl rfl A 19 ((HS.out.go ((Kept.refl W).trans kr)).blk 0 rfl) Tryz.underlying39 sA info_ow ?_))
  go_ret3
  exact ⟨rfl, HS.out.kept.trans ((Kept.refl W).trans kr)⟩

set_option maxRecDepth 100000 in
set_option maxHeartbeats 4000000 in
theorem settled1 {w : World} {q : Option Addr} {N c : Nat} {K : List Cl} (o : Ow) (now : Int) (hv : Cls w (.slice q N c) K) (h : o.ka = 0) (hN : N = 0) :
    Calls Tryz.prog 18 #[.agg (o.arr q N c), .int .i64 now] w fun e w' => e = .returned (.tuple #[.int .i64 (stl o K now).1, .int .i64 (stl o K now).2.1, .bool (stl o K now).2.2]) ∧ Kept w w' := by
  have hNK : K.length = N := by obtain ⟨p, cap, e⟩ := hv.shape; cases e; rfl
  rw [stl_no (fun c => c.2.1 (List.eq_nil_of_length_eq_zero (hNK.trans hN)))]
  obtain ⟨A, hA⟩ : ∃ A, o.arr q N c = A := ⟨_, rfl⟩
  have sA : A.size = 19 := by rw [← hA]; rfl
  obtain ⟨W, hW⟩ : ∃ W, w.alloc (.cells A 39) = W := ⟨_, rfl⟩
  have hL : Bl w W [(A, 39)] := hW ▸ Bl.one w A _
  have h3 : W.cell? ⟨w.heap.size, 3, none⟩ = some (.int .i64 o.ka) := (hL.cell 0 3 rfl).trans (by rw [← hA]; rfl)
  have h13 : W.cell? ⟨w.heap.size, 13, none⟩ = some (.int .i64 o.dl) := (hL.cell 0 13 rfl).trans (by rw [← hA]; rfl)
  have h18 : W.cell? ⟨w.heap.size, 18, none⟩ = some (.slice q N c) := (hL.cell 0 18 rfl).trans (by rw [← hA]; rfl)
  have HS := Lib.hid hL
  have CR := Lib.hid (show ∀ u, Kept W u → Calls Tryz.prog 34 #[.agg A] u fun e w' => e = .returned (.bool true) ∧ Kept u w' from fun u hu => by rw [← hA]; have := isroot_any o q N c u; rw [show (o.ka == 0) = true from beq_iff_eq.2 h] at this; exact this)
  have c13 : A[13]? = some (.int .i64 o.dl) := by rw [← hA]; rfl
  have c18 : A[18]? = some (.slice q N c) := by rw [← hA]; rfl
  rw [hA]
  have HW := Lib.hid hW
  clear hW hL hA
  rw [h] at h3
  go_enter Tryz.func18, Tryz.ntmps18
  go_upto_region 1 with fail
  rw [HW.out]
  go_wp2_with (first
    | (go_at_call 34; refine (CR.out _ (Kept.refl W)).mono ?_; rintro e ur ⟨rfl, kr⟩; have g13r : ur.cell? ⟨w.heap.size, 13, none⟩ = some (.int .i64 o.dl) := ((HS.out.go ((Kept.refl W).trans kr)).cell 0 13 rfl).trans c13; have g18r : ur.cell? ⟨w.heap.size, 18, none⟩ = some (.slice q N c) := ((HS.out.go ((Kept.refl W).trans kr)).cell 0 18 rfl).trans c18)
    | (refine load_w 39 (.tmp 2) rfl w.heap.size rfl rfl A 19 (HS.out.blk 0 rfl) Tryz.underlying39 sA info_ow ?_)
    | (refine load_w 39 (.tmp 2) rfl w.heap.size rfl rfl A 19 ((HS.out.go ((Kept.refl W).trans kr)).blk 0 rfl) Tryz.underlying39 sA info_ow ?_))
  go_ret3
  exact ⟨rfl, HS.out.kept.trans ((Kept.refl W).trans kr)⟩

set_option maxRecDepth 100000 in
set_option maxHeartbeats 4000000 in
theorem settled2 {w : World} {q : Option Addr} {N c : Nat} {K : List Cl} (o : Ow) (now : Int) (hv : Cls w (.slice q N c) K) (h : o.ka = 0) (hN : ¬ N = 0) (hO : ¬ openL K = 0) :
    Calls Tryz.prog 18 #[.agg (o.arr q N c), .int .i64 now] w fun e w' => e = .returned (.tuple #[.int .i64 (stl o K now).1, .int .i64 (stl o K now).2.1, .bool (stl o K now).2.2]) ∧ Kept w w' := by
  have hNK : K.length = N := by obtain ⟨p, cap, e⟩ := hv.shape; cases e; rfl
  rw [stl_no (fun c => hO c.2.2)]
  obtain ⟨A, hA⟩ : ∃ A, o.arr q N c = A := ⟨_, rfl⟩
  have sA : A.size = 19 := by rw [← hA]; rfl
  obtain ⟨W, hW⟩ : ∃ W, w.alloc (.cells A 39) = W := ⟨_, rfl⟩
  have hL : Bl w W [(A, 39)] := hW ▸ Bl.one w A _
  have h3 : W.cell? ⟨w.heap.size, 3, none⟩ = some (.int .i64 o.ka) := (hL.cell 0 3 rfl).trans (by rw [← hA]; rfl)
  have h13 : W.cell? ⟨w.heap.size, 13, none⟩ = some (.int .i64 o.dl) := (hL.cell 0 13 rfl).trans (by rw [← hA]; rfl)
  have h18 : W.cell? ⟨w.heap.size, 18, none⟩ = some (.slice q N c) := (hL.cell 0 18 rfl).trans (by rw [← hA]; rfl)
  have HS := Lib.hid hL
  have CR := Lib.hid (show ∀ u, Kept W u → Calls Tryz.prog 34 #[.agg A] u fun e w' => e = .returned (.bool true) ∧ Kept u w' from fun u hu => by rw [← hA]; have := isroot_any o q N c u; rw [show (o.ka == 0) = true from beq_iff_eq.2 h] at this; exact this)
  obtain ⟨yo, hyo⟩ : ∃ y, openL K = y := ⟨_, rfl⟩
  have hyl := open_lo K
  rw [hyo] at hyl
  have CO := Lib.hid (show ∀ u, Kept W u → Calls Tryz.prog 35 #[.agg A] u fun e w' => e = .returned (.int .i64 yo) ∧ Kept u w' from fun u hu => by rw [← hA]; rw [← hyo]; exact open_any o (hv.go (HS.out.kept.trans hu)))
  rw [hyo] at hO
  have c13 : A[13]? = some (.int .i64 o.dl) := by rw [← hA]; rfl
  have c18 : A[18]? = some (.slice q N c) := by rw [← hA]; rfl
  have hNb : ((N : Int) == 0) = false := beq_eq_false_iff_ne.2 (by omega)
  rw [hA]
  have HW := Lib.hid hW
  clear hW hL hA
  rw [h] at h3
  go_enter Tryz.func18, Tryz.ntmps18
  go_upto_region 1 with fail
  rw [HW.out]
  go_wp2_with (first
    | (go_at_call 34; refine (CR.out _ (Kept.refl W)).mono ?_; rintro e ur ⟨rfl, kr⟩; have g13r : ur.cell? ⟨w.heap.size, 13, none⟩ = some (.int .i64 o.dl) := ((HS.out.go ((Kept.refl W).trans kr)).cell 0 13 rfl).trans c13; have g18r : ur.cell? ⟨w.heap.size, 18, none⟩ = some (.slice q N c) := ((HS.out.go ((Kept.refl W).trans kr)).cell 0 18 rfl).trans c18)
    | (go_at_call 35; refine (CO.out _ ((Kept.refl W).trans kr)).mono ?_; rintro e uo ⟨rfl, ko⟩; have g13o : uo.cell? ⟨w.heap.size, 13, none⟩ = some (.int .i64 o.dl) := ((HS.out.go (((Kept.refl W).trans kr).trans ko)).cell 0 13 rfl).trans c13; have g18o : uo.cell? ⟨w.heap.size, 18, none⟩ = some (.slice q N c) := ((HS.out.go (((Kept.refl W).trans kr).trans ko)).cell 0 18 rfl).trans c18)
    | (refine load_w 39 (.tmp 2) rfl w.heap.size rfl rfl A 19 (HS.out.blk 0 rfl) Tryz.underlying39 sA info_ow ?_)
    | (refine load_w 39 (.tmp 2) rfl w.heap.size rfl rfl A 19 ((HS.out.go ((Kept.refl W).trans kr)).blk 0 rfl) Tryz.underlying39 sA info_ow ?_)
    | (refine load_w 39 (.tmp 2) rfl w.heap.size rfl rfl A 19 ((HS.out.go (((Kept.refl W).trans kr).trans ko)).blk 0 rfl) Tryz.underlying39 sA info_ow ?_))
  go_ret3
  exact ⟨rfl, HS.out.kept.trans (((Kept.refl W).trans kr).trans ko)⟩

set_option maxRecDepth 100000 in
set_option maxHeartbeats 4000000 in
theorem settled3 {w : World} {q : Option Addr} {N c : Nat} {K : List Cl} (o : Ow) (now : Int) (hv : Cls w (.slice q N c) K) (h : o.ka = 0) (hN : ¬ N = 0) (hO : openL K = 0) (hw : worstL K = 0) :
    Calls Tryz.prog 18 #[.agg (o.arr q N c), .int .i64 now] w fun e w' => e = .returned (.tuple #[.int .i64 (stl o K now).1, .int .i64 (stl o K now).2.1, .bool (stl o K now).2.2]) ∧ Kept w w' := by
  have hNK : K.length = N := by obtain ⟨p, cap, e⟩ := hv.shape; cases e; rfl
  rw [stl_ok ⟨h, fun c => hN (by rw [← hNK, c]; rfl), hO⟩ hw]
  obtain ⟨A, hA⟩ : ∃ A, o.arr q N c = A := ⟨_, rfl⟩
  have sA : A.size = 19 := by rw [← hA]; rfl
  obtain ⟨W, hW⟩ : ∃ W, w.alloc (.cells A 39) = W := ⟨_, rfl⟩
  have hL : Bl w W [(A, 39)] := hW ▸ Bl.one w A _
  have h3 : W.cell? ⟨w.heap.size, 3, none⟩ = some (.int .i64 o.ka) := (hL.cell 0 3 rfl).trans (by rw [← hA]; rfl)
  have h13 : W.cell? ⟨w.heap.size, 13, none⟩ = some (.int .i64 o.dl) := (hL.cell 0 13 rfl).trans (by rw [← hA]; rfl)
  have h18 : W.cell? ⟨w.heap.size, 18, none⟩ = some (.slice q N c) := (hL.cell 0 18 rfl).trans (by rw [← hA]; rfl)
  have HS := Lib.hid hL
  have CR := Lib.hid (show ∀ u, Kept W u → Calls Tryz.prog 34 #[.agg A] u fun e w' => e = .returned (.bool true) ∧ Kept u w' from fun u hu => by rw [← hA]; have := isroot_any o q N c u; rw [show (o.ka == 0) = true from beq_iff_eq.2 h] at this; exact this)
  obtain ⟨yo, hyo⟩ : ∃ y, openL K = y := ⟨_, rfl⟩
  have hyl := open_lo K
  rw [hyo] at hyl
  have CO := Lib.hid (show ∀ u, Kept W u → Calls Tryz.prog 35 #[.agg A] u fun e w' => e = .returned (.int .i64 yo) ∧ Kept u w' from fun u hu => by rw [← hA]; rw [← hyo]; exact open_any o (hv.go (HS.out.kept.trans hu)))
  rw [hyo] at hO
  obtain ⟨a, ha⟩ : ∃ y, worstL K = y := ⟨_, rfl⟩
  have CW := Lib.hid (show ∀ u, Kept W u → Calls Tryz.prog 36 #[.agg A] u fun e w' => e = .returned (.int .i64 a) ∧ Kept u w' from fun u hu => by rw [← hA]; rw [← ha]; exact worst_any o (hv.go (HS.out.kept.trans hu)))
  rw [ha] at hw
  obtain ⟨s, hs⟩ : ∃ y, sumL K 0 = y := ⟨_, rfl⟩
  have CS := Lib.hid (show ∀ u, Kept W u → Calls Tryz.prog 37 #[.agg A, .int .i64 0] u fun e w' => e = .returned (.int .i64 s) ∧ Kept u w' from fun u hu => by rw [← hA]; rw [← hs]; exact sum_any o (hv.go (HS.out.kept.trans hu)) 0)
  rw [hs]
  have c13 : A[13]? = some (.int .i64 o.dl) := by rw [← hA]; rfl
  have c18 : A[18]? = some (.slice q N c) := by rw [← hA]; rfl
  have hNb : ((N : Int) == 0) = false := beq_eq_false_iff_ne.2 (by omega)
  rw [hA]
  have HW := Lib.hid hW
  clear hW hL hA
  rw [h] at h3
  go_enter Tryz.func18, Tryz.ntmps18
  go_upto_region 1 with fail
  rw [HW.out]
  go_wp2_with (first
    | (go_at_call 34; refine (CR.out _ (Kept.refl W)).mono ?_; rintro e ur ⟨rfl, kr⟩; have g13r : ur.cell? ⟨w.heap.size, 13, none⟩ = some (.int .i64 o.dl) := ((HS.out.go ((Kept.refl W).trans kr)).cell 0 13 rfl).trans c13; have g18r : ur.cell? ⟨w.heap.size, 18, none⟩ = some (.slice q N c) := ((HS.out.go ((Kept.refl W).trans kr)).cell 0 18 rfl).trans c18)
    | (go_at_call 35; refine (CO.out _ ((Kept.refl W).trans kr)).mono ?_; rintro e uo ⟨rfl, ko⟩; have g13o : uo.cell? ⟨w.heap.size, 13, none⟩ = some (.int .i64 o.dl) := ((HS.out.go (((Kept.refl W).trans kr).trans ko)).cell 0 13 rfl).trans c13; have g18o : uo.cell? ⟨w.heap.size, 18, none⟩ = some (.slice q N c) := ((HS.out.go (((Kept.refl W).trans kr).trans ko)).cell 0 18 rfl).trans c18)
    | (go_at_call 36; refine (CW.out _ (((Kept.refl W).trans kr).trans ko)).mono ?_; rintro e up ⟨rfl, kp⟩; have g13p : up.cell? ⟨w.heap.size, 13, none⟩ = some (.int .i64 o.dl) := ((HS.out.go ((((Kept.refl W).trans kr).trans ko).trans kp)).cell 0 13 rfl).trans c13; have g18p : up.cell? ⟨w.heap.size, 18, none⟩ = some (.slice q N c) := ((HS.out.go ((((Kept.refl W).trans kr).trans ko).trans kp)).cell 0 18 rfl).trans c18)
    | (go_at_call 37; refine (CS.out _ ((((Kept.refl W).trans kr).trans ko).trans kp)).mono ?_; rintro e us ⟨rfl, ks⟩; have g13s : us.cell? ⟨w.heap.size, 13, none⟩ = some (.int .i64 o.dl) := ((HS.out.go (((((Kept.refl W).trans kr).trans ko).trans kp).trans ks)).cell 0 13 rfl).trans c13; have g18s : us.cell? ⟨w.heap.size, 18, none⟩ = some (.slice q N c) := ((HS.out.go (((((Kept.refl W).trans kr).trans ko).trans kp).trans ks)).cell 0 18 rfl).trans c18)
    | (refine load_w 39 (.tmp 2) rfl w.heap.size rfl rfl A 19 (HS.out.blk 0 rfl) Tryz.underlying39 sA info_ow ?_)
    | (refine load_w 39 (.tmp 2) rfl w.heap.size rfl rfl A 19 ((HS.out.go ((Kept.refl W).trans kr)).blk 0 rfl) Tryz.underlying39 sA info_ow ?_)
    | (refine load_w 39 (.tmp 2) rfl w.heap.size rfl rfl A 19 ((HS.out.go (((Kept.refl W).trans kr).trans ko)).blk 0 rfl) Tryz.underlying39 sA info_ow ?_)
    | (refine load_w 39 (.tmp 2) rfl w.heap.size rfl rfl A 19 ((HS.out.go ((((Kept.refl W).trans kr).trans ko).trans kp)).blk 0 rfl) Tryz.underlying39 sA info_ow ?_)
    | (refine load_w 39 (.tmp 2) rfl w.heap.size rfl rfl A 19 ((HS.out.go (((((Kept.refl W).trans kr).trans ko).trans kp).trans ks)).blk 0 rfl) Tryz.underlying39 sA info_ow ?_))
  go_ret3
  exact ⟨rfl, HS.out.kept.trans (((((Kept.refl W).trans kr).trans ko).trans kp).trans ks)⟩

set_option maxRecDepth 100000 in
set_option maxHeartbeats 4000000 in
theorem settled4 {w : World} {q : Option Addr} {N c : Nat} {K : List Cl} (o : Ow) (now : Int) (hv : Cls w (.slice q N c) K) (h : o.ka = 0) (hN : ¬ N = 0) (hO : openL K = 0) (hw : worstL K = 1) :
    Calls Tryz.prog 18 #[.agg (o.arr q N c), .int .i64 now] w fun e w' => e = .returned (.tuple #[.int .i64 (stl o K now).1, .int .i64 (stl o K now).2.1, .bool (stl o K now).2.2]) ∧ Kept w w' := by
  have hNK : K.length = N := by obtain ⟨p, cap, e⟩ := hv.shape; cases e; rfl
  rw [stl_cancelled ⟨h, fun c => hN (by rw [← hNK, c]; rfl), hO⟩ hw]
  obtain ⟨A, hA⟩ : ∃ A, o.arr q N c = A := ⟨_, rfl⟩
  have sA : A.size = 19 := by rw [← hA]; rfl
  obtain ⟨W, hW⟩ : ∃ W, w.alloc (.cells A 39) = W := ⟨_, rfl⟩
  have hL : Bl w W [(A, 39)] := hW ▸ Bl.one w A _
  have h3 : W.cell? ⟨w.heap.size, 3, none⟩ = some (.int .i64 o.ka) := (hL.cell 0 3 rfl).trans (by rw [← hA]; rfl)
  have h13 : W.cell? ⟨w.heap.size, 13, none⟩ = some (.int .i64 o.dl) := (hL.cell 0 13 rfl).trans (by rw [← hA]; rfl)
  have h18 : W.cell? ⟨w.heap.size, 18, none⟩ = some (.slice q N c) := (hL.cell 0 18 rfl).trans (by rw [← hA]; rfl)
  have HS := Lib.hid hL
  have CR := Lib.hid (show ∀ u, Kept W u → Calls Tryz.prog 34 #[.agg A] u fun e w' => e = .returned (.bool true) ∧ Kept u w' from fun u hu => by rw [← hA]; have := isroot_any o q N c u; rw [show (o.ka == 0) = true from beq_iff_eq.2 h] at this; exact this)
  obtain ⟨yo, hyo⟩ : ∃ y, openL K = y := ⟨_, rfl⟩
  have hyl := open_lo K
  rw [hyo] at hyl
  have CO := Lib.hid (show ∀ u, Kept W u → Calls Tryz.prog 35 #[.agg A] u fun e w' => e = .returned (.int .i64 yo) ∧ Kept u w' from fun u hu => by rw [← hA]; rw [← hyo]; exact open_any o (hv.go (HS.out.kept.trans hu)))
  rw [hyo] at hO
  obtain ⟨a, ha⟩ : ∃ y, worstL K = y := ⟨_, rfl⟩
  have CW := Lib.hid (show ∀ u, Kept W u → Calls Tryz.prog 36 #[.agg A] u fun e w' => e = .returned (.int .i64 a) ∧ Kept u w' from fun u hu => by rw [← hA]; rw [← ha]; exact worst_any o (hv.go (HS.out.kept.trans hu)))
  rw [ha] at hw
  have c13 : A[13]? = some (.int .i64 o.dl) := by rw [← hA]; rfl
  have c18 : A[18]? = some (.slice q N c) := by rw [← hA]; rfl
  have hNb : ((N : Int) == 0) = false := beq_eq_false_iff_ne.2 (by omega)
  rw [hA]
  have HW := Lib.hid hW
  clear hW hL hA
  rw [h] at h3
  go_enter Tryz.func18, Tryz.ntmps18
  go_upto_region 1 with fail
  rw [HW.out]
  go_wp2_with (first
    | (go_at_call 34; refine (CR.out _ (Kept.refl W)).mono ?_; rintro e ur ⟨rfl, kr⟩; have g13r : ur.cell? ⟨w.heap.size, 13, none⟩ = some (.int .i64 o.dl) := ((HS.out.go ((Kept.refl W).trans kr)).cell 0 13 rfl).trans c13; have g18r : ur.cell? ⟨w.heap.size, 18, none⟩ = some (.slice q N c) := ((HS.out.go ((Kept.refl W).trans kr)).cell 0 18 rfl).trans c18)
    | (go_at_call 35; refine (CO.out _ ((Kept.refl W).trans kr)).mono ?_; rintro e uo ⟨rfl, ko⟩; have g13o : uo.cell? ⟨w.heap.size, 13, none⟩ = some (.int .i64 o.dl) := ((HS.out.go (((Kept.refl W).trans kr).trans ko)).cell 0 13 rfl).trans c13; have g18o : uo.cell? ⟨w.heap.size, 18, none⟩ = some (.slice q N c) := ((HS.out.go (((Kept.refl W).trans kr).trans ko)).cell 0 18 rfl).trans c18)
    | (go_at_call 36; refine (CW.out _ (((Kept.refl W).trans kr).trans ko)).mono ?_; rintro e up ⟨rfl, kp⟩; have g13p : up.cell? ⟨w.heap.size, 13, none⟩ = some (.int .i64 o.dl) := ((HS.out.go ((((Kept.refl W).trans kr).trans ko).trans kp)).cell 0 13 rfl).trans c13; have g18p : up.cell? ⟨w.heap.size, 18, none⟩ = some (.slice q N c) := ((HS.out.go ((((Kept.refl W).trans kr).trans ko).trans kp)).cell 0 18 rfl).trans c18)
    | (refine load_w 39 (.tmp 2) rfl w.heap.size rfl rfl A 19 (HS.out.blk 0 rfl) Tryz.underlying39 sA info_ow ?_)
    | (refine load_w 39 (.tmp 2) rfl w.heap.size rfl rfl A 19 ((HS.out.go ((Kept.refl W).trans kr)).blk 0 rfl) Tryz.underlying39 sA info_ow ?_)
    | (refine load_w 39 (.tmp 2) rfl w.heap.size rfl rfl A 19 ((HS.out.go (((Kept.refl W).trans kr).trans ko)).blk 0 rfl) Tryz.underlying39 sA info_ow ?_)
    | (refine load_w 39 (.tmp 2) rfl w.heap.size rfl rfl A 19 ((HS.out.go ((((Kept.refl W).trans kr).trans ko).trans kp)).blk 0 rfl) Tryz.underlying39 sA info_ow ?_))
  go_ret3
  exact ⟨rfl, HS.out.kept.trans ((((Kept.refl W).trans kr).trans ko).trans kp)⟩

set_option maxRecDepth 100000 in
set_option maxHeartbeats 4000000 in
theorem settled5 {w : World} {q : Option Addr} {N c : Nat} {K : List Cl} (o : Ow) (now : Int) (hv : Cls w (.slice q N c) K) (h : o.ka = 0) (hN : ¬ N = 0) (hO : openL K = 0) (hw : worstL K = 4) (hl : 0 < Tk.sub o.dl now) :
    Calls Tryz.prog 18 #[.agg (o.arr q N c), .int .i64 now] w fun e w' => e = .returned (.tuple #[.int .i64 (stl o K now).1, .int .i64 (stl o K now).2.1, .bool (stl o K now).2.2]) ∧ Kept w w' := by
  have hNK : K.length = N := by obtain ⟨p, cap, e⟩ := hv.shape; cases e; rfl
  rw [stl_early ⟨h, fun c => hN (by rw [← hNK, c]; rfl), hO⟩ hw hl]
  obtain ⟨A, hA⟩ : ∃ A, o.arr q N c = A := ⟨_, rfl⟩
  have sA : A.size = 19 := by rw [← hA]; rfl
  obtain ⟨W, hW⟩ : ∃ W, w.alloc (.cells A 39) = W := ⟨_, rfl⟩
  have hL : Bl w W [(A, 39)] := hW ▸ Bl.one w A _
  have h3 : W.cell? ⟨w.heap.size, 3, none⟩ = some (.int .i64 o.ka) := (hL.cell 0 3 rfl).trans (by rw [← hA]; rfl)
  have h13 : W.cell? ⟨w.heap.size, 13, none⟩ = some (.int .i64 o.dl) := (hL.cell 0 13 rfl).trans (by rw [← hA]; rfl)
  have h18 : W.cell? ⟨w.heap.size, 18, none⟩ = some (.slice q N c) := (hL.cell 0 18 rfl).trans (by rw [← hA]; rfl)
  have HS := Lib.hid hL
  have CR := Lib.hid (show ∀ u, Kept W u → Calls Tryz.prog 34 #[.agg A] u fun e w' => e = .returned (.bool true) ∧ Kept u w' from fun u hu => by rw [← hA]; have := isroot_any o q N c u; rw [show (o.ka == 0) = true from beq_iff_eq.2 h] at this; exact this)
  obtain ⟨yo, hyo⟩ : ∃ y, openL K = y := ⟨_, rfl⟩
  have hyl := open_lo K
  rw [hyo] at hyl
  have CO := Lib.hid (show ∀ u, Kept W u → Calls Tryz.prog 35 #[.agg A] u fun e w' => e = .returned (.int .i64 yo) ∧ Kept u w' from fun u hu => by rw [← hA]; rw [← hyo]; exact open_any o (hv.go (HS.out.kept.trans hu)))
  rw [hyo] at hO
  obtain ⟨a, ha⟩ : ∃ y, worstL K = y := ⟨_, rfl⟩
  have CW := Lib.hid (show ∀ u, Kept W u → Calls Tryz.prog 36 #[.agg A] u fun e w' => e = .returned (.int .i64 a) ∧ Kept u w' from fun u hu => by rw [← hA]; rw [← ha]; exact worst_any o (hv.go (HS.out.kept.trans hu)))
  rw [ha] at hw
  obtain ⟨z, hz⟩ : ∃ y, Tk.sub o.dl now = y := ⟨_, rfl⟩
  rw [hz] at hl
  have CL := Lib.hid (show ∀ u, Calls Tryz.prog 38 #[.int .i64 o.dl, .int .i64 now] u fun e w' => e = .returned (.int .i64 z) ∧ u = w' from fun u => by rw [← hz]; exact Bu.left_any _ _ u)
  have c13 : A[13]? = some (.int .i64 o.dl) := by rw [← hA]; rfl
  have c18 : A[18]? = some (.slice q N c) := by rw [← hA]; rfl
  have hNb : ((N : Int) == 0) = false := beq_eq_false_iff_ne.2 (by omega)
  rw [hA]
  have HW := Lib.hid hW
  clear hW hL hA
  rw [h] at h3
  go_enter Tryz.func18, Tryz.ntmps18
  go_upto_region 1 with fail
  rw [HW.out]
  go_wp2_with (first
    | (go_at_call 34; refine (CR.out _ (Kept.refl W)).mono ?_; rintro e ur ⟨rfl, kr⟩; have g13r : ur.cell? ⟨w.heap.size, 13, none⟩ = some (.int .i64 o.dl) := ((HS.out.go ((Kept.refl W).trans kr)).cell 0 13 rfl).trans c13; have g18r : ur.cell? ⟨w.heap.size, 18, none⟩ = some (.slice q N c) := ((HS.out.go ((Kept.refl W).trans kr)).cell 0 18 rfl).trans c18)
    | (go_at_call 35; refine (CO.out _ ((Kept.refl W).trans kr)).mono ?_; rintro e uo ⟨rfl, ko⟩; have g13o : uo.cell? ⟨w.heap.size, 13, none⟩ = some (.int .i64 o.dl) := ((HS.out.go (((Kept.refl W).trans kr).trans ko)).cell 0 13 rfl).trans c13; have g18o : uo.cell? ⟨w.heap.size, 18, none⟩ = some (.slice q N c) := ((HS.out.go (((Kept.refl W).trans kr).trans ko)).cell 0 18 rfl).trans c18)
    | (go_at_call 36; refine (CW.out _ (((Kept.refl W).trans kr).trans ko)).mono ?_; rintro e up ⟨rfl, kp⟩; have g13p : up.cell? ⟨w.heap.size, 13, none⟩ = some (.int .i64 o.dl) := ((HS.out.go ((((Kept.refl W).trans kr).trans ko).trans kp)).cell 0 13 rfl).trans c13; have g18p : up.cell? ⟨w.heap.size, 18, none⟩ = some (.slice q N c) := ((HS.out.go ((((Kept.refl W).trans kr).trans ko).trans kp)).cell 0 18 rfl).trans c18)
    | (go_at_call 38; refine (CL.out _).mono ?_; rintro e ul ⟨rfl, rfl⟩)
    | (refine load_w 39 (.tmp 2) rfl w.heap.size rfl rfl A 19 (HS.out.blk 0 rfl) Tryz.underlying39 sA info_ow ?_)
    | (refine load_w 39 (.tmp 2) rfl w.heap.size rfl rfl A 19 ((HS.out.go ((Kept.refl W).trans kr)).blk 0 rfl) Tryz.underlying39 sA info_ow ?_)
    | (refine load_w 39 (.tmp 2) rfl w.heap.size rfl rfl A 19 ((HS.out.go (((Kept.refl W).trans kr).trans ko)).blk 0 rfl) Tryz.underlying39 sA info_ow ?_)
    | (refine load_w 39 (.tmp 2) rfl w.heap.size rfl rfl A 19 ((HS.out.go ((((Kept.refl W).trans kr).trans ko).trans kp)).blk 0 rfl) Tryz.underlying39 sA info_ow ?_))
  go_ret3
  exact ⟨rfl, HS.out.kept.trans ((((Kept.refl W).trans kr).trans ko).trans kp)⟩

set_option maxRecDepth 100000 in
set_option maxHeartbeats 4000000 in
theorem settled6 {w : World} {q : Option Addr} {N c : Nat} {K : List Cl} (o : Ow) (now : Int) (hv : Cls w (.slice q N c) K) (h : o.ka = 0) (hN : ¬ N = 0) (hO : openL K = 0) (hw : worstL K = 4) (hl : ¬ 0 < Tk.sub o.dl now) :
    Calls Tryz.prog 18 #[.agg (o.arr q N c), .int .i64 now] w fun e w' => e = .returned (.tuple #[.int .i64 (stl o K now).1, .int .i64 (stl o K now).2.1, .bool (stl o K now).2.2]) ∧ Kept w w' := by
  have hNK : K.length = N := by obtain ⟨p, cap, e⟩ := hv.shape; cases e; rfl
  rw [stl_late ⟨h, fun c => hN (by rw [← hNK, c]; rfl), hO⟩ hw hl]
  obtain ⟨A, hA⟩ : ∃ A, o.arr q N c = A := ⟨_, rfl⟩
  have sA : A.size = 19 := by rw [← hA]; rfl
  obtain ⟨W, hW⟩ : ∃ W, w.alloc (.cells A 39) = W := ⟨_, rfl⟩
  have hL : Bl w W [(A, 39)] := hW ▸ Bl.one w A _
  have h3 : W.cell? ⟨w.heap.size, 3, none⟩ = some (.int .i64 o.ka) := (hL.cell 0 3 rfl).trans (by rw [← hA]; rfl)
  have h13 : W.cell? ⟨w.heap.size, 13, none⟩ = some (.int .i64 o.dl) := (hL.cell 0 13 rfl).trans (by rw [← hA]; rfl)
  have h18 : W.cell? ⟨w.heap.size, 18, none⟩ = some (.slice q N c) := (hL.cell 0 18 rfl).trans (by rw [← hA]; rfl)
  have HS := Lib.hid hL
  have CR := Lib.hid (show ∀ u, Kept W u → Calls Tryz.prog 34 #[.agg A] u fun e w' => e = .returned (.bool true) ∧ Kept u w' from fun u hu => by rw [← hA]; have := isroot_any o q N c u; rw [show (o.ka == 0) = true from beq_iff_eq.2 h] at this; exact this)
  obtain ⟨yo, hyo⟩ : ∃ y, openL K = y := ⟨_, rfl⟩
  have hyl := open_lo K
  rw [hyo] at hyl
  have CO := Lib.hid (show ∀ u, Kept W u → Calls Tryz.prog 35 #[.agg A] u fun e w' => e = .returned (.int .i64 yo) ∧ Kept u w' from fun u hu => by rw [← hA]; rw [← hyo]; exact open_any o (hv.go (HS.out.kept.trans hu)))
  rw [hyo] at hO
  obtain ⟨a, ha⟩ : ∃ y, worstL K = y := ⟨_, rfl⟩
  have CW := Lib.hid (show ∀ u, Kept W u → Calls Tryz.prog 36 #[.agg A] u fun e w' => e = .returned (.int .i64 a) ∧ Kept u w' from fun u hu => by rw [← hA]; rw [← ha]; exact worst_any o (hv.go (HS.out.kept.trans hu)))
  rw [ha] at hw
  obtain ⟨z, hz⟩ : ∃ y, Tk.sub o.dl now = y := ⟨_, rfl⟩
  rw [hz] at hl
  have CL := Lib.hid (show ∀ u, Calls Tryz.prog 38 #[.int .i64 o.dl, .int .i64 now] u fun e w' => e = .returned (.int .i64 z) ∧ u = w' from fun u => by rw [← hz]; exact Bu.left_any _ _ u)
  have c13 : A[13]? = some (.int .i64 o.dl) := by rw [← hA]; rfl
  have c18 : A[18]? = some (.slice q N c) := by rw [← hA]; rfl
  have hNb : ((N : Int) == 0) = false := beq_eq_false_iff_ne.2 (by omega)
  rw [hA]
  have HW := Lib.hid hW
  clear hW hL hA
  rw [h] at h3
  go_enter Tryz.func18, Tryz.ntmps18
  go_upto_region 1 with fail
  rw [HW.out]
  go_wp2_with (first
    | (go_at_call 34; refine (CR.out _ (Kept.refl W)).mono ?_; rintro e ur ⟨rfl, kr⟩; have g13r : ur.cell? ⟨w.heap.size, 13, none⟩ = some (.int .i64 o.dl) := ((HS.out.go ((Kept.refl W).trans kr)).cell 0 13 rfl).trans c13; have g18r : ur.cell? ⟨w.heap.size, 18, none⟩ = some (.slice q N c) := ((HS.out.go ((Kept.refl W).trans kr)).cell 0 18 rfl).trans c18)
    | (go_at_call 35; refine (CO.out _ ((Kept.refl W).trans kr)).mono ?_; rintro e uo ⟨rfl, ko⟩; have g13o : uo.cell? ⟨w.heap.size, 13, none⟩ = some (.int .i64 o.dl) := ((HS.out.go (((Kept.refl W).trans kr).trans ko)).cell 0 13 rfl).trans c13; have g18o : uo.cell? ⟨w.heap.size, 18, none⟩ = some (.slice q N c) := ((HS.out.go (((Kept.refl W).trans kr).trans ko)).cell 0 18 rfl).trans c18)
    | (go_at_call 36; refine (CW.out _ (((Kept.refl W).trans kr).trans ko)).mono ?_; rintro e up ⟨rfl, kp⟩; have g13p : up.cell? ⟨w.heap.size, 13, none⟩ = some (.int .i64 o.dl) := ((HS.out.go ((((Kept.refl W).trans kr).trans ko).trans kp)).cell 0 13 rfl).trans c13; have g18p : up.cell? ⟨w.heap.size, 18, none⟩ = some (.slice q N c) := ((HS.out.go ((((Kept.refl W).trans kr).trans ko).trans kp)).cell 0 18 rfl).trans c18)
    | (go_at_call 38; refine (CL.out _).mono ?_; rintro e ul ⟨rfl, rfl⟩)
    | (refine load_w 39 (.tmp 2) rfl w.heap.size rfl rfl A 19 (HS.out.blk 0 rfl) Tryz.underlying39 sA info_ow ?_)
    | (refine load_w 39 (.tmp 2) rfl w.heap.size rfl rfl A 19 ((HS.out.go ((Kept.refl W).trans kr)).blk 0 rfl) Tryz.underlying39 sA info_ow ?_)
    | (refine load_w 39 (.tmp 2) rfl w.heap.size rfl rfl A 19 ((HS.out.go (((Kept.refl W).trans kr).trans ko)).blk 0 rfl) Tryz.underlying39 sA info_ow ?_)
    | (refine load_w 39 (.tmp 2) rfl w.heap.size rfl rfl A 19 ((HS.out.go ((((Kept.refl W).trans kr).trans ko).trans kp)).blk 0 rfl) Tryz.underlying39 sA info_ow ?_))
  go_ret3
  exact ⟨rfl, HS.out.kept.trans ((((Kept.refl W).trans kr).trans ko).trans kp)⟩

set_option maxRecDepth 100000 in
set_option maxHeartbeats 4000000 in
theorem settled7 {w : World} {q : Option Addr} {N c : Nat} {K : List Cl} (o : Ow) (now : Int) (hv : Cls w (.slice q N c) K) (h : o.ka = 0) (hN : ¬ N = 0) (hO : openL K = 0) (hw0 : ¬ worstL K = 0) (hw1 : ¬ worstL K = 1) (hw4 : ¬ worstL K = 4) :
    Calls Tryz.prog 18 #[.agg (o.arr q N c), .int .i64 now] w fun e w' => e = .returned (.tuple #[.int .i64 (stl o K now).1, .int .i64 (stl o K now).2.1, .bool (stl o K now).2.2]) ∧ Kept w w' := by
  have hNK : K.length = N := by obtain ⟨p, cap, e⟩ := hv.shape; cases e; rfl
  rw [stl_else ⟨h, fun c => hN (by rw [← hNK, c]; rfl), hO⟩ hw0 hw1 hw4]
  obtain ⟨A, hA⟩ : ∃ A, o.arr q N c = A := ⟨_, rfl⟩
  have sA : A.size = 19 := by rw [← hA]; rfl
  obtain ⟨W, hW⟩ : ∃ W, w.alloc (.cells A 39) = W := ⟨_, rfl⟩
  have hL : Bl w W [(A, 39)] := hW ▸ Bl.one w A _
  have h3 : W.cell? ⟨w.heap.size, 3, none⟩ = some (.int .i64 o.ka) := (hL.cell 0 3 rfl).trans (by rw [← hA]; rfl)
  have h13 : W.cell? ⟨w.heap.size, 13, none⟩ = some (.int .i64 o.dl) := (hL.cell 0 13 rfl).trans (by rw [← hA]; rfl)
  have h18 : W.cell? ⟨w.heap.size, 18, none⟩ = some (.slice q N c) := (hL.cell 0 18 rfl).trans (by rw [← hA]; rfl)
  have HS := Lib.hid hL
  have CR := Lib.hid (show ∀ u, Kept W u → Calls Tryz.prog 34 #[.agg A] u fun e w' => e = .returned (.bool true) ∧ Kept u w' from fun u hu => by rw [← hA]; have := isroot_any o q N c u; rw [show (o.ka == 0) = true from beq_iff_eq.2 h] at this; exact this)
  obtain ⟨yo, hyo⟩ : ∃ y, openL K = y := ⟨_, rfl⟩
  have hyl := open_lo K
  rw [hyo] at hyl
  have CO := Lib.hid (show ∀ u, Kept W u → Calls Tryz.prog 35 #[.agg A] u fun e w' => e = .returned (.int .i64 yo) ∧ Kept u w' from fun u hu => by rw [← hA]; rw [← hyo]; exact open_any o (hv.go (HS.out.kept.trans hu)))
  rw [hyo] at hO
  obtain ⟨a, ha⟩ : ∃ y, worstL K = y := ⟨_, rfl⟩
  have CW := Lib.hid (show ∀ u, Kept W u → Calls Tryz.prog 36 #[.agg A] u fun e w' => e = .returned (.int .i64 a) ∧ Kept u w' from fun u hu => by rw [← hA]; rw [← ha]; exact worst_any o (hv.go (HS.out.kept.trans hu)))
  rw [ha] at hw0
  rw [ha] at hw1
  rw [ha] at hw4
  rw [ha]
  have c13 : A[13]? = some (.int .i64 o.dl) := by rw [← hA]; rfl
  have c18 : A[18]? = some (.slice q N c) := by rw [← hA]; rfl
  have hNb : ((N : Int) == 0) = false := beq_eq_false_iff_ne.2 (by omega)
  rw [hA]
  have HW := Lib.hid hW
  clear hW hL hA
  rw [h] at h3
  go_enter Tryz.func18, Tryz.ntmps18
  go_upto_region 1 with fail
  rw [HW.out]
  go_wp2_with (first
    | (go_at_call 34; refine (CR.out _ (Kept.refl W)).mono ?_; rintro e ur ⟨rfl, kr⟩; have g13r : ur.cell? ⟨w.heap.size, 13, none⟩ = some (.int .i64 o.dl) := ((HS.out.go ((Kept.refl W).trans kr)).cell 0 13 rfl).trans c13; have g18r : ur.cell? ⟨w.heap.size, 18, none⟩ = some (.slice q N c) := ((HS.out.go ((Kept.refl W).trans kr)).cell 0 18 rfl).trans c18)
    | (go_at_call 35; refine (CO.out _ ((Kept.refl W).trans kr)).mono ?_; rintro e uo ⟨rfl, ko⟩; have g13o : uo.cell? ⟨w.heap.size, 13, none⟩ = some (.int .i64 o.dl) := ((HS.out.go (((Kept.refl W).trans kr).trans ko)).cell 0 13 rfl).trans c13; have g18o : uo.cell? ⟨w.heap.size, 18, none⟩ = some (.slice q N c) := ((HS.out.go (((Kept.refl W).trans kr).trans ko)).cell 0 18 rfl).trans c18)
    | (go_at_call 36; refine (CW.out _ (((Kept.refl W).trans kr).trans ko)).mono ?_; rintro e up ⟨rfl, kp⟩; have g13p : up.cell? ⟨w.heap.size, 13, none⟩ = some (.int .i64 o.dl) := ((HS.out.go ((((Kept.refl W).trans kr).trans ko).trans kp)).cell 0 13 rfl).trans c13; have g18p : up.cell? ⟨w.heap.size, 18, none⟩ = some (.slice q N c) := ((HS.out.go ((((Kept.refl W).trans kr).trans ko).trans kp)).cell 0 18 rfl).trans c18)
    | (refine load_w 39 (.tmp 2) rfl w.heap.size rfl rfl A 19 (HS.out.blk 0 rfl) Tryz.underlying39 sA info_ow ?_)
    | (refine load_w 39 (.tmp 2) rfl w.heap.size rfl rfl A 19 ((HS.out.go ((Kept.refl W).trans kr)).blk 0 rfl) Tryz.underlying39 sA info_ow ?_)
    | (refine load_w 39 (.tmp 2) rfl w.heap.size rfl rfl A 19 ((HS.out.go (((Kept.refl W).trans kr).trans ko)).blk 0 rfl) Tryz.underlying39 sA info_ow ?_)
    | (refine load_w 39 (.tmp 2) rfl w.heap.size rfl rfl A 19 ((HS.out.go ((((Kept.refl W).trans kr).trans ko).trans kp)).blk 0 rfl) Tryz.underlying39 sA info_ow ?_))
  go_ret3
  exact ⟨rfl, HS.out.kept.trans ((((Kept.refl W).trans kr).trans ko).trans kp)⟩

theorem settled_any {w : World} {q : Option Addr} {N c : Nat} {K : List Cl} (o : Ow) (now : Int) (hv : Cls w (.slice q N c) K) :
    Calls Tryz.prog 18 #[.agg (o.arr q N c), .int .i64 now] w fun e w' => e = .returned (.tuple #[.int .i64 (stl o K now).1, .int .i64 (stl o K now).2.1, .bool (stl o K now).2.2]) ∧ Kept w w' := by
  by_cases h : o.ka = 0
  · by_cases hN : N = 0
    · exact settled1 o now hv h hN
    by_cases hO : openL K = 0
    · by_cases h0 : worstL K = 0
      · exact settled3 o now hv h hN hO h0
      by_cases h1 : worstL K = 1
      · exact settled4 o now hv h hN hO h1
      by_cases h4 : worstL K = 4
      · by_cases hl : 0 < Tk.sub o.dl now
        · exact settled5 o now hv h hN hO h4 hl
        · exact settled6 o now hv h hN hO h4 hl
      · exact settled7 o now hv h hN hO h0 h1 h4
    · exact settled2 o now hv h hN hO
  · exact settled0 o now hv h










end Go.Proofs.YtncdiggejofbbaaGreatDoor.Sn
