/- The law: answers, cancels, leases that go along, and what a root ends with. -/
import Derived.Test.YtncdiggejofbbaaDoorSn6
import Derived.Test.YtncdiggejofbbaaDoorSn9
import Derived.Test.YtncdiggejofbbaaDoorSnW
import Derived.Test.YtncdiggejofbbaaDoorOwE
import Derived.Test.YtncdiggejofbbaaDoorSnC
namespace Go.Proofs.YtncdiggejofbbaaDoor.Sn
open Go.RowKit Go.Sort Go.Shelf St PkM Ad Po Blk Eqs
open Go.Proofs.YtncdiggejofbbaaDoor.Cl
open Go.Proofs.YtncdiggejofbbaaDoor.Ow
open Go.Proofs.YtncdiggejofbbaaDoor.Ls
open Go.Proofs.YtncdiggejofbbaaDoor.Rv
open Go.Proofs.YtncdiggejofbbaaDoor.Au (Stab stab_and)
open Go.Proofs.YtncdiggejofbbaaDoor.Ad (load_w load_l store_new)
set_option linter.unusedVariables false
set_option linter.unusedSimpArgs false

theorem mps {v : Value} {L : List Pk} : Stab (fun u => Mp u v L) := fun u u' h k => h.keep k
theorem mp_ls {W : World} {v : Value} {L : List Pk} (h : Mp W v L) (hl : L.length ≤ 1000000) : Ls 23 encP W v L := ls_row encP_len h hl

set_option maxRecDepth 100000 in
set_option maxHeartbeats 4000000 in
theorem tells_any {w : World} {q : Option Addr} {N c : Nat} {K : List Cl} (me : Int) (o : Ow) (now n vv dly : Int) (hv : Cls w (.slice q N c) K) (ht : Tm.Tab w) :
    Calls Tryd.prog 5 #[.int .i64 me, .agg (o.arr q N c), .int .i64 now, .int .i64 n, .int .i64 vv, .int .i64 dly] w fun e w' => e = .returned (.bool true) ∧ Kept w w' := by
  have hN : K.length = N := by obtain ⟨p, cap, e⟩ := hv.shape; cases e; rfl
  obtain ⟨A, hA⟩ : ∃ A, o.arr q N c = A := ⟨_, rfl⟩
  have sA : A.size = 19 := by rw [← hA]; rfl
  obtain ⟨W, hW⟩ : ∃ W, w.alloc (.cells A 31) = W := ⟨_, rfl⟩
  have hb : Bl w W [(A, 31)] := hW ▸ Bl.one w A _
  have h18 : W.cell? ⟨w.heap.size, 18, none⟩ = some (.slice q N c) := (hb.cell 0 18 rfl).trans (by rw [← hA]; rfl)
  have HW := Lib.hid hW
  have HS0 := Lib.hid hb
  have HA := Lib.hid hA
  have HAW := Lib.hid (show ∀ u, Kept w u → Calls Tryd.prog 8 #[] u fun e w' => e = .returned (.bool true) ∧ Kept u w' from fun u hu => awake_any u (ht.kept hu))
  rw [hA]
  by_cases hok : N ≤ 30
  · have e1 : ¬ 30 < (N : Int) := by omega
    have CM := Lib.hid (show ∀ u, Kept w u → Calls Tryd.prog 10 #[.agg A] u fun e w' => ∃ q' n' c', e = .returned (.agg (o.arr q' n' c')) ∧ Mc w' (.slice q' n' c') K ∧ (∀ g, (Value.slice q' n' c').ownBlock = some g → u.heap.size ≤ g) ∧ Kept u w' from fun u hu => by rw [← hA]; exact mine_any o (hv.go hu) (by omega))
    obtain ⟨a1, a2, a3, ha⟩ : ∃ x y z, stl o K now = (x, y, z) := ⟨_, _, _, rfl⟩
    have CS := Lib.hid (fun (u : World) (q' : Option Addr) (n' c' : Nat) (h : Mc u (.slice q' n' c') K) => (by have := settled_any o now (mc_cls h (by omega)); rw [ha] at this; exact this : Calls Tryd.prog 22 #[.agg (o.arr q' n' c'), .int .i64 now] u fun e w' => e = .returned (.tuple #[.int .i64 a1, .int .i64 a2, .bool a3]) ∧ Kept u w'))
    have CR := Lib.hid (fun (u : World) (h : Kept w u) => (by have := rsettled_any o now (hv.go h); rw [ha, hA] at this; exact this : Calls Tryd.prog 23 #[.agg A, .int .i64 now] u fun e w' => e = .returned (.tuple #[.int .i64 a1, .int .i64 a2, .bool a3]) ∧ Kept u w'))
    have HV := Lib.hid hv
    have HN := Lib.hid (And.intro hN hok)
    clear hv ht hb hW hN hA hok ha
    go_enter Tryd.func5, Tryd.ntmps5
    go_upto_region 1 with fail
    rw [HW.out]
    go_upto_region 4 with (first
      | (refine load_w 31 (.tmp 7) rfl w.heap.size rfl rfl A 19 (HS0.out.blk 0 rfl) Tryd.underlying31 sA info_row ?_)
      | (go_at_call 10; refine (CM.out _ HS0.out.kept).mono ?_; rintro e u1 ⟨q1, n1, c1, rfl, s1, -, k1⟩)
      | (refine store_new rfl 42 (.tmp 13) (.tmp 26) rfl u1.heap.size (o.arr q1 n1 c1) rfl rfl u1 _ rfl 19 info_ow rfl rfl (arr_one _ _ _ _) ?_))
    obtain ⟨V, hV⟩ : ∃ V, u1.alloc (.cells (o.arr q1 n1 c1) 42) = V := ⟨_, rfl⟩
    rw [hV]
    have kV : Kept u1 V := by rw [← hV]; exact Kept.one _ _
    have bV : V.heap[u1.heap.size]? = some (.cells (o.arr q1 n1 c1) 42 (0, 0)) := by rw [← hV]; exact blk_new u1 _
    obtain ⟨g, hg⟩ : ∃ g, u1.heap.size = g := ⟨_, rfl⟩
    rw [hg] at bV ⊢
    obtain ⟨E, hE⟩ : ∃ E, o.arr q1 n1 c1 = E := ⟨_, rfl⟩
    have HZ := Lib.hid (And.intro ((HS0.out.go k1).go kV) (And.intro (show V.heap[g]? = some (.cells E 42 (0, 0)) by rw [← hE]; exact bV) (s1.keep kV)))
    have HE := Lib.hid hE
    have sE : E.size = 19 := by rw [← hE]; rfl
    clear hV kV bV hg s1 k1 h18 e1
    obtain ⟨P1, hP1⟩ : ∃ p, rpl me o n vv = p := ⟨_, rfl⟩
    have CP1 := Lib.hid (show ∀ u, Calls Tryd.prog 16 #[.int .i64 me, .agg (o.arr q1 n1 c1), .int .i64 n, .int .i64 vv] u fun e w' => e = .returned (.agg P1.arr) ∧ Kept u w' from fun u => by rw [← hP1]; exact reply_any me o n vv q1 n1 c1 u)
    have DP1 := Lib.hid (show ∀ u, Calls Tryd.prog 17 #[.int .i64 me, .agg A, .int .i64 n, .int .i64 vv] u fun e w' => e = .returned (.agg P1.arr) ∧ Kept u w' from fun u => by rw [← hP1, ← HA.out]; exact rreply_any me o n vv q N c u)
    have eP1 : ∀ u, (binOp .neq 37 (.agg P1.arr) (.agg P1.arr)).run Tryd.prog u = .ok (.bool false) u := fun u => (Pk.neq_run P1 P1 u).trans (by rw [same_self]; rfl)
    clear hP1
    obtain ⟨P2, hP2⟩ : ∃ p, mre me o = p := ⟨_, rfl⟩
    have CP2 := Lib.hid (show ∀ u, Calls Tryd.prog 18 #[.int .i64 me, .agg (o.arr q1 n1 c1)] u fun e w' => e = .returned (.agg P2.arr) ∧ Kept u w' from fun u => by rw [← hP2]; exact more_any me o q1 n1 c1 u)
    have DP2 := Lib.hid (show ∀ u, Calls Tryd.prog 19 #[.int .i64 me, .agg A] u fun e w' => e = .returned (.agg P2.arr) ∧ Kept u w' from fun u => by rw [← hP2, ← HA.out]; exact rmore_any me o q N c u)
    have eP2 : ∀ u, (binOp .neq 37 (.agg P2.arr) (.agg P2.arr)).run Tryd.prog u = .ok (.bool false) u := fun u => (Pk.neq_run P2 P2 u).trans (by rw [same_self]; rfl)
    clear hP2
    obtain ⟨P3, hP3⟩ : ∃ p, rfs me o dly = p := ⟨_, rfl⟩
    have CP3 := Lib.hid (show ∀ u, Calls Tryd.prog 20 #[.int .i64 me, .agg (o.arr q1 n1 c1), .int .i64 dly] u fun e w' => e = .returned (.agg P3.arr) ∧ Kept u w' from fun u => by rw [← hP3]; exact refuse_any me o dly q1 n1 c1 u)
    have DP3 := Lib.hid (show ∀ u, Calls Tryd.prog 21 #[.int .i64 me, .agg A, .int .i64 dly] u fun e w' => e = .returned (.agg P3.arr) ∧ Kept u w' from fun u => by rw [← hP3, ← HA.out]; exact rrefuse_any me o dly q N c u)
    have eP3 : ∀ u, (binOp .neq 37 (.agg P3.arr) (.agg P3.arr)).run Tryd.prog u = .ok (.bool false) u := fun u => (Pk.neq_run P3 P3 u).trans (by rw [same_self]; rfl)
    clear hP3
    rw [hE] at CP1 CP2 CP3
    clear hE
    simp only [Act.put]
    go_cut [57] (fun tt wx => tt = .bool false ∧ Hid (Bl w wx [(A, 31)] ∧ wx.heap[g]? = some (.cells E 42 (0, 0)) ∧ Mc wx (.slice q1 n1 c1) K))
    case first =>
      have hST : Stab (fun u => Bl w u [(A, 31)] ∧ u.heap[g]? = some (.cells E 42 (0, 0)) ∧ Mc u (.slice q1 n1 c1) K) ∧ ∀ u, (fun u => Bl w u [(A, 31)] ∧ u.heap[g]? = some (.cells E 42 (0, 0)) ∧ Mc u (.slice q1 n1 c1) K) u → (fun u => Bl w u [(A, 31)] ∧ u.heap[g]? = some (.cells E 42 (0, 0)) ∧ Mc u (.slice q1 n1 c1) K) u := ⟨(stab_and bl_stab (stab_and blk_stab mcs)), fun u h => ⟨h.1, h.2.1, h.2.2⟩⟩
      refine AvT.region (fun u => Bl w u [(A, 31)] ∧ u.heap[g]? = some (.cells E 42 (0, 0)) ∧ Mc u (.slice q1 n1 c1) K) (fun u => Bl w u [(A, 31)] ∧ u.heap[g]? = some (.cells E 42 (0, 0)) ∧ Mc u (.slice q1 n1 c1) K) (by kernel_rfl) (hST.1 _ _ HZ.out (Kept.refl _).drew) ?_
      refine AvT.take 0 (some 27) (v := ?_) rfl rfl (by kernel_rfl) (by kernel_rfl) (by kernel_rfl) (fun _ _ _ h => h) hST (Au.yq_run (by rfl) (fun u hu => ?_)) ?_
      rotate_left
      · (clear hu; go_simp; try with_reducible rfl)
      simp only [Act.put, List.setIfInBounds_toArray, List.set_cons_zero, List.set_cons_succ]
      refine AvT.take 1 (some 28) rfl rfl (by kernel_rfl) (by kernel_rfl) (by kernel_rfl) (fun _ _ _ h => h) hST (Au.yq_load 42 (.tmp 13) rfl _ rfl (by rfl) (fun u hu => load_ow hu.2.1 sE)) ?_
      simp only [Act.put, List.setIfInBounds_toArray, List.set_cons_zero, List.set_cons_succ]
      refine AvT.take 2 (some 29) (v := ?_) rfl rfl (by kernel_rfl) (by kernel_rfl) (by kernel_rfl) (fun _ _ _ h => h) hST (Au.yq_run (by rfl) (fun u hu => ?_)) ?_
      rotate_left
      · (clear hu; go_simp; try with_reducible rfl)
      simp only [Act.put, List.setIfInBounds_toArray, List.set_cons_zero, List.set_cons_succ]
      refine AvT.take 3 (some 30) (v := ?_) rfl rfl (by kernel_rfl) (by kernel_rfl) (by kernel_rfl) (fun _ _ _ h => h) hST (Au.yq_run (by rfl) (fun u hu => ?_)) ?_
      rotate_left
      · (clear hu; go_simp; try with_reducible rfl)
      simp only [Act.put, List.setIfInBounds_toArray, List.set_cons_zero, List.set_cons_succ]
      refine AvT.take 4 (some 31) rfl rfl (by kernel_rfl) (by kernel_rfl) (by kernel_rfl) (fun _ _ _ h => h) hST (Au.yq_call 16 _ (by rfl) (fun u => by go_simp) (fun u hu => CP1.out u)) ?_
      simp only [Act.put, List.setIfInBounds_toArray, List.set_cons_zero, List.set_cons_succ]
      refine AvT.take 5 (some 32) (v := ?_) rfl rfl (by kernel_rfl) (by kernel_rfl) (by kernel_rfl) (fun _ _ _ h => h) hST (Au.yq_run (by rfl) (fun u hu => ?_)) ?_
      rotate_left
      · (clear hu; go_simp; try with_reducible rfl)
      simp only [Act.put, List.setIfInBounds_toArray, List.set_cons_zero, List.set_cons_succ]
      refine AvT.take 6 (some 33) rfl rfl (by kernel_rfl) (by kernel_rfl) (by kernel_rfl) (fun _ _ _ h => h) hST (Au.yq_load 31 (.tmp 7) rfl _ rfl (by rfl) (fun u hu => load_row (hu.1.blk 0 rfl) sA)) ?_
      simp only [Act.put, List.setIfInBounds_toArray, List.set_cons_zero, List.set_cons_succ]
      refine AvT.take 7 (some 34) (v := ?_) rfl rfl (by kernel_rfl) (by kernel_rfl) (by kernel_rfl) (fun _ _ _ h => h) hST (Au.yq_run (by rfl) (fun u hu => ?_)) ?_
      rotate_left
      · (clear hu; go_simp; try with_reducible rfl)
      simp only [Act.put, List.setIfInBounds_toArray, List.set_cons_zero, List.set_cons_succ]
      refine AvT.take 8 (some 35) (v := ?_) rfl rfl (by kernel_rfl) (by kernel_rfl) (by kernel_rfl) (fun _ _ _ h => h) hST (Au.yq_run (by rfl) (fun u hu => ?_)) ?_
      rotate_left
      · (clear hu; go_simp; try with_reducible rfl)
      simp only [Act.put, List.setIfInBounds_toArray, List.set_cons_zero, List.set_cons_succ]
      refine AvT.take 9 (some 36) rfl rfl (by kernel_rfl) (by kernel_rfl) (by kernel_rfl) (fun _ _ _ h => h) hST (Au.yq_call 17 _ (by rfl) (fun u => by go_simp) (fun u hu => DP1.out u)) ?_
      simp only [Act.put, List.setIfInBounds_toArray, List.set_cons_zero, List.set_cons_succ]
      refine AvT.take 10 (some 37) (v := .bool false) rfl rfl (by kernel_rfl) (by kernel_rfl) (by kernel_rfl) (fun _ _ _ h => h) hST (Au.yq_run (by rfl) (fun u hu => ?_)) ?_
      · have := eP1 u
        clear hu; go_simp
      simp only [Act.put, List.setIfInBounds_toArray, List.set_cons_zero, List.set_cons_succ]
      refine AvT.take 11 (some 38) (v := ?_) rfl rfl (by kernel_rfl) (by kernel_rfl) (by kernel_rfl) (fun _ _ _ h => h) hST (Au.yq_run (by rfl) (fun u hu => ?_)) ?_
      rotate_left
      · (clear hu; go_simp; try with_reducible rfl)
      simp only [Act.put, List.setIfInBounds_toArray, List.set_cons_zero, List.set_cons_succ]
      refine AvT.take 12 (some 39) (v := ?_) rfl rfl (by kernel_rfl) (by kernel_rfl) (by kernel_rfl) (fun _ _ _ h => h) hST (Au.yq_run (by rfl) (fun u hu => ?_)) ?_
      rotate_left
      · (clear hu; go_simp; try with_reducible rfl)
      simp only [Act.put, List.setIfInBounds_toArray, List.set_cons_zero, List.set_cons_succ]
      refine AvT.take 13 (some 40) rfl rfl (by kernel_rfl) (by kernel_rfl) (by kernel_rfl) (fun _ _ _ h => h) hST (Au.yq_load 42 (.tmp 13) rfl _ rfl (by rfl) (fun u hu => load_ow hu.2.1 sE)) ?_
      simp only [Act.put, List.setIfInBounds_toArray, List.set_cons_zero, List.set_cons_succ]
      refine AvT.take 14 (some 41) rfl rfl (by kernel_rfl) (by kernel_rfl) (by kernel_rfl) (fun _ _ _ h => h) hST (Au.yq_call 18 _ (by rfl) (fun u => by go_simp) (fun u hu => CP2.out u)) ?_
      simp only [Act.put, List.setIfInBounds_toArray, List.set_cons_zero, List.set_cons_succ]
      refine AvT.take 15 (some 42) (v := ?_) rfl rfl (by kernel_rfl) (by kernel_rfl) (by kernel_rfl) (fun _ _ _ h => h) hST (Au.yq_run (by rfl) (fun u hu => ?_)) ?_
      rotate_left
      · (clear hu; go_simp; try with_reducible rfl)
      simp only [Act.put, List.setIfInBounds_toArray, List.set_cons_zero, List.set_cons_succ]
      refine AvT.take 16 (some 43) rfl rfl (by kernel_rfl) (by kernel_rfl) (by kernel_rfl) (fun _ _ _ h => h) hST (Au.yq_load 31 (.tmp 7) rfl _ rfl (by rfl) (fun u hu => load_row (hu.1.blk 0 rfl) sA)) ?_
      simp only [Act.put, List.setIfInBounds_toArray, List.set_cons_zero, List.set_cons_succ]
      refine AvT.take 17 (some 44) rfl rfl (by kernel_rfl) (by kernel_rfl) (by kernel_rfl) (fun _ _ _ h => h) hST (Au.yq_call 19 _ (by rfl) (fun u => by go_simp) (fun u hu => DP2.out u)) ?_
      simp only [Act.put, List.setIfInBounds_toArray, List.set_cons_zero, List.set_cons_succ]
      refine AvT.take 18 (some 45) (v := .bool false) rfl rfl (by kernel_rfl) (by kernel_rfl) (by kernel_rfl) (fun _ _ _ h => h) hST (Au.yq_run (by rfl) (fun u hu => ?_)) ?_
      · have := eP2 u
        clear hu; go_simp
      simp only [Act.put, List.setIfInBounds_toArray, List.set_cons_zero, List.set_cons_succ]
      refine AvT.take 19 (some 46) (v := ?_) rfl rfl (by kernel_rfl) (by kernel_rfl) (by kernel_rfl) (fun _ _ _ h => h) hST (Au.yq_run (by rfl) (fun u hu => ?_)) ?_
      rotate_left
      · (clear hu; go_simp; try with_reducible rfl)
      simp only [Act.put, List.setIfInBounds_toArray, List.set_cons_zero, List.set_cons_succ]
      refine AvT.take 20 (some 47) (v := ?_) rfl rfl (by kernel_rfl) (by kernel_rfl) (by kernel_rfl) (fun _ _ _ h => h) hST (Au.yq_run (by rfl) (fun u hu => ?_)) ?_
      rotate_left
      · (clear hu; go_simp; try with_reducible rfl)
      simp only [Act.put, List.setIfInBounds_toArray, List.set_cons_zero, List.set_cons_succ]
      refine AvT.take 21 (some 48) (v := ?_) rfl rfl (by kernel_rfl) (by kernel_rfl) (by kernel_rfl) (fun _ _ _ h => h) hST (Au.yq_run (by rfl) (fun u hu => ?_)) ?_
      rotate_left
      · (clear hu; go_simp; try with_reducible rfl)
      simp only [Act.put, List.setIfInBounds_toArray, List.set_cons_zero, List.set_cons_succ]
      refine AvT.take 22 (some 49) rfl rfl (by kernel_rfl) (by kernel_rfl) (by kernel_rfl) (fun _ _ _ h => h) hST (Au.yq_load 42 (.tmp 13) rfl _ rfl (by rfl) (fun u hu => load_ow hu.2.1 sE)) ?_
      simp only [Act.put, List.setIfInBounds_toArray, List.set_cons_zero, List.set_cons_succ]
      refine AvT.take 23 (some 50) (v := ?_) rfl rfl (by kernel_rfl) (by kernel_rfl) (by kernel_rfl) (fun _ _ _ h => h) hST (Au.yq_run (by rfl) (fun u hu => ?_)) ?_
      rotate_left
      · (clear hu; go_simp; try with_reducible rfl)
      simp only [Act.put, List.setIfInBounds_toArray, List.set_cons_zero, List.set_cons_succ]
      refine AvT.take 24 (some 51) rfl rfl (by kernel_rfl) (by kernel_rfl) (by kernel_rfl) (fun _ _ _ h => h) hST (Au.yq_call 20 _ (by rfl) (fun u => by go_simp) (fun u hu => CP3.out u)) ?_
      simp only [Act.put, List.setIfInBounds_toArray, List.set_cons_zero, List.set_cons_succ]
      refine AvT.take 25 (some 52) (v := ?_) rfl rfl (by kernel_rfl) (by kernel_rfl) (by kernel_rfl) (fun _ _ _ h => h) hST (Au.yq_run (by rfl) (fun u hu => ?_)) ?_
      rotate_left
      · (clear hu; go_simp; try with_reducible rfl)
      simp only [Act.put, List.setIfInBounds_toArray, List.set_cons_zero, List.set_cons_succ]
      refine AvT.take 26 (some 53) rfl rfl (by kernel_rfl) (by kernel_rfl) (by kernel_rfl) (fun _ _ _ h => h) hST (Au.yq_load 31 (.tmp 7) rfl _ rfl (by rfl) (fun u hu => load_row (hu.1.blk 0 rfl) sA)) ?_
      simp only [Act.put, List.setIfInBounds_toArray, List.set_cons_zero, List.set_cons_succ]
      refine AvT.take 27 (some 54) (v := ?_) rfl rfl (by kernel_rfl) (by kernel_rfl) (by kernel_rfl) (fun _ _ _ h => h) hST (Au.yq_run (by rfl) (fun u hu => ?_)) ?_
      rotate_left
      · (clear hu; go_simp; try with_reducible rfl)
      simp only [Act.put, List.setIfInBounds_toArray, List.set_cons_zero, List.set_cons_succ]
      refine AvT.take 28 (some 55) rfl rfl (by kernel_rfl) (by kernel_rfl) (by kernel_rfl) (fun _ _ _ h => h) hST (Au.yq_call 21 _ (by rfl) (fun u => by go_simp) (fun u hu => DP3.out u)) ?_
      simp only [Act.put, List.setIfInBounds_toArray, List.set_cons_zero, List.set_cons_succ]
      refine AvT.take 29 (some 56) (v := .bool false) rfl rfl (by kernel_rfl) (by kernel_rfl) (by kernel_rfl) (fun _ _ _ h => h) hST (Au.yq_run (by rfl) (fun u hu => ?_)) ?_
      · have := eP3 u
        clear hu; go_simp
      simp only [Act.put, List.setIfInBounds_toArray, List.set_cons_zero, List.set_cons_succ]
      refine AvT.take 30 (some 57) (v := ?_) rfl rfl (by kernel_rfl) (by kernel_rfl) (by kernel_rfl) (fun _ _ _ h => h) hST (Au.yq_run (by rfl) (fun u hu => ?_)) ?_
      rotate_left
      · (clear hu; go_simp; try with_reducible rfl)
      simp only [Act.put, List.setIfInBounds_toArray, List.set_cons_zero, List.set_cons_succ]
      refine AvT.done (by kernel_rfl) (fun V2 hV2 => ?_)
      go_wp2_with fail
      go_meet
      exact ⟨rfl, Lib.hid hV2⟩
    case rest =>
      obtain ⟨rfl, HB⟩ := hcut
      clear eP1 eP2 eP3 CP1 CP2 CP3 DP1 DP2 DP3 HZ
      have CS2 := Lib.hid (by have := CS.out wc q1 n1 c1 HB.out.2.2; rw [HE.out] at this; exact this)
      go_upto_region 8 with (first
        | (refine load_w 42 (.tmp 13) rfl g rfl rfl E 19 HB.out.2.1 Tryd.underlying42 sE info_ow ?_)
        | (go_at_call 22; refine CS2.out.mono ?_; rintro e w2 ⟨rfl, k2⟩)
        | (refine load_w 31 (.tmp 7) rfl w.heap.size rfl rfl A 19 ((HB.out.1.go k2).blk 0 rfl) Tryd.underlying31 sA info_row ?_)
        | (go_at_call 23; refine (CR.out _ (HB.out.1.kept.trans k2)).mono ?_; rintro e w3 ⟨rfl, k3⟩))
      have HX := Lib.hid (And.intro (HB.out.1.go (k2.trans k3)) (And.intro (kept_at (k2.trans k3) HB.out.2.1) (HB.out.2.2.keep (k2.trans k3))))
      clear k2 k3 HB CS2
      have hl9 : K.length ≤ 900000 := by have := HN.out; omega
      have hlc := wait_len (wtP 3 me o) K
      have hlk := wait_len (wtP 4 me o) K
      have W1 := Lib.hid (fun (u : World) (h : Mc u (.slice q1 n1 c1) K) => (by have := cancels_any me o (mc_cls h (by omega)) hl9; rw [HE.out] at this; exact this : Calls Tryd.prog 25 #[.int .i64 me, .agg E] u fun e w' => ∃ v, e = .returned v ∧ Mp w' v (waitL (wtP 3 me o) K) ∧ (∀ g, v.ownBlock = some g → u.heap.size ≤ g) ∧ Kept u w'))
      have W2 := Lib.hid (fun (u : World) (h : Mc u (.slice q1 n1 c1) K) => (by have := keeps_any me o (mc_cls h (by omega)) hl9; rw [HE.out] at this; exact this : Calls Tryd.prog 27 #[.int .i64 me, .agg E] u fun e w' => ∃ v, e = .returned v ∧ Mp w' v (waitL (wtP 4 me o) K) ∧ (∀ g, v.ownBlock = some g → u.heap.size ≤ g) ∧ Kept u w'))
      have W3 := Lib.hid (fun (k : Int) (u : World) (h : Kept w u) => (by have := rwaiting_any k me o (HV.out.go h) hl9; rw [HA.out] at this; exact this : Calls Tryd.prog 26 #[.int .i64 k, .int .i64 me, .agg A] u fun e w' => ∃ v, e = .returned v ∧ Mp w' v (waitL (wtP k me o) K) ∧ (∀ g, v.ownBlock = some g → u.heap.size ≤ g) ∧ Kept u w'))
      have hST : Stab (fun u => Bl w u [(A, 31)] ∧ u.heap[g]? = some (.cells E 42 (0, 0)) ∧ Mc u (.slice q1 n1 c1) K) ∧ ∀ u, (fun u => Bl w u [(A, 31)] ∧ u.heap[g]? = some (.cells E 42 (0, 0)) ∧ Mc u (.slice q1 n1 c1) K) u → (fun u => Bl w u [(A, 31)] ∧ u.heap[g]? = some (.cells E 42 (0, 0)) ∧ Mc u (.slice q1 n1 c1) K) u := ⟨(stab_and bl_stab (stab_and blk_stab mcs)), fun u h => ⟨h.1, h.2.1, h.2.2⟩⟩
      refine AvT.region (fun u => Bl w u [(A, 31)] ∧ u.heap[g]? = some (.cells E 42 (0, 0)) ∧ Mc u (.slice q1 n1 c1) K) (fun u => Bl w u [(A, 31)] ∧ u.heap[g]? = some (.cells E 42 (0, 0)) ∧ Mc u (.slice q1 n1 c1) K) (by kernel_rfl) (hST.1 _ _ HX.out (Kept.refl _).drew) ?_
      refine AvT.take 0 (some 72) (v := ?_) rfl rfl (by kernel_rfl) (by kernel_rfl) (by kernel_rfl) (fun _ _ _ h => h) hST (Au.yq_run (by rfl) (fun u hu => ?_)) ?_
      rotate_left
      · (clear hu; go_simp; try with_reducible rfl)
      simp only [Act.put, List.setIfInBounds_toArray, List.set_cons_zero, List.set_cons_succ]
      refine AvT.take 1 (some 73) (v := ?_) rfl rfl (by kernel_rfl) (by kernel_rfl) (by kernel_rfl) (fun _ _ _ h => h) hST (Au.yq_run (by rfl) (fun u hu => ?_)) ?_
      rotate_left
      · (clear hu; go_simp; try with_reducible rfl)
      simp only [Act.put, List.setIfInBounds_toArray, List.set_cons_zero, List.set_cons_succ]
      refine AvT.take 2 (some 74) (v := .bool true) rfl rfl (by kernel_rfl) (by kernel_rfl) (by kernel_rfl) (fun _ _ _ h => h) hST (Au.yq_run (by rfl) (fun u hu => ?_)) ?_
      · (clear hu; go_simp; (try simp_all))
      simp only [Act.put, List.setIfInBounds_toArray, List.set_cons_zero, List.set_cons_succ]
      refine AvT.take 3 (some 75) (v := ?_) rfl rfl (by kernel_rfl) (by kernel_rfl) (by kernel_rfl) (fun _ _ _ h => h) hST (Au.yq_run (by rfl) (fun u hu => ?_)) ?_
      rotate_left
      · (clear hu; go_simp; try with_reducible rfl)
      simp only [Act.put, List.setIfInBounds_toArray, List.set_cons_zero, List.set_cons_succ]
      refine AvT.take 4 (some 76) (v := ?_) rfl rfl (by kernel_rfl) (by kernel_rfl) (by kernel_rfl) (fun _ _ _ h => h) hST (Au.yq_run (by rfl) (fun u hu => ?_)) ?_
      rotate_left
      · (clear hu; go_simp; try with_reducible rfl)
      simp only [Act.put, List.setIfInBounds_toArray, List.set_cons_zero, List.set_cons_succ]
      refine AvT.take 5 (some 77) (v := ?_) rfl rfl (by kernel_rfl) (by kernel_rfl) (by kernel_rfl) (fun _ _ _ h => h) hST (Au.yq_run (by rfl) (fun u hu => ?_)) ?_
      rotate_left
      · (clear hu; go_simp; try with_reducible rfl)
      simp only [Act.put, List.setIfInBounds_toArray, List.set_cons_zero, List.set_cons_succ]
      refine AvT.take 6 (some 78) (v := .bool true) rfl rfl (by kernel_rfl) (by kernel_rfl) (by kernel_rfl) (fun _ _ _ h => h) hST (Au.yq_run (by rfl) (fun u hu => ?_)) ?_
      · (clear hu; go_simp; (try simp_all))
      simp only [Act.put, List.setIfInBounds_toArray, List.set_cons_zero, List.set_cons_succ]
      refine AvT.take 7 (some 79) (v := ?_) rfl rfl (by kernel_rfl) (by kernel_rfl) (by kernel_rfl) (fun _ _ _ h => h) hST (Au.yq_run (by rfl) (fun u hu => ?_)) ?_
      rotate_left
      · (clear hu; go_simp; try with_reducible rfl)
      simp only [Act.put, List.setIfInBounds_toArray, List.set_cons_zero, List.set_cons_succ]
      refine AvT.take 8 (some 80) (v := ?_) rfl rfl (by kernel_rfl) (by kernel_rfl) (by kernel_rfl) (fun _ _ _ h => h) hST (Au.yq_run (by rfl) (fun u hu => ?_)) ?_
      rotate_left
      · (clear hu; go_simp; try with_reducible rfl)
      simp only [Act.put, List.setIfInBounds_toArray, List.set_cons_zero, List.set_cons_succ]
      refine AvT.take 9 (some 81) (v := ?_) rfl rfl (by kernel_rfl) (by kernel_rfl) (by kernel_rfl) (fun _ _ _ h => h) hST (Au.yq_run (by rfl) (fun u hu => ?_)) ?_
      rotate_left
      · (clear hu; go_simp; try with_reducible rfl)
      simp only [Act.put, List.setIfInBounds_toArray, List.set_cons_zero, List.set_cons_succ]
      refine AvT.take 10 (some 82) (v := ?_) rfl rfl (by kernel_rfl) (by kernel_rfl) (by kernel_rfl) (fun _ _ _ h => h) hST (Au.yq_run (by rfl) (fun u hu => ?_)) ?_
      rotate_left
      · (clear hu; go_simp; try with_reducible rfl)
      simp only [Act.put, List.setIfInBounds_toArray, List.set_cons_zero, List.set_cons_succ]
      refine AvT.take 11 (some 83) (v := .bool true) rfl rfl (by kernel_rfl) (by kernel_rfl) (by kernel_rfl) (fun _ _ _ h => h) hST (Au.yq_run (by rfl) (fun u hu => ?_)) ?_
      · (clear hu; go_simp; (try simp_all))
      simp only [Act.put, List.setIfInBounds_toArray, List.set_cons_zero, List.set_cons_succ]
      refine AvT.take 12 (some 84) (v := ?_) rfl rfl (by kernel_rfl) (by kernel_rfl) (by kernel_rfl) (fun _ _ _ h => h) hST (Au.yq_run (by rfl) (fun u hu => ?_)) ?_
      rotate_left
      · (clear hu; go_simp; try with_reducible rfl)
      simp only [Act.put, List.setIfInBounds_toArray, List.set_cons_zero, List.set_cons_succ]
      refine AvT.take 13 (some 85) (v := ?_) rfl rfl (by kernel_rfl) (by kernel_rfl) (by kernel_rfl) (fun _ _ _ h => h) hST (Au.yq_run (by rfl) (fun u hu => ?_)) ?_
      rotate_left
      · (clear hu; go_simp; try with_reducible rfl)
      simp only [Act.put, List.setIfInBounds_toArray, List.set_cons_zero, List.set_cons_succ]
      refine AvT.take 14 (some 86) (v := ?_) rfl rfl (by kernel_rfl) (by kernel_rfl) (by kernel_rfl) (fun _ _ _ h => h) hST (Au.yq_run (by rfl) (fun u hu => ?_)) ?_
      rotate_left
      · (clear hu; go_simp; try with_reducible rfl)
      simp only [Act.put, List.setIfInBounds_toArray, List.set_cons_zero, List.set_cons_succ]
      refine AvT.take 15 (some 87) rfl rfl (by kernel_rfl) (by kernel_rfl) (by kernel_rfl) (fun _ _ _ h => h) hST (Au.yq_load 42 (.tmp 13) rfl _ rfl (by rfl) (fun u hu => load_ow hu.2.1 sE)) ?_
      simp only [Act.put, List.setIfInBounds_toArray, List.set_cons_zero, List.set_cons_succ]
      refine AvT.take 17 (some 89) (v := ?_) rfl rfl (by kernel_rfl) (by kernel_rfl) (by kernel_rfl) (fun _ _ _ h => h) hST (Au.yq_run (by rfl) (fun u hu => ?_)) ?_
      rotate_left
      · (clear hu; go_simp; try with_reducible rfl)
      simp only [Act.put, List.setIfInBounds_toArray, List.set_cons_zero, List.set_cons_succ]
      refine AvT.take 18 (some 90) rfl rfl (by kernel_rfl) (by kernel_rfl) (by kernel_rfl) (fun _ _ _ h => h) hST (Au.yq_load 31 (.tmp 7) rfl _ rfl (by rfl) (fun u hu => load_row (hu.1.blk 0 rfl) sA)) ?_
      simp only [Act.put, List.setIfInBounds_toArray, List.set_cons_zero, List.set_cons_succ]
      refine AvT.step 16 rfl (by kernel_rfl) (fun v hv KK hK => ?_)
      rw [if_pos (by rfl)]
      go_simp
      refine (W1.out v (hv.2.2)).mono ?_
      rintro e vv2 ⟨v1, rfl, r1, -, k2⟩
      go_wp2_with fail
      refine hK.out (fun u => Bl w u [(A, 31)] ∧ u.heap[g]? = some (.cells E 42 (0, 0)) ∧ Mc u (.slice q1 n1 c1) K ∧ Mp u v1 (waitL (wtP 3 me o) K)) _ _ ⟨(bl_stab _ _ (hv.1) k2), (blk_stab _ _ (hv.2.1) k2), (mcs _ _ (hv.2.2) k2), r1⟩ (stab_and bl_stab (stab_and blk_stab (stab_and mcs mps))) (fun u h => ⟨h.1, h.2.1, h.2.2.1⟩) ?_
      clear hK KK hv r1 k2
      clear v vv2 hST
      refine AvT.narrow (T' := fun u => Bl w u [(A, 31)] ∧ u.heap[g]? = some (.cells E 42 (0, 0)) ∧ Mc u (.slice q1 n1 c1) K ∧ Mp u v1 (waitL (wtP 3 me o) K)) (fun u h => ⟨h.1, h.2.1, h.2.2.1⟩) _ _ _ _ ?_
      have hST : Stab (fun u => Bl w u [(A, 31)] ∧ u.heap[g]? = some (.cells E 42 (0, 0)) ∧ Mc u (.slice q1 n1 c1) K ∧ Mp u v1 (waitL (wtP 3 me o) K)) ∧ ∀ u, (fun u => Bl w u [(A, 31)] ∧ u.heap[g]? = some (.cells E 42 (0, 0)) ∧ Mc u (.slice q1 n1 c1) K ∧ Mp u v1 (waitL (wtP 3 me o) K)) u → (fun u => Bl w u [(A, 31)] ∧ u.heap[g]? = some (.cells E 42 (0, 0)) ∧ Mc u (.slice q1 n1 c1) K ∧ Mp u v1 (waitL (wtP 3 me o) K)) u := ⟨(stab_and bl_stab (stab_and blk_stab (stab_and mcs mps))), fun u h => ⟨h.1, h.2.1, h.2.2.1, h.2.2.2⟩⟩
      refine AvT.step 19 rfl (by kernel_rfl) (fun v hv KK hK => ?_)
      rw [if_pos (by rfl)]
      go_simp
      refine (W3.out 3 v ((hv.1).kept)).mono ?_
      rintro e vv2 ⟨v2, rfl, r1, -, k2⟩
      go_wp2_with fail
      refine hK.out (fun u => Bl w u [(A, 31)] ∧ u.heap[g]? = some (.cells E 42 (0, 0)) ∧ Mc u (.slice q1 n1 c1) K ∧ Mp u v1 (waitL (wtP 3 me o) K) ∧ Mp u v2 (waitL (wtP 3 me o) K)) _ _ ⟨(bl_stab _ _ (hv.1) k2), (blk_stab _ _ (hv.2.1) k2), (mcs _ _ (hv.2.2.1) k2), (mps _ _ (hv.2.2.2) k2), r1⟩ (stab_and bl_stab (stab_and blk_stab (stab_and mcs (stab_and mps mps)))) (fun u h => ⟨h.1, h.2.1, h.2.2.1, h.2.2.2.1⟩) ?_
      clear hK KK hv r1 k2
      clear v vv2 hST
      refine AvT.narrow (T' := fun u => Bl w u [(A, 31)] ∧ u.heap[g]? = some (.cells E 42 (0, 0)) ∧ Mc u (.slice q1 n1 c1) K ∧ Mp u v1 (waitL (wtP 3 me o) K) ∧ Mp u v2 (waitL (wtP 3 me o) K)) (fun u h => ⟨h.1, h.2.1, h.2.2.1, h.2.2.2.1⟩) _ _ _ _ ?_
      have hST : Stab (fun u => Bl w u [(A, 31)] ∧ u.heap[g]? = some (.cells E 42 (0, 0)) ∧ Mc u (.slice q1 n1 c1) K ∧ Mp u v1 (waitL (wtP 3 me o) K) ∧ Mp u v2 (waitL (wtP 3 me o) K)) ∧ ∀ u, (fun u => Bl w u [(A, 31)] ∧ u.heap[g]? = some (.cells E 42 (0, 0)) ∧ Mc u (.slice q1 n1 c1) K ∧ Mp u v1 (waitL (wtP 3 me o) K) ∧ Mp u v2 (waitL (wtP 3 me o) K)) u → (fun u => Bl w u [(A, 31)] ∧ u.heap[g]? = some (.cells E 42 (0, 0)) ∧ Mc u (.slice q1 n1 c1) K ∧ Mp u v1 (waitL (wtP 3 me o) K) ∧ Mp u v2 (waitL (wtP 3 me o) K)) u := ⟨(stab_and bl_stab (stab_and blk_stab (stab_and mcs (stab_and mps mps)))), fun u h => ⟨h.1, h.2.1, h.2.2.1, h.2.2.2.1, h.2.2.2.2⟩⟩
      refine AvT.take 20 (some 92) rfl rfl (by kernel_rfl) (by kernel_rfl) (by kernel_rfl) (fun _ _ _ h => h) hST (Au.yq_call 24 _ (by rfl) (fun u => by go_simp) (fun u hu => same_any (mp_ls (hu.2.2.2.1) (by omega)) (mp_ls (hu.2.2.2.2) (by omega)) (by omega))) ?_
      simp only [Act.put, List.setIfInBounds_toArray, List.set_cons_zero, List.set_cons_succ]
      refine AvT.take 21 (some 93) (v := ?_) rfl rfl (by kernel_rfl) (by kernel_rfl) (by kernel_rfl) (fun _ _ _ h => h) hST (Au.yq_run (by rfl) (fun u hu => ?_)) ?_
      rotate_left
      · (clear hu; go_simp; try with_reducible rfl)
      simp only [Act.put, List.setIfInBounds_toArray, List.set_cons_zero, List.set_cons_succ]
      refine AvT.take 22 (some 94) (v := ?_) rfl rfl (by kernel_rfl) (by kernel_rfl) (by kernel_rfl) (fun _ _ _ h => h) hST (Au.yq_run (by rfl) (fun u hu => ?_)) ?_
      rotate_left
      · (clear hu; go_simp; try with_reducible rfl)
      simp only [Act.put, List.setIfInBounds_toArray, List.set_cons_zero, List.set_cons_succ]
      refine AvT.take 23 (some 95) (v := ?_) rfl rfl (by kernel_rfl) (by kernel_rfl) (by kernel_rfl) (fun _ _ _ h => h) hST (Au.yq_run (by rfl) (fun u hu => ?_)) ?_
      rotate_left
      · (clear hu; go_simp; try with_reducible rfl)
      simp only [Act.put, List.setIfInBounds_toArray, List.set_cons_zero, List.set_cons_succ]
      refine AvT.take 24 (some 96) rfl rfl (by kernel_rfl) (by kernel_rfl) (by kernel_rfl) (fun _ _ _ h => h) hST (Au.yq_load 42 (.tmp 13) rfl _ rfl (by rfl) (fun u hu => load_ow hu.2.1 sE)) ?_
      simp only [Act.put, List.setIfInBounds_toArray, List.set_cons_zero, List.set_cons_succ]
      refine AvT.take 26 (some 98) (v := ?_) rfl rfl (by kernel_rfl) (by kernel_rfl) (by kernel_rfl) (fun _ _ _ h => h) hST (Au.yq_run (by rfl) (fun u hu => ?_)) ?_
      rotate_left
      · (clear hu; go_simp; try with_reducible rfl)
      simp only [Act.put, List.setIfInBounds_toArray, List.set_cons_zero, List.set_cons_succ]
      refine AvT.take 27 (some 99) rfl rfl (by kernel_rfl) (by kernel_rfl) (by kernel_rfl) (fun _ _ _ h => h) hST (Au.yq_load 31 (.tmp 7) rfl _ rfl (by rfl) (fun u hu => load_row (hu.1.blk 0 rfl) sA)) ?_
      simp only [Act.put, List.setIfInBounds_toArray, List.set_cons_zero, List.set_cons_succ]
      refine AvT.step 25 rfl (by kernel_rfl) (fun v hv KK hK => ?_)
      rw [if_pos (by rfl)]
      go_simp
      refine (W2.out v (hv.2.2.1)).mono ?_
      rintro e vv2 ⟨v3, rfl, r1, -, k2⟩
      go_wp2_with fail
      refine hK.out (fun u => Bl w u [(A, 31)] ∧ u.heap[g]? = some (.cells E 42 (0, 0)) ∧ Mc u (.slice q1 n1 c1) K ∧ Mp u v1 (waitL (wtP 3 me o) K) ∧ Mp u v2 (waitL (wtP 3 me o) K) ∧ Mp u v3 (waitL (wtP 4 me o) K)) _ _ ⟨(bl_stab _ _ (hv.1) k2), (blk_stab _ _ (hv.2.1) k2), (mcs _ _ (hv.2.2.1) k2), (mps _ _ (hv.2.2.2.1) k2), (mps _ _ (hv.2.2.2.2) k2), r1⟩ (stab_and bl_stab (stab_and blk_stab (stab_and mcs (stab_and mps (stab_and mps mps))))) (fun u h => ⟨h.1, h.2.1, h.2.2.1, h.2.2.2.1, h.2.2.2.2.1⟩) ?_
      clear hK KK hv r1 k2
      clear v vv2 hST
      refine AvT.narrow (T' := fun u => Bl w u [(A, 31)] ∧ u.heap[g]? = some (.cells E 42 (0, 0)) ∧ Mc u (.slice q1 n1 c1) K ∧ Mp u v1 (waitL (wtP 3 me o) K) ∧ Mp u v2 (waitL (wtP 3 me o) K) ∧ Mp u v3 (waitL (wtP 4 me o) K)) (fun u h => ⟨h.1, h.2.1, h.2.2.1, h.2.2.2.1, h.2.2.2.2.1⟩) _ _ _ _ ?_
      have hST : Stab (fun u => Bl w u [(A, 31)] ∧ u.heap[g]? = some (.cells E 42 (0, 0)) ∧ Mc u (.slice q1 n1 c1) K ∧ Mp u v1 (waitL (wtP 3 me o) K) ∧ Mp u v2 (waitL (wtP 3 me o) K) ∧ Mp u v3 (waitL (wtP 4 me o) K)) ∧ ∀ u, (fun u => Bl w u [(A, 31)] ∧ u.heap[g]? = some (.cells E 42 (0, 0)) ∧ Mc u (.slice q1 n1 c1) K ∧ Mp u v1 (waitL (wtP 3 me o) K) ∧ Mp u v2 (waitL (wtP 3 me o) K) ∧ Mp u v3 (waitL (wtP 4 me o) K)) u → (fun u => Bl w u [(A, 31)] ∧ u.heap[g]? = some (.cells E 42 (0, 0)) ∧ Mc u (.slice q1 n1 c1) K ∧ Mp u v1 (waitL (wtP 3 me o) K) ∧ Mp u v2 (waitL (wtP 3 me o) K) ∧ Mp u v3 (waitL (wtP 4 me o) K)) u := ⟨(stab_and bl_stab (stab_and blk_stab (stab_and mcs (stab_and mps (stab_and mps mps))))), fun u h => ⟨h.1, h.2.1, h.2.2.1, h.2.2.2.1, h.2.2.2.2.1, h.2.2.2.2.2⟩⟩
      refine AvT.step 28 rfl (by kernel_rfl) (fun v hv KK hK => ?_)
      rw [if_pos (by rfl)]
      go_simp
      refine (W3.out 4 v ((hv.1).kept)).mono ?_
      rintro e vv2 ⟨v4, rfl, r1, -, k2⟩
      go_wp2_with fail
      refine hK.out (fun u => Bl w u [(A, 31)] ∧ u.heap[g]? = some (.cells E 42 (0, 0)) ∧ Mc u (.slice q1 n1 c1) K ∧ Mp u v1 (waitL (wtP 3 me o) K) ∧ Mp u v2 (waitL (wtP 3 me o) K) ∧ Mp u v3 (waitL (wtP 4 me o) K) ∧ Mp u v4 (waitL (wtP 4 me o) K)) _ _ ⟨(bl_stab _ _ (hv.1) k2), (blk_stab _ _ (hv.2.1) k2), (mcs _ _ (hv.2.2.1) k2), (mps _ _ (hv.2.2.2.1) k2), (mps _ _ (hv.2.2.2.2.1) k2), (mps _ _ (hv.2.2.2.2.2) k2), r1⟩ (stab_and bl_stab (stab_and blk_stab (stab_and mcs (stab_and mps (stab_and mps (stab_and mps mps)))))) (fun u h => ⟨h.1, h.2.1, h.2.2.1, h.2.2.2.1, h.2.2.2.2.1, h.2.2.2.2.2.1⟩) ?_
      clear hK KK hv r1 k2
      clear v vv2 hST
      refine AvT.narrow (T' := fun u => Bl w u [(A, 31)] ∧ u.heap[g]? = some (.cells E 42 (0, 0)) ∧ Mc u (.slice q1 n1 c1) K ∧ Mp u v1 (waitL (wtP 3 me o) K) ∧ Mp u v2 (waitL (wtP 3 me o) K) ∧ Mp u v3 (waitL (wtP 4 me o) K) ∧ Mp u v4 (waitL (wtP 4 me o) K)) (fun u h => ⟨h.1, h.2.1, h.2.2.1, h.2.2.2.1, h.2.2.2.2.1, h.2.2.2.2.2.1⟩) _ _ _ _ ?_
      have hST : Stab (fun u => Bl w u [(A, 31)] ∧ u.heap[g]? = some (.cells E 42 (0, 0)) ∧ Mc u (.slice q1 n1 c1) K ∧ Mp u v1 (waitL (wtP 3 me o) K) ∧ Mp u v2 (waitL (wtP 3 me o) K) ∧ Mp u v3 (waitL (wtP 4 me o) K) ∧ Mp u v4 (waitL (wtP 4 me o) K)) ∧ ∀ u, (fun u => Bl w u [(A, 31)] ∧ u.heap[g]? = some (.cells E 42 (0, 0)) ∧ Mc u (.slice q1 n1 c1) K ∧ Mp u v1 (waitL (wtP 3 me o) K) ∧ Mp u v2 (waitL (wtP 3 me o) K) ∧ Mp u v3 (waitL (wtP 4 me o) K) ∧ Mp u v4 (waitL (wtP 4 me o) K)) u → (fun u => Bl w u [(A, 31)] ∧ u.heap[g]? = some (.cells E 42 (0, 0)) ∧ Mc u (.slice q1 n1 c1) K ∧ Mp u v1 (waitL (wtP 3 me o) K) ∧ Mp u v2 (waitL (wtP 3 me o) K) ∧ Mp u v3 (waitL (wtP 4 me o) K) ∧ Mp u v4 (waitL (wtP 4 me o) K)) u := ⟨(stab_and bl_stab (stab_and blk_stab (stab_and mcs (stab_and mps (stab_and mps (stab_and mps mps)))))), fun u h => ⟨h.1, h.2.1, h.2.2.1, h.2.2.2.1, h.2.2.2.2.1, h.2.2.2.2.2.1, h.2.2.2.2.2.2⟩⟩
      refine AvT.take 29 (some 101) rfl rfl (by kernel_rfl) (by kernel_rfl) (by kernel_rfl) (fun _ _ _ h => h) hST (Au.yq_call 24 _ (by rfl) (fun u => by go_simp) (fun u hu => same_any (mp_ls (hu.2.2.2.2.2.1) (by omega)) (mp_ls (hu.2.2.2.2.2.2) (by omega)) (by omega))) ?_
      simp only [Act.put, List.setIfInBounds_toArray, List.set_cons_zero, List.set_cons_succ]
      refine AvT.take 30 (some 102) (v := ?_) rfl rfl (by kernel_rfl) (by kernel_rfl) (by kernel_rfl) (fun _ _ _ h => h) hST (Au.yq_run (by rfl) (fun u hu => ?_)) ?_
      rotate_left
      · (clear hu; go_simp; try with_reducible rfl)
      simp only [Act.put, List.setIfInBounds_toArray, List.set_cons_zero, List.set_cons_succ]
      refine AvT.take 31 (some 103) (v := ?_) rfl rfl (by kernel_rfl) (by kernel_rfl) (by kernel_rfl) (fun _ _ _ h => h) hST (Au.yq_run (by rfl) (fun u hu => ?_)) ?_
      rotate_left
      · (clear hu; go_simp; try with_reducible rfl)
      simp only [Act.put, List.setIfInBounds_toArray, List.set_cons_zero, List.set_cons_succ]
      refine AvT.take 32 (some 104) rfl rfl (by kernel_rfl) (by kernel_rfl) (by kernel_rfl) (fun _ _ _ h => h) hST (Au.yq_call 8 _ (by rfl) (fun u => by go_simp) (fun u hu => HAW.out u (hu.1).kept)) ?_
      simp only [Act.put, List.setIfInBounds_toArray, List.set_cons_zero, List.set_cons_succ]
      refine AvT.take 33 (some 105) (v := ?_) rfl rfl (by kernel_rfl) (by kernel_rfl) (by kernel_rfl) (fun _ _ _ h => h) hST (Au.yq_run (by rfl) (fun u hu => ?_)) ?_
      rotate_left
      · (clear hu; go_simp; try with_reducible rfl)
      simp only [Act.put, List.setIfInBounds_toArray, List.set_cons_zero, List.set_cons_succ]
      refine AvT.take 34 (some 12) (v := ?_) rfl rfl (by kernel_rfl) (by kernel_rfl) (by kernel_rfl) (fun _ _ _ h => h) hST (Au.yq_run (by rfl) (fun u hu => ?_)) ?_
      rotate_left
      · (clear hu; go_simp; try with_reducible rfl)
      simp only [Act.put, List.setIfInBounds_toArray, List.set_cons_zero, List.set_cons_succ]
      refine AvT.done (by kernel_rfl) (fun V hV => ?_)
      go_wp2_with fail
      go_ret
      exact ⟨rfl, (hV.1).kept⟩
  · have HB := Lib.hid hb
    have e1 : 30 < (N : Int) := by omega
    clear hv ht hb hW hA hN
    go_enter Tryd.func5, Tryd.ntmps5
    go_upto_region 1 with fail
    rw [HW.out]
    go_wp2_with (go_at_call 8; refine (HAW.out _ HB.out.kept).mono ?_; rintro e w' ⟨rfl, hk⟩)
    go_ret
    exact ⟨rfl, HB.out.kept.trans hk⟩

end Go.Proofs.YtncdiggejofbbaaDoor.Sn
