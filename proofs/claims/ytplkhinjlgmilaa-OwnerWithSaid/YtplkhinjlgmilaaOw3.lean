/- Package owner, and the document's own answers for it: which of its calls has a name. -/
import Derived.Test.YtplkhinjlgmilaaOw2
import Derived.Test.YtplkhinjlgmilaaEqs
import Derived.Shelf.Abstract
import Derived.Deep.DeepCutAuto
namespace Go.Proofs.Ytplkhinjlgmilaa.Ow
open Go.RowKit Go.Sort Go.Shelf St Blk Eqs
open Go.Proofs.Ytplkhinjlgmilaa.Cl
open Go.Proofs.Ytplkhinjlgmilaa.Ls
open Go.Proofs.Ytplkhinjlgmilaa.Id (quiet_at)
open Go.Proofs.Ytplkhinjlgmilaa.Ad (load_w load_l store_new)
set_option linter.unusedVariables false

/-- the place of the first such call -/
def idx (f : Cl → Bool) (K : List Cl) : Int := match K.findIdx? f with | some i => (i : Int) | none => -1
def sameI (d : Nm) (a : Cl) : Bool := a.n == d.n && (a.i == d.i && a.s == d.s)
def findL (K : List Cl) (d : Nm) : Int := idx (sameI d) K
theorem first_hit {f : Cl → Bool} : ∀ {K : List Cl} {i : Nat} {x : Cl}, (K.take i).any f = false → K[i]? = some x → f x = true → K.findIdx? f = some i
  | [], i, x, _, hx, _ => by simp at hx
  | a :: l, 0, x, _, hx, hf => by
    simp only [List.getElem?_cons_zero, Option.some.injEq] at hx
    subst hx
    simp [List.findIdx?_cons, hf]
  | a :: l, i + 1, x, h, hx, hf => by
    rw [List.take_succ_cons, List.any_cons, Bool.or_eq_false_iff] at h
    have ih := first_hit h.2 (by simpa using hx) hf
    simp [List.findIdx?_cons, h.1, ih]
theorem first_miss {f : Cl → Bool} : ∀ {K : List Cl}, K.any f = false → K.findIdx? f = none
  | [], _ => rfl
  | a :: l, h => by
    rw [List.any_cons, Bool.or_eq_false_iff] at h
    simp [List.findIdx?_cons, h.1, first_miss h.2]
theorem idx_hit {f : Cl → Bool} {K : List Cl} {i : Nat} {x : Cl} (h : (K.take i).any f = false) (hx : K[i]? = some x) (hf : f x = true) : idx f K = (i : Int) := by unfold idx; rw [first_hit h hx hf]
theorem idx_miss {f : Cl → Bool} {K : List Cl} (h : K.any f = false) : idx f K = -1 := by unfold idx; rw [first_miss h]
theorem any_take {K : List Cl} {f : Cl → Bool} {i : Nat} {x : Cl} (h : (K.take i).any f = false) (hx : K[i]? = some x) (hf : f x = false) : (K.take (i + 1)).any f = false := by
  rw [List.take_add_one, hx, List.any_append, h]; simp [hf]
/-- an identity is loaded out of whatever row -/
theorem load_id {u : World} {b o : Nat} {n i s : Int} (h0 : u.cell? ⟨b, o, none⟩ = some (.int .i64 n)) (h1 : u.cell? ⟨b, o + 1, none⟩ = some (.int .i64 i)) (h2 : u.cell? ⟨b, o + 2, none⟩ = some (.int .i64 s)) :
    (loadVar 23 ⟨b, o, none⟩).run Try.prog u = .ok (.agg #[.int .i64 n, .int .i64 i, .int .i64 s]) u :=
  run_loadVar_mid u b o _ [.int .i64 n, .int .i64 i, .int .i64 s] _ (fun j x hj => by
    match j, hj with
    | 0, hj => cases hj; exact h0
    | 1, hj => cases hj; exact h1
    | 2, hj => cases hj; exact h2) Try.underlying23 rfl (by kernel_rfl)
theorem eq_id (n i s n' i' s' : Int) (w : World) : (binOp .eql 23 (.agg #[.int .i64 n, .int .i64 i, .int .i64 s]) (.agg #[.int .i64 n', .int .i64 i', .int .i64 s'])).run Try.prog w = .ok (.bool (n == n' && (i == i' && s == s'))) w := by
  simp [go_sem]
  repeat (first | exact eq_end | refine eq_on ?_)

set_option maxRecDepth 100000 in
set_option maxHeartbeats 1000000 in
theorem index_cls {w : World} {v : Value} {K : List Cl} (hv : Cls w v K) (f : Cl → Bool) (g : Nat) (lb : Array Value) (eg : ∀ args u, (callFunc g args).run Try.prog u = .ok (.enter g args) u)
    (hp : ∀ u x, Kept w u → x ∈ K → Calls Try.prog g (#[.agg x.arr] ++ lb) u fun e u' => e = .returned (.bool (f x)) ∧ Kept u u') :
    Calls Try.prog 44 #[v, .func (.func g) #[] lb] w fun e w' => e = .returned (.int .i64 (idx f K)) ∧ Kept w w' := by
  obtain ⟨q, N, cap, rfl, hN, hm⟩ := hv.slice
  have HV := Lib.hid hv
  have HN := Lib.hid hN
  have HP := Lib.hid hp
  have hm2 : N ≤ 9223372036854775807 := by unfold maxLen at hm; omega
  obtain ⟨R, hR⟩ : ∃ R, idx f K = R := ⟨_, rfl⟩
  rw [hR]
  have HR := Lib.hid hR
  clear hv hN hm hp hR
  go_enter Try.func44, Try.ntmps44
  go_wp2_with fail
  go_loopw [8] (fun x wr => ∃ i : Nat, i ≤ N ∧ x = .int .i64 (i : Int) ∧ Kept w wr ∧ Hid ((K.take i).any f = false)) (fun x _ => N - (intOf x).toNat)
  case atStart => exact ⟨0, Nat.zero_le _, rfl, Kept.refl _, rfl⟩
  case round =>
    obtain ⟨i, hi, rfl, hk, hA⟩ := hrel
    by_cases hlt : i < N
    · obtain ⟨x, b, off, hx, rfl, hb, hc⟩ := (HV.out.go hk).pick (i := i) (by rw [HN.out]; exact hlt)
      obtain ⟨X, hX⟩ : ∃ X, x.arr = X := ⟨_, rfl⟩
      have hl := load_call hX hc
      have HX := Lib.hid hx
      have HC := Lib.hid (HP.out wr x hk (List.mem_of_getElem? hx))
      obtain ⟨z, hz⟩ : ∃ z, f x = z := ⟨_, rfl⟩
      rw [hz, hX] at HC
      have HZ := Lib.hid hz
      clear hx hz hX hc
      cases z
      · go_wp2_with (refine load_l 47 (.tmp 14) rfl _ rfl rfl (.agg X) hl ?_)
        refine HC.out.mono ?_
        rintro e w' ⟨rfl, hk2⟩
        go_wp2_with fail
        go_roundw
        case rel => exact ⟨i + 1, hlt, by go_num, hk.trans hk2, any_take hA.out HX.out HZ.out⟩
        case measure => simp [intOf]; omega
      · have HE := Lib.hid ((idx_hit hA.out HX.out HZ.out).symm.trans HR.out)
        go_wp2_with (refine load_l 47 (.tmp 14) rfl _ rfl rfl (.agg X) hl ?_)
        refine HC.out.mono ?_
        rintro e w' ⟨rfl, hk2⟩
        go_wp2_with fail
        go_ret
        exact ⟨ret_int HE.out, hk.trans hk2⟩
    · obtain rfl : i = N := by omega
      have HE := Lib.hid ((idx_miss (by have := hA.out; rwa [List.take_of_length_le (Nat.le_of_eq HN.out)] at this : K.any f = false)).symm.trans HR.out)
      go_wp2_with fail
      go_ret
      exact ⟨ret_int HE.out, hk⟩

set_option maxRecDepth 100000 in
set_option maxHeartbeats 1000000 in
theorem find1_any {w : World} {d : Nm} {B : Nat} (x : Cl) (hB : w.heap[B]? = some (.cells #[.int .i64 d.n, .int .i64 d.i, .int .i64 d.s] 23 (0, 0))) :
    Calls Try.prog 45 #[.agg x.arr, .pointer (some ⟨B, 0, none⟩)] w fun e w' => e = .returned (.bool (sameI d x)) ∧ Kept w w' := by
  obtain ⟨z, hz⟩ : ∃ z, sameI d x = z := ⟨_, rfl⟩
  obtain ⟨X, hX⟩ : ∃ X, x.arr = X := ⟨_, rfl⟩
  have x0 : X[0]? = some (.int .i64 x.n) := by rw [← hX]; rfl
  have x1 : X[1]? = some (.int .i64 x.i) := by rw [← hX]; rfl
  have x2 : X[2]? = some (.int .i64 x.s) := by rw [← hX]; rfl
  rw [hz, hX]
  clear hX
  obtain ⟨W, hW⟩ : ∃ W, w.alloc (.cells X 47) = W := ⟨_, rfl⟩
  have hb : Bl w W [(X, 47)] := hW ▸ Bl.one w X _
  have l1 : (loadVar 23 ⟨w.heap.size, 0, none⟩).run Try.prog W = .ok (.agg #[.int .i64 x.n, .int .i64 x.i, .int .i64 x.s]) W := load_id ((hb.cell 0 0 rfl).trans x0) ((hb.cell 0 1 rfl).trans x1) ((hb.cell 0 2 rfl).trans x2)
  have l2 : (loadVar 23 ⟨B, 0, none⟩).run Try.prog W = .ok (.agg #[.int .i64 d.n, .int .i64 d.i, .int .i64 d.s]) W := by
    have hB2 := kept_at hb.kept hB
    exact load_id (blk_cell hB2 0) (blk_cell hB2 1) (blk_cell hB2 2)
  have he := fun u => eq_id x.n x.i x.s d.n d.i d.s u
  rw [show (x.n == d.n && (x.i == d.i && x.s == d.s)) = z from hz] at he
  have HK := Lib.hid hb.kept
  have HW := Lib.hid hW
  clear x0 x1 x2 hb hW hz hB
  go_enter Try.func45, Try.ntmps45
  go_upto_region 1 with fail
  rw [HW.out]
  go_wp2_with (first
    | (refine load_l 23 (.tmp 4) rfl _ rfl rfl _ l1 ?_)
    | (refine load_l 23 (.tmp 1) rfl _ rfl rfl _ l2 ?_))
  go_ret
  exact ⟨rfl, HK.out⟩

set_option maxRecDepth 100000 in
set_option maxHeartbeats 1000000 in
theorem find_any {w : World} {q : Option Addr} {N c : Nat} {K : List Cl} (o : Ow) (hv : Cls w (.slice q N c) K) (d : Nm) :
    Calls Try.prog 20 #[.agg (o.arr q N c), .agg #[.int .i64 d.n, .int .i64 d.i, .int .i64 d.s]] w fun e w' => e = .returned (.int .i64 (findL K d)) ∧ Kept w w' := by
  obtain ⟨A, hA⟩ : ∃ A, o.arr q N c = A := ⟨_, rfl⟩
  have c18 : A[18]? = some (.slice q N c) := by rw [← hA]; rfl
  rw [hA]
  clear hA
  obtain ⟨W, hW⟩ : ∃ W, (w.alloc (.cells A 34)).alloc (.cells #[.int .i64 d.n, .int .i64 d.i, .int .i64 d.s] 23) = W := ⟨_, rfl⟩
  have hB : Bl w W [(A, 34), (#[.int .i64 d.n, .int .i64 d.i, .int .i64 d.s], 23)] := hW ▸ Bl.two w A _ _ _
  have h18 : W.cell? ⟨w.heap.size, 18, none⟩ = some (.slice q N c) := (hB.cell 0 18 rfl).trans c18
  have HC := Lib.hid (index_cls (hv.go hB.kept) (sameI d) 45 #[.pointer (some ⟨w.heap.size + 1, 0, none⟩)] (enters_of Try.func45 (by kernel_rfl) rfl)
    (fun u x hu _ => find1_any x (kept_at hu (hB.blk 1 rfl))))
  obtain ⟨z, hz⟩ : ∃ z, findL K d = z := ⟨_, rfl⟩
  rw [hz]
  rw [show idx (sameI d) K = z from hz] at HC
  have HK := Lib.hid hB.kept
  have HW := Lib.hid hW
  clear c18 hB hW hv hz
  go_enter Try.func20, Try.ntmps20
  go_upto_region 1 with fail
  rw [HW.out]
  go_wp2_with (go_at_call 44; refine HC.out.mono ?_; rintro e w' ⟨rfl, hk⟩)
  go_ret
  exact ⟨rfl, HK.out.trans hk⟩

theorem run_loads {w : World} {p : Addr} {q : Option Addr} {n c : Nat} (hc : w.cell? p = some (.slice q n c)) : (loadVar 26 p).run Try.prog w = .ok (.slice q n c) w := by go_simp

set_option maxRecDepth 100000 in
set_option maxHeartbeats 1000000 in
theorem rfind_any {w : World} {q : Option Addr} {N c : Nat} {K : List Cl} (o : Ow) (hv : Cls w (.slice q N c) K) (d : Nm) :
    Calls Try.prog 21 #[.agg (o.arr q N c), .agg #[.int .i64 d.n, .int .i64 d.i, .int .i64 d.s]] w fun e w' => e = .returned (.int .i64 (findL K d)) ∧ Kept w w' := by
  have hN : K.length = N := by obtain ⟨p, cap, e⟩ := hv.shape; cases e; rfl
  have hm2 : N ≤ 9223372036854775807 := by have := hv.most; unfold maxLen at this; omega
  obtain ⟨A, hA⟩ : ∃ A, o.arr q N c = A := ⟨_, rfl⟩
  have c18 : A[18]? = some (.slice q N c) := by rw [← hA]; rfl
  rw [hA]
  clear hA
  obtain ⟨W, hW⟩ : ∃ W, (w.alloc (.cells A 28)).alloc (.cells #[.int .i64 d.n, .int .i64 d.i, .int .i64 d.s] 23) = W := ⟨_, rfl⟩
  have hB : Bl w W [(A, 28), (#[.int .i64 d.n, .int .i64 d.i, .int .i64 d.s], 23)] := hW ▸ Bl.two w A _ _ _
  have H18 := Lib.hid (fun (u : World) (hu : Bl w u [(A, 28), (#[.int .i64 d.n, .int .i64 d.i, .int .i64 d.s], 23)]) => show u.cell? ⟨w.heap.size, 18, none⟩ = some (.slice q N c) from (hu.cell 0 18 rfl).trans c18)
  obtain ⟨R, hR⟩ : ∃ R, findL K d = R := ⟨_, rfl⟩
  rw [hR]
  have HR := Lib.hid hR
  have HB := Lib.hid hB
  have HW := Lib.hid hW
  have HV := Lib.hid hv
  have HN := Lib.hid hN
  clear c18 hB hW hv hN hR
  go_enter Try.func21, Try.ntmps21
  go_upto_region 1 with fail
  rw [HW.out]
  go_wp2_with fail
  go_loopw [5] (fun x wr => ∃ i : Nat, i ≤ N ∧ x = .int .i64 (i : Int) ∧ Kept W wr ∧ Hid ((K.take i).any (sameI d) = false)) (fun x _ => N - (intOf x).toNat)
  case atStart => exact ⟨0, Nat.zero_le _, rfl, Kept.refl _, rfl⟩
  case round =>
    obtain ⟨i, hi, rfl, hkw, hA⟩ := hrel
    have HBr := Lib.hid (HB.out.go hkw)
    have h18 := H18.out wr HBr.out
    by_cases hlt : i < N
    · obtain ⟨x, b, off, hx, rfl, hb, hc⟩ := (HV.out.go HBr.out.kept).pick (i := i) (by rw [HN.out]; exact hlt)
      have HX := Lib.hid hx
      have l18 := Ad.loadk_regrown (W := wr) (p := ⟨w.heap.size, 18, none⟩) (fun u hu => run_loads (H18.out u (HBr.out.go hu)))
      have lx := Ad.loadk_regrown (W := wr) (p := ⟨b, off + i * 13, none⟩) (fun u hu => load_id ((Below.cell hu (p := ⟨b, _, none⟩) hb).trans (hc 0 _ rfl)) ((Below.cell hu (p := ⟨b, _, none⟩) hb).trans (hc 1 _ rfl)) ((Below.cell hu (p := ⟨b, _, none⟩) hb).trans (hc 2 _ rfl)))
      have ld := Ad.loadk_regrown (W := wr) (p := ⟨w.heap.size + 1, 0, none⟩) (fun u hu => by
        have hz := (HBr.out.go hu).blk 1 rfl
        exact load_id (blk_cell hz 0) (blk_cell hz 1) (blk_cell hz 2))
      obtain ⟨z, hz⟩ : ∃ z, sameI d x = z := ⟨_, rfl⟩
      have he := fun u => eq_id x.n x.i x.s d.n d.i d.s u
      rw [show (x.n == d.n && (x.i == d.i && x.s == d.s)) = z from hz] at he
      have HZ := Lib.hid hz
      have hi1 : (i : Int) < N := by omega
      clear hx hc hz
      go_wp2_with fail
      refine wp_region_quiet_below (by kernel_rfl) (by kernel_rfl) ?_
      repeat (first
        | (go_big_quiet_want; refine Ad.quiet_load 26 (.tmp 13) rfl _ rfl _ l18.out ?_; simp only [Act.put, List.setIfInBounds_toArray, List.set_cons_succ, List.set_cons_zero]; go_big_quiet_on)
        | (go_big_quiet_want; refine Ad.quiet_load 23 (.tmp 17) rfl _ rfl _ lx.out ?_; simp only [Act.put, List.setIfInBounds_toArray, List.set_cons_succ, List.set_cons_zero]; go_big_quiet_on)
        | (go_big_quiet_want; refine Ad.quiet_load 23 (.tmp 3) rfl _ rfl _ ld.out ?_; simp only [Act.put, List.setIfInBounds_toArray, List.set_cons_succ, List.set_cons_zero]; go_big_quiet_on)
        | go_big_quiet_step (fail))
      refine wpQuiet_nil ?_
      intro _ hw'
      obtain ⟨⟨dq, osq⟩, hw''⟩ := hw'
      subst hw''
      have hk2 := hkw.trans (below_regrown wr dq osq)
      cases z
      · go_wp2_with fail
        go_roundw
        case rel => exact ⟨i + 1, hlt, by go_num, hk2, any_take hA.out HX.out HZ.out⟩
        case measure => simp [intOf]; omega
      · have HE := Lib.hid ((idx_hit hA.out HX.out HZ.out).symm.trans HR.out)
        go_wp2_with fail
        go_ret
        exact ⟨ret_int HE.out, HB.out.kept.trans hk2⟩
    · obtain rfl : i = N := by omega
      have HE := Lib.hid ((idx_miss (by have := hA.out; rwa [List.take_of_length_le (Nat.le_of_eq HN.out)] at this : K.any (sameI d) = false)).symm.trans HR.out)
      go_wp2_with fail
      go_ret
      exact ⟨ret_int HE.out, HBr.out.kept⟩

end Go.Proofs.Ytplkhinjlgmilaa.Ow
