/- Package owner: what its walks share: calls, keys and identities loaded, the place of a call; the document's Find. -/
import Derived.Test.YtiaafjabhnomeaaOw
import Derived.Test.YtiaafjabhnomeaaEqs
import Derived.Deep.MidRow
import Derived.Deep.DeepCutAuto
import Derived.LoopTactic
import Derived.Shelf.Abstract
import Derived.Test.YtiaafjabhnomeaaRc
namespace Go.Proofs.Ytiaafjabhnomeaa.Ow
open Go.RowKit Go.Sort St Blk Eqs
open Go.Proofs.Ytiaafjabhnomeaa.Cl
open Go.Proofs.Ytiaafjabhnomeaa.Ls
open Go.Proofs.Ytiaafjabhnomeaa.Id (quiet_at)
open Go.Proofs.Ytiaafjabhnomeaa.Ad (load_w load_l store_new)
set_option linter.unusedVariables false

theorem info_cl : (Try.prog.info? 79).map (·.size) = some 13 := by kernel_rfl
theorem info_rcl : (Try.prog.info? 70).map (·.size) = some 13 := by kernel_rfl
/-- a call is loaded out of a slice -/
theorem load_call {u : World} {b o : Nat} {c : Cl} {X : Array Value} (hX : c.arr = X) (h : ∀ j x, (encC c)[j]? = some x → u.cell? ⟨b, o + j, none⟩ = some x) : (loadVar 79 ⟨b, o, none⟩).run Try.prog u = .ok (.agg X) u := by
  subst hX; exact run_loadVar_mid u b o _ (encC c) _ h Try.underlying79 rfl info_cl
theorem load_rcall {u : World} {b o : Nat} {c : Cl} {X : Array Value} (hX : c.arr = X) (h : ∀ j x, (encC c)[j]? = some x → u.cell? ⟨b, o + j, none⟩ = some x) : (loadVar 70 ⟨b, o, none⟩).run Try.prog u = .ok (.agg X) u := by
  subst hX; exact run_loadVar_mid u b o _ (encC c) _ h Try.underlying70 rfl info_rcl
theorem one_cells (c : Cl) : c.arr.all (·.oneCell') = true := by obtain ⟨x0, x1, x2, x3, x4, x5, x6, x7, x8, x9, x10, x11, x12⟩ := c; kernel_rfl
/-- an identity is loaded out of whatever row -/
theorem load_id {u : World} {b o : Nat} {n i s : Int} (h0 : u.cell? ⟨b, o, none⟩ = some (.int .i64 n)) (h1 : u.cell? ⟨b, o + 1, none⟩ = some (.int .i64 i)) (h2 : u.cell? ⟨b, o + 2, none⟩ = some (.int .i64 s)) :
    (loadVar 30 ⟨b, o, none⟩).run Try.prog u = .ok (.agg #[.int .i64 n, .int .i64 i, .int .i64 s]) u :=
  run_loadVar_mid u b o _ [.int .i64 n, .int .i64 i, .int .i64 s] _ (fun j x hj => by
    match j, hj with
    | 0, hj => cases hj; exact h0
    | 1, hj => cases hj; exact h1
    | 2, hj => cases hj; exact h2) Try.underlying30 rfl (by kernel_rfl)
theorem eq_id (n i s n' i' s' : Int) (w : World) : (binOp .eql 30 (.agg #[.int .i64 n, .int .i64 i, .int .i64 s]) (.agg #[.int .i64 n', .int .i64 i', .int .i64 s'])).run Try.prog w = .ok (.bool (n == n' && (i == i' && s == s'))) w := by
  simp [go_sem]
  repeat (first | exact eq_end | refine eq_on ?_)
/-- the place of the first such call -/
def idx (f : Cl → Bool) (K : List Cl) : Int := match K.findIdx? f with | some i => (i : Int) | none => -1
def sameI (d : Nm) (a : Cl) : Bool := a.n == d.n && (a.i == d.i && a.s == d.s)
def findL (K : List Cl) (d : Nm) : Int := idx (sameI d) K
theorem first_hit {f : Cl → Bool} : ∀ {K : List Cl} {i : Nat} {x : Cl}, (K.take i).any f = false → K[i]? = some x → f x = true → K.findIdx? f = some i
  | [], i, x, _, hx, _ => by simp at hx
  | a :: l, 0, x, _, hx, hf => by
    simp only [List.getElem?_cons_zero, Option.some.injEq] at hx
    subst hx
    simp [List.findIdx?_cons, hf]
  | a :: l, i + 1, x, h, hx, hf => by
    rw [List.take_succ_cons, List.any_cons, Bool.or_eq_false_iff] at h
    have ih := first_hit h.2 (by simpa using hx) hf
    simp [List.findIdx?_cons, h.1, ih]
theorem first_miss {f : Cl → Bool} : ∀ {K : List Cl}, K.any f = false → K.findIdx? f = none
  | [], _ => rfl
  | a :: l, h => by
    rw [List.any_cons, Bool.or_eq_false_iff] at h
    simp [List.findIdx?_cons, h.1, first_miss h.2]
theorem idx_hit {f : Cl → Bool} {K : List Cl} {i : Nat} {x : Cl} (h : (K.take i).any f = false) (hx : K[i]? = some x) (hf : f x = true) : idx f K = (i : Int) := by unfold idx; rw [first_hit h hx hf]
theorem idx_miss {f : Cl → Bool} {K : List Cl} (h : K.any f = false) : idx f K = -1 := by unfold idx; rw [first_miss h]
theorem any_take {K : List Cl} {f : Cl → Bool} {i : Nat} {x : Cl} (h : (K.take i).any f = false) (hx : K[i]? = some x) (hf : f x = false) : (K.take (i + 1)).any f = false := by
  rw [List.take_add_one, hx, List.any_append, h]; simp [hf]
theorem load_cl {W : World} {b : Nat} {X : Array Value} (hb : W.heap[b]? = some (.cells X 79 (0, 0))) (hs : X.size = 13) : (loadVar 79 ⟨b, 0, none⟩).run Try.prog W = .ok (.agg X) W :=
  run_loadVar_row _ b _ _ X (0, 0) _ hb Try.underlying79 rfl (by rw [hs]; exact info_cl)

/-- what a slice of one call is built of -/
theorem fold_cl (x : Cl) {X : Array Value} (h : x.arr = X) : Array.foldl (fun (cs : Array Value) (y : Value × Nat) => cs.setIfInBounds y.snd y.fst) #[.int .i64 0, .int .i64 0, .int .i64 0, .int .i64 0, .int .i64 0, .int .i64 0, .int .i64 0, .int .i64 0, .int .i64 0, .bool false, .int .i64 0, .int .i64 0, .int .i64 0] (X.zipIdx 0) 0 13 = X := by
  subst h
  obtain ⟨x0, x1, x2, x3, x4, x5, x6, x7, x8, x9, x10, x11, x12⟩ := x
  simp [Cl.arr]
theorem load_row {W : World} {b : Nat} {A : Array Value} (hb : W.heap[b]? = some (.cells A 35 (0, 0))) (hs : A.size = 19) : (loadVar 35 ⟨b, 0, none⟩).run Try.prog W = .ok (.agg A) W :=
  run_loadVar_row _ b _ _ A (0, 0) _ hb Try.underlying35 rfl (by rw [hs]; exact info_row)
theorem load_rcl {W : World} {b : Nat} {X : Array Value} (hb : W.heap[b]? = some (.cells X 70 (0, 0))) (hs : X.size = 13) : (loadVar 70 ⟨b, 0, none⟩).run Try.prog W = .ok (.agg X) W :=
  run_loadVar_row _ b _ _ X (0, 0) _ hb Try.underlying70 rfl (by rw [hs]; exact info_rcl)
theorem take_snoc {L : List Cl} {i : Nat} {x : Cl} (h : L[i]? = some x) : L.take (i + 1) = L.take i ++ [x] := by rw [List.take_add_one, h]; rfl
/-- a key is loaded out of whatever row -/
theorem load_key {u : World} {b o : Nat} {n i s k : Int} (h0 : u.cell? ⟨b, o, none⟩ = some (.int .i64 n)) (h1 : u.cell? ⟨b, o + 1, none⟩ = some (.int .i64 i)) (h2 : u.cell? ⟨b, o + 2, none⟩ = some (.int .i64 s)) (h3 : u.cell? ⟨b, o + 3, none⟩ = some (.int .i64 k)) :
    (loadVar 32 ⟨b, o, none⟩).run Try.prog u = .ok (.agg #[.int .i64 n, .int .i64 i, .int .i64 s, .int .i64 k]) u :=
  run_loadVar_mid u b o _ [.int .i64 n, .int .i64 i, .int .i64 s, .int .i64 k] _ (fun j x hj => by
    match j, hj with
    | 0, hj => cases hj; exact h0
    | 1, hj => cases hj; exact h1
    | 2, hj => cases hj; exact h2
    | 3, hj => cases hj; exact h3) Try.underlying32 rfl (by kernel_rfl)

theorem run_loads {w : World} {p : Addr} {q : Option Addr} {n c : Nat} (hc : w.cell? p = some (.slice q n c)) : (loadVar 33 p).run Try.prog w = .ok (.slice q n c) w := by go_simp

set_option maxRecDepth 100000 in
set_option maxHeartbeats 1000000 in
theorem rfind_any {w : World} {q : Option Addr} {N c : Nat} {K : List Cl} (o : Ow) (hv : Cls w (.slice q N c) K) (d : Nm) :
    Calls Try.prog 25 #[.agg (o.arr q N c), .agg #[.int .i64 d.n, .int .i64 d.i, .int .i64 d.s]] w fun e w' => e = .returned (.int .i64 (findL K d)) ∧ Kept w w' := by
  have hN : K.length = N := by obtain ⟨p, cap, e⟩ := hv.shape; cases e; rfl
  have hm2 : N ≤ 9223372036854775807 := by have := hv.most; unfold maxLen at this; omega
  obtain ⟨A, hA⟩ : ∃ A, o.arr q N c = A := ⟨_, rfl⟩
  have c18 : A[18]? = some (.slice q N c) := by rw [← hA]; rfl
  rw [hA]
  clear hA
  obtain ⟨W, hW⟩ : ∃ W, (w.alloc (.cells A 35)).alloc (.cells #[.int .i64 d.n, .int .i64 d.i, .int .i64 d.s] 30) = W := ⟨_, rfl⟩
  have hB : Bl w W [(A, 35), (#[.int .i64 d.n, .int .i64 d.i, .int .i64 d.s], 30)] := hW ▸ Bl.two w A _ _ _
  have H18 := Lib.hid (fun (u : World) (hu : Bl w u [(A, 35), (#[.int .i64 d.n, .int .i64 d.i, .int .i64 d.s], 30)]) => show u.cell? ⟨w.heap.size, 18, none⟩ = some (.slice q N c) from (hu.cell 0 18 rfl).trans c18)
  obtain ⟨R, hR⟩ : ∃ R, findL K d = R := ⟨_, rfl⟩
  rw [hR]
  have HR := Lib.hid hR
  have HB := Lib.hid hB
  have HW := Lib.hid hW
  have HV := Lib.hid hv
  have HN := Lib.hid hN
  clear c18 hB hW hv hN hR
  go_enter Try.func25, Try.ntmps25
  go_upto_region 1 with fail
  rw [HW.out]
  go_wp2_with fail
  go_loopw [5] (fun x wr => ∃ i : Nat, i ≤ N ∧ x = .int .i64 (i : Int) ∧ Kept W wr ∧ Hid ((K.take i).any (sameI d) = false)) (fun x _ => N - (intOf x).toNat)
  case atStart => exact ⟨0, Nat.zero_le _, rfl, Kept.refl _, rfl⟩
  case round =>
    obtain ⟨i, hi, rfl, hkw, hA⟩ := hrel
    have HBr := Lib.hid (HB.out.go hkw)
    have h18 := H18.out wr HBr.out
    by_cases hlt : i < N
    · obtain ⟨x, b, off, hx, rfl, hb, hc⟩ := (HV.out.go HBr.out.kept).pick (i := i) (by rw [HN.out]; exact hlt)
      have HX := Lib.hid hx
      have l18 := Ad.loadk_regrown (W := wr) (p := ⟨w.heap.size, 18, none⟩) (fun u hu => run_loads (H18.out u (HBr.out.go hu)))
      have lx := Ad.loadk_regrown (W := wr) (p := ⟨b, off + i * 13, none⟩) (fun u hu => load_id ((Below.cell hu (p := ⟨b, _, none⟩) hb).trans (hc 0 _ rfl)) ((Below.cell hu (p := ⟨b, _, none⟩) hb).trans (hc 1 _ rfl)) ((Below.cell hu (p := ⟨b, _, none⟩) hb).trans (hc 2 _ rfl)))
      have ld := Ad.loadk_regrown (W := wr) (p := ⟨w.heap.size + 1, 0, none⟩) (fun u hu => by
        have hz := (HBr.out.go hu).blk 1 rfl
        exact load_id (blk_cell hz 0) (blk_cell hz 1) (blk_cell hz 2))
      obtain ⟨z, hz⟩ : ∃ z, sameI d x = z := ⟨_, rfl⟩
      have he := fun u => eq_id x.n x.i x.s d.n d.i d.s u
      rw [show (x.n == d.n && (x.i == d.i && x.s == d.s)) = z from hz] at he
      have HZ := Lib.hid hz
      have hi1 : (i : Int) < N := by omega
      clear hx hc hz
      go_wp2_with fail
      refine wp_region_quiet_below (by kernel_rfl) (by kernel_rfl) ?_
      repeat (first
        | (go_big_quiet_want; refine Ad.quiet_load 33 (.tmp 13) rfl _ rfl _ l18.out ?_; simp only [Act.put, List.setIfInBounds_toArray, List.set_cons_succ, List.set_cons_zero]; go_big_quiet_on)
        | (go_big_quiet_want; refine Ad.quiet_load 30 (.tmp 17) rfl _ rfl _ lx.out ?_; simp only [Act.put, List.setIfInBounds_toArray, List.set_cons_succ, List.set_cons_zero]; go_big_quiet_on)
        | (go_big_quiet_want; refine Ad.quiet_load 30 (.tmp 3) rfl _ rfl _ ld.out ?_; simp only [Act.put, List.setIfInBounds_toArray, List.set_cons_succ, List.set_cons_zero]; go_big_quiet_on)
        | go_big_quiet_step (fail))
      refine wpQuiet_nil ?_
      intro _ hw'
      obtain ⟨⟨dq, osq⟩, hw''⟩ := hw'
      subst hw''
      have hk2 := hkw.trans (below_regrown wr dq osq)
      cases z
      · go_wp2_with fail
        go_roundw
        case rel => exact ⟨i + 1, hlt, by go_num, hk2, any_take hA.out HX.out HZ.out⟩
        case measure => simp [intOf]; omega
      · have HE := Lib.hid ((idx_hit hA.out HX.out HZ.out).symm.trans HR.out)
        go_wp2_with fail
        go_ret
        exact ⟨ret_int HE.out, HB.out.kept.trans hk2⟩
    · obtain rfl : i = N := by omega
      have HE := Lib.hid ((idx_miss (by have := hA.out; rwa [List.take_of_length_le (Nat.le_of_eq HN.out)] at this : K.any (sameI d) = false)).symm.trans HR.out)
      go_wp2_with fail
      go_ret
      exact ⟨ret_int HE.out, HBr.out.kept⟩

end Go.Proofs.Ytiaafjabhnomeaa.Ow
