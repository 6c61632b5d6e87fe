/- Rows of keys: how they lie and read, whoever's they are; are two the same?; keys as keys of maps. -/
import Derived.Test.YtckjdncacinnkaaDoorMv
import Derived.Test.YtckjdncacinnkaaDoorKeE
import Derived.Test.YtckjdncacinnkaaDoorLs
import Derived.Test.YtckjdncacinnkaaDoorWr
import Derived.Deep.MidRow
import Derived.LoopTactic
namespace Go.Proofs.YtckjdncacinnkaaDoor.Tb
open Go.RowKit Go.Maps Go.Sort IdM Se Mv
open St (Kept blk_cell blk_free blk_lt blk_set)
open Go.Proofs.YtckjdncacinnkaaDoor.Rv
open Go.Proofs.YtckjdncacinnkaaDoor.Ls
open Wh (Fr)
set_option linter.unusedVariables false
set_option linter.unusedSimpArgs false
set_option maxRecDepth 20000

/-! ### keys as keys of maps -/
theorem klaw_K : Go.WideMaps.KeyLaw Tryd.prog 26 := deep_law_laid laidOut (m := 4) (by omega) (of_decide_eq_true (by kernel_rfl)) (by kernel_rfl) (by kernel_rfl)
def keyK : KeyT Ke 26 where
  klaw := klaw_K
  v := kv
  l := kl
  ok := okK
  key := key_K
  inj := fun x y hx hy h => kl_inj hx hy h

/-! ### rows of keys -/
def encK (x : Ke) : List Value := [.int .i64 x.n, .int .i64 x.i, .int .i64 x.s, .int .i64 x.a]
def zsK : List Value := [.int .i64 0, .int .i64 0, .int .i64 0, .int .i64 0]
theorem one_K (x : Ke) : ∀ u ∈ encK x, u.oneCell' = true := fun u hu => by
  simp only [encK, List.mem_cons, List.not_mem_nil, or_false] at hu
  rcases hu with rfl | rfl | rfl | rfl <;> rfl
theorem enc_key : EncT (α := Ke) 34 26 4 32 zsK encK :=
  ⟨Tryd.underlying34, by kernel_rfl, by decide, by decide, rfl, fun u hu => by
    simp only [zsK, List.mem_cons, List.not_mem_nil, or_false] at hu
    rcases hu with rfl | rfl | rfl | rfl <;> rfl, fun _ => rfl, one_K⟩
abbrev Kr (w : World) (v : Value) (l : List Ke) : Prop := RowV w v 26 4 encK l

/-- v reads as these keys -/
abbrev Lk (W : World) (v : Value) (L : List Ke) : Prop := Ls 4 encK W v L
theorem kr_lk {w : World} {v : Value} {l : List Ke} (h : Kr w v l) (hl : l.length ≤ 1000000) : Lk w v l := ls_row (fun _ => rfl) h hl
theorem lk_take {K L : List Ke} {i : Nat} {x y : Ke} (h : K.take i = L.take i) (hx : K[i]? = some x) (hy : L[i]? = some y) (e : x = y) : K.take (i + 1) = L.take (i + 1) := by
  rw [List.take_add_one, List.take_add_one, h, hx, hy, e]
theorem lk_load {u : World} {b o : Nat} {x : Ke} (h : ∀ j z, (encK x)[j]? = some z → u.cell? ⟨b, o + j, none⟩ = some z) : (loadVar 26 ⟨b, o, none⟩).run Tryd.prog u = .ok (kv x) u :=
  run_loadVar_mid u b o _ (encK x) _ h Tryd.underlying26 rfl (by kernel_rfl)

set_option maxHeartbeats 2000000 in
theorem same_any {w : World} {u v : Value} {K L : List Ke} (hu : Lk w u K) (hv : Lk w v L) :
    Calls Tryd.prog 17 #[u, v] w fun e w' => e = .returned (.bool (decide (K = L))) ∧ Kept w w' := by
  obtain ⟨p, N, c, rfl, hN, hm⟩ := hu.slice
  obtain ⟨q, M, d, rfl, hM, hm'⟩ := hv.slice
  have hm2 : N ≤ 9223372036854775807 := by unfold maxLen at hm; omega
  obtain ⟨R, hR⟩ : ∃ R, decide (K = L) = R := ⟨_, rfl⟩
  rw [hR]
  have HU := Lib.hid hu
  have HV := Lib.hid hv
  have HN := Lib.hid hN
  have HM := Lib.hid hM
  have HR := Lib.hid hR
  clear hu hv hN hM hR
  by_cases hNM : N = M
  · subst hNM
    have e0 : ((N : Int) == (N : Int)) = true := beq_self_eq_true _
    go_enter Tryd.func17, Tryd.ntmps17
    go_wp2_with fail
    go_loopw [5] (fun x wr => ∃ i : Nat, i ≤ N ∧ x = .int .i64 (i : Int) ∧ Kept w wr ∧ Hid (K.take i = L.take i)) (fun x _ => N - (intOf x).toNat)
    case atStart => exact ⟨0, Nat.zero_le _, rfl, Kept.refl _, rfl⟩
    case round =>
      obtain ⟨i, hi, rfl, hk, hA⟩ := hrel
      by_cases hlt : i < N
      · obtain ⟨x, b, off, hx, rfl, hb, hc⟩ := (HU.out.go hk).pick (i := i) (by rw [HN.out]; exact hlt)
        obtain ⟨y, b', off', hy, rfl, hb', hc'⟩ := (HV.out.go hk).pick (i := i) (by rw [HM.out]; exact hlt)
        have lx := Ad.loadk_regrown (W := wr) (p := ⟨b, off + i * 4, none⟩) (fun u hu => lk_load fun j z hj => (Below.cell hu (p := ⟨b, _, none⟩) hb).trans (hc j z hj))
        have ly := Ad.loadk_regrown (W := wr) (p := ⟨b', off' + i * 4, none⟩) (fun u hu => lk_load fun j z hj => (Below.cell hu (p := ⟨b', _, none⟩) hb').trans (hc' j z hj))
        obtain ⟨z, hz⟩ : ∃ z, decide (x = y) = z := ⟨_, rfl⟩
        have he := fun u => neq_key x.n x.i x.s x.a y.n y.i y.s y.a u
        rw [show (⟨x.n, x.i, x.s, x.a⟩ : Ke) = x from rfl, show (⟨y.n, y.i, y.s, y.a⟩ : Ke) = y from rfl, hz] at he
        have HX := Lib.hid (And.intro hx hy)
        have HZ := Lib.hid hz
        have hi1 : (i : Int) < N := by omega
        clear hx hy hc hc' hz
        unfold kv at lx ly
        go_wp2_with fail
        refine wp_region_quiet_below (by kernel_rfl) (by kernel_rfl) ?_
        repeat (first
          | (go_big_quiet_want; refine Ad.quiet_load 26 (.tmp 19) rfl _ rfl _ lx.out ?_; simp only [Act.put, List.setIfInBounds_toArray, List.set_cons_succ, List.set_cons_zero]; go_big_quiet_on)
          | (go_big_quiet_want; refine Ad.quiet_load 26 (.tmp 23) rfl _ rfl _ ly.out ?_; simp only [Act.put, List.setIfInBounds_toArray, List.set_cons_succ, List.set_cons_zero]; go_big_quiet_on)
          | go_big_quiet_step (fail))
        refine wpQuiet_nil ?_
        intro _ hw'
        obtain ⟨⟨dq, osq⟩, hw''⟩ := hw'
        subst hw''
        have hk2 := hk.trans (below_regrown wr dq osq)
        cases z
        · have HE := Lib.hid (show R = false by
            rw [← HR.out]
            refine decide_eq_false fun c => of_decide_eq_false HZ.out ?_
            have h1 := HX.out.1
            rw [c, HX.out.2] at h1
            exact (Option.some.inj h1).symm)
          go_wp2_with fail
          go_ret
          exact ⟨congrArg (fun b => Ending.returned (.bool b)) HE.out.symm, hk2⟩
        · go_wp2_with fail
          go_roundw
          case rel => exact ⟨i + 1, hlt, by go_num, hk2, lk_take hA.out HX.out.1 HX.out.2 (of_decide_eq_true HZ.out)⟩
          case measure => simp [intOf]; omega
      · obtain rfl : i = N := by omega
        have HE := Lib.hid (show R = true by
          rw [← HR.out]
          have h1 := hA.out
          rw [List.take_of_length_le (Nat.le_of_eq HN.out), List.take_of_length_le (Nat.le_of_eq HM.out)] at h1
          exact decide_eq_true h1)
        go_wp2_with fail
        go_ret
        exact ⟨congrArg (fun b => Ending.returned (.bool b)) HE.out.symm, hk⟩
  · have e0 : ((N : Int) == (M : Int)) = false := beq_eq_false_iff_ne.2 (by omega)
    have e1 : ((N : Int) = (M : Int)) = False := eq_false (by omega)
    have HE := Lib.hid (show R = false by
      rw [← HR.out]
      refine decide_eq_false fun c => hNM ?_
      rw [← HN.out, ← HM.out, c])
    rw [HE.out]
    clear HE
    go_enter Tryd.func17, Tryd.ntmps17
    go_wp2_with fail
    go_ret
    exact ⟨rfl, Kept.refl _⟩

end Go.Proofs.YtckjdncacinnkaaDoor.Tb
