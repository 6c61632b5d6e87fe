/- The law 'the code stays', at an error. -/
import Derived.Test.YtjecoldapmoioaaDoorFaLaws2
namespace Go.Proofs.YtjecoldapmoioaaDoor.FaL2
open Go.RowKit Go.Sort St Cd Er Sb Fa Args
set_option linter.unusedVariables false

/-- two errors, the second one through one node more; a cell of a row of nodes, and one of the argument -/
def Two (W : World) (x : Int) (p : List Int) (e : Value) (z : Int) (f : Value) (g b o : Nat) (w : World) : Prop :=
  Has W (some x) p e w ∧ Has W (some x) (z :: p) f w ∧ w.cell? ⟨g, 0, none⟩ = some (.int .i64 z) ∧ w.cell? ⟨b, o, none⟩ = some (.int .i64 z)
theorem Two.go {W : World} {x : Int} {p : List Int} {e : Value} {z : Int} {f : Value} {g b o : Nat} {w w' : World} (h : Two W x p e z f g b o w) (k : Kept w w') : Two W x p e z f g b o w' :=
  ⟨h.1.go k, h.2.1.go k, by rw [k.cell (p := ⟨g, 0, none⟩) (cell_in h.2.2.1)]; exact h.2.2.1, by rw [k.cell (p := ⟨b, o, none⟩) (cell_in h.2.2.2)]; exact h.2.2.2⟩
theorem Two.cells {W : World} {x : Int} {p : List Int} {e : Value} {z : Int} {f : Value} {g b o : Nat} {w : World} (h : Two W x p e z f g b o w) : w.cell? ⟨g, 0, none⟩ = some (.int .i64 z) ∧ w.cell? ⟨b, o, none⟩ = some (.int .i64 z) := h.2.2
theorem Two.one {W : World} {x : Int} {p : List Int} {e : Value} {z : Int} {f : Value} {g b o : Nat} {w : World} (h : Two W x p e z f g b o w) : Has W (some x) (z :: p) f w := h.2.1
theorem code_e {W : World} {x : Int} {p : List Int} {e : Value} {z : Int} {f : Value} {g b o : Nat} {w : World} (h : Two W x p e z f g b o w) :
    Calls Tryd.prog 11 #[e] w fun ev w' => ev = .returned (.int .i64 x) ∧ Two W x p e z f g b o w' :=
  (code_C x p e w h.1.1 h.1.2.1).mono fun _ _ r => ⟨r.1, h.go r.2⟩
theorem code_f {W : World} {x : Int} {p : List Int} {e : Value} {z : Int} {f : Value} {g b o : Nat} {w : World} (h : Two W x p e z f g b o w) :
    Calls Tryd.prog 11 #[f] w fun ev w' => ev = .returned (.int .i64 x) ∧ Two W x p e z f g b o w' :=
  (code_C x (z :: p) f w h.2.1.1 h.2.1.2.1).mono fun _ _ r => ⟨r.1, h.go r.2⟩
theorem path_e {W : World} {x : Int} {p : List Int} {e : Value} {z : Int} {f : Value} {g b o : Nat} {w : World} (m : Nat) (hm : Hid (p.length = m ∧ m ≤ 10000)) (h : Two W x p e z f g b o w) :
    Calls Tryd.prog 13 #[e] w fun ev w' => ∃ ao cap, ev = .returned (.slice ao m cap) ∧ Two W x p e z f g b o w' := by
  have hl := hm.out.1; subst hl
  exact (path_any x p e w h.1.1 hm.out.2 h.1.2.1).mono fun _ _ ⟨ao, cap, r1, _, r2⟩ => ⟨ao, cap, r1, h.go r2⟩
/-- the path of the second one: its first cell -/
theorem path_f {W : World} {x : Int} {p : List Int} {e : Value} {z : Int} {f : Value} {b o : Nat} {w : World} (m m2 : Nat) (hm : Hid (p.length = m ∧ m2 = m + 1 ∧ m ≤ 9000)) (h1 : Has W (some x) p e w) (h2 : Has W (some x) (z :: p) f w) (h3 : w.cell? ⟨b, o, none⟩ = some (.int .i64 z)) :
    Calls Tryd.prog 13 #[f] w fun ev w' => ∃ g cap, ev = .returned (.slice (some ⟨g, 0, none⟩) m2 cap) ∧ Two W x p e z f g b o w' := by
  have hl := hm.out.1; have hl2 := hm.out.2.1; subst hl; subst hl2
  refine (path_any x (z :: p) f w h2.1 (by have := hm.out.2.2; simp; omega) h2.2.1).mono ?_
  rintro ev w' ⟨ao, cap, rfl, hown, k⟩
  rcases hown.2 with ⟨_, h0⟩ | ⟨g, cap', cur, hv, _⟩
  · simp at h0
  · simp only [Value.slice.injEq] at hv
    obtain ⟨rfl, _, rfl⟩ := hv
    have hc := hown.cells (g := g) rfl 0 _ (Fa.ints_at (z :: p) 0 (by simp))
    exact ⟨g, cap, rfl, h1.go k, h2.go k, by simpa [Addr.add] using hc, by rw [k.cell (p := ⟨b, o, none⟩) (cell_in h3)]; exact h3⟩

theorem eq_flip (a b : Int) : (a == b) = decide (b = a) := by
  rcases Decidable.em (b = a) with h | h
  · subst h; simp
  · rw [decide_eq_false h]
    exact beq_eq_false_iff_ne.2 fun e => h e.symm

set_option maxRecDepth 100000 in
set_option maxHeartbeats 2000000 in
theorem stays_some (c n x : Int) (hc : ¬ c = 0) (hx : Hid (clean c = x)) (v : Value) (len : Nat) (F : Nat → Int) (W : World) (hp : Ints W v len F) (hg : Eh W) :
    Calls Tryd.prog 4 #[.int .i64 c, .int .i64 n, v] W fun ev w' => ev = .returned (.bool true) ∧ Kept W w' := by
  have K0 : Kept W W := Kept.refl _
  have HG := Lib.hid hg
  clear hg
  obtain ⟨a0, cap, rfl⟩ : ∃ a0 cap, v = .slice a0 len cap := by
    rcases hp with ⟨rfl, a, cap, rfl⟩ | ⟨_, _, b, off, cap, rfl, _⟩
    · exact ⟨_, _, rfl⟩
    · exact ⟨_, _, rfl⟩
  have HP := Lib.hid hp
  clear hp
  by_cases h30 : 30 < len
  · go_enter Tryd.func4, Tryd.ntmps4
    go_wp2_with (go_at_call 6; refine (awake_k HG (by assumption)).mono ?_; rintro e w1 ⟨rfl, K1⟩)
    go_ret
    exact ⟨rfl, K1⟩
  · have hcz : (c == 0) = false := beq_eq_false_iff_ne.2 hc
    have hx0 : ¬ x = 0 := fun h => hc (clean_zero (hx.out.trans h))
    go_enter Tryd.func4, Tryd.ntmps4
    go_wp2_with (go_at_call 7; refine (new_any c n x hx hx0 _).mono ?_; rintro ev w1 ⟨e1, rfl, he1, hk1⟩)
    go_loopw [7, 8] (fun e i wr => ∃ (k : Nat) (p : List Int), k ≤ len ∧ i = .int .i64 (k : Int) ∧ Hid (p.length = k + 1) ∧ Has W (some x) p e wr) (fun _ i _ => len - (intOf i).toNat)
    case atStart => exact ⟨0, [n], Nat.zero_le _, rfl, rfl, HG.out.kept hk1, he1, hk1⟩
    case round =>
      obtain ⟨k, p, hk, rfl, hpl, hE⟩ := hrel
      obtain ⟨ty, ve, rfl⟩ := hE.2.1.some_ne
      by_cases hlt : k < len
      · obtain ⟨b, off, rfl, hcell⟩ : ∃ b off, a0 = some ⟨b, off, none⟩ ∧ wr.cell? ⟨b, off + k, none⟩ = some (.int .i64 (F k)) := by
          rcases HP.out with ⟨h, _⟩ | ⟨_, _, b, off, cap', he, hb, hc⟩
          · omega
          · simp only [Value.slice.injEq] at he
            exact ⟨b, off, he.1, by rw [hE.2.2.cell (p := ⟨b, off + k, none⟩) hb]; exact (hc k hlt).1⟩
        obtain ⟨z, hz⟩ : ∃ z, F k = z := ⟨_, rfl⟩
        rw [hz] at hcell
        obtain ⟨m, hmk⟩ : ∃ m, k + 1 = m := ⟨_, rfl⟩
        obtain ⟨m2, hm2k⟩ : ∃ m2, m + 1 = m2 := ⟨_, rfl⟩
        have hm : Hid (p.length = m ∧ m2 = m + 1 ∧ m ≤ 9000) := ⟨hpl.out.trans hmk, hm2k.symm, by omega⟩
        have hm2 : Hid (p.length = m ∧ m ≤ 10000) := ⟨hpl.out.trans hmk, by omega⟩
        have hs1 : IntKind.i64.wrap ((m : Int) + 1) = (m2 : Int) := by rw [IntWalk.i64_in ((m : Int) + 1) (by omega)]; omega
        have hs2 : (0 : Int) < (m2 : Int) := by omega
        have hs5 : 0 < m2 := by omega
        have hs3 : (0 : Int) ≤ (k : Int) := by omega
        have hs4 : (k : Int) < (len : Int) := by omega
        have HM := Lib.hid hmk
        clear hmk hm2k
        go_wp2_with (first
          | (go_at_call 9; refine (wrap_any (some x) p _ _ z _ hE.2.1).mono ?_; rintro ev w1 ⟨f, rfl, hf, hk2⟩; obtain ⟨tf, vf, rfl⟩ := hf.some_ne
             have hE1 := hE.go hk2
             have hF1 : Has W (some x) (z :: p) (.iface tf vf) w1 := ⟨hE1.1, hf, hE1.2.2⟩
             have hc1 : w1.cell? ⟨b, off + k, none⟩ = some (.int .i64 z) := (by rw [hk2.cell (p := ⟨b, off + k, none⟩) (cell_in hcell)]; exact hcell))
          | (go_at_call 13; refine (path_f m m2 hm hE1 hF1 hc1).mono ?_; rintro ev w2 ⟨g, cap2, rfl, T2⟩))
        have T3 := T2.go (Kept.refl _).drew
        go_region_held3 (fun w' => w'.cell? ⟨g, 0, none⟩ = some (.int .i64 z) ∧ w'.cell? ⟨b, off + k, none⟩ = some (.int .i64 z)) (first | exact Two.cells (by assumption))
          (first
            | (go_at_call 11; first
              | ((with_reducible refine (code_f (by assumption)).mono ?_); rintro ev w4 ⟨rfl, T4⟩)
              | ((with_reducible refine (code_e (by assumption)).mono ?_); rintro ev w5 ⟨rfl, T5⟩))
            | (go_at_call 13; refine (path_e m hm2 (by assumption)).mono ?_; rintro ev w6 ⟨ao, cap3, rfl, T6⟩))
        clear hs1
        go_wp2_with fail
        go_roundw
        case rel => exact ⟨k + 1, z :: p, by omega, by go_num, by show _ = _; rw [List.length_cons, hpl.out], T6.one⟩
        case measure => simp [intOf]; omega
      · go_wp2_with fail
        go_loopw [11] (fun d wy => ∃ j : Nat, j ≤ 17 ∧ d = .int .i64 (j : Int) ∧ Has W (some x) p (.iface ty ve) wy) (fun d _ => 17 - (intOf d).toNat)
        case atStart => exact ⟨0, by omega, rfl, hE⟩
        case round =>
          obtain ⟨j, hj, rfl, hE2⟩ := hrel
          by_cases hj16 : j ≤ 16
          · obtain ⟨y, hy⟩ : ∃ y, decide (x = (j : Int)) = y := ⟨_, rfl⟩
            have HI := Lib.hid (fis_as (d := (j : Int)) hx0 hy hE2)
            have HC := Lib.hid (clean_any c)
            rw [hx.out] at HC
            have hjz : ((j : Int) == x) = y := (eq_flip _ _).trans hy
            clear hy hE2
            go_wp2_with (first
              | (go_at_call 16; refine HI.out.mono ?_; rintro ev w1 ⟨rfl, A1⟩)
              | (go_at_call 17; refine (HC.out _).mono ?_; rintro ev w1 ⟨rfl, rfl⟩))
            all_goals (try go_roundw)
            case rel => exact ⟨j + 1, by omega, by go_num, A1⟩
            case measure => simp [intOf]; omega
          · go_wp2_with (go_at_call 6; refine (awake_k HG hE2.2.2).mono ?_; rintro e w1 ⟨rfl, K1⟩)
            go_ret
            exact ⟨rfl, K1⟩

theorem stays_any (c n : Int) (v : Value) (len : Nat) (F : Nat → Int) (W : World) (hp : Ints W v len F) (hg : Eh W) :
    Calls Tryd.prog 4 #[.int .i64 c, .int .i64 n, v] W fun ev w' => ev = .returned (.bool true) ∧ Kept W w' := by
  by_cases hc : c = 0
  · subst hc; exact stays_zero n v len F W hp hg
  · exact stays_some c n _ hc rfl v len F W hp hg

set_option maxRecDepth 100000 in
theorem nodes {H : Type} {enc : TypeId × Value → H} {W : World} {r : Reach} {b0 : Nat} {v : Value} {d : DataW H} {p : List MemPlace} (hv : Value.okWide Tryd.prog W r b0 22 v)
    (h : DataW.Trod enc Tryd.prog W 0 (fun _ => true) true 22 v d p) : ∃ len F, Ints W v len F :=
  open_intl Tryd.underlying22 Tryd.underlying3 (by kernel_rfl) hv h
set_option maxRecDepth 100000 in
theorem stays_all (c n : Int) {H : Type} {enc : TypeId × Value → H} {W : World} {r : Reach} {b0 : Nat} {v : Value} {d : DataW H} {p : List MemPlace} (hv : Value.okWide Tryd.prog W r b0 22 v)
    (h : DataW.Trod enc Tryd.prog W 0 (fun _ => true) true 22 v d p) (hg : Eh W) :
    Calls Tryd.prog 4 #[.int .i64 c, .int .i64 n, v] W fun ev w' => ev = .returned (.bool true) ∧ Below W.heap.size W w' := by
  obtain ⟨len, F, hp⟩ := nodes hv h
  exact stays_any c n v len F W hp hg

end Go.Proofs.YtjecoldapmoioaaDoor.FaL2
