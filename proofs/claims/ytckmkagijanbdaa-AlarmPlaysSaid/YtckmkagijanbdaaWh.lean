/- Contracts of package wheel: what it is, where it is, how many times it has; a handle laid into its list. -/
import Derived.Test.YtckmkagijanbdaaWi
import Derived.Test.YtckmkagijanbdaaSl2
import Derived.Deep.QuietTactic
import Derived.BigQuiet
import Derived.LaidEqlPtr
import Derived.Deep.AppendLies
import Derived.Deep.RegionLaw
namespace Go.Proofs.Ytckmkagijanbdaa.Wh
open Go.RowKit Tk Sl
open St (Kept)

def P0 (B : Nat) : Value := .pointer (some ⟨B, 0, none⟩)

section
variable {w : World} {S : Nat → Prop} {B M : Nat} {now last : Int} {sv : Nat → Value} {ls : Nat → List Int} {T : Int → Option Tm} {n : Nat}

set_option maxHeartbeats 400000 in
theorem number_any (a b : Int) (ha : 0 ≤ a) (ha2 : a ≤ 4) (hb : 0 ≤ b) (hb2 : b ≤ 63) (w : World) :
    Calls Try.prog 59 #[.int .i64 a, .int .i64 b] w fun e w' => e = .returned (.int .i64 (a * 64 + b)) ∧ w = w' := by
  go_enter Try.func59, Try.ntmps59
  go_wp2
  go_ret
  exact ⟨rfl, rfl⟩

theorem eq_self (a : Addr) (w : World) : (binOp .eql 59 (.pointer (some a)) (.pointer (some a))).run Try.prog w = .ok (.bool true) w := by
  obtain ⟨j, hj, _⟩ := Option.map_eq_some_iff.1 (show (Try.prog.info? 95).map (·.size) = some 261 by kernel_rfl)
  exact run_eql_ptr_same w a Try.underlying59 hj

set_option maxHeartbeats 400000 in
theorem made_any (h : Is w S B M now last sv ls T n) : Calls Try.prog 47 #[.pointer (some ⟨B, 0, none⟩)] w fun e w' => e = .returned (.bool true) ∧ w = w' := by
  have c0 := h.cB
  have he := eq_self ⟨B, 0, none⟩ w
  clear h
  go_enter Try.func47, Try.ntmps47
  go_wp2
  go_ret
  exact ⟨rfl, rfl⟩
set_option maxHeartbeats 400000 in
theorem made_nil (w : World) : Calls Try.prog 47 #[.pointer none] w fun e w' => e = .returned (.bool false) ∧ w = w' := by
  go_enter Try.func47, Try.ntmps47
  go_wp2
  go_ret
  exact ⟨rfl, rfl⟩




theorem num_nat (now x : Int) : ∃ l : Nat, (l : Int) = num now x ∧ l < 257 :=
  ⟨(num now x).toNat, Int.toNat_of_nonneg (num_lo now x), by have := num_lo now x; have := num_hi now x; omega⟩

theorem info_int : (Try.prog.info? 3).map (fun i => (i.zero, i.size, i.bytes)) = some (some (.int .i64 0), 1, 8) := by kernel_rfl
theorem cell_one (w : World) (t : TypeId) (x : Value) : ∀ j u, [x][j]? = some u → (w.alloc (.cells #[x] t)).cell? ((⟨w.heap.size, 0, none⟩ : Addr).add j) = some u := by
  intro j u hj; match j, hj with | 0, hj => simp at hj; subst hj; simp [Addr.add]

/-- a row's length, told by the builtin -/
theorem Row.len {v : Value} {l : List Int} (h : Row w v l) (ty : TypeId) (u : World) : (Builtin.len_ #[67] ty #[v]).run Try.prog u = .ok (.int .i64 (l.length : Int)) u := by
  rcases h.2 with ⟨rfl, hn⟩ | ⟨g, cap, cur, rfl, _⟩
  · rw [hn]; kernel_rfl
  · simp [Builtin.len_, run_underlying Try.underlying67, goInt]

/-- what a wheel is when something was done with it -/
def Did (w : World) (S : Nat → Prop) (B M : Nat) (now last : Int) (ls : Nat → List Int) (T : Int → Option Tm) (n : Nat) (w' : World) : Prop :=
  ∃ S' sv, Is w' S' B M now last sv ls T n ∧ (∀ k, S' k → S k ∨ w.heap.size ≤ k) ∧ Fr S w w'
theorem Did.drew {w' : World} (h : Did w S B M now last ls T n w') : Did w S B M now last ls T n w'.drew := by
  obtain ⟨S', sv, h1, h2, h3⟩ := h
  exact ⟨S', sv, h1.kept (Kept.refl _).drew, h2, h3.drew⟩

theorem grown_at {w1 W w2 : World} {r : Option Nat} (hW : Kept w1 W) (hg : W.grownBy w2 r) {k : Nat} (hk : k < w1.heap.size) (hr : r ≠ some k) : w2.heap[k]? = w1.heap[k]? :=
  (hg.block k (Nat.lt_of_lt_of_le hk hW.size) (fun e => hr e.symm)).trans (hW.block k hk)

/-- behind an append to a list -/
theorem appended {w1 W w2 : World} {l : Nat} {x : Int} {g cap m : Nat} {S1 : Nat → Prop} (h : Is w1 S1 B M now last sv ls T n) (hl : l < 257) (hW : Kept w1 W) (hg : W.grownBy w2 (sv l).ownBlock) (hm : m = (ls l).length + 1)
    (hown : w2.ownsRow 0 3 1 (.slice (some ⟨g, 0, none⟩) m cap) m (hv (ls l) ++ [.int .i64 x])) (hw : (sv l).ownBlock = some g ∨ g = W.heap.size) (hF : Fr S w w1) (hS : ∀ k, S1 k → S k ∨ w.heap.size ≤ k) :
    Did w S B M now last (upd ls l (ls l ++ [x])) T n (w2.setCell ⟨B, 4 + l, none⟩ (.slice (some ⟨g, 0, none⟩) m cap)) := by
  subst hm
  have hsz := hF.size
  have hsz2 := hW.size
  have hr : Row w2 (.slice (some ⟨g, 0, none⟩) ((ls l).length + 1) cap) (ls l ++ [x]) := by
    unfold Row; rw [List.length_append]; unfold hv at *; rw [List.map_append]; exact hown
  have hI := h.setL' hl (fun k _ hne hlt => grown_at hW hg hlt hne) (Nat.le_trans hW.size hg.size) hr (fun g' e => by
    simp [Value.ownBlock] at e; subst e
    rcases hw with c | c
    · exact Or.inl c
    · exact Or.inr fun i hi e => by have := (h.row i hi).lt e; omega)
  refine ⟨_, _, hI, fun k c => ?_, ?_⟩
  · rcases c with c | c
    · exact hS k c
    · simp [Value.ownBlock] at c; subst c
      rcases hw with c | c
      · exact hS _ (h.sS l hl _ c)
      · exact Or.inr (by omega)
  · exact ((hF.then_kept hW).grown hg (fun k e => hS k (h.sS l hl k e))).setCell (hS _ h.sB) _

set_option maxHeartbeats 800000 in
set_option maxRecDepth 100000 in
theorem lay_any (h : Is w S B M now last sv ls T n) {x a : Int} {l : Nat} (hx : inR x) (hn : n ≤ 100000) (hl : (l : Int) = num now a) (hl2 : l < 257) (hlen : (ls l).length ≤ 100000) :
    Calls Try.prog 48 #[.pointer (some ⟨B, 0, none⟩), .int .i64 x, .int .i64 a] w fun e w' => e = .returned (.tuple #[]) ∧
      Did w S B M now last (upd ls l (ls l ++ [x])) (upd T x (some ⟨a, l, (ls l).length⟩)) (if (T x).isSome then n else n + 1) w' := by
  have c1 := h.c1
  have c3 := h.c3
  have cl := h.cl hl2
  have f1 := placeL_lo now a
  have f2 := placeL_hi now a
  have f3 := placeS_lo now a
  have f4 := placeS_hi now a
  have C1 := Lib.hid (fun w => place_any now a w)
  have C2 := Lib.hid (fun w => number_any (placeL now a) (placeS now a) f1 f2 f3 f4 w)
  have C2' : Hid (∀ w, Calls Try.prog 59 #[.int .i64 (placeL now a), .int .i64 (placeS now a)] w fun e w' => e = .returned (.int .i64 (l : Int)) ∧ w = w') := Lib.hid (by rw [hl]; exact C2.out)
  clear hl C2 f1 f2 f3 f4
  obtain ⟨k, hk⟩ : ∃ k : Int, ((ls l).length : Int) = k := ⟨_, rfl⟩
  have hlenr := fun ty u => (h.row l hl2).len ty u
  rw [hk] at hlenr
  obtain ⟨w1, hrun, hm1, ht1⟩ := (h.map.kept (w' := w.drew) rfl).store (by omega) hx ⟨a, l, (ls l).length⟩
  have h1 : Is w1 S B M now last sv ls _ _ := Is.setM (h.kept (Kept.refl w).drew) ht1 hm1
  have F1 : Fr S w w1 := ((Fr.refl S w).drew).turned ht1 (Or.inl h.sM)
  unfold tv at hrun
  simp only [hk] at hrun
  have k1 := h1.cl hl2
  have g1 := h1.free (4 + l)
  obtain ⟨v, hsv⟩ : ∃ v, sv l = v := ⟨_, rfl⟩
  have hrow1 := h1.row l hl2
  rw [hsv] at cl hlenr k1 hrow1
  have HS := Lib.hid (fun g (e : v.ownBlock = some g) => h1.sS l hl2 g (hsv ▸ e))
  have HV := Lib.hid hsv
  have HK := Lib.hid hk
  have H1 := Lib.hid h1
  have HF := Lib.hid F1
  have hl3 : (l : Int) < 257 := by omega
  have hB1 := h1.ltB
  obtain ⟨i0, hi, hz0, hz1, hz2⟩ := info_parts info_int
  have HI := Lib.hid (And.intro hi (And.intro hz0 (And.intro hz1 hz2)))
  have hne : v.ownBlock ≠ some B := fun e => (h1.neg hl2 (hsv ▸ e)).1 rfl
  have fin : ∀ (W w2 : World) (g cap : Nat), Kept w1 W → W.grownBy w2 v.ownBlock → w2.ownsRow 0 3 1 (.slice (some ⟨g, 0, none⟩) ((ls l).length + 1) cap) ((ls l).length + 1) (hv (ls l) ++ [.int .i64 x]) → (v.ownBlock = some g ∨ g = W.heap.size) →
      Did w S B M now last (upd ls l (ls l ++ [x])) (upd T x (some ⟨a, l, (ls l).length⟩)) (if (T x).isSome then n else n + 1) (w2.setCell ⟨B, 4 + l, none⟩ (.slice (some ⟨g, 0, none⟩) ((ls l).length + 1) cap)) := fun W w2 g cap k1 k3 k4 k5 =>
    appended h1 hl2 k1 (hsv ▸ k3) rfl k4 (hsv ▸ k5) F1 (fun _ c => Or.inl c)
  have KB : ∀ (W w2 : World), Kept w1 W → W.grownBy w2 v.ownBlock → w2.cell? ⟨B, 4 + l, none⟩ = some v ∧ w2.frozen? ⟨B, 4 + l, none⟩ = false := fun W w2 k1 k2 =>
    ⟨(World.cell?_of_block (w := w1) (grown_at k1 k2 hB1 hne)).trans (by rw [h1.cl hl2, hsv]), (World.frozen?_of_block (w := w1) (grown_at k1 k2 hB1 hne)).trans (h1.free _)⟩
  have KB := Lib.hid KB
  have FIN := Lib.hid fin
  clear fin hne hi hz0 hz1 hz2 hsv hk h h1 hm1 ht1 F1
  go_enter Try.func48, Try.ntmps48
  go_wp2_with (first | (go_at_call 60; refine (C1.out _).mono ?_; rintro e w' ⟨rfl, rfl⟩) | (go_at_call 59; refine (C2'.out _).mono ?_; rintro e w' ⟨rfl, rfl⟩))
  go_region
  go_wp2
  go_region_law (first | (refine step_append_lies _ rfl (.tmp 38) (.tmp 40) 67 rfl 0 3 i0 (.int .i64 0) 1 8 Try.underlying67 HI.out.1 HI.out.2.1 HI.out.2.2.1 HI.out.2.2.2 rfl (by decide) _ _ _ (by simp [Act.eval]) (World.ownsRow.alloc hrow1 _) ⟨w1.heap.size, 0, none⟩ 1 1 [.int .i64 x] (by simp [Act.eval]) rfl (cell_one _ _ _) (by intro u hu; simp at hu; subst hu; rfl) (by omega) (by unfold maxLen; omega) (by omega) (by simp) _ rfl ?_; intro g2 cap2 w2 hown2 hgrow2 hlie2 _; obtain ⟨k2, f2⟩ := KB.out _ w2 (Kept.one _ _).drew hgrow2))
  all_goals go_end0
  all_goals exact ⟨rfl, by first | exact FIN.out _ _ _ _ (Kept.one _ _).drew hgrow2 hown2 (by simpa using hlie2) | exact (FIN.out _ _ _ _ (Kept.one _ _).drew hgrow2 hown2 (by simpa using hlie2)).drew⟩

end

end Go.Proofs.Ytckmkagijanbdaa.Wh
