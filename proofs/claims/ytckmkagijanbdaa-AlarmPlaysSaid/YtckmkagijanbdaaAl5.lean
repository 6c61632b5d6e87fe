/- Contracts of package alarm: New. -/
import Derived.Test.YtckmkagijanbdaaAl4
import Derived.Test.YtckmkagijanbdaaWh9
import Derived.Lib.MinMax
import Derived.Deep.RegionHeld3
namespace Go.Proofs.Ytckmkagijanbdaa.Al
open Go.RowKit Go.Sort Tk Wh IdM
open St (Kept blk_cell blk_free blk_lt blk_set)
set_option linter.unusedVariables false

/-- the grain of a power -/
def gr (p : Int) : Int := 2 ^ (max 0 (min p 6)).toNat
theorem gr_of (p : Int) : 1 ≤ gr p ∧ gr p ≤ 64 ∧ IntKind.i64.wrap (gr p) = gr p := by
  unfold gr
  rcases (by omega : max 0 (min p 6) = 0 ∨ max 0 (min p 6) = 1 ∨ max 0 (min p 6) = 2 ∨ max 0 (min p 6) = 3 ∨ max 0 (min p 6) = 4 ∨ max 0 (min p 6) = 5 ∨ max 0 (min p 6) = 6) with h | h | h | h | h | h | h <;> rw [h] <;> decide

section
variable {w w1 w3 : World} {S1 : Nat → Prop} {B1 MA MN x y : Nat} {g : Int}
/-- what New does -/
def anews (w : World) (g : Int) : Ending → World → Prop := fun e w' =>
  ∃ S B, e = .returned (.pointer (some ⟨B, 0, none⟩)) ∧ Alm w' S B g 0 0 [] ∧ (∀ k, S k → w.heap.size ≤ k) ∧ Kept w w'

theorem mis_empty {α : Type} {kt : TypeId} (K : KeyT α kt) (k : Nat) {M : Nat} (h : w.heap[M]? = some (.map #[] 0)) : MIs K k w M (fun _ => none) 0 := by
  have h1 := World.ownsMap_made (H := Unit) w Try.prog kt elemI
  obtain ⟨es, c, hb, F, r1, r2⟩ := h1
  have h2 := St.blk_new w (.map #[] 0)
  rw [h2] at hb
  simp only [Option.some.injEq, Obj.map.injEq] at hb
  obtain ⟨rfl, rfl⟩ := hb
  exact ⟨.map [], ⟨#[], 0, h, F, r1, r2⟩, rfl, fun _ _ => ⟨rfl, rfl⟩⟩

theorem new_end (hW : Whl w3 S1 B1 0 0 []) (hs : ∀ k, S1 k → w.heap.size ≤ k) (hk : Kept w w3) (g1 : 1 ≤ g) (g2 : g ≤ 64) (hA : w3.heap[MA]? = some (.map #[] 0)) (hN : w3.heap[MN]? = some (.map #[] 0)) (hne : MA ≠ MN) (nA : ¬ S1 MA) (nN : ¬ S1 MN) (lA : w.heap.size ≤ MA) (lN : w.heap.size ≤ MN) :
    anews w g (.returned (.pointer (some ⟨w3.heap.size, 0, none⟩))) (w3.alloc (.cells #[.pointer (some ⟨w3.heap.size, 0, none⟩), .int .i64 g, .pointer (some ⟨B1, 0, none⟩), .map (some MA), .map (some MN)] 63)) := by
  have kA : ∀ (o : Obj) (j : Nat), j < w3.heap.size → (w3.alloc o).heap[j]? = w3.heap[j]? := fun o j h => Below.heap_alloc _ _ _ h
  have hz : ∀ o : Obj, (w3.alloc o).heap.size = w3.heap.size + 1 := fun o => by simp
  have lA3 := blk_lt hA
  have lN3 := blk_lt hN
  refine ⟨fun j => S1 j ∨ j = w3.heap.size ∨ j = MA ∨ j = MN, w3.heap.size, rfl, ⟨B1, MA, MN, S1, [], fun _ => none, fun _ => none, ⟨St.blk_new _ _, hW.kept (Kept.one _ _), mis_empty _ _ ((kA _ _ lA3).trans hA), mis_empty _ _ ((kA _ _ lN3).trans hN), Or.inr (Or.inl rfl), Or.inr (Or.inr (Or.inl rfl)), Or.inr (Or.inr (Or.inr rfl)), fun j c => Or.inl c, fun c => by have := hW.lt _ c; omega, nA, nN, hne, fun j c => ?_⟩, rel_none g, g1, g2⟩, fun j c => ?_, hk.more _⟩
  · rw [hz]
    rcases c with c | c | c | c
    · have := hW.lt _ c; omega
    · omega
    · omega
    · omega
  · have := hk.size
    rcases c with c | c | c | c
    · exact hs j c
    · omega
    · omega
    · omega
def em : Obj := .map #[] 0
theorem end_first (hW : Whl w1 S1 B1 (clamp 0) 0 []) (hs : ∀ k, S1 k → w.drew.heap.size ≤ k) (hk : Kept w.drew w1) (g1 : 1 ≤ g) (g2 : g ≤ 64) (h : (MA = w1.heap.size ∧ MN = w1.heap.size + 1) ∨ (MA = w1.heap.size + 1 ∧ MN = w1.heap.size)) :
    anews w g (.returned (.pointer (some ⟨w1.heap.size + 1 + 1, 0, none⟩))) (((w1.alloc (.map #[] 0)).alloc (.map #[] 0)).alloc (.cells #[.pointer (some ⟨w1.heap.size + 1 + 1, 0, none⟩), .int .i64 g, .pointer (some ⟨B1, 0, none⟩), .map (some MA), .map (some MN)] 63)) := by
  have hz1 : (w1.alloc (.map #[] 0)).heap.size = w1.heap.size + 1 := by simp
  have hz2 : ((w1.alloc (.map #[] 0)).alloc (.map #[] 0)).heap.size = w1.heap.size + 1 + 1 := by simp
  have b1 : ((w1.alloc (.map #[] 0)).alloc (.map #[] 0)).heap[w1.heap.size]? = some (.map #[] 0) := (Below.heap_alloc _ _ _ (by omega)).trans (St.blk_new w1 _)
  have b2 : ((w1.alloc (.map #[] 0)).alloc (.map #[] 0)).heap[w1.heap.size + 1]? = some (.map #[] 0) := by have := St.blk_new (w1.alloc (.map #[] 0)) (.map #[] 0); rw [hz1] at this; exact this
  have hk' : Kept w w1 := ((Kept.refl w).drew).trans hk
  have hsz := hk'.size
  have H := fun a b c d e => new_end (w := w) (g := g) (MA := MA) (MN := MN) (hW.kept ((Kept.one w1 (.map #[] 0)).more (.map #[] 0))) hs ((hk'.more _).more _) g1 g2 a b c d e
  rw [hz2] at H
  rcases h with ⟨rfl, rfl⟩ | ⟨rfl, rfl⟩
  · exact H b1 b2 (by omega) (fun c => by have := hW.lt _ c; omega) (fun c => by have := hW.lt _ c; omega) (by omega) (by omega)
  · exact H b2 b1 (by omega) (fun c => by have := hW.lt _ c; omega) (fun c => by have := hW.lt _ c; omega) (by omega) (by omega)
theorem end_mid (hW : Whl w1 S1 B1 (clamp 0) 0 []) (hs : ∀ k, S1 k → (w.drew.alloc (.map #[] 0)).heap.size ≤ k) (hk : Kept (w.drew.alloc (.map #[] 0)) w1) (g1 : 1 ≤ g) (g2 : g ≤ 64) (h : (MA = w.heap.size ∧ MN = w1.heap.size) ∨ (MA = w1.heap.size ∧ MN = w.heap.size)) :
    anews w g (.returned (.pointer (some ⟨w1.heap.size + 1, 0, none⟩))) ((w1.alloc (.map #[] 0)).alloc (.cells #[.pointer (some ⟨w1.heap.size + 1, 0, none⟩), .int .i64 g, .pointer (some ⟨B1, 0, none⟩), .map (some MA), .map (some MN)] 63)) := by
  have hz0 : (w.drew.alloc (.map #[] 0)).heap.size = w.heap.size + 1 := by simp
  have hz1 : (w1.alloc (.map #[] 0)).heap.size = w1.heap.size + 1 := by simp
  have hsz := hk.size
  have b1 : (w1.alloc (.map #[] 0)).heap[w.heap.size]? = some (.map #[] 0) := (Below.heap_alloc _ _ _ (by omega)).trans ((hk.block _ (by omega)).trans (St.blk_new w.drew _))
  have b2 : (w1.alloc (.map #[] 0)).heap[w1.heap.size]? = some (.map #[] 0) := St.blk_new w1 _
  have hk' : Kept w w1 := ((Kept.refl w).drew.more _).trans hk
  have hs' : ∀ k, S1 k → w.heap.size ≤ k := fun k c => by have := hs k c; omega
  have H := fun a b c d e => new_end (w := w) (g := g) (MA := MA) (MN := MN) (hW.kept (Kept.one w1 (.map #[] 0))) hs' (hk'.more _) g1 g2 a b c d e
  rw [hz1] at H
  rcases h with ⟨rfl, rfl⟩ | ⟨rfl, rfl⟩
  · exact H b1 b2 (by omega) (fun c => by have := hs _ c; omega) (fun c => by have := hW.lt _ c; omega) (by omega) (by omega)
  · exact H b2 b1 (by omega) (fun c => by have := hW.lt _ c; omega) (fun c => by have := hs _ c; omega) (by omega) (by omega)
theorem end_last (hW : Whl w1 S1 B1 (clamp 0) 0 []) (hs : ∀ k, S1 k → ((w.drew.alloc (.map #[] 0)).alloc (.map #[] 0)).heap.size ≤ k) (hk : Kept ((w.drew.alloc (.map #[] 0)).alloc (.map #[] 0)) w1) (g1 : 1 ≤ g) (g2 : g ≤ 64) (h : (MA = w.heap.size ∧ MN = w.heap.size + 1) ∨ (MA = w.heap.size + 1 ∧ MN = w.heap.size)) :
    anews w g (.returned (.pointer (some ⟨w1.heap.size, 0, none⟩))) (w1.alloc (.cells #[.pointer (some ⟨w1.heap.size, 0, none⟩), .int .i64 g, .pointer (some ⟨B1, 0, none⟩), .map (some MA), .map (some MN)] 63)) := by
  have hz0 : (w.drew.alloc (.map #[] 0)).heap.size = w.heap.size + 1 := by simp
  have hz1 : ((w.drew.alloc (.map #[] 0)).alloc (.map #[] 0)).heap.size = w.heap.size + 1 + 1 := by simp
  have hsz := hk.size
  have b1 : w1.heap[w.heap.size]? = some (.map #[] 0) := (hk.block _ (by omega)).trans ((Below.heap_alloc _ _ _ (by omega)).trans (St.blk_new w.drew _))
  have b2 : w1.heap[w.heap.size + 1]? = some (.map #[] 0) := (hk.block _ (by omega)).trans (by have := St.blk_new (w.drew.alloc (.map #[] 0)) (.map #[] 0); rw [hz0] at this; exact this)
  have hk' : Kept w w1 := (((Kept.refl w).drew.more _).more _).trans hk
  have hs' : ∀ k, S1 k → w.heap.size ≤ k := fun k c => by have := hs k c; omega
  have H := fun a b c d e => new_end (w := w) (g := g) (MA := MA) (MN := MN) hW hs' hk' g1 g2 a b c d e
  rcases h with ⟨rfl, rfl⟩ | ⟨rfl, rfl⟩
  · exact H b1 b2 (by omega) (fun c => by have := hs _ c; omega) (fun c => by have := hs _ c; omega) (by omega) (by omega)
  · exact H b2 b1 (by omega) (fun c => by have := hs _ c; omega) (fun c => by have := hs _ c; omega) (by omega) (by omega)

set_option maxHeartbeats 3200000 in
set_option maxRecDepth 100000 in
theorem anew_any (p : Int) : Calls Try.prog 8 #[.int .i64 p] w (anews w (gr p)) := by
  obtain ⟨q, hq⟩ : ∃ q, min p 6 = q := ⟨_, rfl⟩
  obtain ⟨m, hm⟩ : ∃ m, max 0 q = m := ⟨_, rfl⟩
  have hmm := @run_makeMap Try.prog
  have hm0 : 0 ≤ m := by omega
  have hm6 : m ≤ 6 := by omega
  obtain ⟨gg, hg⟩ : ∃ gg, gr p = gg := ⟨_, rfl⟩
  obtain ⟨e1, e2, e3⟩ := gr_of p
  rw [hg] at e1 e2 e3
  have hw : IntKind.i64.wrap (2 ^ m.toNat) = gg := by
    have : (2 : Int) ^ m.toNat = gg := by rw [← hg]; unfold gr; rw [hq, hm]
    rw [this]; exact e3
  have HG := Lib.hid hg
  have HG1 := Lib.hid e1
  have HG2 := Lib.hid e2
  clear e1 e2 e3 hg
  go_enter Try.func8, Try.ntmps8
  go_wp2_with fail
  refine wp_region_held_drew (S := fun _ => True) (by kernel_rfl) trivial (fun hHeld => ?_)
  refine wpAnyH_take (i := 0) (v := .int .i64 p) rfl (by kernel_rfl) (by kernel_rfl) (by kernel_rfl) (fun _ _ _ h => h) (Or.inl ⟨by rfl, fun u _ => by go_simp⟩) trivial ?_
  refine wpAnyH_take (i := 1) (v := .int .i64 q) rfl (by kernel_rfl) (by kernel_rfl) (by kernel_rfl) (fun _ _ _ h => h) (Or.inl ⟨by rfl, fun u _ => by go_simp⟩) trivial ?_
  refine wpAnyH_take (i := 2) (v := .int .i64 m) rfl (by kernel_rfl) (by kernel_rfl) (by kernel_rfl) (fun _ _ _ h => h) (Or.inl ⟨by rfl, fun u _ => by go_simp⟩) trivial ?_
  refine wpAnyH_take (i := 3) (v := .int .i64 gg) rfl (by kernel_rfl) (by kernel_rfl) (by kernel_rfl) (fun _ _ _ h => h) (Or.inl ⟨by rfl, fun u _ => by go_simp⟩) trivial ?_
  refine wpAnyH_ready (rs := [4, 5, 6]) (by kernel_rfl) (by simp) ?_
  refine AllReadyH.cons rfl (fun K0 hK0 => ?_) ?_
  · skip
    go_simp
    refine (new_any 0).mono ?_
    rintro e w1 ⟨S1, B1, rfl, hW, hs, hk⟩
    have HW := Lib.hid (And.intro hW (And.intro hs hk))
    clear hW hs hk
    go_wp2_with fail
    refine hK0.out _ _ trivial (fun _ => ?_)
    clear hK0 K0
    refine wpAnyH_ready (rs := [5, 6]) (by kernel_rfl) (by simp) ?_
    refine AllReadyH.cons rfl (fun K1 hK1 => ?_) ?_
    · skip
      go_simp
      refine hK1.out _ _ trivial (fun _ => ?_)
      clear hK1 K1
      refine wpAnyH_ready (rs := [6]) (by kernel_rfl) (by simp) ?_
      refine AllReadyH.cons rfl (fun K2 hK2 => ?_) ?_
      · skip
        go_simp
        refine hK2.out _ _ trivial (fun _ => ?_)
        clear hK2 K2
        refine wpAnyH_take (i := 7) (v := .agg #[.pointer none, .int .i64 gg, .pointer (some ⟨B1, 0, none⟩), .map (some w1.heap.size), .map (some (w1.heap.size + 1))]) rfl (by kernel_rfl) (by kernel_rfl) (by kernel_rfl) (fun _ _ _ h => h) (Or.inl ⟨by rfl, fun u _ => by go_simp⟩) trivial ?_
        refine wpAnyH_ready (rs := [8]) (by kernel_rfl) (by simp) ?_
        refine AllReadyH.cons rfl (fun K3 hK3 => ?_) AllReadyH.nil
        go_simp
        refine hK3.out _ _ trivial (fun _ => ?_)
        clear hK3 K3
        refine wpAnyH_take (i := 9) (v := .pointer (some ⟨w1.heap.size + 1 + 1, 0, none⟩)) rfl (by kernel_rfl) (by kernel_rfl) (by kernel_rfl) (fun _ _ _ h => h) (Or.inl ⟨by rfl, fun u _ => by go_simp⟩) trivial ?_
        refine wpAnyH_done (by kernel_rfl) ?_ _
        go_wp2_with fail
        go_ret
        rw [HG.out]
        exact end_first HW.out.1 HW.out.2.1 HW.out.2.2 HG1.out HG2.out (Or.inl ⟨rfl, rfl⟩)
      exact AllReadyH.nil
    refine AllReadyH.cons rfl (fun K1 hK1 => ?_) ?_
    · skip
      go_simp
      refine hK1.out _ _ trivial (fun _ => ?_)
      clear hK1 K1
      refine wpAnyH_ready (rs := [5]) (by kernel_rfl) (by simp) ?_
      refine AllReadyH.cons rfl (fun K2 hK2 => ?_) ?_
      · skip
        go_simp
        refine hK2.out _ _ trivial (fun _ => ?_)
        clear hK2 K2
        refine wpAnyH_take (i := 7) (v := .agg #[.pointer none, .int .i64 gg, .pointer (some ⟨B1, 0, none⟩), .map (some (w1.heap.size + 1)), .map (some w1.heap.size)]) rfl (by kernel_rfl) (by kernel_rfl) (by kernel_rfl) (fun _ _ _ h => h) (Or.inl ⟨by rfl, fun u _ => by go_simp⟩) trivial ?_
        refine wpAnyH_ready (rs := [8]) (by kernel_rfl) (by simp) ?_
        refine AllReadyH.cons rfl (fun K3 hK3 => ?_) AllReadyH.nil
        go_simp
        refine hK3.out _ _ trivial (fun _ => ?_)
        clear hK3 K3
        refine wpAnyH_take (i := 9) (v := .pointer (some ⟨w1.heap.size + 1 + 1, 0, none⟩)) rfl (by kernel_rfl) (by kernel_rfl) (by kernel_rfl) (fun _ _ _ h => h) (Or.inl ⟨by rfl, fun u _ => by go_simp⟩) trivial ?_
        refine wpAnyH_done (by kernel_rfl) ?_ _
        go_wp2_with fail
        go_ret
        rw [HG.out]
        exact end_first HW.out.1 HW.out.2.1 HW.out.2.2 HG1.out HG2.out (Or.inr ⟨rfl, rfl⟩)
      exact AllReadyH.nil
    exact AllReadyH.nil
  refine AllReadyH.cons rfl (fun K0 hK0 => ?_) ?_
  · skip
    go_simp
    refine hK0.out _ _ trivial (fun _ => ?_)
    clear hK0 K0
    refine wpAnyH_ready (rs := [4, 6]) (by kernel_rfl) (by simp) ?_
    refine AllReadyH.cons rfl (fun K1 hK1 => ?_) ?_
    · skip
      go_simp
      refine (new_any 0).mono ?_
      rintro e w1 ⟨S1, B1, rfl, hW, hs, hk⟩
      have HW := Lib.hid (And.intro hW (And.intro hs hk))
      clear hW hs hk
      go_wp2_with fail
      refine hK1.out _ _ trivial (fun _ => ?_)
      clear hK1 K1
      refine wpAnyH_ready (rs := [6]) (by kernel_rfl) (by simp) ?_
      refine AllReadyH.cons rfl (fun K2 hK2 => ?_) ?_
      · skip
        go_simp
        refine hK2.out _ _ trivial (fun _ => ?_)
        clear hK2 K2
        refine wpAnyH_take (i := 7) (v := .agg #[.pointer none, .int .i64 gg, .pointer (some ⟨B1, 0, none⟩), .map (some w.heap.size), .map (some w1.heap.size)]) rfl (by kernel_rfl) (by kernel_rfl) (by kernel_rfl) (fun _ _ _ h => h) (Or.inl ⟨by rfl, fun u _ => by go_simp⟩) trivial ?_
        refine wpAnyH_ready (rs := [8]) (by kernel_rfl) (by simp) ?_
        refine AllReadyH.cons rfl (fun K3 hK3 => ?_) AllReadyH.nil
        go_simp
        refine hK3.out _ _ trivial (fun _ => ?_)
        clear hK3 K3
        refine wpAnyH_take (i := 9) (v := .pointer (some ⟨w1.heap.size + 1, 0, none⟩)) rfl (by kernel_rfl) (by kernel_rfl) (by kernel_rfl) (fun _ _ _ h => h) (Or.inl ⟨by rfl, fun u _ => by go_simp⟩) trivial ?_
        refine wpAnyH_done (by kernel_rfl) ?_ _
        go_wp2_with fail
        go_ret
        rw [HG.out]
        exact end_mid HW.out.1 HW.out.2.1 HW.out.2.2 HG1.out HG2.out (Or.inl ⟨rfl, rfl⟩)
      exact AllReadyH.nil
    refine AllReadyH.cons rfl (fun K1 hK1 => ?_) ?_
    · skip
      go_simp
      refine hK1.out _ _ trivial (fun _ => ?_)
      clear hK1 K1
      refine wpAnyH_ready (rs := [4]) (by kernel_rfl) (by simp) ?_
      refine AllReadyH.cons rfl (fun K2 hK2 => ?_) ?_
      · skip
        go_simp
        refine (new_any 0).mono ?_
        rintro e w1 ⟨S1, B1, rfl, hW, hs, hk⟩
        have HW := Lib.hid (And.intro hW (And.intro hs hk))
        clear hW hs hk
        go_wp2_with fail
        refine hK2.out _ _ trivial (fun _ => ?_)
        clear hK2 K2
        refine wpAnyH_take (i := 7) (v := .agg #[.pointer none, .int .i64 gg, .pointer (some ⟨B1, 0, none⟩), .map (some w.heap.size), .map (some (w.heap.size + 1))]) rfl (by kernel_rfl) (by kernel_rfl) (by kernel_rfl) (fun _ _ _ h => h) (Or.inl ⟨by rfl, fun u _ => by go_simp⟩) trivial ?_
        refine wpAnyH_ready (rs := [8]) (by kernel_rfl) (by simp) ?_
        refine AllReadyH.cons rfl (fun K3 hK3 => ?_) AllReadyH.nil
        go_simp
        refine hK3.out _ _ trivial (fun _ => ?_)
        clear hK3 K3
        refine wpAnyH_take (i := 9) (v := .pointer (some ⟨w1.heap.size, 0, none⟩)) rfl (by kernel_rfl) (by kernel_rfl) (by kernel_rfl) (fun _ _ _ h => h) (Or.inl ⟨by rfl, fun u _ => by go_simp⟩) trivial ?_
        refine wpAnyH_done (by kernel_rfl) ?_ _
        go_wp2_with fail
        go_ret
        rw [HG.out]
        exact end_last HW.out.1 HW.out.2.1 HW.out.2.2 HG1.out HG2.out (Or.inl ⟨rfl, rfl⟩)
      exact AllReadyH.nil
    exact AllReadyH.nil
  refine AllReadyH.cons rfl (fun K0 hK0 => ?_) ?_
  · skip
    go_simp
    refine hK0.out _ _ trivial (fun _ => ?_)
    clear hK0 K0
    refine wpAnyH_ready (rs := [4, 5]) (by kernel_rfl) (by simp) ?_
    refine AllReadyH.cons rfl (fun K1 hK1 => ?_) ?_
    · skip
      go_simp
      refine (new_any 0).mono ?_
      rintro e w1 ⟨S1, B1, rfl, hW, hs, hk⟩
      have HW := Lib.hid (And.intro hW (And.intro hs hk))
      clear hW hs hk
      go_wp2_with fail
      refine hK1.out _ _ trivial (fun _ => ?_)
      clear hK1 K1
      refine wpAnyH_ready (rs := [5]) (by kernel_rfl) (by simp) ?_
      refine AllReadyH.cons rfl (fun K2 hK2 => ?_) ?_
      · skip
        go_simp
        refine hK2.out _ _ trivial (fun _ => ?_)
        clear hK2 K2
        refine wpAnyH_take (i := 7) (v := .agg #[.pointer none, .int .i64 gg, .pointer (some ⟨B1, 0, none⟩), .map (some w1.heap.size), .map (some w.heap.size)]) rfl (by kernel_rfl) (by kernel_rfl) (by kernel_rfl) (fun _ _ _ h => h) (Or.inl ⟨by rfl, fun u _ => by go_simp⟩) trivial ?_
        refine wpAnyH_ready (rs := [8]) (by kernel_rfl) (by simp) ?_
        refine AllReadyH.cons rfl (fun K3 hK3 => ?_) AllReadyH.nil
        go_simp
        refine hK3.out _ _ trivial (fun _ => ?_)
        clear hK3 K3
        refine wpAnyH_take (i := 9) (v := .pointer (some ⟨w1.heap.size + 1, 0, none⟩)) rfl (by kernel_rfl) (by kernel_rfl) (by kernel_rfl) (fun _ _ _ h => h) (Or.inl ⟨by rfl, fun u _ => by go_simp⟩) trivial ?_
        refine wpAnyH_done (by kernel_rfl) ?_ _
        go_wp2_with fail
        go_ret
        rw [HG.out]
        exact end_mid HW.out.1 HW.out.2.1 HW.out.2.2 HG1.out HG2.out (Or.inr ⟨rfl, rfl⟩)
      exact AllReadyH.nil
    refine AllReadyH.cons rfl (fun K1 hK1 => ?_) ?_
    · skip
      go_simp
      refine hK1.out _ _ trivial (fun _ => ?_)
      clear hK1 K1
      refine wpAnyH_ready (rs := [4]) (by kernel_rfl) (by simp) ?_
      refine AllReadyH.cons rfl (fun K2 hK2 => ?_) ?_
      · skip
        go_simp
        refine (new_any 0).mono ?_
        rintro e w1 ⟨S1, B1, rfl, hW, hs, hk⟩
        have HW := Lib.hid (And.intro hW (And.intro hs hk))
        clear hW hs hk
        go_wp2_with fail
        refine hK2.out _ _ trivial (fun _ => ?_)
        clear hK2 K2
        refine wpAnyH_take (i := 7) (v := .agg #[.pointer none, .int .i64 gg, .pointer (some ⟨B1, 0, none⟩), .map (some (w.heap.size + 1)), .map (some w.heap.size)]) rfl (by kernel_rfl) (by kernel_rfl) (by kernel_rfl) (fun _ _ _ h => h) (Or.inl ⟨by rfl, fun u _ => by go_simp⟩) trivial ?_
        refine wpAnyH_ready (rs := [8]) (by kernel_rfl) (by simp) ?_
        refine AllReadyH.cons rfl (fun K3 hK3 => ?_) AllReadyH.nil
        go_simp
        refine hK3.out _ _ trivial (fun _ => ?_)
        clear hK3 K3
        refine wpAnyH_take (i := 9) (v := .pointer (some ⟨w1.heap.size, 0, none⟩)) rfl (by kernel_rfl) (by kernel_rfl) (by kernel_rfl) (fun _ _ _ h => h) (Or.inl ⟨by rfl, fun u _ => by go_simp⟩) trivial ?_
        refine wpAnyH_done (by kernel_rfl) ?_ _
        go_wp2_with fail
        go_ret
        rw [HG.out]
        exact end_last HW.out.1 HW.out.2.1 HW.out.2.2 HG1.out HG2.out (Or.inr ⟨rfl, rfl⟩)
      exact AllReadyH.nil
    exact AllReadyH.nil
  exact AllReadyH.nil
end

end Go.Proofs.Ytckmkagijanbdaa.Al
