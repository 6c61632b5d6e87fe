/- The document's own wheel: Cancel. -/
import Derived.Test.YtffhjdkhmggakaaRf3
namespace Go.Proofs.Ytffhjdkhmggakaa.Rf
open Go.RowKit Tk Wh
open St (Kept blk_cell blk_free blk_lt blk_set)

section
variable {w w' : World} {S S' : Nat → Prop} {B : Nat} {now last to : Int} {v : Value} {L : List (Int × Int)}

/-- what is the document's wheel when something was done with it -/
def Rent (w : World) (S : Nat → Prop) (B : Nat) (now last : Int) (L : List (Int × Int)) (w' : World) : Prop :=
  ∃ S' v, RW w' S' B now last v L ∧ (∀ k, S' k → S k ∨ w.heap.size ≤ k) ∧ Fr S w w'

theorem del_parts {x : Int} {k : Nat} {e : Int × Int} (hn : (L.map Prod.snd).Nodup) (he : L[k]? = some e) (hx : e.2 = x) : del x L = L.take k ++ L.drop (k + 1) := by
  have hL : L = L.take k ++ e :: L.drop (k + 1) := by rw [← drop_at he, List.take_append_drop]
  have hn' : ((L.take k).map Prod.snd ++ x :: (L.drop (k + 1)).map Prod.snd).Nodup := by
    rw [hL, List.map_append, List.map_cons, hx] at hn; exact hn
  obtain ⟨_, n2, n3⟩ := List.nodup_append.1 hn'
  obtain ⟨n4, _⟩ := List.nodup_cons.1 n2
  have h1 : (L.take k).filter (fun e => decide (e.2 ≠ x)) = L.take k := List.filter_eq_self.2 fun f hf => by
    have := n3 f.2 (List.mem_map_of_mem hf) x (by simp)
    simpa using this
  have h2 : (L.drop (k + 1)).filter (fun e => decide (e.2 ≠ x)) = L.drop (k + 1) := List.filter_eq_self.2 fun f hf => by
    have : f.2 ≠ x := fun c => n4 (c ▸ List.mem_map_of_mem hf)
    simpa using this
  unfold del
  conv => lhs; rw [hL]
  rw [List.filter_append, List.filter_cons, if_neg (by simp [hx]), h1, h2]

theorem RW.src_take (h : RW w S B now last v L) {k : Nat} (hk : k ≤ L.length) {g off n cap : Nat} (hv1 : v = .slice (some ⟨g, off, none⟩) n cap) : Src w (.slice (some ⟨g, off, none⟩) k cap) (L.take k) := by
  refine ⟨_, cap, by rw [List.length_take, Nat.min_eq_left hk], fun j y hj => ?_⟩
  obtain ⟨i, e, he, hc⟩ := pv_of hj
  rcases h.prs with ⟨h0, _⟩ | ⟨g', off', cap', e1, h1, h2, h3, h4, h5⟩
  · rw [h0] at he; simp at he
  · rw [hv1] at e1
    simp only [Value.slice.injEq, Option.some.injEq, Addr.mk.injEq, and_true] at e1
    obtain ⟨⟨rfl, rfl⟩, rfl, rfl⟩ := e1
    rw [List.getElem?_take] at he
    split at he
    · obtain ⟨p1, p2⟩ := h5 i e he
      rw [add_off]
      rcases hc with ⟨rfl, rfl⟩ | ⟨rfl, rfl⟩
      · exact p1
      · rw [← Nat.add_assoc]; exact p2
    · cases he
theorem RW.src_drop (h : RW w S B now last v L) {k : Nat} {g off n cap c : Nat} (hv1 : v = .slice (some ⟨g, off, none⟩) n cap) : Src w (.slice (some ⟨g, off + k * 2, none⟩) (L.length - k) c) (L.drop k) := by
  refine ⟨_, c, by rw [List.length_drop], fun j y hj => ?_⟩
  obtain ⟨i, e, he, hc⟩ := pv_of hj
  rcases h.prs with ⟨h0, _⟩ | ⟨g', off', cap', e1, h1, h2, h3, h4, h5⟩
  · rw [h0] at he; simp at he
  · rw [hv1] at e1
    simp only [Value.slice.injEq, Option.some.injEq, Addr.mk.injEq, and_true] at e1
    obtain ⟨⟨rfl, rfl⟩, rfl, rfl⟩ := e1
    rw [List.getElem?_drop] at he
    obtain ⟨p1, p2⟩ := h5 (k + i) e he
    rw [add_off]
    rcases hc with ⟨rfl, rfl⟩ | ⟨rfl, rfl⟩
    · rw [show off + k * 2 + i * 2 = off + (k + i) * 2 by omega]; exact p1
    · rw [show off + k * 2 + (i * 2 + 1) = off + (k + i) * 2 + 1 by omega]; exact p2
theorem Src.kept {u : Value} {K : List (Int × Int)} (h : Src w u K) (hk : ∀ g, g < w.heap.size → u.ownBlock = some g → w'.heap[g]? = w.heap[g]?) : Src w' u K := by
  obtain ⟨ad, c, rfl, hc⟩ := h
  refine ⟨ad, c, rfl, fun j y hj => ?_⟩
  have h1 := hc j y hj
  have hb : (ad.add j).block = ad.block := by unfold Addr.add; split <;> rfl
  have hlt := World.block_lt_of_cell? w _ h1
  rw [hb] at hlt
  exact (World.cell?_of_block (w := w) (by rw [hb]; exact hk ad.block hlt rfl)).trans h1

/-- what Cancel does -/
def rcan (w : World) (S : Nat → Prop) (B : Nat) (now last : Int) (L : List (Int × Int)) (x : Int) : Ending → World → Prop := fun e w' =>
  e = .returned (.bool (tim x L).isSome) ∧ Rent w S B now last (del x L) w'

set_option maxHeartbeats 1600000 in
set_option maxRecDepth 100000 in
theorem rcancel_any (h : RW w S B now last v L) (hL : L.length ≤ 100000) (hn : (L.map Prod.snd).Nodup) (x : Int) :
    Calls Try.prog 24 #[.pointer (some ⟨B, 0, none⟩), .int .i64 x] w (rcan w S B now last L x) := by
  have C := find_any h hL x
  rcases fidx_tim (x := x) (L := L) with ⟨h1, h2⟩ | ⟨k, e, h1, h2, h3, h4, h5⟩
  · rw [h2] at C
    have C := Lib.hid C
    have hdel : del x L = L := List.filter_eq_self.2 fun e he => by
      have hnone := h1
      unfold tim at hnone
      cases hf : L.find? (fun e => decide (e.2 = x)) with
      | some f => rw [hf] at hnone; cases hnone
      | none => rw [List.find?_eq_none] at hf; have := hf e he; simpa using this
    have FIN := Lib.hid (show rcan w S B now last L x (.returned (.bool false)) w from ⟨by rw [h1]; rfl, S, v, by rw [hdel]; exact h, fun k c => Or.inl c, Fr.refl _ _⟩)
    clear h h1 h2 hdel
    go_enter Try.func24, Try.ntmps24
    go_wp2_with (go_at_call 32; refine C.out.mono ?_; rintro e w' ⟨rfl, rfl⟩)
    go_ret
    exact FIN.out
  · rw [h3] at C
    have C := Lib.hid C
    have hkl := (List.getElem?_eq_some_iff.1 h1).1
    have c2 := h.c2
    have f2 := blk_free h.blk 2
    obtain ⟨g, off, cap, hv1, hcap, hSg, hg, _⟩ := h.prs.at h1
    have SRC1 := Lib.hid (h.src_take (k := k) (by omega) hv1)
    have SRC2 := Lib.hid (fun c => h.src_drop (k := k + 1) (c := c) hv1)
    have HD := Lib.hid (del_parts hn h1 h2)
    have HN := Lib.hid h4
    have hkn : (k : Int) < (L.length : Int) := by omega
    have hkc : k + 1 ≤ cap := by omega
    have hgB : g ≠ B := h.ne g (by rw [hv1]; rfl)
    have hltB := blk_lt h.blk
    have H := Lib.hid h
    clear h1 h2 h3 h4 h5 h
    subst hv1
    -- behind the first append all stands that stood
    have KB : ∀ w3 : World, w.grownBy w3 none → w3.cell? ⟨B, 2, none⟩ = some (.slice (some ⟨g, off, none⟩) L.length cap) ∧ w3.frozen? ⟨B, 2, none⟩ = false := fun w3 hg3 =>
      ⟨(World.cell?_of_block (w := w) (a := ⟨B, 2, none⟩) (hg3.block B hltB (by simp))).trans c2, (World.frozen?_of_block (w := w) (a := ⟨B, 2, none⟩) (hg3.block B hltB (by simp))).trans f2⟩
    -- behind the second one
    have KC : ∀ (w3 w4 : World) (v3 v4 : Value), RowP w3 v3 (L.take k) → w.grownBy w3 none → (v3.ownBlock = none ∨ ∃ g, v3.ownBlock = some g ∧ w.heap.size ≤ g) → RowP w4 v4 (L.take k ++ L.drop (k + 1)) → w3.grownBy w4 v3.ownBlock → (v4.ownBlock = v3.ownBlock ∨ ∃ g, v4.ownBlock = some g ∧ w3.heap.size ≤ g) →
        w4.cell? ⟨B, 2, none⟩ = some (.slice (some ⟨g, off, none⟩) L.length cap) ∧ w4.frozen? ⟨B, 2, none⟩ = false ∧ Rent w S B now last (del x L) (w4.setCell ⟨B, 2, none⟩ v4) := fun w3 w4 v3 v4 r3 g3 b3 r4 g4 b4 => by
      obtain ⟨k1, k2⟩ := KB w3 g3
      have hnew : ∀ g', v3.ownBlock = some g' → w.heap.size ≤ g' := fun g' e => by
        rcases b3 with c | ⟨g2, c, d⟩
        · rw [c] at e; cases e
        · rw [c] at e; obtain rfl := Option.some.inj e; exact d
      have hsz := g3.size
      have hsame : ∀ j, j < w.heap.size → w4.heap[j]? = w.heap[j]? := fun j hj => (g4.block j (by omega) (fun e => by have := hnew j e.symm; omega)).trans (g3.block j hj (by simp))
      have hnew4 : ∀ g', v4.ownBlock = some g' → w.heap.size ≤ g' := fun g' e => by
        rcases b4 with c | ⟨g2, c, d⟩
        · exact hnew g' (c ▸ e)
        · rw [c] at e; obtain rfl := Option.some.inj e; omega
      have hz4 : w.heap.size ≤ w4.heap.size := Nat.le_trans hsz g4.size
      have hF : Fr S w w4 := ((Fr.refl S w).grown g3 (fun k e => by cases e)).grown g4 (fun k e => Or.inr (hnew k e))
      refine ⟨(World.cell?_of_block (w := w) (a := ⟨B, 2, none⟩) (hsame B hltB)).trans c2, (World.frozen?_of_block (w := w) (a := ⟨B, 2, none⟩) (hsame B hltB)).trans f2, fun j => S j ∨ v4.ownBlock = some j, v4, ?_, fun j c => c.imp id (hnew4 j), hF.setCell (Or.inl H.out.sB) _⟩
      rw [HD.out]
      exact H.out.set2 (fun j _ hj => by subst hj; exact hsame _ hltB) hz4 (fun j c => Or.inl c) (fun j c => c.elim (fun c => Nat.lt_of_lt_of_le (H.out.sLt j c) hz4) (fun c => r4.lt c)) (r4.prs.more fun j c => Or.inr c) (fun g' e c => by have := hnew4 g' e; omega)
    have KB := Lib.hid KB
    have KC := Lib.hid KC
    have FIN : ∀ w', Rent w S B now last (del x L) w' → rcan w S B now last L x (.returned (.bool true)) w' := fun w' hr => ⟨by rw [HN.out]; rfl, hr⟩
    have FIN := Lib.hid FIN
    have SRC2b : ∀ w3 : World, w.grownBy w3 none → Src w3 (.slice (some ⟨g, off + (k + 1) * 2, none⟩) (L.length - (k + 1)) (cap - (k + 1))) (L.drop (k + 1)) := fun w3 hg3 => (SRC2.out _).kept fun j hj _ => hg3.block j hj (by simp)
    have SRC2b := Lib.hid SRC2b
    have hb1 : (L.take k).length + (L.drop (k + 1)).length ≤ 1000000 := by rw [List.length_take, List.length_drop]; omega
    by_cases hcc : k + 1 = cap
    · have hln : L.length = k + 1 := by omega
      have S2 : ∀ w3 : World, Src w3 (.slice (some ⟨g, off, none⟩) 0 0) (L.drop (k + 1)) := fun w3 => ⟨⟨g, off, none⟩, 0, by rw [List.length_drop, hln]; simp, fun j y hj => by rw [List.drop_of_length_le (by omega)] at hj; simp [pv] at hj⟩
      have S2 := Lib.hid S2
      rw [hln] at c2 hkn KB
      subst hcc
      clear hcap hkc hgB hltB hn hln
      go_enter Try.func24, Try.ntmps24
      go_wp2_with (first | (go_at_call 32; refine C.out.mono ?_; rintro e w' ⟨rfl, rfl⟩) | (at_builtin; refine wpList_append_prs _ rfl (.tmp 12) (.tmp 18) rfl _ _ [] (L.take k) rfl rfl (rowp_nil w) SRC1.out (by simp; omega) ?_; intro v3 w3 hr3 hg3 hb3; obtain ⟨c3, f3⟩ := KB.out w3 hg3) | (at_builtin; refine wpList_append_prs _ rfl (.tmp 21) (.tmp 28) rfl _ _ (L.take k) (L.drop (k + 1)) rfl rfl hr3 (S2.out _) hb1 ?_; intro v4 w4 hr4 hg4 hb4; obtain ⟨p4, n4, q4, rfl⟩ := hr4.shape; obtain ⟨c4, f4, R4⟩ := KC.out w3 w4 v3 _ hr3 hg3 hb3 hr4 hg4 hb4; have R4 := Lib.hid R4))
      go_ret
      exact FIN.out _ R4.out
    · have hck : ¬ cap = k + 1 := fun c => hcc c.symm
      clear hgB hltB hn
      go_enter Try.func24, Try.ntmps24
      go_wp2_with (first | (go_at_call 32; refine C.out.mono ?_; rintro e w' ⟨rfl, rfl⟩) | (at_builtin; refine wpList_append_prs _ rfl (.tmp 12) (.tmp 18) rfl _ _ [] (L.take k) rfl rfl (rowp_nil w) SRC1.out (by simp; omega) ?_; intro v3 w3 hr3 hg3 hb3; obtain ⟨c3, f3⟩ := KB.out w3 hg3) | (at_builtin; refine wpList_append_prs _ rfl (.tmp 21) (.tmp 28) rfl _ _ (L.take k) (L.drop (k + 1)) rfl rfl hr3 (SRC2b.out _ hg3) hb1 ?_; intro v4 w4 hr4 hg4 hb4; obtain ⟨p4, n4, q4, rfl⟩ := hr4.shape; obtain ⟨c4, f4, R4⟩ := KC.out w3 w4 v3 _ hr3 hg3 hb3 hr4 hg4 hb4; have R4 := Lib.hid R4))
      go_ret
      exact FIN.out _ R4.out
end

end Go.Proofs.Ytffhjdkhmggakaa.Rf
