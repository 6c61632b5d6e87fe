/- The document's own wheel: Advance. -/
import Derived.Test.YtffhjdkhmggakaaRf
import Derived.Test.YtffhjdkhmggakaaWh3
import Derived.Lib.MinMax
namespace Go.Proofs.Ytffhjdkhmggakaa.Rf
open Go.RowKit Tk Wh
open St (Kept blk_cell blk_free blk_lt blk_set)

section
variable {w w' : World} {S S' : Nat → Prop} {B : Nat} {now last to : Int} {v : Value} {L : List (Int × Int)}

theorem Prs.set (h : Prs w S v L) (hne : ∀ g, v.ownBlock = some g → g ≠ B) (o : Nat) (u : Value) : Prs (w.setCell ⟨B, o, none⟩ u) S v L := by
  rcases h with p | ⟨g, off, cap, e, h1, h2, h3, h4, h5⟩
  · exact .inl p
  · have hg : g ≠ B := hne g (by rw [e]; rfl)
    have hb : (w.setCell ⟨B, o, none⟩ u).heap[g]? = w.heap[g]? := Below.heap_setCell _ _ _ _ hg
    exact .inr ⟨g, off, cap, e, h1, h2, h3, by rw [size_set]; exact h4, fun i x hx => ⟨(World.cell?_of_block (w := w) (a := ⟨g, _, none⟩) hb).trans (h5 i x hx).1, (World.cell?_of_block (w := w) (a := ⟨g, _, none⟩) hb).trans (h5 i x hx).2⟩⟩
theorem RW.set0 (h : RW w S B now last v L) (to : Int) : RW (w.setCell ⟨B, 0, none⟩ (.int .i64 to)) S B to last v L :=
  ⟨blk_set h.blk 0 _, h.prs.set h.ne 0 _, h.sB, fun k c => by rw [size_set]; exact h.sLt k c, h.ne⟩
theorem RW.set1 (h : RW w S B now last v L) (to : Int) : RW (w.setCell ⟨B, 1, none⟩ (.int .i64 to)) S B now to v L :=
  ⟨blk_set h.blk 1 _, h.prs.set h.ne 1 _, h.sB, fun k c => by rw [size_set]; exact h.sLt k c, h.ne⟩
/-- another list -/
theorem RW.set2 (h : RW w S B now last v L) (hk : ∀ k, S k → k = B → w'.heap[k]? = w.heap[k]?) (hz : w.heap.size ≤ w'.heap.size) {S' : Nat → Prop} {v' : Value} {L' : List (Int × Int)} (hs : ∀ k, S k → S' k) (hlt : ∀ k, S' k → k < w'.heap.size) (hp : Prs w' S' v' L') (hne : ∀ g, v'.ownBlock = some g → g ≠ B) :
    RW (w'.setCell ⟨B, 2, none⟩ v') S' B now last v' L' := by
  have _ := hz
  exact ⟨blk_set ((hk B h.sB rfl).trans h.blk) 2 _, hp.set hne 2 _, hs B h.sB, fun k c => by rw [size_set]; exact hlt k c, hne⟩

/-- the first one is cut off -/
theorem Prs.tail {g off n cap : Nat} {e : Int × Int} (h : Prs w S (.slice (some ⟨g, off, none⟩) n cap) (e :: L)) (hc : 1 < cap) : Prs w S (.slice (some ⟨g, off + 2, none⟩) (n - 1) (cap - 1)) L := by
  rcases h with ⟨h, _⟩ | ⟨g', off', cap', e1, h1, h2, h3, h4, h5⟩
  · cases h
  · simp only [Value.slice.injEq, Option.some.injEq, Addr.mk.injEq, and_true] at e1
    obtain ⟨⟨rfl, rfl⟩, rfl, rfl⟩ := e1
    simp only [List.length_cons] at *
    refine .inr ⟨g, off + 2, cap - 1, by congr 1, by omega, by omega, h3, h4, fun i x hx => ?_⟩
    have := h5 (i + 1) x (by simpa using hx)
    rw [show off + 2 + i * 2 = off + (i + 1) * 2 by omega]
    exact this

/-- what Advance does -/
def radv (w : World) (S : Nat → Prop) (B : Nat) (last : Int) (L : List (Int × Int)) (to : Int) : Ending → World → Prop := fun e w' =>
  ∃ v S' vw, e = .returned v ∧ Row w' v ((Wh.due to L).map Prod.snd) ∧ RW w' S' B to last vw (Wh.rest to L) ∧ (∀ k, S' k → S k ∨ w.heap.size ≤ k) ∧ Fr S w w' ∧ ∀ g, v.ownBlock = some g → w.heap.size ≤ g ∧ ¬ S' g

/-- how many the document's wheel has, as its block tells -/
def lenAt (w : World) (B : Nat) : Nat := match w.cell? ⟨B, 2, none⟩ with
  | some (.slice _ n _) => n
  | _ => 0
theorem RW.lenAt (h : RW w S B now last v L) : lenAt w B = L.length := by
  unfold Rf.lenAt; rw [h.c2]
  rcases h.prs with ⟨h0, p, cap, e⟩ | ⟨g, off, cap, e, _⟩
  · rw [e, h0]; rfl
  · rw [e]
/-- the loop's state -/
def Pop (w : World) (S : Nat → Prop) (B : Nat) (to last : Int) (L : List (Int × Int)) (k : Nat) (vo : Value) (wr : World) : Prop :=
  ∃ vw, RW wr S B to last vw (L.drop k) ∧ Row wr vo ((L.take k).map Prod.snd) ∧ (∀ e ∈ L.take k, e.1 ≤ to) ∧ Fr S w wr ∧ ∀ g, vo.ownBlock = some g → w.heap.size ≤ g ∧ ¬ S g
theorem Pop.step {wr W w3 : World} {k : Nat} {vw vo v3 v' : Value} {e : Int × Int} (hR : RW wr S B to last vw (L.drop k)) (_ : Row wr vo ((L.take k).map Prod.snd)) (htk : ∀ e ∈ L.take k, e.1 ≤ to) (hF : Fr S w wr) (hbo : ∀ g, vo.ownBlock = some g → w.heap.size ≤ g ∧ ¬ S g)
    (he : L[k]? = some e) (hle : e.1 ≤ to) (k1 : Kept wr W) (hg : W.grownBy w3 vo.ownBlock) (hr3 : Row w3 v3 ((L.take k).map Prod.snd ++ [e.2])) (hb3 : v3.ownBlock = vo.ownBlock ∨ ∃ g, v3.ownBlock = some g ∧ wr.heap.size ≤ g)
    (hp : Prs wr S v' (L.drop (k + 1))) (hne : ∀ g, v'.ownBlock = some g → g ≠ B) : Pop w S B to last L (k + 1) v3 (w3.setCell ⟨B, 2, none⟩ v') ∧ lenAt (w3.setCell ⟨B, 2, none⟩ v') B < lenAt wr B := by
  have hsame : ∀ j, S j → j < wr.heap.size → w3.heap[j]? = wr.heap[j]? := fun j hj hl => grown_at k1 hg hl (fun c => (hbo j c).2 hj)
  have hz : wr.heap.size ≤ w3.heap.size := Nat.le_trans k1.size hg.size
  have h2 : RW (w3.setCell ⟨B, 2, none⟩ v') S B to last v' (L.drop (k + 1)) := hR.set2 (fun j hj hjB => hsame j hj (hR.sLt j hj)) hz (fun _ c => c) (fun j c => Nat.lt_of_lt_of_le (hR.sLt j c) hz) (hp.stay hz hsame) hne
  have hv3 : ∀ g, v3.ownBlock = some g → w.heap.size ≤ g ∧ ¬ S g := fun g c => by
    rcases hb3 with d | ⟨g', d, hg'⟩
    · exact hbo g (d ▸ c)
    · rw [d] at c; obtain rfl := Option.some.inj c
      have := hF.size
      exact ⟨by omega, fun c => by have := hR.sLt _ c; omega⟩
  refine ⟨⟨v', h2, ?_, fun x hx => ?_, ((hF.then_kept k1).grown hg (fun g c => Or.inr (hbo g c).1)).setCell (Or.inl hR.sB) _, hv3⟩, ?_⟩
  · rw [take_at he, List.map_append]
    exact hr3.kept fun g c => Below.heap_setCell _ _ _ _ (fun d => (hv3 g c).2 (by rw [show g = B from d]; exact hR.sB))
  · rw [take_at he] at hx
    rcases List.mem_append.1 hx with c | c
    · exact htk x c
    · simp at c; subst c; exact hle
  · rw [h2.lenAt, hR.lenAt, List.length_drop, List.length_drop]
    have := (List.getElem?_eq_some_iff.1 he).1
    omega
theorem due_parts {X Y : List (Int × Int)} (h1 : ∀ e ∈ X, e.1 ≤ to) (h2 : ∀ e ∈ Y, to < e.1) : Wh.due to (X ++ Y) = X ∧ Wh.rest to (X ++ Y) = Y := by
  unfold Wh.due Wh.rest
  rw [List.filter_append, List.filter_append, List.filter_eq_self.2 (fun x hx => by simpa using h1 x hx), List.filter_eq_nil_iff.2 (fun x hx => by have := h2 x hx; simp; omega),
    List.filter_eq_nil_iff.2 (fun x hx => by have := h1 x hx; simp; omega), List.filter_eq_self.2 (fun x hx => by simpa using h2 x hx)]
  simp
theorem take_due {k : Nat} (hs : L.Pairwise lt2) (h1 : ∀ e ∈ L.take k, e.1 ≤ to) (h2 : ∀ e, (L.drop k).head? = some e → to < e.1) : Wh.due to L = L.take k ∧ Wh.rest to L = L.drop k := by
  have hall : ∀ e ∈ L.drop k, to < e.1 := fun e he => by
    cases hd : L.drop k with
    | nil => rw [hd] at he; simp at he
    | cons f D =>
      have hf := h2 f (by rw [hd]; rfl)
      rw [hd] at he
      rcases List.mem_cons.1 he with rfl | he
      · exact hf
      · have := (List.pairwise_cons.1 (hd ▸ (hs.drop (i := k)))).1 e he
        unfold lt2 at this; omega
  have := due_parts h1 hall
  rwa [List.take_append_drop] at this
theorem Pop.done {wr : World} {k : Nat} {vo : Value} (h : Pop w S B to last L k vo wr) (hs : L.Pairwise lt2) (h2 : ∀ e, (L.drop k).head? = some e → to < e.1) (n : Nat) : radv w S B last L to (.returned vo) (wr.drewN n) := by
  obtain ⟨vw, h1, hr, htk, hF, hbo⟩ := h
  obtain ⟨d1, d2⟩ := take_due hs htk h2
  exact ⟨vo, S, vw, rfl, by rw [d1]; exact hr.kept (fun g e => rfl), by rw [d2]; exact h1.kept ((Kept.refl _).drewN _), fun k c => Or.inl c, hF.drewN _, hbo⟩

set_option maxHeartbeats 1600000 in
set_option maxRecDepth 100000 in
theorem radvance_any (h : RW w S B now last v L) (hs : L.Pairwise lt2) (hL : L.length ≤ 100000) (h0 : 0 ≤ now) (h1 : now ≤ 1125899906842624) (a : Int) (hto : max now (clamp a) = to) :
    Calls Try.prog 26 #[.pointer (some ⟨B, 0, none⟩), .int .i64 a] w (radv w S B last L to) := by
  have c0 := h.c0
  have f0 := blk_free h.blk 0
  obtain ⟨ca, hca⟩ : ∃ c, Hid (clamp a = c) := ⟨_, rfl⟩
  rw [hca.out] at hto
  have RC : ∀ w, Calls Try.prog 10 #[.int .i64 a] w fun e w' => e = .returned (.int .i64 ca) ∧ w = w' := fun w => by have := rclamp_any a w; rw [hca.out] at this; exact this
  have RC := Lib.hid RC
  have H := Lib.hid h
  -- the loop, from whatever world in which the wheel is at the time
  by_cases hc : now < ca
  · have hdc : decide (now < ca) = true := decide_eq_true hc
    have hto' : to = ca := by omega
    subst hto'
    have P0 := Lib.hid (show ∀ n, Pop w S B to last L 0 (.slice none 0 0) ((w.drewN n).setCell ⟨B, 0, none⟩ (.int .i64 to)) from fun n => ⟨v, (h.kept ((Kept.refl w).drewN n)).set0 to, row_nil _, fun e he => by simp at he, ((Fr.refl S w).drewN n).setCell (Or.inl h.sB) _, fun g e => by simp [Value.ownBlock] at e⟩)
    clear h hto
    go_enter Try.func26, Try.ntmps26
    go_wp2_with fail
    go_quiet ((go_at_call 10; exact Calls.quiet_of_same ((RC.out _).mono fun _ _ h => ⟨h.1, h.2.symm⟩)))
    go_wp2_with (go_at_call 10; refine (RC.out _).mono ?_; rintro e w' ⟨rfl, rfl⟩)
    have P1 := Lib.hid (P0.out nq)
    clear P0 c0 f0 hdc hc
    go_loopw [5] (fun vo wr => ∃ k : Nat, k ≤ L.length ∧ Pop w S B to last L k vo wr) (fun _ wr => lenAt wr B)
    case atStart => exact ⟨0, Nat.zero_le _, P1.out⟩
    case round =>
      obtain ⟨k, hk, vw, hR, hro, htk, hF, hbo⟩ := hrel
      have c0 := hR.c0
      have c2 := hR.c2
      have f2 := blk_free hR.blk 2
      by_cases hlt : k < L.length
      · obtain ⟨e, he⟩ : ∃ e, L[k]? = some e := ⟨_, List.getElem?_eq_getElem hlt⟩
        have hd : L.drop k = e :: L.drop (k + 1) := drop_at he
        have hR' := hR
        rw [hd] at hR'
        obtain ⟨g, off, cap, hv1, hcap, hSg, hg, hcell⟩ := hR'.prs.at (i := 0) (e := e) rfl
        obtain ⟨x0, x1⟩ := hcell 0 e rfl
        rw [show off + 0 * 2 = off by omega] at x0 x1
        obtain ⟨ta, hta⟩ : ∃ a, e.1 = a := ⟨_, rfl⟩
        obtain ⟨th, hth⟩ : ∃ a, e.2 = a := ⟨_, rfl⟩
        rw [hta] at x0
        rw [hth] at x1
        obtain ⟨n, hn⟩ : ∃ n, (e :: L.drop (k + 1)).length = n := ⟨_, rfl⟩
        rw [hn] at hv1
        have hnN : 0 < n := by rw [← hn]; simp
        have hn0 : (0 : Int) < (n : Int) := by omega
        by_cases hle : ta ≤ to
        · have hd1 : decide (ta ≤ to) = true := decide_eq_true hle
          have hd0 : decide ((0 : Int) < (n : Int)) = true := decide_eq_true hn0
          have hneB : u5.ownBlock ≠ some B := fun e => (hbo B e).2 hR.sB
          have hdl : ((L.take k).map Prod.snd).length ≤ 1000000 := by rw [List.length_map, List.length_take]; omega
          have hltB := blk_lt hR.blk
          have KB := Lib.hid (fun (W w3 : World) (k1 : Kept wr W) (k2 : W.grownBy w3 u5.ownBlock) => And.intro ((World.cell?_of_block (w := wr) (a := ⟨B, 2, none⟩) (grown_at k1 k2 hltB hneB)).trans (c2.trans (by rw [hv1]))) ((World.frozen?_of_block (w := wr) (a := ⟨B, 2, none⟩) (grown_at k1 k2 hltB hneB)).trans f2))
          have hnc : n ≤ cap := by rw [← hn]; exact hcap
          have hne : ∀ o n c, ∀ g', (Value.slice (some ⟨g, o, none⟩) n c).ownBlock = some g' → g' ≠ B := fun o n c g' e => by
            simp [Value.ownBlock] at e; subst e
            exact hR.ne g (by rw [hv1]; rfl)
          have STEP := Lib.hid (fun (W w3 : World) (v3 v' : Value) (k1 : Kept wr W) (hg : W.grownBy w3 u5.ownBlock) (hr3 : Row w3 v3 ((L.take k).map Prod.snd ++ [th])) (hb3 : v3.ownBlock = u5.ownBlock ∨ ∃ g, v3.ownBlock = some g ∧ wr.heap.size ≤ g) (hp : Prs wr S v' (L.drop (k + 1))) (hn' : ∀ g, v'.ownBlock = some g → g ≠ B) =>
            Pop.step hR hro htk hF hbo he (by omega) k1 hg (by rw [hth]; exact hr3) hb3 hp hn')
          have HNE := Lib.hid hne
          have HPT : 1 < cap → Prs wr S (.slice (some ⟨g, off + 2, none⟩) (n - 1) (cap - 1)) (L.drop (k + 1)) := fun hc => by
            have := hR'.prs; rw [hv1] at this
            exact this.tail hc
          have HPT := Lib.hid HPT
          have HP1 : cap = 1 → L.drop (k + 1) = [] := fun hc => by
            have hn' := hn
            rw [List.length_cons] at hn'
            have : (L.drop (k + 1)).length = 0 := by omega
            exact List.length_eq_zero_iff.mp this
          have HP1 := Lib.hid HP1
          have HR := Lib.hid hR
          have HRO := Lib.hid hro
          clear hR hR' hd he hcell hta hth hn hro htk hF hbo hneB hcap hne
          subst hv1
          go_wp2_with fail
          go_quiet (fail)
          by_cases hc1 : cap = 1
          · have hn1 : n = 1 := by omega
            subst hc1
            subst hn1
            go_wp2_with (at_builtin; refine wpList_append_one _ rfl (.tmp 38) (.tmp 46) rfl _ _ th rfl rfl (HRO.out.kept fun g e => rfl) hdl ?_; intro v3 w3 hr3 hg3 hb3; obtain ⟨c3, f3⟩ := KB.out _ _ (((Kept.refl _).drewN _).more _) hg3)
            have FIN := Lib.hid (STEP.out _ _ v3 (.slice (some ⟨g, off, none⟩) 0 0) (((Kept.refl _).drewN _).more _) hg3 hr3 hb3 (.inl ⟨HP1.out rfl, _, _, rfl⟩) (HNE.out off 0 0))
            go_roundw
            case rel => exact ⟨k + 1, hlt, FIN.out.1⟩
            case measure => exact FIN.out.2
          · go_wp2_with (at_builtin; refine wpList_append_one _ rfl (.tmp 38) (.tmp 46) rfl _ _ th rfl rfl (HRO.out.kept fun g e => rfl) hdl ?_; intro v3 w3 hr3 hg3 hb3; obtain ⟨c3, f3⟩ := KB.out _ _ (((Kept.refl _).drewN _).more _) hg3)
            have FIN := Lib.hid (STEP.out _ _ v3 (.slice (some ⟨g, off + 2, none⟩) (n - 1) (cap - 1)) (((Kept.refl _).drewN _).more _) hg3 hr3 hb3 (HPT.out (by omega)) (HNE.out (off + 2) (n - 1) (cap - 1)))
            go_roundw
            case rel => exact ⟨k + 1, hlt, FIN.out.1⟩
            case measure => exact FIN.out.2
        · have hd1 : decide (ta ≤ to) = false := decide_eq_false hle
          have hd0 : decide ((0 : Int) < (n : Int)) = true := decide_eq_true hn0
          have FIN := Lib.hid (fun n => Pop.done ⟨vw, hR, hro, htk, hF, hbo⟩ hs (fun f hf => by rw [hd] at hf; simp at hf; subst hf; omega) n)
          clear hR hR' hd he hcell hta hth hn hro htk hF hbo hcap
          subst hv1
          go_wp2_with fail
          go_quiet (fail)
          go_wp2_with fail
          go_ret
          exact FIN.out _
      · have hkl : k = L.length := by omega
        have hd : L.drop k = [] := by rw [hkl]; exact List.drop_length
        have FIN := Lib.hid (fun n => Pop.done ⟨vw, hR, hro, htk, hF, hbo⟩ hs (fun f hf => by rw [hd] at hf; simp at hf) n)
        have hR' := hR
        rw [hd] at hR'
        obtain ⟨p, cap, hv1⟩ : ∃ p cap, vw = .slice p 0 cap := by
          rcases hR'.prs with ⟨_, p, cap, e⟩ | ⟨g, off, cap, e, _⟩
          · exact ⟨p, cap, e⟩
          · exact ⟨_, cap, e⟩
        clear hR hR' hd hro htk hF hbo
        subst hv1
        go_wp2_with fail
        go_quiet (fail)
        go_wp2_with fail
        go_ret
        exact FIN.out _
  · have hdc : decide (now < ca) = false := decide_eq_false hc
    have hto' : to = now := by omega
    subst hto'
    have P0 := Lib.hid (show ∀ n, Pop w S B to last L 0 (.slice none 0 0) (w.drewN n) from fun n => ⟨v, h.kept ((Kept.refl w).drewN n), row_nil _, fun e he => by simp at he, (Fr.refl S w).drewN n, fun g e => by simp [Value.ownBlock] at e⟩)
    clear h hto
    go_enter Try.func26, Try.ntmps26
    go_wp2_with fail
    go_quiet ((go_at_call 10; exact Calls.quiet_of_same ((RC.out _).mono fun _ _ h => ⟨h.1, h.2.symm⟩)))
    go_wp2_with fail
    have P1 := Lib.hid (P0.out nq)
    clear P0 c0 f0 hdc hc
    go_loopw [5] (fun vo wr => ∃ k : Nat, k ≤ L.length ∧ Pop w S B to last L k vo wr) (fun _ wr => lenAt wr B)
    case atStart => exact ⟨0, Nat.zero_le _, P1.out⟩
    case round =>
      obtain ⟨k, hk, vw, hR, hro, htk, hF, hbo⟩ := hrel
      have c0 := hR.c0
      have c2 := hR.c2
      have f2 := blk_free hR.blk 2
      by_cases hlt : k < L.length
      · obtain ⟨e, he⟩ : ∃ e, L[k]? = some e := ⟨_, List.getElem?_eq_getElem hlt⟩
        have hd : L.drop k = e :: L.drop (k + 1) := drop_at he
        have hR' := hR
        rw [hd] at hR'
        obtain ⟨g, off, cap, hv1, hcap, hSg, hg, hcell⟩ := hR'.prs.at (i := 0) (e := e) rfl
        obtain ⟨x0, x1⟩ := hcell 0 e rfl
        rw [show off + 0 * 2 = off by omega] at x0 x1
        obtain ⟨ta, hta⟩ : ∃ a, e.1 = a := ⟨_, rfl⟩
        obtain ⟨th, hth⟩ : ∃ a, e.2 = a := ⟨_, rfl⟩
        rw [hta] at x0
        rw [hth] at x1
        obtain ⟨n, hn⟩ : ∃ n, (e :: L.drop (k + 1)).length = n := ⟨_, rfl⟩
        rw [hn] at hv1
        have hnN : 0 < n := by rw [← hn]; simp
        have hn0 : (0 : Int) < (n : Int) := by omega
        by_cases hle : ta ≤ to
        · have hd1 : decide (ta ≤ to) = true := decide_eq_true hle
          have hd0 : decide ((0 : Int) < (n : Int)) = true := decide_eq_true hn0
          have hneB : u5.ownBlock ≠ some B := fun e => (hbo B e).2 hR.sB
          have hdl : ((L.take k).map Prod.snd).length ≤ 1000000 := by rw [List.length_map, List.length_take]; omega
          have hltB := blk_lt hR.blk
          have KB := Lib.hid (fun (W w3 : World) (k1 : Kept wr W) (k2 : W.grownBy w3 u5.ownBlock) => And.intro ((World.cell?_of_block (w := wr) (a := ⟨B, 2, none⟩) (grown_at k1 k2 hltB hneB)).trans (c2.trans (by rw [hv1]))) ((World.frozen?_of_block (w := wr) (a := ⟨B, 2, none⟩) (grown_at k1 k2 hltB hneB)).trans f2))
          have hnc : n ≤ cap := by rw [← hn]; exact hcap
          have hne : ∀ o n c, ∀ g', (Value.slice (some ⟨g, o, none⟩) n c).ownBlock = some g' → g' ≠ B := fun o n c g' e => by
            simp [Value.ownBlock] at e; subst e
            exact hR.ne g (by rw [hv1]; rfl)
          have STEP := Lib.hid (fun (W w3 : World) (v3 v' : Value) (k1 : Kept wr W) (hg : W.grownBy w3 u5.ownBlock) (hr3 : Row w3 v3 ((L.take k).map Prod.snd ++ [th])) (hb3 : v3.ownBlock = u5.ownBlock ∨ ∃ g, v3.ownBlock = some g ∧ wr.heap.size ≤ g) (hp : Prs wr S v' (L.drop (k + 1))) (hn' : ∀ g, v'.ownBlock = some g → g ≠ B) =>
            Pop.step hR hro htk hF hbo he (by omega) k1 hg (by rw [hth]; exact hr3) hb3 hp hn')
          have HNE := Lib.hid hne
          have HPT : 1 < cap → Prs wr S (.slice (some ⟨g, off + 2, none⟩) (n - 1) (cap - 1)) (L.drop (k + 1)) := fun hc => by
            have := hR'.prs; rw [hv1] at this
            exact this.tail hc
          have HPT := Lib.hid HPT
          have HP1 : cap = 1 → L.drop (k + 1) = [] := fun hc => by
            have hn' := hn
            rw [List.length_cons] at hn'
            have : (L.drop (k + 1)).length = 0 := by omega
            exact List.length_eq_zero_iff.mp this
          have HP1 := Lib.hid HP1
          have HR := Lib.hid hR
          have HRO := Lib.hid hro
          clear hR hR' hd he hcell hta hth hn hro htk hF hbo hneB hcap hne
          subst hv1
          go_wp2_with fail
          go_quiet (fail)
          by_cases hc1 : cap = 1
          · have hn1 : n = 1 := by omega
            subst hc1
            subst hn1
            go_wp2_with (at_builtin; refine wpList_append_one _ rfl (.tmp 38) (.tmp 46) rfl _ _ th rfl rfl (HRO.out.kept fun g e => rfl) hdl ?_; intro v3 w3 hr3 hg3 hb3; obtain ⟨c3, f3⟩ := KB.out _ _ (((Kept.refl _).drewN _).more _) hg3)
            have FIN := Lib.hid (STEP.out _ _ v3 (.slice (some ⟨g, off, none⟩) 0 0) (((Kept.refl _).drewN _).more _) hg3 hr3 hb3 (.inl ⟨HP1.out rfl, _, _, rfl⟩) (HNE.out off 0 0))
            go_roundw
            case rel => exact ⟨k + 1, hlt, FIN.out.1⟩
            case measure => exact FIN.out.2
          · go_wp2_with (at_builtin; refine wpList_append_one _ rfl (.tmp 38) (.tmp 46) rfl _ _ th rfl rfl (HRO.out.kept fun g e => rfl) hdl ?_; intro v3 w3 hr3 hg3 hb3; obtain ⟨c3, f3⟩ := KB.out _ _ (((Kept.refl _).drewN _).more _) hg3)
            have FIN := Lib.hid (STEP.out _ _ v3 (.slice (some ⟨g, off + 2, none⟩) (n - 1) (cap - 1)) (((Kept.refl _).drewN _).more _) hg3 hr3 hb3 (HPT.out (by omega)) (HNE.out (off + 2) (n - 1) (cap - 1)))
            go_roundw
            case rel => exact ⟨k + 1, hlt, FIN.out.1⟩
            case measure => exact FIN.out.2
        · have hd1 : decide (ta ≤ to) = false := decide_eq_false hle
          have hd0 : decide ((0 : Int) < (n : Int)) = true := decide_eq_true hn0
          have FIN := Lib.hid (fun n => Pop.done ⟨vw, hR, hro, htk, hF, hbo⟩ hs (fun f hf => by rw [hd] at hf; simp at hf; subst hf; omega) n)
          clear hR hR' hd he hcell hta hth hn hro htk hF hbo hcap
          subst hv1
          go_wp2_with fail
          go_quiet (fail)
          go_wp2_with fail
          go_ret
          exact FIN.out _
      · have hkl : k = L.length := by omega
        have hd : L.drop k = [] := by rw [hkl]; exact List.drop_length
        have FIN := Lib.hid (fun n => Pop.done ⟨vw, hR, hro, htk, hF, hbo⟩ hs (fun f hf => by rw [hd] at hf; simp at hf) n)
        have hR' := hR
        rw [hd] at hR'
        obtain ⟨p, cap, hv1⟩ : ∃ p cap, vw = .slice p 0 cap := by
          rcases hR'.prs with ⟨_, p, cap, e⟩ | ⟨g, off, cap, e, _⟩
          · exact ⟨p, cap, e⟩
          · exact ⟨_, cap, e⟩
        clear hR hR' hd hro htk hF hbo
        subst hv1
        go_wp2_with fail
        go_quiet (fail)
        go_wp2_with fail
        go_ret
        exact FIN.out _
end

end Go.Proofs.Ytffhjdkhmggakaa.Rf
