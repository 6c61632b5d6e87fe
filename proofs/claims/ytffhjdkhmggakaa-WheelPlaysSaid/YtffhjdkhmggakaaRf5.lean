/- The document's own wheel: Add. -/
import Derived.Test.YtffhjdkhmggakaaRf4
import Derived.Deep.RegionHeld3
namespace Go.Proofs.Ytffhjdkhmggakaa.Rf
open Go.RowKit Tk Wh
open St (Kept blk_cell blk_free blk_lt blk_set)

section
variable {w w1 wr W w3 : World} {S S' : Nat → Prop} {B tb : Nat} {now last to a h : Int} {v vl vl3 : Value} {L M : List (Int × Int)} {k : Nat} {e : Int × Int}

/-- while a time is added: the new list so far, and all that it is made of -/
structure Ad (w1 : World) (S : Nat → Prop) (B : Nat) (now last : Int) (v : Value) (L : List (Int × Int)) (a h : Int) (tb : Nat) (M : List (Int × Int)) (vl : Value) (wr : World) : Prop where
  rw : RW wr S B now last v L
  own : wr.heap[tb]? = some (.cells #[.int .i64 a, .int .i64 h] 37 (0, 0))
  row : RowP wr vl M
  blk : ∀ g, vl.ownBlock = some g → w1.heap.size ≤ g ∧ g ≠ tb ∧ ¬ S g
  fr : Fr S w1 wr
theorem Ad.kept (A : Ad w1 S B now last v L a h tb M vl wr) (k1 : Kept wr W) : Ad w1 S B now last v L a h tb M vl W :=
  ⟨A.rw.kept k1, (k1.block tb (blk_lt A.own)).trans A.own, A.row.kept fun g e => k1.block g (A.row.lt e), A.blk, A.fr.then_kept k1⟩
theorem Ad.push (A : Ad w1 S B now last v L a h tb M vl wr) (k1 : Kept wr W) {x : Int × Int} (hr : RowP w3 vl3 (M ++ [x])) (hg : W.grownBy w3 vl.ownBlock) (hb : vl3.ownBlock = vl.ownBlock ∨ ∃ g, vl3.ownBlock = some g ∧ wr.heap.size ≤ g) : Ad w1 S B now last v L a h tb (M ++ [x]) vl3 w3 := by
  have htb := blk_lt A.own
  refine ⟨A.rw.stay (Nat.le_trans k1.size hg.size) (fun j c hl => grown_at k1 hg hl (fun e => (A.blk j e).2.2 c)), (grown_at k1 hg htb (fun e => (A.blk tb e).2.1 rfl)).trans A.own, hr, fun g e => ?_, (A.fr.then_kept k1).grown hg (fun g e => Or.inr (A.blk g e).1)⟩
  rcases hb with c | ⟨g', c, d⟩
  · exact A.blk g (c ▸ e)
  · rw [c] at e; obtain rfl := Option.some.inj e
    have := A.fr.size
    exact ⟨by omega, by omega, fun c => by have := A.rw.sLt _ c; omega⟩

/-- the new list, when k of the old one were gone through; b: was the new time laid already? -/
def Lk (a h : Int) (L : List (Int × Int)) (k : Nat) (b : Bool) : List (Int × Int) := if b then ins a h (L.take k) else L.take k
def later (a : Int) (L : List (Int × Int)) (k : Nat) : Bool := (L.take k).any fun e => decide (a < e.1)
theorem later_step (he : L[k]? = some e) : later a L (k + 1) = (later a L k || decide (a < e.1)) := by
  unfold later; rw [take_at he, List.any_append]; simp
theorem lk_lay (hb : later a L k = false) (he : L[k]? = some e) (hlt : a < e.1) : Lk a h L k false ++ [(a, h)] ++ [e] = Lk a h L (k + 1) true := by
  unfold Lk ins; rw [if_neg (by simp), if_pos rfl, take_at he, List.filter_append, List.filter_append]
  have h1 : ∀ x ∈ L.take k, x.1 ≤ a := fun x hx => by
    unfold later at hb
    have := List.any_eq_false.1 hb x hx
    simp at this; omega
  have e1 : ([e].filter fun x => decide (x.1 ≤ a)) = [] := by simp; omega
  have e2 : ([e].filter fun x => decide (a < x.1)) = [e] := by simp [hlt]
  have e3 : ((L.take k).filter fun x => decide (x.1 ≤ a)) = L.take k := List.filter_eq_self.2 fun x hx => by simpa using h1 x hx
  have e4 : ((L.take k).filter fun x => decide (a < x.1)) = [] := List.filter_eq_nil_iff.2 fun x hx => by have := h1 x hx; simp; omega
  rw [e1, e2, e3, e4]
  simp
theorem lk_go (he : L[k]? = some e) (hlt : ¬ a < e.1) : Lk a h L k false ++ [e] = Lk a h L (k + 1) false := by
  have _ := hlt
  unfold Lk; rw [if_neg (by simp), if_neg (by simp), take_at he]
theorem lk_on (hs : L.Pairwise lt2) (hb : later a L k = true) (he : L[k]? = some e) : Lk a h L k true ++ [e] = Lk a h L (k + 1) true ∧ a < e.1 := by
  have hlt : a < e.1 := by
    obtain ⟨x, hx, hxa⟩ := List.any_eq_true.1 hb
    obtain ⟨i, hi⟩ := List.mem_iff_getElem?.1 hx
    rw [List.getElem?_take] at hi
    split at hi
    · rename_i hik
      obtain ⟨i1, i2⟩ := List.getElem?_eq_some_iff.1 hi
      obtain ⟨k1, k2⟩ := List.getElem?_eq_some_iff.1 he
      have := (List.pairwise_iff_getElem.1 hs) i k i1 k1 hik
      rw [i2, k2] at this
      simp at hxa
      unfold lt2 at this; omega
    · cases hi
  refine ⟨?_, hlt⟩
  have e1 : ([e].filter fun x => decide (x.1 ≤ a)) = [] := by simp; omega
  have e2 : ([e].filter fun x => decide (a < x.1)) = [e] := by simp [hlt]
  unfold Lk ins; rw [if_pos rfl, if_pos rfl, take_at he, List.filter_append, List.filter_append, e1, e2]
  simp
theorem lk_end (hb : later a L L.length = false) : Lk a h L L.length false ++ [(a, h)] = ins a h L := by
  unfold Lk ins; rw [if_neg (by simp), List.take_length]
  have h1 : ∀ x ∈ L, x.1 ≤ a := fun x hx => by
    unfold later at hb; rw [List.take_length] at hb
    have := List.any_eq_false.1 hb x hx
    simp at this; omega
  rw [List.filter_eq_self.2 (fun x hx => by simpa using h1 x hx), List.filter_eq_nil_iff.2 (fun x hx => by have := h1 x hx; simp; omega)]
theorem lk_full : Lk a h L L.length true = ins a h L := by unfold Lk; rw [if_pos rfl, List.take_length]
theorem lk_len (b : Bool) (hk : k ≤ L.length) : (Lk a h L k b).length ≤ L.length + 1 := by
  unfold Lk; cases b
  · rw [if_neg (by simp), List.length_take]; omega
  · rw [if_pos rfl, ins_length, List.length_take]; omega

/-- the new list is the wheel's -/
theorem Ad.done (A : Ad w1 S B now last v L a h tb M vl wr) : Rent w1 S B now last M (wr.setCell ⟨B, 2, none⟩ vl) := by
  refine ⟨fun j => S j ∨ vl.ownBlock = some j, vl, A.rw.set2 (fun _ _ _ => rfl) (Nat.le_refl _) (fun j c => Or.inl c) (fun j c => c.elim (A.rw.sLt j) (fun c => A.row.lt c)) (A.row.prs.more fun j c => Or.inr c) (fun g e c => (A.blk g e).2.2 (c ▸ A.rw.sB)), fun j c => c.imp id (fun c => (A.blk j c).1), A.fr.setCell (Or.inl A.rw.sB) _⟩

theorem Rent.then (F : Fr S w w1) (R : Rent w1 S B now last L w3) : Rent w S B now last L w3 := by
  obtain ⟨S2, v2, r, s, f⟩ := R
  exact ⟨S2, v2, r, fun j c => (s j c).imp id fun c => Nat.le_trans F.size c, F.trans f fun i c => Or.inl c⟩

theorem RW.pair {g off n cap : Nat} (h : RW w S B now last (.slice (some ⟨g, off, none⟩) n cap) L) (he : L[k]? = some e) : w.cell? ⟨g, off + k * 2, none⟩ = some (.int .i64 e.1) ∧ w.cell? ⟨g, off + k * 2 + 1, none⟩ = some (.int .i64 e.2) := by
  rcases h.prs with ⟨h0, _⟩ | ⟨g', off', cap', e1, h1, h2, h3, h4, h5⟩
  · rw [h0] at he; simp at he
  · simp only [Value.slice.injEq, Option.some.injEq, Addr.mk.injEq, and_true] at e1
    obtain ⟨⟨rfl, rfl⟩, rfl, rfl⟩ := e1
    exact h5 k e he

set_option maxHeartbeats 1600000 in
set_option maxRecDepth 100000 in
theorem radd_any' (h : RW w S B now last v L) (hs : L.Pairwise lt2) (hL : L.length < 4096) (l0 : 0 ≤ last) (l1 : last < 1152921504606846976) (x : Int) :
    Calls Try.prog 23 #[.pointer (some ⟨B, 0, none⟩), .int .i64 x] w fun e w' => e = .returned (.tuple #[.int .i64 (last + 1), .int .i64 0]) ∧ Rent w S B now (last + 1) (ins (clamp x) (last + 1) L) w' := by
  have c1 := h.c1
  have c2 := h.c2
  have f1 := blk_free h.blk 1
  have hlen := fun ty u => h.prs.len ty u
  obtain ⟨q, hq⟩ : ∃ q : Int, (L.length : Int) = q := ⟨_, rfl⟩
  rw [hq] at hlen
  have hq4 : q < 4096 := by omega
  obtain ⟨ca, hca⟩ : ∃ c, Hid (clamp x = c) := ⟨_, rfl⟩
  have RC : ∀ w, Calls Try.prog 10 #[.int .i64 x] w fun e w' => e = .returned (.int .i64 ca) ∧ w = w' := fun w => by have := rclamp_any x w; rw [hca.out] at this; exact this
  have RC := Lib.hid RC
  rw [hca.out]
  obtain ⟨w1, hw1⟩ : ∃ u, w.setCell ⟨B, 1, none⟩ (.int .i64 (last + 1)) = u := ⟨_, rfl⟩
  have h1 := h.set1 (last + 1)
  rw [hw1] at h1
  have F1 : Fr S w w1 := by rw [← hw1]; exact (Fr.refl S w).setCell (Or.inl h.sB) _
  have HW1 := Lib.hid hw1
  have F1 := Lib.hid F1
  have K := Lib.hid (fun (u : World) (k1 : Kept w1 u) => (Below.cell k1 (p := ⟨B, 1, none⟩) (blk_lt h1.blk)).trans h1.c1)
  have H1 := Lib.hid h1
  have HQ := Lib.hid hq
  have hB1 := blk_lt h1.blk
  have k1 := h1.c1
  clear h hw1 hq h1
  go_enter Try.func23, Try.ntmps23
  go_wp2_with fail
  rw [HW1.out]
  clear c1 c2 f1
  go_region_held3 (fun w' => w'.cell? ⟨B, 1, none⟩ = some (.int .i64 (last + 1))) (first | exact K.out _ (Kept.refl _).drew | exact K.out _ ((Kept.refl _).drew.more _) | exact K.out _ (Kept.drew (Kept.more (Kept.refl _) _)))
    (first | (go_at_call 10; refine (RC.out _).mono ?_; rintro e w' ⟨rfl, rfl⟩))
  go_wp2_with fail
  all_goals
    obtain ⟨tb, htb⟩ : ∃ b, w1.heap.size = b := ⟨_, rfl⟩
    have A0 := Lib.hid (show Ad w1 S B now (last + 1) v L ca (last + 1) tb (Lk ca (last + 1) L 0 false) (.slice none 0 0) (w1.alloc (.cells #[.int .i64 ca, .int .i64 (last + 1)] 37)).drew from
      ⟨H1.out.kept (Kept.one _ _).drew, by rw [← htb]; exact St.blk_new w1 _, rowp_nil _, fun g e => by simp [Value.ownBlock] at e, ((Fr.refl S w1).alloc _).drew⟩)
    rw [htb]
    clear htb k1
    go_loopw [9, 8, 7] (fun i b vl wr => ∃ k : Nat, k ≤ L.length ∧ i = .int .i64 (k : Int) ∧ b = .bool (later ca L k) ∧ Ad w1 S B now (last + 1) v L ca (last + 1) tb (Lk ca (last + 1) L k (later ca L k)) vl wr) (fun i _ _ _ => L.length - (intOf i).toNat)
    case atStart => exact ⟨0, Nat.zero_le _, rfl, rfl, A0.out⟩
    case round =>
      obtain ⟨k, hk, rfl, rfl, A⟩ := hrel
      have c2 := A.rw.c2
      have t0 : wr.cell? ⟨tb, 0, none⟩ = some (.int .i64 ca) := by rw [blk_cell A.own]; rfl
      have t1 : wr.cell? ⟨tb, 1, none⟩ = some (.int .i64 (last + 1)) := by rw [blk_cell A.own]; rfl
      by_cases hlt : k < L.length
      · have hkq : (k : Int) < q := by have := HQ.out; omega
        obtain ⟨e, he⟩ : ∃ e, L[k]? = some e := ⟨_, List.getElem?_eq_getElem hlt⟩
        obtain ⟨g, off, cap, hv1, hcap, hSg, hg, hcell⟩ := A.rw.prs.at he
        obtain ⟨x0, x1⟩ := hcell k e he
        obtain ⟨ta, hta⟩ : ∃ a, e.1 = a := ⟨_, rfl⟩
        obtain ⟨th, hth⟩ : ∃ a, e.2 = a := ⟨_, rfl⟩
        rw [hta] at x0
        rw [hth] at x1
        have hkn : (k : Int) < (L.length : Int) := by omega
        obtain ⟨b, hb⟩ : ∃ b, later ca L k = b := ⟨_, rfl⟩
        have hst := later_step (a := ca) he
        rw [hb, hta] at hst
        rw [hb] at A ⊢
        have hll := lk_len (a := ca) (h := last + 1) b hk
        have HV := Lib.hid hv1
        rw [hv1] at A c2
        have hPair : ∀ u, RW u S B now (last + 1) (.slice (some ⟨g, off, none⟩) L.length cap) L → u.cell? ⟨g, off + k * 2, none⟩ = some (.int .i64 ta) ∧ u.cell? ⟨g, off + k * 2 + 1, none⟩ = some (.int .i64 th) := fun u hu => by
          have := hu.pair he; rw [hta, hth] at this; exact this
        have HP := Lib.hid hPair
        have AS := Lib.hid A
        -- one pair more, in whatever world that keeps what stands
        have PUSH : ∀ (M : List (Int × Int)) (vl : Value) (wa : World), Ad w1 S B now (last + 1) (.slice (some ⟨g, off, none⟩) L.length cap) L ca (last + 1) tb M vl wa → ∀ (y : Int × Int) (vl3 : Value) (w3 : World) (o : Obj), RowP w3 vl3 (M ++ [y]) → (wa.alloc o).grownBy w3 vl.ownBlock → (vl3.ownBlock = vl.ownBlock ∨ ∃ g, vl3.ownBlock = some g ∧ wa.heap.size ≤ g) →
            Ad w1 S B now (last + 1) (.slice (some ⟨g, off, none⟩) L.length cap) L ca (last + 1) tb (M ++ [y]) vl3 w3 := fun M vl wa Aa y vl3 w3 o r1 r2 r3 => Aa.push (Kept.one wa o) r1 r2 r3
        have PUSH := Lib.hid PUSH
        have hee : e = (ta, th) := by rw [← hta, ← hth]
        cases b with
        | true =>
          obtain ⟨LK, hlt2⟩ := lk_on (h := last + 1) hs hb he
          have HLK : Hid (Lk ca (last + 1) L k true ++ [(ta, th)] = Lk ca (last + 1) L (k + 1) true) := by rw [← hee]; exact LK
          have HST : Hid (later ca L (k + 1) = true) := by show _ = _; rw [hst]; rfl
          clear A hst hb hPair hcell he hta hth LK hlt2 hee hv1
          go_wp2_with fail
          go_quiet (fail)
          go_wp2_with (at_builtin; refine wpList_append_pair _ rfl (.tmp 58) (.tmp 66) rfl _ _ (ta, th) rfl rfl (AS.out.kept ((Kept.refl _).drewN _)).row (by omega) ?_; intro v3 w3 hr3 hg3 hb3; have A3 := Lib.hid (PUSH.out _ _ _ (AS.out.kept ((Kept.refl _).drewN _)) (ta, th) v3 w3 _ hr3 hg3 hb3))
          go_roundw
          case rel => exact ⟨k + 1, hlt, by go_num, by rw [HST.out], by rw [HST.out, ← HLK.out, HV.out]; exact A3.out⟩
          case measure => simp [intOf]; omega
        | false =>
          have HB := Lib.hid hb
          have HST := Lib.hid hst
          clear A hst hb hPair hcell hta hth hv1
          by_cases hlt2 : ca < ta
          · have D := decide_eq_true hlt2
            rw [D, Bool.or_true] at HST
            have HLK : Hid (Lk ca (last + 1) L k false ++ [(ca, last + 1)] ++ [(ta, th)] = Lk ca (last + 1) L (k + 1) true) := by rw [← hee]; exact lk_lay HB.out he (by rw [hee]; exact hlt2)
            go_wp2_with fail
            go_quiet (fail)
            have hll2 : (Lk ca (last + 1) L k false ++ [(ca, last + 1)]).length ≤ L.length + 2 := by rw [List.length_append]; simp; omega
            go_wp2_with (first
              | (at_builtin; refine wpList_append_pair _ rfl (.tmp 54) (.tmp 56) rfl _ _ (ca, last + 1) rfl rfl (AS.out.kept ((Kept.refl _).drewN _)).row (by omega) ?_; intro v2 w2 hr2 hg2 hb2; have A2 := Lib.hid (PUSH.out _ _ _ (AS.out.kept ((Kept.refl _).drewN _)) (ca, last + 1) v2 w2 _ hr2 hg2 hb2); have c2' := A2.out.rw.c2; have p' := HP.out _ A2.out.rw; have x0' := p'.1; have x1' := p'.2; clear p' t0 t1)
              | (at_builtin; refine wpList_append_pair _ rfl (.tmp 58) (.tmp 66) rfl _ _ (ta, th) rfl rfl A2.out.row (by omega) ?_; intro v3 w3 hr3 hg3 hb3; have A3 := Lib.hid (PUSH.out _ _ _ A2.out (ta, th) v3 w3 _ hr3 hg3 hb3)))
            go_roundw
            case rel => exact ⟨k + 1, hlt, by go_num, by rw [HST.out], by rw [HST.out, ← HLK.out, HV.out]; exact A3.out⟩
            case measure => simp [intOf]; omega
          · have D := decide_eq_false hlt2
            rw [D, Bool.or_false] at HST
            have HLK : Hid (Lk ca (last + 1) L k false ++ [(ta, th)] = Lk ca (last + 1) L (k + 1) false) := by rw [← hee]; exact lk_go he (by rw [hee]; exact hlt2)
            go_wp2_with fail
            go_quiet (fail)
            go_wp2_with (at_builtin; refine wpList_append_pair _ rfl (.tmp 58) (.tmp 66) rfl _ _ (ta, th) rfl rfl (AS.out.kept ((Kept.refl _).drewN _)).row (by omega) ?_; intro v3 w3 hr3 hg3 hb3; have A3 := Lib.hid (PUSH.out _ _ _ (AS.out.kept ((Kept.refl _).drewN _)) (ta, th) v3 w3 _ hr3 hg3 hb3))
            go_roundw
            case rel => exact ⟨k + 1, hlt, by go_num, by rw [HST.out], by rw [HST.out, ← HLK.out, HV.out]; exact A3.out⟩
            case measure => simp [intOf]; omega
      · obtain rfl : k = L.length := by omega
        have hkq : ((L.length : Nat) : Int) = q := HQ.out
        have AS := Lib.hid A
        obtain ⟨b, hb⟩ : ∃ b, later ca L L.length = b := ⟨_, rfl⟩
        rw [hb] at AS ⊢
        have HB := Lib.hid hb
        clear A hb
        cases b with
        | true =>
          obtain ⟨p, n, c, hvl⟩ := AS.out.row.shape
          rw [hvl] at AS ⊢
          have FIN := Lib.hid (Rent.then F1.out AS.out.done)
          have c1 := AS.out.rw.c1
          have f2 := blk_free AS.out.rw.blk 2
          go_wp2_with fail
          go_ret2
          exact ⟨rfl, by rw [← lk_full]; exact FIN.out⟩
        | false =>
          have hll2 := lk_len (a := ca) (h := last + 1) (L := L) (k := L.length) false (Nat.le_refl _)
          have PUSH : ∀ (M : List (Int × Int)) (vl : Value) (wa : World), Ad w1 S B now (last + 1) v L ca (last + 1) tb M vl wa → ∀ (y : Int × Int) (vl3 : Value) (w3 : World) (o : Obj), RowP w3 vl3 (M ++ [y]) → (wa.alloc o).grownBy w3 vl.ownBlock → (vl3.ownBlock = vl.ownBlock ∨ ∃ g, vl3.ownBlock = some g ∧ wa.heap.size ≤ g) →
            Ad w1 S B now (last + 1) v L ca (last + 1) tb (M ++ [y]) vl3 w3 := fun M vl wa Aa y vl3 w3 o r1 r2 r3 => Aa.push (Kept.one wa o) r1 r2 r3
          have PUSH := Lib.hid PUSH
          go_wp2_with (at_builtin; refine wpList_append_pair _ rfl (.tmp 70) (.tmp 72) rfl _ _ (ca, last + 1) rfl rfl AS.out.row (by omega) ?_; intro v2 w2 hr2 hg2 hb2; have A2 := Lib.hid (PUSH.out _ _ _ AS.out (ca, last + 1) v2 w2 _ hr2 hg2 hb2); have c2' := A2.out.rw.c2; have c1' := A2.out.rw.c1; obtain ⟨p, n, c, hvl⟩ := hr2.shape; subst hvl; have f2' := blk_free A2.out.rw.blk 2; clear t0 t1)
          go_ret2
          exact ⟨rfl, by rw [← lk_end HB.out]; exact Rent.then F1.out A2.out.done⟩
end

end Go.Proofs.Ytffhjdkhmggakaa.Rf
