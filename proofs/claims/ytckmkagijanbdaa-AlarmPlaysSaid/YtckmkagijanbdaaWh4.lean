/- Contracts of package wheel: Cancel. -/
import Derived.Test.YtckmkagijanbdaaWh2
namespace Go.Proofs.Ytckmkagijanbdaa.Wh
open Go.RowKit Tk Sl
open St (Kept blk_cell blk_free)

section
variable {w w' : World} {S : Nat → Prop} {B M : Nat} {now last : Int} {sv : Nat → Value} {ls : Nat → List Int} {T : Int → Option Tm} {n : Nat} {L : List (Int × Int)}

/-- what Cancel does -/
def cancels (w : World) (S : Nat → Prop) (B : Nat) (now last : Int) (L : List (Int × Int)) (x : Int) : Ending → World → Prop := fun e w' =>
  e = .returned (.bool (tim x L).isSome) ∧ Went w S B now last (del x L) w'

set_option maxHeartbeats 800000 in
set_option maxRecDepth 100000 in
theorem cancel_none (h : Whl w S B now last L) {x : Int} (hx : inR x) (hn : tim x L = none) : Calls Try.prog 44 #[.pointer (some ⟨B, 0, none⟩), .int .i64 x] w (cancels w S B now last L x) := by
  obtain ⟨M, sv, ls, T, h1, I, E, r⟩ := h
  have hT : T x = none := by rw [E.tim] at hn; cases ht : T x with
    | none => rfl
    | some t => rw [ht] at hn; cases hn
  have hdel : Whl w S B now last (del x L) := by rw [del_none E hT]; exact ⟨M, sv, ls, T, h1, I, E, r⟩
  have FIN := Lib.hid (show ∀ w', Kept w w' → cancels w S B now last L x (.returned (.bool false)) w' from fun w' hk => ⟨by rw [hn]; rfl, hdel.same hk⟩)
  have c3 := h1.c3
  have C := Lib.hid (made_any h1)
  have hlook := h1.map.look_ok hx
  rw [hT] at hlook
  replace hlook : (Instr.lookup 92 (.map (some M)) (.int .i64 x) true).run Try.prog w = .ok (.tuple #[.agg #[.int .i64 0, .int .i64 0, .int .i64 0], .bool false]) w := hlook
  clear h1 I E r hn hT hdel
  go_enter Try.func44, Try.ntmps44
  go_wp2_with (go_at_call 47; refine C.out.mono ?_; rintro e w' ⟨rfl, rfl⟩)
  go_ret
  exact FIN.out _ (Kept.one _ _)


theorem upd_upd {α β : Type} [DecidableEq α] (f : α → β) (a : α) (b c : β) : upd (upd f a b) a c = upd f a c := by
  funext x; unfold upd; split <;> rfl
theorem Row.cut {g k cap r : Nat} {l : List Int} (h : Row w (.slice (some ⟨g, 0, none⟩) k cap) l) (hk : l.length = k) (hr : r ≤ k) : Row w (.slice (some ⟨g, 0, none⟩) r cap) (l.take r) := by
  rcases h.2 with ⟨h1, _⟩ | ⟨g', cap', cur, e1, _, e2, e3, e4, e5, e6⟩
  · simp at h1
  · simp only [Value.slice.injEq, Option.some.injEq, Addr.mk.injEq, and_true] at e1
    obtain ⟨rfl, _, rfl⟩ := e1
    have hlen : (l.take r).length = r := by rw [List.length_take]; omega
    refine ⟨by rw [hlen]; simp [hv]; omega, .inr ⟨g, cap, cur, by rw [hlen], Nat.zero_le _, e2, by rw [hlen]; omega, e4, e5, ?_⟩⟩
    rw [hlen, hk] at *
    have : hv (l.take r) = (hv l).take r := by unfold hv; rw [List.map_take]
    rw [this, ← e6, List.take_take, Nat.min_eq_left (by omega)]; simp
theorem cancel_end {w5 : World} {S5 : Nat → Prop} {sv5 : Nat → Value} {x m : Int} {t u : Tm} (I : Inv now last ls T fun _ => False) (E : Ent L T) (b : 0 ≤ last ∧ last ≤ 1152921504606846976 ∧ L.length ≤ 4096) (ht : T x = some t)
    (hm : (ls t.list)[(ls t.list).length - 1]? = some m) (hu : T m = some u)
    (h5 : Is w5 S5 B M now last sv5 (upd ls t.list (((ls t.list).set t.place m).take ((ls t.list).length - 1))) (upd (upd T m (some ⟨u.at_, t.list, t.place⟩)) x none) (L.length - 1)) (hS : ∀ k, S5 k → S k ∨ w.heap.size ≤ k) (hF : Fr S w w5) :
    Went w S B now last (del x L) w5 := by
  have hlen := del_length E (h := x) (by rw [ht]; simp)
  refine ⟨S5, ⟨M, sv5, _, _, by rw [show (del x L).length = L.length - 1 by omega]; exact h5, I.cancel ht hm hu, (E.del x).congr fun y => ?_, b.1, b.2.1, by omega⟩, hS, hF⟩
  by_cases c : y = x
  · subst c; rw [upd_same, upd_same]
  · rw [upd_other _ _ c, upd_other _ _ c]
    by_cases d : y = m
    · subst d; rw [upd_same, hu]; rfl
    · rw [upd_other _ _ d]

set_option maxHeartbeats 1600000 in
set_option maxRecDepth 100000 in
theorem cancel_some (h : Whl w S B now last L) {x a : Int} (hx : inR x) (hn : tim x L = some a) : Calls Try.prog 44 #[.pointer (some ⟨B, 0, none⟩), .int .i64 x] w (cancels w S B now last L x) := by
  obtain ⟨M, sv, ls, T, h1, I, E, l0, l1, hL⟩ := h
  obtain ⟨t, ht⟩ : ∃ t, T x = some t := by
    rw [E.tim] at hn; cases ht : T x with
    | none => rw [ht] at hn; cases hn
    | some t => exact ⟨t, rfl⟩
  obtain ⟨_, _, _, _, hl2, _⟩ := I.nums x t ht
  obtain ⟨p1, _⟩ := I.pos x t ht (fun c => c)
  obtain ⟨l, hl⟩ : ∃ l, t.list = l := ⟨_, rfl⟩
  obtain ⟨p, hp⟩ : ∃ p, t.place = p := ⟨_, rfl⟩
  rw [hl] at hl2 p1
  rw [hp] at p1
  have hpl : p < (ls l).length := (List.getElem?_eq_some_iff.1 p1).1
  obtain ⟨r, hr⟩ : ∃ r, (ls l).length = r + 1 := ⟨(ls l).length - 1, by omega⟩
  obtain ⟨m, hm⟩ : ∃ m, (ls l)[r]? = some m := ⟨_, List.getElem?_eq_getElem (by omega)⟩
  obtain ⟨_, b, hb⟩ := I.back l r m hl2 hm
  have hmR : inR m := by have := I.nums m _ hb; exact inR_of (by omega) (by omega)
  obtain ⟨g, cap, cur, e1, e2, e3, e4, e5, e6⟩ := (h1.row l hl2).full (fun c => by rw [c] at hpl; simp at hpl)
  rw [hr] at e1 e3 hpl
  have c3 := h1.c3
  have cl := h1.cl hl2
  rw [e1] at cl
  have C := Lib.hid (made_any h1)
  have hlook := h1.map.look_ok hx
  rw [ht] at hlook
  replace hlook : (Instr.lookup 92 (.map (some M)) (.int .i64 x) true).run Try.prog w = .ok (.tuple #[.agg #[.int .i64 t.at_, .int .i64 (t.list : Int), .int .i64 (t.place : Int)], .bool true]) w := hlook
  rw [hl, hp] at hlook
  have gp : w.cell? ⟨g, p, none⟩ = some (.int .i64 x) := by rw [blk_cell e2]; have := take_get e6 (hv_at p1); simpa using this
  have gr : w.cell? ⟨g, r, none⟩ = some (.int .i64 m) := by rw [blk_cell e2]; have := take_get e6 (hv_at hm); simpa using this
  have gf : w.frozen? ⟨g, p, none⟩ = false := blk_free e2 p
  have hB := h1.ltB
  have hgl := St.blk_lt e2
  obtain ⟨ta, hta⟩ : ∃ ta, t.at_ = ta := ⟨_, rfl⟩
  rw [hta] at hlook
  obtain ⟨tb, htb⟩ : ∃ tb, w.heap.size = tb := ⟨_, rfl⟩
  -- the world with the call's own variable
  obtain ⟨w1, hw1⟩ : ∃ w1, w.alloc (.cells #[.int .i64 ta, .int .i64 (l : Int), .int .i64 (p : Int)] 99) = w1 := ⟨_, rfl⟩
  have k1 : Kept w w1 := by rw [← hw1]; exact Kept.one _ _
  have b1 : w1.heap[tb]? = some (.cells #[.int .i64 ta, .int .i64 (l : Int), .int .i64 (p : Int)] 99 (0, 0)) := by rw [← hw1, ← htb]; exact St.blk_new _ _
  have h2 := h1.kept k1
  have cl2 := h2.cl hl2
  rw [e1] at cl2
  have gf2 := (Below.frozen (w := w) (w' := w1) k1 (p := ⟨g, p, none⟩) hgl).trans gf
  have gp2 := (Below.cell (w := w) (w' := w1) k1 (p := ⟨g, p, none⟩) hgl).trans gp
  have gr2 := (Below.cell (w := w) (w' := w1) k1 (p := ⟨g, r, none⟩) hgl).trans gr
  have t1 : w1.cell? ⟨tb, 1, none⟩ = some (.int .i64 (l : Int)) := by rw [blk_cell b1]; rfl
  have t2 : w1.cell? ⟨tb, 2, none⟩ = some (.int .i64 (p : Int)) := by rw [blk_cell b1]; rfl
  have hrb : (r : Int) ≤ 4096 := by
    have := E.count (I.list_nodup hl2) (fun x hx => by obtain ⟨_, b, p, hp, _⟩ := I.has hl2 hx; rw [hp]; simp)
    omega
  have hrw : IntKind.i64.wrap ((r : Int) + 1 - 1) = r := by rw [show (r : Int) + 1 - 1 = r by omega]; exact IntWalk.i64_in _ (by omega)
  have hl3 : (l : Int) < 257 := by omega
  have hp3 : (p : Int) < (r : Int) + 1 := by omega
  have HW1 := Lib.hid hw1
  have HTB := Lib.hid htb
  have HG := Lib.hid (show g < tb by omega)
  have HGB := Lib.hid (show B < tb by omega)
  have H2 := Lib.hid h2
  have HI := Lib.hid I
  have HE := Lib.hid E
  have B1 := Lib.hid b1
  have HB := Lib.hid hb
  have HT := Lib.hid ht
  have HL := Lib.hid hl
  have HP := Lib.hid hp
  have HR := Lib.hid hr
  have HM := Lib.hid hm
  have HN := Lib.hid hn
  have E1 := Lib.hid e1
  have HTA := Lib.hid hta
  have K1 := Lib.hid k1
  have LE := Lib.hid (And.intro l0 (And.intro l1 hL))
  clear hw1 htb h2 I E b1 hb ht hl hp hr hm e1 e2 e5 e6 hta k1 l0 l1 hL h1 p1 gp gr gf hn
  go_enter Try.func44, Try.ntmps44
  go_wp2_with (go_at_call 47; refine C.out.mono ?_; rintro e w' ⟨rfl, rfl⟩)
  rw [HW1.out, HTB.out]
  clear cl hlook c3 hgl hB
  go_quiet (fail)
  generalize nq = n1
  go_wp2_with fail
  go_quiet (fail)
  generalize nq = n2
  go_wp2_with fail
  go_region
  go_wp2_with fail
  -- the place that was left holds the last one
  generalize hw2 : (w1.drewN (n1 + n2 + 1)).setCell ⟨g, p, none⟩ (.int .i64 m) = w2
  have h3 := (H2.out.kept ((Kept.refl w1).drewN (n1 + n2 + 1))).setR hl2 (E1.out.trans (by rw [HR.out])) m (by rw [HR.out]; exact hpl)
  rw [hw2] at h3
  have b2 : w2.heap[tb]? = some (.cells #[.int .i64 ta, .int .i64 (l : Int), .int .i64 (p : Int)] 99 (0, 0)) := by rw [← hw2]; exact (Below.heap_setCell _ _ _ _ (by show tb ≠ g; have := HG.out; omega)).trans B1.out
  have F2 : Fr S w w2 := by rw [← hw2]; exact ((Fr.kept K1.out).drewN _).setCell (Or.inl (H2.out.sS l hl2 g (by rw [E1.out]; rfl))) _
  have hrc : (r : Int) ≤ cap := by omega
  have s1 : w2.cell? ⟨tb, 1, none⟩ = some (.int .i64 (l : Int)) := by rw [blk_cell b2]; rfl
  have s2 : w2.cell? ⟨tb, 2, none⟩ = some (.int .i64 (p : Int)) := by rw [blk_cell b2]; rfl
  have s3 := h3.cl hl2
  rw [E1.out] at s3
  have s4 := h3.free (4 + l)
  have HW2 := Lib.hid hw2
  have H3 := Lib.hid h3
  have B2 := Lib.hid b2
  have HF2 := Lib.hid F2
  clear hw2 h3 b2 F2 t1 t2 cl2 gf2 gp2 gr2
  go_region
  go_wp2_with fail
  -- the list is shorter by one
  generalize hw3 : ((w2.setCell ⟨B, 4 + l, none⟩ (.slice (some ⟨g, 0, none⟩) r cap)).drew) = w3
  have hrow := (H3.out.row l hl2)
  rw [E1.out, upd_same] at hrow
  have h4 := (H3.out.setL hl2 (Row.cut (r := r) hrow (by rw [List.length_set, HR.out]) (by omega)) (fun g' e => by
    simp [Value.ownBlock] at e; subst e; exact Or.inl (by rw [E1.out]; rfl))).kept (Kept.refl _).drew
  rw [hw3] at h4
  have b3 : w3.heap[tb]? = some (.cells #[.int .i64 ta, .int .i64 (l : Int), .int .i64 (p : Int)] 99 (0, 0)) := by
    rw [← hw3]; exact (Below.heap_setCell _ _ _ _ (by show tb ≠ B; have := HGB.out; omega)).trans B2.out
  have F3 : Fr S w w3 := by rw [← hw3]; exact (HF2.out.setCell (Or.inl H2.out.sB) _).drew
  obtain ⟨w4, hrun4, hm4, ht4⟩ := (h4.map.kept (w' := w3.drew) rfl).store (by have := LE.out.2.2; omega) hmR ⟨b, l, p⟩
  have h5 := Is.setM (h4.kept (Kept.refl w3).drew) ht4 hm4
  have F4 : Fr S w w4 := F3.drew.turned ht4 (Or.inl H2.out.sM)
  obtain ⟨w5, hrun5, hm5, ht5⟩ := h5.map.drop hx 0
  have h6 := Is.setM h5 ht5 hm5
  have F5 : Fr S w w5 := F4.turned ht5 (Or.inl H2.out.sM)
  have q1 := h4.c3
  have q2 : w3.cell? ⟨tb, 1, none⟩ = some (.int .i64 (l : Int)) := by rw [blk_cell b3]; rfl
  have q3 : w3.cell? ⟨tb, 2, none⟩ = some (.int .i64 (p : Int)) := by rw [blk_cell b3]; rfl
  have q4 := (h4.map.kept (w' := w3.drew) rfl).look hmR
  rw [HB.out] at q4
  replace q4 : (Instr.lookup 92 (.map (some M)) (.int .i64 m) false).run Try.prog w3.drew = .ok (.agg #[.int .i64 b, .int .i64 (l : Int), .int .i64 (r : Int)]) w3.drew := q4
  have q5 := h5.c3
  have q6 := field_0 b l r w3.drew
  unfold tv at hrun4
  simp only at hrun4
  clear hw3 hrow b3 F3 hm4 ht4 F4 hm5 ht5 h4 s1 s2 s3 s4
  have H6 := Lib.hid h6
  have HF5 := Lib.hid F5
  clear h5 h6 F5
  go_region
  go_wp2_with fail
  go_ret
  refine ⟨by rw [HN.out]; rfl, ?_⟩
  have h7 := H6.out
  rw [upd_upd, HB.out] at h7
  have hmx : (upd T m (some ⟨b, l, p⟩) x).isSome = true := by
    by_cases c : x = m
    · subst c; rw [upd_same]; rfl
    · rw [upd_other _ _ c, HT.out]; rfl
  rw [hmx] at h7
  have hS2 : ∀ k, S k ∨ (Value.slice (some ⟨g, 0, none⟩) r cap).ownBlock = some k → S k := fun k c => c.elim id (fun c => by
    simp [Value.ownBlock] at c; subst c; exact H2.out.sS l hl2 _ (by rw [E1.out]; rfl))
  refine cancel_end HI.out HE.out LE.out HT.out (m := m) (u := ⟨b, l, r⟩) (by rw [HL.out, HR.out]; exact HM.out) HB.out (M := M) (S5 := S) (sv5 := upd sv l (.slice (some ⟨g, 0, none⟩) r cap)) ?_ (fun k c => Or.inl c) HF5.out
  rw [HL.out, HP.out, HR.out]
  exact h7.more hS2 (fun k c => h7.sLt k (Or.inl c))
end

end Go.Proofs.Ytckmkagijanbdaa.Wh
