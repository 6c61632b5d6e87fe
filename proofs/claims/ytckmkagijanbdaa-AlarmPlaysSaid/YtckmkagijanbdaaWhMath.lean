/- Plain: what a wheel has: lists of handles, timers, and times in order. No Go text is spoken of here. -/
import Derived.Test.YtckmkagijanbdaaSlMath
namespace Go.Proofs.Ytckmkagijanbdaa.Wh
open Tk Sl

/-- a timer: its time, the list in which its handle stands, the place there -/
structure Tm where
  at_ : Int
  list : Nat
  place : Nat

def upd {α β : Type} [DecidableEq α] (f : α → β) (a : α) (b : β) : α → β := fun x => if x = a then b else f x
theorem upd_same {α β : Type} [DecidableEq α] (f : α → β) (a : α) (b : β) : upd f a b a = b := if_pos rfl
theorem upd_other {α β : Type} [DecidableEq α] (f : α → β) {a x : α} (b : β) (h : x ≠ a) : upd f a b x = f x := if_neg h

/-- the number of the list in which a time stands, as seen from now -/
def num (now x : Int) : Int := placeL now x * 64 + placeS now x

theorem placeL_lo (n x : Int) : 0 ≤ placeL n x := by unfold placeL; split; omega; exact lev_lo _ _
theorem placeL_hi (n x : Int) : placeL n x ≤ 4 := by unfold placeL; split; omega; exact lev_hi _ _
theorem placeS_lo (n x : Int) : 0 ≤ placeS n x := by unfold placeS; split; omega; exact part_lo _ _
theorem placeS_hi (n x : Int) : placeS n x ≤ 63 := by unfold placeS; split; omega; have := part_hi (clamp x) (lev (clamp n) (clamp x)); omega
theorem place_4 {n x : Int} (h : placeL n x = 4) : placeS n x = 0 := by
  unfold placeL at h; unfold placeS
  split at h
  · omega
  · rename_i hc; rw [if_neg hc, h]; exact if_neg (by omega)
theorem num_lo (n x : Int) : 0 ≤ num n x := by have := placeL_lo n x; have := placeS_lo n x; unfold num; omega
theorem num_hi (n x : Int) : num n x ≤ 256 := by
  have := placeL_hi n x; have := placeS_hi n x; unfold num
  by_cases h : placeL n x = 4
  · have := place_4 h; omega
  · omega
theorem num_past {n x : Int} (h0 : 0 ≤ x) (h : x ≤ n) (h1 : n ≤ 1125899906842624) : num n x = n % 64 := by
  have hn := clamp_id n (by omega) h1
  have hx := clamp_id x h0 (by omega)
  unfold num placeL placeS; rw [hn, hx, if_pos h, if_pos h]; omega
theorem num_come {n x : Int} (h0 : 0 ≤ n) (h : n < x) (h1 : x ≤ 1125899906842624) : num n x = lev n x * 64 + part x (lev n x) := by
  have hn := clamp_id n h0 (by omega)
  have hx := clamp_id x (by omega) h1
  unfold num placeL placeS; rw [hn, hx, if_neg (by omega), if_neg (by omega)]

/-- the lists that begin when one goes on from now to a time -/
def beg (now to : Int) (l : Nat) : Prop :=
  (l < 256 ∧ part now (l / 64 : Nat) ≤ (l % 64 : Nat) ∧ start now (l / 64 : Nat) (l % 64 : Nat) ≤ to) ∨ (l = 256 ∧ turnAll now ≠ turnAll to)

theorem start_lv {n l s : Int} (h0 : 0 ≤ n) (h1 : n ≤ 1125899906842624) (hl : 0 ≤ l) (hl2 : l < 4) (hs : 0 ≤ s) (hs2 : s < 64) : start n l s = low n l + s * sz l := by
  unfold start; rw [if_pos ⟨⟨hl, hl2⟩, hs, hs2⟩, clamp_id n h0 h1]
theorem start_mono {n l s r : Int} (h0 : 0 ≤ n) (h1 : n ≤ 1125899906842624) (hl : 0 ≤ l) (hl2 : l < 4) (hs : 0 ≤ s) (hr : s ≤ r) (hr2 : r < 64) : start n l s ≤ start n l r := by
  rw [start_lv h0 h1 hl hl2 hs (by omega), start_lv h0 h1 hl hl2 (by omega) hr2]
  rcases (show l = 0 ∨ l = 1 ∨ l = 2 ∨ l = 3 by omega) with rfl | rfl | rfl | rfl
  · show _ + s * 1 ≤ _ + r * 1; omega
  · show _ + s * 64 ≤ _ + r * 64; omega
  · show _ + s * 4096 ≤ _ + r * 4096; omega
  · show _ + s * 262144 ≤ _ + r * 262144; omega

theorem part_le {n x : Int} (h0 : 0 ≤ n) (h : n < x) (h1 : x ≤ 1125899906842624) (h4 : lev n x ≠ 4) : part n (lev n x) ≤ part x (lev n x) := by
  have hn := clamp_id n h0 (by omega)
  have hx := clamp_id x (by omega) h1
  have hl0 := lev_lo n x
  have hl1 := lev_hi n x
  unfold part
  rw [if_pos ⟨hl0, by omega⟩, if_pos ⟨hl0, by omega⟩, hn, hx]
  rcases lev_cases n x with e | e | e | e | e
  · have h2 := lev_0 e; rw [e]; show n / 1 % 64 ≤ x / 1 % 64; omega
  · have h2 := lev_1 e; rw [e]; show n / 64 % 64 ≤ x / 64 % 64; omega
  · have h2 := lev_2 e; rw [e]; show n / 4096 % 64 ≤ x / 4096 % 64; omega
  · have h2 := lev_3 e; rw [e]; show n / 262144 % 64 ≤ x / 262144 % 64; omega
  · exact absurd e h4

theorem turnAll_id {t : Int} (h0 : 0 ≤ t) (h1 : t ≤ 1125899906842624) : turnAll t = t - t % 16777216 := by
  unfold turnAll; rw [clamp_id t h0 h1]; rfl

/-- WHAT STANDS IN A LIST THAT DOES NOT BEGIN IS STILL TO COME, and stands where it stood -/
theorem stays {now to x : Int} {l : Nat} (h0 : 0 ≤ now) (h1 : now ≤ to) (h2 : to ≤ 1125899906842624) (hx : now < x) (hx2 : x ≤ 1125899906842624) (hl : (l : Int) = num now x) (hb : ¬ beg now to l) :
    to < x ∧ num to x = num now x := by
  have hnum := num_come h0 hx hx2
  rw [hnum] at hl
  have hl0 := lev_lo now x
  have hl1 := lev_hi now x
  have hp0 := part_lo x (lev now x)
  have hp1 := part_hi x (lev now x)
  have key : to < fall now x := by
    by_cases h4 : lev now x = 4
    · have hp : part x (lev now x) = 0 := by rw [h4]; exact if_neg (by omega)
      have hlow := lev_4 h4
      have e : turnAll now = turnAll to := by
        by_cases e : turnAll now = turnAll to
        · exact e
        · exact absurd (Or.inr ⟨by omega, e⟩) hb
      rw [turnAll_id h0 (by omega), turnAll_id (by omega) h2] at e
      unfold fall; rw [if_pos h4, low_3]; omega
    · have hd : ((l / 64 : Nat) : Int) = lev now x := by omega
      have hm : ((l % 64 : Nat) : Int) = part x (lev now x) := by omega
      have hs := start_of h0 hx hx2 h4
      by_cases hc : to < fall now x
      · exact hc
      · refine absurd (Or.inl ⟨by omega, ?_, ?_⟩) hb
        · rw [hd, hm]; exact part_le h0 hx hx2 h4
        · rw [hd, hm, hs]; unfold fall at hc; rw [if_neg h4] at hc; omega
  have hle := @fall_le now x
  have hlev := lev_stays hx h1 key
  refine ⟨by omega, ?_⟩
  rw [hnum, num_come (by omega) (by omega) hx2, hlev]

/-- WHAT IS PAST STANDS IN A LIST THAT BEGINS -/
theorem past_beg {now to x : Int} {l : Nat} (h0 : 0 ≤ x) (hx : x ≤ now) (h1 : now ≤ to) (h2 : to ≤ 1125899906842624) (hl : (l : Int) = num now x) : beg now to l := by
  rw [num_past h0 hx (by omega)] at hl
  have hd : ((l / 64 : Nat) : Int) = 0 := by omega
  have hm : ((l % 64 : Nat) : Int) = now % 64 := by omega
  refine Or.inl ⟨by omega, ?_, ?_⟩
  · rw [hd, hm]; unfold part; rw [if_pos (by omega), clamp_id now (by omega) (by omega)]; show now / 1 % 64 ≤ _; omega
  · rw [hd, hm, start_lv (by omega) (by omega) (by omega) (by omega) (by omega) (by omega), low_0]; show _ + now % 64 * 1 ≤ to; omega

/-- a wheel's lists and timers fit each other; X: the handles that stand in no list just now -/
structure Inv (now last : Int) (ls : Nat → List Int) (T : Int → Option Tm) (X : Int → Prop) : Prop where
  now0 : 0 ≤ now
  now1 : now ≤ 1125899906842624
  nums : ∀ h t, T h = some t → 1 ≤ h ∧ h ≤ last ∧ 0 ≤ t.at_ ∧ t.at_ ≤ 1125899906842624 ∧ t.list < 257 ∧ t.place < 4096
  pos : ∀ h t, T h = some t → ¬ X h → (ls t.list)[t.place]? = some h ∧ (t.list : Int) = num now t.at_
  back : ∀ l p h, l < 257 → (ls l)[p]? = some h → ¬ X h ∧ ∃ a, T h = some ⟨a, l, p⟩

section
variable {now last : Int} {ls : Nat → List Int} {T : Int → Option Tm} {X : Int → Prop}

theorem Inv.congr (I : Inv now last ls T X) {Y : Int → Prop} (h : ∀ x, Y x ↔ X x) : Inv now last ls T Y :=
  ⟨I.now0, I.now1, I.nums, fun x t hx hn => I.pos x t hx (fun c => hn ((h x).2 c)), fun l p x hl hx => ⟨fun c => (I.back l p x hl hx).1 ((h x).1 c), (I.back l p x hl hx).2⟩⟩

theorem Inv.list_nodup (I : Inv now last ls T X) {l : Nat} (hl : l < 257) : (ls l).Nodup := by
  rw [List.nodup_iff_pairwise_ne, List.pairwise_iff_getElem]
  intro i j hi hj hij e
  obtain ⟨_, a, ha⟩ := I.back l i _ hl (List.getElem?_eq_getElem hi)
  obtain ⟨_, b, hb⟩ := I.back l j _ hl (List.getElem?_eq_getElem hj)
  rw [e, hb] at ha
  have := congrArg Tm.place (Option.some.inj ha)
  simp at this; omega

theorem Inv.has (I : Inv now last ls T X) {l : Nat} (hl : l < 257) {h : Int} (hm : h ∈ ls l) : ¬ X h ∧ ∃ a p, T h = some ⟨a, l, p⟩ ∧ (ls l)[p]? = some h := by
  obtain ⟨p, hp⟩ := List.mem_iff_getElem?.1 hm
  obtain ⟨hx, a, ha⟩ := I.back l p h hl hp
  exact ⟨hx, a, p, ha, hp⟩

/-- a list is taken out -/
theorem Inv.empty (I : Inv now last ls T X) {l : Nat} (hl : l < 257) : Inv now last (upd ls l []) T (fun h => X h ∨ h ∈ ls l) := by
  refine ⟨I.now0, I.now1, I.nums, fun h t ht hx => ?_, fun l' p h hl' hp => ?_⟩
  · obtain ⟨h1, h2⟩ := I.pos h t ht (fun c => hx (Or.inl c))
    have hne : t.list ≠ l := fun e => hx (Or.inr (by rw [← e]; exact List.mem_of_getElem? h1))
    rw [upd_other _ _ hne]; exact ⟨h1, h2⟩
  · by_cases e : l' = l
    · subst e; rw [upd_same] at hp; simp at hp
    · rw [upd_other _ _ e] at hp
      obtain ⟨hx, a, ha⟩ := I.back l' p h hl' hp
      refine ⟨fun c => ?_, a, ha⟩
      rcases c with c | c
      · exact hx c
      · obtain ⟨_, b, q, hb, _⟩ := I.has hl c
        rw [ha] at hb
        exact e (congrArg Tm.list (Option.some.inj hb))

/-- a handle is laid into the list where its time stands -/
theorem Inv.lay (I : Inv now last ls T X) {l : Nat} {h a last' : Int} (hl : l < 257) (hn : (l : Int) = num now a) (h1 : 1 ≤ h) (h2 : h ≤ last') (hla : last ≤ last') (ha : 0 ≤ a) (ha2 : a ≤ 1125899906842624)
    (hfree : X h ∨ T h = none) (hlen : (ls l).length < 4096) : Inv now last' (upd ls l (ls l ++ [h])) (upd T h (some ⟨a, l, (ls l).length⟩)) (fun x => X x ∧ x ≠ h) := by
  refine ⟨I.now0, I.now1, fun g t ht => ?_, fun g t ht hx => ?_, fun l' p g hl' hp => ?_⟩
  · by_cases e : g = h
    · subst e; rw [upd_same] at ht; obtain rfl := Option.some.inj ht; exact ⟨h1, h2, ha, ha2, hl, hlen⟩
    · rw [upd_other _ _ e] at ht
      obtain ⟨n1, n2, n3, n4, n5, n6⟩ := I.nums g t ht
      exact ⟨n1, by omega, n3, n4, n5, n6⟩
  · by_cases e : g = h
    · subst e; rw [upd_same] at ht; obtain rfl := Option.some.inj ht
      refine ⟨?_, hn⟩
      show (upd ls l (ls l ++ [g]) l)[(ls l).length]? = some g
      rw [upd_same]; simp
    · rw [upd_other _ _ e] at ht
      obtain ⟨p1, p2⟩ := I.pos g t ht (fun c => hx ⟨c, e⟩)
      refine ⟨?_, p2⟩
      by_cases el : t.list = l
      · rw [el] at p1 ⊢; rw [upd_same, List.getElem?_append_left (List.getElem?_eq_some_iff.1 p1).1]; exact p1
      · rw [upd_other _ _ el]; exact p1
  · by_cases el : l' = l
    · subst el; rw [upd_same] at hp
      by_cases hpl : p < (ls l').length
      · rw [List.getElem?_append_left hpl] at hp
        obtain ⟨hx, b, hb⟩ := I.back l' p g hl' hp
        have hg : g ≠ h := by
          intro e; subst e
          rcases hfree with c | c
          · exact hx c
          · rw [c] at hb; cases hb
        exact ⟨fun c => hx c.1, b, by rw [upd_other _ _ hg]; exact hb⟩
      · rw [List.getElem?_append_right (by omega)] at hp
        have : p - (ls l').length = 0 := by
          rcases Nat.eq_zero_or_pos (p - (ls l').length) with c | c
          · exact c
          · rw [List.getElem?_eq_none (by simp; omega)] at hp; cases hp
        rw [this] at hp; simp at hp; subst hp
        refine ⟨fun c => c.2 rfl, a, ?_⟩
        rw [upd_same, show (ls l').length = p by omega]
    · rw [upd_other _ _ el] at hp
      obtain ⟨hx, b, hb⟩ := I.back l' p g hl' hp
      have hg : g ≠ h := by
        intro e; subst e
        rcases hfree with c | c
        · exact hx c
        · rw [c] at hb; cases hb
      exact ⟨fun c => hx c.1, b, by rw [upd_other _ _ hg]; exact hb⟩

/-- a handle that stands in no list goes -/
theorem Inv.drop (I : Inv now last ls T X) {h : Int} (hx : X h) : Inv now last ls (upd T h none) (fun x => X x ∧ x ≠ h) := by
  refine ⟨I.now0, I.now1, fun g t ht => ?_, fun g t ht hg => ?_, fun l p g hl hp => ?_⟩
  · by_cases e : g = h
    · subst e; rw [upd_same] at ht; cases ht
    · rw [upd_other _ _ e] at ht; exact I.nums g t ht
  · by_cases e : g = h
    · subst e; rw [upd_same] at ht; cases ht
    · rw [upd_other _ _ e] at ht; exact I.pos g t ht (fun c => hg ⟨c, e⟩)
  · obtain ⟨h1, a, ha⟩ := I.back l p g hl hp
    have e : g ≠ h := fun e => h1 (e ▸ hx)
    exact ⟨fun c => h1 c.1, a, by rw [upd_other _ _ e]; exact ha⟩

/-- one goes on: what stands in lists is where it was -/
theorem Inv.go (I : Inv now last ls T X) {to : Int} (h1 : now ≤ to) (h2 : to ≤ 1125899906842624) (hb : ∀ l, l < 257 → beg now to l → ls l = []) : Inv to last ls T X := by
  have := I.now0
  refine ⟨by omega, h2, I.nums, fun h t ht hx => ?_, I.back⟩
  obtain ⟨p1, p2⟩ := I.pos h t ht hx
  obtain ⟨_, _, n3, n4, n5, _⟩ := I.nums h t ht
  have hnb : ¬ beg now to t.list := fun c => by rw [hb _ n5 c] at p1; simp at p1
  refine ⟨p1, ?_⟩
  by_cases hc : t.at_ ≤ now
  · exact absurd (past_beg n3 hc h1 h2 p2) hnb
  · exact p2.trans (stays I.now0 h1 h2 (by omega) n4 p2 hnb).2.symm
theorem Inv.later (I : Inv now last ls T X) {to : Int} (h1 : now ≤ to) (h2 : to ≤ 1125899906842624) (hb : ∀ l, l < 257 → beg now to l → ls l = []) {h : Int} {t : Tm} (ht : T h = some t) (hx : ¬ X h) : to < t.at_ := by
  have := I.now0
  obtain ⟨p1, p2⟩ := I.pos h t ht hx
  obtain ⟨_, _, n3, n4, n5, _⟩ := I.nums h t ht
  have hnb : ¬ beg now to t.list := fun c => by rw [hb _ n5 c] at p1; simp at p1
  by_cases hc : t.at_ ≤ now
  · exact absurd (past_beg n3 hc h1 h2 p2) hnb
  · exact (stays I.now0 h1 h2 (by omega) n4 p2 hnb).1
end

end Go.Proofs.Ytckmkagijanbdaa.Wh
