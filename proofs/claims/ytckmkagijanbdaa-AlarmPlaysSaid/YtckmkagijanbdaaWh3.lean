/- Contracts of package wheel: a list taken out; all lists that begin taken out. -/
import Derived.Test.YtckmkagijanbdaaWh2
import Derived.Laws.AppendOwnNone
import Derived.Maps.AppendAt
namespace Go.Proofs.Ytckmkagijanbdaa.Wh
open Go.RowKit Tk Sl
open St (Kept)

def nilV : Value := .slice none 0 0
theorem row_nil (w : World) : Row w nilV [] := World.ownsRow_nil w 0 3 1

theorem hv_app (l m : List Int) : hv (l ++ m) = hv l ++ hv m := List.map_append
/-- 'append(v, u...)', both the call's own -/
theorem wpList_append_rows (w : World) {ops : Array Oper} {rest : List Oper} {o : Oper} {a : Act} {Q : Exit → Act → World → Prop} (hgd : o.guard = none) (s x : Operand)
    (ho : o.op = .call { callee := .builtin .append, args := #[s, x], argTypes := #[67, 67] }) (v u : Value) (H K : List Int) (hs : a.eval s = v) (hx : a.eval x = u) (hv' : Row w v H) (hu : Row w u K) (hn : H.length + K.length ≤ 1000000)
    (h : ∀ v2 w2, Row w2 v2 (H ++ K) → w.grownBy w2 v.ownBlock → (v2.ownBlock = v.ownBlock ∨ ∃ g, v2.ownBlock = some g ∧ w.heap.size ≤ g) → wpList Try.prog ops Q rest (a.put o.dst v2) w2) : wpList Try.prog ops Q (o :: rest) a w := by
  obtain ⟨i0, hi, hz0, hz1, hz2⟩ := info_parts info_int
  rcases hu.2 with ⟨hu1, hu2⟩ | ⟨g, cap, cur, hu1, _, hgg, h1, h2, h3, h4⟩
  · have hK : K = [] := List.length_eq_zero_iff.mp hu2
    subst hK
    rw [List.append_nil] at h
    exact wpList_append_own_none hgd s x 67 ho 0 3 i0 1 Try.underlying67 hi v H.length (hv H) hs hv' (hx.trans hu1) (h v w hv' ⟨rfl, rfl, rfl, Nat.le_refl _, fun _ _ _ => rfl⟩ (Or.inl rfl))
  · refine wpList_append_own_at w hgd s x 67 ho 0 3 i0 (.int .i64 0) 1 8 Try.underlying67 hi hz0 hz1 hz2 rfl (by decide) v H.length (hv H) hs hv' ⟨g, 0, none⟩ K.length cap (hv K) (hx.trans hu1) (by simp [hv]) ?_ ?_ ?_ ?_ (Nat.zero_le _) ?_
    · intro j y hj
      have e : (⟨g, 0, none⟩ : Addr).add j = ⟨g, j, none⟩ := by unfold Addr.add; split <;> simp_all
      rw [e, St.blk_cell hgg]
      have := take_get (l := cur.toList) (n := K.length * 1) h4 hj
      simpa using this
    · intro y hy
      obtain ⟨z, _, rfl⟩ := List.mem_map.1 hy
      rfl
    · unfold maxLen; omega
    · omega
    · intro v' w' r1 r2 _ r4
      refine h v' w' ?_ r2 (r4.imp id (fun c => ⟨_, c, Nat.le_refl _⟩))
      unfold Row; rw [List.length_append, hv_app]; exact r1

/-- 'append(v, x)', v the call's own -/
theorem wpList_append_one (wr : World) {ops : Array Oper} {rest : List Oper} {o : Oper} {a : Act} {Q : Exit → Act → World → Prop} (hgd : o.guard = none) (s y : Operand)
    (ho : o.op = .call { callee := .builtin .append, args := #[s, y], argTypes := #[67, 67] }) (v : Value) (H : List Int) (x : Int) (hs : a.eval s = v) (hy : a.eval y = .slice (some ⟨wr.heap.size, 0, none⟩) 1 1) (hv' : Row wr v H) (hn : H.length ≤ 1000000)
    (h : ∀ v2 w2, Row w2 v2 (H ++ [x]) → (wr.alloc (.cells #[.int .i64 x] 3)).grownBy w2 v.ownBlock → (v2.ownBlock = v.ownBlock ∨ ∃ g, v2.ownBlock = some g ∧ wr.heap.size ≤ g) → wpList Try.prog ops Q rest (a.put o.dst v2) w2) :
    wpList Try.prog ops Q (o :: rest) a (wr.alloc (.cells #[.int .i64 x] 3)) := by
  obtain ⟨i0, hi, hz0, hz1, hz2⟩ := info_parts info_int
  refine wpList_append_own_at _ hgd s y 67 ho 0 3 i0 (.int .i64 0) 1 8 Try.underlying67 hi hz0 hz1 hz2 rfl (by decide) v H.length (hv H) hs (World.ownsRow.alloc hv' _) ⟨wr.heap.size, 0, none⟩ 1 1 [.int .i64 x] hy rfl (cell_one _ _ _) (by intro u hu; simp at hu; subst hu; rfl) (by unfold maxLen; omega) (by omega) (Nat.zero_le _) ?_
  intro v' w' r1 r2 _ r4
  refine h v' w' ?_ r2 (r4.imp id (fun c => ⟨_, c, by simp⟩))
  unfold Row; rw [List.length_append, hv_app]; exact r1

section
variable {w wr : World} {S S' : Nat → Prop} {B M : Nat} {now last to : Int} {sv : Nat → Value} {ls : Nat → List Int} {T : Int → Option Tm} {n : Nat} {L : List (Int × Int)}

/-- what taking a list out does -/
def takes (w : World) (v : Value) (B l : Nat) : Ending → World → Prop := fun e w' => e = .returned v ∧ w.setCell ⟨B, 4 + l, none⟩ (.slice none 0 0) = w'
set_option maxHeartbeats 400000 in
theorem empty_any (h : Is w S B M now last sv ls T n) {a b : Int} {l : Nat} (ha : 0 ≤ a) (ha2 : a ≤ 4) (hb : 0 ≤ b) (hb2 : b ≤ 63) (hl : (l : Int) = a * 64 + b) (hl2 : l < 257) :
    Calls Try.prog 63 #[.pointer (some ⟨B, 0, none⟩), .int .i64 a, .int .i64 b] w (takes w (sv l) B l) := by
  have C := Lib.hid (fun w => number_any a b ha ha2 hb hb2 w)
  have C' : Hid (∀ w, Calls Try.prog 59 #[.int .i64 a, .int .i64 b] w fun e w' => e = .returned (.int .i64 (l : Int)) ∧ w = w') := Lib.hid (by rw [hl]; exact C.out)
  have cl := h.cl hl2
  have gl := h.free (4 + l)
  have hl3 : (l : Int) < 257 := by omega
  obtain ⟨v, hv⟩ : ∃ v, sv l = v := ⟨_, rfl⟩
  rw [hv] at cl ⊢
  clear hl C h hv
  go_enter Try.func63, Try.ntmps63
  go_wp2_with (go_at_call 59; refine (C'.out _).mono ?_; rintro e w' ⟨rfl, rfl⟩)
  go_ret
  exact ⟨rfl, rfl⟩

/-- what was gathered of a wheel: v holds the handles that were taken out; of the lists of 'done' those that begin are empty -/
def Gath (w : World) (S : Nat → Prop) (B M : Nat) (now last to : Int) (T : Int → Option Tm) (L : List (Int × Int)) (done : Nat → Prop) (v : Value) (wr : World) : Prop :=
  ∃ S' sv ls H, Is wr S' B M now last sv ls T L.length ∧ Inv now last ls T (fun h => h ∈ H) ∧ H.Nodup ∧ (∀ h ∈ H, T h ≠ none) ∧ Row wr v H ∧ (∀ g, v.ownBlock = some g → w.heap.size ≤ g ∧ ¬ S' g) ∧
    (∀ k, S' k → S k ∨ w.heap.size ≤ k) ∧ Fr S w wr ∧ ∀ l, l < 257 → done l → beg now to l → ls l = []

theorem Gath.weak {done don2 : Nat → Prop} {v : Value} (h : Gath w S B M now last to T L done v wr) (hd : ∀ l, l < 257 → don2 l → beg now to l → done l) : Gath w S B M now last to T L don2 v wr := by
  obtain ⟨S', sv, ls, H, h1, h2, h3, h4, h5, h6, h7, h8, h9⟩ := h
  exact ⟨S', sv, ls, H, h1, h2, h3, h4, h5, h6, h7, h8, fun l hl hd2 hb => h9 l hl (hd l hl hd2 hb) hb⟩
theorem Gath.kept {done : Nat → Prop} {v : Value} (h : Gath w S B M now last to T L done v wr) {w2 : World} (hk : Kept wr w2) : Gath w S B M now last to T L done v w2 := by
  obtain ⟨S', sv, ls, H, h1, h2, h3, h4, h5, h6, h7, h8, h9⟩ := h
  exact ⟨S', sv, ls, H, h1.kept hk, h2, h3, h4, h5.kept (fun g e => hk.block g (h5.lt e)), h6, h7, h8.then_kept hk, h9⟩

/-- a list more was taken out, and appended -/
theorem Gath.step {done : Nat → Prop} {v v2 : Value} {w2 : World} {H : List Int} {l : Nat} (h1 : Is wr S' B M now last sv ls T L.length) (h2 : Inv now last ls T (fun h => h ∈ H)) (h3 : H.Nodup) (h4 : ∀ h ∈ H, T h ≠ none) (_ : Row wr v H)
    (h6 : ∀ g, v.ownBlock = some g → w.heap.size ≤ g ∧ ¬ S' g) (h7 : ∀ k, S' k → S k ∨ w.heap.size ≤ k) (h8 : Fr S w wr) (h9 : ∀ l, l < 257 → done l → beg now to l → ls l = [])
    (hl : l < 257) (hr : Row w2 v2 (H ++ ls l)) (hg : (wr.setCell ⟨B, 4 + l, none⟩ (.slice none 0 0)).grownBy w2 v.ownBlock) (hb : v2.ownBlock = v.ownBlock ∨ ∃ g, v2.ownBlock = some g ∧ wr.heap.size ≤ g) :
    Gath w S B M now last to T L (fun k => done k ∨ k = l) v2 w2 := by
  have e1 := h1.setL hl (v := .slice none 0 0) (l' := []) (row_nil _) (fun g e => by simp [Value.ownBlock] at e)
  have hsub : ∀ k, (S' k ∨ (Value.slice none 0 0).ownBlock = some k) → S' k := fun k c => c.elim id (fun c => by simp [Value.ownBlock] at c)
  have hsz := h8.size
  refine ⟨S', _, _, H ++ ls l, ((e1.fr (S' := fun k => some k = v.ownBlock) ⟨hg.os, hg.tape, hg.output, hg.size, fun k hk hn => hg.block k hk hn⟩ (fun k hk e => (h6 k e.symm).2 (hsub k hk)))).more hsub (fun k c => by have := h1.sLt k c; have := hg.size; rw [size_set] at this; omega),
    (h2.empty hl).congr (fun x => by simp), ?_, fun h hm => ?_, hr, fun g e => ?_, h7, (h8.setCell (h7 _ h1.sB) _).grown hg (fun k e => Or.inr (h6 k e).1), fun k hk hd hbeg => ?_⟩
  · rw [List.nodup_append]
    exact ⟨h3, h2.list_nodup hl, fun a ha b hb e => by subst e; exact (h2.has hl hb).1 ha⟩
  · rcases List.mem_append.1 hm with c | c
    · exact h4 h c
    · obtain ⟨_, a, p, hp, _⟩ := h2.has hl c; rw [hp]; simp
  · rcases hb with c | ⟨g', c, hg'⟩
    · exact h6 g (c ▸ e)
    · rw [c] at e; obtain rfl := Option.some.inj e
      exact ⟨by omega, fun c => by have := h1.sLt _ c; omega⟩
  · by_cases c : k = l
    · subst c; exact upd_same _ _ _
    · rw [upd_other _ _ c]
      rcases hd with d | d
      · exact h9 k hk d hbeg
      · exact absurd d c
theorem start_as' {n l s F : Int} (h : Hid (Sl.start n l s = F)) (w : World) :
    Calls Try.prog 62 #[.int .i64 n, .int .i64 l, .int .i64 s] w fun e w' => e = .returned (.int .i64 F) ∧ Kept w w' := by
  have c := start_any n l s w
  rw [h.out] at c; exact c
theorem part_as' {t l F : Int} (h : Hid (Sl.part t l = F)) (w : World) :
    Calls Try.prog 61 #[.int .i64 t, .int .i64 l] w fun e w' => e = .returned (.int .i64 F) ∧ w = w' := by
  have c := part_any t l w
  rw [h.out] at c; exact c
theorem turn_as' {t F : Int} (h : Hid (turnAll t = F)) (w : World) :
    Calls Try.prog 64 #[.int .i64 t] w fun e w' => e = .returned (.int .i64 F) ∧ w = w' := by
  have c := turnAll_any t w
  rw [h.out] at c; exact c

theorem beg_low {now to q p : Int} {l : Nat} (hq0 : 0 ≤ q) (hq4 : q < 4) (hp : Sl.part now q = p) (hb : beg now to l) (h : (l : Int) < 64 * q + p) : (l : Int) < 64 * q := by
  rcases Int.lt_or_le (l : Int) (64 * q) with c | c
  · exact c
  · have hp2 := part_hi now q
    have hd : ((l / 64 : Nat) : Int) = q := by omega
    have hm : ((l % 64 : Nat) : Int) = l - 64 * q := by omega
    rcases hb with ⟨_, b, _⟩ | ⟨b, _⟩
    · rw [hd, hp] at b; omega
    · omega
theorem beg_high {now to q r : Int} {l : Nat} (h0 : 0 ≤ now) (h1 : now ≤ 1125899906842624) (hq0 : 0 ≤ q) (hq4 : q < 4) (hr0 : 0 ≤ r) (hr : 64 ≤ r ∨ to < Sl.start now q r) (hb : beg now to l) (h : (l : Int) < 64 * (q + 1)) : (l : Int) < 64 * q + r := by
  rcases Int.lt_or_le (l : Int) (64 * q + r) with c | c
  · exact c
  · rcases hr with hr | hr
    · omega
    · have hd : ((l / 64 : Nat) : Int) = q := by omega
      have hm : ((l % 64 : Nat) : Int) = l - 64 * q := by omega
      rcases hb with ⟨_, _, b⟩ | ⟨b, _⟩
      · rw [hd, hm] at b
        have := start_mono (n := now) (l := q) (s := r) (r := l - 64 * q) h0 h1 hq0 hq4 hr0 (by omega) (by omega)
        omega
      · omega

/-- the loops' state -/
def GathO (w : World) (S : Nat → Prop) (B M : Nat) (now last to : Int) (T : Int → Option Tm) (L : List (Int × Int)) (j : Int) (v : Value) (wr : World) : Prop :=
  Gath w S B M now last to T L (fun l => (l : Int) < j) v wr
/-- what a list more does -/
theorem GathO.open {done : Nat → Prop} {v : Value} (h : Gath w S B M now last to T L done v wr) (E : Ent L T) (hL : L.length ≤ 4096) {l : Nat} (hl : l < 257) :
    ∃ S' sv ls H, Is wr S' B M now last sv ls T L.length ∧ Row wr v H ∧ Row (wr.setCell ⟨B, 4 + l, none⟩ (.slice none 0 0)) v H ∧ Row (wr.setCell ⟨B, 4 + l, none⟩ (.slice none 0 0)) (sv l) (ls l) ∧ H.length + (ls l).length ≤ 1000000 ∧
      ∀ v2 w2, Row w2 v2 (H ++ ls l) → (wr.setCell ⟨B, 4 + l, none⟩ (.slice none 0 0)).grownBy w2 v.ownBlock → (v2.ownBlock = v.ownBlock ∨ ∃ g, v2.ownBlock = some g ∧ (wr.setCell ⟨B, 4 + l, none⟩ (.slice none 0 0)).heap.size ≤ g) →
        Gath w S B M now last to T L (fun k => done k ∨ k = l) v2 w2 := by
  obtain ⟨S', sv, ls, H, h1, h2, h3, h4, h5, h6, h7, h8, h9⟩ := h
  have hH : H.length ≤ L.length := E.count h3 h4
  have hK : (ls l).length ≤ L.length := E.count (h2.list_nodup hl) (fun x hx => by obtain ⟨_, b, p, hp, _⟩ := h2.has hl hx; rw [hp]; simp)
  have hvB : ∀ g, v.ownBlock = some g → g ≠ B := fun g e c => (h6 g e).2 (c ▸ h1.sB)
  refine ⟨S', sv, ls, H, h1, h5, h5.kept fun g e => Below.heap_setCell _ _ _ _ (hvB g e), (h1.row l hl).kept fun g e => Below.heap_setCell _ _ _ _ (h1.neg hl e).1, by omega, fun v2 w2 r1 r2 r3 => ?_⟩
  rw [size_set] at r3
  exact Gath.step h1 h2 h3 h4 h5 h6 h7 h8 h9 hl r1 r2 r3
def begunPost (w : World) (S : Nat → Prop) (B M : Nat) (now last to : Int) (T : Int → Option Tm) (L : List (Int × Int)) : Ending → World → Prop := fun e w' =>
  ∃ v, e = .returned v ∧ Gath w S B M now last to T L (fun _ => True) v w'

set_option maxHeartbeats 1000000 in
set_option maxRecDepth 100000 in
theorem begun_any (h : Is w S B M now last sv ls T L.length) (I : Inv now last ls T (fun _ => False)) (E : Ent L T) (hL : L.length ≤ 4096) (h0 : 0 ≤ now) (h1 : now ≤ 1125899906842624) (_ : 0 ≤ to) (_ : to ≤ 1125899906842624) :
    Calls Try.prog 49 #[.pointer (some ⟨B, 0, none⟩), .int .i64 to] w (begunPost w S B M now last to T L) := by
  have G0 : GathO w S B M now last to T L (64 * 0) (.slice none 0 0) w :=
    ⟨S, sv, ls, [], h, I.congr (fun x => by simp), List.nodup_nil, fun _ c => by simp at c, row_nil w, fun g e => by simp [Value.ownBlock] at e, fun k c => Or.inl c, Fr.refl _ _, fun l _ hd _ => by omega⟩
  clear h I
  go_enter Try.func49, Try.ntmps49
  go_wp2
  go_loopw [8, 5] (fun j v wr => ∃ q : Int, 0 ≤ q ∧ q ≤ 4 ∧ j = .int .i64 q ∧ GathO w S B M now last to T L (64 * q) v wr) (fun j _ _ => (4 - intOf j).toNat)
  case atStart => exact ⟨0, by omega, by omega, rfl, G0⟩
  case round =>
    obtain ⟨q, hq0, hq4, rfl, hG⟩ := hrel
    have k1 : wr.cell? ⟨B, 1, none⟩ = some (.int .i64 now) := by obtain ⟨S', sv, ls, H, h1, _⟩ := hG; exact h1.c1
    by_cases hlt : q < 4
    · obtain ⟨p, hp⟩ : ∃ p, Hid (Sl.part now q = p) := ⟨_, rfl⟩
      have hp0 : 0 ≤ p := by rw [← hp.out]; exact part_lo _ _
      have hp1 : p ≤ 64 := by rw [← hp.out]; have := part_hi now q; omega
      have G1 : ∀ v wr, GathO w S B M now last to T L (64 * q) v wr → GathO w S B M now last to T L (64 * q + p) v wr := fun v wr hG => Gath.weak hG (fun l _ hd hb => beg_low hq0 hlt hp.out hb hd)
      have G1 := Lib.hid G1
      have E1 : ∀ r v wr, 0 ≤ r → (64 ≤ r ∨ to < Sl.start now q r) → GathO w S B M now last to T L (64 * q + r) v wr → GathO w S B M now last to T L (64 * (q + 1)) v wr := fun r v wr hr0 hr hG => Gath.weak hG (fun l _ hd hb => beg_high h0 h1 hq0 hlt hr0 hr hb hd)
      have E1 := Lib.hid E1
      go_wp2_with (first | (go_at_call 61; refine (part_as' hp _).mono ?_; rintro e w' ⟨rfl, rfl⟩))
      clear k1
      go_loopw [7, 5] (fun p v wr => ∃ r : Int, 0 ≤ r ∧ r ≤ 64 ∧ p = .int .i64 r ∧ GathO w S B M now last to T L (64 * q + r) v wr) (fun p _ _ => (64 - intOf p).toNat)
      case atStart => exact ⟨p, hp0, hp1, rfl, G1.out _ _ hG⟩
      case round =>
        clear hG
        obtain ⟨r, hr0, hr1, rfl, hG⟩ := hrel
        have k1 : wr.cell? ⟨B, 1, none⟩ = some (.int .i64 now) := by obtain ⟨S', sv, ls, H, h1, _⟩ := hG; exact h1.c1
        obtain ⟨f, hf⟩ : ∃ f, Hid (Sl.start now q r = f) := ⟨_, rfl⟩
        by_cases hrl : r < 64
        · by_cases hft : f ≤ to
          · have hl : ∃ l : Nat, (l : Int) = q * 64 + r ∧ l < 257 := ⟨(q * 64 + r).toNat, by omega, by omega⟩
            obtain ⟨l, hl1, hl2⟩ := hl
            go_wp2_with fail
            refine (start_as' hf _).mono ?_
            rintro e w1 ⟨rfl, hk⟩
            have hG1 := hG.kept hk
            clear hG k1
            obtain ⟨S', sv', ls', H, hI, hr, hr2, hr3, hlen, FIN⟩ := GathO.open hG1 E hL hl2
            have C := Lib.hid (empty_any hI (a := q) (b := r) hq0 (by omega) hr0 (by omega) hl1 hl2)
            have FIN : ∀ v2 w2, Row w2 v2 (H ++ ls' l) → (w1.setCell ⟨B, 4 + l, none⟩ (.slice none 0 0)).grownBy w2 _ → _ → GathO w S B M now last to T L (64 * q + (r + 1)) v2 w2 := fun v2 w2 r1 r2 r3 =>
              Gath.weak (FIN v2 w2 r1 r2 r3) (fun k _ hd _ => by
                rcases Nat.lt_or_ge k l with c | c
                · exact Or.inl (by omega)
                · exact Or.inr (by omega))
            clear hI hG1 hl1 hr
            go_wp2_with fail
            refine C.out.mono ?_
            rintro e w2 ⟨rfl, hw2⟩
            rw [hw2] at hr2 hr3 FIN
            have FIN := Lib.hid FIN
            clear C hw2 hk
            go_wp2_with (at_builtin; refine wpList_append_rows _ rfl (.tmp 32) (.tmp 36) rfl _ _ _ _ rfl rfl hr2 hr3 hlen ?_; intro v3 w3 hr4 hg4 hb4)
            go_roundw
            case rel => exact ⟨r + 1, by omega, by omega, rfl, FIN.out _ _ hr4 hg4 hb4⟩
            case measure => simp [intOf]; omega
          · have HE := Lib.hid (E1.out r _ _ hr0 (Or.inr (by rw [hf.out]; omega)) hG)
            go_wp2_with (first | (go_at_call 62; refine (start_as' hf _).mono ?_; rintro e w' ⟨rfl, hk⟩))
            go_roundw
            case rel => exact ⟨q + 1, by omega, by omega, rfl, HE.out.kept hk⟩
            case measure => simp [intOf]; omega
        · have HE := Lib.hid (E1.out r _ _ hr0 (Or.inl (by omega)) hG)
          go_wp2
          go_roundw
          case rel => exact ⟨q + 1, by omega, by omega, rfl, HE.out⟩
          case measure => simp [intOf]; omega
    · have hq : q = 4 := by omega
      subst hq
      obtain ⟨t1, ht1⟩ : ∃ t, Hid (turnAll now = t) := ⟨_, rfl⟩
      obtain ⟨t2, ht2⟩ : ∃ t, Hid (turnAll to = t) := ⟨_, rfl⟩
      by_cases he : t1 = t2
      · have HE : Gath w S B M now last to T L (fun _ => True) _ wr := Gath.weak hG (fun l hl _ hb => by
          rcases hb with ⟨b, _⟩ | ⟨_, b⟩
          · omega
          · exact absurd (by rw [ht1.out, ht2.out]; exact he) b)
        have HE := Lib.hid HE
        have hb : (t1 == t2) = true := by simpa using he
        clear he hG
        go_wp2_with fail
        refine (turn_as' ht1 _).mono ?_; rintro e w' ⟨rfl, rfl⟩
        go_wp2_with fail
        refine (turn_as' ht2 _).mono ?_; rintro e w' ⟨rfl, rfl⟩
        go_wp2
        go_ret
        exact ⟨_, rfl, HE.out⟩
      · have hb : (t1 == t2) = false := by simpa using he
        obtain ⟨S', sv', ls', H, hI, hr, hr2, hr3, hlen, FIN⟩ := GathO.open hG E hL (show 256 < 257 by omega)
        have C := Lib.hid (empty_any hI (a := 4) (b := 0) (l := 256) (by omega) (by omega) (by omega) (by omega) (by omega) (by omega))
        have FIN : ∀ v2 w2, Row w2 v2 (H ++ ls' 256) → (wr.setCell ⟨B, 4 + 256, none⟩ (.slice none 0 0)).grownBy w2 _ → _ → Gath w S B M now last to T L (fun _ => True) v2 w2 := fun v2 w2 r1 r2 r3 =>
          Gath.weak (FIN v2 w2 r1 r2 r3) (fun k hk _ _ => by omega)
        clear hI hG hr he
        go_wp2_with fail
        refine (turn_as' ht1 _).mono ?_; rintro e w' ⟨rfl, rfl⟩
        go_wp2_with fail
        refine (turn_as' ht2 _).mono ?_; rintro e w' ⟨rfl, rfl⟩
        go_wp2_with fail
        refine C.out.mono ?_
        rintro e w2 ⟨rfl, hw2⟩
        rw [hw2] at hr2 hr3 FIN
        have FIN := Lib.hid FIN
        clear C hw2
        go_wp2_with (at_builtin; refine wpList_append_rows _ rfl (.tmp 47) (.tmp 49) rfl _ _ _ _ rfl rfl hr2 hr3 hlen ?_; intro v3 w3 hr4 hg4 hb4)
        go_ret
        exact ⟨_, rfl, FIN.out _ _ hr4 hg4 hb4⟩
end

end Go.Proofs.Ytckmkagijanbdaa.Wh
