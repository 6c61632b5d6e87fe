/- Contracts of package wheel: First, New. -/
import Derived.Test.YtffhjdkhmggakaaWh2
import Derived.Lib.MinMax
namespace Go.Proofs.Ytffhjdkhmggakaa.Wh
open Go.RowKit Tk Sl
open St (Kept)

theorem lev_gt {n x i : Int} (h0 : 0 ≤ i) (h : i < lev n x) : low n i ≠ low x i := by
  intro e
  have h4 := lev_hi n x
  unfold lev at h
  rcases (show i = 0 ∨ i = 1 ∨ i = 2 ∨ i = 3 by omega) with rfl | rfl | rfl | rfl <;> (repeat (split at h)) <;> first | omega | contradiction
theorem lev_eq {n x i : Int} (h : lev n x = i) (h4 : i < 4) : low n i = low x i := by
  rcases lev_cases n x with e | e | e | e | e
  · have := lev_0 e; rw [← h, e]; exact this
  · have := lev_1 e; rw [← h, e]; exact this.2
  · have := lev_2 e; rw [← h, e]; exact this.2
  · have := lev_3 e; rw [← h, e]; exact this.2
  · omega

theorem low_up {n y i : Int} (h0 : 0 ≤ i) (h4 : i < 4) (h : n ≤ y) (hne : low n i ≠ low y i) {x : Int} (he : low n i = low x i) : x < y := by
  rcases (show i = 0 ∨ i = 1 ∨ i = 2 ∨ i = 3 by omega) with rfl | rfl | rfl | rfl
  · rw [low_0, low_0] at *; omega
  · rw [low_1, low_1] at *; omega
  · rw [low_2, low_2] at *; omega
  · rw [low_3, low_3] at *; omega

/-- A LIST THAT STANDS BEHIND HAS LATER TIMES ALONE -/
theorem num_mono {now x y : Int} (h0 : 0 ≤ now) (h1 : now ≤ 1125899906842624) (hx : 0 ≤ x) (hx1 : x ≤ 1125899906842624) (hy : 0 ≤ y) (hy1 : y ≤ 1125899906842624) (h : num now x < num now y) : x ≤ y := by
  by_cases cx : x ≤ now
  · by_cases cy : y ≤ now
    · rw [num_past hx cx h1, num_past hy cy h1] at h; omega
    · omega
  · have ex := num_come h0 (by omega) hx1
    have hp0 := part_lo x (lev now x)
    have hl0 := lev_lo now x
    by_cases cy : y ≤ now
    · exfalso
      rw [ex, num_past hy cy h1] at h
      have hl : lev now x = 0 := by omega
      have h2 := lev_0 hl
      rw [hl] at h
      unfold Sl.part at h
      rw [if_pos (by omega), clamp_id x hx hx1] at h
      have h : 0 * 64 + x / 1 % 64 < now % 64 := h
      omega
    · have ey := num_come h0 (by omega) hy1
      rw [ex, ey] at h
      have hp1 := part_hi x (lev now x)
      have hq0 := part_lo y (lev now y)
      have hq1 := part_hi y (lev now y)
      have hl1 := lev_hi now y
      by_cases c : lev now x < lev now y
      · have := low_up hl0 (by omega) (by omega : now ≤ y) (lev_gt hl0 c) (lev_eq rfl (by omega))
        omega
      · have e : lev now x = lev now y := by omega
        by_cases c4 : lev now y = 4
        · rw [e, c4] at h
          have z1 : Sl.part x 4 = 0 := if_neg (by omega)
          have z2 : Sl.part y 4 = 0 := if_neg (by omega)
          omega
        · have m1 := lev_eq (n := now) (x := x) e (by omega)
          have m2 := lev_eq (n := now) (x := y) rfl (by omega)
          rw [e] at h hl0
          generalize lev now y = l at *
          have h : Sl.part x l < Sl.part y l := by omega
          unfold Sl.part at h
          rw [if_pos ⟨hl0, by omega⟩, if_pos ⟨hl0, by omega⟩, clamp_id x hx hx1, clamp_id y hy hy1] at h
          rcases (show l = 0 ∨ l = 1 ∨ l = 2 ∨ l = 3 by omega) with rfl | rfl | rfl | rfl
          · have h : x / 1 % 64 < y / 1 % 64 := h
            rw [low_0, low_0] at m1 m2; omega
          · have h : x / 64 % 64 < y / 64 % 64 := h
            rw [low_1, low_1] at m1 m2; omega
          · have h : x / 4096 % 64 < y / 4096 % 64 := h
            rw [low_2, low_2] at m1 m2; omega
          · have h : x / 262144 % 64 < y / 262144 % 64 := h
            rw [low_3, low_3] at m1 m2; omega

/-- the earliest time -/
def fst : List (Int × Int) → Int
  | [] => 0
  | e :: _ => e.1
/-- the least time of some handles -/
def least (T : Int → Option Tm) (l : List Int) : Int := l.foldl (fun m h => min m (tat T h)) 1125899906842624
theorem foldl_min (T : Int → Option Tm) : ∀ (l : List Int) (m : Int), (l.foldl (fun m h => min m (tat T h)) m ≤ m) ∧ (∀ h ∈ l, l.foldl (fun m h => min m (tat T h)) m ≤ tat T h) ∧ (l.foldl (fun m h => min m (tat T h)) m = m ∨ ∃ h ∈ l, l.foldl (fun m h => min m (tat T h)) m = tat T h)
  | [], m => ⟨Int.le_refl _, fun h c => by simp at c, Or.inl rfl⟩
  | x :: l, m => by
    obtain ⟨h1, h2, h3⟩ := foldl_min T l (min m (tat T x))
    simp only [List.foldl_cons]
    refine ⟨by omega, fun h c => ?_, ?_⟩
    · rcases List.mem_cons.1 c with rfl | c
      · omega
      · exact h2 h c
    · rcases h3 with h3 | ⟨h, c, h3⟩
      · by_cases d : m ≤ tat T x
        · exact Or.inl (by omega)
        · exact Or.inr ⟨x, by simp, by omega⟩
      · exact Or.inr ⟨h, by simp [c], h3⟩
theorem least_is {T : Int → Option Tm} {l : List Int} {a : Int} (h1 : ∀ h ∈ l, a ≤ tat T h) (h2 : ∃ h ∈ l, tat T h = a) (ha : a ≤ 1125899906842624) : least T l = a := by
  obtain ⟨k1, k2, k3⟩ := foldl_min T l 1125899906842624
  obtain ⟨h, hm, he⟩ := h2
  have := k2 h hm
  unfold least
  rcases k3 with k3 | ⟨g, gm, k3⟩
  · omega
  · have := h1 g gm; omega
theorem least_snoc (T : Int → Option Tm) (l : List Int) (x : Int) : least T (l ++ [x]) = min (least T l) (tat T x) := by unfold least; rw [List.foldl_append]; rfl

section
variable {w w' : World} {S : Nat → Prop} {B M : Nat} {now last : Int} {sv : Nat → Value} {ls : Nat → List Int} {T : Int → Option Tm} {n : Nat} {L : List (Int × Int)}

/-- of the first list that has a handle the least time is the earliest one -/
theorem first_is (I : Inv now last ls T fun _ => False) (E : Ent L T) (hne : L ≠ []) {k : Nat} (hk : k < 257) (hlow : ∀ j, j < k → ls j = []) (hls : ls k ≠ []) : least T (ls k) = fst L := by
  obtain ⟨⟨a0, h0⟩, L', rfl⟩ : ∃ e L', L = e :: L' := by cases L with
    | nil => exact absurd rfl hne
    | cons e L' => exact ⟨e, L', rfl⟩
  obtain ⟨t0, ht0, hat⟩ := (E.mem a0 h0).1 (by simp)
  have hmin : ∀ h t, T h = some t → a0 ≤ t.at_ := fun h t ht => by
    have := (E.mem t.at_ h).2 ⟨t, ht, rfl⟩
    rcases List.mem_cons.1 this with c | c
    · have := congrArg Prod.fst c; simp only at this; omega
    · have := (List.pairwise_cons.1 E.ord).1 _ c
      unfold lt2 at this; simp only at this; omega
  obtain ⟨_, _, n3, n4, n5, _⟩ := I.nums h0 t0 ht0
  obtain ⟨p1, p2⟩ := I.pos h0 t0 ht0 (fun c => c)
  have hmem : ∀ h ∈ ls k, ∃ t, T h = some t ∧ (k : Int) = num now t.at_ ∧ 0 ≤ t.at_ ∧ t.at_ ≤ 1125899906842624 := fun h hh => by
    obtain ⟨_, a, p, hp, _⟩ := I.has hk hh
    obtain ⟨_, _, m3, m4, _⟩ := I.nums h _ hp
    exact ⟨_, hp, (I.pos h _ hp (fun c => c)).2, m3, m4⟩
  show least T (ls k) = a0
  refine least_is (fun h hh => by obtain ⟨t, ht, _⟩ := hmem h hh; rw [tat_some ht]; exact hmin h t ht) ?_ (by omega)
  by_cases c : t0.list = k
  · exact ⟨h0, by rw [← c]; exact List.mem_of_getElem? p1, by rw [tat_some ht0]; exact hat⟩
  · have hgt : k < t0.list := by
      rcases Nat.lt_or_ge t0.list k with d | d
      · rw [hlow _ d] at p1; simp at p1
      · omega
    obtain ⟨h, hh⟩ := List.exists_mem_of_ne_nil _ hls
    obtain ⟨t, ht, hnum, m3, m4⟩ := hmem h hh
    have := num_mono I.now0 I.now1 m3 m4 n3 n4 (by omega : num now t.at_ < num now t0.at_)
    have := hmin h t ht
    exact ⟨h, hh, by rw [tat_some ht]; omega⟩
theorem some_list (I : Inv now last ls T fun _ => False) (E : Ent L T) (hne : L ≠ []) : ∃ k, k < 257 ∧ ls k ≠ [] := by
  obtain ⟨⟨a0, h0⟩, L', rfl⟩ : ∃ e L', L = e :: L' := by cases L with
    | nil => exact absurd rfl hne
    | cons e L' => exact ⟨e, L', rfl⟩
  obtain ⟨t0, ht0, _⟩ := (E.mem a0 h0).1 (by simp)
  obtain ⟨p1, _⟩ := I.pos h0 t0 ht0 (fun c => c)
  exact ⟨t0.list, (I.nums h0 t0 ht0).2.2.2.2.1, fun c => by rw [c] at p1; simp at p1⟩

/-- what First does -/
def firsts (w : World) (L : List (Int × Int)) : Ending → World → Prop := fun e w' => e = .returned (.tuple #[.int .i64 (fst L), .bool (!L.isEmpty)]) ∧ w = w'
set_option maxHeartbeats 400000 in
theorem first_none (h : Whl w S B now last []) : Calls Try.prog 14 #[.pointer (some ⟨B, 0, none⟩)] w (firsts w []) := by
  have C := Lib.hid (wlen_any h)
  clear h
  go_enter Try.func14, Try.ntmps14
  go_wp2_with (go_at_call 13; refine C.out.mono ?_; rintro e w' ⟨rfl, rfl⟩)
  go_ret2
  exact ⟨rfl, rfl⟩

set_option maxHeartbeats 1600000 in
set_option maxRecDepth 100000 in
theorem first_some (h : Whl w S B now last L) (hne : L ≠ []) : Calls Try.prog 14 #[.pointer (some ⟨B, 0, none⟩)] w (firsts w L) := by
  have C := wlen_any h
  obtain ⟨M, sv, ls, T, h1, I, E, l0, l1, hL⟩ := h
  obtain ⟨q, hq⟩ : ∃ q : Int, (L.length : Int) = q := ⟨_, rfl⟩
  have hq0 : (q == 0) = false := by have := List.length_pos_iff.2 hne; simp; omega
  rw [hq] at C
  have C := Lib.hid C
  have HI := Lib.hid I
  have HE := Lib.hid E
  have HNE := Lib.hid hne
  have H1 := Lib.hid h1
  have c3 := h1.c3
  have hfin : firsts w L (.returned (.tuple #[.int .i64 (fst L), .bool true])) w := ⟨by cases L with
    | nil => exact absurd rfl hne
    | cons e L' => rfl, rfl⟩
  have HF := Lib.hid hfin
  clear h1 I E hq hne hfin
  go_enter Try.func14, Try.ntmps14
  go_wp2_with (go_at_call 13; refine C.out.mono ?_; rintro e w' ⟨rfl, rfl⟩)
  go_loop [17, 4] (fun i f => ∃ k : Nat, k ≤ 257 ∧ i = .int .i64 (k : Int) ∧ f = .int .i64 1125899906842624 ∧ ∀ j, j < k → ls j = []) (fun i _ => 257 - (intOf i).toNat)
  case atStart => exact ⟨0, by omega, rfl, rfl, fun j c => by omega⟩
  case round =>
    obtain ⟨k, hk, rfl, rfl, hlow⟩ := hrel
    have HLow := Lib.hid hlow
    by_cases hlt : k < 257
    · have cl := H1.out.cl hlt
      have hrow := H1.out.row k hlt
      by_cases hls : ls k = []
      · obtain ⟨v, hv'⟩ : ∃ v, sv k = v := ⟨_, rfl⟩
        rw [hls, hv'] at hrow
        rw [hv'] at cl
        have hlen := fun ty u => hrow.len ty u
        have HK := Lib.hid hls
        clear hrow hls hlow hv'
        go_wp2_with fail
        refine wp_loop_rounds 1 ?_
        rw [rounds_succ]
        go_wp2_with fail
        go_round
        case rel => exact ⟨k + 1, by omega, by go_num, rfl, fun j c => by
          rcases Nat.lt_or_ge j k with d | d
          · exact HLow.out j d
          · rw [show j = k by omega]; exact HK.out⟩
        case measure => simp [intOf]; omega
      · obtain ⟨g, cap, cur, e1, e2, e3, e4, e5, e6⟩ := hrow.full hls
        rw [e1] at cl
        have hcell : ∀ i x, (ls k)[i]? = some x → w.cell? ⟨g, i, none⟩ = some (.int .i64 x) := fun i x hx => by
          rw [St.blk_cell e2]; have := take_get e6 (hv_at hx); simpa using this
        have hlook : ∀ x, x ∈ ls k → ∃ b c : Int, (Instr.lookup 53 (.map (some M)) (.int .i64 x) false).run Try.prog w = .ok (.agg #[.int .i64 (tat T x), .int .i64 b, .int .i64 c]) w := fun x hx => by
          obtain ⟨_, a, p, hp, _⟩ := HI.out.has hlt hx
          obtain ⟨n1, n2, _⟩ := HI.out.nums x _ hp
          have hl := H1.out.map.look (inR_of (by omega) (by omega : x < 9223372036854775808))
          rw [hp] at hl
          exact ⟨_, _, by rw [tat_some hp]; exact hl⟩
        have hlb : (ls k).length ≤ 4096 := Nat.le_trans (HE.out.count (HI.out.list_nodup hlt) (fun x hx => by obtain ⟨_, b, p, hp, _⟩ := HI.out.has hlt hx; rw [hp]; simp)) hL
        have HC := Lib.hid hcell
        have HLk := Lib.hid hlook
        have HEnd := Lib.hid (first_is HI.out HE.out HNE.out hlt hlow hls)
        have hpos : 0 < (ls k).length := List.length_pos_iff.2 hls
        clear hcell hlook hlow hls hrow e1 e2 e6 e5
        go_wp2_with fail
        go_loop [23, 4] (fun i f => ∃ j : Nat, j ≤ (ls k).length ∧ i = .int .i64 (j : Int) ∧ f = .int .i64 (least T ((ls k).take j))) (fun i _ => (ls k).length - (intOf i).toNat)
        case atStart => exact ⟨0, Nat.zero_le _, rfl, rfl⟩
        case round =>
          obtain ⟨j, hj, rfl, rfl⟩ := hrel
          by_cases hjl : j < (ls k).length
          · obtain ⟨x, hx⟩ : ∃ x, (ls k)[j]? = some x := ⟨_, List.getElem?_eq_getElem hjl⟩
            obtain ⟨b, c, hl⟩ := HLk.out x (List.mem_of_getElem? hx)
            have hce := HC.out j x hx
            obtain ⟨ta, hta⟩ : ∃ a, tat T x = a := ⟨_, rfl⟩
            obtain ⟨m, hm⟩ : ∃ a, least T ((ls k).take j) = a := ⟨_, rfl⟩
            have HS : Hid (least T ((ls k).take (j + 1)) = min m ta) := by
              show _ = _
              rw [List.take_add_one, hx]
              show least T ((ls k).take j ++ [x]) = _
              rw [least_snoc, hm, hta]
            rw [hta] at hl
            rw [hm]
            have q6 := field_0 ta b c w
            clear hm hta hx
            go_wp2_with fail
            go_round
            case rel => exact ⟨j + 1, hjl, by go_num, by rw [HS.out]⟩
            case measure => simp [intOf]; omega
          · have hje : j = (ls k).length := by omega
            subst hje
            have HV : Hid (least T ((ls k).take (ls k).length) = fst L) := by show _ = _; rw [List.take_length]; exact HEnd.out
            rw [HV.out]
            clear hjl
            go_wp2_with fail
            go_ret2
            exact HF.out
    · exfalso
      obtain ⟨j, hj, hne⟩ := some_list HI.out HE.out HNE.out
      exact hne (hlow j (by omega))
end

end Go.Proofs.Ytffhjdkhmggakaa.Wh
