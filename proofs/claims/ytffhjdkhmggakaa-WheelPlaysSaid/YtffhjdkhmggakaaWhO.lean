/- The law 'what is cancelled is never told' walked. -/
import Derived.Test.YtffhjdkhmggakaaWhN
namespace Go.Proofs.Ytffhjdkhmggakaa.Wh
open Go.RowKit Tk Sl
open St (Kept)
open Args (Ints)

section
variable {w : World}
/-! ### a nil wheel -/
set_option maxHeartbeats 400000 in
theorem nil_add (a : Int) (w : World) : Calls Try.prog 16 #[.pointer none, .int .i64 a] w fun e w' => e = .returned (.tuple #[.int .i64 0, .int .i64 1]) ∧ w = w' := by
  go_enter Try.func16, Try.ntmps16
  go_wp2_with (go_at_call 28; refine (made_nil _).mono ?_; rintro e w' ⟨rfl, rfl⟩)
  go_ret2
  exact ⟨rfl, rfl⟩
set_option maxHeartbeats 400000 in
theorem nil_time (a : Int) (w : World) : Calls Try.prog 20 #[.pointer none, .int .i64 a] w fun e w' => e = .returned (.tuple #[.int .i64 0, .bool false]) ∧ w = w' := by
  go_enter Try.func20, Try.ntmps20
  go_wp2_with (go_at_call 28; refine (made_nil _).mono ?_; rintro e w' ⟨rfl, rfl⟩)
  go_ret2
  exact ⟨rfl, rfl⟩
set_option maxHeartbeats 400000 in
theorem nil_len (w : World) : Calls Try.prog 13 #[.pointer none] w fun e w' => e = .returned (.int .i64 0) ∧ w = w' := by
  go_enter Try.func13, Try.ntmps13
  go_wp2_with (go_at_call 28; refine (made_nil _).mono ?_; rintro e w' ⟨rfl, rfl⟩)
  go_ret
  exact ⟨rfl, rfl⟩
set_option maxHeartbeats 400000 in
theorem nil_now (w : World) : Calls Try.prog 12 #[.pointer none] w fun e w' => e = .returned (.int .i64 0) ∧ w = w' := by
  go_enter Try.func12, Try.ntmps12
  go_wp2_with (go_at_call 28; refine (made_nil _).mono ?_; rintro e w' ⟨rfl, rfl⟩)
  go_ret
  exact ⟨rfl, rfl⟩
set_option maxHeartbeats 400000 in
theorem nil_first (w : World) : Calls Try.prog 14 #[.pointer none] w fun e w' => e = .returned (.tuple #[.int .i64 0, .bool false]) ∧ w = w' := by
  go_enter Try.func14, Try.ntmps14
  go_wp2_with (go_at_call 13; refine (nil_len _).mono ?_; rintro e w' ⟨rfl, rfl⟩)
  go_ret2
  exact ⟨rfl, rfl⟩
set_option maxHeartbeats 400000 in
theorem nil_cancel (a : Int) (w : World) : Calls Try.prog 19 #[.pointer none, .int .i64 a] w fun e w' => e = .returned (.bool false) ∧ w = w' := by
  go_enter Try.func19, Try.ntmps19
  go_wp2_with (go_at_call 28; refine (made_nil _).mono ?_; rintro e w' ⟨rfl, rfl⟩)
  go_ret
  exact ⟨rfl, rfl⟩
set_option maxHeartbeats 400000 in
theorem nil_advance (a : Int) (w : World) : Calls Try.prog 17 #[.pointer none, .int .i64 a] w fun e w' => e = .returned (.slice none 0 0) ∧ w = w' := by
  go_enter Try.func17, Try.ntmps17
  go_wp2_with (go_at_call 28; refine (made_nil _).mono ?_; rintro e w' ⟨rfl, rfl⟩)
  go_ret
  exact ⟨rfl, rfl⟩
end

theorem dec_snoc (l : List Int) (x y : Int) : decide (x ∈ l ++ [y]) = (decide (x ∈ l) || (y == x)) := by
  by_cases h : x ∈ l
  · simp [h]
  · by_cases e : y = x
    · subst e; simp
    · have e' : x ≠ y := fun c => e c.symm
      simp [h, e, e']
/-- a place of a list, by a number that may be any -/
theorem place_of (k q : Int) (hq : 0 < q) : -q < k.tmod q ∧ k.tmod q < q := by
  have h1 := Int.tmod_lt_of_pos k hq
  have h2 := Int.lt_tmod_of_pos k hq
  exact ⟨h2, h1⟩

section
variable {w0 w w' : World} {S : Nat → Prop} {B : Nat} {now last to : Int} {L : List (Int × Int)}
theorem tim_del (x : Int) (L : List (Int × Int)) : tim x (del x L) = none := by
  unfold tim del
  have : (L.filter fun e => decide (e.2 ≠ x)).find? (fun e => decide (e.2 = x)) = none := by
    rw [List.find?_eq_none]
    intro e he
    have := (List.mem_filter.1 he).2
    simpa using this
  rw [this]; rfl
/-- cancelling what is there, or what is not -/
theorem cancel_any (h : Whl w S B now last L) {x : Int} (hx : inR x) : Calls Try.prog 19 #[.pointer (some ⟨B, 0, none⟩), .int .i64 x] w (cancels w S B now last L x) := by
  cases ht : tim x L with
  | none => exact cancel_none h hx ht
  | some a => exact cancel_some h hx ht

/-- going on, in a law -/
def tells (w0 : World) (B : Nat) (last : Int) (L : List (Int × Int)) (to : Int) : Ending → World → Prop := fun e w' =>
  ∃ v, e = .returned v ∧ Row w' v ((due to L).map Prod.snd) ∧ Lw w0 B to last (rest to L) w'
theorem tell_any (h : Whl w S B now last L) (a : Acc w0 S w) (n : Int) (hto : max now (clamp n) = to) : Calls Try.prog 17 #[.pointer (some ⟨B, 0, none⟩), .int .i64 n] w (tells w0 B last L to) :=
  (advance_any h n hto).mono fun _ _ ⟨v, S', he, hr, hw, hs, hf, _⟩ => ⟨v, he, hr, S', hw, a.step hf hs⟩
/-- cancelling twice -/
theorem drop_any (h : Whl w S B now last L) (a : Acc w0 S w) {x : Int} (hx : inR x) : Calls Try.prog 19 #[.pointer (some ⟨B, 0, none⟩), .int .i64 x] w fun e w' => e = .returned (.bool (tim x L).isSome) ∧ Lw w0 B now last (del x L) w' :=
  (cancel_any h hx).mono fun _ _ hp => ⟨hp.1, Lw.step h a hp.2⟩
theorem due_mem {to x : Int} {L : List (Int × Int)} (h : x ∈ (due to L).map Prod.snd) : ∃ a, (a, x) ∈ L ∧ a ≤ to := by
  obtain ⟨⟨a, y⟩, hy, rfl⟩ := List.mem_map.1 h
  obtain ⟨h1, h2⟩ := List.mem_filter.1 hy
  exact ⟨a, h1, by simpa using h2⟩
theorem due_not_del {to x : Int} {L : List (Int × Int)} : x ∉ (due to (del x L)).map Prod.snd := fun h => by
  obtain ⟨a, ha, _⟩ := due_mem h
  have := (List.mem_filter.1 ha).2
  simp at this
/-- a handle was told, or it is still there -/
theorem told_or (h : Whl w S B now last L) {x a : Int} (hx : (a, x) ∈ L) : (tim x (rest to L)).isSome = !decide (x ∈ (due to L).map Prod.snd) := by
  have ht : tim x L = some a := (h.tim_iff _ _).2 hx
  have huniq : ∀ b, (b, x) ∈ L → b = a := fun b hb => by
    have := (h.tim_iff _ _).2 hb; rw [ht] at this; exact (Option.some.inj this).symm
  by_cases c : a ≤ to
  · have h1 : x ∈ (due to L).map Prod.snd := List.mem_map.2 ⟨(a, x), List.mem_filter.2 ⟨hx, by simpa using c⟩, rfl⟩
    have h2 : tim x (rest to L) = none := by
      unfold tim
      have : (rest to L).find? (fun e => decide (e.2 = x)) = none := by
        rw [List.find?_eq_none]
        rintro ⟨b, y⟩ he
        obtain ⟨m1, m2⟩ := List.mem_filter.1 he
        simp only [decide_eq_true_eq] at m2 ⊢
        intro e; subst e
        have := huniq b m1; omega
      rw [this]; rfl
    rw [h2, decide_eq_true h1]; rfl
  · have h1 : ¬ x ∈ (due to L).map Prod.snd := fun h => by
      obtain ⟨b, hb, hle⟩ := due_mem h
      have := huniq b hb; omega
    have h2 : (tim x (rest to L)).isSome = true := by
      unfold tim
      cases hf : (rest to L).find? (fun e => decide (e.2 = x)) with
      | some e => rfl
      | none =>
        rw [List.find?_eq_none] at hf
        exact absurd (by simp) (hf (a, x) (List.mem_filter.2 ⟨hx, by simp; omega⟩))
    rw [h2, decide_eq_false h1]; rfl
end

section
variable {W : World} {v : Value} {len : Nat} {F : Nat → Int}
set_option maxHeartbeats 4000000 in
set_option maxRecDepth 100000 in
theorem wcancels_any (now k mid to : Int) (hI : Ints W v len F) : Calls Try.prog 6 #[.int .i64 now, v, .int .i64 k, .int .i64 mid, .int .i64 to] W fun e w' => e = .returned (.bool true) ∧ Kept W w' := by
  have hlen := fun ty u => ints_len hI ty u
  obtain ⟨q, hq⟩ : ∃ q : Int, (len : Int) = q := ⟨_, rfl⟩
  by_cases h0 : len = 0
  · have hlen : ∀ ty u, (Builtin.len_ #[40] ty #[v]).run Try.prog u = .ok (.int .i64 0) u := fun ty u => by rw [hlen ty u, h0]; rfl
    clear hI hq
    go_enter Try.func6, Try.ntmps6
    go_wp2_with (go_at_call 15; refine (awake_any _).mono ?_; rintro e w' ⟨rfl, hk⟩)
    go_ret
    exact ⟨rfl, hk⟩
  · rw [hq] at hlen
    have hq0 : (q == 0) = false := by simp; omega
    by_cases h1 : 100 < q
    · clear hI hq
      go_enter Try.func6, Try.ntmps6
      go_wp2_with (go_at_call 15; refine (awake_any _).mono ?_; rintro e w' ⟨rfl, hk⟩)
      go_ret
      exact ⟨rfl, hk⟩
    · have hl100 : len ≤ 100 := by omega
      have HI := Lib.hid hI
      have HQ := Lib.hid hq
      have hq1 : 0 < q := by omega
      have hpl := place_of k q hq1
      obtain ⟨r, hr⟩ : ∃ r, k.tmod q = r := ⟨_, rfl⟩
      rw [hr] at hpl
      obtain ⟨A, hA0, hAq, hcase⟩ : ∃ A, 0 ≤ A ∧ A < q ∧ ((0 ≤ r ∧ r = A) ∨ (r < 0 ∧ -r = A)) := by
        by_cases c : r < 0
        · exact ⟨-r, by omega, by omega, Or.inr ⟨c, rfl⟩⟩
        · exact ⟨r, by omega, by omega, Or.inl ⟨by omega, rfl⟩⟩
      have HR : Hid (∃ i : Nat, i < len ∧ A = (i : Int)) := ⟨A.toNat, by omega, by omega⟩
      obtain ⟨x, hx⟩ : ∃ x : Int, A + 1 = x := ⟨_, rfl⟩
      clear hI hq h0
      rcases hcase with ⟨hs, hA⟩ | ⟨hs, hA⟩
      all_goals
        go_enter Try.func6, Try.ntmps6
        go_wp2_with fail
        refine (new_any now).mono ?_
        rintro e w1 ⟨S1, B, rfl, g1, s1, k1⟩
        have G1 := Lib.hid (show Lw W B (clamp now) ((0 : Nat) : Int) (laidN F 0) w1 from ⟨S1, g1, k1, s1⟩)
        clear g1 s1 k1
        go_wp2_with fail
        clear hA hs hpl hr
        go_loopw [13] (fun i wr => ∃ k : Nat, k ≤ len ∧ i = .int .i64 (k : Int) ∧ Lw W B (clamp now) (k : Int) (laidN F k) wr) (fun i _ => len - (intOf i).toNat)
        case atStart => exact ⟨0, Nat.zero_le _, rfl, G1.out⟩
        case round =>
          obtain ⟨n, hk, rfl, S2, h2, A2⟩ := hrel
          have hlenk := laidN_length F n
          by_cases hlt : n < len
          · have hltq : (n : Int) < q := by have := HQ.out; omega
            obtain ⟨b, off, cap, hv1, hcell⟩ := ints_at HI.out hlt
            have hc1 := hcell n hlt _ A2.kept
            obtain ⟨f, hf⟩ : ∃ f, F n = f := ⟨_, rfl⟩
            rw [hf] at hc1
            have C := Lib.hid ((add_room h2 (by omega) (by omega) f).mono (fun e w' hp => show e = .returned (.tuple #[.int .i64 ((n : Int) + 1), .int .i64 0]) ∧ Lw W B (clamp now) ((n + 1 : Nat) : Int) (laidN F (n + 1)) w' from ⟨hp.1, by
              have := Lw.step h2 A2 hp.2
              rw [show ((n + 1 : Nat) : Int) = (n : Int) + 1 by omega]; unfold laidN; rw [hf]; exact this⟩))
            clear h2 A2 hlenk hf hcell
            subst hv1
            go_wp2_with fail
            refine C.out.mono ?_
            rintro e w3 ⟨rfl, h3⟩
            have h3 := Lib.hid h3
            clear hc1
            go_wp2_with fail
            go_roundw
            case rel => exact ⟨n + 1, hlt, by go_num, h3.out⟩
            case measure => simp [intOf]; omega
          · have hnl : n = len := by omega
            have hqn : q ≤ (n : Int) := by have := HQ.out; omega
            obtain ⟨xi, hxi, hxA⟩ := HR.out
            have hxm : (clamp (F xi), x) ∈ laidN F n := (mem_laidN F n _ _).2 ⟨xi, by omega, rfl, by omega⟩
            have hxr : inR x := inR_of (by omega) (by omega)
            obtain ⟨t1, ht1⟩ : ∃ t, max (clamp now) (clamp mid) = t := ⟨_, rfl⟩
            have C1 := Lib.hid (tell_any h2 A2 mid ht1)
            have HO := Lib.hid (told_or (to := t1) h2 hxm)
            have hdl : ((due t1 (laidN F n)).map Prod.snd).length ≤ 4096 := by
              have := due_rest t1 (laidN F n); rw [List.length_map]; omega
            obtain ⟨D, hD⟩ : ∃ D, (due t1 (laidN F n)).map Prod.snd = D := ⟨_, rfl⟩
            have HD := Lib.hid hD
            rw [hD] at hdl
            clear h2 A2 hxm hxA ht1 hlt hD
            go_wp2_with fail
            refine C1.out.mono ?_
            rintro e w2 ⟨v1, rfl, r1, S3, h3, A3⟩
            rw [HD.out] at r1
            have hl1 := fun ty u => r1.len ty u
            have HO2 : Hid ((tim x (rest t1 (laidN F n))).isSome = !decide (x ∈ D)) := by have := HO.out; rw [HD.out] at this; exact this
            have C2 := drop_any h3 A3 hxr
            have R1 := Lib.hid r1
            clear C1 HO h3 A3 r1
            obtain ⟨dl, hdl2⟩ : ∃ d : Int, (D.length : Int) = d := ⟨_, rfl⟩
            rw [hdl2] at hl1
            have HDL := Lib.hid hdl2
            clear hdl2
            go_wp2_with fail
            go_loop [15, 16] (fun b i => ∃ j : Nat, j ≤ D.length ∧ i = .int .i64 (j : Int) ∧ b = .bool (decide (x ∈ D.take j))) (fun _ i => D.length - (intOf i).toNat)
            case atStart => exact ⟨0, Nat.zero_le _, rfl, by simp⟩
            case round =>
              obtain ⟨j, hj, rfl, rfl⟩ := hrel
              by_cases hjl : j < D.length
              · have hjd : (j : Int) < dl := by have := HDL.out; omega
                obtain ⟨y, hy⟩ : ∃ y, D[j]? = some y := ⟨_, List.getElem?_eq_getElem hjl⟩
                obtain ⟨g, cap, hv1, hcell⟩ := R1.out.blk hy
                have HS : Hid (decide (x ∈ D.take (j + 1)) = (decide (x ∈ D.take j) || (y == x))) := by
                  show _ = _
                  rw [take_at hy]; exact dec_snoc _ _ _
                obtain ⟨b, hb⟩ : ∃ b, decide (x ∈ D.take j) = b := ⟨_, rfl⟩
                rw [hb] at HS ⊢
                obtain ⟨c, hc⟩ : ∃ c, (y == x) = c := ⟨_, rfl⟩
                rw [hc] at HS
                have R1' := R1
                clear hb hy C2
                subst hv1
                cases b <;> cases c
                all_goals
                  go_wp2_with fail
                  go_round
                  case rel => exact ⟨j + 1, hjl, by go_num, by rw [HS.out]; rfl⟩
                  case measure => simp [intOf]; omega
              · have hjl2 : j = D.length := by omega
                subst hjl2
                have hdj : dl ≤ ((D.length : Nat) : Int) := by have := HDL.out; omega
                obtain ⟨b, hb⟩ : ∃ b, decide (x ∈ D.take D.length) = b := ⟨_, rfl⟩
                have hb2 : decide (x ∈ D) = b := by rw [List.take_length] at hb; exact hb
                rw [hb]
                obtain ⟨c, hc⟩ : ∃ c, (tim x (rest t1 (laidN F n))).isSome = c := ⟨_, rfl⟩
                have hcb : (c == b) = false := by
                  have := HO2.out; rw [hb2, hc] at this; rw [this]; cases b <;> rfl
                rw [hc] at C2
                have C2 := Lib.hid C2
                clear hb hb2 hc hjl
                go_wp2_with fail
                refine C2.out.mono ?_
                rintro e w3 ⟨rfl, S4, h4, A4⟩
                have C3 := drop_any h4 A4 hxr
                rw [tim_del] at C3
                have C3 : Calls Try.prog 19 #[.pointer (some ⟨B, 0, none⟩), .int .i64 x] w3 fun e w' => e = .returned (.bool false) ∧ Lw W B t1 (n : Int) (del x (del x (rest t1 (laidN F n)))) w' := C3
                have C3 := Lib.hid C3
                clear h4 A4 C2
                go_wp2_with fail
                refine C3.out.mono ?_
                rintro e w4 ⟨rfl, S5, h5, A5⟩
                obtain ⟨t2, ht2⟩ : ∃ t, max t1 (clamp to) = t := ⟨_, rfl⟩
                have C4 := Lib.hid (tell_any h5 A5 to ht2)
                have hdl5 : ((due t2 (del x (del x (rest t1 (laidN F n))))).map Prod.snd).length ≤ 4096 := by
                  have := due_rest t2 (del x (del x (rest t1 (laidN F n)))); have := h5.bounds.2.2.2; rw [List.length_map]; omega
                have HNo := Lib.hid (due_not_del (to := t2) (x := x) (L := del x (rest t1 (laidN F n))))
                obtain ⟨D2, hD2⟩ : ∃ D2, (due t2 (del x (del x (rest t1 (laidN F n))))).map Prod.snd = D2 := ⟨_, rfl⟩
                rw [hD2] at hdl5 HNo
                have HD2 := Lib.hid hD2
                clear h5 A5 C3 ht2 hD2
                go_wp2_with fail
                refine C4.out.mono ?_
                rintro e w5 ⟨v5, rfl, r5, S6, h6, A6⟩
                rw [HD2.out] at r5
                have hl5 := fun ty u => r5.len ty u
                have R5 := Lib.hid r5
                have K5 := Lib.hid A6.kept
                clear r5 h6 A6 C4
                obtain ⟨d5, hd5⟩ : ∃ d : Int, (D2.length : Int) = d := ⟨_, rfl⟩
                rw [hd5] at hl5
                have HD5 := Lib.hid hd5
                clear hd5
                go_wp2_with fail
                go_loop [18] (fun i => ∃ j : Nat, j ≤ D2.length ∧ i = .int .i64 (j : Int)) (fun i => D2.length - (intOf i).toNat)
                case atStart => exact ⟨0, Nat.zero_le _, rfl⟩
                case round =>
                  obtain ⟨j, hj, rfl⟩ := hrel
                  by_cases hjl : j < D2.length
                  · have hjd : (j : Int) < d5 := by have := HD5.out; omega
                    obtain ⟨y, hy⟩ : ∃ y, D2[j]? = some y := ⟨_, List.getElem?_eq_getElem hjl⟩
                    obtain ⟨g, cap, hv5, hcell⟩ := R5.out.blk hy
                    have hyx : (y == x) = false := by
                      have : y ≠ x := fun e => HNo.out (e ▸ List.mem_of_getElem? hy)
                      simpa using this
                    clear hy
                    subst hv5
                    go_wp2_with fail
                    go_round
                    case rel => exact ⟨j + 1, hjl, by go_num⟩
                    case measure => simp [intOf]; omega
                  · have hdj : d5 ≤ (j : Int) := by have := HD5.out; omega
                    clear hjl
                    go_wp2_with (first | (go_at_call 16; refine (nil_add _ _).mono ?_; rintro e w' ⟨rfl, rfl⟩) | (go_at_call 20; refine (nil_time _ _).mono ?_; rintro e w' ⟨rfl, rfl⟩) | (go_at_call 14; refine (nil_first _).mono ?_; rintro e w' ⟨rfl, rfl⟩) | (go_at_call 19; refine (nil_cancel _ _).mono ?_; rintro e w' ⟨rfl, rfl⟩) | (go_at_call 17; refine (nil_advance _ _).mono ?_; rintro e w' ⟨rfl, rfl⟩) | (go_at_call 13; refine (nil_len _).mono ?_; rintro e w' ⟨rfl, rfl⟩) | (go_at_call 12; refine (nil_now _).mono ?_; rintro e w' ⟨rfl, rfl⟩))
                    refine (awake_any _).mono ?_
                    rintro e w7 ⟨rfl, hk7⟩
                    go_wp2_with fail
                    go_ret
                    exact ⟨rfl, K5.out.trans hk7⟩
theorem wcancels_all {H : Type} {enc : TypeId × Value → H} {W : World} {r : Reach} {b0 : Nat} {v : Value} {d : DataW H} {p : List MemPlace} (now k mid to : Int) (hv : Value.okWide Try.prog W r b0 40 v) (h : DataW.Trod enc Try.prog W 0 (fun _ => true) true 40 v d p) :
    Calls Try.prog 6 #[.int .i64 now, v, .int .i64 k, .int .i64 mid, .int .i64 to] W fun e w' => e = .returned (.bool true) ∧ Kept W w' := by
  obtain ⟨len, F, hI⟩ := open_nums hv h
  exact wcancels_any now k mid to hI
end

end Go.Proofs.Ytffhjdkhmggakaa.Wh
