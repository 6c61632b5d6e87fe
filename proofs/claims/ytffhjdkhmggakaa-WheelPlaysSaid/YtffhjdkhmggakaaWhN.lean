/- The law 'the earliest time is first' walked. -/
import Derived.Test.YtffhjdkhmggakaaWhM
import Derived.Test.YtffhjdkhmggakaaArgI
namespace Go.Proofs.Ytffhjdkhmggakaa.Wh
open Go.RowKit Tk Sl
open St (Kept)
open Args (Ints)

section
variable {W : World} {v : Value} {len : Nat} {F : Nat → Int}
/-- an argument's number, in whatever world that keeps what was there -/
theorem ints_at (h : Ints W v len F) {k : Nat} (hk : k < len) : ∃ b off cap, v = .slice (some ⟨b, off, none⟩) len cap ∧ ∀ k, k < len → ∀ u, Kept W u → u.cell? ⟨b, off + k, none⟩ = some (.int .i64 (F k)) := by
  rcases h with ⟨h0, _⟩ | ⟨_, _, b, off, cap, e, hb, hc⟩
  · omega
  · exact ⟨b, off, cap, e, fun k hk u hu => (Below.cell hu (p := ⟨b, off + k, none⟩) hb).trans (hc k hk).1⟩
theorem ints_len (h : Ints W v len F) (ty : TypeId) (u : World) : (Builtin.len_ #[40] ty #[v]).run Try.prog u = .ok (.int .i64 (len : Int)) u := by
  rcases h with ⟨h0, a, cap, e⟩ | ⟨_, _, b, off, cap, e, _⟩
  · subst h0; subst e; kernel_rfl
  · subst e; simp [Builtin.len_, run_underlying Try.underlying40, goInt]

/-- the least of some times -/
def lc (F : Nat → Int) : Nat → Int
  | 0 => 1125899906842624
  | k + 1 => min (lc F k) (clamp (F k))
theorem lc_le (F : Nat → Int) : ∀ k, lc F k ≤ 1125899906842624 ∧ 0 ≤ lc F k ∧ (∀ i, i < k → lc F k ≤ clamp (F i)) ∧ (0 < k → ∃ i, i < k ∧ lc F k = clamp (F i))
  | 0 => ⟨Int.le_refl _, by show (0 : Int) ≤ 1125899906842624; omega, fun i h => by omega, fun h => by omega⟩
  | k + 1 => by
    obtain ⟨h1, h2, h3, h4⟩ := lc_le F k
    have c0 := clamp_lo (F k)
    have c1 := clamp_hi (F k)
    unfold lc
    refine ⟨by omega, by omega, fun i hi => ?_, fun _ => ?_⟩
    · rcases Nat.lt_or_ge i k with c | c
      · have := h3 i c; omega
      · rw [show i = k by omega]; omega
    · by_cases c : clamp (F k) ≤ lc F k
      · exact ⟨k, by omega, by omega⟩
      · by_cases d : 0 < k
        · obtain ⟨i, hi, e⟩ := h4 d
          exact ⟨i, by omega, by omega⟩
        · obtain rfl : k = 0 := by omega
          exfalso; apply c; exact c1
/-- the earliest of what was added -/
theorem fst_laid {L : List (Int × Int)} (hs : L.Pairwise lt2) (hm : ∀ a h, (a, h) ∈ L ↔ ∃ i : Nat, i < len ∧ a = clamp (F i) ∧ h = (i : Int) + 1) (h0 : 0 < len) : ∃ i L', i < len ∧ L = (lc F len, (i : Int) + 1) :: L' ∧ clamp (F i) = lc F len := by
  obtain ⟨_, _, h3, h4⟩ := lc_le F len
  obtain ⟨j, hj, ej⟩ := h4 h0
  have hjm : (lc F len, (j : Int) + 1) ∈ L := (hm _ _).2 ⟨j, hj, ej, rfl⟩
  cases L with
  | nil => simp at hjm
  | cons e L' =>
    obtain ⟨i, hi, e1, e2⟩ := (hm e.1 e.2).1 (by simp)
    have hle : e.1 ≤ lc F len := by
      rcases List.mem_cons.1 hjm with c | c
      · rw [← c]; exact Int.le_refl _
      · have := (List.pairwise_cons.1 hs).1 _ c
        unfold lt2 at this; simp only at this; omega
    have heq : e.1 = lc F len := by have := h3 i hi; omega
    exact ⟨i, L', hi, by rw [← heq, ← e2], by rw [← heq]; exact e1.symm⟩
end

theorem due_cons {to a h : Int} {L : List (Int × Int)} (c : a ≤ to) : (due to ((a, h) :: L)).map Prod.snd = h :: (due to L).map Prod.snd := by
  unfold due; rw [List.filter_cons, if_pos (by simpa using c)]; rfl
theorem due_nil {to : Int} {L : List (Int × Int)} (h : ∀ e ∈ L, to < e.1) : due to L = [] ∧ rest to L = L :=
  ⟨List.filter_eq_nil_iff.2 fun e he => by have := h e he; simp; omega, List.filter_eq_self.2 fun e he => by simpa using h e he⟩

section
variable {W : World} {v : Value} {len : Nat} {F : Nat → Int}
set_option maxHeartbeats 2000000 in
set_option maxRecDepth 100000 in
theorem wfirst_any (now : Int) (hI : Ints W v len F) : Calls Try.prog 8 #[.int .i64 now, v] W fun e w' => e = .returned (.bool true) ∧ Kept W w' := by
  have hlen := fun ty u => ints_len hI ty u
  obtain ⟨q, hq⟩ : ∃ q : Int, (len : Int) = q := ⟨_, rfl⟩
  by_cases h0 : len = 0
  · have hlen : ∀ ty u, (Builtin.len_ #[40] ty #[v]).run Try.prog u = .ok (.int .i64 0) u := fun ty u => by rw [hlen ty u, h0]; rfl
    clear hI hq
    go_enter Try.func8, Try.ntmps8
    go_wp2_with (go_at_call 15; refine (awake_any _).mono ?_; rintro e w' ⟨rfl, hk⟩)
    go_ret
    exact ⟨rfl, hk⟩
  · rw [hq] at hlen
    have hq0 : (q == 0) = false := by simp; omega
    by_cases h1 : 100 < q
    · clear hI hq
      go_enter Try.func8, Try.ntmps8
      go_wp2_with (go_at_call 15; refine (awake_any _).mono ?_; rintro e w' ⟨rfl, hk⟩)
      go_ret
      exact ⟨rfl, hk⟩
    · have hl100 : len ≤ 100 := by omega
      have HI := Lib.hid hI
      have HQ := Lib.hid hq
      have HN0 : Hid (0 < len) := Nat.pos_of_ne_zero h0
      clear hI hq h0
      go_enter Try.func8, Try.ntmps8
      go_wp2_with fail
      refine (new_any now).mono ?_
      rintro e w1 ⟨S1, B, rfl, g1, s1, k1⟩
      have G1 := Lib.hid (show Lw W B (clamp now) ((0 : Nat) : Int) (laidN F 0) w1 from ⟨S1, g1, k1, s1⟩)
      clear g1 s1 k1
      go_wp2_with fail
      go_loopw [7, 6] (fun i m wr => ∃ k : Nat, k ≤ len ∧ i = .int .i64 (k : Int) ∧ m = .int .i64 (lc F k) ∧ Lw W B (clamp now) (k : Int) (laidN F k) wr) (fun i _ _ => len - (intOf i).toNat)
      case atStart => exact ⟨0, Nat.zero_le _, rfl, rfl, G1.out⟩
      case round =>
        obtain ⟨k, hk, rfl, rfl, S2, h2, A2⟩ := hrel
        have hlenk := laidN_length F k
        obtain ⟨m, hm⟩ : ∃ m, lc F k = m := ⟨_, rfl⟩
        rw [hm]
        by_cases hlt : k < len
        · have hltq : (k : Int) < q := by have := HQ.out; omega
          obtain ⟨b, off, cap, hv1, hcell⟩ := ints_at HI.out hlt
          have hc1 := hcell k hlt _ A2.kept
          obtain ⟨f, hf⟩ : ∃ f, F k = f := ⟨_, rfl⟩
          rw [hf] at hc1
          have C := Lib.hid ((add_room h2 (by omega) (by omega) f).mono (fun e w' hp => show e = .returned (.tuple #[.int .i64 ((k : Int) + 1), .int .i64 0]) ∧ Lw W B (clamp now) ((k + 1 : Nat) : Int) (laidN F (k + 1)) w' ∧ w'.cell? ⟨b, off + k, none⟩ = some (.int .i64 f) from ⟨hp.1, by
            have := Lw.step h2 A2 hp.2
            rw [show ((k + 1 : Nat) : Int) = (k : Int) + 1 by omega]; unfold laidN; rw [hf]; exact this, by
            obtain ⟨S3, _, A3⟩ := Lw.step h2 A2 hp.2
            rw [← hf]; exact hcell k hlt _ A3.kept⟩))
          have HM : Hid (lc F (k + 1) = min m (clamp f)) := by show _ = _; rw [← hm, ← hf]; rfl
          obtain ⟨c, hc⟩ : ∃ c, Hid (clamp f = c) := ⟨_, rfl⟩
          rw [hc.out] at HM
          have RC : ∀ w, Calls Try.prog 10 #[.int .i64 f] w fun e w' => e = .returned (.int .i64 c) ∧ w = w' := fun w => by have := rclamp_any f w; rw [hc.out] at this; exact this
          have RC := Lib.hid RC
          have HH := Lib.hid hlenk
          clear h2 A2 hlenk hm hf hcell
          subst hv1
          go_wp2_with fail
          refine C.out.mono ?_
          rintro e w3 ⟨rfl, h3, hc3⟩
          have h3 := Lib.hid h3
          clear hc1
          go_wp2_with (go_at_call 10; refine (RC.out _).mono ?_; rintro e w' ⟨rfl, rfl⟩)
          go_roundw
          case rel => exact ⟨k + 1, hlt, by go_num, by rw [HM.out], h3.out⟩
          case measure => simp [intOf]; omega
        · have hkl : k = len := by omega
          subst hkl
          obtain ⟨i, L', hi, hL, hfi⟩ := fst_laid h2.ord (mem_laidN F k) HN0.out
          obtain ⟨m1, m2, m3, _⟩ := lc_le F k
          rw [hm] at hL hfi m1 m2 m3
          have hfirst : firsts wr (laidN F k) = fun e w' => e = .returned (.tuple #[.int .i64 m, .bool true]) ∧ wr = w' := by
            unfold firsts; rw [hL]; rfl
          have C1 := first_some h2 (by rw [hL]; simp)
          rw [hfirst] at C1
          have C1 := Lib.hid C1
          obtain ⟨c0, hc0⟩ : ∃ c, Hid (clamp now = c) := ⟨_, rfl⟩
          have RC : ∀ w, Calls Try.prog 10 #[.int .i64 now] w fun e w' => e = .returned (.int .i64 c0) ∧ w = w' := fun w => by have := rclamp_any now w; rw [hc0.out] at this; exact this
          have RC := Lib.hid RC
          have RM : ∀ w, Calls Try.prog 10 #[.int .i64 (F i)] w fun e w' => e = .returned (.int .i64 m) ∧ w = w' := fun w => by have := rclamp_any (F i) w; rw [hfi] at this; exact this
          have RM := Lib.hid RM
          obtain ⟨b, off, cap, hv1, hcell⟩ := ints_at HI.out hi
          have hci := fun u hu => hcell i hi u hu
          have hc00 : 0 ≤ c0 := by rw [← hc0.out]; exact clamp_lo _
          have hiq : (i : Int) + 1 ≤ q := by have := HQ.out; omega
          have hik : (i : Int) < (k : Int) := by omega
          have hqk : q ≤ (k : Int) := by have := HQ.out; omega
          rw [hc0.out] at h2
          -- going on to the earliest time, from whatever wheel still has all
          have TELL : ∀ w3 S3 n3 to, Whl w3 S3 B n3 (k : Int) (laidN F k) → Acc W S3 w3 → max n3 (clamp m) = to → m ≤ to → Calls Try.prog 17 #[.pointer (some ⟨B, 0, none⟩), .int .i64 m] w3 fun e w' =>
              ∃ (g n5 cap5 : Nat), e = .returned (.slice (some ⟨g, 0, none⟩) n5 cap5) ∧ (0 : Int) < (n5 : Int) ∧ w'.cell? ⟨g, 0, none⟩ = some (.int .i64 ((i : Int) + 1)) ∧ Kept W w' := fun w3 S3 n3 to a1 a2 a3 a4 =>
            (advance_any a1 m a3).mono fun e w' ⟨v5, S5, he, r5, h5, s5, f5, n5⟩ => by
              rw [hL, due_cons a4] at r5
              obtain ⟨g, cap5, e5, c5⟩ := r5.blk (i := 0) (x := (i : Int) + 1) rfl
              exact ⟨g, _, cap5, by rw [he, e5], by rw [List.length_cons]; omega, c5, (a2.step f5 s5).kept⟩
          have hlow : ∀ e ∈ laidN F k, m - 1 < e.1 := fun e he => by
            obtain ⟨j, hj, e1, _⟩ := (mem_laidN F k e.1 e.2).1 he
            have := m3 j hj; omega
          have hcl1 := clamp_id m m2 m1
          by_cases hc : c0 < m
          · have hcl2 := clamp_id (m - 1) (by omega) (by omega)
            have C2 := (advance_any (to := m - 1) h2 (m - 1) (by rw [hcl2]; omega)).mono (fun e w' hp => show ∃ v4, e = .returned v4 ∧ Row w' v4 [] ∧ ∃ S4, Whl w' S4 B (m - 1) (k : Int) (laidN F k) ∧ Acc W S4 w' by
              obtain ⟨v4, S4, he, r4, h4, s4, f4, n4⟩ := hp
              obtain ⟨d1, d2⟩ := due_nil hlow
              rw [d1] at r4
              rw [d2] at h4
              exact ⟨v4, he, r4, S4, h4, A2.step f4 s4⟩)
            have C2 := Lib.hid C2
            have TELL := Lib.hid TELL
            have HCI := Lib.hid hci
            have HC1 := Lib.hid hcl1
            clear h2 A2 hlenk hm hL hfirst hlow hcell hci hcl1 hcl2 m3 hlt hfi hc0
            subst hv1
            go_wp2_with fail
            refine C1.out.mono ?_
            rintro e w3 ⟨rfl, rfl⟩
            go_wp2_with (go_at_call 10; refine (RC.out _).mono ?_; rintro e w' ⟨rfl, rfl⟩)
            refine C2.out.mono ?_
            rintro e w4 ⟨v4, rfl, r4, S4, h4, A4⟩
            have C3 := Lib.hid (TELL.out w4 S4 _ m h4 A4 (by rw [HC1.out]; omega) (Int.le_refl _))
            have hl4 : ∀ ty u, (Builtin.len_ #[40] ty #[v4]).run Try.prog u = .ok (.int .i64 0) u := fun ty u => r4.len ty u
            clear r4 h4 A4
            go_wp2_with fail
            refine C3.out.mono ?_
            rintro e w5 ⟨g, n5, cap5, rfl, hn5, hc5, hk5⟩
            have hci5 := HCI.out w5 hk5
            have HK5 := Lib.hid hk5
            clear hk5 hl4
            go_wp2_with (go_at_call 10; refine (RM.out _).mono ?_; rintro e w' ⟨rfl, rfl⟩)
            refine (awake_any _).mono ?_
            rintro e w7 ⟨rfl, hk7⟩
            go_wp2_with fail
            go_ret
            exact ⟨rfl, HK5.out.trans hk7⟩
          · have C3 := Lib.hid (TELL wr S2 _ c0 h2 A2 (by rw [hcl1]; omega) (by omega))
            have HCI := Lib.hid hci
            clear TELL h2 A2 hlenk hm hL hfirst hlow hcell hci hcl1 m3 hlt hfi hc0
            subst hv1
            go_wp2_with fail
            refine C1.out.mono ?_
            rintro e w3 ⟨rfl, rfl⟩
            go_wp2_with (go_at_call 10; refine (RC.out _).mono ?_; rintro e w' ⟨rfl, rfl⟩)
            refine C3.out.mono ?_
            rintro e w5 ⟨g, n5, cap5, rfl, hn5, hc5, hk5⟩
            have hci5 := HCI.out w5 hk5
            have HK5 := Lib.hid hk5
            clear hk5
            go_wp2_with (go_at_call 10; refine (RM.out _).mono ?_; rintro e w' ⟨rfl, rfl⟩)
            refine (awake_any _).mono ?_
            rintro e w7 ⟨rfl, hk7⟩
            go_wp2_with fail
            go_ret
            exact ⟨rfl, HK5.out.trans hk7⟩
theorem open_nums {H : Type} {enc : TypeId × Value → H} {W : World} {r : Reach} {b0 : Nat} {v : Value} {d : DataW H} {p : List MemPlace} (hv : Value.okWide Try.prog W r b0 40 v) (h : DataW.Trod enc Try.prog W 0 (fun _ => true) true 40 v d p) : ∃ len F, Ints W v len F :=
  Args.open_intl Try.underlying40 Try.underlying3 (by kernel_rfl) hv h
theorem wfirst_all {H : Type} {enc : TypeId × Value → H} {W : World} {r : Reach} {b0 : Nat} {v : Value} {d : DataW H} {p : List MemPlace} (now : Int) (hv : Value.okWide Try.prog W r b0 40 v) (h : DataW.Trod enc Try.prog W 0 (fun _ => true) true 40 v d p) :
    Calls Try.prog 8 #[.int .i64 now, v] W fun e w' => e = .returned (.bool true) ∧ Kept W w' := by
  obtain ⟨len, F, hI⟩ := open_nums hv h
  exact wfirst_any now hI
end

end Go.Proofs.Ytffhjdkhmggakaa.Wh
