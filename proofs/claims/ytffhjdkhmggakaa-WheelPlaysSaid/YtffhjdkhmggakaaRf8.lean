/- The law 'whatever is added, cancelled, and gone on to, a wheel tells what the document says' walked. -/
import Derived.Test.YtffhjdkhmggakaaRf7
import Derived.Test.YtffhjdkhmggakaaArgD
import Derived.Deep.RegionLaw
namespace Go.Proofs.Ytffhjdkhmggakaa.Rf
open Go.RowKit Tk Wh
open St (Kept blk_cell blk_free blk_lt blk_set)
open Args (Deeds)
set_option linter.unusedVariables false

section
variable {W w w' : World} {A B : Nat} {v : Value} {len : Nat} {F : Nat → Int × Int × Bool}

theorem ins_len (a h : Int) (L : List (Int × Int)) : (ins a h L).length = L.length + 1 := ins_length a h L
theorem del_len (x : Int) (L : List (Int × Int)) : (del x L).length ≤ L.length := List.length_filter_le ..
theorem rest_len (x : Int) (L : List (Int × Int)) : (Wh.rest x L).length ≤ L.length := List.length_filter_le ..

theorem does_any {now last : Int} {L : List (Int × Int)} (h : Du W A B now last L w) (hL : L.length < 4096) (hl : last < 1152921504606846976) (k n : Int) (hn : inR n) (more : Bool) :
    Calls Try.prog 11 #[.pointer (some ⟨A, 0, none⟩), .pointer (some ⟨B, 0, none⟩), .agg #[.int .i64 k, .int .i64 n, .bool more]] w fun e w' => e = .returned (.bool true) ∧ ∃ now' last' L', Du W A B now' last' L' w' ∧ last' ≤ last + 1 ∧ L'.length ≤ L.length + 1 := by
  by_cases h0 : k = 0 ∨ k = 1 ∨ k = 2
  · exact (does_add h hL hl k n h0 more).mono fun e w' hp => ⟨hp.1, _, _, _, hp.2, by omega, by rw [ins_len]; omega⟩
  · by_cases h3 : k = 3
    · subst h3; exact (does_cancel h n hn more).mono fun e w' hp => ⟨hp.1, _, _, _, hp.2, by omega, by have := del_len n L; omega⟩
    · by_cases h4 : k = 4 ∨ k = 5
      · exact (does_advance h k n h4 more rfl).mono fun e w' hp => ⟨hp.1, _, _, _, hp.2, by omega, by have := rest_len (max now (clamp (eff more now n))) L; omega⟩
      · by_cases h6 : k = 6
        · subst h6; exact (does_time h n hn more).mono fun e w' hp => ⟨hp.1, _, _, _, hp.2, by omega, by omega⟩
        · exact (does_none h k n (by omega) more).mono fun e w' hp => ⟨hp.1, _, _, _, hp.2, by omega, by omega⟩

theorem deeds_len (h : Deeds W v len F) (ty : TypeId) (u : World) : (Builtin.len_ #[22] ty #[v]).run Try.prog u = .ok (.int .i64 (len : Int)) u := by
  rcases h with ⟨h0, a, cap, e⟩ | ⟨_, _, b, off, cap, e, _⟩
  · subst h0; subst e; kernel_rfl
  · subst e; simp [Builtin.len_, run_underlying Try.underlying22, goInt]
theorem deeds_at (h : Deeds W v len F) {k : Nat} (hk : k < len) : ∃ b off cap, v = .slice (some ⟨b, off, none⟩) len cap ∧ ∀ u, Kept W u → u.cell? ⟨b, off + k * 3, none⟩ = some (.int .i64 (F k).1) ∧ u.cell? ⟨b, off + k * 3 + 1, none⟩ = some (.int .i64 (F k).2.1) ∧ u.cell? ⟨b, off + k * 3 + 2, none⟩ = some (.bool (F k).2.2) ∧ inR (F k).2.1 := by
  rcases h with ⟨h0, _⟩ | ⟨_, _, b, off, cap, e, hb, hc⟩
  · omega
  · refine ⟨b, off, cap, e, fun u hu => ?_⟩
    obtain ⟨h1, h2, h3, h4⟩ := hc k hk
    exact ⟨(Below.cell hu (p := ⟨b, _, none⟩) hb).trans h1, (Below.cell hu (p := ⟨b, _, none⟩) hb).trans h2, (Below.cell hu (p := ⟨b, _, none⟩) hb).trans h3, h4⟩

/-- the two wheels as the law's loop has them -/
def Play (W : World) (A B : Nat) (k : Nat) (w : World) : Prop := ∃ now last L, Du W A B now last L w ∧ last ≤ (k : Int) ∧ L.length ≤ k

set_option maxHeartbeats 16000000 in
set_option maxRecDepth 100000 in
theorem wplays_any (now : Int) (hI : Deeds W v len F) : Calls Try.prog 3 #[.int .i64 now, v] W fun e w' => e = .returned (.bool true) ∧ Kept W w' := by
  have hlen := fun ty u => deeds_len hI ty u
  obtain ⟨q, hq⟩ : ∃ q : Int, (len : Int) = q := ⟨_, rfl⟩
  rw [hq] at hlen
  have HI := Lib.hid hI
  have HQ := Lib.hid hq
  obtain ⟨cn, hcn⟩ : ∃ c, Hid (clamp now = c) := ⟨_, rfl⟩
  have RC : ∀ w, Calls Try.prog 10 #[.int .i64 now] w fun e w' => e = .returned (.int .i64 cn) ∧ w = w' := fun w => by have := rclamp_any now w; rw [hcn.out] at this; exact this
  have RC := Lib.hid RC
  clear hI hq
  go_enter Try.func3, Try.ntmps3
  go_wp2_with fail
  refine (new_any now).mono ?_
  rintro e w1 ⟨S1, A, rfl, g1, s1, k1⟩
  rw [hcn.out] at g1
  have H1 := Lib.hid (And.intro g1 (And.intro s1 k1))
  clear g1 s1 k1
  go_wp2_with (go_at_call 10; refine (RC.out _).mono ?_; rintro e w' ⟨rfl, rfl⟩)
  have P0 := Lib.hid (show Play W A w1.heap.size 0 (w1.alloc (.cells #[.int .i64 cn, .int .i64 0, .slice none 0 0] 29)) from
    ⟨cn, 0, [], ⟨S1, fun k => k = w1.heap.size, .slice none 0 0, H1.out.1.kept (Kept.one _ _), ⟨St.blk_new _ _, .inl ⟨rfl, none, 0, rfl⟩, rfl, fun k c => by subst c; exact blk_lt (St.blk_new w1 _), fun g e => by simp [Value.ownBlock] at e⟩, fun k c d => by have := H1.out.1.lt k c; omega,
      ⟨H1.out.2.2.trans (Kept.one _ _), H1.out.2.1⟩, ⟨H1.out.2.2.trans (Kept.one _ _), fun k c => by have := H1.out.2.2.size; omega⟩⟩, Int.le_refl _, Nat.le_refl _⟩)
  obtain ⟨B, hB⟩ : ∃ b, w1.heap.size = b := ⟨_, rfl⟩
  rw [hB] at P0 ⊢
  clear hB
  go_loopw [7] (fun i wr => ∃ k : Nat, k ≤ len ∧ k ≤ 60 ∧ i = .int .i64 (k : Int) ∧ Play W A B k wr) (fun i _ => len - (intOf i).toNat)
  case atStart => exact ⟨0, Nat.zero_le _, Nat.zero_le _, rfl, P0.out⟩
  case round =>
    obtain ⟨k, hk, hk60, rfl, hP⟩ := hrel
    by_cases hlt : k < len ∧ k < 60
    · obtain ⟨hkl, hk6⟩ := hlt
      have hkq : (k : Int) < q := by have := HQ.out; omega
      have hk6' : (k : Int) < 60 := by omega
      have hkn : (k : Int) < (len : Int) := by omega
      obtain ⟨b, off, cap, hv1, hcell⟩ := deeds_at HI.out hkl
      have HV := Lib.hid hv1
      subst hv1
      obtain ⟨now1, last1, L1, hD, b1, b2⟩ := hP
      obtain ⟨kk, hkk⟩ : ∃ x, (F k).1 = x := ⟨_, rfl⟩
      obtain ⟨nn, hnn⟩ : ∃ x, (F k).2.1 = x := ⟨_, rfl⟩
      obtain ⟨mm, hmm⟩ : ∃ x, (F k).2.2 = x := ⟨_, rfl⟩
      rw [hkk, hnn, hmm] at hcell
      have hD' : Du W A B now1 last1 L1 wr.drew := by
        obtain ⟨Sa, Sb, v, d1, d2, d3, d4, d5⟩ := hD
        exact ⟨Sa, Sb, v, d1.kept (Kept.refl _).drew, d2.kept (Kept.refl _).drew, d3, d4.go (Kept.refl _).drew, d5.go (Kept.refl _).drew⟩
      have hK : Kept W wr.drew := by obtain ⟨Sa, Sb, v, d1, d2, d3, d4, d5⟩ := hD'; exact d4.kept
      obtain ⟨x0, x1, x2, hin⟩ := hcell _ hK
      have C := Lib.hid (does_any hD' (by omega) (by omega) kk nn hin mm)
      have HC := Lib.hid hcell
      have HB := Lib.hid (And.intro b1 b2)
      clear hD hD' hK hcell hkk hnn hmm b1 b2 hin
      go_wp2_with fail
      go_region_with
        (first
          | (go_at_call 11; refine C.out.mono ?_; rintro e w5 ⟨rfl, now5, last5, L5, ⟨Sa5, Sb5, v5, d1, d2, d3, d4, d5⟩, e1, e2⟩; have CN := Lib.hid (wnow_any d1); have cB0 := d2.c0; have cB2 := d2.c2; have hlen5 := fun ty u => d2.prs.len ty u; have CL := wlen_any d1; obtain ⟨q5, hq5⟩ : ∃ q : Int, (L5.length : Int) = q := ⟨_, rfl⟩; rw [hq5] at CL hlen5; replace CL := Lib.hid CL; have ALL := Lib.hid (And.intro d1 (And.intro d2 (And.intro d3 (And.intro d4 (And.intro d5 (And.intro e1 (And.intro e2 hq5))))))); clear d1 d2 d3 d4 d5 hq5 e1 e2 x0 x1 x2)
          | (go_at_call 12; refine CN.out.mono ?_; rintro e w' ⟨rfl, rfl⟩)
          | (go_at_call 13; refine CL.out.mono ?_; rintro e w' ⟨rfl, rfl⟩))
      all_goals
        obtain ⟨d1, d2, d3, d4, d5, e1, e2, hq5⟩ := ALL.out
        have b1 := HB.out.1
        have b2 := HB.out.2
        have hP5 : Play W A B (k + 1) w5 := ⟨now5, last5, L5, ⟨Sa5, Sb5, v5, d1, d2, d3, d4, d5⟩, by omega, by omega⟩
        have HP5 := Lib.hid hP5
        clear hP5 d3 d4 d5 e1 e2 b1 b2 CN CL C HC
        rcases L5 with _ | ⟨x, L6⟩
        · have hq0 : q5 = 0 := by rw [← hq5]; rfl
          subst hq0
          have FN : Hid (Calls Try.prog 14 #[.pointer (some ⟨A, 0, none⟩)] w5 fun e w' => e = .returned (.tuple #[.int .i64 0, .bool false]) ∧ w5 = w') := first_none d1
          clear d1 d2 hq5 ALL cB0
          go_wp2_with fail
          refine FN.out.mono ?_
          rintro e w' ⟨rfl, rfl⟩
          go_wp2_with fail
          go_roundw
          case rel => exact ⟨k + 1, hkl, by omega, by go_num, HP5.out⟩
          case measure => simp [intOf]; omega
        · obtain ⟨ta, hta⟩ : ∃ t, x.1 = t := ⟨_, rfl⟩
          have FN : Hid (Calls Try.prog 14 #[.pointer (some ⟨A, 0, none⟩)] w5 fun e w' => e = .returned (.tuple #[.int .i64 ta, .bool true]) ∧ w5 = w') := by rw [← hta]; exact first_some d1 (by simp)
          obtain ⟨g5, o5, cap5, hv5, hcap5, _, _, hc5⟩ := d2.prs.at (i := 0) (e := x) rfl
          have x5 := (hc5 0 x rfl).1
          rw [hta] at x5
          simp only [Nat.zero_mul, Nat.add_zero] at x5
          have hq1 : (0 : Int) < q5 := by rw [← hq5, List.length_cons]; omega
          have hn5 : (0 : Int) < ((x :: L6).length : Int) := by rw [List.length_cons]; omega
          obtain ⟨n5, hn⟩ : ∃ n, (x :: L6).length = n := ⟨_, rfl⟩
          rw [hn] at hv5 hn5
          have hn5' : 0 < n5 := by omega
          clear d1 d2 hq5 ALL cB0 hc5 hta hn
          subst hv5
          go_wp2_with fail
          refine FN.out.mono ?_
          rintro e w' ⟨rfl, rfl⟩
          go_wp2_with fail
          go_roundw
          case rel => exact ⟨k + 1, hkl, by omega, by go_num, HP5.out⟩
          case measure => simp [intOf]; omega
    · have hK : Kept W wr := by obtain ⟨_, _, _, ⟨Sa, Sb, v, d1, d2, d3, d4, d5⟩, _⟩ := hP; exact d4.kept
      have HK := Lib.hid hK
      clear hP hK
      by_cases hkl : k < len
      · have hkq : (k : Int) < q := by have := HQ.out; omega
        have hk6 : (60 : Int) ≤ (k : Int) := by omega
        clear hlt
        go_wp2_with fail
        refine (awake_any _).mono ?_
        rintro e w7 ⟨rfl, hk7⟩
        go_wp2_with fail
        go_ret
        exact ⟨rfl, HK.out.trans hk7⟩
      · have hkq : q ≤ (k : Int) := by have := HQ.out; omega
        clear hlt
        go_wp2_with fail
        refine (awake_any _).mono ?_
        rintro e w7 ⟨rfl, hk7⟩
        go_wp2_with fail
        go_ret
        exact ⟨rfl, HK.out.trans hk7⟩

theorem open_deeds {H : Type} {enc : TypeId × Value → H} {W : World} {r : Reach} {b0 : Nat} {v : Value} {d : DataW H} {p : List MemPlace} (hv : Value.okWide Try.prog W r b0 22 v)
    (h : DataW.Trod enc Try.prog W 0 (fun _ => true) true 22 v d p) : ∃ len F, Deeds W v len F :=
  Args.open_deeds Try.underlying22 Try.underlying32 (by kernel_rfl) rfl rfl rfl (by kernel_rfl) (by kernel_rfl) (by kernel_rfl) Try.underlying3 Try.underlying3 Try.underlying4 hv h
theorem wplays_all {H : Type} {enc : TypeId × Value → H} {W : World} {r : Reach} {b0 : Nat} {v : Value} {d : DataW H} {p : List MemPlace} (now : Int) (hv : Value.okWide Try.prog W r b0 22 v)
    (h : DataW.Trod enc Try.prog W 0 (fun _ => true) true 22 v d p) :
    Calls Try.prog 3 #[.int .i64 now, v] W fun e w' => e = .returned (.bool true) ∧ Kept W w' := by
  obtain ⟨len, F, hI⟩ := open_deeds hv h
  exact wplays_any now hI
end

end Go.Proofs.Ytffhjdkhmggakaa.Rf
