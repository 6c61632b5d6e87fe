/- The law 'whatever alarms are set, cleared, and due, they are what the document says' walked. -/
import Derived.Test.YtckmkagijanbdaaAr7
import Derived.Test.YtckmkagijanbdaaAlK2
import Derived.Test.YtckmkagijanbdaaArgR
import Derived.Deep.RegionWith
namespace Go.Proofs.Ytckmkagijanbdaa.Al
open Go.RowKit Go.Sort Tk Wh IdM
open St (Kept blk_cell blk_free blk_lt blk_set)
open Args (Dls)
set_option linter.unusedVariables false

theorem dls_at {W : World} {v : Value} {len : Nat} {G : Nat → Int × Nm × Int} (h : Dls W v len G) {i : Nat} (hi : i < len) : ∃ b off cap, v = .slice (some ⟨b, off, none⟩) len cap ∧ ∀ j, j < len → okN (G j).2.1 ∧ ∀ w, Kept W w →
    w.cell? ⟨b, off + j * 7, none⟩ = some (.int .i64 (G j).1) ∧ w.cell? ⟨b, off + j * 7 + 1, none⟩ = some (.int .i64 (G j).2.1.n) ∧ w.cell? ⟨b, off + j * 7 + 2, none⟩ = some (.int .i64 (G j).2.1.i) ∧ w.cell? ⟨b, off + j * 7 + 3, none⟩ = some (.int .i64 (G j).2.1.s) ∧ w.cell? ⟨b, off + j * 7 + 4, none⟩ = some (.int .i64 (G j).2.1.a) ∧ w.cell? ⟨b, off + j * 7 + 5, none⟩ = some (.int .i64 (G j).2.1.k) ∧ w.cell? ⟨b, off + j * 7 + 6, none⟩ = some (.int .i64 (G j).2.2) := by
  rcases h with ⟨rfl, _⟩ | ⟨_, _, b, off, cap, hv, hb, hc⟩
  · omega
  · refine ⟨b, off, cap, hv, fun j hj => ?_⟩
    obtain ⟨h0, h1, h2, h3, h4, h5, h6, h7⟩ := hc j hj
    exact ⟨h0, fun w hk => ⟨cell_on hk h1, cell_on hk h2, cell_on hk h3, cell_on hk h4, cell_on hk h5, cell_on hk h6, cell_on hk h7⟩⟩

section
variable {W : World} {v : Value} {len : Nat} {G : Nat → Int × Nm × Int}
set_option maxHeartbeats 8000000 in
set_option maxRecDepth 100000 in
theorem aplays_any (p : Int) (hI : Dls W v len G) : Calls Try.prog 3 #[.int .i64 p, v] W fun e w' => e = .returned (.bool true) ∧ Kept W w' := by
  have hlen := fun ty u => Args.dls_len hI ty u
  obtain ⟨q, hq⟩ : ∃ q : Int, (len : Int) = q := ⟨_, rfl⟩
  rw [hq] at hlen
  have HI := Lib.hid hI
  have HQ := Lib.hid hq
  have hq0 : 0 ≤ q := by omega
  obtain ⟨g, hg⟩ : ∃ g, gr p = g := ⟨_, rfl⟩
  have CN := fun w => anew_any (w := w) p
  have RN := fun w => rnew_any p w
  rw [hg] at CN RN
  have HCN := Lib.hid CN
  have HRN := Lib.hid RN
  clear hI hq CN RN hg
  go_enter Try.func3, Try.ntmps3
  go_wp2_with fail
  refine (HCN.out _).mono ?_
  rintro e w1 ⟨S1, B, rfl, g1, s1, k1⟩
  have H1 := Lib.hid (And.intro g1 (And.intro s1 k1))
  clear g1 s1 k1
  go_wp2_with fail
  refine (HRN.out _).mono ?_
  rintro e w2 ⟨S2, R, rfl, g2, s2, k2⟩
  have T0 := Lib.hid (show PD W B R g 0 w2 from
    ⟨0, 0, [], S1, S2, _, ⟨H1.out.1.kept k2, g2, fun k c d => by have := H1.out.1.lt k c; have := s2 k d; omega, ⟨H1.out.2.2.trans k2, H1.out.2.1⟩, ⟨H1.out.2.2.trans k2, fun k d => by have := s2 k d; have := H1.out.2.2.size; omega⟩⟩, by omega, Nat.le_refl _⟩)
  clear g2 s2 k2
  go_wp2_with fail
  go_loopw [7] (fun i wr => ∃ j : Nat, j ≤ len ∧ j ≤ 60 ∧ i = .int .i64 (j : Int) ∧ PD W B R g j wr) (fun i _ => len - (intOf i).toNat)
  case atStart => exact ⟨0, Nat.zero_le _, Nat.zero_le _, rfl, T0.out⟩
  case round =>
    obtain ⟨j, hj, hj60, rfl, hP⟩ := hrel
    by_cases hlt : j < len ∧ j < 60
    · obtain ⟨hlt, hlt60⟩ := hlt
      have hltq : (j : Int) < q := by have := HQ.out; omega
      have hj0 : (0 : Int) ≤ (j : Int) := by omega
      have hjl : (j : Int) < (len : Int) := by omega
      have hj6 : (j : Int) < 60 := by omega
      obtain ⟨b, off, cap, hv1, hcell⟩ := dls_at HI.out hlt
      obtain ⟨hok, hc⟩ := hcell j hlt
      obtain ⟨G0, hG0⟩ : ∃ z, G j = z := ⟨_, rfl⟩
      rw [hG0] at hok hc
      obtain ⟨qk, ⟨n, i, s, a, k⟩, t⟩ := G0
      have hcc := hc _ (hP.go (Kept.refl _).drew).kept
      obtain ⟨c0, c1, c2, c3, c4, c5, c6⟩ := hcc
      have c0 : wr.drew.cell? ⟨b, off + j * 7, none⟩ = some (.int .i64 qk) := c0
      have c1 : wr.drew.cell? ⟨b, off + j * 7 + 1, none⟩ = some (.int .i64 n) := c1
      have c2 : wr.drew.cell? ⟨b, off + j * 7 + 2, none⟩ = some (.int .i64 i) := c2
      have c3 : wr.drew.cell? ⟨b, off + j * 7 + 3, none⟩ = some (.int .i64 s) := c3
      have c4 : wr.drew.cell? ⟨b, off + j * 7 + 4, none⟩ = some (.int .i64 a) := c4
      have c5 : wr.drew.cell? ⟨b, off + j * 7 + 5, none⟩ = some (.int .i64 k) := c5
      have c6 : wr.drew.cell? ⟨b, off + j * 7 + 6, none⟩ = some (.int .i64 t) := c6
      have CD := Lib.hid (does_any (hP.go (Kept.refl _).drew) (q := qk) (t := t) hok (by omega))
      have HC := Lib.hid hc
      have HP := Lib.hid hP
      clear hcell hok hc hG0 hP
      subst hv1
      go_wp2_with fail
      go_region_with
        (first
          | (go_at_call 10; refine CD.out.mono ?_; rintro e w5 ⟨rfl, now5, last5, A5, Sa5, Sr5, vL5, ⟨d1, d2, d3, d4, d5⟩, b1, b2⟩; have cR := d2.c0; have hlen5 := d2.lenL; have CL := len_al d1; obtain ⟨q5, hq5⟩ : ∃ q : Int, (A5.length : Int) = q := ⟨_, rfl⟩; rw [hq5] at CL hlen5; replace CL := Lib.hid CL; have HP5 := Lib.hid (show PD W B R g (j + 1) w5 from ⟨now5, last5, A5, Sa5, Sr5, vL5, ⟨d1, d2, d3, d4, d5⟩, b1, b2⟩); clear d1 d2 d3 d4 d5 hq5 b1 b2 c0 c1 c2 c3 c4 c5 c6)
          | (go_at_call 11; refine CL.out.mono ?_; rintro e w' ⟨rfl, rfl⟩))
      all_goals
        go_wp2_with fail
        go_roundw
        case rel => exact ⟨j + 1, hlt, hlt60, by go_num, HP5.out⟩
        case measure => simp [intOf]; omega
    · obtain ⟨now, last, A, Sa, Sr, vL, ⟨d1, d2, d3, d4, d5⟩, b1, b2⟩ := hP
      have hn : q ≤ (j : Int) ∨ (60 : Int) ≤ (j : Int) := by have := HQ.out; omega
      have CA := Lib.hid (all_any d1)
      have HD := Lib.hid (And.intro d1 (And.intro d2 (And.intro d4.kept b2)))
      clear d1 d2 d3 d4 d5 b1 b2 hlt
      by_cases h6 : q ≤ (j : Int)
      all_goals
        try have h60 : (60 : Int) ≤ (j : Int) := by omega
        clear hn
        go_wp2_with fail
        refine CA.out.mono ?_
        rintro e w5 ⟨va, rfl, ra, k5⟩
        have e1 := HD.out.1.kept k5
        have e2 := HD.out.2.1.kept k5
        have cR0 := e2.c0
        have cR1 := e2.c1
        have hlb := e2.lenL
        have hla := fun ty u => ra.len Try.underlying40 ty u
        rw [List.length_map, List.length_map] at hla
        obtain ⟨z, hz⟩ : ∃ z : Int, (A.length : Int) = z := ⟨_, rfl⟩
        rw [hz] at hla hlb
        have CG := Lib.hid (fun m => grain_al (e1.kept ((Kept.refl w5).drewN m)))
        have RA := Lib.hid ra
        have E2 := Lib.hid e2
        have HK5 := Lib.hid (HD.out.2.2.1.trans k5)
        have HZ := Lib.hid hz
        clear e1 e2 ra k5 hz CA
        go_wp2_with fail
        go_quiet ((first | (go_at_call 13; exact Calls.quiet_of_same ((CG.out _).mono fun _ _ h => ⟨h.1, h.2.symm⟩))))
        go_wp2_with fail
        go_loopw [9] (fun i wr => ∃ m : Nat, m ≤ A.length ∧ i = .int .i64 (m : Int) ∧ Kept w5 wr) (fun i _ => A.length - (intOf i).toNat)
        case atStart => exact ⟨0, Nat.zero_le _, rfl, (Kept.refl _).drewN _⟩
        case round =>
          obtain ⟨m, hm, rfl, hk⟩ := hrel
          by_cases hml : m < A.length
          · have hmz : (m : Int) < z := by have := HZ.out; omega
            have hm0 : (0 : Int) ≤ (m : Int) := by omega
            have hmA : (m : Int) < (A.length : Int) := by omega
            have hm60 : (m : Int) ≤ 60 := by have := HD.out.2.2.2; omega
            obtain ⟨⟨y, c⟩, hy⟩ : ∃ e, A[m]? = some e := ⟨_, List.getElem?_eq_getElem hml⟩
            obtain ⟨n, i, s, a, k⟩ := y
            obtain ⟨b1, c1, e1, hc1, _, pp⟩ := (RA.out.keep hk.drew).at (i := m) (l := [n, i, s, a, k]) (by rw [List.getElem?_map, List.getElem?_map, hy]; rfl)
            rw [List.length_map, List.length_map] at e1 hc1
            have E3 := E2.out.kept hk.drew
            obtain ⟨b2, c2, e2, hc2, _, r0, r1, r2, r3, r4, r5⟩ := E3.at hy
            have r6 := E3.c0
            rw [e2] at r6
            have hc1' : (A.length : Int) ≤ (c1 : Int) := by omega
            have hc2' : (A.length : Int) ≤ (c2 : Int) := by omega
            have p0 := pp 0 _ rfl
            have p1 := pp 1 _ rfl
            have p2 := pp 2 _ rfl
            have p3 := pp 3 _ rfl
            have p4 := pp 4 _ rfl
            rw [Nat.add_zero] at p0
            have SX : ∀ u, Kept wr.drew u → u.cell? ⟨b1, m * 5, none⟩ = some (.int .i64 n) ∧ u.cell? ⟨b1, m * 5 + 1, none⟩ = some (.int .i64 i) ∧ u.cell? ⟨b1, m * 5 + 2, none⟩ = some (.int .i64 s) ∧ u.cell? ⟨b1, m * 5 + 3, none⟩ = some (.int .i64 a) ∧ u.cell? ⟨b1, m * 5 + 4, none⟩ = some (.int .i64 k) ∧ u.cell? ⟨R, 0, none⟩ = some (.slice (some ⟨b2, 0, none⟩) A.length c2) ∧ u.cell? ⟨b2, m * 6, none⟩ = some (.int .i64 n) ∧ u.cell? ⟨b2, m * 6 + 1, none⟩ = some (.int .i64 i) ∧ u.cell? ⟨b2, m * 6 + 2, none⟩ = some (.int .i64 s) ∧ u.cell? ⟨b2, m * 6 + 3, none⟩ = some (.int .i64 a) ∧ u.cell? ⟨b2, m * 6 + 4, none⟩ = some (.int .i64 k) := fun u hk => ⟨cell_on hk p0, cell_on hk p1, cell_on hk p2, cell_on hk p3, cell_on hk p4, cell_on hk r6, cell_on hk r0, cell_on hk r1, cell_on hk r2, cell_on hk r3, cell_on hk r4⟩
            have SX := Lib.hid SX
            have he2 : ∀ w, (binOp .neq 42 (.agg #[.int .i64 n, .int .i64 i, .int .i64 s, .int .i64 a, .int .i64 k]) (.agg #[.int .i64 n, .int .i64 i, .int .i64 s, .int .i64 a, .int .i64 k])).run Try.prog w = .ok (.bool false) w := fun w => by rw [neq42, decide_eq_true rfl]; rfl
            have HK := Lib.hid hk
            clear pp p0 p1 p2 p3 p4 r0 r1 r2 r3 r4 r5 r6 hy hk hc1 hc2 E3 cR0 cR1 e2
            subst e1
            go_wp2_with fail
            go_region_held3 (fun w' => w'.cell? ⟨b1, m * 5, none⟩ = some (.int .i64 n) ∧ w'.cell? ⟨b1, m * 5 + 1, none⟩ = some (.int .i64 i) ∧ w'.cell? ⟨b1, m * 5 + 2, none⟩ = some (.int .i64 s) ∧ w'.cell? ⟨b1, m * 5 + 3, none⟩ = some (.int .i64 a) ∧ w'.cell? ⟨b1, m * 5 + 4, none⟩ = some (.int .i64 k) ∧ w'.cell? ⟨R, 0, none⟩ = some (.slice (some ⟨b2, 0, none⟩) A.length c2) ∧ w'.cell? ⟨b2, m * 6, none⟩ = some (.int .i64 n) ∧ w'.cell? ⟨b2, m * 6 + 1, none⟩ = some (.int .i64 i) ∧ w'.cell? ⟨b2, m * 6 + 2, none⟩ = some (.int .i64 s) ∧ w'.cell? ⟨b2, m * 6 + 3, none⟩ = some (.int .i64 a) ∧ w'.cell? ⟨b2, m * 6 + 4, none⟩ = some (.int .i64 k))
              (first | exact SX.out _ (Kept.refl _) | exact SX.out _ (by assumption))
              (first | (go_at_call 14; refine (mine_any n i s a k _).mono ?_; rintro e w7 ⟨rfl, hk7⟩))
            go_wp2_with fail
            go_roundw
            case rel => exact ⟨m + 1, hml, by go_num, HK.out.drew.trans hk7⟩
            case measure => simp [intOf]; omega
          · have hmz : z ≤ (m : Int) := by have := HZ.out; omega
            have HK := Lib.hid hk
            clear hk hml
            go_wp2_with fail
            refine (awake_any _).mono ?_
            rintro e w7 ⟨rfl, k7⟩
            go_wp2_with fail
            go_ret
            exact ⟨rfl, (HK5.out.trans HK.out).trans k7⟩
set_option maxRecDepth 100000 in
theorem aplays_all {H : Type} {enc : TypeId × Value → H} {r : Reach} {b0 : Nat} {d : DataW H} {z : List MemPlace} (p : Int) (hv : Value.okWide Try.prog W r b0 22 v) (h : DataW.Trod enc Try.prog W 0 (fun _ => true) true 22 v d z) :
    Calls Try.prog 3 #[.int .i64 p, v] W fun e w' => e = .returned (.bool true) ∧ Kept W w' := by
  obtain ⟨len, G, hI⟩ := Args.open_dls hv h
  exact aplays_any p hI
end

end Go.Proofs.Ytckmkagijanbdaa.Al
