/- The law 'to ask at once, or in any steps, tells the same names' walked. -/
import Derived.Test.YtckmkagijanbdaaAlP
import Derived.IntWalk
namespace Go.Proofs.Ytckmkagijanbdaa.Al
open Go.RowKit Go.Sort Tk Wh IdM
open St (Kept blk_cell blk_free blk_lt blk_set)
open Args (Ints Als)
set_option linter.unusedVariables false

theorem als_at {W w : World} {v : Value} {len : Nat} {G : Nat → Nm × Int} (h : Als W v len G) {i : Nat} (hi : i < len) : ∃ b off cap, v = .slice (some ⟨b, off, none⟩) len cap ∧ ∀ j, j < len → okN (G j).1 ∧ ∀ w, Kept W w →
    w.cell? ⟨b, off + j * 6, none⟩ = some (.int .i64 (G j).1.n) ∧ w.cell? ⟨b, off + j * 6 + 1, none⟩ = some (.int .i64 (G j).1.i) ∧ w.cell? ⟨b, off + j * 6 + 2, none⟩ = some (.int .i64 (G j).1.s) ∧ w.cell? ⟨b, off + j * 6 + 3, none⟩ = some (.int .i64 (G j).1.a) ∧ w.cell? ⟨b, off + j * 6 + 4, none⟩ = some (.int .i64 (G j).1.k) ∧ w.cell? ⟨b, off + j * 6 + 5, none⟩ = some (.int .i64 (G j).2) := by
  rcases h with ⟨rfl, _⟩ | ⟨_, _, b, off, cap, hv, hb, hc⟩
  · omega
  · refine ⟨b, off, cap, hv, fun j hj => ?_⟩
    obtain ⟨h0, h1, h2, h3, h4, h5, h6⟩ := hc j hj
    exact ⟨h0, fun w hk => ⟨cell_on hk h1, cell_on hk h2, cell_on hk h3, cell_on hk h4, cell_on hk h5, cell_on hk h6⟩⟩
theorem ints_at {W : World} {v : Value} {len : Nat} {F : Nat → Int} (h : Ints W v len F) {i : Nat} (hi : i < len) : ∃ b off cap, v = .slice (some ⟨b, off, none⟩) len cap ∧ ∀ j, j < len → ∀ w, Kept W w → w.cell? ⟨b, off + j, none⟩ = some (.int .i64 (F j)) := by
  rcases h with ⟨rfl, _⟩ | ⟨_, _, b, off, cap, hv, hb, hc⟩
  · omega
  · exact ⟨b, off, cap, hv, fun j hj w hk => cell_on hk (hc j hj).1⟩
theorem ints_len {W : World} {v : Value} {len : Nat} {F : Nat → Int} (h : Ints W v len F) (ty : TypeId) (u : World) : (Builtin.len_ #[67] ty #[v]).run Try.prog u = .ok (.int .i64 (len : Int)) u := by
  rcases h with ⟨rfl, a, cap, rfl⟩ | ⟨_, _, b, off, cap, rfl, _⟩
  · simp [Builtin.len_, run_underlying Try.underlying67, goInt]
  · simp [Builtin.len_, run_underlying Try.underlying67, goInt]

section
variable {W : World} {v vs : Value} {len slen : Nat} {G : Nat → Nm × Int} {F : Nat → Int}

set_option maxHeartbeats 4000000 in
set_option maxRecDepth 100000 in
theorem apieces_any (p to : Int) (hI : Als W v len G) (hJ : Ints W vs slen F) : Calls Try.prog 7 #[.int .i64 p, v, vs, .int .i64 to] W fun e w' => e = .returned (.bool true) ∧ Kept W w' := by
  have hlen := fun ty u => Args.als_len hI ty u
  have hslen := fun ty u => ints_len hJ ty u
  obtain ⟨q, hq⟩ : ∃ q : Int, (len : Int) = q := ⟨_, rfl⟩
  obtain ⟨qs, hqs⟩ : ∃ q : Int, (slen : Int) = q := ⟨_, rfl⟩
  rw [hq] at hlen
  rw [hqs] at hslen
  by_cases h1 : 40 < q
  · clear hI hJ hq hqs
    go_enter Try.func7, Try.ntmps7
    go_wp2_with (go_at_call 15; refine (awake_any _).mono ?_; rintro e w' ⟨rfl, hk⟩)
    go_ret
    exact ⟨rfl, hk⟩
  · by_cases h2 : 30 < qs
    · clear hI hJ hq hqs
      go_enter Try.func7, Try.ntmps7
      go_wp2_with (go_at_call 15; refine (awake_any _).mono ?_; rintro e w' ⟨rfl, hk⟩)
      go_ret
      exact ⟨rfl, hk⟩
    · have hl40 : len ≤ 40 := by omega
      have hs30 : slen ≤ 30 := by omega
      have HI := Lib.hid hI
      have HJ := Lib.hid hJ
      have HQ := Lib.hid hq
      have HQS := Lib.hid hqs
      have hq0 : 0 ≤ q := by omega
      obtain ⟨g, hg⟩ : ∃ g, gr p = g := ⟨_, rfl⟩
      have CN := fun w => anew_any (w := w) p
      rw [hg] at CN
      have HCN := Lib.hid CN
      clear hI hJ hq hqs CN hg
      go_enter Try.func7, Try.ntmps7
      go_wp2_with fail
      refine (HCN.out _).mono ?_
      rintro e w1 ⟨S1, A, rfl, g1, s1, k1⟩
      have H1 := Lib.hid (And.intro g1 (And.intro s1 k1))
      clear g1 s1 k1
      go_wp2_with fail
      refine (HCN.out _).mono ?_
      rintro e w2 ⟨S2, B, rfl, g2, s2, k2⟩
      have T0 := Lib.hid (show P2 W A B g 0 ((0 : Nat) : Int) (laidA G 0) 0 ((0 : Nat) : Int) (laidA G 0) w2 from
        ⟨S1, S2, H1.out.1.kept k2, g2, fun k c d => by have := H1.out.1.lt k c; have := s2 k d; omega, ⟨H1.out.2.2.trans k2, H1.out.2.1⟩, ⟨H1.out.2.2.trans k2, fun k d => by have := s2 k d; have := H1.out.2.2.size; omega⟩⟩)
      clear g2 s2 k2
      go_wp2_with fail
      go_loopw [11] (fun i wr => ∃ k : Nat, k ≤ len ∧ i = .int .i64 (k : Int) ∧ P2 W A B g 0 (k : Int) (laidA G k) 0 (k : Int) (laidA G k) wr) (fun i _ => len - (intOf i).toNat)
      case atStart => exact ⟨0, Nat.zero_le _, rfl, T0.out⟩
      case round =>
        obtain ⟨j, hk, rfl, hT⟩ := hrel
        have hlenk := laidA_len G j
        by_cases hlt : j < len
        · have hltq : (j : Int) < q := by have := HQ.out; omega
          have hj0 : (0 : Int) ≤ (j : Int) := by omega
          have hjl : (j : Int) < (len : Int) := by omega
          obtain ⟨b, off, cap, hv1, hcell⟩ := als_at (w := wr) HI.out hlt
          obtain ⟨hok, hc⟩ := hcell j hlt
          have hnx : laidA G (j + 1) = put (G j).1 (clamp (G j).2) (laidA G j) := rfl
          obtain ⟨G0, hG0⟩ : ∃ z, G j = z := ⟨_, rfl⟩
          rw [hG0] at hok hc hnx
          obtain ⟨⟨n, i, s, a, k⟩, t⟩ := G0
          have hnx : laidA G (j + 1) = put ⟨n, i, s, a, k⟩ (clamp t) (laidA G j) := hnx
          have HX := Lib.hid hok
          have HC := Lib.hid hc
          have HNX := Lib.hid hnx
          have HLK : (laidA G j).length < 4096 := by omega
          have HLJ : (j : Int) < 1152921504606846976 := by omega
          have HLK := Lib.hid HLK
          have HLJ := Lib.hid HLJ
          have hT0 := hT.go (Kept.refl _).drew
          clear hcell hok hc hnx hG0 hlenk
          subst hv1
          go_wp2_with fail
          go_region_held3 (fun w' => w'.cell? ⟨b, off + j * 6, none⟩ = some (.int .i64 n) ∧ w'.cell? ⟨b, off + j * 6 + 1, none⟩ = some (.int .i64 i) ∧ w'.cell? ⟨b, off + j * 6 + 2, none⟩ = some (.int .i64 s) ∧ w'.cell? ⟨b, off + j * 6 + 3, none⟩ = some (.int .i64 a) ∧ w'.cell? ⟨b, off + j * 6 + 4, none⟩ = some (.int .i64 k) ∧ w'.cell? ⟨b, off + j * 6 + 5, none⟩ = some (.int .i64 t))
            (first | exact HC.out _ (P2.kept (by assumption)))
            (first | (go_at_call 14; refine (mine_any n i s a k _).mono ?_; rintro e u1 ⟨rfl, hk1⟩; have hT1 := P2.go (by assumption) hk1)
                   | (go_at_call 16; first | ((with_reducible refine (P2.setA (t := t) (by assumption) HX.out HLK.out HLJ.out).mono ?_); rintro e u1 ⟨rfl, hT1⟩) | ((with_reducible refine (P2.setB (t := t) (by assumption) HX.out HLK.out HLJ.out).mono ?_); rintro e u1 ⟨rfl, hT1⟩)))
          have hT2 : P2 W A B g 0 ((j : Int) + 1) (put ⟨n, i, s, a, k⟩ (clamp t) (laidA G j)) 0 ((j : Int) + 1) (put ⟨n, i, s, a, k⟩ (clamp t) (laidA G j)) u1 := by assumption
          have HT2 := Lib.hid hT2
          clear hT2
          go_wp2_with fail
          go_roundw
          case rel => exact ⟨j + 1, hlt, by go_num, by rw [show ((j + 1 : Nat) : Int) = (j : Int) + 1 by omega, HNX.out]; exact HT2.out⟩
          case measure => simp [intOf]; omega
        · have hnl : j = len := by omega
          have hqn : q ≤ (j : Int) := by have := HQ.out; omega
          subst hnl
          have P0 := Lib.hid (show Pw W A B g (j : Int) (laidA G j) 0 [] (.slice none 0 0) wr from by
            obtain ⟨Sa, Sb, T⟩ := hT
            exact ⟨Sa, Sb, _, T, Or.inl ⟨rfl, rfl⟩, rowi_nil _ _ _, fun g e => by simp [Value.ownBlock] at e⟩)
          have HLn := Lib.hid hlenk
          clear hT hlenk hlt
          go_wp2_with fail
          obtain ⟨ct, hct⟩ : ∃ c, clamp to = c := ⟨_, rfl⟩
          have ct0 := clamp_lo to
          rw [hct] at ct0
          have RT : ∀ w, Calls Try.prog 18 #[.int .i64 to] w fun e w' => e = .returned (.int .i64 ct) ∧ w = w' := fun w => by have := rclamp_any to w; rw [hct] at this; exact this
          have RT := Lib.hid RT
          have HCT := Lib.hid hct
          clear hct
          go_loopw [13, 12] (fun i vp wr => ∃ k : Nat, k ≤ slen ∧ i = .int .i64 (k : Int) ∧ ∃ nb P, nb ≤ ct ∧ Pw W A B g (j : Int) (laidA G j) nb P vp wr) (fun i _ _ => slen - (intOf i).toNat)
          case atStart => exact ⟨0, Nat.zero_le _, rfl, _, _, ct0, P0.out⟩
          case round =>
            obtain ⟨k, hk, rfl, nb, P, hnb, hP⟩ := hrel
            by_cases hlt : k < slen
            · have hltq : (k : Int) < qs := by have := HQS.out; omega
              obtain ⟨b, off, cap, hv1, hcell⟩ := ints_at HJ.out hlt
              have hkW := hP.kept
              have hc1 := hcell k hlt _ hkW
              obtain ⟨f, hf⟩ : ∃ f, F k = f := ⟨_, rfl⟩
              rw [hf] at hc1
              obtain ⟨cf, hcf3⟩ : ∃ c, clamp f = c := ⟨_, rfl⟩
              have RF : ∀ w, Calls Try.prog 18 #[.int .i64 f] w fun e w' => e = .returned (.int .i64 cf) ∧ w = w' := fun w => by have := rclamp_any f w; rw [hcf3] at this; exact this
              have RF := Lib.hid RF
              by_cases hc : cf ≤ ct
              · obtain ⟨m, hm⟩ : ∃ m, max nb (clamp f) = m := ⟨_, rfl⟩
                have hmf : m ≤ ct := by omega
                have C := Lib.hid (hP.due (by have := HLn.out; omega) f m hm)
                clear hP hcell hkW hf hcf3 hm
                subst hv1
                go_wp2_with fail
                refine (RF.out _).mono ?_; rintro e w' ⟨rfl, rfl⟩
                go_wp2_with fail
                refine (RT.out _).mono ?_; rintro e w' ⟨rfl, rfl⟩
                go_wp2_with fail
                refine C.out.mono ?_
                rintro e w3 ⟨v5, rfl, ⟨P2, D, x1, x2, x3, x4, x5⟩, hk3⟩
                have X5 := Lib.hid x5
                have x3 : (P2.map Nm.ints).length + (D.map Nm.ints).length ≤ 1000000 := by rw [List.length_map, List.length_map]; exact x3
                clear x4 x5 hc1
                go_wp2_with (at_builtin; refine wpList_append_rowsi rowN _ rfl (.tmp 81) (.tmp 87) rfl _ _ _ _ rfl rfl x1 x2 x3 ?_; intro vp2 w4 y1 y2 y3)
                go_roundw
                case rel => exact ⟨k + 1, hlt, by go_num, _, _, hmf, X5.out _ _ y1 y2 y3⟩
                case measure => simp [intOf]; omega
              · have HP := Lib.hid hP
                clear hP hcell hkW hf hcf3
                subst hv1
                go_wp2_with fail
                refine (RF.out _).mono ?_; rintro e w' ⟨rfl, rfl⟩
                go_wp2_with fail
                refine (RT.out _).mono ?_; rintro e w' ⟨rfl, rfl⟩
                go_wp2_with fail
                go_roundw
                case rel => exact ⟨k + 1, hlt, by go_num, _, _, hnb, HP.out⟩
                case measure => simp [intOf]; omega
            · have hks : qs ≤ (k : Int) := by have := HQS.out; omega
              have hm : max nb (clamp to) = ct := by have := HCT.out; omega
              have C := Lib.hid (hP.due (by have := HLn.out; omega) to ct hm)
              clear hP hlt hm
              go_wp2_with fail
              refine C.out.mono ?_
              rintro e w3 ⟨v5, rfl, ⟨P2, D, x1, x2, x3, x4, x5⟩, hk3⟩
              have X5 := Lib.hid x5
              have X4 := Lib.hid x4
              have x3 : (P2.map Nm.ints).length + (D.map Nm.ints).length ≤ 1000000 := by rw [List.length_map, List.length_map]; exact x3
              clear x4 x5
              go_wp2_with (at_builtin; refine wpList_append_rowsi rowN _ rfl (.tmp 89) (.tmp 92) rfl _ _ _ _ rfl rfl x1 x2 x3 ?_; intro vp2 w4 y1 y2 y3)
              obtain ⟨Sa4, Sb4, Lb4, T4, p4, r4, b4⟩ := X5.out _ _ y1 y2 y3
              obtain ⟨E, hE⟩ : ∃ E, P2 ++ D = E := ⟨_, rfl⟩
              rw [hE] at p4 r4
              have hperm : E.Perm (dN g ct (laidA G j)) := by rw [← hE]; exact X4.out
              obtain ⟨Da, hDa⟩ : ∃ D, dN g ct (laidA G j) = D := ⟨_, rfl⟩
              have hDn : Da.Nodup := by rw [← hDa]; exact names_nodup ((laidA_ord G j).filter _)
              rw [hDa] at hperm
              have hlb := p4.len
              have hsum := due_rest_len g ct (laidA G j)
              have hdal : Da.length = (dueA g ct (laidA G j)).length := by rw [← hDa]; unfold dN; rw [List.length_map]
              have hEl := hperm.length_eq
              have hEn : E.Nodup := hperm.symm.nodup hDn
              have C2 := Lib.hid ((due_any T4.a to (to := ct) (by rw [HCT.out]; omega)).mono (fun e w5 hp => show ∃ v6, e = .returned v6 ∧ RowI w5 v6 42 5 (Da.map Nm.ints) ∧ RowI w5 vp2 42 5 (E.map Nm.ints) ∧ ∃ Sa Sb, Tw W A B g ct (j : Int) (restA g ct (laidA G j)) g ct (j : Int) Lb4 w5 Sa Sb by
                obtain ⟨v6, S', he, r6, h6, s6, f6, n6⟩ := hp
                exact ⟨v6, he, by rw [← hDa]; exact r6, r4.kept fun g e => f6.block g (r4.lt e) (b4 g e).2.1, _, _, T4.left h6 s6 f6⟩))
              have hleq : Lb4.length = (restA g ct (laidA G j)).length := by omega
              have hdn : Da.length ≤ 40 := by have := HLn.out; omega
              have hen : E.length ≤ 40 := by omega
              have HLEQ := Lib.hid hleq
              have HE := Lib.hid (And.intro hEn (And.intro hEl (And.intro hperm hDn)))
              clear T4 p4 r4 b4 y1 y2 y3 x1 x2 x3 hk3 hlb hsum hdal hDa C hleq hE hperm hDn hEl hEn
              go_wp2_with fail
              refine C2.out.mono ?_
              rintro e w5 ⟨v6, rfl, r6, rp, Sa5, Sb5, T5⟩
              obtain ⟨dl, hdl⟩ : ∃ d : Int, (Da.length : Int) = d := ⟨_, rfl⟩
              have hl6 := fun ty u => r6.len Try.underlying40 ty u
              have hlp := fun ty u => rp.len Try.underlying40 ty u
              rw [List.length_map, hdl] at hl6
              rw [List.length_map, HE.out.2.1, hdl] at hlp
              obtain ⟨rl, hrl⟩ : ∃ d : Int, (((restA g ct (laidA G j)).length : Nat) : Int) = d := ⟨_, rfl⟩
              have CA : ∀ w', Kept w5 w' → Calls Try.prog 11 #[.pointer (some ⟨A, 0, none⟩)] w' fun e w'' => e = .returned (.int .i64 rl) ∧ w' = w'' := fun w' hk => by have := len_al (T5.go hk).a; rw [hrl] at this; exact this
              have CB : ∀ w', Kept w5 w' → Calls Try.prog 11 #[.pointer (some ⟨B, 0, none⟩)] w' fun e w'' => e = .returned (.int .i64 rl) ∧ w' = w'' := fun w' hk => by have := len_al (T5.go hk).b; rw [HLEQ.out, hrl] at this; exact this
              have CA := Lib.hid CA
              have CB := Lib.hid CB
              have HK5 := Lib.hid T5.ka.kept
              have R6 := Lib.hid r6
              have RP := Lib.hid rp
              have HDL := Lib.hid hdl
              have hdl0 : 0 ≤ dl := by omega
              clear T5 r6 rp C2 hrl hdl
              go_wp2_with fail
              go_loopw [15] (fun i wr => ∃ j : Nat, j ≤ Da.length ∧ i = .int .i64 (j : Int) ∧ Kept w5 wr) (fun i _ => Da.length - (intOf i).toNat)
              case atStart => exact ⟨0, Nat.zero_le _, rfl, Kept.refl _⟩
              case round =>
                obtain ⟨m, hm, rfl, hkr⟩ := hrel
                by_cases hml : m < Da.length
                · have hmd : (m : Int) < dl := by have := HDL.out; omega
                  have hm0 : (0 : Int) ≤ (m : Int) := by omega
                  obtain ⟨x, hx⟩ : ∃ x, Da[m]? = some x := ⟨_, List.getElem?_eq_getElem hml⟩
                  have hxE : x ∈ E := HE.out.2.2.1.mem_iff.2 (List.mem_of_getElem? hx)
                  have hend : hasI E x E.length = 1 := by rw [hasI_end, if_pos hxE]
                  have HX := Lib.hid hx
                  have HEND := Lib.hid hend
                  have HKR := Lib.hid hkr
                  clear hx hxE hend hkr
                  go_wp2_with fail
                  go_loopw [16, 17] (fun nv kv wr => ∃ (k : Nat) (h : Int), k ≤ E.length ∧ kv = .int .i64 (k : Int) ∧ nv = .int .i64 h ∧ Hid (h = hasI E x k) ∧ Kept w5 wr) (fun _ kv _ => E.length - (intOf kv).toNat)
                  case atStart => exact ⟨0, 0, Nat.zero_le _, rfl, rfl, Lib.hid (hasI_zero _ _).symm, HKR.out⟩
                  case round =>
                    obtain ⟨k, h, hk, rfl, rfl, hh, hkr⟩ := hrel
                    by_cases hkl : k < E.length
                    · have hkd : (k : Int) < dl := by have := HDL.out; have := HE.out.2.1; omega
                      have hk0 : (0 : Int) ≤ (k : Int) := by omega
                      obtain ⟨y, hy⟩ : ∃ y, E[k]? = some y := ⟨_, List.getElem?_eq_getElem hkl⟩
                      obtain ⟨g6, c6, e6, hc6, _, k6⟩ := (R6.out.keep hkr).at (i := m) (l := x.ints) (by rw [List.getElem?_map, HX.out]; rfl)
                      obtain ⟨gp, cp, ep, hcp, _, kp⟩ := (RP.out.keep hkr).at (i := k) (l := y.ints) (by rw [List.getElem?_map, hy]; rfl)
                      rw [List.length_map] at e6 hc6 ep hcp
                      obtain ⟨xn, xi, xs, xa, xk⟩ := x
                      obtain ⟨yn, yi, ys, ya, yk⟩ := y
                      have p0 := k6 0 _ rfl
                      have p1 := k6 1 _ rfl
                      have p2 := k6 2 _ rfl
                      have p3 := k6 3 _ rfl
                      have p4 := k6 4 _ rfl
                      have q0 := kp 0 _ rfl
                      have q1 := kp 1 _ rfl
                      have q2 := kp 2 _ rfl
                      have q3 := kp 3 _ rfl
                      have q4 := kp 4 _ rfl
                      rw [Nat.add_zero] at p0 q0
                      have hmi : (m : Int) < (Da.length : Int) := by omega
                      have hki : (k : Int) < (E.length : Int) := by omega
                      have HK := Lib.hid hkr
                      clear k6 kp hkr hc6 hcp
                      subst e6
                      subst ep
                      by_cases hyx : (⟨yn, yi, ys, ya, yk⟩ : Nm) = ⟨xn, xi, xs, xa, xk⟩
                      · have he2 : ∀ w, (binOp .eql 42 (.agg #[.int .i64 yn, .int .i64 yi, .int .i64 ys, .int .i64 ya, .int .i64 yk]) (.agg #[.int .i64 xn, .int .i64 xi, .int .i64 xs, .int .i64 xa, .int .i64 xk])).run Try.prog w = .ok (.bool true) w := fun w => by rw [eq42, decide_eq_true hyx]
                        obtain ⟨h1, h2⟩ := hasI_hit HE.out.1 (by rw [← hyx]; exact hy : E[k]? = some (⟨xn, xi, xs, xa, xk⟩ : Nm))
                        have h0 : h = 0 := by rw [hh.out, h1]
                        have H2 := Lib.hid h2
                        clear h1 h2 hy hyx hh
                        subst h0
                        go_wp2_with fail
                        go_quiet (fail)
                        go_wp2_with fail
                        go_roundw
                        case rel => exact ⟨k + 1, 1, hkl, by go_num, by go_num, Lib.hid H2.out.symm, HK.out.drewN _⟩
                        case measure => simp [intOf]; omega
                      · have he2 : ∀ w, (binOp .eql 42 (.agg #[.int .i64 yn, .int .i64 yi, .int .i64 ys, .int .i64 ya, .int .i64 yk]) (.agg #[.int .i64 xn, .int .i64 xi, .int .i64 xs, .int .i64 xa, .int .i64 xk])).run Try.prog w = .ok (.bool false) w := fun w => by rw [eq42, decide_eq_false hyx]
                        have h2 := hasI_miss hy hyx
                        have H2 := Lib.hid h2
                        have HH := Lib.hid hh.out
                        clear h2 hy hyx hh
                        go_wp2_with fail
                        go_quiet (fail)
                        go_wp2_with fail
                        go_roundw
                        case rel => exact ⟨k + 1, h, hkl, by go_num, rfl, Lib.hid (by rw [H2.out]; exact HH.out), HK.out.drewN _⟩
                        case measure => simp [intOf]; omega
                    · have hke : k = E.length := by omega
                      have hkd : dl ≤ (k : Int) := by have := HDL.out; have := HE.out.2.1; omega
                      have h1 : h = 1 := by rw [hh.out, hke]; exact HEND.out
                      subst h1
                      have HK := Lib.hid hkr
                      clear hh hkr hke hkl
                      go_wp2_with fail
                      go_roundw
                      case rel => exact ⟨m + 1, hml, by go_num, HK.out⟩
                      case measure => simp [intOf]; omega
                · have hmd : dl ≤ (m : Int) := by have := HDL.out; omega
                  have HKR := Lib.hid hkr
                  have CA2 := Lib.hid (CA.out _ hkr)
                  have CB2 := Lib.hid (CB.out _ hkr)
                  clear hkr hml
                  go_wp2_with fail
                  refine CA2.out.mono ?_; rintro e w' ⟨rfl, rfl⟩
                  go_wp2_with fail
                  refine CB2.out.mono ?_; rintro e w' ⟨rfl, rfl⟩
                  go_wp2_with fail
                  refine (awake_any _).mono ?_
                  rintro e w7 ⟨rfl, hk7⟩
                  go_wp2_with fail
                  go_ret
                  exact ⟨rfl, (HK5.out.trans HKR.out).trans hk7⟩
set_option maxRecDepth 100000 in
theorem apieces_all {H : Type} {enc : TypeId × Value → H} {r : Reach} {b0 : Nat} {d d' : DataW H} {z z' : List MemPlace} (p to : Int) (hv : Value.okWide Try.prog W r b0 37 v) (h : DataW.Trod enc Try.prog W 0 (fun _ => true) true 37 v d z)
    (hv' : Value.okWide Try.prog W r b0 67 vs) (h' : DataW.Trod enc Try.prog W 0 (fun _ => true) true 67 vs d' z') :
    Calls Try.prog 7 #[.int .i64 p, v, vs, .int .i64 to] W fun e w' => e = .returned (.bool true) ∧ Kept W w' := by
  obtain ⟨len, G, hI⟩ := Args.open_als hv h
  obtain ⟨slen, F, hJ⟩ := Args.open_ints67 hv' h'
  exact apieces_any p to hI hJ
end

end Go.Proofs.Ytckmkagijanbdaa.Al
