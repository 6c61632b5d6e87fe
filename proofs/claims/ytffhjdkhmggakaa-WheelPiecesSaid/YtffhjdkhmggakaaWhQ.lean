/- The law 'to go on at once, or in any steps, tells the same ones' walked. -/
import Derived.Test.YtffhjdkhmggakaaWhP
namespace Go.Proofs.Ytffhjdkhmggakaa.Wh
open Go.RowKit Tk Sl
open St (Kept)
open Args (Ints)

theorem due_app {n m : Int} (h : n ≤ m) : ∀ {L : List (Int × Int)}, L.Pairwise lt2 → due n L ++ due m (rest n L) = due m L
  | [], _ => rfl
  | e :: L, hs => by
    obtain ⟨h1, h2⟩ := List.pairwise_cons.1 hs
    have ih := due_app h h2
    unfold due rest at *
    rw [List.filter_cons, List.filter_cons]
    by_cases c : e.1 ≤ n
    · rw [if_pos (by simpa using c), if_neg (by simp; omega), List.filter_cons, if_pos (by simp; omega), List.cons_append, ih]
    · have hall : ∀ f ∈ L, ¬ f.1 ≤ n := fun f hf => by have := h1 f hf; unfold lt2 at this; omega
      have e1 : L.filter (fun e => decide (e.1 ≤ n)) = [] := List.filter_eq_nil_iff.2 fun f hf => by simpa using hall f hf
      have e2 : L.filter (fun e => decide (n < e.1)) = L := List.filter_eq_self.2 fun f hf => by have := hall f hf; simp; omega
      rw [if_neg (by simpa using c), if_pos (by simp; omega), e1, e2, List.nil_append]
theorem rest_rest {n m : Int} (h : n ≤ m) (L : List (Int × Int)) : rest m (rest n L) = rest m L := by
  unfold rest
  rw [List.filter_filter]
  congr 1
  funext e
  by_cases c : m < e.1
  · have : n < e.1 := by omega
    simp [c, this]
  · simp [c]

/-- what was told so far, step by step -/
def Pcs (c0 : Int) (L : List (Int × Int)) (n : Int) (P : List Int) (Lb : List (Int × Int)) : Prop :=
  (n = c0 ∧ P = [] ∧ Lb = L) ∨ (c0 ≤ n ∧ P = (due n L).map Prod.snd ∧ Lb = rest n L)
theorem Pcs.step {c0 n m : Int} {L Lb : List (Int × Int)} {P : List Int} (h : Pcs c0 L n P Lb) (hs : L.Pairwise lt2) (hm : n ≤ m) : Pcs c0 L m (P ++ (due m Lb).map Prod.snd) (rest m Lb) ∧ P ++ (due m Lb).map Prod.snd = (due m L).map Prod.snd ∧ rest m Lb = rest m L := by
  have key : P ++ (due m Lb).map Prod.snd = (due m L).map Prod.snd ∧ rest m Lb = rest m L := by
    rcases h with ⟨_, rfl, rfl⟩ | ⟨_, rfl, rfl⟩
    · exact ⟨rfl, rfl⟩
    · exact ⟨by rw [← List.map_append, due_app hm hs], rest_rest hm L⟩
  refine ⟨Or.inr ⟨?_, key.1, key.2⟩, key⟩
  rcases h with ⟨h, _⟩ | ⟨h, _⟩ <;> omega

/-- two wheels that share nothing -/
structure Two (W : World) (A B : Nat) (na la : Int) (La : List (Int × Int)) (nb lb : Int) (Lb : List (Int × Int)) (w : World) (Sa Sb : Nat → Prop) : Prop where
  a : Whl w Sa A na la La
  b : Whl w Sb B nb lb Lb
  ap : ∀ k, Sa k → ¬ Sb k
  ka : Acc W Sa w
  kb : Acc W Sb w
section
variable {W w w' : World} {A B : Nat} {na la nb lb : Int} {La Lb : List (Int × Int)} {Sa Sb S' : Nat → Prop}
theorem Two.right (h : Two W A B na la La nb lb Lb w Sa Sb) {nb' lb' : Int} {Lb' : List (Int × Int)} (hw : Whl w' S' B nb' lb' Lb') (hs : ∀ k, S' k → Sb k ∨ w.heap.size ≤ k) (hf : Fr Sb w w') : Two W A B na la La nb' lb' Lb' w' Sa S' := by
  have a' := h.a.fr hf h.ap
  exact ⟨a', hw, fun k c d => (hs k d).elim (h.ap k c) (fun e => by have := h.a.lt k c; omega), ⟨(h.kb.step hf hs).kept, h.ka.new⟩, h.kb.step hf hs⟩
theorem Two.left (h : Two W A B na la La nb lb Lb w Sa Sb) {na' la' : Int} {La' : List (Int × Int)} (hw : Whl w' S' A na' la' La') (hs : ∀ k, S' k → Sa k ∨ w.heap.size ≤ k) (hf : Fr Sa w w') : Two W A B na' la' La' nb lb Lb w' S' Sb := by
  have b' := h.b.fr hf (fun k c d => h.ap k d c)
  exact ⟨hw, b', fun k c d => (hs k c).elim (fun e => h.ap k e d) (fun e => by have := h.b.lt k d; omega), h.ka.step hf hs, ⟨(h.ka.step hf hs).kept, h.kb.new⟩⟩
/-- other blocks turn -/
theorem Two.other (h : Two W A B na la La nb lb Lb w Sa Sb) (hf : Fr S' w w') (ha : ∀ k, Sa k → ¬ S' k) (hb : ∀ k, Sb k → ¬ S' k) (hn : ∀ k, S' k → W.heap.size ≤ k ∨ w.heap.size ≤ k) : Two W A B na la La nb lb Lb w' Sa Sb := by
  have hk : Kept W w' := ((Fr.kept (S := fun k => W.heap.size ≤ k) h.ka.kept).trans hf (fun k c => (hn k c).elim Or.inl (fun d => by have := h.ka.kept.size; exact Or.inl (by omega)))).keeps (fun k c => c)
  exact ⟨h.a.fr hf ha, h.b.fr hf hb, h.ap, ⟨hk, h.ka.new⟩, ⟨hk, h.kb.new⟩⟩

/-- the wheels of the law, with what was told of the second one -/
def Pw (W : World) (A B : Nat) (na : Int) (last : Int) (L : List (Int × Int)) (nb : Int) (P : List Int) (vp : Value) (w : World) : Prop :=
  ∃ Sa Sb Lb, Two W A B na last L nb last Lb w Sa Sb ∧ Pcs na L nb P Lb ∧ Row w vp P ∧ ∀ g, vp.ownBlock = some g → W.heap.size ≤ g ∧ ¬ Sa g ∧ ¬ Sb g

/-- the second one went on, and what it told was appended -/
theorem Pw.go {last : Int} {L : List (Int × Int)} {P : List Int} {vp : Value} {m : Int} (hs : L.Pairwise lt2) (hm : nb ≤ m) {Lb : List (Int × Int)} (T : Two W A B na last L nb last Lb w Sa Sb) (hp : Pcs na L nb P Lb) (hb : ∀ g, vp.ownBlock = some g → W.heap.size ≤ g ∧ ¬ Sa g ∧ ¬ Sb g)
    (hw : Whl w' S' B m last (rest m Lb)) (hss : ∀ k, S' k → Sb k ∨ w.heap.size ≤ k) (hf : Fr Sb w w') (hr : Row w vp P) {vp2 : Value} {w2 : World} (hr2 : Row w2 vp2 (P ++ (due m Lb).map Prod.snd)) (hg : w'.grownBy w2 vp.ownBlock) (hb2 : vp2.ownBlock = vp.ownBlock ∨ ∃ g, vp2.ownBlock = some g ∧ w'.heap.size ≤ g) :
    Pw W A B na last L m (P ++ (due m Lb).map Prod.snd) vp2 w2 := by
  have T1 := T.right hw hss hf
  have hs' : ∀ g, vp.ownBlock = some g → ¬ S' g := fun g e c => (hss g c).elim (hb g e).2.2 (fun d => by have := hr.lt e; omega)
  have hF : Fr (fun k => some k = vp.ownBlock) w' w2 := ⟨hg.os, hg.tape, hg.output, hg.size, fun k hk hn => hg.block k hk hn⟩
  have T2 := T1.other hF (fun k c e => (hb k e.symm).2.1 c) (fun k c e => hs' k e.symm c) (fun k e => Or.inl (hb k e.symm).1)
  refine ⟨Sa, S', _, T2, (hp.step hs hm).1, hr2, fun g e => ?_⟩
  rcases hb2 with c | ⟨g', c, hg'⟩
  · rw [c] at e; exact ⟨(hb g e).1, (hb g e).2.1, hs' g e⟩
  · rw [c] at e; obtain rfl := Option.some.inj e
    have h1 := hf.size
    have h2 := T.ka.kept.size
    exact ⟨by omega, fun c => by have := T.a.lt _ c; omega, fun c => by have := T1.b.lt _ c; omega⟩
end

theorem Pcs.low {c0 n : Int} {L Lb : List (Int × Int)} {P : List Int} (h : Pcs c0 L n P Lb) : c0 ≤ n := by
  rcases h with ⟨h, _⟩ | ⟨h, _⟩ <;> omega
theorem Pcs.len {c0 n : Int} {L Lb : List (Int × Int)} {P : List Int} (h : Pcs c0 L n P Lb) : P.length + Lb.length = L.length := by
  rcases h with ⟨_, rfl, rfl⟩ | ⟨_, rfl, rfl⟩
  · simp
  · rw [List.length_map]; exact due_rest n L
/-- the second one goes on, and what it tells is to be appended -/
def Mid (W : World) (A B : Nat) (na : Int) (last : Int) (L : List (Int × Int)) (m : Int) (vp : Value) (w' : World) (v5 : Value) : Prop :=
  ∃ P D, Row w' vp P ∧ Row w' v5 D ∧ P.length + D.length ≤ 1000000 ∧ P ++ D = (due m L).map Prod.snd ∧ ∀ vp2 w2, Row w2 vp2 (P ++ D) → w'.grownBy w2 vp.ownBlock → (vp2.ownBlock = vp.ownBlock ∨ ∃ g, vp2.ownBlock = some g ∧ w'.heap.size ≤ g) → Pw W A B na last L m (P ++ D) vp2 w2
theorem Pw.kept {W wr : World} {A B : Nat} {na nb last : Int} {L : List (Int × Int)} {P : List Int} {vp : Value} (h : Pw W A B na last L nb P vp wr) : Kept W wr := by obtain ⟨_, _, _, T, _⟩ := h; exact T.ka.kept
theorem Pw.advance {W wr : World} {A B : Nat} {na nb last : Int} {L : List (Int × Int)} {P : List Int} {vp : Value} (h : Pw W A B na last L nb P vp wr) (hs : L.Pairwise lt2) (hL : L.length ≤ 4096) (s m : Int) (hm : max nb (clamp s) = m) :
    Calls Try.prog 17 #[.pointer (some ⟨B, 0, none⟩), .int .i64 s] wr fun e w' => ∃ v5, e = .returned v5 ∧ Mid W A B na last L m vp w' v5 ∧ Kept W w' := by
  obtain ⟨Sa, Sb, Lb, T, hp, hr, hb⟩ := h
  refine (advance_any T.b s hm).mono fun e w' ⟨v5, S', he, r5, h5, s5, f5, n5⟩ => ⟨v5, he, ⟨P, _, hr.kept fun g e => f5.block g (hr.lt e) (hb g e).2.2, r5, ?_, (hp.step hs (by omega)).2.1, fun vp2 w2 x1 x2 x3 => Pw.go hs (by omega) T hp hb h5 s5 f5 hr x1 x2 x3⟩, (T.kb.step f5 s5).kept⟩
  have h1 := hp.len
  have h2 := due_rest m Lb
  rw [List.length_map]; omega

section
variable {W : World} {v vs : Value} {len slen : Nat} {F G : Nat → Int}
/-- one of the numbers that an argument may have no place for -/
theorem ints_len_le (h : Ints W v len F) : len ≤ maxLen := by
  rcases h with ⟨h, _⟩ | ⟨_, h, _⟩
  · rw [h]; exact Nat.zero_le _
  · exact h

set_option maxHeartbeats 4000000 in
set_option maxRecDepth 100000 in
theorem wpieces_any (now to : Int) (hI : Ints W v len F) (hJ : Ints W vs slen G) : Calls Try.prog 5 #[.int .i64 now, v, vs, .int .i64 to] W fun e w' => e = .returned (.bool true) ∧ Kept W w' := by
  have hlen := fun ty u => ints_len hI ty u
  have hslen := fun ty u => ints_len hJ ty u
  obtain ⟨q, hq⟩ : ∃ q : Int, (len : Int) = q := ⟨_, rfl⟩
  obtain ⟨qs, hqs⟩ : ∃ q : Int, (slen : Int) = q := ⟨_, rfl⟩
  rw [hq] at hlen
  rw [hqs] at hslen
  by_cases h1 : 100 < q
  · clear hI hJ hq hqs
    go_enter Try.func5, Try.ntmps5
    go_wp2_with (go_at_call 15; refine (awake_any _).mono ?_; rintro e w' ⟨rfl, hk⟩)
    go_ret
    exact ⟨rfl, hk⟩
  · by_cases h2 : 50 < qs
    · clear hI hJ hq hqs
      go_enter Try.func5, Try.ntmps5
      go_wp2_with (go_at_call 15; refine (awake_any _).mono ?_; rintro e w' ⟨rfl, hk⟩)
      go_ret
      exact ⟨rfl, hk⟩
    · have hl100 : len ≤ 100 := by omega
      have hs50 : slen ≤ 50 := by omega
      have HI := Lib.hid hI
      have HJ := Lib.hid hJ
      have HQ := Lib.hid hq
      have HQS := Lib.hid hqs
      have hq0 : 0 ≤ q := by omega
      clear hI hJ hq hqs
      go_enter Try.func5, Try.ntmps5
      go_wp2_with fail
      refine (new_any now).mono ?_
      rintro e w1 ⟨S1, A, rfl, g1, s1, k1⟩
      have H1 := Lib.hid (And.intro g1 (And.intro s1 k1))
      clear g1 s1 k1
      go_wp2_with fail
      refine (new_any now).mono ?_
      rintro e w2 ⟨S2, B, rfl, g2, s2, k2⟩
      have T0 := Lib.hid (show ∃ Sa Sb, Two W A B (clamp now) ((0 : Nat) : Int) (laidN F 0) (clamp now) ((0 : Nat) : Int) (laidN F 0) w2 Sa Sb from
        ⟨S1, S2, H1.out.1.kept k2, g2, fun k c d => by have := H1.out.1.lt k c; have := s2 k d; omega, ⟨H1.out.2.2.trans k2, H1.out.2.1⟩, ⟨H1.out.2.2.trans k2, fun k d => by have := s2 k d; have := H1.out.2.2.size; omega⟩⟩)
      clear g2 s2 k2
      go_wp2_with fail
      go_loopw [11] (fun i wr => ∃ k : Nat, k ≤ len ∧ i = .int .i64 (k : Int) ∧ ∃ Sa Sb, Two W A B (clamp now) (k : Int) (laidN F k) (clamp now) (k : Int) (laidN F k) wr Sa Sb) (fun i _ => len - (intOf i).toNat)
      case atStart => exact ⟨0, Nat.zero_le _, rfl, T0.out⟩
      case round =>
        obtain ⟨n, hk, rfl, Sa, Sb, hT⟩ := hrel
        have hlenk := laidN_length F n
        by_cases hlt : n < len
        · have hltq : (n : Int) < q := by have := HQ.out; omega
          obtain ⟨b, off, cap, hv1, hcell⟩ := ints_at HI.out hlt
          have hc1 := hcell n hlt _ hT.ka.kept
          obtain ⟨f, hf⟩ : ∃ f, F n = f := ⟨_, rfl⟩
          rw [hf] at hc1
          have C := Lib.hid ((add_room hT.a (by omega) (by omega) f).mono (fun e w' hp => show e = .returned (.tuple #[.int .i64 ((n : Int) + 1), .int .i64 0]) ∧ ∃ Sa, Two W A B (clamp now) ((n : Int) + 1) (laidN F (n + 1)) (clamp now) (n : Int) (laidN F n) w' Sa Sb from ⟨hp.1, by
            obtain ⟨S', d1, d2, d3⟩ := hp.2
            have e : laidN F (n + 1) = ins (clamp f) ((n : Int) + 1) (laidN F n) := by rw [← hf]; rfl
            refine ⟨S', ?_⟩
            have := hT.left d1 d2 d3
            rw [← e] at this; exact this⟩))
          have HL := Lib.hid hlenk
          have HF := Lib.hid hf
          have HC := Lib.hid hcell
          clear hT hlenk hf hcell
          subst hv1
          go_wp2_with fail
          refine C.out.mono ?_
          rintro e w3 ⟨rfl, Sa2, hT2⟩
          have hc3 := HC.out n hlt _ hT2.ka.kept
          rw [HF.out] at hc3
          have C2 := Lib.hid ((add_room hT2.b (by rw [HL.out]; omega) (by omega) f).mono (fun e w' hp => show e = .returned (.tuple #[.int .i64 ((n : Int) + 1), .int .i64 0]) ∧ ∃ Sa Sb, Two W A B (clamp now) ((n + 1 : Nat) : Int) (laidN F (n + 1)) (clamp now) ((n + 1 : Nat) : Int) (laidN F (n + 1)) w' Sa Sb from ⟨hp.1, by
            obtain ⟨S', d1, d2, d3⟩ := hp.2
            have e : laidN F (n + 1) = ins (clamp f) ((n : Int) + 1) (laidN F n) := by rw [← HF.out]; rfl
            rw [show ((n + 1 : Nat) : Int) = (n : Int) + 1 by omega]
            refine ⟨Sa2, S', ?_⟩
            have := hT2.right d1 d2 d3
            rw [← e] at this; exact this⟩))
          clear hT2 hc1 C
          go_wp2_with fail
          refine C2.out.mono ?_
          rintro e w4 ⟨rfl, hT4⟩
          have HT4 := Lib.hid hT4
          clear hc3 hT4
          go_wp2_with fail
          go_roundw
          case rel => exact ⟨n + 1, hlt, by go_num, HT4.out⟩
          case measure => simp [intOf]; omega
        · have hnl : n = len := by omega
          have hqn : q ≤ (n : Int) := by have := HQ.out; omega
          subst hnl
          have P0 := Lib.hid (show Pw W A B (clamp now) (n : Int) (laidN F n) (clamp now) [] (.slice none 0 0) wr from ⟨Sa, Sb, _, hT, Or.inl ⟨rfl, rfl, rfl⟩, row_nil _, fun g e => by simp [Value.ownBlock] at e⟩)
          have HS := Lib.hid hT.a.ord
          have HM := Lib.hid (mem_laidN F n)
          have HLn := Lib.hid hlenk
          clear hT hlenk hlt
          go_wp2_with fail
          obtain ⟨ct, hct⟩ : ∃ c, clamp to = c := ⟨_, rfl⟩
          obtain ⟨fin, hfin⟩ : ∃ t, max (clamp now) ct = t := ⟨_, rfl⟩
          have RT : ∀ w, Calls Try.prog 10 #[.int .i64 to] w fun e w' => e = .returned (.int .i64 ct) ∧ w = w' := fun w => by have := rclamp_any to w; rw [hct] at this; exact this
          have RT := Lib.hid RT
          have HCT := Lib.hid hct
          have HFIN := Lib.hid hfin
          have hcf : ct ≤ fin := by omega
          have hcf2 : clamp now ≤ fin := by omega
          clear hct hfin
          go_loopw [13, 12] (fun i vp wr => ∃ k : Nat, k ≤ slen ∧ i = .int .i64 (k : Int) ∧ ∃ nb P, nb ≤ fin ∧ Pw W A B (clamp now) (n : Int) (laidN F n) nb P vp wr) (fun i _ _ => slen - (intOf i).toNat)
          case atStart => exact ⟨0, Nat.zero_le _, rfl, _, _, hcf2, P0.out⟩
          case round =>
            obtain ⟨k, hk, rfl, nb, P, hnb, hP⟩ := hrel
            by_cases hlt : k < slen
            · have hltq : (k : Int) < qs := by have := HQS.out; omega
              obtain ⟨b, off, cap, hv1, hcell⟩ := ints_at HJ.out hlt
              have hkW := hP.kept
              have hc1 := hcell k hlt _ hkW
              obtain ⟨f, hf⟩ : ∃ f, G k = f := ⟨_, rfl⟩
              rw [hf] at hc1
              obtain ⟨cf, hcf3⟩ : ∃ c, clamp f = c := ⟨_, rfl⟩
              have RF : ∀ w, Calls Try.prog 10 #[.int .i64 f] w fun e w' => e = .returned (.int .i64 cf) ∧ w = w' := fun w => by have := rclamp_any f w; rw [hcf3] at this; exact this
              have RF := Lib.hid RF
              by_cases hc : cf ≤ ct
              · obtain ⟨m, hm⟩ : ∃ m, max nb (clamp f) = m := ⟨_, rfl⟩
                have hmf : m ≤ fin := by omega
                have C := Lib.hid (hP.advance HS.out (by rw [HLn.out]; omega) f m hm)
                have HP := Lib.hid hP
                clear hP hcell hkW hf hcf3 hm
                subst hv1
                go_wp2_with fail
                refine (RF.out _).mono ?_; rintro e w' ⟨rfl, rfl⟩
                go_wp2_with fail
                refine (RT.out _).mono ?_; rintro e w' ⟨rfl, rfl⟩
                go_wp2_with fail
                refine C.out.mono ?_
                rintro e w3 ⟨v5, rfl, ⟨P2, D, x1, x2, x3, x4, x5⟩, hk3⟩
                have X5 := Lib.hid x5
                clear x4 x5 hc1
                go_wp2_with (at_builtin; refine wpList_append_rows _ rfl (.tmp 61) (.tmp 67) rfl _ _ _ _ rfl rfl x1 x2 x3 ?_; intro vp2 w4 y1 y2 y3)
                go_roundw
                case rel => exact ⟨k + 1, hlt, by go_num, _, _, hmf, X5.out _ _ y1 y2 y3⟩
                case measure => simp [intOf]; omega
              · have HP := Lib.hid hP
                clear hP hcell hkW hf hcf3
                subst hv1
                go_wp2_with fail
                refine (RF.out _).mono ?_; rintro e w' ⟨rfl, rfl⟩
                go_wp2_with fail
                refine (RT.out _).mono ?_; rintro e w' ⟨rfl, rfl⟩
                go_wp2_with fail
                go_roundw
                case rel => exact ⟨k + 1, hlt, by go_num, _, _, hnb, HP.out⟩
                case measure => simp [intOf]; omega
            · have hks : qs ≤ (k : Int) := by have := HQS.out; omega
              have hlow : clamp now ≤ nb := by obtain ⟨_, _, _, _, hp, _⟩ := hP; exact hp.low
              have hm : max nb (clamp to) = fin := by have := HCT.out; have := HFIN.out; omega
              have C := Lib.hid (hP.advance HS.out (by rw [HLn.out]; omega) to fin hm)
              clear hP hlt hm
              go_wp2_with fail
              refine C.out.mono ?_
              rintro e w3 ⟨v5, rfl, ⟨P2, D, x1, x2, x3, x4, x5⟩, hk3⟩
              have X5 := Lib.hid x5
              have X4 := Lib.hid x4
              clear x4 x5
              go_wp2_with (at_builtin; refine wpList_append_rows _ rfl (.tmp 69) (.tmp 72) rfl _ _ _ _ rfl rfl x1 x2 x3 ?_; intro vp2 w4 y1 y2 y3)
              obtain ⟨Sa4, Sb4, Lb4, T4, p4, r4, b4⟩ := X5.out _ _ y1 y2 y3
              rw [X4.out] at p4 r4
              have hlb := p4.len
              have hsum := due_rest fin (laidN F n)
              obtain ⟨Da, hDa⟩ : ∃ D, (due fin (laidN F n)).map Prod.snd = D := ⟨_, rfl⟩
              have hdal : Da.length = (due fin (laidN F n)).length := by rw [← hDa, List.length_map]
              rw [hDa] at p4 r4 hlb
              have C2 := Lib.hid ((advance_any T4.a to (to := fin) (by rw [HCT.out]; exact HFIN.out)).mono (fun e w5 hp => show ∃ v6, e = .returned v6 ∧ Row w5 v6 Da ∧ Row w5 vp2 Da ∧ ∃ Sa Sb, Two W A B fin (n : Int) (rest fin (laidN F n)) fin (n : Int) Lb4 w5 Sa Sb by
                obtain ⟨v6, S', he, r6, h6, s6, f6, n6⟩ := hp
                exact ⟨v6, he, by rw [← hDa]; exact r6, r4.kept fun g e => f6.block g (r4.lt e) (b4 g e).2.1, _, _, T4.left h6 s6 f6⟩))
              have hleq : Lb4.length = (rest fin (laidN F n)).length := by omega
              have hdn : Da.length ≤ n := by have := HLn.out; omega
              have HLEQ := Lib.hid hleq
              clear T4 p4 r4 b4 y1 y2 y3 x1 x2 x3 hk3 hlb hsum hdal hDa C hleq
              go_wp2_with fail
              refine C2.out.mono ?_
              rintro e w5 ⟨v6, rfl, r6, rp, Sa5, Sb5, T5⟩
              obtain ⟨dl, hdl⟩ : ∃ d : Int, (Da.length : Int) = d := ⟨_, rfl⟩
              have hl6 := fun ty u => r6.len ty u
              have hlp := fun ty u => rp.len ty u
              rw [hdl] at hl6 hlp
              obtain ⟨rl, hrl⟩ : ∃ d : Int, (((rest fin (laidN F n)).length : Nat) : Int) = d := ⟨_, rfl⟩
              have CA := wlen_any T5.a
              have CB := wlen_any T5.b
              rw [HLEQ.out] at CB
              rw [hrl] at CA CB
              have CA := Lib.hid CA
              have CB := Lib.hid CB
              have NA := Lib.hid (wnow_any T5.a)
              have NB := Lib.hid (wnow_any T5.b)
              have HK5 := Lib.hid T5.ka.kept
              have R6 := Lib.hid r6
              have RP := Lib.hid rp
              have HDL := Lib.hid hdl
              have hdl0 : 0 ≤ dl := by omega
              clear T5 r6 rp C2 hrl hdl
              go_wp2_with fail
              refine CA.out.mono ?_; rintro e w' ⟨rfl, rfl⟩
              go_wp2_with fail
              refine CB.out.mono ?_; rintro e w' ⟨rfl, rfl⟩
              go_wp2_with fail
              refine NA.out.mono ?_; rintro e w' ⟨rfl, rfl⟩
              go_wp2_with fail
              refine NB.out.mono ?_; rintro e w' ⟨rfl, rfl⟩
              go_wp2_with fail
              go_loopw [15] (fun i wr => ∃ j : Nat, j ≤ Da.length ∧ i = .int .i64 (j : Int) ∧ Kept w5 wr) (fun i _ => Da.length - (intOf i).toNat)
              case atStart => exact ⟨0, Nat.zero_le _, rfl, Kept.refl _⟩
              case round =>
                obtain ⟨j, hj, rfl, hkr⟩ := hrel
                by_cases hjl : j < Da.length
                · have hjd : (j : Int) < dl := by have := HDL.out; omega
                  have hjq : (j : Int) < q := by have := HQ.out; omega
                  have hjn : (j : Int) < (Da.length : Int) := by omega
                  obtain ⟨x, hx⟩ : ∃ x, Da[j]? = some x := ⟨_, List.getElem?_eq_getElem hjl⟩
                  obtain ⟨g6, c6, e6, k6⟩ := (R6.out.kept (w' := _) (fun g e => hkr.block g (R6.out.lt e))).blk hx
                  obtain ⟨gp, cp, ep, kp⟩ := (RP.out.kept (w' := _) (fun g e => hkr.block g (RP.out.lt e))).blk hx
                  have HKR := Lib.hid hkr
                  clear hx hkr
                  subst e6
                  subst ep
                  go_wp2_with fail
                  go_quiet (fail)
                  go_wp2_with fail
                  go_roundw
                  case rel => exact ⟨j + 1, hjl, by go_num, HKR.out.drewN _⟩
                  case measure => simp [intOf]; omega
                · have hjd : dl ≤ (j : Int) := by have := HDL.out; omega
                  have hjd2 : ((j : Int) == dl) = true := by have := HDL.out; simp; omega
                  have HKR := Lib.hid hkr
                  clear hjl hkr
                  have hd1 : decide ((j : Int) < dl) = false := by simp; omega
                  obtain ⟨bq, hbq⟩ : ∃ b, decide ((j : Int) < q) = b := ⟨_, rfl⟩
                  cases bq
                  all_goals
                    go_wp2_with fail
                    go_quiet (fail)
                    go_wp2_with fail
                    refine (awake_any _).mono ?_
                    rintro e w7 ⟨rfl, hk7⟩
                    go_wp2_with fail
                    go_ret
                    exact ⟨rfl, (HK5.out.trans (HKR.out.drewN _)).trans hk7⟩
theorem wpieces_all {H : Type} {enc : TypeId × Value → H} {W : World} {r r2 : Reach} {b0 b2 : Nat} {v v2 : Value} {d d2 : DataW H} {p p2 : List MemPlace} (now to : Int) (hv : Value.okWide Try.prog W r b0 40 v) (h : DataW.Trod enc Try.prog W 0 (fun _ => true) true 40 v d p)
    (hv2 : Value.okWide Try.prog W r2 b2 40 v2) (h2 : DataW.Trod enc Try.prog W 0 (fun _ => true) true 40 v2 d2 p2) :
    Calls Try.prog 5 #[.int .i64 now, v, v2, .int .i64 to] W fun e w' => e = .returned (.bool true) ∧ Kept W w' := by
  obtain ⟨len, F, hI⟩ := open_nums hv h
  obtain ⟨slen, G, hJ⟩ := open_nums hv2 h2
  exact wpieces_any now to hI hJ
end

end Go.Proofs.Ytffhjdkhmggakaa.Wh
