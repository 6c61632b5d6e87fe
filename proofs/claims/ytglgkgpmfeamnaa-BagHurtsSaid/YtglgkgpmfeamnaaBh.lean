/- Of a flight one byte is spoilt at the most: plain, and the law walked. -/
import Derived.Test.YtglgkgpmfeamnaaBn
import Derived.Test.YtglgkgpmfeamnaaBd
namespace Go.Proofs.Ytglgkgpmfeamnaa.Bg
open Go.RowKit Go.Sort Rv
open St (Kept blk_cell blk_free blk_lt blk_set)
open Wh (Fr Mine)
open Cg (chg chg_at chg_len)
set_option linter.unusedVariables false

/-- a flight is what was sent, but for one byte, if it was spoilt -/
structure Near (t : ByteArray) (f : Fl) : Prop where
  size : f.s.size = t.size
  no : f.h = false → f.s = t
  yes : f.h = true → ∃ i x, i < t.size ∧ x ≠ 0 ∧ f.s = ⟨(chg t.data.toList i x).toArray⟩
/-- how many of the first bytes differ -/
def cnt (t u : ByteArray) : Nat → Nat
  | 0 => 0
  | m + 1 => if u.data.toList.getD m 0 = t.data.toList.getD m 0 then cnt t u m else cnt t u m + 1
theorem cnt_le (t u : ByteArray) : ∀ m, cnt t u m ≤ m
  | 0 => Nat.le_refl _
  | m + 1 => by have := cnt_le t u m; unfold cnt; split <;> omega
theorem cnt_same (t : ByteArray) : ∀ m, cnt t t m = 0
  | 0 => rfl
  | m + 1 => by unfold cnt; rw [if_pos rfl]; exact cnt_same t m
theorem cnt_eq {t u : ByteArray} {m : Nat} (h : u.data.toList.getD m 0 = t.data.toList.getD m 0) : cnt t u (m + 1) = cnt t u m := by
  show (if _ then _ else _) = _
  rw [if_pos h]
theorem cnt_up {t u : ByteArray} {m : Nat} (h : ¬ u.data.toList.getD m 0 = t.data.toList.getD m 0) : cnt t u (m + 1) = cnt t u m + 1 := by
  show (if _ then _ else _) = _
  rw [if_neg h]
theorem xor_ne (b x : UInt8) (h : x ≠ 0) : b ^^^ x ≠ b := fun c => h (by
  have := congrArg (b ^^^ ·) c
  simpa [← UInt8.xor_assoc] using this)
theorem cnt_chg (t : ByteArray) (i : Nat) (x : UInt8) (hx : x ≠ 0) : ∀ m, m ≤ t.size → cnt t ⟨(chg t.data.toList i x).toArray⟩ m = if i < m then 1 else 0
  | 0, _ => rfl
  | m + 1, h => by
    have ih := cnt_chg t i x hx m (by omega)
    have e := chg_at t.data.toList i m x (by rw [← St.size_list]; omega)
    unfold cnt
    show (if ((chg t.data.toList i x).toArray.toList).getD m 0 = _ then _ else _) = _
    rw [List.toList_toArray, e, ih]
    by_cases c : m = i
    · subst c
      rw [if_pos rfl, if_neg (xor_ne _ _ hx), if_neg (by omega), if_pos (by omega)]
    · rw [if_neg c, if_pos rfl]
      by_cases d : i < m
      · rw [if_pos d, if_pos (by omega)]
      · rw [if_neg d, if_neg (by omega)]
theorem Near.cnt {t : ByteArray} {f : Fl} (h : Near t f) : cnt t f.s t.size = if f.h then 1 else 0 := by
  cases e : f.h with
  | false => rw [h.no e, cnt_same]; rfl
  | true =>
    obtain ⟨i, x, h1, h2, h3⟩ := h.yes e
    rw [h3, cnt_chg t i x h2 _ (Nat.le_refl _), if_pos h1]; rfl

/-- of all that are on their way -/
def Nears (t : ByteArray) (s : Sta) : Prop := ∀ f ∈ s.L, Near t f
section
variable {t : ByteArray} {s : Sta}
theorem Nears.send (h : Nears t s) {f : Fl} (hf : Near t f) : Nears t (sendS s f) := by
  unfold sendS
  split
  · intro g hg
    rcases List.mem_append.1 hg with c | c
    · exact h g c
    · rw [List.mem_singleton.1 c]; exact hf
  · exact h
theorem look_mem {k : Int} (h : has s k) : lookF s k ∈ s.L := by
  obtain ⟨i, f, rfl, h1, h2⟩ := has_at h
  rw [(look_yes h1).2.1]; exact List.mem_of_getElem? h1
theorem Nears.twice (h : Nears t s) (k : Int) : Nears t (twiceS s k) := by
  unfold twiceS
  split
  · exact h.send (h _ (look_mem ‹_›))
  · exact h
theorem Nears.take (h : Nears t s) (k : Int) : Nears t (takeS s k) := by
  unfold takeS
  split
  · exact fun f hf => h f (List.mem_of_mem_eraseIdx hf)
  · exact h
theorem Nears.hurt (h : Nears t s) (k a b : Int) : Nears t (hurtS s k a b) := by
  unfold hurtS
  split
  · rename_i c
    obtain ⟨h1, h2, m0, m1, m2, m3⟩ := c
    intro f hf
    rcases List.mem_or_eq_of_mem_set hf with c | c
    · exact h f c
    · have hn := h _ (look_mem h1)
      have hs := hn.no h2
      subst c
      obtain ⟨x, rfl, hx⟩ := u8_of m2 m3
      have e : (spoilt a (x.toNat : Int) (lookF s k)).s = ⟨(chg t.data.toList a.toNat x).toArray⟩ := by unfold spoilt; rw [hs]; simp
      rw [hs] at m1
      refine ⟨?_, fun c => by simp [spoilt] at c, fun _ => ⟨a.toNat, x, by omega, fun c => by subst c; simp at m2, e⟩⟩
      rw [e, St.size_list]
      show (chg t.data.toList a.toNat x).toArray.toList.length = _
      rw [List.toList_toArray, chg_len, ← St.size_list]
  · exact h
theorem lost_send (f : Fl) : (sendS s f).lost ≤ s.lost + 1 := by unfold sendS; split <;> simp
theorem lost_twice (k : Int) : (twiceS s k).lost ≤ s.lost + 1 := by
  unfold twiceS
  split
  · exact lost_send _
  · omega
theorem lost_take (k : Int) : (takeS s k).lost = s.lost := by unfold takeS; split <;> rfl
theorem lost_hurt (k a b : Int) : (hurtS s k a b).lost = s.lost := by unfold hurtS; split <;> rfl
end

/-- a bag of near flights, of the law's own -/
def Ht (W : World) (B : Nat) (t : ByteArray) (c : Nat) (w : World) : Prop := ∃ s, Its PBt PT W B s w ∧ Nears t s ∧ s.lost ≤ c
section
variable {W w w' : World} {B c : Nat} {t : ByteArray}
theorem Ht.go (h : Ht W B t c w) (k : Kept w w') : Ht W B t c w' := by obtain ⟨s, h1, h2⟩ := h; exact ⟨s, h1.go k, h2⟩
/-- whatever it answers, it stays so -/
def hts (W : World) (B : Nat) (t : ByteArray) (c : Nat) : Ending → World → Prop := fun e w' => ∃ r, e = .returned r ∧ Ht W B t (c + 1) w'
theorem Ht.twice (h : Ht W B t c w) (hc : c ≤ 1000) (k : Int) : Calls Try.prog 14 #[PB B, .int .i64 k] w (hts W B t c) := by
  obtain ⟨s, h1, h2, h3⟩ := h
  exact (h1.twice (by omega) k).mono fun _ _ ⟨e, q⟩ => ⟨_, e, _, q, h2.twice k, by have := lost_twice (s := s) k; omega⟩
theorem Ht.take (h : Ht W B t c w) (k : Int) : Calls Try.prog 15 #[PB B, .int .i64 k] w (hts W B t c) := by
  obtain ⟨s, h1, h2, h3⟩ := h
  exact (h1.take k).mono fun _ _ ⟨e, q⟩ => ⟨_, e, _, q, h2.take k, by have := lost_take (s := s) k; omega⟩
theorem Ht.hurt (h : Ht W B t c w) (k a b : Int) : Calls Try.prog 16 #[PB B, .int .i64 k, .int .i64 a, .int .i64 b] w (hts W B t c) := by
  obtain ⟨s, h1, h2, h3⟩ := h
  exact (h1.hurt k a b).mono fun _ _ ⟨e, q⟩ => ⟨_, e, _, q, h2.hurt k a b, by have := lost_hurt (s := s) k a b; omega⟩
end

theorem tmod3 (k : Int) : Int.tmod k 3 = 0 ∨ Int.tmod k 3 = 1 ∨ (Int.tmod k 3 ≠ 0 ∧ Int.tmod k 3 ≠ 1) := by omega
section
variable {W : World} {v : Value} {len : Nat} {F : Nat → Dd}
set_option maxHeartbeats 400000 in
theorem hurts_long (s : ByteArray) (h : 200 < s.size) : Calls Try.prog 4 #[.string s, v] W fun e w' => e = .returned (.bool true) ∧ Kept W w' := by
  have h' : (200 : Int) < (s.size : Int) := by omega
  clear h
  have A := Lib.hid awake_any
  go_enter Try.func4, Try.ntmps4
  go_wp2_with (go_at_call 7; refine (A.out _).mono ?_; rintro e w7 ⟨rfl, hk7⟩)
  go_ret
  exact ⟨rfl, hk7⟩

set_option maxHeartbeats 4000000 in
set_option maxRecDepth 100000 in
theorem hurts_short (s : ByteArray) (h : ¬ 200 < s.size) (hD : Deeds W v len F) : Calls Try.prog 4 #[.string s, v] W fun e w' => e = .returned (.bool true) ∧ Kept W w' := by
  have h' : ¬ (200 : Int) < (s.size : Int) := by omega
  have hs200 : s.size ≤ 200 := by omega
  clear h
  have hlen := fun ty u => hD.length Try.underlying22 ty u
  obtain ⟨q, hq⟩ : ∃ q : Int, (len : Int) = q := ⟨_, rfl⟩
  rw [hq] at hlen
  have HQ := Lib.hid hq
  have HD := Lib.hid hD
  have HS200 := Lib.hid hs200
  have A := Lib.hid awake_any
  have NN := Lib.hid (fun w (h : Kept W w) => new_its W w h)
  have S0 : ∀ (B : Nat) (w : World), Its PBt PT W B ⟨[], 0⟩ w → Calls Try.prog 13 #[PB B, .agg #[.int .i64 0, .int .i64 0, .string s, .bool false]] w fun e w' => e = .returned (.int .i64 0) ∧ Ht W B s 0 w' := fun B w h =>
    (h.send (Nat.zero_le _) ⟨0, 0, s, false⟩).mono fun _ _ ⟨e, k⟩ => ⟨e, ⟨_, k, Nears.send (fun f hf => by simp at hf) ⟨rfl, fun _ => rfl, fun c => by simp at c⟩, Nat.le_refl _⟩⟩
  have S0 := Lib.hid S0
  clear hq hD hs200
  go_enter Try.func4, Try.ntmps4
  go_wp2_with fail
  refine (NN.out _ (Kept.refl _)).mono ?_
  rintro e w1 ⟨B, rfl, a1, _, _⟩
  have A1 := Lib.hid a1
  clear a1
  go_wp2_with fail
  refine (S0.out _ _ A1.out).mono ?_
  rintro e w2 ⟨rfl, a2⟩
  have A2 := Lib.hid a2
  clear a2 A1
  go_wp2_with fail
  go_loopw [6] (fun i wr => ∃ m : Nat, m ≤ len ∧ m ≤ 60 ∧ i = .int .i64 (m : Int) ∧ Ht W B s m wr) (fun i _ => len - (intOf i).toNat)
  case atStart => exact ⟨0, Nat.zero_le _, Nat.zero_le _, rfl, A2.out⟩
  case round =>
    obtain ⟨m, hm, hm60, rfl, hH⟩ := hrel
    by_cases hlt : m < len ∧ m < 60
    · obtain ⟨hml, hm6⟩ := hlt
      have hmq : (m : Int) < q := by have := HQ.out; omega
      have hm6' : (m : Int) < 60 := by omega
      have hmn : (m : Int) < (len : Int) := by omega
      obtain ⟨b, off, cap, hv1, hok, hcell⟩ := HD.out.at hml
      have HV := Lib.hid hv1
      subst hv1
      obtain ⟨kk, hkk⟩ : ∃ x, (F m).k = x := ⟨_, rfl⟩
      obtain ⟨nn, hnn⟩ : ∃ x, (F m).n = x := ⟨_, rfl⟩
      obtain ⟨aa, haa⟩ : ∃ x, (F m).a = x := ⟨_, rfl⟩
      obtain ⟨bb, hbb⟩ : ∃ x, (F m).b = x := ⟨_, rfl⟩
      have hK : Kept W wr := by obtain ⟨s', h1, _⟩ := hH; exact h1.kept
      have x0 : wr.cell? ⟨b, off + m * 8, none⟩ = some (.int .i64 kk) := by rw [← hkk]; exact hcell _ hK 0 _ rfl
      have x1 : wr.cell? ⟨b, off + m * 8 + 1, none⟩ = some (.int .i64 nn) := by rw [← hnn]; exact hcell _ hK 1 _ rfl
      have x2 : wr.cell? ⟨b, off + m * 8 + 2, none⟩ = some (.int .i64 aa) := by rw [← haa]; exact hcell _ hK 2 _ rfl
      have x3 : wr.cell? ⟨b, off + m * 8 + 3, none⟩ = some (.int .i64 bb) := by rw [← hbb]; exact hcell _ hK 3 _ rfl
      have CT := Lib.hid (hH.twice (by omega) nn)
      have CK := Lib.hid (hH.take nn)
      have CH := Lib.hid ((hH.go (Kept.refl wr).drew).hurt nn aa bb)
      have hk0 : -9223372036854775808 ≤ kk := by rw [← hkk]; exact hok.1.1
      have hk1 : kk ≤ 9223372036854775807 := by rw [← hkk]; exact hok.1.2
      have HM := Lib.hid (And.intro hml hm6)
      have hH' := hH
      clear hcell hK hkk hnn haa hbb hok hH hH' hml hm6 hm hm60
      rcases tmod3 kk with hr | hr | ⟨hr, hr'⟩
      · have e0 : (Int.tmod kk 3 == 0) = true := by simp [hr]
        clear hr
        go_wp2_with fail
        refine CT.out.mono ?_
        rintro e w5 ⟨r, rfl, a5⟩
        have A5 := Lib.hid a5
        clear a5 x0 x1 x2 x3
        go_wp2_with fail
        go_roundw
        case rel => exact ⟨m + 1, HM.out.1, HM.out.2, by go_num, A5.out⟩
        case measure => have := HM.out; simp [intOf]; omega
      · have e0 : (Int.tmod kk 3 == 0) = false := by simp [hr]
        have e1 : (Int.tmod kk 3 == 1) = true := by simp [hr]
        clear hr
        go_wp2_with fail
        refine CK.out.mono ?_
        rintro e w5 ⟨r, rfl, a5⟩
        have A5 := Lib.hid a5
        clear a5 x0 x1 x2 x3
        go_wp2_with fail
        go_roundw
        case rel => exact ⟨m + 1, HM.out.1, HM.out.2, by go_num, A5.out⟩
        case measure => have := HM.out; simp [intOf]; omega
      · have e0 : (Int.tmod kk 3 == 0) = false := by simp [hr]
        have e1 : (Int.tmod kk 3 == 1) = false := by simp [hr']
        clear hr hr'
        go_wp2_with fail
        refine wp_region_still_tail 16 (by kernel_rfl) (by kernel_rfl) ?_
        change wpStill _ _ (World.drew _) (fun a' => wpList _ _ _ _ a' (World.drew _)) _ _
        simp only [List.take_succ_cons, List.take_zero, List.drop_succ_cons, List.drop_zero]
        repeat (first | still_step)
        refine wpStill_nil ?_
        go_wp2_with fail
        refine CH.out.mono ?_
        rintro e w5 ⟨r, rfl, a5⟩
        have A5 := Lib.hid a5
        clear a5 x0 x1 x2 x3
        go_wp2_with fail
        go_roundw
        case rel => exact ⟨m + 1, HM.out.1, HM.out.2, by go_num, A5.out⟩
        case measure => have := HM.out; simp [intOf]; omega
    · have HH := Lib.hid hH
      have hend : q ≤ (m : Int) ∨ ((m : Int) < q ∧ 60 ≤ (m : Int)) := by have := HQ.out; omega
      clear hH hlt
      rcases hend with hend | ⟨hend, hend2⟩
      all_goals
        obtain ⟨sT, hI, hN, _⟩ := HH.out
        have HN := Lib.hid hN
        have HI0 := Lib.hid hI
        clear hI hN HH
        go_wp2_with fail
        go_loopw [7] (fun i w4 => ∃ j : Nat, j ≤ sT.L.length ∧ i = .int .i64 (j : Int) ∧ Its PBt PT W B sT w4) (fun i _ => sT.L.length - (intOf i).toNat)
        case atStart => exact ⟨0, Nat.zero_le _, rfl, HI0.out⟩
        case round =>
          obtain ⟨j, hj, rfl, hI4⟩ := hrel
          have HI4 := Lib.hid hI4
          have CLen := Lib.hid hI4.lenC
          have hl256 := hI4.len
          clear hI4
          by_cases hlt2 : j < sT.L.length
          · obtain ⟨f, hf⟩ : ∃ f, sT.L[j]? = some f := ⟨_, List.getElem?_eq_getElem hlt2⟩
            have hnear := HN.out f (List.mem_of_getElem? hf)
            have CK := HI4.out.look (j : Int)
            obtain ⟨_, _, e3, e4⟩ := look_yes hf
            rw [e3, e4] at CK
            unfold agg enc at CK
            have CK := Lib.hid CK
            have hjl : (j : Int) < (sT.L.length : Int) := by omega
            have hj256 : (j : Int) < 256 := by omega
            have HJ := Lib.hid hlt2
            have HNear := Lib.hid hnear
            clear hlt2 hf e3 e4 hnear hj hl256
            go_wp2_with fail
            refine CLen.out.mono ?_
            rintro e w5 ⟨rfl, rfl⟩
            go_wp2_with fail
            refine CK.out.mono ?_
            rintro e w6 ⟨rfl, hk6⟩
            have BX := Lib.hid (Box.new w6 PT f)
            have HI6 := Lib.hid (HI4.out.go (hk6.more (.cells #[.int .i64 f.fr, .int .i64 f.to, .string f.s, .bool f.h] PT)))
            clear hk6
            go_wp2_with fail
            obtain ⟨b8, hb8⟩ : ∃ b8, w6.heap.size = b8 := ⟨_, rfl⟩
            obtain ⟨w7, hw7⟩ : ∃ w7, w6.alloc (.cells #[.int .i64 f.fr, .int .i64 f.to, .string f.s, .bool f.h] PT) = w7 := ⟨_, rfl⟩
            rw [hb8, hw7] at BX
            rw [hw7] at HI6
            rw [hb8, hw7]
            clear hb8 hw7
            go_loopw [10, 11] (fun a k w8 => ∃ n : Nat, n ≤ s.size ∧ k = .int .i64 (n : Int) ∧ a = .int .i64 ((cnt s f.s n : Nat) : Int) ∧ Its PBt PT W B sT w8 ∧ Box w8 b8 PT f) (fun _ k _ => s.size - (intOf k).toNat)
            case atStart => exact ⟨0, Nat.zero_le _, rfl, rfl, HI6.out, BX.out⟩
            case round =>
              obtain ⟨n, hn, rfl, rfl, hI8, hB8⟩ := hrel
              obtain ⟨y0, y1, y2, y3, _, yl⟩ := hB8.cells
              have HI8 := Lib.hid (And.intro hI8 hB8)
              have hcn := cnt_le s f.s n
              obtain ⟨c, hc⟩ : ∃ c : Int, ((cnt s f.s n : Nat) : Int) = c := ⟨_, rfl⟩
              have hc0 : 0 ≤ c := by omega
              have hc1 : c ≤ 200 := by have := HS200.out; omega
              rw [hc]
              have HC := Lib.hid hc
              clear hI8 hB8 hcn hc
              by_cases hlt3 : n < s.size
              · have hsz := HNear.out.size
                obtain ⟨p1, hp1, hx1, hP1⟩ := Cg.byteNat f.s n (by omega)
                obtain ⟨p2, hp2, hx2, hP2⟩ := Cg.byteNat s n hlt3
                have hnf : (n : Int) < (f.s.size : Int) := by omega
                have hns : (n : Int) < (s.size : Int) := by omega
                obtain ⟨u1, hu1⟩ : ∃ u : Int, (p1 : Int) = u := ⟨_, rfl⟩
                obtain ⟨u2, hu2⟩ : ∃ u : Int, (p2 : Int) = u := ⟨_, rfl⟩
                rw [hu1] at hx1
                rw [hu2] at hx2
                have HNN := Lib.hid hlt3
                have hn200 : (n : Int) < 200 := by have := HS200.out; omega
                have HU := Lib.hid (And.intro hu1 hu2)
                clear hsz hp1 hp2 hlt3 hn hu1 hu2
                by_cases hbb : u1 = u2
                · have hE : Hid (cnt s f.s (n + 1) = cnt s f.s n) := by
                    show cnt s f.s (n + 1) = _
                    have h1 : f.s.data.toList.getD n 0 = s.data.toList.getD n 0 := by
                      have q1 := hP1.out
                      have q2 := hP2.out
                      have := HU.out
                      exact UInt8.toNat_inj.1 (by omega)
                    exact cnt_eq h1
                  have hd : (u1 != u2) = false := by simp [hbb]
                  clear hbb
                  go_wp2_with fail
                  go_region
                  all_goals
                    go_wp2_with fail
                    go_roundw
                    case rel => exact ⟨n + 1, HNN.out, by go_num, by rw [hE.out, HC.out], by first | exact HI8.out.1 | exact HI8.out.1.go (Kept.refl _).drew, by first | exact HI8.out.2 | exact HI8.out.2.kept (Kept.refl _).drew⟩
                    case measure => have := HNN.out; simp [intOf]; omega
                · have hE : Hid (cnt s f.s (n + 1) = cnt s f.s n + 1) := by
                    show cnt s f.s (n + 1) = _
                    have h1 : ¬ f.s.data.toList.getD n 0 = s.data.toList.getD n 0 := fun c => hbb (by
                      have q1 := hP1.out
                      have q2 := hP2.out
                      rw [c] at q1
                      have := HU.out
                      omega)
                    exact cnt_up h1
                  have hd : (u1 != u2) = true := by simp [hbb]
                  clear hbb
                  go_wp2_with fail
                  go_region
                  all_goals
                    go_wp2_with fail
                    go_roundw
                    case rel => exact ⟨n + 1, HNN.out, by go_num, by rw [hE.out]; have := HC.out; rw [← this]; go_num, by first | exact HI8.out.1 | exact HI8.out.1.go (Kept.refl _).drew, by first | exact HI8.out.2 | exact HI8.out.2.kept (Kept.refl _).drew⟩
                    case measure => have := HNN.out; simp [intOf]; omega
              · obtain rfl : n = s.size := by omega
                have hcn := HNear.out.cnt
                have hsz := HNear.out.size
                have hd1 : decide ((s.size : Int) < (s.size : Int)) = false := by simp
                have hd2 : (f.s.size != s.size) = false := by simp [hsz]
                have hd3 : ((f.s.size : Int) != (s.size : Int)) = false := by simp [hsz]
                cases hfh : f.h with
                | false =>
                  have hc' : c = 0 := by have := HC.out; rw [hcn, hfh] at this; simpa using this.symm
                  subst hc'
                  rw [hfh] at y3
                  clear hcn hsz hlt3 hn hfh
                  go_wp2_with fail
                  go_roundw
                  case rel => exact ⟨j + 1, HJ.out, by go_num, HI8.out.1⟩
                  case measure => have := HJ.out; simp [intOf]; omega
                | true =>
                  have hc' : c = 1 := by have := HC.out; rw [hcn, hfh] at this; simpa using this.symm
                  subst hc'
                  rw [hfh] at y3
                  clear hcn hsz hlt3 hn hfh
                  go_wp2_with fail
                  go_roundw
                  case rel => exact ⟨j + 1, HJ.out, by go_num, HI8.out.1⟩
                  case measure => have := HJ.out; simp [intOf]; omega
          · have hjl : (sT.L.length : Int) ≤ (j : Int) := by omega
            clear hlt2 hj hl256
            go_wp2_with fail
            refine CLen.out.mono ?_
            rintro e w5 ⟨rfl, rfl⟩
            go_wp2_with fail
            refine (A.out _).mono ?_
            rintro e w11 ⟨rfl, hk11⟩
            have K11 := Lib.hid (HI4.out.kept.trans hk11)
            clear hk11
            go_wp2_with fail
            go_ret
            exact ⟨rfl, K11.out⟩
theorem hurts_all {H : Type} {en : TypeId × Value → H} {r : Reach} {b0 : Nat} {d : DataW H} {p : List MemPlace} (s : ByteArray) (hv : Value.okWide Try.prog W r b0 22 v)
    (h : DataW.Trod en Try.prog W 0 (fun _ => true) true 22 v d p) :
    Calls Try.prog 4 #[.string s, v] W fun e w' => e = .returned (.bool true) ∧ Kept W w' := by
  obtain ⟨len, F, hD⟩ := open_deeds hv h
  by_cases h : 200 < s.size
  · exact hurts_long s h
  · exact hurts_short s h hD
end

end Go.Proofs.Ytglgkgpmfeamnaa.Bg
