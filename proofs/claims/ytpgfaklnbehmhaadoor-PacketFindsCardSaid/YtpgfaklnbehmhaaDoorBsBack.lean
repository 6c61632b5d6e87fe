/- Plain mathematics: what is told is read as it was, and what is read is told as just these bytes. -/
import Derived.Test.YtpgfaklnbehmhaaDoorBsMath
namespace Go.Proofs.YtpgfaklnbehmhaaDoor.BsM
set_option linter.unusedVariables false

theorem mnum_yes {s : S} {k : Int} (h : okw k = true) : numV s k = val (takeV s k.toNat) ∧ numS s k = takeS s k.toNat := by unfold numV numS; rw [if_pos h, if_pos h]; exact ⟨rfl, rfl⟩
theorem mnum_no {s : S} {k : Int} (h : okw k = false) : numV s k = 0 ∧ numS s k = failS s 2 := by unfold numV numS; rw [h]; exact ⟨rfl, rfl⟩
theorem mtake_yes {s : S} {n : Nat} (h : n ≤ s.1.length) : takeV s n = s.1.take n ∧ takeS s n = (s.1.drop n, s.2) := by
  constructor
  · unfold takeV; rw [if_pos h]
  · unfold takeS; rw [if_pos h]
theorem mtake_no {s : S} {n : Nat} (h : s.1.length < n) : takeV s n = [] ∧ takeS s n = failS s 3 := by
  constructor
  · unfold takeV; rw [if_neg (by omega)]
  · unfold takeS; rw [if_neg (by omega)]
theorem take_app (a r : List UInt8) (e : Int) : takeV (a ++ r, e) a.length = a ∧ takeS (a ++ r, e) a.length = (r, e) := by
  have h := mtake_yes (s := (a ++ r, e)) (n := a.length) (by simp)
  simpa using h

theorem num_of {n k : Int} (h : numOk n k = true) (r : List UInt8) (e : Int) : (numV (numL n k ++ r, e) k : Int) = n ∧ numS (numL n k ++ r, e) k = (r, e) := by
  obtain ⟨h1, h2, h3, h4⟩ := numOk_lt h
  have hy := mnum_yes (s := (numL n k ++ r, e)) (okw_yes h1 h2)
  have ht := take_app (numL n k) r e
  rw [num_len h] at ht
  rw [hy.1, hy.2, ht.1, ht.2, num_val h]
  exact ⟨by omega, rfl⟩
theorem text_of {l : List UInt8} (h : l.length ≤ 255) (r : List UInt8) (e : Int) : textV (textL l ++ r, e) = l ∧ textS (textL l ++ r, e) = (r, e) := by
  have hx : textL l = numL (l.length : Int) 1 ++ l := by unfold textL; rw [if_pos h, num_one _ (by omega)]; rfl
  have hn := num_of (n := (l.length : Int)) (k := 1) (numOk_mk (by decide) (by decide) (by omega) (by simp; omega)) (l ++ r) e
  rw [hx, List.append_assoc]
  unfold textV textS
  rw [hn.2, show numV (numL (l.length : Int) 1 ++ (l ++ r), e) 1 = l.length by have := hn.1; omega]
  exact take_app l r e
theorem flag_of (b : Bool) (r : List UInt8) (e : Int) : flagV (flagL b ++ r, e) = b ∧ flagS (flagL b ++ r, e) = (r, e) := by
  cases b
  · have hn := num_of (n := 0) (k := 1) (by decide) r e
    have hx : numL 0 1 = flagL false := by decide
    rw [hx] at hn
    have h0 : numV (flagL false ++ r, e) 1 = 0 := by have := hn.1; omega
    unfold flagV flagS; rw [h0, hn.2]; exact ⟨rfl, rfl⟩
  · have hn := num_of (n := 1) (k := 1) (by decide) r e
    have hx : numL 1 1 = flagL true := by decide
    rw [hx] at hn
    have h0 : numV (flagL true ++ r, e) 1 = 1 := by have := hn.1; omega
    unfold flagV flagS; rw [h0, hn.2]; exact ⟨rfl, rfl⟩

/-- nothing is left, once something is wrong -/
def Good (s : S) : Prop := s.2 ≠ 0 → s.1 = []
theorem failS_bad {s : S} {x : Int} (hx : x ≠ 0) : (failS s x).2 ≠ 0 := by
  unfold failS; split
  · exact hx
  · rename_i h; intro h0; exact h ⟨h0, hx⟩
theorem failS_good {s : S} {x : Int} (h : Good s) : Good (failS s x) := by
  unfold failS; split
  · exact fun _ => rfl
  · exact h
theorem takeS_good {s : S} {n : Nat} (h : Good s) : Good (takeS s n) := by
  unfold takeS; split
  · intro hb; show s.1.drop n = []; rw [h hb]; simp
  · exact failS_good h
theorem numS_good {s : S} {k : Int} (h : Good s) : Good (numS s k) := by unfold numS; split; exact takeS_good h; exact failS_good h
theorem textS_good {s : S} (h : Good s) : Good (textS s) := takeS_good (numS_good h)
theorem flagS_good {s : S} (h : Good s) : Good (flagS s) := by unfold flagS; split; exact failS_good (numS_good h); exact numS_good h
theorem takeS_zero {s : S} {n : Nat} (h : (takeS s n).2 = 0) : s.2 = 0 ∧ n ≤ s.1.length := by
  unfold takeS at h
  split at h
  · exact ⟨h, by assumption⟩
  · exact absurd h (failS_bad (by decide))
theorem numS_zero {s : S} {k : Int} (h : (numS s k).2 = 0) : s.2 = 0 ∧ okw k = true ∧ k.toNat ≤ s.1.length := by
  unfold numS at h
  split at h
  · have := takeS_zero h; exact ⟨this.1, by assumption, this.2⟩
  · exact absurd h (failS_bad (by decide))
theorem num_back {s : S} {k : Int} (h : (numS s k).2 = 0) : s.2 = 0 ∧ numL (numV s k : Int) k ++ (numS s k).1 = s.1 := by
  obtain ⟨h0, hk, hl⟩ := numS_zero h
  have hy := mnum_yes (s := s) hk
  have ht := mtake_yes (s := s) hl
  have hk2 := okw_iff.mp hk
  refine ⟨h0, ?_⟩
  rw [hy.1, hy.2, ht.1, ht.2]
  have hlen : (s.1.take k.toNat).length = k.toNat := by rw [List.length_take]; omega
  have hv := val_lt (s.1.take k.toNat)
  rw [hlen] at hv
  rw [num_yes (numOk_mk hk2.1 hk2.2 (by omega) (by rw [Int.toNat_natCast]; exact hv)), Int.toNat_natCast]
  have := be_val (s.1.take k.toNat)
  rw [hlen] at this
  rw [this]
  exact List.take_append_drop ..
theorem text_back {s : S} (h : (textS s).2 = 0) : s.2 = 0 ∧ textL (textV s) ++ (textS s).1 = s.1 := by
  unfold textS at h
  obtain ⟨h1, h2⟩ := takeS_zero h
  obtain ⟨h0, hb⟩ := num_back h1
  have hlt := numV_one_lt s
  refine ⟨h0, ?_⟩
  have ht := mtake_yes (s := numS s 1) h2
  have hV : textV s = (numS s 1).1.take (numV s 1) := ht.1
  have hS : textS s = ((numS s 1).1.drop (numV s 1), (numS s 1).2) := ht.2
  have hlen : (textV s).length = numV s 1 := by rw [hV, List.length_take]; omega
  rw [hS]
  unfold textL
  rw [if_pos (by omega), hlen]
  rw [num_one _ hlt] at hb
  rw [← hb, hV]
  simp
theorem flag_back {s : S} (h : (flagS s).2 = 0) : s.2 = 0 ∧ flagL (flagV s) ++ (flagS s).1 = s.1 := by
  unfold flagS at h
  split at h
  · exact absurd h (failS_bad (by decide))
  · rename_i hle
    obtain ⟨h0, hb⟩ := num_back h
    have hlt := numV_one_lt s
    rw [num_one _ hlt] at hb
    refine ⟨h0, ?_⟩
    have hS : flagS s = numS s 1 := by unfold flagS; rw [if_neg hle]
    rw [hS]
    by_cases h1 : numV s 1 = 1
    · rw [h1] at hb; rw [show flagV s = true by simp [flagV, h1]]; exact hb
    · have h00 : numV s 1 = 0 := by omega
      rw [h00] at hb; rw [show flagV s = false by simp [flagV, h00]]; exact hb
/-- all that was read -/
theorem all_back {l : List UInt8} {k : Int} (h : (flagS (textS (numS (l, 0) k))).2 = 0) :
    (numL (numV (l, 0) k : Int) k ++ textL (textV (numS (l, 0) k)) ++ flagL (flagV (textS (numS (l, 0) k)))) ++ (flagS (textS (numS (l, 0) k))).1 = l := by
  have h3 := flag_back h
  have h2 := text_back h3.1
  have h1 := num_back h2.1
  rw [List.append_assoc, List.append_assoc, h3.2, h2.2, h1.2]
theorem all_good {l : List UInt8} {k : Int} (h : (flagS (textS (numS (l, 0) k))).2 ≠ 0) : (flagS (textS (numS (l, 0) k))).1 = [] :=
  flagS_good (textS_good (numS_good (s := (l, 0)) (fun h => absurd rfl h))) h
theorem end_bad {s : S} (h : s.1 = []) : endV s = s.2 ∧ endS s = s := by unfold endV endS; rw [h]; exact ⟨rfl, rfl⟩
theorem end_left {s : S} (h : 0 < s.1.length) (h0 : s.2 = 0) : endV s = 5 ∧ endS s = ([], 5) := by
  have : endS s = ([], 5) := by unfold endS failS; rw [if_pos h, if_pos ⟨h0, by decide⟩]
  exact ⟨by unfold endV; rw [this], this⟩

end Go.Proofs.YtpgfaklnbehmhaaDoor.BsM
