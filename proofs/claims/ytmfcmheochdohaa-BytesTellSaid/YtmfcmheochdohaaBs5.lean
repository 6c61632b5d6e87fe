/- Contracts of the document's own reader. -/
import Derived.Test.YtmfcmheochdohaaBs4
import Derived.BigQuiet
import Derived.Deep.QuietTactic
namespace Go.Proofs.Ytmfcmheochdohaa.Bs
open Go.RowKit St Go.Sort BsM
set_option linter.unusedVariables false

/-- the document's reader at block b, of the bytes T: it stands where what is left begins, while nothing is wrong -/
def Fits (T : List UInt8) (at' : Nat) (s : S) : Prop := (s.2 = 0 → at' ≤ T.length ∧ s.1 = T.drop at') ∧ (s.2 ≠ 0 → s.1 = [])
def Xd (w : World) (b : Nat) (T : ByteArray) (s : S) : Prop := ∃ at' : Nat, Fits T.data.toList at' s ∧ w.heap[b]? = some (.cells #[.string T, .int .i64 (at' : Int), .int .i64 s.2] 32 (0, 0))
def XDoes (b : Nat) (T : ByteArray) (a : World) (v : Value) (s' : S) (e : Ending) (w' : World) : Prop := e = .returned v ∧ Xd w' b T s' ∧ Only b a w'
theorem Xd.kept {x y : World} {b : Nat} {T : ByteArray} {s : S} (h : Xd x b T s) (k : Kept x y) : Xd y b T s := by obtain ⟨p, hp, h⟩ := h; exact ⟨p, hp, kept_blk k h⟩
theorem Xd.other {x y : World} {b c : Nat} {T : ByteArray} {s : S} (h : Xd x c T s) (k : Only b x y) (hn : c ≠ b) : Xd y c T s := by obtain ⟨p, hp, h⟩ := h; exact ⟨p, hp, k.other h hn⟩
theorem Xd.open {w : World} {b : Nat} {T : ByteArray} {s : S} (h : Xd w b T s) : ∃ at' : Nat, w.cell? ⟨b, 0, none⟩ = some (.string T) ∧ w.cell? ⟨b, 1, none⟩ = some (.int .i64 (at' : Int)) ∧ w.cell? ⟨b, 2, none⟩ = some (.int .i64 s.2) ∧
    w.frozen? ⟨b, 0, none⟩ = false ∧ w.frozen? ⟨b, 1, none⟩ = false ∧ w.frozen? ⟨b, 2, none⟩ = false ∧ Hid (Fits T.data.toList at' s) ∧
    Hid (w.heap[b]? = some (.cells #[.string T, .int .i64 (at' : Int), .int .i64 s.2] 32 (0, 0))) := by
  obtain ⟨p, hp, h⟩ := h
  exact ⟨p, by rw [blk_cell h]; rfl, by rw [blk_cell h]; rfl, by rw [blk_cell h]; rfl, blk_free h 0, blk_free h 1, blk_free h 2, hp, h⟩
theorem Fits.bad {T : List UInt8} {p : Nat} {s : S} (h : Fits T p s) (hs : s.2 ≠ 0) : s.1 = [] := h.2 hs
theorem Fits.len {T : List UInt8} {p : Nat} {s : S} (h : Fits T p s) (hs : s.2 = 0) : s.1.length + p = T.length := by
  have := h.1 hs; rw [this.2]; simp; omega
theorem fits_bad {T : List UInt8} {p : Nat} {x : Int} (hx : x ≠ 0) : Fits T p ([], x) := ⟨fun h => absurd h hx, fun _ => rfl⟩

set_option maxHeartbeats 400000 in
theorem xfail_any (b : Nat) (T : ByteArray) (s : S) (x : Int) (hx : x ≠ 0) (w : World) (hr : Xd w b T s) :
    Calls Try.prog 27 #[.pointer (some ⟨b, 0, none⟩), .int .i64 x] w (XDoes b T w (.tuple #[]) (failS s x)) := by
  obtain ⟨p, hc0, hc1, hc2, hf0, hf1, hf2, hp, hblk⟩ := hr.open
  have HR := Lib.hid hr
  clear hr
  by_cases h0 : s.2 = 0
  · rw [h0] at hc2
    have he := Lib.hid (fail_yes (s := s) h0 hx)
    have HX := Lib.hid hx
    clear h0 hx
    go_enter Try.func27, Try.ntmps27
    go_wp2_with fail
    go_end0
    exact ⟨rfl, by rw [he.out]; exact ⟨p, fits_bad HX.out, blk_set hblk.out 2 _⟩, (Only.refl _ _).set _ _⟩
  · have he := Lib.hid (fail_no1 (s := s) (x := x) h0)
    obtain ⟨z, hz⟩ : ∃ z, s.2 = z := ⟨_, rfl⟩
    have h1 : (z == 0) = false := by rw [← hz]; simpa using h0
    rw [hz] at hc2
    clear h0 hz hx
    go_enter Try.func27, Try.ntmps27
    go_wp2_with fail
    go_end0
    exact ⟨rfl, by rw [he.out]; exact HR.out, Only.refl _ _⟩

theorem take0_bad {s : S} {n : Nat} (h : s.1 = []) (hs : s.2 ≠ 0) (hn : 0 < n) : takeV s n = [] ∧ takeS s n = s := by
  have h1 := take_no (s := s) (n := n) (by rw [h]; exact hn)
  rw [fail_no1 hs] at h1; exact h1
theorem num_bad {s : S} {k : Int} (h : s.1 = []) (hs : s.2 ≠ 0) : numV s k = 0 ∧ numS s k = s := by
  by_cases hk : okw k = true
  · have h1 := numS_yes (s := s) hk
    have h2 := take0_bad (n := k.toNat) h hs (by have := okw_iff.mp hk; omega)
    rw [h2.1, h2.2] at h1; exact h1
  · have h1 := numS_no (s := s) (k := k) (by simpa using hk)
    rw [fail_no1 hs] at h1; exact h1
theorem num_short {s : S} {k : Nat} (hk : okw (k : Int) = true) (hs : s.2 = 0) (h : s.1.length < k) : numV s k = 0 ∧ numS s k = ([], 3) := by
  have h1 := numS_yes (s := s) hk
  rw [Int.toNat_natCast] at h1
  have h2 := take_no (s := s) h
  rw [fail_yes hs (by decide)] at h2
  rw [h2.1, h2.2] at h1; exact h1
theorem num_all {s : S} {k : Nat} (hk : okw (k : Int) = true) (h : k ≤ s.1.length) : numV s k = val (s.1.take k) ∧ numS s k = (s.1.drop k, s.2) := by
  have h1 := numS_yes (s := s) hk
  rw [Int.toNat_natCast] at h1
  have h2 := take_yes (s := s) h
  rw [h2.1, h2.2] at h1; exact h1
theorem fits_move {T : List UInt8} {p k : Nat} {s : S} (h : Fits T p s) (hs : s.2 = 0) (hk : k ≤ s.1.length) : Fits T (p + k) (s.1.drop k, s.2) := by
  have hl := h.len hs
  refine ⟨fun _ => ⟨by omega, ?_⟩, fun h' => absurd hs h'⟩
  show s.1.drop k = _
  rw [(h.1 hs).2, List.drop_drop]

theorem xcells {w : World} {b : Nat} {T : ByteArray} {p x : Int} (h : w.heap[b]? = some (.cells #[.string T, .int .i64 p, .int .i64 x] 32 (0, 0))) :
    w.cell? ⟨b, 0, none⟩ = some (.string T) ∧ w.cell? ⟨b, 1, none⟩ = some (.int .i64 p) ∧ w.cell? ⟨b, 2, none⟩ = some (.int .i64 x) ∧ w.frozen? ⟨b, 1, none⟩ = false :=
  ⟨by rw [blk_cell h]; rfl, by rw [blk_cell h]; rfl, by rw [blk_cell h]; rfl, blk_free h 1⟩
theorem xbyte (T : ByteArray) (p q : Nat) (h : p + q < T.size) :
    ∃ c : Nat, c < 256 ∧ (∀ w, (Instr.index 9 (.string T) (.int .i64 ((p : Int) + (q : Int)))).run Try.prog w = .ok (.int .u8 (c : Int)) w) ∧ Hid (c = (T.data.toList.getD (p + q) 0).toNat) := by
  obtain ⟨c, h1, h2, h3⟩ := byteNat T (p + q) h
  exact ⟨c, h1, fun w => by rw [show (p : Int) + (q : Int) = ((p + q : Nat) : Int) by omega]; exact h2 w, h3⟩
theorem at_left {T : List UInt8} {p q : Nat} {s : S} (h : Fits T p s) (hs : s.2 = 0) : s.1.getD q 0 = T.getD (p + q) 0 := by
  rw [(h.1 hs).2, List.getD_eq_getElem?_getD, List.getD_eq_getElem?_getD, List.getElem?_drop]

set_option maxHeartbeats 800000 in
theorem xnum_any (b : Nat) (T : ByteArray) (s : S) (k : Int) (hT : T.size ≤ 5000) (w : World) (hr : Xd w b T s) :
    Calls Try.prog 24 #[.pointer (some ⟨b, 0, none⟩), .int .i64 k] w (XDoes b T w (.int .i64 (numV s k : Int)) (numS s k)) := by
  obtain ⟨p, hc0, hc1, hc2, hf0, hf1, hf2, hp, hblk⟩ := hr.open
  by_cases h0 : s.2 = 0
  · rw [h0] at hc2
    have hlen := hp.out.len h0
    by_cases hk : okw k = true
    · obtain ⟨j, rfl⟩ : ∃ j : Nat, k = j := ⟨k.toNat, by have := okw_iff.mp hk; omega⟩
      have hj : 1 ≤ j ∧ j ≤ 7 := by have := okw_iff.mp hk; omega
      obtain ⟨hj1, hj7⟩ := hj
      have hTl := size_list T
      have hpb : p ≤ T.size := by omega
      have hpb2 : (p : Int) ≤ T.size := by omega
      by_cases hsh : s.1.length < j
      · have hN := Lib.hid (num_short hk h0 hsh)
        have hcmp : decide ((T.size : Int) - (p : Int) < (j : Int)) = true := by simp; omega
        have hw1 : IntKind.i64.wrap ((T.size : Int) - (p : Int)) = (T.size : Int) - (p : Int) := IntWalk.i64_in _ (by omega)
        clear hsh hk h0 hlen hr hTl
        go_enter Try.func24, Try.ntmps24
        go_wp2_with fail
        go_quiet (fail)
        clear hw1
        go_wp2_with fail
        go_ret
        exact ⟨ret_int (by rw [hN.out.1]; rfl), by rw [hN.out.2]; exact ⟨p, fits_bad (by decide), blk_set (w := w.drewN _) hblk.out 2 _⟩, ((Only.refl _ _).drewN _).set _ _⟩
      · have hN := Lib.hid (num_all hk (by omega : j ≤ s.1.length))
        have hM := Lib.hid (fits_move hp.out h0 (by omega : j ≤ s.1.length))
        have hcmp : decide ((T.size : Int) - (p : Int) < (j : Int)) = false := by simp; omega
        have hw1 : IntKind.i64.wrap ((T.size : Int) - (p : Int)) = (T.size : Int) - (p : Int) := IntWalk.i64_in _ (by omega)
        have hpj : p + j ≤ T.size := by omega
        have hjl : Hid (j ≤ s.1.length) := by show _ ≤ _; omega
        have hat : Hid (∀ q, s.1.getD q 0 = T.data.toList.getD (p + q) 0) := fun q => at_left hp.out h0
        have H0 := Lib.hid h0
        clear hsh hk h0 hlen hr hTl
        go_enter Try.func24, Try.ntmps24
        go_wp2_with fail
        go_quiet (fail)
        clear hw1
        go_wp2_with fail
        go_loopw [5, 6] (fun n i wr => ∃ q m : Nat, q ≤ j ∧ i = .int .i64 (q : Int) ∧ n = .int .i64 (m : Int) ∧ Hid (m = val (s.1.take q)) ∧ Only b w wr ∧ Hid (wr.heap[b]? = some (.cells #[.string T, .int .i64 (p : Int), .int .i64 s.2] 32 (0, 0)))) (fun _ i _ => j - (intOf i).toNat)
        case atStart => exact ⟨0, 0, Nat.zero_le _, rfl, rfl, rfl, (Only.refl _ _).drewN _, hblk.out⟩
        case round =>
          obtain ⟨q, m, hq, rfl, rfl, hm, ho, hb⟩ := hrel
          clear hc0 hc1 hc2 hf0 hf1 hf2
          obtain ⟨hc0, hc1, hc2, hf1⟩ := xcells hb.out
          by_cases hlt : q < j
          · obtain ⟨c, hc, hidx, hcl⟩ := xbyte T p q (by omega)
            have hml : m < 281474976710656 := by
              have h1 := val_take_lt s.1 q
              have h2 := pow_le q 6 (by omega)
              rw [pow6] at h2; rw [hm.out]; omega
            have hv : Hid (m * 256 + c = val (s.1.take (q + 1))) := by
              show _ = _
              rw [val_take s.1 q (by have := hjl.out; omega), hm.out, hcl.out, hat.out]
            have hw1 : IntKind.i64.wrap ((m : Int) * 256) = (m : Int) * 256 := IntWalk.i64_in _ (by omega)
            have hw2 : IntKind.i64.wrap ((p : Int) + (q : Int)) = (p : Int) + (q : Int) := IntWalk.i64_in _ (by omega)
            have hw3 : IntKind.i64.wrap ((m : Int) * 256 + (c : Int)) = (m : Int) * 256 + (c : Int) := IntWalk.i64_in _ (by omega)
            have hw4 : 0 ≤ (p : Int) + (q : Int) := by omega
            go_wp2_with fail
            go_quiet (fail)
            clear hw1 hw2 hw3
            go_wp2_with fail
            go_roundw
            case rel => exact ⟨q + 1, m * 256 + c, by omega, by go_num, by go_num, hv, ho.drewN _, hb⟩
            case measure => simp [intOf]; omega
          · obtain rfl : q = j := by omega
            have e : Hid (((p + q : Nat) : Int) = (p : Int) + (q : Int)) := by show _ = _; omega
            go_wp2_with fail
            go_ret
            exact ⟨ret_int (by rw [hN.out.1, hm.out]), by rw [hN.out.2]; exact ⟨p + q, hM.out, by rw [e.out]; exact blk_set hb.out 1 _⟩, ho.set _ _⟩
    · have hN := (numS_no (s := s) (k := k) (by simpa using hk))
      rw [fail_yes h0 (by decide)] at hN
      have HN := Lib.hid hN
      have hk' : k < 1 ∨ 7 < k := by have := mt okw_iff.mpr hk; omega
      clear hN h0 hk hlen hr
      by_cases h1 : k < 1
      · clear hk'
        go_enter Try.func24, Try.ntmps24
        go_wp2_with fail
        go_quiet (fail)
        go_wp2_with fail
        go_ret
        exact ⟨ret_int (by rw [HN.out.1]; rfl), by rw [HN.out.2]; exact ⟨p, fits_bad (by decide), blk_set hblk.out 2 _⟩, ((Only.refl _ _).set _ _).drewN _⟩
      · have h2 : 7 < k := by omega
        clear hk'
        go_enter Try.func24, Try.ntmps24
        go_wp2_with fail
        go_quiet (fail)
        go_wp2_with fail
        go_ret
        exact ⟨ret_int (by rw [HN.out.1]; rfl), by rw [HN.out.2]; exact ⟨p, fits_bad (by decide), blk_set hblk.out 2 _⟩, ((Only.refl _ _).set _ _).drewN _⟩
  · have hN := Lib.hid (num_bad (k := k) (hp.out.bad h0) h0)
    obtain ⟨z, hz⟩ : ∃ z, s.2 = z := ⟨_, rfl⟩
    have h1 : (z == 0) = false := by rw [← hz]; simpa using h0
    have h2 : (z != 0) = true := by rw [← hz]; simpa using h0
    rw [hz] at hc2
    have HR := Lib.hid hr
    clear h0 hz hr
    go_enter Try.func24, Try.ntmps24
    go_wp2_with fail
    go_quiet (fail)
    go_wp2_with fail
    go_ret
    exact ⟨ret_int (by rw [hN.out.1]; rfl), by rw [hN.out.2]; obtain ⟨p', hp', hb'⟩ := HR.out; exact ⟨p', hp', hb'⟩, (Only.refl _ _).drewN _⟩

end Go.Proofs.Ytmfcmheochdohaa.Bs
