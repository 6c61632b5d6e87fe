/- Contracts of package bytes' reader. -/
import Derived.Test.YtpgfaklnbehmhaaDoorBs2
import Derived.IntWalk
namespace Go.Proofs.YtpgfaklnbehmhaaDoor.Bs
open Go.RowKit St Go.Sort BsM
set_option linter.unusedVariables false

/-- but for one block nothing of what was there has turned -/
structure Only (b : Nat) (w w' : World) : Prop where
  os : w'.os = w.os
  tape : w'.tape = w.tape
  output : w'.output = w.output
  size : w.heap.size ≤ w'.heap.size
  block : ∀ k, k < w.heap.size → k ≠ b → w'.heap[k]? = w.heap[k]?
theorem Only.refl (b : Nat) (w : World) : Only b w w := ⟨rfl, rfl, rfl, Nat.le_refl _, fun _ _ _ => rfl⟩
theorem Only.trans {b : Nat} {x y z : World} (h : Only b x y) (k : Only b y z) : Only b x z :=
  ⟨k.os.trans h.os, k.tape.trans h.tape, k.output.trans h.output, Nat.le_trans h.size k.size, fun i hi hb => (k.block i (Nat.lt_of_lt_of_le hi h.size) hb).trans (h.block i hi hb)⟩
theorem Only.set {b : Nat} {x y : World} (h : Only b x y) (o : Nat) (u : Value) : Only b x (y.setCell ⟨b, o, none⟩ u) :=
  h.trans ⟨rfl, rfl, rfl, by simp [World.setCell], fun k hk hb => Below.heap_setCell _ _ _ _ hb⟩
theorem Only.drew {b : Nat} {x y : World} (h : Only b x y) : Only b x y.drew := h.trans ⟨rfl, rfl, rfl, Nat.le_refl _, fun _ _ _ => rfl⟩
theorem Only.drewN {b : Nat} {x y : World} (h : Only b x y) (n : Nat) : Only b x (y.drewN n) := h.trans ⟨rfl, rfl, rfl, Nat.le_refl _, fun _ _ _ => rfl⟩
/-- a block of the call's own -/
theorem Only.below {b B : Nat} {a x y : World} (h : Only b x y) (hk : Below B a x) (hB : B ≤ b) (hx : B ≤ x.heap.size) : Below B a y :=
  hk.trans ⟨h.os, h.tape, h.output, h.size, fun k hk' => h.block k (Nat.lt_of_lt_of_le hk' hx) (by omega)⟩
theorem Only.other {b c : Nat} {x y : World} {o : Obj} (h : Only b x y) (hc : x.heap[c]? = some o) (hn : c ≠ b) : y.heap[c]? = some o := by rw [h.block c (blk_lt hc) hn]; exact hc
theorem kept_blk {c : Nat} {x y : World} {o : Obj} (h : Kept x y) (hc : x.heap[c]? = some o) : y.heap[c]? = some o := by rw [Below.block h c (blk_lt hc)]; exact hc

/-- the reader at block b: the bytes that are left, and what is wrong -/
def Rd (w : World) (b : Nat) (s : S) : Prop := w.heap[b]? = some (.cells #[.string ⟨s.1.toArray⟩, .int .i64 s.2] 63 (0, 0))
def Does (b : Nat) (a : World) (v : Value) (s' : S) (e : Ending) (w' : World) : Prop := e = .returned v ∧ Rd w' b s' ∧ Only b a w'
theorem Rd.kept {x y : World} {b : Nat} {s : S} (h : Rd x b s) (k : Kept x y) : Rd y b s := kept_blk k h
theorem Rd.other {x y : World} {b c : Nat} {s : S} (h : Rd x c s) (k : Only b x y) (hn : c ≠ b) : Rd y c s := k.other h hn
/-- what stands in the reader's two cells, its text under a name -/
theorem Rd.open {w : World} {b : Nat} {s : S} (h : Rd w b s) : ∃ D : ByteArray, w.cell? ⟨b, 0, none⟩ = some (.string D) ∧ w.cell? ⟨b, 1, none⟩ = some (.int .i64 s.2) ∧ w.frozen? ⟨b, 0, none⟩ = false ∧ w.frozen? ⟨b, 1, none⟩ = false ∧
    Hid (D.data.toList = s.1) ∧ Hid (D.size = s.1.length) ∧ Hid (∀ (o : Nat) (u : Value) , (w.setCell ⟨b, o, none⟩ u).heap[b]? = some (.cells ((#[.string D, .int .i64 s.2] : Array Value).setIfInBounds o u) 63 (0, 0))) := by
  have h' : w.heap[b]? = some (.cells #[.string ⟨s.1.toArray⟩, .int .i64 s.2] 63 (0, 0)) := h
  exact ⟨⟨s.1.toArray⟩, by rw [blk_cell h']; rfl, by rw [blk_cell h']; rfl, blk_free h' 0, blk_free h' 1, rfl, by show _ = _; rw [size_list], fun o u => blk_set h' o u⟩
theorem Rd.mk {w : World} {b : Nat} {D : ByteArray} {x : Int} {l : List UInt8} (h : w.heap[b]? = some (.cells #[.string D, .int .i64 x] 63 (0, 0))) (hD : D.data.toList = l) : Rd w b (l, x) := by
  have := str_of D l hD; subst this; exact h

theorem open_any (s : ByteArray) (w : World) :
    Calls Tryd.prog 27 #[.string s] w fun e w' => e = .returned (.pointer (some ⟨w.heap.size, 0, none⟩)) ∧ Rd w' w.heap.size (s.data.toList, 0) ∧ Kept w w' := by
  go_enter Tryd.func27, Tryd.ntmps27
  go_wp2_with fail
  go_ret
  exact ⟨rfl, by rw [Rd, blk_new], (Below.refl _ _).alloc (Nat.le_refl _) _⟩

theorem fail_no1 {s : S} {x : Int} (h : s.2 ≠ 0) : failS s x = s := by simp [failS, h]
theorem fail_no2 {s : S} : failS s 0 = s := by simp [failS]
theorem fail_yes {s : S} {x : Int} (h : s.2 = 0) (hx : x ≠ 0) : failS s x = ([], x) := by simp [failS, h, hx]

theorem two_first {s : ByteArray} {v : Value} : ((#[.string s, v] : Array Value).setIfInBounds 0 (.string ⟨#[]⟩)) = #[.string ⟨#[]⟩, v] := rfl

set_option maxHeartbeats 400000 in
theorem fail_any (b : Nat) (s : S) (x : Int) (w : World) (hr : Rd w b s) :
    Calls Tryd.prog 54 #[.pointer (some ⟨b, 0, none⟩), .int .i64 x] w (Does b w (.tuple #[]) (failS s x)) := by
  obtain ⟨D, hc0, hc1, hf0, hf1, hD, hDs, hset⟩ := hr.open
  have HR := Lib.hid hr
  clear hr
  by_cases h0 : s.2 = 0
  · rw [h0] at hc1
    by_cases hx : x = 0
    · subst hx
      have he := Lib.hid (fail_no2 (s := s))
      clear h0
      go_enter Tryd.func54, Tryd.ntmps54
      go_wp2_with fail
      refine bodyPost_ret (results_none rfl _ _ _) rfl ?_
      exact ⟨rfl, by rw [he.out]; exact HR.out, Only.refl _ _⟩
    · have he := Lib.hid (fail_yes (s := s) h0 hx)
      have h1 : (x == 0) = false := by simpa using hx
      clear h0 hx
      go_enter Tryd.func54, Tryd.ntmps54
      go_wp2_with fail
      go_end0
      exact ⟨rfl, by rw [he.out]; exact blk_set (hset.out 1 (.int .i64 x)) 0 _, ((Only.refl _ _).set _ _).set _ _⟩
  · have he := Lib.hid (fail_no1 (s := s) (x := x) h0)
    obtain ⟨z, hz⟩ : ∃ z, s.2 = z := ⟨_, rfl⟩
    have h1 : (z != 0) = true := by rw [← hz]; simpa using h0
    rw [hz] at hc1
    clear h0 hz
    go_enter Tryd.func54, Tryd.ntmps54
    go_wp2_with fail
    refine bodyPost_ret (results_none rfl _ _ _) rfl ?_
    exact ⟨rfl, by rw [he.out]; exact HR.out, Only.refl _ _⟩

theorem take_no {s : S} {n : Nat} (h : s.1.length < n) : takeV s n = [] ∧ takeS s n = failS s 3 := by
  constructor
  · unfold takeV; rw [if_neg (by omega)]
  · unfold takeS; rw [if_neg (by omega)]
theorem take_yes {s : S} {n : Nat} (h : n ≤ s.1.length) : takeV s n = s.1.take n ∧ takeS s n = (s.1.drop n, s.2) := by
  constructor
  · unfold takeV; rw [if_pos h]
  · unfold takeS; rw [if_pos h]
/-- a text cut in two -/
theorem cut_two (D : ByteArray) (n : Nat) (h : n ≤ D.size) : ∃ E F : ByteArray, (∀ w, (Instr.slice 9 (.string D) none (some (.int .i64 (n : Int))) none).run Tryd.prog w = .ok (.string E) w) ∧
    (∀ w, (Instr.slice 9 (.string D) (some (.int .i64 (n : Int))) none none).run Tryd.prog w = .ok (.string F) w) ∧ Hid (E.data.toList = D.data.toList.take n) ∧ Hid (F.data.toList = D.data.toList.drop n) := by
  refine ⟨D.extract 0 n, D.extract n D.size, fun w => ?_, fun w => ?_, ?_, ?_⟩
  · rw [run_slice_string_to_if w 9 D .i64 _ Tryd.underlying9, if_pos ⟨by omega, by omega⟩]; rfl
  · rw [run_slice_string_from_if w 9 D .i64 _ Tryd.underlying9, if_pos ⟨by omega, by omega⟩]; rfl
  · show _ = _; rw [extract_list]; rfl
  · show _ = _; rw [extract_list, List.take_of_length_le (by rw [size_list]; exact Nat.le_refl _)]

set_option maxHeartbeats 400000 in
theorem take_any (b : Nat) (s : S) (n : Nat) (w : World) (hr : Rd w b s) :
    Calls Tryd.prog 66 #[.pointer (some ⟨b, 0, none⟩), .int .i64 (n : Int)] w (Does b w (.string ⟨(takeV s n).toArray⟩) (takeS s n)) := by
  obtain ⟨D, hc0, hc1, hf0, hf1, hD, hDs, hset⟩ := hr.open
  by_cases hn : n ≤ D.size
  · obtain ⟨E, F, hE, hF, hEl, hFl⟩ := cut_two D n hn
    have hT := Lib.hid (take_yes (s := s) (n := n) (by rw [← hDs.out]; exact hn))
    have HR := Lib.hid hr
    clear hr
    go_enter Tryd.func66, Tryd.ntmps66
    go_wp2_with fail
    go_ret
    exact ⟨ret_list (by rw [hEl.out, hD.out, hT.out.1]), by rw [hT.out.2]; exact Rd.mk (hset.out 0 _) (by rw [hFl.out, hD.out]), (Only.refl _ _).set _ _⟩
  · have hT := Lib.hid (take_no (s := s) (n := n) (by rw [← hDs.out]; omega))
    have hn2 : D.size < n := by omega
    have hfail := Lib.hid (fail_any b s 3 w hr)
    clear hr hn
    go_enter Tryd.func66, Tryd.ntmps66
    go_wp2_with (go_at_call 54; refine hfail.out.mono ?_; rintro e w' ⟨rfl, hr', ho⟩)
    go_ret
    exact ⟨ret_none hT.out.1, by rw [hT.out.2]; exact hr', ho⟩

theorem take_nil (n : Int) (w : World) (hfail : Calls Tryd.prog 54 #[.pointer none, .int .i64 3] w fun e w' => e = .returned (.tuple #[]) ∧ w = w') :
    Calls Tryd.prog 66 #[.pointer none, .int .i64 n] w fun e w' => e = .returned (.string ⟨#[]⟩) ∧ w = w' := by
  have H := Lib.hid hfail
  clear hfail
  go_enter Tryd.func66, Tryd.ntmps66
  go_wp2_with (go_at_call 54; refine H.out.mono ?_; rintro e w' ⟨rfl, rfl⟩)
  go_ret
  exact ⟨rfl, rfl⟩
theorem fail_nil (x : Int) (w : World) :
    Calls Tryd.prog 54 #[.pointer none, .int .i64 x] w fun e w' => e = .returned (.tuple #[]) ∧ w = w' := by
  go_enter Tryd.func54, Tryd.ntmps54
  go_wp2_with fail
  refine bodyPost_ret (results_none rfl _ _ _) rfl ?_
  exact ⟨rfl, rfl⟩

theorem or_byte (n c : Nat) (hn : n < 281474976710656) (hc : c < 256) : bits .or .i64 ((n : Int) * 256) (c : Int) = ((n * 256 + c : Nat) : Int) := by
  have e : (n : Int) * 256 = ((n * 256 : Nat) : Int) := by omega
  have h1 : (BitVec.ofInt 64 ((n * 256 : Nat) : Int)).toNat = n * 256 := by rw [BitVec.ofInt_natCast, BitVec.toNat_ofNat]; exact Nat.mod_eq_of_lt (by omega)
  have h2 : (BitVec.ofInt 64 (c : Int)).toNat = c := by rw [BitVec.ofInt_natCast, BitVec.toNat_ofNat]; exact Nat.mod_eq_of_lt (by omega)
  have h3 : n * 256 ||| c = n * 256 + c := by
    have := Nat.shiftLeft_add_eq_or_of_lt (b := c) (i := 8) (by omega) n
    rw [Nat.shiftLeft_eq] at this; exact this.symm
  rw [e]
  show IntKind.i64.wrap ((BitVec.ofInt 64 ((n * 256 : Nat) : Int) ||| BitVec.ofInt 64 (c : Int)).toNat : Int) = _
  rw [BitVec.toNat_or, h1, h2, h3]
  exact IntWalk.i64_in _ (by omega)

theorem byteNat (s : ByteArray) (i : Nat) (h : i < s.size) :
    ∃ b : Nat, b < 256 ∧ (∀ w, (Instr.index 9 (.string s) (.int .i64 (i : Int))).run Tryd.prog w = .ok (.int .u8 (b : Int)) w) ∧ Hid (b = (s.data.toList.getD i 0).toNat) :=
  ⟨_, (s.data.toList.getD i 0).toNat_lt, fun w => by
    rw [run_index_string w 9 s .i64 i Tryd.underlying9, dif_pos ⟨by omega, by omega⟩]
    have e := get_byte s i h
    simp only [Int.toNat_natCast]
    rw [e], rfl⟩

theorem numS_yes {s : S} {k : Int} (h : okw k = true) : numV s k = val (takeV s k.toNat) ∧ numS s k = takeS s k.toNat := by unfold numV numS; rw [if_pos h, if_pos h]; exact ⟨rfl, rfl⟩
theorem numS_no {s : S} {k : Int} (h : okw k = false) : numV s k = 0 ∧ numS s k = failS s 2 := by unfold numV numS; rw [h]; exact ⟨rfl, rfl⟩

set_option maxHeartbeats 800000 in
theorem rdnum_any (b : Nat) (s : S) (k : Int) (w : World) (hr : Rd w b s) :
    Calls Tryd.prog 51 #[.pointer (some ⟨b, 0, none⟩), .int .i64 k] w (Does b w (.int .i64 (numV s k : Int)) (numS s k)) := by
  have hok := right_any k w
  by_cases hk : okw k = true
  · obtain ⟨j, rfl⟩ : ∃ j : Nat, k = j := ⟨k.toNat, by have := okw_iff.mp hk; omega⟩
    have hj : 1 ≤ j ∧ j ≤ 7 := by have := okw_iff.mp hk; omega
    have hT := numS_yes (s := s) hk
    rw [hk] at hok
    have htake := take_any b s j w hr
    have hlen := takeV_len s j
    rw [Int.toNat_natCast] at hT
    obtain ⟨t, ht⟩ : ∃ t, takeV s j = t := ⟨_, rfl⟩
    rw [ht] at htake hT hlen
    obtain ⟨D, hD⟩ : ∃ D : ByteArray, (⟨t.toArray⟩ : ByteArray) = D := ⟨_, rfl⟩
    have hDl : D.data.toList = t := by rw [← hD]
    have hDs : D.size ≤ 7 := by rw [size_list, hDl]; omega
    have hDs2 : D.size = t.length := by rw [size_list, hDl]
    rw [hD] at htake
    have HK := Lib.hid hok
    have HT := Lib.hid hT
    have HC := Lib.hid htake
    have HD := Lib.hid hDl
    have HDS := Lib.hid hDs2
    clear hok hT htake hDl hD ht hDs2 hk hr
    go_enter Tryd.func51, Tryd.ntmps51
    go_wp2_with (first | (go_at_call 64; refine HK.out.mono ?_; rintro e w' ⟨rfl, rfl⟩) | (go_at_call 66; refine HC.out.mono ?_; rintro e w' ⟨rfl, hr', ho⟩))
    go_loop [6, 18] (fun n i => ∃ q : Nat, q ≤ D.size ∧ i = .int .i64 (q : Int) ∧ n = .int .i64 (val (t.take q) : Int)) (fun _ i => D.size - (intOf i).toNat)
    case atStart => exact ⟨0, Nat.zero_le _, rfl, rfl⟩
    case round =>
      obtain ⟨q, hq, rfl, rfl⟩ := hrel
      obtain ⟨m, hm⟩ : ∃ m, val (t.take q) = m := ⟨_, rfl⟩
      rw [hm]
      by_cases hlt : q < D.size
      · obtain ⟨c, hc, hidx, hcl⟩ := byteNat D q hlt
        have hml : m < 281474976710656 := by
          have h1 := val_take_lt t q
          have h2 := pow_le q 6 (by omega)
          rw [pow6] at h2; omega
        have hor := or_byte m c hml hc
        have hv : Hid (((m * 256 + c : Nat) : Int) = (val (t.take (q + 1)) : Int)) := by
          show _ = _
          rw [val_take t q (by rw [← HDS.out]; exact hlt), hm, hcl.out, HD.out]
        clear hm
        obtain ⟨z, hz⟩ : ∃ z : Int, ((m * 256 + c : Nat) : Int) = z := ⟨_, rfl⟩
        rw [hz] at hor hv
        clear hz
        go_wp2_with fail
        go_round
        case rel => exact ⟨q + 1, by omega, by go_num, by rw [hv.out]⟩
        case measure => simp [intOf]; omega
      · have hmv : Hid (m = val t) := by show _ = _; rw [← hm, List.take_of_length_le (by rw [← HDS.out]; omega)]
        clear hm
        go_wp2_with fail
        go_ret
        exact ⟨ret_int (by rw [HT.out.1, hmv.out]), by rw [HT.out.2]; exact hr', ho⟩
  · have hk' : okw k = false := by simpa using hk
    have hT := Lib.hid (numS_no (s := s) hk')
    rw [hk'] at hok
    have HK := Lib.hid hok
    have HC := Lib.hid (fail_any b s 2 w hr)
    clear hok hk hk' hr
    go_enter Tryd.func51, Tryd.ntmps51
    go_wp2_with (first | (go_at_call 64; refine HK.out.mono ?_; rintro e w' ⟨rfl, rfl⟩) | (go_at_call 54; refine HC.out.mono ?_; rintro e w' ⟨rfl, hr', ho⟩))
    go_ret
    exact ⟨ret_int (by rw [hT.out.1]; rfl), by rw [hT.out.2]; exact hr', ho⟩

end Go.Proofs.YtpgfaklnbehmhaaDoor.Bs
