/- The law of layer 4: whatever is read of any bytes, the reader answers what the document says. -/
import Derived.Test.YtmfcmheochdohaaBsLaws4
import Derived.Test.YtmfcmheochdohaaArgs
namespace Go.Proofs.Ytmfcmheochdohaa.Bs
open Go.RowKit St Go.Sort BsM Args
set_option linter.unusedVariables false

theorem at3_start {W w : World} {b : Nat} {T : ByteArray} (h : At1 W b (T.data.toList, 0) w) :
    At3 W b w.heap.size T (T.data.toList, 0) (w.alloc (.cells #[.string T, .int .i64 0, .int .i64 0] 32)) := by
  have k : Kept w (w.alloc (.cells #[.string T, .int .i64 0, .int .i64 0] 32)) := (Below.refl _ _).alloc (Nat.le_refl _) _
  exact ⟨h.1.trans k, h.2.1, Below.size h.1, fun e => by have := blk_lt h.2.2; omega, h.2.2.kept k, 0, ⟨fun _ => ⟨Nat.zero_le _, rfl⟩, fun h => absurd rfl h⟩, blk_new _ _⟩
theorem At3.does {W : World} {b c : Nat} {T : ByteArray} {s : S} {f : FuncId} {args : Array Value} {v : Value} {s' : S} (h : ∀ w, At3 W b c T s w → Calls Try.prog f args w fun e w' => e = .returned v ∧ At3 W b c T s' w') :
    Hid (∀ w, At3 W b c T s w → Calls Try.prog f args w fun e w' => e = .returned v ∧ At3 W b c T s' w') := h

/-- the two readers' ends and what they have left -/
theorem at3_left (W : World) (b c : Nat) (T : ByteArray) (s : S) : Hid (∀ w, At3 W b c T s w → Calls Try.prog 15 #[.pointer (some ⟨b, 0, none⟩)] w fun e w' => e = .returned (.int .i64 (s.1.length : Int)) ∧ At3 W b c T s w') :=
  fun w hw => (left_any b s w hw.2.2.2.2.1).mono fun _ _ ⟨he, h⟩ => ⟨he, by subst h; exact hw⟩
theorem at3_xleft (W : World) (b c : Nat) (T : ByteArray) (s : S) (hT : T.size ≤ 5000) : Hid (∀ w, At3 W b c T s w → Calls Try.prog 16 #[.pointer (some ⟨c, 0, none⟩)] w fun e w' => e = .returned (.int .i64 (s.1.length : Int)) ∧ At3 W b c T s w') :=
  fun w ⟨h1, h2, h3, h4, h5, h6⟩ => (xleft_any c T s hT w h6).mono fun _ _ ⟨he, hx, ho⟩ => ⟨he, ho.below h1 h3 (Below.size h1), h2, h3, h4, h5.other ho h4, hx⟩
theorem at3_end (W : World) (b c : Nat) (T : ByteArray) (s : S) (hT : T.size ≤ 5000) : Hid (∀ w, At3 W b c T s w → Calls Try.prog 17 #[.pointer (some ⟨b, 0, none⟩)] w fun e w' => e = .returned (.int .i64 (endV s)) ∧ Kept W w' ∧ Xd w' c T s ∧ W.heap.size ≤ c) :=
  fun w ⟨h1, h2, h3, h4, h5, h6⟩ => (end_any b s w h5).mono fun _ _ ⟨he, hx, ho⟩ => ⟨he, ho.below h1 h2 (Below.size h1), h6.other ho h4.symm, h3⟩
theorem at3_xend (W : World) (c : Nat) (T : ByteArray) (s : S) (hT : T.size ≤ 5000) : Hid (∀ w, (Kept W w ∧ Xd w c T s ∧ W.heap.size ≤ c) → Calls Try.prog 18 #[.pointer (some ⟨c, 0, none⟩)] w fun e w' => e = .returned (.int .i64 (endV s)) ∧ Kept W w') :=
  fun w ⟨h1, h2, h3⟩ => (xend_any c T s hT w h2).mono fun _ _ ⟨he, hx, ho⟩ => ⟨he, ho.below h1 h3 (Below.size h1)⟩

set_option maxHeartbeats 1000000 in
theorem read_any (s : ByteArray) (v : Value) (len : Nat) (F : Nat → Int × Int) (w : World) (hp : Pairs w v len F) :
    Calls Try.prog 4 #[.string s, v] w fun e w' => e = .returned (.bool true) ∧ Below w.heap.size w w' := by
  have K0 : Kept w w := Kept.refl _
  by_cases hb : 2000 < s.size
  · have H0 := kept_of (W := w) awake_any
    clear hp
    go_enter Try.func4, Try.ntmps4
    go_wp2_with (go_at_call 7; refine (H0.out _ (by assumption)).mono ?_; rintro e w1 ⟨rfl, K1⟩)
    go_ret
    exact ⟨rfl, K1⟩
  · have H0 := kept_of (W := w) awake_any
    have H2 := at1_open (W := w) s
    have hT : s.size ≤ 5000 := by omega
    rcases hp with ⟨rfl, a, cap, rfl⟩ | ⟨h0, hlen, bl, off, cap, rfl, hbl, hcell⟩
    · go_enter Try.func4, Try.ntmps4
      go_wp2_with (go_at_call 13; refine (H2.out _ (by assumption)).mono ?_; rintro e w2 ⟨b, rfl, A2⟩)
      have A3 := at3_start A2
      clear A2
      go_loopw [7] (fun i wr => ∃ k : Nat, ∃ st : S, k ≤ 30 ∧ i = .int .i64 (k : Int) ∧ At3 w b w2.heap.size s st wr) (fun i _ => 30 - (intOf i).toNat)
      case atStart => exact ⟨0, _, by omega, rfl, A3⟩
      case round =>
        obtain ⟨k, st, hk, rfl, A4⟩ := hrel
        have E1 := at3_end w b w2.heap.size s st hT
        have E2 := at3_xend w w2.heap.size s st hT
        obtain ⟨z, hz⟩ : ∃ z, endV st = z := ⟨_, rfl⟩
        rw [hz] at E1 E2
        clear hz
        go_wp2_with (first
        | (go_at_call 17; refine (E1.out _ (by assumption)).mono ?_; rintro e w5 ⟨rfl, K5⟩)
        | (go_at_call 18; refine (E2.out _ (by assumption)).mono ?_; rintro e w6 ⟨rfl, K6⟩)
        | (go_at_call 7; refine (H0.out _ (by assumption)).mono ?_; rintro e w1 ⟨rfl, K1⟩))
        go_ret
        exact ⟨rfl, K1⟩
    · unfold maxLen at hlen
      have HC := Lib.hid hcell
      clear hcell
      go_enter Try.func4, Try.ntmps4
      go_wp2_with (go_at_call 13; refine (H2.out _ (by assumption)).mono ?_; rintro e w2 ⟨b, rfl, A2⟩)
      have A3 := at3_start A2
      clear A2
      go_loopw [7] (fun i wr => ∃ k : Nat, ∃ st : S, k ≤ 30 ∧ i = .int .i64 (k : Int) ∧ At3 w b w2.heap.size s st wr) (fun i _ => 30 - (intOf i).toNat)
      case atStart => exact ⟨0, _, by omega, rfl, A3⟩
      case round =>
        obtain ⟨k, st, hk, rfl, A4⟩ := hrel
        by_cases hlt : k < 30 ∧ k < len
        · obtain ⟨hk30, hkl⟩ := hlt
          obtain ⟨x, hx⟩ : ∃ x, (F k).1 = x := ⟨_, rfl⟩
          obtain ⟨y, hy⟩ : ∃ y, (F k).2 = y := ⟨_, rfl⟩
          have hc0 : wr.cell? ⟨bl, off + k * 2, none⟩ = some (.int .i64 x) := by rw [Below.cell A4.1 hbl, (HC.out k hkl).1, hx]
          have hc1 : wr.cell? ⟨bl, off + k * 2 + 1, none⟩ = some (.int .i64 y) := by rw [Below.cell A4.1 hbl, (HC.out k hkl).2, hy]
          clear hx hy
          have D1 := At3.does fun u hu => does_any w b w2.heap.size s st x y hT u hu
          obtain ⟨st2, hst2⟩ : ∃ st2, doS st x y = st2 := ⟨_, rfl⟩
          rw [hst2] at D1
          clear hst2
          have L1 := at3_left w b w2.heap.size s st2
          have L2 := at3_xleft w b w2.heap.size s st2 hT
          obtain ⟨z, hz⟩ : ∃ z : Int, (st2.1.length : Int) = z := ⟨_, rfl⟩
          rw [hz] at L1 L2
          clear hz
          go_wp2_with (first
            | (go_at_call 14; refine (D1.out _ (by assumption)).mono ?_; rintro e w5 ⟨rfl, A5⟩)
            | (go_at_call 15; refine (L1.out _ (by assumption)).mono ?_; rintro e w6 ⟨rfl, A6⟩)
            | (go_at_call 16; refine (L2.out _ (by assumption)).mono ?_; rintro e w7 ⟨rfl, A7⟩))
          go_roundw
          case rel => exact ⟨k + 1, st2, by omega, by go_num, A7⟩
          case measure => simp [intOf]; omega
        · have hlt2 : k < 30 → len ≤ k := by omega
          by_cases hkl : k < len
          · have hk30 : 30 ≤ k := by omega
            clear hlt hlt2
            have E1 := at3_end w b w2.heap.size s st hT
            have E2 := at3_xend w w2.heap.size s st hT
            obtain ⟨z, hz⟩ : ∃ z, endV st = z := ⟨_, rfl⟩
            rw [hz] at E1 E2
            clear hz
            go_wp2_with (first
              | (go_at_call 17; refine (E1.out _ (by assumption)).mono ?_; rintro e w5 ⟨rfl, K5⟩)
              | (go_at_call 18; refine (E2.out _ (by assumption)).mono ?_; rintro e w6 ⟨rfl, K6⟩)
              | (go_at_call 7; refine (H0.out _ (by assumption)).mono ?_; rintro e w1 ⟨rfl, K1⟩))
            go_ret
            exact ⟨rfl, K1⟩
          · have hkl2 : len ≤ k := by omega
            clear hlt hlt2
            have E1 := at3_end w b w2.heap.size s st hT
            have E2 := at3_xend w w2.heap.size s st hT
            obtain ⟨z, hz⟩ : ∃ z, endV st = z := ⟨_, rfl⟩
            rw [hz] at E1 E2
            clear hz
            go_wp2_with (first
              | (go_at_call 17; refine (E1.out _ (by assumption)).mono ?_; rintro e w5 ⟨rfl, K5⟩)
              | (go_at_call 18; refine (E2.out _ (by assumption)).mono ?_; rintro e w6 ⟨rfl, K6⟩)
              | (go_at_call 7; refine (H0.out _ (by assumption)).mono ?_; rintro e w1 ⟨rfl, K1⟩))
            go_ret
            exact ⟨rfl, K1⟩

/-! ### as the statements ask -/
theorem i64_hi {a : Int} (h : (Lit.int .i64 a).wf = true) : a ≤ 9223372036854775807 := by
  simp only [Lit.wf, Bool.and_eq_true, decide_eq_true_eq] at h
  have hh := h.2
  simp only [show IntKind.i64.max = 9223372036854775807 from rfl] at hh
  exact hh
theorem deeds {H : Type} {enc : TypeId × Value → H} {W : World} {r : Reach} {b0 : Nat} {v : Value} {d : DataW H} {p : List MemPlace} (hv : Value.okWide Try.prog W r b0 27 v)
    (h : DataW.Trod enc Try.prog W 0 (fun _ => true) true 27 v d p) : ∃ len F, Pairs W v len F :=
  open_pairs Try.underlying27 Try.underlying35 (by kernel_rfl) rfl rfl (by kernel_rfl) (by kernel_rfl) Try.underlying3 Try.underlying3 hv h
theorem read_all {H : Type} {enc : TypeId × Value → H} (s : ByteArray) (v : Value) {W : World} {r : Reach} {b0 : Nat} {d : DataW H} {p : List MemPlace} (hv : Value.okWide Try.prog W r b0 27 v)
    (h : DataW.Trod enc Try.prog W 0 (fun _ => true) true 27 v d p) :
    Calls Try.prog 4 #[.string s, v] W fun e w' => e = .returned (.bool true) ∧ Below W.heap.size W w' := by
  obtain ⟨len, F, hp⟩ := deeds hv h
  exact read_any s v len F W hp

end Go.Proofs.Ytmfcmheochdohaa.Bs
