/- Contracts of numbers as bytes: package bytes' own and the document's. -/
import Derived.Test.YtpgfaklnbehmhaaDoorBsMath
import Derived.Test.YtpgfaklnbehmhaaDoorSt
import Derived.Deep.OwnRows
import Derived.OneCell
import Derived.Laws.BitsAllLaws
namespace Go.Proofs.YtpgfaklnbehmhaaDoor.Bs
open Go.RowKit St Go.Sort BsM
set_option linter.unusedVariables false

theorem info8 : (Tryd.prog.info? 5).map (fun i => (i.zero, i.size, i.bytes)) = some (some (.int .u8 0), 1, 1) := by kernel_rfl
theorem made_eq (k : Nat) : madeCells #[.int .u8 0] k = (List.replicate k (Value.int .u8 0)).toArray := by
  apply Array.ext
  · simp [size_madeCells]
  · intro i h1 h2; simp [madeCells, Nat.mod_one]

theorem shr_eq (m j : Nat) : (m : Int) / 2 ^ (8 * j) = ((m / 256 ^ j : Nat) : Int) := by
  rw [show (256 : Nat) ^ j = 2 ^ (8 * j) by rw [Nat.pow_mul]]
  norm_cast

theorem right_any (k : Int) (w : World) :
    Calls Tryd.prog 64 #[.int .i64 k] w fun e w' => e = .returned (.bool (okw k)) ∧ w = w' := by
  by_cases h1 : 1 ≤ k
  · by_cases h2 : k ≤ 7
    · have h := Lib.hid (okw_yes h1 h2)
      go_enter Tryd.func64, Tryd.ntmps64
      go_wp2_with fail
      go_ret
      exact ⟨ret_bool h.out.symm, rfl⟩
    · have h := Lib.hid (okw_hi (k := k) (by omega))
      go_enter Tryd.func64, Tryd.ntmps64
      go_wp2_with fail
      go_ret
      exact ⟨ret_bool h.out.symm, rfl⟩
  · have h := Lib.hid (okw_lo (k := k) (by omega))
    go_enter Tryd.func64, Tryd.ntmps64
    go_wp2_with fail
    go_ret
    exact ⟨ret_bool h.out.symm, rfl⟩

set_option maxHeartbeats 400000 in
theorem num_no_any (n k : Int) (h : numOk n k = false) (w : World) :
    Calls Tryd.prog 46 #[.int .i64 n, .int .i64 k] w fun e w' => e = .returned (.string ⟨#[]⟩) ∧ w = w' := by
  by_cases h1 : okw k = true
  · have hr := right_any k w
    rw [h1] at hr
    have HR := Lib.hid hr
    have hk := okw_iff.mp h1
    clear hr
    by_cases h0 : n < 0
    · clear h h1
      go_enter Tryd.func46, Tryd.ntmps46
      go_wp2_with (go_at_call 64; refine HR.out.mono ?_; rintro e w' ⟨rfl, rfl⟩)
      go_ret
      exact ⟨rfl, rfl⟩
    · obtain ⟨m, rfl⟩ : ∃ m : Nat, n = m := ⟨n.toNat, by omega⟩
      obtain ⟨j, rfl⟩ : ∃ j : Nat, k = j := ⟨k.toNat, by omega⟩
      have hq : 0 < (m : Int) / 2 ^ (8 * j) := by
        rw [shr_eq]
        have : ¬ m / 256 ^ j = 0 := fun e => by
          have : numOk m j = true := by simp [numOk, h1, e]
          rw [this] at h; cases h
        exact Int.natCast_pos.mpr (Nat.pos_of_ne_zero this)
      clear h h1 h0
      go_enter Tryd.func46, Tryd.ntmps46
      go_wp2_with (go_at_call 64; refine HR.out.mono ?_; rintro e w' ⟨rfl, rfl⟩)
      go_ret
      exact ⟨rfl, rfl⟩
  · have hr := right_any k w
    rw [show okw k = false by simpa using h1] at hr
    have HR := Lib.hid hr
    clear hr h h1
    go_enter Tryd.func46, Tryd.ntmps46
    go_wp2_with (go_at_call 64; refine HR.out.mono ?_; rintro e w' ⟨rfl, rfl⟩)
    go_ret
    exact ⟨rfl, rfl⟩

set_option maxHeartbeats 400000 in
theorem num_yes_any (n k : Nat) (h1 : 1 ≤ k) (h2 : k ≤ 7) (h : n < 256 ^ k) (w : World) :
    Calls Tryd.prog 46 #[.int .i64 (n : Int), .int .i64 (k : Int)] w fun e w' => e = .returned (.string ⟨(be k n).toArray⟩) ∧ Kept w w' := by
  have hr := right_any k w
  rw [okw_yes (by omega) (by omega)] at hr
  have HR := Lib.hid hr
  have hq : (n : Int) / 2 ^ (8 * k) ≤ 0 := by rw [shr_eq, Nat.div_eq_of_lt h]; decide
  have H := Lib.hid h
  clear hr h
  have hmk := run_make_row' (P := Tryd.prog) 57 5 (.int .u8 0) 1 Tryd.underlying57 info8 rfl .i64 .i64 k (by omega) (by omega)
  go_enter Tryd.func46, Tryd.ntmps46
  go_wp2_with (go_at_call 64; refine HR.out.mono ?_; rintro e w' ⟨rfl, rfl⟩)
  go_loopw [24] (fun i wr => ∃ q : Nat, q ≤ k ∧ i = .int .i64 (q : Int) ∧ wr.heap[w.heap.size]? = some (.cells (List.replicate (k - q) (Value.int .u8 0) ++ cellsOf (be q n)).toArray 5 (0, 0)) ∧ Kept w wr) (fun i _ => k - (intOf i).toNat)
  case atStart => exact ⟨0, Nat.zero_le _, rfl, by rw [blk_new, made_eq]; simp [be, cellsOf], (Below.refl _ _).alloc (Nat.le_refl _) _⟩
  case round =>
    obtain ⟨q, hqk, rfl, hblk, hkept⟩ := hrel
    by_cases hlt : q < k
    · have hcell : wr.cell? ⟨w.heap.size, k - 1 - q, none⟩ = some (.int .u8 0) := by
        rw [blk_cell hblk, List.getElem?_toArray, List.getElem?_append_left (by simp; omega), List.getElem?_replicate, if_pos (by omega)]
      have hfree := blk_free hblk (k - 1 - q)
      obtain ⟨z, hz⟩ : ∃ z : Int, (n : Int) / 2 ^ (8 * q) % 256 = z := ⟨_, rfl⟩
      have hset : ∀ v : Value, v = .int .u8 z → (wr.setCell ⟨w.heap.size, k - 1 - q, none⟩ v).heap[w.heap.size]? = some (.cells (List.replicate (k - (q + 1)) (Value.int .u8 0) ++ cellsOf (be (q + 1) n)).toArray 5 (0, 0)) := fun v hv => by
        rw [blk_set hblk, hv]
        have hc := cells_step (Value.int .u8 0) k q (.int .u8 z) (cellsOf (be q n)) hlt
        have e : cellsOf (be (q + 1) n) = .int .u8 z :: cellsOf (be q n) := by
          rw [be_succ, ← hz, shr_eq]
          simp [cellsOf, UInt8.toNat_ofNat']
        rw [e, ← hc]
        simp
      have HS := Lib.hid hset
      have HB := Lib.hid hblk
      clear hset hblk
      go_wp2_with fail
      go_roundw
      case rel => exact ⟨q + 1, by omega, by go_num, HS.out _ rfl, hkept.setCell (Nat.le_refl _) _⟩
      case measure => simp [intOf]; omega
    · obtain rfl : q = k := by omega
      have hb2 : wr.heap[w.heap.size]? = some (.cells (cellsOf (be q n)).toArray 5 (0, 0)) := by rw [hblk]; simp
      have hconv := conv_blk (l := be q n) q hb2
      rw [be_len] at hconv
      clear hblk hb2
      go_wp2_with fail
      go_ret
      exact ⟨rfl, hkept⟩

end Go.Proofs.YtpgfaklnbehmhaaDoor.Bs
