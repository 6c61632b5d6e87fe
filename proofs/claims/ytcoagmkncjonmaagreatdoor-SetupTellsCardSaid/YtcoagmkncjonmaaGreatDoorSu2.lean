/- Package setup: its settings' words. -/
import Derived.Test.YtcoagmkncjonmaaGreatDoorSu1
import Derived.Test.YtcoagmkncjonmaaGreatDoorSs
import Derived.Test.YtcoagmkncjonmaaGreatDoorRv
namespace Go.Proofs.YtcoagmkncjonmaaGreatDoor.Su
open Go.RowKit Go.Sort St Blk
open Ad (Cf info_cf load_l load_w)
set_option linter.unusedVariables false
set_option linter.unusedSimpArgs false

def wordsB (i : Nat) : List ByteArray := (List.range i).map wordB
theorem wordsB_snoc (i : Nat) : wordsB (i + 1) = wordsB i ++ [wordB i] := by unfold wordsB; rw [List.range_succ, List.map_append]; rfl

set_option maxRecDepth 100000 in
set_option maxHeartbeats 1000000 in
theorem words_any (w : World) : Calls Tryz.prog 7 #[] w fun e w' => ∃ v base, e = .returned v ∧ Ss.Ss w' base v (wordsB 13) ∧ Kept w w' := by
  have HC := Lib.hid (fun b w => settings_any b w)
  go_enter Tryz.func7, Tryz.ntmps7
  go_upto_region 3 with (go_at_call 21; refine (HC.out _ _).mono ?_; rintro e w1 ⟨g, rfl, hg, hb, hk⟩)
  have HK := Lib.hid hk
  have HB := Lib.hid hb
  have HG := Lib.hid (And.intro hg hk.size)
  clear hk hb hg
  go_wp2_with fail
  go_loopw [1, 8] (fun v x wr => ∃ i : Nat, i ≤ 13 ∧ x = .int .i64 (i : Int) ∧ Ss.Ss wr w1.heap.size v (wordsB i) ∧ wr.heap[g]? = some (.cells (setA w.heap.size) 52 (0, 0)) ∧ Kept w wr ∧ w1.heap.size ≤ wr.heap.size) (fun _ x _ => 13 - (intOf x).toNat)
  case atStart => exact ⟨0, by omega, rfl, Ss.ss_nil _ _, HB.out, (Kept.one _ _).trans HK.out, Nat.le_refl _⟩
  case round =>
    obtain ⟨i, hi, rfl, hS, hb, hk, hz⟩ := hrel
    by_cases hlt : i < 13
    · obtain ⟨W, hW⟩ : ∃ W, wordB i = W := ⟨_, rfl⟩
      have hq := set_at w.heap.size hlt
      rw [hW] at hq
      have p0 : wr.cell? ⟨g, i * 2, none⟩ = some (.string W) := by rw [blk_cell hb]; exact hq.1
      have p1 : wr.cell? ⟨g, i * 2 + 1, none⟩ = some (.pointer (some ⟨w.heap.size, i, none⟩)) := by rw [blk_cell hb]; exact hq.2
      have HX := Lib.hid (And.intro hS (And.intro hb (And.intro hk (And.intro hz hW))))
      have hlen := (show (wordsB i).length = i by simp [wordsB])
      have hp := Lib.hid (And.intro hlen hz)
      have hx0 : (i : Int) < 13 := by omega
      clear hS hb hk hq hlen hz hW
      have hkA := Kept.one wr (.cells #[.string W, .pointer (some ⟨w.heap.size, i, none⟩)] 52)
      have hkB := hkA.more (.cells #[.string W] 9)
      have HS1 := Lib.hid (HX.out.1.keep hkB)
      have hs2 := Ss.ss_new (wr.alloc (.cells #[.string W, .pointer (some ⟨w.heap.size, i, none⟩)] 52)) w1.heap.size (Nat.le_trans hp.out.2 hkA.size) [W] #[.string W] rfl (by simp) 1 rfl
      rw [World.size_alloc] at hs2
      have HS2 := Lib.hid hs2
      clear hs2
      have HKB := Lib.hid hkB
      have HLE := Lib.hid (show (wordsB i).length + ([W] : List ByteArray).length ≤ 1000 by rw [hp.out.1]; simp; omega)
      have HBS := Lib.hid (Nat.le_trans hp.out.2 hkB.size)
      clear hkA hkB
      go_wp2_with (at_builtin; refine Ss.wpList_append_strs _ rfl _ _ rfl _ _ (wordsB i) [W] rfl rfl HS1.out HS2.out HLE.out HBS.out ?_; intro v2 w2 r1 r2; have R := Lib.hid (And.intro r1 r2); clear r1 r2)
      obtain ⟨r1, r2⟩ := R.out
      go_roundw
      case rel =>
        obtain ⟨hS, hb, hk, hz, hW⟩ := HX.out
        have hg2 := r2
        have hgl := blk_lt HB.out
        have hbd : w1.heap.size ≤ w2.heap.size := Nat.le_trans hz (Nat.le_trans HKB.out.size r2.size)
        refine ⟨i + 1, by omega, by go_num, by rw [wordsB_snoc, hW]; exact r1, ?_, ?_, hbd⟩
        · rw [r2.block g (Nat.lt_of_lt_of_le (blk_lt hb) HKB.out.size) (fun e => by have := (hS.lt e.symm).1; omega), kept_at HKB.out hb]
        · refine ((Wh.Fr.kept (S := fun k => w1.heap.size ≤ k) (hk.trans HKB.out)).grown r2 (fun k e => .inl (hS.lt e).1)).keeps fun k c => ?_
          have := HG.out.2
          simp at this
          omega
      case measure => simp [intOf]; omega
    · obtain rfl : i = 13 := by omega
      have HX := Lib.hid (And.intro hS hk)
      clear hS hb hk hz
      go_wp2_with fail
      go_ret
      exact ⟨_, _, rfl, HX.out.1, HX.out.2⟩

end Go.Proofs.YtcoagmkncjonmaaGreatDoor.Su
