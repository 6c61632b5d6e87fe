/- Package admit: whether a configuration may be. -/
import Derived.Test.YtcoagmkncjonmaaGreatDoorAd2
namespace Go.Proofs.YtcoagmkncjonmaaGreatDoor.Ad
open Go.RowKit Go.Sort St
open Go.Proofs.YtcoagmkncjonmaaGreatDoor.Id (quiet_at)
set_option linter.unusedVariables false

theorem bnds_lt {c : Cf} {j : Nat} {e : Int × Int × Int} (h : (bnds c)[j]? = some e) : j < 14 := (List.getElem?_eq_some_iff.1 h).1
theorem right_no {c : Cf} {j : Nat} {n a b : Int} (h : (bnds c)[j]? = some (n, a, b)) (hb : inB n a b = false) : right c = false := by
  unfold right
  have : (bnds c).all (fun e => inB e.1 e.2.1 e.2.2) = false := by
    rw [List.all_eq_false]
    exact ⟨(n, a, b), List.mem_of_getElem? h, by simp [hb]⟩
  rw [this]; rfl
theorem right_end {c : Cf} (h : ∀ m, m < 14 → ∀ n a b, (bnds c)[m]? = some (n, a, b) → inB n a b = true) : right c = decide (c.base ≤ c.most) := by
  unfold right
  have : (bnds c).all (fun e => inB e.1 e.2.1 e.2.2) = true := by
    rw [List.all_eq_true]
    intro e he
    obtain ⟨m, hm⟩ := List.mem_iff_getElem?.1 he
    exact h m (bnds_lt hm) e.1 e.2.1 e.2.2 hm
  rw [this]; rfl

set_option maxRecDepth 100000 in
set_option maxHeartbeats 2000000 in
theorem right_any (c : Cf) (w : World) : Calls Tryz.prog 39 #[.agg c.arr] w fun e w' => e = .returned (.bool (right c)) ∧ Kept w w' := by
  obtain ⟨W, hW⟩ : ∃ W, w.alloc (.cells c.arr 24) = W := ⟨_, rfl⟩
  have hK : Kept w W := by rw [← hW]; exact Kept.one _ _
  have hB : W.heap[w.heap.size]? = some (.cells c.arr 24 (0, 0)) := by rw [← hW]; exact blk_new _ _
  have HW := Lib.hid hW
  have HK := Lib.hid hK
  have HC := Lib.hid (fun w => bounds_any c w)
  obtain ⟨z, hz⟩ : ∃ z, right c = z := ⟨_, rfl⟩
  have HZ := Lib.hid hz
  rw [hz]
  clear hW hK hz
  go_enter Tryz.func39, Tryz.ntmps39
  go_upto_region 1 with fail
  rw [HW.out]
  go_upto_region 2 with (first
    | (refine wpList_load_row rfl 24 (.tmp 1) rfl w.heap.size rfl 24 c.arr (0, 0) _ hB Tryz.underlying24 rfl info_cf ?_)
    | (go_at_call 57; refine (HC.out _).mono ?_; rintro e w1 ⟨b, rfl, hk1, hb1⟩))
  go_loopw [8] (fun iv wr => ∃ j : Nat, j ≤ 14 ∧ iv = .int .i64 (j : Int) ∧ Hid (∀ m, m < j → ∀ n l m', (bnds c)[m]? = some (n, l, m') → inB n l m' = true) ∧ Kept w1 wr) (fun iv _ => 14 - (intOf iv).toNat)
  case atStart => exact ⟨0, Nat.zero_le _, rfl, Lib.hid (fun m hm => by omega), Kept.refl _⟩
  case round =>
    obtain ⟨j, hj, rfl, hno, hk⟩ := hrel
    by_cases hlt : j < 14
    · obtain ⟨⟨n, l, m⟩, hy⟩ : ∃ e, (bnds c)[j]? = some e := ⟨_, List.getElem?_eq_getElem (show j < (bnds c).length from hlt)⟩
      have hbb := kept_blk hk hb1
      obtain ⟨q0, q1, q2⟩ := cells42_at c hy
      have p0 : wr.cell? ⟨b, j * 3, none⟩ = some (.int .i64 n) := by rw [blk_cell hbb, List.getElem?_toArray]; exact q0
      have p1 : wr.cell? ⟨b, j * 3 + 1, none⟩ = some (.int .i64 l) := by rw [blk_cell hbb, List.getElem?_toArray]; exact q1
      have p2 : wr.cell? ⟨b, j * 3 + 2, none⟩ = some (.int .i64 m) := by rw [blk_cell hbb, List.getElem?_toArray]; exact q2
      have hj0 : (0 : Int) ≤ (j : Int) := by omega
      have hjl : (j : Int) < 14 := by omega
      have hs := IntWalk.i64_in ((j : Int) + 1) (by omega)
      have HK1 := Lib.hid (HK.out.trans (hk1.trans hk))
      have HK2 := Lib.hid hk
      by_cases h1 : n < l
      · have hr := Lib.hid (right_no hy (show inB n l m = false by simp [inB]; omega))
        clear q0 q1 q2 hbb hk hk1 hb1
        go_wp2_with fail
        go_ret
        exact ⟨ret_bool (by rw [← HZ.out, hr.out]), HK1.out.more _⟩
      · by_cases h2 : m < n
        · have hr := Lib.hid (right_no hy (show inB n l m = false by simp [inB]; omega))
          clear q0 q1 q2 hbb hk hk1 hb1
          go_wp2_with fail
          go_ret
          exact ⟨ret_bool (by rw [← HZ.out, hr.out]), HK1.out.more _⟩
        · have hn := Lib.hid (show ∀ k, k < j + 1 → ∀ n' l' m', (bnds c)[k]? = some (n', l', m') → inB n' l' m' = true from fun k hk' n' l' m' e => by
            by_cases ek : k = j
            · subst ek
              rw [hy] at e
              obtain ⟨rfl, e2⟩ := Prod.mk.inj (Option.some.inj e)
              obtain ⟨rfl, rfl⟩ := Prod.mk.inj e2
              simp [inB]; omega
            · exact hno.out k (by omega) n' l' m' e)
          clear q0 q1 q2 hbb hk hk1 hb1 hno hy
          go_wp2_with fail
          go_roundw
          case rel => exact ⟨j + 1, by omega, by go_num, hn, HK2.out.more _⟩
          case measure => simp [intOf]; omega
    · have hr := Lib.hid (right_end (c := c) fun k hk' => hno.out k (by omega))
      have hB2 := kept_blk (hk1.trans hk) hB
      have y9 : wr.cell? ⟨w.heap.size, 9, none⟩ = some (.int .i64 c.base) := by rw [blk_cell hB2]; rfl
      have y10 : wr.cell? ⟨w.heap.size, 10, none⟩ = some (.int .i64 c.most) := by rw [blk_cell hB2]; rfl
      have HK1 := Lib.hid (HK.out.trans (hk1.trans hk))
      have hj2 : ¬ (j : Int) < 14 := by omega
      clear hk hk1 hb1 hB hB2 hno
      go_wp2_with fail
      go_ret
      exact ⟨ret_bool (by rw [← HZ.out, hr.out]), HK1.out⟩

end Go.Proofs.YtcoagmkncjonmaaGreatDoor.Ad
