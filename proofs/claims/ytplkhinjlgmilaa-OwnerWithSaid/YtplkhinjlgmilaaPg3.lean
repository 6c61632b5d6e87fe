/- Programs: the document's Right, Units and Same, the program's Units. -/
import Derived.Test.YtplkhinjlgmilaaPg2
import Derived.Lib.MinMax
namespace Go.Proofs.Ytplkhinjlgmilaa.Pg
open Go.RowKit Go.Sort St Cd
set_option linter.unusedVariables false

theorem Ops.pick {W : World} {p : Option Addr} {N cap : Nat} {L : List Op} (h : Ops W (.slice p N cap) L) {i : Nat} (hi : i < L.length) :
    ∃ o b off, L[i]? = some o ∧ p = some ⟨b, off, none⟩ ∧ W.cell? ⟨b, off + i * 3, none⟩ = some (.int .i64 o.k) ∧ W.cell? ⟨b, off + i * 3 + 1, none⟩ = some (.int .i64 o.a) ∧ W.cell? ⟨b, off + i * 3 + 2, none⟩ = some (.int .i64 o.b) := by
  obtain ⟨b, off, cap', e, _, c0, c1, c2⟩ := h.at (List.getElem?_eq_getElem hi)
  injection e with e
  exact ⟨_, b, off, List.getElem?_eq_getElem hi, e, c0, c1, c2⟩
theorem Ops.slice {W : World} {v : Value} {L : List Op} (h : Ops W v L) : ∃ p N cap, v = .slice p N cap ∧ L.length = N ∧ N ≤ maxLen := by
  obtain ⟨p, cap, e⟩ := h.shape
  exact ⟨p, _, cap, e, rfl, h.most⟩
theorem all_take {L : List Op} {f : Op → Bool} {i : Nat} {o : Op} (h : (L.take i).all f = true) (ho : L[i]? = some o) (hf : f o = true) : (L.take (i + 1)).all f = true := by
  rw [List.take_add_one, ho, List.all_append, h]; simp [hf]
theorem all_miss {L : List Op} {f : Op → Bool} {i : Nat} {o : Op} (ho : L[i]? = some o) (hf : f o = false) : L.all f = false := by
  rw [List.all_eq_false]; exact ⟨o, List.mem_of_getElem? ho, by rw [hf]; decide⟩
theorem right_miss {L : List Op} {n p : Int} (h : (L.all fun o => opB o n p) = false) : rightB L n p = false := by unfold rightB; rw [h]; simp
theorem right_hit {L : List Op} {n p : Int} (h : (L.all fun o => opB o n p) = true) : rightB L n p = decide (L.length ≤ 16) := by unfold rightB; rw [h]; simp

set_option maxHeartbeats 1000000 in
theorem rright_any {w : World} {v : Value} {L : List Op} (hv : Ops w v L) (n p : Int) :
    Calls Try.prog 32 #[v, .int .i64 n, .int .i64 p] w fun e w' => e = .returned (.bool (rightB L n p)) ∧ Kept w w' := by
  obtain ⟨q, N, cap, rfl, hN, hm⟩ := hv.slice
  have HV := Lib.hid hv
  have HN := Lib.hid hN
  have hm2 : N ≤ 9223372036854775807 := by unfold maxLen at hm; omega
  obtain ⟨R, hR⟩ : ∃ R, rightB L n p = R := ⟨_, rfl⟩
  rw [hR]
  have HR := Lib.hid hR
  clear hv hN hm hR
  go_enter Try.func32, Try.ntmps32
  go_wp2_with fail
  go_loopw [7] (fun x wr => ∃ i : Nat, i ≤ N ∧ x = .int .i64 (i : Int) ∧ Kept w wr ∧ Hid ((L.take i).all (fun o => opB o n p) = true)) (fun x _ => N - (intOf x).toNat)
  case atStart => exact ⟨0, Nat.zero_le _, rfl, Kept.refl _, rfl⟩
  case round =>
    obtain ⟨i, hi, rfl, hk, hA⟩ := hrel
    by_cases hlt : i < N
    · obtain ⟨o, b, off, ho, rfl, c0, c1, c2⟩ := (HV.out.go hk).pick (i := i) (by rw [HN.out]; exact hlt)
      have HO := Lib.hid ho
      have HC := Lib.hid (rop_any o n p)
      obtain ⟨z, hz⟩ : ∃ z, opB o n p = z := ⟨_, rfl⟩
      rw [hz] at HC
      have HZ := Lib.hid hz
      clear ho hz
      obtain ⟨k, a, b2⟩ := o
      simp only [Op.arr] at HC c0 c1 c2
      cases z
      · go_wp2_with (go_at_call 52; refine (HC.out _).mono ?_; rintro e w' ⟨rfl, hk2⟩)
        go_ret
        exact ⟨ret_bool ((right_miss (all_miss HO.out HZ.out)).symm.trans HR.out), hk.trans hk2⟩
      · go_wp2_with (go_at_call 52; refine (HC.out _).mono ?_; rintro e w' ⟨rfl, hk2⟩)
        go_roundw
        case rel => exact ⟨i + 1, hlt, by go_num, hk.trans hk2, all_take hA.out HO.out HZ.out⟩
        case measure => simp [intOf]; omega
    · obtain rfl : i = N := by omega
      have HR2 := Lib.hid ((right_hit (L := L) (n := n) (p := p) (by have := hA.out; rwa [List.take_of_length_le (Nat.le_of_eq HN.out)] at this)).symm.trans HR.out)
      rw [HN.out] at HR2
      by_cases h16 : i ≤ 16
      · obtain rfl : R = true := HR2.out.symm.trans (decide_eq_true h16)
        have h16' : (i : Int) ≤ 16 := by omega
        clear HR HR2 h16
        go_wp2_with fail
        go_ret
        exact ⟨rfl, hk⟩
      · obtain rfl : R = false := HR2.out.symm.trans (decide_eq_false h16)
        have h16' : ¬ (i : Int) ≤ 16 := by omega
        clear HR HR2 h16
        go_wp2_with fail
        go_ret
        exact ⟨rfl, hk⟩

theorem units_take {L : List Op} {i : Nat} {o : Op} (ho : L[i]? = some o) : units (L.take (i + 1)) = units (L.take i) + unit o := by
  rw [List.take_add_one, ho]; exact units_snoc _ _
theorem units_bound (L : List Op) (i : Nat) (h : i ≤ 1000) : 0 ≤ units (L.take i) ∧ units (L.take i) ≤ 1000000 := by
  have h1 := units_lo (L.take i)
  have h2 := units_hi (L.take i)
  have h3 : (L.take i).length ≤ 1000 := by rw [List.length_take]; omega
  constructor <;> omega

set_option maxHeartbeats 1000000 in
theorem runits_any {w : World} {v : Value} {L : List Op} (hv : Ops w v L) (hl : L.length ≤ 1000) :
    Calls Try.prog 33 #[v] w fun e w' => e = .returned (.int .i64 (units L)) ∧ w = w' := by
  obtain ⟨q, N, cap, rfl, hN, hm⟩ := hv.slice
  have HV := Lib.hid hv
  have HN := Lib.hid hN
  have hm2 : N ≤ 1000 := by rw [← hN]; exact hl
  clear hv hN hm hl
  go_enter Try.func33, Try.ntmps33
  go_wp2_with fail
  go_loopw [3, 4] (fun s x wr => ∃ i : Nat, i ≤ N ∧ x = .int .i64 (i : Int) ∧ s = .int .i64 (units (L.take i)) ∧ w = wr) (fun _ x _ => N - (intOf x).toNat)
  case atStart => exact ⟨0, Nat.zero_le _, rfl, rfl, rfl⟩
  case round =>
    obtain ⟨i, hi, rfl, rfl, rfl⟩ := hrel
    have hb := units_bound L i (by omega)
    by_cases hlt : i < N
    · obtain ⟨o, b, off, ho, rfl, c0, c1, c2⟩ := HV.out.pick (i := i) (by rw [HN.out]; exact hlt)
      have HU := Lib.hid (units_take ho)
      obtain ⟨s, hs⟩ : ∃ s, units (L.take i) = s := ⟨_, rfl⟩
      rw [hs] at HU hb ⊢
      obtain ⟨hs0, hs1⟩ := hb
      clear ho hs
      obtain ⟨k, a, b2⟩ := o
      simp only at c0 c1 c2
      by_cases hk : k = 1
      · subst hk
        have HU2 := Lib.hid (show units (L.take (i + 1)) = s + max 0 (min a 1000) from HU.out)
        clear HU
        by_cases h0 : a < 0
        · have HE := Lib.hid (show units (L.take (i + 1)) = s by rw [HU2.out]; omega)
          go_wp2_with fail
          go_roundw
          case rel => exact ⟨i + 1, hlt, by go_num, by rw [HE.out]; try rfl, by trivial⟩
          case measure => simp [intOf]; omega
        · by_cases h1 : 1000 < a
          · have HE := Lib.hid (show units (L.take (i + 1)) = s + 1000 by rw [HU2.out]; omega)
            go_wp2_with fail
            go_roundw
            case rel => exact ⟨i + 1, hlt, by go_num, by rw [HE.out]; try rfl, by trivial⟩
            case measure => simp [intOf]; omega
          · have HE := Lib.hid (show units (L.take (i + 1)) = s + a by rw [HU2.out]; omega)
            go_wp2_with fail
            go_roundw
            case rel => exact ⟨i + 1, hlt, by go_num, by rw [HE.out]; try rfl, by trivial⟩
            case measure => simp [intOf]; omega
      · have hk1 : (k == 1) = false := beq_eq_false_iff_ne.2 hk
        have HE := Lib.hid (show units (L.take (i + 1)) = s + 1 by rw [HU.out]; unfold unit; rw [if_neg hk])
        clear hk
        go_wp2_with fail
        go_roundw
        case rel => exact ⟨i + 1, hlt, by go_num, by rw [HE.out]; try rfl, by trivial⟩
        case measure => simp [intOf]; omega
    · obtain rfl : i = N := by omega
      have HE := Lib.hid (show units L = units (L.take i) by rw [List.take_of_length_le (Nat.le_of_eq HN.out)])
      obtain ⟨s, hs⟩ : ∃ s, units (L.take i) = s := ⟨_, rfl⟩
      rw [hs] at HE ⊢
      clear hs
      go_wp2_with fail
      go_ret
      exact ⟨ret_int HE.out.symm, by trivial⟩


end Go.Proofs.Ytplkhinjlgmilaa.Pg
