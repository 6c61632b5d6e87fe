/- Rows of keys: those that a closure names are sought, and struck out in the row's own memory (slices.IndexFunc, slices.DeleteFunc). -/
import Derived.Test.YtiaafjabhnomeaaTb
import Derived.Test.YtiaafjabhnomeaaRx
import Derived.Shelf.Abstract
import Derived.Deep.DeepCutAuto
import Derived.LoopTactic
namespace Go.Proofs.Ytiaafjabhnomeaa.Tb
open Go.RowKit Go.Sort Go.Shelf IdM Se Mv
open St (Kept blk_cell blk_free blk_lt blk_set)
open Go.Proofs.Ytiaafjabhnomeaa.Rv
open Wh (Fr)
set_option linter.unusedVariables false
set_option maxRecDepth 20000

theorem kany_take {L : List Ke} {p : Ke → Bool} {i : Nat} {x : Ke} (h : (L.take i).any p = false) (ho : L[i]? = some x) (hf : p x = false) : (L.take (i + 1)).any p = false := by
  rw [List.take_add_one, ho, List.any_append, h]; simp [hf]
theorem Kr.pick {w : World} {v : Value} {L : List Ke} (h : Kr w v L) {i : Nat} (hi : i < L.length) : ∃ x g cap, L[i]? = some x ∧ v = .slice (some ⟨g, 0, none⟩) L.length cap ∧ L.length ≤ cap ∧ g < w.heap.size ∧ w.cell? ⟨g, i * 4, none⟩ = some (.int .i64 x.n) ∧ w.cell? ⟨g, i * 4 + 1, none⟩ = some (.int .i64 x.i) ∧ w.cell? ⟨g, i * 4 + 2, none⟩ = some (.int .i64 x.s) ∧ w.cell? ⟨g, i * 4 + 3, none⟩ = some (.int .i64 x.a) := by
  have hx := List.getElem?_eq_getElem hi
  obtain ⟨g, cap, e, h1, h2, hc⟩ := RowV.at h (fun _ => rfl) hx
  exact ⟨_, g, cap, hx, e, h1, h2, hc 0 _ rfl, hc 1 _ rfl, hc 2 _ rfl, hc 3 _ rfl⟩

set_option maxHeartbeats 1000000 in
theorem index_keys {w : World} {v : Value} {L : List Ke} (hv : Kr w v L) (hl : L.length ≤ 900000) (p : Ke → Bool) (g : Nat) (lb : Array Value) (eg : ∀ args u, (callFunc g args).run Try.prog u = .ok (.enter g args) u)
    (hp : ∀ u x, Kept w u → Calls Try.prog g (#[kv x] ++ lb) u fun e u' => e = .returned (.bool (p x)) ∧ Kept u u') :
    Calls Try.prog 55 #[v, .func (.func g) #[] lb] w fun e w' => ∃ r : Int, e = .returned (.int .i64 r) ∧ ((∃ i : Nat, ∃ x, r = i ∧ i < L.length ∧ (L.take i).any p = false ∧ L[i]? = some x ∧ p x = true) ∨ (L.any p = false ∧ r = -1)) ∧ Kept w w' := by
  obtain ⟨q, N, cap, rfl⟩ := hv.shape
  have hN : L.length = N := by obtain ⟨s, e, h, _⟩ := row_sl hv; obtain ⟨a, b, c⟩ := s; unfold Sl.v at e; cases e; exact h.symm
  have HV := Lib.hid hv
  have HN := Lib.hid hN
  have HP := Lib.hid hp
  have hm2 : N ≤ 9223372036854775807 := by omega
  clear hv hN hp
  go_enter Try.func55, Try.ntmps55
  go_wp2_with fail
  go_loopw [8] (fun x wr => ∃ i : Nat, i ≤ N ∧ x = .int .i64 (i : Int) ∧ Kept w wr ∧ Hid ((L.take i).any p = false)) (fun x _ => N - (intOf x).toNat)
  case atStart => exact ⟨0, Nat.zero_le _, rfl, Kept.refl _, rfl⟩
  case round =>
    obtain ⟨i, hi, rfl, hk, hA⟩ := hrel
    by_cases hlt : i < N
    · obtain ⟨x, b, cap', hx, e, _, _, c0, c1, c2, c3⟩ := Kr.pick (HV.out.keep hk) (i := i) (by rw [HN.out]; exact hlt)
      obtain ⟨e1, e3⟩ : q = some ⟨b, 0, none⟩ ∧ cap = cap' := by injection e with e1 e2 e3; exact ⟨e1, e3⟩
      clear e
      subst e1; subst e3
      have HO := Lib.hid hx
      have HC := Lib.hid (HP.out wr x hk)
      obtain ⟨z, hz⟩ : ∃ z, p x = z := ⟨_, rfl⟩
      rw [hz] at HC
      have HZ := Lib.hid hz
      clear hx hz
      obtain ⟨n, i2, s, a⟩ := x
      simp only [kv] at HC c0 c1 c2 c3
      have e4 : (0 : Nat) + i * 4 = i * 4 := Nat.zero_add _
      cases z
      · go_wp2_with fail
        refine HC.out.mono ?_
        rintro e w' ⟨rfl, hk2⟩
        go_wp2_with fail
        go_roundw
        case rel => exact ⟨i + 1, hlt, by go_num, hk.trans hk2, kany_take hA.out HO.out HZ.out⟩
        case measure => simp [intOf]; omega
      · go_wp2_with fail
        refine HC.out.mono ?_
        rintro e w' ⟨rfl, hk2⟩
        go_wp2_with fail
        go_ret
        exact ⟨_, rfl, .inl ⟨i, _, rfl, by rw [HN.out]; exact hlt, hA.out, HO.out, HZ.out⟩, hk.trans hk2⟩
    · obtain rfl : i = N := by omega
      go_wp2_with fail
      go_ret
      exact ⟨_, rfl, .inr ⟨by have := hA.out; rwa [List.take_of_length_le (Nat.le_of_eq HN.out)] at this, rfl⟩, hk⟩

/-- 'clear(v[m:])' -/
theorem run_clear_from {α : Type} {enc : α → List Value} {w : World} {st et : TypeId} {k bs : Nat} {zs : List Value} (R : EncT st et k bs zs enc) (hzv : ∀ w, (zeroValue et).run Try.prog w = .ok (.agg zs.toArray) w) {g n cap c : Nat} {A B : List α} (hv : RowV w (.slice (some ⟨g, 0, none⟩) n cap) et k enc (A ++ B)) (hn : n = A.length + B.length) (hB : B ≠ []) :
    ∃ w2, (∀ ty, (Builtin.clear_ #[st] ty #[.slice (some ⟨g, A.length * k, none⟩) B.length c]).run Try.prog w = .ok (.tuple #[]) w2) ∧ RowV w2 (.slice (some ⟨g, 0, none⟩) A.length cap) et k enc A ∧ Fr (fun j => j = g) w w2 := by
  rw [← List.length_append] at hn
  subst hn
  obtain ⟨g', cap', cur, e, hb, h1, h2, h3, h4⟩ := hv.full (fun c => hB (List.append_eq_nil_iff.1 c).2)
  cases e
  rw [List.length_append] at h1 h4
  have hBl : 0 < B.length := List.length_pos_iff.2 hB
  have hlk : (A.length + B.length) * k ≤ cap * k := Nat.mul_le_mul_right _ h1
  have hsum : (A.length + B.length) * k = A.length * k + B.length * k := Nat.add_mul _ _ _
  obtain ⟨Z, hZ⟩ : ∃ Z, (Builtin.zeroCells (Value.agg zs.toArray).cells B.length).toList = Z := ⟨_, rfl⟩
  have hZl : Z.length = B.length * k := by rw [← hZ]; simp [Builtin.zeroCells, Value.cells, R.zl]
  have hZ1 : ∀ u ∈ Z, u.oneCell' = true := fun u hu => by
    rw [← hZ] at hu
    simp only [Builtin.zeroCells, Value.cells, Array.toList_map, List.mem_map] at hu
    obtain ⟨i, _, rfl⟩ := hu
    refine R.z1 _ ?_
    have hk0 : 0 < zs.length := by rw [R.zl]; exact R.pos
    have hlt : i % zs.toArray.size < zs.toArray.size := Nat.mod_lt _ (by simpa using hk0)
    rw [getElem!_pos zs.toArray (i % zs.toArray.size) hlt]
    simp
  have hst := run_storeCells_at Try.prog g (A.length * k) et Z 0 cur w hb (by rw [hZl]; omega) hZ1
  rw [Nat.add_zero] at hst
  refine ⟨_, fun ty => by
    obtain ⟨n', hn'⟩ : ∃ n', B.length = n' + 1 := ⟨B.length - 1, by omega⟩
    simp only [Builtin.clear_]
    rw [hn'] at hZ
    simp [run_underlying R.us, hzv, hn', hZ, hst]
    rfl, ⟨?_, .inr ⟨g, cap, _, rfl, Nat.zero_le _, setRow_heap w g cur _ et (0, 0) hb, by omega, h2, ?_, ?_⟩⟩, ⟨rfl, rfl, rfl, by simp, fun j _ hj => setRow_other w g j _ hj⟩⟩
  · rw [fl_len R.len]
  · simp [hZl]; omega
  · show List.take (A.length * k) (cur.toList.take (A.length * k) ++ (Z ++ cur.toList.drop (A.length * k + Z.length))) = _
    have hl2 : (cur.toList.take (A.length * k)).length = A.length * k := by simp; omega
    rw [List.take_append_of_le_length (by rw [hl2]; exact Nat.le_refl _), List.take_of_length_le (by rw [hl2]; exact Nat.le_refl _)]
    have h5 := congrArg (List.take (A.length * k)) h4
    rw [List.take_take, Nat.min_eq_left (by omega), fl_app] at h5
    rw [h5, List.take_append_of_le_length (by rw [fl_len R.len]; exact Nat.le_refl _), List.take_of_length_le (by rw [fl_len R.len]; exact Nat.le_refl _)]
theorem zero_key (u : World) : (zeroValue 32).run Try.prog u = .ok (.agg zsK.toArray) u := by kernel_rfl

/-! ### what is kept, plain -/
def kep (p : Ke → Bool) (L : List Ke) (j : Nat) : List Ke := (L.take j).filter fun x => !p x
/-- the row behind j rounds -/
def mid (p : Ke → Bool) (L : List Ke) (j : Nat) : List Ke := kep p L j ++ L.drop (kep p L j).length
theorem kep_le (p : Ke → Bool) (L : List Ke) (j : Nat) : (kep p L j).length ≤ j := by
  unfold kep
  exact Nat.le_trans (List.length_filter_le _ _) (by rw [List.length_take]; omega)
theorem mid_len (p : Ke → Bool) {L : List Ke} {j : Nat} (h : j ≤ L.length) : (mid p L j).length = L.length := by
  have := kep_le p L j
  unfold mid; rw [List.length_append, List.length_drop]; omega
theorem mid_at (p : Ke → Bool) {L : List Ke} {j : Nat} (h : j < L.length) : (mid p L j)[j]? = L[j]? := by
  have := kep_le p L j
  unfold mid
  rw [List.getElem?_append_right this, List.getElem?_drop]
  congr 1; omega
theorem kep_no {p : Ke → Bool} {L : List Ke} {j : Nat} {x : Ke} (hx : L[j]? = some x) (hp : p x = true) : kep p L (j + 1) = kep p L j := by
  unfold kep; rw [List.take_add_one, hx, Option.toList_some, List.filter_append]; simp [hp]
theorem kep_yes {p : Ke → Bool} {L : List Ke} {j : Nat} {x : Ke} (hx : L[j]? = some x) (hp : p x = false) : kep p L (j + 1) = kep p L j ++ [x] := by
  unfold kep; rw [List.take_add_one, hx, Option.toList_some, List.filter_append]; simp [hp]
theorem mid_yes {p : Ke → Bool} {L : List Ke} {j : Nat} {x : Ke} (hx : L[j]? = some x) (hp : p x = false) : mid p L (j + 1) = (mid p L j).set (kep p L j).length x := by
  have hj : j < L.length := (List.getElem?_eq_some_iff.1 hx).1
  have hk := kep_le p L j
  have hkl : (kep p L j).length < L.length := by omega
  unfold mid
  rw [kep_yes hx hp, List.length_append, List.length_singleton, List.set_append_right _ _ (Nat.le_refl _), Nat.sub_self, List.drop_eq_getElem_cons hkl, List.set_cons_zero, List.append_assoc]
  rfl
theorem mid_no {p : Ke → Bool} {L : List Ke} {j : Nat} {x : Ke} (hx : L[j]? = some x) (hp : p x = true) : mid p L (j + 1) = mid p L j := by
  unfold mid; rw [kep_no hx hp]
theorem kep_first {p : Ke → Bool} {L : List Ke} {i : Nat} {x : Ke} (h : (L.take i).any p = false) (hx : L[i]? = some x) (hp : p x = true) : (kep p L (i + 1)).length = i ∧ mid p L (i + 1) = L := by
  have hi : i < L.length := (List.getElem?_eq_some_iff.1 hx).1
  have e : kep p L i = L.take i := List.filter_eq_self.2 fun y hy => by
    rw [List.any_eq_false] at h
    have := h y hy
    simpa using this
  rw [mid_no hx hp, kep_no hx hp]
  unfold mid
  have hl : (L.take i).length = i := by rw [List.length_take]; omega
  rw [e, hl, List.take_append_drop]
  exact ⟨rfl, rfl⟩
theorem kep_all (p : Ke → Bool) (L : List Ke) : kep p L L.length = L.filter fun x => !p x := by unfold kep; rw [List.take_length]
theorem none_kept {p : Ke → Bool} {L : List Ke} (h : L.any p = false) : (L.filter fun x => !p x) = L := List.filter_eq_self.2 fun y hy => by
  rw [List.any_eq_false] at h
  have := h y hy
  simpa using this

set_option maxHeartbeats 2000000 in
theorem delete_keys {w : World} {v : Value} {L : List Ke} (hv : Kr w v L) (hl : L.length ≤ 900000) (p : Ke → Bool) (g : Nat) (lb : Array Value) (eg : ∀ args u, (callFunc g args).run Try.prog u = .ok (.enter g args) u)
    (hp : ∀ u x, Fr (fun k => v.ownBlock = some k) w u → Calls Try.prog g (#[kv x] ++ lb) u fun e u' => e = .returned (.bool (p x)) ∧ Kept u u') :
    Calls Try.prog 50 #[v, .func (.func g) #[] lb] w fun e w' => ∃ v2, e = .returned v2 ∧ Kr w' v2 (L.filter fun x => !p x) ∧ v2.ownBlock = v.ownBlock ∧ Fr (fun k => v.ownBlock = some k) w w' := by
  have CI := Lib.hid (index_keys hv hl p g lb eg (fun u x k => hp u x (Fr.kept k)))
  obtain ⟨q, N, cap, rfl⟩ := hv.shape
  have hN : L.length = N := by obtain ⟨s, e, h, _⟩ := row_sl hv; obtain ⟨a, b, c⟩ := s; unfold Sl.v at e; cases e; exact h.symm
  have HV := Lib.hid hv
  have HN := Lib.hid hN
  have HP := Lib.hid hp
  have hm2 : N ≤ 900000 := by omega
  clear hv hN hp
  go_enter Try.func50, Try.ntmps50
  go_wp2_with fail
  refine CI.out.mono ?_
  rintro e w1 ⟨r, rfl, h | ⟨h, rfl⟩, hk1⟩
  · obtain ⟨i, x, rfl, hi, h1, h2, h3⟩ := h
    obtain ⟨y, gb, cap', _, e, hcap, hgl, _⟩ := Kr.pick HV.out hi
    obtain ⟨e1, e3⟩ : q = some ⟨gb, 0, none⟩ ∧ cap = cap' := by injection e with e1 e2 e3; exact ⟨e1, e3⟩
    clear e
    subst e1; subst e3
    obtain ⟨z1, z2⟩ := kep_first h1 h2 h3
    have hi2 : i < N := by rw [← HN.out]; exact hi
    have hcap2 : N ≤ cap := by rw [← HN.out]; exact hcap
    have Z := Lib.hid (And.intro z1 z2)
    have K1 := Lib.hid hk1
    have HGL := Lib.hid hgl
    clear h1 h2 h3 z1 z2 hi hcap hgl hk1
    go_wp2_with fail
    go_loopw [5, 6] (fun a b wr => ∃ j : Nat, j ≤ N ∧ b = .int .i64 (j : Int) ∧ a = .int .i64 ((kep p L j).length : Int) ∧ (kep p L j).length < j ∧ Fr (fun k => k = gb) w wr ∧ Hid (Kr wr (.slice (some ⟨gb, 0, none⟩) N cap) (mid p L j))) (fun _ b _ => N - (intOf b).toNat)
    case atStart => exact ⟨i + 1, hi2, by go_num, by rw [Z.out.1], by rw [Z.out.1]; omega, Fr.kept K1.out, by rw [Z.out.2]; exact HV.out.keep K1.out⟩
    case round =>
      obtain ⟨j, hj, rfl, rfl, hlt, hfr, hrow⟩ := hrel
      obtain ⟨ii, hii⟩ : ∃ ii, (kep p L j).length = ii := ⟨_, rfl⟩
      have hml : (mid p L j).length = N := by rw [mid_len p (by rw [HN.out]; exact hj)]; exact HN.out
      rw [hii] at hlt ⊢
      have HII := Lib.hid hii
      by_cases hjn : j < N
      · obtain ⟨x, b, cap', hx, e, _, hbl, c0, c1, c2, c3⟩ := Kr.pick hrow.out (i := j) (by rw [hml]; exact hjn)
        obtain ⟨e1, e3⟩ : gb = b ∧ cap = cap' := by injection e with e1 e2 e3; injection e1 with e1; injection e1 with e1; exact ⟨e1, e3⟩
        clear e
        subst e1; subst e3
        rw [mid_at p (by rw [HN.out]; exact hjn)] at hx
        have HO := Lib.hid hx
        have HC := Lib.hid (fun u (hu : Fr (fun k => k = gb) w u) => HP.out u x (hu.mono fun k c => .inl (by rw [c]; rfl)))
        obtain ⟨z, hz⟩ : ∃ z, p x = z := ⟨_, rfl⟩
        rw [hz] at HC
        have HZ := Lib.hid hz
        have HML := Lib.hid hml
        clear hx hz hml hii
        obtain ⟨n, i2, s, a⟩ := x
        simp only [kv] at HC c0 c1 c2 c3
        have e4 : (0 : Nat) + j * 4 = j * 4 := Nat.zero_add _
        obtain ⟨W, hW⟩ : ∃ W, wr.alloc (.cells #[.int .i64 n, .int .i64 i2, .int .i64 s, .int .i64 a] 32) = W := ⟨_, rfl⟩
        have kW : Kept wr W := by rw [← hW]; exact Kept.one _ _
        have bW : W.heap[wr.heap.size]? = some (.cells #[.int .i64 n, .int .i64 i2, .int .i64 s, .int .i64 a] 32 (0, 0)) := by rw [← hW]; exact St.blk_new _ _
        have y0 : W.cell? ⟨wr.heap.size, 0, none⟩ = some (.int .i64 n) := by rw [blk_cell bW]; rfl
        have y1 : W.cell? ⟨wr.heap.size, 1, none⟩ = some (.int .i64 i2) := by rw [blk_cell bW]; rfl
        have y2 : W.cell? ⟨wr.heap.size, 2, none⟩ = some (.int .i64 s) := by rw [blk_cell bW]; rfl
        have y3 : W.cell? ⟨wr.heap.size, 3, none⟩ = some (.int .i64 a) := by rw [blk_cell bW]; rfl
        have CW := Lib.hid (HC.out W (hfr.then_kept kW))
        have KW := Lib.hid (And.intro kW bW)
        have HW := Lib.hid hW
        have HFR := Lib.hid hfr
        clear kW bW hW hfr
        cases z
        · go_upto_region 8 with fail
          rw [HW.out]
          go_upto_region 9 with (first | (refine CW.out.mono ?_; rintro e w2 ⟨rfl, k2⟩))
          have y0' := (Below.cell k2 (p := ⟨wr.heap.size, 0, none⟩) (blk_lt KW.out.2)).trans y0
          have y1' := (Below.cell k2 (p := ⟨wr.heap.size, 1, none⟩) (blk_lt KW.out.2)).trans y1
          have y2' := (Below.cell k2 (p := ⟨wr.heap.size, 2, none⟩) (blk_lt KW.out.2)).trans y2
          have y3' := (Below.cell k2 (p := ⟨wr.heap.size, 3, none⟩) (blk_lt KW.out.2)).trans y3
          have hr2 : Kr w2 (.slice (some ⟨gb, 0, none⟩) (mid p L j).length cap) (mid p L j) := by rw [HML.out]; exact (RowV.keep hrow.out KW.out.1).keep k2
          have hil : ii < (mid p L j).length := by rw [HML.out]; omega
          have HR2 := Lib.hid hr2
          have HIL := Lib.hid hil
          have e5 : (0 : Nat) + ii * 4 = ii * 4 := Nat.zero_add _
          have hi9 : (ii : Int) < (N : Int) := by omega
          clear hr2 hil
          go_upto_region 10 with (first
            | (refine wpList_store_elem enc_key rfl (.tmp 33) (.tmp 32) rfl gb ii cap ⟨n, i2, s, a⟩ _ rfl rfl rfl HIL.out HR2.out ?_; intro w3 r3 f3))
          have R3 := Lib.hid (And.intro r3 f3)
          clear r3 f3
          go_wp2_with fail
          go_roundw
          case rel => exact ⟨_, _, _, _, _, _, _, _, _, _, _, _, _, _, _, _, _, _, _, _, _, _, _, ⟨j + 1, hjn, by go_num, by rw [kep_yes HO.out HZ.out, List.length_append, HII.out]; simp, by rw [kep_yes HO.out HZ.out, List.length_append, HII.out]; simp; omega, ((HFR.out.then_kept KW.out.1).then_kept k2).trans R3.out.2 (fun _ c => .inl c), by
            have h9 := R3.out.1
            rw [HML.out] at h9
            rw [mid_yes HO.out HZ.out, HII.out]
            exact Lib.hid h9⟩, rfl⟩
          case measure => simp [intOf]; omega
        · go_upto_region 8 with fail
          rw [HW.out]
          go_wp2_with (first | (refine CW.out.mono ?_; rintro e w2 ⟨rfl, k2⟩))
          go_roundw
          case rel => exact ⟨_, _, _, _, _, _, _, _, _, _, _, _, _, _, _, _, _, _, _, _, _, _, _, ⟨j + 1, hjn, by go_num, by rw [kep_no HO.out HZ.out, HII.out], by rw [kep_no HO.out HZ.out, HII.out]; omega, (HFR.out.then_kept KW.out.1).then_kept k2, by rw [mid_no HO.out HZ.out]; exact Lib.hid ((RowV.keep hrow.out KW.out.1).keep k2)⟩, rfl⟩
          case measure => simp [intOf]; omega
      · obtain rfl : j = N := by omega
        have hkl := kep_all p L
        rw [HN.out] at hkl
        obtain ⟨A, hA⟩ : ∃ A, kep p L j = A := ⟨_, rfl⟩
        obtain ⟨B, hB⟩ : ∃ B, L.drop A.length = B := ⟨_, rfl⟩
        have hrow' := hrow.out
        unfold mid at hrow'
        rw [hA, hB] at hrow'
        rw [hA] at hkl hii
        have hBl : B.length = j - ii := by rw [← hB, List.length_drop, HN.out, hii]
        have hBne : B ≠ [] := fun c => by rw [c] at hBl; simp at hBl; omega
        obtain ⟨w2, hcl, r2, f2⟩ := run_clear_from enc_key zero_key (c := cap - ii) hrow' (by rw [hBl, hii]; omega) hBne
        rw [hii] at hcl r2
        rw [hBl] at hcl
        obtain ⟨ad1, hs1, ha1⟩ := cut_from enc_key gb j cap ii (ii : Int) rfl (by omega)
        obtain rfl := ha1 (by omega)
        have hs4 := cut_to enc_key gb j cap ii (ii : Int) rfl (by omega)
        have FIN := Lib.hid (And.intro r2 (And.intro f2 (And.intro hkl hfr)))
        clear r2 f2 hrow hrow' hkl hfr
        go_wp2_with fail
        go_ret
        refine ⟨_, rfl, ?_, rfl, ?_⟩
        · rw [← FIN.out.2.2.1]; exact FIN.out.1
        · exact (FIN.out.2.2.2.trans FIN.out.2.1 (fun _ c => .inl c)).mono (fun k c => .inl (by rw [c]; rfl))
  · go_wp2_with fail
    go_ret
    exact ⟨_, rfl, by rw [none_kept h]; exact HV.out.keep hk1, rfl, Fr.kept hk1⟩

end Go.Proofs.Ytiaafjabhnomeaa.Tb
