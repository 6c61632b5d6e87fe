/- The law 'none is told early, late, or twice' walked. -/
import Derived.Test.YtffhjdkhmggakaaWhO
import Derived.Deep.OwnRows
import Derived.Deep.QuietTactic
import Derived.BigQuiet
namespace Go.Proofs.Ytffhjdkhmggakaa.Wh
open Go.RowKit Tk Sl
open St (Kept)
open Args (Ints)

/-- what is told of the first len times, up to an end -/
structure Tells (F : Nat → Int) (len : Nat) (fin : Int) (D : List Int) : Prop where
  each : ∀ h ∈ D, ∃ i : Nat, i < len ∧ h = (i : Int) + 1 ∧ clamp (F i) ≤ fin
  nodup : D.Nodup
  row : ∀ m h g, D[m]? = some h → D[m + 1]? = some g → ∀ i j : Nat, h = (i : Int) + 1 → g = (j : Int) + 1 → clamp (F i) ≤ clamp (F j)
  all : ∀ i, i < len → clamp (F i) ≤ fin → ((i : Int) + 1) ∈ D
theorem tells_of {F : Nat → Int} {len : Nat} {L : List (Int × Int)} (hs : L.Pairwise lt2) (hm : ∀ a h, (a, h) ∈ L ↔ ∃ i : Nat, i < len ∧ a = clamp (F i) ∧ h = (i : Int) + 1) (fin : Int) : Tells F len fin ((due fin L).map Prod.snd) := by
  have hmd : ∀ e ∈ due fin L, ∃ i : Nat, i < len ∧ e.1 = clamp (F i) ∧ e.2 = (i : Int) + 1 ∧ e.1 ≤ fin := fun e he => by
    obtain ⟨h1, h2⟩ := List.mem_filter.1 he
    obtain ⟨i, hi, e1, e2⟩ := (hm e.1 e.2).1 h1
    exact ⟨i, hi, e1, e2, by simpa using h2⟩
  have hsd : (due fin L).Pairwise lt2 := hs.filter _
  refine ⟨fun h hh => ?_, ?_, fun m h g h1 h2 i j e1 e2 => ?_, fun i hi hle => ?_⟩
  · obtain ⟨e, he, rfl⟩ := List.mem_map.1 hh
    obtain ⟨i, hi, e1, e2, e3⟩ := hmd e he
    exact ⟨i, hi, e2, by omega⟩
  · rw [List.nodup_iff_pairwise_ne, List.pairwise_map]
    refine hsd.imp_of_mem ?_
    intro a b ha hb hlt e
    obtain ⟨i, _, e1, e2, _⟩ := hmd a ha
    obtain ⟨j, _, f1, f2, _⟩ := hmd b hb
    have : i = j := by omega
    subst this
    unfold lt2 at hlt; omega
  · rw [List.getElem?_map] at h1 h2
    obtain ⟨a, ha, rfl⟩ := Option.map_eq_some_iff.1 h1
    obtain ⟨b, hb, rfl⟩ := Option.map_eq_some_iff.1 h2
    obtain ⟨ha1, ha2⟩ := List.getElem?_eq_some_iff.1 ha
    obtain ⟨hb1, hb2⟩ := List.getElem?_eq_some_iff.1 hb
    have hlt := (List.pairwise_iff_getElem.1 hsd) m (m + 1) ha1 hb1 (by omega)
    rw [ha2, hb2] at hlt
    obtain ⟨i', _, e3, e4, _⟩ := hmd a (List.mem_of_getElem? ha)
    obtain ⟨j', _, f3, f4, _⟩ := hmd b (List.mem_of_getElem? hb)
    obtain rfl : i = i' := by omega
    obtain rfl : j = j' := by omega
    unfold lt2 at hlt; omega
  · exact List.mem_map.2 ⟨(clamp (F i), (i : Int) + 1), List.mem_filter.2 ⟨(hm _ _).2 ⟨i, hi, rfl, rfl⟩, by simpa using hle⟩, rfl⟩

/-- which of the times were told among the first j -/
def Marks (D : List Int) (len j : Nat) (xs : Array Value) : Prop := xs.size = len ∧ ∀ i : Nat, i < len → xs[i]? = some (.bool (decide (((i : Int) + 1) ∈ D.take j)))
theorem Marks.step {D : List Int} {len j i : Nat} {xs : Array Value} (h : Marks D len j xs) (hj : D[j]? = some ((i : Int) + 1)) : Marks D len (j + 1) (xs.setIfInBounds i (.bool true)) := by
  refine ⟨by simp [h.1], fun k hk => ?_⟩
  rw [take_at hj]
  by_cases c : k = i
  · subst c
    rw [Array.getElem?_setIfInBounds_self_of_lt (by rw [h.1]; exact hk)]
    simp
  · rw [Array.getElem?_setIfInBounds_ne (fun e => c e.symm), h.2 k hk]
    have hne : ((k : Int) + 1) ≠ ((i : Int) + 1) := by omega
    simp [hne]

/-- the second loop's state: the marks' block, and all else as it was -/
def LoopE (wA : World) (tb : Nat) (D : List Int) (len j : Nat) (wr : World) : Prop := ∃ xs, wr.heap[tb]? = some (.cells xs 4 (0, 0)) ∧ Marks D len j xs ∧ wA.grownBy wr (some tb)
theorem LoopE.drewN {wA : World} {tb : Nat} {D : List Int} {len j : Nat} {wr : World} (h : LoopE wA tb D len j wr) (n : Nat) : LoopE wA tb D len j (wr.drewN n) := by
  obtain ⟨xs, h1, h2, h3⟩ := h
  exact ⟨xs, h1, h2, h3.os, h3.tape, h3.output, h3.size, h3.block⟩
theorem info_bool : (Try.prog.info? 4).map (fun i => (i.zero, i.size, i.bytes)) = some (some (.bool false), 1, 1) := by kernel_rfl

section
variable {W : World} {v : Value} {len : Nat} {F : Nat → Int}
set_option maxHeartbeats 4000000 in
set_option maxRecDepth 100000 in
theorem wexact_any (now to : Int) (hI : Ints W v len F) : Calls Try.prog 4 #[.int .i64 now, v, .int .i64 to] W fun e w' => e = .returned (.bool true) ∧ Kept W w' := by
  have hlen := fun ty u => ints_len hI ty u
  obtain ⟨q, hq⟩ : ∃ q : Int, (len : Int) = q := ⟨_, rfl⟩
  rw [hq] at hlen
  by_cases h1 : 100 < q
  · clear hI hq
    go_enter Try.func4, Try.ntmps4
    go_wp2_with (go_at_call 15; refine (awake_any _).mono ?_; rintro e w' ⟨rfl, hk⟩)
    go_ret
    exact ⟨rfl, hk⟩
  · have hl100 : len ≤ 100 := by omega
    have HI := Lib.hid hI
    have HQ := Lib.hid hq
    have hq0 : 0 ≤ q := by omega
    have hmk := run_make_row' (P := Try.prog) 45 4 (.bool false) 1 Try.underlying45 info_bool rfl .i64 .i64 len (by omega) (by omega)
    rw [hq] at hmk
    obtain ⟨fin, hfin⟩ : ∃ t, max (clamp now) (clamp to) = t := ⟨_, rfl⟩
    clear hI hq
    go_enter Try.func4, Try.ntmps4
    go_wp2_with fail
    refine (new_any now).mono ?_
    rintro e w1 ⟨S1, B, rfl, g1, s1, k1⟩
    have G1 := Lib.hid (show Lw W B (clamp now) ((0 : Nat) : Int) (laidN F 0) w1 from ⟨S1, g1, k1, s1⟩)
    clear g1 s1 k1
    go_wp2_with fail
    go_loopw [8] (fun i wr => ∃ k : Nat, k ≤ len ∧ i = .int .i64 (k : Int) ∧ Lw W B (clamp now) (k : Int) (laidN F k) wr) (fun i _ => len - (intOf i).toNat)
    case atStart => exact ⟨0, Nat.zero_le _, rfl, G1.out⟩
    case round =>
      obtain ⟨n, hk, rfl, S2, h2, A2⟩ := hrel
      have hlenk := laidN_length F n
      by_cases hlt : n < len
      · have hltq : (n : Int) < q := by have := HQ.out; omega
        obtain ⟨b, off, cap, hv1, hcell⟩ := ints_at HI.out hlt
        have hc1 := hcell n hlt _ A2.kept
        obtain ⟨f, hf⟩ : ∃ f, F n = f := ⟨_, rfl⟩
        rw [hf] at hc1
        have C := Lib.hid ((add_room h2 (by omega) (by omega) f).mono (fun e w' hp => show e = .returned (.tuple #[.int .i64 ((n : Int) + 1), .int .i64 0]) ∧ Lw W B (clamp now) ((n + 1 : Nat) : Int) (laidN F (n + 1)) w' from ⟨hp.1, by
          have := Lw.step h2 A2 hp.2
          rw [show ((n + 1 : Nat) : Int) = (n : Int) + 1 by omega]; unfold laidN; rw [hf]; exact this⟩))
        clear h2 A2 hlenk hf hcell
        subst hv1
        go_wp2_with fail
        refine C.out.mono ?_
        rintro e w3 ⟨rfl, h3⟩
        have h3 := Lib.hid h3
        clear hc1
        go_wp2_with fail
        go_roundw
        case rel => exact ⟨n + 1, hlt, by go_num, h3.out⟩
        case measure => simp [intOf]; omega
      · have hnl : n = len := by omega
        have hqn : q ≤ (n : Int) := by have := HQ.out; omega
        have C1 := Lib.hid (tell_any h2 A2 to hfin)
        have hT := tells_of h2.ord (mem_laidN F n) fin
        have hsum := due_rest fin (laidN F n)
        obtain ⟨D, hD⟩ : ∃ D, (due fin (laidN F n)).map Prod.snd = D := ⟨_, rfl⟩
        rw [hD] at hT
        have hdl : D.length + (rest fin (laidN F n)).length = n := by rw [← hD, List.length_map]; omega
        have HD := Lib.hid hD
        have HT := Lib.hid hT
        have HDL := Lib.hid hdl
        have hdb : D.length ≤ 100 := by omega
        clear h2 A2 hlt hD hT hsum hdl hlenk
        subst hnl
        go_wp2_with fail
        refine C1.out.mono ?_
        rintro e w2 ⟨v1, rfl, r1, S3, h3, A3⟩
        rw [HD.out] at r1
        have hl1 := fun ty u => r1.len ty u
        have HL := Lib.hid (And.intro h3 A3)
        have R1 := Lib.hid r1
        clear C1 h3 A3 r1
        obtain ⟨dl, hdl2⟩ : ∃ d : Int, (D.length : Int) = d := ⟨_, rfl⟩
        rw [hdl2] at hl1
        have HDl := Lib.hid hdl2
        clear hdl2
        go_wp2_with (go_at_call 10; refine (rclamp_any _ _).mono ?_; rintro e w' ⟨rfl, rfl⟩)
        obtain ⟨wA, hwA⟩ : ∃ u, w2.alloc (.cells (madeCells #[.bool false] n) 4) = u := ⟨_, rfl⟩
        obtain ⟨tb, htb⟩ : ∃ b, w2.heap.size = b := ⟨_, rfl⟩
        have hA0 : LoopE wA tb D n 0 wA := ⟨_, by rw [← hwA, ← htb]; exact St.blk_new _ _, ⟨size_madeCells _ _, fun i hi => by simp [madeCells, hi, Nat.mod_one]⟩, rfl, rfl, rfl, Nat.le_refl _, fun _ _ _ => rfl⟩
        have hkA : Kept w2 wA := by rw [← hwA]; exact Kept.one _ _
        have hltA : w2.heap.size = tb := htb
        rw [hwA, htb]
        -- what a round of the second loop may lean on: the handles, the numbers, the wheel stand
        have hold : ∀ wr, wA.grownBy wr (some tb) → Kept w2 wr := fun wr hg => ⟨hg.os.trans hkA.os, hg.tape.trans hkA.tape, hg.output.trans hkA.output, Nat.le_trans hkA.size hg.size, fun k hk => (hg.block k (Nat.lt_of_lt_of_le hk hkA.size) (fun e => by have := Option.some.inj e; omega)).trans (hkA.block k hk)⟩
        have HOLD := Lib.hid hold
        have HA0 := Lib.hid hA0
        clear hwA htb hA0 hkA hltA hold hmk
        go_loopw [14] (fun i wr => ∃ j : Nat, j ≤ D.length ∧ i = .int .i64 (j : Int) ∧ LoopE wA tb D n j wr) (fun i _ => D.length - (intOf i).toNat)
        case atStart => exact ⟨0, Nat.zero_le _, rfl, HA0.out⟩
        case round =>
          obtain ⟨j, hj, rfl, xs, hx1, hx2, hx3⟩ := hrel
          have hk2 := HOLD.out wr hx3
          have HG := Lib.hid hx3
          clear hx3
          by_cases hjl : j < D.length
          · have hjd : (j : Int) < dl := by have := HDl.out; omega
            obtain ⟨h, hh⟩ : ∃ h, D[j]? = some h := ⟨_, List.getElem?_eq_getElem hjl⟩
            obtain ⟨i, hi, e1, hle⟩ := HT.out.each h (List.mem_of_getElem? hh)
            subst e1
            obtain ⟨g, cap, hv1, hcell1⟩ := ((R1.out.kept (w' := wr) (fun g e => hk2.block g (R1.out.lt e)))).blk hh
            obtain ⟨b, off, cap2, hv2, hcell2⟩ := ints_at HI.out hi
            have hkW : Kept W wr := HL.out.2.kept.trans hk2
            have hc2 := hcell2 i hi wr hkW
            have hnin : decide (((i : Int) + 1) ∈ D.take j) = false := by
              refine decide_eq_false fun c => ?_
              have := (List.nodup_append.1 (by rw [List.take_append_drop j D]; exact HT.out.nodup : (D.take j ++ D.drop j).Nodup)).2.2
              exact this _ c _ (by rw [drop_at hh]; simp) rfl
            have hc3 : wr.cell? ⟨tb, i, none⟩ = some (.bool false) := by rw [St.blk_cell hx1, hx2.2 i hi, hnin]
            have hf3 : wr.frozen? ⟨tb, i, none⟩ = false := St.blk_free hx1 i
            obtain ⟨ci, hci⟩ : ∃ c, clamp (F i) = c := ⟨_, rfl⟩
            rw [hci] at hle
            have RC : ∀ w, Calls Try.prog 10 #[.int .i64 (F i)] w fun e w' => e = .returned (.int .i64 ci) ∧ w = w' := fun w => by have := rclamp_any (F i) w; rw [hci] at this; exact this
            have RC := Lib.hid RC
            have hiq : (i : Int) + 1 ≤ q := by have := HQ.out; omega
            have hin : (i : Int) < (n : Int) := by omega
            have hM := Lib.hid (hx2.step hh)
            have hB := Lib.hid (St.blk_set hx1 i (.bool true))
            have hx1' := Lib.hid hx1
            clear hnin hx2 hx1
            subst hv1
            subst hv2
            go_wp2_with (go_at_call 10; refine (RC.out _).mono ?_; rintro e w' ⟨rfl, rfl⟩)
            obtain ⟨w3, hw3⟩ : ∃ u, wr.setCell ⟨tb, i, none⟩ (.bool true) = u := ⟨_, rfl⟩
            have hg3 : wA.grownBy w3 (some tb) := by
              rw [← hw3]
              have hG := HG.out
              exact ⟨hG.os, hG.tape, hG.output, by rw [size_set]; exact hG.size, fun k hk hne => (Below.heap_setCell _ _ _ _ (fun e => hne (by rw [e]))).trans (hG.block k hk hne)⟩
            have hb3 : w3.heap[tb]? = some (.cells (xs.setIfInBounds i (.bool true)) 4 (0, 0)) := by rw [← hw3]; exact hB.out
            have hL3 := Lib.hid (show LoopE wA tb D n (j + 1) w3 from ⟨_, hb3, hM.out, hg3⟩)
            have hk3 := HOLD.out w3 hg3
            have hkW3 : Kept W w3 := HL.out.2.kept.trans hk3
            rw [hw3]
            clear hg3 hb3 hw3 hcell1 hc2 hc3 hf3
            by_cases hj0 : j = 0
            · subst hj0
              clear hk2 hk3 hkW hkW3 hcell2 hci hh
              go_quiet (fail)
              go_wp2_with fail
              go_roundw
              case rel => exact ⟨1, by omega, by go_num, hL3.out.drewN _⟩
              case measure => simp [intOf]; omega
            · obtain ⟨m, hm⟩ : ∃ m, j = m + 1 := ⟨j - 1, by omega⟩
              obtain ⟨h', hh'⟩ : ∃ h, D[m]? = some h := ⟨_, List.getElem?_eq_getElem (by omega)⟩
              obtain ⟨i2, hi2, e2, hle2⟩ := HT.out.each h' (List.mem_of_getElem? hh')
              subst e2
              have hcmp : clamp (F i2) ≤ ci := by
                have := HT.out.row m _ _ hh' (by rw [← hm]; exact hh) i2 i rfl rfl
                omega
              obtain ⟨g', cap', hv1', hcell1'⟩ := (R1.out.kept (w' := w3) (fun g e => hk3.block g (R1.out.lt e))).blk hh'
              simp only [Value.slice.injEq, Option.some.injEq, Addr.mk.injEq, and_true, true_and] at hv1'
              obtain ⟨rfl, rfl⟩ := hv1'
              obtain ⟨c2, hc2⟩ : ∃ c, clamp (F i2) = c := ⟨_, rfl⟩
              rw [hc2] at hcmp hle2
              have RC2 : ∀ w, Calls Try.prog 10 #[.int .i64 (F i2)] w fun e w' => e = .returned (.int .i64 c2) ∧ w = w' := fun w => by have := rclamp_any (F i2) w; rw [hc2] at this; exact this
              have RC2 := Lib.hid RC2
              have hx1 := hcell2 i hi w3 hkW3
              have hx2 := hcell2 i2 hi2 w3 hkW3
              have hw1 : IntKind.i64.wrap ((j : Int) - 1) = (m : Int) := by rw [show (j : Int) - 1 = m by omega]; exact IntWalk.i64_in _ (by omega)
              have hw2 : IntKind.i64.wrap ((i : Int) + 1 - 1) = (i : Int) := by rw [show (i : Int) + 1 - 1 = i by omega]; exact IntWalk.i64_in _ (by omega)
              have hw3 : IntKind.i64.wrap ((i2 : Int) + 1 - 1) = (i2 : Int) := by rw [show (i2 : Int) + 1 - 1 = i2 by omega]; exact IntWalk.i64_in _ (by omega)
              have hd : decide ((0 : Int) < (j : Int)) = true := by simp; omega
              have hmd : (m : Int) < (D.length : Int) := by omega
              have hin2 : (i2 : Int) < (n : Int) := by omega
              clear hk2 hk3 hkW hkW3 hcell2 hci hh hh' hc2
              go_quiet (first | (go_at_call 10; first | (with_reducible exact Calls.quiet_of_same ((RC.out _).mono fun _ _ h => ⟨h.1, h.2.symm⟩)) | (with_reducible exact Calls.quiet_of_same ((RC2.out _).mono fun _ _ h => ⟨h.1, h.2.symm⟩))))
              clear hw1 hw2 hw3
              go_wp2_with fail
              go_roundw
              case rel => exact ⟨j + 1, hjl, by go_num, hL3.out.drewN _⟩
              case measure => simp [intOf]; omega
          · have hjl2 : j = D.length := by omega
            subst hjl2
            have hdj : dl ≤ ((D.length : Nat) : Int) := by have := HDl.out; omega
            have hkW : Kept W wr := HL.out.2.kept.trans hk2
            have hX1 := Lib.hid hx1
            have hX2 := Lib.hid hx2
            have HKW := Lib.hid hkW
            have hWl := (HL.out.1.kept hk2)
            have C5 := Lib.hid (wlen_any hWl)
            clear hx1 hx2 hkW hWl hjl
            go_wp2_with fail
            go_loop [16] (fun i => ∃ k : Nat, k ≤ n ∧ i = .int .i64 (k : Int)) (fun i => n - (intOf i).toNat)
            case atStart => exact ⟨0, Nat.zero_le _, rfl⟩
            case round =>
              obtain ⟨i, hin, rfl⟩ := hrel
              by_cases hil : i < n
              · have hiq : (i : Int) < q := by have := HQ.out; omega
                obtain ⟨b, off, cap2, hv2, hcell2⟩ := ints_at HI.out hil
                have hc2 := hcell2 i hil wr HKW.out
                obtain ⟨mk, hmk⟩ : ∃ m, decide (((i : Int) + 1) ∈ D) = m := ⟨_, rfl⟩
                have hc3 : wr.cell? ⟨tb, i, none⟩ = some (.bool mk) := by rw [St.blk_cell hX1.out, hX2.out.2 i hil, List.take_length, hmk]
                obtain ⟨ci, hci⟩ : ∃ c, clamp (F i) = c := ⟨_, rfl⟩
                have RC : ∀ w, Calls Try.prog 10 #[.int .i64 (F i)] w fun e w' => e = .returned (.int .i64 ci) ∧ w = w' := fun w => by have := rclamp_any (F i) w; rw [hci] at this; exact this
                have RC := Lib.hid RC
                have hin2 : (i : Int) < (n : Int) := by omega
                have hor : mk = true ∨ (mk = false ∧ ¬ ci ≤ fin) := by
                  cases mk with
                  | true => exact Or.inl rfl
                  | false =>
                    refine Or.inr ⟨rfl, fun c => ?_⟩
                    have := HT.out.all i hil (by rw [hci]; exact c)
                    exact absurd this (of_decide_eq_false hmk)
                clear hmk hci hcell2
                subst hv2
                rcases hor with rfl | ⟨rfl, hno⟩
                all_goals
                  go_wp2_with (go_at_call 10; refine (RC.out _).mono ?_; rintro e w' ⟨rfl, rfl⟩)
                  go_round
                  case rel => exact ⟨i + 1, hil, by go_num⟩
                  case measure => simp [intOf]; omega
              · have hqi : q ≤ (i : Int) := by have := HQ.out; omega
                obtain ⟨rl, hrl⟩ : ∃ d : Int, (((rest fin (laidN F n)).length : Nat) : Int) = d := ⟨_, rfl⟩
                have hsub : rl = q - dl := by have := HQ.out; have := HDl.out; have := HDL.out; omega
                have C6 := C5.out
                rw [hrl] at C6
                have C6 := Lib.hid C6
                have hrq : (rl == q - dl) = true := by simp [hsub]
                have hdl0 : 0 ≤ dl := by have := HDl.out; omega
                have hdl1 : dl ≤ q := by have := HDl.out; have := HDL.out; have := HQ.out; omega
                clear hsub hrl C5
                go_wp2_with fail
                refine C6.out.mono ?_
                rintro e w' ⟨rfl, rfl⟩
                go_wp2_with fail
                refine (awake_any _).mono ?_
                rintro e w7 ⟨rfl, hk7⟩
                go_wp2_with fail
                go_ret
                exact ⟨rfl, HKW.out.trans hk7⟩
theorem wexact_all {H : Type} {enc : TypeId × Value → H} {W : World} {r : Reach} {b0 : Nat} {v : Value} {d : DataW H} {p : List MemPlace} (now to : Int) (hv : Value.okWide Try.prog W r b0 40 v) (h : DataW.Trod enc Try.prog W 0 (fun _ => true) true 40 v d p) :
    Calls Try.prog 4 #[.int .i64 now, v, .int .i64 to] W fun e w' => e = .returned (.bool true) ∧ Kept W w' := by
  obtain ⟨len, F, hI⟩ := open_nums hv h
  exact wexact_any now to hI
end

end Go.Proofs.Ytffhjdkhmggakaa.Wh
