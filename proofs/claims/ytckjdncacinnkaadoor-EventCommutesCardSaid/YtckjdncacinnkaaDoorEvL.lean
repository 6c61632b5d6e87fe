/- The laws of events: awake; EventTells. -/
import Derived.Test.YtckjdncacinnkaaDoorEv3
import Derived.Test.YtckjdncacinnkaaDoorEv4
import Derived.Test.YtckjdncacinnkaaDoorEv5
import Derived.Test.YtckjdncacinnkaaDoorEv9
import Derived.Deep.DeepCutAuto
namespace Go.Proofs.YtckjdncacinnkaaDoor.Ev
open Go.RowKit Go.Sort Go.Shelf IdM Se EvM Blk It
open St (Kept blk_cell blk_free blk_lt blk_set blk_new ret_str size_list)
open Go.Proofs.YtckjdncacinnkaaDoor.Rv
open Go.Proofs.YtckjdncacinnkaaDoor.Ls
open Go.Proofs.YtckjdncacinnkaaDoor.Ad (load_l store_new)
open Go.Proofs.YtckjdncacinnkaaDoor.Tb (Lk kr_lk lk_load Kr encK enc_key lk_take same_any)
open Au (Stab stab_kept stab_and)
set_option linter.unusedVariables false
set_option linter.unusedSimpArgs false
set_option maxRecDepth 20000

/-- chapter 25's example -/
def e0 : Ev := ⟨9, 7, 2, 9, 0, 0, 0, 0, 0, 0, 0, 0, 0, 0, 0, 0, 0, 0⟩
theorem ok0 : okE e0 := by
  intro x hx
  simp only [Ev.ints, e0, List.mem_cons, List.not_mem_nil, or_false] at hx
  rcases hx with rfl | rfl | rfl | rfl | rfl | rfl | rfl | rfl | rfl | rfl | rfl | rfl | rfl | rfl | rfl | rfl | rfl | rfl <;> exact ⟨by decide, by decide⟩
theorem itoa_one (u : Nat) (h : u < 10) : Lib.itoa (u : Int) = [UInt8.ofNat (48 + u)] := by rw [itoa_nat, dec_small h]
theorem line0 : lineL e0 = [55, 32, 99, 114, 97, 115, 104, 101, 100, 32, 97, 116, 32, 50, 32, 57] := by
  have h7 : Lib.itoa 7 = [55] := itoa_one 7 (by decide)
  have h2 : Lib.itoa 2 = [50] := itoa_one 2 (by decide)
  have h9 : Lib.itoa 9 = [57] := itoa_one 9 (by decide)
  have hw : whoseL e0 = [] := rfl
  have hm : moreL e0 = [] := rfl
  have hn : nameT e0.kind = [99, 114, 97, 115, 104, 101, 100] := rfl
  unfold lineL headL
  rw [hw, hm, hn]
  show joinL [Lib.itoa 7, _, _, Lib.itoa 2, Lib.itoa 9] = _
  rw [h7, h2, h9]; rfl
/-- a new row of one event -/
theorem le_one (w : World) (e : Ev) {A : Array Value} (hA : arr e = A) : Le (w.alloc (.cells A 38)) (.slice (some ⟨w.heap.size, 0, none⟩) 1 1) [e] := by
  subst hA
  refine .inr ⟨by simp, by simp [maxLen], w.heap.size, 0, 1, rfl, by simp, fun i o hi j x hj => ?_⟩
  match i, hi with
  | 0, hi =>
    simp only [List.getElem?_cons_zero, Option.some.injEq] at hi
    subst hi
    rw [Nat.zero_mul, Nat.add_zero, Nat.zero_add, blk_cell (blk_new w _), ← enc_arr]
    simpa using hj

set_option maxHeartbeats 2000000 in
theorem awake_any {w : World} (ht : Tab w) : Calls Tryd.prog 7 #[] w fun e w' => e = .returned (.bool true) ∧ Kept w w' := by
  obtain ⟨A, hA⟩ : ∃ A : Array Value, #[.int .i64 9, .int .i64 7, .int .i64 2, .int .i64 9, .int .i64 0, .int .i64 0, .int .i64 0, .int .i64 0, .int .i64 0, .int .i64 0, .int .i64 0, .int .i64 0, .int .i64 0, .int .i64 0, .int .i64 0, .int .i64 0, .int .i64 0, .int .i64 0] = A := ⟨_, rfl⟩
  have hA0 : arr e0 = A := by rw [← hA]; rfl
  obtain ⟨W, hW⟩ : ∃ W, w.alloc (.cells A 38) = W := ⟨_, rfl⟩
  have hB : Bl w W [(A, 38)] := hW ▸ Bl.one w _ _
  have lW := fun u (hu : Kept W u) => (at_blk (u := u) (b := w.heap.size) (e := e0) (by rw [hA0]; exact kept_at hu (hB.blk 0 rfl))).all
  have CL := Lib.hid (line_any ok0 (D := { data := #[55, 32, 99, 114, 97, 115, 104, 101, 100, 32, 97, 116, 32, 50, 32, 57] }) (Lib.hid line0.symm) (ht.kept hB.kept))
  have CO := Lib.hid (fun u => of_any (le_one u e0 hA0) (by simp) 9)
  have hf : [e0].filter (ofP 9) = [e0] := rfl
  rw [hf] at CO
  rw [hA0] at lW CL
  have lW0 := lW W (Kept.refl _)
  have LW := Lib.hid lW
  have hfx := fold_ev e0 hA0
  have sA : A.size = 18 := by rw [← hA]; rfl
  have HW := Lib.hid hW
  have HB := Lib.hid hB
  have HA := Lib.hid hA
  clear hA hA0 hW hB lW hf
  go_enter Tryd.func7, Tryd.ntmps7
  go_upto_region 2 with fail
  rw [HA.out, HW.out]
  go_wp2_with (first
    | (refine load_l 38 (.tmp 1) rfl _ rfl rfl (.agg A) (by first | exact lW0 | exact LW.out _ (by assumption)) ?_)
    | (go_at_call 21; refine CL.out.mono ?_; rintro e' w2 ⟨rfl, k2⟩)
    | (go_at_call 13; refine (CO.out _).mono ?_; rintro e' w4 ⟨v4, rfl, r4, k4⟩; obtain ⟨p4, c4, rfl⟩ := r4.shape))
  go_ret
  exact ⟨rfl, HB.out.kept.trans (k2.trans ((Kept.one _ _).trans k4))⟩

end Go.Proofs.YtckjdncacinnkaaDoor.Ev
