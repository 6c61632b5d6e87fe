/- The laws of layer 7: what is awake; the one row. -/
import Derived.Test.YtjibkkgjkmdjgaaDoorId3
import Derived.Test.YtjibkkgjkmdjgaaDoorId8
namespace Go.Proofs.YtjibkkgjkmdjgaaDoor.Id
open Go.RowKit Go.Sort St IdM BsM Bs It At Rw
set_option linter.unusedVariables false

theorem ex_text : textL 3 0 17 = [51, 46, 48, 46, 49, 55] := by
  show Lib.itoa ((3 : Nat) : Int) ++ 46 :: (Lib.itoa ((0 : Nat) : Int) ++ 46 :: Lib.itoa ((17 : Nat) : Int)) = _
  rw [itoa_nat, itoa_nat, itoa_nat, dec_small (u := 3) (by decide), dec_small (u := 0) (by decide), dec_big (u := 17) (by decide), dec_small (u := 17 / 10) (by decide)]
  rfl
theorem ex_key : keyTextL 3 0 17 2 = [51, 46, 48, 46, 49, 55, 47, 50] := by
  unfold keyTextL
  rw [ex_text]
  show _ ++ 47 :: Lib.itoa ((2 : Nat) : Int) = _
  rw [itoa_nat, dec_small (u := 2) (by decide)]
  rfl
theorem ex_parsed : parsedV [51, 46, 48, 46, 49, 55] = .agg #[.int .i64 3, .int .i64 0, .int .i64 17] ∧ parsedE [51, 46, 48, 46, 49, 55] = 0 := by
  obtain ⟨h, h1, h2, h3⟩ := isT_of (n := 3) (i := 0) (s := 17) (by decide) ex_text
  have := parsed_yes h
  rw [h1, h2, h3] at this
  exact this

/-- where the example's call w stands -/
structure Aw (w : World) (q : Nat) (u : World) : Prop where
  kept : Kept w u
  k : u.heap[w.heap.size]? = some (.cells #[.int .i64 3, .int .i64 0, .int .i64 17, .int .i64 2] 25 (0, 0))
  d : u.heap[q]? = some (.cells #[.int .i64 3, .int .i64 0, .int .i64 17] 23 (0, 0))
theorem Aw.go {w : World} {q : Nat} {u v : World} (h : Aw w q u) (k : Kept u v) : Aw w q v := ⟨h.kept.trans k, kept_blk k h.k, kept_blk k h.d⟩
theorem parse_aw {w W : World} (hE : Hid (Env w)) (hK : Kept w W) (hk : W.heap[w.heap.size]? = some (.cells #[.int .i64 3, .int .i64 0, .int .i64 17, .int .i64 2] 25 (0, 0))) :
    Calls Tryd.prog 24 #[.string { data := #[51, 46, 48, 46, 49, 55] }] W fun e u => e = .returned (.tuple #[.agg #[.int .i64 3, .int .i64 0, .int .i64 17], .int .i64 0]) ∧ w.heap.size < u.heap.size ∧ Aw w u.heap.size (u.alloc (.cells #[.int .i64 3, .int .i64 0, .int .i64 17] 23 (0, 0))) := by
  refine (parse_any { data := #[51, 46, 48, 46, 49, 55] } (by decide) W (hE.out.kept hK)).mono ?_
  rintro e u ⟨rfl, h⟩
  refine ⟨?_, blk_lt (kept_blk h hk), Kept.more (hK.trans h) _, kept_blk (Kept.one _ _) (kept_blk h hk), blk_new _ _⟩
  show Ending.returned (.tuple #[parsedV [51, 46, 48, 46, 49, 55], .int .i64 (parsedE [51, 46, 48, 46, 49, 55])]) = _
  rw [ex_parsed.1, ex_parsed.2]
theorem keytext_aw {w : World} {q : Nat} (hE : Hid (Env w)) {u : World} (h : Aw w q u) :
    Calls Tryd.prog 13 #[.agg #[.int .i64 3, .int .i64 0, .int .i64 17, .int .i64 2]] u fun e v => e = .returned (.string { data := #[51, 46, 48, 46, 49, 55, 47, 50] }) ∧ Aw w q v :=
  (keytext_as ⟨by decide, by decide⟩ ⟨by decide, by decide⟩ ⟨by decide, by decide⟩ ⟨by decide, by decide⟩ (D := { data := #[51, 46, 48, 46, 49, 55, 47, 50] }) (Lib.hid ex_key.symm) (hE.out.kept h.kept).tab).mono fun _ _ ⟨he, hk⟩ => ⟨he, h.go hk⟩
theorem key_aw {w : World} {q : Nat} {u : World} (h : Aw w q u) :
    Calls Tryd.prog 9 #[.agg #[.int .i64 3, .int .i64 0, .int .i64 17, .int .i64 2]] u fun e v => e = .returned (.bool true) ∧ Aw w q v :=
  (key_as (z := true) (Lib.hid (by decide))).mono fun _ _ ⟨he, hk⟩ => ⟨he, h.go hk⟩
theorem keys_aw {w : World} {q : Nat} {u : World} (h : Aw w q u) :
    Calls Tryd.prog 17 #[.agg #[.int .i64 3, .int .i64 0, .int .i64 17, .int .i64 2], .agg #[.int .i64 3, .int .i64 0, .int .i64 17, .int .i64 2]] u fun e v => e = .returned (.int .i64 0) ∧ Aw w q v :=
  (keys_as (z := 0) (Lib.hid (by decide))).mono fun _ _ ⟨he, hk⟩ => ⟨he, h.go hk⟩

set_option maxRecDepth 100000 in
set_option maxHeartbeats 2000000 in
theorem awake_any (w : World) (h : Env w) :
    Calls Tryd.prog 23 #[] w fun e w' => e = .returned (.bool true) ∧ Kept w w' := by
  have HE := Lib.hid h
  obtain ⟨W, hW, hK, hx⟩ := boxed1 w #[.int .i64 3, .int .i64 0, .int .i64 17, .int .i64 2] 25
  have HP := Lib.hid (parse_aw HE hK (by rw [← hW]; exact blk_new _ _))
  have HW := Lib.hid hW
  clear hW hx h
  go_enter Tryd.func23, Tryd.ntmps23
  go_wp2_with fail
  rw [HW.out]
  go_wp2_with (first
    | (go_at_call 24; refine HP.out.mono ?_; rintro e u ⟨rfl, hlt, hA⟩
       have k0 := blk_cell hA.k 0; have k1 := blk_cell hA.k 1; have k2 := blk_cell hA.k 2; have k3 := blk_cell hA.k 3; have d0 := blk_cell hA.d 0; have d1 := blk_cell hA.d 1; have d2 := blk_cell hA.d 2)
    | (go_at_call 13; refine (keytext_aw HE (by assumption)).mono ?_; rintro e v1 ⟨rfl, hB⟩
       have k0 := blk_cell hB.k 0; have k1 := blk_cell hB.k 1; have k2 := blk_cell hB.k 2; have k3 := blk_cell hB.k 3; have d0 := blk_cell hB.d 0; have d1 := blk_cell hB.d 1; have d2 := blk_cell hB.d 2)
    | (go_at_call 9; refine (key_aw (by assumption)).mono ?_; rintro e v2 ⟨rfl, hC⟩
       have k0 := blk_cell hC.k 0; have k1 := blk_cell hC.k 1; have k2 := blk_cell hC.k 2; have k3 := blk_cell hC.k 3; have d0 := blk_cell hC.d 0; have d1 := blk_cell hC.d 1; have d2 := blk_cell hC.d 2)
    | (go_at_call 17; refine (keys_aw (by assumption)).mono ?_; rintro e v3 ⟨rfl, hD⟩))
  go_ret
  exact ⟨rfl, hD.kept⟩
theorem awake_k {W w : World} (h : Hid (Env W)) (k : Kept W w) : Calls Tryd.prog 23 #[] w fun ev w' => ev = .returned (.bool true) ∧ Kept W w' :=
  (awake_any w (h.out.kept k)).mono fun _ _ r => ⟨r.1, k.trans r.2⟩

end Go.Proofs.YtjibkkgjkmdjgaaDoor.Id
