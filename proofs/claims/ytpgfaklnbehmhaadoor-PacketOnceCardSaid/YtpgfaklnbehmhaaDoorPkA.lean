/- The law of layer 8: what is awake. -/
import Derived.Test.YtpgfaklnbehmhaaDoorPkL
import Derived.Deep.Cut
namespace Go.Proofs.YtpgfaklnbehmhaaDoor.Pk
open Go.RowKit Go.Sort St BsM IdM PkM
open Go.Proofs.YtpgfaklnbehmhaaDoor.Id
open Go.Proofs.YtpgfaklnbehmhaaDoor.Bs (kept_blk)
set_option linter.unusedVariables false

set_option maxRecDepth 100000 in
set_option maxHeartbeats 4000000 in
theorem awake_any (w : World) (ht : Cr.Tab w) : Calls Tryd.prog 6 #[] w fun e w' => e = .returned (.bool true) ∧ Kept w w' := by
  obtain ⟨D, hD, hDs, hDl, hDn⟩ := code_named exP
  have hn : D.size = 12 := by rw [hDn.out, ex_len]
  have hp := prs_code ex_ok (by decide)
  rw [← hDl.out] at hp
  have hr : Hid (restB exP = true) := Lib.hid (ok_rest ex_ok)
  have HC := Lib.hid (show ∀ u, At w exP u → Calls Tryd.prog 11 #[.agg exP.arr] u fun e v => e = .returned (.string D) ∧ Kept u v from fun u hu => code_pk hr hD (ht.kept hu.kept))
  have HP := Lib.hid (show ∀ u, At w exP u → Calls Tryd.prog 12 #[.string D] u fun e v => e = .returned (.tuple #[.agg exP.arr, .int .i64 0]) ∧ Kept u v from fun u hu => by
    have := parse_any D (by omega) u (ht.kept hu.kept)
    rw [hp.1, hp.2] at this; exact this)
  have HR := Lib.hid (show ∀ u, At w exP u → Calls Tryd.prog 8 #[.agg exP.arr] u fun e v => e = .returned (.bool true) ∧ Kept u v from fun u hu => okp_as (Lib.hid ex_ok))
  have he := eql_run exP exP
  rw [same_self] at he
  have hA0 : At w exP (w.alloc (.cells exP.arr 27)) := At.new w exP
  clear hp hr ht hD hDl hDn
  go_enter Tryd.func6, Tryd.ntmps6
  go_upto_region 2 with (refine store_new rfl 27 (.tmp 1) (.tmp 6) rfl w.heap.size exP.arr rfl rfl w _ rfl 23 info_pk rfl rfl (by kernel_rfl) ?_)
  go_upto_region 3 with (first
    | (go_at_call 11; refine (HC.out _ hA0).mono ?_; rintro e u1 ⟨rfl, hk1⟩; have hA1 := hA0.go hk1)
    | (go_at_call 12; refine (HP.out _ hA1).mono ?_; rintro e u2 ⟨rfl, hk2⟩; have hA2 := hA1.go hk2)
    | (refine load_g (.tmp 1) rfl (w.heap.size) rfl rfl exP hA0.blk ?_)
    | (refine store_new rfl 27 (.tmp 2) (.tmp 11) rfl u2.heap.size exP.arr rfl rfl u2 _ rfl 23 info_pk rfl rfl (by kernel_rfl) ?_))
  have hA3 : At w exP (u2.alloc (.cells exP.arr 27)) := hA2.go (Kept.one _ _)
  have hq3 := blk_new u2 (.cells exP.arr 27)
  clear hA0 hA1 hA2 HP
  go_wp2_with (first
    | (go_at_call 11; refine (HC.out _ hA3).mono ?_; rintro e u4 ⟨rfl, hk4⟩; have hA4 := hA3.go hk4; have hq4 := kept_blk hk4 hq3)
    | (go_at_call 8; refine (HR.out _ hA4).mono ?_; rintro e u5 ⟨rfl, hk5⟩)
    | (refine load_g (.tmp 1) rfl (w.heap.size) rfl rfl exP hA3.blk ?_)
    | (refine load_g (.tmp 2) rfl (u2.heap.size) rfl rfl exP hq4 ?_)
    | (refine load_g (.tmp 1) rfl (w.heap.size) rfl rfl exP hA4.blk ?_))
  go_ret
  exact ⟨rfl, hA4.kept.trans hk5⟩

end Go.Proofs.YtpgfaklnbehmhaaDoor.Pk
