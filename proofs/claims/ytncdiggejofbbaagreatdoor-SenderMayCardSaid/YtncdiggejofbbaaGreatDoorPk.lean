/- Package packet: what a kind has, as the document says it. Package packet: what a kind has. -/
import Derived.Test.YtncdiggejofbbaaGreatDoorPkM
import Derived.Test.YtncdiggejofbbaaGreatDoorBlk
import Derived.Test.YtncdiggejofbbaaGreatDoorBs
import Derived.Laws.StructEq
import Derived.Deep.Cut
import Derived.Deep.WholeRow
import Derived.Deep.RegionHeld3
import Derived.Outline
namespace Go.Proofs.YtncdiggejofbbaaGreatDoor.Pk
open Go.RowKit Go.Sort St BsM IdM PkM
open Go.Proofs.YtncdiggejofbbaaGreatDoor.Id
open Go.Proofs.YtncdiggejofbbaaGreatDoor.Bs (kept_blk)
set_option linter.unusedVariables false

theorem blk2 (w : World) (a b : Obj) : ((w.alloc a).alloc b).heap[w.heap.size + 1]? = some b := by
  have := blk_new (w.alloc a) b
  rwa [show (w.alloc a).heap.size = w.heap.size + 1 by simp] at this
theorem blk3 (w : World) (a b c : Obj) : (((w.alloc a).alloc b).alloc c).heap[w.heap.size + 2]? = some c := by
  have := blk_new ((w.alloc a).alloc b) c
  rwa [show ((w.alloc a).alloc b).heap.size = w.heap.size + 2 by simp] at this
theorem blk3m (w : World) (a b c : Obj) : (((w.alloc a).alloc b).alloc c).heap[w.heap.size + 1]? = some b := kept_blk (Kept.one _ _) (blk2 w a b)
theorem kept_row {a b : World} (h : Kept a b) {g : Nat} (hg : a.heap.size ≤ g) (cs : Array Value) : Kept a (b.setRow g cs) :=
  ⟨by rw [setRow_os]; exact h.os, by rw [setRow_tape]; exact h.tape, by rw [setRow_output]; exact h.output, by rw [setRow_size]; exact Below.size h, fun k hk => by rw [setRow_other _ _ _ _ (by omega)]; exact h.block k hk⟩
/-- a whole value goes into the newest block -/
theorem store_new {ops : Array Oper} {rest : List Oper} {o : Oper} {a : Act} {Q : Exit → Act → World → Prop} (hgd : o.guard = none) (ty : TypeId) (x y : Operand) (ho : o.op = .store ty x y) (g : Nat) (cells : Array Value)
    (hx : a.eval x = .pointer (some ⟨g, 0, none⟩)) (hy : a.eval y = .agg cells) (w0 : World) (old : Array Value) (hs : w0.heap.size = g) (n : Nat) (hi : (Tryz.prog.info? ty).map (·.size) = some n) (hc : cells.size = n) (hold : old.size = n) (h1 : cells.all (·.oneCell') = true)
    (h : wpList Tryz.prog ops Q rest (a.put o.dst undef) (w0.alloc (.cells cells ty))) : wpList Tryz.prog ops Q (o :: rest) a (w0.alloc (.cells old ty)) := by
  subst hs
  subst hc
  refine wpList_store_row hgd ty x y ho w0.heap.size cells hx hy ty old (blk_new w0 _) hi hold h1 ?_
  rw [World.setRow_alloc_new]; exact h
theorem info_pk : (Tryz.prog.info? 43).map (·.size) = some 23 := by kernel_rfl








end Go.Proofs.YtncdiggejofbbaaGreatDoor.Pk

namespace Go.Proofs.YtncdiggejofbbaaGreatDoor.Pk
open Go.RowKit Go.Sort St BsM IdM PkM
open Go.Proofs.YtncdiggejofbbaaGreatDoor.Id
open Go.Proofs.YtncdiggejofbbaaGreatDoor.Bs (kept_blk)
set_option linter.unusedVariables false

set_option maxRecDepth 100000 in
set_option maxHeartbeats 2000000 in
theorem clean3 (fr to kn ki ks ka hop stamp : Int) (tm : ByteArray) (til prog rn ri rs pn pi ps pa code value : Int) (more : Bool) (delay : Int) (w : World) :
    Calls Tryz.prog 52 #[.agg #[.int .i64 3, .int .i64 fr, .int .i64 to, .int .i64 kn, .int .i64 ki, .int .i64 ks, .int .i64 ka, .int .i64 hop, .int .i64 stamp, .string tm, .int .i64 til, .int .i64 prog, .int .i64 rn, .int .i64 ri, .int .i64 rs, .int .i64 pn, .int .i64 pi, .int .i64 ps, .int .i64 pa, .int .i64 code, .int .i64 value, .bool more, .int .i64 delay]] w fun e w' => e = .returned (.agg (clean ⟨3, fr, to, kn, ki, ks, ka, hop, stamp, tm, til, prog, rn, ri, rs, pn, pi, ps, pa, code, value, more, delay⟩).arr) ∧ Kept w w' := by
  go_enter Tryz.func52, Tryz.ntmps52
  go_upto_region 2 with (refine store_new rfl 43 (.tmp 3) (.tmp 12) rfl (w.heap.size + 2) _ rfl rfl _ _ (by simp) 23 info_pk rfl rfl (by kernel_rfl) ?_)
  go_upto_region 12 with (fail)
  go_step
  refine wpList_load_row rfl 43 (.tmp 3) rfl (w.heap.size + 2) rfl 43 _ (0, 0) _ (blk3 w _ _ _) Tryz.underlying43 rfl info_pk ?_
  refine wpList_store_row rfl 43 (.tmp 2) (.tmp 59) rfl (w.heap.size + 1) _ rfl rfl 43 _ (blk3m w _ _ _) info_pk rfl ?h1 ?_
  case h1 => kernel_rfl
  go_wp2_with fail
  refine bodyPost_ret (results_cell_row rfl _ _ (w.heap.size + 1) 43 _ (0, 0) _ rfl (setRow_heap _ _ _ _ _ _ (blk3m w _ _ _)) Tryz.underlying43 rfl info_pk) rfl ?_
  exact ⟨rfl, kept_row (Kept.more (Kept.more (Kept.one _ _) _) _) (by simp) _⟩

set_option maxRecDepth 100000 in
set_option maxHeartbeats 2000000 in
theorem clean1 (fr to kn ki ks ka hop stamp : Int) (tm : ByteArray) (til prog rn ri rs pn pi ps pa code value : Int) (more : Bool) (delay : Int) (w : World) :
    Calls Tryz.prog 52 #[.agg #[.int .i64 1, .int .i64 fr, .int .i64 to, .int .i64 kn, .int .i64 ki, .int .i64 ks, .int .i64 ka, .int .i64 hop, .int .i64 stamp, .string tm, .int .i64 til, .int .i64 prog, .int .i64 rn, .int .i64 ri, .int .i64 rs, .int .i64 pn, .int .i64 pi, .int .i64 ps, .int .i64 pa, .int .i64 code, .int .i64 value, .bool more, .int .i64 delay]] w fun e w' => e = .returned (.agg (clean ⟨1, fr, to, kn, ki, ks, ka, hop, stamp, tm, til, prog, rn, ri, rs, pn, pi, ps, pa, code, value, more, delay⟩).arr) ∧ Kept w w' := by
  go_enter Tryz.func52, Tryz.ntmps52
  go_upto_region 2 with (refine store_new rfl 43 (.tmp 3) (.tmp 12) rfl (w.heap.size + 2) _ rfl rfl _ _ (by simp) 23 info_pk rfl rfl (by kernel_rfl) ?_)
  go_upto_region 4 with (fail)
  go_region_held3 (fun w' => w'.cell? ⟨w.heap.size, 7, none⟩ = some (.int .i64 hop) ∧ w'.cell? ⟨w.heap.size, 8, none⟩ = some (.int .i64 stamp) ∧ w'.cell? ⟨w.heap.size, 9, none⟩ = some (.string tm) ∧ w'.cell? ⟨w.heap.size, 10, none⟩ = some (.int .i64 til)) (go_keep) (fail)
  go_upto_region 5 with (fail)
  go_region_held3 (fun w' => w'.cell? ⟨w.heap.size, 11, none⟩ = some (.int .i64 prog) ∧ w'.cell? ⟨w.heap.size, 12, none⟩ = some (.int .i64 rn) ∧ w'.cell? ⟨w.heap.size, 13, none⟩ = some (.int .i64 ri) ∧ w'.cell? ⟨w.heap.size, 14, none⟩ = some (.int .i64 rs) ∧ w'.cell? ⟨w.heap.size, 15, none⟩ = some (.int .i64 pn) ∧ w'.cell? ⟨w.heap.size, 16, none⟩ = some (.int .i64 pi) ∧ w'.cell? ⟨w.heap.size, 17, none⟩ = some (.int .i64 ps) ∧ w'.cell? ⟨w.heap.size, 18, none⟩ = some (.int .i64 pa)) (go_keep) (fail)
  go_upto_region 12 with (fail)
  go_step
  refine wpList_load_row rfl 43 (.tmp 3) rfl (w.heap.size + 2) rfl 43 _ (0, 0) _ (show (World.drew _).heap[_]? = _ from blk3 w _ _ _) Tryz.underlying43 rfl info_pk ?_
  refine wpList_store_row rfl 43 (.tmp 2) (.tmp 59) rfl (w.heap.size + 1) _ rfl rfl 43 _ (show (World.drew _).heap[_]? = _ from blk3m w _ _ _) info_pk rfl ?h1 ?_
  case h1 => kernel_rfl
  go_wp2_with fail
  refine bodyPost_ret (results_cell_row rfl _ _ (w.heap.size + 1) 43 _ (0, 0) _ rfl (setRow_heap _ _ _ _ _ _ (show (World.drew _).heap[_]? = _ from blk3m w _ _ _)) Tryz.underlying43 rfl info_pk) rfl ?_
  exact ⟨rfl, kept_row (Kept.more (Kept.more (Kept.one _ _) _) _).drew.drew (by simp) _⟩

set_option maxRecDepth 100000 in
set_option maxHeartbeats 2000000 in
theorem clean2 (fr to kn ki ks ka hop stamp : Int) (tm : ByteArray) (til prog rn ri rs pn pi ps pa code value : Int) (more : Bool) (delay : Int) (w : World) :
    Calls Tryz.prog 52 #[.agg #[.int .i64 2, .int .i64 fr, .int .i64 to, .int .i64 kn, .int .i64 ki, .int .i64 ks, .int .i64 ka, .int .i64 hop, .int .i64 stamp, .string tm, .int .i64 til, .int .i64 prog, .int .i64 rn, .int .i64 ri, .int .i64 rs, .int .i64 pn, .int .i64 pi, .int .i64 ps, .int .i64 pa, .int .i64 code, .int .i64 value, .bool more, .int .i64 delay]] w fun e w' => e = .returned (.agg (clean ⟨2, fr, to, kn, ki, ks, ka, hop, stamp, tm, til, prog, rn, ri, rs, pn, pi, ps, pa, code, value, more, delay⟩).arr) ∧ Kept w w' := by
  go_enter Tryz.func52, Tryz.ntmps52
  go_upto_region 2 with (refine store_new rfl 43 (.tmp 3) (.tmp 12) rfl (w.heap.size + 2) _ rfl rfl _ _ (by simp) 23 info_pk rfl rfl (by kernel_rfl) ?_)
  go_upto_region 7 with (fail)
  go_region_held3 (fun w' => w'.cell? ⟨w.heap.size, 19, none⟩ = some (.int .i64 code) ∧ w'.cell? ⟨w.heap.size, 20, none⟩ = some (.int .i64 value) ∧ w'.cell? ⟨w.heap.size, 21, none⟩ = some (.bool more)) (go_keep) (fail)
  go_upto_region 12 with (fail)
  go_step
  refine wpList_load_row rfl 43 (.tmp 3) rfl (w.heap.size + 2) rfl 43 _ (0, 0) _ (show (World.drew _).heap[_]? = _ from blk3 w _ _ _) Tryz.underlying43 rfl info_pk ?_
  refine wpList_store_row rfl 43 (.tmp 2) (.tmp 59) rfl (w.heap.size + 1) _ rfl rfl 43 _ (show (World.drew _).heap[_]? = _ from blk3m w _ _ _) info_pk rfl ?h1 ?_
  case h1 => kernel_rfl
  go_wp2_with fail
  refine bodyPost_ret (results_cell_row rfl _ _ (w.heap.size + 1) 43 _ (0, 0) _ rfl (setRow_heap _ _ _ _ _ _ (show (World.drew _).heap[_]? = _ from blk3m w _ _ _)) Tryz.underlying43 rfl info_pk) rfl ?_
  exact ⟨rfl, kept_row (Kept.more (Kept.more (Kept.one _ _) _) _).drew (by simp) _⟩

set_option maxRecDepth 100000 in
set_option maxHeartbeats 2000000 in
theorem clean4 (fr to kn ki ks ka hop stamp : Int) (tm : ByteArray) (til prog rn ri rs pn pi ps pa code value : Int) (more : Bool) (delay : Int) (w : World) :
    Calls Tryz.prog 52 #[.agg #[.int .i64 4, .int .i64 fr, .int .i64 to, .int .i64 kn, .int .i64 ki, .int .i64 ks, .int .i64 ka, .int .i64 hop, .int .i64 stamp, .string tm, .int .i64 til, .int .i64 prog, .int .i64 rn, .int .i64 ri, .int .i64 rs, .int .i64 pn, .int .i64 pi, .int .i64 ps, .int .i64 pa, .int .i64 code, .int .i64 value, .bool more, .int .i64 delay]] w fun e w' => e = .returned (.agg (clean ⟨4, fr, to, kn, ki, ks, ka, hop, stamp, tm, til, prog, rn, ri, rs, pn, pi, ps, pa, code, value, more, delay⟩).arr) ∧ Kept w w' := by
  go_enter Tryz.func52, Tryz.ntmps52
  go_upto_region 2 with (refine store_new rfl 43 (.tmp 3) (.tmp 12) rfl (w.heap.size + 2) _ rfl rfl _ _ (by simp) 23 info_pk rfl rfl (by kernel_rfl) ?_)
  go_upto_region 12 with (fail)
  go_step
  refine wpList_load_row rfl 43 (.tmp 3) rfl (w.heap.size + 2) rfl 43 _ (0, 0) _ (blk3 w _ _ _) Tryz.underlying43 rfl info_pk ?_
  refine wpList_store_row rfl 43 (.tmp 2) (.tmp 59) rfl (w.heap.size + 1) _ rfl rfl 43 _ (blk3m w _ _ _) info_pk rfl ?h1 ?_
  case h1 => kernel_rfl
  go_wp2_with fail
  refine bodyPost_ret (results_cell_row rfl _ _ (w.heap.size + 1) 43 _ (0, 0) _ rfl (setRow_heap _ _ _ _ _ _ (blk3m w _ _ _)) Tryz.underlying43 rfl info_pk) rfl ?_
  exact ⟨rfl, kept_row (Kept.more (Kept.more (Kept.one _ _) _) _) (by simp) _⟩

set_option maxRecDepth 100000 in
set_option maxHeartbeats 2000000 in
theorem clean5 (fr to kn ki ks ka hop stamp : Int) (tm : ByteArray) (til prog rn ri rs pn pi ps pa code value : Int) (more : Bool) (delay : Int) (w : World) :
    Calls Tryz.prog 52 #[.agg #[.int .i64 5, .int .i64 fr, .int .i64 to, .int .i64 kn, .int .i64 ki, .int .i64 ks, .int .i64 ka, .int .i64 hop, .int .i64 stamp, .string tm, .int .i64 til, .int .i64 prog, .int .i64 rn, .int .i64 ri, .int .i64 rs, .int .i64 pn, .int .i64 pi, .int .i64 ps, .int .i64 pa, .int .i64 code, .int .i64 value, .bool more, .int .i64 delay]] w fun e w' => e = .returned (.agg (clean ⟨5, fr, to, kn, ki, ks, ka, hop, stamp, tm, til, prog, rn, ri, rs, pn, pi, ps, pa, code, value, more, delay⟩).arr) ∧ Kept w w' := by
  go_enter Tryz.func52, Tryz.ntmps52
  go_upto_region 2 with (refine store_new rfl 43 (.tmp 3) (.tmp 12) rfl (w.heap.size + 2) _ rfl rfl _ _ (by simp) 23 info_pk rfl rfl (by kernel_rfl) ?_)
  go_upto_region 12 with (fail)
  go_step
  refine wpList_load_row rfl 43 (.tmp 3) rfl (w.heap.size + 2) rfl 43 _ (0, 0) _ (blk3 w _ _ _) Tryz.underlying43 rfl info_pk ?_
  refine wpList_store_row rfl 43 (.tmp 2) (.tmp 59) rfl (w.heap.size + 1) _ rfl rfl 43 _ (blk3m w _ _ _) info_pk rfl ?h1 ?_
  case h1 => kernel_rfl
  go_wp2_with fail
  refine bodyPost_ret (results_cell_row rfl _ _ (w.heap.size + 1) 43 _ (0, 0) _ rfl (setRow_heap _ _ _ _ _ _ (blk3m w _ _ _)) Tryz.underlying43 rfl info_pk) rfl ?_
  exact ⟨rfl, kept_row (Kept.more (Kept.more (Kept.one _ _) _) _) (by simp) _⟩

set_option maxRecDepth 100000 in
set_option maxHeartbeats 2000000 in
theorem clean0 (kind : Int) (h1 : kind ≠ 1) (h2 : kind ≠ 2) (h4 : kind ≠ 4) (h5 : kind ≠ 5) (fr to kn ki ks ka hop stamp : Int) (tm : ByteArray) (til prog rn ri rs pn pi ps pa code value : Int) (more : Bool) (delay : Int) (w : World) :
    Calls Tryz.prog 52 #[.agg #[.int .i64 kind, .int .i64 fr, .int .i64 to, .int .i64 kn, .int .i64 ki, .int .i64 ks, .int .i64 ka, .int .i64 hop, .int .i64 stamp, .string tm, .int .i64 til, .int .i64 prog, .int .i64 rn, .int .i64 ri, .int .i64 rs, .int .i64 pn, .int .i64 pi, .int .i64 ps, .int .i64 pa, .int .i64 code, .int .i64 value, .bool more, .int .i64 delay]] w fun e w' => e = .returned (.agg (clean ⟨kind, fr, to, kn, ki, ks, ka, hop, stamp, tm, til, prog, rn, ri, rs, pn, pi, ps, pa, code, value, more, delay⟩).arr) ∧ Kept w w' := by
  have hv := Lib.hid (show clean ⟨kind, fr, to, kn, ki, ks, ka, hop, stamp, tm, til, prog, rn, ri, rs, pn, pi, ps, pa, code, value, more, delay⟩ = _ by unfold clean; rw [if_neg h1, if_neg h2, if_neg h4, if_neg h5])
  have e1 : (kind == 1) = false := by simpa using h1
  have e2 : (kind == 2) = false := by simpa using h2
  have e4 : (kind == 4) = false := by simpa using h4
  have e5 : (kind == 5) = false := by simpa using h5
  clear h1 h2 h4 h5
  go_enter Tryz.func52, Tryz.ntmps52
  go_upto_region 2 with (refine store_new rfl 43 (.tmp 3) (.tmp 12) rfl (w.heap.size + 2) _ rfl rfl _ _ (by simp) 23 info_pk rfl rfl (by kernel_rfl) ?_)
  go_upto_region 12 with (fail)
  go_step
  refine wpList_load_row rfl 43 (.tmp 3) rfl (w.heap.size + 2) rfl 43 _ (0, 0) _ (blk3 w _ _ _) Tryz.underlying43 rfl info_pk ?_
  refine wpList_store_row rfl 43 (.tmp 2) (.tmp 59) rfl (w.heap.size + 1) _ rfl rfl 43 _ (blk3m w _ _ _) info_pk rfl ?h1 ?_
  case h1 => kernel_rfl
  go_wp2_with fail
  refine bodyPost_ret (results_cell_row rfl _ _ (w.heap.size + 1) 43 _ (0, 0) _ rfl (setRow_heap _ _ _ _ _ _ (blk3m w _ _ _)) Tryz.underlying43 rfl info_pk) rfl ?_
  exact ⟨by rw [hv.out]; rfl, kept_row (Kept.more (Kept.more (Kept.one _ _) _) _) (by simp) _⟩

theorem clean_any (p : Pk) (w : World) :
    Calls Tryz.prog 52 #[.agg p.arr] w fun e w' => e = .returned (.agg (clean p).arr) ∧ Kept w w' := by
  obtain ⟨kind, fr, to, kn, ki, ks, ka, hop, stamp, tm, til, prog, rn, ri, rs, pn, pi, ps, pa, code, value, more, delay⟩ := p
  rcases kinds kind with rfl | rfl | rfl | rfl | rfl | ⟨h1, h2, h3, h4, h5⟩
  · exact clean1 fr to kn ki ks ka hop stamp tm til prog rn ri rs pn pi ps pa code value more delay w
  · exact clean2 fr to kn ki ks ka hop stamp tm til prog rn ri rs pn pi ps pa code value more delay w
  · exact clean3 fr to kn ki ks ka hop stamp tm til prog rn ri rs pn pi ps pa code value more delay w
  · exact clean4 fr to kn ki ks ka hop stamp tm til prog rn ri rs pn pi ps pa code value more delay w
  · exact clean5 fr to kn ki ks ka hop stamp tm til prog rn ri rs pn pi ps pa code value more delay w
  · exact clean0 kind h1 h2 h4 h5 fr to kn ki ks ka hop stamp tm til prog rn ri rs pn pi ps pa code value more delay w

end Go.Proofs.YtncdiggejofbbaaGreatDoor.Pk
