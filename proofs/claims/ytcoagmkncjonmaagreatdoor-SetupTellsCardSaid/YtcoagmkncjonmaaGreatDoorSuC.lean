/- Package setup: a configuration is read of a text. -/
import Derived.Test.YtcoagmkncjonmaaGreatDoorSuB
import Derived.Test.YtcoagmkncjonmaaGreatDoorWrB
import Derived.Test.YtcoagmkncjonmaaGreatDoorAd3
import Derived.Test.YtcoagmkncjonmaaGreatDoorPgB
import Derived.Test.YtcoagmkncjonmaaGreatDoorHx
namespace Go.Proofs.YtcoagmkncjonmaaGreatDoor.Su
open Go.RowKit Go.Sort Go.Shelf St Blk At
open Ad (Cf info_cf)
open Pg (Ops Progs textT rightB)
open Wh (Fr)
set_option linter.unusedVariables false
set_option linter.unusedSimpArgs false

attribute [local go_sem] Oper.semAt_some

theorem results_cells3 {P : Program} {fn : Func} {p q r : Tmp} {tx ty tz : TypeId} (h : fn.results = #[.cell p tx, .cell q ty, .cell r tz]) (tmps : Array Value) (w : World) (g k m : Nat) (t u v : Value)
    (hp : tmps.getD p undef = .pointer (some ⟨g, 0, none⟩)) (hq : tmps.getD q undef = .pointer (some ⟨k, 0, none⟩)) (hr : tmps.getD r undef = .pointer (some ⟨m, 0, none⟩)) (h0 : (loadVar tx ⟨g, 0, none⟩).run P w = .ok t w) (h1 : (loadVar ty ⟨k, 0, none⟩).run P w = .ok u w) (h2 : (loadVar tz ⟨m, 0, none⟩).run P w = .ok v w) :
    (results fn tmps).run P w = .ok (.tuple #[t, u, v]) w := by
  have hp' : tmps[p]?.getD undef = .pointer (some ⟨g, 0, none⟩) := by simpa using hp
  have hq' : tmps[q]?.getD undef = .pointer (some ⟨k, 0, none⟩) := by simpa using hq
  have hr' : tmps[r]?.getD undef = .pointer (some ⟨m, 0, none⟩) := by simpa using hr
  simp [results, h, hp', hq', hr', asAddr, h0, h1, h2, Sem.run_bind, Result.andThen]

theorem firstr_any (w : World) : Calls Tryz.prog 12 #[] w fun e w' => e = .returned (.agg #[.int .i64 1, .int .i64 0, .int .i64 1000, .int .i64 0, .int .i64 1, .int .i64 4, .int .i64 8, .int .i64 4, .int .i64 1, .int .i64 10, .int .i64 100, .int .i64 500, .int .i64 10, .slice none 0 0]) ∧ Kept w w' := first_any w

/-- a configuration within a reader -/
theorem rd_range {w : World} {R : Nat} {c : Cf} {hv : Value} (h : w.heap[R]? = some (.cells (rdA c hv) 73 (0, 0))) : (loadVar 24 ⟨R, 0, none⟩).run Tryz.prog w = .ok (.agg c.arr) w := by
  refine run_loadVar_mid w R 0 24 c.arr.toList _ (fun j v hj => ?_) Tryz.underlying24 rfl info_cf
  rw [blk_cell h, Nat.zero_add]
  have hlt : j < 14 := (List.getElem?_eq_some_iff.1 hj).1
  have : (rdA c hv)[j]? = c.arr.toList[j]? := by
    have h14 : j = 13 ∨ j < 13 := by omega
    rcases h14 with rfl | h13
    · rfl
    · rcases k_cases h13 with rfl | rfl | rfl | rfl | rfl | rfl | rfl | rfl | rfl | rfl | rfl | rfl | rfl <;> rfl
  rw [this]; exact hj

/-- what holds between two lines: how many are read, and where all lies -/
structure Rq (w : World) (R : Nat) (ls : List Ln) (i : Nat) (W : World) : Prop where
  kept : Kept w W
  b0 : W.heap[w.heap.size]? = some (.cells zeroA 24 (0, 0))
  b1 : W.heap[w.heap.size + 1]? = some (.cells #[.int .i64 0] 3 (0, 0))
  b2 : W.heap[w.heap.size + 2]? = some (.cells #[.int .i64 0] 43 (0, 0))
  kb : W.heap[R + 1]? = some (.cells #[.int .i64 (i : Int)] 3 (0, 0))
  rd : ∃ s c hv xs, runs rs0 (ls.take i) = some s ∧ Rd W (R + 5) R i s c hv xs
theorem Rq.go {w : World} {R : Nat} {ls : List Ln} {i : Nat} {A B : World} (hR : w.heap.size + 3 ≤ R) (h : Rq w R ls i A) (f : Fr (fun k => k = R + 2 ∨ k = R + 3 ∨ k = R + 4) A B) : Rq w R ls i B := by
  have hb : ∀ {k : Nat} {o : Obj}, A.heap[k]? = some o → k < R + 2 → B.heap[k]? = some o := fun {k o} hk h1 =>
    (f.block k (blk_lt hk) (fun c => by omega)).trans hk
  obtain ⟨s, c, hv, xs, h1, h2⟩ := h.rd
  exact ⟨((Fr.kept (S := fun k => k = R + 2 ∨ k = R + 3 ∨ k = R + 4) h.kept).trans f (fun k c => .inl c)).keeps (fun k c => by omega), hb h.b0 (by omega), hb h.b1 (by omega), hb h.b2 (by omega), hb h.kb (by omega), s, c, hv, xs, h1, h2.fr f (fun k c => by omega)⟩
/-- .. when a line is wrong -/
structure Rx (w : World) (R : Nat) (ls : List Ln) (W : World) : Prop where
  kept : Kept w W
  b0 : W.heap[w.heap.size]? = some (.cells zeroA 24 (0, 0))
  at' : ∃ i x s, ls[i]? = some x ∧ runs rs0 (ls.take i) = some s ∧ s.step x = none ∧ W.heap[w.heap.size + 1]? = some (.cells #[.int .i64 ((i : Int) + 1)] 3 (0, 0))
  b2 : W.heap[w.heap.size + 2]? = some (.cells #[.int .i64 8] 43 (0, 0))
theorem Rx.go {w : World} {R : Nat} {ls : List Ln} {A B : World} (hR : w.heap.size + 3 ≤ R) (h : Rx w R ls A) (f : Fr (fun k => k = R + 2 ∨ k = R + 3 ∨ k = R + 4) A B) : Rx w R ls B := by
  have hb : ∀ {k : Nat} {o : Obj}, A.heap[k]? = some o → k < R + 2 → B.heap[k]? = some o := fun {k o} hk h1 =>
    (f.block k (blk_lt hk) (fun c => by omega)).trans hk
  obtain ⟨i, x, s, h1, h2, h3, h4⟩ := h.at'
  exact ⟨((Fr.kept (S := fun k => k = R + 2 ∨ k = R + 3 ∨ k = R + 4) h.kept).trans f (fun k c => .inl c)).keeps (fun k c => by omega), hb h.b0 (by omega), ⟨i, x, s, h1, h2, h3, hb h4 (by omega)⟩, hb h.b2 (by omega)⟩

/-- the results' blocks while they are stored: the line's number, and what is wrong -/
def Rw (w w4 : World) (n c : Int) (u : World) : Prop :=
  Fr (fun k => k = w.heap.size ∨ k = w.heap.size + 1 ∨ k = w.heap.size + 2) w4 u ∧ u.heap[w.heap.size]? = some (.cells zeroA 24 (0, 0)) ∧ u.heap[w.heap.size + 1]? = some (.cells #[.int .i64 n] 3 (0, 0)) ∧ u.heap[w.heap.size + 2]? = some (.cells #[.int .i64 c] 43 (0, 0))
theorem rw_stab (w w4 : World) (n c : Int) : Au.Stab (Rw w w4 n c) := fun u u' h k => ⟨h.1.then_kept k, kept_at k h.2.1, kept_at k h.2.2.1, kept_at k h.2.2.2⟩
theorem ld_i {u : World} {b i : Nat} {n : Int} (h : u.cell? ⟨b, i, none⟩ = some (.int .i64 n)) : (loadVar 3 ⟨b, i, none⟩).run Tryz.prog u = .ok (.int .i64 n) u := by go_simp
/-- the results are laid -/
theorem stored {w V : World} {A : Array Value} {n c : Int} {D : Nat} (hD : w.heap.size + 3 ≤ D) (h0 : V.heap[w.heap.size]? = some (.cells zeroA 24 (0, 0))) (h1 : V.heap[w.heap.size + 1]? = some (.cells #[.int .i64 0] 3 (0, 0))) (h2 : V.heap[w.heap.size + 2]? = some (.cells #[.int .i64 0] 43 (0, 0))) (hd : V.heap[D]? = some (.deferred (some []))) (hk : Kept w V) :
    ∃ V', ((V.setRow w.heap.size A).setCell ⟨w.heap.size + 1, 0, none⟩ (.int .i64 n)).setCell ⟨w.heap.size + 1 + 1, 0, none⟩ (.int .i64 c) = V' ∧ V'.heap[w.heap.size]? = some (.cells A 24 (0, 0)) ∧ V'.heap[w.heap.size + 1]? = some (.cells #[.int .i64 n] 3 (0, 0)) ∧ V'.heap[w.heap.size + 2]? = some (.cells #[.int .i64 c] 43 (0, 0)) ∧
      V'.heap[D]? = some (.deferred (some [])) ∧ Kept w (V'.putObj D (.deferred none)) ∧ Fr (fun k => k = D ∨ k = w.heap.size ∨ k = w.heap.size + 1 ∨ k = w.heap.size + 2) V (V'.putObj D (.deferred none)) := by
  have hf : Fr (fun k => k = D ∨ k = w.heap.size ∨ k = w.heap.size + 1 ∨ k = w.heap.size + 2) V (((V.setRow w.heap.size A).setCell ⟨w.heap.size + 1, 0, none⟩ (.int .i64 n)).setCell ⟨w.heap.size + 1 + 1, 0, none⟩ (.int .i64 c)) :=
    (Fr.setCell (Fr.setCell (⟨setRow_os _ _ _, setRow_tape _ _ _, setRow_output _ _ _, by rw [setRow_size]; exact Nat.le_refl _, fun k _ hk => setRow_other _ _ _ _ (fun e => hk (.inr (.inl e)))⟩ : Fr (fun k => k = D ∨ k = w.heap.size ∨ k = w.heap.size + 1 ∨ k = w.heap.size + 2) V (V.setRow w.heap.size A)) (p := ⟨w.heap.size + 1, 0, none⟩) (.inl (.inr (.inr (.inl rfl)))) _) (p := ⟨w.heap.size + 1 + 1, 0, none⟩) (.inl (.inr (.inr (.inr rfl)))) _)
  have hf2 := hf.trans (Sq.fr_put _ D (.deferred none) (fun k => k = D ∨ k = w.heap.size ∨ k = w.heap.size + 1 ∨ k = w.heap.size + 2) (.inl rfl)) (fun k c => .inl c)
  refine ⟨_, rfl, ?_, ?_, ?_, ?_, ((Fr.kept (S := fun k => w.heap.size ≤ k) hk).trans hf2 (fun k c => .inl (by omega))).keeps (fun k c => c), hf2⟩
  · rw [Below.heap_setCell _ _ _ _ (by show w.heap.size ≠ w.heap.size + 1 + 1; omega), Below.heap_setCell _ _ _ _ (by show w.heap.size ≠ w.heap.size + 1; omega)]
    exact setRow_heap _ _ zeroA _ _ _ h0
  · rw [Below.heap_setCell _ _ _ _ (by show w.heap.size + 1 ≠ w.heap.size + 1 + 1; omega)]
    exact blk_set ((setRow_other _ _ _ _ (by omega)).trans h1) 0 _
  · exact blk_set ((Below.heap_setCell _ _ _ _ (by show w.heap.size + 2 ≠ w.heap.size + 1; omega)).trans ((setRow_other _ _ _ _ (by omega)).trans h2)) 0 _
  · rw [Below.heap_setCell _ _ _ _ (by show D ≠ w.heap.size + 1 + 1; omega), Below.heap_setCell _ _ _ _ (by show D ≠ w.heap.size + 1; omega), setRow_other _ _ _ _ (by omega)]
    exact hd
/-- what holds when the results are laid -/
theorem leave_run {w V : World} {A : Array Value} {n c : Int} {D : Nat} (hD : w.heap.size + 3 ≤ D) (h0 : V.heap[w.heap.size]? = some (.cells A 24 (0, 0))) (sA : A.size = 14) (h1 : V.heap[w.heap.size + 1]? = some (.cells #[.int .i64 n] 3 (0, 0))) (h2 : V.heap[w.heap.size + 2]? = some (.cells #[.int .i64 c] 43 (0, 0)))
    (fn : Func) (hfn : fn.results = #[.cell 2 24, .cell 3 3, .cell 4 43]) (tmps : Array Value) (t2 : tmps.getD 2 undef = .pointer (some ⟨w.heap.size, 0, none⟩)) (t3 : tmps.getD 3 undef = .pointer (some ⟨w.heap.size + 1, 0, none⟩)) (t4 : tmps.getD 4 undef = .pointer (some ⟨w.heap.size + 2, 0, none⟩)) :
    (results fn tmps).run Tryz.prog (V.putObj D (.deferred none)) = .ok (.tuple #[.agg A, .int .i64 n, .int .i64 c]) (V.putObj D (.deferred none)) := by
  have hput : ∀ j, j < w.heap.size + 3 → (V.putObj D (.deferred none)).heap[j]? = V.heap[j]? := fun j hj => World.putObj_heap_other (by omega)
  exact results_cells3 hfn _ _ w.heap.size (w.heap.size + 1) (w.heap.size + 2) (.agg A) (.int .i64 n) (.int .i64 c) t2 t3 t4 (load_cf ((hput _ (by omega)).trans h0) sA) (ld_i (by rw [blk_cell ((hput _ (by omega)).trans h1)]; rfl)) (Pg.load_errno ((hput _ (by omega)).trans h2))
/-- what reading lines comes to -/
def Readed (w : World) (ls : List Ln) (e : Ending) (w' : World) : Prop :=
  (∃ (s : Rs) (q : Option Addr) (n m : Nat), runs rs0 ls = some s ∧ n = s.M.length ∧ Ad.right (Su.mk s.l q n m) = true ∧ Pg.allB s.M (s.l.getD 0 0) (n : Int) = true ∧ e = .returned (.tuple #[.agg (Su.mk s.l q n m).arr, .int .i64 0, .int .i64 0]) ∧ Progs w' (.slice q n m) s.M ∧ Kept w w') ∨
  (∃ (s : Rs) (q : Option Addr) (n m : Nat), runs rs0 ls = some s ∧ n = s.M.length ∧ (Ad.right (Su.mk s.l q n m) && Pg.allB s.M (s.l.getD 0 0) (n : Int)) = false ∧ e = .returned (.tuple #[.agg zeroA, .int .i64 0, .int .i64 2]) ∧ Kept w w') ∨
  (∃ i x s, ls[i]? = some x ∧ runs rs0 (ls.take i) = some s ∧ s.step x = none ∧ e = .returned (.tuple #[.agg zeroA, .int .i64 ((i : Int) + 1), .int .i64 8]) ∧ Kept w w')

set_option maxRecDepth 100000 in
set_option maxHeartbeats 8000000 in
theorem read_in (ls : List Ln) (hk : ∀ x ∈ ls, x.Ok) (hl : ls.length ≤ 900) (s : ByteArray) (hs : s.data.toList = linesT ls) (w : World) (hE : Env w) :
    CallsIn Fence.wide 5 Tryz.prog 20 #[.string s] w (Readed w ls) := by
  have HF := Lib.hid (fun w => firstr_any w)
  have HLS := Lib.hid (fun w => lines_any s w)
  have HOK := Lib.hid (And.intro hk hl)
  have HS := Lib.hid hs
  have HE := Lib.hid hE
  clear hk hl hs hE
  refine callsIn_of_wp_marks Tryz.func20 rfl trivial ?_ rfl
  simp only [Tryz.ntmps20, List.size_toArray, List.length_cons, List.length_nil, Nat.reduceAdd, Nat.reduceSub, Array.replicate_succ, Array.replicate_zero, List.push_toArray, List.append_toArray, List.nil_append, List.cons_append]
  gi_wp2
  refine ⟨trivial, ?_⟩
  refine (callsIn_wide.2 (HF.out _)).mono ?_
  rintro e w1 ⟨rfl, hk1⟩
  have hz1 : w.heap.size + 3 ≤ w1.heap.size := by have := hk1.size; simpa using this
  have hbl := (Bl.start [(zeroA, 24), (#[.int .i64 0], 3), (#[.int .i64 0], 43)] w)
  have hB3 : Bl w w1 [(zeroA, 24), (#[.int .i64 0], 3), (#[.int .i64 0], 43)] := hbl.go hk1
  have HB3 := Lib.hid hB3
  have HZ := Lib.hid hz1
  have HB : Calls Tryz.prog 36 #[.string s] ((w1.alloc (.cells #[.int .i64 1, .int .i64 0, .int .i64 1000, .int .i64 0, .int .i64 1, .int .i64 4, .int .i64 8, .int .i64 4, .int .i64 1, .int .i64 10, .int .i64 100, .int .i64 500, .int .i64 10, .slice none 0 0, .slice none 0 0] 73)).alloc (.cells #[.int .i64 0] 3)) fun e w' => e = .returned (.func (.func 51) #[] #[.pointer (some ⟨w1.heap.size + 2, 0, none⟩)]) ∧ (Bl w1 w' [(rdA (Su.mk firstL none 0 0) (.slice none 0 0), 73), (#[.int .i64 0], 3), (#[.string s], 9)] ∧ w'.heap.size = w1.heap.size + 3) := by
    refine (HLS.out _).mono ?_
    rintro e w' ⟨rfl, rfl⟩
    exact ⟨by simp, Bl.start [(rdA (Su.mk firstL none 0 0) (.slice none 0 0), 73), (#[.int .i64 0], 3), (#[.string s], 9)] w1, by simp⟩
  have HB := Lib.hid HB
  clear HLS hk1 hz1 hbl hB3
  gi_wp2
  refine ⟨trivial, ?_⟩
  refine (callsIn_wide.2 HB.out).mono ?_
  rintro e w8 ⟨rfl, hB, hsz⟩
  gi_wp2
  have hk8 : Kept w w8 := HB3.out.kept.trans hB.kept
  have h0 : Rq w w1.heap.size ls 0 w8 := ⟨hk8, kept_at hB.kept (HB3.out.blk 0 rfl), kept_at hB.kept (HB3.out.blk 1 rfl), kept_at hB.kept (HB3.out.blk 2 rfl), hB.blk 1 rfl, rs0, Su.mk firstL none 0 0, .slice none 0 0, [], rfl,
    ⟨hB.blk 0 rfl, by omega, rfl, Sv.sv_nil _ _ _, rfl, fun i x L hx => by simp at hx, fun x hx => by simp at hx, Sv.sv_nil _ _ _, fun g e => (by cases e), by simp [rs0]⟩⟩
  have HR := Lib.hid (show w8.heap.size = w1.heap.size + 3 from hsz)
  have h5 := hB.blk 2 rfl
  refine Sq.range_sx (n := 5) (by omega) (gf := 51) rfl (enters_of Tryz.func51 (by kernel_rfl) rfl) (lines_seq 4 (by omega) (w1.heap.size + 2) ls HOK.out.1) rfl (by omega) (Rq w w1.heap.size ls) (Rx w w1.heap.size ls)
    (fun i A B h f => h.go HZ.out (f.mono fun k c => .inl (by omega))) (fun A B h f => h.go HZ.out (f.mono fun k c => .inl (by omega))) (fun i A h => trivial) (fun A hk => ⟨s, kept_at hk h5, HS.out⟩) h0
    (fun v => { tmps := #[.string s, undef, .pointer (some ⟨w.heap.size, 0, none⟩), .pointer (some ⟨w.heap.size + 1, 0, none⟩), .pointer (some ⟨w.heap.size + 1 + 1, 0, none⟩), .pointer (some ⟨w1.heap.size, 0, none⟩), .pointer (some ⟨w1.heap.size + 1, 0, none⟩), v, undef, .agg #[.int .i64 1, .int .i64 0, .int .i64 1000, .int .i64 0, .int .i64 1, .int .i64 4, .int .i64 8, .int .i64 4, .int .i64 1, .int .i64 10, .int .i64 100, .int .i64 500, .int .i64 10, .slice none 0 0], .agg #[.int .i64 1, .int .i64 0, .int .i64 1000, .int .i64 0, .int .i64 1, .int .i64 4, .int .i64 8, .int .i64 4, .int .i64 1, .int .i64 10, .int .i64 100, .int .i64 500, .int .i64 10, .slice none 0 0, .slice none 0 0], .string s, .func (.func 51) #[] #[.pointer (some ⟨w1.heap.size + 2, 0, none⟩)], v, undef, undef, undef, undef, undef, undef, undef, undef, undef, undef, undef, undef, undef, undef, undef, undef, undef, undef, undef, undef, undef, undef, undef], defers := [] }) ?assign ?body ?done ?stop
  case assign =>
    intro l v W K hK
    gi_wp2
    exact hK
  case body =>
    rintro i v W hI hW hlt ⟨x, p, hx, rfl, hp⟩
    have hlow : w1.heap.size + 5 ≤ W.heap.size := by omega
    obtain ⟨st, c, hv, xs, hruns, hrd⟩ := hI.rd
    have hok := HOK.out.1 x (List.mem_of_getElem? hx)
    obtain ⟨S, hS⟩ : ∃ S : ByteArray, S.data.toList = x.txt := ⟨⟨x.txt.toArray⟩, rfl⟩
    have htl := txt_len hok
    have hSz : S.size ≤ 100000 := by rw [size_list, hS]; exact htl
    have hpz : p.size ≤ 9223372036854775807 := by rw [size_list, hp, List.length_append]; simp; omega
    have HT := Lib.hid (fun w => trim_any hp hS hpz w)
    have hi9 : i < 900 := Nat.lt_of_lt_of_le hlt HOK.out.2
    have hiI : (i : Int) < 900 := by omega
    have k0 : W.cell? ⟨w1.heap.size + 1, 0, none⟩ = some (.int .i64 (i : Int)) := by rw [blk_cell hI.kb]; rfl
    have k1 := blk_free hI.kb 0
    obtain ⟨W2, hW2⟩ : ∃ W2, W.setCell ⟨w1.heap.size + 1, 0, none⟩ (.int .i64 ((i : Int) + 1)) = W2 := ⟨_, rfl⟩
    have hf2 : Fr (fun k => k = w1.heap.size + 1) W W2 := by rw [← hW2]; exact fr_cell _ _ _ _
    have hkb2 : W2.heap[w1.heap.size + 1]? = some (.cells #[.int .i64 ((i : Int) + 1)] 3 (0, 0)) := by rw [← hW2]; exact blk_set hI.kb 0 _
    have hrd2 := hrd.fr hf2 (fun k c => by omega)
    have hk2 : Kept w W2 := ((Fr.kept (S := fun k => k = w1.heap.size + 1) hI.kept).trans hf2 (fun k c => .inl c)).keeps (fun k c => by have := HZ.out; omega)
    have HLN := Lib.hid (line_any hrd2 (by rw [← hW2, Wh.size_set]; exact hlow) (by omega) hok hS (by omega) (HE.out.kept hk2))
    have HI := Lib.hid (And.intro hI (And.intro hf2 (And.intro hkb2 (And.intro hruns (And.intro hx hk2)))))
    have HW2 := Lib.hid hW2
    have HLW := Lib.hid (And.intro hlow hW)
    clear hI hrd hok hS htl hSz hpz hp hW2 hf2 hkb2 hrd2 hk2 hruns hx hB hk8 h0 h5 hlow hW
    gi_wp2
    refine ⟨trivial, ?_⟩
    rw [HW2.out]
    refine (CallsIn.inRound _ (callsIn_wide.2 (HT.out _))).mono ?_
    rintro e u1 ⟨rfl, rfl⟩
    gi_wp2
    refine ⟨trivial, ?_⟩
    refine (CallsIn.inRound _ (callsIn_wide.2 HLN.out)).mono ?_
    rintro e w4 (⟨s2, hst, rfl, hrd4⟩ | ⟨hst, rfl, hf4⟩)
    · have H4 := Lib.hid (And.intro hst hrd4)
      clear hst hrd4
      gi_wp2
      obtain ⟨hI, hf2, hkb2, hruns, hx, hk2⟩ := HI.out
      obtain ⟨hst, ⟨c4, hv4, xs4, hrd4⟩, hf4⟩ := H4.out
      have hz := HZ.out
      have hlow := HLW.out.1
      have hsame : ∀ j, j < w1.heap.size + 5 → j ≠ w1.heap.size → j ≠ w1.heap.size + 1 → w4.heap[j]? = W.heap[j]? := fun j hj h1 h2 =>
        (hf4.block j (by have := hf2.size; omega) (fun c => by omega)).trans (hf2.block j (by omega) h2)
      have hsz := HR.out
      refine ⟨⟨?_, (hsame _ (by omega) (by omega) (by omega)).trans hI.b0, (hsame _ (by omega) (by omega) (by omega)).trans hI.b1, (hsame _ (by omega) (by omega) (by omega)).trans hI.b2, ?_, s2, c4, hv4, xs4, ?_, hrd4⟩, hsame _ (by omega) (by omega) (by omega), hsame _ (by omega) (by omega) (by omega), hsame _ (by omega) (by omega) (by omega)⟩
      · exact ((Fr.kept (S := fun j => j = w1.heap.size ∨ w1.heap.size + 5 ≤ j) hk2).trans hf4 (fun k c => .inl c)).keeps (fun k c => by omega)
      · have h1 := (hf4.block (w1.heap.size + 1) (blk_lt hkb2) (fun c => by omega)).trans hkb2
        rw [h1]; simp
      · rw [List.take_add_one, hx]
        show runs rs0 (ls.take i ++ [x]) = _
        rw [runs_app, hruns]
        show runs st [x] = _
        simp only [runs, hst]
    · have H4 := Lib.hid (And.intro hst hf4)
      obtain ⟨hI, hf2, hkb2, hruns, hx, hk2⟩ := HI.out
      have hz := HZ.out
      have hlow := HLW.out.1
      have hsame : ∀ j, j < w1.heap.size + 5 → j ≠ w1.heap.size → j ≠ w1.heap.size + 1 → w4.heap[j]? = W.heap[j]? := fun j hj h1 h2 =>
        (hf4.block j (by have := hf2.size; omega) (fun c => by omega)).trans (hf2.block j (by omega) h2)
      have r0 := (hsame w.heap.size (by omega) (by omega) (by omega)).trans hI.b0
      have r1 := (hsame (w.heap.size + 1) (by omega) (by omega) (by omega)).trans hI.b1
      have r2 := (hsame (w.heap.size + 2) (by omega) (by omega) (by omega)).trans hI.b2
      have rk := (hf4.block (w1.heap.size + 1) (blk_lt hkb2) (fun c => by omega)).trans hkb2
      have HRR := Lib.hid (And.intro r0 (And.intro r1 (And.intro r2 (And.intro rk hsame))))
      have e1 : w4.cell? ⟨w.heap.size + 1, 0, none⟩ = some (.int .i64 0) := by rw [blk_cell r1]; rfl
      have f1 := blk_free r1 0
      have e2 : w4.cell? ⟨w.heap.size + 1 + 1, 0, none⟩ = some (.int .i64 0) := by have := blk_cell r2 0; exact this
      have f2 : w4.frozen? ⟨w.heap.size + 1 + 1, 0, none⟩ = false := by have := blk_free r2 0; exact this
      have ek : w4.cell? ⟨w1.heap.size + 1, 0, none⟩ = some (.int .i64 ((i : Int) + 1)) := by rw [blk_cell rk]; rfl
      have HHH := Lib.hid (And.intro H4.out (And.intro HI.out hsame))
      clear hst hf4 hI hf2 hkb2 hruns hx hk2 hz hlow hsame r0 r1 r2 rk e1 f1 e2 f2 ek
      gi_wp2
      refine Hx.region_in [(0, .bare), (1, .take []), (2, .bare), (3, .step), (4, .step), (5, .step)] 6 (fun u => u.heap[w1.heap.size + 1]? = some (.cells #[.int .i64 ((i : Int) + 1)] 3 (0, 0))) (Rw w w4 0 0) (w4.heap.size) (by kernel_rfl) (by kernel_rfl) (fun c => by obtain ⟨_, _, c⟩ := c; exact c) (by kernel_rfl) (fun d _ _ _ _ h => by cases d <;> exact h) (fun d _ _ _ _ h => by cases d <;> exact h) (Hx.mk_none (by decide)) (rw_stab _ _ _ _) (fun u hu => (hu.1.block _ (blk_lt HRR.out.2.2.2.1) (fun c => by have := HZ.out; omega)).trans HRR.out.2.2.2.1) (⟨(Fr.refl _ _).drew, HRR.out.1, HRR.out.2.1, HRR.out.2.2.1⟩) (fun u hu => hu.1.size) ?_
      refine Hx.bare (d := (some 21)) (v := ?_) rfl rfl (Au.yq_run (by rfl) (fun u hu => ?_)) ?_
      rotate_left
      · (clear hu; go_simp; try with_reducible rfl)
      simp only [Act.put, List.setIfInBounds_toArray, List.set_cons_zero, List.set_cons_succ]
      refine Hx.take (d := (some 22)) rfl rfl (Au.yq_load 3 (.tmp 6) rfl _ rfl (by rfl) (fun u hu => ld_i (by have := blk_cell hu 0; exact this))) ?_
      simp only [Act.put, List.setIfInBounds_toArray, List.set_cons_zero, List.set_cons_succ]
      refine Hx.bare (d := (some 23)) (v := ?_) rfl rfl (Au.yq_run (by rfl) (fun u hu => ?_)) ?_
      rotate_left
      · (clear hu; go_simp; try with_reducible rfl)
      simp only [Act.put, List.setIfInBounds_toArray, List.set_cons_zero, List.set_cons_succ]
      refine Hx.step rfl rfl (fun v hv KK hK => ?_)
      refine wpList_store_row rfl 24 (.tmp 2) (.tmp 21) rfl w.heap.size zeroA rfl rfl 24 zeroA hv.2.1 info_cf rfl (by kernel_rfl) ?_
      refine hK.out (Rw w w4 0 0) _ (v.setRow w.heap.size zeroA) ⟨hv.1.trans (S' := fun k => k = w.heap.size) ⟨setRow_os _ _ _, setRow_tape _ _ _, setRow_output _ _ _, by rw [setRow_size]; exact Nat.le_refl _, fun k _ hk => setRow_other _ _ _ _ hk⟩ (fun k e => .inl (.inl e)), setRow_heap _ _ zeroA _ _ _ hv.2.1, (setRow_other _ _ _ _ (by omega)).trans hv.2.2.1, (setRow_other _ _ _ _ (by omega)).trans hv.2.2.2⟩ (rw_stab _ _ _ _) (fun _ => fun u hu => (hu.1.block _ (blk_lt HRR.out.2.2.2.1) (fun c => by have := HZ.out; omega)).trans HRR.out.2.2.2.1) ⟨by rw [setRow_size]; exact Nat.le_refl _, fun k c1 c2 c3 => setRow_other _ _ _ _ (fun e => by have := blk_lt HRR.out.1; omega)⟩ ?_
      clear hK KK hv v
      refine Hx.step rfl rfl (fun v hv KK hK => ?_)
      have c0 : v.cell? ⟨w.heap.size + 1, 0, none⟩ = some (.int .i64 0) := by have := blk_cell hv.2.2.1 0; exact this
      have c1 : v.frozen? ⟨w.heap.size + 1, 0, none⟩ = false := blk_free hv.2.2.1 0
      have HV := Lib.hid hv
      clear hv
      go_wp2_with fail
      refine hK.out (Rw w w4 ((i : Int) + 1) 0) _ (v.setCell ⟨w.heap.size + 1, 0, none⟩ (.int .i64 ((i : Int) + 1))) ⟨HV.out.1.setCell (p := ⟨w.heap.size + 1, 0, none⟩) (.inl (.inr (.inl rfl))) _, (Below.heap_setCell _ _ _ _ (by show w.heap.size ≠ w.heap.size + 1; omega)).trans HV.out.2.1, blk_set HV.out.2.2.1 0 _, (Below.heap_setCell _ _ _ _ (by show w.heap.size + 2 ≠ w.heap.size + 1; omega)).trans HV.out.2.2.2⟩ (rw_stab _ _ _ _) (fun _ => fun u hu => (hu.1.block _ (blk_lt HRR.out.2.2.2.1) (fun c => by have := HZ.out; omega)).trans HRR.out.2.2.2.1) ⟨by rw [Wh.size_set]; exact Nat.le_refl _, fun k c1 c2 c3 => Below.heap_setCell _ _ _ _ (fun e => by have := blk_lt HRR.out.2.2.1; have e2 : k = w.heap.size + 1 := e; omega)⟩ ?_
      clear hK KK c0 c1 HV v
      refine Hx.step rfl rfl (fun v hv KK hK => ?_)
      have c0 : v.cell? ⟨w.heap.size + 1 + 1, 0, none⟩ = some (.int .i64 0) := by have := blk_cell hv.2.2.2 0; exact this
      have c1 : v.frozen? ⟨w.heap.size + 1 + 1, 0, none⟩ = false := blk_free hv.2.2.2 0
      have HV := Lib.hid hv
      clear hv
      go_wp2_with fail
      refine hK.out (Rw w w4 ((i : Int) + 1) 8) _ (v.setCell ⟨w.heap.size + 2, 0, none⟩ (.int .i64 8)) ⟨HV.out.1.setCell (p := ⟨w.heap.size + 2, 0, none⟩) (.inl (.inr (.inr rfl))) _, (Below.heap_setCell _ _ _ _ (by show w.heap.size ≠ w.heap.size + 2; omega)).trans HV.out.2.1, (Below.heap_setCell _ _ _ _ (by show w.heap.size + 1 ≠ w.heap.size + 2; omega)).trans HV.out.2.2.1, blk_set HV.out.2.2.2 0 _⟩ (rw_stab _ _ _ _) (fun _ => fun u hu => (hu.1.block _ (blk_lt HRR.out.2.2.2.1) (fun c => by have := HZ.out; omega)).trans HRR.out.2.2.2.1) ⟨by rw [Wh.size_set]; exact Nat.le_refl _, fun k c1 c2 c3 => Below.heap_setCell _ _ _ _ (fun e => by have := blk_lt HRR.out.2.2.1; have e2 : k = w.heap.size + 2 := e; omega)⟩ ?_
      clear hK KK c0 c1 HV v
      refine Hx.nil (fun u hu => ?_)
      have HU := Lib.hid hu
      clear hu
      gi_wp2
      obtain ⟨hf, r0, r1, r2⟩ := HU.out
      obtain ⟨⟨hst, hf4⟩, ⟨hI, hf2, hkb2, hruns, hx, hk2⟩, hsame⟩ := HHH.out
      have hz := HZ.out
      have hsz := HR.out
      have hlow := HLW.out.1
      have hk4 : Kept w w4 := ((Fr.kept (S := fun j => j = w1.heap.size ∨ w1.heap.size + 5 ≤ j) hk2).trans hf4 (fun k c => .inl c)).keeps (fun k c => by omega)
      have hl4 : w1.heap.size + 5 ≤ w4.heap.size := Nat.le_trans hlow (Nat.le_trans hf2.size hf4.size)
      have hfar : ∀ j, w.heap.size + 3 ≤ j → j < w1.heap.size + 5 → j ≠ w1.heap.size → j ≠ w1.heap.size + 1 → u.heap[j]? = W.heap[j]? := fun j h0 hj h1 h2 =>
        (hf.block j (by omega) (fun c => by omega)).trans (hsame j hj h1 h2)
      refine ⟨⟨((Fr.kept (S := fun k => w.heap.size ≤ k) hk4).trans hf (fun k c => .inl (by omega))).keeps (fun k c => c), r0, ⟨i, x, st, hx, hruns, hst, r1⟩, r2⟩, hfar _ (by omega) (by omega) (by omega) (by omega), hfar _ (by omega) (by omega) (by omega) (by omega)⟩
  case stop =>
    intro W hI hD
    obtain ⟨hkk, hb0, ⟨i, x, st, h1, h2, h3, hb1⟩, hb2⟩ := hI
    have hz := HZ.out
    have hsz := HR.out
    have hlD := blk_lt hD
    refine ⟨by simp, .inl ⟨_, _, rfl, run_takeDeferred hD, ?_⟩⟩
    have hput : ∀ j, j < w1.heap.size + 3 → (W.putObj w8.heap.size (.deferred none)).heap[j]? = W.heap[j]? := fun j hj => World.putObj_heap_other (by omega)
    refine ⟨_, results_cells3 rfl _ _ w.heap.size (w.heap.size + 1) (w.heap.size + 2) (.agg zeroA) (.int .i64 ((i : Int) + 1)) (.int .i64 8) rfl rfl rfl (load_cf ((hput _ (by omega)).trans hb0) rfl) (ld_i (by rw [blk_cell ((hput _ (by omega)).trans hb1)]; rfl)) (Pg.load_errno ((hput _ (by omega)).trans hb2)), .inr (.inr ⟨i, x, st, h1, h2, h3, rfl, ?_⟩)⟩
    exact ((Fr.kept (S := fun k => w.heap.size ≤ k) hkk).trans (Sq.fr_put W w8.heap.size (.deferred none) (fun j => w.heap.size ≤ j) (by omega)) (fun k c => .inl c)).keeps (fun k c => c)
  case done =>
    intro W hI hD
    obtain ⟨st, c, hv, xs, hruns, hrd⟩ := hI.rd
    rw [List.take_length] at hruns
    have hprogs := hrd.progs (by have := HOK.out.2; omega)
    obtain ⟨A, hA⟩ : ∃ A, c.arr = A := ⟨_, rfl⟩
    have sA : A.size = 14 := by rw [← hA]; rfl
    have lA := rd_range hrd.blk
    have HRT := Lib.hid (fun w => Ad.right_any c w)
    have HAL := Lib.hid (fun (u : World) (hu : Kept W u) => Pg.all_any (c := c) (hprogs.go hu))
    have HLA := Lib.hid (fun (u : World) (hu : Kept W u) => rd_range (kept_at hu hrd.blk))
    rw [hA] at lA HRT HAL HLA
    obtain ⟨z1, hz1⟩ : ∃ z, Ad.right c = z := ⟨_, rfl⟩
    obtain ⟨z2, hz2⟩ : ∃ z, Pg.allB st.M c.nodes (c.pn : Int) = z := ⟨_, rfl⟩
    rw [hz1] at HRT
    rw [hz2] at HAL
    have HH := Lib.hid (And.intro hI (And.intro hD (And.intro hruns (And.intro hrd (And.intro hprogs (And.intro hA (And.intro hz1 hz2)))))))
    clear hI hD hruns hrd hprogs hA hz1 hz2 hB hk8 h0 h5
    gi_wp2_with (refine Ad.load_in 24 (.tmp 24) rfl _ rfl rfl (.agg A) lA ?_)
    refine ⟨trivial, ?_⟩
    refine (callsIn_wide.2 (HRT.out _)).mono ?_
    rintro e u1 ⟨rfl, hk1⟩
    have key : ∀ (V : World), Kept W V → V.heap[w.heap.size]? = some (.cells zeroA 24 (0, 0)) ∧ V.heap[w.heap.size + 1]? = some (.cells #[.int .i64 0] 3 (0, 0)) ∧ V.heap[w.heap.size + 2]? = some (.cells #[.int .i64 0] 43 (0, 0)) ∧ V.heap[w8.heap.size]? = some (.deferred (some [])) ∧ Kept w V := fun V hV =>
      ⟨kept_at hV HH.out.1.b0, kept_at hV HH.out.1.b1, kept_at hV HH.out.1.b2, kept_at hV HH.out.2.1, HH.out.1.kept.trans hV⟩
    have KEY := Lib.hid key
    clear key
    cases z1
    · obtain ⟨b0, b1, b2, bD, hkV⟩ := KEY.out u1 hk1
      have q1 : (u1.setRow w.heap.size zeroA).cell? ⟨w.heap.size + 1, 0, none⟩ = some (.int .i64 0) := by rw [blk_cell ((setRow_other _ _ _ _ (by omega)).trans b1)]; rfl
      have p1 : (u1.setRow w.heap.size zeroA).frozen? ⟨w.heap.size + 1, 0, none⟩ = false := blk_free ((setRow_other _ _ _ _ (by omega)).trans b1) 0
      have q2 : (u1.setRow w.heap.size zeroA).cell? ⟨w.heap.size + 1 + 1, 0, none⟩ = some (.int .i64 0) := by have := blk_cell ((setRow_other u1 w.heap.size (w.heap.size + 2) zeroA (by omega)).trans b2) 0; exact this
      have p2 : (u1.setRow w.heap.size zeroA).frozen? ⟨w.heap.size + 1 + 1, 0, none⟩ = false := blk_free ((setRow_other u1 w.heap.size (w.heap.size + 2) zeroA (by omega)).trans b2) 0
      have HB := Lib.hid (And.intro b0 (And.intro b1 (And.intro b2 (And.intro bD hkV))))
      clear b0 b1 b2 bD hkV hk1
      gi_wp2
      refine ⟨trivial, ?_⟩
      gi_wp2_with (refine Ad.store_in rfl 24 (.tmp 2) (.tmp 34) rfl w.heap.size zeroA rfl rfl 24 zeroA HB.out.1 info_cf rfl (by kernel_rfl) ?_)
      obtain ⟨b0, b1, b2, bD, hkV⟩ := HB.out
      have hz := HZ.out
      have hsz := HR.out
      obtain ⟨V', hV', v0, v1, v2, vD, vk, vf⟩ := stored (A := zeroA) (n := 0) (c := 2) (show w.heap.size + 3 ≤ w1.heap.size + 3 by omega) b0 b1 b2 (by rw [← hsz]; exact bD) hkV
      rw [hV']
      obtain ⟨-, -, hruns, hrd, -, hA, hz1, hz2⟩ := HH.out
      refine ⟨by simp, .inl ⟨_, _, rfl, run_takeDeferred vD, ?_⟩⟩
      refine ⟨_, leave_run (show w.heap.size + 3 ≤ w1.heap.size + 3 by omega) v0 rfl v1 v2 _ rfl _ rfl rfl rfl, .inr (.inl ⟨st, c.pa, c.pn, c.pc, hruns, ?_, ?_, rfl, vk⟩)⟩
      · have := hrd.len; obtain ⟨p, cap, e⟩ := hrd.sv.shape; have e2 : c.pn = xs.length := (by injection e); rw [e2]; exact this
      · have e1 : Su.mk st.l c.pa c.pn c.pc = c := by rw [← hrd.nums]; exact mk_nums c
        have e2 : st.l.getD 0 0 = c.nodes := by rw [← hrd.nums]; rfl
        rw [e1, e2, hz1, hz2]; rfl
    · gi_wp2_with (first | (refine Ad.load_in 24 (.tmp 29) rfl _ rfl rfl (.agg A) (HLA.out _ hk1) ?_))
      refine ⟨trivial, ?_⟩
      refine (callsIn_wide.2 (HAL.out _ hk1)).mono ?_
      rintro e u2 ⟨rfl, hk2⟩
      obtain ⟨b0, b1, b2, bD, hkV⟩ := KEY.out u2 (hk1.trans hk2)
      have q1 : ∀ X : Array Value, (u2.setRow w.heap.size X).cell? ⟨w.heap.size + 1, 0, none⟩ = some (.int .i64 0) := fun X => by rw [blk_cell ((setRow_other _ _ _ _ (by omega)).trans b1)]; rfl
      have p1 : ∀ X : Array Value, (u2.setRow w.heap.size X).frozen? ⟨w.heap.size + 1, 0, none⟩ = false := fun X => blk_free ((setRow_other _ _ _ _ (by omega)).trans b1) 0
      have q2 : ∀ X : Array Value, (u2.setRow w.heap.size X).cell? ⟨w.heap.size + 1 + 1, 0, none⟩ = some (.int .i64 0) := fun X => by have := blk_cell ((setRow_other u2 w.heap.size (w.heap.size + 2) X (by omega)).trans b2) 0; exact this
      have p2 : ∀ X : Array Value, (u2.setRow w.heap.size X).frozen? ⟨w.heap.size + 1 + 1, 0, none⟩ = false := fun X => blk_free ((setRow_other u2 w.heap.size (w.heap.size + 2) X (by omega)).trans b2) 0
      have HKW := Lib.hid (hk1.trans hk2)
      have HB := Lib.hid (And.intro b0 (And.intro b1 (And.intro b2 (And.intro bD hkV))))
      clear b0 b1 b2 bD hkV hk1 hk2
      cases z2
      · have q1' := q1 zeroA
        have p1' := p1 zeroA
        have q2' := q2 zeroA
        have p2' := p2 zeroA
        clear q1 p1 q2 p2
        gi_wp2_with (refine Ad.store_in rfl 24 (.tmp 2) (.tmp 34) rfl w.heap.size zeroA rfl rfl 24 zeroA HB.out.1 info_cf rfl (by kernel_rfl) ?_)
        obtain ⟨b0, b1, b2, bD, hkV⟩ := HB.out
        have hz := HZ.out
        have hsz := HR.out
        obtain ⟨V', hV', v0, v1, v2, vD, vk, vf⟩ := stored (A := zeroA) (n := 0) (c := 2) (show w.heap.size + 3 ≤ w1.heap.size + 3 by omega) b0 b1 b2 (by rw [← hsz]; exact bD) hkV
        rw [hV']
        obtain ⟨-, -, hruns, hrd, -, hA, hz1, hz2⟩ := HH.out
        refine ⟨by simp, .inl ⟨_, _, rfl, run_takeDeferred vD, ?_⟩⟩
        refine ⟨_, leave_run (show w.heap.size + 3 ≤ w1.heap.size + 3 by omega) v0 rfl v1 v2 _ rfl _ rfl rfl rfl, .inr (.inl ⟨st, c.pa, c.pn, c.pc, hruns, ?_, ?_, rfl, vk⟩)⟩
        · have := hrd.len; obtain ⟨p, cap, e⟩ := hrd.sv.shape; have e2 : c.pn = xs.length := (by injection e); rw [e2]; exact this
        · have e1 : Su.mk st.l c.pa c.pn c.pc = c := by rw [← hrd.nums]; exact mk_nums c
          have e2 : st.l.getD 0 0 = c.nodes := by rw [← hrd.nums]; rfl
          rw [e1, e2, hz1, hz2]; rfl
      · have q1' := q1 A
        have p1' := p1 A
        have q2' := q2 A
        have p2' := p2 A
        have oA : A.all (·.oneCell') = true := by rw [← HH.out.2.2.2.2.2.1]; exact arr_one c
        have lA2 := HLA.out _ HKW.out
        clear q1 p1 q2 p2
        gi_wp2_with (first | (refine Ad.load_in 24 (.tmp 35) rfl _ rfl rfl (.agg A) lA2 ?_) | (refine Ad.store_in rfl 24 (.tmp 2) (.tmp 36) rfl w.heap.size A rfl rfl 24 zeroA HB.out.1 (by rw [sA]; exact info_cf) (by rw [sA]; rfl) oA ?_))
        obtain ⟨b0, b1, b2, bD, hkV⟩ := HB.out
        have hz := HZ.out
        have hsz := HR.out
        obtain ⟨V', hV', v0, v1, v2, vD, vk, vf⟩ := stored (A := A) (n := 0) (c := 0) (show w.heap.size + 3 ≤ w1.heap.size + 3 by omega) b0 b1 b2 (by rw [← hsz]; exact bD) hkV
        rw [hV']
        obtain ⟨-, -, hruns, hrd, hpr, hA, hz1, hz2⟩ := HH.out
        have e1 : Su.mk st.l c.pa c.pn c.pc = c := by rw [← hrd.nums]; exact mk_nums c
        have e2 : st.l.getD 0 0 = c.nodes := by rw [← hrd.nums]; rfl
        refine ⟨by simp, .inl ⟨_, _, rfl, run_takeDeferred vD, ?_⟩⟩
        refine ⟨_, leave_run (show w.heap.size + 3 ≤ w1.heap.size + 3 by omega) v0 sA v1 v2 _ rfl _ rfl rfl rfl, .inl ⟨st, c.pa, c.pn, c.pc, hruns, ?_, by rw [e1]; exact hz1, by rw [e2]; exact hz2, by rw [e1, hA], ?_, vk⟩⟩
        · have := hrd.len; obtain ⟨p, cap, e⟩ := hrd.sv.shape; have e2 : c.pn = xs.length := (by injection e); rw [e2]; exact this
        · have hrdV := (hrd.keep HKW.out).fr vf (fun k c => by omega)
          exact hrdV.progs (by have := HOK.out.2; omega)

theorem read_any (ls : List Ln) (hk : ∀ x ∈ ls, x.Ok) (hl : ls.length ≤ 900) (s : ByteArray) (hs : s.data.toList = linesT ls) (w : World) (hE : Env w) :
    Calls Tryz.prog 20 #[.string s] w (Readed w ls) := (callsIn_wide (n := 5)).1 (read_in ls hk hl s hs w hE)

end Go.Proofs.YtcoagmkncjonmaaGreatDoor.Su
