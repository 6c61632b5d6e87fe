/- The document's alarms: what they are in memory; New, Time, Clear. -/
import Derived.Test.YtckmkagijanbdaaAl8
import Derived.Test.YtckmkagijanbdaaNmE
import Derived.Test.YtckmkagijanbdaaAlC
import Derived.IntWalk
namespace Go.Proofs.Ytckmkagijanbdaa.Al
open Go.RowKit Go.Sort Tk Wh IdM
open St (Kept blk_cell blk_free blk_lt blk_set)
set_option linter.unusedVariables false

/-- an alarm's cells -/
def e6 (e : Nm × Int) : List Int := [e.1.n, e.1.i, e.1.s, e.1.a, e.1.k, e.2]
/-- THE DOCUMENT's ALARMS in block R: their list's slice vL; S: the blocks that they have -/
structure RIs (w : World) (S : Nat → Prop) (R : Nat) (g now : Int) (A : List (Nm × Int)) (vL : Value) : Prop where
  blk : w.heap[R]? = some (.cells #[vL, .int .i64 g, .int .i64 now] 39 (0, 0))
  row : RowI w vL 45 6 (A.map e6)
  sR : S R
  sV : ∀ b, vL.ownBlock = some b → S b
  ord : A.Pairwise ltA
  ok : ∀ x c, (x, c) ∈ A → okN x ∧ 0 ≤ c ∧ c ≤ 1125899906842624
  len : A.length ≤ 4096
  nw : 0 ≤ now ∧ now ≤ 1125899906842624
  gr : 1 ≤ g ∧ g ≤ 64
  lt : ∀ k, S k → k < w.heap.size
section
variable {w w' : World} {S S' : Nat → Prop} {R : Nat} {g now now' : Int} {A A' : List (Nm × Int)} {vL vL' : Value}
theorem RIs.ltR (h : RIs w S R g now A vL) : R < w.heap.size := blk_lt h.blk
theorem RIs.c0 (h : RIs w S R g now A vL) : w.cell? ⟨R, 0, none⟩ = some vL := by rw [blk_cell h.blk]; rfl
theorem RIs.c1 (h : RIs w S R g now A vL) : w.cell? ⟨R, 1, none⟩ = some (.int .i64 g) := by rw [blk_cell h.blk]; rfl
theorem RIs.c2 (h : RIs w S R g now A vL) : w.cell? ⟨R, 2, none⟩ = some (.int .i64 now) := by rw [blk_cell h.blk]; rfl
theorem RIs.free (h : RIs w S R g now A vL) (o : Nat) : w.frozen? ⟨R, o, none⟩ = false := blk_free h.blk o
theorem RIs.notR (h : RIs w S R g now A vL) : vL.ownBlock ≠ some R := fun e => by
  rcases h.row.1.2 with ⟨c, _⟩ | ⟨b, cap, cur, c, _, hb, _⟩
  · rw [c] at e; cases e
  · rw [c] at e
    obtain rfl : b = R := by simpa [Value.ownBlock] using e
    rw [h.blk] at hb; simp at hb
theorem RIs.stay (h : RIs w S R g now A vL) (hz : w.heap.size ≤ w'.heap.size) (hk : ∀ k, S k → k < w.heap.size → w'.heap[k]? = w.heap[k]?) : RIs w' S R g now A vL :=
  ⟨(hk R h.sR h.ltR).trans h.blk, h.row.kept fun b e => hk b (h.sV b e) (h.row.lt e), h.sR, h.sV, h.ord, h.ok, h.len, h.nw, h.gr, fun k c => Nat.lt_of_lt_of_le (h.lt k c) hz⟩
theorem RIs.kept (h : RIs w S R g now A vL) (hk : Kept w w') : RIs w' S R g now A vL := h.stay hk.size fun k _ hl => hk.block k hl
theorem RIs.fr (h : RIs w S R g now A vL) (hk : Fr S' w w') (hn : ∀ k, S k → ¬ S' k) : RIs w' S R g now A vL := h.stay hk.size fun k hs hl => hk.block k hl (hn k hs)

/-- what is read of the j-th alarm -/
theorem RIs.at (h : RIs w S R g now A vL) {j : Nat} {n i s a k c : Int} (he : A[j]? = some (⟨n, i, s, a, k⟩, c)) : ∃ b cap, vL = .slice (some ⟨b, 0, none⟩) A.length cap ∧ A.length ≤ cap ∧ b < w.heap.size ∧
    w.cell? ⟨b, j * 6, none⟩ = some (.int .i64 n) ∧ w.cell? ⟨b, j * 6 + 1, none⟩ = some (.int .i64 i) ∧ w.cell? ⟨b, j * 6 + 2, none⟩ = some (.int .i64 s) ∧ w.cell? ⟨b, j * 6 + 3, none⟩ = some (.int .i64 a) ∧ w.cell? ⟨b, j * 6 + 4, none⟩ = some (.int .i64 k) ∧ w.cell? ⟨b, j * 6 + 5, none⟩ = some (.int .i64 c) := by
  obtain ⟨b, cap, e, h1, h2, hc⟩ := h.row.at (i := j) (l := [n, i, s, a, k, c]) (by rw [List.getElem?_map, he]; rfl)
  rw [List.length_map] at e h1
  have h0 := hc 0 _ rfl
  rw [Nat.add_zero] at h0
  exact ⟨b, cap, e, h1, h2, h0, hc 1 _ rfl, hc 2 _ rfl, hc 3 _ rfl, hc 4 _ rfl, hc 5 _ rfl⟩
theorem RIs.lenL (h : RIs w S R g now A vL) (ty : TypeId) (u : World) : (Builtin.len_ #[37] ty #[vL]).run Try.prog u = .ok (.int .i64 (A.length : Int)) u := by
  have := h.row.len Try.underlying37 ty u
  rw [List.length_map] at this; exact this

/-- the list is another one, told in a slice of its own -/
theorem RIs.setL (h : RIs w S R g now A vL) (hr : RowI w vL' 45 6 (A'.map e6)) (ho : A'.Pairwise ltA) (hk : ∀ x c, (x, c) ∈ A' → okN x ∧ 0 ≤ c ∧ c ≤ 1125899906842624) (hl : A'.length ≤ 4096) :
    RIs (w.setCell ⟨R, 0, none⟩ vL') (fun k => S k ∨ vL'.ownBlock = some k) R g now A' vL' := by
  have nR : ∀ b, vL'.ownBlock = some b → b ≠ R := fun b e c => by
    rcases hr.1.2 with ⟨d, _⟩ | ⟨b', cap, cur, d, _, hb, _⟩
    · rw [d] at e; cases e
    · rw [d] at e
      obtain rfl : b' = b := by simpa [Value.ownBlock] using e
      subst c; rw [h.blk] at hb; simp at hb
  exact ⟨blk_set h.blk 0 _, hr.kept fun b e => Below.heap_setCell _ _ _ _ (nR b e), Or.inl h.sR, fun b e => Or.inr e, ho, hk, hl, h.nw, h.gr, fun k c => by
    rw [size_set]; exact c.elim (h.lt k) (fun e => hr.lt e)⟩
theorem RIs.setN (h : RIs w S R g now A vL) (h0 : 0 ≤ now') (h1 : now' ≤ 1125899906842624) : RIs (w.setCell ⟨R, 2, none⟩ (.int .i64 now')) S R g now' A vL :=
  ⟨blk_set h.blk 2 _, h.row.kept fun b e => Below.heap_setCell _ _ _ _ (fun c => by have c : b = R := c; exact h.notR (by rw [e, c])), h.sR, h.sV, h.ord, h.ok, h.len, ⟨h0, h1⟩, h.gr, fun k c => by rw [size_set]; exact h.lt k c⟩
end

/-- what they are when something was done with them -/
def Rent (w : World) (S : Nat → Prop) (R : Nat) (g now : Int) (A : List (Nm × Int)) (w' : World) : Prop :=
  ∃ S' vL, RIs w' S' R g now A vL ∧ (∀ k, S' k → S k ∨ w.heap.size ≤ k) ∧ Fr S w w'

theorem nodup_at {A : List (Nm × Int)} (h : A.Pairwise ltA) {j : Nat} {x : Nm} {c : Int} (he : A[j]? = some (x, c)) : timA x A = some c := (tim_some h).2 (List.mem_of_getElem? he)

section
variable {w w' : World} {S : Nat → Prop} {R : Nat} {g now : Int} {A : List (Nm × Int)} {vL : Value} {n i s a k : Int}
set_option maxHeartbeats 1600000 in
set_option maxRecDepth 100000 in
theorem rtime_any (h : RIs w S R g now A vL) :
    Calls Try.prog 29 #[.pointer (some ⟨R, 0, none⟩), .agg #[.int .i64 n, .int .i64 i, .int .i64 s, .int .i64 a, .int .i64 k]] w fun e w' =>
      e = .returned (.tuple #[.int .i64 ((timA ⟨n, i, s, a, k⟩ A).getD 0), .bool (timA ⟨n, i, s, a, k⟩ A).isSome]) ∧ Kept w w' := by
  obtain ⟨W, hW⟩ : ∃ W, w.alloc (.cells #[.int .i64 n, .int .i64 i, .int .i64 s, .int .i64 a, .int .i64 k] 33) = W := ⟨_, rfl⟩
  have k0 : Kept w W := by rw [← hW]; exact Kept.one _ _
  have b0 : W.heap[w.heap.size]? = some (.cells #[.int .i64 n, .int .i64 i, .int .i64 s, .int .i64 a, .int .i64 k] 33 (0, 0)) := by rw [← hW]; exact St.blk_new _ _
  have HI := Lib.hid (h.kept k0)
  have hlenL := h.lenL
  have HW := Lib.hid hW
  have HB := Lib.hid b0
  have HK := Lib.hid k0
  have HO := Lib.hid h.ord
  have hAl := h.len
  obtain ⟨tv, htv⟩ : ∃ t, timA ⟨n, i, s, a, k⟩ A = t := ⟨_, rfl⟩
  rw [htv]
  have HT := Lib.hid htv
  clear h hW b0 k0 htv
  go_enter Try.func29, Try.ntmps29
  go_wp2_with fail
  rw [HW.out]
  go_loopw [6] (fun iv wr => ∃ j : Nat, j ≤ A.length ∧ iv = .int .i64 (j : Int) ∧ Hid (∀ m, m < j → ∀ y c, A[m]? = some (y, c) → y ≠ ⟨n, i, s, a, k⟩) ∧ Kept W wr) (fun iv _ => A.length - (intOf iv).toNat)
  case atStart => exact ⟨0, Nat.zero_le _, rfl, Lib.hid (fun m hm => by omega), Kept.refl _⟩
  case round =>
    obtain ⟨j, hj, rfl, hno, hk⟩ := hrel
    have H1 := HI.out.kept hk
    have c0 := H1.c0
    by_cases hlt : j < A.length
    · obtain ⟨⟨y, c⟩, hy⟩ : ∃ e, A[j]? = some e := ⟨_, List.getElem?_eq_getElem hlt⟩
      obtain ⟨yn, yi, ys, ya, yk⟩ := y
      obtain ⟨b, cap, hv, hcap, hbl, p0, p1, p2, p3, p4, p5⟩ := H1.at hy
      have hcap2 : (A.length : Int) ≤ (cap : Int) := by omega
      have hj0 : (0 : Int) ≤ (j : Int) := by omega
      have hjl : (j : Int) < (A.length : Int) := by omega
      have bb := (hk.block _ (blk_lt HB.out)).trans HB.out
      have x0 : wr.cell? ⟨w.heap.size, 0, none⟩ = some (.int .i64 n) := by rw [blk_cell bb]; rfl
      have x1 : wr.cell? ⟨w.heap.size, 1, none⟩ = some (.int .i64 i) := by rw [blk_cell bb]; rfl
      have x2 : wr.cell? ⟨w.heap.size, 2, none⟩ = some (.int .i64 s) := by rw [blk_cell bb]; rfl
      have x3 : wr.cell? ⟨w.heap.size, 3, none⟩ = some (.int .i64 a) := by rw [blk_cell bb]; rfl
      have x4 : wr.cell? ⟨w.heap.size, 4, none⟩ = some (.int .i64 k) := by rw [blk_cell bb]; rfl
      have HK1 := Lib.hid hk
      clear bb H1 hbl hcap hk
      subst hv
      by_cases hyx : (⟨yn, yi, ys, ya, yk⟩ : Nm) = ⟨n, i, s, a, k⟩
      · have he2 : ∀ w, (binOp .eql 33 (.agg #[.int .i64 yn, .int .i64 yi, .int .i64 ys, .int .i64 ya, .int .i64 yk]) (.agg #[.int .i64 n, .int .i64 i, .int .i64 s, .int .i64 a, .int .i64 k])).run Try.prog w = .ok (.bool true) w := fun w => by rw [eq33, decide_eq_true hyx]
        have ht : timA ⟨n, i, s, a, k⟩ A = some c := nodup_at HO.out (by rw [← hyx]; exact hy)
        rw [HT.out] at ht
        subst ht
        clear hyx hno hy
        go_wp2_with fail
        go_quiet (fail)
        go_wp2_with fail
        go_ret2
        exact ⟨rfl, (HK.out.trans HK1.out).drewN _⟩
      · have he2 : ∀ w, (binOp .eql 33 (.agg #[.int .i64 yn, .int .i64 yi, .int .i64 ys, .int .i64 ya, .int .i64 yk]) (.agg #[.int .i64 n, .int .i64 i, .int .i64 s, .int .i64 a, .int .i64 k])).run Try.prog w = .ok (.bool false) w := fun w => by rw [eq33, decide_eq_false hyx]
        have HN := Lib.hid (show ∀ m, m < j + 1 → ∀ y c, A[m]? = some (y, c) → y ≠ ⟨n, i, s, a, k⟩ from fun m hm y' c' h' => by
          by_cases e : m = j
          · subst e; rw [hy] at h'; obtain ⟨rfl, rfl⟩ := Prod.mk.inj (Option.some.inj h'); exact hyx
          · exact hno.out m (by omega) y' c' h')
        clear hyx hno hy
        go_wp2_with fail
        go_quiet (fail)
        go_wp2_with fail
        go_roundw
        case rel => exact ⟨j + 1, hlt, by go_num, HN, HK1.out.drewN _⟩
        case measure => simp [intOf]; omega
    · have hje : j = A.length := by omega
      subst hje
      have ht : timA ⟨n, i, s, a, k⟩ A = none := by
        rw [tim_none]
        intro c hm
        obtain ⟨m, hm1, hm2⟩ := List.mem_iff_getElem.1 hm
        exact hno.out m hm1 _ c (by rw [List.getElem?_eq_getElem hm1, hm2]) rfl
      rw [HT.out] at ht
      subst ht
      have HK1 := Lib.hid hk
      clear hno hlt H1 hk
      go_wp2_with fail
      go_ret2
      exact ⟨rfl, HK.out.trans HK1.out⟩
end

end Go.Proofs.Ytckmkagijanbdaa.Al
