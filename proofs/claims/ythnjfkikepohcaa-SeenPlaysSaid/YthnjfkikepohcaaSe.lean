/- What was seen, in memory; contracts of package seen: made, forget, Has, Len. -/
import Derived.Test.YthnjfkikepohcaaKm
import Derived.Test.YthnjfkikepohcaaFr
import Derived.Test.YthnjfkikepohcaaTk
import Derived.Deep.QuietTactic
import Derived.LaidEqlPtr
namespace Go.Proofs.Ythnjfkikepohcaa.Se
open Go.RowKit Go.Sort Tk IdM Go.Maps
open St (Kept blk_cell blk_free blk_lt blk_set)
open Wh (Fr Mine)
set_option linter.unusedVariables false

/-- the blocks that it has -/
def SB (B M : Nat) (k : Nat) : Prop := k = B ∨ k = M
/-- WHAT WAS SEEN in block B, its map in block M: s -/
structure Seen (w : World) (B M : Nat) (s : Its) : Prop where
  blk : w.heap[B]? = some (.cells #[.pointer (some ⟨B, 0, none⟩), .map (some M)] 46 (0, 0))
  map : Holds w M s
  rt : Right s

theorem eq_self (a : Addr) (w : World) : (binOp .eql 23 (.pointer (some a)) (.pointer (some a))).run Try.prog w = .ok (.bool true) w := by
  obtain ⟨j, hj, _⟩ := Option.map_eq_some_iff.1 (show (Try.prog.info? 46).map (·.size) = some 2 by kernel_rfl)
  exact run_eql_ptr_same w a Try.underlying23 hj

section
variable {w w' : World} {S : Nat → Prop} {B M : Nat} {s s' : Its}
theorem Seen.ltB (h : Seen w B M s) : B < w.heap.size := blk_lt h.blk
theorem Seen.ltM (h : Seen w B M s) : M < w.heap.size := h.map.lt
theorem Seen.lt (h : Seen w B M s) (k : Nat) (hk : SB B M k) : k < w.heap.size := hk.elim (fun e => e ▸ h.ltB) (fun e => e ▸ h.ltM)
theorem Seen.c0 (h : Seen w B M s) : w.cell? ⟨B, 0, none⟩ = some (.pointer (some ⟨B, 0, none⟩)) := by rw [blk_cell h.blk]; rfl
theorem Seen.c1 (h : Seen w B M s) : w.cell? ⟨B, 1, none⟩ = some (.map (some M)) := by rw [blk_cell h.blk]; rfl
theorem Seen.ne (h : Seen w B M s) : B ≠ M := by
  obtain ⟨es, c, hm⟩ := h.map.is
  intro e; subst e; rw [h.blk] at hm; cases hm
theorem Seen.stay (h : Seen w B M s) (hk : ∀ k, SB B M k → w'.heap[k]? = w.heap[k]?) : Seen w' B M s :=
  ⟨(hk B (.inl rfl)).trans h.blk, h.map.kept (hk M (.inr rfl)), h.rt⟩
theorem Seen.kept (h : Seen w B M s) (hk : Kept w w') : Seen w' B M s := h.stay fun k c => hk.block k (h.lt k c)
theorem Seen.fr (h : Seen w B M s) (hk : Fr S w w') (hn : ∀ k, SB B M k → ¬ S k) : Seen w' B M s := h.stay fun k c => hk.block k (h.lt k c) (hn k c)
/-- its map is another one -/
theorem Seen.turn (h : Seen w B M s) (hk : Fr (fun k => k = M) w w') (hm : Holds w' M s') (hr : Right s') : Seen w' B M s' := ⟨(hk.block B h.ltB h.ne).trans h.blk, hm, hr⟩
theorem fr_sb {a : World} (B : Nat) (h : Fr (fun k => k = M) a w) : Fr (SB B M) a w := h.mono fun k c => .inl (.inr c)

set_option maxHeartbeats 400000 in
theorem made_any (h : Seen w B M s) : Calls Try.prog 15 #[.pointer (some ⟨B, 0, none⟩)] w fun e w' => e = .returned (.bool true) ∧ w = w' := by
  have c0 := h.c0
  have he := eq_self ⟨B, 0, none⟩ w
  clear h
  go_enter Try.func15, Try.ntmps15
  go_wp2
  go_ret
  exact ⟨rfl, rfl⟩

set_option maxHeartbeats 400000 in
theorem made_nil (w : World) : Calls Try.prog 15 #[.pointer none] w fun e w' => e = .returned (.bool false) ∧ w = w' := by
  go_enter Try.func15, Try.ntmps15
  go_wp2
  go_ret
  exact ⟨rfl, rfl⟩

set_option maxHeartbeats 400000 in
theorem len_any (h : Seen w B M s) : Calls Try.prog 12 #[.pointer (some ⟨B, 0, none⟩)] w fun e w' => e = .returned (.int .i64 (s.length : Int)) ∧ w = w' := by
  have c1 := h.c1
  have C := Lib.hid (made_any h)
  have hl := fun ty => h.map.len Try.underlying44 ty
  clear h
  go_enter Try.func12, Try.ntmps12
  go_wp2_with (go_at_call 15; refine C.out.mono ?_; rintro e w' ⟨rfl, rfl⟩)
  go_ret
  exact ⟨rfl, rfl⟩

set_option maxHeartbeats 400000 in
theorem len_nil (w : World) : Calls Try.prog 12 #[.pointer none] w fun e w' => e = .returned (.int .i64 0) ∧ w = w' := by
  have C := Lib.hid (made_nil w)
  go_enter Try.func12, Try.ntmps12
  go_wp2_with (go_at_call 15; refine C.out.mono ?_; rintro e w' ⟨rfl, rfl⟩)
  go_ret
  exact ⟨rfl, rfl⟩

set_option maxHeartbeats 800000 in
set_option maxRecDepth 100000 in
theorem has_any (h : Seen w B M s) {n i q a : Int} (hx : okK ⟨n, i, q, a⟩) :
    Calls Try.prog 10 #[.pointer (some ⟨B, 0, none⟩), .agg #[.int .i64 n, .int .i64 i, .int .i64 q, .int .i64 a]] w fun e w' => e = .returned (.bool (hasK ⟨n, i, q, a⟩ s)) ∧ Kept w w' := by
  obtain ⟨W, hW⟩ : ∃ W, w.alloc (.cells #[.int .i64 n, .int .i64 i, .int .i64 q, .int .i64 a] 32) = W := ⟨_, rfl⟩
  have k1 : Kept w W := by rw [← hW]; exact Kept.one _ _
  have h1 := h.kept k1
  have C := Lib.hid (made_any h1)
  have c1 := h1.c1
  obtain ⟨c, hl⟩ := h1.map.look Try.underlying44 hx
  obtain ⟨p, hp⟩ : ∃ p, hasK ⟨n, i, q, a⟩ s = p := ⟨_, rfl⟩
  rw [hp] at hl ⊢
  unfold kv at hl
  simp only at hl
  have hl1 := hl W.drew rfl
  have b0 : ∀ o, W.cell? ⟨w.heap.size, o, none⟩ = (#[.int .i64 n, .int .i64 i, .int .i64 q, .int .i64 a] : Array Value)[o]? := fun o => by rw [← hW]; exact blk_cell (St.blk_new _ _) o
  have x0 := b0 0
  have x1 := b0 1
  have x2 := b0 2
  have x3 := b0 3
  simp at x0 x1 x2 x3
  have HW := Lib.hid hW
  have HK := Lib.hid k1
  clear h h1 hl hp b0 k1 hW hx
  go_enter Try.func10, Try.ntmps10
  go_wp2_with fail
  rw [HW.out]
  go_wp2_with (go_at_call 15; refine C.out.mono ?_; rintro e w' ⟨rfl, rfl⟩)
  go_region
  all_goals
    go_wp2_with fail
    go_ret
    exact ⟨rfl, by first | exact HK.out.drew | exact HK.out.drew.more _ | exact (HK.out.more _).drew⟩

set_option maxHeartbeats 400000 in
theorem has_nil (w : World) (n i q a : Int) :
    Calls Try.prog 10 #[.pointer none, .agg #[.int .i64 n, .int .i64 i, .int .i64 q, .int .i64 a]] w fun e w' => e = .returned (.bool true) ∧ Kept w w' := by
  have C := Lib.hid (fun w => made_nil w)
  go_enter Try.func10, Try.ntmps10
  go_wp2_with (go_at_call 15; refine (C.out _).mono ?_; rintro e w' ⟨rfl, rfl⟩)
  go_ret
  exact ⟨rfl, Kept.one _ _⟩

set_option maxHeartbeats 1600000 in
set_option maxRecDepth 100000 in
theorem forget_any (h : Seen w B M s) (t : Int) :
    Calls Try.prog 17 #[.pointer (some ⟨B, 0, none⟩), .int .i64 t] w fun e w' => e = .returned (.tuple #[]) ∧ Seen w' B M (live t s) ∧ Fr (SB B M) w w' := by
  have c1 := h.c1
  obtain ⟨D0, hown0, hrd0⟩ := h.map
  have HH := Lib.hid h
  have R0 : Reads D0 (cur t s fun x => Maps.has D0 (kl x)) := by
    have : (cur t s fun x => Maps.has D0 (kl x)) = s := List.filter_eq_self.2 fun e he => by
      obtain ⟨y, c⟩ := e
      show (decide (t < c) || Maps.has D0 (kl y)) = true
      rw [(hrd0.2 y (h.rt.ok y c he).1).1, has_iff.2 ⟨c, he⟩, Bool.or_true]
    rw [this]; exact hrd0
  have HR0 := Lib.hid R0
  have hM := h.ltM
  have hB := h.ltB
  clear h R0 hrd0
  go_enter Try.func17, Try.ntmps17
  go_wp2_with (first | (at_range; refine wpList_range_own _ rfl _ 44 rfl 32 3 law_K Try.underlying44 _ M _ D0 rfl hown0 ?_; intro w0 hrg0 hg0 hs0) | go_in)
  go_frame
  go_loopw [5] (fun _ wr => ∃ (left : Lit → Bool) (cnt : Nat) (D : DataW Unit), Hid (wr.ranges Try.prog 32 elK M w.heap.size s.length D left cnt) ∧ Hid (Reads D (cur t s fun x => left (kl x))) ∧ Hid (Fr (fun k => k = M) w wr)) (fun _ wr => wr.rangeLeft M w.heap.size)
  case atStart => exact ⟨_, _, _, Lib.hid hrg0, HR0, Lib.hid ((Fr.refl _ _).grown hg0 (fun k e => by cases e))⟩
  case round =>
    obtain ⟨left, cnt, D, hrg, hrd, hfr⟩ := hrel
    have cB : wr.cell? ⟨B, 1, none⟩ = some (.map (some M)) := hfr.out.cell c1 HH.out.ne
    go_wp2_with (first
      | (at_next; refine wpList_next_ranges _ rfl _ rfl 32 law_K elK id id (fun key kl hk => ⟨key, rfl⟩) (fun v _ _ => ⟨v, rfl⟩) M w.heap.size _ _ _ _ rfl hrg.out ?_ ?_)
      | go_in)
    · intro hc0 hl0
      go_wp2
      go_end0
      have hcur : (cur t s fun x => left (kl x)) = live t s := cur_end fun k c _ => hl0 (kl k)
      have hrd := hrd.out
      rw [hcur] at hrd
      exact ⟨rfl, HH.out.turn hfr.out (.of hrg.out.owns hrd) (HH.out.rt.live t), fr_sb B hfr.out⟩
    · intro key v klx yd yp w2 cnt2 hkey hlk hv hat hrg2 hlt hg2 hs2 hen
      obtain ⟨x, c, rfl, hox, rfl, rfl, hmem, hc⟩ := next_is hrd.out hkey hv hat
      obtain ⟨n, i, q, a⟩ := x
      obtain ⟨lf, hlf⟩ : ∃ lf : Lit → Bool, (fun z => left z && !z.sameKey (kl ⟨n, i, q, a⟩)) = lf := ⟨_, rfl⟩
      have hlf2 : lf (kl ⟨n, i, q, a⟩) = false := by rw [← hlf]; simp [same_yes]
      have hlfo : ∀ y d, (y, d) ∈ s → y ≠ ⟨n, i, q, a⟩ → lf (kl y) = left (kl y) := fun y d m hy => by
        rw [← hlf]
        simp [same_no (fun e => hy (kl_inj (HH.out.rt.ok y d m).1 hox e))]
      rw [hlf] at hrg2
      have hst : (fun z => lf z && !z.sameKey (kl ⟨n, i, q, a⟩)) = lf := by rw [← hlf]; exact strike_twice _ _
      have HX := Lib.hid (And.intro hlf2 (And.intro hlfo hst))
      obtain ⟨w3, hw3, k3⟩ : ∃ w3, (w2.alloc (.cells #[.int .i64 n, .int .i64 i, .int .i64 q, .int .i64 a] 32)) = w3 ∧ Kept w2 w3 := ⟨_, rfl, Kept.one _ _⟩
      have hrg3 : w3.ranges Try.prog 32 elK M w.heap.size s.length D lf cnt2 := by rw [← hw3]; exact hrg2.alloc _
      have f3 : Fr (fun k => k = M) w w3 := (hfr.out.grown hg2 (fun k e => by cases e; exact .inr (Nat.le_refl _))).then_kept k3
      have cB3 : w3.cell? ⟨B, 1, none⟩ = some (.map (some M)) := f3.cell c1 HH.out.ne
      have b0 : ∀ o, w3.cell? ⟨w2.heap.size, o, none⟩ = (#[.int .i64 n, .int .i64 i, .int .i64 q, .int .i64 a] : Array Value)[o]? := fun o => by rw [← hw3]; exact blk_cell (St.blk_new _ _) o
      have x0 := b0 0
      have x1 := b0 1
      have x2 := b0 2
      have x3 := b0 3
      simp at x0 x1 x2 x3
      obtain ⟨w4, cnt4, r4, hrg4, hle4, ht4⟩ := (show w3.drew.ranges Try.prog 32 elK M w.heap.size s.length D lf cnt2 from hrg3).drop law_K Try.underlying44 hkey 0
      rw [HX.out.2.2] at hrg4
      unfold kv at hen r4 ⊢
      simp only at hen r4 ⊢
      replace r4 : (Builtin.delete_ #[44, 32] 0 #[.map (some M), .agg #[.int .i64 n, .int .i64 i, .int .i64 q, .int .i64 a]]).run Try.prog w3.drew = .ok (.tuple #[]) w4 := r4
      have HW3 := Lib.hid hw3
      have ML := Lib.hid hrg.out.left_eq
      have M4 := Lib.hid (show w4.rangeLeft M w.heap.size < cnt by rw [hrg4.left_eq]; omega)
      have M3 := Lib.hid (show w3.rangeLeft M w.heap.size < cnt by rw [hrg3.left_eq]; omega)
      have HRG4 := Lib.hid hrg4
      have HRG3 := Lib.hid hrg3
      have HF3 := Lib.hid f3
      have HF4 := Lib.hid ((f3.drew).turned ht4 (.inl rfl))
      by_cases hct : c ≤ t
      · have hrd4 := hrd.out.del (hrg.out.owns.tidy law_K) (HH.out.rt.nd.filter _) hox
        rw [cur_strike HH.out.rt.nd hmem hct (lf2 := fun y => lf (kl y)) HX.out.1 HX.out.2.1] at hrd4
        have HRD := Lib.hid hrd4
        clear hrd4 hrg4 hrg3 hrg2 hlf hlf2 hlfo hst hat hv hkey hmem hw3 ht4 f3 k3 b0 hlk hox hg2 hs2 hlt hle4
        go_wp2_with fail
        rw [HW3.out]
        go_wp2_with fail
        go_region
        all_goals
          go_roundw
          case rel => exact ⟨_, _, _, _, _, _, _, _, _, _, _, _, _, _, _, ⟨lf, cnt4, D.del (kl ⟨n, i, q, a⟩), HRG4, HRD, HF4⟩, rfl⟩
          case measure => rw [ML.out]; exact M4.out
      · have HRD : Hid (Reads D (cur t s fun x => lf (kl x))) := Lib.hid (by
          rw [← cur_stays HH.out.rt.nd hmem (by omega) HX.out.2.1]; exact hrd.out)
        clear hrg4 hrg3 hrg2 hlf hlf2 hlfo hst hat hv hkey hmem hw3 ht4 f3 k3 b0 hlk hox hg2 hs2 hlt hle4 r4
        go_wp2_with fail
        rw [HW3.out]
        go_roundw
        case rel => exact ⟨lf, cnt2, D, HRG3, HRD, HF3⟩
        case measure => rw [ML.out]; exact M3.out
end

end Go.Proofs.Ythnjfkikepohcaa.Se
