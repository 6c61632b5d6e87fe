/- A builder that a call has made itself: a byte more; room ahead; texts joined (strings.Join). -/
import Derived.Test.YtckjdncacinnkaaDoorSbA
import Derived.Lib.MakeNoZero
import Derived.BigCall
import Derived.BigGuard
import Derived.IntWalk
import Derived.Lib.MinMax
import Derived.Deep.QuietTactic
import Derived.BigQuiet
import Derived.StillTailTactics
namespace Go.Proofs.YtckjdncacinnkaaDoor.Sb
open Go.RowKit Go.Sort Go.Shelf St
set_option linter.unusedVariables false

set_option maxRecDepth 100000 in
set_option maxHeartbeats 2000000 in
theorem byte_any (B b : Nat) (bs : List Value) (c : Int) (w : World) (h : Lib.IsBuilder 50 5 B b bs w) (hlen : bs.length + 1 ≤ 140737488355328) (hBw : B ≤ w.heap.size) :
    Calls Tryd.prog 24 #[.pointer (some ⟨b, 0, none⟩), .int .u8 c] w fun e w' => e = .returned .nilIface ∧ (Lib.IsBuilder 50 5 B b (bs ++ [.int .u8 c]) w' ∧ Below B w w') := by
  obtain ⟨i0, hi, hz0, hz1, hz2⟩ := info_parts infoByte
  have HC := Lib.hid (check_any B b bs w h)
  go_enter Tryd.func24, Tryd.ntmps24
  go_wp2_with (go_at_call 35; refine HC.out.mono ?_)
  rintro e w1 ⟨rfl, h1, hb1⟩
  obtain ⟨hB, v, hbk, hown, hne⟩ := h1
  have c0 : w1.cell? ⟨b, 0, none⟩ = some (.pointer (some ⟨b, 0, none⟩)) := by rw [blk_cell hbk]; rfl
  have c1 : w1.cell? ⟨b, 1, none⟩ = some v := by rw [blk_cell hbk]; rfl
  go_wp2_with (at_builtin; refine wpList_append_own _ rfl _ _ 48 rfl B 5 i0 (.int .u8 0) 1 1 Tryd.underlying48 hi hz0 hz1 hz2 rfl (by decide) _ _ _ rfl (hown.alloc _) ⟨w1.heap.size, 0, none⟩ 1 1 [.int .u8 c] rfl rfl ?c1 ?c2 ?c3 ?c4 ?c5 ?_)
  case c1 =>
    intro j u hj
    match j, hj with
    | 0, hj => simp at hj; subst hj; simp [Addr.add]
  case c2 => intro u hu; simp at hu; subst hu; rfl
  case c3 => unfold maxLen; omega
  case c4 => omega
  case c5 => have := hb1.size; simp; omega
  intro v' w2 hown' hgrow _
  have hlt := blk_lt hbk
  have hb2 : w2.heap[b]? = some (.cells #[.pointer (some ⟨b, 0, none⟩), v] 50 (0, 0)) := by
    rw [hgrow.block b (by simp; omega) (fun e => hne e.symm), Lib.alloc_old w1 _ b hlt]
    exact hbk
  have d0 : w2.cell? ⟨b, 0, none⟩ = some (.pointer (some ⟨b, 0, none⟩)) := by rw [blk_cell hb2]; rfl
  have d1 : w2.cell? ⟨b, 1, none⟩ = some v := by rw [blk_cell hb2]; rfl
  have f1 : w2.frozen? ⟨b, 1, none⟩ = false := blk_free hb2 1
  obtain ⟨g, cap, rfl⟩ : ∃ g cap, v' = .slice (some ⟨g, 0, none⟩) (bs.length + 1) cap := by
    rcases hown'.2 with ⟨_, h0⟩ | ⟨g, cap, cur, hv, _⟩
    · omega
    · exact ⟨g, cap, hv⟩
  go_wp2
  go_ret
  refine ⟨rfl, ?_, ?_⟩
  · exact Or.inr (Lib.BuilderAt.put (T := 50) (e := 5) hB hb2 (bs' := bs ++ [.int .u8 c]) (by simpa using hown') (by decide))
  · exact ((hb1.alloc (by have := hb1.size; omega) _).grown hgrow (by have := hb1.size; simp; omega) (fun k hk => (hown.lt k hk).1)).setCell (p := ⟨b, 1, none⟩) hB _

theorem byte_as {w0 : World} {total : List UInt8} (hT : total.length ≤ 1099511627776) {acc rest : List UInt8} (c : UInt8) {w : World} (h : At w0 total acc (c :: rest) w) :
    Calls Tryd.prog 24 #[.pointer (some ⟨w0.heap.size, 0, none⟩), .int .u8 (c.toNat : Int)] w fun e w' => e = .returned .nilIface ∧ At w0 total (acc ++ [c]) rest w' := by
  have hl : acc.length + (1 + rest.length) = total.length := by rw [← h.2.2.2]; simp; omega
  refine (byte_any _ _ _ (c.toNat : Int) w h.1 (by rw [Lib.byteCells_length]; omega) (by have := h.2.2.1; omega)).mono ?_
  rintro e w' ⟨rfl, h1, h2⟩
  refine ⟨rfl, ?_, Below.trans h.2.1 h2, Nat.le_trans h.2.2.1 (Below.size h2), by rw [List.append_assoc]; exact h.2.2.2⟩
  rw [Lib.byteCells_append]; exact h1

set_option maxRecDepth 1000000 in
set_option maxHeartbeats 2000000 in
theorem grow_fresh (B b n : Nat) (w : World) (hB : B ≤ b) (hbk : w.heap[b]? = some (.cells #[.pointer (some ⟨b, 0, none⟩), .slice none 0 0] 50 (0, 0))) (hBw : B ≤ w.heap.size) (hn : n ≤ 281474976710656) :
    Calls Tryd.prog 45 #[.pointer (some ⟨b, 0, none⟩), .int .i64 n] w fun e w' => e = .returned (.tuple #[]) ∧ (Lib.BuilderAt 50 5 B b (.pointer (some ⟨b, 0, none⟩)) [] w' ∧ Below B w w') := by
  obtain ⟨cs, hrun, hle, hmax⟩ := Lib.run_makeNoZero (P := Tryd.prog) w.drew #[3] 48 5 Tryd.underlying48 n hn
  have hw : IntKind.i64.wrap (IntKind.i64.wrap 0 + (n : Int)) = n := by
    rw [IntKind.wrap_i64, IntKind.wrap_i64]
    omega
  have hcall : (callFunc 50 #[.int .i64 (IntKind.i64.wrap (IntKind.i64.wrap 0 + (n : Int)))]).run Tryd.prog w.drew = .ok (.value (.slice (some ⟨w.drew.heap.size, 0, none⟩) n cs.size)) (w.drew.drew.drew.alloc (.cells cs 5)) := by
    rw [hw, run_callFunc_extern Tryd.func50 (by kernel_rfl) (by kernel_rfl) (by kernel_rfl) (e := Extern.BytealgMakeNoZero.makeNoZero #[3] #[48]) (by kernel_rfl), hrun]
    rfl
  have hlt := blk_lt hbk
  have c1 : w.drew.cell? ⟨b, 1, none⟩ = some (.slice none 0 0) := by
    have : w.drew.heap[b]? = _ := hbk
    rw [Lib.cell_of_heap this]; rfl
  have hb2 : (w.alloc (.cells cs 5)).heap[b]? = _ := (Lib.alloc_old w _ b hlt).trans hbk
  have c2 : (w.alloc (.cells cs 5)).cell? ⟨b, 1, none⟩ = some (.slice none 0 0) := by rw [Lib.cell_of_heap hb2]; rfl
  have f2 : (w.alloc (.cells cs 5)).frozen? ⟨b, 1, none⟩ = false := Lib.frozen_of_heap hb2 1
  have hcopy : ∀ W : World, (Builtin.copy_ #[48, 48] 3 #[.slice (some ⟨w.heap.size, 0, none⟩) 0 cs.size, .slice none 0 0]).run Tryd.prog W = .ok (goInt 0) W :=
    fun W => run_copy_none W 48 48 3 5 _ _ 0 cs.size 0 0 Tryd.underlying48 (by kernel_rfl) rfl
  have mixed : Tryd.prog.follows .mixedOrders = true := by kernel_rfl
  clear hw hb2
  go_enter Tryd.func45, Tryd.ntmps45
  go_wp2
  have hfin := Lib.grown_fresh (T := 50) (e := 5) (cs := cs) hB hbk hBw (hmax (by unfold maxLen; omega)) (by decide)
  rw [World.setCell_alloc_past _ _ _ _ hlt] at hfin
  go_region
  all_goals (go_wp2; go_end0; exact ⟨rfl, hfin⟩)

set_option maxRecDepth 1000000 in
set_option maxHeartbeats 2000000 in
theorem room_fresh (B b n : Nat) (w : World) (hB : B ≤ b) (hbk : w.heap[b]? = some (.cells #[.pointer none, .slice none 0 0] 50 (0, 0))) (hBw : B ≤ w.heap.size) (hn : n ≤ 281474976710656) :
    Calls Tryd.prog 42 #[.pointer (some ⟨b, 0, none⟩), .int .i64 n] w fun e w' => e = .returned (.tuple #[]) ∧ (Lib.BuilderAt 50 5 B b (.pointer (some ⟨b, 0, none⟩)) [] w' ∧ Below B w w') := by
  obtain ⟨W, hW⟩ : ∃ W, w.setCell ⟨b, 0, none⟩ (.pointer (some ⟨b, 0, none⟩)) = W := ⟨_, rfl⟩
  have hbk1 : W.heap[b]? = some (.cells #[.pointer (some ⟨b, 0, none⟩), .slice none 0 0] 50 (0, 0)) := by rw [← hW]; exact blk_set hbk 0 _
  have c1 : W.cell? ⟨b, 1, none⟩ = some (.slice none 0 0) := by rw [blk_cell hbk1]; rfl
  have hb1 : Below B w W := by rw [← hW]; exact (Below.refl B w).setCell (p := ⟨b, 0, none⟩) hB _
  have hBW : B ≤ W.heap.size := by rw [← hW]; simpa [World.setCell] using hBw
  have hU : Lib.BuilderAt 50 5 B b (.pointer (some ⟨b, 0, none⟩)) [] W := ⟨hB, .slice none 0 0, hbk1, World.ownsRow_nil _ _ _ _, by simp [Value.ownBlock]⟩
  have CC := Lib.hid (check_fresh b w (by rw [blk_cell hbk]; rfl) (by simp [World.shape?, hbk]) (blk_free hbk 0))
  rw [hW] at CC
  have CG := Lib.hid (fun (j : Nat) => grow_fresh B b n (W.drewN j) hB hbk1 hBW hn)
  have HU := Lib.hid (And.intro hU hb1)
  have hn0 : (0 : Int) ≤ n := by omega
  clear hbk hbk1 hW hU hb1 hBW hBw hB
  by_cases hz : n = 0
  · subst hz
    go_enter Tryd.func42, Tryd.ntmps42
    go_wp2_with (first | (go_at_call 35; refine CC.out.mono ?_; rintro e w1 ⟨rfl, rfl⟩))
    go_quiet (fail)
    go_wp2_with fail
    go_end0
    exact ⟨rfl, HU.out.1, HU.out.2.trans ⟨rfl, rfl, rfl, Nat.le_refl _, fun _ _ => rfl⟩⟩
  · have hz2 : 0 < n := by omega
    go_enter Tryd.func42, Tryd.ntmps42
    go_wp2_with (first | (go_at_call 35; refine CC.out.mono ?_; rintro e w1 ⟨rfl, rfl⟩))
    go_quiet (fail)
    go_wp2_with (first | (go_at_call 45; refine (CG.out _).mono ?_; rintro e w2 ⟨rfl, h2, h3⟩))
    go_end0
    exact ⟨rfl, h2, Below.trans (HU.out.2.trans (show Below B _ (World.drewN _ _) from ⟨rfl, rfl, rfl, Nat.le_refl _, fun _ _ => rfl⟩)) h3⟩

/-! ### texts joined -/
/-- texts, with another one between -/
def tailS (sep : List UInt8) (l : List (List UInt8)) : List UInt8 := l.flatMap fun x => sep ++ x
def joinS (sep : List UInt8) : List (List UInt8) → List UInt8
  | [] => []
  | x :: r => x ++ tailS sep r
def lst (xs : List ByteArray) : List (List UInt8) := xs.map fun x => x.data.toList
def lens (xs : List ByteArray) : Nat := (xs.map fun x => x.size).sum
theorem lens_le {xs : List ByteArray} {b : Nat} (h : ∀ x ∈ xs, x.size ≤ b) : lens xs ≤ xs.length * b := by
  induction xs with
  | nil => simp [lens]
  | cons x r ih =>
    have h1 := h x (by simp)
    have h2 := ih fun y hy => h y (List.mem_cons_of_mem _ hy)
    have h3 : lens (x :: r) = x.size + lens r := by simp [lens]
    rw [h3, List.length_cons, Nat.succ_mul]; omega
theorem lens_take {xs : List ByteArray} {i : Nat} {x : ByteArray} (h : xs[i]? = some x) : lens (xs.take (i + 1)) = lens (xs.take i) + x.size := by
  unfold lens; rw [List.take_add_one, h]; simp
theorem tail_drop {sep : List UInt8} {xs : List ByteArray} {i : Nat} {x : ByteArray} (h : xs[i]? = some x) : tailS sep (lst (xs.drop i)) = sep ++ (x.data.toList ++ tailS sep (lst (xs.drop (i + 1)))) := by
  obtain ⟨h1, h2⟩ := List.getElem?_eq_some_iff.1 h
  rw [List.drop_eq_getElem_cons h1, h2]
  simp [tailS, lst]
theorem tail_size {sep : List UInt8} {xs : List ByteArray} {b s : Nat} (hs : sep.length ≤ s) (h : ∀ x ∈ xs, x.size ≤ b) : (tailS sep (lst xs)).length ≤ xs.length * (b + s) := by
  induction xs with
  | nil => simp [tailS, lst]
  | cons x r ih =>
    have h1 := h x (by simp)
    have h2 := ih fun y hy => h y (List.mem_cons_of_mem _ hy)
    have h3 : tailS sep (lst (x :: r)) = (sep ++ x.data.toList) ++ tailS sep (lst r) := rfl
    have h4 := size_list x
    rw [h3, List.length_append, List.length_append, List.length_cons, Nat.succ_mul]; omega

set_option maxRecDepth 100000 in
set_option maxHeartbeats 4000000 in
theorem join_any {w : World} {b o c : Nat} {xs : List ByteArray} {sp D : ByteArray} (hcells : ∀ (j : Nat) x, xs[j]? = some x → w.cell? ⟨b, o + j, none⟩ = some (.string x)) (hb : b < w.heap.size) (h2 : 2 ≤ xs.length) (hN : xs.length ≤ 1000) (hc : xs.length ≤ c)
    (hs0 : 0 < sp.size) (hs : sp.size ≤ 1000) (hl : ∀ x ∈ xs, x.size ≤ 1000000) (hD : Hid (D.data.toList = joinS sp.data.toList (lst xs))) :
    Calls Tryd.prog 34 #[.slice (some ⟨b, o, none⟩) xs.length c, .string sp] w fun e w' => e = .returned (.string D) ∧ Kept w w' := by
  obtain ⟨x0, r, rfl⟩ : ∃ x0 r, xs = x0 :: r := by
    cases xs with
    | nil => simp at h2
    | cons a t => exact ⟨a, t, rfl⟩
  obtain ⟨K, hK⟩ : ∃ K, r.length = K := ⟨_, rfl⟩
  obtain ⟨N, hNN⟩ : ∃ N, (x0 :: r).length = N := ⟨_, rfl⟩
  have hNK : N = K + 1 := by rw [← hNN, ← hK]; rfl
  obtain ⟨S, hS⟩ : ∃ S, sp.size = S := ⟨_, rfl⟩
  obtain ⟨M, hM⟩ : ∃ M, S * K = M := ⟨_, rfl⟩
  obtain ⟨T, hT⟩ : ∃ T, joinS sp.data.toList (lst (x0 :: r)) = T := ⟨_, rfl⟩
  rw [hNN] at h2 hN hc ⊢
  rw [hS] at hs hs0
  rw [hT] at hD
  have hK1 : 1 ≤ K := by omega
  have hK9 : K ≤ 999 := by omega
  have hM9 : M ≤ 1000 * 999 := by rw [← hM]; exact Nat.mul_le_mul hs hK9
  have e1 : (N : Int) - 1 = (K : Int) := by omega
  have hq : ¬ (9223372036854775807 / (K : Int) ≤ (S : Int)) := by
    have : (S : Int) + 1 ≤ 9223372036854775807 / (K : Int) := by
      rw [Int.le_ediv_iff_mul_le (by omega)]
      have h3 : (S + 1) * K ≤ 1001 * 999 := Nat.mul_le_mul (by omega) hK9
      have h4 : ((S : Int) + 1) * (K : Int) = (((S + 1) * K : Nat) : Int) := by simp
      rw [h4]; omega
    omega
  have e2 : wrap64 ((S : Int) * (K : Int)) = (M : Int) := by
    have e : (S : Int) * (K : Int) = ((S * K : Nat) : Int) := by simp
    rw [e, hM]
    exact IntWalk.wrap64_in _ ⟨by omega, by omega⟩
  have hTl : T.length ≤ 1099511627776 := by
    have h3 := tail_size (sep := sp.data.toList) (s := 1000) (xs := r) (b := 1000000) (by rw [← size_list, hS]; exact hs) (fun x hx => hl x (List.mem_cons_of_mem _ hx))
    have h4 : T = x0.data.toList ++ tailS sp.data.toList (lst r) := hT.symm
    have h5 := hl x0 (by simp)
    rw [size_list] at h5
    rw [h4, List.length_append]
    have h6 : r.length * (1000000 + 1000) ≤ 999 * (1000000 + 1000) := Nat.mul_le_mul_right _ (by omega)
    omega
  have hne0 : ((N : Int) == 0) = false := beq_eq_false_iff_ne.2 (by omega)
  have hne1 : ((N : Int) == 1) = false := beq_eq_false_iff_ne.2 (by omega)
  have HC := Lib.hid hcells
  have HL := Lib.hid hl
  have HK := Lib.hid (And.intro hK hNN)
  have HT := Lib.hid (show T = x0.data.toList ++ tailS sp.data.toList (lst (r.drop 0)) from hT.symm)
  have HTl := Lib.hid hTl
  have HNK := Lib.hid hNK
  clear hcells hl hK hNN hT hM hTl hNK
  go_enter Tryd.func34, Tryd.ntmps34
  go_wp2_with fail
  go_loop [5, 41] (fun n y => ∃ k : Nat, k ≤ N ∧ y = .int .i64 (k : Int) ∧ n = .int .i64 ((M : Int) + (lens ((x0 :: r).take k) : Int))) (fun _ y => N - (intOf y).toNat)
  case atStart => exact ⟨0, Nat.zero_le _, rfl, by simp [lens]⟩
  case round =>
    obtain ⟨k, hk, rfl, rfl⟩ := hrel
    obtain ⟨A, hA⟩ : ∃ A, lens ((x0 :: r).take k) = A := ⟨_, rfl⟩
    have hA9 : A ≤ 1000 * 1000000 := by
      rw [← hA]
      refine Nat.le_trans (lens_le (b := 1000000) fun x hx => HL.out x (List.mem_of_mem_take hx)) (Nat.mul_le_mul_right _ ?_)
      rw [List.length_take]; omega
    rw [hA]
    by_cases hlt : k < N
    · obtain ⟨x, hx⟩ : ∃ x, (x0 :: r)[k]? = some x := ⟨_, List.getElem?_eq_getElem (by rw [HK.out.2]; exact hlt)⟩
      have c0 := HC.out k x hx
      have hx9 := HL.out x (List.mem_of_getElem? hx)
      have HA := Lib.hid (show lens ((x0 :: r).take (k + 1)) = A + x.size by rw [lens_take hx, hA])
      have hk1 : (k : Int) < (N : Int) := by omega
      clear hx hA
      go_wp2
      exact ⟨⟨k + 1, by omega, by go_num, by rw [HA.out]; refine congrArg _ ?_; omega⟩, by simp [intOf]; omega⟩
    · obtain rfl : k = N := by omega
      clear hA
      go_wp2_with fail
      rw [show ((M : Int) + (A : Int)) = ((M + A : Nat) : Int) by omega]
      refine (room_fresh w.heap.size w.heap.size (M + A) _ (Nat.le_refl _) (blk_new w _) (by simp) (by omega)).mono ?_
      rintro e w1 ⟨rfl, h1, hb1⟩
      have kw1 : Kept w w1 := (show Below w.heap.size w _ from Kept.one w _).trans hb1
      have ha1 : At w T [] (x0.data.toList ++ tailS sp.data.toList (lst (r.drop 0))) w1 := ⟨Or.inr h1, kw1, by have := hb1.size; simpa using this, HT.out.symm⟩
      have c0 : w1.cell? ⟨b, o, none⟩ = some (.string x0) := (kw1.cell (p := ⟨b, o, none⟩) hb).trans (HC.out 0 x0 rfl)
      have HA1 := Lib.hid ha1
      clear h1 hb1 ha1 kw1
      go_wp2_with (first | (go_at_call 23; refine (write_as HTl.out x0 HA1.out).mono ?_; rintro e w2 ⟨rfl, h2'⟩))
      have HA2 := Lib.hid h2'
      clear h2'
      go_loopw [65] (fun y wr => ∃ i : Nat, i ≤ K ∧ y = .int .i64 (i : Int) ∧ Hid (∃ acc, At w T acc (tailS sp.data.toList (lst (r.drop i))) wr)) (fun y _ => K - (intOf y).toNat)
      case atStart => exact ⟨0, Nat.zero_le _, rfl, Lib.hid ⟨_, HA2.out⟩⟩
      case round =>
        obtain ⟨i, hi, rfl, hrl⟩ := hrel
        obtain ⟨acc, hacc⟩ := hrl.out
        by_cases hlt : i < K
        · obtain ⟨y, hy⟩ : ∃ y, r[i]? = some y := ⟨_, List.getElem?_eq_getElem (by rw [HK.out.1]; exact hlt)⟩
          have c1 : wr.cell? ⟨b, o + 1 + i, none⟩ = some (.string y) := (hacc.kept.cell (p := ⟨b, o + 1 + i, none⟩) hb).trans (by rw [show o + 1 + i = o + (i + 1) by omega]; exact HC.out (i + 1) y (by simpa using hy))
          rw [tail_drop hy] at hacc
          have HA3 := Lib.hid hacc
          have hi1 : (i : Int) < (K : Int) := by omega
          clear hacc hy
          go_wp2_with fail
          refine (write_as HTl.out sp HA3.out).mono ?_
          rintro e w3 ⟨rfl, h3⟩
          have HA4 := Lib.hid h3
          clear h3
          go_wp2_with fail
          refine (write_as HTl.out y HA4.out).mono ?_
          rintro e w4 ⟨rfl, h4⟩
          have HA5 := Lib.hid h4
          clear h4
          go_wp2_with fail
          exact ⟨⟨i + 1, hlt, by go_num, Lib.hid ⟨_, HA5.out⟩⟩, by simp [intOf]; omega⟩
        · obtain rfl : i = K := by omega
          have hd : r.drop i = [] := List.drop_eq_nil_of_le (by rw [HK.out.1]; exact Nat.le_refl _)
          rw [hd] at hacc
          have HA3 := Lib.hid hacc
          clear hacc
          go_wp2_with (first | (go_at_call 25; refine (string_as hD HA3.out).mono ?_; rintro e w3 ⟨rfl, hk3⟩))
          go_ret
          exact ⟨rfl, hk3⟩

end Go.Proofs.YtckjdncacinnkaaDoor.Sb
