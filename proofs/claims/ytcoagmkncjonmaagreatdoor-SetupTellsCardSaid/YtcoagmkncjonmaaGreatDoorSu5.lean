/- Package setup: numbers. Package setup: a reader in memory; a setting that is read. Package setup: a reader reads a setting. Package setup: a reader reads a setting, or a program. Package setup: a reader reads a program, or a line. Package setup: a reader reads a line. -/
import Derived.Test.YtcoagmkncjonmaaGreatDoorSuM
import Derived.Test.YtcoagmkncjonmaaGreatDoorPg7
import Derived.Laws.RangeString
import Derived.LoopTactic
import Derived.Test.YtcoagmkncjonmaaGreatDoorSu3
import Derived.Test.YtcoagmkncjonmaaGreatDoorShelf
import Derived.Shelf.Abstract
import Derived.Deep.DeepCutAuto
import Derived.Test.YtcoagmkncjonmaaGreatDoorPg10
namespace Go.Proofs.YtcoagmkncjonmaaGreatDoor.Su
open Go.RowKit Go.Sort St
set_option linter.unusedVariables false
set_option linter.unusedSimpArgs false

/-- what digits come to -/
def dval (l : List UInt8) : Nat := l.foldl (fun a c => a * 10 + (c.toNat - 48)) 0
theorem dval_snoc (l : List UInt8) (c : UInt8) : dval (l ++ [c]) = dval l * 10 + (c.toNat - 48) := by unfold dval; rw [List.foldl_append]; rfl
theorem dval_app (l m : List UInt8) : dval l ≤ dval (l ++ m) := by
  induction m generalizing l with
  | nil => rw [List.append_nil]; exact Nat.le_refl _
  | cons c m ih =>
    have h1 := ih (l ++ [c])
    rw [List.append_assoc] at h1
    have h2 := dval_snoc l c
    have h3 : dval (l ++ [c]) ≤ dval (l ++ c :: m) := h1
    omega
theorem dval_take (l : List UInt8) (k : Nat) : dval (l.take k) ≤ dval l := by
  have := dval_app (l.take k) (l.drop k)
  rwa [List.take_append_drop] at this
theorem dig_nat (d : Nat) (h : d < 10) : (UInt8.ofNat (48 + d)).toNat = 48 + d := by
  have : (UInt8.ofNat (48 + d)).toNat = (48 + d) % 256 := rfl
  omega
theorem dval_dec (u : Nat) : dval (Lib.decDigits u) = u := by
  induction u using Nat.strongRecOn with
  | _ u ih =>
    by_cases h : u < 10
    · rw [IdM.dec_small h]
      show 0 * 10 + ((UInt8.ofNat (48 + u)).toNat - 48) = u
      rw [dig_nat u h]; omega
    · rw [IdM.dec_big h, dval_snoc, ih (u / 10) (by omega), dig_nat _ (by omega)]; omega
theorem dec_len (k : Nat) : ∀ u, u < 10 ^ (k + 1) → (Lib.decDigits u).length ≤ k + 1 := by
  induction k with
  | zero => intro u h; rw [IdM.dec_small (by simpa using h)]; simp
  | succ k ih =>
    intro u h
    by_cases h10 : u < 10
    · rw [IdM.dec_small h10]; simp
    · rw [IdM.dec_big h10, List.length_append]
      have := ih (u / 10) (by rw [Nat.pow_succ] at h; omega)
      simp only [List.length_cons, List.length_nil]; omega
theorem dec_head (u : Nat) : ∀ (c : UInt8) (r : List UInt8), Lib.decDigits u = c :: r → 10 ≤ u → c ≠ 48 := by
  induction u using Nat.strongRecOn with
  | _ u ih =>
    intro c r e h
    rw [IdM.dec_big (by omega)] at e
    by_cases h10 : u / 10 < 10
    · rw [IdM.dec_small h10] at e
      injection e with e _
      intro e2
      rw [e2] at e
      have := congrArg UInt8.toNat e
      rw [dig_nat _ h10] at this
      have h48 : (48 : UInt8).toNat = 48 := rfl
      omega
    · cases hd : Lib.decDigits (u / 10) with
      | nil => exact absurd hd (IdM.dec_ne _)
      | cons c2 r2 =>
        rw [hd] at e
        injection e with e _
        subst e
        exact ih (u / 10) (by omega) _ _ hd (by omega)

set_option maxHeartbeats 1000000 in
theorem number_any (n : Nat) (hn : n ≤ 9999999) (s : ByteArray) (hs : s.data.toList = Lib.decDigits n) (w : World) :
    Calls Tryz.prog 67 #[.string s] w fun e w' => e = .returned (.tuple #[.int .i64 (n : Int), .bool true]) ∧ Kept w w' := by
  have hsz : s.size ≤ 7 := by rw [size_list, hs]; exact dec_len 6 n (by omega)
  have hne : s.toList.isEmpty = false := by rw [ByteArray.toList_eq, hs]; exact List.isEmpty_eq_false_iff.2 (IdM.dec_ne n)
  have hne2 : ¬ s.toList = [] := by rw [ByteArray.toList_eq, hs]; exact IdM.dec_ne n
  have h0 : 0 < s.size := by rw [size_list]; have := List.length_pos_iff.2 hne2; rw [ByteArray.toList_eq] at this; exact this
  have hdig : ∀ j, j < s.size → 48 ≤ (s.data.toList.getD j 0).toNat ∧ (s.data.toList.getD j 0).toNat ≤ 57 := fun j hj => by
    rw [hs]
    have hl : j < (Lib.decDigits n).length := by rw [← hs, ← size_list]; exact hj
    have := IdM.dec_digits n _ (List.getElem_mem hl)
    rw [List.getD_eq_getElem?_getD, List.getElem?_eq_getElem hl]
    unfold IdM.digit at this
    exact this
  have HS := Lib.hid hs
  have HD := Lib.hid hdig
  have hc48 : 1 < s.size → (((s[0]'h0).toNat : Int) == 48) = false := fun h => beq_eq_false_iff_ne.2 fun e => by
    have h10 : 10 ≤ n := by
      rcases Nat.lt_or_ge n 10 with h2 | h2
      · rw [size_list, hs, IdM.dec_small h2] at h; simp at h
      · exact h2
    cases hd : Lib.decDigits n with
    | nil => exact IdM.dec_ne n hd
    | cons x r =>
      have h2 := dec_head n x r hd h10
      rw [get_byte s 0 h0, hs, hd] at e
      apply h2
      have h4 : x.toNat = 48 := by
        have h3 : (x.toNat : Int) = 48 := e
        omega
      exact UInt8.toNat_inj.1 h4
  have hv := dval_dec n
  have HV := Lib.hid hv
  have h7 : ¬ 7 < (s.size : Int) := by omega
  have HH := Lib.hid h0
  clear hs hdig hv hne2
  by_cases h1 : 1 < s.size
  · have hcc := hc48 h1
    have h1I : 1 < (s.size : Int) := by omega
    clear hc48
    go_enter Tryz.func67, Tryz.ntmps67
    go_wp2_with fail
    clear hcc
    go_loopw [4] (fun v wr => ∃ pos : Nat, pos ≤ s.size ∧ v = .int .i64 (dval (s.data.toList.take pos) : Int) ∧ wr = w.iter s pos) (fun _ wr => s.size - wr.iterPos w.heap.size)
    case atStart => exact ⟨0, Nat.zero_le _, rfl, rfl⟩
    case round =>
      obtain ⟨pos, hp, rfl, rfl⟩ := hrel
      by_cases hlt : pos < s.size
      · have hd := HD.out pos hlt
        rw [← get_byte s pos hlt] at hd
        have hnx := fun ty => run_next_ascii (P := Tryz.prog) w s pos ty hlt (by omega)
        obtain ⟨d, hdd⟩ : ∃ d : Nat, (s[pos]'hlt).toNat = d := ⟨_, rfl⟩
        rw [hdd] at hd
        simp only [hdd] at hnx
        have hd1 : (48 : Int) ≤ (d : Int) := by omega
        have hd2 : (d : Int) ≤ 57 := by omega
        obtain ⟨V, hV⟩ : ∃ V, dval (s.data.toList.take pos) = V := ⟨_, rfl⟩
        have hVn : V ≤ 9999999 := by
          have h1 := dval_take s.data.toList pos
          rw [hV, HS.out, HV.out] at h1
          omega
        have HN := Lib.hid (show dval (s.data.toList.take (pos + 1)) = V * 10 + (d - 48) by
          have hl : pos < s.data.toList.length := by rw [← size_list]; exact hlt
          rw [List.take_succ_eq_append_getElem hl, dval_snoc, hV]
          have h2 := get_byte s pos hlt
          rw [hdd, List.getD_eq_getElem?_getD, List.getElem?_eq_getElem hl] at h2
          simp only [Option.getD_some] at h2
          rw [← h2])
        rw [hV]
        clear hdd hd hV
        go_wp2_with fail
        go_roundw
        case rel => exact ⟨pos + 1, hlt, by rw [HN.out]; go_num, rfl⟩
        case measure => simp; omega
      · have hnx := fun ty => run_next_end (P := Tryz.prog) w s pos ty hlt
        have hpe : pos = s.size := by omega
        have HN := Lib.hid (show dval (s.data.toList.take pos) = n by rw [hpe, size_list, List.take_length, HS.out, HV.out])
        obtain ⟨V, hV⟩ : ∃ V, dval (s.data.toList.take pos) = V := ⟨_, rfl⟩
        rw [hV] at HN ⊢
        have HN2 := HN.out
        subst HN2
        clear hV hpe HN
        go_wp2_with fail
        go_ret2
        exact ⟨rfl, (Kept.one w _)⟩
  · have h1I : ¬ 1 < (s.size : Int) := by omega
    clear hc48
    go_enter Tryz.func67, Tryz.ntmps67
    go_wp2_with fail
    go_loopw [4] (fun v wr => ∃ pos : Nat, pos ≤ s.size ∧ v = .int .i64 (dval (s.data.toList.take pos) : Int) ∧ wr = w.iter s pos) (fun _ wr => s.size - wr.iterPos w.heap.size)
    case atStart => exact ⟨0, Nat.zero_le _, rfl, rfl⟩
    case round =>
      obtain ⟨pos, hp, rfl, rfl⟩ := hrel
      by_cases hlt : pos < s.size
      · have hd := HD.out pos hlt
        rw [← get_byte s pos hlt] at hd
        have hnx := fun ty => run_next_ascii (P := Tryz.prog) w s pos ty hlt (by omega)
        obtain ⟨d, hdd⟩ : ∃ d : Nat, (s[pos]'hlt).toNat = d := ⟨_, rfl⟩
        rw [hdd] at hd
        simp only [hdd] at hnx
        have hd1 : (48 : Int) ≤ (d : Int) := by omega
        have hd2 : (d : Int) ≤ 57 := by omega
        obtain ⟨V, hV⟩ : ∃ V, dval (s.data.toList.take pos) = V := ⟨_, rfl⟩
        have hVn : V ≤ 9999999 := by
          have h1 := dval_take s.data.toList pos
          rw [hV, HS.out, HV.out] at h1
          omega
        have HN := Lib.hid (show dval (s.data.toList.take (pos + 1)) = V * 10 + (d - 48) by
          have hl : pos < s.data.toList.length := by rw [← size_list]; exact hlt
          rw [List.take_succ_eq_append_getElem hl, dval_snoc, hV]
          have h2 := get_byte s pos hlt
          rw [hdd, List.getD_eq_getElem?_getD, List.getElem?_eq_getElem hl] at h2
          simp only [Option.getD_some] at h2
          rw [← h2])
        rw [hV]
        clear hdd hd hV
        go_wp2_with fail
        go_roundw
        case rel => exact ⟨pos + 1, hlt, by rw [HN.out]; go_num, rfl⟩
        case measure => simp; omega
      · have hnx := fun ty => run_next_end (P := Tryz.prog) w s pos ty hlt
        have hpe : pos = s.size := by omega
        have HN := Lib.hid (show dval (s.data.toList.take pos) = n by rw [hpe, size_list, List.take_length, HS.out, HV.out])
        obtain ⟨V, hV⟩ : ∃ V, dval (s.data.toList.take pos) = V := ⟨_, rfl⟩
        rw [hV] at HN ⊢
        have HN2 := HN.out
        subst HN2
        clear hV hpe HN
        go_wp2_with fail
        go_ret2
        exact ⟨rfl, (Kept.one w _)⟩

end Go.Proofs.YtcoagmkncjonmaaGreatDoor.Su

namespace Go.Proofs.YtcoagmkncjonmaaGreatDoor.Su
open Go.RowKit Go.Sort Go.Shelf St Blk
open Ad (Cf info_cf load_l load_w)
open Pg (Ops Progs textT)
open Wh (Fr)
set_option linter.unusedVariables false
set_option linter.unusedSimpArgs false

theorem enc_had : Sv.EncV 29 3 8 (.int .i64 0) := ⟨Tryz.underlying29, by kernel_rfl, by decide, rfl⟩
theorem ops_fr {S : Nat → Prop} {w w' : World} {x : Value} {L : List Pg.Op} (h : Ops w x L) (f : Fr S w w') (hs : ∀ b, x.ownBlock = some b → ¬ S b) : Ops w' x L := by
  rcases h with h | ⟨h1, h2, b, off, cap, e, hb, hc⟩
  · exact .inl h
  · exact .inr ⟨h1, h2, b, off, cap, e, Nat.lt_of_lt_of_le hb f.size, fun i o hi j y hj => f.cell (p := ⟨b, _, none⟩) (hc i o hi j y hj) (hs b (by rw [e]; rfl))⟩

theorem fr_cell (w : World) (R k : Nat) (v : Value) : Fr (fun j => j = R) w (w.setCell ⟨R, k, none⟩ v) := Fr.setCell (S := fun j => j = R) (Fr.refl _ w) (p := ⟨R, k, none⟩) (Or.inl rfl) v

/-- a reader's cells: a configuration, and what was set -/
def rdA (c : Cf) (hv : Value) : Array Value := #[.int .i64 c.nodes, .int .i64 c.skew, .int .i64 c.lease, .int .i64 c.grain, .int .i64 c.least, .int .i64 c.hops, .int .i64 c.cap, .int .i64 c.fan, .int .i64 c.attempts, .int .i64 c.base, .int .i64 c.most, .int .i64 c.wait, .int .i64 c.tokens, .slice c.pa c.pn c.pc, hv]
theorem rd_put (c : Cf) (hv : Value) {k : Nat} (h : k < 13) (n : Int) : (rdA c hv).setIfInBounds k (.int .i64 n) = rdA (mk ((numsL c).set k n) c.pa c.pn c.pc) hv := by
  rcases k_cases h with rfl | rfl | rfl | rfl | rfl | rfl | rfl | rfl | rfl | rfl | rfl | rfl | rfl <;> rfl
theorem rd_at (c : Cf) (hv : Value) {k : Nat} (h : k < 13) : (rdA c hv)[k]? = some (.int .i64 ((numsL c).getD k 0)) := by
  rcases k_cases h with rfl | rfl | rfl | rfl | rfl | rfl | rfl | rfl | rfl | rfl | rfl | rfl | rfl <;> rfl
theorem rd_progs (c : Cf) (hv : Value) (q : Option Addr) (n m : Nat) : (rdA c hv).setIfInBounds 13 (.slice q n m) = rdA (mk (numsL c) q n m) hv := rfl
theorem rd_had (c : Cf) (hv u : Value) : (rdA c hv).setIfInBounds 14 u = rdA c u := rfl

/-- a reader at block R, whose own rows lie from B on, behind at most m lines -/
structure Rd (w : World) (B R m : Nat) (s : Rs) (c : Cf) (hv : Value) (xs : List Value) : Prop where
  blk : w.heap[R]? = some (.cells (rdA c hv) 73 (0, 0))
  lt : R < B
  nums : numsL c = s.l
  sv : Sv.Sv 39 w B (.slice c.pa c.pn c.pc) xs
  len : xs.length = s.M.length
  ops : ∀ (i : Nat) (x : Value) (L : List Pg.Op), xs[i]? = some x → s.M[i]? = some L → Ops w x L
  ap : ∀ x ∈ xs, ∀ b, x.ownBlock = some b → B ≤ b ∧ (Value.slice c.pa c.pn c.pc).ownBlock ≠ some b ∧ hv.ownBlock ≠ some b ∧ b < w.heap.size
  had : Sv.Sv 3 w B hv (s.had.map (Value.int .i64))
  ne : ∀ g, (Value.slice c.pa c.pn c.pc).ownBlock = some g → hv.ownBlock ≠ some g
  few : s.had.length + s.M.length ≤ m
section
variable {w w' : World} {B R m : Nat} {s : Rs} {c : Cf} {hv : Value} {xs : List Value}
theorem Rd.keep (h : Rd w B R m s c hv xs) (k : Kept w w') : Rd w' B R m s c hv xs :=
  ⟨kept_at k h.blk, h.lt, h.nums, h.sv.keep k, h.len, fun i x L hx hL => (h.ops i x L hx hL).go k, fun x hx b e => by
    obtain ⟨a1, a2, a3, a4⟩ := h.ap x hx b e
    exact ⟨a1, a2, a3, Nat.lt_of_lt_of_le a4 k.size⟩, h.had.keep k, h.ne, h.few⟩
/-- of what lies below B, but for R, anything may turn -/
theorem Rd.fr {S : Nat → Prop} (h : Rd w B R m s c hv xs) (f : Fr S w w') (hS : ∀ k, S k → k < B ∧ k ≠ R) : Rd w' B R m s c hv xs :=
  ⟨(f.block R (blk_lt h.blk) (fun e => (hS R e).2 rfl)).trans h.blk, h.lt, h.nums, h.sv.fr f (fun g e ee => by have h1 := (h.sv.lt e).1; have h2 := (hS g ee).1; omega), h.len,
    fun i x L hx hL => ops_fr (h.ops i x L hx hL) f (fun b e ee => by have h1 := (h.ap x (List.mem_of_getElem? hx) b e).1; have h2 := (hS b ee).1; omega),
    fun x hx b e => by obtain ⟨a1, a2, a3, a4⟩ := h.ap x hx b e; exact ⟨a1, a2, a3, Nat.lt_of_lt_of_le a4 f.size⟩,
    h.had.fr f (fun g e ee => by have h1 := (h.had.lt e).1; have h2 := (hS g ee).1; omega), h.ne, h.few⟩
theorem Rd.more (h : Rd w B R m s c hv xs) {m' : Nat} (hm : m ≤ m') : Rd w B R m' s c hv xs := ⟨h.blk, h.lt, h.nums, h.sv, h.len, h.ops, h.ap, h.had, h.ne, Nat.le_trans h.few hm⟩
theorem Rd.nR (h : Rd w B R m s c hv xs) : (∀ g, (Value.slice c.pa c.pn c.pc).ownBlock = some g → g ≠ R) ∧ ∀ g, hv.ownBlock = some g → g ≠ R :=
  ⟨fun g e c => by have h1 := (h.sv.lt e).1; have h2 := h.lt; omega, fun g e c => by have h1 := (h.had.lt e).1; have h2 := h.lt; omega⟩
/-- a number is set -/
theorem Rd.put (h : Rd w B R m s c hv xs) {k : Nat} (hk : k < 13) (n : Int) : Rd (w.setCell ⟨R, k, none⟩ (.int .i64 n)) B R m { s with l := s.l.set k n } (Su.mk ((numsL c).set k n) c.pa c.pn c.pc) hv xs := by
  have hf : Fr (fun j => j = R) w (w.setCell ⟨R, k, none⟩ (.int .i64 n)) := fr_cell w R k _
  refine ⟨?_, h.lt, ?_, h.sv.fr hf (fun g e => h.nR.1 g e), h.len, fun i x L hx hL => ops_fr (h.ops i x L hx hL) hf (fun b e ee => by have h1 := (h.ap x (List.mem_of_getElem? hx) b e).1; have h2 := h.lt; omega), fun x hx b e => by
    obtain ⟨a1, a2, a3, a4⟩ := h.ap x hx b e
    exact ⟨a1, a2, a3, by rw [Wh.size_set]; exact a4⟩, h.had.fr hf (fun g e => h.nR.2 g e), h.ne, h.few⟩
  · rw [← rd_put c hv hk]; exact blk_set h.blk k _
  · rw [nums_mk (by simp [nums_len]), h.nums]
/-- what was set has grown -/
theorem Rd.noted (h : Rd w B R m s c hv xs) {w2 : World} {v2 : Value} {k : Int} (hs : Sv.Sv 3 w2 B v2 (s.had.map (Value.int .i64) ++ [.int .i64 k])) (g : w.grownBy w2 hv.ownBlock) (hb : v2.ownBlock = hv.ownBlock ∨ ∃ b, v2.ownBlock = some b ∧ w.heap.size ≤ b) :
    Rd (w2.setCell ⟨R, 14, none⟩ v2) B R (m + 1) { s with had := s.had ++ [k] } c v2 xs := by
  have hf1 : Fr (fun j => hv.ownBlock = some j) w w2 := (Fr.refl _ w).grown g fun j e => .inl e
  have hR1 := (hf1.block R (blk_lt h.blk) (fun e => h.nR.2 R e rfl)).trans h.blk
  have hf2 : Fr (fun j => hv.ownBlock = some j ∨ j = R) w (w2.setCell ⟨R, 14, none⟩ v2) := (hf1.mono fun j e => .inl (.inl e)).setCell (.inl (.inr rfl)) _
  have hvR : ∀ b, v2.ownBlock = some b → b ≠ R := fun b e ee => by have h1 := (hs.lt e).1; have h2 := h.lt; omega
  refine ⟨blk_set hR1 14 v2, h.lt, h.nums, h.sv.fr hf2 (fun g e ee => ee.elim (h.ne g e) (h.nR.1 g e)), h.len, fun i x L hx hL => ops_fr (h.ops i x L hx hL) hf2 (fun b e ee => ?_), fun x hx b e => ?_, ?_, fun g e ee => ?_, by have := h.few; simp; omega⟩
  · obtain ⟨a1, a2, a3, a4⟩ := h.ap x (List.mem_of_getElem? hx) b e
    exact ee.elim a3 (fun c => by have h2 := h.lt; omega)
  · obtain ⟨a1, a2, a3, a4⟩ := h.ap x hx b e
    refine ⟨a1, a2, fun e2 => ?_, by rw [Wh.size_set]; exact Nat.lt_of_lt_of_le a4 hf1.size⟩
    rcases hb with h2 | ⟨b2, h2, h3⟩
    · rw [h2] at e2; exact a3 e2
    · rw [h2] at e2; cases e2; omega
  · have := hs.fr (S := fun j => j = R) (fr_cell w2 R 14 v2) (fun g e => hvR g e)
    rw [List.map_append]; exact this
  · have h4 := (h.sv.lt e).2
    rcases hb with h2 | ⟨b2, h2, h3⟩
    · rw [h2] at ee; exact h.ne g e ee
    · rw [h2] at ee; cases ee; omega
/-- a program more -/
theorem Rd.grown (h : Rd w B R m s c hv xs) {w2 : World} {x : Value} {q : Option Addr} {n p : Nat} {L : List Pg.Op} (hs : Sv.Sv 39 w2 B (.slice q n p) (xs ++ [x])) (g : w.grownBy w2 (Value.slice c.pa c.pn c.pc).ownBlock)
    (hb : (Value.slice q n p).ownBlock = (Value.slice c.pa c.pn c.pc).ownBlock ∨ ∃ b, (Value.slice q n p).ownBlock = some b ∧ w.heap.size ≤ b) (hx : Ops w x L) (hxb : ∀ b, x.ownBlock = some b → B ≤ b ∧ (Value.slice c.pa c.pn c.pc).ownBlock ≠ some b ∧ hv.ownBlock ≠ some b ∧ b < w.heap.size) :
    Rd (w2.setCell ⟨R, 13, none⟩ (.slice q n p)) B R (m + 1) { s with M := s.M ++ [L] } (Su.mk (numsL c) q n p) hv (xs ++ [x]) := by
  have hf1 : Fr (fun j => (Value.slice c.pa c.pn c.pc).ownBlock = some j) w w2 := (Fr.refl _ w).grown g fun j e => .inl e
  have hR1 := (hf1.block R (blk_lt h.blk) (fun e => h.nR.1 R e rfl)).trans h.blk
  have hf2 : Fr (fun j => (Value.slice c.pa c.pn c.pc).ownBlock = some j ∨ j = R) w (w2.setCell ⟨R, 13, none⟩ (.slice q n p)) := (hf1.mono fun j e => .inl (.inl e)).setCell (.inl (.inr rfl)) _
  have hvR : ∀ b, (Value.slice q n p).ownBlock = some b → b ≠ R := fun b e ee => by have h1 := (hs.lt e).1; have h2 := h.lt; omega
  have hap : ∀ y ∈ xs ++ [x], ∀ b, y.ownBlock = some b → B ≤ b ∧ (Value.slice c.pa c.pn c.pc).ownBlock ≠ some b ∧ hv.ownBlock ≠ some b ∧ b < w.heap.size := fun y hy b e => by
    rcases List.mem_append.1 hy with hy | hy
    · exact h.ap y hy b e
    · rw [List.mem_singleton] at hy; subst hy; exact hxb b e
  refine ⟨?_, h.lt, ?_, ?_, by rw [List.length_append, List.length_append, h.len]; rfl, fun i y L' hy hL => ?_, fun y hy b e => ?_, h.had.fr hf2 (fun g e ee => ee.elim (fun c => h.ne g c e) (h.nR.2 g e)), fun g e ee => ?_, by have := h.few; simp; omega⟩
  · have := blk_set hR1 13 (.slice q n p)
    rw [rd_progs] at this; exact this
  · rw [nums_mk (nums_len c), h.nums]
  · exact hs.fr (S := fun j => j = R) (fr_cell w2 R 13 _) (fun g e => hvR g e)
  · have ho : Ops w y L' := by
      by_cases hi : i < xs.length
      · rw [List.getElem?_append_left hi] at hy
        rw [List.getElem?_append_left (by rw [← h.len]; exact hi)] at hL
        exact h.ops i y L' hy hL
      · have hi2 : i = xs.length := by have := (List.getElem?_eq_some_iff.1 hy).1; simp at this; omega
        subst hi2
        rw [List.getElem?_append_right (Nat.le_refl _), Nat.sub_self] at hy
        rw [h.len, List.getElem?_append_right (Nat.le_refl _), Nat.sub_self] at hL
        cases hy
        cases hL
        exact hx
    refine ops_fr ho hf2 (fun b e ee => ?_)
    obtain ⟨a1, a2, a3, a4⟩ := hap y (List.mem_of_getElem? hy) b e
    exact ee.elim a2 (fun c => by have h2 := h.lt; omega)
  · obtain ⟨a1, a2, a3, a4⟩ := hap y hy b e
    refine ⟨a1, fun e2 => ?_, a3, by rw [Wh.size_set]; exact Nat.lt_of_lt_of_le a4 hf1.size⟩
    rcases hb with h2 | ⟨b2, h2, h3⟩
    · exact a2 (h2 ▸ e2)
    · have e3 : some b2 = some b := h2.symm.trans e2
      cases e3; omega
  · have h4 := (h.had.lt ee).2
    rcases hb with h2 | ⟨b2, h2, h3⟩
    · exact h.ne g (h2 ▸ e) ee
    · have e3 : some b2 = some g := h2.symm.trans e
      cases e3; omega
theorem Rd.progs (h : Rd w B R m s c hv xs) (hm : m ≤ 1000) : Progs w (.slice c.pa c.pn c.pc) s.M :=
  progs_of h.sv h.len (by have := h.few; omega) h.ops
end

end Go.Proofs.YtcoagmkncjonmaaGreatDoor.Su

namespace Go.Proofs.YtcoagmkncjonmaaGreatDoor.Su
open Go.RowKit Go.Sort Go.Shelf St Blk
open Ad (Cf info_cf load_l load_w)
open Wh (Fr)
set_option linter.unusedVariables false
set_option linter.unusedSimpArgs false

theorem words_apart : ∀ i k : Fin 13, wordL i.1 = wordL k.1 → i = k := by decide
theorem word_ne {i k : Nat} (hi : i < 13) (hk : k < 13) (h : i ≠ k) : wordL i ≠ wordL k := fun e => h (by have := words_apart ⟨i, hi⟩ ⟨k, hk⟩ e; exact congrArg Fin.val this)

theorem set1_any (i k : Nat) (hi : i < 13) (hk : k < 13) (p : Option Addr) (b : Nat) (w : World) (hb : w.heap[b]? = some (.cells #[.string (wordB k)] 9 (0, 0))) :
    Calls Tryz.prog 66 #[.agg #[.string (wordB i), .pointer p], .pointer (some ⟨b, 0, none⟩)] w fun e w' => e = .returned (.bool (decide (i = k))) ∧ Kept w w' := by
  have c0 : w.cell? ⟨b, 0, none⟩ = some (.string (wordB k)) := by rw [blk_cell hb]; rfl
  have hcmp : ((wordB i).toList == (wordB k).toList) = decide (i = k) := by
    rw [ByteArray.toList_eq, ByteArray.toList_eq]
    by_cases h : i = k
    · subst h; simp
    · have := word_ne hi hk h
      rw [decide_eq_false h]
      exact beq_eq_false_iff_ne.2 this
  obtain ⟨z, hz⟩ : ∃ z, decide (i = k) = z := ⟨_, rfl⟩
  rw [hz] at hcmp ⊢
  obtain ⟨V, hV⟩ : ∃ V, wordB i = V := ⟨_, rfl⟩
  obtain ⟨U, hU⟩ : ∃ U, wordB k = U := ⟨_, rfl⟩
  rw [hU] at c0 hcmp
  rw [hV] at hcmp ⊢
  have c1 : (w.alloc (.cells #[.string V, .pointer p] 52)).cell? ⟨b, 0, none⟩ = some (.string U) := (Below.cell (Kept.one w _) (p := ⟨b, 0, none⟩) (blk_lt hb)).trans c0
  clear hb hz hV hU c0
  go_enter Tryz.func66, Tryz.ntmps66
  go_wp2_with fail
  go_ret
  exact ⟨rfl, Kept.one _ _⟩

set_option maxHeartbeats 1000000 in
theorem index_any (k : Nat) (hk : k < 13) (g b r : Nat) (w : World) (hg : w.heap[g]? = some (.cells (setA r) 52 (0, 0))) (hb : w.heap[b]? = some (.cells #[.string (wordB k)] 9 (0, 0))) :
    Calls Tryz.prog 65 #[.slice (some ⟨g, 0, none⟩) 13 13, .func (.func 66) #[] #[.pointer (some ⟨b, 0, none⟩)]] w fun e w' => e = .returned (.int .i64 (k : Int)) ∧ Kept w w' := by
  have eg : ∀ args u, (callFunc 66 args).run Tryz.prog u = .ok (.enter 66 args) u := enters_of Tryz.func66 (by kernel_rfl) rfl
  have HG := Lib.hid (And.intro hg hb)
  clear hg hb
  go_enter Tryz.func65, Tryz.ntmps65
  go_wp2_with fail
  go_loopw [8] (fun x wr => ∃ i : Nat, i ≤ k ∧ x = .int .i64 (i : Int) ∧ Kept w wr) (fun x _ => 13 - (intOf x).toNat)
  case atStart => exact ⟨0, Nat.zero_le _, rfl, Kept.refl _⟩
  case round =>
    obtain ⟨i, hi, rfl, hkk⟩ := hrel
    have hi13 : i < 13 := by omega
    have hq := set_at r hi13
    have hbg := kept_at hkk HG.out.1
    have HC := Lib.hid (set1_any i k hi13 hk (some ⟨r, i, none⟩) b wr (kept_at hkk HG.out.2))
    obtain ⟨V, hV⟩ : ∃ V, wordB i = V := ⟨_, rfl⟩
    rw [hV] at hq HC
    have p0 : wr.cell? ⟨g, i * 2, none⟩ = some (.string V) := by rw [blk_cell hbg]; exact hq.1
    have p1 : wr.cell? ⟨g, i * 2 + 1, none⟩ = some (.pointer (some ⟨r, i, none⟩)) := by rw [blk_cell hbg]; exact hq.2
    have hx0 : (i : Int) < 13 := by omega
    have HKK := Lib.hid hkk
    clear hq hbg hV hkk
    by_cases hik : i = k
    · have HIK := Lib.hid hik
      have HC2 := Lib.hid (show Calls Tryz.prog 66 #[.agg #[.string V, .pointer (some ⟨r, i, none⟩)], .pointer (some ⟨b, 0, none⟩)] wr fun e w' => e = .returned (.bool true) ∧ Kept wr w' from by have := HC.out; rw [decide_eq_true hik] at this; exact this)
      clear HC hik
      go_wp2_with fail
      refine HC2.out.mono ?_
      rintro e w' ⟨rfl, hk2⟩
      go_wp2_with fail
      go_ret
      exact ⟨by rw [HIK.out]; rfl, HKK.out.trans hk2⟩
    · have HIK := Lib.hid (show i < k by omega)
      have HC2 := Lib.hid (show Calls Tryz.prog 66 #[.agg #[.string V, .pointer (some ⟨r, i, none⟩)], .pointer (some ⟨b, 0, none⟩)] wr fun e w' => e = .returned (.bool false) ∧ Kept wr w' from by have := HC.out; rw [decide_eq_false hik] at this; exact this)
      clear HC hik
      go_wp2_with fail
      refine HC2.out.mono ?_
      rintro e w' ⟨rfl, hk2⟩
      go_wp2_with fail
      go_roundw
      case rel => exact ⟨i + 1, HIK.out, by go_num, HKK.out.trans hk2⟩
      case measure => simp [intOf]; omega

theorem has_any {w : World} {base : Nat} {v : Value} {l : List Int} (h : Sv.Sv 3 w base v (l.map (Value.int .i64))) (hl : l.length ≤ 1000) (k : Int) :
    Calls Tryz.prog 68 #[v, .int .i64 k] w fun e w' => e = .returned (.bool (l.contains k)) ∧ w = w' := by
  by_cases hn : l = []
  · subst hn
    obtain ⟨p, cap, e⟩ := h.shape
    subst e
    refine (Tryz.slices_Contains_int_empty p cap k w).mono ?_
    rintro e w' ⟨rfl, rfl⟩
    exact ⟨rfl, rfl⟩
  · obtain ⟨g, cap, cur, e, _, hb, hg, _, hc⟩ := Sv.Sv.full h (fun c => hn (List.map_eq_nil_iff.1 c))
    subst e
    rw [List.length_map]
    refine (Tryz.slices_Contains_int g 0 l.length cap l k w (Nat.le_refl _) (by omega) (fun j hj => ?_)).mono ?_
    · rw [Nat.zero_add, blk_cell hg]
      refine hc j _ ?_
      simp [List.getD_eq_getElem?_getD, hj]
    · rintro e w' ⟨rfl, rfl⟩
      exact ⟨by rw [List.take_length], rfl⟩

end Go.Proofs.YtcoagmkncjonmaaGreatDoor.Su

namespace Go.Proofs.YtcoagmkncjonmaaGreatDoor.Su
open Go.RowKit Go.Sort Go.Shelf St Blk At
open Ad (Cf info_cf load_l load_w)
open Pg (Ops Progs textT rightB)
open Wh (Fr)
set_option linter.unusedVariables false
set_option linter.unusedSimpArgs false

/-- a reader, and what of its worlds has turned -/
def Reads (w : World) (B R m : Nat) (s : Rs) (w' : World) : Prop := (∃ c hv xs, Rd w' B R m s c hv xs) ∧ Fr (fun j => j = R ∨ B ≤ j) w w'

set_option maxRecDepth 100000 in
set_option maxHeartbeats 2000000 in
theorem set_twice {w : World} {B R m : Nat} {s : Rs} {c : Cf} {hv : Value} {xs : List Value} (h : Rd w B R m s c hv xs) (hm : m ≤ 1000) {k : Nat} (hk : k < 13) {n : Nat} (hn : n ≤ 9999999) {S : ByteArray} (hS : S.data.toList = Lib.decDigits n) (hc : s.had.contains (k : Int) = true) :
    Calls Tryz.prog 55 #[.pointer (some ⟨R, 0, none⟩), .string (wordB k), .string S] w fun e w' => e = .returned (.int .i64 8) ∧ Reads w B R m s w' := by
  obtain ⟨V, hV⟩ : ∃ V, wordB k = V := ⟨_, rfl⟩
  obtain ⟨W, hW⟩ : ∃ W, w.alloc (.cells #[.string V] 9) = W := ⟨_, rfl⟩
  have hkW : Kept w W := by rw [← hW]; exact Kept.one _ _
  have hbW : W.heap[w.heap.size]? = some (.cells #[.string V] 9 (0, 0)) := by rw [← hW]; exact blk_new _ _
  have H1 := Lib.hid (fun w => settings_any R w)
  have H2 := Lib.hid (fun (g : Nat) (u : World) (hg : u.heap[g]? = some (.cells (setA R) 52 (0, 0))) (hb : u.heap[w.heap.size]? = some (.cells #[.string (wordB k)] 9 (0, 0))) => index_any k hk g w.heap.size R u hg hb)
  rw [hV] at H2
  have H3 := Lib.hid (fun w => number_any n hn S hS w)
  have hfew := h.few
  have H4 := Lib.hid (fun (u : World) (hu : Kept w u) => has_any (h.had.keep hu) (by omega) (k : Int))
  rw [hc] at H4
  have hk0 : ¬ (k : Int) < 0 := by omega
  have HB := Lib.hid (And.intro hkW hbW)
  have HH := Lib.hid h
  obtain ⟨hp, hn2, hcp, rfl⟩ : ∃ p n c, hv = .slice p n c := by obtain ⟨p, cap, e⟩ := h.had.shape; exact ⟨_, _, _, e⟩
  rw [hV]
  have HW := Lib.hid hW
  clear hV hW hkW hbW h hS hc hm hfew
  go_enter Tryz.func55, Tryz.ntmps55
  go_upto_region 1 with fail
  rw [HW.out]
  go_wp2_with (first
    | (go_at_call 21; refine (H1.out _).mono ?_; rintro e w1 ⟨g, rfl, hg, hb, hk1⟩; have G1 := Lib.hid (And.intro hb hk1); clear hg hb hk1)
    | (go_at_call 65; refine (H2.out _ _ G1.out.1 (kept_at G1.out.2 HB.out.2)).mono ?_; rintro e w2 ⟨rfl, hk2⟩; have G2 := Lib.hid hk2; clear hk2)
    | (go_at_call 67; refine (H3.out _).mono ?_; rintro e w3 ⟨rfl, hk3⟩; have G3 := Lib.hid ((HB.out.1.trans (G1.out.2.trans G2.out)).trans hk3); clear hk3; have d14 : w3.cell? ⟨R, 14, none⟩ = some (.slice hp hn2 hcp) := (by rw [blk_cell (kept_at G3.out HH.out.blk)]; rfl))
    | (go_at_call 68; refine (H4.out _ G3.out).mono ?_; rintro e w4 ⟨rfl, rfl⟩))
  go_ret
  exact ⟨rfl, ⟨c, _, xs, HH.out.keep G3.out⟩, Fr.kept G3.out⟩

set_option maxRecDepth 100000 in
set_option maxHeartbeats 2000000 in
theorem set_ok {w : World} {B R m : Nat} {s : Rs} {c : Cf} {hv : Value} {xs : List Value} (h : Rd w B R m s c hv xs) (hlo : B ≤ w.heap.size) (hm : m ≤ 1000) {k : Nat} (hk : k < 13) {n : Nat} (hn : n ≤ 9999999) {S : ByteArray} (hS : S.data.toList = Lib.decDigits n) (hc : s.had.contains (k : Int) = false) :
    Calls Tryz.prog 55 #[.pointer (some ⟨R, 0, none⟩), .string (wordB k), .string S] w fun e w' => e = .returned (.int .i64 0) ∧ Reads w B R (m + 1) { s with l := s.l.set k (n : Int), had := s.had ++ [(k : Int)] } w' := by
  obtain ⟨V, hV⟩ : ∃ V, wordB k = V := ⟨_, rfl⟩
  obtain ⟨W, hW⟩ : ∃ W, w.alloc (.cells #[.string V] 9) = W := ⟨_, rfl⟩
  have hkW : Kept w W := by rw [← hW]; exact Kept.one _ _
  have hbW : W.heap[w.heap.size]? = some (.cells #[.string V] 9 (0, 0)) := by rw [← hW]; exact blk_new _ _
  have H1 := Lib.hid (fun w => settings_any R w)
  have H2 := Lib.hid (fun (g : Nat) (u : World) (hg : u.heap[g]? = some (.cells (setA R) 52 (0, 0))) (hb : u.heap[w.heap.size]? = some (.cells #[.string (wordB k)] 9 (0, 0))) => index_any k hk g w.heap.size R u hg hb)
  rw [hV] at H2
  have H3 := Lib.hid (fun w => number_any n hn S hS w)
  have hfew := h.few
  have HL := Lib.hid (show (s.had.map (Value.int .i64)).length ≤ 900000 by rw [List.length_map]; omega)
  have H4 := Lib.hid (fun (u : World) (hu : Kept w u) => has_any (h.had.keep hu) (by omega) (k : Int))
  rw [hc] at H4
  have hk0 : ¬ (k : Int) < 0 := by omega
  have HB := Lib.hid (And.intro hkW hbW)
  have HH := Lib.hid h
  obtain ⟨hp, hn2, hcp, rfl⟩ : ∃ p n c, hv = .slice p n c := by obtain ⟨p, cap, e⟩ := h.had.shape; exact ⟨_, _, _, e⟩
  rw [hV]
  have HW := Lib.hid hW
  clear hV hW hkW hbW h hS hc hm hfew
  go_enter Tryz.func55, Tryz.ntmps55
  go_upto_region 1 with fail
  rw [HW.out]
  go_upto_region 8 with (first
    | (go_at_call 21; refine (H1.out _).mono ?_; rintro e w1 ⟨g, rfl, hg, hb, hk1⟩; have G1 := Lib.hid (And.intro hb (And.intro hk1 hg)); clear hg hb hk1)
    | (go_at_call 65; refine (H2.out _ _ G1.out.1 (kept_at G1.out.2.1 HB.out.2)).mono ?_; rintro e w2 ⟨rfl, hk2⟩; have G2 := Lib.hid hk2; clear hk2)
    | (go_at_call 67; refine (H3.out _).mono ?_; rintro e w3 ⟨rfl, hk3⟩; have G3 := Lib.hid (And.intro ((HB.out.1.trans (G1.out.2.1.trans G2.out)).trans hk3) (kept_at (G2.out.trans hk3) G1.out.1)); clear hk3; have d14 : w3.cell? ⟨R, 14, none⟩ = some (.slice hp hn2 hcp) := (by rw [blk_cell (kept_at G3.out.1 HH.out.blk)]; rfl))
    | (go_at_call 68; refine (H4.out _ G3.out.1).mono ?_; rintro e w4 ⟨rfl, rfl⟩))
  have hR3 := HH.out.keep G3.out.1
  have hlow : B ≤ w3.heap.size := Nat.le_trans hlo G3.out.1.size
  have HR3 := Lib.hid hR3
  have hgW : w.heap.size ≤ g := Nat.le_trans HB.out.1.size G1.out.2.2
  have HGW := Lib.hid hgW
  clear hR3 hgW
  have hne14 := HH.out.nR.2
  have HNE := Lib.hid hne14
  clear hne14
  go_upto_region 9 with (at_builtin; refine Sv.wpList_append_one enc_had _ rfl _ _ rfl _ (s.had.map (Value.int .i64)) (.int .i64 (k : Int)) rfl rfl HR3.out.had rfl HL.out hlow ?_; intro v2 w5 r1 r2 r3; obtain ⟨p2, n3, c3, rfl⟩ := (show ∃ p n c, v2 = .slice p n c from by obtain ⟨p, cap, e⟩ := Sv.Sv.shape r1; exact ⟨_, _, _, e⟩); have R5 := Lib.hid (show Sv.Sv 3 w5 B (.slice p2 n3 c3) (s.had.map (Value.int .i64) ++ [.int .i64 (k : Int)]) ∧ (w3.alloc (.cells #[.int .i64 (k : Int)] 3)).grownBy w5 (Value.slice hp hn2 hcp).ownBlock ∧ ((Value.slice p2 n3 c3).ownBlock = (Value.slice hp hn2 hcp).ownBlock ∨ (Value.slice p2 n3 c3).ownBlock = some (w3.heap.size + 1)) from ⟨r1, r2, r3⟩); clear r1 r2 r3; have hRb := (R5.out.2.1.block R (Nat.lt_of_lt_of_le (blk_lt HR3.out.blk) (by simp)) (fun e => HNE.out R e.symm rfl)).trans (kept_at (Kept.one _ _) HR3.out.blk); have e14 := blk_cell hRb 14; have f14 := blk_free hRb 14; have e14' : w5.cell? ⟨R, 14, none⟩ = some (.slice hp hn2 hcp) := e14; clear hRb e14)
  have hnoted := (HR3.out.keep (Kept.one _ (.cells #[.int .i64 (k : Int)] 3))).noted R5.out.1 R5.out.2.1 (R5.out.2.2.imp id (fun e => ⟨_, e, by simp⟩))
  obtain ⟨W6, hW6⟩ : ∃ W6, w5.setCell ⟨R, 14, none⟩ (.slice p2 n3 c3) = W6 := ⟨_, rfl⟩
  rw [hW6] at hnoted ⊢
  have hkA := G3.out.1.more (.cells #[.int .i64 (k : Int)] 3)
  have hf6 : Fr (fun j => j = R ∨ B ≤ j) w W6 := by
    rw [← hW6]
    exact ((Fr.kept hkA).grown R5.out.2.1 (fun j e => .inl (.inr (HR3.out.had.lt e).1))).setCell (p := ⟨R, 14, none⟩) (.inl (.inl rfl)) _
  have hgb : W6.heap[g]? = some (.cells (setA R) 52 (0, 0)) := by
    have h1 := G3.out.2
    have hgR : g ≠ R := fun e => by have := HGW.out; have := blk_lt HH.out.blk; omega
    have hgh : ∀ x, (Value.slice hp hn2 hcp).ownBlock = some x → g ≠ x := fun x e => by have := HGW.out; have := (HH.out.had.lt e).2; omega
    rw [← hW6, Below.heap_setCell _ _ _ _ hgR, R5.out.2.1.block g (Nat.lt_of_lt_of_le (blk_lt h1) (by simp)) (fun e => hgh g e.symm rfl)]
    exact kept_at (Kept.one _ _) h1
  have hsat := set_at R hk
  have q1 : W6.cell? ⟨g, k * 2 + 1, none⟩ = some (.pointer (some ⟨R, k, none⟩)) := by rw [blk_cell hgb]; exact hsat.2
  have hRk := hnoted.blk
  have q2 : W6.cell? ⟨R, k, none⟩ = some (.int .i64 ((numsL c).getD k 0)) := by rw [blk_cell hRk]; exact rd_at c _ hk
  have q3 : W6.frozen? ⟨R, k, none⟩ = false := blk_free hRk k
  have hk13 : (k : Int) < 13 := by omega
  have H6 := Lib.hid (And.intro hnoted hf6)
  clear hnoted hf6 hW6 hkA hgb hsat hRk
  go_wp2_with fail
  go_ret
  have hput := H6.out.1.put hk (n : Int)
  exact ⟨rfl, ⟨_, _, _, hput⟩, H6.out.2.setCell (p := ⟨R, k, none⟩) (.inl (.inl rfl)) _⟩

end Go.Proofs.YtcoagmkncjonmaaGreatDoor.Su

namespace Go.Proofs.YtcoagmkncjonmaaGreatDoor.Su
open Go.RowKit Go.Sort Go.Shelf St Blk At
open Ad (Cf info_cf load_l load_w)
open Pg (Ops Progs textT rightB)
open Wh (Fr)
set_option linter.unusedVariables false
set_option linter.unusedSimpArgs false

set_option maxRecDepth 100000 in
set_option maxHeartbeats 2000000 in
theorem add_any {w : World} {B R m : Nat} {s : Rs} {c : Cf} {hv : Value} {xs : List Value} (h : Rd w B R m s c hv xs) (hlo : B ≤ w.heap.size) (hm : m ≤ 1000) {L : List Pg.Op} (hR : rightB L 64 16 = true) (hf : ∀ o ∈ L, o.Fit) {S : ByteArray} (hS : S.data.toList = textT L) {z : Bool} (hz : z = true → textT L ≠ []) (hE : Env w) :
    Calls Tryz.prog 54 #[.pointer (some ⟨R, 0, none⟩), .string S, .bool z] w fun e w' => e = .returned (.int .i64 0) ∧ Reads w B R (m + 1) { s with M := s.M ++ [L] } w' := by
  have HP := Lib.hid (Pg.parse_new hR hf (s := S) (show Hid _ from hS) hE)
  have HH := Lib.hid h
  have hfew := h.few
  have HL := Lib.hid (show xs.length ≤ 900000 by rw [h.len]; omega)
  have HNE := Lib.hid h.nR.1
  have HT := Lib.hid hS
  have key : z = false ∨ (z = true ∧ S.toList.isEmpty = false) := by
    cases z with
    | false => exact .inl rfl
    | true => exact .inr ⟨rfl, by rw [ByteArray.toList_eq, hS]; exact List.isEmpty_eq_false_iff.2 (hz rfl)⟩
  clear hR hf hS hz hE h hfew hm
  rcases key with rfl | ⟨rfl, hne⟩
  all_goals
    go_enter Tryz.func54, Tryz.ntmps54
    go_upto_region 6 with (go_at_call 64; refine HP.out.mono ?_; rintro e w1 ⟨v, rfl, hv1, hn1, hk1⟩; obtain ⟨vp, vn, vc, rfl, _, _⟩ := hv1.slice; have hRb := kept_at hk1 HH.out.blk; have e13 : w1.cell? ⟨R, 13, none⟩ = some (.slice c.pa c.pn c.pc) := (by rw [blk_cell hRb]; rfl); have G1 := Lib.hid (And.intro hv1 (And.intro hk1 hn1)); clear hv1 hk1 hn1 hRb)
    have hlow : B ≤ w1.heap.size := Nat.le_trans hlo G1.out.2.1.size
    have HR1 := Lib.hid (HH.out.keep G1.out.2.1)
    go_upto_region 7 with (at_builtin; refine Sv.wpList_append_one enc_pv _ rfl _ _ rfl _ xs (.slice vp vn vc) rfl rfl HR1.out.sv rfl HL.out hlow ?_; intro v2 w5 r1 r2 r3; obtain ⟨p2, n3, c3, rfl⟩ := (show ∃ p n c, v2 = .slice p n c from by obtain ⟨p, cap, e⟩ := Sv.Sv.shape r1; exact ⟨_, _, _, e⟩); have R5 := Lib.hid (show Sv.Sv 39 w5 B (.slice p2 n3 c3) (xs ++ [.slice vp vn vc]) ∧ (w1.alloc (.cells #[.slice vp vn vc] 39)).grownBy w5 (Value.slice c.pa c.pn c.pc).ownBlock ∧ ((Value.slice p2 n3 c3).ownBlock = (Value.slice c.pa c.pn c.pc).ownBlock ∨ (Value.slice p2 n3 c3).ownBlock = some (w1.heap.size + 1)) from ⟨r1, r2, r3⟩); clear r1 r2 r3; have hRb := (R5.out.2.1.block R (Nat.lt_of_lt_of_le (blk_lt HR1.out.blk) (by simp)) (fun e => HNE.out R e.symm rfl)).trans (kept_at (Kept.one _ _) HR1.out.blk); have e13 := blk_cell hRb 13; have f13 := blk_free hRb 13; have e13' : w5.cell? ⟨R, 13, none⟩ = some (.slice c.pa c.pn c.pc) := e13; clear hRb e13)
    have hgr := (HR1.out.keep (Kept.one _ (.cells #[.slice vp vn vc] 39))).grown R5.out.1 R5.out.2.1 (R5.out.2.2.imp id (fun e => ⟨_, e, by simp⟩)) (G1.out.1.go (Kept.one _ _)) (fun b e => by
      obtain ⟨h1, h2⟩ := G1.out.2.2 b e
      refine ⟨Nat.le_trans hlo h1, fun e2 => by have := (HH.out.sv.lt e2).2; omega, fun e2 => by have := (HH.out.had.lt e2).2; omega, by simp; omega⟩)
    have hf6 : Fr (fun j => j = R ∨ B ≤ j) w (w5.setCell ⟨R, 13, none⟩ (.slice p2 n3 c3)) :=
      ((Fr.kept (G1.out.2.1.more (.cells #[.slice vp vn vc] 39))).grown R5.out.2.1 (fun j e => .inl (.inr (HR1.out.sv.lt e).1))).setCell (p := ⟨R, 13, none⟩) (.inl (.inl rfl)) _
    have H6 := Lib.hid (And.intro hgr hf6)
    clear hgr hf6
    go_wp2_with fail
    go_ret
    exact ⟨rfl, ⟨_, _, _, H6.out.1⟩, H6.out.2⟩

end Go.Proofs.YtcoagmkncjonmaaGreatDoor.Su

namespace Go.Proofs.YtcoagmkncjonmaaGreatDoor.Su
open Go.RowKit Go.Sort Go.Shelf St Blk At
open Ad (Cf info_cf load_l load_w)
open Pg (Ops Progs textT rightB)
open Wh (Fr)
set_option linter.unusedVariables false
set_option linter.unusedSimpArgs false

theorem cut_hit (l r : List UInt8) (h : ∀ x ∈ l, x ≠ 32) : Lib.cut (l ++ 32 :: r) [32] = (l, r, true) := by
  have e := Pg.index_hit1 32 [] l r h
  rw [show l ++ (32 :: [] ++ r) = l ++ 32 :: r from rfl] at e
  unfold Lib.cut
  rw [e, if_pos (by omega)]
  simp
theorem cut_miss (l : List UInt8) (h : ∀ x ∈ l, x ≠ 32) : Lib.cut l [32] = (l, [], false) := by
  unfold Lib.cut
  rw [Pg.index_miss1 32 [] l h, if_neg (by omega)]
theorem cutz_as {s A B : ByteArray} {z : Bool} (hs : s.size ≤ 4000000000) (hA : Lib.cut s.data.toList [32] = (A.data.toList, B.data.toList, z)) {w : World} (h : Env w) :
    Calls Tryz.prog 53 #[.string s, .string { data := #[32] }] w fun e w' => e = .returned (.tuple #[.string A, .string B, .bool z]) ∧ Kept w w' := by
  obtain ⟨m, hm⟩ := h.mx
  refine (Tryz.strings_Cut s { data := #[32] } m w (by omega) hm).mono ?_
  rintro e w' ⟨rfl, n, rfl⟩
  refine ⟨?_, (Kept.refl w).drewN n⟩
  show Ending.returned (.tuple #[.string ⟨(Lib.cut s.data.toList [32]).1.toArray⟩, .string ⟨(Lib.cut s.data.toList [32]).2.1.toArray⟩, .bool (Lib.cut s.data.toList [32]).2.2]) = _
  rw [hA]

theorem line_no {w : World} {R : Nat} {S : ByteArray} (h : S.data.toList = [] ∨ ∃ r, S.data.toList = 35 :: r) :
    Calls Tryz.prog 37 #[.pointer (some ⟨R, 0, none⟩), .string S] w fun e w' => e = .returned (.int .i64 0) ∧ w = w' := by
  rcases h with h | ⟨r, h⟩
  · obtain rfl : S = ⟨#[]⟩ := Pg.same_bytes h
    go_enter Tryz.func37, Tryz.ntmps37
    go_wp2_with fail
    go_ret
    exact ⟨rfl, rfl⟩
  · have hne : S.toList.isEmpty = false := by rw [ByteArray.toList_eq, h]; rfl
    have h0 : 0 < S.size := by rw [size_list, h]; simp
    have hc : (((S[0]'h0).toNat : Int) == 35) = true := by rw [get_byte S 0 h0, h]; rfl
    clear h
    go_enter Tryz.func37, Tryz.ntmps37
    go_wp2_with fail
    go_ret
    exact ⟨rfl, rfl⟩

theorem prog_head (L : List Pg.Op) : ∃ r, progT L = 112 :: r := ⟨_, rfl⟩
theorem line_head {k : Nat} (hk : k < 13) (n : Int) : ∃ c r, lineT k n = c :: r ∧ c ≠ 35 := by
  rcases k_cases hk with rfl | rfl | rfl | rfl | rfl | rfl | rfl | rfl | rfl | rfl | rfl | rfl | rfl <;> exact ⟨_, _, rfl, by decide⟩
theorem word_plain {k : Nat} (hk : k < 13) : ∀ x ∈ wordL k, x ≠ 32 := by
  rcases k_cases hk with rfl | rfl | rfl | rfl | rfl | rfl | rfl | rfl | rfl | rfl | rfl | rfl | rfl <;> decide
theorem word_prog {k : Nat} (hk : k < 13) : wordL k ≠ progW := by
  rcases k_cases hk with rfl | rfl | rfl | rfl | rfl | rfl | rfl | rfl | rfl | rfl | rfl | rfl | rfl <;> decide
theorem prog_cut (L : List Pg.Op) : Lib.cut (progT L) [32] = (progW, textT L, decide (textT L ≠ [])) := by
  unfold progT behind
  by_cases h : textT L = []
  · rw [if_pos h, List.append_nil, cut_miss progW (by decide), h]; rfl
  · rw [if_neg h, cut_hit progW (textT L) (by decide)]; simp [h]
/-- a line that says something -/
theorem says_head {S : ByteArray} {c : UInt8} {r : List UInt8} (h : S.data.toList = c :: r) (hc : c ≠ 35) : S.toList.isEmpty = false ∧ ∃ h0 : 0 < S.size, (((S[0]'h0).toNat : Int) == 35) = false := by
  have h0 : 0 < S.size := by rw [size_list, h]; simp
  refine ⟨by rw [ByteArray.toList_eq, h]; rfl, h0, beq_eq_false_iff_ne.2 fun e => ?_⟩
  rw [get_byte S 0 h0, h] at e
  have h3 : (c.toNat : Int) = 35 := e
  have h4 : c.toNat = 35 := by omega
  exact hc (UInt8.toNat_inj.1 h4)

set_option maxHeartbeats 1000000 in
theorem line_prog {w : World} {B R m : Nat} {s : Rs} {c : Cf} {hv : Value} {xs : List Value} (h : Rd w B R m s c hv xs) (hlo : B ≤ w.heap.size) (hm : m ≤ 1000) {L : List Pg.Op} (hR : rightB L 64 16 = true) (hf : ∀ o ∈ L, o.Fit) {S : ByteArray} (hS : S.data.toList = progT L) (hz : S.size ≤ 4000000000) (hE : Env w) :
    Calls Tryz.prog 37 #[.pointer (some ⟨R, 0, none⟩), .string S] w fun e w' => e = .returned (.int .i64 0) ∧ Reads w B R (m + 1) { s with M := s.M ++ [L] } w' := by
  obtain ⟨r, hr⟩ := prog_head L
  obtain ⟨hne, h0, hc⟩ := says_head (hS.trans hr) (by decide)
  obtain ⟨T, hT⟩ : ∃ T : ByteArray, T.data.toList = textT L := ⟨⟨(textT L).toArray⟩, rfl⟩
  have HC := Lib.hid (fun (u : World) (hu : Env u) => cutz_as (s := S) (A := ⟨#[112, 114, 111, 103, 114, 97, 109]⟩) (B := T) (z := decide (textT L ≠ [])) hz (by rw [hS, prog_cut, hT]; rfl) hu)
  have HA := Lib.hid (fun (u : World) (hu : Kept w u) => add_any (h.keep hu) (Nat.le_trans hlo hu.size) hm hR hf hT (z := decide (textT L ≠ [])) (fun e => of_decide_eq_true e) (hE.kept hu))
  obtain ⟨z, hzz⟩ : ∃ z, decide (textT L ≠ []) = z := ⟨_, rfl⟩
  rw [hzz] at HC HA
  have HE := Lib.hid hE
  clear h hR hf hS hz hE hr hT hzz
  go_enter Tryz.func37, Tryz.ntmps37
  go_wp2_with (first
    | (go_at_call 53; refine (HC.out _ HE.out).mono ?_; rintro e w1 ⟨rfl, hk1⟩; have G1 := Lib.hid hk1; clear hk1)
    | (go_at_call 54; refine (HA.out _ G1.out).mono ?_; rintro e w2 ⟨rfl, hr2⟩; have G2 := Lib.hid hr2; clear hr2))
  go_ret
  exact ⟨rfl, G2.out.1, (Fr.kept G1.out).trans G2.out.2 (fun i c => .inl c)⟩

theorem num_cut {k : Nat} (hk : k < 13) (n : Int) : Lib.cut (lineT k n) [32] = (wordL k, Lib.itoa n, true) := cut_hit _ _ (word_plain hk)
set_option maxHeartbeats 1000000 in
theorem line_num {w : World} {B R m : Nat} {s : Rs} {c : Cf} {hv : Value} {xs : List Value} (h : Rd w B R m s c hv xs) (hlo : B ≤ w.heap.size) (hm : m ≤ 1000) {k : Nat} (hk : k < 13) {n : Nat} (hn : n ≤ 9999999) {S : ByteArray} (hS : S.data.toList = lineT k (n : Int)) (hz : S.size ≤ 4000000000) (hE : Env w) {d : Int} {P : World → World → Prop}
    (hset : ∀ (u : World) (T : ByteArray), Kept w u → T.data.toList = Lib.decDigits n → Calls Tryz.prog 55 #[.pointer (some ⟨R, 0, none⟩), .string (wordB k), .string T] u fun e w' => e = .returned (.int .i64 d) ∧ P u w') :
    Calls Tryz.prog 37 #[.pointer (some ⟨R, 0, none⟩), .string S] w fun e w' => e = .returned (.int .i64 d) ∧ ∃ u, Kept w u ∧ P u w' := by
  obtain ⟨c1, r, hr, hc35⟩ := line_head hk (n : Int)
  obtain ⟨hne, h0, hc⟩ := says_head (hS.trans hr) hc35
  obtain ⟨T, hT⟩ : ∃ T : ByteArray, T.data.toList = Lib.itoa (n : Int) := ⟨⟨(Lib.itoa (n : Int)).toArray⟩, rfl⟩
  obtain ⟨V, hV⟩ : ∃ V, wordB k = V := ⟨_, rfl⟩
  have hVp : (V.toList == [112, 114, 111, 103, 114, 97, 109]) = false := by
    rw [ByteArray.toList_eq, ← hV]
    exact beq_eq_false_iff_ne.2 (word_prog hk)
  have HC := Lib.hid (fun (u : World) (hu : Env u) => cutz_as (s := S) (A := V) (B := T) (z := true) hz (by rw [hS, num_cut hk, hT, ← hV]; rfl) hu)
  have HA := Lib.hid (fun (u : World) (hu : Kept w u) => hset u T hu (by rw [hT, Lib.itoa_nonneg]))
  rw [hV] at HA
  have HE := Lib.hid hE
  clear h hS hz hE hr hT hV hset
  go_enter Tryz.func37, Tryz.ntmps37
  go_wp2_with (first
    | (go_at_call 53; refine (HC.out _ HE.out).mono ?_; rintro e w1 ⟨rfl, hk1⟩; have G1 := Lib.hid hk1; clear hk1)
    | (go_at_call 55; refine (HA.out _ G1.out).mono ?_; rintro e w2 ⟨rfl, hr2⟩; have G2 := Lib.hid hr2; clear hr2))
  go_ret
  exact ⟨rfl, _, G1.out, G2.out⟩

/-- what a line comes to -/
def Told (w : World) (B R m : Nat) (s : Rs) (x : Ln) (e : Ending) (w' : World) : Prop :=
  (∃ s', s.step x = some s' ∧ e = .returned (.int .i64 0) ∧ Reads w B R (m + 1) s' w') ∨ (s.step x = none ∧ e = .returned (.int .i64 8) ∧ Fr (fun j => j = R ∨ B ≤ j) w w')
theorem line_any {w : World} {B R m : Nat} {s : Rs} {c : Cf} {hv : Value} {xs : List Value} (h : Rd w B R m s c hv xs) (hlo : B ≤ w.heap.size) (hm : m ≤ 1000) {x : Ln} (hx : x.Ok) {S : ByteArray} (hS : S.data.toList = x.txt) (hz : S.size ≤ 4000000000) (hE : Env w) :
    Calls Tryz.prog 37 #[.pointer (some ⟨R, 0, none⟩), .string S] w (Told w B R m s x) := by
  cases x with
  | no t =>
    refine (line_no (hx.1.imp (fun e => hS.trans e) (fun ⟨r, e⟩ => ⟨r, hS.trans e⟩))).mono ?_
    rintro e w' ⟨rfl, rfl⟩
    exact .inl ⟨s, rfl, rfl, ⟨c, hv, xs, h.more (Nat.le_succ _)⟩, Fr.refl _ _⟩
  | prog L =>
    refine (line_prog h hlo hm hx.1 hx.2 hS hz hE).mono ?_
    rintro e w' ⟨rfl, hr⟩
    exact .inl ⟨_, rfl, rfl, hr⟩
  | num k n =>
    obtain ⟨hk, hn0, hn1⟩ := hx
    obtain ⟨u, rfl⟩ : ∃ u : Nat, n = (u : Int) := ⟨n.toNat, by omega⟩
    by_cases hc : s.had.contains (k : Int) = true
    · refine (line_num h hlo hm hk (show u ≤ 9999999 by omega) hS hz hE (fun v T hv2 hT => set_twice (h.keep hv2) hm hk (show u ≤ 9999999 by omega) hT hc)).mono ?_
      rintro e w' ⟨rfl, v, hk1, hr⟩
      exact .inr ⟨by simp only [Rs.step]; rw [if_pos hc], rfl, (Fr.kept hk1).trans hr.2 (fun i c => .inl c)⟩
    · have hc2 : s.had.contains (k : Int) = false := by simpa using hc
      refine (line_num h hlo hm hk (show u ≤ 9999999 by omega) hS hz hE (fun v T hv2 hT => set_ok (h.keep hv2) (Nat.le_trans hlo hv2.size) hm hk (show u ≤ 9999999 by omega) hT hc2)).mono ?_
      rintro e w' ⟨rfl, v, hk1, hr⟩
      exact .inl ⟨_, by simp only [Rs.step]; rw [if_neg hc], rfl, hr.1, (Fr.kept hk1).trans hr.2 (fun i c => .inl c)⟩

end Go.Proofs.YtcoagmkncjonmaaGreatDoor.Su
