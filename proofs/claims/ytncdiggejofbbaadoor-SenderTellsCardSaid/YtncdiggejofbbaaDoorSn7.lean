/- Those that wait are handed on one by one (a closure that lays a packet each into a row of its caller's): sender.waiting, Cancels, Keeps. -/
import Derived.Test.YtncdiggejofbbaaDoorSn
import Derived.Test.YtncdiggejofbbaaDoorOw4
import Derived.Test.YtncdiggejofbbaaDoorAu
import Derived.LoopTactic
import Derived.Shelf.Abstract
namespace Go.Proofs.YtncdiggejofbbaaDoor.Sn
open Go.RowKit Go.Sort Go.Shelf St PkM Ad Po Blk Eqs
open Go.Proofs.YtncdiggejofbbaaDoor.Cl
open Go.Proofs.YtncdiggejofbbaaDoor.Ow
open Go.Proofs.YtncdiggejofbbaaDoor.Ls
open Go.Proofs.YtncdiggejofbbaaDoor.Rv
open Wh (Fr)
open Go.Proofs.YtncdiggejofbbaaDoor.Au (Stab stab_and)
open Go.Proofs.YtncdiggejofbbaaDoor.Ad (load_w load_l store_new)
set_option linter.unusedVariables false
set_option linter.unusedSimpArgs false

def encP (p : Pk) : List Value := p.arr.toList
def zsP : List Value := Pk.none.arr.toList
theorem encP_len (p : Pk) : (encP p).length = 23 := rfl
theorem oneP (p : Pk) : ∀ u ∈ encP p, u.oneCell' = true := fun u hu => by
  have := pk_one p
  rw [Array.all_eq_true_iff_forall_mem] at this
  exact this u (by unfold encP at hu; simpa using hu)
theorem enc_pk : EncT (α := Pk) 64 37 23 192 zsP encP :=
  ⟨Tryd.underlying64, by kernel_rfl, by decide, by decide, rfl, oneP _, encP_len, oneP⟩
abbrev Mp (W : World) (v : Value) (L : List Pk) : Prop := RowV W v 37 23 encP L

/-- the packet for one that waits -/
def wtP (k me : Int) (o : Ow) (x : Cl) : Pk := if k = 4 then { onw 4 me x with til := Tk.clamp o.un } else onw k me x
/-- .. for all of them -/
def waitL (f : Cl → Pk) (K : List Cl) : List Pk := (K.filter fun x => x.st == 1).map f
theorem wait_yes {f : Cl → Pk} {K : List Cl} {i : Nat} {x : Cl} (h : K[i]? = some x) (hs : x.st = 1) : waitL f (K.take (i + 1)) = waitL f (K.take i) ++ [f x] := by
  unfold waitL
  rw [List.take_add_one, h, List.filter_append, List.map_append]
  simp [hs]
theorem wait_no {f : Cl → Pk} {K : List Cl} {i : Nat} {x : Cl} (h : K[i]? = some x) (hs : ¬ x.st = 1) : waitL f (K.take (i + 1)) = waitL f (K.take i) := by
  unfold waitL
  rw [List.take_add_one, h, List.filter_append, List.map_append]
  simp [hs]
theorem wait_len (f : Cl → Pk) (K : List Cl) : (waitL f K).length ≤ K.length := by unfold waitL; rw [List.length_map]; exact List.length_filter_le _ _
theorem wait_lenk (f : Cl → Pk) (K : List Cl) (i : Nat) : (waitL f (K.take i)).length ≤ K.length := Nat.le_trans (wait_len f _) (by rw [List.length_take]; omega)

/-- the caller's variable holds a row of its own with these packets -/
structure Acc (bp : Nat) (v : Value) (L : List Pk) (u : World) : Prop where
  var : u.heap[bp]? = some (.cells #[v] 64 (0, 0))
  row : Mp u v L
  own : ∀ g, v.ownBlock = some g → bp < g
theorem Acc.go {bp : Nat} {v : Value} {L : List Pk} {u u' : World} (h : Acc bp v L u) (k : Kept u u') : Acc bp v L u' := ⟨kept_at k h.var, h.row.keep k, h.own⟩
/-- what a function value does that lays the packet f x of what is handed to it -/
def Hands (bp : Nat) (f : Cl → Pk) (Base : World → Prop) (g : FuncId) (lb : Array Value) : Prop :=
  ∀ (u : World) (v : Value) (L : List Pk) (x : Cl), Base u → Acc bp v L u → L.length ≤ 900000 →
    Calls Tryd.prog g (#[.agg x.arr] ++ lb) u fun e w' => e = .returned (.tuple #[]) ∧ ∃ v', Acc bp v' (L ++ [f x]) w' ∧ Fr (fun k => bp ≤ k) u w'

set_option maxRecDepth 100000 in
set_option maxHeartbeats 4000000 in
theorem waiting_any {w0 w : World} {q : Option Addr} {N c : Nat} {K : List Cl} (o : Ow) (hv : Cls w0 (.slice q N c) K) (bp : Nat) (hbp : w0.heap.size ≤ bp) (hk0 : Kept w0 w) (hl : K.length ≤ 900000)
    (f : Cl → Pk) (Base : World → Prop) (hBase : ∀ u u', Base u → Fr (fun k => bp ≤ k) u u' → Base u') (g : FuncId) (lb : Array Value) (eg : ∀ args u, (callFunc g args).run Tryd.prog u = .ok (.enter g args) u)
    (hh : Hands bp f Base g lb) (v : Value) (ha : Acc bp v [] w) (hb : Base w) :
    Calls Tryd.prog 58 #[.agg (o.arr q N c), .func (.func g) #[] lb] w fun e w' => e = .returned (.tuple #[]) ∧ ∃ v', Acc bp v' (waitL f K) w' ∧ Kept w0 w' := by
  have hN : K.length = N := by obtain ⟨p, cap, e⟩ := hv.shape; cases e; rfl
  have hm2 : N ≤ 900000 := by omega
  obtain ⟨A, hA⟩ : ∃ A, o.arr q N c = A := ⟨_, rfl⟩
  have c18 : A[18]? = some (.slice q N c) := by rw [← hA]; rfl
  rw [hA]
  obtain ⟨W, hW⟩ : ∃ W, w.alloc (.cells A 42) = W := ⟨_, rfl⟩
  have hB : Bl w W [(A, 42)] := hW ▸ Bl.one w A _
  have h18 : W.cell? ⟨w.heap.size, 18, none⟩ = some (.slice q N c) := (hB.cell 0 18 rfl).trans c18
  have HV := Lib.hid hv
  have HN := Lib.hid hN
  have HB := Lib.hid hB
  have HW := Lib.hid hW
  have HH := Lib.hid hh
  have HBS := Lib.hid hBase
  have HA0 := Lib.hid (ha.go hB.kept)
  have HB0 := Lib.hid (hBase _ _ hb (Fr.kept hB.kept))
  have HK0 := Lib.hid (hk0.trans hB.kept)
  clear hv hN hA c18 hB hW hh hBase ha hb hk0 hl
  go_enter Tryd.func58, Tryd.ntmps58
  go_upto_region 1 with fail
  rw [HW.out]
  go_wp2_with fail
  go_loopw [9] (fun y wr => ∃ i : Nat, i ≤ N ∧ y = .int .i64 (i : Int) ∧ Hid (Kept w0 wr) ∧ Hid (Base wr) ∧ ∃ v', Hid (Acc bp v' (waitL f (K.take i)) wr)) (fun y _ => N - (intOf y).toNat)
  case atStart => exact ⟨0, Nat.zero_le _, rfl, HK0, HB0, v, HA0⟩
  case round =>
    obtain ⟨i, hi, rfl, hk, hb, v', ha⟩ := hrel
    by_cases hlt : i < N
    · obtain ⟨x, b, off, hx, rfl, hbb, hc⟩ := (HV.out.go hk.out).pick (i := i) (by rw [HN.out]; exact hlt)
      have hi1 : (i : Int) < (N : Int) := by omega
      obtain ⟨X, hX⟩ : ∃ X, x.arr = X := ⟨_, rfl⟩
      have hl := load_call hX hc
      have x6 : X[6]? = some (.int .i64 x.st) := by rw [← hX]; rfl
      have sX : X.size = 13 := by rw [← hX]; rfl
      have oX : X.all (·.oneCell') = true := by rw [← hX]; exact cl_one x
      obtain ⟨V, hV⟩ : ∃ V, wr.alloc (.cells X 35) = V := ⟨_, rfl⟩
      have kV : Kept wr V := by rw [← hV]; exact Kept.one _ _
      have bV : V.heap[wr.heap.size]? = some (.cells X 35 (0, 0)) := by rw [← hV]; exact blk_new wr _
      have h6 : V.cell? ⟨wr.heap.size, 6, none⟩ = some (.int .i64 x.st) := (blk_cell bV 6).trans x6
      have HVV := Lib.hid hV
      have HKV := Lib.hid kV
      have HBV := Lib.hid bV
      by_cases h1 : x.st = 1
      · have HT := Lib.hid (wait_yes (f := f) hx h1)
        have HC := Lib.hid (show Calls Tryd.prog g (#[.agg X] ++ lb) V fun e w' => e = .returned (.tuple #[]) ∧ ∃ v2, Acc bp v2 (waitL f (K.take i) ++ [f x]) w' ∧ Fr (fun k => bp ≤ k) V w' from by
          rw [← hX]; exact HH.out V v' _ x (HBS.out _ _ hb.out (Fr.kept kV)) (ha.out.go kV) (Nat.le_trans (wait_lenk f K i) (by rw [HN.out]; omega)))
        rw [h1] at h6
        clear hX hc hx hV x6 h1 kV bV
        go_wp2_with (first
          | (refine load_l 35 (.tmp 11) rfl _ rfl rfl (.agg X) hl ?_)
          | (refine load_w 35 (.tmp 5) rfl wr.heap.size rfl rfl X 13 HBV.out Tryd.underlying35 sX info_cl ?_)
          | (refine store_new rfl 35 (.tmp 5) (.tmp 12) rfl wr.heap.size X rfl rfl _ _ rfl 13 info_cl sX rfl oX ?_; rw [HVV.out]))
        refine HC.out.mono ?_
        rintro e w' ⟨rfl, v2, ha2, hf2⟩
        have HR := Lib.hid (And.intro ha2 hf2)
        clear ha2 hf2
        go_wp2_with fail
        go_roundw
        case rel =>
          refine ⟨i + 1, hlt, by go_num, Lib.hid ?_, Lib.hid (HBS.out _ _ (HBS.out _ _ hb.out (Fr.kept HKV.out)) HR.out.2), v2, Lib.hid (by rw [HT.out]; exact HR.out.1)⟩
          exact ((Fr.kept (S := fun k => bp ≤ k) (hk.out.trans HKV.out)).trans HR.out.2 (fun j hj => .inl hj)).keeps (fun j hj => Nat.le_trans hbp hj)
        case measure => simp [intOf]; omega
      · have HT := Lib.hid (wait_no (f := f) hx h1)
        have h1b : (x.st == 1) = false := beq_eq_false_iff_ne.2 h1
        clear hX hc hx hV x6 kV bV
        go_wp2_with (first
          | (refine load_l 35 (.tmp 11) rfl _ rfl rfl (.agg X) hl ?_)
          | (refine store_new rfl 35 (.tmp 5) (.tmp 12) rfl wr.heap.size X rfl rfl _ _ rfl 13 info_cl sX rfl oX ?_; rw [HVV.out]))
        go_roundw
        case rel => exact ⟨i + 1, hlt, by go_num, Lib.hid (hk.out.trans HKV.out), Lib.hid (HBS.out _ _ hb.out (Fr.kept HKV.out)), v', Lib.hid (by rw [HT.out]; exact ha.out.go HKV.out)⟩
        case measure => simp [intOf]; omega
    · obtain rfl : i = N := by omega
      have hKN : K.take i = K := List.take_of_length_le (by rw [HN.out]; exact Nat.le_refl _)
      have HA2 := Lib.hid (by have := ha.out; rw [hKN] at this; exact this)
      clear ha hb hKN
      go_wp2_with fail
      refine bodyPost_end (results_none rfl _ _ _) rfl ?_
      exact ⟨rfl, v', HA2.out, hk.out⟩

end Go.Proofs.YtncdiggejofbbaaDoor.Sn
