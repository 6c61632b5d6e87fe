/- The document's own wheel: what it is in memory; find, Time. -/
import Derived.Test.YtffhjdkhmggakaaWhM
import Derived.Deep.QuietTactic
import Derived.BigQuiet
namespace Go.Proofs.Ytffhjdkhmggakaa.Rf
open Go.RowKit Tk Wh
open St (Kept blk_cell blk_free blk_lt blk_set)

/-- v is a slice that holds pairs, from which one reads; its block is one of S -/
def Prs (w : World) (S : Nat → Prop) (v : Value) (L : List (Int × Int)) : Prop :=
  (L = [] ∧ ∃ p cap, v = .slice p 0 cap) ∨
  ∃ g off cap, v = .slice (some ⟨g, off, none⟩) L.length cap ∧ L.length ≤ cap ∧ cap ≤ maxLen ∧ S g ∧ g < w.heap.size ∧
    ∀ i e, L[i]? = some e → w.cell? ⟨g, off + i * 2, none⟩ = some (.int .i64 e.1) ∧ w.cell? ⟨g, off + i * 2 + 1, none⟩ = some (.int .i64 e.2)

/-- THE DOCUMENT's WHEEL in block B -/
structure RW (w : World) (S : Nat → Prop) (B : Nat) (now last : Int) (v : Value) (L : List (Int × Int)) : Prop where
  blk : w.heap[B]? = some (.cells #[.int .i64 now, .int .i64 last, v] 29 (0, 0))
  prs : Prs w S v L
  sB : S B
  sLt : ∀ k, S k → k < w.heap.size
  ne : ∀ g, v.ownBlock = some g → g ≠ B

section
variable {w w' : World} {S S' : Nat → Prop} {B : Nat} {now last : Int} {v : Value} {L : List (Int × Int)}

theorem Prs.stay (h : Prs w S v L) (hz : w.heap.size ≤ w'.heap.size) (hk : ∀ k, S k → k < w.heap.size → w'.heap[k]? = w.heap[k]?) : Prs w' S v L := by
  rcases h with h | ⟨g, off, cap, e, h1, h2, h3, h4, h5⟩
  · exact .inl h
  · have hb := hk g h3 h4
    exact .inr ⟨g, off, cap, e, h1, h2, h3, by omega, fun i x hx => ⟨(World.cell?_of_block (w := w) (a := ⟨g, _, none⟩) hb).trans (h5 i x hx).1, (World.cell?_of_block (w := w) (a := ⟨g, _, none⟩) hb).trans (h5 i x hx).2⟩⟩
theorem RW.stay (h : RW w S B now last v L) (hz : w.heap.size ≤ w'.heap.size) (hk : ∀ k, S k → k < w.heap.size → w'.heap[k]? = w.heap[k]?) : RW w' S B now last v L :=
  ⟨(hk B h.sB (blk_lt h.blk)).trans h.blk, h.prs.stay hz hk, h.sB, fun k c => Nat.lt_of_lt_of_le (h.sLt k c) hz, h.ne⟩
theorem RW.kept (h : RW w S B now last v L) (hk : Kept w w') : RW w' S B now last v L := h.stay hk.size fun k _ hl => hk.block k hl
theorem RW.fr (h : RW w S B now last v L) (hk : Fr S' w w') (hn : ∀ k, S k → ¬ S' k) : RW w' S B now last v L := h.stay hk.size fun k hs hl => hk.block k hl (hn k hs)
theorem RW.c0 (h : RW w S B now last v L) : w.cell? ⟨B, 0, none⟩ = some (.int .i64 now) := by rw [blk_cell h.blk]; rfl
theorem RW.c1 (h : RW w S B now last v L) : w.cell? ⟨B, 1, none⟩ = some (.int .i64 last) := by rw [blk_cell h.blk]; rfl
theorem RW.c2 (h : RW w S B now last v L) : w.cell? ⟨B, 2, none⟩ = some v := by rw [blk_cell h.blk]; rfl
theorem Prs.len (h : Prs w S v L) (ty : TypeId) (u : World) : (Builtin.len_ #[27] ty #[v]).run Try.prog u = .ok (.int .i64 (L.length : Int)) u := by
  rcases h with ⟨h0, p, cap, e⟩ | ⟨g, off, cap, e, _⟩
  · subst h0; subst e; kernel_rfl
  · subst e; simp [Builtin.len_, run_underlying Try.underlying27, goInt]
theorem Prs.at (h : Prs w S v L) {i : Nat} {e : Int × Int} (he : L[i]? = some e) : ∃ g off cap, v = .slice (some ⟨g, off, none⟩) L.length cap ∧ L.length ≤ cap ∧ S g ∧ g < w.heap.size ∧
    ∀ i e, L[i]? = some e → w.cell? ⟨g, off + i * 2, none⟩ = some (.int .i64 e.1) ∧ w.cell? ⟨g, off + i * 2 + 1, none⟩ = some (.int .i64 e.2) := by
  rcases h with ⟨h0, _⟩ | ⟨g, off, cap, e1, h1, h2, h3, h4, h5⟩
  · rw [h0] at he; simp at he
  · exact ⟨g, off, cap, e1, h1, h3, h4, h5⟩

/-- where a handle stands: -1, nowhere -/
def fidx (x : Int) : List (Int × Int) → Int
  | [] => -1
  | e :: L => if e.2 = x then 0 else if fidx x L < 0 then -1 else fidx x L + 1
/-- no handle ahead of a place is x -/
def noneTo (x : Int) (L : List (Int × Int)) (k : Nat) : Prop := ∀ i e, i < k → L[i]? = some e → e.2 ≠ x
theorem fidx_at {x : Int} : ∀ {L : List (Int × Int)} {k : Nat} {e : Int × Int}, noneTo x L k → L[k]? = some e → e.2 = x → fidx x L = k
  | [], k, e, _, h, _ => by simp at h
  | a :: L, 0, e, _, h, hx => by simp at h; subst h; unfold fidx; rw [if_pos hx]; rfl
  | a :: L, k + 1, e, hn, h, hx => by
    have ha : a.2 ≠ x := hn 0 a (by omega) rfl
    have ih := fidx_at (L := L) (k := k) (fun i e hi he => hn (i + 1) e (by omega) he) h hx
    unfold fidx; rw [if_neg ha, if_neg (by omega), ih]; omega
theorem fidx_none {x : Int} : ∀ {L : List (Int × Int)}, noneTo x L L.length → fidx x L = -1
  | [], _ => rfl
  | a :: L, hn => by
    have ha : a.2 ≠ x := hn 0 a (by simp) rfl
    have ih := fidx_none (L := L) (fun i e hi he => hn (i + 1) e (by simp; omega) he)
    unfold fidx; rw [if_neg ha, if_pos (by omega)]

set_option maxHeartbeats 800000 in
set_option maxRecDepth 100000 in
theorem find_any (h : RW w S B now last v L) (hL : L.length ≤ 100000) (x : Int) : Calls Try.prog 32 #[.pointer (some ⟨B, 0, none⟩), .int .i64 x] w fun e w' => e = .returned (.int .i64 (fidx x L)) ∧ w = w' := by
  have c2 := h.c2
  have hlen := fun ty u => h.prs.len ty u
  obtain ⟨q, hq⟩ : ∃ q : Int, (L.length : Int) = q := ⟨_, rfl⟩
  rw [hq] at hlen
  have HQ := Lib.hid hq
  have HP := Lib.hid h.prs
  clear h hq
  go_enter Try.func32, Try.ntmps32
  go_wp2_with fail
  go_loop [5] (fun i => ∃ k : Nat, k ≤ L.length ∧ i = .int .i64 (k : Int) ∧ noneTo x L k) (fun i => L.length - (intOf i).toNat)
  case atStart => exact ⟨0, Nat.zero_le _, rfl, fun i e hi => by omega⟩
  case round =>
    obtain ⟨k, hk, rfl, hn⟩ := hrel
    by_cases hlt : k < L.length
    · have hkq : (k : Int) < q := by have := HQ.out; omega
      obtain ⟨e, he⟩ : ∃ e, L[k]? = some e := ⟨_, List.getElem?_eq_getElem hlt⟩
      obtain ⟨g, off, cap, hv1, hcap, _, _, hcell⟩ := HP.out.at he
      have hc := (hcell k e he).2
      have hkn : (k : Int) < (L.length : Int) := by omega
      obtain ⟨y, hy⟩ : ∃ y, e.2 = y := ⟨_, rfl⟩
      rw [hy] at hc
      by_cases hyx : y = x
      · have HF := Lib.hid (fidx_at hn he (hy.trans hyx))
        have hb : (y == x) = true := by simpa using hyx
        clear hn hcell he hy hyx
        subst hv1
        go_wp2_with fail
        go_ret
        exact ⟨Tk.ret_int HF.out.symm, rfl⟩
      · have HN := Lib.hid (show noneTo x L (k + 1) from fun i f hi hf => by
          rcases Nat.lt_or_ge i k with c | c
          · exact hn i f c hf
          · have : i = k := by omega
            subst this; rw [he] at hf; obtain rfl := Option.some.inj hf; rw [hy]; exact hyx)
        have hb : (y == x) = false := by simpa using hyx
        clear hn hcell he hy hyx
        subst hv1
        go_wp2_with fail
        go_round
        case rel => exact ⟨k + 1, hlt, by go_num, HN.out⟩
        case measure => simp [intOf]; omega
    · have hkl : k = L.length := by omega
      subst hkl
      have HF := Lib.hid (fidx_none hn)
      have hkq : q ≤ ((L.length : Nat) : Int) := by have := HQ.out; omega
      clear hn hlt
      go_wp2_with fail
      go_ret
      exact ⟨Tk.ret_int HF.out.symm, rfl⟩

theorem fidx_tim {x : Int} : ∀ {L : List (Int × Int)}, (tim x L = none ∧ fidx x L = -1) ∨ ∃ (k : Nat) (e : Int × Int), L[k]? = some e ∧ e.2 = x ∧ fidx x L = (k : Int) ∧ tim x L = some e.1 ∧ noneTo x L k
  | [] => Or.inl ⟨rfl, rfl⟩
  | a :: L => by
    unfold tim fidx
    rw [List.find?_cons]
    by_cases c : a.2 = x
    · exact Or.inr ⟨0, a, rfl, c, by rw [if_pos c]; rfl, by rw [decide_eq_true c]; rfl, fun i e hi => by omega⟩
    · rw [decide_eq_false c]
      rcases fidx_tim (x := x) (L := L) with ⟨h1, h2⟩ | ⟨k, e, h1, h2, h3, h4, h5⟩
      · exact Or.inl ⟨h1, by rw [if_neg c, if_pos (by omega)]⟩
      · refine Or.inr ⟨k + 1, e, h1, h2, by rw [if_neg c, if_neg (by omega), h3]; omega, h4, fun i f hi hf => ?_⟩
        cases i with
        | zero => simp at hf; subst hf; exact c
        | succ i => exact h5 i f (by omega) hf
set_option maxHeartbeats 800000 in
set_option maxRecDepth 100000 in
theorem rtime_any (h : RW w S B now last v L) (hL : L.length ≤ 100000) (x : Int) : Calls Try.prog 27 #[.pointer (some ⟨B, 0, none⟩), .int .i64 x] w fun e w' => e = .returned (.tuple #[.int .i64 ((tim x L).getD 0), .bool (tim x L).isSome]) ∧ w = w' := by
  have C := find_any h hL x
  rcases fidx_tim (x := x) (L := L) with ⟨h1, h2⟩ | ⟨k, e, h1, h2, h3, h4, _⟩
  · rw [h2] at C
    rw [h1]
    have C := Lib.hid C
    clear h h1 h2
    go_enter Try.func27, Try.ntmps27
    go_wp2_with (go_at_call 32; refine C.out.mono ?_; rintro e w' ⟨rfl, rfl⟩)
    go_ret2
    exact ⟨rfl, rfl⟩
  · rw [h3] at C
    rw [h4]
    have C := Lib.hid C
    have c2 := h.c2
    obtain ⟨g, off, cap, hv1, hcap, _, _, hcell⟩ := h.prs.at h1
    have hc := (hcell k e h1).1
    have hkn : (k : Int) < (L.length : Int) := by have := (List.getElem?_eq_some_iff.1 h1).1; omega
    obtain ⟨y, hy⟩ : ∃ y, e.1 = y := ⟨_, rfl⟩
    rw [hy] at hc ⊢
    clear h h1 h2 h3 h4 hcell hy
    subst hv1
    go_enter Try.func27, Try.ntmps27
    go_wp2_with (go_at_call 32; refine C.out.mono ?_; rintro e w' ⟨rfl, rfl⟩)
    go_ret2
    exact ⟨rfl, rfl⟩
end

end Go.Proofs.Ytffhjdkhmggakaa.Rf
