/- Plain facts on the times that a law adds, and on wheels that a law keeps. -/
import Derived.Test.YtffhjdkhmggakaaWhL
namespace Go.Proofs.Ytffhjdkhmggakaa.Wh
open Go.RowKit Tk Sl
open St (Kept)

/-- the first k of some times, added in their order -/
def laidN (F : Nat → Int) : Nat → List (Int × Int)
  | 0 => []
  | k + 1 => ins (clamp (F k)) ((k : Int) + 1) (laidN F k)
theorem laidN_length (F : Nat → Int) : ∀ k, (laidN F k).length = k
  | 0 => rfl
  | k + 1 => by unfold laidN; rw [ins_length, laidN_length F k]
theorem mem_ins {a h : Int} {L : List (Int × Int)} {e : Int × Int} : e ∈ ins a h L ↔ e = (a, h) ∨ e ∈ L := by
  unfold ins
  rw [List.mem_append, List.mem_cons, List.mem_filter, List.mem_filter]
  constructor
  · rintro (c | c | c)
    · exact Or.inr c.1
    · exact Or.inl c
    · exact Or.inr c.1
  · rintro (c | c)
    · exact Or.inr (Or.inl c)
    · by_cases d : e.1 ≤ a
      · exact Or.inl ⟨c, by simpa using d⟩
      · exact Or.inr (Or.inr ⟨c, by simp; omega⟩)
theorem mem_laidN (F : Nat → Int) : ∀ k a h, (a, h) ∈ laidN F k ↔ ∃ i : Nat, i < k ∧ a = clamp (F i) ∧ h = (i : Int) + 1
  | 0, a, h => by simp [laidN]
  | k + 1, a, h => by
    unfold laidN
    rw [mem_ins, mem_laidN F k a h]
    constructor
    · rintro (c | ⟨i, h1, h2, h3⟩)
      · exact ⟨k, by omega, congrArg Prod.fst c, congrArg Prod.snd c⟩
      · exact ⟨i, by omega, h2, h3⟩
    · rintro ⟨i, h1, h2, h3⟩
      rcases Nat.lt_or_ge i k with c | c
      · exact Or.inr ⟨i, c, h2, h3⟩
      · obtain rfl : i = k := by omega
        exact Or.inl (by rw [h2, h3])

section
variable {w0 w w' : World} {S S' : Nat → Prop} {B : Nat} {now last : Int} {L : List (Int × Int)}
theorem Whl.tim_iff (h : Whl w S B now last L) (x a : Int) : tim x L = some a ↔ (a, x) ∈ L := by
  obtain ⟨M, sv, ls, T, _, _, E, _⟩ := h
  rw [E.tim, E.mem]
  cases T x <;> simp
theorem Whl.ord (h : Whl w S B now last L) : L.Pairwise lt2 := by obtain ⟨M, sv, ls, T, _, _, E, _⟩ := h; exact E.ord
theorem Whl.del_len (h : Whl w S B now last L) {x a : Int} (hx : tim x L = some a) : (del x L).length + 1 = L.length := by
  obtain ⟨M, sv, ls, T, _, _, E, _⟩ := h
  exact del_length E (fun c => by rw [E.tim, c] at hx; cases hx)

/-- what was there when the law began stays, and all that it has is new -/
structure Acc (w0 : World) (S : Nat → Prop) (w : World) : Prop where
  kept : Kept w0 w
  new : ∀ k, S k → w0.heap.size ≤ k
theorem Acc.step (a : Acc w0 S w) (f : Fr S w w') (s : ∀ k, S' k → S k ∨ w.heap.size ≤ k) : Acc w0 S' w' := by
  have := a.kept.size
  exact ⟨((Fr.kept (S := S) a.kept).trans f (fun k c => Or.inl c)).keeps a.new, fun k c => (s k c).elim (a.new k) (fun c => by omega)⟩
theorem Acc.go (a : Acc w0 S w) (k : Kept w w') : Acc w0 S w' := ⟨a.kept.trans k, a.new⟩
theorem Acc.start (k : Kept w0 w) (s : ∀ k, S k → w0.heap.size ≤ k) : Acc w0 S w := ⟨k, s⟩

/-- a wheel of a law -/
def Lw (w0 : World) (B : Nat) (now last : Int) (L : List (Int × Int)) (w : World) : Prop := ∃ S, Whl w S B now last L ∧ Acc w0 S w
theorem Lw.step (_ : Whl w S B now last L) (a : Acc w0 S w) {now' last' : Int} {L' : List (Int × Int)} (d : Went w S B now' last' L' w') : Lw w0 B now' last' L' w' := by
  obtain ⟨S', d1, d2, d3⟩ := d
  exact ⟨S', d1, a.step d3 d2⟩
end

section
variable {w : World}
set_option maxHeartbeats 1000000 in
set_option maxRecDepth 100000 in
theorem full_any (a : Int) (w : World) : Calls Try.prog 7 #[.int .i64 a] w fun e w' => e = .returned (.bool true) ∧ Kept w w' := by
  go_enter Try.func7, Try.ntmps7
  go_wp2_with fail
  refine (new_any 0).mono ?_
  rintro e w1 ⟨S1, B, rfl, h1, s1, k1⟩
  have h1 : Whl w1 S1 B 0 0 [] := h1
  have H0 := Lib.hid (show Lw w B 0 ((0 : Nat) : Int) (laidN (fun _ => a) 0) w1 from ⟨S1, h1, k1, s1⟩)
  clear h1 s1 k1
  go_wp2_with fail
  go_loopw [4] (fun i wr => ∃ k : Nat, k ≤ 4096 ∧ i = .int .i64 (k : Int) ∧ Lw w B 0 (k : Int) (laidN (fun _ => a) k) wr) (fun i _ => 4096 - (intOf i).toNat)
  case atStart => exact ⟨0, Nat.zero_le _, rfl, H0.out⟩
  case round =>
    obtain ⟨k, hk, rfl, S2, h2, A2⟩ := hrel
    have hlen := laidN_length (fun _ => a) k
    by_cases hlt : k < 4096
    · have C := Lib.hid ((add_room h2 (by omega) (by omega) a).mono (fun e w' hp => show e = .returned (.tuple #[.int .i64 ((k : Int) + 1), .int .i64 0]) ∧ Lw w B 0 ((k + 1 : Nat) : Int) (laidN (fun _ => a) (k + 1)) w' from ⟨hp.1, by
        have := Lw.step h2 A2 hp.2
        rw [show ((k + 1 : Nat) : Int) = (k : Int) + 1 by omega]; exact this⟩))
      clear h2 A2 hlen
      go_wp2_with fail
      refine C.out.mono ?_
      rintro e w3 ⟨rfl, h3⟩
      go_wp2_with fail
      go_roundw
      case rel => exact ⟨k + 1, hlt, by go_num, h3⟩
      case measure => simp [intOf]; omega
    · have hk : k = 4096 := by omega
      subst hk
      have h7 : tim 7 (laidN (fun _ => a) 4096) = some (clamp a) := (h2.tim_iff _ _).2 ((mem_laidN _ _ _ _).2 ⟨6, by omega, rfl, rfl⟩)
      have C1 := Lib.hid (add_full h2 hlen a)
      have C2 := Lib.hid (cancel_some h2 (x := 7) (inR_of (by omega) (by omega)) h7)
      have hdel := h2.del_len h7
      have H2 := Lib.hid (And.intro h2 A2)
      have H7 := Lib.hid h7
      clear h2 A2 h7
      go_wp2_with fail
      refine C1.out.mono ?_
      rintro e w3 ⟨rfl, rfl⟩
      go_wp2_with fail
      refine C2.out.mono ?_
      rintro e w4 ⟨he, hd⟩
      rw [H7.out] at he
      have he : e = .returned (.bool true) := he
      subst he
      obtain ⟨S4, h4, A4⟩ := Lw.step H2.out.1 H2.out.2 hd
      have C3 := Lib.hid (add_room h4 (by omega) (by omega) a)
      have H4 := Lib.hid (And.intro h4 A4)
      clear hd h4 A4
      go_wp2_with fail
      refine C3.out.mono ?_
      rintro e w5 ⟨rfl, hd⟩
      obtain ⟨S5, h5, A5⟩ := Lw.step H4.out.1 H4.out.2 hd
      have hl5 : (ins (clamp a) (((4096 : Nat) : Int) + 1) (del 7 (laidN (fun _ => a) 4096))).length = 4096 := by rw [ins_length]; omega
      have C4 := wlen_any h5
      rw [hl5] at C4
      have C4 : Calls Try.prog 13 #[.pointer (some ⟨B, 0, none⟩)] w5 fun e w' => e = .returned (.int .i64 4096) ∧ w5 = w' := C4
      have C4 := Lib.hid C4
      have A5 := Lib.hid A5.kept
      clear hd h5 hl5 hdel hlen
      go_wp2_with fail
      refine C4.out.mono ?_
      rintro e w6 ⟨rfl, rfl⟩
      go_wp2_with fail
      refine (awake_any _).mono ?_
      rintro e w7 ⟨rfl, hk7⟩
      go_wp2_with fail
      go_ret
      exact ⟨rfl, A5.out.trans hk7⟩
end

end Go.Proofs.Ytffhjdkhmggakaa.Wh
