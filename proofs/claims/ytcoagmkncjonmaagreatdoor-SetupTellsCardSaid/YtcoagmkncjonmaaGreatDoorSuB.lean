/- Package setup: a text's lines, by strings.Lines: what it yields. -/
import Derived.Test.YtcoagmkncjonmaaGreatDoorSu5
import Derived.Test.YtcoagmkncjonmaaGreatDoorSqB
import Derived.Test.YtcoagmkncjonmaaGreatDoorPg10
namespace Go.Proofs.YtcoagmkncjonmaaGreatDoor.Su
open Go.RowKit Go.Sort Go.Shelf St Blk At
open Pg (textT rightB cut_front cut_back)
open Wh (Fr)
set_option linter.unusedVariables false
set_option linter.unusedSimpArgs false

theorem itoa_no10 (n : Int) : ∀ x ∈ Lib.itoa n, x ≠ 10 := by
  intro x hx e
  subst e
  have hd : ¬ IdM.digit 10 := by unfold IdM.digit; decide
  unfold Lib.itoa at hx
  split at hx
  · rcases List.mem_cons.1 hx with h | h
    · exact absurd h (by decide)
    · exact hd (IdM.dec_digits _ _ h)
  · exact hd (IdM.dec_digits _ _ hx)
theorem verb_no10 {k : Int} (h : Pg.knownB k = true) : ∀ x ∈ Pg.verb k, x ≠ 10 := by
  rcases Pg.known_cases h with rfl | rfl | rfl | rfl | rfl | rfl | rfl <;> decide +kernel
theorem step_no10 {o : Pg.Op} (h : Pg.knownB o.k = true) : ∀ x ∈ Pg.stepT o, x ≠ 10 := by
  intro x hx
  unfold Pg.stepT at hx
  rcases List.mem_append.1 hx with hx | hx
  · exact verb_no10 h x hx
  · rcases Pg.nums_le h with e | e | e <;> rw [e] at hx <;> simp only [Pg.numT, List.mem_cons, List.mem_append, List.not_mem_nil] at hx
    · rcases hx with rfl | hx
      · decide
      · exact itoa_no10 _ x hx
    · rcases hx with rfl | hx | rfl | hx
      · decide
      · exact itoa_no10 _ x hx
      · decide
      · exact itoa_no10 _ x hx
theorem tail_no10 : ∀ (L : List Pg.Op), Pg.allK L = true → ∀ x ∈ Pg.tailT L, x ≠ 10
  | [], _, x, hx => by simp [Pg.tailT] at hx
  | o :: L, h, x, hx => by
    unfold Pg.allK at h
    rw [List.all_cons, Bool.and_eq_true] at h
    simp only [Pg.tailT, List.mem_cons, List.mem_append] at hx
    rcases hx with rfl | rfl | hx | hx
    · decide
    · decide
    · exact step_no10 h.1 x hx
    · exact tail_no10 L h.2 x hx
theorem text_no10 (L : List Pg.Op) : ∀ x ∈ textT L, x ≠ 10 := by
  intro x hx
  unfold textT at hx
  split at hx
  · rename_i h
    cases L with
    | nil => simp [Pg.joinT] at hx
    | cons o L =>
      unfold Pg.allK at h
      rw [List.all_cons, Bool.and_eq_true] at h
      rcases List.mem_append.1 hx with hx | hx
      · exact step_no10 h.1 x hx
      · exact tail_no10 L h.2 x hx
  · simp at hx
theorem word_no10 {k : Nat} (hk : k < 13) : ∀ x ∈ wordL k, x ≠ 10 := by
  rcases k_cases hk with rfl | rfl | rfl | rfl | rfl | rfl | rfl | rfl | rfl | rfl | rfl | rfl | rfl <;> decide
theorem txt_no10 {x : Ln} (h : x.Ok) : ∀ b ∈ x.txt, b ≠ 10 := by
  intro b hb
  cases x with
  | no t => exact h.2.1 b hb
  | prog L =>
    unfold Ln.txt progT behind at hb
    rcases List.mem_append.1 hb with hb | hb
    · exact (show ∀ x ∈ progW, x ≠ 10 by decide) b hb
    · split at hb
      · simp at hb
      · rcases List.mem_cons.1 hb with rfl | hb
        · decide
        · exact text_no10 L b hb
  | num k n =>
    unfold Ln.txt lineT at hb
    rcases List.mem_append.1 hb with hb | hb
    · exact word_no10 h.1 b hb
    · rcases List.mem_cons.1 hb with rfl | hb
      · decide
      · exact itoa_no10 n b hb
theorem txt_len {x : Ln} (h : x.Ok) : x.txt.length ≤ 100000 := by
  cases x with
  | no t => exact Nat.le_trans h.2.2 (by omega)
  | prog L =>
    have h1 := (Pg.right_all h.1).1
    have h2 : (textT L).length ≤ 52000 := by
      unfold textT
      split
      · rename_i hh
        have := Pg.join_len hh h.2; omega
      · simp
    have h3 : (behind (textT L)).length ≤ 52001 := by unfold behind; split <;> simp; omega
    have h4 : progW.length = 7 := rfl
    show (progT L).length ≤ _
    unfold progT
    rw [List.length_append]; omega
  | num k n =>
    have h1 := Lib.itoa_length_le n (by have := h.2.1; omega) (by have := h.2.2; omega)
    have h2 : (wordL k).length ≤ 10 := by
      rcases k_cases h.1 with rfl | rfl | rfl | rfl | rfl | rfl | rfl | rfl | rfl | rfl | rfl | rfl | rfl <;> decide
    show (lineT k n).length ≤ _
    unfold lineT
    rw [List.length_append, List.length_cons]; omega
theorem index_nl (t r : List UInt8) (h : ∀ x ∈ t, x ≠ 10) : Lib.indexByte (t ++ 10 :: r) 10 = t.length := by
  induction t with
  | nil => simp [Lib.indexByte]
  | cons b t ih =>
    have h1 := ih (fun x hx => h x (List.mem_cons_of_mem _ hx))
    have h2 : (b == 10) = false := beq_eq_false_iff_ne.2 (h b List.mem_cons_self)
    have h3 : ((t.length : Int) == -1) = false := beq_eq_false_iff_ne.2 (by omega)
    rw [List.cons_append]
    unfold Lib.indexByte
    rw [h2, h1, h3]
    simp
theorem indexb_as {T : ByteArray} {c : Int} (hc : Lib.indexByte T.data.toList 10 = c) (w : World) : Calls Tryz.prog 52 #[.string T, .int .u8 10] w fun e w' => e = .returned (.int .i64 c) ∧ w = w' := by
  have HC := Lib.hid (fun w => (Tryz.stringslite_IndexByte T 10 w).mono (R' := fun e w' => e = .returned (.int .i64 c) ∧ w = w') (by rintro e w' ⟨rfl, rfl⟩; exact ⟨by rw [← hc]; rfl, rfl⟩))
  clear hc
  go_enter Tryz.func52, Tryz.ntmps52
  go_wp2_with (go_at_call 62; refine (HC.out _).mono ?_; rintro e w1 ⟨rfl, rfl⟩)
  go_ret
  exact ⟨rfl, rfl⟩

/-- what is yielded: each line, with its end -/
def isLine (ls : List Ln) (i : Nat) (v : Value) : Prop := ∃ x S, ls[i]? = some x ∧ v = .string S ∧ S.data.toList = x.txt ++ [10]
def leftL (B : Nat) (ls : List Ln) (A : World) : Prop := ∃ S : ByteArray, A.heap[B]? = some (.cells #[.string S] 9 (0, 0)) ∧ S.data.toList = linesT ls

set_option maxRecDepth 100000 in
set_option maxHeartbeats 4000000 in
theorem lines_seq (n : Nat) (hn : 1 ≤ n) (B : Nat) (ls : List Ln) (hk : ∀ x ∈ ls, x.Ok) :
    Sq.SeqSx n Tryz.prog 51 #[.pointer (some ⟨B, 0, none⟩)] (isLine ls) ls.length B (fun _ => True) (leftL B ls) := by
  intro l J Jx W hJ hJx hown hY h0 hst
  obtain ⟨S, hS, hSl⟩ := hst
  refine callsIn_of_wp Tryz.func51 rfl trivial ?_ rfl
  simp only [Tryz.ntmps51, List.size_toArray, List.length_cons, List.length_nil, Nat.reduceAdd, Nat.reduceSub, Array.replicate_succ, Array.replicate_zero, List.push_toArray, List.append_toArray, List.nil_append, List.cons_append]
  have hJo := Lib.hid (And.intro hJ hJx)
  have hYo := Lib.hid hY
  have hKo := Lib.hid hk
  have hSo := Lib.hid (And.intro hS hSl)
  have h0o := Lib.hid h0
  clear hJ hJx hY hk hS hSl h0 hown
  gi_wp2
  gi_loopw [5] (fun _ wr => ∃ (i : Nat) (T : ByteArray), i ≤ ls.length ∧ J i wr ∧ wr.heap[B]? = some (.cells #[.string T] 9 (0, 0)) ∧ Hid (T.data.toList = linesT (ls.drop i))) (fun _ wr => Pg.strLen wr B)
  case atStart => exact ⟨0, S, Nat.zero_le _, h0o.out, hSo.out.1, hSo.out.2⟩
  case round =>
    obtain ⟨i, T, hi, hJi, hT, hTl⟩ := hrel
    have c0 : wr.cell? ⟨B, 0, none⟩ = some (.string T) := by rw [blk_cell hT]; rfl
    by_cases hlt : i < ls.length
    · have ho : ls[i]? = some ls[i] := List.getElem?_eq_getElem hlt
      obtain ⟨x, hx⟩ : ∃ x, ls[i] = x := ⟨_, rfl⟩
      rw [hx] at ho
      have hok := hKo.out x (List.mem_of_getElem? ho)
      have hst := lines_step ho
      obtain ⟨p, hp⟩ : ∃ p : ByteArray, p.data.toList = x.txt ++ [10] := ⟨⟨(x.txt ++ [10]).toArray⟩, rfl⟩
      obtain ⟨q, hq⟩ : ∃ q : ByteArray, q.data.toList = linesT (ls.drop (i + 1)) := ⟨⟨(linesT (ls.drop (i + 1))).toArray⟩, rfl⟩
      have hTo : T.data.toList = p.data.toList ++ q.data.toList := by rw [hTl.out, hst, hp, hq]
      have hps : p.size = x.txt.length + 1 := by rw [size_list, hp]; simp
      have hT0 : 0 < T.size := by rw [size_list, hTo, List.length_append, ← size_list, hps]; omega
      obtain ⟨c, hc⟩ : ∃ c : Int, (x.txt.length : Int) = c := ⟨_, rfl⟩
      have hc0 : 0 ≤ c := by omega
      have hc1 : c ≤ 100000 := by have := txt_len hok; omega
      have HX := Lib.hid (indexb_as (T := T) (c := c) (by rw [hTo, hp, List.append_assoc, ← hc]; exact index_nl _ _ (txt_no10 hok)) wr)
      have hfront := cut_front T p (c + 1) (by rw [hps, ← hc]; rfl) q.data.toList hTo
      have hback := cut_back T q (c + 1) p.data.toList (by rw [← size_list, hps, ← hc]; rfl) hTo
      have HTS := Lib.hid (show q.size < T.size by rw [size_list q, size_list T, hTo, List.length_append, ← size_list p, hps]; omega)
      have f0 := blk_free hT 0
      have hset := blk_set hT 0 (.string q)
      have hJ2 := hJo.out.1 i wr ((wr.setCell ⟨B, 0, none⟩ (.string q)).drew) hJi (((Fr.refl (fun k => k = B) wr).setCell (p := ⟨B, 0, none⟩) (.inl rfl) _).drew)
      obtain ⟨fn, tmps, assign, body, hy, hR⟩ := hYo.out i (.string p) _ hJ2 hlt ⟨x, p, ho, rfl, hp⟩
      have HT := Lib.hid (And.intro hT (And.intro hset hq))
      have hTI : 0 < (T.size : Int) := by omega
      clear ho hx hok hst hTo hps hc hp hq hT hset hJi hJ2
      gi_wp2
      refine ⟨trivial, ?_⟩
      refine (callsIn_wide.2 HX.out).mono ?_
      rintro e w' ⟨rfl, rfl⟩
      gi_wp2
      gi_region
      gi_wp2
      refine hR.mono ?_
      rintro e W3 (⟨rfl, hJ3, hB3⟩ | ⟨rfl, hx3⟩)
      · have hB4 : W3.heap[B]? = some (.cells #[.string q] 9 (0, 0)) := hB3.trans HT.out.2.1
        have HB := Lib.hid (And.intro hJ3 hB4)
        clear hJ3 hB3 hB4 hy hR
        gi_wp2
        go_roundw
        case rel => exact ⟨i + 1, q, hlt, HB.out.1, HB.out.2, HT.out.2.2⟩
        case measure => rw [Pg.strLen_eq HB.out.2, Pg.strLen_eq HT.out.1]; exact HTS.out
      · have HX3 := Lib.hid hx3
        clear hx3 hy hR
        gi_wp2
        refine bodyPost_ret (results_none rfl _ _ _) rfl ?_
        exact ⟨⟨_, rfl⟩, .inr HX3.out⟩
    · obtain rfl : i = ls.length := by omega
      obtain rfl : T = ⟨#[]⟩ := Pg.same_bytes (by rw [hTl.out, List.drop_length]; rfl)
      have HJ := Lib.hid hJi
      clear hJi hT hTl
      gi_wp2
      go_end0
      exact ⟨⟨_, rfl⟩, .inl HJ.out⟩

theorem lines_any (s : ByteArray) (w : World) :
    Calls Tryz.prog 36 #[.string s] w fun e w' => e = .returned (.func (.func 51) #[] #[.pointer (some ⟨w.heap.size, 0, none⟩)]) ∧ w' = w.alloc (.cells #[.string s] 9) := by
  go_enter Tryz.func36, Tryz.ntmps36
  go_wp2_with fail
  go_ret
  exact ⟨by simp, rfl⟩
theorem trim_any {p S : ByteArray} {t : List UInt8} (hp : p.data.toList = t ++ [10]) (hS : S.data.toList = t) (hz : p.size ≤ 9223372036854775807) (w : World) :
    Calls Tryz.prog 38 #[.string p, .string ⟨#[10]⟩] w fun e w' => e = .returned (.string S) ∧ w = w' := by
  refine (Tryz.strings_TrimSuffix p ⟨#[10]⟩ w hz).mono ?_
  rintro e w' ⟨rfl, rfl⟩
  refine ⟨?_, rfl⟩
  have : Lib.trimSuffix p.data.toList [10] = t := by
    rw [hp]
    unfold Lib.trimSuffix
    rw [if_pos (by unfold Lib.hasSuffix; simp)]
    simp
  show Ending.returned (.string ⟨(Lib.trimSuffix p.data.toList [10]).toArray⟩) = _
  rw [this, str_of S t hS]

end Go.Proofs.YtcoagmkncjonmaaGreatDoor.Su
