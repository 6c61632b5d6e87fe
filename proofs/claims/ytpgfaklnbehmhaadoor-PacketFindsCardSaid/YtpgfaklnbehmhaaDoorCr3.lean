/- Contracts of what seals and opens. -/
import Derived.Test.YtpgfaklnbehmhaaDoorCr2
namespace Go.Proofs.YtpgfaklnbehmhaaDoor.Cr
open Go.RowKit St Go.Sort CrM
set_option linter.unusedVariables false

theorem two_text (c : V) (w : World) : ∃ D : ByteArray, (convert 57 9 (.slice (some ⟨w.heap.size, 0, none⟩) 2 2)).run Tryd.prog (w.alloc (.cells #[.int .u8 ((c.toNat : Int) / 256), .int .u8 ((c.toNat : Int) % 256)] 5)) =
    .ok (.string D) (w.alloc (.cells #[.int .u8 ((c.toNat : Int) / 256), .int .u8 ((c.toNat : Int) % 256)] 5)) ∧ RowKit.Hid (D.data.toList = [hi8 c, lo8 c]) ∧ RowKit.Hid (D.size = 2) := by
  refine ⟨⟨[hi8 c, lo8 c].toArray⟩, ?_, rfl, rfl⟩
  have h := conv_new w [hi8 c, lo8 c] 2
  have e : (cellsOf [hi8 c, lo8 c]).toArray = #[.int .u8 ((c.toNat : Int) / 256), .int .u8 ((c.toNat : Int) % 256)] := by
    simp only [cellsOf, List.map, hi8_nat, lo8_nat]; rfl
  rw [e] at h
  exact h

set_option maxHeartbeats 400000 in
theorem seal_any (s : ByteArray) (hs : s.size ≤ 5000) (w : World) (ht : Tab w) :
    Calls Tryd.prog 23 #[.string s] w fun e w' => e = .returned (.string ⟨(sealed s.data.toList).toArray⟩) ∧ Kept w w' := by
  have hsum := sum_any s (by unfold maxLen; omega) w ht
  obtain ⟨c, hc⟩ : ∃ c, cr 0xFFFF#16 s.data.toList = c := ⟨_, rfl⟩
  rw [hc] at hsum
  have HV := Lib.hid (show sealed s.data.toList = s.data.toList ++ [hi8 c, lo8 c] by unfold sealed; rw [hc])
  have HS := Lib.hid hsum
  clear hc hsum
  have hl := c.isLt
  obtain ⟨D, hconv, hD, hS⟩ := two_text c w
  have n1 : ¬ 9223372036854775807 < s.size + D.size := by have := hS.out; omega
  go_enter Tryd.func23, Tryd.ntmps23
  go_wp2_with (go_at_call 45; refine HS.out.mono ?_; rintro e w' ⟨rfl, rfl⟩)
  go_ret
  exact ⟨ret_str (by simp [HV.out, hD.out]), (Below.refl _ _).alloc (Nat.le_refl _) _⟩

set_option maxHeartbeats 400000 in
theorem rseal_any (s : ByteArray) (hs : s.size ≤ 5000) (w : World) :
    Calls Tryd.prog 14 #[.string s] w fun e w' => e = .returned (.string ⟨(sealed s.data.toList).toArray⟩) ∧ Kept w w' := by
  have hsum := rsum_any s (by unfold maxLen; omega) w
  obtain ⟨c, hc⟩ : ∃ c, cr 0xFFFF#16 s.data.toList = c := ⟨_, rfl⟩
  rw [hc] at hsum
  have HV := Lib.hid (show sealed s.data.toList = s.data.toList ++ [hi8 c, lo8 c] by unfold sealed; rw [hc])
  have HS := Lib.hid hsum
  clear hc hsum
  have hl := c.isLt
  obtain ⟨D, hconv, hD, hS⟩ := two_text c w
  have n1 : ¬ 9223372036854775807 < s.size + D.size := by have := hS.out; omega
  go_enter Tryd.func14, Tryd.ntmps14
  go_wp2_with (go_at_call 36; refine HS.out.mono ?_; rintro e w' ⟨rfl, rfl⟩)
  go_ret
  exact ⟨ret_str (by simp [HV.out, hD.out]), (Below.refl _ _).alloc (Nat.le_refl _) _⟩

/-- whether a text is sealed; what is sealed there -/
def openOk (l : List UInt8) : Bool := decide (2 ≤ l.length) && decide (cr 0xFFFF#16 l = 0#16)
def openT (l : List UInt8) : List UInt8 := if openOk l then l.take (l.length - 2) else []
theorem openT_no (l : List UInt8) (h : openOk l = false) : openT l = [] := by unfold openT; rw [h]; rfl
theorem openT_yes (l : List UInt8) (h : openOk l = true) : openT l = l.take (l.length - 2) := by unfold openT; rw [h]; rfl
theorem open_seal (l : List UInt8) (h : 2 ≤ l.length) : openOk l = decide (sealed (l.take (l.length - 2)) = l) := by
  unfold openOk
  rw [decide_eq_true h, Bool.true_and]
  exact decide_eq_decide.mpr (seal_iff l h).symm
/-- what stands ahead of the last two bytes -/
theorem head_cut (s : ByteArray) (h : 2 ≤ s.size) : ∃ D : ByteArray, (∀ w, (Instr.slice 9 (.string s) none (some (.int .i64 ((s.size : Int) - 2))) none).run Tryd.prog w = .ok (.string D) w) ∧
    RowKit.Hid (D.data.toList = s.data.toList.take (s.data.toList.length - 2)) ∧ D.size ≤ s.size := by
  have e := size_list s
  refine ⟨s.extract 0 (s.size - 2), fun w => ?_, ?_, ?_⟩
  · rw [run_slice_string_to_if w 9 s .i64 _ Tryd.underlying9, if_pos ⟨by omega, by omega⟩]
    rw [show ((s.size : Int) - 2).toNat = s.size - 2 by omega]
  · show _ = _; rw [extract_list, ← e]; rfl
  · simp

theorem told_no {D E s : ByteArray} (h2 : 2 ≤ s.data.toList.length) (hD : D.data.toList = s.data.toList.take (s.data.toList.length - 2)) (hE : E = ⟨(sealed D.data.toList).toArray⟩)
    (h : (!E.toList == s.toList) = true) : openOk s.data.toList = false := by
  rw [open_seal _ h2, ← hD]
  rw [ByteArray.toList_eq, ByteArray.toList_eq, hE] at h
  simpa using h
theorem told_yes {D E s : ByteArray} (h2 : 2 ≤ s.data.toList.length) (hD : D.data.toList = s.data.toList.take (s.data.toList.length - 2)) (hE : E = ⟨(sealed D.data.toList).toArray⟩)
    (h : (!E.toList == s.toList) = false) : openOk s.data.toList = true ∧ openT s.data.toList = D.data.toList := by
  have : openOk s.data.toList = true := by
    rw [open_seal _ h2, ← hD]
    rw [ByteArray.toList_eq, ByteArray.toList_eq, hE] at h
    simpa using h
  exact ⟨this, by rw [openT_yes _ this, hD]⟩
theorem ret_pair {a b : ByteArray} {x y : Bool} (h : a.data.toList = b.data.toList) (h2 : x = y) : Ending.returned (.tuple #[.string a, .bool x]) = .returned (.tuple #[.string b, .bool y]) := by
  cases a; cases b; simp_all

set_option maxHeartbeats 400000 in
theorem open_any (s : ByteArray) (hs : s.size ≤ 5000) (w : World) (ht : Tab w) :
    Calls Tryd.prog 26 #[.string s] w fun e w' => e = .returned (.tuple #[.string ⟨(openT s.data.toList).toArray⟩, .bool (openOk s.data.toList)]) ∧ Kept w w' := by
  have hl := Lib.hid (size_list s)
  by_cases h2 : s.size < 2
  · have hno : openOk s.data.toList = false := by unfold openOk; rw [← hl.out, decide_eq_false (by omega)]; rfl
    have hT := Lib.hid (openT_no _ hno)
    have HN := Lib.hid hno
    clear hno
    go_enter Tryd.func26, Tryd.ntmps26
    go_wp2_with fail
    go_ret2
    exact ⟨ret_pair (by rw [hT.out]) HN.out.symm, Kept.refl _⟩
  · obtain ⟨D, hcut, hD, hsz⟩ := head_cut s (by omega)
    have hS := seal_any D (by omega) w ht
    obtain ⟨E, hE⟩ : ∃ E : ByteArray, E = ⟨(sealed D.data.toList).toArray⟩ := ⟨_, rfl⟩
    rw [← hE] at hS
    have HS := Lib.hid hS
    have HE := Lib.hid hE
    clear hS hE
    have h2' : 2 ≤ s.data.toList.length := by rw [← hl.out]; omega
    go_enter Tryd.func26, Tryd.ntmps26
    go_wp2_with (go_at_call 23; refine HS.out.mono ?_; rintro e w' ⟨rfl, hk⟩)
    · have ht : (!E.toList == s.toList) = true := by assumption
      have hno := told_no h2' hD.out HE.out ht
      have hT := openT_no _ hno
      go_ret2
      exact ⟨ret_pair (by rw [hT]) hno.symm, hk⟩
    · have ht : (!E.toList == s.toList) = false := by assumption
      obtain ⟨hyes, hT⟩ := told_yes h2' hD.out HE.out ht
      go_ret2
      exact ⟨ret_pair (by rw [hT]) hyes.symm, hk⟩


end Go.Proofs.YtpgfaklnbehmhaaDoor.Cr
