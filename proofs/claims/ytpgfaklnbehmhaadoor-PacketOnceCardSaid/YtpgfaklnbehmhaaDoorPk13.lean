/- Package packet: packets parsed. -/
import Derived.Test.YtpgfaklnbehmhaaDoorPk12
import Derived.Test.YtpgfaklnbehmhaaDoorPkB
import Derived.Test.YtpgfaklnbehmhaaDoorPk9
namespace Go.Proofs.YtpgfaklnbehmhaaDoor.Pk
open Go.RowKit Go.Sort St BsM IdM PkM
open Go.Proofs.YtpgfaklnbehmhaaDoor.Id
open Go.Proofs.YtpgfaklnbehmhaaDoor.Bs (kept_blk Rd Only Does)
set_option linter.unusedVariables false

/-- the packet that is parsed, and what is wrong -/
def prsB (l : List UInt8) : Bool := Cr.openOk l && (decide (endV (bodS (Cr.openT l, 0)) = 0) && okB (bodP (Cr.openT l, 0)))
def prsP (l : List UInt8) : Pk := if prsB l then bodP (Cr.openT l, 0) else Pk.none
def prsE (l : List UInt8) : Int := if Cr.openOk l then (if endV (bodS (Cr.openT l, 0)) = 0 then (if okB (bodP (Cr.openT l, 0)) then 0 else 2) else endV (bodS (Cr.openT l, 0))) else 4
theorem prs_sum {l : List UInt8} (h : Cr.openOk l = false) : prsP l = Pk.none ∧ prsE l = 4 := by unfold prsP prsE prsB; rw [h]; exact ⟨rfl, rfl⟩
theorem prs_bad {l : List UInt8} (h : Cr.openOk l = true) (h2 : ¬ endV (bodS (Cr.openT l, 0)) = 0) : prsP l = Pk.none ∧ prsE l = endV (bodS (Cr.openT l, 0)) := by
  unfold prsP prsE prsB; rw [h, decide_eq_false h2, if_neg h2]; exact ⟨rfl, rfl⟩
theorem prs_arg {l : List UInt8} (h : Cr.openOk l = true) (h2 : endV (bodS (Cr.openT l, 0)) = 0) (h3 : okB (bodP (Cr.openT l, 0)) = false) : prsP l = Pk.none ∧ prsE l = 2 := by
  unfold prsP prsE prsB; rw [h, decide_eq_true h2, if_pos h2, h3]; exact ⟨rfl, rfl⟩
theorem prs_ok {l : List UInt8} (h : Cr.openOk l = true) (h2 : endV (bodS (Cr.openT l, 0)) = 0) (h3 : okB (bodP (Cr.openT l, 0)) = true) : prsP l = bodP (Cr.openT l, 0) ∧ prsE l = 0 := by
  unfold prsP prsE prsB; rw [h, decide_eq_true h2, if_pos h2, h3]; exact ⟨rfl, rfl⟩

/-- where a call w stands that has laid its result and a reader (at block r) -/
structure Pz (w : World) (r : Nat) (s : S) (u : World) : Prop where
  kept : Kept w u
  lt : w.heap.size < r
  rd : Rd u r s
  res : u.heap[w.heap.size]? = some (.cells Pk.none.arr 27 (0, 0))
theorem Pz.go {w : World} {r : Nat} {s s' : S} {u v : World} (h : Pz w r s u) (hr : Rd v r s') (ho : Only r u v) : Pz w r s' v :=
  ⟨ho.below h.kept (by have := h.lt; omega) (Below.size h.kept), h.lt, hr, ho.other h.res (by have := h.lt; omega)⟩
theorem Pz.more {w : World} {r : Nat} {s : S} {u v : World} (h : Pz w r s u) (k : Kept u v) : Pz w r s v := ⟨h.kept.trans k, h.lt, h.rd.kept k, kept_blk k h.res⟩

set_option maxRecDepth 100000 in
set_option maxHeartbeats 4000000 in
theorem parse_sum (D : ByteArray) (hD : D.size ≤ 5000) (w : World) (ht : Cr.Tab w) (h : Cr.openOk D.data.toList = false) : Calls Tryd.prog 12 #[.string D] w fun e w' => e = .returned (.tuple #[.agg (prsP D.data.toList).arr, .int .i64 (prsE D.data.toList)]) ∧ Kept w w' := by
  have hk0 : Kept w (w.alloc (.cells #[.int .i64 0, .int .i64 0, .int .i64 0, .int .i64 0, .int .i64 0, .int .i64 0, .int .i64 0, .int .i64 0, .int .i64 0, .string ⟨#[]⟩, .int .i64 0, .int .i64 0, .int .i64 0, .int .i64 0, .int .i64 0, .int .i64 0, .int .i64 0, .int .i64 0, .int .i64 0, .int .i64 0, .int .i64 0, .bool false, .int .i64 0] 27 (0, 0))) := Kept.one _ _
  have hres0 : (w.alloc (.cells #[.int .i64 0, .int .i64 0, .int .i64 0, .int .i64 0, .int .i64 0, .int .i64 0, .int .i64 0, .int .i64 0, .int .i64 0, .string ⟨#[]⟩, .int .i64 0, .int .i64 0, .int .i64 0, .int .i64 0, .int .i64 0, .int .i64 0, .int .i64 0, .int .i64 0, .int .i64 0, .int .i64 0, .int .i64 0, .bool false, .int .i64 0] 27 (0, 0))).heap[w.heap.size]? = some (.cells Pk.none.arr 27 (0, 0)) := blk_new w _
  have hop := Cr.open_any D hD (w.alloc (.cells #[.int .i64 0, .int .i64 0, .int .i64 0, .int .i64 0, .int .i64 0, .int .i64 0, .int .i64 0, .int .i64 0, .int .i64 0, .string ⟨#[]⟩, .int .i64 0, .int .i64 0, .int .i64 0, .int .i64 0, .int .i64 0, .int .i64 0, .int .i64 0, .int .i64 0, .int .i64 0, .int .i64 0, .int .i64 0, .bool false, .int .i64 0] 27 (0, 0))) (ht.kept hk0)
  obtain ⟨X, hX⟩ : ∃ E : ByteArray, Hid ((⟨(Cr.openT D.data.toList).toArray⟩ : ByteArray) = E) := ⟨_, rfl⟩
  rw [hX.out] at hop
  rw [h] at hop
  have HO := Lib.hid hop
  have HV := Lib.hid (prs_sum h)
  clear hop h ht
  go_enter Tryd.func12, Tryd.ntmps12
  go_wp2_with (first
    | (go_at_call 26; refine HO.out.mono ?_; rintro e u ⟨rfl, hk⟩; have hres := kept_blk hk hres0)
    | (refine wpList_store_row rfl 27 (.tmp 2) (.tmp 16) rfl w.heap.size Pk.none.arr rfl rfl 27 _ hres info_pk rfl (by kernel_rfl) ?_))
  refine bodyPost_ret (Rw.results_row_tmp rfl _ _ w.heap.size 27 _ (0, 0) _ rfl (setRow_heap _ _ _ _ _ _ hres) Tryd.underlying27 rfl info_pk) rfl ?_
  exact ⟨by rw [HV.out.1, HV.out.2]; rfl, kept_row (hk0.trans hk) (Nat.le_refl _) _⟩

set_option maxRecDepth 100000 in
set_option maxHeartbeats 4000000 in
theorem parse_bad (D : ByteArray) (hD : D.size ≤ 5000) (w : World) (ht : Cr.Tab w) (hok : Cr.openOk D.data.toList = true) (h2 : ¬ endV (bodS (Cr.openT D.data.toList, 0)) = 0) : Calls Tryd.prog 12 #[.string D] w fun e w' => e = .returned (.tuple #[.agg (prsP D.data.toList).arr, .int .i64 (prsE D.data.toList)]) ∧ Kept w w' := by
  have hk0 : Kept w (w.alloc (.cells #[.int .i64 0, .int .i64 0, .int .i64 0, .int .i64 0, .int .i64 0, .int .i64 0, .int .i64 0, .int .i64 0, .int .i64 0, .string ⟨#[]⟩, .int .i64 0, .int .i64 0, .int .i64 0, .int .i64 0, .int .i64 0, .int .i64 0, .int .i64 0, .int .i64 0, .int .i64 0, .int .i64 0, .int .i64 0, .bool false, .int .i64 0] 27 (0, 0))) := Kept.one _ _
  have hres0 : (w.alloc (.cells #[.int .i64 0, .int .i64 0, .int .i64 0, .int .i64 0, .int .i64 0, .int .i64 0, .int .i64 0, .int .i64 0, .int .i64 0, .string ⟨#[]⟩, .int .i64 0, .int .i64 0, .int .i64 0, .int .i64 0, .int .i64 0, .int .i64 0, .int .i64 0, .int .i64 0, .int .i64 0, .int .i64 0, .int .i64 0, .bool false, .int .i64 0] 27 (0, 0))).heap[w.heap.size]? = some (.cells Pk.none.arr 27 (0, 0)) := blk_new w _
  have hop := Cr.open_any D hD (w.alloc (.cells #[.int .i64 0, .int .i64 0, .int .i64 0, .int .i64 0, .int .i64 0, .int .i64 0, .int .i64 0, .int .i64 0, .int .i64 0, .string ⟨#[]⟩, .int .i64 0, .int .i64 0, .int .i64 0, .int .i64 0, .int .i64 0, .int .i64 0, .int .i64 0, .int .i64 0, .int .i64 0, .int .i64 0, .int .i64 0, .bool false, .int .i64 0] 27 (0, 0))) (ht.kept hk0)
  obtain ⟨X, hX⟩ : ∃ E : ByteArray, Hid ((⟨(Cr.openT D.data.toList).toArray⟩ : ByteArray) = E) := ⟨_, rfl⟩
  rw [hX.out] at hop
  rw [hok] at hop
  have HO := Lib.hid hop
  have hXl : Hid (X.data.toList = Cr.openT D.data.toList) := Lib.hid (by rw [← hX.out])
  obtain ⟨s, hs⟩ : ∃ s : S, ((Cr.openT D.data.toList, 0) : S) = s := ⟨_, rfl⟩
  have HB := Lib.hid (show ∀ u, Calls Tryd.prog 27 #[.string X] u fun e v => e = .returned (.pointer (some ⟨u.heap.size, 0, none⟩)) ∧ Rd v u.heap.size s ∧ Kept u v from fun u => by
    have := Bs.open_any X u
    rw [hXl.out, hs] at this; exact this)
  obtain ⟨H, hH⟩ : ∃ H, headP s = H := ⟨_, rfl⟩
  obtain ⟨sh, hsh⟩ : ∃ x, headS s = x := ⟨_, rfl⟩
  obtain ⟨P, hP⟩ : ∃ P, bodP s = P := ⟨_, rfl⟩
  obtain ⟨sb, hsb⟩ : ∃ x, bodS s = x := ⟨_, rfl⟩
  obtain ⟨E, hE⟩ : ∃ E, endV sb = E := ⟨_, rfl⟩
  have hP2 : restP H sh = P := by rw [← hH, ← hsh]; exact hP
  have hsb2 : restS H sh = sb := by rw [← hH, ← hsh]; exact hsb
  have HH := Lib.hid (show ∀ (r : Nat) (u : World), Rd u r s → Calls Tryd.prog 29 #[.pointer (some ⟨r, 0, none⟩)] u fun e v => e = .returned (.agg H.arr) ∧ Rd v r sh ∧ Only r u v from fun r u hu => by
    have := readhead_any r s u hu
    rw [hH, hsh] at this; exact this)
  have HR := Lib.hid (show ∀ (r : Nat) (u : World), Rd u r sh → Calls Tryd.prog 28 #[.agg H.arr, .pointer (some ⟨r, 0, none⟩)] u fun e v => e = .returned (.agg P.arr) ∧ Rd v r sb ∧ Only r u v from fun r u hu => by
    have := readrest_any H r sh u hu
    rw [hP2, hsb2] at this; exact this)
  have HE := Lib.hid (show ∀ (r : Nat) (u : World), Rd u r sb → Calls Tryd.prog 30 #[.pointer (some ⟨r, 0, none⟩)] u fun e v => e = .returned (.int .i64 E) ∧ Rd v r (endS sb) ∧ Only r u v from fun r u hu => by
    have := Bs.end_any r sb u hu
    rw [hE] at this; exact this)
  have HV := Lib.hid (show prsP D.data.toList = Pk.none ∧ prsE D.data.toList = E by rw [← hE, ← hsb, ← hs]; exact prs_bad hok h2)
  have hE1 : (E != 0) = true := by rw [hs, hsb, hE] at h2; simpa using h2
  clear hop ht hok h2 hs hH hsh hP hsb hE hP2 hsb2
  go_enter Tryd.func12, Tryd.ntmps12
  go_wp2_with (first
    | (go_at_call 26; refine HO.out.mono ?_; rintro e u1 ⟨rfl, hk1⟩; have hres1 := kept_blk hk1 hres0; have hlt1 := blk_lt hres1)
    | (go_at_call 27; refine (HB.out _).mono ?_; rintro e u2 ⟨rfl, hr2, hk2⟩; have hz2 : Pz w u1.heap.size s u2 := ⟨(hk0.trans hk1).trans hk2, hlt1, hr2, kept_blk hk2 hres1⟩; clear hlt1)
    | (go_at_call 29; refine (HH.out _ _ hz2.rd).mono ?_; rintro e u3 ⟨rfl, hr3, ho3⟩; have hz3 := hz2.go hr3 ho3)
    | (go_at_call 28; refine (HR.out _ _ hz3.rd).mono ?_; rintro e u4 ⟨rfl, hr4, ho4⟩; have hz4 := hz3.go hr4 ho4; have hne4 := Lib.hid (blk_lt hr4))
    | (refine store_new rfl 27 (.tmp 7) (.tmp 22) rfl u4.heap.size P.arr rfl rfl _ _ rfl 23 info_pk rfl rfl (by kernel_rfl) ?_; have hz5 := hz4.more (Kept.one u4 (.cells P.arr 27 (0, 0))); have hp5 := blk_new u4 (.cells P.arr 27 (0, 0)))
    | (go_at_call 30; refine (HE.out _ _ hz5.rd).mono ?_; rintro e u6 ⟨rfl, hr6, ho6⟩; have hz6 := hz5.go hr6 ho6; have hp6 := ho6.other hp5 (Nat.ne_of_gt hne4.out))
    | (refine wpList_store_row rfl 27 (.tmp 2) (.tmp 27) rfl w.heap.size Pk.none.arr rfl rfl 27 _ hz6.res info_pk rfl (by kernel_rfl) ?_))
  refine bodyPost_ret (Rw.results_row_tmp rfl _ _ w.heap.size 27 _ (0, 0) _ rfl (setRow_heap _ _ _ _ _ _ hz6.res) Tryd.underlying27 rfl info_pk) rfl ?_
  exact ⟨by rw [HV.out.1, HV.out.2]; rfl, kept_row hz6.kept (Nat.le_refl _) _⟩

set_option maxRecDepth 100000 in
set_option maxHeartbeats 4000000 in
theorem parse_arg (D : ByteArray) (hD : D.size ≤ 5000) (w : World) (ht : Cr.Tab w) (hok : Cr.openOk D.data.toList = true) (h2 : endV (bodS (Cr.openT D.data.toList, 0)) = 0) (h3 : okB (bodP (Cr.openT D.data.toList, 0)) = false) : Calls Tryd.prog 12 #[.string D] w fun e w' => e = .returned (.tuple #[.agg (prsP D.data.toList).arr, .int .i64 (prsE D.data.toList)]) ∧ Kept w w' := by
  have hk0 : Kept w (w.alloc (.cells #[.int .i64 0, .int .i64 0, .int .i64 0, .int .i64 0, .int .i64 0, .int .i64 0, .int .i64 0, .int .i64 0, .int .i64 0, .string ⟨#[]⟩, .int .i64 0, .int .i64 0, .int .i64 0, .int .i64 0, .int .i64 0, .int .i64 0, .int .i64 0, .int .i64 0, .int .i64 0, .int .i64 0, .int .i64 0, .bool false, .int .i64 0] 27 (0, 0))) := Kept.one _ _
  have hres0 : (w.alloc (.cells #[.int .i64 0, .int .i64 0, .int .i64 0, .int .i64 0, .int .i64 0, .int .i64 0, .int .i64 0, .int .i64 0, .int .i64 0, .string ⟨#[]⟩, .int .i64 0, .int .i64 0, .int .i64 0, .int .i64 0, .int .i64 0, .int .i64 0, .int .i64 0, .int .i64 0, .int .i64 0, .int .i64 0, .int .i64 0, .bool false, .int .i64 0] 27 (0, 0))).heap[w.heap.size]? = some (.cells Pk.none.arr 27 (0, 0)) := blk_new w _
  have hop := Cr.open_any D hD (w.alloc (.cells #[.int .i64 0, .int .i64 0, .int .i64 0, .int .i64 0, .int .i64 0, .int .i64 0, .int .i64 0, .int .i64 0, .int .i64 0, .string ⟨#[]⟩, .int .i64 0, .int .i64 0, .int .i64 0, .int .i64 0, .int .i64 0, .int .i64 0, .int .i64 0, .int .i64 0, .int .i64 0, .int .i64 0, .int .i64 0, .bool false, .int .i64 0] 27 (0, 0))) (ht.kept hk0)
  obtain ⟨X, hX⟩ : ∃ E : ByteArray, Hid ((⟨(Cr.openT D.data.toList).toArray⟩ : ByteArray) = E) := ⟨_, rfl⟩
  rw [hX.out] at hop
  rw [hok] at hop
  have HO := Lib.hid hop
  have hXl : Hid (X.data.toList = Cr.openT D.data.toList) := Lib.hid (by rw [← hX.out])
  obtain ⟨s, hs⟩ : ∃ s : S, ((Cr.openT D.data.toList, 0) : S) = s := ⟨_, rfl⟩
  have HB := Lib.hid (show ∀ u, Calls Tryd.prog 27 #[.string X] u fun e v => e = .returned (.pointer (some ⟨u.heap.size, 0, none⟩)) ∧ Rd v u.heap.size s ∧ Kept u v from fun u => by
    have := Bs.open_any X u
    rw [hXl.out, hs] at this; exact this)
  obtain ⟨H, hH⟩ : ∃ H, headP s = H := ⟨_, rfl⟩
  obtain ⟨sh, hsh⟩ : ∃ x, headS s = x := ⟨_, rfl⟩
  obtain ⟨P, hP⟩ : ∃ P, bodP s = P := ⟨_, rfl⟩
  obtain ⟨sb, hsb⟩ : ∃ x, bodS s = x := ⟨_, rfl⟩
  obtain ⟨E, hE⟩ : ∃ E, endV sb = E := ⟨_, rfl⟩
  have hP2 : restP H sh = P := by rw [← hH, ← hsh]; exact hP
  have hsb2 : restS H sh = sb := by rw [← hH, ← hsh]; exact hsb
  have HH := Lib.hid (show ∀ (r : Nat) (u : World), Rd u r s → Calls Tryd.prog 29 #[.pointer (some ⟨r, 0, none⟩)] u fun e v => e = .returned (.agg H.arr) ∧ Rd v r sh ∧ Only r u v from fun r u hu => by
    have := readhead_any r s u hu
    rw [hH, hsh] at this; exact this)
  have HR := Lib.hid (show ∀ (r : Nat) (u : World), Rd u r sh → Calls Tryd.prog 28 #[.agg H.arr, .pointer (some ⟨r, 0, none⟩)] u fun e v => e = .returned (.agg P.arr) ∧ Rd v r sb ∧ Only r u v from fun r u hu => by
    have := readrest_any H r sh u hu
    rw [hP2, hsb2] at this; exact this)
  have HE := Lib.hid (show ∀ (r : Nat) (u : World), Rd u r sb → Calls Tryd.prog 30 #[.pointer (some ⟨r, 0, none⟩)] u fun e v => e = .returned (.int .i64 E) ∧ Rd v r (endS sb) ∧ Only r u v from fun r u hu => by
    have := Bs.end_any r sb u hu
    rw [hE] at this; exact this)
  have HV := Lib.hid (prs_arg hok h2 h3)
  have hE0 : E = 0 := by rw [← hE, ← hsb, ← hs]; exact h2
  subst hE0
  have hkP : Hid (okB P = false) := Lib.hid (by rw [← hP, ← hs]; exact h3)
  clear hop ht hok h2 h3 hs hH hsh hP hsb hE hP2 hsb2
  go_enter Tryd.func12, Tryd.ntmps12
  go_wp2_with (first
    | (go_at_call 26; refine HO.out.mono ?_; rintro e u1 ⟨rfl, hk1⟩; have hres1 := kept_blk hk1 hres0; have hlt1 := blk_lt hres1)
    | (go_at_call 27; refine (HB.out _).mono ?_; rintro e u2 ⟨rfl, hr2, hk2⟩; have hz2 : Pz w u1.heap.size s u2 := ⟨(hk0.trans hk1).trans hk2, hlt1, hr2, kept_blk hk2 hres1⟩; clear hlt1)
    | (go_at_call 29; refine (HH.out _ _ hz2.rd).mono ?_; rintro e u3 ⟨rfl, hr3, ho3⟩; have hz3 := hz2.go hr3 ho3)
    | (go_at_call 28; refine (HR.out _ _ hz3.rd).mono ?_; rintro e u4 ⟨rfl, hr4, ho4⟩; have hz4 := hz3.go hr4 ho4; have hne4 := Lib.hid (blk_lt hr4))
    | (refine store_new rfl 27 (.tmp 7) (.tmp 22) rfl u4.heap.size P.arr rfl rfl _ _ rfl 23 info_pk rfl rfl (by kernel_rfl) ?_; have hz5 := hz4.more (Kept.one u4 (.cells P.arr 27 (0, 0))); have hp5 := blk_new u4 (.cells P.arr 27 (0, 0)))
    | (go_at_call 30; refine (HE.out _ _ hz5.rd).mono ?_; rintro e u6 ⟨rfl, hr6, ho6⟩; have hz6 := hz5.go hr6 ho6; have hp6 := ho6.other hp5 (Nat.ne_of_gt hne4.out))
    | (refine wpList_load_row rfl 27 (.tmp 7) rfl u4.heap.size rfl 27 P.arr (0, 0) _ hp6 Tryd.underlying27 rfl info_pk ?_)
    | (go_at_call 8; refine (okp_as hkP).mono ?_; rintro e u7 ⟨rfl, hk7⟩; have hz7 := hz6.more hk7)
    | (refine wpList_store_row rfl 27 (.tmp 2) (.tmp 32) rfl w.heap.size Pk.none.arr rfl rfl 27 _ hz7.res info_pk rfl (by kernel_rfl) ?_))
  refine bodyPost_ret (Rw.results_row_tmp rfl _ _ w.heap.size 27 _ (0, 0) _ rfl (setRow_heap _ _ _ _ _ _ hz7.res) Tryd.underlying27 rfl info_pk) rfl ?_
  exact ⟨by rw [HV.out.1, HV.out.2]; rfl, kept_row hz7.kept (Nat.le_refl _) _⟩

set_option maxRecDepth 100000 in
set_option maxHeartbeats 4000000 in
theorem parse_ok (D : ByteArray) (hD : D.size ≤ 5000) (w : World) (ht : Cr.Tab w) (hok : Cr.openOk D.data.toList = true) (h2 : endV (bodS (Cr.openT D.data.toList, 0)) = 0) (h3 : okB (bodP (Cr.openT D.data.toList, 0)) = true) : Calls Tryd.prog 12 #[.string D] w fun e w' => e = .returned (.tuple #[.agg (prsP D.data.toList).arr, .int .i64 (prsE D.data.toList)]) ∧ Kept w w' := by
  have hk0 : Kept w (w.alloc (.cells #[.int .i64 0, .int .i64 0, .int .i64 0, .int .i64 0, .int .i64 0, .int .i64 0, .int .i64 0, .int .i64 0, .int .i64 0, .string ⟨#[]⟩, .int .i64 0, .int .i64 0, .int .i64 0, .int .i64 0, .int .i64 0, .int .i64 0, .int .i64 0, .int .i64 0, .int .i64 0, .int .i64 0, .int .i64 0, .bool false, .int .i64 0] 27 (0, 0))) := Kept.one _ _
  have hres0 : (w.alloc (.cells #[.int .i64 0, .int .i64 0, .int .i64 0, .int .i64 0, .int .i64 0, .int .i64 0, .int .i64 0, .int .i64 0, .int .i64 0, .string ⟨#[]⟩, .int .i64 0, .int .i64 0, .int .i64 0, .int .i64 0, .int .i64 0, .int .i64 0, .int .i64 0, .int .i64 0, .int .i64 0, .int .i64 0, .int .i64 0, .bool false, .int .i64 0] 27 (0, 0))).heap[w.heap.size]? = some (.cells Pk.none.arr 27 (0, 0)) := blk_new w _
  have hop := Cr.open_any D hD (w.alloc (.cells #[.int .i64 0, .int .i64 0, .int .i64 0, .int .i64 0, .int .i64 0, .int .i64 0, .int .i64 0, .int .i64 0, .int .i64 0, .string ⟨#[]⟩, .int .i64 0, .int .i64 0, .int .i64 0, .int .i64 0, .int .i64 0, .int .i64 0, .int .i64 0, .int .i64 0, .int .i64 0, .int .i64 0, .int .i64 0, .bool false, .int .i64 0] 27 (0, 0))) (ht.kept hk0)
  obtain ⟨X, hX⟩ : ∃ E : ByteArray, Hid ((⟨(Cr.openT D.data.toList).toArray⟩ : ByteArray) = E) := ⟨_, rfl⟩
  rw [hX.out] at hop
  rw [hok] at hop
  have HO := Lib.hid hop
  have hXl : Hid (X.data.toList = Cr.openT D.data.toList) := Lib.hid (by rw [← hX.out])
  obtain ⟨s, hs⟩ : ∃ s : S, ((Cr.openT D.data.toList, 0) : S) = s := ⟨_, rfl⟩
  have HB := Lib.hid (show ∀ u, Calls Tryd.prog 27 #[.string X] u fun e v => e = .returned (.pointer (some ⟨u.heap.size, 0, none⟩)) ∧ Rd v u.heap.size s ∧ Kept u v from fun u => by
    have := Bs.open_any X u
    rw [hXl.out, hs] at this; exact this)
  obtain ⟨H, hH⟩ : ∃ H, headP s = H := ⟨_, rfl⟩
  obtain ⟨sh, hsh⟩ : ∃ x, headS s = x := ⟨_, rfl⟩
  obtain ⟨P, hP⟩ : ∃ P, bodP s = P := ⟨_, rfl⟩
  obtain ⟨sb, hsb⟩ : ∃ x, bodS s = x := ⟨_, rfl⟩
  obtain ⟨E, hE⟩ : ∃ E, endV sb = E := ⟨_, rfl⟩
  have hP2 : restP H sh = P := by rw [← hH, ← hsh]; exact hP
  have hsb2 : restS H sh = sb := by rw [← hH, ← hsh]; exact hsb
  have HH := Lib.hid (show ∀ (r : Nat) (u : World), Rd u r s → Calls Tryd.prog 29 #[.pointer (some ⟨r, 0, none⟩)] u fun e v => e = .returned (.agg H.arr) ∧ Rd v r sh ∧ Only r u v from fun r u hu => by
    have := readhead_any r s u hu
    rw [hH, hsh] at this; exact this)
  have HR := Lib.hid (show ∀ (r : Nat) (u : World), Rd u r sh → Calls Tryd.prog 28 #[.agg H.arr, .pointer (some ⟨r, 0, none⟩)] u fun e v => e = .returned (.agg P.arr) ∧ Rd v r sb ∧ Only r u v from fun r u hu => by
    have := readrest_any H r sh u hu
    rw [hP2, hsb2] at this; exact this)
  have HE := Lib.hid (show ∀ (r : Nat) (u : World), Rd u r sb → Calls Tryd.prog 30 #[.pointer (some ⟨r, 0, none⟩)] u fun e v => e = .returned (.int .i64 E) ∧ Rd v r (endS sb) ∧ Only r u v from fun r u hu => by
    have := Bs.end_any r sb u hu
    rw [hE] at this; exact this)
  have HV := Lib.hid (show prsP D.data.toList = P ∧ prsE D.data.toList = 0 by rw [← hP, ← hs]; exact prs_ok hok h2 h3)
  have hE0 : E = 0 := by rw [← hE, ← hsb, ← hs]; exact h2
  subst hE0
  have hkP : Hid (okB P = true) := Lib.hid (by rw [← hP, ← hs]; exact h3)
  clear hop ht hok h2 h3 hs hH hsh hP hsb hE hP2 hsb2
  go_enter Tryd.func12, Tryd.ntmps12
  go_wp2_with (first
    | (go_at_call 26; refine HO.out.mono ?_; rintro e u1 ⟨rfl, hk1⟩; have hres1 := kept_blk hk1 hres0; have hlt1 := blk_lt hres1)
    | (go_at_call 27; refine (HB.out _).mono ?_; rintro e u2 ⟨rfl, hr2, hk2⟩; have hz2 : Pz w u1.heap.size s u2 := ⟨(hk0.trans hk1).trans hk2, hlt1, hr2, kept_blk hk2 hres1⟩; clear hlt1)
    | (go_at_call 29; refine (HH.out _ _ hz2.rd).mono ?_; rintro e u3 ⟨rfl, hr3, ho3⟩; have hz3 := hz2.go hr3 ho3)
    | (go_at_call 28; refine (HR.out _ _ hz3.rd).mono ?_; rintro e u4 ⟨rfl, hr4, ho4⟩; have hz4 := hz3.go hr4 ho4; have hne4 := Lib.hid (blk_lt hr4))
    | (refine store_new rfl 27 (.tmp 7) (.tmp 22) rfl u4.heap.size P.arr rfl rfl _ _ rfl 23 info_pk rfl rfl (by kernel_rfl) ?_; have hz5 := hz4.more (Kept.one u4 (.cells P.arr 27 (0, 0))); have hp5 := blk_new u4 (.cells P.arr 27 (0, 0)))
    | (go_at_call 30; refine (HE.out _ _ hz5.rd).mono ?_; rintro e u6 ⟨rfl, hr6, ho6⟩; have hz6 := hz5.go hr6 ho6; have hp6 := ho6.other hp5 (Nat.ne_of_gt hne4.out))
    | (refine wpList_load_row rfl 27 (.tmp 7) (by rfl) u4.heap.size rfl 27 P.arr (0, 0) _ (by first | exact hp7 | exact hp6) Tryd.underlying27 rfl info_pk ?_)
    | (go_at_call 8; refine (okp_as hkP).mono ?_; rintro e u7 ⟨rfl, hk7⟩; have hz7 := hz6.more hk7; have hp7 := kept_blk hk7 hp6)
    | (refine wpList_store_row rfl 27 (.tmp 2) (.tmp 33) rfl w.heap.size P.arr rfl rfl 27 _ hz7.res info_pk rfl (by kernel_rfl) ?_))
  refine bodyPost_ret (Rw.results_row_tmp rfl _ _ w.heap.size 27 _ (0, 0) _ rfl (setRow_heap _ _ _ _ _ _ hz7.res) Tryd.underlying27 rfl info_pk) rfl ?_
  exact ⟨by rw [HV.out.1, HV.out.2]; rfl, kept_row hz7.kept (Nat.le_refl _) _⟩

theorem parse_any (D : ByteArray) (hD : D.size ≤ 5000) (w : World) (ht : Cr.Tab w) : Calls Tryd.prog 12 #[.string D] w fun e w' => e = .returned (.tuple #[.agg (prsP D.data.toList).arr, .int .i64 (prsE D.data.toList)]) ∧ Kept w w' := by
  cases hok : Cr.openOk D.data.toList with
  | false => exact parse_sum D hD w ht hok
  | true =>
    by_cases h2 : endV (bodS (Cr.openT D.data.toList, 0)) = 0
    · cases h3 : okB (bodP (Cr.openT D.data.toList, 0)) with
      | false => exact parse_arg D hD w ht hok h2 h3
      | true => exact parse_ok D hD w ht hok h2 h3
    · exact parse_bad D hD w ht hok h2

end Go.Proofs.YtpgfaklnbehmhaaDoor.Pk
