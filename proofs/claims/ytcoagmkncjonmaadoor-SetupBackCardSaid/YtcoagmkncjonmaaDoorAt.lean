/- Numbers read of decimal text, and texts cut in two, by the library's own calls. -/
import Derived.Test.YtcoagmkncjonmaaDoorIdMath
import Derived.Test.YtcoagmkncjonmaaDoorIt
namespace Go.Proofs.YtcoagmkncjonmaaDoor.At
open Go.RowKit Go.Sort St IdM It
set_option linter.unusedVariables false

/-- what the library's variables hold, when the call begins -/
structure Env (w : World) : Prop where
  tab : Tab w
  mx : ∃ m, w.cell? ⟨0, 0, none⟩ = some (.int .i64 m)
  es : ∃ t p, w.cell? ⟨6, 0, none⟩ = some (.iface t p)
  er : ∃ t p, w.cell? ⟨7, 0, none⟩ = some (.iface t p)
theorem kept_cell {a b : World} {c o : Nat} {v : Value} (k : Kept a b) (h : a.cell? ⟨c, o, none⟩ = some v) : b.cell? ⟨c, o, none⟩ = some v :=
  (k.cell (p := ⟨c, o, none⟩) (Lib.lt_of_cell h)).trans h
theorem Env.kept {a b : World} (h : Env a) (k : Kept a b) : Env b :=
  ⟨h.tab.kept k, h.mx.imp fun _ e => kept_cell k e, h.es.imp fun _ e => e.imp fun _ e => kept_cell k e, h.er.imp fun _ e => e.imp fun _ e => kept_cell k e⟩

theorem atoi_any (s : ByteArray) (hs : s.size ≤ 281474976710656) (v : Int) (hv : Hid (atoiV s.data.toList = v)) (w : World) (h : Env w) :
    Calls Tryd.prog 80 #[.string s] w fun e w' => ∃ er, e = .returned (.tuple #[.int .i64 v, er]) ∧ Kept w w' := by
  have hv' := hv.out
  unfold atoiV at hv'
  rcases ha : Lib.atoiAll s.data.toList with n | _ | _
  · rw [ha] at hv'
    refine (Tryd.strconv_Atoi_ok s (by omega) n ha w).mono ?_
    rintro e w' ⟨rfl, hw⟩
    refine ⟨_, by rw [← hv'], ?_⟩
    rcases hw with rfl | ⟨t, rfl⟩
    · exact Kept.refl _
    · exact Lib.bytesWorld_below _ _ _
  · rw [ha] at hv'
    obtain ⟨t, p, hc⟩ := h.es
    refine (Tryd.strconv_Atoi_syntax s hs ha _ w hc (.inr ⟨t, p, rfl⟩)).mono ?_
    rintro e w' ⟨N, rfl, _, _, hk⟩
    exact ⟨_, by rw [← hv'], hk⟩
  · rw [ha] at hv'
    obtain ⟨t, p, hc⟩ := h.er
    refine (Tryd.strconv_Atoi_range s hs ha _ w hc (.inr ⟨t, p, rfl⟩)).mono ?_
    rintro e w' ⟨N, rfl, _, _, hk⟩
    exact ⟨_, by rw [← hv'], hk⟩
theorem atoi_as {s : ByteArray} (hs : s.size ≤ 281474976710656) {v : Int} (hv : Hid (atoiV s.data.toList = v)) {w : World} (h : Env w) :
    Calls Tryd.prog 80 #[.string s] w fun e w' => ∃ er, e = .returned (.tuple #[.int .i64 v, er]) ∧ Kept w w' := atoi_any s hs v hv w h

theorem cut_le (l : List UInt8) : (c1 l).length ≤ l.length ∧ (r1 l).length ≤ l.length := by
  unfold c1 r1 Lib.cut
  split
  · constructor
    · show (List.take _ l).length ≤ _; rw [List.length_take]; omega
    · show (List.drop _ l).length ≤ _; rw [List.length_drop]; omega
  · simp
/-- a text's part ahead of the first dot, and what is behind it -/
theorem cut_named (s : ByteArray) : ∃ A B : ByteArray, Hid (A.data.toList = c1 s.data.toList) ∧ Hid (B.data.toList = r1 s.data.toList) ∧ A.size ≤ s.size ∧ B.size ≤ s.size := by
  refine ⟨⟨(c1 s.data.toList).toArray⟩, ⟨(r1 s.data.toList).toArray⟩, rfl, rfl, ?_, ?_⟩
  · rw [size_list, size_list]; exact (cut_le _).1
  · rw [size_list, size_list]; exact (cut_le _).2
theorem cut_as {s A B : ByteArray} (hs : s.size ≤ 4000000000) (hA : Hid (A.data.toList = c1 s.data.toList)) (hB : Hid (B.data.toList = r1 s.data.toList)) {w : World} (h : Env w) :
    Calls Tryd.prog 32 #[.string s, .string { data := #[46] }] w fun e w' => ∃ z, e = .returned (.tuple #[.string A, .string B, .bool z]) ∧ Kept w w' := by
  obtain ⟨m, hm⟩ := h.mx
  refine (Tryd.strings_Cut s { data := #[46] } m w (by omega) hm).mono ?_
  rintro e w' ⟨rfl, n, rfl⟩
  refine ⟨(Lib.cut s.data.toList [46]).2.2, ?_, (Kept.refl w).drewN n⟩
  rw [str_of A _ hA.out, str_of B _ hB.out]
  rfl

end Go.Proofs.YtcoagmkncjonmaaDoor.At
