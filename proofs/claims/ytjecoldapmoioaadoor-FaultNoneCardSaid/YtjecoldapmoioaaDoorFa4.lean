/- Package fault: what errors say, at last; the chapter's example. -/
import Derived.Test.YtjecoldapmoioaaDoorFa3
namespace Go.Proofs.YtjecoldapmoioaaDoor.Fa
open Go.RowKit Go.Sort St Cd Er Sb
set_option linter.unusedVariables false

theorem error_nil (w : World) : Calls Tryd.prog 18 #[.pointer none] w fun ev w' => ev = .returned (.string ⟨#[]⟩) ∧ Kept w w' := by
  have hA := At.new w []
  have HS := Lib.hid (Tryd.Builder_String_any _ _ [] _ hA.1 (by simp))
  go_enter Tryd.func18, Tryd.ntmps18
  go_wp2_with fail
  refine wp_loop_rounds 1 ?_
  rw [rounds_succ]
  go_wp2_with (go_at_call 29; refine HS.out.mono ?_; rintro e w' ⟨rfl, hk⟩)
  go_ret
  exact ⟨rfl, Below.trans hA.2.1 hk⟩
theorem unwrap_nil (w : World) : Calls Tryd.prog 20 #[.pointer none] w fun ev w' => ev = .returned .nilIface ∧ w = w' := by
  go_enter Tryd.func20, Tryd.ntmps20
  go_wp2
  go_ret
  exact ⟨rfl, rfl⟩
theorem text_F (x : Option Int) (n : Int) (p : List Int) (e : Value) (w : World) (hg : Eh w) (D : ByteArray) (hD : Hid (D.data.toList = tellL x (n :: p))) (hlen : D.size ≤ 1099511627776)
    (hfit : ∀ m ∈ n :: p, Fit w m) (he : Err w x (n :: p) e) :
    Calls Tryd.prog 14 #[e] w fun ev w' => ev = .returned (.string D) ∧ Kept w w' := by
  obtain ⟨b, of, rfl, hb⟩ := id he
  have h1 := errorF
  have HS := Lib.hid (error_any x n p b w hg _ rfl (by rw [← hD.out, ← size_list]; exact hlen) hfit he)
  clear hb he hg hfit hlen
  go_enter Tryd.func14, Tryd.ntmps14
  go_wp2_with (go_at_call 18; refine HS.out.mono ?_; rintro e w' ⟨rfl, hk⟩)
  go_ret
  exact ⟨ret_str (by rw [hD.out]), hk⟩

/-- what a law's walk carries: the table's cell, an error, and that nothing of what was there has turned -/
def Has (W : World) (x : Option Int) (p : List Int) (e : Value) (w : World) : Prop := Eh w ∧ Err w x p e ∧ Kept W w
theorem Has.go {W : World} {x : Option Int} {p : List Int} {e : Value} {w w' : World} (h : Has W x p e w) (k : Kept w w') : Has W x p e w' := ⟨h.1.kept k, h.2.1.kept k, h.2.2.trans k⟩
theorem code_as {W : World} {c : Int} {p : List Int} {e : Value} {w : World} (h : Has W (some c) p e w) :
    Calls Tryd.prog 11 #[e] w fun ev w' => ev = .returned (.int .i64 c) ∧ Has W (some c) p e w' :=
  (code_C c p e w h.1 h.2.1).mono fun _ _ r => ⟨r.1, h.go r.2⟩
theorem fis_as {W : World} {c d : Int} {z : Bool} {p : List Int} {e : Value} {w : World} (hc : ¬ c = 0) (hz : Hid (decide (c = d) = z)) (h : Has W (some c) p e w) :
    Calls Tryd.prog 16 #[e, .int .i64 d] w fun ev w' => ev = .returned (.bool z) ∧ Has W (some c) p e w' :=
  (fis_C c d hc z hz p e w h.2.1).mono fun _ _ r => ⟨r.1, by rw [← r.2]; exact h⟩
theorem text_as {W : World} {x : Option Int} {n : Int} {p : List Int} {e : Value} {w : World} {D : ByteArray} (hD : Hid (D.data.toList = tellL x (n :: p))) (hlen : D.size ≤ 1099511627776) (hfit : ∀ m ∈ n :: p, Fit w m) (h : Has W x (n :: p) e w) :
    Calls Tryd.prog 14 #[e] w fun ev w' => ev = .returned (.string D) ∧ Has W x (n :: p) e w' :=
  (text_F x n p e w h.1 D hD hlen hfit h.2.1).mono fun _ _ r => ⟨r.1, h.go r.2⟩

theorem awake_text : ({ data := #[110, 111, 100, 101, 32, 51, 58, 32, 110, 111, 100, 101, 32, 53, 58, 32, 85, 78, 65, 86, 65, 73, 76, 65, 66, 76, 69] } : ByteArray).data.toList = tellL (some 14) [3, 5] := by
  have h3 : Lib.itoa 3 = [51] := by simp [Lib.itoa, Lib.decDigits]
  have h5 : Lib.itoa 5 = [53] := by simp [Lib.itoa, Lib.decDigits]
  simp [tellL, h3, h5, clean, nameL]
theorem awake_as {W : World} {e : Value} {w : World} (h : Has W (some 14) [3, 5] e w) :
    Calls Tryd.prog 14 #[e] w fun ev w' => ev = .returned (.string { data := #[110, 111, 100, 101, 32, 51, 58, 32, 110, 111, 100, 101, 32, 53, 58, 32, 85, 78, 65, 86, 65, 73, 76, 65, 66, 76, 69] }) ∧ Has W (some 14) [3, 5] e w' :=
  text_as awake_text (by decide) (fun m hm => Or.inl (by simp at hm; omega)) h

set_option maxHeartbeats 1000000 in
theorem awake_any (w : World) (hg : Eh w) : Calls Tryd.prog 6 #[] w fun ev w' => ev = .returned (.bool true) ∧ Kept w w' := by
  have HG := Lib.hid hg
  clear hg
  go_enter Tryd.func6, Tryd.ntmps6
  go_wp2_with (first
    | (go_at_call 7; refine (new_any 14 5 14 rfl (by decide) _).mono ?_; rintro ev w1 ⟨e1, rfl, he1, hk1⟩; obtain ⟨ty, v, rfl⟩ := he1.some_ne)
    | (go_at_call 9; refine (wrap_any (some 14) [5] _ _ 3 _ he1).mono ?_; rintro ev w2 ⟨e2, rfl, he2, hk2⟩; have A : Has w (some 14) [3, 5] e2 w2 := ⟨HG.out.kept (hk1.trans hk2), he2, hk1.trans hk2⟩)
    | (go_at_call 14; refine (awake_as (by assumption)).mono ?_; rintro ev w3 ⟨rfl, A3⟩)
    | (go_at_call 11; first
      | ((with_reducible refine (code_as (c := 14) (by assumption)).mono ?_); rintro ev w4 ⟨rfl, A4⟩)
      | ((with_reducible refine (code_nil _).mono ?_); rintro ev w5 ⟨rfl, rfl⟩))
    | (go_at_call 16; refine (fis_as (c := 14) (d := 14) (z := true) (by decide) rfl (by assumption)).mono ?_; rintro ev w6 ⟨rfl, A6⟩))
  go_ret
  exact ⟨rfl, A6.2.2⟩

end Go.Proofs.YtjecoldapmoioaaDoor.Fa
