/- The law 'no error': whatever node and code. -/
import Derived.Test.YtjecoldapmoioaaDoorFa4
import Derived.Test.YtjecoldapmoioaaDoorFd
namespace Go.Proofs.YtjecoldapmoioaaDoor.FaL
open Go.RowKit Go.Sort St Cd Er Sb Fa
set_option linter.unusedVariables false

theorem path_nil_as {W : World} {x : Option Int} {p : List Int} {e : Value} {w : World} (h : Has W x p e w) :
    Calls Tryd.prog 13 #[.nilIface] w fun ev w' => ev = .returned (.slice none 0 0) ∧ Has W x p e w' :=
  (path_nil w h.1).mono fun _ _ r => ⟨r.1, h.go r.2⟩
theorem code_N_as {W : World} {n : Int} {p : List Int} {e : Value} {w : World} (h : Has W none (n :: p) e w) :
    Calls Tryd.prog 11 #[e] w fun ev w' => ev = .returned (.int .i64 2) ∧ Has W none (n :: p) e w' :=
  (code_N n p e w h.1 h.2.1).mono fun _ _ r => ⟨r.1, h.go r.2⟩
theorem error_as {W : World} {x : Option Int} {n : Int} {p : List Int} {b : Nat} {w : World} {D : ByteArray} (hD : Hid (D.data.toList = tellL x (n :: p))) (hlen : D.size ≤ 1099511627776) (hfit : Hid (∀ m ∈ n :: p, Fit W m))
    (h : Has W x (n :: p) (.iface 41 (.pointer (some ⟨b, 0, none⟩))) w) :
    Calls Tryd.prog 18 #[.pointer (some ⟨b, 0, none⟩)] w fun ev w' => ev = .returned (.string D) ∧ Has W x (n :: p) (.iface 41 (.pointer (some ⟨b, 0, none⟩))) w' :=
  (error_any x n p b w h.1 _ rfl (by rw [← hD.out, ← size_list]; exact hlen) (fun m hm => (hfit.out m hm).kept h.2.2) h.2.1).mono fun _ _ r => ⟨r.1.trans (ret_str (by rw [hD.out])), h.go r.2⟩
theorem error_nil_as {W : World} {x : Option Int} {p : List Int} {e : Value} {w : World} (h : Has W x p e w) :
    Calls Tryd.prog 18 #[.pointer none] w fun ev w' => ev = .returned (.string ⟨#[]⟩) ∧ Has W x p e w' :=
  (error_nil w).mono fun _ _ r => ⟨r.1, h.go r.2⟩
theorem digits_as {W : World} {x : Option Int} {p : List Int} {e : Value} {w : World} {n : Int} {E : ByteArray} (hn : Hid (-9223372036854775808 ≤ n ∧ n ≤ 9223372036854775807)) (hE : Hid (E.data.toList = Lib.itoa n)) (h : Has W x p e w) :
    Calls Tryd.prog 19 #[.int .i64 n] w fun ev w' => ev = .returned (.string E) ∧ Has W x p e w' :=
  (Fd.digits_int n hn.out.1 hn.out.2 E hE w).mono fun _ _ r => ⟨r.1, h.go r.2⟩

set_option maxHeartbeats 2000000 in
theorem none_any (n c : Int) (h0 : -9223372036854775808 ≤ n) (h1 : n ≤ 9223372036854775807) (W : World) (hg : Eh W) (ht : Tab W) :
    Calls Tryd.prog 5 #[.int .i64 n, .int .i64 c] W fun ev w' => ev = .returned (.bool true) ∧ Kept W w' := by
  obtain ⟨E, hE⟩ : ∃ E : ByteArray, (⟨(Lib.itoa n).toArray⟩ : ByteArray) = E := ⟨_, rfl⟩
  have hEl : Hid (E.data.toList = Lib.itoa n) := by show _ = _; rw [← hE]
  have hEs : E.size ≤ 21 := by rw [size_list, hEl.out]; exact Lib.itoa_length_le n h0 h1
  have n1 : ¬ 9223372036854775807 < 5 + E.size := by omega
  have hD : Hid ((({ data := #[110, 111, 100, 101, 32] } : ByteArray) ++ E).data.toList = tellL none [n]) := by
    show _ = _
    simp [tellL, hEl.out]
  have hDs : (({ data := #[110, 111, 100, 101, 32] } : ByteArray) ++ E).size ≤ 1099511627776 := by
    rw [size_list, hD.out]
    have := Lib.itoa_length_le n h0 h1
    simp [tellL]; omega
  have HDS := Lib.hid hDs
  have hn := Lib.hid (And.intro h0 h1)
  have hfit : Hid (∀ m ∈ [n], Fit W m) := by
    show ∀ m ∈ [n], Fit W m
    intro m hm
    obtain rfl := List.mem_singleton.mp hm
    exact Or.inr ⟨h0, h1, ht⟩
  have A0 : Has W none [n] (.iface 41 (.pointer (some ⟨W.heap.size, 0, none⟩))) (W.alloc (.cells #[.int .i64 n, .nilIface] 43)) := by
    have k : Kept W (W.alloc (.cells #[.int .i64 n, .nilIface] 43)) := (Kept.refl W).grow #[_]
    exact ⟨hg.kept k, ⟨_, _, rfl, blk_new W _, Nat.zero_le _, rfl⟩, k⟩
  obtain ⟨z, hz⟩ : ∃ z, decide (c = 0) = z := ⟨_, rfl⟩
  have HZ : ∀ w, Calls Tryd.prog 16 #[.nilIface, .int .i64 c] w fun ev w' => ev = .returned (.bool z) ∧ w = w' := fis_nil c z hz
  have HI := Lib.hid HZ
  have hcz : (c == 0) = z := by rw [← hz]; rfl
  clear hE h0 h1 hg ht hDs hz HZ
  go_enter Tryd.func5, Tryd.ntmps5
  go_wp2_with (first
    | (go_at_call 9; refine (wrap_nil _ _).mono ?_; rintro ev w1 ⟨rfl, rfl⟩)
    | (go_at_call 11; first
      | ((with_reducible refine (code_nil _).mono ?_); rintro ev w2 ⟨rfl, rfl⟩)
      | ((with_reducible refine (code_N_as (by assumption)).mono ?_); rintro ev w3 ⟨rfl, A3⟩))
    | (go_at_call 13; refine (path_nil_as (by assumption)).mono ?_; rintro ev w4 ⟨rfl, A4⟩)
    | (go_at_call 14; refine (text_nil _).mono ?_; rintro ev w5 ⟨rfl, rfl⟩)
    | (go_at_call 16; refine (HI.out _).mono ?_; rintro ev w6 ⟨rfl, rfl⟩)
    | (go_at_call 18; first
      | ((with_reducible refine (error_nil_as (by assumption)).mono ?_); rintro ev w7 ⟨rfl, A7⟩)
      | ((with_reducible refine (error_as hD HDS.out hfit (by assumption)).mono ?_); rintro ev w8 ⟨rfl, A8⟩))
    | (go_at_call 19; refine (digits_as hn hEl (by assumption)).mono ?_; rintro ev w9 ⟨rfl, A9⟩)
    | (go_at_call 20; refine (unwrap_nil _).mono ?_; rintro ev w10 ⟨rfl, rfl⟩)
    | (go_at_call 6; refine (awake_any _ (And.left (by assumption : Has W none [n] (.iface 41 (.pointer (some ⟨W.heap.size, 0, none⟩))) _))).mono ?_; rintro ev w11 ⟨rfl, hk⟩))
  go_ret
  exact ⟨rfl, A7.2.2.trans hk⟩

theorem i64_lo {a : Int} (h : (Lit.int .i64 a).wf = true) : -9223372036854775808 ≤ a := by
  simp only [Lit.wf, Bool.and_eq_true, decide_eq_true_eq] at h
  have hh := h.1
  simp only [show IntKind.i64.min = -9223372036854775808 from rfl] at hh
  exact hh
theorem i64_hi {a : Int} (h : (Lit.int .i64 a).wf = true) : a ≤ 9223372036854775807 := by
  simp only [Lit.wf, Bool.and_eq_true, decide_eq_true_eq] at h
  have hh := h.2
  simp only [show IntKind.i64.max = 9223372036854775807 from rfl] at hh
  exact hh
theorem none_all (n c : Int) (hn : (Lit.int .i64 n).wf = true) (W : World) (hg : Eh W) (ht : Tab W) :
    Calls Tryd.prog 5 #[.int .i64 n, .int .i64 c] W fun ev w' => ev = .returned (.bool true) ∧ Below W.heap.size W w' :=
  none_any n c (i64_lo hn) (i64_hi hn) W hg ht

end Go.Proofs.YtjecoldapmoioaaDoor.FaL
