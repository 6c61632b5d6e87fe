/- The law of layer 7: what may be is parsed, and read, as it was told. -/
import Derived.Test.YtjibkkgjkmdjgaaDoorIdLaws
import Derived.Test.YtjibkkgjkmdjgaaDoorId7
namespace Go.Proofs.YtjibkkgjkmdjgaaDoor.Id
open Go.RowKit Go.Sort St IdM BsM Bs It At Rw
set_option linter.unusedVariables false

theorem rk_back {n i s a : Int} (h : keyB n i s a = true) : rkV (keyCodeL n i s a, 0) = .agg #[.int .i64 n, .int .i64 i, .int .i64 s, .int .i64 a] ∧ rkS (keyCodeL n i s a, 0) = ([], 0) := by
  obtain ⟨hr, ha⟩ := key_iff.1 h
  obtain ⟨h1, h2, h3⟩ := right_iff.1 hr
  have p1 : (256 : Nat) ^ (1 : Int).toNat = 256 := by decide
  have p2 : (256 : Nat) ^ (2 : Int).toNat = 65536 := by decide
  have p3 : (256 : Nat) ^ (3 : Int).toNat = 16777216 := by decide
  have o1 : numOk n 1 = true := numOk_mk (by decide) (by decide) (by omega) (by rw [p1]; omega)
  have o2 : numOk i 2 = true := numOk_mk (by decide) (by decide) (by omega) (by rw [p2]; omega)
  have o3 : numOk s 3 = true := numOk_mk (by decide) (by decide) (by omega) (by rw [p3]; omega)
  have o4 : numOk a 1 = true := numOk_mk (by decide) (by decide) (by omega) (by rw [p1]; omega)
  have e : (keyCodeL n i s a, (0 : Int)) = (numL n 1 ++ (numL i 2 ++ (numL s 3 ++ numL a 1)), 0) := by simp [keyCodeL, codeL]
  have r1 := num_of o1 (numL i 2 ++ (numL s 3 ++ numL a 1)) 0
  have r2 := num_of o2 (numL s 3 ++ numL a 1) 0
  have r3 := num_of o3 (numL a 1) 0
  have r4 := num_of o4 [] 0
  rw [List.append_nil] at r4
  rw [e]
  have c1 : s1 (numL n 1 ++ (numL i 2 ++ (numL s 3 ++ numL a 1)), 0) = (numL i 2 ++ (numL s 3 ++ numL a 1), 0) := r1.2
  have c2 : s2 (numL n 1 ++ (numL i 2 ++ (numL s 3 ++ numL a 1)), 0) = (numL s 3 ++ numL a 1, 0) := by unfold s2; rw [c1]; exact r2.2
  have c3 : s3 (numL n 1 ++ (numL i 2 ++ (numL s 3 ++ numL a 1)), 0) = (numL a 1, 0) := by unfold s3; rw [c2]; exact r3.2
  have v1 : vn (numL n 1 ++ (numL i 2 ++ (numL s 3 ++ numL a 1)), 0) = n := r1.1
  have v2 : vi (numL n 1 ++ (numL i 2 ++ (numL s 3 ++ numL a 1)), 0) = i := by unfold vi; rw [c1]; exact r2.1
  have v3 : vs (numL n 1 ++ (numL i 2 ++ (numL s 3 ++ numL a 1)), 0) = s := by unfold vs; rw [c2]; exact r3.1
  have ok : readOk (numL n 1 ++ (numL i 2 ++ (numL s 3 ++ numL a 1)), 0) = true := by unfold readOk; rw [v1, v2, v3]; exact hr
  have cs : readS (numL n 1 ++ (numL i 2 ++ (numL s 3 ++ numL a 1)), 0) = (numL a 1, 0) := by rw [(readV_yes ok).2, c3]
  have va : rda (numL n 1 ++ (numL i 2 ++ (numL s 3 ++ numL a 1)), 0) = a := by unfold rda; rw [cs]; exact r4.1
  have w1 : rdn (numL n 1 ++ (numL i 2 ++ (numL s 3 ++ numL a 1)), 0) = n := by unfold rdn; rw [ok, v1]; rfl
  have w2 : rdi (numL n 1 ++ (numL i 2 ++ (numL s 3 ++ numL a 1)), 0) = i := by unfold rdi; rw [ok, v2]; rfl
  have w3 : rds (numL n 1 ++ (numL i 2 ++ (numL s 3 ++ numL a 1)), 0) = s := by unfold rds; rw [ok, v3]; rfl
  have th : there (numL n 1 ++ (numL i 2 ++ (numL s 3 ++ numL a 1)), 0) = true := by
    unfold there; rw [cs]; have := num_len o4; simp only [decide_eq_true_eq]; omega
  have rk : rkOk (numL n 1 ++ (numL i 2 ++ (numL s 3 ++ numL a 1)), 0) = true := by unfold rkOk; rw [th, w1, w2, w3, va, h]; rfl
  refine ⟨by rw [(rk_yes rk).1, w1, w2, w3, va], by rw [(rk_yes rk).2, cs]; exact r4.2⟩

/-- where the call w stands: its key, what was parsed (at block q), and a reader (at block r) -/
structure Bk (w : World) (q r : Nat) (K D : Array Value) (s : S) (u : World) : Prop where
  kept : Kept w u
  k : u.heap[w.heap.size]? = some (.cells K 25 (0, 0))
  d : u.heap[q]? = some (.cells D 23 (0, 0))
  rd : Rd u r s
theorem Bk.go {w : World} {q r : Nat} {K D : Array Value} {s s' : S} {u v : World} (h : Bk w q r K D s u) (hr : w.heap.size < r) (hq : q ≠ r) (h1 : Rd v r s') (ho : Only r u v) : Bk w q r K D s' v :=
  ⟨ho.below h.kept (by omega) (Below.size h.kept), ho.other h.k (by omega), ho.other h.d hq, h1⟩
theorem Bk.more {w : World} {q r : Nat} {K D : Array Value} {s : S} {u v : World} (h : Bk w q r K D s u) (k : Kept u v) : Bk w q r K D s v := ⟨h.kept.trans k, kept_blk k h.k, kept_blk k h.d, h.rd.kept k⟩
theorem Bk.cells {w : World} {q r : Nat} {k0 k1 k2 k3 d0 d1 d2 : Value} {s : S} {u : World} (h : Bk w q r #[k0, k1, k2, k3] #[d0, d1, d2] s u) :
    u.cell? ⟨w.heap.size, 0, none⟩ = some k0 ∧ u.cell? ⟨w.heap.size, 1, none⟩ = some k1 ∧ u.cell? ⟨w.heap.size, 2, none⟩ = some k2 ∧ u.cell? ⟨w.heap.size, 3, none⟩ = some k3 ∧
    u.cell? ⟨q, 0, none⟩ = some d0 ∧ u.cell? ⟨q, 1, none⟩ = some d1 ∧ u.cell? ⟨q, 2, none⟩ = some d2 :=
  ⟨blk_cell h.k 0, blk_cell h.k 1, blk_cell h.k 2, blk_cell h.k 3, blk_cell h.d 0, blk_cell h.d 1, blk_cell h.d 2⟩
theorem readkey_bk {w : World} {q r : Nat} {K D : Array Value} {n i s a : Int} (hk : keyB n i s a = true) (hr : w.heap.size < r) (hq : q ≠ r) {u : World} (h : Bk w q r K D (keyCodeL n i s a, 0) u) :
    Calls Tryd.prog 27 #[.pointer (some ⟨r, 0, none⟩)] u fun e v => e = .returned (.agg #[.int .i64 n, .int .i64 i, .int .i64 s, .int .i64 a]) ∧ Bk w q r K D ([], 0) v := by
  have := readkey_any r (keyCodeL n i s a, 0) u h.rd
  rw [(rk_back hk).1, (rk_back hk).2] at this
  exact this.mono fun _ _ ⟨he, h1, ho⟩ => ⟨he, h.go hr hq h1 ho⟩
theorem end_bk {w : World} {q r : Nat} {K D : Array Value} (hr : w.heap.size < r) (hq : q ≠ r) {u : World} (h : Bk w q r K D ([], 0) u) :
    Calls Tryd.prog 28 #[.pointer (some ⟨r, 0, none⟩)] u fun e v => e = .returned (.int .i64 0) ∧ Bk w q r K D ([], 0) v := by
  have := end_any r ([], 0) u h.rd
  rw [(end_bad (s := ([], 0)) rfl).1, (end_bad (s := ([], 0)) rfl).2] at this
  exact this.mono fun _ _ ⟨he, h1, ho⟩ => ⟨he, h.go hr hq h1 ho⟩
theorem awake_bk {w : World} {q r : Nat} {K D : Array Value} {s : S} (hE : Hid (Env w)) {u : World} (h : Bk w q r K D s u) :
    Calls Tryd.prog 23 #[] u fun e v => e = .returned (.bool true) ∧ Bk w q r K D s v :=
  (awake_any u (hE.out.kept h.kept)).mono fun _ _ ⟨he, hk⟩ => ⟨he, h.more hk⟩

set_option maxRecDepth 100000 in
set_option maxHeartbeats 8000000 in
theorem back_any (n i s a : Int) (w : World) (h : Env w) :
    Calls Tryd.prog 5 #[.agg #[.int .i64 n, .int .i64 i, .int .i64 s, .int .i64 a]] w fun e w' => e = .returned (.bool true) ∧ Below w.heap.size w w' := by
  obtain ⟨W, hW, hK, hx⟩ := boxed1 w #[.int .i64 n, .int .i64 i, .int .i64 s, .int .i64 a] 25
  have hb : W.heap[w.heap.size]? = some (.cells #[.int .i64 n, .int .i64 i, .int .i64 s, .int .i64 a] 25 (0, 0)) := by rw [← hW]; exact blk_new _ _
  have HW := Lib.hid hW
  have HE := Lib.hid h
  have x0 := hx 0
  have x1 := hx 1
  have x2 := hx 2
  have x3 := hx 3
  clear hx hW
  cases hk : keyB n i s a with
  | false =>
    have hk' := Lib.hid hk
    clear hk h
    go_enter Tryd.func5, Tryd.ntmps5
    go_wp2_with fail
    rw [HW.out]
    go_wp2_with (first
      | (go_at_call 9; refine (key_as hk').mono ?_; rintro e u ⟨rfl, hku⟩)
      | (go_at_call 23; refine (awake_k HE (hK.trans hku)).mono ?_; rintro e v ⟨rfl, hkv⟩))
    go_ret
    exact ⟨rfl, hkv⟩
  | true =>
    have hk' := Lib.hid hk
    obtain ⟨hr, ha⟩ := key_iff.1 hk
    obtain ⟨h1, h2, h3⟩ := right_iff.1 hr
    have hn : I64 n := ⟨by omega, by omega⟩
    have hi : I64 i := ⟨by omega, by omega⟩
    have hs : I64 s := ⟨by omega, by omega⟩
    obtain ⟨D, hD, hDs⟩ := text_named n i s hn hi hs
    obtain ⟨G, hG⟩ : ∃ C : ByteArray, Hid ((⟨(keyCodeL n i s a).toArray⟩ : ByteArray) = C) := ⟨_, rfl⟩
    have hT := isT_of hr hD.out.symm
    have hpv := parsed_yes hT.1
    rw [hT.2.1, hT.2.2.1, hT.2.2.2] at hpv
    have HP := Lib.hid (show ∀ u, Kept w u → Calls Tryd.prog 24 #[.string D] u fun e v => e = .returned (.tuple #[.agg #[.int .i64 n, .int .i64 i, .int .i64 s], .int .i64 0]) ∧ Kept u v from fun u hu => by
      have := parse_any D (by omega) u (h.kept hu)
      rw [hpv.1, hpv.2] at this; exact this)
    have HX := Lib.hid (show ∀ u, Kept w u → Calls Tryd.prog 11 #[.agg #[.int .i64 n, .int .i64 i, .int .i64 s]] u fun e v => e = .returned (.string D) ∧ Kept u v from fun u hu => text_as hn hi hs hD (h.kept hu).tab)
    have HO := Lib.hid (show ∀ u, Calls Tryd.prog 26 #[.string G] u fun e v => e = .returned (.pointer (some ⟨u.heap.size, 0, none⟩)) ∧ Rd v u.heap.size (keyCodeL n i s a, 0) ∧ Kept u v from fun u => by
      have := open_any G u
      rw [← hG.out] at this ⊢; exact this)
    clear hk h hr ha h1 h2 h3 hn hi hs hDs hT hpv
    go_enter Tryd.func5, Tryd.ntmps5
    go_wp2_with fail
    rw [HW.out]
    go_wp2_with (first
      | (go_at_call 9; refine (key_as hk').mono ?_; rintro e u1 ⟨rfl, hk1⟩
         have K1 := hK.trans hk1
         have hb1 := kept_blk hk1 hb
         have y0 := blk_cell hb1 0; have y1 := blk_cell hb1 1; have y2 := blk_cell hb1 2; have y3 := blk_cell hb1 3)
      | (go_at_call 11; refine (HX.out _ K1).mono ?_; rintro e u2 ⟨rfl, hk2⟩
         have K2 := K1.trans hk2
         have hb2 := kept_blk hk2 hb1)
      | (go_at_call 24; refine (HP.out _ K2).mono ?_; rintro e u3 ⟨rfl, hk3⟩
         have K3 := Kept.more (K2.trans hk3) (.cells #[.int .i64 n, .int .i64 i, .int .i64 s] 23 (0, 0))
         have hb3 := kept_blk hk3 hb2
         have hlt3 := blk_lt hb3
         have y0 := blk_cell hb3 0; have y1 := blk_cell hb3 1; have y2 := blk_cell hb3 2; have y3 := blk_cell hb3 3)
      | (go_at_call 19; refine (keycode_as hG).mono ?_; rintro e u4 ⟨rfl, hk4⟩
         have K4 := K3.trans hk4
         have hb4 := kept_blk hk4 (kept_blk (Kept.one u3 (.cells #[.int .i64 n, .int .i64 i, .int .i64 s] 23 (0, 0))) hb3)
         have hd4 := kept_blk hk4 (blk_new u3 (.cells #[.int .i64 n, .int .i64 i, .int .i64 s] 23 (0, 0))))
      | (go_at_call 26; refine (HO.out _).mono ?_; rintro e u5 ⟨rfl, hr5, hk5⟩
         have hB5 : Bk w u3.heap.size u4.heap.size #[.int .i64 n, .int .i64 i, .int .i64 s, .int .i64 a] #[.int .i64 n, .int .i64 i, .int .i64 s] (keyCodeL n i s a, 0) u5 := ⟨K4.trans hk5, kept_blk hk5 hb4, kept_blk hk5 hd4, hr5⟩
         have hq1 := Lib.hid (blk_lt hb4)
         have hq2 := Lib.hid (blk_lt hd4)))
    have hB6 := hB5.more (Kept.refl _).drew
    have hr6 : w.heap.size < u4.heap.size := hq1.out
    have hq6 : u3.heap.size ≠ u4.heap.size := by have := hq2.out; omega
    go_region_held3 (fun u => u.cell? ⟨w.heap.size, 0, none⟩ = some (.int .i64 n) ∧ u.cell? ⟨w.heap.size, 1, none⟩ = some (.int .i64 i) ∧ u.cell? ⟨w.heap.size, 2, none⟩ = some (.int .i64 s) ∧ u.cell? ⟨w.heap.size, 3, none⟩ = some (.int .i64 a) ∧
        u.cell? ⟨u3.heap.size, 0, none⟩ = some (.int .i64 n) ∧ u.cell? ⟨u3.heap.size, 1, none⟩ = some (.int .i64 i) ∧ u.cell? ⟨u3.heap.size, 2, none⟩ = some (.int .i64 s))
      (first | (with_reducible exact Bk.cells (by assumption)))
      (first
        | (go_at_call 27; refine (readkey_bk hk'.out hr6 hq6 (by assumption)).mono ?_; rintro e u7 ⟨rfl, hB7⟩)
        | (go_at_call 28; refine (end_bk hr6 hq6 (by assumption)).mono ?_; rintro e u8 ⟨rfl, hB8⟩)
        | (go_at_call 23; refine (awake_bk HE hB8).mono ?_; rintro e u9 ⟨rfl, hB9⟩))
    all_goals
      go_wp2_with fail
      go_ret
      exact ⟨rfl, hB9.kept⟩

end Go.Proofs.YtjibkkgjkmdjgaaDoor.Id
