/- Events in memory: how they lie, what is loaded of them, two held against each other; a kind's word (both). -/
import Derived.Test.YtckjdncacinnkaaDoorEvM
import Derived.Test.YtckjdncacinnkaaDoorKr
import Derived.Test.YtckjdncacinnkaaDoorEqs
import Derived.Laws.Rows
import Derived.Great.BuildSlice
namespace Go.Proofs.YtckjdncacinnkaaDoor.Ev
open Go.RowKit Go.Sort IdM Se EvM
open St (Kept blk_cell blk_free blk_lt blk_set blk_new)
open Go.Proofs.YtckjdncacinnkaaDoor.Rv
open Go.Proofs.YtckjdncacinnkaaDoor.Ls
open Wh (Fr)
set_option linter.unusedVariables false
set_option linter.unusedSimpArgs false
set_option maxRecDepth 20000

/-! ### how an event lies -/
def arr (e : Ev) : Array Value :=
  #[.int .i64 e.kind, .int .i64 e.rl, .int .i64 e.nd, .int .i64 e.lc, .int .i64 e.kn, .int .i64 e.ki, .int .i64 e.ks, .int .i64 e.ka, .int .i64 e.pn, .int .i64 e.pi, .int .i64 e.ps, .int .i64 e.pa, .int .i64 e.rn, .int .i64 e.ri, .int .i64 e.rs, .int .i64 e.hop, .int .i64 e.cd, .int .i64 e.vl]
def encE (e : Ev) : List Value :=
  [.int .i64 e.kind, .int .i64 e.rl, .int .i64 e.nd, .int .i64 e.lc, .int .i64 e.kn, .int .i64 e.ki, .int .i64 e.ks, .int .i64 e.ka, .int .i64 e.pn, .int .i64 e.pi, .int .i64 e.ps, .int .i64 e.pa, .int .i64 e.rn, .int .i64 e.ri, .int .i64 e.rs, .int .i64 e.hop, .int .i64 e.cd, .int .i64 e.vl]
theorem enc_map (e : Ev) : encE e = e.ints.map (Value.int .i64) := rfl
def zsE : List Value := List.replicate 18 (.int .i64 0)
theorem one_E (e : Ev) : ∀ u ∈ encE e, u.oneCell' = true := fun u hu => by
  rw [enc_map] at hu
  obtain ⟨x, _, rfl⟩ := List.mem_map.1 hu
  rfl
theorem enc_ev : EncT (α := Ev) 22 38 18 144 zsE encE :=
  ⟨Tryd.underlying22, by kernel_rfl, by decide, by decide, rfl, fun u hu => by
    rw [List.eq_of_mem_replicate hu]; rfl, fun _ => rfl, one_E⟩
/-- v reads as these events -/
abbrev Le (W : World) (v : Value) (L : List Ev) : Prop := Ls 18 encE W v L
/-- v is a slice of a call's own that holds these events -/
abbrev Er (w : World) (v : Value) (L : List Ev) : Prop := RowV w v 38 18 encE L
theorem er_le {w : World} {v : Value} {l : List Ev} (h : Er w v l) (hl : l.length ≤ 1000000) : Le w v l := ls_row (fun _ => rfl) h hl
theorem arr_size (e : Ev) : (arr e).size = 18 := rfl
theorem enc_arr (e : Ev) : (encE e).toArray = arr e := rfl
theorem arr_one (e : Ev) : (arr e).all (·.oneCell') = true := by rw [← enc_arr, List.all_toArray, List.all_eq_true]; exact one_E e
theorem info_ev : (Tryd.prog.info? 38).map (·.size) = some 18 := by kernel_rfl

/-! ### what is loaded -/
theorem load_ev {u : World} {b o : Nat} {e : Ev} (h : ∀ j z, (encE e)[j]? = some z → u.cell? ⟨b, o + j, none⟩ = some z) : (loadVar 38 ⟨b, o, none⟩).run Tryd.prog u = .ok (.agg (arr e)) u :=
  run_loadVar_mid u b o _ (encE e) _ h Tryd.underlying38 rfl (by kernel_rfl)
theorem load_key {u : World} {b o : Nat} {n i s k : Int} (h0 : u.cell? ⟨b, o, none⟩ = some (.int .i64 n)) (h1 : u.cell? ⟨b, o + 1, none⟩ = some (.int .i64 i)) (h2 : u.cell? ⟨b, o + 2, none⟩ = some (.int .i64 s)) (h3 : u.cell? ⟨b, o + 3, none⟩ = some (.int .i64 k)) :
    (loadVar 26 ⟨b, o, none⟩).run Tryd.prog u = .ok (.agg #[.int .i64 n, .int .i64 i, .int .i64 s, .int .i64 k]) u :=
  run_loadVar_mid u b o _ [.int .i64 n, .int .i64 i, .int .i64 s, .int .i64 k] _ (fun j x hj => by
    match j, hj with
    | 0, hj => cases hj; exact h0
    | 1, hj => cases hj; exact h1
    | 2, hj => cases hj; exact h2
    | 3, hj => cases hj; exact h3) Tryd.underlying26 rfl (by kernel_rfl)
theorem load_id {u : World} {b o : Nat} {n i s : Int} (h0 : u.cell? ⟨b, o, none⟩ = some (.int .i64 n)) (h1 : u.cell? ⟨b, o + 1, none⟩ = some (.int .i64 i)) (h2 : u.cell? ⟨b, o + 2, none⟩ = some (.int .i64 s)) :
    (loadVar 24 ⟨b, o, none⟩).run Tryd.prog u = .ok (.agg #[.int .i64 n, .int .i64 i, .int .i64 s]) u :=
  run_loadVar_mid u b o _ [.int .i64 n, .int .i64 i, .int .i64 s] _ (fun j x hj => by
    match j, hj with
    | 0, hj => cases hj; exact h0
    | 1, hj => cases hj; exact h1
    | 2, hj => cases hj; exact h2) Tryd.underlying24 rfl (by kernel_rfl)
/-- an event lies at a place -/
def At (u : World) (b o : Nat) (e : Ev) : Prop := ∀ j z, (encE e)[j]? = some z → u.cell? ⟨b, o + j, none⟩ = some z
section
variable {u u' : World} {b o : Nat} {e : Ev}
theorem At.go (h : At u b o e) (k : Kept u u') (hb : b < u.heap.size) : At u' b o e := fun j z hj => (Below.cell k (p := ⟨b, o + j, none⟩) hb).trans (h j z hj)
theorem At.all (h : At u b o e) : (loadVar 38 ⟨b, o, none⟩).run Tryd.prog u = .ok (.agg (arr e)) u := load_ev h
theorem At.key (h : At u b o e) : (loadVar 26 ⟨b, o + 4, none⟩).run Tryd.prog u = .ok (kv e.key) u := load_key (h 4 _ rfl) (h 5 _ rfl) (h 6 _ rfl) (h 7 _ rfl)
theorem At.par (h : At u b o e) : (loadVar 26 ⟨b, o + 8, none⟩).run Tryd.prog u = .ok (kv e.par) u := load_key (h 8 _ rfl) (h 9 _ rfl) (h 10 _ rfl) (h 11 _ rfl)
theorem At.root (h : At u b o e) : (loadVar 24 ⟨b, o + 12, none⟩).run Tryd.prog u = .ok (.agg #[.int .i64 e.rn, .int .i64 e.ri, .int .i64 e.rs]) u := load_id (h 12 _ rfl) (h 13 _ rfl) (h 14 _ rfl)
theorem at_blk (h : u.heap[b]? = some (.cells (arr e) 38 (0, 0))) : At u b 0 e := fun j z hj => by
  rw [Nat.zero_add, blk_cell h, ← enc_arr]
  simpa using hj
end

/-! ### two events -/
def sameE (x y : Ev) : Bool :=
  x.kind == y.kind && (x.rl == y.rl && (x.nd == y.nd && (x.lc == y.lc && (x.kn == y.kn && (x.ki == y.ki && (x.ks == y.ks && (x.ka == y.ka && (x.pn == y.pn && (x.pi == y.pi && (x.ps == y.ps && (x.pa == y.pa && (x.rn == y.rn && (x.ri == y.ri && (x.rs == y.rs && (x.hop == y.hop && (x.cd == y.cd && x.vl == y.vl))))))))))))))))
theorem same_e (x y : Ev) : sameE x y = decide (x = y) := by
  rw [Bool.eq_iff_iff]
  unfold sameE
  simp only [Bool.and_eq_true, beq_iff_eq, decide_eq_true_eq]
  cases x; cases y
  simp only [Ev.mk.injEq]
theorem neq_ev (x y : Ev) (w : World) : (binOp .neq 38 (.agg (arr x)) (.agg (arr y))).run Tryd.prog w = .ok (.bool (!decide (x = y))) w := by
  rw [← same_e]
  unfold arr
  simp [go_sem]
  unfold sameE
  repeat (first | exact Eqs.neq_end | refine Eqs.neq_on ?_)

/-! ### a kind's word -/
def nameB (i : Int) : ByteArray := ⟨(nameL.getD i.toNat []).toArray⟩
def row : Array Value := (nameL.map fun l => .string ⟨l.toArray⟩).toArray
theorem info_row : (Tryd.prog.info? 44).map (·.size) = some row.size := by kernel_rfl
set_option maxHeartbeats 1000000 in
theorem names_any (w : World) :
    Calls Tryd.prog 22 #[] w fun e w' => e = .returned (.agg row) ∧ Kept w w' := by
  go_enter Tryd.func22, Tryd.ntmps22
  go_wp2_with fail
  refine bodyPost_ret (results_cell_row rfl _ _ w.heap.size 44 row (0, 0) _ rfl (blk_new w _) Tryd.underlying44 rfl info_row) rfl ⟨rfl, (Kept.refl w).grow #[_]⟩
theorem row_at (i : Int) (h0 : 1 ≤ i) (h1 : i ≤ 11) (w : World) : (Instr.index 44 (.agg row) (.int .i64 i)).run Tryd.prog w = .ok (.string (nameB i)) w := by
  rcases (by omega : i = 1 ∨ i = 2 ∨ i = 3 ∨ i = 4 ∨ i = 5 ∨ i = 6 ∨ i = 7 ∨ i = 8 ∨ i = 9 ∨ i = 10 ∨ i = 11) with
    rfl | rfl | rfl | rfl | rfl | rfl | rfl | rfl | rfl | rfl | rfl <;> kernel_rfl
theorem name_any {k : Int} {D : ByteArray} (hD : Hid (D.data.toList = nameT k)) (w : World) :
    Calls Tryd.prog 8 #[.int .i64 k] w fun e w' => e = .returned (.string D) ∧ Kept w w' := by
  have HN := Lib.hid (names_any w)
  by_cases h1 : k < 1
  · have HD := Lib.hid (show ({ data := #[63] } : ByteArray) = D by rw [St.str_of D _ hD.out, nameT, if_neg (by omega)])
    clear hD
    go_enter Tryd.func8, Tryd.ntmps8
    go_wp2_with fail
    go_ret
    exact ⟨congrArg (fun x => Ending.returned (.string x)) HD.out, Kept.refl w⟩
  · by_cases h2 : 11 < k
    · have HD := Lib.hid (show ({ data := #[63] } : ByteArray) = D by rw [St.str_of D _ hD.out, nameT, if_neg (by omega)])
      clear hD
      go_enter Tryd.func8, Tryd.ntmps8
      go_wp2_with fail
      go_ret
      exact ⟨congrArg (fun x => Ending.returned (.string x)) HD.out, Kept.refl w⟩
    · have HD := Lib.hid (show nameB k = D by rw [St.str_of D _ hD.out, nameT, if_pos (by omega)]; rfl)
      have hidx := row_at k (by omega) (by omega)
      rw [HD.out] at hidx
      clear hD
      go_enter Tryd.func8, Tryd.ntmps8
      go_wp2_with (first | (go_at_call 22; refine HN.out.mono ?_; rintro e w' ⟨rfl, hk⟩))
      go_ret
      exact ⟨rfl, hk⟩
def rowL : List Value := [.string { data := #[105, 115, 115, 117, 101, 100] }, .string { data := #[115, 101, 110, 116] }, .string { data := #[115, 116, 97, 114, 116, 101, 100] }, .string { data := #[119, 111, 114, 107, 101, 100] }, .string { data := #[115, 116, 111, 112, 112, 101, 100] }, .string { data := #[114, 101, 112, 108, 105, 101, 100] },
   .string { data := #[101, 110, 100, 101, 100] }, .string { data := #[99, 97, 110, 99, 101, 108, 108, 101, 100] }, .string { data := #[99, 114, 97, 115, 104, 101, 100] }, .string { data := #[112, 117, 115, 104, 101, 100] }, .string { data := #[99, 111, 109, 109, 105, 116, 116, 101, 100] }]
theorem rowL_at (k : Nat) (h : k < 11) : rowL[k]'h = .string (nameB ((k : Int) + 1)) := by
  rcases (by omega : k = 0 ∨ k = 1 ∨ k = 2 ∨ k = 3 ∨ k = 4 ∨ k = 5 ∨ k = 6 ∨ k = 7 ∨ k = 8 ∨ k = 9 ∨ k = 10) with
    rfl | rfl | rfl | rfl | rfl | rfl | rfl | rfl | rfl | rfl | rfl <;> rfl
theorem rname_any {k : Int} {D : ByteArray} (hD : Hid (D.data.toList = nameT k)) (w : World) :
    Calls Tryd.prog 9 #[.int .i64 k] w fun e w' => e = .returned (.string D) ∧ Kept w w' := by
  by_cases h1 : k < 1
  · have HD := Lib.hid (show ({ data := #[63] } : ByteArray) = D by rw [St.str_of D _ hD.out, nameT, if_neg (by omega)])
    clear hD
    go_enter Tryd.func9, Tryd.ntmps9
    go_wp2_with fail
    go_ret
    exact ⟨congrArg (fun x => Ending.returned (.string x)) HD.out, (Kept.refl w).grow #[_]⟩
  · by_cases h2 : 11 < k
    · have HD := Lib.hid (show ({ data := #[63] } : ByteArray) = D by rw [St.str_of D _ hD.out, nameT, if_neg (by omega)])
      clear hD
      go_enter Tryd.func9, Tryd.ntmps9
      go_wp2_with fail
      go_ret
      exact ⟨congrArg (fun x => Ending.returned (.string x)) HD.out, (Kept.refl w).grow #[_]⟩
    · obtain ⟨j, rfl⟩ : ∃ j : Nat, k = (j : Int) + 1 := ⟨(k - 1).toNat, by omega⟩
      have hj : j < 11 := by omega
      have HD := Lib.hid (show nameB ((j : Int) + 1) = D by rw [St.str_of D _ hD.out, nameT, if_pos (by omega)]; rfl)
      obtain ⟨m, hm⟩ : ∃ m : Int, (j : Int) + 1 = m := ⟨_, rfl⟩
      have hm2 : m - 1 = (j : Int) := by omega
      have HM := Lib.hid hm
      have HJ := Lib.hid hj
      have hmlo : ¬ m < 1 := by omega
      have hmhi : ¬ 11 < m := by omega
      rw [hm] at HD ⊢
      clear hD hm h1 h2
      go_enter Tryd.func9, Tryd.ntmps9
      go_wp2_with fail
      go_ret
      refine ⟨congrArg Ending.returned ((rowL_at j hj).trans ?_), (Kept.refl w).grow #[_]⟩
      rw [HM.out, HD.out]

end Go.Proofs.YtckjdncacinnkaaDoor.Ev
