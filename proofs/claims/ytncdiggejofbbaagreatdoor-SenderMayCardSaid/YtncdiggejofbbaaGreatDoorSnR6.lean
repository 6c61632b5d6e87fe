/- How an owner lies as an argument (the text of OwX, here for the sake of a claim's count of files); the law of what may be sent at arguments. -/
import Derived.Test.YtncdiggejofbbaaGreatDoorSnL
import Derived.Test.YtncdiggejofbbaaGreatDoorOw
import Derived.Test.YtncdiggejofbbaaGreatDoorCf
namespace Go.Proofs.YtncdiggejofbbaaGreatDoor.Ow
open Go.RowKit Go.Deep Go.ChangeShapes Go.WideShapes Args
open Go.Proofs.YtncdiggejofbbaaGreatDoor.Cl
open Go.Proofs.YtncdiggejofbbaaGreatDoor.Ls
set_option linter.unusedVariables false
set_option linter.unusedSimpArgs false

structure Ky where
  (n i s k : Int)
def encK (a : Ky) : List Value := [.int .i64 a.n, .int .i64 a.i, .int .i64 a.s, .int .i64 a.k]
set_option maxRecDepth 100000 in
theorem rd_key : Args.Reads Tryz.prog 28 4 encK (fun _ => True) := by
  intro H en W n cs y hf hl
  match cs, hl with
  | [c0, c1, c2, c3], _ =>
    obtain ⟨xs, m, _, _, hl, hlen, hg⟩ := DataW.trod_struct Tryz.underlying28 hf
    match xs, hlen with
    | [y0, y1], _ =>
      have s0 : DataW.trod en Tryz.prog W 0 (fun _ => true) true m 26 ((List.drop 0 [c0, c1, c2, c3]).take (Tryz.prog.cellsOf 26)) = ([y0, y1] : List (DataW H × List MemPlace))[0]? := hg 0 _ rfl
      rw [show Tryz.prog.cellsOf 26 = 3 by kernel_rfl] at s0
      have t0 : DataW.trod en Tryz.prog W 0 (fun _ => true) true m 26 [c0, c1, c2] = some y0 := s0
      clear s0
      have s1 : DataW.trod en Tryz.prog W 0 (fun _ => true) true m 3 ((List.drop 3 [c0, c1, c2, c3]).take (Tryz.prog.cellsOf 3)) = ([y0, y1] : List (DataW H × List MemPlace))[1]? := hg 1 _ rfl
      rw [show Tryz.prog.cellsOf 3 = 1 by kernel_rfl] at s1
      have t1 : DataW.trod en Tryz.prog W 0 (fun _ => true) true m 3 [c3] = some y1 := s1
      clear s1
      obtain ⟨a0, e0, i0⟩ := rd_id t0 rfl
      simp only [encI, List.cons.injEq, and_true] at e0
      obtain ⟨rfl, rfl, rfl⟩ := e0
      obtain ⟨a1, rfl, i1⟩ := int_in t1
      exact ⟨⟨a0.n, a0.i, a0.s, a1⟩, rfl, trivial⟩

/-- a slice of such structs within another value -/
theorem cell_ls {α : Type} {k : Nat} {enc : α → List Value} {ok : α → Prop} {T E : TypeId} (ht : Tryz.prog.underlying T = some (.slice E)) (ce : Tryz.prog.cellsOf E = k) (hk : 0 < k) (hlen : ∀ a, (enc a).length = k) (hrd : Args.Reads Tryz.prog E k enc ok) [Inhabited α]
    {H : Type} {en : TypeId × Value → H} {W : World} {n : Nat} {c : Value} {y : DataW H × List MemPlace} (h : DataW.trod en Tryz.prog W 0 (fun _ => true) true n T [c] = some y) : ∃ q N cap, c = .slice q N cap ∧ ∃ L : List α, Ls k enc W c L ∧ ∀ o ∈ L, ok o := by
  rcases open_slice ht h with ⟨hcs, hx⟩ | ⟨a, len, cap, m, n, D, Pl, hcs, _, hle, hm, hmm, hx, hall⟩
  · simp only [List.cons.injEq, and_true] at hcs
    exact ⟨none, 0, 0, hcs, [], .inl ⟨rfl, _, _, hcs⟩, fun o h => by cases h⟩
  · simp only [List.cons.injEq, and_true] at hcs
    subst hcs
    simp only [if_true] at hmm
    refine ⟨_, _, _, rfl, ?_⟩
    by_cases h0 : len = 0
    · subst h0; exact ⟨[], .inl ⟨rfl, _, _, rfl⟩, fun o h => by cases h⟩
    · have hcell : ∀ i, i < len → ∃ l : α, ok l ∧ ∀ j x, (enc l)[j]? = some x → W.cell? (a.add (i * k + j)) = some x := fun i hi => by
        obtain ⟨cs', h1, h2⟩ := hall i (by omega)
        rw [ce] at h1
        obtain ⟨_, hl, hcell⟩ := World.cells?_some h1
        obtain ⟨l, rfl, hl2⟩ := hrd h2 hl
        refine ⟨l, hl2, fun j x hj => ?_⟩
        have hjl : j < k := by rw [← hl]; exact (List.getElem?_eq_some_iff.1 hj).1
        have := hcell j hjl
        rw [add_add] at this
        rw [this]
        exact hj
      obtain ⟨b, off, spot⟩ := a
      obtain ⟨F, hF⟩ := choose_lt hcell
      obtain ⟨x0, hx0⟩ : ∃ x, (enc (F 0))[0]? = some x := ⟨_, List.getElem?_eq_getElem (by rw [hlen]; exact hk)⟩
      have hspot : spot = none := by simpa [Addr.add] using World.cell?_spot ((hF 0 (by omega)).2 0 x0 hx0)
      subst hspot
      have hF2 : ∀ i, i < len → ok (F i) ∧ ∀ j x, (enc (F i))[j]? = some x → W.cell? ⟨b, off + i * k + j, none⟩ = some x := fun i hi => by
        obtain ⟨q2, q3⟩ := hF i hi
        refine ⟨q2, fun j x hj => ?_⟩
        have := q3 j x hj
        rw [add_plain] at this
        rw [Nat.add_assoc]; exact this
      obtain ⟨L, h1, _, h2⟩ := ls_lies (W := W) (v := .slice (some ⟨b, off, none⟩) len cap) (n := len) (F := F) (k := k) (enc := enc) (ok := ok) (.inr ⟨by omega, by omega, b, off, cap, rfl, cell_in ((hF2 0 (by omega)).2 0 x0 hx0), hF2⟩)
      exact ⟨L, h1, h2⟩

section
variable {H : Type} {en : TypeId × Value → H} {W : World} {r : Reach} {b0 : Nat} {v : Value} {d : DataW H} {q : List MemPlace}

set_option maxRecDepth 100000 in
/-- an owner as an argument: its calls too; its hop, and its calls' attempts, are numbers -/
theorem open_ow2 (hv : Value.okWide Tryz.prog W r b0 31 v) (h : DataW.Trod en Tryz.prog W 0 (fun _ => true) true 31 v d q) :
    ∃ (o : Ow) (p : Option Addr) (n c : Nat), v = .agg (o.arr p n c) ∧ (-9223372036854775808 ≤ o.hp ∧ o.hp ≤ 9223372036854775807) ∧ ∃ K : List Cl, Cls W (.slice p n c) K ∧ ∀ x ∈ K, okC x := by
  obtain ⟨cs, rfl, hcs⟩ := okWide_struct Tryz.underlying31 hv
  obtain ⟨fuel, hf⟩ := h
  have hcl : cs.toList.length = 19 := by rw [Array.length_toList]; exact hcs.trans (by kernel_rfl)
  obtain ⟨l, hl⟩ : ∃ l, cs.toList = l := ⟨_, rfl⟩
  have hfl : DataW.trod en Tryz.prog W 0 (fun _ => true) true fuel 31 l = some (d, q) := by rw [← hl]; exact hf
  rw [hl] at hcl
  match l, hcl with
  | [c0, c1, c2, c3, c4, c5, c6, c7, c8, c9, c10, c11, c12, c13, c14, c15, c16, c17, c18], _ =>
    obtain ⟨xs, m, _, _, _, hlen, hg⟩ := DataW.trod_struct Tryz.underlying31 hfl
    match xs, hlen with
    | [y0, y1, y2, y3, y4, y5, y6, y7, y8, y9, y10], _ =>
      have s0 : DataW.trod en Tryz.prog W 0 (fun _ => true) true m 28 ((List.drop 0 [c0, c1, c2, c3, c4, c5, c6, c7, c8, c9, c10, c11, c12, c13, c14, c15, c16, c17, c18]).take (Tryz.prog.cellsOf 28)) = ([y0, y1, y2, y3, y4, y5, y6, y7, y8, y9, y10] : List (DataW H × List MemPlace))[0]? := hg 0 _ rfl
      rw [show Tryz.prog.cellsOf 28 = 4 by kernel_rfl] at s0
      have t0 : DataW.trod en Tryz.prog W 0 (fun _ => true) true m 28 [c0, c1, c2, c3] = some y0 := s0
      clear s0
      have s1 : DataW.trod en Tryz.prog W 0 (fun _ => true) true m 26 ((List.drop 4 [c0, c1, c2, c3, c4, c5, c6, c7, c8, c9, c10, c11, c12, c13, c14, c15, c16, c17, c18]).take (Tryz.prog.cellsOf 26)) = ([y0, y1, y2, y3, y4, y5, y6, y7, y8, y9, y10] : List (DataW H × List MemPlace))[1]? := hg 1 _ rfl
      rw [show Tryz.prog.cellsOf 26 = 3 by kernel_rfl] at s1
      have t1 : DataW.trod en Tryz.prog W 0 (fun _ => true) true m 26 [c4, c5, c6] = some y1 := s1
      clear s1
      have s2 : DataW.trod en Tryz.prog W 0 (fun _ => true) true m 28 ((List.drop 7 [c0, c1, c2, c3, c4, c5, c6, c7, c8, c9, c10, c11, c12, c13, c14, c15, c16, c17, c18]).take (Tryz.prog.cellsOf 28)) = ([y0, y1, y2, y3, y4, y5, y6, y7, y8, y9, y10] : List (DataW H × List MemPlace))[2]? := hg 2 _ rfl
      rw [show Tryz.prog.cellsOf 28 = 4 by kernel_rfl] at s2
      have t2 : DataW.trod en Tryz.prog W 0 (fun _ => true) true m 28 [c7, c8, c9, c10] = some y2 := s2
      clear s2
      have s3 : DataW.trod en Tryz.prog W 0 (fun _ => true) true m 3 ((List.drop 11 [c0, c1, c2, c3, c4, c5, c6, c7, c8, c9, c10, c11, c12, c13, c14, c15, c16, c17, c18]).take (Tryz.prog.cellsOf 3)) = ([y0, y1, y2, y3, y4, y5, y6, y7, y8, y9, y10] : List (DataW H × List MemPlace))[3]? := hg 3 _ rfl
      rw [show Tryz.prog.cellsOf 3 = 1 by kernel_rfl] at s3
      have t3 : DataW.trod en Tryz.prog W 0 (fun _ => true) true m 3 [c11] = some y3 := s3
      clear s3
      have s4 : DataW.trod en Tryz.prog W 0 (fun _ => true) true m 3 ((List.drop 12 [c0, c1, c2, c3, c4, c5, c6, c7, c8, c9, c10, c11, c12, c13, c14, c15, c16, c17, c18]).take (Tryz.prog.cellsOf 3)) = ([y0, y1, y2, y3, y4, y5, y6, y7, y8, y9, y10] : List (DataW H × List MemPlace))[4]? := hg 4 _ rfl
      rw [show Tryz.prog.cellsOf 3 = 1 by kernel_rfl] at s4
      have t4 : DataW.trod en Tryz.prog W 0 (fun _ => true) true m 3 [c12] = some y4 := s4
      clear s4
      have s5 : DataW.trod en Tryz.prog W 0 (fun _ => true) true m 3 ((List.drop 13 [c0, c1, c2, c3, c4, c5, c6, c7, c8, c9, c10, c11, c12, c13, c14, c15, c16, c17, c18]).take (Tryz.prog.cellsOf 3)) = ([y0, y1, y2, y3, y4, y5, y6, y7, y8, y9, y10] : List (DataW H × List MemPlace))[5]? := hg 5 _ rfl
      rw [show Tryz.prog.cellsOf 3 = 1 by kernel_rfl] at s5
      have t5 : DataW.trod en Tryz.prog W 0 (fun _ => true) true m 3 [c13] = some y5 := s5
      clear s5
      have s6 : DataW.trod en Tryz.prog W 0 (fun _ => true) true m 3 ((List.drop 14 [c0, c1, c2, c3, c4, c5, c6, c7, c8, c9, c10, c11, c12, c13, c14, c15, c16, c17, c18]).take (Tryz.prog.cellsOf 3)) = ([y0, y1, y2, y3, y4, y5, y6, y7, y8, y9, y10] : List (DataW H × List MemPlace))[6]? := hg 6 _ rfl
      rw [show Tryz.prog.cellsOf 3 = 1 by kernel_rfl] at s6
      have t6 : DataW.trod en Tryz.prog W 0 (fun _ => true) true m 3 [c14] = some y6 := s6
      clear s6
      have s7 : DataW.trod en Tryz.prog W 0 (fun _ => true) true m 3 ((List.drop 15 [c0, c1, c2, c3, c4, c5, c6, c7, c8, c9, c10, c11, c12, c13, c14, c15, c16, c17, c18]).take (Tryz.prog.cellsOf 3)) = ([y0, y1, y2, y3, y4, y5, y6, y7, y8, y9, y10] : List (DataW H × List MemPlace))[7]? := hg 7 _ rfl
      rw [show Tryz.prog.cellsOf 3 = 1 by kernel_rfl] at s7
      have t7 : DataW.trod en Tryz.prog W 0 (fun _ => true) true m 3 [c15] = some y7 := s7
      clear s7
      have s8 : DataW.trod en Tryz.prog W 0 (fun _ => true) true m 3 ((List.drop 16 [c0, c1, c2, c3, c4, c5, c6, c7, c8, c9, c10, c11, c12, c13, c14, c15, c16, c17, c18]).take (Tryz.prog.cellsOf 3)) = ([y0, y1, y2, y3, y4, y5, y6, y7, y8, y9, y10] : List (DataW H × List MemPlace))[8]? := hg 8 _ rfl
      rw [show Tryz.prog.cellsOf 3 = 1 by kernel_rfl] at s8
      have t8 : DataW.trod en Tryz.prog W 0 (fun _ => true) true m 3 [c16] = some y8 := s8
      clear s8
      have s9 : DataW.trod en Tryz.prog W 0 (fun _ => true) true m 3 ((List.drop 17 [c0, c1, c2, c3, c4, c5, c6, c7, c8, c9, c10, c11, c12, c13, c14, c15, c16, c17, c18]).take (Tryz.prog.cellsOf 3)) = ([y0, y1, y2, y3, y4, y5, y6, y7, y8, y9, y10] : List (DataW H × List MemPlace))[9]? := hg 9 _ rfl
      rw [show Tryz.prog.cellsOf 3 = 1 by kernel_rfl] at s9
      have t9 : DataW.trod en Tryz.prog W 0 (fun _ => true) true m 3 [c17] = some y9 := s9
      clear s9
      have s10 : DataW.trod en Tryz.prog W 0 (fun _ => true) true m 29 ((List.drop 18 [c0, c1, c2, c3, c4, c5, c6, c7, c8, c9, c10, c11, c12, c13, c14, c15, c16, c17, c18]).take (Tryz.prog.cellsOf 29)) = ([y0, y1, y2, y3, y4, y5, y6, y7, y8, y9, y10] : List (DataW H × List MemPlace))[10]? := hg 10 _ rfl
      rw [show Tryz.prog.cellsOf 29 = 1 by kernel_rfl] at s10
      have t10 : DataW.trod en Tryz.prog W 0 (fun _ => true) true m 29 [c18] = some y10 := s10
      clear s10
      obtain ⟨a0, e0, -⟩ := rd_key t0 rfl
      simp only [encK, List.cons.injEq, and_true] at e0
      obtain ⟨rfl, rfl, rfl, rfl⟩ := e0
      obtain ⟨a1, e1, -⟩ := rd_id t1 rfl
      simp only [encI, List.cons.injEq, and_true] at e1
      obtain ⟨rfl, rfl, rfl⟩ := e1
      obtain ⟨a2, e2, -⟩ := rd_key t2 rfl
      simp only [encK, List.cons.injEq, and_true] at e2
      obtain ⟨rfl, rfl, rfl, rfl⟩ := e2
      obtain ⟨a3, rfl, -⟩ := int_in t3
      obtain ⟨a4, rfl, i4⟩ := int_in t4
      obtain ⟨a5, rfl, -⟩ := int_in t5
      obtain ⟨a6, rfl, -⟩ := int_in t6
      obtain ⟨a7, rfl, -⟩ := int_in t7
      obtain ⟨a8, rfl, -⟩ := int_in t8
      obtain ⟨a9, rfl, -⟩ := int_in t9
      obtain ⟨p, n, c, rfl, K, hK, hok⟩ := cell_ls Tryz.underlying29 (by kernel_rfl) (by omega) encC_len rd_rc t10
      refine ⟨⟨a0.n, a0.i, a0.s, a0.k, a1.n, a1.i, a1.s, a2.n, a2.i, a2.s, a2.k, a3, a4, a5, a6, a7, a8, a9⟩, p, n, c, ?_, i4, K, hK, hok⟩
      have : cs = (cs.toList).toArray := by simp
      rw [this, hl]
      rfl
set_option maxRecDepth 100000 in
/-- an owner as an argument: its calls too -/
theorem open_ow (hv : Value.okWide Tryz.prog W r b0 31 v) (h : DataW.Trod en Tryz.prog W 0 (fun _ => true) true 31 v d q) :
    ∃ (o : Ow) (p : Option Addr) (n c : Nat), v = .agg (o.arr p n c) ∧ ∃ K : List Cl, Cls W (.slice p n c) K := by
  obtain ⟨o, p, n, c, e, -, K, hK, -⟩ := open_ow2 hv h
  exact ⟨o, p, n, c, e, K, hK⟩
end

end Go.Proofs.YtncdiggejofbbaaGreatDoor.Ow

namespace Go.Proofs.YtncdiggejofbbaaGreatDoor.Sn
open Go.RowKit Go.Deep Go.ChangeShapes Go.WideShapes
set_option linter.unusedVariables false

section
variable {H : Type} {en : TypeId × Value → H} {W : World} {r : Reach} {b0 : Nat} {v v1 v2 : Value} {d d1 d2 : DataW H} {q q1 q2 : List MemPlace}

set_option maxRecDepth 100000 in
theorem may_all (me now vv : Int) (hv : Value.okWide Tryz.prog W r b0 24 v) (h : DataW.Trod en Tryz.prog W 0 (fun _ => true) true 24 v d q)
    (hv1 : Value.okWide Tryz.prog W r b0 31 v1) (h1 : DataW.Trod en Tryz.prog W 0 (fun _ => true) true 31 v1 d1 q1)
    (hv2 : Value.okWide Tryz.prog W r b0 33 v2) (h2 : DataW.Trod en Tryz.prog W 0 (fun _ => true) true 33 v2 d2 q2) (hc : Cr.Tab W) (ht : Tm.Tab W) :
    Calls Tryz.prog 3 #[v, .int .i64 me, v1, v2, .int .i64 now, .int .i64 vv] W fun e w' => e = .returned (.bool true) ∧ Below W.heap.size W w' := by
  obtain ⟨cf, rfl, -⟩ := Ad.open_cf hv h
  obtain ⟨o, p, nn, c, rfl, K, hK⟩ := Ow.open_ow hv1 h1
  obtain ⟨y, rfl, hy⟩ := Cl.open_rc hv2 h2
  exact may_law cf me o y now vv hK ht hc hy
end

end Go.Proofs.YtncdiggejofbbaaGreatDoor.Sn
