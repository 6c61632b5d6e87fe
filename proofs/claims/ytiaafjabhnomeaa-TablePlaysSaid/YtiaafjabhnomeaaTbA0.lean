/- How calls and owners lie as arguments; what they weigh. No function of the program is spoken of here. -/
import Derived.Test.YtiaafjabhnomeaaTbX
import Derived.Test.YtiaafjabhnomeaaRows
namespace Go.Proofs.Ytiaafjabhnomeaa.Tb
open Go.RowKit Go.Deep Go.ChangeShapes Go.WideShapes Args IdM Se
open Go.Proofs.Ytiaafjabhnomeaa.Ow (Ow Cls)
open Go.Proofs.Ytiaafjabhnomeaa.Cl (Cl encC encC_len int_in rd_rc okC)
open Go.Proofs.Ytiaafjabhnomeaa.Ls
set_option linter.unusedVariables false
set_option linter.unusedSimpArgs false
set_option maxRecDepth 20000

/-! ### what readings weigh -/
theorem bulk_one {H : Type} (d : DataW H) : 1 ≤ Rows.uptoBulk d := by
  cases d with
  | lit l => cases l <;> simp [Rows.uptoBulk]
  | nil => simp [Rows.uptoBulk]
  | ptr d => simp [Rows.uptoBulk]
  | slice elems spare => simp [Rows.uptoBulk]
  | agg parts => simp [Rows.uptoBulk]
  | iface t d => simp [Rows.uptoBulk]
  | map entries => simp [Rows.uptoBulk]
  | held h => simp [Rows.uptoBulk]
theorem bulk_sum {H : Type} : ∀ l : List (DataW H), Rows.uptoBulkAll l = (l.map Rows.uptoBulk).sum
  | [] => by simp [Rows.uptoBulkAll]
  | x :: r => by simp only [Rows.uptoBulkAll, List.map_cons, List.sum_cons, bulk_sum r]
theorem bulk_mem {H : Type} {d : DataW H} {l : List (DataW H)} (h : d ∈ l) : Rows.uptoBulk d ≤ Rows.uptoBulkAll l := by
  rw [bulk_sum]
  induction l with
  | nil => cases h
  | cons x r ih =>
    rw [List.map_cons, List.sum_cons]
    rcases List.mem_cons.1 h with rfl | h
    · omega
    · have := ih h; omega
theorem bulk_len {H : Type} : ∀ l : List (DataW H), l.length ≤ Rows.uptoBulkAll l
  | [] => by simp [Rows.uptoBulkAll]
  | x :: r => by have := bulk_one x; have := bulk_len r; simp only [Rows.uptoBulkAll, List.length_cons]; omega
theorem sum_le {n : Nat} {f g : Nat → Nat} (h : ∀ i, i < n → f i ≤ g i) : ((List.range n).map f).sum ≤ ((List.range n).map g).sum := by
  induction n with
  | zero => simp
  | succ n ih =>
    rw [List.range_succ, List.map_append, List.map_append, List.sum_append, List.sum_append]
    have h1 := ih fun i hi => h i (by omega)
    have h2 := h n (by omega)
    simp; omega
theorem sum_twice (n : Nat) (f : Nat → Nat) : 2 * ((List.range n).map f).sum = ((List.range n).map fun i => 2 * f i).sum := by
  induction n with
  | zero => simp
  | succ n ih => rw [List.range_succ, List.map_append, List.map_append, List.sum_append, List.sum_append, ← ih]; simp; omega
theorem sum_two {n : Nat} {f : Nat → Nat} (h : ∀ i, i < n → 2 ≤ f i) : 2 * n ≤ ((List.range n).map f).sum := by
  induction n with
  | zero => simp
  | succ n ih =>
    rw [List.range_succ, List.map_append, List.sum_append]
    have h1 := ih fun i hi => h i (by omega)
    have h2 := h n (by omega)
    simp; omega

/-! ### a call with its numbers, an owner, a row of owners -/
theorem rd_id {H : Type} {en : TypeId × Value → H} {W : World} {n : Nat} {c0 c1 c2 : Value} {y : DataW H × List MemPlace} (hf : DataW.trod en Try.prog W 0 (fun _ => true) true n 30 [c0, c1, c2] = some y) :
    ∃ a b c : Int, c0 = .int .i64 a ∧ c1 = .int .i64 b ∧ c2 = .int .i64 c ∧ I64 a ∧ I64 b ∧ I64 c := by
  obtain ⟨xs, m, _, _, hl, hlen, hg⟩ := DataW.trod_struct Try.underlying30 hf
  match xs, hlen with
  | [y0, y1, y2], _ =>
    have s0 : DataW.trod en Try.prog W 0 (fun _ => true) true m 3 ((List.drop 0 [c0, c1, c2]).take (Try.prog.cellsOf 3)) = ([y0, y1, y2] : List (DataW H × List MemPlace))[0]? := hg 0 _ rfl
    rw [show Try.prog.cellsOf 3 = 1 by kernel_rfl] at s0
    have t0 : DataW.trod en Try.prog W 0 (fun _ => true) true m 3 [c0] = some y0 := s0
    have s1 : DataW.trod en Try.prog W 0 (fun _ => true) true m 3 ((List.drop 1 [c0, c1, c2]).take (Try.prog.cellsOf 3)) = ([y0, y1, y2] : List (DataW H × List MemPlace))[1]? := hg 1 _ rfl
    rw [show Try.prog.cellsOf 3 = 1 by kernel_rfl] at s1
    have t1 : DataW.trod en Try.prog W 0 (fun _ => true) true m 3 [c1] = some y1 := s1
    have s2 : DataW.trod en Try.prog W 0 (fun _ => true) true m 3 ((List.drop 2 [c0, c1, c2]).take (Try.prog.cellsOf 3)) = ([y0, y1, y2] : List (DataW H × List MemPlace))[2]? := hg 2 _ rfl
    rw [show Try.prog.cellsOf 3 = 1 by kernel_rfl] at s2
    have t2 : DataW.trod en Try.prog W 0 (fun _ => true) true m 3 [c2] = some y2 := s2
    obtain ⟨a, e0, i0⟩ := int_in t0
    obtain ⟨b, e1, i1⟩ := int_in t1
    obtain ⟨c, e2, i2⟩ := int_in t2
    exact ⟨a, b, c, e0, e1, e2, i0, i1, i2⟩

theorem rd_key {H : Type} {en : TypeId × Value → H} {W : World} {n : Nat} {c0 c1 c2 c3 : Value} {y : DataW H × List MemPlace} (hf : DataW.trod en Try.prog W 0 (fun _ => true) true n 32 [c0, c1, c2, c3] = some y) :
    ∃ a b c d : Int, c0 = .int .i64 a ∧ c1 = .int .i64 b ∧ c2 = .int .i64 c ∧ c3 = .int .i64 d ∧ I64 a ∧ I64 b ∧ I64 c ∧ I64 d := by
  obtain ⟨xs, m, _, _, hl, hlen, hg⟩ := DataW.trod_struct Try.underlying32 hf
  match xs, hlen with
  | [y0, y1], _ =>
    have s0 : DataW.trod en Try.prog W 0 (fun _ => true) true m 30 ((List.drop 0 [c0, c1, c2, c3]).take (Try.prog.cellsOf 30)) = ([y0, y1] : List (DataW H × List MemPlace))[0]? := hg 0 _ rfl
    rw [show Try.prog.cellsOf 30 = 3 by kernel_rfl] at s0
    have t0 : DataW.trod en Try.prog W 0 (fun _ => true) true m 30 [c0, c1, c2] = some y0 := s0
    have s1 : DataW.trod en Try.prog W 0 (fun _ => true) true m 3 ((List.drop 3 [c0, c1, c2, c3]).take (Try.prog.cellsOf 3)) = ([y0, y1] : List (DataW H × List MemPlace))[1]? := hg 1 _ rfl
    rw [show Try.prog.cellsOf 3 = 1 by kernel_rfl] at s1
    have t1 : DataW.trod en Try.prog W 0 (fun _ => true) true m 3 [c3] = some y1 := s1
    obtain ⟨a, b, c, e0, e1, e2, i0, i1, i2⟩ := rd_id t0
    obtain ⟨d, e3, i3⟩ := int_in t1
    exact ⟨a, b, c, d, e0, e1, e2, e3, i0, i1, i2, i3⟩

theorem rd_call : Args.Reads Try.prog 70 13 encC (fun c => okD (ci c)) := by
  intro H en W n cs y hf hl
  obtain ⟨c, rfl, _⟩ := rd_rc hf hl
  refine ⟨c, rfl, ?_⟩
  obtain ⟨xs, m, _, _, _, hlen, hg⟩ := DataW.trod_struct Try.underlying70 hf
  have s0 : DataW.trod en Try.prog W 0 (fun _ => true) true m 30 ((List.drop 0 (encC c)).take (Try.prog.cellsOf 30)) = xs[0]? := hg 0 _ rfl
  rw [show Try.prog.cellsOf 30 = 3 by kernel_rfl] at s0
  obtain ⟨y0, hy0⟩ : ∃ y0, xs[0]? = some y0 := ⟨_, List.getElem?_eq_getElem (by rw [hlen]; decide)⟩
  rw [hy0] at s0
  obtain ⟨a, b, d, e0, e1, e2, i0, i1, i2⟩ := rd_id (c0 := .int .i64 c.n) (c1 := .int .i64 c.i) (c2 := .int .i64 c.s) s0
  injection e0 with _ e0; injection e1 with _ e1; injection e2 with _ e2
  exact ⟨by rw [← e0] at i0; exact i0, by rw [← e1] at i1; exact i1, by rw [← e2] at i2; exact i2⟩

/-- a slice of calls within another value; how many they are, by what they weigh -/
theorem calls_in {H : Type} {en : TypeId × Value → H} {W : World} {n : Nat} {c : Value} {y : DataW H × List MemPlace} (h : DataW.trod en Try.prog W 0 (fun _ => true) true n 33 [c] = some y) :
    ∃ q N cap, c = .slice q N cap ∧ ∃ L : List Cl, Cls W c L ∧ (∀ o ∈ L, okD (ci o)) ∧ 2 * L.length ≤ Rows.uptoBulk y.1 := by
  have ce : Try.prog.cellsOf 70 = 13 := by kernel_rfl
  rcases open_slice Try.underlying33 h with ⟨hcs, hx⟩ | ⟨a, len, cap, m, n, D, Pl, hcs, _, hle, hm, hmm, hx, hall⟩
  · simp only [List.cons.injEq, and_true] at hcs
    exact ⟨none, 0, 0, hcs, [], .inl ⟨rfl, _, _, hcs⟩, (fun o h => by cases h), by simp⟩
  · simp only [List.cons.injEq, and_true] at hcs
    subst hcs
    simp only [if_true] at hmm
    refine ⟨_, _, _, rfl, ?_⟩
    have hw : 2 * len ≤ Rows.uptoBulk y.1 := by
      rw [hx]
      simp only [Rows.uptoBulk]
      rw [bulk_sum, List.map_map]
      have := sum_two (n := len) (f := Rows.uptoBulk ∘ D) fun i hi => by
        obtain ⟨cs', _, h2⟩ := hall i (by omega)
        obtain ⟨xs, m', _, e, _, hlen, _⟩ := DataW.trod_struct Try.underlying70 h2
        have e2 : D i = .agg (xs.map (·.1)) := congrArg Prod.fst e
        show 2 ≤ Rows.uptoBulk (D i)
        rw [e2]
        simp only [Rows.uptoBulk]
        have := bulk_len (xs.map (·.1))
        rw [List.length_map, hlen] at this
        have h0 : 1 ≤ xs.length := by rw [hlen]; decide
        rw [hlen] at h0
        omega
      omega
    by_cases h0 : len = 0
    · subst h0; exact ⟨[], .inl ⟨rfl, _, _, rfl⟩, (fun o h => by cases h), by simp⟩
    · have hcell : ∀ i, i < len → ∃ l : Cl, okD (ci l) ∧ ∀ j x, (encC l)[j]? = some x → W.cell? (a.add (i * 13 + j)) = some x := fun i hi => by
        obtain ⟨cs', h1, h2⟩ := hall i (by omega)
        rw [ce] at h1
        obtain ⟨_, hl, hcell⟩ := World.cells?_some h1
        obtain ⟨l, rfl, hl2⟩ := rd_call h2 hl
        refine ⟨l, hl2, fun j x hj => ?_⟩
        have hjl : j < 13 := by rw [← hl]; exact (List.getElem?_eq_some_iff.1 hj).1
        have := hcell j hjl
        rw [add_add] at this
        rw [this]
        exact hj
      obtain ⟨b, off, spot⟩ := a
      obtain ⟨F, hF⟩ := choose_lt hcell
      have hspot : spot = none := by simpa [Addr.add] using World.cell?_spot ((hF 0 (by omega)).2 0 _ rfl)
      subst hspot
      have hF2 : ∀ i, i < len → okD (ci (F i)) ∧ ∀ j x, (encC (F i))[j]? = some x → W.cell? ⟨b, off + i * 13 + j, none⟩ = some x := fun i hi => by
        obtain ⟨q2, q3⟩ := hF i hi
        refine ⟨q2, fun j x hj => ?_⟩
        have := q3 j x hj
        rw [add_plain] at this
        rw [Nat.add_assoc]; exact this
      obtain ⟨L, h1, h3, h2⟩ := ls_lies (W := W) (v := .slice (some ⟨b, off, none⟩) len cap) (n := len) (F := F) (k := 13) (enc := encC) (ok := fun c => okD (ci c)) (.inr ⟨by omega, by omega, b, off, cap, rfl, cell_in ((hF2 0 (by omega)).2 0 _ rfl), hF2⟩)
      exact ⟨L, h1, h2, by rw [h3]; exact hw⟩

/-- an owner's cells: the owner, its calls, that its numbers fit, what it weighs -/
theorem owner_in {H : Type} {en : TypeId × Value → H} {W : World} {n : Nat} {l : List Value} {y : DataW H × List MemPlace} (hfl : DataW.trod en Try.prog W 0 (fun _ => true) true n 35 l = some y) (hcl : l.length = 19) :
    ∃ e : Re, l = encR e ∧ Cls W (.slice e.q e.n e.c) e.K ∧ e.en.Fit ∧ 2 * e.K.length ≤ Rows.uptoBulk y.1 := by
  match l, hcl with
  | [c0, c1, c2, c3, c4, c5, c6, c7, c8, c9, c10, c11, c12, c13, c14, c15, c16, c17, c18], _ =>
    obtain ⟨xs, m, _, hy, _, hlen, hg⟩ := DataW.trod_struct Try.underlying35 hfl
    match xs, hlen with
    | [y0, y1, y2, y3, y4, y5, y6, y7, y8, y9, y10], _ =>
      have s0 : DataW.trod en Try.prog W 0 (fun _ => true) true m 32 ((List.drop 0 [c0, c1, c2, c3, c4, c5, c6, c7, c8, c9, c10, c11, c12, c13, c14, c15, c16, c17, c18]).take (Try.prog.cellsOf 32)) = ([y0, y1, y2, y3, y4, y5, y6, y7, y8, y9, y10] : List (DataW H × List MemPlace))[0]? := hg 0 _ rfl
      rw [show Try.prog.cellsOf 32 = 4 by kernel_rfl] at s0
      have t0 : DataW.trod en Try.prog W 0 (fun _ => true) true m 32 [c0, c1, c2, c3] = some y0 := s0
      clear s0
      have s1 : DataW.trod en Try.prog W 0 (fun _ => true) true m 30 ((List.drop 4 [c0, c1, c2, c3, c4, c5, c6, c7, c8, c9, c10, c11, c12, c13, c14, c15, c16, c17, c18]).take (Try.prog.cellsOf 30)) = ([y0, y1, y2, y3, y4, y5, y6, y7, y8, y9, y10] : List (DataW H × List MemPlace))[1]? := hg 1 _ rfl
      rw [show Try.prog.cellsOf 30 = 3 by kernel_rfl] at s1
      have t1 : DataW.trod en Try.prog W 0 (fun _ => true) true m 30 [c4, c5, c6] = some y1 := s1
      clear s1
      have s2 : DataW.trod en Try.prog W 0 (fun _ => true) true m 32 ((List.drop 7 [c0, c1, c2, c3, c4, c5, c6, c7, c8, c9, c10, c11, c12, c13, c14, c15, c16, c17, c18]).take (Try.prog.cellsOf 32)) = ([y0, y1, y2, y3, y4, y5, y6, y7, y8, y9, y10] : List (DataW H × List MemPlace))[2]? := hg 2 _ rfl
      rw [show Try.prog.cellsOf 32 = 4 by kernel_rfl] at s2
      have t2 : DataW.trod en Try.prog W 0 (fun _ => true) true m 32 [c7, c8, c9, c10] = some y2 := s2
      clear s2
      have s3 : DataW.trod en Try.prog W 0 (fun _ => true) true m 3 ((List.drop 11 [c0, c1, c2, c3, c4, c5, c6, c7, c8, c9, c10, c11, c12, c13, c14, c15, c16, c17, c18]).take (Try.prog.cellsOf 3)) = ([y0, y1, y2, y3, y4, y5, y6, y7, y8, y9, y10] : List (DataW H × List MemPlace))[3]? := hg 3 _ rfl
      rw [show Try.prog.cellsOf 3 = 1 by kernel_rfl] at s3
      have t3 : DataW.trod en Try.prog W 0 (fun _ => true) true m 3 [c11] = some y3 := s3
      clear s3
      have s4 : DataW.trod en Try.prog W 0 (fun _ => true) true m 3 ((List.drop 12 [c0, c1, c2, c3, c4, c5, c6, c7, c8, c9, c10, c11, c12, c13, c14, c15, c16, c17, c18]).take (Try.prog.cellsOf 3)) = ([y0, y1, y2, y3, y4, y5, y6, y7, y8, y9, y10] : List (DataW H × List MemPlace))[4]? := hg 4 _ rfl
      rw [show Try.prog.cellsOf 3 = 1 by kernel_rfl] at s4
      have t4 : DataW.trod en Try.prog W 0 (fun _ => true) true m 3 [c12] = some y4 := s4
      clear s4
      have s5 : DataW.trod en Try.prog W 0 (fun _ => true) true m 3 ((List.drop 13 [c0, c1, c2, c3, c4, c5, c6, c7, c8, c9, c10, c11, c12, c13, c14, c15, c16, c17, c18]).take (Try.prog.cellsOf 3)) = ([y0, y1, y2, y3, y4, y5, y6, y7, y8, y9, y10] : List (DataW H × List MemPlace))[5]? := hg 5 _ rfl
      rw [show Try.prog.cellsOf 3 = 1 by kernel_rfl] at s5
      have t5 : DataW.trod en Try.prog W 0 (fun _ => true) true m 3 [c13] = some y5 := s5
      clear s5
      have s6 : DataW.trod en Try.prog W 0 (fun _ => true) true m 3 ((List.drop 14 [c0, c1, c2, c3, c4, c5, c6, c7, c8, c9, c10, c11, c12, c13, c14, c15, c16, c17, c18]).take (Try.prog.cellsOf 3)) = ([y0, y1, y2, y3, y4, y5, y6, y7, y8, y9, y10] : List (DataW H × List MemPlace))[6]? := hg 6 _ rfl
      rw [show Try.prog.cellsOf 3 = 1 by kernel_rfl] at s6
      have t6 : DataW.trod en Try.prog W 0 (fun _ => true) true m 3 [c14] = some y6 := s6
      clear s6
      have s7 : DataW.trod en Try.prog W 0 (fun _ => true) true m 3 ((List.drop 15 [c0, c1, c2, c3, c4, c5, c6, c7, c8, c9, c10, c11, c12, c13, c14, c15, c16, c17, c18]).take (Try.prog.cellsOf 3)) = ([y0, y1, y2, y3, y4, y5, y6, y7, y8, y9, y10] : List (DataW H × List MemPlace))[7]? := hg 7 _ rfl
      rw [show Try.prog.cellsOf 3 = 1 by kernel_rfl] at s7
      have t7 : DataW.trod en Try.prog W 0 (fun _ => true) true m 3 [c15] = some y7 := s7
      clear s7
      have s8 : DataW.trod en Try.prog W 0 (fun _ => true) true m 3 ((List.drop 16 [c0, c1, c2, c3, c4, c5, c6, c7, c8, c9, c10, c11, c12, c13, c14, c15, c16, c17, c18]).take (Try.prog.cellsOf 3)) = ([y0, y1, y2, y3, y4, y5, y6, y7, y8, y9, y10] : List (DataW H × List MemPlace))[8]? := hg 8 _ rfl
      rw [show Try.prog.cellsOf 3 = 1 by kernel_rfl] at s8
      have t8 : DataW.trod en Try.prog W 0 (fun _ => true) true m 3 [c16] = some y8 := s8
      clear s8
      have s9 : DataW.trod en Try.prog W 0 (fun _ => true) true m 3 ((List.drop 17 [c0, c1, c2, c3, c4, c5, c6, c7, c8, c9, c10, c11, c12, c13, c14, c15, c16, c17, c18]).take (Try.prog.cellsOf 3)) = ([y0, y1, y2, y3, y4, y5, y6, y7, y8, y9, y10] : List (DataW H × List MemPlace))[9]? := hg 9 _ rfl
      rw [show Try.prog.cellsOf 3 = 1 by kernel_rfl] at s9
      have t9 : DataW.trod en Try.prog W 0 (fun _ => true) true m 3 [c17] = some y9 := s9
      clear s9
      have s10 : DataW.trod en Try.prog W 0 (fun _ => true) true m 33 ((List.drop 18 [c0, c1, c2, c3, c4, c5, c6, c7, c8, c9, c10, c11, c12, c13, c14, c15, c16, c17, c18]).take (Try.prog.cellsOf 33)) = ([y0, y1, y2, y3, y4, y5, y6, y7, y8, y9, y10] : List (DataW H × List MemPlace))[10]? := hg 10 _ rfl
      rw [show Try.prog.cellsOf 33 = 1 by kernel_rfl] at s10
      have t10 : DataW.trod en Try.prog W 0 (fun _ => true) true m 33 [c18] = some y10 := s10
      clear s10
      obtain ⟨k0, k1, k2, k3, rfl, rfl, rfl, rfl, i0, i1, i2, i3⟩ := rd_key t0
      obtain ⟨r0, r1, r2, rfl, rfl, rfl, -, -, -⟩ := rd_id t1
      obtain ⟨p0, p1, p2, p3, rfl, rfl, rfl, rfl, -, -, -, -⟩ := rd_key t2
      obtain ⟨a3, rfl, -⟩ := int_in t3
      obtain ⟨a4, rfl, -⟩ := int_in t4
      obtain ⟨a5, rfl, -⟩ := int_in t5
      obtain ⟨a6, rfl, -⟩ := int_in t6
      obtain ⟨a7, rfl, -⟩ := int_in t7
      obtain ⟨a8, rfl, -⟩ := int_in t8
      obtain ⟨a9, rfl, -⟩ := int_in t9
      obtain ⟨p, n, c, rfl, K, hK, hok, hw⟩ := calls_in t10
      refine ⟨⟨⟨k0, k1, k2, k3, r0, r1, r2, p0, p1, p2, p3, a3, a4, a5, a6, a7, a8, a9⟩, p, n, c, K⟩, rfl, hK, ⟨⟨i0, i1, i2, i3⟩, hok⟩, ?_⟩
      refine Nat.le_trans hw ?_
      rw [hy]
      simp only [Rows.uptoBulk]
      have : Rows.uptoBulk y10.1 ≤ Rows.uptoBulkAll (List.map (fun x => x.1) [y0, y1, y2, y3, y4, y5, y6, y7, y8, y9, y10]) := bulk_mem (List.mem_map.2 ⟨y10, by simp, rfl⟩)
      omega

instance : Inhabited Re := ⟨⟨Ow.zero, none, 0, 0, []⟩⟩

end Go.Proofs.Ytiaafjabhnomeaa.Tb
