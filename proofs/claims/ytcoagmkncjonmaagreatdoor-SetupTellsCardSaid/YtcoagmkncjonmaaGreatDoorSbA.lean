/- A builder that a call has made itself: what is told so far, and what is still to come. -/
import Derived.Test.YtcoagmkncjonmaaGreatDoorSb
namespace Go.Proofs.YtcoagmkncjonmaaGreatDoor.Sb
open Go.RowKit Go.Sort Go.Shelf St
set_option linter.unusedVariables false

/-- a builder that lies at the first block behind 'w0': what is told so far, and what is still to come -/
def At (w0 : World) (total acc rest : List UInt8) (w : World) : Prop :=
  Lib.IsBuilder 56 5 w0.heap.size w0.heap.size (Lib.byteCells acc) w ∧ Kept w0 w ∧ w0.heap.size + 1 ≤ w.heap.size ∧ acc ++ rest = total
theorem At.go {w0 : World} {total acc rest : List UInt8} {w w' : World} (h : At w0 total acc rest w) (k : Kept w w') : At w0 total acc rest w' :=
  ⟨is_kept h.1 k, h.2.1.trans k, Nat.le_trans h.2.2.1 (Below.size k), h.2.2.2⟩
theorem At.kept {w0 : World} {total acc rest : List UInt8} {w : World} (h : At w0 total acc rest w) : Kept w0 w := h.2.1
theorem At.new (w0 : World) (total : List UInt8) : At w0 total [] total (w0.alloc (.cells #[.pointer none, .slice none 0 0] 56)) :=
  ⟨Lib.fresh_isBuilder 56 5 w0, (Kept.refl w0).grow #[_], by simp, rfl⟩
theorem write_as {w0 : World} {total : List UInt8} (hT : total.length ≤ 1099511627776) {acc rest : List UInt8} (E : ByteArray) {w : World} (h : At w0 total acc (E.data.toList ++ rest) w) :
    Calls Tryz.prog 22 #[.pointer (some ⟨w0.heap.size, 0, none⟩), .string E] w fun e w' => e = .returned (.tuple #[.int .i64 E.size, .nilIface]) ∧ At w0 total (acc ++ E.data.toList) rest w' := by
  have hl : acc.length + (E.data.toList.length + rest.length) = total.length := by rw [← h.2.2.2]; simp
  refine (write_any _ _ _ E w h.1 (by rw [Lib.byteCells_length, size_list]; omega) (by have := h.2.2.1; omega)).mono ?_
  rintro e w' ⟨rfl, h1, h2⟩
  refine ⟨rfl, ?_, Below.trans h.2.1 h2, Nat.le_trans h.2.2.1 (Below.size h2), by rw [List.append_assoc]; exact h.2.2.2⟩
  rw [Lib.byteCells_append, ← Lib.strCells_eq]; exact h1
theorem write_E {w0 : World} {total : List UInt8} (hT : total.length ≤ 1099511627776) {acc rest l : List UInt8} (E : ByteArray) (hE : Hid (E.data.toList = l)) {w : World} (h : At w0 total acc (l ++ rest) w) :
    Calls Tryz.prog 22 #[.pointer (some ⟨w0.heap.size, 0, none⟩), .string E] w fun e w' => e = .returned (.tuple #[.int .i64 E.size, .nilIface]) ∧ At w0 total (acc ++ l) rest w' := by
  have h2 := hE.out; subst h2; exact write_as hT E h
theorem string_as {w0 : World} {total acc : List UInt8} {E : ByteArray} (hE : Hid (E.data.toList = total)) {w : World} (h : At w0 total acc [] w) :
    Calls Tryz.prog 24 #[.pointer (some ⟨w0.heap.size, 0, none⟩)] w fun e w' => e = .returned (.string E) ∧ Kept w0 w' := by
  have hacc : acc = total := by have := h.2.2.2; rwa [List.append_nil] at this
  subst hacc
  refine (Tryz.Builder_String_any _ _ acc w h.1 (by have := h.2.2.1; omega)).mono ?_
  rintro e w' ⟨rfl, hk⟩
  exact ⟨ret_str hE.out.symm, Below.trans h.2.1 hk⟩

/-! ### what lies beside a builder stays -/
theorem check_far (B b : Nat) (bs : List Value) (w : World) (h : Lib.IsBuilder 56 5 B b bs w) :
    Calls Tryz.prog 41 #[.pointer (some ⟨b, 0, none⟩)] w fun e w' => e = .returned (.tuple #[]) ∧ (Lib.BuilderAt 56 5 B b (.pointer (some ⟨b, 0, none⟩)) bs w' ∧ Below B w w' ∧ (∀ k, k ≠ b → w'.heap[k]? = w.heap[k]?) ∧ w'.cell? ⟨b, 1, none⟩ = w.cell? ⟨b, 1, none⟩) := by
  rcases h with h | h
  · refine (check_fresh b w h.cell0 h.shape h.frozen0).mono ?_
    rintro e w' ⟨rfl, rfl⟩
    have h2 := h
    obtain ⟨hB, v, hb, _⟩ := h2
    exact ⟨rfl, h.used _, (Below.refl B w).setCell (p := ⟨b, 0, none⟩) hB _, fun k hk => Below.heap_setCell _ _ _ _ hk, by rw [blk_cell (blk_set hb 0 _), blk_cell hb]; rfl⟩
  · refine (check_used b w h.cell0).mono ?_
    rintro e w' ⟨rfl, rfl⟩
    exact ⟨rfl, h, Below.refl B _, fun _ _ => rfl, rfl⟩

set_option maxRecDepth 100000 in
set_option maxHeartbeats 2000000 in
theorem write_far (B b : Nat) (bs : List Value) (s : ByteArray) (w : World) (h : Lib.IsBuilder 56 5 B b bs w) (hlen : bs.length + s.size ≤ 140737488355328) (hBw : B ≤ w.heap.size) :
    Calls Tryz.prog 22 #[.pointer (some ⟨b, 0, none⟩), .string s] w fun e w' => e = .returned (.tuple #[.int .i64 s.size, .nilIface]) ∧ (Lib.IsBuilder 56 5 B b (bs ++ Lib.strCells s) w' ∧ Below B w w' ∧
      ∀ k, k < w.heap.size → k ≠ b → (∀ v, w.cell? ⟨b, 1, none⟩ = some v → v.ownBlock ≠ some k) → w'.heap[k]? = w.heap[k]?) := by
  obtain ⟨i0, hi, hz0, hz1, hz2⟩ := info_parts infoByte
  have HC := Lib.hid (check_far B b bs w h)
  go_enter Tryz.func22, Tryz.ntmps22
  go_wp2_with (go_at_call 41; refine HC.out.mono ?_)
  rintro e w1 ⟨rfl, h1, hb1, hf1, hc1⟩
  obtain ⟨hB, v, hbk, hown, hne⟩ := h1
  have HF := Lib.hid (And.intro hf1 hc1)
  clear hf1 hc1
  have c0 : w1.cell? ⟨b, 0, none⟩ = some (.pointer (some ⟨b, 0, none⟩)) := by rw [blk_cell hbk]; rfl
  have c1 : w1.cell? ⟨b, 1, none⟩ = some v := by rw [blk_cell hbk]; rfl
  go_wp2_with (at_builtin; refine Lib.wpList_append_own_string _ rfl _ _ 54 9 rfl B 5 i0 Tryz.underlying54 Tryz.underlying9 hi hz0 hz1 hz2 _ _ _ rfl hown s rfl ?c3 ?c4 ?c5 ?_)
  case c3 => unfold maxLen; omega
  case c4 => omega
  case c5 => have := hb1.size; omega
  intro v' w2 hown' hgrow _
  have hlt := blk_lt hbk
  have hb2 : w2.heap[b]? = some (.cells #[.pointer (some ⟨b, 0, none⟩), v] 56 (0, 0)) := by
    rw [hgrow.block b hlt (fun e => hne e.symm)]
    exact hbk
  have d0 : w2.cell? ⟨b, 0, none⟩ = some (.pointer (some ⟨b, 0, none⟩)) := by rw [blk_cell hb2]; rfl
  have d1 : w2.cell? ⟨b, 1, none⟩ = some v := by rw [blk_cell hb2]; rfl
  have f1 : w2.frozen? ⟨b, 1, none⟩ = false := blk_free hb2 1
  obtain ⟨ao, n', cap, rfl⟩ : ∃ ao n' cap, v' = .slice ao n' cap := by
    rcases hown'.2 with ⟨hv, _⟩ | ⟨g, cap, cur, hv, _⟩
    · exact ⟨_, _, _, hv⟩
    · exact ⟨_, _, _, hv⟩
  go_wp2
  go_ret2
  refine ⟨rfl, ?_, ?_, fun k hk hkb hkv => ?_⟩
  · exact Or.inr (Lib.BuilderAt.put (T := 56) (e := 5) hB hb2 (bs' := bs ++ Lib.strCells s) (by simpa [Lib.strCells_length] using hown') (by decide))
  · exact (hb1.grown hgrow (by have := hb1.size; omega) (fun k hk => (hown.lt k hk).1)).setCell (p := ⟨b, 1, none⟩) hB _
  · rw [Below.heap_setCell _ _ _ _ hkb, hgrow.block k (Nat.lt_of_lt_of_le hk hb1.size) (fun e => hkv v (by rw [← HF.out.2]; exact c1) e.symm)]
    exact HF.out.1 k hkb

/-- .. a block that was laid last -/
theorem write_past {w0 : World} {total : List UInt8} (hT : total.length ≤ 1099511627776) {acc rest l : List UInt8} (E : ByteArray) (hE : Hid (E.data.toList = l)) {w : World} (h : At w0 total acc (l ++ rest) w) (o : Obj) :
    Calls Tryz.prog 22 #[.pointer (some ⟨w0.heap.size, 0, none⟩), .string E] (w.alloc o) fun e w' => e = .returned (.tuple #[.int .i64 E.size, .nilIface]) ∧ At w0 total (acc ++ l) rest w' ∧ w'.heap[w.heap.size]? = some o := by
  have h2 := hE.out
  subst h2
  have hl : acc.length + (E.data.toList.length + rest.length) = total.length := by rw [← h.2.2.2]; simp
  have ha := h.go (Kept.one w o)
  refine (write_far _ _ _ E (w.alloc o) ha.1 (by rw [Lib.byteCells_length, size_list]; omega) (by have := ha.2.2.1; omega)).mono ?_
  rintro e w' ⟨rfl, h1, h2, h3⟩
  refine ⟨rfl, ⟨?_, Below.trans ha.2.1 h2, Nat.le_trans ha.2.2.1 (Below.size h2), by rw [List.append_assoc]; exact h.2.2.2⟩, ?_⟩
  · rw [Lib.byteCells_append, ← Lib.strCells_eq]; exact h1
  · rw [h3 w.heap.size (by simp) (by have := h.2.2.1; omega) ?_]
    · exact blk_new w o
    · intro v hv e
      have hlt : ∀ p, Lib.BuilderAt 56 5 w0.heap.size w0.heap.size p (Lib.byteCells acc) w → False := fun p hp => by
        obtain ⟨hB, v2, hb, hown, _⟩ := hp
        have hb2 := (Below.block (Kept.one w o) _ (blk_lt hb)).trans hb
        rw [blk_cell hb2] at hv
        have hv2 : v2 = v := by simpa using hv
        subst hv2
        have := (hown.lt _ e).2
        omega
      rcases h.1 with hp | hp
      · exact hlt _ hp
      · exact hlt _ hp

end Go.Proofs.YtcoagmkncjonmaaGreatDoor.Sb
