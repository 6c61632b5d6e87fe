/- Plain: what the laws of what was seen come to. No Go text is spoken of here. -/
import Derived.Test.YthnjfkikepohcaaSeM
namespace Go.Proofs.Ythnjfkikepohcaa.Se
open Tk IdM
set_option linter.unusedVariables false

theorem mark_nil_e (k : Ke) (u t : Int) : markE k u t [] = decide (clamp t < clamp u) := by
  unfold markE live; simp [hasK]
theorem mark_nil_s (k : Ke) (u t : Int) : markS k u t [] = if clamp t < clamp u then [(k, clamp u)] else [] := by
  unfold markS; rw [mark_nil_e]
  by_cases h : clamp t < clamp u
  · rw [if_pos (decide_eq_true h), if_pos h]; rfl
  · rw [if_neg (by simpa using h), if_neg h]; rfl
theorem has_self (k : Ke) (c : Int) : hasK k [(k, c)] = true := by unfold hasK; simp

/-! ### one key, marked again -/
theorem again_kept (k : Ke) (c u t : Int) (h : clamp t < c) : markE k u t [(k, c)] = false := by
  unfold markE live
  have : ([(k, c)] : Its).filter (fun e => decide (clamp t < e.2)) = [(k, c)] := by simp [h]
  rw [this, has_self]; rfl
theorem again_gone (k : Ke) (c u t : Int) (h : c ≤ clamp t) : markE k u t [(k, c)] = decide (clamp t < clamp u) := by
  unfold markE live
  have : ([(k, c)] : Its).filter (fun e => decide (clamp t < e.2)) = [] := by simp; omega
  rw [this]; simp [hasK]

/-! ### the chapter's example -/
theorem awake_1 : markE ⟨0, 0, 0, 1⟩ 10 5 [] = true ∧ markS ⟨0, 0, 0, 1⟩ 10 5 [] = [(⟨0, 0, 0, 1⟩, 10)] := by decide
theorem awake_2 : markE ⟨0, 0, 0, 1⟩ 10 6 [(⟨0, 0, 0, 1⟩, 10)] = false ∧ markS ⟨0, 0, 0, 1⟩ 10 6 [(⟨0, 0, 0, 1⟩, 10)] = [(⟨0, 0, 0, 1⟩, 10)] := by decide
theorem awake_3 : markE ⟨0, 0, 0, 1⟩ 10 10 [(⟨0, 0, 0, 1⟩, 10)] = false ∧ markS ⟨0, 0, 0, 1⟩ 10 10 [(⟨0, 0, 0, 1⟩, 10)] = [] := by decide

/-! ### as many as there may be -/
def fullS (n i q : Int) (j : Nat) : Its := (List.range j).map fun m : Nat => (⟨n, i, q, (m : Int)⟩, 5 + ((m % 2 : Nat) : Int))
section
variable (n i q : Int)
theorem full_succ (j : Nat) : fullS n i q (j + 1) = fullS n i q j ++ [(⟨n, i, q, (j : Int)⟩, 5 + ((j % 2 : Nat) : Int))] := by
  unfold fullS; rw [List.range_succ, List.map_append]; rfl
theorem full_mem {j : Nat} {y : Ke} {c : Int} (h : (y, c) ∈ fullS n i q j) : ∃ m, m < j ∧ y = ⟨n, i, q, (m : Int)⟩ ∧ c = 5 + ((m % 2 : Nat) : Int) := by
  unfold fullS at h
  obtain ⟨m, hm, he⟩ := List.mem_map.1 h
  obtain ⟨rfl, rfl⟩ := Prod.mk.inj he
  exact ⟨m, List.mem_range.1 hm, rfl, rfl⟩
theorem full_len (j : Nat) : (fullS n i q j).length = j := by unfold fullS; simp
theorem full_live (j : Nat) (t : Int) (ht : t < 5) : live t (fullS n i q j) = fullS n i q j :=
  List.filter_eq_self.2 fun e he => by
    obtain ⟨y, c⟩ := e
    obtain ⟨m, _, _, rfl⟩ := full_mem n i q he
    simp; omega
theorem full_not (j : Nat) (a : Int) (ha : a < 0 ∨ (j : Int) ≤ a) : hasK ⟨n, i, q, a⟩ (fullS n i q j) = false :=
  has_no.2 fun c h => by
    obtain ⟨m, hm, he, _⟩ := full_mem n i q h
    have := (Ke.mk.inj he).2.2.2
    omega
theorem full_gone (j : Nat) (t : Int) : hasK ⟨n, i, q, -1⟩ (live t (fullS n i q j)) = false :=
  has_no.2 fun c h => has_no.1 (full_not n i q j (-1) (.inl (by omega))) c (mem_live.1 h).1
theorem full_mark {j : Nat} (hj : j < 512) : markE ⟨n, i, q, (j : Int)⟩ (5 + ((j % 2 : Nat) : Int)) 0 (fullS n i q j) = true ∧ markS ⟨n, i, q, (j : Int)⟩ (5 + ((j % 2 : Nat) : Int)) 0 (fullS n i q j) = fullS n i q (j + 1) := by
  have c0 : clamp 0 = 0 := by decide
  have c1 : clamp (5 + ((j % 2 : Nat) : Int)) = 5 + ((j % 2 : Nat) : Int) := clamp_id _ (by omega) (by omega)
  have e : markE ⟨n, i, q, (j : Int)⟩ (5 + ((j % 2 : Nat) : Int)) 0 (fullS n i q j) = true := by
    unfold markE
    rw [c0, c1, full_live n i q j 0 (by omega), full_not n i q j _ (.inr (by omega)), full_len]
    simp; omega
  refine ⟨e, ?_⟩
  unfold markS
  rw [if_pos e, c0, c1, full_live n i q j 0 (by omega), full_succ]
theorem full_no : markE ⟨n, i, q, -1⟩ 9 4 (fullS n i q 512) = false ∧ markS ⟨n, i, q, -1⟩ 9 4 (fullS n i q 512) = fullS n i q 512 := by
  have c0 : clamp 4 = 4 := by decide
  have e : markE ⟨n, i, q, -1⟩ 9 4 (fullS n i q 512) = false := by
    unfold markE
    rw [c0, full_live n i q 512 4 (by omega), full_len]
    simp
  refine ⟨e, ?_⟩
  unfold markS
  rw [if_neg (by rw [e]; decide), c0, full_live n i q 512 4 (by omega)]
theorem full_half : (live 5 (fullS n i q 512)).length = 256 := by
  have h1 : live 5 (fullS n i q 512) = ((List.range 512).filter (fun m : Nat => decide ((5 : Int) < 5 + ((m % 2 : Nat) : Int)))).map fun m : Nat => (⟨n, i, q, (m : Int)⟩, 5 + ((m % 2 : Nat) : Int)) := by
    unfold live fullS
    rw [List.filter_map]
    rfl
  have h2 : (List.range 512).filter (fun m : Nat => decide ((5 : Int) < 5 + ((m % 2 : Nat) : Int))) = (List.range 512).filter (fun m : Nat => m % 2 == 1) :=
    List.filter_congr fun m _ => by
      rw [Bool.eq_iff_iff]; simp; omega
  rw [h1, h2, List.length_map]
  decide +kernel
theorem full_yes : markE ⟨n, i, q, -1⟩ 9 5 (fullS n i q 512) = true ∧ (markS ⟨n, i, q, -1⟩ 9 5 (fullS n i q 512)).length = 257 := by
  have c0 : clamp 5 = 5 := by decide
  have c1 : clamp 9 = 9 := by decide
  have hn := full_gone n i q 512 5
  have e : markE ⟨n, i, q, -1⟩ 9 5 (fullS n i q 512) = true := by
    unfold markE
    rw [c0, c1, hn, full_half]; decide
  refine ⟨e, ?_⟩
  unfold markS
  rw [if_pos e, c0, List.length_append, full_half]; rfl
end

/-! ### no key is seen twice for the first time -/
/-- how often the key k, up to cu, was seen for the first time, and why it is not again -/
def Once (k : Ke) (cu now : Int) (s : Its) (f : Int) : Prop := f = 0 ∨ f = 1 ∧ ((k, cu) ∈ s ∨ cu ≤ now)
theorem once_start (k : Ke) (cu : Int) : Once k cu 0 [] 0 := .inl rfl
section
variable {k y : Ke} {cu now n2 : Int} {s : Its} {f : Int}
theorem Once.le (h : Once k cu now s f) : 0 ≤ f ∧ f ≤ 1 := by rcases h with h | ⟨h, _⟩ <;> omega
/-- another one is marked -/
theorem Once.other (h : Once k cu now s f) (h2 : now ≤ n2) (hc : clamp n2 = n2) (u : Int) : Once k cu n2 (markS y u n2 s) f := by
  rcases h with h | ⟨h, h3⟩
  · exact .inl h
  · refine .inr ⟨h, ?_⟩
    rcases h3 with h3 | h3
    · by_cases c : n2 < cu
      · have hm : (k, cu) ∈ live (clamp n2) s := mem_live.2 ⟨h3, by rw [hc]; exact c⟩
        left
        unfold markS
        split
        · exact List.mem_append_left _ hm
        · exact hm
      · exact .inr (by omega)
    · exact .inr (by omega)
/-- it is marked: for the first time -/
theorem Once.first (h : Once k cu now s f) (h2 : now ≤ n2) (hc : clamp n2 = n2) {u : Int} (hu : clamp u = cu) (he : markE k u n2 s = true) : f = 0 ∧ n2 < cu ∧ Once k cu n2 (markS k u n2 s) 1 := by
  have he' := he
  unfold markE at he'
  simp only [Bool.and_eq_true, Bool.not_eq_true', decide_eq_true_eq] at he'
  obtain ⟨e1, e2, _⟩ := he'
  rw [hc, hu] at e2
  refine ⟨?_, e2, .inr ⟨rfl, .inl ?_⟩⟩
  · rcases h with h | ⟨_, h3 | h3⟩
    · exact h
    · exact absurd (mem_live.2 ⟨h3, by rw [hc]; exact e2⟩) (has_no.1 e1 cu)
    · omega
  · unfold markS
    rw [if_pos he, hu]
    exact List.mem_append_right _ (by simp)
end

end Go.Proofs.Ythnjfkikepohcaa.Se
