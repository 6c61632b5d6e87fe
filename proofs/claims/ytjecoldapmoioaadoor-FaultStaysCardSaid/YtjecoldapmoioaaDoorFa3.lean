/- Package fault: what errors say. -/
import Derived.Test.YtjecoldapmoioaaDoorFa2
import Derived.Test.YtjecoldapmoioaaDoorSb
namespace Go.Proofs.YtjecoldapmoioaaDoor.Fa
open Go.RowKit Go.Sort St Cd Er Sb
set_option linter.unusedVariables false

/-- what an error says -/
def tellL (x : Option Int) : List Int → List UInt8
  | [] => match x with
    | none => []
    | some c => nameL.getD (clean c).toNat []
  | n :: p => [110, 111, 100, 101, 32] ++ (Lib.itoa n ++ (match x, p with
    | none, [] => []
    | _, _ => [58, 32] ++ tellL x p))

theorem pow10 : Tryd.prog.globalNamed "internal/strconv.uint64pow10" = some 1 := by kernel_rfl
/-- what a table of the library's holds, when the call begins -/
def Tab (w : World) : Prop := Lib.TabIs Tryd.prog w "internal/strconv.uint64pow10" .u64 Lib.pow10Tab
theorem Tab.kept {a b : World} (h : Tab a) (k : Kept a b) : Tab b := k.tab pow10 h
/-- a node whose decimal text can be told: below 100 without the table -/
def Fit (w : World) (n : Int) : Prop := (0 ≤ n ∧ n < 100) ∨ (-9223372036854775808 ≤ n ∧ n ≤ 9223372036854775807 ∧ Tab w)
theorem Fit.kept {a b : World} {n : Int} (h : Fit a n) (k : Kept a b) : Fit b n := h.imp id fun h => ⟨h.1, h.2.1, h.2.2.kept k⟩

theorem itoa_any (n : Int) (E : ByteArray) (hE : Hid (E.data.toList = Lib.itoa n)) (w : World) (h : Fit w n) :
    Calls Tryd.prog 27 #[.int .i64 n] w fun e w' => e = .returned (.string E) ∧ Kept w w' := by
  rcases h with ⟨h0, h1⟩ | ⟨h0, h1, ht⟩
  · obtain ⟨i, rfl⟩ : ∃ i : Nat, n = i := ⟨n.toNat, by omega⟩
    refine (Tryd.strconv_Itoa_small i (by omega) w).mono ?_
    rintro e w' ⟨rfl, rfl⟩
    exact ⟨ret_str (by rw [hE.out, Lib.itoa_nonneg]), Kept.refl _⟩
  · refine (Tryd.strconv_Itoa n h0 h1 w ht).mono ?_
    rintro e w' ⟨rfl, k, os, rfl⟩
    exact ⟨ret_str (by rw [hE.out]), ((Kept.refl w).drewN k).grow os⟩

/-- a builder that the call 'w0' has made as its first block: what is told so far, and what is still to come -/
def At (w0 : World) (total acc rest : List UInt8) (w : World) : Prop :=
  Lib.IsBuilder 57 5 w0.heap.size w0.heap.size (Lib.byteCells acc) w ∧ Kept w0 w ∧ w0.heap.size + 1 ≤ w.heap.size ∧ acc ++ rest = total
theorem At.go {w0 : World} {total acc rest : List UInt8} {w w' : World} (h : At w0 total acc rest w) (k : Kept w w') : At w0 total acc rest w' :=
  ⟨is_kept h.1 k, h.2.1.trans k, Nat.le_trans h.2.2.1 (Below.size k), h.2.2.2⟩
theorem At.kept {w0 : World} {total acc rest : List UInt8} {w : World} (h : At w0 total acc rest w) : Kept w0 w := h.2.1
theorem At.new (w0 : World) (total : List UInt8) : At w0 total [] total (w0.alloc (.cells #[.pointer none, .slice none 0 0] 57)) :=
  ⟨Lib.fresh_isBuilder 57 5 w0, (Kept.refl w0).grow #[_], by simp, rfl⟩
theorem At.cells {w0 : World} {total acc rest : List UInt8} {w : World} (h : At w0 total acc rest w) {b : Nat} {n of : Value} (hb : Hid (w0.heap[b]? = some (.cells #[n, of] 43 (0, 0)))) :
    w.cell? ⟨b, 0, none⟩ = some n ∧ w.cell? ⟨b, 1, none⟩ = some of := by
  have hb' := (h.2.1.block b (blk_lt hb.out)).trans hb.out
  exact ⟨by rw [blk_cell hb']; rfl, by rw [blk_cell hb']; rfl⟩

theorem write_as {w0 : World} {total : List UInt8} (hT : total.length ≤ 1099511627776) {acc rest : List UInt8} (E : ByteArray) {w : World} (h : At w0 total acc (E.data.toList ++ rest) w) :
    Calls Tryd.prog 26 #[.pointer (some ⟨w0.heap.size, 0, none⟩), .string E] w fun e w' => e = .returned (.tuple #[.int .i64 E.size, .nilIface]) ∧ At w0 total (acc ++ E.data.toList) rest w' := by
  have hl : acc.length + (E.data.toList.length + rest.length) = total.length := by rw [← h.2.2.2]; simp
  refine (write_any _ _ _ E w h.1 (by rw [Lib.byteCells_length, size_list]; omega) (by have := h.2.2.1; omega)).mono ?_
  rintro e w' ⟨rfl, h1, h2⟩
  refine ⟨rfl, ?_, Below.trans h.2.1 h2, Nat.le_trans h.2.2.1 (Below.size h2), by rw [List.append_assoc]; exact h.2.2.2⟩
  rw [Lib.byteCells_append, ← Lib.strCells_eq]; exact h1
theorem write_E {w0 : World} {total : List UInt8} (hT : total.length ≤ 1099511627776) {acc rest l : List UInt8} (E : ByteArray) (hE : Hid (E.data.toList = l)) {w : World} (h : At w0 total acc (l ++ rest) w) :
    Calls Tryd.prog 26 #[.pointer (some ⟨w0.heap.size, 0, none⟩), .string E] w fun e w' => e = .returned (.tuple #[.int .i64 E.size, .nilIface]) ∧ At w0 total (acc ++ l) rest w' := by
  have h2 := hE.out; subst h2; exact write_as hT E h
theorem write_node {w0 : World} {total : List UInt8} (hT : total.length ≤ 1099511627776) {acc rest : List UInt8} {w : World} (h : At w0 total acc ([110, 111, 100, 101, 32] ++ rest) w) :
    Calls Tryd.prog 26 #[.pointer (some ⟨w0.heap.size, 0, none⟩), .string { data := #[110, 111, 100, 101, 32] }] w fun e w' => e = .returned (.tuple #[.int .i64 5, .nilIface]) ∧ At w0 total (acc ++ [110, 111, 100, 101, 32]) rest w' :=
  write_as hT { data := #[110, 111, 100, 101, 32] } h
theorem write_colon {w0 : World} {total : List UInt8} (hT : total.length ≤ 1099511627776) {acc rest : List UInt8} {w : World} (h : At w0 total acc ([58, 32] ++ rest) w) :
    Calls Tryd.prog 26 #[.pointer (some ⟨w0.heap.size, 0, none⟩), .string { data := #[58, 32] }] w fun e w' => e = .returned (.tuple #[.int .i64 2, .nilIface]) ∧ At w0 total (acc ++ [58, 32]) rest w' :=
  write_as hT { data := #[58, 32] } h
theorem write_empty {w0 : World} {total : List UInt8} (hT : total.length ≤ 1099511627776) {acc : List UInt8} {w : World} (h : At w0 total acc [] w) :
    Calls Tryd.prog 26 #[.pointer (some ⟨w0.heap.size, 0, none⟩), .string { data := #[] }] w fun e w' => e = .returned (.tuple #[.int .i64 0, .nilIface]) ∧ At w0 total acc [] w' := by
  refine (write_as hT (acc := acc) (rest := []) { data := #[] } (w := w) h).mono ?_
  rintro e w' ⟨rfl, h1⟩
  exact ⟨rfl, by simpa using h1⟩

theorem text_nil (w : World) : Calls Tryd.prog 14 #[.nilIface] w fun ev w' => ev = .returned (.string ⟨#[]⟩) ∧ w = w' := by
  go_enter Tryd.func14, Tryd.ntmps14
  go_wp2
  go_ret
  exact ⟨rfl, rfl⟩
theorem errorS (v : Value) (w : World) : (Go.method 238 48 v "Error").run Tryd.prog w = .ok (71, v) w := by kernel_rfl
theorem errorF (v : Value) (w : World) : (Go.method 238 41 v "Error").run Tryd.prog w = .ok (18, v) w := by kernel_rfl
theorem status_any (c : Int) (w : World) :
    Calls Tryd.prog 71 #[.int .i64 c] w fun ev w' => ev = .returned (.string (nameB (clean c))) ∧ Kept w w' := by
  have HT := Lib.hid (text_any c w)
  go_enter Tryd.func71, Tryd.ntmps71
  go_wp2_with (go_at_call 72; refine HT.out.mono ?_; rintro e w' ⟨rfl, hk⟩)
  go_ret
  exact ⟨rfl, hk⟩
theorem text_S (c : Int) (E : ByteArray) (hE : Hid (E.data.toList = nameL.getD (clean c).toNat [])) (w : World) :
    Calls Tryd.prog 14 #[.iface 48 (.int .i64 c)] w fun ev w' => ev = .returned (.string E) ∧ Kept w w' := by
  have h1 := errorS
  have HS := Lib.hid (status_any c w)
  go_enter Tryd.func14, Tryd.ntmps14
  go_wp2_with (go_at_call 71; refine HS.out.mono ?_; rintro e w' ⟨rfl, hk⟩)
  go_ret
  exact ⟨ret_str (by rw [hE.out]; rfl), hk⟩

set_option maxHeartbeats 2000000 in
theorem error_any (x : Option Int) (n0 : Int) (p0 : List Int) (b0 : Nat) (w : World) (hg : Eh w) (total : List UInt8) (hT : Hid (tellL x (n0 :: p0) = total)) (hlen : total.length ≤ 1099511627776)
    (hfit : ∀ m ∈ n0 :: p0, Fit w m) (he : Err w x (n0 :: p0) (.iface 41 (.pointer (some ⟨b0, 0, none⟩)))) :
    Calls Tryd.prog 18 #[.pointer (some ⟨b0, 0, none⟩)] w fun ev w' => ev = .returned (.string ⟨total.toArray⟩) ∧ Kept w w' := by
  have HE := Lib.hid he
  have HG := Lib.hid hg
  have HF := Lib.hid hfit
  have HL := Lib.hid hlen
  clear he hg hfit hlen
  go_enter Tryd.func18, Tryd.ntmps18
  go_wp2_with fail
  go_loopw [0] (fun f wr => (f = .pointer none ∧ ∃ acc, At w total acc [] wr) ∨ (∃ n p b acc, f = .pointer (some ⟨b, 0, none⟩) ∧ At w total acc (tellL x (n :: p)) wr ∧ Err w x (n :: p) (.iface 41 (.pointer (some ⟨b, 0, none⟩))) ∧ Hid (∀ m ∈ n :: p, Fit w m)))
    (fun f _ => match f with | .pointer (some a) => a.block + 1 | _ => 0)
  case atStart => exact Or.inr ⟨n0, p0, b0, [], rfl, by rw [hT.out]; exact At.new w total, HE.out, HF⟩
  case round =>
    rcases hrel with ⟨rfl, acc, hA⟩ | ⟨n, p, b, acc, rfl, hA, hE, hfit⟩
    · have hacc : acc = total := by have := hA.2.2.2; rwa [List.append_nil] at this
      subst hacc
      have HS := Lib.hid (Tryd.Builder_String_any _ _ acc wr hA.1 (by have := hA.2.2.1; omega))
      go_wp2_with (go_at_call 29; refine HS.out.mono ?_; rintro e w' ⟨rfl, hk⟩)
      go_ret
      exact ⟨rfl, Below.trans hA.2.1 hk⟩
    · obtain ⟨b', of, hbe, hb, hr, ho⟩ := hE
      obtain rfl : b = b' := by simpa using hbe
      clear hbe
      have HB := Lib.hid hb
      have HR := Lib.hid hr
      have HO := Lib.hid ho
      obtain ⟨D, hD⟩ : ∃ D : ByteArray, (⟨(Lib.itoa n).toArray⟩ : ByteArray) = D := ⟨_, rfl⟩
      have hDl : Hid (D.data.toList = Lib.itoa n) := by show _ = _; rw [← hD]
      clear hb hr hD
      have hn := Lib.hid (hfit.out n (List.mem_cons_self ..))
      cases p with
      | nil =>
        cases x with
        | none =>
          obtain rfl := ho
          have hA0 : At w total acc ([110, 111, 100, 101, 32] ++ (Lib.itoa n ++ [])) wr := hA
          clear hA
          obtain ⟨c0, c1⟩ := At.cells hA0 HB
          go_wp2_with (first
          | (go_at_call 26; first
            | ((with_reducible refine (write_node HL.out (by assumption)).mono ?_); rintro ev w' ⟨rfl, hA'⟩; obtain ⟨c0, c1⟩ := At.cells hA' HB)
            | ((with_reducible refine (write_colon HL.out (by assumption)).mono ?_); rintro ev w' ⟨rfl, hA'⟩; obtain ⟨c0, c1⟩ := At.cells hA' HB)
            | ((with_reducible refine (write_E HL.out D hDl (by assumption)).mono ?_); rintro ev w' ⟨rfl, hA'⟩; obtain ⟨c0, c1⟩ := At.cells hA' HB)
            | ((with_reducible refine (write_empty HL.out (by assumption)).mono ?_); rintro ev w' ⟨rfl, hA'⟩))
          | (go_at_call 27; refine (itoa_any n D hDl _ (Fit.kept hn.out (At.kept (by assumption)))).mono ?_; rintro ev w' ⟨rfl, hk⟩; have hA' := At.go (by assumption) hk; obtain ⟨c0, c1⟩ := At.cells hA' HB)
          | (go_at_call 28; refine (itself_nil _).mono ?_; rintro ev w' ⟨rfl, hk⟩; have hA' := At.go (by assumption) hk; obtain ⟨c0, c1⟩ := At.cells hA' HB)
          | (go_at_call 14; refine (text_nil _).mono ?_; rintro ev w' ⟨rfl, rfl⟩))
          go_roundw
          case rel => exact Or.inl ⟨rfl, _, by assumption⟩
          case measure => exact Nat.zero_lt_succ _
        | some c =>
          obtain rfl := ho
          obtain ⟨N, hN⟩ : ∃ N, nameL.getD (clean c).toNat [] = N := ⟨_, rfl⟩
          obtain ⟨F, hF⟩ : ∃ F : ByteArray, (⟨N.toArray⟩ : ByteArray) = F := ⟨_, rfl⟩
          have hF1 : Hid (F.data.toList = nameL.getD (clean c).toNat []) := by show _ = _; rw [← hF, hN]
          have hF2 : Hid (F.data.toList = N) := by show _ = _; rw [← hF]
          have hA0 : At w total acc ([110, 111, 100, 101, 32] ++ (Lib.itoa n ++ ([58, 32] ++ (N ++ [])))) wr := by
            rw [List.append_nil, ← hN]; exact hA
          clear hA hN hF
          obtain ⟨c0, c1⟩ := At.cells hA0 HB
          go_wp2_with (first
          | (go_at_call 26; first
            | ((with_reducible refine (write_node HL.out (by assumption)).mono ?_); rintro ev w' ⟨rfl, hA'⟩; obtain ⟨c0, c1⟩ := At.cells hA' HB)
            | ((with_reducible refine (write_colon HL.out (by assumption)).mono ?_); rintro ev w' ⟨rfl, hA'⟩; obtain ⟨c0, c1⟩ := At.cells hA' HB)
            | ((with_reducible refine (write_E HL.out D hDl (by assumption)).mono ?_); rintro ev w' ⟨rfl, hA'⟩; obtain ⟨c0, c1⟩ := At.cells hA' HB)
            | ((with_reducible refine (write_E HL.out F hF2 (by assumption)).mono ?_); rintro ev w' ⟨rfl, hA'⟩))
          | (go_at_call 27; refine (itoa_any n D hDl _ (Fit.kept hn.out (At.kept (by assumption)))).mono ?_; rintro ev w' ⟨rfl, hk⟩; have hA' := At.go (by assumption) hk; obtain ⟨c0, c1⟩ := At.cells hA' HB)
          | (go_at_call 28; refine (itself_S c _ (HG.out.kept (At.kept (by assumption)))).mono ?_; rintro ev w' ⟨rfl, hk⟩; have hA' := At.go (by assumption) hk; obtain ⟨c0, c1⟩ := At.cells hA' HB)
          | (go_at_call 14; refine (text_S c F hF1 _).mono ?_; rintro ev w' ⟨rfl, hk⟩; have hA' := At.go (by assumption) hk))
          go_roundw
          case rel => exact Or.inl ⟨rfl, _, by assumption⟩
          case measure => exact Nat.zero_lt_succ _
      | cons m q =>
        obtain ⟨b2, of2, rfl, _⟩ := ho
        have hA0 : At w total acc ([110, 111, 100, 101, 32] ++ (Lib.itoa n ++ ([58, 32] ++ tellL x (m :: q)))) wr := by
          cases x <;> exact hA
        clear hA
        obtain ⟨c0, c1⟩ := At.cells hA0 HB
        go_wp2_with (first
          | (go_at_call 26; first
            | ((with_reducible refine (write_node HL.out (by assumption)).mono ?_); rintro ev w' ⟨rfl, hA'⟩; obtain ⟨c0, c1⟩ := At.cells hA' HB)
            | ((with_reducible refine (write_colon HL.out (by assumption)).mono ?_); rintro ev w' ⟨rfl, hA'⟩; obtain ⟨c0, c1⟩ := At.cells hA' HB)
            | ((with_reducible refine (write_E HL.out D hDl (by assumption)).mono ?_); rintro ev w' ⟨rfl, hA'⟩; obtain ⟨c0, c1⟩ := At.cells hA' HB))
          | (go_at_call 27; refine (itoa_any n D hDl _ (Fit.kept hn.out (At.kept (by assumption)))).mono ?_; rintro ev w' ⟨rfl, hk⟩; have hA' := At.go (by assumption) hk; obtain ⟨c0, c1⟩ := At.cells hA' HB)
          | (go_at_call 28; refine (itself_F ⟨b2, 0, none⟩ _ (HG.out.kept (At.kept (by assumption)))).mono ?_; rintro ev w' ⟨rfl, hk⟩; have hA' := At.go (by assumption) hk; obtain ⟨c0, c1⟩ := At.cells hA' HB))
        go_roundw
        case rel => exact Or.inr ⟨m, q, b2, _, rfl, by assumption, HO.out, fun k hk => hfit.out k (List.mem_cons_of_mem _ hk)⟩
        case measure => exact Nat.lt_succ_of_le HR.out

end Go.Proofs.YtjecoldapmoioaaDoor.Fa
