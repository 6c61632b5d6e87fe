/- The document's answer for what was seen, in memory; its Has. -/
import Derived.Test.YthnjfkikepohcaaKeE
import Derived.Test.YthnjfkikepohcaaRv
import Derived.Test.YthnjfkikepohcaaTk
import Derived.Deep.QuietTactic
import Derived.IntWalk
namespace Go.Proofs.Ythnjfkikepohcaa.Se
open Go.RowKit Go.Sort Tk IdM Rv
open St (Kept blk_cell blk_free blk_lt blk_set)
open Wh (Fr Mine)
set_option linter.unusedVariables false

/-- how an item lies -/
def enc (e : Ke × Int) : List Value := [.int .i64 e.1.n, .int .i64 e.1.i, .int .i64 e.1.s, .int .i64 e.1.a, .int .i64 e.2]
theorem encI : EncT 26 49 5 40 [.int .i64 0, .int .i64 0, .int .i64 0, .int .i64 0, .int .i64 0] enc where
  us := Try.underlying26
  info := by kernel_rfl
  small := by omega
  pos := by omega
  zl := rfl
  z1 := by decide
  len := fun _ => rfl
  one := fun a u hu => by
    unfold enc at hu
    simp only [List.mem_cons, List.not_mem_nil, or_false] at hu
    rcases hu with rfl | rfl | rfl | rfl | rfl <;> rfl

/-- the blocks that it has -/
def SO (R : Nat) (v : Value) (k : Nat) : Prop := k = R ∨ v.ownBlock = some k
/-- THE DOCUMENT's in block R: its list's slice v -/
structure Rsn (w : World) (R : Nat) (v : Value) (s : Its) : Prop where
  blk : w.heap[R]? = some (.cells #[v] 28 (0, 0))
  row : RowV w v 49 5 enc s
  ne : ∀ g, v.ownBlock = some g → g ≠ R
  rt : Right s

section
variable {w w' : World} {S : Nat → Prop} {R : Nat} {v v' : Value} {s s' : Its}
theorem Rsn.lt (h : Rsn w R v s) (k : Nat) (hk : SO R v k) : k < w.heap.size := hk.elim (fun e => e ▸ blk_lt h.blk) (fun e => h.row.lt e)
theorem Rsn.c0 (h : Rsn w R v s) : w.cell? ⟨R, 0, none⟩ = some v := by rw [blk_cell h.blk]; rfl
theorem Rsn.stay (h : Rsn w R v s) (hk : ∀ k, SO R v k → w'.heap[k]? = w.heap[k]?) : Rsn w' R v s :=
  ⟨(hk R (.inl rfl)).trans h.blk, h.row.kept fun g e => hk g (.inr e), h.ne, h.rt⟩
theorem Rsn.kept (h : Rsn w R v s) (hk : Kept w w') : Rsn w' R v s := h.stay fun k c => hk.block k (h.lt k c)
theorem Rsn.fr (h : Rsn w R v s) (hk : Fr S w w') (hn : ∀ k, SO R v k → ¬ S k) : Rsn w' R v s := h.stay fun k c => hk.block k (h.lt k c) (hn k c)
theorem Rsn.at (h : Rsn w R v s) {j : Nat} {n i q a c : Int} (he : s[j]? = some (⟨n, i, q, a⟩, c)) : ∃ g cap, v = .slice (some ⟨g, 0, none⟩) s.length cap ∧ s.length ≤ cap ∧ g < w.heap.size ∧
    w.cell? ⟨g, j * 5, none⟩ = some (.int .i64 n) ∧ w.cell? ⟨g, j * 5 + 1, none⟩ = some (.int .i64 i) ∧ w.cell? ⟨g, j * 5 + 2, none⟩ = some (.int .i64 q) ∧ w.cell? ⟨g, j * 5 + 3, none⟩ = some (.int .i64 a) ∧ w.cell? ⟨g, j * 5 + 4, none⟩ = some (.int .i64 c) := by
  obtain ⟨g, cap, e, h1, h2, hc⟩ := h.row.at encI.len he
  have h0 := hc 0 _ rfl
  rw [Nat.add_zero] at h0
  exact ⟨g, cap, e, h1, h2, h0, hc 1 _ rfl, hc 2 _ rfl, hc 3 _ rfl, hc 4 _ rfl⟩
theorem Rsn.len (h : Rsn w R v s) (ty : TypeId) (u : World) : (Builtin.len_ #[26] ty #[v]).run Try.prog u = .ok (.int .i64 (s.length : Int)) u := h.row.len encI.us ty u

set_option maxHeartbeats 1600000 in
set_option maxRecDepth 100000 in
theorem rhas_any (h : Rsn w R v s) (n i q a : Int) :
    Calls Try.prog 11 #[.pointer (some ⟨R, 0, none⟩), .agg #[.int .i64 n, .int .i64 i, .int .i64 q, .int .i64 a]] w fun e w' => e = .returned (.bool (hasK ⟨n, i, q, a⟩ s)) ∧ Kept w w' := by
  obtain ⟨W, hW⟩ : ∃ W, w.alloc (.cells #[.int .i64 n, .int .i64 i, .int .i64 q, .int .i64 a] 32) = W := ⟨_, rfl⟩
  have k0 : Kept w W := by rw [← hW]; exact Kept.one _ _
  have b0 : W.heap[w.heap.size]? = some (.cells #[.int .i64 n, .int .i64 i, .int .i64 q, .int .i64 a] 32 (0, 0)) := by rw [← hW]; exact St.blk_new _ _
  have HI := Lib.hid (h.kept k0)
  have hlenL := h.len
  have HW := Lib.hid hW
  have HB := Lib.hid b0
  have HK := Lib.hid k0
  have hsl := h.rt.len
  obtain ⟨p, hp⟩ : ∃ p, hasK ⟨n, i, q, a⟩ s = p := ⟨_, rfl⟩
  rw [hp]
  have HP := Lib.hid hp
  clear h hW b0 k0 hp
  go_enter Try.func11, Try.ntmps11
  go_wp2_with fail
  rw [HW.out]
  go_loopw [5] (fun iv wr => ∃ j : Nat, j ≤ s.length ∧ iv = .int .i64 (j : Int) ∧ Hid (∀ m, m < j → ∀ y c, s[m]? = some (y, c) → y ≠ ⟨n, i, q, a⟩) ∧ Kept W wr) (fun iv _ => s.length - (intOf iv).toNat)
  case atStart => exact ⟨0, Nat.zero_le _, rfl, Lib.hid (fun m hm => by omega), Kept.refl _⟩
  case round =>
    obtain ⟨j, hj, rfl, hno, hk⟩ := hrel
    have H1 := HI.out.kept hk
    have c0 := H1.c0
    by_cases hlt : j < s.length
    · obtain ⟨⟨y, c⟩, hy⟩ : ∃ e, s[j]? = some e := ⟨_, List.getElem?_eq_getElem hlt⟩
      obtain ⟨yn, yi, ys, ya⟩ := y
      obtain ⟨b, cap, hv, hcap, hbl, p0, p1, p2, p3, p4⟩ := H1.at hy
      have hcap2 : (s.length : Int) ≤ (cap : Int) := by omega
      have hj0 : (0 : Int) ≤ (j : Int) := by omega
      have hjl : (j : Int) < (s.length : Int) := by omega
      have bb := (hk.block _ (blk_lt HB.out)).trans HB.out
      have x0 : wr.cell? ⟨w.heap.size, 0, none⟩ = some (.int .i64 n) := by rw [blk_cell bb]; rfl
      have x1 : wr.cell? ⟨w.heap.size, 1, none⟩ = some (.int .i64 i) := by rw [blk_cell bb]; rfl
      have x2 : wr.cell? ⟨w.heap.size, 2, none⟩ = some (.int .i64 q) := by rw [blk_cell bb]; rfl
      have x3 : wr.cell? ⟨w.heap.size, 3, none⟩ = some (.int .i64 a) := by rw [blk_cell bb]; rfl
      have HK1 := Lib.hid hk
      clear bb H1 hbl hcap hk
      subst hv
      by_cases hyx : (⟨yn, yi, ys, ya⟩ : Ke) = ⟨n, i, q, a⟩
      · have he2 : ∀ w, (binOp .eql 32 (.agg #[.int .i64 yn, .int .i64 yi, .int .i64 ys, .int .i64 ya]) (.agg #[.int .i64 n, .int .i64 i, .int .i64 q, .int .i64 a])).run Try.prog w = .ok (.bool true) w := fun w => by rw [eq_key, decide_eq_true hyx]
        have ht : hasK ⟨n, i, q, a⟩ s = true := has_iff.2 ⟨c, by rw [← hyx]; exact List.mem_of_getElem? hy⟩
        rw [HP.out] at ht
        subst ht
        clear hyx hno hy
        go_wp2_with fail
        go_quiet (fail)
        go_wp2_with fail
        go_ret
        exact ⟨rfl, (HK.out.trans HK1.out).drewN _⟩
      · have he2 : ∀ w, (binOp .eql 32 (.agg #[.int .i64 yn, .int .i64 yi, .int .i64 ys, .int .i64 ya]) (.agg #[.int .i64 n, .int .i64 i, .int .i64 q, .int .i64 a])).run Try.prog w = .ok (.bool false) w := fun w => by rw [eq_key, decide_eq_false hyx]
        have HN := Lib.hid (show ∀ m, m < j + 1 → ∀ y c, s[m]? = some (y, c) → y ≠ ⟨n, i, q, a⟩ from fun m hm y' c' h' => by
          by_cases e : m = j
          · subst e; rw [hy] at h'; obtain ⟨rfl, rfl⟩ := Prod.mk.inj (Option.some.inj h'); exact hyx
          · exact hno.out m (by omega) y' c' h')
        clear hyx hno hy
        go_wp2_with fail
        go_quiet (fail)
        go_wp2_with fail
        go_roundw
        case rel => exact ⟨j + 1, hlt, by go_num, HN, HK1.out.drewN _⟩
        case measure => simp [intOf]; omega
    · have hje : j = s.length := by omega
      subst hje
      have ht : hasK ⟨n, i, q, a⟩ s = false := by
        rw [has_no]
        intro c hm
        obtain ⟨m, hm1, hm2⟩ := List.mem_iff_getElem.1 hm
        exact hno.out m hm1 _ c (by rw [List.getElem?_eq_getElem hm1, hm2]) rfl
      rw [HP.out] at ht
      subst ht
      have HK1 := Lib.hid hk
      clear hno hlt H1 hk
      go_wp2_with fail
      go_ret
      exact ⟨rfl, HK.out.trans HK1.out⟩
end

end Go.Proofs.Ythnjfkikepohcaa.Se
