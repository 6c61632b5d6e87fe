/- A table as a whole: its blocks, its owners; what Get, Drop and Put leave. -/
import Derived.Test.YtiaafjabhnomeaaTbE
import Derived.Test.YtiaafjabhnomeaaOw4
namespace Go.Proofs.Ytiaafjabhnomeaa.Tb
open Go.RowKit Go.Sort IdM Se Mv Blk
open St (Kept blk_cell blk_free blk_lt blk_set)
open Go.Proofs.Ytiaafjabhnomeaa.Ow (Ow Cls Mc mc_cls)
open Go.Proofs.Ytiaafjabhnomeaa.Cl (Cl encC)
open Go.Proofs.Ytiaafjabhnomeaa.Rv
open Wh (Fr)
set_option linter.unusedVariables false
set_option maxRecDepth 20000

structure TbA (w : World) (B M N : Nat) (Sc : Nat → Prop) (T : Ke → Option Eo) (n : Nat) (F : Cal) (L : Tab) (m : Nat) (S : Nat → Prop) : Prop where
  blk : Blk0 w B M N
  map : MV keyK elO zO w M T n
  most : n ≤ m
  cb : Cb w N F m Sc
  row : ∀ x, okK x → (T x = none ∧ find x L = none) ∨ ∃ e K, T x = some e ∧ find x L = some ⟨e.o, K⟩ ∧ Mc w e.s.v K ∧ K.length ≤ 900000 ∧ ∀ g, e.s.v.ownBlock = some g → S g ∧ ¬ Sc g ∧ g ≠ M
  told : Told F L
  sorted : Sorted L
  fit : ∀ e ∈ L, e.Fit
  sS : ∀ k, Sc k → S k
  sB : S B
  sM : S M
  nB : ¬ Sc B
  nM : ¬ Sc M
  lt : ∀ k, S k → k < w.heap.size
/-- BLOCK B IS A TABLE of these owners; what it has lies in S; m bounds how much that is -/
def Tbl (w : World) (B : Nat) (L : Tab) (m : Nat) (S : Nat → Prop) : Prop := ∃ M N Sc T n F, TbA w B M N Sc T n F L m S

def got (x : Ke) (L : Tab) : En := (find x L).getD ⟨Ow.zero, []⟩

section
variable {w w' : World} {B M N m n : Nat} {F : Cal} {T : Ke → Option Eo} {Sc S S' : Nat → Prop} {L : Tab}
theorem TbA.stay (h : TbA w B M N Sc T n F L m S) (hz : w.heap.size ≤ w'.heap.size) (hk : ∀ k, k < w.heap.size → S k → w'.heap[k]? = w.heap[k]?) : TbA w' B M N Sc T n F L m S :=
  ⟨(hk B (h.lt B h.sB) h.sB).trans h.blk, h.map.kept (hk M (h.lt M h.sM) h.sM), h.most, by
    obtain ⟨C, j, c⟩ := h.cb
    exact ⟨C, j, c.stay fun k a b => hk k a (h.sS k b)⟩, fun x hx => (h.row x hx).imp id fun ⟨e, K, h1, h2, h3, h4, h5⟩ => ⟨e, K, h1, h2, h3.kept fun g hg => hk g (h3.lt hg) (h5 g hg).1, h4, h5⟩, h.told, h.sorted, h.fit, h.sS, h.sB, h.sM, h.nB, h.nM, fun k c => Nat.lt_of_lt_of_le (h.lt k c) hz⟩
theorem Tbl.kept (h : Tbl w B L m S) (hk : Kept w w') : Tbl w' B L m S := by obtain ⟨M, N, Sc, T, n, F, h⟩ := h; exact ⟨M, N, Sc, T, n, F, h.stay hk.size fun k c _ => hk.block k c⟩
theorem Tbl.fr (h : Tbl w B L m S) (hk : Fr S' w w') (hn : ∀ k, S k → ¬ S' k) : Tbl w' B L m S := by obtain ⟨M, N, Sc, T, n, F, h⟩ := h; exact ⟨M, N, Sc, T, n, F, h.stay hk.size fun k c d => hk.block k c (hn k d)⟩
theorem TbA.kept (h : TbA w B M N Sc T n F L m S) (hk : Kept w w') : TbA w' B M N Sc T n F L m S := h.stay hk.size fun k c _ => hk.block k c
theorem Tbl.lt (h : Tbl w B L m S) : ∀ k, S k → k < w.heap.size := by obtain ⟨M, N, Sc, T, n, F, h⟩ := h; exact h.lt
theorem Tbl.sorted (h : Tbl w B L m S) : Sorted L := by obtain ⟨M, N, Sc, T, n, F, h⟩ := h; exact h.sorted
theorem Tbl.fit (h : Tbl w B L m S) : ∀ e ∈ L, e.Fit := by obtain ⟨M, N, Sc, T, n, F, h⟩ := h; exact h.fit
theorem Tbl.sB (h : Tbl w B L m S) : S B := by obtain ⟨M, N, Sc, T, n, F, h⟩ := h; exact h.sB
theorem Tbl.mono (h : Tbl w B L m S) {m' : Nat} (hm : m ≤ m') : Tbl w B L m' S := by
  obtain ⟨M, N, Sc, T, n, F, h⟩ := h
  exact ⟨M, N, Sc, T, n, F, h.blk, h.map, Nat.le_trans h.most hm, h.cb.mono (fun _ c => c) hm, h.row, h.told, h.sorted, h.fit, h.sS, h.sB, h.sM, h.nB, h.nM, h.lt⟩
/-- 'o, has := t.owners[k]' -/
theorem TbA.look (h : TbA w B M N Sc T n F L m S) {x : Ke} (hx : okK x) : ∃ s : Sl, (∀ u, u.heap[M]? = w.heap[M]? → (Instr.lookup 60 (.map (some M)) (kv x) true).run Try.prog u = .ok (.tuple #[.agg ((got x L).o.arr (ad s.q) s.n s.c), .bool (find x L).isSome]) u) ∧
    Mc w s.v (got x L).K ∧ (got x L).K.length ≤ 900000 ∧ (∀ g, s.v.ownBlock = some g → S g ∧ ¬ Sc g ∧ g ≠ M) := by
  have hl := fun (u : World) (hu : u.heap[M]? = w.heap[M]?) => (h.map.kept hu).look_ok Try.underlying60 zero_own hx
  rcases h.row x hx with ⟨h1, h2⟩ | ⟨e, K, h1, h2, h3, h4, h5⟩
  · refine ⟨zS, fun u hu => ?_, ?_, ?_, fun g c => by cases c⟩
    · have := hl u hu
      rw [h1] at this
      unfold got; rw [h2]; exact this
    · unfold got; rw [h2]; exact rowv_nil _ _ _ _
    · unfold got; rw [h2]; exact Nat.zero_le _
  · refine ⟨e.s, fun u hu => ?_, ?_, ?_, h5⟩
    · have := hl u hu
      rw [h1] at this
      unfold got; rw [h2]; exact this
    · unfold got; rw [h2]; exact h3
    · unfold got; rw [h2]; exact h4
theorem got_key {x : Ke} {L : Tab} (h : (got x L).K ≠ []) : ok (got x L).o = x := by
  unfold got at *
  cases hf : find x L with
  | none => rw [hf] at h; exact absurd rfl h
  | some e => exact (find_some hf).2
theorem got_fit (h : ∀ e ∈ L, e.Fit) (x : Ke) : ∀ c ∈ (got x L).K, okD (ci c) := fun c hc => by
  unfold got at hc
  cases hf : find x L with
  | none => rw [hf] at hc; cases hc
  | some e => rw [hf] at hc; exact (h e (find_some hf).1).2 c hc
theorem for_got (hs : Sorted L) (ht : Told F L) (x : Ke) : Told (forF (ok (got x L).o) (got x L).K F) (drop x L) := by
  cases hf : find x L with
  | none =>
    have e : got x L = ⟨Ow.zero, []⟩ := by unfold got; rw [hf]; rfl
    rw [e]
    exact ht.drop_none hf
  | some e =>
    have e1 : got x L = e := by unfold got; rw [hf]; rfl
    have e2 := (find_some hf).2
    rw [e1]
    subst e2
    exact ht.drop hs hf
/-- an owner is dropped: behind 'forget', and behind 'delete' -/
theorem TbA.dropped (h : TbA w B M N Sc T n F L m S) {x : Ke} (hx : okK x) {w1 : World} {Sc' : Nat → Prop} (hc : Cb w1 N (forF (ok (got x L).o) (got x L).K F) m Sc') (hsub : ∀ k, Sc' k → Sc k ∨ w.heap.size ≤ k) (hf : Fr Sc w w1)
    {U : World} (hU : Kept w1 U) : (∀ k, Sc' k → k < w1.heap.size) → ∃ w2, (∀ ty, (Builtin.delete_ #[60, 32] ty #[.map (some M), kv x]).run Try.prog U = .ok (.tuple #[]) w2) ∧
      (∃ S', Tbl w2 B (drop x L) m S' ∧ (∀ k, S' k → S k ∨ w.heap.size ≤ k)) ∧ Fr S w w2 := fun hlt => by
  have zf := hf.size
  have zU := hU.size
  have hM : M < w.heap.size := h.map.lt
  have hMU : U.heap[M]? = w.heap[M]? := (hU.block M (by omega)).trans (hf.block M hM h.nM)
  obtain ⟨w2, r2, m2, t2⟩ := (h.map.kept hMU).drop Try.underlying60 hx 0
  have f2 : Fr (fun k => k = M) U w2 := Fr.turned (Fr.refl _ _) t2 (.inl rfl)
  have z2 := f2.size
  have hblk : ∀ k, k < w.heap.size → ¬ Sc k → k ≠ M → w2.heap[k]? = w.heap[k]? := fun k hk c1 c2 => (f2.block k (by omega) c2).trans ((hU.block k (by omega)).trans (hf.block k hk c1))
  have nM' : ¬ Sc' M := fun c => (hsub M c).elim h.nM (fun c => by omega)
  refine ⟨w2, fun ty => r2, ⟨fun k => S k ∨ Sc' k, ⟨M, N, Sc', upd T x none, (if (T x).isSome = true then n - 1 else n), forF (ok (got x L).o) (got x L).K F, ?_⟩, fun k c => c.elim .inl (fun c => (hsub k c).imp (h.sS k) id)⟩, ?_⟩
  · refine ⟨(hblk B (blk_lt h.blk) h.nB (fun c => by have := h.blk; obtain ⟨D, ⟨es, cl, hb, _⟩, _⟩ := h.map; unfold Blk0 at this; rw [c, hb] at this; cases this)).trans h.blk, m2, by split <;> have := h.most <;> omega, ?_, fun y hy => ?_, for_got h.sorted h.told x, sorted_drop h.sorted x, fun e he => h.fit e (mem_drop.1 he).1, fun k c => .inr c, .inl h.sB, .inl h.sM, fun c => (hsub B c).elim h.nB (fun c => by have := blk_lt h.blk; omega), nM', fun k c => ?_⟩
    · exact (hc.kept hU).fr f2 (fun k c1 c2 => nM' (c2 ▸ c1))
    · rw [find_drop h.sorted]
      by_cases c : y = x
      · subst c; rw [upd_same, if_pos rfl]; exact .inl ⟨rfl, rfl⟩
      · rw [upd_other _ _ c, if_neg c]
        refine (h.row y hy).imp id fun ⟨e, K, h1, h2, h3, h4, h5⟩ => ⟨e, K, h1, h2, h3.kept fun g hg => ?_, h4, fun g hg => ?_⟩
        · have hg' := h5 g hg
          exact hblk g (h3.lt hg) hg'.2.1 hg'.2.2
        · obtain ⟨a, b, c⟩ := h5 g hg
          exact ⟨.inl a, fun d => (hsub g d).elim b (fun d => by have := h3.lt hg; omega), c⟩
    · rcases c with c | c
      · have := h.lt k c; omega
      · have := hlt k c; omega
  · exact ⟨((f2.os.trans hU.os).trans hf.os), ((f2.tape.trans hU.tape).trans hf.tape), ((f2.output.trans hU.output).trans hf.output), by omega, fun k hk hS => hblk k hk (fun c => hS (h.sS k c)) (fun c => hS (c ▸ h.sM))⟩
theorem Cb.lt (h : Cb w N F m Sc) : ∃ S', Cb w N F m S' ∧ (∀ k, S' k → Sc k) ∧ ∀ k, S' k → k < w.heap.size := by
  obtain ⟨C, j, c⟩ := h
  refine ⟨fun k => Sc k ∧ k < w.heap.size, ⟨C, j, c.map, c.most, c.len, fun d hd => (c.row d hd).imp id fun ⟨s, g, h1, h2, h3, h4, h5, h6⟩ => ⟨s, g, h1, h2, h3, h4, ⟨h5, ?_⟩, h6⟩, c.inj, ⟨c.sN, c.map.lt⟩⟩, fun k h => h.1, fun k h => h.2⟩
  exact h4.lt (by unfold Sl.v ad; rw [h2]; rfl)
/-- an owner is laid: the map's entry -/
theorem TbA.laid (h : TbA w B M N Sc T n F L m S) (hn : m ≤ 900000) {o : Ow} {K : List Cl} (hx : okK (ok o)) {U : World} (hU : Kept w U) {s : Sl} (hr : Mc U s.v K) (hnew : ∀ g, s.v.ownBlock = some g → w.heap.size ≤ g) (hl : K.length ≤ 900000) (hd : find (ok o) L = none) :
    ∃ w2, (Instr.mapUpdate 60 (.map (some M)) (kv (ok o)) (.agg (o.arr (ad s.q) s.n s.c))).run Try.prog U = .ok () w2 ∧ Fr (fun k => k = M) U w2 ∧
      Blk0 w2 B M N ∧ Cb w2 N F m Sc ∧ MV keyK elO zO w2 M (upd T (ok o) (some ⟨o, s⟩)) (if (T (ok o)).isSome then n else n + 1) ∧ Mc w2 s.v K ∧
      ∀ y, okK y → y ≠ ok o → (T y = none ∧ find y L = none) ∨ ∃ e J, T y = some e ∧ find y L = some ⟨e.o, J⟩ ∧ Mc w2 e.s.v J ∧ J.length ≤ 900000 ∧ ∀ g, e.s.v.ownBlock = some g → S g ∧ ¬ Sc g ∧ g ≠ M := by
  have zU := hU.size
  have hM : M < w.heap.size := h.map.lt
  have hMU : U.heap[M]? = w.heap[M]? := hU.block M hM
  have hn2 := h.most
  obtain ⟨w2, r2, m2, t2⟩ := (h.map.kept hMU).store Try.underlying60 (by omega) hx (⟨o, s⟩ : Eo)
  have f2 : Fr (fun k => k = M) U w2 := Fr.turned (Fr.refl _ _) t2 (.inl rfl)
  have z2 := f2.size
  have hblk : ∀ k, k < w.heap.size → k ≠ M → w2.heap[k]? = w.heap[k]? := fun k hk c2 => (f2.block k (by omega) c2).trans (hU.block k hk)
  refine ⟨w2, r2, f2, (hblk B (blk_lt h.blk) (fun c => by have := h.blk; obtain ⟨D, ⟨es, cl, hb, _⟩, _⟩ := h.map; unfold Blk0 at this; rw [c, hb] at this; cases this)).trans h.blk, (h.cb.kept hU).fr f2 (fun k c1 c2 => h.nM (c2 ▸ c1)), m2, hr.kept fun g e => f2.block g (hr.lt e) (fun c => by have := hnew g e; omega), fun y hy c => ?_⟩
  refine (h.row y hy).imp id fun ⟨e, J, h1, h2, h3, h4, h5⟩ => ⟨e, J, h1, h2, h3.kept fun g hg => hblk g (h3.lt hg) (h5 g hg).2.2, h4, h5⟩
/-- .. and behind 'note' -/
theorem TbA.put (h : TbA w B M N Sc T n F L m S) {o : Ow} {K : List Cl} (hx : okK (ok o)) (hf : ∀ c ∈ K, okD (ci c)) {U w2 w3 : World} (hU : Kept w U) {s : Sl} (hnew : ∀ g, s.v.ownBlock = some g → w.heap.size ≤ g) (hl : K.length ≤ 900000) (hd : find (ok o) L = none)
    (f2 : Fr (fun k => k = M) U w2) (hb : Blk0 w2 B M N) (m2 : MV keyK elO zO w2 M (upd T (ok o) (some ⟨o, s⟩)) (if (T (ok o)).isSome then n else n + 1)) (hr : Mc w2 s.v K)
    (hrow : ∀ y, okK y → y ≠ ok o → (T y = none ∧ find y L = none) ∨ ∃ e J, T y = some e ∧ find y L = some ⟨e.o, J⟩ ∧ Mc w2 e.s.v J ∧ J.length ≤ 900000 ∧ ∀ g, e.s.v.ownBlock = some g → S g ∧ ¬ Sc g ∧ g ≠ M)
    {U2 : World} (hU2 : Kept w2 U2) {Sc' : Nat → Prop} {m' : Nat} (hc : Cb w3 N (noteF (ok o) K F) m' Sc') (hm' : m + 1 ≤ m') (hsub : ∀ k, Sc' k → Sc k ∨ U2.heap.size ≤ k) (hlt : ∀ k, Sc' k → k < w3.heap.size) (f3 : Fr Sc U2 w3) :
    (∃ S', Tbl w3 B (Tb.put ⟨o, K⟩ L) m' S' ∧ (∀ k, S' k → S k ∨ w.heap.size ≤ k)) ∧ Fr S w w3 := by
  have zU := hU.size
  have z2 := f2.size
  have zU2 := hU2.size
  have z3 := f3.size
  have hM : M < w.heap.size := h.map.lt
  have hdr : drop (ok o) L = L := drop_none hd
  have hblk3 : ∀ k, k < w2.heap.size → ¬ Sc k → w3.heap[k]? = w2.heap[k]? := fun k hk c => (f3.block k (by omega) c).trans (hU2.block k hk)
  have scl : ∀ k, Sc k → k < w.heap.size := fun k c => h.lt k (h.sS k c)
  have nM' : ¬ Sc' M := fun c => (hsub M c).elim h.nM (fun c => by omega)
  refine ⟨⟨fun k => S k ∨ (Sc' k ∨ s.v.ownBlock = some k), ⟨M, N, Sc', upd T (ok o) (some ⟨o, s⟩), (if (T (ok o)).isSome = true then n else n + 1), noteF (ok o) K F, ?_⟩, fun k c => ?_⟩, ?_⟩
  · refine ⟨(hblk3 B (blk_lt hb) h.nB).trans hb, m2.kept (hblk3 M (by omega) h.nM), by split <;> have := h.most <;> omega, hc, fun y hy => ?_, Told.put (e := ⟨o, K⟩) (by show Told F (drop (ok o) L); rw [hdr]; exact h.told), sorted_put h.sorted, fun e he => ?_, fun k c => .inr (.inl c), .inl h.sB, .inl h.sM, fun c => (hsub B c).elim h.nB (fun c => by have := blk_lt h.blk; omega), nM', fun k c => ?_⟩
    · rw [find_put h.sorted]
      by_cases c : y = ok o
      · subst c; rw [upd_same, if_pos (show ok o = (⟨o, K⟩ : En).k from rfl)]
        refine .inr ⟨⟨o, s⟩, K, rfl, rfl, hr.kept fun g hg => hblk3 g (hr.lt hg) (fun c => by have := scl g c; have := hnew g hg; omega), hl, fun g hg => ⟨.inr (.inr hg), fun c => ?_, fun c => by have := hnew g hg; omega⟩⟩
        have h1 := hnew g hg
        have h2 : g < w2.heap.size := hr.lt hg
        rcases hsub g c with c | c
        · have := scl g c; omega
        · omega
      · rw [upd_other _ _ c, if_neg (show ¬ y = (⟨o, K⟩ : En).k from c)]
        refine (hrow y hy c).imp id fun ⟨e, J, h1, h2, h3, h4, h5⟩ => ⟨e, J, h1, h2, h3.kept fun g hg => hblk3 g (h3.lt hg) (h5 g hg).2.1, h4, fun g hg => ?_⟩
        obtain ⟨a, b, c⟩ := h5 g hg
        exact ⟨.inl a, fun d => (hsub g d).elim b (fun d => by have := h3.lt hg; omega), c⟩
    · rcases mem_put.1 he with rfl | ⟨he, _⟩
      · exact ⟨hx, hf⟩
      · exact h.fit e he
    · rcases c with c | c | c
      · have := h.lt k c; omega
      · exact hlt k c
      · have : k < w2.heap.size := hr.lt c
        omega
  · rcases c with c | c | c
    · exact .inl c
    · rcases hsub k c with c | c
      · exact .inl (h.sS k c)
      · exact .inr (by omega)
    · exact .inr (hnew k c)
  · exact ⟨(((f3.os.trans hU2.os).trans f2.os).trans hU.os), (((f3.tape.trans hU2.tape).trans f2.tape).trans hU.tape), (((f3.output.trans hU2.output).trans f2.output).trans hU.output), by omega, fun k hk hS => (hblk3 k (by omega) (fun c => hS (h.sS k c))).trans ((f2.block k (by omega) (fun c => hS (c ▸ h.sM))).trans (hU.block k hk))⟩
end

end Go.Proofs.Ytiaafjabhnomeaa.Tb
