/- slices.Collect of a map's keys, which are names of alarms; All. -/
import Derived.Test.YtckmkagijanbdaaAlK
import Derived.Test.YtckmkagijanbdaaAl8
namespace Go.Proofs.Ytckmkagijanbdaa.Al
open Go.RowKit Go.Maps Go.Sort Go.Shelf IdM
open Wh (Fr)
open St (Kept blk_cell blk_free blk_lt blk_set)
set_option linter.unusedVariables false

attribute [local go_sem] Oper.semAt_some

theorem akeys_stops {H : Type} (F : Fence) (n : Nat) (h46 : F.fn 46) (hro : F.round = none) (hn : 1 ≤ n) (Bm b nn : Nat) (D0 : DataW H) {R : Value → Option (DataW H × List MemPlace)} (w : World) (hBm : Bm < w.heap.size)
    (hm : w.cell? ⟨Bm, 0, none⟩ = some (.map (some b))) (hown : w.ownsMap Try.prog 42 R b nn D0) :
    SeqStopsK F n Try.prog 46 #[.pointer (some ⟨Bm, 0, none⟩)] (fun x : Nm => #[nv x]) KeepsWalks (fun ss => ss.Nodup ∧ ∀ x, x ∈ ss ↔ okN x ∧ has D0 (nmKey.l x) = true) (fun _ => True) (Maps.size D0) w := fun l J Jx W hW hJ _ hY h0 => by
  have hown' : W.ownsMap Try.prog 42 R b nn D0 := by
    have hbl := hown.lt
    obtain ⟨es, clock, hb, Ft, hs, hD⟩ := hown
    exact ⟨es, clock, (hW.block b hbl).trans hb, Ft, hs, hD⟩
  exact akeys_in F n h46 hro hn l Bm b nn D0 J Jx hY W hJ ((hW.cell (p := ⟨Bm, 0, none⟩) hBm).trans hm) hown' h0

set_option maxHeartbeats 1000000 in
theorem akeysf_in (F : Fence) (n : Nat) (h32 : F.fn 32) (hro : F.round = none) (mb : Option Nat) (w : World) :
    CallsIn F n Try.prog 32 #[.map mb] w fun e w' => e = .returned (.func (.func 46) #[] #[.pointer (some ⟨w.heap.size, 0, none⟩)]) ∧ w' = w.alloc (.cells #[.map mb] 60) := by
  refine callsIn_of_wp Try.func32 rfl h32 ?_ hro
  simp only [Try.ntmps32, List.size_toArray, List.length_cons, List.length_nil, Nat.reduceAdd, Nat.reduceSub, Array.replicate_succ, Array.replicate_zero, List.push_toArray, List.append_toArray, List.nil_append, List.cons_append]
  gi_wp2
  go_ret
  exact ⟨rfl, rfl⟩

theorem news_at (W : World) (et : TypeId) (l : List Int) : ∀ j u, (l.map (Value.int .i64))[j]? = some u → (W.alloc (.cells (l.map (Value.int .i64)).toArray et)).cell? ((⟨W.heap.size, 0, none⟩ : Addr).add j) = some u := fun j u hj => by
  rw [addr_add, blk_cell (St.blk_new W _), ← Array.getElem?_toList, Nat.zero_add]; exact hj

set_option maxRecDepth 100000 in
set_option maxHeartbeats 4000000 in
theorem aseq_in (F : Fence) (n : Nat) (h58 : F.fn 58) (hro : F.round = none) (hn : 2 ≤ n) (g : Nat) (lb : Array Value) (hFg : F.fn g) (eg : ∀ args w, (callFunc g args).run Try.prog w = .ok (.enter g args) w)
    (S : List Nm → Prop) (N : Nat) (hN : N ≤ 100000) (w : World) (hseq : SeqStopsK F (n - 1) Try.prog g lb (fun x : Nm => #[nv x]) KeepsWalks S (fun _ => True) N w) :
    CallsIn F n Try.prog 58 #[.slice none 0 0, .func (.func g) #[] lb] w fun e w' => ∃ (v : Value) (ss : List Nm), e = .returned v ∧ S ss ∧ w'.ownsRow w.heap.size 42 5 v ss.length (fl (ss.map Nm.ints)) ∧ Below w.heap.size w w' := by
  have h1 : 1 ≤ n := by omega
  obtain ⟨i0, hi, hz0, hz1, hz2⟩ := info_parts rowN.info
  refine callsIn_of_wp_marks Try.func58 rfl h58 ?_ hro
  simp only [Try.ntmps58, List.size_toArray, List.length_cons, List.length_nil, Nat.reduceAdd, Nat.reduceSub, Array.replicate_succ, Array.replicate_zero, List.push_toArray, List.append_toArray, List.nil_append, List.cons_append]
  gi_wp2
  have bS := Boxed.new w 40 (.slice none 0 0)
  have hB0 : Below w.heap.size w (w.alloc (.cells #[.slice none 0 0] 40)) := (Below.refl _ w).alloc (Nat.le_refl _) _
  have hsz : (w.alloc (.cells #[.slice none 0 0] 40)).heap.size = w.heap.size + 1 := by simp
  obtain ⟨W0, hW0⟩ : ∃ W0, w.alloc (.cells #[.slice none 0 0] 40) = W0 := ⟨_, rfl⟩
  rw [hW0] at bS hB0 hsz ⊢
  clear hW0
  refine wpIn_rangeFunc_ownH hro h1 (gf := g) (lb := lb) rfl hFg eg hseq walksK_t walksK_b hB0 (fun _ => rfl)
    (fun pre W => (∃ v, Boxed W w.heap.size 40 v ∧ W.ownsRow w.heap.size 42 5 v pre.length (fl (pre.map Nm.ints)) ∧ True) ∧ Below w.heap.size w W)
    (fun _ _ _ => False)
    (OwnFrom.and (Own.from (holdsRow_own w.heap.size w.heap.size 40 42 5 (fun pre : List Nm => pre.length) (fun pre : List Nm => fl (pre.map Nm.ints)) (fun _ _ => True)) _) (ownFrom_below (Nat.le_refl _) (by omega)))
    (fun _ _ _ _ _ hs _ _ => hs)
    ⟨⟨_, bS, ⟨rfl, .inl ⟨rfl, rfl⟩⟩, trivial⟩, hB0⟩
    (fun x a' W => ∃ Bx, w.heap.size < Bx ∧ W.heap[Bx]? = some (.cells #[.int .i64 x.n, .int .i64 x.i, .int .i64 x.s, .int .i64 x.a, .int .i64 x.k] 42 (0, 0)) ∧ a' = { tmps := #[.slice none 0 0, .func (.func g) #[] lb, .pointer (some ⟨w.heap.size, 0, none⟩), undef, .slice none 0 0, .pointer (some ⟨Bx, 0, none⟩), .func (.func g) #[] lb, nv x, undef, undef, undef, undef, undef], defers := [] })
    (fun x a' _ X Y row hs hg hr => by
      obtain ⟨Bx, h1, h2, h3⟩ := hs
      refine ⟨Bx, h1, ?_, h3⟩
      rw [hg.block Bx (blk_lt h2) (fun e => ?_)]; exact h2
      obtain ⟨_, o, ho, hc⟩ := hr Bx e.symm
      rw [h2] at ho; cases ho; cases hc)
    ?assign ?body ?done ?stop
  case assign =>
    rintro l pre x W K ⟨⟨v, hv, hrow, _⟩, hB⟩ hK
    obtain ⟨n1, i1, s1, a1, k1⟩ := x
    simp only [nv]
    gi_wp2
    exact hK _ _ ((KeepsOthers.alloc _ _).from _) (KeepsOthers.alloc _ _).walks ⟨⟨v, hv.alloc _, hrow.alloc _, trivial⟩, hB.alloc hB.size _⟩ ⟨W.heap.size, hv.lt, St.blk_new W _, rfl⟩
  case body =>
    rintro l pre x a' W hl ⟨r, hr⟩ ⟨⟨v, hv, hrow, _⟩, hB⟩ ⟨Bx, hBx, bX, rfl⟩ hlt
    obtain ⟨n1, i1, s1, a1, k1⟩ := x
    have x0 : W.cell? ⟨Bx, 0, none⟩ = some (.int .i64 n1) := by rw [blk_cell bX]; rfl
    have x1 : W.cell? ⟨Bx, 1, none⟩ = some (.int .i64 i1) := by rw [blk_cell bX]; rfl
    have x2 : W.cell? ⟨Bx, 2, none⟩ = some (.int .i64 s1) := by rw [blk_cell bX]; rfl
    have x3 : W.cell? ⟨Bx, 3, none⟩ = some (.int .i64 a1) := by rw [blk_cell bX]; rfl
    have x4 : W.cell? ⟨Bx, 4, none⟩ = some (.int .i64 k1) := by rw [blk_cell bX]; rfl
    have cS := hv.cell
    have fS := hv.frozen
    have hnews := news_at W 42 [n1, i1, s1, a1, k1]
    have hnews : ∀ j u, ([.int .i64 n1, .int .i64 i1, .int .i64 s1, .int .i64 a1, .int .i64 k1] : List Value)[j]? = some u → (W.alloc (.cells #[.int .i64 n1, .int .i64 i1, .int .i64 s1, .int .i64 a1, .int .i64 k1] 42)).cell? ((⟨W.heap.size, 0, none⟩ : Addr).add j) = some u := hnews
    have HNW := Lib.hid hnews
    have hb0 : w.heap.size ≤ (W.alloc (.cells #[.int .i64 n1, .int .i64 i1, .int .i64 s1, .int .i64 a1, .int .i64 k1] 42)).heap.size := by have := hB.size; simp; omega
    have HV := Lib.hid hv
    have HROW := Lib.hid hrow
    have hone : ∀ u ∈ ([.int .i64 n1, .int .i64 i1, .int .i64 s1, .int .i64 a1, .int .i64 k1] : List Value), u.oneCell' = true := fun u hu => by
      simp only [List.mem_cons, List.not_mem_nil, or_false] at hu
      rcases hu with rfl | rfl | rfl | rfl | rfl <;> rfl
    have HONE := Lib.hid hone
    have hm1 : pre.length + 1 ≤ maxLen := by unfold maxLen; omega
    have hm2 : (pre.length + 1) * (5 * 8) ≤ 140737488355328 := by omega
    clear hnews hone
    simp only [nv]
    gi_wp2_with (gi_at_builtin; refine wpListIn_append_own _ rfl _ _ 40 rfl w.heap.size 42 i0 (iv (List.replicate 5 0)) 5 (5 * 8) Try.underlying40 hi hz0 hz1 hz2 rfl (by decide) _ _ _ rfl (HROW.out.alloc _) ⟨W.heap.size, 0, none⟩ 1 1 [.int .i64 n1, .int .i64 i1, .int .i64 s1, .int .i64 a1, .int .i64 k1] rfl rfl HNW.out HONE.out hm1 hm2 hb0 ?_; intro v' w1 hown' hgrow _; obtain ⟨g', cap', rfl⟩ := ownsRow_succ hown'; obtain ⟨hv1, hv2, hr2, hk2, hb2⟩ := HV.out.appended (by decide) HROW.out hB.size (Nat.le_refl _) hown' hgrow; have hc1 := hv1.cell; have hf1 := hv1.frozen; have HR2 := Lib.hid (And.intro hv2 (And.intro hr2 (And.intro hk2 hb2))); clear hv1 hv2 hr2 hk2 hb2 hown' hgrow)
    refine ⟨HR2.out.2.2.1.from _, HR2.out.2.2.1.walks, ⟨_, HR2.out.1, ?_⟩, hB.trans HR2.out.2.2.2⟩
    have := HR2.out.2.1
    rw [List.length_append, List.map_append, fl_app]
    exact this
  case done =>
    rintro D ss W hD hS ⟨⟨v, hv, hrow, _⟩, hB⟩ hK
    have cS := hv.cell
    gi_wp2
    refine ⟨by simp, .inl ⟨_, _, rfl, run_takeDeferred hK, ?_⟩⟩
    exact ⟨_, results_tmp rfl _ _ _, v, ss, rfl, hS, ownsRow_putObj hrow _ hK rfl, hB.trans (belowK_b (w := w) (Nat.le_refl _) W D _ _ (by omega) hK rfl rfl)⟩
  case stop =>
    rintro D c pre W _ _ h _
    exact h.elim

set_option maxHeartbeats 1000000 in
theorem acollect_in (F : Fence) (n : Nat) (h45 : F.fn 45) (h58 : F.fn 58) (hro : F.round = none) (hn : 3 ≤ n) (g : Nat) (lb : Array Value) (hFg : F.fn g) (eg : ∀ args w, (callFunc g args).run Try.prog w = .ok (.enter g args) w)
    (S : List Nm → Prop) (N : Nat) (hN : N ≤ 100000) (w : World) (hseq : SeqStopsK F (n - 1 - 1) Try.prog g lb (fun x : Nm => #[nv x]) KeepsWalks S (fun _ => True) N w) :
    CallsIn F n Try.prog 45 #[.func (.func g) #[] lb] w fun e w' => ∃ (v : Value) (ss : List Nm), e = .returned v ∧ S ss ∧ w'.ownsRow w.heap.size 42 5 v ss.length (fl (ss.map Nm.ints)) ∧ Below w.heap.size w w' := by
  have h1 : 1 ≤ n := by omega
  refine callsIn_of_wp Try.func45 rfl h45 ?_ hro
  simp only [Try.ntmps45, List.size_toArray, List.length_cons, List.length_nil, Nat.reduceAdd, Nat.reduceSub, Array.replicate_succ, Array.replicate_zero, List.push_toArray, List.append_toArray, List.nil_append, List.cons_append]
  gi_wp2_with (gi_at_call 58; refine (aseq_in F (n - 1) h58 hro (by omega) g lb hFg eg S N hN _ hseq).mono ?_; rintro e w' ⟨v, ss, rfl, hS, hrow, hb⟩)
  go_ret
  exact ⟨v, ss, rfl, hS, hrow, hb⟩

theorem enters_keys : ∀ args w, (callFunc 46 args).run Try.prog w = .ok (.enter 46 args) w := enters_of Try.func46 (by kernel_rfl) rfl

set_option maxHeartbeats 1000000 in
set_option maxRecDepth 100000 in
theorem sorted_any {w : World} {Bm M nn : Nat} {D0 : DataW Unit} {E : List Nm} (hBm : Bm < w.heap.size) (hm : w.cell? ⟨Bm, 0, none⟩ = some (.map (some M))) (hown : w.ownsMap Try.prog 42 elemI M nn D0) (hsz : Maps.size D0 ≤ 100000)
    (hlE : E.length ≤ 100000) (hE : E.Pairwise ltN) (hE2 : ∀ x, x ∈ E ↔ okN x ∧ has D0 (nmKey.l x) = true) :
    Calls Try.prog 31 #[.func (.func 46) #[] #[.pointer (some ⟨Bm, 0, none⟩)], .func (.func 21) #[] #[]] w fun e w' => ∃ v, e = .returned v ∧ RowI w' v 42 5 (E.map Nm.ints) ∧ Kept w w' := by
  have CC : Calls Try.prog 45 #[.func (.func 46) #[] #[.pointer (some ⟨Bm, 0, none⟩)]] w fun e w' => ∃ (v : Value) (ss : List Nm), e = .returned v ∧ (ss.Nodup ∧ ∀ x, x ∈ ss ↔ okN x ∧ has D0 (nmKey.l x) = true) ∧ w'.ownsRow w.heap.size 42 5 v ss.length (fl (ss.map Nm.ints)) ∧ Below w.heap.size w w' :=
    (callsIn_wide (n := 5)).1 (acollect_in _ 5 trivial trivial rfl (by omega) _ _ trivial enters_keys _ _ hsz w (akeys_stops _ 3 trivial rfl (by omega) Bm M nn D0 w hBm hm hown))
  have CC := Lib.hid CC
  have HE := Lib.hid (And.intro hE hE2)
  clear hE hE2 hown hm hBm
  go_enter Try.func31, Try.ntmps31
  go_wp2_with fail
  refine CC.out.mono ?_
  rintro e w1 ⟨v, ss, rfl, ⟨hss, hmem⟩, hrow, hb⟩
  have hEn : E.Nodup := by
    rw [List.nodup_iff_pairwise_ne]
    exact HE.out.1.imp fun h => ltN_ne h
  have hperm : ss.Perm E := (List.perm_ext_iff_of_nodup hss hEn).2 fun x => by rw [hmem, HE.out.2]
  have hlen := hperm.length_eq
  have hr : RowI w1 v 42 5 (ss.map Nm.ints) := ⟨⟨by rw [fl_len (wide_names ss)], by
    rw [List.length_map]
    rcases hrow.2 with h | ⟨g, cap, cur, h1, h2, h3, h4⟩
    · exact .inl h
    · exact .inr ⟨g, cap, cur, h1, Nat.zero_le _, h3, h4⟩⟩, wide_names ss⟩
  have hvb : ∀ b, v.ownBlock = some b → w.heap.size ≤ b := fun b e => (hrow.lt b e).1
  have CS := Lib.hid (sort_any hr hss (by omega))
  have HH := Lib.hid (And.intro hperm (And.intro hvb hb))
  clear hr hss hmem hrow hb hEn hperm hvb hlen
  go_wp2_with fail
  refine CS.out.mono ?_
  rintro e w2 ⟨rfl, D', d1, d2, d3, d4⟩
  have hD : D' = E := rising_eq ltN_irr ltN_tr d1 HE.out.1 fun x => by rw [d2.mem_iff, HH.out.1.mem_iff]
  subst hD
  have K := Lib.hid (show RowI w2 v 42 5 (D'.map Nm.ints) ∧ Kept w w2 from ⟨d3, (((Fr.kept (S := fun k => w.heap.size ≤ k) HH.out.2.2).trans d4 (fun k c => Or.inl (HH.out.2.1 k c))).keeps (fun k c => c))⟩)
  clear d1 d2 d3 d4
  go_wp2_with fail
  go_ret
  exact ⟨_, rfl, K.out.1, K.out.2⟩

section
variable {w : World} {S : Nat → Prop} {B : Nat} {g now last : Int} {A : List (Nm × Int)}
set_option maxHeartbeats 1000000 in
set_option maxRecDepth 100000 in
theorem all_any (h : Alm w S B g now last A) : Calls Try.prog 12 #[.pointer (some ⟨B, 0, none⟩)] w fun e w' => ∃ v, e = .returned v ∧ RowI w' v 42 5 ((A.map Prod.fst).map Nm.ints) ∧ Kept w w' := by
  have hlA := h.bounds.2.2.2.1
  obtain ⟨Bw, MA, MN, Sw, L, TA, TN, h1, R, _⟩ := h
  have C := Lib.hid (amade_any h1)
  have c3 := h1.c3
  have k1 : Kept w (w.alloc (.cells #[.map (some MA)] 60)) := Kept.one _ _
  obtain ⟨D, hown, hs, hT⟩ := h1.ma.kept (k1.block _ h1.ma.lt)
  have hb := St.blk_new w (.cells #[.map (some MA)] 60)
  have CS := sorted_any (E := A.map Prod.fst) (Bm := w.heap.size) (by simp) (by rw [blk_cell hb]; rfl) hown (by rw [hs, ← R.len]; omega) (by rw [List.length_map]; omega) (by rw [List.pairwise_map]; exact R.ord) (fun x => by
    rw [List.mem_map]
    constructor
    · rintro ⟨⟨y, c⟩, hm, rfl⟩
      have hok := (R.ok y c hm).1
      obtain ⟨hh, hx⟩ := (R.ta y c).1 hm
      exact ⟨hok, by rw [(hT y hok).1, tA_some]; show (TA y).isSome = true; rw [hx]; rfl⟩
    · rintro ⟨hok, hh⟩
      rw [(hT x hok).1, tA_some] at hh
      cases hx : TA x with
      | none => rw [hx] at hh; cases hh
      | some p => exact ⟨(x, p.1), (R.ta x p.1).2 ⟨p.2, hx⟩, rfl⟩)
  have CS := Lib.hid CS
  have CK := Lib.hid ((callsIn_wide (n := 2)).1 (akeysf_in _ 2 trivial rfl (some MA) w))
  clear h1 R hown hs hT hb
  go_enter Try.func12, Try.ntmps12
  go_wp2_with (go_at_call 30; refine C.out.mono ?_; rintro e w' ⟨rfl, rfl⟩)
  refine CK.out.mono ?_
  rintro e w1 ⟨rfl, rfl⟩
  go_wp2_with fail
  refine CS.out.mono ?_
  rintro e w2 ⟨v, rfl, r2, k2⟩
  have R2 := Lib.hid r2
  clear r2
  go_wp2_with fail
  go_ret
  exact ⟨_, rfl, R2.out, k1.trans k2⟩
end

end Go.Proofs.Ytckmkagijanbdaa.Al
