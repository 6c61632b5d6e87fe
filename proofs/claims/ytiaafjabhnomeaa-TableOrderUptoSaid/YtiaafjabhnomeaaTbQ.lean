/- The law TableOrder. -/
import Derived.Test.YtiaafjabhnomeaaTbP
import Derived.Test.YtiaafjabhnomeaaTbW
import Derived.Test.YtiaafjabhnomeaaOwF
import Derived.Test.YtiaafjabhnomeaaOw8
namespace Go.Proofs.Ytiaafjabhnomeaa.Tb
open Go.RowKit Go.Sort IdM Se Mv Blk
open St (Kept blk_cell blk_free blk_lt blk_set)
open Go.Proofs.Ytiaafjabhnomeaa.Ow (Ow Cls Mc Rc mc_cls rc_cls load_key load_ow info_ow arr_one mine_any theirs_any zeroA sameO_self)
open Go.Proofs.Ytiaafjabhnomeaa.Cl (Cl)
open Go.Proofs.Ytiaafjabhnomeaa.Rv
open Go.Proofs.Ytiaafjabhnomeaa.Ls
open Go.Proofs.Ytiaafjabhnomeaa.Ad (load_w load_l store_new kept_row)
open Go.Proofs.Ytiaafjabhnomeaa.Au (Stab stab_and stab_kept)
open Wh (Fr)
set_option linter.unusedVariables false
set_option linter.unusedSimpArgs false
set_option maxRecDepth 20000

/-- a slice of owners that a law is asked with -/
structure ArgO (W : World) (v : Value) (E : List Re) : Prop where
  ls : Ls 19 encR W v E
  cl : ∀ e ∈ E, Cls W (.slice e.q e.n e.c) e.K
  fit : ∀ e ∈ E, e.en.Fit
  few : calls E ≤ 600000
/-- one of them -/
theorem ArgO.pick {W : World} {p : Option Addr} {N cap : Nat} {E : List Re} (h : ArgO W (.slice p N cap) E) {i : Nat} (hi : i < E.length) :
    ∃ e b off, E[i]? = some e ∧ e ∈ E ∧ p = some ⟨b, off, none⟩ ∧ (∀ u, Kept W u → (loadVar 35 ⟨b, off + i * 19, none⟩).run Try.prog u = .ok (.agg e.arr) u) ∧
      (∀ u, Kept W u → (loadVar 32 ⟨b, off + i * 19, none⟩).run Try.prog u = .ok (.agg #[.int .i64 e.k.n, .int .i64 e.k.i, .int .i64 e.k.s, .int .i64 e.k.a]) u) ∧
      (∀ u, Kept W u → u.cell? ⟨b, off + i * 19 + 18, none⟩ = some (.slice e.q e.n e.c)) ∧ ∀ u, Kept W u → Cls u (.slice e.q e.n e.c) e.K := by
  obtain ⟨e, b, off, h1, h2, h3, h4⟩ := h.ls.pick hi
  have hc : ∀ u, Kept W u → ∀ j x, (encR e)[j]? = some x → u.cell? ⟨b, off + i * 19 + j, none⟩ = some x := fun u hu j x hj => (Below.cell hu (p := ⟨b, _, none⟩) h3).trans (h4 j x hj)
  refine ⟨e, b, off, h1, List.mem_of_getElem? h1, h2, fun u hu => ?_, fun u hu => ?_, fun u hu => hc u hu 18 _ rfl, fun u hu => (h.cl e (List.mem_of_getElem? h1)).go hu⟩
  · have := run_loadVar_mid u b (off + i * 19) (P := Try.prog) 35 (encR e) _ (hc u hu) Try.underlying35 rfl Ow.info_row
    rw [arr_to] at this; exact this
  · exact load_key (hc u hu 0 _ rfl) (hc u hu 1 _ rfl) (hc u hu 2 _ rfl) (hc u hu 3 _ rfl)
/-- the law's own, turned into the program's, and put -/
theorem kr_len {w : World} {v : Value} {l : List Ke} {N : Nat} (h : Kr w v l) (hl : l.length = N) (ty : TypeId) (u : World) : (Builtin.len_ #[42] ty #[v]).run Try.prog u = .ok (.int .i64 (N : Int)) u := by
  subst hl; exact RowV.len h Try.underlying42 ty u
theorem same_yes' {u : World} {a b : Value} {l : List Ke} (ha : Kr u a l) (hb : Kr u b l) (hl : l.length ≤ 1000000) : Calls Try.prog 10 #[a, b] u fun e w' => e = .returned (.bool true) ∧ Kept u w' := by
  have := same_any (kr_lk ha hl) (kr_lk hb hl)
  rw [decide_eq_true rfl] at this; exact this
theorem mine_put {w : World} {B m : Nat} {S : Nat → Prop} {L : Tab} {e : Re} (h : Tbl w B L m S) {q : Option Addr} {n c : Nat} {w' : World} (k : Kept w w') (r : Mc w' (.slice q n c) e.K) (f : ∀ g, (Value.slice q n c).ownBlock = some g → w.heap.size ≤ g) (hm : m + e.K.length + 1 ≤ 900000) (hf : e.en.Fit) :
    Calls Try.prog 16 #[pB B, .agg (e.o.arr q n c)] w' fun r u => r = .returned (.int .i64 0) ∧ ∃ S', Tbl u B (put e.en L) (m + e.K.length + 1) S' ∧ (∀ k, S' k → S k ∨ w'.heap.size ≤ k) ∧ Fr S w' u :=
  put_any (h.kept k) e.o (fun u hu => mc_cls (RowV.kept r fun g c => hu.block g (RowV.lt r c) (fun d => by have := h.lt g d; have := f g c; omega)) (by omega)) hm hf.1 hf.2

set_option maxHeartbeats 8000000 in
theorem order_any {w : World} {v : Value} {E : List Re} (hv : ArgO w v E) : Calls Try.prog 4 #[v] w fun e w' => e = .returned (.bool true) ∧ Kept w w' := by
  obtain ⟨p, N, cap, rfl, hN, hm⟩ := hv.ls.slice
  have HV := Lib.hid hv
  have HN := Lib.hid hN
  have AW := Lib.hid (fun u => awake_any u)
  have hm2 : N ≤ 9223372036854775807 := by unfold maxLen at hm; omega
  have N1 := Lib.hid (new_any w)
  have NW := Lib.hid (fun u => new_any u)
  clear hv hN hm
  by_cases hgt : 20 < N
  · have e1 : (20 : Int) < (N : Int) := by omega
    go_enter Try.func4, Try.ntmps4
    go_wp2_with (first | (go_at_call 8; refine (AW.out _).mono ?_; rintro e w1 ⟨rfl, k1⟩))
    go_ret
    exact ⟨rfl, k1⟩
  · have e1 : ¬ (20 : Int) < (N : Int) := by omega
    unfold pB at N1 NW
    go_enter Try.func4, Try.ntmps4
    go_upto_region 5 with (first
      | (go_at_call 6; refine N1.out.mono ?_; rintro e w1 ⟨Ba, Sa, rfl, Ta, sa, k1⟩)
      | (go_at_call 6; refine (NW.out _).mono ?_; rintro e w2 ⟨Bb, Sb, rfl, Tb, sb, k2⟩))
    obtain ⟨W3, hW3⟩ : ∃ W3, w2.alloc (.cells #[.slice none 0 0] 28) = W3 := ⟨_, rfl⟩
    have k3 : Kept w2 W3 := by rw [← hW3]; exact Kept.one _ _
    have b3 : W3.heap[w2.heap.size]? = some (.cells #[.slice none 0 0] 28 (0, 0)) := by rw [← hW3]; exact St.blk_new _ _
    obtain ⟨R, hR⟩ : ∃ R, w2.heap.size = R := ⟨_, rfl⟩
    rw [hW3, hR]
    rw [hR] at b3
    have z1 := Below.size k1
    have z2 := Below.size k2
    have O0 : OrdA w W3 Ba Bb R [] [] 0 0 (.slice none 0 0) [] Sa Sb :=
      ⟨(k1.trans k2).trans k3, Ta.kept (k2.trans k3), Tb.kept k3, ⟨b3, rowv_nil _ _ _ _, (fun g c => by cases c), by simp⟩, fun k c d => by have := Ta.lt k c; have := sb k d; omega, fun c => by have := Ta.lt R c; omega, fun c => by have := Tb.lt R c; omega, (fun g c => by cases c), sa, fun k c => by have := sb k c; omega, by omega⟩
    have HO := Lib.hid O0
    clear hW3 k3 b3 hR z1 z2 Ta sa k1 Tb sb k2 O0 N1 NW
    go_wp2_with fail
    go_loopw [6] (fun y wr => ∃ i : Nat, i ≤ N ∧ y = .int .i64 (i : Int) ∧ Apart (E.take i) ∧ ∃ ma mb v Er Sa Sb, ma ≤ i + calls (E.take i) ∧ mb ≤ i + calls (E.reverse.take i) ∧ Er.length ≤ i ∧ Apart Er ∧ SameKeys Er (E.take i) ∧ Hid (OrdA w wr Ba Bb R (tabOf (E.take i)) (tabOf (E.reverse.take i)) ma mb v Er Sa Sb)) (fun y _ => N - (intOf y).toNat)
    case atStart => exact ⟨0, Nat.zero_le _, rfl, List.Pairwise.nil, 0, 0, _, [], Sa, Sb, by omega, by omega, Nat.le_refl _, List.Pairwise.nil, fun x => Iff.rfl, HO⟩
    case round =>
      obtain ⟨i, hi, rfl, hap, ma, mb, vr, Er, Sa, Sb, hma, hmb, hEl, hEa, hEk, ho⟩ := hrel
      by_cases hlt : i < N
      · have hi1 : (i : Int) < N := by omega
        obtain ⟨e, b, off, he, hmem, rfl, l35, lk, l18, hcl⟩ := HV.out.pick (i := i) (by rw [HN.out]; exact hlt)
        obtain ⟨f, b', off', hf, hfmem, e2, f35, _, _, fcl⟩ := HV.out.pick (i := N - 1 - i) (by rw [HN.out]; omega)
        obtain ⟨rfl, rfl⟩ : b = b' ∧ off = off' := by injection e2 with e2; injection e2 with a c; exact ⟨a, c⟩
        clear e2
        have hrev : E.reverse[i]? = some f := by
          have hi' : i < E.length := by rw [HN.out]; exact hlt
          rw [List.getElem?_reverse hi', HN.out]
          exact hf
        have hrl : E.reverse.length = N := by rw [List.length_reverse]; exact HN.out
        have hce := calls_take E (i + 1)
        have hcf := calls_take E.reverse (i + 1)
        rw [calls_snoc he] at hce
        rw [calls_snoc hrev, calls_rev] at hcf
        have hfew := HV.out.few
        have s18 := l18 wr ho.out.base
        have lkk := lk wr ho.out.base
        have hKn : e.K.length = e.n := by obtain ⟨q, cc, ee⟩ := (hcl wr ho.out.base).shape; injection ee with _ h _; exact h.symm
        have hn9 : e.n ≤ 9223372036854775807 := by omega
        by_cases hten : 10 < e.n
        · have e3 : (10 : Int) < (e.n : Int) := by omega
          go_wp2_with (first | (go_at_call 8; refine (AW.out _).mono ?_; rintro r wz ⟨rfl, kz⟩))
          go_ret
          exact ⟨rfl, ho.out.base.trans kz⟩
        · have e3 : ¬ (10 : Int) < (e.n : Int) := by omega
          have CF := rtfind_any ho.out.tr e.k
          unfold kv at CF
          have CF := Lib.hid CF
          by_cases hin : ∃ y ∈ E.take i, y.k = e.k
          · have hix : 0 ≤ idxE e.k Er := idx_neg.2 ((hEk e.k).2 hin)
            have hix2 : idxE e.k Er ≤ 9223372036854775807 := by
              unfold idxE
              cases hq : Er.findIdx? (fun y => decide (y.k = e.k)) with
              | none => simp
              | some j => obtain ⟨hj, _, _⟩ := List.findIdx?_eq_some_iff_getElem.1 hq; simp only; omega
            obtain ⟨ix, hx⟩ : ∃ ix, idxE e.k Er = ix := ⟨_, rfl⟩
            rw [hx] at CF hix hix2
            go_wp2_with (first
              | (refine load_l 32 (.tmp 38) rfl _ rfl rfl _ lkk ?_)
              | (go_at_call 14; refine CF.out.mono ?_; rintro r wx ⟨rfl, kx⟩)
              | (go_at_call 8; refine (AW.out _).mono ?_; rintro r wz ⟨rfl, kz⟩))
            go_ret
            exact ⟨rfl, (ho.out.base.trans kx).trans kz⟩
          · have hix : ¬ 0 ≤ idxE e.k Er := fun c => hin ((hEk e.k).1 (idx_neg.1 c))
            have hix2 : idxE e.k Er = -1 := by
              have : -1 ≤ idxE e.k Er := by
                unfold idxE
                cases hq : Er.findIdx? (fun y => decide (y.k = e.k)) with
                | none => simp
                | some j => simp only; omega
              omega
            rw [hix2] at CF
            go_upto_region 10 with (first
              | (refine load_l 32 (.tmp 38) rfl _ rfl rfl _ lkk ?_)
              | (go_at_call 14; refine CF.out.mono ?_; rintro r wx ⟨rfl, kx⟩))
            have ox := ho.out.kept kx
            have lx := l35 wx ox.base
            have CP := Lib.hid (rtput_any ox.tr hEa e)
            go_upto_region 11 with (first
              | (refine load_l 35 (.tmp 47) rfl _ rfl rfl _ lx ?_)
              | (go_at_call 15; refine CP.out.mono ?_; rintro r wp ⟨rfl, vp, tp, op, fp⟩))
            have o1 := ox.stepR (tp (by omega)) op fp
            have l1 := l35 wp o1.base
            have M1 := Lib.hid (mine_any e.o (hcl wp o1.base) (by omega))
            have P1 := Lib.hid (fun (q : Option Addr) (n c : Nat) (w' : World) (k : Kept wp w') (r : Mc w' (.slice q n c) e.K) (g : ∀ g, (Value.slice q n c).ownBlock = some g → wp.heap.size ≤ g) => by
              have := mine_put (e := e) o1.ta k r g (by omega) (HV.out.fit e hmem)
              unfold pB at this; exact this)
            have HE := Lib.hid (show ∀ (x : Re), x.arr = x.o.arr x.q x.n x.c from fun _ => rfl)
            rw [HE.out e] at l1
            go_upto_region 12 with (first
              | (refine load_l 35 (.tmp 53) rfl _ rfl rfl _ l1 ?_)
              | (go_at_call 17; refine M1.out.mono ?_; rintro r wm ⟨qm, nm, cm, rfl, rm, gm, km⟩)
              | (go_at_call 16; refine (P1.out _ _ _ _ km rm gm).mono ?_; rintro r wa ⟨rfl, Sa', ta, sa, fa⟩))
            have o2 := (o1.kept km).stepA ta sa fa
            have l2 := f35 wa o2.base
            rw [HE.out f] at l2
            have M2 := Lib.hid (mine_any f.o (fcl wa o2.base) (by omega))
            have P2 := Lib.hid (fun (q : Option Addr) (n c : Nat) (w' : World) (k : Kept wa w') (r : Mc w' (.slice q n c) f.K) (g : ∀ g, (Value.slice q n c).ownBlock = some g → wa.heap.size ≤ g) => by
              have := mine_put (e := f) o2.tb k r g (by omega) (HV.out.fit f hfmem)
              unfold pB at this; exact this)
            have hj : (N : Int) - 1 - (i : Int) = ((N - 1 - i : Nat) : Int) := by omega
            have HO2 := Lib.hid o2
            have HS := Lib.hid (And.intro he hrev)
            have HIN := Lib.hid hin
            clear o1 ta sa fa l1 M1 P1 km rm gm o2 lx CP tp op fp CF kx ox he hrev hf hix hix2 hin s18 lkk f35 fcl l35 lk l18 hcl ho
            obtain ⟨J, hJ⟩ : ∃ J, N - 1 - i = J := ⟨_, rfl⟩
            rw [hJ] at l2 hj
            have hJN : (J : Int) < N := by omega
            go_upto_region 7 with (first
              | (refine load_l 35 (.tmp 64) rfl _ rfl rfl _ l2 ?_)
              | (go_at_call 17; refine M2.out.mono ?_; rintro r wm ⟨qm, nm, cm, rfl, rm, gm, km⟩)
              | (go_at_call 16; refine (P2.out _ _ _ _ km rm gm).mono ?_; rintro r wb ⟨rfl, Sb', tb, sb, fb⟩))
            have o3 := (HO2.out.kept km).stepB tb sb fb
            have HO3 := Lib.hid o3
            clear o3 tb sb fb km rm gm l2 M2 P2
            go_wp2_with fail
            go_roundw
            case rel => exact ⟨i + 1, hlt, by go_num, by rw [re_snoc HS.out.1]; exact apart_snoc.2 ⟨hap, fun y hy c => HIN.out ⟨y, hy, c⟩⟩, ma + e.K.length + 1, mb + f.K.length + 1, _, _, _, _, by rw [calls_snoc HS.out.1]; omega, by rw [calls_snoc HS.out.2]; omega, by rw [ins_len]; have := dropR_le e.k Er; omega, apart_put hEa e, by rw [re_snoc HS.out.1]; exact keys_put hEk, by rw [tab_snoc HS.out.1, tab_snoc HS.out.2]; exact HO3⟩
            case measure => simp [intOf]; omega
      · obtain rfl : i = N := by omega
        have t1 : E.take i = E := List.take_of_length_le (Nat.le_of_eq HN.out)
        have t2 : E.reverse.take i = E.reverse := List.take_of_length_le (by rw [List.length_reverse]; exact Nat.le_of_eq HN.out)
        rw [t1] at hap
        rw [t1, t2] at ho
        rw [t1] at hma
        rw [t2, calls_rev] at hmb
        have hfew := HV.out.few
        have HAP := Lib.hid hap
        obtain ⟨wv, hwv⟩ : ∃ wv, wv = wr := ⟨wr, rfl⟩
        subst hwv
        clear hEk hEa hEl t1 t2 hap
        have ma9 : ma ≤ 900000 := by omega
        have mb9 : mb ≤ 900000 := by omega
        go_wp2_with fail
        go_loopw [7] (fun y wr => ∃ j : Nat, j ≤ i ∧ y = .int .i64 (j : Int) ∧ Kept wv wr) (fun y _ => i - (intOf y).toNat)
        case atStart => exact ⟨0, Nat.zero_le _, rfl, Kept.refl _⟩
        case round =>
          obtain ⟨j, hj, rfl, hk⟩ := hrel
          by_cases hlt : j < i
          · have hi1 : (j : Int) < i := by omega
            obtain ⟨e, b, off, he, hmem, rfl, l35, lk, l18, hcl⟩ := HV.out.pick (i := j) (by rw [HN.out]; exact hlt)
            have oq := ho.out.kept hk
            have lkk := lk wr oq.base
            have hx := (HV.out.fit e hmem).1
            have hK9 : e.K.length ≤ 900000 := by have := calls_mem hmem; omega
            have GA := get_any oq.ta (x := e.k) hx
            rw [got_en HAP.out hmem, got_tab HAP.out hmem] at GA
            have GA := Lib.hid (show Calls Try.prog 18 #[.pointer (some ⟨Ba, 0, none⟩), .agg #[.int .i64 e.k.n, .int .i64 e.k.i, .int .i64 e.k.s, .int .i64 e.k.a]] wr fun r w' => ∃ q n c, r = .returned (.tuple #[.agg (e.o.arr q n c), .bool true]) ∧ Mc w' (.slice q n c) e.K ∧ (∀ g, (Value.slice q n c).ownBlock = some g → wr.heap.size ≤ g) ∧ Kept wr w' from GA)
            go_upto_region 17 with (first
              | (refine load_l 32 (.tmp 79) rfl _ rfl rfl _ lkk ?_)
              | (go_at_call 18; refine GA.out.mono ?_; rintro r w4 ⟨q4, n4, c4, rfl, r4, f4, k4⟩)
              | (refine store_new rfl 52 (.tmp 8) (.tmp 82) rfl w4.heap.size (e.o.arr q4 n4 c4) rfl rfl w4 _ rfl 19 info_ow rfl rfl (arr_one _ _ _ _) ?_))
            obtain ⟨w5, hw5⟩ : ∃ w5, w4.alloc (.cells (e.o.arr q4 n4 c4) 52) = w5 := ⟨_, rfl⟩
            have k5 : Kept w4 w5 := by rw [← hw5]; exact Kept.one _ _
            have b5 : w5.heap[w4.heap.size]? = some (.cells (e.o.arr q4 n4 c4) 52 (0, 0)) := by rw [← hw5]; exact St.blk_new _ _
            rw [hw5]
            obtain ⟨g8, hg8⟩ : ∃ g, w4.heap.size = g := ⟨_, rfl⟩
            rw [hg8] at b5 ⊢
            have o5 := oq.kept (k4.trans k5)
            have lk5 := lk w5 o5.base
            have GB := get_any o5.tb (x := e.k) hx
            have hmr : e ∈ E.reverse := List.mem_reverse.2 hmem
            rw [got_en (apart_rev HAP.out) hmr, got_tab (apart_rev HAP.out) hmr] at GB
            have GB := Lib.hid (show Calls Try.prog 18 #[.pointer (some ⟨Bb, 0, none⟩), .agg #[.int .i64 e.k.n, .int .i64 e.k.i, .int .i64 e.k.s, .int .i64 e.k.a]] w5 fun r w' => ∃ q n c, r = .returned (.tuple #[.agg (e.o.arr q n c), .bool true]) ∧ Mc w' (.slice q n c) e.K ∧ (∀ g, (Value.slice q n c).ownBlock = some g → w5.heap.size ≤ g) ∧ Kept w5 w' from GB)
            have H5 := Lib.hid (And.intro b5 (And.intro (RowV.keep r4 k5) (k4.trans k5)))
            clear hw5 hg8 r4 k4 k5 b5 GA lkk f4
            go_upto_region 18 with (first
              | (refine load_l 32 (.tmp 89) rfl _ rfl rfl _ lk5 ?_)
              | (go_at_call 18; refine GB.out.mono ?_; rintro r w6 ⟨q6, n6, c6, rfl, r6, f6, k6⟩)
              | (refine store_new rfl 52 (.tmp 10) (.tmp 92) rfl w6.heap.size (e.o.arr q6 n6 c6) rfl rfl w6 _ rfl 19 info_ow rfl rfl (arr_one _ _ _ _) ?_))
            obtain ⟨w7, hw7⟩ : ∃ w7, w6.alloc (.cells (e.o.arr q6 n6 c6) 52) = w7 := ⟨_, rfl⟩
            have k7 : Kept w6 w7 := by rw [← hw7]; exact Kept.one _ _
            have b7 : w7.heap[w6.heap.size]? = some (.cells (e.o.arr q6 n6 c6) 52 (0, 0)) := by rw [← hw7]; exact St.blk_new _ _
            rw [hw7]
            obtain ⟨g10, hg10⟩ : ∃ g, w6.heap.size = g := ⟨_, rfl⟩
            rw [hg10] at b7 ⊢
            have k57 : Kept w5 w7 := k6.trans k7
            have LX := Lib.hid (fun (u : World) (hu : Kept w7 u) => load_ow (kept_at (k57.trans hu) H5.out.1) rfl)
            have LY := Lib.hid (fun (u : World) (hu : Kept w7 u) => load_ow (kept_at hu b7) rfl)
            have MX := Lib.hid (fun (u : World) (hu : Kept w7 u) => mc_cls (RowV.keep H5.out.2.1 (k57.trans hu)) (by omega))
            have MY := Lib.hid (fun (u : World) (hu : Kept w7 u) => mc_cls (RowV.keep r6 (k7.trans hu)) (by omega))
            have B7 := Lib.hid (o5.base.trans k57)
            have L35 := Lib.hid (fun (u : World) (hu : Kept w7 u) => show (loadVar 35 ⟨b, off + j * 19, none⟩).run Try.prog u = .ok (.agg (e.o.arr e.q e.n e.c)) u from l35 u (B7.out.trans hu))
            have CL := Lib.hid (fun (u : World) (hu : Kept w7 u) => hcl u (B7.out.trans hu))
            have TH := Lib.hid (fun (u : World) (hu : Kept w7 u) => theirs_any e.o (MX.out u hu) hK9)
            have SO := Lib.hid (fun (u : World) (hu : Kept w7 u) => by
              have := Ow.same_any e.o e.o (MX.out u hu) (MY.out u hu)
              rw [sameO_self] at this; exact this)
            have K7 := Lib.hid (H5.out.2.2.trans k57)
            have hSt : Stab (fun u => Kept w7 u) := stab_kept w7
            clear hw7 hg10 r6 k6 k7 b7 GB lk5 f6 k57 o5 oq
            refine Av.region 23 (fun u => Kept w7 u) (by kernel_rfl) ((Kept.refl w7).drew) ?_
            refine Av.take 0 (some 94) (v := ?_) rfl rfl (by kernel_rfl) (by kernel_rfl) (by kernel_rfl) (by kernel_rfl) (fun _ _ _ h => h) hSt (Au.yq_run (by rfl) (fun u hu => ?_)) ?_
            rotate_left
            · (clear hu; go_simp; try with_reducible rfl)
            simp only [Act.put, List.setIfInBounds_toArray, List.set_cons_zero, List.set_cons_succ]
            refine Av.take 1 (some 95) (v := ?_) rfl rfl (by kernel_rfl) (by kernel_rfl) (by kernel_rfl) (by kernel_rfl) (fun _ _ _ h => h) hSt (Au.yq_run (by rfl) (fun u hu => ?_)) ?_
            rotate_left
            · (clear hu; go_simp; try with_reducible rfl)
            simp only [Act.put, List.setIfInBounds_toArray, List.set_cons_zero, List.set_cons_succ]
            refine Av.take 2 (some 96) (v := ?_) rfl rfl (by kernel_rfl) (by kernel_rfl) (by kernel_rfl) (by kernel_rfl) (fun _ _ _ h => h) hSt (Au.yq_run (by rfl) (fun u hu => ?_)) ?_
            rotate_left
            · (clear hu; go_simp; try with_reducible rfl)
            simp only [Act.put, List.setIfInBounds_toArray, List.set_cons_zero, List.set_cons_succ]
            refine Av.take 3 (some 97) (v := ?_) rfl rfl (by kernel_rfl) (by kernel_rfl) (by kernel_rfl) (by kernel_rfl) (fun _ _ _ h => h) hSt (Au.yq_run (by rfl) (fun u hu => ?_)) ?_
            rotate_left
            · (clear hu; go_simp; try with_reducible rfl)
            simp only [Act.put, List.setIfInBounds_toArray, List.set_cons_zero, List.set_cons_succ]
            refine Av.take 4 (some 98) (v := ?_) rfl rfl (by kernel_rfl) (by kernel_rfl) (by kernel_rfl) (by kernel_rfl) (fun _ _ _ h => h) hSt (Au.yq_run (by rfl) (fun u hu => ?_)) ?_
            rotate_left
            · (clear hu; go_simp; try with_reducible rfl)
            simp only [Act.put, List.setIfInBounds_toArray, List.set_cons_zero, List.set_cons_succ]
            refine Av.take 5 (some 99) (v := ?_) rfl rfl (by kernel_rfl) (by kernel_rfl) (by kernel_rfl) (by kernel_rfl) (fun _ _ _ h => h) hSt (Au.yq_run (by rfl) (fun u hu => ?_)) ?_
            rotate_left
            · (clear hu; go_simp; try with_reducible rfl)
            simp only [Act.put, List.setIfInBounds_toArray, List.set_cons_zero, List.set_cons_succ]
            refine Av.take 6 (some 100) (v := ?_) rfl rfl (by kernel_rfl) (by kernel_rfl) (by kernel_rfl) (by kernel_rfl) (fun _ _ _ h => h) hSt (Au.yq_run (by rfl) (fun u hu => ?_)) ?_
            rotate_left
            · (clear hu; go_simp; try with_reducible rfl)
            simp only [Act.put, List.setIfInBounds_toArray, List.set_cons_zero, List.set_cons_succ]
            refine Av.take 7 (some 101) rfl rfl (by kernel_rfl) (by kernel_rfl) (by kernel_rfl) (by kernel_rfl) (fun _ _ _ h => h) hSt (Au.yq_load 52 (.tmp 8) rfl _ rfl (by rfl) (fun u hu => LX.out u hu)) ?_
            simp only [Act.put, List.setIfInBounds_toArray, List.set_cons_zero, List.set_cons_succ]
            refine Av.take 9 (some 103) (v := ?_) rfl rfl (by kernel_rfl) (by kernel_rfl) (by kernel_rfl) (by kernel_rfl) (fun _ _ _ h => h) hSt (Au.yq_run (by rfl) (fun u hu => ?_)) ?_
            rotate_left
            · (clear hu; go_simp; try with_reducible rfl)
            simp only [Act.put, List.setIfInBounds_toArray, List.set_cons_zero, List.set_cons_succ]
            refine Av.take 10 (some 104) (v := ?_) rfl rfl (by kernel_rfl) (by kernel_rfl) (by kernel_rfl) (by kernel_rfl) (fun _ _ _ h => h) hSt (Au.yq_run (by rfl) (fun u hu => ?_)) ?_
            rotate_left
            · (clear hu; go_simp; try with_reducible rfl)
            simp only [Act.put, List.setIfInBounds_toArray, List.set_cons_zero, List.set_cons_succ]
            refine Av.take 11 (some 105) (v := ?_) rfl rfl (by kernel_rfl) (by kernel_rfl) (by kernel_rfl) (by kernel_rfl) (fun _ _ _ h => h) hSt (Au.yq_run (by rfl) (fun u hu => ?_)) ?_
            rotate_left
            · (clear hu; go_simp; try with_reducible rfl)
            simp only [Act.put, List.setIfInBounds_toArray, List.set_cons_zero, List.set_cons_succ]
            refine Av.take 12 (some 106) rfl rfl (by kernel_rfl) (by kernel_rfl) (by kernel_rfl) (by kernel_rfl) (fun _ _ _ h => h) hSt (Au.yq_load 35 (.tmp 105) rfl _ rfl (by rfl) (fun u hu => L35.out u hu)) ?_
            simp only [Act.put, List.setIfInBounds_toArray, List.set_cons_zero, List.set_cons_succ]
            refine Av.step_list 8 rfl (by kernel_rfl) (fun w9 hw9 K9 hK9 => ?_)
            have T9 := Lib.hid (TH.out w9 hw9)
            go_wp2_with (first | (go_at_call 20; refine T9.out.mono ?_; rintro r wa ⟨q1, n1, c1, rfl, r1, _, ka⟩))
            refine hK9.out (fun u => Kept w7 u ∧ Rc u (.slice q1 n1 c1) e.K) _ _ ⟨hw9.trans ka, r1⟩ (stab_and hSt (fun u u' h k => RowV.keep h k)) (fun u hu => hu.1) ?_
            clear hK9 K9 T9 hw9 ka r1
            have hSt9 : Stab (fun u => Kept w7 u ∧ Rc u (.slice q1 n1 c1) e.K) := stab_and hSt (fun u u' h k => RowV.keep h k)
            have SR := Lib.hid (fun (u : World) (hu : Kept w7 u ∧ Rc u (.slice q1 n1 c1) e.K) => by
              have := Ow.rsame_any e.o e.o (rc_cls hu.2 (by omega)) (CL.out u hu.1)
              rw [sameO_self] at this; exact this)
            try simp only [Act.put, List.setIfInBounds_toArray, List.set_cons_zero, List.set_cons_succ]
            refine Av.take 13 (some 107) rfl rfl (by kernel_rfl) (by kernel_rfl) (by kernel_rfl) (by kernel_rfl) (fun _ _ _ h => h) hSt9 (Au.yq_call 19 _ (by rfl) (fun u => by go_simp) (fun u hu => SR.out u hu)) ?_
            simp only [Act.put, List.setIfInBounds_toArray, List.set_cons_zero, List.set_cons_succ]
            refine Av.take 14 (some 108) (v := ?_) rfl rfl (by kernel_rfl) (by kernel_rfl) (by kernel_rfl) (by kernel_rfl) (fun _ _ _ h => h) hSt9 (Au.yq_run (by rfl) (fun u hu => ?_)) ?_
            rotate_left
            · (clear hu; go_simp; try with_reducible rfl)
            simp only [Act.put, List.setIfInBounds_toArray, List.set_cons_zero, List.set_cons_succ]
            refine Av.take 15 (some 109) (v := ?_) rfl rfl (by kernel_rfl) (by kernel_rfl) (by kernel_rfl) (by kernel_rfl) (fun _ _ _ h => h) hSt9 (Au.yq_run (by rfl) (fun u hu => ?_)) ?_
            rotate_left
            · (clear hu; go_simp; try with_reducible rfl)
            simp only [Act.put, List.setIfInBounds_toArray, List.set_cons_zero, List.set_cons_succ]
            refine Av.take 16 (some 110) (v := ?_) rfl rfl (by kernel_rfl) (by kernel_rfl) (by kernel_rfl) (by kernel_rfl) (fun _ _ _ h => h) hSt9 (Au.yq_run (by rfl) (fun u hu => ?_)) ?_
            rotate_left
            · (clear hu; go_simp; try with_reducible rfl)
            simp only [Act.put, List.setIfInBounds_toArray, List.set_cons_zero, List.set_cons_succ]
            refine Av.take 17 (some 111) rfl rfl (by kernel_rfl) (by kernel_rfl) (by kernel_rfl) (by kernel_rfl) (fun _ _ _ h => h) hSt9 (Au.yq_load 52 (.tmp 8) rfl _ rfl (by rfl) (fun u hu => LX.out u hu.1)) ?_
            simp only [Act.put, List.setIfInBounds_toArray, List.set_cons_zero, List.set_cons_succ]
            refine Av.take 18 (some 112) rfl rfl (by kernel_rfl) (by kernel_rfl) (by kernel_rfl) (by kernel_rfl) (fun _ _ _ h => h) hSt9 (Au.yq_load 52 (.tmp 10) rfl _ rfl (by rfl) (fun u hu => LY.out u hu.1)) ?_
            simp only [Act.put, List.setIfInBounds_toArray, List.set_cons_zero, List.set_cons_succ]
            refine Av.take 19 (some 113) rfl rfl (by kernel_rfl) (by kernel_rfl) (by kernel_rfl) (by kernel_rfl) (fun _ _ _ h => h) hSt9 (Au.yq_call 21 _ (by rfl) (fun u => by go_simp) (fun u hu => SO.out u hu.1)) ?_
            simp only [Act.put, List.setIfInBounds_toArray, List.set_cons_zero, List.set_cons_succ]
            refine Av.take 20 (some 114) (v := ?_) rfl rfl (by kernel_rfl) (by kernel_rfl) (by kernel_rfl) (by kernel_rfl) (fun _ _ _ h => h) hSt9 (Au.yq_run (by rfl) (fun u hu => ?_)) ?_
            rotate_left
            · (clear hu; go_simp; try with_reducible rfl)
            simp only [Act.put, List.setIfInBounds_toArray, List.set_cons_zero, List.set_cons_succ]
            refine Av.take 21 (some 115) (v := ?_) rfl rfl (by kernel_rfl) (by kernel_rfl) (by kernel_rfl) (by kernel_rfl) (fun _ _ _ h => h) hSt9 (Au.yq_run (by rfl) (fun u hu => ?_)) ?_
            rotate_left
            · (clear hu; go_simp; try with_reducible rfl)
            simp only [Act.put, List.setIfInBounds_toArray, List.set_cons_zero, List.set_cons_succ]
            refine Av.done (by kernel_rfl) (fun u hu => ?_)
            have HU := Lib.hid (hk.trans (K7.out.trans hu.1))
            clear hu SR hSt9 LX LY MX MY L35 CL TH SO l35 lk l18 hcl
            go_wp2_with fail
            go_roundw
            case rel => exact ⟨j + 1, hlt, by go_num, HU.out⟩
            case measure => simp [intOf]; omega
          · obtain rfl : j = i := by omega
            have oq := ho.out.kept hk
            have hlN := (keys_len HAP.out).trans HN.out
            have hl9 : (keysOf allF (tabOf E)).length ≤ 1000000 := by omega
            have KA := Lib.hid (show Calls Try.prog 11 #[.pointer (some ⟨Ba, 0, none⟩)] wr _ from keys_any oq.ta ma9)
            have KA2 := Lib.hid (fun (u : World) (hu : Kept wr u) => (show Calls Try.prog 11 #[.pointer (some ⟨Ba, 0, none⟩)] u _ from keys_any (oq.ta.kept hu) ma9))
            have KB := Lib.hid (fun (u : World) (hu : Kept wr u) => by
              have := keys_any (oq.tb.kept hu) mb9
              rw [← keys_rev HAP.out] at this
              unfold pB at this; exact this)
            have SM := Lib.hid (fun (u : World) (a b : Value) (ha : Kr u a (keysOf allF (tabOf E))) (hb : Kr u b (keysOf allF (tabOf E))) => same_yes' ha hb hl9)
            have HB0 := Lib.hid oq.base
            clear oq
            go_wp2_with (first
              | (go_at_call 11; refine KA.out.mono ?_; rintro r wk ⟨va, rfl, ra, _, ka⟩)
              | (go_at_call 11; refine (KB.out _ ka).mono ?_; rintro r wl ⟨vb, rfl, rb, _, kb⟩)
              | (go_at_call 10; refine (SM.out _ _ _ (RowV.keep ra kb) rb).mono ?_; rintro r ws ⟨rfl, ks⟩)
              | (go_at_call 11; refine (KA2.out _ ((ka.trans kb).trans ks)).mono ?_; rintro r wt ⟨vc, rfl, rc, _, kc⟩; have hlc := kr_len rc hlN)
              | (go_at_call 8; refine (AW.out _).mono ?_; rintro r wz ⟨rfl, kz⟩))
            go_ret
            exact ⟨rfl, (((((HB0.out.trans ka).trans kb).trans ks).trans kc).trans kz)⟩

end Go.Proofs.Ytiaafjabhnomeaa.Tb
