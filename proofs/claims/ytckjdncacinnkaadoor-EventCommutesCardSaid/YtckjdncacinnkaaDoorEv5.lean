/- Package event: who is below whom, by a map. -/
import Derived.Test.YtckjdncacinnkaaDoorEv4
namespace Go.Proofs.YtckjdncacinnkaaDoor.Ev
open Go.RowKit Go.Sort Go.Shelf IdM Se EvM Blk Mv
open St (Kept blk_cell blk_free blk_lt blk_set blk_new)
open Go.Proofs.YtckjdncacinnkaaDoor.Rv
open Go.Proofs.YtckjdncacinnkaaDoor.Ls
open Go.Proofs.YtckjdncacinnkaaDoor.Ad (load_l store_new)
open Go.Proofs.YtckjdncacinnkaaDoor.Tb (Lk kr_lk lk_load Kr encK enc_key lk_take keyK)
open Wh (Fr)
set_option linter.unusedVariables false
set_option linter.unusedSimpArgs false
set_option maxRecDepth 20000

/-- elements that say nothing -/
def elU : ElT Unit where
  r := fun _ => .agg #[]
  d := fun _ => .agg []
  r_inj := fun _ _ _ => rfl
  d_inj := fun _ _ _ => rfl
theorem zero_u (u : World) : (zeroValue 59).run Tryd.prog u = .ok (elU.r ()) u := by kernel_rfl
/-- block M is a map of just these keys -/
def Set_ (w : World) (M : Nat) (T : Ke → Bool) (n : Nat) : Prop := MV keyK elU () w M (fun x => if T x then some () else none) n
theorem Set_.kept {w w' : World} {M n : Nat} {T : Ke → Bool} (h : Set_ w M T n) (hk : w'.heap[M]? = w.heap[M]?) : Set_ w' M T n := MV.kept h hk
theorem Set_.look {w : World} {M n : Nat} {T : Ke → Bool} (h : Set_ w M T n) {x : Ke} (hx : okK x) :
    (Instr.lookup 60 (.map (some M)) (kv x) true).run Tryd.prog w = .ok (.tuple #[.agg #[], .bool (T x)]) w := by
  have := MV.look_ok h Tryd.underlying60 zero_u hx
  have e : (if T x = true then some () else none).isSome = T x := by cases T x <;> rfl
  rw [e] at this
  exact this
theorem Set_.more {w : World} {M n : Nat} {T : Ke → Bool} (h : Set_ w M T n) (hn : n < 9223372036854775807) {x : Ke} (hx : okK x) :
    ∃ w', (Instr.mapUpdate 60 (.map (some M)) (kv x) (.agg #[])).run Tryd.prog w = .ok () w' ∧ (∃ m, m ≤ n + 1 ∧ Set_ w' M (fun y => T y || decide (y = x)) m) ∧ w.mapTurned w' M := by
  obtain ⟨w', h1, h2, h3⟩ := MV.store h Tryd.underlying60 hn hx ()
  refine ⟨w', h1, ⟨_, ?_, MV.congr h2 fun y hy => ?_⟩, h3⟩
  · split
    · exact Nat.le_succ n
    · exact Nat.le_refl _
  · show (if (T y || decide (y = x)) = true then some () else none) = _
    by_cases c : y = x
    · subst c; rw [upd_same, decide_eq_true rfl, Bool.or_true]; rfl
    · rw [upd_other _ _ c, decide_eq_false c, Bool.or_false]
theorem Set_.made (w : World) : Set_ (w.alloc (.map #[] 0)) w.heap.size (fun _ => false) 0 := MV.congr (MV.made keyK elU () w) fun _ _ => rfl

theorem enters_below1 : ∀ args u, (callFunc 30 args).run Tryd.prog u = .ok (.enter 30 args) u := enters_of Tryd.func30 (by kernel_rfl) rfl

set_option maxHeartbeats 2000000 in
theorem below1_any {u : World} {C M n : Nat} {T : Ke → Bool} (hc : u.cell? ⟨C, 0, none⟩ = some (.map (some M))) (hm : Set_ u M T n) (x : Ev) (hx : okE x) :
    Calls Tryd.prog 30 #[.agg (arr x), .pointer (some ⟨C, 0, none⟩)] u fun e u' => e = .returned (.bool (x.kind == 3 && T x.par && !T x.key)) ∧ Kept u u' := by
  obtain ⟨A, hA⟩ : ∃ A, arr x = A := ⟨_, rfl⟩
  rw [hA]
  obtain ⟨W, hW⟩ : ∃ W, u.alloc (.cells A 38) = W := ⟨_, rfl⟩
  have hB : Bl u W [(A, 38)] := hW ▸ Bl.one u _ _
  have hat : At W u.heap.size 0 x := at_blk (by rw [hA]; exact hB.blk 0 rfl)
  have hmM := MV.lt hm
  have y0 : W.cell? ⟨u.heap.size, 0, none⟩ = some (.int .i64 x.kind) := hat 0 _ rfl
  have y1 : W.cell? ⟨C, 0, none⟩ = some (.map (some M)) := (hB.kept.cell (p := ⟨C, 0, none⟩) (World.block_lt_of_cell? u _ hc)).trans hc
  have lp := hat.par
  obtain ⟨z2, hz2⟩ : ∃ z, T x.par = z := ⟨_, rfl⟩
  obtain ⟨z3, hz3⟩ : ∃ z, T x.key = z := ⟨_, rfl⟩
  obtain ⟨z1, hz1⟩ : ∃ z, (x.kind == 3) = z := ⟨_, rfl⟩
  rw [hz1, hz2, hz3]
  have r2 := (Set_.kept hm (hB.kept.block M hmM)).look hx.par
  rw [hz2] at r2
  obtain ⟨X, hX⟩ : ∃ X, W.alloc (.cells #[] 59) = X := ⟨_, rfl⟩
  have kX : Kept W X := by rw [← hX]; exact Kept.one _ _
  have lk := (hat.go kX (blk_lt (hB.blk 0 rfl))).key
  have x0 : X.cell? ⟨u.heap.size, 0, none⟩ = some (.int .i64 x.kind) := (hat.go kX (blk_lt (hB.blk 0 rfl))) 0 _ rfl
  have x1 : X.cell? ⟨C, 0, none⟩ = some (.map (some M)) := (kX.cell (p := ⟨C, 0, none⟩) (World.block_lt_of_cell? W _ y1)).trans y1
  have r3 := (Set_.kept hm ((hB.kept.trans kX).block M hmM)).look hx.key
  rw [hz3] at r3
  have KX := Lib.hid (hB.kept.trans kX)
  have HX := Lib.hid hX
  unfold kv at lp r2 lk r3
  have HW := Lib.hid hW
  have HB := Lib.hid hB
  clear hW hB hA hat hc hX kX hm
  go_enter Tryd.func30, Tryd.ntmps30
  go_upto_region 1 with fail
  rw [HW.out]
  go_upto_region 2 with (first
        | (refine load_l 26 (.tmp 10) rfl _ rfl rfl _ lp ?_))
  rw [HX.out]
  go_upto_region 3 with (first
        | (refine load_l 26 (.tmp 17) rfl _ rfl rfl _ lk ?_))
  obtain ⟨Y, hY⟩ : ∃ Y, X.alloc (.cells #[] 59) = Y := ⟨_, rfl⟩
  have kY : Kept X Y := by rw [← hY]; exact Kept.one _ _
  have v0 : Y.cell? ⟨u.heap.size, 0, none⟩ = some (.int .i64 x.kind) := (kY.cell (p := ⟨u.heap.size, 0, none⟩) (World.block_lt_of_cell? X _ x0)).trans x0
  rw [hY]
  have KY := Lib.hid (KX.out.trans kY)
  clear kY hY
  cases z1 <;> cases z2 <;> cases z3
  all_goals
    go_wp2_with fail
    go_ret
    exact ⟨rfl, KY.out⟩

theorem At.fr {u u' : World} {b o : Nat} {e : Ev} {S : Nat → Prop} (h : At u b o e) (f : Fr S u u') (hn : ¬ S b) : At u' b o e := fun j z hj => f.cell (h j z hj) hn
/-- k itself, and who is below it -/
def inT (k : Ke) (out : List Ke) (x : Ke) : Bool := decide (x = k) || decide (x ∈ out)
theorem in_beg (k : Ke) (out : List Ke) (e : Ev) : (e.kind == 3 && inT k out e.par && !inT k out e.key) = begB k out e := rfl
theorem in_more (k : Ke) (out : List Ke) (x : Ke) : (fun y => inT k out y || decide (y = x)) = inT k (out ++ [x]) := by
  funext y
  unfold inT
  rw [Bool.eq_iff_iff]
  simp [or_assoc]

set_option maxHeartbeats 4000000 in
theorem below_any {w : World} {v : Value} {L : List Ev} (hv : Le w v L) (hl : L.length ≤ 900000) (hL : ∀ e ∈ L, okE e) (k : Ke) (hk : okK k) :
    Calls Tryd.prog 18 #[v, kv k] w (tellK w (bel k L)) := by
  obtain ⟨q, N, cap, rfl, hN, hm⟩ := hv.slice
  obtain ⟨W, hW⟩ : ∃ W, w.alloc (.cells #[.int .i64 k.n, .int .i64 k.i, .int .i64 k.s, .int .i64 k.a] 26) = W := ⟨_, rfl⟩
  have hB : Bl w W [(#[.int .i64 k.n, .int .i64 k.i, .int .i64 k.s, .int .i64 k.a], 26)] := hW ▸ Bl.one w _ _
  obtain ⟨W1, hW1⟩ : ∃ W1, W.alloc (.map #[] 0) = W1 := ⟨_, rfl⟩
  have k1 : Kept W W1 := by rw [← hW1]; exact Kept.one _ _
  obtain ⟨M, hM⟩ : ∃ M, W.heap.size = M := ⟨_, rfl⟩
  have hwM : w.heap.size < M := by rw [← hM]; exact blk_lt (hB.blk 0 rfl)
  have hmm : (Instr.makeMap 60 none).run Tryd.prog W = .ok (.map (some M)) W1 := by rw [← hM, ← hW1]; exact run_makeMap _ _
  have l1 := lk_blk (u := W1) (b := w.heap.size) (k := k) (kept_at k1 (hB.blk 0 rfl))
  have hs0 := Set_.made W
  rw [hW1, hM] at hs0
  obtain ⟨w2, r1, ⟨n0, hn0, hs1⟩, ht1⟩ := hs0.more (by omega) hk
  have f1 : Fr (fun k => w.heap.size ≤ k) w w2 := ((Fr.kept (S := fun k => w.heap.size ≤ k) (hB.kept.trans k1)).turned ht1 (.inl (by omega)))
  obtain ⟨V, hV⟩ : ∃ V, w2.alloc (.cells #[.map (some M)] 60) = V := ⟨_, rfl⟩
  obtain ⟨C, hC⟩ : ∃ C, w2.heap.size = C := ⟨_, rfl⟩
  have hBV : Bl w2 V [(#[.map (some M)], 60)] := hV ▸ Bl.one w2 _ _
  have hMC : M < C := by rw [← hC]; exact MV.lt hs1
  have cV : V.heap[C]? = some (.cells #[.map (some M)] 60 (0, 0)) := by rw [← hC]; exact hBV.blk 0 rfl
  have hCV : C < V.heap.size := blk_lt cV
  have fV : Kept w V := (f1.then_kept hBV.kept).keeps (fun k c => c)
  have hsV : Set_ V M (inT k []) n0 := by
    have := Set_.kept hs1 (hBV.kept.block M (MV.lt hs1))
    have e : (fun y => false || decide (y = k)) = inT k [] := by funext y; unfold inT; simp
    rwa [e] at this
  have HV := Lib.hid hv
  have HN := Lib.hid hN
  have HL := Lib.hid hL
  have HW := Lib.hid hW
  have HW1 := Lib.hid hW1
  have HVV := Lib.hid hV
  have HS := Lib.hid (And.intro hsV hn0)
  have HM := Lib.hid hM
  have HC := Lib.hid hC
  have FV := Lib.hid (And.intro fV cV)
  have hm2 : N ≤ 900000 := by omega
  unfold kv at l1 r1
  clear hv hN hm hB hW hL hW1 k1 hs0 ht1 f1 hV hBV cV fV hsV hs1 hM
  unfold kv
  go_enter Tryd.func18, Tryd.ntmps18
  go_upto_region 1 with fail
  rw [HW.out]
  go_upto_region 2 with (first
    | (refine load_l 26 (.tmp 3) rfl _ rfl rfl _ l1 ?_))
  rw [HVV.out]
  clear hmm r1 l1
  go_wp2_with fail
  go_loopw [7, 17] (fun d y wr => ∃ i : Nat, i ≤ N ∧ y = .int .i64 (i : Int) ∧ Hid (Fr (fun j => j = M) V wr) ∧ Hid (∃ n, n ≤ i + 1 ∧ Set_ wr M (inT k (bel k (L.take i))) n) ∧ Hid (Kr wr d (bel k (L.take i))) ∧ Hid (∀ g, d.ownBlock = some g → V.heap.size ≤ g)) (fun _ y _ => N - (intOf y).toNat)
  case atStart => exact ⟨0, Nat.zero_le _, rfl, Lib.hid (Fr.refl _ _), Lib.hid ⟨n0, by have := HS.out.2; omega, HS.out.1⟩, Lib.hid (rowv_nil _ _ _ _), Lib.hid (fun g e => by cases e)⟩
  case round =>
    obtain ⟨i, hi, rfl, hk, hs, hr, ho⟩ := hrel
    by_cases hlt : i < N
    · have kW : Kept w wr := ((Fr.kept (S := fun j => w.heap.size ≤ j) FV.out.1).trans hk.out (fun j c => .inl (by omega))).keeps (fun k c => c)
      obtain ⟨e, b, off, he, rfl, hb, hc⟩ := (HV.out.go kW).pick (i := i) (by rw [HN.out]; exact hlt)
      have hokE := HL.out e (List.mem_of_getElem? he)
      have hi1 : (i : Int) < N := by omega
      have hzV := hk.out.size
      have l0 := load_ev hc
      obtain ⟨A, hA⟩ : ∃ A, arr e = A := ⟨_, rfl⟩
      have sA : A.size = 18 := by rw [← hA]; rfl
      have oA : A.all (·.oneCell') = true := by rw [← hA]; exact arr_one e
      obtain ⟨X, hX⟩ : ∃ X, wr.alloc (.cells A 38) = X := ⟨_, rfl⟩
      have hB : Bl wr X [(A, 38)] := hX ▸ Bl.one wr _ _
      have hat : At X wr.heap.size 0 e := at_blk (by rw [hA]; exact hB.blk 0 rfl)
      have lX := hat.all
      have cX : X.heap[C]? = some (.cells #[.map (some M)] 60 (0, 0)) := by
        rw [hB.kept.block C (by omega), hk.out.block C (by omega) (by omega)]; exact FV.out.2
      obtain ⟨n, hn, hset⟩ := hs.out
      have hsX : Set_ X M (inT k (bel k (L.take i))) n := hset.kept (hB.kept.block M (by omega))
      obtain ⟨z, hz⟩ : ∃ z, begB k (bel k (L.take i)) e = z := ⟨_, rfl⟩
      have CB := Lib.hid (below1_any ((blk_cell cX 0).trans rfl) hsX e hokE)
      rw [in_beg, hz, hA] at CB
      rw [hA] at l0 lX
      have HE := Lib.hid he
      have HX := Lib.hid hX
      have HA := Lib.hid (And.intro hat (And.intro cX hsX))
      have HB := Lib.hid hB
      have HZ := Lib.hid (And.intro hzV (And.intro hn hokE))
      have hfr := Lib.hid (hk.out.then_kept hB.kept)
      have hrX := Lib.hid (RowV.keep hr.out hB.kept)
      have hle : (bel k (L.take i)).length ≤ 900000 := Nat.le_trans (bel_most _ _ _) (by have := HN.out; omega)
      clear kW he hb hc hokE hzV hA hX hB hat cX hset hsX hn
      cases z
      · have HD := Lib.hid (bel_no (k := k) HE.out hz)
        go_upto_region 7 with (first
          | (refine load_l 38 (.tmp 19) rfl _ rfl rfl (.agg A) l0 ?_)
          | (refine store_new rfl 38 (.tmp 9) (.tmp 20) rfl wr.heap.size A rfl rfl wr _ rfl 18 info_ev sA rfl oA ?_; rw [HX.out]))
        go_wp2_with (first | (refine load_l 38 (.tmp 9) rfl _ rfl rfl (.agg A) lX ?_))
        refine CB.out.mono ?_
        rintro e' w3 ⟨rfl, k3⟩
        have K3 := Lib.hid k3
        clear k3
        go_wp2_with fail
        go_roundw
        case rel =>
          refine ⟨i + 1, hlt, by go_num, Lib.hid (hfr.out.then_kept K3.out), Lib.hid ⟨n, by have := HZ.out.2.1; omega, ?_⟩, Lib.hid ?_, ho⟩
          · rw [HD.out]; exact HA.out.2.2.kept (K3.out.block M (MV.lt HA.out.2.2))
          · rw [HD.out]; exact RowV.keep hrX.out K3.out
        case measure => simp [intOf]; omega
      · have HD := Lib.hid (bel_yes (k := k) HE.out hz)
        go_upto_region 7 with (first
          | (refine load_l 38 (.tmp 19) rfl _ rfl rfl (.agg A) l0 ?_)
          | (refine store_new rfl 38 (.tmp 9) (.tmp 20) rfl wr.heap.size A rfl rfl wr _ rfl 18 info_ev sA rfl oA ?_; rw [HX.out]))
        go_wp2_with (first | (refine load_l 38 (.tmp 9) rfl _ rfl rfl (.agg A) lX ?_))
        refine CB.out.mono ?_
        rintro e' w3 ⟨rfl, k3⟩
        have hzX := blk_lt (HB.out.blk 0 rfl)
        have hzl := HZ.out.1
        have hat3 := HA.out.1.go k3 hzX
        have lk3 := hat3.key
        have c3 : w3.cell? ⟨C, 0, none⟩ = some (.map (some M)) := (blk_cell (kept_at k3 HA.out.2.1) 0).trans rfl
        obtain ⟨w4, r4, ⟨m, hm, hs4⟩, ht4⟩ := (HA.out.2.2.kept (k3.block M (MV.lt HA.out.2.2))).more (by have := HZ.out.2.1; omega) HZ.out.2.2.key
        rw [in_more] at hs4
        have f4 : Fr (fun j => j = M) w3 w4 := (Fr.refl _ _).turned ht4 (.inl rfl)
        have lk4 := (hat3.fr f4 (by show ¬ wr.heap.size + 0 = M; omega)).key
        have r9 := Lib.hid (RowV.kept (w' := w4) (RowV.keep hrX.out k3) (fun g c => f4.block g (RowV.lt (RowV.keep hrX.out k3) c) (by have := ho.out g c; omega)))
        have F4 := Lib.hid (And.intro ((hfr.out.then_kept k3).trans f4 (fun j c => .inl c)) (And.intro hs4 hm))
        unfold kv at lk3 r4 lk4
        clear k3 hat3 ht4 f4 hs4 hm hzl hzX
        go_upto_region 9 with (first
          | (refine load_l 26 (.tmp 25) rfl _ rfl rfl _ lk3 ?_))
        go_wp2_with (first
          | (refine load_l 26 (.tmp 29) rfl _ rfl rfl _ lk4 ?_)
          | (at_builtin; refine wpList_append_onev enc_key w4 rfl (.tmp 28) (.tmp 31) rfl _ _ e.key _ rfl rfl rfl r9.out hle ?_; intro v9 w9 r10 g9 b9))
        have hM4 : M < w4.heap.size := MV.lt F4.out.2.1
        have z4 := F4.out.1.size
        have h1 : Fr (fun j => j = M) V w9 := (F4.out.1.then_kept (Kept.one w4 _)).grown g9 (fun k c => .inr (ho.out k c))
        have h2 : w9.heap[M]? = w4.heap[M]? := by
          rw [g9.block M (by simp; omega) (fun c => by have := ho.out M c.symm; omega)]
          exact (Kept.one w4 _).block M hM4
        have h3 : ∀ g, v9.ownBlock = some g → V.heap.size ≤ g := fun g' c => by
          rcases b9 with d' | ⟨g2, d', hl2⟩
          · exact ho.out g' (d'.symm.trans c)
          · obtain rfl : g2 = g' := Option.some.inj (d'.symm.trans c)
            omega
        have H9 := Lib.hid (And.intro h1 (And.intro (F4.out.2.1.kept h2) (And.intro r10 h3)))
        clear h1 h2 h3 r10 g9 b9 hM4 z4
        go_roundw
        case rel =>
          refine ⟨i + 1, hlt, by go_num, Lib.hid H9.out.1, Lib.hid ⟨m, by have := F4.out.2.2; have := HZ.out.2.1; omega, ?_⟩, Lib.hid ?_, Lib.hid H9.out.2.2.2⟩
          · rw [HD.out]; exact H9.out.2.1
          · rw [HD.out]; exact H9.out.2.2.1
        case measure => simp [intOf]; omega
    · obtain rfl : i = N := by omega
      have hkk : L.take i = L := List.take_of_length_le (Nat.le_of_eq HN.out)
      rw [hkk] at hr
      go_wp2_with fail
      go_ret
      refine ⟨_, rfl, kr_lk hr.out (Nat.le_trans (bel_len _ _) (by have := HN.out; omega)), ?_⟩
      exact ((Fr.kept (S := fun j => w.heap.size ≤ j) FV.out.1).trans hk.out (fun j c => .inl (by omega))).keeps (fun k c => c)

end Go.Proofs.YtckjdncacinnkaaDoor.Ev
