/- Package table: those of whom something holds; Keys, Running, Under. -/
import Derived.Test.YtiaafjabhnomeaaTbS
import Derived.LoopTactic
namespace Go.Proofs.Ytiaafjabhnomeaa.Tb
open Go.RowKit Go.Sort IdM Se Mv Blk Go.Maps
open St (Kept blk_cell blk_free blk_lt blk_set)
open Go.Proofs.Ytiaafjabhnomeaa.Ow (isroot_any load_id eq_id Ow Cls Mc zeroA info_ow arr_one load_ow load_key)
open Go.Proofs.Ytiaafjabhnomeaa.Rv
open Go.Proofs.Ytiaafjabhnomeaa.Ad (load_w load_l store_new kept_row)
open Wh (Fr)
set_option linter.unusedVariables false
set_option linter.unusedSimpArgs false
set_option maxRecDepth 20000

theorem kept_grown {w w' : World} (k : Kept w w') : w.grownBy w' none := ⟨k.os, k.tape, k.output, k.size, fun i hi _ => k.block i hi⟩
theorem info_key : (Try.prog.info? 32).map (·.size) = some 4 := by kernel_rfl
/-- what one entry of the owners' map is -/
theorem TbA.entry {w : World} {B M N : Nat} {Sc : Nat → Prop} {T : Ke → Option Eo} {n : Nat} {F : Cal} {L : Tab} {m : Nat} {S : Nat → Prop} (h : TbA w B M N Sc T n F L m S) {D : DataW Unit} (hT : ∀ x, keyK.ok x → Maps.has D (keyK.l x) = (T x).isSome ∧ D.atKey (keyK.l x) (elO.d zO) = elO.d ((T x).getD zO))
    {kvl v : Value} {k : Lit} {yd : DataW Unit} {yp : List MemPlace} (hk : keyOf Try.prog 32 kvl = some k) (hv : elO.el v = some (yd, yp)) (hat : ∀ zd, D.atKey k zd = yd) :
    ∃ (x : Ke) (e : En) (q : Option Addr) (j c : Nat), kvl = kv x ∧ okK x ∧ k = kl x ∧ v = .agg (e.o.arr q j c) ∧ e ∈ L ∧ e.k = x := by
  obtain ⟨x, rfl, hx, rfl⟩ := key_inv hk
  obtain ⟨b, rfl, hb⟩ := elO.inv hv
  obtain ⟨t1, t2⟩ := hT x hx
  have hh : Maps.has D (kl x) = true := has_true_of_atKey hat
  have e1 : (T x).isSome = true := t1.symm.trans hh
  rcases h.row x hx with ⟨h1, h2⟩ | ⟨e, K, h1, h2, h3, h4, h5⟩
  · rw [h1] at e1; cases e1
  · rw [h1] at t2
    have e2 : b = e := elO.d_inj _ _ (((congrArg Prod.fst hb).symm.trans ((hat _).symm)).trans t2)
    subst e2
    obtain ⟨m1, m2⟩ := find_some h2
    exact ⟨x, ⟨b.o, K⟩, _, _, _, rfl, hx, rfl, rfl, m1, m2⟩

set_option maxHeartbeats 3000000 in
theorem those_any {w : World} {B m : Nat} {S : Nat → Prop} {L : Tab} (h0 : Tbl w B L m S) (hm : m ≤ 900000) (f : Ow → Bool) (g : Nat) (lb : Array Value) (eg : ∀ args u, (callFunc g args).run Try.prog u = .ok (.enter g args) u)
    (hp : ∀ u, Kept w u → ∀ e ∈ L, ∀ q n c, Calls Try.prog g (#[.agg (e.o.arr q n c)] ++ lb) u fun r u' => r = .returned (.bool (f e.o)) ∧ Kept u u') :
    Calls Try.prog 30 #[pB B, .func (.func g) #[] lb] w fun e w' => ∃ v, e = .returned v ∧ Kr w' v (keysOf f L) ∧ (∀ b, v.ownBlock = some b → w.heap.size ≤ b) ∧ Kept w w' := by
  obtain ⟨M, N, Sc, T, n0, F, h⟩ := h0
  have C := Lib.hid (made_any h.blk)
  have c1 := h.blk.c1
  obtain ⟨D, hown, hsz, hT⟩ := h.map
  have hn0 := h.most
  have ENT := Lib.hid (fun (kvl v : Value) (k : Lit) (yd : DataW Unit) (yp : List MemPlace) (hk : keyOf Try.prog 32 kvl = some k) (hv : elO.el v = some (yd, yp)) (hat : ∀ zd, D.atKey k zd = yd) => h.entry hT hk hv hat)
  have ST := Lib.hid (show Col L f (Maps.has D) [] from Col.start fun x hx ⟨e, he, hk⟩ => by
    have := (hT x hx).1
    rcases h.row x hx with ⟨h1, h2⟩ | ⟨e', K, h1, h2, _⟩
    · exact absurd hk (find_none.1 h2 e he)
    · rw [h1] at this; exact this)
  have HP := Lib.hid hp
  have HSO := Lib.hid (And.intro h.sorted h.fit)
  have hM := hown.lt
  clear h hT hp
  unfold pB at C ⊢
  go_enter Try.func30, Try.ntmps30
  go_wp2_with (first
    | (go_at_call 35; refine C.out.mono ?_; rintro e w' ⟨rfl, rfl⟩)
    | (at_range; refine wpList_range_own _ rfl _ 60 rfl 32 52 keyK.law Try.underlying60 _ M _ D rfl hown ?_; intro w0 hrg0 hg0 hs0)
    | go_in)
  go_frame
  go_loopw [5] (fun d wr => ∃ (left : Lit → Bool) (cnt : Nat) (acc : List Ke), Hid (wr.ranges Try.prog 32 elO.el M w.heap.size n0 D left cnt) ∧ Hid (Col L f left acc) ∧ acc.length + cnt ≤ n0 ∧ Hid (Kr wr d acc) ∧ Hid (∀ b, d.ownBlock = some b → w.heap.size < b) ∧ Hid (Kept w wr)) (fun _ wr => wr.rangeLeft M w.heap.size)
  case atStart => exact ⟨_, _, [], Lib.hid hrg0, ST, by simp [hsz], Lib.hid (rowv_nil _ _ _ _), Lib.hid (fun b e => by cases e), Lib.hid ⟨hg0.os, hg0.tape, hg0.output, hg0.size, fun i hi => hg0.block i hi (by simp)⟩⟩
  case round =>
    obtain ⟨left, cnt, acc, hrg, hcol, hcnt, hrow, hown', hkw⟩ := hrel
    go_wp2_with (first
      | (at_next; refine wpList_next_ranges _ rfl _ rfl 32 keyK.law elO.el id id (fun key kl hk => ⟨key, rfl⟩) (fun v _ _ => ⟨v, rfl⟩) M w.heap.size _ _ _ _ rfl hrg.out ?_ ?_)
      | go_in)
    · intro hc0 hl0
      have hlen : acc.length ≤ 1000000 := by omega
      have SO := Lib.hid (sort_any hrow.out hcol.out.nd hlen)
      have hdone := hcol.out.done HSO.out.2 hl0
      have hok := hcol.out.nd
      clear hrg hcol hrow
      go_wp2_with (first | (refine SO.out.mono ?_; rintro e w' ⟨rfl, D', h1, h2, h3, h4⟩))
      go_ret
      have e : D' = keysOf f L := rise_ext h1 (rise_keysOf HSO.out.1) fun x => (h2.mem_iff).trans (hdone x)
      subst e
      exact ⟨_, rfl, h3, fun b e => Nat.le_of_lt (hown'.out b e), (Fr.kept (S := fun k => w.heap.size ≤ k) hkw.out).trans h4 (fun k c => .inl (Nat.le_of_lt (hown'.out k c))) |>.keeps (fun k c => c)⟩
    · intro key v klx yd yp w2 cnt2 hkey hlk hv hat hrg2 hlt hg2 hs2 hen
      obtain ⟨x, e, q, j, c, rfl, hx, rfl, rfl, he, hk⟩ := ENT.out _ _ _ _ _ hkey hv hat
      obtain ⟨lf, hlf⟩ : ∃ lf : Lit → Bool, (fun z => left z && !z.sameKey (kl x)) = lf := ⟨_, rfl⟩
      rw [hlf] at hrg2
      have CY := Lib.hid (fun (hf : f e.o = true) => hlf ▸ hcol.out.yes hx hlk he hk hf)
      have CN := Lib.hid (fun (hf : f e.o = false) => hlf ▸ hcol.out.no HSO.out.1 hx hlk he hk hf)
      obtain ⟨A, hA⟩ : ∃ A, e.o.arr q j c = A := ⟨_, rfl⟩
      have sA : A.size = 19 := by rw [← hA]; rfl
      have oA : A.all (·.oneCell') = true := by rw [← hA]; exact arr_one _ _ _ _
      have zw2 : w2.heap.size = wr.heap.size := hs2
      have k2 : Kept w w2 := ((Fr.kept (S := fun k => w.heap.size ≤ k) hkw.out).grown hg2 (fun k e => by cases e; exact .inl (Nat.le_refl _))).keeps (fun k c => c)
      obtain ⟨W2, hW2⟩ : ∃ W, (w2.alloc (.cells #[.int .i64 x.n, .int .i64 x.i, .int .i64 x.s, .int .i64 x.a] 32)).alloc (.cells A 52) = W := ⟨_, rfl⟩
      have hb2 := (show Bl w2 W2 [(#[.int .i64 x.n, .int .i64 x.i, .int .i64 x.s, .int .i64 x.a], 32), (A, 52)] from hW2 ▸ Bl.two w2 _ _ _ _)
      have lA := load_ow (hb2.blk 1 rfl) sA
      have CP := Lib.hid (by have := HP.out W2 (k2.trans hb2.kept) e he q j c; rw [hA] at this; exact this)
      have hrg4 : W2.ranges Try.prog 32 elO.el M w.heap.size n0 D lf cnt2 := hrg2.kept (kept_grown hb2.kept) (by simp) (by simp)
      have hrow4 : Kr W2 u5 acc := (RowV.kept hrow.out fun b e => hg2.block b (RowV.lt hrow.out e) (fun c => by have := hown'.out b e; cases c; omega)).keep hb2.kept
      have HB2 := Lib.hid (And.intro hb2 (And.intro hrg4 hrow4))
      have HZ2 := Lib.hid (And.intro zw2 hg2)
      have HW2 := Lib.hid hW2
      have HK2 := Lib.hid (k2.trans hb2.kept)
      have ML := Lib.hid hrg.out.left_eq
      have hlen : acc.length ≤ 900000 := by omega
      obtain ⟨z, hz⟩ : ∃ z, f e.o = z := ⟨_, rfl⟩
      rw [hz] at CP CY CN
      unfold kv at hen
      rw [hA] at hen
      clear hkey hlk hv hat hrg2 hg2 hcol hrow hb2 hW2 hlf k2 hrg4 hrow4 hz zw2 hs2
      rw [hA]
      clear hA
      go_upto_region 7 with (first
        | (refine store_new rfl 52 (.tmp 7) (.tmp 20) rfl (w2.heap.size + 1) A rfl rfl (w2.alloc (.cells #[.int .i64 x.n, .int .i64 x.i, .int .i64 x.s, .int .i64 x.a] 32)) _ (by simp) 19 info_ow sA rfl oA ?_; rw [HW2.out]))
      have M2 := Lib.hid (show W2.rangeLeft M w.heap.size = cnt2 from HB2.out.2.1.left_eq)
      cases z
      · go_upto_region 8 with (first
          | (refine load_l 52 (.tmp 7) rfl _ rfl rfl (.agg A) lA ?_)
          | (refine CP.out.mono ?_; rintro r w5 ⟨rfl, k5⟩))
        go_roundw
        case rel => exact ⟨lf, cnt2, acc, Lib.hid (HB2.out.2.1.kept (kept_grown k5) (by simp) (by simp)), Lib.hid (CN.out (by trivial)), by omega, Lib.hid (RowV.keep HB2.out.2.2 k5), hown', Lib.hid (HK2.out.trans k5)⟩
        case measure => rw [ML.out, (HB2.out.2.1.kept (kept_grown k5) (by simp) (by simp)).left_eq]; exact hlt
      · go_upto_region 8 with (first
          | (refine load_l 52 (.tmp 7) rfl _ rfl rfl (.agg A) lA ?_)
          | (refine CP.out.mono ?_; rintro r w5 ⟨rfl, k5⟩))
        have hb5 := HB2.out.1.go k5
        have y0 : w5.cell? ⟨w2.heap.size, 0, none⟩ = some (.int .i64 x.n) := hb5.cell 0 0 rfl
        have y1 : w5.cell? ⟨w2.heap.size, 1, none⟩ = some (.int .i64 x.i) := hb5.cell 0 1 rfl
        have y2 : w5.cell? ⟨w2.heap.size, 2, none⟩ = some (.int .i64 x.s) := hb5.cell 0 2 rfl
        have y3 : w5.cell? ⟨w2.heap.size, 3, none⟩ = some (.int .i64 x.a) := hb5.cell 0 3 rfl
        have hr5 := RowV.keep HB2.out.2.2 k5
        have hrg5 := HB2.out.2.1.kept (kept_grown k5) (by simp) (by simp)
        have H5 := Lib.hid (And.intro hr5 (And.intro hrg5 k5))
        clear hb5 hr5 hrg5 k5
        go_wp2_with (first
          | (at_builtin; refine wpList_append_onev enc_key w5 rfl (.tmp 24) (.tmp 26) rfl _ _ x _ rfl rfl rfl H5.out.1 (by omega) ?_; intro v6 w6 r6 g6 b6))
        have z2 := Below.size HK2.out
        have z5 := Below.size H5.out.2.2
        have zb := Below.size HB2.out.1.kept
        have k56 : Kept w5 (w5.alloc (.cells #[.int .i64 x.n, .int .i64 x.i, .int .i64 x.s, .int .i64 x.a] 32)) := Kept.one _ _
        have hne : ∀ b, u5.ownBlock = some b → w.heap.size < b := hown'.out
        have hrg6 := (H5.out.2.1.kept (kept_grown k56) (by simp) (by simp)).kept g6 (fun c => by have := hne M c.symm; omega) (fun c => by have := hne _ c.symm; omega)
        have k6 : Kept w w6 := ((Fr.kept (S := fun k => w.heap.size ≤ k) ((HK2.out.trans H5.out.2.2).trans k56)).grown g6 (fun k e => .inl (Nat.le_of_lt (hne k e)))).keeps (fun k c => c)
        have zw := Below.size hkw.out
        have hrl := hrg.out.lt
        have hown6 : ∀ b, v6.ownBlock = some b → w.heap.size < b := fun b e => by
          rcases b6 with c | ⟨b', c, hl⟩
          · exact hne b (c.symm.trans e)
          · obtain rfl : b' = b := Option.some.inj (c.symm.trans e)
            have := HZ2.out.1
            omega
        have H6 := Lib.hid (And.intro r6 (And.intro hrg6 (And.intro k6 hown6)))
        clear r6 g6 b6 hrg6 k6 hown6 k56
        go_roundw
        case rel => exact ⟨lf, cnt2, acc ++ [x], Lib.hid H6.out.2.1, Lib.hid (CY.out (by trivial)), by simp; omega, Lib.hid H6.out.1, Lib.hid H6.out.2.2.2, Lib.hid H6.out.2.2.1⟩
        case measure => rw [ML.out, H6.out.2.1.left_eq]; exact hlt

def allF (o : Ow) : Bool := true
def runF (o : Ow) : Bool := !(o.ka == 0)
def undF (r : Di) (o : Ow) : Bool := o.rn == r.n && (o.ri == r.i && o.rs == r.s)
theorem enters_keys1 : ∀ args u, (callFunc 31 args).run Try.prog u = .ok (.enter 31 args) u := enters_of Try.func31 (by kernel_rfl) rfl

theorem enters_run1 : ∀ args u, (callFunc 32 args).run Try.prog u = .ok (.enter 32 args) u := enters_of Try.func32 (by kernel_rfl) rfl

theorem enters_und1 : ∀ args u, (callFunc 43 args).run Try.prog u = .ok (.enter 43 args) u := enters_of Try.func43 (by kernel_rfl) rfl

set_option maxHeartbeats 400000 in
theorem keys1_any (A : Array Value) (u : World) : Calls Try.prog 31 #[.agg A] u fun r u' => r = .returned (.bool true) ∧ Kept u u' := by
  go_enter Try.func31, Try.ntmps31
  go_wp2_with fail
  go_ret
  exact ⟨rfl, Kept.one _ _⟩

set_option maxHeartbeats 400000 in
theorem run1_any (o : Ow) (q : Option Addr) (n c : Nat) (u : World) : Calls Try.prog 32 #[.agg (o.arr q n c)] u fun r u' => r = .returned (.bool (runF o)) ∧ Kept u u' := by
  have C := Lib.hid (isroot_any o q n c)
  unfold runF
  obtain ⟨z, hz⟩ : ∃ z, (o.ka == 0) = z := ⟨_, rfl⟩
  rw [hz] at C ⊢
  obtain ⟨A, hA⟩ : ∃ A, o.arr q n c = A := ⟨_, rfl⟩
  have sA : A.size = 19 := by rw [← hA]; rfl
  rw [hA] at C ⊢
  obtain ⟨W, hW⟩ : ∃ W, u.alloc (.cells A 52) = W := ⟨_, rfl⟩
  have b1 : W.heap[u.heap.size]? = some (.cells A 52 (0, 0)) := by rw [← hW]; exact St.blk_new _ _
  have k1 : Kept u W := by rw [← hW]; exact Kept.one _ _
  have lA := load_ow b1 sA
  have HW := Lib.hid hW
  have HK := Lib.hid k1
  clear hA hz hW b1 k1
  go_enter Try.func32, Try.ntmps32
  go_upto_region 1 with fail
  rw [HW.out]
  go_wp2_with (first
    | (refine load_l 52 (.tmp 1) rfl _ rfl rfl (.agg A) lA ?_)
    | (go_at_call 33; refine (C.out _).mono ?_; rintro e w1 ⟨rfl, k1⟩))
  go_ret
  exact ⟨rfl, HK.out.trans k1⟩

set_option maxHeartbeats 400000 in
theorem und1_any (o : Ow) (q : Option Addr) (n c : Nat) (r : Di) {b : Nat} {u : World} (hb : u.heap[b]? = some (.cells #[.int .i64 r.n, .int .i64 r.i, .int .i64 r.s] 30 (0, 0))) : Calls Try.prog 43 #[.agg (o.arr q n c), .pointer (some ⟨b, 0, none⟩)] u fun e u' => e = .returned (.bool (undF r o)) ∧ Kept u u' := by
  have he := fun w => eq_id o.rn o.ri o.rs r.n r.i r.s w
  obtain ⟨z, hz⟩ : ∃ z, undF r o = z := ⟨_, rfl⟩
  rw [show (o.rn == r.n && (o.ri == r.i && o.rs == r.s)) = z from hz] at he
  rw [hz]
  obtain ⟨A, hA⟩ : ∃ A, o.arr q n c = A := ⟨_, rfl⟩
  have c4 : A[4]? = some (.int .i64 o.rn) := by rw [← hA]; rfl
  have c5 : A[5]? = some (.int .i64 o.ri) := by rw [← hA]; rfl
  have c6 : A[6]? = some (.int .i64 o.rs) := by rw [← hA]; rfl
  rw [hA]
  obtain ⟨W, hW⟩ : ∃ W, u.alloc (.cells A 52) = W := ⟨_, rfl⟩
  have k1 : Kept u W := by rw [← hW]; exact Kept.one _ _
  have b1 : W.heap[u.heap.size]? = some (.cells A 52 (0, 0)) := by rw [← hW]; exact St.blk_new _ _
  have b2 := kept_at k1 hb
  have x4 : W.cell? ⟨u.heap.size, 4, none⟩ = some (.int .i64 o.rn) := (blk_cell b1 4).trans c4
  have x5 : W.cell? ⟨u.heap.size, 5, none⟩ = some (.int .i64 o.ri) := (blk_cell b1 5).trans c5
  have x6 : W.cell? ⟨u.heap.size, 6, none⟩ = some (.int .i64 o.rs) := (blk_cell b1 6).trans c6
  have y0 : W.cell? ⟨b, 0, none⟩ = some (.int .i64 r.n) := (blk_cell b2 0).trans rfl
  have y1 : W.cell? ⟨b, 1, none⟩ = some (.int .i64 r.i) := (blk_cell b2 1).trans rfl
  have y2 : W.cell? ⟨b, 2, none⟩ = some (.int .i64 r.s) := (blk_cell b2 2).trans rfl
  have HW := Lib.hid hW
  have HK := Lib.hid k1
  clear hA hz hW b1 b2 k1 hb c4 c5 c6
  go_enter Try.func43, Try.ntmps43
  go_upto_region 1 with fail
  rw [HW.out]
  go_wp2_with fail
  go_ret
  exact ⟨rfl, HK.out⟩

/-- a row of keys that a call hands back, new -/
def tells (w : World) (l : List Ke) : Ending → World → Prop := fun e w' => ∃ v, e = .returned v ∧ Kr w' v l ∧ (∀ b, v.ownBlock = some b → w.heap.size ≤ b) ∧ Kept w w'
section
variable {w : World} {B m : Nat} {S : Nat → Prop} {L : Tab}
set_option maxHeartbeats 400000 in
theorem keys_any (h0 : Tbl w B L m S) (hm : m ≤ 900000) : Calls Try.prog 11 #[pB B] w (tells w (keysOf allF L)) := by
  have C := Lib.hid (those_any h0 hm allF 31 #[] enters_keys1 (fun u hu e he q n c => keys1_any _ u))
  clear h0
  go_enter Try.func11, Try.ntmps11
  go_wp2_with (first | (go_at_call 30; refine C.out.mono ?_; rintro e w1 ⟨v, rfl, h1, h2, h3⟩))
  go_ret
  exact ⟨v, rfl, h1, h2, h3⟩

set_option maxHeartbeats 400000 in
theorem running_any (h0 : Tbl w B L m S) (hm : m ≤ 900000) : Calls Try.prog 13 #[pB B] w (tells w (keysOf runF L)) := by
  have C := Lib.hid (those_any h0 hm runF 32 #[] enters_run1 (fun u hu e he q n c => run1_any e.o q n c u))
  clear h0
  go_enter Try.func13, Try.ntmps13
  go_wp2_with (first | (go_at_call 30; refine C.out.mono ?_; rintro e w1 ⟨v, rfl, h1, h2, h3⟩))
  go_ret
  exact ⟨v, rfl, h1, h2, h3⟩

set_option maxHeartbeats 400000 in
theorem under_any (h0 : Tbl w B L m S) (hm : m ≤ 900000) (r : Di) : Calls Try.prog 24 #[pB B, dv r] w (tells w (keysOf (undF r) L)) := by
  obtain ⟨W, hW⟩ : ∃ W, w.alloc (.cells #[.int .i64 r.n, .int .i64 r.i, .int .i64 r.s] 30) = W := ⟨_, rfl⟩
  have k1 : Kept w W := by rw [← hW]; exact Kept.one _ _
  have b1 : W.heap[w.heap.size]? = some (.cells #[.int .i64 r.n, .int .i64 r.i, .int .i64 r.s] 30 (0, 0)) := by rw [← hW]; exact St.blk_new _ _
  have C := Lib.hid (those_any (h0.kept k1) hm (undF r) 43 #[.pointer (some ⟨w.heap.size, 0, none⟩)] enters_und1 (fun u hu e he q n c => und1_any e.o q n c r (kept_at hu b1)))
  have HW := Lib.hid hW
  have HK := Lib.hid k1
  clear h0 hW k1 b1
  unfold dv
  go_enter Try.func24, Try.ntmps24
  go_upto_region 1 with fail
  rw [HW.out]
  go_wp2_with (first | (go_at_call 30; refine C.out.mono ?_; rintro e w1 ⟨v, rfl, h1, h2, h3⟩))
  go_ret
  have := Below.size HK.out
  exact ⟨v, rfl, h1, fun b e => Nat.le_trans this (h2 b e), HK.out.trans h3⟩
end

end Go.Proofs.Ytiaafjabhnomeaa.Tb
