/- What is sent of what may be: of the values alone; the law's own: may a call, an owner, be; are packets parsed as they were told. -/
import Derived.Test.YtncdiggejofbbaaGreatDoorSn7
import Derived.Test.YtncdiggejofbbaaGreatDoorId
import Derived.Test.YtncdiggejofbbaaGreatDoorPkN
namespace Go.Proofs.YtncdiggejofbbaaGreatDoor.Sn
open Go.RowKit Go.Sort Go.Shelf St PkM Ad Po Blk Eqs IdM
open Go.Proofs.YtncdiggejofbbaaGreatDoor.Cl
open Go.Proofs.YtncdiggejofbbaaGreatDoor.Ow
open Go.Proofs.YtncdiggejofbbaaGreatDoor.Ls
open Go.Proofs.YtncdiggejofbbaaGreatDoor.Rv
open Go.Proofs.YtncdiggejofbbaaGreatDoor.Au (Stab stab_and)
open Go.Proofs.YtncdiggejofbbaaGreatDoor.Ad (load_w load_l store_new)
set_option linter.unusedVariables false
set_option linter.unusedSimpArgs false

def oneB (c : Cl) : Bool := rightB c.n c.i c.s && (decide (0 ≤ c.att) && (decide (c.att ≤ 5) && (decide (0 ≤ c.to) && (decide (c.to ≤ 63) && (decide (0 ≤ c.pr) && decide (c.pr ≤ 15))))))
def inB (c : Cl) : Bool := oneB c && decide (1 ≤ c.att)
def mayB (me : Int) (o : Ow) (K : List Cl) : Bool :=
  decide (0 ≤ me) && (decide (me ≤ 63) && (keyB o.kn o.ki o.ks o.ka && (rightB o.rn o.ri o.rs && (decide (0 ≤ o.fr) && (decide (o.fr ≤ 63) && (decide (0 ≤ o.hp) && (decide (K.length ≤ 30) && K.all inB)))))))
theorem one_iff {c : Cl} : oneB c = true ↔ rightB c.n c.i c.s = true ∧ (0 ≤ c.att ∧ c.att ≤ 5) ∧ (0 ≤ c.to ∧ c.to ≤ 63) ∧ 0 ≤ c.pr ∧ c.pr ≤ 15 := by
  simp [oneB, and_assoc]
theorem may_iff {me : Int} {o : Ow} {K : List Cl} : mayB me o K = true ↔ (0 ≤ me ∧ me ≤ 63) ∧ keyB o.kn o.ki o.ks o.ka = true ∧ rightB o.rn o.ri o.rs = true ∧ (0 ≤ o.fr ∧ o.fr ≤ 63) ∧ 0 ≤ o.hp ∧ K.length ≤ 30 ∧ K.all inB = true := by
  simp only [mayB, Bool.and_eq_true, decide_eq_true_eq, and_assoc]

/-- a packet that may be, with a short text -/
def Ok (p : Pk) : Prop := okB p = true ∧ p.tm.size ≤ 20
theorem ok_of {p : Pk} (hc : clean p = p) (hh : headB p = true) (hr : restB p = true) (ht : p.tm.size ≤ 20) : Ok p := ⟨by unfold okB; rw [hc, same_self, hh, hr]; rfl, ht⟩
theorem head_ok {p : Pk} (h1 : 0 ≤ p.fr ∧ p.fr ≤ 63) (h2 : 0 ≤ p.to ∧ p.to ≤ 63) (h3 : keyB p.kn p.ki p.ks p.ka = true) (h4 : 1 ≤ p.ka) : headB p = true := by
  simp [headB, nodeB, h1, h2, h3, h4]
theorem time_ok (n : Int) : timeB (Tk.clamp n) = true := by
  have := Tk.clamp_lo n
  have := Tk.clamp_hi n
  simp [timeB, *]
theorem key_of {c : Cl} (h : oneB c = true) (h1 : 1 ≤ c.att) : keyB c.n c.i c.s c.att = true := by
  have := one_iff.1 h
  exact key_iff.2 ⟨this.1, this.2.1⟩
theorem ok_onw3 {me : Int} {x : Cl} (hm : 0 ≤ me ∧ me ≤ 63) (h : oneB x = true) (h1 : 1 ≤ x.att) : Ok (onw 3 me x) :=
  ok_of rfl (head_ok hm (one_iff.1 h).2.2.1 (key_of h h1) h1) rfl (show (⟨#[]⟩ : ByteArray).size ≤ 20 by decide)
theorem ok_wt4 {me : Int} {o : Ow} {x : Cl} (hm : 0 ≤ me ∧ me ≤ 63) (h : oneB x = true) (h1 : 1 ≤ x.att) : Ok (wtP 4 me o x) :=
  ok_of rfl (head_ok hm (one_iff.1 h).2.2.1 (key_of h h1) h1) (time_ok o.un) (show (⟨#[]⟩ : ByteArray).size ≤ 20 by decide)
theorem ok_rpl {me : Int} {o : Ow} {n v : Int} (hm : 0 ≤ me ∧ me ≤ 63) (hf : 0 ≤ o.fr ∧ o.fr ≤ 63) (hk : keyB o.kn o.ki o.ks o.ka = true) (h1 : 1 ≤ o.ka) (hn : 0 ≤ n ∧ n ≤ 16) (hv : 0 ≤ v ∧ v ≤ 2147483647) : Ok (rpl me o n v) :=
  ok_of rfl (head_ok hm hf hk h1) (by
    show (Cd.right n && decide (0 ≤ v ∧ v ≤ 2147483647)) = true
    rw [Cd.right_yes hn.1 hn.2, decide_eq_true hv]; rfl) (show (⟨#[]⟩ : ByteArray).size ≤ 20 by decide)
theorem ok_mre {me : Int} {o : Ow} (hm : 0 ≤ me ∧ me ≤ 63) (hf : 0 ≤ o.fr ∧ o.fr ≤ 63) (hk : keyB o.kn o.ki o.ks o.ka = true) (h1 : 1 ≤ o.ka) : Ok (mre me o) :=
  ok_of rfl (head_ok hm hf hk h1) rfl (show (⟨#[]⟩ : ByteArray).size ≤ 20 by decide)
theorem ok_rfs {me : Int} {o : Ow} {d : Int} (hm : 0 ≤ me ∧ me ≤ 63) (hf : 0 ≤ o.fr ∧ o.fr ≤ 63) (hk : keyB o.kn o.ki o.ks o.ka = true) (h1 : 1 ≤ o.ka) (hd : -1 ≤ d ∧ d ≤ 4) : Ok (rfs me o d) :=
  ok_of rfl (head_ok hm hf hk h1) (by
    show decide (-1 ≤ d ∧ d ≤ 1125899906842624) = true
    exact decide_eq_true (by omega)) (show (⟨#[]⟩ : ByteArray).size ≤ 20 by decide)
theorem ok_ask {g : Cf} {me : Int} {o : Ow} {x : Cl} {now : Int} (hm : 0 ≤ me ∧ me ≤ 63) (hx : oneB x = true) (h : (x.st = 0 ∨ x.st = 2) ∧ x.att < 5) (h2 : ¬ g.hops ≤ o.hp) (hg : g.hops ≤ 16) (hhp : 0 ≤ o.hp)
    (hk : keyB o.kn o.ki o.ks o.ka = true) (hr : rightB o.rn o.ri o.rs = true) : Ok (ask me o (beg x now) now (hopS o now)) := by
  have hx2 := one_iff.1 hx
  rw [beg_on now h.1 h.2]
  have hw : wrap64 (o.hp + 1) = o.hp + 1 := IntWalk.wrap64_in _ (by omega)
  refine ok_of rfl (head_ok hm hx2.2.2.1 (key_iff.2 ⟨hx2.1, by show 0 ≤ x.att + 1 ∧ x.att + 1 ≤ 5; omega⟩) (by show 1 ≤ x.att + 1; omega)) ?_ (hop_size o now)
  show callB _ = true
  unfold callB decB
  have hd : (Tm.dec (hopS o now).data.toList).2 = 0 := by
    show (Tm.dec (Bu.hop o.dl now)).2 = 0
    unfold Bu.hop
    rw [Tm.dec_enc (Tk.sub_lo _ _) (Tk.sub_hi _ _)]
  show (decide ((Tm.dec (hopS o now).data.toList).2 = 0) && (decide (1 ≤ wrap64 (o.hp + 1) ∧ wrap64 (o.hp + 1) ≤ 16) && (timeB (Tk.clamp now) && (timeB (Tk.clamp o.un) && (decide (0 ≤ x.pr ∧ x.pr ≤ 15) && (rightB o.rn o.ri o.rs && keyB o.kn o.ki o.ks o.ka)))))) = true
  rw [hd, hw, time_ok, time_ok, hr, hk, decide_eq_true (show 1 ≤ o.hp + 1 ∧ o.hp + 1 ≤ 16 by omega), decide_eq_true (show 0 ≤ x.pr ∧ x.pr ≤ 15 from hx2.2.2.2)]
  rfl
/-- what is sent is nothing, or may be -/
theorem ok_snd {g : Cf} {me : Int} {o : Ow} {x : Cl} {now : Int} (hm : 0 ≤ me ∧ me ≤ 63) (hx : oneB x = true) (hg : g.hops ≤ 16) (hhp : 0 ≤ o.hp) (hk : keyB o.kn o.ki o.ks o.ka = true) (hr : rightB o.rn o.ri o.rs = true) :
    (snd g me o x now).2.kind = 0 ∨ (snd g me o x now).2.kind = 1 ∧ Ok (snd g me o x now).2 := by
  by_cases h : (x.st = 0 ∨ x.st = 2) ∧ x.att < 5
  · by_cases h2 : g.hops ≤ o.hp
    · rw [snd_far h h2]; exact .inl rfl
    by_cases h3 : Bu.enough o.dl now g.least = true
    · rw [snd_goes h h2 h3]; exact .inr ⟨rfl, ok_ask hm hx h h2 hg hhp hk hr⟩
    · rw [snd_late h h2 (by simpa using h3)]; exact .inl rfl
  · rw [snd_idle h]; exact .inl rfl
theorem in_mem {K : List Cl} (h : K.all inB = true) {x : Cl} (hx : x ∈ K) : oneB x = true ∧ 1 ≤ x.att := by
  have := List.all_eq_true.1 h x hx
  simpa [inB] using this
theorem ok_wait {f : Cl → Pk} {K : List Cl} (h : ∀ x ∈ K, Ok (f x)) : ∀ p ∈ waitL f K, Ok p := fun p hp => by
  obtain ⟨x, hx, rfl⟩ := List.mem_map.1 hp
  exact h x (List.mem_filter.1 hx).1

set_option maxRecDepth 100000 in
set_option maxHeartbeats 4000000 in
theorem mone_any (c : Cl) (w : World) : Calls Tryz.prog 5 #[.agg c.arr] w fun e w' => e = .returned (.bool (oneB c)) ∧ Kept w w' := by
  obtain ⟨X, hX⟩ : ∃ X, c.arr = X := ⟨_, rfl⟩
  obtain ⟨W, hW⟩ : ∃ W, w.alloc (.cells X 33) = W := ⟨_, rfl⟩
  have hb : Bl w W [(X, 33)] := hW ▸ Bl.one w X _
  have li := load_id (u := W) (b := w.heap.size) (o := 0) ((hb.cell 0 0 rfl).trans (by rw [← hX]; rfl)) ((hb.cell 0 1 rfl).trans (by rw [← hX]; rfl)) ((hb.cell 0 2 rfl).trans (by rw [← hX]; rfl)) (n := c.n) (i := c.i) (s := c.s)
  have x3 : X[3]? = some (.int .i64 c.to) := by rw [← hX]; rfl
  have x4 : X[4]? = some (.int .i64 c.pr) := by rw [← hX]; rfl
  have x5 : X[5]? = some (.int .i64 c.att) := by rw [← hX]; rfl
  obtain ⟨b0, h0⟩ : ∃ b, rightB c.n c.i c.s = b := ⟨_, rfl⟩
  obtain ⟨b1, h1⟩ : ∃ b, decide (0 ≤ c.att) = b := ⟨_, rfl⟩
  obtain ⟨b2, h2⟩ : ∃ b, decide (c.att ≤ 5) = b := ⟨_, rfl⟩
  obtain ⟨b3, h3⟩ : ∃ b, decide (0 ≤ c.to) = b := ⟨_, rfl⟩
  obtain ⟨b4, h4⟩ : ∃ b, decide (c.to ≤ 63) = b := ⟨_, rfl⟩
  obtain ⟨b5, h5⟩ : ∃ b, decide (0 ≤ c.pr) = b := ⟨_, rfl⟩
  obtain ⟨b6, h6⟩ : ∃ b, decide (c.pr ≤ 15) = b := ⟨_, rfl⟩
  have C1 := Lib.hid (show ∀ u, Calls Tryz.prog 17 #[.agg #[.int .i64 c.n, .int .i64 c.i, .int .i64 c.s]] u fun e w' => e = .returned (.bool b0) ∧ Kept u w' from fun u => Id.rright_as (Lib.hid h0))
  obtain ⟨z, hz⟩ : ∃ z, oneB c = z := ⟨_, rfl⟩
  have HZ := Lib.hid (show z = (b0 && (b1 && (b2 && (b3 && (b4 && (b5 && b6)))))) by rw [← hz, oneB, h0, h1, h2, h3, h4, h5, h6])
  have HW := Lib.hid hW
  have HB := Lib.hid hb
  rw [hz, hX]
  clear hX hW hb h0 hz
  go_enter Tryz.func5, Tryz.ntmps5
  go_upto_region 1 with fail
  rw [HW.out]
  cases b0
  · go_wp2_with (first
      | (refine load_l 26 (.tmp 3) rfl _ rfl rfl _ li ?_)
      | (go_at_call 17; refine (C1.out _).mono ?_; rintro e w1 ⟨rfl, k1⟩; have y3 : w1.cell? ⟨w.heap.size, 3, none⟩ = some (.int .i64 c.to) := ((HB.out.go k1).cell 0 3 rfl).trans x3; have y4 : w1.cell? ⟨w.heap.size, 4, none⟩ = some (.int .i64 c.pr) := ((HB.out.go k1).cell 0 4 rfl).trans x4; have y5 : w1.cell? ⟨w.heap.size, 5, none⟩ = some (.int .i64 c.att) := ((HB.out.go k1).cell 0 5 rfl).trans x5))
    go_ret
    exact ⟨ret_bool (by rw [HZ.out]; try rfl), HB.out.kept.trans k1⟩
  cases b1
  · go_wp2_with (first
      | (refine load_l 26 (.tmp 3) rfl _ rfl rfl _ li ?_)
      | (go_at_call 17; refine (C1.out _).mono ?_; rintro e w1 ⟨rfl, k1⟩; have y3 : w1.cell? ⟨w.heap.size, 3, none⟩ = some (.int .i64 c.to) := ((HB.out.go k1).cell 0 3 rfl).trans x3; have y4 : w1.cell? ⟨w.heap.size, 4, none⟩ = some (.int .i64 c.pr) := ((HB.out.go k1).cell 0 4 rfl).trans x4; have y5 : w1.cell? ⟨w.heap.size, 5, none⟩ = some (.int .i64 c.att) := ((HB.out.go k1).cell 0 5 rfl).trans x5))
    go_ret
    exact ⟨ret_bool (by rw [HZ.out]; try rfl), HB.out.kept.trans k1⟩
  cases b2
  · go_wp2_with (first
      | (refine load_l 26 (.tmp 3) rfl _ rfl rfl _ li ?_)
      | (go_at_call 17; refine (C1.out _).mono ?_; rintro e w1 ⟨rfl, k1⟩; have y3 : w1.cell? ⟨w.heap.size, 3, none⟩ = some (.int .i64 c.to) := ((HB.out.go k1).cell 0 3 rfl).trans x3; have y4 : w1.cell? ⟨w.heap.size, 4, none⟩ = some (.int .i64 c.pr) := ((HB.out.go k1).cell 0 4 rfl).trans x4; have y5 : w1.cell? ⟨w.heap.size, 5, none⟩ = some (.int .i64 c.att) := ((HB.out.go k1).cell 0 5 rfl).trans x5))
    go_ret
    exact ⟨ret_bool (by rw [HZ.out]; try rfl), HB.out.kept.trans k1⟩
  cases b3
  · go_wp2_with (first
      | (refine load_l 26 (.tmp 3) rfl _ rfl rfl _ li ?_)
      | (go_at_call 17; refine (C1.out _).mono ?_; rintro e w1 ⟨rfl, k1⟩; have y3 : w1.cell? ⟨w.heap.size, 3, none⟩ = some (.int .i64 c.to) := ((HB.out.go k1).cell 0 3 rfl).trans x3; have y4 : w1.cell? ⟨w.heap.size, 4, none⟩ = some (.int .i64 c.pr) := ((HB.out.go k1).cell 0 4 rfl).trans x4; have y5 : w1.cell? ⟨w.heap.size, 5, none⟩ = some (.int .i64 c.att) := ((HB.out.go k1).cell 0 5 rfl).trans x5))
    go_ret
    exact ⟨ret_bool (by rw [HZ.out]; try rfl), HB.out.kept.trans k1⟩
  cases b4
  · go_wp2_with (first
      | (refine load_l 26 (.tmp 3) rfl _ rfl rfl _ li ?_)
      | (go_at_call 17; refine (C1.out _).mono ?_; rintro e w1 ⟨rfl, k1⟩; have y3 : w1.cell? ⟨w.heap.size, 3, none⟩ = some (.int .i64 c.to) := ((HB.out.go k1).cell 0 3 rfl).trans x3; have y4 : w1.cell? ⟨w.heap.size, 4, none⟩ = some (.int .i64 c.pr) := ((HB.out.go k1).cell 0 4 rfl).trans x4; have y5 : w1.cell? ⟨w.heap.size, 5, none⟩ = some (.int .i64 c.att) := ((HB.out.go k1).cell 0 5 rfl).trans x5))
    go_ret
    exact ⟨ret_bool (by rw [HZ.out]; try rfl), HB.out.kept.trans k1⟩
  cases b5
  · go_wp2_with (first
      | (refine load_l 26 (.tmp 3) rfl _ rfl rfl _ li ?_)
      | (go_at_call 17; refine (C1.out _).mono ?_; rintro e w1 ⟨rfl, k1⟩; have y3 : w1.cell? ⟨w.heap.size, 3, none⟩ = some (.int .i64 c.to) := ((HB.out.go k1).cell 0 3 rfl).trans x3; have y4 : w1.cell? ⟨w.heap.size, 4, none⟩ = some (.int .i64 c.pr) := ((HB.out.go k1).cell 0 4 rfl).trans x4; have y5 : w1.cell? ⟨w.heap.size, 5, none⟩ = some (.int .i64 c.att) := ((HB.out.go k1).cell 0 5 rfl).trans x5))
    go_ret
    exact ⟨ret_bool (by rw [HZ.out]; try rfl), HB.out.kept.trans k1⟩
  cases b6
  · go_wp2_with (first
      | (refine load_l 26 (.tmp 3) rfl _ rfl rfl _ li ?_)
      | (go_at_call 17; refine (C1.out _).mono ?_; rintro e w1 ⟨rfl, k1⟩; have y3 : w1.cell? ⟨w.heap.size, 3, none⟩ = some (.int .i64 c.to) := ((HB.out.go k1).cell 0 3 rfl).trans x3; have y4 : w1.cell? ⟨w.heap.size, 4, none⟩ = some (.int .i64 c.pr) := ((HB.out.go k1).cell 0 4 rfl).trans x4; have y5 : w1.cell? ⟨w.heap.size, 5, none⟩ = some (.int .i64 c.att) := ((HB.out.go k1).cell 0 5 rfl).trans x5))
    go_ret
    exact ⟨ret_bool (by rw [HZ.out]; try rfl), HB.out.kept.trans k1⟩
  go_wp2_with (first
    | (refine load_l 26 (.tmp 3) rfl _ rfl rfl _ li ?_)
    | (go_at_call 17; refine (C1.out _).mono ?_; rintro e w1 ⟨rfl, k1⟩; have y3 : w1.cell? ⟨w.heap.size, 3, none⟩ = some (.int .i64 c.to) := ((HB.out.go k1).cell 0 3 rfl).trans x3; have y4 : w1.cell? ⟨w.heap.size, 4, none⟩ = some (.int .i64 c.pr) := ((HB.out.go k1).cell 0 4 rfl).trans x4; have y5 : w1.cell? ⟨w.heap.size, 5, none⟩ = some (.int .i64 c.att) := ((HB.out.go k1).cell 0 5 rfl).trans x5))
  go_ret
  exact ⟨ret_bool (by rw [HZ.out]; try rfl), HB.out.kept.trans k1⟩

end Go.Proofs.YtncdiggejofbbaaGreatDoor.Sn
