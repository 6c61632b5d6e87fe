/- Contracts of package wheel: Advance. -/
import Derived.Test.YtckmkagijanbdaaWh6
import Derived.StillTailTactics
import Derived.Lib.MinMax
namespace Go.Proofs.Ytckmkagijanbdaa.Wh
open Go.RowKit Tk Sl
open St (Kept)

section
variable {w wr w2 : World} {S S' : Nat → Prop} {B M : Nat} {now last to : Int} {T : Int → Option Tm} {L : List (Int × Int)} {H D : List Int} {v vd : Value} {k : Nat}

theorem Gath.base {done : Nat → Prop} (h : Gath w.drew S B M now last to T L done v wr) : Gath w S B M now last to T L done v wr := by
  obtain ⟨S', sv, ls, H, g1, g2, g3, g4, g5, g6, g7, g8, g9⟩ := h
  exact ⟨S', sv, ls, H, g1, g2, g3, g4, g5, g6, g7, ((Fr.refl S w).drew).trans g8 (fun i c => Or.inl c), g9⟩
theorem order_any {sv : Nat → Value} {ls : Nat → List Int} {n : Nat} (h : Is w S B M now last sv ls T n) (hr : Row w v D) (hn : D.Nodup) (hin : ∀ x ∈ D, inR x) (hS : ∀ g, v.ownBlock = some g → ¬ S g) (hlen : D.length ≤ 100000) :
    Calls Try.prog 50 #[.pointer (some ⟨B, 0, none⟩), v] w (orders w v T D) := by
  by_cases hne : D = []
  · subst hne
    refine order_none v ?_ hr
    rcases hr.2 with ⟨h1, _⟩ | ⟨g, cap, cur, h1, _⟩
    · exact ⟨none, 0, h1⟩
    · exact ⟨_, cap, h1⟩
  · exact order_some h hr hne hn hin hS hlen
/-- the first loop's state -/
def LoopA (w : World) (S : Nat → Prop) (B M : Nat) (to last : Int) (T : Int → Option Tm) (L : List (Int × Int)) (H : List Int) (v vd : Value) (k : Nat) (wr : World) : Prop :=
  ∃ S' sv ls T', AdvA w S B M to last T L H v vd k wr S' sv ls T'
def LoopB (w : World) (S : Nat → Prop) (B M : Nat) (to last : Int) (T : Int → Option Tm) (L : List (Int × Int)) (D : List Int) (vd : Value) (k : Nat) (wr : World) : Prop :=
  ∃ S' sv ls T', AdvB w S B M to last T L D vd k wr S' sv ls T'
theorem Row.blk {w : World} {v : Value} {l : List Int} (h : Row w v l) {i : Nat} {x : Int} (hx : l[i]? = some x) : ∃ g cap, v = .slice (some ⟨g, 0, none⟩) l.length cap ∧ w.cell? ⟨g, i, none⟩ = some (.int .i64 x) := by
  obtain ⟨g, cap, cur, e1, e2, e3, e4, e5, e6⟩ := h.full (fun c => by rw [c] at hx; simp at hx)
  refine ⟨g, cap, e1, ?_⟩
  rw [St.blk_cell e2]
  have := take_get e6 (hv_at hx)
  simpa using this

set_option maxHeartbeats 1600000 in
set_option maxRecDepth 100000 in
theorem advance_any (h : Whl w S B now last L) (a : Int) (hto : max now (clamp a) = to) : Calls Try.prog 36 #[.pointer (some ⟨B, 0, none⟩), .int .i64 a] w (advances w S B last L to) := by
  obtain ⟨M, sv, ls, T, h1, I, E, l0, l1, hL⟩ := h
  have C := Lib.hid (made_any h1)
  have c1 := h1.c1
  have hc0 := clamp_lo a
  have hc1 := clamp_hi a
  go_enter Try.func36, Try.ntmps36
  go_wp2_with (go_at_call 47; refine C.out.mono ?_; rintro e w' ⟨rfl, rfl⟩)
  refine wp_region_still_tail 6 (by kernel_rfl) (by kernel_rfl) ?_
  change wpStill _ _ (World.drew _) (fun a' => wpList _ _ _ _ a' (World.drew _)) _ _
  simp only [List.take_succ_cons, List.take_zero, List.drop_succ_cons, List.drop_zero]
  repeat (first | still_step | still_call ((clamp_any _ _).mono fun _ _ h => ⟨h.1, h.2.symm⟩))
  refine wpStill_nil ?_
  have B1 := begun_any (to := to) (h1.kept (Kept.refl w).drew) I E hL I.now0 I.now1 (by omega) (by have := I.now1; omega)
  have B2 := B1.mono (fun e w' (hp : begunPost w.drew S B M now last to T L e w') => show ∃ v, e = .returned v ∧ ∃ S' sv ls H, Took now to last T L H ∧ AdvA w S B M to last T L H v (.slice none 0 0) 0 (w'.setCell ⟨B, 1, none⟩ (.int .i64 to)) S' sv ls T ∧ w'.cell? ⟨B, 1, none⟩ = some (.int .i64 now) ∧ w'.frozen? ⟨B, 1, none⟩ = false by
    obtain ⟨v, he, hG⟩ := hp
    have hc : w'.cell? ⟨B, 1, none⟩ = some (.int .i64 now) ∧ w'.frozen? ⟨B, 1, none⟩ = false := by obtain ⟨S', sv, ls, H, g1, _⟩ := hG; exact ⟨g1.c1, g1.free 1⟩
    obtain ⟨S', sv, ls, H, k1, k2⟩ := hG.base.took E (by omega) (by have := I.now1; omega)
    exact ⟨v, he, S', sv, ls, H, k1, k2, hc⟩)
  have B2 := Lib.hid B2
  have LE := Lib.hid (And.intro l0 (And.intro l1 hL))
  have HE := Lib.hid E
  have hto1 : to ≤ 1125899906842624 := by have := I.now1; omega
  clear B1 h1 I E c1 C
  go_wp2_with fail
  refine B2.out.mono ?_
  rintro e w1 ⟨v, rfl, S1, sv1, ls1, H, HK, HA, hc1', hf1'⟩
  have HA := Lib.hid HA
  have hlen : ∀ ty u, (Builtin.len_ #[67] ty #[v]).run Try.prog u = .ok (.int .i64 (H.length : Int)) u := fun ty u => HA.out.rv.len ty u
  clear B2 hto
  go_wp2_with fail
  have hHb : H.length ≤ 4096 := Nat.le_trans HK.len LE.out.2.2
  go_loopw [31, 6] (fun i d wr => ∃ k : Nat, k ≤ H.length ∧ i = .int .i64 (k : Int) ∧ LoopA w S B M to last T L H v d k wr) (fun i _ _ => H.length - (intOf i).toNat)
  case atStart => exact ⟨0, Nat.zero_le _, rfl, _, _, _, _, HA.out⟩
  case round =>
    obtain ⟨k, hk, rfl, S', sv', ls', T', A⟩ := hrel
    by_cases hlt : k < H.length
    · obtain ⟨x, hx⟩ : ∃ x, H[k]? = some x := ⟨_, List.getElem?_eq_getElem hlt⟩
      have hxm : x ∈ H := List.mem_of_getElem? hx
      obtain ⟨t, ht⟩ : ∃ t, T' x = some t := by
        have h1 := A.same x
        cases e : T' x with
        | some t => exact ⟨t, rfl⟩
        | none => rw [e] at h1; cases e2 : T x with
          | none => exact absurd e2 (HK.has x hxm)
          | some u => rw [e2] at h1; cases h1
      have hxr : inR x := by have := HK.inr x hxm; exact inR_of (by omega) (by have := LE.out.2.1; omega)
      have htat : tat T x = t.at_ := (tat_same A.same x).symm.trans (tat_some ht)
      obtain ⟨ta, hta⟩ : ∃ ta, t.at_ = ta := ⟨_, rfl⟩
      obtain ⟨g, cap, hv1, hcell⟩ := A.rv.blk hx
      have c3 := A.is.c3
      have hl := A.is.map.look hxr
      rw [ht] at hl
      replace hl : (Instr.lookup 92 (.map (some M)) (.int .i64 x) false).run Try.prog _ = .ok (.agg #[.int .i64 t.at_, .int .i64 (t.list : Int), .int .i64 (t.place : Int)]) _ := hl
      rw [hta] at hl
      have q6 := field_0 ta t.list t.place
      obtain ⟨b1, hb1⟩ : ∃ b : Int, (t.list : Int) = b := ⟨_, rfl⟩
      obtain ⟨b2, hb2⟩ : ∃ b : Int, (t.place : Int) = b := ⟨_, rfl⟩
      rw [hb1, hb2] at hl q6
      by_cases hc : to < ta
      · obtain ⟨l, hl1, hl2⟩ := num_nat to ta
        have hcount : (ls' l).length ≤ L.length := (HE.out.congr A.same).count (A.inv.list_nodup hl2) (fun y hy => by obtain ⟨_, b, p, hp, _⟩ := A.inv.has hl2 hy; rw [hp]; simp)
        have C := lay_any A.is (x := x) (a := ta) hxr (by have := LE.out.2.2; omega) hl1 hl2 (by have := LE.out.2.2; omega)
        rw [ht] at C
        have C2 := Lib.hid (C.mono (fun e w2 hp => show e = .returned (.tuple #[]) ∧ LoopA w S B M to last T L H v _ (k + 1) w2 from ⟨hp.1, by
          obtain ⟨S2, sv2, d⟩ := A.laid HK.nodup HE.out LE.out.2.2 hx (by rw [htat, hta]; exact hc) ht hl2 (by rw [hta]; exact hl1) (by rw [hta]; exact hp.2)
          exact ⟨S2, sv2, _, _, d⟩⟩))
        clear C A hb1 hb2 hta htat ht hx hxm hl1 hcount HA
        subst hv1
        go_wp2_with fail
        refine C2.out.mono ?_
        rintro e w2 ⟨rfl, hA2⟩
        go_wp2_with fail
        go_roundw
        case rel => exact ⟨k + 1, hlt, by go_num, hA2⟩
        case measure => simp [intOf]; omega
      · have FIN : ∀ vd2 w2, Row w2 vd2 (dueOf T to (H.take k) ++ [x]) → ∀ W, Kept _ W → W.grownBy w2 _ → (_ ∨ _) → LoopA w S B M to last T L H v vd2 (k + 1) w2 := fun vd2 w2 r1 W rw1 r2 r3 => ⟨_, _, _, _, A.dued hx (by rw [htat, hta]; omega) rw1 r1 r2 r3⟩
        have FIN := Lib.hid FIN
        have hrd := A.rd
        have hdl : (dueOf T to (H.take k)).length ≤ 1000000 := by
          have h1 : (dueOf T to (H.take k)).length ≤ (H.take k).length := List.length_filter_le _ _
          have h2 : (H.take k).length ≤ H.length := by rw [List.length_take]; omega
          have := HK.len; have := LE.out.2.2; omega
        clear A hb1 hb2 hta htat ht hx hxm HA
        subst hv1
        go_wp2_with (at_builtin; refine wpList_append_one _ rfl (.tmp 49) (.tmp 51) rfl _ _ x rfl rfl hrd hdl ?_; intro v3 w3 hr3 hg3 hb3)
        go_roundw
        case rel => exact ⟨k + 1, hlt, by go_num, FIN.out _ _ hr3 _ (Kept.one _ _) hg3 hb3⟩
        case measure => simp [intOf]; omega
    · have hkl : k = H.length := by omega
      subst hkl
      have hHt : H.take H.length = H := List.take_length
      have hrd := A.rd
      rw [hHt] at hrd
      have hDn : (dueOf T to H).Nodup := HK.nodup.filter _
      have hDm : ∀ x ∈ dueOf T to H, x ∈ H := fun x hx => (List.mem_filter.1 hx).1
      have hDl : (dueOf T to H).length ≤ H.length := List.length_filter_le _ _
      have hIn : ∀ x ∈ H, inR x := fun x hx => by have := HK.inr x hx; exact inR_of (by omega) (by have := LE.out.2.1; omega)
      have C := order_any A.is hrd hDn (fun x hx => hIn x (hDm x hx)) (fun g e => (A.bd g e).2) (by omega)
      have hT' : ∀ x ∈ H, (T' x).isSome = true := fun x hx => by
        have h1 := A.same x
        cases e : T' x with
        | some t => rfl
        | none => rw [e] at h1; cases e2 : T x with
          | none => exact absurd e2 (HK.has x hx)
          | some u => rw [e2] at h1; cases h1
      have C2 := Lib.hid (C.mono (fun e w3 (hp : orders _ _ T' (dueOf T to H) e w3) => show e = .returned (.tuple #[]) ∧ ∃ D', D'.Pairwise (ltH T') ∧ (∀ x, x ∈ D' ↔ x ∈ dueOf T to H) ∧ D'.length = (dueOf T to H).length ∧ AdvB w S B M to last T' L D' _ 0 w3 S' sv' ls' T' from by
        obtain ⟨he, D', d1, d2, d3, d4, d5⟩ := hp
        exact ⟨he, D', d1, d2, d3, A.ordered d2 d4 d5⟩))
      have HS := Lib.hid A.same
      have HDm := Lib.hid hDm
      have HIn := Lib.hid hIn
      have HT' := Lib.hid hT'
      clear C A hrd hDm hIn hT' hHt hlt HA
      go_wp2_with fail
      refine C2.out.mono ?_
      rintro e w3 ⟨rfl, D', d1, d2, d3, A⟩
      have HD := Lib.hid (And.intro d1 d2)
      have hDn' : D'.Nodup := by
        rw [List.nodup_iff_pairwise_ne]; exact d1.imp fun h e => by subst e; exact ltH_irr _ _ h
      have hlen2 : ∀ ty u, (Builtin.len_ #[67] ty #[_]).run Try.prog u = .ok (.int .i64 (D'.length : Int)) u := fun ty u => A.rd.len ty u
      have hDb : D'.length ≤ 4096 := by omega
      have HA := Lib.hid A
      clear C2 d1 d2 d3 A hDn hDl
      go_wp2_with fail
      go_loopw [59] (fun i wr => ∃ k : Nat, k ≤ D'.length ∧ i = .int .i64 (k : Int) ∧ LoopB w S B M to last T' L D' _ k wr) (fun i _ => D'.length - (intOf i).toNat)
      case atStart => exact ⟨0, Nat.zero_le _, rfl, _, _, _, _, HA.out⟩
      case round =>
        obtain ⟨k, hk, rfl, S2, sv2, ls2, T2, A⟩ := hrel
        by_cases hlt : k < D'.length
        · obtain ⟨x, hx⟩ : ∃ x, D'[k]? = some x := ⟨_, List.getElem?_eq_getElem hlt⟩
          have hxm : x ∈ H := HDm.out x ((HD.out.2 x).1 (List.mem_of_getElem? hx))
          have hsome : (T2 x).isSome = true := by
            have h1 := A.same x
            rw [if_neg (fun c => by
              have := (List.nodup_append.1 (by rw [List.take_append_drop k D']; exact hDn' : (D'.take k ++ D'.drop k).Nodup)).2.2
              exact this x c x (by rw [drop_at hx]; simp) rfl)] at h1
            have h2 := HT'.out x hxm
            cases e : T2 x with
            | some t => rfl
            | none => rw [e] at h1; cases e2 : T' x with
              | none => rw [e2] at h2; cases h2
              | some u => rw [e2] at h1; cases h1
          obtain ⟨w4, hrun, hm, ht⟩ := A.is.map.drop (HIn.out x hxm) 0
          rw [if_pos hsome] at hm
          have hA2 := Lib.hid (A.gone hDn' hx hm ht)
          obtain ⟨g, cap, hv1, hcell⟩ := A.rd.blk hx
          have c3 := A.is.c3
          clear hm ht A hx hxm hsome HA
          subst hv1
          go_wp2
          go_roundw
          case rel => exact ⟨k + 1, hlt, by go_num, _, _, _, _, hA2.out⟩
          case measure => simp [intOf]; omega
        · have hkl : k = D'.length := by omega
          subst hkl
          have FIN := Lib.hid (A.done HK HE.out HS.out LE.out HD.out.1 HD.out.2)
          clear A HA hlt
          go_wp2
          go_ret
          exact FIN.out
end

end Go.Proofs.Ytckmkagijanbdaa.Wh
