/- Contracts of package wheel, over the times that a wheel has: Len, Now, Add, Time. -/
import Derived.Test.YtckmkagijanbdaaWh
import Derived.StillTailTactics
import Derived.IntWalk
namespace Go.Proofs.Ytckmkagijanbdaa.Wh
open Go.RowKit Tk Sl
open St (Kept)

/-- A WHEEL in block B, at now, that has the times L; last: its last handle; S: the blocks that it has -/
def Whl (w : World) (S : Nat → Prop) (B : Nat) (now last : Int) (L : List (Int × Int)) : Prop :=
  ∃ M sv ls T, Is w S B M now last sv ls T L.length ∧ Inv now last ls T (fun _ => False) ∧ Ent L T ∧ 0 ≤ last ∧ last ≤ 1152921504606846976 ∧ L.length ≤ 4096
/-- what is a wheel when something was done with it -/
def Went (w : World) (S : Nat → Prop) (B : Nat) (now last : Int) (L : List (Int × Int)) (w' : World) : Prop :=
  ∃ S', Whl w' S' B now last L ∧ (∀ k, S' k → S k ∨ w.heap.size ≤ k) ∧ Fr S w w'
/-- the time of a handle -/
def tim (h : Int) (L : List (Int × Int)) : Option Int := (L.find? fun e => decide (e.2 = h)).map Prod.fst

theorem Ent.tim {L : List (Int × Int)} {T : Int → Option Tm} (E : Ent L T) (h : Int) : tim h L = (T h).map Tm.at_ := by
  unfold Wh.tim
  cases ht : T h with
  | none =>
    have : L.find? (fun e => decide (e.2 = h)) = none := by
      rw [List.find?_eq_none]
      intro e he c
      have := (E.handle_iff e.2).1 (List.mem_map_of_mem he)
      rw [of_decide_eq_true c] at this; exact this ht
    rw [this]; rfl
  | some t =>
    have hm := (E.mem t.at_ h).2 ⟨t, ht, rfl⟩
    cases hf : L.find? (fun e => decide (e.2 = h)) with
    | none => rw [List.find?_eq_none] at hf; exact absurd (by simp) (hf _ hm)
    | some e =>
      have he := List.mem_of_find?_eq_some hf
      have hp := List.find?_some hf
      obtain ⟨a, x⟩ := e
      simp only [decide_eq_true_eq] at hp
      subst hp
      obtain ⟨u, hu, h2⟩ := (E.mem a x).1 he
      rw [ht] at hu; obtain rfl := Option.some.inj hu
      simp [h2]

section
variable {w w' : World} {S : Nat → Prop} {B : Nat} {now last : Int} {L : List (Int × Int)}

theorem Whl.stay (h : Whl w S B now last L) (hz : w.heap.size ≤ w'.heap.size) (hk : ∀ k, S k → k < w.heap.size → w'.heap[k]? = w.heap[k]?) : Whl w' S B now last L := by
  obtain ⟨M, sv, ls, T, h1, r⟩ := h; exact ⟨M, sv, ls, T, h1.stay hz hk, r⟩
theorem Whl.kept (h : Whl w S B now last L) (hk : Kept w w') : Whl w' S B now last L := h.stay hk.size fun k _ hl => hk.block k hl
theorem Whl.fr (h : Whl w S B now last L) {S' : Nat → Prop} (hk : Fr S' w w') (hn : ∀ k, S k → ¬ S' k) : Whl w' S B now last L := h.stay hk.size fun k hs hl => hk.block k hl (hn k hs)
theorem Whl.lt (h : Whl w S B now last L) : ∀ k, S k → k < w.heap.size := by
  obtain ⟨M, sv, ls, T, h1, _⟩ := h; exact h1.sLt
theorem Whl.bounds (h : Whl w S B now last L) : 0 ≤ now ∧ now ≤ 1125899906842624 ∧ 0 ≤ last ∧ L.length ≤ 4096 := by
  obtain ⟨M, sv, ls, T, h1, I, E, l0, l1, hn⟩ := h; exact ⟨I.now0, I.now1, l0, hn⟩
theorem Whl.same (h : Whl w S B now last L) (hk : Kept w w') : Went w S B now last L w' := ⟨S, h.kept hk, fun _ c => Or.inl c, Fr.kept hk⟩
theorem Went.drew (h : Went w S B now last L w') : Went w S B now last L w'.drew := by
  obtain ⟨S', h1, h2, h3⟩ := h; exact ⟨S', h1.kept (Kept.refl _).drew, h2, h3.drew⟩

theorem ret_pair {a b c d : Value} (h : a = c) (h2 : b = d) : Ending.returned (.tuple #[a, b]) = .returned (.tuple #[c, d]) := by rw [h, h2]




/-- what Add does: the wheel is full -/
def addsNo (w : World) : Ending → World → Prop := fun e w' => e = .returned (.tuple #[.int .i64 0, .int .i64 6]) ∧ w = w'
set_option maxHeartbeats 800000 in
set_option maxRecDepth 100000 in
theorem add_full (h : Whl w S B now last L) (hf : L.length = 4096) (a : Int) : Calls Try.prog 33 #[.pointer (some ⟨B, 0, none⟩), .int .i64 a] w (addsNo w) := by
  obtain ⟨M, sv, ls, T, h1, _⟩ := h
  have c3 := h1.c3
  have C := Lib.hid (made_any h1)
  have hl := fun ty => h1.map.len ty
  rw [hf] at hl
  have hl' : ∀ ty, (Builtin.len_ #[92] ty #[.map (some M)]).run Try.prog w = .ok (.int .i64 4096) w := hl
  clear h1 hf hl
  go_enter Try.func33, Try.ntmps33
  go_wp2_with (go_at_call 47; refine C.out.mono ?_; rintro e w' ⟨rfl, rfl⟩)
  go_ret2
  exact ⟨rfl, rfl⟩

/-- what Add does: it lays a time -/
def addsYes (w : World) (S : Nat → Prop) (B : Nat) (now last : Int) (L : List (Int × Int)) (a : Int) : Ending → World → Prop := fun e w' =>
  e = .returned (.tuple #[.int .i64 (last + 1), .int .i64 0]) ∧ Went w S B now (last + 1) (ins (clamp a) (last + 1) L) w'
set_option maxHeartbeats 800000 in
set_option maxRecDepth 100000 in
theorem add_room (h : Whl w S B now last L) (hf : L.length < 4096) (hlast : last < 1152921504606846976) (a : Int) : Calls Try.prog 33 #[.pointer (some ⟨B, 0, none⟩), .int .i64 a] w (addsYes w S B now last L a) := by
  obtain ⟨M, sv, ls, T, h1, I, E, l0, l1, hn⟩ := h
  obtain ⟨l, hl, hl2⟩ := num_nat now (clamp a)
  have hnone : T (last + 1) = none := by
    cases ht : T (last + 1) with
    | none => rfl
    | some t => have := (I.nums _ t ht).2.1; omega
  have hmax : ∀ x, T x ≠ none → x < last + 1 := fun x hx => by
    cases ht : T x with
    | none => exact absurd ht hx
    | some t => have := (I.nums x t ht).2.1; omega
  have hcount : (ls l).length ≤ L.length := E.count (I.list_nodup hl2) (fun x hx => by obtain ⟨_, b, p, hp, _⟩ := I.has hl2 hx; rw [hp]; simp)
  have h2 := h1.set2 (last + 1)
  have F2 : Fr S w (w.setCell ⟨B, 2, none⟩ (.int .i64 (last + 1))) := (Fr.refl S w).setCell (Or.inl h1.sB) _
  obtain ⟨w2, hw2⟩ : ∃ w2, w.setCell ⟨B, 2, none⟩ (.int .i64 (last + 1)) = w2 := ⟨_, rfl⟩
  rw [hw2] at h2 F2
  have hin : inR (last + 1) := inR_of (by omega) (by omega)
  have C4 := Lib.hid (lay_any (h2.kept (Kept.refl w2).drew) (x := last + 1) (a := clamp a) hin (by omega) hl hl2 (by omega))
  have fin : ∀ w3, Did w2.drew S B M now (last + 1) (upd ls l (ls l ++ [last + 1])) (upd T (last + 1) (some ⟨clamp a, l, (ls l).length⟩)) (if (T (last + 1)).isSome then L.length else L.length + 1) w3 →
      Went w S B now (last + 1) (ins (clamp a) (last + 1) L) w3 := fun w3 hd => by
    obtain ⟨S', sv', d1, d2, d3⟩ := hd
    rw [hnone] at d1
    have I' := I.lay (last' := last + 1) hl2 hl (by omega) (Int.le_refl _) (by omega) (clamp_lo a) (clamp_hi a) (Or.inr hnone) (by omega)
    have hsz := F2.size
    have hsz2 : w2.drew.heap.size = w2.heap.size := rfl
    refine ⟨S', ⟨M, sv', _, _, by rw [ins_length]; exact d1, I'.congr (fun x => by simp), E.ins hnone rfl hmax, by omega, by omega, by rw [ins_length]; omega⟩, fun k hk => ?_, F2.drew.trans d3 (fun i c => Or.inl c)⟩
    rcases d2 k hk with c | c
    · exact Or.inl c
    · exact Or.inr (by omega)
  have cl : ∀ w3 S' sv' ls' T' n', Is w3 S' B M now (last + 1) sv' ls' T' n' → w3.cell? ⟨B, 2, none⟩ = some (.int .i64 (last + 1)) := fun w3 S' sv' ls' T' n' h => h.c2
  have c2 := h1.c2
  have c3 := h1.c3
  have f2 := h1.free 2
  have k2 := h2.c2
  have C := Lib.hid (made_any h1)
  have hlen := fun ty => h1.map.len ty
  obtain ⟨q, hq⟩ : ∃ q : Int, (L.length : Int) = q := ⟨_, rfl⟩
  rw [hq] at hlen
  have hq2 : q < 4096 := by omega
  have hw' : IntKind.i64.wrap (last + 1) = last + 1 := IntWalk.i64_in _ (by omega)
  have FIN := Lib.hid fin
  have HW := Lib.hid hw2
  have CL := Lib.hid cl
  clear fin cl hcount hmax hnone h1 h2 I E hl hw2 hq F2 hw'
  go_enter Try.func33, Try.ntmps33
  go_wp2_with (go_at_call 47; refine C.out.mono ?_; rintro e w' ⟨rfl, rfl⟩)
  rw [HW.out]
  refine wp_region_still_tail 7 (by kernel_rfl) (by kernel_rfl) ?_
  change wpStill _ _ (World.drew _) (fun a' => wpList _ _ _ _ a' (World.drew _)) _ _
  simp only [List.take_succ_cons, List.take_zero, List.drop_succ_cons, List.drop_zero]
  repeat (first | still_step | still_call ((clamp_any _ _).mono fun _ _ h => ⟨h.1, h.2.symm⟩))
  refine wpStill_nil ?_
  go_wp2_with fail
  refine C4.out.mono ?_
  rintro e w3 ⟨rfl, hd⟩
  have hW := Lib.hid (FIN.out w3 hd)
  obtain ⟨S', sv', d1, _, _⟩ := hd
  have k3 := CL.out _ _ _ _ _ _ d1
  clear d1
  go_wp2_with fail
  go_ret2
  exact ⟨rfl, hW.out⟩

/-- what the map tells of a handle, as three numbers -/
theorem tmv_three (o : Option Tm) : ∃ a b c : Int, tmv o = .agg #[.int .i64 a, .int .i64 b, .int .i64 c] ∧ a = (o.map Tm.at_).getD 0 := by
  cases o with
  | none => exact ⟨0, 0, 0, rfl, rfl⟩
  | some t => exact ⟨t.at_, t.list, t.place, rfl, rfl⟩


end

end Go.Proofs.Ytckmkagijanbdaa.Wh
