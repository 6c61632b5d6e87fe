/- What the laws of layer 17 come to; the chapter's example. -/
import Derived.Test.YtnloliedmdjakaaAd4
import Derived.Test.YtnloliedmdjakaaAd6
namespace Go.Proofs.Ytnloliedmdjakaa.Ad
open Go.RowKit Go.Sort St PkM IdM
set_option linter.unusedVariables false

section
variable {c : Cf} {p : Pk} {r : Ro}
theorem dlP_lo (p : Pk) : 0 ≤ dlP p := by
  unfold dlP Bu.dl
  split
  · exact Tk.add_lo _ _
  · exact Int.le_refl 0
theorem dlP_hi (p : Pk) : dlP p ≤ 1125899906842624 := by
  unfold dlP Bu.dl
  split
  · exact Tk.add_hi _ _
  · show (0 : Int) ≤ _; omega
theorem ahead {n l : Int} (h : Bu.enough (dlP p) n l = true) : Tk.clamp n < dlP p := by
  unfold Bu.enough at h
  have h1 := (of_decide_eq_true h).1
  have h2 := Tk.clamp_id (dlP p) (dlP_lo p) (dlP_hi p)
  unfold Tk.sub at h1
  rw [h2] at h1
  omega
/-- what comes later has less time -/
theorem later_less {d n n' l : Int} (h : Bu.enough d n l = false) (hn : n ≤ n') : Bu.enough d n' l = false := by
  unfold Bu.enough at h ⊢
  have h1 := of_decide_eq_false h
  have h2 : Tk.clamp n ≤ Tk.clamp n' := by unfold Tk.clamp; omega
  refine decide_eq_false (fun h3 => h1 ?_)
  unfold Tk.sub at h3 ⊢
  omega
theorem clamp_mono {n n' : Int} (hn : n ≤ n') : Tk.clamp n ≤ Tk.clamp n' := by unfold Tk.clamp; omega

/-- the ways that a call goes -/
theorem chk_ways (c : Cf) (p : Pk) (r : Ro) :
    chk c p r = (3, 0) ∨ chk c p r = (1, 8) ∨ chk c p r = (1, 12) ∨
    (chk c p r = (1, 4) ∧ ∀ n, r.now ≤ n → (chk c p { r with now := n }).1 = 1) ∨
    (chk c p r = (1, 1) ∧ ∀ n, r.now ≤ n → (chk c p { r with now := n }).1 = 1) ∨
    chk c p r = (2, c.base) ∨
    (chk c p r = (0, 0) ∧ r.seen = false ∧ p.hop ≤ c.hops ∧ Tk.clamp r.now < dlP p ∧ Tk.clamp r.now < Tk.clamp p.til ∧ r.running < c.cap ∧ p.prog < r.programs) := by
  rcases Bool.eq_false_or_eq_true r.seen with hs | hs
  · exact .inl (chk_seen hs)
  by_cases h1 : c.hops < p.hop
  · exact .inr (.inl (chk_hop hs h1))
  by_cases h2 : p.prog < 0 ∨ r.programs ≤ p.prog
  · exact .inr (.inr (.inl (chk_prog hs h1 h2)))
  have h12 := And.intro h1 h2
  rcases Bool.eq_false_or_eq_true (Bu.enough (dlP p) r.now c.least) with hq | hq
  rotate_left
  · refine .inr (.inr (.inr (.inl ⟨chk_late hs h12 hq, fun n hn => ?_⟩)))
    rw [chk_late (r := { r with now := n }) hs h12 (later_less hq hn)]
  by_cases h4 : Tk.clamp p.til ≤ Tk.clamp r.now
  · refine .inr (.inr (.inr (.inr (.inl ⟨chk_over hs h12 hq h4, fun n hn => ?_⟩))))
    have hc := clamp_mono hn
    rcases Bool.eq_false_or_eq_true (Bu.enough (dlP p) n c.least) with hq2 | hq2
    · rw [chk_over (r := { r with now := n }) hs h12 hq2 (show Tk.clamp p.til ≤ Tk.clamp n by omega)]
    · rw [chk_late (r := { r with now := n }) hs h12 hq2]
  by_cases h5 : c.cap ≤ r.running
  · exact .inr (.inr (.inr (.inr (.inr (.inl (chk_full hs h12 hq h4 h5))))))
  · exact .inr (.inr (.inr (.inr (.inr (.inr ⟨chk_start hs h12 hq h4 h5, hs, by omega, ahead hq, by omega, by omega, by omega⟩)))))
end

/-! the example -/
def exC : Cf := ⟨0, 0, 0, 0, 0, 1, 1, 0, 0, 0, 0, 0, 0, none, 0, 0⟩
def exP (s : ByteArray) : Pk := { Pk.none with stamp := 5, tm := s, til := 99 }
def exR : Ro := ⟨10, 0, 1, false⟩
theorem ex_1 : chk exC (exP ⟨#[52, 117]⟩) exR = (1, 4) := by decide +kernel
theorem ex_2 : chk exC (exP ⟨#[54, 117]⟩) exR = (0, 0) := by decide +kernel

set_option maxRecDepth 100000 in
set_option maxHeartbeats 4000000 in
theorem awake_any (w : World) : Calls Try.prog 6 #[] w fun e w' => e = .returned (.bool true) ∧ Kept w w' := by
  have c1 := check_any exC (exP ⟨#[52, 117]⟩) exR
  have c2 := check_any exC (exP ⟨#[54, 117]⟩) exR
  rw [ex_1] at c1
  rw [ex_2] at c2
  have C1 := Lib.hid c1
  have C2 := Lib.hid c2
  clear c1 c2
  go_enter Try.func6, Try.ntmps6
  go_upto_region 2 with (go_at_call 7; refine (C1.out _).mono ?_; rintro e u1 ⟨rfl, hk1⟩)
  go_upto_region 3 with (go_at_call 7; refine (C2.out _).mono ?_; rintro e u2 ⟨rfl, hk2⟩)
  go_wp2_with fail
  go_ret
  exact ⟨rfl, hk1.trans hk2⟩

end Go.Proofs.Ytnloliedmdjakaa.Ad
