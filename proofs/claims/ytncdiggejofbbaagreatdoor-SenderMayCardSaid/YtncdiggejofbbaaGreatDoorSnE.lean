/- Plain: what owners send, what becomes of a call, what a root ends with. No function of the program is spoken of here. Calls held against each other; the next attempt, by both; two rows handed back. -/
import Derived.Test.YtncdiggejofbbaaGreatDoorPkE
import Derived.Test.YtncdiggejofbbaaGreatDoorCl
import Derived.Test.YtncdiggejofbbaaGreatDoorOw2
import Derived.Test.YtncdiggejofbbaaGreatDoorBuE
import Derived.Test.YtncdiggejofbbaaGreatDoorBu
import Derived.Test.YtncdiggejofbbaaGreatDoorOwS
namespace Go.Proofs.YtncdiggejofbbaaGreatDoor.Sn
open Go.RowKit Go.Sort St PkM Ad Po
open Go.Proofs.YtncdiggejofbbaaGreatDoor.Cl
open Go.Proofs.YtncdiggejofbbaaGreatDoor.Ow
set_option linter.unusedVariables false

/-- to where a call's attempt goes -/
def onw (k me : Int) (x : Cl) : Pk := ⟨k, me, x.to, x.n, x.i, x.s, x.att, 0, 0, ⟨#[]⟩, 0, 0, 0, 0, 0, 0, 0, 0, 0, 0, 0, false, 0⟩
/-- to where an attempt came from -/
def bck (k me : Int) (o : Ow) : Pk := ⟨k, me, o.fr, o.kn, o.ki, o.ks, o.ka, 0, 0, ⟨#[]⟩, 0, 0, 0, 0, 0, 0, 0, 0, 0, 0, 0, false, 0⟩
/-- an answer -/
def rpl (me : Int) (o : Ow) (n v : Int) : Pk := { bck 2 me o with code := n, value := v }
def mre (me : Int) (o : Ow) : Pk := { bck 2 me o with more := true }
def rfs (me : Int) (o : Ow) (d : Int) : Pk := { bck 5 me o with delay := d }
/-- the packet that asks for a call's attempt; s: what is left, as text -/
def ask (me : Int) (o : Ow) (x : Cl) (now : Int) (s : ByteArray) : Pk :=
  ⟨1, me, x.to, x.n, x.i, x.s, x.att, wrap64 (o.hp + 1), Tk.clamp now, s, Tk.clamp o.un, x.pr, o.rn, o.ri, o.rs, o.kn, o.ki, o.ks, o.ka, 0, 0, false, 0⟩
/-- what is left, as text -/
def hopS (o : Ow) (now : Int) : ByteArray := Bu.str (Bu.hop o.dl now)

/-- the next attempt (its tries are counted as the machine counts) -/
def beg (c : Cl) (n : Int) : Cl := if (c.st = 0 ∨ c.st = 2) ∧ c.att < 5 then { c with att := c.att + 1, tr := wrap64 (c.tr + 1), st := 1, se := Tk.clamp n, re := 0 } else c
theorem beg_on {c : Cl} (n : Int) (h : c.st = 0 ∨ c.st = 2) (h2 : c.att < 5) : beg c n = { c with att := c.att + 1, tr := wrap64 (c.tr + 1), st := 1, se := Tk.clamp n, re := 0 } := by unfold beg; rw [if_pos ⟨h, h2⟩]
theorem beg_no {c : Cl} (n : Int) (h : ¬ ((c.st = 0 ∨ c.st = 2) ∧ c.att < 5)) : beg c n = c := by unfold beg; rw [if_neg h]

def sameC (p q : Cl) : Bool :=
  p.n == q.n && (p.i == q.i && (p.s == q.s && (p.to == q.to && (p.pr == q.pr && (p.att == q.att && (p.st == q.st && (p.se == q.se && (p.re == q.re && (p.co == q.co && (p.cd == q.cd && (p.va == q.va && (p.tr == q.tr))))))))))))
theorem sameC_iff {p q : Cl} : sameC p q = true ↔ p = q := by
  constructor
  · intro h
    obtain ⟨⟩ := p
    obtain ⟨⟩ := q
    simp only [sameC, Bool.and_eq_true, beq_iff_eq] at h
    simp only [Cl.mk.injEq]
    exact h
  · rintro rfl; simp [sameC]
theorem sameC_self (p : Cl) : sameC p p = true := sameC_iff.2 rfl
theorem beg_same {c : Cl} {n : Int} (h : (c.st = 0 ∨ c.st = 2) ∧ c.att < 5) : sameC (beg c n) c = false := by
  rw [Bool.eq_false_iff]
  intro e
  have := congrArg Cl.st (sameC_iff.1 e)
  rw [beg_on n h.1 h.2] at this
  simp at this
  omega
theorem beg_same_no {c : Cl} {n : Int} (h : ¬ ((c.st = 0 ∨ c.st = 2) ∧ c.att < 5)) : sameC (beg c n) c = true := by rw [beg_no n h]; exact sameC_self c

/-- a call is sent -/
def snd (g : Cf) (me : Int) (o : Ow) (x : Cl) (now : Int) : Cl × Pk :=
  if (x.st = 0 ∨ x.st = 2) ∧ x.att < 5 then
    if g.hops ≤ o.hp then (ends x 8, Pk.none)
    else if Bu.enough o.dl now g.least = false then (ends x 4, Pk.none)
    else (beg x now, ask me o (beg x now) now (hopS o now))
  else (x, Pk.none)
section
variable {g : Cf} {me : Int} {o : Ow} {x : Cl} {now : Int}
theorem snd_idle (h : ¬ ((x.st = 0 ∨ x.st = 2) ∧ x.att < 5)) : snd g me o x now = (x, Pk.none) := by unfold snd; rw [if_neg h]
theorem snd_far (h : (x.st = 0 ∨ x.st = 2) ∧ x.att < 5) (h2 : g.hops ≤ o.hp) : snd g me o x now = (ends x 8, Pk.none) := by unfold snd; rw [if_pos h, if_pos h2]
theorem snd_late (h : (x.st = 0 ∨ x.st = 2) ∧ x.att < 5) (h2 : ¬ g.hops ≤ o.hp) (h3 : Bu.enough o.dl now g.least = false) : snd g me o x now = (ends x 4, Pk.none) := by unfold snd; rw [if_pos h, if_neg h2, if_pos h3]
theorem snd_goes (h : (x.st = 0 ∨ x.st = 2) ∧ x.att < 5) (h2 : ¬ g.hops ≤ o.hp) (h3 : Bu.enough o.dl now g.least = true) : snd g me o x now = (beg x now, ask me o (beg x now) now (hopS o now)) := by unfold snd; rw [if_pos h, if_neg h2, if_neg (by rw [h3]; decide)]
end

/-- an attempt of a call failed -/
def fld (g : Cf) (me : Int) (o : Ow) (x : Cl) (now hv n push : Int) : Cl × Int :=
  if x.st = 1 then ((bad x g ⟨n, 0, false, push, Th.bad hv g.tokens, now, o.dl, Bo.jit me x.s x.att⟩).1, Th.bad hv g.tokens) else (x, hv)

/-- what a root ends with -/
def stl (o : Ow) (K : List Cl) (now : Int) : Int × Int × Bool :=
  if o.ka = 0 ∧ ¬ K = [] ∧ openL K = 0 then
    if worstL K = 0 then (0, sumL K 0, true)
    else if worstL K = 1 then (13, 0, true)
    else if worstL K = 4 ∧ 0 < Tk.sub o.dl now then (0, 0, false)
    else (worstL K, 0, true)
  else (0, 0, false)

end Go.Proofs.YtncdiggejofbbaaGreatDoor.Sn

namespace Go.Proofs.YtncdiggejofbbaaGreatDoor.Sn
open Go.RowKit Go.Sort St PkM Ad Po Blk Eqs
open Go.Proofs.YtncdiggejofbbaaGreatDoor.Cl
open Go.Proofs.YtncdiggejofbbaaGreatDoor.Ow
set_option linter.unusedVariables false

set_option maxRecDepth 100000 in
theorem eq_cl (p q : Cl) (w : World) : (binOp .eql 41 (.agg p.arr) (.agg q.arr)).run Tryz.prog w = .ok (.bool (sameC p q)) w := by
  simp only [Cl.arr]
  simp [go_sem]
  unfold sameC
  repeat (first | exact eq_end | refine eq_on ?_)
set_option maxRecDepth 100000 in
theorem eq_rcl (p q : Cl) (w : World) : (binOp .eql 33 (.agg p.arr) (.agg q.arr)).run Tryz.prog w = .ok (.bool (sameC p q)) w := by
  simp only [Cl.arr]
  simp [go_sem]
  unfold sameC
  repeat (first | exact eq_end | refine eq_on ?_)

theorem info_cl : (Tryz.prog.info? 41).map (·.size) = some 13 := Cl.info_cl
theorem info_rcl : (Tryz.prog.info? 33).map (·.size) = some 13 := Cl.info_rcl
theorem info_pk : (Tryz.prog.info? 43).map (·.size) = some 23 := by kernel_rfl
def zeroP : Array Value := Pk.none.arr
theorem pk_one (p : Pk) : p.arr.all (·.oneCell') = true := by obtain ⟨x0, x1, x2, x3, x4, x5, x6, x7, x8, x9, x10, x11, x12, x13, x14, x15, x16, x17, x18, x19, x20, x21, x22⟩ := p; kernel_rfl
theorem cl_one (c : Cl) : c.arr.all (·.oneCell') = true := one_cells c
theorem load_pk {W : World} {b : Nat} {X : Array Value} (hb : W.heap[b]? = some (.cells X 43 (0, 0))) (hs : X.size = 23) : (loadVar 43 ⟨b, 0, none⟩).run Tryz.prog W = .ok (.agg X) W :=
  run_loadVar_row _ b _ _ X (0, 0) _ hb Tryz.underlying43 rfl (by rw [hs]; exact info_pk)
theorem load_cf {W : World} {b : Nat} {X : Array Value} (hb : W.heap[b]? = some (.cells X 24 (0, 0))) (hs : X.size = 14) : (loadVar 24 ⟨b, 0, none⟩).run Tryz.prog W = .ok (.agg X) W :=
  run_loadVar_row _ b _ _ X (0, 0) _ hb Tryz.underlying24 rfl (by rw [hs]; exact info_cf)

/-- two rows handed back -/
theorem results_row_row {P : Program} {fn : Func} {p q : Tmp} {ty uy : TypeId} (h : fn.results = #[.cell p ty, .cell q uy]) (tmps : Array Value) (w : World) (g g' : Nat) (t t' : TypeId) (cs cs' : Array Value) (fr fr' : Nat × Nat) (d d' : TypeDesc)
    (hp : tmps.getD p undef = .pointer (some ⟨g, 0, none⟩)) (hg : w.heap[g]? = some (.cells cs t fr))
    (hu : P.underlying ty = some d) (hd : (match d with | .struct _ | .array _ _ => true | _ => false) = true) (hi : (P.info? ty).map (·.size) = some cs.size)
    (hq : tmps.getD q undef = .pointer (some ⟨g', 0, none⟩)) (hg' : w.heap[g']? = some (.cells cs' t' fr'))
    (hu' : P.underlying uy = some d') (hd' : (match d' with | .struct _ | .array _ _ => true | _ => false) = true) (hi' : (P.info? uy).map (·.size) = some cs'.size) :
    (results fn tmps).run P w = .ok (.tuple #[.agg cs, .agg cs']) w := by
  have hp' : tmps[p]?.getD undef = .pointer (some ⟨g, 0, none⟩) := by simpa using hp
  have hq' : tmps[q]?.getD undef = .pointer (some ⟨g', 0, none⟩) := by simpa using hq
  simp [results, h, hp', hq', asAddr, run_loadVar_row w g t ty cs fr d hg hu hd hi, run_loadVar_row w g' t' uy cs' fr' d' hg' hu' hd' hi']

set_option maxRecDepth 100000 in
set_option maxHeartbeats 1000000 in
theorem beg_any (c : Cl) (hc : Wd c.att) (n : Int) (w : World) : Calls Tryz.prog 21 #[.agg c.arr, .int .i64 n] w fun e w' => e = .returned (.agg (beg c n).arr) ∧ Kept w w' := by
  obtain ⟨a1, a2⟩ := hc
  by_cases h : (c.st = 0 ∨ c.st = 2) ∧ c.att < 5
  · rw [beg_on n h.1 h.2]
    obtain ⟨x0, x1, x2, x3, x4, x5, x6, x7, x8, x9, x10, x11, x12⟩ := c
    simp only [Cl.arr] at h a1 a2 ⊢
    obtain ⟨z, hz⟩ : ∃ z, Tk.clamp n = z := ⟨_, rfl⟩
    rw [hz]
    have C1 := Lib.hid (show ∀ u, Calls Tryz.prog 29 #[.int .i64 n] u fun e w' => e = .returned (.int .i64 z) ∧ u = w' from fun u => by rw [← hz]; exact Tk.clamp_any _ u)
    clear hz
    obtain ⟨h1, h2⟩ := h
    rcases h1 with h1 | h1
    all_goals
      subst h1
      go_enter Tryz.func21, Tryz.ntmps21
      go_wp2_with (go_at_call 29; refine (C1.out _).mono ?_; rintro e w' ⟨rfl, rfl⟩)
      refine bodyPost_ret (results_cell_row rfl _ _ (w.heap.size + 1) 41 _ (0, 0) _ rfl (row2 _ _ _ _) Tryz.underlying41 rfl info_cl) rfl ⟨rfl, kept2 _ _ _⟩
  · rw [beg_no n h]
    obtain ⟨x0, x1, x2, x3, x4, x5, x6, x7, x8, x9, x10, x11, x12⟩ := c
    simp only [Cl.arr] at h a1 a2 ⊢
    by_cases h1 : x6 = 0
    · have h2 : 5 ≤ x5 := by omega
      subst h1
      clear h
      go_enter Tryz.func21, Tryz.ntmps21
      go_wp2
      refine bodyPost_ret (results_cell_row rfl _ _ (w.heap.size + 1) 41 _ (0, 0) _ rfl (row2 _ _ _ _) Tryz.underlying41 rfl info_cl) rfl ⟨rfl, kept2 _ _ _⟩
    by_cases h3 : x6 = 2
    · have h2 : 5 ≤ x5 := by omega
      subst h3
      clear h
      go_enter Tryz.func21, Tryz.ntmps21
      go_wp2
      refine bodyPost_ret (results_cell_row rfl _ _ (w.heap.size + 1) 41 _ (0, 0) _ rfl (row2 _ _ _ _) Tryz.underlying41 rfl info_cl) rfl ⟨rfl, kept2 _ _ _⟩
    clear h
    go_enter Tryz.func21, Tryz.ntmps21
    go_wp2
    refine bodyPost_ret (results_cell_row rfl _ _ (w.heap.size + 1) 41 _ (0, 0) _ rfl (row2 _ _ _ _) Tryz.underlying41 rfl info_cl) rfl ⟨rfl, kept2 _ _ _⟩


end Go.Proofs.YtncdiggejofbbaaGreatDoor.Sn
