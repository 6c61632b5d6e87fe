/- What a bag is: plain; in memory, the program's and the document's: a block, and a slice of flights. What the small functions answer. -/
import Derived.Test.YtglgkgpmfeamnaaRx
import Derived.Test.YtglgkgpmfeamnaaCg
import Derived.Test.YtglgkgpmfeamnaaRw
namespace Go.Proofs.Ytglgkgpmfeamnaa.Bg
open Go.RowKit Go.Sort Rv
open St (Kept blk_cell blk_free blk_lt blk_set)
open Wh (Fr Mine)
set_option linter.unusedVariables false

/-- a flight -/
structure Fl where
  fr : Int
  to : Int
  s : ByteArray
  h : Bool
def z : Fl := ⟨0, 0, ⟨#[]⟩, false⟩
def enc (f : Fl) : List Value := [.int .i64 f.fr, .int .i64 f.to, .string f.s, .bool f.h]
def zs : List Value := [.int .i64 0, .int .i64 0, .string ⟨#[]⟩, .bool false]
theorem encP : EncT 47 36 4 40 zs enc :=
  ⟨Try.underlying47, by kernel_rfl, by omega, by omega, rfl, by intro u h; simp [zs] at h; rcases h with rfl | rfl | rfl <;> rfl, fun _ => rfl, by intro f u h; simp [enc] at h; rcases h with rfl | rfl | rfl | rfl <;> rfl⟩
theorem encR : EncT 26 30 4 40 zs enc :=
  ⟨Try.underlying26, by kernel_rfl, by omega, by omega, rfl, by intro u h; simp [zs] at h; rcases h with rfl | rfl | rfl <;> rfl, fun _ => rfl, by intro f u h; simp [enc] at h; rcases h with rfl | rfl | rfl | rfl <;> rfl⟩

/-- what a bag has: flights, how many were lost -/
structure Sta where
  L : List Fl
  lost : Nat

section
variable (s : Sta) (f : Fl) (k at_ by_ : Int)
def has : Prop := 0 ≤ k ∧ k < (s.L.length : Int)
instance : Decidable (has s k) := by unfold has; infer_instance
def sendS : Sta := if s.L.length < 256 then ⟨s.L ++ [f], s.lost⟩ else ⟨s.L, s.lost + 1⟩
def sendE : Int := if s.L.length < 256 then 0 else 6
def lookF : Fl := s.L.getD k.toNat z
def lookE : Int := if has s k then 0 else 7
def takeF : Fl := if has s k then lookF s k else z
def takeS : Sta := if has s k then ⟨s.L.eraseIdx k.toNat, s.lost⟩ else s
def twiceS : Sta := if has s k then sendS s (lookF s k) else s
def twiceE : Int := if has s k then sendE s else 7
def may (f : Fl) : Prop := 0 ≤ at_ ∧ at_ < (f.s.size : Int) ∧ 1 ≤ by_ ∧ by_ ≤ 255
instance : Decidable (may at_ by_ f) := by unfold may; infer_instance
def spoilt (f : Fl) : Fl := ⟨f.fr, f.to, ⟨(Cg.chg f.s.data.toList at_.toNat (UInt8.ofNat by_.toNat)).toArray⟩, true⟩
def hurtE : Int := if has s k then if (lookF s k).h = true then 8 else if may at_ by_ (lookF s k) then 0 else 2 else 7
def hurtS : Sta := if has s k ∧ (lookF s k).h = false ∧ may at_ by_ (lookF s k) then ⟨s.L.set k.toNat (spoilt at_ by_ (lookF s k)), s.lost⟩ else s
end

/-- A BAG in block B: its slice, what it has -/
structure Bag (bt et : TypeId) (w : World) (B : Nat) (v : Value) (s : Sta) : Prop where
  blk : w.heap[B]? = some (.cells #[v, .int .i64 (s.lost : Int)] bt (0, 0))
  row : RowV w v et 4 enc s.L
  ne : ∀ g, v.ownBlock = some g → g ≠ B
  len : s.L.length ≤ 256
/-- its blocks -/
def Own (B : Nat) (v : Value) : Nat → Prop := fun k => k = B ∨ v.ownBlock = some k

section
variable {bt et : TypeId} {w w' : World} {B : Nat} {v : Value} {s : Sta}
theorem Bag.fr {S : Nat → Prop} (h : Bag bt et w B v s) (f : Fr S w w') (ap : ∀ k, Own B v k → ¬ S k) : Bag bt et w' B v s :=
  ⟨(f.block B (blk_lt h.blk) (ap B (.inl rfl))).trans h.blk, h.row.kept fun g e => f.block g (h.row.lt e) (ap g (.inr e)), h.ne, h.len⟩
theorem Bag.kept (h : Bag bt et w B v s) (k : Kept w w') : Bag bt et w' B v s := h.fr (S := fun _ => False) (Fr.kept k) (fun _ _ c => c)
theorem Bag.lt (h : Bag bt et w B v s) : ∀ k, Own B v k → k < w.heap.size := by
  rintro k (rfl | c)
  · exact blk_lt h.blk
  · exact h.row.lt c
theorem Bag.c0 (h : Bag bt et w B v s) : w.cell? ⟨B, 0, none⟩ = some v := by rw [blk_cell h.blk]; rfl
theorem Bag.c1 (h : Bag bt et w B v s) : w.cell? ⟨B, 1, none⟩ = some (.int .i64 (s.lost : Int)) := by rw [blk_cell h.blk]; rfl
end

/-- what a call that turns a bag does -/
def Turns (bt et : TypeId) (w : World) (B : Nat) (v : Value) (s' : Sta) (r : Value) : Ending → World → Prop := fun e w' => e = .returned r ∧ ∃ v', Bag bt et w' B v' s' ∧ Fr (Own B v) w w' ∧ ∀ k, Own B v' k → Own B v k ∨ w.heap.size ≤ k
theorem Turns.none {bt et : TypeId} {w w' : World} {B : Nat} {v : Value} {s : Sta} {r : Value} {e : Ending} (h : Bag bt et w B v s) (k : Kept w w') (he : e = .returned r) : Turns bt et w B v s r e w' :=
  ⟨he, v, h.kept k, Fr.kept k, fun _ c => .inl c⟩

abbrev PB (B : Nat) : Value := .pointer (some ⟨B, 0, none⟩)
def agg (f : Fl) : Value := .agg (enc f).toArray

section
variable {w : World} {B : Nat} {v : Value} {s : Sta}
set_option maxHeartbeats 400000 in
theorem len_any (h : Bag 49 36 w B v s) : Calls Try.prog 9 #[PB B] w fun e w' => e = .returned (.int .i64 (s.L.length : Int)) ∧ w = w' := by
  have c0 := h.c0
  have hl := fun ty u => h.row.len encP.us ty u
  clear h
  go_enter Try.func9, Try.ntmps9
  go_wp2
  go_ret
  exact ⟨rfl, rfl⟩
set_option maxHeartbeats 400000 in
theorem lost_any (h : Bag 49 36 w B v s) : Calls Try.prog 10 #[PB B] w fun e w' => e = .returned (.int .i64 (s.lost : Int)) ∧ w = w' := by
  have c1 := h.c1
  clear h
  go_enter Try.func10, Try.ntmps10
  go_wp2
  go_ret
  exact ⟨rfl, rfl⟩
/-- what New makes -/
def news (w : World) : Ending → World → Prop := fun e w' => ∃ B, e = .returned (PB B) ∧ Bag 49 36 w' B (.slice none 0 0) ⟨[], 0⟩ ∧ w.heap.size ≤ B ∧ Kept w w'
set_option maxHeartbeats 400000 in
theorem new_any (w : World) : Calls Try.prog 6 #[] w (news w) := by
  go_enter Try.func6, Try.ntmps6
  go_wp2
  go_ret
  exact ⟨_, rfl, ⟨St.blk_new w _, rowv_nil _ _ _ _, fun g c => by simp [Value.ownBlock] at c, by simp⟩, Nat.le_refl _, Kept.one _ _⟩
end

end Go.Proofs.Ytglgkgpmfeamnaa.Bg
