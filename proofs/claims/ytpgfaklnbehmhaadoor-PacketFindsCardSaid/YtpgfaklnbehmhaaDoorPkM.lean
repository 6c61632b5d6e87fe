/- Plain: packets, what may be, and their bytes. No function of the program is spoken of here. -/
import Derived.Test.YtpgfaklnbehmhaaDoorId5
import Derived.Test.YtpgfaklnbehmhaaDoorTmMath
import Derived.ChangeAlike
import Derived.Test.YtpgfaklnbehmhaaDoorCd
namespace Go.Proofs.YtpgfaklnbehmhaaDoor.PkM
open Go.RowKit BsM IdM
open Go.Proofs.YtpgfaklnbehmhaaDoor.Id (codeL keyCodeL)
set_option linter.unusedVariables false

structure Pk where
  (kind fr to kn ki ks ka hop stamp : Int) (tm : ByteArray) (til prog rn ri rs pn pi ps pa code value : Int) (more : Bool) (delay : Int)

def Pk.arr (p : Pk) : Array Value :=
  #[.int .i64 p.kind, .int .i64 p.fr, .int .i64 p.to, .int .i64 p.kn, .int .i64 p.ki, .int .i64 p.ks, .int .i64 p.ka, .int .i64 p.hop, .int .i64 p.stamp, .string p.tm, .int .i64 p.til, .int .i64 p.prog,
    .int .i64 p.rn, .int .i64 p.ri, .int .i64 p.rs, .int .i64 p.pn, .int .i64 p.pi, .int .i64 p.ps, .int .i64 p.pa, .int .i64 p.code, .int .i64 p.value, .bool p.more, .int .i64 p.delay]
def Pk.none : Pk := ⟨0, 0, 0, 0, 0, 0, 0, 0, 0, ⟨#[]⟩, 0, 0, 0, 0, 0, 0, 0, 0, 0, 0, 0, false, 0⟩

/-- what a kind has, and nothing else -/
def clean (p : Pk) : Pk :=
  if p.kind = 1 then { p with code := 0, value := 0, more := false, delay := 0 }
  else if p.kind = 2 then { p with hop := 0, stamp := 0, tm := ⟨#[]⟩, til := 0, prog := 0, rn := 0, ri := 0, rs := 0, pn := 0, pi := 0, ps := 0, pa := 0, delay := 0 }
  else if p.kind = 4 then { p with hop := 0, stamp := 0, tm := ⟨#[]⟩, prog := 0, rn := 0, ri := 0, rs := 0, pn := 0, pi := 0, ps := 0, pa := 0, code := 0, value := 0, more := false, delay := 0 }
  else if p.kind = 5 then { p with hop := 0, stamp := 0, tm := ⟨#[]⟩, til := 0, prog := 0, rn := 0, ri := 0, rs := 0, pn := 0, pi := 0, ps := 0, pa := 0, code := 0, value := 0, more := false }
  else { p with hop := 0, stamp := 0, tm := ⟨#[]⟩, til := 0, prog := 0, rn := 0, ri := 0, rs := 0, pn := 0, pi := 0, ps := 0, pa := 0, code := 0, value := 0, more := false, delay := 0 }

/-- are two the same? -/
def sameB (p q : Pk) : Bool :=
  p.kind == q.kind && (p.fr == q.fr && (p.to == q.to && (p.kn == q.kn && (p.ki == q.ki && (p.ks == q.ks && (p.ka == q.ka && (p.hop == q.hop && (p.stamp == q.stamp && (p.tm.toList == q.tm.toList && (p.til == q.til && (p.prog == q.prog && (p.rn == q.rn && (p.ri == q.ri && (p.rs == q.rs && (p.pn == q.pn && (p.pi == q.pi && (p.ps == q.ps && (p.pa == q.pa && (p.code == q.code && (p.value == q.value && (p.more == q.more && (p.delay == q.delay))))))))))))))))))))))
theorem same_iff {p q : Pk} : sameB p q = true ↔ p = q := by
  constructor
  · intro h
    obtain ⟨⟩ := p
    obtain ⟨⟩ := q
    simp only [sameB, Bool.and_eq_true, beq_iff_eq] at h
    simp only [Pk.mk.injEq]
    simp only [ByteArray.toList_eq, ← ByteArray.ext_iff, Array.toList_inj] at h
    exact h
  · rintro rfl; simp [sameB]
theorem same_self (p : Pk) : sameB p p = true := same_iff.2 rfl
theorem same_comm (p q : Pk) : sameB p q = sameB q p := by
  rw [Bool.eq_iff_iff, same_iff, same_iff]; exact eq_comm

def timeB (t : Int) : Bool := decide (0 ≤ t ∧ t ≤ 1125899906842624)
def nodeB (n : Int) : Bool := decide (0 ≤ n ∧ n ≤ 63)
def headB (p : Pk) : Bool := nodeB p.fr && (nodeB p.to && (keyB p.kn p.ki p.ks p.ka && decide (1 ≤ p.ka)))
def decB (p : Pk) : Bool := decide ((Tm.dec p.tm.data.toList).2 = 0)
def callB (p : Pk) : Bool :=
  decB p && (decide (1 ≤ p.hop ∧ p.hop ≤ 16) && (timeB p.stamp && (timeB p.til && (decide (0 ≤ p.prog ∧ p.prog ≤ 15) && (rightB p.rn p.ri p.rs && keyB p.pn p.pi p.ps p.pa)))))
def replyB (p : Pk) : Bool := if p.more = true then decide (p.code = 0) && decide (p.value = 0) else Cd.right p.code && decide (0 ≤ p.value ∧ p.value ≤ 2147483647)
def restB (p : Pk) : Bool :=
  if p.kind = 1 then callB p else if p.kind = 2 then replyB p else if p.kind = 3 then true else if p.kind = 4 then timeB p.til else if p.kind = 5 then decide (-1 ≤ p.delay ∧ p.delay ≤ 1125899906842624) else false
def okB (p : Pk) : Bool := sameB p (clean p) && (headB p && restB p)

def headL (p : Pk) : List UInt8 := numL p.kind 1 ++ (numL p.fr 1 ++ (numL p.to 1 ++ keyCodeL p.kn p.ki p.ks p.ka))
def callL (p : Pk) : List UInt8 := numL p.hop 1 ++ (numL p.stamp 7 ++ (textL p.tm.data.toList ++ (numL p.til 7 ++ (numL p.prog 1 ++ (codeL p.rn p.ri p.rs ++ keyCodeL p.pn p.pi p.ps p.pa)))))
def replyL (p : Pk) : List UInt8 := numL p.code 1 ++ (numL p.value 4 ++ flagL p.more)
def restL (p : Pk) : List UInt8 := if p.kind = 1 then callL p else if p.kind = 2 then replyL p else if p.kind = 4 then numL p.til 7 else if p.kind = 5 then numL (p.delay + 1) 7 else []
def bodyL (p : Pk) : List UInt8 := headL p ++ restL p

/-- what is one of the five kinds -/
theorem kinds (k : Int) : k = 1 ∨ k = 2 ∨ k = 3 ∨ k = 4 ∨ k = 5 ∨ (k ≠ 1 ∧ k ≠ 2 ∧ k ≠ 3 ∧ k ≠ 4 ∧ k ≠ 5) := by omega

end Go.Proofs.YtpgfaklnbehmhaaDoor.PkM
