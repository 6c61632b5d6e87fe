/- Plain: packets, what may be, and their bytes. No function of the program is spoken of here. -/
import Derived.Test.YtncdiggejofbbaaGreatDoorPkS
import Derived.Test.YtncdiggejofbbaaGreatDoorId5
import Derived.Test.YtncdiggejofbbaaGreatDoorTm
import Derived.ChangeAlike
import Derived.Test.YtncdiggejofbbaaGreatDoorCd
namespace Go.Proofs.YtncdiggejofbbaaGreatDoor.PkM
open Go.RowKit BsM IdM
open Go.Proofs.YtncdiggejofbbaaGreatDoor.Id (codeL keyCodeL)
set_option linter.unusedVariables false

/-- what a kind has, and nothing else -/
def clean (p : Pk) : Pk :=
  if p.kind = 1 then { p with code := 0, value := 0, more := false, delay := 0 }
  else if p.kind = 2 then { p with hop := 0, stamp := 0, tm := ⟨#[]⟩, til := 0, prog := 0, rn := 0, ri := 0, rs := 0, pn := 0, pi := 0, ps := 0, pa := 0, delay := 0 }
  else if p.kind = 4 then { p with hop := 0, stamp := 0, tm := ⟨#[]⟩, prog := 0, rn := 0, ri := 0, rs := 0, pn := 0, pi := 0, ps := 0, pa := 0, code := 0, value := 0, more := false, delay := 0 }
  else if p.kind = 5 then { p with hop := 0, stamp := 0, tm := ⟨#[]⟩, til := 0, prog := 0, rn := 0, ri := 0, rs := 0, pn := 0, pi := 0, ps := 0, pa := 0, code := 0, value := 0, more := false }
  else { p with hop := 0, stamp := 0, tm := ⟨#[]⟩, til := 0, prog := 0, rn := 0, ri := 0, rs := 0, pn := 0, pi := 0, ps := 0, pa := 0, code := 0, value := 0, more := false, delay := 0 }

def timeB (t : Int) : Bool := decide (0 ≤ t ∧ t ≤ 1125899906842624)
def nodeB (n : Int) : Bool := decide (0 ≤ n ∧ n ≤ 63)
def headB (p : Pk) : Bool := nodeB p.fr && (nodeB p.to && (keyB p.kn p.ki p.ks p.ka && decide (1 ≤ p.ka)))
def decB (p : Pk) : Bool := decide ((Tm.dec p.tm.data.toList).2 = 0)
def callB (p : Pk) : Bool :=
  decB p && (decide (1 ≤ p.hop ∧ p.hop ≤ 16) && (timeB p.stamp && (timeB p.til && (decide (0 ≤ p.prog ∧ p.prog ≤ 15) && (rightB p.rn p.ri p.rs && keyB p.pn p.pi p.ps p.pa)))))
def replyB (p : Pk) : Bool := if p.more = true then decide (p.code = 0) && decide (p.value = 0) else Cd.right p.code && decide (0 ≤ p.value ∧ p.value ≤ 2147483647)
def restB (p : Pk) : Bool :=
  if p.kind = 1 then callB p else if p.kind = 2 then replyB p else if p.kind = 3 then true else if p.kind = 4 then timeB p.til else if p.kind = 5 then decide (-1 ≤ p.delay ∧ p.delay ≤ 1125899906842624) else false
def okB (p : Pk) : Bool := sameB p (clean p) && (headB p && restB p)

def headL (p : Pk) : List UInt8 := numL p.kind 1 ++ (numL p.fr 1 ++ (numL p.to 1 ++ keyCodeL p.kn p.ki p.ks p.ka))
def callL (p : Pk) : List UInt8 := numL p.hop 1 ++ (numL p.stamp 7 ++ (textL p.tm.data.toList ++ (numL p.til 7 ++ (numL p.prog 1 ++ (codeL p.rn p.ri p.rs ++ keyCodeL p.pn p.pi p.ps p.pa)))))
def replyL (p : Pk) : List UInt8 := numL p.code 1 ++ (numL p.value 4 ++ flagL p.more)
def restL (p : Pk) : List UInt8 := if p.kind = 1 then callL p else if p.kind = 2 then replyL p else if p.kind = 4 then numL p.til 7 else if p.kind = 5 then numL (p.delay + 1) 7 else []
def bodyL (p : Pk) : List UInt8 := headL p ++ restL p

/-- what is one of the five kinds -/
theorem kinds (k : Int) : k = 1 ∨ k = 2 ∨ k = 3 ∨ k = 4 ∨ k = 5 ∨ (k ≠ 1 ∧ k ≠ 2 ∧ k ≠ 3 ∧ k ≠ 4 ∧ k ≠ 5) := by omega

end Go.Proofs.YtncdiggejofbbaaGreatDoor.PkM
