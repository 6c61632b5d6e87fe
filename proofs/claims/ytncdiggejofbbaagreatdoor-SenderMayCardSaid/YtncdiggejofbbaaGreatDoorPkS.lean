/- Plain: what a packet holds. No function of the program is spoken of here. -/
import Derived.Test.YtncdiggejofbbaaGreatDoorIdM0
import Derived.ChangeAlike
namespace Go.Proofs.YtncdiggejofbbaaGreatDoor.PkM
open Go

structure Pk where
  (kind fr to kn ki ks ka hop stamp : Int) (tm : ByteArray) (til prog rn ri rs pn pi ps pa code value : Int) (more : Bool) (delay : Int)

def Pk.arr (p : Pk) : Array Value :=
  #[.int .i64 p.kind, .int .i64 p.fr, .int .i64 p.to, .int .i64 p.kn, .int .i64 p.ki, .int .i64 p.ks, .int .i64 p.ka, .int .i64 p.hop, .int .i64 p.stamp, .string p.tm, .int .i64 p.til, .int .i64 p.prog,
    .int .i64 p.rn, .int .i64 p.ri, .int .i64 p.rs, .int .i64 p.pn, .int .i64 p.pi, .int .i64 p.ps, .int .i64 p.pa, .int .i64 p.code, .int .i64 p.value, .bool p.more, .int .i64 p.delay]
def Pk.none : Pk := ⟨0, 0, 0, 0, 0, 0, 0, 0, 0, ⟨#[]⟩, 0, 0, 0, 0, 0, 0, 0, 0, 0, 0, 0, false, 0⟩

/-- are two the same? -/
def sameB (p q : Pk) : Bool :=
  p.kind == q.kind && (p.fr == q.fr && (p.to == q.to && (p.kn == q.kn && (p.ki == q.ki && (p.ks == q.ks && (p.ka == q.ka && (p.hop == q.hop && (p.stamp == q.stamp && (p.tm.toList == q.tm.toList && (p.til == q.til && (p.prog == q.prog && (p.rn == q.rn && (p.ri == q.ri && (p.rs == q.rs && (p.pn == q.pn && (p.pi == q.pi && (p.ps == q.ps && (p.pa == q.pa && (p.code == q.code && (p.value == q.value && (p.more == q.more && (p.delay == q.delay))))))))))))))))))))))
theorem same_iff {p q : Pk} : sameB p q = true ↔ p = q := by
  constructor
  · intro h
    obtain ⟨⟩ := p
    obtain ⟨⟩ := q
    simp only [sameB, Bool.and_eq_true, beq_iff_eq] at h
    simp only [Pk.mk.injEq]
    simp only [ByteArray.toList_eq, ← ByteArray.ext_iff, Array.toList_inj] at h
    exact h
  · rintro rfl; simp [sameB]
theorem same_self (p : Pk) : sameB p p = true := same_iff.2 rfl
theorem same_comm (p q : Pk) : sameB p q = sameB q p := by
  rw [Bool.eq_iff_iff, same_iff, same_iff]; exact eq_comm

end Go.Proofs.YtncdiggejofbbaaGreatDoor.PkM
namespace Go.Proofs.YtncdiggejofbbaaGreatDoor.Pk
open Go IdM PkM

/-- all its numbers are numbers -/
structure Nm (p : Pk) : Prop where
  kind : I64 p.kind
  fr : I64 p.fr
  to : I64 p.to
  kn : I64 p.kn
  ki : I64 p.ki
  ks : I64 p.ks
  ka : I64 p.ka
  hop : I64 p.hop
  stamp : I64 p.stamp
  til : I64 p.til
  prog : I64 p.prog
  rn : I64 p.rn
  ri : I64 p.ri
  rs : I64 p.rs
  pn : I64 p.pn
  pi : I64 p.pi
  ps : I64 p.ps
  pa : I64 p.pa
  code : I64 p.code
  value : I64 p.value
  delay : I64 p.delay

end Go.Proofs.YtncdiggejofbbaaGreatDoor.Pk
