/- Plain: packets read of bytes. No function of the program is spoken of here. -/
import Derived.Test.YtpgfaklnbehmhaaDoorPkM
import Derived.Test.YtpgfaklnbehmhaaDoorId7
namespace Go.Proofs.YtpgfaklnbehmhaaDoor.PkM
open Go.RowKit BsM IdM
open Go.Proofs.YtpgfaklnbehmhaaDoor.Id
set_option linter.unusedVariables false

/-- a key's four numbers, as they are read -/
def kvn (s : S) : Int := if rkOk s then rdn s else 0
def kvi (s : S) : Int := if rkOk s then rdi s else 0
def kvs (s : S) : Int := if rkOk s then rds s else 0
def kva (s : S) : Int := if rkOk s then rda s else 0
theorem rkV_eq (s : S) : rkV s = .agg #[.int .i64 (kvn s), .int .i64 (kvi s), .int .i64 (kvs s), .int .i64 (kva s)] := by
  unfold rkV kvn kvi kvs kva; split <;> rfl

def a1 (s : S) : S := numS s 1
def a2 (s : S) : S := numS (a1 s) 1
def a3 (s : S) : S := numS (a2 s) 1
def headP (s : S) : Pk := { Pk.none with kind := numV s 1, fr := numV (a1 s) 1, to := numV (a2 s) 1, kn := kvn (a3 s), ki := kvi (a3 s), ks := kvs (a3 s), ka := kva (a3 s) }
def headS (s : S) : S := rkS (a3 s)
def c1 (s : S) : S := numS s 1
def c2 (s : S) : S := numS (c1 s) 7
def c3 (s : S) : S := textS (c2 s)
def c4 (s : S) : S := numS (c3 s) 7
def c5 (s : S) : S := numS (c4 s) 1
def c6 (s : S) : S := readS (c5 s)
def callS (s : S) : S := rkS (c6 s)
def callP (p : Pk) (s : S) : Pk := { p with hop := numV s 1, stamp := numV (c1 s) 7, tm := ⟨(textV (c2 s)).toArray⟩, til := numV (c3 s) 7, prog := numV (c4 s) 1, rn := rdn (c5 s), ri := rdi (c5 s), rs := rds (c5 s), pn := kvn (c6 s), pi := kvi (c6 s), ps := kvs (c6 s), pa := kva (c6 s) }
def e2 (s : S) : S := numS (c1 s) 4
def replyP (p : Pk) (s : S) : Pk := { p with code := numV s 1, value := numV (c1 s) 4, more := flagV (e2 s) }
def restP (p : Pk) (s : S) : Pk :=
  if p.kind = 1 then callP p s else if p.kind = 2 then replyP p s else if p.kind = 3 then p else if p.kind = 4 then { p with til := numV s 7 } else if p.kind = 5 then { p with delay := numV s 7 - 1 } else p
def restS (p : Pk) (s : S) : S :=
  if p.kind = 1 then callS s else if p.kind = 2 then flagS (e2 s) else if p.kind = 3 then s else if p.kind = 4 then numS s 7 else if p.kind = 5 then numS s 7 else failS s 9
/-- what is read of a body, and where the reader stands -/
def bodP (s : S) : Pk := restP (headP s) (headS s)
def bodS (s : S) : S := restS (headP s) (headS s)

end Go.Proofs.YtpgfaklnbehmhaaDoor.PkM
