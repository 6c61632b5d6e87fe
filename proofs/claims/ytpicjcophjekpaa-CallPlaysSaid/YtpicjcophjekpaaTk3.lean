/- Contracts of package ticks, and of the document's own answers for it: the product by doubling, and the chapter's examples. -/
import Derived.Test.YtpicjcophjekpaaTk2
import Derived.LoopTactic
namespace Go.Proofs.Ytpicjcophjekpaa.Tk
open Go.RowKit

theorem add_id {a b : Int} (ha : 0 ≤ a) (ha2 : a ≤ 1125899906842624) (hb : 0 ≤ b) (hb2 : b ≤ 1125899906842624) : add a b = min (a + b) most := by
  unfold add; rw [clamp_id a ha ha2, clamp_id b hb hb2]



end Go.Proofs.Ytpicjcophjekpaa.Tk
