/- Package code: which codes may be tried again. -/
import Derived.Test.YtplkhinjlgmilaaSt
namespace Go.Proofs.Ytplkhinjlgmilaa.Cd
open Go.RowKit Go.Sort St


end Go.Proofs.Ytplkhinjlgmilaa.Cd
