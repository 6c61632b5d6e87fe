/- Package ident: what may be, and the one row of keys; and the document's. -/
import Derived.Test.YtckjdncacinnkaaDoorIdM0
import Derived.Test.YtckjdncacinnkaaDoorSt
import Derived.Test.YtckjdncacinnkaaDoorBx
import Derived.BigQuiet
import Derived.Lib.QuietBelow
import Derived.Deep.RegionHeld3
namespace Go.Proofs.YtckjdncacinnkaaDoor.Id
open Go.RowKit Go.Sort St IdM
set_option linter.unusedVariables false










end Go.Proofs.YtckjdncacinnkaaDoor.Id
