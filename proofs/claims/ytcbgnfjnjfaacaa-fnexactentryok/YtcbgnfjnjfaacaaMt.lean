/-
  Contracts of the specification's SameMatch.
-/
import Derived.Test.YtcbgnfjnjfaacaaMs
import Derived.Test.YtcbgnfjnjfaacaaLa
namespace Go.Proofs.Ytcbgnfjnjfaacaa.Mt
set_option maxRecDepth 8000
open Go Go.RowKit
open Num Pl Hr Hh Hf Hg Pa Pm Po

end Go.Proofs.Ytcbgnfjnjfaacaa.Mt
