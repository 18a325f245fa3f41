/-
  The program's answer and the specification's by one word: MatchOk.
-/
import Derived.Test.YtcbgnfjnjfaacaaRg
import Derived.Test.YtcbgnfjnjfaacaaMs
namespace Go.Proofs.Ytcbgnfjnjfaacaa.La
set_option maxRecDepth 8000
open Go Go.RowKit
open Num Pl Hr Hh Pm Po Rg

end Go.Proofs.Ytcbgnfjnjfaacaa.La
