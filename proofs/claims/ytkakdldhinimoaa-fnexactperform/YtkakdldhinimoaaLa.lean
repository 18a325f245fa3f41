/-
  The program's answer and the specification's by one word: MatchOk.
-/
import Derived.Test.YtkakdldhinimoaaRg
import Derived.Test.YtkakdldhinimoaaMs
namespace Go.Proofs.Ytkakdldhinimoaa.La
set_option maxRecDepth 8000
open Go Go.RowKit
open Num Pl Hr Hh Pm Po Rg

end Go.Proofs.Ytkakdldhinimoaa.La
