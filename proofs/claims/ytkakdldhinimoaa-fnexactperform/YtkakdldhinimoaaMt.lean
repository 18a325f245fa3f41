/-
  Contracts of the specification's SameMatch.
-/
import Derived.Test.YtkakdldhinimoaaMs
import Derived.Test.YtkakdldhinimoaaLa
namespace Go.Proofs.Ytkakdldhinimoaa.Mt
set_option maxRecDepth 8000
open Go Go.RowKit
open Num Pl Hr Hh Hf Hg Pa Pm Po

end Go.Proofs.Ytkakdldhinimoaa.Mt
