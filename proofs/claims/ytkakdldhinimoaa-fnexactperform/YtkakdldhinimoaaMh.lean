/-
  Contracts of the specification's Hits where what comes in is right.
-/
import Derived.Test.YtkakdldhinimoaaBw
namespace Go.Proofs.Ytkakdldhinimoaa.Mh
set_option maxRecDepth 8000
open Go Go.RowKit
open Num Pl Hr Hh Hf Hg Pa Pm Po Pq
set_option linter.unusedSimpArgs false
set_option linter.unusedVariables false

end Go.Proofs.Ytkakdldhinimoaa.Mh
