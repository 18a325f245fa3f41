/-
  The specification's RelDrop.
-/
import Derived.Test.YtfiebakgphcnbaaRo
import Derived.Test.YtfiebakgphcnbaaRq
namespace Go.Proofs.Ytfiebakgphcnbaa.Rl
set_option maxRecDepth 8000
set_option linter.unusedSimpArgs false
set_option linter.unusedVariables false
open Go Go.RowKit
open Num Word Pl Rp


/-- Does a row fit a relation that is right? -/
def addB (ar : Int) (R : List RowL) (m : RowL) : Bool := relB ar R && (Vl.rowB m && decide ((m.length : Int) = ar))
end Go.Proofs.Ytfiebakgphcnbaa.Rl
