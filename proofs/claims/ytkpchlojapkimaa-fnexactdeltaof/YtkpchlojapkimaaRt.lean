/-
  Two sets merged by function 43.
-/
import Derived.Test.YtkpchlojapkimaaRu
namespace Go.Proofs.Ytkpchlojapkimaa.Rl
set_option maxRecDepth 8000
set_option linter.unusedSimpArgs false
set_option linter.unusedVariables false
open Go Go.RowKit
open Num Word Pl Rp
open Vl (ordRow)


end Go.Proofs.Ytkpchlojapkimaa.Rl
