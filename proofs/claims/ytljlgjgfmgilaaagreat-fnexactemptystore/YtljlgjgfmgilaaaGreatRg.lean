/-
  Rows alike; is a row in a list of rows?
-/
import Derived.Test.YtljlgjgfmgilaaaGreatRe
import Derived.Test.YtljlgjgfmgilaaaGreatRf
namespace Go.Proofs.YtljlgjgfmgilaaaGreat.Rl
set_option maxRecDepth 8000
set_option linter.unusedSimpArgs false
set_option linter.unusedVariables false
open Go Go.RowKit
open Num Word Pl Rp
open Vl (ordRow V2 z2)

theorem ext2_ne {l m : RowL} {k : Nat} (h : l.getD k z2 ≠ m.getD k z2) : l ≠ m := fun e => h (by rw [e])
end Go.Proofs.YtljlgjgfmgilaaaGreat.Rl
