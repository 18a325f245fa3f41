/-
  Two relations of one arity; both SameRel.
-/
import Derived.Test.YtljlgjgfmgilaaaGreatRg
import Derived.Test.YtljlgjgfmgilaaaGreatHn
namespace Go.Proofs.YtljlgjgfmgilaaaGreat.Rl
set_option maxRecDepth 8000
set_option linter.unusedSimpArgs false
set_option linter.unusedVariables false
open Go Go.RowKit
open Num Word Pl Rp
open Vl (ordRow)

/-- Are both right, and of one arity? -/
def twoB (x : Int) (R : List RowL) (y : Int) (S : List RowL) : Bool := relB x R && relB y S && decide (x = y)

def sameB (x : Int) (R : List RowL) (y : Int) (S : List RowL) : Bool := twoB x R y S && decide (R = S)
theorem said_ext {Q P : List Rm} (hl : Q.length = P.length) (h : ∀ i, i < Q.length → (Q.getD i rm0).l = (P.getD i rm0).l) : said Q = said P := by
  refine List.ext_getElem (by simp [said, hl]) fun i h1 h2 => ?_
  have hi : i < Q.length := by rw [said_len] at h1; exact h1
  have := h i hi
  rw [← said_at hi, ← said_at (by omega)] at this
  simpa [List.getD, h1, h2] using this

end Go.Proofs.YtljlgjgfmgilaaaGreat.Rl
