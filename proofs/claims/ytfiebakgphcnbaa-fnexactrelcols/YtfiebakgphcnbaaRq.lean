/-
  The specification's RelMinus, RelBoth.
-/
import Derived.Test.YtfiebakgphcnbaaRo
import Derived.Test.YtfiebakgphcnbaaRj
namespace Go.Proofs.Ytfiebakgphcnbaa.Rl
set_option maxRecDepth 8000
set_option linter.unusedSimpArgs false
set_option linter.unusedVariables false
open Go Go.RowKit
open Num Word Pl Rp


theorem filter_next {Q : List Rm} {i : Nat} (p : RowL → Bool) (h : i < Q.length) : ((said Q).take (i + 1)).filter p = ((said Q).take i).filter p ++ (if p (Q.getD i rm0).l = true then [(Q.getD i rm0).l] else []) := by
  rw [take_next h, List.filter_append]
  congr 1
  cases hp : p (Q.getD i rm0).l
  · rw [List.filter_cons, hp]; simp
  · rw [List.filter_cons, hp]; simp

/-- What a function that makes a relation says: its arity, its rows, and a code. -/
def ResC (w : World) (ar : Int) (R : List RowL) (c : Value) (e : Ending) (w' : World) : Prop := ∃ v F, e = .returned (.tuple #[.agg #[.int .i64 ar, v], c]) ∧ OT w' w.heap.size v F ∧ said F = R ∧ Below w.heap.size w w'

end Go.Proofs.Ytfiebakgphcnbaa.Rl
