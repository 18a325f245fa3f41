/-
  The contract of headBy: a head in new memory, with the number that the closure tells for each field.
-/
import Derived.Test.YtcbgnfjnjfaacaaHg
namespace Go.Proofs.Ytcbgnfjnjfaacaa.Hb
open Go Go.RowKit
open Num Pl Hr Hh Hf Hg

/-- What headBy hands back. -/
def Made (w : World) (L : List Int) (e : Ending) (w' : World) : Prop :=
  ∃ g, e = .returned (.agg #[.slice (some ⟨g, 0, none⟩) 8 8]) ∧ Mine w' g L ∧ w.heap.size ≤ g ∧ Below w.heap.size w w'
/-- What the closure tells. -/
def Tells (c : Nat) (p1 p2 p3 : Value) (L : List Int) (w : World) : Prop :=
  ∀ k : Nat, k < 8 → ∀ w', Below w.heap.size w w' → Calls Try.prog c #[.int .i64 k, p1, p2, p3] w' fun e w'' => e = .returned (.int .i64 (L.getD k 0)) ∧ w'' = w'

end Go.Proofs.Ytcbgnfjnjfaacaa.Hb
