/-
  Both RelOk: rows that fit, rows that rise.
-/
import Derived.Test.YtljlgjgfmgilaaaGreatRa
import Derived.BigQuiet
import Derived.Laws.EntriesVeiled
namespace Go.Proofs.YtljlgjgfmgilaaaGreat.Rl
set_option maxRecDepth 8000
set_option linter.unusedSimpArgs false
set_option linter.unusedVariables false
open Go Go.RowKit
open Num Word Pl Rp
open Vl (ordRow)

theorem rises_iff : ∀ (R : List RowL), risesB R = true ↔ ∀ i, i + 1 < R.length → ordRow (R.getD i []) (R.getD (i + 1) []) < 0
  | [] => by simp [risesB]
  | [x] => by simp [risesB]
  | x :: y :: t => by
    rw [risesB, Bool.and_eq_true, decide_eq_true_eq, rises_iff (y :: t)]
    constructor
    · rintro ⟨h1, h2⟩ i hi
      match i with
      | 0 => simpa [List.getD] using h1
      | i + 1 => have := h2 i (by simp at hi ⊢; omega); simpa [List.getD] using this
    · intro h
      refine ⟨by have := h 0 (by simp); simpa [List.getD] using this, fun i hi => ?_⟩
      have := h (i + 1) (by simp at hi ⊢; omega); simpa [List.getD] using this

/-- Does the row fit the arity? -/
def fitB (ar : Int) (l : RowL) : Bool := decide ((l.length : Int) = ar) && Vl.rowB l
theorem rord_right {l m : RowL} (h : Vl.rowB l = true) (k : Vl.rowB m = true) : Vl.rordB l m = ordRow l m := by unfold Vl.rordB; simp [h, k]

theorem rowSet_any (ar : Int) (v : Value) (n c : Nat) (a : Option Addr) (w : World) :
    Calls Tryz.prog 97 #[.agg #[.int .i64 ar, .slice a n c]] w fun e w' => e = .returned (.agg #[.slice a n c, .func (.func 121) #[] #[]]) ∧ Below w.heap.size w w' := by
  have B : Below w.heap.size w ((w.alloc (.cells #[.int .i64 ar, .slice a n c] 69)).alloc (.cells #[.slice a n c, .func (.func 121) #[] #[]] 139)) := below_alloc2 _ _ _
  go_enter Tryz.func97, Tryz.ntmps97
  go_wp2
  exact bodyPost_ret (v := .agg #[.slice a n c, .func (.func 121) #[] #[]]) (by simp [results, Tryz.results97, go_sem]) rfl ⟨rfl, B⟩

end Go.Proofs.YtljlgjgfmgilaaaGreat.Rl
