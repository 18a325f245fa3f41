/-
  Contracts of the two SmallHead, on every three integers.
-/
import Derived.Test.YtkakdldhinimoaaHb
namespace Go.Proofs.Ytkakdldhinimoaa.Hs
open Go Go.RowKit
open Num Pl Hr Hh Hf Hg Hb

theorem k8 {k : Nat} (h : k < 8) : k = 0 ∨ k = 1 ∨ k = 2 ∨ k = 3 ∨ k = 4 ∨ k = 5 ∨ k = 6 ∨ k = 7 := by omega

/-- A head in memory of the call's own. -/
def ResH (w : World) (L : List Int) (e : Ending) (w' : World) : Prop :=
  ∃ a g cap, e = .returned (.agg #[.slice a L.length cap]) ∧ Wt w' a g L ∧ w.heap.size ≤ g ∧ Below w.heap.size w w'

theorem wt_built {w : World} {g : Nat} {x0 x1 x2 x3 x4 x5 x6 x7 : Int} (h : w.heap[g]? = some (.cells #[.int .i64 x0, .int .i64 x1, .int .i64 x2, .int .i64 x3, .int .i64 x4, .int .i64 x5, .int .i64 x6, .int .i64 x7] 3 (0, 0))) :
    Wt w (some ⟨g, 0, none⟩) g [x0, x1, x2, x3, x4, x5, x6, x7] := by
  refine ⟨fun _ => rfl, fun i hi => ?_, fun i _ => Bl.free h i, by simp⟩
  have hi8 : i < 8 := hi
  rw [Bl.cell h]
  rcases k8 hi8 with rfl | rfl | rfl | rfl | rfl | rfl | rfl | rfl <;> rfl

theorem wt_set {w : World} {a : Option Addr} {g : Nat} {l : List Int} {ad : Addr} {u : Value} (h : Wt w a g l) (hne : ¬ ad.block = g) : Wt (w.setCell ad u) a g l := by
  have e : (w.setCell ad u).heap[g]? = w.heap[g]? := Below.heap_setCell w ad u g (fun e => hne e.symm)
  refine ⟨h.head, fun i hi => ?_, fun i hi => ?_, h.size⟩
  · have := h.cell i hi
    simp only [World.cell?, e] at this ⊢
    exact this
  · have := h.free i hi
    simp only [World.frozen?, e] at this ⊢
    exact this

/-- The list of a small head. -/
def smL (i s d : Int) : List Int := [i, s, d, 2048, 0, 0, 0, 0]
/-- What SmallHead answers. -/
def smallL (i s d : Int) : List Int := if headB (smL i s d) = true then smL i s d else []

end Go.Proofs.Ytkakdldhinimoaa.Hs
