/-
  Contracts of the law's helpers over inner datagrams: the size, a copy, held against each other, marks; opening an argument that is one.
-/
import Derived.Test.YthgbjbebjjeddaaLw
namespace Go.Proofs.Ythgbjbebjjeddaa.Ul
open Go.ChangeShapes Go.WideShapes Go.RowKit
open Num Rw Mk Pl Pf
set_option maxRecDepth 4000

theorem array3 {α : Type} {cs : Array α} (h : cs.size = 3) : ∃ c0 c1 c2, cs = #[c0, c1, c2] := by
  obtain ⟨l⟩ := cs
  match l, h with
  | [c0, c1, c2], _ => exact ⟨c0, c1, c2, rfl⟩

theorem three {w : World} {g : Nat} {v0 v1 v2 : Value} {t : TypeId} {fr : Nat × Nat} (k : w.heap[g]? = some (.cells #[v0, v1, v2] t fr)) :
    w.cell? ⟨g, 0, none⟩ = some v0 ∧ w.cell? ⟨g, 1, none⟩ = some v1 ∧ w.cell? ⟨g, 2, none⟩ = some v2 := by
  simp [World.cell?, k]

end Go.Proofs.Ythgbjbebjjeddaa.Ul
