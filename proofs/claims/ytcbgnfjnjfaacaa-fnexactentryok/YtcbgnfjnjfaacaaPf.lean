/-
  Opening an argument that is a packet; the cells of a block of five.
-/
import Derived.Test.YtcbgnfjnjfaacaaPl
import Derived.ProofKit
import Derived.ChangeArms
import Derived.ChangeSlices
namespace Go.Proofs.Ytcbgnfjnjfaacaa.Pf
open Go.ChangeShapes Go.WideShapes Go.RowKit

theorem array5 {α : Type} {cs : Array α} (h : cs.size = 5) : ∃ c0 c1 c2 c3 c4, cs = #[c0, c1, c2, c3, c4] := by
  obtain ⟨l⟩ := cs
  match l, h with
  | [c0, c1, c2, c3, c4], _ => exact ⟨c0, c1, c2, c3, c4, rfl⟩

theorem five {w : World} {g : Nat} {v0 v1 v2 v3 v4 : Value} {t : TypeId} {fr : Nat × Nat} (k : w.heap[g]? = some (.cells #[v0, v1, v2, v3, v4] t fr)) :
    w.cell? ⟨g, 0, none⟩ = some v0 ∧ w.cell? ⟨g, 1, none⟩ = some v1 ∧ w.cell? ⟨g, 2, none⟩ = some v2 ∧ w.cell? ⟨g, 3, none⟩ = some v3 ∧ w.cell? ⟨g, 4, none⟩ = some v4 := by
  simp [World.cell?, k]

theorem some_of_len {α : Type} {xs : List α} {n i : Nat} (h : xs.length = n) (hi : i < n) : ∃ x, xs[i]? = some x := ⟨xs[i]'(by omega), by simp [h, hi]⟩

theorem isRow_max {W : World} {a : Option Addr} {len cap : Nat} {zs : List Int} (h : Rw.IsRow .u8 W a len cap zs) : len ≤ maxLen := by
  rcases h with ⟨_, rfl, _⟩ | ⟨_, _, h1, h2, _⟩
  · exact Nat.zero_le _
  · omega

end Go.Proofs.Ytcbgnfjnjfaacaa.Pf
