/-
  Blocks by alloc.
-/
import Derived.Test.YtljlgjgfmgilaaaGreatRow
namespace Go.Proofs.YtljlgjgfmgilaaaGreat.Pl
open Go.RowKit
set_option maxRecDepth 8000
open Num Rw

theorem below_alloc1 (w : World) (o : Obj) : Below w.heap.size w (w.alloc o) := (Below.refl _ _).alloc (Nat.le_refl _) o
theorem below_alloc2 (w : World) (o p : Obj) : Below w.heap.size w ((w.alloc o).alloc p) := Rw.next (below_alloc1 _ _) (below_alloc1 _ _)
theorem at_new {w : World} {n : Nat} {cs : Array Value} {t : TypeId} (h : n = w.heap.size) : (w.alloc (.cells cs t)).heap[n]? = some (.cells cs t (0, 0)) := by subst h; exact heap_alloc_new _ _
theorem at_old {w : World} {n : Nat} {o : Obj} (h : n < w.heap.size) : (w.alloc o).heap[n]? = w.heap[n]? := (below_alloc1 w o).block n h
theorem blk_lt {w : World} {g : Nat} {o : Obj} (h : w.heap[g]? = some o) : g < w.heap.size := by
  rcases Nat.lt_or_ge g w.heap.size with h1 | h1
  · exact h1
  · rw [Array.getElem?_eq_none h1] at h; cases h
theorem two {w : World} {g : Nat} {u v : Value} {t : TypeId} {fr : Nat × Nat} (h : w.heap[g]? = some (.cells #[u, v] t fr)) : w.cell? ⟨g, 0, none⟩ = some u ∧ w.cell? ⟨g, 1, none⟩ = some v := by
  simp [World.cell?, h]
theorem one {w : World} {g : Nat} {u : Value} {t : TypeId} {fr : Nat × Nat} (h : w.heap[g]? = some (.cells #[u] t fr)) : w.cell? ⟨g, 0, none⟩ = some u := by
  simp [World.cell?, h]
theorem add_eq (b off n : Nat) : (⟨b, off, none⟩ : Addr).add n = ⟨b, off + n, none⟩ := by
  unfold Addr.add
  split
  · next h => simp_all
  · rfl

end Go.Proofs.YtljlgjgfmgilaaaGreat.Pl
