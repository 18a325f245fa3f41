/-
  What is kept where rows are marked.
-/
import Derived.Test.YtkakdldhinimoaaMf
namespace Go.Proofs.Ytkakdldhinimoaa.Lk
open Go Go.RowKit
open Num Pl Hr Mf

theorem below_kept {B g n : Nat} {w0 w w' : World} (hb : Below B w0 w) (hB : B ≤ w.heap.size) (hk : Kept g n w w') (hg : n = 0 ∨ B ≤ g) : Below B w0 w' :=
  hb.trans ⟨hk.os, hk.tape, hk.output, hk.size, fun k h => hk.block k (Nat.lt_of_lt_of_le h hB) (hg.imp id (by omega))⟩
theorem rd_kept {g n : Nat} {w w' : World} {a : Option Addr} {b off : Nat} {l : List Int} (hk : Kept g n w w') (hr : Rd w a b off l) (hne : l.length = 0 ∨ n = 0 ∨ b ≠ g) : Rd w' a b off l := by
  refine ⟨hr.head, fun i hi => ?_, hr.size⟩
  rcases hne with h0 | h1
  · omega
  · exact (World.cell?_of_block (hk.block b (World.block_lt_of_cell? _ _ (hr.cell i hi)) h1)).trans (hr.cell i hi)
theorem wt_kept {g n : Nat} {w w' : World} {a : Option Addr} {b : Nat} {l : List Int} (hk : Kept g n w w') (hr : Wt w a b l) (hne : l.length = 0 ∨ n = 0 ∨ b ≠ g) : Wt w' a b l := by
  refine ⟨hr.head, fun i hi => ?_, fun i hi => ?_, hr.size⟩
  · have := (rd_kept hk hr.rd hne).cell i hi
    simpa using this
  · rcases hne with h0 | h1
    · omega
    · have hb := hk.block b (World.block_lt_of_cell? _ _ (hr.cell i hi)) h1
      have := hr.free i hi
      simp only [World.frozen?, hb] at this ⊢
      exact this
theorem mine_kept {g n b : Nat} {w w' : World} {l : List Int} (hk : Kept g n w w') (hm : Mine w b l) (hne : n = 0 ∨ b ≠ g) : Mine w' b l :=
  ⟨hm.row.of_block (hk.block b hm.row.lt hne), hm.size⟩
theorem mine_kept2 {g n g' n' b : Nat} {w w' : World} {l : List Int} (hk : Kept2 g n g' n' w w') (hm : Mine w b l) (hne : (n = 0 ∨ b ≠ g) ∧ (n' = 0 ∨ b ≠ g')) : Mine w' b l :=
  ⟨hm.row.of_block (hk.block b hm.row.lt hne.1 hne.2), hm.size⟩

end Go.Proofs.Ytkakdldhinimoaa.Lk
