/-
  What came in, once its size is known: entries and slices of entries that are read.
-/
import Derived.Test.YtcbgnfjnjfaacaaEf
namespace Go.Proofs.Ytcbgnfjnjfaacaa.Ea
set_option maxRecDepth 8000
open Go Go.RowKit
open Num Pl

theorem ent_of_raw {w : World} {r : Raw} (h : r.Is w) (hl : r.len ≤ 1048576) : ∃ e : Ent, e.vals = r.vals ∧ e.Ok w := by
  obtain ⟨ep, pr, aV, nV, cV, aM, nM, cM, aA, nA, cA, hh⟩ := r
  obtain ⟨⟨zV, h1⟩, ⟨zM, h2⟩, ⟨zA, h3⟩⟩ := h
  simp only [Raw.len] at hl
  simp only at h1 h2 h3
  obtain ⟨bV, oV, V, lV, rV, wV⟩ := Lm.rd_wide h1 (by omega)
  obtain ⟨bM, oM, M, lM, rM, wM⟩ := Lm.rd_wide h2 (by omega)
  obtain ⟨bA, oA, A, lA, rA⟩ := Yb.rd_of_isRow h3 (by omega)
  exact ⟨⟨ep, pr, V, M, A, hh, aV, bV, oV, cV, aM, bM, oM, cM, aA, bA, oA, cA⟩, by simp [Ent.vals, Raw.vals, lV, lM, lA], ⟨rV, rM, rA, wV, wM⟩⟩
theorem len_le_tot (R : List Raw) {i : Nat} (h : i < R.length) : (R.getD i r0).len ≤ tot R R.length := by
  have := tot_mono R (i := i + 1) (j := R.length) (by omega)
  simp only [tot] at this
  omega
instance : Inhabited Ent := ⟨e0⟩
theorem rd_of_isRow {w : World} {a : Option Addr} {R : List Raw} (h : IsRow w a R) (hl : R.length + tot R R.length ≤ 1048576) : ∃ b off Q, List.length Q = R.length ∧ Rd w a b off Q := by
  obtain ⟨_, hi, hc⟩ := h
  obtain ⟨q, hq⟩ := Deep.choose_lt (n := R.length) (fun i h => ent_of_raw (hi i h) (by have := len_le_tot R h; omega))
  have ge : ∀ i, i < R.length → ((List.range R.length).map q).getD i e0 = q i := fun i hi => by simp [List.getD, hi]
  rcases hc with h0 | ⟨b, off, rfl, hc⟩
  · exact ⟨0, 0, [], h0.symm, ⟨fun h => by simp at h, fun i h => by simp at h, fun i h => by simp at h, by simp⟩⟩
  · refine ⟨b, off, (List.range R.length).map q, by simp, ⟨fun _ => rfl, fun i hi => ?_, fun i hi => ?_, by simp; omega⟩⟩
    · simp only [List.length_map, List.length_range] at hi
      rw [ge i hi, (hq i hi).1]
      exact hc i hi
    · simp only [List.length_map, List.length_range] at hi
      rw [ge i hi]
      exact (hq i hi).2

end Go.Proofs.Ytcbgnfjnjfaacaa.Ea
