/-
  What marks in terms, literals and rules leave as it was.
-/
import Derived.Test.YtmpobkbjjnafmaaMt
import Derived.Test.YtmpobkbjjnafmaaPrb
namespace Go.Proofs.Ytmpobkbjjnafmaa.Xg
set_option maxRecDepth 8000
set_option linter.unusedSimpArgs false
set_option linter.unusedVariables false
open Go Go.ChangeShapes Go.WideShapes Go.RowKit
open Num Pl
open Pm (Tm tm0 Lm lm0 Rm Atm kdTm kdLm kdRm Rd Sl told)

def isS (v : Value) : Prop := ∃ a n c, v = .slice a n c
/-- Of the blocks from lo on and below hi cells may be written, but none that holds a slice. -/
structure Fr (lo hi : Nat) (w w' : World) : Prop where
  os : w'.os = w.os
  tape : w'.tape = w.tape
  output : w'.output = w.output
  size : w.heap.size ≤ w'.heap.size
  out : ∀ z : Nat, z < w.heap.size → ¬ (lo ≤ z ∧ z < hi) → w'.heap[z]? = w.heap[z]?
  shp : ∀ (z : Nat) (cs : Array Value) (t : TypeId), w.heap[z]? = some (.cells cs t (0, 0)) → ∃ cs' : Array Value, w'.heap[z]? = some (.cells cs' t (0, 0)) ∧ cs'.size = cs.size ∧ ∀ (j : Nat) (v : Value), isS v → (cs'[j]? = some v ↔ cs[j]? = some v)
variable {lo hi : Nat} {w w1 w2 : World}
theorem Fr.refl (lo hi : Nat) (w : World) : Fr lo hi w w := ⟨rfl, rfl, rfl, Nat.le_refl _, fun _ _ _ => rfl, fun z cs t h => ⟨cs, h, rfl, fun _ _ _ => Iff.rfl⟩⟩
theorem Fr.trans (h : Fr lo hi w w1) (k : Fr lo hi w1 w2) : Fr lo hi w w2 :=
  ⟨k.os.trans h.os, k.tape.trans h.tape, k.output.trans h.output, Nat.le_trans h.size k.size, fun z hz hp => (k.out z (Nat.lt_of_lt_of_le hz h.size) hp).trans (h.out z hz hp), fun z cs t q => by
    obtain ⟨c1, q1, s1, i1⟩ := h.shp z cs t q
    obtain ⟨c2, q2, s2, i2⟩ := k.shp z c1 t q1
    exact ⟨c2, q2, s2.trans s1, fun j v hv => (i2 j v hv).trans (i1 j v hv)⟩⟩
theorem Fr.next (h : Fr lo hi w w1) (hb : Below w1.heap.size w1 w2) : Fr lo hi w w2 :=
  h.trans ⟨hb.os, hb.tape, hb.output, hb.size, fun z hz _ => hb.block z hz, fun z cs t q => ⟨cs, (hb.block z (blk_lt q)).trans q, rfl, fun _ _ _ => Iff.rfl⟩⟩
theorem Fr.set {g j : Nat} {u v : Value} {cs : Array Value} {t : TypeId} (h : Fr lo hi w w1) (hg : lo ≤ g ∧ g < hi) (hc : w1.heap[g]? = some (.cells cs t (0, 0))) (hv : cs[j]? = some v) (hnv : ¬ isS v) (hu : ¬ isS u) : Fr lo hi w (w1.setCell ⟨g, j, none⟩ u) :=
  h.trans ⟨rfl, rfl, rfl, by simp, fun z _ hp => Below.heap_setCell _ _ _ _ (fun e : z = g => hp (by rw [e]; exact hg)), fun z ds t' q => by
    by_cases e : z = g
    · subst e
      rw [hc] at q
      simp only [Option.some.injEq, Obj.cells.injEq] at q
      obtain ⟨rfl, rfl, _⟩ := q
      refine ⟨cs.setIfInBounds j u, by simp [World.setCell, Array.getElem?_modify, hc], by simp, fun i x hx => ?_⟩
      rw [Array.getElem?_setIfInBounds]
      by_cases ei : j = i
      · subst ei
        rw [if_pos rfl, hv]
        constructor
        · intro q
          split at q
          · obtain rfl := Option.some.inj q; exact absurd hx hu
          · cases q
        · intro q
          obtain rfl := Option.some.inj q; exact absurd hx hnv
      · rw [if_neg ei]
    · exact ⟨ds, (Below.heap_setCell _ _ _ _ (by exact e)).trans q, rfl, fun _ _ _ => Iff.rfl⟩⟩
/-- A cell that held no slice holds none, and may be written. -/
theorem Fr.cell {g j : Nat} {v : Value} {cs : Array Value} {t : TypeId} (h : Fr lo hi w w1) (hc : w.heap[g]? = some (.cells cs t (0, 0))) (hv : w.cell? ⟨g, j, none⟩ = some v) (hn : ¬ isS v) :
    ∃ cs' u, w1.heap[g]? = some (.cells cs' t (0, 0)) ∧ cs'[j]? = some u ∧ ¬ isS u := by
  obtain ⟨cs', q, hs, hi⟩ := h.shp g cs t hc
  have hv' : cs[j]? = some v := by simpa [World.cell?, hc] using hv
  have hj : j < cs'.size := by rw [hs]; exact (Array.getElem?_eq_some_iff.1 hv').1
  refine ⟨cs', cs'[j], q, by simp [hj], fun hu => ?_⟩
  have := (hi j _ hu).1 (by simp [hj])
  rw [hv'] at this
  obtain rfl := Option.some.inj this
  exact hn hu
/-- A cell that held a slice holds it. -/
theorem Fr.slice {g j : Nat} {a : Option Addr} {n c : Nat} {cs : Array Value} {t : TypeId} (h : Fr lo hi w w1) (hc : w.heap[g]? = some (.cells cs t (0, 0))) (hv : w.cell? ⟨g, j, none⟩ = some (.slice a n c)) : w1.cell? ⟨g, j, none⟩ = some (.slice a n c) := by
  obtain ⟨cs', q, hs, hi⟩ := h.shp g cs t hc
  have hv' : cs[j]? = some (.slice a n c) := by simpa [World.cell?, hc] using hv
  have := (hi j _ ⟨a, n, c, rfl⟩).2 hv'
  simpa [World.cell?, q] using this
theorem ns_str (s : ByteArray) : ¬ isS (.string s) := fun ⟨_, _, _, e⟩ => by cases e
theorem ns_int (k : IntKind) (i : Int) : ¬ isS (.int k i) := fun ⟨_, _, _, e⟩ => by cases e
/-- One store into such a cell: what the walk asks, and what it leaves. -/
theorem Fr.put {g j : Nat} {v u : Value} {cs : Array Value} {t : TypeId} (h : Fr lo hi w w1) (hg : lo ≤ g ∧ g < hi) (hc : w.heap[g]? = some (.cells cs t (0, 0))) (hv : w.cell? ⟨g, j, none⟩ = some v) (hn : ¬ isS v) (hu : ¬ isS u) :
    (∃ x, w1.cell? ⟨g, j, none⟩ = some x) ∧ w1.frozen? ⟨g, j, none⟩ = false ∧ Fr lo hi w (w1.setCell ⟨g, j, none⟩ u) := by
  obtain ⟨cs', x, q, hx, hnx⟩ := h.cell hc hv hn
  exact ⟨⟨x, by simp [World.cell?, q, hx]⟩, by simp [World.frozen?, q], h.set hg q hx hnx hu⟩

end Go.Proofs.Ytmpobkbjjnafmaa.Xg
