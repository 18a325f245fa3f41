/-
  Entries of tables: what one says, one that is read, slices of them; sizes; opening an argument that is an entry or a table.
-/
import Derived.Test.YtcbgnfjnjfaacaaRg
import Derived.Test.YtcbgnfjnjfaacaaYb
namespace Go.Proofs.Ytcbgnfjnjfaacaa.Ea
set_option maxRecDepth 8000
open Go Go.ChangeShapes Go.WideShapes Go.RowKit
open Num Pl

/-- What an entry says: epoch, rank, the match's two lists, its actions, how often it was hit. -/
abbrev En := Int × Int × List Int × List Int × List Yb.A3 × Int

/-- An entry as it came in: its numbers and the heads of its slices. -/
structure Raw where
  ep : Int
  pr : Int
  aV : Option Addr
  nV : Nat
  cV : Nat
  aM : Option Addr
  nM : Nat
  cM : Nat
  aA : Option Addr
  nA : Nat
  cA : Nat
  h : Int
def Raw.vals (r : Raw) : Array Value := #[.int .i64 r.ep, .int .i64 r.pr, .slice r.aV r.nV r.cV, .slice r.aM r.nM r.cM, .slice r.aA r.nA r.cA, .int .i64 r.h]
def r0 : Raw := ⟨0, 0, none, 0, 0, none, 0, 0, none, 0, 0, 0⟩
def Raw.Is (w : World) (r : Raw) : Prop :=
  (∃ z, Rw.IsRow .i64 w r.aV r.nV r.cV z) ∧ (∃ z, Rw.IsRow .i64 w r.aM r.nM r.cM z) ∧ ∃ z, Yb.IsRow w r.aA r.nA z
def Raw.len (r : Raw) : Nat := r.nV + r.nM + r.nA
theorem Raw.Is.max {w : World} {r : Raw} (h : r.Is w) : r.nV ≤ maxLen ∧ r.nM ≤ maxLen ∧ r.nA ≤ maxLen := by
  obtain ⟨⟨_, h1⟩, ⟨_, h2⟩, ⟨_, h3⟩⟩ := h
  exact ⟨Hr.isRow_max h1, Hr.isRow_max h2, Yb.isRow_max h3⟩

/-- An entry that lies in memory: what it says, and where its slices lie. -/
structure Ent where
  ep : Int
  pr : Int
  V : List Int
  M : List Int
  A : List Yb.A3
  h : Int
  aV : Option Addr
  bV : Nat
  oV : Nat
  cV : Nat
  aM : Option Addr
  bM : Nat
  oM : Nat
  cM : Nat
  aA : Option Addr
  bA : Nat
  oA : Nat
  cA : Nat
def Ent.said (e : Ent) : En := (e.ep, e.pr, e.V, e.M, e.A, e.h)
def Ent.vals (e : Ent) : Array Value := #[.int .i64 e.ep, .int .i64 e.pr, .slice e.aV e.V.length e.cV, .slice e.aM e.M.length e.cM, .slice e.aA e.A.length e.cA, .int .i64 e.h]
def e0 : Ent := ⟨0, 0, [], [], [], 0, none, 0, 0, 0, none, 0, 0, 0, none, 0, 0, 0⟩
/-- The entry's slices read as it says, its numbers are the machine's. -/
structure Ent.Ok (w : World) (e : Ent) : Prop where
  rV : Hr.Rd w e.aV e.bV e.oV e.V
  rM : Hr.Rd w e.aM e.bM e.oM e.M
  rA : Yb.Rd w e.aA e.bA e.oA e.A
  wV : Po.Wide e.V
  wM : Po.Wide e.M
theorem Ent.Ok.below {w w' : World} {e : Ent} (h : e.Ok w) (hb : Below w.heap.size w w') : e.Ok w' :=
  ⟨h.rV.below hb, h.rM.below hb, h.rA.below hb, h.wV, h.wM⟩
theorem ok0 (w : World) : e0.Ok w :=
  ⟨⟨fun h => by simp [e0] at h, fun i h => by simp [e0] at h, by simp [e0]⟩, ⟨fun h => by simp [e0] at h, fun i h => by simp [e0] at h, by simp [e0]⟩, ⟨fun h => by simp [e0] at h, fun i h => by simp [e0] at h, by simp [e0]⟩, fun k => by simp [e0, Pm.I64], fun k => by simp [e0, Pm.I64]⟩

/-- The six cells of element i of the row that begins at ⟨b, off⟩ hold the values v. -/
def At6 (w : World) (b off i : Nat) (v : Array Value) : Prop :=
  ∀ j, j < 6 → w.cell? ⟨b, off + i * 6 + j, none⟩ = v[j]?
theorem At6.six {w : World} {b off i : Nat} {v0 v1 v2 v3 v4 v5 : Value} (h : At6 w b off i #[v0, v1, v2, v3, v4, v5]) :
    w.cell? ⟨b, off + i * 6, none⟩ = some v0 ∧ w.cell? ⟨b, off + i * 6 + 1, none⟩ = some v1 ∧ w.cell? ⟨b, off + i * 6 + 2, none⟩ = some v2 ∧ w.cell? ⟨b, off + i * 6 + 3, none⟩ = some v3 ∧ w.cell? ⟨b, off + i * 6 + 4, none⟩ = some v4 ∧ w.cell? ⟨b, off + i * 6 + 5, none⟩ = some v5 :=
  ⟨h 0 (by omega), h 1 (by omega), h 2 (by omega), h 3 (by omega), h 4 (by omega), h 5 (by omega)⟩
theorem At6.lt {w : World} {b off i : Nat} {v0 v1 v2 v3 v4 v5 : Value} (h : At6 w b off i #[v0, v1, v2, v3, v4, v5]) : b < w.heap.size := World.block_lt_of_cell? _ _ h.six.1
theorem At6.of {w w' : World} {b off i n : Nat} {v : Array Value} (h : At6 w b off i v) (hb : Below n w w') (hn : b < n) : At6 w' b off i v :=
  fun j hj => (hb.cell hn).trans (h j hj)

/-- The slice at 'a' (its head at block b, offset off, where it is not empty) reads as the entries Q. -/
structure Rd (w : World) (a : Option Addr) (b off : Nat) (Q : List Ent) : Prop where
  head : 0 < Q.length → a = some ⟨b, off, none⟩
  cell : ∀ i, i < Q.length → At6 w b off i (Q.getD i e0).vals
  ok : ∀ i, i < Q.length → (Q.getD i e0).Ok w
  size : Q.length ≤ 4194304
theorem rd_lt {w : World} {a : Option Addr} {b off : Nat} {Q : List Ent} (h : Rd w a b off Q) : Q.length = 0 ∨ b < w.heap.size := by
  rcases Nat.eq_zero_or_pos Q.length with h0 | h0
  · exact .inl h0
  · exact .inr (h.cell 0 h0).lt
theorem Rd.below {w w' : World} {a : Option Addr} {b off : Nat} {Q : List Ent} (h : Rd w a b off Q) (hb : Below w.heap.size w w') : Rd w' a b off Q := by
  refine ⟨h.head, fun i hi => (h.cell i hi).of hb ?_, fun i hi => (h.ok i hi).below hb, h.size⟩
  rcases rd_lt h with h0 | h0
  · omega
  · exact h0

theorem szE_at (r : Raw) (L L' : Nat) (w : World) (h : r.len + L' = L) (hL : L ≤ 1048576) :
    Calls Try.prog 33 #[.agg r.vals, .int .i64 L] w fun e w' => e = .returned (.int .i64 L') ∧ Below w.heap.size w w' := by
  obtain ⟨ep, pr, aV, nV, cV, aM, nM, cM, aA, nA, cA, hh⟩ := r
  simp only [Raw.len] at h
  simp only [Raw.vals]
  obtain ⟨L1, h1⟩ : ∃ L1 : Nat, nA + L' = L1 := ⟨_, rfl⟩
  have hp1 : ¬ ((L1 : Int) < 0) := by omega
  have hp2 : ¬ ((L' : Int) < 0) := by omega
  have e2 : (L1 : Int) - (nA : Int) = (L' : Int) := by omega
  obtain ⟨W0, hW0⟩ : ∃ W0, W0 = w.alloc (.cells #[.int .i64 ep, .int .i64 pr, .slice aV nV cV, .slice aM nM cM, .slice aA nA cA, .int .i64 hh] 57) := ⟨_, rfl⟩
  have B0 : Below w.heap.size w W0 := by subst hW0; exact below_alloc1 _ _
  have k0 : W0.heap[w.heap.size]? = some (.cells #[.int .i64 ep, .int .i64 pr, .slice aV nV cV, .slice aM nM cM, .slice aA nA cA, .int .i64 hh] 57 (0, 0)) := by subst hW0; exact at_new rfl
  go_enter Try.func33, Try.ntmps33
  go_wp2_with (first
    | (go_at_call 46; rw [← hW0]; refine (Rg.szM_at _ _ _ _ _ _ L L1 _ (by omega) hL).mono ?_; rintro e wa ⟨rfl, hb⟩; have q4 : wa.cell? ⟨w.heap.size, 4, none⟩ = some (.slice aA nA cA) := by simp [World.cell?, (hb.block _ (Array.getElem?_eq_some_iff.1 k0).1).trans k0])
    | (go_at_call 103; refine (Yb.sz_small _ _ _ L1 _ (by omega) (by omega)).mono ?_; rw [e2]; rintro e wb ⟨rfl, hw⟩; replace hw := hw.symm; subst hw))
  go_ret
  exact ⟨rfl, Rw.next B0 hb⟩

theorem szE_big (r : Raw) (L : Nat) (w : World) (h : L < r.len) (hL : L ≤ 1048576) (hm : r.nV ≤ maxLen ∧ r.nM ≤ maxLen ∧ r.nA ≤ maxLen) :
    Calls Try.prog 33 #[.agg r.vals, .int .i64 L] w fun e w' => e = .returned (.int .i64 (-1)) ∧ Below w.heap.size w w' := by
  obtain ⟨ep, pr, aV, nV, cV, aM, nM, cM, aA, nA, cA, hh⟩ := r
  simp only [Raw.len] at h
  simp only at hm
  obtain ⟨m1, m2, m3⟩ := hm
  simp only [Raw.vals]
  obtain ⟨W0, hW0⟩ : ∃ W0, W0 = w.alloc (.cells #[.int .i64 ep, .int .i64 pr, .slice aV nV cV, .slice aM nM cM, .slice aA nA cA, .int .i64 hh] 57) := ⟨_, rfl⟩
  have B0 : Below w.heap.size w W0 := by subst hW0; exact below_alloc1 _ _
  have k0 : W0.heap[w.heap.size]? = some (.cells #[.int .i64 ep, .int .i64 pr, .slice aV nV cV, .slice aM nM cM, .slice aA nA cA, .int .i64 hh] 57 (0, 0)) := by subst hW0; exact at_new rfl
  by_cases h1 : L < nV + nM
  · go_enter Try.func33, Try.ntmps33
    go_wp2_with (go_at_call 46; rw [← hW0]; refine (Lm.szM_big _ _ _ _ _ _ L _ h1 hL m1 m2).mono ?_; rintro e wa ⟨rfl, hb⟩)
    go_ret
    exact ⟨rfl, Rw.next B0 hb⟩
  · obtain ⟨L1, e1⟩ : ∃ L1 : Nat, nV + nM + L1 = L := ⟨L - nV - nM, by omega⟩
    have hp1 : ¬ ((L1 : Int) < 0) := by omega
    go_enter Try.func33, Try.ntmps33
    go_wp2_with (first
      | (go_at_call 46; rw [← hW0]; refine (Rg.szM_at _ _ _ _ _ _ L L1 _ e1 hL).mono ?_; rintro e wa ⟨rfl, hb⟩; have q4 : wa.cell? ⟨w.heap.size, 4, none⟩ = some (.slice aA nA cA) := by simp [World.cell?, (hb.block _ (Array.getElem?_eq_some_iff.1 k0).1).trans k0])
      | (go_at_call 103; refine (Yb.sz_big _ _ _ L1 _ (by omega) (by omega) m3).mono ?_; rintro e wb ⟨rfl, hw⟩; replace hw := hw.symm; subst hw))
    go_ret
    exact ⟨rfl, Rw.next B0 hb⟩

end Go.Proofs.Ytcbgnfjnjfaacaa.Ea
