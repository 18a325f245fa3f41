/-
  Arguments that are values or rows; rows of values: one that reads as a list, one of the call's own; sizes, copies, likeness.
-/
import Derived.Test.YtljlgjgfmgilaaaGreatVo
import Derived.OpenShut
import Derived.Deep.Slices
import Derived.Laws.MakeOwn
import Derived.Deep.RegionWith
namespace Go.Proofs.YtljlgjgfmgilaaaGreat.Vl
set_option maxRecDepth 8000
set_option linter.unusedSimpArgs false
set_option linter.unusedVariables false
open Go Go.ChangeShapes Go.WideShapes Go.RowKit
open Num Word Pl

theorem array1 {α : Type} {cs : Array α} (h : cs.size = 1) : ∃ a, cs = #[a] := by
  obtain ⟨l⟩ := cs
  match l, h with
  | [a], _ => exact ⟨a, rfl⟩
theorem array2 {α : Type} {cs : Array α} (h : cs.size = 2) : ∃ a b, cs = #[a, b] := by
  obtain ⟨l⟩ := cs
  match l, h with
  | [a, b], _ => exact ⟨a, b, rfl⟩

set_option maxHeartbeats 1000000 in
theorem open_val {H : Type} {enc : TypeId × Value → H} {W : World} {fuel : Nat} {cs : List Value} {x : DataW H × List MemPlace}
    (h : DataW.trod enc Tryz.prog W 0 (fun _ => true) true fuel 152 cs = some x) : ∃ q : V2, cs = [.int .i64 q.1, .string q.2] ∧ q.2.size ≤ maxLen := by
  have c3 : Tryz.prog.cellsOf 3 = 1 := by kernel_rfl
  have c9 : Tryz.prog.cellsOf 9 = 1 := by kernel_rfl
  have c23 : Tryz.prog.cellsOf 152 = 2 := by kernel_rfl
  obtain ⟨xs, k, _, _, hl, hxl, hf⟩ := DataW.trod_struct Tryz.underlying152 h
  rw [c23] at hl
  match xs, hxl, cs, hl with
  | [y0, y1], _, [v0, v1], _ =>
    have g0 := hf 0 _ rfl
    have g1 := hf 1 _ rfl
    simp [c3, c9] at g0 g1
    obtain ⟨q0, r0, _⟩ := DataW.trod_int Tryz.underlying3 g0
    obtain ⟨q1, r1, _, hm⟩ := DataW.trod_string Tryz.underlying9 g1
    simp at r0 r1
    subst r0 r1
    exact ⟨(q0, q1), rfl, hm⟩
theorem open_value {H : Type} {enc : TypeId × Value → H} {W : World} {r : Reach} {b0 : Nat} {v : Value} {d : DataW H} {p : List MemPlace}
    (hv : Value.okWide Tryz.prog W r b0 152 v) (h : DataW.Trod enc Tryz.prog W 0 (fun _ => true) true 152 v d p) : ∃ n s, v = .agg #[.int .i64 n, .string s] ∧ s.size ≤ maxLen := by
  obtain ⟨cs, rfl, _⟩ := okWide_struct Tryz.underlying152 hv
  obtain ⟨fuel, hf⟩ := h
  obtain ⟨q, hq, hi⟩ := open_val hf
  refine ⟨q.1, q.2, ?_, hi⟩
  simp only [Value.cells] at hq
  have : cs = #[.int .i64 q.1, .string q.2] := by
    apply Array.ext'
    simpa using hq
  rw [this]

def At2 (w : World) (b off i : Nat) (x : V2) : Prop :=
  w.cell? ⟨b, off + i * 2, none⟩ = some (.int .i64 x.1) ∧ w.cell? ⟨b, off + i * 2 + 1, none⟩ = some (.string x.2)
theorem At2.lt {w : World} {b off i : Nat} {x : V2} (h : At2 w b off i x) : b < w.heap.size := World.block_lt_of_cell? _ _ h.1
theorem At2.of {w w' : World} {b off i : Nat} {x : V2} {n : Nat} (h : At2 w b off i x) (hb : Below n w w') (hn : b < n := by omega) : At2 w' b off i x := by
  refine ⟨(hb.cell ?_).trans h.1, (hb.cell ?_).trans h.2⟩ <;> exact hn
theorem At2.below {w w' : World} {b off i : Nat} {x : V2} (h : At2 w b off i x) (hb : Below w.heap.size w w') : At2 w' b off i x := h.of hb h.lt

/-- The slice at 'a' (its head at block b, offset off, where it is not empty) reads as the values l. -/
structure Rd (w : World) (a : Option Addr) (b off : Nat) (l : List V2) : Prop where
  head : 0 < l.length → a = some ⟨b, off, none⟩
  cell : ∀ i, i < l.length → At2 w b off i (l.getD i z2)
  size : l.length ≤ 4194304
  str : ∀ i, i < l.length → (l.getD i z2).2.size ≤ maxLen
theorem Rd.below {w w' : World} {a : Option Addr} {b off : Nat} {l : List V2} (h : Rd w a b off l) (hb : Below w.heap.size w w') : Rd w' a b off l :=
  ⟨h.head, fun i hi => (h.cell i hi).below hb, h.size, h.str⟩

/-- What is told of a slice of values that came in. -/
def IsRow (w : World) (a : Option Addr) (l : List V2) : Prop :=
  l.length ≤ maxLen ∧ (∀ i, i < l.length → (l.getD i z2).2.size ≤ maxLen) ∧ (l.length = 0 ∨ ∃ b off, a = some ⟨b, off, none⟩ ∧ ∀ i, i < l.length → At2 w b off i (l.getD i z2))
theorem IsRow.below {w w' : World} {a : Option Addr} {l : List V2} (h : IsRow w a l) (hb : Below w.heap.size w w') : IsRow w' a l := by
  obtain ⟨h1, h2, h3⟩ := h
  refine ⟨h1, h2, h3.imp id ?_⟩
  rintro ⟨b, off, e, hc⟩
  exact ⟨b, off, e, fun i hi => (hc i hi).below hb⟩
theorem rd_of_isRow {w : World} {a : Option Addr} {l : List V2} (h : IsRow w a l) (hlen : l.length ≤ 4194304) : ∃ b off, Rd w a b off l := by
  obtain ⟨h1, h2, h3 | ⟨b, off, e, hc⟩⟩ := h
  · exact ⟨0, 0, ⟨fun h => by omega, fun i hi => by omega, by omega, fun i hi => by omega⟩⟩
  · exact ⟨b, off, ⟨fun _ => e, hc, hlen, h2⟩⟩

/-- How much the words of the first k values take. -/
def tot (l : List V2) : Nat → Nat
  | 0 => 0
  | k + 1 => tot l k + (l.getD k z2).2.size
theorem tot_mono (l : List V2) {i j : Nat} (h : i ≤ j) : tot l i ≤ tot l j := by
  induction j with
  | zero => have : i = 0 := by omega
            subst this; exact Nat.le_refl _
  | succ j ih =>
    by_cases e : i = j + 1
    · subst e; exact Nat.le_refl _
    · have := ih (by omega)
      simp only [tot]; omega

end Go.Proofs.YtljlgjgfmgilaaaGreat.Vl
