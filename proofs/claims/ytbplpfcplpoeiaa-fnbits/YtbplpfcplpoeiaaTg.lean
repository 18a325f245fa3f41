/-
  Contracts of the two Tagged: what they answer, on every packet and every tag.
-/
import Derived.Test.YtbplpfcplpoeiaaApp
import Derived.Test.YtbplpfcplpoeiaaPf
namespace Go.Proofs.Ytbplpfcplpoeiaa.Tg
open Go Go.RowKit
open Num Rw Mk Un Put Pl App Pf

/-- A packet's cells. -/
theorem wt_set {w : World} {a : Option Addr} {g : Nat} {l : List Int} {ad : Addr} {u : Value} (h : Wt w a g l) (hne : ¬ ad.block = g) : Wt (w.setCell ad u) a g l :=
  ⟨h.head, fun i hi => (World.cell?_setCell_other _ _ _ _ (by intro q; apply hne; rw [q])).trans (h.cell i hi), fun i hi => by simpa using h.free i hi, h.size, h.byt⟩

/-- What 'Tagged' answers. -/
def Yes (w : World) (d s t y : Int) (l : List Int) (e : Ending) (w' : World) : Prop :=
  ∃ a g cap, e = .returned (.tuple #[.agg #[.int .i64 d, .int .i64 s, .int .i64 t, .int .i64 y, .slice a l.length cap], .bool true]) ∧ Wt w' a g l ∧ w.heap.size ≤ g ∧ (a = none → cap = 0) ∧ Below w.heap.size w w'
def No (w : World) (e : Ending) (w' : World) : Prop :=
  e = .returned (.tuple #[.agg #[.int .i64 0, .int .i64 0, .int .i64 0, .int .i64 0, .slice none 0 0], .bool false]) ∧ Below w.heap.size w w'

end Go.Proofs.Ytbplpfcplpoeiaa.Tg
