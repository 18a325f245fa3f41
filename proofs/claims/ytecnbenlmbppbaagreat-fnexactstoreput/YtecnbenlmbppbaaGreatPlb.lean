/-
  Contracts of the law's helpers over packets: the size, a copy, held against each other, marks.
-/
import Derived.Test.YtecnbenlmbppbaaGreatPut
import Derived.Test.YtecnbenlmbppbaaGreatPl
namespace Go.Proofs.YtecnbenlmbppbaaGreat.Pl
open Go.RowKit
set_option maxRecDepth 8000
open Num Rw Mk

theorem below_only {g : Nat} {w w1 w2 : World} (hb : Below w.heap.size w w1) (h : Only g w1 w2) : Only g w w2 :=
  ⟨h.os.trans hb.os, h.tape.trans hb.tape, h.output.trans hb.output, Nat.le_trans hb.size h.size, fun k hk hne => (h.block k (Nat.lt_of_lt_of_le hk hb.size) hne).trans (hb.block k hk)⟩

theorem Bl.cell {w : World} {g : Nat} {cs : Array Value} {t : TypeId} {fr : Nat × Nat} (h : w.heap[g]? = some (.cells cs t fr)) (i : Nat) : w.cell? ⟨g, i, none⟩ = cs[i]? := by simp [World.cell?, h]
theorem Bl.free {w : World} {g : Nat} {cs : Array Value} {t : TypeId} (h : w.heap[g]? = some (.cells cs t (0, 0))) (i : Nat) : w.frozen? ⟨g, i, none⟩ = false := by simp [World.frozen?, h]

theorem mine_set {w : World} {g : Nat} {l : List Int} {a : Addr} {u : Value} (h : Mine w g l) (hne : ¬ a.block = g) : Mine (w.setCell a u) g l :=
  ⟨h.row.of_block (Below.heap_setCell w a u g (fun e => hne e.symm)), h.size, h.byt⟩

end Go.Proofs.YtecnbenlmbppbaaGreat.Pl
