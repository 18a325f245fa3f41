/-
  Both Hop: what they answer, on every datagram.
-/
import Derived.Test.YthgbjbebjjeddaaSu
import Derived.Test.YthgbjbebjjeddaaDrawb
namespace Go.Proofs.Ythgbjbebjjeddaa.Ho
open Go Go.RowKit
open Num Rw Mk Un Put Pl App Pf Pb Ipl Hp Hd
set_option maxRecDepth 4000

theorem rd_set {w : World} {a : Option Addr} {b off : Nat} {l : List Int} {ad : Addr} {u : Value} (h : Rd w a b off l) (hne : l.length = 0 ∨ ¬ ad.block = b) : Rd (w.setCell ad u) a b off l :=
  ⟨h.head, fun i hi => (World.cell?_setCell_other _ _ _ _ (by intro q; rcases hne with h0 | h0; omega; apply h0; rw [q])).trans (h.cell i hi), h.size, h.byt⟩
theorem set0 {w : World} {g : Nat} {v0 v1 v2 v3 v4 u : Value} {t : TypeId} (h : w.heap[g]? = some (.cells #[v0, v1, v2, v3, v4] t (0, 0))) : (w.setCell ⟨g, 0, none⟩ u).heap[g]? = some (.cells #[u, v1, v2, v3, v4] t (0, 0)) := by simpa using Dr.three_set (o := 0) h u
theorem far {w : World} {g : Nat} {ad : Addr} {u : Value} (hne : ¬ ad.block = g) : (w.setCell ad u).heap[g]? = w.heap[g]? := Below.heap_setCell w ad u g (fun e => hne e.symm)

def No (w : World) (e : Ending) (w' : World) : Prop :=
  e = .returned (.tuple #[.agg #[.int .i64 0, .int .i64 0, .int .i64 0, .int .i64 0, .slice none 0 0], .bool false]) ∧ Below w.heap.size w w'
theorem res_no {w w' : World} {e : Ending} (h : No w e w') : Lw.ResB w 0 0 0 0 false [] e w' :=
  ⟨none, w.heap.size, 0, h.1, Wt.nil _ _ _, Nat.le_refl _, fun _ => rfl, h.2⟩

end Go.Proofs.Ythgbjbebjjeddaa.Ho
