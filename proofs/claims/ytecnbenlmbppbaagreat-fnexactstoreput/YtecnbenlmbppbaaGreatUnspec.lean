/-
  A slice of bytes of the call's own.
-/
import Derived.Test.YtecnbenlmbppbaaGreatMark
namespace Go.Proofs.YtecnbenlmbppbaaGreat.Un
open Go.RowKit
set_option maxRecDepth 8000
open Num Rw Mk

/-- A slice of the call's own, not nil, that holds the bytes l. -/
def HasI (w : World) (base : Nat) (v : Value) (l : List Int) : Prop := w.ownsRow base 5 1 v l.length (l.map (Value.int .u8)) ∧ v ≠ .slice none 0 0

theorem hasI_step {w wr w1 : World} {B : Nat} {v v' : Value} {l : List Int} {x : Int} {o : Obj} (h : HasI wr B v l) (hbel : Below w.heap.size w wr) (hB : w.heap.size ≤ B)
    (h' : w1.ownsRow B 5 1 v' (l.length + 1) (l.map (Value.int .u8) ++ [.int .u8 x])) (hg : (wr.alloc o).grownBy w1 v.ownBlock) (hn : v' = .slice none 0 0 ↔ v = .slice none 0 0 ∧ 1 = 0) :
    HasI w1 B v' (l ++ [x]) ∧ Below w.heap.size w w1 := by
  refine ⟨⟨?_, fun e => ?_⟩, ?_⟩
  · simpa using h'
  · have := hn.1 e; simp at this
  · have hs := hbel.size
    exact ((hbel.alloc hs o).grown hg (by simp; omega) (fun k hk => by have := (h.1.lt k hk).1; omega))

theorem hasI_form {w : World} {B : Nat} {v : Value} {l : List Int} (h : HasI w B v l) (hs : l.length ≤ 4194304) (hy : Byt l) :
    ∃ g cap, v = .slice (some ⟨g, 0, none⟩) l.length cap ∧ B ≤ g ∧ Wt w (some ⟨g, 0, none⟩) g l := by
  rcases h.1.2 with ⟨rfl, _⟩ | ⟨g, cap, cur, rfl, hb, hh, _, _, _, ht⟩
  · exact absurd rfl h.2
  · refine ⟨g, cap, rfl, hb, ⟨fun _ => rfl, fun i hi => ?_, fun i _ => by simp [World.frozen?, hh], hs, hy⟩⟩
    have := h.1.cells (g := g) rfl i (.int .u8 (l.getD i 0)) (by simp [hi, List.getD])
    by_cases ei : i = 0
    · subst ei; simpa [Addr.add] using this
    · simpa [Addr.add, ei] using this

theorem one_new (w : World) (x : Value) (t : TypeId) : ∀ j u, [x][j]? = some u → (w.alloc (.cells #[x] t)).cell? ((⟨w.heap.size, 0, none⟩ : Addr).add j) = some u := by
  intro j u hj
  match j, hj with
  | 0, hj => simp at hj; subst hj; simp [Addr.add]
  | j + 1, hj => simp at hj

end Go.Proofs.YtecnbenlmbppbaaGreat.Un
