/-
  Contracts of the law's helpers over slices of bytes: copying one, holding two against each other.
-/
import Derived.Test.YtljlgjgfmgilaaaGreatNum
import Derived.WalkLawsBesides
import Derived.Deep.OwnRows
import Derived.Deep.LoopGhost
import Derived.OpenShut
namespace Go.Proofs.YtljlgjgfmgilaaaGreat.Rw
open Go.RowKit
set_option maxRecDepth 8000

theorem info5 : (Tryz.prog.info? 5).map (fun i => (i.zero, i.size, i.bytes)) = some (some (.int .u8 0), 1, 1) := by kernel_rfl

/-- Every number of the list is a byte. -/
def Byt (l : List Int) : Prop := ∀ n ∈ l, 0 ≤ n ∧ n ≤ 255

theorem Byt.at {l : List Int} (h : Byt l) (i : Nat) : 0 ≤ l.getD i 0 ∧ l.getD i 0 ≤ 255 := by
  by_cases hi : i < l.length
  · have e : l.getD i 0 = l[i] := by simp [List.getD, hi]
    rw [e]; exact h _ (List.getElem_mem hi)
  · have e : l.getD i 0 = 0 := by simp [List.getD, List.getElem?_eq_none (Nat.le_of_not_lt hi)]
    rw [e]; omega

/-- The slice at 'a' (its head at block b, offset off, where it is not empty) reads as the bytes l. -/
structure Rd (w : World) (a : Option Addr) (b off : Nat) (l : List Int) : Prop where
  head : 0 < l.length → a = some ⟨b, off, none⟩
  cell : ∀ i, i < l.length → w.cell? ⟨b, off + i, none⟩ = some (.int .u8 (l.getD i 0))
  size : l.length ≤ 4194304
  byt : Byt l

/-- The block g is a row of the bytes l, of the call's own. -/
structure Mine (w : World) (g : Nat) (l : List Int) : Prop where
  row : w.rowIs g 5 l.length (fun i => .int .u8 (l.getD i 0))
  size : l.length ≤ 4194304
  byt : Byt l

theorem Mine.rd {w : World} {g : Nat} {l : List Int} (h : Mine w g l) : Rd w (some ⟨g, 0, none⟩) g 0 l :=
  ⟨fun _ => rfl, fun i hi => by simpa using h.row.cell hi, h.size, h.byt⟩

theorem Rd.below {w w' : World} {a : Option Addr} {b off : Nat} {l : List Int} (h : Rd w a b off l) (hb : Below w.heap.size w w') : Rd w' a b off l :=
  ⟨h.head, fun i hi => (hb.cell (World.block_lt_of_cell? _ _ (h.cell i hi))).trans (h.cell i hi), h.size, h.byt⟩

theorem Mine.below {w w' : World} {g : Nat} {l : List Int} (h : Mine w g l) (hb : Below w.heap.size w w') : Mine w' g l :=
  ⟨h.row.of_block (hb.block g h.row.lt), h.size, h.byt⟩

theorem next {w w1 w2 : World} (h : Below w.heap.size w w1) (k : Below w1.heap.size w1 w2) : Below w.heap.size w w2 := h.trans (k.mono h.size)

/-- What the shell of a proof tells of a slice of bytes that came in. -/
def IsRow (k : IntKind) (w : World) (a : Option Addr) (len cap : Nat) (zs : List Int) : Prop :=
  (a = none ∧ len = 0 ∧ cap = 0 ∧ zs = []) ∨
  ∃ x, a = some x ∧ len ≤ cap ∧ cap ≤ maxLen ∧ zs.length = cap ∧ (∀ i, i < zs.length → w.cell? (x.add i) = some (.int k (zs.getD i 0))) ∧ ∀ n ∈ zs, (Lit.int k n).wf = true

theorem rd_of_isRow {w : World} {a : Option Addr} {len cap : Nat} {zs : List Int} (h : IsRow .u8 w a len cap zs) (hlen : len ≤ 4194304) :
    ∃ b off l, l.length = len ∧ Rd w a b off l := by
  rcases h with ⟨rfl, rfl, rfl, rfl⟩ | ⟨x, rfl, hl, hm, hz, hcell, hwz⟩
  · exact ⟨0, 0, [], rfl, ⟨fun h => by simp at h, fun i h => by simp at h, by simp, fun n h => by simp at h⟩⟩
  · by_cases h0 : len = 0
    · subst h0
      exact ⟨0, 0, [], rfl, ⟨fun h => by simp at h, fun i h => by simp at h, by simp, fun n h => by simp at h⟩⟩
    · obtain ⟨b, off, spot⟩ := x
      have hc := hcell 0 (by omega)
      have hspot : spot = none := by simpa [Addr.add] using World.cell?_spot hc
      subst hspot
      have hlt : (zs.take len).length = len := by simp; omega
      refine ⟨b, off, zs.take len, hlt, ⟨fun _ => rfl, fun i hi => ?_, by omega, fun n hn => ?_⟩⟩
      · have := hcell i (by omega)
        have e : (zs.take len).getD i 0 = zs.getD i 0 := by
          rw [hlt] at hi
          simp [List.getD, hi]
        rw [e]
        by_cases ei : i = 0
        · subst ei
          simpa [Addr.add] using this
        · simpa [Addr.add, ei] using this
      · have := hwz n (List.mem_of_mem_take hn)
        have b8 := bounds_u8 this
        omega

/-- A copy under way: the first k bytes are there. -/
def part (l : List Int) (k : Nat) : Nat → Value := fun i => .int .u8 (if i < k then l.getD i 0 else 0)

theorem part_step {w : World} {g : Nat} {l : List Int} {k : Nat} (h : w.rowIs g 5 l.length (part l k)) : (w.setCell ⟨g, k, none⟩ (.int .u8 (l.getD k 0))).rowIs g 5 l.length (part l (k + 1)) := by
  refine (h.set k _).congr fun i hi => ?_
  unfold part
  by_cases e : i = k
  · subst e; simp
  · have : (i < k + 1) = (i < k) := by rw [eq_iff_iff]; omega
    simp [e, this]

theorem ext_getD {l m : List Int} (hl : l.length = m.length) (h : ∀ i, i < l.length → l.getD i 0 = m.getD i 0) : l = m := by
  refine List.ext_getElem hl fun i h1 h2 => ?_
  have := h i h1
  simpa [List.getD, h1, h2] using this

theorem ne_of_getD {l m : List Int} {k : Nat} (h : ¬ l.getD k 0 = m.getD k 0) : decide (l = m) = false := by
  simp; intro e; subst e; exact h rfl

end Go.Proofs.YtljlgjgfmgilaaaGreat.Rw
