/-
  Contracts of the two HexOf: what they answer, on every slice of bytes.
-/
import Derived.Test.YtcbgnfjnjfaacaaCrc
import Derived.Test.YtcbgnfjnjfaacaaStep
import Derived.Laws.IdiomStrings
namespace Go.Proofs.Ytcbgnfjnjfaacaa.Hex
open Go.RowKit
open Num Rw Step

/-- The hexadecimal digit of d, as a byte. -/
def dg (d : Nat) : UInt8 := UInt8.ofNat (if d < 10 then 48 + d else 87 + d)
/-- The digits of the first k bytes. -/
def hexU (l : List Int) : Nat → List UInt8
  | 0 => []
  | k + 1 => hexU l k ++ [dg ((l.getD k 0).toNat / 16), dg ((l.getD k 0).toNat % 16)]
theorem hexU_len (l : List Int) : ∀ k, (hexU l k).length = 2 * k
  | 0 => rfl
  | k + 1 => by simp [hexU, hexU_len l k]; omega
def cells (u : List UInt8) : List Value := u.map (fun b => Value.int .u8 (b.toNat : Int))
theorem cells_app (a b : List UInt8) : cells (a ++ b) = cells a ++ cells b := by simp [cells]
theorem cells_len (a : List UInt8) : (cells a).length = a.length := by simp [cells]

/-- A slice of the call's own, not nil, that holds the bytes u. -/
def Has (w : World) (base : Nat) (v : Value) (u : List UInt8) : Prop := w.ownsRow base 5 1 v u.length (cells u) ∧ v ≠ .slice none 0 0

theorem dg_nat (d : Nat) (h : d < 16) : ((dg d).toNat : Int) = if d < 10 then 48 + (d : Int) else 87 + (d : Int) := by
  unfold dg
  split <;> simp [UInt8.toNat_ofNat] <;> omega

theorem two_new (w : World) (x y : UInt8) : ∀ j u, (cells [x, y])[j]? = some u → (w.alloc (.cells #[.int .u8 (x.toNat : Int), .int .u8 (y.toNat : Int)] 5)).cell? ((⟨w.heap.size, 0, none⟩ : Addr).add j) = some u := by
  intro j u hj
  match j, hj with
  | 0, hj => simp [cells] at hj; subst hj; simp [Addr.add]
  | 1, hj => simp [cells] at hj; subst hj; simp [Addr.add]
  | j + 2, hj => simp [cells] at hj
theorem cells_one (a : List UInt8) : ∀ u ∈ cells a, u.oneCell' = true := by
  intro u hu
  simp only [cells, List.mem_map] at hu
  obtain ⟨b, _, rfl⟩ := hu
  rfl

theorem has_step {w wr w1 : World} {B : Nat} {v v' : Value} {u : List UInt8} {x y : UInt8} {o : Obj} (h : Has wr B v u) (hbel : Below w.heap.size w wr) (hB : w.heap.size ≤ B)
    (h' : w1.ownsRow B 5 1 v' (u.length + 2) (cells u ++ cells [x, y])) (hg : (wr.alloc o).drew.grownBy w1 v.ownBlock) (hn : v' = .slice none 0 0 ↔ v = .slice none 0 0 ∧ 2 = 0) :
    Has w1 B v' (u ++ [x, y]) ∧ Below w.heap.size w w1 := by
  refine ⟨⟨?_, fun e => ?_⟩, ?_⟩
  · rw [cells_app]; simpa using h'
  · have := hn.1 e; simp at this
  · have hs := hbel.size
    exact (((hbel.alloc hs o).drew).grown hg (by simp; omega) (fun k hk => by have := (h.1.lt k hk).1; omega))

theorem has_form {w : World} {B : Nat} {v : Value} {u : List UInt8} (h : Has w B v u) :
    ∃ g cap, v = .slice (some ⟨g, 0, none⟩) u.length cap ∧ ∀ j (hj : j < u.length), w.cell? ((⟨g, 0, none⟩ : Addr).add j) = some (.int .u8 (u[j].toNat : Int)) := by
  rcases h.1.2 with ⟨rfl, _⟩ | ⟨g, cap, cur, rfl, _⟩
  · exact absurd rfl h.2
  · refine ⟨g, cap, rfl, fun j hj => h.1.cells (g := g) rfl j _ ?_⟩
    simp [cells, hj]

theorem dig_fin : ∀ d : Fin 16, (ByteArray.mk #[48, 49, 50, 51, 52, 53, 54, 55, 56, 57, 97, 98, 99, 100, 101, 102])[d.val]'(d.isLt) = dg d.val := by decide
theorem dig_at (d n : Nat) (hd : d < 16) (hn : n = d) (h : n < (ByteArray.mk #[48, 49, 50, 51, 52, 53, 54, 55, 56, 57, 97, 98, 99, 100, 101, 102]).size) : (ByteArray.mk #[48, 49, 50, 51, 52, 53, 54, 55, 56, 57, 97, 98, 99, 100, 101, 102])[n]'h = dg d := by
  subst hn
  exact dig_fin ⟨n, hd⟩

end Go.Proofs.Ytcbgnfjnjfaacaa.Hex
