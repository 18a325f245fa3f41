/-
  The contract of the specification's Unhex: what it answers, on every string.
-/
import Derived.Test.YtcbgnfjnjfaacaaUnhex
namespace Go.Proofs.Ytcbgnfjnjfaacaa.Un
open Go.RowKit
open Num Rw Mk Word Hex

/-- A slice of the call's own, not nil, that holds the bytes l. -/
def HasI (w : World) (base : Nat) (v : Value) (l : List Int) : Prop := w.ownsRow base 5 1 v l.length (l.map (Value.int .u8)) ∧ v ≠ .slice none 0 0

theorem hasI_step {w wr w1 : World} {B : Nat} {v v' : Value} {l : List Int} {x : Int} {o : Obj} (h : HasI wr B v l) (hbel : Below w.heap.size w wr) (hB : w.heap.size ≤ B)
    (h' : w1.ownsRow B 5 1 v' (l.length + 1) (l.map (Value.int .u8) ++ [.int .u8 x])) (hg : (wr.alloc o).grownBy w1 v.ownBlock) (hn : v' = .slice none 0 0 ↔ v = .slice none 0 0 ∧ 1 = 0) :
    HasI w1 B v' (l ++ [x]) ∧ Below w.heap.size w w1 := by
  refine ⟨⟨?_, fun e => ?_⟩, ?_⟩
  · simpa using h'
  · have := hn.1 e; simp at this
  · have hs := hbel.size
    exact ((hbel.alloc hs o).grown hg (by simp; omega) (fun k hk => by have := (h.1.lt k hk).1; omega))

theorem hasI_form {w : World} {B : Nat} {v : Value} {l : List Int} (h : HasI w B v l) (hs : l.length ≤ 4194304) (hy : Byt l) :
    ∃ g cap, v = .slice (some ⟨g, 0, none⟩) l.length cap ∧ B ≤ g ∧ Wt w (some ⟨g, 0, none⟩) g l := by
  rcases h.1.2 with ⟨rfl, _⟩ | ⟨g, cap, cur, rfl, hb, hh, _, _, _, ht⟩
  · exact absurd rfl h.2
  · refine ⟨g, cap, rfl, hb, ⟨fun _ => rfl, fun i hi => ?_, fun i _ => by simp [World.frozen?, hh], hs, hy⟩⟩
    have := h.1.cells (g := g) rfl i (.int .u8 (l.getD i 0)) (by simp [hi, List.getD])
    by_cases ei : i = 0
    · subst ei; simpa [Addr.add] using this
    · simpa [Addr.add, ei] using this

theorem one_new (w : World) (x : Value) (t : TypeId) : ∀ j u, [x][j]? = some u → (w.alloc (.cells #[x] t)).cell? ((⟨w.heap.size, 0, none⟩ : Addr).add j) = some u := by
  intro j u hj
  match j, hj with
  | 0, hj => simp at hj; subst hj; simp [Addr.add]
  | j + 1, hj => simp at hj

theorem dg_val {j : Nat} {c : Int} (hj : j < 16) (h : ((dg j).toNat : Int) = c) : isH c = true ∧ val c = (j : Int) := by
  have e := dg_nat j hj
  rw [h] at e
  subst e
  unfold isH val
  by_cases h10 : j < 10
  · simp only [h10, if_true]
    refine ⟨by simp; omega, ?_⟩
    rw [if_pos (by omega)]; omega
  · simp only [h10, if_false]
    refine ⟨by simp; omega, ?_⟩
    rw [if_neg (by omega)]; omega

theorem dg_none {c : Int} (h : ∀ t, t < 16 → ((dg t).toNat : Int) ≠ c) : isH c = false := by
  cases hh : isH c with
  | false => rfl
  | true =>
    exfalso
    have hb := val_bd hh
    have ht : (val c).toNat < 16 := by omega
    apply h _ ht
    rw [dg_nat _ ht]
    simp [isH] at hh
    by_cases h57 : c ≤ 57
    · have e : val c = c - 48 := by unfold val; rw [if_pos h57]
      rw [if_pos (by omega)]; omega
    · have e : val c = c - 87 := by unfold val; rw [if_neg h57]
      rw [if_neg (by omega)]; omega

/-- The half byte that is held ahead of place k. -/
def hf (s : ByteArray) (k : Nat) : Int := if k % 2 = 1 then val (ch s (k - 1)) else 0
theorem hf_bd {s : ByteArray} {k : Nat} (h : ∀ j, j < k → isH (ch s j) = true) : 0 ≤ hf s k ∧ hf s k ≤ 15 := by
  unfold hf
  split
  · exact val_bd (h (k - 1) (by omega))
  · omega

theorem bytes_odd {s : ByteArray} {k j : Nat} (hp : k % 2 = 1) (hv : val (ch s k) = (j : Int)) : bytes s ((k + 1) / 2) = bytes s (k / 2) ++ [hf s k * 16 + (j : Int)] := by
  have e1 : (k + 1) / 2 = k / 2 + 1 := by omega
  have e2 : 2 * (k / 2) = k - 1 := by omega
  have e3 : k - 1 + 1 = k := by omega
  rw [e1, bytes_succ, un, e2, e3, hv, hf, if_pos hp]

end Go.Proofs.Ytcbgnfjnjfaacaa.Un
