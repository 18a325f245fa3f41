/-
  Contracts of the two Unhex: what they answer, on every string.
-/
import Derived.Test.YtcbgnfjnjfaacaaMark
import Derived.Test.YtcbgnfjnjfaacaaWord
import Derived.Deep.QuietTactic
import Derived.BigQuiet
namespace Go.Proofs.Ytcbgnfjnjfaacaa.Un
open Go.RowKit
open Num Rw Mk Word

/-- Whether c is a hexadecimal digit; its value. -/
def isH (c : Int) : Bool := decide ((48 ≤ c ∧ c ≤ 57) ∨ (97 ≤ c ∧ c ≤ 102))
def val (c : Int) : Int := if c ≤ 57 then c - 48 else c - 87
theorem val_bd {c : Int} (h : isH c = true) : 0 ≤ val c ∧ val c ≤ 15 := by
  simp [isH] at h
  unfold val
  split <;> omega
/-- The i-th byte that two digits stand for. -/
def un (s : ByteArray) (i : Nat) : Int := val (ch s (2 * i)) * 16 + val (ch s (2 * i + 1))
def okB (s : ByteArray) : Bool := decide (s.size % 2 = 0 ∧ s.size ≤ 120000 ∧ ∀ k, k < s.size → isH (ch s k) = true)
def bytes (s : ByteArray) (n : Nat) : List Int := (List.range n).map (un s)
/-- What Unhex answers. -/
def unl (s : ByteArray) : List Int := if okB s then bytes s (s.size / 2) else []
theorem bytes_len (s : ByteArray) (n : Nat) : (bytes s n).length = n := by simp [bytes]
theorem bytes_at (s : ByteArray) (n i : Nat) (h : i < n) : (bytes s n).getD i 0 = un s i := by simp [bytes, List.getD, h]
theorem bytes_succ (s : ByteArray) (n : Nat) : bytes s (n + 1) = bytes s n ++ [un s n] := by simp [bytes, List.range_succ]
theorem ok_size {s : ByteArray} (h : ¬ (s.size % 2 = 0 ∧ s.size ≤ 120000)) : okB s = false := by
  unfold okB; rw [decide_eq_false]; intro ⟨a, b, _⟩; exact h ⟨a, b⟩
theorem ok_bad {s : ByteArray} {k : Nat} (hk : k < s.size) (h : isH (ch s k) = false) : okB s = false := by
  unfold okB; rw [decide_eq_false]; intro ⟨_, _, c⟩; rw [c k hk] at h; simp at h
theorem ok_good {s : ByteArray} (h1 : s.size % 2 = 0) (h2 : s.size ≤ 120000) (h : ∀ k, k < s.size → isH (ch s k) = true) : okB s = true := by
  unfold okB; exact decide_eq_true ⟨h1, h2, h⟩
theorem bytes_byt (s : ByteArray) (n : Nat) (h : ∀ k, k < 2 * n → isH (ch s k) = true) : Byt (bytes s n) := by
  intro x hx
  simp only [bytes, List.mem_map, List.mem_range] at hx
  obtain ⟨i, hi, rfl⟩ := hx
  have h1 := val_bd (h (2 * i) (by omega))
  have h2 := val_bd (h (2 * i + 1) (by omega))
  unfold un; omega

theorem ret_u8b {a b : Int} {t : Bool} (h : a = b) : Ending.returned (.tuple #[.int .u8 a, .bool t]) = .returned (.tuple #[.int .u8 b, .bool t]) := by rw [h]

theorem or16 (x y : Int) (h0 : 0 ≤ x) (h1 : x ≤ 15) (h2 : 0 ≤ y) (h3 : y ≤ 15) : bits .or .u8 (x * 16) y = x * 16 + y :=
  bits_join .u8 8 (by decide) wraps_u8 4 (x * 16) y (by omega) (by omega) (by omega) h2 (by omega) (by omega)

theorem ch_bd (s : ByteArray) (k : Nat) : 0 ≤ ch s k ∧ ch s k ≤ 255 := by
  unfold ch
  have := (s.data.toList.getD k 0).toNat_lt
  omega

/-- The bytes under way. -/
def part (s : ByteArray) (k : Nat) : Nat → Value := fun i => .int .u8 (if i < k then un s i else 0)
theorem part_step {w : World} {g n k : Nat} {s : ByteArray} (h : w.rowIs g 5 n (part s k)) : (w.setCell ⟨g, k, none⟩ (.int .u8 (un s k))).rowIs g 5 n (part s (k + 1)) := by
  refine (h.set k _).congr fun i hi => ?_
  unfold part
  by_cases e : i = k
  · subst e; simp
  · have : (i < k + 1) = (i < k) := by rw [eq_iff_iff]; omega
    simp [e, this]

/-- What a call of Unhex comes to. -/
def Post (w : World) (s : ByteArray) (e : Ending) (w' : World) : Prop :=
  ∃ a g cap, e = .returned (.tuple #[.slice a (unl s).length cap, .bool (okB s)]) ∧ Wt w' a g (unl s) ∧ w.heap.size ≤ g ∧ Below w.heap.size w w'

theorem post_no {w w' : World} {s : ByteArray} {e : Ending} (h : okB s = false) (he : e = .returned (.tuple #[.slice none 0 0, .bool false])) (hb : Below w.heap.size w w') : Post w s e w' := by
  have hu : unl s = [] := by simp [unl, h]
  refine ⟨none, w.heap.size, 0, ?_, ?_, Nat.le_refl _, hb⟩
  · rw [he, hu, h]; rfl
  · rw [hu]; exact Wt.nil _ _ _

theorem post_yes {w w' : World} {s : ByteArray} {e : Ending} {g cap : Nat} (h : okB s = true) (he : e = .returned (.tuple #[.slice (some ⟨g, 0, none⟩) (s.size / 2) cap, .bool true])) (hw : Wt w' (some ⟨g, 0, none⟩) g (bytes s (s.size / 2))) (hg : w.heap.size ≤ g) (hb : Below w.heap.size w w') : Post w s e w' := by
  have hu : unl s = bytes s (s.size / 2) := by simp [unl, h]
  refine ⟨some ⟨g, 0, none⟩, g, cap, ?_, by rw [hu]; exact hw, hg, hb⟩
  rw [he, hu, h, bytes_len]

end Go.Proofs.Ytcbgnfjnjfaacaa.Un
