/-
  Contracts of the two PutNum: what they answer, on every slice of bytes that is not nil and every two integers.
-/
import Derived.Test.YtcbgnfjnjfaacaaUnspec
import Derived.Laws.CopyOwn
namespace Go.Proofs.Ytcbgnfjnjfaacaa.Put
open Go.RowKit
open Num Rw Mk Un

/-- The i-th of z digits of base 256, the first the greatest. -/
def dig (N z i : Nat) : Int := ((N / pw (z - 1 - i) % 256 : Nat) : Int)
def digs (N z t : Nat) : List Int := (List.range t).map (dig N z)
theorem digs_len (N z t : Nat) : (digs N z t).length = t := by simp [digs]
theorem digs_succ (N z t : Nat) : digs N z (t + 1) = digs N z t ++ [dig N z t] := by simp [digs, List.range_succ]
theorem digs_byt (N z t : Nat) : Byt (digs N z t) := by
  intro x hx
  simp only [digs, List.mem_map] at hx
  obtain ⟨i, _, rfl⟩ := hx
  unfold dig; omega
theorem byt_app {a b : List Int} (ha : Byt a) (hb : Byt b) : Byt (a ++ b) := fun n hn => (List.mem_append.1 hn).elim (ha n) (hb n)
theorem digs_at (N z t i : Nat) (h : i < t) : (digs N z t).getD i 0 = dig N z i := by simp [digs, List.getD, h]

def putOk (len : Nat) (n size : Int) : Bool := numOkB n size && decide ((len : Int) + size ≤ 60000)
/-- What PutNum answers. -/
def putl (l : List Int) (n size : Int) : List Int := if putOk l.length n size then l ++ digs n.toNat size.toNat size.toNat else []

def Post (w : World) (l : List Int) (n size : Int) (e : Ending) (w' : World) : Prop :=
  ∃ a g cap, e = .returned (.tuple #[.slice a (putl l n size).length cap, .bool (putOk l.length n size)]) ∧ Wt w' a g (putl l n size) ∧ w.heap.size ≤ g ∧ Below w.heap.size w w'

theorem post_no {w w' : World} {l : List Int} {n size : Int} {e : Ending} (h : putOk l.length n size = false) (he : e = .returned (.tuple #[.slice none 0 0, .bool false])) (hb : Below w.heap.size w w') : Post w l n size e w' := by
  have hu : putl l n size = [] := by simp [putl, h]
  refine ⟨none, w.heap.size, 0, ?_, ?_, Nat.le_refl _, hb⟩
  · rw [he, hu, h]; rfl
  · rw [hu]; exact Wt.nil _ _ _

theorem post_yes {w w' : World} {l : List Int} {N z : Nat} {e : Ending} {g cap : Nat} (h : putOk l.length N z = true) (he : e = .returned (.tuple #[.slice (some ⟨g, 0, none⟩) (l.length + z) cap, .bool true])) (hw : Wt w' (some ⟨g, 0, none⟩) g (l ++ digs N z z)) (hg : w.heap.size ≤ g) (hb : Below w.heap.size w w') : Post w l N z e w' := by
  have hu : putl l N z = l ++ digs N z z := by simp [putl, h]
  refine ⟨some ⟨g, 0, none⟩, g, cap, ?_, by rw [hu]; exact hw, hg, hb⟩
  rw [he, hu, h, List.length_append, digs_len]

theorem ok_num {len : Nat} {n size : Int} (h : numOkB n size = false) : putOk len n size = false := by simp [putOk, h]
theorem ok_big {len : Nat} {n size : Int} (h : ¬ (len : Int) + size ≤ 60000) : putOk len n size = false := by unfold putOk; simp; omega
theorem ok_yes {len : Nat} {n size : Int} (h1 : numOkB n size = true) (h : (len : Int) + size ≤ 60000) : putOk len n size = true := by unfold putOk; simp [h1]; omega
theorem numOk_nat {n size : Int} (h : numOkB n size = true) : ∃ N z : Nat, n = N ∧ size = z ∧ 1 ≤ z ∧ z ≤ 6 ∧ N < pw z := by
  unfold numOkB at h
  simp at h
  refine ⟨n.toNat, size.toNat, by omega, by omega, by omega, by omega, ?_⟩
  omega

theorem div_step (N k : Nat) : N / pw k / 256 = N / pw (k + 1) := by rw [Nat.div_div_eq_div_mul, pw_succ]

/-- The row under way: the old bytes, k digits, noughts. -/
def pt (l : List Int) (N z k : Nat) (i : Nat) : Int := if i < l.length then l.getD i 0 else if i - l.length < k then dig N z (i - l.length) else 0
def part (l : List Int) (N z k : Nat) : Nat → Value := fun i => .int .u8 (pt l N z k i)
theorem part_step {w : World} {g n N z k : Nat} {l : List Int} (h : w.rowIs g 5 n (part l N z k)) : (w.setCell ⟨g, l.length + k, none⟩ (.int .u8 (dig N z k))).rowIs g 5 n (part l N z (k + 1)) := by
  refine (h.set (l.length + k) _).congr fun i hi => ?_
  unfold part pt
  by_cases e : i = l.length + k
  · subst e; simp; intro hk; omega
  · by_cases e2 : i < l.length
    · simp [e, e2]
    · have : (i - l.length < k + 1) = (i - l.length < k) := by rw [eq_iff_iff]; omega
      simp [e, e2, this]
theorem part_start {w : World} {g n N z : Nat} {l : List Int} (hn : n = l.length + z) (h : w.heap[g]? = some (.cells (splice (List.replicate n (.int .u8 0)) 0 (l.map (Value.int .u8))).toArray 5 (0, 0))) : w.rowIs g 5 n (part l N z 0) := by
  subst hn
  refine ⟨_, h, ?_, fun i hi => ?_⟩
  · simp [splice]
  · unfold part pt
    by_cases e : i < l.length
    · simp [splice, e, List.getElem?_append_left, List.getD]
    · simp only [splice, Nat.zero_add, List.take_zero, List.nil_append, List.length_map, List.drop_replicate, Nat.add_sub_cancel_left, List.getElem?_toArray]
      rw [List.getElem?_append_right (by simpa using e), List.getElem?_replicate, if_pos (by simp; omega)]
      simp [e]
theorem pt_list (l : List Int) (N z i : Nat) (h : i < l.length + z) : pt l N z z i = (l ++ digs N z z).getD i 0 := by
  unfold pt
  by_cases e : i < l.length
  · simp [e, List.getD, List.getElem?_append_left]
  · have e2 : i - l.length < z := by omega
    have := digs_at N z z (i - l.length) e2
    simp only [List.getD] at this ⊢
    rw [if_neg e, if_pos e2, List.getElem?_append_right (by omega), this]

theorem dig_shift (N z k : Nat) : dig N z k = (N : Int) / 2 ^ (8 * (z - 1 - k)) % 256 := by
  have e : pw (z - 1 - k) = 2 ^ (8 * (z - 1 - k)) := by unfold pw; rw [Nat.pow_mul]
  unfold dig
  rw [e]
  simp

theorem rd_only {g : Nat} {w w' : World} {a : Option Addr} {b off : Nat} {l : List Int} (h : Only g w w') (hr : Rd w a b off l) (hne : l.length = 0 ∨ b ≠ g) : Rd w' a b off l := by
  rcases hne with h0 | hne
  · exact ⟨hr.head, fun i hi => by omega, hr.size, hr.byt⟩
  · exact h.rd hr hne
theorem wt_only {g : Nat} {w w' : World} {a : Option Addr} {b : Nat} {l : List Int} (h : Only g w w') (hr : Wt w a b l) (hne : l.length = 0 ∨ b ≠ g) : Wt w' a b l := by
  rcases hne with h0 | hne
  · exact ⟨hr.head, fun i hi => by omega, fun i hi => by omega, hr.size, hr.byt⟩
  · exact ⟨hr.head, fun i hi => h.cell (hr.cell i hi) (by simpa using hne), fun i hi => (World.frozen?_of_block (h.block b (World.block_lt_of_cell? _ _ (hr.cell i hi)) (by simpa using hne))).trans (hr.free i hi), hr.size, hr.byt⟩
theorem wt_lt {w : World} {a : Option Addr} {b : Nat} {l : List Int} (h : Wt w a b l) : l.length = 0 ∨ b < w.heap.size := by
  rcases Nat.eq_zero_or_pos l.length with h0 | h0
  · exact .inl h0
  · exact .inr (World.block_lt_of_cell? _ _ (h.cell 0 h0))

end Go.Proofs.Ytcbgnfjnjfaacaa.Put
