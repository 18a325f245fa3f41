/-
  The two PutNum where the number is written: the slice that they hand back is the call's own, with its spare room.
-/
import Derived.Test.YtcbgnfjnjfaacaaPut
namespace Go.Proofs.Ytcbgnfjnjfaacaa.Put
open Go.RowKit
open Num Rw Mk Un

/-- The digits are written, into a slice of the call's own. -/
def Own (w : World) (l : List Int) (N z : Nat) (e : Ending) (w' : World) : Prop :=
  ∃ v, e = .returned (.tuple #[v, .bool true]) ∧ HasI w' w.heap.size v (l ++ digs N z z) ∧ Below w.heap.size w w'

theorem own_list {w : World} {g base : Nat} {L : List Int} (hx : L.length ≤ maxLen) (hb : base ≤ g) (h : w.rowIs g 5 L.length (fun i => .int .u8 (L.getD i 0))) :
    HasI w base (.slice (some ⟨g, 0, none⟩) L.length L.length) L := by
  obtain ⟨c, hc, hs, hf⟩ := h
  refine ⟨⟨by simp, .inr ⟨g, _, c, rfl, hb, hc, Nat.le_refl _, hx, by omega, ?_⟩⟩, by simp⟩
  refine List.ext_getElem? fun i => ?_
  by_cases hi : i < L.length
  · have h1 := hf i hi
    rw [List.getElem?_take, if_pos (by omega), Array.getElem?_toList, h1, List.getElem?_map, List.getElem?_eq_getElem hi]
    simp [List.getD, hi]
  · rw [List.getElem?_eq_none (by simp; omega), List.getElem?_eq_none (by simp; omega)]
theorem own_row {w : World} {g base m N z : Nat} {l : List Int} (hm : m = (l ++ digs N z z).length) (hx : m ≤ maxLen) (hb : base ≤ g) (h : w.rowIs g 5 m (part l N z z)) :
    HasI w base (.slice (some ⟨g, 0, none⟩) m m) (l ++ digs N z z) := by
  subst hm
  exact own_list hx hb (h.congr fun i hi => by rw [part, pt_list l N z i (by rw [List.length_append, digs_len] at hi; exact hi)])

theorem copy_nil (w : World) (ad : Addr) (m c : Nat) : (Builtin.copy_ #[22, 22] 3 #[.slice (some ad) m c, .slice none 0 0]).run Try.prog w = .ok (goInt 0) w := by
  simp [Builtin.copy_, go_sem]

end Go.Proofs.Ytcbgnfjnjfaacaa.Put
