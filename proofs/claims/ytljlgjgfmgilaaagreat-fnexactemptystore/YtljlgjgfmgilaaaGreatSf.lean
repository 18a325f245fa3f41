/-
  The specification's StoreOk.
-/
import Derived.Test.YtljlgjgfmgilaaaGreatSe
import Derived.Test.YtljlgjgfmgilaaaGreatRe
import Derived.Test.YtljlgjgfmgilaaaGreatHn
namespace Go.Proofs.YtljlgjgfmgilaaaGreat.St
set_option maxRecDepth 8000
set_option linter.unusedSimpArgs false
set_option linter.unusedVariables false
open Go Go.ChangeShapes Go.WideShapes Go.RowKit
open Num Word Pl Rp
open Rl (Rm rm0 said)
open Vl (cmpS strLt)

/-- What is found wrong at relation k. -/
def upN (T : List Nm) (k : Nat) : Bool := oneB (T.getD k nm0).l && (decide (k = 0) || strLt (T.getD (k - 1) nm0).s (T.getD k nm0).s)
theorem store_loop {T : List Nm} (hB : T.length ≤ 24) : (∀ i, i < T.length → upN T i = true) → storeB (told T) = true := by
  intro h
  unfold storeB
  rw [told_len, decide_eq_true hB, all_at fun i hi => ?_]
  · simp only [Bool.true_and]
    rw [risesN_iff]
    intro i hi
    rw [told_len] at hi
    have h2 := h (i + 1) hi
    unfold upN at h2
    simp only [Nat.add_sub_cancel, Bool.and_eq_true, Bool.or_eq_true, decide_eq_true_eq] at h2
    rw [told_at (by omega), told_at hi]
    rcases h2.2 with e | e
    · omega
    · exact e
  · have := h i hi
    unfold upN at this
    rw [Bool.and_eq_true] at this; exact this.1
theorem store_bad {T : List Nm} {k : Nat} (hk : k < T.length) (h : upN T k = false) : storeB (told T) = false := by
  rw [← Bool.not_eq_true]
  intro e
  unfold storeB at e
  simp only [Bool.and_eq_true] at e
  have h1 : oneB (T.getD k nm0).l = true := by
    rw [← Bool.not_eq_false]
    intro h1
    rw [all_bad hk h1] at e; simp at e
  unfold upN at h
  rw [h1] at h
  simp only [Bool.true_and, Bool.or_eq_false_iff, decide_eq_false_iff_not] at h
  obtain ⟨j, rfl⟩ : ∃ j, k = j + 1 := ⟨k - 1, by omega⟩
  simp only [Nat.add_sub_cancel] at h
  have := (risesN_iff _).1 e.2 j (by rw [told_len]; exact hk)
  rw [told_at (by omega), told_at hk] at this
  rw [show (T.getD j nm0).l.1 = (T.getD j nm0).s from rfl, show (T.getD (j + 1) nm0).l.1 = (T.getD (j + 1) nm0).s from rfl, h.2] at this
  simp at this

/-- What a region reads: the store's head, one of its relations, the name of another. -/
def Hold (g b p : Nat) (v0 : Value) (s : ByteArray) (ar : Int) (v : Value) (q : Nat) (s' : ByteArray) (w : World) : Prop :=
  w.cell? ⟨g, 0, none⟩ = some v0 ∧ w.cell? ⟨b, p, none⟩ = some (.string s) ∧ w.cell? ⟨b, p + 1, none⟩ = some (.int .i64 ar) ∧ w.cell? ⟨b, p + 2, none⟩ = some v ∧ w.cell? ⟨b, q, none⟩ = some (.string s')
theorem Hold.below {g b p : Nat} {v0 : Value} {s : ByteArray} {ar : Int} {v : Value} {q : Nat} {s' : ByteArray} {w w' : World} (h : Hold g b p v0 s ar v q s' w) (hb : Below w.heap.size w w') : Hold g b p v0 s ar v q s' w' := by
  obtain ⟨c0, c1, c2, c3, c4⟩ := h
  exact ⟨(hb.cell (World.block_lt_of_cell? _ _ c0)).trans c0, (hb.cell (World.block_lt_of_cell? _ _ c1)).trans c1, (hb.cell (World.block_lt_of_cell? _ _ c2)).trans c2, (hb.cell (World.block_lt_of_cell? _ _ c3)).trans c3, (hb.cell (World.block_lt_of_cell? _ _ c4)).trans c4⟩
theorem specWord_bel (s : ByteArray) (w : World) (hs : s.size ≤ maxLen) : Calls Tryz.prog 73 #[.string s] w fun e w' => e = .returned (.bool (wordB s)) ∧ Below w.heap.size w w' :=
  (specWord_any s w hs).mono fun e w' ⟨h1, h2⟩ => ⟨h1, by rw [h2]; exact Below.refl _ _⟩

end Go.Proofs.YtljlgjgfmgilaaaGreat.St
