/-
  The specification's RelAdd and RelUnion.
-/
import Derived.Test.YtfiebakgphcnbaaRy
import Derived.Test.YtfiebakgphcnbaaRx
namespace Go.Proofs.Ytfiebakgphcnbaa.Rl
set_option maxRecDepth 8000
set_option linter.unusedSimpArgs false
set_option linter.unusedVariables false
open Go Go.RowKit
open Num Word Pl Rp

/-- Block T is none of those that a list of rows lies in. -/
def Aw (T b : Nat) (Q : List Rm) : Prop := (Q.length = 0 ∨ b ≠ T) ∧ ∀ r ∈ Q, r.l.length = 0 ∨ r.b ≠ T
theorem aw_put {T b bb N : Nat} {Q F : List Rm} (h : Aw T b Q) (hT : T < N) (h1 : (bb = b ∧ 0 < Q.length) ∨ F.length = 0 ∨ N ≤ bb) (h2 : ∀ r ∈ F, r ∈ Q ∨ r.l.length = 0 ∨ N ≤ r.b) : Aw T bb F := by
  refine ⟨?_, fun r hr => ?_⟩
  · rcases h1 with ⟨rfl, hp⟩ | h1 | h1
    · exact .inr (h.1.resolve_left (by omega))
    · exact .inl h1
    · exact .inr (by omega)
  · rcases h2 r hr with h2 | h2 | h2
    · exact h.2 r h2
    · exact .inl h2
    · exact .inr (by omega)
theorem aw_own {w : World} {lo hi : Nat} {a : Option Addr} {b T : Nat} {Q : List Rm} (h : Own w lo hi a b Q) (hT : T < lo ∨ w.heap.size ≤ T) : Aw T b Q := by
  refine ⟨h.blk.imp id fun ⟨h1, cs, h2⟩ => by have := blk_lt h2; omega, fun r hr => ?_⟩
  by_cases h0 : r.l.length = 0
  · exact .inl h0
  · obtain ⟨_, h1, _, h2⟩ := h.each r hr h0
    have := h2.lt
    exact .inr (by omega)
theorem rd_set {w : World} {a : Option Addr} {b off : Nat} {Q : List Rm} {p : Addr} {u : Value} (h : Rd w a b off Q) (hA : Aw p.block b Q) : Rd (w.setCell p u) a b off Q :=
  h.keep (hA.1.imp id fun e => Below.heap_setCell _ _ _ _ e) (fun r hr => (hA.2 r hr).imp id fun e => Below.heap_setCell _ _ _ _ e)
/-- A list of rows lies in blocks from N on. -/
def Up (N b : Nat) (Q : List Rm) : Prop := (Q.length = 0 ∨ N ≤ b) ∧ ∀ r ∈ Q, r.l.length = 0 ∨ N ≤ r.b
theorem up_nil (N b : Nat) : Up N b [] := ⟨.inl rfl, fun r hr => by simp at hr⟩
theorem up_put {N b bb M : Nat} {Q F : List Rm} (h : Up N b Q) (hM : N ≤ M) (h1 : (bb = b ∧ 0 < Q.length) ∨ F.length = 0 ∨ M ≤ bb) (h2 : ∀ r ∈ F, r ∈ Q ∨ r.l.length = 0 ∨ M ≤ r.b) : Up N bb F := by
  refine ⟨?_, fun r hr => ?_⟩
  · rcases h1 with ⟨rfl, hp⟩ | h1 | h1
    · exact .inr (h.1.resolve_left (by omega))
    · exact .inl h1
    · exact .inr (by omega)
  · rcases h2 r hr with h2 | h2 | h2
    · exact h.2 r h2
    · exact .inl h2
    · exact .inr (by omega)
theorem up_own {w : World} {lo hi : Nat} {a : Option Addr} {b N : Nat} {Q : List Rm} (h : Own w lo hi a b Q) (hN : N ≤ lo) : Up N b Q := by
  refine ⟨h.blk.imp id fun ⟨h1, _⟩ => Nat.le_trans hN h1, fun r hr => ?_⟩
  by_cases h0 : r.l.length = 0
  · exact .inl h0
  · exact .inr (Nat.le_trans hN (h.each r hr h0).2.1)
theorem aw_up {T N b : Nat} {Q : List Rm} (h : Up N b Q) (hT : T < N) : Aw T b Q := ⟨h.1.imp id fun q => by omega, fun r hr => (h.2 r hr).imp id fun q => by omega⟩
/-- A relation that reads so is handed back, and a code. -/
def ResCS (w : World) (ar : Int) (X : List RowL) (c : Value) (e : Ending) (w' : World) : Prop := ∃ A bb oo cc F, e = .returned (.tuple #[.agg #[.int .i64 ar, .slice A (List.length F) cc], c]) ∧ Rd w' A bb oo F ∧ said F = X ∧ Below w.heap.size w w' ∧ Up w.heap.size bb F
theorem resCS_of {w : World} {ar : Int} {X : List RowL} {c : Value} {e : Ending} {w' : World} (h : ResC w ar X c e w') (hX : X.length ≤ 100000) : ResCS w ar X c e w' := by
  obtain ⟨v, F, rfl, hot, sF, hb⟩ := h
  obtain ⟨a, g, cap, rfl, ho⟩ := hot.form (by have := congrArg List.length sF; rw [said_len] at this; omega)
  exact ⟨a, g, 0, cap, F, rfl, ho.rd, sF, hb, up_own ho (Nat.le_refl _)⟩
theorem put_len (R : List RowL) (m : RowL) : (putL R m).length ≤ R.length + 1 := by
  have : ∀ R : List RowL, (insL m R).length = R.length + 1 := by
    intro R
    induction R with
    | nil => rfl
    | cons y t ih => rw [insL]; split <;> simp [ih]
  unfold putL
  split
  · omega
  · rw [this]; exact Nat.le_refl _
theorem put_len_ge (R : List RowL) (m : RowL) : R.length ≤ (putL R m).length := by
  have : ∀ R : List RowL, (insL m R).length = R.length + 1 := by
    intro R
    induction R with
    | nil => rfl
    | cons y t ih => rw [insL]; split <;> simp [ih]
  unfold putL
  split
  · exact Nat.le_refl _
  · rw [this]; omega

end Go.Proofs.Ytfiebakgphcnbaa.Rl
