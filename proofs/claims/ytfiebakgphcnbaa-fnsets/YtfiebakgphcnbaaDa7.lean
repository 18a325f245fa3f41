/-
  What FnAddDrop asks.
-/
import Derived.Test.YtfiebakgphcnbaaRv
import Derived.Test.YtfiebakgphcnbaaMd
namespace Go.Proofs.Ytfiebakgphcnbaa.Rl
set_option maxRecDepth 8000
set_option linter.unusedSimpArgs false
set_option linter.unusedVariables false
open Go Go.RowKit
open Num Word Pl Rp
open Vl (ordRow)

theorem add_facts {x : Int} {R : List RowL} {m : RowL} {ar : Int} {X : List RowL} {c : Int} (h : MA stAll x R x [m] ar X c) :
    (¬ c = 0 ∧ X = []) ∨ (c = 0 ∧ ar = x ∧ ∃ Y, MA stOne x X x [m] x Y 0 ∧ MA stOne x R x [m] x Y 0 ∧ hasB x X m = true ∧ hasB x Y m = false ∧ sameB x Y x Y = true) := by
  unfold MA at h
  split at h
  · rename_i h2
    split at h
    · rename_i hle
      obtain ⟨rfl, rfl, rfl⟩ := h
      obtain ⟨hR, hm⟩ := two_rel h2
      have hX := merge_relP stAll hR hm hle
      have om : okL m := hm.ok m (by simp)
      have eX : mergeL stAll R [m] = putL R m := addL_eq hR.sorted hR.ok om
      have e1 : mergeL stOne R [m] = R.filter fun z => decide (z ≠ m) := dropL_eq hR.sorted hR.ok om
      have e2 : mergeL stOne (mergeL stAll R [m]) [m] = mergeL stOne R [m] := by
        rw [dropL_eq hX.sorted hX.ok om, e1, eX]
        refine sorted_ext (filter_sorted _ (put_sorted om hR.sorted hR.ok)) (filter_sorted _ hR.sorted) fun z => ?_
        simp only [List.mem_filter, put_mem, decide_eq_true_eq]
        constructor
        · rintro ⟨h | h, k⟩
          · exact absurd h k
          · exact ⟨h, k⟩
        · rintro ⟨h, k⟩
          exact ⟨.inr h, k⟩
      have l1 : (mergeL stOne R [m]).length ≤ 300 := by
        rw [e1]; exact Nat.le_trans (List.length_filter_le _ _) hR.few
      have hY := merge_relP stOne hR hm l1
      have tw : ∀ {A C : List RowL}, RelP ar A → RelP ar C → twoB ar A ar C = true := fun hA hC => by unfold twoB; rw [relB_of hA, relB_of hC]; simp
      refine .inr ⟨rfl, rfl, mergeL stOne R [m], ?_, ?_, ?_, ?_, ?_⟩
      · unfold MA; rw [if_pos (tw hX hm), e2, if_pos l1]; exact ⟨rfl, rfl, rfl⟩
      · unfold MA; rw [if_pos (tw hR hm), if_pos l1]; exact ⟨rfl, rfl, rfl⟩
      · unfold hasB; rw [relB_of hX, eX]; simp [put_mem]
      · unfold hasB; rw [e1]; simp
      · unfold sameB; rw [tw hY hY]; simp
    · obtain ⟨_, rfl, rfl⟩ := h
      exact .inl ⟨by decide, rfl⟩
  · obtain ⟨_, rfl, rfl⟩ := h
    exact .inl ⟨by decide, rfl⟩

theorem OG.cap {w : World} {B n cap : Nat} {a : Option Addr} {Q : List Rm} (h : OG w B (.slice a n cap) Q) : n ≤ cap ∧ n = Q.length := by
  rcases h.own.2 with ⟨e, h0⟩ | ⟨g, c, cur, e, _, _, hn, _⟩
  · simp only [Value.slice.injEq] at e; omega
  · simp only [Value.slice.injEq] at e; omega
/-- A relation and a code are handed back. -/
def ResD (w : World) (ar : Int) (X : List RowL) (c : Value) (e : Ending) (w' : World) : Prop := ∃ A bb cc F, e = .returned (.tuple #[.agg #[.int .i64 ar, .slice A (List.length F) cc], c]) ∧ Rd w' A bb 0 F ∧ F.length ≤ cc ∧ said F = X ∧ Below w.heap.size w w'
theorem resD_of {w : World} {ar : Int} {X : List RowL} {c : Value} {e : Ending} {w' : World} (h : ResC w ar X c e w') (hX : X.length ≤ 300) : ResD w ar X c e w' := by
  obtain ⟨v, F, rfl, hot, sF, hb⟩ := h
  have hl : F.length = X.length := by rw [← sF, said_len]
  obtain ⟨a, g, cap, rfl, ho⟩ := hot.form (by omega)
  exact ⟨a, g, cap, F, rfl, ho.rd, hot.og.cap.1, sF, hb⟩
end Go.Proofs.Ytfiebakgphcnbaa.Rl
