/-
  The program's StoreOk.
-/
import Derived.Test.YtljlgjgfmgilaaaGreatSa
import Derived.Test.YtljlgjgfmgilaaaGreatSb
import Derived.Test.YtljlgjgfmgilaaaGreatRc
namespace Go.Proofs.YtljlgjgfmgilaaaGreat.St
set_option maxRecDepth 8000
set_option linter.unusedSimpArgs false
set_option linter.unusedVariables false
open Go Go.ChangeShapes Go.WideShapes Go.RowKit
open Num Word Pl Rp
open Rl (Rm rm0 said)
open Vl (cmpS strLt)

/-- Is the named relation right? -/
def oneB (x : NL) : Bool := wordB x.1 && relB x.2.1 x.2.2
/-- Do the names rise? -/
def risesN : List NL → Bool
  | [] => true
  | [_] => true
  | x :: y :: T => strLt x.1 y.1 && risesN (y :: T)
/-- Is the store right? -/
def storeB (T : List NL) : Bool := decide (T.length ≤ 24) && T.all oneB && risesN T
theorem risesN_iff : ∀ (T : List NL), risesN T = true ↔ ∀ i, i + 1 < T.length → strLt (T.getD i nl0).1 (T.getD (i + 1) nl0).1 = true
  | [] => by simp [risesN]
  | [x] => by simp [risesN]
  | x :: y :: T => by
    have ih := risesN_iff (y :: T)
    simp only [risesN, Bool.and_eq_true, ih]
    constructor
    · rintro ⟨h1, h2⟩ i hi
      cases i with
      | zero => simpa [List.getD] using h1
      | succ i => have := h2 i (by simp at hi ⊢; omega); simpa [List.getD] using this
    · intro h
      refine ⟨by have := h 0 (by simp); simpa [List.getD] using this, fun i hi => ?_⟩
      have := h (i + 1) (by simp at hi ⊢; omega)
      simpa [List.getD] using this
theorem all_at {T : List Nm} (h : ∀ i, i < T.length → oneB (T.getD i nm0).l = true) : (told T).all oneB = true := by
  refine List.all_eq_true.2 fun x hx => ?_
  obtain ⟨i, hi, rfl⟩ := List.getElem_of_mem hx
  have hi' : i < T.length := by rw [told_len] at hi; exact hi
  have := h i hi'
  rw [← told_at hi'] at this
  simpa [List.getD, hi] using this
theorem all_bad {T : List Nm} {k : Nat} (hk : k < T.length) (h : oneB (T.getD k nm0).l = false) : (told T).all oneB = false := by
  rw [List.all_eq_false]
  have hk' : k < (told T).length := by rw [told_len]; exact hk
  refine ⟨(told T)[k], List.getElem_mem hk', ?_⟩
  rw [← told_at hk] at h
  simpa [List.getD, hk'] using h

theorem nanS (a : ByteArray) (w : World) : Calls Tryz.prog 132 #[.string a] w fun e w' => e = .returned (.bool false) ∧ w' = w := by
  go_enter Tryz.func132, Tryz.ntmps132
  go_wp2
  go_ret
  exact ⟨ret_bool (by simp), rfl⟩
theorem cmpT_any (a b : ByteArray) (w : World) : Calls Tryz.prog 100 #[.string a, .string b] w fun e w' => e = .returned (.int .i64 (cmpS a b)) ∧ w' = w := by
  have ht := Vl.less_total a.toList b.toList
  unfold cmpS strLt
  cases h1 : Op.bytesLess a.toList b.toList with
  | true =>
    go_enter Tryz.func100, Tryz.ntmps100
    go_wp2_with (go_at_call 132; refine (nanS _ _).mono ?_; rintro e w1 ⟨rfl, hw⟩; replace hw := hw.symm; subst hw)
    go_ret
    exact ⟨rfl, rfl⟩
  | false =>
    rw [h1] at ht
    cases h2 : Op.bytesLess b.toList a.toList with
    | true =>
      rw [h2] at ht
      have h3 : (a.toList == b.toList) = false := by simpa using ht
      clear ht
      go_enter Tryz.func100, Tryz.ntmps100
      go_wp2_with (go_at_call 132; refine (nanS _ _).mono ?_; rintro e w1 ⟨rfl, hw⟩; replace hw := hw.symm; subst hw)
      go_ret
      exact ⟨rfl, rfl⟩
    | false =>
      rw [h2] at ht
      have h3 : (a.toList == b.toList) = true := by simpa using ht
      clear ht
      go_enter Tryz.func100, Tryz.ntmps100
      go_wp2_with (go_at_call 132; refine (nanS _ _).mono ?_; rintro e w1 ⟨rfl, hw⟩; replace hw := hw.symm; subst hw)
      go_ret
      exact ⟨rfl, rfl⟩

theorem byName_any (s t : ByteArray) (ar ar' : Int) (v v' : Value) (w : World) :
    Calls Tryz.prog 64 #[.agg #[.string s, .int .i64 ar, v], .agg #[.string t, .int .i64 ar', v']] w fun e w' => e = .returned (.int .i64 (cmpS s t)) ∧ w' = (w.alloc (.cells #[.string s, .int .i64 ar, v] 113)).alloc (.cells #[.string t, .int .i64 ar', v'] 113) := by
  go_enter Tryz.func64, Tryz.ntmps64
  go_wp2_with (go_at_call 100; refine (cmpT_any _ _ _).mono ?_; rintro e w1 ⟨rfl, hw⟩; replace hw := hw.symm; subst hw)
  go_ret
  exact ⟨rfl, rfl⟩
theorem byName_bel (s t : ByteArray) (ar ar' : Int) (v v' : Value) (w : World) :
    Calls Tryz.prog 64 #[.agg #[.string s, .int .i64 ar, v], .agg #[.string t, .int .i64 ar', v']] w fun e w' => e = .returned (.int .i64 (cmpS s t)) ∧ Below w.heap.size w w' :=
  (byName_any s t ar ar' v v' w).mono fun e w' ⟨h1, h2⟩ => ⟨h1, by rw [h2]; exact below_alloc2 _ _ _⟩

end Go.Proofs.YtljlgjgfmgilaaaGreat.St
