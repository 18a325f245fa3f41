/-
  The program's ActsOk; both HasAct, both SameActs.
-/
import Derived.Test.YtcbgnfjnjfaacaaYe
import Derived.Test.YtcbgnfjnjfaacaaHb
namespace Go.Proofs.Ytcbgnfjnjfaacaa.Yg
set_option maxRecDepth 8000
open Go Go.RowKit
open Num Pl Yb Yc Yd

theorem actsI (a : Option Addr) (b off cap : Nat) (l : List A3) (w : World) (h : Rd w a b off l) :
    Calls Try.prog 106 #[.slice a l.length cap] w fun e w' => e = .returned (.bool (actsB l)) ∧ Below w.heap.size w w' := by
  cases hB : actsB l
  · go_enter Try.func106, Try.ntmps106
    go_wp2_with (go_at_call 141; refine (acts_any _ _ _ _ _ _ h).mono ?_; rintro e w1 ⟨hb, h0, h1⟩; obtain rfl := h0 hB; clear h0 h1)
    go_ret
    exact ⟨rfl, hb⟩
  · go_enter Try.func106, Try.ntmps106
    go_wp2_with (go_at_call 141; refine (acts_any _ _ _ _ _ _ h).mono ?_; rintro e w1 ⟨hb, h0, h1⟩; obtain ⟨rfl, _⟩ := h1 hB; clear h0 h1)
    go_ret
    exact ⟨rfl, hb⟩

/-- There is an action of the kind. -/
def anyK (l : List A3) (q : Int) : Bool := decide (∃ i, i < l.length ∧ (l.getD i z3).1 = q)
def hasB (l : List A3) (q : Int) : Bool := actsB l && anyK l q
theorem anyK_yes {l : List A3} {q : Int} {k : Nat} (hk : k < l.length) (h : (l.getD k z3).1 = q) : anyK l q = true := decide_eq_true ⟨k, hk, h⟩
theorem anyK_no {l : List A3} {q : Int} (h : ∀ i, i < l.length → (l.getD i z3).1 ≠ q) : anyK l q = false := decide_eq_false fun ⟨i, hi, e⟩ => h i hi e

def sameB (l m : List A3) : Bool := actsB l && decide (l = m)

end Go.Proofs.Ytcbgnfjnjfaacaa.Yg
