/-
  The program's answer and the specification's by one word: MatchAll.
-/
import Derived.Test.YtbplpfcplpoeiaaMr
import Derived.Test.YtbplpfcplpoeiaaRg
namespace Go.Proofs.Ytbplpfcplpoeiaa.Lg
open Go Go.RowKit
open Num Pl Hr Pa Pm

theorem allR : ∃ LV LM, (∀ w, Calls Try.prog 26 #[] w (ResM w LV LM)) ∧ (∀ w, Calls Try.prog 32 #[] w (ResM w LV LM)) := ⟨_, _, fun w => Mo.all_any w, fun w => Mr.allS_any w⟩

end Go.Proofs.Ytbplpfcplpoeiaa.Lg
