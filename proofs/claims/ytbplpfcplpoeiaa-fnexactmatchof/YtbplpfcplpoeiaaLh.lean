/-
  The program's answer and the specification's by one word: MatchOf.
-/
import Derived.Test.YtbplpfcplpoeiaaMu
import Derived.Test.YtbplpfcplpoeiaaLd
namespace Go.Proofs.Ytbplpfcplpoeiaa.Lh
open Go Go.RowKit
open Num Pl Hr Hh Hf Hg Pa Pm Po Rg Lb Lc Bw Mo Mp Mq Ld
set_option linter.unusedVariables false

theorem ofS_any (H : List Int) : CH 36 H (fun w => ResM w (ofV H) (ofM H)) := by
  intro a b o c w h1
  unfold ofV ofM
  cases hh : headB H with
  | false => exact Mu.ofS_no a H.length c w (headT c h1 hh)
  | true =>
    have l8 := Mq.head_len hh
    obtain rfl := rd_some h1 l8
    have g := h1.cell
    have t := headT c h1 hh
    rw [l8] at t g ⊢
    exact Mu.ofS_yes b o c H w g t
theorem ofR (H : List Int) (wH : Wide H) : ∃ LV LM, CH 38 H (fun w => ResM w LV LM) ∧ CH 36 H (fun w => ResM w LV LM) :=
  ⟨_, _, fun a b o c w h => of_any c h w (Below.refl _ _), ofS_any H⟩

end Go.Proofs.Ytbplpfcplpoeiaa.Lh
