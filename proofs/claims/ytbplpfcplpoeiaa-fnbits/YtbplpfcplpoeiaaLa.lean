/-
  The program's answer and the specification's by one word: MatchOk.
-/
import Derived.Test.YtbplpfcplpoeiaaRg
import Derived.Test.YtbplpfcplpoeiaaMs
namespace Go.Proofs.Ytbplpfcplpoeiaa.La
open Go Go.RowKit
open Num Pl Hr Hh Pm Po Rg

theorem okB (V M : List Int) (wV : Wide V) (_wM : Wide M) : ∃ R, CM 30 V M (Bo R) ∧ CM 28 V M (Bo R) :=
  ⟨matchB V M, fun a a' b o c b' o' c' w h1 h2 => Mi.ok_any a a' b o c b' o' c' V M w h1 h2 wV, fun a a' b o c b' o' c' w h1 h2 => Ms.okS_any a a' b o c b' o' c' V M w h1 h2 wV⟩

end Go.Proofs.Ytbplpfcplpoeiaa.La
