/-
  The program's answer and the specification's by one word: Asked.
-/
import Derived.Test.YtbplpfcplpoeiaaMa
namespace Go.Proofs.Ytbplpfcplpoeiaa.Lf
open Go Go.RowKit
open Num Pl Hr Hh Hf Hg Pa Pm Po Pe Rg Lb Lc Bw Ma
set_option linter.unusedVariables false

theorem pairsT {V M : List Int} {a a' : Option Addr} {b o b' o' : Nat} (c c' : Nat) {w : World} (h1 : Rd w a b o V) (h2 : Rd w a' b' o' M) (wV : Wide V) {P : Bool} (hP : matchB V M = P) :
    ∀ w1, Below w.heap.size w w1 → Calls Try.prog 56 #[.agg #[.slice a V.length c, .slice a' M.length c']] w1 fun e w' => e = .returned (.tuple #[.agg (enc (pv V M) (pm V M)), .bool P]) ∧ Below w1.heap.size w1 w' := by
  intro w1 hb
  have := pairs_any a a' b o c b' o' c' V M w1 (h1.below hb) (h2.below hb) wV
  rw [hP] at this
  exact this

theorem askedR (V M : List Int) (wV : Wide V) (_wM : Wide M) : ∃ R, CM 21 V M (Nu R) ∧ CM 44 V M (Nu R) := by
  cases h : matchB V M with
  | false =>
    exact ⟨-1, fun a a' b o c b' o' c' w h1 h2 => ask_no _ _ _ _ _ _ _ _ w (pairsT c c' h1 h2 wV h), fun a a' b o c b' o' c' w h1 h2 => askS_no _ _ _ _ _ _ w (okT c c' h1 h2 wV h)⟩
  | true =>
    obtain ⟨d1, d2⟩ := bounds h
    have hf : ∀ k : Nat, k < 8 → fits k (nth M k) = true := fun k hk => (at_ok h hk).1
    refine ⟨((tot (nth M) 8 : Nat) : Int), fun a a' b o c b' o' c' w h1 h2 => ?_, fun a a' b o c b' o' c' w h1 h2 => ?_⟩
    · have t := pairsT c c' h1 h2 wV h
      rw [pm_yes h] at t
      exact ask_yes _ _ _ _ _ _ _ _ w d2 t
    · obtain ⟨l1, l2⟩ := lens h
      have t0 := okT c c' h1 h2 wV h
      obtain rfl := rd_some h1 l1
      obtain rfl := rd_some h2 l2
      have g2 := h2.cell
      rw [l1] at t0
      rw [l2] at t0 g2
      rw [l1, l2, ← tots hf 8 (Nat.le_refl _)]
      exact askS_yes b o c b' o' c' (nth M) w g2 d2 t0

end Go.Proofs.Ytbplpfcplpoeiaa.Lf
