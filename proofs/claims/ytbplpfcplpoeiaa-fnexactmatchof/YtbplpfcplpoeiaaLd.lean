/-
  The program's answer and the specification's by one word: Hits.
-/
import Derived.Test.YtbplpfcplpoeiaaMq
namespace Go.Proofs.Ytbplpfcplpoeiaa.Ld
open Go Go.RowKit
open Num Pl Hr Hh Hf Hg Pa Pm Po Pe Rg Lb Lc Bw Mo Mp Mq
set_option linter.unusedVariables false

/-- The match of a head: nothing where the head isn't right. -/
def ofV (H : List Int) : List Int := if headB H = true then lst (nth H) else []
def ofM (H : List Int) : List Int := if headB H = true then lst fullI else []
theorem of_any {H : List Int} {a : Option Addr} {b o : Nat} (c : Nat) {w : World} (h : Rd w a b o H) : ∀ w1, Below w.heap.size w w1 → Calls Try.prog 38 #[.agg #[.slice a H.length c]] w1 (ResM w1 (ofV H) (ofM H)) := by
  intro w1 hb
  have h1 := h.below hb
  unfold ofV ofM
  cases hh : headB H with
  | false =>
    refine of_no a H.length c w1 (fun w2 h2 => ?_)
    have := implOk_any a b o c H w2 (h1.below h2)
    rw [hh] at this
    exact this
  | true =>
    have l8 := Mq.head_len hh
    obtain rfl := rd_some h1 l8
    have g := h1.cell
    have t : ∀ w2, Below w1.heap.size w1 w2 → Calls Try.prog 71 #[.agg #[.slice (some ⟨b, o, none⟩) H.length c]] w2 fun e w' => e = .returned (.bool true) ∧ Below w2.heap.size w2 w' := by
      intro w2 h2
      have := implOk_any _ b o c H w2 (h1.below h2)
      rw [hh] at this
      exact this
    rw [l8] at t g ⊢
    exact of_yes b o c H w1 g t
theorem wide_ofV {H : List Int} (hW : Wide H) : Wide (ofV H) := by
  unfold ofV
  cases headB H with
  | false => intro k; simp [I64]
  | true => exact wide_lst (fun k _ => hW k)
theorem ofB (H : List Int) : matchB (ofV H) (ofM H) = headB H := by
  unfold ofV ofM
  cases hh : headB H with
  | false => rfl
  | true => exact of_ok hh
/-- What the program's Hits answers. -/
def hitB (V M H : List Int) : Bool := (matchB V M && matchB (ofV H) (ofM H)) && sameB (fun k => bits .and .i64 (pv (ofV H) (ofM H) k) (pm V M k)) (fun k => bits .and .i64 (pm (ofV H) (ofM H) k) (pm V M k)) (pv V M) (pm V M)
theorem hits_any (V M H : List Int) (wV : Wide V) (wH : Wide H) : CMH 18 V M H (Bo (hitB V M H)) := by
  intro a a' b o c b' o' c' p q r s w h1 h2 h3
  refine hits_l a a' _ c _ c' p _ s (ofV H) (ofM H) _ w (of_any s h3) ?_
  intro w1 hb aV aM gV cV gM cM r1 r2
  exact Mi.covers_l a a' aV aM _ _ _ _ c c' cV cM _ _ _ _ _ w1 (Mi.two_any c c' cV cM (h1.below hb) (h2.below hb) wV r1 r2 (wide_ofV wH))
theorem headT {H : List Int} {a : Option Addr} {b o : Nat} (c : Nat) {w : World} (h1 : Rd w a b o H) {P : Bool} (hP : headB H = P) :
    ∀ w1, Below w.heap.size w w1 → Calls Try.prog 70 #[.agg #[.slice a H.length c]] w1 fun e w' => e = .returned (.bool P) ∧ Below w1.heap.size w1 w' := by
  intro w1 hb
  have := specOk_any a b o c H w1 (h1.below hb)
  rw [hP] at this
  exact this
theorem hitsS_any (V M H : List Int) (wV : Wide V) (wH : Wide H) : CMH 41 V M H (Bo (hitB V M H)) := by
  intro a a' b o c b' o' c' p q r s w h1 h2 h3
  unfold hitB
  rw [ofB]
  cases h : matchB V M with
  | false => exact hit_wrong1 _ _ _ _ _ _ _ _ _ w (okT c c' h1 h2 wV h)
  | true =>
    cases hh : headB H with
    | false => exact hit_wrong2 _ _ _ _ _ _ _ _ _ w (okT c c' h1 h2 wV h) (headT s h3 hh)
    | true =>
      have ho := ofB H
      rw [hh] at ho
      obtain ⟨l1, l2⟩ := lens h
      have l3 := Mq.head_len hh
      obtain ⟨d1, d2⟩ := bounds h
      have d3 : ∀ k, k < 8 → 0 ≤ H.getD k 0 ∧ H.getD k 0 < 281474976710656 := fun k hk => fits_lt (head_at hh hk)
      have t0 := okT c c' h1 h2 wV h
      have t1 := headT s h3 hh
      obtain rfl := rd_some h1 l1
      obtain rfl := rd_some h2 l2
      obtain rfl := rd_some h3 l3
      have g1 := h1.cell; have g2 := h2.cell; have g3 := h3.cell
      rw [l1] at t0 g1; rw [l2] at t0 g2; rw [l3] at t1 g3
      rw [l1, l2, l3, pv_yes h, pm_yes h, pv_yes ho, pm_yes ho]
      have e1 : ofV H = lst (nth H) := by unfold ofV; rw [hh]; rfl
      have e2 : ofM H = lst fullI := by unfold ofM; rw [hh]; rfl
      rw [e1, e2]
      exact Mh.hitsS b o c b' o' c' q r s V M H w g1 g2 g3 d1 d2 d3 t0 t1 _ (hits_iff h hh)
theorem hitsR (V M H : List Int) (wV : Wide V) (_wM : Wide M) (wH : Wide H) : ∃ R, CMH 18 V M H (Bo R) ∧ CMH 41 V M H (Bo R) :=
  ⟨_, hits_any V M H wV wH, hitsS_any V M H wV wH⟩

end Go.Proofs.Ytbplpfcplpoeiaa.Ld
