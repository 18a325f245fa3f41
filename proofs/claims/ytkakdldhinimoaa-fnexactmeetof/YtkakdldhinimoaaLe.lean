/-
  The program's answer and the specification's by one word: MeetOf, Meets.
-/
import Derived.Test.YtkakdldhinimoaaMm
import Derived.Test.YtkakdldhinimoaaLc
namespace Go.Proofs.Ytkakdldhinimoaa.Le
set_option maxRecDepth 8000
open Go Go.RowKit
open Num Pl Hr Hh Hf Hg Pa Pm Po Pe Rg Lb Lc Bw Mj
set_option linter.unusedVariables false

set_option maxHeartbeats 1000000 in
theorem meet_wrong1 (a a' : Option Addr) (n c n' c' : Nat) (p p' : Option Addr) (m d m' d' : Nat) (w : World) (t0 : ∀ w1, Below w.heap.size w w1 → Calls Try.prog 78 #[.agg #[.slice a n c, .slice a' n' c']] w1 fun e w' => e = .returned (.bool false) ∧ Below w1.heap.size w1 w') :
    Calls Try.prog 43 #[.agg #[.slice a n c, .slice a' n' c'], .agg #[.slice p m d, .slice p' m' d']] w (ResMB w false [] []) := by
  have T0 : Hid (∀ w1, Below w.heap.size w w1 → Calls Try.prog 78 #[.agg #[.slice a n c, .slice a' n' c']] w1 fun e w' => e = .returned (.bool false) ∧ Below w1.heap.size w1 w') := t0
  obtain ⟨W0, hW0⟩ : ∃ W0, W0 = ((w.alloc (.cells #[.slice a n c, .slice a' n' c'] 63)).alloc (.cells #[.slice p m d, .slice p' m' d'] 63)).alloc (.cells #[.slice none 0 0, .slice none 0 0] 63) := ⟨_, rfl⟩
  have B : Below w.heap.size w W0 := by subst hW0; exact Rw.next (Mi.below2 _ _ _) (below_alloc1 _ _)
  have k1 : W0.heap[w.heap.size + 1]? = some (.cells #[.slice p m d, .slice p' m' d'] 63 (0, 0)) := by subst hW0; rw [at_old (by simp), at_new (by simp)]
  have kR : W0.heap[w.heap.size + 1 + 1]? = some (.cells #[.slice none 0 0, .slice none 0 0] 63 (0, 0)) := by subst hW0; exact at_new (by simp)
  have tok1 : True := trivial
  clear t0
  go_enter Try.func43, Try.ntmps43
  go_wp2_with (go_at_call 78; rw [← hW0]; refine (T0.out _ B).mono ?_; rintro e wa ⟨rfl, hb⟩; replace kR := (hb.block _ (Array.getElem?_eq_some_iff.1 kR).1).trans kR; obtain ⟨r0, r1⟩ := two kR; have fr := Bl.free kR; replace B := Rw.next B hb; clear hb)
  refine bodyPost_ret (v := .tuple #[.agg #[.slice none 0 0, .slice none 0 0], .bool false]) (by simp [results, Try.results43, go_sem, r0, r1]) rfl (resMB_none ?_)
  exact bset (bset B (by omega)) (by omega)

set_option maxHeartbeats 1000000 in
theorem meet_wrong2 (a a' : Option Addr) (n c n' c' : Nat) (p p' : Option Addr) (m d m' d' : Nat) (w : World) (t0 : ∀ w1, Below w.heap.size w w1 → Calls Try.prog 78 #[.agg #[.slice a n c, .slice a' n' c']] w1 fun e w' => e = .returned (.bool true) ∧ Below w1.heap.size w1 w') (t1 : ∀ w1, Below w.heap.size w w1 → Calls Try.prog 78 #[.agg #[.slice p m d, .slice p' m' d']] w1 fun e w' => e = .returned (.bool false) ∧ Below w1.heap.size w1 w') :
    Calls Try.prog 43 #[.agg #[.slice a n c, .slice a' n' c'], .agg #[.slice p m d, .slice p' m' d']] w (ResMB w false [] []) := by
  have T0 : Hid (∀ w1, Below w.heap.size w w1 → Calls Try.prog 78 #[.agg #[.slice a n c, .slice a' n' c']] w1 fun e w' => e = .returned (.bool true) ∧ Below w1.heap.size w1 w') := t0
  have T1 : Hid (∀ w1, Below w.heap.size w w1 → Calls Try.prog 78 #[.agg #[.slice p m d, .slice p' m' d']] w1 fun e w' => e = .returned (.bool false) ∧ Below w1.heap.size w1 w') := t1
  obtain ⟨W0, hW0⟩ : ∃ W0, W0 = ((w.alloc (.cells #[.slice a n c, .slice a' n' c'] 63)).alloc (.cells #[.slice p m d, .slice p' m' d'] 63)).alloc (.cells #[.slice none 0 0, .slice none 0 0] 63) := ⟨_, rfl⟩
  have B : Below w.heap.size w W0 := by subst hW0; exact Rw.next (Mi.below2 _ _ _) (below_alloc1 _ _)
  have k1 : W0.heap[w.heap.size + 1]? = some (.cells #[.slice p m d, .slice p' m' d'] 63 (0, 0)) := by subst hW0; rw [at_old (by simp), at_new (by simp)]
  have kR : W0.heap[w.heap.size + 1 + 1]? = some (.cells #[.slice none 0 0, .slice none 0 0] 63 (0, 0)) := by subst hW0; exact at_new (by simp)
  have tok1 : True := trivial
  clear t0 t1
  go_enter Try.func43, Try.ntmps43
  go_wp2_with (first
    | (go_at_call 78; clear tok1; rw [← hW0]; refine (T0.out _ B).mono ?_; rintro e wa ⟨rfl, hb⟩; replace kR := (hb.block _ (Array.getElem?_eq_some_iff.1 kR).1).trans kR; replace k1 := (hb.block _ (Array.getElem?_eq_some_iff.1 k1).1).trans k1; obtain ⟨q0, q1⟩ := two k1; replace B := Rw.next B hb; clear hb; have tok2 : True := trivial)
    | (go_at_call 78; clear tok2; refine (T1.out _ B).mono ?_; rintro e wb ⟨rfl, hb⟩; replace kR := (hb.block _ (Array.getElem?_eq_some_iff.1 kR).1).trans kR; obtain ⟨r0, r1⟩ := two kR; have fr := Bl.free kR; replace B := Rw.next B hb; clear hb))
  refine bodyPost_ret (v := .tuple #[.agg #[.slice none 0 0, .slice none 0 0], .bool false]) (by simp [results, Try.results43, go_sem, r0, r1]) rfl (resMB_none ?_)
  exact bset (bset B (by omega)) (by omega)

set_option maxHeartbeats 1000000 in
theorem meetsS_l (a a' : Option Addr) (n c n' c' : Nat) (p p' : Option Addr) (m d m' d' : Nat) (LV LM : List Int) (R : Bool) (w : World) (t0 : ∀ w1, Below w.heap.size w w1 → Calls Try.prog 43 #[.agg #[.slice a n c, .slice a' n' c'], .agg #[.slice p m d, .slice p' m' d']] w1 (ResMB w1 R LV LM)) :
    Calls Try.prog 53 #[.agg #[.slice a n c, .slice a' n' c'], .agg #[.slice p m d, .slice p' m' d']] w (Bo R w) := by
  have T0 : Hid (∀ w1, Below w.heap.size w w1 → Calls Try.prog 43 #[.agg #[.slice a n c, .slice a' n' c'], .agg #[.slice p m d, .slice p' m' d']] w1 (ResMB w1 R LV LM)) := t0
  have B := Mi.below2 w (.cells #[.slice a n c, .slice a' n' c'] 63) (.cells #[.slice p m d, .slice p' m' d'] 63)
  clear t0
  go_enter Try.func53, Try.ntmps53
  go_wp2_with (go_at_call 43; refine (T0.out _ B).mono ?_; rintro e wa ⟨aV, gV, cV, aM, gM, cM, rfl, hV, hM, l1, l2, l3, hb⟩; replace B := Rw.next B hb; clear hb)
  go_ret
  exact ⟨rfl, Rw.next B (below_alloc1 _ _)⟩

/-- What the program asks of two right matches that meet. -/
def bothB (x y x' y' : Nat → Int) : Bool := sameB (fun k => bits .and .i64 (x k) (y' k)) (fun k => bits .and .i64 (y k) (y' k)) (fun k => bits .and .i64 (x' k) (y k)) (fun k => bits .and .i64 (y' k) (y k))
def meetB (V M V' M' : List Int) : Bool := (matchB V M && matchB V' M') && bothB (pv V M) (pm V M) (pv V' M') (pm V' M')
def meetV (V M V' M' : List Int) : List Int := if meetB V M V' M' = true then lst fun k => bits .or .i64 (pv V M k) (pv V' M' k) else []
def meetM (V M V' M' : List Int) : List Int := if meetB V M V' M' = true then lst fun k => bits .or .i64 (pm V M k) (pm V' M' k) else []
theorem meet_iff {V M V' M' : List Int} (h : matchB V M = true) (h' : matchB V' M' = true) :
    bothB (nth V) (nth M) (nth V') (nth M') = true ↔ ∀ f, f < 8 → ∀ i, i < fbN f → (bitI (M.getD f 0) i = 1 → bitI (M'.getD f 0) i = 1 → bitI (V.getD f 0) i = bitI (V'.getD f 0) i) := by
  unfold bothB
  rw [sameB_iff]
  have key : ∀ f, f < 8 → ((bits .and .i64 (nth V f) (nth M' f) = bits .and .i64 (nth V' f) (nth M f) ∧ bits .and .i64 (nth M f) (nth M' f) = bits .and .i64 (nth M' f) (nth M f)) ↔ ∀ i, i < fbN f → (bitI (M.getD f 0) i = 1 → bitI (M'.getD f 0) i = 1 → bitI (V.getD f 0) i = bitI (V'.getD f 0) i)) := by
    intro f hf
    obtain ⟨a1, a2, a3, a4, a5, a6⟩ := at_ok h hf
    obtain ⟨b1, b2, b3, b4, b5, b6⟩ := at_ok h' hf
    unfold nth
    rw [and_nat a2 a6 b4 b5, and_nat b2 b6 a4 a5, and_nat a4 a5 b4 b5, and_nat b4 b5 a4 a5, Nat.and_comm (M'.getD f 0).toNat]
    simp only [and_true]
    have := Bt.meets_iff a3 b3 (fits_pow a1)
    simp only [bit_iff, bit_eq_iff]
    rw [this]
    omega
  exact ⟨fun q f hf => (key f hf).1 (q f hf), fun q f hf => (key f hf).2 (q f hf)⟩

theorem meetI_any (V M V' M' : List Int) (wV : Wide V) (wV' : Wide V') : CMM 45 V M V' M' (fun w => ResMB w (meetB V M V' M') (meetV V M V' M') (meetM V M V' M')) := by
  intro a a' b o c b' o' c' p p' q r s q' r' s' w h1 h2 h3 h4
  have ht := Mi.two_any c c' s s' h1 h2 wV h3 h4 wV'
  unfold meetV meetM meetB
  cases hq : (matchB V M && matchB V' M') with
  | false =>
    rw [hq] at ht
    exact meet_wrong a a' p p' _ _ _ _ c c' s s' _ _ _ _ w ht
  | true =>
    rw [hq] at ht
    cases hr : bothB (pv V M) (pm V M) (pv V' M') (pm V' M') with
    | false => exact meet_no a a' p p' _ _ _ _ c c' s s' _ _ _ _ w ht hr
    | true => exact meet_yes a a' p p' _ _ _ _ c c' s s' _ _ _ _ w ht hr

theorem meetS_any (V M V' M' : List Int) (wV : Wide V) (wV' : Wide V') : CMM 43 V M V' M' (fun w => ResMB w (meetB V M V' M') (meetV V M V' M') (meetM V M V' M')) := by
  intro a a' b o c b' o' c' p p' q r s q' r' s' w h1 h2 h3 h4
  cases h : matchB V M with
  | false =>
    have e : meetB V M V' M' = false := by unfold meetB; rw [h]; rfl
    unfold meetV meetM
    rw [e]
    exact meet_wrong1 _ _ _ _ _ _ _ _ _ _ _ _ w (okT c c' h1 h2 wV h)
  | true =>
    cases h' : matchB V' M' with
    | false =>
      have e : meetB V M V' M' = false := by unfold meetB; rw [h']; simp
      unfold meetV meetM
      rw [e]
      exact meet_wrong2 _ _ _ _ _ _ _ _ _ _ _ _ w (okT c c' h1 h2 wV h) (okT s s' h3 h4 wV' h')
    | true =>
      obtain ⟨l1, l2⟩ := lens h
      obtain ⟨l3, l4⟩ := lens h'
      obtain ⟨d1, d2⟩ := bounds h
      obtain ⟨d3, d4⟩ := bounds h'
      have t0 := okT c c' h1 h2 wV h
      have t1 := okT s s' h3 h4 wV' h'
      obtain rfl := rd_some h1 l1
      obtain rfl := rd_some h2 l2
      obtain rfl := rd_some h3 l3
      obtain rfl := rd_some h4 l4
      have g1 := h1.cell; have g2 := h2.cell; have g3 := h3.cell; have g4 := h4.cell
      rw [l1] at t0 g1; rw [l2] at t0 g2; rw [l3] at t1 g3; rw [l4] at t1 g4
      rw [l1, l2, l3, l4]
      have e : meetB V M V' M' = bothB (nth V) (nth M) (nth V') (nth M') := by unfold meetB; rw [h, h', pv_yes h, pm_yes h, pv_yes h', pm_yes h']; rfl
      refine Mm.meetS b o c b' o' c' q r s q' r' s' V M V' M' w g1 g2 g3 g4 d1 d2 d3 d4 t0 t1 _ (by rw [e]; exact meet_iff h h') (fun k => bits .or .i64 (nth V k) (nth V' k)) (fun k => bits .or .i64 (nth M k) (nth M' k)) (fun k => rfl) (fun k => rfl) _ _ (fun hr => ?_) (fun hr => ?_)
      · unfold meetV meetM
        rw [hr, pv_yes h, pm_yes h, pv_yes h', pm_yes h']
        exact ⟨rfl, rfl⟩
      · unfold meetV meetM
        rw [hr]
        exact ⟨rfl, rfl⟩

theorem meetOfR (V M V' M' : List Int) (wV : Wide V) (_wM : Wide M) (wV' : Wide V') (_wM' : Wide M') : ∃ R LV LM, CMM 45 V M V' M' (fun w => ResMB w R LV LM) ∧ CMM 43 V M V' M' (fun w => ResMB w R LV LM) :=
  ⟨_, _, _, meetI_any V M V' M' wV wV', meetS_any V M V' M' wV wV'⟩
end Go.Proofs.Ytkakdldhinimoaa.Le
