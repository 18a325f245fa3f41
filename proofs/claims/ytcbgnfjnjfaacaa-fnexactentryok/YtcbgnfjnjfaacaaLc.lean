/-
  The program's answer and the specification's by one word: Covers.
-/
import Derived.Test.YtcbgnfjnjfaacaaMc
import Derived.Test.YtcbgnfjnjfaacaaLb
namespace Go.Proofs.Ytcbgnfjnjfaacaa.Lc
set_option maxRecDepth 8000
open Go Go.RowKit
open Num Pl Hr Hh Hf Hg Pa Pm Po Pe Rg Lb Bw
set_option linter.unusedVariables false

/-- What a right match says of its places. -/
theorem at_ok {V M : List Int} (h : matchB V M = true) {k : Nat} (hk : k < 8) :
    fits k (M.getD k 0) = true ∧ 0 ≤ V.getD k 0 ∧ (V.getD k 0).toNat ||| (M.getD k 0).toNat = (M.getD k 0).toNat ∧ 0 ≤ M.getD k 0 ∧ M.getD k 0 < 281474976710656 ∧ V.getD k 0 < 281474976710656 := by
  unfold matchB at h
  simp only [Bool.and_eq_true, decide_eq_true_eq] at h
  have := uptoP_at h.2 k hk
  unfold pairB at this
  simp only [Bool.and_eq_true, decide_eq_true_eq] at this
  obtain ⟨h1, h2, h3⟩ := this
  have hm := fits_lt h1
  have hv : (V.getD k 0).toNat ≤ (M.getD k 0).toNat := by rw [← h3]; exact Nat.left_le_or
  exact ⟨h1, h2, h3, hm.1, hm.2, by omega⟩
theorem bounds {V M : List Int} (h : matchB V M = true) : (∀ k, k < 8 → 0 ≤ V.getD k 0 ∧ V.getD k 0 < 281474976710656) ∧ (∀ k, k < 8 → 0 ≤ M.getD k 0 ∧ M.getD k 0 < 281474976710656) :=
  ⟨fun k hk => by have := at_ok h hk; exact ⟨this.2.1, this.2.2.2.2.2⟩, fun k hk => by have := at_ok h hk; exact ⟨this.2.2.2.1, this.2.2.2.2.1⟩⟩
theorem and_nat {a b : Int} (ha : 0 ≤ a) (ha' : a < 281474976710656) (hb : 0 ≤ b) (hb' : b < 281474976710656) : bits .and .i64 a b = ((a.toNat &&& b.toNat : Nat) : Int) := Bu.and_int ha (by omega) hb (by omega)
theorem cast_eq {x : Nat} {b : Int} (hb : 0 ≤ b) : (x : Int) = b ↔ x = b.toNat := by omega

/-- What the program asks of two right matches, field by field, is what the specification asks bit by bit. -/
theorem covers_iff {V M V' M' : List Int} (h : matchB V M = true) (h' : matchB V' M' = true) :
    sameB (fun k => bits .and .i64 (nth V' k) (nth M k)) (fun k => bits .and .i64 (nth M' k) (nth M k)) (nth V) (nth M) = true ↔ ∀ f, f < 8 → ∀ i, i < fbN f → (bitI (M.getD f 0) i = 1 → bitI (M'.getD f 0) i = 1 ∧ bitI (V.getD f 0) i = bitI (V'.getD f 0) i) := by
  rw [sameB_iff]
  have key : ∀ f, f < 8 → ((bits .and .i64 (nth V' f) (nth M f) = nth V f ∧ bits .and .i64 (nth M' f) (nth M f) = nth M f) ↔ ∀ i, i < fbN f → (bitI (M.getD f 0) i = 1 → bitI (M'.getD f 0) i = 1 ∧ bitI (V.getD f 0) i = bitI (V'.getD f 0) i)) := by
    intro f hf
    obtain ⟨a1, a2, a3, a4, a5, a6⟩ := at_ok h hf
    obtain ⟨b1, b2, b3, b4, b5, b6⟩ := at_ok h' hf
    unfold nth
    rw [and_nat b2 b6 a4 a5, and_nat b4 b5 a4 a5, cast_eq a2, cast_eq a4]
    have := Bt.covers_iff (bV := (V'.getD f 0).toNat) (bM := (M'.getD f 0).toNat) a3 (fits_pow a1)
    simp only [bit_iff, bit_eq_iff]
    rw [this, Nat.and_comm (M'.getD f 0).toNat]
    exact and_comm
  exact ⟨fun q f hf => (key f hf).1 (q f hf), fun q f hf => (key f hf).2 (q f hf)⟩

set_option maxHeartbeats 1000000 in
theorem cov_wrong1 (a a' : Option Addr) (n c n' c' : Nat) (p p' : Option Addr) (m d m' d' : Nat) (w : World) (t0 : ∀ w1, Below w.heap.size w w1 → Calls Try.prog 62 #[.agg #[.slice a n c, .slice a' n' c']] w1 fun e w' => e = .returned (.bool false) ∧ Below w1.heap.size w1 w') :
    Calls Try.prog 16 #[.agg #[.slice a n c, .slice a' n' c'], .agg #[.slice p m d, .slice p' m' d']] w fun e w' => e = .returned (.bool false) ∧ Below w.heap.size w w' := by
  have T0 : Hid (∀ w1, Below w.heap.size w w1 → Calls Try.prog 62 #[.agg #[.slice a n c, .slice a' n' c']] w1 fun e w' => e = .returned (.bool false) ∧ Below w1.heap.size w1 w') := t0
  obtain ⟨W0, hW0⟩ : ∃ W0, W0 = ((w.alloc (.cells #[.slice a n c, .slice a' n' c'] 25)).alloc (.cells #[.slice p m d, .slice p' m' d'] 25)) := ⟨_, rfl⟩
  have B : Below w.heap.size w W0 := by subst hW0; exact Mi.below2 _ _ _
  clear t0
  go_enter Try.func16, Try.ntmps16
  go_wp2_with (go_at_call 62; rw [← hW0]; refine (T0.out _ B).mono ?_; rintro e wa ⟨rfl, hb⟩; replace B := Rw.next B hb)
  go_ret
  exact ⟨rfl, B⟩

set_option maxHeartbeats 1000000 in
theorem cov_wrong2 (a a' : Option Addr) (n c n' c' : Nat) (p p' : Option Addr) (m d m' d' : Nat) (w : World) (t0 : ∀ w1, Below w.heap.size w w1 → Calls Try.prog 62 #[.agg #[.slice a n c, .slice a' n' c']] w1 fun e w' => e = .returned (.bool true) ∧ Below w1.heap.size w1 w') (t1 : ∀ w1, Below w.heap.size w w1 → Calls Try.prog 62 #[.agg #[.slice p m d, .slice p' m' d']] w1 fun e w' => e = .returned (.bool false) ∧ Below w1.heap.size w1 w') :
    Calls Try.prog 16 #[.agg #[.slice a n c, .slice a' n' c'], .agg #[.slice p m d, .slice p' m' d']] w fun e w' => e = .returned (.bool false) ∧ Below w.heap.size w w' := by
  have T0 : Hid (∀ w1, Below w.heap.size w w1 → Calls Try.prog 62 #[.agg #[.slice a n c, .slice a' n' c']] w1 fun e w' => e = .returned (.bool true) ∧ Below w1.heap.size w1 w') := t0
  have T1 : Hid (∀ w1, Below w.heap.size w w1 → Calls Try.prog 62 #[.agg #[.slice p m d, .slice p' m' d']] w1 fun e w' => e = .returned (.bool false) ∧ Below w1.heap.size w1 w') := t1
  obtain ⟨W0, hW0⟩ : ∃ W0, W0 = ((w.alloc (.cells #[.slice a n c, .slice a' n' c'] 25)).alloc (.cells #[.slice p m d, .slice p' m' d'] 25)) := ⟨_, rfl⟩
  have B : Below w.heap.size w W0 := by subst hW0; exact Mi.below2 _ _ _
  clear t0 t1
  have k1 : W0.heap[w.heap.size + 1]? = some (.cells #[.slice p m d, .slice p' m' d'] 25 (0, 0)) := by subst hW0; exact at_new (by simp)
  have tok1 : True := trivial
  go_enter Try.func16, Try.ntmps16
  go_wp2_with (first
    | (go_at_call 62; clear tok1; rw [← hW0]; refine (T0.out _ B).mono ?_; rintro e wa ⟨rfl, hb⟩; replace k1 := (hb.block _ (Array.getElem?_eq_some_iff.1 k1).1).trans k1; obtain ⟨q0, q1⟩ := two k1; replace B := Rw.next B hb; clear hb; have tok2 : True := trivial)
    | (go_at_call 62; clear tok2; refine (T1.out _ B).mono ?_; rintro e wb ⟨rfl, hb⟩; replace B := Rw.next B hb))
  go_ret
  exact ⟨rfl, B⟩

theorem okT {V M : List Int} {a a' : Option Addr} {b o b' o' : Nat} (c c' : Nat) {w : World} (h1 : Rd w a b o V) (h2 : Rd w a' b' o' M) (wV : Wide V) {P : Bool} (hP : matchB V M = P) :
    ∀ w1, Below w.heap.size w w1 → Calls Try.prog 62 #[.agg #[.slice a V.length c, .slice a' M.length c']] w1 fun e w' => e = .returned (.bool P) ∧ Below w1.heap.size w1 w' := by
  intro w1 hb
  have := Ms.okS_any a a' b o c b' o' c' V M w1 (h1.below hb) (h2.below hb) wV
  rw [hP] at this
  exact this

theorem coversS_any {V M V' M' : List Int} (wV : Wide V) (wV' : Wide V') :
    CMM 16 V M V' M' (Bo ((matchB V M && matchB V' M') && sameB (fun k => bits .and .i64 (pv V' M' k) (pm V M k)) (fun k => bits .and .i64 (pm V' M' k) (pm V M k)) (pv V M) (pm V M))) := by
  intro a a' b o c b' o' c' p p' q r s q' r' s' w h1 h2 h3 h4
  cases h : matchB V M with
  | false => exact cov_wrong1 _ _ _ _ _ _ _ _ _ _ _ _ w (okT c c' h1 h2 wV h)
  | true =>
    cases h' : matchB V' M' with
    | false => exact cov_wrong2 _ _ _ _ _ _ _ _ _ _ _ _ w (okT c c' h1 h2 wV h) (okT s s' h3 h4 wV' h')
    | true =>
      obtain ⟨l1, l2⟩ := lens h
      obtain ⟨l3, l4⟩ := lens h'
      obtain ⟨d1, d2⟩ := bounds h
      obtain ⟨d3, d4⟩ := bounds h'
      have t0 := okT c c' h1 h2 wV h
      have t1 := okT s s' h3 h4 wV' h'
      obtain rfl := rd_some h1 l1
      obtain rfl := rd_some h2 l2
      obtain rfl := rd_some h3 l3
      obtain rfl := rd_some h4 l4
      have g1 := h1.cell; have g2 := h2.cell; have g3 := h3.cell; have g4 := h4.cell
      rw [l1] at t0 g1; rw [l2] at t0 g2; rw [l3] at t1 g3; rw [l4] at t1 g4
      rw [l1, l2, l3, l4, pv_yes h, pm_yes h, pv_yes h', pm_yes h']
      exact Mc.coversS b o c b' o' c' q r s q' r' s' V M V' M' w g1 g2 g3 g4 d1 d2 d3 d4 t0 t1 _ (covers_iff h h')

theorem coversR (V M V' M' : List Int) (wV : Wide V) (_wM : Wide M) (wV' : Wide V') (_wM' : Wide M') : ∃ R, CMM 15 V M V' M' (Bo R) ∧ CMM 16 V M V' M' (Bo R) :=
  ⟨_, fun a a' b o c b' o' c' p p' q r s q' r' s' w h1 h2 h3 h4 => Mi.covers_l a a' p p' _ _ _ _ c c' s s' _ _ _ _ _ w (Mi.two_any c c' s s' h1 h2 wV h3 h4 wV'), coversS_any wV wV'⟩

end Go.Proofs.Ytcbgnfjnjfaacaa.Lc
