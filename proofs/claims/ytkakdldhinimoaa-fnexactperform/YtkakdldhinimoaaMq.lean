/-
  Contracts of the program's Hits, by what MatchOf and Covers do.
-/
import Derived.Test.YtkakdldhinimoaaMp
import Derived.Test.YtkakdldhinimoaaMh
import Derived.Test.YtkakdldhinimoaaLc
import Derived.Test.YtkakdldhinimoaaHs
namespace Go.Proofs.Ytkakdldhinimoaa.Mq
set_option maxRecDepth 8000
open Go Go.RowKit
open Num Pl Hr Hh Hf Hg Pa Pm Po Pq Pe Mi Bw Mo Mp
set_option linter.unusedSimpArgs false
set_option linter.unusedVariables false

set_option maxHeartbeats 2000000 in
theorem hits_l (a a' : Option Addr) (n c n' c' : Nat) (p : Option Addr) (m d : Nat) (HV HM : List Int) (R : Bool) (w : World)
    (t0 : ∀ w1, Below w.heap.size w w1 → Calls Try.prog 89 #[.agg #[.slice p m d]] w1 (ResM w1 HV HM))
    (t1 : ∀ w1, Below w.heap.size w w1 → ∀ (aV aM : Option Addr) (gV cV gM cM : Nat), Rd w1 aV gV 0 HV → Rd w1 aM gM 0 HM → Calls Try.prog 50 #[.agg #[.slice a n c, .slice a' n' c'], .agg #[.slice aV HV.length cV, .slice aM HM.length cM]] w1 fun e w' => e = .returned (.bool R) ∧ Below w1.heap.size w1 w') :
    Calls Try.prog 52 #[.agg #[.slice a n c, .slice a' n' c'], .agg #[.slice p m d]] w fun e w' => e = .returned (.bool R) ∧ Below w.heap.size w w' := by
  have T0 : Hid (∀ w1, Below w.heap.size w w1 → Calls Try.prog 89 #[.agg #[.slice p m d]] w1 (ResM w1 HV HM)) := t0
  have T1 : Hid (∀ w1, Below w.heap.size w w1 → ∀ (aV aM : Option Addr) (gV cV gM cM : Nat), Rd w1 aV gV 0 HV → Rd w1 aM gM 0 HM → Calls Try.prog 50 #[.agg #[.slice a n c, .slice a' n' c'], .agg #[.slice aV HV.length cV, .slice aM HM.length cM]] w1 fun e w' => e = .returned (.bool R) ∧ Below w1.heap.size w1 w') := t1
  obtain ⟨W0, hW0⟩ : ∃ W0, W0 = (w.alloc (.cells #[.slice a n c, .slice a' n' c'] 63)).alloc (.cells #[.slice p m d] 42) := ⟨_, rfl⟩
  have B : Below w.heap.size w W0 := by subst hW0; exact Mi.below2 _ _ _
  have k0 : W0.heap[w.heap.size]? = some (.cells #[.slice a n c, .slice a' n' c'] 63 (0, 0)) := by subst hW0; rw [at_old (by simp), at_new rfl]
  have k1 : W0.heap[w.heap.size + 1]? = some (.cells #[.slice p m d] 42 (0, 0)) := by subst hW0; exact at_new (by simp)
  have z0 := (Array.getElem?_eq_some_iff.1 k0).1
  have z1 := (Array.getElem?_eq_some_iff.1 k1).1
  clear t0 t1
  go_enter Try.func52, Try.ntmps52
  go_wp2
  rw [← hW0]
  clear hW0
  refine wp_region_held_drew (S := (fun w' => w'.heap[w.heap.size]? = some (.cells #[.slice a n c, .slice a' n' c'] 63 (0, 0)) ∧ w'.heap[w.heap.size + 1]? = some (.cells #[.slice p m d] 42 (0, 0)))) (by kernel_rfl) ⟨k0, k1⟩ (fun hHeld => ?_)
  refine take (i := 0) (d := some 5) (v := .agg #[.slice a n c, .slice a' n' c']) rfl (by kernel_rfl) (by kernel_rfl) (by kernel_rfl) (by kernel_rfl) (fun _ _ _ h => h) (Or.inl ⟨by rfl, by intro w hSw; obtain ⟨q0, q1⟩ := hSw; obtain ⟨t0, t1⟩ := two q0; go_simp⟩) hHeld ?_
  simp only [Act.put, List.setIfInBounds_toArray, List.set_cons_zero, List.set_cons_succ]
  refine take (i := 1) (d := some 6) (v := .agg #[.slice p m d]) rfl (by kernel_rfl) (by kernel_rfl) (by kernel_rfl) (by kernel_rfl) (fun _ _ _ h => h) (Or.inl ⟨by rfl, by intro w hSw; obtain ⟨q0, q1⟩ := hSw; have t0 := one q1; go_simp⟩) hHeld ?_
  simp only [Act.put, List.setIfInBounds_toArray, List.set_cons_zero, List.set_cons_succ]
  refine wpAnyH_ready (rs := [2]) (by kernel_rfl) (by simp) (Rg.call1 rfl (by kernel_rfl) 89 (.tmp 6) 42 (by kernel_rfl) 7 (by kernel_rfl) (.agg #[.slice p m d]) (by kernel_rfl) (fun _ => rfl) (T0.out _ B.drew) ?_ AllReadyH.nil)
  rintro e w3 ⟨aV, gV, cV, aM, gM, cM, rfl, hV, hM, l1, l2, l3, hb⟩
  refine ⟨_, rfl, ⟨(hb.block _ z0).trans k0, (hb.block _ z1).trans k1⟩, fun hHeld => ?_⟩
  simp only [Act.put, List.setIfInBounds_toArray, List.set_cons_zero, List.set_cons_succ]
  have B1 := Rw.next B.drew hb
  have k0a : w3.heap[w.heap.size]? = some (.cells #[.slice a n c, .slice a' n' c'] 63 (0, 0)) := (hb.block _ z0).trans k0
  have k1a : w3.heap[w.heap.size + 1]? = some (.cells #[.slice p m d] 42 (0, 0)) := (hb.block _ z1).trans k1
  have z0a := Nat.lt_of_lt_of_le z0 hb.size
  have z1a := Nat.lt_of_lt_of_le z1 hb.size
  clear hb
  refine wpAnyH_ready (rs := [3]) (by kernel_rfl) (by simp) (Rg.call2 rfl (by kernel_rfl) 50 (.tmp 5) (.tmp 7) 63 63 (by kernel_rfl) 8 (by kernel_rfl) (.agg #[.slice a n c, .slice a' n' c']) (.agg #[.slice aV HV.length cV, .slice aM HM.length cM]) (by kernel_rfl) (by kernel_rfl) (fun _ => rfl) (T1.out _ B1 _ _ _ _ _ _ hV.rd hM.rd) ?_ AllReadyH.nil)
  rintro e w4 ⟨rfl, hb⟩
  refine ⟨_, rfl, ⟨(hb.block _ z0a).trans k0a, (hb.block _ z1a).trans k1a⟩, fun hHeld => ?_⟩
  simp only [Act.put, List.setIfInBounds_toArray, List.set_cons_zero, List.set_cons_succ]
  refine take (i := 4) (d := some 4) (v := .bool R) rfl (by kernel_rfl) (by kernel_rfl) (by kernel_rfl) (by kernel_rfl) (fun _ _ _ h => h) (Or.inl ⟨by rfl, by intro w hSw; go_simp⟩) hHeld ?_
  simp only [Act.put, List.setIfInBounds_toArray, List.set_cons_zero, List.set_cons_succ]
  refine wpAnyH_done (by kernel_rfl) ?_ _
  go_wp2_with fail
  go_ret
  exact ⟨rfl, Rw.next B1 hb⟩

theorem full_eq (k : Nat) : fullI k = ((2 ^ fbN k - 1 : Nat) : Int) := by
  unfold fullI topI Bt.top
  rw [Nat.sub_self, Nat.pow_zero, Nat.mul_one]
theorem full_lt (k : Nat) : 0 ≤ fullI k ∧ fullI k < 281474976710656 := by
  rw [full_eq]
  have h1 : (2 ^ fbN k : Nat) ≤ 2 ^ 48 := Nat.pow_le_pow_right (by decide) (fbN_le k)
  have h3 : (2 ^ fbN k : Nat) ≤ 281474976710656 := h1
  have hp : 0 < 2 ^ fbN k := Nat.pow_pos (by decide)
  generalize (2 ^ fbN k : Nat) = Q at *
  omega
theorem fb_pos {k : Nat} (h : k < 8) : 0 < fbN k := by
  rcases Hs.k8 h with rfl | rfl | rfl | rfl | rfl | rfl | rfl | rfl <;> decide
theorem fits_full {k : Nat} (h : k < 8) : fits k (fullI k) = true := by
  rcases Hs.k8 h with rfl | rfl | rfl | rfl | rfl | rfl | rfl | rfl <;> decide
theorem or_full {n b : Nat} (h : n < 2 ^ b) : n ||| (2 ^ b - 1) = 2 ^ b - 1 := by
  rw [Bt.within_iff]
  intro i hi
  rw [Nat.testBit_two_pow_sub_one]
  refine decide_eq_true (Nat.lt_of_not_le fun hle => ?_)
  rw [Bt.testBit_out h hle] at hi
  exact absurd hi (by simp)
theorem and_full {n b : Nat} (h : n < 2 ^ b) : (2 ^ b - 1) &&& n = n := by
  have := (Bt.within_or_and n (2 ^ b - 1)).1 (or_full h)
  rw [Nat.and_comm]
  exact this

/-- What a right head says of its places. -/
theorem head_at {H : List Int} (h : headB H = true) {k : Nat} (hk : k < 8) : fits k (H.getD k 0) = true := by
  unfold headB at h
  simp only [Bool.and_eq_true, decide_eq_true_eq] at h
  have key : ∀ j, upto H j = true → ∀ i, i < j → fits i (H.getD i 0) = true := by
    intro j
    induction j with
    | zero => intro _ i hi; omega
    | succ j ih =>
      intro hu i hi
      simp only [upto, Bool.and_eq_true] at hu
      by_cases e : i = j
      · subst e; exact hu.2
      · exact ih hu.1 i (by omega)
  exact key 8 h.2 k hk
theorem head_len {H : List Int} (h : headB H = true) : H.length = 8 := by
  unfold headB at h
  simp only [Bool.and_eq_true, decide_eq_true_eq] at h
  exact h.1
theorem lst_getD (v : Nat → Int) {k : Nat} (h : k < 8) : (lst v).getD k 0 = v k := lst_at v h
theorem of_ok {H : List Int} (h : headB H = true) : matchB (lst (nth H)) (lst fullI) = true := by
  unfold matchB
  rw [lst_len, lst_len]
  have key : ∀ j, j ≤ 8 → uptoP (lst (nth H)) (lst fullI) j = true := by
    intro j
    induction j with
    | zero => intro _; rfl
    | succ j ih =>
      intro hj
      simp only [uptoP, ih (by omega), Bool.true_and]
      rw [lst_at _ (by omega), lst_at _ (by omega)]
      unfold pairB
      have hf := head_at h (k := j) (by omega)
      rw [fits_full (by omega)]
      simp only [Bool.true_and, decide_eq_true_eq]
      refine ⟨(fits_lt hf).1, ?_⟩
      rw [full_eq, Int.toNat_natCast]
      exact or_full (fits_pow hf)
  rw [key 8 (Nat.le_refl _)]
  rfl
theorem wide_lst {v : Nat → Int} (h : ∀ k, k < 8 → I64 (v k)) : Wide (lst v) := by
  intro k
  by_cases hk : k < 8
  · rw [lst_at v hk]; exact h k hk
  · have e : (lst v).getD k 0 = 0 := by simp [List.getD, List.getElem?_eq_none (by rw [lst_len]; omega : (lst v).length ≤ k)]
    rw [e]
    unfold I64
    omega

/-- What the program asks of a right match and a right head is what the specification asks bit by bit. -/
theorem hits_iff {V M H : List Int} (h : matchB V M = true) (hh : headB H = true) :
    sameB (fun k => bits .and .i64 (nth (lst (nth H)) k) (nth M k)) (fun k => bits .and .i64 (nth (lst fullI) k) (nth M k)) (nth V) (nth M) = true ↔ ∀ f, f < 8 → ∀ i, i < fbN f → (bitI (M.getD f 0) i = 1 → bitI (V.getD f 0) i = bitI (H.getD f 0) i) := by
  rw [Lb.sameB_iff]
  have key : ∀ f, f < 8 → ((bits .and .i64 (nth (lst (nth H)) f) (nth M f) = nth V f ∧ bits .and .i64 (nth (lst fullI) f) (nth M f) = nth M f) ↔ ∀ i, i < fbN f → (bitI (M.getD f 0) i = 1 → bitI (V.getD f 0) i = bitI (H.getD f 0) i)) := by
    intro f hf
    obtain ⟨a1, a2, a3, a4, a5, a6⟩ := Lc.at_ok h hf
    have b1 := head_at hh hf
    have b2 := fits_lt b1
    have b3 := full_lt f
    unfold nth
    rw [lst_at _ hf, lst_at _ hf, Lc.and_nat b2.1 b2.2 a4 a5, Lc.and_nat b3.1 b3.2 a4 a5, Lc.cast_eq a2, Lc.cast_eq a4, full_eq, Int.toNat_natCast, and_full (fits_pow a1)]
    simp only [and_true]
    have := Bt.hits_iff (H := (H.getD f 0).toNat) a3 (fits_pow a1)
    simp only [bit_iff, bit_eq_iff]
    rw [this]
  exact ⟨fun q f hf => (key f hf).1 (q f hf), fun q f hf => (key f hf).2 (q f hf)⟩

end Go.Proofs.Ytkakdldhinimoaa.Mq
