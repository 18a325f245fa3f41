/-
  Bits of numbers, plain: what is asked bit by bit, said of the whole number.
-/
import Derived.Test.YtcbgnfjnjfaacaaRows
namespace Go.Proofs.Ytcbgnfjnjfaacaa.Bt

theorem testBit_out {n k i : Nat} (h : n < 2 ^ k) (hi : k ≤ i) : n.testBit i = false :=
  Nat.testBit_lt_two_pow (Nat.lt_of_lt_of_le h (Nat.pow_le_pow_right (by decide) hi))

/-- Bit i of a number, as it is reckoned. -/
theorem bit_eq (n i : Nat) : n / 2 ^ i % 2 = if n.testBit i then 1 else 0 := by
  rw [Nat.testBit_eq_decide_div_mod_eq]
  have : n / 2 ^ i % 2 = 0 ∨ n / 2 ^ i % 2 = 1 := by omega
  rcases this with h | h <;> simp [h]

/-- V has no bit that M hasn't. -/
theorem within_iff (V M : Nat) : V ||| M = M ↔ ∀ i, V.testBit i = true → M.testBit i = true := by
  constructor
  · intro h i hi
    rw [← h, Nat.testBit_or, hi, Bool.true_or]
  · intro h
    apply Nat.eq_of_testBit_eq
    intro i
    rw [Nat.testBit_or]
    cases hv : V.testBit i with
    | false => simp
    | true => rw [h i hv]; rfl
theorem within_and (V M : Nat) : V &&& M = V ↔ ∀ i, V.testBit i = true → M.testBit i = true := by
  constructor
  · intro h i hi
    rw [← h, Nat.testBit_and, Bool.and_eq_true] at hi
    exact hi.2
  · intro h
    apply Nat.eq_of_testBit_eq
    intro i
    rw [Nat.testBit_and]
    cases hv : V.testBit i with
    | false => simp
    | true => rw [h i hv]; rfl
theorem within_or_and (V M : Nat) : V ||| M = M ↔ V &&& M = V := (within_iff V M).trans (within_and V M).symm
theorem within_lt {V M k : Nat} (h : V ||| M = M) (hM : M < 2 ^ k) : V < 2 ^ k := by
  have : V ≤ V ||| M := Nat.left_le_or
  omega

/-- A head's number has in the bits of M just those of V. -/
theorem hits_iff {V M H k : Nat} (hV : V ||| M = M) (hM : M < 2 ^ k) : (∀ i, i < k → M.testBit i = true → V.testBit i = H.testBit i) ↔ H &&& M = V := by
  have hw := (within_iff V M).1 hV
  constructor
  · intro h
    apply Nat.eq_of_testBit_eq
    intro i
    rw [Nat.testBit_and]
    by_cases hi : i < k
    · cases hm : M.testBit i with
      | false =>
        have : V.testBit i = false := by
          cases hv : V.testBit i with
          | false => rfl
          | true => rw [hw i hv] at hm; exact absurd hm (by simp)
        simp [this]
      | true => rw [h i hi hm]; simp
    · have h1 := testBit_out hM (Nat.le_of_not_lt hi)
      have h2 := testBit_out (within_lt hV hM) (Nat.le_of_not_lt hi)
      simp [h1, h2]
  · intro h i _ hm
    rw [← h, Nat.testBit_and, hm, Bool.and_true]

/-- Each bit that a asks is asked by b, and is the same. -/
theorem covers_iff {aV aM bV bM k : Nat} (ha : aV ||| aM = aM) (hM : aM < 2 ^ k) : (∀ i, i < k → aM.testBit i = true → bM.testBit i = true ∧ aV.testBit i = bV.testBit i) ↔ aM &&& bM = aM ∧ bV &&& aM = aV := by
  rw [← hits_iff ha hM, within_and]
  constructor
  · intro h
    refine ⟨fun i hi => ?_, fun i hi hm => (h i hi hm).2⟩
    by_cases hk : i < k
    · exact (h i hk hi).1
    · rw [testBit_out hM (Nat.le_of_not_lt hk)] at hi; exact absurd hi (by simp)
  · exact fun h i hi hm => ⟨h.1 i hm, h.2 i hi hm⟩

/-- No bit that both ask differs. -/
theorem meets_iff {aV aM bV bM k : Nat} (ha : aV ||| aM = aM) (hb : bV ||| bM = bM) (hM : aM < 2 ^ k) : (∀ i, i < k → aM.testBit i = true → bM.testBit i = true → aV.testBit i = bV.testBit i) ↔ aV &&& bM = bV &&& aM := by
  have wa := (within_iff aV aM).1 ha
  have wb := (within_iff bV bM).1 hb
  constructor
  · intro h
    apply Nat.eq_of_testBit_eq
    intro i
    rw [Nat.testBit_and, Nat.testBit_and]
    by_cases hk : i < k
    · cases hm : aM.testBit i with
      | false =>
        have : aV.testBit i = false := by
          cases hv : aV.testBit i with
          | false => rfl
          | true => rw [wa i hv] at hm; exact absurd hm (by simp)
        simp [this]
      | true =>
        cases hn : bM.testBit i with
        | false =>
          have : bV.testBit i = false := by
            cases hv : bV.testBit i with
            | false => rfl
            | true => rw [wb i hv] at hn; exact absurd hn (by simp)
          simp [this]
        | true => rw [h i hk hm hn]
    · have h1 := testBit_out hM (Nat.le_of_not_lt hk)
      have h2 := testBit_out (within_lt ha hM) (Nat.le_of_not_lt hk)
      simp [h1, h2]
  · intro h i _ hm hn
    have := congrArg (fun n => n.testBit i) h
    simpa [Nat.testBit_and, hm, hn] using this

/-- The two put together: what it hits both hit, and the other way round. -/
theorem meet_hits {aV aM bV bM H : Nat} (ha : aV ||| aM = aM) (hb : bV ||| bM = bM) (h : aV &&& bM = bV &&& aM) : H &&& (aM ||| bM) = aV ||| bV ↔ H &&& aM = aV ∧ H &&& bM = bV := by
  have wa := (within_iff aV aM).1 ha
  have wb := (within_iff bV bM).1 hb
  have key : ∀ i, (aV.testBit i && bM.testBit i) = (bV.testBit i && aM.testBit i) := fun i => by
    have := congrArg (fun n => n.testBit i) h
    simpa [Nat.testBit_and] using this
  constructor
  · intro e
    have ei : ∀ i, (H.testBit i && (aM.testBit i || bM.testBit i)) = (aV.testBit i || bV.testBit i) := fun i => by
      have := congrArg (fun n => n.testBit i) e
      simpa [Nat.testBit_and, Nat.testBit_or] using this
    constructor
    all_goals
      apply Nat.eq_of_testBit_eq
      intro i
      rw [Nat.testBit_and]
      have e1 := ei i
      have k1 := key i
      have a1 := wa i
      have b1 := wb i
      revert e1 k1 a1 b1
      cases H.testBit i <;> cases aM.testBit i <;> cases bM.testBit i <;> cases aV.testBit i <;> cases bV.testBit i <;> simp
  · rintro ⟨e1, e2⟩
    rw [Nat.and_or_distrib_left, e1, e2]

/-- The bits of a number up to k, counted. -/
def cnt (n : Nat) : Nat → Nat
  | 0 => 0
  | k + 1 => cnt n k + n / 2 ^ k % 2
theorem cnt_le (n : Nat) : ∀ k, cnt n k ≤ k
  | 0 => Nat.le_refl _
  | k + 1 => by have := cnt_le n k; simp only [cnt]; omega
theorem cnt_half (n : Nat) : ∀ k, cnt n (k + 1) = n % 2 + cnt (n / 2) k
  | 0 => by simp [cnt]
  | k + 1 => by
    have := cnt_half n k
    have e : n / 2 ^ (k + 1) = n / 2 / 2 ^ k := by rw [Nat.pow_succ, Nat.mul_comm, Nat.div_div_eq_div_mul]
    rw [cnt, this, e]
    simp only [cnt]
    omega
theorem cnt_zero : ∀ k, cnt 0 k = 0
  | 0 => rfl
  | k + 1 => by simp [cnt, cnt_zero k]

/-- The n highest of b bits. -/
def top (b n : Nat) : Nat := (2 ^ n - 1) * 2 ^ (b - n)
theorem top_succ {b n : Nat} (h : n < b) : top b (n + 1) = top b n + 2 ^ (b - (n + 1)) := by
  unfold top
  obtain ⟨m, rfl⟩ : ∃ m, b = n + 1 + m := ⟨b - (n + 1), by omega⟩
  have e1 : n + 1 + m - (n + 1) = m := by omega
  have e2 : n + 1 + m - n = m + 1 := by omega
  rw [e1, e2, Nat.pow_succ, Nat.pow_succ]
  have hp : 0 < 2 ^ n := Nat.pow_pos (by decide)
  generalize 2 ^ n = P at *
  generalize 2 ^ m = Q at *
  obtain ⟨p, rfl⟩ : ∃ p, P = p + 1 := ⟨P - 1, by omega⟩
  have : (p + 1) * 2 - 1 = p * 2 + 1 := by omega
  rw [this, Nat.add_mul, Nat.one_mul, Nat.add_sub_cancel, Nat.mul_assoc, Nat.mul_comm 2 Q]
theorem top_lt (b n : Nat) (h : n ≤ b) : top b n < 2 ^ b := by
  unfold top
  obtain ⟨m, rfl⟩ : ∃ m, b = n + m := ⟨b - n, by omega⟩
  rw [Nat.add_sub_cancel_left, Nat.pow_add]
  have hp : 0 < 2 ^ n := Nat.pow_pos (by decide)
  have hq : 0 < 2 ^ m := Nat.pow_pos (by decide)
  exact Nat.mul_lt_mul_of_pos_right (by omega) hq
/-- What is asked of v: its n highest bits. -/
theorem high_succ {v b n : Nat} (h : n < b) : v / 2 ^ (b - (n + 1)) * 2 ^ (b - (n + 1)) = v / 2 ^ (b - n) * 2 ^ (b - n) + (v / 2 ^ (b - (n + 1)) % 2) * 2 ^ (b - (n + 1)) := by
  obtain ⟨m, rfl⟩ : ∃ m, b = n + 1 + m := ⟨b - (n + 1), by omega⟩
  have e1 : n + 1 + m - (n + 1) = m := by omega
  have e2 : n + 1 + m - n = m + 1 := by omega
  rw [e1, e2, Nat.pow_succ]
  have e3 : v / (2 ^ m * 2) = v / 2 ^ m / 2 := (Nat.div_div_eq_div_mul v (2 ^ m) 2).symm
  rw [e3]
  generalize v / 2 ^ m = x
  generalize 2 ^ m = Q
  have : x = x / 2 * 2 + x % 2 := by omega
  conv => lhs; rw [this]
  rw [Nat.add_mul, Nat.mul_assoc, Nat.mul_comm 2 Q]

end Go.Proofs.Ytcbgnfjnjfaacaa.Bt
