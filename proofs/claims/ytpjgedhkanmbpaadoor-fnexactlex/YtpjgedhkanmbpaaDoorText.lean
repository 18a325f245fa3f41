/-
  Decimal texts and their numbers: the plain part.
-/
import Derived.Test.YtpjgedhkanmbpaaDoorNum
import Derived.Lib.AtoiAll
namespace Go.Proofs.YtpjgedhkanmbpaaDoor.Tn
set_option maxRecDepth 8000
open Go Go.RowKit
open Num

/-- Whether a byte is a decimal digit; the number that digits stand for, behind 'acc'. -/
def isD (c : UInt8) : Prop := 48 ≤ c.toNat ∧ c.toNat ≤ 57
def dv (acc : Nat) (l : List UInt8) : Nat := l.foldl (fun a c => a * 10 + (c.toNat - 48)) acc
theorem dv_nil (acc : Nat) : dv acc [] = acc := rfl
theorem dv_cons (acc : Nat) (c : UInt8) (r : List UInt8) : dv acc (c :: r) = dv (acc * 10 + (c.toNat - 48)) r := by simp only [dv, List.foldl_cons]
theorem dv_app (c : UInt8) (l : List UInt8) : ∀ acc : Nat, dv acc (l ++ [c]) = dv acc l * 10 + (c.toNat - 48) := by
  induction l with
  | nil => intro acc; rw [List.nil_append, dv_cons, dv_nil, dv_nil]
  | cons d r ih => intro acc; rw [List.cons_append, dv_cons, dv_cons, ih]
theorem dv_lt (l : List UInt8) : ∀ (acc k : Nat), (∀ c ∈ l, isD c) → acc < 10 ^ k → dv acc l < 10 ^ (k + l.length) := by
  induction l with
  | nil => intro acc k _ h; rw [dv_nil]; simpa using h
  | cons c r ih =>
    intro acc k hd h
    have hc := hd c (by simp)
    have h1 : acc * 10 + (c.toNat - 48) < 10 ^ (k + 1) := by unfold isD at hc; rw [Nat.pow_succ]; omega
    have := ih _ (k + 1) (fun x hx => hd x (by simp [hx])) h1
    rw [dv_cons, List.length_cons]
    have e : k + (r.length + 1) = k + 1 + r.length := by omega
    rw [e]; exact this

theorem dgt_nat (d : Nat) (h : d < 10) : (dgt d).toNat = 48 + d := by unfold dgt; simp only [UInt8.toNat_ofNat']; omega

theorem digits_ok (k : Nat) : (∀ c ∈ Lib.decDigits k, isD c) ∧ dv 0 (Lib.decDigits k) = k ∧ Lib.decDigits k ≠ [] := by
  induction k using Nat.strongRecOn with
  | ind k ih =>
    by_cases h : k < 10
    · rw [Lib.decDigits, dif_pos h]
      have e := dgt_nat k h
      unfold dgt at e
      refine ⟨fun c hc => ?_, ?_, by simp⟩
      · simp only [List.mem_singleton] at hc
        subst hc
        unfold isD; omega
      · rw [dv_cons, dv_nil]; omega
    · rw [Lib.decDigits, dif_neg h]
      obtain ⟨h1, h2, h3⟩ := ih (k / 10) (by omega)
      have e := dgt_nat (k % 10) (by omega)
      unfold dgt at e
      refine ⟨fun c hc => ?_, ?_, by simp⟩
      · rcases List.mem_append.1 hc with hc | hc
        · exact h1 c hc
        · simp only [List.mem_singleton] at hc
          subst hc
          unfold isD; omega
      · rw [dv_app, h2, e]; omega

theorem parse_ok : ∀ (l : List UInt8) (acc k : Nat), (∀ c ∈ l, isD c) → acc < 10 ^ k → l.length + k ≤ 18 → Lib.parseUint10 acc l = .ok (dv acc l)
  | [], acc, k, _, _, _ => rfl
  | c :: r, acc, k, hd, ha, hk => by
    have hc := hd c (by simp)
    have hp : (10 : Nat) ^ k ≤ 10 ^ 17 := Nat.pow_le_pow_right (by decide) (by simp at hk; omega)
    have e17 : (10 : Nat) ^ 17 = 100000000000000000 := by decide
    unfold isD at hc
    have h1 : acc * 10 + (c.toNat - 48) < 10 ^ (k + 1) := by rw [Nat.pow_succ]; omega
    rw [dv_cons]
    simp only [Lib.parseUint10]
    rw [if_pos hc, if_neg (by omega), if_neg (by omega)]
    exact parse_ok r _ (k + 1) (fun x hx => hd x (by simp [hx])) h1 (by simp at hk; omega)

/-- What the specification's TextNum asks of a text. -/
def good (s : ByteArray) : Prop := 1 ≤ s.size ∧ s.size ≤ 15 ∧ (∀ c ∈ s.data.toList, isD c) ∧ dv 0 s.data.toList ≤ 281474976710655 ∧ txt (dv 0 s.data.toList) = s

theorem good_txt (k : Nat) (h : k ≤ 281474976710655) : good (txt k) ∧ dv 0 (txt k).data.toList = k := by
  have hd := digits_ok k
  have e : (txt k).data.toList = Lib.decDigits k := by simp [txt]
  have hs : 1 ≤ (txt k).size := by
    have : (txt k).size = (Lib.decDigits k).length := by simp [txt, ByteArray.size]
    have h0 : (Lib.decDigits k).length ≠ 0 := fun q => hd.2.2 (List.eq_nil_of_length_eq_zero q)
    omega
  refine ⟨⟨hs, txt_le k h, ?_, ?_, ?_⟩, ?_⟩
  · rw [e]; exact hd.1
  · rw [e, hd.2.1]; exact h
  · rw [e, hd.2.1]
  · rw [e, hd.2.1]

theorem atoi_txt (k : Nat) (h : k ≤ 281474976710655) : Lib.atoiAll (txt k).data.toList = .ok (k : Int) := by
  have hd := digits_ok k
  have e : (txt k).data.toList = Lib.decDigits k := by simp [txt]
  have hl : (Lib.decDigits k).length ≤ 15 := by
    have h1 := txt_le k h
    have : (txt k).size = (Lib.decDigits k).length := by simp [txt, ByteArray.size]
    omega
  rw [e]
  have hp := parse_ok (Lib.decDigits k) 0 0 hd.1 (by decide) (by omega)
  have h3 := hd.2.1
  have h1 := hd.1
  have h2 := hd.2.2
  generalize Lib.decDigits k = l at *
  cases l with
  | nil => exact absurd rfl h2
  | cons c r =>
    have hc := h1 c (by simp)
    unfold isD at hc
    unfold Lib.atoiAll
    simp only
    rw [if_neg (by omega)]
    unfold Lib.parseMag
    rw [if_neg (by simp), hp, h3]
    simp only
    rw [if_neg (by omega), if_neg (by omega), if_neg (by omega)]

end Go.Proofs.YtpjgedhkanmbpaaDoor.Tn
