/-
  The texts of programs, plain.
-/
import Derived.Test.YtmpobkbjjnafmaaGreatDoorPrf
import Derived.Test.YtmpobkbjjnafmaaGreatDoorNum
import Derived.Test.YtmpobkbjjnafmaaGreatDoorVl
namespace Go.Proofs.YtmpobkbjjnafmaaGreatDoor.Wp
set_option maxRecDepth 8000
set_option linter.unusedSimpArgs false
set_option linter.unusedVariables false
open Go Go.ChangeShapes Go.WideShapes Go.RowKit
open Num Word Pl
open Lv (varB)
open Lk (keptB)
open Vl (valB)
open Pm (Tm tm0 Dc dc0 Lm lm0 Rm rm0 Atm Pg kdTm kdDc kdLm kdRm Rd Sl told AtL LtL RuL PgL termB atomB litB ruleB declB progB nameB)

def eS : ByteArray := ⟨#[]⟩
def vtx (n : Int) (s : ByteArray) : ByteArray := if s.toList.isEmpty = true then txt n.toNat else s
/-- The text of a term. -/
def prT (x : Tm) : ByteArray := if x.v.toList.isEmpty = true then vtx x.n x.s else x.v
/-- The texts of the first k of a list, each behind what stands ahead of it. -/
def jn {α : Type} (z : α) (f : α → ByteArray) (fst sep : ByteArray) (Q : List α) : Nat → ByteArray
  | 0 => eS
  | k + 1 => jn z f fst sep Q k ++ ((if k = 0 then fst else sep) ++ f (Q.getD k z))
def cS : ByteArray := ⟨#[44, 32]⟩
def prA (a : AtL) : ByteArray := (a.1 ++ ⟨#[40]⟩) ++ (jn tm0 prT eS cS a.2 a.2.length ++ ⟨#[41]⟩)
def sgN : Nat → ByteArray
  | 1 => ⟨#[61]⟩
  | 2 => ⟨#[33, 61]⟩
  | 3 => ⟨#[60]⟩
  | 4 => ⟨#[60, 61]⟩
  | _ => eS
def kdN : Nat → ByteArray
  | 2 => ⟨#[43]⟩
  | 3 => ⟨#[45]⟩
  | _ => eS
def wdN : Nat → ByteArray
  | 1 => ⟨#[115, 116, 97, 116, 101]⟩
  | 2 => ⟨#[101, 118, 101, 110, 116]⟩
  | 3 => ⟨#[118, 105, 101, 119]⟩
  | _ => eS
def notS : ByteArray := ⟨#[110, 111, 116, 32]⟩
def spS : ByteArray := ⟨#[32]⟩
def prK (k : LtL) : ByteArray := if k.1 = 1 then prA k.2.1 else if k.1 = 2 then notS ++ prA k.2.1 else prT k.2.2.2.1 ++ ((spS ++ (sgN k.2.2.1.toNat ++ spS)) ++ prT k.2.2.2.2)
def prR (r : RuL) : ByteArray := kdN r.1.toNat ++ (prA r.2.1 ++ (jn (lm0.l) prK ⟨#[32, 58, 45, 32]⟩ cS r.2.2 r.2.2.length ++ ⟨#[46]⟩))
def prD (d : Dc) : ByteArray := wdN d.k.toNat ++ (spS ++ (d.s ++ (⟨#[47]⟩ ++ (txt d.ar.toNat ++ ⟨#[46, 10]⟩))))
def prRn (r : RuL) : ByteArray := prR r ++ ⟨#[10]⟩
def prP (p : PgL) : ByteArray := jn dc0 prD eS eS p.1 p.1.length ++ jn (rm0.l) prRn eS eS p.2 p.2.length

theorem app_assoc (a b c : ByteArray) : (a ++ b) ++ c = a ++ (b ++ c) := by
  apply ByteArray.ext
  simp [Array.append_assoc]
theorem app_e (a : ByteArray) : a ++ eS = a := by
  apply ByteArray.ext
  simp [eS]
theorem e_app (a : ByteArray) : eS ++ a = a := by
  apply ByteArray.ext
  simp [eS]
theorem sz (a b : ByteArray) : (a ++ b).size = a.size + b.size := ByteArray.size_append
theorem e_size : eS.size = 0 := rfl
theorem txt_cap {n : Int} (h : numB n = true) : (txt n.toNat).size ≤ 15 := by
  unfold numB at h
  have := of_decide_eq_true h
  exact txt_le _ (by omega)
theorem var_cap {s : ByteArray} (h : varB s = true) : s.size ≤ 12 := by
  unfold Lv.varB at h
  exact (of_decide_eq_true h).2.1
theorem word_cap {s : ByteArray} (h : wordB s = true) : s.size ≤ 12 := by
  unfold wordB at h
  exact (of_decide_eq_true h).2.1
theorem vtx_cap {n : Int} {s : ByteArray} (h : valB (n, s) = true) : (vtx n s).size ≤ 15 := by
  unfold Vl.valB at h
  unfold vtx
  simp only at h
  split
  · rename_i e
    rw [if_pos e] at h
    exact txt_cap h
  · rename_i e
    rw [if_neg e] at h
    simp only [Bool.and_eq_true] at h
    have := word_cap h.2
    omega
theorem term_val {x : Tm} (h : termB x = true) (e : x.v.toList.isEmpty = true) : valB (x.n, x.s) = true := by
  unfold Pm.termB at h
  rw [if_pos e] at h
  simp only [Bool.and_eq_true] at h
  exact h.1
theorem prT_cap {x : Tm} (h : termB x = true) : (prT x).size ≤ 15 := by
  unfold prT
  split
  · rename_i e
    exact vtx_cap (term_val h e)
  · rename_i e
    unfold Pm.termB at h
    rw [if_neg e] at h
    simp only [Bool.and_eq_true] at h
    have := var_cap h.1
    omega
theorem jn_mono {α : Type} {z : α} {f : α → ByteArray} {fst sep : ByteArray} {Q : List α} {i j : Nat} (h : i ≤ j) : (jn z f fst sep Q i).size ≤ (jn z f fst sep Q j).size := by
  induction j with
  | zero => have : i = 0 := by omega
            subst this; exact Nat.le_refl _
  | succ j ih =>
    by_cases e : i = j + 1
    · subst e; exact Nat.le_refl _
    · have := ih (by omega)
      simp only [jn, sz]; omega
theorem jn_cap {α : Type} {z : α} {f : α → ByteArray} {fst sep : ByteArray} {Q : List α} {c d : Nat} (hf : fst.size ≤ d) (hs : sep.size ≤ d) (hq : ∀ i, i < Q.length → (f (Q.getD i z)).size ≤ c) : ∀ k, k ≤ Q.length → (jn z f fst sep Q k).size ≤ k * (c + d)
  | 0, _ => by show eS.size ≤ _; rw [e_size]; exact Nat.zero_le _
  | k + 1, h => by
    have h1 := jn_cap hf hs hq k (by omega)
    have h2 := hq k (by omega)
    simp only [jn, sz]
    rw [Nat.succ_mul]
    split <;> omega
theorem all_getD {α : Type} {z : α} {P : α → Bool} {Q : List α} (h : Q.all P = true) (i : Nat) (hi : i < Q.length) : P (Q.getD i z) = true := by
  have e : Q.getD i z = Q[i] := by simp [List.getD, hi]
  rw [e]
  exact List.all_eq_true.1 h _ (List.getElem_mem hi)
theorem atom_parts {a : AtL} (h : atomB a = true) : a.1.size ≤ 12 ∧ a.2.length ≤ 6 ∧ ∀ i, i < a.2.length → termB (a.2.getD i tm0) = true := by
  unfold Pm.atomB Pm.nameB at h
  simp only [Bool.and_eq_true, decide_eq_true_eq] at h
  exact ⟨word_cap h.1.1, h.2.1, all_getD h.2.2⟩
theorem prA_cap {a : AtL} (h : atomB a = true) : (prA a).size ≤ 116 := by
  obtain ⟨h1, h2, h3⟩ := atom_parts h
  have h4 := jn_cap (z := tm0) (f := prT) (fst := eS) (sep := cS) (Q := a.2) (c := 15) (d := 2) (by decide) (by decide) (fun i hi => prT_cap (h3 i hi)) a.2.length (Nat.le_refl _)
  unfold prA
  simp only [sz]
  have h5 : a.2.length * (15 + 2) ≤ 6 * 17 := Nat.mul_le_mul_right _ h2
  have e1 : (⟨#[40]⟩ : ByteArray).size = 1 := rfl
  have e2 : (⟨#[41]⟩ : ByteArray).size = 1 := rfl
  omega
theorem sg_cap (n : Nat) : (sgN n).size ≤ 2 := by
  unfold sgN; split <;> decide
theorem kd_cap (n : Nat) : (kdN n).size ≤ 1 := by
  unfold kdN; split <;> decide
theorem wd_cap (n : Nat) : (wdN n).size ≤ 5 := by
  unfold wdN; split <;> decide
/-- What is right of a right literal. -/
theorem lit_parts {k : LtL} (h : litB k = true) : (k.1 = 3 ∧ termB k.2.2.2.1 = true ∧ termB k.2.2.2.2 = true ∧ 1 ≤ k.2.2.1 ∧ k.2.2.1 ≤ 4) ∨ ((k.1 = 1 ∨ k.1 = 2) ∧ atomB k.2.1 = true) := by
  unfold Pm.litB at h
  split at h
  · rename_i e
    unfold Pm.compB at h
    simp only [Bool.and_eq_true, decide_eq_true_eq] at h
    exact .inl ⟨e, h.2.1, h.2.2, h.1.2.2⟩
  · simp only [Bool.and_eq_true, decide_eq_true_eq] at h
    exact .inr ⟨h.1, h.2.1⟩
theorem prK_cap {k : LtL} (h : litB k = true) : (prK k).size ≤ 120 := by
  have e1 : notS.size = 4 := rfl
  have e2 : spS.size = 1 := rfl
  unfold prK
  rcases lit_parts h with ⟨q, h1, h2, _⟩ | ⟨q, h1⟩
  · rw [if_neg (by omega), if_neg (by omega)]
    have := prT_cap h1
    have := prT_cap h2
    have := sg_cap k.2.2.1.toNat
    simp only [sz]; omega
  · have := prA_cap h1
    split
    · omega
    · rw [if_pos (by omega)]
      simp only [sz]; omega
theorem rule_parts {r : RuL} (h : ruleB r = true) : 1 ≤ r.1 ∧ r.1 ≤ 3 ∧ atomB r.2.1 = true ∧ r.2.2.length ≤ 8 ∧ ∀ i, i < r.2.2.length → litB (r.2.2.getD i lm0.l) = true := by
  unfold Pm.ruleB at h
  simp only [Bool.and_eq_true, decide_eq_true_eq] at h
  exact ⟨h.1.1, h.1.2, h.2.1, h.2.2.1, all_getD h.2.2.2⟩
theorem prR_cap {r : RuL} (h : ruleB r = true) : (prR r).size ≤ 1200 := by
  obtain ⟨_, _, h1, h2, h3⟩ := rule_parts h
  have h4 := jn_cap (z := lm0.l) (f := prK) (fst := ⟨#[32, 58, 45, 32]⟩) (sep := cS) (Q := r.2.2) (c := 120) (d := 4) (by decide) (by decide) (fun i hi => prK_cap (h3 i hi)) r.2.2.length (Nat.le_refl _)
  have h5 := prA_cap h1
  have h6 := kd_cap r.1.toNat
  have h7 : r.2.2.length * (120 + 4) ≤ 8 * 124 := Nat.mul_le_mul_right _ h2
  have e1 : (⟨#[46]⟩ : ByteArray).size = 1 := rfl
  unfold prR
  simp only [sz]; omega
theorem decl_parts {d : Dc} (h : declB d = true) : 1 ≤ d.k ∧ d.k ≤ 3 ∧ d.s.size ≤ 12 ∧ 0 ≤ d.ar ∧ d.ar ≤ 6 := by
  unfold Pm.declB Pm.nameB at h
  simp only [Bool.and_eq_true, decide_eq_true_eq] at h
  exact ⟨h.1.1, h.1.2, word_cap h.2.1.1, h.2.2⟩
theorem prD_cap {d : Dc} (h : declB d = true) : (prD d).size ≤ 40 := by
  obtain ⟨h1, h2, h3, h4, h5⟩ := decl_parts h
  have h6 := wd_cap d.k.toNat
  have h7 := txt_le d.ar.toNat (by omega)
  have e1 : spS.size = 1 := rfl
  have e2 : (⟨#[47]⟩ : ByteArray).size = 1 := rfl
  have e3 : (⟨#[46, 10]⟩ : ByteArray).size = 2 := rfl
  unfold prD
  simp only [sz]; omega
theorem prog_parts {p : PgL} (h : progB p = true) : p.1.length ≤ 16 ∧ (∀ i, i < p.1.length → declB (p.1.getD i dc0) = true) ∧ p.2.length ≤ 24 ∧ ∀ i, i < p.2.length → ruleB (p.2.getD i rm0.l) = true := by
  unfold Pm.progB at h
  simp only [Bool.and_eq_true, decide_eq_true_eq] at h
  exact ⟨h.1.1, all_getD h.1.2, h.2.1, all_getD h.2.2⟩
theorem prP_cap {p : PgL} (h : progB p = true) : (prP p).size ≤ 40000 := by
  obtain ⟨h1, h2, h3, h4⟩ := prog_parts h
  have h5 := jn_cap (z := dc0) (f := prD) (fst := eS) (sep := eS) (Q := p.1) (c := 40) (d := 0) (by decide) (by decide) (fun i hi => prD_cap (h2 i hi)) p.1.length (Nat.le_refl _)
  have h6 := jn_cap (z := rm0.l) (f := prRn) (fst := eS) (sep := eS) (Q := p.2) (c := 1201) (d := 0) (by decide) (by decide) (fun i hi => by
    have := prR_cap (h4 i hi)
    have e1 : (⟨#[10]⟩ : ByteArray).size = 1 := rfl
    unfold prRn
    simp only [sz]; omega) p.2.length (Nat.le_refl _)
  have h7 : p.1.length * (40 + 0) ≤ 16 * 40 := Nat.mul_le_mul_right _ h1
  have h8 : p.2.length * (1201 + 0) ≤ 24 * 1201 := Nat.mul_le_mul_right _ h3
  unfold prP
  simp only [sz]; omega

end Go.Proofs.YtmpobkbjjnafmaaGreatDoor.Wp
