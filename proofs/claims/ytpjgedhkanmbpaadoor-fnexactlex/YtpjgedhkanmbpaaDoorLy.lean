/-
  Tokens, plain: what a text is read as. No walk.
-/
import Derived.Test.YtpjgedhkanmbpaaDoorTn
import Derived.Test.YtpjgedhkanmbpaaDoorWord
import Derived.Test.YtpjgedhkanmbpaaDoorLv
namespace Go.Proofs.YtpjgedhkanmbpaaDoor.Ly
open Go Go.RowKit
open Lv (ch ltr cap lead varB len_eq)

/-- A byte that stands between tokens. -/
def blk (c : Int) : Bool := decide (c = 9 ∨ c = 10 ∨ c = 13 ∨ c = 32)
/-- How many bytes stand ahead of the next byte 10, or of the end. -/
def nl : List UInt8 → Nat
  | [] => 0
  | b :: r => if b.toNat = 10 then 0 else nl r + 1
def rem (s : ByteArray) (k : Nat) : Nat := nl (s.data.toList.drop k)
theorem drop_at (s : ByteArray) (k : Nat) (h : k < s.size) : s.data.toList.drop k = s.data.toList.getD k 0 :: s.data.toList.drop (k + 1) := by
  have h' : k < s.data.toList.length := by rw [len_eq]; exact h
  rw [List.drop_eq_getElem_cons h']
  simp [List.getD, List.getElem?_eq_getElem h']
theorem rem_end {s : ByteArray} {k : Nat} (h : s.size ≤ k) : rem s k = 0 := by
  unfold rem
  rw [List.drop_eq_nil_of_le (by rw [len_eq]; exact h)]
  rfl
theorem rem_ten {s : ByteArray} {k : Nat} (h : k < s.size) (hc : ch s k = 10) : rem s k = 0 := by
  unfold rem
  rw [drop_at s k h]
  unfold ch at hc
  have : (s.data.toList.getD k 0).toNat = 10 := by omega
  simp only [nl, if_pos this]
theorem rem_step {s : ByteArray} {k : Nat} (h : k < s.size) (hc : ch s k ≠ 10) : rem s k = rem s (k + 1) + 1 := by
  unfold rem
  rw [drop_at s k h]
  unfold ch at hc
  have : ¬ (s.data.toList.getD k 0).toNat = 10 := by omega
  simp only [nl, if_neg this]

/-- How many letters and digits stand from place i on. -/
def ld (s : ByteArray) (i : Nat) : Nat := lead (s.data.toList.drop i)
theorem ld_le (s : ByteArray) (i : Nat) (h : i ≤ s.size) : i + ld s i ≤ s.size := by
  have := Lv.lead_le (s.data.toList.drop i)
  rw [List.length_drop, len_eq] at this
  unfold ld
  omega
theorem ch_drop (s : ByteArray) (i j : Nat) : (((s.data.toList.drop i).getD j 0).toNat : Int) = ch s (i + j) := by
  unfold ch
  simp [List.getD, List.getElem?_drop]
theorem ld_at {s : ByteArray} {i k : Nat} (h : i ≤ k) (hk : k ≤ s.size) (ha : ∀ j, i ≤ j → j < k → ltr (ch s j) = true) (he : k = s.size ∨ ltr (ch s k) = false) : ld s i = k - i := by
  unfold ld
  refine Lv.lead_at _ _ (by rw [List.length_drop, len_eq]; omega) (fun j hj => ?_) ?_
  · rw [ch_drop]; exact ha _ (by omega) (by omega)
  · rcases he with he | he
    · left; rw [List.length_drop, len_eq]; omega
    · right; rw [ch_drop]; rw [show i + (k - i) = k by omega]; exact he
theorem ld_pos {s : ByteArray} {i : Nat} (h : i < s.size) (hl : ltr (ch s i) = true) : 0 < ld s i := by
  unfold ld
  rw [drop_at s i h]
  unfold ch at hl
  simp only [lead, if_pos hl]
  omega
theorem ld_zero {s : ByteArray} {i : Nat} (h : i < s.size) (hl : ltr (ch s i) = false) : ld s i = 0 := by
  unfold ld
  rw [drop_at s i h]
  unfold ch at hl
  simp only [lead, hl]
  rfl

/-- What is found at a place: kind, number, text, bytes, code. -/
structure Ft where
  k : Int
  n : Int
  s : ByteArray
  len : Nat
  code : Int
/-- Of letters and digits alone. -/
noncomputable def letT (u : ByteArray) : Ft :=
  open Classical in
  if 48 ≤ ch u 0 ∧ ch u 0 ≤ 57 then (if Tn.good u then ⟨3, (Tn.dv 0 u.data.toList : Nat), ⟨#[]⟩, u.size, 0⟩ else ⟨0, 0, ⟨#[]⟩, u.size, 3⟩)
  else if Word.wordB u = true then ⟨1, 0, u, u.size, 0⟩
  else if varB u = true then ⟨2, 0, u, u.size, 0⟩ else ⟨0, 0, ⟨#[]⟩, u.size, 4⟩
theorem let_len (u : ByteArray) : (letT u).len = u.size := by
  unfold letT
  (repeat' split) <;> rfl

/-- The signs, the longer ones ahead. -/
def lits : List ByteArray := [⟨#[58, 45]⟩, ⟨#[33, 61]⟩, ⟨#[60, 61]⟩, ⟨#[40]⟩, ⟨#[41]⟩, ⟨#[44]⟩, ⟨#[46]⟩, ⟨#[61]⟩, ⟨#[60]⟩, ⟨#[43]⟩, ⟨#[45]⟩, ⟨#[47]⟩]
def lit (k : Nat) : ByteArray := lits.getD k ⟨#[]⟩
def pre (s : ByteArray) (i : Nat) (p : ByteArray) : Bool := Lib.hasPrefix (s.data.toList.drop i) p.data.toList
def sgFrom (s : ByteArray) (i : Nat) : List ByteArray → ByteArray
  | [] => ⟨#[]⟩
  | p :: r => if pre s i p = true then p else sgFrom s i r
def sg (s : ByteArray) (i : Nat) : ByteArray := sgFrom s i lits
theorem sg_hit {s : ByteArray} {i : Nat} : ∀ (L : List ByteArray) (k : Nat), k < L.length → (∀ j, j < k → pre s i (L.getD j ⟨#[]⟩) = false) → pre s i (L.getD k ⟨#[]⟩) = true → sgFrom s i L = L.getD k ⟨#[]⟩
  | [], k, h, _, _ => by simp at h
  | p :: r, 0, _, _, h => by
    have h' : pre s i p = true := h
    simp [sgFrom, h']
  | p :: r, k + 1, h, ha, hk => by
    have h0 : pre s i p = false := ha 0 (by omega)
    have := sg_hit r k (by simp at h; omega) (fun j hj => by have := ha (j + 1) (by omega); simpa using this) (by simpa using hk)
    simp [sgFrom, h0, this]
theorem sg_none {s : ByteArray} {i : Nat} : ∀ (L : List ByteArray), (∀ j, j < L.length → pre s i (L.getD j ⟨#[]⟩) = false) → sgFrom s i L = ⟨#[]⟩
  | [], _ => rfl
  | p :: r, h => by
    have h0 : pre s i p = false := h 0 (by simp)
    have := sg_none r (fun j hj => by have := h (j + 1) (by simp; omega); simpa using this)
    simp [sgFrom, h0, this]
theorem lit_size (k : Nat) (h : k < 12) : 1 ≤ (lit k).size ∧ (lit k).size ≤ 2 := by
  match k, h with
  | 0, _ | 1, _ | 2, _ | 3, _ | 4, _ | 5, _ | 6, _ | 7, _ | 8, _ | 9, _ | 10, _ | 11, _ => exact ⟨by decide, by decide⟩
  | k + 12, h => omega

/-- What stands at a place: letters and digits, or a sign. -/
noncomputable def fst (s : ByteArray) (i : Nat) : Ft :=
  if 0 < ld s i then letT (s.extract i (i + ld s i))
  else if (sg s i).size = 0 then ⟨0, 0, ⟨#[]⟩, 0, 2⟩ else ⟨4, 0, sg s i, (sg s i).size, 0⟩
theorem ext_size (s : ByteArray) (i j : Nat) (h : i ≤ j) (hj : j ≤ s.size) : (s.extract i j).size = j - i := by
  rw [ByteArray.size_extract]; omega

structure Tk where
  k : Int
  n : Int
  s : ByteArray
  p : Int
/-- The tokens from place i on behind those of acc, a code and a place. -/
noncomputable def LX (s : ByteArray) (i : Nat) (acc : List Tk) : List Tk × Int × Int :=
  if i < s.size then
    if blk (ch s i) = true then LX s (i + 1) acc
    else if ch s i = 35 then LX s (i + 1 + rem s (i + 1)) acc
    else if (fst s i).code = 0 then LX s (i + 1 + ((fst s i).len - 1)) (acc ++ [⟨(fst s i).k, (fst s i).n, (fst s i).s, i⟩])
    else ([], (fst s i).code, i)
  else (acc, 0, 0)
termination_by s.size - i
decreasing_by all_goals omega
theorem LX_end {s : ByteArray} {i : Nat} (h : s.size ≤ i) (acc : List Tk) : LX s i acc = (acc, 0, 0) := by
  rw [LX, if_neg (by omega)]
theorem LX_blank {s : ByteArray} {i : Nat} (h : i < s.size) (hb : blk (ch s i) = true) (acc : List Tk) : LX s i acc = LX s (i + 1) acc := by
  rw [LX, if_pos h, if_pos hb]
theorem not35 {c : Int} (h : c = 35) : ¬ blk c = true := by subst h; decide
theorem LX_rem {s : ByteArray} {i : Nat} (h : i < s.size) (hb : ch s i = 35) (acc : List Tk) : LX s i acc = LX s (i + 1 + rem s (i + 1)) acc := by
  rw [LX, if_pos h, if_neg (not35 hb), if_pos hb]
theorem LX_tok {s : ByteArray} {i : Nat} (h : i < s.size) (hb : blk (ch s i) = false) (h35 : ch s i ≠ 35) (hc : (fst s i).code = 0) (hl : 1 ≤ (fst s i).len) (acc : List Tk) : LX s i acc = LX s (i + (fst s i).len) (acc ++ [⟨(fst s i).k, (fst s i).n, (fst s i).s, i⟩]) := by
  rw [LX, if_pos h, if_neg (by rw [hb]; decide), if_neg h35, if_pos hc, show i + 1 + ((fst s i).len - 1) = i + (fst s i).len by omega]
theorem LX_bad {s : ByteArray} {i : Nat} (h : i < s.size) (hb : blk (ch s i) = false) (h35 : ch s i ≠ 35) (hc : (fst s i).code ≠ 0) (acc : List Tk) : LX s i acc = ([], (fst s i).code, (i : Int)) := by
  rw [LX, if_pos h, if_neg (by rw [hb]; decide), if_neg h35, if_neg hc]
/-- What both answer. -/
noncomputable def LEX (s : ByteArray) : List Tk × Int × Int := if 6000 < s.size then ([], 1, 0) else LX s 0 []

theorem fst_len {s : ByteArray} {i : Nat} (h : i < s.size) : i + (fst s i).len ≤ s.size + 2 := by
  unfold fst
  split
  · rw [let_len]
    have := ld_le s i (by omega)
    rw [ext_size s i _ (by omega) this]
    omega
  · split
    · show i + 0 ≤ _; omega
    · show i + (sg s i).size ≤ _
      unfold sg
      by_cases hx : ∃ k, k < 12 ∧ (∀ j, j < k → pre s i (lits.getD j ⟨#[]⟩) = false) ∧ pre s i (lits.getD k ⟨#[]⟩) = true
      · obtain ⟨k, hk, ha, hp⟩ := hx
        rw [sg_hit lits k hk ha hp]
        have := (lit_size k hk).2
        unfold lit at this
        omega
      · have hall : ∀ k, k ≤ 12 → ∀ j, j < k → pre s i (lits.getD j ⟨#[]⟩) = false := by
          intro k
          induction k with
          | zero => intro _ j hj; omega
          | succ k ih =>
            intro hk j hj
            by_cases e : j = k
            · subst e
              cases hp : pre s i (lits.getD j ⟨#[]⟩)
              · rfl
              · exact absurd ⟨j, by omega, ih (by omega), hp⟩ hx
            · exact ih (by omega) j (by omega)
        rw [sg_none lits (hall 12 (Nat.le_refl _))]
        show i + 0 ≤ _
        omega

end Go.Proofs.YtpjgedhkanmbpaaDoor.Ly
