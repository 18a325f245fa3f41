/-
  Names, plain: what CheckNames answers, as the specification says it and as the program does.
-/
import Derived.Test.YtljlgjgfmgilaaaGreatPrf
namespace Go.Proofs.YtljlgjgfmgilaaaGreat.Nq
set_option maxRecDepth 8000
set_option linter.unusedSimpArgs false
set_option linter.unusedVariables false
open Go Go.ChangeShapes Go.WideShapes Go.RowKit
open Num Pl Pm

def pk : ByteArray := ⟨#[112, 97, 99, 107, 101, 116]⟩
def fw : ByteArray := ⟨#[102, 111, 114, 119, 97, 114, 100]⟩
theorem pk_fw : pk ≠ fw := by decide
theorem pk_ne : pk ≠ ⟨#[]⟩ := by decide
theorem fw_ne : fw ≠ ⟨#[]⟩ := by decide
/-- The first declaration of a name. -/
def dOf (D : List Dc) (s : ByteArray) : Dc := (D.find? (fun d => decide (d.s = s))).getD dc0
def arOf (D : List Dc) (s : ByteArray) : Int := if s = pk then 4 else if s = fw then 1 else if (dOf D s).k = 0 then -1 else (dOf D s).ar
def movB (D : List Dc) (s : ByteArray) : Bool := decide (s = pk) || decide ((dOf D s).k = 2)
/-- An atom told by its name and how many terms it has. -/
abbrev HdL := ByteArray × Nat
def hd (a : AtL) : HdL := (a.1, a.2.length)
def bodyAt (B : List LtL) : List HdL := (B.filter (fun l => decide (l.1 ≠ 3))).map (fun l => hd l.2.1)
def atoms (r : RuL) : List HdL := hd r.2.1 :: bodyAt r.2.2
def newsB (D : List Dc) (l : LtL) : Bool := decide (l.1 ≠ 3) && movB D l.2.1.1
def headBad (D : List Dc) (r : RuL) : Bool := decide (r.1 = 1 ∧ (dOf D r.2.1.1).k ≠ 3 ∧ r.2.1.1 ≠ fw ∨ r.1 ≠ 1 ∧ (dOf D r.2.1.1).k ≠ 1)
def firstBad (D : List Dc) (r : RuL) : Bool := match r.2.2 with
  | [] => true
  | l :: _ => decide (l.1 ≠ 1) || !movB D l.2.1.1 || decide (r.1 = 1 ∧ l.2.1.1 ≠ pk)
def movesR (r : RuL) : Bool := decide (r.1 ≠ 1 ∨ r.2.1.1 = fw)
def newsBad (D : List Dc) (r : RuL) : Bool := if movesR r then firstBad D r || (r.2.2.drop 1).any (newsB D) else r.2.2.any (newsB D)
def codeR (D : List Dc) (r : RuL) : Nat :=
  if (atoms r).any (fun a => decide (arOf D a.1 < 0)) then 3
  else if (atoms r).any (fun a => decide (arOf D a.1 ≠ (a.2 : Int))) then 4
  else if headBad D r then 5
  else if (bodyAt r.2.2).any (fun a => decide (a.1 = fw)) then 6
  else if newsBad D r then 7 else 0
/-- A declaration whose name is taken. -/
def taken (D : List Dc) (i : Nat) : Bool := decide ((D.getD i dc0).s = pk) || decide ((D.getD i dc0).s = fw) || (List.range i).any (fun k => decide ((D.getD k dc0).s = (D.getD i dc0).s))
def rl0 : RuL := (0, (⟨#[]⟩, []), [])
def chk (p : PgL) : Nat × Nat := if progB p then
    match (List.range p.1.length).find? (taken p.1) with
    | some i => (2, i)
    | none => match (List.range p.2.length).find? (fun i => decide (codeR p.1 (p.2.getD i rl0) ≠ 0)) with
      | some i => (codeR p.1 (p.2.getD i rl0), i)
      | none => (0, 0)
  else (1, 0)
theorem find_at {f : Nat → Bool} {n i : Nat} (hi : i < n) (h : f i = true) (hb : ∀ j, j < i → f j = false) : (List.range n).find? f = some i :=
  List.find?_range_eq_some.2 ⟨h, List.mem_range.2 hi, fun j hj => by simpa using hb j hj⟩
theorem find_no {f : Nat → Bool} {n : Nat} (hb : ∀ j, j < n → f j = false) : (List.range n).find? f = none :=
  List.find?_range_eq_none.2 fun j hj => by simpa using hb j hj
theorem chk_wrong {p : PgL} (h : progB p = false) : chk p = (1, 0) := by unfold chk; rw [h]; rfl
theorem chk_taken {p : PgL} (h : progB p = true) {i : Nat} (hi : i < p.1.length) (ht : taken p.1 i = true) (hb : ∀ j, j < i → taken p.1 j = false) : chk p = (2, i) := by
  unfold chk; rw [h, find_at hi ht hb]; rfl
theorem chk_rule {p : PgL} (h : progB p = true) (hd : ∀ j, j < p.1.length → taken p.1 j = false) {i : Nat} (hi : i < p.2.length) (ht : codeR p.1 (p.2.getD i rl0) ≠ 0) (hb : ∀ j, j < i → codeR p.1 (p.2.getD j rl0) = 0) : chk p = (codeR p.1 (p.2.getD i rl0), i) := by
  unfold chk
  rw [h, find_no hd, find_at (f := fun i => decide (codeR p.1 (p.2.getD i rl0) ≠ 0)) hi (by simpa using ht) (fun j hj => by simpa using hb j hj)]; rfl
theorem chk_ok {p : PgL} (h : progB p = true) (hd : ∀ j, j < p.1.length → taken p.1 j = false) (hb : ∀ j, j < p.2.length → codeR p.1 (p.2.getD j rl0) = 0) : chk p = (0, 0) := by
  unfold chk
  rw [h, find_no hd, find_no (f := fun i => decide (codeR p.1 (p.2.getD i rl0) ≠ 0)) (fun j hj => by simpa using hb j hj)]; rfl
theorem codeR_le (D : List Dc) (r : RuL) : codeR D r ≤ 7 := by unfold codeR; (repeat' split) <;> omega

/-- The program's way: a map of names. -/
abbrev Nv := ByteArray × Dc
def gPk : Dc := ⟨4, pk, 4⟩
def gFw : Dc := ⟨5, fw, 1⟩
def given : List Nv := [(pk, gPk), (fw, gFw)]
def dv (d : Dc) : Nv := (d.s, d)
def lkp (L : List Nv) (s : ByteArray) : Option Dc := (L.find? (fun p => decide (p.1 = s))).map (·.2)
def lk (L : List Nv) (s : ByteArray) : Dc := (lkp L s).getD dc0
def lacksB (L : List Nv) (a : HdL) : Bool := (lkp L a.1).isNone
def otherB (L : List Nv) (a : HdL) : Bool := decide ((a.2 : Int) ≠ (lk L a.1).ar)
def fitsB (L : List Nv) (r : RuL) : Bool := if r.1 = 1 then decide ((lk L r.2.1.1).k = 3 ∨ (lk L r.2.1.1).k = 5) else decide ((lk L r.2.1.1).k = 1)
def fwdB (L : List Nv) (l : LtL) : Bool := decide ((lk L l.2.1.1).k = 5)
def nwsB (L : List Nv) (l : LtL) : Bool := decide ((lk L l.2.1.1).k = 4 ∨ (lk L l.2.1.1).k = 2)
def beginsB (L : List Nv) (r : RuL) : Bool := match r.2.2 with
  | [] => false
  | l :: _ => decide (l.1 = 1) && decide ((lk L l.2.1.1).k = 4 ∨ (lk L l.2.1.1).k = 2 ∧ r.1 ≠ 1)
def newsFits (L : List Nv) (r : RuL) : Bool := if (lk L r.2.1.1).k = 3 then !r.2.2.any (nwsB L) else beginsB L r && !(r.2.2.drop 1).any (nwsB L)
def codeI (L : List Nv) (r : RuL) : Nat :=
  if (atoms r).any (lacksB L) then 3
  else if (atoms r).any (otherB L) then 4
  else if !fitsB L r then 5
  else if r.2.2.any (fwdB L) then 6
  else if !newsFits L r then 7 else 0

/-- What the map holds behind the declarations. -/
def full (D : List Dc) : List Nv := given ++ D.map dv
theorem find_map (D : List Dc) (s : ByteArray) : (D.map dv).find? (fun p => decide (p.1 = s)) = (D.find? (fun d => decide (d.s = s))).map dv := by
  rw [List.find?_map]; rfl
theorem look_full (D : List Dc) (s : ByteArray) : lkp (full D) s = if s = pk then some gPk else if s = fw then some gFw else D.find? (fun d => decide (d.s = s)) := by
  unfold lkp full given
  by_cases h1 : s = pk
  · subst h1; simp
  · by_cases h2 : s = fw
    · subst h2; simp [h1, Ne.symm h1]
    · rw [if_neg h1, if_neg h2]
      simp only [List.cons_append, List.nil_append, List.find?_cons]
      rw [show decide (pk = s) = false by simpa using Ne.symm h1, show decide (fw = s) = false by simpa using Ne.symm h2]
      simp only
      rw [find_map]
      cases D.find? (fun d => decide (d.s = s)) <;> rfl
theorem find_good {D : List Dc} (hD : D.all declB = true) {s : ByteArray} {d : Dc} (h : D.find? (fun d => decide (d.s = s)) = some d) : 1 ≤ d.k ∧ d.k ≤ 3 ∧ 0 ≤ d.ar ∧ d.s = s ∧ d.s ≠ ⟨#[]⟩ := by
  have h1 := List.mem_of_find?_eq_some h
  have h2 := List.find?_some h
  have h3 := List.all_eq_true.1 hD d h1
  unfold declB nameB at h3
  simp only [Bool.and_eq_true, decide_eq_true_eq] at h3 h2
  refine ⟨h3.1.1, h3.1.2, h3.2.2.1, h2, fun e => ?_⟩
  have := h3.2.1.1
  rw [e] at this
  revert this; decide
theorem dOf_some {D : List Dc} {s : ByteArray} {d : Dc} (h : D.find? (fun d => decide (d.s = s)) = some d) : dOf D s = d := by unfold dOf; rw [h]; rfl
theorem dOf_none {D : List Dc} {s : ByteArray} (h : D.find? (fun d => decide (d.s = s)) = none) : dOf D s = dc0 := by unfold dOf; rw [h]; rfl
/-- A declared name is neither of the given ones where none is taken. -/
theorem none_taken {D : List Dc} (h : ∀ j, j < D.length → taken D j = false) {d : Dc} (hd : d ∈ D) : d.s ≠ pk ∧ d.s ≠ fw := by
  obtain ⟨i, hi, rfl⟩ := List.getElem_of_mem hd
  have := h i hi
  have e : D.getD i dc0 = D[i] := by simp [List.getD, hi]
  unfold taken at this
  rw [e] at this
  simp only [Bool.or_eq_false_iff, decide_eq_false_iff_not] at this
  exact this.1
theorem dOf_given {D : List Dc} (h : ∀ j, j < D.length → taken D j = false) {s : ByteArray} (hs : s = pk ∨ s = fw) : dOf D s = dc0 := by
  refine dOf_none (List.find?_eq_none.2 fun d hd => ?_)
  have := none_taken h hd
  rcases hs with rfl | rfl <;> simp [this.1, this.2]

theorem ar_neg {D : List Dc} (hD : D.all declB = true) (s : ByteArray) : decide (arOf D s < 0) = (lkp (full D) s).isNone := by
  rw [look_full]
  unfold arOf
  by_cases h1 : s = pk
  · simp [h1]
  · by_cases h2 : s = fw
    · simp [h1, h2, Ne.symm pk_fw]
    · rw [if_neg h1, if_neg h2, if_neg h1, if_neg h2]
      cases h : D.find? (fun d => decide (d.s = s)) with
      | none => rw [dOf_none h]; rfl
      | some d =>
        have g := find_good hD h
        rw [dOf_some h, if_neg (by omega)]
        have : ¬ d.ar < 0 := by omega
        simp [this]
theorem ar_is {D : List Dc} (s : ByteArray) (h : (lkp (full D) s).isNone = false) (hD : D.all declB = true) : (lk (full D) s).ar = arOf D s := by
  unfold lk
  rw [look_full] at h ⊢
  unfold arOf
  by_cases h1 : s = pk
  · simp [h1, gPk]
  · by_cases h2 : s = fw
    · simp [h1, h2, Ne.symm pk_fw, gFw]
    · rw [if_neg h1, if_neg h2] at h ⊢
      rw [if_neg h1, if_neg h2]
      cases hf : D.find? (fun d => decide (d.s = s)) with
      | none => rw [hf] at h; cases h
      | some d =>
        have g := find_good hD hf
        rw [dOf_some hf, if_neg (by omega)]; rfl
theorem kind_is {D : List Dc} (ht : ∀ j, j < D.length → taken D j = false) (s : ByteArray) : (lk (full D) s).k = if s = pk then 4 else if s = fw then 5 else (dOf D s).k := by
  unfold lk
  rw [look_full]
  by_cases h1 : s = pk
  · simp [h1, gPk]
  · by_cases h2 : s = fw
    · simp [h1, h2, Ne.symm pk_fw, gFw]
    · rw [if_neg h1, if_neg h2, if_neg h1, if_neg h2]; rfl
theorem dOf_k {D : List Dc} (hD : D.all declB = true) (s : ByteArray) : (dOf D s).k = 0 ∨ 1 ≤ (dOf D s).k ∧ (dOf D s).k ≤ 3 := by
  cases hf : D.find? (fun d => decide (d.s = s)) with
  | none => rw [dOf_none hf]; exact .inl rfl
  | some d => rw [dOf_some hf]; have := find_good hD hf; exact .inr ⟨this.1, this.2.1⟩
theorem dOf_emp {D : List Dc} (hD : D.all declB = true) : dOf D ⟨#[]⟩ = dc0 := by
  cases hf : D.find? (fun d => decide (d.s = ⟨#[]⟩)) with
  | none => exact dOf_none hf
  | some d => have := find_good hD hf; exact absurd this.2.2.2.1 this.2.2.2.2
theorem lit_comp {l : LtL} (h : litB l = true) (hk : l.1 = 3) : l.2.1.1 = ⟨#[]⟩ := by
  unfold litB compB at h
  rw [if_pos hk] at h
  simp only [Bool.and_eq_true, decide_eq_true_eq] at h
  exact h.1.1
theorem news_same {D : List Dc} (hD : D.all declB = true) (ht : ∀ j, j < D.length → taken D j = false) {l : LtL} (h : litB l = true) : nwsB (full D) l = newsB D l := by
  unfold nwsB newsB movB
  rw [kind_is ht]
  by_cases hk : l.1 = 3
  · rw [lit_comp h hk, if_neg (Ne.symm pk_ne), if_neg (Ne.symm fw_ne), dOf_emp hD]
    simp [hk, dc0]
  · by_cases h1 : l.2.1.1 = pk
    · simp [h1, hk]
    · by_cases h2 : l.2.1.1 = fw
      · have := dOf_given ht (.inr h2)
        rw [if_neg h1, if_pos h2, this]
        simp [h1, dc0, hk]
      · have := dOf_k hD l.2.1.1
        rw [if_neg h1, if_neg h2]
        simp only [h1, hk, decide_false, Bool.false_or, ne_eq, not_false_eq_true, decide_true, Bool.true_and]
        congr 1
        exact propext ⟨fun h => by omega, fun h => .inr h⟩
theorem fwd_same {D : List Dc} (hD : D.all declB = true) (ht : ∀ j, j < D.length → taken D j = false) {B : List LtL} (h : B.all litB = true) : B.any (fwdB (full D)) = (bodyAt B).any (fun a => decide (a.1 = fw)) := by
  unfold bodyAt
  rw [List.any_map]
  induction B with
  | nil => rfl
  | cons l B ih =>
    rw [List.all_cons, Bool.and_eq_true] at h
    have e : fwdB (full D) l = (decide (l.1 ≠ 3) && decide (l.2.1.1 = fw)) := by
      unfold fwdB
      rw [kind_is ht]
      by_cases hk : l.1 = 3
      · rw [lit_comp h.1 hk, if_neg (Ne.symm pk_ne), if_neg (Ne.symm fw_ne), dOf_emp hD]
        simp [hk, dc0]
      · by_cases h1 : l.2.1.1 = pk
        · simp [h1, pk_fw, hk]
        · by_cases h2 : l.2.1.1 = fw
          · simp [h1, h2, hk, Ne.symm pk_fw]
          · have := dOf_k hD l.2.1.1
            have h5 : ¬ (dOf D l.2.1.1).k = 5 := by omega
            simp [h1, h2, h5]
    rw [List.any_cons, ih h.2, e]
    by_cases hk : l.1 = 3
    · rw [List.filter_cons_of_neg (by simpa using hk)]; simp [hk]
    · rw [List.filter_cons_of_pos (by simpa using hk)]; simp [hk, hd]
/-- Both ways tell the same code. -/
theorem code_same {D : List Dc} (hD : D.all declB = true) (ht : ∀ j, j < D.length → taken D j = false) {r : RuL} (hr : ruleB r = true) : codeI (full D) r = codeR D r := by
  unfold ruleB at hr
  simp only [Bool.and_eq_true, decide_eq_true_eq] at hr
  obtain ⟨⟨hk1, hk2⟩, ha, _, hb⟩ := hr
  have e3 : (atoms r).any (lacksB (full D)) = (atoms r).any (fun a => decide (arOf D a.1 < 0)) := by
    congr 1; funext a; exact (ar_neg hD a.1).symm
  unfold codeI codeR
  rw [e3]
  by_cases h3 : (atoms r).any (fun a => decide (arOf D a.1 < 0)) = true
  · rw [if_pos h3, if_pos h3]
  rw [if_neg h3, if_neg h3]
  have all3 : ∀ a ∈ atoms r, (lkp (full D) a.1).isNone = false := fun a hm => by
    cases hh : (lkp (full D) a.1).isNone with
    | false => rfl
    | true => exact absurd (List.any_eq_true.2 ⟨a, hm, by rw [ar_neg hD]; exact hh⟩) h3
  have e4 : (atoms r).any (otherB (full D)) = (atoms r).any (fun a => decide (arOf D a.1 ≠ (a.2 : Int))) := by
    refine Bool.eq_iff_iff.2 ?_
    rw [List.any_eq_true, List.any_eq_true]
    constructor
    · rintro ⟨a, hm, h⟩
      refine ⟨a, hm, ?_⟩
      unfold otherB at h
      rw [ar_is _ (all3 a hm) hD] at h
      simp only [decide_eq_true_eq] at h ⊢
      exact Ne.symm h
    · rintro ⟨a, hm, h⟩
      refine ⟨a, hm, ?_⟩
      unfold otherB
      rw [ar_is _ (all3 a hm) hD]
      simp only [decide_eq_true_eq] at h ⊢
      exact Ne.symm h
  rw [e4]
  by_cases h4 : (atoms r).any (fun a => decide (arOf D a.1 ≠ (a.2 : Int))) = true
  · rw [if_pos h4, if_pos h4]
  rw [if_neg h4, if_neg h4]
  have kh := kind_is ht r.2.1.1
  have dk := dOf_k hD r.2.1.1
  have dg := dOf_given (D := D) ht (s := r.2.1.1)
  have e5 : (!fitsB (full D) r) = headBad D r := by
    unfold fitsB headBad
    rw [kh]
    by_cases h1 : r.2.1.1 = pk
    · have := dg (.inl h1)
      rw [this, if_pos h1]
      by_cases hp : r.1 = 1 <;> simp [hp, h1, pk_fw, dc0]
    · by_cases h2 : r.2.1.1 = fw
      · have := dg (.inr h2)
        rw [this, if_neg h1, if_pos h2]
        by_cases hp : r.1 = 1 <;> simp [hp, h2, dc0]
      · rw [if_neg h1, if_neg h2]
        have h5 : ¬ (dOf D r.2.1.1).k = 5 := by omega
        by_cases hp : r.1 = 1 <;> simp [hp, h2, h5]
  rw [e5]
  by_cases h5 : headBad D r = true
  · rw [if_pos h5, if_pos h5]
  rw [if_neg h5, if_neg h5, fwd_same hD ht hb]
  by_cases h6 : (bodyAt r.2.2).any (fun a => decide (a.1 = fw)) = true
  · rw [if_pos h6, if_pos h6]
  rw [if_neg h6, if_neg h6]
  have e7 : (!newsFits (full D) r) = newsBad D r := by
    have en : ∀ (B : List LtL), B.all litB = true → B.any (nwsB (full D)) = B.any (newsB D) := fun B hB => by
      induction B with
      | nil => rfl
      | cons l B ih =>
        rw [List.all_cons, Bool.and_eq_true] at hB
        rw [List.any_cons, List.any_cons, ih hB.2, news_same hD ht hB.1]
    have ed : (r.2.2.drop 1).all litB = true := List.all_eq_true.2 fun l hl => List.all_eq_true.1 hb l (List.mem_of_mem_drop hl)
    unfold newsFits newsBad
    rw [en _ hb, en _ ed, kh]
    unfold headBad at h5
    simp only [decide_eq_true_eq] at h5
    by_cases h1 : r.2.1.1 = pk
    · have d0 := dg (.inl h1)
      exact absurd (by rw [d0, h1]; by_cases hp : r.1 = 1 <;> simp [hp, pk_fw, dc0]) h5
    · have em : ((if r.2.1.1 = pk then (4 : Int) else if r.2.1.1 = fw then 5 else (dOf D r.2.1.1).k) = 3) ↔ ¬ movesR r = true := by
        unfold movesR
        rw [if_neg h1]
        by_cases h2 : r.2.1.1 = fw
        · simp [h2]
        · rw [if_neg h2]
          by_cases hp : r.1 = 1
          · simp only [hp, h2, decide_eq_true_eq]
            constructor
            · intro _; simp
            · intro _
              cases Classical.em ((dOf D r.2.1.1).k = 3) with
              | inl h => exact h
              | inr h => exact absurd (.inl ⟨hp, h, h2⟩) h5
          · simp only [hp, decide_eq_true_eq]
            constructor
            · intro h3
              exact absurd (.inr ⟨hp, by omega⟩) h5
            · intro h; exact absurd (.inl hp) h
      by_cases hm : movesR r = true
      · rw [if_pos hm, if_neg (fun h => (em.1 h) hm)]
        have eb : beginsB (full D) r = !firstBad D r := by
          unfold beginsB firstBad
          cases hB : r.2.2 with
          | nil => rfl
          | cons l B =>
            have hl : litB l = true := List.all_eq_true.1 hb l (by rw [hB]; simp)
            simp only
            rw [kind_is ht]
            unfold movB
            by_cases hl1 : l.1 = 1
            · by_cases g1 : l.2.1.1 = pk
              · simp [hl1, g1]
              · by_cases g2 : l.2.1.1 = fw
                · have := dOf_given ht (.inr g2)
                  rw [this]
                  simp [hl1, g1, g2, Ne.symm pk_fw, dc0]
                · rw [if_neg g1, if_neg g2]
                  have := dOf_k hD l.2.1.1
                  have g4 : ¬ (dOf D l.2.1.1).k = 4 := by omega
                  by_cases g5 : (dOf D l.2.1.1).k = 2 <;> by_cases hp : r.1 = 1 <;> simp [hl1, g1, g4, g5, hp]
            · simp [hl1]
        rw [eb]
        simp
      · rw [if_neg hm, if_pos (em.2 hm)]
        simp
  rw [e7]
/-- A rule of a right program is right. -/
theorem prog_rule {p : PgL} (h : progB p = true) {i : Nat} (hi : i < p.2.length) : ruleB (p.2.getD i rl0) = true := by
  unfold progB at h
  simp only [Bool.and_eq_true] at h
  have e : p.2.getD i rl0 = p.2[i] := by simp [List.getD, hi]
  rw [e]
  exact List.all_eq_true.1 h.2.2 _ (List.getElem_mem hi)
theorem prog_decl {p : PgL} (h : progB p = true) : p.1.all declB = true := by
  unfold progB at h
  simp only [Bool.and_eq_true] at h
  exact h.1.2
theorem prog_len {p : PgL} (h : progB p = true) : p.1.length ≤ 16 ∧ p.2.length ≤ 24 := by
  unfold progB at h
  simp only [Bool.and_eq_true, decide_eq_true_eq] at h
  exact ⟨h.1.1, h.2.1⟩

end Go.Proofs.YtljlgjgfmgilaaaGreat.Nq
