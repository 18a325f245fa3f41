/-
  Texts laid together: Na, Nb, Nd, Yo, Nc, Ne, Nf0, Nh, Ni, Nj, Nk2, Ng1.
-/
import Derived.Test.YtljlgjgfmgilaaaGreatPrf
import Derived.Maps.OwnSet
import Derived.Maps.RangeWalk
import Derived.Carry
import Derived.BigQuiet
import Derived.Test.YtljlgjgfmgilaaaGreatPrd
import Derived.Deep.Cut
import Derived.Sort.Walk0
import Derived.Test.YtljlgjgfmgilaaaGreatPrb
import Derived.Laws.OwnMore
import Derived.Maps.AppendAt
import Derived.Deep.RegionHeld3
import Derived.Handy
import Derived.Test.YtljlgjgfmgilaaaGreatPrh
namespace Go.Proofs.YtljlgjgfmgilaaaGreat.Nq
set_option maxRecDepth 8000
set_option linter.unusedSimpArgs false
set_option linter.unusedVariables false
open Go Go.ChangeShapes Go.WideShapes Go.RowKit
open Num Pl Pm

def pk : ByteArray := ⟨#[112, 97, 99, 107, 101, 116]⟩
def fw : ByteArray := ⟨#[102, 111, 114, 119, 97, 114, 100]⟩
theorem pk_fw : pk ≠ fw := by decide
theorem pk_ne : pk ≠ ⟨#[]⟩ := by decide
theorem fw_ne : fw ≠ ⟨#[]⟩ := by decide
/-- The first declaration of a name. -/
def dOf (D : List Dc) (s : ByteArray) : Dc := (D.find? (fun d => decide (d.s = s))).getD dc0
def arOf (D : List Dc) (s : ByteArray) : Int := if s = pk then 4 else if s = fw then 1 else if (dOf D s).k = 0 then -1 else (dOf D s).ar
def movB (D : List Dc) (s : ByteArray) : Bool := decide (s = pk) || decide ((dOf D s).k = 2)
/-- An atom told by its name and how many terms it has. -/
abbrev HdL := ByteArray × Nat
def hd (a : AtL) : HdL := (a.1, a.2.length)
def bodyAt (B : List LtL) : List HdL := (B.filter (fun l => decide (l.1 ≠ 3))).map (fun l => hd l.2.1)
def atoms (r : RuL) : List HdL := hd r.2.1 :: bodyAt r.2.2
def newsB (D : List Dc) (l : LtL) : Bool := decide (l.1 ≠ 3) && movB D l.2.1.1
def headBad (D : List Dc) (r : RuL) : Bool := decide (r.1 = 1 ∧ (dOf D r.2.1.1).k ≠ 3 ∧ r.2.1.1 ≠ fw ∨ r.1 ≠ 1 ∧ (dOf D r.2.1.1).k ≠ 1)
def firstBad (D : List Dc) (r : RuL) : Bool := match r.2.2 with
  | [] => true
  | l :: _ => decide (l.1 ≠ 1) || !movB D l.2.1.1 || decide (r.1 = 1 ∧ l.2.1.1 ≠ pk)
def movesR (r : RuL) : Bool := decide (r.1 ≠ 1 ∨ r.2.1.1 = fw)
def newsBad (D : List Dc) (r : RuL) : Bool := if movesR r then firstBad D r || (r.2.2.drop 1).any (newsB D) else r.2.2.any (newsB D)
def codeR (D : List Dc) (r : RuL) : Nat :=
  if (atoms r).any (fun a => decide (arOf D a.1 < 0)) then 3
  else if (atoms r).any (fun a => decide (arOf D a.1 ≠ (a.2 : Int))) then 4
  else if headBad D r then 5
  else if (bodyAt r.2.2).any (fun a => decide (a.1 = fw)) then 6
  else if newsBad D r then 7 else 0
/-- A declaration whose name is taken. -/
def taken (D : List Dc) (i : Nat) : Bool := decide ((D.getD i dc0).s = pk) || decide ((D.getD i dc0).s = fw) || (List.range i).any (fun k => decide ((D.getD k dc0).s = (D.getD i dc0).s))
def rl0 : RuL := (0, (⟨#[]⟩, []), [])
def chk (p : PgL) : Nat × Nat := if progB p then
    match (List.range p.1.length).find? (taken p.1) with
    | some i => (2, i)
    | none => match (List.range p.2.length).find? (fun i => decide (codeR p.1 (p.2.getD i rl0) ≠ 0)) with
      | some i => (codeR p.1 (p.2.getD i rl0), i)
      | none => (0, 0)
  else (1, 0)
theorem find_at {f : Nat → Bool} {n i : Nat} (hi : i < n) (h : f i = true) (hb : ∀ j, j < i → f j = false) : (List.range n).find? f = some i :=
  List.find?_range_eq_some.2 ⟨h, List.mem_range.2 hi, fun j hj => by simpa using hb j hj⟩
theorem find_no {f : Nat → Bool} {n : Nat} (hb : ∀ j, j < n → f j = false) : (List.range n).find? f = none :=
  List.find?_range_eq_none.2 fun j hj => by simpa using hb j hj
theorem chk_wrong {p : PgL} (h : progB p = false) : chk p = (1, 0) := by unfold chk; rw [h]; rfl
theorem chk_taken {p : PgL} (h : progB p = true) {i : Nat} (hi : i < p.1.length) (ht : taken p.1 i = true) (hb : ∀ j, j < i → taken p.1 j = false) : chk p = (2, i) := by
  unfold chk; rw [h, find_at hi ht hb]; rfl
theorem chk_rule {p : PgL} (h : progB p = true) (hd : ∀ j, j < p.1.length → taken p.1 j = false) {i : Nat} (hi : i < p.2.length) (ht : codeR p.1 (p.2.getD i rl0) ≠ 0) (hb : ∀ j, j < i → codeR p.1 (p.2.getD j rl0) = 0) : chk p = (codeR p.1 (p.2.getD i rl0), i) := by
  unfold chk
  rw [h, find_no hd, find_at (f := fun i => decide (codeR p.1 (p.2.getD i rl0) ≠ 0)) hi (by simpa using ht) (fun j hj => by simpa using hb j hj)]; rfl
theorem chk_ok {p : PgL} (h : progB p = true) (hd : ∀ j, j < p.1.length → taken p.1 j = false) (hb : ∀ j, j < p.2.length → codeR p.1 (p.2.getD j rl0) = 0) : chk p = (0, 0) := by
  unfold chk
  rw [h, find_no hd, find_no (f := fun i => decide (codeR p.1 (p.2.getD i rl0) ≠ 0)) (fun j hj => by simpa using hb j hj)]; rfl
theorem codeR_le (D : List Dc) (r : RuL) : codeR D r ≤ 7 := by unfold codeR; (repeat' split) <;> omega

/-- The program's way: a map of names. -/
abbrev Nv := ByteArray × Dc
def gPk : Dc := ⟨4, pk, 4⟩
def gFw : Dc := ⟨5, fw, 1⟩
def given : List Nv := [(pk, gPk), (fw, gFw)]
def dv (d : Dc) : Nv := (d.s, d)
def lkp (L : List Nv) (s : ByteArray) : Option Dc := (L.find? (fun p => decide (p.1 = s))).map (·.2)
def lk (L : List Nv) (s : ByteArray) : Dc := (lkp L s).getD dc0
def lacksB (L : List Nv) (a : HdL) : Bool := (lkp L a.1).isNone
def otherB (L : List Nv) (a : HdL) : Bool := decide ((a.2 : Int) ≠ (lk L a.1).ar)
def fitsB (L : List Nv) (r : RuL) : Bool := if r.1 = 1 then decide ((lk L r.2.1.1).k = 3 ∨ (lk L r.2.1.1).k = 5) else decide ((lk L r.2.1.1).k = 1)
def fwdB (L : List Nv) (l : LtL) : Bool := decide ((lk L l.2.1.1).k = 5)
def nwsB (L : List Nv) (l : LtL) : Bool := decide ((lk L l.2.1.1).k = 4 ∨ (lk L l.2.1.1).k = 2)
def beginsB (L : List Nv) (r : RuL) : Bool := match r.2.2 with
  | [] => false
  | l :: _ => decide (l.1 = 1) && decide ((lk L l.2.1.1).k = 4 ∨ (lk L l.2.1.1).k = 2 ∧ r.1 ≠ 1)
def newsFits (L : List Nv) (r : RuL) : Bool := if (lk L r.2.1.1).k = 3 then !r.2.2.any (nwsB L) else beginsB L r && !(r.2.2.drop 1).any (nwsB L)
def codeI (L : List Nv) (r : RuL) : Nat :=
  if (atoms r).any (lacksB L) then 3
  else if (atoms r).any (otherB L) then 4
  else if !fitsB L r then 5
  else if r.2.2.any (fwdB L) then 6
  else if !newsFits L r then 7 else 0

/-- What the map holds behind the declarations. -/
def full (D : List Dc) : List Nv := given ++ D.map dv
theorem find_map (D : List Dc) (s : ByteArray) : (D.map dv).find? (fun p => decide (p.1 = s)) = (D.find? (fun d => decide (d.s = s))).map dv := by
  rw [List.find?_map]; rfl
theorem look_full (D : List Dc) (s : ByteArray) : lkp (full D) s = if s = pk then some gPk else if s = fw then some gFw else D.find? (fun d => decide (d.s = s)) := by
  unfold lkp full given
  by_cases h1 : s = pk
  · subst h1; simp
  · by_cases h2 : s = fw
    · subst h2; simp [h1, Ne.symm h1]
    · rw [if_neg h1, if_neg h2]
      simp only [List.cons_append, List.nil_append, List.find?_cons]
      rw [show decide (pk = s) = false by simpa using Ne.symm h1, show decide (fw = s) = false by simpa using Ne.symm h2]
      simp only
      rw [find_map]
      cases D.find? (fun d => decide (d.s = s)) <;> rfl
theorem find_good {D : List Dc} (hD : D.all declB = true) {s : ByteArray} {d : Dc} (h : D.find? (fun d => decide (d.s = s)) = some d) : 1 ≤ d.k ∧ d.k ≤ 3 ∧ 0 ≤ d.ar ∧ d.s = s ∧ d.s ≠ ⟨#[]⟩ := by
  have h1 := List.mem_of_find?_eq_some h
  have h2 := List.find?_some h
  have h3 := List.all_eq_true.1 hD d h1
  unfold declB nameB at h3
  simp only [Bool.and_eq_true, decide_eq_true_eq] at h3 h2
  refine ⟨h3.1.1, h3.1.2, h3.2.2.1, h2, fun e => ?_⟩
  have := h3.2.1.1
  rw [e] at this
  revert this; decide
theorem dOf_some {D : List Dc} {s : ByteArray} {d : Dc} (h : D.find? (fun d => decide (d.s = s)) = some d) : dOf D s = d := by unfold dOf; rw [h]; rfl
theorem dOf_none {D : List Dc} {s : ByteArray} (h : D.find? (fun d => decide (d.s = s)) = none) : dOf D s = dc0 := by unfold dOf; rw [h]; rfl
/-- A declared name is neither of the given ones where none is taken. -/
theorem none_taken {D : List Dc} (h : ∀ j, j < D.length → taken D j = false) {d : Dc} (hd : d ∈ D) : d.s ≠ pk ∧ d.s ≠ fw := by
  obtain ⟨i, hi, rfl⟩ := List.getElem_of_mem hd
  have := h i hi
  have e : D.getD i dc0 = D[i] := by simp [List.getD, hi]
  unfold taken at this
  rw [e] at this
  simp only [Bool.or_eq_false_iff, decide_eq_false_iff_not] at this
  exact this.1
theorem dOf_given {D : List Dc} (h : ∀ j, j < D.length → taken D j = false) {s : ByteArray} (hs : s = pk ∨ s = fw) : dOf D s = dc0 := by
  refine dOf_none (List.find?_eq_none.2 fun d hd => ?_)
  have := none_taken h hd
  rcases hs with rfl | rfl <;> simp [this.1, this.2]

theorem ar_neg {D : List Dc} (hD : D.all declB = true) (s : ByteArray) : decide (arOf D s < 0) = (lkp (full D) s).isNone := by
  rw [look_full]
  unfold arOf
  by_cases h1 : s = pk
  · simp [h1]
  · by_cases h2 : s = fw
    · simp [h1, h2, Ne.symm pk_fw]
    · rw [if_neg h1, if_neg h2, if_neg h1, if_neg h2]
      cases h : D.find? (fun d => decide (d.s = s)) with
      | none => rw [dOf_none h]; rfl
      | some d =>
        have g := find_good hD h
        rw [dOf_some h, if_neg (by omega)]
        have : ¬ d.ar < 0 := by omega
        simp [this]
theorem ar_is {D : List Dc} (s : ByteArray) (h : (lkp (full D) s).isNone = false) (hD : D.all declB = true) : (lk (full D) s).ar = arOf D s := by
  unfold lk
  rw [look_full] at h ⊢
  unfold arOf
  by_cases h1 : s = pk
  · simp [h1, gPk]
  · by_cases h2 : s = fw
    · simp [h1, h2, Ne.symm pk_fw, gFw]
    · rw [if_neg h1, if_neg h2] at h ⊢
      rw [if_neg h1, if_neg h2]
      cases hf : D.find? (fun d => decide (d.s = s)) with
      | none => rw [hf] at h; cases h
      | some d =>
        have g := find_good hD hf
        rw [dOf_some hf, if_neg (by omega)]; rfl
theorem kind_is {D : List Dc} (ht : ∀ j, j < D.length → taken D j = false) (s : ByteArray) : (lk (full D) s).k = if s = pk then 4 else if s = fw then 5 else (dOf D s).k := by
  unfold lk
  rw [look_full]
  by_cases h1 : s = pk
  · simp [h1, gPk]
  · by_cases h2 : s = fw
    · simp [h1, h2, Ne.symm pk_fw, gFw]
    · rw [if_neg h1, if_neg h2, if_neg h1, if_neg h2]; rfl
theorem dOf_k {D : List Dc} (hD : D.all declB = true) (s : ByteArray) : (dOf D s).k = 0 ∨ 1 ≤ (dOf D s).k ∧ (dOf D s).k ≤ 3 := by
  cases hf : D.find? (fun d => decide (d.s = s)) with
  | none => rw [dOf_none hf]; exact .inl rfl
  | some d => rw [dOf_some hf]; have := find_good hD hf; exact .inr ⟨this.1, this.2.1⟩
theorem dOf_emp {D : List Dc} (hD : D.all declB = true) : dOf D ⟨#[]⟩ = dc0 := by
  cases hf : D.find? (fun d => decide (d.s = ⟨#[]⟩)) with
  | none => exact dOf_none hf
  | some d => have := find_good hD hf; exact absurd this.2.2.2.1 this.2.2.2.2
theorem lit_comp {l : LtL} (h : litB l = true) (hk : l.1 = 3) : l.2.1.1 = ⟨#[]⟩ := by
  unfold litB compB at h
  rw [if_pos hk] at h
  simp only [Bool.and_eq_true, decide_eq_true_eq] at h
  exact h.1.1
theorem news_same {D : List Dc} (hD : D.all declB = true) (ht : ∀ j, j < D.length → taken D j = false) {l : LtL} (h : litB l = true) : nwsB (full D) l = newsB D l := by
  unfold nwsB newsB movB
  rw [kind_is ht]
  by_cases hk : l.1 = 3
  · rw [lit_comp h hk, if_neg (Ne.symm pk_ne), if_neg (Ne.symm fw_ne), dOf_emp hD]
    simp [hk, dc0]
  · by_cases h1 : l.2.1.1 = pk
    · simp [h1, hk]
    · by_cases h2 : l.2.1.1 = fw
      · have := dOf_given ht (.inr h2)
        rw [if_neg h1, if_pos h2, this]
        simp [h1, dc0, hk]
      · have := dOf_k hD l.2.1.1
        rw [if_neg h1, if_neg h2]
        simp only [h1, hk, decide_false, Bool.false_or, ne_eq, not_false_eq_true, decide_true, Bool.true_and]
        congr 1
        exact propext ⟨fun h => by omega, fun h => .inr h⟩
theorem fwd_same {D : List Dc} (hD : D.all declB = true) (ht : ∀ j, j < D.length → taken D j = false) {B : List LtL} (h : B.all litB = true) : B.any (fwdB (full D)) = (bodyAt B).any (fun a => decide (a.1 = fw)) := by
  unfold bodyAt
  rw [List.any_map]
  induction B with
  | nil => rfl
  | cons l B ih =>
    rw [List.all_cons, Bool.and_eq_true] at h
    have e : fwdB (full D) l = (decide (l.1 ≠ 3) && decide (l.2.1.1 = fw)) := by
      unfold fwdB
      rw [kind_is ht]
      by_cases hk : l.1 = 3
      · rw [lit_comp h.1 hk, if_neg (Ne.symm pk_ne), if_neg (Ne.symm fw_ne), dOf_emp hD]
        simp [hk, dc0]
      · by_cases h1 : l.2.1.1 = pk
        · simp [h1, pk_fw, hk]
        · by_cases h2 : l.2.1.1 = fw
          · simp [h1, h2, hk, Ne.symm pk_fw]
          · have := dOf_k hD l.2.1.1
            have h5 : ¬ (dOf D l.2.1.1).k = 5 := by omega
            simp [h1, h2, h5]
    rw [List.any_cons, ih h.2, e]
    by_cases hk : l.1 = 3
    · rw [List.filter_cons_of_neg (by simpa using hk)]; simp [hk]
    · rw [List.filter_cons_of_pos (by simpa using hk)]; simp [hk, hd]
/-- Both ways tell the same code. -/
theorem code_same {D : List Dc} (hD : D.all declB = true) (ht : ∀ j, j < D.length → taken D j = false) {r : RuL} (hr : ruleB r = true) : codeI (full D) r = codeR D r := by
  unfold ruleB at hr
  simp only [Bool.and_eq_true, decide_eq_true_eq] at hr
  obtain ⟨⟨hk1, hk2⟩, ha, _, hb⟩ := hr
  have e3 : (atoms r).any (lacksB (full D)) = (atoms r).any (fun a => decide (arOf D a.1 < 0)) := by
    congr 1; funext a; exact (ar_neg hD a.1).symm
  unfold codeI codeR
  rw [e3]
  by_cases h3 : (atoms r).any (fun a => decide (arOf D a.1 < 0)) = true
  · rw [if_pos h3, if_pos h3]
  rw [if_neg h3, if_neg h3]
  have all3 : ∀ a ∈ atoms r, (lkp (full D) a.1).isNone = false := fun a hm => by
    cases hh : (lkp (full D) a.1).isNone with
    | false => rfl
    | true => exact absurd (List.any_eq_true.2 ⟨a, hm, by rw [ar_neg hD]; exact hh⟩) h3
  have e4 : (atoms r).any (otherB (full D)) = (atoms r).any (fun a => decide (arOf D a.1 ≠ (a.2 : Int))) := by
    refine Bool.eq_iff_iff.2 ?_
    rw [List.any_eq_true, List.any_eq_true]
    constructor
    · rintro ⟨a, hm, h⟩
      refine ⟨a, hm, ?_⟩
      unfold otherB at h
      rw [ar_is _ (all3 a hm) hD] at h
      simp only [decide_eq_true_eq] at h ⊢
      exact Ne.symm h
    · rintro ⟨a, hm, h⟩
      refine ⟨a, hm, ?_⟩
      unfold otherB
      rw [ar_is _ (all3 a hm) hD]
      simp only [decide_eq_true_eq] at h ⊢
      exact Ne.symm h
  rw [e4]
  by_cases h4 : (atoms r).any (fun a => decide (arOf D a.1 ≠ (a.2 : Int))) = true
  · rw [if_pos h4, if_pos h4]
  rw [if_neg h4, if_neg h4]
  have kh := kind_is ht r.2.1.1
  have dk := dOf_k hD r.2.1.1
  have dg := dOf_given (D := D) ht (s := r.2.1.1)
  have e5 : (!fitsB (full D) r) = headBad D r := by
    unfold fitsB headBad
    rw [kh]
    by_cases h1 : r.2.1.1 = pk
    · have := dg (.inl h1)
      rw [this, if_pos h1]
      by_cases hp : r.1 = 1 <;> simp [hp, h1, pk_fw, dc0]
    · by_cases h2 : r.2.1.1 = fw
      · have := dg (.inr h2)
        rw [this, if_neg h1, if_pos h2]
        by_cases hp : r.1 = 1 <;> simp [hp, h2, dc0]
      · rw [if_neg h1, if_neg h2]
        have h5 : ¬ (dOf D r.2.1.1).k = 5 := by omega
        by_cases hp : r.1 = 1 <;> simp [hp, h2, h5]
  rw [e5]
  by_cases h5 : headBad D r = true
  · rw [if_pos h5, if_pos h5]
  rw [if_neg h5, if_neg h5, fwd_same hD ht hb]
  by_cases h6 : (bodyAt r.2.2).any (fun a => decide (a.1 = fw)) = true
  · rw [if_pos h6, if_pos h6]
  rw [if_neg h6, if_neg h6]
  have e7 : (!newsFits (full D) r) = newsBad D r := by
    have en : ∀ (B : List LtL), B.all litB = true → B.any (nwsB (full D)) = B.any (newsB D) := fun B hB => by
      induction B with
      | nil => rfl
      | cons l B ih =>
        rw [List.all_cons, Bool.and_eq_true] at hB
        rw [List.any_cons, List.any_cons, ih hB.2, news_same hD ht hB.1]
    have ed : (r.2.2.drop 1).all litB = true := List.all_eq_true.2 fun l hl => List.all_eq_true.1 hb l (List.mem_of_mem_drop hl)
    unfold newsFits newsBad
    rw [en _ hb, en _ ed, kh]
    unfold headBad at h5
    simp only [decide_eq_true_eq] at h5
    by_cases h1 : r.2.1.1 = pk
    · have d0 := dg (.inl h1)
      exact absurd (by rw [d0, h1]; by_cases hp : r.1 = 1 <;> simp [hp, pk_fw, dc0]) h5
    · have em : ((if r.2.1.1 = pk then (4 : Int) else if r.2.1.1 = fw then 5 else (dOf D r.2.1.1).k) = 3) ↔ ¬ movesR r = true := by
        unfold movesR
        rw [if_neg h1]
        by_cases h2 : r.2.1.1 = fw
        · simp [h2]
        · rw [if_neg h2]
          by_cases hp : r.1 = 1
          · simp only [hp, h2, decide_eq_true_eq]
            constructor
            · intro _; simp
            · intro _
              cases Classical.em ((dOf D r.2.1.1).k = 3) with
              | inl h => exact h
              | inr h => exact absurd (.inl ⟨hp, h, h2⟩) h5
          · simp only [hp, decide_eq_true_eq]
            constructor
            · intro h3
              exact absurd (.inr ⟨hp, by omega⟩) h5
            · intro h; exact absurd (.inl hp) h
      by_cases hm : movesR r = true
      · rw [if_pos hm, if_neg (fun h => (em.1 h) hm)]
        have eb : beginsB (full D) r = !firstBad D r := by
          unfold beginsB firstBad
          cases hB : r.2.2 with
          | nil => rfl
          | cons l B =>
            have hl : litB l = true := List.all_eq_true.1 hb l (by rw [hB]; simp)
            simp only
            rw [kind_is ht]
            unfold movB
            by_cases hl1 : l.1 = 1
            · by_cases g1 : l.2.1.1 = pk
              · simp [hl1, g1]
              · by_cases g2 : l.2.1.1 = fw
                · have := dOf_given ht (.inr g2)
                  rw [this]
                  simp [hl1, g1, g2, Ne.symm pk_fw, dc0]
                · rw [if_neg g1, if_neg g2]
                  have := dOf_k hD l.2.1.1
                  have g4 : ¬ (dOf D l.2.1.1).k = 4 := by omega
                  by_cases g5 : (dOf D l.2.1.1).k = 2 <;> by_cases hp : r.1 = 1 <;> simp [hl1, g1, g4, g5, hp]
            · simp [hl1]
        rw [eb]
        simp
      · rw [if_neg hm, if_pos (em.2 hm)]
        simp
  rw [e7]
/-- A rule of a right program is right. -/
theorem prog_rule {p : PgL} (h : progB p = true) {i : Nat} (hi : i < p.2.length) : ruleB (p.2.getD i rl0) = true := by
  unfold progB at h
  simp only [Bool.and_eq_true] at h
  have e : p.2.getD i rl0 = p.2[i] := by simp [List.getD, hi]
  rw [e]
  exact List.all_eq_true.1 h.2.2 _ (List.getElem_mem hi)
theorem prog_decl {p : PgL} (h : progB p = true) : p.1.all declB = true := by
  unfold progB at h
  simp only [Bool.and_eq_true] at h
  exact h.1.2
theorem prog_len {p : PgL} (h : progB p = true) : p.1.length ≤ 16 ∧ p.2.length ≤ 24 := by
  unfold progB at h
  simp only [Bool.and_eq_true, decide_eq_true_eq] at h
  exact ⟨h.1.1, h.2.1⟩

end Go.Proofs.YtljlgjgfmgilaaaGreat.Nq

namespace Go.Proofs.YtljlgjgfmgilaaaGreat.Nb
set_option maxRecDepth 8000
set_option linter.unusedSimpArgs false
set_option linter.unusedVariables false
open Go Go.ChangeShapes Go.WideShapes Go.RowKit
open Num Pl Pm Nq

def mkV (d : Dc) : Value := .agg #[.int .i64 d.k, .string d.s, .int .i64 d.ar]
def isE (v : Value) : Bool := match v with
  | .agg a => match a.toList with
    | [.int .i64 _, .string _, .int .i64 _] => true
    | _ => false
  | _ => false
theorem isE_mk (d : Dc) : isE (mkV d) = true := rfl
theorem isE_inv {v : Value} (h : isE v = true) : ∃ d, v = mkV d := by
  unfold isE at h
  split at h
  · rename_i a
    split at h
    · rename_i k s ar e
      exact ⟨⟨k, s, ar⟩, by unfold mkV; congr 1; exact Array.ext' e⟩
    · cases h
  · cases h
def elem (v : Value) : Option (DataW Value × List MemPlace) := if isE v = true then some (.held v, []) else none
theorem elem_mk (d : Dc) : elem (mkV d) = some (.held (mkV d), []) := by
  unfold elem; rw [if_pos (isE_mk d)]
theorem elem_inv {v : Value} {y : DataW Value × List MemPlace} (h : elem v = some y) : (∃ d, v = mkV d) ∧ y = (.held v, []) := by
  unfold elem at h
  split at h
  · rename_i hc; exact ⟨isE_inv hc, by simpa using h.symm⟩
  · cases h
theorem mkV_inj {c d : Dc} (h : mkV c = mkV d) : c = d := by
  obtain ⟨c1, c2, c3⟩ := c
  obtain ⟨d1, d2, d3⟩ := d
  simp only [mkV, Value.agg.injEq, Array.mk.injEq, List.cons.injEq, Value.int.injEq, Value.string.injEq, and_true, true_and] at h
  obtain ⟨h1, h2, h3⟩ := h
  subst h1 h2 h3; rfl
/-- A name as a key. -/
def lt (s : ByteArray) : Go.Lit := .string s.data.toList
theorem law : Maps.Keyed Tryz.prog 9 := Maps.string_keyed Tryz.underlying9
theorem key_mk {s : ByteArray} (hs : s.size ≤ maxLen) : keyOf Tryz.prog 9 (.string s) = some (lt s) := WideMaps.keyOf_string_mk Tryz.underlying9 hs
theorem key_inv {v : Value} {l : Go.Lit} (h : keyOf Tryz.prog 9 v = some l) : ∃ s : ByteArray, v = .string s ∧ l = lt s ∧ s.size ≤ maxLen := WideMaps.string_of_keyOf Tryz.underlying9 h
theorem lt_key {s : ByteArray} (hs : s.size ≤ maxLen) : WideAt.IsKeyLit (lt s) := law.key (key_mk hs)
theorem lt_inj {s t : ByteArray} (h : lt s = lt t) : s = t := by
  unfold lt at h
  injection h with h
  cases s; cases t
  simp only [ByteArray.mk.injEq]
  exact Array.ext' h

abbrev NV := Nv
structure Is (D : DataW Value) (L : List NV) : Prop where
  tidy : Maps.Tidy D
  apart : L.Pairwise (fun p q => p.1 ≠ q.1)
  str : ∀ p ∈ L, p.1.size ≤ maxLen
  has : ∀ l, Maps.has D l = true ↔ ∃ p ∈ L, lt p.1 = l
  at_ : ∀ p ∈ L, ∀ z, D.atKey (lt p.1) z = .held (mkV p.2)
  size : Maps.size D = L.length
theorem is_nil : Is (.map []) [] := ⟨Maps.tidy_empty, List.Pairwise.nil, fun p h => by simp at h, fun l => by simp [Maps.has], fun p h => by simp at h, rfl⟩
def putL (L : List NV) (p : NV) : List NV := L.filter (fun q => decide (q.1 ≠ p.1)) ++ [p]
theorem put_new {L : List NV} {p : NV} (h : ∀ q ∈ L, q.1 ≠ p.1) : putL L p = L ++ [p] := by
  unfold putL
  rw [List.filter_eq_self.2 (fun q hq => by simpa using h q hq)]
theorem strike_len : ∀ {L : List NV} (s : ByteArray), L.Pairwise (fun p q => p.1 ≠ q.1) → (L.filter (fun q => decide (q.1 ≠ s))).length + (if ∃ p ∈ L, p.1 = s then 1 else 0) = L.length
  | [], s, _ => by simp
  | x :: L, s, h => by
    obtain ⟨h1, h2⟩ := List.pairwise_cons.1 h
    have ih := strike_len s h2
    by_cases e : x.1 = s
    · have hn : ¬ ∃ p ∈ L, p.1 = s := fun ⟨p, hp, hq⟩ => h1 p hp (e.trans hq.symm)
      rw [if_neg hn] at ih
      rw [if_pos ⟨x, by simp, e⟩, List.filter_cons_of_neg (by simpa using e)]
      simp at ih ⊢; omega
    · have hi : (∃ p ∈ x :: L, p.1 = s) ↔ ∃ p ∈ L, p.1 = s := by
        constructor
        · rintro ⟨p, hp, hq⟩
          rcases List.mem_cons.1 hp with rfl | hp
          · exact absurd hq e
          · exact ⟨p, hp, hq⟩
        · rintro ⟨p, hp, hq⟩; exact ⟨p, by simp [hp], hq⟩
      rw [List.filter_cons_of_pos (by simpa using e)]
      simp only [hi, List.length_cons]; omega
theorem Is.put {D : DataW Value} {L : List NV} (h : Is D L) {p : NV} (hs : p.1.size ≤ maxLen) : Is (D.put (lt p.1) (.held (mkV p.2))) (putL L p) := by
  have hm := h.tidy.isMap
  have hk := lt_key hs
  refine ⟨h.tidy.put hk _, ?_, fun q hq => ?_, fun l => ?_, fun q hq z => ?_, ?_⟩
  · unfold putL
    rw [List.pairwise_append]
    refine ⟨h.apart.filter _, List.pairwise_singleton _ _, fun a ha b hb => ?_⟩
    simp at hb; subst hb
    simpa using (List.mem_filter.1 ha).2
  · unfold putL at hq
    rcases List.mem_append.1 hq with hq | hq
    · exact h.str q (List.mem_filter.1 hq).1
    · simp at hq; subst hq; exact hs
  · by_cases e : l = lt p.1
    · subst e
      rw [Maps.has_put_same hm hk]
      simp only [true_iff]
      exact ⟨p, by simp [putL], rfl⟩
    · rw [Maps.has_put_other e, h.has l]
      constructor
      · rintro ⟨q, hq, rfl⟩
        refine ⟨q, ?_, rfl⟩
        unfold putL
        refine List.mem_append_left _ (List.mem_filter.2 ⟨hq, ?_⟩)
        simp only [decide_eq_true_eq]
        rintro e'; exact e (by rw [e'])
      · rintro ⟨q, hq, rfl⟩
        unfold putL at hq
        rcases List.mem_append.1 hq with hq | hq
        · exact ⟨q, (List.mem_filter.1 hq).1, rfl⟩
        · simp at hq; subst hq; exact absurd rfl e
  · unfold putL at hq
    rcases List.mem_append.1 hq with hq | hq
    · obtain ⟨h1, h2⟩ := List.mem_filter.1 hq
      simp only [decide_eq_true_eq] at h2
      rw [Maps.atKey_put_other (fun e => h2 (lt_inj e))]
      exact h.at_ q h1 z
    · simp at hq; subst hq
      exact Maps.atKey_put_same hm hk _ _
  · rw [Maps.size_put h.tidy, h.size]
    have := strike_len p.1 h.apart
    have hh : (Maps.has D (lt p.1) = true) ↔ ∃ q ∈ L, q.1 = p.1 := by
      rw [h.has]
      constructor
      · rintro ⟨q, hq, e⟩; exact ⟨q, hq, lt_inj e⟩
      · rintro ⟨q, hq, e⟩; exact ⟨q, hq, by rw [e]⟩
    unfold putL
    simp only [hh, List.length_append, List.length_cons, List.length_nil]
    split <;> rename_i hc <;> simp only [hc, if_true, if_false] at this <;> omega
theorem Is.find {D : DataW Value} {L : List NV} (h : Is D L) (s : ByteArray) : (∃ p ∈ L, p.1 = s ∧ Maps.has D (lt s) = true ∧ ∀ z, D.atKey (lt s) z = .held (mkV p.2)) ∨ ((∀ p ∈ L, p.1 ≠ s) ∧ Maps.has D (lt s) = false ∧ ∀ z, D.atKey (lt s) z = z) := by
  cases hh : Maps.has D (lt s) with
  | true =>
    obtain ⟨p, hp, e⟩ := (h.has _).1 hh
    have e' := lt_inj e
    exact .inl ⟨p, hp, e', rfl, fun z => by rw [← e]; exact h.at_ p hp z⟩
  | false =>
    refine .inr ⟨fun p hp e => ?_, rfl, fun z => Maps.atKey_of_not_has hh z⟩
    have := (h.has (lt s)).2 ⟨p, hp, by rw [e]⟩
    rw [hh] at this; cases this

/-- What a lookup finds. -/
theorem Is.lkp {D : DataW Value} {L : List NV} (h : Is D L) (s : ByteArray) : (∃ d, lkp L s = some d ∧ Maps.has D (lt s) = true ∧ ∀ z, D.atKey (lt s) z = .held (mkV d)) ∨ (lkp L s = none ∧ Maps.has D (lt s) = false ∧ ∀ z, D.atKey (lt s) z = z) := by
  rcases h.find s with ⟨p, hp, e, h1, h2⟩ | ⟨h0, h1, h2⟩
  · refine .inl ⟨p.2, ?_, h1, h2⟩
    have : L.find? (fun q => decide (q.1 = s)) = some p := by
      have hap := h.apart
      clear h h1 h2
      induction L with
      | nil => simp at hp
      | cons q L ih =>
        obtain ⟨g1, g2⟩ := List.pairwise_cons.1 hap
        rcases List.mem_cons.1 hp with rfl | hp'
        · rw [List.find?_cons_of_pos (by simpa using e)]
        · rw [List.find?_cons_of_neg (by simp; intro e2; exact g1 p hp' (e2.trans e.symm))]
          exact ih hp' g2
    unfold Nq.lkp; rw [this]; rfl
  · refine .inr ⟨?_, h1, h2⟩
    unfold Nq.lkp
    rw [List.find?_eq_none.2 (fun p hp => by simpa using h0 p hp)]; rfl
abbrev Owns (w : World) (b n : Nat) (D : DataW Value) : Prop := w.ownsMap Tryz.prog 9 elem b n D
theorem owns_block {w w' : World} {b n : Nat} {D : DataW Value} (h : Owns w b n D) (e : w'.heap[b]? = w.heap[b]?) : Owns w' b n D := by
  obtain ⟨es, clock, hb, r⟩ := h
  exact ⟨es, clock, e.trans hb, r⟩
theorem owns_below {w w' : World} {b n : Nat} {D : DataW Value} (h : Owns w b n D) (hb : Below w.heap.size w w') : Owns w' b n D := owns_block h (hb.block b h.lt)
theorem grown_below {w w' w0 : World} {b : Nat} (h : Below w0.heap.size w0 w) (hg : w.grownBy w' (some b)) (hb : w0.heap.size ≤ b) : Below w0.heap.size w0 w' :=
  h.grown hg h.size (fun k hk => by cases hk; exact hb)
/-- A map in memory that holds a list. -/
def Mem (w : World) (b : Nat) (L : List Nv) : Prop := ∃ n D, Owns w b n D ∧ Is D L
theorem Mem.below {w w' : World} {b : Nat} {L : List Nv} (h : Mem w b L) (hb : Below w.heap.size w w') : Mem w' b L := by
  obtain ⟨n, D, h1, h2⟩ := h
  exact ⟨n, D, owns_below h1 hb, h2⟩
theorem Mem.lt {w : World} {b : Nat} {L : List Nv} (h : Mem w b L) : b < w.heap.size := by
  obtain ⟨n, D, h1, h2⟩ := h
  exact h1.lt
theorem zeroDc (w : World) : (zeroValue 48).run Tryz.prog w = .ok (mkV dc0) w := by kernel_rfl

/-- What a lookup gives, with its second result and without. -/
theorem Mem.run {w : World} {b : Nat} {L : List Nv} (h : Mem w b L) {s : ByteArray} (hs : s.size ≤ maxLen) :
    (Instr.lookup 59 (.map (some b)) (.string s) false).run Tryz.prog w = .ok (.agg #[.int .i64 (lk L s).k, .string (lk L s).s, .int .i64 (lk L s).ar]) w ∧
    (Instr.lookup 59 (.map (some b)) (.string s) true).run Tryz.prog w = .ok (.tuple #[.agg #[.int .i64 (lk L s).k, .string (lk L s).s, .int .i64 (lk L s).ar], .bool (lkp L s).isSome]) w := by
  obtain ⟨n, D, hown, his⟩ := h
  obtain ⟨v1, p1, r1, e1⟩ := hown.lookup law Tryz.underlying59 (zeroDc w) (elem_mk dc0) (key_mk hs)
  obtain ⟨v2, p2, r2, e2⟩ := hown.look_ok law Tryz.underlying59 (zeroDc w) (elem_mk dc0) (key_mk hs)
  rw [r1, r2]
  obtain ⟨_, e1⟩ := elem_inv e1
  obtain ⟨_, e2⟩ := elem_inv e2
  rcases his.lkp s with ⟨d, h1, h3, h4⟩ | ⟨h1, h3, h4⟩
  all_goals
    rw [h4] at e1 e2
    injection e1 with e1 _
    injection e1 with e1
    injection e2 with e2 _
    injection e2 with e2
    rw [← e1, ← e2, h3]
    unfold lk
    rw [h1]
    exact ⟨rfl, rfl⟩

end Go.Proofs.YtljlgjgfmgilaaaGreat.Nb

namespace Go.Proofs.YtljlgjgfmgilaaaGreat.Nq
set_option maxRecDepth 8000
set_option linter.unusedSimpArgs false
set_option linter.unusedVariables false
open Go Go.ChangeShapes Go.WideShapes Go.RowKit
open Num Pl Pm

def dcV (d : Dc) : Value := .agg #[.int .i64 d.k, .string d.s, .int .i64 d.ar]
theorem find_hit {D : List Dc} {s : ByteArray} {k : Nat} (hk : k < D.length) (h : (D.getD k dc0).s = s) (hb : ∀ i, i < k → (D.getD i dc0).s ≠ s) : D.find? (fun d => decide (d.s = s)) = some (D.getD k dc0) := by
  have e : D.getD k dc0 = D[k] := by simp [List.getD, hk]
  rw [e] at h ⊢
  refine List.find?_eq_some_iff_getElem.2 ⟨by simpa using h, k, hk, rfl, fun j hj => ?_⟩
  have := hb j hj
  have e2 : D.getD j dc0 = D[j] := by simp [List.getD, Nat.lt_trans hj hk]
  rw [e2] at this
  simpa using this
theorem find_miss {D : List Dc} {s : ByteArray} (hb : ∀ i, i < D.length → (D.getD i dc0).s ≠ s) : D.find? (fun d => decide (d.s = s)) = none := by
  refine List.find?_eq_none.2 fun d hd => ?_
  obtain ⟨i, hi, rfl⟩ := List.getElem_of_mem hd
  have := hb i hi
  have e : D.getD i dc0 = D[i] := by simp [List.getD, hi]
  rw [e] at this
  simpa using this

theorem toList_inj {a b : ByteArray} (h : a.toList = b.toList) : a = b := by
  rw [Go.Lib.toList_data, Go.Lib.toList_data] at h
  exact ByteArray.ext (Array.ext' h)
theorem ne_lists {a b : ByteArray} (h : a ≠ b) : (a.toList == b.toList) = false := by
  cases e : (a.toList == b.toList) with
  | false => rfl
  | true => exact absurd (toList_inj (by simpa using e)) h
theorem eq_lists {a b : ByteArray} (h : a = b) : (a.toList == b.toList) = true := by rw [h]; simp
theorem field_k (k : Int) (s : ByteArray) (ar : Int) (w : World) : (Instr.field 48 (.agg #[.int .i64 k, .string s, .int .i64 ar]) 0).run Tryz.prog w = .ok (.int .i64 k) w := by kernel_rfl
theorem field_ar (k : Int) (s : ByteArray) (ar : Int) (w : World) : (Instr.field 48 (.agg #[.int .i64 k, .string s, .int .i64 ar]) 2).run Tryz.prog w = .ok (.int .i64 ar) w := by kernel_rfl
theorem three {w : World} {g : Nat} {u v x : Value} {t : TypeId} {fr : Nat × Nat} (h : w.heap[g]? = some (.cells #[u, v, x] t fr)) : w.cell? ⟨g, 0, none⟩ = some u ∧ w.cell? ⟨g, 1, none⟩ = some v ∧ w.cell? ⟨g, 2, none⟩ = some x := by simp [World.cell?, h]

set_option maxHeartbeats 4000000 in
theorem declS_any (x : Pg) (s : ByteArray) (w : World) (hx : Rd kdDc 0 w x.D) : Calls Tryz.prog 42 #[.agg #[.slice x.D.a x.D.Q.length x.D.c, .slice x.R.a x.R.Q.length x.R.c], .string s] w fun e w' => (∃ d, d = dOf x.D.Q s ∧ e = .returned (.agg #[.int .i64 d.k, .string d.s, .int .i64 d.ar])) ∧ Below w.heap.size w w' := by
  obtain ⟨⟨da, db, dO, dc, dQ⟩, R⟩ := x
  simp only at hx ⊢
  obtain ⟨n, hn⟩ : ∃ n, n = dQ.length := ⟨_, rfl⟩
  have hm : n ≤ maxLen := by rw [hn]; exact hx.len
  unfold maxLen at hm
  have HB : Hid (∀ k, k < n → (∀ i, i < k → (dQ.getD i dc0).s ≠ s) → ∀ y, y = dQ.getD k dc0 → y.s = s → y = dOf dQ s) := fun k hk hb y hy h => by
    subst hy; exact (dOf_some (find_hit (by omega) h hb)).symm
  have HG : Hid ((∀ i, i < n → (dQ.getD i dc0).s ≠ s) → dc0 = dOf dQ s) := fun h => (dOf_none (find_miss (fun i hi => h i (by omega)))).symm
  generalize dOf dQ s = V at HB HG ⊢
  generalize R.Q.length = rl
  obtain ⟨W1, hW1⟩ : ∃ W1, W1 = (w.alloc (.cells #[.slice da n dc, .slice R.a rl R.c] 32)).alloc (.cells #[.int .i64 0, .string ⟨#[]⟩, .int .i64 0] 48) := ⟨_, rfl⟩
  have B : Below w.heap.size w W1 := by rw [hW1]; exact Rw.next (below_alloc1 _ _) (below_alloc1 _ _)
  have kz : W1.heap[w.heap.size + 1]? = some (.cells #[.int .i64 0, .string ⟨#[]⟩, .int .i64 0] 48 (0, 0)) := by rw [hW1]; exact at_new (by simp)
  have k0 : W1.heap[w.heap.size]? = some (.cells #[.slice da n dc, .slice R.a rl R.c] 32 (0, 0)) := by rw [hW1, at_old (by simp), at_new rfl]
  obtain ⟨p0, p1⟩ := Pl.two k0
  have h1 := hx.below B
  rw [← hn]
  have HN : Hid (n = dQ.length) := hn
  clear hn hx
  go_enter Tryz.func42, Tryz.ntmps42
  go_wp2
  rw [← hW1]
  clear hW1 p0 p1 k0
  go_loopw [10] (fun i wr => ∃ k : Nat, k ≤ n ∧ i = .int .i64 k ∧ Below W1.heap.size W1 wr ∧ ∀ i, i < k → (dQ.getD i dc0).s ≠ s) (fun i _ => n - (intOf i).toNat)
  case atStart => exact ⟨0, Nat.zero_le _, rfl, Below.refl _ _, fun i hi => by omega⟩
  case round =>
    obtain ⟨k, hk, rfl, hbel, hpre⟩ := hrel
    have HP : Hid (∀ i, i < k → (dQ.getD i dc0).s ≠ s) := hpre
    clear hpre
    have kr := (hbel.block _ (Pl.blk_lt kz)).trans kz
    have lr := Pl.blk_lt kr
    have B2 := Rw.next B hbel
    clear kz B
    by_cases hlt : k < n
    · have hh := h1.head (by have := HN.out; simp only; omega)
      have hkz : (k : Int) < (n : Int) := by omega
      obtain ⟨c0, c1, c2⟩ := cellsDc (h1.below hbel) (i := k) (by have := HN.out; simp only; omega)
      simp only at hh c0 c1 c2
      obtain rfl := hh
      have HY : Hid (∀ y, y = dQ.getD k dc0 → y.s = s → y = V) := fun y hy h => HB.out k hlt HP.out y hy h
      have HX : Hid (∀ y, y = dQ.getD k dc0 → y.s ≠ s → ∀ i, i < k + 1 → (dQ.getD i dc0).s ≠ s) := fun y hy h i hi => by
        by_cases e : i = k
        · subst e; rw [← hy]; exact h
        · exact HP.out i (by omega)
      clear h1 HB HG HN HP
      obtain ⟨y, hy⟩ : ∃ y, y = dQ.getD k dc0 := ⟨_, rfl⟩
      rw [← hy] at c0 c1 c2
      have HY2 := HY.out y hy
      have HX2 := HX.out y hy
      clear HY HX hy
      have b2 := below_alloc1 wr (.cells #[.int .i64 y.k, .string y.s, .int .i64 y.ar] 48)
      obtain ⟨z0, z1, z2⟩ := three kr
      have f0 := free kr 0
      have f1 := free kr 1
      have f2 := free kr 2
      by_cases he : y.s = s
      · have HYV : Hid (y = V) := HY2 he
        clear HX2 HY2
        subst he
        have e3 := at_old (o := .cells #[.int .i64 y.k, .string y.s, .int .i64 y.ar] 48) (by simpa using lr) |>.trans (set_blk (cs' := #[.int .i64 y.k, .string y.s, .int .i64 y.ar]) (set_blk (cs' := #[.int .i64 y.k, .string y.s, .int .i64 0]) (set_blk (cs' := #[.int .i64 y.k, .string ⟨#[]⟩, .int .i64 0]) kr 0 (.int .i64 y.k) rfl) 1 (.string y.s) rfl) 2 (.int .i64 y.ar) rfl)
        obtain ⟨r0, r1, r2⟩ := three e3
        go_wp2
        refine bodyPost_ret (v := .agg #[.int .i64 y.k, .string y.s, .int .i64 y.ar]) (by simp [results, Tryz.results42, go_sem, r0, r1, r2]) rfl ?_
        exact ⟨⟨y, HYV.out, rfl⟩, Rw.next (((B2.setCell (by simp) _).setCell (by simp) _).setCell (by simp) _) (below_alloc1 _ _)⟩
      · have hs := HX2 he
        clear HX2 HY2
        have hb := Rw.next hbel b2
        have e1 := ne_lists he
        go_wp2
        go_roundw
        case rel => exact ⟨k + 1, by omega, by go_num, hb, hs⟩
        case measure => simp [intOf]; omega
    · have he : k = n := by omega
      subst he
      clear h1
      have HV : Hid (dc0 = V) := HG.out HP.out
      obtain ⟨z0, z1, z2⟩ := three kr
      have f0 := free kr 0
      have f1 := free kr 1
      have f2 := free kr 2
      have e3 := set_blk (cs' := #[.int .i64 0, .string ⟨#[]⟩, .int .i64 0]) (set_blk (cs' := #[.int .i64 0, .string ⟨#[]⟩, .int .i64 0]) (set_blk (cs' := #[.int .i64 0, .string ⟨#[]⟩, .int .i64 0]) kr 0 (.int .i64 0) rfl) 1 (.string ⟨#[]⟩) rfl) 2 (.int .i64 0) rfl
      obtain ⟨r0, r1, r2⟩ := three e3
      go_wp2
      refine bodyPost_ret (v := .agg #[.int .i64 0, .string ⟨#[]⟩, .int .i64 0]) (by simp [results, Tryz.results42, go_sem, r0, r1, r2]) rfl ?_
      exact ⟨⟨dc0, HV.out, rfl⟩, ((B2.setCell (by simp) _).setCell (by simp) _).setCell (by simp) _⟩

end Go.Proofs.YtljlgjgfmgilaaaGreat.Nq

namespace Go.Proofs.YtljlgjgfmgilaaaGreat.Pm
set_option maxRecDepth 8000
set_option linter.unusedSimpArgs false
set_option linter.unusedVariables false
open Go Go.ChangeShapes Go.WideShapes Go.RowKit
open Num Pl

section
variable {α L : Type} {K : Kd α L}
def cels (K : Kd α L) (T : List α) : List Value := (List.range (T.length * K.n)).map (flat K T)
theorem cels_len (T : List α) : (cels K T).length = T.length * K.n := by simp [cels]
theorem cels_at (T : List α) {j : Nat} (h : j < T.length * K.n) : (cels K T)[j]? = some (flat K T j) := by simp [cels, h]
theorem flat_app {T : List α} {x : α} {j : Nat} (h : j < T.length * K.n) : flat K (T ++ [x]) j = flat K T j := by
  unfold flat
  rw [getD_app, if_neg]
  have := Nat.div_lt_of_lt_mul (show j < K.n * T.length by rw [Nat.mul_comm]; exact h)
  omega
theorem cels_app (T : List α) (x : α) : cels K (T ++ [x]) = cels K T ++ (List.range K.n).map (K.val x) := by
  unfold cels
  have el : (T ++ [x]).length * K.n = T.length * K.n + K.n := by simp [Nat.add_mul]
  rw [el, List.range_add, List.map_append, List.map_map]
  congr 1
  · exact List.map_congr_left fun j hj => flat_app (List.mem_range.1 hj)
  · refine List.map_congr_left fun j hj => ?_
    have := List.mem_range.1 hj
    rw [Function.comp_apply, flat_at _ _ _ this, getD_app, if_pos rfl]

/-- What hangs on an element: the blocks of its rows and their types. -/
structure Hg (K : Kd α L) where
  hang : α → List (Nat × TypeId)
  keepH : ∀ {w w' : World} {x : α}, K.ok 0 w x → (∀ p ∈ hang x, w'.heap[p.1]? = w.heap[p.1]?) → K.ok 0 w' x
end
section
variable {α L : Type} {K : Kd α L} {G : Hg K}
/-- The elements' rows stand in blocks from B on, of the types that are told. -/
def Hung (G : Hg K) (w : World) (B : Nat) (x : α) : Prop := ∀ p ∈ G.hang x, B ≤ p.1 ∧ ∃ cs, w.heap[p.1]? = some (.cells cs p.2 (0, 0))
/-- A list of the call's own, in blocks from B on. -/
structure OL (G : Hg K) (ty : TypeId) (w : World) (B : Nat) (v : Value) (T : List α) : Prop where
  own : w.ownsRow B ty K.n v T.length (cels K T)
  ok : ∀ x ∈ T, K.ok 0 w x
  hung : ∀ x ∈ T, Hung G w B x
  ne : ∀ x ∈ T, ∀ p ∈ G.hang x, p.2 ≠ ty
variable {ty : TypeId} {w w' : World} {B : Nat} {v : Value} {T : List α}
theorem OL.nil (ty : TypeId) (w : World) (B : Nat) : OL G ty w B (.slice none 0 0) ([] : List α) := ⟨by simpa [cels] using World.ownsRow_nil w B ty K.n, fun _ h => by simp at h, fun _ h => by simp at h, fun _ h => by simp at h⟩
theorem OL.lt (h : OL G ty w B v T) {k : Nat} (hk : v.ownBlock = some k) : B ≤ k ∧ k < w.heap.size := h.own.lt k hk
theorem OL.keep (h : OL G ty w B v T) (hk : ∀ x, x < w.heap.size → B ≤ x → w'.heap[x]? = w.heap[x]?) : OL G ty w' B v T := by
  refine ⟨⟨h.own.1, ?_⟩, fun x hx => G.keepH (h.ok x hx) fun p hp => ?_, fun x hx p hp => ?_, h.ne⟩
  · rcases h.own.2 with h0 | ⟨g, cap, cur, rfl, hb, hg, rest⟩
    · exact .inl h0
    · exact .inr ⟨g, cap, cur, rfl, hb, (hk g (blk_lt hg) hb).trans hg, rest⟩
  · obtain ⟨h1, cs, h2⟩ := h.hung x hx p hp
    exact hk _ (blk_lt h2) h1
  · obtain ⟨h1, cs, h2⟩ := h.hung x hx p hp
    exact ⟨h1, cs, (hk _ (blk_lt h2) h1).trans h2⟩
theorem OL.below (h : OL G ty w B v T) (hb : Below w.heap.size w w') : OL G ty w' B v T := h.keep fun x hx _ => hb.block x hx
theorem own_ne {n x : Nat} {e : Nat} {xs : List Value} (h : w.ownsRow B ty e v n xs) {cs : Array Value} {t : TypeId} {fr : Nat × Nat} (k : w.heap[x]? = some (.cells cs t fr)) (ht : t ≠ ty) : some x ≠ v.ownBlock := by
  intro q
  rcases h.2 with ⟨rfl, _⟩ | ⟨g1, cap, cur, rfl, _, h1, _⟩
  · cases q
  · simp only [Value.ownBlock, Option.some.injEq] at q
    subst q
    rw [k] at h1
    simp only [Option.some.injEq, Obj.cells.injEq] at h1
    exact ht h1.2.1
/-- One more element: the list grows, all else stays. -/
theorem OL.app (h : OL G ty w B v T) {tyS : TypeId} {bytes : Nat} {z : Value} (hu : Tryz.prog.underlying tyS = some (.slice ty)) (hi : (Tryz.prog.info? ty).map (fun i => (i.zero, i.size, i.bytes)) = some (some z, K.n, bytes)) (hb : bytes ≤ 200) (x : α) (hx : K.ok 0 w x) (hH : Hung G w B x) (hn : ∀ p ∈ G.hang x, p.2 ≠ ty)
    {R c : Nat} (hT : ∀ j, j < K.n → w.cell? ⟨R, j, none⟩ = some (K.val x j)) (hB : B ≤ w.heap.size) (hl : T.length ≤ 100000) (hz : z.cells.size = K.n) (hval : ∀ j, j < K.n → (K.val x j).oneCell' = true) :
    ∃ v' w', (Builtin.append_ #[tyS, tyS] tyS #[v, .slice (some ⟨R, 0, none⟩) 1 c]).run Tryz.prog w = .ok v' w' ∧ OL G ty w' B v' (T ++ [x]) ∧ w.grownBy w' v.ownBlock := by
  obtain ⟨i, hi', hzz⟩ := Option.map_eq_some_iff.1 hi
  simp only [Prod.mk.injEq] at hzz
  obtain ⟨h1, h2, h3⟩ := hzz
  obtain ⟨v', w', hrun, g1, g2, _, _⟩ := run_append_own_at (P := Tryz.prog) (w := w) B tyS tyS ty i z K.n bytes hu hi' h1 h2 h3 hz K.pos v T.length (cels K T) h.own ⟨R, 0, none⟩ 1 c ((List.range K.n).map (K.val x)) (by simp)
    (fun j u hj => by
      have hjn : j < K.n := by have := (List.getElem?_eq_some_iff.1 hj).1; simpa using this
      rw [add_eq, Nat.zero_add, hT j hjn]
      simpa [hjn] using hj)
    (fun u hu => by
      obtain ⟨j, hj, rfl⟩ := List.mem_map.1 hu
      exact hval j (List.mem_range.1 hj))
    (by unfold maxLen; omega) (by have : (T.length + 1) * bytes ≤ 100001 * 200 := Nat.mul_le_mul (by omega) hb; omega) hB
  have hk : ∀ y, K.ok 0 w y → Hung G w B y → (∀ p ∈ G.hang y, p.2 ≠ ty) → K.ok 0 w' y ∧ Hung G w' B y := fun y ho hh hne =>
    ⟨G.keepH ho fun p hp => by
      obtain ⟨_, cs, h2⟩ := hh p hp
      exact g2.block _ (blk_lt h2) (own_ne h.own h2 (hne p hp)), fun p hp => by
      obtain ⟨h1, cs, h2⟩ := hh p hp
      exact ⟨h1, cs, (g2.block _ (blk_lt h2) (own_ne h.own h2 (hne p hp))).trans h2⟩⟩
  refine ⟨v', w', hrun, ⟨by rw [cels_app]; simpa using g1, fun y hy => ?_, fun y hy => ?_, fun y hy => ?_⟩, g2⟩
  · rcases List.mem_append.1 hy with hy | hy
    · exact (hk y (h.ok y hy) (h.hung y hy) (h.ne y hy)).1
    · obtain rfl := List.mem_singleton.1 hy
      exact (hk y hx hH hn).1
  · rcases List.mem_append.1 hy with hy | hy
    · exact (hk y (h.ok y hy) (h.hung y hy) (h.ne y hy)).2
    · obtain rfl := List.mem_singleton.1 hy
      exact (hk y hx hH hn).2
  · rcases List.mem_append.1 hy with hy | hy
    · exact h.ne y hy
    · obtain rfl := List.mem_singleton.1 hy
      exact hn
/-- Such a list reads as a slice. -/
theorem OL.form (h : OL G ty w B v T) (hl : T.length ≤ 100000) : ∃ s : Sl α, v = .slice s.a s.Q.length s.c ∧ s.Q = T ∧ Rd K 0 w s ∧ (0 < T.length → B ≤ s.b ∧ ∃ cs, w.heap[s.b]? = some (.cells cs ty (0, 0))) := by
  rcases h.own.2 with ⟨rfl, e⟩ | ⟨g, cap, cur, rfl, hb, hh, hn, hm, hz, ht⟩
  · have : T = [] := List.eq_nil_of_length_eq_zero e
    subst this
    exact ⟨Sl.nil, rfl, rfl, rd_nil _ _ _ _ _ _, fun h => by simp at h⟩
  · refine ⟨⟨some ⟨g, 0, none⟩, g, 0, cap, T⟩, rfl, rfl, ⟨fun _ => rfl, fun _ => Nat.zero_le _, fun i hi j hj => ?_, fun i hi => ?_, by unfold maxLen; simp only; omega, by simp only; omega, fun q => absurd rfl q⟩, fun _ => ⟨hb, cur, hh⟩⟩
    · simp only at hi ⊢
      have hlt : i * K.n + j < T.length * K.n := by
        have h1 : (i + 1) * K.n ≤ T.length * K.n := Nat.mul_le_mul_right _ (by omega)
        rw [Nat.succ_mul] at h1
        omega
      have e : (cur.toList.take (T.length * K.n))[i * K.n + j]? = (cels K T)[i * K.n + j]? := by rw [ht]
      rw [List.getElem?_take, if_pos hlt, cels_at T hlt, flat_at _ _ _ hj] at e
      rw [Nat.zero_add]
      simp only [World.cell?, hh]
      rw [← Array.getElem?_toList]; exact e
    · simp only at hi ⊢
      refine h.ok _ ?_
      have e : T.getD i K.z = T[i] := by simp [List.getD, hi]
      rw [e]; exact List.getElem_mem hi
end

def hgTm : Hg kdTm where
  hang := fun _ => []
  keepH := fun h _ => h
def hgDc : Hg kdDc where
  hang := fun _ => []
  keepH := fun h _ => h
/-- Where a slice's own row lies. -/
def rowOf {α : Type} (s : Sl α) (t : TypeId) : List (Nat × TypeId) := if s.Q.length = 0 then [] else [(s.b, t)]
theorem rowOf_pos {α : Type} {s : Sl α} {t : TypeId} (h : 0 < s.Q.length) : (s.b, t) ∈ rowOf s t := by unfold rowOf; rw [if_neg (by omega)]; simp
theorem rd_flat {α L : Type} {K : Kd α L} {w w' : World} {s : Sl α} (h : Rd K 0 w s) (t : TypeId) (hk : ∀ p ∈ rowOf s t, w'.heap[p.1]? = w.heap[p.1]?) (ho : ∀ i, i < s.Q.length → K.ok 0 w' (s.Q.getD i K.z)) : Rd K 0 w' s :=
  ⟨h.head, h.blk, fun i hi j hj => (World.cell?_of_block (by exact hk (s.b, t) (rowOf_pos (by omega)))).trans (h.cell i hi j hj), ho, h.len, h.room, fun q => absurd rfl q⟩
theorem getD_mem {α L : Type} {K : Kd α L} {Q : List α} {i : Nat} (hi : i < Q.length) : Q.getD i K.z ∈ Q := by
  have e : Q.getD i K.z = Q[i] := by simp [List.getD, hi]
  rw [e]; exact List.getElem_mem hi
def hgLm : Hg kdLm where
  hang := fun x => rowOf x.h.A 94
  keepH := fun h hk => ⟨⟨h.1.1, rd_flat h.1.2 _ hk (fun i hi => h.1.2.ok i hi)⟩, h.2⟩
def hgRm : Hg kdRm where
  hang := fun x => rowOf x.h.A 94 ++ (rowOf x.B 96 ++ x.B.Q.flatMap hgLm.hang)
  keepH := fun {w w' x} h hk => ⟨⟨h.1.1, rd_flat h.1.2 _ (fun p hp => hk p (List.mem_append.2 (.inl hp))) (fun i hi => h.1.2.ok i hi)⟩, rd_flat h.2 _ (fun p hp => hk p (List.mem_append.2 (.inr (List.mem_append.2 (.inl hp))))) (fun i hi => hgLm.keepH (h.2.ok i hi) fun p hp => hk p (List.mem_append.2 (.inr (List.mem_append.2 (.inr (List.mem_flatMap.2 ⟨_, getD_mem hi, hp⟩))))))⟩

end Go.Proofs.YtljlgjgfmgilaaaGreat.Pm

namespace Go.Proofs.YtljlgjgfmgilaaaGreat.Nq
set_option maxRecDepth 8000
set_option linter.unusedSimpArgs false
set_option linter.unusedVariables false
open Go Go.ChangeShapes Go.WideShapes Go.RowKit
open Num Pl Pm

/-- An atom without what its slice holds. -/
structure HA where
  s : ByteArray
  a : Option Addr
  l : Nat
  c : Nat
def ha0 : HA := ⟨⟨#[]⟩, none, 0, 0⟩
def kdHa : Kd HA HdL where
  z := ha0
  t := 52
  n := 2
  pos := by decide
  val := fun x j => match j with | 0 => .string x.s | _ => .slice x.a x.l x.c
  l := fun x => (x.s, x.l)
  wt := fun _ => 0
  ok := fun _ _ x => x.s.size ≤ maxLen ∧ x.l ≤ maxLen
  keep := fun h _ => h
  mono := fun h _ => h
def hgHa : Hg kdHa where
  hang := fun _ => []
  keepH := fun h _ => h
def lite (x : Atm) : HA := ⟨x.s, x.A.a, x.A.Q.length, x.A.c⟩
theorem lite_ok {lo : Nat} {w : World} {x : Atm} (h : x.Ok lo w) : (lite x).s.size ≤ maxLen ∧ (lite x).l ≤ maxLen := ⟨h.1, h.2.len⟩
theorem lite_l (x : Atm) : kdHa.l (lite x) = hd x.l := rfl
theorem cellsHa {lo : Nat} {w : World} {s : Sl HA} (h : Rd kdHa lo w s) {i : Nat} (hi : i < s.Q.length) : w.cell? ⟨s.b, s.o + i * 2, none⟩ = some (.string (s.Q.getD i ha0).s) ∧ w.cell? ⟨s.b, s.o + i * 2 + 1, none⟩ = some (.slice (s.Q.getD i ha0).a (s.Q.getD i ha0).l (s.Q.getD i ha0).c) :=
  ⟨h.cell i hi 0 (by decide), h.cell i hi 1 (by decide)⟩
abbrev OA (w : World) (B : Nat) (v : Value) (T : List HA) : Prop := OL hgHa 52 w B v T
/-- A list of one atom, in a block of its own. -/
theorem OA.one {w : World} {g B : Nat} {x : HA} (k : w.heap[g]? = some (.cells #[.string x.s, .slice x.a x.l x.c] 52 (0, 0))) (hB : B ≤ g) (hx : x.s.size ≤ maxLen ∧ x.l ≤ maxLen) : OA w B (.slice (some ⟨g, 0, none⟩) 1 1) [x] := by
  refine ⟨⟨rfl, .inr ⟨g, 1, #[.string x.s, .slice x.a x.l x.c], rfl, hB, k, by simp, by unfold maxLen; omega, rfl, by simp [cels, flat, kdHa, List.range, List.range.loop]⟩⟩, fun y hy => ?_, fun y _ p hp => by simp [hgHa] at hp, fun y _ p hp => by simp [hgHa] at hp⟩
  obtain rfl := List.mem_singleton.1 hy
  exact hx
theorem infoHa : (Tryz.prog.info? 52).map (fun i => (i.zero, i.size, i.bytes)) = some (some (.agg #[.string ⟨#[]⟩, .slice none 0 0]), 2, 40) := by kernel_rfl
theorem body_step (B : List LtL) {k : Nat} {l0 : LtL} (h : k < B.length) : bodyAt (B.take (k + 1)) = bodyAt (B.take k) ++ (if (B.getD k l0).1 = 3 then [] else [hd (B.getD k l0).2.1]) := by
  rw [List.take_add_one]
  unfold bodyAt
  rw [List.filter_append, List.map_append]
  congr 1
  have e : B[k]?.toList = [B.getD k l0] := by simp [List.getD, h]
  rw [e]
  by_cases hk : (B.getD k l0).1 = 3
  · rw [if_pos hk, List.filter_cons_of_neg (by simpa using hk)]; rfl
  · rw [if_neg hk, List.filter_cons_of_pos (by simpa using hk)]; rfl
def lt0 : LtL := kdLm.l lm0
theorem told_get (Q : List Lm) (i : Nat) : (told kdLm Q).getD i lt0 = kdLm.l (Q.getD i lm0) := told_at (K := kdLm) Q i
/-- What both functions leave. -/
def ResA (x : Rm) (w : World) (e : Ending) (w' : World) : Prop := Below w.heap.size w w' ∧ ∃ s : Sl HA, e = .returned (.slice s.a s.Q.length s.c) ∧ Rd kdHa 0 w' s ∧ told kdHa s.Q = atoms x.l ∧ s.Q.length ≤ 9

section
variable {ops : Array Oper} {rest : List Oper} {o : Oper} {a : Act} {w : World} {Q : Exit → Act → World → Prop}
theorem wpList_appA (hgd : o.guard = none) (s x : Operand)
    (ho : o.op = .call { callee := .builtin .append, args := #[s, x], argTypes := #[87, 87] }) (hty : o.type = 87) (B R c : Nat) (v : Value) (T : List HA) (y : HA) (hs : a.eval s = v) (hx : a.eval x = .slice (some ⟨R, 0, none⟩) 1 c)
    (h0 : OA w B v T) (hB : B ≤ w.heap.size) (hR : w.heap[R]? = some (.cells #[.string y.s, .slice y.a y.l y.c] 52 (0, 0))) (hlen : T.length ≤ 100) (hy : y.s.size ≤ maxLen ∧ y.l ≤ maxLen)
    (h : ∀ v' w', OA w' B v' (T ++ [y]) → w.grownBy w' v.ownBlock → wpList Tryz.prog ops Q rest (a.put o.dst v') w') : wpList Tryz.prog ops Q (o :: rest) a w := by
  obtain ⟨p0, p1⟩ := Pl.two hR
  obtain ⟨v', w', hrun, h1, h2⟩ := OL.app h0 Tryz.underlying87 infoHa (by decide) y hy (fun p hp => by simp [hgHa] at hp) (fun p hp => by simp [hgHa] at hp) (R := R) (c := c) (fun j hj => by
    match j, hj with
    | 0, _ => exact p0
    | 1, _ => exact p1) hB (by omega) rfl (fun j hj => by
    match j, hj with
    | 0, _ => rfl
    | 1, _ => rfl)
  refine wpList_plain hgd fun K' hK' => ?_
  unfold Oper.wp
  simp [execOp, ho, hty, resolve, invoke, builtin, hs, hx, hrun, Result.andThen]
  exact hK' _ _ (h v' w' h1 h2)
end

set_option maxHeartbeats 4000000 in
theorem atomsI_any (x : Rm) (w : World) (hx : x.Ok 0 w) (hl : x.B.Q.length ≤ 8) : Calls Tryz.prog 50 #[.agg #[.int .i64 x.k, .string x.h.s, .slice x.h.A.a x.h.A.Q.length x.h.A.c, .slice x.B.a x.B.Q.length x.B.c]] w (ResA x w) := by
  have HT : Hid (∀ k T, k < x.B.Q.length → told kdHa T = hd x.h.l :: bodyAt ((told kdLm x.B.Q).take k) → ∀ y, y = x.B.Q.getD k lm0 → y.k ≠ 3 → told kdHa (T ++ [lite y.h]) = hd x.h.l :: bodyAt ((told kdLm x.B.Q).take (k + 1))) := fun k T hk h y hy h3 => by
    subst hy
    rw [body_step (l0 := lt0) _ (by rw [told_len]; exact hk), told_get, if_neg (show ¬ (kdLm.l (x.B.Q.getD k lm0)).1 = 3 from h3), told_app, h]; rfl
  have HN : Hid (∀ k T, k < x.B.Q.length → told kdHa T = hd x.h.l :: bodyAt ((told kdLm x.B.Q).take k) → ∀ y, y = x.B.Q.getD k lm0 → y.k = 3 → told kdHa T = hd x.h.l :: bodyAt ((told kdLm x.B.Q).take (k + 1))) := fun k T hk h y hy h3 => by
    subst hy
    rw [body_step (l0 := lt0) _ (by rw [told_len]; exact hk), told_get, if_pos (show (kdLm.l (x.B.Q.getD k lm0)).1 = 3 from h3), List.append_nil, h]
  have HE : Hid (∀ T, told kdHa T = hd x.h.l :: bodyAt ((told kdLm x.B.Q).take x.B.Q.length) → told kdHa T = atoms x.l) := fun T h => by
    rw [h, ← told_len (K := kdLm) x.B.Q, List.take_length]; rfl
  have HS : Hid (told kdHa [lite x.h] = hd x.h.l :: bodyAt ((told kdLm x.B.Q).take 0)) := by simp [told, bodyAt]; rfl
  unfold ResA
  obtain ⟨W1, hW1⟩ : ∃ W1, W1 = (w.alloc (.cells #[.int .i64 x.k, .string x.h.s, .slice x.h.A.a x.h.A.Q.length x.h.A.c, .slice x.B.a x.B.Q.length x.B.c] 55)).alloc (.cells #[.string x.h.s, .slice x.h.A.a x.h.A.Q.length x.h.A.c] 52) := ⟨_, rfl⟩
  have B : Below w.heap.size w W1 := by rw [hW1]; exact Rw.next (below_alloc1 _ _) (below_alloc1 _ _)
  have k0 : W1.heap[w.heap.size]? = some (.cells #[.int .i64 x.k, .string x.h.s, .slice x.h.A.a x.h.A.Q.length x.h.A.c, .slice x.B.a x.B.Q.length x.B.c] 55 (0, 0)) := by rw [hW1, at_old (by simp), at_new rfl]
  have k1 : W1.heap[w.heap.size + 1]? = some (.cells #[.string x.h.s, .slice x.h.A.a x.h.A.Q.length x.h.A.c] 52 (0, 0)) := by rw [hW1]; exact at_new (by simp)
  have o1 := OA.one (x := lite x.h) (B := w.heap.size) k1 (by omega) (lite_ok hx.1)
  have h1 := hx.2
  have HH : Hid (∀ i, i < x.B.Q.length → (lite (x.B.Q.getD i lm0).h).s.size ≤ maxLen ∧ (lite (x.B.Q.getD i lm0).h).l ≤ maxLen) := fun i hi => lite_ok (hx.2.ok i hi).1
  have p0 : W1.cell? ⟨w.heap.size, 3, none⟩ = some (.slice x.B.a x.B.Q.length x.B.c) := blk_cell k0 3 rfl
  obtain ⟨n, hn⟩ : ∃ n, n = x.B.Q.length := ⟨_, rfl⟩
  rw [← hn] at HT HN HE HH k0 p0 hW1 hl ⊢
  have HNQ : Hid (n = x.B.Q.length) := hn
  have HO : Hid (OA W1 w.heap.size (.slice (some ⟨w.heap.size + 1, 0, none⟩) 1 1) [lite x.h]) := o1
  clear hx hn k1 o1
  obtain ⟨xk, xh, xB⟩ := x
  obtain ⟨ba, bb, bo, bc, bQ⟩ := xB
  simp only at HT HN HE HH HNQ HO HS k0 p0 hW1 hl h1 ⊢
  go_enter Tryz.func50, Tryz.ntmps50
  go_wp2
  rw [← hW1]
  clear hW1 p0 k0
  go_loopw [3, 12] (fun o i wr => ∃ (k : Nat) (v : Value) (T : List HA), k ≤ n ∧ v = o ∧ i = .int .i64 k ∧ Below w.heap.size w wr ∧ OA wr w.heap.size v T ∧ told kdHa T = hd xh.l :: bodyAt ((told kdLm bQ).take k) ∧ T.length ≤ k + 1) (fun _ i _ => n - (intOf i).toNat)
  case atStart => exact ⟨0, _, _, Nat.zero_le _, rfl, rfl, B, HO.out, HS.out, by simp⟩
  case round =>
    obtain ⟨k, v, T, hk, rfl, rfl, hbel, hoT, htT, hlT⟩ := hrel
    have HOT : Hid (OA wr w.heap.size v T) := hoT
    have HTT : Hid (told kdHa T = hd xh.l :: bodyAt ((told kdLm bQ).take k)) := htT
    clear hoT htT HO HS
    have hws := hbel.size
    by_cases hlt : k < n
    · have hh := h1.head (by have := HNQ.out; simp only; omega)
      have hkz : (k : Int) < (n : Int) := by omega
      obtain ⟨c0, c1, c2, c3, c4, c5, c6, c7, c8, c9⟩ := cellsLm (h1.below hbel) (i := k) (by have := HNQ.out; simp only; omega)
      simp only at hh c0 c1 c2 c3 c4 c5 c6 c7 c8 c9
      obtain rfl := hh
      have HH1 := HH.out k hlt
      have HA1 : Hid (∀ y, y = bQ.getD k lm0 → y.k ≠ 3 → told kdHa (T ++ [lite y.h]) = hd xh.l :: bodyAt ((told kdLm bQ).take (k + 1))) := fun y hy h => HT.out k T hlt HTT.out y hy h
      have HB1 : Hid (∀ y, y = bQ.getD k lm0 → y.k = 3 → told kdHa T = hd xh.l :: bodyAt ((told kdLm bQ).take (k + 1))) := fun y hy h => HN.out k T hlt HTT.out y hy h
      clear h1 HT HN HE HH HNQ HTT
      obtain ⟨y, hy⟩ : ∃ y, y = bQ.getD k lm0 := ⟨_, rfl⟩
      rw [← hy] at c0 c1 c2 c3 c4 c5 c6 c7 c8 c9 HH1
      have HA2 := HA1.out y hy
      have HB2 := HB1.out y hy
      clear HA1 HB1 hy
      by_cases h3 : y.k = 3
      · have HX : Hid (told kdHa T = hd xh.l :: bodyAt ((told kdLm bQ).take (k + 1))) := HB2 h3
        clear HA2 HB2
        have b2 := below_alloc1 wr (.cells #[.int .i64 3, .string y.h.s, .slice y.h.A.a y.h.A.Q.length y.h.A.c, .int .i64 y.op, .string y.p.v, .int .i64 y.p.n, .string y.p.s, .string y.q.v, .int .i64 y.q.n, .string y.q.s] 96)
        have D := Rw.next hbel b2
        have o2 := HOT.out.below b2
        clear HOT
        go_wp2
        go_roundw
        case rel => exact ⟨k + 1, _, T, by omega, rfl, by go_num, D, o2, HX.out, by omega⟩
        case measure => simp [intOf]; omega
      · have HX : Hid (told kdHa (T ++ [lite y.h]) = hd xh.l :: bodyAt ((told kdLm bQ).take (k + 1))) := HA2 h3
        clear HA2 HB2
        have b2 := below_alloc1 wr (.cells #[.int .i64 y.k, .string y.h.s, .slice y.h.A.a y.h.A.Q.length y.h.A.c, .int .i64 y.op, .string y.p.v, .int .i64 y.p.n, .string y.p.s, .string y.q.v, .int .i64 y.q.n, .string y.q.s] 96)
        have D := Rw.next hbel b2
        have b3 := below_alloc1 (wr.alloc (.cells #[.int .i64 y.k, .string y.h.s, .slice y.h.A.a y.h.A.Q.length y.h.A.c, .int .i64 y.op, .string y.p.v, .int .i64 y.p.n, .string y.p.s, .string y.q.v, .int .i64 y.q.n, .string y.q.s] 96)) (.cells #[.string y.h.s, .slice y.h.A.a y.h.A.Q.length y.h.A.c] 52)
        have D3 := Rw.next D b3
        have o2 := (HOT.out.below b2).below b3
        clear HOT
        go_wp2_with (at_builtin; refine wpList_appA rfl _ _ rfl rfl w.heap.size _ 1 _ T (lite y.h) rfl rfl o2 (by simp; omega) (at_new (by simp)) (by omega) HH1 ?_; intro v3 w3 o3 hg3; have D4 := D3.grown hg3 D3.size (fun j hj => (o2.lt hj).1))
        go_roundw
        case rel => exact ⟨k + 1, _, _, by omega, rfl, by go_num, D4, o3, HX.out, by simp; omega⟩
        case measure => simp [intOf]; omega
    · have he : k = n := by omega
      subst he
      clear h1
      have HX : Hid (told kdHa T = atoms _) := HE.out T HTT.out
      obtain ⟨s, rfl, rfl, hrs, _⟩ := HOT.out.form (by omega)
      go_wp2
      go_ret
      exact ⟨hbel, s, rfl, hrs, HX.out, by omega⟩

set_option maxHeartbeats 4000000 in
theorem atomsS_any (x : Rm) (w : World) (hx : x.Ok 0 w) (hl : x.B.Q.length ≤ 8) : Calls Tryz.prog 40 #[.agg #[.int .i64 x.k, .string x.h.s, .slice x.h.A.a x.h.A.Q.length x.h.A.c, .slice x.B.a x.B.Q.length x.B.c]] w (ResA x w) := by
  have HT : Hid (∀ k T, k < x.B.Q.length → told kdHa T = hd x.h.l :: bodyAt ((told kdLm x.B.Q).take k) → ∀ y, y = x.B.Q.getD k lm0 → y.k ≠ 3 → told kdHa (T ++ [lite y.h]) = hd x.h.l :: bodyAt ((told kdLm x.B.Q).take (k + 1))) := fun k T hk h y hy h3 => by
    subst hy
    rw [body_step (l0 := lt0) _ (by rw [told_len]; exact hk), told_get, if_neg (show ¬ (kdLm.l (x.B.Q.getD k lm0)).1 = 3 from h3), told_app, h]; rfl
  have HN : Hid (∀ k T, k < x.B.Q.length → told kdHa T = hd x.h.l :: bodyAt ((told kdLm x.B.Q).take k) → ∀ y, y = x.B.Q.getD k lm0 → y.k = 3 → told kdHa T = hd x.h.l :: bodyAt ((told kdLm x.B.Q).take (k + 1))) := fun k T hk h y hy h3 => by
    subst hy
    rw [body_step (l0 := lt0) _ (by rw [told_len]; exact hk), told_get, if_pos (show (kdLm.l (x.B.Q.getD k lm0)).1 = 3 from h3), List.append_nil, h]
  have HE : Hid (∀ T, told kdHa T = hd x.h.l :: bodyAt ((told kdLm x.B.Q).take x.B.Q.length) → told kdHa T = atoms x.l) := fun T h => by
    rw [h, ← told_len (K := kdLm) x.B.Q, List.take_length]; rfl
  have HS : Hid (told kdHa [lite x.h] = hd x.h.l :: bodyAt ((told kdLm x.B.Q).take 0)) := by simp [told, bodyAt]; rfl
  unfold ResA
  obtain ⟨W1, hW1⟩ : ∃ W1, W1 = (w.alloc (.cells #[.int .i64 x.k, .string x.h.s, .slice x.h.A.a x.h.A.Q.length x.h.A.c, .slice x.B.a x.B.Q.length x.B.c] 55)).alloc (.cells #[.string x.h.s, .slice x.h.A.a x.h.A.Q.length x.h.A.c] 52) := ⟨_, rfl⟩
  have B : Below w.heap.size w W1 := by rw [hW1]; exact Rw.next (below_alloc1 _ _) (below_alloc1 _ _)
  have k0 : W1.heap[w.heap.size]? = some (.cells #[.int .i64 x.k, .string x.h.s, .slice x.h.A.a x.h.A.Q.length x.h.A.c, .slice x.B.a x.B.Q.length x.B.c] 55 (0, 0)) := by rw [hW1, at_old (by simp), at_new rfl]
  have k1 : W1.heap[w.heap.size + 1]? = some (.cells #[.string x.h.s, .slice x.h.A.a x.h.A.Q.length x.h.A.c] 52 (0, 0)) := by rw [hW1]; exact at_new (by simp)
  have o1 := OA.one (x := lite x.h) (B := w.heap.size + 1) k1 (by omega) (lite_ok hx.1)
  have h1 := hx.2
  have HH : Hid (∀ i, i < x.B.Q.length → (lite (x.B.Q.getD i lm0).h).s.size ≤ maxLen ∧ (lite (x.B.Q.getD i lm0).h).l ≤ maxLen) := fun i hi => lite_ok (hx.2.ok i hi).1
  have p0 : W1.cell? ⟨w.heap.size, 3, none⟩ = some (.slice x.B.a x.B.Q.length x.B.c) := blk_cell k0 3 rfl
  obtain ⟨n, hn⟩ : ∃ n, n = x.B.Q.length := ⟨_, rfl⟩
  rw [← hn] at HT HN HE HH k0 p0 hW1 hl ⊢
  have HNQ : Hid (n = x.B.Q.length) := hn
  have HO : Hid (OA W1 (w.heap.size + 1) (.slice (some ⟨w.heap.size + 1, 0, none⟩) 1 1) [lite x.h]) := o1
  clear hx hn k1 o1
  obtain ⟨xk, xh, xB⟩ := x
  obtain ⟨ba, bb, bo, bc, bQ⟩ := xB
  simp only at HT HN HE HH HNQ HO HS k0 p0 hW1 hl h1 ⊢
  go_enter Tryz.func40, Tryz.ntmps40
  go_wp2
  rw [← hW1]
  clear hW1 p0
  go_loopw [3, 11] (fun o i wr => ∃ (k : Nat) (v : Value) (T : List HA), k ≤ n ∧ v = o ∧ i = .int .i64 k ∧ Below w.heap.size w wr ∧ wr.heap[w.heap.size]? = some (.cells #[.int .i64 xk, .string xh.s, .slice xh.A.a xh.A.Q.length xh.A.c, .slice ba n bc] 55 (0, 0)) ∧ OA wr (w.heap.size + 1) v T ∧ told kdHa T = hd xh.l :: bodyAt ((told kdLm bQ).take k) ∧ T.length ≤ k + 1) (fun _ i _ => n - (intOf i).toNat)
  case atStart => exact ⟨0, _, _, Nat.zero_le _, rfl, rfl, B, k0, HO.out, HS.out, by simp⟩
  case round =>
    obtain ⟨k, v, T, hk, rfl, rfl, hbel, kb, hoT, htT, hlT⟩ := hrel
    have HOT : Hid (OA wr (w.heap.size + 1) v T) := hoT
    have HTT : Hid (told kdHa T = hd xh.l :: bodyAt ((told kdLm bQ).take k)) := htT
    clear hoT htT HO HS k0
    have p0 : wr.cell? ⟨w.heap.size, 3, none⟩ = some (.slice ba n bc) := blk_cell kb 3 rfl
    have lb := Pl.blk_lt kb
    have hws := hbel.size
    by_cases hlt : k < n
    · have hh := h1.head (by have := HNQ.out; simp only; omega)
      have hkz : (k : Int) < (n : Int) := by omega
      obtain ⟨c0, c1, c2, c3, c4, c5, c6, c7, c8, c9⟩ := cellsLm (h1.below hbel) (i := k) (by have := HNQ.out; simp only; omega)
      simp only at hh c0 c1 c2 c3 c4 c5 c6 c7 c8 c9
      obtain rfl := hh
      have HH1 := HH.out k hlt
      have HA1 : Hid (∀ y, y = bQ.getD k lm0 → y.k ≠ 3 → told kdHa (T ++ [lite y.h]) = hd xh.l :: bodyAt ((told kdLm bQ).take (k + 1))) := fun y hy h => HT.out k T hlt HTT.out y hy h
      have HB1 : Hid (∀ y, y = bQ.getD k lm0 → y.k = 3 → told kdHa T = hd xh.l :: bodyAt ((told kdLm bQ).take (k + 1))) := fun y hy h => HN.out k T hlt HTT.out y hy h
      clear h1 HT HN HE HH HNQ HTT
      obtain ⟨y, hy⟩ : ∃ y, y = bQ.getD k lm0 := ⟨_, rfl⟩
      rw [← hy] at c0 c1 c2 c3 c4 c5 c6 c7 c8 c9 HH1
      have HA2 := HA1.out y hy
      have HB2 := HB1.out y hy
      clear HA1 HB1 hy
      by_cases h3 : y.k = 3
      · have HX : Hid (told kdHa T = hd xh.l :: bodyAt ((told kdLm bQ).take (k + 1))) := HB2 h3
        clear HA2 HB2
        go_wp2
        go_roundw
        case rel => exact ⟨k + 1, _, T, by omega, rfl, by go_num, hbel, kb, HOT.out, HX.out, by omega⟩
        case measure => simp [intOf]; omega
      · have HX : Hid (told kdHa (T ++ [lite y.h]) = hd xh.l :: bodyAt ((told kdLm bQ).take (k + 1))) := HA2 h3
        clear HA2 HB2
        have b3 := below_alloc1 wr (.cells #[.string y.h.s, .slice y.h.A.a y.h.A.Q.length y.h.A.c] 52)
        have D3 := Rw.next hbel b3
        have o2 := HOT.out.below b3
        have kb3 := (b3.block _ lb).trans kb
        clear HOT
        go_wp2_with (at_builtin; refine wpList_appA rfl _ _ rfl rfl (w.heap.size + 1) _ 1 _ T (lite y.h) rfl rfl o2 (by simp; omega) (at_new (by simp)) (by omega) HH1 ?_; intro v3 w3 o3 hg3; have D4 := D3.grown hg3 D3.size (fun j hj => by have := (o2.lt hj).1; omega); have kb4 := (hg3.block _ (Pl.blk_lt kb3) (fun e => by have := (o2.lt e.symm).1; omega)).trans kb3)
        go_roundw
        case rel => exact ⟨k + 1, _, _, by omega, rfl, by go_num, D4, kb4, o3, HX.out, by simp; omega⟩
        case measure => simp [intOf]; omega
    · have he : k = n := by omega
      subst he
      clear h1
      have HX : Hid (told kdHa T = atoms _) := HE.out T HTT.out
      obtain ⟨s, rfl, rfl, hrs, _⟩ := HOT.out.form (by omega)
      go_wp2
      go_ret
      exact ⟨hbel, s, rfl, hrs, HX.out, by omega⟩

end Go.Proofs.YtljlgjgfmgilaaaGreat.Nq

namespace Go.Proofs.YtljlgjgfmgilaaaGreat.Nq
set_option maxRecDepth 8000
set_option linter.unusedSimpArgs false
set_option linter.unusedVariables false
open Go Go.ChangeShapes Go.WideShapes Go.RowKit
open Num Pl Pm

theorem lit_t {s : ByteArray} {l : List UInt8} (h : s = ⟨l.toArray⟩) : (s.toList == l) = true := by rw [h, Go.Lib.toList_data]; simp
theorem lit_f {s : ByteArray} {l : List UInt8} (h : s ≠ ⟨l.toArray⟩) : (s.toList == l) = false := by
  cases e : (s.toList == l) with
  | false => rfl
  | true =>
    refine absurd (toList_inj ?_) h
    rw [Go.Lib.toList_data (⟨l.toArray⟩ : ByteArray)]
    simpa using e
theorem pk_t {s : ByteArray} (h : s = pk) : (s.toList == [112, 97, 99, 107, 101, 116]) = true := lit_t h
theorem pk_f {s : ByteArray} (h : ¬ s = pk) : (s.toList == [112, 97, 99, 107, 101, 116]) = false := lit_f h
theorem fw_t {s : ByteArray} (h : s = fw) : (s.toList == [102, 111, 114, 119, 97, 114, 100]) = true := lit_t h
theorem fw_f {s : ByteArray} (h : ¬ s = fw) : (s.toList == [102, 111, 114, 119, 97, 114, 100]) = false := lit_f h
theorem ret_int {a b : Int} (h : a = b) : Ending.returned (.int .i64 a) = .returned (.int .i64 b) := by rw [h]

set_option maxHeartbeats 4000000 in
theorem arityS_any (x : Pg) (s : ByteArray) (w : World) (hx : Rd kdDc 0 w x.D) : Calls Tryz.prog 41 #[.agg #[.slice x.D.a x.D.Q.length x.D.c, .slice x.R.a x.R.Q.length x.R.c], .string s] w fun e w' => e = .returned (.int .i64 (arOf x.D.Q s)) ∧ Below w.heap.size w w' := by
  obtain ⟨W1, hW1⟩ : ∃ W1, W1 = w.alloc (.cells #[.slice x.D.a x.D.Q.length x.D.c, .slice x.R.a x.R.Q.length x.R.c] 32) := ⟨_, rfl⟩
  have B : Below w.heap.size w W1 := by rw [hW1]; exact below_alloc1 _ _
  have hD := declS_any x s W1 (hx.below B)
  have HA : Hid (arOf x.D.Q s = if s = pk then 4 else if s = fw then 1 else if (dOf x.D.Q s).k = 0 then -1 else (dOf x.D.Q s).ar) := rfl
  generalize arOf x.D.Q s = A at HA ⊢
  generalize dOf x.D.Q s = V at hD HA
  clear hx
  by_cases h1 : s = pk
  · have HR : Hid ((4 : Int) = A) := by rw [Hid, HA.out, if_pos h1]
    have e1 := pk_t h1
    clear h1 HA
    go_enter Tryz.func41, Tryz.ntmps41
    go_wp2
    go_ret
    exact ⟨ret_int HR.out, by rw [hW1] at B; exact B⟩
  by_cases h2 : s = fw
  · have HR : Hid ((1 : Int) = A) := by rw [Hid, HA.out, if_neg h1, if_pos h2]
    have e1 := pk_f h1
    have e2 := fw_t h2
    clear h1 h2 HA
    go_enter Tryz.func41, Tryz.ntmps41
    go_wp2
    go_ret
    exact ⟨ret_int HR.out, by rw [hW1] at B; exact B⟩
  have e1 := pk_f h1
  have e2 := fw_f h2
  have HV : Hid (A = if V.k = 0 then -1 else V.ar) := by rw [Hid, HA.out, if_neg h1, if_neg h2]
  clear h1 h2 HA
  by_cases hv : V.k = 0
  · have HR : Hid ((-1 : Int) = A) := by rw [Hid, HV.out, if_pos hv]
    clear HV
    go_enter Tryz.func41, Tryz.ntmps41
    go_wp2_with (go_at_call 42; rw [← hW1]; clear hW1; refine hD.mono ?_; rintro e w1 ⟨⟨d, hd, rfl⟩, hb⟩; replace hv : d.k = 0 := hd ▸ hv; clear hd; replace B := Rw.next B hb)
    go_ret
    exact ⟨ret_int HR.out, Rw.next B (below_alloc1 _ _)⟩
  · have HR : Hid (V.ar = A) := by rw [Hid, HV.out, if_neg hv]
    clear HV
    go_enter Tryz.func41, Tryz.ntmps41
    go_wp2_with (go_at_call 42; rw [← hW1]; clear hW1; refine hD.mono ?_; rintro e w1 ⟨⟨d, hd, rfl⟩, hb⟩; replace hv : ¬ d.k = 0 := hd ▸ hv; have HDV : Hid (d = V) := hd; clear hd; replace B := Rw.next B hb)
    go_ret
    exact ⟨ret_int (by rw [HDV.out]; exact HR.out), Rw.next B (below_alloc1 _ _)⟩

set_option maxHeartbeats 4000000 in
theorem movingS_any (x : Pg) (s : ByteArray) (w : World) (hx : Rd kdDc 0 w x.D) : Calls Tryz.prog 43 #[.agg #[.slice x.D.a x.D.Q.length x.D.c, .slice x.R.a x.R.Q.length x.R.c], .string s] w fun e w' => e = .returned (.bool (movB x.D.Q s)) ∧ Below w.heap.size w w' := by
  obtain ⟨W1, hW1⟩ : ∃ W1, W1 = w.alloc (.cells #[.slice x.D.a x.D.Q.length x.D.c, .slice x.R.a x.R.Q.length x.R.c] 32) := ⟨_, rfl⟩
  have B : Below w.heap.size w W1 := by rw [hW1]; exact below_alloc1 _ _
  have hD := declS_any x s W1 (hx.below B)
  have HA : Hid (movB x.D.Q s = (decide (s = pk) || decide ((dOf x.D.Q s).k = 2))) := rfl
  generalize movB x.D.Q s = A at HA ⊢
  generalize dOf x.D.Q s = V at hD HA
  clear hx
  have hf := field_k
  by_cases h1 : s = pk
  · obtain rfl : A = true := by rw [HA.out, show decide (s = pk) = true from decide_eq_true h1]; rfl
    have e1 := pk_t h1
    clear h1 HA
    go_enter Tryz.func43, Tryz.ntmps43
    go_wp2
    go_ret
    exact ⟨rfl, by rw [hW1] at B; exact B⟩
  have e1 := pk_f h1
  have HV : Hid (A = decide (V.k = 2)) := by rw [Hid, HA.out, show decide (s = pk) = false from decide_eq_false h1]; rfl
  clear h1 HA
  by_cases hv : V.k = 2
  · obtain rfl : A = true := by rw [HV.out]; simpa using hv
    clear HV
    go_enter Tryz.func43, Tryz.ntmps43
    go_wp2_with (go_at_call 42; rw [← hW1]; clear hW1; refine hD.mono ?_; rintro e w1 ⟨⟨d, hd, rfl⟩, hb⟩; replace hv : d.k = 2 := hd ▸ hv; clear hd; replace B := Rw.next B hb)
    go_ret
    exact ⟨rfl, B⟩
  · obtain rfl : A = false := by rw [HV.out]; simpa using hv
    clear HV
    go_enter Tryz.func43, Tryz.ntmps43
    go_wp2_with (go_at_call 42; rw [← hW1]; clear hW1; refine hD.mono ?_; rintro e w1 ⟨⟨d, hd, rfl⟩, hb⟩; replace hv : ¬ d.k = 2 := hd ▸ hv; clear hd; replace B := Rw.next B hb)
    go_ret
    exact ⟨Pm.ret_bool (by simpa using hv), B⟩

end Go.Proofs.YtljlgjgfmgilaaaGreat.Nq

namespace Go.Proofs.YtljlgjgfmgilaaaGreat.Nq
set_option maxRecDepth 8000
set_option linter.unusedSimpArgs false
set_option linter.unusedVariables false
open Go Go.ChangeShapes Go.WideShapes Go.RowKit
open Num Pl Pm

theorem any_at {α : Type} {l : List α} {f : α → Bool} {i : Nat} {d : α} (hi : i < l.length) (h : f (l.getD i d) = true) : l.any f = true := by
  have e : l.getD i d = l[i] := by simp [List.getD, hi]
  rw [e] at h
  exact List.any_eq_true.2 ⟨_, List.getElem_mem hi, h⟩
theorem any_no {α : Type} {l : List α} {f : α → Bool} (d : α) (h : ∀ i, i < l.length → f (l.getD i d) = false) : l.any f = false := by
  cases e : l.any f with
  | false => rfl
  | true =>
    obtain ⟨x, hx, hf⟩ := List.any_eq_true.1 e
    obtain ⟨i, hi, rfl⟩ := List.getElem_of_mem hx
    have := h i hi
    have e2 : l.getD i d = l[i] := by simp [List.getD, hi]
    rw [e2, hf] at this; cases this
def an3 (D : List Dc) (T : List HdL) : Bool := T.any (fun a => decide (arOf D a.1 < 0))
def an4 (D : List Dc) (T : List HdL) : Bool := T.any (fun a => decide (arOf D a.1 ≠ (a.2 : Int)))
def an6 (T : List HdL) : Bool := T.any (fun a => decide (a.1 = fw))
theorem codeR_eq (D : List Dc) (r : RuL) : codeR D r = if an3 D (atoms r) then 3 else if an4 D (atoms r) then 4 else if headBad D r then 5 else if an6 (atoms r).tail then 6 else if newsBad D r then 7 else 0 := rfl
def hd0 : HdL := kdHa.l ha0
/-- From the f-th literal on no news. -/
def from_ (r : RuL) : Nat := if movesR r then 1 else 0
theorem news_hit {D : List Dc} {r : RuL} {i : Nat} (hf : from_ r ≤ i) (hi : i < r.2.2.length) (h : newsB D (r.2.2.getD i lt0) = true) : newsBad D r = true := by
  unfold newsBad
  unfold from_ at hf
  by_cases hm : movesR r = true
  · rw [if_pos hm] at hf ⊢
    have : (r.2.2.drop 1).any (newsB D) = true := by
      refine any_at (i := i - 1) (d := lt0) (by simp; omega) ?_
      have e : (r.2.2.drop 1).getD (i - 1) lt0 = r.2.2.getD i lt0 := by
        simp only [List.getD, List.getElem?_drop]
        rw [show 1 + (i - 1) = i by omega]
      rw [e]; exact h
    rw [this]; simp
  · rw [if_neg hm] at hf ⊢
    exact any_at hi h
theorem news_ok {D : List Dc} {r : RuL} (hf : movesR r = true → firstBad D r = false) (h : ∀ i, from_ r ≤ i → i < r.2.2.length → newsB D (r.2.2.getD i lt0) = false) : newsBad D r = false := by
  unfold newsBad
  unfold from_ at h
  by_cases hm : movesR r = true
  · rw [if_pos hm] at h ⊢
    rw [hf hm]
    refine any_no lt0 fun i hi => ?_
    have := h (i + 1) (by omega) (by simp at hi; omega)
    have e : (r.2.2.drop 1).getD i lt0 = r.2.2.getD (i + 1) lt0 := by
      simp only [List.getD, List.getElem?_drop]
      rw [show 1 + i = i + 1 by omega]
    rw [e]; exact this
  · rw [if_neg hm] at h ⊢
    exact any_no lt0 fun i hi => h i (Nat.zero_le _) hi
theorem first_bad {D : List Dc} {r : RuL} (hm : movesR r = true) (h : firstBad D r = true) : newsBad D r = true := by
  unfold newsBad; rw [if_pos hm, h]; rfl
theorem tail_get (T : List HdL) (i : Nat) (d : HdL) : T.tail.getD i d = T.getD (i + 1) d := by
  cases T with
  | nil => simp [List.getD]
  | cons a T => simp [List.getD]
theorem first_eq (D : List Dc) (r : RuL) : firstBad D r = if r.2.2.length = 0 then true else (decide ((r.2.2.getD 0 lt0).1 ≠ 1) || !movB D (r.2.2.getD 0 lt0).2.1.1 || decide (r.1 = 1 ∧ (r.2.2.getD 0 lt0).2.1.1 ≠ pk)) := by
  unfold firstBad
  cases r.2.2 with
  | nil => rfl
  | cons l B => simp [List.getD]
theorem ret_nat {a b : Nat} (h : a = b) : Ending.returned (.int .i64 (a : Int)) = .returned (.int .i64 (b : Int)) := by rw [h]

theorem four {w : World} {g : Nat} {a b c d : Value} {t : TypeId} {fr : Nat × Nat} (h : w.heap[g]? = some (.cells #[a, b, c, d] t fr)) : w.cell? ⟨g, 0, none⟩ = some a ∧ w.cell? ⟨g, 1, none⟩ = some b ∧ w.cell? ⟨g, 2, none⟩ = some c ∧ w.cell? ⟨g, 3, none⟩ = some d := by simp [World.cell?, h]

end Go.Proofs.YtljlgjgfmgilaaaGreat.Nq

namespace Go.Proofs.YtljlgjgfmgilaaaGreat.Nq
set_option maxRecDepth 8000
set_option linter.unusedSimpArgs false
set_option linter.unusedVariables false
open Go Go.ChangeShapes Go.WideShapes Go.RowKit
open Num Pl Pm
open Nb (Mem)

theorem beq_dec (a b : Int) : (a == b) = decide (a = b) := by by_cases h : a = b <;> simp [h]
theorem bne_dec (a b : Int) : (a != b) = decide (¬ a = b) := by by_cases h : a = b <;> simp [h]
theorem lacks_any (x : HA) (b : Nat) (L : List Nv) (w : World) (hx : x.s.size ≤ maxLen ∧ x.l ≤ maxLen) (hm : Mem w b L) : Calls Tryz.prog 52 #[.map (some b), .agg #[.string x.s, .slice x.a x.l x.c]] w fun e w' => e = .returned (.bool (lacksB L (x.s, x.l))) ∧ Below w.heap.size w w' := by
  have B := below_alloc1 w (.cells #[.string x.s, .slice x.a x.l x.c] 52)
  obtain ⟨q1, q2⟩ := (hm.below B).run (s := x.s) (by exact hx.1)
  have hf := field_k
  have hg := field_ar
  have HA : Hid ((!(lkp L x.s).isSome) = lacksB L (x.s, x.l)) := by rw [Hid]; unfold lacksB; cases lkp L x.s <;> rfl
  generalize lacksB L (x.s, x.l) = A at HA ⊢
  generalize lk L x.s = d at q1 q2
  generalize (lkp L x.s).isSome = s at q2 HA
  clear hm q1 hx
  go_enter Tryz.func52, Tryz.ntmps52
  go_wp2
  go_ret
  exact ⟨Pm.ret_bool (by simpa using HA.out), Rw.next B (below_alloc1 _ _)⟩
theorem other_any (x : HA) (b : Nat) (L : List Nv) (w : World) (hx : x.s.size ≤ maxLen ∧ x.l ≤ maxLen) (hm : Mem w b L) : Calls Tryz.prog 53 #[.map (some b), .agg #[.string x.s, .slice x.a x.l x.c]] w fun e w' => e = .returned (.bool (otherB L (x.s, x.l))) ∧ Below w.heap.size w w' := by
  have B := below_alloc1 w (.cells #[.string x.s, .slice x.a x.l x.c] 52)
  obtain ⟨q1, q2⟩ := (hm.below B).run (s := x.s) (by exact hx.1)
  have hf := field_k
  have hg := field_ar
  have HA : Hid (decide (¬ (x.l : Int) = (lk L x.s).ar) = otherB L (x.s, x.l)) := rfl
  generalize otherB L (x.s, x.l) = A at HA ⊢
  generalize lk L x.s = d at q1 q2 HA
  clear hm q2 hx
  go_enter Tryz.func53, Tryz.ntmps53
  go_wp2
  go_ret
  exact ⟨Pm.ret_bool (by rw [← HA.out, bne_dec]), B⟩
theorem kind_any (x : Lm) (b : Nat) (L : List Nv) (w : World) (hx : x.h.s.size ≤ maxLen) (hm : Mem w b L) : Calls Tryz.prog 90 #[.map (some b), .agg #[.int .i64 x.k, .string x.h.s, .slice x.h.A.a x.h.A.Q.length x.h.A.c, .int .i64 x.op, .string x.p.v, .int .i64 x.p.n, .string x.p.s, .string x.q.v, .int .i64 x.q.n, .string x.q.s]] w fun e w' => e = .returned (.int .i64 (lk L x.h.s).k) ∧ Below w.heap.size w w' := by
  have B := below_alloc1 w (.cells #[.int .i64 x.k, .string x.h.s, .slice x.h.A.a x.h.A.Q.length x.h.A.c, .int .i64 x.op, .string x.p.v, .int .i64 x.p.n, .string x.p.s, .string x.q.v, .int .i64 x.q.n, .string x.q.s] 96)
  obtain ⟨q1, q2⟩ := (hm.below B).run (s := x.h.s) (by exact hx)
  have hf := field_k
  have hg := field_ar
  generalize lk L x.h.s = d at q1 q2 ⊢
  clear hm q2 hx
  go_enter Tryz.func90, Tryz.ntmps90
  go_wp2
  go_ret
  exact ⟨rfl, B⟩
theorem fwd_any (x : Lm) (b : Nat) (L : List Nv) (w : World) (hx : x.h.s.size ≤ maxLen) (hm : Mem w b L) : Calls Tryz.prog 56 #[.map (some b), .agg #[.int .i64 x.k, .string x.h.s, .slice x.h.A.a x.h.A.Q.length x.h.A.c, .int .i64 x.op, .string x.p.v, .int .i64 x.p.n, .string x.p.s, .string x.q.v, .int .i64 x.q.n, .string x.q.s]] w fun e w' => e = .returned (.bool (fwdB L x.l)) ∧ Below w.heap.size w w' := by
  have B := below_alloc1 w (.cells #[.int .i64 x.k, .string x.h.s, .slice x.h.A.a x.h.A.Q.length x.h.A.c, .int .i64 x.op, .string x.p.v, .int .i64 x.p.n, .string x.p.s, .string x.q.v, .int .i64 x.q.n, .string x.q.s] 96)
  have hK := kind_any x b L _ hx (hm.below B)
  have HA : Hid (decide ((lk L x.h.s).k = 5) = fwdB L x.l) := rfl
  generalize fwdB L x.l = A at HA ⊢
  generalize (lk L x.h.s).k = k at hK HA
  go_enter Tryz.func56, Tryz.ntmps56
  go_wp2_with (go_at_call 90; refine hK.mono ?_; rintro e w1 ⟨rfl, hb⟩)
  go_ret
  exact ⟨Pm.ret_bool (by rw [← HA.out, beq_dec]), Rw.next B hb⟩
theorem news_any (x : Lm) (b : Nat) (L : List Nv) (w : World) (hx : x.h.s.size ≤ maxLen) (hm : Mem w b L) : Calls Tryz.prog 92 #[.map (some b), .agg #[.int .i64 x.k, .string x.h.s, .slice x.h.A.a x.h.A.Q.length x.h.A.c, .int .i64 x.op, .string x.p.v, .int .i64 x.p.n, .string x.p.s, .string x.q.v, .int .i64 x.q.n, .string x.q.s]] w fun e w' => e = .returned (.bool (nwsB L x.l)) ∧ Below w.heap.size w w' := by
  have B := below_alloc1 w (.cells #[.int .i64 x.k, .string x.h.s, .slice x.h.A.a x.h.A.Q.length x.h.A.c, .int .i64 x.op, .string x.p.v, .int .i64 x.p.n, .string x.p.s, .string x.q.v, .int .i64 x.q.n, .string x.q.s] 96)
  have hK := kind_any x b L _ hx (hm.below B)
  have HA : Hid (nwsB L x.l = decide ((lk L x.h.s).k = 4 ∨ (lk L x.h.s).k = 2)) := rfl
  generalize nwsB L x.l = A at HA ⊢
  generalize (lk L x.h.s).k = k at hK HA
  by_cases h4 : k = 4
  · obtain rfl : A = true := by rw [HA.out]; simp [h4]
    clear HA
    go_enter Tryz.func92, Tryz.ntmps92
    go_wp2_with (go_at_call 90; refine hK.mono ?_; rintro e w1 ⟨rfl, hb⟩)
    go_ret
    exact ⟨rfl, Rw.next B hb⟩
  · by_cases h2 : k = 2
    · obtain rfl : A = true := by rw [HA.out]; simp [h2]
      clear HA
      go_enter Tryz.func92, Tryz.ntmps92
      go_wp2_with (go_at_call 90; refine hK.mono ?_; rintro e w1 ⟨rfl, hb⟩)
      go_ret
      exact ⟨rfl, Rw.next B hb⟩
    · obtain rfl : A = false := by rw [HA.out]; simp [h2, h4]
      clear HA
      go_enter Tryz.func92, Tryz.ntmps92
      go_wp2_with (go_at_call 90; refine hK.mono ?_; rintro e w1 ⟨rfl, hb⟩)
      go_ret
      exact ⟨Pm.ret_bool (by simp [h2, h4]), Rw.next B hb⟩
theorem fits_any (r : Rm) (b : Nat) (L : List Nv) (w : World) (hx : r.h.s.size ≤ maxLen) (hm : Mem w b L) : Calls Tryz.prog 54 #[.map (some b), .agg #[.int .i64 r.k, .string r.h.s, .slice r.h.A.a r.h.A.Q.length r.h.A.c, .slice r.B.a r.B.Q.length r.B.c]] w fun e w' => e = .returned (.bool (fitsB L r.l)) ∧ Below w.heap.size w w' := by
  have B := below_alloc1 w (.cells #[.int .i64 r.k, .string r.h.s, .slice r.h.A.a r.h.A.Q.length r.h.A.c, .slice r.B.a r.B.Q.length r.B.c] 55)
  obtain ⟨q1, q2⟩ := (hm.below B).run (s := r.h.s) hx
  have hf := field_k
  have HA : Hid (fitsB L r.l = if r.k = 1 then decide ((lk L r.h.s).k = 3 ∨ (lk L r.h.s).k = 5) else decide ((lk L r.h.s).k = 1)) := rfl
  generalize fitsB L r.l = A at HA ⊢
  generalize lk L r.h.s = d at q1 q2 HA
  clear hm q2 hx
  obtain ⟨dk, ds, da⟩ := d
  obtain ⟨rk, rh, rB⟩ := r
  simp only at q1 HA B ⊢
  by_cases h1 : rk = 1
  · subst h1
    by_cases h3 : dk = 3
    · obtain rfl : A = true := by rw [HA.out]; simp [h3]
      clear HA
      subst h3
      go_enter Tryz.func54, Tryz.ntmps54
      go_wp2
      go_ret
      exact ⟨rfl, B⟩
    · have HR : Hid (A = decide (dk = 5)) := by rw [Hid, HA.out]; simp [h3]
      clear HA
      go_enter Tryz.func54, Tryz.ntmps54
      go_wp2
      go_ret
      exact ⟨Pm.ret_bool (by rw [HR.out]; simp [h3, beq_dec]), B⟩
  · have HR : Hid (A = decide (dk = 1)) := by rw [Hid, HA.out]; simp [h1]
    clear HA
    go_enter Tryz.func54, Tryz.ntmps54
    go_wp2
    go_ret
    exact ⟨Pm.ret_bool (by rw [HR.out, beq_dec]), B⟩

set_option maxHeartbeats 4000000 in
theorem index_lacks (s : Sl HA) (b : Nat) (L : List Nv) (w : World) (h : Rd kdHa 0 w s) (hm : Mem w b L) :
    Calls Tryz.prog 88 #[.slice s.a s.Q.length s.c, .func (.func 52) #[.map (some b)] #[]] w fun e w' => Below w.heap.size w w' ∧ ∃ r : Int, e = .returned (.int .i64 r) ∧ decide (0 ≤ r) = (told kdHa s.Q).any (lacksB L) := by
  have HB : Hid (∀ k, k < s.Q.length → lacksB L (kdHa.l (s.Q.getD k ha0)) = true → (told kdHa s.Q).any (lacksB L) = true) := fun k hk h => any_at (i := k) (d := kdHa.l ha0) (by rw [told_len]; exact hk) (by rw [show (told kdHa s.Q).getD k (kdHa.l ha0) = kdHa.l (s.Q.getD k ha0) from told_at (K := kdHa) _ _]; exact h)
  have HG : Hid ((∀ i, i < s.Q.length → lacksB L (kdHa.l (s.Q.getD i ha0)) = false) → (told kdHa s.Q).any (lacksB L) = false) := fun h => any_no (kdHa.l ha0) fun i hi => by
    rw [show (told kdHa s.Q).getD i (kdHa.l ha0) = kdHa.l (s.Q.getD i ha0) from told_at (K := kdHa) _ _]
    exact h i (by rw [told_len] at hi; exact hi)
  generalize (told kdHa s.Q).any (lacksB L) = R at HB HG ⊢
  have HF : Hid (∀ i, i < s.Q.length → ∀ x, x = s.Q.getD i ha0 → ∀ W, Below w.heap.size w W → Calls Tryz.prog 52 #[.map (some b), .agg #[.string x.s, .slice x.a x.l x.c]] W fun e w' => e = .returned (.bool (lacksB L (kdHa.l x))) ∧ Below W.heap.size W w') := fun i hi x hx W hb => by
    have ho := h.ok i hi
    rw [hx]; exact lacks_any _ b L W ho (hm.below hb)
  obtain ⟨sa, sb, so, sc, sQ⟩ := s
  simp only at HB HG HF ⊢
  obtain ⟨n, hn⟩ : ∃ n, n = sQ.length := ⟨_, rfl⟩
  have hmx : n ≤ maxLen := by rw [hn]; exact h.len
  unfold maxLen at hmx
  rw [← hn] at HB HG HF ⊢
  have HN : Hid (n = sQ.length) := hn
  clear hn hm
  go_enter Tryz.func88, Tryz.ntmps88
  go_wp2
  go_loopw [8] (fun i wr => ∃ k : Nat, k ≤ n ∧ i = .int .i64 k ∧ Below w.heap.size w wr ∧ ∀ i, i < k → lacksB L (kdHa.l (sQ.getD i ha0)) = false) (fun i _ => n - (intOf i).toNat)
  case atStart => exact ⟨0, Nat.zero_le _, rfl, Below.refl _ _, fun i hi => by omega⟩
  case round =>
    obtain ⟨k, hk, rfl, hbel, hpre⟩ := hrel
    have HP : Hid (∀ i, i < k → lacksB L (kdHa.l (sQ.getD i ha0)) = false) := hpre
    clear hpre
    by_cases hlt : k < n
    · have hh := h.head (by have := HN.out; simp only; omega)
      have hkz : (k : Int) < (n : Int) := by omega
      obtain ⟨c0, c1⟩ := cellsHa (h.below hbel) (i := k) (by have := HN.out; simp only; omega)
      try simp only at hh c0 c1
      obtain rfl := hh
      have HB1 : Hid (lacksB L (kdHa.l (sQ.getD k ha0)) = true → R = true) := HB.out k hlt
      have HX : Hid (lacksB L (kdHa.l (sQ.getD k ha0)) = false → ∀ i, i < k + 1 → lacksB L (kdHa.l (sQ.getD i ha0)) = false) := fun h i hi => by
        by_cases e : i = k
        · subst e; exact h
        · exact HP.out i (by omega)
      have hU := HF.out k hlt _ rfl wr hbel
      clear h HF HB HN
      generalize lacksB L (kdHa.l (sQ.getD k ha0)) = V at hU HB1 HX
      generalize sQ.getD k ha0 = x at c0 c1 hU
      cases hv : V with
      | false =>
        rw [hv] at hU
        go_wp2_with (go_at_call 52; refine hU.mono ?_; rintro e w1 ⟨rfl, hb⟩)
        go_roundw
        case rel => exact ⟨k + 1, by omega, by go_num, Rw.next hbel hb, HX.out hv⟩
        case measure => simp [intOf]; omega
      | true =>
        rw [hv] at hU
        go_wp2_with (go_at_call 52; refine hU.mono ?_; rintro e w1 ⟨rfl, hb⟩)
        go_ret
        exact ⟨Rw.next hbel hb, _, rfl, by rw [HB1.out hv]; simp⟩
    · have he : k = n := by omega
      subst he
      clear h
      go_wp2
      go_ret
      exact ⟨hbel, _, rfl, by rw [HG.out HP.out]; rfl⟩
theorem contains_lacks (s : Sl HA) (b : Nat) (L : List Nv) (w : World) (h : Rd kdHa 0 w s) (hm : Mem w b L) :
    Calls Tryz.prog 51 #[.slice s.a s.Q.length s.c, .func (.func 52) #[.map (some b)] #[]] w fun e w' => e = .returned (.bool ((told kdHa s.Q).any (lacksB L))) ∧ Below w.heap.size w w' := by
  have hi := index_lacks s b L w h hm
  generalize (told kdHa s.Q).any (lacksB L) = R at hi ⊢
  clear h hm
  go_enter Tryz.func51, Tryz.ntmps51
  go_wp2_with (go_at_call 88; refine hi.mono ?_; rintro e w1 ⟨hb, r, rfl, hr⟩; have HR : Hid (decide (0 ≤ r) = R) := hr; clear hr)
  go_ret
  exact ⟨Pm.ret_bool (by rw [← HR.out]), hb⟩

set_option maxHeartbeats 4000000 in
theorem index_other (s : Sl HA) (b : Nat) (L : List Nv) (w : World) (h : Rd kdHa 0 w s) (hm : Mem w b L) :
    Calls Tryz.prog 88 #[.slice s.a s.Q.length s.c, .func (.func 53) #[.map (some b)] #[]] w fun e w' => Below w.heap.size w w' ∧ ∃ r : Int, e = .returned (.int .i64 r) ∧ decide (0 ≤ r) = (told kdHa s.Q).any (otherB L) := by
  have HB : Hid (∀ k, k < s.Q.length → otherB L (kdHa.l (s.Q.getD k ha0)) = true → (told kdHa s.Q).any (otherB L) = true) := fun k hk h => any_at (i := k) (d := kdHa.l ha0) (by rw [told_len]; exact hk) (by rw [show (told kdHa s.Q).getD k (kdHa.l ha0) = kdHa.l (s.Q.getD k ha0) from told_at (K := kdHa) _ _]; exact h)
  have HG : Hid ((∀ i, i < s.Q.length → otherB L (kdHa.l (s.Q.getD i ha0)) = false) → (told kdHa s.Q).any (otherB L) = false) := fun h => any_no (kdHa.l ha0) fun i hi => by
    rw [show (told kdHa s.Q).getD i (kdHa.l ha0) = kdHa.l (s.Q.getD i ha0) from told_at (K := kdHa) _ _]
    exact h i (by rw [told_len] at hi; exact hi)
  generalize (told kdHa s.Q).any (otherB L) = R at HB HG ⊢
  have HF : Hid (∀ i, i < s.Q.length → ∀ x, x = s.Q.getD i ha0 → ∀ W, Below w.heap.size w W → Calls Tryz.prog 53 #[.map (some b), .agg #[.string x.s, .slice x.a x.l x.c]] W fun e w' => e = .returned (.bool (otherB L (kdHa.l x))) ∧ Below W.heap.size W w') := fun i hi x hx W hb => by
    have ho := h.ok i hi
    rw [hx]; exact other_any _ b L W ho (hm.below hb)
  obtain ⟨sa, sb, so, sc, sQ⟩ := s
  simp only at HB HG HF ⊢
  obtain ⟨n, hn⟩ : ∃ n, n = sQ.length := ⟨_, rfl⟩
  have hmx : n ≤ maxLen := by rw [hn]; exact h.len
  unfold maxLen at hmx
  rw [← hn] at HB HG HF ⊢
  have HN : Hid (n = sQ.length) := hn
  clear hn hm
  go_enter Tryz.func88, Tryz.ntmps88
  go_wp2
  go_loopw [8] (fun i wr => ∃ k : Nat, k ≤ n ∧ i = .int .i64 k ∧ Below w.heap.size w wr ∧ ∀ i, i < k → otherB L (kdHa.l (sQ.getD i ha0)) = false) (fun i _ => n - (intOf i).toNat)
  case atStart => exact ⟨0, Nat.zero_le _, rfl, Below.refl _ _, fun i hi => by omega⟩
  case round =>
    obtain ⟨k, hk, rfl, hbel, hpre⟩ := hrel
    have HP : Hid (∀ i, i < k → otherB L (kdHa.l (sQ.getD i ha0)) = false) := hpre
    clear hpre
    by_cases hlt : k < n
    · have hh := h.head (by have := HN.out; simp only; omega)
      have hkz : (k : Int) < (n : Int) := by omega
      obtain ⟨c0, c1⟩ := cellsHa (h.below hbel) (i := k) (by have := HN.out; simp only; omega)
      try simp only at hh c0 c1
      obtain rfl := hh
      have HB1 : Hid (otherB L (kdHa.l (sQ.getD k ha0)) = true → R = true) := HB.out k hlt
      have HX : Hid (otherB L (kdHa.l (sQ.getD k ha0)) = false → ∀ i, i < k + 1 → otherB L (kdHa.l (sQ.getD i ha0)) = false) := fun h i hi => by
        by_cases e : i = k
        · subst e; exact h
        · exact HP.out i (by omega)
      have hU := HF.out k hlt _ rfl wr hbel
      clear h HF HB HN
      generalize otherB L (kdHa.l (sQ.getD k ha0)) = V at hU HB1 HX
      generalize sQ.getD k ha0 = x at c0 c1 hU
      cases hv : V with
      | false =>
        rw [hv] at hU
        go_wp2_with (go_at_call 53; refine hU.mono ?_; rintro e w1 ⟨rfl, hb⟩)
        go_roundw
        case rel => exact ⟨k + 1, by omega, by go_num, Rw.next hbel hb, HX.out hv⟩
        case measure => simp [intOf]; omega
      | true =>
        rw [hv] at hU
        go_wp2_with (go_at_call 53; refine hU.mono ?_; rintro e w1 ⟨rfl, hb⟩)
        go_ret
        exact ⟨Rw.next hbel hb, _, rfl, by rw [HB1.out hv]; simp⟩
    · have he : k = n := by omega
      subst he
      clear h
      go_wp2
      go_ret
      exact ⟨hbel, _, rfl, by rw [HG.out HP.out]; rfl⟩
theorem contains_other (s : Sl HA) (b : Nat) (L : List Nv) (w : World) (h : Rd kdHa 0 w s) (hm : Mem w b L) :
    Calls Tryz.prog 51 #[.slice s.a s.Q.length s.c, .func (.func 53) #[.map (some b)] #[]] w fun e w' => e = .returned (.bool ((told kdHa s.Q).any (otherB L))) ∧ Below w.heap.size w w' := by
  have hi := index_other s b L w h hm
  generalize (told kdHa s.Q).any (otherB L) = R at hi ⊢
  clear h hm
  go_enter Tryz.func51, Tryz.ntmps51
  go_wp2_with (go_at_call 88; refine hi.mono ?_; rintro e w1 ⟨hb, r, rfl, hr⟩; have HR : Hid (decide (0 ≤ r) = R) := hr; clear hr)
  go_ret
  exact ⟨Pm.ret_bool (by rw [← HR.out]), hb⟩

set_option maxHeartbeats 4000000 in
theorem index_fwd (s : Sl Lm) (b : Nat) (L : List Nv) (w : World) (h : Rd kdLm 0 w s) (hm : Mem w b L) :
    Calls Tryz.prog 89 #[.slice s.a s.Q.length s.c, .func (.func 56) #[.map (some b)] #[]] w fun e w' => Below w.heap.size w w' ∧ ∃ r : Int, e = .returned (.int .i64 r) ∧ decide (0 ≤ r) = (told kdLm s.Q).any (fwdB L) := by
  have HB : Hid (∀ k, k < s.Q.length → fwdB L (kdLm.l (s.Q.getD k lm0)) = true → (told kdLm s.Q).any (fwdB L) = true) := fun k hk h => any_at (i := k) (d := kdLm.l lm0) (by rw [told_len]; exact hk) (by rw [show (told kdLm s.Q).getD k (kdLm.l lm0) = kdLm.l (s.Q.getD k lm0) from told_at (K := kdLm) _ _]; exact h)
  have HG : Hid ((∀ i, i < s.Q.length → fwdB L (kdLm.l (s.Q.getD i lm0)) = false) → (told kdLm s.Q).any (fwdB L) = false) := fun h => any_no (kdLm.l lm0) fun i hi => by
    rw [show (told kdLm s.Q).getD i (kdLm.l lm0) = kdLm.l (s.Q.getD i lm0) from told_at (K := kdLm) _ _]
    exact h i (by rw [told_len] at hi; exact hi)
  generalize (told kdLm s.Q).any (fwdB L) = R at HB HG ⊢
  have HF : Hid (∀ i, i < s.Q.length → ∀ x, x = s.Q.getD i lm0 → ∀ W, Below w.heap.size w W → Calls Tryz.prog 56 #[.map (some b), .agg #[.int .i64 x.k, .string x.h.s, .slice x.h.A.a x.h.A.Q.length x.h.A.c, .int .i64 x.op, .string x.p.v, .int .i64 x.p.n, .string x.p.s, .string x.q.v, .int .i64 x.q.n, .string x.q.s]] W fun e w' => e = .returned (.bool (fwdB L (kdLm.l x))) ∧ Below W.heap.size W w') := fun i hi x hx W hb => by
    have ho := h.ok i hi
    rw [hx]; exact fwd_any _ b L W ho.1.1 (hm.below hb)
  obtain ⟨sa, sb, so, sc, sQ⟩ := s
  simp only at HB HG HF ⊢
  obtain ⟨n, hn⟩ : ∃ n, n = sQ.length := ⟨_, rfl⟩
  have hmx : n ≤ maxLen := by rw [hn]; exact h.len
  unfold maxLen at hmx
  rw [← hn] at HB HG HF ⊢
  have HN : Hid (n = sQ.length) := hn
  clear hn hm
  go_enter Tryz.func89, Tryz.ntmps89
  go_wp2
  go_loopw [8] (fun i wr => ∃ k : Nat, k ≤ n ∧ i = .int .i64 k ∧ Below w.heap.size w wr ∧ ∀ i, i < k → fwdB L (kdLm.l (sQ.getD i lm0)) = false) (fun i _ => n - (intOf i).toNat)
  case atStart => exact ⟨0, Nat.zero_le _, rfl, Below.refl _ _, fun i hi => by omega⟩
  case round =>
    obtain ⟨k, hk, rfl, hbel, hpre⟩ := hrel
    have HP : Hid (∀ i, i < k → fwdB L (kdLm.l (sQ.getD i lm0)) = false) := hpre
    clear hpre
    by_cases hlt : k < n
    · have hh := h.head (by have := HN.out; simp only; omega)
      have hkz : (k : Int) < (n : Int) := by omega
      obtain ⟨c0, c1, c2, c3, c4, c5, c6, c7, c8, c9⟩ := cellsLm (h.below hbel) (i := k) (by have := HN.out; simp only; omega)
      try simp only at hh c0 c1 c2 c3 c4 c5 c6 c7 c8 c9
      obtain rfl := hh
      have HB1 : Hid (fwdB L (kdLm.l (sQ.getD k lm0)) = true → R = true) := HB.out k hlt
      have HX : Hid (fwdB L (kdLm.l (sQ.getD k lm0)) = false → ∀ i, i < k + 1 → fwdB L (kdLm.l (sQ.getD i lm0)) = false) := fun h i hi => by
        by_cases e : i = k
        · subst e; exact h
        · exact HP.out i (by omega)
      have hU := HF.out k hlt _ rfl wr hbel
      clear h HF HB HN
      generalize fwdB L (kdLm.l (sQ.getD k lm0)) = V at hU HB1 HX
      generalize sQ.getD k lm0 = x at c0 c1 c2 c3 c4 c5 c6 c7 c8 c9 hU
      cases hv : V with
      | false =>
        rw [hv] at hU
        go_wp2_with (go_at_call 56; refine hU.mono ?_; rintro e w1 ⟨rfl, hb⟩)
        go_roundw
        case rel => exact ⟨k + 1, by omega, by go_num, Rw.next hbel hb, HX.out hv⟩
        case measure => simp [intOf]; omega
      | true =>
        rw [hv] at hU
        go_wp2_with (go_at_call 56; refine hU.mono ?_; rintro e w1 ⟨rfl, hb⟩)
        go_ret
        exact ⟨Rw.next hbel hb, _, rfl, by rw [HB1.out hv]; simp⟩
    · have he : k = n := by omega
      subst he
      clear h
      go_wp2
      go_ret
      exact ⟨hbel, _, rfl, by rw [HG.out HP.out]; rfl⟩
theorem contains_fwd (s : Sl Lm) (b : Nat) (L : List Nv) (w : World) (h : Rd kdLm 0 w s) (hm : Mem w b L) :
    Calls Tryz.prog 55 #[.slice s.a s.Q.length s.c, .func (.func 56) #[.map (some b)] #[]] w fun e w' => e = .returned (.bool ((told kdLm s.Q).any (fwdB L))) ∧ Below w.heap.size w w' := by
  have hi := index_fwd s b L w h hm
  generalize (told kdLm s.Q).any (fwdB L) = R at hi ⊢
  clear h hm
  go_enter Tryz.func55, Tryz.ntmps55
  go_wp2_with (go_at_call 89; refine hi.mono ?_; rintro e w1 ⟨hb, r, rfl, hr⟩; have HR : Hid (decide (0 ≤ r) = R) := hr; clear hr)
  go_ret
  exact ⟨Pm.ret_bool (by rw [← HR.out]), hb⟩

set_option maxHeartbeats 4000000 in
theorem index_news (s : Sl Lm) (b : Nat) (L : List Nv) (w : World) (h : Rd kdLm 0 w s) (hm : Mem w b L) :
    Calls Tryz.prog 89 #[.slice s.a s.Q.length s.c, .func (.func 92) #[.map (some b)] #[]] w fun e w' => Below w.heap.size w w' ∧ ∃ r : Int, e = .returned (.int .i64 r) ∧ decide (0 ≤ r) = (told kdLm s.Q).any (nwsB L) := by
  have HB : Hid (∀ k, k < s.Q.length → nwsB L (kdLm.l (s.Q.getD k lm0)) = true → (told kdLm s.Q).any (nwsB L) = true) := fun k hk h => any_at (i := k) (d := kdLm.l lm0) (by rw [told_len]; exact hk) (by rw [show (told kdLm s.Q).getD k (kdLm.l lm0) = kdLm.l (s.Q.getD k lm0) from told_at (K := kdLm) _ _]; exact h)
  have HG : Hid ((∀ i, i < s.Q.length → nwsB L (kdLm.l (s.Q.getD i lm0)) = false) → (told kdLm s.Q).any (nwsB L) = false) := fun h => any_no (kdLm.l lm0) fun i hi => by
    rw [show (told kdLm s.Q).getD i (kdLm.l lm0) = kdLm.l (s.Q.getD i lm0) from told_at (K := kdLm) _ _]
    exact h i (by rw [told_len] at hi; exact hi)
  generalize (told kdLm s.Q).any (nwsB L) = R at HB HG ⊢
  have HF : Hid (∀ i, i < s.Q.length → ∀ x, x = s.Q.getD i lm0 → ∀ W, Below w.heap.size w W → Calls Tryz.prog 92 #[.map (some b), .agg #[.int .i64 x.k, .string x.h.s, .slice x.h.A.a x.h.A.Q.length x.h.A.c, .int .i64 x.op, .string x.p.v, .int .i64 x.p.n, .string x.p.s, .string x.q.v, .int .i64 x.q.n, .string x.q.s]] W fun e w' => e = .returned (.bool (nwsB L (kdLm.l x))) ∧ Below W.heap.size W w') := fun i hi x hx W hb => by
    have ho := h.ok i hi
    rw [hx]; exact news_any _ b L W ho.1.1 (hm.below hb)
  obtain ⟨sa, sb, so, sc, sQ⟩ := s
  simp only at HB HG HF ⊢
  obtain ⟨n, hn⟩ : ∃ n, n = sQ.length := ⟨_, rfl⟩
  have hmx : n ≤ maxLen := by rw [hn]; exact h.len
  unfold maxLen at hmx
  rw [← hn] at HB HG HF ⊢
  have HN : Hid (n = sQ.length) := hn
  clear hn hm
  go_enter Tryz.func89, Tryz.ntmps89
  go_wp2
  go_loopw [8] (fun i wr => ∃ k : Nat, k ≤ n ∧ i = .int .i64 k ∧ Below w.heap.size w wr ∧ ∀ i, i < k → nwsB L (kdLm.l (sQ.getD i lm0)) = false) (fun i _ => n - (intOf i).toNat)
  case atStart => exact ⟨0, Nat.zero_le _, rfl, Below.refl _ _, fun i hi => by omega⟩
  case round =>
    obtain ⟨k, hk, rfl, hbel, hpre⟩ := hrel
    have HP : Hid (∀ i, i < k → nwsB L (kdLm.l (sQ.getD i lm0)) = false) := hpre
    clear hpre
    by_cases hlt : k < n
    · have hh := h.head (by have := HN.out; simp only; omega)
      have hkz : (k : Int) < (n : Int) := by omega
      obtain ⟨c0, c1, c2, c3, c4, c5, c6, c7, c8, c9⟩ := cellsLm (h.below hbel) (i := k) (by have := HN.out; simp only; omega)
      try simp only at hh c0 c1 c2 c3 c4 c5 c6 c7 c8 c9
      obtain rfl := hh
      have HB1 : Hid (nwsB L (kdLm.l (sQ.getD k lm0)) = true → R = true) := HB.out k hlt
      have HX : Hid (nwsB L (kdLm.l (sQ.getD k lm0)) = false → ∀ i, i < k + 1 → nwsB L (kdLm.l (sQ.getD i lm0)) = false) := fun h i hi => by
        by_cases e : i = k
        · subst e; exact h
        · exact HP.out i (by omega)
      have hU := HF.out k hlt _ rfl wr hbel
      clear h HF HB HN
      generalize nwsB L (kdLm.l (sQ.getD k lm0)) = V at hU HB1 HX
      generalize sQ.getD k lm0 = x at c0 c1 c2 c3 c4 c5 c6 c7 c8 c9 hU
      cases hv : V with
      | false =>
        rw [hv] at hU
        go_wp2_with (go_at_call 92; refine hU.mono ?_; rintro e w1 ⟨rfl, hb⟩)
        go_roundw
        case rel => exact ⟨k + 1, by omega, by go_num, Rw.next hbel hb, HX.out hv⟩
        case measure => simp [intOf]; omega
      | true =>
        rw [hv] at hU
        go_wp2_with (go_at_call 92; refine hU.mono ?_; rintro e w1 ⟨rfl, hb⟩)
        go_ret
        exact ⟨Rw.next hbel hb, _, rfl, by rw [HB1.out hv]; simp⟩
    · have he : k = n := by omega
      subst he
      clear h
      go_wp2
      go_ret
      exact ⟨hbel, _, rfl, by rw [HG.out HP.out]; rfl⟩
theorem contains_news (s : Sl Lm) (b : Nat) (L : List Nv) (w : World) (h : Rd kdLm 0 w s) (hm : Mem w b L) :
    Calls Tryz.prog 55 #[.slice s.a s.Q.length s.c, .func (.func 92) #[.map (some b)] #[]] w fun e w' => e = .returned (.bool ((told kdLm s.Q).any (nwsB L))) ∧ Below w.heap.size w w' := by
  have hi := index_news s b L w h hm
  generalize (told kdLm s.Q).any (nwsB L) = R at hi ⊢
  clear h hm
  go_enter Tryz.func55, Tryz.ntmps55
  go_wp2_with (go_at_call 89; refine hi.mono ?_; rintro e w1 ⟨hb, r, rfl, hr⟩; have HR : Hid (decide (0 ≤ r) = R) := hr; clear hr)
  go_ret
  exact ⟨Pm.ret_bool (by rw [← HR.out]), hb⟩

end Go.Proofs.YtljlgjgfmgilaaaGreat.Nq

namespace Go.Proofs.YtljlgjgfmgilaaaGreat.Nq
set_option maxRecDepth 8000
set_option linter.unusedSimpArgs false
set_option linter.unusedVariables false
open Go Go.ChangeShapes Go.WideShapes Go.RowKit
open Num Pl Pm
open Nb (Mem)

theorem begins_eq (L : List Nv) (r : RuL) : beginsB L r = if r.2.2.length = 0 then false else (decide ((r.2.2.getD 0 lt0).1 = 1) && decide ((lk L (r.2.2.getD 0 lt0).2.1.1).k = 4 ∨ (lk L (r.2.2.getD 0 lt0).2.1.1).k = 2 ∧ r.1 ≠ 1)) := by
  unfold beginsB
  cases r.2.2 with
  | nil => rfl
  | cons l B => simp [List.getD]
set_option maxHeartbeats 4000000 in
theorem begins_any (r : Rm) (b : Nat) (L : List Nv) (w : World) (hx : r.Ok 0 w) (hm : Mem w b L) : Calls Tryz.prog 91 #[.map (some b), .agg #[.int .i64 r.k, .string r.h.s, .slice r.h.A.a r.h.A.Q.length r.h.A.c, .slice r.B.a r.B.Q.length r.B.c]] w fun e w' => e = .returned (.bool (beginsB L r.l)) ∧ Below w.heap.size w w' := by
  have HA : Hid (beginsB L r.l = if r.B.Q.length = 0 then false else (decide ((r.B.Q.getD 0 lm0).k = 1) && decide ((lk L (r.B.Q.getD 0 lm0).h.s).k = 4 ∨ (lk L (r.B.Q.getD 0 lm0).h.s).k = 2 ∧ r.k ≠ 1))) := by
    rw [Hid, begins_eq]
    show (if (told kdLm r.B.Q).length = 0 then false else (decide (((told kdLm r.B.Q).getD 0 lt0).1 = 1) && decide ((lk L ((told kdLm r.B.Q).getD 0 lt0).2.1.1).k = 4 ∨ (lk L ((told kdLm r.B.Q).getD 0 lt0).2.1.1).k = 2 ∧ r.k ≠ 1))) = _
    rw [told_len, told_get]; rfl
  generalize beginsB L r.l = A at HA ⊢
  have hd := hx.2
  obtain ⟨rk, rh, ⟨ba, bb, bo, bc, bQ⟩⟩ := r
  simp only at hd HA ⊢
  obtain ⟨m, hm0⟩ : ∃ m, m = bQ.length := ⟨_, rfl⟩
  rw [← hm0] at HA ⊢
  have B := below_alloc1 w (.cells #[.int .i64 rk, .string rh.s, .slice rh.A.a rh.A.Q.length rh.A.c, .slice ba m bc] 55)
  have hm1 := hm.below B
  by_cases hz : m = 0
  · obtain rfl : A = false := by rw [HA.out, if_pos hz]
    clear HA hd hm0 hx
    go_enter Tryz.func91, Tryz.ntmps91
    go_wp2
    go_ret
    exact ⟨rfl, by rw [hz] at B; exact B⟩
  · have hmp : 0 < m := by omega
    have hmi : (0 : Int) < (m : Int) := by omega
    have hh := hd.head (by simp only; omega)
    simp only at hh
    obtain rfl := hh
    obtain ⟨c0, c1, c2, c3, c4, c5, c6, c7, c8, c9⟩ := cellsLm hd (i := 0) (by simp only; omega)
    simp only [Nat.zero_mul, Nat.add_zero] at c0 c1 c2 c3 c4 c5 c6 c7 c8 c9
    have hy := (hd.ok 0 (by simp only; omega)).1.1
    rw [if_neg hz] at HA
    have hs0 : (bQ.getD 0 lm0).h.s.size ≤ maxLen := hy
    clear hd hm0 hx hy
    generalize bQ.getD 0 lm0 = y at HA c0 c1 c2 c3 c4 c5 c6 c7 c8 c9 hs0
    have lc := World.block_lt_of_cell? _ _ c0
    have hK := kind_any y b L _ hs0 hm1
    have HV : Hid (A = (decide (y.k = 1) && decide ((lk L y.h.s).k = 4 ∨ (lk L y.h.s).k = 2 ∧ rk ≠ 1))) := HA
    clear HA
    generalize (lk L y.h.s).k = kd at hK HV
    obtain ⟨yk, yh, yop, yp, yq⟩ := y
    simp only at HV hK c0 c1 c2 c3 c4 c5 c6 c7 c8 c9
    by_cases h1 : yk = 1
    · subst h1
      have HW : Hid (A = decide (kd = 4 ∨ kd = 2 ∧ rk ≠ 1)) := by rw [Hid, HV.out]; simp
      clear HV
      by_cases h4 : kd = 4
      · obtain rfl : A = true := by rw [HW.out]; simp [h4]
        subst h4
        clear HW
        go_enter Tryz.func91, Tryz.ntmps91
        go_wp2_with (go_at_call 90; refine hK.mono ?_; rintro e w1 ⟨rfl, hb⟩; have l1 := hb.size)
        go_ret
        exact ⟨rfl, Rw.next B hb⟩
      · by_cases h2 : kd = 2
        · subst h2
          have HR : Hid (A = decide (¬ rk = 1)) := by rw [Hid, HW.out]; simp
          clear HW h4
          have kb : (w.alloc (.cells #[.int .i64 rk, .string rh.s, .slice rh.A.a rh.A.Q.length rh.A.c, .slice (some ⟨bb, bo, none⟩) m bc] 55)).heap[w.heap.size]? = some (.cells #[.int .i64 rk, .string rh.s, .slice rh.A.a rh.A.Q.length rh.A.c, .slice (some ⟨bb, bo, none⟩) m bc] 55 (0, 0)) := at_new rfl
          go_enter Tryz.func91, Tryz.ntmps91
          go_wp2_with (go_at_call 90; refine hK.mono ?_; rintro e w1 ⟨rfl, hb⟩; obtain ⟨r0, r1, r2, r3⟩ := four ((hb.block _ (Pl.blk_lt kb)).trans kb))
          go_ret
          exact ⟨Pm.ret_bool (by rw [HR.out, bne_dec]), Rw.next B hb⟩
        · obtain rfl : A = false := by rw [HW.out]; simp [h4, h2]
          clear HW
          go_enter Tryz.func91, Tryz.ntmps91
          go_wp2_with (go_at_call 90; refine hK.mono ?_; rintro e w1 ⟨rfl, hb⟩; have l1 := hb.size)
          go_ret
          exact ⟨Pm.ret_bool (by simp [h4, h2]), Rw.next B hb⟩
    · obtain rfl : A = false := by rw [HV.out]; simp [h1]
      have g1 : (yk != 1) = true := by rw [bne_dec]; exact decide_eq_true h1
      clear HV h1
      go_enter Tryz.func91, Tryz.ntmps91
      go_wp2
      go_ret
      exact ⟨rfl, B⟩
theorem rd_drop {w : World} {a : Option Addr} {bb bo bc c : Nat} {Q : List Lm} (h : Rd kdLm 0 w ⟨some ⟨bb, bo, none⟩, bb, bo, bc, Q⟩) (ha : 0 < (Q.drop 1).length → a = some ⟨bb, bo + 10, none⟩) (hc : (Q.drop 1).length ≤ c) : Rd kdLm 0 w ⟨a, bb, bo + 10, c, Q.drop 1⟩ := by
  have hl := h.len
  simp only at hl
  refine ⟨ha, fun _ => Nat.zero_le _, fun i hi j hj => ?_, fun i hi => ?_, by simp only [List.length_drop]; omega, hc, fun q => absurd rfl q⟩
  · simp only [List.length_drop] at hi
    have := h.cell (i + 1) (by simp only; omega) j hj
    simp only at this ⊢
    have e : (Q.drop 1).getD i kdLm.z = Q.getD (i + 1) kdLm.z := by simp only [List.getD, List.getElem?_drop]; rw [show 1 + i = i + 1 by omega]
    rw [e, ← this]
    congr 2
    show bo + 10 + i * 10 + j = bo + (i + 1) * 10 + j
    omega
  · simp only [List.length_drop] at hi
    have := h.ok (i + 1) (by simp only; omega)
    have e : (Q.drop 1).getD i kdLm.z = Q.getD (i + 1) kdLm.z := by simp only [List.getD, List.getElem?_drop]; rw [show 1 + i = i + 1 by omega]
    simp only
    rw [e]; exact this
set_option maxHeartbeats 4000000 in
theorem newsFits_any (r : Rm) (b : Nat) (L : List Nv) (w : World) (hx : r.Ok 0 w) (hm : Mem w b L) : Calls Tryz.prog 57 #[.map (some b), .agg #[.int .i64 r.k, .string r.h.s, .slice r.h.A.a r.h.A.Q.length r.h.A.c, .slice r.B.a r.B.Q.length r.B.c]] w fun e w' => e = .returned (.bool (newsFits L r.l)) ∧ Below w.heap.size w w' := by
  have HA : Hid (newsFits L r.l = if (lk L r.h.s).k = 3 then !(told kdLm r.B.Q).any (nwsB L) else beginsB L r.l && !((told kdLm r.B.Q).drop 1).any (nwsB L)) := rfl
  generalize newsFits L r.l = A at HA ⊢
  obtain ⟨W1, hW1⟩ : ∃ W1, W1 = w.alloc (.cells #[.int .i64 r.k, .string r.h.s, .slice r.h.A.a r.h.A.Q.length r.h.A.c, .slice r.B.a r.B.Q.length r.B.c] 55) := ⟨_, rfl⟩
  have B : Below w.heap.size w W1 := by rw [hW1]; exact below_alloc1 _ _
  have k0 : W1.heap[w.heap.size]? = some (.cells #[.int .i64 r.k, .string r.h.s, .slice r.h.A.a r.h.A.Q.length r.h.A.c, .slice r.B.a r.B.Q.length r.B.c] 55 (0, 0)) := by rw [hW1]; exact at_new rfl
  have h1 : r.Ok 0 W1 := ⟨hx.1.below B, hx.2.below B⟩
  have hm1 := hm.below B
  obtain ⟨q1, _⟩ := hm1.run (s := r.h.s) hx.1.1
  rw [hW1] at q1
  have hBg := begins_any r b L W1 h1 hm1
  have hf := field_k
  by_cases h3 : (lk L r.h.s).k = 3
  · have HR : Hid (A = !(told kdLm r.B.Q).any (nwsB L)) := by rw [Hid, HA.out, if_pos h3]
    have hC := contains_news r.B b L W1 h1.2 hm1
    clear HA h1 hm1 hx hm hBg
    generalize (told kdLm r.B.Q).any (nwsB L) = V at HR hC
    generalize lk L r.h.s = d at q1 h3
    go_enter Tryz.func57, Tryz.ntmps57
    go_wp2_with (go_at_call 55; rw [← hW1]; clear hW1; refine hC.mono ?_; rintro e w1 ⟨rfl, hb⟩)
    go_ret
    exact ⟨Pm.ret_bool (by rw [HR.out]), Rw.next B hb⟩
  · have HN : Hid (A = (beginsB L r.l && !((told kdLm r.B.Q).drop 1).any (nwsB L))) := by rw [Hid, HA.out, if_neg h3]
    have HE : Hid (beginsB L r.l = true → 0 < r.B.Q.length) := fun h => by
      rw [begins_eq] at h
      by_cases hz : r.l.2.2.length = 0
      · rw [if_pos hz] at h; cases h
      · have : r.l.2.2.length = r.B.Q.length := told_len (K := kdLm) _
        omega
    clear HA
    cases hb0 : beginsB L r.l with
    | false =>
      obtain rfl : A = false := by rw [HN.out, hb0]; rfl
      rw [hb0] at hBg
      clear HN HE h1 hm1 hx hm
      generalize lk L r.h.s = d at q1 h3
      go_enter Tryz.func57, Tryz.ntmps57
      go_wp2_with (go_at_call 91; rw [← hW1]; clear hW1; refine hBg.mono ?_; rintro e w1 ⟨rfl, hb⟩)
      go_ret
      exact ⟨rfl, Rw.next B hb⟩
    | true =>
      have hpos := HE.out hb0
      have HR : Hid (A = !((told kdLm r.B.Q).drop 1).any (nwsB L)) := by rw [Hid, HN.out, hb0]; rfl
      rw [hb0] at hBg
      clear HN HE
      have hd := h1.2
      obtain ⟨rk, rh, ⟨ba, bb, bo, bc, bQ⟩⟩ := r
      simp only at hd hpos HR hBg q1 h3 k0 hW1 ⊢
      have hh := hd.head (by simp only; omega)
      simp only at hh
      obtain rfl := hh
      obtain ⟨q, hq⟩ : ∃ q, bQ.length = q + 1 := ⟨bQ.length - 1, by omega⟩
      have hroom := hd.room
      simp only at hroom
      have hC : ∀ a c, (0 < q → a = some ⟨bb, bo + 10, none⟩) → q ≤ c → ∀ W, Below W1.heap.size W1 W → Calls Tryz.prog 55 #[.slice a q c, .func (.func 92) #[.map (some b)] #[]] W fun e w' => e = .returned (.bool (((told kdLm bQ).drop 1).any (nwsB L))) ∧ Below W.heap.size W w' := fun a c h2 h4 W hb => by
        have el : (bQ.drop 1).length = q := by simp; omega
        have := contains_news ⟨a, bb, bo + 10, c, bQ.drop 1⟩ b L W (rd_drop (hd.below hb) (by rw [el]; exact h2) (by rw [el]; exact h4)) (hm1.below hb)
        simp only [el] at this
        have et : (told kdLm bQ).drop 1 = told kdLm (bQ.drop 1) := by simp [told, List.map_drop]
        rw [et]; exact this
      rw [hq] at hroom hBg k0 hW1 q1 ⊢
      clear hd h1 hm1 hx hm hpos hq
      generalize ((told kdLm bQ).drop 1).any (nwsB L) = V at HR hC
      generalize lk L rh.s = d at q1 h3
      have hcast : ((q + 1 : Nat) : Int) - 1 = (q : Int) := by omega
      by_cases hc1 : bc = 1
      · subst hc1
        obtain rfl : q = 0 := by omega
        simp only [Nat.zero_add] at q1 hW1 hBg k0 ⊢
        clear hcast hroom
        have HC0 : Hid (∀ a c, ∀ W, Below W1.heap.size W1 W → Calls Tryz.prog 55 #[.slice a 0 c, .func (.func 92) #[.map (some b)] #[]] W fun e w' => e = .returned (.bool V) ∧ Below W.heap.size W w') := fun a c W hb => hC a c (fun h => by omega) (by omega) W hb
        clear hC
        go_enter Tryz.func57, Tryz.ntmps57
        go_wp2_with (first
          | (go_at_call 91; rw [← hW1]; clear hW1; refine hBg.mono ?_; rintro e w1 ⟨rfl, hb⟩)
          | (go_at_call 55; refine (HC0.out _ _ _ hb).mono ?_; rintro e w2 ⟨rfl, hb2⟩))
        go_ret
        exact ⟨Pm.ret_bool (by rw [HR.out]), Rw.next (Rw.next B hb) hb2⟩
      · 
        go_enter Tryz.func57, Tryz.ntmps57
        go_wp2_with (first
          | (go_at_call 91; rw [← hW1]; clear hW1; refine hBg.mono ?_; rintro e w1 ⟨rfl, hb⟩)
          | (go_at_call 55; refine (hC _ _ (fun _ => rfl) (by omega) _ hb).mono ?_; rintro e w2 ⟨rfl, hb2⟩))
        go_ret
        exact ⟨Pm.ret_bool (by rw [HR.out]), Rw.next (Rw.next B hb) hb2⟩

end Go.Proofs.YtljlgjgfmgilaaaGreat.Nq

namespace Go.Proofs.YtljlgjgfmgilaaaGreat.Nq
set_option maxRecDepth 8000
set_option linter.unusedSimpArgs false
set_option linter.unusedVariables false
open Go Go.ChangeShapes Go.WideShapes Go.RowKit
open Num Pl Pm
open Nb (Mem)

theorem codeI_eq (L : List Nv) (r : RuL) : codeI L r = if (atoms r).any (lacksB L) then 3 else if (atoms r).any (otherB L) then 4 else if !fitsB L r then 5 else if r.2.2.any (fwdB L) then 6 else if !newsFits L r then 7 else 0 := rfl
set_option maxHeartbeats 8000000 in
theorem codeI_any (r : Rm) (b : Nat) (L : List Nv) (w : World) (hx : r.Ok 0 w) (hm : Mem w b L) (hl : r.B.Q.length ≤ 8) : Calls Tryz.prog 25 #[.map (some b), .agg #[.int .i64 r.k, .string r.h.s, .slice r.h.A.a r.h.A.Q.length r.h.A.c, .slice r.B.a r.B.Q.length r.B.c]] w fun e w' => e = .returned (.int .i64 (codeI L r.l : Nat)) ∧ Below w.heap.size w w' := by
  have HC : Hid (codeI L r.l = if (atoms r.l).any (lacksB L) then 3 else if (atoms r.l).any (otherB L) then 4 else if !fitsB L r.l then 5 else if (told kdLm r.B.Q).any (fwdB L) then 6 else if !newsFits L r.l then 7 else 0) := rfl
  generalize codeI L r.l = A at HC ⊢
  obtain ⟨W1, hW1⟩ : ∃ W1, W1 = w.alloc (.cells #[.int .i64 r.k, .string r.h.s, .slice r.h.A.a r.h.A.Q.length r.h.A.c, .slice r.B.a r.B.Q.length r.B.c] 55) := ⟨_, rfl⟩
  have B : Below w.heap.size w W1 := by rw [hW1]; exact below_alloc1 _ _
  have k0 : W1.heap[w.heap.size]? = some (.cells #[.int .i64 r.k, .string r.h.s, .slice r.h.A.a r.h.A.Q.length r.h.A.c, .slice r.B.a r.B.Q.length r.B.c] 55 (0, 0)) := by rw [hW1]; exact at_new rfl
  obtain ⟨r0, r1, r2, r3⟩ := four k0
  have HO : Hid (r.Ok 0 W1) := ⟨hx.1.below B, hx.2.below B⟩
  have HM : Hid (Mem W1 b L) := hm.below B
  have hAt := atomsI_any r W1 HO.out hl
  have h3 : ∀ s W, Rd kdHa 0 W s → Mem W b L → told kdHa s.Q = atoms r.l → Calls Tryz.prog 51 #[.slice s.a s.Q.length s.c, .func (.func 52) #[.map (some b)] #[]] W fun e w' => e = .returned (.bool ((atoms r.l).any (lacksB L))) ∧ Below W.heap.size W w' := fun s W hs h ht => by rw [← ht]; exact contains_lacks s b L W hs h
  have h4 : ∀ s W, Rd kdHa 0 W s → Mem W b L → told kdHa s.Q = atoms r.l → Calls Tryz.prog 51 #[.slice s.a s.Q.length s.c, .func (.func 53) #[.map (some b)] #[]] W fun e w' => e = .returned (.bool ((atoms r.l).any (otherB L))) ∧ Below W.heap.size W w' := fun s W hs h ht => by rw [← ht]; exact contains_other s b L W hs h
  have h5 := fun W (h : r.Ok 0 W) (h' : Mem W b L) => fits_any r b L W h.1.1 h'
  have h6 := fun W (h : r.Ok 0 W) (h' : Mem W b L) => contains_fwd r.B b L W h.2 h'
  have h7 := fun W (h : r.Ok 0 W) (h' : Mem W b L) => newsFits_any r b L W h h'
  generalize (atoms r.l).any (lacksB L) = R3 at HC h3
  generalize (atoms r.l).any (otherB L) = R4 at HC h4
  generalize fitsB L r.l = R5 at HC h5
  generalize (told kdLm r.B.Q).any (fwdB L) = R6 at HC h6
  generalize newsFits L r.l = R7 at HC h7
  clear hx hm
  cases R3 with
  | true =>
    have HA : Hid (A = 3) := HC.out
    clear HC
    go_enter Tryz.func25, Tryz.ntmps25
    go_wp2_with (first
      | (go_at_call 50; rw [← hW1]; clear hW1; refine hAt.mono ?_; rintro e w1 ⟨hb, s, rfl, hs, hT, hn⟩; have HT : Hid (told kdHa s.Q = atoms r.l) := hT; have HO1 : Hid (r.Ok 0 w1) := ⟨HO.out.1.below hb, HO.out.2.below hb⟩; have HM1 : Hid (Mem w1 b L) := HM.out.below hb; replace k0 := (hb.block _ (Pl.blk_lt k0)).trans k0; replace B := Rw.next B hb; clear r0 r1 r2 r3; obtain ⟨r0, r1, r2, r3⟩ := four k0; clear hb hT hAt; have t1 : True := trivial)
      | (go_at_call 51; clear t1; refine (h3 s _ hs HM1.out HT.out).mono ?_; rintro e w2 ⟨rfl, hb⟩; have HO2 : Hid (r.Ok 0 w2) := ⟨HO1.out.1.below hb, HO1.out.2.below hb⟩; have HM2 : Hid (Mem w2 b L) := HM1.out.below hb; replace hs := hs.below hb; replace k0 := (hb.block _ (Pl.blk_lt k0)).trans k0; replace B := Rw.next B hb; clear r0 r1 r2 r3; obtain ⟨r0, r1, r2, r3⟩ := four k0; clear hb h3; have t2 : True := trivial))
    go_ret
    exact ⟨by rw [HA.out]; rfl, B⟩
  | false =>
    cases R4 with
    | true =>
      have HA : Hid (A = 4) := HC.out
      clear HC
      go_enter Tryz.func25, Tryz.ntmps25
      go_wp2_with (first
        | (go_at_call 50; rw [← hW1]; clear hW1; refine hAt.mono ?_; rintro e w1 ⟨hb, s, rfl, hs, hT, hn⟩; have HT : Hid (told kdHa s.Q = atoms r.l) := hT; have HO1 : Hid (r.Ok 0 w1) := ⟨HO.out.1.below hb, HO.out.2.below hb⟩; have HM1 : Hid (Mem w1 b L) := HM.out.below hb; replace k0 := (hb.block _ (Pl.blk_lt k0)).trans k0; replace B := Rw.next B hb; clear r0 r1 r2 r3; obtain ⟨r0, r1, r2, r3⟩ := four k0; clear hb hT hAt; have t1 : True := trivial)
        | (go_at_call 51; clear t1; refine (h3 s _ hs HM1.out HT.out).mono ?_; rintro e w2 ⟨rfl, hb⟩; have HO2 : Hid (r.Ok 0 w2) := ⟨HO1.out.1.below hb, HO1.out.2.below hb⟩; have HM2 : Hid (Mem w2 b L) := HM1.out.below hb; replace hs := hs.below hb; replace k0 := (hb.block _ (Pl.blk_lt k0)).trans k0; replace B := Rw.next B hb; clear r0 r1 r2 r3; obtain ⟨r0, r1, r2, r3⟩ := four k0; clear hb h3; have t2 : True := trivial)
        | (go_at_call 51; clear t2; refine (h4 s _ hs HM2.out HT.out).mono ?_; rintro e w3 ⟨rfl, hb⟩; have HO3 : Hid (r.Ok 0 w3) := ⟨HO2.out.1.below hb, HO2.out.2.below hb⟩; have HM3 : Hid (Mem w3 b L) := HM2.out.below hb; clear hs; replace k0 := (hb.block _ (Pl.blk_lt k0)).trans k0; replace B := Rw.next B hb; clear r0 r1 r2 r3; obtain ⟨r0, r1, r2, r3⟩ := four k0; clear hb h4))
      go_ret
      exact ⟨by rw [HA.out]; rfl, B⟩
    | false =>
      cases R5 with
      | false =>
        have HA : Hid (A = 5) := HC.out
        clear HC
        go_enter Tryz.func25, Tryz.ntmps25
        go_wp2_with (first
          | (go_at_call 50; rw [← hW1]; clear hW1; refine hAt.mono ?_; rintro e w1 ⟨hb, s, rfl, hs, hT, hn⟩; have HT : Hid (told kdHa s.Q = atoms r.l) := hT; have HO1 : Hid (r.Ok 0 w1) := ⟨HO.out.1.below hb, HO.out.2.below hb⟩; have HM1 : Hid (Mem w1 b L) := HM.out.below hb; replace k0 := (hb.block _ (Pl.blk_lt k0)).trans k0; replace B := Rw.next B hb; clear r0 r1 r2 r3; obtain ⟨r0, r1, r2, r3⟩ := four k0; clear hb hT hAt; have t1 : True := trivial)
          | (go_at_call 51; clear t1; refine (h3 s _ hs HM1.out HT.out).mono ?_; rintro e w2 ⟨rfl, hb⟩; have HO2 : Hid (r.Ok 0 w2) := ⟨HO1.out.1.below hb, HO1.out.2.below hb⟩; have HM2 : Hid (Mem w2 b L) := HM1.out.below hb; replace hs := hs.below hb; replace k0 := (hb.block _ (Pl.blk_lt k0)).trans k0; replace B := Rw.next B hb; clear r0 r1 r2 r3; obtain ⟨r0, r1, r2, r3⟩ := four k0; clear hb h3; have t2 : True := trivial)
          | (go_at_call 51; clear t2; refine (h4 s _ hs HM2.out HT.out).mono ?_; rintro e w3 ⟨rfl, hb⟩; have HO3 : Hid (r.Ok 0 w3) := ⟨HO2.out.1.below hb, HO2.out.2.below hb⟩; have HM3 : Hid (Mem w3 b L) := HM2.out.below hb; clear hs; replace k0 := (hb.block _ (Pl.blk_lt k0)).trans k0; replace B := Rw.next B hb; clear r0 r1 r2 r3; obtain ⟨r0, r1, r2, r3⟩ := four k0; clear hb h4)
          | (go_at_call 54; refine (h5 _ HO3.out HM3.out).mono ?_; rintro e w4 ⟨rfl, hb⟩; have HO4 : Hid (r.Ok 0 w4) := ⟨HO3.out.1.below hb, HO3.out.2.below hb⟩; have HM4 : Hid (Mem w4 b L) := HM3.out.below hb; replace k0 := (hb.block _ (Pl.blk_lt k0)).trans k0; replace B := Rw.next B hb; clear r0 r1 r2 r3; obtain ⟨r0, r1, r2, r3⟩ := four k0; clear hb h5))
        go_ret
        exact ⟨by rw [HA.out]; rfl, B⟩
      | true =>
        cases R6 with
        | true =>
          have HA : Hid (A = 6) := HC.out
          clear HC
          go_enter Tryz.func25, Tryz.ntmps25
          go_wp2_with (first
            | (go_at_call 50; rw [← hW1]; clear hW1; refine hAt.mono ?_; rintro e w1 ⟨hb, s, rfl, hs, hT, hn⟩; have HT : Hid (told kdHa s.Q = atoms r.l) := hT; have HO1 : Hid (r.Ok 0 w1) := ⟨HO.out.1.below hb, HO.out.2.below hb⟩; have HM1 : Hid (Mem w1 b L) := HM.out.below hb; replace k0 := (hb.block _ (Pl.blk_lt k0)).trans k0; replace B := Rw.next B hb; clear r0 r1 r2 r3; obtain ⟨r0, r1, r2, r3⟩ := four k0; clear hb hT hAt; have t1 : True := trivial)
            | (go_at_call 51; clear t1; refine (h3 s _ hs HM1.out HT.out).mono ?_; rintro e w2 ⟨rfl, hb⟩; have HO2 : Hid (r.Ok 0 w2) := ⟨HO1.out.1.below hb, HO1.out.2.below hb⟩; have HM2 : Hid (Mem w2 b L) := HM1.out.below hb; replace hs := hs.below hb; replace k0 := (hb.block _ (Pl.blk_lt k0)).trans k0; replace B := Rw.next B hb; clear r0 r1 r2 r3; obtain ⟨r0, r1, r2, r3⟩ := four k0; clear hb h3; have t2 : True := trivial)
            | (go_at_call 51; clear t2; refine (h4 s _ hs HM2.out HT.out).mono ?_; rintro e w3 ⟨rfl, hb⟩; have HO3 : Hid (r.Ok 0 w3) := ⟨HO2.out.1.below hb, HO2.out.2.below hb⟩; have HM3 : Hid (Mem w3 b L) := HM2.out.below hb; clear hs; replace k0 := (hb.block _ (Pl.blk_lt k0)).trans k0; replace B := Rw.next B hb; clear r0 r1 r2 r3; obtain ⟨r0, r1, r2, r3⟩ := four k0; clear hb h4)
            | (go_at_call 54; refine (h5 _ HO3.out HM3.out).mono ?_; rintro e w4 ⟨rfl, hb⟩; have HO4 : Hid (r.Ok 0 w4) := ⟨HO3.out.1.below hb, HO3.out.2.below hb⟩; have HM4 : Hid (Mem w4 b L) := HM3.out.below hb; replace k0 := (hb.block _ (Pl.blk_lt k0)).trans k0; replace B := Rw.next B hb; clear r0 r1 r2 r3; obtain ⟨r0, r1, r2, r3⟩ := four k0; clear hb h5)
            | (go_at_call 55; refine (h6 _ HO4.out HM4.out).mono ?_; rintro e w5 ⟨rfl, hb⟩; have HO5 : Hid (r.Ok 0 w5) := ⟨HO4.out.1.below hb, HO4.out.2.below hb⟩; have HM5 : Hid (Mem w5 b L) := HM4.out.below hb; replace k0 := (hb.block _ (Pl.blk_lt k0)).trans k0; replace B := Rw.next B hb; clear r0 r1 r2 r3; obtain ⟨r0, r1, r2, r3⟩ := four k0; clear hb h6))
          go_ret
          exact ⟨by rw [HA.out]; rfl, B⟩
        | false =>
          cases R7 with
          | false =>
            have HA : Hid (A = 7) := HC.out
            clear HC
            go_enter Tryz.func25, Tryz.ntmps25
            go_wp2_with (first
              | (go_at_call 50; rw [← hW1]; clear hW1; refine hAt.mono ?_; rintro e w1 ⟨hb, s, rfl, hs, hT, hn⟩; have HT : Hid (told kdHa s.Q = atoms r.l) := hT; have HO1 : Hid (r.Ok 0 w1) := ⟨HO.out.1.below hb, HO.out.2.below hb⟩; have HM1 : Hid (Mem w1 b L) := HM.out.below hb; replace k0 := (hb.block _ (Pl.blk_lt k0)).trans k0; replace B := Rw.next B hb; clear r0 r1 r2 r3; obtain ⟨r0, r1, r2, r3⟩ := four k0; clear hb hT hAt; have t1 : True := trivial)
              | (go_at_call 51; clear t1; refine (h3 s _ hs HM1.out HT.out).mono ?_; rintro e w2 ⟨rfl, hb⟩; have HO2 : Hid (r.Ok 0 w2) := ⟨HO1.out.1.below hb, HO1.out.2.below hb⟩; have HM2 : Hid (Mem w2 b L) := HM1.out.below hb; replace hs := hs.below hb; replace k0 := (hb.block _ (Pl.blk_lt k0)).trans k0; replace B := Rw.next B hb; clear r0 r1 r2 r3; obtain ⟨r0, r1, r2, r3⟩ := four k0; clear hb h3; have t2 : True := trivial)
              | (go_at_call 51; clear t2; refine (h4 s _ hs HM2.out HT.out).mono ?_; rintro e w3 ⟨rfl, hb⟩; have HO3 : Hid (r.Ok 0 w3) := ⟨HO2.out.1.below hb, HO2.out.2.below hb⟩; have HM3 : Hid (Mem w3 b L) := HM2.out.below hb; clear hs; replace k0 := (hb.block _ (Pl.blk_lt k0)).trans k0; replace B := Rw.next B hb; clear r0 r1 r2 r3; obtain ⟨r0, r1, r2, r3⟩ := four k0; clear hb h4)
              | (go_at_call 54; refine (h5 _ HO3.out HM3.out).mono ?_; rintro e w4 ⟨rfl, hb⟩; have HO4 : Hid (r.Ok 0 w4) := ⟨HO3.out.1.below hb, HO3.out.2.below hb⟩; have HM4 : Hid (Mem w4 b L) := HM3.out.below hb; replace k0 := (hb.block _ (Pl.blk_lt k0)).trans k0; replace B := Rw.next B hb; clear r0 r1 r2 r3; obtain ⟨r0, r1, r2, r3⟩ := four k0; clear hb h5)
              | (go_at_call 55; refine (h6 _ HO4.out HM4.out).mono ?_; rintro e w5 ⟨rfl, hb⟩; have HO5 : Hid (r.Ok 0 w5) := ⟨HO4.out.1.below hb, HO4.out.2.below hb⟩; have HM5 : Hid (Mem w5 b L) := HM4.out.below hb; replace k0 := (hb.block _ (Pl.blk_lt k0)).trans k0; replace B := Rw.next B hb; clear r0 r1 r2 r3; obtain ⟨r0, r1, r2, r3⟩ := four k0; clear hb h6)
              | (go_at_call 57; refine (h7 _ HO5.out HM5.out).mono ?_; rintro e w6 ⟨rfl, hb⟩; replace B := Rw.next B hb))
            go_ret
            exact ⟨by rw [HA.out]; rfl, B⟩
          | true =>
            have HA : Hid (A = 0) := HC.out
            clear HC
            go_enter Tryz.func25, Tryz.ntmps25
            go_wp2_with (first
              | (go_at_call 50; rw [← hW1]; clear hW1; refine hAt.mono ?_; rintro e w1 ⟨hb, s, rfl, hs, hT, hn⟩; have HT : Hid (told kdHa s.Q = atoms r.l) := hT; have HO1 : Hid (r.Ok 0 w1) := ⟨HO.out.1.below hb, HO.out.2.below hb⟩; have HM1 : Hid (Mem w1 b L) := HM.out.below hb; replace k0 := (hb.block _ (Pl.blk_lt k0)).trans k0; replace B := Rw.next B hb; clear r0 r1 r2 r3; obtain ⟨r0, r1, r2, r3⟩ := four k0; clear hb hT hAt; have t1 : True := trivial)
              | (go_at_call 51; clear t1; refine (h3 s _ hs HM1.out HT.out).mono ?_; rintro e w2 ⟨rfl, hb⟩; have HO2 : Hid (r.Ok 0 w2) := ⟨HO1.out.1.below hb, HO1.out.2.below hb⟩; have HM2 : Hid (Mem w2 b L) := HM1.out.below hb; replace hs := hs.below hb; replace k0 := (hb.block _ (Pl.blk_lt k0)).trans k0; replace B := Rw.next B hb; clear r0 r1 r2 r3; obtain ⟨r0, r1, r2, r3⟩ := four k0; clear hb h3; have t2 : True := trivial)
              | (go_at_call 51; clear t2; refine (h4 s _ hs HM2.out HT.out).mono ?_; rintro e w3 ⟨rfl, hb⟩; have HO3 : Hid (r.Ok 0 w3) := ⟨HO2.out.1.below hb, HO2.out.2.below hb⟩; have HM3 : Hid (Mem w3 b L) := HM2.out.below hb; clear hs; replace k0 := (hb.block _ (Pl.blk_lt k0)).trans k0; replace B := Rw.next B hb; clear r0 r1 r2 r3; obtain ⟨r0, r1, r2, r3⟩ := four k0; clear hb h4)
              | (go_at_call 54; refine (h5 _ HO3.out HM3.out).mono ?_; rintro e w4 ⟨rfl, hb⟩; have HO4 : Hid (r.Ok 0 w4) := ⟨HO3.out.1.below hb, HO3.out.2.below hb⟩; have HM4 : Hid (Mem w4 b L) := HM3.out.below hb; replace k0 := (hb.block _ (Pl.blk_lt k0)).trans k0; replace B := Rw.next B hb; clear r0 r1 r2 r3; obtain ⟨r0, r1, r2, r3⟩ := four k0; clear hb h5)
              | (go_at_call 55; refine (h6 _ HO4.out HM4.out).mono ?_; rintro e w5 ⟨rfl, hb⟩; have HO5 : Hid (r.Ok 0 w5) := ⟨HO4.out.1.below hb, HO4.out.2.below hb⟩; have HM5 : Hid (Mem w5 b L) := HM4.out.below hb; replace k0 := (hb.block _ (Pl.blk_lt k0)).trans k0; replace B := Rw.next B hb; clear r0 r1 r2 r3; obtain ⟨r0, r1, r2, r3⟩ := four k0; clear hb h6)
              | (go_at_call 57; refine (h7 _ HO5.out HM5.out).mono ?_; rintro e w6 ⟨rfl, hb⟩; replace B := Rw.next B hb))
            go_ret
            exact ⟨by rw [HA.out]; rfl, B⟩

end Go.Proofs.YtljlgjgfmgilaaaGreat.Nq

namespace Go.Proofs.YtljlgjgfmgilaaaGreat.Nq
set_option maxRecDepth 8000
set_option linter.unusedSimpArgs false
set_option linter.unusedVariables false
open Go Go.ChangeShapes Go.WideShapes Go.RowKit
open Num Pl Pm
open Nb (Mem)

/-- A map with how often it was written. -/
def MemU (w : World) (b k : Nat) (L : List Nv) : Prop := ∃ D, Nb.Owns w b k D ∧ Nb.Is D L
theorem MemU.mem {w : World} {b k : Nat} {L : List Nv} (h : MemU w b k L) : Mem w b L := by
  obtain ⟨D, h1, h2⟩ := h
  exact ⟨k, D, h1, h2⟩
theorem MemU.below {w w' : World} {b k : Nat} {L : List Nv} (h : MemU w b k L) (hb : Below w.heap.size w w') : MemU w' b k L := by
  obtain ⟨D, h1, h2⟩ := h
  exact ⟨D, Nb.owns_below h1 hb, h2⟩
theorem MemU.put {w : World} {b k : Nat} {L : List Nv} (h : MemU w b k L) (hk : k < 1000) (s : ByteArray) (hs : s.size ≤ maxLen) (d : Dc) :
    ∃ w', (Instr.mapUpdate 59 (.map (some b)) (.string s) (.agg #[.int .i64 d.k, .string d.s, .int .i64 d.ar])).run Tryz.prog w = .ok () w' ∧ MemU w' b (k + 1) (Nb.putL L (s, d)) ∧ w.grownBy w' (some b) := by
  obtain ⟨D, h1, h2⟩ := h
  obtain ⟨w', hr, h3, h4⟩ := h1.update Nb.law Tryz.underlying59 (by unfold maxLen; omega) (Nb.key_mk hs) (Nb.elem_mk d)
  exact ⟨w', hr, ⟨_, h3, h2.put (p := (s, d)) hs⟩, h4⟩
theorem put_given : Nb.putL (Nb.putL [] (pk, gPk)) (fw, gFw) = given := by
  rw [Nb.put_new (L := []) (fun q hq => by simp at hq), Nb.put_new (fun q hq => by simp at hq; subst hq; exact pk_fw)]; rfl

set_option maxHeartbeats 4000000 in
theorem given_any (w : World) : Calls Tryz.prog 23 #[] w fun e w' => Below w.heap.size w w' ∧ e = .returned (.map (some w.heap.size)) ∧ MemU w' w.heap.size 2 given := by
  obtain ⟨W1, hW1⟩ : ∃ W1, W1 = w.alloc (.map #[] 0) := ⟨_, rfl⟩
  have B : Below w.heap.size w W1 := by rw [hW1]; exact below_alloc1 _ _
  have m0 : MemU W1 w.heap.size 0 [] := by
    refine ⟨.map [], ?_, Nb.is_nil⟩
    rw [hW1]
    exact World.ownsMap_made w Tryz.prog 9 Nb.elem
  obtain ⟨w2, q1, m1, g1⟩ := m0.put (by omega) pk (by unfold maxLen; decide) gPk
  obtain ⟨w3, q2, m2, g2⟩ := m1.put (by omega) fw (by unfold maxLen; decide) gFw
  have B2 := Nb.grown_below B g1 (Nat.le_refl _)
  have B3 := Nb.grown_below B2 g2 (Nat.le_refl _)
  rw [put_given] at m2
  unfold pk at q1
  unfold fw at q2
  simp only [gPk, gFw, pk, fw] at q1 q2
  rw [hW1] at q1
  have hmm := @run_makeMap Tryz.prog
  clear hW1 m0 m1 g1 g2 B B2
  go_enter Tryz.func23, Tryz.ntmps23
  go_wp2
  go_ret
  exact ⟨B3, rfl, m2⟩

theorem taken_look (D : List Dc) (k : Nat) (hk : k < D.length) : (lkp (full (D.take k)) (D.getD k dc0).s).isSome = taken D k := by
  rw [look_full]
  unfold taken
  generalize hs : (D.getD k dc0).s = s
  by_cases h1 : s = pk
  · simp [h1]
  · by_cases h2 : s = fw
    · simp [h1, h2, Ne.symm pk_fw]
    · rw [if_neg h1, if_neg h2]
      simp only [h1, h2, decide_false, Bool.false_or]
      refine Bool.eq_iff_iff.2 ?_
      rw [List.find?_isSome, List.any_eq_true]
      constructor
      · rintro ⟨d, hd, he⟩
        obtain ⟨i, hi, rfl⟩ := List.getElem_of_mem hd
        simp only [List.length_take] at hi
        refine ⟨i, List.mem_range.2 (by omega), ?_⟩
        have e : D.getD i dc0 = D[i]'(by omega) := by simp [List.getD, show i < D.length by omega]
        rw [e]
        simpa using he
      · rintro ⟨i, hi, he⟩
        have hi' := List.mem_range.1 hi
        have e : D.getD i dc0 = D[i]'(by omega) := by simp [List.getD, show i < D.length by omega]
        rw [e] at he
        refine ⟨D[i]'(by omega), ?_, by simpa using he⟩
        rw [List.mem_take_iff_getElem]
        exact ⟨i, by omega, rfl⟩
theorem full_step (D : List Dc) (k : Nat) (hk : k < D.length) (h : taken D k = false) : Nb.putL (full (D.take k)) ((D.getD k dc0).s, D.getD k dc0) = full (D.take (k + 1)) := by
  have hl := taken_look D k hk
  rw [h] at hl
  rw [Nb.put_new (fun q hq e => ?_)]
  · unfold full
    rw [List.take_add_one, List.map_append, List.append_assoc]
    congr 2
    simp [List.getD, hk, dv]
  · unfold lkp at hl
    rw [Option.isSome_map] at hl
    have hnone := Option.not_isSome_iff_eq_none.1 (show ¬ _ = true by rw [hl]; simp)
    exact List.find?_eq_none.1 hnone q hq (by simpa using e)

set_option maxHeartbeats 4000000 in
theorem declare_any (s : Sl Dc) (b : Nat) (w : World) (h : Rd kdDc 0 w s) (hlow : ∀ (h0 : 0 < s.Q.length), s.b < b) (hn : s.Q.length ≤ 16) (hm : MemU w b 2 given) :
    Calls Tryz.prog 24 #[.map (some b), .slice s.a s.Q.length s.c] w fun e w' => Below b w w' ∧ ∃ i : Nat, e = .returned (.int .i64 i) ∧ (∀ j, j < i → taken s.Q j = false) ∧ ((i < s.Q.length ∧ taken s.Q i = true) ∨ (i = s.Q.length ∧ Mem w' b (full s.Q))) := by
  obtain ⟨sa, sb, so, sc, Q⟩ := s
  simp only at h hlow hn ⊢
  obtain ⟨n, hn0⟩ : ∃ n, n = Q.length := ⟨_, rfl⟩
  have HTK : Hid (∀ k, k < n → (lkp (full (Q.take k)) (Q.getD k dc0).s).isSome = taken Q k) := fun k hk => taken_look Q k (by omega)
  have HST : Hid (∀ k, k < n → taken Q k = false → Nb.putL (full (Q.take k)) ((Q.getD k dc0).s, Q.getD k dc0) = full (Q.take (k + 1))) := fun k hk ht => full_step Q k (by omega) ht
  have HFU : Hid (full (Q.take n) = full Q) := by rw [Hid, hn0, List.take_length]
  have HSZ : Hid (∀ k, k < n → (Q.getD k dc0).s.size ≤ maxLen) := fun k hk => h.ok k (by simp only; omega)
  have hbw : b < w.heap.size := hm.mem.lt
  have HMU : Hid (MemU w b (0 + 2) (full (Q.take 0))) := by rw [Hid]; simpa [full] using hm
  rw [← hn0] at hn hlow ⊢
  have HN : Hid (n = Q.length) := hn0
  clear hm hn0
  go_enter Tryz.func24, Tryz.ntmps24
  go_wp2
  go_loopw [11] (fun i wr => ∃ k : Nat, k ≤ n ∧ i = .int .i64 k ∧ Below b w wr ∧ MemU wr b (k + 2) (full (Q.take k)) ∧ ∀ j, j < k → taken Q j = false) (fun i _ => n - (intOf i).toNat)
  case atStart => exact ⟨0, Nat.zero_le _, rfl, ⟨rfl, rfl, rfl, Nat.le_refl _, fun _ _ => rfl⟩, HMU.out, fun j hj => by omega⟩
  case round =>
    obtain ⟨k, hk, rfl, hbel, hmu, hpre⟩ := hrel
    have HP : Hid (∀ j, j < k → taken Q j = false) := hpre
    have HMK : Hid (MemU wr b (k + 2) (full (Q.take k))) := hmu
    clear hpre hmu HMU
    have hsz := hbel.size
    by_cases hlt : k < n
    · have hh := h.head (by have := HN.out; simp only; omega)
      have hkz : (k : Int) < (n : Int) := by omega
      obtain ⟨c0, c1, c2⟩ := cellsDc h (i := k) (by have := HN.out; simp only; omega)
      simp only at hh c0 c1 c2
      obtain rfl := hh
      have hsb := hlow (by omega)
      replace c0 := (hbel.cell (by exact hsb)).trans c0
      replace c1 := (hbel.cell (by exact hsb)).trans c1
      replace c2 := (hbel.cell (by exact hsb)).trans c2
      have hT := HTK.out k hlt
      have HS1 : Hid (taken Q k = false → Nb.putL (full (Q.take k)) ((Q.getD k dc0).s, Q.getD k dc0) = full (Q.take (k + 1))) := HST.out k hlt
      have hs1 := HSZ.out k hlt
      obtain ⟨y, hy⟩ : ∃ y, y = Q.getD k dc0 := ⟨_, rfl⟩
      rw [← hy] at c0 c1 c2 hT HS1 hs1
      have b2 := below_alloc1 wr (.cells #[.int .i64 y.k, .string y.s, .int .i64 y.ar] 48)
      have m2 := HMK.out.below b2
      obtain ⟨q1, q2⟩ := m2.mem.run hs1
      rw [hT] at q2
      generalize lk (full (Q.take k)) y.s = d at q1 q2
      have b3 := below_alloc1 (wr.alloc (.cells #[.int .i64 y.k, .string y.s, .int .i64 y.ar] 48)) (.cells #[.int .i64 d.k, .string d.s, .int .i64 d.ar] 48)
      have m3 := m2.below b3
      have D3 : Below b w ((wr.alloc (.cells #[.int .i64 y.k, .string y.s, .int .i64 y.ar] 48)).alloc (.cells #[.int .i64 d.k, .string d.s, .int .i64 d.ar] 48)) := by
        refine ⟨hbel.os, hbel.tape, hbel.output, by simp; omega, fun i hi => ?_⟩
        rw [b3.block i (by simp; omega), b2.block i (by omega), hbel.block i hi]
      clear h HSZ HTK HST b2 b3 hy
      cases ht : taken Q k with
      | true =>
        have HTT : Hid (taken Q k = true) := ht
        rw [ht] at q2
        clear hT HS1 m2 m3 q1 ht
        go_wp2
        go_ret
        exact ⟨D3, k, rfl, HP.out, .inl ⟨hlt, HTT.out⟩⟩
      | false =>
        have HTF : Hid (taken Q k = false) := ht
        have HPT : Hid (Nb.putL (full (Q.take k)) (y.s, y) = full (Q.take (k + 1))) := HS1.out ht
        rw [ht] at q2
        obtain ⟨w5, q5, m5, g5⟩ := m3.put (by omega) y.s hs1 y
        rw [HPT.out] at m5
        have D5 : Below b w w5 := D3.grown g5 (by have := D3.size; omega) (fun j hj => by cases hj; exact Nat.le_refl _)
        have HM5 : Hid (MemU w5 b (k + 2 + 1) (full (Q.take (k + 1)))) := m5
        have HPP : Hid (∀ j, j < k + 1 → taken Q j = false) := fun j hj => by
          by_cases e : j = k
          · subst e; exact HTF.out
          · exact HP.out j (by omega)
        clear hT HS1 m2 m3 m5 g5 q1 ht HPT HP HMK
        go_wp2
        go_roundw
        case rel => exact ⟨k + 1, by omega, by go_num, D5, by have := HM5.out; rwa [show k + 2 + 1 = k + 1 + 2 by omega] at this, HPP.out⟩
        case measure => simp [intOf]; omega
    · have he : k = n := by omega
      subst he
      clear h
      go_wp2
      go_ret
      exact ⟨hbel, k, rfl, HP.out, .inr ⟨rfl, by have := HMK.out.mem; rwa [HFU.out] at this⟩⟩

end Go.Proofs.YtljlgjgfmgilaaaGreat.Nq

namespace Go.Proofs.YtljlgjgfmgilaaaGreat.Nq
set_option maxRecDepth 8000
set_option linter.unusedSimpArgs false
set_option linter.unusedVariables false
open Go Go.ChangeShapes Go.WideShapes Go.RowKit
open Num Pl Pm
open Nb (Mem)

theorem below_low {n g : Nat} {a u v : World} (h : Below n a u) (hd : Below g u v) (hn : n ≤ g) : Below n a v := h.trans ⟨hd.os, hd.tape, hd.output, hd.size, fun i hi => hd.block i (by omega)⟩
theorem lit_kind {l : LtL} (h : litB l = true) : 1 ≤ l.1 ∧ l.1 ≤ 3 := by
  unfold litB at h
  by_cases h3 : l.1 = 3
  · omega
  · rw [if_neg h3] at h
    simp only [Bool.and_eq_true, decide_eq_true_eq] at h
    omega
theorem rule_len {r : Rm} (h : ruleB r.l = true) : r.B.Q.length ≤ 8 := by
  have h' : (decide (1 ≤ r.k ∧ r.k ≤ 3) && (atomB r.h.l && (decide ((told kdLm r.B.Q).length ≤ 8) && (told kdLm r.B.Q).all litB))) = true := h
  simp only [Bool.and_eq_true, decide_eq_true_eq, told_len] at h'
  exact h'.2.2.1
theorem rule_kinds {r : Rm} (h : ruleB r.l = true) : ∀ i, i < r.B.Q.length → 1 ≤ (r.B.Q.getD i lm0).k ∧ (r.B.Q.getD i lm0).k ≤ 3 := fun i hi => by
  have h' : (decide (1 ≤ r.k ∧ r.k ≤ 3) && (atomB r.h.l && (decide ((told kdLm r.B.Q).length ≤ 8) && (told kdLm r.B.Q).all litB))) = true := h
  simp only [Bool.and_eq_true] at h'
  have e : (told kdLm r.B.Q).getD i lt0 = kdLm.l (r.B.Q.getD i lm0) := told_get _ _
  have e2 : (told kdLm r.B.Q).getD i lt0 = (told kdLm r.B.Q)[i]'(by rw [told_len]; exact hi) := by simp [List.getD, told_len, hi]
  have := List.all_eq_true.1 h'.2.2.2 _ (List.getElem_mem (by rw [told_len]; exact hi))
  rw [← e2, e] at this
  exact lit_kind this
theorem rule_get (x : Pg) (i : Nat) : x.l.2.getD i rl0 = (x.R.Q.getD i rm0).l := told_at (K := kdRm) x.R.Q i
/-- What both functions answer, told step by step. -/
structure Ans (x : Pg) (A : Nat × Nat) : Prop where
  dup : ∀ i, i < x.D.Q.length → (∀ j, j < i → taken x.D.Q j = false) → taken x.D.Q i = true → A = (2, i)
  rule : (∀ j, j < x.D.Q.length → taken x.D.Q j = false) → ∀ i, i < x.R.Q.length → (∀ j, j < i → codeR x.D.Q (x.R.Q.getD j rm0).l = 0) → codeR x.D.Q (x.R.Q.getD i rm0).l ≠ 0 → A = (codeR x.D.Q (x.R.Q.getD i rm0).l, i)
  ok : (∀ j, j < x.D.Q.length → taken x.D.Q j = false) → (∀ j, j < x.R.Q.length → codeR x.D.Q (x.R.Q.getD j rm0).l = 0) → A = (0, 0)
theorem ans_of {x : Pg} (h : progB x.l = true) : Ans x (chk x.l) := by
  have hl : x.l.2.length = x.R.Q.length := told_len (K := kdRm) _
  refine ⟨fun i hi hb ht => chk_taken h hi ht hb, fun hd i hi hb ht => ?_, fun hd hb => chk_ok h hd fun j hj => ?_⟩
  · have := chk_rule h hd (i := i) (by rw [hl]; exact hi) (by rw [rule_get]; exact ht) (fun j hj => by rw [rule_get]; exact hb j hj)
    rw [rule_get] at this; exact this
  · rw [rule_get]; exact hb j (by rw [← hl]; exact hj)

set_option maxHeartbeats 8000000 in
theorem chkI_any (x : Pg) (w : World) (hx : x.Ok 0 w) : Calls Tryz.prog 8 #[.agg #[.slice x.D.a x.D.Q.length x.D.c, .slice x.R.a x.R.Q.length x.R.c]] w fun e w' => (∃ r : Nat × Nat, r = chk x.l ∧ e = .returned (.tuple #[.int .i64 r.1, .int .i64 r.2])) ∧ Below w.heap.size w w' := by
  obtain ⟨W1, hW1⟩ : ∃ W1, W1 = w.alloc (.cells #[.slice x.D.a x.D.Q.length x.D.c, .slice x.R.a x.R.Q.length x.R.c] 32) := ⟨_, rfl⟩
  have B : Below w.heap.size w W1 := by rw [hW1]; exact below_alloc1 _ _
  have k0 : W1.heap[w.heap.size]? = some (.cells #[.slice x.D.a x.D.Q.length x.D.c, .slice x.R.a x.R.Q.length x.R.c] 32 (0, 0)) := by rw [hW1]; exact at_new rfl
  obtain ⟨p0, p1⟩ := Pl.two k0
  have hP := progI_any x W1 (hx.below B)
  have HW : Hid (progB x.l = false → chk x.l = (1, 0)) := fun h => chk_wrong h
  have HA : Hid (progB x.l = true → Ans x (chk x.l)) := fun h => ans_of h
  have HD : Hid (progB x.l = true → x.D.Q.all declB = true ∧ x.D.Q.length ≤ 16 ∧ ∀ i, i < x.R.Q.length → ruleB (x.R.Q.getD i rm0).l = true) := fun h => ⟨prog_decl (p := x.l) h, (prog_len h).1, fun i hi => by rw [← rule_get]; exact prog_rule h (by show i < (told kdRm x.R.Q).length; rw [told_len]; exact hi)⟩
  generalize chk x.l = A at HW HA ⊢
  generalize progB x.l = P at hP HW HA HD
  have HX : Hid (x.Ok 0 w) := hx
  clear hx
  cases P with
  | false =>
    have HE : Hid ((1, 0) = A) := (HW.out rfl).symm
    clear HW HA HD
    go_enter Tryz.func8, Tryz.ntmps8
    go_wp2_with (go_at_call 22; rw [← hW1]; clear hW1; refine hP.mono ?_; rintro e w2 ⟨rfl, hb⟩; replace B := Rw.next B hb)
    refine bodyPost_ret (v := .tuple #[.int .i64 (1 : Nat), .int .i64 (0 : Nat)]) (by simp [results, Tryz.results8, go_sem]) rfl ?_
    exact ⟨⟨(1, 0), HE.out, rfl⟩, B⟩
  | true =>
    obtain ⟨HDc, HDl, HRl⟩ := HD.out rfl
    have HAN : Hid (Ans x A) := HA.out rfl
    have HDC : Hid (x.D.Q.all declB = true) := HDc
    have HRL : Hid (∀ i, i < x.R.Q.length → ruleB (x.R.Q.getD i rm0).l = true) := HRl
    have hDl : x.D.Q.length ≤ 16 := HDl
    clear HW HA HD HDc HRl HDl
    have hGv := given_any
    go_enter Tryz.func8, Tryz.ntmps8
    go_upto_region 4 with (first
      | (go_at_call 22; rw [← hW1]; clear hW1; refine hP.mono ?_; rintro e w2 ⟨rfl, hb⟩; replace k0 := (hb.block _ (Pl.blk_lt k0)).trans k0; replace B := Rw.next B hb; clear p0 p1 hb hP)
      | (go_at_call 23; refine (hGv _).mono ?_; rintro e w3 ⟨hb, rfl, hmu⟩; have HMU : Hid (MemU w3 w2.heap.size 2 given) := hmu; have hw2 := Pl.blk_lt k0; replace k0 := (hb.block _ (Pl.blk_lt k0)).trans k0; replace B := Rw.next B hb; clear hb hGv hmu; obtain ⟨p0, p1⟩ := Pl.two k0))
    obtain ⟨g, hg⟩ : ∃ g, g = w2.heap.size := ⟨_, rfl⟩
    rw [← hg] at HMU hw2 ⊢
    clear hg
    have hDe := declare_any x.D g w3 (HX.out.1.below B) (fun h0 => by have := HX.out.1.lt h0; omega) hDl HMU.out
    clear HMU
    go_upto_region 5 with (go_at_call 24; refine hDe.mono ?_; rintro e w4 ⟨hb, i, rfl, hno, hor⟩; have HNO : Hid (∀ j, j < i → taken x.D.Q j = false) := hno; have HOR : Hid ((i < x.D.Q.length ∧ taken x.D.Q i = true) ∨ (i = x.D.Q.length ∧ Mem w4 g (full x.D.Q))) := hor; replace k0 := (hb.block _ hw2).trans k0; replace B := below_low B hb (by omega); clear p0 p1 hb hno hor hDe; obtain ⟨p0, p1⟩ := Pl.two k0)
    rcases HOR.out with ⟨hlt, htk⟩ | ⟨hie, hmm⟩
    · have HE : Hid ((2, i) = A) := (HAN.out.dup i hlt HNO.out htk).symm
      have hlz : (i : Int) < (x.D.Q.length : Int) := by omega
      clear HOR HNO HAN htk
      go_wp2
      refine bodyPost_ret (v := .tuple #[.int .i64 (2 : Nat), .int .i64 (i : Nat)]) (by simp [results, Tryz.results8, go_sem]) rfl ?_
      exact ⟨⟨(2, i), HE.out, rfl⟩, B⟩
    · have HNT : Hid (∀ j, j < x.D.Q.length → taken x.D.Q j = false) := fun j hj => HNO.out j (by omega)
      have HM : Hid (Mem w4 g (full x.D.Q)) := hmm
      have hlz : ¬ (i : Int) < (x.D.Q.length : Int) := by omega
      clear HOR HNO hmm hie
      obtain ⟨w5, rfl⟩ : ∃ w5, w5 = w4 := ⟨_, rfl⟩
      have hR : Rd kdRm 0 w5 x.R := HX.out.2.below B
      obtain ⟨n, hn⟩ : ∃ n, n = x.R.Q.length := ⟨_, rfl⟩
      have HN : Hid (n = x.R.Q.length) := hn
      have hnm : n ≤ maxLen := by rw [hn]; exact HX.out.2.len
      unfold maxLen at hnm
      rw [← hn] at p1 k0 ⊢
      clear hn
      obtain ⟨ra, hra⟩ : ∃ ra, ra = x.R.a := ⟨_, rfl⟩
      have HRA : Hid (ra = x.R.a) := hra
      rw [← hra] at p1 k0 ⊢
      clear hra
      go_wp2
      go_loopw [26] (fun i wr => ∃ k : Nat, k ≤ n ∧ i = .int .i64 k ∧ Below w5.heap.size w5 wr ∧ ∀ j, j < k → codeR x.D.Q (x.R.Q.getD j rm0).l = 0) (fun i _ => n - (intOf i).toNat)
      case atStart => exact ⟨0, Nat.zero_le _, rfl, Below.refl _ _, fun j hj => by omega⟩
      case round =>
        obtain ⟨k, hk, rfl, D, hpre⟩ := hrel
        have HP : Hid (∀ j, j < k → codeR x.D.Q (x.R.Q.getD j rm0).l = 0) := hpre
        clear hpre
        by_cases hlt : k < n
        · have hh : ra = some ⟨x.R.b, x.R.o, none⟩ := HRA.out.trans (hR.head (by have := HN.out; omega))
          subst hh
          have hkz : (k : Int) < (n : Int) := by omega
          obtain ⟨c0, c1, c2, c3⟩ := cellsRm (hR.below D) (i := k) (by have := HN.out; omega)
          have hok := (hR.below D).ok k (by have := HN.out; omega)
          have hru := HRL.out k (by have := HN.out; omega)
          obtain ⟨r, hr⟩ : ∃ r, r = x.R.Q.getD k rm0 := ⟨_, rfl⟩
          have hok2 : r.Ok 0 wr := by rw [hr]; exact hok
          rw [← hr] at hru c0 c1 c2 c3
          have HRU : Hid (codeR x.D.Q r.l ≠ 0 → A = (codeR x.D.Q r.l, k)) := fun h => by
            rw [hr] at h ⊢; exact HAN.out.rule HNT.out k (by have := HN.out; omega) HP.out h
          have HST : Hid (codeR x.D.Q r.l = 0 → ∀ j, j < k + 1 → codeR x.D.Q (x.R.Q.getD j rm0).l = 0) := fun h j hj => by
            by_cases e : j = k
            · subst e; rw [← hr]; exact h
            · exact HP.out j (by omega)
          have hC : ∀ W, r.Ok 0 W → Mem W g (full x.D.Q) → Calls Tryz.prog 25 #[.map (some g), .agg #[.int .i64 r.k, .string r.h.s, .slice r.h.A.a r.h.A.Q.length r.h.A.c, .slice r.B.a r.B.Q.length r.B.c]] W fun e w' => e = .returned (.int .i64 (codeR x.D.Q r.l : Nat)) ∧ Below W.heap.size W w' := fun W h h' => by
            rw [← code_same HDC.out HNT.out hru]; exact codeI_any r g _ W h h' (rule_len hru)
          generalize codeR x.D.Q r.l = V at HRU HST hC
          have b2 := below_alloc1 wr (.cells #[.int .i64 r.k, .string r.h.s, .slice r.h.A.a r.h.A.Q.length r.h.A.c, .slice r.B.a r.B.Q.length r.B.c] 55)
          have hok3 : r.Ok 0 (wr.alloc (.cells #[.int .i64 r.k, .string r.h.s, .slice r.h.A.a r.h.A.Q.length r.h.A.c, .slice r.B.a r.B.Q.length r.B.c] 55)) := ⟨hok2.1.below b2, hok2.2.below b2⟩
          have D2 := Rw.next D b2
          have HM2 : Hid (Mem (wr.alloc (.cells #[.int .i64 r.k, .string r.h.s, .slice r.h.A.a r.h.A.Q.length r.h.A.c, .slice r.B.a r.B.Q.length r.B.c] 55)) g (full x.D.Q)) := (HM.out.below D).below b2
          have hCC := hC _ hok3 HM2.out
          clear hR hok hok2 hok3 hr hru HP hC
          by_cases hv : V = 0
          · subst hv
            have HS2 : Hid (∀ j, j < k + 1 → codeR x.D.Q (x.R.Q.getD j rm0).l = 0) := HST.out rfl
            clear HRU HST
            go_wp2_with (go_at_call 25; refine hCC.mono ?_; rintro e w7 ⟨rfl, hb⟩; replace D2 := Rw.next D2 hb)
            go_roundw
            case rel => first | ((repeat apply Exists.intro); exact ⟨⟨k + 1, by omega, by go_num, D2, HS2.out⟩, rfl⟩) | exact ⟨k + 1, by omega, by go_num, D2, HS2.out⟩
            case measure => simp [intOf]; omega
          · have HE : Hid ((V, k) = A) := (HRU.out hv).symm
            have hvz : ¬ (V : Int) = 0 := by omega
            clear HRU HST
            go_wp2_with (go_at_call 25; refine hCC.mono ?_; rintro e w7 ⟨rfl, hb⟩; replace D2 := Rw.next D2 hb)
            refine bodyPost_ret (v := .tuple #[.int .i64 (V : Nat), .int .i64 (k : Nat)]) (by simp [results, Tryz.results8, go_sem]) rfl ?_
            exact ⟨⟨(V, k), HE.out, rfl⟩, Rw.next B D2⟩
        · have he : k = n := by omega
          have HE : Hid ((0, 0) = A) := (HAN.out.ok HNT.out (fun j hj => HP.out j (by have := HN.out; omega))).symm
          subst he
          clear hR HP
          go_wp2
          refine bodyPost_ret (v := .tuple #[.int .i64 (0 : Nat), .int .i64 (0 : Nat)]) (by simp [results, Tryz.results8, go_sem]) rfl ?_
          exact ⟨⟨(0, 0), HE.out, rfl⟩, Rw.next B D⟩

end Go.Proofs.YtljlgjgfmgilaaaGreat.Nq

