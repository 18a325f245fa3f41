/-
  What is right of a program, plain; terms, names, declarations: both sides.
-/
import Derived.Test.YtljlgjgfmgilaaaGreatPrd
import Derived.Test.YtljlgjgfmgilaaaGreatVl
import Derived.Test.YtljlgjgfmgilaaaGreatLv
import Derived.Test.YtljlgjgfmgilaaaGreatLk
namespace Go.Proofs.YtljlgjgfmgilaaaGreat.Pm
set_option maxRecDepth 8000
set_option linter.unusedSimpArgs false
set_option linter.unusedVariables false
open Go Go.ChangeShapes Go.WideShapes Go.RowKit
open Num Pl Word
open Lv (varB)
open Lk (keptB)
open Vl (valB)

theorem ret_bool {a b : Bool} (h : a = b) : Ending.returned (.bool a) = .returned (.bool b) := by rw [h]
def nameB (s : ByteArray) : Bool := wordB s && !keptB s
def zeroV (n : Int) (s : ByteArray) : Bool := decide (n = 0 ∧ s = ⟨#[]⟩)
def zeroT (x : Tm) : Bool := decide (x.v = ⟨#[]⟩ ∧ x.n = 0 ∧ x.s = ⟨#[]⟩)
/-- Is the term right? -/
def termB (x : Tm) : Bool := if x.v.toList.isEmpty = true then valB (x.n, x.s) && !keptB x.s else varB x.v && zeroV x.n x.s
def atomB (a : AtL) : Bool := nameB a.1 && (decide (a.2.length ≤ 6) && a.2.all termB)
def compB (k : LtL) : Bool := decide (k.2.1.1 = ⟨#[]⟩ ∧ k.2.1.2.length = 0 ∧ 1 ≤ k.2.2.1 ∧ k.2.2.1 ≤ 4) && (termB k.2.2.2.1 && termB k.2.2.2.2)
def litB (k : LtL) : Bool := if k.1 = 3 then compB k else decide (k.1 = 1 ∨ k.1 = 2) && (atomB k.2.1 && (decide (k.2.2.1 = 0) && (zeroT k.2.2.2.1 && zeroT k.2.2.2.2)))
def ruleB (r : RuL) : Bool := decide (1 ≤ r.1 ∧ r.1 ≤ 3) && (atomB r.2.1 && (decide (r.2.2.length ≤ 8) && r.2.2.all litB))
def declB (d : Dc) : Bool := decide (1 ≤ d.k ∧ d.k ≤ 3) && (nameB d.s && decide (0 ≤ d.ar ∧ d.ar ≤ 6))
/-- Is the program right? -/
def progB (p : PgL) : Bool := (decide (p.1.length ≤ 16) && p.1.all declB) && (decide (p.2.length ≤ 24) && p.2.all ruleB)

theorem emp (s : ByteArray) : (s.toList.isEmpty = true) ↔ s = ⟨#[]⟩ := by
  rw [ByteArray.toList_eq, List.isEmpty_iff]
  constructor
  · intro h
    exact ByteArray.ext (Array.toList_inj.1 h)
  · rintro rfl; rfl
theorem run_eqV (n : Int) (s : ByteArray) (w : World) : (binOp .eql 92 (.agg #[.int .i64 n, .string s]) (.agg #[.int .i64 0, .string ⟨#[]⟩])).run Tryz.prog w = .ok (.bool (zeroV n s)) w := by
  have h1 : Tryz.prog.stoodInHeld 92 = false := by kernel_rfl
  rw [run_eql_struct]
  have e : (Op.equalIn 10000 92 (.agg #[.int .i64 n, .string s]) (.agg #[.int .i64 0, .string ⟨#[]⟩])).run Tryz.prog w = .ok (zeroV n s) w := by
    show (Op.equalIn (9998 + 1 + 1) 92 _ _).run Tryz.prog w = _
    simp [go_sem, h1]
    unfold zeroV
    by_cases e1 : n = 0
    · subst e1
      by_cases e2 : s = ⟨#[]⟩
      · subst e2; simp
      · have e3 : ¬ s.toList.isEmpty = true := fun q => e2 ((emp s).1 q)
        have e4 : ¬ s.toList = [] := fun q => e3 (by rw [q]; rfl)
        simp [e2, e4]
    · simp [e1]
  rw [e]
  rfl
theorem run_eqT (x : Tm) (w : World) : (binOp .eql 94 (.agg #[.string x.v, .int .i64 x.n, .string x.s]) (.agg #[.string ⟨#[]⟩, .int .i64 0, .string ⟨#[]⟩])).run Tryz.prog w = .ok (.bool (zeroT x)) w := by
  have h1 : Tryz.prog.stoodInHeld 92 = false := by kernel_rfl
  have h2 : Tryz.prog.stoodInHeld 94 = false := by kernel_rfl
  rw [run_eql_struct]
  have e : (Op.equalIn 10000 94 (.agg #[.string x.v, .int .i64 x.n, .string x.s]) (.agg #[.string ⟨#[]⟩, .int .i64 0, .string ⟨#[]⟩])).run Tryz.prog w = .ok (zeroT x) w := by
    show (Op.equalIn (9997 + 1 + 1 + 1) 94 _ _).run Tryz.prog w = _
    obtain ⟨v, n, s⟩ := x
    simp [go_sem, h1, h2]
    unfold zeroT
    by_cases e0 : v = ⟨#[]⟩
    · subst e0
      by_cases e1 : n = 0
      · subst e1
        by_cases e2 : s = ⟨#[]⟩
        · subst e2; simp
        · have e3 : ¬ s.toList.isEmpty = true := fun q => e2 ((emp s).1 q)
          have e4 : ¬ s.toList = [] := fun q => e3 (by rw [q]; rfl)
          simp [e2, e4]
      · simp [e1]
    · have e3 : ¬ v.toList.isEmpty = true := fun q => e0 ((emp v).1 q)
      have e4 : ¬ v.toList = [] := fun q => e3 (by rw [q]; rfl)
      simp [e0, e4]
  rw [e]
  rfl

theorem nameI_any (s : ByteArray) (w : World) (hs : s.size ≤ maxLen) : Calls Tryz.prog 81 #[.string s] w fun e w' => e = .returned (.bool (nameB s)) ∧ w' = w := by
  have h1 := implWord_any s w hs
  have h2 := Lk.keptI_any s w
  unfold nameB
  generalize wordB s = A at h1 ⊢
  generalize keptB s = C at h2 ⊢
  cases A <;> cases C
  all_goals
    go_enter Tryz.func81, Tryz.ntmps81
    go_wp2_with (first
      | (go_at_call 110; refine h1.mono ?_; rintro e w1 ⟨rfl, hw⟩; replace hw := hw.symm; subst hw)
      | (go_at_call 111; refine h2.mono ?_; rintro e w1 ⟨rfl, hw⟩; replace hw := hw.symm; subst hw))
    go_ret
    exact ⟨rfl, rfl⟩
theorem nameS_any (s : ByteArray) (w : World) (hs : s.size ≤ maxLen) : Calls Tryz.prog 38 #[.string s] w fun e w' => e = .returned (.bool (nameB s)) ∧ w' = w := by
  have h1 := specWord_any s w hs
  have h2 := Lk.keptS_any s w
  unfold nameB
  generalize wordB s = A at h1 ⊢
  generalize keptB s = C at h2 ⊢
  cases A <;> cases C
  all_goals
    go_enter Tryz.func38, Tryz.ntmps38
    go_wp2_with (first
      | (go_at_call 73; refine h1.mono ?_; rintro e w1 ⟨rfl, hw⟩; replace hw := hw.symm; subst hw)
      | (go_at_call 74; refine h2.mono ?_; rintro e w1 ⟨rfl, hw⟩; replace hw := hw.symm; subst hw))
    go_ret
    exact ⟨rfl, rfl⟩
/-- The function says whether a term is right. -/
def SaysT (f : FuncId) : Prop := ∀ (x : Tm) (w : World), x.Ok → Calls Tryz.prog f #[.agg #[.string x.v, .int .i64 x.n, .string x.s]] w fun e w' => e = .returned (.bool (termB x)) ∧ Below w.heap.size w w'
set_option maxHeartbeats 2000000 in
theorem termI_any : SaysT 114 := by
  intro x w hx
  have B := below_alloc1 w (.cells #[.string x.v, .int .i64 x.n, .string x.s] 94)
  have D := below_alloc2 w (.cells #[.string x.v, .int .i64 x.n, .string x.s] 94) (.cells #[.string x.v, .int .i64 x.n, .string x.s] 94)
  have hz := run_eqV x.n x.s
  have hv := fun W => Lv.varI_any x.v W
  have hk := fun W => Lk.keptI_any x.s W
  have ho := fun W => Vl.okI_any (x.n, x.s) W hx.2
  unfold termB
  generalize zeroV x.n x.s = Z at hz ⊢
  generalize varB x.v = V at hv ⊢
  generalize keptB x.s = C at hk ⊢
  generalize valB (x.n, x.s) = A at ho ⊢
  simp only at ho
  cases he : x.v.toList.isEmpty with
  | true =>
    cases A <;> cases C
    all_goals
      go_enter Tryz.func114, Tryz.ntmps114
      go_wp2_with (first
        | (go_at_call 143; refine (ho _).mono ?_; rintro e w1 ⟨rfl, hb⟩; replace B := Rw.next B hb; have k0 := (hb.block w.heap.size (by simp)).trans (at_new rfl); have c0 := blk_cell (u := .string x.v) k0 0 rfl; have c1 := blk_cell (u := .int .i64 x.n) k0 1 rfl; have c2 := blk_cell (u := .string x.s) k0 2 rfl)
        | (go_at_call 111; refine (hk _).mono ?_; rintro e w2 ⟨rfl, hw⟩; replace hw := hw.symm; subst hw))
      go_ret
      exact ⟨rfl, B⟩
  | false =>
    cases V <;> cases Z
    all_goals
      go_enter Tryz.func114, Tryz.ntmps114
      go_wp2_with (go_at_call 142; refine (hv _).mono ?_; rintro e w1 ⟨rfl, hb⟩; replace B := Rw.next B hb; have k0 := (hb.block w.heap.size (by simp)).trans (at_new rfl); have c0 := blk_cell (u := .string x.v) k0 0 rfl; have c1 := blk_cell (u := .int .i64 x.n) k0 1 rfl; have c2 := blk_cell (u := .string x.s) k0 2 rfl)
      go_ret
      exact ⟨rfl, B⟩
set_option maxHeartbeats 2000000 in
theorem termS_any : SaysT 106 := by
  intro x w hx
  have B := below_alloc1 w (.cells #[.string x.v, .int .i64 x.n, .string x.s] 94)
  have hz := run_eqV x.n x.s
  have hv := fun W => Lv.varS_any x.v W hx.1
  have hk := fun W => Lk.keptS_any x.s W
  have ho := fun W => Vl.okS_any (x.n, x.s) W hx.2
  unfold termB
  generalize zeroV x.n x.s = Z at hz ⊢
  generalize varB x.v = V at hv ⊢
  generalize keptB x.s = C at hk ⊢
  generalize valB (x.n, x.s) = A at ho ⊢
  simp only at ho
  cases he : x.v.toList.isEmpty with
  | true =>
    cases A <;> cases C
    all_goals
      go_enter Tryz.func106, Tryz.ntmps106
      go_wp2_with (first
        | (go_at_call 136; refine (ho _).mono ?_; rintro e w1 ⟨rfl, hb⟩; replace B := Rw.next B hb; have k0 := (hb.block w.heap.size (by simp)).trans (at_new rfl); have c0 := blk_cell (u := .string x.v) k0 0 rfl; have c1 := blk_cell (u := .int .i64 x.n) k0 1 rfl; have c2 := blk_cell (u := .string x.s) k0 2 rfl)
        | (go_at_call 74; refine (hk _).mono ?_; rintro e w2 ⟨rfl, hw⟩; replace hw := hw.symm; subst hw))
      go_ret
      exact ⟨rfl, B⟩
  | false =>
    cases V <;> cases Z
    all_goals
      go_enter Tryz.func106, Tryz.ntmps106
      go_wp2_with (go_at_call 135; refine (hv _).mono ?_; rintro e w1 ⟨rfl, hw⟩; replace hw := hw.symm; subst hw)
      go_ret
      exact ⟨rfl, B⟩
set_option maxHeartbeats 2000000 in
theorem declI_any (x : Dc) (w : World) (hx : x.s.size ≤ maxLen) : Calls Tryz.prog 47 #[.agg #[.int .i64 x.k, .string x.s, .int .i64 x.ar]] w fun e w' => e = .returned (.bool (declB x)) ∧ Below w.heap.size w w' := by
  have B := below_alloc1 w (.cells #[.int .i64 x.k, .string x.s, .int .i64 x.ar] 48)
  have hn := fun W => nameI_any x.s W hx
  have hu := fun W => Vl.upTo_any 6 x.ar W
  unfold declB
  generalize nameB x.s = N at hn ⊢
  generalize decide (0 ≤ x.ar ∧ x.ar ≤ 6) = U at hu ⊢
  by_cases h1 : 1 ≤ x.k
  · by_cases h2 : x.k ≤ 3
    · rw [show decide (1 ≤ x.k ∧ x.k ≤ 3) = true by simp [h1, h2]]
      cases N <;> cases U
      all_goals
        go_enter Tryz.func47, Tryz.ntmps47
        go_wp2_with (first
          | (go_at_call 81; refine (hn _).mono ?_; rintro e w1 ⟨rfl, hw⟩; replace hw := hw.symm; subst hw)
          | (go_at_call 82; refine (hu _).mono ?_; rintro e w2 ⟨rfl, hw⟩; replace hw := hw.symm; subst hw))
        go_ret
        exact ⟨rfl, B⟩
    · rw [show decide (1 ≤ x.k ∧ x.k ≤ 3) = false by simp [h2]]
      go_enter Tryz.func47, Tryz.ntmps47
      go_wp2
      go_ret
      exact ⟨rfl, B⟩
  · rw [show decide (1 ≤ x.k ∧ x.k ≤ 3) = false by simp [h1]]
    go_enter Tryz.func47, Tryz.ntmps47
    go_wp2
    go_ret
    exact ⟨rfl, B⟩

end Go.Proofs.YtljlgjgfmgilaaaGreat.Pm
