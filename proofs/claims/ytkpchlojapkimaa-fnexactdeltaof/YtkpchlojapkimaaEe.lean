/-
  What DeltaOk asks (plain), and the program's changeOk.
-/
import Derived.Test.YtkpchlojapkimaaEc
import Derived.Test.YtkpchlojapkimaaSe
import Derived.Test.YtkpchlojapkimaaRw1
namespace Go.Proofs.Ytkpchlojapkimaa.Ch
set_option maxRecDepth 8000
set_option linter.unusedSimpArgs false
set_option linter.unusedVariables false
open Go Go.ChangeShapes Go.WideShapes Go.RowKit
open Num Word Pl Rp
open Rl (Rm rm0 said twoB MA ResC OT)
open Vl (cmpS strLt)
open St (cmpT_any)

/-- Are both relations right, of one arity, without a row in common? -/
def apartB (p m : QL) : Bool := twoB p.1 p.2 m.1 m.2 && decide ((p.2.filter fun z => decide (z ∈ m.2)).length = 0)
/-- Is the change right? -/
def changeB (x : CL) : Bool := wordB x.1 && !(decide (x.2.1.2.length = 0) && decide (x.2.2.2.length = 0)) && apartB x.2.1 x.2.2
/-- Do the names rise? -/
def risesC : List CL → Bool
  | [] => true
  | [_] => true
  | x :: y :: T => strLt x.1 y.1 && risesC (y :: T)
/-- Is the delta right? -/
def deltaB (T : List CL) : Bool := decide (T.length ≤ 24) && T.all changeB && risesC T
theorem risesC_iff : ∀ (T : List CL), risesC T = true ↔ ∀ i, i + 1 < T.length → strLt (T.getD i cl0).1 (T.getD (i + 1) cl0).1 = true
  | [] => by simp [risesC]
  | [x] => by simp [risesC]
  | x :: y :: T => by
    have ih := risesC_iff (y :: T)
    simp only [risesC, Bool.and_eq_true, ih]
    constructor
    · rintro ⟨h1, h2⟩ i hi
      cases i with
      | zero => simpa [List.getD] using h1
      | succ i => have := h2 i (by simp at hi ⊢; omega); simpa [List.getD] using this
    · intro h
      refine ⟨by have := h 0 (by simp); simpa [List.getD] using this, fun i hi => ?_⟩
      have := h (i + 1) (by simp at hi ⊢; omega)
      simpa [List.getD] using this
theorem all_at {T : List Cm} (h : ∀ i, i < T.length → changeB (T.getD i cm0).l = true) : (told T).all changeB = true := by
  refine List.all_eq_true.2 fun x hx => ?_
  obtain ⟨i, hi, rfl⟩ := List.getElem_of_mem hx
  have hi' : i < T.length := by rw [told_len] at hi; exact hi
  have := h i hi'
  rw [← told_at hi'] at this
  simpa [List.getD, hi] using this
theorem all_bad {T : List Cm} {k : Nat} (hk : k < T.length) (h : changeB (T.getD k cm0).l = false) : (told T).all changeB = false := by
  rw [List.all_eq_false]
  have hk' : k < (told T).length := by rw [told_len]; exact hk
  refine ⟨(told T)[k], List.getElem_mem hk', ?_⟩
  rw [← told_at hk] at h
  simpa [List.getD, hk'] using h

theorem two_parts {x y : Int} {R S : List RowL} (h : twoB x R y S = true) : RelP x R ∧ RelP x S ∧ x = y := by
  unfold twoB at h
  simp only [Bool.and_eq_true, decide_eq_true_eq] at h
  obtain ⟨⟨h1, h2⟩, rfl⟩ := h
  exact ⟨relP_of h1, relP_of h2, rfl⟩
/-- Where both are merged by what they have in common: told, and nothing. -/
theorem apart_MA {p m : QL} {ar : Int} {X : List RowL} {c : Int} (h : MA stTwo p.1 p.2 m.1 m.2 ar X c) : (decide (c = 0) && decide (X.length = 0)) = apartB p m := by
  unfold MA at h
  unfold apartB
  cases ht : twoB p.1 p.2 m.1 m.2 with
  | false =>
    rw [ht, if_neg (by simp)] at h
    obtain ⟨_, rfl, rfl⟩ := h
    simp
  | true =>
    rw [ht, if_pos rfl] at h
    obtain ⟨r1, r2, _⟩ := two_parts ht
    have hb := both_eq r1.sorted r2.sorted r1.ok r2.ok
    have hl : (mergeL stTwo p.2 m.2).length ≤ 300 := by
      rw [hb]; exact Nat.le_trans (List.length_filter_le _ _) r1.few
    rw [if_pos hl] at h
    obtain ⟨_, rfl, rfl⟩ := h
    rw [hb]
    simp

set_option maxHeartbeats 1000000 in
theorem bare_any (ar : Int) (a : Option Addr) (n c : Nat) (ok : Bool) (w : World) :
    Calls Try.prog 50 #[.agg #[.int .i64 ar, .slice a n c], .bool ok] w fun e w' => e = .returned (.bool (ok && decide (n = 0))) ∧ Below w.heap.size w w' := by
  have B := below_alloc1 w (.cells #[.int .i64 ar, .slice a n c] 51)
  cases ok with
  | false =>
    go_enter Try.func50, Try.ntmps50
    go_wp2
    go_ret
    exact ⟨ret_bool (by simp), B⟩
  | true =>
    by_cases h0 : n = 0
    · subst h0
      go_enter Try.func50, Try.ntmps50
      go_wp2
      go_ret
      exact ⟨ret_bool (by simp), B⟩
    · have h1 : ((n : Int) == 0) = false := by simp; omega
      go_enter Try.func50, Try.ntmps50
      go_wp2
      go_ret
      exact ⟨ret_bool (by simp [h0]), B⟩
set_option maxHeartbeats 1000000 in
theorem idle_any (s : ByteArray) (ar br : Int) (a d : Option Addr) (n m c e : Nat) (w : World) :
    Calls Try.prog 49 #[.agg #[.string s, .int .i64 ar, .slice a n c, .int .i64 br, .slice d m e]] w fun e w' => e = .returned (.bool (decide (n = 0) && decide (m = 0))) ∧ Below w.heap.size w w' := by
  have B := below_alloc1 w (.cells #[.string s, .int .i64 ar, .slice a n c, .int .i64 br, .slice d m e] 53)
  by_cases h0 : n = 0
  · subst h0
    by_cases h1 : m = 0
    · subst h1
      go_enter Try.func49, Try.ntmps49
      go_wp2
      go_ret
      exact ⟨ret_bool (by simp), B⟩
    · have h2 : ((m : Int) == 0) = false := by simp; omega
      go_enter Try.func49, Try.ntmps49
      go_wp2
      go_ret
      exact ⟨ret_bool (by simp [h1]), B⟩
  · have h2 : ((n : Int) == 0) = false := by simp; omega
    go_enter Try.func49, Try.ntmps49
    go_wp2
    go_ret
    exact ⟨ret_bool (by simp [h0]), B⟩

/-- The five cells of a change. -/
def Cm.vals (x : Cm) : Array Value := #[.string x.s, .int .i64 x.p.ar, .slice x.p.a x.p.Q.length x.p.c, .int .i64 x.m.ar, .slice x.m.a x.m.Q.length x.m.c]
theorem ResC.parts {w : World} {ar : Int} {X : List RowL} {c : Value} {e : Ending} {w' : World} (h : ResC w ar X c e w') (hX : X.length ≤ 300) : ∃ a n cap, e = .returned (.tuple #[.agg #[.int .i64 ar, .slice a n cap], c]) ∧ n = X.length ∧ Below w.heap.size w w' := by
  obtain ⟨v, F, rfl, hot, sF, hb⟩ := h
  have hl : F.length = X.length := by rw [← Rl.said_len, sF]
  obtain ⟨a, g, cap, rfl, _⟩ := hot.form (by omega)
  exact ⟨a, F.length, cap, rfl, hl, hb⟩

set_option maxHeartbeats 2000000 in
theorem changeOk_any (x : Cm) (w : World) (hs : x.s.size ≤ maxLen) (h : x.Ok w) (hc : x.Room) :
    Calls Try.prog 27 #[.agg #[.string x.s, .int .i64 x.p.ar, .slice x.p.a x.p.Q.length x.p.c, .int .i64 x.m.ar, .slice x.m.a x.m.Q.length x.m.c]] w fun e w' => e = .returned (.bool (changeB x.l)) ∧ Below w.heap.size w w' := by
  obtain ⟨s, ⟨ar, a, b, o, c, Q⟩, ⟨br, d, b', o', c', P⟩⟩ := x
  obtain ⟨h1, h2⟩ := h
  obtain ⟨hc1, hc2⟩ := hc
  simp only at hs h1 h2 hc1 hc2
  obtain ⟨W1, hW1⟩ : ∃ W1, W1 = w.alloc (.cells #[.string s, .int .i64 ar, .slice a Q.length c, .int .i64 br, .slice d P.length c'] 53) := ⟨_, rfl⟩
  have B : Below w.heap.size w W1 := by subst hW1; exact below_alloc1 _ _
  have k0 : W1.heap[w.heap.size]? = some (.cells #[.string s, .int .i64 ar, .slice a Q.length c, .int .i64 br, .slice d P.length c'] 53 (0, 0)) := by subst hW1; exact at_new rfl
  have hW := fun W => implWord_any s W hs
  obtain ⟨qr, X, cc, hA, hX⟩ := Rl.MA_some stTwo ar (said Q) br (said P)
  have hAp := apart_MA (p := (ar, said Q)) (m := (br, said P)) hA
  have hB := fun W k k' => Rl.bothI_any ar br a d b o c b' o' c' Q P W k k' hc1 hc2 qr X cc hA
  have e0 : changeB (Cm.l ⟨s, ⟨ar, a, b, o, c, Q⟩, ⟨br, d, b', o', c', P⟩⟩) = (wordB s && !(decide (Q.length = 0) && decide (P.length = 0)) && (decide (cc = 0) && decide (X.length = 0))) := by
    rw [hAp]
    show (wordB s && !(decide ((said Q).length = 0) && decide ((said P).length = 0)) && apartB (ar, said Q) (br, said P)) = _
    rw [Rl.said_len, Rl.said_len]
  rw [e0]
  have HX : Hid (X.length ≤ 300) := hX
  clear e0 hAp hA hX hs
  replace h1 := h1.below B
  replace h2 := h2.below B
  have hI := fun W => idle_any s ar br a d Q.length P.length c c' W
  cases hv : wordB s with
  | false =>
    rw [hv] at hW
    go_enter Try.func27, Try.ntmps27
    go_wp2_with (go_at_call 48; rw [← hW1]; clear hW1; refine (hW _).mono ?_; rintro e w1 ⟨rfl, hw⟩; replace hw := hw.symm; subst hw)
    go_ret
    exact ⟨ret_bool (by simp), B⟩
  | true =>
    rw [hv] at hW
    clear hv
    generalize (decide (Q.length = 0) && decide (P.length = 0)) = I at hI ⊢
    cases I with
    | true =>
      obtain ⟨p0, p1, p2, p3, p4⟩ := five k0
      go_enter Try.func27, Try.ntmps27
      go_wp2_with (first
        | (go_at_call 48; rw [← hW1]; clear hW1; refine (hW _).mono ?_; rintro e w1 ⟨rfl, hw⟩; replace hw := hw.symm; subst hw)
        | (go_at_call 49; refine (hI _).mono ?_; rintro e w1 ⟨rfl, hb⟩))
      go_ret
      exact ⟨ret_bool (by simp), Rw.next B hb⟩
    | false =>
      obtain ⟨p0, p1, p2, p3, p4⟩ := five k0
      go_enter Try.func27, Try.ntmps27
      go_wp2_with (first
        | (go_at_call 48; rw [← hW1]; clear hW1; refine (hW _).mono ?_; rintro e w1 ⟨rfl, hw⟩; replace hw := hw.symm; subst hw)
        | (go_at_call 49; refine (hI _).mono ?_; rintro e w1 ⟨rfl, hb⟩; clear p0 p1 p2 p3 p4; replace k0 := (hb.block _ (blk_lt k0)).trans k0; replace h1 := h1.below hb; replace h2 := h2.below hb; replace B := Rw.next B hb; clear hb; obtain ⟨p0, p1, p2, p3, p4⟩ := five k0)
        | (go_at_call 51; refine (hB _ h1 h2).mono ?_; intro e w2 hr; obtain ⟨ua, un, uc, he, hn, hb⟩ := ResC.parts hr HX.out; clear hr; subst he; have HN : Hid (un = X.length) := hn; clear hn; replace B := Rw.next B hb; clear hb)
        | (go_at_call 50; refine (bare_any _ _ _ _ _ _).mono ?_; rintro e w3 ⟨rfl, hb⟩))
      go_ret
      exact ⟨ret_bool (by rw [HN.out]; simp; rfl), Rw.next B hb⟩

end Go.Proofs.Ytkpchlojapkimaa.Ch
