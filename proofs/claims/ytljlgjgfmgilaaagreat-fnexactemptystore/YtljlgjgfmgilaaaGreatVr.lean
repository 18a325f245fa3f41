/-
  The order of rows: slices.CompareFunc by the program, value by value by the specification; both RowOrder.
-/
import Derived.Test.YtljlgjgfmgilaaaGreatVq
namespace Go.Proofs.YtljlgjgfmgilaaaGreat.Vl
set_option maxRecDepth 8000
set_option linter.unusedSimpArgs false
set_option linter.unusedVariables false
open Go Go.RowKit
open Num Word Pl

/-- The order of two rows of right values. -/
def ordRow : List V2 → List V2 → Int
  | [], [] => 0
  | [], _ :: _ => -1
  | _ :: _, [] => 1
  | x :: l, y :: m => if ordV x y = 0 then ordRow l m else ordV x y
theorem drop_at {l : List V2} {k : Nat} (h : k < l.length) : l.drop k = l.getD k z2 :: l.drop (k + 1) := by
  rw [List.drop_eq_getElem_cons h]; simp [List.getD, h]
theorem ord_eq {l m : List V2} {k : Nat} (h1 : k < l.length) (h2 : k < m.length) (h : ordV (l.getD k z2) (m.getD k z2) = 0) : ordRow (l.drop k) (m.drop k) = ordRow (l.drop (k + 1)) (m.drop (k + 1)) := by
  rw [drop_at h1, drop_at h2, ordRow, if_pos h]
theorem ord_ne {l m : List V2} {k : Nat} (h1 : k < l.length) (h2 : k < m.length) (h : ¬ ordV (l.getD k z2) (m.getD k z2) = 0) : ordRow (l.drop k) (m.drop k) = ordV (l.getD k z2) (m.getD k z2) := by
  rw [drop_at h1, drop_at h2, ordRow, if_neg h]
theorem ord_gt {l m : List V2} {k : Nat} (h1 : k < l.length) (h2 : ¬ k < m.length) : ordRow (l.drop k) (m.drop k) = 1 := by
  rw [drop_at h1, List.drop_eq_nil_of_le (by omega : m.length ≤ k), ordRow]
theorem ord_lt {l m : List V2} {k : Nat} (h1 : ¬ k < l.length) (h2 : k < m.length) : ordRow (l.drop k) (m.drop k) = -1 := by
  rw [drop_at h2, List.drop_eq_nil_of_le (by omega : l.length ≤ k), ordRow]
theorem ord_end {l m : List V2} {k : Nat} (h1 : ¬ k < l.length) (h2 : ¬ k < m.length) : ordRow (l.drop k) (m.drop k) = 0 := by
  rw [List.drop_eq_nil_of_le (by omega : l.length ≤ k), List.drop_eq_nil_of_le (by omega : m.length ≤ k), ordRow]

theorem ret_int {a b : Int} (h : a = b) : Ending.returned (.int .i64 a) = .returned (.int .i64 b) := by rw [h]

set_option maxHeartbeats 2000000 in
theorem compare_any (a a' : Option Addr) (b off cap b' off' cap' : Nat) (l m : List V2) (w : World) (h : Rd w a b off l) (h' : Rd w a' b' off' m)
    (hl : ∀ i, i < l.length → valB (l.getD i z2) = true) (hm : ∀ i, i < m.length → valB (m.getD i z2) = true) :
    Calls Tryz.prog 146 #[.slice a l.length cap, .slice a' m.length cap', .func (.func 147) #[] #[]] w fun e w' => e = .returned (.int .i64 (ordRow l m)) ∧ Below w.heap.size w w' := by
  obtain ⟨hh, hc, hs, hz⟩ := h
  obtain ⟨hh', hc', hs', hz'⟩ := h'
  obtain ⟨R, hR⟩ : ∃ R, R = ordRow l m := ⟨_, rfl⟩
  rw [← hR]
  obtain ⟨p, hp⟩ : ∃ p, p = l.length := ⟨_, rfl⟩
  obtain ⟨q, hq⟩ : ∃ q, q = m.length := ⟨_, rfl⟩
  rw [← hp] at hh hc hs hz hl ⊢
  rw [← hq] at hh' hc' hs' hz' hm ⊢
  have HP : Hid (p = l.length) := hp
  have HQ : Hid (q = m.length) := hq
  have H0 : Hid (R = ordRow (l.drop 0) (m.drop 0)) := hR
  clear hR hp hq
  go_enter Tryz.func146, Tryz.ntmps146
  go_wp2
  go_loopw [13] (fun i wr => ∃ k : Nat, k ≤ p ∧ k ≤ q ∧ i = .int .i64 k ∧ Below w.heap.size w wr ∧ R = ordRow (l.drop k) (m.drop k)) (fun i _ => p - (intOf i).toNat)
  case atStart => exact ⟨0, Nat.zero_le _, Nat.zero_le _, rfl, Below.refl _ _, H0.out⟩
  case round =>
    obtain ⟨k, hk, hkq, rfl, hbel, hrr⟩ := hrel
    have HR : Hid (R = ordRow (l.drop k) (m.drop k)) := hrr
    clear hrr H0
    by_cases hlt : k < p
    · obtain rfl := hh (by omega)
      have hkz : (k : Int) < (p : Int) := by omega
      obtain ⟨c0, c1⟩ := (hc k hlt).of hbel (hc k hlt).lt
      by_cases hlq : k < q
      · obtain rfl := hh' (by omega)
        have hkq' : ¬ (q : Int) ≤ (k : Int) := by omega
        obtain ⟨d0, d1⟩ := (hc' k hlq).of hbel (hc' k hlq).lt
        have lb : b < wr.heap.size := Nat.lt_of_lt_of_le (hc k hlt).lt hbel.size
        have lb' : b' < wr.heap.size := Nat.lt_of_lt_of_le (hc' k hlq).lt hbel.size
        have hz1 := hz k hlt
        have hz2 := hz' k hlq
        have hv1 := hl k hlt
        have hv2 := hm k hlq
        have HE : Hid (ordV (l.getD k z2) (m.getD k z2) = 0 → R = ordRow (l.drop (k + 1)) (m.drop (k + 1))) := fun h => HR.out.trans (ord_eq (by have := HP.out; omega) (by have := HQ.out; omega) h)
        have HN : Hid (¬ ordV (l.getD k z2) (m.getD k z2) = 0 → R = ordV (l.getD k z2) (m.getD k z2)) := fun h => HR.out.trans (ord_ne (by have := HP.out; omega) (by have := HQ.out; omega) h)
        clear hc hc' hh hh' hz hz' hl hm HR
        generalize l.getD k z2 = x at c0 c1 hz1 hv1 HE HN
        generalize m.getD k z2 = y at d0 d1 hz2 hv2 HE HN
        obtain ⟨x0, x1⟩ := x
        obtain ⟨y0, y1⟩ := y
        simp only at c0 c1 d0 d1 hz1 hz2
        have hO := fun W => vorder_any x0 y0 x1 y1 W hv1 hv2 hz1 hz2
        generalize ordV (x0, x1) (y0, y1) = r at hO HE HN
        by_cases hr : r = 0
        · subst hr
          go_wp2_with (go_at_call 147; refine (hO _).mono ?_; rintro e w1 ⟨rfl, hb⟩)
          go_roundw
          case rel => exact ⟨k + 1, by omega, by omega, by go_num, Rw.next (Rw.next hbel (below_alloc2 _ _ _)) hb, HE.out (by first | rfl | trivial)⟩
          case measure => simp [intOf]; omega
        · have hrn : (r != 0) = true := by simpa using hr
          go_wp2_with (go_at_call 147; refine (hO _).mono ?_; rintro e w1 ⟨rfl, hb⟩)
          go_ret
          exact ⟨ret_int (HN.out hr).symm, Rw.next (Rw.next hbel (below_alloc2 _ _ _)) hb⟩
      · have hkq' : (q : Int) ≤ (k : Int) := by omega
        have H1 : Hid (R = 1) := HR.out.trans (ord_gt (by have := HP.out; omega) (by have := HQ.out; omega))
        go_wp2
        go_ret
        exact ⟨ret_int H1.out.symm, Rw.next hbel (below_alloc1 _ _)⟩
    · have he : k = p := by omega
      have hkz : ¬ (k : Int) < (p : Int) := by omega
      by_cases hlq : p < q
      · have hpq : (p : Int) < (q : Int) := by omega
        have H1 : Hid (R = -1) := HR.out.trans (ord_lt (by have := HP.out; omega) (by have := HQ.out; omega))
        go_wp2
        go_ret
        exact ⟨ret_int H1.out.symm, hbel⟩
      · have hpq : ¬ (p : Int) < (q : Int) := by omega
        have H1 : Hid (R = 0) := HR.out.trans (ord_end (by have := HP.out; omega) (by have := HQ.out; omega))
        go_wp2
        go_ret
        exact ⟨ret_int H1.out.symm, hbel⟩

end Go.Proofs.YtljlgjgfmgilaaaGreat.Vl
