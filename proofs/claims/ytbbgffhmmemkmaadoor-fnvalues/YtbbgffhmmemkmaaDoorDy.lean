/-
  The program's ValueText; what FnValues asks of values.
-/
import Derived.Test.YtbbgffhmmemkmaaDoorDx
namespace Go.Proofs.YtbbgffhmmemkmaaDoor.Vl
set_option maxRecDepth 8000
set_option linter.unusedSimpArgs false
set_option linter.unusedVariables false
open Go Go.RowKit
open Num Word Pl

/-- The text of a right value. -/
def vtx (x : V2) : ByteArray := if x.2.toList.isEmpty = true then txt x.1.toNat else x.2

theorem numText_any (n : Int) (w : World) (hn : numB n = true) (hL : Laid w) :
    Calls Tryd.prog 82 #[.int .i64 n] w fun e w' => e = .returned (.string (txt n.toNat)) ∧ Below w.heap.size w w' := by
  unfold numB at hn
  have hr := of_decide_eq_true hn
  obtain ⟨k, rfl⟩ := Int.eq_ofNat_of_zero_le hr.1
  have hk : k ≤ 281474976710655 := by omega
  have hT := hL.tab
  clear hL hn hr
  rw [Int.toNat_natCast]
  go_enter Tryd.func82, Tryd.ntmps82
  go_wp2_with (go_at_call 31; refine (Num.implText_any _ hk _ hT).mono ?_; rintro e w1 ⟨rfl, hb⟩)
  go_ret
  exact ⟨rfl, hb⟩
theorem wordText_any (s : ByteArray) (w : World) : Calls Tryd.prog 83 #[.string s] w fun e w' => e = .returned (.string s) ∧ w' = w := by
  go_enter Tryd.func83, Tryd.ntmps83
  go_wp2
  go_ret
  exact ⟨rfl, rfl⟩

set_option maxHeartbeats 1000000 in
theorem vtext_any (n : Int) (s : ByteArray) (w : World) (hv : valB (n, s) = true) (hs : s.size ≤ maxLen) (hL : Laid w) :
    Calls Tryd.prog 10 #[.agg #[.int .i64 n, .string s]] w fun e w' => e = .returned (.string (vtx (n, s))) ∧ Below w.heap.size w w' := by
  have B := below_alloc1 w (.cells #[.int .i64 n, .string s] 24)
  have hd := datum_any (n, s) (w.alloc (.cells #[.int .i64 n, .string s] 24)) hs
  replace hL := hL.below B
  unfold datV at hd
  unfold vtx
  rw [hv] at hd
  simp only [if_true] at hd ⊢
  cases he : s.toList.isEmpty with
  | true =>
    have hn : numB n = true := by unfold valB at hv; simpa [he] using hv
    rw [he] at hd
    simp only [if_true] at hd ⊢
    go_enter Tryd.func10, Tryd.ntmps10
    go_wp2_with (first
      | (go_at_call 15; refine hd.mono ?_; rintro e w1 ⟨rfl, hb⟩; replace hL := hL.below hb; replace B := Rw.next B hb; clear hb)
      | (go_at_call 82; refine (numText_any _ _ hn hL).mono ?_; rintro e w2 ⟨rfl, hb⟩))
    go_ret
    exact ⟨rfl, Rw.next B hb⟩
  | false =>
    rw [he] at hd
    simp only [Bool.false_eq_true, if_false] at hd ⊢
    go_enter Tryd.func10, Tryd.ntmps10
    go_wp2_with (first
      | (go_at_call 15; refine hd.mono ?_; rintro e w1 ⟨rfl, hb⟩; replace hL := hL.below hb; replace B := Rw.next B hb; clear hb)
      | (go_at_call 83; refine (wordText_any _ _).mono ?_; rintro e w2 ⟨rfl, hw⟩; replace hw := hw.symm; subst hw))
    go_ret
    exact ⟨rfl, B⟩

theorem empty_of {s : ByteArray} (h : s.toList.isEmpty = true) : s = ⟨#[]⟩ := by
  have := isnil h
  rw [ByteArray.toList_eq] at this
  exact Go.WideShapes.bytes_inj (by simpa using this)

/-- What is read of the text of a right value is the value. -/
theorem tv_vtx {n : Int} {s : ByteArray} (hv : valB (n, s) = true) : tvN (vtx (n, s)) = n ∧ tvS (vtx (n, s)) = s ∧ tvB (vtx (n, s)) = true ∧ ((vtx (n, s)).size ≤ 1048576) := by
  unfold valB at hv
  unfold vtx
  simp only at hv ⊢
  cases he : s.toList.isEmpty with
  | true =>
    rw [he] at hv
    simp only [if_true] at hv ⊢
    unfold numB at hv
    have hr := of_decide_eq_true hv
    obtain ⟨k, rfl⟩ := Int.eq_ofNat_of_zero_le hr.1
    have hk : k ≤ 281474976710655 := by omega
    rw [Int.toNat_natCast]
    have hg := Tn.good_txt k hk
    have hw : wordB (txt k) = false := by
      cases e : wordB (txt k) with
      | false => rfl
      | true => exact absurd hg.1 (word_good_no e)
    obtain ⟨e1, e2, e3⟩ := tv_num hw hg.1
    have hz := txt_le k hk
    exact ⟨by rw [e1, hg.2], by rw [e2, empty_of he], e3, by omega⟩
  | false =>
    rw [he] at hv
    simp only [Bool.false_eq_true, if_false, Bool.and_eq_true] at hv ⊢
    obtain ⟨e1, e2, e3⟩ := tv_word hv.2
    have hn : n = 0 := by simpa using hv.1
    have hz : s.size ≤ 12 := by
      have := hv.2
      unfold wordB at this
      exact (of_decide_eq_true this).2.1
    exact ⟨by rw [e1, hn], e2, e3, by omega⟩

/-- Of two right values just one is so: the one is less, the other is, or they are the same. -/
theorem three_ways {n m : Int} {s t : ByteArray} (hx : valB (n, s) = true) (hy : valB (m, t) = true) :
    (lessB (n, s) (m, t) = true ∧ lessB (m, t) (n, s) = false ∧ ¬ (n = m ∧ s = t)) ∨ (lessB (n, s) (m, t) = false ∧ lessB (m, t) (n, s) = true ∧ ¬ (n = m ∧ s = t)) ∨ (lessB (n, s) (m, t) = false ∧ lessB (m, t) (n, s) = false ∧ n = m ∧ s = t) := by
  unfold valB at hx hy
  unfold lessB strLt
  simp only at hx hy ⊢
  cases hs : s.toList.isEmpty <;> cases ht : t.toList.isEmpty
  · rw [hs] at hx
    rw [ht] at hy
    simp only [Bool.false_eq_true, if_false, Bool.and_eq_true] at hx hy
    have hn : n = 0 := by simpa using hx.1
    have hm : m = 0 := by simpa using hy.1
    subst hn hm
    simp only [Bool.false_and, Bool.false_eq_true, if_false]
    have hl := less_total s.toList t.toList
    cases h1 : Op.bytesLess s.toList t.toList with
    | true =>
      left
      refine ⟨rfl, less_asym _ _ h1, fun e => ?_⟩
      rw [e.2] at h1
      have := less_asym _ _ h1
      rw [h1] at this; cases this
    | false =>
      rw [h1] at hl
      cases h2 : Op.bytesLess t.toList s.toList with
      | true =>
        right; left
        refine ⟨rfl, rfl, fun e => ?_⟩
        rw [e.2] at h2
        have := less_asym _ _ h2
        rw [h2] at this; cases this
      | false =>
        rw [h2] at hl
        right; right
        refine ⟨rfl, rfl, by first | rfl | trivial, ?_⟩
        have : s.toList = t.toList := by simpa using hl
        rw [ByteArray.toList_eq, ByteArray.toList_eq] at this
        exact Go.WideShapes.bytes_inj this
  · right; left
    obtain ⟨c, r, e⟩ := nonempty hs
    simp only [Bool.false_and, Bool.and_false, Bool.false_eq_true, if_false, isnil ht, e]
    refine ⟨by simp [Op.bytesLess], by simp [Op.bytesLess], fun h => ?_⟩
    rw [h.2, ht] at hs; cases hs
  · left
    obtain ⟨c, r, e⟩ := nonempty ht
    simp only [Bool.and_false, Bool.false_and, Bool.false_eq_true, if_false, isnil hs, e]
    refine ⟨by simp [Op.bytesLess], by simp [Op.bytesLess], fun h => ?_⟩
    rw [h.2, ht] at hs; cases hs
  · have e : s = t := by rw [empty_of hs, empty_of ht]
    simp only [Bool.and_true, if_true]
    rcases Int.lt_trichotomy n m with h | h | h
    · left; exact ⟨decide_eq_true h, decide_eq_false (by omega), fun q => by omega⟩
    · right; right; exact ⟨decide_eq_false (by omega), decide_eq_false (by omega), h, e⟩
    · right; left; exact ⟨decide_eq_false (by omega), decide_eq_true h, fun q => by omega⟩

end Go.Proofs.YtbbgffhmmemkmaaDoor.Vl
