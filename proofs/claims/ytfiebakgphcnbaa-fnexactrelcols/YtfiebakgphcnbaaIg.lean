/-
  The program's RelPick.
-/
import Derived.Test.YtfiebakgphcnbaaIf
import Derived.Test.YtfiebakgphcnbaaRc
namespace Go.Proofs.Ytfiebakgphcnbaa.Rl
set_option maxRecDepth 8000
set_option linter.unusedSimpArgs false
set_option linter.unusedVariables false
open Go Go.RowKit
open Num Word Pl Rp
open Vl (ordRow rowB V2 valB)

theorem gset_self {L : List RowL} (h : Sorted L) (o : AllOk L) : gset L = L :=
  sorted_ext (foldput_sorted L [] List.Pairwise.nil (fun _ h => by simp at h) o) h fun z => gset_mem L z
/-- What RelPick answers. -/
def PA (ar : Int) (R : List RowL) (col : Int) (y : V2) (x : Int) (X : List RowL) (c : Bool) : Prop :=
  if relB ar R = true ∧ (0 ≤ col ∧ col ≤ ar - 1) ∧ valB y = true then x = ar ∧ X = R.filter (fun l => decide (l.getD col.toNat Vl.z2 = y)) ∧ c = true else x = 0 ∧ X = [] ∧ c = false
theorem PA_some (ar : Int) (R : List RowL) (col : Int) (y : V2) : ∃ x X c, PA ar R col y x X c ∧ X.length ≤ 300 ∧ ∀ l ∈ X, l.length ≤ 6 := by
  unfold PA
  split
  · rename_i h
    have P := relP_of h.1
    refine ⟨_, _, _, ⟨rfl, rfl, rfl⟩, Nat.le_trans (List.length_filter_le _ _) P.few, fun l hl => ?_⟩
    have := P.fit l (List.mem_filter.1 hl).1
    have := P.hi
    omega
  · exact ⟨_, _, _, ⟨rfl, rfl, rfl⟩, by simp, by simp⟩

theorem colOk_any (ar col : Int) (a : Option Addr) (n c : Nat) (w : World) (h0 : 0 ≤ ar) (h6 : ar ≤ 6) :
    Calls Try.prog 32 #[.agg #[.int .i64 ar, .slice a n c], .int .i64 col] w fun e w' => e = .returned (.bool (decide (0 ≤ col ∧ col ≤ ar - 1))) ∧ Below w.heap.size w w' := by
  have B := below_alloc1 w (.cells #[.int .i64 ar, .slice a n c] 31)
  have hw : wrap64 (ar - 1) = ar - 1 := by unfold wrap64; omega
  go_enter Try.func32, Try.ntmps32
  go_wp2_with (go_at_call 60; refine (Vl.upTo_any _ _ _).mono ?_; rintro e w1 ⟨rfl, rfl⟩)
  go_ret
  exact ⟨by simp, B⟩

theorem picked2_any (ar col n : Int) (s : ByteArray) (a : Option Addr) (len cap : Nat) (w : World) :
    Calls Try.prog 35 #[.agg #[.int .i64 ar, .slice a len cap], .int .i64 col, .agg #[.int .i64 n, .string s]] w fun e w' => ∃ p, e = .returned (.func (.func 68) #[] #[.pointer (some ⟨p, 0, none⟩), .pointer (some ⟨p + 1, 0, none⟩), .pointer (some ⟨p + 1 + 1, 0, none⟩)]) ∧
      w'.heap[p]? = some (.cells #[.int .i64 ar, .slice a len cap] 31 (0, 0)) ∧ w'.heap[p + 1]? = some (.cells #[.int .i64 col] 3 (0, 0)) ∧ w'.heap[p + 1 + 1]? = some (.cells #[.int .i64 n, .string s] 35 (0, 0)) ∧ Below w.heap.size w w' := by
  refine (picked_any #[] #[] ar col n s a len cap w).mono ?_
  rintro e w' ⟨rfl, rfl⟩
  exact ⟨w.heap.size, rfl, by rw [at_old (by simp <;> omega), at_old (by simp), at_new rfl], by rw [at_old (by simp), at_new (by simp)], at_new (by simp), Rw.next (Rw.next (below_alloc1 _ _) (below_alloc1 _ _)) (below_alloc1 _ _)⟩

set_option maxHeartbeats 4000000 in
theorem pickI_any (ar col : Int) (n : Int) (s : ByteArray) (a : Option Addr) (b off cap : Nat) (Q : List Rm) (w : World) (h : Rd w a b off Q) (hs : s.size ≤ maxLen) (x : Int) (X : List RowL) (c : Bool) (hA : PA ar (said Q) col (n, s) x X c) :
    Calls Try.prog 11 #[.agg #[.int .i64 ar, .slice a Q.length cap], .int .i64 col, .agg #[.int .i64 n, .string s]] w (ResC w x X (.bool c)) := by
  obtain ⟨W1, hW1⟩ : ∃ W1, W1 = ((w.alloc (.cells #[.int .i64 ar, .slice a Q.length cap] 31)).alloc (.cells #[.int .i64 n, .string s] 35)).alloc (.cells #[.int .i64 0, .slice none 0 0] 31) := ⟨_, rfl⟩
  have B1 : Below w.heap.size w W1 := by subst hW1; exact Rw.next (Rw.next (below_alloc1 _ _) (below_alloc1 _ _)) (below_alloc1 _ _)
  have kQ : W1.heap[w.heap.size]? = some (.cells #[.int .i64 ar, .slice a Q.length cap] 31 (0, 0)) := by subst hW1; rw [at_old (by simp <;> omega), at_old (by simp), at_new rfl]
  have kV : W1.heap[w.heap.size + 1]? = some (.cells #[.int .i64 n, .string s] 35 (0, 0)) := by subst hW1; rw [at_old (by simp), at_new (by simp)]
  have kR : W1.heap[w.heap.size + 1 + 1]? = some (.cells #[.int .i64 0, .slice none 0 0] 31 (0, 0)) := by subst hW1; exact at_new (by simp)
  replace h := h.below B1
  obtain ⟨q0, q1⟩ := two kQ
  obtain ⟨v0, v1⟩ := two kV
  have fR := Vl.free kR
  have A31 := fun W (hW : Rd W a b off Q) => relI_any ar a b off cap Q W hW
  rcases hr : relB ar (said Q) with _ | _
  · have hA' : x = 0 ∧ X = [] ∧ c = false := by unfold PA at hA; rw [if_neg (by simp [hr])] at hA; exact hA
    obtain ⟨rfl, rfl, rfl⟩ := hA'
    go_enter Try.func11, Try.ntmps11
    go_wp2_with (go_at_call 31; rw [← hW1]; clear hW1; refine (relI_any ar a b off cap Q _ h).mono ?_; rw [hr]; rintro e w2 ⟨rfl, hb⟩; replace kQ := (hb.block _ (blk_lt kQ)).trans kQ; replace kV := (hb.block _ (blk_lt kV)).trans kV; replace kR := (hb.block _ (blk_lt kR)).trans kR; replace B1 := Rw.next B1 hb; replace h := h.below hb; clear hb q0 q1 v0 v1 fR; obtain ⟨q0, q1⟩ := two kQ; obtain ⟨v0, v1⟩ := two kV; have fR := Vl.free kR; obtain ⟨r0, r1⟩ := two kR)
    have kk := two_set1 (x := .slice none 0 0) (two_set0 (x := .int .i64 0) kR)
    obtain ⟨c0, c1⟩ := two kk
    refine bodyPost_ret (v := .tuple #[.agg #[.int .i64 0, .slice none 0 0], .bool false]) (by simp [results, Try.results11, go_sem, c0, c1]) rfl ⟨.slice none 0 0, [], rfl, OT.nil _ _, rfl, ?_⟩
    exact Vl.bset (Vl.bset B1 (by simp only; omega)) (by simp only; omega)
  · have P := relP_of hr
    by_cases hc : 0 ≤ col ∧ col ≤ ar - 1
    · have hcd : decide (0 ≤ col ∧ col ≤ ar - 1) = true := decide_eq_true hc
      rcases hv : valB (n, s) with _ | _
      · have hA' : x = 0 ∧ X = [] ∧ c = false := by unfold PA at hA; rw [if_neg (by simp [hv])] at hA; exact hA
        obtain ⟨rfl, rfl, rfl⟩ := hA'
        clear hc
        go_enter Try.func11, Try.ntmps11
        go_wp2_with (first
          | (go_at_call 31; rw [← hW1]; clear hW1; refine (relI_any ar a b off cap Q _ h).mono ?_; rw [hr]; rintro e w2 ⟨rfl, hb⟩; replace kQ := (hb.block _ (blk_lt kQ)).trans kQ; replace kV := (hb.block _ (blk_lt kV)).trans kV; replace kR := (hb.block _ (blk_lt kR)).trans kR; replace B1 := Rw.next B1 hb; replace h := h.below hb; clear hb q0 q1 v0 v1 fR; obtain ⟨q0, q1⟩ := two kQ; obtain ⟨v0, v1⟩ := two kV; have fR := Vl.free kR; obtain ⟨r0, r1⟩ := two kR)
          | (go_at_call 32; refine (colOk_any ar col _ _ _ _ P.lo P.hi).mono ?_; rw [hcd]; rintro e w3 ⟨rfl, hb⟩; replace kQ := (hb.block _ (blk_lt kQ)).trans kQ; replace kV := (hb.block _ (blk_lt kV)).trans kV; replace kR := (hb.block _ (blk_lt kR)).trans kR; replace B1 := Rw.next B1 hb; replace h := h.below hb; clear hb q0 q1 v0 v1 fR r0 r1; obtain ⟨q0, q1⟩ := two kQ; obtain ⟨v0, v1⟩ := two kV; have fR := Vl.free kR; obtain ⟨r0, r1⟩ := two kR)
          | (go_at_call 33; refine (Vl.ok2I n s _ hs).mono ?_; rw [hv]; rintro e w4 ⟨rfl, hb⟩; replace kQ := (hb.block _ (blk_lt kQ)).trans kQ; replace kV := (hb.block _ (blk_lt kV)).trans kV; replace kR := (hb.block _ (blk_lt kR)).trans kR; replace B1 := Rw.next B1 hb; replace h := h.below hb; clear hb q0 q1 v0 v1 fR r0 r1; obtain ⟨q0, q1⟩ := two kQ; obtain ⟨v0, v1⟩ := two kV; have fR := Vl.free kR; obtain ⟨r0, r1⟩ := two kR))
        have kk := two_set1 (x := .slice none 0 0) (two_set0 (x := .int .i64 0) kR)
        obtain ⟨c0, c1⟩ := two kk
        refine bodyPost_ret (v := .tuple #[.agg #[.int .i64 0, .slice none 0 0], .bool false]) (by simp [results, Try.results11, go_sem, c0, c1]) rfl ⟨.slice none 0 0, [], rfl, OT.nil _ _, rfl, ?_⟩
        exact Vl.bset (Vl.bset B1 (by simp only; omega)) (by simp only; omega)
      · have hA' : x = ar ∧ X = (said Q).filter (fun l => decide (l.getD col.toNat Vl.z2 = (n, s))) ∧ c = true := by unfold PA at hA; rw [if_pos ⟨hr, hc, hv⟩] at hA; exact hA
        obtain ⟨rfl, rfl, rfl⟩ := hA'
        obtain ⟨k, rfl⟩ := Int.eq_ofNat_of_zero_le hc.1
        simp only [Int.toNat_natCast] at *
        have hkx : k < 6 ∧ (k : Int) ≤ x - 1 := ⟨by have := P.hi; omega, hc.2⟩
        have hcol : ∀ r ∈ Q, k < r.l.length := fun r hr' => by have := P.fit r.l (List.mem_map_of_mem hr'); omega
        have hfit : Fits x ((said Q).filter (fun l => decide (l.getD k Vl.z2 = (n, s)))) := fun l hl => ⟨P.fit l (List.mem_filter.1 hl).1, P.right l (List.mem_filter.1 hl).1⟩
        have hgs : gset ((said Q).filter (fun l => decide (l.getD k Vl.z2 = (n, s)))) = (said Q).filter (fun l => decide (l.getD k Vl.z2 = (n, s))) := gset_self (filter_sorted _ P.sorted) hfit.ok
        have hGA : GA x ((said Q).filter (fun l => decide (l.getD k Vl.z2 = (n, s)))) x ((said Q).filter (fun l => decide (l.getD k Vl.z2 = (n, s)))) true := by
          unfold GA
          rw [hgs, if_pos (Nat.le_trans (List.length_filter_le _ _) P.few)]
          exact ⟨rfl, rfl, rfl⟩
        clear hc
        go_enter Try.func11, Try.ntmps11
        go_upto_region 3 with (first
          | (go_at_call 31; rw [← hW1]; clear hW1; refine (relI_any x a b off cap Q _ h).mono ?_; rw [hr]; rintro e w2 ⟨rfl, hb⟩; replace kQ := (hb.block _ (blk_lt kQ)).trans kQ; replace kV := (hb.block _ (blk_lt kV)).trans kV; replace kR := (hb.block _ (blk_lt kR)).trans kR; replace B1 := Rw.next B1 hb; replace h := h.below hb; clear hb q0 q1 v0 v1 fR; obtain ⟨q0, q1⟩ := two kQ; obtain ⟨v0, v1⟩ := two kV; have fR := Vl.free kR; obtain ⟨r0, r1⟩ := two kR)
          | (go_at_call 32; refine (colOk_any x (k : Int) _ _ _ _ P.lo P.hi).mono ?_; rw [hcd]; rintro e w3 ⟨rfl, hb⟩; replace kQ := (hb.block _ (blk_lt kQ)).trans kQ; replace kV := (hb.block _ (blk_lt kV)).trans kV; replace kR := (hb.block _ (blk_lt kR)).trans kR; replace B1 := Rw.next B1 hb; replace h := h.below hb; clear hb q0 q1 v0 v1 fR r0 r1; obtain ⟨q0, q1⟩ := two kQ; obtain ⟨v0, v1⟩ := two kV; have fR := Vl.free kR; obtain ⟨r0, r1⟩ := two kR)
          | (go_at_call 33; refine (Vl.ok2I n s _ hs).mono ?_; rw [hv]; rintro e w4 ⟨rfl, hb⟩; replace kQ := (hb.block _ (blk_lt kQ)).trans kQ; replace kV := (hb.block _ (blk_lt kV)).trans kV; replace kR := (hb.block _ (blk_lt kR)).trans kR; replace B1 := Rw.next B1 hb; replace h := h.below hb; clear hb q0 q1 v0 v1 fR r0 r1; obtain ⟨q0, q1⟩ := two kQ; obtain ⟨v0, v1⟩ := two kV; have fR := Vl.free kR; obtain ⟨r0, r1⟩ := two kR))
        clear A31 hr hcd hA
        have l2 := blk_lt kR
        have ne1 : w.heap.size ≠ w.heap.size + 1 + 1 := by omega
        have ne2 : w.heap.size + 1 + 1 ≠ w.heap.size := by omega
        generalize hLL : (said Q).filter (fun l => decide (l.getD k Vl.z2 = (n, s))) = LL at hfit hgs hGA ⊢
        go_region_held3 (fun w' => w'.cell? ⟨w.heap.size, 0, none⟩ = some (.int .i64 x) ∧ w'.cell? ⟨w.heap.size, 1, none⟩ = some (.slice a Q.length cap) ∧ w'.cell? ⟨w.heap.size + 1, 0, none⟩ = some (.int .i64 n) ∧ w'.cell? ⟨w.heap.size + 1, 1, none⟩ = some (.string s)) (go_keep) (first
          | (go_at_call 35; refine (picked2_any x (k : Int) n s a Q.length cap _).mono ?_; rintro e w5 ⟨p, rfl, k0, k1, k2, hb⟩; replace hb := Rw.next ((Below.refl _ _).drew) hb; replace kQ := (hb.block _ (blk_lt kQ)).trans kQ; replace kV := (hb.block _ (blk_lt kV)).trans kV; replace kR := (hb.block _ (blk_lt kR)).trans kR; replace B1 := Rw.next B1 hb; replace h := h.below hb; clear hb q0 q1 v0 v1 fR r0 r1; obtain ⟨q0, q1⟩ := two kQ; obtain ⟨v0, v1⟩ := two kV)
          | (go_at_call 34; have hG := gath_any x 68 _ LL w5 (by rw [← hLL]; exact pick1_any x k (n, s) a b off cap Q 0 p w5 h hs hcol k0 k1 k2) (enters_of Try.func68 (by kernel_rfl) rfl) P.lo P.hi hfit x LL true hGA; refine hG.mono ?_; rintro e w6 ⟨v6, F6, rfl, hot, sF6, hb⟩; have s5 := B1.size; have l5 := blk_lt kR; replace kQ := (hb.block _ (blk_lt kQ)).trans kQ; replace kV := (hb.block _ (blk_lt kV)).trans kV; replace kR := (hb.block _ (blk_lt kR)).trans kR; replace B1 := Rw.next B1 hb; clear hb q0 q1 v0 v1 hG k0 k1 k2; obtain ⟨q0, q1⟩ := two kQ; obtain ⟨v0, v1⟩ := two kV; have fR := Vl.free kR; obtain ⟨r0, r1⟩ := two kR; obtain ⟨ua, un, uc, hv6⟩ := hot.og.slice; subst hv6))
        go_wp2
        have kk := two_set1 (x := .slice ua un uc) (two_set0 (x := .int .i64 x) kR)
        obtain ⟨c0, c1⟩ := two kk
        refine bodyPost_ret (v := .tuple #[.agg #[.int .i64 x, .slice ua un uc], .bool true]) (by simp [results, Try.results11, go_sem, c0, c1]) rfl ⟨.slice ua un uc, F6, rfl, ?_, by rw [hLL]; exact sF6, ?_⟩
        · refine OT.mono (B := w5.heap.size) ?_ s5
          exact hot.keep fun z hz hzB => (Below.heap_setCell _ _ _ _ (by simp only; omega)).trans (Below.heap_setCell _ _ _ _ (by simp only; omega))
        · exact Vl.bset (Vl.bset B1 (by simp only; omega)) (by simp only; omega)
    · have hcd : decide (0 ≤ col ∧ col ≤ ar - 1) = false := decide_eq_false hc
      have hA' : x = 0 ∧ X = [] ∧ c = false := by unfold PA at hA; rw [if_neg (fun q => hc q.2.1)] at hA; exact hA
      obtain ⟨rfl, rfl, rfl⟩ := hA'
      clear hc
      go_enter Try.func11, Try.ntmps11
      go_wp2_with (first
        | (go_at_call 31; rw [← hW1]; clear hW1; refine (relI_any ar a b off cap Q _ h).mono ?_; rw [hr]; rintro e w2 ⟨rfl, hb⟩; replace kQ := (hb.block _ (blk_lt kQ)).trans kQ; replace kV := (hb.block _ (blk_lt kV)).trans kV; replace kR := (hb.block _ (blk_lt kR)).trans kR; replace B1 := Rw.next B1 hb; replace h := h.below hb; clear hb q0 q1 v0 v1 fR; obtain ⟨q0, q1⟩ := two kQ; obtain ⟨v0, v1⟩ := two kV; have fR := Vl.free kR; obtain ⟨r0, r1⟩ := two kR)
        | (go_at_call 32; refine (colOk_any ar col _ _ _ _ P.lo P.hi).mono ?_; rw [hcd]; rintro e w3 ⟨rfl, hb⟩; replace kQ := (hb.block _ (blk_lt kQ)).trans kQ; replace kV := (hb.block _ (blk_lt kV)).trans kV; replace kR := (hb.block _ (blk_lt kR)).trans kR; replace B1 := Rw.next B1 hb; replace h := h.below hb; clear hb q0 q1 v0 v1 fR r0 r1; obtain ⟨q0, q1⟩ := two kQ; obtain ⟨v0, v1⟩ := two kV; have fR := Vl.free kR; obtain ⟨r0, r1⟩ := two kR))
      have kk := two_set1 (x := .slice none 0 0) (two_set0 (x := .int .i64 0) kR)
      obtain ⟨c0, c1⟩ := two kk
      refine bodyPost_ret (v := .tuple #[.agg #[.int .i64 0, .slice none 0 0], .bool false]) (by simp [results, Try.results11, go_sem, c0, c1]) rfl ⟨.slice none 0 0, [], rfl, OT.nil _ _, rfl, ?_⟩
      exact Vl.bset (Vl.bset B1 (by simp only; omega)) (by simp only; omega)

end Go.Proofs.Ytfiebakgphcnbaa.Rl
