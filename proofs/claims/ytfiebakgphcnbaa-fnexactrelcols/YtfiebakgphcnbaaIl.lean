/-
  The program's RelCols.
-/
import Derived.Test.YtfiebakgphcnbaaIk
namespace Go.Proofs.Ytfiebakgphcnbaa.Rl
set_option maxRecDepth 8000
set_option linter.unusedSimpArgs false
set_option linter.unusedVariables false
open Go Go.RowKit
open Num Word Pl Rp
open Vl (ordRow rowB V2 valB z2)

set_option maxHeartbeats 4000000 in
theorem colsI_any (ar : Int) (a : Option Addr) (b off cap : Nat) (Q : List Rm) (ca : Option Addr) (cb co ccap : Nat) (cols : List Int) (w : World) (h : Rd w a b off Q) (hc : Hr.Rd w ca cb co cols) (x : Int) (X : List RowL) (c : Bool) (hA : CA ar (said Q) cols x X c) :
    Calls Try.prog 17 #[.agg #[.int .i64 ar, .slice a Q.length cap], .slice ca cols.length ccap] w (ResC w x X (.bool c)) := by
  obtain ⟨W1, hW1⟩ : ∃ W1, W1 = (w.alloc (.cells #[.int .i64 ar, .slice a Q.length cap] 31)).alloc (.cells #[.int .i64 0, .slice none 0 0] 31) := ⟨_, rfl⟩
  have B1 : Below w.heap.size w W1 := by subst hW1; exact below_alloc2 _ _ _
  have kQ : W1.heap[w.heap.size]? = some (.cells #[.int .i64 ar, .slice a Q.length cap] 31 (0, 0)) := by subst hW1; rw [at_old (by simp), at_new rfl]
  have kR : W1.heap[w.heap.size + 1]? = some (.cells #[.int .i64 0, .slice none 0 0] 31 (0, 0)) := by subst hW1; exact at_new (by simp)
  replace h := h.below B1
  replace hc := hc.below B1
  obtain ⟨q0, q1⟩ := two kQ
  rcases hr : relB ar (said Q) with _ | _
  · have hA' : x = 0 ∧ X = [] ∧ c = false := by unfold CA at hA; rw [if_neg (by simp [hr])] at hA; exact hA
    obtain ⟨rfl, rfl, rfl⟩ := hA'
    go_enter Try.func17, Try.ntmps17
    go_wp2_with (go_at_call 31; rw [← hW1]; clear hW1; refine (relI_any ar a b off cap Q _ h).mono ?_; rw [hr]; rintro e w2 ⟨rfl, hb⟩; replace kQ := (hb.block _ (blk_lt kQ)).trans kQ; replace kR := (hb.block _ (blk_lt kR)).trans kR; replace B1 := Rw.next B1 hb; replace h := h.below hb; replace hc := hc.below hb; clear hb q0 q1; obtain ⟨q0, q1⟩ := two kQ; have fR := Vl.free kR; obtain ⟨r0, r1⟩ := two kR)
    have kk := two_set1 (x := .slice none 0 0) (two_set0 (x := .int .i64 0) kR)
    obtain ⟨c0, c1⟩ := two kk
    refine bodyPost_ret (v := .tuple #[.agg #[.int .i64 0, .slice none 0 0], .bool false]) (by simp [results, Try.results17, go_sem, c0, c1]) rfl ⟨.slice none 0 0, [], rfl, OT.nil _ _, rfl, ?_⟩
    exact Vl.bset (Vl.bset B1 (by simp only; omega)) (by simp only; omega)
  · have P := relP_of hr
    rcases hv : colsB ar cols with _ | _
    · have hA' : x = 0 ∧ X = [] ∧ c = false := by unfold CA at hA; rw [if_neg (by simp [hv])] at hA; exact hA
      obtain ⟨rfl, rfl, rfl⟩ := hA'
      go_enter Try.func17, Try.ntmps17
      go_wp2_with (first
        | (go_at_call 31; rw [← hW1]; clear hW1; refine (relI_any ar a b off cap Q _ h).mono ?_; rw [hr]; rintro e w2 ⟨rfl, hb⟩; replace kQ := (hb.block _ (blk_lt kQ)).trans kQ; replace kR := (hb.block _ (blk_lt kR)).trans kR; replace B1 := Rw.next B1 hb; replace h := h.below hb; replace hc := hc.below hb; clear hb q0 q1; obtain ⟨q0, q1⟩ := two kQ; have fR := Vl.free kR; obtain ⟨r0, r1⟩ := two kR)
        | (go_at_call 40; refine (colsOk_any ar _ _ _ ca cb co ccap cols _ hc P.lo P.hi).mono ?_; rw [hv]; rintro e w3 ⟨rfl, hb⟩; replace kQ := (hb.block _ (blk_lt kQ)).trans kQ; replace kR := (hb.block _ (blk_lt kR)).trans kR; replace B1 := Rw.next B1 hb; replace h := h.below hb; replace hc := hc.below hb; clear hb q0 q1 fR r0 r1; obtain ⟨q0, q1⟩ := two kQ; have fR := Vl.free kR; obtain ⟨r0, r1⟩ := two kR))
      have kk := two_set1 (x := .slice none 0 0) (two_set0 (x := .int .i64 0) kR)
      obtain ⟨c0, c1⟩ := two kk
      refine bodyPost_ret (v := .tuple #[.agg #[.int .i64 0, .slice none 0 0], .bool false]) (by simp [results, Try.results17, go_sem, c0, c1]) rfl ⟨.slice none 0 0, [], rfl, OT.nil _ _, rfl, ?_⟩
      exact Vl.bset (Vl.bset B1 (by simp only; omega)) (by simp only; omega)
    · have hA' : x = cols.length ∧ X = gset ((said Q).map (colL cols)) ∧ c = true := by unfold CA at hA; rw [if_pos ⟨hr, hv⟩] at hA; exact hA
      obtain ⟨h6, hin⟩ := colsB_iff hv
      have hfit := col_fits hr hv
      have hin2 : ∀ l ∈ said Q, ∀ i, i < cols.length → 0 ≤ cols.getD i 0 ∧ (cols.getD i 0).toNat < l.length := fun l hl i hi => by
        have h1 := hin i hi
        have h2 := P.fit l hl
        exact ⟨h1.1, by omega⟩
      have hGA : GA (cols.length : Int) ((said Q).map (colL cols)) x X c := by
        unfold GA
        rw [if_pos (by have := gset_lenle ((said Q).map (colL cols)); rw [List.length_map] at this; have := P.few; omega)]
        exact hA'
      have hcx : c = true := hA'.2.2
      have hxx : x = cols.length := hA'.1
      clear hA' hA hin
      subst hcx
      have HX : Hid (x = cols.length) := hxx
      clear hxx
      generalize hLL : (said Q).map (colL cols) = LL at hfit hGA
      go_enter Try.func17, Try.ntmps17
      go_wp2_with (first
        | (go_at_call 31; rw [← hW1]; clear hW1; refine (relI_any ar a b off cap Q _ h).mono ?_; rw [hr]; rintro e w2 ⟨rfl, hb⟩; replace kQ := (hb.block _ (blk_lt kQ)).trans kQ; replace kR := (hb.block _ (blk_lt kR)).trans kR; replace B1 := Rw.next B1 hb; replace h := h.below hb; replace hc := hc.below hb; clear hb q0 q1; obtain ⟨q0, q1⟩ := two kQ; have fR := Vl.free kR; obtain ⟨r0, r1⟩ := two kR)
        | (go_at_call 40; refine (colsOk_any ar _ _ _ ca cb co ccap cols _ hc P.lo P.hi).mono ?_; rw [hv]; rintro e w3 ⟨rfl, hb⟩; replace kQ := (hb.block _ (blk_lt kQ)).trans kQ; replace kR := (hb.block _ (blk_lt kR)).trans kR; replace B1 := Rw.next B1 hb; replace h := h.below hb; replace hc := hc.below hb; clear hb q0 q1 fR r0 r1; obtain ⟨q0, q1⟩ := two kQ; have fR := Vl.free kR; obtain ⟨r0, r1⟩ := two kR)
        | (go_at_call 42; refine (values_any a Q.length cap _).mono ?_; rintro e w4 ⟨pv, rfl, kv, hb⟩; replace kQ := (hb.block _ (blk_lt kQ)).trans kQ; replace kR := (hb.block _ (blk_lt kR)).trans kR; replace B1 := Rw.next B1 hb; replace h := h.below hb; replace hc := hc.below hb; clear hb q0 q1 fR r0 r1; obtain ⟨q0, q1⟩ := two kQ; have fR := Vl.free kR; obtain ⟨r0, r1⟩ := two kR)
        | (go_at_call 41; refine (colRows_any 78 #[.pointer (some ⟨pv, 0, none⟩)] ca cols.length ccap _).mono ?_; rintro e w5 ⟨pc, rfl, k0, k1, hb⟩; replace kv := (hb.block _ (blk_lt kv)).trans kv; replace kQ := (hb.block _ (blk_lt kQ)).trans kQ; replace kR := (hb.block _ (blk_lt kR)).trans kR; replace B1 := Rw.next B1 hb; replace h := h.below hb; replace hc := hc.below hb; clear hb q0 q1 fR r0 r1; obtain ⟨q0, q1⟩ := two kQ; have fR := Vl.free kR; obtain ⟨r0, r1⟩ := two kR)
        | (go_at_call 34; have hG := gath_any (cols.length : Int) 76 _ LL w5 (by rw [← hLL]; exact colRows1_any 78 _ (said Q) ca cb co ccap cols pc w5 (values1_any a b off cap Q pv w5 h kv) (enters_of Try.func78 (by kernel_rfl) rfl) hc h6 hin2 k0 k1) (enters_of Try.func76 (by kernel_rfl) rfl) (by omega) (by omega) hfit x X true hGA; refine hG.mono ?_; rintro e w6 ⟨v6, F6, rfl, hot, sF6, hb⟩; have s5 := B1.size; have l5 := blk_lt kR; replace kQ := (hb.block _ (blk_lt kQ)).trans kQ; replace kR := (hb.block _ (blk_lt kR)).trans kR; replace B1 := Rw.next B1 hb; replace h := h.below hb; replace hc := hc.below hb; clear hb q0 q1 fR r0 r1; obtain ⟨q0, q1⟩ := two kQ; have fR := Vl.free kR; obtain ⟨r0, r1⟩ := two kR; obtain ⟨ua, un, uc, hv6⟩ := hot.og.slice; subst hv6))
      have kk := two_set1 (x := .slice ua un uc) (two_set0 (x := .int .i64 x) kR)
      obtain ⟨c0, c1⟩ := two kk
      refine bodyPost_ret (v := .tuple #[.agg #[.int .i64 x, .slice ua un uc], .bool true]) (by simp [results, Try.results17, go_sem, c0, c1]) rfl ⟨.slice ua un uc, F6, rfl, ?_, sF6, ?_⟩
      · refine OT.mono (B := w5.heap.size) ?_ s5
        exact hot.keep fun z hz hzB => (Below.heap_setCell _ _ _ _ (by simp only; omega)).trans (Below.heap_setCell _ _ _ _ (by simp only; omega))
      · exact Vl.bset (Vl.bset B1 (by simp only; omega)) (by simp only; omega)

end Go.Proofs.Ytfiebakgphcnbaa.Rl
