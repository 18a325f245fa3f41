/-
  RelPick of the specification.
-/
import Derived.Test.YtfiebakgphcnbaaIg
import Derived.Test.YtfiebakgphcnbaaRe
import Derived.Test.YtfiebakgphcnbaaRq
namespace Go.Proofs.Ytfiebakgphcnbaa.Rl
set_option maxRecDepth 8000
set_option linter.unusedSimpArgs false
set_option linter.unusedVariables false
open Go Go.RowKit
open Num Word Pl Rp
open Vl (ordRow rowB V2 valB)

theorem filter_nextP {Q : List Rm} {i : Nat} (p : RowL → Bool) (h : i < Q.length) : ((said Q).take (i + 1)).filter p = ((said Q).take i).filter p ++ (if p (Q.getD i rm0).l = true then [(Q.getD i rm0).l] else []) := by
  rw [take_next h, List.filter_append]
  congr 1
  cases hp : p (Q.getD i rm0).l
  · rw [List.filter_cons, hp]; simp
  · rw [List.filter_cons, hp]; simp

set_option maxHeartbeats 16000000 in
theorem pickS_any (ar col : Int) (n : Int) (s : ByteArray) (a : Option Addr) (b off cap : Nat) (Q : List Rm) (w : World) (h : Rd w a b off Q) (hs : s.size ≤ maxLen) (x : Int) (X : List RowL) (c : Bool) (hA : PA ar (said Q) col (n, s) x X c) :
    Calls Try.prog 8 #[.agg #[.int .i64 ar, .slice a Q.length cap], .int .i64 col, .agg #[.int .i64 n, .string s]] w (ResC w x X (.bool c)) := by
  obtain ⟨W1, hW1⟩ : ∃ W1, W1 = ((w.alloc (.cells #[.int .i64 ar, .slice a Q.length cap] 31)).alloc (.cells #[.int .i64 n, .string s] 35)).alloc (.cells #[.int .i64 0, .slice none 0 0] 31) := ⟨_, rfl⟩
  have B1 : Below w.heap.size w W1 := by subst hW1; exact Rw.next (Rw.next (below_alloc1 _ _) (below_alloc1 _ _)) (below_alloc1 _ _)
  have kQ : W1.heap[w.heap.size]? = some (.cells #[.int .i64 ar, .slice a Q.length cap] 31 (0, 0)) := by subst hW1; rw [at_old (by simp <;> omega), at_old (by simp), at_new rfl]
  have kV : W1.heap[w.heap.size + 1]? = some (.cells #[.int .i64 n, .string s] 35 (0, 0)) := by subst hW1; rw [at_old (by simp), at_new (by simp)]
  have kR : W1.heap[w.heap.size + 1 + 1]? = some (.cells #[.int .i64 0, .slice none 0 0] 31 (0, 0)) := by subst hW1; exact at_new (by simp)
  have h0 := h
  replace h := h.below B1
  obtain ⟨q0, q1⟩ := two kQ
  obtain ⟨v0, v1⟩ := two kV
  have fR := Vl.free kR
  rcases hr : relB ar (said Q) with _ | _
  · have hA' : x = 0 ∧ X = [] ∧ c = false := by unfold PA at hA; rw [if_neg (by simp [hr])] at hA; exact hA
    obtain ⟨rfl, rfl, rfl⟩ := hA'
    go_enter Try.func8, Try.ntmps8
    go_wp2_with (go_at_call 27; rw [← hW1]; clear hW1; refine (relS_any ar a b off cap Q _ h).mono ?_; rw [hr]; rintro e w2 ⟨rfl, hb⟩; replace kQ := (hb.block _ (blk_lt kQ)).trans kQ; replace kV := (hb.block _ (blk_lt kV)).trans kV; replace kR := (hb.block _ (blk_lt kR)).trans kR; replace B1 := Rw.next B1 hb; replace h := h.below hb; clear hb q0 q1 v0 v1 fR; obtain ⟨q0, q1⟩ := two kQ; obtain ⟨v0, v1⟩ := two kV; have fR := Vl.free kR; obtain ⟨r0, r1⟩ := two kR)
    have kk := two_set1 (x := .slice none 0 0) (two_set0 (x := .int .i64 0) kR)
    obtain ⟨c0, c1⟩ := two kk
    refine bodyPost_ret (v := .tuple #[.agg #[.int .i64 0, .slice none 0 0], .bool false]) (by simp [results, Try.results8, go_sem, c0, c1]) rfl ⟨.slice none 0 0, [], rfl, OT.nil _ _, rfl, ?_⟩
    exact Vl.bset (Vl.bset B1 (by simp only; omega)) (by simp only; omega)
  · have P := relP_of hr
    by_cases hc0 : col < 0
    · have hA' : x = 0 ∧ X = [] ∧ c = false := by unfold PA at hA; rw [if_neg (fun q => by have := q.2.1.1; omega)] at hA; exact hA
      obtain ⟨rfl, rfl, rfl⟩ := hA'
      go_enter Try.func8, Try.ntmps8
      go_wp2_with (go_at_call 27; rw [← hW1]; clear hW1; refine (relS_any ar a b off cap Q _ h).mono ?_; rw [hr]; rintro e w2 ⟨rfl, hb⟩; replace kQ := (hb.block _ (blk_lt kQ)).trans kQ; replace kV := (hb.block _ (blk_lt kV)).trans kV; replace kR := (hb.block _ (blk_lt kR)).trans kR; replace B1 := Rw.next B1 hb; replace h := h.below hb; clear hb q0 q1 v0 v1 fR; obtain ⟨q0, q1⟩ := two kQ; obtain ⟨v0, v1⟩ := two kV; have fR := Vl.free kR; obtain ⟨r0, r1⟩ := two kR)
      have kk := two_set1 (x := .slice none 0 0) (two_set0 (x := .int .i64 0) kR)
      obtain ⟨c0, c1⟩ := two kk
      refine bodyPost_ret (v := .tuple #[.agg #[.int .i64 0, .slice none 0 0], .bool false]) (by simp [results, Try.results8, go_sem, c0, c1]) rfl ⟨.slice none 0 0, [], rfl, OT.nil _ _, rfl, ?_⟩
      exact Vl.bset (Vl.bset B1 (by simp only; omega)) (by simp only; omega)
    · by_cases hc1 : col ≥ ar
      · have hA' : x = 0 ∧ X = [] ∧ c = false := by unfold PA at hA; rw [if_neg (fun q => by have := q.2.1.2; omega)] at hA; exact hA
        obtain ⟨rfl, rfl, rfl⟩ := hA'
        go_enter Try.func8, Try.ntmps8
        go_wp2_with (go_at_call 27; rw [← hW1]; clear hW1; refine (relS_any ar a b off cap Q _ h).mono ?_; rw [hr]; rintro e w2 ⟨rfl, hb⟩; replace kQ := (hb.block _ (blk_lt kQ)).trans kQ; replace kV := (hb.block _ (blk_lt kV)).trans kV; replace kR := (hb.block _ (blk_lt kR)).trans kR; replace B1 := Rw.next B1 hb; replace h := h.below hb; clear hb q0 q1 v0 v1 fR; obtain ⟨q0, q1⟩ := two kQ; obtain ⟨v0, v1⟩ := two kV; have fR := Vl.free kR; obtain ⟨r0, r1⟩ := two kR)
        have kk := two_set1 (x := .slice none 0 0) (two_set0 (x := .int .i64 0) kR)
        obtain ⟨c0, c1⟩ := two kk
        refine bodyPost_ret (v := .tuple #[.agg #[.int .i64 0, .slice none 0 0], .bool false]) (by simp [results, Try.results8, go_sem, c0, c1]) rfl ⟨.slice none 0 0, [], rfl, OT.nil _ _, rfl, ?_⟩
        exact Vl.bset (Vl.bset B1 (by simp only; omega)) (by simp only; omega)
      · rcases hv : valB (n, s) with _ | _
        · have hA' : x = 0 ∧ X = [] ∧ c = false := by unfold PA at hA; rw [if_neg (by simp [hv])] at hA; exact hA
          obtain ⟨rfl, rfl, rfl⟩ := hA'
          go_enter Try.func8, Try.ntmps8
          go_wp2_with (first
            | (go_at_call 27; rw [← hW1]; clear hW1; refine (relS_any ar a b off cap Q _ h).mono ?_; rw [hr]; rintro e w2 ⟨rfl, hb⟩; replace kQ := (hb.block _ (blk_lt kQ)).trans kQ; replace kV := (hb.block _ (blk_lt kV)).trans kV; replace kR := (hb.block _ (blk_lt kR)).trans kR; replace B1 := Rw.next B1 hb; replace h := h.below hb; clear hb q0 q1 v0 v1 fR; obtain ⟨q0, q1⟩ := two kQ; obtain ⟨v0, v1⟩ := two kV; have fR := Vl.free kR; obtain ⟨r0, r1⟩ := two kR)
            | (go_at_call 28; refine (Vl.ok2S n s _ hs).mono ?_; rw [hv]; rintro e w4 ⟨rfl, hb⟩; replace kQ := (hb.block _ (blk_lt kQ)).trans kQ; replace kV := (hb.block _ (blk_lt kV)).trans kV; replace kR := (hb.block _ (blk_lt kR)).trans kR; replace B1 := Rw.next B1 hb; replace h := h.below hb; clear hb q0 q1 v0 v1 fR r0 r1; obtain ⟨q0, q1⟩ := two kQ; obtain ⟨v0, v1⟩ := two kV; have fR := Vl.free kR; obtain ⟨r0, r1⟩ := two kR))
          have kk := two_set1 (x := .slice none 0 0) (two_set0 (x := .int .i64 0) kR)
          obtain ⟨c0, c1⟩ := two kk
          refine bodyPost_ret (v := .tuple #[.agg #[.int .i64 0, .slice none 0 0], .bool false]) (by simp [results, Try.results8, go_sem, c0, c1]) rfl ⟨.slice none 0 0, [], rfl, OT.nil _ _, rfl, ?_⟩
          exact Vl.bset (Vl.bset B1 (by simp only; omega)) (by simp only; omega)
        · have hA' : x = ar ∧ X = (said Q).filter (fun l => decide (l.getD col.toNat Vl.z2 = (n, s))) ∧ c = true := by unfold PA at hA; rw [if_pos ⟨hr, ⟨by omega, by omega⟩, hv⟩] at hA; exact hA
          obtain ⟨rfl, hX, rfl⟩ := hA'
          obtain ⟨k, rfl⟩ := Int.eq_ofNat_of_zero_le (show 0 ≤ col by omega)
          simp only [Int.toNat_natCast] at hX
          have hkx : k < 6 ∧ (k : Int) ≤ x - 1 := ⟨by have := P.hi; omega, by omega⟩
          have hcol : ∀ i, i < Q.length → k < (Q.getD i rm0).l.length := fun i hi => by have := P.fit (Q.getD i rm0).l (List.mem_map_of_mem (getD_mem hi)); omega
          have hq3 := P.few
          rw [said_len] at hq3
          go_enter Try.func8, Try.ntmps8
          go_upto_region 3 with (first
            | (go_at_call 27; rw [← hW1]; clear hW1; refine (relS_any x a b off cap Q _ h).mono ?_; rw [hr]; rintro e w2 ⟨rfl, hb⟩; replace kQ := (hb.block _ (blk_lt kQ)).trans kQ; replace kV := (hb.block _ (blk_lt kV)).trans kV; replace kR := (hb.block _ (blk_lt kR)).trans kR; replace B1 := Rw.next B1 hb; replace h := h.below hb; clear hb q0 q1 v0 v1 fR; obtain ⟨q0, q1⟩ := two kQ; obtain ⟨v0, v1⟩ := two kV; have fR := Vl.free kR; obtain ⟨r0, r1⟩ := two kR)
            | (go_at_call 28; refine (Vl.ok2S n s _ hs).mono ?_; rw [hv]; rintro e w4 ⟨rfl, hb⟩; replace kQ := (hb.block _ (blk_lt kQ)).trans kQ; replace kV := (hb.block _ (blk_lt kV)).trans kV; replace kR := (hb.block _ (blk_lt kR)).trans kR; replace B1 := Rw.next B1 hb; replace h := h.below hb; clear hb q0 q1 v0 v1 fR r0 r1; obtain ⟨q0, q1⟩ := two kQ; obtain ⟨v0, v1⟩ := two kV; have fR := Vl.free kR; obtain ⟨r0, r1⟩ := two kR))
          clear hr hA P h hs hv
          obtain ⟨p, hpd⟩ : ∃ p : RowL → Bool, p = fun l => decide (l.getD k Vl.z2 = (n, s)) := ⟨_, rfl⟩
          have HPd : Hid (∀ l, p l = decide (l.getD k Vl.z2 = (n, s))) := fun l => by rw [hpd]
          rw [← hpd] at hX
          clear hpd
          obtain ⟨hh, hc, ho, hsz⟩ := h0
          obtain ⟨n0, hn⟩ : ∃ n0, n0 = Q.length := ⟨_, rfl⟩
          have HE : Hid ((said Q).take n0 = said Q) := by rw [hn, ← said_len, List.take_length]; exact rfl
          have HTk : Hid (∀ i, i < n0 → ((said Q).take (i + 1)).filter p = ((said Q).take i).filter p ++ (if p (Q.getD i rm0).l = true then [(Q.getD i rm0).l] else [])) := fun i hi => filter_nextP p (by omega)
          rw [← hn] at hh hc ho hsz kQ hcol hq3 q1 ⊢
          have HN : Hid (n0 = Q.length) := hn
          clear hn
          go_upto_region 4 with fail
          obtain ⟨ob, hob⟩ : ∃ ob, ob = w4.heap.size := ⟨_, rfl⟩
          obtain ⟨W5, hW5⟩ : ∃ W5, W5 = w4.alloc (.cells #[.int .i64 x, .slice none 0 0] 31) := ⟨_, rfl⟩
          have kO : W5.heap[ob]? = some (.cells #[.int .i64 x, .slice none 0 0] 31 (0, 0)) := by subst hW5; exact at_new hob
          have hb : Below w4.heap.size w4 W5 := by subst hW5; exact below_alloc1 _ _
          have hRo : w.heap.size + 1 + 1 < ob := by rw [hob]; exact blk_lt kR
          replace kQ := (hb.block _ (blk_lt kQ)).trans kQ
          replace kV := (hb.block _ (blk_lt kV)).trans kV
          replace kR := (hb.block _ (blk_lt kR)).trans kR
          replace B1 := Rw.next B1 hb
          clear hb q0 q1 v0 v1 fR r0 r1
          rw [← hW5, ← hob]
          clear hW5 hob
          obtain ⟨B, hB⟩ : ∃ B, B = ob + 1 := ⟨_, rfl⟩
          have zW1 : B ≤ W5.heap.size := by have := blk_lt kO; omega
          have hBo : ob < B := by omega
          have HB : Hid (B = ob + 1) := hB
          clear hB
          have hwo : w.heap.size ≤ ob := by omega
          obtain ⟨q0, q1⟩ := two kQ
          go_wp2
          clear q0 q1
          go_loopw [35] (fun u wr => ∃ (i : Nat) (v : Value) (F : List Rm), i ≤ n0 ∧ u = .int .i64 i ∧ Below w.heap.size w wr ∧ wr.heap[w.heap.size]? = some (.cells #[.int .i64 x, .slice a n0 cap] 31 (0, 0)) ∧ wr.heap[w.heap.size + 1]? = some (.cells #[.int .i64 n, .string s] 35 (0, 0)) ∧ wr.heap[w.heap.size + 1 + 1]? = some (.cells #[.int .i64 0, .slice none 0 0] 31 (0, 0)) ∧ wr.heap[ob]? = some (.cells #[.int .i64 x, v] 31 (0, 0)) ∧ OT wr B v F ∧ B ≤ wr.heap.size ∧ said F = ((said Q).take i).filter p) (fun u _ => n0 - (intOf u).toNat)
          case atStart => exact ⟨0, .slice none 0 0, [], Nat.zero_le _, rfl, B1, kQ, kV, kR, kO, OT.nil _ _, zW1, rfl⟩
          case round =>
            clear B1 kQ kV kR kO zW1
            obtain ⟨i, v, F, hi, rfl, B1, kQ, kV, kR, kO, hot, hBs, hF⟩ := hrel
            have hFl : F.length ≤ 100000 := by
              have e1 := congrArg List.length hF
              have e2 := List.length_filter_le p ((said Q).take i)
              rw [said_len] at e1
              rw [List.length_take] at e2
              omega
            have HF : Hid (said F = ((said Q).take i).filter p) := hF
            clear hF
            obtain ⟨q0, q1⟩ := two kQ
            obtain ⟨v0, v1⟩ := two kV
            by_cases hlt : i < n0
            · obtain rfl := hh (by omega)
              have hnz : (i : Int) < (n0 : Int) := by omega
              have hn0 : (0 : Int) ≤ (i : Int) := by omega
              have A1 := (B1.cell (World.block_lt_of_cell? _ _ (hc i hlt))).trans (hc i hlt)
              have lb : b < w.heap.size := World.block_lt_of_cell? _ _ (hc i hlt)
              have hbw : b < wr.heap.size := Nat.lt_of_lt_of_le lb B1.size
              have ok := Vl.Rd.below (ho i hlt) B1
              have hkl := hcol i hlt
              have HX : Hid (((said Q).take (i + 1)).filter p = ((said Q).take i).filter p ++ (if p (Q.getD i rm0).l = true then [(Q.getD i rm0).l] else [])) := HTk.out i hlt
              clear hc ho hh HTk hcol
              generalize Q.getD i rm0 = y at A1 ok HX hkl
              obtain ⟨xa, xb, xo, xc, xl⟩ := y
              simp only [Rm.val] at A1 ok HX hkl
              obtain rfl := ok.head (by omega)
              obtain ⟨e0, e1⟩ := ok.cell k hkl
              have hkz : (k : Int) < (xl.length : Int) := by omega
              have hpx := HPd.out xl
              cases hpv : p xl
              · rw [hpv] at hpx HX
                have HX2 : Hid (((said Q).take (i + 1)).filter p = ((said Q).take i).filter p) := (show ((said Q).take (i + 1)).filter p = ((said Q).take i).filter p by rw [HX.out]; simp)
                have HPX : Hid (false = decide (xl.getD k Vl.z2 = (n, s))) := hpx
                clear hpx hpv HX
                go_wp2
                refine wp_region_held_drew (S := fun w' => w'.cell? ⟨w.heap.size, 1, none⟩ = some (.slice (some ⟨b, off, none⟩) n0 cap) ∧ w'.cell? ⟨b, off + i, none⟩ = some (.slice (some ⟨xb, xo, none⟩) xl.length xc) ∧ w'.cell? ⟨xb, xo + k * 2, none⟩ = some (.int .i64 (xl.getD k Vl.z2).1) ∧ w'.cell? ⟨xb, xo + k * 2 + 1, none⟩ = some (.string (xl.getD k Vl.z2).2) ∧ w'.cell? ⟨w.heap.size + 1, 0, none⟩ = some (.int .i64 n) ∧ w'.cell? ⟨w.heap.size + 1, 1, none⟩ = some (.string s)) (by kernel_rfl) ⟨q1, A1, e0, e1, v0, v1⟩ (fun hHeld => ?_)
                refine Hn.take (i := 0) (d := some 38) (v := .pointer (some ⟨w.heap.size, 1, none⟩)) rfl (by kernel_rfl) (by kernel_rfl) (by kernel_rfl) (by kernel_rfl) (fun _ _ _ h => h) (Or.inl ⟨by rfl, by intro w hSw; go_simp⟩) hHeld ?_
                simp only [Act.put, List.setIfInBounds_toArray, List.set_cons_zero, List.set_cons_succ]
                refine Hn.take (i := 1) (d := some 39) (v := .slice (some ⟨b, off, none⟩) n0 cap) rfl (by kernel_rfl) (by kernel_rfl) (by kernel_rfl) (by kernel_rfl) (fun _ _ _ h => h) (Or.inl ⟨by rfl, by intro w hSw; obtain ⟨s1, s2, s3, s4, s5, s6⟩ := hSw; go_simp⟩) hHeld ?_
                simp only [Act.put, List.setIfInBounds_toArray, List.set_cons_zero, List.set_cons_succ]
                refine Hn.take (i := 2) (d := some 40) (v := .int .i64 i) rfl (by kernel_rfl) (by kernel_rfl) (by kernel_rfl) (by kernel_rfl) (fun _ _ _ h => h) (Or.inl ⟨by rfl, by intro w hSw; go_simp⟩) hHeld ?_
                simp only [Act.put, List.setIfInBounds_toArray, List.set_cons_zero, List.set_cons_succ]
                refine Hn.take (i := 3) (d := some 41) (v := .pointer (some ⟨b, off + i, none⟩)) rfl (by kernel_rfl) (by kernel_rfl) (by kernel_rfl) (by kernel_rfl) (fun _ _ _ h => h) (Or.inl ⟨by rfl, by intro w hSw; go_simp⟩) hHeld ?_
                simp only [Act.put, List.setIfInBounds_toArray, List.set_cons_zero, List.set_cons_succ]
                refine Hn.take (i := 4) (d := some 42) (v := .pointer (some ⟨b, off + i, none⟩)) rfl (by kernel_rfl) (by kernel_rfl) (by kernel_rfl) (by kernel_rfl) (fun _ _ _ h => h) (Or.inl ⟨by rfl, by intro w hSw; go_simp⟩) hHeld ?_
                simp only [Act.put, List.setIfInBounds_toArray, List.set_cons_zero, List.set_cons_succ]
                refine Hn.take (i := 5) (d := some 43) (v := .slice (some ⟨xb, xo, none⟩) xl.length xc) rfl (by kernel_rfl) (by kernel_rfl) (by kernel_rfl) (by kernel_rfl) (fun _ _ _ h => h) (Or.inl ⟨by rfl, by intro w hSw; obtain ⟨s1, s2, s3, s4, s5, s6⟩ := hSw; go_simp⟩) hHeld ?_
                simp only [Act.put, List.setIfInBounds_toArray, List.set_cons_zero, List.set_cons_succ]
                refine Hn.take (i := 6) (d := some 44) (v := .int .i64 k) rfl (by kernel_rfl) (by kernel_rfl) (by kernel_rfl) (by kernel_rfl) (fun _ _ _ h => h) (Or.inl ⟨by rfl, by intro w hSw; go_simp⟩) hHeld ?_
                simp only [Act.put, List.setIfInBounds_toArray, List.set_cons_zero, List.set_cons_succ]
                refine Hn.take (i := 7) (d := some 45) (v := .pointer (some ⟨xb, xo + k * 2, none⟩)) rfl (by kernel_rfl) (by kernel_rfl) (by kernel_rfl) (by kernel_rfl) (fun _ _ _ h => h) (Or.inl ⟨by rfl, by intro w hSw; go_simp⟩) hHeld ?_
                simp only [Act.put, List.setIfInBounds_toArray, List.set_cons_zero, List.set_cons_succ]
                refine Hn.take (i := 8) (d := some 46) (v := .agg #[.int .i64 (xl.getD k Vl.z2).1, .string (xl.getD k Vl.z2).2]) rfl (by kernel_rfl) (by kernel_rfl) (by kernel_rfl) (by kernel_rfl) (fun _ _ _ h => h) (Or.inl ⟨by rfl, by intro w hSw; obtain ⟨s1, s2, s3, s4, s5, s6⟩ := hSw; go_simp⟩) hHeld ?_
                simp only [Act.put, List.setIfInBounds_toArray, List.set_cons_zero, List.set_cons_succ]
                refine Hn.take (i := 9) (d := some 47) (v := .agg #[.int .i64 n, .string s]) rfl (by kernel_rfl) (by kernel_rfl) (by kernel_rfl) (by kernel_rfl) (fun _ _ _ h => h) (Or.inl ⟨by rfl, by intro w hSw; obtain ⟨s1, s2, s3, s4, s5, s6⟩ := hSw; go_simp⟩) hHeld ?_
                simp only [Act.put, List.setIfInBounds_toArray, List.set_cons_zero, List.set_cons_succ]
                refine Hn.take (i := 10) (d := some 48) (v := .bool false) rfl (by kernel_rfl) (by kernel_rfl) (by kernel_rfl) (by kernel_rfl) (fun _ _ _ h => h) (Or.inl ⟨by rfl, by intro w hSw; rw [exec_eql35 (x := xl.getD k Vl.z2) (y := (n, s)) (.tmp 46) (.tmp 47) rfl rfl rfl, ← HPX.out]⟩) hHeld ?_
                simp only [Act.put, List.setIfInBounds_toArray, List.set_cons_zero, List.set_cons_succ]
                refine wpAnyH_done (by kernel_rfl) ?_ _
                go_wp2
                go_roundw
                case rel => exact ⟨i + 1, v, F, by omega, by go_num, B1.drew, kQ, kV, kR, kO, hot.below ((Below.refl _ _).drew), hBs, HF.out.trans HX2.out.symm⟩
                case measure => simp [intOf]; omega
              · rw [hpv] at hpx HX
                simp only [if_true] at HX
                have HPX : Hid (true = decide (xl.getD k Vl.z2 = (n, s))) := hpx
                clear hpx hpv
                go_wp2
                refine wp_region_held_drew (S := fun w' => w'.cell? ⟨w.heap.size, 1, none⟩ = some (.slice (some ⟨b, off, none⟩) n0 cap) ∧ w'.cell? ⟨b, off + i, none⟩ = some (.slice (some ⟨xb, xo, none⟩) xl.length xc) ∧ w'.cell? ⟨xb, xo + k * 2, none⟩ = some (.int .i64 (xl.getD k Vl.z2).1) ∧ w'.cell? ⟨xb, xo + k * 2 + 1, none⟩ = some (.string (xl.getD k Vl.z2).2) ∧ w'.cell? ⟨w.heap.size + 1, 0, none⟩ = some (.int .i64 n) ∧ w'.cell? ⟨w.heap.size + 1, 1, none⟩ = some (.string s)) (by kernel_rfl) ⟨q1, A1, e0, e1, v0, v1⟩ (fun hHeld => ?_)
                refine Hn.take (i := 0) (d := some 38) (v := .pointer (some ⟨w.heap.size, 1, none⟩)) rfl (by kernel_rfl) (by kernel_rfl) (by kernel_rfl) (by kernel_rfl) (fun _ _ _ h => h) (Or.inl ⟨by rfl, by intro w hSw; go_simp⟩) hHeld ?_
                simp only [Act.put, List.setIfInBounds_toArray, List.set_cons_zero, List.set_cons_succ]
                refine Hn.take (i := 1) (d := some 39) (v := .slice (some ⟨b, off, none⟩) n0 cap) rfl (by kernel_rfl) (by kernel_rfl) (by kernel_rfl) (by kernel_rfl) (fun _ _ _ h => h) (Or.inl ⟨by rfl, by intro w hSw; obtain ⟨s1, s2, s3, s4, s5, s6⟩ := hSw; go_simp⟩) hHeld ?_
                simp only [Act.put, List.setIfInBounds_toArray, List.set_cons_zero, List.set_cons_succ]
                refine Hn.take (i := 2) (d := some 40) (v := .int .i64 i) rfl (by kernel_rfl) (by kernel_rfl) (by kernel_rfl) (by kernel_rfl) (fun _ _ _ h => h) (Or.inl ⟨by rfl, by intro w hSw; go_simp⟩) hHeld ?_
                simp only [Act.put, List.setIfInBounds_toArray, List.set_cons_zero, List.set_cons_succ]
                refine Hn.take (i := 3) (d := some 41) (v := .pointer (some ⟨b, off + i, none⟩)) rfl (by kernel_rfl) (by kernel_rfl) (by kernel_rfl) (by kernel_rfl) (fun _ _ _ h => h) (Or.inl ⟨by rfl, by intro w hSw; go_simp⟩) hHeld ?_
                simp only [Act.put, List.setIfInBounds_toArray, List.set_cons_zero, List.set_cons_succ]
                refine Hn.take (i := 4) (d := some 42) (v := .pointer (some ⟨b, off + i, none⟩)) rfl (by kernel_rfl) (by kernel_rfl) (by kernel_rfl) (by kernel_rfl) (fun _ _ _ h => h) (Or.inl ⟨by rfl, by intro w hSw; go_simp⟩) hHeld ?_
                simp only [Act.put, List.setIfInBounds_toArray, List.set_cons_zero, List.set_cons_succ]
                refine Hn.take (i := 5) (d := some 43) (v := .slice (some ⟨xb, xo, none⟩) xl.length xc) rfl (by kernel_rfl) (by kernel_rfl) (by kernel_rfl) (by kernel_rfl) (fun _ _ _ h => h) (Or.inl ⟨by rfl, by intro w hSw; obtain ⟨s1, s2, s3, s4, s5, s6⟩ := hSw; go_simp⟩) hHeld ?_
                simp only [Act.put, List.setIfInBounds_toArray, List.set_cons_zero, List.set_cons_succ]
                refine Hn.take (i := 6) (d := some 44) (v := .int .i64 k) rfl (by kernel_rfl) (by kernel_rfl) (by kernel_rfl) (by kernel_rfl) (fun _ _ _ h => h) (Or.inl ⟨by rfl, by intro w hSw; go_simp⟩) hHeld ?_
                simp only [Act.put, List.setIfInBounds_toArray, List.set_cons_zero, List.set_cons_succ]
                refine Hn.take (i := 7) (d := some 45) (v := .pointer (some ⟨xb, xo + k * 2, none⟩)) rfl (by kernel_rfl) (by kernel_rfl) (by kernel_rfl) (by kernel_rfl) (fun _ _ _ h => h) (Or.inl ⟨by rfl, by intro w hSw; go_simp⟩) hHeld ?_
                simp only [Act.put, List.setIfInBounds_toArray, List.set_cons_zero, List.set_cons_succ]
                refine Hn.take (i := 8) (d := some 46) (v := .agg #[.int .i64 (xl.getD k Vl.z2).1, .string (xl.getD k Vl.z2).2]) rfl (by kernel_rfl) (by kernel_rfl) (by kernel_rfl) (by kernel_rfl) (fun _ _ _ h => h) (Or.inl ⟨by rfl, by intro w hSw; obtain ⟨s1, s2, s3, s4, s5, s6⟩ := hSw; go_simp⟩) hHeld ?_
                simp only [Act.put, List.setIfInBounds_toArray, List.set_cons_zero, List.set_cons_succ]
                refine Hn.take (i := 9) (d := some 47) (v := .agg #[.int .i64 n, .string s]) rfl (by kernel_rfl) (by kernel_rfl) (by kernel_rfl) (by kernel_rfl) (fun _ _ _ h => h) (Or.inl ⟨by rfl, by intro w hSw; obtain ⟨s1, s2, s3, s4, s5, s6⟩ := hSw; go_simp⟩) hHeld ?_
                simp only [Act.put, List.setIfInBounds_toArray, List.set_cons_zero, List.set_cons_succ]
                refine Hn.take (i := 10) (d := some 48) (v := .bool true) rfl (by kernel_rfl) (by kernel_rfl) (by kernel_rfl) (by kernel_rfl) (fun _ _ _ h => h) (Or.inl ⟨by rfl, by intro w hSw; rw [exec_eql35 (x := xl.getD k Vl.z2) (y := (n, s)) (.tmp 46) (.tmp 47) rfl rfl rfl, ← HPX.out]⟩) hHeld ?_
                simp only [Act.put, List.setIfInBounds_toArray, List.set_cons_zero, List.set_cons_succ]
                refine wpAnyH_done (by kernel_rfl) ?_ _
                clear HPX
                replace kQ : wr.drew.heap[w.heap.size]? = some (.cells #[.int .i64 x, .slice (some ⟨b, off, none⟩) n0 cap] 31 (0, 0)) := kQ
                replace kV : wr.drew.heap[w.heap.size + 1]? = some (.cells #[.int .i64 n, .string s] 35 (0, 0)) := kV
                replace kR : wr.drew.heap[w.heap.size + 1 + 1]? = some (.cells #[.int .i64 0, .slice none 0 0] 31 (0, 0)) := kR
                replace kO : wr.drew.heap[ob]? = some (.cells #[.int .i64 x, v] 31 (0, 0)) := kO
                replace B1 : Below w.heap.size w wr.drew := B1.drew
                replace hot : OT wr.drew B v F := hot.below ((Below.refl _ _).drew)
                replace hBs : B ≤ wr.drew.heap.size := hBs
                replace ok : Vl.Rd wr.drew (some ⟨xb, xo, none⟩) xb xo xl := ok.below ((Below.refl _ _).drew)
                replace A1 : wr.drew.cell? ⟨b, off + i, none⟩ = some (.slice (some ⟨xb, xo, none⟩) xl.length xc) := A1
                replace hbw : b < wr.drew.heap.size := hbw
                clear q0 q1 v0 v1 e0 e1
                generalize wr.drew = w1 at *
                have hSt : ∀ w', Stab w1 ob v w' → w'.cell? ⟨w.heap.size, 1, none⟩ = some (.slice (some ⟨b, off, none⟩) n0 cap) ∧ w'.cell? ⟨b, off + i, none⟩ = some (.slice (some ⟨xb, xo, none⟩) xl.length xc) := fun w' hst => ⟨(two ((hst.block _ (blk_lt kQ) (by omega) (fun e => by have := (hot.og.lt e.symm).1; omega)).trans kQ)).2, (World.cell?_of_block (a := ⟨b, off + i, none⟩) (hst.block b hbw (by omega) (fun e => by have := (hot.og.lt e.symm).1; omega))).trans A1⟩
                go_wp2
                refine wp_region_held_drew (S := Stab w1 (ob) v) (by kernel_rfl) (Stab.refl _ _ _) (fun hHeld => ?_)
                refine Hn.take (i := 0) (d := some 49) (v := .pointer (some ⟨ob, 1, none⟩)) rfl (by kernel_rfl) (by kernel_rfl) (by kernel_rfl) (by kernel_rfl) (fun _ _ _ h => h) (Or.inl ⟨by rfl, by intro w hSw; go_simp⟩) hHeld ?_
                simp only [Act.put, List.setIfInBounds_toArray, List.set_cons_zero, List.set_cons_succ]
                refine Hn.take (i := 2) (d := some 51) (v := .pointer (some ⟨w.heap.size, 1, none⟩)) rfl (by kernel_rfl) (by kernel_rfl) (by kernel_rfl) (by kernel_rfl) (fun _ _ _ h => h) (Or.inl ⟨by rfl, by intro w hSw; go_simp⟩) hHeld ?_
                simp only [Act.put, List.setIfInBounds_toArray, List.set_cons_zero, List.set_cons_succ]
                refine Hn.take (i := 3) (d := some 52) (v := .slice (some ⟨b, off, none⟩) n0 cap) rfl (by kernel_rfl) (by kernel_rfl) (by kernel_rfl) (by kernel_rfl) (fun _ _ _ h => h) (Or.inl ⟨by rfl, by intro w hSw; obtain ⟨c1, c2⟩ := hSt w hSw; go_simp⟩) hHeld ?_
                simp only [Act.put, List.setIfInBounds_toArray, List.set_cons_zero, List.set_cons_succ]
                refine Hn.take (i := 4) (d := some 53) (v := .int .i64 i) rfl (by kernel_rfl) (by kernel_rfl) (by kernel_rfl) (by kernel_rfl) (fun _ _ _ h => h) (Or.inl ⟨by rfl, by intro w hSw; go_simp⟩) hHeld ?_
                simp only [Act.put, List.setIfInBounds_toArray, List.set_cons_zero, List.set_cons_succ]
                refine Hn.take (i := 5) (d := some 54) (v := .pointer (some ⟨b, off + i, none⟩)) rfl (by kernel_rfl) (by kernel_rfl) (by kernel_rfl) (by kernel_rfl) (fun _ _ _ h => h) (Or.inl ⟨by rfl, by intro w hSw; go_simp⟩) hHeld ?_
                simp only [Act.put, List.setIfInBounds_toArray, List.set_cons_zero, List.set_cons_succ]
                refine Hn.take (i := 6) (d := some 55) (v := .agg #[.slice (some ⟨xb, xo, none⟩) xl.length xc]) rfl (by kernel_rfl) (by kernel_rfl) (by kernel_rfl) (by kernel_rfl) (fun _ _ _ h => h) (Or.inl ⟨by rfl, by intro w hSw; obtain ⟨c1, c2⟩ := hSt w hSw; go_simp⟩) hHeld ?_
                simp only [Act.put, List.setIfInBounds_toArray, List.set_cons_zero, List.set_cons_succ]
                have st : Stab w1 (ob) v w1.drew := Stab.refl _ _ _
                have hot0 : OT w1.drew B v F := hot.below ((Below.refl _ _).drew)
                have kO0 : w1.drew.heap[ob]? = some (.cells #[.int .i64 x, v] 31 (0, 0)) := kO
                have ok0 := Vl.Rd.below ok ((Below.refl w1.heap.size w1).drew)
                have B2 := Rw.next B1 ((Below.refl w1.heap.size w1).drew)
                have sW : w1.drew.heap.size = w1.heap.size := rfl
                generalize w1.drew = W at *
                refine wpAnyH_ready (rs := [1, 7]) (by kernel_rfl) (by simp) (Hn.readyRun (i := 1) rfl (by kernel_rfl) (some 50) (by kernel_rfl) (v := v) (w' := W) (by obtain ⟨o0, o1⟩ := two kO0; go_simp) st (fun hHeld => ?_) (Hn.call1 (i := 7) rfl (by rfl) 29 (.tmp 55) 56 (by kernel_rfl) 56 (by kernel_rfl) (.agg #[.slice (some ⟨xb, xo, none⟩) xl.length xc]) (by kernel_rfl) (fun _ => rfl) (lrow_any (some ⟨xb, xo, none⟩) xb xo xc xl _ ok0) ?_ AllReadyH.nil))
                · simp only [Act.put, List.setIfInBounds_toArray, List.set_cons_zero, List.set_cons_succ]
                  refine wpAnyH_ready (rs := [7]) (by kernel_rfl) (by simp) (Hn.call1 (i := 7) rfl (by rfl) 29 (.tmp 55) 56 (by kernel_rfl) 56 (by kernel_rfl) (.agg #[.slice (some ⟨xb, xo, none⟩) xl.length xc]) (by kernel_rfl) (fun _ => rfl) (lrow_any (some ⟨xb, xo, none⟩) xb xo xc xl _ ok0) ?_ AllReadyH.nil)
                  rintro e1 Wc ⟨r, rfl, hr, hl, hb⟩
                  replace st := st.below hb
                  replace kO0 := (hb.block _ (blk_lt kO0)).trans kO0
                  have hbc := hb
                  replace B2 := Rw.next B2 hb
                  have sC := hb.size
                  refine ⟨_, rfl, st, fun hHeld => ?_⟩
                  simp only [Act.put, List.setIfInBounds_toArray, List.set_cons_zero, List.set_cons_succ]
                  refine wpAnyH_ready (rs := [8]) (by kernel_rfl) (by simp) (Hn.readyRun (i := 8) rfl (by kernel_rfl) (some 57) (by kernel_rfl) (v := .slice (some ⟨Wc.heap.size, 0, none⟩) 1 1) (w' := Wc.alloc (.cells #[r.val] 56)) (exec_one rfl (by kernel_rfl)) (st.below (below_alloc1 _ _)) (fun hHeld => ?_) AllReadyH.nil)
                  simp only [Act.put, List.setIfInBounds_toArray, List.set_cons_zero, List.set_cons_succ]
                  obtain ⟨Wd, hWd⟩ : ∃ Wd, Wd = Wc.alloc (.cells #[r.val] 56) := ⟨_, rfl⟩
                  rw [← hWd] at hHeld ⊢
                  have hT : Wd.heap[Wc.heap.size]? = some (.cells #[r.val] 56 (0, 0)) := by subst hWd; exact at_new rfl
                  have hb : Below Wc.heap.size Wc Wd := by subst hWd; exact below_alloc1 _ _
                  replace st := st.below hb
                  replace kO0 := (hb.block _ (blk_lt kO0)).trans kO0
                  replace B2 := Rw.next B2 hb
                  have hr2 := hr.below hb
                  have hbd := Rw.next hbc hb
                  clear hb hWd
                  obtain ⟨v', Z, hrun, hotZ, hgr⟩ := hot0.app 29 (c := 1) hbd hr2 (by omega) hT hFl
                  refine wpAnyH_ready (rs := [9]) (by kernel_rfl) (by simp) (Hn.readyRun (i := 9) rfl (by kernel_rfl) (some 58) (by kernel_rfl) (Hn.exec_app (.tmp 50) (.tmp 57) rfl (by kernel_rfl) (by kernel_rfl) hrun) (st.grown hgr) (fun hHeld => ?_) AllReadyH.nil)
                  simp only [Act.put, List.setIfInBounds_toArray, List.set_cons_zero, List.set_cons_succ]
                  replace st := st.grown hgr
                  obtain ⟨va, vn, vc, hv⟩ := hotZ.og.slice
                  subst hv
                  have kOZ := (hgr.block _ (blk_lt kO0) (fun e => by have := (hot0.og.lt e.symm).1; omega)).trans kO0
                  replace B2 := B2.grown hgr B2.size (fun k hk => by have := (hot0.og.lt hk).1; omega)
                  obtain ⟨o0, o1⟩ := two kOZ
                  have fO := Vl.free kOZ
                  refine Hn.take (i := 10) (d := some 59) (v := .pointer (some ⟨ob, 1, none⟩)) rfl (by kernel_rfl) (by kernel_rfl) (by kernel_rfl) (by kernel_rfl) (fun _ _ _ h => h) (Or.inl ⟨by rfl, by intro w hSw; go_simp⟩) hHeld ?_
                  simp only [Act.put, List.setIfInBounds_toArray, List.set_cons_zero, List.set_cons_succ]
                  refine wpAnyH_ready (rs := [11]) (by kernel_rfl) (by simp) (Hn.readySkip (i := 11) rfl (by kernel_rfl) none (by kernel_rfl) (w' := Z.setCell ⟨ob, 1, none⟩ (.slice va vn vc)) (by go_simp) st.set (fun hHeld => ?_) AllReadyH.nil)
                  simp only [Act.put, List.setIfInBounds_toArray, List.set_cons_zero, List.set_cons_succ]
                  refine wpAnyH_done (by kernel_rfl) ?_ _
                  have kO' : (Z.setCell ⟨ob, 1, none⟩ (.slice va vn vc)).heap[ob]? = some (.cells #[.int .i64 x, (.slice va vn vc)] 31 (0, 0)) := two_set1 kOZ
                  have B1' : Below w.heap.size w (Z.setCell ⟨ob, 1, none⟩ (.slice va vn vc)) := Vl.bset B2 hwo
                  have hot' : OT (Z.setCell ⟨ob, 1, none⟩ (.slice va vn vc)) B (.slice va vn vc) (F ++ [r]) := hotZ.keep fun x _ hx => Below.heap_setCell _ _ _ _ (by simp; omega)
                  replace st : Stab w1 (ob) v (Z.setCell ⟨ob, 1, none⟩ (.slice va vn vc)) := st.set
                  go_wp2
                  go_roundw
                  case rel => exact ⟨i + 1, .slice va vn vc, F ++ [r], by omega, by go_num, B1', (st.block _ (blk_lt kQ) (by omega) (fun e => by have := (hot.og.lt e.symm).1; omega)).trans kQ, (st.block _ (blk_lt kV) (by omega) (fun e => by have := (hot.og.lt e.symm).1; omega)).trans kV, (st.block _ (blk_lt kR) (by omega) (fun e => by have := (hot.og.lt e.symm).1; omega)).trans kR, kO', hot', Nat.le_trans hBs st.size, by rw [said_app, HX.out, hl]; exact congrArg (· ++ [xl]) HF.out⟩
                  case measure => simp [intOf]; omega
                · rintro e1 Wc ⟨r, rfl, hr, hl, hb⟩
                  replace st := st.below hb
                  replace kO0 := (hb.block _ (blk_lt kO0)).trans kO0
                  have hbc := hb
                  replace B2 := Rw.next B2 hb
                  have sC := hb.size
                  refine ⟨_, rfl, st, fun hHeld => ?_⟩
                  simp only [Act.put, List.setIfInBounds_toArray, List.set_cons_zero, List.set_cons_succ]
                  refine wpAnyH_ready (rs := [1, 8]) (by kernel_rfl) (by simp) (Hn.readyRun (i := 1) rfl (by kernel_rfl) (some 50) (by kernel_rfl) (v := v) (w' := Wc) (by obtain ⟨o0, o1⟩ := two kO0; go_simp) st (fun hHeld => ?_) (Hn.readyRun (i := 8) rfl (by kernel_rfl) (some 57) (by kernel_rfl) (v := .slice (some ⟨Wc.heap.size, 0, none⟩) 1 1) (w' := Wc.alloc (.cells #[r.val] 56)) (exec_one rfl (by kernel_rfl)) (st.below (below_alloc1 _ _)) (fun hHeld => ?_) AllReadyH.nil))
                  · simp only [Act.put, List.setIfInBounds_toArray, List.set_cons_zero, List.set_cons_succ]
                    refine wpAnyH_ready (rs := [8]) (by kernel_rfl) (by simp) (Hn.readyRun (i := 8) rfl (by kernel_rfl) (some 57) (by kernel_rfl) (v := .slice (some ⟨Wc.heap.size, 0, none⟩) 1 1) (w' := Wc.alloc (.cells #[r.val] 56)) (exec_one rfl (by kernel_rfl)) (st.below (below_alloc1 _ _)) (fun hHeld => ?_) AllReadyH.nil)
                    simp only [Act.put, List.setIfInBounds_toArray, List.set_cons_zero, List.set_cons_succ]
                    obtain ⟨Wd, hWd⟩ : ∃ Wd, Wd = Wc.alloc (.cells #[r.val] 56) := ⟨_, rfl⟩
                    rw [← hWd] at hHeld ⊢
                    have hT : Wd.heap[Wc.heap.size]? = some (.cells #[r.val] 56 (0, 0)) := by subst hWd; exact at_new rfl
                    have hb : Below Wc.heap.size Wc Wd := by subst hWd; exact below_alloc1 _ _
                    replace st := st.below hb
                    replace kO0 := (hb.block _ (blk_lt kO0)).trans kO0
                    replace B2 := Rw.next B2 hb
                    have hr2 := hr.below hb
                    have hbd := Rw.next hbc hb
                    clear hb hWd
                    obtain ⟨v', Z, hrun, hotZ, hgr⟩ := hot0.app 29 (c := 1) hbd hr2 (by omega) hT hFl
                    refine wpAnyH_ready (rs := [9]) (by kernel_rfl) (by simp) (Hn.readyRun (i := 9) rfl (by kernel_rfl) (some 58) (by kernel_rfl) (Hn.exec_app (.tmp 50) (.tmp 57) rfl (by kernel_rfl) (by kernel_rfl) hrun) (st.grown hgr) (fun hHeld => ?_) AllReadyH.nil)
                    simp only [Act.put, List.setIfInBounds_toArray, List.set_cons_zero, List.set_cons_succ]
                    replace st := st.grown hgr
                    obtain ⟨va, vn, vc, hv⟩ := hotZ.og.slice
                    subst hv
                    have kOZ := (hgr.block _ (blk_lt kO0) (fun e => by have := (hot0.og.lt e.symm).1; omega)).trans kO0
                    replace B2 := B2.grown hgr B2.size (fun k hk => by have := (hot0.og.lt hk).1; omega)
                    obtain ⟨o0, o1⟩ := two kOZ
                    have fO := Vl.free kOZ
                    refine Hn.take (i := 10) (d := some 59) (v := .pointer (some ⟨ob, 1, none⟩)) rfl (by kernel_rfl) (by kernel_rfl) (by kernel_rfl) (by kernel_rfl) (fun _ _ _ h => h) (Or.inl ⟨by rfl, by intro w hSw; go_simp⟩) hHeld ?_
                    simp only [Act.put, List.setIfInBounds_toArray, List.set_cons_zero, List.set_cons_succ]
                    refine wpAnyH_ready (rs := [11]) (by kernel_rfl) (by simp) (Hn.readySkip (i := 11) rfl (by kernel_rfl) none (by kernel_rfl) (w' := Z.setCell ⟨ob, 1, none⟩ (.slice va vn vc)) (by go_simp) st.set (fun hHeld => ?_) AllReadyH.nil)
                    simp only [Act.put, List.setIfInBounds_toArray, List.set_cons_zero, List.set_cons_succ]
                    refine wpAnyH_done (by kernel_rfl) ?_ _
                    have kO' : (Z.setCell ⟨ob, 1, none⟩ (.slice va vn vc)).heap[ob]? = some (.cells #[.int .i64 x, (.slice va vn vc)] 31 (0, 0)) := two_set1 kOZ
                    have B1' : Below w.heap.size w (Z.setCell ⟨ob, 1, none⟩ (.slice va vn vc)) := Vl.bset B2 hwo
                    have hot' : OT (Z.setCell ⟨ob, 1, none⟩ (.slice va vn vc)) B (.slice va vn vc) (F ++ [r]) := hotZ.keep fun x _ hx => Below.heap_setCell _ _ _ _ (by simp; omega)
                    replace st : Stab w1 (ob) v (Z.setCell ⟨ob, 1, none⟩ (.slice va vn vc)) := st.set
                    go_wp2
                    go_roundw
                    case rel => exact ⟨i + 1, .slice va vn vc, F ++ [r], by omega, by go_num, B1', (st.block _ (blk_lt kQ) (by omega) (fun e => by have := (hot.og.lt e.symm).1; omega)).trans kQ, (st.block _ (blk_lt kV) (by omega) (fun e => by have := (hot.og.lt e.symm).1; omega)).trans kV, (st.block _ (blk_lt kR) (by omega) (fun e => by have := (hot.og.lt e.symm).1; omega)).trans kR, kO', hot', Nat.le_trans hBs st.size, by rw [said_app, HX.out, hl]; exact congrArg (· ++ [xl]) HF.out⟩
                    case measure => simp [intOf]; omega
                  · simp only [Act.put, List.setIfInBounds_toArray, List.set_cons_zero, List.set_cons_succ]
                    obtain ⟨Wd, hWd⟩ : ∃ Wd, Wd = Wc.alloc (.cells #[r.val] 56) := ⟨_, rfl⟩
                    rw [← hWd] at hHeld ⊢
                    have hT : Wd.heap[Wc.heap.size]? = some (.cells #[r.val] 56 (0, 0)) := by subst hWd; exact at_new rfl
                    have hb : Below Wc.heap.size Wc Wd := by subst hWd; exact below_alloc1 _ _
                    replace st := st.below hb
                    replace kO0 := (hb.block _ (blk_lt kO0)).trans kO0
                    replace B2 := Rw.next B2 hb
                    have hr2 := hr.below hb
                    have hbd := Rw.next hbc hb
                    clear hb hWd
                    refine wpAnyH_ready (rs := [1]) (by kernel_rfl) (by simp) (Hn.readyRun (i := 1) rfl (by kernel_rfl) (some 50) (by kernel_rfl) (v := v) (w' := Wd) (by obtain ⟨o0, o1⟩ := two kO0; go_simp) st (fun hHeld => ?_) AllReadyH.nil)
                    simp only [Act.put, List.setIfInBounds_toArray, List.set_cons_zero, List.set_cons_succ]
                    obtain ⟨v', Z, hrun, hotZ, hgr⟩ := hot0.app 29 (c := 1) hbd hr2 (by omega) hT hFl
                    refine wpAnyH_ready (rs := [9]) (by kernel_rfl) (by simp) (Hn.readyRun (i := 9) rfl (by kernel_rfl) (some 58) (by kernel_rfl) (Hn.exec_app (.tmp 50) (.tmp 57) rfl (by kernel_rfl) (by kernel_rfl) hrun) (st.grown hgr) (fun hHeld => ?_) AllReadyH.nil)
                    simp only [Act.put, List.setIfInBounds_toArray, List.set_cons_zero, List.set_cons_succ]
                    replace st := st.grown hgr
                    obtain ⟨va, vn, vc, hv⟩ := hotZ.og.slice
                    subst hv
                    have kOZ := (hgr.block _ (blk_lt kO0) (fun e => by have := (hot0.og.lt e.symm).1; omega)).trans kO0
                    replace B2 := B2.grown hgr B2.size (fun k hk => by have := (hot0.og.lt hk).1; omega)
                    obtain ⟨o0, o1⟩ := two kOZ
                    have fO := Vl.free kOZ
                    refine Hn.take (i := 10) (d := some 59) (v := .pointer (some ⟨ob, 1, none⟩)) rfl (by kernel_rfl) (by kernel_rfl) (by kernel_rfl) (by kernel_rfl) (fun _ _ _ h => h) (Or.inl ⟨by rfl, by intro w hSw; go_simp⟩) hHeld ?_
                    simp only [Act.put, List.setIfInBounds_toArray, List.set_cons_zero, List.set_cons_succ]
                    refine wpAnyH_ready (rs := [11]) (by kernel_rfl) (by simp) (Hn.readySkip (i := 11) rfl (by kernel_rfl) none (by kernel_rfl) (w' := Z.setCell ⟨ob, 1, none⟩ (.slice va vn vc)) (by go_simp) st.set (fun hHeld => ?_) AllReadyH.nil)
                    simp only [Act.put, List.setIfInBounds_toArray, List.set_cons_zero, List.set_cons_succ]
                    refine wpAnyH_done (by kernel_rfl) ?_ _
                    have kO' : (Z.setCell ⟨ob, 1, none⟩ (.slice va vn vc)).heap[ob]? = some (.cells #[.int .i64 x, (.slice va vn vc)] 31 (0, 0)) := two_set1 kOZ
                    have B1' : Below w.heap.size w (Z.setCell ⟨ob, 1, none⟩ (.slice va vn vc)) := Vl.bset B2 hwo
                    have hot' : OT (Z.setCell ⟨ob, 1, none⟩ (.slice va vn vc)) B (.slice va vn vc) (F ++ [r]) := hotZ.keep fun x _ hx => Below.heap_setCell _ _ _ _ (by simp; omega)
                    replace st : Stab w1 (ob) v (Z.setCell ⟨ob, 1, none⟩ (.slice va vn vc)) := st.set
                    go_wp2
                    go_roundw
                    case rel => exact ⟨i + 1, .slice va vn vc, F ++ [r], by omega, by go_num, B1', (st.block _ (blk_lt kQ) (by omega) (fun e => by have := (hot.og.lt e.symm).1; omega)).trans kQ, (st.block _ (blk_lt kV) (by omega) (fun e => by have := (hot.og.lt e.symm).1; omega)).trans kV, (st.block _ (blk_lt kR) (by omega) (fun e => by have := (hot.og.lt e.symm).1; omega)).trans kR, kO', hot', Nat.le_trans hBs st.size, by rw [said_app, HX.out, hl]; exact congrArg (· ++ [xl]) HF.out⟩
                    case measure => simp [intOf]; omega
            · have he : i = n0 := by omega
              subst he
              obtain ⟨t0, t1⟩ := two kO
              obtain ⟨r0, r1⟩ := two kR
              have fR := Vl.free kR
              obtain ⟨va, vn, vc, hv⟩ := hot.og.slice
              subst hv
              go_wp2
              have kk := two_set1 (x := .slice va vn vc) (two_set0 (x := .int .i64 x) kR)
              obtain ⟨c0, c1⟩ := two kk
              refine bodyPost_ret (v := .tuple #[.agg #[.int .i64 x, .slice va vn vc], .bool true]) (by simp [results, Try.results8, go_sem, c0, c1]) rfl ⟨.slice va vn vc, F, rfl, ?_, by rw [HF.out, HE.out, hX], ?_⟩
              · refine (OT.mono (B := B) ?_ (by have := HB.out; omega))
                refine hot.keep fun x hx hxB => ?_
                repeat (first | rfl | refine (Below.heap_setCell _ _ _ _ (by simp; omega)).trans ?_)
              · repeat (first | with_reducible exact B1 | refine Vl.bset ?_ (by simp <;> omega))

end Go.Proofs.Ytfiebakgphcnbaa.Rl
