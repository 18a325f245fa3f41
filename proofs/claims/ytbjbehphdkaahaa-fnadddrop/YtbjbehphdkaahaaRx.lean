/-
  The specification's RelDrop.
-/
import Derived.Test.YtbjbehphdkaahaaRo
import Derived.Test.YtbjbehphdkaahaaRq
namespace Go.Proofs.Ytbjbehphdkaahaa.Rl
set_option maxRecDepth 8000
set_option linter.unusedSimpArgs false
set_option linter.unusedVariables false
open Go Go.RowKit
open Num Word Pl Rp


/-- Does a row fit a relation that is right? -/
def addB (ar : Int) (R : List RowL) (m : RowL) : Bool := relB ar R && (Vl.rowB m && decide ((m.length : Int) = ar))
set_option maxHeartbeats 16000000 in
theorem dropS_any (x : Int) (a a' : Option Addr) (b off cap b' off' cap' : Nat) (Q : List Rm) (m : RowL) (w : World) (h : Rd w a b off Q) (h' : Vl.Rd w a' b' off' m) (ar : Int) (X : List RowL) (c : Int) (hA : if addB x (said Q) m = true then ar = x ∧ X = ((said Q).filter fun z => !decide (z = m)) ∧ c = 0 else ar = 0 ∧ X = [] ∧ c = 1) :
    Calls Try.prog 36 #[.agg #[.int .i64 x, .slice a Q.length cap], .agg #[.slice a' m.length cap']] w (ResC w ar X (.int .i64 c)) := by
  obtain ⟨W1, hW1⟩ : ∃ W1, W1 = ((w.alloc (.cells #[.int .i64 x, .slice a Q.length cap] 25)).alloc (.cells #[.slice a' m.length cap'] 34)).alloc (.cells #[.int .i64 0, .slice none 0 0] 25) := ⟨_, rfl⟩
  have B1 : Below w.heap.size w W1 := by subst hW1; exact Rw.next (Rw.next (below_alloc1 _ _) (below_alloc1 _ _)) (below_alloc1 _ _)
  have kT : W1.heap[w.heap.size]? = some (.cells #[.int .i64 x, .slice a Q.length cap] 25 (0, 0)) := by subst hW1; rw [at_old (by simp <;> omega), at_old (by simp), at_new rfl]
  have kU : W1.heap[w.heap.size + 1]? = some (.cells #[.slice a' m.length cap'] 34 (0, 0)) := by subst hW1; rw [at_old (by simp), at_new (by simp)]
  have kR : W1.heap[w.heap.size + 1 + 1]? = some (.cells #[.int .i64 0, .slice none 0 0] 25 (0, 0)) := by subst hW1; exact at_new (by simp)
  have hR := fun W h => relS_any x a b off cap Q W h
  have hO := fun W h => Vl.rowS_any a' b' off' cap' m W h
  unfold addB at hA
  cases hr : relB x (said Q) with
  | false =>
    rw [hr] at hA hR
    simp only [Bool.false_and, Bool.false_eq_true, if_false] at hA
    obtain ⟨rfl, rfl, rfl⟩ := hA
    go_enter Try.func36, Try.ntmps36
    go_wp2_with (first
      | (go_at_call 25; rw [← hW1]; clear hW1; refine (hR _ (h.below B1)).mono ?_; rintro e w1 ⟨rfl, hb⟩; replace B1 := Rw.next B1 hb; replace kT := (hb.block _ (blk_lt kT)).trans kT; replace kU := (hb.block _ (blk_lt kU)).trans kU; replace kR := (hb.block _ (blk_lt kR)).trans kR; clear hb; obtain ⟨p0, p1⟩ := two kT; have u0 := one kU; obtain ⟨r0, r1⟩ := two kR; have fR := Vl.free kR))
    refine bodyPost_ret (v := .tuple #[.agg #[.int .i64 0, .slice none 0 0], .int .i64 1]) (by simp [results, Try.results36, go_sem, r0, r1]) rfl ⟨.slice none 0 0, [], rfl, OT.nil _ _, rfl, ?_⟩
    repeat (first | with_reducible exact B1 | refine Vl.bset ?_ (by simp <;> omega))
  | true =>
  cases ho : Vl.rowB m with
  | false =>
    rw [hr] at hA hR
    rw [ho] at hA hO
    simp only [Bool.false_and, Bool.and_false, Bool.false_eq_true, if_false] at hA
    obtain ⟨rfl, rfl, rfl⟩ := hA
    go_enter Try.func36, Try.ntmps36
    go_wp2_with (first
      | (go_at_call 25; rw [← hW1]; clear hW1; refine (hR _ (h.below B1)).mono ?_; rintro e w1 ⟨rfl, hb⟩; replace B1 := Rw.next B1 hb; replace kT := (hb.block _ (blk_lt kT)).trans kT; replace kU := (hb.block _ (blk_lt kU)).trans kU; replace kR := (hb.block _ (blk_lt kR)).trans kR; clear hb; obtain ⟨p0, p1⟩ := two kT; have u0 := one kU; obtain ⟨r0, r1⟩ := two kR; have fR := Vl.free kR)
      | (go_at_call 52; refine (hO _ (h'.below B1)).mono ?_; rintro e w2 ⟨rfl, hb⟩; clear p0 p1 u0 r0 r1 fR; replace B1 := Rw.next B1 hb; replace kT := (hb.block _ (blk_lt kT)).trans kT; replace kU := (hb.block _ (blk_lt kU)).trans kU; replace kR := (hb.block _ (blk_lt kR)).trans kR; clear hb; obtain ⟨p0, p1⟩ := two kT; have u0 := one kU; obtain ⟨r0, r1⟩ := two kR; have fR := Vl.free kR))
    refine bodyPost_ret (v := .tuple #[.agg #[.int .i64 0, .slice none 0 0], .int .i64 1]) (by simp [results, Try.results36, go_sem, r0, r1]) rfl ⟨.slice none 0 0, [], rfl, OT.nil _ _, rfl, ?_⟩
    repeat (first | with_reducible exact B1 | refine Vl.bset ?_ (by simp <;> omega))
  | true =>
  by_cases hd : (m.length : Int) = x
  case neg =>
    rw [hr, ho, decide_eq_false hd] at hA
    rw [hr] at hR
    rw [ho] at hO
    have hd1 : ((m.length : Int) != x) = true := by simpa using hd
    simp only [Bool.and_false, Bool.false_eq_true, if_false] at hA
    obtain ⟨rfl, rfl, rfl⟩ := hA
    clear hd
    go_enter Try.func36, Try.ntmps36
    go_wp2_with (first
      | (go_at_call 25; rw [← hW1]; clear hW1; refine (hR _ (h.below B1)).mono ?_; rintro e w1 ⟨rfl, hb⟩; replace B1 := Rw.next B1 hb; replace kT := (hb.block _ (blk_lt kT)).trans kT; replace kU := (hb.block _ (blk_lt kU)).trans kU; replace kR := (hb.block _ (blk_lt kR)).trans kR; clear hb; obtain ⟨p0, p1⟩ := two kT; have u0 := one kU; obtain ⟨r0, r1⟩ := two kR; have fR := Vl.free kR)
      | (go_at_call 52; refine (hO _ (h'.below B1)).mono ?_; rintro e w2 ⟨rfl, hb⟩; clear p0 p1 u0 r0 r1 fR; replace B1 := Rw.next B1 hb; replace kT := (hb.block _ (blk_lt kT)).trans kT; replace kU := (hb.block _ (blk_lt kU)).trans kU; replace kR := (hb.block _ (blk_lt kR)).trans kR; clear hb; obtain ⟨p0, p1⟩ := two kT; have u0 := one kU; obtain ⟨r0, r1⟩ := two kR; have fR := Vl.free kR))
    refine bodyPost_ret (v := .tuple #[.agg #[.int .i64 0, .slice none 0 0], .int .i64 1]) (by simp [results, Try.results36, go_sem, r0, r1]) rfl ⟨.slice none 0 0, [], rfl, OT.nil _ _, rfl, ?_⟩
    repeat (first | with_reducible exact B1 | refine Vl.bset ?_ (by simp <;> omega))
  case pos =>
    have h4 : Q.length ≤ 100000 := by have := (relP_of hr).few; rw [said_len] at this; omega
    rw [hr, ho, decide_eq_true hd] at hA
    rw [hr] at hR
    rw [ho] at hO
    have hd1 : ((m.length : Int) != x) = false := by simpa using hd
    simp only [Bool.and_true, if_true] at hA
    obtain ⟨rfl, hX, rfl⟩ := hA
    clear hd hr ho
    obtain ⟨p, hpd⟩ : ∃ p : RowL → Bool, p = fun z => !decide (z = m) := ⟨_, rfl⟩
    have HPd : Hid (∀ z, p z = !decide (z = m)) := fun z => by rw [hpd]
    rw [← hpd] at hX
    clear hpd
    have HTk : Hid (∀ i, i < Q.length → ((said Q).take (i + 1)).filter p = ((said Q).take i).filter p ++ (if p (Q.getD i rm0).l = true then [(Q.getD i rm0).l] else [])) := fun i hi => filter_next p hi
    have HXe : Hid (X = ((said Q).take Q.length).filter p) := (by rw [hX, ← said_len, List.take_length] : X = ((said Q).take Q.length).filter p)
    clear hX
    go_enter Try.func36, Try.ntmps36
    go_wp2_with (first
      | (go_at_call 25; rw [← hW1]; clear hW1; refine (hR _ (h.below B1)).mono ?_; rintro e w1 ⟨rfl, hb⟩; replace B1 := Rw.next B1 hb; replace kT := (hb.block _ (blk_lt kT)).trans kT; replace kU := (hb.block _ (blk_lt kU)).trans kU; replace kR := (hb.block _ (blk_lt kR)).trans kR; clear hb; obtain ⟨p0, p1⟩ := two kT; have u0 := one kU; obtain ⟨r0, r1⟩ := two kR; have fR := Vl.free kR)
      | (go_at_call 52; refine (hO _ (h'.below B1)).mono ?_; rintro e w2 ⟨rfl, hb⟩; clear p0 p1 u0 r0 r1 fR; replace B1 := Rw.next B1 hb; replace kT := (hb.block _ (blk_lt kT)).trans kT; replace kU := (hb.block _ (blk_lt kU)).trans kU; replace kR := (hb.block _ (blk_lt kR)).trans kR; clear hb; obtain ⟨p0, p1⟩ := two kT; have u0 := one kU; obtain ⟨r0, r1⟩ := two kR; have fR := Vl.free kR; have lT := blk_lt kT))
    clear p0 p1 u0 r0 r1 fR hR hO lT
    obtain ⟨ob, hob⟩ : ∃ ob, ob = w2.heap.size := ⟨_, rfl⟩
    have hob2 : w.heap.size + 1 + 1 < ob := by rw [hob]; exact blk_lt kR
    obtain ⟨W4, hW4⟩ : ∃ W4, W4 = w2.alloc (.cells #[.int .i64 ar, .slice none 0 0] 25) := ⟨_, rfl⟩
    have kO : W4.heap[ob]? = some (.cells #[.int .i64 ar, .slice none 0 0] 25 (0, 0)) := by subst hW4; exact at_new hob
    have hb : Below w2.heap.size w2 W4 := by subst hW4; exact below_alloc1 _ _
    replace B1 := Rw.next B1 hb
    replace kT := (hb.block _ (blk_lt kT)).trans kT
    replace kU := (hb.block _ (blk_lt kU)).trans kU
    replace kR := (hb.block _ (blk_lt kR)).trans kR
    clear hb
    obtain ⟨hh, hc, hok, hs⟩ := h
    obtain ⟨n, hn⟩ : ∃ n, n = Q.length := ⟨_, rfl⟩
    rw [← hn] at hh hc hok hs kT h4 HTk HXe ⊢
    clear hn
    obtain ⟨B, hB⟩ : ∃ B, B = ob + 1 := ⟨_, rfl⟩
    have zW1 : B ≤ W4.heap.size := by have := blk_lt kO; omega
    have hBo : ob < B := by omega
    have HB : Hid (B = ob + 1) := hB
    clear hB
    have hwo : w.heap.size ≤ ob := by omega
    rw [← hW4, ← hob]
    clear hW4 hob
    go_loopw [31] (fun u wr => ∃ (i : Nat) (v : Value) (F : List Rm), i ≤ n ∧ u = .int .i64 i ∧ Below w.heap.size w wr ∧ wr.heap[w.heap.size]? = some (.cells #[.int .i64 ar, .slice a n cap] 25 (0, 0)) ∧ wr.heap[w.heap.size + 1]? = some (.cells #[.slice a' m.length cap'] 34 (0, 0)) ∧ wr.heap[w.heap.size + 1 + 1]? = some (.cells #[.int .i64 0, .slice none 0 0] 25 (0, 0)) ∧ wr.heap[ob]? = some (.cells #[.int .i64 ar, v] 25 (0, 0)) ∧ OT wr B v F ∧ B ≤ wr.heap.size ∧ said F = ((said Q).take i).filter p) (fun u _ => n - (intOf u).toNat)
    case atStart => exact ⟨0, .slice none 0 0, [], Nat.zero_le _, rfl, B1, kT, kU, kR, kO, OT.nil _ _, zW1, rfl⟩
    case round =>
      clear B1 kT kU kR kO zW1
      obtain ⟨i, v, F, hi, rfl, B1, kT, kU, kR, kO, hot, hBs, hF⟩ := hrel
      have hFl : F.length ≤ 100000 := by
        have e1 := congrArg List.length hF
        have e2 := List.length_filter_le p ((said Q).take i)
        rw [said_len] at e1
        rw [List.length_take] at e2
        omega
      have HF : Hid (said F = ((said Q).take i).filter p) := hF
      clear hF
      obtain ⟨p0, p1⟩ := two kT
      have u0 := one kU
      by_cases hlt : i < n
      · obtain rfl := hh (by omega)
        have hnz : (i : Int) < (n : Int) := by omega
        have hn0 : (0 : Int) ≤ (i : Int) := by omega
        have A1 := (B1.cell (World.block_lt_of_cell? _ _ (hc i hlt))).trans (hc i hlt)
        have lb : b < w.heap.size := World.block_lt_of_cell? _ _ (hc i hlt)
        have ok := Vl.Rd.below (hok i hlt) B1
        have HX : Hid (((said Q).take (i + 1)).filter p = ((said Q).take i).filter p ++ (if p (Q.getD i rm0).l = true then [(Q.getD i rm0).l] else [])) := HTk.out i hlt
        clear hc hok hh HTk
        generalize Q.getD i rm0 = x at A1 ok HX
        obtain ⟨xa, xb, xo, xc, xl⟩ := x
        simp only [Rm.val] at A1 ok HX
        have hS := fun W h1 h2 => same_any xa a' xb xo xc b' off' cap' xl m W h1 h2
        have hpx := HPd.out xl
        generalize decide (xl = m) = q at hS hpx
        cases hpv : p xl
        · rw [hpv] at hpx HX
          have HX2 : Hid (((said Q).take (i + 1)).filter p = ((said Q).take i).filter p) := (show ((said Q).take (i + 1)).filter p = ((said Q).take i).filter p by rw [HX.out]; simp)
          obtain rfl : q = true := by cases q; (simp at hpx); rfl
          clear hpx hpv HX
          go_wp2
          go_region_held3 (fun w' => w'.cell? ⟨w.heap.size, 1, none⟩ = some (.slice (some ⟨b, off, none⟩) n cap) ∧ w'.cell? ⟨w.heap.size + 1, 0, none⟩ = some (.slice a' m.length cap') ∧ w'.cell? ⟨b, off + i, none⟩ = some (.slice xa xl.length xc)) (go_keep) (first | (go_at_call 49; refine (hS _ (ok.below ((Below.refl _ _).drew)) (h'.below (Rw.next B1 ((Below.refl _ _).drew)))).mono ?_; rintro e w1 ⟨rfl, hb⟩; replace hb := Rw.next ((Below.refl _ _).drew) hb; clear p0 p1 u0; replace B1 := Rw.next B1 hb; replace kT := (hb.block _ (blk_lt kT)).trans kT; replace kU := (hb.block _ (blk_lt kU)).trans kU; replace kR := (hb.block _ (blk_lt kR)).trans kR; replace kO := (hb.block _ (blk_lt kO)).trans kO; replace hot := hot.below hb; replace hBs := Nat.le_trans hBs hb.size; replace ok := Vl.Rd.below ok hb; replace A1 := (hb.cell (World.block_lt_of_cell? _ _ A1)).trans A1; clear hb; obtain ⟨p0, p1⟩ := two kT; have u0 := one kU))
          go_wp2
          go_roundw
          case rel => exact ⟨i + 1, v, F, by omega, by go_num, B1, kT, kU, kR, kO, hot, hBs, HF.out.trans HX2.out.symm⟩
          case measure => simp [intOf]; omega
        · rw [hpv] at hpx HX
          simp only [if_true] at HX
          obtain rfl : q = false := by cases q; rfl; (simp at hpx)
          clear hpx hpv
          go_wp2
          go_region_held3 (fun w' => w'.cell? ⟨w.heap.size, 1, none⟩ = some (.slice (some ⟨b, off, none⟩) n cap) ∧ w'.cell? ⟨w.heap.size + 1, 0, none⟩ = some (.slice a' m.length cap') ∧ w'.cell? ⟨b, off + i, none⟩ = some (.slice xa xl.length xc)) (go_keep) (first | (go_at_call 49; refine (hS _ (ok.below ((Below.refl _ _).drew)) (h'.below (Rw.next B1 ((Below.refl _ _).drew)))).mono ?_; rintro e w1 ⟨rfl, hb⟩; replace hb := Rw.next ((Below.refl _ _).drew) hb; clear p0 p1 u0; replace B1 := Rw.next B1 hb; replace kT := (hb.block _ (blk_lt kT)).trans kT; replace kU := (hb.block _ (blk_lt kU)).trans kU; replace kR := (hb.block _ (blk_lt kR)).trans kR; replace kO := (hb.block _ (blk_lt kO)).trans kO; replace hot := hot.below hb; replace hBs := Nat.le_trans hBs hb.size; replace ok := Vl.Rd.below ok hb; replace A1 := (hb.cell (World.block_lt_of_cell? _ _ A1)).trans A1; clear hb; obtain ⟨p0, p1⟩ := two kT; have u0 := one kU))
          clear p0 p1 u0
          have hSt : ∀ w', Stab w1 ob v w' → w'.cell? ⟨w.heap.size, 1, none⟩ = some (.slice (some ⟨b, off, none⟩) n cap) ∧ w'.cell? ⟨b, off + i, none⟩ = some (.slice xa xl.length xc) := fun w' hst => ⟨(two ((hst.block _ (blk_lt kT) (by omega) (fun e => by have := (hot.og.lt e.symm).1; omega)).trans kT)).2, (World.cell?_of_block (hst.block b (Nat.lt_of_lt_of_le lb B1.size) (by omega) (fun e => by have := (hot.og.lt e.symm).1; omega))).trans A1⟩
          go_wp2
          refine wp_region_held_drew (S := Stab w1 (ob) v) (by kernel_rfl) (Stab.refl _ _ _) (fun hHeld => ?_)
          refine Hn.take (i := 0) (d := some 42) (v := .pointer (some ⟨ob, 1, none⟩)) rfl (by kernel_rfl) (by kernel_rfl) (by kernel_rfl) (by kernel_rfl) (fun _ _ _ h => h) (Or.inl ⟨by rfl, by intro w hSw; go_simp⟩) hHeld ?_
          simp only [Act.put, List.setIfInBounds_toArray, List.set_cons_zero, List.set_cons_succ]
          refine Hn.take (i := 2) (d := some 44) (v := .pointer (some ⟨w.heap.size, 1, none⟩)) rfl (by kernel_rfl) (by kernel_rfl) (by kernel_rfl) (by kernel_rfl) (fun _ _ _ h => h) (Or.inl ⟨by rfl, by intro w hSw; go_simp⟩) hHeld ?_
          simp only [Act.put, List.setIfInBounds_toArray, List.set_cons_zero, List.set_cons_succ]
          refine Hn.take (i := 3) (d := some 45) (v := .slice (some ⟨b, off, none⟩) n cap) rfl (by kernel_rfl) (by kernel_rfl) (by kernel_rfl) (by kernel_rfl) (fun _ _ _ h => h) (Or.inl ⟨by rfl, by intro w hSw; obtain ⟨c1, c2⟩ := hSt w hSw; go_simp⟩) hHeld ?_
          simp only [Act.put, List.setIfInBounds_toArray, List.set_cons_zero, List.set_cons_succ]
          refine Hn.take (i := 4) (d := some 46) (v := .int .i64 i) rfl (by kernel_rfl) (by kernel_rfl) (by kernel_rfl) (by kernel_rfl) (fun _ _ _ h => h) (Or.inl ⟨by rfl, by intro w hSw; go_simp⟩) hHeld ?_
          simp only [Act.put, List.setIfInBounds_toArray, List.set_cons_zero, List.set_cons_succ]
          refine Hn.take (i := 5) (d := some 47) (v := .pointer (some ⟨b, off + i, none⟩)) rfl (by kernel_rfl) (by kernel_rfl) (by kernel_rfl) (by kernel_rfl) (fun _ _ _ h => h) (Or.inl ⟨by rfl, by intro w hSw; go_simp⟩) hHeld ?_
          simp only [Act.put, List.setIfInBounds_toArray, List.set_cons_zero, List.set_cons_succ]
          refine Hn.take (i := 6) (d := some 48) (v := .agg #[.slice xa xl.length xc]) rfl (by kernel_rfl) (by kernel_rfl) (by kernel_rfl) (by kernel_rfl) (fun _ _ _ h => h) (Or.inl ⟨by rfl, by intro w hSw; obtain ⟨c1, c2⟩ := hSt w hSw; go_simp⟩) hHeld ?_
          simp only [Act.put, List.setIfInBounds_toArray, List.set_cons_zero, List.set_cons_succ]
          have st : Stab w1 (ob) v w1.drew := Stab.refl _ _ _
          have hot0 : OT w1.drew B v F := hot.below ((Below.refl _ _).drew)
          have kO0 : w1.drew.heap[ob]? = some (.cells #[.int .i64 ar, v] 25 (0, 0)) := kO
          have ok0 := Vl.Rd.below ok ((Below.refl w1.heap.size w1).drew)
          have B2 := Rw.next B1 ((Below.refl w1.heap.size w1).drew)
          have sW : w1.drew.heap.size = w1.heap.size := rfl
          generalize w1.drew = W at *
          refine wpAnyH_ready (rs := [1, 7]) (by kernel_rfl) (by simp) (Hn.readyRun (i := 1) rfl (by kernel_rfl) (some 43) (by kernel_rfl) (v := v) (w' := W) (by obtain ⟨o0, o1⟩ := two kO0; go_simp) st (fun hHeld => ?_) (Hn.call1 (i := 7) rfl (by rfl) 71 (.tmp 48) 34 (by kernel_rfl) 49 (by kernel_rfl) (.agg #[.slice xa xl.length xc]) (by kernel_rfl) (fun _ => rfl) (lrow_any xa xb xo xc xl _ ok0) ?_ AllReadyH.nil))
          · simp only [Act.put, List.setIfInBounds_toArray, List.set_cons_zero, List.set_cons_succ]
            refine wpAnyH_ready (rs := [7]) (by kernel_rfl) (by simp) (Hn.call1 (i := 7) rfl (by rfl) 71 (.tmp 48) 34 (by kernel_rfl) 49 (by kernel_rfl) (.agg #[.slice xa xl.length xc]) (by kernel_rfl) (fun _ => rfl) (lrow_any xa xb xo xc xl _ ok0) ?_ AllReadyH.nil)
            rintro e1 Wc ⟨r, rfl, hr, hl, hb⟩
            replace st := st.below hb
            replace kO0 := (hb.block _ (blk_lt kO0)).trans kO0
            have hbc := hb
            replace B2 := Rw.next B2 hb
            have sC := hb.size
            refine ⟨_, rfl, st, fun hHeld => ?_⟩
            simp only [Act.put, List.setIfInBounds_toArray, List.set_cons_zero, List.set_cons_succ]
            refine wpAnyH_ready (rs := [8]) (by kernel_rfl) (by simp) (Hn.readyRun (i := 8) rfl (by kernel_rfl) (some 50) (by kernel_rfl) (v := .slice (some ⟨Wc.heap.size, 0, none⟩) 1 1) (w' := Wc.alloc (.cells #[r.val] 34)) (exec_one rfl (by kernel_rfl)) (st.below (below_alloc1 _ _)) (fun hHeld => ?_) AllReadyH.nil)
            simp only [Act.put, List.setIfInBounds_toArray, List.set_cons_zero, List.set_cons_succ]
            obtain ⟨Wd, hWd⟩ : ∃ Wd, Wd = Wc.alloc (.cells #[r.val] 34) := ⟨_, rfl⟩
            rw [← hWd] at hHeld ⊢
            have hT : Wd.heap[Wc.heap.size]? = some (.cells #[r.val] 34 (0, 0)) := by subst hWd; exact at_new rfl
            have hb : Below Wc.heap.size Wc Wd := by subst hWd; exact below_alloc1 _ _
            replace st := st.below hb
            replace kO0 := (hb.block _ (blk_lt kO0)).trans kO0
            replace B2 := Rw.next B2 hb
            have hr2 := hr.below hb
            have hbd := Rw.next hbc hb
            clear hb hWd
            obtain ⟨v', Z, hrun, hotZ, hgr⟩ := hot0.app 23 (c := 1) hbd hr2 (by omega) hT hFl
            refine wpAnyH_ready (rs := [9]) (by kernel_rfl) (by simp) (Hn.readyRun (i := 9) rfl (by kernel_rfl) (some 51) (by kernel_rfl) (Hn.exec_app (.tmp 43) (.tmp 50) rfl (by kernel_rfl) (by kernel_rfl) hrun) (st.grown hgr) (fun hHeld => ?_) AllReadyH.nil)
            simp only [Act.put, List.setIfInBounds_toArray, List.set_cons_zero, List.set_cons_succ]
            replace st := st.grown hgr
            obtain ⟨va, vn, vc, hv⟩ := hotZ.og.slice
            subst hv
            have kOZ := (hgr.block _ (blk_lt kO0) (fun e => by have := (hot0.og.lt e.symm).1; omega)).trans kO0
            replace B2 := B2.grown hgr B2.size (fun k hk => by have := (hot0.og.lt hk).1; omega)
            obtain ⟨o0, o1⟩ := two kOZ
            have fO := Vl.free kOZ
            refine Hn.take (i := 10) (d := some 52) (v := .pointer (some ⟨ob, 1, none⟩)) rfl (by kernel_rfl) (by kernel_rfl) (by kernel_rfl) (by kernel_rfl) (fun _ _ _ h => h) (Or.inl ⟨by rfl, by intro w hSw; go_simp⟩) hHeld ?_
            simp only [Act.put, List.setIfInBounds_toArray, List.set_cons_zero, List.set_cons_succ]
            refine wpAnyH_ready (rs := [11]) (by kernel_rfl) (by simp) (Hn.readySkip (i := 11) rfl (by kernel_rfl) none (by kernel_rfl) (w' := Z.setCell ⟨ob, 1, none⟩ (.slice va vn vc)) (by go_simp) st.set (fun hHeld => ?_) AllReadyH.nil)
            simp only [Act.put, List.setIfInBounds_toArray, List.set_cons_zero, List.set_cons_succ]
            refine wpAnyH_done (by kernel_rfl) ?_ _
            have kO' : (Z.setCell ⟨ob, 1, none⟩ (.slice va vn vc)).heap[ob]? = some (.cells #[.int .i64 ar, (.slice va vn vc)] 25 (0, 0)) := two_set1 kOZ
            have B1' : Below w.heap.size w (Z.setCell ⟨ob, 1, none⟩ (.slice va vn vc)) := Vl.bset B2 hwo
            have hot' : OT (Z.setCell ⟨ob, 1, none⟩ (.slice va vn vc)) B (.slice va vn vc) (F ++ [r]) := hotZ.keep fun x _ hx => Below.heap_setCell _ _ _ _ (by simp; omega)
            replace st : Stab w1 (ob) v (Z.setCell ⟨ob, 1, none⟩ (.slice va vn vc)) := st.set
            go_wp2
            go_roundw
            case rel => exact ⟨i + 1, .slice va vn vc, F ++ [r], by omega, by go_num, B1', (st.block _ (blk_lt kT) (by omega) (fun e => by have := (hot.og.lt e.symm).1; omega)).trans kT, (st.block _ (blk_lt kU) (by omega) (fun e => by have := (hot.og.lt e.symm).1; omega)).trans kU, (st.block _ (blk_lt kR) (by omega) (fun e => by have := (hot.og.lt e.symm).1; omega)).trans kR, kO', hot', Nat.le_trans hBs st.size, by rw [said_app, HX.out, hl]; exact congrArg (· ++ [xl]) HF.out⟩
            case measure => simp [intOf]; omega
          · rintro e1 Wc ⟨r, rfl, hr, hl, hb⟩
            replace st := st.below hb
            replace kO0 := (hb.block _ (blk_lt kO0)).trans kO0
            have hbc := hb
            replace B2 := Rw.next B2 hb
            have sC := hb.size
            refine ⟨_, rfl, st, fun hHeld => ?_⟩
            simp only [Act.put, List.setIfInBounds_toArray, List.set_cons_zero, List.set_cons_succ]
            refine wpAnyH_ready (rs := [1, 8]) (by kernel_rfl) (by simp) (Hn.readyRun (i := 1) rfl (by kernel_rfl) (some 43) (by kernel_rfl) (v := v) (w' := Wc) (by obtain ⟨o0, o1⟩ := two kO0; go_simp) st (fun hHeld => ?_) (Hn.readyRun (i := 8) rfl (by kernel_rfl) (some 50) (by kernel_rfl) (v := .slice (some ⟨Wc.heap.size, 0, none⟩) 1 1) (w' := Wc.alloc (.cells #[r.val] 34)) (exec_one rfl (by kernel_rfl)) (st.below (below_alloc1 _ _)) (fun hHeld => ?_) AllReadyH.nil))
            · simp only [Act.put, List.setIfInBounds_toArray, List.set_cons_zero, List.set_cons_succ]
              refine wpAnyH_ready (rs := [8]) (by kernel_rfl) (by simp) (Hn.readyRun (i := 8) rfl (by kernel_rfl) (some 50) (by kernel_rfl) (v := .slice (some ⟨Wc.heap.size, 0, none⟩) 1 1) (w' := Wc.alloc (.cells #[r.val] 34)) (exec_one rfl (by kernel_rfl)) (st.below (below_alloc1 _ _)) (fun hHeld => ?_) AllReadyH.nil)
              simp only [Act.put, List.setIfInBounds_toArray, List.set_cons_zero, List.set_cons_succ]
              obtain ⟨Wd, hWd⟩ : ∃ Wd, Wd = Wc.alloc (.cells #[r.val] 34) := ⟨_, rfl⟩
              rw [← hWd] at hHeld ⊢
              have hT : Wd.heap[Wc.heap.size]? = some (.cells #[r.val] 34 (0, 0)) := by subst hWd; exact at_new rfl
              have hb : Below Wc.heap.size Wc Wd := by subst hWd; exact below_alloc1 _ _
              replace st := st.below hb
              replace kO0 := (hb.block _ (blk_lt kO0)).trans kO0
              replace B2 := Rw.next B2 hb
              have hr2 := hr.below hb
              have hbd := Rw.next hbc hb
              clear hb hWd
              obtain ⟨v', Z, hrun, hotZ, hgr⟩ := hot0.app 23 (c := 1) hbd hr2 (by omega) hT hFl
              refine wpAnyH_ready (rs := [9]) (by kernel_rfl) (by simp) (Hn.readyRun (i := 9) rfl (by kernel_rfl) (some 51) (by kernel_rfl) (Hn.exec_app (.tmp 43) (.tmp 50) rfl (by kernel_rfl) (by kernel_rfl) hrun) (st.grown hgr) (fun hHeld => ?_) AllReadyH.nil)
              simp only [Act.put, List.setIfInBounds_toArray, List.set_cons_zero, List.set_cons_succ]
              replace st := st.grown hgr
              obtain ⟨va, vn, vc, hv⟩ := hotZ.og.slice
              subst hv
              have kOZ := (hgr.block _ (blk_lt kO0) (fun e => by have := (hot0.og.lt e.symm).1; omega)).trans kO0
              replace B2 := B2.grown hgr B2.size (fun k hk => by have := (hot0.og.lt hk).1; omega)
              obtain ⟨o0, o1⟩ := two kOZ
              have fO := Vl.free kOZ
              refine Hn.take (i := 10) (d := some 52) (v := .pointer (some ⟨ob, 1, none⟩)) rfl (by kernel_rfl) (by kernel_rfl) (by kernel_rfl) (by kernel_rfl) (fun _ _ _ h => h) (Or.inl ⟨by rfl, by intro w hSw; go_simp⟩) hHeld ?_
              simp only [Act.put, List.setIfInBounds_toArray, List.set_cons_zero, List.set_cons_succ]
              refine wpAnyH_ready (rs := [11]) (by kernel_rfl) (by simp) (Hn.readySkip (i := 11) rfl (by kernel_rfl) none (by kernel_rfl) (w' := Z.setCell ⟨ob, 1, none⟩ (.slice va vn vc)) (by go_simp) st.set (fun hHeld => ?_) AllReadyH.nil)
              simp only [Act.put, List.setIfInBounds_toArray, List.set_cons_zero, List.set_cons_succ]
              refine wpAnyH_done (by kernel_rfl) ?_ _
              have kO' : (Z.setCell ⟨ob, 1, none⟩ (.slice va vn vc)).heap[ob]? = some (.cells #[.int .i64 ar, (.slice va vn vc)] 25 (0, 0)) := two_set1 kOZ
              have B1' : Below w.heap.size w (Z.setCell ⟨ob, 1, none⟩ (.slice va vn vc)) := Vl.bset B2 hwo
              have hot' : OT (Z.setCell ⟨ob, 1, none⟩ (.slice va vn vc)) B (.slice va vn vc) (F ++ [r]) := hotZ.keep fun x _ hx => Below.heap_setCell _ _ _ _ (by simp; omega)
              replace st : Stab w1 (ob) v (Z.setCell ⟨ob, 1, none⟩ (.slice va vn vc)) := st.set
              go_wp2
              go_roundw
              case rel => exact ⟨i + 1, .slice va vn vc, F ++ [r], by omega, by go_num, B1', (st.block _ (blk_lt kT) (by omega) (fun e => by have := (hot.og.lt e.symm).1; omega)).trans kT, (st.block _ (blk_lt kU) (by omega) (fun e => by have := (hot.og.lt e.symm).1; omega)).trans kU, (st.block _ (blk_lt kR) (by omega) (fun e => by have := (hot.og.lt e.symm).1; omega)).trans kR, kO', hot', Nat.le_trans hBs st.size, by rw [said_app, HX.out, hl]; exact congrArg (· ++ [xl]) HF.out⟩
              case measure => simp [intOf]; omega
            · simp only [Act.put, List.setIfInBounds_toArray, List.set_cons_zero, List.set_cons_succ]
              obtain ⟨Wd, hWd⟩ : ∃ Wd, Wd = Wc.alloc (.cells #[r.val] 34) := ⟨_, rfl⟩
              rw [← hWd] at hHeld ⊢
              have hT : Wd.heap[Wc.heap.size]? = some (.cells #[r.val] 34 (0, 0)) := by subst hWd; exact at_new rfl
              have hb : Below Wc.heap.size Wc Wd := by subst hWd; exact below_alloc1 _ _
              replace st := st.below hb
              replace kO0 := (hb.block _ (blk_lt kO0)).trans kO0
              replace B2 := Rw.next B2 hb
              have hr2 := hr.below hb
              have hbd := Rw.next hbc hb
              clear hb hWd
              refine wpAnyH_ready (rs := [1]) (by kernel_rfl) (by simp) (Hn.readyRun (i := 1) rfl (by kernel_rfl) (some 43) (by kernel_rfl) (v := v) (w' := Wd) (by obtain ⟨o0, o1⟩ := two kO0; go_simp) st (fun hHeld => ?_) AllReadyH.nil)
              simp only [Act.put, List.setIfInBounds_toArray, List.set_cons_zero, List.set_cons_succ]
              obtain ⟨v', Z, hrun, hotZ, hgr⟩ := hot0.app 23 (c := 1) hbd hr2 (by omega) hT hFl
              refine wpAnyH_ready (rs := [9]) (by kernel_rfl) (by simp) (Hn.readyRun (i := 9) rfl (by kernel_rfl) (some 51) (by kernel_rfl) (Hn.exec_app (.tmp 43) (.tmp 50) rfl (by kernel_rfl) (by kernel_rfl) hrun) (st.grown hgr) (fun hHeld => ?_) AllReadyH.nil)
              simp only [Act.put, List.setIfInBounds_toArray, List.set_cons_zero, List.set_cons_succ]
              replace st := st.grown hgr
              obtain ⟨va, vn, vc, hv⟩ := hotZ.og.slice
              subst hv
              have kOZ := (hgr.block _ (blk_lt kO0) (fun e => by have := (hot0.og.lt e.symm).1; omega)).trans kO0
              replace B2 := B2.grown hgr B2.size (fun k hk => by have := (hot0.og.lt hk).1; omega)
              obtain ⟨o0, o1⟩ := two kOZ
              have fO := Vl.free kOZ
              refine Hn.take (i := 10) (d := some 52) (v := .pointer (some ⟨ob, 1, none⟩)) rfl (by kernel_rfl) (by kernel_rfl) (by kernel_rfl) (by kernel_rfl) (fun _ _ _ h => h) (Or.inl ⟨by rfl, by intro w hSw; go_simp⟩) hHeld ?_
              simp only [Act.put, List.setIfInBounds_toArray, List.set_cons_zero, List.set_cons_succ]
              refine wpAnyH_ready (rs := [11]) (by kernel_rfl) (by simp) (Hn.readySkip (i := 11) rfl (by kernel_rfl) none (by kernel_rfl) (w' := Z.setCell ⟨ob, 1, none⟩ (.slice va vn vc)) (by go_simp) st.set (fun hHeld => ?_) AllReadyH.nil)
              simp only [Act.put, List.setIfInBounds_toArray, List.set_cons_zero, List.set_cons_succ]
              refine wpAnyH_done (by kernel_rfl) ?_ _
              have kO' : (Z.setCell ⟨ob, 1, none⟩ (.slice va vn vc)).heap[ob]? = some (.cells #[.int .i64 ar, (.slice va vn vc)] 25 (0, 0)) := two_set1 kOZ
              have B1' : Below w.heap.size w (Z.setCell ⟨ob, 1, none⟩ (.slice va vn vc)) := Vl.bset B2 hwo
              have hot' : OT (Z.setCell ⟨ob, 1, none⟩ (.slice va vn vc)) B (.slice va vn vc) (F ++ [r]) := hotZ.keep fun x _ hx => Below.heap_setCell _ _ _ _ (by simp; omega)
              replace st : Stab w1 (ob) v (Z.setCell ⟨ob, 1, none⟩ (.slice va vn vc)) := st.set
              go_wp2
              go_roundw
              case rel => exact ⟨i + 1, .slice va vn vc, F ++ [r], by omega, by go_num, B1', (st.block _ (blk_lt kT) (by omega) (fun e => by have := (hot.og.lt e.symm).1; omega)).trans kT, (st.block _ (blk_lt kU) (by omega) (fun e => by have := (hot.og.lt e.symm).1; omega)).trans kU, (st.block _ (blk_lt kR) (by omega) (fun e => by have := (hot.og.lt e.symm).1; omega)).trans kR, kO', hot', Nat.le_trans hBs st.size, by rw [said_app, HX.out, hl]; exact congrArg (· ++ [xl]) HF.out⟩
              case measure => simp [intOf]; omega
      · have he : i = n := by omega
        subst he
        obtain ⟨t0, t1⟩ := two kO
        obtain ⟨r0, r1⟩ := two kR
        have fR := Vl.free kR
        obtain ⟨va, vn, vc, hv⟩ := hot.og.slice
        subst hv
        go_wp2
        refine bodyPost_ret (v := .tuple #[.agg #[.int .i64 ar, .slice va vn vc], .int .i64 0]) (by simp [results, Try.results36, go_sem, r0, r1]) rfl ⟨.slice va vn vc, F, rfl, ?_, by rw [HF.out, HXe.out], ?_⟩
        · refine (OT.mono (B := B) ?_ (by have := HB.out; omega))
          refine hot.keep fun x hx hxB => ?_
          repeat (first | rfl | refine (Below.heap_setCell _ _ _ _ (by simp; omega)).trans ?_)
        · repeat (first | with_reducible exact B1 | refine Vl.bset ?_ (by simp <;> omega))

end Go.Proofs.Ytbjbehphdkaahaa.Rl
