/-
  Contracts laid together (Xb).
-/
import Derived.Test.YtcbgnfjnjfaacaaPva
namespace Go.Proofs.Ytcbgnfjnjfaacaa.Cp
set_option maxRecDepth 8000
set_option linter.unusedSimpArgs false
set_option linter.unusedVariables false
open Go Go.RowKit
open Num Pl Ea Em Ka

set_option maxHeartbeats 32000000 in
theorem delS (q pr : Int) (st : Bool) (a : Option Addr) (b off cap : Nat) (Q : List Ent) (aV aM : Option Addr) (bV oV cV bM oM cM : Nat) (V M : List Int) (w : World) (h : Rd w a b off Q) (rV : Hr.Rd w aV bV oV V) (rM : Hr.Rd w aM bM oM M) (wV : Po.Wide V) (q' : Int) (L' : List En) (m : Int) (hr : DeleteA q (Q.map Ent.said) V M pr st q' L' m) :
    Calls Try.prog 47 #[.agg #[.int .i64 q, .slice a Q.length cap], .agg #[.slice aV V.length cV, .slice aM M.length cM], .int .i64 pr, .bool st] w (ResT w q' L' m) := by
  have HD := h
  have rV1 := rV
  have rM1 := rM
  obtain ⟨W1, hW1⟩ : ∃ W1, W1 = ((w.alloc (.cells #[.int .i64 q, .slice a Q.length cap] 38)).alloc (.cells #[.slice aV V.length cV, .slice aM M.length cM] 25)).alloc (.cells #[.int .i64 0, .slice none 0 0] 38) := ⟨_, rfl⟩
  have B1 : Below w.heap.size w W1 := by subst hW1; exact Rw.next (Rw.next (below_alloc1 _ _) (below_alloc1 _ _)) (below_alloc1 _ _)
  have kT : W1.heap[w.heap.size]? = some (.cells #[.int .i64 q, .slice a Q.length cap] 38 (0, 0)) := by subst hW1; rw [at_old (by simp <;> omega), at_old (by simp <;> omega), at_new rfl]
  have kM : W1.heap[w.heap.size + 1]? = some (.cells #[.slice aV V.length cV, .slice aM M.length cM] 25 (0, 0)) := by subst hW1; rw [at_old (by simp <;> omega), at_new (by simp)]
  have kR : W1.heap[w.heap.size + 1 + 1]? = some (.cells #[.int .i64 0, .slice none 0 0] 38 (0, 0)) := by subst hW1; exact at_new (by simp)
  replace h := h.below B1
  replace rV := rV.below B1
  replace rM := rM.below B1
  obtain ⟨R, hR⟩ := em_bool (TabP q (Q.map Ent.said))
  have ht := fun W hW => tabS q a b off cap Q W hW R hR
  cases R
  · obtain ⟨rfl, rfl, rfl⟩ : q' = 0 ∧ L' = [] ∧ m = -1 := by
      rcases hr with ⟨t, _⟩ | ⟨_, h1⟩
      · exact absurd (hR.2 t) (by decide)
      · exact h1
    clear hr hR
    have HQ : Hid (Po.matchB V M = Po.matchB V M) := rfl
    go_enter Try.func47, Try.ntmps47
    go_wp2_with (first
      | (go_at_call 39; rw [← hW1]; clear hW1; refine (ht _ h).mono ?_; rintro x wa ⟨rfl, hb⟩; replace kT := (hb.block _ (blk_lt kT)).trans kT; replace kM := (hb.block _ (blk_lt kM)).trans kM; replace kR := (hb.block _ (blk_lt kR)).trans kR; replace B1 := Rw.next B1 hb; replace rV := rV.below hb; replace rM := rM.below hb; clear hb; obtain ⟨r0, r1⟩ := Pm.two kR; have fR := Bl.free kR; obtain ⟨m0, m1⟩ := Pm.two kM)
      | (go_at_call 62; refine (Ms.okS_any _ _ _ _ _ _ _ _ V M _ rV rM wV).mono ?_; rw [HQ.out]; rintro x wb ⟨rfl, hb⟩; replace kR := (hb.block _ (blk_lt kR)).trans kR; replace B1 := Rw.next B1 hb; clear hb; obtain ⟨r0, r1⟩ := Pm.two kR; have fR := Bl.free kR))
    refine bodyPost_ret (v := .tuple #[.agg #[.int .i64 0, .slice none 0 0], .int .i64 (-1)]) (by simp [results, Try.results47, go_sem, r0, r1]) rfl ⟨_, [], rfl, OT.nil _ _, rfl, ?_⟩
    repeat (first | with_reducible exact B1 | refine Pm.bset ?_ (by omega))
  cases hQ : Po.matchB V M
  · obtain ⟨rfl, rfl, rfl⟩ : q' = 0 ∧ L' = [] ∧ m = -1 := by
      rcases hr with ⟨_, t, _⟩ | ⟨_, h1⟩
      · rw [hQ] at t; exact absurd t (by decide)
      · exact h1
    clear hr hR
    have HQ : Hid (Po.matchB V M = false) := hQ
    clear hQ
    go_enter Try.func47, Try.ntmps47
    go_wp2_with (first
      | (go_at_call 39; rw [← hW1]; clear hW1; refine (ht _ h).mono ?_; rintro x wa ⟨rfl, hb⟩; replace kT := (hb.block _ (blk_lt kT)).trans kT; replace kM := (hb.block _ (blk_lt kM)).trans kM; replace kR := (hb.block _ (blk_lt kR)).trans kR; replace B1 := Rw.next B1 hb; replace rV := rV.below hb; replace rM := rM.below hb; clear hb; obtain ⟨r0, r1⟩ := Pm.two kR; have fR := Bl.free kR; obtain ⟨m0, m1⟩ := Pm.two kM)
      | (go_at_call 62; refine (Ms.okS_any _ _ _ _ _ _ _ _ V M _ rV rM wV).mono ?_; rw [HQ.out]; rintro x wb ⟨rfl, hb⟩; replace kR := (hb.block _ (blk_lt kR)).trans kR; replace B1 := Rw.next B1 hb; clear hb; obtain ⟨r0, r1⟩ := Pm.two kR; have fR := Bl.free kR))
    refine bodyPost_ret (v := .tuple #[.agg #[.int .i64 0, .slice none 0 0], .int .i64 (-1)]) (by simp [results, Try.results47, go_sem, r0, r1]) rfl ⟨_, [], rfl, OT.nil _ _, rfl, ?_⟩
    repeat (first | with_reducible exact B1 | refine Pm.bset ?_ (by omega))
  obtain ⟨ht1, hqq, rfl, hm⟩ : TabP q (Q.map Ent.said) ∧ q' = q ∧ L' = sel (fun k => !delB V M pr st ((Q.map Ent.said).getD k x0)) (Q.map Ent.said) (Q.map Ent.said).length ∧ m = ((Q.map Ent.said).length : Int) - (L'.length : Int) := by
    rcases hr with ⟨t, _, h1⟩ | ⟨h1, _⟩
    · exact ⟨t, h1⟩
    · exact absurd ⟨hR.1 rfl, hQ⟩ h1
  clear hr
  subst hqq
  have HQ : Hid (Po.matchB V M = true) := hQ
  have h4 := tab_len ht1
  simp only [List.length_map] at hm
  simp only [List.length_map]
  clear hR ht1 hQ
  obtain ⟨p, hp⟩ : ∃ p : Nat → Bool, p = (fun k => !delB V M pr st ((Q.map Ent.said).getD k x0)) := ⟨_, rfl⟩
  rw [← hp] at hm ⊢
  have HPd : Hid (∀ k, p k = !delB V M pr st (Q.getD k e0).said) := fun k => by rw [hp]; simp only [said_getD]
  clear hp
  obtain ⟨q, hqe⟩ : ∃ q, q = q' := ⟨_, rfl⟩
  subst hqe
  obtain ⟨n, hn⟩ : ∃ n, n = Q.length := ⟨_, rfl⟩
  rw [← hn] at hW1 kT ht h4 hm ⊢
  have HN : Hid (n = Q.length) := hn
  have HM : Hid (m = (n : Int) - ((sel p (Q.map Ent.said) n).length : Int)) := hm
  clear hn hm
  go_enter Try.func47, Try.ntmps47
  go_wp2_with (first
    | (go_at_call 39; rw [← hW1]; clear hW1; refine (ht _ h).mono ?_; rintro x wa ⟨rfl, hb⟩; replace kT := (hb.block _ (blk_lt kT)).trans kT; replace kM := (hb.block _ (blk_lt kM)).trans kM; replace kR := (hb.block _ (blk_lt kR)).trans kR; replace B1 := Rw.next B1 hb; replace rV := rV.below hb; replace rM := rM.below hb; clear hb ht h; obtain ⟨m0, m1⟩ := Pm.two kM)
    | (go_at_call 62; refine (Ms.okS_any _ _ _ _ _ _ _ _ V M _ rV rM wV).mono ?_; rw [HQ.out]; rintro x wa ⟨rfl, hb⟩; clear m0 m1; replace kT := (hb.block _ (blk_lt kT)).trans kT; replace kM := (hb.block _ (blk_lt kM)).trans kM; replace kR := (hb.block _ (blk_lt kR)).trans kR; replace B1 := Rw.next B1 hb; replace rV := rV.below hb; replace rM := rM.below hb; clear hb; obtain ⟨p0, p1⟩ := Pm.two kT; have lT := blk_lt kT))
  obtain ⟨ob, hob⟩ : ∃ ob, ob = wa.heap.size := ⟨_, rfl⟩
  have lob : w.heap.size + 1 + 1 < ob := by rw [hob]; exact blk_lt kR
  obtain ⟨W2, hW2⟩ : ∃ W2, W2 = wa.alloc (.cells #[.int .i64 q, .slice none 0 0] 38) := ⟨_, rfl⟩
  have kO : W2.heap[ob]? = some (.cells #[.int .i64 q, .slice none 0 0] 38 (0, 0)) := by subst hW2; exact at_new hob
  have hb : Below wa.heap.size wa W2 := by subst hW2; exact below_alloc1 _ _
  replace kT := (hb.block _ (blk_lt kT)).trans kT
  replace kM := (hb.block _ (blk_lt kM)).trans kM
  replace kR := (hb.block _ (blk_lt kR)).trans kR
  replace B1 := Rw.next B1 hb
  replace rV := rV.below hb
  replace rM := rM.below hb
  clear hb p0 p1 lT
  obtain ⟨B, hB⟩ : ∃ B, B = ob + 1 := ⟨_, rfl⟩
  have zB : B ≤ W2.heap.size := by have := blk_lt kO; omega
  have hBo : ob < B := by omega
  have hwo : w.heap.size ≤ ob := by omega
  clear hB
  rw [← hW2]
  rw [← hob]
  clear hW2 hob
  have rV0 : Hid (∃ w0, Below w.heap.size w w0) := ⟨w, Below.refl _ _⟩
  clear rV0
  obtain ⟨hh, hc, ho, hs⟩ := HD
  rw [← HN.out] at hh hc ho hs
  clear rV rM
  go_loopw [29] (fun u wr => ∃ (i : Nat) (v : Value) (F : List Ent), i ≤ n ∧ u = .int .i64 i ∧ Below w.heap.size w wr ∧ wr.heap[w.heap.size]? = some (.cells #[.int .i64 q, .slice a n cap] 38 (0, 0)) ∧ wr.heap[w.heap.size + 1]? = some (.cells #[.slice aV V.length cV, .slice aM M.length cM] 25 (0, 0)) ∧ wr.heap[w.heap.size + 1 + 1]? = some (.cells #[.int .i64 0, .slice none 0 0] 38 (0, 0)) ∧ wr.heap[ob]? = some (.cells #[.int .i64 q, v] 38 (0, 0)) ∧ OT wr B v F ∧ B ≤ wr.heap.size ∧ F.map Ent.said = sel p (Q.map Ent.said) i) (fun u _ => n - (intOf u).toNat)
  case atStart => exact ⟨0, .slice none 0 0, [], Nat.zero_le _, rfl, B1, kT, kM, kR, kO, OT.nil _ _, zB, rfl⟩
  case round =>
    clear B1 kT kM kR kO zB
    obtain ⟨i, v, F, hi, rfl, B1, kT, kM, kR, kO, hot, hBs, hF⟩ := hrel
    have rV := rV1.below B1
    have rM := rM1.below B1
    have HF : Hid (F.map Ent.said = sel p (Q.map Ent.said) i) := hF
    have hFl : F.length ≤ 100000 := by
      have e1 := congrArg List.length hF
      have e2 := sel_len p (Q.map Ent.said) i
      simp only [List.length_map] at e1
      omega
    clear hF
    by_cases hlt : i < n
    · obtain rfl := hh (by omega)
      have hnz : (i : Int) < (n : Int) := by omega
      have lb : b < w.heap.size := At6.lt (hc i hlt)
      obtain ⟨c0, c1, c2, c3, c4, c5⟩ := ((hc i hlt).of B1 lb).six
      have ok := (ho i hlt).of B1 (Nat.le_refl _)
      obtain ⟨x, hx⟩ : ∃ x, x = Q.getD i e0 := ⟨_, rfl⟩
      have hpx := HPd.out i
      rw [← hx] at c0 c1 c2 c3 c4 c5 ok hpx
      have HX : Hid (Q.getD i e0 = x) := hx.symm
      clear hx hc ho hh
      obtain ⟨n0, n1⟩ := Pm.two kT
      obtain ⟨W2, hW2⟩ : ∃ W2, W2 = wr.alloc (.cells #[.int .i64 x.ep, .int .i64 x.pr, .slice x.aV x.V.length x.cV, .slice x.aM x.M.length x.cM, .slice x.aA x.A.length x.cA, .int .i64 x.h] 41) := ⟨_, rfl⟩
      have kE : W2.heap[wr.heap.size]? = some (.cells #[.int .i64 x.ep, .int .i64 x.pr, .slice x.aV x.V.length x.cV, .slice x.aM x.M.length x.cM, .slice x.aA x.A.length x.cA, .int .i64 x.h] 41 (0, 0)) := by subst hW2; exact at_new rfl
      have hb : Below wr.heap.size wr W2 := by subst hW2; exact below_alloc1 _ _
      obtain ⟨eb, heb⟩ : ∃ eb, eb = wr.heap.size := ⟨_, rfl⟩
      have ebB : B ≤ eb := by omega
      have ebR : ∀ k, v.ownBlock = some k → k < eb := fun k hk => by have := (hot.row_lt hk).2; omega
      replace kT := (hb.block _ (blk_lt kT)).trans kT
      replace kM := (hb.block _ (blk_lt kM)).trans kM
      replace kR := (hb.block _ (blk_lt kR)).trans kR
      replace kO := (hb.block _ (blk_lt kO)).trans kO
      replace hot := hot.below hb
      replace ok := ok.below hb
      replace rV := rV.below hb
      replace rM := rM.below hb
      replace B1 := Rw.next B1 hb
      have hBs2 : B ≤ W2.heap.size := Nat.le_trans hBs hb.size
      clear hb hBs
      obtain ⟨m0, m1⟩ := Pm.two kM
      rw [hW2] at m0 m1
      rw [← heb] at kE
      cases st
      · simp only [delB, Ent.said] at hpx
        cases hcv : Hq.covB V M x.V x.M
        · have HP : Hid (p i = true) := (show p i = true by rw [hpx]; simp [hcv])
          have HC : Hid (Hq.covB V M x.V x.M = false) := hcv
          clear hpx hcv
          go_wp2_with (first
            | (go_at_call 16; rw [← hW2]; clear hW2 m0 m1 n0 n1 c0 c1 c2 c3 c4 c5; refine (Hq.covS wV ok.wV _ _ _ _ _ _ _ _ _ _ _ _ _ _ _ _ _ rV rM ok.rV ok.rM).mono ?_; rw [HC.out]; rintro e1 w3 ⟨rfl, hb⟩; replace kT := (hb.block _ (blk_lt kT)).trans kT; replace kM := (hb.block _ (blk_lt kM)).trans kM; replace kR := (hb.block _ (blk_lt kR)).trans kR; replace kO := (hb.block _ (blk_lt kO)).trans kO; replace kE := (hb.block _ (blk_lt kE)).trans kE; replace hot := hot.below hb; replace ok := ok.below hb; replace rV := rV.below hb; replace rM := rM.below hb; replace B1 := Rw.next B1 hb; replace hBs2 := Nat.le_trans hBs2 hb.size; clear hb; rw [heb] at kE; obtain ⟨m0, m1⟩ := Pm.two kM; obtain ⟨c0, c1, c2, c3, c4, c5⟩ := six kE))
          rw [← heb] at kE c0 c1 c2 c3 c4 c5 ⊢
          clear heb c0 c1 c2 c3 c4 c5 m0 m1
          generalize w3 = wr at *
          have hcp := fun W (ok : Ent.Ok W x) => copyS x W ok
          simp only [ent_vals x] at hcp
          have lE := blk_lt kE
          have lT := blk_lt kT
          have lM := blk_lt kM
          have lR := blk_lt kR
          have hSt : ∀ w', Stab wr ob v w' → w'.cell? ⟨eb, 0, none⟩ = some (.int .i64 x.ep) ∧ w'.cell? ⟨eb, 1, none⟩ = some (.int .i64 x.pr) ∧ w'.cell? ⟨eb, 2, none⟩ = some (.slice x.aV x.V.length x.cV) ∧ w'.cell? ⟨eb, 3, none⟩ = some (.slice x.aM x.M.length x.cM) ∧ w'.cell? ⟨eb, 4, none⟩ = some (.slice x.aA x.A.length x.cA) ∧ w'.cell? ⟨eb, 5, none⟩ = some (.int .i64 x.h) :=
            fun w' h => six ((h.block eb lE (by omega) (fun e => by have := ebR _ e.symm; omega)).trans kE)
          refine wp_region_held_drew (S := Stab wr (ob) v) (by kernel_rfl) (Stab.refl _ _ _) (fun hHeld => ?_)
          refine Pq.take (i := 0) (d := some 54) (v := .pointer (some ⟨ob, 1, none⟩)) rfl (by kernel_rfl) (by kernel_rfl) (by kernel_rfl) (by kernel_rfl) (fun _ _ _ h => h) (Or.inl ⟨by rfl, by intro w hSw; go_simp⟩) hHeld ?_
          simp only [Act.put, List.setIfInBounds_toArray, List.set_cons_zero, List.set_cons_succ]
          refine Pq.take (i := 2) (d := some 56) (v := .agg #[.int .i64 x.ep, .int .i64 x.pr, .slice x.aV x.V.length x.cV, .slice x.aM x.M.length x.cM, .slice x.aA x.A.length x.cA, .int .i64 x.h]) rfl (by kernel_rfl) (by kernel_rfl) (by kernel_rfl) (by kernel_rfl) (fun _ _ _ h => h) (Or.inl ⟨by rfl, by intro w hSw; obtain ⟨s0, s1, s2, s3, s4, s5⟩ := hSt w hSw; go_simp⟩) hHeld ?_
          simp only [Act.put, List.setIfInBounds_toArray, List.set_cons_zero, List.set_cons_succ]
          have st : Stab wr (ob) v wr.drew := Stab.refl _ _ _
          have hot0 : OT wr.drew B v F := hot.below ((Below.refl _ _).drew)
          have kO0 : wr.drew.heap[ob]? = some (.cells #[.int .i64 q, v] 38 (0, 0)) := kO
          have ok0 := ok.below ((Below.refl wr.heap.size wr).drew)
          have B2 := Rw.next B1 ((Below.refl wr.heap.size wr).drew)
          have sW : wr.drew.heap.size = wr.heap.size := rfl
          generalize wr.drew = W at *
          refine wpAnyH_ready (rs := [1, 3]) (by kernel_rfl) (by simp) (Yh.readyRun (i := 1) rfl (by kernel_rfl) (some 55) (by kernel_rfl) (v := v) (w' := W) (by obtain ⟨o0, o1⟩ := Pm.two kO0; go_simp) st (fun hHeld => ?_) (Rg.call1 (i := 3) rfl (by rfl) 83 (.tmp 56) 41 (by kernel_rfl) 57 (by kernel_rfl) (.agg #[.int .i64 x.ep, .int .i64 x.pr, .slice x.aV x.V.length x.cV, .slice x.aM x.M.length x.cM, .slice x.aA x.A.length x.cA, .int .i64 x.h]) (by kernel_rfl) (fun _ => rfl) (hcp _ ok0) ?_ AllReadyH.nil))
          · simp only [Act.put, List.setIfInBounds_toArray, List.set_cons_zero, List.set_cons_succ]
            refine wpAnyH_ready (rs := [3]) (by kernel_rfl) (by simp) (Rg.call1 (i := 3) rfl (by rfl) 83 (.tmp 56) 41 (by kernel_rfl) 57 (by kernel_rfl) (.agg #[.int .i64 x.ep, .int .i64 x.pr, .slice x.aV x.V.length x.cV, .slice x.aM x.M.length x.cM, .slice x.aA x.A.length x.cA, .int .i64 x.h]) (by kernel_rfl) (fun _ => rfl) (hcp _ ok0) ?_ AllReadyH.nil)
            rintro e1 Wc ⟨f, rfl, sf, hf, hb⟩
            replace st := st.below hb
            replace kO0 := (hb.block _ (blk_lt kO0)).trans kO0
            have hbc := hb
            replace B2 := Rw.next B2 hb
            have sC := hb.size
            refine ⟨_, rfl, st, fun hHeld => ?_⟩
            simp only [Act.put, List.setIfInBounds_toArray, List.set_cons_zero, List.set_cons_succ]
            refine wpAnyH_ready (rs := [4]) (by kernel_rfl) (by simp) (Yh.readyRun (i := 4) rfl (by kernel_rfl) (some 58) (by kernel_rfl) (v := .slice (some ⟨Wc.heap.size, 0, none⟩) 1 1) (w' := Wc.alloc (.cells f.vals 41)) (exec_one rfl (by kernel_rfl)) (st.below (below_alloc1 _ _)) (fun hHeld => ?_) AllReadyH.nil)
            simp only [Act.put, List.setIfInBounds_toArray, List.set_cons_zero, List.set_cons_succ]
            obtain ⟨Wd, hWd⟩ : ∃ Wd, Wd = Wc.alloc (.cells f.vals 41) := ⟨_, rfl⟩
            rw [← hWd] at hHeld ⊢
            have hT : Wd.heap[Wc.heap.size]? = some (.cells f.vals 41 (0, 0)) := by subst hWd; exact at_new rfl
            have hb : Below Wc.heap.size Wc Wd := by subst hWd; exact below_alloc1 _ _
            replace st := st.below hb
            replace kO0 := (hb.block _ (blk_lt kO0)).trans kO0
            replace B2 := Rw.next B2 hb
            have hf2 := hf.below hb
            have hbd := Rw.next hbc hb
            clear hb hWd
            obtain ⟨v', Z, hrun, hotZ, hgr⟩ := hot0.app 36 (c := 1) hbd hf2 (Nat.le_refl _) (by omega) hT hFl
            refine wpAnyH_ready (rs := [5]) (by kernel_rfl) (by simp) (Yh.readyRun (i := 5) rfl (by kernel_rfl) (some 59) (by kernel_rfl) (exec_app (.tmp 55) (.tmp 58) rfl (by kernel_rfl) (by kernel_rfl) hrun) (st.grown hgr) (fun hHeld => ?_) AllReadyH.nil)
            simp only [Act.put, List.setIfInBounds_toArray, List.set_cons_zero, List.set_cons_succ]
            replace st := st.grown hgr
            obtain ⟨va, vn, vc, hv⟩ := hotZ.slice
            subst hv
            have kOZ := (hgr.block _ (blk_lt kO0) (fun e => by have := (hot0.row_lt e.symm).1; omega)).trans kO0
            replace B2 := B2.grown hgr B2.size (fun k hk => by have := (hot0.row_lt hk).1; omega)
            obtain ⟨o0, o1⟩ := Pm.two kOZ
            have fO := Bl.free kOZ
            refine Pq.take (i := 6) (d := some 60) (v := .pointer (some ⟨ob, 1, none⟩)) rfl (by kernel_rfl) (by kernel_rfl) (by kernel_rfl) (by kernel_rfl) (fun _ _ _ h => h) (Or.inl ⟨by rfl, by intro w hSw; go_simp⟩) hHeld ?_
            simp only [Act.put, List.setIfInBounds_toArray, List.set_cons_zero, List.set_cons_succ]
            refine wpAnyH_ready (rs := [7]) (by kernel_rfl) (by simp) (Yh.readySkip (i := 7) rfl (by kernel_rfl) none (by kernel_rfl) (w' := Z.setCell ⟨ob, 1, none⟩ (.slice va vn vc)) (by go_simp) st.set (fun hHeld => ?_) AllReadyH.nil)
            simp only [Act.put, List.setIfInBounds_toArray, List.set_cons_zero, List.set_cons_succ]
            refine wpAnyH_done (by kernel_rfl) ?_ _
            have kO' : (Z.setCell ⟨ob, 1, none⟩ (.slice va vn vc)).heap[ob]? = some (.cells #[.int .i64 q, (.slice va vn vc)] 38 (0, 0)) := blk_same kOZ
            have B1' : Below w.heap.size w (Z.setCell ⟨ob, 1, none⟩ (.slice va vn vc)) := Pm.bset B2 hwo
            have hot' : OT (Z.setCell ⟨ob, 1, none⟩ (.slice va vn vc)) B (.slice va vn vc) (F ++ [f]) := hotZ.keep fun x _ hx => blk_other rfl (by omega)
            replace st : Stab wr (ob) v (Z.setCell ⟨ob, 1, none⟩ (.slice va vn vc)) := st.set
            have st0 := st
            go_wp2
            go_roundw
            case rel => exact ⟨i + 1, .slice va vn vc, F ++ [f], by omega, by go_num, B1', (st0.block _ (by omega) (by omega) (fun e => by have := (hot.row_lt e.symm).1; omega)).trans kT, (st0.block _ (by omega) (by omega) (fun e => by have := (hot.row_lt e.symm).1; omega)).trans kM, (st0.block _ (by omega) (by omega) (fun e => by have := (hot.row_lt e.symm).1; omega)).trans kR, kO', hot', by have := st0.size; omega, by simp only [sel]; rw [HP.out, if_pos rfl, List.map_append, ← HF.out, said_getD, HX.out]; simp [sf]⟩
            case measure => simp [intOf]; omega
          · rintro e1 Wc ⟨f, rfl, sf, hf, hb⟩
            replace st := st.below hb
            replace kO0 := (hb.block _ (blk_lt kO0)).trans kO0
            have hbc := hb
            replace B2 := Rw.next B2 hb
            have sC := hb.size
            refine ⟨_, rfl, st, fun hHeld => ?_⟩
            simp only [Act.put, List.setIfInBounds_toArray, List.set_cons_zero, List.set_cons_succ]
            refine wpAnyH_ready (rs := [1, 4]) (by kernel_rfl) (by simp) (Yh.readyRun (i := 1) rfl (by kernel_rfl) (some 55) (by kernel_rfl) (v := v) (w' := Wc) (by obtain ⟨o0, o1⟩ := Pm.two kO0; go_simp) st (fun hHeld => ?_) (Yh.readyRun (i := 4) rfl (by kernel_rfl) (some 58) (by kernel_rfl) (v := .slice (some ⟨Wc.heap.size, 0, none⟩) 1 1) (w' := Wc.alloc (.cells f.vals 41)) (exec_one rfl (by kernel_rfl)) (st.below (below_alloc1 _ _)) (fun hHeld => ?_) AllReadyH.nil))
            · simp only [Act.put, List.setIfInBounds_toArray, List.set_cons_zero, List.set_cons_succ]
              refine wpAnyH_ready (rs := [4]) (by kernel_rfl) (by simp) (Yh.readyRun (i := 4) rfl (by kernel_rfl) (some 58) (by kernel_rfl) (v := .slice (some ⟨Wc.heap.size, 0, none⟩) 1 1) (w' := Wc.alloc (.cells f.vals 41)) (exec_one rfl (by kernel_rfl)) (st.below (below_alloc1 _ _)) (fun hHeld => ?_) AllReadyH.nil)
              simp only [Act.put, List.setIfInBounds_toArray, List.set_cons_zero, List.set_cons_succ]
              obtain ⟨Wd, hWd⟩ : ∃ Wd, Wd = Wc.alloc (.cells f.vals 41) := ⟨_, rfl⟩
              rw [← hWd] at hHeld ⊢
              have hT : Wd.heap[Wc.heap.size]? = some (.cells f.vals 41 (0, 0)) := by subst hWd; exact at_new rfl
              have hb : Below Wc.heap.size Wc Wd := by subst hWd; exact below_alloc1 _ _
              replace st := st.below hb
              replace kO0 := (hb.block _ (blk_lt kO0)).trans kO0
              replace B2 := Rw.next B2 hb
              have hf2 := hf.below hb
              have hbd := Rw.next hbc hb
              clear hb hWd
              obtain ⟨v', Z, hrun, hotZ, hgr⟩ := hot0.app 36 (c := 1) hbd hf2 (Nat.le_refl _) (by omega) hT hFl
              refine wpAnyH_ready (rs := [5]) (by kernel_rfl) (by simp) (Yh.readyRun (i := 5) rfl (by kernel_rfl) (some 59) (by kernel_rfl) (exec_app (.tmp 55) (.tmp 58) rfl (by kernel_rfl) (by kernel_rfl) hrun) (st.grown hgr) (fun hHeld => ?_) AllReadyH.nil)
              simp only [Act.put, List.setIfInBounds_toArray, List.set_cons_zero, List.set_cons_succ]
              replace st := st.grown hgr
              obtain ⟨va, vn, vc, hv⟩ := hotZ.slice
              subst hv
              have kOZ := (hgr.block _ (blk_lt kO0) (fun e => by have := (hot0.row_lt e.symm).1; omega)).trans kO0
              replace B2 := B2.grown hgr B2.size (fun k hk => by have := (hot0.row_lt hk).1; omega)
              obtain ⟨o0, o1⟩ := Pm.two kOZ
              have fO := Bl.free kOZ
              refine Pq.take (i := 6) (d := some 60) (v := .pointer (some ⟨ob, 1, none⟩)) rfl (by kernel_rfl) (by kernel_rfl) (by kernel_rfl) (by kernel_rfl) (fun _ _ _ h => h) (Or.inl ⟨by rfl, by intro w hSw; go_simp⟩) hHeld ?_
              simp only [Act.put, List.setIfInBounds_toArray, List.set_cons_zero, List.set_cons_succ]
              refine wpAnyH_ready (rs := [7]) (by kernel_rfl) (by simp) (Yh.readySkip (i := 7) rfl (by kernel_rfl) none (by kernel_rfl) (w' := Z.setCell ⟨ob, 1, none⟩ (.slice va vn vc)) (by go_simp) st.set (fun hHeld => ?_) AllReadyH.nil)
              simp only [Act.put, List.setIfInBounds_toArray, List.set_cons_zero, List.set_cons_succ]
              refine wpAnyH_done (by kernel_rfl) ?_ _
              have kO' : (Z.setCell ⟨ob, 1, none⟩ (.slice va vn vc)).heap[ob]? = some (.cells #[.int .i64 q, (.slice va vn vc)] 38 (0, 0)) := blk_same kOZ
              have B1' : Below w.heap.size w (Z.setCell ⟨ob, 1, none⟩ (.slice va vn vc)) := Pm.bset B2 hwo
              have hot' : OT (Z.setCell ⟨ob, 1, none⟩ (.slice va vn vc)) B (.slice va vn vc) (F ++ [f]) := hotZ.keep fun x _ hx => blk_other rfl (by omega)
              replace st : Stab wr (ob) v (Z.setCell ⟨ob, 1, none⟩ (.slice va vn vc)) := st.set
              have st0 := st
              go_wp2
              go_roundw
              case rel => exact ⟨i + 1, .slice va vn vc, F ++ [f], by omega, by go_num, B1', (st0.block _ (by omega) (by omega) (fun e => by have := (hot.row_lt e.symm).1; omega)).trans kT, (st0.block _ (by omega) (by omega) (fun e => by have := (hot.row_lt e.symm).1; omega)).trans kM, (st0.block _ (by omega) (by omega) (fun e => by have := (hot.row_lt e.symm).1; omega)).trans kR, kO', hot', by have := st0.size; omega, by simp only [sel]; rw [HP.out, if_pos rfl, List.map_append, ← HF.out, said_getD, HX.out]; simp [sf]⟩
              case measure => simp [intOf]; omega
            · simp only [Act.put, List.setIfInBounds_toArray, List.set_cons_zero, List.set_cons_succ]
              obtain ⟨Wd, hWd⟩ : ∃ Wd, Wd = Wc.alloc (.cells f.vals 41) := ⟨_, rfl⟩
              rw [← hWd] at hHeld ⊢
              have hT : Wd.heap[Wc.heap.size]? = some (.cells f.vals 41 (0, 0)) := by subst hWd; exact at_new rfl
              have hb : Below Wc.heap.size Wc Wd := by subst hWd; exact below_alloc1 _ _
              replace st := st.below hb
              replace kO0 := (hb.block _ (blk_lt kO0)).trans kO0
              replace B2 := Rw.next B2 hb
              have hf2 := hf.below hb
              have hbd := Rw.next hbc hb
              clear hb hWd
              refine wpAnyH_ready (rs := [1]) (by kernel_rfl) (by simp) (Yh.readyRun (i := 1) rfl (by kernel_rfl) (some 55) (by kernel_rfl) (v := v) (w' := Wd) (by obtain ⟨o0, o1⟩ := Pm.two kO0; go_simp) st (fun hHeld => ?_) AllReadyH.nil)
              simp only [Act.put, List.setIfInBounds_toArray, List.set_cons_zero, List.set_cons_succ]
              obtain ⟨v', Z, hrun, hotZ, hgr⟩ := hot0.app 36 (c := 1) hbd hf2 (Nat.le_refl _) (by omega) hT hFl
              refine wpAnyH_ready (rs := [5]) (by kernel_rfl) (by simp) (Yh.readyRun (i := 5) rfl (by kernel_rfl) (some 59) (by kernel_rfl) (exec_app (.tmp 55) (.tmp 58) rfl (by kernel_rfl) (by kernel_rfl) hrun) (st.grown hgr) (fun hHeld => ?_) AllReadyH.nil)
              simp only [Act.put, List.setIfInBounds_toArray, List.set_cons_zero, List.set_cons_succ]
              replace st := st.grown hgr
              obtain ⟨va, vn, vc, hv⟩ := hotZ.slice
              subst hv
              have kOZ := (hgr.block _ (blk_lt kO0) (fun e => by have := (hot0.row_lt e.symm).1; omega)).trans kO0
              replace B2 := B2.grown hgr B2.size (fun k hk => by have := (hot0.row_lt hk).1; omega)
              obtain ⟨o0, o1⟩ := Pm.two kOZ
              have fO := Bl.free kOZ
              refine Pq.take (i := 6) (d := some 60) (v := .pointer (some ⟨ob, 1, none⟩)) rfl (by kernel_rfl) (by kernel_rfl) (by kernel_rfl) (by kernel_rfl) (fun _ _ _ h => h) (Or.inl ⟨by rfl, by intro w hSw; go_simp⟩) hHeld ?_
              simp only [Act.put, List.setIfInBounds_toArray, List.set_cons_zero, List.set_cons_succ]
              refine wpAnyH_ready (rs := [7]) (by kernel_rfl) (by simp) (Yh.readySkip (i := 7) rfl (by kernel_rfl) none (by kernel_rfl) (w' := Z.setCell ⟨ob, 1, none⟩ (.slice va vn vc)) (by go_simp) st.set (fun hHeld => ?_) AllReadyH.nil)
              simp only [Act.put, List.setIfInBounds_toArray, List.set_cons_zero, List.set_cons_succ]
              refine wpAnyH_done (by kernel_rfl) ?_ _
              have kO' : (Z.setCell ⟨ob, 1, none⟩ (.slice va vn vc)).heap[ob]? = some (.cells #[.int .i64 q, (.slice va vn vc)] 38 (0, 0)) := blk_same kOZ
              have B1' : Below w.heap.size w (Z.setCell ⟨ob, 1, none⟩ (.slice va vn vc)) := Pm.bset B2 hwo
              have hot' : OT (Z.setCell ⟨ob, 1, none⟩ (.slice va vn vc)) B (.slice va vn vc) (F ++ [f]) := hotZ.keep fun x _ hx => blk_other rfl (by omega)
              replace st : Stab wr (ob) v (Z.setCell ⟨ob, 1, none⟩ (.slice va vn vc)) := st.set
              have st0 := st
              go_wp2
              go_roundw
              case rel => exact ⟨i + 1, .slice va vn vc, F ++ [f], by omega, by go_num, B1', (st0.block _ (by omega) (by omega) (fun e => by have := (hot.row_lt e.symm).1; omega)).trans kT, (st0.block _ (by omega) (by omega) (fun e => by have := (hot.row_lt e.symm).1; omega)).trans kM, (st0.block _ (by omega) (by omega) (fun e => by have := (hot.row_lt e.symm).1; omega)).trans kR, kO', hot', by have := st0.size; omega, by simp only [sel]; rw [HP.out, if_pos rfl, List.map_append, ← HF.out, said_getD, HX.out]; simp [sf]⟩
              case measure => simp [intOf]; omega
        · have HP : Hid (p i = false) := (show p i = false by rw [hpx]; simp [hcv])
          have HC : Hid (Hq.covB V M x.V x.M = true) := hcv
          clear hpx hcv
          go_wp2_with (first
            | (go_at_call 16; rw [← hW2]; clear hW2 m0 m1 n0 n1 c0 c1 c2 c3 c4 c5; refine (Hq.covS wV ok.wV _ _ _ _ _ _ _ _ _ _ _ _ _ _ _ _ _ rV rM ok.rV ok.rM).mono ?_; rw [HC.out]; rintro e1 w3 ⟨rfl, hb⟩; replace kT := (hb.block _ (blk_lt kT)).trans kT; replace kM := (hb.block _ (blk_lt kM)).trans kM; replace kR := (hb.block _ (blk_lt kR)).trans kR; replace kO := (hb.block _ (blk_lt kO)).trans kO; replace kE := (hb.block _ (blk_lt kE)).trans kE; replace hot := hot.below hb; replace ok := ok.below hb; replace rV := rV.below hb; replace rM := rM.below hb; replace B1 := Rw.next B1 hb; replace hBs2 := Nat.le_trans hBs2 hb.size; clear hb; rw [heb] at kE; obtain ⟨m0, m1⟩ := Pm.two kM; obtain ⟨c0, c1, c2, c3, c4, c5⟩ := six kE))
          go_roundw
          case rel => exact ⟨i + 1, v, F, by omega, by go_num, B1, kT, kM, kR, kO, hot, hBs2, by simp only [sel]; rw [HP.out]; exact HF.out⟩
          case measure => simp [intOf]; omega
      · simp only [delB, Ent.said] at hpx
        cases hcv : sameM V M x.V x.M
        · have HP : Hid (p i = true) := (show p i = true by rw [hpx]; simp [hcv])
          have HC : Hid (sameM V M x.V x.M = false) := hcv
          clear hpx hcv
          go_wp2_with (first
            | (go_at_call 16; rw [← hW2]; clear hW2 m0 m1 n0 n1 c0 c1 c2 c3 c4 c5; refine (Hq.covS wV ok.wV _ _ _ _ _ _ _ _ _ _ _ _ _ _ _ _ _ rV rM ok.rV ok.rM).mono ?_; rintro e1 w3 ⟨rfl, hb⟩; replace kT := (hb.block _ (blk_lt kT)).trans kT; replace kM := (hb.block _ (blk_lt kM)).trans kM; replace kR := (hb.block _ (blk_lt kR)).trans kR; replace kO := (hb.block _ (blk_lt kO)).trans kO; replace kE := (hb.block _ (blk_lt kE)).trans kE; replace hot := hot.below hb; replace ok := ok.below hb; replace rV := rV.below hb; replace rM := rM.below hb; replace B1 := Rw.next B1 hb; replace hBs2 := Nat.le_trans hBs2 hb.size; clear hb; rw [heb] at kE; obtain ⟨m0, m1⟩ := Pm.two kM; obtain ⟨c0, c1, c2, c3, c4, c5⟩ := six kE)
            | (go_at_call 115; clear m0 m1 c0 c1 c2 c3 c4 c5; refine (sameS wV ok.wV _ _ _ _ _ _ _ _ _ _ _ _ _ _ _ _ _ rV rM ok.rV ok.rM).mono ?_; rw [HC.out]; rintro e1 w4 ⟨rfl, hb⟩; replace kT := (hb.block _ (blk_lt kT)).trans kT; replace kM := (hb.block _ (blk_lt kM)).trans kM; replace kR := (hb.block _ (blk_lt kR)).trans kR; replace kO := (hb.block _ (blk_lt kO)).trans kO; replace kE := (hb.block _ (blk_lt kE)).trans kE; replace hot := hot.below hb; replace ok := ok.below hb; replace rV := rV.below hb; replace rM := rM.below hb; replace B1 := Rw.next B1 hb; replace hBs2 := Nat.le_trans hBs2 hb.size; clear hb; obtain ⟨m0, m1⟩ := Pm.two kM; obtain ⟨c0, c1, c2, c3, c4, c5⟩ := six kE))
          rw [← heb] at kE c0 c1 c2 c3 c4 c5 ⊢
          clear heb c0 c1 c2 c3 c4 c5 m0 m1
          generalize w4 = wr at *
          have hcp := fun W (ok : Ent.Ok W x) => copyS x W ok
          simp only [ent_vals x] at hcp
          have lE := blk_lt kE
          have lT := blk_lt kT
          have lM := blk_lt kM
          have lR := blk_lt kR
          have hSt : ∀ w', Stab wr ob v w' → w'.cell? ⟨eb, 0, none⟩ = some (.int .i64 x.ep) ∧ w'.cell? ⟨eb, 1, none⟩ = some (.int .i64 x.pr) ∧ w'.cell? ⟨eb, 2, none⟩ = some (.slice x.aV x.V.length x.cV) ∧ w'.cell? ⟨eb, 3, none⟩ = some (.slice x.aM x.M.length x.cM) ∧ w'.cell? ⟨eb, 4, none⟩ = some (.slice x.aA x.A.length x.cA) ∧ w'.cell? ⟨eb, 5, none⟩ = some (.int .i64 x.h) :=
            fun w' h => six ((h.block eb lE (by omega) (fun e => by have := ebR _ e.symm; omega)).trans kE)
          refine wp_region_held_drew (S := Stab wr (ob) v) (by kernel_rfl) (Stab.refl _ _ _) (fun hHeld => ?_)
          refine Pq.take (i := 0) (d := some 54) (v := .pointer (some ⟨ob, 1, none⟩)) rfl (by kernel_rfl) (by kernel_rfl) (by kernel_rfl) (by kernel_rfl) (fun _ _ _ h => h) (Or.inl ⟨by rfl, by intro w hSw; go_simp⟩) hHeld ?_
          simp only [Act.put, List.setIfInBounds_toArray, List.set_cons_zero, List.set_cons_succ]
          refine Pq.take (i := 2) (d := some 56) (v := .agg #[.int .i64 x.ep, .int .i64 x.pr, .slice x.aV x.V.length x.cV, .slice x.aM x.M.length x.cM, .slice x.aA x.A.length x.cA, .int .i64 x.h]) rfl (by kernel_rfl) (by kernel_rfl) (by kernel_rfl) (by kernel_rfl) (fun _ _ _ h => h) (Or.inl ⟨by rfl, by intro w hSw; obtain ⟨s0, s1, s2, s3, s4, s5⟩ := hSt w hSw; go_simp⟩) hHeld ?_
          simp only [Act.put, List.setIfInBounds_toArray, List.set_cons_zero, List.set_cons_succ]
          have st : Stab wr (ob) v wr.drew := Stab.refl _ _ _
          have hot0 : OT wr.drew B v F := hot.below ((Below.refl _ _).drew)
          have kO0 : wr.drew.heap[ob]? = some (.cells #[.int .i64 q, v] 38 (0, 0)) := kO
          have ok0 := ok.below ((Below.refl wr.heap.size wr).drew)
          have B2 := Rw.next B1 ((Below.refl wr.heap.size wr).drew)
          have sW : wr.drew.heap.size = wr.heap.size := rfl
          generalize wr.drew = W at *
          refine wpAnyH_ready (rs := [1, 3]) (by kernel_rfl) (by simp) (Yh.readyRun (i := 1) rfl (by kernel_rfl) (some 55) (by kernel_rfl) (v := v) (w' := W) (by obtain ⟨o0, o1⟩ := Pm.two kO0; go_simp) st (fun hHeld => ?_) (Rg.call1 (i := 3) rfl (by rfl) 83 (.tmp 56) 41 (by kernel_rfl) 57 (by kernel_rfl) (.agg #[.int .i64 x.ep, .int .i64 x.pr, .slice x.aV x.V.length x.cV, .slice x.aM x.M.length x.cM, .slice x.aA x.A.length x.cA, .int .i64 x.h]) (by kernel_rfl) (fun _ => rfl) (hcp _ ok0) ?_ AllReadyH.nil))
          · simp only [Act.put, List.setIfInBounds_toArray, List.set_cons_zero, List.set_cons_succ]
            refine wpAnyH_ready (rs := [3]) (by kernel_rfl) (by simp) (Rg.call1 (i := 3) rfl (by rfl) 83 (.tmp 56) 41 (by kernel_rfl) 57 (by kernel_rfl) (.agg #[.int .i64 x.ep, .int .i64 x.pr, .slice x.aV x.V.length x.cV, .slice x.aM x.M.length x.cM, .slice x.aA x.A.length x.cA, .int .i64 x.h]) (by kernel_rfl) (fun _ => rfl) (hcp _ ok0) ?_ AllReadyH.nil)
            rintro e1 Wc ⟨f, rfl, sf, hf, hb⟩
            replace st := st.below hb
            replace kO0 := (hb.block _ (blk_lt kO0)).trans kO0
            have hbc := hb
            replace B2 := Rw.next B2 hb
            have sC := hb.size
            refine ⟨_, rfl, st, fun hHeld => ?_⟩
            simp only [Act.put, List.setIfInBounds_toArray, List.set_cons_zero, List.set_cons_succ]
            refine wpAnyH_ready (rs := [4]) (by kernel_rfl) (by simp) (Yh.readyRun (i := 4) rfl (by kernel_rfl) (some 58) (by kernel_rfl) (v := .slice (some ⟨Wc.heap.size, 0, none⟩) 1 1) (w' := Wc.alloc (.cells f.vals 41)) (exec_one rfl (by kernel_rfl)) (st.below (below_alloc1 _ _)) (fun hHeld => ?_) AllReadyH.nil)
            simp only [Act.put, List.setIfInBounds_toArray, List.set_cons_zero, List.set_cons_succ]
            obtain ⟨Wd, hWd⟩ : ∃ Wd, Wd = Wc.alloc (.cells f.vals 41) := ⟨_, rfl⟩
            rw [← hWd] at hHeld ⊢
            have hT : Wd.heap[Wc.heap.size]? = some (.cells f.vals 41 (0, 0)) := by subst hWd; exact at_new rfl
            have hb : Below Wc.heap.size Wc Wd := by subst hWd; exact below_alloc1 _ _
            replace st := st.below hb
            replace kO0 := (hb.block _ (blk_lt kO0)).trans kO0
            replace B2 := Rw.next B2 hb
            have hf2 := hf.below hb
            have hbd := Rw.next hbc hb
            clear hb hWd
            obtain ⟨v', Z, hrun, hotZ, hgr⟩ := hot0.app 36 (c := 1) hbd hf2 (Nat.le_refl _) (by omega) hT hFl
            refine wpAnyH_ready (rs := [5]) (by kernel_rfl) (by simp) (Yh.readyRun (i := 5) rfl (by kernel_rfl) (some 59) (by kernel_rfl) (exec_app (.tmp 55) (.tmp 58) rfl (by kernel_rfl) (by kernel_rfl) hrun) (st.grown hgr) (fun hHeld => ?_) AllReadyH.nil)
            simp only [Act.put, List.setIfInBounds_toArray, List.set_cons_zero, List.set_cons_succ]
            replace st := st.grown hgr
            obtain ⟨va, vn, vc, hv⟩ := hotZ.slice
            subst hv
            have kOZ := (hgr.block _ (blk_lt kO0) (fun e => by have := (hot0.row_lt e.symm).1; omega)).trans kO0
            replace B2 := B2.grown hgr B2.size (fun k hk => by have := (hot0.row_lt hk).1; omega)
            obtain ⟨o0, o1⟩ := Pm.two kOZ
            have fO := Bl.free kOZ
            refine Pq.take (i := 6) (d := some 60) (v := .pointer (some ⟨ob, 1, none⟩)) rfl (by kernel_rfl) (by kernel_rfl) (by kernel_rfl) (by kernel_rfl) (fun _ _ _ h => h) (Or.inl ⟨by rfl, by intro w hSw; go_simp⟩) hHeld ?_
            simp only [Act.put, List.setIfInBounds_toArray, List.set_cons_zero, List.set_cons_succ]
            refine wpAnyH_ready (rs := [7]) (by kernel_rfl) (by simp) (Yh.readySkip (i := 7) rfl (by kernel_rfl) none (by kernel_rfl) (w' := Z.setCell ⟨ob, 1, none⟩ (.slice va vn vc)) (by go_simp) st.set (fun hHeld => ?_) AllReadyH.nil)
            simp only [Act.put, List.setIfInBounds_toArray, List.set_cons_zero, List.set_cons_succ]
            refine wpAnyH_done (by kernel_rfl) ?_ _
            have kO' : (Z.setCell ⟨ob, 1, none⟩ (.slice va vn vc)).heap[ob]? = some (.cells #[.int .i64 q, (.slice va vn vc)] 38 (0, 0)) := blk_same kOZ
            have B1' : Below w.heap.size w (Z.setCell ⟨ob, 1, none⟩ (.slice va vn vc)) := Pm.bset B2 hwo
            have hot' : OT (Z.setCell ⟨ob, 1, none⟩ (.slice va vn vc)) B (.slice va vn vc) (F ++ [f]) := hotZ.keep fun x _ hx => blk_other rfl (by omega)
            replace st : Stab wr (ob) v (Z.setCell ⟨ob, 1, none⟩ (.slice va vn vc)) := st.set
            have st0 := st
            go_wp2
            go_roundw
            case rel => exact ⟨i + 1, .slice va vn vc, F ++ [f], by omega, by go_num, B1', (st0.block _ (by omega) (by omega) (fun e => by have := (hot.row_lt e.symm).1; omega)).trans kT, (st0.block _ (by omega) (by omega) (fun e => by have := (hot.row_lt e.symm).1; omega)).trans kM, (st0.block _ (by omega) (by omega) (fun e => by have := (hot.row_lt e.symm).1; omega)).trans kR, kO', hot', by have := st0.size; omega, by simp only [sel]; rw [HP.out, if_pos rfl, List.map_append, ← HF.out, said_getD, HX.out]; simp [sf]⟩
            case measure => simp [intOf]; omega
          · rintro e1 Wc ⟨f, rfl, sf, hf, hb⟩
            replace st := st.below hb
            replace kO0 := (hb.block _ (blk_lt kO0)).trans kO0
            have hbc := hb
            replace B2 := Rw.next B2 hb
            have sC := hb.size
            refine ⟨_, rfl, st, fun hHeld => ?_⟩
            simp only [Act.put, List.setIfInBounds_toArray, List.set_cons_zero, List.set_cons_succ]
            refine wpAnyH_ready (rs := [1, 4]) (by kernel_rfl) (by simp) (Yh.readyRun (i := 1) rfl (by kernel_rfl) (some 55) (by kernel_rfl) (v := v) (w' := Wc) (by obtain ⟨o0, o1⟩ := Pm.two kO0; go_simp) st (fun hHeld => ?_) (Yh.readyRun (i := 4) rfl (by kernel_rfl) (some 58) (by kernel_rfl) (v := .slice (some ⟨Wc.heap.size, 0, none⟩) 1 1) (w' := Wc.alloc (.cells f.vals 41)) (exec_one rfl (by kernel_rfl)) (st.below (below_alloc1 _ _)) (fun hHeld => ?_) AllReadyH.nil))
            · simp only [Act.put, List.setIfInBounds_toArray, List.set_cons_zero, List.set_cons_succ]
              refine wpAnyH_ready (rs := [4]) (by kernel_rfl) (by simp) (Yh.readyRun (i := 4) rfl (by kernel_rfl) (some 58) (by kernel_rfl) (v := .slice (some ⟨Wc.heap.size, 0, none⟩) 1 1) (w' := Wc.alloc (.cells f.vals 41)) (exec_one rfl (by kernel_rfl)) (st.below (below_alloc1 _ _)) (fun hHeld => ?_) AllReadyH.nil)
              simp only [Act.put, List.setIfInBounds_toArray, List.set_cons_zero, List.set_cons_succ]
              obtain ⟨Wd, hWd⟩ : ∃ Wd, Wd = Wc.alloc (.cells f.vals 41) := ⟨_, rfl⟩
              rw [← hWd] at hHeld ⊢
              have hT : Wd.heap[Wc.heap.size]? = some (.cells f.vals 41 (0, 0)) := by subst hWd; exact at_new rfl
              have hb : Below Wc.heap.size Wc Wd := by subst hWd; exact below_alloc1 _ _
              replace st := st.below hb
              replace kO0 := (hb.block _ (blk_lt kO0)).trans kO0
              replace B2 := Rw.next B2 hb
              have hf2 := hf.below hb
              have hbd := Rw.next hbc hb
              clear hb hWd
              obtain ⟨v', Z, hrun, hotZ, hgr⟩ := hot0.app 36 (c := 1) hbd hf2 (Nat.le_refl _) (by omega) hT hFl
              refine wpAnyH_ready (rs := [5]) (by kernel_rfl) (by simp) (Yh.readyRun (i := 5) rfl (by kernel_rfl) (some 59) (by kernel_rfl) (exec_app (.tmp 55) (.tmp 58) rfl (by kernel_rfl) (by kernel_rfl) hrun) (st.grown hgr) (fun hHeld => ?_) AllReadyH.nil)
              simp only [Act.put, List.setIfInBounds_toArray, List.set_cons_zero, List.set_cons_succ]
              replace st := st.grown hgr
              obtain ⟨va, vn, vc, hv⟩ := hotZ.slice
              subst hv
              have kOZ := (hgr.block _ (blk_lt kO0) (fun e => by have := (hot0.row_lt e.symm).1; omega)).trans kO0
              replace B2 := B2.grown hgr B2.size (fun k hk => by have := (hot0.row_lt hk).1; omega)
              obtain ⟨o0, o1⟩ := Pm.two kOZ
              have fO := Bl.free kOZ
              refine Pq.take (i := 6) (d := some 60) (v := .pointer (some ⟨ob, 1, none⟩)) rfl (by kernel_rfl) (by kernel_rfl) (by kernel_rfl) (by kernel_rfl) (fun _ _ _ h => h) (Or.inl ⟨by rfl, by intro w hSw; go_simp⟩) hHeld ?_
              simp only [Act.put, List.setIfInBounds_toArray, List.set_cons_zero, List.set_cons_succ]
              refine wpAnyH_ready (rs := [7]) (by kernel_rfl) (by simp) (Yh.readySkip (i := 7) rfl (by kernel_rfl) none (by kernel_rfl) (w' := Z.setCell ⟨ob, 1, none⟩ (.slice va vn vc)) (by go_simp) st.set (fun hHeld => ?_) AllReadyH.nil)
              simp only [Act.put, List.setIfInBounds_toArray, List.set_cons_zero, List.set_cons_succ]
              refine wpAnyH_done (by kernel_rfl) ?_ _
              have kO' : (Z.setCell ⟨ob, 1, none⟩ (.slice va vn vc)).heap[ob]? = some (.cells #[.int .i64 q, (.slice va vn vc)] 38 (0, 0)) := blk_same kOZ
              have B1' : Below w.heap.size w (Z.setCell ⟨ob, 1, none⟩ (.slice va vn vc)) := Pm.bset B2 hwo
              have hot' : OT (Z.setCell ⟨ob, 1, none⟩ (.slice va vn vc)) B (.slice va vn vc) (F ++ [f]) := hotZ.keep fun x _ hx => blk_other rfl (by omega)
              replace st : Stab wr (ob) v (Z.setCell ⟨ob, 1, none⟩ (.slice va vn vc)) := st.set
              have st0 := st
              go_wp2
              go_roundw
              case rel => exact ⟨i + 1, .slice va vn vc, F ++ [f], by omega, by go_num, B1', (st0.block _ (by omega) (by omega) (fun e => by have := (hot.row_lt e.symm).1; omega)).trans kT, (st0.block _ (by omega) (by omega) (fun e => by have := (hot.row_lt e.symm).1; omega)).trans kM, (st0.block _ (by omega) (by omega) (fun e => by have := (hot.row_lt e.symm).1; omega)).trans kR, kO', hot', by have := st0.size; omega, by simp only [sel]; rw [HP.out, if_pos rfl, List.map_append, ← HF.out, said_getD, HX.out]; simp [sf]⟩
              case measure => simp [intOf]; omega
            · simp only [Act.put, List.setIfInBounds_toArray, List.set_cons_zero, List.set_cons_succ]
              obtain ⟨Wd, hWd⟩ : ∃ Wd, Wd = Wc.alloc (.cells f.vals 41) := ⟨_, rfl⟩
              rw [← hWd] at hHeld ⊢
              have hT : Wd.heap[Wc.heap.size]? = some (.cells f.vals 41 (0, 0)) := by subst hWd; exact at_new rfl
              have hb : Below Wc.heap.size Wc Wd := by subst hWd; exact below_alloc1 _ _
              replace st := st.below hb
              replace kO0 := (hb.block _ (blk_lt kO0)).trans kO0
              replace B2 := Rw.next B2 hb
              have hf2 := hf.below hb
              have hbd := Rw.next hbc hb
              clear hb hWd
              refine wpAnyH_ready (rs := [1]) (by kernel_rfl) (by simp) (Yh.readyRun (i := 1) rfl (by kernel_rfl) (some 55) (by kernel_rfl) (v := v) (w' := Wd) (by obtain ⟨o0, o1⟩ := Pm.two kO0; go_simp) st (fun hHeld => ?_) AllReadyH.nil)
              simp only [Act.put, List.setIfInBounds_toArray, List.set_cons_zero, List.set_cons_succ]
              obtain ⟨v', Z, hrun, hotZ, hgr⟩ := hot0.app 36 (c := 1) hbd hf2 (Nat.le_refl _) (by omega) hT hFl
              refine wpAnyH_ready (rs := [5]) (by kernel_rfl) (by simp) (Yh.readyRun (i := 5) rfl (by kernel_rfl) (some 59) (by kernel_rfl) (exec_app (.tmp 55) (.tmp 58) rfl (by kernel_rfl) (by kernel_rfl) hrun) (st.grown hgr) (fun hHeld => ?_) AllReadyH.nil)
              simp only [Act.put, List.setIfInBounds_toArray, List.set_cons_zero, List.set_cons_succ]
              replace st := st.grown hgr
              obtain ⟨va, vn, vc, hv⟩ := hotZ.slice
              subst hv
              have kOZ := (hgr.block _ (blk_lt kO0) (fun e => by have := (hot0.row_lt e.symm).1; omega)).trans kO0
              replace B2 := B2.grown hgr B2.size (fun k hk => by have := (hot0.row_lt hk).1; omega)
              obtain ⟨o0, o1⟩ := Pm.two kOZ
              have fO := Bl.free kOZ
              refine Pq.take (i := 6) (d := some 60) (v := .pointer (some ⟨ob, 1, none⟩)) rfl (by kernel_rfl) (by kernel_rfl) (by kernel_rfl) (by kernel_rfl) (fun _ _ _ h => h) (Or.inl ⟨by rfl, by intro w hSw; go_simp⟩) hHeld ?_
              simp only [Act.put, List.setIfInBounds_toArray, List.set_cons_zero, List.set_cons_succ]
              refine wpAnyH_ready (rs := [7]) (by kernel_rfl) (by simp) (Yh.readySkip (i := 7) rfl (by kernel_rfl) none (by kernel_rfl) (w' := Z.setCell ⟨ob, 1, none⟩ (.slice va vn vc)) (by go_simp) st.set (fun hHeld => ?_) AllReadyH.nil)
              simp only [Act.put, List.setIfInBounds_toArray, List.set_cons_zero, List.set_cons_succ]
              refine wpAnyH_done (by kernel_rfl) ?_ _
              have kO' : (Z.setCell ⟨ob, 1, none⟩ (.slice va vn vc)).heap[ob]? = some (.cells #[.int .i64 q, (.slice va vn vc)] 38 (0, 0)) := blk_same kOZ
              have B1' : Below w.heap.size w (Z.setCell ⟨ob, 1, none⟩ (.slice va vn vc)) := Pm.bset B2 hwo
              have hot' : OT (Z.setCell ⟨ob, 1, none⟩ (.slice va vn vc)) B (.slice va vn vc) (F ++ [f]) := hotZ.keep fun x _ hx => blk_other rfl (by omega)
              replace st : Stab wr (ob) v (Z.setCell ⟨ob, 1, none⟩ (.slice va vn vc)) := st.set
              have st0 := st
              go_wp2
              go_roundw
              case rel => exact ⟨i + 1, .slice va vn vc, F ++ [f], by omega, by go_num, B1', (st0.block _ (by omega) (by omega) (fun e => by have := (hot.row_lt e.symm).1; omega)).trans kT, (st0.block _ (by omega) (by omega) (fun e => by have := (hot.row_lt e.symm).1; omega)).trans kM, (st0.block _ (by omega) (by omega) (fun e => by have := (hot.row_lt e.symm).1; omega)).trans kR, kO', hot', by have := st0.size; omega, by simp only [sel]; rw [HP.out, if_pos rfl, List.map_append, ← HF.out, said_getD, HX.out]; simp [sf]⟩
              case measure => simp [intOf]; omega
        · have HC : Hid (sameM V M x.V x.M = true) := hcv
          by_cases he : x.pr = pr
          · have HP : Hid (p i = false) := (show p i = false by rw [hpx]; simp [hcv, he])
            clear hpx hcv
            subst he
            go_wp2_with (first
              | (go_at_call 16; rw [← hW2]; clear hW2 m0 m1 n0 n1 c0 c1 c2 c3 c4 c5; refine (Hq.covS wV ok.wV _ _ _ _ _ _ _ _ _ _ _ _ _ _ _ _ _ rV rM ok.rV ok.rM).mono ?_; rintro e1 w3 ⟨rfl, hb⟩; replace kT := (hb.block _ (blk_lt kT)).trans kT; replace kM := (hb.block _ (blk_lt kM)).trans kM; replace kR := (hb.block _ (blk_lt kR)).trans kR; replace kO := (hb.block _ (blk_lt kO)).trans kO; replace kE := (hb.block _ (blk_lt kE)).trans kE; replace hot := hot.below hb; replace ok := ok.below hb; replace rV := rV.below hb; replace rM := rM.below hb; replace B1 := Rw.next B1 hb; replace hBs2 := Nat.le_trans hBs2 hb.size; clear hb; rw [heb] at kE; obtain ⟨m0, m1⟩ := Pm.two kM; obtain ⟨c0, c1, c2, c3, c4, c5⟩ := six kE)
              | (go_at_call 115; clear m0 m1 c0 c1 c2 c3 c4 c5; refine (sameS wV ok.wV _ _ _ _ _ _ _ _ _ _ _ _ _ _ _ _ _ rV rM ok.rV ok.rM).mono ?_; rw [HC.out]; rintro e1 w4 ⟨rfl, hb⟩; replace kT := (hb.block _ (blk_lt kT)).trans kT; replace kM := (hb.block _ (blk_lt kM)).trans kM; replace kR := (hb.block _ (blk_lt kR)).trans kR; replace kO := (hb.block _ (blk_lt kO)).trans kO; replace kE := (hb.block _ (blk_lt kE)).trans kE; replace hot := hot.below hb; replace ok := ok.below hb; replace rV := rV.below hb; replace rM := rM.below hb; replace B1 := Rw.next B1 hb; replace hBs2 := Nat.le_trans hBs2 hb.size; clear hb; obtain ⟨m0, m1⟩ := Pm.two kM; obtain ⟨c0, c1, c2, c3, c4, c5⟩ := six kE))
            go_roundw
            case rel => exact ⟨i + 1, v, F, by omega, by go_num, B1, kT, kM, kR, kO, hot, hBs2, by simp only [sel]; rw [HP.out]; exact HF.out⟩
            case measure => simp [intOf]; omega
          · have HP : Hid (p i = true) := (show p i = true by rw [hpx]; simp [hcv, he])
            have he' : (x.pr == pr) = false := by simpa using he
            clear hpx hcv
            go_wp2_with (first
              | (go_at_call 16; rw [← hW2]; clear hW2 m0 m1 n0 n1 c0 c1 c2 c3 c4 c5; refine (Hq.covS wV ok.wV _ _ _ _ _ _ _ _ _ _ _ _ _ _ _ _ _ rV rM ok.rV ok.rM).mono ?_; rintro e1 w3 ⟨rfl, hb⟩; replace kT := (hb.block _ (blk_lt kT)).trans kT; replace kM := (hb.block _ (blk_lt kM)).trans kM; replace kR := (hb.block _ (blk_lt kR)).trans kR; replace kO := (hb.block _ (blk_lt kO)).trans kO; replace kE := (hb.block _ (blk_lt kE)).trans kE; replace hot := hot.below hb; replace ok := ok.below hb; replace rV := rV.below hb; replace rM := rM.below hb; replace B1 := Rw.next B1 hb; replace hBs2 := Nat.le_trans hBs2 hb.size; clear hb; rw [heb] at kE; obtain ⟨m0, m1⟩ := Pm.two kM; obtain ⟨c0, c1, c2, c3, c4, c5⟩ := six kE)
              | (go_at_call 115; clear m0 m1 c0 c1 c2 c3 c4 c5; refine (sameS wV ok.wV _ _ _ _ _ _ _ _ _ _ _ _ _ _ _ _ _ rV rM ok.rV ok.rM).mono ?_; rw [HC.out]; rintro e1 w4 ⟨rfl, hb⟩; replace kT := (hb.block _ (blk_lt kT)).trans kT; replace kM := (hb.block _ (blk_lt kM)).trans kM; replace kR := (hb.block _ (blk_lt kR)).trans kR; replace kO := (hb.block _ (blk_lt kO)).trans kO; replace kE := (hb.block _ (blk_lt kE)).trans kE; replace hot := hot.below hb; replace ok := ok.below hb; replace rV := rV.below hb; replace rM := rM.below hb; replace B1 := Rw.next B1 hb; replace hBs2 := Nat.le_trans hBs2 hb.size; clear hb; obtain ⟨m0, m1⟩ := Pm.two kM; obtain ⟨c0, c1, c2, c3, c4, c5⟩ := six kE))
            rw [← heb] at kE c0 c1 c2 c3 c4 c5 ⊢
            clear heb c0 c1 c2 c3 c4 c5 m0 m1
            generalize w4 = wr at *
            have hcp := fun W (ok : Ent.Ok W x) => copyS x W ok
            simp only [ent_vals x] at hcp
            have lE := blk_lt kE
            have lT := blk_lt kT
            have lM := blk_lt kM
            have lR := blk_lt kR
            have hSt : ∀ w', Stab wr ob v w' → w'.cell? ⟨eb, 0, none⟩ = some (.int .i64 x.ep) ∧ w'.cell? ⟨eb, 1, none⟩ = some (.int .i64 x.pr) ∧ w'.cell? ⟨eb, 2, none⟩ = some (.slice x.aV x.V.length x.cV) ∧ w'.cell? ⟨eb, 3, none⟩ = some (.slice x.aM x.M.length x.cM) ∧ w'.cell? ⟨eb, 4, none⟩ = some (.slice x.aA x.A.length x.cA) ∧ w'.cell? ⟨eb, 5, none⟩ = some (.int .i64 x.h) :=
              fun w' h => six ((h.block eb lE (by omega) (fun e => by have := ebR _ e.symm; omega)).trans kE)
            refine wp_region_held_drew (S := Stab wr (ob) v) (by kernel_rfl) (Stab.refl _ _ _) (fun hHeld => ?_)
            refine Pq.take (i := 0) (d := some 54) (v := .pointer (some ⟨ob, 1, none⟩)) rfl (by kernel_rfl) (by kernel_rfl) (by kernel_rfl) (by kernel_rfl) (fun _ _ _ h => h) (Or.inl ⟨by rfl, by intro w hSw; go_simp⟩) hHeld ?_
            simp only [Act.put, List.setIfInBounds_toArray, List.set_cons_zero, List.set_cons_succ]
            refine Pq.take (i := 2) (d := some 56) (v := .agg #[.int .i64 x.ep, .int .i64 x.pr, .slice x.aV x.V.length x.cV, .slice x.aM x.M.length x.cM, .slice x.aA x.A.length x.cA, .int .i64 x.h]) rfl (by kernel_rfl) (by kernel_rfl) (by kernel_rfl) (by kernel_rfl) (fun _ _ _ h => h) (Or.inl ⟨by rfl, by intro w hSw; obtain ⟨s0, s1, s2, s3, s4, s5⟩ := hSt w hSw; go_simp⟩) hHeld ?_
            simp only [Act.put, List.setIfInBounds_toArray, List.set_cons_zero, List.set_cons_succ]
            have st : Stab wr (ob) v wr.drew := Stab.refl _ _ _
            have hot0 : OT wr.drew B v F := hot.below ((Below.refl _ _).drew)
            have kO0 : wr.drew.heap[ob]? = some (.cells #[.int .i64 q, v] 38 (0, 0)) := kO
            have ok0 := ok.below ((Below.refl wr.heap.size wr).drew)
            have B2 := Rw.next B1 ((Below.refl wr.heap.size wr).drew)
            have sW : wr.drew.heap.size = wr.heap.size := rfl
            generalize wr.drew = W at *
            refine wpAnyH_ready (rs := [1, 3]) (by kernel_rfl) (by simp) (Yh.readyRun (i := 1) rfl (by kernel_rfl) (some 55) (by kernel_rfl) (v := v) (w' := W) (by obtain ⟨o0, o1⟩ := Pm.two kO0; go_simp) st (fun hHeld => ?_) (Rg.call1 (i := 3) rfl (by rfl) 83 (.tmp 56) 41 (by kernel_rfl) 57 (by kernel_rfl) (.agg #[.int .i64 x.ep, .int .i64 x.pr, .slice x.aV x.V.length x.cV, .slice x.aM x.M.length x.cM, .slice x.aA x.A.length x.cA, .int .i64 x.h]) (by kernel_rfl) (fun _ => rfl) (hcp _ ok0) ?_ AllReadyH.nil))
            · simp only [Act.put, List.setIfInBounds_toArray, List.set_cons_zero, List.set_cons_succ]
              refine wpAnyH_ready (rs := [3]) (by kernel_rfl) (by simp) (Rg.call1 (i := 3) rfl (by rfl) 83 (.tmp 56) 41 (by kernel_rfl) 57 (by kernel_rfl) (.agg #[.int .i64 x.ep, .int .i64 x.pr, .slice x.aV x.V.length x.cV, .slice x.aM x.M.length x.cM, .slice x.aA x.A.length x.cA, .int .i64 x.h]) (by kernel_rfl) (fun _ => rfl) (hcp _ ok0) ?_ AllReadyH.nil)
              rintro e1 Wc ⟨f, rfl, sf, hf, hb⟩
              replace st := st.below hb
              replace kO0 := (hb.block _ (blk_lt kO0)).trans kO0
              have hbc := hb
              replace B2 := Rw.next B2 hb
              have sC := hb.size
              refine ⟨_, rfl, st, fun hHeld => ?_⟩
              simp only [Act.put, List.setIfInBounds_toArray, List.set_cons_zero, List.set_cons_succ]
              refine wpAnyH_ready (rs := [4]) (by kernel_rfl) (by simp) (Yh.readyRun (i := 4) rfl (by kernel_rfl) (some 58) (by kernel_rfl) (v := .slice (some ⟨Wc.heap.size, 0, none⟩) 1 1) (w' := Wc.alloc (.cells f.vals 41)) (exec_one rfl (by kernel_rfl)) (st.below (below_alloc1 _ _)) (fun hHeld => ?_) AllReadyH.nil)
              simp only [Act.put, List.setIfInBounds_toArray, List.set_cons_zero, List.set_cons_succ]
              obtain ⟨Wd, hWd⟩ : ∃ Wd, Wd = Wc.alloc (.cells f.vals 41) := ⟨_, rfl⟩
              rw [← hWd] at hHeld ⊢
              have hT : Wd.heap[Wc.heap.size]? = some (.cells f.vals 41 (0, 0)) := by subst hWd; exact at_new rfl
              have hb : Below Wc.heap.size Wc Wd := by subst hWd; exact below_alloc1 _ _
              replace st := st.below hb
              replace kO0 := (hb.block _ (blk_lt kO0)).trans kO0
              replace B2 := Rw.next B2 hb
              have hf2 := hf.below hb
              have hbd := Rw.next hbc hb
              clear hb hWd
              obtain ⟨v', Z, hrun, hotZ, hgr⟩ := hot0.app 36 (c := 1) hbd hf2 (Nat.le_refl _) (by omega) hT hFl
              refine wpAnyH_ready (rs := [5]) (by kernel_rfl) (by simp) (Yh.readyRun (i := 5) rfl (by kernel_rfl) (some 59) (by kernel_rfl) (exec_app (.tmp 55) (.tmp 58) rfl (by kernel_rfl) (by kernel_rfl) hrun) (st.grown hgr) (fun hHeld => ?_) AllReadyH.nil)
              simp only [Act.put, List.setIfInBounds_toArray, List.set_cons_zero, List.set_cons_succ]
              replace st := st.grown hgr
              obtain ⟨va, vn, vc, hv⟩ := hotZ.slice
              subst hv
              have kOZ := (hgr.block _ (blk_lt kO0) (fun e => by have := (hot0.row_lt e.symm).1; omega)).trans kO0
              replace B2 := B2.grown hgr B2.size (fun k hk => by have := (hot0.row_lt hk).1; omega)
              obtain ⟨o0, o1⟩ := Pm.two kOZ
              have fO := Bl.free kOZ
              refine Pq.take (i := 6) (d := some 60) (v := .pointer (some ⟨ob, 1, none⟩)) rfl (by kernel_rfl) (by kernel_rfl) (by kernel_rfl) (by kernel_rfl) (fun _ _ _ h => h) (Or.inl ⟨by rfl, by intro w hSw; go_simp⟩) hHeld ?_
              simp only [Act.put, List.setIfInBounds_toArray, List.set_cons_zero, List.set_cons_succ]
              refine wpAnyH_ready (rs := [7]) (by kernel_rfl) (by simp) (Yh.readySkip (i := 7) rfl (by kernel_rfl) none (by kernel_rfl) (w' := Z.setCell ⟨ob, 1, none⟩ (.slice va vn vc)) (by go_simp) st.set (fun hHeld => ?_) AllReadyH.nil)
              simp only [Act.put, List.setIfInBounds_toArray, List.set_cons_zero, List.set_cons_succ]
              refine wpAnyH_done (by kernel_rfl) ?_ _
              have kO' : (Z.setCell ⟨ob, 1, none⟩ (.slice va vn vc)).heap[ob]? = some (.cells #[.int .i64 q, (.slice va vn vc)] 38 (0, 0)) := blk_same kOZ
              have B1' : Below w.heap.size w (Z.setCell ⟨ob, 1, none⟩ (.slice va vn vc)) := Pm.bset B2 hwo
              have hot' : OT (Z.setCell ⟨ob, 1, none⟩ (.slice va vn vc)) B (.slice va vn vc) (F ++ [f]) := hotZ.keep fun x _ hx => blk_other rfl (by omega)
              replace st : Stab wr (ob) v (Z.setCell ⟨ob, 1, none⟩ (.slice va vn vc)) := st.set
              have st0 := st
              go_wp2
              go_roundw
              case rel => exact ⟨i + 1, .slice va vn vc, F ++ [f], by omega, by go_num, B1', (st0.block _ (by omega) (by omega) (fun e => by have := (hot.row_lt e.symm).1; omega)).trans kT, (st0.block _ (by omega) (by omega) (fun e => by have := (hot.row_lt e.symm).1; omega)).trans kM, (st0.block _ (by omega) (by omega) (fun e => by have := (hot.row_lt e.symm).1; omega)).trans kR, kO', hot', by have := st0.size; omega, by simp only [sel]; rw [HP.out, if_pos rfl, List.map_append, ← HF.out, said_getD, HX.out]; simp [sf]⟩
              case measure => simp [intOf]; omega
            · rintro e1 Wc ⟨f, rfl, sf, hf, hb⟩
              replace st := st.below hb
              replace kO0 := (hb.block _ (blk_lt kO0)).trans kO0
              have hbc := hb
              replace B2 := Rw.next B2 hb
              have sC := hb.size
              refine ⟨_, rfl, st, fun hHeld => ?_⟩
              simp only [Act.put, List.setIfInBounds_toArray, List.set_cons_zero, List.set_cons_succ]
              refine wpAnyH_ready (rs := [1, 4]) (by kernel_rfl) (by simp) (Yh.readyRun (i := 1) rfl (by kernel_rfl) (some 55) (by kernel_rfl) (v := v) (w' := Wc) (by obtain ⟨o0, o1⟩ := Pm.two kO0; go_simp) st (fun hHeld => ?_) (Yh.readyRun (i := 4) rfl (by kernel_rfl) (some 58) (by kernel_rfl) (v := .slice (some ⟨Wc.heap.size, 0, none⟩) 1 1) (w' := Wc.alloc (.cells f.vals 41)) (exec_one rfl (by kernel_rfl)) (st.below (below_alloc1 _ _)) (fun hHeld => ?_) AllReadyH.nil))
              · simp only [Act.put, List.setIfInBounds_toArray, List.set_cons_zero, List.set_cons_succ]
                refine wpAnyH_ready (rs := [4]) (by kernel_rfl) (by simp) (Yh.readyRun (i := 4) rfl (by kernel_rfl) (some 58) (by kernel_rfl) (v := .slice (some ⟨Wc.heap.size, 0, none⟩) 1 1) (w' := Wc.alloc (.cells f.vals 41)) (exec_one rfl (by kernel_rfl)) (st.below (below_alloc1 _ _)) (fun hHeld => ?_) AllReadyH.nil)
                simp only [Act.put, List.setIfInBounds_toArray, List.set_cons_zero, List.set_cons_succ]
                obtain ⟨Wd, hWd⟩ : ∃ Wd, Wd = Wc.alloc (.cells f.vals 41) := ⟨_, rfl⟩
                rw [← hWd] at hHeld ⊢
                have hT : Wd.heap[Wc.heap.size]? = some (.cells f.vals 41 (0, 0)) := by subst hWd; exact at_new rfl
                have hb : Below Wc.heap.size Wc Wd := by subst hWd; exact below_alloc1 _ _
                replace st := st.below hb
                replace kO0 := (hb.block _ (blk_lt kO0)).trans kO0
                replace B2 := Rw.next B2 hb
                have hf2 := hf.below hb
                have hbd := Rw.next hbc hb
                clear hb hWd
                obtain ⟨v', Z, hrun, hotZ, hgr⟩ := hot0.app 36 (c := 1) hbd hf2 (Nat.le_refl _) (by omega) hT hFl
                refine wpAnyH_ready (rs := [5]) (by kernel_rfl) (by simp) (Yh.readyRun (i := 5) rfl (by kernel_rfl) (some 59) (by kernel_rfl) (exec_app (.tmp 55) (.tmp 58) rfl (by kernel_rfl) (by kernel_rfl) hrun) (st.grown hgr) (fun hHeld => ?_) AllReadyH.nil)
                simp only [Act.put, List.setIfInBounds_toArray, List.set_cons_zero, List.set_cons_succ]
                replace st := st.grown hgr
                obtain ⟨va, vn, vc, hv⟩ := hotZ.slice
                subst hv
                have kOZ := (hgr.block _ (blk_lt kO0) (fun e => by have := (hot0.row_lt e.symm).1; omega)).trans kO0
                replace B2 := B2.grown hgr B2.size (fun k hk => by have := (hot0.row_lt hk).1; omega)
                obtain ⟨o0, o1⟩ := Pm.two kOZ
                have fO := Bl.free kOZ
                refine Pq.take (i := 6) (d := some 60) (v := .pointer (some ⟨ob, 1, none⟩)) rfl (by kernel_rfl) (by kernel_rfl) (by kernel_rfl) (by kernel_rfl) (fun _ _ _ h => h) (Or.inl ⟨by rfl, by intro w hSw; go_simp⟩) hHeld ?_
                simp only [Act.put, List.setIfInBounds_toArray, List.set_cons_zero, List.set_cons_succ]
                refine wpAnyH_ready (rs := [7]) (by kernel_rfl) (by simp) (Yh.readySkip (i := 7) rfl (by kernel_rfl) none (by kernel_rfl) (w' := Z.setCell ⟨ob, 1, none⟩ (.slice va vn vc)) (by go_simp) st.set (fun hHeld => ?_) AllReadyH.nil)
                simp only [Act.put, List.setIfInBounds_toArray, List.set_cons_zero, List.set_cons_succ]
                refine wpAnyH_done (by kernel_rfl) ?_ _
                have kO' : (Z.setCell ⟨ob, 1, none⟩ (.slice va vn vc)).heap[ob]? = some (.cells #[.int .i64 q, (.slice va vn vc)] 38 (0, 0)) := blk_same kOZ
                have B1' : Below w.heap.size w (Z.setCell ⟨ob, 1, none⟩ (.slice va vn vc)) := Pm.bset B2 hwo
                have hot' : OT (Z.setCell ⟨ob, 1, none⟩ (.slice va vn vc)) B (.slice va vn vc) (F ++ [f]) := hotZ.keep fun x _ hx => blk_other rfl (by omega)
                replace st : Stab wr (ob) v (Z.setCell ⟨ob, 1, none⟩ (.slice va vn vc)) := st.set
                have st0 := st
                go_wp2
                go_roundw
                case rel => exact ⟨i + 1, .slice va vn vc, F ++ [f], by omega, by go_num, B1', (st0.block _ (by omega) (by omega) (fun e => by have := (hot.row_lt e.symm).1; omega)).trans kT, (st0.block _ (by omega) (by omega) (fun e => by have := (hot.row_lt e.symm).1; omega)).trans kM, (st0.block _ (by omega) (by omega) (fun e => by have := (hot.row_lt e.symm).1; omega)).trans kR, kO', hot', by have := st0.size; omega, by simp only [sel]; rw [HP.out, if_pos rfl, List.map_append, ← HF.out, said_getD, HX.out]; simp [sf]⟩
                case measure => simp [intOf]; omega
              · simp only [Act.put, List.setIfInBounds_toArray, List.set_cons_zero, List.set_cons_succ]
                obtain ⟨Wd, hWd⟩ : ∃ Wd, Wd = Wc.alloc (.cells f.vals 41) := ⟨_, rfl⟩
                rw [← hWd] at hHeld ⊢
                have hT : Wd.heap[Wc.heap.size]? = some (.cells f.vals 41 (0, 0)) := by subst hWd; exact at_new rfl
                have hb : Below Wc.heap.size Wc Wd := by subst hWd; exact below_alloc1 _ _
                replace st := st.below hb
                replace kO0 := (hb.block _ (blk_lt kO0)).trans kO0
                replace B2 := Rw.next B2 hb
                have hf2 := hf.below hb
                have hbd := Rw.next hbc hb
                clear hb hWd
                refine wpAnyH_ready (rs := [1]) (by kernel_rfl) (by simp) (Yh.readyRun (i := 1) rfl (by kernel_rfl) (some 55) (by kernel_rfl) (v := v) (w' := Wd) (by obtain ⟨o0, o1⟩ := Pm.two kO0; go_simp) st (fun hHeld => ?_) AllReadyH.nil)
                simp only [Act.put, List.setIfInBounds_toArray, List.set_cons_zero, List.set_cons_succ]
                obtain ⟨v', Z, hrun, hotZ, hgr⟩ := hot0.app 36 (c := 1) hbd hf2 (Nat.le_refl _) (by omega) hT hFl
                refine wpAnyH_ready (rs := [5]) (by kernel_rfl) (by simp) (Yh.readyRun (i := 5) rfl (by kernel_rfl) (some 59) (by kernel_rfl) (exec_app (.tmp 55) (.tmp 58) rfl (by kernel_rfl) (by kernel_rfl) hrun) (st.grown hgr) (fun hHeld => ?_) AllReadyH.nil)
                simp only [Act.put, List.setIfInBounds_toArray, List.set_cons_zero, List.set_cons_succ]
                replace st := st.grown hgr
                obtain ⟨va, vn, vc, hv⟩ := hotZ.slice
                subst hv
                have kOZ := (hgr.block _ (blk_lt kO0) (fun e => by have := (hot0.row_lt e.symm).1; omega)).trans kO0
                replace B2 := B2.grown hgr B2.size (fun k hk => by have := (hot0.row_lt hk).1; omega)
                obtain ⟨o0, o1⟩ := Pm.two kOZ
                have fO := Bl.free kOZ
                refine Pq.take (i := 6) (d := some 60) (v := .pointer (some ⟨ob, 1, none⟩)) rfl (by kernel_rfl) (by kernel_rfl) (by kernel_rfl) (by kernel_rfl) (fun _ _ _ h => h) (Or.inl ⟨by rfl, by intro w hSw; go_simp⟩) hHeld ?_
                simp only [Act.put, List.setIfInBounds_toArray, List.set_cons_zero, List.set_cons_succ]
                refine wpAnyH_ready (rs := [7]) (by kernel_rfl) (by simp) (Yh.readySkip (i := 7) rfl (by kernel_rfl) none (by kernel_rfl) (w' := Z.setCell ⟨ob, 1, none⟩ (.slice va vn vc)) (by go_simp) st.set (fun hHeld => ?_) AllReadyH.nil)
                simp only [Act.put, List.setIfInBounds_toArray, List.set_cons_zero, List.set_cons_succ]
                refine wpAnyH_done (by kernel_rfl) ?_ _
                have kO' : (Z.setCell ⟨ob, 1, none⟩ (.slice va vn vc)).heap[ob]? = some (.cells #[.int .i64 q, (.slice va vn vc)] 38 (0, 0)) := blk_same kOZ
                have B1' : Below w.heap.size w (Z.setCell ⟨ob, 1, none⟩ (.slice va vn vc)) := Pm.bset B2 hwo
                have hot' : OT (Z.setCell ⟨ob, 1, none⟩ (.slice va vn vc)) B (.slice va vn vc) (F ++ [f]) := hotZ.keep fun x _ hx => blk_other rfl (by omega)
                replace st : Stab wr (ob) v (Z.setCell ⟨ob, 1, none⟩ (.slice va vn vc)) := st.set
                have st0 := st
                go_wp2
                go_roundw
                case rel => exact ⟨i + 1, .slice va vn vc, F ++ [f], by omega, by go_num, B1', (st0.block _ (by omega) (by omega) (fun e => by have := (hot.row_lt e.symm).1; omega)).trans kT, (st0.block _ (by omega) (by omega) (fun e => by have := (hot.row_lt e.symm).1; omega)).trans kM, (st0.block _ (by omega) (by omega) (fun e => by have := (hot.row_lt e.symm).1; omega)).trans kR, kO', hot', by have := st0.size; omega, by simp only [sel]; rw [HP.out, if_pos rfl, List.map_append, ← HF.out, said_getD, HX.out]; simp [sf]⟩
                case measure => simp [intOf]; omega
    · obtain rfl : i = n := by omega
      obtain ⟨aF, gF, cF, rfl, _, _⟩ := hot.form (by omega)
      have hlen : F.length = (sel p (Q.map Ent.said) i).length := by rw [← HF.out]; simp
      have hz : (i : Int) - (F.length : Int) = m := by rw [hlen]; exact HM.out.symm
      have hwm : IntKind.i64.wrap m = m := by rw [IntKind.wrap_i64]; omega
      clear hlen hc ho
      go_wp2
      refine wp_region_held_drew (S := (fun w' => w'.heap[w.heap.size]? = some (.cells #[.int .i64 q, .slice a i cap] 38 (0, 0)) ∧ w'.heap[ob]? = some (.cells #[.int .i64 q, .slice aF F.length cF] 38 (0, 0)))) (by kernel_rfl) ⟨kT, kO⟩ (fun hHeld => ?_)
      refine Pq.take (i := 0) (d := some 62) (v := .agg #[.int .i64 q, .slice aF F.length cF]) rfl (by kernel_rfl) (by kernel_rfl) (by kernel_rfl) (by kernel_rfl) (fun _ _ _ h => h) (Or.inl ⟨by rfl, by intro w hSw; obtain ⟨z0, z1⟩ := hSw; obtain ⟨s0, s1⟩ := Pm.two z0; obtain ⟨s2, s3⟩ := Pm.two z1; go_simp⟩) hHeld ?_
      simp only [Act.put, List.setIfInBounds_toArray, List.set_cons_zero, List.set_cons_succ]
      refine Pq.take (i := 1) (d := some 63) (v := .pointer (some ⟨w.heap.size, 1, none⟩)) rfl (by kernel_rfl) (by kernel_rfl) (by kernel_rfl) (by kernel_rfl) (fun _ _ _ h => h) (Or.inl ⟨by rfl, by intro w hSw; go_simp⟩) hHeld ?_
      simp only [Act.put, List.setIfInBounds_toArray, List.set_cons_zero, List.set_cons_succ]
      refine Pq.take (i := 2) (d := some 64) (v := .slice a i cap) rfl (by kernel_rfl) (by kernel_rfl) (by kernel_rfl) (by kernel_rfl) (fun _ _ _ h => h) (Or.inl ⟨by rfl, by intro w hSw; obtain ⟨z0, z1⟩ := hSw; obtain ⟨s0, s1⟩ := Pm.two z0; obtain ⟨s2, s3⟩ := Pm.two z1; go_simp⟩) hHeld ?_
      simp only [Act.put, List.setIfInBounds_toArray, List.set_cons_zero, List.set_cons_succ]
      refine Pq.take (i := 3) (d := some 65) (v := .int .i64 i) rfl (by kernel_rfl) (by kernel_rfl) (by kernel_rfl) (by kernel_rfl) (fun _ _ _ h => h) (Or.inl ⟨by rfl, by intro w hSw; go_simp⟩) hHeld ?_
      simp only [Act.put, List.setIfInBounds_toArray, List.set_cons_zero, List.set_cons_succ]
      refine Pq.take (i := 4) (d := some 66) (v := .pointer (some ⟨ob, 1, none⟩)) rfl (by kernel_rfl) (by kernel_rfl) (by kernel_rfl) (by kernel_rfl) (fun _ _ _ h => h) (Or.inl ⟨by rfl, by intro w hSw; go_simp⟩) hHeld ?_
      simp only [Act.put, List.setIfInBounds_toArray, List.set_cons_zero, List.set_cons_succ]
      refine Pq.take (i := 5) (d := some 67) (v := .slice aF F.length cF) rfl (by kernel_rfl) (by kernel_rfl) (by kernel_rfl) (by kernel_rfl) (fun _ _ _ h => h) (Or.inl ⟨by rfl, by intro w hSw; obtain ⟨z0, z1⟩ := hSw; obtain ⟨s0, s1⟩ := Pm.two z0; obtain ⟨s2, s3⟩ := Pm.two z1; go_simp⟩) hHeld ?_
      simp only [Act.put, List.setIfInBounds_toArray, List.set_cons_zero, List.set_cons_succ]
      refine Pq.take (i := 6) (d := some 68) (v := .int .i64 F.length) rfl (by kernel_rfl) (by kernel_rfl) (by kernel_rfl) (by kernel_rfl) (fun _ _ _ h => h) (Or.inl ⟨by rfl, by intro w hSw; go_simp⟩) hHeld ?_
      simp only [Act.put, List.setIfInBounds_toArray, List.set_cons_zero, List.set_cons_succ]
      refine Pq.take (i := 7) (d := some 69) (v := .int .i64 m) rfl (by kernel_rfl) (by kernel_rfl) (by kernel_rfl) (by kernel_rfl) (fun _ _ _ h => h) (Or.inl ⟨by rfl, by intro w hSw; go_simp⟩) hHeld ?_
      simp only [Act.put, List.setIfInBounds_toArray, List.set_cons_zero, List.set_cons_succ]
      obtain ⟨r0, r1⟩ := Pm.two kR
      have fR := Bl.free kR
      refine wpAnyH_ready (rs := [8]) (by kernel_rfl) (by simp) (Yh.readySkip (i := 8) rfl (by kernel_rfl) none (by kernel_rfl) (w' := (wr.drew.setCell ⟨w.heap.size + 1 + 1, 0, none⟩ (.int .i64 q)).setCell ⟨w.heap.size + 1 + 1, 1, none⟩ (.slice aF F.length cF)) (by go_simp) ⟨blk_other (blk_other kT (by omega)) (by omega), blk_other (blk_other kO (by omega)) (by omega)⟩ (fun hHeld => ?_) AllReadyH.nil)
      simp only [Act.put, List.setIfInBounds_toArray, List.set_cons_zero, List.set_cons_succ]
      refine Pq.take (i := 9) (d := some 9) (v := .int .i64 m) rfl (by kernel_rfl) (by kernel_rfl) (by kernel_rfl) (by kernel_rfl) (fun _ _ _ h => h) (Or.inl ⟨by rfl, by intro w hSw; go_simp⟩) hHeld ?_
      simp only [Act.put, List.setIfInBounds_toArray, List.set_cons_zero, List.set_cons_succ]
      refine wpAnyH_done (by kernel_rfl) ?_ _
      go_wp2
      have y0 : (wr.setCell ⟨w.heap.size + 1 + 1, 0, none⟩ (.int .i64 q)).cell? ⟨w.heap.size + 1 + 1, 0, none⟩ = some (.int .i64 q) := (Pm.two (blk_same kR)).1
      have y1 : ((wr.setCell ⟨w.heap.size + 1 + 1, 0, none⟩ (.int .i64 q)).setCell ⟨w.heap.size + 1 + 1, 1, none⟩ (.slice aF F.length cF)).cell? ⟨w.heap.size + 1 + 1, 1, none⟩ = some (.slice aF F.length cF) := (Pm.two (blk_same (blk_same kR))).2
      exact bodyPost_ret (v := .tuple #[.agg #[.int .i64 q, .slice aF F.length cF], .int .i64 m]) (by simp [results, Try.results47, go_sem, y0, y1]) rfl ⟨_, F, rfl, ((hot.below ((Below.refl _ _).drew)).keep (fun x _ hx => blk_other (blk_other rfl (by omega)) (by omega))).mono (by omega), HF.out, Pm.bset (Pm.bset (Rw.next B1 ((Below.refl _ _).drew)) (by omega)) (by omega)⟩

end Go.Proofs.Ytcbgnfjnjfaacaa.Cp
