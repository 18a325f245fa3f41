/-
  Contracts laid together (Cv, Cw).
-/
import Derived.Test.YtcbgnfjnjfaacaaQi
namespace Go.Proofs.Ytcbgnfjnjfaacaa.Cp
set_option maxRecDepth 8000
set_option linter.unusedSimpArgs false
set_option linter.unusedVariables false
open Go Go.RowKit
open Num Pl Ea Em Ka

/-- What TableKeep answers. -/
def KeepA (q : Int) (L : List En) (ep : Int) (q' : Int) (L' : List En) (m : Int) : Prop :=
  (TabP q L ∧ q' = q ∧ L' = sel (fun k => decide ((L.getD k x0).1 = ep)) L L.length ∧ m = (L.length : Int) - (L'.length : Int)) ∨ (¬ TabP q L ∧ q' = 0 ∧ L' = [] ∧ m = -1)
theorem keep_some (q : Int) (L : List En) (ep : Int) : ∃ q' L' m, KeepA q L ep q' L' m := by
  rcases Classical.em (TabP q L) with h | h
  · exact ⟨_, _, _, .inl ⟨h, rfl, rfl, rfl⟩⟩
  · exact ⟨_, _, _, .inr ⟨h, rfl, rfl, rfl⟩⟩
theorem tab_len {q : Int} {Q : List Ent} (t : TabP q (Q.map Ent.said)) : Q.length ≤ 400 := by
  have t1 := t.len
  have t2 := t.q1
  simp only [List.length_map] at t1
  omega

theorem keep_len {q : Int} {L : List En} {ep : Int} {q' : Int} {L' : List En} {m : Int} (h : KeepA q L ep q' L' m) : L'.length ≤ 400 := by
  rcases h with ⟨t, _, rfl, _⟩ | ⟨_, _, rfl, _⟩
  · have := sel_len (fun k => decide ((L.getD k x0).1 = ep)) L L.length
    have := t.len
    have := t.q1
    omega
  · simp

theorem tell90 (g0 : Nat) (x : Ent) (ep : Int) (w : World) (h0 : w.cell? ⟨g0, 0, none⟩ = some (.int .i64 ep)) :
    Calls Try.prog 90 #[.agg #[.int .i64 x.ep, .int .i64 x.pr, .slice x.aV x.V.length x.cV, .slice x.aM x.M.length x.cM, .slice x.aA x.A.length x.cA, .int .i64 x.h], .pointer (some ⟨g0, 0, none⟩)] w fun e w' => e = .returned (.bool (decide (x.ep = ep))) ∧ Below w.heap.size w w' := by
  have B1 := below_alloc1 w (.cells #[.int .i64 x.ep, .int .i64 x.pr, .slice x.aV x.V.length x.cV, .slice x.aM x.M.length x.cM, .slice x.aA x.A.length x.cA, .int .i64 x.h] 41)
  have q0 := (B1.cell (World.block_lt_of_cell? _ _ h0)).trans h0
  by_cases he : x.ep = ep
  · have he' : (x.ep == ep) = true := by simp [he]
    rw [decide_eq_true he]
    clear he
    go_enter Try.func90, Try.ntmps90
    go_wp2
    go_ret
    exact ⟨ret_bool (by simp), B1⟩
  · have he' : (x.ep == ep) = false := by simpa using he
    rw [decide_eq_false he]
    go_enter Try.func90, Try.ntmps90
    go_wp2
    go_ret
    exact ⟨ret_bool (by simp), B1⟩

set_option maxHeartbeats 4000000 in
theorem keepI (q ep : Int) (a : Option Addr) (b off cap : Nat) (Q : List Ent) (w : World) (h : Rd w a b off Q) (q' : Int) (L' : List En) (m : Int) (hr : KeepA q (Q.map Ent.said) ep q' L' m) :
    Calls Try.prog 25 #[.agg #[.int .i64 q, .slice a Q.length cap], .int .i64 ep] w (ResT w q' L' m) := by
  obtain ⟨W1, hW1⟩ : ∃ W1, W1 = ((w.alloc (.cells #[.int .i64 q, .slice a Q.length cap] 38)).alloc (.cells #[.int .i64 ep] 3)).alloc (.cells #[.int .i64 0, .slice none 0 0] 38) := ⟨_, rfl⟩
  have B1 : Below w.heap.size w W1 := by subst hW1; exact Rw.next (Rw.next (below_alloc1 _ _) (below_alloc1 _ _)) (below_alloc1 _ _)
  have k0 : W1.heap[w.heap.size]? = some (.cells #[.int .i64 q, .slice a Q.length cap] 38 (0, 0)) := by subst hW1; rw [at_old (by simp <;> omega), at_old (by simp), at_new rfl]
  have k1 : W1.heap[w.heap.size + 1]? = some (.cells #[.int .i64 ep] 3 (0, 0)) := by subst hW1; rw [at_old (by simp), at_new (by simp)]
  have k2 : W1.heap[w.heap.size + 1 + 1]? = some (.cells #[.int .i64 0, .slice none 0 0] 38 (0, 0)) := by subst hW1; exact at_new (by simp)
  replace h := h.below B1
  obtain ⟨R, hR⟩ := em_bool (TabP q (Q.map Ent.said))
  have ht := fun W hW => tabI q a b off cap Q W hW R hR
  cases R
  · rcases hr with ⟨h1, _⟩ | ⟨_, rfl, rfl, rfl⟩
    · exact absurd (hR.2 h1) (by decide)
    · go_enter Try.func25, Try.ntmps25
      go_wp2_with (go_at_call 26; rw [← hW1]; clear hW1; refine (ht _ h).mono ?_; rintro x wa ⟨rfl, hb⟩; replace k2 := (hb.block _ (blk_lt k2)).trans k2; replace B1 := Rw.next B1 hb; clear hb; obtain ⟨r0, r1⟩ := Pm.two k2; have fR := Bl.free k2)
      refine bodyPost_ret (v := .tuple #[.agg #[.int .i64 0, .slice none 0 0], .int .i64 (-1)]) (by simp [results, Try.results25, go_sem, r0, r1]) rfl ⟨_, [], rfl, OT.nil _ _, rfl, ?_⟩
      repeat (first | with_reducible exact B1 | refine Pm.bset ?_ (by omega))
  rcases hr with ⟨ht1, rfl, rfl, hm⟩ | ⟨h1, _⟩
  rotate_left
  · exact absurd (hR.1 rfl) h1
  have h4 := tab_len ht1
  simp only [List.length_map] at hm
  simp only [List.length_map]
  have HMi : Hid (m = (Q.length : Int) - ((sel (fun k => decide (((Q.map Ent.said).getD k x0).1 = ep)) (Q.map Ent.said) Q.length).length : Int)) := hm
  clear hR ht1 hm
  go_enter Try.func25, Try.ntmps25
  go_wp2_with (first
    | (go_at_call 26; rw [← hW1]; clear hW1; refine (ht _ h).mono ?_; rintro x wa ⟨rfl, hb⟩; replace k0 := (hb.block _ (blk_lt k0)).trans k0; replace k1 := (hb.block _ (blk_lt k1)).trans k1; replace k2 := (hb.block _ (blk_lt k2)).trans k2; replace h := h.below hb; replace B1 := Rw.next B1 hb; clear hb ht; obtain ⟨p0, p1⟩ := Pm.two k0; have e1 := Hh.one k1)
    | (go_at_call 86; refine (sieve90 q' _ _ _ _ _ Q (fun k => decide (((Q.map Ent.said).getD k x0).1 = ep)) _ h h4 (fun k hk W hW => by have := tell90 (w.heap.size + 1) (Q.getD k e0) ep W ((hW.cell (World.block_lt_of_cell? _ _ e1)).trans e1); simp only [said_getD]; exact this) m HMi.out).mono ?_; rintro x wb ⟨v, F, rfl, hot, hF, hb⟩; have lo := blk_lt k2; replace k2 := (hb.block _ (blk_lt k2)).trans k2; obtain ⟨va, vn, vc, rfl⟩ := hot.slice; obtain ⟨r0, r1⟩ := Pm.two k2; have fR := Bl.free k2))
  refine bodyPost_ret (v := .tuple #[.agg #[.int .i64 q', .slice va vn vc], .int .i64 m]) (by simp [results, Try.results25, go_sem, r0, r1]) rfl ⟨_, F, rfl, (hot.keep (fun x _ hx => ?_)).mono (by omega), hF, ?_⟩
  · exact blk_other (blk_other rfl (by omega)) (by omega)
  · exact Pm.bset (Pm.bset (Rw.next B1 hb) (by omega)) (by omega)

set_option maxHeartbeats 16000000 in
theorem keepS (q ep : Int) (a : Option Addr) (b off cap : Nat) (Q : List Ent) (w : World) (h : Rd w a b off Q) (q' : Int) (L' : List En) (m : Int) (hr : KeepA q (Q.map Ent.said) ep q' L' m) :
    Calls Try.prog 45 #[.agg #[.int .i64 q, .slice a Q.length cap], .int .i64 ep] w (ResT w q' L' m) := by
  have HD := h
  obtain ⟨W1, hW1⟩ : ∃ W1, W1 = (w.alloc (.cells #[.int .i64 q, .slice a Q.length cap] 38)).alloc (.cells #[.int .i64 0, .slice none 0 0] 38) := ⟨_, rfl⟩
  have B1 : Below w.heap.size w W1 := by subst hW1; exact Rw.next (below_alloc1 _ _) (below_alloc1 _ _)
  have kT : W1.heap[w.heap.size]? = some (.cells #[.int .i64 q, .slice a Q.length cap] 38 (0, 0)) := by subst hW1; rw [at_old (by simp), at_new rfl]
  have kR : W1.heap[w.heap.size + 1]? = some (.cells #[.int .i64 0, .slice none 0 0] 38 (0, 0)) := by subst hW1; exact at_new (by simp)
  replace h := h.below B1
  obtain ⟨R, hR⟩ := em_bool (TabP q (Q.map Ent.said))
  have ht := fun W hW => tabS q a b off cap Q W hW R hR
  cases R
  · rcases hr with ⟨h1, _⟩ | ⟨_, rfl, rfl, rfl⟩
    · exact absurd (hR.2 h1) (by decide)
    · go_enter Try.func45, Try.ntmps45
      go_wp2_with (go_at_call 39; rw [← hW1]; clear hW1; refine (ht _ h).mono ?_; rintro x wa ⟨rfl, hb⟩; replace kR := (hb.block _ (blk_lt kR)).trans kR; replace B1 := Rw.next B1 hb; clear hb; obtain ⟨r0, r1⟩ := Pm.two kR; have fR := Bl.free kR)
      refine bodyPost_ret (v := .tuple #[.agg #[.int .i64 0, .slice none 0 0], .int .i64 (-1)]) (by simp [results, Try.results45, go_sem, r0, r1]) rfl ⟨_, [], rfl, OT.nil _ _, rfl, ?_⟩
      repeat (first | with_reducible exact B1 | refine Pm.bset ?_ (by omega))
  rcases hr with ⟨ht1, hqq, rfl, hm⟩ | ⟨h1, _⟩
  rotate_left
  · exact absurd (hR.1 rfl) h1
  subst hqq
  have h4 := tab_len ht1
  simp only [List.length_map] at hm
  simp only [List.length_map]
  clear hR ht1
  obtain ⟨p, hp⟩ : ∃ p : Nat → Bool, p = (fun k => decide (((Q.map Ent.said).getD k x0).1 = ep)) := ⟨_, rfl⟩
  rw [← hp] at hm ⊢
  have HPd : Hid (∀ k, p k = decide ((Q.getD k e0).ep = ep)) := fun k => by rw [hp]; simp only [said_getD]; rfl
  clear hp
  obtain ⟨q, hqe⟩ : ∃ q, q = q' := ⟨_, rfl⟩
  subst hqe
  obtain ⟨n, hn⟩ : ∃ n, n = Q.length := ⟨_, rfl⟩
  rw [← hn] at hW1 kT ht h4 hm ⊢
  have HN : Hid (n = Q.length) := hn
  have HM : Hid (m = (n : Int) - ((sel p (Q.map Ent.said) n).length : Int)) := hm
  clear hn hm
  go_enter Try.func45, Try.ntmps45
  go_wp2_with (go_at_call 39; rw [← hW1]; clear hW1; refine (ht _ h).mono ?_; rintro x wa ⟨rfl, hb⟩; replace kT := (hb.block _ (blk_lt kT)).trans kT; replace kR := (hb.block _ (blk_lt kR)).trans kR; replace B1 := Rw.next B1 hb; clear hb ht h; obtain ⟨p0, p1⟩ := Pm.two kT; have lT := blk_lt kT)
  obtain ⟨ob, hob⟩ : ∃ ob, ob = wa.heap.size := ⟨_, rfl⟩
  have lob : w.heap.size + 1 < ob := by rw [hob]; exact blk_lt kR
  obtain ⟨W2, hW2⟩ : ∃ W2, W2 = wa.alloc (.cells #[.int .i64 q, .slice none 0 0] 38) := ⟨_, rfl⟩
  have kO : W2.heap[ob]? = some (.cells #[.int .i64 q, .slice none 0 0] 38 (0, 0)) := by subst hW2; exact at_new hob
  have hb : Below wa.heap.size wa W2 := by subst hW2; exact below_alloc1 _ _
  replace kT := (hb.block _ (blk_lt kT)).trans kT
  replace kR := (hb.block _ (blk_lt kR)).trans kR
  replace B1 := Rw.next B1 hb
  clear hb p0 p1 lT
  obtain ⟨B, hB⟩ : ∃ B, B = ob + 1 := ⟨_, rfl⟩
  have zB : B ≤ W2.heap.size := by have := blk_lt kO; omega
  have hBo : ob < B := by omega
  have hwo : w.heap.size ≤ ob := by omega
  clear hB
  rw [← hW2]
  rw [← hob]
  clear hW2 hob
  obtain ⟨hh, hc, ho, hs⟩ := HD
  rw [← HN.out] at hh hc ho hs
  go_loopw [18] (fun u wr => ∃ (i : Nat) (v : Value) (F : List Ent), i ≤ n ∧ u = .int .i64 i ∧ Below w.heap.size w wr ∧ wr.heap[w.heap.size]? = some (.cells #[.int .i64 q, .slice a n cap] 38 (0, 0)) ∧ wr.heap[w.heap.size + 1]? = some (.cells #[.int .i64 0, .slice none 0 0] 38 (0, 0)) ∧ wr.heap[ob]? = some (.cells #[.int .i64 q, v] 38 (0, 0)) ∧ OT wr B v F ∧ B ≤ wr.heap.size ∧ F.map Ent.said = sel p (Q.map Ent.said) i) (fun u _ => n - (intOf u).toNat)
  case atStart => exact ⟨0, .slice none 0 0, [], Nat.zero_le _, rfl, B1, kT, kR, kO, OT.nil _ _, zB, rfl⟩
  case round =>
    clear B1 kT kR kO zB
    obtain ⟨i, v, F, hi, rfl, B1, kT, kR, kO, hot, hBs, hF⟩ := hrel
    have HF : Hid (F.map Ent.said = sel p (Q.map Ent.said) i) := hF
    have hFl : F.length ≤ 100000 := by
      have e1 := congrArg List.length hF
      have e2 := sel_len p (Q.map Ent.said) i
      simp only [List.length_map] at e1
      omega
    clear hF
    by_cases hlt : i < n
    · obtain rfl := hh (by omega)
      have hnz : (i : Int) < (n : Int) := by omega
      have lb : b < w.heap.size := At6.lt (hc i hlt)
      obtain ⟨c0, c1, c2, c3, c4, c5⟩ := ((hc i hlt).of B1 lb).six
      have ok := (ho i hlt).of B1 (Nat.le_refl _)
      obtain ⟨x, hx⟩ : ∃ x, x = Q.getD i e0 := ⟨_, rfl⟩
      have hpx := HPd.out i
      rw [← hx] at c0 c1 c2 c3 c4 c5 ok hpx
      have HX : Hid (Q.getD i e0 = x) := hx.symm
      clear hx hc ho hh
      obtain ⟨p0, p1⟩ := Pm.two kT
      have sT := blk_lt kT
      have sR := blk_lt kR
      by_cases he : x.ep = ep
      · have he' : (x.ep == ep) = true := by simp [he]
        have HP : Hid (p i = true) := by rw [hpx]; exact decide_eq_true he
        clear hpx he
        go_wp2
        have hcp := fun W (ok : Ent.Ok W x) => copyS x W ok
        simp only [ent_vals x] at hcp
        have hSt : ∀ w', Stab wr ob v w' → w'.cell? ⟨w.heap.size, 0, none⟩ = some (.int .i64 q) ∧ w'.cell? ⟨w.heap.size, 1, none⟩ = some (.slice (some ⟨b, off, none⟩) n cap) ∧ w'.cell? ⟨b, off + i * 6, none⟩ = some (.int .i64 x.ep) ∧ w'.cell? ⟨b, off + i * 6 + 1, none⟩ = some (.int .i64 x.pr) ∧ w'.cell? ⟨b, off + i * 6 + 2, none⟩ = some (.slice x.aV x.V.length x.cV) ∧ w'.cell? ⟨b, off + i * 6 + 3, none⟩ = some (.slice x.aM x.M.length x.cM) ∧ w'.cell? ⟨b, off + i * 6 + 4, none⟩ = some (.slice x.aA x.A.length x.cA) ∧ w'.cell? ⟨b, off + i * 6 + 5, none⟩ = some (.int .i64 x.h) := by
          intro w' hst
          have hkb := hst.block b (by omega) (by omega) (fun e => by have := (hot.row_lt e.symm).1; omega)
          have hcb : ∀ j, w'.cell? ⟨b, j, none⟩ = wr.cell? ⟨b, j, none⟩ := fun j => by simp only [World.cell?, hkb]
          have hkt := Pm.two ((hst.block w.heap.size sT (by omega) (fun e => by have := (hot.row_lt e.symm).1; omega)).trans kT)
          exact ⟨hkt.1, hkt.2, (hcb _).trans c0, (hcb _).trans c1, (hcb _).trans c2, (hcb _).trans c3, (hcb _).trans c4, (hcb _).trans c5⟩
        clear c0 c1 c2 c3 c4 c5 p0 p1
        refine wp_region_held_drew (S := Stab wr (ob) v) (by kernel_rfl) (Stab.refl _ _ _) (fun hHeld => ?_)
        refine Pq.take (i := 0) (d := some 29) (v := .pointer (some ⟨ob, 1, none⟩)) rfl (by kernel_rfl) (by kernel_rfl) (by kernel_rfl) (by kernel_rfl) (fun _ _ _ h => h) (Or.inl ⟨by rfl, by intro w hSw; go_simp⟩) hHeld ?_
        simp only [Act.put, List.setIfInBounds_toArray, List.set_cons_zero, List.set_cons_succ]
        refine Pq.take (i := 2) (d := some 31) (v := .pointer (some ⟨w.heap.size, 1, none⟩)) rfl (by kernel_rfl) (by kernel_rfl) (by kernel_rfl) (by kernel_rfl) (fun _ _ _ h => h) (Or.inl ⟨by rfl, by intro w hSw; go_simp⟩) hHeld ?_
        simp only [Act.put, List.setIfInBounds_toArray, List.set_cons_zero, List.set_cons_succ]
        refine Pq.take (i := 3) (d := some 32) (v := .slice (some ⟨b, off, none⟩) n cap) rfl (by kernel_rfl) (by kernel_rfl) (by kernel_rfl) (by kernel_rfl) (fun _ _ _ h => h) (Or.inl ⟨by rfl, by intro w hSw; obtain ⟨u0, u1, s0, s1, s2, s3, s4, s5⟩ := hSt w hSw; go_simp⟩) hHeld ?_
        simp only [Act.put, List.setIfInBounds_toArray, List.set_cons_zero, List.set_cons_succ]
        refine Pq.take (i := 4) (d := some 33) (v := .int .i64 i) rfl (by kernel_rfl) (by kernel_rfl) (by kernel_rfl) (by kernel_rfl) (fun _ _ _ h => h) (Or.inl ⟨by rfl, by intro w hSw; go_simp⟩) hHeld ?_
        simp only [Act.put, List.setIfInBounds_toArray, List.set_cons_zero, List.set_cons_succ]
        refine Pq.take (i := 5) (d := some 34) (v := .pointer (some ⟨b, off + i * 6, none⟩)) rfl (by kernel_rfl) (by kernel_rfl) (by kernel_rfl) (by kernel_rfl) (fun _ _ _ h => h) (Or.inl ⟨by rfl, by intro w hSw; go_simp⟩) hHeld ?_
        simp only [Act.put, List.setIfInBounds_toArray, List.set_cons_zero, List.set_cons_succ]
        refine Pq.take (i := 6) (d := some 35) (v := .agg #[.int .i64 x.ep, .int .i64 x.pr, .slice x.aV x.V.length x.cV, .slice x.aM x.M.length x.cM, .slice x.aA x.A.length x.cA, .int .i64 x.h]) rfl (by kernel_rfl) (by kernel_rfl) (by kernel_rfl) (by kernel_rfl) (fun _ _ _ h => h) (Or.inl ⟨by rfl, by intro w hSw; obtain ⟨u0, u1, s0, s1, s2, s3, s4, s5⟩ := hSt w hSw; go_simp⟩) hHeld ?_
        simp only [Act.put, List.setIfInBounds_toArray, List.set_cons_zero, List.set_cons_succ]
        have st : Stab wr (ob) v wr.drew := Stab.refl _ _ _
        have hot0 : OT wr.drew B v F := hot.below ((Below.refl _ _).drew)
        have kO0 : wr.drew.heap[ob]? = some (.cells #[.int .i64 q, v] 38 (0, 0)) := kO
        have ok0 := ok.below ((Below.refl wr.heap.size wr).drew)
        have B2 := Rw.next B1 ((Below.refl wr.heap.size wr).drew)
        have sW : wr.drew.heap.size = wr.heap.size := rfl
        generalize wr.drew = W at *
        refine wpAnyH_ready (rs := [1, 7]) (by kernel_rfl) (by simp) (Yh.readyRun (i := 1) rfl (by kernel_rfl) (some 30) (by kernel_rfl) (v := v) (w' := W) (by obtain ⟨o0, o1⟩ := Pm.two kO0; go_simp) st (fun hHeld => ?_) (Rg.call1 (i := 7) rfl (by rfl) 83 (.tmp 35) 41 (by kernel_rfl) 36 (by kernel_rfl) (.agg #[.int .i64 x.ep, .int .i64 x.pr, .slice x.aV x.V.length x.cV, .slice x.aM x.M.length x.cM, .slice x.aA x.A.length x.cA, .int .i64 x.h]) (by kernel_rfl) (fun _ => rfl) (hcp _ ok0) ?_ AllReadyH.nil))
        · simp only [Act.put, List.setIfInBounds_toArray, List.set_cons_zero, List.set_cons_succ]
          refine wpAnyH_ready (rs := [7]) (by kernel_rfl) (by simp) (Rg.call1 (i := 7) rfl (by rfl) 83 (.tmp 35) 41 (by kernel_rfl) 36 (by kernel_rfl) (.agg #[.int .i64 x.ep, .int .i64 x.pr, .slice x.aV x.V.length x.cV, .slice x.aM x.M.length x.cM, .slice x.aA x.A.length x.cA, .int .i64 x.h]) (by kernel_rfl) (fun _ => rfl) (hcp _ ok0) ?_ AllReadyH.nil)
          rintro e1 Wc ⟨f, rfl, sf, hf, hb⟩
          replace st := st.below hb
          replace kO0 := (hb.block _ (blk_lt kO0)).trans kO0
          have hbc := hb
          replace B2 := Rw.next B2 hb
          have sC := hb.size
          refine ⟨_, rfl, st, fun hHeld => ?_⟩
          simp only [Act.put, List.setIfInBounds_toArray, List.set_cons_zero, List.set_cons_succ]
          refine wpAnyH_ready (rs := [8]) (by kernel_rfl) (by simp) (Yh.readyRun (i := 8) rfl (by kernel_rfl) (some 37) (by kernel_rfl) (v := .slice (some ⟨Wc.heap.size, 0, none⟩) 1 1) (w' := Wc.alloc (.cells f.vals 41)) (exec_one rfl (by kernel_rfl)) (st.below (below_alloc1 _ _)) (fun hHeld => ?_) AllReadyH.nil)
          simp only [Act.put, List.setIfInBounds_toArray, List.set_cons_zero, List.set_cons_succ]
          obtain ⟨Wd, hWd⟩ : ∃ Wd, Wd = Wc.alloc (.cells f.vals 41) := ⟨_, rfl⟩
          rw [← hWd] at hHeld ⊢
          have hT : Wd.heap[Wc.heap.size]? = some (.cells f.vals 41 (0, 0)) := by subst hWd; exact at_new rfl
          have hb : Below Wc.heap.size Wc Wd := by subst hWd; exact below_alloc1 _ _
          replace st := st.below hb
          replace kO0 := (hb.block _ (blk_lt kO0)).trans kO0
          replace B2 := Rw.next B2 hb
          have hf2 := hf.below hb
          have hbd := Rw.next hbc hb
          clear hb hWd
          obtain ⟨v', Z, hrun, hotZ, hgr⟩ := hot0.app 36 (c := 1) hbd hf2 (Nat.le_refl _) (by omega) hT hFl
          refine wpAnyH_ready (rs := [9]) (by kernel_rfl) (by simp) (Yh.readyRun (i := 9) rfl (by kernel_rfl) (some 38) (by kernel_rfl) (exec_app (.tmp 30) (.tmp 37) rfl (by kernel_rfl) (by kernel_rfl) hrun) (st.grown hgr) (fun hHeld => ?_) AllReadyH.nil)
          simp only [Act.put, List.setIfInBounds_toArray, List.set_cons_zero, List.set_cons_succ]
          replace st := st.grown hgr
          obtain ⟨va, vn, vc, hv⟩ := hotZ.slice
          subst hv
          have kOZ := (hgr.block _ (blk_lt kO0) (fun e => by have := (hot0.row_lt e.symm).1; omega)).trans kO0
          replace B2 := B2.grown hgr B2.size (fun k hk => by have := (hot0.row_lt hk).1; omega)
          obtain ⟨o0, o1⟩ := Pm.two kOZ
          have fO := Bl.free kOZ
          refine Pq.take (i := 10) (d := some 39) (v := .pointer (some ⟨ob, 1, none⟩)) rfl (by kernel_rfl) (by kernel_rfl) (by kernel_rfl) (by kernel_rfl) (fun _ _ _ h => h) (Or.inl ⟨by rfl, by intro w hSw; go_simp⟩) hHeld ?_
          simp only [Act.put, List.setIfInBounds_toArray, List.set_cons_zero, List.set_cons_succ]
          refine wpAnyH_ready (rs := [11]) (by kernel_rfl) (by simp) (Yh.readySkip (i := 11) rfl (by kernel_rfl) none (by kernel_rfl) (w' := Z.setCell ⟨ob, 1, none⟩ (.slice va vn vc)) (by go_simp) st.set (fun hHeld => ?_) AllReadyH.nil)
          simp only [Act.put, List.setIfInBounds_toArray, List.set_cons_zero, List.set_cons_succ]
          refine wpAnyH_done (by kernel_rfl) ?_ _
          have kO' : (Z.setCell ⟨ob, 1, none⟩ (.slice va vn vc)).heap[ob]? = some (.cells #[.int .i64 q, (.slice va vn vc)] 38 (0, 0)) := blk_same kOZ
          have B1' : Below w.heap.size w (Z.setCell ⟨ob, 1, none⟩ (.slice va vn vc)) := Pm.bset B2 hwo
          have hot' : OT (Z.setCell ⟨ob, 1, none⟩ (.slice va vn vc)) B (.slice va vn vc) (F ++ [f]) := hotZ.keep fun x _ hx => blk_other rfl (by omega)
          replace st : Stab wr (ob) v (Z.setCell ⟨ob, 1, none⟩ (.slice va vn vc)) := st.set
          go_wp2
          go_roundw
          case rel => exact ⟨i + 1, .slice va vn vc, F ++ [f], by omega, by go_num, B1', (st.block _ (by omega) (by omega) (fun e => by have := (hot.row_lt e.symm).1; omega)).trans kT, (st.block _ (by omega) (by omega) (fun e => by have := (hot.row_lt e.symm).1; omega)).trans kR, kO', hot', by have := st.size; omega, by simp only [sel]; rw [HP.out, if_pos rfl, List.map_append, ← HF.out, said_getD, HX.out]; simp [sf]⟩
          case measure => simp [intOf]; omega
        · rintro e1 Wc ⟨f, rfl, sf, hf, hb⟩
          replace st := st.below hb
          replace kO0 := (hb.block _ (blk_lt kO0)).trans kO0
          have hbc := hb
          replace B2 := Rw.next B2 hb
          have sC := hb.size
          refine ⟨_, rfl, st, fun hHeld => ?_⟩
          simp only [Act.put, List.setIfInBounds_toArray, List.set_cons_zero, List.set_cons_succ]
          refine wpAnyH_ready (rs := [1, 8]) (by kernel_rfl) (by simp) (Yh.readyRun (i := 1) rfl (by kernel_rfl) (some 30) (by kernel_rfl) (v := v) (w' := Wc) (by obtain ⟨o0, o1⟩ := Pm.two kO0; go_simp) st (fun hHeld => ?_) (Yh.readyRun (i := 8) rfl (by kernel_rfl) (some 37) (by kernel_rfl) (v := .slice (some ⟨Wc.heap.size, 0, none⟩) 1 1) (w' := Wc.alloc (.cells f.vals 41)) (exec_one rfl (by kernel_rfl)) (st.below (below_alloc1 _ _)) (fun hHeld => ?_) AllReadyH.nil))
          · simp only [Act.put, List.setIfInBounds_toArray, List.set_cons_zero, List.set_cons_succ]
            refine wpAnyH_ready (rs := [8]) (by kernel_rfl) (by simp) (Yh.readyRun (i := 8) rfl (by kernel_rfl) (some 37) (by kernel_rfl) (v := .slice (some ⟨Wc.heap.size, 0, none⟩) 1 1) (w' := Wc.alloc (.cells f.vals 41)) (exec_one rfl (by kernel_rfl)) (st.below (below_alloc1 _ _)) (fun hHeld => ?_) AllReadyH.nil)
            simp only [Act.put, List.setIfInBounds_toArray, List.set_cons_zero, List.set_cons_succ]
            obtain ⟨Wd, hWd⟩ : ∃ Wd, Wd = Wc.alloc (.cells f.vals 41) := ⟨_, rfl⟩
            rw [← hWd] at hHeld ⊢
            have hT : Wd.heap[Wc.heap.size]? = some (.cells f.vals 41 (0, 0)) := by subst hWd; exact at_new rfl
            have hb : Below Wc.heap.size Wc Wd := by subst hWd; exact below_alloc1 _ _
            replace st := st.below hb
            replace kO0 := (hb.block _ (blk_lt kO0)).trans kO0
            replace B2 := Rw.next B2 hb
            have hf2 := hf.below hb
            have hbd := Rw.next hbc hb
            clear hb hWd
            obtain ⟨v', Z, hrun, hotZ, hgr⟩ := hot0.app 36 (c := 1) hbd hf2 (Nat.le_refl _) (by omega) hT hFl
            refine wpAnyH_ready (rs := [9]) (by kernel_rfl) (by simp) (Yh.readyRun (i := 9) rfl (by kernel_rfl) (some 38) (by kernel_rfl) (exec_app (.tmp 30) (.tmp 37) rfl (by kernel_rfl) (by kernel_rfl) hrun) (st.grown hgr) (fun hHeld => ?_) AllReadyH.nil)
            simp only [Act.put, List.setIfInBounds_toArray, List.set_cons_zero, List.set_cons_succ]
            replace st := st.grown hgr
            obtain ⟨va, vn, vc, hv⟩ := hotZ.slice
            subst hv
            have kOZ := (hgr.block _ (blk_lt kO0) (fun e => by have := (hot0.row_lt e.symm).1; omega)).trans kO0
            replace B2 := B2.grown hgr B2.size (fun k hk => by have := (hot0.row_lt hk).1; omega)
            obtain ⟨o0, o1⟩ := Pm.two kOZ
            have fO := Bl.free kOZ
            refine Pq.take (i := 10) (d := some 39) (v := .pointer (some ⟨ob, 1, none⟩)) rfl (by kernel_rfl) (by kernel_rfl) (by kernel_rfl) (by kernel_rfl) (fun _ _ _ h => h) (Or.inl ⟨by rfl, by intro w hSw; go_simp⟩) hHeld ?_
            simp only [Act.put, List.setIfInBounds_toArray, List.set_cons_zero, List.set_cons_succ]
            refine wpAnyH_ready (rs := [11]) (by kernel_rfl) (by simp) (Yh.readySkip (i := 11) rfl (by kernel_rfl) none (by kernel_rfl) (w' := Z.setCell ⟨ob, 1, none⟩ (.slice va vn vc)) (by go_simp) st.set (fun hHeld => ?_) AllReadyH.nil)
            simp only [Act.put, List.setIfInBounds_toArray, List.set_cons_zero, List.set_cons_succ]
            refine wpAnyH_done (by kernel_rfl) ?_ _
            have kO' : (Z.setCell ⟨ob, 1, none⟩ (.slice va vn vc)).heap[ob]? = some (.cells #[.int .i64 q, (.slice va vn vc)] 38 (0, 0)) := blk_same kOZ
            have B1' : Below w.heap.size w (Z.setCell ⟨ob, 1, none⟩ (.slice va vn vc)) := Pm.bset B2 hwo
            have hot' : OT (Z.setCell ⟨ob, 1, none⟩ (.slice va vn vc)) B (.slice va vn vc) (F ++ [f]) := hotZ.keep fun x _ hx => blk_other rfl (by omega)
            replace st : Stab wr (ob) v (Z.setCell ⟨ob, 1, none⟩ (.slice va vn vc)) := st.set
            go_wp2
            go_roundw
            case rel => exact ⟨i + 1, .slice va vn vc, F ++ [f], by omega, by go_num, B1', (st.block _ (by omega) (by omega) (fun e => by have := (hot.row_lt e.symm).1; omega)).trans kT, (st.block _ (by omega) (by omega) (fun e => by have := (hot.row_lt e.symm).1; omega)).trans kR, kO', hot', by have := st.size; omega, by simp only [sel]; rw [HP.out, if_pos rfl, List.map_append, ← HF.out, said_getD, HX.out]; simp [sf]⟩
            case measure => simp [intOf]; omega
          · simp only [Act.put, List.setIfInBounds_toArray, List.set_cons_zero, List.set_cons_succ]
            obtain ⟨Wd, hWd⟩ : ∃ Wd, Wd = Wc.alloc (.cells f.vals 41) := ⟨_, rfl⟩
            rw [← hWd] at hHeld ⊢
            have hT : Wd.heap[Wc.heap.size]? = some (.cells f.vals 41 (0, 0)) := by subst hWd; exact at_new rfl
            have hb : Below Wc.heap.size Wc Wd := by subst hWd; exact below_alloc1 _ _
            replace st := st.below hb
            replace kO0 := (hb.block _ (blk_lt kO0)).trans kO0
            replace B2 := Rw.next B2 hb
            have hf2 := hf.below hb
            have hbd := Rw.next hbc hb
            clear hb hWd
            refine wpAnyH_ready (rs := [1]) (by kernel_rfl) (by simp) (Yh.readyRun (i := 1) rfl (by kernel_rfl) (some 30) (by kernel_rfl) (v := v) (w' := Wd) (by obtain ⟨o0, o1⟩ := Pm.two kO0; go_simp) st (fun hHeld => ?_) AllReadyH.nil)
            simp only [Act.put, List.setIfInBounds_toArray, List.set_cons_zero, List.set_cons_succ]
            obtain ⟨v', Z, hrun, hotZ, hgr⟩ := hot0.app 36 (c := 1) hbd hf2 (Nat.le_refl _) (by omega) hT hFl
            refine wpAnyH_ready (rs := [9]) (by kernel_rfl) (by simp) (Yh.readyRun (i := 9) rfl (by kernel_rfl) (some 38) (by kernel_rfl) (exec_app (.tmp 30) (.tmp 37) rfl (by kernel_rfl) (by kernel_rfl) hrun) (st.grown hgr) (fun hHeld => ?_) AllReadyH.nil)
            simp only [Act.put, List.setIfInBounds_toArray, List.set_cons_zero, List.set_cons_succ]
            replace st := st.grown hgr
            obtain ⟨va, vn, vc, hv⟩ := hotZ.slice
            subst hv
            have kOZ := (hgr.block _ (blk_lt kO0) (fun e => by have := (hot0.row_lt e.symm).1; omega)).trans kO0
            replace B2 := B2.grown hgr B2.size (fun k hk => by have := (hot0.row_lt hk).1; omega)
            obtain ⟨o0, o1⟩ := Pm.two kOZ
            have fO := Bl.free kOZ
            refine Pq.take (i := 10) (d := some 39) (v := .pointer (some ⟨ob, 1, none⟩)) rfl (by kernel_rfl) (by kernel_rfl) (by kernel_rfl) (by kernel_rfl) (fun _ _ _ h => h) (Or.inl ⟨by rfl, by intro w hSw; go_simp⟩) hHeld ?_
            simp only [Act.put, List.setIfInBounds_toArray, List.set_cons_zero, List.set_cons_succ]
            refine wpAnyH_ready (rs := [11]) (by kernel_rfl) (by simp) (Yh.readySkip (i := 11) rfl (by kernel_rfl) none (by kernel_rfl) (w' := Z.setCell ⟨ob, 1, none⟩ (.slice va vn vc)) (by go_simp) st.set (fun hHeld => ?_) AllReadyH.nil)
            simp only [Act.put, List.setIfInBounds_toArray, List.set_cons_zero, List.set_cons_succ]
            refine wpAnyH_done (by kernel_rfl) ?_ _
            have kO' : (Z.setCell ⟨ob, 1, none⟩ (.slice va vn vc)).heap[ob]? = some (.cells #[.int .i64 q, (.slice va vn vc)] 38 (0, 0)) := blk_same kOZ
            have B1' : Below w.heap.size w (Z.setCell ⟨ob, 1, none⟩ (.slice va vn vc)) := Pm.bset B2 hwo
            have hot' : OT (Z.setCell ⟨ob, 1, none⟩ (.slice va vn vc)) B (.slice va vn vc) (F ++ [f]) := hotZ.keep fun x _ hx => blk_other rfl (by omega)
            replace st : Stab wr (ob) v (Z.setCell ⟨ob, 1, none⟩ (.slice va vn vc)) := st.set
            go_wp2
            go_roundw
            case rel => exact ⟨i + 1, .slice va vn vc, F ++ [f], by omega, by go_num, B1', (st.block _ (by omega) (by omega) (fun e => by have := (hot.row_lt e.symm).1; omega)).trans kT, (st.block _ (by omega) (by omega) (fun e => by have := (hot.row_lt e.symm).1; omega)).trans kR, kO', hot', by have := st.size; omega, by simp only [sel]; rw [HP.out, if_pos rfl, List.map_append, ← HF.out, said_getD, HX.out]; simp [sf]⟩
            case measure => simp [intOf]; omega
      · have he' : (x.ep == ep) = false := by simpa using he
        have HP : Hid (p i = false) := by rw [hpx]; exact decide_eq_false he
        clear hpx he
        go_wp2
        go_roundw
        case rel => exact ⟨i + 1, v, F, by omega, by go_num, B1, kT, kR, kO, hot, hBs, by simp only [sel]; rw [HP.out]; exact HF.out⟩
        case measure => simp [intOf]; omega
    · obtain rfl : i = n := by omega
      obtain ⟨aF, gF, cF, rfl, _, _⟩ := hot.form (by omega)
      have hlen : F.length = (sel p (Q.map Ent.said) i).length := by rw [← HF.out]; simp
      have hz : (i : Int) - (F.length : Int) = m := by rw [hlen]; exact HM.out.symm
      have hwm : IntKind.i64.wrap m = m := by rw [IntKind.wrap_i64]; omega
      clear hlen hc ho
      go_wp2
      refine wp_region_held_drew (S := (fun w' => w'.heap[w.heap.size]? = some (.cells #[.int .i64 q, .slice a i cap] 38 (0, 0)) ∧ w'.heap[ob]? = some (.cells #[.int .i64 q, .slice aF F.length cF] 38 (0, 0)))) (by kernel_rfl) ⟨kT, kO⟩ (fun hHeld => ?_)
      refine Pq.take (i := 0) (d := some 41) (v := .agg #[.int .i64 q, .slice aF F.length cF]) rfl (by kernel_rfl) (by kernel_rfl) (by kernel_rfl) (by kernel_rfl) (fun _ _ _ h => h) (Or.inl ⟨by rfl, by intro w hSw; obtain ⟨z0, z1⟩ := hSw; obtain ⟨s0, s1⟩ := Pm.two z0; obtain ⟨s2, s3⟩ := Pm.two z1; go_simp⟩) hHeld ?_
      simp only [Act.put, List.setIfInBounds_toArray, List.set_cons_zero, List.set_cons_succ]
      refine Pq.take (i := 1) (d := some 42) (v := .pointer (some ⟨w.heap.size, 1, none⟩)) rfl (by kernel_rfl) (by kernel_rfl) (by kernel_rfl) (by kernel_rfl) (fun _ _ _ h => h) (Or.inl ⟨by rfl, by intro w hSw; go_simp⟩) hHeld ?_
      simp only [Act.put, List.setIfInBounds_toArray, List.set_cons_zero, List.set_cons_succ]
      refine Pq.take (i := 2) (d := some 43) (v := .slice a i cap) rfl (by kernel_rfl) (by kernel_rfl) (by kernel_rfl) (by kernel_rfl) (fun _ _ _ h => h) (Or.inl ⟨by rfl, by intro w hSw; obtain ⟨z0, z1⟩ := hSw; obtain ⟨s0, s1⟩ := Pm.two z0; obtain ⟨s2, s3⟩ := Pm.two z1; go_simp⟩) hHeld ?_
      simp only [Act.put, List.setIfInBounds_toArray, List.set_cons_zero, List.set_cons_succ]
      refine Pq.take (i := 3) (d := some 44) (v := .int .i64 i) rfl (by kernel_rfl) (by kernel_rfl) (by kernel_rfl) (by kernel_rfl) (fun _ _ _ h => h) (Or.inl ⟨by rfl, by intro w hSw; go_simp⟩) hHeld ?_
      simp only [Act.put, List.setIfInBounds_toArray, List.set_cons_zero, List.set_cons_succ]
      refine Pq.take (i := 4) (d := some 45) (v := .pointer (some ⟨ob, 1, none⟩)) rfl (by kernel_rfl) (by kernel_rfl) (by kernel_rfl) (by kernel_rfl) (fun _ _ _ h => h) (Or.inl ⟨by rfl, by intro w hSw; go_simp⟩) hHeld ?_
      simp only [Act.put, List.setIfInBounds_toArray, List.set_cons_zero, List.set_cons_succ]
      refine Pq.take (i := 5) (d := some 46) (v := .slice aF F.length cF) rfl (by kernel_rfl) (by kernel_rfl) (by kernel_rfl) (by kernel_rfl) (fun _ _ _ h => h) (Or.inl ⟨by rfl, by intro w hSw; obtain ⟨z0, z1⟩ := hSw; obtain ⟨s0, s1⟩ := Pm.two z0; obtain ⟨s2, s3⟩ := Pm.two z1; go_simp⟩) hHeld ?_
      simp only [Act.put, List.setIfInBounds_toArray, List.set_cons_zero, List.set_cons_succ]
      refine Pq.take (i := 6) (d := some 47) (v := .int .i64 F.length) rfl (by kernel_rfl) (by kernel_rfl) (by kernel_rfl) (by kernel_rfl) (fun _ _ _ h => h) (Or.inl ⟨by rfl, by intro w hSw; go_simp⟩) hHeld ?_
      simp only [Act.put, List.setIfInBounds_toArray, List.set_cons_zero, List.set_cons_succ]
      refine Pq.take (i := 7) (d := some 48) (v := .int .i64 m) rfl (by kernel_rfl) (by kernel_rfl) (by kernel_rfl) (by kernel_rfl) (fun _ _ _ h => h) (Or.inl ⟨by rfl, by intro w hSw; go_simp⟩) hHeld ?_
      simp only [Act.put, List.setIfInBounds_toArray, List.set_cons_zero, List.set_cons_succ]
      obtain ⟨r0, r1⟩ := Pm.two kR
      have fR := Bl.free kR
      refine wpAnyH_ready (rs := [8]) (by kernel_rfl) (by simp) (Yh.readySkip (i := 8) rfl (by kernel_rfl) none (by kernel_rfl) (w' := (wr.drew.setCell ⟨w.heap.size + 1, 0, none⟩ (.int .i64 q)).setCell ⟨w.heap.size + 1, 1, none⟩ (.slice aF F.length cF)) (by go_simp) ⟨blk_other (blk_other kT (by omega)) (by omega), blk_other (blk_other kO (by omega)) (by omega)⟩ (fun hHeld => ?_) AllReadyH.nil)
      simp only [Act.put, List.setIfInBounds_toArray, List.set_cons_zero, List.set_cons_succ]
      refine Pq.take (i := 9) (d := some 5) (v := .int .i64 m) rfl (by kernel_rfl) (by kernel_rfl) (by kernel_rfl) (by kernel_rfl) (fun _ _ _ h => h) (Or.inl ⟨by rfl, by intro w hSw; go_simp⟩) hHeld ?_
      simp only [Act.put, List.setIfInBounds_toArray, List.set_cons_zero, List.set_cons_succ]
      refine wpAnyH_done (by kernel_rfl) ?_ _
      go_wp2
      have y0 : (wr.setCell ⟨w.heap.size + 1, 0, none⟩ (.int .i64 q)).cell? ⟨w.heap.size + 1, 0, none⟩ = some (.int .i64 q) := (Pm.two (blk_same kR)).1
      have y1 : ((wr.setCell ⟨w.heap.size + 1, 0, none⟩ (.int .i64 q)).setCell ⟨w.heap.size + 1, 1, none⟩ (.slice aF F.length cF)).cell? ⟨w.heap.size + 1, 1, none⟩ = some (.slice aF F.length cF) := (Pm.two (blk_same (blk_same kR))).2
      exact bodyPost_ret (v := .tuple #[.agg #[.int .i64 q, .slice aF F.length cF], .int .i64 m]) (by simp [results, Try.results45, go_sem, y0, y1]) rfl ⟨_, F, rfl, ((hot.below ((Below.refl _ _).drew)).keep (fun x _ hx => blk_other (blk_other rfl (by omega)) (by omega))).mono (by omega), HF.out, Pm.bset (Pm.bset (Rw.next B1 ((Below.refl _ _).drew)) (by omega)) (by omega)⟩

end Go.Proofs.Ytcbgnfjnjfaacaa.Cp
namespace Go.Proofs.Ytcbgnfjnjfaacaa.Cp
set_option maxRecDepth 8000
set_option linter.unusedSimpArgs false
set_option linter.unusedVariables false
open Go Go.RowKit
open Num Pl Ea Em

theorem rd_blk {w w' : World} {a : Option Addr} {b off : Nat} {l : List Int} (h : Hr.Rd w a b off l) (e : 0 < l.length → w'.heap[b]? = w.heap[b]?) : Hr.Rd w' a b off l :=
  ⟨h.head, fun i hi => by have := h.cell i hi; have e := e (by omega); simp only [World.cell?, e] at this ⊢; exact this, h.size⟩
theorem rdA_blk {w w' : World} {a : Option Addr} {b off : Nat} {l : List Yb.A3} (h : Yb.Rd w a b off l) (e : 0 < l.length → w'.heap[b]? = w.heap[b]?) : Yb.Rd w' a b off l := by
  refine ⟨h.head, fun i hi => ?_, h.size⟩
  have e := e (by omega)
  have hc : ∀ j, w'.cell? ⟨b, j, none⟩ = w.cell? ⟨b, j, none⟩ := fun j => by simp only [World.cell?, e]
  obtain ⟨c0, c1, c2⟩ := h.cell i hi
  exact ⟨(hc _).trans c0, (hc _).trans c1, (hc _).trans c2⟩
theorem Form.keep {w w' : World} {B : Nat} {a : Option Addr} {g : Nat} {F : List Ent} (h : Form w B a g F) (hz : w.heap.size ≤ w'.heap.size) (hk : ∀ x, UseT g F.length (at_ F) x → w'.heap[x]? = w.heap[x]?) : Form w' B a g F := by
  have hg : 0 < F.length → w'.heap[g]? = w.heap[g]? := fun h0 => hk g (.inl ⟨h0, rfl⟩)
  have hu : ∀ i, i < F.length → ∀ x, Uses (F.getD i e0) x → w'.heap[x]? = w.heap[x]? := fun i hi x hx => hk x (.inr ⟨i, hi, hx⟩)
  refine ⟨h.head, ⟨h.rd.head, fun i hi j hj => ?_, fun i hi => ?_, h.rd.size⟩, ⟨fun j hj => ?_, fun j hj => ?_, fun i hi => (h.wt.each i hi).keep fun x hx _ => hu i hi x hx⟩, h.ap, fun x hx => ⟨(h.use x hx).1, Nat.lt_of_lt_of_le (h.use x hx).2 hz⟩⟩
  · have := h.rd.cell i hi j hj
    have e := hg (by omega)
    simp only [World.cell?, e] at this ⊢; exact this
  · have o := h.rd.ok i hi
    have hV := h.wt.each i hi
    refine ⟨?_, ?_, ?_, o.wV, o.wM⟩
    · rcases Nat.eq_zero_or_pos (F.getD i e0).V.length with h0 | h0
      · exact ⟨o.rV.head, fun j hj => by omega, o.rV.size⟩
      · have e1 := o.rV.head h0
        have e2 := hV.V.head h0
        have e3 : (F.getD i e0).bV = (at_ F i).bV := rfl
        exact rd_blk o.rV fun _ => hu i hi _ (.inl ⟨rfl, h0⟩)
    · exact rd_blk o.rM fun h0 => hu i hi _ (.inr (.inl ⟨rfl, h0⟩))
    · exact rdA_blk o.rA fun h0 => hu i hi _ (.inr (.inr ⟨rfl, h0⟩))
  · have := h.wt.row j hj
    have e := hg (by omega)
    simp only [World.cell?, e] at this ⊢; exact this
  · have := h.wt.free j hj
    have e := hg (by omega)
    simp only [World.frozen?, e] at this ⊢; exact this
theorem wtF_below {w w' : World} {g n : Nat} {f : Nat → Ent} (h : WtF w g n f) (hb : Below w.heap.size w w') : WtF w' g n f := by
  refine ⟨fun j hj => ?_, fun j hj => ?_, fun i hi => (h.each i hi).below hb⟩
  · exact (hb.cell (World.block_lt_of_cell? _ _ (h.row j hj))).trans (h.row j hj)
  · have e := hb.block g (World.block_lt_of_cell? _ _ (h.row j hj))
    have := h.free j hj
    simp only [World.frozen?, e] at this ⊢; exact this
theorem kAt_bound {F : List Ent} {w : World} {a : Option Addr} {b off : Nat} (h : Rd w a b off F) : ∀ k, k ≤ F.length → kAt (at_ F) k ≤ k * 20971523 := by
  intro k
  induction k with
  | zero => intro _; simp [kAt]
  | succ k ih =>
    intro hk
    have := ih (by omega)
    have o := h.ok k (by omega)
    have h1 := o.rV.size
    have h2 := o.rM.size
    have h3 := o.rA.size
    simp only [kAt, esz, at_]
    have e1 : kAt (at_ F) k = kAt (fun i => F.getD i e0) k := rfl
    rw [e1] at this
    omega
theorem kAt_small {F : List Ent} {w : World} {a : Option Addr} {b off : Nat} (h : Rd w a b off F) (hl : F.length ≤ 401) : 1 + (kAt (at_ F) F.length : Int) ≤ 100000000000 := by
  have := kAt_bound h F.length (Nat.le_refl _)
  omega

end Go.Proofs.Ytcbgnfjnjfaacaa.Cp
