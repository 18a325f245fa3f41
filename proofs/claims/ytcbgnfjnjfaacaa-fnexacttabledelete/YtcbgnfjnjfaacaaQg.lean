/-
  Contracts laid together (Lq, Yj, Yk, Em, Ep, Eq, Hq, Er).
-/
import Derived.Test.YtcbgnfjnjfaacaaQf
namespace Go.Proofs.Ytcbgnfjnjfaacaa.Lq
set_option maxRecDepth 8000
set_option linter.unusedSimpArgs false
set_option linter.unusedVariables false
open Go Go.RowKit
open Num Pl Ea Ra Pq Ka

/-- Is the entry of that epoch, and does it hit the head? -/
def lkE (ep : Int) (H : List Int) (x : En) : Bool := decide (x.1 = ep) && Ld.hitB x.2.2.1 x.2.2.2.1 H
theorem fst_one {p : Nat → Bool} {n : Nat} {r r' : Int} (h : Fst p n r) (h' : Fst p n r') : r = r' := by
  rcases h with ⟨rfl, h⟩ | ⟨k, rfl, hk, h, hp⟩
  · rcases h' with ⟨rfl, h'⟩ | ⟨k', rfl, hk', h', _⟩
    · rfl
    · rw [h k' hk'] at h'; cases h'
  · rcases h' with ⟨rfl, h'⟩ | ⟨k', rfl, hk', h', hp'⟩
    · rw [h' k hk] at h; cases h
    · rcases Nat.lt_trichotomy k k' with e | e | e
      · rw [hp' k e] at h; cases h
      · rw [e]
      · rw [hp k' e] at h'; cases h'
theorem fst_some (p : Nat → Bool) (n : Nat) : ∃ r, Fst p n r := by
  induction n with
  | zero => exact ⟨-1, .inl ⟨rfl, fun k hk => by omega⟩⟩
  | succ n ih =>
    obtain ⟨r, h⟩ := ih
    rcases h with ⟨rfl, h⟩ | ⟨k, rfl, hk, h, hp⟩
    · cases e : p n
      · exact ⟨-1, .inl ⟨rfl, fun k hk => by
          by_cases e1 : k = n
          · subst e1; exact e
          · exact h k (by omega)⟩⟩
      · exact ⟨n, .inr ⟨n, rfl, by omega, e, fun j hj => h j hj⟩⟩
    · exact ⟨k, .inr ⟨k, rfl, by omega, h, hp⟩⟩
/-- What a look-up answers. -/
def Look (q : Int) (L : List En) (ep : Int) (H : List Int) (r : Int) : Prop := (TabP q L ∧ Fst (fun k => lkE ep H (L.getD k x0)) L.length r) ∨ (¬ TabP q L ∧ r = -1)
theorem look_some (q : Int) (L : List En) (ep : Int) (H : List Int) : ∃ r, Look q L ep H r := by
  rcases Classical.em (TabP q L) with h | h
  · obtain ⟨r, hr⟩ := fst_some (fun k => lkE ep H (L.getD k x0)) L.length
    exact ⟨r, .inl ⟨h, hr⟩⟩
  · exact ⟨-1, .inr ⟨h, rfl⟩⟩
theorem hit_wrong {V M H : List Int} (h : Hg.headB H = false) : Ld.hitB V M H = false := by
  unfold Ld.hitB
  rw [Ld.ofB, h]
  simp

set_option maxHeartbeats 2000000 in
theorem tell99 (g0 g1 : Nat) (e : Ent) (ep : Int) (aH : Option Addr) (bH oH cH : Nat) (H : List Int) (w : World) (h : e.Ok w) (h0 : w.cell? ⟨g0, 0, none⟩ = some (.int .i64 ep)) (h1 : w.cell? ⟨g1, 0, none⟩ = some (.slice aH H.length cH)) (hH : Hr.Rd w aH bH oH H) (wH : Po.Wide H) :
    Calls Try.prog 99 #[.agg #[.int .i64 e.ep, .int .i64 e.pr, .slice e.aV e.V.length e.cV, .slice e.aM e.M.length e.cM, .slice e.aA e.A.length e.cA, .int .i64 e.h], .pointer (some ⟨g0, 0, none⟩), .pointer (some ⟨g1, 0, none⟩)] w fun x w' => x = .returned (.bool (lkE ep H e.said)) ∧ Below w.heap.size w w' := by
  obtain ⟨W1, hW1⟩ : ∃ W1, W1 = w.alloc (.cells #[.int .i64 e.ep, .int .i64 e.pr, .slice e.aV e.V.length e.cV, .slice e.aM e.M.length e.cM, .slice e.aA e.A.length e.cA, .int .i64 e.h] 41) := ⟨_, rfl⟩
  have B1 : Below w.heap.size w W1 := by subst hW1; exact below_alloc1 _ _
  have ok := h.below B1
  have hc := Ld.hits_any e.V e.M H ok.wV wH e.aV e.aM _ _ e.cV _ _ e.cM aH _ _ cH W1 ok.rV ok.rM (hH.below B1)
  have q0 := (B1.cell (World.block_lt_of_cell? _ _ h0)).trans h0
  have q1 := (B1.cell (World.block_lt_of_cell? _ _ h1)).trans h1
  by_cases he : e.ep = ep
  · have he' : (e.ep == ep) = true := by simp [he]
    have hd : lkE ep H e.said = Ld.hitB e.V e.M H := by
      show (decide (e.ep = ep) && Ld.hitB e.V e.M H) = _
      rw [decide_eq_true he]; rfl
    rw [hd]
    clear he hd
    rw [hW1] at q0 q1
    go_enter Try.func99, Try.ntmps99
    go_wp2_with (go_at_call 17; rw [← hW1]; clear hW1; refine hc.mono ?_; rintro x wa ⟨rfl, hb⟩)
    go_ret
    exact ⟨ret_bool (by simp), Rw.next B1 hb⟩
  · have he' : (e.ep == ep) = false := by simpa using he
    have hd : lkE ep H e.said = false := by
      show (decide (e.ep = ep) && Ld.hitB e.V e.M H) = _
      rw [decide_eq_false he]; rfl
    rw [hd]
    clear hd
    rw [hW1] at q0 q1
    go_enter Try.func99, Try.ntmps99
    go_wp2
    go_ret
    exact ⟨ret_bool (by simp), by rw [← hW1]; exact B1⟩

set_option maxHeartbeats 4000000 in
theorem lookI (q ep : Int) (a : Option Addr) (b off cap : Nat) (Q : List Ent) (aH : Option Addr) (bH oH cH : Nat) (H : List Int) (w : World) (h : Rd w a b off Q) (hH : Hr.Rd w aH bH oH H) (wH : Po.Wide H) (r : Int) (hr : Look q (Q.map Ent.said) ep H r) :
    Calls Try.prog 28 #[.agg #[.int .i64 q, .slice a Q.length cap], .int .i64 ep, .agg #[.slice aH H.length cH]] w fun e w' => e = .returned (.int .i64 r) ∧ Below w.heap.size w w' := by
  obtain ⟨W1, hW1⟩ : ∃ W1, W1 = ((w.alloc (.cells #[.int .i64 q, .slice a Q.length cap] 38)).alloc (.cells #[.int .i64 ep] 3)).alloc (.cells #[.slice aH H.length cH] 27) := ⟨_, rfl⟩
  have B1 : Below w.heap.size w W1 := by subst hW1; exact Rw.next (Rw.next (below_alloc1 _ _) (below_alloc1 _ _)) (below_alloc1 _ _)
  have k0 : W1.heap[w.heap.size]? = some (.cells #[.int .i64 q, .slice a Q.length cap] 38 (0, 0)) := by subst hW1; rw [at_old (by simp <;> omega), at_old (by simp), at_new rfl]
  have k1 : W1.heap[w.heap.size + 1]? = some (.cells #[.int .i64 ep] 3 (0, 0)) := by subst hW1; rw [at_old (by simp), at_new (by simp)]
  have k2 : W1.heap[w.heap.size + 1 + 1]? = some (.cells #[.slice aH H.length cH] 27 (0, 0)) := by subst hW1; exact at_new (by simp)
  replace h := h.below B1
  replace hH := hH.below B1
  obtain ⟨R, hR⟩ := em_bool (TabP q (Q.map Ent.said))
  have ht := fun W hW => tabI q a b off cap Q W hW R hR
  cases R
  · obtain rfl : r = -1 := by
      rcases hr with ⟨h1, _⟩ | ⟨_, h1⟩
      · exact absurd (hR.2 h1) (by decide)
      · exact h1
    go_enter Try.func28, Try.ntmps28
    go_wp2_with (go_at_call 26; rw [← hW1]; clear hW1; refine (ht _ h).mono ?_; rintro x wa ⟨rfl, hb⟩)
    go_ret
    exact ⟨rfl, Rw.next B1 hb⟩
  · have hf : Fst (fun k => lkE ep H (Q.getD k e0).said) Q.length r := by
      rcases hr with ⟨_, h1⟩ | ⟨h1, _⟩
      · simpa only [said_getD, List.length_map] using h1
      · exact absurd (hR.1 rfl) h1
    have HF : Hid (Fst (fun k => lkE ep H (Q.getD k e0).said) Q.length r) := hf
    clear hf hr hR
    go_enter Try.func28, Try.ntmps28
    go_wp2_with (first
      | (go_at_call 26; rw [← hW1]; clear hW1; refine (ht _ h).mono ?_; rintro x wa ⟨rfl, hb⟩; replace k0 := (hb.block _ (blk_lt k0)).trans k0; replace k1 := (hb.block _ (blk_lt k1)).trans k1; replace k2 := (hb.block _ (blk_lt k2)).trans k2; replace h := h.below hb; replace hH := hH.below hb; replace B1 := Rw.next B1 hb; clear hb ht; obtain ⟨p0, p1⟩ := Pm.two k0; have p2 := Hh.one k1; have p3 := Hh.one k2)
      | (go_at_call 98; refine (index99 _ _ _ _ _ _ Q _ _ h (fun k hk W hW => tell99 _ _ _ ep aH bH oH cH H W ((h.ok k hk).of hW (Nat.le_refl _)) ((hW.cell (World.block_lt_of_cell? _ _ p2)).trans p2) ((hW.cell (World.block_lt_of_cell? _ _ p3)).trans p3) (hH.below hW) wH)).mono ?_; rintro x wb ⟨hb, r', rfl, hf'⟩; replace B1 := Rw.next B1 hb))
    go_ret
    exact ⟨by rw [fst_one hf' HF.out]; rfl, B1⟩

set_option maxHeartbeats 8000000 in
theorem lookS (q ep : Int) (a : Option Addr) (b off cap : Nat) (Q : List Ent) (aH : Option Addr) (bH oH cH : Nat) (H : List Int) (w : World) (h : Rd w a b off Q) (hH : Hr.Rd w aH bH oH H) (wH : Po.Wide H) (r : Int) (hr : Look q (Q.map Ent.said) ep H r) :
    Calls Try.prog 30 #[.agg #[.int .i64 q, .slice a Q.length cap], .int .i64 ep, .agg #[.slice aH H.length cH]] w fun e w' => e = .returned (.int .i64 r) ∧ Below w.heap.size w w' := by
  obtain ⟨W1, hW1⟩ : ∃ W1, W1 = (w.alloc (.cells #[.int .i64 q, .slice a Q.length cap] 38)).alloc (.cells #[.slice aH H.length cH] 27) := ⟨_, rfl⟩
  have B1 : Below w.heap.size w W1 := by subst hW1; exact Rw.next (below_alloc1 _ _) (below_alloc1 _ _)
  have k0 : W1.heap[w.heap.size]? = some (.cells #[.int .i64 q, .slice a Q.length cap] 38 (0, 0)) := by subst hW1; rw [at_old (by simp), at_new rfl]
  have k2 : W1.heap[w.heap.size + 1]? = some (.cells #[.slice aH H.length cH] 27 (0, 0)) := by subst hW1; exact at_new (by simp)
  replace h := h.below B1
  replace hH := hH.below B1
  obtain ⟨R, hR⟩ := em_bool (TabP q (Q.map Ent.said))
  have ht := fun W hW => tabS q a b off cap Q W hW R hR
  cases R
  · obtain rfl : r = -1 := by
      rcases hr with ⟨h1, _⟩ | ⟨_, h1⟩
      · exact absurd (hR.2 h1) (by decide)
      · exact h1
    go_enter Try.func30, Try.ntmps30
    go_wp2_with (go_at_call 39; rw [← hW1]; clear hW1; refine (ht _ h).mono ?_; rintro x wa ⟨rfl, hb⟩)
    go_ret
    exact ⟨rfl, Rw.next B1 hb⟩
  have hf : Fst (fun k => lkE ep H (Q.getD k e0).said) Q.length r := by
    rcases hr with ⟨_, h1⟩ | ⟨h1, _⟩
    · simpa only [said_getD, List.length_map] using h1
    · exact absurd (hR.1 rfl) h1
  have HF : Hid (Fst (fun k => lkE ep H (Q.getD k e0).said) Q.length r) := hf
  clear hf hr hR
  have hhd := fun W hW => Hg.specOk_any aH bH oH cH H W hW
  cases hhB : Hg.headB H
  · obtain rfl : r = -1 := by
      rcases HF.out with ⟨h1, _⟩ | ⟨k, _, _, h1, _⟩
      · exact h1
      · simp [lkE, hit_wrong hhB] at h1
    rw [hhB] at hhd
    go_enter Try.func30, Try.ntmps30
    go_wp2_with (first
      | (go_at_call 39; rw [← hW1]; clear hW1; refine (ht _ h).mono ?_; rintro x wa ⟨rfl, hb⟩; replace k2 := (hb.block _ (blk_lt k2)).trans k2; have p3 := Hh.one k2; replace hH := hH.below hb; replace B1 := Rw.next B1 hb; clear hb)
      | (go_at_call 97; refine (hhd _ hH).mono ?_; rintro x wb ⟨rfl, hb⟩; replace B1 := Rw.next B1 hb))
    go_ret
    exact ⟨rfl, B1⟩
  rw [hhB] at hhd
  obtain ⟨n, hn⟩ : ∃ n, n = Q.length := ⟨_, rfl⟩
  rw [← hn] at hW1 k0 ht ⊢
  have HN : Hid (n = Q.length) := hn
  clear hn hhB
  go_enter Try.func30, Try.ntmps30
  go_wp2_with (first
    | (go_at_call 39; rw [← hW1]; clear hW1; refine (ht _ h).mono ?_; rintro x wa ⟨rfl, hb⟩; replace k0 := (hb.block _ (blk_lt k0)).trans k0; replace k2 := (hb.block _ (blk_lt k2)).trans k2; have p3 := Hh.one k2; replace hH := hH.below hb; replace h := h.below hb; replace B1 := Rw.next B1 hb; clear hb ht)
    | (go_at_call 97; refine (hhd _ hH).mono ?_; rintro x wb ⟨rfl, hb⟩; clear p3; replace k0 := (hb.block _ (blk_lt k0)).trans k0; replace k2 := (hb.block _ (blk_lt k2)).trans k2; have p3 := Hh.one k2; obtain ⟨p0, p1⟩ := Pm.two k0; replace hH := hH.below hb; replace h := h.below hb; replace B1 := Rw.next B1 hb; clear hb hhd))
  clear p0 p1 p3
  obtain ⟨hh, hc, ho, hs⟩ := h
  rw [← HN.out] at hh hc ho hs
  have HH : Hid (∀ W, Below wb.heap.size wb W → Hr.Rd W aH bH oH H) := fun W hW => hH.below hW
  clear hH
  go_loopw [19] (fun u wr => ∃ i : Nat, i ≤ n ∧ u = .int .i64 i ∧ Below w.heap.size w wr ∧ Below wb.heap.size wb wr ∧ wr.heap[w.heap.size]? = some (.cells #[.int .i64 q, .slice a n cap] 38 (0, 0)) ∧ wr.heap[w.heap.size + 1]? = some (.cells #[.slice aH H.length cH] 27 (0, 0)) ∧ ∀ j, j < i → lkE ep H (Q.getD j e0).said = false) (fun u _ => n - (intOf u).toNat)
  case atStart => exact ⟨0, Nat.zero_le _, rfl, B1, Below.refl _ _, k0, k2, fun j hj => by omega⟩
  case round =>
    clear k0 k2 B1
    obtain ⟨i, hi, rfl, hbel, hbb, kT, kH, hpre⟩ := hrel
    have HP : Hid (∀ j, j < i → lkE ep H (Q.getD j e0).said = false) := hpre
    clear hpre
    obtain ⟨p0, p1⟩ := Pm.two kT
    have h0 := Hh.one kH
    have bt := blk_lt kT
    have bh := blk_lt kH
    by_cases hlt : i < n
    · obtain rfl := hh (by omega)
      have hnz : (i : Int) < (n : Int) := by omega
      obtain ⟨c0, c1, c2, c3, c4, c5⟩ := ((hc i hlt).of hbb (At6.lt (hc i hlt))).six
      have ok := (ho i hlt).of hbb (Nat.le_refl _)
      have bl : b < wr.heap.size := World.block_lt_of_cell? _ _ c0
      have rH := HH.out wr hbb
      obtain ⟨x, hx⟩ : ∃ x, x = Q.getD i e0 := ⟨_, rfl⟩
      rw [← hx] at c0 c1 c2 c3 c4 c5 ok
      have HX : Hid (Q.getD i e0 = x) := hx.symm
      clear hx hc ho hh
      have stop : lkE ep H x.said = true → (i : Int) = r := fun e1 => by
        refine fst_one (.inr ⟨i, rfl, hlt, by rw [HX.out]; exact e1, HP.out⟩) ?_
        rw [HN.out]; exact HF.out
      have go_on : lkE ep H x.said = false → ∀ j, j < i + 1 → lkE ep H (Q.getD j e0).said = false := fun e1 j hj => by
        by_cases e2 : j = i
        · rw [e2, HX.out]; exact e1
        · exact HP.out j (by omega)
      have HSt : Hid (lkE ep H x.said = true → (i : Int) = r) := stop
      have HGo : Hid (lkE ep H x.said = false → ∀ j, j < i + 1 → lkE ep H (Q.getD j e0).said = false) := go_on
      clear stop go_on
      have ok1 := ok.below ((Below.refl wr.heap.size wr).drew)
      have hcall := Ld.hitsS_any x.V x.M H ok1.wV wH x.aV x.aM _ _ x.cV _ _ x.cM aH _ _ cH wr.drew ok1.rV ok1.rM (rH.below ((Below.refl wr.heap.size wr).drew))
      by_cases he : x.ep = ep
      · have he' : (x.ep == ep) = true := by simp [he]
        have HEp : Hid (x.ep = ep) := he
        clear he
        cases hhit : Ld.hitB x.V x.M H
        · rw [hhit] at hcall
          have HHt : Hid (Ld.hitB x.V x.M H = false) := hhit
          clear hhit
          go_wp2
          refine wp_region_held_drew (S := (fun w' => w'.cell? ⟨w.heap.size, 0, none⟩ = some (.int .i64 q) ∧ w'.cell? ⟨w.heap.size, 1, none⟩ = some (.slice (some ⟨b, off, none⟩) n cap) ∧ w'.cell? ⟨w.heap.size + 1, 0, none⟩ = some (.slice aH H.length cH) ∧ w'.cell? ⟨b, off + i * 6, none⟩ = some (.int .i64 x.ep) ∧ w'.cell? ⟨b, off + i * 6 + 1, none⟩ = some (.int .i64 x.pr) ∧ w'.cell? ⟨b, off + i * 6 + 2, none⟩ = some (.slice x.aV x.V.length x.cV) ∧ w'.cell? ⟨b, off + i * 6 + 3, none⟩ = some (.slice x.aM x.M.length x.cM) ∧ w'.cell? ⟨b, off + i * 6 + 4, none⟩ = some (.slice x.aA x.A.length x.cA) ∧ w'.cell? ⟨b, off + i * 6 + 5, none⟩ = some (.int .i64 x.h))) (by kernel_rfl) ⟨p0, p1, h0, c0, c1, c2, c3, c4, c5⟩ (fun hHeld => ?_)
          refine take (i := 0) (d := some 22) (v := .pointer (some ⟨w.heap.size, 1, none⟩)) rfl (by kernel_rfl) (by kernel_rfl) (by kernel_rfl) (by kernel_rfl) (fun _ _ _ h => h) (Or.inl ⟨by rfl, by intro w hSw; go_simp⟩) hHeld ?_
          simp only [Act.put, List.setIfInBounds_toArray, List.set_cons_zero, List.set_cons_succ]
          refine take (i := 1) (d := some 23) (v := .slice (some ⟨b, off, none⟩) n cap) rfl (by kernel_rfl) (by kernel_rfl) (by kernel_rfl) (by kernel_rfl) (fun _ _ _ h => h) (Or.inl ⟨by rfl, by intro w hSw; obtain ⟨p0, p1, h0, c0, c1, c2, c3, c4, c5⟩ := hSw; go_simp⟩) hHeld ?_
          simp only [Act.put, List.setIfInBounds_toArray, List.set_cons_zero, List.set_cons_succ]
          refine take (i := 2) (d := some 24) (v := .int .i64 i) rfl (by kernel_rfl) (by kernel_rfl) (by kernel_rfl) (by kernel_rfl) (fun _ _ _ h => h) (Or.inl ⟨by rfl, by intro w hSw; go_simp⟩) hHeld ?_
          simp only [Act.put, List.setIfInBounds_toArray, List.set_cons_zero, List.set_cons_succ]
          refine take (i := 3) (d := some 25) (v := .pointer (some ⟨b, off + i * 6, none⟩)) rfl (by kernel_rfl) (by kernel_rfl) (by kernel_rfl) (by kernel_rfl) (fun _ _ _ h => h) (Or.inl ⟨by rfl, by intro w hSw; go_simp⟩) hHeld ?_
          simp only [Act.put, List.setIfInBounds_toArray, List.set_cons_zero, List.set_cons_succ]
          refine take (i := 4) (d := some 26) (v := .pointer (some ⟨b, off + i * 6, none⟩)) rfl (by kernel_rfl) (by kernel_rfl) (by kernel_rfl) (by kernel_rfl) (fun _ _ _ h => h) (Or.inl ⟨by rfl, by intro w hSw; go_simp⟩) hHeld ?_
          simp only [Act.put, List.setIfInBounds_toArray, List.set_cons_zero, List.set_cons_succ]
          refine take (i := 5) (d := some 27) (v := .int .i64 x.ep) rfl (by kernel_rfl) (by kernel_rfl) (by kernel_rfl) (by kernel_rfl) (fun _ _ _ h => h) (Or.inl ⟨by rfl, by intro w hSw; obtain ⟨p0, p1, h0, c0, c1, c2, c3, c4, c5⟩ := hSw; go_simp⟩) hHeld ?_
          simp only [Act.put, List.setIfInBounds_toArray, List.set_cons_zero, List.set_cons_succ]
          refine take (i := 6) (d := some 28) (v := .int .i64 ep) rfl (by kernel_rfl) (by kernel_rfl) (by kernel_rfl) (by kernel_rfl) (fun _ _ _ h => h) (Or.inl ⟨by rfl, by intro w hSw; go_simp⟩) hHeld ?_
          simp only [Act.put, List.setIfInBounds_toArray, List.set_cons_zero, List.set_cons_succ]
          refine take (i := 7) (d := some 29) (v := .bool true) rfl (by kernel_rfl) (by kernel_rfl) (by kernel_rfl) (by kernel_rfl) (fun _ _ _ h => h) (Or.inl ⟨by rfl, by intro w hSw; go_simp⟩) hHeld ?_
          simp only [Act.put, List.setIfInBounds_toArray, List.set_cons_zero, List.set_cons_succ]
          refine take (i := 8) (d := some 30) (v := .bool true) rfl (by kernel_rfl) (by kernel_rfl) (by kernel_rfl) (by kernel_rfl) (fun _ _ _ h => h) (Or.inl ⟨by rfl, by intro w hSw; go_simp⟩) hHeld ?_
          simp only [Act.put, List.setIfInBounds_toArray, List.set_cons_zero, List.set_cons_succ]
          refine take (i := 9) (d := some 31) (v := .pointer (some ⟨w.heap.size, 1, none⟩)) rfl (by kernel_rfl) (by kernel_rfl) (by kernel_rfl) (by kernel_rfl) (fun _ _ _ h => h) (Or.inl ⟨by rfl, by intro w hSw; go_simp⟩) hHeld ?_
          simp only [Act.put, List.setIfInBounds_toArray, List.set_cons_zero, List.set_cons_succ]
          refine take (i := 10) (d := some 32) (v := .slice (some ⟨b, off, none⟩) n cap) rfl (by kernel_rfl) (by kernel_rfl) (by kernel_rfl) (by kernel_rfl) (fun _ _ _ h => h) (Or.inl ⟨by rfl, by intro w hSw; obtain ⟨p0, p1, h0, c0, c1, c2, c3, c4, c5⟩ := hSw; go_simp⟩) hHeld ?_
          simp only [Act.put, List.setIfInBounds_toArray, List.set_cons_zero, List.set_cons_succ]
          refine take (i := 11) (d := some 33) (v := .int .i64 i) rfl (by kernel_rfl) (by kernel_rfl) (by kernel_rfl) (by kernel_rfl) (fun _ _ _ h => h) (Or.inl ⟨by rfl, by intro w hSw; go_simp⟩) hHeld ?_
          simp only [Act.put, List.setIfInBounds_toArray, List.set_cons_zero, List.set_cons_succ]
          refine take (i := 12) (d := some 34) (v := .pointer (some ⟨b, off + i * 6, none⟩)) rfl (by kernel_rfl) (by kernel_rfl) (by kernel_rfl) (by kernel_rfl) (fun _ _ _ h => h) (Or.inl ⟨by rfl, by intro w hSw; go_simp⟩) hHeld ?_
          simp only [Act.put, List.setIfInBounds_toArray, List.set_cons_zero, List.set_cons_succ]
          refine take (i := 13) (d := some 35) (v := .pointer (some ⟨b, off + i * 6 + 2, none⟩)) rfl (by kernel_rfl) (by kernel_rfl) (by kernel_rfl) (by kernel_rfl) (fun _ _ _ h => h) (Or.inl ⟨by rfl, by intro w hSw; go_simp⟩) hHeld ?_
          simp only [Act.put, List.setIfInBounds_toArray, List.set_cons_zero, List.set_cons_succ]
          refine take (i := 14) (d := some 36) (v := .agg #[.slice x.aV x.V.length x.cV, .slice x.aM x.M.length x.cM]) rfl (by kernel_rfl) (by kernel_rfl) (by kernel_rfl) (by kernel_rfl) (fun _ _ _ h => h) (Or.inl ⟨by rfl, by intro w hSw; obtain ⟨p0, p1, h0, c0, c1, c2, c3, c4, c5⟩ := hSw; go_simp⟩) hHeld ?_
          simp only [Act.put, List.setIfInBounds_toArray, List.set_cons_zero, List.set_cons_succ]
          refine take (i := 15) (d := some 37) (v := .agg #[.slice aH H.length cH]) rfl (by kernel_rfl) (by kernel_rfl) (by kernel_rfl) (by kernel_rfl) (fun _ _ _ h => h) (Or.inl ⟨by rfl, by intro w hSw; obtain ⟨p0, p1, h0, c0, c1, c2, c3, c4, c5⟩ := hSw; go_simp⟩) hHeld ?_
          simp only [Act.put, List.setIfInBounds_toArray, List.set_cons_zero, List.set_cons_succ]
          refine wpAnyH_ready (rs := [16]) (by kernel_rfl) (by simp) (Rg.call2 (i := 16) rfl (by rfl) 102 (.tmp 36) (.tmp 37) 25 27 (by kernel_rfl) 38 (by kernel_rfl) _ _ (by kernel_rfl) (by kernel_rfl) (fun _ => rfl) (hcall) ?_ AllReadyH.nil)
          rintro e1 w1 ⟨rfl, hb⟩
          refine ⟨_, rfl, ⟨(hb.cell (by exact bt)).trans p0, (hb.cell (by exact bt)).trans p1, (hb.cell (by exact bh)).trans h0, (hb.cell (by exact bl)).trans c0, (hb.cell (by exact bl)).trans c1, (hb.cell (by exact bl)).trans c2, (hb.cell (by exact bl)).trans c3, (hb.cell (by exact bl)).trans c4, (hb.cell (by exact bl)).trans c5⟩, fun hHeld => ?_⟩
          simp only [Act.put, List.setIfInBounds_toArray, List.set_cons_zero, List.set_cons_succ]
          refine take (i := 17) (d := some 39) (v := .bool false) rfl (by kernel_rfl) (by kernel_rfl) (by kernel_rfl) (by kernel_rfl) (fun _ _ _ h => h) (Or.inl ⟨by rfl, by intro w hSw; go_simp⟩) hHeld ?_
          simp only [Act.put, List.setIfInBounds_toArray, List.set_cons_zero, List.set_cons_succ]
          refine wpAnyH_done (by kernel_rfl) ?_ _
          replace kT := (hb.block _ bt).trans kT
          replace kH := (hb.block _ bh).trans kH
          go_wp2
          go_roundw
          case rel => exact ⟨i + 1, by omega, by go_num, Rw.next (by repeat (first | exact hbel | apply Below.drew)) hb, Rw.next (by repeat (first | exact hbb | apply Below.drew)) hb, kT, kH, HGo.out (show (decide (x.ep = ep) && Ld.hitB x.V x.M H) = false by rw [HHt.out]; simp)⟩
          case measure => simp [intOf]; omega
        · rw [hhit] at hcall
          have HHt : Hid (Ld.hitB x.V x.M H = true) := hhit
          clear hhit
          go_wp2
          refine wp_region_held_drew (S := (fun w' => w'.cell? ⟨w.heap.size, 0, none⟩ = some (.int .i64 q) ∧ w'.cell? ⟨w.heap.size, 1, none⟩ = some (.slice (some ⟨b, off, none⟩) n cap) ∧ w'.cell? ⟨w.heap.size + 1, 0, none⟩ = some (.slice aH H.length cH) ∧ w'.cell? ⟨b, off + i * 6, none⟩ = some (.int .i64 x.ep) ∧ w'.cell? ⟨b, off + i * 6 + 1, none⟩ = some (.int .i64 x.pr) ∧ w'.cell? ⟨b, off + i * 6 + 2, none⟩ = some (.slice x.aV x.V.length x.cV) ∧ w'.cell? ⟨b, off + i * 6 + 3, none⟩ = some (.slice x.aM x.M.length x.cM) ∧ w'.cell? ⟨b, off + i * 6 + 4, none⟩ = some (.slice x.aA x.A.length x.cA) ∧ w'.cell? ⟨b, off + i * 6 + 5, none⟩ = some (.int .i64 x.h))) (by kernel_rfl) ⟨p0, p1, h0, c0, c1, c2, c3, c4, c5⟩ (fun hHeld => ?_)
          refine take (i := 0) (d := some 22) (v := .pointer (some ⟨w.heap.size, 1, none⟩)) rfl (by kernel_rfl) (by kernel_rfl) (by kernel_rfl) (by kernel_rfl) (fun _ _ _ h => h) (Or.inl ⟨by rfl, by intro w hSw; go_simp⟩) hHeld ?_
          simp only [Act.put, List.setIfInBounds_toArray, List.set_cons_zero, List.set_cons_succ]
          refine take (i := 1) (d := some 23) (v := .slice (some ⟨b, off, none⟩) n cap) rfl (by kernel_rfl) (by kernel_rfl) (by kernel_rfl) (by kernel_rfl) (fun _ _ _ h => h) (Or.inl ⟨by rfl, by intro w hSw; obtain ⟨p0, p1, h0, c0, c1, c2, c3, c4, c5⟩ := hSw; go_simp⟩) hHeld ?_
          simp only [Act.put, List.setIfInBounds_toArray, List.set_cons_zero, List.set_cons_succ]
          refine take (i := 2) (d := some 24) (v := .int .i64 i) rfl (by kernel_rfl) (by kernel_rfl) (by kernel_rfl) (by kernel_rfl) (fun _ _ _ h => h) (Or.inl ⟨by rfl, by intro w hSw; go_simp⟩) hHeld ?_
          simp only [Act.put, List.setIfInBounds_toArray, List.set_cons_zero, List.set_cons_succ]
          refine take (i := 3) (d := some 25) (v := .pointer (some ⟨b, off + i * 6, none⟩)) rfl (by kernel_rfl) (by kernel_rfl) (by kernel_rfl) (by kernel_rfl) (fun _ _ _ h => h) (Or.inl ⟨by rfl, by intro w hSw; go_simp⟩) hHeld ?_
          simp only [Act.put, List.setIfInBounds_toArray, List.set_cons_zero, List.set_cons_succ]
          refine take (i := 4) (d := some 26) (v := .pointer (some ⟨b, off + i * 6, none⟩)) rfl (by kernel_rfl) (by kernel_rfl) (by kernel_rfl) (by kernel_rfl) (fun _ _ _ h => h) (Or.inl ⟨by rfl, by intro w hSw; go_simp⟩) hHeld ?_
          simp only [Act.put, List.setIfInBounds_toArray, List.set_cons_zero, List.set_cons_succ]
          refine take (i := 5) (d := some 27) (v := .int .i64 x.ep) rfl (by kernel_rfl) (by kernel_rfl) (by kernel_rfl) (by kernel_rfl) (fun _ _ _ h => h) (Or.inl ⟨by rfl, by intro w hSw; obtain ⟨p0, p1, h0, c0, c1, c2, c3, c4, c5⟩ := hSw; go_simp⟩) hHeld ?_
          simp only [Act.put, List.setIfInBounds_toArray, List.set_cons_zero, List.set_cons_succ]
          refine take (i := 6) (d := some 28) (v := .int .i64 ep) rfl (by kernel_rfl) (by kernel_rfl) (by kernel_rfl) (by kernel_rfl) (fun _ _ _ h => h) (Or.inl ⟨by rfl, by intro w hSw; go_simp⟩) hHeld ?_
          simp only [Act.put, List.setIfInBounds_toArray, List.set_cons_zero, List.set_cons_succ]
          refine take (i := 7) (d := some 29) (v := .bool true) rfl (by kernel_rfl) (by kernel_rfl) (by kernel_rfl) (by kernel_rfl) (fun _ _ _ h => h) (Or.inl ⟨by rfl, by intro w hSw; go_simp⟩) hHeld ?_
          simp only [Act.put, List.setIfInBounds_toArray, List.set_cons_zero, List.set_cons_succ]
          refine take (i := 8) (d := some 30) (v := .bool true) rfl (by kernel_rfl) (by kernel_rfl) (by kernel_rfl) (by kernel_rfl) (fun _ _ _ h => h) (Or.inl ⟨by rfl, by intro w hSw; go_simp⟩) hHeld ?_
          simp only [Act.put, List.setIfInBounds_toArray, List.set_cons_zero, List.set_cons_succ]
          refine take (i := 9) (d := some 31) (v := .pointer (some ⟨w.heap.size, 1, none⟩)) rfl (by kernel_rfl) (by kernel_rfl) (by kernel_rfl) (by kernel_rfl) (fun _ _ _ h => h) (Or.inl ⟨by rfl, by intro w hSw; go_simp⟩) hHeld ?_
          simp only [Act.put, List.setIfInBounds_toArray, List.set_cons_zero, List.set_cons_succ]
          refine take (i := 10) (d := some 32) (v := .slice (some ⟨b, off, none⟩) n cap) rfl (by kernel_rfl) (by kernel_rfl) (by kernel_rfl) (by kernel_rfl) (fun _ _ _ h => h) (Or.inl ⟨by rfl, by intro w hSw; obtain ⟨p0, p1, h0, c0, c1, c2, c3, c4, c5⟩ := hSw; go_simp⟩) hHeld ?_
          simp only [Act.put, List.setIfInBounds_toArray, List.set_cons_zero, List.set_cons_succ]
          refine take (i := 11) (d := some 33) (v := .int .i64 i) rfl (by kernel_rfl) (by kernel_rfl) (by kernel_rfl) (by kernel_rfl) (fun _ _ _ h => h) (Or.inl ⟨by rfl, by intro w hSw; go_simp⟩) hHeld ?_
          simp only [Act.put, List.setIfInBounds_toArray, List.set_cons_zero, List.set_cons_succ]
          refine take (i := 12) (d := some 34) (v := .pointer (some ⟨b, off + i * 6, none⟩)) rfl (by kernel_rfl) (by kernel_rfl) (by kernel_rfl) (by kernel_rfl) (fun _ _ _ h => h) (Or.inl ⟨by rfl, by intro w hSw; go_simp⟩) hHeld ?_
          simp only [Act.put, List.setIfInBounds_toArray, List.set_cons_zero, List.set_cons_succ]
          refine take (i := 13) (d := some 35) (v := .pointer (some ⟨b, off + i * 6 + 2, none⟩)) rfl (by kernel_rfl) (by kernel_rfl) (by kernel_rfl) (by kernel_rfl) (fun _ _ _ h => h) (Or.inl ⟨by rfl, by intro w hSw; go_simp⟩) hHeld ?_
          simp only [Act.put, List.setIfInBounds_toArray, List.set_cons_zero, List.set_cons_succ]
          refine take (i := 14) (d := some 36) (v := .agg #[.slice x.aV x.V.length x.cV, .slice x.aM x.M.length x.cM]) rfl (by kernel_rfl) (by kernel_rfl) (by kernel_rfl) (by kernel_rfl) (fun _ _ _ h => h) (Or.inl ⟨by rfl, by intro w hSw; obtain ⟨p0, p1, h0, c0, c1, c2, c3, c4, c5⟩ := hSw; go_simp⟩) hHeld ?_
          simp only [Act.put, List.setIfInBounds_toArray, List.set_cons_zero, List.set_cons_succ]
          refine take (i := 15) (d := some 37) (v := .agg #[.slice aH H.length cH]) rfl (by kernel_rfl) (by kernel_rfl) (by kernel_rfl) (by kernel_rfl) (fun _ _ _ h => h) (Or.inl ⟨by rfl, by intro w hSw; obtain ⟨p0, p1, h0, c0, c1, c2, c3, c4, c5⟩ := hSw; go_simp⟩) hHeld ?_
          simp only [Act.put, List.setIfInBounds_toArray, List.set_cons_zero, List.set_cons_succ]
          refine wpAnyH_ready (rs := [16]) (by kernel_rfl) (by simp) (Rg.call2 (i := 16) rfl (by rfl) 102 (.tmp 36) (.tmp 37) 25 27 (by kernel_rfl) 38 (by kernel_rfl) _ _ (by kernel_rfl) (by kernel_rfl) (fun _ => rfl) (hcall) ?_ AllReadyH.nil)
          rintro e1 w1 ⟨rfl, hb⟩
          refine ⟨_, rfl, ⟨(hb.cell (by exact bt)).trans p0, (hb.cell (by exact bt)).trans p1, (hb.cell (by exact bh)).trans h0, (hb.cell (by exact bl)).trans c0, (hb.cell (by exact bl)).trans c1, (hb.cell (by exact bl)).trans c2, (hb.cell (by exact bl)).trans c3, (hb.cell (by exact bl)).trans c4, (hb.cell (by exact bl)).trans c5⟩, fun hHeld => ?_⟩
          simp only [Act.put, List.setIfInBounds_toArray, List.set_cons_zero, List.set_cons_succ]
          refine take (i := 17) (d := some 39) (v := .bool true) rfl (by kernel_rfl) (by kernel_rfl) (by kernel_rfl) (by kernel_rfl) (fun _ _ _ h => h) (Or.inl ⟨by rfl, by intro w hSw; go_simp⟩) hHeld ?_
          simp only [Act.put, List.setIfInBounds_toArray, List.set_cons_zero, List.set_cons_succ]
          refine wpAnyH_done (by kernel_rfl) ?_ _
          go_wp2
          go_ret
          exact ⟨by rw [← HSt.out (show (decide (x.ep = ep) && Ld.hitB x.V x.M H) = true by rw [HHt.out, decide_eq_true HEp.out]; rfl)]; rfl, Rw.next (by repeat (first | exact hbel | apply Below.drew)) hb⟩
      · have he' : (x.ep == ep) = false := by simpa using he
        have HEp : Hid (¬ x.ep = ep) := he
        clear he
        go_wp2
        refine wp_region_held_drew (S := (fun w' => w'.cell? ⟨w.heap.size, 0, none⟩ = some (.int .i64 q) ∧ w'.cell? ⟨w.heap.size, 1, none⟩ = some (.slice (some ⟨b, off, none⟩) n cap) ∧ w'.cell? ⟨w.heap.size + 1, 0, none⟩ = some (.slice aH H.length cH) ∧ w'.cell? ⟨b, off + i * 6, none⟩ = some (.int .i64 x.ep) ∧ w'.cell? ⟨b, off + i * 6 + 1, none⟩ = some (.int .i64 x.pr) ∧ w'.cell? ⟨b, off + i * 6 + 2, none⟩ = some (.slice x.aV x.V.length x.cV) ∧ w'.cell? ⟨b, off + i * 6 + 3, none⟩ = some (.slice x.aM x.M.length x.cM) ∧ w'.cell? ⟨b, off + i * 6 + 4, none⟩ = some (.slice x.aA x.A.length x.cA) ∧ w'.cell? ⟨b, off + i * 6 + 5, none⟩ = some (.int .i64 x.h))) (by kernel_rfl) ⟨p0, p1, h0, c0, c1, c2, c3, c4, c5⟩ (fun hHeld => ?_)
        refine take (i := 0) (d := some 22) (v := .pointer (some ⟨w.heap.size, 1, none⟩)) rfl (by kernel_rfl) (by kernel_rfl) (by kernel_rfl) (by kernel_rfl) (fun _ _ _ h => h) (Or.inl ⟨by rfl, by intro w hSw; go_simp⟩) hHeld ?_
        simp only [Act.put, List.setIfInBounds_toArray, List.set_cons_zero, List.set_cons_succ]
        refine take (i := 1) (d := some 23) (v := .slice (some ⟨b, off, none⟩) n cap) rfl (by kernel_rfl) (by kernel_rfl) (by kernel_rfl) (by kernel_rfl) (fun _ _ _ h => h) (Or.inl ⟨by rfl, by intro w hSw; obtain ⟨p0, p1, h0, c0, c1, c2, c3, c4, c5⟩ := hSw; go_simp⟩) hHeld ?_
        simp only [Act.put, List.setIfInBounds_toArray, List.set_cons_zero, List.set_cons_succ]
        refine take (i := 2) (d := some 24) (v := .int .i64 i) rfl (by kernel_rfl) (by kernel_rfl) (by kernel_rfl) (by kernel_rfl) (fun _ _ _ h => h) (Or.inl ⟨by rfl, by intro w hSw; go_simp⟩) hHeld ?_
        simp only [Act.put, List.setIfInBounds_toArray, List.set_cons_zero, List.set_cons_succ]
        refine take (i := 3) (d := some 25) (v := .pointer (some ⟨b, off + i * 6, none⟩)) rfl (by kernel_rfl) (by kernel_rfl) (by kernel_rfl) (by kernel_rfl) (fun _ _ _ h => h) (Or.inl ⟨by rfl, by intro w hSw; go_simp⟩) hHeld ?_
        simp only [Act.put, List.setIfInBounds_toArray, List.set_cons_zero, List.set_cons_succ]
        refine take (i := 4) (d := some 26) (v := .pointer (some ⟨b, off + i * 6, none⟩)) rfl (by kernel_rfl) (by kernel_rfl) (by kernel_rfl) (by kernel_rfl) (fun _ _ _ h => h) (Or.inl ⟨by rfl, by intro w hSw; go_simp⟩) hHeld ?_
        simp only [Act.put, List.setIfInBounds_toArray, List.set_cons_zero, List.set_cons_succ]
        refine take (i := 5) (d := some 27) (v := .int .i64 x.ep) rfl (by kernel_rfl) (by kernel_rfl) (by kernel_rfl) (by kernel_rfl) (fun _ _ _ h => h) (Or.inl ⟨by rfl, by intro w hSw; obtain ⟨p0, p1, h0, c0, c1, c2, c3, c4, c5⟩ := hSw; go_simp⟩) hHeld ?_
        simp only [Act.put, List.setIfInBounds_toArray, List.set_cons_zero, List.set_cons_succ]
        refine take (i := 6) (d := some 28) (v := .int .i64 ep) rfl (by kernel_rfl) (by kernel_rfl) (by kernel_rfl) (by kernel_rfl) (fun _ _ _ h => h) (Or.inl ⟨by rfl, by intro w hSw; go_simp⟩) hHeld ?_
        simp only [Act.put, List.setIfInBounds_toArray, List.set_cons_zero, List.set_cons_succ]
        refine take (i := 7) (d := some 29) (v := .bool false) rfl (by kernel_rfl) (by kernel_rfl) (by kernel_rfl) (by kernel_rfl) (fun _ _ _ h => h) (Or.inl ⟨by rfl, by intro w hSw; go_simp⟩) hHeld ?_
        simp only [Act.put, List.setIfInBounds_toArray, List.set_cons_zero, List.set_cons_succ]
        refine take (i := 8) (d := some 30) (v := .bool false) rfl (by kernel_rfl) (by kernel_rfl) (by kernel_rfl) (by kernel_rfl) (fun _ _ _ h => h) (Or.inl ⟨by rfl, by intro w hSw; go_simp⟩) hHeld ?_
        simp only [Act.put, List.setIfInBounds_toArray, List.set_cons_zero, List.set_cons_succ]
        refine take (i := 9) (d := some 31) (v := undef) rfl (by kernel_rfl) (by kernel_rfl) (by kernel_rfl) (by kernel_rfl) (fun _ _ _ h => h) (Or.inr ⟨by rfl, rfl⟩) hHeld ?_
        simp only [Act.put, List.setIfInBounds_toArray, List.set_cons_zero, List.set_cons_succ]
        refine take (i := 10) (d := some 32) (v := undef) rfl (by kernel_rfl) (by kernel_rfl) (by kernel_rfl) (by kernel_rfl) (fun _ _ _ h => h) (Or.inr ⟨by rfl, rfl⟩) hHeld ?_
        simp only [Act.put, List.setIfInBounds_toArray, List.set_cons_zero, List.set_cons_succ]
        refine take (i := 11) (d := some 33) (v := undef) rfl (by kernel_rfl) (by kernel_rfl) (by kernel_rfl) (by kernel_rfl) (fun _ _ _ h => h) (Or.inr ⟨by rfl, rfl⟩) hHeld ?_
        simp only [Act.put, List.setIfInBounds_toArray, List.set_cons_zero, List.set_cons_succ]
        refine take (i := 12) (d := some 34) (v := undef) rfl (by kernel_rfl) (by kernel_rfl) (by kernel_rfl) (by kernel_rfl) (fun _ _ _ h => h) (Or.inr ⟨by rfl, rfl⟩) hHeld ?_
        simp only [Act.put, List.setIfInBounds_toArray, List.set_cons_zero, List.set_cons_succ]
        refine take (i := 13) (d := some 35) (v := undef) rfl (by kernel_rfl) (by kernel_rfl) (by kernel_rfl) (by kernel_rfl) (fun _ _ _ h => h) (Or.inr ⟨by rfl, rfl⟩) hHeld ?_
        simp only [Act.put, List.setIfInBounds_toArray, List.set_cons_zero, List.set_cons_succ]
        refine take (i := 14) (d := some 36) (v := undef) rfl (by kernel_rfl) (by kernel_rfl) (by kernel_rfl) (by kernel_rfl) (fun _ _ _ h => h) (Or.inr ⟨by rfl, rfl⟩) hHeld ?_
        simp only [Act.put, List.setIfInBounds_toArray, List.set_cons_zero, List.set_cons_succ]
        refine take (i := 15) (d := some 37) (v := undef) rfl (by kernel_rfl) (by kernel_rfl) (by kernel_rfl) (by kernel_rfl) (fun _ _ _ h => h) (Or.inr ⟨by rfl, rfl⟩) hHeld ?_
        simp only [Act.put, List.setIfInBounds_toArray, List.set_cons_zero, List.set_cons_succ]
        refine take (i := 16) (d := some 38) (v := undef) rfl (by kernel_rfl) (by kernel_rfl) (by kernel_rfl) (by kernel_rfl) (fun _ _ _ h => h) (Or.inr ⟨by rfl, rfl⟩) hHeld ?_
        simp only [Act.put, List.setIfInBounds_toArray, List.set_cons_zero, List.set_cons_succ]
        refine take (i := 17) (d := some 39) (v := .bool false) rfl (by kernel_rfl) (by kernel_rfl) (by kernel_rfl) (by kernel_rfl) (fun _ _ _ h => h) (Or.inl ⟨by rfl, by intro w hSw; go_simp⟩) hHeld ?_
        simp only [Act.put, List.setIfInBounds_toArray, List.set_cons_zero, List.set_cons_succ]
        refine wpAnyH_done (by kernel_rfl) ?_ _
        go_wp2
        go_roundw
        case rel => exact ⟨i + 1, by omega, by go_num, by repeat (first | exact hbel | apply Below.drew), by repeat (first | exact hbb | apply Below.drew), kT, kH, HGo.out (show (decide (x.ep = ep) && Ld.hitB x.V x.M H) = false by rw [decide_eq_false HEp.out]; rfl)⟩
        case measure => simp [intOf]; omega
    · obtain rfl : i = n := by omega
      go_wp2
      go_ret
      have e1 := fst_one (r := -1) (.inl ⟨rfl, by rw [← HN.out]; exact HP.out⟩) HF.out
      exact ⟨by rw [← e1]; rfl, hbel⟩

end Go.Proofs.Ytcbgnfjnjfaacaa.Lq
namespace Go.Proofs.Ytcbgnfjnjfaacaa.Yj
set_option maxRecDepth 8000
set_option linter.unusedSimpArgs false
open Go Go.RowKit
open Num Pl Hr Hh Pq Ht Yh

theorem four0 {w : World} {g : Nat} {v0 v1 v2 v3 : Value} {t : TypeId} {fr : Nat × Nat} (k : w.heap[g]? = some (.cells #[v0, v1, v2, v3] t fr)) : w.cell? ⟨g, 0, none⟩ = some v0 := by simp [World.cell?, k]
theorem four1 {w : World} {g : Nat} {v0 v1 v2 v3 : Value} {t : TypeId} {fr : Nat × Nat} (k : w.heap[g]? = some (.cells #[v0, v1, v2, v3] t fr)) : w.cell? ⟨g, 1, none⟩ = some v1 := by simp [World.cell?, k]
theorem four2 {w : World} {g : Nat} {v0 v1 v2 v3 : Value} {t : TypeId} {fr : Nat × Nat} (k : w.heap[g]? = some (.cells #[v0, v1, v2, v3] t fr)) : w.cell? ⟨g, 2, none⟩ = some v2 := by simp [World.cell?, k]
theorem four3 {w : World} {g : Nat} {v0 v1 v2 v3 : Value} {t : TypeId} {fr : Nat × Nat} (k : w.heap[g]? = some (.cells #[v0, v1, v2, v3] t fr)) : w.cell? ⟨g, 3, none⟩ = some v3 := by simp [World.cell?, k]

theorem block_set3 {w : World} {g : Nat} {v0 v1 v2 v3 u : Value} {t : TypeId} (k : w.heap[g]? = some (.cells #[v0, v1, v2, v3] t (0, 0))) : (w.setCell ⟨g, 3, none⟩ u).heap[g]? = some (.cells #[v0, v1, v2, u] t (0, 0)) := by
  simp [World.setCell, Array.getElem?_modify, k]
theorem block_set2 {w : World} {g : Nat} {v0 v1 v2 v3 u : Value} {t : TypeId} (k : w.heap[g]? = some (.cells #[v0, v1, v2, v3] t (0, 0))) : (w.setCell ⟨g, 2, none⟩ u).heap[g]? = some (.cells #[v0, v1, u, v3] t (0, 0)) := by
  simp [World.setCell, Array.getElem?_modify, k]

/-- A row of integers that lies below B, or is the call's own. -/
def Safe (w : World) (B b : Nat) (l : List Int) : Prop := l.length = 0 ∨ b < B ∨ ∃ l', Own w b l'
theorem Safe.block {w w' : World} {B b : Nat} {l : List Int} (hS : Safe w B b l) (h0 : l.length ≠ 0) (hb : Below B w w') (hk : ∀ (k : Nat) (cur : Array Value), w.heap[k]? = some (Obj.cells cur 3 (0, 0)) → w'.heap[k]? = w.heap[k]?) : w'.heap[b]? = w.heap[b]? := by
  rcases hS with h | h | ⟨l', ⟨⟨c, hc, _⟩, _⟩⟩
  · exact absurd h h0
  · exact hb.block b h
  · exact hk b c hc
theorem rd_keep {w w' : World} {B b off : Nat} {a : Option Addr} {l : List Int} (h : Rd w a b off l) (hS : Safe w B b l) (hb : Below B w w') (hk : ∀ (k : Nat) (cur : Array Value), w.heap[k]? = some (Obj.cells cur 3 (0, 0)) → w'.heap[k]? = w.heap[k]?) : Rd w' a b off l := by
  refine ⟨h.head, fun i hi => ?_, h.size⟩
  have e : w'.heap[b]? = w.heap[b]? := Safe.block hS (by omega) hb hk
  exact (World.cell?_of_block (a := ⟨b, off + i, none⟩) e).trans (h.cell i hi)
theorem safe_keep {w w' : World} {B b : Nat} {l : List Int} (hS : Safe w B b l) (hk : ∀ (k : Nat) (cur : Array Value), w.heap[k]? = some (Obj.cells cur 3 (0, 0)) → w'.heap[k]? = w.heap[k]?) : Safe w' B b l := by
  rcases hS with h | h | ⟨l', ho⟩
  · exact .inl h
  · exact .inr (.inl h)
  · obtain ⟨⟨c, hc, _⟩, _⟩ := id ho
    exact .inr (.inr ⟨l', ho.of_block (hk b c hc)⟩)

theorem rd_drew {w : World} {a : Option Addr} {b off : Nat} {l : List Int} (h : Rd w a b off l) : Rd w.drew a b off l := h.below (Below.drew (Below.refl _ w))

end Go.Proofs.Ytcbgnfjnjfaacaa.Yj
namespace Go.Proofs.Ytcbgnfjnjfaacaa.Yk
set_option maxRecDepth 8000
set_option linter.unusedSimpArgs false
open Go Go.RowKit
open Num Pl Hr Hh Pq Ht Yh Yj Yb Yc Yd

/-- What an action sends. -/
def goes (hin : Int) (ports : List Int) (now : List Int) (x : A3) : List (Int × List Int) :=
  if x.1 = 1 then (if x.2.1 ∈ ports ∧ x.2.1 ≠ hin then [(x.2.1, now)] else []) else if x.1 = 2 then (ports.filter (fun p => decide (p ≠ hin))).map (fun p => (p, now)) else []
/-- The head behind an action. -/
def next (now : List Int) (x : A3) : List Int := if x.1 = 3 then now.set x.2.1.toNat x.2.2 else now

theorem said_app (Q : List E) (p : Int) (l : List Int) (g c : Nat) : said (Q ++ [⟨p, l, g, c⟩]) = said Q ++ [(p, l)] := by simp [said]
theorem said_len (Q : List E) : (said Q).length = Q.length := by simp [said]
theorem step_b {w w' w'' : World} {B : Nat} (hB : B ≤ w.heap.size) (h : Below w.heap.size w w') (h' : Below B w' w'') : Below B w w'' := (h.mono hB).trans h'


/-- What a flood has sent to the first j ports. -/
def flood (hin : Int) (ports now : List Int) (j : Nat) : List (Int × List Int) := ((ports.take j).filter (fun p => decide (p ≠ hin))).map (fun p => (p, now))
theorem flood_step (hin : Int) (ports now : List Int) (j : Nat) (hj : j < ports.length) : flood hin ports now (j + 1) = flood hin ports now j ++ (if ports.getD j 0 ≠ hin then [(ports.getD j 0, now)] else []) := by
  unfold flood
  rw [List.take_succ_eq_append_getElem hj, List.filter_append, List.map_append]
  have e : ports.getD j 0 = ports[j] := by simp [List.getD, hj]
  rw [e]
  by_cases h : ports[j] = hin <;> simp [h]
theorem flood_len (hin : Int) (ports now : List Int) (j : Nat) : (flood hin ports now j).length ≤ j := by
  unfold flood
  rw [List.length_map]
  exact Nat.le_trans (List.length_filter_le _ _) (by simp; omega)

theorem call3 {md : Region.Mode} {ops : Array Oper} {Q : Exit → Act → World → Prop} {S : World → Prop} {fuel : Nat} {listed : Array Bool} {a : Act} {w : World} {i : Nat} {o : Oper} {rs : List Nat} (hi : ops[i]? = some o) (hw : Region.wanted o (yielded ops a.tmps) = true)
    (f : FuncId) (x y z : Operand) (t t' t'' : TypeId) (hop : o.op = Op.call { callee := Callee.value (Operand.func f), args := #[x, y, z], argTypes := #[t, t', t''] }) (d : Tmp) (hd : o.dst = some d)
    (u u' u'' : Value) (hx : a.eval x = u) (hy : a.eval y = u') (hz : a.eval z = u'') (he : ∀ w, (callFunc f #[u, u', u'']).run Try.prog w = .ok (.enter f #[u, u', u'']) w) {R : Ending → World → Prop} (hc : Calls Try.prog f #[u, u', u''] w R)
    (hk : ∀ e w', R e w' → ∃ v, e = .returned v ∧ S w' ∧ (S w' → wpAnyH Try.prog md ops Q S fuel (listed.setIfInBounds i true) (a.put (some d) v) w'))
    (hs : AllReadyH Try.prog md ops Q S fuel listed a w rs) : AllReadyH Try.prog md ops Q S fuel listed a w (i :: rs) :=
  AllReadyH.cons hi (fun K hK => by
    rw [if_pos hw]
    unfold Oper.wp
    have hf : a.eval (.func f) = .func (.func f) #[] #[] := rfl
    simp [execOp, hop, resolve, invoke, hx, hy, hz, hf, Deferred.ofValue, he w]
    refine hc.mono ?_
    intro e w' hr
    obtain ⟨v, rfl, h1, h2⟩ := hk e w' hr
    exact hK.out _ _ h1 (fun hs' => by rw [hd]; exact h2 hs')) hs

end Go.Proofs.Ytcbgnfjnjfaacaa.Yk
namespace Go.Proofs.Ytcbgnfjnjfaacaa.Em
set_option maxRecDepth 8000
set_option linter.unusedSimpArgs false
set_option linter.unusedVariables false
open Go Go.RowKit
open Num Pl Ea

/-- Actions that may be written. -/
structure WtA (w : World) (a : Option Addr) (g : Nat) (l : List Yb.A3) : Prop where
  head : 0 < l.length → a = some ⟨g, 0, none⟩
  cell : ∀ j, j < l.length * 3 → w.cell? ⟨g, j, none⟩ = some (.int .i64 (Yb.flat l j))
  free : ∀ j, j < l.length * 3 → w.frozen? ⟨g, j, none⟩ = false
  size : l.length ≤ 4194304
theorem WtA.rd {w : World} {a : Option Addr} {g : Nat} {l : List Yb.A3} (h : WtA w a g l) : Yb.Rd w a g 0 l := by
  refine ⟨h.head, fun i hi => ⟨?_, ?_, ?_⟩, h.size⟩
  · rw [← Yb.flat0, Nat.zero_add]; exact h.cell _ (by omega)
  · rw [← Yb.flat1, Nat.zero_add]; exact h.cell _ (by omega)
  · rw [← Yb.flat2, Nat.zero_add]; exact h.cell _ (by omega)
theorem mineA_wt {w : World} {g : Nat} {l : List Yb.A3} (h : Yb.Mine w g l) : WtA w (some ⟨g, 0, none⟩) g l :=
  ⟨fun _ => rfl, fun j hj => h.row.cell hj, fun j hj => h.row.frozen j, h.size⟩
theorem WtA.keep {w w' : World} {a : Option Addr} {g : Nat} {l : List Yb.A3} (h : WtA w a g l) (e : 0 < l.length → w'.heap[g]? = w.heap[g]?) : WtA w' a g l := by
  refine ⟨h.head, fun j hj => ?_, fun j hj => ?_, h.size⟩
  · have := h.cell j hj
    have e := e (by omega)
    simp only [World.cell?, e] at this ⊢; exact this
  · have := h.free j hj
    have e := e (by omega)
    simp only [World.frozen?, e] at this ⊢; exact this
theorem wt_keep {w w' : World} {a : Option Addr} {g : Nat} {l : List Int} (h : Hr.Wt w a g l) (e : 0 < l.length → w'.heap[g]? = w.heap[g]?) : Hr.Wt w' a g l := by
  refine ⟨h.head, fun j hj => ?_, fun j hj => ?_, h.size⟩
  · have := h.cell j hj
    have e := e (by omega)
    simp only [World.cell?, e] at this ⊢; exact this
  · have := h.free j hj
    have e := e (by omega)
    simp only [World.frozen?, e] at this ⊢; exact this
def marksA (k : Int) (n : Nat) : List Yb.A3 := (List.range n).map fun i : Nat => (k + 3 * (i : Int), k + 3 * (i : Int) + 1, k + 3 * (i : Int) + 2)
theorem marksA_len (k : Int) (n : Nat) : (marksA k n).length = n := by simp [marksA]
theorem marksA_flat (k : Int) (n j : Nat) (h : j < n * 3) : Yb.flat (marksA k n) j = k + (j : Int) := by
  have hj : j / 3 < n := by omega
  have e : (marksA k n).getD (j / 3) Yb.z3 = (k + 3 * ((j / 3 : Nat) : Int), k + 3 * ((j / 3 : Nat) : Int) + 1, k + 3 * ((j / 3 : Nat) : Int) + 2) := by simp [marksA, List.getD, hj]
  unfold Yb.flat
  rw [e]
  split
  · simp only; omega
  · split
    · simp only; omega
    · simp only; omega
/-- A cell of a row is written. -/
theorem set_at {w : World} {g n k : Nat} {f : Nat → Value} {u : Value} (h : ∀ i, i < n → w.cell? ⟨g, i, none⟩ = some (f i)) : ∀ i, i < n → (w.setCell ⟨g, k, none⟩ u).cell? ⟨g, i, none⟩ = some (if i = k then u else f i) := by
  intro i hi
  by_cases e : i = k
  · subst e
    rw [World.cell?_setCell_same _ _ _ (h i hi), if_pos rfl]
  · rw [World.cell?_setCell_other _ _ _ _ (by intro q; injection q with q1 q2; exact e q2.symm), h i hi, if_neg e]
def mixA (k : Int) (l : List Yb.A3) (m j : Nat) : Int := if j < m * 3 then k + (j : Int) else Yb.flat l j

set_option maxHeartbeats 1000000 in
theorem markA_any (k0 : Int) (h0 : 0 ≤ k0) (h1 : k0 ≤ 1000000000000) (a : Option Addr) (g cap : Nat) (l : List Yb.A3) (w : World) (h : WtA w a g l) :
    Calls Try.prog 112 #[.slice a l.length cap, .int .i64 k0] w fun e w' => e = .returned (.int .i64 (k0 + 3 * (l.length : Int))) ∧ Mf.Kept g l.length w w' ∧ WtA w' a g (marksA k0 l.length) := by
  obtain ⟨hh, hc, hf, hs⟩ := h
  obtain ⟨n, hn⟩ : ∃ n, n = l.length := ⟨_, rfl⟩
  rw [← hn] at hh hc hf hs ⊢
  have HC : Hid (∀ j, j < n * 3 → w.cell? ⟨g, j, none⟩ = some (.int .i64 (mixA k0 l 0 j))) := fun j hj => by simpa [mixA] using hc j hj
  have HF : Hid (∀ j, j < n * 3 → w.frozen? ⟨g, j, none⟩ = false) := hf
  have HH : Hid (0 < n → a = some ⟨g, 0, none⟩) := hh
  clear hc hf hn
  go_enter Try.func112, Try.ntmps112
  go_wp2
  go_loopw [1, 5] (fun q i wr => ∃ k : Nat, k ≤ n ∧ i = .int .i64 k ∧ q = .int .i64 (k0 + 3 * (k : Int)) ∧ Mf.Kept g n w wr ∧ (∀ j, j < n * 3 → wr.cell? ⟨g, j, none⟩ = some (.int .i64 (mixA k0 l k j))) ∧ ∀ j, j < n * 3 → wr.frozen? ⟨g, j, none⟩ = false) (fun _ i _ => n - (intOf i).toNat)
  case atStart => exact ⟨0, Nat.zero_le _, rfl, by simp, Mf.Kept.refl _ _ _, HC.out, HF.out⟩
  case round =>
    obtain ⟨k, hk, rfl, rfl, hon, hc, hf⟩ := hrel
    by_cases hlt : k < n
    · obtain rfl := hh (by omega)
      have hkz : (k : Int) < (n : Int) := by omega
      have g0 := hc (k * 3) (by omega)
      have g1 := hc (k * 3 + 1) (by omega)
      have g2 := hc (k * 3 + 2) (by omega)
      have f0 := hf (k * 3) (by omega)
      have f1 := hf (k * 3 + 1) (by omega)
      have f2 := hf (k * 3 + 2) (by omega)
      have HC1 : Hid (∀ j, j < n * 3 → wr.cell? ⟨g, j, none⟩ = some (.int .i64 (mixA k0 l k j))) := hc
      have HF1 : Hid (∀ j, j < n * 3 → wr.frozen? ⟨g, j, none⟩ = false) := hf
      clear hc hf HC HF hh
      go_wp2
      go_roundw
      case rel =>
        refine ⟨k + 1, by omega, by go_num, by simp only [Value.int.injEq, true_and]; omega, ?_, fun j hj => ?_, fun j hj => ?_⟩
        · exact ⟨hon.os, hon.tape, hon.output, by simpa using hon.size, fun b hb hne => by
            have hb' : g ≠ b := by rcases hne with h | h <;> omega
            rw [blk_other (blk_other (blk_other rfl hb') hb') hb']
            exact hon.block b hb hne⟩
        · rw [set_at (set_at (set_at HC1.out)) j hj]
          by_cases e2 : j = k * 3 + 2
          · subst e2; rw [if_pos rfl]; simp [mixA]; omega
          · rw [if_neg e2]
            by_cases e1 : j = k * 3 + 1
            · subst e1; rw [if_pos rfl]; simp [mixA]; omega
            · rw [if_neg e1]
              by_cases e0 : j = k * 3
              · subst e0; rw [if_pos rfl]; simp [mixA]; omega
              · rw [if_neg e0]
                have : (j < (k + 1) * 3) = (j < k * 3) := by rw [eq_iff_iff]; omega
                simp [mixA, this]
        · simpa using HF1.out j hj
      case measure => simp [intOf]; omega
    · have he : k = n := by omega
      subst he
      go_wp2
      go_ret
      refine ⟨rfl, hon, ⟨fun h => HH.out (by rwa [marksA_len] at h), fun j hj => ?_, fun j hj => ?_, by rw [marksA_len]; exact hs⟩⟩
      · rw [marksA_len] at hj
        rw [hc j hj, marksA_flat _ _ _ hj]
        simp [mixA, hj]
      · rw [marksA_len] at hj
        exact hf j hj

set_option maxHeartbeats 1000000 in
theorem heldA_any (k0 : Int) (h0 : 0 ≤ k0) (h1 : k0 ≤ 1000000000000) (a : Option Addr) (g cap n : Nat) (w : World) (h : WtA w a g (marksA k0 n)) :
    Calls Try.prog 143 #[.slice a n cap, .int .i64 k0] w fun e w' => e = .returned (.int .i64 (k0 + 3 * (n : Int))) ∧ w' = w := by
  obtain ⟨hh, hc, hf, hs⟩ := h
  rw [marksA_len] at hh hc hf hs
  have hc1 : ∀ j, j < n * 3 → w.cell? ⟨g, j, none⟩ = some (.int .i64 (k0 + (j : Int))) := fun j hj => by rw [hc j hj, marksA_flat _ _ _ hj]
  clear hc hf
  go_enter Try.func143, Try.ntmps143
  go_wp2
  go_loop [1, 5] (fun q i => ∃ k : Nat, k ≤ n ∧ i = .int .i64 k ∧ q = .int .i64 (k0 + 3 * (k : Int))) (fun _ i => n - (intOf i).toNat)
  case atStart => exact ⟨0, Nat.zero_le _, rfl, by simp⟩
  case round =>
    obtain ⟨k, hk, rfl, rfl⟩ := hrel
    by_cases hlt : k < n
    · obtain rfl := hh (by omega)
      have hkz : (k : Int) < (n : Int) := by omega
      obtain ⟨K, hK⟩ : ∃ K : Int, K = k0 + 3 * (k : Int) := ⟨_, rfl⟩
      have g0 : w.cell? ⟨g, k * 3, none⟩ = some (.int .i64 K) := by rw [hc1 (k * 3) (by omega)]; simp only [Option.some.injEq, Value.int.injEq, true_and]; omega
      have g1 : w.cell? ⟨g, k * 3 + 1, none⟩ = some (.int .i64 (K + 1)) := by rw [hc1 (k * 3 + 1) (by omega)]; simp only [Option.some.injEq, Value.int.injEq, true_and]; omega
      have g2 : w.cell? ⟨g, k * 3 + 2, none⟩ = some (.int .i64 (K + 1 + 1)) := by rw [hc1 (k * 3 + 2) (by omega)]; simp only [Option.some.injEq, Value.int.injEq, true_and]; omega
      rw [← hK]
      have HK : Hid (K = k0 + 3 * (k : Int)) := hK
      have b1 : 0 ≤ K ∧ K ≤ 2000000000000 := by omega
      clear hc1 hK
      go_wp2
      go_roundw
      case rel => exact ⟨k + 1, by omega, by go_num, by have := HK.out; simp only [Value.int.injEq, true_and]; omega⟩
      case measure => simp [intOf]; omega
    · have he : k = n := by omega
      subst he
      go_wp2
      go_ret
      exact ⟨rfl, rfl⟩

end Go.Proofs.Ytcbgnfjnjfaacaa.Em
namespace Go.Proofs.Ytcbgnfjnjfaacaa.Em
set_option maxRecDepth 8000
set_option linter.unusedSimpArgs false
set_option linter.unusedVariables false
open Go Go.RowKit
open Num Pl Ea Mf

/-- An entry whose slices may be written. -/
structure WtE (w : World) (e : Ent) : Prop where
  V : Hr.Wt w e.aV e.bV e.V
  M : Hr.Wt w e.aM e.bM e.M
  A : WtA w e.aA e.bA e.A
/-- The blocks of an entry's slices. -/
def Uses (e : Ent) (x : Nat) : Prop := (x = e.bV ∧ 0 < e.V.length) ∨ (x = e.bM ∧ 0 < e.M.length) ∨ (x = e.bA ∧ 0 < e.A.length)
theorem WtE.keep {w w' : World} {e : Ent} (h : WtE w e) (hk : ∀ x, Uses e x → x < w.heap.size → w'.heap[x]? = w.heap[x]?) : WtE w' e :=
  ⟨wt_keep h.V fun h0 => hk _ (.inl ⟨rfl, h0⟩) (by rcases Hr.wt_lt h.V with h1 | h1 <;> omega), wt_keep h.M fun h0 => hk _ (.inr (.inl ⟨rfl, h0⟩)) (by rcases Hr.wt_lt h.M with h1 | h1 <;> omega), h.A.keep fun h0 => hk _ (.inr (.inr ⟨rfl, h0⟩)) (World.block_lt_of_cell? _ _ (h.A.cell 0 (by omega)))⟩
theorem WtE.lt {w : World} {e : Ent} (h : WtE w e) {x : Nat} (hx : Uses e x) : x < w.heap.size := by
  rcases hx with ⟨rfl, h0⟩ | ⟨rfl, h0⟩ | ⟨rfl, h0⟩
  · rcases Hr.wt_lt h.V with h1 | h1 <;> omega
  · rcases Hr.wt_lt h.M with h1 | h1 <;> omega
  · exact World.block_lt_of_cell? _ _ (h.A.cell 0 (by omega))
theorem WtE.below {w w' : World} {e : Ent} (h : WtE w e) (hb : Below w.heap.size w w') : WtE w' e := h.keep fun x _ hx => hb.block x hx
/-- The three slices lie in three blocks. -/
structure Own3 (e : Ent) : Prop where
  d1 : 0 < e.V.length → 0 < e.M.length → e.bV ≠ e.bM
  d2 : 0 < e.V.length → 0 < e.A.length → e.bV ≠ e.bA
  d3 : 0 < e.M.length → 0 < e.A.length → e.bM ≠ e.bA

/-- How many numbers an entry holds; a marked entry. -/
def esz (e : Ent) : Nat := 3 + e.V.length + e.M.length + 3 * e.A.length
def markE (k : Int) (e : Ent) : Ent :=
  { e with ep := k, pr := k + 1, V := marksF (k + 2) e.V.length, M := marksF (k + 2 + (e.V.length : Int)) e.M.length, A := marksA (k + 2 + (e.V.length : Int) + (e.M.length : Int)) e.A.length, h := k + 2 + (e.V.length : Int) + (e.M.length : Int) + 3 * (e.A.length : Int) }
theorem uses_mark {k : Int} {e : Ent} {x : Nat} : Uses (markE k e) x ↔ Uses e x := by
  simp [Uses, markE, marksF_len, marksA_len]
theorem own3_mark {k : Int} {e : Ent} (h : Own3 e) : Own3 (markE k e) :=
  ⟨by simpa [markE, marksF_len] using h.d1, by simpa [markE, marksF_len, marksA_len] using h.d2, by simpa [markE, marksF_len, marksA_len] using h.d3⟩
def vf (f : Nat → Ent) (j : Nat) : Value := (f (j / 6)).vals.getD (j % 6) (.int .i64 0)
/-- A row of n entries that may be written. -/
structure WtF (w : World) (g n : Nat) (f : Nat → Ent) : Prop where
  row : ∀ j, j < n * 6 → w.cell? ⟨g, j, none⟩ = some (vf f j)
  free : ∀ j, j < n * 6 → w.frozen? ⟨g, j, none⟩ = false
  each : ∀ i, i < n → WtE w (f i)
/-- All its blocks lie apart. -/
structure ApF (g n : Nat) (f : Nat → Ent) : Prop where
  far : ∀ i, i < n → ∀ x, Uses (f i) x → x ≠ g
  self : ∀ i, i < n → Own3 (f i)
  diff : ∀ i j, i < n → j < n → i ≠ j → ∀ x, Uses (f i) x → ∀ y, Uses (f j) y → x ≠ y
/-- All is kept but the blocks U. -/
structure KeptP (U : Nat → Prop) (w w' : World) : Prop where
  os : w'.os = w.os
  tape : w'.tape = w.tape
  output : w'.output = w.output
  size : w.heap.size ≤ w'.heap.size
  block : ∀ k, k < w.heap.size → ¬ U k → w'.heap[k]? = w.heap[k]?
theorem KeptP.refl (U : Nat → Prop) (w : World) : KeptP U w w := ⟨rfl, rfl, rfl, Nat.le_refl _, fun _ _ _ => rfl⟩
theorem KeptP.trans {U : Nat → Prop} {a b c : World} (h : KeptP U a b) (h' : KeptP U b c) : KeptP U a c :=
  ⟨h'.os.trans h.os, h'.tape.trans h.tape, h'.output.trans h.output, Nat.le_trans h.size h'.size, fun k hk hu => (h'.block k (Nat.lt_of_lt_of_le hk h.size) hu).trans (h.block k hk hu)⟩
theorem KeptP.set {U : Nat → Prop} {w : World} {g i : Nat} {u : Value} (hg : U g) : KeptP U w (w.setCell ⟨g, i, none⟩ u) :=
  ⟨rfl, rfl, rfl, by simp, fun k _ hu => blk_other rfl (fun e => hu (e ▸ hg))⟩
theorem KeptP.kept {U : Nat → Prop} {w w' : World} {g n : Nat} (h : Kept g n w w') (hg : 0 < n → U g) : KeptP U w w' :=
  ⟨h.os, h.tape, h.output, h.size, fun k hk hu => h.block k hk (by
    rcases Nat.eq_zero_or_pos n with h0 | h0
    · exact .inl h0
    · exact .inr (fun e => hu (e ▸ hg h0)))⟩
theorem KeptP.mono {U U' : Nat → Prop} {w w' : World} (h : KeptP U w w') (hu : ∀ x, U x → U' x) : KeptP U' w w' :=
  ⟨h.os, h.tape, h.output, h.size, fun k hk hn => h.block k hk (fun h1 => hn (hu k h1))⟩
theorem KeptP.below {U : Nat → Prop} {w w' w0 : World} (h : KeptP U w w') (hb : Below w0.heap.size w0 w) (hu : ∀ x, U x → w0.heap.size ≤ x) : Below w0.heap.size w0 w' :=
  ⟨h.os.trans hb.os, h.tape.trans hb.tape, h.output.trans hb.output, Nat.le_trans hb.size h.size, fun k hk => (h.block k (Nat.lt_of_lt_of_le hk hb.size) (fun h1 => by have := hu k h1; omega)).trans (hb.block k hk)⟩
theorem KeptP.pre {U : Nat → Prop} {w w' w0 : World} (hb : Below w0.heap.size w0 w) (h : KeptP U w w') : KeptP U w0 w' :=
  ⟨h.os.trans hb.os, h.tape.trans hb.tape, h.output.trans hb.output, Nat.le_trans hb.size h.size, fun k hk hu => (h.block k (Nat.lt_of_lt_of_le hk hb.size) hu).trans (hb.block k hk)⟩

def upd (f : Nat → Ent) (k : Nat) (e : Ent) : Nat → Ent := fun i => if i = k then e else f i
theorem vf_mark {f : Nat → Ent} {k : Nat} {K : Int} (j : Nat) : vf (upd f k (markE K (f k))) j = if j = k * 6 + 5 then .int .i64 (markE K (f k)).h else if j = k * 6 + 1 then .int .i64 (K + 1) else if j = k * 6 then .int .i64 K else vf f j := by
  unfold vf upd
  by_cases e : j / 6 = k
  · rw [if_pos e]
    have hr : j % 6 < 6 := Nat.mod_lt _ (by omega)
    by_cases e5 : j = k * 6 + 5
    · rw [if_pos e5, show j % 6 = 5 by omega]; rfl
    rw [if_neg e5]
    by_cases e1 : j = k * 6 + 1
    · rw [if_pos e1, show j % 6 = 1 by omega]; rfl
    rw [if_neg e1]
    by_cases e0 : j = k * 6
    · rw [if_pos e0, show j % 6 = 0 by omega]; rfl
    rw [if_neg e0, e]
    have e2 : j % 6 = 2 ∨ j % 6 = 3 ∨ j % 6 = 4 := by omega
    rcases e2 with e2 | e2 | e2 <;> rw [e2] <;> simp [Ent.vals, markE, marksF_len, marksA_len]
  · rw [if_neg e, if_neg (by omega), if_neg (by omega), if_neg (by omega)]

/-- One entry is marked. -/
theorem mark_round {w w2 w3 w4 : World} {g n k : Nat} {f : Nat → Ent} {K : Int} {u v x : Value} (h : WtF w g n f) (ha : ApF g n f) (hk : k < n) (hg : g < w.heap.size)
    (hu : u = .int .i64 K) (hv : v = .int .i64 (K + 1)) (hx : x = .int .i64 (markE K (f k)).h)
    (k2 : Kept (f k).bV (f k).V.length ((w.setCell ⟨g, k * 6, none⟩ u).setCell ⟨g, k * 6 + 1, none⟩ v) w2) (m2 : Hr.Wt w2 (f k).aV (f k).bV (markE K (f k)).V)
    (k3 : Kept (f k).bM (f k).M.length w2 w3) (m3 : Hr.Wt w3 (f k).aM (f k).bM (markE K (f k)).M)
    (k4 : Kept (f k).bA (f k).A.length w3 w4) (m4 : WtA w4 (f k).aA (f k).bA (markE K (f k)).A) :
    WtF (w4.setCell ⟨g, k * 6 + 5, none⟩ x) g n (upd f k (markE K (f k))) ∧ KeptP (fun b => b = g ∨ Uses (f k) b) w (w4.setCell ⟨g, k * 6 + 5, none⟩ x) := by
  have s2 : w.heap.size ≤ w2.heap.size := by simpa using k2.size
  have s3 := Nat.le_trans s2 k3.size
  have fg := ha.far k hk
  have gV : (f k).V.length = 0 ∨ g ≠ (f k).bV := by
    rcases Nat.eq_zero_or_pos (f k).V.length with h0 | h0
    · exact .inl h0
    · exact .inr (fun e => fg _ (.inl ⟨rfl, h0⟩) e.symm)
  have gM : (f k).M.length = 0 ∨ g ≠ (f k).bM := by
    rcases Nat.eq_zero_or_pos (f k).M.length with h0 | h0
    · exact .inl h0
    · exact .inr (fun e => fg _ (.inr (.inl ⟨rfl, h0⟩)) e.symm)
  have gA : (f k).A.length = 0 ∨ g ≠ (f k).bA := by
    rcases Nat.eq_zero_or_pos (f k).A.length with h0 | h0
    · exact .inl h0
    · exact .inr (fun e => fg _ (.inr (.inr ⟨rfl, h0⟩)) e.symm)
  have bg : w4.heap[g]? = ((w.setCell ⟨g, k * 6, none⟩ u).setCell ⟨g, k * 6 + 1, none⟩ v).heap[g]? := (k4.block g (by omega) gA).trans ((k3.block g (by omega) gM).trans (k2.block g (by simpa using hg) gV))
  have kp : KeptP (fun b => b = g ∨ Uses (f k) b) w (w4.setCell ⟨g, k * 6 + 5, none⟩ x) :=
    (((((KeptP.set (.inl rfl)).trans (KeptP.set (.inl rfl))).trans (KeptP.kept k2 (fun h0 => .inr (.inl ⟨rfl, h0⟩)))).trans (KeptP.kept k3 (fun h0 => .inr (.inr (.inl ⟨rfl, h0⟩))))).trans (KeptP.kept k4 (fun h0 => .inr (.inr (.inr ⟨rfl, h0⟩))))).trans (KeptP.set (.inl rfl))
  refine ⟨⟨fun j hj => ?_, fun j hj => ?_, fun i hi => ?_⟩, kp⟩
  · have r1 := set_at (k := k * 6 + 1) (u := v) (set_at (k := k * 6) (u := u) h.row)
    have r4 : ∀ i, i < n * 6 → w4.cell? ⟨g, i, none⟩ = some (if i = k * 6 + 1 then v else if i = k * 6 then u else vf f i) := fun i hi => by
      have := r1 i hi
      simp only [World.cell?, bg] at this ⊢; exact this
    rw [set_at r4 j hj, vf_mark, hu, hv, hx]
  · have := h.free j hj
    have e1 : w4.frozen? ⟨g, j, none⟩ = w.frozen? ⟨g, j, none⟩ := by
      have e2 : ((w.setCell ⟨g, k * 6, none⟩ u).setCell ⟨g, k * 6 + 1, none⟩ v).frozen? ⟨g, j, none⟩ = w.frozen? ⟨g, j, none⟩ := by simp
      rw [← e2]
      simp only [World.frozen?, bg]
    simp [e1, this]
  · by_cases e : i = k
    · subst e
      have hs := ha.self i hi
      have ev : upd f i (markE K (f i)) i = markE K (f i) := by simp [upd]
      rw [ev]
      have lV : (markE K (f i)).V.length = (f i).V.length := by simp [markE, marksF_len]
      have lM : (markE K (f i)).M.length = (f i).M.length := by simp [markE, marksF_len]
      have lA : (markE K (f i)).A.length = (f i).A.length := by simp [markE, marksA_len]
      refine ⟨wt_keep m2 fun h0 => ?_, wt_keep m3 fun h0 => ?_, m4.keep fun h0 => ?_⟩
      · rw [lV] at h0
        have hl : (f i).bV < w2.heap.size := by rcases Hr.wt_lt m2 with h1 | h1 <;> omega
        show (w4.setCell ⟨g, i * 6 + 5, none⟩ x).heap[(f i).bV]? = w2.heap[(f i).bV]?
        rw [blk_other rfl (fun e => fg _ (.inl ⟨rfl, h0⟩) e.symm), k4.block _ (by have := k3.size; omega) (by
          rcases Nat.eq_zero_or_pos (f i).A.length with h1 | h1
          · exact .inl h1
          · exact .inr (hs.d2 h0 h1)), k3.block _ hl (by
          rcases Nat.eq_zero_or_pos (f i).M.length with h1 | h1
          · exact .inl h1
          · exact .inr (hs.d1 h0 h1))]
      · rw [lM] at h0
        have hl : (f i).bM < w3.heap.size := by rcases Hr.wt_lt m3 with h1 | h1 <;> omega
        show (w4.setCell ⟨g, i * 6 + 5, none⟩ x).heap[(f i).bM]? = w3.heap[(f i).bM]?
        rw [blk_other rfl (fun e => fg _ (.inr (.inl ⟨rfl, h0⟩)) e.symm), k4.block _ hl (by
          rcases Nat.eq_zero_or_pos (f i).A.length with h1 | h1
          · exact .inl h1
          · exact .inr (hs.d3 h0 h1))]
      · rw [lA] at h0
        exact blk_other rfl (fun e => fg _ (.inr (.inr ⟨rfl, h0⟩)) e.symm)
    · have ev : upd f k (markE K (f k)) i = f i := by simp [upd, e]
      rw [ev]
      exact (h.each i hi).keep fun b hb hl => kp.block b hl (fun h1 => by
        rcases h1 with h1 | h1
        · exact ha.far i hi b hb h1
        · exact ha.diff i k hi hk e b hb b h1 rfl)

end Go.Proofs.Ytcbgnfjnjfaacaa.Em
namespace Go.Proofs.Ytcbgnfjnjfaacaa.Em
set_option maxRecDepth 8000
set_option linter.unusedSimpArgs false
set_option linter.unusedVariables false
open Go Go.RowKit
open Num Pl Ea Mf

/-- How many numbers the first k entries hold. -/
def kAt (f : Nat → Ent) : Nat → Nat
  | 0 => 0
  | k + 1 => kAt f k + esz (f k)
theorem kAt_mono (f : Nat → Ent) {i j : Nat} (h : i ≤ j) : kAt f i ≤ kAt f j := by
  induction j with
  | zero => have : i = 0 := by omega
            subst this; exact Nat.le_refl _
  | succ j ih =>
    rcases Nat.lt_or_ge i (j + 1) with h1 | h1
    · have := ih (by omega); simp only [kAt]; omega
    · have : i = j + 1 := by omega
      subst this; exact Nat.le_refl _
/-- The first m entries are marked. -/
def mid (k0 : Int) (f : Nat → Ent) (m : Nat) : Nat → Ent := fun i => if i < m then markE (k0 + (kAt f i : Int)) (f i) else f i
theorem mid_uses {k0 : Int} {f : Nat → Ent} {m i x : Nat} : Uses (mid k0 f m i) x ↔ Uses (f i) x := by
  unfold mid
  split
  · exact uses_mark
  · exact Iff.rfl
theorem mid_ap {k0 : Int} {f : Nat → Ent} {m g n : Nat} (h : ApF g n f) : ApF g n (mid k0 f m) := by
  refine ⟨fun i hi x hx => h.far i hi x (mid_uses.1 hx), fun i hi => ?_, fun i j hi hj hij x hx y hy => h.diff i j hi hj hij x (mid_uses.1 hx) y (mid_uses.1 hy)⟩
  unfold mid
  split
  · exact own3_mark (h.self i hi)
  · exact h.self i hi
theorem mid_at {k0 : Int} {f : Nat → Ent} {m : Nat} : mid k0 f m m = f m := by simp [mid]
theorem mid_step {k0 : Int} {f : Nat → Ent} {m : Nat} : upd (mid k0 f m) m (markE (k0 + (kAt f m : Int)) (mid k0 f m m)) = mid k0 f (m + 1) := by
  funext i
  unfold upd
  rw [mid_at]
  by_cases e : i = m
  · subst e; simp [mid]
  · rw [if_neg e]
    unfold mid
    have : (i < m + 1) = (i < m) := by rw [eq_iff_iff]; omega
    simp [this]

theorem apart_or {n m : Nat} {x y : Nat} (h : 0 < n → 0 < m → x ≠ y) (hm : 0 < m) : n = 0 ∨ y ≠ x := by
  rcases Nat.eq_zero_or_pos n with h0 | h0
  · exact .inl h0
  · exact .inr (Ne.symm (h h0 hm))
theorem keepM {e : Ent} {w1 w2 : World} (ap : Own3 e) (h : WtE w1 e) (k : Kept e.bV e.V.length w1 w2) : Hr.Wt w2 e.aM e.bM e.M ∧ WtA w2 e.aA e.bA e.A :=
  ⟨wt_keep h.M fun h0 => k.block _ (h.lt (.inr (.inl ⟨rfl, h0⟩))) (apart_or ap.d1 h0), h.A.keep fun h0 => k.block _ (h.lt (.inr (.inr ⟨rfl, h0⟩))) (apart_or ap.d2 h0)⟩
theorem keepA {e : Ent} {w1 w2 : World} (ap : Own3 e) (h : WtA w1 e.aA e.bA e.A) (k : Kept e.bM e.M.length w1 w2) : WtA w2 e.aA e.bA e.A :=
  h.keep fun h0 => k.block _ (World.block_lt_of_cell? _ _ (h.cell 0 (by omega))) (apart_or ap.d3 h0)
theorem mid_zero {k0 : Int} {f : Nat → Ent} : mid k0 f 0 = f := by
  funext i
  simp [mid]

set_option maxHeartbeats 4000000 in
theorem markS_any (k0 : Int) (h0 : 0 ≤ k0) (a : Option Addr) (g cap n : Nat) (f : Nat → Ent) (w : World) (hh : 0 < n → a = some ⟨g, 0, none⟩) (h : WtF w g n f) (ha : ApF g n f) (hs : n ≤ 4194304) (h1 : k0 + (kAt f n : Int) ≤ 100000000000) :
    Calls Try.prog 111 #[.slice a n cap, .int .i64 k0] w fun e w' => e = .returned (.int .i64 (k0 + (kAt f n : Int))) ∧ KeptP (fun b => 0 < n ∧ b = g ∨ ∃ i, i < n ∧ Uses (f i) b) w w' ∧ WtF w' g n (mid k0 f n) := by
  have H0 : Hid (WtF w g n f) := h
  have HA : Hid (ApF g n f) := ha
  clear h ha
  go_enter Try.func111, Try.ntmps111
  go_wp2
  go_loopw [1, 5] (fun q i wr => ∃ k : Nat, k ≤ n ∧ i = .int .i64 k ∧ q = .int .i64 (k0 + (kAt f k : Int)) ∧ KeptP (fun b => 0 < n ∧ b = g ∨ ∃ i, i < n ∧ Uses (f i) b) w wr ∧ WtF wr g n (mid k0 f k)) (fun _ i _ => n - (intOf i).toNat)
  case atStart => exact ⟨0, Nat.zero_le _, rfl, by simp [kAt], KeptP.refl _ _, by rw [mid_zero]; exact H0.out⟩
  case round =>
    obtain ⟨k, hk, rfl, rfl, hkp, hw⟩ := hrel
    by_cases hlt : k < n
    · obtain rfl := hh (by omega)
      have hkz : (k : Int) < (n : Int) := by omega
      have km := kAt_mono f (i := k + 1) (j := n) (by omega)
      obtain ⟨K, hK⟩ : ∃ K : Int, K = k0 + (kAt f k : Int) := ⟨_, rfl⟩
      obtain ⟨e, he⟩ : ∃ e, e = f k := ⟨_, rfl⟩
      simp only [kAt] at km
      rw [← he] at km
      unfold esz at km
      rw [← hK]
      have hrow := hw.row
      have hfr := hw.free
      have hE := hw.each k hlt
      rw [mid_at, ← he] at hE
      have ee : ∀ j, j < 6 → vf (mid k0 f k) (k * 6 + j) = e.vals.getD j (.int .i64 0) := fun j hj => by
        unfold vf
        rw [show (k * 6 + j) / 6 = k by omega, show (k * 6 + j) % 6 = j by omega, mid_at, ← he]
      have c0 := hrow (k * 6) (by omega)
      have c1 := hrow (k * 6 + 1) (by omega)
      have c2 := hrow (k * 6 + 2) (by omega)
      have c3 := hrow (k * 6 + 3) (by omega)
      have c4 := hrow (k * 6 + 4) (by omega)
      have c5 := hrow (k * 6 + 5) (by omega)
      have e00 := ee 0 (by omega)
      rw [Nat.add_zero] at e00
      rw [e00] at c0
      rw [ee 1 (by omega)] at c1
      rw [ee 2 (by omega)] at c2
      rw [ee 3 (by omega)] at c3
      rw [ee 4 (by omega)] at c4
      rw [ee 5 (by omega)] at c5
      simp only [ent_vals] at c0 c1 c2 c3 c4 c5
      simp at c0 c1 c2 c3 c4 c5
      have f0 := hfr (k * 6) (by omega)
      have f1 := hfr (k * 6 + 1) (by omega)
      have f5 := hfr (k * 6 + 5) (by omega)
      have hg : g < wr.heap.size := World.block_lt_of_cell? _ _ c0
      have HW : Hid (WtF wr g n (mid k0 f k)) := hw
      have HK : Hid (K = k0 + (kAt f k : Int)) := hK
      have HE : Hid (e = f k) := he
      have hb1 : 0 ≤ K ∧ K + 3 + (e.V.length : Int) + (e.M.length : Int) + 3 * (e.A.length : Int) ≤ 100000000000 := by omega
      clear hrow hfr hw ee e00 hK he km h1 hh
      obtain ⟨W1, hW1⟩ : ∃ W1, W1 = (wr.setCell ⟨g, k * 6, none⟩ (.int .i64 K)).setCell ⟨g, k * 6 + 1, none⟩ (.int .i64 (K + 1)) := ⟨_, rfl⟩
      have hfar := mid_ap (k0 := k0) (m := k) HA.out
      have fg := hfar.far k hlt
      rw [mid_at, ← HE.out] at fg
      have hE1 : WtE W1 e := hE.keep fun x hx _ => by
        subst hW1
        have := fg x hx
        exact blk_other (blk_other rfl (Ne.symm this)) (Ne.symm this)
      have q2 : W1.cell? ⟨g, k * 6 + 2, none⟩ = some (.slice e.aV e.V.length e.cV) := by subst hW1; rw [World.cell?_setCell_other _ _ _ _ (by simp), World.cell?_setCell_other _ _ _ _ (by simp)]; exact c2
      have q3 : W1.cell? ⟨g, k * 6 + 3, none⟩ = some (.slice e.aM e.M.length e.cM) := by subst hW1; rw [World.cell?_setCell_other _ _ _ _ (by simp), World.cell?_setCell_other _ _ _ _ (by simp)]; exact c3
      have q4 : W1.cell? ⟨g, k * 6 + 4, none⟩ = some (.slice e.aA e.A.length e.cA) := by subst hW1; rw [World.cell?_setCell_other _ _ _ _ (by simp), World.cell?_setCell_other _ _ _ _ (by simp)]; exact c4
      have q5 : W1.cell? ⟨g, k * 6 + 5, none⟩ = some (.int .i64 e.h) := by subst hW1; rw [World.cell?_setCell_other _ _ _ _ (by simp), World.cell?_setCell_other _ _ _ _ (by simp)]; exact c5
      have r5 : W1.frozen? ⟨g, k * 6 + 5, none⟩ = false := by subst hW1; simpa using f5
      have hgW : g < W1.heap.size := World.block_lt_of_cell? _ _ q2
      have t1 : True := trivial
      have keepG : ∀ {b m : Nat} {w1 w2 : World}, Kept b m w1 w2 → (0 < m → Uses e b) → g < w1.heap.size → w2.heap[g]? = w1.heap[g]? := fun hk hu hl => hk.block g hl (by
        rename_i b m w1 w2
        rcases Nat.eq_zero_or_pos m with h0 | h0
        · exact .inl h0
        · exact .inr (fun e1 => fg b (hu h0) e1.symm))
      have ap := hfar.self k hlt
      rw [mid_at, ← HE.out] at ap
      clear hE c3 c4 c5 hfar
      have HFg : Hid (∀ x, Uses e x → x ≠ g) := fg
      have HAp : Hid (Own3 e) := ap
      clear fg ap keepG
      have cell_of : ∀ {w1 w2 : World} {j : Nat}, w2.heap[g]? = w1.heap[g]? → w2.cell? ⟨g, j, none⟩ = w1.cell? ⟨g, j, none⟩ := fun hb => by simp only [World.cell?, hb]
      have fro_of : ∀ {w1 w2 : World} {j : Nat}, w2.heap[g]? = w1.heap[g]? → w2.frozen? ⟨g, j, none⟩ = w1.frozen? ⟨g, j, none⟩ := fun hb => by simp only [World.frozen?, hb]
      have keepG : ∀ {b m : Nat} {w1 w2 : World}, Kept b m w1 w2 → (0 < m → Uses e b) → g < w1.heap.size → w2.heap[g]? = w1.heap[g]? := fun {b m w1 w2} hk hu hl => hk.block g hl (by
        rcases Nat.eq_zero_or_pos m with h0 | h0
        · exact .inl h0
        · exact .inr (fun e1 => HFg.out b (hu h0) e1.symm))
      go_wp2_with (first
        | (go_at_call 57; clear t1; rw [← hW1]; refine (markF_any _ (by omega) (by omega) _ _ _ e.V _ hE1.V).mono ?_; rintro x w2 ⟨rfl, kk2, m2⟩; have g2 := keepG kk2 (fun h => .inl ⟨rfl, h⟩) hgW; replace q3 := (cell_of g2).trans q3; replace q4 := (cell_of g2).trans q4; replace q5 := (cell_of g2).trans q5; replace r5 := (fro_of g2).trans r5; obtain ⟨mM, mA⟩ := keepM HAp.out hE1 kk2; have hg2 := Nat.lt_of_lt_of_le hgW kk2.size; have t2 : True := trivial)
        | (go_at_call 57; clear t2; refine (markF_any _ (by omega) (by omega) _ _ _ e.M _ mM).mono ?_; rintro x w3 ⟨rfl, kk3, m3⟩; have g3 := keepG kk3 (fun h => .inr (.inl ⟨rfl, h⟩)) hg2; replace q4 := (cell_of g3).trans q4; replace q5 := (cell_of g3).trans q5; replace r5 := (fro_of g3).trans r5; replace mA := keepA HAp.out mA kk3; have hg3 := Nat.lt_of_lt_of_le hg2 kk3.size)
        | (go_at_call 112; refine (markA_any _ (by omega) (by omega) _ _ _ e.A _ mA).mono ?_; rintro x w4 ⟨rfl, kk4, m4⟩; have g4 := keepG kk4 (fun h => .inr (.inr ⟨rfl, h⟩)) hg3; replace q5 := (cell_of g4).trans q5; replace r5 := (fro_of g4).trans r5))
      go_roundw
      case rel =>
        have z2 : K + 1 + 1 = K + 2 := by omega
        rw [z2] at m2 m3 m4
        have hEe := HE.out
        obtain ⟨a1, a2⟩ := mark_round (K := K) (k := k) (x := .int .i64 (K + 1 + 1 + (e.V.length : Int) + (e.M.length : Int) + 3 * (e.A.length : Int))) HW.out (mid_ap HA.out) hlt hg rfl rfl (by rw [mid_at, ← hEe]; simp only [markE, Value.int.injEq, true_and]; omega) (by rw [mid_at, ← hEe, ← hW1]; exact kk2) (by rw [mid_at, ← hEe]; exact m2) (by rw [mid_at, ← hEe]; exact kk3) (by rw [mid_at, ← hEe]; exact m3) (by rw [mid_at, ← hEe]; exact kk4) (by rw [mid_at, ← hEe]; exact m4)
        have hKe := HK.out
        rw [hKe, mid_step] at a1
        refine ⟨k + 1, by omega, by go_num, ?_, hkp.trans ?_, ?_⟩
        · simp only [Value.int.injEq, true_and, kAt, esz]; rw [← hEe]; omega
        · exact a2.mono fun b hb => by
            rcases hb with hb | hb
            · exact .inl ⟨by omega, hb⟩
            · rw [mid_at] at hb
              exact .inr ⟨k, hlt, hb⟩
        · rw [← hKe] at a1; exact a1
      case measure => simp [intOf]; omega
    · have he : k = n := by omega
      subst he
      go_wp2
      go_ret
      exact ⟨rfl, hkp, hw⟩

set_option maxHeartbeats 4000000 in
theorem heldS_any (k0 : Int) (h0 : 0 ≤ k0) (a : Option Addr) (g cap n : Nat) (f : Nat → Ent) (w : World) (hh : 0 < n → a = some ⟨g, 0, none⟩) (h : WtF w g n (mid k0 f n)) (hs : n ≤ 4194304) (h1 : k0 + (kAt f n : Int) ≤ 100000000000) :
    Calls Try.prog 113 #[.slice a n cap, .int .i64 k0] w fun e w' => e = .returned (.int .i64 (k0 + (kAt f n : Int))) ∧ w' = w := by
  have HW : Hid (WtF w g n (mid k0 f n)) := h
  clear h
  go_enter Try.func113, Try.ntmps113
  go_wp2
  go_loop [1, 5] (fun q i => ∃ k : Nat, k ≤ n ∧ i = .int .i64 k ∧ q = .int .i64 (k0 + (kAt f k : Int))) (fun _ i => n - (intOf i).toNat)
  case atStart => exact ⟨0, Nat.zero_le _, rfl, by simp [kAt]⟩
  case round =>
    obtain ⟨k, hk, rfl, rfl⟩ := hrel
    by_cases hlt : k < n
    · obtain rfl := hh (by omega)
      have hkz : (k : Int) < (n : Int) := by omega
      have km := kAt_mono f (i := k + 1) (j := n) (by omega)
      obtain ⟨K, hK⟩ : ∃ K : Int, K = k0 + (kAt f k : Int) := ⟨_, rfl⟩
      obtain ⟨e, he⟩ : ∃ e, e = f k := ⟨_, rfl⟩
      simp only [kAt] at km
      rw [← he] at km
      unfold esz at km
      rw [← hK]
      have hrow := HW.out.row
      have hE := HW.out.each k hlt
      have em : mid k0 f n k = markE K e := by unfold mid; rw [if_pos hlt, ← hK, ← he]
      rw [em] at hE
      have ee : ∀ j, j < 6 → vf (mid k0 f n) (k * 6 + j) = (markE K e).vals.getD j (.int .i64 0) := fun j hj => by
        unfold vf
        rw [show (k * 6 + j) / 6 = k by omega, show (k * 6 + j) % 6 = j by omega, em]
      have c0 := hrow (k * 6) (by omega)
      have c1 := hrow (k * 6 + 1) (by omega)
      have c2 := hrow (k * 6 + 2) (by omega)
      have c3 := hrow (k * 6 + 3) (by omega)
      have c4 := hrow (k * 6 + 4) (by omega)
      have c5 := hrow (k * 6 + 5) (by omega)
      have e00 := ee 0 (by omega)
      rw [Nat.add_zero] at e00
      rw [e00] at c0
      rw [ee 1 (by omega)] at c1
      rw [ee 2 (by omega)] at c2
      rw [ee 3 (by omega)] at c3
      rw [ee 4 (by omega)] at c4
      rw [ee 5 (by omega)] at c5
      simp only [ent_vals, markE] at c0 c1 c2 c3 c4 c5
      simp [marksF_len, marksA_len] at c0 c1 c2 c3 c4 c5
      have HK : Hid (K = k0 + (kAt f k : Int)) := hK
      have HE : Hid (e = f k) := he
      have hb1 : 0 ≤ K ∧ K + 3 + (e.V.length : Int) + (e.M.length : Int) + 3 * (e.A.length : Int) ≤ 100000000000 := by omega
      have v1 : Hr.Wt w e.aV e.bV (marksF (K + 1 + 1) e.V.length) := by have := hE.V; rw [show K + 1 + 1 = K + 2 by omega]; exact this
      have v2 : Hr.Wt w e.aM e.bM (marksF (K + 1 + 1 + (e.V.length : Int)) e.M.length) := by have := hE.M; rw [show K + 1 + 1 + (e.V.length : Int) = K + 2 + (e.V.length : Int) by omega]; exact this
      have v3 : WtA w e.aA e.bA (marksA (K + 1 + 1 + (e.V.length : Int) + (e.M.length : Int)) e.A.length) := by have := hE.A; rw [show K + 1 + 1 + (e.V.length : Int) + (e.M.length : Int) = K + 2 + (e.V.length : Int) + (e.M.length : Int) by omega]; exact this
      have c5' : w.cell? ⟨g, k * 6 + 5, none⟩ = some (.int .i64 (K + 1 + 1 + (e.V.length : Int) + (e.M.length : Int) + 3 * (e.A.length : Int))) := by rw [c5]; simp only [Option.some.injEq, Value.int.injEq, true_and]; omega
      have n1 : ¬ (K + 1 + 1 + (e.V.length : Int) < 0) := by omega
      have n2 : ¬ (K + 1 + 1 + (e.V.length : Int) + (e.M.length : Int) < 0) := by omega
      have n3 : ¬ (K + 1 + 1 + (e.V.length : Int) + (e.M.length : Int) + 3 * (e.A.length : Int) < 0) := by omega
      clear hrow ee e00 hK he km h1 hh em hE c5
      have t1 : True := trivial
      go_wp2_with (first
        | (go_at_call 58; clear t1; refine (heldF_any _ (by omega) (by omega) _ _ _ e.V.length _ v1).mono ?_; rintro x w2 ⟨rfl, hw⟩; replace hw := hw.symm; subst hw; have t2 : True := trivial)
        | (go_at_call 58; clear t2; refine (heldF_any _ (by omega) (by omega) _ _ _ e.M.length _ v2).mono ?_; rintro x w3 ⟨rfl, hw⟩; replace hw := hw.symm; subst hw)
        | (go_at_call 143; refine (heldA_any _ (by omega) (by omega) _ _ _ e.A.length _ v3).mono ?_; rintro x w4 ⟨rfl, hw⟩; replace hw := hw.symm; subst hw))
      go_roundw
      case rel =>
        have hEe := HE.out
        have hKe := HK.out
        refine ⟨k + 1, by omega, by go_num, ?_⟩
        simp only [Value.int.injEq, true_and, kAt, esz]; rw [← hEe]; omega
      case measure => simp [intOf]; omega
    · have he : k = n := by omega
      subst he
      go_wp2
      go_ret
      exact ⟨rfl, rfl⟩

theorem markT_any (k0 q : Int) (h0 : 0 ≤ k0) (a : Option Addr) (g cap n : Nat) (f : Nat → Ent) (w : World) (hh : 0 < n → a = some ⟨g, 0, none⟩) (h : WtF w g n f) (ha : ApF g n f) (hs : n ≤ 4194304) (hg : n = 0 ∨ g < w.heap.size) (h1 : k0 + (kAt f n : Int) ≤ 100000000000) :
    Calls Try.prog 42 #[.agg #[.int .i64 q, .slice a n cap], .int .i64 k0] w fun e w' => e = .returned (.int .i64 (k0 + (kAt f n : Int))) ∧ KeptP (fun b => 0 < n ∧ b = g ∨ ∃ i, i < n ∧ Uses (f i) b) w w' ∧ WtF w' g n (mid k0 f n) := by
  obtain ⟨W1, hW1⟩ : ∃ W1, W1 = w.alloc (.cells #[.int .i64 q, .slice a n cap] 38) := ⟨_, rfl⟩
  have B1 : Below w.heap.size w W1 := by subst hW1; exact below_alloc1 _ _
  have hw : WtF W1 g n f := by
    refine ⟨fun j hj => ?_, fun j hj => ?_, fun i hi => (h.each i hi).below B1⟩
    · exact (B1.cell (World.block_lt_of_cell? _ _ (h.row j hj))).trans (h.row j hj)
    · have e := B1.block g (World.block_lt_of_cell? _ _ (h.row j hj))
      have := h.free j hj
      simp only [World.frozen?, e] at this ⊢; exact this
  go_enter Try.func42, Try.ntmps42
  go_wp2_with (go_at_call 111; rw [← hW1]; clear hW1; refine (markS_any k0 h0 a g cap n f _ hh hw ha hs h1).mono ?_; rintro x wa ⟨rfl, kp, hm⟩)
  go_ret
  exact ⟨rfl, KeptP.pre B1 kp, hm⟩

theorem heldT_any (k0 q : Int) (h0 : 0 ≤ k0) (a : Option Addr) (g cap n : Nat) (f : Nat → Ent) (w : World) (hh : 0 < n → a = some ⟨g, 0, none⟩) (h : WtF w g n (mid k0 f n)) (hs : n ≤ 4194304) (h1 : k0 + (kAt f n : Int) ≤ 100000000000) :
    Calls Try.prog 44 #[.agg #[.int .i64 q, .slice a n cap], .int .i64 k0] w fun e w' => e = .returned (.int .i64 (k0 + (kAt f n : Int))) ∧ Below w.heap.size w w' := by
  obtain ⟨W1, hW1⟩ : ∃ W1, W1 = w.alloc (.cells #[.int .i64 q, .slice a n cap] 38) := ⟨_, rfl⟩
  have B1 : Below w.heap.size w W1 := by subst hW1; exact below_alloc1 _ _
  have hw : WtF W1 g n (mid k0 f n) := by
    refine ⟨fun j hj => ?_, fun j hj => ?_, fun i hi => (h.each i hi).below B1⟩
    · exact (B1.cell (World.block_lt_of_cell? _ _ (h.row j hj))).trans (h.row j hj)
    · have e := B1.block g (World.block_lt_of_cell? _ _ (h.row j hj))
      have := h.free j hj
      simp only [World.frozen?, e] at this ⊢; exact this
  have hp : ¬ (k0 + (kAt f n : Int) < 0) := by omega
  go_enter Try.func44, Try.ntmps44
  go_wp2_with (go_at_call 113; rw [← hW1]; clear hW1; refine (heldS_any k0 h0 a g cap n f _ hh hw hs h1).mono ?_; rintro x wa ⟨rfl, hwa⟩; replace hwa := hwa.symm; subst hwa)
  go_ret
  exact ⟨rfl, B1⟩

end Go.Proofs.Ytcbgnfjnjfaacaa.Em
namespace Go.Proofs.Ytcbgnfjnjfaacaa.Hq
set_option maxRecDepth 8000
set_option linter.unusedSimpArgs false
set_option linter.unusedVariables false
open Go Go.RowKit
open Num Pl Ea Ra Pq Ka

/-- A row of integers of the call's own, from block B on; it may be nil. -/
def HasZ (w : World) (B : Nat) (v : Value) (l : List Int) : Prop := w.ownsRow B 3 1 v l.length (l.map (Value.int .i64))
theorem HasZ.keep {w w' : World} {B : Nat} {v : Value} {l : List Int} (h : HasZ w B v l) (hk : ∀ g, g < w.heap.size → B ≤ g → w'.heap[g]? = w.heap[g]?) : HasZ w' B v l := by
  refine ⟨h.1, ?_⟩
  rcases h.2 with ⟨e1, e2⟩ | ⟨g, cap, cur, e1, hb, hg, rest⟩
  · exact .inl ⟨e1, e2⟩
  · exact .inr ⟨g, cap, cur, e1, hb, (hk g (blk_lt hg) hb).trans hg, rest⟩
theorem HasZ.below {w w' : World} {B : Nat} {v : Value} {l : List Int} (h : HasZ w B v l) (hb : Below w.heap.size w w') : HasZ w' B v l := h.keep fun g hg _ => hb.block g hg
theorem HasZ.nil (w : World) (B : Nat) : HasZ w B (.slice none 0 0) [] := World.ownsRow_nil w B 3 1
theorem HasZ.form {w : World} {B : Nat} {v : Value} {l : List Int} (h : HasZ w B v l) (hs : l.length ≤ 4194304) : ∃ a g cap, v = .slice a l.length cap ∧ Hr.Wt w a g l ∧ (l.length = 0 ∨ B ≤ g) := by
  rcases h.2 with ⟨rfl, e⟩ | ⟨g, cap, cur, rfl, hb, hh, hn, _, _, ht⟩
  · have : l = [] := List.eq_nil_of_length_eq_zero e
    subst this
    exact ⟨none, 0, 0, rfl, Hr.Wt.nil _ _ _, .inl rfl⟩
  · refine ⟨some ⟨g, 0, none⟩, g, cap, rfl, ⟨fun _ => rfl, fun i hi => ?_, fun i hi => by simp [World.frozen?, hh], hs⟩, .inr hb⟩
    have e : (cur.toList.take (l.length * 1))[i]? = (l.map (Value.int .i64))[i]? := by rw [ht]
    rw [List.getElem?_take, if_pos (by omega)] at e
    simp only [World.cell?, hh]
    simp [← Array.getElem?_toList, e, List.getD, hi]
theorem wpList_appZ {ops : Array Oper} {rest : List Oper} {o : Oper} {a : Act} {w : World} {Q : Exit → Act → World → Prop} (hgd : o.guard = none) (s x : Operand)
    (ho : o.op = .call { callee := .builtin .append, args := #[s, x], argTypes := #[23, 23] }) (base : Nat) (v : Value) (l m : List Int) (hs : a.eval s = v) (hown : HasZ w base v l)
    (ad : Addr) (b off c : Nat) (hx : a.eval x = .slice (some ad) m.length c) (hr : Hr.Rd w (some ad) b off m) (hb : l.length + m.length ≤ 8388608) (hbase : base ≤ w.heap.size)
    (h : ∀ v' w', HasZ w' base v' (l ++ m) → w.grownBy w' v.ownBlock → wpList Try.prog ops Q rest (a.put o.dst v') w') : wpList Try.prog ops Q (o :: rest) a w := by
  obtain ⟨i0, hi, hz0, hz1, hz2⟩ := info_parts Hr.info3
  refine wpList_append_own _ hgd s x 23 ho base 3 i0 (.int .i64 0) 1 8 Try.underlying23 hi hz0 hz1 hz2 rfl (by decide) v l.length (l.map (Value.int .i64)) hs hown ad m.length c (m.map (Value.int .i64)) hx (by simp) (Ht.news_of hr) (by intro u hu; simp at hu; obtain ⟨q, _, rfl⟩ := hu; rfl) (by unfold maxLen; omega) (by omega) hbase ?_
  intro v' w' h1 h2 h3
  exact h v' w' (by simpa [HasZ] using h1) h2
theorem rd_one (w : World) (x : Int) : Hr.Rd (w.alloc (.cells #[.int .i64 x] 3)) (some ⟨w.heap.size, 0, none⟩) w.heap.size 0 [x] := by
  refine ⟨fun _ => rfl, fun j hj => ?_, by simp⟩
  have e : j = 0 := by simpa using hj
  subst e
  have k : (w.alloc (.cells #[.int .i64 x] 3)).heap[w.heap.size]? = some (.cells #[.int .i64 x] 3 (0, 0)) := at_new rfl
  exact Hh.one k
theorem HasZ.mono {w : World} {B B' : Nat} {v : Value} {l : List Int} (h : HasZ w B v l) (hB : B' ≤ B) : HasZ w B' v l := by
  refine ⟨h.1, ?_⟩
  rcases h.2 with ⟨e1, e2⟩ | ⟨g, cap, cur, e1, hb, rest⟩
  · exact .inl ⟨e1, e2⟩
  · exact .inr ⟨g, cap, cur, e1, Nat.le_trans hB hb, rest⟩
theorem grown_below {w0 w w' : World} {B : Nat} {v : Value} {l : List Int} (h : HasZ w B v l) (hb : Below w0.heap.size w0 w) (hg : w.grownBy w' v.ownBlock) (hB : w0.heap.size ≤ B) : Below w0.heap.size w0 w' :=
  hb.grown hg hb.size (fun k hk => by have := (h.lt k hk).1; omega)
theorem grown_other {w w' : World} {B x : Nat} {v : Value} {l : List Int} (h : HasZ w B v l) (hg : w.grownBy w' v.ownBlock) (hx : x < w.heap.size) (hB : x < B) : w'.heap[x]? = w.heap[x]? :=
  hg.block x hx (fun e => by have := (h.lt x e.symm).1; omega)

def covB (V M V' M' : List Int) : Bool := (Po.matchB V M && Po.matchB V' M') && Pe.sameB (fun k => bits .and .i64 (Po.pv V' M' k) (Po.pm V M k)) (fun k => bits .and .i64 (Po.pm V' M' k) (Po.pm V M k)) (Po.pv V M) (Po.pm V M)
theorem covI {V M V' M' : List Int} (wV : Po.Wide V) (wV' : Po.Wide V') : Rg.CMM 15 V M V' M' (Rg.Bo (covB V M V' M')) :=
  fun a a' b o c b' o' c' p p' q r s q' r' s' w h1 h2 h3 h4 => Mi.covers_l a a' p p' _ _ _ _ c c' s s' _ _ _ _ _ w (Mi.two_any c c' s s' h1 h2 wV h3 h4 wV')
theorem covS {V M V' M' : List Int} (wV : Po.Wide V) (wV' : Po.Wide V') : Rg.CMM 16 V M V' M' (Rg.Bo (covB V M V' M')) := Lc.coversS_any wV wV'
/-- Does the one entry hide the other? -/
def covE (x y : En) : Bool := decide (x.1 = y.1) && covB x.2.2.1 x.2.2.2.1 y.2.2.1 y.2.2.2.1
def hidP (L : List En) (i : Nat) : Bool := anyB (fun k => covE (L.getD k x0) (L.getD i x0)) i
/-- The hidden entries among the first i. -/
def hidL (L : List En) : Nat → List Int
  | 0 => []
  | i + 1 => if hidP L i = true then hidL L i ++ [(i : Int)] else hidL L i
theorem hidL_len (L : List En) (i : Nat) : (hidL L i).length ≤ i := by
  induction i with
  | zero => simp [hidL]
  | succ i ih =>
    simp only [hidL]
    split
    · simp; omega
    · omega
/-- What Hidden answers. -/
def HidR (q : Int) (L : List En) (r : List Int) : Prop := (TabP q L ∧ r = hidL L L.length) ∨ (¬ TabP q L ∧ r = [])
theorem hid_some (q : Int) (L : List En) : ∃ r, HidR q L r := by
  rcases Classical.em (TabP q L) with h | h
  · exact ⟨_, .inl ⟨h, rfl⟩⟩
  · exact ⟨[], .inr ⟨h, rfl⟩⟩
theorem hid_len {q : Int} {L : List En} {r : List Int} (h : HidR q L r) : r.length ≤ 400 := by
  rcases h with ⟨t, rfl⟩ | ⟨_, rfl⟩
  · have := hidL_len L L.length
    have := t.len
    have := t.q1
    omega
  · simp
theorem rd_take {w : World} {a : Option Addr} {b off : Nat} {Q : List Ent} (h : Rd w a b off Q) {i : Nat} (hi : i ≤ Q.length) : Rd w a b off (Q.take i) := by
  have e : ∀ j, j < i → (Q.take i).getD j e0 = Q.getD j e0 := fun j hj => by simp [List.getD, List.getElem?_take, hj]
  have l : (Q.take i).length = i := by simp; omega
  refine ⟨fun h0 => h.head (by omega), fun j hj => ?_, fun j hj => ?_, by have := h.size; omega⟩
  · rw [e j (by omega)]; exact h.cell j (by omega)
  · rw [e j (by omega)]; exact h.ok j (by omega)
theorem anyB_congr {p p' : Nat → Bool} {n : Nat} (h : ∀ k, k < n → p k = p' k) : anyB p n = anyB p' n := by
  induction n with
  | zero => rfl
  | succ n ih => simp only [anyB]; rw [ih (fun k hk => h k (by omega)), h n (by omega)]

/-- What is handed back: a row of integers of the call's own. -/
def ResZ (w : World) (r : List Int) (e : Ending) (w' : World) : Prop := ∃ v, e = .returned v ∧ HasZ w' w.heap.size v r ∧ Below w.heap.size w w'

set_option maxHeartbeats 2000000 in
theorem tell100 (g0 : Nat) (x y : Ent) (w : World) (hx : x.Ok w) (hy : y.Ok w) (h0 : w.heap[g0]? = some (.cells #[.int .i64 y.ep, .int .i64 y.pr, .slice y.aV y.V.length y.cV, .slice y.aM y.M.length y.cM, .slice y.aA y.A.length y.cA, .int .i64 y.h] 41 (0, 0))) :
    Calls Try.prog 100 #[.agg #[.int .i64 x.ep, .int .i64 x.pr, .slice x.aV x.V.length x.cV, .slice x.aM x.M.length x.cM, .slice x.aA x.A.length x.cA, .int .i64 x.h], .pointer (some ⟨g0, 0, none⟩)] w fun e w' => e = .returned (.bool (covE x.said y.said)) ∧ Below w.heap.size w w' := by
  obtain ⟨W1, hW1⟩ : ∃ W1, W1 = w.alloc (.cells #[.int .i64 x.ep, .int .i64 x.pr, .slice x.aV x.V.length x.cV, .slice x.aM x.M.length x.cM, .slice x.aA x.A.length x.cA, .int .i64 x.h] 41) := ⟨_, rfl⟩
  have B1 : Below w.heap.size w W1 := by subst hW1; exact below_alloc1 _ _
  have ox := hx.below B1
  have oy := hy.below B1
  have hc := covI (M := x.M) (M' := y.M) ox.wV oy.wV x.aV x.aM _ _ x.cV _ _ x.cM y.aV y.aM _ _ y.cV _ _ y.cM W1 ox.rV ox.rM oy.rV oy.rM
  have k0 := (B1.block _ (blk_lt h0)).trans h0
  obtain ⟨r0, r1, r2, r3, r4, r5⟩ := six k0
  by_cases he : x.ep = y.ep
  · have he' : (x.ep == y.ep) = true := by simp [he]
    have hd : covE x.said y.said = covB x.V x.M y.V y.M := by
      show (decide (x.ep = y.ep) && covB x.V x.M y.V y.M) = _
      rw [decide_eq_true he]; rfl
    rw [hd]
    clear he hd
    rw [hW1] at r0 r1 r2 r3 r4 r5
    go_enter Try.func100, Try.ntmps100
    go_wp2_with (go_at_call 15; rw [← hW1]; clear hW1; refine hc.mono ?_; rintro x1 wa ⟨rfl, hb⟩)
    go_ret
    exact ⟨ret_bool (by simp), Rw.next B1 hb⟩
  · have he' : (x.ep == y.ep) = false := by simpa using he
    have hd : covE x.said y.said = false := by
      show (decide (x.ep = y.ep) && covB x.V x.M y.V y.M) = _
      rw [decide_eq_false he]; rfl
    rw [hd]
    clear hd
    rw [hW1] at r0 r1 r2 r3 r4 r5
    go_enter Try.func100, Try.ntmps100
    go_wp2
    go_ret
    exact ⟨ret_bool (by simp), by rw [← hW1]; exact B1⟩

set_option maxHeartbeats 8000000 in
theorem hidI (q : Int) (a : Option Addr) (b off cap : Nat) (Q : List Ent) (w : World) (h : Rd w a b off Q) (hcap : Q.length ≤ cap) (hcm : cap ≤ 4611686018427387904) (r : List Int) (hr : HidR q (Q.map Ent.said) r) :
    Calls Try.prog 29 #[.agg #[.int .i64 q, .slice a Q.length cap]] w (ResZ w r) := by
  obtain ⟨W1, hW1⟩ : ∃ W1, W1 = w.alloc (.cells #[.int .i64 q, .slice a Q.length cap] 38) := ⟨_, rfl⟩
  have B1 : Below w.heap.size w W1 := by subst hW1; exact below_alloc1 _ _
  have k0 : W1.heap[w.heap.size]? = some (.cells #[.int .i64 q, .slice a Q.length cap] 38 (0, 0)) := by subst hW1; exact at_new rfl
  replace h := h.below B1
  obtain ⟨R, hR⟩ := em_bool (TabP q (Q.map Ent.said))
  have ht := fun W hW => tabI q a b off cap Q W hW R hR
  cases R
  · obtain rfl : r = [] := by
      rcases hr with ⟨h1, _⟩ | ⟨_, h1⟩
      · exact absurd (hR.2 h1) (by decide)
      · exact h1
    go_enter Try.func29, Try.ntmps29
    go_wp2_with (go_at_call 26; rw [← hW1]; clear hW1; refine (ht _ h).mono ?_; rintro x wa ⟨rfl, hb⟩)
    go_ret
    exact ⟨_, rfl, HasZ.nil _ _, Rw.next B1 hb⟩
  have hrr : r = hidL (Q.map Ent.said) Q.length := by
    rcases hr with ⟨_, h1⟩ | ⟨h1, _⟩
    · simpa using h1
    · exact absurd (hR.1 rfl) h1
  have hn4 : Q.length ≤ 400 := by
    have t := hR.1 rfl
    have t1 := t.len
    have t2 := t.q1
    simp only [List.length_map] at t1
    omega
  have HRr : Hid (r = hidL (Q.map Ent.said) Q.length) := hrr
  clear hr hrr hR
  obtain ⟨n, hn⟩ : ∃ n, n = Q.length := ⟨_, rfl⟩
  rw [← hn] at hW1 k0 ht hcap hn4 ⊢
  have HN : Hid (n = Q.length) := hn
  clear hn
  go_enter Try.func29, Try.ntmps29
  go_wp2_with (go_at_call 26; rw [← hW1]; clear hW1; refine (ht _ h).mono ?_; rintro x wa ⟨rfl, hb⟩; replace k0 := (hb.block _ (blk_lt k0)).trans k0; replace h := h.below hb; replace B1 := Rw.next B1 hb; clear hb ht; obtain ⟨p0, p1⟩ := Pm.two k0)
  clear p0 p1
  have HD : Hid (∀ W, Below wa.heap.size wa W → Rd W a b off Q) := fun W hW => h.below hW
  obtain ⟨hh, hc, ho, hs⟩ := h
  rw [← HN.out] at hh hc ho hs
  have lw := blk_lt k0
  go_loopw [13, 3] (fun u v wr => ∃ i : Nat, i ≤ n ∧ u = .int .i64 i ∧ Below w.heap.size w wr ∧ Below wa.heap.size wa wr ∧ HasZ wr wa.heap.size v (hidL (Q.map Ent.said) i)) (fun u _ _ => n - (intOf u).toNat)
  case atStart => exact ⟨0, Nat.zero_le _, rfl, B1, Below.refl _ _, HasZ.nil _ _⟩
  case round =>
    clear B1
    obtain ⟨i, hi, rfl, hbel, hbb, hown⟩ := hrel
    obtain ⟨p0, p1⟩ := Pm.two ((hbb.block _ lw).trans k0)
    by_cases hlt : i < n
    · obtain rfl := hh (by omega)
      have hnz : (i : Int) < (n : Int) := by omega
      obtain ⟨c0, c1, c2, c3, c4, c5⟩ := ((hc i hlt).of hbb (At6.lt (hc i hlt))).six
      have hrd := rd_take (HD.out wr hbb) (i := i) (by have := HN.out; omega)
      have lt : (Q.take i).length = i := by have := HN.out; simp; omega
      have ok := (ho i hlt).of hbb (Nat.le_refl _)
      obtain ⟨y, hy⟩ : ∃ y, y = Q.getD i e0 := ⟨_, rfl⟩
      rw [← hy] at c0 c1 c2 c3 c4 c5 ok
      have HY : Hid (Q.getD i e0 = y) := hy.symm
      clear hy hc ho hh
      obtain ⟨W2, hW2⟩ : ∃ W2, W2 = wr.alloc (.cells #[.int .i64 y.ep, .int .i64 y.pr, .slice y.aV y.V.length y.cV, .slice y.aM y.M.length y.cM, .slice y.aA y.A.length y.cA, .int .i64 y.h] 41) := ⟨_, rfl⟩
      have b2 : Below wr.heap.size wr W2 := by subst hW2; exact below_alloc1 _ _
      have kY : W2.heap[wr.heap.size]? = some (.cells #[.int .i64 y.ep, .int .i64 y.pr, .slice y.aV y.V.length y.cV, .slice y.aM y.M.length y.cM, .slice y.aA y.A.length y.cA, .int .i64 y.h] 41 (0, 0)) := by subst hW2; exact at_new rfl
      have lW : w.heap.size < wr.heap.size := Nat.lt_of_lt_of_le lw hbb.size
      have hrd2 := hrd.below b2
      have oky := ok.below b2
      have hcon := contains100 (some ⟨b, off, none⟩) b off cap wr.heap.size (Q.take i) (fun k => covE ((Q.take i).getD k e0).said y.said) W2 hrd2 (fun k hk W hW => tell100 _ _ y W ((hrd2.ok k hk).of hW (Nat.le_refl _)) (oky.below hW) ((hW.block _ (blk_lt kY)).trans kY))
      rw [lt] at hcon
      have hpe : anyB (fun k => covE ((Q.take i).getD k e0).said y.said) i = hidP (Q.map Ent.said) i := by
        unfold hidP
        refine anyB_congr fun k hk => ?_
        rw [said_getD, said_getD, HY.out]
        have : (Q.take i).getD k e0 = Q.getD k e0 := by simp [List.getD, List.getElem?_take, hk]
        rw [this]
      rw [hpe] at hcon
      have own2 := hown.below b2
      have bel2 := Rw.next hbel b2
      have bb2 := Rw.next hbb b2
      have hil : i ≤ cap := by omega
      have hll := hidL_len (Q.map Ent.said) i
      clear hrd hrd2 ok oky lt hpe b2
      cases hp : hidP (Q.map Ent.said) i
      · rw [hp] at hcon
        have HP : Hid (hidP (Q.map Ent.said) i = false) := hp
        clear hp
        go_wp2_with (go_at_call 101; rw [← hW2]; clear hW2; refine hcon.mono ?_; rintro x wc ⟨rfl, hb⟩)
        go_roundw
        case rel => exact ⟨i + 1, by omega, by go_num, Rw.next bel2 hb, Rw.next bb2 hb, by simp only [hidL]; rw [HP.out]; exact own2.below hb⟩
        case measure => simp [intOf]; omega
      · rw [hp] at hcon
        have HP : Hid (hidP (Q.map Ent.said) i = true) := hp
        clear hp
        go_wp2_with (first
          | (go_at_call 101; rw [← hW2]; clear hW2; refine hcon.mono ?_; rintro x wc ⟨rfl, hb⟩; replace own2 := own2.below hb; replace bel2 := Rw.next bel2 hb; replace bb2 := Rw.next bb2 hb; clear hb)
          | (at_builtin; refine wpList_appZ rfl _ _ rfl wa.heap.size _ (hidL (Q.map Ent.said) i) [(i : Int)] rfl (own2.below (below_alloc1 _ _)) ⟨wc.heap.size, 0, none⟩ wc.heap.size 0 1 rfl (rd_one _ _) (by simp; omega) (by have := bb2.size; simp; omega) ?_; intro v' wd own3 hg3))
        go_roundw
        case rel => exact ⟨i + 1, by omega, by go_num, grown_below (own2.below (below_alloc1 _ _)) (Rw.next bel2 (below_alloc1 _ _)) hg3 (by have := hbel.size; have := hbb.size; omega), grown_below (own2.below (below_alloc1 _ _)) (Rw.next bb2 (below_alloc1 _ _)) hg3 (Nat.le_refl _), by simp only [hidL]; rw [HP.out]; exact own3⟩
        case measure => simp [intOf]; omega
    · obtain rfl : i = n := by omega
      go_wp2
      go_ret
      exact ⟨_, rfl, by rw [HRr.out, ← HN.out]; exact hown.mono (Nat.le_of_lt lw), hbel⟩

set_option maxHeartbeats 16000000 in
theorem hidS (q : Int) (a : Option Addr) (b off cap : Nat) (Q : List Ent) (w : World) (h : Rd w a b off Q) (r : List Int) (hr : HidR q (Q.map Ent.said) r) :
    Calls Try.prog 32 #[.agg #[.int .i64 q, .slice a Q.length cap]] w (ResZ w r) := by
  have HD : Hid (Rd w a b off Q) := h
  obtain ⟨W1, hW1⟩ : ∃ W1, W1 = (w.alloc (.cells #[.int .i64 q, .slice a Q.length cap] 38)).alloc (.cells #[] 3) := ⟨_, rfl⟩
  have B1 : Below w.heap.size w W1 := by subst hW1; exact Rw.next (below_alloc1 _ _) (below_alloc1 _ _)
  have k0 : W1.heap[w.heap.size]? = some (.cells #[.int .i64 q, .slice a Q.length cap] 38 (0, 0)) := by subst hW1; rw [at_old (by simp), at_new rfl]
  have z0 : HasZ W1 (w.heap.size + 1) (.slice (some ⟨w.heap.size + 1, 0, none⟩) 0 0) [] := by
    subst hW1
    have := (Ht.own_emptyN (w.alloc (.cells #[.int .i64 q, .slice a Q.length cap] 38))).1
    simpa [HasZ] using this
  have kE : W1.heap[w.heap.size + 1]? = some (.cells #[] 3 (0, 0)) := by subst hW1; exact at_new (by simp)
  replace h := h.below B1
  obtain ⟨R, hR⟩ := em_bool (TabP q (Q.map Ent.said))
  have ht := fun W hW => tabS q a b off cap Q W hW R hR
  cases R
  · obtain rfl : r = [] := by
      rcases hr with ⟨h1, _⟩ | ⟨_, h1⟩
      · exact absurd (hR.2 h1) (by decide)
      · exact h1
    go_enter Try.func32, Try.ntmps32
    go_wp2_with (go_at_call 39; rw [← hW1]; clear hW1; refine (ht _ h).mono ?_; rintro x wa ⟨rfl, hb⟩)
    go_ret
    exact ⟨_, rfl, (z0.below hb).mono (by omega), Rw.next B1 hb⟩
  have hrr : r = hidL (Q.map Ent.said) Q.length := by
    rcases hr with ⟨_, h1⟩ | ⟨h1, _⟩
    · simpa using h1
    · exact absurd (hR.1 rfl) h1
  have hn4 : Q.length ≤ 400 := by
    have t := hR.1 rfl
    have t1 := t.len
    have t2 := t.q1
    simp only [List.length_map] at t1
    omega
  have HRr : Hid (r = hidL (Q.map Ent.said) Q.length) := hrr
  clear hr hrr hR
  obtain ⟨n, hn⟩ : ∃ n, n = Q.length := ⟨_, rfl⟩
  rw [← hn] at hW1 k0 ht hn4 ⊢
  have HN : Hid (n = Q.length) := hn
  clear hn
  go_enter Try.func32, Try.ntmps32
  go_wp2_with (go_at_call 39; rw [← hW1]; clear hW1; refine (ht _ h).mono ?_; rintro x wa ⟨rfl, hb⟩; replace k0 := (hb.block _ (blk_lt k0)).trans k0; replace h := h.below hb; replace B1 := Rw.next B1 hb; replace z0 := z0.below hb; clear hb ht; obtain ⟨p0, p1⟩ := Pm.two k0)
  clear p0 p1 h
  obtain ⟨hh, hc, ho, hs⟩ := HD.out
  rw [← HN.out] at hh hc ho hs
  go_loopw [15, 3] (fun u v wr => ∃ i : Nat, i ≤ n ∧ u = .int .i64 i ∧ Below w.heap.size w wr ∧ wr.heap[w.heap.size]? = some (.cells #[.int .i64 q, .slice a n cap] 38 (0, 0)) ∧ HasZ wr (w.heap.size + 1) v (hidL (Q.map Ent.said) i)) (fun u _ _ => n - (intOf u).toNat)
  case atStart => exact ⟨0, Nat.zero_le _, rfl, B1, k0, z0⟩
  case round =>
    clear B1 k0 z0
    obtain ⟨i, hi, rfl, hbel, kT, hown⟩ := hrel
    obtain ⟨p0, p1⟩ := Pm.two kT
    by_cases hlt : i < n
    · obtain rfl := hh (by omega)
      have hnz : (i : Int) < (n : Int) := by omega
      obtain ⟨y, hy⟩ : ∃ y, y = Q.getD i e0 := ⟨_, rfl⟩
      have HY : Hid (Q.getD i e0 = y) := hy.symm
      clear hy p0 p1
      have hll := hidL_len (Q.map Ent.said) i
      go_wp2
      go_loopw [6, 5] (fun u v wr => ∃ k : Nat, k ≤ i ∧ u = .int .i64 k ∧ v = .bool (anyB (fun k => covE (Q.getD k e0).said y.said) k) ∧ Below w.heap.size w wr ∧ wr.heap[w.heap.size]? = some (.cells #[.int .i64 q, .slice (some ⟨b, off, none⟩) n cap] 38 (0, 0)) ∧ HasZ wr (w.heap.size + 1) u3 (hidL (Q.map Ent.said) i)) (fun u _ _ => i - (intOf u).toNat)
      case atStart => exact ⟨0, Nat.zero_le _, rfl, rfl, hbel, kT, hown⟩
      case round =>
        clear hbel kT hown
        obtain ⟨k, hk, rfl, rfl, hbel, kT, hown⟩ := hrel
        obtain ⟨p0, p1⟩ := Pm.two kT
        have bt := blk_lt kT
        by_cases hki : k < i
        · have hkz : (k : Int) < (i : Int) := by omega
          have hkn : (k : Int) < (n : Int) := by omega
          obtain ⟨c0, c1, c2, c3, c4, c5⟩ := ((hc k (by omega)).of hbel (At6.lt (hc k (by omega)))).six
          obtain ⟨d0, d1, d2, d3, d4, d5⟩ := ((hc i hlt).of hbel (At6.lt (hc i hlt))).six
          have okx := ((ho k (by omega)).of hbel (Nat.le_refl _)).below ((Below.refl wr.heap.size wr).drew)
          have oky := ((ho i hlt).of hbel (Nat.le_refl _)).below ((Below.refl wr.heap.size wr).drew)
          have bl : b < wr.heap.size := World.block_lt_of_cell? _ _ c0
          rw [HY.out] at d0 d1 d2 d3 d4 d5 oky
          obtain ⟨x, hx⟩ : ∃ x, x = Q.getD k e0 := ⟨_, rfl⟩
          rw [← hx] at c0 c1 c2 c3 c4 c5 okx
          have HX : Hid (Q.getD k e0 = x) := hx.symm
          clear hx
          have hcall := covS (M := x.M) (M' := y.M) okx.wV oky.wV x.aV x.aM _ _ x.cV _ _ x.cM y.aV y.aM _ _ y.cV _ _ y.cM wr.drew okx.rV okx.rM oky.rV oky.rM
          clear okx oky
          have stp : ∀ c, covE x.said y.said = c → (anyB (fun k => covE (Q.getD k e0).said y.said) k || c) = anyB (fun k => covE (Q.getD k e0).said y.said) (k + 1) := fun c hcc => by
            simp only [anyB]; rw [HX.out, hcc]
          have HSp : Hid (∀ c, covE x.said y.said = c → (anyB (fun k => covE (Q.getD k e0).said y.said) k || c) = anyB (fun k => covE (Q.getD k e0).said y.said) (k + 1)) := stp
          clear stp
          by_cases he : x.ep = y.ep
          · have he' : (x.ep == y.ep) = true := by simp [he]
            have HEp : Hid (x.ep = y.ep) := he
            clear he
            cases hcv : covB x.V x.M y.V y.M
            · rw [hcv] at hcall
              have HCv : Hid (covB x.V x.M y.V y.M = false) := hcv
              clear hcv
              go_wp2
              refine wp_region_held_drew (S := (fun w' => w'.cell? ⟨w.heap.size, 0, none⟩ = some (.int .i64 q) ∧ w'.cell? ⟨w.heap.size, 1, none⟩ = some (.slice (some ⟨b, off, none⟩) n cap) ∧ w'.cell? ⟨b, off + k * 6, none⟩ = some (.int .i64 x.ep) ∧ w'.cell? ⟨b, off + k * 6 + 1, none⟩ = some (.int .i64 x.pr) ∧ w'.cell? ⟨b, off + k * 6 + 2, none⟩ = some (.slice x.aV x.V.length x.cV) ∧ w'.cell? ⟨b, off + k * 6 + 3, none⟩ = some (.slice x.aM x.M.length x.cM) ∧ w'.cell? ⟨b, off + k * 6 + 4, none⟩ = some (.slice x.aA x.A.length x.cA) ∧ w'.cell? ⟨b, off + k * 6 + 5, none⟩ = some (.int .i64 x.h) ∧ w'.cell? ⟨b, off + i * 6, none⟩ = some (.int .i64 y.ep) ∧ w'.cell? ⟨b, off + i * 6 + 1, none⟩ = some (.int .i64 y.pr) ∧ w'.cell? ⟨b, off + i * 6 + 2, none⟩ = some (.slice y.aV y.V.length y.cV) ∧ w'.cell? ⟨b, off + i * 6 + 3, none⟩ = some (.slice y.aM y.M.length y.cM) ∧ w'.cell? ⟨b, off + i * 6 + 4, none⟩ = some (.slice y.aA y.A.length y.cA) ∧ w'.cell? ⟨b, off + i * 6 + 5, none⟩ = some (.int .i64 y.h))) (by kernel_rfl) ⟨p0, p1, c0, c1, c2, c3, c4, c5, d0, d1, d2, d3, d4, d5⟩ (fun hHeld => ?_)
              refine take (i := 0) (d := some 23) (v := .pointer (some ⟨w.heap.size, 1, none⟩)) rfl (by kernel_rfl) (by kernel_rfl) (by kernel_rfl) (by kernel_rfl) (fun _ _ _ h => h) (Or.inl ⟨by rfl, by intro w hSw; go_simp⟩) hHeld ?_
              simp only [Act.put, List.setIfInBounds_toArray, List.set_cons_zero, List.set_cons_succ]
              refine take (i := 1) (d := some 24) (v := .slice (some ⟨b, off, none⟩) n cap) rfl (by kernel_rfl) (by kernel_rfl) (by kernel_rfl) (by kernel_rfl) (fun _ _ _ h => h) (Or.inl ⟨by rfl, by intro w hSw; obtain ⟨p0, p1, c0, c1, c2, c3, c4, c5, d0, d1, d2, d3, d4, d5⟩ := hSw; go_simp⟩) hHeld ?_
              simp only [Act.put, List.setIfInBounds_toArray, List.set_cons_zero, List.set_cons_succ]
              refine take (i := 2) (d := some 25) (v := .int .i64 k) rfl (by kernel_rfl) (by kernel_rfl) (by kernel_rfl) (by kernel_rfl) (fun _ _ _ h => h) (Or.inl ⟨by rfl, by intro w hSw; go_simp⟩) hHeld ?_
              simp only [Act.put, List.setIfInBounds_toArray, List.set_cons_zero, List.set_cons_succ]
              refine take (i := 3) (d := some 26) (v := .pointer (some ⟨b, off + k * 6, none⟩)) rfl (by kernel_rfl) (by kernel_rfl) (by kernel_rfl) (by kernel_rfl) (fun _ _ _ h => h) (Or.inl ⟨by rfl, by intro w hSw; go_simp⟩) hHeld ?_
              simp only [Act.put, List.setIfInBounds_toArray, List.set_cons_zero, List.set_cons_succ]
              refine take (i := 4) (d := some 27) (v := .pointer (some ⟨b, off + k * 6, none⟩)) rfl (by kernel_rfl) (by kernel_rfl) (by kernel_rfl) (by kernel_rfl) (fun _ _ _ h => h) (Or.inl ⟨by rfl, by intro w hSw; go_simp⟩) hHeld ?_
              simp only [Act.put, List.setIfInBounds_toArray, List.set_cons_zero, List.set_cons_succ]
              refine take (i := 5) (d := some 28) (v := .int .i64 x.ep) rfl (by kernel_rfl) (by kernel_rfl) (by kernel_rfl) (by kernel_rfl) (fun _ _ _ h => h) (Or.inl ⟨by rfl, by intro w hSw; obtain ⟨p0, p1, c0, c1, c2, c3, c4, c5, d0, d1, d2, d3, d4, d5⟩ := hSw; go_simp⟩) hHeld ?_
              simp only [Act.put, List.setIfInBounds_toArray, List.set_cons_zero, List.set_cons_succ]
              refine take (i := 6) (d := some 29) (v := .pointer (some ⟨w.heap.size, 1, none⟩)) rfl (by kernel_rfl) (by kernel_rfl) (by kernel_rfl) (by kernel_rfl) (fun _ _ _ h => h) (Or.inl ⟨by rfl, by intro w hSw; go_simp⟩) hHeld ?_
              simp only [Act.put, List.setIfInBounds_toArray, List.set_cons_zero, List.set_cons_succ]
              refine take (i := 7) (d := some 30) (v := .slice (some ⟨b, off, none⟩) n cap) rfl (by kernel_rfl) (by kernel_rfl) (by kernel_rfl) (by kernel_rfl) (fun _ _ _ h => h) (Or.inl ⟨by rfl, by intro w hSw; obtain ⟨p0, p1, c0, c1, c2, c3, c4, c5, d0, d1, d2, d3, d4, d5⟩ := hSw; go_simp⟩) hHeld ?_
              simp only [Act.put, List.setIfInBounds_toArray, List.set_cons_zero, List.set_cons_succ]
              refine take (i := 8) (d := some 31) (v := .int .i64 i) rfl (by kernel_rfl) (by kernel_rfl) (by kernel_rfl) (by kernel_rfl) (fun _ _ _ h => h) (Or.inl ⟨by rfl, by intro w hSw; go_simp⟩) hHeld ?_
              simp only [Act.put, List.setIfInBounds_toArray, List.set_cons_zero, List.set_cons_succ]
              refine take (i := 9) (d := some 32) (v := .pointer (some ⟨b, off + i * 6, none⟩)) rfl (by kernel_rfl) (by kernel_rfl) (by kernel_rfl) (by kernel_rfl) (fun _ _ _ h => h) (Or.inl ⟨by rfl, by intro w hSw; go_simp⟩) hHeld ?_
              simp only [Act.put, List.setIfInBounds_toArray, List.set_cons_zero, List.set_cons_succ]
              refine take (i := 10) (d := some 33) (v := .pointer (some ⟨b, off + i * 6, none⟩)) rfl (by kernel_rfl) (by kernel_rfl) (by kernel_rfl) (by kernel_rfl) (fun _ _ _ h => h) (Or.inl ⟨by rfl, by intro w hSw; go_simp⟩) hHeld ?_
              simp only [Act.put, List.setIfInBounds_toArray, List.set_cons_zero, List.set_cons_succ]
              refine take (i := 11) (d := some 34) (v := .int .i64 y.ep) rfl (by kernel_rfl) (by kernel_rfl) (by kernel_rfl) (by kernel_rfl) (fun _ _ _ h => h) (Or.inl ⟨by rfl, by intro w hSw; obtain ⟨p0, p1, c0, c1, c2, c3, c4, c5, d0, d1, d2, d3, d4, d5⟩ := hSw; go_simp⟩) hHeld ?_
              simp only [Act.put, List.setIfInBounds_toArray, List.set_cons_zero, List.set_cons_succ]
              refine take (i := 12) (d := some 35) (v := .bool true) rfl (by kernel_rfl) (by kernel_rfl) (by kernel_rfl) (by kernel_rfl) (fun _ _ _ h => h) (Or.inl ⟨by rfl, by intro w hSw; go_simp⟩) hHeld ?_
              simp only [Act.put, List.setIfInBounds_toArray, List.set_cons_zero, List.set_cons_succ]
              refine take (i := 13) (d := some 36) (v := .bool true) rfl (by kernel_rfl) (by kernel_rfl) (by kernel_rfl) (by kernel_rfl) (fun _ _ _ h => h) (Or.inl ⟨by rfl, by intro w hSw; go_simp⟩) hHeld ?_
              simp only [Act.put, List.setIfInBounds_toArray, List.set_cons_zero, List.set_cons_succ]
              refine take (i := 14) (d := some 37) (v := .pointer (some ⟨w.heap.size, 1, none⟩)) rfl (by kernel_rfl) (by kernel_rfl) (by kernel_rfl) (by kernel_rfl) (fun _ _ _ h => h) (Or.inl ⟨by rfl, by intro w hSw; go_simp⟩) hHeld ?_
              simp only [Act.put, List.setIfInBounds_toArray, List.set_cons_zero, List.set_cons_succ]
              refine take (i := 15) (d := some 38) (v := .slice (some ⟨b, off, none⟩) n cap) rfl (by kernel_rfl) (by kernel_rfl) (by kernel_rfl) (by kernel_rfl) (fun _ _ _ h => h) (Or.inl ⟨by rfl, by intro w hSw; obtain ⟨p0, p1, c0, c1, c2, c3, c4, c5, d0, d1, d2, d3, d4, d5⟩ := hSw; go_simp⟩) hHeld ?_
              simp only [Act.put, List.setIfInBounds_toArray, List.set_cons_zero, List.set_cons_succ]
              refine take (i := 16) (d := some 39) (v := .int .i64 k) rfl (by kernel_rfl) (by kernel_rfl) (by kernel_rfl) (by kernel_rfl) (fun _ _ _ h => h) (Or.inl ⟨by rfl, by intro w hSw; go_simp⟩) hHeld ?_
              simp only [Act.put, List.setIfInBounds_toArray, List.set_cons_zero, List.set_cons_succ]
              refine take (i := 17) (d := some 40) (v := .pointer (some ⟨b, off + k * 6, none⟩)) rfl (by kernel_rfl) (by kernel_rfl) (by kernel_rfl) (by kernel_rfl) (fun _ _ _ h => h) (Or.inl ⟨by rfl, by intro w hSw; go_simp⟩) hHeld ?_
              simp only [Act.put, List.setIfInBounds_toArray, List.set_cons_zero, List.set_cons_succ]
              refine take (i := 18) (d := some 41) (v := .pointer (some ⟨b, off + k * 6 + 2, none⟩)) rfl (by kernel_rfl) (by kernel_rfl) (by kernel_rfl) (by kernel_rfl) (fun _ _ _ h => h) (Or.inl ⟨by rfl, by intro w hSw; go_simp⟩) hHeld ?_
              simp only [Act.put, List.setIfInBounds_toArray, List.set_cons_zero, List.set_cons_succ]
              refine take (i := 19) (d := some 42) (v := .agg #[.slice x.aV x.V.length x.cV, .slice x.aM x.M.length x.cM]) rfl (by kernel_rfl) (by kernel_rfl) (by kernel_rfl) (by kernel_rfl) (fun _ _ _ h => h) (Or.inl ⟨by rfl, by intro w hSw; obtain ⟨p0, p1, c0, c1, c2, c3, c4, c5, d0, d1, d2, d3, d4, d5⟩ := hSw; go_simp⟩) hHeld ?_
              simp only [Act.put, List.setIfInBounds_toArray, List.set_cons_zero, List.set_cons_succ]
              refine take (i := 20) (d := some 43) (v := .pointer (some ⟨w.heap.size, 1, none⟩)) rfl (by kernel_rfl) (by kernel_rfl) (by kernel_rfl) (by kernel_rfl) (fun _ _ _ h => h) (Or.inl ⟨by rfl, by intro w hSw; go_simp⟩) hHeld ?_
              simp only [Act.put, List.setIfInBounds_toArray, List.set_cons_zero, List.set_cons_succ]
              refine take (i := 21) (d := some 44) (v := .slice (some ⟨b, off, none⟩) n cap) rfl (by kernel_rfl) (by kernel_rfl) (by kernel_rfl) (by kernel_rfl) (fun _ _ _ h => h) (Or.inl ⟨by rfl, by intro w hSw; obtain ⟨p0, p1, c0, c1, c2, c3, c4, c5, d0, d1, d2, d3, d4, d5⟩ := hSw; go_simp⟩) hHeld ?_
              simp only [Act.put, List.setIfInBounds_toArray, List.set_cons_zero, List.set_cons_succ]
              refine take (i := 22) (d := some 45) (v := .int .i64 i) rfl (by kernel_rfl) (by kernel_rfl) (by kernel_rfl) (by kernel_rfl) (fun _ _ _ h => h) (Or.inl ⟨by rfl, by intro w hSw; go_simp⟩) hHeld ?_
              simp only [Act.put, List.setIfInBounds_toArray, List.set_cons_zero, List.set_cons_succ]
              refine take (i := 23) (d := some 46) (v := .pointer (some ⟨b, off + i * 6, none⟩)) rfl (by kernel_rfl) (by kernel_rfl) (by kernel_rfl) (by kernel_rfl) (fun _ _ _ h => h) (Or.inl ⟨by rfl, by intro w hSw; go_simp⟩) hHeld ?_
              simp only [Act.put, List.setIfInBounds_toArray, List.set_cons_zero, List.set_cons_succ]
              refine take (i := 24) (d := some 47) (v := .pointer (some ⟨b, off + i * 6 + 2, none⟩)) rfl (by kernel_rfl) (by kernel_rfl) (by kernel_rfl) (by kernel_rfl) (fun _ _ _ h => h) (Or.inl ⟨by rfl, by intro w hSw; go_simp⟩) hHeld ?_
              simp only [Act.put, List.setIfInBounds_toArray, List.set_cons_zero, List.set_cons_succ]
              refine take (i := 25) (d := some 48) (v := .agg #[.slice y.aV y.V.length y.cV, .slice y.aM y.M.length y.cM]) rfl (by kernel_rfl) (by kernel_rfl) (by kernel_rfl) (by kernel_rfl) (fun _ _ _ h => h) (Or.inl ⟨by rfl, by intro w hSw; obtain ⟨p0, p1, c0, c1, c2, c3, c4, c5, d0, d1, d2, d3, d4, d5⟩ := hSw; go_simp⟩) hHeld ?_
              simp only [Act.put, List.setIfInBounds_toArray, List.set_cons_zero, List.set_cons_succ]
              refine wpAnyH_ready (rs := [26]) (by kernel_rfl) (by simp) (Rg.call2 (i := 26) rfl (by rfl) 16 (.tmp 42) (.tmp 48) 25 25 (by kernel_rfl) 49 (by kernel_rfl) _ _ (by kernel_rfl) (by kernel_rfl) (fun _ => rfl) (hcall) ?_ AllReadyH.nil)
              rintro e1 w1 ⟨rfl, hb⟩
              refine ⟨_, rfl, ⟨(hb.cell (by exact bt)).trans p0, (hb.cell (by exact bt)).trans p1, (hb.cell (by exact bl)).trans c0, (hb.cell (by exact bl)).trans c1, (hb.cell (by exact bl)).trans c2, (hb.cell (by exact bl)).trans c3, (hb.cell (by exact bl)).trans c4, (hb.cell (by exact bl)).trans c5, (hb.cell (by exact bl)).trans d0, (hb.cell (by exact bl)).trans d1, (hb.cell (by exact bl)).trans d2, (hb.cell (by exact bl)).trans d3, (hb.cell (by exact bl)).trans d4, (hb.cell (by exact bl)).trans d5⟩, fun hHeld => ?_⟩
              simp only [Act.put, List.setIfInBounds_toArray, List.set_cons_zero, List.set_cons_succ]
              refine take (i := 27) (d := some 50) (v := .bool false) rfl (by kernel_rfl) (by kernel_rfl) (by kernel_rfl) (by kernel_rfl) (fun _ _ _ h => h) (Or.inl ⟨by rfl, by intro w hSw; go_simp⟩) hHeld ?_
              simp only [Act.put, List.setIfInBounds_toArray, List.set_cons_zero, List.set_cons_succ]
              refine wpAnyH_done (by kernel_rfl) ?_ _
              go_wp2
              go_roundw
              case rel => exact ⟨k + 1, by omega, by go_num, by rw [← HSp.out false (show (decide (x.ep = y.ep) && covB x.V x.M y.V y.M) = false by rw [HCv.out]; simp)]; simp, Rw.next (by repeat (first | exact hbel | apply Below.drew)) hb, (hb.block _ bt).trans kT, (hown.below ((Below.refl _ _).drew)).below hb⟩
              case measure => simp [intOf]; omega
            · rw [hcv] at hcall
              have HCv : Hid (covB x.V x.M y.V y.M = true) := hcv
              clear hcv
              go_wp2
              refine wp_region_held_drew (S := (fun w' => w'.cell? ⟨w.heap.size, 0, none⟩ = some (.int .i64 q) ∧ w'.cell? ⟨w.heap.size, 1, none⟩ = some (.slice (some ⟨b, off, none⟩) n cap) ∧ w'.cell? ⟨b, off + k * 6, none⟩ = some (.int .i64 x.ep) ∧ w'.cell? ⟨b, off + k * 6 + 1, none⟩ = some (.int .i64 x.pr) ∧ w'.cell? ⟨b, off + k * 6 + 2, none⟩ = some (.slice x.aV x.V.length x.cV) ∧ w'.cell? ⟨b, off + k * 6 + 3, none⟩ = some (.slice x.aM x.M.length x.cM) ∧ w'.cell? ⟨b, off + k * 6 + 4, none⟩ = some (.slice x.aA x.A.length x.cA) ∧ w'.cell? ⟨b, off + k * 6 + 5, none⟩ = some (.int .i64 x.h) ∧ w'.cell? ⟨b, off + i * 6, none⟩ = some (.int .i64 y.ep) ∧ w'.cell? ⟨b, off + i * 6 + 1, none⟩ = some (.int .i64 y.pr) ∧ w'.cell? ⟨b, off + i * 6 + 2, none⟩ = some (.slice y.aV y.V.length y.cV) ∧ w'.cell? ⟨b, off + i * 6 + 3, none⟩ = some (.slice y.aM y.M.length y.cM) ∧ w'.cell? ⟨b, off + i * 6 + 4, none⟩ = some (.slice y.aA y.A.length y.cA) ∧ w'.cell? ⟨b, off + i * 6 + 5, none⟩ = some (.int .i64 y.h))) (by kernel_rfl) ⟨p0, p1, c0, c1, c2, c3, c4, c5, d0, d1, d2, d3, d4, d5⟩ (fun hHeld => ?_)
              refine take (i := 0) (d := some 23) (v := .pointer (some ⟨w.heap.size, 1, none⟩)) rfl (by kernel_rfl) (by kernel_rfl) (by kernel_rfl) (by kernel_rfl) (fun _ _ _ h => h) (Or.inl ⟨by rfl, by intro w hSw; go_simp⟩) hHeld ?_
              simp only [Act.put, List.setIfInBounds_toArray, List.set_cons_zero, List.set_cons_succ]
              refine take (i := 1) (d := some 24) (v := .slice (some ⟨b, off, none⟩) n cap) rfl (by kernel_rfl) (by kernel_rfl) (by kernel_rfl) (by kernel_rfl) (fun _ _ _ h => h) (Or.inl ⟨by rfl, by intro w hSw; obtain ⟨p0, p1, c0, c1, c2, c3, c4, c5, d0, d1, d2, d3, d4, d5⟩ := hSw; go_simp⟩) hHeld ?_
              simp only [Act.put, List.setIfInBounds_toArray, List.set_cons_zero, List.set_cons_succ]
              refine take (i := 2) (d := some 25) (v := .int .i64 k) rfl (by kernel_rfl) (by kernel_rfl) (by kernel_rfl) (by kernel_rfl) (fun _ _ _ h => h) (Or.inl ⟨by rfl, by intro w hSw; go_simp⟩) hHeld ?_
              simp only [Act.put, List.setIfInBounds_toArray, List.set_cons_zero, List.set_cons_succ]
              refine take (i := 3) (d := some 26) (v := .pointer (some ⟨b, off + k * 6, none⟩)) rfl (by kernel_rfl) (by kernel_rfl) (by kernel_rfl) (by kernel_rfl) (fun _ _ _ h => h) (Or.inl ⟨by rfl, by intro w hSw; go_simp⟩) hHeld ?_
              simp only [Act.put, List.setIfInBounds_toArray, List.set_cons_zero, List.set_cons_succ]
              refine take (i := 4) (d := some 27) (v := .pointer (some ⟨b, off + k * 6, none⟩)) rfl (by kernel_rfl) (by kernel_rfl) (by kernel_rfl) (by kernel_rfl) (fun _ _ _ h => h) (Or.inl ⟨by rfl, by intro w hSw; go_simp⟩) hHeld ?_
              simp only [Act.put, List.setIfInBounds_toArray, List.set_cons_zero, List.set_cons_succ]
              refine take (i := 5) (d := some 28) (v := .int .i64 x.ep) rfl (by kernel_rfl) (by kernel_rfl) (by kernel_rfl) (by kernel_rfl) (fun _ _ _ h => h) (Or.inl ⟨by rfl, by intro w hSw; obtain ⟨p0, p1, c0, c1, c2, c3, c4, c5, d0, d1, d2, d3, d4, d5⟩ := hSw; go_simp⟩) hHeld ?_
              simp only [Act.put, List.setIfInBounds_toArray, List.set_cons_zero, List.set_cons_succ]
              refine take (i := 6) (d := some 29) (v := .pointer (some ⟨w.heap.size, 1, none⟩)) rfl (by kernel_rfl) (by kernel_rfl) (by kernel_rfl) (by kernel_rfl) (fun _ _ _ h => h) (Or.inl ⟨by rfl, by intro w hSw; go_simp⟩) hHeld ?_
              simp only [Act.put, List.setIfInBounds_toArray, List.set_cons_zero, List.set_cons_succ]
              refine take (i := 7) (d := some 30) (v := .slice (some ⟨b, off, none⟩) n cap) rfl (by kernel_rfl) (by kernel_rfl) (by kernel_rfl) (by kernel_rfl) (fun _ _ _ h => h) (Or.inl ⟨by rfl, by intro w hSw; obtain ⟨p0, p1, c0, c1, c2, c3, c4, c5, d0, d1, d2, d3, d4, d5⟩ := hSw; go_simp⟩) hHeld ?_
              simp only [Act.put, List.setIfInBounds_toArray, List.set_cons_zero, List.set_cons_succ]
              refine take (i := 8) (d := some 31) (v := .int .i64 i) rfl (by kernel_rfl) (by kernel_rfl) (by kernel_rfl) (by kernel_rfl) (fun _ _ _ h => h) (Or.inl ⟨by rfl, by intro w hSw; go_simp⟩) hHeld ?_
              simp only [Act.put, List.setIfInBounds_toArray, List.set_cons_zero, List.set_cons_succ]
              refine take (i := 9) (d := some 32) (v := .pointer (some ⟨b, off + i * 6, none⟩)) rfl (by kernel_rfl) (by kernel_rfl) (by kernel_rfl) (by kernel_rfl) (fun _ _ _ h => h) (Or.inl ⟨by rfl, by intro w hSw; go_simp⟩) hHeld ?_
              simp only [Act.put, List.setIfInBounds_toArray, List.set_cons_zero, List.set_cons_succ]
              refine take (i := 10) (d := some 33) (v := .pointer (some ⟨b, off + i * 6, none⟩)) rfl (by kernel_rfl) (by kernel_rfl) (by kernel_rfl) (by kernel_rfl) (fun _ _ _ h => h) (Or.inl ⟨by rfl, by intro w hSw; go_simp⟩) hHeld ?_
              simp only [Act.put, List.setIfInBounds_toArray, List.set_cons_zero, List.set_cons_succ]
              refine take (i := 11) (d := some 34) (v := .int .i64 y.ep) rfl (by kernel_rfl) (by kernel_rfl) (by kernel_rfl) (by kernel_rfl) (fun _ _ _ h => h) (Or.inl ⟨by rfl, by intro w hSw; obtain ⟨p0, p1, c0, c1, c2, c3, c4, c5, d0, d1, d2, d3, d4, d5⟩ := hSw; go_simp⟩) hHeld ?_
              simp only [Act.put, List.setIfInBounds_toArray, List.set_cons_zero, List.set_cons_succ]
              refine take (i := 12) (d := some 35) (v := .bool true) rfl (by kernel_rfl) (by kernel_rfl) (by kernel_rfl) (by kernel_rfl) (fun _ _ _ h => h) (Or.inl ⟨by rfl, by intro w hSw; go_simp⟩) hHeld ?_
              simp only [Act.put, List.setIfInBounds_toArray, List.set_cons_zero, List.set_cons_succ]
              refine take (i := 13) (d := some 36) (v := .bool true) rfl (by kernel_rfl) (by kernel_rfl) (by kernel_rfl) (by kernel_rfl) (fun _ _ _ h => h) (Or.inl ⟨by rfl, by intro w hSw; go_simp⟩) hHeld ?_
              simp only [Act.put, List.setIfInBounds_toArray, List.set_cons_zero, List.set_cons_succ]
              refine take (i := 14) (d := some 37) (v := .pointer (some ⟨w.heap.size, 1, none⟩)) rfl (by kernel_rfl) (by kernel_rfl) (by kernel_rfl) (by kernel_rfl) (fun _ _ _ h => h) (Or.inl ⟨by rfl, by intro w hSw; go_simp⟩) hHeld ?_
              simp only [Act.put, List.setIfInBounds_toArray, List.set_cons_zero, List.set_cons_succ]
              refine take (i := 15) (d := some 38) (v := .slice (some ⟨b, off, none⟩) n cap) rfl (by kernel_rfl) (by kernel_rfl) (by kernel_rfl) (by kernel_rfl) (fun _ _ _ h => h) (Or.inl ⟨by rfl, by intro w hSw; obtain ⟨p0, p1, c0, c1, c2, c3, c4, c5, d0, d1, d2, d3, d4, d5⟩ := hSw; go_simp⟩) hHeld ?_
              simp only [Act.put, List.setIfInBounds_toArray, List.set_cons_zero, List.set_cons_succ]
              refine take (i := 16) (d := some 39) (v := .int .i64 k) rfl (by kernel_rfl) (by kernel_rfl) (by kernel_rfl) (by kernel_rfl) (fun _ _ _ h => h) (Or.inl ⟨by rfl, by intro w hSw; go_simp⟩) hHeld ?_
              simp only [Act.put, List.setIfInBounds_toArray, List.set_cons_zero, List.set_cons_succ]
              refine take (i := 17) (d := some 40) (v := .pointer (some ⟨b, off + k * 6, none⟩)) rfl (by kernel_rfl) (by kernel_rfl) (by kernel_rfl) (by kernel_rfl) (fun _ _ _ h => h) (Or.inl ⟨by rfl, by intro w hSw; go_simp⟩) hHeld ?_
              simp only [Act.put, List.setIfInBounds_toArray, List.set_cons_zero, List.set_cons_succ]
              refine take (i := 18) (d := some 41) (v := .pointer (some ⟨b, off + k * 6 + 2, none⟩)) rfl (by kernel_rfl) (by kernel_rfl) (by kernel_rfl) (by kernel_rfl) (fun _ _ _ h => h) (Or.inl ⟨by rfl, by intro w hSw; go_simp⟩) hHeld ?_
              simp only [Act.put, List.setIfInBounds_toArray, List.set_cons_zero, List.set_cons_succ]
              refine take (i := 19) (d := some 42) (v := .agg #[.slice x.aV x.V.length x.cV, .slice x.aM x.M.length x.cM]) rfl (by kernel_rfl) (by kernel_rfl) (by kernel_rfl) (by kernel_rfl) (fun _ _ _ h => h) (Or.inl ⟨by rfl, by intro w hSw; obtain ⟨p0, p1, c0, c1, c2, c3, c4, c5, d0, d1, d2, d3, d4, d5⟩ := hSw; go_simp⟩) hHeld ?_
              simp only [Act.put, List.setIfInBounds_toArray, List.set_cons_zero, List.set_cons_succ]
              refine take (i := 20) (d := some 43) (v := .pointer (some ⟨w.heap.size, 1, none⟩)) rfl (by kernel_rfl) (by kernel_rfl) (by kernel_rfl) (by kernel_rfl) (fun _ _ _ h => h) (Or.inl ⟨by rfl, by intro w hSw; go_simp⟩) hHeld ?_
              simp only [Act.put, List.setIfInBounds_toArray, List.set_cons_zero, List.set_cons_succ]
              refine take (i := 21) (d := some 44) (v := .slice (some ⟨b, off, none⟩) n cap) rfl (by kernel_rfl) (by kernel_rfl) (by kernel_rfl) (by kernel_rfl) (fun _ _ _ h => h) (Or.inl ⟨by rfl, by intro w hSw; obtain ⟨p0, p1, c0, c1, c2, c3, c4, c5, d0, d1, d2, d3, d4, d5⟩ := hSw; go_simp⟩) hHeld ?_
              simp only [Act.put, List.setIfInBounds_toArray, List.set_cons_zero, List.set_cons_succ]
              refine take (i := 22) (d := some 45) (v := .int .i64 i) rfl (by kernel_rfl) (by kernel_rfl) (by kernel_rfl) (by kernel_rfl) (fun _ _ _ h => h) (Or.inl ⟨by rfl, by intro w hSw; go_simp⟩) hHeld ?_
              simp only [Act.put, List.setIfInBounds_toArray, List.set_cons_zero, List.set_cons_succ]
              refine take (i := 23) (d := some 46) (v := .pointer (some ⟨b, off + i * 6, none⟩)) rfl (by kernel_rfl) (by kernel_rfl) (by kernel_rfl) (by kernel_rfl) (fun _ _ _ h => h) (Or.inl ⟨by rfl, by intro w hSw; go_simp⟩) hHeld ?_
              simp only [Act.put, List.setIfInBounds_toArray, List.set_cons_zero, List.set_cons_succ]
              refine take (i := 24) (d := some 47) (v := .pointer (some ⟨b, off + i * 6 + 2, none⟩)) rfl (by kernel_rfl) (by kernel_rfl) (by kernel_rfl) (by kernel_rfl) (fun _ _ _ h => h) (Or.inl ⟨by rfl, by intro w hSw; go_simp⟩) hHeld ?_
              simp only [Act.put, List.setIfInBounds_toArray, List.set_cons_zero, List.set_cons_succ]
              refine take (i := 25) (d := some 48) (v := .agg #[.slice y.aV y.V.length y.cV, .slice y.aM y.M.length y.cM]) rfl (by kernel_rfl) (by kernel_rfl) (by kernel_rfl) (by kernel_rfl) (fun _ _ _ h => h) (Or.inl ⟨by rfl, by intro w hSw; obtain ⟨p0, p1, c0, c1, c2, c3, c4, c5, d0, d1, d2, d3, d4, d5⟩ := hSw; go_simp⟩) hHeld ?_
              simp only [Act.put, List.setIfInBounds_toArray, List.set_cons_zero, List.set_cons_succ]
              refine wpAnyH_ready (rs := [26]) (by kernel_rfl) (by simp) (Rg.call2 (i := 26) rfl (by rfl) 16 (.tmp 42) (.tmp 48) 25 25 (by kernel_rfl) 49 (by kernel_rfl) _ _ (by kernel_rfl) (by kernel_rfl) (fun _ => rfl) (hcall) ?_ AllReadyH.nil)
              rintro e1 w1 ⟨rfl, hb⟩
              refine ⟨_, rfl, ⟨(hb.cell (by exact bt)).trans p0, (hb.cell (by exact bt)).trans p1, (hb.cell (by exact bl)).trans c0, (hb.cell (by exact bl)).trans c1, (hb.cell (by exact bl)).trans c2, (hb.cell (by exact bl)).trans c3, (hb.cell (by exact bl)).trans c4, (hb.cell (by exact bl)).trans c5, (hb.cell (by exact bl)).trans d0, (hb.cell (by exact bl)).trans d1, (hb.cell (by exact bl)).trans d2, (hb.cell (by exact bl)).trans d3, (hb.cell (by exact bl)).trans d4, (hb.cell (by exact bl)).trans d5⟩, fun hHeld => ?_⟩
              simp only [Act.put, List.setIfInBounds_toArray, List.set_cons_zero, List.set_cons_succ]
              refine take (i := 27) (d := some 50) (v := .bool true) rfl (by kernel_rfl) (by kernel_rfl) (by kernel_rfl) (by kernel_rfl) (fun _ _ _ h => h) (Or.inl ⟨by rfl, by intro w hSw; go_simp⟩) hHeld ?_
              simp only [Act.put, List.setIfInBounds_toArray, List.set_cons_zero, List.set_cons_succ]
              refine wpAnyH_done (by kernel_rfl) ?_ _
              go_wp2
              go_roundw
              case rel => exact ⟨k + 1, by omega, by go_num, by rw [← HSp.out true (show (decide (x.ep = y.ep) && covB x.V x.M y.V y.M) = true by rw [HCv.out, decide_eq_true HEp.out]; rfl)]; simp, Rw.next (by repeat (first | exact hbel | apply Below.drew)) hb, (hb.block _ bt).trans kT, (hown.below ((Below.refl _ _).drew)).below hb⟩
              case measure => simp [intOf]; omega
          · have he' : (x.ep == y.ep) = false := by simpa using he
            have HEp : Hid (¬ x.ep = y.ep) := he
            clear he
            go_wp2
            refine wp_region_held_drew (S := (fun w' => w'.cell? ⟨w.heap.size, 0, none⟩ = some (.int .i64 q) ∧ w'.cell? ⟨w.heap.size, 1, none⟩ = some (.slice (some ⟨b, off, none⟩) n cap) ∧ w'.cell? ⟨b, off + k * 6, none⟩ = some (.int .i64 x.ep) ∧ w'.cell? ⟨b, off + k * 6 + 1, none⟩ = some (.int .i64 x.pr) ∧ w'.cell? ⟨b, off + k * 6 + 2, none⟩ = some (.slice x.aV x.V.length x.cV) ∧ w'.cell? ⟨b, off + k * 6 + 3, none⟩ = some (.slice x.aM x.M.length x.cM) ∧ w'.cell? ⟨b, off + k * 6 + 4, none⟩ = some (.slice x.aA x.A.length x.cA) ∧ w'.cell? ⟨b, off + k * 6 + 5, none⟩ = some (.int .i64 x.h) ∧ w'.cell? ⟨b, off + i * 6, none⟩ = some (.int .i64 y.ep) ∧ w'.cell? ⟨b, off + i * 6 + 1, none⟩ = some (.int .i64 y.pr) ∧ w'.cell? ⟨b, off + i * 6 + 2, none⟩ = some (.slice y.aV y.V.length y.cV) ∧ w'.cell? ⟨b, off + i * 6 + 3, none⟩ = some (.slice y.aM y.M.length y.cM) ∧ w'.cell? ⟨b, off + i * 6 + 4, none⟩ = some (.slice y.aA y.A.length y.cA) ∧ w'.cell? ⟨b, off + i * 6 + 5, none⟩ = some (.int .i64 y.h))) (by kernel_rfl) ⟨p0, p1, c0, c1, c2, c3, c4, c5, d0, d1, d2, d3, d4, d5⟩ (fun hHeld => ?_)
            refine take (i := 0) (d := some 23) (v := .pointer (some ⟨w.heap.size, 1, none⟩)) rfl (by kernel_rfl) (by kernel_rfl) (by kernel_rfl) (by kernel_rfl) (fun _ _ _ h => h) (Or.inl ⟨by rfl, by intro w hSw; go_simp⟩) hHeld ?_
            simp only [Act.put, List.setIfInBounds_toArray, List.set_cons_zero, List.set_cons_succ]
            refine take (i := 1) (d := some 24) (v := .slice (some ⟨b, off, none⟩) n cap) rfl (by kernel_rfl) (by kernel_rfl) (by kernel_rfl) (by kernel_rfl) (fun _ _ _ h => h) (Or.inl ⟨by rfl, by intro w hSw; obtain ⟨p0, p1, c0, c1, c2, c3, c4, c5, d0, d1, d2, d3, d4, d5⟩ := hSw; go_simp⟩) hHeld ?_
            simp only [Act.put, List.setIfInBounds_toArray, List.set_cons_zero, List.set_cons_succ]
            refine take (i := 2) (d := some 25) (v := .int .i64 k) rfl (by kernel_rfl) (by kernel_rfl) (by kernel_rfl) (by kernel_rfl) (fun _ _ _ h => h) (Or.inl ⟨by rfl, by intro w hSw; go_simp⟩) hHeld ?_
            simp only [Act.put, List.setIfInBounds_toArray, List.set_cons_zero, List.set_cons_succ]
            refine take (i := 3) (d := some 26) (v := .pointer (some ⟨b, off + k * 6, none⟩)) rfl (by kernel_rfl) (by kernel_rfl) (by kernel_rfl) (by kernel_rfl) (fun _ _ _ h => h) (Or.inl ⟨by rfl, by intro w hSw; go_simp⟩) hHeld ?_
            simp only [Act.put, List.setIfInBounds_toArray, List.set_cons_zero, List.set_cons_succ]
            refine take (i := 4) (d := some 27) (v := .pointer (some ⟨b, off + k * 6, none⟩)) rfl (by kernel_rfl) (by kernel_rfl) (by kernel_rfl) (by kernel_rfl) (fun _ _ _ h => h) (Or.inl ⟨by rfl, by intro w hSw; go_simp⟩) hHeld ?_
            simp only [Act.put, List.setIfInBounds_toArray, List.set_cons_zero, List.set_cons_succ]
            refine take (i := 5) (d := some 28) (v := .int .i64 x.ep) rfl (by kernel_rfl) (by kernel_rfl) (by kernel_rfl) (by kernel_rfl) (fun _ _ _ h => h) (Or.inl ⟨by rfl, by intro w hSw; obtain ⟨p0, p1, c0, c1, c2, c3, c4, c5, d0, d1, d2, d3, d4, d5⟩ := hSw; go_simp⟩) hHeld ?_
            simp only [Act.put, List.setIfInBounds_toArray, List.set_cons_zero, List.set_cons_succ]
            refine take (i := 6) (d := some 29) (v := .pointer (some ⟨w.heap.size, 1, none⟩)) rfl (by kernel_rfl) (by kernel_rfl) (by kernel_rfl) (by kernel_rfl) (fun _ _ _ h => h) (Or.inl ⟨by rfl, by intro w hSw; go_simp⟩) hHeld ?_
            simp only [Act.put, List.setIfInBounds_toArray, List.set_cons_zero, List.set_cons_succ]
            refine take (i := 7) (d := some 30) (v := .slice (some ⟨b, off, none⟩) n cap) rfl (by kernel_rfl) (by kernel_rfl) (by kernel_rfl) (by kernel_rfl) (fun _ _ _ h => h) (Or.inl ⟨by rfl, by intro w hSw; obtain ⟨p0, p1, c0, c1, c2, c3, c4, c5, d0, d1, d2, d3, d4, d5⟩ := hSw; go_simp⟩) hHeld ?_
            simp only [Act.put, List.setIfInBounds_toArray, List.set_cons_zero, List.set_cons_succ]
            refine take (i := 8) (d := some 31) (v := .int .i64 i) rfl (by kernel_rfl) (by kernel_rfl) (by kernel_rfl) (by kernel_rfl) (fun _ _ _ h => h) (Or.inl ⟨by rfl, by intro w hSw; go_simp⟩) hHeld ?_
            simp only [Act.put, List.setIfInBounds_toArray, List.set_cons_zero, List.set_cons_succ]
            refine take (i := 9) (d := some 32) (v := .pointer (some ⟨b, off + i * 6, none⟩)) rfl (by kernel_rfl) (by kernel_rfl) (by kernel_rfl) (by kernel_rfl) (fun _ _ _ h => h) (Or.inl ⟨by rfl, by intro w hSw; go_simp⟩) hHeld ?_
            simp only [Act.put, List.setIfInBounds_toArray, List.set_cons_zero, List.set_cons_succ]
            refine take (i := 10) (d := some 33) (v := .pointer (some ⟨b, off + i * 6, none⟩)) rfl (by kernel_rfl) (by kernel_rfl) (by kernel_rfl) (by kernel_rfl) (fun _ _ _ h => h) (Or.inl ⟨by rfl, by intro w hSw; go_simp⟩) hHeld ?_
            simp only [Act.put, List.setIfInBounds_toArray, List.set_cons_zero, List.set_cons_succ]
            refine take (i := 11) (d := some 34) (v := .int .i64 y.ep) rfl (by kernel_rfl) (by kernel_rfl) (by kernel_rfl) (by kernel_rfl) (fun _ _ _ h => h) (Or.inl ⟨by rfl, by intro w hSw; obtain ⟨p0, p1, c0, c1, c2, c3, c4, c5, d0, d1, d2, d3, d4, d5⟩ := hSw; go_simp⟩) hHeld ?_
            simp only [Act.put, List.setIfInBounds_toArray, List.set_cons_zero, List.set_cons_succ]
            refine take (i := 12) (d := some 35) (v := .bool false) rfl (by kernel_rfl) (by kernel_rfl) (by kernel_rfl) (by kernel_rfl) (fun _ _ _ h => h) (Or.inl ⟨by rfl, by intro w hSw; go_simp⟩) hHeld ?_
            simp only [Act.put, List.setIfInBounds_toArray, List.set_cons_zero, List.set_cons_succ]
            refine take (i := 13) (d := some 36) (v := .bool false) rfl (by kernel_rfl) (by kernel_rfl) (by kernel_rfl) (by kernel_rfl) (fun _ _ _ h => h) (Or.inl ⟨by rfl, by intro w hSw; go_simp⟩) hHeld ?_
            simp only [Act.put, List.setIfInBounds_toArray, List.set_cons_zero, List.set_cons_succ]
            refine take (i := 14) (d := some 37) (v := undef) rfl (by kernel_rfl) (by kernel_rfl) (by kernel_rfl) (by kernel_rfl) (fun _ _ _ h => h) (Or.inr ⟨by rfl, rfl⟩) hHeld ?_
            simp only [Act.put, List.setIfInBounds_toArray, List.set_cons_zero, List.set_cons_succ]
            refine take (i := 15) (d := some 38) (v := undef) rfl (by kernel_rfl) (by kernel_rfl) (by kernel_rfl) (by kernel_rfl) (fun _ _ _ h => h) (Or.inr ⟨by rfl, rfl⟩) hHeld ?_
            simp only [Act.put, List.setIfInBounds_toArray, List.set_cons_zero, List.set_cons_succ]
            refine take (i := 16) (d := some 39) (v := undef) rfl (by kernel_rfl) (by kernel_rfl) (by kernel_rfl) (by kernel_rfl) (fun _ _ _ h => h) (Or.inr ⟨by rfl, rfl⟩) hHeld ?_
            simp only [Act.put, List.setIfInBounds_toArray, List.set_cons_zero, List.set_cons_succ]
            refine take (i := 17) (d := some 40) (v := undef) rfl (by kernel_rfl) (by kernel_rfl) (by kernel_rfl) (by kernel_rfl) (fun _ _ _ h => h) (Or.inr ⟨by rfl, rfl⟩) hHeld ?_
            simp only [Act.put, List.setIfInBounds_toArray, List.set_cons_zero, List.set_cons_succ]
            refine take (i := 18) (d := some 41) (v := undef) rfl (by kernel_rfl) (by kernel_rfl) (by kernel_rfl) (by kernel_rfl) (fun _ _ _ h => h) (Or.inr ⟨by rfl, rfl⟩) hHeld ?_
            simp only [Act.put, List.setIfInBounds_toArray, List.set_cons_zero, List.set_cons_succ]
            refine take (i := 19) (d := some 42) (v := undef) rfl (by kernel_rfl) (by kernel_rfl) (by kernel_rfl) (by kernel_rfl) (fun _ _ _ h => h) (Or.inr ⟨by rfl, rfl⟩) hHeld ?_
            simp only [Act.put, List.setIfInBounds_toArray, List.set_cons_zero, List.set_cons_succ]
            refine take (i := 20) (d := some 43) (v := undef) rfl (by kernel_rfl) (by kernel_rfl) (by kernel_rfl) (by kernel_rfl) (fun _ _ _ h => h) (Or.inr ⟨by rfl, rfl⟩) hHeld ?_
            simp only [Act.put, List.setIfInBounds_toArray, List.set_cons_zero, List.set_cons_succ]
            refine take (i := 21) (d := some 44) (v := undef) rfl (by kernel_rfl) (by kernel_rfl) (by kernel_rfl) (by kernel_rfl) (fun _ _ _ h => h) (Or.inr ⟨by rfl, rfl⟩) hHeld ?_
            simp only [Act.put, List.setIfInBounds_toArray, List.set_cons_zero, List.set_cons_succ]
            refine take (i := 22) (d := some 45) (v := undef) rfl (by kernel_rfl) (by kernel_rfl) (by kernel_rfl) (by kernel_rfl) (fun _ _ _ h => h) (Or.inr ⟨by rfl, rfl⟩) hHeld ?_
            simp only [Act.put, List.setIfInBounds_toArray, List.set_cons_zero, List.set_cons_succ]
            refine take (i := 23) (d := some 46) (v := undef) rfl (by kernel_rfl) (by kernel_rfl) (by kernel_rfl) (by kernel_rfl) (fun _ _ _ h => h) (Or.inr ⟨by rfl, rfl⟩) hHeld ?_
            simp only [Act.put, List.setIfInBounds_toArray, List.set_cons_zero, List.set_cons_succ]
            refine take (i := 24) (d := some 47) (v := undef) rfl (by kernel_rfl) (by kernel_rfl) (by kernel_rfl) (by kernel_rfl) (fun _ _ _ h => h) (Or.inr ⟨by rfl, rfl⟩) hHeld ?_
            simp only [Act.put, List.setIfInBounds_toArray, List.set_cons_zero, List.set_cons_succ]
            refine take (i := 25) (d := some 48) (v := undef) rfl (by kernel_rfl) (by kernel_rfl) (by kernel_rfl) (by kernel_rfl) (fun _ _ _ h => h) (Or.inr ⟨by rfl, rfl⟩) hHeld ?_
            simp only [Act.put, List.setIfInBounds_toArray, List.set_cons_zero, List.set_cons_succ]
            refine take (i := 26) (d := some 49) (v := undef) rfl (by kernel_rfl) (by kernel_rfl) (by kernel_rfl) (by kernel_rfl) (fun _ _ _ h => h) (Or.inr ⟨by rfl, rfl⟩) hHeld ?_
            simp only [Act.put, List.setIfInBounds_toArray, List.set_cons_zero, List.set_cons_succ]
            refine take (i := 27) (d := some 50) (v := .bool false) rfl (by kernel_rfl) (by kernel_rfl) (by kernel_rfl) (by kernel_rfl) (fun _ _ _ h => h) (Or.inl ⟨by rfl, by intro w hSw; go_simp⟩) hHeld ?_
            simp only [Act.put, List.setIfInBounds_toArray, List.set_cons_zero, List.set_cons_succ]
            refine wpAnyH_done (by kernel_rfl) ?_ _
            go_wp2
            go_roundw
            case rel => exact ⟨k + 1, by omega, by go_num, by rw [← HSp.out false (show (decide (x.ep = y.ep) && covB x.V x.M y.V y.M) = false by rw [decide_eq_false HEp.out]; rfl)]; simp, by repeat (first | exact hbel | apply Below.drew), kT, hown.below ((Below.refl _ _).drew)⟩
            case measure => simp [intOf]; omega
        · obtain rfl : k = i := by omega
          have hpe : anyB (fun k => covE (Q.getD k e0).said y.said) k = hidP (Q.map Ent.said) k := by
            unfold hidP
            refine anyB_congr fun m hm => ?_
            rw [said_getD, said_getD, HY.out]
          rw [hpe]
          clear hpe
          cases hp : hidP (Q.map Ent.said) k
          · have HP : Hid (hidP (Q.map Ent.said) k = false) := hp
            clear hp
            go_wp2
            go_roundw
            case rel => exact ⟨k + 1, by omega, by go_num, hbel, kT, by simp only [hidL]; rw [HP.out]; exact hown⟩
            case measure => simp [intOf]; omega
          · have HP : Hid (hidP (Q.map Ent.said) k = true) := hp
            clear hp
            go_wp2_with (at_builtin; refine wpList_appZ rfl _ _ rfl (w.heap.size + 1) _ (hidL (Q.map Ent.said) k) [(k : Int)] rfl (hown.below (below_alloc1 _ _)) ⟨wr.heap.size, 0, none⟩ wr.heap.size 0 1 rfl (rd_one _ _) (by simp; omega) (by simp; omega) ?_; intro v' wd own3 hg3)
            go_roundw
            case rel => exact ⟨k + 1, by omega, by go_num, grown_below (hown.below (below_alloc1 _ _)) (Rw.next hbel (below_alloc1 _ _)) hg3 (by omega), (grown_other (hown.below (below_alloc1 _ _)) hg3 (by simp; omega) (by omega)).trans ((at_old bt).trans kT), by simp only [hidL]; rw [HP.out]; exact own3⟩
            case measure => simp [intOf]; omega
    · obtain rfl : i = n := by omega
      go_wp2
      go_ret
      exact ⟨_, rfl, by rw [HRr.out, ← HN.out]; exact hown.mono (by omega), hbel⟩

end Go.Proofs.Ytcbgnfjnjfaacaa.Hq
namespace Go.Proofs.Ytcbgnfjnjfaacaa.Em
set_option maxRecDepth 8000
set_option linter.unusedSimpArgs false
set_option linter.unusedVariables false
open Go Go.RowKit
open Num Pl Ea Mf

/-- The entries of a list, by their place. -/
def at_ (F : List Ent) : Nat → Ent := fun i => F.getD i e0
theorem ownE_wt {w : World} {lo : Nat} {f : Ent} (h : OwnE w lo f) : WtE w f := by
  refine ⟨?_, ?_, ?_⟩
  · rw [h.aV]; exact Hr.mine_wt h.mV
  · rw [h.aM]; exact Hr.mine_wt h.mM
  · rw [h.aA]; exact mineA_wt h.mA
theorem mine_wtF {w : World} {lo g : Nat} {F : List Ent} (h : Mine w lo g F) : WtF w g F.length (at_ F) :=
  ⟨fun j hj => h.row.cell hj, fun j hj => h.row.frozen j, fun i hi => ownE_wt (h.own.each _ (getD_mem hi))⟩
theorem uses_own {f : Ent} {x : Nat} (h : Uses f x) : x = f.bV ∨ x = f.bM ∨ x = f.bA := by
  rcases h with ⟨h, _⟩ | ⟨h, _⟩ | ⟨h, _⟩
  · exact .inl h
  · exact .inr (.inl h)
  · exact .inr (.inr h)
theorem pair_at {F : List Ent} (h : F.Pairwise Apart) {i j : Nat} (hi : i < F.length) (hj : j < F.length) (hij : i < j) : Apart (F.getD i e0) (F.getD j e0) := by
  have := List.pairwise_iff_getElem.1 h i j hi hj hij
  simpa [List.getD, hi, hj] using this
theorem mine_apF {w : World} {lo g : Nat} {F : List Ent} (h : Mine w lo g F) : ApF g F.length (at_ F) := by
  refine ⟨fun i hi x hx => ?_, fun i hi => ?_, fun i j hi hj hij x hx y hy => ?_⟩
  · exact Ne.symm ((h.own.each _ (getD_mem hi)).ne h.row (uses_own hx))
  · have o := h.own.each _ (getD_mem hi)
    exact ⟨fun _ _ => o.d1, fun _ _ => o.d2, fun _ _ => o.d3⟩
  · rcases Nat.lt_or_ge i j with h1 | h1
    · exact pair_at h.own.apart hi hj h1 x (uses_own hx) y (uses_own hy)
    · exact fun e => pair_at h.own.apart hj hi (by omega) y (uses_own hy) x (uses_own hx) e.symm
/-- The blocks of a table. -/
def UseT (g n : Nat) (f : Nat → Ent) : Nat → Prop := fun b => 0 < n ∧ b = g ∨ ∃ i, i < n ∧ Uses (f i) b
theorem mine_U {w : World} {lo g : Nat} {F : List Ent} (h : Mine w lo g F) : ∀ x, UseT g F.length (at_ F) x → lo ≤ x ∧ x < w.heap.size := by
  intro x hx
  rcases hx with ⟨h0, rfl⟩ | ⟨i, hi, hu⟩
  · exact ⟨h.lg, h.row.lt⟩
  · have o := h.own.each _ (getD_mem hi)
    exact ⟨o.ge (uses_own hu), o.lt (uses_own hu)⟩

/-- How much the first k entries take. -/
def totQ (Q : List Ent) : Nat → Nat
  | 0 => 0
  | k + 1 => totQ Q k + ((Q.getD k e0).V.length + (Q.getD k e0).M.length + (Q.getD k e0).A.length)
theorem kAt_le (Q : List Ent) (k : Nat) : kAt (at_ Q) k ≤ 3 * k + 3 * totQ Q k := by
  induction k with
  | zero => simp [kAt]
  | succ k ih => simp only [kAt, totQ, esz, at_] at ih ⊢; omega
theorem said_lens {Q F : List Ent} (h : F.map Ent.said = Q.map Ent.said) (i : Nat) : esz (at_ F i) = esz (at_ Q i) := by
  have e := said_at h i
  simp only [Ent.said, Prod.mk.injEq] at e
  unfold esz at_
  rw [e.2.2.1, e.2.2.2.1, e.2.2.2.2.1]
theorem kAt_said {Q F : List Ent} (h : F.map Ent.said = Q.map Ent.said) (k : Nat) : kAt (at_ F) k = kAt (at_ Q) k := by
  induction k with
  | zero => rfl
  | succ k ih => simp only [kAt]; rw [ih, said_lens h k]
theorem rd_isRow {w : World} {a : Option Addr} {R : List Raw} (h : IsRow w a R) (hl : R.length + tot R R.length ≤ 1048576) : ∃ b off Q, List.length Q = R.length ∧ Rd w a b off Q ∧ (kAt (at_ Q) Q.length : Int) ≤ 3145728 := by
  obtain ⟨_, hi, hc⟩ := h
  obtain ⟨q, hq⟩ := Deep.choose_lt (n := R.length) (fun i h => ent_of_raw (hi i h) (by have := len_le_tot R h; omega))
  have ge : ∀ i, i < R.length → ((List.range R.length).map q).getD i e0 = q i := fun i hi => by simp [List.getD, hi]
  rcases hc with h0 | ⟨b, off, rfl, hc⟩
  · exact ⟨0, 0, [], h0.symm, ⟨fun h => by simp at h, fun i h => by simp at h, fun i h => by simp at h, by simp⟩, by simp [kAt]⟩
  · refine ⟨b, off, (List.range R.length).map q, by simp, ⟨fun _ => rfl, fun i hi => ?_, fun i hi => ?_, by simp; omega⟩, ?_⟩
    · simp only [List.length_map, List.length_range] at hi
      rw [ge i hi, (hq i hi).1]
      exact hc i hi
    · simp only [List.length_map, List.length_range] at hi
      rw [ge i hi]
      exact (hq i hi).2
    · have ht : ∀ k, k ≤ R.length → totQ ((List.range R.length).map q) k = tot R k := by
        intro k
        induction k with
        | zero => intro _; rfl
        | succ k ih =>
          intro hk
          have e := (hq k (by omega)).1
          simp only [Ent.vals, Raw.vals] at e
          have e2 : (q k).V.length = (R.getD k r0).nV ∧ (q k).M.length = (R.getD k r0).nM ∧ (q k).A.length = (R.getD k r0).nA := by
            simp at e
            simp only [List.getD]
            omega
          simp only [totQ, tot, Raw.len]
          rw [ih (by omega), ge k (by omega), e2.1, e2.2.1, e2.2.2]
      have := kAt_le ((List.range R.length).map q) R.length
      rw [ht R.length (Nat.le_refl _)] at this
      simp only [List.length_map, List.length_range]
      omega

end Go.Proofs.Ytcbgnfjnjfaacaa.Em
