/-
  The program's SameRel.
-/
import Derived.Test.YtecnbenlmbppbaaGreatRi
namespace Go.Proofs.YtecnbenlmbppbaaGreat.Rl
set_option maxRecDepth 8000
set_option linter.unusedSimpArgs false
set_option linter.unusedVariables false
open Go Go.RowKit
open Num Word Pl Rp
open Vl (ordRow)

theorem rord_zero {l m : RowL} (h : Vl.rowB l = true) : (Vl.rordB l m == 0) = decide (l = m) := by
  by_cases e : l = m
  · subst e
    rw [rord_right h h, ordRow_self, decide_eq_true rfl]; rfl
  · rw [decide_eq_false e]
    rw [beq_eq_false_iff_ne]
    intro h0
    unfold Vl.rordB at h0
    split at h0
    · rename_i hb
      rw [Bool.and_eq_true] at hb
      exact e (ordRow_eq (okL_of hb.1) (okL_of hb.2) h0)
    · omega

theorem clo96 (g0 : Nat) (u : Value) (a a' : Option Addr) (b off cap b' off' cap' : Nat) (l m : RowL) (w : World) (h : Vl.Rd w a b off l) (h' : Vl.Rd w a' b' off' m) (k0 : w.heap[g0]? = some (.cells #[u, .func (.func 143) #[] #[]] 116 (0, 0))) (hr : Vl.rowB l = true) :
    Calls Tryz.prog 161 #[.agg #[.slice a l.length cap], .agg #[.slice a' m.length cap'], .pointer (some ⟨g0, 0, none⟩)] w fun e w' => e = .returned (.bool (decide (l = m))) ∧ Below w.heap.size w w' := by
  have B := below_alloc2 w (.cells #[.slice a l.length cap] 64) (.cells #[.slice a' m.length cap'] 64)
  have lt0 := blk_lt k0
  obtain ⟨p0, p1⟩ := two k0
  have hO := Vl.rorderI_any a a' b off cap b' off' cap' l m _ (h.below B) (h'.below B)
  have e := rord_zero (m := m) hr
  rw [← e]
  clear e hr
  generalize Vl.rordB l m = r at hO ⊢
  go_enter Tryz.func161, Tryz.ntmps161
  go_wp2_with (go_at_call 143; refine hO.mono ?_; rintro e w1 ⟨rfl, hb⟩)
  go_ret
  exact ⟨rfl, Rw.next B hb⟩

set_option maxHeartbeats 2000000 in
theorem equal95 (g0 : Nat) (u : Value) (a a' : Option Addr) (b off cap b' off' cap' : Nat) (Q P : List Rm) (w : World) (h : Rd w a b off Q) (h' : Rd w a' b' off' P) (k0 : w.heap[g0]? = some (.cells #[u, .func (.func 143) #[] #[]] 116 (0, 0))) (hr : ∀ i, i < Q.length → Vl.rowB (Q.getD i rm0).l = true) :
    Calls Tryz.prog 160 #[.slice a Q.length cap, .slice a' P.length cap', .func (.func 161) #[] #[.pointer (some ⟨g0, 0, none⟩)]] w fun e w' => e = .returned (.bool (decide (said Q = said P))) ∧ Below w.heap.size w w' := by
  by_cases hl : Q.length = P.length
  · obtain ⟨R, hR⟩ : ∃ R, R = decide (said Q = said P) := ⟨_, rfl⟩
    have HG : Hid ((∀ i, i < Q.length → (Q.getD i rm0).l = (P.getD i rm0).l) → R = true) := fun h => by rw [hR]; exact decide_eq_true (said_ext hl h)
    have HB : Hid (∀ i, i < Q.length → (Q.getD i rm0).l ≠ (P.getD i rm0).l → R = false) := fun i hi h => by
      rw [hR]
      exact decide_eq_false fun e => h (by rw [← said_at hi, ← said_at (by omega), e])
    rw [← hR]
    clear hR
    obtain ⟨hh, hc, ho, hs⟩ := h
    obtain ⟨hh', hc', ho', hs'⟩ := h'
    rw [← hl] at hh' hc' ho' hs' ⊢
    obtain ⟨n, hn⟩ : ∃ n, n = Q.length := ⟨_, rfl⟩
    rw [← hn] at hh hc ho hs hh' hc' ho' hr HG HB ⊢
    clear hl hs' hn
    go_enter Tryz.func160, Tryz.ntmps160
    go_wp2
    go_loopw [17] (fun i wr => ∃ k : Nat, k ≤ n ∧ i = .int .i64 k ∧ Below w.heap.size w wr ∧ ∀ i, i < k → (Q.getD i rm0).l = (P.getD i rm0).l) (fun i _ => n - (intOf i).toNat)
    case atStart => exact ⟨0, Nat.zero_le _, rfl, Below.refl _ _, fun i hi => by omega⟩
    case round =>
      obtain ⟨k, hk, rfl, hbel, hpre⟩ := hrel
      have HP : Hid (∀ i, i < k → (Q.getD i rm0).l = (P.getD i rm0).l) := hpre
      clear hpre
      by_cases hlt : k < n
      · obtain rfl := hh (by omega)
        obtain rfl := hh' (by omega)
        have hkz : (k : Int) < (n : Int) := by omega
        have A0 := (hbel.cell (World.block_lt_of_cell? _ _ (hc k hlt))).trans (hc k hlt)
        have A1 := (hbel.cell (World.block_lt_of_cell? _ _ (hc' k hlt))).trans (hc' k hlt)
        have l0 := World.block_lt_of_cell? _ _ A0
        have l1 := World.block_lt_of_cell? _ _ A1
        have o0 := Vl.Rd.below (ho k hlt) hbel
        have o1 := Vl.Rd.below (ho' k hlt) hbel
        have hr1 := hr k hlt
        have HB1 : Hid ((Q.getD k rm0).l ≠ (P.getD k rm0).l → R = false) := HB.out k hlt
        have HX : Hid ((Q.getD k rm0).l = (P.getD k rm0).l → ∀ i, i < k + 1 → (Q.getD i rm0).l = (P.getD i rm0).l) := fun h i hi => by
          by_cases e : i = k
          · subst e; exact h
          · exact HP.out i (by omega)
        clear hc ho hh hc' ho' hh' HB hr
        generalize Q.getD k rm0 = x1 at A0 o0 HB1 HX hr1
        generalize P.getD k rm0 = x2 at A1 o1 HB1 HX
        obtain ⟨xa, xb, xo, xc, xl⟩ := x1
        obtain ⟨ya, yb, yo, yc, yl⟩ := x2
        simp only [Rm.val] at A0 A1 o0 o1 HB1 HX hr1
        have Bx := below_alloc2 wr (.cells #[.slice xa xl.length xc] 64) (.cells #[.slice ya yl.length yc] 64)
        have k1 := (hbel.block _ (blk_lt k0)).trans k0
        have hS := clo96 g0 u xa ya xb xo xc yb yo yc xl yl _ (o0.below Bx) (o1.below Bx) ((Bx.block _ (blk_lt k1)).trans k1) hr1
        clear k1
        by_cases hx : xl = yl
        · rw [decide_eq_true hx] at hS
          have HQ : Hid (∀ i, i < k + 1 → (Q.getD i rm0).l = (P.getD i rm0).l) := HX.out hx
          clear HB1 HX hx
          go_wp2_with (go_at_call 161; refine hS.mono ?_; rintro e w1 ⟨rfl, hb⟩)
          go_roundw
          case rel => exact ⟨k + 1, by omega, by go_num, Rw.next (Rw.next hbel Bx) hb, HQ.out⟩
          case measure => simp [intOf]; omega
        · rw [decide_eq_false hx] at hS
          have HQ : Hid (R = false) := HB1.out hx
          clear HB1 HX hx
          go_wp2_with (go_at_call 161; refine hS.mono ?_; rintro e w1 ⟨rfl, hb⟩)
          go_ret
          exact ⟨ret_bool HQ.out.symm, Rw.next (Rw.next hbel Bx) hb⟩
      · have he : k = n := by omega
        subst he
        go_wp2
        go_ret
        exact ⟨ret_bool (HG.out HP.out).symm, hbel⟩
  · have hne : ¬ (Q.length : Int) = (P.length : Int) := by omega
    have hn1 : ((Q.length : Int) != (P.length : Int)) = true := by simpa using hne
    have e : decide (said Q = said P) = false := decide_eq_false fun e => hl (by rw [← said_len, ← said_len, e])
    rw [e]
    clear e hl hne
    go_enter Tryz.func160, Tryz.ntmps160
    go_wp2
    go_ret
    exact ⟨rfl, Below.refl _ _⟩

theorem same74 (a a' : Option Addr) (b off cap b' off' cap' : Nat) (Q P : List Rm) (w : World) (h : Rd w a b off Q) (h' : Rd w a' b' off' P) (hr : ∀ i, i < Q.length → Vl.rowB (Q.getD i rm0).l = true) :
    Calls Tryz.prog 111 #[.agg #[.slice a Q.length cap, .func (.func 143) #[] #[]], .agg #[.slice a' P.length cap', .func (.func 143) #[] #[]]] w fun e w' => e = .returned (.bool (decide (said Q = said P))) ∧ Below w.heap.size w w' := by
  have B := below_alloc2 w (.cells #[.slice a Q.length cap, .func (.func 143) #[] #[]] 116) (.cells #[.slice a' P.length cap', .func (.func 143) #[] #[]] 116)
  have k0 : ((w.alloc (.cells #[.slice a Q.length cap, .func (.func 143) #[] #[]] 116)).alloc (.cells #[.slice a' P.length cap', .func (.func 143) #[] #[]] 116)).heap[w.heap.size]? = some (.cells #[.slice a Q.length cap, .func (.func 143) #[] #[]] 116 (0, 0)) := by rw [at_old (by simp), at_new rfl]
  have hS := equal95 w.heap.size _ a a' b off cap b' off' cap' Q P _ (h.below B) (h'.below B) k0 hr
  generalize decide (said Q = said P) = R at hS ⊢
  clear k0
  go_enter Tryz.func111, Tryz.ntmps111
  go_wp2_with (go_at_call 160; refine hS.mono ?_; rintro e w1 ⟨rfl, hb⟩)
  go_ret
  exact ⟨rfl, Rw.next B hb⟩

theorem two_right {x y : Int} {Q P : List Rm} (h : twoB x (said Q) y (said P) = true) : RelP x (said Q) ∧ RelP y (said P) ∧ x = y := by
  unfold twoB at h
  rw [Bool.and_eq_true, Bool.and_eq_true, decide_eq_true_eq] at h
  exact ⟨relP_of h.1.1, relP_of h.1.2, h.2⟩
theorem right_at {x : Int} {Q : List Rm} (h : RelP x (said Q)) : ∀ i, i < Q.length → Vl.rowB (Q.getD i rm0).l = true := fun i hi => h.right _ (List.mem_map_of_mem (getD_mem hi))

set_option maxHeartbeats 1000000 in
theorem sameI_any (x y : Int) (a a' : Option Addr) (b off cap b' off' cap' : Nat) (Q P : List Rm) (w : World) (h : Rd w a b off Q) (h' : Rd w a' b' off' P) :
    Calls Tryz.prog 54 #[.agg #[.int .i64 x, .slice a Q.length cap], .agg #[.int .i64 y, .slice a' P.length cap']] w fun e w' => e = .returned (.bool (sameB x (said Q) y (said P))) ∧ Below w.heap.size w w' := by
  obtain ⟨W1, hW1⟩ : ∃ W1, W1 = (w.alloc (.cells #[.int .i64 x, .slice a Q.length cap] 46)).alloc (.cells #[.int .i64 y, .slice a' P.length cap'] 46) := ⟨_, rfl⟩
  have B1 : Below w.heap.size w W1 := by subst hW1; exact below_alloc2 _ _ _
  have k0 : W1.heap[w.heap.size]? = some (.cells #[.int .i64 x, .slice a Q.length cap] 46 (0, 0)) := by subst hW1; rw [at_old (by simp), at_new rfl]
  have k1 : W1.heap[w.heap.size + 1]? = some (.cells #[.int .i64 y, .slice a' P.length cap'] 46 (0, 0)) := by subst hW1; rw [at_new (by simp)]
  replace h := h.below B1
  replace h' := h'.below B1
  have hT := fun W h h' => twoI_any x y a a' b off cap b' off' cap' Q P W h h'
  have hL := fun W h h' hr => same74 a a' b off cap b' off' cap' Q P W h h' hr
  unfold sameB
  generalize decide (said Q = said P) = L at hL ⊢
  obtain ⟨p0, p1⟩ := two k0
  obtain ⟨q0, q1⟩ := two k1
  go_enter Tryz.func54, Tryz.ntmps54
  go_wp2
  rw [← hW1]
  clear hW1
  cases hr : twoB x (said Q) y (said P) with
  | false =>
    rw [hr] at hT
    refine wp_region_held_drew (S := (fun w' => w'.cell? ⟨w.heap.size, 0, none⟩ = some (.int .i64 x) ∧ w'.cell? ⟨w.heap.size, 1, none⟩ = some (.slice a Q.length cap) ∧ w'.cell? ⟨w.heap.size + 1, 0, none⟩ = some (.int .i64 y) ∧ w'.cell? ⟨w.heap.size + 1, 1, none⟩ = some (.slice a' P.length cap'))) (by kernel_rfl) ⟨p0, p1, q0, q1⟩ (fun hHeld => ?_)
    refine Hn.take (i := 0) (d := some 5) (v := .agg #[.int .i64 x, .slice a Q.length cap]) rfl (by kernel_rfl) (by kernel_rfl) (by kernel_rfl) (by kernel_rfl) (fun _ _ _ h => h) (Or.inl ⟨by rfl, by intro w hSw; obtain ⟨c0, c1, c2, c3⟩ := hSw; go_simp⟩) hHeld ?_
    simp only [Act.put, List.setIfInBounds_toArray, List.set_cons_zero, List.set_cons_succ]
    refine Hn.take (i := 1) (d := some 6) (v := .agg #[.int .i64 y, .slice a' P.length cap']) rfl (by kernel_rfl) (by kernel_rfl) (by kernel_rfl) (by kernel_rfl) (fun _ _ _ h => h) (Or.inl ⟨by rfl, by intro w hSw; obtain ⟨c0, c1, c2, c3⟩ := hSw; go_simp⟩) hHeld ?_
    simp only [Act.put, List.setIfInBounds_toArray, List.set_cons_zero, List.set_cons_succ]
    refine wpAnyH_ready (rs := [2]) (by kernel_rfl) (by simp) (Hn.call2 (i := 2) rfl (by rfl) 110 (.tmp 5) (.tmp 6) 46 46 (by kernel_rfl) 7 (by kernel_rfl) (.agg #[.int .i64 x, .slice a Q.length cap]) (.agg #[.int .i64 y, .slice a' P.length cap']) (by kernel_rfl) (by kernel_rfl) (fun _ => rfl) (hT _ (h.below ((Below.refl _ _).drew)) (h'.below ((Below.refl _ _).drew))) ?_ AllReadyH.nil)
    rintro e w1 ⟨rfl, hb⟩
    replace hb := Rw.next ((Below.refl _ _).drew) hb
    replace B1 := Rw.next B1 hb
    replace k0 := (hb.block _ (blk_lt k0)).trans k0
    replace k1 := (hb.block _ (blk_lt k1)).trans k1
    refine ⟨_, rfl, ⟨(two k0).1, (two k0).2, (two k1).1, (two k1).2⟩, fun hHeld => ?_⟩
    simp only [Act.put, List.setIfInBounds_toArray, List.set_cons_zero, List.set_cons_succ]
    refine Hn.take (i := 3) (d := some 8) (v := .bool false) rfl (by kernel_rfl) (by kernel_rfl) (by kernel_rfl) (by kernel_rfl) (fun _ _ _ h => h) (Or.inl ⟨by rfl, by intro w hSw; go_simp⟩) hHeld ?_
    simp only [Act.put, List.setIfInBounds_toArray, List.set_cons_zero, List.set_cons_succ]
    refine Hn.take (i := 4) (d := some 9) (v := undef) rfl (by kernel_rfl) (by kernel_rfl) (by kernel_rfl) (by kernel_rfl) (fun _ _ _ h => h) (Or.inr ⟨by rfl, rfl⟩) hHeld ?_
    simp only [Act.put, List.setIfInBounds_toArray, List.set_cons_zero, List.set_cons_succ]
    refine Hn.take (i := 5) (d := some 10) (v := undef) rfl (by kernel_rfl) (by kernel_rfl) (by kernel_rfl) (by kernel_rfl) (fun _ _ _ h => h) (Or.inr ⟨by rfl, rfl⟩) hHeld ?_
    simp only [Act.put, List.setIfInBounds_toArray, List.set_cons_zero, List.set_cons_succ]
    refine Hn.take (i := 6) (d := some 11) (v := undef) rfl (by kernel_rfl) (by kernel_rfl) (by kernel_rfl) (by kernel_rfl) (fun _ _ _ h => h) (Or.inr ⟨by rfl, rfl⟩) hHeld ?_
    simp only [Act.put, List.setIfInBounds_toArray, List.set_cons_zero, List.set_cons_succ]
    refine Hn.take (i := 7) (d := some 12) (v := undef) rfl (by kernel_rfl) (by kernel_rfl) (by kernel_rfl) (by kernel_rfl) (fun _ _ _ h => h) (Or.inr ⟨by rfl, rfl⟩) hHeld ?_
    simp only [Act.put, List.setIfInBounds_toArray, List.set_cons_zero, List.set_cons_succ]
    refine Hn.take (i := 8) (d := some 13) (v := undef) rfl (by kernel_rfl) (by kernel_rfl) (by kernel_rfl) (by kernel_rfl) (fun _ _ _ h => h) (Or.inr ⟨by rfl, rfl⟩) hHeld ?_
    simp only [Act.put, List.setIfInBounds_toArray, List.set_cons_zero, List.set_cons_succ]
    refine Hn.take (i := 9) (d := some 14) (v := .bool false) rfl (by kernel_rfl) (by kernel_rfl) (by kernel_rfl) (by kernel_rfl) (fun _ _ _ h => h) (Or.inl ⟨by rfl, by intro w hSw; go_simp⟩) hHeld ?_
    simp only [Act.put, List.setIfInBounds_toArray, List.set_cons_zero, List.set_cons_succ]
    refine Hn.take (i := 10) (d := some 4) (v := .bool false) rfl (by kernel_rfl) (by kernel_rfl) (by kernel_rfl) (by kernel_rfl) (fun _ _ _ h => h) (Or.inl ⟨by rfl, by intro w hSw; go_simp⟩) hHeld ?_
    simp only [Act.put, List.setIfInBounds_toArray, List.set_cons_zero, List.set_cons_succ]
    refine wpAnyH_done (by kernel_rfl) ?_ _
    go_wp2
    go_ret
    exact ⟨ret_bool (by simp [hr]), B1⟩
  | true =>
    have hL1 := fun W h h' => hL W h h' (right_at (two_right hr).1)
    rw [hr] at hT
    have t1 : True := trivial
    go_region_held3 (fun w' => w'.cell? ⟨w.heap.size, 0, none⟩ = some (.int .i64 x) ∧ w'.cell? ⟨w.heap.size, 1, none⟩ = some (.slice a Q.length cap) ∧ w'.cell? ⟨w.heap.size + 1, 0, none⟩ = some (.int .i64 y) ∧ w'.cell? ⟨w.heap.size + 1, 1, none⟩ = some (.slice a' P.length cap')) (go_keep) (first
      | (go_at_call 110; refine (hT _ (h.below ((Below.refl _ _).drew)) (h'.below ((Below.refl _ _).drew))).mono ?_; rintro e w1 ⟨rfl, hb⟩; replace hb := Rw.next ((Below.refl _ _).drew) hb; clear p0 p1 q0 q1; replace B1 := Rw.next B1 hb; replace k0 := (hb.block _ (blk_lt k0)).trans k0; replace k1 := (hb.block _ (blk_lt k1)).trans k1; replace h := h.below hb; replace h' := h'.below hb; clear hb; obtain ⟨p0, p1⟩ := two k0; obtain ⟨q0, q1⟩ := two k1)
      | (go_at_call 82; refine (rowSet_any _ (.int .i64 0) _ _ _ _).mono ?_; rintro e w1 ⟨rfl, hb⟩; clear p0 p1 q0 q1; replace B1 := Rw.next B1 hb; replace k0 := (hb.block _ (blk_lt k0)).trans k0; replace k1 := (hb.block _ (blk_lt k1)).trans k1; replace h := h.below hb; replace h' := h'.below hb; clear hb; obtain ⟨p0, p1⟩ := two k0; obtain ⟨q0, q1⟩ := two k1)
      | (go_at_call 111; refine (hL1 _ h h').mono ?_; rintro e w1 ⟨rfl, hb⟩; clear p0 p1 q0 q1; replace B1 := Rw.next B1 hb; replace k0 := (hb.block _ (blk_lt k0)).trans k0; replace k1 := (hb.block _ (blk_lt k1)).trans k1; replace h := h.below hb; replace h' := h'.below hb; clear hb; obtain ⟨p0, p1⟩ := two k0; obtain ⟨q0, q1⟩ := two k1))
    go_wp2
    go_ret
    exact ⟨ret_bool (by simp [hr]), B1⟩

end Go.Proofs.YtecnbenlmbppbaaGreat.Rl
