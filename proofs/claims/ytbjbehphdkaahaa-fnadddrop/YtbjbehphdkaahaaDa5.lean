/-
  A relation and a row are drawn.
-/
import Derived.Test.YtbjbehphdkaahaaDa4
namespace Go.Proofs.Ytbjbehphdkaahaa.Dr
set_option maxRecDepth 8000
set_option linter.unusedSimpArgs false
set_option linter.unusedVariables false
open Go Go.RowKit
open Num Rw Pl
open Rl (flatV Rm OG rm0)
open Vl (V2 z2)

theorem OX.drew {w : World} {B T : Nat} {v : Value} {Q : List Rm} (h : OX w B T v Q) : OX w.drew B T v Q := h.below ((Below.refl _ _).drew)
theorem cur_drew {w : World} {g : Nat} {a : Option Addr} {b off cap : Nat} {l : List Int} (h : Cur w g a b off cap l) : Cur w.drew g a b off cap l := ⟨h.blk, h.rd.below ((Below.refl _ _).drew), h.ne⟩
theorem only_drew {g : Nat} {w w1 : World} (h : Only g w w1) : Only g w w1.drew := only_trans h ⟨rfl, rfl, rfl, Nat.le_refl _, fun _ _ _ => rfl⟩
def ResW (w : World) (g : Nat) (a : Option Addr) (b off cap : Nat) (c : List Int) (e : Ending) (w' : World) : Prop :=
  ∃ ar va vn vc Q r, e = .returned (.tuple #[.agg #[.int .i64 ar, .slice va vn vc], .agg #[Rm.val r]]) ∧ OR w' w.heap.size (.slice va vn vc) Q ∧ Q.length ≤ 1000 ∧ Rl.NewR w.heap.size w' r ∧ Cur w' g a b off cap c ∧ Only g w w'

set_option maxHeartbeats 8000000 in
theorem withrow_any (g : Nat) (a : Option Addr) (b off cap : Nat) (c : List Int) (w : World) (h : Cur w g a b off cap c) :
    Calls Try.prog 50 #[.pointer (some ⟨g, 0, none⟩)] w (ResW w g a b off cap c) := by
  obtain ⟨hg, hbl⟩ := cur_in h
  obtain ⟨W1, hW1⟩ : ∃ W1, W1 = (w.alloc (.cells #[.int .i64 0, .slice none 0 0] 25)).alloc (.cells #[.slice none 0 0] 34) := ⟨_, rfl⟩
  have kR : W1.heap[w.heap.size]? = some (.cells #[.int .i64 0, .slice none 0 0] 25 (0, 0)) := by subst hW1; rw [at_old (by simp), at_new rfl]
  have kS : W1.heap[w.heap.size + 1]? = some (.cells #[.slice none 0 0] 34 (0, 0)) := by subst hW1; exact at_new (by simp)
  have hC : Cur W1 g a b off cap c := by subst hW1; exact cur_alloc (cur_alloc h _) _
  have hO : Only g w W1 := by subst hW1; exact only_alloc (only_alloc (Only.refl _ _) _) _
  obtain ⟨B, hB⟩ : ∃ B, B = W1.heap.size := ⟨_, rfl⟩
  have zB : w.heap.size + 1 < B := by rw [hB]; exact blk_lt kS
  clear h
  go_enter Try.func50, Try.ntmps50
  go_wp2_with (go_at_call 75; rw [← hW1]; clear hW1; refine (anyrel_any _ _ _ _ _ _ _ hC).mono ?_; rintro e w2 ⟨ar, ua, un, uc, Q, rfl, or0, hQ, hC1, hO1⟩; have s2 := hO1.size; rw [← hB] at or0 s2; replace kR := only_at hO1 kR (by omega); replace kS := only_at hO1 kS (by omega); replace hO := only_trans hO hO1; replace hC := hC1; clear hC1 hO1 hB; obtain ⟨fa, fg, fc, hv, hrd, hfb⟩ := or0.og.form (by omega); simp only [Value.slice.injEq] at hv; obtain ⟨rfl, rfl, rfl⟩ := hv; clear hrd hfb)
  obtain ⟨ab, hab⟩ : ∃ ab, ab = w2.heap.size := ⟨_, rfl⟩
  obtain ⟨W3, hW3⟩ : ∃ W3, W3 = w2.alloc (.cells #[.int .i64 ar, .slice ua Q.length uc] 25) := ⟨_, rfl⟩
  have kA : W3.heap[ab]? = some (.cells #[.int .i64 ar, .slice ua Q.length uc] 25 (0, 0)) := by subst hW3; exact at_new hab
  have hb : Below w2.heap.size w2 W3 := by subst hW3; exact below_alloc1 _ _
  have hBa : B ≤ ab := by omega
  replace kR := (hb.block _ (blk_lt kR)).trans kR
  replace kS := (hb.block _ (blk_lt kS)).trans kS
  replace hC := cur_below hC hb
  replace hO := only_below hO hb
  replace or0 := or0.below hb
  have s3 : B ≤ W3.heap.size := Nat.le_trans s2 hb.size
  clear hb s2
  rw [← hW3, ← hab]
  clear hW3 hab
  by_cases hn : 0 < Q.length
  · have hnz : (Q.length : Int) > 0 := by omega
    go_wp2_with (go_at_call 81; refine (anyrow_any _ _ _ _ _ _ _ hC).mono ?_; rintro e w4 ⟨da, dn, dc, l, rfl, ov, hll, hC1, hO1⟩; have sA := blk_lt kA; have s4 := hO1.size; replace kA := only_at hO1 kA (by omega); replace kR := only_at hO1 kR (by omega); replace kS := only_at hO1 kS (by omega); replace or0 := or0.only hO1 (by omega); replace hO := only_trans hO hO1; replace hC := hC1; clear hC1; clear hO1; obtain ⟨⟨ra, rb, ro, rc, rl⟩, hv, hnr, hrl, hcp⟩ := ov.row (by omega); simp only [Rm.val, Value.slice.injEq] at hv; obtain ⟨rfl, rfl, rfl⟩ := hv; have hl1 : rl.length ≤ 1001 := (by rw [← hrl] at hll; exact hll); clear hrl hcp ov hll; obtain ⟨o0, o1⟩ := two kA; have la := blk_lt kA)
    obtain ⟨tb, htb⟩ : ∃ tb, tb = w4.heap.size := ⟨_, rfl⟩
    obtain ⟨W5, hW5⟩ : ∃ W5, W5 = w4.alloc (.cells #[.slice da rl.length dc] 34) := ⟨_, rfl⟩
    have kB : W5.heap[tb]? = some (.cells #[.slice da rl.length dc] 34 (0, 0)) := by subst hW5; exact at_new htb
    have hb : Below w4.heap.size w4 W5 := by subst hW5; exact below_alloc1 _ _
    have orr : OX W5 B tb (.slice ua Q.length uc) Q := by rw [htb]; exact or0.toX hb
    have hrt : rl.length ≠ 0 → rb < tb := fun h0 => by rw [htb]; exact (hnr.own h0).2.2.lt
    have htw : ab < tb := by have := blk_lt kA; omega
    replace hnr := (hnr.mono s3).below hb
    replace kA := (hb.block _ (blk_lt kA)).trans kA
    replace kR := (hb.block _ (blk_lt kR)).trans kR
    replace kS := (hb.block _ (blk_lt kS)).trans kS
    replace hC := cur_below hC hb
    replace hO := only_below hO hb
    clear hb or0 o0 o1 la
    rw [← hW5, ← htb]
    clear hW5 htb
    go_upto_if 18 with (go_at_call 77;  refine (below_any _ _ _ _ _ _ 2 _ hC (by omega) (by omega)).mono ?_; rintro e wr ⟨q, rfl, q0, q1, hC1, hO1⟩; replace kA := only_at hO1 kA (by omega); replace kR := only_at hO1 kR (by omega); replace kS := only_at hO1 kS (by omega); replace kB := only_at hO1 kB (by omega); replace orr := orr.only hO1 (by omega); replace hnr := hnr.keep (fun h0 => hO1.block _ (hnr.own h0).2.2.lt (by have := (hnr.own h0).2.1; simp only at this ⊢; simp; omega)); replace hO := only_trans hO hO1; replace hC := hC1; clear hC1; clear hO1; obtain ⟨o0, o1⟩ := two kA)
    clear o0 o1
    by_cases hq : q = 0
    · subst hq
      obtain ⟨fg, hfa, hfB, hft, hcs0, hcl⟩ := orr.head hn (by omega)
      subst hfa
      clear hcs0 hcl
      go_wp2
      refine wp_region_held_drew (S := fun w' => w'.cell? ⟨ab, 1, none⟩ = some (.slice (some ⟨fg, 0, none⟩) Q.length uc)) (by kernel_rfl) (two kA).2 (fun hHeld => ?_)
      refine Hn.take (i := 0) (d := some 19) (v := .pointer (some ⟨ab, 1, none⟩)) rfl (by kernel_rfl) (by kernel_rfl) (by kernel_rfl) (by kernel_rfl) (fun _ _ _ h => h) (Or.inl ⟨by rfl, by intro w hSw; go_simp⟩) hHeld ?_
      simp only [Act.put, List.setIfInBounds_toArray, List.set_cons_zero, List.set_cons_succ]
      refine Hn.take (i := 1) (d := some 20) (v := .slice (some ⟨fg, 0, none⟩) Q.length uc) rfl (by kernel_rfl) (by kernel_rfl) (by kernel_rfl) (by kernel_rfl) (fun _ _ _ h => h) (Or.inl ⟨by rfl, by intro w hSw; have o1 : w.cell? ⟨ab, 1, none⟩ = some (.slice (some ⟨fg, 0, none⟩) Q.length uc) := hSw; go_simp⟩) hHeld ?_
      simp only [Act.put, List.setIfInBounds_toArray, List.set_cons_zero, List.set_cons_succ]
      refine Hn.take (i := 2) (d := some 21) (v := .pointer (some ⟨g, 0, none⟩)) rfl (by kernel_rfl) (by kernel_rfl) (by kernel_rfl) (by kernel_rfl) (fun _ _ _ h => h) (Or.inl ⟨by rfl, by intro w hSw; go_simp⟩) hHeld ?_
      simp only [Act.put, List.setIfInBounds_toArray, List.set_cons_zero, List.set_cons_succ]
      refine Hn.take (i := 3) (d := some 22) (v := .pointer (some ⟨ab, 1, none⟩)) rfl (by kernel_rfl) (by kernel_rfl) (by kernel_rfl) (by kernel_rfl) (fun _ _ _ h => h) (Or.inl ⟨by rfl, by intro w hSw; go_simp⟩) hHeld ?_
      simp only [Act.put, List.setIfInBounds_toArray, List.set_cons_zero, List.set_cons_succ]
      refine Hn.take (i := 4) (d := some 23) (v := .slice (some ⟨fg, 0, none⟩) Q.length uc) rfl (by kernel_rfl) (by kernel_rfl) (by kernel_rfl) (by kernel_rfl) (fun _ _ _ h => h) (Or.inl ⟨by rfl, by intro w hSw; have o1 : w.cell? ⟨ab, 1, none⟩ = some (.slice (some ⟨fg, 0, none⟩) Q.length uc) := hSw; go_simp⟩) hHeld ?_
      simp only [Act.put, List.setIfInBounds_toArray, List.set_cons_zero, List.set_cons_succ]
      refine Hn.take (i := 5) (d := some 24) (v := .int .i64 Q.length) rfl (by kernel_rfl) (by kernel_rfl) (by kernel_rfl) (by kernel_rfl) (fun _ _ _ h => h) (Or.inl ⟨by rfl, by intro w hSw; go_simp⟩) hHeld ?_
      simp only [Act.put, List.setIfInBounds_toArray, List.set_cons_zero, List.set_cons_succ]
      replace orr : OX wr.drew B tb (.slice (some ⟨fg, 0, none⟩) Q.length uc) Q := orr.below ((Below.refl _ _).drew)
      replace kA : wr.drew.heap[ab]? = some (.cells #[.int .i64 ar, .slice (some ⟨fg, 0, none⟩) Q.length uc] 25 (0, 0)) := kA
      replace kB : wr.drew.heap[tb]? = some (.cells #[.slice da rl.length dc] 34 (0, 0)) := kB
      replace kR : wr.drew.heap[w.heap.size]? = some (.cells #[.int .i64 0, .slice none 0 0] 25 (0, 0)) := kR
      replace kS : wr.drew.heap[w.heap.size + 1]? = some (.cells #[.slice none 0 0] 34 (0, 0)) := kS
      replace hC : Cur wr.drew g a b off cap c := ⟨hC.blk, hC.rd.below ((Below.refl _ _).drew), hC.ne⟩
      replace hO : Only g w wr.drew := only_trans hO ⟨rfl, rfl, rfl, Nat.le_refl _, fun _ _ _ => rfl⟩
      clear hnr
      generalize wr.drew = W at *
      refine wpAnyH_ready (rs := [6]) (by kernel_rfl) (by simp) (Hn.call2 (i := 6) rfl (by rfl) 77 (.tmp 21) (.tmp 24) 57 3 (by kernel_rfl) 25 (by kernel_rfl) (.pointer (some ⟨g, 0, none⟩)) (.int .i64 Q.length) (by kernel_rfl) (by kernel_rfl) (fun _ => rfl) (below_any g a b off cap c (Q.length : Int) W hC (by omega) (by omega)) ?_ AllReadyH.nil)
      rintro e1 Wc ⟨j, rfl, j0, j1, hC1, hO1⟩
      replace kA := only_at hO1 kA (by omega)
      replace kR := only_at hO1 kR (by omega)
      replace kS := only_at hO1 kS (by omega)
      replace kB := only_at hO1 kB (by omega)
      replace orr := orr.only hO1 (by omega)
      replace hO := only_trans hO hO1
      replace hC := hC1
      clear hC1
      clear hO1
      obtain ⟨J, hJ⟩ := Int.eq_ofNat_of_zero_le j0
      subst hJ
      have hJ : J < Q.length := by omega
      refine ⟨_, rfl, (two kA).2, fun hHeld => ?_⟩
      simp only [Act.put, List.setIfInBounds_toArray, List.set_cons_zero, List.set_cons_succ]
      refine Hn.take (i := 7) (d := some 26) (v := .pointer (some ⟨fg, J, none⟩)) rfl (by kernel_rfl) (by kernel_rfl) (by kernel_rfl) (by kernel_rfl) (fun _ _ _ h => h) (Or.inl ⟨by rfl, by intro w hSw; go_simp⟩) hHeld ?_
      simp only [Act.put, List.setIfInBounds_toArray, List.set_cons_zero, List.set_cons_succ]
      obtain ⟨fg2, e2, hfB2, hft2, ⟨cs, hcs⟩, hcell⟩ := orr.head hn (by omega)
      simp only [Option.some.injEq, Addr.mk.injEq, and_true] at e2
      subst e2
      have cJ := hcell J hJ
      have ok : (Q.getD J rm0).Ok Wc := orr.og.each _ (Rl.getD_mem hJ)
      clear hcell
      generalize Q.getD J rm0 = x at cJ ok
      obtain ⟨xa, xb, xo, xc, xl⟩ := x
      simp only [Rm.val] at cJ
      refine wpAnyH_ready (rs := [8]) (by kernel_rfl) (by simp) (Hn.readyRun (i := 8) rfl (by kernel_rfl) (some 27) (by kernel_rfl) (v := .agg #[.slice xa xl.length xc]) (w' := Wc) (by go_simp) (two kA).2 (fun hHeld => ?_) AllReadyH.nil)
      simp only [Act.put, List.setIfInBounds_toArray, List.set_cons_zero, List.set_cons_succ]
      refine wpAnyH_ready (rs := [9]) (by kernel_rfl) (by simp) (Hn.call1 (i := 9) rfl (by rfl) 71 (.tmp 27) 34 (by kernel_rfl) 28 (by kernel_rfl) (.agg #[.slice xa xl.length xc]) (by kernel_rfl) (fun _ => rfl) (Rl.lrow_any xa xb xo xc xl _ ok) ?_ AllReadyH.nil)
      rintro e1 Wd ⟨r, rfl, hnr, hrl, hb⟩
      have sB6 := blk_lt kB
      replace kA := (hb.block _ (blk_lt kA)).trans kA
      replace kB := (hb.block _ (blk_lt kB)).trans kB
      replace kR := (hb.block _ (blk_lt kR)).trans kR
      replace kS := (hb.block _ (blk_lt kS)).trans kS
      replace orr := orr.below hb
      replace hC := cur_below hC hb
      replace hO := only_below hO hb
      clear hrl hb cJ ok hcs
      obtain ⟨da2, rb2, ro2, dc2, rl2⟩ := r
      refine ⟨_, rfl, (two kA).2, fun hHeld => ?_⟩
      simp only [Act.put, List.setIfInBounds_toArray, List.set_cons_zero, List.set_cons_succ]
      have fB := Vl.free kB
      have b0 := one kB
      have kA' := (Below.heap_setCell Wd ⟨tb, 0, none⟩ (.slice da2 rl2.length dc2) ab (by simp only; omega)).trans kA
      simp only [Rm.val]
      refine wpAnyH_ready (rs := [10]) (by kernel_rfl) (by simp) (Hn.readySkip (i := 10) rfl (by kernel_rfl) none (by kernel_rfl) (w' := Wd.setCell ⟨tb, 0, none⟩ (.slice da2 rl2.length dc2)) (by go_simp) (two kA').2 (fun hHeld => ?_) AllReadyH.nil)
      simp only [Act.put, List.setIfInBounds_toArray, List.set_cons_zero, List.set_cons_succ]
      refine wpAnyH_done (by kernel_rfl) ?_ _
      clear kA'
      obtain ⟨o0, o1⟩ := two kA
      have hR' := one_set (x := .slice da2 rl2.length dc2) kB
      have kA' := (Below.heap_setCell Wd ⟨tb, 0, none⟩ (.slice da2 rl2.length dc2) ab (by simp only; omega)).trans kA
      have kR' := (Below.heap_setCell Wd ⟨tb, 0, none⟩ (.slice da2 rl2.length dc2) (w.heap.size) (by simp only; omega)).trans kR
      have kS' := (Below.heap_setCell Wd ⟨tb, 0, none⟩ (.slice da2 rl2.length dc2) (w.heap.size + 1) (by simp only; omega)).trans kS
      have orr' := orr.set (x := ⟨tb, 0, none⟩) (u := .slice da2 rl2.length dc2) (Or.inr rfl)
      have hnr' := hnr.keep (w' := Wd.setCell ⟨tb, 0, none⟩ (.slice da2 rl2.length dc2)) (fun h0 => Below.heap_setCell _ _ _ _ (by have := (hnr.own h0).2.1; simp only at this ⊢; omega))
      have hC' := cur_set (x := ⟨tb, 0, none⟩) (u := .slice da2 rl2.length dc2) hC (by simp only; omega) (hbl.imp id fun q => by simp only; omega)
      have hO' := only_set (x := ⟨tb, 0, none⟩) (u := .slice da2 rl2.length dc2) hO (by simp only; omega)
      clear kA kB kR kS orr hnr hC hO o0 o1 fB b0
      generalize Wd.setCell ⟨tb, 0, none⟩ (.slice da2 rl2.length dc2) = We at *
      go_wp2
      obtain ⟨o0, o1⟩ := two kA'
      have t0 := one hR'
      obtain ⟨r0, r1⟩ := two kR'
      have s0 := one kS'
      have fR := Vl.free kR'
      have fS := Vl.free kS'
      go_region
      go_wp2
      all_goals
        refine bodyPost_ret (v := .tuple #[.agg #[.int .i64 ar, .slice (some ⟨fg, 0, none⟩) Q.length uc], .agg #[.slice da2 rl2.length dc2]]) (by simp [results, Try.results50, go_sem, r0, r1, s0]) rfl ⟨ar, some ⟨fg, 0, none⟩, Q.length, uc, Q, ⟨da2, rb2, ro2, dc2, rl2⟩, rfl, ?_, by omega, ?_, ?_, ?_⟩
        · refine OR.mono (B := B) (OX.toR (T := tb) ?_) (by omega); repeat (first | with_reducible exact orr' | refine OX.drew ?_ | refine OX.set ?_ (by first | (simp only; omega) | exact Or.inr rfl))
        · refine Rl.NewR.mono (lo := Wc.heap.size) ?_ (by omega); repeat (first | with_reducible exact hnr' | refine Rl.NewR.keep ?_ (fun h0 => Below.heap_setCell _ _ _ _ (by have := (hnr'.own h0).2.1; simp only at this ⊢; omega)))
        · repeat (first | with_reducible exact hC' | refine cur_drew ?_ | refine cur_set ?_ (by simp only; omega) (hbl.imp id fun q => by simp only; omega))
        · repeat (first | with_reducible exact hO' | refine only_drew ?_ | refine only_set ?_ (by simp only; omega))
    · by_cases h1 : ar ≥ 0
      · by_cases h2 : ar ≤ 6
        · obtain ⟨o0, o1⟩ := two kA
          go_upto_if 41 with (go_at_call 77; clear o0 o1; refine (below_any _ _ _ _ _ _ 4 _ hC (by omega) (by omega)).mono ?_; rintro e wr ⟨p, rfl, p0, p1, hC1, hO1⟩; replace kA := only_at hO1 kA (by omega); replace kR := only_at hO1 kR (by omega); replace kS := only_at hO1 kS (by omega); replace kB := only_at hO1 kB (by omega); replace orr := orr.only hO1 (by omega); replace hnr := hnr.keep (fun h0 => hO1.block _ (hnr.own h0).2.2.lt (by have := (hnr.own h0).2.1; simp only at this ⊢; simp; omega)); replace hO := only_trans hO hO1; replace hC := hC1; clear hC1; clear hO1; obtain ⟨o0, o1⟩ := two kA)
          clear o0 o1
          by_cases hp : p > 0
          · obtain ⟨o0, o1⟩ := two kA
            have fB := Vl.free kB
            have b0 := one kB
            go_wp2_with (go_at_call 82; refine (drow_any ar (by omega) (by omega) _ _ _ _ _ _ _ hC).mono ?_; rintro e w6 ⟨da2, dn2, dc2, l2, rfl, ov2, hll2, hC1, hO1⟩; have sB6 := blk_lt kB; clear o0 o1 fB b0; replace kA := only_at hO1 kA (by omega); replace kR := only_at hO1 kR (by omega); replace kS := only_at hO1 kS (by omega); replace kB := only_at hO1 kB (by omega); replace orr := orr.only hO1 (by omega); replace hO := only_trans hO hO1; replace hC := hC1; clear hC1; clear hO1 hnr; obtain ⟨⟨ra2, rb2, ro2, rc2, rl2⟩, hv, hnr, hrl, hcp⟩ := ov2.row (by omega); simp only [Rm.val, Value.slice.injEq] at hv; obtain ⟨rfl, rfl, rfl⟩ := hv; have hl2 : rl2.length ≤ 1001 := (by rw [← hrl] at hll2; exact Nat.le_trans hll2 (by omega)); clear hrl hcp ov2 hll2; obtain ⟨o0, o1⟩ := two kA; have fB := Vl.free kB; have b0 := one kB)
            have hR' := one_set (x := .slice da2 rl2.length dc2) kB
            have kA' := (Below.heap_setCell w6 ⟨tb, 0, none⟩ (.slice da2 rl2.length dc2) ab (by simp only; omega)).trans kA
            have kR' := (Below.heap_setCell w6 ⟨tb, 0, none⟩ (.slice da2 rl2.length dc2) (w.heap.size) (by simp only; omega)).trans kR
            have kS' := (Below.heap_setCell w6 ⟨tb, 0, none⟩ (.slice da2 rl2.length dc2) (w.heap.size + 1) (by simp only; omega)).trans kS
            have orr' := orr.set (x := ⟨tb, 0, none⟩) (u := .slice da2 rl2.length dc2) (Or.inr rfl)
            have hnr' := hnr.keep (w' := w6.setCell ⟨tb, 0, none⟩ (.slice da2 rl2.length dc2)) (fun h0 => Below.heap_setCell _ _ _ _ (by have := (hnr.own h0).2.1; simp only at this ⊢; omega))
            have hC' := cur_set (x := ⟨tb, 0, none⟩) (u := .slice da2 rl2.length dc2) hC (by simp only; omega) (hbl.imp id fun q => by simp only; omega)
            have hO' := only_set (x := ⟨tb, 0, none⟩) (u := .slice da2 rl2.length dc2) hO (by simp only; omega)
            clear kA kB kR kS orr hnr hC hO o0 o1 fB b0
            generalize w6.setCell ⟨tb, 0, none⟩ (.slice da2 rl2.length dc2) = We at *
            obtain ⟨o0, o1⟩ := two kA'
            have t0 := one hR'
            obtain ⟨r0, r1⟩ := two kR'
            have s0 := one kS'
            have fR := Vl.free kR'
            have fS := Vl.free kS'
            go_region
            go_wp2
            all_goals
              refine bodyPost_ret (v := .tuple #[.agg #[.int .i64 ar, .slice ua Q.length uc], .agg #[.slice da2 rl2.length dc2]]) (by simp [results, Try.results50, go_sem, r0, r1, s0]) rfl ⟨ar, ua, Q.length, uc, Q, ⟨da2, rb2, ro2, dc2, rl2⟩, rfl, ?_, by omega, ?_, ?_, ?_⟩
              · refine OR.mono (B := B) (OX.toR (T := tb) ?_) (by omega); repeat (first | with_reducible exact orr' | refine OX.drew ?_ | refine OX.set ?_ (by first | (simp only; omega) | exact Or.inr rfl))
              · refine Rl.NewR.mono (lo := wr.heap.size) ?_ (by omega); repeat (first | with_reducible exact hnr' | refine Rl.NewR.keep ?_ (fun h0 => Below.heap_setCell _ _ _ _ (by have := (hnr'.own h0).2.1; simp only at this ⊢; omega)))
              · repeat (first | with_reducible exact hC' | refine cur_drew ?_ | refine cur_set ?_ (by simp only; omega) (hbl.imp id fun q => by simp only; omega))
              · repeat (first | with_reducible exact hO' | refine only_drew ?_ | refine only_set ?_ (by simp only; omega))
          · obtain ⟨o0, o1⟩ := two kA
            have fB := Vl.free kB
            have b0 := one kB
            go_wp2
            clear o0 o1 fB b0
            obtain ⟨o0, o1⟩ := two kA
            have t0 := one kB
            obtain ⟨r0, r1⟩ := two kR
            have s0 := one kS
            have fR := Vl.free kR
            have fS := Vl.free kS
            go_region
            go_wp2
            all_goals
              refine bodyPost_ret (v := .tuple #[.agg #[.int .i64 ar, .slice ua Q.length uc], .agg #[.slice da rl.length dc]]) (by simp [results, Try.results50, go_sem, r0, r1, s0]) rfl ⟨ar, ua, Q.length, uc, Q, ⟨da, rb, ro, dc, rl⟩, rfl, ?_, by omega, ?_, ?_, ?_⟩
              · refine OR.mono (B := B) (OX.toR (T := tb) ?_) (by omega); repeat (first | with_reducible exact orr | refine OX.drew ?_ | refine OX.set ?_ (by first | (simp only; omega) | exact Or.inr rfl))
              · refine Rl.NewR.mono (lo := B) ?_ (by omega); repeat (first | with_reducible exact hnr | refine Rl.NewR.keep ?_ (fun h0 => Below.heap_setCell _ _ _ _ (by have := (hnr.own h0).2.1; simp only at this ⊢; omega)))
              · repeat (first | with_reducible exact hC | refine cur_drew ?_ | refine cur_set ?_ (by simp only; omega) (hbl.imp id fun q => by simp only; omega))
              · repeat (first | with_reducible exact hO | refine only_drew ?_ | refine only_set ?_ (by simp only; omega))
        · obtain ⟨o0, o1⟩ := two kA
          have fB := Vl.free kB
          have b0 := one kB
          go_wp2
          clear o0 o1 fB b0
          obtain ⟨o0, o1⟩ := two kA
          have t0 := one kB
          obtain ⟨r0, r1⟩ := two kR
          have s0 := one kS
          have fR := Vl.free kR
          have fS := Vl.free kS
          go_region
          go_wp2
          all_goals
            refine bodyPost_ret (v := .tuple #[.agg #[.int .i64 ar, .slice ua Q.length uc], .agg #[.slice da rl.length dc]]) (by simp [results, Try.results50, go_sem, r0, r1, s0]) rfl ⟨ar, ua, Q.length, uc, Q, ⟨da, rb, ro, dc, rl⟩, rfl, ?_, by omega, ?_, ?_, ?_⟩
            · refine OR.mono (B := B) (OX.toR (T := tb) ?_) (by omega); repeat (first | with_reducible exact orr | refine OX.drew ?_ | refine OX.set ?_ (by first | (simp only; omega) | exact Or.inr rfl))
            · refine Rl.NewR.mono (lo := B) ?_ (by omega); repeat (first | with_reducible exact hnr | refine Rl.NewR.keep ?_ (fun h0 => Below.heap_setCell _ _ _ _ (by have := (hnr.own h0).2.1; simp only at this ⊢; omega)))
            · repeat (first | with_reducible exact hC | refine cur_drew ?_ | refine cur_set ?_ (by simp only; omega) (hbl.imp id fun q => by simp only; omega))
            · repeat (first | with_reducible exact hO | refine only_drew ?_ | refine only_set ?_ (by simp only; omega))
      · obtain ⟨o0, o1⟩ := two kA
        have fB := Vl.free kB
        have b0 := one kB
        go_wp2
        clear o0 o1 fB b0
        obtain ⟨o0, o1⟩ := two kA
        have t0 := one kB
        obtain ⟨r0, r1⟩ := two kR
        have s0 := one kS
        have fR := Vl.free kR
        have fS := Vl.free kS
        go_region
        go_wp2
        all_goals
          refine bodyPost_ret (v := .tuple #[.agg #[.int .i64 ar, .slice ua Q.length uc], .agg #[.slice da rl.length dc]]) (by simp [results, Try.results50, go_sem, r0, r1, s0]) rfl ⟨ar, ua, Q.length, uc, Q, ⟨da, rb, ro, dc, rl⟩, rfl, ?_, by omega, ?_, ?_, ?_⟩
          · refine OR.mono (B := B) (OX.toR (T := tb) ?_) (by omega); repeat (first | with_reducible exact orr | refine OX.drew ?_ | refine OX.set ?_ (by first | (simp only; omega) | exact Or.inr rfl))
          · refine Rl.NewR.mono (lo := B) ?_ (by omega); repeat (first | with_reducible exact hnr | refine Rl.NewR.keep ?_ (fun h0 => Below.heap_setCell _ _ _ _ (by have := (hnr.own h0).2.1; simp only at this ⊢; omega)))
          · repeat (first | with_reducible exact hC | refine cur_drew ?_ | refine cur_set ?_ (by simp only; omega) (hbl.imp id fun q => by simp only; omega))
          · repeat (first | with_reducible exact hO | refine only_drew ?_ | refine only_set ?_ (by simp only; omega))
  · have hz1 : ¬ (Q.length : Int) > 0 := by omega
    have hz : Q.length ≤ 0 := by omega
    by_cases h1 : ar ≥ 0
    · by_cases h2 : ar ≤ 6
      · go_wp2_with (go_at_call 81; refine (anyrow_any _ _ _ _ _ _ _ hC).mono ?_; rintro e w4 ⟨da, dn, dc, l, rfl, ov, hll, hC1, hO1⟩; have sA := blk_lt kA; have s4 := hO1.size; replace kA := only_at hO1 kA (by omega); replace kR := only_at hO1 kR (by omega); replace kS := only_at hO1 kS (by omega); replace or0 := or0.only hO1 (by omega); replace hO := only_trans hO hO1; replace hC := hC1; clear hC1; clear hO1; obtain ⟨⟨ra, rb, ro, rc, rl⟩, hv, hnr, hrl, hcp⟩ := ov.row (by omega); simp only [Rm.val, Value.slice.injEq] at hv; obtain ⟨rfl, rfl, rfl⟩ := hv; have hl1 : rl.length ≤ 1001 := (by rw [← hrl] at hll; exact hll); clear hrl hcp ov hll; obtain ⟨o0, o1⟩ := two kA; have la := blk_lt kA)
        obtain ⟨tb, htb⟩ : ∃ tb, tb = w4.heap.size := ⟨_, rfl⟩
        obtain ⟨W5, hW5⟩ : ∃ W5, W5 = w4.alloc (.cells #[.slice da rl.length dc] 34) := ⟨_, rfl⟩
        have kB : W5.heap[tb]? = some (.cells #[.slice da rl.length dc] 34 (0, 0)) := by subst hW5; exact at_new htb
        have hb : Below w4.heap.size w4 W5 := by subst hW5; exact below_alloc1 _ _
        have orr : OX W5 B tb (.slice ua Q.length uc) Q := by rw [htb]; exact or0.toX hb
        have hrt : rl.length ≠ 0 → rb < tb := fun h0 => by rw [htb]; exact (hnr.own h0).2.2.lt
        have htw : ab < tb := by have := blk_lt kA; omega
        replace hnr := (hnr.mono s3).below hb
        replace kA := (hb.block _ (blk_lt kA)).trans kA
        replace kR := (hb.block _ (blk_lt kR)).trans kR
        replace kS := (hb.block _ (blk_lt kS)).trans kS
        replace hC := cur_below hC hb
        replace hO := only_below hO hb
        clear hb or0 o0 o1 la
        rw [← hW5, ← htb]
        clear hW5 htb
        go_upto_if 41 with (go_at_call 77;  refine (below_any _ _ _ _ _ _ 4 _ hC (by omega) (by omega)).mono ?_; rintro e wr ⟨p, rfl, p0, p1, hC1, hO1⟩; replace kA := only_at hO1 kA (by omega); replace kR := only_at hO1 kR (by omega); replace kS := only_at hO1 kS (by omega); replace kB := only_at hO1 kB (by omega); replace orr := orr.only hO1 (by omega); replace hnr := hnr.keep (fun h0 => hO1.block _ (hnr.own h0).2.2.lt (by have := (hnr.own h0).2.1; simp only at this ⊢; simp; omega)); replace hO := only_trans hO hO1; replace hC := hC1; clear hC1; clear hO1; obtain ⟨o0, o1⟩ := two kA)
        clear o0 o1
        by_cases hp : p > 0
        · obtain ⟨o0, o1⟩ := two kA
          have fB := Vl.free kB
          have b0 := one kB
          go_wp2_with (go_at_call 82; refine (drow_any ar (by omega) (by omega) _ _ _ _ _ _ _ hC).mono ?_; rintro e w6 ⟨da2, dn2, dc2, l2, rfl, ov2, hll2, hC1, hO1⟩; have sB6 := blk_lt kB; clear o0 o1 fB b0; replace kA := only_at hO1 kA (by omega); replace kR := only_at hO1 kR (by omega); replace kS := only_at hO1 kS (by omega); replace kB := only_at hO1 kB (by omega); replace orr := orr.only hO1 (by omega); replace hO := only_trans hO hO1; replace hC := hC1; clear hC1; clear hO1 hnr; obtain ⟨⟨ra2, rb2, ro2, rc2, rl2⟩, hv, hnr, hrl, hcp⟩ := ov2.row (by omega); simp only [Rm.val, Value.slice.injEq] at hv; obtain ⟨rfl, rfl, rfl⟩ := hv; have hl2 : rl2.length ≤ 1001 := (by rw [← hrl] at hll2; exact Nat.le_trans hll2 (by omega)); clear hrl hcp ov2 hll2; obtain ⟨o0, o1⟩ := two kA; have fB := Vl.free kB; have b0 := one kB)
          have hR' := one_set (x := .slice da2 rl2.length dc2) kB
          have kA' := (Below.heap_setCell w6 ⟨tb, 0, none⟩ (.slice da2 rl2.length dc2) ab (by simp only; omega)).trans kA
          have kR' := (Below.heap_setCell w6 ⟨tb, 0, none⟩ (.slice da2 rl2.length dc2) (w.heap.size) (by simp only; omega)).trans kR
          have kS' := (Below.heap_setCell w6 ⟨tb, 0, none⟩ (.slice da2 rl2.length dc2) (w.heap.size + 1) (by simp only; omega)).trans kS
          have orr' := orr.set (x := ⟨tb, 0, none⟩) (u := .slice da2 rl2.length dc2) (Or.inr rfl)
          have hnr' := hnr.keep (w' := w6.setCell ⟨tb, 0, none⟩ (.slice da2 rl2.length dc2)) (fun h0 => Below.heap_setCell _ _ _ _ (by have := (hnr.own h0).2.1; simp only at this ⊢; omega))
          have hC' := cur_set (x := ⟨tb, 0, none⟩) (u := .slice da2 rl2.length dc2) hC (by simp only; omega) (hbl.imp id fun q => by simp only; omega)
          have hO' := only_set (x := ⟨tb, 0, none⟩) (u := .slice da2 rl2.length dc2) hO (by simp only; omega)
          clear kA kB kR kS orr hnr hC hO o0 o1 fB b0
          generalize w6.setCell ⟨tb, 0, none⟩ (.slice da2 rl2.length dc2) = We at *
          obtain ⟨o0, o1⟩ := two kA'
          have t0 := one hR'
          obtain ⟨r0, r1⟩ := two kR'
          have s0 := one kS'
          have fR := Vl.free kR'
          have fS := Vl.free kS'
          go_region
          go_wp2
          all_goals
            refine bodyPost_ret (v := .tuple #[.agg #[.int .i64 ar, .slice ua Q.length uc], .agg #[.slice da2 rl2.length dc2]]) (by simp [results, Try.results50, go_sem, r0, r1, s0]) rfl ⟨ar, ua, Q.length, uc, Q, ⟨da2, rb2, ro2, dc2, rl2⟩, rfl, ?_, by omega, ?_, ?_, ?_⟩
            · refine OR.mono (B := B) (OX.toR (T := tb) ?_) (by omega); repeat (first | with_reducible exact orr' | refine OX.drew ?_ | refine OX.set ?_ (by first | (simp only; omega) | exact Or.inr rfl))
            · refine Rl.NewR.mono (lo := wr.heap.size) ?_ (by omega); repeat (first | with_reducible exact hnr' | refine Rl.NewR.keep ?_ (fun h0 => Below.heap_setCell _ _ _ _ (by have := (hnr'.own h0).2.1; simp only at this ⊢; omega)))
            · repeat (first | with_reducible exact hC' | refine cur_drew ?_ | refine cur_set ?_ (by simp only; omega) (hbl.imp id fun q => by simp only; omega))
            · repeat (first | with_reducible exact hO' | refine only_drew ?_ | refine only_set ?_ (by simp only; omega))
        · obtain ⟨o0, o1⟩ := two kA
          have fB := Vl.free kB
          have b0 := one kB
          go_wp2
          clear o0 o1 fB b0
          obtain ⟨o0, o1⟩ := two kA
          have t0 := one kB
          obtain ⟨r0, r1⟩ := two kR
          have s0 := one kS
          have fR := Vl.free kR
          have fS := Vl.free kS
          go_region
          go_wp2
          all_goals
            refine bodyPost_ret (v := .tuple #[.agg #[.int .i64 ar, .slice ua Q.length uc], .agg #[.slice da rl.length dc]]) (by simp [results, Try.results50, go_sem, r0, r1, s0]) rfl ⟨ar, ua, Q.length, uc, Q, ⟨da, rb, ro, dc, rl⟩, rfl, ?_, by omega, ?_, ?_, ?_⟩
            · refine OR.mono (B := B) (OX.toR (T := tb) ?_) (by omega); repeat (first | with_reducible exact orr | refine OX.drew ?_ | refine OX.set ?_ (by first | (simp only; omega) | exact Or.inr rfl))
            · refine Rl.NewR.mono (lo := B) ?_ (by omega); repeat (first | with_reducible exact hnr | refine Rl.NewR.keep ?_ (fun h0 => Below.heap_setCell _ _ _ _ (by have := (hnr.own h0).2.1; simp only at this ⊢; omega)))
            · repeat (first | with_reducible exact hC | refine cur_drew ?_ | refine cur_set ?_ (by simp only; omega) (hbl.imp id fun q => by simp only; omega))
            · repeat (first | with_reducible exact hO | refine only_drew ?_ | refine only_set ?_ (by simp only; omega))
      · go_wp2_with (go_at_call 81; refine (anyrow_any _ _ _ _ _ _ _ hC).mono ?_; rintro e w4 ⟨da, dn, dc, l, rfl, ov, hll, hC1, hO1⟩; have sA := blk_lt kA; have s4 := hO1.size; replace kA := only_at hO1 kA (by omega); replace kR := only_at hO1 kR (by omega); replace kS := only_at hO1 kS (by omega); replace or0 := or0.only hO1 (by omega); replace hO := only_trans hO hO1; replace hC := hC1; clear hC1; clear hO1; obtain ⟨⟨ra, rb, ro, rc, rl⟩, hv, hnr, hrl, hcp⟩ := ov.row (by omega); simp only [Rm.val, Value.slice.injEq] at hv; obtain ⟨rfl, rfl, rfl⟩ := hv; have hl1 : rl.length ≤ 1001 := (by rw [← hrl] at hll; exact hll); clear hrl hcp ov hll; obtain ⟨o0, o1⟩ := two kA; have la := blk_lt kA)
        obtain ⟨tb, htb⟩ : ∃ tb, tb = w4.heap.size := ⟨_, rfl⟩
        obtain ⟨W5, hW5⟩ : ∃ W5, W5 = w4.alloc (.cells #[.slice da rl.length dc] 34) := ⟨_, rfl⟩
        have kB : W5.heap[tb]? = some (.cells #[.slice da rl.length dc] 34 (0, 0)) := by subst hW5; exact at_new htb
        have hb : Below w4.heap.size w4 W5 := by subst hW5; exact below_alloc1 _ _
        have orr : OX W5 B tb (.slice ua Q.length uc) Q := by rw [htb]; exact or0.toX hb
        have hrt : rl.length ≠ 0 → rb < tb := fun h0 => by rw [htb]; exact (hnr.own h0).2.2.lt
        have htw : ab < tb := by have := blk_lt kA; omega
        replace hnr := (hnr.mono s3).below hb
        replace kA := (hb.block _ (blk_lt kA)).trans kA
        replace kR := (hb.block _ (blk_lt kR)).trans kR
        replace kS := (hb.block _ (blk_lt kS)).trans kS
        replace hC := cur_below hC hb
        replace hO := only_below hO hb
        clear hb or0 o0 o1 la
        rw [← hW5, ← htb]
        clear hW5 htb
        obtain ⟨o0, o1⟩ := two kA
        have t0 := one kB
        obtain ⟨r0, r1⟩ := two kR
        have s0 := one kS
        have fR := Vl.free kR
        have fS := Vl.free kS
        go_region
        go_wp2
        all_goals
          refine bodyPost_ret (v := .tuple #[.agg #[.int .i64 ar, .slice ua Q.length uc], .agg #[.slice da rl.length dc]]) (by simp [results, Try.results50, go_sem, r0, r1, s0]) rfl ⟨ar, ua, Q.length, uc, Q, ⟨da, rb, ro, dc, rl⟩, rfl, ?_, by omega, ?_, ?_, ?_⟩
          · refine OR.mono (B := B) (OX.toR (T := tb) ?_) (by omega); repeat (first | with_reducible exact orr | refine OX.drew ?_ | refine OX.set ?_ (by first | (simp only; omega) | exact Or.inr rfl))
          · refine Rl.NewR.mono (lo := B) ?_ (by omega); repeat (first | with_reducible exact hnr | refine Rl.NewR.keep ?_ (fun h0 => Below.heap_setCell _ _ _ _ (by have := (hnr.own h0).2.1; simp only at this ⊢; omega)))
          · repeat (first | with_reducible exact hC | refine cur_drew ?_ | refine cur_set ?_ (by simp only; omega) (hbl.imp id fun q => by simp only; omega))
          · repeat (first | with_reducible exact hO | refine only_drew ?_ | refine only_set ?_ (by simp only; omega))
    · go_wp2_with (go_at_call 81; refine (anyrow_any _ _ _ _ _ _ _ hC).mono ?_; rintro e w4 ⟨da, dn, dc, l, rfl, ov, hll, hC1, hO1⟩; have sA := blk_lt kA; have s4 := hO1.size; replace kA := only_at hO1 kA (by omega); replace kR := only_at hO1 kR (by omega); replace kS := only_at hO1 kS (by omega); replace or0 := or0.only hO1 (by omega); replace hO := only_trans hO hO1; replace hC := hC1; clear hC1; clear hO1; obtain ⟨⟨ra, rb, ro, rc, rl⟩, hv, hnr, hrl, hcp⟩ := ov.row (by omega); simp only [Rm.val, Value.slice.injEq] at hv; obtain ⟨rfl, rfl, rfl⟩ := hv; have hl1 : rl.length ≤ 1001 := (by rw [← hrl] at hll; exact hll); clear hrl hcp ov hll; obtain ⟨o0, o1⟩ := two kA; have la := blk_lt kA)
      obtain ⟨tb, htb⟩ : ∃ tb, tb = w4.heap.size := ⟨_, rfl⟩
      obtain ⟨W5, hW5⟩ : ∃ W5, W5 = w4.alloc (.cells #[.slice da rl.length dc] 34) := ⟨_, rfl⟩
      have kB : W5.heap[tb]? = some (.cells #[.slice da rl.length dc] 34 (0, 0)) := by subst hW5; exact at_new htb
      have hb : Below w4.heap.size w4 W5 := by subst hW5; exact below_alloc1 _ _
      have orr : OX W5 B tb (.slice ua Q.length uc) Q := by rw [htb]; exact or0.toX hb
      have hrt : rl.length ≠ 0 → rb < tb := fun h0 => by rw [htb]; exact (hnr.own h0).2.2.lt
      have htw : ab < tb := by have := blk_lt kA; omega
      replace hnr := (hnr.mono s3).below hb
      replace kA := (hb.block _ (blk_lt kA)).trans kA
      replace kR := (hb.block _ (blk_lt kR)).trans kR
      replace kS := (hb.block _ (blk_lt kS)).trans kS
      replace hC := cur_below hC hb
      replace hO := only_below hO hb
      clear hb or0 o0 o1 la
      rw [← hW5, ← htb]
      clear hW5 htb
      obtain ⟨o0, o1⟩ := two kA
      have t0 := one kB
      obtain ⟨r0, r1⟩ := two kR
      have s0 := one kS
      have fR := Vl.free kR
      have fS := Vl.free kS
      go_region
      go_wp2
      all_goals
        refine bodyPost_ret (v := .tuple #[.agg #[.int .i64 ar, .slice ua Q.length uc], .agg #[.slice da rl.length dc]]) (by simp [results, Try.results50, go_sem, r0, r1, s0]) rfl ⟨ar, ua, Q.length, uc, Q, ⟨da, rb, ro, dc, rl⟩, rfl, ?_, by omega, ?_, ?_, ?_⟩
        · refine OR.mono (B := B) (OX.toR (T := tb) ?_) (by omega); repeat (first | with_reducible exact orr | refine OX.drew ?_ | refine OX.set ?_ (by first | (simp only; omega) | exact Or.inr rfl))
        · refine Rl.NewR.mono (lo := B) ?_ (by omega); repeat (first | with_reducible exact hnr | refine Rl.NewR.keep ?_ (fun h0 => Below.heap_setCell _ _ _ _ (by have := (hnr.own h0).2.1; simp only at this ⊢; omega)))
        · repeat (first | with_reducible exact hC | refine cur_drew ?_ | refine cur_set ?_ (by simp only; omega) (hbl.imp id fun q => by simp only; omega))
        · repeat (first | with_reducible exact hO | refine only_drew ?_ | refine only_set ?_ (by simp only; omega))

end Go.Proofs.Ytbjbehphdkaahaa.Dr
