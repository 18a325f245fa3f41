/-
  Draws of relations, right or not.
-/
import Derived.Test.YtfiebakgphcnbaaDa3
import Derived.Deep.Cut
import Derived.Deep.CutRange
namespace Go.Proofs.Ytfiebakgphcnbaa.Dr
set_option maxRecDepth 8000
set_option linter.unusedSimpArgs false
set_option linter.unusedVariables false
open Go Go.RowKit
open Num Rw Pl
open Rl (flatV Rm OG rm0)
open Vl (V2 z2)

theorem cell_other {w : World} {g i j : Nat} {u x : Value} {cs : Array Value} {t : TypeId} (k : w.heap[g]? = some (.cells cs t (0, 0))) (hij : i ≠ j) (h : w.cell? ⟨g, j, none⟩ = some x) : (w.setCell ⟨g, i, none⟩ u).cell? ⟨g, j, none⟩ = some x := by
  simp only [World.cell?, k] at h
  simp [World.cell?, World.setCell, Array.getElem?_modify, k, hij]
  simpa using h
theorem OX.head {w : World} {B T n cap : Nat} {a : Option Addr} {Q : List Rm} (h : OX w B T (.slice a n cap) Q) (hn : 0 < Q.length) (hl : Q.length ≤ 4194304) : ∃ g, a = some ⟨g, 0, none⟩ ∧ B ≤ g ∧ g ≠ T ∧ (∃ cs, w.heap[g]? = some (.cells cs 56 (0, 0))) ∧ ∀ J, J < Q.length → w.cell? ⟨g, J, none⟩ = some (Q.getD J rm0).val := by
  obtain ⟨a', g, cap', e, hrd, hb⟩ := h.og.form hl
  simp only [Value.slice.injEq] at e
  obtain ⟨rfl, rfl, rfl⟩ := e
  have hb := hb.resolve_left (by omega)
  obtain ⟨h1, h2, h3⟩ := hb
  have ea := hrd.head (by omega)
  subst ea
  refine ⟨g, rfl, h1, fun e => h.ne (by rw [h2, e]), h3, fun J hJ => ?_⟩
  obtain ⟨_, hc, _, _⟩ := hrd
  have := hc J hJ
  rwa [Nat.zero_add] at this

set_option maxHeartbeats 8000000 in
theorem anyrel_any (g : Nat) (a : Option Addr) (b off cap : Nat) (c : List Int) (w : World) (h : Cur w g a b off cap c) :
    Calls Try.prog 79 #[.pointer (some ⟨g, 0, none⟩)] w (ResR w 1000 g a b off cap c) := by
  obtain ⟨hg, hbl⟩ := cur_in h
  obtain ⟨W1, hW1⟩ : ∃ W1, W1 = w.alloc (.cells #[.int .i64 0, .slice none 0 0] 31) := ⟨_, rfl⟩
  have kR : W1.heap[w.heap.size]? = some (.cells #[.int .i64 0, .slice none 0 0] 31 (0, 0)) := by subst hW1; exact at_new rfl
  have hC : Cur W1 g a b off cap c := by subst hW1; exact cur_alloc h _
  have hO : Only g w W1 := by subst hW1; exact only_alloc (Only.refl _ _) _
  clear h
  have t1 : True := trivial
  go_enter Try.func79, Try.ntmps79
  go_wp2_with (first
    | (go_at_call 81; clear t1; rw [← hW1]; clear hW1; refine (below_any _ _ _ _ _ _ 4 _ hC (by omega) (by omega)).mono ?_; rintro e w1 ⟨x, rfl, x0, x1, hC1, hO1⟩; replace hO := only_trans hO hO1; replace kR := only_at hO1 kR (by omega); replace hC := hC1; clear hC1; clear hO1; have t2 : True := trivial)
    | (go_at_call 80; refine (rel_any x x0 (by omega) _ _ _ _ _ _ _ hC).mono ?_; rintro e w2 ⟨ar, ua, un, uc, Q, rfl, or0, hQ, hC1, hO1⟩; have s12 := hO1.size; have l1 := blk_lt kR; replace hO := only_trans hO hO1; replace kR := only_at hO1 kR (by omega); replace hC := hC1; clear hC1; clear hO1 x0 x1; obtain ⟨fa, fg, fc, hv, hrd, hfb⟩ := or0.og.form (by omega); simp only [Value.slice.injEq] at hv; obtain ⟨rfl, rfl, rfl⟩ := hv; clear hrd hfb; obtain ⟨ob, hob⟩ : ∃ ob, ob = w2.heap.size := ⟨_, rfl⟩; obtain ⟨W3, hW3⟩ : ∃ W3, W3 = w2.alloc (.cells #[.int .i64 ar, .slice ua Q.length uc] 31) := ⟨_, rfl⟩; have kO : W3.heap[ob]? = some (.cells #[.int .i64 ar, .slice ua Q.length uc] 31 (0, 0)) := (by subst hW3; exact at_new hob); have hb : Below w2.heap.size w2 W3 := (by subst hW3; exact below_alloc1 _ _); have orr : OX W3 w1.heap.size ob (.slice ua Q.length uc) Q := (by rw [hob]; exact or0.toX hb); have hobw : w.heap.size < ob ∧ w1.heap.size ≤ ob := (by omega); have hgw : g < w1.heap.size ∧ w.heap.size < w1.heap.size := (by have := l1; omega); replace kR := (hb.block _ (blk_lt kR)).trans kR; replace hC : Cur W3 g a b off cap c := (by subst hW3; exact cur_alloc hC _); replace hO : Only g w W3 := (by subst hW3; exact only_alloc hO _); clear hb s12 l1 or0))
  rw [← hW3, ← hob]
  clear hW3 hob
  generalize w1.heap.size = B at *
  go_upto_if 17 with (go_at_call 81; refine (below_any _ _ _ _ _ _ 20 _ hC (by omega) (by omega)).mono ?_; rintro e wr ⟨q, rfl, q0, q1, hC1, hO1⟩; replace kO := only_at hO1 kO (by omega); replace orr := orr.only hO1 (by omega); replace hO := only_trans hO hO1; replace kR := only_at hO1 kR (by omega); replace hC := hC1; clear hC1; clear hO1; obtain ⟨o0, o1⟩ := two kO)
  clear o0 o1
  have hq : q = 0 ∨ q = 1 ∨ q = 2 ∨ q = 3 ∨ q = 4 ∨ (¬ q = 0 ∧ ¬ q = 1 ∧ ¬ q = 2 ∧ ¬ q = 3 ∧ ¬ q = 4) := by omega
  rcases hq with rfl | rfl | rfl | rfl | rfl | ⟨e0, e1, e2, e3, e4⟩
  · go_wp2_with (go_at_call 98; refine (raw_any _ _ _ _ _ _ _ hC).mono ?_; rintro e w4 ⟨x, rfl, hC1, hO1⟩; replace kO := only_at hO1 kO (by omega); replace orr := orr.only hO1 (by omega); replace hO := only_trans hO hO1; replace kR := only_at hO1 kR (by omega); replace hC := hC1; clear hC1; clear hO1; obtain ⟨o0, o1⟩ := two kO; obtain ⟨r0, r1⟩ := two kR; have fO := Vl.free kO; have fR := Vl.free kR)
    refine bodyPost_ret (v := .agg #[.int .i64 x, .slice ua Q.length uc]) (by simp [results, Try.results79, go_sem, r0, r1]) rfl ⟨x, ua, Q.length, uc, Q, rfl, ?_, ?_, ?_, ?_⟩
    · refine OR.mono (B := B) (OX.toR (T := ob) ?_) (by omega); repeat (first | with_reducible exact orr | refine OX.set ?_ (by first | (simp only; omega) | exact Or.inr rfl))
    · omega
    · repeat (first | with_reducible exact hC | refine cur_set ?_ (by simp only; omega) (hbl.imp id fun q => by simp only; omega))
    · repeat (first | with_reducible exact hO | refine only_set ?_ (by simp only; omega))
  · by_cases hn : 0 < Q.length
    · obtain ⟨fg, hfa, hfB, hft, ⟨cs0, hcs0⟩, hcl⟩ := orr.head hn (by omega)
      subst hfa
      clear hcs0 hcl
      have hnz : (Q.length : Int) > 0 := by omega
      go_wp2
      refine wp_region_held_drew (S := fun w' => w'.cell? ⟨ob, 1, none⟩ = some (.slice (some ⟨fg, 0, none⟩) Q.length uc)) (by kernel_rfl) (two kO).2 (fun hHeld => ?_)
      refine Hn.take (i := 0) (d := some 27) (v := .pointer (some ⟨ob, 1, none⟩)) rfl (by kernel_rfl) (by kernel_rfl) (by kernel_rfl) (by kernel_rfl) (fun _ _ _ h => h) (Or.inl ⟨by rfl, by intro w hSw; go_simp⟩) hHeld ?_
      simp only [Act.put, List.setIfInBounds_toArray, List.set_cons_zero, List.set_cons_succ]
      refine Hn.take (i := 1) (d := some 28) (v := .slice (some ⟨fg, 0, none⟩) Q.length uc) rfl (by kernel_rfl) (by kernel_rfl) (by kernel_rfl) (by kernel_rfl) (fun _ _ _ h => h) (Or.inl ⟨by rfl, by intro w hSw; have o1 : w.cell? ⟨ob, 1, none⟩ = some (.slice (some ⟨fg, 0, none⟩) Q.length uc) := hSw; go_simp⟩) hHeld ?_
      simp only [Act.put, List.setIfInBounds_toArray, List.set_cons_zero, List.set_cons_succ]
      refine Hn.take (i := 2) (d := some 29) (v := .pointer (some ⟨g, 0, none⟩)) rfl (by kernel_rfl) (by kernel_rfl) (by kernel_rfl) (by kernel_rfl) (fun _ _ _ h => h) (Or.inl ⟨by rfl, by intro w hSw; go_simp⟩) hHeld ?_
      simp only [Act.put, List.setIfInBounds_toArray, List.set_cons_zero, List.set_cons_succ]
      refine Hn.take (i := 3) (d := some 30) (v := .int .i64 Q.length) rfl (by kernel_rfl) (by kernel_rfl) (by kernel_rfl) (by kernel_rfl) (fun _ _ _ h => h) (Or.inl ⟨by rfl, by intro w hSw; go_simp⟩) hHeld ?_
      simp only [Act.put, List.setIfInBounds_toArray, List.set_cons_zero, List.set_cons_succ]
      refine Hn.take (i := 5) (d := some 32) (v := .pointer (some ⟨g, 0, none⟩)) rfl (by kernel_rfl) (by kernel_rfl) (by kernel_rfl) (by kernel_rfl) (fun _ _ _ h => h) (Or.inl ⟨by rfl, by intro w hSw; go_simp⟩) hHeld ?_
      simp only [Act.put, List.setIfInBounds_toArray, List.set_cons_zero, List.set_cons_succ]
      have or0 : OX wr.drew B ob (.slice (some ⟨fg, 0, none⟩) Q.length uc) Q := orr.below ((Below.refl _ _).drew)
      have kO0 : wr.drew.heap[ob]? = some (.cells #[.int .i64 ar, .slice (some ⟨fg, 0, none⟩) Q.length uc] 31 (0, 0)) := kO
      have kR0 : wr.drew.heap[w.heap.size]? = some (.cells #[.int .i64 0, .slice none 0 0] 31 (0, 0)) := kR
      have hC0 : Cur wr.drew g a b off cap c := ⟨hC.blk, hC.rd.below ((Below.refl _ _).drew), hC.ne⟩
      have hO0 : Only g w wr.drew := only_trans hO ⟨rfl, rfl, rfl, Nat.le_refl _, fun _ _ _ => rfl⟩
      clear kO kR orr hC hO
      generalize wr.drew = W at *
      refine wpAnyH_ready (rs := [4]) (by kernel_rfl) (by simp) (Hn.call2 (i := 4) rfl (by rfl) 81 (.tmp 29) (.tmp 30) 70 3 (by kernel_rfl) 31 (by kernel_rfl) (.pointer (some ⟨g, 0, none⟩)) (.int .i64 Q.length) (by kernel_rfl) (by kernel_rfl) (fun _ => rfl) (below_any g a b off cap c (Q.length : Int) W hC0 (by omega) (by omega)) ?_ AllReadyH.nil)
      rintro e1 Wc ⟨j, rfl, j0, j1, hC1, hO1⟩
      replace kO0 := only_at hO1 kO0 (by omega)
      replace or0 := or0.only hO1 (by omega)
      replace kR0 := only_at hO1 kR0 (by omega)
      replace hO0 := only_trans hO0 hO1
      replace hC0 := hC1
      clear hC1 hO1
      obtain ⟨J, hJ⟩ := Int.eq_ofNat_of_zero_le j0
      subst hJ
      have hJ : J < Q.length := by omega
      refine ⟨_, rfl, (two kO0).2, fun hHeld => ?_⟩
      simp only [Act.put, List.setIfInBounds_toArray, List.set_cons_zero, List.set_cons_succ]
      refine wpAnyH_ready (rs := [6]) (by kernel_rfl) (by simp) (Hn.call1 (i := 6) rfl (by rfl) 99 (.tmp 32) 70 (by kernel_rfl) 33 (by kernel_rfl) (.pointer (some ⟨g, 0, none⟩)) (by kernel_rfl) (fun _ => rfl) (anyrow_any g a b off cap c Wc hC0) ?_ AllReadyH.nil)
      rintro e1 Wd ⟨da, dn, dc, l, rfl, ov, hll, hC1, hO1⟩
      have sB := blk_lt kO0
      have hlt0 : fg < Wc.heap.size := (or0.og.lt (k := fg) rfl).2
      replace kO0 := only_at hO1 kO0 (by omega)
      replace or0 := or0.only hO1 (by omega)
      replace kR0 := only_at hO1 kR0 (by omega)
      replace hO0 := only_trans hO0 hO1
      replace hC0 := hC1
      clear hC1 hO1
      obtain ⟨⟨ra, rb, ro, rc, rl⟩, hv, hnr, hrl, hcp⟩ := ov.row (by omega)
      simp only [Rm.val, Value.slice.injEq] at hv
      obtain ⟨rfl, rfl, rfl⟩ := hv
      clear hrl hcp
      obtain ⟨fg2, e2, hfB2, hft2, ⟨cs, hcs⟩, hcell⟩ := or0.head hn (by omega)
      simp only [Option.some.injEq, Addr.mk.injEq, and_true] at e2
      subst e2
      have cJ := hcell J hJ
      have fJ := Vl.free hcs
      refine ⟨_, rfl, (two kO0).2, fun hHeld => ?_⟩
      simp only [Act.put, List.setIfInBounds_toArray, List.set_cons_zero, List.set_cons_succ]
      refine Hn.take (i := 7) (d := some 34) (v := .pointer (some ⟨fg, J, none⟩)) rfl (by kernel_rfl) (by kernel_rfl) (by kernel_rfl) (by kernel_rfl) (fun _ _ _ h => h) (Or.inl ⟨by rfl, by intro w hSw; go_simp⟩) hHeld ?_
      simp only [Act.put, List.setIfInBounds_toArray, List.set_cons_zero, List.set_cons_succ]
      have kO' : (Wd.setCell ⟨fg, J, none⟩ (.slice da rl.length dc)).heap[ob]? = some (.cells #[.int .i64 ar, .slice (some ⟨fg, 0, none⟩) Q.length uc] 31 (0, 0)) := (Below.heap_setCell _ _ _ _ (by simp only; omega)).trans kO0
      have kR' : (Wd.setCell ⟨fg, J, none⟩ (.slice da rl.length dc)).heap[w.heap.size]? = some (.cells #[.int .i64 0, .slice none 0 0] 31 (0, 0)) := (Below.heap_setCell _ _ _ _ (by simp only; omega)).trans kR0
      have orr := or0.put (r := ⟨da, rb, ro, dc, rl⟩) hJ hnr.ok (fun h0 => by have := (hnr.own h0).2.1; simp only at this ⊢; omega)
      simp only [Rm.val] at orr
      have hC := cur_set (x := ⟨fg, J, none⟩) (u := .slice da rl.length dc) hC0 (by simp only; omega) (hbl.imp id fun q => by simp only; omega)
      have hO := only_set (x := ⟨fg, J, none⟩) (u := .slice da rl.length dc) hO0 (by simp only; omega)
      refine wpAnyH_ready (rs := [8]) (by kernel_rfl) (by simp) (Hn.readySkip (i := 8) rfl (by kernel_rfl) none (by kernel_rfl) (w' := Wd.setCell ⟨fg, J, none⟩ (.slice da rl.length dc)) (by go_simp) (two kO').2 (fun hHeld => ?_) AllReadyH.nil)
      simp only [Act.put, List.setIfInBounds_toArray, List.set_cons_zero, List.set_cons_succ]
      refine wpAnyH_done (by kernel_rfl) ?_ _
      generalize Wd.setCell ⟨fg, J, none⟩ (.slice da rl.length dc) = We at *
      obtain ⟨o0, o1⟩ := two kO'
      obtain ⟨r0, r1⟩ := two kR'
      have fO := Vl.free kO'
      have fR := Vl.free kR'
      clear cJ fJ
      go_wp2
      refine bodyPost_ret (v := .agg #[.int .i64 ar, .slice (some ⟨fg, 0, none⟩) Q.length uc]) (by simp [results, Try.results79, go_sem, r0, r1]) rfl ⟨ar, some ⟨fg, 0, none⟩, Q.length, uc, Q.set J ⟨da, rb, ro, dc, rl⟩, rfl, ?_, ?_, ?_, ?_⟩
      · refine OR.mono (B := B) (OX.toR (T := ob) ?_) (by omega); repeat (first | with_reducible exact orr | refine OX.set ?_ (by first | (simp only; omega) | exact Or.inr rfl))
      · simp only [List.length_set]; omega
      · repeat (first | with_reducible exact hC | refine cur_set ?_ (by simp only; omega) (hbl.imp id fun q => by simp only; omega))
      · repeat (first | with_reducible exact hO | refine only_set ?_ (by simp only; omega))
    · have hz : Q.length = 0 := by omega
      rw [hz] at kO orr ⊢
      obtain ⟨o0, o1⟩ := two kO
      obtain ⟨r0, r1⟩ := two kR
      have fO := Vl.free kO
      have fR := Vl.free kR
      go_wp2
      refine bodyPost_ret (v := .agg #[.int .i64 ar, .slice ua 0 uc]) (by simp [results, Try.results79, go_sem, r0, r1]) rfl ⟨ar, ua, 0, uc, Q, rfl, ?_, ?_, ?_, ?_⟩
      · refine OR.mono (B := B) (OX.toR (T := ob) ?_) (by omega); repeat (first | with_reducible exact orr | refine OX.set ?_ (by first | (simp only; omega) | exact Or.inr rfl))
      · omega
      · repeat (first | with_reducible exact hC | refine cur_set ?_ (by simp only; omega) (hbl.imp id fun q => by simp only; omega))
      · repeat (first | with_reducible exact hO | refine only_set ?_ (by simp only; omega))
  · by_cases hn : 1 < Q.length
    · have hnz : (Q.length : Int) > 1 := by omega
      obtain ⟨fg, hfa, hfB, hft, ⟨cs0, hcs0⟩, hcl⟩ := orr.head (by omega) (by omega)
      subst hfa
      obtain ⟨M, hM⟩ : ∃ M, Q.length = M + 1 := ⟨Q.length - 1, by omega⟩
      have hMq : M < Q.length := by omega
      have hMi : (M : Int) < (Q.length : Int) := by omega
      have hM0 : (0 : Int) ≤ (M : Int) := by omega
      have wM : IntKind.i64.wrap ((Q.length : Int) - 1) = (M : Int) := by rw [IntKind.wrap_i64]; omega
      have cM := hcl M hMq
      have c0 := hcl 0 (by omega)
      have oky : (Q.getD M rm0).Ok wr := orr.og.each _ (Rl.getD_mem hMq)
      have okx : (Q.getD 0 rm0).Ok wr := orr.og.each _ (Rl.getD_mem (by omega))
      have hyf : (Q.getD M rm0).l.length ≠ 0 → (Q.getD M rm0).b ≠ fg ∧ B ≤ (Q.getD M rm0).b ∧ (Q.getD M rm0).b ≠ ob := fun h0 => ⟨fun e => orr.og.far _ (Rl.getD_mem hMq) h0 (by simp only [Value.ownBlock, e]), orr.low _ (Rl.getD_mem hMq) h0⟩
      have hxf : (Q.getD 0 rm0).l.length ≠ 0 → (Q.getD 0 rm0).b ≠ fg ∧ B ≤ (Q.getD 0 rm0).b ∧ (Q.getD 0 rm0).b ≠ ob := fun h0 => ⟨fun e => orr.og.far _ (Rl.getD_mem (by omega)) h0 (by simp only [Value.ownBlock, e]), orr.low _ (Rl.getD_mem (by omega)) h0⟩
      have hM1 : 0 < M := by omega
      have hQne : Q ≠ [] := by intro e; rw [e] at hn; simp at hn
      clear hcl hM
      generalize Q.getD M rm0 = y at cM oky hyf
      generalize Q.getD 0 rm0 = x at c0 okx hxf
      obtain ⟨xa, xb, xo, xc, xl⟩ := x
      obtain ⟨ya, yb, yo, yc, yl⟩ := y
      simp only [Rm.val] at cM c0
      simp only at hxf hyf
      obtain ⟨tb, htb⟩ : ∃ tb, tb = wr.heap.size := ⟨_, rfl⟩
      obtain ⟨W2, hW2⟩ : ∃ W2, W2 = wr.alloc (.cells #[.slice xa xl.length xc] 56) := ⟨_, rfl⟩
      have kT : W2.heap[tb]? = some (.cells #[.slice xa xl.length xc] 56 (0, 0)) := by subst hW2; exact at_new htb
      have hb : Below wr.heap.size wr W2 := by subst hW2; exact below_alloc1 _ _
      have htf : fg ≠ tb ∧ ob < tb := ⟨by have := blk_lt hcs0; omega, by have := blk_lt kO; omega⟩
      obtain ⟨o0, o1⟩ := two kO
      go_wp2
      rw [← hW2, ← htb]
      clear o0 o1 hW2 htb
      replace kO := (hb.block _ (blk_lt kO)).trans kO
      replace kR := (hb.block _ (blk_lt kR)).trans kR
      have kF := (hb.block _ (blk_lt hcs0)).trans hcs0
      replace orr := orr.below hb
      replace hC := cur_below hC hb
      replace hO := only_below hO hb
      replace okx := Vl.Rd.below okx hb
      replace oky := Vl.Rd.below oky hb
      replace cM := (hb.cell (World.block_lt_of_cell? _ _ cM)).trans cM
      replace c0 := (hb.cell (World.block_lt_of_cell? _ _ c0)).trans c0
      clear hb hcs0
      refine wp_region_held_drew (S := fun w' => w'.cell? ⟨ob, 1, none⟩ = some (.slice (some ⟨fg, 0, none⟩) Q.length uc) ∧ w'.cell? ⟨fg, M, none⟩ = some (.slice ya yl.length yc)) (by kernel_rfl) ⟨(two kO).2, cM⟩ (fun hHeld => ?_)
      refine Hn.take (i := 0) (d := some 45) (v := .pointer (some ⟨ob, 1, none⟩)) rfl (by kernel_rfl) (by kernel_rfl) (by kernel_rfl) (by kernel_rfl) (fun _ _ _ h => h) (Or.inl ⟨by rfl, by intro w hSw; go_simp⟩) hHeld ?_
      simp only [Act.put, List.setIfInBounds_toArray, List.set_cons_zero, List.set_cons_succ]
      refine Hn.take (i := 1) (d := some 46) (v := .slice (some ⟨fg, 0, none⟩) Q.length uc) rfl (by kernel_rfl) (by kernel_rfl) (by kernel_rfl) (by kernel_rfl) (fun _ _ _ h => h) (Or.inl ⟨by rfl, by intro w hSw; obtain ⟨o1, c1⟩ : w.cell? ⟨ob, 1, none⟩ = some (.slice (some ⟨fg, 0, none⟩) Q.length uc) ∧ w.cell? ⟨fg, M, none⟩ = some (.slice ya yl.length yc) := hSw; go_simp⟩) hHeld ?_
      simp only [Act.put, List.setIfInBounds_toArray, List.set_cons_zero, List.set_cons_succ]
      refine Hn.take (i := 2) (d := some 47) (v := .pointer (some ⟨ob, 1, none⟩)) rfl (by kernel_rfl) (by kernel_rfl) (by kernel_rfl) (by kernel_rfl) (fun _ _ _ h => h) (Or.inl ⟨by rfl, by intro w hSw; go_simp⟩) hHeld ?_
      simp only [Act.put, List.setIfInBounds_toArray, List.set_cons_zero, List.set_cons_succ]
      refine Hn.take (i := 3) (d := some 48) (v := .slice (some ⟨fg, 0, none⟩) Q.length uc) rfl (by kernel_rfl) (by kernel_rfl) (by kernel_rfl) (by kernel_rfl) (fun _ _ _ h => h) (Or.inl ⟨by rfl, by intro w hSw; obtain ⟨o1, c1⟩ : w.cell? ⟨ob, 1, none⟩ = some (.slice (some ⟨fg, 0, none⟩) Q.length uc) ∧ w.cell? ⟨fg, M, none⟩ = some (.slice ya yl.length yc) := hSw; go_simp⟩) hHeld ?_
      simp only [Act.put, List.setIfInBounds_toArray, List.set_cons_zero, List.set_cons_succ]
      refine Hn.take (i := 4) (d := some 49) (v := .int .i64 Q.length) rfl (by kernel_rfl) (by kernel_rfl) (by kernel_rfl) (by kernel_rfl) (fun _ _ _ h => h) (Or.inl ⟨by rfl, by intro w hSw; go_simp⟩) hHeld ?_
      simp only [Act.put, List.setIfInBounds_toArray, List.set_cons_zero, List.set_cons_succ]
      refine Hn.take (i := 5) (d := some 50) (v := .int .i64 M) rfl (by kernel_rfl) (by kernel_rfl) (by kernel_rfl) (by kernel_rfl) (fun _ _ _ h => h) (Or.inl ⟨by rfl, by intro w hSw; go_simp⟩) hHeld ?_
      simp only [Act.put, List.setIfInBounds_toArray, List.set_cons_zero, List.set_cons_succ]
      refine Hn.take (i := 6) (d := some 51) (v := .pointer (some ⟨fg, M, none⟩)) rfl (by kernel_rfl) (by kernel_rfl) (by kernel_rfl) (by kernel_rfl) (fun _ _ _ h => h) (Or.inl ⟨by rfl, by intro w hSw; go_simp⟩) hHeld ?_
      simp only [Act.put, List.setIfInBounds_toArray, List.set_cons_zero, List.set_cons_succ]
      refine Hn.take (i := 7) (d := some 52) (v := .agg #[.slice ya yl.length yc]) rfl (by kernel_rfl) (by kernel_rfl) (by kernel_rfl) (by kernel_rfl) (fun _ _ _ h => h) (Or.inl ⟨by rfl, by intro w hSw; obtain ⟨o1, c1⟩ : w.cell? ⟨ob, 1, none⟩ = some (.slice (some ⟨fg, 0, none⟩) Q.length uc) ∧ w.cell? ⟨fg, M, none⟩ = some (.slice ya yl.length yc) := hSw; go_simp⟩) hHeld ?_
      simp only [Act.put, List.setIfInBounds_toArray, List.set_cons_zero, List.set_cons_succ]
      refine Hn.take (i := 8) (d := some 53) (v := .pointer (some ⟨fg, 0, none⟩)) rfl (by kernel_rfl) (by kernel_rfl) (by kernel_rfl) (by kernel_rfl) (fun _ _ _ h => h) (Or.inl ⟨by rfl, by intro w hSw; go_simp <;> exact fun e => absurd e hQne⟩) hHeld ?_
      simp only [Act.put, List.setIfInBounds_toArray, List.set_cons_zero, List.set_cons_succ]
      have or0 : OX W2.drew B ob (.slice (some ⟨fg, 0, none⟩) Q.length uc) Q := orr.below ((Below.refl _ _).drew)
      have kO0 : W2.drew.heap[ob]? = some (.cells #[.int .i64 ar, .slice (some ⟨fg, 0, none⟩) Q.length uc] 31 (0, 0)) := kO
      have kR0 : W2.drew.heap[w.heap.size]? = some (.cells #[.int .i64 0, .slice none 0 0] 31 (0, 0)) := kR
      have hC0 : Cur W2.drew g a b off cap c := ⟨hC.blk, hC.rd.below ((Below.refl _ _).drew), hC.ne⟩
      have hO0 : Only g w W2.drew := only_trans hO ⟨rfl, rfl, rfl, Nat.le_refl _, fun _ _ _ => rfl⟩
      have cM0 : W2.drew.cell? ⟨fg, M, none⟩ = some (.slice ya yl.length yc) := cM
      have c00 : W2.drew.cell? ⟨fg, 0, none⟩ = some (.slice xa xl.length xc) := c0
      have kT0 : W2.drew.heap[tb]? = some (.cells #[.slice xa xl.length xc] 56 (0, 0)) := kT
      have kF0 : W2.drew.heap[fg]? = some (.cells cs0 56 (0, 0)) := kF
      have okx0 := Vl.Rd.below okx ((Below.refl W2.heap.size W2).drew)
      have oky0 := Vl.Rd.below oky ((Below.refl W2.heap.size W2).drew)
      clear kO kR orr hC hO cM c0 kT kF okx oky
      generalize W2.drew = W at *
      have fF := Vl.free kF0
      have cM' : (W.setCell ⟨fg, 0, none⟩ (.slice ya yl.length yc)).cell? ⟨fg, M, none⟩ = some (.slice ya yl.length yc) := cell_other kF0 (by omega) cM0
      have kO' : (W.setCell ⟨fg, 0, none⟩ (.slice ya yl.length yc)).heap[ob]? = some (.cells #[.int .i64 ar, .slice (some ⟨fg, 0, none⟩) Q.length uc] 31 (0, 0)) := (Below.heap_setCell _ _ _ _ (by simp only; omega)).trans kO0
      have kR' := (Below.heap_setCell W ⟨fg, 0, none⟩ (.slice ya yl.length yc) (w.heap.size) (by simp only; omega)).trans kR0
      have kT' := (Below.heap_setCell W ⟨fg, 0, none⟩ (.slice ya yl.length yc) tb (by simp only; omega)).trans kT0
      have okx' : (⟨xa, xb, xo, xc, xl⟩ : Rm).Ok (W.setCell ⟨fg, 0, none⟩ (.slice ya yl.length yc)) := Rl.vrd_keep okx0 (by by_cases h0 : xl.length = 0; exact .inl h0; exact .inr (Below.heap_setCell _ _ _ _ (hxf h0).1))
      have or1 := or0.put (r := ⟨ya, yb, yo, yc, yl⟩) (J := 0) (by omega) oky0 hyf
      have or2 := or1.put (r := ⟨xa, xb, xo, xc, xl⟩) (J := M) (by simp only [List.length_set]; omega) okx' hxf
      simp only [Rm.val] at or1 or2
      have hC := cur_set (x := ⟨fg, 0, none⟩) (u := .slice ya yl.length yc) hC0 (by simp only; omega) (hbl.imp id fun q => by simp only; omega)
      have hO := only_set (x := ⟨fg, 0, none⟩) (u := .slice ya yl.length yc) hO0 (by simp only; omega)
      refine wpAnyH_ready (rs := [9]) (by kernel_rfl) (by simp) (Hn.readySkip (i := 9) rfl (by kernel_rfl) none (by kernel_rfl) (w' := W.setCell ⟨fg, 0, none⟩ (.slice ya yl.length yc)) (by go_simp) ⟨(two kO').2, cM'⟩ (fun hHeld => ?_) AllReadyH.nil)
      simp only [Act.put, List.setIfInBounds_toArray, List.set_cons_zero, List.set_cons_succ]
      refine wpAnyH_done (by kernel_rfl) ?_ _
      have kF' : ∃ cs, (W.setCell ⟨fg, 0, none⟩ (.slice ya yl.length yc)).heap[fg]? = some (.cells cs 56 (0, 0)) := ⟨_, by simp [World.setCell, Array.getElem?_modify, kF0]; rfl⟩
      clear fF kF0 kT0 kR0 kO0 cM0 c00 or0 or1 hC0 hO0 okx0 oky0
      generalize W.setCell ⟨fg, 0, none⟩ (.slice ya yl.length yc) = We at *
      obtain ⟨cs1, kF'⟩ := kF'
      obtain ⟨o0, o1⟩ := two kO'
      obtain ⟨r0, r1⟩ := two kR'
      have t0 := one kT'
      have fO := Vl.free kO'
      have fR := Vl.free kR'
      have fF := Vl.free kF'
      have hRf : w.heap.size ≠ fg := by omega
      go_wp2
      refine bodyPost_ret (v := .agg #[.int .i64 ar, .slice (some ⟨fg, 0, none⟩) Q.length uc]) (by simp [results, Try.results79, go_sem, r0, r1]) rfl ⟨ar, some ⟨fg, 0, none⟩, Q.length, uc, (Q.set 0 ⟨ya, yb, yo, yc, yl⟩).set M ⟨xa, xb, xo, xc, xl⟩, rfl, ?_, ?_, ?_, ?_⟩
      · refine OR.mono (B := B) (OX.toR (T := ob) ?_) (by omega); repeat (first | with_reducible exact or2 | refine OX.set ?_ (by first | (simp only; omega) | exact Or.inr rfl))
      · simp only [List.length_set]; omega
      · repeat (first | with_reducible exact hC | refine cur_set ?_ (by simp only; omega) (hbl.imp id fun q => by simp only; omega))
      · repeat (first | with_reducible exact hO | refine only_set ?_ (by simp only; omega))
    · have hz : Q.length ≤ 1 := by omega
      have hz1 : ¬ (Q.length : Int) > 1 := by omega
      obtain ⟨o0, o1⟩ := two kO
      obtain ⟨r0, r1⟩ := two kR
      have fO := Vl.free kO
      have fR := Vl.free kR
      go_wp2
      refine bodyPost_ret (v := .agg #[.int .i64 ar, .slice ua Q.length uc]) (by simp [results, Try.results79, go_sem, r0, r1]) rfl ⟨ar, ua, Q.length, uc, Q, rfl, ?_, ?_, ?_, ?_⟩
      · refine OR.mono (B := B) (OX.toR (T := ob) ?_) (by omega); repeat (first | with_reducible exact orr | refine OX.set ?_ (by first | (simp only; omega) | exact Or.inr rfl))
      · omega
      · repeat (first | with_reducible exact hC | refine cur_set ?_ (by simp only; omega) (hbl.imp id fun q => by simp only; omega))
      · repeat (first | with_reducible exact hO | refine only_set ?_ (by simp only; omega))
  · by_cases hn : 0 < Q.length
    · have hnz : (Q.length : Int) > 0 := by omega
      obtain ⟨fg, hfa, hfB, hft, ⟨cs0, hcs0⟩, hcl⟩ := orr.head (by omega) (by omega)
      subst hfa
      obtain ⟨M, hM⟩ : ∃ M, Q.length = M + 1 := ⟨Q.length - 1, by omega⟩
      have hMq : M < Q.length := by omega
      have hMi : (M : Int) < (Q.length : Int) := by omega
      have hM0 : (0 : Int) ≤ (M : Int) := by omega
      have wM : IntKind.i64.wrap ((Q.length : Int) - 1) = (M : Int) := by rw [IntKind.wrap_i64]; omega
      have cM := hcl M hMq
      have ok : (Q.getD M rm0).Ok wr := orr.og.each _ (Rl.getD_mem hMq)
      clear hcs0 hcl hM
      generalize Q.getD M rm0 = x at cM ok
      obtain ⟨xa, xb, xo, xc, xl⟩ := x
      simp only [Rm.val] at cM
      go_wp2
      refine wp_region_held_drew (S := fun _ => True) (by kernel_rfl) trivial (fun hHeld => ?_)
      refine Hn.take (i := 0) (d := some 66) (v := .pointer (some ⟨ob, 1, none⟩)) rfl (by kernel_rfl) (by kernel_rfl) (by kernel_rfl) (by kernel_rfl) (fun _ _ _ h => h) (Or.inl ⟨by rfl, by intro w hSw; go_simp⟩) hHeld ?_
      simp only [Act.put, List.setIfInBounds_toArray, List.set_cons_zero, List.set_cons_succ]
      refine Hn.take (i := 2) (d := some 68) (v := .pointer (some ⟨ob, 1, none⟩)) rfl (by kernel_rfl) (by kernel_rfl) (by kernel_rfl) (by kernel_rfl) (fun _ _ _ h => h) (Or.inl ⟨by rfl, by intro w hSw; go_simp⟩) hHeld ?_
      simp only [Act.put, List.setIfInBounds_toArray, List.set_cons_zero, List.set_cons_succ]
      refine Hn.take (i := 4) (d := some 70) (v := .int .i64 Q.length) rfl (by kernel_rfl) (by kernel_rfl) (by kernel_rfl) (by kernel_rfl) (fun _ _ _ h => h) (Or.inl ⟨by rfl, by intro w hSw; go_simp⟩) hHeld ?_
      simp only [Act.put, List.setIfInBounds_toArray, List.set_cons_zero, List.set_cons_succ]
      refine Hn.take (i := 5) (d := some 71) (v := .int .i64 M) rfl (by kernel_rfl) (by kernel_rfl) (by kernel_rfl) (by kernel_rfl) (fun _ _ _ h => h) (Or.inl ⟨by rfl, by intro w hSw; go_simp⟩) hHeld ?_
      simp only [Act.put, List.setIfInBounds_toArray, List.set_cons_zero, List.set_cons_succ]
      have or0 : OX wr.drew B ob (.slice (some ⟨fg, 0, none⟩) Q.length uc) Q := orr.below ((Below.refl _ _).drew)
      have kO0 : wr.drew.heap[ob]? = some (.cells #[.int .i64 ar, .slice (some ⟨fg, 0, none⟩) Q.length uc] 31 (0, 0)) := kO
      have kR0 : wr.drew.heap[w.heap.size]? = some (.cells #[.int .i64 0, .slice none 0 0] 31 (0, 0)) := kR
      have hC0 : Cur wr.drew g a b off cap c := ⟨hC.blk, hC.rd.below ((Below.refl _ _).drew), hC.ne⟩
      have hO0 : Only g w wr.drew := only_trans hO ⟨rfl, rfl, rfl, Nat.le_refl _, fun _ _ _ => rfl⟩
      have cM0 : wr.drew.cell? ⟨fg, M, none⟩ = some (.slice xa xl.length xc) := cM
      have ok0 := Vl.Rd.below ok ((Below.refl wr.heap.size wr).drew)
      clear kO kR orr hC hO cM ok
      generalize wr.drew = W at *
      refine wpAnyH_ready (rs := [1, 3]) (by kernel_rfl) (by simp) (Hn.readyRun (i := 1) rfl (by kernel_rfl) (some 67) (by kernel_rfl) (v := .slice (some ⟨fg, 0, none⟩) Q.length uc) (w' := W) (by obtain ⟨o0, o1⟩ := two kO0; go_simp) trivial (fun hHeld => ?_) (Hn.readyRun (i := 3) rfl (by kernel_rfl) (some 69) (by kernel_rfl) (v := .slice (some ⟨fg, 0, none⟩) Q.length uc) (w' := W) (by obtain ⟨o0, o1⟩ := two kO0; go_simp) trivial (fun hHeld => ?_) AllReadyH.nil))
      · simp only [Act.put, List.setIfInBounds_toArray, List.set_cons_zero, List.set_cons_succ]
        refine wpAnyH_ready (rs := [3]) (by kernel_rfl) (by simp) (Hn.readyRun (i := 3) rfl (by kernel_rfl) (some 69) (by kernel_rfl) (v := .slice (some ⟨fg, 0, none⟩) Q.length uc) (w' := W) (by obtain ⟨o0, o1⟩ := two kO0; go_simp) trivial (fun hHeld => ?_) AllReadyH.nil)
        simp only [Act.put, List.setIfInBounds_toArray, List.set_cons_zero, List.set_cons_succ]
        refine Hn.take (i := 6) (d := some 72) (v := .pointer (some ⟨fg, M, none⟩)) rfl (by kernel_rfl) (by kernel_rfl) (by kernel_rfl) (by kernel_rfl) (fun _ _ _ h => h) (Or.inl ⟨by rfl, by intro w hSw; go_simp⟩) hHeld ?_
        simp only [Act.put, List.setIfInBounds_toArray, List.set_cons_zero, List.set_cons_succ]
        refine wpAnyH_ready (rs := [7]) (by kernel_rfl) (by simp) (Hn.readyRun (i := 7) rfl (by kernel_rfl) (some 73) (by kernel_rfl) (v := .agg #[.slice xa xl.length xc]) (w' := W) (by have c0 := cM0; go_simp) trivial (fun hHeld => ?_) AllReadyH.nil)
        simp only [Act.put, List.setIfInBounds_toArray, List.set_cons_zero, List.set_cons_succ]
        refine wpAnyH_ready (rs := [8]) (by kernel_rfl) (by simp) (Hn.call1 (i := 8) rfl (by rfl) 29 (.tmp 73) 56 (by kernel_rfl) 74 (by kernel_rfl) (.agg #[.slice xa xl.length xc]) (by kernel_rfl) (fun _ => rfl) (Rl.lrow_any xa xb xo xc xl _ ok0) ?_ AllReadyH.nil)
        rintro e1 Wc ⟨r, rfl, hr, hrl, hb⟩
        have hlt0 : fg < W.heap.size := (or0.og.lt (k := fg) rfl).2
        have hob0 := blk_lt kO0
        have sC := hb.size
        replace kO0 := (hb.block _ (blk_lt kO0)).trans kO0
        replace kR0 := (hb.block _ (blk_lt kR0)).trans kR0
        replace or0 := or0.below hb
        replace hC0 := cur_below hC0 hb
        replace hO0 := only_below hO0 hb
        clear hrl hb
        refine ⟨_, rfl, trivial, fun hHeld => ?_⟩
        simp only [Act.put, List.setIfInBounds_toArray, List.set_cons_zero, List.set_cons_succ]
        refine wpAnyH_ready (rs := [9]) (by kernel_rfl) (by simp) (Hn.readyRun (i := 9) rfl (by kernel_rfl) (some 75) (by kernel_rfl) (v := .slice (some ⟨Wc.heap.size, 0, none⟩) 1 1) (w' := Wc.alloc (.cells #[r.val] 56)) (Rl.exec_one rfl (by kernel_rfl)) trivial (fun hHeld => ?_) AllReadyH.nil)
        simp only [Act.put, List.setIfInBounds_toArray, List.set_cons_zero, List.set_cons_succ]
        obtain ⟨Wd, hWd⟩ : ∃ Wd, Wd = Wc.alloc (.cells #[r.val] 56) := ⟨_, rfl⟩
        rw [← hWd]
        have hT : Wd.heap[Wc.heap.size]? = some (.cells #[r.val] 56 (0, 0)) := by subst hWd; exact at_new rfl
        have hb : Below Wc.heap.size Wc Wd := by subst hWd; exact below_alloc1 _ _
        replace kO0 := (hb.block _ (blk_lt kO0)).trans kO0
        replace kR0 := (hb.block _ (blk_lt kR0)).trans kR0
        replace or0 := or0.below hb
        replace hC0 := cur_below hC0 hb
        replace hO0 := only_below hO0 hb
        have hr2 := hr.below hb
        have sD := hb.size
        clear hb hWd
        obtain ⟨v', Z, hrun, ogZ, hgr, hwh⟩ := or0.og.app 29 (c := 1) hr2.ok (fun h0 e => by have := (hr2.own h0).2.1; simp only [Value.ownBlock, Option.some.injEq] at e; omega) (by omega) hT (by omega)
        refine wpAnyH_ready (rs := [10]) (by kernel_rfl) (by simp) (Hn.readyRun (i := 10) rfl (by kernel_rfl) (some 76) (by kernel_rfl) (Hn.exec_app (.tmp 67) (.tmp 75) rfl (by kernel_rfl) (by kernel_rfl) hrun) trivial (fun hHeld => ?_) AllReadyH.nil)
        simp only [Act.put, List.setIfInBounds_toArray, List.set_cons_zero, List.set_cons_succ]
        obtain ⟨va, vn, vc, hv⟩ := ogZ.slice
        subst hv
        have kOZ := (hgr.block _ (blk_lt kO0) (fun e => or0.ne e.symm)).trans kO0
        have kRZ := (hgr.block _ (blk_lt kR0) (fun e => by simp only [Value.ownBlock, Option.some.injEq] at e; omega)).trans kR0
        have hC := cur_grown (B := B) hC0 hgr (fun k hk => (or0.og.lt hk).1) (by omega) (hbl.imp id fun q => by omega) (by omega)
        have hO := only_grown (B := B) hO0 hgr (fun k hk => (or0.og.lt hk).1) (by omega)
        have orr : OX Z B ob (.slice va vn vc) (Q ++ [r]) := ⟨ogZ, fun x hx h0 => by rcases List.mem_append.1 hx with hx | hx; exact or0.low x hx h0; (obtain rfl := List.mem_singleton.1 hx; have := (hr2.own h0).2.1; omega), fun e => by rcases hwh with q | q; exact or0.ne (q.symm.trans e); (rw [q] at e; simp only [Option.some.injEq] at e; omega)⟩
        obtain ⟨o0, o1⟩ := two kOZ
        have fO := Vl.free kOZ
        refine Hn.take (i := 11) (d := some 77) (v := .pointer (some ⟨ob, 1, none⟩)) rfl (by kernel_rfl) (by kernel_rfl) (by kernel_rfl) (by kernel_rfl) (fun _ _ _ h => h) (Or.inl ⟨by rfl, by intro w hSw; go_simp⟩) hHeld ?_
        simp only [Act.put, List.setIfInBounds_toArray, List.set_cons_zero, List.set_cons_succ]
        refine wpAnyH_ready (rs := [12]) (by kernel_rfl) (by simp) (Hn.readySkip (i := 12) rfl (by kernel_rfl) none (by kernel_rfl) (w' := Z.setCell ⟨ob, 1, none⟩ (.slice va vn vc)) (by go_simp) trivial (fun hHeld => ?_) AllReadyH.nil)
        simp only [Act.put, List.setIfInBounds_toArray, List.set_cons_zero, List.set_cons_succ]
        refine wpAnyH_done (by kernel_rfl) ?_ _
        have kO' : (Z.setCell ⟨ob, 1, none⟩ (.slice va vn vc)).heap[ob]? = some (.cells #[.int .i64 ar, .slice va vn vc] 31 (0, 0)) := Rl.two_set1 kOZ
        have kR' := (Below.heap_setCell Z ⟨ob, 1, none⟩ (.slice va vn vc) (w.heap.size) (by simp only; omega)).trans kRZ
        replace orr := orr.set (x := ⟨ob, 1, none⟩) (u := .slice va vn vc) (Or.inr rfl)
        replace hC := cur_set (x := ⟨ob, 1, none⟩) (u := .slice va vn vc) hC (by simp only; omega) (hbl.imp id fun q => by simp only; omega)
        replace hO := only_set (x := ⟨ob, 1, none⟩) (u := .slice va vn vc) hO (by simp only; omega)
        clear o0 o1 fO
        generalize Z.setCell ⟨ob, 1, none⟩ (.slice va vn vc) = We at *
        obtain ⟨o0, o1⟩ := two kO'
        obtain ⟨r0, r1⟩ := two kR'
        have fO := Vl.free kO'
        have fR := Vl.free kR'
        go_wp2
        refine bodyPost_ret (v := .agg #[.int .i64 ar, .slice va vn vc]) (by simp [results, Try.results79, go_sem, r0, r1]) rfl ⟨ar, va, vn, vc, Q ++ [r], rfl, ?_, ?_, ?_, ?_⟩
        · refine OR.mono (B := B) (OX.toR (T := ob) ?_) (by omega); repeat (first | with_reducible exact orr | refine OX.set ?_ (by first | (simp only; omega) | exact Or.inr rfl))
        · simp only [List.length_append, List.length_singleton]; omega
        · repeat (first | with_reducible exact hC | refine cur_set ?_ (by simp only; omega) (hbl.imp id fun q => by simp only; omega))
        · repeat (first | with_reducible exact hO | refine only_set ?_ (by simp only; omega))
      · simp only [Act.put, List.setIfInBounds_toArray, List.set_cons_zero, List.set_cons_succ]
        refine Hn.take (i := 6) (d := some 72) (v := .pointer (some ⟨fg, M, none⟩)) rfl (by kernel_rfl) (by kernel_rfl) (by kernel_rfl) (by kernel_rfl) (fun _ _ _ h => h) (Or.inl ⟨by rfl, by intro w hSw; go_simp⟩) hHeld ?_
        simp only [Act.put, List.setIfInBounds_toArray, List.set_cons_zero, List.set_cons_succ]
        refine wpAnyH_ready (rs := [1, 7]) (by kernel_rfl) (by simp) (Hn.readyRun (i := 1) rfl (by kernel_rfl) (some 67) (by kernel_rfl) (v := .slice (some ⟨fg, 0, none⟩) Q.length uc) (w' := W) (by obtain ⟨o0, o1⟩ := two kO0; go_simp) trivial (fun hHeld => ?_) (Hn.readyRun (i := 7) rfl (by kernel_rfl) (some 73) (by kernel_rfl) (v := .agg #[.slice xa xl.length xc]) (w' := W) (by have c0 := cM0; go_simp) trivial (fun hHeld => ?_) AllReadyH.nil))
        · simp only [Act.put, List.setIfInBounds_toArray, List.set_cons_zero, List.set_cons_succ]
          refine wpAnyH_ready (rs := [7]) (by kernel_rfl) (by simp) (Hn.readyRun (i := 7) rfl (by kernel_rfl) (some 73) (by kernel_rfl) (v := .agg #[.slice xa xl.length xc]) (w' := W) (by have c0 := cM0; go_simp) trivial (fun hHeld => ?_) AllReadyH.nil)
          simp only [Act.put, List.setIfInBounds_toArray, List.set_cons_zero, List.set_cons_succ]
          refine wpAnyH_ready (rs := [8]) (by kernel_rfl) (by simp) (Hn.call1 (i := 8) rfl (by rfl) 29 (.tmp 73) 56 (by kernel_rfl) 74 (by kernel_rfl) (.agg #[.slice xa xl.length xc]) (by kernel_rfl) (fun _ => rfl) (Rl.lrow_any xa xb xo xc xl _ ok0) ?_ AllReadyH.nil)
          rintro e1 Wc ⟨r, rfl, hr, hrl, hb⟩
          have hlt0 : fg < W.heap.size := (or0.og.lt (k := fg) rfl).2
          have hob0 := blk_lt kO0
          have sC := hb.size
          replace kO0 := (hb.block _ (blk_lt kO0)).trans kO0
          replace kR0 := (hb.block _ (blk_lt kR0)).trans kR0
          replace or0 := or0.below hb
          replace hC0 := cur_below hC0 hb
          replace hO0 := only_below hO0 hb
          clear hrl hb
          refine ⟨_, rfl, trivial, fun hHeld => ?_⟩
          simp only [Act.put, List.setIfInBounds_toArray, List.set_cons_zero, List.set_cons_succ]
          refine wpAnyH_ready (rs := [9]) (by kernel_rfl) (by simp) (Hn.readyRun (i := 9) rfl (by kernel_rfl) (some 75) (by kernel_rfl) (v := .slice (some ⟨Wc.heap.size, 0, none⟩) 1 1) (w' := Wc.alloc (.cells #[r.val] 56)) (Rl.exec_one rfl (by kernel_rfl)) trivial (fun hHeld => ?_) AllReadyH.nil)
          simp only [Act.put, List.setIfInBounds_toArray, List.set_cons_zero, List.set_cons_succ]
          obtain ⟨Wd, hWd⟩ : ∃ Wd, Wd = Wc.alloc (.cells #[r.val] 56) := ⟨_, rfl⟩
          rw [← hWd]
          have hT : Wd.heap[Wc.heap.size]? = some (.cells #[r.val] 56 (0, 0)) := by subst hWd; exact at_new rfl
          have hb : Below Wc.heap.size Wc Wd := by subst hWd; exact below_alloc1 _ _
          replace kO0 := (hb.block _ (blk_lt kO0)).trans kO0
          replace kR0 := (hb.block _ (blk_lt kR0)).trans kR0
          replace or0 := or0.below hb
          replace hC0 := cur_below hC0 hb
          replace hO0 := only_below hO0 hb
          have hr2 := hr.below hb
          have sD := hb.size
          clear hb hWd
          obtain ⟨v', Z, hrun, ogZ, hgr, hwh⟩ := or0.og.app 29 (c := 1) hr2.ok (fun h0 e => by have := (hr2.own h0).2.1; simp only [Value.ownBlock, Option.some.injEq] at e; omega) (by omega) hT (by omega)
          refine wpAnyH_ready (rs := [10]) (by kernel_rfl) (by simp) (Hn.readyRun (i := 10) rfl (by kernel_rfl) (some 76) (by kernel_rfl) (Hn.exec_app (.tmp 67) (.tmp 75) rfl (by kernel_rfl) (by kernel_rfl) hrun) trivial (fun hHeld => ?_) AllReadyH.nil)
          simp only [Act.put, List.setIfInBounds_toArray, List.set_cons_zero, List.set_cons_succ]
          obtain ⟨va, vn, vc, hv⟩ := ogZ.slice
          subst hv
          have kOZ := (hgr.block _ (blk_lt kO0) (fun e => or0.ne e.symm)).trans kO0
          have kRZ := (hgr.block _ (blk_lt kR0) (fun e => by simp only [Value.ownBlock, Option.some.injEq] at e; omega)).trans kR0
          have hC := cur_grown (B := B) hC0 hgr (fun k hk => (or0.og.lt hk).1) (by omega) (hbl.imp id fun q => by omega) (by omega)
          have hO := only_grown (B := B) hO0 hgr (fun k hk => (or0.og.lt hk).1) (by omega)
          have orr : OX Z B ob (.slice va vn vc) (Q ++ [r]) := ⟨ogZ, fun x hx h0 => by rcases List.mem_append.1 hx with hx | hx; exact or0.low x hx h0; (obtain rfl := List.mem_singleton.1 hx; have := (hr2.own h0).2.1; omega), fun e => by rcases hwh with q | q; exact or0.ne (q.symm.trans e); (rw [q] at e; simp only [Option.some.injEq] at e; omega)⟩
          obtain ⟨o0, o1⟩ := two kOZ
          have fO := Vl.free kOZ
          refine Hn.take (i := 11) (d := some 77) (v := .pointer (some ⟨ob, 1, none⟩)) rfl (by kernel_rfl) (by kernel_rfl) (by kernel_rfl) (by kernel_rfl) (fun _ _ _ h => h) (Or.inl ⟨by rfl, by intro w hSw; go_simp⟩) hHeld ?_
          simp only [Act.put, List.setIfInBounds_toArray, List.set_cons_zero, List.set_cons_succ]
          refine wpAnyH_ready (rs := [12]) (by kernel_rfl) (by simp) (Hn.readySkip (i := 12) rfl (by kernel_rfl) none (by kernel_rfl) (w' := Z.setCell ⟨ob, 1, none⟩ (.slice va vn vc)) (by go_simp) trivial (fun hHeld => ?_) AllReadyH.nil)
          simp only [Act.put, List.setIfInBounds_toArray, List.set_cons_zero, List.set_cons_succ]
          refine wpAnyH_done (by kernel_rfl) ?_ _
          have kO' : (Z.setCell ⟨ob, 1, none⟩ (.slice va vn vc)).heap[ob]? = some (.cells #[.int .i64 ar, .slice va vn vc] 31 (0, 0)) := Rl.two_set1 kOZ
          have kR' := (Below.heap_setCell Z ⟨ob, 1, none⟩ (.slice va vn vc) (w.heap.size) (by simp only; omega)).trans kRZ
          replace orr := orr.set (x := ⟨ob, 1, none⟩) (u := .slice va vn vc) (Or.inr rfl)
          replace hC := cur_set (x := ⟨ob, 1, none⟩) (u := .slice va vn vc) hC (by simp only; omega) (hbl.imp id fun q => by simp only; omega)
          replace hO := only_set (x := ⟨ob, 1, none⟩) (u := .slice va vn vc) hO (by simp only; omega)
          clear o0 o1 fO
          generalize Z.setCell ⟨ob, 1, none⟩ (.slice va vn vc) = We at *
          obtain ⟨o0, o1⟩ := two kO'
          obtain ⟨r0, r1⟩ := two kR'
          have fO := Vl.free kO'
          have fR := Vl.free kR'
          go_wp2
          refine bodyPost_ret (v := .agg #[.int .i64 ar, .slice va vn vc]) (by simp [results, Try.results79, go_sem, r0, r1]) rfl ⟨ar, va, vn, vc, Q ++ [r], rfl, ?_, ?_, ?_, ?_⟩
          · refine OR.mono (B := B) (OX.toR (T := ob) ?_) (by omega); repeat (first | with_reducible exact orr | refine OX.set ?_ (by first | (simp only; omega) | exact Or.inr rfl))
          · simp only [List.length_append, List.length_singleton]; omega
          · repeat (first | with_reducible exact hC | refine cur_set ?_ (by simp only; omega) (hbl.imp id fun q => by simp only; omega))
          · repeat (first | with_reducible exact hO | refine only_set ?_ (by simp only; omega))
        · simp only [Act.put, List.setIfInBounds_toArray, List.set_cons_zero, List.set_cons_succ]
          refine wpAnyH_ready (rs := [1, 8]) (by kernel_rfl) (by simp) (Hn.readyRun (i := 1) rfl (by kernel_rfl) (some 67) (by kernel_rfl) (v := .slice (some ⟨fg, 0, none⟩) Q.length uc) (w' := W) (by obtain ⟨o0, o1⟩ := two kO0; go_simp) trivial (fun hHeld => ?_) (Hn.call1 (i := 8) rfl (by rfl) 29 (.tmp 73) 56 (by kernel_rfl) 74 (by kernel_rfl) (.agg #[.slice xa xl.length xc]) (by kernel_rfl) (fun _ => rfl) (Rl.lrow_any xa xb xo xc xl _ ok0) ?_ AllReadyH.nil))
          · simp only [Act.put, List.setIfInBounds_toArray, List.set_cons_zero, List.set_cons_succ]
            refine wpAnyH_ready (rs := [8]) (by kernel_rfl) (by simp) (Hn.call1 (i := 8) rfl (by rfl) 29 (.tmp 73) 56 (by kernel_rfl) 74 (by kernel_rfl) (.agg #[.slice xa xl.length xc]) (by kernel_rfl) (fun _ => rfl) (Rl.lrow_any xa xb xo xc xl _ ok0) ?_ AllReadyH.nil)
            rintro e1 Wc ⟨r, rfl, hr, hrl, hb⟩
            have hlt0 : fg < W.heap.size := (or0.og.lt (k := fg) rfl).2
            have hob0 := blk_lt kO0
            have sC := hb.size
            replace kO0 := (hb.block _ (blk_lt kO0)).trans kO0
            replace kR0 := (hb.block _ (blk_lt kR0)).trans kR0
            replace or0 := or0.below hb
            replace hC0 := cur_below hC0 hb
            replace hO0 := only_below hO0 hb
            clear hrl hb
            refine ⟨_, rfl, trivial, fun hHeld => ?_⟩
            simp only [Act.put, List.setIfInBounds_toArray, List.set_cons_zero, List.set_cons_succ]
            refine wpAnyH_ready (rs := [9]) (by kernel_rfl) (by simp) (Hn.readyRun (i := 9) rfl (by kernel_rfl) (some 75) (by kernel_rfl) (v := .slice (some ⟨Wc.heap.size, 0, none⟩) 1 1) (w' := Wc.alloc (.cells #[r.val] 56)) (Rl.exec_one rfl (by kernel_rfl)) trivial (fun hHeld => ?_) AllReadyH.nil)
            simp only [Act.put, List.setIfInBounds_toArray, List.set_cons_zero, List.set_cons_succ]
            obtain ⟨Wd, hWd⟩ : ∃ Wd, Wd = Wc.alloc (.cells #[r.val] 56) := ⟨_, rfl⟩
            rw [← hWd]
            have hT : Wd.heap[Wc.heap.size]? = some (.cells #[r.val] 56 (0, 0)) := by subst hWd; exact at_new rfl
            have hb : Below Wc.heap.size Wc Wd := by subst hWd; exact below_alloc1 _ _
            replace kO0 := (hb.block _ (blk_lt kO0)).trans kO0
            replace kR0 := (hb.block _ (blk_lt kR0)).trans kR0
            replace or0 := or0.below hb
            replace hC0 := cur_below hC0 hb
            replace hO0 := only_below hO0 hb
            have hr2 := hr.below hb
            have sD := hb.size
            clear hb hWd
            obtain ⟨v', Z, hrun, ogZ, hgr, hwh⟩ := or0.og.app 29 (c := 1) hr2.ok (fun h0 e => by have := (hr2.own h0).2.1; simp only [Value.ownBlock, Option.some.injEq] at e; omega) (by omega) hT (by omega)
            refine wpAnyH_ready (rs := [10]) (by kernel_rfl) (by simp) (Hn.readyRun (i := 10) rfl (by kernel_rfl) (some 76) (by kernel_rfl) (Hn.exec_app (.tmp 67) (.tmp 75) rfl (by kernel_rfl) (by kernel_rfl) hrun) trivial (fun hHeld => ?_) AllReadyH.nil)
            simp only [Act.put, List.setIfInBounds_toArray, List.set_cons_zero, List.set_cons_succ]
            obtain ⟨va, vn, vc, hv⟩ := ogZ.slice
            subst hv
            have kOZ := (hgr.block _ (blk_lt kO0) (fun e => or0.ne e.symm)).trans kO0
            have kRZ := (hgr.block _ (blk_lt kR0) (fun e => by simp only [Value.ownBlock, Option.some.injEq] at e; omega)).trans kR0
            have hC := cur_grown (B := B) hC0 hgr (fun k hk => (or0.og.lt hk).1) (by omega) (hbl.imp id fun q => by omega) (by omega)
            have hO := only_grown (B := B) hO0 hgr (fun k hk => (or0.og.lt hk).1) (by omega)
            have orr : OX Z B ob (.slice va vn vc) (Q ++ [r]) := ⟨ogZ, fun x hx h0 => by rcases List.mem_append.1 hx with hx | hx; exact or0.low x hx h0; (obtain rfl := List.mem_singleton.1 hx; have := (hr2.own h0).2.1; omega), fun e => by rcases hwh with q | q; exact or0.ne (q.symm.trans e); (rw [q] at e; simp only [Option.some.injEq] at e; omega)⟩
            obtain ⟨o0, o1⟩ := two kOZ
            have fO := Vl.free kOZ
            refine Hn.take (i := 11) (d := some 77) (v := .pointer (some ⟨ob, 1, none⟩)) rfl (by kernel_rfl) (by kernel_rfl) (by kernel_rfl) (by kernel_rfl) (fun _ _ _ h => h) (Or.inl ⟨by rfl, by intro w hSw; go_simp⟩) hHeld ?_
            simp only [Act.put, List.setIfInBounds_toArray, List.set_cons_zero, List.set_cons_succ]
            refine wpAnyH_ready (rs := [12]) (by kernel_rfl) (by simp) (Hn.readySkip (i := 12) rfl (by kernel_rfl) none (by kernel_rfl) (w' := Z.setCell ⟨ob, 1, none⟩ (.slice va vn vc)) (by go_simp) trivial (fun hHeld => ?_) AllReadyH.nil)
            simp only [Act.put, List.setIfInBounds_toArray, List.set_cons_zero, List.set_cons_succ]
            refine wpAnyH_done (by kernel_rfl) ?_ _
            have kO' : (Z.setCell ⟨ob, 1, none⟩ (.slice va vn vc)).heap[ob]? = some (.cells #[.int .i64 ar, .slice va vn vc] 31 (0, 0)) := Rl.two_set1 kOZ
            have kR' := (Below.heap_setCell Z ⟨ob, 1, none⟩ (.slice va vn vc) (w.heap.size) (by simp only; omega)).trans kRZ
            replace orr := orr.set (x := ⟨ob, 1, none⟩) (u := .slice va vn vc) (Or.inr rfl)
            replace hC := cur_set (x := ⟨ob, 1, none⟩) (u := .slice va vn vc) hC (by simp only; omega) (hbl.imp id fun q => by simp only; omega)
            replace hO := only_set (x := ⟨ob, 1, none⟩) (u := .slice va vn vc) hO (by simp only; omega)
            clear o0 o1 fO
            generalize Z.setCell ⟨ob, 1, none⟩ (.slice va vn vc) = We at *
            obtain ⟨o0, o1⟩ := two kO'
            obtain ⟨r0, r1⟩ := two kR'
            have fO := Vl.free kO'
            have fR := Vl.free kR'
            go_wp2
            refine bodyPost_ret (v := .agg #[.int .i64 ar, .slice va vn vc]) (by simp [results, Try.results79, go_sem, r0, r1]) rfl ⟨ar, va, vn, vc, Q ++ [r], rfl, ?_, ?_, ?_, ?_⟩
            · refine OR.mono (B := B) (OX.toR (T := ob) ?_) (by omega); repeat (first | with_reducible exact orr | refine OX.set ?_ (by first | (simp only; omega) | exact Or.inr rfl))
            · simp only [List.length_append, List.length_singleton]; omega
            · repeat (first | with_reducible exact hC | refine cur_set ?_ (by simp only; omega) (hbl.imp id fun q => by simp only; omega))
            · repeat (first | with_reducible exact hO | refine only_set ?_ (by simp only; omega))
          · rintro e1 Wc ⟨r, rfl, hr, hrl, hb⟩
            have hlt0 : fg < W.heap.size := (or0.og.lt (k := fg) rfl).2
            have hob0 := blk_lt kO0
            have sC := hb.size
            replace kO0 := (hb.block _ (blk_lt kO0)).trans kO0
            replace kR0 := (hb.block _ (blk_lt kR0)).trans kR0
            replace or0 := or0.below hb
            replace hC0 := cur_below hC0 hb
            replace hO0 := only_below hO0 hb
            clear hrl hb
            refine ⟨_, rfl, trivial, fun hHeld => ?_⟩
            simp only [Act.put, List.setIfInBounds_toArray, List.set_cons_zero, List.set_cons_succ]
            refine wpAnyH_ready (rs := [1, 9]) (by kernel_rfl) (by simp) (Hn.readyRun (i := 1) rfl (by kernel_rfl) (some 67) (by kernel_rfl) (v := .slice (some ⟨fg, 0, none⟩) Q.length uc) (w' := Wc) (by obtain ⟨o0, o1⟩ := two kO0; go_simp) trivial (fun hHeld => ?_) (Hn.readyRun (i := 9) rfl (by kernel_rfl) (some 75) (by kernel_rfl) (v := .slice (some ⟨Wc.heap.size, 0, none⟩) 1 1) (w' := Wc.alloc (.cells #[r.val] 56)) (Rl.exec_one rfl (by kernel_rfl)) trivial (fun hHeld => ?_) AllReadyH.nil))
            · simp only [Act.put, List.setIfInBounds_toArray, List.set_cons_zero, List.set_cons_succ]
              refine wpAnyH_ready (rs := [9]) (by kernel_rfl) (by simp) (Hn.readyRun (i := 9) rfl (by kernel_rfl) (some 75) (by kernel_rfl) (v := .slice (some ⟨Wc.heap.size, 0, none⟩) 1 1) (w' := Wc.alloc (.cells #[r.val] 56)) (Rl.exec_one rfl (by kernel_rfl)) trivial (fun hHeld => ?_) AllReadyH.nil)
              simp only [Act.put, List.setIfInBounds_toArray, List.set_cons_zero, List.set_cons_succ]
              obtain ⟨Wd, hWd⟩ : ∃ Wd, Wd = Wc.alloc (.cells #[r.val] 56) := ⟨_, rfl⟩
              rw [← hWd]
              have hT : Wd.heap[Wc.heap.size]? = some (.cells #[r.val] 56 (0, 0)) := by subst hWd; exact at_new rfl
              have hb : Below Wc.heap.size Wc Wd := by subst hWd; exact below_alloc1 _ _
              replace kO0 := (hb.block _ (blk_lt kO0)).trans kO0
              replace kR0 := (hb.block _ (blk_lt kR0)).trans kR0
              replace or0 := or0.below hb
              replace hC0 := cur_below hC0 hb
              replace hO0 := only_below hO0 hb
              have hr2 := hr.below hb
              have sD := hb.size
              clear hb hWd
              obtain ⟨v', Z, hrun, ogZ, hgr, hwh⟩ := or0.og.app 29 (c := 1) hr2.ok (fun h0 e => by have := (hr2.own h0).2.1; simp only [Value.ownBlock, Option.some.injEq] at e; omega) (by omega) hT (by omega)
              refine wpAnyH_ready (rs := [10]) (by kernel_rfl) (by simp) (Hn.readyRun (i := 10) rfl (by kernel_rfl) (some 76) (by kernel_rfl) (Hn.exec_app (.tmp 67) (.tmp 75) rfl (by kernel_rfl) (by kernel_rfl) hrun) trivial (fun hHeld => ?_) AllReadyH.nil)
              simp only [Act.put, List.setIfInBounds_toArray, List.set_cons_zero, List.set_cons_succ]
              obtain ⟨va, vn, vc, hv⟩ := ogZ.slice
              subst hv
              have kOZ := (hgr.block _ (blk_lt kO0) (fun e => or0.ne e.symm)).trans kO0
              have kRZ := (hgr.block _ (blk_lt kR0) (fun e => by simp only [Value.ownBlock, Option.some.injEq] at e; omega)).trans kR0
              have hC := cur_grown (B := B) hC0 hgr (fun k hk => (or0.og.lt hk).1) (by omega) (hbl.imp id fun q => by omega) (by omega)
              have hO := only_grown (B := B) hO0 hgr (fun k hk => (or0.og.lt hk).1) (by omega)
              have orr : OX Z B ob (.slice va vn vc) (Q ++ [r]) := ⟨ogZ, fun x hx h0 => by rcases List.mem_append.1 hx with hx | hx; exact or0.low x hx h0; (obtain rfl := List.mem_singleton.1 hx; have := (hr2.own h0).2.1; omega), fun e => by rcases hwh with q | q; exact or0.ne (q.symm.trans e); (rw [q] at e; simp only [Option.some.injEq] at e; omega)⟩
              obtain ⟨o0, o1⟩ := two kOZ
              have fO := Vl.free kOZ
              refine Hn.take (i := 11) (d := some 77) (v := .pointer (some ⟨ob, 1, none⟩)) rfl (by kernel_rfl) (by kernel_rfl) (by kernel_rfl) (by kernel_rfl) (fun _ _ _ h => h) (Or.inl ⟨by rfl, by intro w hSw; go_simp⟩) hHeld ?_
              simp only [Act.put, List.setIfInBounds_toArray, List.set_cons_zero, List.set_cons_succ]
              refine wpAnyH_ready (rs := [12]) (by kernel_rfl) (by simp) (Hn.readySkip (i := 12) rfl (by kernel_rfl) none (by kernel_rfl) (w' := Z.setCell ⟨ob, 1, none⟩ (.slice va vn vc)) (by go_simp) trivial (fun hHeld => ?_) AllReadyH.nil)
              simp only [Act.put, List.setIfInBounds_toArray, List.set_cons_zero, List.set_cons_succ]
              refine wpAnyH_done (by kernel_rfl) ?_ _
              have kO' : (Z.setCell ⟨ob, 1, none⟩ (.slice va vn vc)).heap[ob]? = some (.cells #[.int .i64 ar, .slice va vn vc] 31 (0, 0)) := Rl.two_set1 kOZ
              have kR' := (Below.heap_setCell Z ⟨ob, 1, none⟩ (.slice va vn vc) (w.heap.size) (by simp only; omega)).trans kRZ
              replace orr := orr.set (x := ⟨ob, 1, none⟩) (u := .slice va vn vc) (Or.inr rfl)
              replace hC := cur_set (x := ⟨ob, 1, none⟩) (u := .slice va vn vc) hC (by simp only; omega) (hbl.imp id fun q => by simp only; omega)
              replace hO := only_set (x := ⟨ob, 1, none⟩) (u := .slice va vn vc) hO (by simp only; omega)
              clear o0 o1 fO
              generalize Z.setCell ⟨ob, 1, none⟩ (.slice va vn vc) = We at *
              obtain ⟨o0, o1⟩ := two kO'
              obtain ⟨r0, r1⟩ := two kR'
              have fO := Vl.free kO'
              have fR := Vl.free kR'
              go_wp2
              refine bodyPost_ret (v := .agg #[.int .i64 ar, .slice va vn vc]) (by simp [results, Try.results79, go_sem, r0, r1]) rfl ⟨ar, va, vn, vc, Q ++ [r], rfl, ?_, ?_, ?_, ?_⟩
              · refine OR.mono (B := B) (OX.toR (T := ob) ?_) (by omega); repeat (first | with_reducible exact orr | refine OX.set ?_ (by first | (simp only; omega) | exact Or.inr rfl))
              · simp only [List.length_append, List.length_singleton]; omega
              · repeat (first | with_reducible exact hC | refine cur_set ?_ (by simp only; omega) (hbl.imp id fun q => by simp only; omega))
              · repeat (first | with_reducible exact hO | refine only_set ?_ (by simp only; omega))
            · simp only [Act.put, List.setIfInBounds_toArray, List.set_cons_zero, List.set_cons_succ]
              obtain ⟨Wd, hWd⟩ : ∃ Wd, Wd = Wc.alloc (.cells #[r.val] 56) := ⟨_, rfl⟩
              rw [← hWd]
              have hT : Wd.heap[Wc.heap.size]? = some (.cells #[r.val] 56 (0, 0)) := by subst hWd; exact at_new rfl
              have hb : Below Wc.heap.size Wc Wd := by subst hWd; exact below_alloc1 _ _
              replace kO0 := (hb.block _ (blk_lt kO0)).trans kO0
              replace kR0 := (hb.block _ (blk_lt kR0)).trans kR0
              replace or0 := or0.below hb
              replace hC0 := cur_below hC0 hb
              replace hO0 := only_below hO0 hb
              have hr2 := hr.below hb
              have sD := hb.size
              clear hb hWd
              refine wpAnyH_ready (rs := [1]) (by kernel_rfl) (by simp) (Hn.readyRun (i := 1) rfl (by kernel_rfl) (some 67) (by kernel_rfl) (v := .slice (some ⟨fg, 0, none⟩) Q.length uc) (w' := Wd) (by obtain ⟨o0, o1⟩ := two kO0; go_simp) trivial (fun hHeld => ?_) AllReadyH.nil)
              simp only [Act.put, List.setIfInBounds_toArray, List.set_cons_zero, List.set_cons_succ]
              obtain ⟨v', Z, hrun, ogZ, hgr, hwh⟩ := or0.og.app 29 (c := 1) hr2.ok (fun h0 e => by have := (hr2.own h0).2.1; simp only [Value.ownBlock, Option.some.injEq] at e; omega) (by omega) hT (by omega)
              refine wpAnyH_ready (rs := [10]) (by kernel_rfl) (by simp) (Hn.readyRun (i := 10) rfl (by kernel_rfl) (some 76) (by kernel_rfl) (Hn.exec_app (.tmp 67) (.tmp 75) rfl (by kernel_rfl) (by kernel_rfl) hrun) trivial (fun hHeld => ?_) AllReadyH.nil)
              simp only [Act.put, List.setIfInBounds_toArray, List.set_cons_zero, List.set_cons_succ]
              obtain ⟨va, vn, vc, hv⟩ := ogZ.slice
              subst hv
              have kOZ := (hgr.block _ (blk_lt kO0) (fun e => or0.ne e.symm)).trans kO0
              have kRZ := (hgr.block _ (blk_lt kR0) (fun e => by simp only [Value.ownBlock, Option.some.injEq] at e; omega)).trans kR0
              have hC := cur_grown (B := B) hC0 hgr (fun k hk => (or0.og.lt hk).1) (by omega) (hbl.imp id fun q => by omega) (by omega)
              have hO := only_grown (B := B) hO0 hgr (fun k hk => (or0.og.lt hk).1) (by omega)
              have orr : OX Z B ob (.slice va vn vc) (Q ++ [r]) := ⟨ogZ, fun x hx h0 => by rcases List.mem_append.1 hx with hx | hx; exact or0.low x hx h0; (obtain rfl := List.mem_singleton.1 hx; have := (hr2.own h0).2.1; omega), fun e => by rcases hwh with q | q; exact or0.ne (q.symm.trans e); (rw [q] at e; simp only [Option.some.injEq] at e; omega)⟩
              obtain ⟨o0, o1⟩ := two kOZ
              have fO := Vl.free kOZ
              refine Hn.take (i := 11) (d := some 77) (v := .pointer (some ⟨ob, 1, none⟩)) rfl (by kernel_rfl) (by kernel_rfl) (by kernel_rfl) (by kernel_rfl) (fun _ _ _ h => h) (Or.inl ⟨by rfl, by intro w hSw; go_simp⟩) hHeld ?_
              simp only [Act.put, List.setIfInBounds_toArray, List.set_cons_zero, List.set_cons_succ]
              refine wpAnyH_ready (rs := [12]) (by kernel_rfl) (by simp) (Hn.readySkip (i := 12) rfl (by kernel_rfl) none (by kernel_rfl) (w' := Z.setCell ⟨ob, 1, none⟩ (.slice va vn vc)) (by go_simp) trivial (fun hHeld => ?_) AllReadyH.nil)
              simp only [Act.put, List.setIfInBounds_toArray, List.set_cons_zero, List.set_cons_succ]
              refine wpAnyH_done (by kernel_rfl) ?_ _
              have kO' : (Z.setCell ⟨ob, 1, none⟩ (.slice va vn vc)).heap[ob]? = some (.cells #[.int .i64 ar, .slice va vn vc] 31 (0, 0)) := Rl.two_set1 kOZ
              have kR' := (Below.heap_setCell Z ⟨ob, 1, none⟩ (.slice va vn vc) (w.heap.size) (by simp only; omega)).trans kRZ
              replace orr := orr.set (x := ⟨ob, 1, none⟩) (u := .slice va vn vc) (Or.inr rfl)
              replace hC := cur_set (x := ⟨ob, 1, none⟩) (u := .slice va vn vc) hC (by simp only; omega) (hbl.imp id fun q => by simp only; omega)
              replace hO := only_set (x := ⟨ob, 1, none⟩) (u := .slice va vn vc) hO (by simp only; omega)
              clear o0 o1 fO
              generalize Z.setCell ⟨ob, 1, none⟩ (.slice va vn vc) = We at *
              obtain ⟨o0, o1⟩ := two kO'
              obtain ⟨r0, r1⟩ := two kR'
              have fO := Vl.free kO'
              have fR := Vl.free kR'
              go_wp2
              refine bodyPost_ret (v := .agg #[.int .i64 ar, .slice va vn vc]) (by simp [results, Try.results79, go_sem, r0, r1]) rfl ⟨ar, va, vn, vc, Q ++ [r], rfl, ?_, ?_, ?_, ?_⟩
              · refine OR.mono (B := B) (OX.toR (T := ob) ?_) (by omega); repeat (first | with_reducible exact orr | refine OX.set ?_ (by first | (simp only; omega) | exact Or.inr rfl))
              · simp only [List.length_append, List.length_singleton]; omega
              · repeat (first | with_reducible exact hC | refine cur_set ?_ (by simp only; omega) (hbl.imp id fun q => by simp only; omega))
              · repeat (first | with_reducible exact hO | refine only_set ?_ (by simp only; omega))
    · have hz : Q.length = 0 := by omega
      rw [hz] at kO orr ⊢
      obtain ⟨o0, o1⟩ := two kO
      obtain ⟨r0, r1⟩ := two kR
      have fO := Vl.free kO
      have fR := Vl.free kR
      go_wp2
      refine bodyPost_ret (v := .agg #[.int .i64 ar, .slice ua 0 uc]) (by simp [results, Try.results79, go_sem, r0, r1]) rfl ⟨ar, ua, 0, uc, Q, rfl, ?_, ?_, ?_, ?_⟩
      · refine OR.mono (B := B) (OX.toR (T := ob) ?_) (by omega); repeat (first | with_reducible exact orr | refine OX.set ?_ (by first | (simp only; omega) | exact Or.inr rfl))
      · omega
      · repeat (first | with_reducible exact hC | refine cur_set ?_ (by simp only; omega) (hbl.imp id fun q => by simp only; omega))
      · repeat (first | with_reducible exact hO | refine only_set ?_ (by simp only; omega))
  · have t3 : True := trivial
    go_wp2_with (first
      | (go_at_call 81; clear t3; refine (below_any _ _ _ _ _ _ 2 _ hC (by omega) (by omega)).mono ?_; rintro e w4 ⟨x, rfl, x0, x1, hC1, hO1⟩; replace kO := only_at hO1 kO (by omega); replace hO := only_trans hO hO1; replace kR := only_at hO1 kR (by omega); replace hC := hC1; clear hC1; clear hO1; have t4 : True := trivial)
      | (go_at_call 81; clear t4; refine (below_any _ _ _ _ _ _ 2 _ hC (by omega) (by omega)).mono ?_; rintro e w5 ⟨y, rfl, y0, y1, hC1, hO1⟩; replace kO := only_at hO1 kO (by omega); replace hO := only_trans hO hO1; replace kR := only_at hO1 kR (by omega); replace hC := hC1; clear hC1; clear hO1)
      | (go_at_call 100; have wx : IntKind.i64.wrap (300 - x) = 300 - x := (by rw [IntKind.wrap_i64]; omega); have wy : IntKind.i64.wrap (300 - x + y) = 300 - x + y := (by rw [IntKind.wrap_i64]; omega); have wz : IntKind.i64.wrap (IntKind.i64.wrap (300 - x) + y) = 300 - x + y := (by rw [wx]; exact wy); clear orr; refine (full_int _ (by omega) (by omega) _).mono ?_; rintro e w6 ⟨va, vn, vc, F, rfl, orr, hF, hb⟩; have kO5 := blk_lt kO; have kR5 := blk_lt kR; obtain ⟨B4, hB4⟩ : ∃ B4, B4 = w5.heap.size := ⟨_, rfl⟩; rw [← hB4] at orr kO5 kR5; clear hB4; replace kO := (hb.block _ (blk_lt kO)).trans kO; replace kR := (hb.block _ (blk_lt kR)).trans kR; replace hC := cur_below hC hb; replace hO := only_below hO hb; clear hb; obtain ⟨o0, o1⟩ := two kO; obtain ⟨r0, r1⟩ := two kR; have fO := Vl.free kO; have fR := Vl.free kR))
    refine bodyPost_ret (v := .agg #[.int .i64 1, .slice va vn vc]) (by simp [results, Try.results79, go_sem, r0, r1]) rfl ⟨1, va, vn, vc, F, rfl, ?_, ?_, ?_, ?_⟩
    · refine OR.mono (B := B4) ?_ (by omega); repeat (first | with_reducible exact orr | refine OR.set ?_ (by simp only; omega))
    · omega
    · repeat (first | with_reducible exact hC | refine cur_set ?_ (by simp only; omega) (hbl.imp id fun q => by simp only; omega))
    · repeat (first | with_reducible exact hO | refine only_set ?_ (by simp only; omega))
  · obtain ⟨o0, o1⟩ := two kO
    obtain ⟨r0, r1⟩ := two kR
    have fO := Vl.free kO
    have fR := Vl.free kR
    go_wp2
    refine bodyPost_ret (v := .agg #[.int .i64 ar, .slice ua Q.length uc]) (by simp [results, Try.results79, go_sem, r0, r1]) rfl ⟨ar, ua, Q.length, uc, Q, rfl, ?_, ?_, ?_, ?_⟩
    · refine OR.mono (B := B) (OX.toR (T := ob) ?_) (by omega); repeat (first | with_reducible exact orr | refine OX.set ?_ (by first | (simp only; omega) | exact Or.inr rfl))
    · omega
    · repeat (first | with_reducible exact hC | refine cur_set ?_ (by simp only; omega) (hbl.imp id fun q => by simp only; omega))
    · repeat (first | with_reducible exact hO | refine only_set ?_ (by simp only; omega))

end Go.Proofs.Ytfiebakgphcnbaa.Dr
