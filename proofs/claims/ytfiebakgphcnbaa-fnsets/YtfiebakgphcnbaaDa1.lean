/-
  Draws of relations.
-/
import Derived.Test.YtfiebakgphcnbaaDz1
import Derived.Test.YtfiebakgphcnbaaPg
namespace Go.Proofs.Ytfiebakgphcnbaa.Dr
set_option maxRecDepth 8000
set_option linter.unusedSimpArgs false
set_option linter.unusedVariables false
open Go Go.RowKit
open Num Rw Pl
open Rl (flatV Rm OG)
open Vl (V2 z2)

/-- A list of rows of the call's own; the rows lie from B on too. -/
structure OR (w : World) (B : Nat) (v : Value) (Q : List Rm) : Prop where
  og : OG w B v Q
  low : ∀ r ∈ Q, r.l.length ≠ 0 → B ≤ r.b
theorem OR.nil (w : World) (B : Nat) : OR w B (.slice none 0 0) [] := ⟨OG.nil w B, fun r h => by simp at h⟩
theorem OR.keep {w w' : World} {B : Nat} {v : Value} {Q : List Rm} (h : OR w B v Q) (hk : ∀ x, x < w.heap.size → B ≤ x → w'.heap[x]? = w.heap[x]?) : OR w' B v Q :=
  ⟨h.og.keep fun x hx hu => hk x hx (by
    rcases hu with hu | ⟨r, hr, h0, rfl⟩
    · exact (h.og.lt hu).1
    · exact h.low r hr h0), h.low⟩
theorem OR.below {w w' : World} {B : Nat} {v : Value} {Q : List Rm} (h : OR w B v Q) (hb : Below w.heap.size w w') : OR w' B v Q := h.keep fun x hx _ => hb.block x hx
theorem OR.only {w w' : World} {B g : Nat} {v : Value} {Q : List Rm} (h : OR w B v Q) (ho : Only g w w') (hg : g < B) : OR w' B v Q := h.keep fun x hx hx2 => ho.block x hx (by simp; omega)
theorem OR.mono {w : World} {B B' : Nat} {v : Value} {Q : List Rm} (h : OR w B v Q) (hB : B' ≤ B) : OR w B' v Q := ⟨h.og.mono hB, fun r hr h0 => Nat.le_trans hB (h.low r hr h0)⟩
theorem OR.set {w : World} {B : Nat} {v u : Value} {Q : List Rm} {x : Addr} (h : OR w B v Q) (hx : x.block < B) : OR (w.setCell x u) B v Q := h.keep fun k _ hk => Below.heap_setCell _ _ _ _ (by omega)
/-- A relation is drawn. -/
def ResR (w : World) (m : Nat) (g : Nat) (a : Option Addr) (b off cap : Nat) (c : List Int) (e : Ending) (w' : World) : Prop :=
  ∃ ar va vn vc Q, e = .returned (.agg #[.int .i64 ar, .slice va vn vc]) ∧ OR w' w.heap.size (.slice va vn vc) Q ∧ Q.length ≤ m ∧ Cur w' g a b off cap c ∧ Only g w w'
theorem cur_below {w w' : World} {g : Nat} {a : Option Addr} {b off cap : Nat} {l : List Int} (h : Cur w g a b off cap l) (hb : Below w.heap.size w w') : Cur w' g a b off cap l := cur_keep h (fun k hk => hb.block k hk) (cur_in h).1 (cur_in h).2
theorem only_below {g : Nat} {w w1 w2 : World} (h : Only g w w1) (hb : Below w1.heap.size w1 w2) : Only g w w2 :=
  only_trans h ⟨hb.os, hb.tape, hb.output, hb.size, fun k hk _ => hb.block k hk⟩

set_option maxHeartbeats 8000000 in
theorem rel_any (n0 : Int) (h0 : 0 ≤ n0) (hn : n0 ≤ 1000) (g : Nat) (a : Option Addr) (b off cap : Nat) (c : List Int) (w : World) (h : Cur w g a b off cap c) :
    Calls Try.prog 80 #[.pointer (some ⟨g, 0, none⟩), .int .i64 n0] w (ResR w 6 g a b off cap c) := by
  obtain ⟨hg, hbl⟩ := cur_in h
  obtain ⟨W1, hW1⟩ : ∃ W1, W1 = (w.alloc (.cells #[.int .i64 0, .slice none 0 0] 31)).alloc (.cells #[.int .i64 n0, .slice none 0 0] 31) := ⟨_, rfl⟩
  have kR : W1.heap[w.heap.size]? = some (.cells #[.int .i64 0, .slice none 0 0] 31 (0, 0)) := by subst hW1; rw [at_old (by simp), at_new rfl]
  have kO : W1.heap[w.heap.size + 1]? = some (.cells #[.int .i64 n0, .slice none 0 0] 31 (0, 0)) := by subst hW1; exact at_new (by simp)
  have hC : Cur W1 g a b off cap c := by subst hW1; exact cur_alloc (cur_alloc h _) _
  have hO : Only g w W1 := by subst hW1; exact only_alloc (only_alloc (Only.refl _ _) _) _
  obtain ⟨B, hB⟩ : ∃ B, B = w.heap.size + 1 + 1 := ⟨_, rfl⟩
  have zB : B ≤ W1.heap.size := by have := blk_lt kO; omega
  have hgB : g < B := by omega
  have hbW := hbl
  have hBw : w.heap.size + 1 < B ∧ w.heap.size ≤ B := by omega
  have HB : Hid (B = w.heap.size + 1 + 1) := hB
  clear h hbl hB
  go_enter Try.func80, Try.ntmps80
  go_wp2_with (go_at_call 81; rw [← hW1]; clear hW1; refine (below_any _ _ _ _ _ _ 6 _ hC (by omega) (by omega)).mono ?_; rintro e w1 ⟨x, rfl, x0, x1, hC1, hO1⟩; replace hO := only_trans hO hO1; replace kR := only_at hO1 kR (by omega); replace kO := only_at hO1 kO (by omega); replace zB := Nat.le_trans zB hO1.size; replace hC := hC1; clear hC1 hO1)
  obtain ⟨N, hN⟩ := Int.eq_ofNat_of_zero_le x0
  have hN6 : N < 6 := by omega
  clear x0 x1
  subst hN
  go_loopw [6] (fun u wr => ∃ (i : Nat) (v : Value) (Q : List Rm), i ≤ N ∧ u = .int .i64 i ∧ Only g w wr ∧ Cur wr g a b off cap c ∧ wr.heap[w.heap.size]? = some (.cells #[.int .i64 0, .slice none 0 0] 31 (0, 0)) ∧ wr.heap[w.heap.size + 1]? = some (.cells #[.int .i64 n0, v] 31 (0, 0)) ∧ OR wr B v Q ∧ B ≤ wr.heap.size ∧ Q.length + i ≤ 6) (fun u _ => (intOf u).toNat)
  case atStart => exact ⟨N, .slice none 0 0, [], Nat.le_refl _, rfl, hO, hC, kR, kO, OR.nil _ _, zB, by simp; omega⟩
  case round =>
    clear hO hC kR kO zB
    obtain ⟨i, v, Q, hi, rfl, hO, hC, kR, kO, orr, hBs, hl⟩ := hrel
    by_cases hlt : 0 < i
    · have hnz : (i : Int) > 0 := by omega
      go_wp2
      refine wp_region_held_drew (S := fun _ => True) (by kernel_rfl) trivial (fun hHeld => ?_)
      refine Hn.take (i := 0) (d := some 15) (v := .pointer (some ⟨w.heap.size + 1, 1, none⟩)) rfl (by kernel_rfl) (by kernel_rfl) (by kernel_rfl) (by kernel_rfl) (fun _ _ _ h => h) (Or.inl ⟨by rfl, by intro w hSw; go_simp⟩) hHeld ?_
      simp only [Act.put, List.setIfInBounds_toArray, List.set_cons_zero, List.set_cons_succ]
      refine Hn.take (i := 2) (d := some 17) (v := .pointer (some ⟨g, 0, none⟩)) rfl (by kernel_rfl) (by kernel_rfl) (by kernel_rfl) (by kernel_rfl) (fun _ _ _ h => h) (Or.inl ⟨by rfl, by intro w hSw; go_simp⟩) hHeld ?_
      simp only [Act.put, List.setIfInBounds_toArray, List.set_cons_zero, List.set_cons_succ]
      refine Hn.take (i := 3) (d := some 18) (v := .int .i64 n0) rfl (by kernel_rfl) (by kernel_rfl) (by kernel_rfl) (by kernel_rfl) (fun _ _ _ h => h) (Or.inl ⟨by rfl, by intro w hSw; go_simp⟩) hHeld ?_
      simp only [Act.put, List.setIfInBounds_toArray, List.set_cons_zero, List.set_cons_succ]
      have or0 : OR wr.drew B v Q := orr.below ((Below.refl _ _).drew)
      have kO0 : wr.drew.heap[w.heap.size + 1]? = some (.cells #[.int .i64 n0, v] 31 (0, 0)) := kO
      have kR0 : wr.drew.heap[w.heap.size]? = some (.cells #[.int .i64 0, .slice none 0 0] 31 (0, 0)) := kR
      have hC0 : Cur wr.drew g a b off cap c := ⟨hC.blk, hC.rd.below ((Below.refl _ _).drew), hC.ne⟩
      have hO0 : Only g w wr.drew := only_trans hO ⟨rfl, rfl, rfl, Nat.le_refl _, fun _ _ _ => rfl⟩
      have sW : wr.drew.heap.size = wr.heap.size := rfl
      generalize wr.drew = W at *
      refine wpAnyH_ready (rs := [1, 4]) (by kernel_rfl) (by simp) (Hn.readyRun (i := 1) rfl (by kernel_rfl) (some 16) (by kernel_rfl) (v := v) (w' := W) (by obtain ⟨o0, o1⟩ := two kO0; go_simp) trivial (fun hHeld => ?_) (Hn.call2 (i := 4) rfl (by rfl) 101 (.tmp 17) (.tmp 18) 70 3 (by kernel_rfl) 19 (by kernel_rfl) (.pointer (some ⟨g, 0, none⟩)) (.int .i64 n0) (by kernel_rfl) (by kernel_rfl) (fun _ => rfl) (drow_any n0 h0 hn g a b off cap c W hC0) ?_ AllReadyH.nil))
      · simp only [Act.put, List.setIfInBounds_toArray, List.set_cons_zero, List.set_cons_succ]
        refine wpAnyH_ready (rs := [4]) (by kernel_rfl) (by simp) (Hn.call2 (i := 4) rfl (by rfl) 101 (.tmp 17) (.tmp 18) 70 3 (by kernel_rfl) 19 (by kernel_rfl) (.pointer (some ⟨g, 0, none⟩)) (.int .i64 n0) (by kernel_rfl) (by kernel_rfl) (fun _ => rfl) (drow_any n0 h0 hn g a b off cap c W hC0) ?_ AllReadyH.nil)
        rintro e1 Wc ⟨da, dn, dc, l, rfl, ov, hll, hC1, hO1⟩
        replace kO0 := only_at hO1 kO0 (by omega)
        replace or0 := or0.only hO1 (by omega)
        replace kR0 := only_at hO1 kR0 (by omega)
        replace hO0 := only_trans hO0 hO1
        have sC := hO1.size
        replace hC0 := hC1
        clear hC1 hO1
        refine ⟨_, rfl, trivial, fun hHeld => ?_⟩
        simp only [Act.put, List.setIfInBounds_toArray, List.set_cons_zero, List.set_cons_succ]
        obtain ⟨⟨ra, rb, ro, rc, rl⟩, hv, hnr, hrl, hcp⟩ := ov.row (by omega)
        simp only [Rm.val, Value.slice.injEq] at hv
        obtain ⟨rfl, rfl, rfl⟩ := hv
        obtain ⟨fa, fg, fc, hv, hrd, hfb⟩ := or0.og.form (by omega)
        subst hv
        refine wpAnyH_ready (rs := [5]) (by kernel_rfl) (by simp) (Hn.call2 (i := 5) rfl (by rfl) 39 (.tmp 16) (.tmp 19) 29 56 (by kernel_rfl) 20 (by kernel_rfl) (.slice fa Q.length fc) (.agg #[.slice da rl.length dc]) (by kernel_rfl) (by kernel_rfl) (fun _ => rfl) (Rl.puto_any B fa da fg 0 fc rb ro dc Q rl Wc hrd hnr.ok (by omega) or0.og (by omega)) ?_ AllReadyH.nil)
        rintro e2 Z ⟨ua, un, uc, F, rfl, ogF, hFl, hlow, hb⟩
        have orF : OR Z B (.slice ua un uc) F := ⟨ogF, fun r hr h0 => by rcases hlow r hr with q | q | q; exact or0.low r q h0; exact absurd q h0; omega⟩
        replace kO0 := (hb.block _ (blk_lt kO0)).trans kO0
        replace kR0 := (hb.block _ (blk_lt kR0)).trans kR0
        replace hC0 := cur_below hC0 hb
        replace hO0 := only_below hO0 hb
        have sZ := hb.size
        clear hb
        obtain ⟨o0, o1⟩ := two kO0
        have fO := Vl.free kO0
        refine ⟨_, rfl, trivial, fun hHeld => ?_⟩
        simp only [Act.put, List.setIfInBounds_toArray, List.set_cons_zero, List.set_cons_succ]
        refine Hn.take (i := 6) (d := some 21) (v := .pointer (some ⟨w.heap.size + 1, 1, none⟩)) rfl (by kernel_rfl) (by kernel_rfl) (by kernel_rfl) (by kernel_rfl) (fun _ _ _ h => h) (Or.inl ⟨by rfl, by intro w hSw; go_simp⟩) hHeld ?_
        simp only [Act.put, List.setIfInBounds_toArray, List.set_cons_zero, List.set_cons_succ]
        refine wpAnyH_ready (rs := [7]) (by kernel_rfl) (by simp) (Hn.readySkip (i := 7) rfl (by kernel_rfl) none (by kernel_rfl) (w' := Z.setCell ⟨w.heap.size + 1, 1, none⟩ (.slice ua un uc)) (by go_simp) trivial (fun hHeld => ?_) AllReadyH.nil)
        simp only [Act.put, List.setIfInBounds_toArray, List.set_cons_zero, List.set_cons_succ]
        refine wpAnyH_done (by kernel_rfl) ?_ _
        have kO' : (Z.setCell ⟨w.heap.size + 1, 1, none⟩ (.slice ua un uc)).heap[w.heap.size + 1]? = some (.cells #[.int .i64 n0, .slice ua un uc] 31 (0, 0)) := Rl.two_set1 kO0
        have hC' := cur_set (x := ⟨w.heap.size + 1, 1, none⟩) (u := .slice ua un uc) hC0 (by simp only; omega) (hbW.imp id fun q => by simp only; omega)
        have hO' := only_set (x := ⟨w.heap.size + 1, 1, none⟩) (u := .slice ua un uc) hO0 (by simp only; omega)
        go_wp2
        go_roundw
        case rel => exact ⟨i - 1, _, F, by omega, by go_num <;> omega, hO', hC', (Below.heap_setCell _ _ _ _ (by simp only; omega)).trans kR0, kO', orF.set (by simp only; omega), by simpa using (by omega : B ≤ Z.heap.size), by omega⟩
        case measure => simp [intOf]; omega
      · rintro e1 Wc ⟨da, dn, dc, l, rfl, ov, hll, hC1, hO1⟩
        replace kO0 := only_at hO1 kO0 (by omega)
        replace or0 := or0.only hO1 (by omega)
        replace kR0 := only_at hO1 kR0 (by omega)
        replace hO0 := only_trans hO0 hO1
        have sC := hO1.size
        replace hC0 := hC1
        clear hC1 hO1
        refine ⟨_, rfl, trivial, fun hHeld => ?_⟩
        simp only [Act.put, List.setIfInBounds_toArray, List.set_cons_zero, List.set_cons_succ]
        refine wpAnyH_ready (rs := [1]) (by kernel_rfl) (by simp) (Hn.readyRun (i := 1) rfl (by kernel_rfl) (some 16) (by kernel_rfl) (v := v) (w' := Wc) (by obtain ⟨o0, o1⟩ := two kO0; go_simp) trivial (fun hHeld => ?_) AllReadyH.nil)
        simp only [Act.put, List.setIfInBounds_toArray, List.set_cons_zero, List.set_cons_succ]
        obtain ⟨⟨ra, rb, ro, rc, rl⟩, hv, hnr, hrl, hcp⟩ := ov.row (by omega)
        simp only [Rm.val, Value.slice.injEq] at hv
        obtain ⟨rfl, rfl, rfl⟩ := hv
        obtain ⟨fa, fg, fc, hv, hrd, hfb⟩ := or0.og.form (by omega)
        subst hv
        refine wpAnyH_ready (rs := [5]) (by kernel_rfl) (by simp) (Hn.call2 (i := 5) rfl (by rfl) 39 (.tmp 16) (.tmp 19) 29 56 (by kernel_rfl) 20 (by kernel_rfl) (.slice fa Q.length fc) (.agg #[.slice da rl.length dc]) (by kernel_rfl) (by kernel_rfl) (fun _ => rfl) (Rl.puto_any B fa da fg 0 fc rb ro dc Q rl Wc hrd hnr.ok (by omega) or0.og (by omega)) ?_ AllReadyH.nil)
        rintro e2 Z ⟨ua, un, uc, F, rfl, ogF, hFl, hlow, hb⟩
        have orF : OR Z B (.slice ua un uc) F := ⟨ogF, fun r hr h0 => by rcases hlow r hr with q | q | q; exact or0.low r q h0; exact absurd q h0; omega⟩
        replace kO0 := (hb.block _ (blk_lt kO0)).trans kO0
        replace kR0 := (hb.block _ (blk_lt kR0)).trans kR0
        replace hC0 := cur_below hC0 hb
        replace hO0 := only_below hO0 hb
        have sZ := hb.size
        clear hb
        obtain ⟨o0, o1⟩ := two kO0
        have fO := Vl.free kO0
        refine ⟨_, rfl, trivial, fun hHeld => ?_⟩
        simp only [Act.put, List.setIfInBounds_toArray, List.set_cons_zero, List.set_cons_succ]
        refine Hn.take (i := 6) (d := some 21) (v := .pointer (some ⟨w.heap.size + 1, 1, none⟩)) rfl (by kernel_rfl) (by kernel_rfl) (by kernel_rfl) (by kernel_rfl) (fun _ _ _ h => h) (Or.inl ⟨by rfl, by intro w hSw; go_simp⟩) hHeld ?_
        simp only [Act.put, List.setIfInBounds_toArray, List.set_cons_zero, List.set_cons_succ]
        refine wpAnyH_ready (rs := [7]) (by kernel_rfl) (by simp) (Hn.readySkip (i := 7) rfl (by kernel_rfl) none (by kernel_rfl) (w' := Z.setCell ⟨w.heap.size + 1, 1, none⟩ (.slice ua un uc)) (by go_simp) trivial (fun hHeld => ?_) AllReadyH.nil)
        simp only [Act.put, List.setIfInBounds_toArray, List.set_cons_zero, List.set_cons_succ]
        refine wpAnyH_done (by kernel_rfl) ?_ _
        have kO' : (Z.setCell ⟨w.heap.size + 1, 1, none⟩ (.slice ua un uc)).heap[w.heap.size + 1]? = some (.cells #[.int .i64 n0, .slice ua un uc] 31 (0, 0)) := Rl.two_set1 kO0
        have hC' := cur_set (x := ⟨w.heap.size + 1, 1, none⟩) (u := .slice ua un uc) hC0 (by simp only; omega) (hbW.imp id fun q => by simp only; omega)
        have hO' := only_set (x := ⟨w.heap.size + 1, 1, none⟩) (u := .slice ua un uc) hO0 (by simp only; omega)
        go_wp2
        go_roundw
        case rel => exact ⟨i - 1, _, F, by omega, by go_num <;> omega, hO', hC', (Below.heap_setCell _ _ _ _ (by simp only; omega)).trans kR0, kO', orF.set (by simp only; omega), by simpa using (by omega : B ≤ Z.heap.size), by omega⟩
        case measure => simp [intOf]; omega
    · have he : i = 0 := by omega
      subst he
      obtain ⟨va, vn, vc, hv⟩ := orr.og.slice
      subst hv
      obtain ⟨o0, o1⟩ := two kO
      obtain ⟨r0, r1⟩ := two kR
      have fR := Vl.free kR
      go_wp2
      refine bodyPost_ret (v := .agg #[.int .i64 n0, .slice va vn vc]) (by simp [results, Try.results80, go_sem, r0, r1]) rfl ⟨n0, va, vn, vc, Q, rfl, ?_, by omega, ?_, ?_⟩
      · refine OR.mono (B := B) ?_ (by omega)
        repeat (first | with_reducible exact orr | refine OR.set ?_ (by simp only; omega))
      · repeat (first | with_reducible exact hC | refine cur_set ?_ (by simp only; omega) (hbW.imp id fun q => by simp only; omega))
      · repeat (first | with_reducible exact hO | refine only_set ?_ (by simp only; omega))

end Go.Proofs.Ytfiebakgphcnbaa.Dr
