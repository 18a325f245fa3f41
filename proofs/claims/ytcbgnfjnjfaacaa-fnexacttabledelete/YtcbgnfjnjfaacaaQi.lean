/-
  Contracts laid together (Cr, Cs, Ct, Cu).
-/
import Derived.Test.YtcbgnfjnjfaacaaQh
import Derived.Maps.AppendAt
namespace Go.Proofs.Ytcbgnfjnjfaacaa.Cp
set_option maxRecDepth 8000
set_option linter.unusedSimpArgs false
set_option linter.unusedVariables false
open Go Go.RowKit
open Num Pl Ea Em

theorem owns_empty {w : World} {e : Nat} {t : TypeId} {sz : Nat} (hE : w.heap[e]? = some (.cells #[] t (0, 0))) : w.ownsRow e t sz (.slice (some ⟨e, 0, none⟩) 0 0) 0 [] := by
  refine ⟨by simp, .inr ⟨e, 0, #[], rfl, Nat.le_refl _, hE, ?_⟩⟩
  simp
theorem app_at {w : World} {e : Nat} (ty : TypeId) {A : Option Addr} {b off c : Nat} {l : List Int} (hE : w.heap[e]? = some (.cells #[] 3 (0, 0))) (hr : Hr.Rd w A b off l) :
    ∃ g cap w', (Builtin.append_ #[23, 23] ty #[.slice (some ⟨e, 0, none⟩) 0 0, .slice A l.length c]).run Try.prog w = .ok (.slice (some ⟨g, 0, none⟩) l.length cap) w' ∧ Hr.Wt w' (some ⟨g, 0, none⟩) g l ∧ (g = e ∨ g = w.heap.size) ∧ w.grownBy w' (some e) ∧ g < w'.heap.size := by
  have O := owns_empty (sz := 1) hE
  have hs := hr.size
  cases A with
  | none =>
    have hl : l = [] := by
      rcases Nat.eq_zero_or_pos l.length with h0 | h0
      · exact List.eq_nil_of_length_eq_zero h0
      · exact absurd (hr.head h0) (by simp)
    subst hl
    exact ⟨e, 0, w, none23 w ty e 0 0 c (Nat.le_refl _), Hr.Wt.nil _ _ _, .inl rfl, ⟨rfl, rfl, rfl, Nat.le_refl _, fun _ _ _ => rfl⟩, blk_lt hE⟩
  | some ad =>
    obtain ⟨i0, hi, hz0, hz1, hz2⟩ := info_parts Hr.info3
    obtain ⟨v', w', r, h1, h2, h3, h4⟩ := run_append_own_at (P := Try.prog) (w := w) e 23 ty 3 i0 (.int .i64 0) 1 8 Try.underlying23 hi hz0 hz1 hz2 rfl (by decide) _ 0 [] O ad l.length c (l.map (Value.int .i64)) (by simp) (Ht.news_of hr) (by intro u hu; simp at hu; obtain ⟨q, _, rfl⟩ := hu; rfl) (by unfold maxLen; omega) (by omega) (Nat.le_of_lt (blk_lt hE))
    have hN : Ht.HasN w' e v' l := ⟨by simpa using h1, fun e1 => by have := (h3.1 e1).1; simp at this⟩
    obtain ⟨g, cap, rfl, hg, ho, _⟩ := Yh.own_has hN hs
    refine ⟨g, cap, w', r, ho.wt, ?_, h2, ho.lt⟩
    simpa [Value.ownBlock] using h4
theorem grown_blk {w w' : World} {e x : Nat} {o : Obj} (h : w.grownBy w' (some e)) (k : w.heap[x]? = some o) (hx : x ≠ e) : w'.heap[x]? = some o := (h.block x (blk_lt k) (by simpa using hx)).trans k
theorem grown_wt {w w' : World} {e g : Nat} {a : Option Addr} {l : List Int} (h : w.grownBy w' (some e)) (m : Hr.Wt w a g l) (hx : g ≠ e) : Hr.Wt w' a g l := wt_keep m fun h0 => h.block g (by rcases Hr.wt_lt m with h1 | h1 <;> omega) (by simpa using hx)
theorem grown_bel {w0 w w' : World} {e : Nat} (hb : Below w0.heap.size w0 w) (h : w.grownBy w' (some e)) (he : w0.heap.size ≤ e) : Below w0.heap.size w0 w' := hb.grown h hb.size (fun k hk => by cases hk; exact he)

/-- A copy of a match is handed back. -/
def ResC (w : World) (V M : List Int) (x : Ending) (w' : World) : Prop := ∃ gV gM cV cM, x = .returned (.agg #[.slice (some ⟨gV, 0, none⟩) V.length cV, .slice (some ⟨gM, 0, none⟩) M.length cM]) ∧ Hr.Wt w' (some ⟨gV, 0, none⟩) gV V ∧ Hr.Wt w' (some ⟨gM, 0, none⟩) gM M ∧ gV ≠ gM ∧ w.heap.size ≤ gV ∧ w.heap.size ≤ gM ∧ gV < w'.heap.size ∧ gM < w'.heap.size ∧ Below w.heap.size w w'

set_option maxHeartbeats 8000000 in
theorem copyM (aV aM : Option Addr) (bV oV cV bM oM cM : Nat) (V M : List Int) (w : World) (rV : Hr.Rd w aV bV oV V) (rM : Hr.Rd w aM bM oM M) :
    Calls Try.prog 76 #[.agg #[.slice aV V.length cV, .slice aM M.length cM]] w (ResC w V M) := by
  obtain ⟨W1, hW1⟩ : ∃ W1, W1 = (w.alloc (.cells #[.slice aV V.length cV, .slice aM M.length cM] 25)).alloc (.cells #[.slice none 0 0, .slice none 0 0] 25) := ⟨_, rfl⟩
  have B1 : Below w.heap.size w W1 := by subst hW1; exact Rw.next (below_alloc1 _ _) (below_alloc1 _ _)
  have k0 : W1.heap[w.heap.size]? = some (.cells #[.slice aV V.length cV, .slice aM M.length cM] 25 (0, 0)) := by subst hW1; rw [at_old (by simp), at_new rfl]
  have k1 : W1.heap[w.heap.size + 1]? = some (.cells #[.slice none 0 0, .slice none 0 0] 25 (0, 0)) := by subst hW1; exact at_new (by simp)
  have RV : Hid (Hr.Rd w aV bV oV V) := rV
  have RM : Hid (Hr.Rd w aM bM oM M) := rM
  clear rV rM
  go_enter Try.func76, Try.ntmps76
  go_wp2
  rw [← hW1]
  clear hW1
  have z1 := blk_lt k1
  refine wp_region_held_drew (S := (fun w' => w'.heap[w.heap.size]? = some (.cells #[.slice aV V.length cV, .slice aM M.length cM] 25 (0, 0)))) (by kernel_rfl) k0 (fun hHeld => ?_)
  refine Pq.take (i := 1) (d := some 4) (v := .pointer (some ⟨w.heap.size, 0, none⟩)) rfl (by kernel_rfl) (by kernel_rfl) (by kernel_rfl) (by kernel_rfl) (fun _ _ _ h => h) (Or.inl ⟨by rfl, by intro w hSw; go_simp⟩) hHeld ?_
  simp only [Act.put, List.setIfInBounds_toArray, List.set_cons_zero, List.set_cons_succ]
  refine Pq.take (i := 2) (d := some 5) (v := .slice aV V.length cV) rfl (by kernel_rfl) (by kernel_rfl) (by kernel_rfl) (by kernel_rfl) (fun _ _ _ h => h) (Or.inl ⟨by rfl, by intro w hSw; obtain ⟨s0, s1⟩ := Pm.two hSw; go_simp⟩) hHeld ?_
  simp only [Act.put, List.setIfInBounds_toArray, List.set_cons_zero, List.set_cons_succ]
  refine Pq.take (i := 5) (d := some 8) (v := .pointer (some ⟨w.heap.size, 1, none⟩)) rfl (by kernel_rfl) (by kernel_rfl) (by kernel_rfl) (by kernel_rfl) (fun _ _ _ h => h) (Or.inl ⟨by rfl, by intro w hSw; go_simp⟩) hHeld ?_
  simp only [Act.put, List.setIfInBounds_toArray, List.set_cons_zero, List.set_cons_succ]
  refine Pq.take (i := 6) (d := some 9) (v := .slice aM M.length cM) rfl (by kernel_rfl) (by kernel_rfl) (by kernel_rfl) (by kernel_rfl) (fun _ _ _ h => h) (Or.inl ⟨by rfl, by intro w hSw; obtain ⟨s0, s1⟩ := Pm.two hSw; go_simp⟩) hHeld ?_
  simp only [Act.put, List.setIfInBounds_toArray, List.set_cons_zero, List.set_cons_succ]
  replace B1 := Rw.next B1 ((Below.refl _ _).drew)
  replace k0 : W1.drew.heap[w.heap.size]? = some (.cells #[.slice aV V.length cV, .slice aM M.length cM] 25 (0, 0)) := k0
  replace k1 : W1.drew.heap[w.heap.size + 1]? = some (.cells #[.slice none 0 0, .slice none 0 0] 25 (0, 0)) := k1
  replace z1 : w.heap.size + 1 < W1.drew.heap.size := z1
  generalize W1.drew = W at *
  refine wpAnyH_ready (rs := [0, 4]) (by kernel_rfl) (by simp) (Yh.readyRun (i := 0) rfl (by kernel_rfl) (some 3) (by kernel_rfl) (v := .slice (some ⟨W.heap.size, 0, none⟩) 0 0) (w' := W.alloc (.cells #[] 3)) (exec_empty rfl) ((at_old (blk_lt k0)).trans k0) (fun hHeld => ?_) (Yh.readyRun (i := 4) rfl (by kernel_rfl) (some 7) (by kernel_rfl) (v := .slice (some ⟨W.heap.size, 0, none⟩) 0 0) (w' := W.alloc (.cells #[] 3)) (exec_empty rfl) ((at_old (blk_lt k0)).trans k0) (fun hHeld => ?_) AllReadyH.nil))
  · simp only [Act.put, List.setIfInBounds_toArray, List.set_cons_zero, List.set_cons_succ]
    obtain ⟨Wa, hWa⟩ : ∃ Wa, Wa = W.alloc (.cells #[] 3) := ⟨_, rfl⟩
    rw [← hWa] at hHeld ⊢
    have eV : Wa.heap[W.heap.size]? = some (.cells #[] 3 (0, 0)) := by subst hWa; exact at_new rfl
    have bWa : Below W.heap.size W Wa := by subst hWa; exact below_alloc1 _ _
    have zWa : Wa.heap.size = W.heap.size + 1 := by subst hWa; simp
    replace k0 := (bWa.block _ (blk_lt k0)).trans k0
    replace k1 := (bWa.block _ (blk_lt k1)).trans k1
    replace B1 := Rw.next B1 bWa
    obtain ⟨gV, c1, w1, hr1, mV, lV, g1, ltV⟩ := app_at 23 (c := cV) eV (RV.out.below B1)
    refine wpAnyH_ready (rs := [3, 4]) (by kernel_rfl) (by simp) (Yh.readyRun (i := 3) rfl (by kernel_rfl) (some 6) (by kernel_rfl) (exec_app (.tmp 3) (.tmp 5) rfl (by kernel_rfl) (by kernel_rfl) hr1) (grown_blk g1 k0 (by omega)) (fun hHeld => ?_) (Yh.readyRun (i := 4) rfl (by kernel_rfl) (some 7) (by kernel_rfl) (v := .slice (some ⟨Wa.heap.size, 0, none⟩) 0 0) (w' := Wa.alloc (.cells #[] 3)) (exec_empty rfl) ((at_old (blk_lt k0)).trans k0) (fun hHeld => ?_) AllReadyH.nil))
    · simp only [Act.put, List.setIfInBounds_toArray, List.set_cons_zero, List.set_cons_succ]
      replace k0 := grown_blk g1 k0 (by omega)
      replace k1 := grown_blk g1 k1 (by omega)
      replace B1 := grown_bel B1 g1 (by omega)
      have sg1 := g1.size
      refine wpAnyH_ready (rs := [4]) (by kernel_rfl) (by simp) (Yh.readyRun (i := 4) rfl (by kernel_rfl) (some 7) (by kernel_rfl) (v := .slice (some ⟨w1.heap.size, 0, none⟩) 0 0) (w' := w1.alloc (.cells #[] 3)) (exec_empty rfl) ((at_old (blk_lt k0)).trans k0) (fun hHeld => ?_) AllReadyH.nil)
      simp only [Act.put, List.setIfInBounds_toArray, List.set_cons_zero, List.set_cons_succ]
      obtain ⟨w2, hw2⟩ : ∃ w2, w2 = w1.alloc (.cells #[] 3) := ⟨_, rfl⟩
      rw [← hw2] at hHeld ⊢
      have eM : w2.heap[w1.heap.size]? = some (.cells #[] 3 (0, 0)) := by subst hw2; exact at_new rfl
      have bw2 : Below w1.heap.size w1 w2 := by subst hw2; exact below_alloc1 _ _
      have zw2 : w2.heap.size = w1.heap.size + 1 := by subst hw2; simp
      replace k0 := (bw2.block _ (blk_lt k0)).trans k0
      replace k1 := (bw2.block _ (blk_lt k1)).trans k1
      replace B1 := Rw.next B1 bw2
      replace mV := mV.below bw2
      obtain ⟨gM, c2, w3, hr2, mM, lM, g2, ltM⟩ := app_at 23 (c := cM) eM (RM.out.below B1)
      refine wpAnyH_ready (rs := [7]) (by kernel_rfl) (by simp) (Yh.readyRun (i := 7) rfl (by kernel_rfl) (some 10) (by kernel_rfl) (exec_app (.tmp 7) (.tmp 9) rfl (by kernel_rfl) (by kernel_rfl) hr2) (grown_blk g2 k0 (by omega)) (fun hHeld => ?_) AllReadyH.nil)
      simp only [Act.put, List.setIfInBounds_toArray, List.set_cons_zero, List.set_cons_succ]
      replace k0 := grown_blk g2 k0 (by omega)
      replace k1 := grown_blk g2 k1 (by omega)
      replace B1 := grown_bel B1 g2 (by omega)
      have sg2 := g2.size
      have nVM : gV ≠ gM := by omega
      have dV : gV ≠ w.heap.size + 1 := by omega
      have dM : gM ≠ w.heap.size + 1 := by omega
      replace mV := grown_wt g2 mV (by omega)
      have tV := ltV
      have tM : gM < w3.heap.size := ltM
      refine Pq.take (i := 8) (d := some 11) (v := .agg #[.slice (some ⟨gV, 0, none⟩) V.length c1, .slice (some ⟨gM, 0, none⟩) M.length c2]) rfl (by kernel_rfl) (by kernel_rfl) (by kernel_rfl) (by kernel_rfl) (fun _ _ _ h => h) (Or.inl ⟨by rfl, by intro w hSw; go_simp⟩) hHeld ?_
      simp only [Act.put, List.setIfInBounds_toArray, List.set_cons_zero, List.set_cons_succ]
      obtain ⟨q0, q1⟩ := Pm.two k1
      have f1 := Bl.free k1
      refine wpAnyH_ready (rs := [9]) (by kernel_rfl) (by simp) (Yh.readySkip (i := 9) rfl (by kernel_rfl) none (by kernel_rfl) (w' := (w3.setCell ⟨w.heap.size + 1, 0, none⟩ (.slice (some ⟨gV, 0, none⟩) V.length c1)).setCell ⟨w.heap.size + 1, 1, none⟩ (.slice (some ⟨gM, 0, none⟩) M.length c2)) (by go_simp) (blk_other (blk_other k0 (by omega)) (by omega)) (fun hHeld => ?_) AllReadyH.nil)
      simp only [Act.put, List.setIfInBounds_toArray, List.set_cons_zero, List.set_cons_succ]
      refine wpAnyH_done (by kernel_rfl) ?_ _
      go_wp2
      refine bodyPost_ret (v := .agg #[.slice (some ⟨gV, 0, none⟩) V.length c1, .slice (some ⟨gM, 0, none⟩) M.length c2]) (by simp [results, Try.results76, go_sem, q0, q1]) rfl ⟨gV, gM, c1, c2, rfl, wt_set (wt_set mV (by omega)) (by omega), wt_set (wt_set mM (by omega)) (by omega), nVM, by omega, by omega, by simp; omega, by simp; omega, Pm.bset (Pm.bset B1 (by omega)) (by omega)⟩
    · simp only [Act.put, List.setIfInBounds_toArray, List.set_cons_zero, List.set_cons_succ]
      obtain ⟨Wb, hWb⟩ : ∃ Wb, Wb = Wa.alloc (.cells #[] 3) := ⟨_, rfl⟩
      rw [← hWb] at hHeld ⊢
      have eM : Wb.heap[Wa.heap.size]? = some (.cells #[] 3 (0, 0)) := by subst hWb; exact at_new rfl
      have bWb : Below Wa.heap.size Wa Wb := by subst hWb; exact below_alloc1 _ _
      have zWb : Wb.heap.size = Wa.heap.size + 1 := by subst hWb; simp
      replace k0 := (bWb.block _ (blk_lt k0)).trans k0
      replace k1 := (bWb.block _ (blk_lt k1)).trans k1
      replace B1 := Rw.next B1 bWb
      replace eV := (bWb.block _ (blk_lt eV)).trans eV
      clear hr1 mV lV g1 ltV w1
      obtain ⟨gV, c1, w1, hr1, mV, lV, g1, ltV⟩ := app_at 23 (c := cV) eV (RV.out.below B1)
      refine wpAnyH_ready (rs := [3]) (by kernel_rfl) (by simp) (Yh.readyRun (i := 3) rfl (by kernel_rfl) (some 6) (by kernel_rfl) (exec_app (.tmp 3) (.tmp 5) rfl (by kernel_rfl) (by kernel_rfl) hr1) (grown_blk g1 k0 (by omega)) (fun hHeld => ?_) AllReadyH.nil)
      simp only [Act.put, List.setIfInBounds_toArray, List.set_cons_zero, List.set_cons_succ]
      replace k0 := grown_blk g1 k0 (by omega)
      replace k1 := grown_blk g1 k1 (by omega)
      replace B1 := grown_bel B1 g1 (by omega)
      have sg1 := g1.size
      replace eM := grown_blk g1 eM (by omega)
      obtain ⟨gM, c2, w3, hr2, mM, lM, g2, ltM⟩ := app_at 23 (c := cM) eM (RM.out.below B1)
      refine wpAnyH_ready (rs := [7]) (by kernel_rfl) (by simp) (Yh.readyRun (i := 7) rfl (by kernel_rfl) (some 10) (by kernel_rfl) (exec_app (.tmp 7) (.tmp 9) rfl (by kernel_rfl) (by kernel_rfl) hr2) (grown_blk g2 k0 (by omega)) (fun hHeld => ?_) AllReadyH.nil)
      simp only [Act.put, List.setIfInBounds_toArray, List.set_cons_zero, List.set_cons_succ]
      replace k0 := grown_blk g2 k0 (by omega)
      replace k1 := grown_blk g2 k1 (by omega)
      replace B1 := grown_bel B1 g2 (by omega)
      have sg2 := g2.size
      have nVM : gV ≠ gM := by omega
      have dV : gV ≠ w.heap.size + 1 := by omega
      have dM : gM ≠ w.heap.size + 1 := by omega
      replace mV := grown_wt g2 mV (by omega)
      have tV := ltV
      have tM : gM < w3.heap.size := ltM
      refine Pq.take (i := 8) (d := some 11) (v := .agg #[.slice (some ⟨gV, 0, none⟩) V.length c1, .slice (some ⟨gM, 0, none⟩) M.length c2]) rfl (by kernel_rfl) (by kernel_rfl) (by kernel_rfl) (by kernel_rfl) (fun _ _ _ h => h) (Or.inl ⟨by rfl, by intro w hSw; go_simp⟩) hHeld ?_
      simp only [Act.put, List.setIfInBounds_toArray, List.set_cons_zero, List.set_cons_succ]
      obtain ⟨q0, q1⟩ := Pm.two k1
      have f1 := Bl.free k1
      refine wpAnyH_ready (rs := [9]) (by kernel_rfl) (by simp) (Yh.readySkip (i := 9) rfl (by kernel_rfl) none (by kernel_rfl) (w' := (w3.setCell ⟨w.heap.size + 1, 0, none⟩ (.slice (some ⟨gV, 0, none⟩) V.length c1)).setCell ⟨w.heap.size + 1, 1, none⟩ (.slice (some ⟨gM, 0, none⟩) M.length c2)) (by go_simp) (blk_other (blk_other k0 (by omega)) (by omega)) (fun hHeld => ?_) AllReadyH.nil)
      simp only [Act.put, List.setIfInBounds_toArray, List.set_cons_zero, List.set_cons_succ]
      refine wpAnyH_done (by kernel_rfl) ?_ _
      go_wp2
      refine bodyPost_ret (v := .agg #[.slice (some ⟨gV, 0, none⟩) V.length c1, .slice (some ⟨gM, 0, none⟩) M.length c2]) (by simp [results, Try.results76, go_sem, q0, q1]) rfl ⟨gV, gM, c1, c2, rfl, wt_set (wt_set mV (by omega)) (by omega), wt_set (wt_set mM (by omega)) (by omega), nVM, by omega, by omega, by simp; omega, by simp; omega, Pm.bset (Pm.bset B1 (by omega)) (by omega)⟩
  · simp only [Act.put, List.setIfInBounds_toArray, List.set_cons_zero, List.set_cons_succ]
    obtain ⟨Wa, hWa⟩ : ∃ Wa, Wa = W.alloc (.cells #[] 3) := ⟨_, rfl⟩
    rw [← hWa] at hHeld ⊢
    have eM : Wa.heap[W.heap.size]? = some (.cells #[] 3 (0, 0)) := by subst hWa; exact at_new rfl
    have bWa : Below W.heap.size W Wa := by subst hWa; exact below_alloc1 _ _
    have zWa : Wa.heap.size = W.heap.size + 1 := by subst hWa; simp
    replace k0 := (bWa.block _ (blk_lt k0)).trans k0
    replace k1 := (bWa.block _ (blk_lt k1)).trans k1
    replace B1 := Rw.next B1 bWa
    refine wpAnyH_ready (rs := [0]) (by kernel_rfl) (by simp) (Yh.readyRun (i := 0) rfl (by kernel_rfl) (some 3) (by kernel_rfl) (v := .slice (some ⟨Wa.heap.size, 0, none⟩) 0 0) (w' := Wa.alloc (.cells #[] 3)) (exec_empty rfl) ((at_old (blk_lt k0)).trans k0) (fun hHeld => ?_) AllReadyH.nil)
    simp only [Act.put, List.setIfInBounds_toArray, List.set_cons_zero, List.set_cons_succ]
    obtain ⟨Wb, hWb⟩ : ∃ Wb, Wb = Wa.alloc (.cells #[] 3) := ⟨_, rfl⟩
    rw [← hWb] at hHeld ⊢
    have eV : Wb.heap[Wa.heap.size]? = some (.cells #[] 3 (0, 0)) := by subst hWb; exact at_new rfl
    have bWb : Below Wa.heap.size Wa Wb := by subst hWb; exact below_alloc1 _ _
    have zWb : Wb.heap.size = Wa.heap.size + 1 := by subst hWb; simp
    replace k0 := (bWb.block _ (blk_lt k0)).trans k0
    replace k1 := (bWb.block _ (blk_lt k1)).trans k1
    replace B1 := Rw.next B1 bWb
    replace eM := (bWb.block _ (blk_lt eM)).trans eM
    obtain ⟨gV, c1, w1, hr1, mV, lV, g1, ltV⟩ := app_at 23 (c := cV) eV (RV.out.below B1)
    refine wpAnyH_ready (rs := [3]) (by kernel_rfl) (by simp) (Yh.readyRun (i := 3) rfl (by kernel_rfl) (some 6) (by kernel_rfl) (exec_app (.tmp 3) (.tmp 5) rfl (by kernel_rfl) (by kernel_rfl) hr1) (grown_blk g1 k0 (by omega)) (fun hHeld => ?_) AllReadyH.nil)
    simp only [Act.put, List.setIfInBounds_toArray, List.set_cons_zero, List.set_cons_succ]
    replace k0 := grown_blk g1 k0 (by omega)
    replace k1 := grown_blk g1 k1 (by omega)
    replace B1 := grown_bel B1 g1 (by omega)
    have sg1 := g1.size
    replace eM := grown_blk g1 eM (by omega)
    obtain ⟨gM, c2, w3, hr2, mM, lM, g2, ltM⟩ := app_at 23 (c := cM) eM (RM.out.below B1)
    refine wpAnyH_ready (rs := [7]) (by kernel_rfl) (by simp) (Yh.readyRun (i := 7) rfl (by kernel_rfl) (some 10) (by kernel_rfl) (exec_app (.tmp 7) (.tmp 9) rfl (by kernel_rfl) (by kernel_rfl) hr2) (grown_blk g2 k0 (by omega)) (fun hHeld => ?_) AllReadyH.nil)
    simp only [Act.put, List.setIfInBounds_toArray, List.set_cons_zero, List.set_cons_succ]
    replace k0 := grown_blk g2 k0 (by omega)
    replace k1 := grown_blk g2 k1 (by omega)
    replace B1 := grown_bel B1 g2 (by omega)
    have sg2 := g2.size
    have nVM : gV ≠ gM := by omega
    have dV : gV ≠ w.heap.size + 1 := by omega
    have dM : gM ≠ w.heap.size + 1 := by omega
    replace mV := grown_wt g2 mV (by omega)
    have tV := ltV
    have tM : gM < w3.heap.size := ltM
    refine Pq.take (i := 8) (d := some 11) (v := .agg #[.slice (some ⟨gV, 0, none⟩) V.length c1, .slice (some ⟨gM, 0, none⟩) M.length c2]) rfl (by kernel_rfl) (by kernel_rfl) (by kernel_rfl) (by kernel_rfl) (fun _ _ _ h => h) (Or.inl ⟨by rfl, by intro w hSw; go_simp⟩) hHeld ?_
    simp only [Act.put, List.setIfInBounds_toArray, List.set_cons_zero, List.set_cons_succ]
    obtain ⟨q0, q1⟩ := Pm.two k1
    have f1 := Bl.free k1
    refine wpAnyH_ready (rs := [9]) (by kernel_rfl) (by simp) (Yh.readySkip (i := 9) rfl (by kernel_rfl) none (by kernel_rfl) (w' := (w3.setCell ⟨w.heap.size + 1, 0, none⟩ (.slice (some ⟨gV, 0, none⟩) V.length c1)).setCell ⟨w.heap.size + 1, 1, none⟩ (.slice (some ⟨gM, 0, none⟩) M.length c2)) (by go_simp) (blk_other (blk_other k0 (by omega)) (by omega)) (fun hHeld => ?_) AllReadyH.nil)
    simp only [Act.put, List.setIfInBounds_toArray, List.set_cons_zero, List.set_cons_succ]
    refine wpAnyH_done (by kernel_rfl) ?_ _
    go_wp2
    refine bodyPost_ret (v := .agg #[.slice (some ⟨gV, 0, none⟩) V.length c1, .slice (some ⟨gM, 0, none⟩) M.length c2]) (by simp [results, Try.results76, go_sem, q0, q1]) rfl ⟨gV, gM, c1, c2, rfl, wt_set (wt_set mV (by omega)) (by omega), wt_set (wt_set mM (by omega)) (by omega), nVM, by omega, by omega, by simp; omega, by simp; omega, Pm.bset (Pm.bset B1 (by omega)) (by omega)⟩

end Go.Proofs.Ytcbgnfjnjfaacaa.Cp
namespace Go.Proofs.Ytcbgnfjnjfaacaa.Cp
set_option maxRecDepth 8000
set_option linter.unusedSimpArgs false
set_option linter.unusedVariables false
open Go Go.RowKit
open Num Pl Ea Em

/-- The actions are copied behind the match. -/
theorem stepA {w wa : World} {ep pr hh : Int} {V M : List Int} {A : List Yb.A3} {aV aM aA : Option Addr} {cV cM cA bA oA gV gM c1 c2 : Nat} (rA : Yb.Rd w aA bA oA A) (B1 : Below w.heap.size w wa) (l1 : w.heap.size + 1 < wa.heap.size)
    (k0 : wa.heap[w.heap.size]? = some (.cells #[.int .i64 ep, .int .i64 pr, .slice aV V.length cV, .slice aM M.length cM, .slice aA A.length cA, .int .i64 hh] 41 (0, 0))) (k1 : wa.heap[w.heap.size + 1]? = some (.cells #[.int .i64 0, .int .i64 0, .slice none 0 0, .slice none 0 0, .slice none 0 0, .int .i64 0] 41 (0, 0)))
    (mV : Hr.Wt wa (some ⟨gV, 0, none⟩) gV V) (mM : Hr.Wt wa (some ⟨gM, 0, none⟩) gM M) (lV : w.heap.size + 1 < gV) (lM : w.heap.size + 1 < gM) :
    ∃ gA cA1 w3, (Builtin.append_ #[39, 39] 39 #[.slice (some ⟨wa.heap.size, 0, none⟩) 0 0, .slice aA A.length cA]).run Try.prog (((wa.setCell ⟨w.heap.size, 2, none⟩ (.slice (some ⟨gV, 0, none⟩) V.length c1)).setCell ⟨w.heap.size, 3, none⟩ (.slice (some ⟨gM, 0, none⟩) M.length c2)).alloc (.cells #[] 147)) = .ok (.slice (some ⟨gA, 0, none⟩) A.length cA1) w3 ∧
      w3.heap[w.heap.size]? = some (.cells #[.int .i64 ep, .int .i64 pr, .slice (some ⟨gV, 0, none⟩) V.length c1, .slice (some ⟨gM, 0, none⟩) M.length c2, .slice aA A.length cA, .int .i64 hh] 41 (0, 0)) ∧ w3.heap[w.heap.size + 1]? = some (.cells #[.int .i64 0, .int .i64 0, .slice none 0 0, .slice none 0 0, .slice none 0 0, .int .i64 0] 41 (0, 0)) ∧ Hr.Wt w3 (some ⟨gV, 0, none⟩) gV V ∧ Hr.Wt w3 (some ⟨gM, 0, none⟩) gM M ∧ WtA w3 (some ⟨gA, 0, none⟩) gA A ∧ wa.heap.size ≤ gA ∧ Below w.heap.size w w3 := by
  obtain ⟨W2, hW2⟩ : ∃ W2, W2 = (wa.setCell ⟨w.heap.size, 2, none⟩ (.slice (some ⟨gV, 0, none⟩) V.length c1)).setCell ⟨w.heap.size, 3, none⟩ (.slice (some ⟨gM, 0, none⟩) M.length c2) := ⟨_, rfl⟩
  have w2s : W2.heap.size = wa.heap.size := by subst hW2; simp
  have B2 : Below w.heap.size w W2 := by subst hW2; exact Pm.bset (Pm.bset B1 (Nat.le_refl _)) (Nat.le_refl _)
  have m0 : W2.heap[w.heap.size]? = some (.cells #[.int .i64 ep, .int .i64 pr, .slice (some ⟨gV, 0, none⟩) V.length c1, .slice (some ⟨gM, 0, none⟩) M.length c2, .slice aA A.length cA, .int .i64 hh] 41 (0, 0)) := by subst hW2; exact blk_same (blk_same k0)
  have m1 : W2.heap[w.heap.size + 1]? = some (.cells #[.int .i64 0, .int .i64 0, .slice none 0 0, .slice none 0 0, .slice none 0 0, .int .i64 0] 41 (0, 0)) := by subst hW2; exact blk_other (blk_other k1 (by omega)) (by omega)
  have vV : Hr.Wt W2 (some ⟨gV, 0, none⟩) gV V := wt_keep mV fun h0 => by subst hW2; exact blk_other (blk_other rfl (by omega)) (by omega)
  have vM : Hr.Wt W2 (some ⟨gM, 0, none⟩) gM M := wt_keep mM fun h0 => by subst hW2; exact blk_other (blk_other rfl (by omega)) (by omega)
  have O0 := Yx.own_emptyA W2
  have hb := below_alloc1 W2 (.cells #[] 147)
  obtain ⟨v', w3, hrun, hown, hgrow⟩ := app_acts 39 (c := cA) O0 (rA.below (Rw.next B2 hb)) (by simp)
  have b3 : Below W2.heap.size W2 w3 := below_ownA O0 hb (Nat.le_refl _) hgrow
  obtain ⟨gA, cA1, rfl, lA, mA⟩ := hasA_wt hown rA.size
  rw [w2s] at hrun
  rw [← hW2]
  exact ⟨gA, cA1, w3, hrun, (b3.block _ (blk_lt m0)).trans m0, (b3.block _ (blk_lt m1)).trans m1, vV.below b3, vM.below b3, mA, by omega, Rw.next B2 b3⟩

set_option maxHeartbeats 4000000 in
theorem copyS (e : Ent) (w : World) (h : e.Ok w) : Calls Try.prog 83 #[.agg e.vals] w (ResE w e) := by
  obtain ⟨ep, pr, V, M, A, hh, aV, bV, oV, cV, aM, bM, oM, cM, aA, bA, oA, cA⟩ := e
  obtain ⟨rV, rM, rA, wV, wM⟩ := h
  simp only at rV rM rA wV wM
  simp only [Ent.vals]
  obtain ⟨W1, hW1⟩ : ∃ W1, W1 = (w.alloc (.cells #[.int .i64 ep, .int .i64 pr, .slice aV V.length cV, .slice aM M.length cM, .slice aA A.length cA, .int .i64 hh] 41)).alloc (.cells #[.int .i64 0, .int .i64 0, .slice none 0 0, .slice none 0 0, .slice none 0 0, .int .i64 0] 41) := ⟨_, rfl⟩
  have B1 : Below w.heap.size w W1 := by subst hW1; exact Rw.next (below_alloc1 _ _) (below_alloc1 _ _)
  have k0 : W1.heap[w.heap.size]? = some (.cells #[.int .i64 ep, .int .i64 pr, .slice aV V.length cV, .slice aM M.length cM, .slice aA A.length cA, .int .i64 hh] 41 (0, 0)) := by subst hW1; rw [at_old (by simp), at_new rfl]
  have k1 : W1.heap[w.heap.size + 1]? = some (.cells #[.int .i64 0, .int .i64 0, .slice none 0 0, .slice none 0 0, .slice none 0 0, .int .i64 0] 41 (0, 0)) := by subst hW1; exact at_new (by simp)
  have RA : Hid (Yb.Rd w aA bA oA A) := rA
  have rV1 := rV.below B1
  have rM1 := rM.below B1
  have sA := rA.size
  have HSA : Hid (A.length ≤ 4194304) := sA
  clear rV rM rA sA
  have lW1 : w.heap.size + 1 < W1.heap.size := blk_lt k1
  go_enter Try.func83, Try.ntmps83
  go_wp2_with (first | (at_builtin; obtain ⟨gA, cA1, w3, hrun, m0, m1, vV, vM, mA, lA, B3⟩ := stepA (c1 := c1) (c2 := c2) RA.out B1 (blk_lt k1) k0 k1 mV mM (by omega) (by omega); refine wpList_run rfl (exec_app _ _ rfl rfl rfl hrun) ?_; have s3 := B3.size; clear hrun p0 p1 p2 p3 p4 p5 f0 k0 k1 mV mM B1; obtain ⟨p0, p1, p2, p3, p4, p5⟩ := six m0; obtain ⟨q0, q1, q2, q3, q4, q5⟩ := six m1; have f0 := Bl.free m0; have f1 := Bl.free m1) | (go_at_call 76; rw [← hW1]; clear hW1; refine (copyM _ _ _ _ _ _ _ _ V M _ rV1 rM1).mono ?_; rintro x wa ⟨gV, gM, c1, c2, rfl, mV, mM, dVM, lV, lM, tV, tM, hb⟩; replace k0 := (hb.block _ (blk_lt k0)).trans k0; replace k1 := (hb.block _ (blk_lt k1)).trans k1; replace B1 := Rw.next B1 hb; have s1 := hb.size; clear hb; obtain ⟨p0, p1, p2, p3, p4, p5⟩ := six k0; have f0 := Bl.free k0; have l0 := blk_lt k0))
  refine bodyPost_ret (v := .agg #[.int .i64 ep, .int .i64 pr, .slice (some ⟨gV, 0, none⟩) V.length c1, .slice (some ⟨gM, 0, none⟩) M.length c2, .slice (some ⟨gA, 0, none⟩) A.length cA1, .int .i64 hh]) (by simp [results, Try.results83, go_sem, q0, q1, q2, q3, q4, q5]) rfl ⟨⟨ep, pr, V, M, A, hh, some ⟨gV, 0, none⟩, gV, 0, c1, some ⟨gM, 0, none⟩, gM, 0, c2, some ⟨gA, 0, none⟩, gA, 0, cA1⟩, rfl, rfl, ?_, ?_⟩
  · refine ⟨⟨?_, ?_, ?_⟩, ⟨fun _ _ => dVM, fun _ _ => by simp only; omega, fun _ _ => by simp only; omega⟩, fun x hx => by simp only [Uses] at hx; omega, wV, wM, rfl, rfl, rfl⟩
    · show Hr.Wt _ (some ⟨gV, 0, none⟩) gV V
      repeat (first | with_reducible exact vV | refine wt_set ?_ (by omega))
    · show Hr.Wt _ (some ⟨gM, 0, none⟩) gM M
      repeat (first | with_reducible exact vM | refine wt_set ?_ (by omega))
    · show WtA _ (some ⟨gA, 0, none⟩) gA A
      repeat (first | with_reducible exact mA | refine wtA_set ?_ (by omega))
  · repeat (first | with_reducible exact B3 | refine Pm.bset ?_ (by omega))

end Go.Proofs.Ytcbgnfjnjfaacaa.Cp
namespace Go.Proofs.Ytcbgnfjnjfaacaa.Cp
set_option maxRecDepth 8000
set_option linter.unusedSimpArgs false
set_option linter.unusedVariables false
open Go Go.RowKit
open Num Pl Ea Em

def flatE (F : List Ent) : List Value := F.flatMap fun f => f.vals.toList
theorem flatE_len (F : List Ent) : (flatE F).length = F.length * 6 := by
  induction F with
  | nil => rfl
  | cons x l ih => simp only [flatE, List.flatMap_cons, List.length_append, List.length_cons] at ih ⊢; rw [ih]; simp [Ent.vals]; omega
theorem flatE_at : ∀ (F : List Ent) (j : Nat), j < F.length * 6 → (flatE F)[j]? = some (valAt F j)
  | [], j, h => by simp at h
  | x :: F, j, h => by
    have e : flatE (x :: F) = x.vals.toList ++ flatE F := by simp [flatE]
    have l6 : x.vals.toList.length = 6 := by simp [Ent.vals]
    rw [e]
    by_cases h6 : j < 6
    · rw [List.getElem?_append_left (by omega)]
      have e1 : j / 6 = 0 := by omega
      have e2 : j % 6 = j := by omega
      unfold valAt
      rw [e1, e2, Array.getElem?_toList, vals_at x j h6]
      simp
    · rw [List.getElem?_append_right (by omega), l6, flatE_at F (j - 6) (by simp at h; omega)]
      unfold valAt
      have e1 : j / 6 = (j - 6) / 6 + 1 := by omega
      have e2 : j % 6 = (j - 6) % 6 := by omega
      rw [e1, e2]
      simp
def ApE (a b : Ent) : Prop := ∀ x, Uses a x → ∀ y, Uses b y → x ≠ y
/-- A slice of entries of the call's own, from block B on. -/
structure OT (w : World) (B : Nat) (v : Value) (F : List Ent) : Prop where
  own : w.ownsRow B 41 6 v F.length (flatE F)
  each : ∀ f ∈ F, NewE B w f
  far : ∀ f ∈ F, ∀ x, Uses f x → some x ≠ v.ownBlock
  diff : F.Pairwise ApE
theorem OT.nil (w : World) (B : Nat) : OT w B (.slice none 0 0) [] := ⟨World.ownsRow_nil w B 41 6, fun _ h => by simp at h, fun _ h => by simp at h, List.Pairwise.nil⟩
theorem OT.lt {w : World} {B : Nat} {v : Value} {F : List Ent} (h : OT w B v F) {f : Ent} (hf : f ∈ F) {x : Nat} (hx : Uses f x) : x < w.heap.size := (h.each f hf).wt.lt hx
theorem OT.keep {w w' : World} {B : Nat} {v : Value} {F : List Ent} (h : OT w B v F) (hk : ∀ x, x < w.heap.size → B ≤ x → w'.heap[x]? = w.heap[x]?) : OT w' B v F := by
  refine ⟨⟨h.own.1, ?_⟩, fun f hf => { h.each f hf with wt := (h.each f hf).wt.keep fun x hx hl => hk x hl ((h.each f hf).lo x hx) }, h.far, h.diff⟩
  rcases h.own.2 with ⟨e1, e2⟩ | ⟨g, cap, cur, e1, hb, hg, rest⟩
  · exact .inl ⟨e1, e2⟩
  · exact .inr ⟨g, cap, cur, e1, hb, (hk g (blk_lt hg) hb).trans hg, rest⟩
theorem OT.below {w w' : World} {B : Nat} {v : Value} {F : List Ent} (h : OT w B v F) (hb : Below w.heap.size w w') : OT w' B v F := h.keep fun x hx _ => hb.block x hx
theorem OT.mono {w : World} {B B' : Nat} {v : Value} {F : List Ent} (h : OT w B v F) (hB : B' ≤ B) : OT w B' v F := by
  refine ⟨⟨h.own.1, ?_⟩, fun f hf => { h.each f hf with lo := fun x hx => Nat.le_trans hB ((h.each f hf).lo x hx) }, h.far, h.diff⟩
  rcases h.own.2 with ⟨e1, e2⟩ | ⟨g, cap, cur, e1, hb, rest⟩
  · exact .inl ⟨e1, e2⟩
  · exact .inr ⟨g, cap, cur, e1, Nat.le_trans hB hb, rest⟩
theorem OT.row_lt {w : World} {B : Nat} {v : Value} {F : List Ent} (h : OT w B v F) {k : Nat} (hk : v.ownBlock = some k) : B ≤ k ∧ k < w.heap.size := by
  have := h.own.lt k (by simpa using hk)
  exact ⟨this.1, this.2⟩

/-- One more entry, at the end. -/
theorem OT.app {w0 w : World} {B lo T c : Nat} {v : Value} {F : List Ent} {f : Ent} (ty : TypeId) (h0 : OT w0 B v F) (hb : Below w0.heap.size w0 w) (hf : NewE lo w f) (hlo : w0.heap.size ≤ lo) (hB : B ≤ w0.heap.size)
    (hT : w.heap[T]? = some (.cells f.vals 41 (0, 0))) (hlen : F.length ≤ 100000) :
    ∃ v' w', (Builtin.append_ #[36, 36] ty #[v, .slice (some ⟨T, 0, none⟩) 1 c]).run Try.prog w = .ok v' w' ∧ OT w' B v' (F ++ [f]) ∧ w.grownBy w' v.ownBlock := by
  have h := h0.below hb
  obtain ⟨i, hi, hzz⟩ := Option.map_eq_some_iff.1 info41
  simp only [Prod.mk.injEq] at hzz
  obtain ⟨hz, hs, hby⟩ := hzz
  obtain ⟨v', w', r, h1, h2, h3, h4⟩ := run_append_own_at (P := Try.prog) (w := w) B 36 ty 41 i (.agg e0.vals) 6 96 Try.underlying36 hi hz hs hby rfl (by decide) v F.length (flatE F) h.own ⟨T, 0, none⟩ 1 c f.vals.toList (by simp [Ent.vals])
    (by
      intro j u hj
      rw [Yb.add_eq, Nat.zero_add]
      simp only [World.cell?, hT]
      rw [← Array.getElem?_toList]; exact hj)
    (by intro u hu; simp [Ent.vals] at hu; rcases hu with rfl | rfl | rfl | rfl | rfl | rfl <;> rfl) (by unfold maxLen; omega) (by omega) (Nat.le_trans hB hb.size)
  have nf : ∀ x, Uses f x → some x ≠ v.ownBlock := fun x hx e => by
    have := (h0.row_lt e.symm).2
    have := hf.lo x hx
    omega
  refine ⟨v', w', r, ⟨?_, ?_, ?_, ?_⟩, h2⟩
  · have e1 : flatE (F ++ [f]) = flatE F ++ f.vals.toList := by simp [flatE]
    rw [e1]; simpa using h1
  · intro g hg
    rcases List.mem_append.1 hg with hg | hg
    · exact { h.each g hg with wt := (h.each g hg).wt.keep fun x hx hl => h2.block x hl (h.far g hg x hx) }
    · obtain rfl := List.mem_singleton.1 hg
      exact { hf with wt := hf.wt.keep fun x hx hl => h2.block x hl (nf x hx), lo := fun x hx => by have := hf.lo x hx; omega }
  · intro g hg x hx
    have hx1 : some x ≠ v.ownBlock ∧ x < w.heap.size := by
      rcases List.mem_append.1 hg with hg | hg
      · exact ⟨h.far g hg x hx, h.lt hg hx⟩
      · obtain rfl := List.mem_singleton.1 hg
        exact ⟨nf x hx, hf.wt.lt hx⟩
    rcases h4 with h4 | h4
    · rw [h4]; exact hx1.1
    · rw [h4]; simp; omega
  · rw [List.pairwise_append]
    refine ⟨h.diff, List.pairwise_singleton _ _, fun a ha b hb' x hx y hy => ?_⟩
    obtain rfl := List.mem_singleton.1 hb'
    have := h0.lt ha hx
    have := hf.lo y hy
    omega

/-- What is known of such a slice. -/
structure Form (w : World) (B : Nat) (a : Option Addr) (g : Nat) (F : List Ent) : Prop where
  head : 0 < F.length → a = some ⟨g, 0, none⟩
  rd : Rd w a g 0 F
  wt : WtF w g F.length (at_ F)
  ap : ApF g F.length (at_ F)
  use : ∀ x, UseT g F.length (at_ F) x → B ≤ x ∧ x < w.heap.size
theorem OT.form {w : World} {B : Nat} {v : Value} {F : List Ent} (h : OT w B v F) (hs : F.length ≤ 4194304) : ∃ a g cap, v = .slice a F.length cap ∧ Form w B a g F ∧ F.length ≤ cap := by
  rcases h.own.2 with ⟨rfl, e⟩ | ⟨g, cap, cur, rfl, hb, hh, hn, _, hz, ht⟩
  · have : F = [] := List.eq_nil_of_length_eq_zero e
    subst this
    exact ⟨none, 0, 0, rfl, ⟨fun h => by simp at h, ⟨fun h => by simp at h, fun i h => by simp at h, fun i h => by simp at h, by simp⟩, ⟨fun j h => by simp at h, fun j h => by simp at h, fun i h => by simp at h⟩, ⟨fun i h => by simp at h, fun i h => by simp at h, fun i j h => by simp at h⟩, fun x hx => by simp [UseT] at hx⟩, Nat.le_refl _⟩
  · have cell : ∀ j, j < F.length * 6 → w.cell? ⟨g, j, none⟩ = some (valAt F j) := fun j hj => by
      have e : (cur.toList.take (F.length * 6))[j]? = (flatE F)[j]? := by rw [ht]
      rw [List.getElem?_take, if_pos hj, flatE_at F j hj] at e
      simp only [World.cell?, hh]
      rw [← Array.getElem?_toList]; exact e
    refine ⟨some ⟨g, 0, none⟩, g, cap, rfl, ⟨fun _ => rfl, ⟨fun _ => rfl, fun i hi j hj => ?_, fun i hi => (h.each _ (getD_mem hi)).ok, hs⟩, ⟨cell, fun j hj => by simp [World.frozen?, hh], fun i hi => (h.each _ (getD_mem hi)).wt⟩, ⟨fun i hi x hx e => ?_, fun i hi => (h.each _ (getD_mem hi)).own, fun i j hi hj hij x hx y hy => ?_⟩, fun x hx => ?_⟩, hn⟩
    · rw [← valAt_at F i j hj, Nat.zero_add]; exact cell _ (by omega)
    · exact h.far _ (getD_mem hi) x hx (by simp [Value.ownBlock, e])
    · have pa : ∀ i j, i < F.length → j < F.length → i < j → ApE (F.getD i e0) (F.getD j e0) := fun i j hi hj hij => by
        have := List.pairwise_iff_getElem.1 h.diff i j hi hj hij
        simpa [List.getD, hi, hj] using this
      rcases Nat.lt_or_ge i j with h1 | h1
      · exact pa i j hi hj h1 x hx y hy
      · exact fun e => pa j i hj hi (by omega) y hy x hx e.symm
    · rcases hx with ⟨_, rfl⟩ | ⟨i, hi, hu⟩
      · exact ⟨hb, blk_lt hh⟩
      · exact ⟨(h.each _ (getD_mem hi)).lo x hu, h.lt (getD_mem hi) hu⟩
theorem Form.below {w w' : World} {B : Nat} {a : Option Addr} {g : Nat} {F : List Ent} (h : Form w B a g F) (hb : Below w.heap.size w w') : Form w' B a g F := by
  refine ⟨h.head, h.rd.below hb, ⟨fun j hj => ?_, fun j hj => ?_, fun i hi => (h.wt.each i hi).below hb⟩, h.ap, fun x hx => ⟨(h.use x hx).1, Nat.lt_of_lt_of_le (h.use x hx).2 hb.size⟩⟩
  · exact (hb.cell (World.block_lt_of_cell? _ _ (h.wt.row j hj))).trans (h.wt.row j hj)
  · have e := hb.block g (World.block_lt_of_cell? _ _ (h.wt.row j hj))
    have := h.wt.free j hj
    simp only [World.frozen?, e] at this ⊢; exact this

end Go.Proofs.Ytcbgnfjnjfaacaa.Cp
namespace Go.Proofs.Ytcbgnfjnjfaacaa.Cp
set_option maxRecDepth 8000
set_option linter.unusedSimpArgs false
set_option linter.unusedVariables false
open Go Go.RowKit
open Num Pl Ea Em Ka

/-- All of wr is kept but block ob and the row of v. -/
structure Stab (wr : World) (ob : Nat) (v : Value) (w' : World) : Prop where
  size : wr.heap.size ≤ w'.heap.size
  block : ∀ k, k < wr.heap.size → k ≠ ob → some k ≠ v.ownBlock → w'.heap[k]? = wr.heap[k]?
theorem Stab.refl (wr : World) (ob : Nat) (v : Value) : Stab wr ob v wr.drew := ⟨Nat.le_refl _, fun _ _ _ _ => rfl⟩
theorem Stab.below {wr w1 w2 : World} {ob : Nat} {v : Value} (h : Stab wr ob v w1) (hb : Below w1.heap.size w1 w2) : Stab wr ob v w2 :=
  ⟨Nat.le_trans h.size hb.size, fun k hk h1 h2 => (hb.block k (Nat.lt_of_lt_of_le hk h.size)).trans (h.block k hk h1 h2)⟩
theorem Stab.grown {wr w1 w2 : World} {ob : Nat} {v : Value} (h : Stab wr ob v w1) (hg : w1.grownBy w2 v.ownBlock) : Stab wr ob v w2 :=
  ⟨Nat.le_trans h.size hg.size, fun k hk h1 h2 => (hg.block k (Nat.lt_of_lt_of_le hk h.size) h2).trans (h.block k hk h1 h2)⟩
theorem Stab.set {wr w1 : World} {ob i : Nat} {v u : Value} (h : Stab wr ob v w1) : Stab wr ob v (w1.setCell ⟨ob, i, none⟩ u) :=
  ⟨by simpa using h.size, fun k hk h1 h2 => (blk_other rfl (Ne.symm h1)).trans (h.block k hk h1 h2)⟩
theorem exec_one {o : Oper} {a : Act} {w : World} {x : Operand} {f : Ent} (ho : o.op = .buildSlice 36 1 #[(0, x)]) (hx : a.eval x = .agg f.vals) : (execOp a.eval o).run Try.prog w = .ok (.value (.slice (some ⟨w.heap.size, 0, none⟩) 1 1)) (w.alloc (.cells f.vals 41)) := by
  unfold execOp
  simp only [ho, List.map_toArray, List.map_cons, List.map_nil, hx, Ent.vals]
  kernel_rfl
theorem OT.slice {w : World} {B : Nat} {v : Value} {F : List Ent} (h : OT w B v F) : ∃ a n c, v = .slice a n c := by
  rcases h.own.2 with ⟨e, _⟩ | ⟨g, cap, cur, e, _⟩
  · exact ⟨_, _, _, e⟩
  · exact ⟨_, _, _, e⟩
/-- Those of the first i for which p holds. -/
def sel (p : Nat → Bool) (L : List En) : Nat → List En
  | 0 => []
  | i + 1 => if p i = true then sel p L i ++ [L.getD i x0] else sel p L i
theorem sel_len (p : Nat → Bool) (L : List En) (i : Nat) : (sel p L i).length ≤ i := by
  induction i with
  | zero => simp [sel]
  | succ i ih =>
    simp only [sel]
    split
    · simp; omega
    · omega
/-- A table and a number are handed back. -/
def ResT (w : World) (q : Int) (L : List En) (m : Int) (e : Ending) (w' : World) : Prop :=
  ∃ v F, e = .returned (.tuple #[.agg #[.int .i64 q, v], .int .i64 m]) ∧ OT w' w.heap.size v F ∧ F.map Ent.said = L ∧ Below w.heap.size w w'

def Tells90 (g0 : Nat) (Q : List Ent) (w : World) (p : Nat → Bool) : Prop := ∀ k, k < Q.length → ∀ W, Below w.heap.size w W → Calls Try.prog 90 #[.agg #[.int .i64 (Q.getD k e0).ep, .int .i64 (Q.getD k e0).pr, .slice (Q.getD k e0).aV (Q.getD k e0).V.length (Q.getD k e0).cV, .slice (Q.getD k e0).aM (Q.getD k e0).M.length (Q.getD k e0).cM, .slice (Q.getD k e0).aA (Q.getD k e0).A.length (Q.getD k e0).cA, .int .i64 (Q.getD k e0).h], .pointer (some ⟨g0, 0, none⟩)] W fun e w' => e = .returned (.bool (p k)) ∧ Below W.heap.size W w'
set_option maxHeartbeats 16000000 in
theorem sieve90 (q : Int) (a : Option Addr) (b off cap : Nat) (g0 : Nat) (Q : List Ent) (p : Nat → Bool) (w : World) (h : Rd w a b off Q) (h4 : Q.length ≤ 400) (hP : Tells90 g0 Q w p) (m : Int) (hm : m = (Q.length : Int) - ((sel p (Q.map Ent.said) Q.length).length : Int)) :
    Calls Try.prog 86 #[.agg #[.int .i64 q, .slice a Q.length cap], .func (.func 90) #[] #[.pointer (some ⟨g0, 0, none⟩)]] w (ResT w q (sel p (Q.map Ent.said) Q.length) m) := by
  obtain ⟨W1, hW1⟩ : ∃ W1, W1 = ((w.alloc (.cells #[.int .i64 q, .slice a Q.length cap] 38)).alloc (.cells #[.int .i64 0, .slice none 0 0] 38)).alloc (.cells #[.int .i64 q, .slice none 0 0] 38) := ⟨_, rfl⟩
  have B1 : Below w.heap.size w W1 := by subst hW1; exact Rw.next (Rw.next (below_alloc1 _ _) (below_alloc1 _ _)) (below_alloc1 _ _)
  have kT : W1.heap[w.heap.size]? = some (.cells #[.int .i64 q, .slice a Q.length cap] 38 (0, 0)) := by subst hW1; rw [at_old (by simp <;> omega), at_old (by simp), at_new rfl]
  have kR : W1.heap[w.heap.size + 1]? = some (.cells #[.int .i64 0, .slice none 0 0] 38 (0, 0)) := by subst hW1; rw [at_old (by simp), at_new (by simp)]
  have kO : W1.heap[w.heap.size + 1 + 1]? = some (.cells #[.int .i64 q, .slice none 0 0] 38 (0, 0)) := by subst hW1; exact at_new (by simp)
  obtain ⟨hh, hc, ho, hs⟩ := h
  unfold Tells90 at hP
  obtain ⟨n, hn⟩ : ∃ n, n = Q.length := ⟨_, rfl⟩
  rw [← hn] at hh hc ho hs hP hW1 kT h4 hm ⊢
  have HN : Hid (n = Q.length) := hn
  have HM : Hid (m = (n : Int) - ((sel p (Q.map Ent.said) n).length : Int)) := hm
  clear hn hm
  obtain ⟨B, hB⟩ : ∃ B, B = w.heap.size + 1 + 1 + 1 := ⟨_, rfl⟩
  have zW1 : B ≤ W1.heap.size := by have := blk_lt kO; omega
  have hBo : w.heap.size + 1 + 1 < B := by omega
  have HB : Hid (B = w.heap.size + 1 + 1 + 1) := hB
  clear hB
  have hwo : w.heap.size ≤ w.heap.size + 1 + 1 := by omega
  go_enter Try.func86, Try.ntmps86
  go_wp2
  rw [← hW1]
  clear hW1
  go_loopw [15] (fun u wr => ∃ (i : Nat) (v : Value) (F : List Ent), i ≤ n ∧ u = .int .i64 i ∧ Below w.heap.size w wr ∧ wr.heap[w.heap.size]? = some (.cells #[.int .i64 q, .slice a n cap] 38 (0, 0)) ∧ wr.heap[w.heap.size + 1]? = some (.cells #[.int .i64 0, .slice none 0 0] 38 (0, 0)) ∧ wr.heap[w.heap.size + 1 + 1]? = some (.cells #[.int .i64 q, v] 38 (0, 0)) ∧ OT wr B v F ∧ B ≤ wr.heap.size ∧ F.map Ent.said = sel p (Q.map Ent.said) i) (fun u _ => n - (intOf u).toNat)
  case atStart => exact ⟨0, .slice none 0 0, [], Nat.zero_le _, rfl, B1, kT, kR, kO, OT.nil _ _, zW1, rfl⟩
  case round =>
    clear B1 kT kR kO zW1
    obtain ⟨i, v, F, hi, rfl, B1, kT, kR, kO, hot, hBs, hF⟩ := hrel
    have HF : Hid (F.map Ent.said = sel p (Q.map Ent.said) i) := hF
    have hFl : F.length ≤ 100000 := by
      have e1 := congrArg List.length hF
      have e2 := sel_len p (Q.map Ent.said) i
      simp only [List.length_map] at e1
      omega
    clear hF
    by_cases hlt : i < n
    · obtain rfl := hh (by omega)
      have hnz : (i : Int) < (n : Int) := by omega
      obtain ⟨c0, c1, c2, c3, c4, c5⟩ := ((hc i hlt).of B1 (At6.lt (hc i hlt))).six
      have ok := (ho i hlt).of B1 (Nat.le_refl _)
      obtain ⟨x, hx⟩ : ∃ x, x = Q.getD i e0 := ⟨_, rfl⟩
      have hcl := hP i hlt
      rw [← hx] at c0 c1 c2 c3 c4 c5 ok hcl
      have HX : Hid (Q.getD i e0 = x) := hx.symm
      clear hx hc ho hh hP
      obtain ⟨W2, hW2⟩ : ∃ W2, W2 = wr.alloc (.cells #[.int .i64 x.ep, .int .i64 x.pr, .slice x.aV x.V.length x.cV, .slice x.aM x.M.length x.cM, .slice x.aA x.A.length x.cA, .int .i64 x.h] 41) := ⟨_, rfl⟩
      have kE : W2.heap[wr.heap.size]? = some (.cells #[.int .i64 x.ep, .int .i64 x.pr, .slice x.aV x.V.length x.cV, .slice x.aM x.M.length x.cM, .slice x.aA x.A.length x.cA, .int .i64 x.h] 41 (0, 0)) := by subst hW2; exact at_new rfl
      have hb : Below wr.heap.size wr W2 := by subst hW2; exact below_alloc1 _ _
      have hca := hcl W2 (Rw.next B1 hb)
      have eb : ∃ eb, eb = wr.heap.size := ⟨_, rfl⟩
      obtain ⟨eb, heb⟩ := eb
      have ebB : B ≤ eb := by omega
      have ebR : ∀ k, v.ownBlock = some k → k < eb := fun k hk => by have := (hot.row_lt hk).2; omega
      replace kT := (hb.block _ (blk_lt kT)).trans kT
      replace kR := (hb.block _ (blk_lt kR)).trans kR
      replace kO := (hb.block _ (blk_lt kO)).trans kO
      replace hot := hot.below hb
      replace ok := ok.below hb
      replace B1 := Rw.next B1 hb
      have hBs2 : B ≤ W2.heap.size := Nat.le_trans hBs hb.size
      clear hb hcl hBs
      rw [← heb] at kE
      cases hp : p i
      · rw [hp] at hca
        have HP : Hid (p i = false) := hp
        clear hp
        go_wp2_with (go_at_call 90; rw [← hW2]; clear hW2; refine hca.mono ?_; rintro e1 w3 ⟨rfl, hb⟩)
        go_roundw
        case rel => exact ⟨i + 1, v, F, by omega, by go_num, Rw.next B1 hb, (hb.block _ (blk_lt kT)).trans kT, (hb.block _ (blk_lt kR)).trans kR, (hb.block _ (blk_lt kO)).trans kO, hot.below hb, Nat.le_trans hBs2 hb.size, by simp only [sel]; rw [HP.out]; exact HF.out⟩
        case measure => simp [intOf]; omega
      · rw [hp] at hca
        have HP : Hid (p i = true) := hp
        clear hp
        go_wp2_with (go_at_call 90; rw [← hW2]; clear hW2; refine hca.mono ?_; rintro e1 w3 ⟨rfl, hb⟩; replace kT := (hb.block _ (blk_lt kT)).trans kT; replace kR := (hb.block _ (blk_lt kR)).trans kR; replace kO := (hb.block _ (blk_lt kO)).trans kO; replace kE := (hb.block _ (blk_lt kE)).trans kE; replace hot := hot.below hb; replace ok := ok.below hb; replace B1 := Rw.next B1 hb; replace hBs2 := Nat.le_trans hBs2 hb.size; clear hb)
        rw [← heb]
        clear heb hca c0 c1 c2 c3 c4 c5
        generalize w3 = wr at *
        · have hcp := fun W (ok : Ent.Ok W x) => copyE x W ok
          simp only [ent_vals x] at hcp
          have lE := blk_lt kE
          have hSt : ∀ w', Stab wr (w.heap.size + 1 + 1) v w' → w'.cell? ⟨eb, 0, none⟩ = some (.int .i64 x.ep) ∧ w'.cell? ⟨eb, 1, none⟩ = some (.int .i64 x.pr) ∧ w'.cell? ⟨eb, 2, none⟩ = some (.slice x.aV x.V.length x.cV) ∧ w'.cell? ⟨eb, 3, none⟩ = some (.slice x.aM x.M.length x.cM) ∧ w'.cell? ⟨eb, 4, none⟩ = some (.slice x.aA x.A.length x.cA) ∧ w'.cell? ⟨eb, 5, none⟩ = some (.int .i64 x.h) :=
            fun w' h => six ((h.block eb lE (by omega) (fun e => by have := ebR _ e.symm; omega)).trans kE)
          refine wp_region_held_drew (S := Stab wr (w.heap.size + 1 + 1) v) (by kernel_rfl) (Stab.refl _ _ _) (fun hHeld => ?_)
          refine Pq.take (i := 0) (d := some 22) (v := .pointer (some ⟨w.heap.size + 1 + 1, 1, none⟩)) rfl (by kernel_rfl) (by kernel_rfl) (by kernel_rfl) (by kernel_rfl) (fun _ _ _ h => h) (Or.inl ⟨by rfl, by intro w hSw; go_simp⟩) hHeld ?_
          simp only [Act.put, List.setIfInBounds_toArray, List.set_cons_zero, List.set_cons_succ]
          refine Pq.take (i := 2) (d := some 24) (v := .agg #[.int .i64 x.ep, .int .i64 x.pr, .slice x.aV x.V.length x.cV, .slice x.aM x.M.length x.cM, .slice x.aA x.A.length x.cA, .int .i64 x.h]) rfl (by kernel_rfl) (by kernel_rfl) (by kernel_rfl) (by kernel_rfl) (fun _ _ _ h => h) (Or.inl ⟨by rfl, by intro w hSw; obtain ⟨s0, s1, s2, s3, s4, s5⟩ := hSt w hSw; go_simp⟩) hHeld ?_
          simp only [Act.put, List.setIfInBounds_toArray, List.set_cons_zero, List.set_cons_succ]
          have st : Stab wr (w.heap.size + 1 + 1) v wr.drew := Stab.refl _ _ _
          have hot0 : OT wr.drew B v F := hot.below ((Below.refl _ _).drew)
          have kO0 : wr.drew.heap[w.heap.size + 1 + 1]? = some (.cells #[.int .i64 q, v] 38 (0, 0)) := kO
          have ok0 := ok.below ((Below.refl wr.heap.size wr).drew)
          have B2 := Rw.next B1 ((Below.refl wr.heap.size wr).drew)
          have sW : wr.drew.heap.size = wr.heap.size := rfl
          generalize wr.drew = W at *
          refine wpAnyH_ready (rs := [1, 3]) (by kernel_rfl) (by simp) (Yh.readyRun (i := 1) rfl (by kernel_rfl) (some 23) (by kernel_rfl) (v := v) (w' := W) (by obtain ⟨o0, o1⟩ := Pm.two kO0; go_simp) st (fun hHeld => ?_) (Rg.call1 (i := 3) rfl (by rfl) 79 (.tmp 24) 41 (by kernel_rfl) 25 (by kernel_rfl) (.agg #[.int .i64 x.ep, .int .i64 x.pr, .slice x.aV x.V.length x.cV, .slice x.aM x.M.length x.cM, .slice x.aA x.A.length x.cA, .int .i64 x.h]) (by kernel_rfl) (fun _ => rfl) (hcp _ ok0) ?_ AllReadyH.nil))
          · simp only [Act.put, List.setIfInBounds_toArray, List.set_cons_zero, List.set_cons_succ]
            refine wpAnyH_ready (rs := [3]) (by kernel_rfl) (by simp) (Rg.call1 (i := 3) rfl (by rfl) 79 (.tmp 24) 41 (by kernel_rfl) 25 (by kernel_rfl) (.agg #[.int .i64 x.ep, .int .i64 x.pr, .slice x.aV x.V.length x.cV, .slice x.aM x.M.length x.cM, .slice x.aA x.A.length x.cA, .int .i64 x.h]) (by kernel_rfl) (fun _ => rfl) (hcp _ ok0) ?_ AllReadyH.nil)
            rintro e1 Wc ⟨f, rfl, sf, hf, hb⟩
            replace st := st.below hb
            replace kO0 := (hb.block _ (blk_lt kO0)).trans kO0
            have hbc := hb
            replace B2 := Rw.next B2 hb
            have sC := hb.size
            refine ⟨_, rfl, st, fun hHeld => ?_⟩
            simp only [Act.put, List.setIfInBounds_toArray, List.set_cons_zero, List.set_cons_succ]
            refine wpAnyH_ready (rs := [4]) (by kernel_rfl) (by simp) (Yh.readyRun (i := 4) rfl (by kernel_rfl) (some 26) (by kernel_rfl) (v := .slice (some ⟨Wc.heap.size, 0, none⟩) 1 1) (w' := Wc.alloc (.cells f.vals 41)) (exec_one rfl (by kernel_rfl)) (st.below (below_alloc1 _ _)) (fun hHeld => ?_) AllReadyH.nil)
            simp only [Act.put, List.setIfInBounds_toArray, List.set_cons_zero, List.set_cons_succ]
            obtain ⟨Wd, hWd⟩ : ∃ Wd, Wd = Wc.alloc (.cells f.vals 41) := ⟨_, rfl⟩
            rw [← hWd] at hHeld ⊢
            have hT : Wd.heap[Wc.heap.size]? = some (.cells f.vals 41 (0, 0)) := by subst hWd; exact at_new rfl
            have hb : Below Wc.heap.size Wc Wd := by subst hWd; exact below_alloc1 _ _
            replace st := st.below hb
            replace kO0 := (hb.block _ (blk_lt kO0)).trans kO0
            replace B2 := Rw.next B2 hb
            have hf2 := hf.below hb
            have hbd := Rw.next hbc hb
            clear hb hWd
            obtain ⟨v', Z, hrun, hotZ, hgr⟩ := hot0.app 36 (c := 1) hbd hf2 (Nat.le_refl _) (by omega) hT hFl
            refine wpAnyH_ready (rs := [5]) (by kernel_rfl) (by simp) (Yh.readyRun (i := 5) rfl (by kernel_rfl) (some 27) (by kernel_rfl) (exec_app (.tmp 23) (.tmp 26) rfl (by kernel_rfl) (by kernel_rfl) hrun) (st.grown hgr) (fun hHeld => ?_) AllReadyH.nil)
            simp only [Act.put, List.setIfInBounds_toArray, List.set_cons_zero, List.set_cons_succ]
            replace st := st.grown hgr
            obtain ⟨va, vn, vc, hv⟩ := hotZ.slice
            subst hv
            have kOZ := (hgr.block _ (blk_lt kO0) (fun e => by have := (hot0.row_lt e.symm).1; omega)).trans kO0
            replace B2 := B2.grown hgr B2.size (fun k hk => by have := (hot0.row_lt hk).1; omega)
            obtain ⟨o0, o1⟩ := Pm.two kOZ
            have fO := Bl.free kOZ
            refine Pq.take (i := 6) (d := some 28) (v := .pointer (some ⟨w.heap.size + 1 + 1, 1, none⟩)) rfl (by kernel_rfl) (by kernel_rfl) (by kernel_rfl) (by kernel_rfl) (fun _ _ _ h => h) (Or.inl ⟨by rfl, by intro w hSw; go_simp⟩) hHeld ?_
            simp only [Act.put, List.setIfInBounds_toArray, List.set_cons_zero, List.set_cons_succ]
            refine wpAnyH_ready (rs := [7]) (by kernel_rfl) (by simp) (Yh.readySkip (i := 7) rfl (by kernel_rfl) none (by kernel_rfl) (w' := Z.setCell ⟨w.heap.size + 1 + 1, 1, none⟩ (.slice va vn vc)) (by go_simp) st.set (fun hHeld => ?_) AllReadyH.nil)
            simp only [Act.put, List.setIfInBounds_toArray, List.set_cons_zero, List.set_cons_succ]
            refine wpAnyH_done (by kernel_rfl) ?_ _
            have kO' : (Z.setCell ⟨w.heap.size + 1 + 1, 1, none⟩ (.slice va vn vc)).heap[w.heap.size + 1 + 1]? = some (.cells #[.int .i64 q, (.slice va vn vc)] 38 (0, 0)) := blk_same kOZ
            have B1' : Below w.heap.size w (Z.setCell ⟨w.heap.size + 1 + 1, 1, none⟩ (.slice va vn vc)) := Pm.bset B2 hwo
            have hot' : OT (Z.setCell ⟨w.heap.size + 1 + 1, 1, none⟩ (.slice va vn vc)) B (.slice va vn vc) (F ++ [f]) := hotZ.keep fun x _ hx => blk_other rfl (by omega)
            replace st : Stab wr (w.heap.size + 1 + 1) v (Z.setCell ⟨w.heap.size + 1 + 1, 1, none⟩ (.slice va vn vc)) := st.set
            go_wp2
            go_roundw
            case rel => exact ⟨i + 1, .slice va vn vc, F ++ [f], by omega, by go_num, B1', (st.block _ (by omega) (by omega) (fun e => by have := (hot.row_lt e.symm).1; omega)).trans kT, (st.block _ (by omega) (by omega) (fun e => by have := (hot.row_lt e.symm).1; omega)).trans kR, kO', hot', by have := st.size; omega, by simp only [sel]; rw [HP.out, if_pos rfl, List.map_append, ← HF.out, said_getD, HX.out]; simp [sf]⟩
            case measure => simp [intOf]; omega
          · rintro e1 Wc ⟨f, rfl, sf, hf, hb⟩
            replace st := st.below hb
            replace kO0 := (hb.block _ (blk_lt kO0)).trans kO0
            have hbc := hb
            replace B2 := Rw.next B2 hb
            have sC := hb.size
            refine ⟨_, rfl, st, fun hHeld => ?_⟩
            simp only [Act.put, List.setIfInBounds_toArray, List.set_cons_zero, List.set_cons_succ]
            refine wpAnyH_ready (rs := [1, 4]) (by kernel_rfl) (by simp) (Yh.readyRun (i := 1) rfl (by kernel_rfl) (some 23) (by kernel_rfl) (v := v) (w' := Wc) (by obtain ⟨o0, o1⟩ := Pm.two kO0; go_simp) st (fun hHeld => ?_) (Yh.readyRun (i := 4) rfl (by kernel_rfl) (some 26) (by kernel_rfl) (v := .slice (some ⟨Wc.heap.size, 0, none⟩) 1 1) (w' := Wc.alloc (.cells f.vals 41)) (exec_one rfl (by kernel_rfl)) (st.below (below_alloc1 _ _)) (fun hHeld => ?_) AllReadyH.nil))
            · simp only [Act.put, List.setIfInBounds_toArray, List.set_cons_zero, List.set_cons_succ]
              refine wpAnyH_ready (rs := [4]) (by kernel_rfl) (by simp) (Yh.readyRun (i := 4) rfl (by kernel_rfl) (some 26) (by kernel_rfl) (v := .slice (some ⟨Wc.heap.size, 0, none⟩) 1 1) (w' := Wc.alloc (.cells f.vals 41)) (exec_one rfl (by kernel_rfl)) (st.below (below_alloc1 _ _)) (fun hHeld => ?_) AllReadyH.nil)
              simp only [Act.put, List.setIfInBounds_toArray, List.set_cons_zero, List.set_cons_succ]
              obtain ⟨Wd, hWd⟩ : ∃ Wd, Wd = Wc.alloc (.cells f.vals 41) := ⟨_, rfl⟩
              rw [← hWd] at hHeld ⊢
              have hT : Wd.heap[Wc.heap.size]? = some (.cells f.vals 41 (0, 0)) := by subst hWd; exact at_new rfl
              have hb : Below Wc.heap.size Wc Wd := by subst hWd; exact below_alloc1 _ _
              replace st := st.below hb
              replace kO0 := (hb.block _ (blk_lt kO0)).trans kO0
              replace B2 := Rw.next B2 hb
              have hf2 := hf.below hb
              have hbd := Rw.next hbc hb
              clear hb hWd
              obtain ⟨v', Z, hrun, hotZ, hgr⟩ := hot0.app 36 (c := 1) hbd hf2 (Nat.le_refl _) (by omega) hT hFl
              refine wpAnyH_ready (rs := [5]) (by kernel_rfl) (by simp) (Yh.readyRun (i := 5) rfl (by kernel_rfl) (some 27) (by kernel_rfl) (exec_app (.tmp 23) (.tmp 26) rfl (by kernel_rfl) (by kernel_rfl) hrun) (st.grown hgr) (fun hHeld => ?_) AllReadyH.nil)
              simp only [Act.put, List.setIfInBounds_toArray, List.set_cons_zero, List.set_cons_succ]
              replace st := st.grown hgr
              obtain ⟨va, vn, vc, hv⟩ := hotZ.slice
              subst hv
              have kOZ := (hgr.block _ (blk_lt kO0) (fun e => by have := (hot0.row_lt e.symm).1; omega)).trans kO0
              replace B2 := B2.grown hgr B2.size (fun k hk => by have := (hot0.row_lt hk).1; omega)
              obtain ⟨o0, o1⟩ := Pm.two kOZ
              have fO := Bl.free kOZ
              refine Pq.take (i := 6) (d := some 28) (v := .pointer (some ⟨w.heap.size + 1 + 1, 1, none⟩)) rfl (by kernel_rfl) (by kernel_rfl) (by kernel_rfl) (by kernel_rfl) (fun _ _ _ h => h) (Or.inl ⟨by rfl, by intro w hSw; go_simp⟩) hHeld ?_
              simp only [Act.put, List.setIfInBounds_toArray, List.set_cons_zero, List.set_cons_succ]
              refine wpAnyH_ready (rs := [7]) (by kernel_rfl) (by simp) (Yh.readySkip (i := 7) rfl (by kernel_rfl) none (by kernel_rfl) (w' := Z.setCell ⟨w.heap.size + 1 + 1, 1, none⟩ (.slice va vn vc)) (by go_simp) st.set (fun hHeld => ?_) AllReadyH.nil)
              simp only [Act.put, List.setIfInBounds_toArray, List.set_cons_zero, List.set_cons_succ]
              refine wpAnyH_done (by kernel_rfl) ?_ _
              have kO' : (Z.setCell ⟨w.heap.size + 1 + 1, 1, none⟩ (.slice va vn vc)).heap[w.heap.size + 1 + 1]? = some (.cells #[.int .i64 q, (.slice va vn vc)] 38 (0, 0)) := blk_same kOZ
              have B1' : Below w.heap.size w (Z.setCell ⟨w.heap.size + 1 + 1, 1, none⟩ (.slice va vn vc)) := Pm.bset B2 hwo
              have hot' : OT (Z.setCell ⟨w.heap.size + 1 + 1, 1, none⟩ (.slice va vn vc)) B (.slice va vn vc) (F ++ [f]) := hotZ.keep fun x _ hx => blk_other rfl (by omega)
              replace st : Stab wr (w.heap.size + 1 + 1) v (Z.setCell ⟨w.heap.size + 1 + 1, 1, none⟩ (.slice va vn vc)) := st.set
              go_wp2
              go_roundw
              case rel => exact ⟨i + 1, .slice va vn vc, F ++ [f], by omega, by go_num, B1', (st.block _ (by omega) (by omega) (fun e => by have := (hot.row_lt e.symm).1; omega)).trans kT, (st.block _ (by omega) (by omega) (fun e => by have := (hot.row_lt e.symm).1; omega)).trans kR, kO', hot', by have := st.size; omega, by simp only [sel]; rw [HP.out, if_pos rfl, List.map_append, ← HF.out, said_getD, HX.out]; simp [sf]⟩
              case measure => simp [intOf]; omega
            · simp only [Act.put, List.setIfInBounds_toArray, List.set_cons_zero, List.set_cons_succ]
              obtain ⟨Wd, hWd⟩ : ∃ Wd, Wd = Wc.alloc (.cells f.vals 41) := ⟨_, rfl⟩
              rw [← hWd] at hHeld ⊢
              have hT : Wd.heap[Wc.heap.size]? = some (.cells f.vals 41 (0, 0)) := by subst hWd; exact at_new rfl
              have hb : Below Wc.heap.size Wc Wd := by subst hWd; exact below_alloc1 _ _
              replace st := st.below hb
              replace kO0 := (hb.block _ (blk_lt kO0)).trans kO0
              replace B2 := Rw.next B2 hb
              have hf2 := hf.below hb
              have hbd := Rw.next hbc hb
              clear hb hWd
              refine wpAnyH_ready (rs := [1]) (by kernel_rfl) (by simp) (Yh.readyRun (i := 1) rfl (by kernel_rfl) (some 23) (by kernel_rfl) (v := v) (w' := Wd) (by obtain ⟨o0, o1⟩ := Pm.two kO0; go_simp) st (fun hHeld => ?_) AllReadyH.nil)
              simp only [Act.put, List.setIfInBounds_toArray, List.set_cons_zero, List.set_cons_succ]
              obtain ⟨v', Z, hrun, hotZ, hgr⟩ := hot0.app 36 (c := 1) hbd hf2 (Nat.le_refl _) (by omega) hT hFl
              refine wpAnyH_ready (rs := [5]) (by kernel_rfl) (by simp) (Yh.readyRun (i := 5) rfl (by kernel_rfl) (some 27) (by kernel_rfl) (exec_app (.tmp 23) (.tmp 26) rfl (by kernel_rfl) (by kernel_rfl) hrun) (st.grown hgr) (fun hHeld => ?_) AllReadyH.nil)
              simp only [Act.put, List.setIfInBounds_toArray, List.set_cons_zero, List.set_cons_succ]
              replace st := st.grown hgr
              obtain ⟨va, vn, vc, hv⟩ := hotZ.slice
              subst hv
              have kOZ := (hgr.block _ (blk_lt kO0) (fun e => by have := (hot0.row_lt e.symm).1; omega)).trans kO0
              replace B2 := B2.grown hgr B2.size (fun k hk => by have := (hot0.row_lt hk).1; omega)
              obtain ⟨o0, o1⟩ := Pm.two kOZ
              have fO := Bl.free kOZ
              refine Pq.take (i := 6) (d := some 28) (v := .pointer (some ⟨w.heap.size + 1 + 1, 1, none⟩)) rfl (by kernel_rfl) (by kernel_rfl) (by kernel_rfl) (by kernel_rfl) (fun _ _ _ h => h) (Or.inl ⟨by rfl, by intro w hSw; go_simp⟩) hHeld ?_
              simp only [Act.put, List.setIfInBounds_toArray, List.set_cons_zero, List.set_cons_succ]
              refine wpAnyH_ready (rs := [7]) (by kernel_rfl) (by simp) (Yh.readySkip (i := 7) rfl (by kernel_rfl) none (by kernel_rfl) (w' := Z.setCell ⟨w.heap.size + 1 + 1, 1, none⟩ (.slice va vn vc)) (by go_simp) st.set (fun hHeld => ?_) AllReadyH.nil)
              simp only [Act.put, List.setIfInBounds_toArray, List.set_cons_zero, List.set_cons_succ]
              refine wpAnyH_done (by kernel_rfl) ?_ _
              have kO' : (Z.setCell ⟨w.heap.size + 1 + 1, 1, none⟩ (.slice va vn vc)).heap[w.heap.size + 1 + 1]? = some (.cells #[.int .i64 q, (.slice va vn vc)] 38 (0, 0)) := blk_same kOZ
              have B1' : Below w.heap.size w (Z.setCell ⟨w.heap.size + 1 + 1, 1, none⟩ (.slice va vn vc)) := Pm.bset B2 hwo
              have hot' : OT (Z.setCell ⟨w.heap.size + 1 + 1, 1, none⟩ (.slice va vn vc)) B (.slice va vn vc) (F ++ [f]) := hotZ.keep fun x _ hx => blk_other rfl (by omega)
              replace st : Stab wr (w.heap.size + 1 + 1) v (Z.setCell ⟨w.heap.size + 1 + 1, 1, none⟩ (.slice va vn vc)) := st.set
              go_wp2
              go_roundw
              case rel => exact ⟨i + 1, .slice va vn vc, F ++ [f], by omega, by go_num, B1', (st.block _ (by omega) (by omega) (fun e => by have := (hot.row_lt e.symm).1; omega)).trans kT, (st.block _ (by omega) (by omega) (fun e => by have := (hot.row_lt e.symm).1; omega)).trans kR, kO', hot', by have := st.size; omega, by simp only [sel]; rw [HP.out, if_pos rfl, List.map_append, ← HF.out, said_getD, HX.out]; simp [sf]⟩
              case measure => simp [intOf]; omega
    · obtain rfl : i = n := by omega
      obtain ⟨aF, gF, cF, rfl, _, _⟩ := hot.form (by omega)
      have hlen : F.length = (sel p (Q.map Ent.said) i).length := by rw [← HF.out]; simp
      have hz : (i : Int) - (F.length : Int) = m := by rw [hlen]; exact HM.out.symm
      have hwm : IntKind.i64.wrap m = m := by rw [IntKind.wrap_i64]; omega
      have HLen : Hid (F.length = (sel p (Q.map Ent.said) i).length) := hlen
      clear hlen hc ho hP
      go_wp2
      refine wp_region_held_drew (S := (fun w' => w'.heap[w.heap.size]? = some (.cells #[.int .i64 q, .slice a i cap] 38 (0, 0)) ∧ w'.heap[w.heap.size + 1 + 1]? = some (.cells #[.int .i64 q, .slice aF F.length cF] 38 (0, 0)))) (by kernel_rfl) ⟨kT, kO⟩ (fun hHeld => ?_)
      refine Pq.take (i := 0) (d := some 30) (v := .agg #[.int .i64 q, .slice aF F.length cF]) rfl (by kernel_rfl) (by kernel_rfl) (by kernel_rfl) (by kernel_rfl) (fun _ _ _ h => h) (Or.inl ⟨by rfl, by intro w hSw; obtain ⟨z0, z1⟩ := hSw; obtain ⟨s0, s1⟩ := Pm.two z0; obtain ⟨s2, s3⟩ := Pm.two z1; go_simp⟩) hHeld ?_
      simp only [Act.put, List.setIfInBounds_toArray, List.set_cons_zero, List.set_cons_succ]
      refine Pq.take (i := 1) (d := some 31) (v := .pointer (some ⟨w.heap.size, 1, none⟩)) rfl (by kernel_rfl) (by kernel_rfl) (by kernel_rfl) (by kernel_rfl) (fun _ _ _ h => h) (Or.inl ⟨by rfl, by intro w hSw; go_simp⟩) hHeld ?_
      simp only [Act.put, List.setIfInBounds_toArray, List.set_cons_zero, List.set_cons_succ]
      refine Pq.take (i := 2) (d := some 32) (v := .slice a i cap) rfl (by kernel_rfl) (by kernel_rfl) (by kernel_rfl) (by kernel_rfl) (fun _ _ _ h => h) (Or.inl ⟨by rfl, by intro w hSw; obtain ⟨z0, z1⟩ := hSw; obtain ⟨s0, s1⟩ := Pm.two z0; obtain ⟨s2, s3⟩ := Pm.two z1; go_simp⟩) hHeld ?_
      simp only [Act.put, List.setIfInBounds_toArray, List.set_cons_zero, List.set_cons_succ]
      refine Pq.take (i := 3) (d := some 33) (v := .int .i64 i) rfl (by kernel_rfl) (by kernel_rfl) (by kernel_rfl) (by kernel_rfl) (fun _ _ _ h => h) (Or.inl ⟨by rfl, by intro w hSw; go_simp⟩) hHeld ?_
      simp only [Act.put, List.setIfInBounds_toArray, List.set_cons_zero, List.set_cons_succ]
      refine Pq.take (i := 4) (d := some 34) (v := .pointer (some ⟨w.heap.size + 1 + 1, 1, none⟩)) rfl (by kernel_rfl) (by kernel_rfl) (by kernel_rfl) (by kernel_rfl) (fun _ _ _ h => h) (Or.inl ⟨by rfl, by intro w hSw; go_simp⟩) hHeld ?_
      simp only [Act.put, List.setIfInBounds_toArray, List.set_cons_zero, List.set_cons_succ]
      refine Pq.take (i := 5) (d := some 35) (v := .slice aF F.length cF) rfl (by kernel_rfl) (by kernel_rfl) (by kernel_rfl) (by kernel_rfl) (fun _ _ _ h => h) (Or.inl ⟨by rfl, by intro w hSw; obtain ⟨z0, z1⟩ := hSw; obtain ⟨s0, s1⟩ := Pm.two z0; obtain ⟨s2, s3⟩ := Pm.two z1; go_simp⟩) hHeld ?_
      simp only [Act.put, List.setIfInBounds_toArray, List.set_cons_zero, List.set_cons_succ]
      refine Pq.take (i := 6) (d := some 36) (v := .int .i64 F.length) rfl (by kernel_rfl) (by kernel_rfl) (by kernel_rfl) (by kernel_rfl) (fun _ _ _ h => h) (Or.inl ⟨by rfl, by intro w hSw; go_simp⟩) hHeld ?_
      simp only [Act.put, List.setIfInBounds_toArray, List.set_cons_zero, List.set_cons_succ]
      refine Pq.take (i := 7) (d := some 37) (v := .int .i64 m) rfl (by kernel_rfl) (by kernel_rfl) (by kernel_rfl) (by kernel_rfl) (fun _ _ _ h => h) (Or.inl ⟨by rfl, by intro w hSw; go_simp⟩) hHeld ?_
      simp only [Act.put, List.setIfInBounds_toArray, List.set_cons_zero, List.set_cons_succ]
      obtain ⟨r0, r1⟩ := Pm.two kR
      have fR := Bl.free kR
      refine wpAnyH_ready (rs := [8]) (by kernel_rfl) (by simp) (Yh.readySkip (i := 8) rfl (by kernel_rfl) none (by kernel_rfl) (w' := (wr.drew.setCell ⟨w.heap.size + 1, 0, none⟩ (.int .i64 q)).setCell ⟨w.heap.size + 1, 1, none⟩ (.slice aF F.length cF)) (by go_simp) ⟨blk_other (blk_other kT (by omega)) (by omega), blk_other (blk_other kO (by omega)) (by omega)⟩ (fun hHeld => ?_) AllReadyH.nil)
      simp only [Act.put, List.setIfInBounds_toArray, List.set_cons_zero, List.set_cons_succ]
      refine Pq.take (i := 9) (d := some 5) (v := .int .i64 m) rfl (by kernel_rfl) (by kernel_rfl) (by kernel_rfl) (by kernel_rfl) (fun _ _ _ h => h) (Or.inl ⟨by rfl, by intro w hSw; go_simp⟩) hHeld ?_
      simp only [Act.put, List.setIfInBounds_toArray, List.set_cons_zero, List.set_cons_succ]
      refine wpAnyH_done (by kernel_rfl) ?_ _
      go_wp2
      have y0 : (wr.setCell ⟨w.heap.size + 1, 0, none⟩ (.int .i64 q)).cell? ⟨w.heap.size + 1, 0, none⟩ = some (.int .i64 q) := (Pm.two (blk_same kR)).1
      have y1 : ((wr.setCell ⟨w.heap.size + 1, 0, none⟩ (.int .i64 q)).setCell ⟨w.heap.size + 1, 1, none⟩ (.slice aF F.length cF)).cell? ⟨w.heap.size + 1, 1, none⟩ = some (.slice aF F.length cF) := (Pm.two (blk_same (blk_same kR))).2
      exact bodyPost_ret (v := .tuple #[.agg #[.int .i64 q, .slice aF F.length cF], .int .i64 m]) (by simp [results, Try.results86, go_sem, y0, y1]) rfl ⟨_, F, rfl, ((hot.below ((Below.refl _ _).drew)).keep (fun x _ hx => blk_other (blk_other rfl (by omega)) (by omega))).mono (by omega), HF.out, Pm.bset (Pm.bset (Rw.next B1 ((Below.refl _ _).drew)) (by omega)) (by omega)⟩

def Tells87 (g0 : Nat) (g1 : Nat) (Q : List Ent) (w : World) (p : Nat → Bool) : Prop := ∀ k, k < Q.length → ∀ W, Below w.heap.size w W → Calls Try.prog 87 #[.agg #[.int .i64 (Q.getD k e0).ep, .int .i64 (Q.getD k e0).pr, .slice (Q.getD k e0).aV (Q.getD k e0).V.length (Q.getD k e0).cV, .slice (Q.getD k e0).aM (Q.getD k e0).M.length (Q.getD k e0).cM, .slice (Q.getD k e0).aA (Q.getD k e0).A.length (Q.getD k e0).cA, .int .i64 (Q.getD k e0).h], .pointer (some ⟨g0, 0, none⟩), .pointer (some ⟨g1, 0, none⟩)] W fun e w' => e = .returned (.bool (p k)) ∧ Below W.heap.size W w'
set_option maxHeartbeats 16000000 in
theorem sieve87 (q : Int) (a : Option Addr) (b off cap : Nat) (g0 : Nat) (g1 : Nat) (Q : List Ent) (p : Nat → Bool) (w : World) (h : Rd w a b off Q) (h4 : Q.length ≤ 400) (hP : Tells87 g0 g1 Q w p) (m : Int) (hm : m = (Q.length : Int) - ((sel p (Q.map Ent.said) Q.length).length : Int)) :
    Calls Try.prog 86 #[.agg #[.int .i64 q, .slice a Q.length cap], .func (.func 87) #[] #[.pointer (some ⟨g0, 0, none⟩), .pointer (some ⟨g1, 0, none⟩)]] w (ResT w q (sel p (Q.map Ent.said) Q.length) m) := by
  obtain ⟨W1, hW1⟩ : ∃ W1, W1 = ((w.alloc (.cells #[.int .i64 q, .slice a Q.length cap] 38)).alloc (.cells #[.int .i64 0, .slice none 0 0] 38)).alloc (.cells #[.int .i64 q, .slice none 0 0] 38) := ⟨_, rfl⟩
  have B1 : Below w.heap.size w W1 := by subst hW1; exact Rw.next (Rw.next (below_alloc1 _ _) (below_alloc1 _ _)) (below_alloc1 _ _)
  have kT : W1.heap[w.heap.size]? = some (.cells #[.int .i64 q, .slice a Q.length cap] 38 (0, 0)) := by subst hW1; rw [at_old (by simp <;> omega), at_old (by simp), at_new rfl]
  have kR : W1.heap[w.heap.size + 1]? = some (.cells #[.int .i64 0, .slice none 0 0] 38 (0, 0)) := by subst hW1; rw [at_old (by simp), at_new (by simp)]
  have kO : W1.heap[w.heap.size + 1 + 1]? = some (.cells #[.int .i64 q, .slice none 0 0] 38 (0, 0)) := by subst hW1; exact at_new (by simp)
  obtain ⟨hh, hc, ho, hs⟩ := h
  unfold Tells87 at hP
  obtain ⟨n, hn⟩ : ∃ n, n = Q.length := ⟨_, rfl⟩
  rw [← hn] at hh hc ho hs hP hW1 kT h4 hm ⊢
  have HN : Hid (n = Q.length) := hn
  have HM : Hid (m = (n : Int) - ((sel p (Q.map Ent.said) n).length : Int)) := hm
  clear hn hm
  obtain ⟨B, hB⟩ : ∃ B, B = w.heap.size + 1 + 1 + 1 := ⟨_, rfl⟩
  have zW1 : B ≤ W1.heap.size := by have := blk_lt kO; omega
  have hBo : w.heap.size + 1 + 1 < B := by omega
  have HB : Hid (B = w.heap.size + 1 + 1 + 1) := hB
  clear hB
  have hwo : w.heap.size ≤ w.heap.size + 1 + 1 := by omega
  go_enter Try.func86, Try.ntmps86
  go_wp2
  rw [← hW1]
  clear hW1
  go_loopw [15] (fun u wr => ∃ (i : Nat) (v : Value) (F : List Ent), i ≤ n ∧ u = .int .i64 i ∧ Below w.heap.size w wr ∧ wr.heap[w.heap.size]? = some (.cells #[.int .i64 q, .slice a n cap] 38 (0, 0)) ∧ wr.heap[w.heap.size + 1]? = some (.cells #[.int .i64 0, .slice none 0 0] 38 (0, 0)) ∧ wr.heap[w.heap.size + 1 + 1]? = some (.cells #[.int .i64 q, v] 38 (0, 0)) ∧ OT wr B v F ∧ B ≤ wr.heap.size ∧ F.map Ent.said = sel p (Q.map Ent.said) i) (fun u _ => n - (intOf u).toNat)
  case atStart => exact ⟨0, .slice none 0 0, [], Nat.zero_le _, rfl, B1, kT, kR, kO, OT.nil _ _, zW1, rfl⟩
  case round =>
    clear B1 kT kR kO zW1
    obtain ⟨i, v, F, hi, rfl, B1, kT, kR, kO, hot, hBs, hF⟩ := hrel
    have HF : Hid (F.map Ent.said = sel p (Q.map Ent.said) i) := hF
    have hFl : F.length ≤ 100000 := by
      have e1 := congrArg List.length hF
      have e2 := sel_len p (Q.map Ent.said) i
      simp only [List.length_map] at e1
      omega
    clear hF
    by_cases hlt : i < n
    · obtain rfl := hh (by omega)
      have hnz : (i : Int) < (n : Int) := by omega
      obtain ⟨c0, c1, c2, c3, c4, c5⟩ := ((hc i hlt).of B1 (At6.lt (hc i hlt))).six
      have ok := (ho i hlt).of B1 (Nat.le_refl _)
      obtain ⟨x, hx⟩ : ∃ x, x = Q.getD i e0 := ⟨_, rfl⟩
      have hcl := hP i hlt
      rw [← hx] at c0 c1 c2 c3 c4 c5 ok hcl
      have HX : Hid (Q.getD i e0 = x) := hx.symm
      clear hx hc ho hh hP
      obtain ⟨W2, hW2⟩ : ∃ W2, W2 = wr.alloc (.cells #[.int .i64 x.ep, .int .i64 x.pr, .slice x.aV x.V.length x.cV, .slice x.aM x.M.length x.cM, .slice x.aA x.A.length x.cA, .int .i64 x.h] 41) := ⟨_, rfl⟩
      have kE : W2.heap[wr.heap.size]? = some (.cells #[.int .i64 x.ep, .int .i64 x.pr, .slice x.aV x.V.length x.cV, .slice x.aM x.M.length x.cM, .slice x.aA x.A.length x.cA, .int .i64 x.h] 41 (0, 0)) := by subst hW2; exact at_new rfl
      have hb : Below wr.heap.size wr W2 := by subst hW2; exact below_alloc1 _ _
      have hca := hcl W2 (Rw.next B1 hb)
      have eb : ∃ eb, eb = wr.heap.size := ⟨_, rfl⟩
      obtain ⟨eb, heb⟩ := eb
      have ebB : B ≤ eb := by omega
      have ebR : ∀ k, v.ownBlock = some k → k < eb := fun k hk => by have := (hot.row_lt hk).2; omega
      replace kT := (hb.block _ (blk_lt kT)).trans kT
      replace kR := (hb.block _ (blk_lt kR)).trans kR
      replace kO := (hb.block _ (blk_lt kO)).trans kO
      replace hot := hot.below hb
      replace ok := ok.below hb
      replace B1 := Rw.next B1 hb
      have hBs2 : B ≤ W2.heap.size := Nat.le_trans hBs hb.size
      clear hb hcl hBs
      rw [← heb] at kE
      cases hp : p i
      · rw [hp] at hca
        have HP : Hid (p i = false) := hp
        clear hp
        go_wp2_with (go_at_call 87; rw [← hW2]; clear hW2; refine hca.mono ?_; rintro e1 w3 ⟨rfl, hb⟩)
        go_roundw
        case rel => exact ⟨i + 1, v, F, by omega, by go_num, Rw.next B1 hb, (hb.block _ (blk_lt kT)).trans kT, (hb.block _ (blk_lt kR)).trans kR, (hb.block _ (blk_lt kO)).trans kO, hot.below hb, Nat.le_trans hBs2 hb.size, by simp only [sel]; rw [HP.out]; exact HF.out⟩
        case measure => simp [intOf]; omega
      · rw [hp] at hca
        have HP : Hid (p i = true) := hp
        clear hp
        go_wp2_with (go_at_call 87; rw [← hW2]; clear hW2; refine hca.mono ?_; rintro e1 w3 ⟨rfl, hb⟩; replace kT := (hb.block _ (blk_lt kT)).trans kT; replace kR := (hb.block _ (blk_lt kR)).trans kR; replace kO := (hb.block _ (blk_lt kO)).trans kO; replace kE := (hb.block _ (blk_lt kE)).trans kE; replace hot := hot.below hb; replace ok := ok.below hb; replace B1 := Rw.next B1 hb; replace hBs2 := Nat.le_trans hBs2 hb.size; clear hb)
        rw [← heb]
        clear heb hca c0 c1 c2 c3 c4 c5
        generalize w3 = wr at *
        · have hcp := fun W (ok : Ent.Ok W x) => copyE x W ok
          simp only [ent_vals x] at hcp
          have lE := blk_lt kE
          have hSt : ∀ w', Stab wr (w.heap.size + 1 + 1) v w' → w'.cell? ⟨eb, 0, none⟩ = some (.int .i64 x.ep) ∧ w'.cell? ⟨eb, 1, none⟩ = some (.int .i64 x.pr) ∧ w'.cell? ⟨eb, 2, none⟩ = some (.slice x.aV x.V.length x.cV) ∧ w'.cell? ⟨eb, 3, none⟩ = some (.slice x.aM x.M.length x.cM) ∧ w'.cell? ⟨eb, 4, none⟩ = some (.slice x.aA x.A.length x.cA) ∧ w'.cell? ⟨eb, 5, none⟩ = some (.int .i64 x.h) :=
            fun w' h => six ((h.block eb lE (by omega) (fun e => by have := ebR _ e.symm; omega)).trans kE)
          refine wp_region_held_drew (S := Stab wr (w.heap.size + 1 + 1) v) (by kernel_rfl) (Stab.refl _ _ _) (fun hHeld => ?_)
          refine Pq.take (i := 0) (d := some 22) (v := .pointer (some ⟨w.heap.size + 1 + 1, 1, none⟩)) rfl (by kernel_rfl) (by kernel_rfl) (by kernel_rfl) (by kernel_rfl) (fun _ _ _ h => h) (Or.inl ⟨by rfl, by intro w hSw; go_simp⟩) hHeld ?_
          simp only [Act.put, List.setIfInBounds_toArray, List.set_cons_zero, List.set_cons_succ]
          refine Pq.take (i := 2) (d := some 24) (v := .agg #[.int .i64 x.ep, .int .i64 x.pr, .slice x.aV x.V.length x.cV, .slice x.aM x.M.length x.cM, .slice x.aA x.A.length x.cA, .int .i64 x.h]) rfl (by kernel_rfl) (by kernel_rfl) (by kernel_rfl) (by kernel_rfl) (fun _ _ _ h => h) (Or.inl ⟨by rfl, by intro w hSw; obtain ⟨s0, s1, s2, s3, s4, s5⟩ := hSt w hSw; go_simp⟩) hHeld ?_
          simp only [Act.put, List.setIfInBounds_toArray, List.set_cons_zero, List.set_cons_succ]
          have st : Stab wr (w.heap.size + 1 + 1) v wr.drew := Stab.refl _ _ _
          have hot0 : OT wr.drew B v F := hot.below ((Below.refl _ _).drew)
          have kO0 : wr.drew.heap[w.heap.size + 1 + 1]? = some (.cells #[.int .i64 q, v] 38 (0, 0)) := kO
          have ok0 := ok.below ((Below.refl wr.heap.size wr).drew)
          have B2 := Rw.next B1 ((Below.refl wr.heap.size wr).drew)
          have sW : wr.drew.heap.size = wr.heap.size := rfl
          generalize wr.drew = W at *
          refine wpAnyH_ready (rs := [1, 3]) (by kernel_rfl) (by simp) (Yh.readyRun (i := 1) rfl (by kernel_rfl) (some 23) (by kernel_rfl) (v := v) (w' := W) (by obtain ⟨o0, o1⟩ := Pm.two kO0; go_simp) st (fun hHeld => ?_) (Rg.call1 (i := 3) rfl (by rfl) 79 (.tmp 24) 41 (by kernel_rfl) 25 (by kernel_rfl) (.agg #[.int .i64 x.ep, .int .i64 x.pr, .slice x.aV x.V.length x.cV, .slice x.aM x.M.length x.cM, .slice x.aA x.A.length x.cA, .int .i64 x.h]) (by kernel_rfl) (fun _ => rfl) (hcp _ ok0) ?_ AllReadyH.nil))
          · simp only [Act.put, List.setIfInBounds_toArray, List.set_cons_zero, List.set_cons_succ]
            refine wpAnyH_ready (rs := [3]) (by kernel_rfl) (by simp) (Rg.call1 (i := 3) rfl (by rfl) 79 (.tmp 24) 41 (by kernel_rfl) 25 (by kernel_rfl) (.agg #[.int .i64 x.ep, .int .i64 x.pr, .slice x.aV x.V.length x.cV, .slice x.aM x.M.length x.cM, .slice x.aA x.A.length x.cA, .int .i64 x.h]) (by kernel_rfl) (fun _ => rfl) (hcp _ ok0) ?_ AllReadyH.nil)
            rintro e1 Wc ⟨f, rfl, sf, hf, hb⟩
            replace st := st.below hb
            replace kO0 := (hb.block _ (blk_lt kO0)).trans kO0
            have hbc := hb
            replace B2 := Rw.next B2 hb
            have sC := hb.size
            refine ⟨_, rfl, st, fun hHeld => ?_⟩
            simp only [Act.put, List.setIfInBounds_toArray, List.set_cons_zero, List.set_cons_succ]
            refine wpAnyH_ready (rs := [4]) (by kernel_rfl) (by simp) (Yh.readyRun (i := 4) rfl (by kernel_rfl) (some 26) (by kernel_rfl) (v := .slice (some ⟨Wc.heap.size, 0, none⟩) 1 1) (w' := Wc.alloc (.cells f.vals 41)) (exec_one rfl (by kernel_rfl)) (st.below (below_alloc1 _ _)) (fun hHeld => ?_) AllReadyH.nil)
            simp only [Act.put, List.setIfInBounds_toArray, List.set_cons_zero, List.set_cons_succ]
            obtain ⟨Wd, hWd⟩ : ∃ Wd, Wd = Wc.alloc (.cells f.vals 41) := ⟨_, rfl⟩
            rw [← hWd] at hHeld ⊢
            have hT : Wd.heap[Wc.heap.size]? = some (.cells f.vals 41 (0, 0)) := by subst hWd; exact at_new rfl
            have hb : Below Wc.heap.size Wc Wd := by subst hWd; exact below_alloc1 _ _
            replace st := st.below hb
            replace kO0 := (hb.block _ (blk_lt kO0)).trans kO0
            replace B2 := Rw.next B2 hb
            have hf2 := hf.below hb
            have hbd := Rw.next hbc hb
            clear hb hWd
            obtain ⟨v', Z, hrun, hotZ, hgr⟩ := hot0.app 36 (c := 1) hbd hf2 (Nat.le_refl _) (by omega) hT hFl
            refine wpAnyH_ready (rs := [5]) (by kernel_rfl) (by simp) (Yh.readyRun (i := 5) rfl (by kernel_rfl) (some 27) (by kernel_rfl) (exec_app (.tmp 23) (.tmp 26) rfl (by kernel_rfl) (by kernel_rfl) hrun) (st.grown hgr) (fun hHeld => ?_) AllReadyH.nil)
            simp only [Act.put, List.setIfInBounds_toArray, List.set_cons_zero, List.set_cons_succ]
            replace st := st.grown hgr
            obtain ⟨va, vn, vc, hv⟩ := hotZ.slice
            subst hv
            have kOZ := (hgr.block _ (blk_lt kO0) (fun e => by have := (hot0.row_lt e.symm).1; omega)).trans kO0
            replace B2 := B2.grown hgr B2.size (fun k hk => by have := (hot0.row_lt hk).1; omega)
            obtain ⟨o0, o1⟩ := Pm.two kOZ
            have fO := Bl.free kOZ
            refine Pq.take (i := 6) (d := some 28) (v := .pointer (some ⟨w.heap.size + 1 + 1, 1, none⟩)) rfl (by kernel_rfl) (by kernel_rfl) (by kernel_rfl) (by kernel_rfl) (fun _ _ _ h => h) (Or.inl ⟨by rfl, by intro w hSw; go_simp⟩) hHeld ?_
            simp only [Act.put, List.setIfInBounds_toArray, List.set_cons_zero, List.set_cons_succ]
            refine wpAnyH_ready (rs := [7]) (by kernel_rfl) (by simp) (Yh.readySkip (i := 7) rfl (by kernel_rfl) none (by kernel_rfl) (w' := Z.setCell ⟨w.heap.size + 1 + 1, 1, none⟩ (.slice va vn vc)) (by go_simp) st.set (fun hHeld => ?_) AllReadyH.nil)
            simp only [Act.put, List.setIfInBounds_toArray, List.set_cons_zero, List.set_cons_succ]
            refine wpAnyH_done (by kernel_rfl) ?_ _
            have kO' : (Z.setCell ⟨w.heap.size + 1 + 1, 1, none⟩ (.slice va vn vc)).heap[w.heap.size + 1 + 1]? = some (.cells #[.int .i64 q, (.slice va vn vc)] 38 (0, 0)) := blk_same kOZ
            have B1' : Below w.heap.size w (Z.setCell ⟨w.heap.size + 1 + 1, 1, none⟩ (.slice va vn vc)) := Pm.bset B2 hwo
            have hot' : OT (Z.setCell ⟨w.heap.size + 1 + 1, 1, none⟩ (.slice va vn vc)) B (.slice va vn vc) (F ++ [f]) := hotZ.keep fun x _ hx => blk_other rfl (by omega)
            replace st : Stab wr (w.heap.size + 1 + 1) v (Z.setCell ⟨w.heap.size + 1 + 1, 1, none⟩ (.slice va vn vc)) := st.set
            go_wp2
            go_roundw
            case rel => exact ⟨i + 1, .slice va vn vc, F ++ [f], by omega, by go_num, B1', (st.block _ (by omega) (by omega) (fun e => by have := (hot.row_lt e.symm).1; omega)).trans kT, (st.block _ (by omega) (by omega) (fun e => by have := (hot.row_lt e.symm).1; omega)).trans kR, kO', hot', by have := st.size; omega, by simp only [sel]; rw [HP.out, if_pos rfl, List.map_append, ← HF.out, said_getD, HX.out]; simp [sf]⟩
            case measure => simp [intOf]; omega
          · rintro e1 Wc ⟨f, rfl, sf, hf, hb⟩
            replace st := st.below hb
            replace kO0 := (hb.block _ (blk_lt kO0)).trans kO0
            have hbc := hb
            replace B2 := Rw.next B2 hb
            have sC := hb.size
            refine ⟨_, rfl, st, fun hHeld => ?_⟩
            simp only [Act.put, List.setIfInBounds_toArray, List.set_cons_zero, List.set_cons_succ]
            refine wpAnyH_ready (rs := [1, 4]) (by kernel_rfl) (by simp) (Yh.readyRun (i := 1) rfl (by kernel_rfl) (some 23) (by kernel_rfl) (v := v) (w' := Wc) (by obtain ⟨o0, o1⟩ := Pm.two kO0; go_simp) st (fun hHeld => ?_) (Yh.readyRun (i := 4) rfl (by kernel_rfl) (some 26) (by kernel_rfl) (v := .slice (some ⟨Wc.heap.size, 0, none⟩) 1 1) (w' := Wc.alloc (.cells f.vals 41)) (exec_one rfl (by kernel_rfl)) (st.below (below_alloc1 _ _)) (fun hHeld => ?_) AllReadyH.nil))
            · simp only [Act.put, List.setIfInBounds_toArray, List.set_cons_zero, List.set_cons_succ]
              refine wpAnyH_ready (rs := [4]) (by kernel_rfl) (by simp) (Yh.readyRun (i := 4) rfl (by kernel_rfl) (some 26) (by kernel_rfl) (v := .slice (some ⟨Wc.heap.size, 0, none⟩) 1 1) (w' := Wc.alloc (.cells f.vals 41)) (exec_one rfl (by kernel_rfl)) (st.below (below_alloc1 _ _)) (fun hHeld => ?_) AllReadyH.nil)
              simp only [Act.put, List.setIfInBounds_toArray, List.set_cons_zero, List.set_cons_succ]
              obtain ⟨Wd, hWd⟩ : ∃ Wd, Wd = Wc.alloc (.cells f.vals 41) := ⟨_, rfl⟩
              rw [← hWd] at hHeld ⊢
              have hT : Wd.heap[Wc.heap.size]? = some (.cells f.vals 41 (0, 0)) := by subst hWd; exact at_new rfl
              have hb : Below Wc.heap.size Wc Wd := by subst hWd; exact below_alloc1 _ _
              replace st := st.below hb
              replace kO0 := (hb.block _ (blk_lt kO0)).trans kO0
              replace B2 := Rw.next B2 hb
              have hf2 := hf.below hb
              have hbd := Rw.next hbc hb
              clear hb hWd
              obtain ⟨v', Z, hrun, hotZ, hgr⟩ := hot0.app 36 (c := 1) hbd hf2 (Nat.le_refl _) (by omega) hT hFl
              refine wpAnyH_ready (rs := [5]) (by kernel_rfl) (by simp) (Yh.readyRun (i := 5) rfl (by kernel_rfl) (some 27) (by kernel_rfl) (exec_app (.tmp 23) (.tmp 26) rfl (by kernel_rfl) (by kernel_rfl) hrun) (st.grown hgr) (fun hHeld => ?_) AllReadyH.nil)
              simp only [Act.put, List.setIfInBounds_toArray, List.set_cons_zero, List.set_cons_succ]
              replace st := st.grown hgr
              obtain ⟨va, vn, vc, hv⟩ := hotZ.slice
              subst hv
              have kOZ := (hgr.block _ (blk_lt kO0) (fun e => by have := (hot0.row_lt e.symm).1; omega)).trans kO0
              replace B2 := B2.grown hgr B2.size (fun k hk => by have := (hot0.row_lt hk).1; omega)
              obtain ⟨o0, o1⟩ := Pm.two kOZ
              have fO := Bl.free kOZ
              refine Pq.take (i := 6) (d := some 28) (v := .pointer (some ⟨w.heap.size + 1 + 1, 1, none⟩)) rfl (by kernel_rfl) (by kernel_rfl) (by kernel_rfl) (by kernel_rfl) (fun _ _ _ h => h) (Or.inl ⟨by rfl, by intro w hSw; go_simp⟩) hHeld ?_
              simp only [Act.put, List.setIfInBounds_toArray, List.set_cons_zero, List.set_cons_succ]
              refine wpAnyH_ready (rs := [7]) (by kernel_rfl) (by simp) (Yh.readySkip (i := 7) rfl (by kernel_rfl) none (by kernel_rfl) (w' := Z.setCell ⟨w.heap.size + 1 + 1, 1, none⟩ (.slice va vn vc)) (by go_simp) st.set (fun hHeld => ?_) AllReadyH.nil)
              simp only [Act.put, List.setIfInBounds_toArray, List.set_cons_zero, List.set_cons_succ]
              refine wpAnyH_done (by kernel_rfl) ?_ _
              have kO' : (Z.setCell ⟨w.heap.size + 1 + 1, 1, none⟩ (.slice va vn vc)).heap[w.heap.size + 1 + 1]? = some (.cells #[.int .i64 q, (.slice va vn vc)] 38 (0, 0)) := blk_same kOZ
              have B1' : Below w.heap.size w (Z.setCell ⟨w.heap.size + 1 + 1, 1, none⟩ (.slice va vn vc)) := Pm.bset B2 hwo
              have hot' : OT (Z.setCell ⟨w.heap.size + 1 + 1, 1, none⟩ (.slice va vn vc)) B (.slice va vn vc) (F ++ [f]) := hotZ.keep fun x _ hx => blk_other rfl (by omega)
              replace st : Stab wr (w.heap.size + 1 + 1) v (Z.setCell ⟨w.heap.size + 1 + 1, 1, none⟩ (.slice va vn vc)) := st.set
              go_wp2
              go_roundw
              case rel => exact ⟨i + 1, .slice va vn vc, F ++ [f], by omega, by go_num, B1', (st.block _ (by omega) (by omega) (fun e => by have := (hot.row_lt e.symm).1; omega)).trans kT, (st.block _ (by omega) (by omega) (fun e => by have := (hot.row_lt e.symm).1; omega)).trans kR, kO', hot', by have := st.size; omega, by simp only [sel]; rw [HP.out, if_pos rfl, List.map_append, ← HF.out, said_getD, HX.out]; simp [sf]⟩
              case measure => simp [intOf]; omega
            · simp only [Act.put, List.setIfInBounds_toArray, List.set_cons_zero, List.set_cons_succ]
              obtain ⟨Wd, hWd⟩ : ∃ Wd, Wd = Wc.alloc (.cells f.vals 41) := ⟨_, rfl⟩
              rw [← hWd] at hHeld ⊢
              have hT : Wd.heap[Wc.heap.size]? = some (.cells f.vals 41 (0, 0)) := by subst hWd; exact at_new rfl
              have hb : Below Wc.heap.size Wc Wd := by subst hWd; exact below_alloc1 _ _
              replace st := st.below hb
              replace kO0 := (hb.block _ (blk_lt kO0)).trans kO0
              replace B2 := Rw.next B2 hb
              have hf2 := hf.below hb
              have hbd := Rw.next hbc hb
              clear hb hWd
              refine wpAnyH_ready (rs := [1]) (by kernel_rfl) (by simp) (Yh.readyRun (i := 1) rfl (by kernel_rfl) (some 23) (by kernel_rfl) (v := v) (w' := Wd) (by obtain ⟨o0, o1⟩ := Pm.two kO0; go_simp) st (fun hHeld => ?_) AllReadyH.nil)
              simp only [Act.put, List.setIfInBounds_toArray, List.set_cons_zero, List.set_cons_succ]
              obtain ⟨v', Z, hrun, hotZ, hgr⟩ := hot0.app 36 (c := 1) hbd hf2 (Nat.le_refl _) (by omega) hT hFl
              refine wpAnyH_ready (rs := [5]) (by kernel_rfl) (by simp) (Yh.readyRun (i := 5) rfl (by kernel_rfl) (some 27) (by kernel_rfl) (exec_app (.tmp 23) (.tmp 26) rfl (by kernel_rfl) (by kernel_rfl) hrun) (st.grown hgr) (fun hHeld => ?_) AllReadyH.nil)
              simp only [Act.put, List.setIfInBounds_toArray, List.set_cons_zero, List.set_cons_succ]
              replace st := st.grown hgr
              obtain ⟨va, vn, vc, hv⟩ := hotZ.slice
              subst hv
              have kOZ := (hgr.block _ (blk_lt kO0) (fun e => by have := (hot0.row_lt e.symm).1; omega)).trans kO0
              replace B2 := B2.grown hgr B2.size (fun k hk => by have := (hot0.row_lt hk).1; omega)
              obtain ⟨o0, o1⟩ := Pm.two kOZ
              have fO := Bl.free kOZ
              refine Pq.take (i := 6) (d := some 28) (v := .pointer (some ⟨w.heap.size + 1 + 1, 1, none⟩)) rfl (by kernel_rfl) (by kernel_rfl) (by kernel_rfl) (by kernel_rfl) (fun _ _ _ h => h) (Or.inl ⟨by rfl, by intro w hSw; go_simp⟩) hHeld ?_
              simp only [Act.put, List.setIfInBounds_toArray, List.set_cons_zero, List.set_cons_succ]
              refine wpAnyH_ready (rs := [7]) (by kernel_rfl) (by simp) (Yh.readySkip (i := 7) rfl (by kernel_rfl) none (by kernel_rfl) (w' := Z.setCell ⟨w.heap.size + 1 + 1, 1, none⟩ (.slice va vn vc)) (by go_simp) st.set (fun hHeld => ?_) AllReadyH.nil)
              simp only [Act.put, List.setIfInBounds_toArray, List.set_cons_zero, List.set_cons_succ]
              refine wpAnyH_done (by kernel_rfl) ?_ _
              have kO' : (Z.setCell ⟨w.heap.size + 1 + 1, 1, none⟩ (.slice va vn vc)).heap[w.heap.size + 1 + 1]? = some (.cells #[.int .i64 q, (.slice va vn vc)] 38 (0, 0)) := blk_same kOZ
              have B1' : Below w.heap.size w (Z.setCell ⟨w.heap.size + 1 + 1, 1, none⟩ (.slice va vn vc)) := Pm.bset B2 hwo
              have hot' : OT (Z.setCell ⟨w.heap.size + 1 + 1, 1, none⟩ (.slice va vn vc)) B (.slice va vn vc) (F ++ [f]) := hotZ.keep fun x _ hx => blk_other rfl (by omega)
              replace st : Stab wr (w.heap.size + 1 + 1) v (Z.setCell ⟨w.heap.size + 1 + 1, 1, none⟩ (.slice va vn vc)) := st.set
              go_wp2
              go_roundw
              case rel => exact ⟨i + 1, .slice va vn vc, F ++ [f], by omega, by go_num, B1', (st.block _ (by omega) (by omega) (fun e => by have := (hot.row_lt e.symm).1; omega)).trans kT, (st.block _ (by omega) (by omega) (fun e => by have := (hot.row_lt e.symm).1; omega)).trans kR, kO', hot', by have := st.size; omega, by simp only [sel]; rw [HP.out, if_pos rfl, List.map_append, ← HF.out, said_getD, HX.out]; simp [sf]⟩
              case measure => simp [intOf]; omega
    · obtain rfl : i = n := by omega
      obtain ⟨aF, gF, cF, rfl, _, _⟩ := hot.form (by omega)
      have hlen : F.length = (sel p (Q.map Ent.said) i).length := by rw [← HF.out]; simp
      have hz : (i : Int) - (F.length : Int) = m := by rw [hlen]; exact HM.out.symm
      have hwm : IntKind.i64.wrap m = m := by rw [IntKind.wrap_i64]; omega
      have HLen : Hid (F.length = (sel p (Q.map Ent.said) i).length) := hlen
      clear hlen hc ho hP
      go_wp2
      refine wp_region_held_drew (S := (fun w' => w'.heap[w.heap.size]? = some (.cells #[.int .i64 q, .slice a i cap] 38 (0, 0)) ∧ w'.heap[w.heap.size + 1 + 1]? = some (.cells #[.int .i64 q, .slice aF F.length cF] 38 (0, 0)))) (by kernel_rfl) ⟨kT, kO⟩ (fun hHeld => ?_)
      refine Pq.take (i := 0) (d := some 30) (v := .agg #[.int .i64 q, .slice aF F.length cF]) rfl (by kernel_rfl) (by kernel_rfl) (by kernel_rfl) (by kernel_rfl) (fun _ _ _ h => h) (Or.inl ⟨by rfl, by intro w hSw; obtain ⟨z0, z1⟩ := hSw; obtain ⟨s0, s1⟩ := Pm.two z0; obtain ⟨s2, s3⟩ := Pm.two z1; go_simp⟩) hHeld ?_
      simp only [Act.put, List.setIfInBounds_toArray, List.set_cons_zero, List.set_cons_succ]
      refine Pq.take (i := 1) (d := some 31) (v := .pointer (some ⟨w.heap.size, 1, none⟩)) rfl (by kernel_rfl) (by kernel_rfl) (by kernel_rfl) (by kernel_rfl) (fun _ _ _ h => h) (Or.inl ⟨by rfl, by intro w hSw; go_simp⟩) hHeld ?_
      simp only [Act.put, List.setIfInBounds_toArray, List.set_cons_zero, List.set_cons_succ]
      refine Pq.take (i := 2) (d := some 32) (v := .slice a i cap) rfl (by kernel_rfl) (by kernel_rfl) (by kernel_rfl) (by kernel_rfl) (fun _ _ _ h => h) (Or.inl ⟨by rfl, by intro w hSw; obtain ⟨z0, z1⟩ := hSw; obtain ⟨s0, s1⟩ := Pm.two z0; obtain ⟨s2, s3⟩ := Pm.two z1; go_simp⟩) hHeld ?_
      simp only [Act.put, List.setIfInBounds_toArray, List.set_cons_zero, List.set_cons_succ]
      refine Pq.take (i := 3) (d := some 33) (v := .int .i64 i) rfl (by kernel_rfl) (by kernel_rfl) (by kernel_rfl) (by kernel_rfl) (fun _ _ _ h => h) (Or.inl ⟨by rfl, by intro w hSw; go_simp⟩) hHeld ?_
      simp only [Act.put, List.setIfInBounds_toArray, List.set_cons_zero, List.set_cons_succ]
      refine Pq.take (i := 4) (d := some 34) (v := .pointer (some ⟨w.heap.size + 1 + 1, 1, none⟩)) rfl (by kernel_rfl) (by kernel_rfl) (by kernel_rfl) (by kernel_rfl) (fun _ _ _ h => h) (Or.inl ⟨by rfl, by intro w hSw; go_simp⟩) hHeld ?_
      simp only [Act.put, List.setIfInBounds_toArray, List.set_cons_zero, List.set_cons_succ]
      refine Pq.take (i := 5) (d := some 35) (v := .slice aF F.length cF) rfl (by kernel_rfl) (by kernel_rfl) (by kernel_rfl) (by kernel_rfl) (fun _ _ _ h => h) (Or.inl ⟨by rfl, by intro w hSw; obtain ⟨z0, z1⟩ := hSw; obtain ⟨s0, s1⟩ := Pm.two z0; obtain ⟨s2, s3⟩ := Pm.two z1; go_simp⟩) hHeld ?_
      simp only [Act.put, List.setIfInBounds_toArray, List.set_cons_zero, List.set_cons_succ]
      refine Pq.take (i := 6) (d := some 36) (v := .int .i64 F.length) rfl (by kernel_rfl) (by kernel_rfl) (by kernel_rfl) (by kernel_rfl) (fun _ _ _ h => h) (Or.inl ⟨by rfl, by intro w hSw; go_simp⟩) hHeld ?_
      simp only [Act.put, List.setIfInBounds_toArray, List.set_cons_zero, List.set_cons_succ]
      refine Pq.take (i := 7) (d := some 37) (v := .int .i64 m) rfl (by kernel_rfl) (by kernel_rfl) (by kernel_rfl) (by kernel_rfl) (fun _ _ _ h => h) (Or.inl ⟨by rfl, by intro w hSw; go_simp⟩) hHeld ?_
      simp only [Act.put, List.setIfInBounds_toArray, List.set_cons_zero, List.set_cons_succ]
      obtain ⟨r0, r1⟩ := Pm.two kR
      have fR := Bl.free kR
      refine wpAnyH_ready (rs := [8]) (by kernel_rfl) (by simp) (Yh.readySkip (i := 8) rfl (by kernel_rfl) none (by kernel_rfl) (w' := (wr.drew.setCell ⟨w.heap.size + 1, 0, none⟩ (.int .i64 q)).setCell ⟨w.heap.size + 1, 1, none⟩ (.slice aF F.length cF)) (by go_simp) ⟨blk_other (blk_other kT (by omega)) (by omega), blk_other (blk_other kO (by omega)) (by omega)⟩ (fun hHeld => ?_) AllReadyH.nil)
      simp only [Act.put, List.setIfInBounds_toArray, List.set_cons_zero, List.set_cons_succ]
      refine Pq.take (i := 9) (d := some 5) (v := .int .i64 m) rfl (by kernel_rfl) (by kernel_rfl) (by kernel_rfl) (by kernel_rfl) (fun _ _ _ h => h) (Or.inl ⟨by rfl, by intro w hSw; go_simp⟩) hHeld ?_
      simp only [Act.put, List.setIfInBounds_toArray, List.set_cons_zero, List.set_cons_succ]
      refine wpAnyH_done (by kernel_rfl) ?_ _
      go_wp2
      have y0 : (wr.setCell ⟨w.heap.size + 1, 0, none⟩ (.int .i64 q)).cell? ⟨w.heap.size + 1, 0, none⟩ = some (.int .i64 q) := (Pm.two (blk_same kR)).1
      have y1 : ((wr.setCell ⟨w.heap.size + 1, 0, none⟩ (.int .i64 q)).setCell ⟨w.heap.size + 1, 1, none⟩ (.slice aF F.length cF)).cell? ⟨w.heap.size + 1, 1, none⟩ = some (.slice aF F.length cF) := (Pm.two (blk_same (blk_same kR))).2
      exact bodyPost_ret (v := .tuple #[.agg #[.int .i64 q, .slice aF F.length cF], .int .i64 m]) (by simp [results, Try.results86, go_sem, y0, y1]) rfl ⟨_, F, rfl, ((hot.below ((Below.refl _ _).drew)).keep (fun x _ hx => blk_other (blk_other rfl (by omega)) (by omega))).mono (by omega), HF.out, Pm.bset (Pm.bset (Rw.next B1 ((Below.refl _ _).drew)) (by omega)) (by omega)⟩

def Tells89 (g0 : Nat) (Q : List Ent) (w : World) (p : Nat → Bool) : Prop := ∀ k, k < Q.length → ∀ W, Below w.heap.size w W → Calls Try.prog 89 #[.agg #[.int .i64 (Q.getD k e0).ep, .int .i64 (Q.getD k e0).pr, .slice (Q.getD k e0).aV (Q.getD k e0).V.length (Q.getD k e0).cV, .slice (Q.getD k e0).aM (Q.getD k e0).M.length (Q.getD k e0).cM, .slice (Q.getD k e0).aA (Q.getD k e0).A.length (Q.getD k e0).cA, .int .i64 (Q.getD k e0).h], .pointer (some ⟨g0, 0, none⟩)] W fun e w' => e = .returned (.bool (p k)) ∧ Below W.heap.size W w'
set_option maxHeartbeats 16000000 in
theorem sieve89 (q : Int) (a : Option Addr) (b off cap : Nat) (g0 : Nat) (Q : List Ent) (p : Nat → Bool) (w : World) (h : Rd w a b off Q) (h4 : Q.length ≤ 400) (hP : Tells89 g0 Q w p) (m : Int) (hm : m = (Q.length : Int) - ((sel p (Q.map Ent.said) Q.length).length : Int)) :
    Calls Try.prog 86 #[.agg #[.int .i64 q, .slice a Q.length cap], .func (.func 89) #[] #[.pointer (some ⟨g0, 0, none⟩)]] w (ResT w q (sel p (Q.map Ent.said) Q.length) m) := by
  obtain ⟨W1, hW1⟩ : ∃ W1, W1 = ((w.alloc (.cells #[.int .i64 q, .slice a Q.length cap] 38)).alloc (.cells #[.int .i64 0, .slice none 0 0] 38)).alloc (.cells #[.int .i64 q, .slice none 0 0] 38) := ⟨_, rfl⟩
  have B1 : Below w.heap.size w W1 := by subst hW1; exact Rw.next (Rw.next (below_alloc1 _ _) (below_alloc1 _ _)) (below_alloc1 _ _)
  have kT : W1.heap[w.heap.size]? = some (.cells #[.int .i64 q, .slice a Q.length cap] 38 (0, 0)) := by subst hW1; rw [at_old (by simp <;> omega), at_old (by simp), at_new rfl]
  have kR : W1.heap[w.heap.size + 1]? = some (.cells #[.int .i64 0, .slice none 0 0] 38 (0, 0)) := by subst hW1; rw [at_old (by simp), at_new (by simp)]
  have kO : W1.heap[w.heap.size + 1 + 1]? = some (.cells #[.int .i64 q, .slice none 0 0] 38 (0, 0)) := by subst hW1; exact at_new (by simp)
  obtain ⟨hh, hc, ho, hs⟩ := h
  unfold Tells89 at hP
  obtain ⟨n, hn⟩ : ∃ n, n = Q.length := ⟨_, rfl⟩
  rw [← hn] at hh hc ho hs hP hW1 kT h4 hm ⊢
  have HN : Hid (n = Q.length) := hn
  have HM : Hid (m = (n : Int) - ((sel p (Q.map Ent.said) n).length : Int)) := hm
  clear hn hm
  obtain ⟨B, hB⟩ : ∃ B, B = w.heap.size + 1 + 1 + 1 := ⟨_, rfl⟩
  have zW1 : B ≤ W1.heap.size := by have := blk_lt kO; omega
  have hBo : w.heap.size + 1 + 1 < B := by omega
  have HB : Hid (B = w.heap.size + 1 + 1 + 1) := hB
  clear hB
  have hwo : w.heap.size ≤ w.heap.size + 1 + 1 := by omega
  go_enter Try.func86, Try.ntmps86
  go_wp2
  rw [← hW1]
  clear hW1
  go_loopw [15] (fun u wr => ∃ (i : Nat) (v : Value) (F : List Ent), i ≤ n ∧ u = .int .i64 i ∧ Below w.heap.size w wr ∧ wr.heap[w.heap.size]? = some (.cells #[.int .i64 q, .slice a n cap] 38 (0, 0)) ∧ wr.heap[w.heap.size + 1]? = some (.cells #[.int .i64 0, .slice none 0 0] 38 (0, 0)) ∧ wr.heap[w.heap.size + 1 + 1]? = some (.cells #[.int .i64 q, v] 38 (0, 0)) ∧ OT wr B v F ∧ B ≤ wr.heap.size ∧ F.map Ent.said = sel p (Q.map Ent.said) i) (fun u _ => n - (intOf u).toNat)
  case atStart => exact ⟨0, .slice none 0 0, [], Nat.zero_le _, rfl, B1, kT, kR, kO, OT.nil _ _, zW1, rfl⟩
  case round =>
    clear B1 kT kR kO zW1
    obtain ⟨i, v, F, hi, rfl, B1, kT, kR, kO, hot, hBs, hF⟩ := hrel
    have HF : Hid (F.map Ent.said = sel p (Q.map Ent.said) i) := hF
    have hFl : F.length ≤ 100000 := by
      have e1 := congrArg List.length hF
      have e2 := sel_len p (Q.map Ent.said) i
      simp only [List.length_map] at e1
      omega
    clear hF
    by_cases hlt : i < n
    · obtain rfl := hh (by omega)
      have hnz : (i : Int) < (n : Int) := by omega
      obtain ⟨c0, c1, c2, c3, c4, c5⟩ := ((hc i hlt).of B1 (At6.lt (hc i hlt))).six
      have ok := (ho i hlt).of B1 (Nat.le_refl _)
      obtain ⟨x, hx⟩ : ∃ x, x = Q.getD i e0 := ⟨_, rfl⟩
      have hcl := hP i hlt
      rw [← hx] at c0 c1 c2 c3 c4 c5 ok hcl
      have HX : Hid (Q.getD i e0 = x) := hx.symm
      clear hx hc ho hh hP
      obtain ⟨W2, hW2⟩ : ∃ W2, W2 = wr.alloc (.cells #[.int .i64 x.ep, .int .i64 x.pr, .slice x.aV x.V.length x.cV, .slice x.aM x.M.length x.cM, .slice x.aA x.A.length x.cA, .int .i64 x.h] 41) := ⟨_, rfl⟩
      have kE : W2.heap[wr.heap.size]? = some (.cells #[.int .i64 x.ep, .int .i64 x.pr, .slice x.aV x.V.length x.cV, .slice x.aM x.M.length x.cM, .slice x.aA x.A.length x.cA, .int .i64 x.h] 41 (0, 0)) := by subst hW2; exact at_new rfl
      have hb : Below wr.heap.size wr W2 := by subst hW2; exact below_alloc1 _ _
      have hca := hcl W2 (Rw.next B1 hb)
      have eb : ∃ eb, eb = wr.heap.size := ⟨_, rfl⟩
      obtain ⟨eb, heb⟩ := eb
      have ebB : B ≤ eb := by omega
      have ebR : ∀ k, v.ownBlock = some k → k < eb := fun k hk => by have := (hot.row_lt hk).2; omega
      replace kT := (hb.block _ (blk_lt kT)).trans kT
      replace kR := (hb.block _ (blk_lt kR)).trans kR
      replace kO := (hb.block _ (blk_lt kO)).trans kO
      replace hot := hot.below hb
      replace ok := ok.below hb
      replace B1 := Rw.next B1 hb
      have hBs2 : B ≤ W2.heap.size := Nat.le_trans hBs hb.size
      clear hb hcl hBs
      rw [← heb] at kE
      cases hp : p i
      · rw [hp] at hca
        have HP : Hid (p i = false) := hp
        clear hp
        go_wp2_with (go_at_call 89; rw [← hW2]; clear hW2; refine hca.mono ?_; rintro e1 w3 ⟨rfl, hb⟩)
        go_roundw
        case rel => exact ⟨i + 1, v, F, by omega, by go_num, Rw.next B1 hb, (hb.block _ (blk_lt kT)).trans kT, (hb.block _ (blk_lt kR)).trans kR, (hb.block _ (blk_lt kO)).trans kO, hot.below hb, Nat.le_trans hBs2 hb.size, by simp only [sel]; rw [HP.out]; exact HF.out⟩
        case measure => simp [intOf]; omega
      · rw [hp] at hca
        have HP : Hid (p i = true) := hp
        clear hp
        go_wp2_with (go_at_call 89; rw [← hW2]; clear hW2; refine hca.mono ?_; rintro e1 w3 ⟨rfl, hb⟩; replace kT := (hb.block _ (blk_lt kT)).trans kT; replace kR := (hb.block _ (blk_lt kR)).trans kR; replace kO := (hb.block _ (blk_lt kO)).trans kO; replace kE := (hb.block _ (blk_lt kE)).trans kE; replace hot := hot.below hb; replace ok := ok.below hb; replace B1 := Rw.next B1 hb; replace hBs2 := Nat.le_trans hBs2 hb.size; clear hb)
        rw [← heb]
        clear heb hca c0 c1 c2 c3 c4 c5
        generalize w3 = wr at *
        · have hcp := fun W (ok : Ent.Ok W x) => copyE x W ok
          simp only [ent_vals x] at hcp
          have lE := blk_lt kE
          have hSt : ∀ w', Stab wr (w.heap.size + 1 + 1) v w' → w'.cell? ⟨eb, 0, none⟩ = some (.int .i64 x.ep) ∧ w'.cell? ⟨eb, 1, none⟩ = some (.int .i64 x.pr) ∧ w'.cell? ⟨eb, 2, none⟩ = some (.slice x.aV x.V.length x.cV) ∧ w'.cell? ⟨eb, 3, none⟩ = some (.slice x.aM x.M.length x.cM) ∧ w'.cell? ⟨eb, 4, none⟩ = some (.slice x.aA x.A.length x.cA) ∧ w'.cell? ⟨eb, 5, none⟩ = some (.int .i64 x.h) :=
            fun w' h => six ((h.block eb lE (by omega) (fun e => by have := ebR _ e.symm; omega)).trans kE)
          refine wp_region_held_drew (S := Stab wr (w.heap.size + 1 + 1) v) (by kernel_rfl) (Stab.refl _ _ _) (fun hHeld => ?_)
          refine Pq.take (i := 0) (d := some 22) (v := .pointer (some ⟨w.heap.size + 1 + 1, 1, none⟩)) rfl (by kernel_rfl) (by kernel_rfl) (by kernel_rfl) (by kernel_rfl) (fun _ _ _ h => h) (Or.inl ⟨by rfl, by intro w hSw; go_simp⟩) hHeld ?_
          simp only [Act.put, List.setIfInBounds_toArray, List.set_cons_zero, List.set_cons_succ]
          refine Pq.take (i := 2) (d := some 24) (v := .agg #[.int .i64 x.ep, .int .i64 x.pr, .slice x.aV x.V.length x.cV, .slice x.aM x.M.length x.cM, .slice x.aA x.A.length x.cA, .int .i64 x.h]) rfl (by kernel_rfl) (by kernel_rfl) (by kernel_rfl) (by kernel_rfl) (fun _ _ _ h => h) (Or.inl ⟨by rfl, by intro w hSw; obtain ⟨s0, s1, s2, s3, s4, s5⟩ := hSt w hSw; go_simp⟩) hHeld ?_
          simp only [Act.put, List.setIfInBounds_toArray, List.set_cons_zero, List.set_cons_succ]
          have st : Stab wr (w.heap.size + 1 + 1) v wr.drew := Stab.refl _ _ _
          have hot0 : OT wr.drew B v F := hot.below ((Below.refl _ _).drew)
          have kO0 : wr.drew.heap[w.heap.size + 1 + 1]? = some (.cells #[.int .i64 q, v] 38 (0, 0)) := kO
          have ok0 := ok.below ((Below.refl wr.heap.size wr).drew)
          have B2 := Rw.next B1 ((Below.refl wr.heap.size wr).drew)
          have sW : wr.drew.heap.size = wr.heap.size := rfl
          generalize wr.drew = W at *
          refine wpAnyH_ready (rs := [1, 3]) (by kernel_rfl) (by simp) (Yh.readyRun (i := 1) rfl (by kernel_rfl) (some 23) (by kernel_rfl) (v := v) (w' := W) (by obtain ⟨o0, o1⟩ := Pm.two kO0; go_simp) st (fun hHeld => ?_) (Rg.call1 (i := 3) rfl (by rfl) 79 (.tmp 24) 41 (by kernel_rfl) 25 (by kernel_rfl) (.agg #[.int .i64 x.ep, .int .i64 x.pr, .slice x.aV x.V.length x.cV, .slice x.aM x.M.length x.cM, .slice x.aA x.A.length x.cA, .int .i64 x.h]) (by kernel_rfl) (fun _ => rfl) (hcp _ ok0) ?_ AllReadyH.nil))
          · simp only [Act.put, List.setIfInBounds_toArray, List.set_cons_zero, List.set_cons_succ]
            refine wpAnyH_ready (rs := [3]) (by kernel_rfl) (by simp) (Rg.call1 (i := 3) rfl (by rfl) 79 (.tmp 24) 41 (by kernel_rfl) 25 (by kernel_rfl) (.agg #[.int .i64 x.ep, .int .i64 x.pr, .slice x.aV x.V.length x.cV, .slice x.aM x.M.length x.cM, .slice x.aA x.A.length x.cA, .int .i64 x.h]) (by kernel_rfl) (fun _ => rfl) (hcp _ ok0) ?_ AllReadyH.nil)
            rintro e1 Wc ⟨f, rfl, sf, hf, hb⟩
            replace st := st.below hb
            replace kO0 := (hb.block _ (blk_lt kO0)).trans kO0
            have hbc := hb
            replace B2 := Rw.next B2 hb
            have sC := hb.size
            refine ⟨_, rfl, st, fun hHeld => ?_⟩
            simp only [Act.put, List.setIfInBounds_toArray, List.set_cons_zero, List.set_cons_succ]
            refine wpAnyH_ready (rs := [4]) (by kernel_rfl) (by simp) (Yh.readyRun (i := 4) rfl (by kernel_rfl) (some 26) (by kernel_rfl) (v := .slice (some ⟨Wc.heap.size, 0, none⟩) 1 1) (w' := Wc.alloc (.cells f.vals 41)) (exec_one rfl (by kernel_rfl)) (st.below (below_alloc1 _ _)) (fun hHeld => ?_) AllReadyH.nil)
            simp only [Act.put, List.setIfInBounds_toArray, List.set_cons_zero, List.set_cons_succ]
            obtain ⟨Wd, hWd⟩ : ∃ Wd, Wd = Wc.alloc (.cells f.vals 41) := ⟨_, rfl⟩
            rw [← hWd] at hHeld ⊢
            have hT : Wd.heap[Wc.heap.size]? = some (.cells f.vals 41 (0, 0)) := by subst hWd; exact at_new rfl
            have hb : Below Wc.heap.size Wc Wd := by subst hWd; exact below_alloc1 _ _
            replace st := st.below hb
            replace kO0 := (hb.block _ (blk_lt kO0)).trans kO0
            replace B2 := Rw.next B2 hb
            have hf2 := hf.below hb
            have hbd := Rw.next hbc hb
            clear hb hWd
            obtain ⟨v', Z, hrun, hotZ, hgr⟩ := hot0.app 36 (c := 1) hbd hf2 (Nat.le_refl _) (by omega) hT hFl
            refine wpAnyH_ready (rs := [5]) (by kernel_rfl) (by simp) (Yh.readyRun (i := 5) rfl (by kernel_rfl) (some 27) (by kernel_rfl) (exec_app (.tmp 23) (.tmp 26) rfl (by kernel_rfl) (by kernel_rfl) hrun) (st.grown hgr) (fun hHeld => ?_) AllReadyH.nil)
            simp only [Act.put, List.setIfInBounds_toArray, List.set_cons_zero, List.set_cons_succ]
            replace st := st.grown hgr
            obtain ⟨va, vn, vc, hv⟩ := hotZ.slice
            subst hv
            have kOZ := (hgr.block _ (blk_lt kO0) (fun e => by have := (hot0.row_lt e.symm).1; omega)).trans kO0
            replace B2 := B2.grown hgr B2.size (fun k hk => by have := (hot0.row_lt hk).1; omega)
            obtain ⟨o0, o1⟩ := Pm.two kOZ
            have fO := Bl.free kOZ
            refine Pq.take (i := 6) (d := some 28) (v := .pointer (some ⟨w.heap.size + 1 + 1, 1, none⟩)) rfl (by kernel_rfl) (by kernel_rfl) (by kernel_rfl) (by kernel_rfl) (fun _ _ _ h => h) (Or.inl ⟨by rfl, by intro w hSw; go_simp⟩) hHeld ?_
            simp only [Act.put, List.setIfInBounds_toArray, List.set_cons_zero, List.set_cons_succ]
            refine wpAnyH_ready (rs := [7]) (by kernel_rfl) (by simp) (Yh.readySkip (i := 7) rfl (by kernel_rfl) none (by kernel_rfl) (w' := Z.setCell ⟨w.heap.size + 1 + 1, 1, none⟩ (.slice va vn vc)) (by go_simp) st.set (fun hHeld => ?_) AllReadyH.nil)
            simp only [Act.put, List.setIfInBounds_toArray, List.set_cons_zero, List.set_cons_succ]
            refine wpAnyH_done (by kernel_rfl) ?_ _
            have kO' : (Z.setCell ⟨w.heap.size + 1 + 1, 1, none⟩ (.slice va vn vc)).heap[w.heap.size + 1 + 1]? = some (.cells #[.int .i64 q, (.slice va vn vc)] 38 (0, 0)) := blk_same kOZ
            have B1' : Below w.heap.size w (Z.setCell ⟨w.heap.size + 1 + 1, 1, none⟩ (.slice va vn vc)) := Pm.bset B2 hwo
            have hot' : OT (Z.setCell ⟨w.heap.size + 1 + 1, 1, none⟩ (.slice va vn vc)) B (.slice va vn vc) (F ++ [f]) := hotZ.keep fun x _ hx => blk_other rfl (by omega)
            replace st : Stab wr (w.heap.size + 1 + 1) v (Z.setCell ⟨w.heap.size + 1 + 1, 1, none⟩ (.slice va vn vc)) := st.set
            go_wp2
            go_roundw
            case rel => exact ⟨i + 1, .slice va vn vc, F ++ [f], by omega, by go_num, B1', (st.block _ (by omega) (by omega) (fun e => by have := (hot.row_lt e.symm).1; omega)).trans kT, (st.block _ (by omega) (by omega) (fun e => by have := (hot.row_lt e.symm).1; omega)).trans kR, kO', hot', by have := st.size; omega, by simp only [sel]; rw [HP.out, if_pos rfl, List.map_append, ← HF.out, said_getD, HX.out]; simp [sf]⟩
            case measure => simp [intOf]; omega
          · rintro e1 Wc ⟨f, rfl, sf, hf, hb⟩
            replace st := st.below hb
            replace kO0 := (hb.block _ (blk_lt kO0)).trans kO0
            have hbc := hb
            replace B2 := Rw.next B2 hb
            have sC := hb.size
            refine ⟨_, rfl, st, fun hHeld => ?_⟩
            simp only [Act.put, List.setIfInBounds_toArray, List.set_cons_zero, List.set_cons_succ]
            refine wpAnyH_ready (rs := [1, 4]) (by kernel_rfl) (by simp) (Yh.readyRun (i := 1) rfl (by kernel_rfl) (some 23) (by kernel_rfl) (v := v) (w' := Wc) (by obtain ⟨o0, o1⟩ := Pm.two kO0; go_simp) st (fun hHeld => ?_) (Yh.readyRun (i := 4) rfl (by kernel_rfl) (some 26) (by kernel_rfl) (v := .slice (some ⟨Wc.heap.size, 0, none⟩) 1 1) (w' := Wc.alloc (.cells f.vals 41)) (exec_one rfl (by kernel_rfl)) (st.below (below_alloc1 _ _)) (fun hHeld => ?_) AllReadyH.nil))
            · simp only [Act.put, List.setIfInBounds_toArray, List.set_cons_zero, List.set_cons_succ]
              refine wpAnyH_ready (rs := [4]) (by kernel_rfl) (by simp) (Yh.readyRun (i := 4) rfl (by kernel_rfl) (some 26) (by kernel_rfl) (v := .slice (some ⟨Wc.heap.size, 0, none⟩) 1 1) (w' := Wc.alloc (.cells f.vals 41)) (exec_one rfl (by kernel_rfl)) (st.below (below_alloc1 _ _)) (fun hHeld => ?_) AllReadyH.nil)
              simp only [Act.put, List.setIfInBounds_toArray, List.set_cons_zero, List.set_cons_succ]
              obtain ⟨Wd, hWd⟩ : ∃ Wd, Wd = Wc.alloc (.cells f.vals 41) := ⟨_, rfl⟩
              rw [← hWd] at hHeld ⊢
              have hT : Wd.heap[Wc.heap.size]? = some (.cells f.vals 41 (0, 0)) := by subst hWd; exact at_new rfl
              have hb : Below Wc.heap.size Wc Wd := by subst hWd; exact below_alloc1 _ _
              replace st := st.below hb
              replace kO0 := (hb.block _ (blk_lt kO0)).trans kO0
              replace B2 := Rw.next B2 hb
              have hf2 := hf.below hb
              have hbd := Rw.next hbc hb
              clear hb hWd
              obtain ⟨v', Z, hrun, hotZ, hgr⟩ := hot0.app 36 (c := 1) hbd hf2 (Nat.le_refl _) (by omega) hT hFl
              refine wpAnyH_ready (rs := [5]) (by kernel_rfl) (by simp) (Yh.readyRun (i := 5) rfl (by kernel_rfl) (some 27) (by kernel_rfl) (exec_app (.tmp 23) (.tmp 26) rfl (by kernel_rfl) (by kernel_rfl) hrun) (st.grown hgr) (fun hHeld => ?_) AllReadyH.nil)
              simp only [Act.put, List.setIfInBounds_toArray, List.set_cons_zero, List.set_cons_succ]
              replace st := st.grown hgr
              obtain ⟨va, vn, vc, hv⟩ := hotZ.slice
              subst hv
              have kOZ := (hgr.block _ (blk_lt kO0) (fun e => by have := (hot0.row_lt e.symm).1; omega)).trans kO0
              replace B2 := B2.grown hgr B2.size (fun k hk => by have := (hot0.row_lt hk).1; omega)
              obtain ⟨o0, o1⟩ := Pm.two kOZ
              have fO := Bl.free kOZ
              refine Pq.take (i := 6) (d := some 28) (v := .pointer (some ⟨w.heap.size + 1 + 1, 1, none⟩)) rfl (by kernel_rfl) (by kernel_rfl) (by kernel_rfl) (by kernel_rfl) (fun _ _ _ h => h) (Or.inl ⟨by rfl, by intro w hSw; go_simp⟩) hHeld ?_
              simp only [Act.put, List.setIfInBounds_toArray, List.set_cons_zero, List.set_cons_succ]
              refine wpAnyH_ready (rs := [7]) (by kernel_rfl) (by simp) (Yh.readySkip (i := 7) rfl (by kernel_rfl) none (by kernel_rfl) (w' := Z.setCell ⟨w.heap.size + 1 + 1, 1, none⟩ (.slice va vn vc)) (by go_simp) st.set (fun hHeld => ?_) AllReadyH.nil)
              simp only [Act.put, List.setIfInBounds_toArray, List.set_cons_zero, List.set_cons_succ]
              refine wpAnyH_done (by kernel_rfl) ?_ _
              have kO' : (Z.setCell ⟨w.heap.size + 1 + 1, 1, none⟩ (.slice va vn vc)).heap[w.heap.size + 1 + 1]? = some (.cells #[.int .i64 q, (.slice va vn vc)] 38 (0, 0)) := blk_same kOZ
              have B1' : Below w.heap.size w (Z.setCell ⟨w.heap.size + 1 + 1, 1, none⟩ (.slice va vn vc)) := Pm.bset B2 hwo
              have hot' : OT (Z.setCell ⟨w.heap.size + 1 + 1, 1, none⟩ (.slice va vn vc)) B (.slice va vn vc) (F ++ [f]) := hotZ.keep fun x _ hx => blk_other rfl (by omega)
              replace st : Stab wr (w.heap.size + 1 + 1) v (Z.setCell ⟨w.heap.size + 1 + 1, 1, none⟩ (.slice va vn vc)) := st.set
              go_wp2
              go_roundw
              case rel => exact ⟨i + 1, .slice va vn vc, F ++ [f], by omega, by go_num, B1', (st.block _ (by omega) (by omega) (fun e => by have := (hot.row_lt e.symm).1; omega)).trans kT, (st.block _ (by omega) (by omega) (fun e => by have := (hot.row_lt e.symm).1; omega)).trans kR, kO', hot', by have := st.size; omega, by simp only [sel]; rw [HP.out, if_pos rfl, List.map_append, ← HF.out, said_getD, HX.out]; simp [sf]⟩
              case measure => simp [intOf]; omega
            · simp only [Act.put, List.setIfInBounds_toArray, List.set_cons_zero, List.set_cons_succ]
              obtain ⟨Wd, hWd⟩ : ∃ Wd, Wd = Wc.alloc (.cells f.vals 41) := ⟨_, rfl⟩
              rw [← hWd] at hHeld ⊢
              have hT : Wd.heap[Wc.heap.size]? = some (.cells f.vals 41 (0, 0)) := by subst hWd; exact at_new rfl
              have hb : Below Wc.heap.size Wc Wd := by subst hWd; exact below_alloc1 _ _
              replace st := st.below hb
              replace kO0 := (hb.block _ (blk_lt kO0)).trans kO0
              replace B2 := Rw.next B2 hb
              have hf2 := hf.below hb
              have hbd := Rw.next hbc hb
              clear hb hWd
              refine wpAnyH_ready (rs := [1]) (by kernel_rfl) (by simp) (Yh.readyRun (i := 1) rfl (by kernel_rfl) (some 23) (by kernel_rfl) (v := v) (w' := Wd) (by obtain ⟨o0, o1⟩ := Pm.two kO0; go_simp) st (fun hHeld => ?_) AllReadyH.nil)
              simp only [Act.put, List.setIfInBounds_toArray, List.set_cons_zero, List.set_cons_succ]
              obtain ⟨v', Z, hrun, hotZ, hgr⟩ := hot0.app 36 (c := 1) hbd hf2 (Nat.le_refl _) (by omega) hT hFl
              refine wpAnyH_ready (rs := [5]) (by kernel_rfl) (by simp) (Yh.readyRun (i := 5) rfl (by kernel_rfl) (some 27) (by kernel_rfl) (exec_app (.tmp 23) (.tmp 26) rfl (by kernel_rfl) (by kernel_rfl) hrun) (st.grown hgr) (fun hHeld => ?_) AllReadyH.nil)
              simp only [Act.put, List.setIfInBounds_toArray, List.set_cons_zero, List.set_cons_succ]
              replace st := st.grown hgr
              obtain ⟨va, vn, vc, hv⟩ := hotZ.slice
              subst hv
              have kOZ := (hgr.block _ (blk_lt kO0) (fun e => by have := (hot0.row_lt e.symm).1; omega)).trans kO0
              replace B2 := B2.grown hgr B2.size (fun k hk => by have := (hot0.row_lt hk).1; omega)
              obtain ⟨o0, o1⟩ := Pm.two kOZ
              have fO := Bl.free kOZ
              refine Pq.take (i := 6) (d := some 28) (v := .pointer (some ⟨w.heap.size + 1 + 1, 1, none⟩)) rfl (by kernel_rfl) (by kernel_rfl) (by kernel_rfl) (by kernel_rfl) (fun _ _ _ h => h) (Or.inl ⟨by rfl, by intro w hSw; go_simp⟩) hHeld ?_
              simp only [Act.put, List.setIfInBounds_toArray, List.set_cons_zero, List.set_cons_succ]
              refine wpAnyH_ready (rs := [7]) (by kernel_rfl) (by simp) (Yh.readySkip (i := 7) rfl (by kernel_rfl) none (by kernel_rfl) (w' := Z.setCell ⟨w.heap.size + 1 + 1, 1, none⟩ (.slice va vn vc)) (by go_simp) st.set (fun hHeld => ?_) AllReadyH.nil)
              simp only [Act.put, List.setIfInBounds_toArray, List.set_cons_zero, List.set_cons_succ]
              refine wpAnyH_done (by kernel_rfl) ?_ _
              have kO' : (Z.setCell ⟨w.heap.size + 1 + 1, 1, none⟩ (.slice va vn vc)).heap[w.heap.size + 1 + 1]? = some (.cells #[.int .i64 q, (.slice va vn vc)] 38 (0, 0)) := blk_same kOZ
              have B1' : Below w.heap.size w (Z.setCell ⟨w.heap.size + 1 + 1, 1, none⟩ (.slice va vn vc)) := Pm.bset B2 hwo
              have hot' : OT (Z.setCell ⟨w.heap.size + 1 + 1, 1, none⟩ (.slice va vn vc)) B (.slice va vn vc) (F ++ [f]) := hotZ.keep fun x _ hx => blk_other rfl (by omega)
              replace st : Stab wr (w.heap.size + 1 + 1) v (Z.setCell ⟨w.heap.size + 1 + 1, 1, none⟩ (.slice va vn vc)) := st.set
              go_wp2
              go_roundw
              case rel => exact ⟨i + 1, .slice va vn vc, F ++ [f], by omega, by go_num, B1', (st.block _ (by omega) (by omega) (fun e => by have := (hot.row_lt e.symm).1; omega)).trans kT, (st.block _ (by omega) (by omega) (fun e => by have := (hot.row_lt e.symm).1; omega)).trans kR, kO', hot', by have := st.size; omega, by simp only [sel]; rw [HP.out, if_pos rfl, List.map_append, ← HF.out, said_getD, HX.out]; simp [sf]⟩
              case measure => simp [intOf]; omega
    · obtain rfl : i = n := by omega
      obtain ⟨aF, gF, cF, rfl, _, _⟩ := hot.form (by omega)
      have hlen : F.length = (sel p (Q.map Ent.said) i).length := by rw [← HF.out]; simp
      have hz : (i : Int) - (F.length : Int) = m := by rw [hlen]; exact HM.out.symm
      have hwm : IntKind.i64.wrap m = m := by rw [IntKind.wrap_i64]; omega
      have HLen : Hid (F.length = (sel p (Q.map Ent.said) i).length) := hlen
      clear hlen hc ho hP
      go_wp2
      refine wp_region_held_drew (S := (fun w' => w'.heap[w.heap.size]? = some (.cells #[.int .i64 q, .slice a i cap] 38 (0, 0)) ∧ w'.heap[w.heap.size + 1 + 1]? = some (.cells #[.int .i64 q, .slice aF F.length cF] 38 (0, 0)))) (by kernel_rfl) ⟨kT, kO⟩ (fun hHeld => ?_)
      refine Pq.take (i := 0) (d := some 30) (v := .agg #[.int .i64 q, .slice aF F.length cF]) rfl (by kernel_rfl) (by kernel_rfl) (by kernel_rfl) (by kernel_rfl) (fun _ _ _ h => h) (Or.inl ⟨by rfl, by intro w hSw; obtain ⟨z0, z1⟩ := hSw; obtain ⟨s0, s1⟩ := Pm.two z0; obtain ⟨s2, s3⟩ := Pm.two z1; go_simp⟩) hHeld ?_
      simp only [Act.put, List.setIfInBounds_toArray, List.set_cons_zero, List.set_cons_succ]
      refine Pq.take (i := 1) (d := some 31) (v := .pointer (some ⟨w.heap.size, 1, none⟩)) rfl (by kernel_rfl) (by kernel_rfl) (by kernel_rfl) (by kernel_rfl) (fun _ _ _ h => h) (Or.inl ⟨by rfl, by intro w hSw; go_simp⟩) hHeld ?_
      simp only [Act.put, List.setIfInBounds_toArray, List.set_cons_zero, List.set_cons_succ]
      refine Pq.take (i := 2) (d := some 32) (v := .slice a i cap) rfl (by kernel_rfl) (by kernel_rfl) (by kernel_rfl) (by kernel_rfl) (fun _ _ _ h => h) (Or.inl ⟨by rfl, by intro w hSw; obtain ⟨z0, z1⟩ := hSw; obtain ⟨s0, s1⟩ := Pm.two z0; obtain ⟨s2, s3⟩ := Pm.two z1; go_simp⟩) hHeld ?_
      simp only [Act.put, List.setIfInBounds_toArray, List.set_cons_zero, List.set_cons_succ]
      refine Pq.take (i := 3) (d := some 33) (v := .int .i64 i) rfl (by kernel_rfl) (by kernel_rfl) (by kernel_rfl) (by kernel_rfl) (fun _ _ _ h => h) (Or.inl ⟨by rfl, by intro w hSw; go_simp⟩) hHeld ?_
      simp only [Act.put, List.setIfInBounds_toArray, List.set_cons_zero, List.set_cons_succ]
      refine Pq.take (i := 4) (d := some 34) (v := .pointer (some ⟨w.heap.size + 1 + 1, 1, none⟩)) rfl (by kernel_rfl) (by kernel_rfl) (by kernel_rfl) (by kernel_rfl) (fun _ _ _ h => h) (Or.inl ⟨by rfl, by intro w hSw; go_simp⟩) hHeld ?_
      simp only [Act.put, List.setIfInBounds_toArray, List.set_cons_zero, List.set_cons_succ]
      refine Pq.take (i := 5) (d := some 35) (v := .slice aF F.length cF) rfl (by kernel_rfl) (by kernel_rfl) (by kernel_rfl) (by kernel_rfl) (fun _ _ _ h => h) (Or.inl ⟨by rfl, by intro w hSw; obtain ⟨z0, z1⟩ := hSw; obtain ⟨s0, s1⟩ := Pm.two z0; obtain ⟨s2, s3⟩ := Pm.two z1; go_simp⟩) hHeld ?_
      simp only [Act.put, List.setIfInBounds_toArray, List.set_cons_zero, List.set_cons_succ]
      refine Pq.take (i := 6) (d := some 36) (v := .int .i64 F.length) rfl (by kernel_rfl) (by kernel_rfl) (by kernel_rfl) (by kernel_rfl) (fun _ _ _ h => h) (Or.inl ⟨by rfl, by intro w hSw; go_simp⟩) hHeld ?_
      simp only [Act.put, List.setIfInBounds_toArray, List.set_cons_zero, List.set_cons_succ]
      refine Pq.take (i := 7) (d := some 37) (v := .int .i64 m) rfl (by kernel_rfl) (by kernel_rfl) (by kernel_rfl) (by kernel_rfl) (fun _ _ _ h => h) (Or.inl ⟨by rfl, by intro w hSw; go_simp⟩) hHeld ?_
      simp only [Act.put, List.setIfInBounds_toArray, List.set_cons_zero, List.set_cons_succ]
      obtain ⟨r0, r1⟩ := Pm.two kR
      have fR := Bl.free kR
      refine wpAnyH_ready (rs := [8]) (by kernel_rfl) (by simp) (Yh.readySkip (i := 8) rfl (by kernel_rfl) none (by kernel_rfl) (w' := (wr.drew.setCell ⟨w.heap.size + 1, 0, none⟩ (.int .i64 q)).setCell ⟨w.heap.size + 1, 1, none⟩ (.slice aF F.length cF)) (by go_simp) ⟨blk_other (blk_other kT (by omega)) (by omega), blk_other (blk_other kO (by omega)) (by omega)⟩ (fun hHeld => ?_) AllReadyH.nil)
      simp only [Act.put, List.setIfInBounds_toArray, List.set_cons_zero, List.set_cons_succ]
      refine Pq.take (i := 9) (d := some 5) (v := .int .i64 m) rfl (by kernel_rfl) (by kernel_rfl) (by kernel_rfl) (by kernel_rfl) (fun _ _ _ h => h) (Or.inl ⟨by rfl, by intro w hSw; go_simp⟩) hHeld ?_
      simp only [Act.put, List.setIfInBounds_toArray, List.set_cons_zero, List.set_cons_succ]
      refine wpAnyH_done (by kernel_rfl) ?_ _
      go_wp2
      have y0 : (wr.setCell ⟨w.heap.size + 1, 0, none⟩ (.int .i64 q)).cell? ⟨w.heap.size + 1, 0, none⟩ = some (.int .i64 q) := (Pm.two (blk_same kR)).1
      have y1 : ((wr.setCell ⟨w.heap.size + 1, 0, none⟩ (.int .i64 q)).setCell ⟨w.heap.size + 1, 1, none⟩ (.slice aF F.length cF)).cell? ⟨w.heap.size + 1, 1, none⟩ = some (.slice aF F.length cF) := (Pm.two (blk_same (blk_same kR))).2
      exact bodyPost_ret (v := .tuple #[.agg #[.int .i64 q, .slice aF F.length cF], .int .i64 m]) (by simp [results, Try.results86, go_sem, y0, y1]) rfl ⟨_, F, rfl, ((hot.below ((Below.refl _ _).drew)).keep (fun x _ hx => blk_other (blk_other rfl (by omega)) (by omega))).mono (by omega), HF.out, Pm.bset (Pm.bset (Rw.next B1 ((Below.refl _ _).drew)) (by omega)) (by omega)⟩

def Tells131 (Q : List Ent) (w : World) (p : Nat → Bool) : Prop := ∀ k, k < Q.length → ∀ W, Below w.heap.size w W → Calls Try.prog 131 #[.agg #[.int .i64 (Q.getD k e0).ep, .int .i64 (Q.getD k e0).pr, .slice (Q.getD k e0).aV (Q.getD k e0).V.length (Q.getD k e0).cV, .slice (Q.getD k e0).aM (Q.getD k e0).M.length (Q.getD k e0).cM, .slice (Q.getD k e0).aA (Q.getD k e0).A.length (Q.getD k e0).cA, .int .i64 (Q.getD k e0).h]] W fun e w' => e = .returned (.bool (p k)) ∧ Below W.heap.size W w'
set_option maxHeartbeats 16000000 in
theorem sieve131 (q : Int) (a : Option Addr) (b off cap : Nat) (Q : List Ent) (p : Nat → Bool) (w : World) (h : Rd w a b off Q) (h4 : Q.length ≤ 400) (hP : Tells131 Q w p) (m : Int) (hm : m = (Q.length : Int) - ((sel p (Q.map Ent.said) Q.length).length : Int)) :
    Calls Try.prog 86 #[.agg #[.int .i64 q, .slice a Q.length cap], .func (.func 131) #[] #[]] w (ResT w q (sel p (Q.map Ent.said) Q.length) m) := by
  obtain ⟨W1, hW1⟩ : ∃ W1, W1 = ((w.alloc (.cells #[.int .i64 q, .slice a Q.length cap] 38)).alloc (.cells #[.int .i64 0, .slice none 0 0] 38)).alloc (.cells #[.int .i64 q, .slice none 0 0] 38) := ⟨_, rfl⟩
  have B1 : Below w.heap.size w W1 := by subst hW1; exact Rw.next (Rw.next (below_alloc1 _ _) (below_alloc1 _ _)) (below_alloc1 _ _)
  have kT : W1.heap[w.heap.size]? = some (.cells #[.int .i64 q, .slice a Q.length cap] 38 (0, 0)) := by subst hW1; rw [at_old (by simp <;> omega), at_old (by simp), at_new rfl]
  have kR : W1.heap[w.heap.size + 1]? = some (.cells #[.int .i64 0, .slice none 0 0] 38 (0, 0)) := by subst hW1; rw [at_old (by simp), at_new (by simp)]
  have kO : W1.heap[w.heap.size + 1 + 1]? = some (.cells #[.int .i64 q, .slice none 0 0] 38 (0, 0)) := by subst hW1; exact at_new (by simp)
  obtain ⟨hh, hc, ho, hs⟩ := h
  unfold Tells131 at hP
  obtain ⟨n, hn⟩ : ∃ n, n = Q.length := ⟨_, rfl⟩
  rw [← hn] at hh hc ho hs hP hW1 kT h4 hm ⊢
  have HN : Hid (n = Q.length) := hn
  have HM : Hid (m = (n : Int) - ((sel p (Q.map Ent.said) n).length : Int)) := hm
  clear hn hm
  obtain ⟨B, hB⟩ : ∃ B, B = w.heap.size + 1 + 1 + 1 := ⟨_, rfl⟩
  have zW1 : B ≤ W1.heap.size := by have := blk_lt kO; omega
  have hBo : w.heap.size + 1 + 1 < B := by omega
  have HB : Hid (B = w.heap.size + 1 + 1 + 1) := hB
  clear hB
  have hwo : w.heap.size ≤ w.heap.size + 1 + 1 := by omega
  go_enter Try.func86, Try.ntmps86
  go_wp2
  rw [← hW1]
  clear hW1
  go_loopw [15] (fun u wr => ∃ (i : Nat) (v : Value) (F : List Ent), i ≤ n ∧ u = .int .i64 i ∧ Below w.heap.size w wr ∧ wr.heap[w.heap.size]? = some (.cells #[.int .i64 q, .slice a n cap] 38 (0, 0)) ∧ wr.heap[w.heap.size + 1]? = some (.cells #[.int .i64 0, .slice none 0 0] 38 (0, 0)) ∧ wr.heap[w.heap.size + 1 + 1]? = some (.cells #[.int .i64 q, v] 38 (0, 0)) ∧ OT wr B v F ∧ B ≤ wr.heap.size ∧ F.map Ent.said = sel p (Q.map Ent.said) i) (fun u _ => n - (intOf u).toNat)
  case atStart => exact ⟨0, .slice none 0 0, [], Nat.zero_le _, rfl, B1, kT, kR, kO, OT.nil _ _, zW1, rfl⟩
  case round =>
    clear B1 kT kR kO zW1
    obtain ⟨i, v, F, hi, rfl, B1, kT, kR, kO, hot, hBs, hF⟩ := hrel
    have HF : Hid (F.map Ent.said = sel p (Q.map Ent.said) i) := hF
    have hFl : F.length ≤ 100000 := by
      have e1 := congrArg List.length hF
      have e2 := sel_len p (Q.map Ent.said) i
      simp only [List.length_map] at e1
      omega
    clear hF
    by_cases hlt : i < n
    · obtain rfl := hh (by omega)
      have hnz : (i : Int) < (n : Int) := by omega
      obtain ⟨c0, c1, c2, c3, c4, c5⟩ := ((hc i hlt).of B1 (At6.lt (hc i hlt))).six
      have ok := (ho i hlt).of B1 (Nat.le_refl _)
      obtain ⟨x, hx⟩ : ∃ x, x = Q.getD i e0 := ⟨_, rfl⟩
      have hcl := hP i hlt
      rw [← hx] at c0 c1 c2 c3 c4 c5 ok hcl
      have HX : Hid (Q.getD i e0 = x) := hx.symm
      clear hx hc ho hh hP
      obtain ⟨W2, hW2⟩ : ∃ W2, W2 = wr.alloc (.cells #[.int .i64 x.ep, .int .i64 x.pr, .slice x.aV x.V.length x.cV, .slice x.aM x.M.length x.cM, .slice x.aA x.A.length x.cA, .int .i64 x.h] 41) := ⟨_, rfl⟩
      have kE : W2.heap[wr.heap.size]? = some (.cells #[.int .i64 x.ep, .int .i64 x.pr, .slice x.aV x.V.length x.cV, .slice x.aM x.M.length x.cM, .slice x.aA x.A.length x.cA, .int .i64 x.h] 41 (0, 0)) := by subst hW2; exact at_new rfl
      have hb : Below wr.heap.size wr W2 := by subst hW2; exact below_alloc1 _ _
      have hca := hcl W2 (Rw.next B1 hb)
      have eb : ∃ eb, eb = wr.heap.size := ⟨_, rfl⟩
      obtain ⟨eb, heb⟩ := eb
      have ebB : B ≤ eb := by omega
      have ebR : ∀ k, v.ownBlock = some k → k < eb := fun k hk => by have := (hot.row_lt hk).2; omega
      replace kT := (hb.block _ (blk_lt kT)).trans kT
      replace kR := (hb.block _ (blk_lt kR)).trans kR
      replace kO := (hb.block _ (blk_lt kO)).trans kO
      replace hot := hot.below hb
      replace ok := ok.below hb
      replace B1 := Rw.next B1 hb
      have hBs2 : B ≤ W2.heap.size := Nat.le_trans hBs hb.size
      clear hb hcl hBs
      rw [← heb] at kE
      cases hp : p i
      · rw [hp] at hca
        have HP : Hid (p i = false) := hp
        clear hp
        go_wp2_with (go_at_call 131; rw [← hW2]; clear hW2; refine hca.mono ?_; rintro e1 w3 ⟨rfl, hb⟩)
        go_roundw
        case rel => exact ⟨i + 1, v, F, by omega, by go_num, Rw.next B1 hb, (hb.block _ (blk_lt kT)).trans kT, (hb.block _ (blk_lt kR)).trans kR, (hb.block _ (blk_lt kO)).trans kO, hot.below hb, Nat.le_trans hBs2 hb.size, by simp only [sel]; rw [HP.out]; exact HF.out⟩
        case measure => simp [intOf]; omega
      · rw [hp] at hca
        have HP : Hid (p i = true) := hp
        clear hp
        go_wp2_with (go_at_call 131; rw [← hW2]; clear hW2; refine hca.mono ?_; rintro e1 w3 ⟨rfl, hb⟩; replace kT := (hb.block _ (blk_lt kT)).trans kT; replace kR := (hb.block _ (blk_lt kR)).trans kR; replace kO := (hb.block _ (blk_lt kO)).trans kO; replace kE := (hb.block _ (blk_lt kE)).trans kE; replace hot := hot.below hb; replace ok := ok.below hb; replace B1 := Rw.next B1 hb; replace hBs2 := Nat.le_trans hBs2 hb.size; clear hb)
        rw [← heb]
        clear heb hca c0 c1 c2 c3 c4 c5
        generalize w3 = wr at *
        · have hcp := fun W (ok : Ent.Ok W x) => copyE x W ok
          simp only [ent_vals x] at hcp
          have lE := blk_lt kE
          have hSt : ∀ w', Stab wr (w.heap.size + 1 + 1) v w' → w'.cell? ⟨eb, 0, none⟩ = some (.int .i64 x.ep) ∧ w'.cell? ⟨eb, 1, none⟩ = some (.int .i64 x.pr) ∧ w'.cell? ⟨eb, 2, none⟩ = some (.slice x.aV x.V.length x.cV) ∧ w'.cell? ⟨eb, 3, none⟩ = some (.slice x.aM x.M.length x.cM) ∧ w'.cell? ⟨eb, 4, none⟩ = some (.slice x.aA x.A.length x.cA) ∧ w'.cell? ⟨eb, 5, none⟩ = some (.int .i64 x.h) :=
            fun w' h => six ((h.block eb lE (by omega) (fun e => by have := ebR _ e.symm; omega)).trans kE)
          refine wp_region_held_drew (S := Stab wr (w.heap.size + 1 + 1) v) (by kernel_rfl) (Stab.refl _ _ _) (fun hHeld => ?_)
          refine Pq.take (i := 0) (d := some 22) (v := .pointer (some ⟨w.heap.size + 1 + 1, 1, none⟩)) rfl (by kernel_rfl) (by kernel_rfl) (by kernel_rfl) (by kernel_rfl) (fun _ _ _ h => h) (Or.inl ⟨by rfl, by intro w hSw; go_simp⟩) hHeld ?_
          simp only [Act.put, List.setIfInBounds_toArray, List.set_cons_zero, List.set_cons_succ]
          refine Pq.take (i := 2) (d := some 24) (v := .agg #[.int .i64 x.ep, .int .i64 x.pr, .slice x.aV x.V.length x.cV, .slice x.aM x.M.length x.cM, .slice x.aA x.A.length x.cA, .int .i64 x.h]) rfl (by kernel_rfl) (by kernel_rfl) (by kernel_rfl) (by kernel_rfl) (fun _ _ _ h => h) (Or.inl ⟨by rfl, by intro w hSw; obtain ⟨s0, s1, s2, s3, s4, s5⟩ := hSt w hSw; go_simp⟩) hHeld ?_
          simp only [Act.put, List.setIfInBounds_toArray, List.set_cons_zero, List.set_cons_succ]
          have st : Stab wr (w.heap.size + 1 + 1) v wr.drew := Stab.refl _ _ _
          have hot0 : OT wr.drew B v F := hot.below ((Below.refl _ _).drew)
          have kO0 : wr.drew.heap[w.heap.size + 1 + 1]? = some (.cells #[.int .i64 q, v] 38 (0, 0)) := kO
          have ok0 := ok.below ((Below.refl wr.heap.size wr).drew)
          have B2 := Rw.next B1 ((Below.refl wr.heap.size wr).drew)
          have sW : wr.drew.heap.size = wr.heap.size := rfl
          generalize wr.drew = W at *
          refine wpAnyH_ready (rs := [1, 3]) (by kernel_rfl) (by simp) (Yh.readyRun (i := 1) rfl (by kernel_rfl) (some 23) (by kernel_rfl) (v := v) (w' := W) (by obtain ⟨o0, o1⟩ := Pm.two kO0; go_simp) st (fun hHeld => ?_) (Rg.call1 (i := 3) rfl (by rfl) 79 (.tmp 24) 41 (by kernel_rfl) 25 (by kernel_rfl) (.agg #[.int .i64 x.ep, .int .i64 x.pr, .slice x.aV x.V.length x.cV, .slice x.aM x.M.length x.cM, .slice x.aA x.A.length x.cA, .int .i64 x.h]) (by kernel_rfl) (fun _ => rfl) (hcp _ ok0) ?_ AllReadyH.nil))
          · simp only [Act.put, List.setIfInBounds_toArray, List.set_cons_zero, List.set_cons_succ]
            refine wpAnyH_ready (rs := [3]) (by kernel_rfl) (by simp) (Rg.call1 (i := 3) rfl (by rfl) 79 (.tmp 24) 41 (by kernel_rfl) 25 (by kernel_rfl) (.agg #[.int .i64 x.ep, .int .i64 x.pr, .slice x.aV x.V.length x.cV, .slice x.aM x.M.length x.cM, .slice x.aA x.A.length x.cA, .int .i64 x.h]) (by kernel_rfl) (fun _ => rfl) (hcp _ ok0) ?_ AllReadyH.nil)
            rintro e1 Wc ⟨f, rfl, sf, hf, hb⟩
            replace st := st.below hb
            replace kO0 := (hb.block _ (blk_lt kO0)).trans kO0
            have hbc := hb
            replace B2 := Rw.next B2 hb
            have sC := hb.size
            refine ⟨_, rfl, st, fun hHeld => ?_⟩
            simp only [Act.put, List.setIfInBounds_toArray, List.set_cons_zero, List.set_cons_succ]
            refine wpAnyH_ready (rs := [4]) (by kernel_rfl) (by simp) (Yh.readyRun (i := 4) rfl (by kernel_rfl) (some 26) (by kernel_rfl) (v := .slice (some ⟨Wc.heap.size, 0, none⟩) 1 1) (w' := Wc.alloc (.cells f.vals 41)) (exec_one rfl (by kernel_rfl)) (st.below (below_alloc1 _ _)) (fun hHeld => ?_) AllReadyH.nil)
            simp only [Act.put, List.setIfInBounds_toArray, List.set_cons_zero, List.set_cons_succ]
            obtain ⟨Wd, hWd⟩ : ∃ Wd, Wd = Wc.alloc (.cells f.vals 41) := ⟨_, rfl⟩
            rw [← hWd] at hHeld ⊢
            have hT : Wd.heap[Wc.heap.size]? = some (.cells f.vals 41 (0, 0)) := by subst hWd; exact at_new rfl
            have hb : Below Wc.heap.size Wc Wd := by subst hWd; exact below_alloc1 _ _
            replace st := st.below hb
            replace kO0 := (hb.block _ (blk_lt kO0)).trans kO0
            replace B2 := Rw.next B2 hb
            have hf2 := hf.below hb
            have hbd := Rw.next hbc hb
            clear hb hWd
            obtain ⟨v', Z, hrun, hotZ, hgr⟩ := hot0.app 36 (c := 1) hbd hf2 (Nat.le_refl _) (by omega) hT hFl
            refine wpAnyH_ready (rs := [5]) (by kernel_rfl) (by simp) (Yh.readyRun (i := 5) rfl (by kernel_rfl) (some 27) (by kernel_rfl) (exec_app (.tmp 23) (.tmp 26) rfl (by kernel_rfl) (by kernel_rfl) hrun) (st.grown hgr) (fun hHeld => ?_) AllReadyH.nil)
            simp only [Act.put, List.setIfInBounds_toArray, List.set_cons_zero, List.set_cons_succ]
            replace st := st.grown hgr
            obtain ⟨va, vn, vc, hv⟩ := hotZ.slice
            subst hv
            have kOZ := (hgr.block _ (blk_lt kO0) (fun e => by have := (hot0.row_lt e.symm).1; omega)).trans kO0
            replace B2 := B2.grown hgr B2.size (fun k hk => by have := (hot0.row_lt hk).1; omega)
            obtain ⟨o0, o1⟩ := Pm.two kOZ
            have fO := Bl.free kOZ
            refine Pq.take (i := 6) (d := some 28) (v := .pointer (some ⟨w.heap.size + 1 + 1, 1, none⟩)) rfl (by kernel_rfl) (by kernel_rfl) (by kernel_rfl) (by kernel_rfl) (fun _ _ _ h => h) (Or.inl ⟨by rfl, by intro w hSw; go_simp⟩) hHeld ?_
            simp only [Act.put, List.setIfInBounds_toArray, List.set_cons_zero, List.set_cons_succ]
            refine wpAnyH_ready (rs := [7]) (by kernel_rfl) (by simp) (Yh.readySkip (i := 7) rfl (by kernel_rfl) none (by kernel_rfl) (w' := Z.setCell ⟨w.heap.size + 1 + 1, 1, none⟩ (.slice va vn vc)) (by go_simp) st.set (fun hHeld => ?_) AllReadyH.nil)
            simp only [Act.put, List.setIfInBounds_toArray, List.set_cons_zero, List.set_cons_succ]
            refine wpAnyH_done (by kernel_rfl) ?_ _
            have kO' : (Z.setCell ⟨w.heap.size + 1 + 1, 1, none⟩ (.slice va vn vc)).heap[w.heap.size + 1 + 1]? = some (.cells #[.int .i64 q, (.slice va vn vc)] 38 (0, 0)) := blk_same kOZ
            have B1' : Below w.heap.size w (Z.setCell ⟨w.heap.size + 1 + 1, 1, none⟩ (.slice va vn vc)) := Pm.bset B2 hwo
            have hot' : OT (Z.setCell ⟨w.heap.size + 1 + 1, 1, none⟩ (.slice va vn vc)) B (.slice va vn vc) (F ++ [f]) := hotZ.keep fun x _ hx => blk_other rfl (by omega)
            replace st : Stab wr (w.heap.size + 1 + 1) v (Z.setCell ⟨w.heap.size + 1 + 1, 1, none⟩ (.slice va vn vc)) := st.set
            go_wp2
            go_roundw
            case rel => exact ⟨i + 1, .slice va vn vc, F ++ [f], by omega, by go_num, B1', (st.block _ (by omega) (by omega) (fun e => by have := (hot.row_lt e.symm).1; omega)).trans kT, (st.block _ (by omega) (by omega) (fun e => by have := (hot.row_lt e.symm).1; omega)).trans kR, kO', hot', by have := st.size; omega, by simp only [sel]; rw [HP.out, if_pos rfl, List.map_append, ← HF.out, said_getD, HX.out]; simp [sf]⟩
            case measure => simp [intOf]; omega
          · rintro e1 Wc ⟨f, rfl, sf, hf, hb⟩
            replace st := st.below hb
            replace kO0 := (hb.block _ (blk_lt kO0)).trans kO0
            have hbc := hb
            replace B2 := Rw.next B2 hb
            have sC := hb.size
            refine ⟨_, rfl, st, fun hHeld => ?_⟩
            simp only [Act.put, List.setIfInBounds_toArray, List.set_cons_zero, List.set_cons_succ]
            refine wpAnyH_ready (rs := [1, 4]) (by kernel_rfl) (by simp) (Yh.readyRun (i := 1) rfl (by kernel_rfl) (some 23) (by kernel_rfl) (v := v) (w' := Wc) (by obtain ⟨o0, o1⟩ := Pm.two kO0; go_simp) st (fun hHeld => ?_) (Yh.readyRun (i := 4) rfl (by kernel_rfl) (some 26) (by kernel_rfl) (v := .slice (some ⟨Wc.heap.size, 0, none⟩) 1 1) (w' := Wc.alloc (.cells f.vals 41)) (exec_one rfl (by kernel_rfl)) (st.below (below_alloc1 _ _)) (fun hHeld => ?_) AllReadyH.nil))
            · simp only [Act.put, List.setIfInBounds_toArray, List.set_cons_zero, List.set_cons_succ]
              refine wpAnyH_ready (rs := [4]) (by kernel_rfl) (by simp) (Yh.readyRun (i := 4) rfl (by kernel_rfl) (some 26) (by kernel_rfl) (v := .slice (some ⟨Wc.heap.size, 0, none⟩) 1 1) (w' := Wc.alloc (.cells f.vals 41)) (exec_one rfl (by kernel_rfl)) (st.below (below_alloc1 _ _)) (fun hHeld => ?_) AllReadyH.nil)
              simp only [Act.put, List.setIfInBounds_toArray, List.set_cons_zero, List.set_cons_succ]
              obtain ⟨Wd, hWd⟩ : ∃ Wd, Wd = Wc.alloc (.cells f.vals 41) := ⟨_, rfl⟩
              rw [← hWd] at hHeld ⊢
              have hT : Wd.heap[Wc.heap.size]? = some (.cells f.vals 41 (0, 0)) := by subst hWd; exact at_new rfl
              have hb : Below Wc.heap.size Wc Wd := by subst hWd; exact below_alloc1 _ _
              replace st := st.below hb
              replace kO0 := (hb.block _ (blk_lt kO0)).trans kO0
              replace B2 := Rw.next B2 hb
              have hf2 := hf.below hb
              have hbd := Rw.next hbc hb
              clear hb hWd
              obtain ⟨v', Z, hrun, hotZ, hgr⟩ := hot0.app 36 (c := 1) hbd hf2 (Nat.le_refl _) (by omega) hT hFl
              refine wpAnyH_ready (rs := [5]) (by kernel_rfl) (by simp) (Yh.readyRun (i := 5) rfl (by kernel_rfl) (some 27) (by kernel_rfl) (exec_app (.tmp 23) (.tmp 26) rfl (by kernel_rfl) (by kernel_rfl) hrun) (st.grown hgr) (fun hHeld => ?_) AllReadyH.nil)
              simp only [Act.put, List.setIfInBounds_toArray, List.set_cons_zero, List.set_cons_succ]
              replace st := st.grown hgr
              obtain ⟨va, vn, vc, hv⟩ := hotZ.slice
              subst hv
              have kOZ := (hgr.block _ (blk_lt kO0) (fun e => by have := (hot0.row_lt e.symm).1; omega)).trans kO0
              replace B2 := B2.grown hgr B2.size (fun k hk => by have := (hot0.row_lt hk).1; omega)
              obtain ⟨o0, o1⟩ := Pm.two kOZ
              have fO := Bl.free kOZ
              refine Pq.take (i := 6) (d := some 28) (v := .pointer (some ⟨w.heap.size + 1 + 1, 1, none⟩)) rfl (by kernel_rfl) (by kernel_rfl) (by kernel_rfl) (by kernel_rfl) (fun _ _ _ h => h) (Or.inl ⟨by rfl, by intro w hSw; go_simp⟩) hHeld ?_
              simp only [Act.put, List.setIfInBounds_toArray, List.set_cons_zero, List.set_cons_succ]
              refine wpAnyH_ready (rs := [7]) (by kernel_rfl) (by simp) (Yh.readySkip (i := 7) rfl (by kernel_rfl) none (by kernel_rfl) (w' := Z.setCell ⟨w.heap.size + 1 + 1, 1, none⟩ (.slice va vn vc)) (by go_simp) st.set (fun hHeld => ?_) AllReadyH.nil)
              simp only [Act.put, List.setIfInBounds_toArray, List.set_cons_zero, List.set_cons_succ]
              refine wpAnyH_done (by kernel_rfl) ?_ _
              have kO' : (Z.setCell ⟨w.heap.size + 1 + 1, 1, none⟩ (.slice va vn vc)).heap[w.heap.size + 1 + 1]? = some (.cells #[.int .i64 q, (.slice va vn vc)] 38 (0, 0)) := blk_same kOZ
              have B1' : Below w.heap.size w (Z.setCell ⟨w.heap.size + 1 + 1, 1, none⟩ (.slice va vn vc)) := Pm.bset B2 hwo
              have hot' : OT (Z.setCell ⟨w.heap.size + 1 + 1, 1, none⟩ (.slice va vn vc)) B (.slice va vn vc) (F ++ [f]) := hotZ.keep fun x _ hx => blk_other rfl (by omega)
              replace st : Stab wr (w.heap.size + 1 + 1) v (Z.setCell ⟨w.heap.size + 1 + 1, 1, none⟩ (.slice va vn vc)) := st.set
              go_wp2
              go_roundw
              case rel => exact ⟨i + 1, .slice va vn vc, F ++ [f], by omega, by go_num, B1', (st.block _ (by omega) (by omega) (fun e => by have := (hot.row_lt e.symm).1; omega)).trans kT, (st.block _ (by omega) (by omega) (fun e => by have := (hot.row_lt e.symm).1; omega)).trans kR, kO', hot', by have := st.size; omega, by simp only [sel]; rw [HP.out, if_pos rfl, List.map_append, ← HF.out, said_getD, HX.out]; simp [sf]⟩
              case measure => simp [intOf]; omega
            · simp only [Act.put, List.setIfInBounds_toArray, List.set_cons_zero, List.set_cons_succ]
              obtain ⟨Wd, hWd⟩ : ∃ Wd, Wd = Wc.alloc (.cells f.vals 41) := ⟨_, rfl⟩
              rw [← hWd] at hHeld ⊢
              have hT : Wd.heap[Wc.heap.size]? = some (.cells f.vals 41 (0, 0)) := by subst hWd; exact at_new rfl
              have hb : Below Wc.heap.size Wc Wd := by subst hWd; exact below_alloc1 _ _
              replace st := st.below hb
              replace kO0 := (hb.block _ (blk_lt kO0)).trans kO0
              replace B2 := Rw.next B2 hb
              have hf2 := hf.below hb
              have hbd := Rw.next hbc hb
              clear hb hWd
              refine wpAnyH_ready (rs := [1]) (by kernel_rfl) (by simp) (Yh.readyRun (i := 1) rfl (by kernel_rfl) (some 23) (by kernel_rfl) (v := v) (w' := Wd) (by obtain ⟨o0, o1⟩ := Pm.two kO0; go_simp) st (fun hHeld => ?_) AllReadyH.nil)
              simp only [Act.put, List.setIfInBounds_toArray, List.set_cons_zero, List.set_cons_succ]
              obtain ⟨v', Z, hrun, hotZ, hgr⟩ := hot0.app 36 (c := 1) hbd hf2 (Nat.le_refl _) (by omega) hT hFl
              refine wpAnyH_ready (rs := [5]) (by kernel_rfl) (by simp) (Yh.readyRun (i := 5) rfl (by kernel_rfl) (some 27) (by kernel_rfl) (exec_app (.tmp 23) (.tmp 26) rfl (by kernel_rfl) (by kernel_rfl) hrun) (st.grown hgr) (fun hHeld => ?_) AllReadyH.nil)
              simp only [Act.put, List.setIfInBounds_toArray, List.set_cons_zero, List.set_cons_succ]
              replace st := st.grown hgr
              obtain ⟨va, vn, vc, hv⟩ := hotZ.slice
              subst hv
              have kOZ := (hgr.block _ (blk_lt kO0) (fun e => by have := (hot0.row_lt e.symm).1; omega)).trans kO0
              replace B2 := B2.grown hgr B2.size (fun k hk => by have := (hot0.row_lt hk).1; omega)
              obtain ⟨o0, o1⟩ := Pm.two kOZ
              have fO := Bl.free kOZ
              refine Pq.take (i := 6) (d := some 28) (v := .pointer (some ⟨w.heap.size + 1 + 1, 1, none⟩)) rfl (by kernel_rfl) (by kernel_rfl) (by kernel_rfl) (by kernel_rfl) (fun _ _ _ h => h) (Or.inl ⟨by rfl, by intro w hSw; go_simp⟩) hHeld ?_
              simp only [Act.put, List.setIfInBounds_toArray, List.set_cons_zero, List.set_cons_succ]
              refine wpAnyH_ready (rs := [7]) (by kernel_rfl) (by simp) (Yh.readySkip (i := 7) rfl (by kernel_rfl) none (by kernel_rfl) (w' := Z.setCell ⟨w.heap.size + 1 + 1, 1, none⟩ (.slice va vn vc)) (by go_simp) st.set (fun hHeld => ?_) AllReadyH.nil)
              simp only [Act.put, List.setIfInBounds_toArray, List.set_cons_zero, List.set_cons_succ]
              refine wpAnyH_done (by kernel_rfl) ?_ _
              have kO' : (Z.setCell ⟨w.heap.size + 1 + 1, 1, none⟩ (.slice va vn vc)).heap[w.heap.size + 1 + 1]? = some (.cells #[.int .i64 q, (.slice va vn vc)] 38 (0, 0)) := blk_same kOZ
              have B1' : Below w.heap.size w (Z.setCell ⟨w.heap.size + 1 + 1, 1, none⟩ (.slice va vn vc)) := Pm.bset B2 hwo
              have hot' : OT (Z.setCell ⟨w.heap.size + 1 + 1, 1, none⟩ (.slice va vn vc)) B (.slice va vn vc) (F ++ [f]) := hotZ.keep fun x _ hx => blk_other rfl (by omega)
              replace st : Stab wr (w.heap.size + 1 + 1) v (Z.setCell ⟨w.heap.size + 1 + 1, 1, none⟩ (.slice va vn vc)) := st.set
              go_wp2
              go_roundw
              case rel => exact ⟨i + 1, .slice va vn vc, F ++ [f], by omega, by go_num, B1', (st.block _ (by omega) (by omega) (fun e => by have := (hot.row_lt e.symm).1; omega)).trans kT, (st.block _ (by omega) (by omega) (fun e => by have := (hot.row_lt e.symm).1; omega)).trans kR, kO', hot', by have := st.size; omega, by simp only [sel]; rw [HP.out, if_pos rfl, List.map_append, ← HF.out, said_getD, HX.out]; simp [sf]⟩
              case measure => simp [intOf]; omega
    · obtain rfl : i = n := by omega
      obtain ⟨aF, gF, cF, rfl, _, _⟩ := hot.form (by omega)
      have hlen : F.length = (sel p (Q.map Ent.said) i).length := by rw [← HF.out]; simp
      have hz : (i : Int) - (F.length : Int) = m := by rw [hlen]; exact HM.out.symm
      have hwm : IntKind.i64.wrap m = m := by rw [IntKind.wrap_i64]; omega
      have HLen : Hid (F.length = (sel p (Q.map Ent.said) i).length) := hlen
      clear hlen hc ho hP
      go_wp2
      refine wp_region_held_drew (S := (fun w' => w'.heap[w.heap.size]? = some (.cells #[.int .i64 q, .slice a i cap] 38 (0, 0)) ∧ w'.heap[w.heap.size + 1 + 1]? = some (.cells #[.int .i64 q, .slice aF F.length cF] 38 (0, 0)))) (by kernel_rfl) ⟨kT, kO⟩ (fun hHeld => ?_)
      refine Pq.take (i := 0) (d := some 30) (v := .agg #[.int .i64 q, .slice aF F.length cF]) rfl (by kernel_rfl) (by kernel_rfl) (by kernel_rfl) (by kernel_rfl) (fun _ _ _ h => h) (Or.inl ⟨by rfl, by intro w hSw; obtain ⟨z0, z1⟩ := hSw; obtain ⟨s0, s1⟩ := Pm.two z0; obtain ⟨s2, s3⟩ := Pm.two z1; go_simp⟩) hHeld ?_
      simp only [Act.put, List.setIfInBounds_toArray, List.set_cons_zero, List.set_cons_succ]
      refine Pq.take (i := 1) (d := some 31) (v := .pointer (some ⟨w.heap.size, 1, none⟩)) rfl (by kernel_rfl) (by kernel_rfl) (by kernel_rfl) (by kernel_rfl) (fun _ _ _ h => h) (Or.inl ⟨by rfl, by intro w hSw; go_simp⟩) hHeld ?_
      simp only [Act.put, List.setIfInBounds_toArray, List.set_cons_zero, List.set_cons_succ]
      refine Pq.take (i := 2) (d := some 32) (v := .slice a i cap) rfl (by kernel_rfl) (by kernel_rfl) (by kernel_rfl) (by kernel_rfl) (fun _ _ _ h => h) (Or.inl ⟨by rfl, by intro w hSw; obtain ⟨z0, z1⟩ := hSw; obtain ⟨s0, s1⟩ := Pm.two z0; obtain ⟨s2, s3⟩ := Pm.two z1; go_simp⟩) hHeld ?_
      simp only [Act.put, List.setIfInBounds_toArray, List.set_cons_zero, List.set_cons_succ]
      refine Pq.take (i := 3) (d := some 33) (v := .int .i64 i) rfl (by kernel_rfl) (by kernel_rfl) (by kernel_rfl) (by kernel_rfl) (fun _ _ _ h => h) (Or.inl ⟨by rfl, by intro w hSw; go_simp⟩) hHeld ?_
      simp only [Act.put, List.setIfInBounds_toArray, List.set_cons_zero, List.set_cons_succ]
      refine Pq.take (i := 4) (d := some 34) (v := .pointer (some ⟨w.heap.size + 1 + 1, 1, none⟩)) rfl (by kernel_rfl) (by kernel_rfl) (by kernel_rfl) (by kernel_rfl) (fun _ _ _ h => h) (Or.inl ⟨by rfl, by intro w hSw; go_simp⟩) hHeld ?_
      simp only [Act.put, List.setIfInBounds_toArray, List.set_cons_zero, List.set_cons_succ]
      refine Pq.take (i := 5) (d := some 35) (v := .slice aF F.length cF) rfl (by kernel_rfl) (by kernel_rfl) (by kernel_rfl) (by kernel_rfl) (fun _ _ _ h => h) (Or.inl ⟨by rfl, by intro w hSw; obtain ⟨z0, z1⟩ := hSw; obtain ⟨s0, s1⟩ := Pm.two z0; obtain ⟨s2, s3⟩ := Pm.two z1; go_simp⟩) hHeld ?_
      simp only [Act.put, List.setIfInBounds_toArray, List.set_cons_zero, List.set_cons_succ]
      refine Pq.take (i := 6) (d := some 36) (v := .int .i64 F.length) rfl (by kernel_rfl) (by kernel_rfl) (by kernel_rfl) (by kernel_rfl) (fun _ _ _ h => h) (Or.inl ⟨by rfl, by intro w hSw; go_simp⟩) hHeld ?_
      simp only [Act.put, List.setIfInBounds_toArray, List.set_cons_zero, List.set_cons_succ]
      refine Pq.take (i := 7) (d := some 37) (v := .int .i64 m) rfl (by kernel_rfl) (by kernel_rfl) (by kernel_rfl) (by kernel_rfl) (fun _ _ _ h => h) (Or.inl ⟨by rfl, by intro w hSw; go_simp⟩) hHeld ?_
      simp only [Act.put, List.setIfInBounds_toArray, List.set_cons_zero, List.set_cons_succ]
      obtain ⟨r0, r1⟩ := Pm.two kR
      have fR := Bl.free kR
      refine wpAnyH_ready (rs := [8]) (by kernel_rfl) (by simp) (Yh.readySkip (i := 8) rfl (by kernel_rfl) none (by kernel_rfl) (w' := (wr.drew.setCell ⟨w.heap.size + 1, 0, none⟩ (.int .i64 q)).setCell ⟨w.heap.size + 1, 1, none⟩ (.slice aF F.length cF)) (by go_simp) ⟨blk_other (blk_other kT (by omega)) (by omega), blk_other (blk_other kO (by omega)) (by omega)⟩ (fun hHeld => ?_) AllReadyH.nil)
      simp only [Act.put, List.setIfInBounds_toArray, List.set_cons_zero, List.set_cons_succ]
      refine Pq.take (i := 9) (d := some 5) (v := .int .i64 m) rfl (by kernel_rfl) (by kernel_rfl) (by kernel_rfl) (by kernel_rfl) (fun _ _ _ h => h) (Or.inl ⟨by rfl, by intro w hSw; go_simp⟩) hHeld ?_
      simp only [Act.put, List.setIfInBounds_toArray, List.set_cons_zero, List.set_cons_succ]
      refine wpAnyH_done (by kernel_rfl) ?_ _
      go_wp2
      have y0 : (wr.setCell ⟨w.heap.size + 1, 0, none⟩ (.int .i64 q)).cell? ⟨w.heap.size + 1, 0, none⟩ = some (.int .i64 q) := (Pm.two (blk_same kR)).1
      have y1 : ((wr.setCell ⟨w.heap.size + 1, 0, none⟩ (.int .i64 q)).setCell ⟨w.heap.size + 1, 1, none⟩ (.slice aF F.length cF)).cell? ⟨w.heap.size + 1, 1, none⟩ = some (.slice aF F.length cF) := (Pm.two (blk_same (blk_same kR))).2
      exact bodyPost_ret (v := .tuple #[.agg #[.int .i64 q, .slice aF F.length cF], .int .i64 m]) (by simp [results, Try.results86, go_sem, y0, y1]) rfl ⟨_, F, rfl, ((hot.below ((Below.refl _ _).drew)).keep (fun x _ hx => blk_other (blk_other rfl (by omega)) (by omega))).mono (by omega), HF.out, Pm.bset (Pm.bset (Rw.next B1 ((Below.refl _ _).drew)) (by omega)) (by omega)⟩

end Go.Proofs.Ytcbgnfjnjfaacaa.Cp
