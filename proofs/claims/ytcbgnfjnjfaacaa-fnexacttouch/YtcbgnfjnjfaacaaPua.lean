/-
  Contracts laid together (Cx, Cy).
-/
import Derived.Test.YtcbgnfjnjfaacaaPte
namespace Go.Proofs.Ytcbgnfjnjfaacaa.Cp
set_option maxRecDepth 8000
set_option linter.unusedSimpArgs false
set_option linter.unusedVariables false
open Go Go.RowKit
open Num Pl Ea Em Ka

theorem sel_all (L : List En) : ∀ i, i ≤ L.length → sel (fun _ => true) L i = L.take i := by
  intro i
  induction i with
  | zero => intro _; simp [sel]
  | succ i ih =>
    intro h
    have hi : i < L.length := by omega
    simp only [sel, if_true]
    rw [ih (by omega), List.take_add_one]
    simp [List.getD, hi]
theorem OT.keepU {w w' : World} {B : Nat} {v : Value} {F : List Ent} (h : OT w B v F) (hk : ∀ x, (v.ownBlock = some x ∨ ∃ f ∈ F, Uses f x) → w'.heap[x]? = w.heap[x]?) : OT w' B v F := by
  refine ⟨⟨h.own.1, ?_⟩, fun f hf => { h.each f hf with wt := (h.each f hf).wt.keep fun x hx hl => hk x (.inr ⟨f, hf, hx⟩) }, h.far, h.diff⟩
  rcases h.own.2 with ⟨e1, e2⟩ | ⟨g, cap, cur, e1, hb, hg, rest⟩
  · exact .inl ⟨e1, e2⟩
  · exact .inr ⟨g, cap, cur, e1, hb, (hk g (.inl (by rw [e1]; rfl))).trans hg, rest⟩
theorem OT.row_ne {w : World} {B ob : Nat} {v : Value} {F : List Ent} {cs : Array Value} {t : TypeId} (h : OT w B v F) (k : w.heap[ob]? = some (.cells cs t (0, 0))) (ht : t ≠ 41) : v.ownBlock ≠ some ob := by
  rcases h.own.2 with ⟨e1, e2⟩ | ⟨g, cap, cur, e1, hb, hg, rest⟩
  · rw [e1]; simp [Value.ownBlock]
  · rw [e1]
    intro e
    simp only [Value.ownBlock, Option.some.injEq] at e
    rw [e, k] at hg
    simp only [Option.some.injEq, Obj.cells.injEq] at hg
    exact ht hg.2.1
theorem OT.empty {w : World} {B g : Nat} (k : w.heap[g]? = some (.cells #[] 41 (0, 0))) (hB : B ≤ g) : OT w B (.slice (some ⟨g, 0, none⟩) 0 0) [] :=
  ⟨⟨rfl, .inr ⟨g, 0, #[], rfl, hB, k, Nat.le_refl _, by decide, rfl, rfl⟩⟩, fun _ h => by simp at h, fun _ h => by simp at h, List.Pairwise.nil⟩
/-- A table is handed back. -/
def ResP (w : World) (q : Int) (L : List En) (e : Ending) (w' : World) : Prop :=
  ∃ v F, e = .returned (.agg #[.int .i64 q, v]) ∧ OT w' w.heap.size v F ∧ F.map Ent.said = L ∧ Below w.heap.size w w'
theorem tell131 (x : Ent) (w : World) : Calls Try.prog 131 #[.agg #[.int .i64 x.ep, .int .i64 x.pr, .slice x.aV x.V.length x.cV, .slice x.aM x.M.length x.cM, .slice x.aA x.A.length x.cA, .int .i64 x.h]] w fun e w' => e = .returned (.bool true) ∧ Below w.heap.size w w' := by
  have B1 := below_alloc1 w (.cells #[.int .i64 x.ep, .int .i64 x.pr, .slice x.aV x.V.length x.cV, .slice x.aM x.M.length x.cM, .slice x.aA x.A.length x.cA, .int .i64 x.h] 41)
  go_enter Try.func131, Try.ntmps131
  go_wp2
  go_ret
  exact ⟨rfl, B1⟩

set_option maxHeartbeats 4000000 in
theorem copyTI (q : Int) (a : Option Addr) (b off cap : Nat) (Q : List Ent) (w : World) (h : Rd w a b off Q) (h4 : Q.length ≤ 400) :
    Calls Try.prog 78 #[.agg #[.int .i64 q, .slice a Q.length cap]] w (ResP w q (Q.map Ent.said)) := by
  obtain ⟨W1, hW1⟩ : ∃ W1, W1 = (w.alloc (.cells #[.int .i64 q, .slice a Q.length cap] 38)).alloc (.cells #[.int .i64 0, .slice none 0 0] 38) := ⟨_, rfl⟩
  have B1 : Below w.heap.size w W1 := by subst hW1; exact Rw.next (below_alloc1 _ _) (below_alloc1 _ _)
  have k2 : W1.heap[w.heap.size + 1]? = some (.cells #[.int .i64 0, .slice none 0 0] 38 (0, 0)) := by subst hW1; exact at_new (by simp)
  replace h := h.below B1
  have hc := sieve131 q a b off cap Q (fun _ => true) W1 h h4 (fun k hk W hW => tell131 _ W) _ rfl
  rw [sel_all _ _ (by simp)] at hc
  have e0 : (Q.map Ent.said).take Q.length = Q.map Ent.said := List.take_of_length_le (by simp)
  rw [e0] at hc
  clear e0
  generalize ((Q.length : Int) - ((Q.map Ent.said).length : Int)) = m at hc
  go_enter Try.func78, Try.ntmps78
  go_wp2_with (go_at_call 86; rw [← hW1]; clear hW1; refine hc.mono ?_; rintro x wb ⟨v, F, rfl, hot, hF, hb⟩; have lo := blk_lt k2; replace k2 := (hb.block _ (blk_lt k2)).trans k2; replace B1 := Rw.next B1 hb; obtain ⟨va, vn, vc, rfl⟩ := hot.slice; have hb2 := below_alloc1 wb (.cells #[.int .i64 q, .slice va vn vc] 38); replace k2 := (hb2.block _ (blk_lt k2)).trans k2; replace hot := hot.below hb2; replace B1 := Rw.next B1 hb2; obtain ⟨r0, r1⟩ := Pm.two k2; have fR := Bl.free k2; clear hb hb2)
  refine bodyPost_ret (v := .agg #[.int .i64 q, .slice va vn vc]) (by simp [results, Try.results78, go_sem, r0, r1]) rfl ⟨_, F, rfl, (hot.keep (fun x _ hx => ?_)).mono (by omega), hF, ?_⟩
  · exact blk_other (blk_other rfl (by omega)) (by omega)
  · exact Pm.bset (Pm.bset B1 (by omega)) (by omega)

set_option maxHeartbeats 16000000 in
theorem copyTS (q : Int) (a : Option Addr) (b off cap : Nat) (Q : List Ent) (w : World) (h : Rd w a b off Q) (h4 : Q.length ≤ 400) :
    Calls Try.prog 81 #[.agg #[.int .i64 q, .slice a Q.length cap]] w (ResP w q (Q.map Ent.said)) := by
  obtain ⟨W1, hW1⟩ : ∃ W1, W1 = (((w.alloc (.cells #[.int .i64 q, .slice a Q.length cap] 38)).alloc (.cells #[.int .i64 0, .slice none 0 0] 38)).alloc (.cells #[] 41)).alloc (.cells #[.int .i64 q, .slice (some ⟨w.heap.size + 1 + 1, 0, none⟩) 0 0] 38) := ⟨_, rfl⟩
  obtain ⟨hh, hc, ho, hs⟩ := h
  obtain ⟨n, hn⟩ : ∃ n, n = Q.length := ⟨_, rfl⟩
  rw [← hn] at hh hc ho hs hW1 h4 ⊢
  have HN : Hid (n = Q.length) := hn
  clear hn
  have B1 : Below w.heap.size w W1 := by subst hW1; exact Rw.next (Rw.next (Rw.next (below_alloc1 _ _) (below_alloc1 _ _)) (below_alloc1 _ _)) (below_alloc1 _ _)
  have kT : W1.heap[w.heap.size]? = some (.cells #[.int .i64 q, .slice a n cap] 38 (0, 0)) := by subst hW1; rw [at_old (by simp <;> omega), at_old (by simp <;> omega), at_old (by simp), at_new rfl]
  have kR : W1.heap[w.heap.size + 1]? = some (.cells #[.int .i64 0, .slice none 0 0] 38 (0, 0)) := by subst hW1; rw [at_old (by simp <;> omega), at_old (by simp), at_new (by simp)]
  have kE : W1.heap[w.heap.size + 1 + 1]? = some (.cells #[] 41 (0, 0)) := by subst hW1; rw [at_old (by simp), at_new (by simp)]
  have kO : W1.heap[w.heap.size + 1 + 1 + 1]? = some (.cells #[.int .i64 q, .slice (some ⟨w.heap.size + 1 + 1, 0, none⟩) 0 0] 38 (0, 0)) := by subst hW1; exact at_new (by simp)
  obtain ⟨B, hB⟩ : ∃ B, B = w.heap.size + 1 + 1 := ⟨_, rfl⟩
  have zW1 : w.heap.size + 1 + 1 + 1 < W1.heap.size := blk_lt kO
  have hot0 : OT W1 B (.slice (some ⟨w.heap.size + 1 + 1, 0, none⟩) 0 0) [] := OT.empty kE (by omega)
  have hBo : w.heap.size + 1 < B := by omega
  have hBs1 : B ≤ w.heap.size + 1 + 1 + 1 := by omega
  have hwo : w.heap.size ≤ w.heap.size + 1 + 1 + 1 := by omega
  clear hB kE
  go_enter Try.func81, Try.ntmps81
  go_wp2
  rw [← hW1]
  clear hW1
  go_loopw [12] (fun u wr => ∃ (i : Nat) (v : Value) (F : List Ent), i ≤ n ∧ u = .int .i64 i ∧ Below w.heap.size w wr ∧ wr.heap[w.heap.size]? = some (.cells #[.int .i64 q, .slice a n cap] 38 (0, 0)) ∧ wr.heap[w.heap.size + 1]? = some (.cells #[.int .i64 0, .slice none 0 0] 38 (0, 0)) ∧ wr.heap[w.heap.size + 1 + 1 + 1]? = some (.cells #[.int .i64 q, v] 38 (0, 0)) ∧ OT wr B v F ∧ w.heap.size + 1 + 1 + 1 < wr.heap.size ∧ v.ownBlock ≠ some (w.heap.size + 1 + 1 + 1) ∧ (∀ y ∈ F, ∀ x, Uses y x → x ≠ w.heap.size + 1 + 1 + 1) ∧ F.map Ent.said = sel (fun _ => true) (Q.map Ent.said) i) (fun u _ => n - (intOf u).toNat)
  case atStart => exact ⟨0, _, [], Nat.zero_le _, rfl, B1, kT, kR, kO, hot0, zW1, by simp [Value.ownBlock], fun y hy => by simp at hy, rfl⟩
  case round =>
    clear B1 kT kR kO zW1 hot0
    obtain ⟨i, v, F, hi, rfl, B1, kT, kR, kO, hot, hBs, hn1, hn2, hF⟩ := hrel
    have HF : Hid (F.map Ent.said = sel (fun _ => true) (Q.map Ent.said) i) := hF
    have hFl : F.length ≤ 100000 := by
      have e1 := congrArg List.length hF
      have e2 := sel_len (fun _ => true) (Q.map Ent.said) i
      simp only [List.length_map] at e1
      omega
    clear hF
    by_cases hlt : i < n
    · obtain rfl := hh (by omega)
      have hnz : (i : Int) < (n : Int) := by omega
      have lb : b < w.heap.size := At6.lt (hc i hlt)
      obtain ⟨c0, c1, c2, c3, c4, c5⟩ := ((hc i hlt).of B1 lb).six
      have ok := (ho i hlt).of B1 (Nat.le_refl _)
      obtain ⟨x, hx⟩ : ∃ x, x = Q.getD i e0 := ⟨_, rfl⟩
      rw [← hx] at c0 c1 c2 c3 c4 c5 ok
      have HX : Hid (Q.getD i e0 = x) := hx.symm
      clear hx hc ho hh
      obtain ⟨p0, p1⟩ := Pm.two kT
      have sT := blk_lt kT
      have sR := blk_lt kR
      · go_wp2
        have hcp := fun W (ok : Ent.Ok W x) => copyS x W ok
        simp only [ent_vals x] at hcp
        have hSt : ∀ w', Stab wr (w.heap.size + 1 + 1 + 1) v w' → w'.cell? ⟨w.heap.size, 0, none⟩ = some (.int .i64 q) ∧ w'.cell? ⟨w.heap.size, 1, none⟩ = some (.slice (some ⟨b, off, none⟩) n cap) ∧ w'.cell? ⟨b, off + i * 6, none⟩ = some (.int .i64 x.ep) ∧ w'.cell? ⟨b, off + i * 6 + 1, none⟩ = some (.int .i64 x.pr) ∧ w'.cell? ⟨b, off + i * 6 + 2, none⟩ = some (.slice x.aV x.V.length x.cV) ∧ w'.cell? ⟨b, off + i * 6 + 3, none⟩ = some (.slice x.aM x.M.length x.cM) ∧ w'.cell? ⟨b, off + i * 6 + 4, none⟩ = some (.slice x.aA x.A.length x.cA) ∧ w'.cell? ⟨b, off + i * 6 + 5, none⟩ = some (.int .i64 x.h) := by
          intro w' hst
          have hkb := hst.block b (by omega) (by omega) (fun e => by have := (hot.row_lt e.symm).1; omega)
          have hcb : ∀ j, w'.cell? ⟨b, j, none⟩ = wr.cell? ⟨b, j, none⟩ := fun j => by simp only [World.cell?, hkb]
          have hkt := Pm.two ((hst.block w.heap.size sT (by omega) (fun e => by have := (hot.row_lt e.symm).1; omega)).trans kT)
          exact ⟨hkt.1, hkt.2, (hcb _).trans c0, (hcb _).trans c1, (hcb _).trans c2, (hcb _).trans c3, (hcb _).trans c4, (hcb _).trans c5⟩
        clear c0 c1 c2 c3 c4 c5 p0 p1
        refine wp_region_held_drew (S := Stab wr (w.heap.size + 1 + 1 + 1) v) (by kernel_rfl) (Stab.refl _ _ _) (fun hHeld => ?_)
        refine Pq.take (i := 0) (d := some 15) (v := .pointer (some ⟨w.heap.size + 1 + 1 + 1, 1, none⟩)) rfl (by kernel_rfl) (by kernel_rfl) (by kernel_rfl) (by kernel_rfl) (fun _ _ _ h => h) (Or.inl ⟨by rfl, by intro w hSw; go_simp⟩) hHeld ?_
        simp only [Act.put, List.setIfInBounds_toArray, List.set_cons_zero, List.set_cons_succ]
        refine Pq.take (i := 2) (d := some 17) (v := .pointer (some ⟨w.heap.size, 1, none⟩)) rfl (by kernel_rfl) (by kernel_rfl) (by kernel_rfl) (by kernel_rfl) (fun _ _ _ h => h) (Or.inl ⟨by rfl, by intro w hSw; go_simp⟩) hHeld ?_
        simp only [Act.put, List.setIfInBounds_toArray, List.set_cons_zero, List.set_cons_succ]
        refine Pq.take (i := 3) (d := some 18) (v := .slice (some ⟨b, off, none⟩) n cap) rfl (by kernel_rfl) (by kernel_rfl) (by kernel_rfl) (by kernel_rfl) (fun _ _ _ h => h) (Or.inl ⟨by rfl, by intro w hSw; obtain ⟨u0, u1, s0, s1, s2, s3, s4, s5⟩ := hSt w hSw; go_simp⟩) hHeld ?_
        simp only [Act.put, List.setIfInBounds_toArray, List.set_cons_zero, List.set_cons_succ]
        refine Pq.take (i := 4) (d := some 19) (v := .int .i64 i) rfl (by kernel_rfl) (by kernel_rfl) (by kernel_rfl) (by kernel_rfl) (fun _ _ _ h => h) (Or.inl ⟨by rfl, by intro w hSw; go_simp⟩) hHeld ?_
        simp only [Act.put, List.setIfInBounds_toArray, List.set_cons_zero, List.set_cons_succ]
        refine Pq.take (i := 5) (d := some 20) (v := .pointer (some ⟨b, off + i * 6, none⟩)) rfl (by kernel_rfl) (by kernel_rfl) (by kernel_rfl) (by kernel_rfl) (fun _ _ _ h => h) (Or.inl ⟨by rfl, by intro w hSw; go_simp⟩) hHeld ?_
        simp only [Act.put, List.setIfInBounds_toArray, List.set_cons_zero, List.set_cons_succ]
        refine Pq.take (i := 6) (d := some 21) (v := .agg #[.int .i64 x.ep, .int .i64 x.pr, .slice x.aV x.V.length x.cV, .slice x.aM x.M.length x.cM, .slice x.aA x.A.length x.cA, .int .i64 x.h]) rfl (by kernel_rfl) (by kernel_rfl) (by kernel_rfl) (by kernel_rfl) (fun _ _ _ h => h) (Or.inl ⟨by rfl, by intro w hSw; obtain ⟨u0, u1, s0, s1, s2, s3, s4, s5⟩ := hSt w hSw; go_simp⟩) hHeld ?_
        simp only [Act.put, List.setIfInBounds_toArray, List.set_cons_zero, List.set_cons_succ]
        have st : Stab wr (w.heap.size + 1 + 1 + 1) v wr.drew := Stab.refl _ _ _
        have hot0 : OT wr.drew B v F := hot.below ((Below.refl _ _).drew)
        have kO0 : wr.drew.heap[w.heap.size + 1 + 1 + 1]? = some (.cells #[.int .i64 q, v] 38 (0, 0)) := kO
        have ok0 := ok.below ((Below.refl wr.heap.size wr).drew)
        have B2 := Rw.next B1 ((Below.refl wr.heap.size wr).drew)
        have sW : wr.drew.heap.size = wr.heap.size := rfl
        generalize wr.drew = W at *
        refine wpAnyH_ready (rs := [1, 7]) (by kernel_rfl) (by simp) (Yh.readyRun (i := 1) rfl (by kernel_rfl) (some 16) (by kernel_rfl) (v := v) (w' := W) (by obtain ⟨o0, o1⟩ := Pm.two kO0; go_simp) st (fun hHeld => ?_) (Rg.call1 (i := 7) rfl (by rfl) 83 (.tmp 21) 41 (by kernel_rfl) 22 (by kernel_rfl) (.agg #[.int .i64 x.ep, .int .i64 x.pr, .slice x.aV x.V.length x.cV, .slice x.aM x.M.length x.cM, .slice x.aA x.A.length x.cA, .int .i64 x.h]) (by kernel_rfl) (fun _ => rfl) (hcp _ ok0) ?_ AllReadyH.nil))
        · simp only [Act.put, List.setIfInBounds_toArray, List.set_cons_zero, List.set_cons_succ]
          refine wpAnyH_ready (rs := [7]) (by kernel_rfl) (by simp) (Rg.call1 (i := 7) rfl (by rfl) 83 (.tmp 21) 41 (by kernel_rfl) 22 (by kernel_rfl) (.agg #[.int .i64 x.ep, .int .i64 x.pr, .slice x.aV x.V.length x.cV, .slice x.aM x.M.length x.cM, .slice x.aA x.A.length x.cA, .int .i64 x.h]) (by kernel_rfl) (fun _ => rfl) (hcp _ ok0) ?_ AllReadyH.nil)
          rintro e1 Wc ⟨f, rfl, sf, hf, hb⟩
          replace st := st.below hb
          replace kO0 := (hb.block _ (blk_lt kO0)).trans kO0
          have hbc := hb
          replace B2 := Rw.next B2 hb
          have sC := hb.size
          refine ⟨_, rfl, st, fun hHeld => ?_⟩
          simp only [Act.put, List.setIfInBounds_toArray, List.set_cons_zero, List.set_cons_succ]
          refine wpAnyH_ready (rs := [8]) (by kernel_rfl) (by simp) (Yh.readyRun (i := 8) rfl (by kernel_rfl) (some 23) (by kernel_rfl) (v := .slice (some ⟨Wc.heap.size, 0, none⟩) 1 1) (w' := Wc.alloc (.cells f.vals 41)) (exec_one rfl (by kernel_rfl)) (st.below (below_alloc1 _ _)) (fun hHeld => ?_) AllReadyH.nil)
          simp only [Act.put, List.setIfInBounds_toArray, List.set_cons_zero, List.set_cons_succ]
          obtain ⟨Wd, hWd⟩ : ∃ Wd, Wd = Wc.alloc (.cells f.vals 41) := ⟨_, rfl⟩
          rw [← hWd] at hHeld ⊢
          have hT : Wd.heap[Wc.heap.size]? = some (.cells f.vals 41 (0, 0)) := by subst hWd; exact at_new rfl
          have hb : Below Wc.heap.size Wc Wd := by subst hWd; exact below_alloc1 _ _
          replace st := st.below hb
          replace kO0 := (hb.block _ (blk_lt kO0)).trans kO0
          replace B2 := Rw.next B2 hb
          have hf2 := hf.below hb
          have hbd := Rw.next hbc hb
          clear hb hWd
          obtain ⟨v', Z, hrun, hotZ, hgr⟩ := hot0.app 36 (c := 1) hbd hf2 (Nat.le_refl _) (by omega) hT hFl
          refine wpAnyH_ready (rs := [9]) (by kernel_rfl) (by simp) (Yh.readyRun (i := 9) rfl (by kernel_rfl) (some 24) (by kernel_rfl) (exec_app (.tmp 16) (.tmp 23) rfl (by kernel_rfl) (by kernel_rfl) hrun) (st.grown hgr) (fun hHeld => ?_) AllReadyH.nil)
          simp only [Act.put, List.setIfInBounds_toArray, List.set_cons_zero, List.set_cons_succ]
          replace st := st.grown hgr
          obtain ⟨va, vn, vc, hv⟩ := hotZ.slice
          subst hv
          have kOZ := (hgr.block _ (blk_lt kO0) (fun e => hn1 e.symm)).trans kO0
          replace B2 := B2.grown hgr B2.size (fun k hk => by have := (hot0.row_lt hk).1; omega)
          obtain ⟨o0, o1⟩ := Pm.two kOZ
          have fO := Bl.free kOZ
          refine Pq.take (i := 10) (d := some 25) (v := .pointer (some ⟨w.heap.size + 1 + 1 + 1, 1, none⟩)) rfl (by kernel_rfl) (by kernel_rfl) (by kernel_rfl) (by kernel_rfl) (fun _ _ _ h => h) (Or.inl ⟨by rfl, by intro w hSw; go_simp⟩) hHeld ?_
          simp only [Act.put, List.setIfInBounds_toArray, List.set_cons_zero, List.set_cons_succ]
          refine wpAnyH_ready (rs := [11]) (by kernel_rfl) (by simp) (Yh.readySkip (i := 11) rfl (by kernel_rfl) none (by kernel_rfl) (w' := Z.setCell ⟨w.heap.size + 1 + 1 + 1, 1, none⟩ (.slice va vn vc)) (by go_simp) st.set (fun hHeld => ?_) AllReadyH.nil)
          simp only [Act.put, List.setIfInBounds_toArray, List.set_cons_zero, List.set_cons_succ]
          refine wpAnyH_done (by kernel_rfl) ?_ _
          have kO' : (Z.setCell ⟨w.heap.size + 1 + 1 + 1, 1, none⟩ (.slice va vn vc)).heap[w.heap.size + 1 + 1 + 1]? = some (.cells #[.int .i64 q, (.slice va vn vc)] 38 (0, 0)) := blk_same kOZ
          have B1' : Below w.heap.size w (Z.setCell ⟨w.heap.size + 1 + 1 + 1, 1, none⟩ (.slice va vn vc)) := Pm.bset B2 hwo
          have hn1' := hotZ.row_ne kOZ (by decide); have hn2' : ∀ y ∈ F ++ [f], ∀ x, Uses y x → x ≠ (w.heap.size + 1 + 1 + 1) := (fun y hy x hx => by rcases List.mem_append.1 hy with hy | hy; exact hn2 y hy x hx; obtain rfl := List.mem_singleton.1 hy; have := hf.lo x hx; omega); have hot' : OT (Z.setCell ⟨w.heap.size + 1 + 1 + 1, 1, none⟩ (.slice va vn vc)) B (.slice va vn vc) (F ++ [f]) := hotZ.keepU fun x hx => blk_other rfl (by rcases hx with hx | ⟨y, hy, hx⟩; exact fun e => hn1' (e ▸ hx); exact fun e => hn2' y hy x hx e.symm)
          replace st : Stab wr (w.heap.size + 1 + 1 + 1) v (Z.setCell ⟨w.heap.size + 1 + 1 + 1, 1, none⟩ (.slice va vn vc)) := st.set
          go_wp2
          go_roundw
          case rel => exact ⟨i + 1, .slice va vn vc, F ++ [f], by omega, by go_num, B1', (st.block _ (by omega) (by omega) (fun e => by have := (hot.row_lt e.symm).1; omega)).trans kT, (st.block _ (by omega) (by omega) (fun e => by have := (hot.row_lt e.symm).1; omega)).trans kR, kO', hot', by have := st.size; omega, hn1', hn2', by simp only [sel, if_true]; rw [List.map_append, ← HF.out, said_getD, HX.out]; simp [sf]⟩
          case measure => simp [intOf]; omega
        · rintro e1 Wc ⟨f, rfl, sf, hf, hb⟩
          replace st := st.below hb
          replace kO0 := (hb.block _ (blk_lt kO0)).trans kO0
          have hbc := hb
          replace B2 := Rw.next B2 hb
          have sC := hb.size
          refine ⟨_, rfl, st, fun hHeld => ?_⟩
          simp only [Act.put, List.setIfInBounds_toArray, List.set_cons_zero, List.set_cons_succ]
          refine wpAnyH_ready (rs := [1, 8]) (by kernel_rfl) (by simp) (Yh.readyRun (i := 1) rfl (by kernel_rfl) (some 16) (by kernel_rfl) (v := v) (w' := Wc) (by obtain ⟨o0, o1⟩ := Pm.two kO0; go_simp) st (fun hHeld => ?_) (Yh.readyRun (i := 8) rfl (by kernel_rfl) (some 23) (by kernel_rfl) (v := .slice (some ⟨Wc.heap.size, 0, none⟩) 1 1) (w' := Wc.alloc (.cells f.vals 41)) (exec_one rfl (by kernel_rfl)) (st.below (below_alloc1 _ _)) (fun hHeld => ?_) AllReadyH.nil))
          · simp only [Act.put, List.setIfInBounds_toArray, List.set_cons_zero, List.set_cons_succ]
            refine wpAnyH_ready (rs := [8]) (by kernel_rfl) (by simp) (Yh.readyRun (i := 8) rfl (by kernel_rfl) (some 23) (by kernel_rfl) (v := .slice (some ⟨Wc.heap.size, 0, none⟩) 1 1) (w' := Wc.alloc (.cells f.vals 41)) (exec_one rfl (by kernel_rfl)) (st.below (below_alloc1 _ _)) (fun hHeld => ?_) AllReadyH.nil)
            simp only [Act.put, List.setIfInBounds_toArray, List.set_cons_zero, List.set_cons_succ]
            obtain ⟨Wd, hWd⟩ : ∃ Wd, Wd = Wc.alloc (.cells f.vals 41) := ⟨_, rfl⟩
            rw [← hWd] at hHeld ⊢
            have hT : Wd.heap[Wc.heap.size]? = some (.cells f.vals 41 (0, 0)) := by subst hWd; exact at_new rfl
            have hb : Below Wc.heap.size Wc Wd := by subst hWd; exact below_alloc1 _ _
            replace st := st.below hb
            replace kO0 := (hb.block _ (blk_lt kO0)).trans kO0
            replace B2 := Rw.next B2 hb
            have hf2 := hf.below hb
            have hbd := Rw.next hbc hb
            clear hb hWd
            obtain ⟨v', Z, hrun, hotZ, hgr⟩ := hot0.app 36 (c := 1) hbd hf2 (Nat.le_refl _) (by omega) hT hFl
            refine wpAnyH_ready (rs := [9]) (by kernel_rfl) (by simp) (Yh.readyRun (i := 9) rfl (by kernel_rfl) (some 24) (by kernel_rfl) (exec_app (.tmp 16) (.tmp 23) rfl (by kernel_rfl) (by kernel_rfl) hrun) (st.grown hgr) (fun hHeld => ?_) AllReadyH.nil)
            simp only [Act.put, List.setIfInBounds_toArray, List.set_cons_zero, List.set_cons_succ]
            replace st := st.grown hgr
            obtain ⟨va, vn, vc, hv⟩ := hotZ.slice
            subst hv
            have kOZ := (hgr.block _ (blk_lt kO0) (fun e => hn1 e.symm)).trans kO0
            replace B2 := B2.grown hgr B2.size (fun k hk => by have := (hot0.row_lt hk).1; omega)
            obtain ⟨o0, o1⟩ := Pm.two kOZ
            have fO := Bl.free kOZ
            refine Pq.take (i := 10) (d := some 25) (v := .pointer (some ⟨w.heap.size + 1 + 1 + 1, 1, none⟩)) rfl (by kernel_rfl) (by kernel_rfl) (by kernel_rfl) (by kernel_rfl) (fun _ _ _ h => h) (Or.inl ⟨by rfl, by intro w hSw; go_simp⟩) hHeld ?_
            simp only [Act.put, List.setIfInBounds_toArray, List.set_cons_zero, List.set_cons_succ]
            refine wpAnyH_ready (rs := [11]) (by kernel_rfl) (by simp) (Yh.readySkip (i := 11) rfl (by kernel_rfl) none (by kernel_rfl) (w' := Z.setCell ⟨w.heap.size + 1 + 1 + 1, 1, none⟩ (.slice va vn vc)) (by go_simp) st.set (fun hHeld => ?_) AllReadyH.nil)
            simp only [Act.put, List.setIfInBounds_toArray, List.set_cons_zero, List.set_cons_succ]
            refine wpAnyH_done (by kernel_rfl) ?_ _
            have kO' : (Z.setCell ⟨w.heap.size + 1 + 1 + 1, 1, none⟩ (.slice va vn vc)).heap[w.heap.size + 1 + 1 + 1]? = some (.cells #[.int .i64 q, (.slice va vn vc)] 38 (0, 0)) := blk_same kOZ
            have B1' : Below w.heap.size w (Z.setCell ⟨w.heap.size + 1 + 1 + 1, 1, none⟩ (.slice va vn vc)) := Pm.bset B2 hwo
            have hn1' := hotZ.row_ne kOZ (by decide); have hn2' : ∀ y ∈ F ++ [f], ∀ x, Uses y x → x ≠ (w.heap.size + 1 + 1 + 1) := (fun y hy x hx => by rcases List.mem_append.1 hy with hy | hy; exact hn2 y hy x hx; obtain rfl := List.mem_singleton.1 hy; have := hf.lo x hx; omega); have hot' : OT (Z.setCell ⟨w.heap.size + 1 + 1 + 1, 1, none⟩ (.slice va vn vc)) B (.slice va vn vc) (F ++ [f]) := hotZ.keepU fun x hx => blk_other rfl (by rcases hx with hx | ⟨y, hy, hx⟩; exact fun e => hn1' (e ▸ hx); exact fun e => hn2' y hy x hx e.symm)
            replace st : Stab wr (w.heap.size + 1 + 1 + 1) v (Z.setCell ⟨w.heap.size + 1 + 1 + 1, 1, none⟩ (.slice va vn vc)) := st.set
            go_wp2
            go_roundw
            case rel => exact ⟨i + 1, .slice va vn vc, F ++ [f], by omega, by go_num, B1', (st.block _ (by omega) (by omega) (fun e => by have := (hot.row_lt e.symm).1; omega)).trans kT, (st.block _ (by omega) (by omega) (fun e => by have := (hot.row_lt e.symm).1; omega)).trans kR, kO', hot', by have := st.size; omega, hn1', hn2', by simp only [sel, if_true]; rw [List.map_append, ← HF.out, said_getD, HX.out]; simp [sf]⟩
            case measure => simp [intOf]; omega
          · simp only [Act.put, List.setIfInBounds_toArray, List.set_cons_zero, List.set_cons_succ]
            obtain ⟨Wd, hWd⟩ : ∃ Wd, Wd = Wc.alloc (.cells f.vals 41) := ⟨_, rfl⟩
            rw [← hWd] at hHeld ⊢
            have hT : Wd.heap[Wc.heap.size]? = some (.cells f.vals 41 (0, 0)) := by subst hWd; exact at_new rfl
            have hb : Below Wc.heap.size Wc Wd := by subst hWd; exact below_alloc1 _ _
            replace st := st.below hb
            replace kO0 := (hb.block _ (blk_lt kO0)).trans kO0
            replace B2 := Rw.next B2 hb
            have hf2 := hf.below hb
            have hbd := Rw.next hbc hb
            clear hb hWd
            refine wpAnyH_ready (rs := [1]) (by kernel_rfl) (by simp) (Yh.readyRun (i := 1) rfl (by kernel_rfl) (some 16) (by kernel_rfl) (v := v) (w' := Wd) (by obtain ⟨o0, o1⟩ := Pm.two kO0; go_simp) st (fun hHeld => ?_) AllReadyH.nil)
            simp only [Act.put, List.setIfInBounds_toArray, List.set_cons_zero, List.set_cons_succ]
            obtain ⟨v', Z, hrun, hotZ, hgr⟩ := hot0.app 36 (c := 1) hbd hf2 (Nat.le_refl _) (by omega) hT hFl
            refine wpAnyH_ready (rs := [9]) (by kernel_rfl) (by simp) (Yh.readyRun (i := 9) rfl (by kernel_rfl) (some 24) (by kernel_rfl) (exec_app (.tmp 16) (.tmp 23) rfl (by kernel_rfl) (by kernel_rfl) hrun) (st.grown hgr) (fun hHeld => ?_) AllReadyH.nil)
            simp only [Act.put, List.setIfInBounds_toArray, List.set_cons_zero, List.set_cons_succ]
            replace st := st.grown hgr
            obtain ⟨va, vn, vc, hv⟩ := hotZ.slice
            subst hv
            have kOZ := (hgr.block _ (blk_lt kO0) (fun e => hn1 e.symm)).trans kO0
            replace B2 := B2.grown hgr B2.size (fun k hk => by have := (hot0.row_lt hk).1; omega)
            obtain ⟨o0, o1⟩ := Pm.two kOZ
            have fO := Bl.free kOZ
            refine Pq.take (i := 10) (d := some 25) (v := .pointer (some ⟨w.heap.size + 1 + 1 + 1, 1, none⟩)) rfl (by kernel_rfl) (by kernel_rfl) (by kernel_rfl) (by kernel_rfl) (fun _ _ _ h => h) (Or.inl ⟨by rfl, by intro w hSw; go_simp⟩) hHeld ?_
            simp only [Act.put, List.setIfInBounds_toArray, List.set_cons_zero, List.set_cons_succ]
            refine wpAnyH_ready (rs := [11]) (by kernel_rfl) (by simp) (Yh.readySkip (i := 11) rfl (by kernel_rfl) none (by kernel_rfl) (w' := Z.setCell ⟨w.heap.size + 1 + 1 + 1, 1, none⟩ (.slice va vn vc)) (by go_simp) st.set (fun hHeld => ?_) AllReadyH.nil)
            simp only [Act.put, List.setIfInBounds_toArray, List.set_cons_zero, List.set_cons_succ]
            refine wpAnyH_done (by kernel_rfl) ?_ _
            have kO' : (Z.setCell ⟨w.heap.size + 1 + 1 + 1, 1, none⟩ (.slice va vn vc)).heap[w.heap.size + 1 + 1 + 1]? = some (.cells #[.int .i64 q, (.slice va vn vc)] 38 (0, 0)) := blk_same kOZ
            have B1' : Below w.heap.size w (Z.setCell ⟨w.heap.size + 1 + 1 + 1, 1, none⟩ (.slice va vn vc)) := Pm.bset B2 hwo
            have hn1' := hotZ.row_ne kOZ (by decide); have hn2' : ∀ y ∈ F ++ [f], ∀ x, Uses y x → x ≠ (w.heap.size + 1 + 1 + 1) := (fun y hy x hx => by rcases List.mem_append.1 hy with hy | hy; exact hn2 y hy x hx; obtain rfl := List.mem_singleton.1 hy; have := hf.lo x hx; omega); have hot' : OT (Z.setCell ⟨w.heap.size + 1 + 1 + 1, 1, none⟩ (.slice va vn vc)) B (.slice va vn vc) (F ++ [f]) := hotZ.keepU fun x hx => blk_other rfl (by rcases hx with hx | ⟨y, hy, hx⟩; exact fun e => hn1' (e ▸ hx); exact fun e => hn2' y hy x hx e.symm)
            replace st : Stab wr (w.heap.size + 1 + 1 + 1) v (Z.setCell ⟨w.heap.size + 1 + 1 + 1, 1, none⟩ (.slice va vn vc)) := st.set
            go_wp2
            go_roundw
            case rel => exact ⟨i + 1, .slice va vn vc, F ++ [f], by omega, by go_num, B1', (st.block _ (by omega) (by omega) (fun e => by have := (hot.row_lt e.symm).1; omega)).trans kT, (st.block _ (by omega) (by omega) (fun e => by have := (hot.row_lt e.symm).1; omega)).trans kR, kO', hot', by have := st.size; omega, hn1', hn2', by simp only [sel, if_true]; rw [List.map_append, ← HF.out, said_getD, HX.out]; simp [sf]⟩
            case measure => simp [intOf]; omega
    · obtain rfl : i = n := by omega
      obtain ⟨va, vn, vc, rfl⟩ := hot.slice
      obtain ⟨o0, o1⟩ := Pm.two kO
      obtain ⟨r0, r1⟩ := Pm.two kR
      have fR := Bl.free kR
      have hF : F.map Ent.said = Q.map Ent.said := by
        have e1 := HF.out
        rw [sel_all _ _ (by simp; exact Nat.le_of_eq HN.out), HN.out] at e1
        rw [e1]
        exact List.take_of_length_le (by simp)
      clear hc ho
      go_wp2
      refine bodyPost_ret (v := .agg #[.int .i64 q, .slice va vn vc]) (by simp [results, Try.results81, go_sem, r0, r1]) rfl ⟨_, F, rfl, (hot.keep (fun x _ hx => ?_)).mono (by omega), hF, ?_⟩
      · exact blk_other (blk_other rfl (by omega)) (by omega)
      · exact Pm.bset (Pm.bset B1 (by omega)) (by omega)

end Go.Proofs.Ytcbgnfjnjfaacaa.Cp
namespace Go.Proofs.Ytcbgnfjnjfaacaa.Cp
set_option maxRecDepth 8000
set_option linter.unusedSimpArgs false
set_option linter.unusedVariables false
open Go Go.RowKit
open Num Pl Ea Em Ka

/-- An entry that was hit once more. -/
def hitE (x : En) : En := (x.1, x.2.1, x.2.2.1, x.2.2.2.1, x.2.2.2.2.1, if x.2.2.2.2.2 < 1000000000 then x.2.2.2.2.2 + 1 else x.2.2.2.2.2)
def hitL (L : List En) (i : Nat) : List En := L.set i (hitE (L.getD i x0))
/-- What Touch answers. -/
def TouchA (q : Int) (L : List En) (k : Int) (q' : Int) (L' : List En) (m : Bool) : Prop :=
  (TabP q L ∧ ∃ i : Nat, k = i ∧ i < L.length ∧ q' = q ∧ L' = hitL L i ∧ m = true) ∨ (¬ (TabP q L ∧ ∃ i : Nat, k = i ∧ i < L.length) ∧ q' = 0 ∧ L' = [] ∧ m = false)
theorem touch_some (q : Int) (L : List En) (k : Int) : ∃ q' L' m, TouchA q L k q' L' m := by
  rcases Classical.em (TabP q L ∧ ∃ i : Nat, k = i ∧ i < L.length) with h | h
  · obtain ⟨t, i, e1, e2⟩ := h
    exact ⟨_, _, _, .inl ⟨t, i, e1, e2, rfl, rfl, rfl⟩⟩
  · exact ⟨_, _, _, .inr ⟨h, rfl, rfl, rfl⟩⟩
theorem touch_len {q : Int} {L : List En} {k : Int} {q' : Int} {L' : List En} {m : Bool} (h : TouchA q L k q' L' m) : L'.length ≤ 400 := by
  rcases h with ⟨t, i, _, _, _, rfl, _⟩ | ⟨_, _, rfl, _⟩
  · have := t.len
    have := t.q1
    simp [hitL]
    omega
  · simp
theorem enB_h {x : En} (h : enB x = true) : 0 ≤ x.2.2.2.2.2 ∧ x.2.2.2.2.2 ≤ 1000000000 := by
  simp only [enB, upB, Bool.and_eq_true, decide_eq_true_eq] at h
  omega
def hitF (e : Ent) (h : Int) : Ent := { e with h := h }
theorem setD {F : List Ent} {i j : Nat} {f : Ent} (hi : i < F.length) : (F.set i f).getD j e0 = if j = i then f else F.getD j e0 := by
  by_cases h : j = i
  · subst h; simp [List.getD, hi]
  · rw [if_neg h]; simp [List.getD, List.getElem?_set, Ne.symm h]
theorem valAt_hit {F : List Ent} {i j : Nat} {h : Int} (hi : i < F.length) : valAt (F.set i (hitF (F.getD i e0) h)) j = if j = i * 6 + 5 then .int .i64 h else valAt F j := by
  unfold valAt
  rw [setD hi]
  by_cases e : j / 6 = i
  · rw [if_pos e]
    have h6 : j % 6 < 6 := Nat.mod_lt _ (by omega)
    by_cases e5 : j % 6 = 5
    · rw [if_pos (by omega), e5]; simp [hitF, Ent.vals]
    · rw [if_neg (by omega), e]
      have : j % 6 = 0 ∨ j % 6 = 1 ∨ j % 6 = 2 ∨ j % 6 = 3 ∨ j % 6 = 4 := by omega
      rcases this with e | e | e | e | e <;> rw [e] <;> simp [hitF, Ent.vals]
  · rw [if_neg e, if_neg (by omega)]
theorem uses_hit {e : Ent} {h : Int} {x : Nat} : Uses (hitF e h) x ↔ Uses e x := Iff.rfl
/-- The hits of one entry written anew. -/
theorem OT.hit {w : World} {B g cap : Nat} {F : List Ent} {i : Nat} (h : OT w B (.slice (some ⟨g, 0, none⟩) F.length cap) F) (hi : i < F.length) (hh : Int) :
    OT (w.setCell ⟨g, i * 6 + 5, none⟩ (.int .i64 hh)) B (.slice (some ⟨g, 0, none⟩) F.length cap) (F.set i (hitF (F.getD i e0) hh)) := by
  have hfar : ∀ f ∈ F, ∀ x, Uses f x → g ≠ x := fun f hf x hx e => h.far f hf x hx (by simp [Value.ownBlock, e])
  have hm : ∀ f ∈ F.set i (hitF (F.getD i e0) hh), ∃ f0 ∈ F, NewE B w f0 → (NewE B w f ∧ ∀ x, Uses f x ↔ Uses f0 x) := fun f hf => by
    rcases List.mem_or_eq_of_mem_set hf with h1 | h1
    · exact ⟨f, h1, fun h => ⟨h, fun _ => Iff.rfl⟩⟩
    · subst h1
      exact ⟨_, getD_mem hi, fun h => ⟨⟨⟨h.wt.V, h.wt.M, h.wt.A⟩, ⟨h.own.d1, h.own.d2, h.own.d3⟩, h.lo, h.wV, h.wM, h.oV, h.oM, h.oA⟩, fun _ => Iff.rfl⟩⟩
  refine ⟨⟨?_, .inr ?_⟩, fun f hf => ?_, fun f hf x hx => ?_, ?_⟩
  · rw [flatE_len]
  · rcases h.own.2 with ⟨e1, e2⟩ | ⟨g', cap', cur, e1, hb, hg, hn, hx, hz, ht⟩
    · simp at e1
    · simp only [Value.slice.injEq, Option.some.injEq, Addr.mk.injEq] at e1
      obtain ⟨⟨rfl, _, _⟩, _, rfl⟩ := e1
      refine ⟨g, cap, cur.setIfInBounds (i * 6 + 5) (.int .i64 hh), by simp, hb, blk_same hg, by simpa using hn, hx, by simpa using hz, ?_⟩
      apply List.ext_getElem?
      intro j
      have e0 : (F.set i (hitF (F.getD i e0) hh)).length = F.length := by simp
      by_cases hj : j < F.length * 6
      · rw [e0, List.getElem?_take, if_pos hj, flatE_at _ j (by rw [e0]; exact hj), valAt_hit hi]
        have e := congrArg (fun l => l[j]?) ht
        simp only [List.getElem?_take, if_pos hj, flatE_at F j hj] at e
        rw [Array.toList_setIfInBounds, List.getElem?_set]
        by_cases ej : j = i * 6 + 5
        · rw [if_pos ej, if_pos ej.symm, if_pos]
          have := (List.getElem?_eq_some_iff.1 e).1
          omega
        · rw [if_neg ej, if_neg (Ne.symm ej)]; exact e
      · rw [e0, List.getElem?_take, if_neg hj, List.getElem?_eq_none]
        rw [flatE_len, e0]; omega
  · obtain ⟨f0, h0, hn⟩ := hm f hf
    obtain ⟨hn, hu⟩ := hn (h.each f0 h0)
    exact { hn with wt := hn.wt.keep fun x hx _ => blk_other rfl (hfar f0 h0 x ((hu x).1 hx)) }
  · obtain ⟨f0, h0, hn⟩ := hm f hf
    obtain ⟨hn, hu⟩ := hn (h.each f0 h0)
    exact h.far f0 h0 x ((hu x).1 hx)
  · have hd := List.pairwise_iff_getElem.1 h.diff
    rw [List.pairwise_iff_getElem]
    intro a b ha hb hab
    simp only [List.length_set] at ha hb
    have up : ∀ c (hc : c < F.length), ∀ x, Uses ((F.set i (hitF (F.getD i e0) hh))[c]'(by simpa using hc)) x ↔ Uses F[c] x := fun c hc x => by
      rw [List.getElem_set]
      split
      · rename_i e; subst e; simp [List.getD, hc, uses_hit]
      · exact Iff.rfl
    exact fun x hx y hy => hd a b ha hb hab x ((up a ha x).1 hx) y ((up b hb y).1 hy)
theorem row_h {w : World} {g : Nat} {F : List Ent} {i : Nat} (h : WtF w g F.length (at_ F)) (hi : i < F.length) : w.cell? ⟨g, i * 6 + 5, none⟩ = some (.int .i64 (F.getD i e0).h) := by
  have e := h.row (i * 6 + 5) (by omega)
  have e1 : (i * 6 + 5) / 6 = i := by omega
  have e2 : (i * 6 + 5) % 6 = 5 := by omega
  rw [e]
  simp only [vf, e1, e2]
  rfl
theorem said_h {F Q : List Ent} (h : F.map Ent.said = Q.map Ent.said) (i : Nat) : (F.getD i e0).h = (Q.getD i e0).h := by
  have e := congrArg (fun l => l.getD i x0) h
  simp only [said_getD] at e
  exact congrArg (fun x : En => x.2.2.2.2.2) e
theorem said_hit {F : List Ent} {L : List En} {i : Nat} {hh : Int} (hF : F.map Ent.said = L) (hi : i < F.length) (he : hh = if (F.getD i e0).h < 1000000000 then (F.getD i e0).h + 1 else (F.getD i e0).h) :
    (F.set i (hitF (F.getD i e0) hh)).map Ent.said = hitL L i := by
  subst hF
  rw [List.map_set, hitL, said_getD]
  congr 1
  rw [he]; rfl
theorem same_hit {F : List Ent} {L : List En} {i : Nat} (hF : F.map Ent.said = L) (hi : i < F.length) (he : ¬ (F.getD i e0).h < 1000000000) : F.map Ent.said = hitL L i := by
  subst hF
  have : hitE ((F.map Ent.said).getD i x0) = (F.map Ent.said)[i]'(by simpa using hi) := by
    rw [said_getD]
    have e1 : (F.getD i e0) = F[i] := by simp [List.getD, hi]
    rw [e1] at he ⊢
    simp only [List.getElem_map]
    simp [hitE, Ent.said, he]
  rw [hitL, this, List.set_getElem_self]
theorem blk_alloc {w : World} {r : Nat} {X o : Obj} (k : w.heap[r]? = some o) : (w.alloc X).heap[r]? = some o := (at_old (blk_lt k)).trans k
theorem cell_of {w : World} {r j : Nat} {cs : Array Value} {t : TypeId} (k : w.heap[r]? = some (.cells cs t (0, 0))) : w.cell? ⟨r, j, none⟩ = cs[j]? := by simp [World.cell?, k]
section
variable {w : World} {g r i : Nat} {X : Obj} {x0 x1 : Value} (k : w.heap[r]? = some (.cells #[x0, x1] 38 (0, 0)))
include k
theorem pulled1 (hg : g ≠ r) (u : Value) (j : Nat) : ((w.setCell ⟨g, i, none⟩ u).alloc X).frozen? ⟨r, j, none⟩ = false := Bl.free (blk_alloc (blk_other k hg)) j
theorem pulled2 (hg : g ≠ r) (u v : Value) (j : Nat) : (((w.setCell ⟨g, i, none⟩ u).setCell ⟨r, 0, none⟩ v).alloc X).frozen? ⟨r, j, none⟩ = false := Bl.free (blk_alloc (blk_same (blk_other k hg))) j
theorem pulled3 (v : Value) (j : Nat) : ((w.setCell ⟨r, 0, none⟩ v).alloc X).frozen? ⟨r, j, none⟩ = false := Bl.free (blk_alloc (blk_same k)) j
theorem pulled4 (hg : g ≠ r) (u : Value) : ((w.setCell ⟨g, i, none⟩ u).alloc X).cell? ⟨r, 0, none⟩ = some x0 := (cell_of (blk_alloc (blk_other k hg))).trans rfl
theorem pulled5 (hg : g ≠ r) (u v : Value) : (((w.setCell ⟨g, i, none⟩ u).setCell ⟨r, 0, none⟩ v).alloc X).cell? ⟨r, 1, none⟩ = some x1 := (cell_of (blk_alloc (blk_same (blk_other k hg)))).trans rfl
theorem pulled6 (v : Value) : ((w.setCell ⟨r, 0, none⟩ v).alloc X).cell? ⟨r, 1, none⟩ = some x1 := (cell_of (blk_alloc (blk_same k))).trans rfl
theorem pulled7 (hg : g ≠ r) (u v v1 : Value) : ((((w.setCell ⟨g, i, none⟩ u).setCell ⟨r, 0, none⟩ v).setCell ⟨r, 1, none⟩ v1).alloc X).cell? ⟨r, 0, none⟩ = some v ∧ ((((w.setCell ⟨g, i, none⟩ u).setCell ⟨r, 0, none⟩ v).setCell ⟨r, 1, none⟩ v1).alloc X).cell? ⟨r, 1, none⟩ = some v1 :=
  ⟨(cell_of (blk_alloc (blk_same (blk_same (blk_other k hg))))).trans rfl, (cell_of (blk_alloc (blk_same (blk_same (blk_other k hg))))).trans rfl⟩
theorem pulled8 (v v1 : Value) : (((w.setCell ⟨r, 0, none⟩ v).setCell ⟨r, 1, none⟩ v1).alloc X).cell? ⟨r, 0, none⟩ = some v ∧ (((w.setCell ⟨r, 0, none⟩ v).setCell ⟨r, 1, none⟩ v1).alloc X).cell? ⟨r, 1, none⟩ = some v1 :=
  ⟨(cell_of (blk_alloc (blk_same (blk_same k)))).trans rfl, (cell_of (blk_alloc (blk_same (blk_same k)))).trans rfl⟩
end
/-- A table and a verdict are handed back. -/
def ResB (w : World) (q : Int) (L : List En) (m : Bool) (e : Ending) (w' : World) : Prop :=
  ∃ v F, e = .returned (.tuple #[.agg #[.int .i64 q, v], .bool m]) ∧ OT w' w.heap.size v F ∧ F.map Ent.said = L ∧ Below w.heap.size w w'

set_option maxHeartbeats 16000000 in
theorem touchI (q k : Int) (a : Option Addr) (b off cap : Nat) (Q : List Ent) (w : World) (h : Rd w a b off Q) (q' : Int) (L' : List En) (m : Bool) (hr : TouchA q (Q.map Ent.said) k q' L' m) :
    Calls Try.prog 55 #[.agg #[.int .i64 q, .slice a Q.length cap], .int .i64 k] w (ResB w q' L' m) := by
  obtain ⟨W1, hW1⟩ : ∃ W1, W1 = (w.alloc (.cells #[.int .i64 q, .slice a Q.length cap] 38)).alloc (.cells #[.int .i64 0, .slice none 0 0] 38) := ⟨_, rfl⟩
  have B1 : Below w.heap.size w W1 := by subst hW1; exact Rw.next (below_alloc1 _ _) (below_alloc1 _ _)
  have kT : W1.heap[w.heap.size]? = some (.cells #[.int .i64 q, .slice a Q.length cap] 38 (0, 0)) := by subst hW1; rw [at_old (by simp), at_new rfl]
  have kR : W1.heap[w.heap.size + 1]? = some (.cells #[.int .i64 0, .slice none 0 0] 38 (0, 0)) := by subst hW1; exact at_new (by simp)
  replace h := h.below B1
  obtain ⟨R, hR⟩ := em_bool (TabP q (Q.map Ent.said))
  have ht := fun W hW => tabI q a b off cap Q W hW R hR
  have key : R = false ∨ k < 0 ∨ (Q.length : Int) ≤ k ∨ (R = true ∧ ∃ i : Nat, k = i ∧ i < Q.length) := by
    cases R
    · exact .inl rfl
    · rcases Int.lt_or_le k 0 with h1 | h1
      · exact .inr (.inl h1)
      · rcases Int.lt_or_le k Q.length with h2 | h2
        · exact .inr (.inr (.inr ⟨rfl, k.toNat, by omega, by omega⟩))
        · exact .inr (.inr (.inl h2))
  rcases key with rfl | h1 | h1 | ⟨rfl, i, rfl, hi⟩
  · obtain ⟨rfl, rfl, rfl⟩ : q' = 0 ∧ L' = [] ∧ m = false := by
      rcases hr with ⟨t, i, e1, e2, _⟩ | ⟨_, h1⟩
      · exact absurd (hR.2 t) (by decide)
      · exact h1
    clear hr hR
    by_cases h1 : k < 0
    rotate_left
    by_cases h3 : (Q.length : Int) ≤ k
    all_goals
      go_enter Try.func55, Try.ntmps55
      go_wp2_with (go_at_call 26; rw [← hW1]; clear hW1; refine (ht _ h).mono ?_; rintro x wa ⟨rfl, hb⟩; replace kT := (hb.block _ (blk_lt kT)).trans kT; replace kR := (hb.block _ (blk_lt kR)).trans kR; replace B1 := Rw.next B1 hb; clear hb; obtain ⟨p0, p1⟩ := Pm.two kT; obtain ⟨r0, r1⟩ := Pm.two kR; have fR := Bl.free kR)
      refine bodyPost_ret (v := .tuple #[.agg #[.int .i64 0, .slice none 0 0], .bool false]) (by simp [results, Try.results55, go_sem, r0, r1]) rfl ⟨_, [], rfl, OT.nil _ _, rfl, ?_⟩
      repeat (first | with_reducible exact B1 | refine Pm.bset ?_ (by omega))
  
  · obtain ⟨rfl, rfl, rfl⟩ : q' = 0 ∧ L' = [] ∧ m = false := by
      rcases hr with ⟨t, i, e1, e2, _⟩ | ⟨_, h1⟩
      · omega
      · exact h1
    clear hr hR
    cases R
    all_goals
      go_enter Try.func55, Try.ntmps55
      go_wp2_with (go_at_call 26; rw [← hW1]; clear hW1; refine (ht _ h).mono ?_; rintro x wa ⟨rfl, hb⟩; replace kT := (hb.block _ (blk_lt kT)).trans kT; replace kR := (hb.block _ (blk_lt kR)).trans kR; replace B1 := Rw.next B1 hb; clear hb; obtain ⟨p0, p1⟩ := Pm.two kT; obtain ⟨r0, r1⟩ := Pm.two kR; have fR := Bl.free kR)
      refine bodyPost_ret (v := .tuple #[.agg #[.int .i64 0, .slice none 0 0], .bool false]) (by simp [results, Try.results55, go_sem, r0, r1]) rfl ⟨_, [], rfl, OT.nil _ _, rfl, ?_⟩
      repeat (first | with_reducible exact B1 | refine Pm.bset ?_ (by omega))
  
  · obtain ⟨rfl, rfl, rfl⟩ : q' = 0 ∧ L' = [] ∧ m = false := by
      rcases hr with ⟨t, i, e1, e2, _⟩ | ⟨_, h1⟩
      · simp only [List.length_map] at e2; omega
      · exact h1
    clear hr hR
    have h2 : ¬ k < 0 := by omega
    have h3 : (Q.length : Int) ≤ k := h1
    clear h1
    cases R
    all_goals
      go_enter Try.func55, Try.ntmps55
      go_wp2_with (go_at_call 26; rw [← hW1]; clear hW1; refine (ht _ h).mono ?_; rintro x wa ⟨rfl, hb⟩; replace kT := (hb.block _ (blk_lt kT)).trans kT; replace kR := (hb.block _ (blk_lt kR)).trans kR; replace B1 := Rw.next B1 hb; clear hb; obtain ⟨p0, p1⟩ := Pm.two kT; obtain ⟨r0, r1⟩ := Pm.two kR; have fR := Bl.free kR)
      refine bodyPost_ret (v := .tuple #[.agg #[.int .i64 0, .slice none 0 0], .bool false]) (by simp [results, Try.results55, go_sem, r0, r1]) rfl ⟨_, [], rfl, OT.nil _ _, rfl, ?_⟩
      repeat (first | with_reducible exact B1 | refine Pm.bset ?_ (by omega))
  
  obtain ⟨ht1, rfl, rfl, rfl⟩ : TabP q (Q.map Ent.said) ∧ q' = q ∧ L' = hitL (Q.map Ent.said) i ∧ m = true := by
    rcases hr with ⟨t, j, e1, e2, e3, e4, e5⟩ | ⟨h1, _⟩
    · obtain rfl : i = j := by omega
      exact ⟨t, e3, e4, e5⟩
    · exact absurd ⟨hR.1 rfl, i, rfl, by simpa using hi⟩ h1
  have h4 := tab_len ht1
  have hrg := enB_h (ht1.each i (by simpa using hi))
  rw [said_getD] at hrg
  obtain ⟨H, hH⟩ : ∃ H, H = (Q.getD i e0).h := ⟨_, rfl⟩
  have HHQ : Hid ((Q.getD i e0).h = H) := hH.symm
  have hrg1 : 0 ≤ H ∧ H ≤ 1000000000 := by rw [hH]; exact hrg
  have hwr : IntKind.i64.wrap (H + 1) = H + 1 := by rw [IntKind.wrap_i64]; omega
  clear hrg hH
  clear hR ht1
  have hni : ¬ ((i : Int) < 0) := by omega
  have hil : ¬ ((Q.length : Int) ≤ (i : Int)) := by omega
  go_enter Try.func55, Try.ntmps55
  go_wp2_with (first
    | (go_at_call 26; rw [← hW1]; clear hW1; refine (ht _ h).mono ?_; rintro x wa ⟨rfl, hb⟩; replace kT := (hb.block _ (blk_lt kT)).trans kT; replace kR := (hb.block _ (blk_lt kR)).trans kR; replace h := h.below hb; replace B1 := Rw.next B1 hb; clear hb ht; obtain ⟨p0, p1⟩ := Pm.two kT)
    | (go_at_call 78; refine (copyTI _ _ _ _ _ Q _ h h4).mono ?_; rintro x wb ⟨v, F, rfl, hot, hF, hb⟩; have lo := blk_lt kR; replace kR := (hb.block _ (blk_lt kR)).trans kR; replace B1 := Rw.next B1 hb; clear hb; have hiF : i < F.length := (by have e1 := congrArg List.length hF; simp only [List.length_map] at e1; omega); have hFl : F.length ≤ 400 := (by have e1 := congrArg List.length hF; simp only [List.length_map] at e1; omega); obtain ⟨va, gF, cF, rfl, hfm, _⟩ := hot.form (by omega); obtain rfl := hfm.head (by omega); have gl := (hot.row_lt (k := gF) rfl).2; have hgB := (hot.row_lt (k := gF) rfl).1; have lR := (blk_lt kR); have hgo : gF ≠ wb.heap.size := (by omega); have hgo2 : wb.heap.size ≠ gF := (by omega); have hgR : gF ≠ w.heap.size + 1 := (by omega); have hgR2 : w.heap.size + 1 ≠ gF := (by omega); have hH2 := said_h hF i; rw [HHQ.out] at hH2; have hb2 := below_alloc1 wb (.cells #[.int .i64 q', .slice (some ⟨gF, 0, none⟩) F.length cF] 38); have kR2 := (hb2.block _ (blk_lt kR)).trans kR; have hfm2 := hfm.below hb2; have e6 := row_h hfm2.wt hiF; rw [hH2] at e6; have f5 := hfm2.wt.free (i * 6 + 5) (by omega); have HF : Hid (F.map Ent.said = Q.map Ent.said) := hF; have HH2 : Hid ((F.getD i e0).h = H) := hH2; clear hb2 hfm hfm2 h kT p0 p1 hF hH2; obtain ⟨r0, r1⟩ := Pm.two kR2; have fR := Bl.free kR2; have hiZ : (i : Int) < (F.length : Int) := (by omega)))
  obtain ⟨ob, hob⟩ : ∃ ob, ob = wb.heap.size := ⟨_, rfl⟩
  obtain ⟨wr, hwrr⟩ : ∃ wr, wr = wb.alloc (.cells #[.int .i64 q', .slice (some ⟨gF, 0, none⟩) F.length cF] 38) := ⟨_, rfl⟩
  have kO : wr.heap[ob]? = some (.cells #[.int .i64 q', .slice (some ⟨gF, 0, none⟩) F.length cF] 38 (0, 0)) := by subst hwrr; exact at_new hob
  have hb3 : Below wb.heap.size wb wr := by subst hwrr; exact below_alloc1 _ _
  rw [← hob] at hgo hgo2 lR
  rw [← hwrr] at e6 f5 ⊢
  rw [← hob]
  replace kR := (hb3.block _ (blk_lt kR)).trans kR
  replace B1 := Rw.next B1 hb3
  replace hot := hot.below hb3
  clear hwrr hob hb3 kR2 r0 r1 fR gl
  obtain ⟨H1, hH1⟩ : ∃ H1, H1 = if H < 1000000000 then H + 1 else H := ⟨_, rfl⟩
  have hmin : min (H + 1) 1000000000 = H1 := by rw [hH1]; split <;> omega
  refine wp_region_held_drew (S := (fun w' => w'.heap[ob]? = some (.cells #[.int .i64 q', .slice (some ⟨gF, 0, none⟩) F.length cF] 38 (0, 0)))) (by kernel_rfl) kO (fun hHeld => ?_)
  refine Pq.take (i := 0) (d := some 24) (v := .pointer (some ⟨ob, 1, none⟩)) rfl (by kernel_rfl) (by kernel_rfl) (by kernel_rfl) (by kernel_rfl) (fun _ _ _ h => h) (Or.inl ⟨by rfl, by intro w hSw; go_simp⟩) hHeld ?_
  simp only [Act.put, List.setIfInBounds_toArray, List.set_cons_zero, List.set_cons_succ]
  refine Pq.take (i := 1) (d := some 25) (v := .slice (some ⟨gF, 0, none⟩) F.length cF) rfl (by kernel_rfl) (by kernel_rfl) (by kernel_rfl) (by kernel_rfl) (fun _ _ _ h => h) (Or.inl ⟨by rfl, by intro w hSw; obtain ⟨s0, s1⟩ := Pm.two hSw; go_simp⟩) hHeld ?_
  simp only [Act.put, List.setIfInBounds_toArray, List.set_cons_zero, List.set_cons_succ]
  refine Pq.take (i := 2) (d := some 26) (v := .int .i64 i) rfl (by kernel_rfl) (by kernel_rfl) (by kernel_rfl) (by kernel_rfl) (fun _ _ _ h => h) (Or.inl ⟨by rfl, by intro w hSw; go_simp⟩) hHeld ?_
  simp only [Act.put, List.setIfInBounds_toArray, List.set_cons_zero, List.set_cons_succ]
  refine Pq.take (i := 3) (d := some 27) (v := .pointer (some ⟨ob, 1, none⟩)) rfl (by kernel_rfl) (by kernel_rfl) (by kernel_rfl) (by kernel_rfl) (fun _ _ _ h => h) (Or.inl ⟨by rfl, by intro w hSw; go_simp⟩) hHeld ?_
  simp only [Act.put, List.setIfInBounds_toArray, List.set_cons_zero, List.set_cons_succ]
  refine Pq.take (i := 4) (d := some 28) (v := .slice (some ⟨gF, 0, none⟩) F.length cF) rfl (by kernel_rfl) (by kernel_rfl) (by kernel_rfl) (by kernel_rfl) (fun _ _ _ h => h) (Or.inl ⟨by rfl, by intro w hSw; obtain ⟨s0, s1⟩ := Pm.two hSw; go_simp⟩) hHeld ?_
  simp only [Act.put, List.setIfInBounds_toArray, List.set_cons_zero, List.set_cons_succ]
  refine Pq.take (i := 5) (d := some 29) (v := .int .i64 i) rfl (by kernel_rfl) (by kernel_rfl) (by kernel_rfl) (by kernel_rfl) (fun _ _ _ h => h) (Or.inl ⟨by rfl, by intro w hSw; go_simp⟩) hHeld ?_
  simp only [Act.put, List.setIfInBounds_toArray, List.set_cons_zero, List.set_cons_succ]
  refine Pq.take (i := 6) (d := some 30) (v := .pointer (some ⟨gF, i * 6, none⟩)) rfl (by kernel_rfl) (by kernel_rfl) (by kernel_rfl) (by kernel_rfl) (fun _ _ _ h => h) (Or.inl ⟨by rfl, by intro w hSw; go_simp⟩) hHeld ?_
  simp only [Act.put, List.setIfInBounds_toArray, List.set_cons_zero, List.set_cons_succ]
  refine Pq.take (i := 7) (d := some 31) (v := .pointer (some ⟨gF, i * 6 + 5, none⟩)) rfl (by kernel_rfl) (by kernel_rfl) (by kernel_rfl) (by kernel_rfl) (fun _ _ _ h => h) (Or.inl ⟨by rfl, by intro w hSw; go_simp⟩) hHeld ?_
  simp only [Act.put, List.setIfInBounds_toArray, List.set_cons_zero, List.set_cons_succ]
  have e6' : wr.drew.cell? ⟨gF, i * 6 + 5, none⟩ = some (.int .i64 H) := e6
  have f5' : wr.drew.frozen? ⟨gF, i * 6 + 5, none⟩ = false := f5
  refine wpAnyH_ready (rs := [8]) (by kernel_rfl) (by simp) (Yh.readyRun (i := 8) rfl (by kernel_rfl) (some 32) (by kernel_rfl) (v := .int .i64 H) (w' := wr.drew) (by go_simp) kO (fun hHeld => ?_) AllReadyH.nil)
  simp only [Act.put, List.setIfInBounds_toArray, List.set_cons_zero, List.set_cons_succ]
  refine Pq.take (i := 9) (d := some 33) (v := .int .i64 (H + 1)) rfl (by kernel_rfl) (by kernel_rfl) (by kernel_rfl) (by kernel_rfl) (fun _ _ _ h => h) (Or.inl ⟨by rfl, by intro w hSw; go_simp⟩) hHeld ?_
  simp only [Act.put, List.setIfInBounds_toArray, List.set_cons_zero, List.set_cons_succ]
  refine Pq.take (i := 10) (d := some 34) (v := .int .i64 H1) rfl (by kernel_rfl) (by kernel_rfl) (by kernel_rfl) (by kernel_rfl) (fun _ _ _ h => h) (Or.inl ⟨by rfl, by intro w hSw; go_simp; split <;> split <;> omega⟩) hHeld ?_
  simp only [Act.put, List.setIfInBounds_toArray, List.set_cons_zero, List.set_cons_succ]
  refine Pq.take (i := 11) (d := some 35) (v := .pointer (some ⟨gF, i * 6, none⟩)) rfl (by kernel_rfl) (by kernel_rfl) (by kernel_rfl) (by kernel_rfl) (fun _ _ _ h => h) (Or.inl ⟨by rfl, by intro w hSw; go_simp⟩) hHeld ?_
  simp only [Act.put, List.setIfInBounds_toArray, List.set_cons_zero, List.set_cons_succ]
  refine Pq.take (i := 12) (d := some 36) (v := .pointer (some ⟨gF, i * 6 + 5, none⟩)) rfl (by kernel_rfl) (by kernel_rfl) (by kernel_rfl) (by kernel_rfl) (fun _ _ _ h => h) (Or.inl ⟨by rfl, by intro w hSw; go_simp⟩) hHeld ?_
  simp only [Act.put, List.setIfInBounds_toArray, List.set_cons_zero, List.set_cons_succ]
  refine wpAnyH_ready (rs := [13]) (by kernel_rfl) (by simp) (Yh.readySkip (i := 13) rfl (by kernel_rfl) none (by kernel_rfl) (w' := wr.drew.setCell ⟨gF, i * 6 + 5, none⟩ (.int .i64 H1)) (by go_simp) (blk_other kO hgo) (fun hHeld => ?_) AllReadyH.nil)
  simp only [Act.put, List.setIfInBounds_toArray, List.set_cons_zero, List.set_cons_succ]
  refine wpAnyH_done (by kernel_rfl) ?_ _
  have kO2 : (wr.drew.setCell ⟨gF, i * 6 + 5, none⟩ (.int .i64 H1)).heap[ob]? = _ := blk_other (o := some (.cells #[.int .i64 q', .slice (some ⟨gF, 0, none⟩) F.length cF] 38 (0, 0))) kO hgo
  have kR2 : (wr.drew.setCell ⟨gF, i * 6 + 5, none⟩ (.int .i64 H1)).heap[w.heap.size + 1]? = _ := blk_other kR hgR
  have hotH := (hot.below ((Below.refl wr.heap.size wr).drew)).hit hiF H1
  have B2 : Below w.heap.size w (wr.drew.setCell ⟨gF, i * 6 + 5, none⟩ (.int .i64 H1)) := Pm.bset (Rw.next B1 ((Below.refl _ _).drew)) (by omega)
  generalize wr.drew.setCell ⟨gF, i * 6 + 5, none⟩ (.int .i64 H1) = wz at *
  obtain ⟨o0, o1⟩ := Pm.two kO2
  obtain ⟨r0, r1⟩ := Pm.two kR2
  have fR := Bl.free kR2
  go_wp2
  refine bodyPost_ret (v := .tuple #[.agg #[.int .i64 q', .slice (some ⟨gF, 0, none⟩) F.length cF], .bool true]) (by simp [results, Try.results55, go_sem, r0, r1]) rfl ⟨_, F.set i (hitF (F.getD i e0) H1), rfl, ?_, said_hit HF.out hiF (by rw [HH2.out]; exact hH1), ?_⟩
  · refine OT.mono ?_ (Nat.le_of_lt (Nat.lt_of_succ_lt lo))
    repeat (first | with_reducible exact hotH | refine OT.keep ?_ (fun x _ hx => blk_other rfl (by omega)))
  · repeat (first | with_reducible exact B2 | refine Pm.bset ?_ (by omega))

set_option maxHeartbeats 16000000 in
theorem touchS (q k : Int) (a : Option Addr) (b off cap : Nat) (Q : List Ent) (w : World) (h : Rd w a b off Q) (q' : Int) (L' : List En) (m : Bool) (hr : TouchA q (Q.map Ent.said) k q' L' m) :
    Calls Try.prog 54 #[.agg #[.int .i64 q, .slice a Q.length cap], .int .i64 k] w (ResB w q' L' m) := by
  obtain ⟨W1, hW1⟩ : ∃ W1, W1 = (w.alloc (.cells #[.int .i64 q, .slice a Q.length cap] 38)).alloc (.cells #[.int .i64 0, .slice none 0 0] 38) := ⟨_, rfl⟩
  have B1 : Below w.heap.size w W1 := by subst hW1; exact Rw.next (below_alloc1 _ _) (below_alloc1 _ _)
  have kT : W1.heap[w.heap.size]? = some (.cells #[.int .i64 q, .slice a Q.length cap] 38 (0, 0)) := by subst hW1; rw [at_old (by simp), at_new rfl]
  have kR : W1.heap[w.heap.size + 1]? = some (.cells #[.int .i64 0, .slice none 0 0] 38 (0, 0)) := by subst hW1; exact at_new (by simp)
  replace h := h.below B1
  obtain ⟨R, hR⟩ := em_bool (TabP q (Q.map Ent.said))
  have ht := fun W hW => tabS q a b off cap Q W hW R hR
  have key : R = false ∨ k < 0 ∨ (Q.length : Int) ≤ k ∨ (R = true ∧ ∃ i : Nat, k = i ∧ i < Q.length) := by
    cases R
    · exact .inl rfl
    · rcases Int.lt_or_le k 0 with h1 | h1
      · exact .inr (.inl h1)
      · rcases Int.lt_or_le k Q.length with h2 | h2
        · exact .inr (.inr (.inr ⟨rfl, k.toNat, by omega, by omega⟩))
        · exact .inr (.inr (.inl h2))
  rcases key with rfl | h1 | h1 | ⟨rfl, i, rfl, hi⟩
  · obtain ⟨rfl, rfl, rfl⟩ : q' = 0 ∧ L' = [] ∧ m = false := by
      rcases hr with ⟨t, i, e1, e2, _⟩ | ⟨_, h1⟩
      · exact absurd (hR.2 t) (by decide)
      · exact h1
    clear hr hR
    by_cases h1 : k < 0
    rotate_left
    by_cases h3 : (Q.length : Int) ≤ k
    all_goals
      go_enter Try.func54, Try.ntmps54
      go_wp2_with (go_at_call 39; rw [← hW1]; clear hW1; refine (ht _ h).mono ?_; rintro x wa ⟨rfl, hb⟩; replace kT := (hb.block _ (blk_lt kT)).trans kT; replace kR := (hb.block _ (blk_lt kR)).trans kR; replace B1 := Rw.next B1 hb; clear hb; obtain ⟨p0, p1⟩ := Pm.two kT; obtain ⟨r0, r1⟩ := Pm.two kR; have fR := Bl.free kR)
      refine bodyPost_ret (v := .tuple #[.agg #[.int .i64 0, .slice none 0 0], .bool false]) (by simp [results, Try.results54, go_sem, r0, r1]) rfl ⟨_, [], rfl, OT.nil _ _, rfl, ?_⟩
      repeat (first | with_reducible exact B1 | refine Pm.bset ?_ (by omega))
  
  · obtain ⟨rfl, rfl, rfl⟩ : q' = 0 ∧ L' = [] ∧ m = false := by
      rcases hr with ⟨t, i, e1, e2, _⟩ | ⟨_, h1⟩
      · omega
      · exact h1
    clear hr hR
    cases R
    all_goals
      go_enter Try.func54, Try.ntmps54
      go_wp2_with (go_at_call 39; rw [← hW1]; clear hW1; refine (ht _ h).mono ?_; rintro x wa ⟨rfl, hb⟩; replace kT := (hb.block _ (blk_lt kT)).trans kT; replace kR := (hb.block _ (blk_lt kR)).trans kR; replace B1 := Rw.next B1 hb; clear hb; obtain ⟨p0, p1⟩ := Pm.two kT; obtain ⟨r0, r1⟩ := Pm.two kR; have fR := Bl.free kR)
      refine bodyPost_ret (v := .tuple #[.agg #[.int .i64 0, .slice none 0 0], .bool false]) (by simp [results, Try.results54, go_sem, r0, r1]) rfl ⟨_, [], rfl, OT.nil _ _, rfl, ?_⟩
      repeat (first | with_reducible exact B1 | refine Pm.bset ?_ (by omega))
  
  · obtain ⟨rfl, rfl, rfl⟩ : q' = 0 ∧ L' = [] ∧ m = false := by
      rcases hr with ⟨t, i, e1, e2, _⟩ | ⟨_, h1⟩
      · simp only [List.length_map] at e2; omega
      · exact h1
    clear hr hR
    have h2 : ¬ k < 0 := by omega
    have h3 : (Q.length : Int) ≤ k := h1
    clear h1
    cases R
    all_goals
      go_enter Try.func54, Try.ntmps54
      go_wp2_with (go_at_call 39; rw [← hW1]; clear hW1; refine (ht _ h).mono ?_; rintro x wa ⟨rfl, hb⟩; replace kT := (hb.block _ (blk_lt kT)).trans kT; replace kR := (hb.block _ (blk_lt kR)).trans kR; replace B1 := Rw.next B1 hb; clear hb; obtain ⟨p0, p1⟩ := Pm.two kT; obtain ⟨r0, r1⟩ := Pm.two kR; have fR := Bl.free kR)
      refine bodyPost_ret (v := .tuple #[.agg #[.int .i64 0, .slice none 0 0], .bool false]) (by simp [results, Try.results54, go_sem, r0, r1]) rfl ⟨_, [], rfl, OT.nil _ _, rfl, ?_⟩
      repeat (first | with_reducible exact B1 | refine Pm.bset ?_ (by omega))
  
  obtain ⟨ht1, rfl, rfl, rfl⟩ : TabP q (Q.map Ent.said) ∧ q' = q ∧ L' = hitL (Q.map Ent.said) i ∧ m = true := by
    rcases hr with ⟨t, j, e1, e2, e3, e4, e5⟩ | ⟨h1, _⟩
    · obtain rfl : i = j := by omega
      exact ⟨t, e3, e4, e5⟩
    · exact absurd ⟨hR.1 rfl, i, rfl, by simpa using hi⟩ h1
  have h4 := tab_len ht1
  have hrg := enB_h (ht1.each i (by simpa using hi))
  rw [said_getD] at hrg
  obtain ⟨H, hH⟩ : ∃ H, H = (Q.getD i e0).h := ⟨_, rfl⟩
  have HHQ : Hid ((Q.getD i e0).h = H) := hH.symm
  have hrg1 : 0 ≤ H ∧ H ≤ 1000000000 := by rw [hH]; exact hrg
  have hwr : IntKind.i64.wrap (H + 1) = H + 1 := by rw [IntKind.wrap_i64]; omega
  clear hrg hH
  clear hR ht1
  have hni : ¬ ((i : Int) < 0) := by omega
  have hil : ¬ ((Q.length : Int) ≤ (i : Int)) := by omega
  rcases Int.lt_or_le H 1000000000 with hlt | hge
  · go_enter Try.func54, Try.ntmps54
    go_wp2_with (first
      | (go_at_call 39; rw [← hW1]; clear hW1; refine (ht _ h).mono ?_; rintro x wa ⟨rfl, hb⟩; replace kT := (hb.block _ (blk_lt kT)).trans kT; replace kR := (hb.block _ (blk_lt kR)).trans kR; replace h := h.below hb; replace B1 := Rw.next B1 hb; clear hb ht; obtain ⟨p0, p1⟩ := Pm.two kT)
      | (go_at_call 81; refine (copyTS _ _ _ _ _ Q _ h h4).mono ?_; rintro x wb ⟨v, F, rfl, hot, hF, hb⟩; have lo := blk_lt kR; replace kR := (hb.block _ (blk_lt kR)).trans kR; replace B1 := Rw.next B1 hb; clear hb; have hiF : i < F.length := (by have e1 := congrArg List.length hF; simp only [List.length_map] at e1; omega); have hFl : F.length ≤ 400 := (by have e1 := congrArg List.length hF; simp only [List.length_map] at e1; omega); obtain ⟨va, gF, cF, rfl, hfm, _⟩ := hot.form (by omega); obtain rfl := hfm.head (by omega); have gl := (hot.row_lt (k := gF) rfl).2; have hgB := (hot.row_lt (k := gF) rfl).1; have lR := (blk_lt kR); have hgo : gF ≠ wb.heap.size := (by omega); have hgo2 : wb.heap.size ≠ gF := (by omega); have hgR : gF ≠ w.heap.size + 1 := (by omega); have hgR2 : w.heap.size + 1 ≠ gF := (by omega); have hH2 := said_h hF i; rw [HHQ.out] at hH2; have hb2 := below_alloc1 wb (.cells #[.int .i64 q', .slice (some ⟨gF, 0, none⟩) F.length cF] 38); have kR2 := (hb2.block _ (blk_lt kR)).trans kR; have hfm2 := hfm.below hb2; have e6 := row_h hfm2.wt hiF; rw [hH2] at e6; have f5 := hfm2.wt.free (i * 6 + 5) (by omega); have HF : Hid (F.map Ent.said = Q.map Ent.said) := hF; have HH2 : Hid ((F.getD i e0).h = H) := hH2; clear hb2 hfm hfm2 h kT p0 p1 hF hH2; obtain ⟨r0, r1⟩ := Pm.two kR2; have fR := Bl.free kR2; have hiZ : (i : Int) < (F.length : Int) := (by omega); have P1 := (fun u j => pulled1 (i := i * 6 + 5) (X := .cells #[.int .i64 q', .slice (some ⟨gF, 0, none⟩) F.length cF] 38) kR hgR u j); have P2 := (fun u v j => pulled2 (i := i * 6 + 5) (X := .cells #[.int .i64 q', .slice (some ⟨gF, 0, none⟩) F.length cF] 38) kR hgR u v j); have P3 := (fun v j => pulled3 (X := .cells #[.int .i64 q', .slice (some ⟨gF, 0, none⟩) F.length cF] 38) kR v j); have P4 := (fun u => pulled4 (i := i * 6 + 5) (X := .cells #[.int .i64 q', .slice (some ⟨gF, 0, none⟩) F.length cF] 38) kR hgR u); have P5 := (fun u v => pulled5 (i := i * 6 + 5) (X := .cells #[.int .i64 q', .slice (some ⟨gF, 0, none⟩) F.length cF] 38) kR hgR u v); have P6 := (fun v => pulled6 (X := .cells #[.int .i64 q', .slice (some ⟨gF, 0, none⟩) F.length cF] 38) kR v)))
    have y0 := fun u v v1 => pulled7 (i := i * 6 + 5) (X := .cells #[.int .i64 q', .slice (some ⟨gF, 0, none⟩) F.length cF] 38) kR hgR u v v1
    refine bodyPost_ret (v := .tuple #[.agg #[.int .i64 q', .slice (some ⟨gF, 0, none⟩) F.length cF], .bool true]) (by simp [results, Try.results54, go_sem, y0]) rfl ⟨_, F.set i (hitF (F.getD i e0) (H + 1)), rfl, ?_, said_hit HF.out hiF (by rw [HH2.out, if_pos hlt]), ?_⟩
    · have hotH := hot.hit hiF (H + 1)
      refine OT.mono ?_ (Nat.le_of_lt (Nat.lt_of_succ_lt lo))
      repeat (first | with_reducible exact hotH | refine OT.below ?_ (below_alloc1 _ _) | refine OT.keep ?_ (fun x _ hx => blk_other rfl (by omega)))
    · repeat (first | with_reducible exact B1 | refine Pm.bset ?_ (by omega) | refine Rw.next ?_ (below_alloc1 _ _))
  · have hge2 : ¬ (H < 1000000000) := by omega
    go_enter Try.func54, Try.ntmps54
    go_wp2_with (first
      | (go_at_call 39; rw [← hW1]; clear hW1; refine (ht _ h).mono ?_; rintro x wa ⟨rfl, hb⟩; replace kT := (hb.block _ (blk_lt kT)).trans kT; replace kR := (hb.block _ (blk_lt kR)).trans kR; replace h := h.below hb; replace B1 := Rw.next B1 hb; clear hb ht; obtain ⟨p0, p1⟩ := Pm.two kT)
      | (go_at_call 81; refine (copyTS _ _ _ _ _ Q _ h h4).mono ?_; rintro x wb ⟨v, F, rfl, hot, hF, hb⟩; have lo := blk_lt kR; replace kR := (hb.block _ (blk_lt kR)).trans kR; replace B1 := Rw.next B1 hb; clear hb; have hiF : i < F.length := (by have e1 := congrArg List.length hF; simp only [List.length_map] at e1; omega); have hFl : F.length ≤ 400 := (by have e1 := congrArg List.length hF; simp only [List.length_map] at e1; omega); obtain ⟨va, gF, cF, rfl, hfm, _⟩ := hot.form (by omega); obtain rfl := hfm.head (by omega); have gl := (hot.row_lt (k := gF) rfl).2; have hgB := (hot.row_lt (k := gF) rfl).1; have lR := (blk_lt kR); have hgo : gF ≠ wb.heap.size := (by omega); have hgo2 : wb.heap.size ≠ gF := (by omega); have hgR : gF ≠ w.heap.size + 1 := (by omega); have hgR2 : w.heap.size + 1 ≠ gF := (by omega); have hH2 := said_h hF i; rw [HHQ.out] at hH2; have hb2 := below_alloc1 wb (.cells #[.int .i64 q', .slice (some ⟨gF, 0, none⟩) F.length cF] 38); have kR2 := (hb2.block _ (blk_lt kR)).trans kR; have hfm2 := hfm.below hb2; have e6 := row_h hfm2.wt hiF; rw [hH2] at e6; have f5 := hfm2.wt.free (i * 6 + 5) (by omega); have HF : Hid (F.map Ent.said = Q.map Ent.said) := hF; have HH2 : Hid ((F.getD i e0).h = H) := hH2; clear hb2 hfm hfm2 h kT p0 p1 hF hH2; obtain ⟨r0, r1⟩ := Pm.two kR2; have fR := Bl.free kR2; have hiZ : (i : Int) < (F.length : Int) := (by omega); have P1 := (fun u j => pulled1 (i := i * 6 + 5) (X := .cells #[.int .i64 q', .slice (some ⟨gF, 0, none⟩) F.length cF] 38) kR hgR u j); have P2 := (fun u v j => pulled2 (i := i * 6 + 5) (X := .cells #[.int .i64 q', .slice (some ⟨gF, 0, none⟩) F.length cF] 38) kR hgR u v j); have P3 := (fun v j => pulled3 (X := .cells #[.int .i64 q', .slice (some ⟨gF, 0, none⟩) F.length cF] 38) kR v j); have P4 := (fun u => pulled4 (i := i * 6 + 5) (X := .cells #[.int .i64 q', .slice (some ⟨gF, 0, none⟩) F.length cF] 38) kR hgR u); have P5 := (fun u v => pulled5 (i := i * 6 + 5) (X := .cells #[.int .i64 q', .slice (some ⟨gF, 0, none⟩) F.length cF] 38) kR hgR u v); have P6 := (fun v => pulled6 (X := .cells #[.int .i64 q', .slice (some ⟨gF, 0, none⟩) F.length cF] 38) kR v)))
    have y0 := fun v v1 => pulled8 (X := .cells #[.int .i64 q', .slice (some ⟨gF, 0, none⟩) F.length cF] 38) kR v v1
    refine bodyPost_ret (v := .tuple #[.agg #[.int .i64 q', .slice (some ⟨gF, 0, none⟩) F.length cF], .bool true]) (by simp [results, Try.results54, go_sem, y0]) rfl ⟨_, F, rfl, ?_, same_hit HF.out hiF (by rw [HH2.out]; omega), ?_⟩
    · have hotH := hot
      refine OT.mono ?_ (Nat.le_of_lt (Nat.lt_of_succ_lt lo))
      repeat (first | with_reducible exact hotH | refine OT.below ?_ (below_alloc1 _ _) | refine OT.keep ?_ (fun x _ hx => blk_other rfl (by omega)))
    · repeat (first | with_reducible exact B1 | refine Pm.bset ?_ (by omega) | refine Rw.next ?_ (below_alloc1 _ _))

end Go.Proofs.Ytcbgnfjnjfaacaa.Cp
