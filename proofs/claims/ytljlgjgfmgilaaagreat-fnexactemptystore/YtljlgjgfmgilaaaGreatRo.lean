/-
  Relations copied: relOf of the program, l10Copy of the specification.
-/
import Derived.Test.YtljlgjgfmgilaaaGreatRn
import Derived.Test.YtljlgjgfmgilaaaGreatRb
namespace Go.Proofs.YtljlgjgfmgilaaaGreat.Rl
set_option maxRecDepth 8000
set_option linter.unusedSimpArgs false
set_option linter.unusedVariables false
open Go Go.RowKit
open Num Word Pl Rp

/-- A relation is handed back, in memory of the call's own. -/
def ResL (w : World) (ar : Int) (R : List RowL) (e : Ending) (w' : World) : Prop := ∃ v F, e = .returned (.agg #[.int .i64 ar, v]) ∧ OT w' w.heap.size v F ∧ said F = R ∧ Below w.heap.size w w'
theorem said_app (F : List Rm) (r : Rm) : said (F ++ [r]) = said F ++ [r.l] := by simp [said]
theorem take_next {Q : List Rm} {i : Nat} (h : i < Q.length) : (said Q).take (i + 1) = (said Q).take i ++ [(Q.getD i rm0).l] := by
  have h2 : i < (said Q).length := by rw [said_len]; exact h
  rw [List.take_add_one, List.getElem?_eq_getElem h2, ← said_at h]
  simp [List.getD, h2]

set_option maxHeartbeats 16000000 in
theorem relOf_any (ar : Int) (a : Option Addr) (b off cap : Nat) (Q : List Rm) (w : World) (h : Rd w a b off Q) (h4 : Q.length ≤ 100000) :
    Calls Tryz.prog 96 #[.int .i64 ar, .agg #[.slice a Q.length cap, .func (.func 121) #[] #[]]] w (ResL w ar (said Q)) := by
  obtain ⟨W1, hW1⟩ : ∃ W1, W1 = ((w.alloc (.cells #[.slice a Q.length cap, .func (.func 121) #[] #[]] 139)).alloc (.cells #[.int .i64 0, .slice none 0 0] 69)).alloc (.cells #[.int .i64 ar, .slice none 0 0] 69) := ⟨_, rfl⟩
  have B1 : Below w.heap.size w W1 := by subst hW1; exact Rw.next (Rw.next (below_alloc1 _ _) (below_alloc1 _ _)) (below_alloc1 _ _)
  have kT : W1.heap[w.heap.size]? = some (.cells #[.slice a Q.length cap, .func (.func 121) #[] #[]] 139 (0, 0)) := by subst hW1; rw [at_old (by simp <;> omega), at_old (by simp), at_new rfl]
  have kR : W1.heap[w.heap.size + 1]? = some (.cells #[.int .i64 0, .slice none 0 0] 69 (0, 0)) := by subst hW1; rw [at_old (by simp), at_new (by simp)]
  have kO : W1.heap[w.heap.size + 1 + 1]? = some (.cells #[.int .i64 ar, .slice none 0 0] 69 (0, 0)) := by subst hW1; exact at_new (by simp)
  obtain ⟨hh, hc, ho, hs⟩ := h
  obtain ⟨n, hn⟩ : ∃ n, n = Q.length := ⟨_, rfl⟩
  have HE : Hid ((said Q).take n = said Q) := by rw [hn, ← said_len, List.take_length]; exact rfl
  have HTk : Hid (∀ i, i < n → (said Q).take (i + 1) = (said Q).take i ++ [(Q.getD i rm0).l]) := fun i hi => take_next (by omega)
  rw [← hn] at hh hc ho hs hW1 kT h4 ⊢
  have HN : Hid (n = Q.length) := hn
  clear hn
  obtain ⟨B, hB⟩ : ∃ B, B = w.heap.size + 1 + 1 + 1 := ⟨_, rfl⟩
  have zW1 : B ≤ W1.heap.size := by have := blk_lt kO; omega
  have hBo : w.heap.size + 1 + 1 < B := by omega
  have HB : Hid (B = w.heap.size + 1 + 1 + 1) := hB
  clear hB
  have hwo : w.heap.size ≤ w.heap.size + 1 + 1 := by omega
  go_enter Tryz.func96, Tryz.ntmps96
  go_wp2
  rw [← hW1]
  clear hW1
  go_loopw [13] (fun u wr => ∃ (i : Nat) (v : Value) (F : List Rm), i ≤ n ∧ u = .int .i64 i ∧ Below w.heap.size w wr ∧ wr.heap[w.heap.size]? = some (.cells #[.slice a n cap, .func (.func 121) #[] #[]] 139 (0, 0)) ∧ wr.heap[w.heap.size + 1]? = some (.cells #[.int .i64 0, .slice none 0 0] 69 (0, 0)) ∧ wr.heap[w.heap.size + 1 + 1]? = some (.cells #[.int .i64 ar, v] 69 (0, 0)) ∧ OT wr B v F ∧ B ≤ wr.heap.size ∧ said F = (said Q).take i) (fun u _ => n - (intOf u).toNat)
  case atStart => exact ⟨0, .slice none 0 0, [], Nat.zero_le _, rfl, B1, kT, kR, kO, OT.nil _ _, zW1, rfl⟩
  case round =>
    clear B1 kT kR kO zW1
    obtain ⟨i, v, F, hi, rfl, B1, kT, kR, kO, hot, hBs, hF⟩ := hrel
    have hFl : F.length ≤ 100000 := by
      have e1 := congrArg List.length hF
      rw [said_len, List.length_take] at e1
      omega
    have HF : Hid (said F = (said Q).take i) := hF
    clear hF
    by_cases hlt : i < n
    · obtain rfl := hh (by omega)
      have hnz : (i : Int) < (n : Int) := by omega
      have hn0 : (0 : Int) ≤ (i : Int) := by omega
      have A1 := (B1.cell (World.block_lt_of_cell? _ _ (hc i hlt))).trans (hc i hlt)
      have lb : b < w.heap.size := World.block_lt_of_cell? _ _ (hc i hlt)
      have ok := Vl.Rd.below (ho i hlt) B1
      have HX : Hid ((said Q).take (i + 1) = (said Q).take i ++ [(Q.getD i rm0).l]) := HTk.out i hlt
      clear hc ho hh HTk
      generalize Q.getD i rm0 = x at A1 ok HX
      obtain ⟨xa, xb, xo, xc, xl⟩ := x
      simp only [Rm.val] at A1 ok HX
      obtain ⟨W2, hW2⟩ : ∃ W2, W2 = wr.alloc (.cells #[.slice xa xl.length xc] 149) := ⟨_, rfl⟩
      have kE : W2.heap[wr.heap.size]? = some (.cells #[.slice xa xl.length xc] 149 (0, 0)) := by subst hW2; exact at_new rfl
      have hb : Below wr.heap.size wr W2 := by subst hW2; exact below_alloc1 _ _
      obtain ⟨eb, heb⟩ : ∃ eb, eb = wr.heap.size := ⟨_, rfl⟩
      have ebB : B ≤ eb := by omega
      have ebR : ∀ k, v.ownBlock = some k → k < eb := fun k hk => by have := (hot.og.lt hk).2; omega
      replace kT := (hb.block _ (blk_lt kT)).trans kT
      replace kR := (hb.block _ (blk_lt kR)).trans kR
      replace kO := (hb.block _ (blk_lt kO)).trans kO
      replace hot := hot.below hb
      replace ok := Vl.Rd.below ok hb
      replace B1 := Rw.next B1 hb
      replace hBs : B ≤ W2.heap.size := Nat.le_trans hBs hb.size
      rw [← heb] at kE
      clear hb
      have hSt : ∀ w', Stab W2 (w.heap.size + 1 + 1) v w' → w'.cell? ⟨eb, 0, none⟩ = some (.slice xa xl.length xc) := fun w' hst => one ((hst.block _ (blk_lt kE) (by omega) (fun e => by have := ebR _ e.symm; omega)).trans kE)
      go_wp2
      rw [← hW2, ← heb]
      clear hW2 heb
      refine wp_region_held_drew (S := Stab W2 (w.heap.size + 1 + 1) v) (by kernel_rfl) (Stab.refl _ _ _) (fun hHeld => ?_)
      refine Hn.take (i := 0) (d := some 17) (v := .pointer (some ⟨w.heap.size + 1 + 1, 1, none⟩)) rfl (by kernel_rfl) (by kernel_rfl) (by kernel_rfl) (by kernel_rfl) (fun _ _ _ h => h) (Or.inl ⟨by rfl, by intro w hSw; go_simp⟩) hHeld ?_
      simp only [Act.put, List.setIfInBounds_toArray, List.set_cons_zero, List.set_cons_succ]
      refine Hn.take (i := 2) (d := some 19) (v := .pointer (some ⟨eb, 0, none⟩)) rfl (by kernel_rfl) (by kernel_rfl) (by kernel_rfl) (by kernel_rfl) (fun _ _ _ h => h) (Or.inl ⟨by rfl, by intro w hSw; go_simp⟩) hHeld ?_
      simp only [Act.put, List.setIfInBounds_toArray, List.set_cons_zero, List.set_cons_succ]
      refine Hn.take (i := 3) (d := some 20) (v := .slice xa xl.length xc) rfl (by kernel_rfl) (by kernel_rfl) (by kernel_rfl) (by kernel_rfl) (fun _ _ _ h => h) (Or.inl ⟨by rfl, by intro w hSw; obtain c1 := hSt w hSw; go_simp⟩) hHeld ?_
      simp only [Act.put, List.setIfInBounds_toArray, List.set_cons_zero, List.set_cons_succ]
      have st : Stab W2 (w.heap.size + 1 + 1) v W2.drew := Stab.refl _ _ _
      have hot0 : OT W2.drew B v F := hot.below ((Below.refl _ _).drew)
      have kO0 : W2.drew.heap[w.heap.size + 1 + 1]? = some (.cells #[.int .i64 ar, v] 69 (0, 0)) := kO
      have ok0 := Vl.Rd.below ok ((Below.refl W2.heap.size W2).drew)
      have B2 := Rw.next B1 ((Below.refl W2.heap.size W2).drew)
      have sW : W2.drew.heap.size = W2.heap.size := rfl
      generalize W2.drew = W at *
      refine wpAnyH_ready (rs := [1, 4]) (by kernel_rfl) (by simp) (Hn.readyRun (i := 1) rfl (by kernel_rfl) (some 18) (by kernel_rfl) (v := v) (w' := W) (by obtain ⟨o0, o1⟩ := two kO0; go_simp) st (fun hHeld => ?_) (Hn.call1 (i := 4) rfl (by rfl) 120 (.tmp 20) 147 (by kernel_rfl) 21 (by kernel_rfl) (.slice xa xl.length xc) (by kernel_rfl) (fun _ => rfl) (clone_any xa xb xo xc xl _ ok0) ?_ AllReadyH.nil))
      · simp only [Act.put, List.setIfInBounds_toArray, List.set_cons_zero, List.set_cons_succ]
        refine wpAnyH_ready (rs := [4]) (by kernel_rfl) (by simp) (Hn.call1 (i := 4) rfl (by rfl) 120 (.tmp 20) 147 (by kernel_rfl) 21 (by kernel_rfl) (.slice xa xl.length xc) (by kernel_rfl) (fun _ => rfl) (clone_any xa xb xo xc xl _ ok0) ?_ AllReadyH.nil)
        rintro e1 Wc ⟨r, rfl, hr, hl, hb⟩
        replace st := st.below hb
        replace kO0 := (hb.block _ (blk_lt kO0)).trans kO0
        have hbc := hb
        replace B2 := Rw.next B2 hb
        have sC := hb.size
        refine ⟨_, rfl, st, fun hHeld => ?_⟩
        simp only [Act.put, List.setIfInBounds_toArray, List.set_cons_zero, List.set_cons_succ]
        refine Hn.take (i := 5) (d := some 22) (v := .agg #[r.val]) rfl (by kernel_rfl) (by kernel_rfl) (by kernel_rfl) (by kernel_rfl) (fun _ _ _ h => h) (Or.inl ⟨by rfl, by intro w hSw; simp only [Rm.val]; go_simp⟩) hHeld ?_
        simp only [Act.put, List.setIfInBounds_toArray, List.set_cons_zero, List.set_cons_succ]
        refine wpAnyH_ready (rs := [6]) (by kernel_rfl) (by simp) (Hn.readyRun (i := 6) rfl (by kernel_rfl) (some 23) (by kernel_rfl) (v := .slice (some ⟨Wc.heap.size, 0, none⟩) 1 1) (w' := Wc.alloc (.cells #[r.val] 149)) (exec_one rfl (by kernel_rfl)) (st.below (below_alloc1 _ _)) (fun hHeld => ?_) AllReadyH.nil)
        simp only [Act.put, List.setIfInBounds_toArray, List.set_cons_zero, List.set_cons_succ]
        obtain ⟨Wd, hWd⟩ : ∃ Wd, Wd = Wc.alloc (.cells #[r.val] 149) := ⟨_, rfl⟩
        rw [← hWd] at hHeld ⊢
        have hT : Wd.heap[Wc.heap.size]? = some (.cells #[r.val] 149 (0, 0)) := by subst hWd; exact at_new rfl
        have hb : Below Wc.heap.size Wc Wd := by subst hWd; exact below_alloc1 _ _
        replace st := st.below hb
        replace kO0 := (hb.block _ (blk_lt kO0)).trans kO0
        replace B2 := Rw.next B2 hb
        have hr2 := hr.below hb
        have hbd := Rw.next hbc hb
        clear hb hWd
        obtain ⟨v', Z, hrun, hotZ, hgr⟩ := hot0.app 67 (c := 1) hbd hr2 (by omega) hT hFl
        refine wpAnyH_ready (rs := [7]) (by kernel_rfl) (by simp) (Hn.readyRun (i := 7) rfl (by kernel_rfl) (some 24) (by kernel_rfl) (Hn.exec_app (.tmp 18) (.tmp 23) rfl (by kernel_rfl) (by kernel_rfl) hrun) (st.grown hgr) (fun hHeld => ?_) AllReadyH.nil)
        simp only [Act.put, List.setIfInBounds_toArray, List.set_cons_zero, List.set_cons_succ]
        replace st := st.grown hgr
        obtain ⟨va, vn, vc, hv⟩ := hotZ.og.slice
        subst hv
        have kOZ := (hgr.block _ (blk_lt kO0) (fun e => by have := (hot0.og.lt e.symm).1; omega)).trans kO0
        replace B2 := B2.grown hgr B2.size (fun k hk => by have := (hot0.og.lt hk).1; omega)
        obtain ⟨o0, o1⟩ := two kOZ
        have fO := Vl.free kOZ
        refine Hn.take (i := 8) (d := some 25) (v := .pointer (some ⟨w.heap.size + 1 + 1, 1, none⟩)) rfl (by kernel_rfl) (by kernel_rfl) (by kernel_rfl) (by kernel_rfl) (fun _ _ _ h => h) (Or.inl ⟨by rfl, by intro w hSw; go_simp⟩) hHeld ?_
        simp only [Act.put, List.setIfInBounds_toArray, List.set_cons_zero, List.set_cons_succ]
        refine wpAnyH_ready (rs := [9]) (by kernel_rfl) (by simp) (Hn.readySkip (i := 9) rfl (by kernel_rfl) none (by kernel_rfl) (w' := Z.setCell ⟨w.heap.size + 1 + 1, 1, none⟩ (.slice va vn vc)) (by go_simp) st.set (fun hHeld => ?_) AllReadyH.nil)
        simp only [Act.put, List.setIfInBounds_toArray, List.set_cons_zero, List.set_cons_succ]
        refine wpAnyH_done (by kernel_rfl) ?_ _
        have kO' : (Z.setCell ⟨w.heap.size + 1 + 1, 1, none⟩ (.slice va vn vc)).heap[w.heap.size + 1 + 1]? = some (.cells #[.int .i64 ar, (.slice va vn vc)] 69 (0, 0)) := two_set1 kOZ
        have B1' : Below w.heap.size w (Z.setCell ⟨w.heap.size + 1 + 1, 1, none⟩ (.slice va vn vc)) := Vl.bset B2 hwo
        have hot' : OT (Z.setCell ⟨w.heap.size + 1 + 1, 1, none⟩ (.slice va vn vc)) B (.slice va vn vc) (F ++ [r]) := hotZ.keep fun x _ hx => Below.heap_setCell _ _ _ _ (by simp; omega)
        replace st : Stab W2 (w.heap.size + 1 + 1) v (Z.setCell ⟨w.heap.size + 1 + 1, 1, none⟩ (.slice va vn vc)) := st.set
        go_wp2
        go_roundw
        case rel => exact ⟨i + 1, .slice va vn vc, F ++ [r], by omega, by go_num, B1', (st.block _ (blk_lt kT) (by omega) (fun e => by have := (hot.og.lt e.symm).1; omega)).trans kT, (st.block _ (blk_lt kR) (by omega) (fun e => by have := (hot.og.lt e.symm).1; omega)).trans kR, kO', hot', Nat.le_trans hBs st.size, by rw [said_app, HX.out, hl]; exact congrArg (· ++ [xl]) HF.out⟩
        case measure => simp [intOf]; omega
      · rintro e1 Wc ⟨r, rfl, hr, hl, hb⟩
        replace st := st.below hb
        replace kO0 := (hb.block _ (blk_lt kO0)).trans kO0
        have hbc := hb
        replace B2 := Rw.next B2 hb
        have sC := hb.size
        refine ⟨_, rfl, st, fun hHeld => ?_⟩
        simp only [Act.put, List.setIfInBounds_toArray, List.set_cons_zero, List.set_cons_succ]
        refine Hn.take (i := 5) (d := some 22) (v := .agg #[r.val]) rfl (by kernel_rfl) (by kernel_rfl) (by kernel_rfl) (by kernel_rfl) (fun _ _ _ h => h) (Or.inl ⟨by rfl, by intro w hSw; simp only [Rm.val]; go_simp⟩) hHeld ?_
        simp only [Act.put, List.setIfInBounds_toArray, List.set_cons_zero, List.set_cons_succ]
        refine wpAnyH_ready (rs := [1, 6]) (by kernel_rfl) (by simp) (Hn.readyRun (i := 1) rfl (by kernel_rfl) (some 18) (by kernel_rfl) (v := v) (w' := Wc) (by obtain ⟨o0, o1⟩ := two kO0; go_simp) st (fun hHeld => ?_) (Hn.readyRun (i := 6) rfl (by kernel_rfl) (some 23) (by kernel_rfl) (v := .slice (some ⟨Wc.heap.size, 0, none⟩) 1 1) (w' := Wc.alloc (.cells #[r.val] 149)) (exec_one rfl (by kernel_rfl)) (st.below (below_alloc1 _ _)) (fun hHeld => ?_) AllReadyH.nil))
        · simp only [Act.put, List.setIfInBounds_toArray, List.set_cons_zero, List.set_cons_succ]
          refine wpAnyH_ready (rs := [6]) (by kernel_rfl) (by simp) (Hn.readyRun (i := 6) rfl (by kernel_rfl) (some 23) (by kernel_rfl) (v := .slice (some ⟨Wc.heap.size, 0, none⟩) 1 1) (w' := Wc.alloc (.cells #[r.val] 149)) (exec_one rfl (by kernel_rfl)) (st.below (below_alloc1 _ _)) (fun hHeld => ?_) AllReadyH.nil)
          simp only [Act.put, List.setIfInBounds_toArray, List.set_cons_zero, List.set_cons_succ]
          obtain ⟨Wd, hWd⟩ : ∃ Wd, Wd = Wc.alloc (.cells #[r.val] 149) := ⟨_, rfl⟩
          rw [← hWd] at hHeld ⊢
          have hT : Wd.heap[Wc.heap.size]? = some (.cells #[r.val] 149 (0, 0)) := by subst hWd; exact at_new rfl
          have hb : Below Wc.heap.size Wc Wd := by subst hWd; exact below_alloc1 _ _
          replace st := st.below hb
          replace kO0 := (hb.block _ (blk_lt kO0)).trans kO0
          replace B2 := Rw.next B2 hb
          have hr2 := hr.below hb
          have hbd := Rw.next hbc hb
          clear hb hWd
          obtain ⟨v', Z, hrun, hotZ, hgr⟩ := hot0.app 67 (c := 1) hbd hr2 (by omega) hT hFl
          refine wpAnyH_ready (rs := [7]) (by kernel_rfl) (by simp) (Hn.readyRun (i := 7) rfl (by kernel_rfl) (some 24) (by kernel_rfl) (Hn.exec_app (.tmp 18) (.tmp 23) rfl (by kernel_rfl) (by kernel_rfl) hrun) (st.grown hgr) (fun hHeld => ?_) AllReadyH.nil)
          simp only [Act.put, List.setIfInBounds_toArray, List.set_cons_zero, List.set_cons_succ]
          replace st := st.grown hgr
          obtain ⟨va, vn, vc, hv⟩ := hotZ.og.slice
          subst hv
          have kOZ := (hgr.block _ (blk_lt kO0) (fun e => by have := (hot0.og.lt e.symm).1; omega)).trans kO0
          replace B2 := B2.grown hgr B2.size (fun k hk => by have := (hot0.og.lt hk).1; omega)
          obtain ⟨o0, o1⟩ := two kOZ
          have fO := Vl.free kOZ
          refine Hn.take (i := 8) (d := some 25) (v := .pointer (some ⟨w.heap.size + 1 + 1, 1, none⟩)) rfl (by kernel_rfl) (by kernel_rfl) (by kernel_rfl) (by kernel_rfl) (fun _ _ _ h => h) (Or.inl ⟨by rfl, by intro w hSw; go_simp⟩) hHeld ?_
          simp only [Act.put, List.setIfInBounds_toArray, List.set_cons_zero, List.set_cons_succ]
          refine wpAnyH_ready (rs := [9]) (by kernel_rfl) (by simp) (Hn.readySkip (i := 9) rfl (by kernel_rfl) none (by kernel_rfl) (w' := Z.setCell ⟨w.heap.size + 1 + 1, 1, none⟩ (.slice va vn vc)) (by go_simp) st.set (fun hHeld => ?_) AllReadyH.nil)
          simp only [Act.put, List.setIfInBounds_toArray, List.set_cons_zero, List.set_cons_succ]
          refine wpAnyH_done (by kernel_rfl) ?_ _
          have kO' : (Z.setCell ⟨w.heap.size + 1 + 1, 1, none⟩ (.slice va vn vc)).heap[w.heap.size + 1 + 1]? = some (.cells #[.int .i64 ar, (.slice va vn vc)] 69 (0, 0)) := two_set1 kOZ
          have B1' : Below w.heap.size w (Z.setCell ⟨w.heap.size + 1 + 1, 1, none⟩ (.slice va vn vc)) := Vl.bset B2 hwo
          have hot' : OT (Z.setCell ⟨w.heap.size + 1 + 1, 1, none⟩ (.slice va vn vc)) B (.slice va vn vc) (F ++ [r]) := hotZ.keep fun x _ hx => Below.heap_setCell _ _ _ _ (by simp; omega)
          replace st : Stab W2 (w.heap.size + 1 + 1) v (Z.setCell ⟨w.heap.size + 1 + 1, 1, none⟩ (.slice va vn vc)) := st.set
          go_wp2
          go_roundw
          case rel => exact ⟨i + 1, .slice va vn vc, F ++ [r], by omega, by go_num, B1', (st.block _ (blk_lt kT) (by omega) (fun e => by have := (hot.og.lt e.symm).1; omega)).trans kT, (st.block _ (blk_lt kR) (by omega) (fun e => by have := (hot.og.lt e.symm).1; omega)).trans kR, kO', hot', Nat.le_trans hBs st.size, by rw [said_app, HX.out, hl]; exact congrArg (· ++ [xl]) HF.out⟩
          case measure => simp [intOf]; omega
        · simp only [Act.put, List.setIfInBounds_toArray, List.set_cons_zero, List.set_cons_succ]
          obtain ⟨Wd, hWd⟩ : ∃ Wd, Wd = Wc.alloc (.cells #[r.val] 149) := ⟨_, rfl⟩
          rw [← hWd] at hHeld ⊢
          have hT : Wd.heap[Wc.heap.size]? = some (.cells #[r.val] 149 (0, 0)) := by subst hWd; exact at_new rfl
          have hb : Below Wc.heap.size Wc Wd := by subst hWd; exact below_alloc1 _ _
          replace st := st.below hb
          replace kO0 := (hb.block _ (blk_lt kO0)).trans kO0
          replace B2 := Rw.next B2 hb
          have hr2 := hr.below hb
          have hbd := Rw.next hbc hb
          clear hb hWd
          refine wpAnyH_ready (rs := [1]) (by kernel_rfl) (by simp) (Hn.readyRun (i := 1) rfl (by kernel_rfl) (some 18) (by kernel_rfl) (v := v) (w' := Wd) (by obtain ⟨o0, o1⟩ := two kO0; go_simp) st (fun hHeld => ?_) AllReadyH.nil)
          simp only [Act.put, List.setIfInBounds_toArray, List.set_cons_zero, List.set_cons_succ]
          obtain ⟨v', Z, hrun, hotZ, hgr⟩ := hot0.app 67 (c := 1) hbd hr2 (by omega) hT hFl
          refine wpAnyH_ready (rs := [7]) (by kernel_rfl) (by simp) (Hn.readyRun (i := 7) rfl (by kernel_rfl) (some 24) (by kernel_rfl) (Hn.exec_app (.tmp 18) (.tmp 23) rfl (by kernel_rfl) (by kernel_rfl) hrun) (st.grown hgr) (fun hHeld => ?_) AllReadyH.nil)
          simp only [Act.put, List.setIfInBounds_toArray, List.set_cons_zero, List.set_cons_succ]
          replace st := st.grown hgr
          obtain ⟨va, vn, vc, hv⟩ := hotZ.og.slice
          subst hv
          have kOZ := (hgr.block _ (blk_lt kO0) (fun e => by have := (hot0.og.lt e.symm).1; omega)).trans kO0
          replace B2 := B2.grown hgr B2.size (fun k hk => by have := (hot0.og.lt hk).1; omega)
          obtain ⟨o0, o1⟩ := two kOZ
          have fO := Vl.free kOZ
          refine Hn.take (i := 8) (d := some 25) (v := .pointer (some ⟨w.heap.size + 1 + 1, 1, none⟩)) rfl (by kernel_rfl) (by kernel_rfl) (by kernel_rfl) (by kernel_rfl) (fun _ _ _ h => h) (Or.inl ⟨by rfl, by intro w hSw; go_simp⟩) hHeld ?_
          simp only [Act.put, List.setIfInBounds_toArray, List.set_cons_zero, List.set_cons_succ]
          refine wpAnyH_ready (rs := [9]) (by kernel_rfl) (by simp) (Hn.readySkip (i := 9) rfl (by kernel_rfl) none (by kernel_rfl) (w' := Z.setCell ⟨w.heap.size + 1 + 1, 1, none⟩ (.slice va vn vc)) (by go_simp) st.set (fun hHeld => ?_) AllReadyH.nil)
          simp only [Act.put, List.setIfInBounds_toArray, List.set_cons_zero, List.set_cons_succ]
          refine wpAnyH_done (by kernel_rfl) ?_ _
          have kO' : (Z.setCell ⟨w.heap.size + 1 + 1, 1, none⟩ (.slice va vn vc)).heap[w.heap.size + 1 + 1]? = some (.cells #[.int .i64 ar, (.slice va vn vc)] 69 (0, 0)) := two_set1 kOZ
          have B1' : Below w.heap.size w (Z.setCell ⟨w.heap.size + 1 + 1, 1, none⟩ (.slice va vn vc)) := Vl.bset B2 hwo
          have hot' : OT (Z.setCell ⟨w.heap.size + 1 + 1, 1, none⟩ (.slice va vn vc)) B (.slice va vn vc) (F ++ [r]) := hotZ.keep fun x _ hx => Below.heap_setCell _ _ _ _ (by simp; omega)
          replace st : Stab W2 (w.heap.size + 1 + 1) v (Z.setCell ⟨w.heap.size + 1 + 1, 1, none⟩ (.slice va vn vc)) := st.set
          go_wp2
          go_roundw
          case rel => exact ⟨i + 1, .slice va vn vc, F ++ [r], by omega, by go_num, B1', (st.block _ (blk_lt kT) (by omega) (fun e => by have := (hot.og.lt e.symm).1; omega)).trans kT, (st.block _ (blk_lt kR) (by omega) (fun e => by have := (hot.og.lt e.symm).1; omega)).trans kR, kO', hot', Nat.le_trans hBs st.size, by rw [said_app, HX.out, hl]; exact congrArg (· ++ [xl]) HF.out⟩
          case measure => simp [intOf]; omega
    · have he : i = n := by omega
      subst he
      obtain ⟨t0, t1⟩ := two kO
      obtain ⟨r0, r1⟩ := two kR
      have fR := Vl.free kR
      obtain ⟨va, vn, vc, hv⟩ := hot.og.slice
      subst hv
      go_wp2
      refine bodyPost_ret (v := .agg #[.int .i64 ar, .slice va vn vc]) (by simp [results, Tryz.results96, go_sem, r0, r1]) rfl ⟨.slice va vn vc, F, rfl, ?_, HF.out.trans HE.out, ?_⟩
      · refine (OT.mono (B := B) ?_ (by have := HB.out; omega))
        refine hot.keep fun x hx hxB => ?_
        repeat (first | rfl | refine (Below.heap_setCell _ _ _ _ (by simp; omega)).trans ?_)
      · repeat (first | with_reducible exact B1 | refine Vl.bset ?_ (by simp <;> omega))

set_option maxHeartbeats 16000000 in
theorem lcopy_any (ar : Int) (a : Option Addr) (b off cap : Nat) (Q : List Rm) (w : World) (h : Rd w a b off Q) (h4 : Q.length ≤ 100000) :
    Calls Tryz.prog 95 #[.agg #[.int .i64 ar, .slice a Q.length cap]] w (ResL w ar (said Q)) := by
  obtain ⟨W1, hW1⟩ : ∃ W1, W1 = ((w.alloc (.cells #[.int .i64 ar, .slice a Q.length cap] 69)).alloc (.cells #[.int .i64 0, .slice none 0 0] 69)).alloc (.cells #[.int .i64 ar, .slice none 0 0] 69) := ⟨_, rfl⟩
  have B1 : Below w.heap.size w W1 := by subst hW1; exact Rw.next (Rw.next (below_alloc1 _ _) (below_alloc1 _ _)) (below_alloc1 _ _)
  have kT : W1.heap[w.heap.size]? = some (.cells #[.int .i64 ar, .slice a Q.length cap] 69 (0, 0)) := by subst hW1; rw [at_old (by simp <;> omega), at_old (by simp), at_new rfl]
  have kR : W1.heap[w.heap.size + 1]? = some (.cells #[.int .i64 0, .slice none 0 0] 69 (0, 0)) := by subst hW1; rw [at_old (by simp), at_new (by simp)]
  have kO : W1.heap[w.heap.size + 1 + 1]? = some (.cells #[.int .i64 ar, .slice none 0 0] 69 (0, 0)) := by subst hW1; exact at_new (by simp)
  obtain ⟨hh, hc, ho, hs⟩ := h
  obtain ⟨n, hn⟩ : ∃ n, n = Q.length := ⟨_, rfl⟩
  have HE : Hid ((said Q).take n = said Q) := by rw [hn, ← said_len, List.take_length]; exact rfl
  have HTk : Hid (∀ i, i < n → (said Q).take (i + 1) = (said Q).take i ++ [(Q.getD i rm0).l]) := fun i hi => take_next (by omega)
  rw [← hn] at hh hc ho hs hW1 kT h4 ⊢
  have HN : Hid (n = Q.length) := hn
  clear hn
  obtain ⟨B, hB⟩ : ∃ B, B = w.heap.size + 1 + 1 + 1 := ⟨_, rfl⟩
  have zW1 : B ≤ W1.heap.size := by have := blk_lt kO; omega
  have hBo : w.heap.size + 1 + 1 < B := by omega
  have HB : Hid (B = w.heap.size + 1 + 1 + 1) := hB
  clear hB
  have hwo : w.heap.size ≤ w.heap.size + 1 + 1 := by omega
  go_enter Tryz.func95, Tryz.ntmps95
  go_wp2
  rw [← hW1]
  clear hW1
  go_loopw [11] (fun u wr => ∃ (i : Nat) (v : Value) (F : List Rm), i ≤ n ∧ u = .int .i64 i ∧ Below w.heap.size w wr ∧ wr.heap[w.heap.size]? = some (.cells #[.int .i64 ar, .slice a n cap] 69 (0, 0)) ∧ wr.heap[w.heap.size + 1]? = some (.cells #[.int .i64 0, .slice none 0 0] 69 (0, 0)) ∧ wr.heap[w.heap.size + 1 + 1]? = some (.cells #[.int .i64 ar, v] 69 (0, 0)) ∧ OT wr B v F ∧ B ≤ wr.heap.size ∧ said F = (said Q).take i) (fun u _ => n - (intOf u).toNat)
  case atStart => exact ⟨0, .slice none 0 0, [], Nat.zero_le _, rfl, B1, kT, kR, kO, OT.nil _ _, zW1, rfl⟩
  case round =>
    clear B1 kT kR kO zW1
    obtain ⟨i, v, F, hi, rfl, B1, kT, kR, kO, hot, hBs, hF⟩ := hrel
    have hFl : F.length ≤ 100000 := by
      have e1 := congrArg List.length hF
      rw [said_len, List.length_take] at e1
      omega
    have HF : Hid (said F = (said Q).take i) := hF
    clear hF
    by_cases hlt : i < n
    · obtain rfl := hh (by omega)
      have hnz : (i : Int) < (n : Int) := by omega
      have hn0 : (0 : Int) ≤ (i : Int) := by omega
      have A1 := (B1.cell (World.block_lt_of_cell? _ _ (hc i hlt))).trans (hc i hlt)
      have lb : b < w.heap.size := World.block_lt_of_cell? _ _ (hc i hlt)
      have ok := Vl.Rd.below (ho i hlt) B1
      have HX : Hid ((said Q).take (i + 1) = (said Q).take i ++ [(Q.getD i rm0).l]) := HTk.out i hlt
      clear hc ho hh HTk
      generalize Q.getD i rm0 = x at A1 ok HX
      obtain ⟨xa, xb, xo, xc, xl⟩ := x
      simp only [Rm.val] at A1 ok HX
      have hSt : ∀ w', Stab wr (w.heap.size + 1 + 1) v w' → w'.cell? ⟨w.heap.size, 1, none⟩ = some (.slice (some ⟨b, off, none⟩) n cap) ∧ w'.cell? ⟨b, off + i, none⟩ = some (.slice xa xl.length xc) := fun w' hst => ⟨(two ((hst.block _ (blk_lt kT) (by omega) (fun e => by have := (hot.og.lt e.symm).1; omega)).trans kT)).2, (World.cell?_of_block (hst.block b (Nat.lt_of_lt_of_le lb B1.size) (by omega) (fun e => by have := (hot.og.lt e.symm).1; omega))).trans A1⟩
      go_wp2
      refine wp_region_held_drew (S := Stab wr (w.heap.size + 1 + 1) v) (by kernel_rfl) (Stab.refl _ _ _) (fun hHeld => ?_)
      refine Hn.take (i := 0) (d := some 14) (v := .pointer (some ⟨w.heap.size + 1 + 1, 1, none⟩)) rfl (by kernel_rfl) (by kernel_rfl) (by kernel_rfl) (by kernel_rfl) (fun _ _ _ h => h) (Or.inl ⟨by rfl, by intro w hSw; go_simp⟩) hHeld ?_
      simp only [Act.put, List.setIfInBounds_toArray, List.set_cons_zero, List.set_cons_succ]
      refine Hn.take (i := 2) (d := some 16) (v := .pointer (some ⟨w.heap.size, 1, none⟩)) rfl (by kernel_rfl) (by kernel_rfl) (by kernel_rfl) (by kernel_rfl) (fun _ _ _ h => h) (Or.inl ⟨by rfl, by intro w hSw; go_simp⟩) hHeld ?_
      simp only [Act.put, List.setIfInBounds_toArray, List.set_cons_zero, List.set_cons_succ]
      refine Hn.take (i := 3) (d := some 17) (v := .slice (some ⟨b, off, none⟩) n cap) rfl (by kernel_rfl) (by kernel_rfl) (by kernel_rfl) (by kernel_rfl) (fun _ _ _ h => h) (Or.inl ⟨by rfl, by intro w hSw; obtain ⟨c1, c2⟩ := hSt w hSw; go_simp⟩) hHeld ?_
      simp only [Act.put, List.setIfInBounds_toArray, List.set_cons_zero, List.set_cons_succ]
      refine Hn.take (i := 4) (d := some 18) (v := .int .i64 i) rfl (by kernel_rfl) (by kernel_rfl) (by kernel_rfl) (by kernel_rfl) (fun _ _ _ h => h) (Or.inl ⟨by rfl, by intro w hSw; go_simp⟩) hHeld ?_
      simp only [Act.put, List.setIfInBounds_toArray, List.set_cons_zero, List.set_cons_succ]
      refine Hn.take (i := 5) (d := some 19) (v := .pointer (some ⟨b, off + i, none⟩)) rfl (by kernel_rfl) (by kernel_rfl) (by kernel_rfl) (by kernel_rfl) (fun _ _ _ h => h) (Or.inl ⟨by rfl, by intro w hSw; go_simp⟩) hHeld ?_
      simp only [Act.put, List.setIfInBounds_toArray, List.set_cons_zero, List.set_cons_succ]
      refine Hn.take (i := 6) (d := some 20) (v := .agg #[.slice xa xl.length xc]) rfl (by kernel_rfl) (by kernel_rfl) (by kernel_rfl) (by kernel_rfl) (fun _ _ _ h => h) (Or.inl ⟨by rfl, by intro w hSw; obtain ⟨c1, c2⟩ := hSt w hSw; go_simp⟩) hHeld ?_
      simp only [Act.put, List.setIfInBounds_toArray, List.set_cons_zero, List.set_cons_succ]
      have st : Stab wr (w.heap.size + 1 + 1) v wr.drew := Stab.refl _ _ _
      have hot0 : OT wr.drew B v F := hot.below ((Below.refl _ _).drew)
      have kO0 : wr.drew.heap[w.heap.size + 1 + 1]? = some (.cells #[.int .i64 ar, v] 69 (0, 0)) := kO
      have ok0 := Vl.Rd.below ok ((Below.refl wr.heap.size wr).drew)
      have B2 := Rw.next B1 ((Below.refl wr.heap.size wr).drew)
      have sW : wr.drew.heap.size = wr.heap.size := rfl
      generalize wr.drew = W at *
      refine wpAnyH_ready (rs := [1, 7]) (by kernel_rfl) (by simp) (Hn.readyRun (i := 1) rfl (by kernel_rfl) (some 15) (by kernel_rfl) (v := v) (w' := W) (by obtain ⟨o0, o1⟩ := two kO0; go_simp) st (fun hHeld => ?_) (Hn.call1 (i := 7) rfl (by rfl) 119 (.tmp 20) 149 (by kernel_rfl) 21 (by kernel_rfl) (.agg #[.slice xa xl.length xc]) (by kernel_rfl) (fun _ => rfl) (lrow_any xa xb xo xc xl _ ok0) ?_ AllReadyH.nil))
      · simp only [Act.put, List.setIfInBounds_toArray, List.set_cons_zero, List.set_cons_succ]
        refine wpAnyH_ready (rs := [7]) (by kernel_rfl) (by simp) (Hn.call1 (i := 7) rfl (by rfl) 119 (.tmp 20) 149 (by kernel_rfl) 21 (by kernel_rfl) (.agg #[.slice xa xl.length xc]) (by kernel_rfl) (fun _ => rfl) (lrow_any xa xb xo xc xl _ ok0) ?_ AllReadyH.nil)
        rintro e1 Wc ⟨r, rfl, hr, hl, hb⟩
        replace st := st.below hb
        replace kO0 := (hb.block _ (blk_lt kO0)).trans kO0
        have hbc := hb
        replace B2 := Rw.next B2 hb
        have sC := hb.size
        refine ⟨_, rfl, st, fun hHeld => ?_⟩
        simp only [Act.put, List.setIfInBounds_toArray, List.set_cons_zero, List.set_cons_succ]
        refine wpAnyH_ready (rs := [8]) (by kernel_rfl) (by simp) (Hn.readyRun (i := 8) rfl (by kernel_rfl) (some 22) (by kernel_rfl) (v := .slice (some ⟨Wc.heap.size, 0, none⟩) 1 1) (w' := Wc.alloc (.cells #[r.val] 149)) (exec_one rfl (by kernel_rfl)) (st.below (below_alloc1 _ _)) (fun hHeld => ?_) AllReadyH.nil)
        simp only [Act.put, List.setIfInBounds_toArray, List.set_cons_zero, List.set_cons_succ]
        obtain ⟨Wd, hWd⟩ : ∃ Wd, Wd = Wc.alloc (.cells #[r.val] 149) := ⟨_, rfl⟩
        rw [← hWd] at hHeld ⊢
        have hT : Wd.heap[Wc.heap.size]? = some (.cells #[r.val] 149 (0, 0)) := by subst hWd; exact at_new rfl
        have hb : Below Wc.heap.size Wc Wd := by subst hWd; exact below_alloc1 _ _
        replace st := st.below hb
        replace kO0 := (hb.block _ (blk_lt kO0)).trans kO0
        replace B2 := Rw.next B2 hb
        have hr2 := hr.below hb
        have hbd := Rw.next hbc hb
        clear hb hWd
        obtain ⟨v', Z, hrun, hotZ, hgr⟩ := hot0.app 67 (c := 1) hbd hr2 (by omega) hT hFl
        refine wpAnyH_ready (rs := [9]) (by kernel_rfl) (by simp) (Hn.readyRun (i := 9) rfl (by kernel_rfl) (some 23) (by kernel_rfl) (Hn.exec_app (.tmp 15) (.tmp 22) rfl (by kernel_rfl) (by kernel_rfl) hrun) (st.grown hgr) (fun hHeld => ?_) AllReadyH.nil)
        simp only [Act.put, List.setIfInBounds_toArray, List.set_cons_zero, List.set_cons_succ]
        replace st := st.grown hgr
        obtain ⟨va, vn, vc, hv⟩ := hotZ.og.slice
        subst hv
        have kOZ := (hgr.block _ (blk_lt kO0) (fun e => by have := (hot0.og.lt e.symm).1; omega)).trans kO0
        replace B2 := B2.grown hgr B2.size (fun k hk => by have := (hot0.og.lt hk).1; omega)
        obtain ⟨o0, o1⟩ := two kOZ
        have fO := Vl.free kOZ
        refine Hn.take (i := 10) (d := some 24) (v := .pointer (some ⟨w.heap.size + 1 + 1, 1, none⟩)) rfl (by kernel_rfl) (by kernel_rfl) (by kernel_rfl) (by kernel_rfl) (fun _ _ _ h => h) (Or.inl ⟨by rfl, by intro w hSw; go_simp⟩) hHeld ?_
        simp only [Act.put, List.setIfInBounds_toArray, List.set_cons_zero, List.set_cons_succ]
        refine wpAnyH_ready (rs := [11]) (by kernel_rfl) (by simp) (Hn.readySkip (i := 11) rfl (by kernel_rfl) none (by kernel_rfl) (w' := Z.setCell ⟨w.heap.size + 1 + 1, 1, none⟩ (.slice va vn vc)) (by go_simp) st.set (fun hHeld => ?_) AllReadyH.nil)
        simp only [Act.put, List.setIfInBounds_toArray, List.set_cons_zero, List.set_cons_succ]
        refine wpAnyH_done (by kernel_rfl) ?_ _
        have kO' : (Z.setCell ⟨w.heap.size + 1 + 1, 1, none⟩ (.slice va vn vc)).heap[w.heap.size + 1 + 1]? = some (.cells #[.int .i64 ar, (.slice va vn vc)] 69 (0, 0)) := two_set1 kOZ
        have B1' : Below w.heap.size w (Z.setCell ⟨w.heap.size + 1 + 1, 1, none⟩ (.slice va vn vc)) := Vl.bset B2 hwo
        have hot' : OT (Z.setCell ⟨w.heap.size + 1 + 1, 1, none⟩ (.slice va vn vc)) B (.slice va vn vc) (F ++ [r]) := hotZ.keep fun x _ hx => Below.heap_setCell _ _ _ _ (by simp; omega)
        replace st : Stab wr (w.heap.size + 1 + 1) v (Z.setCell ⟨w.heap.size + 1 + 1, 1, none⟩ (.slice va vn vc)) := st.set
        go_wp2
        go_roundw
        case rel => exact ⟨i + 1, .slice va vn vc, F ++ [r], by omega, by go_num, B1', (st.block _ (blk_lt kT) (by omega) (fun e => by have := (hot.og.lt e.symm).1; omega)).trans kT, (st.block _ (blk_lt kR) (by omega) (fun e => by have := (hot.og.lt e.symm).1; omega)).trans kR, kO', hot', Nat.le_trans hBs st.size, by rw [said_app, HX.out, hl]; exact congrArg (· ++ [xl]) HF.out⟩
        case measure => simp [intOf]; omega
      · rintro e1 Wc ⟨r, rfl, hr, hl, hb⟩
        replace st := st.below hb
        replace kO0 := (hb.block _ (blk_lt kO0)).trans kO0
        have hbc := hb
        replace B2 := Rw.next B2 hb
        have sC := hb.size
        refine ⟨_, rfl, st, fun hHeld => ?_⟩
        simp only [Act.put, List.setIfInBounds_toArray, List.set_cons_zero, List.set_cons_succ]
        refine wpAnyH_ready (rs := [1, 8]) (by kernel_rfl) (by simp) (Hn.readyRun (i := 1) rfl (by kernel_rfl) (some 15) (by kernel_rfl) (v := v) (w' := Wc) (by obtain ⟨o0, o1⟩ := two kO0; go_simp) st (fun hHeld => ?_) (Hn.readyRun (i := 8) rfl (by kernel_rfl) (some 22) (by kernel_rfl) (v := .slice (some ⟨Wc.heap.size, 0, none⟩) 1 1) (w' := Wc.alloc (.cells #[r.val] 149)) (exec_one rfl (by kernel_rfl)) (st.below (below_alloc1 _ _)) (fun hHeld => ?_) AllReadyH.nil))
        · simp only [Act.put, List.setIfInBounds_toArray, List.set_cons_zero, List.set_cons_succ]
          refine wpAnyH_ready (rs := [8]) (by kernel_rfl) (by simp) (Hn.readyRun (i := 8) rfl (by kernel_rfl) (some 22) (by kernel_rfl) (v := .slice (some ⟨Wc.heap.size, 0, none⟩) 1 1) (w' := Wc.alloc (.cells #[r.val] 149)) (exec_one rfl (by kernel_rfl)) (st.below (below_alloc1 _ _)) (fun hHeld => ?_) AllReadyH.nil)
          simp only [Act.put, List.setIfInBounds_toArray, List.set_cons_zero, List.set_cons_succ]
          obtain ⟨Wd, hWd⟩ : ∃ Wd, Wd = Wc.alloc (.cells #[r.val] 149) := ⟨_, rfl⟩
          rw [← hWd] at hHeld ⊢
          have hT : Wd.heap[Wc.heap.size]? = some (.cells #[r.val] 149 (0, 0)) := by subst hWd; exact at_new rfl
          have hb : Below Wc.heap.size Wc Wd := by subst hWd; exact below_alloc1 _ _
          replace st := st.below hb
          replace kO0 := (hb.block _ (blk_lt kO0)).trans kO0
          replace B2 := Rw.next B2 hb
          have hr2 := hr.below hb
          have hbd := Rw.next hbc hb
          clear hb hWd
          obtain ⟨v', Z, hrun, hotZ, hgr⟩ := hot0.app 67 (c := 1) hbd hr2 (by omega) hT hFl
          refine wpAnyH_ready (rs := [9]) (by kernel_rfl) (by simp) (Hn.readyRun (i := 9) rfl (by kernel_rfl) (some 23) (by kernel_rfl) (Hn.exec_app (.tmp 15) (.tmp 22) rfl (by kernel_rfl) (by kernel_rfl) hrun) (st.grown hgr) (fun hHeld => ?_) AllReadyH.nil)
          simp only [Act.put, List.setIfInBounds_toArray, List.set_cons_zero, List.set_cons_succ]
          replace st := st.grown hgr
          obtain ⟨va, vn, vc, hv⟩ := hotZ.og.slice
          subst hv
          have kOZ := (hgr.block _ (blk_lt kO0) (fun e => by have := (hot0.og.lt e.symm).1; omega)).trans kO0
          replace B2 := B2.grown hgr B2.size (fun k hk => by have := (hot0.og.lt hk).1; omega)
          obtain ⟨o0, o1⟩ := two kOZ
          have fO := Vl.free kOZ
          refine Hn.take (i := 10) (d := some 24) (v := .pointer (some ⟨w.heap.size + 1 + 1, 1, none⟩)) rfl (by kernel_rfl) (by kernel_rfl) (by kernel_rfl) (by kernel_rfl) (fun _ _ _ h => h) (Or.inl ⟨by rfl, by intro w hSw; go_simp⟩) hHeld ?_
          simp only [Act.put, List.setIfInBounds_toArray, List.set_cons_zero, List.set_cons_succ]
          refine wpAnyH_ready (rs := [11]) (by kernel_rfl) (by simp) (Hn.readySkip (i := 11) rfl (by kernel_rfl) none (by kernel_rfl) (w' := Z.setCell ⟨w.heap.size + 1 + 1, 1, none⟩ (.slice va vn vc)) (by go_simp) st.set (fun hHeld => ?_) AllReadyH.nil)
          simp only [Act.put, List.setIfInBounds_toArray, List.set_cons_zero, List.set_cons_succ]
          refine wpAnyH_done (by kernel_rfl) ?_ _
          have kO' : (Z.setCell ⟨w.heap.size + 1 + 1, 1, none⟩ (.slice va vn vc)).heap[w.heap.size + 1 + 1]? = some (.cells #[.int .i64 ar, (.slice va vn vc)] 69 (0, 0)) := two_set1 kOZ
          have B1' : Below w.heap.size w (Z.setCell ⟨w.heap.size + 1 + 1, 1, none⟩ (.slice va vn vc)) := Vl.bset B2 hwo
          have hot' : OT (Z.setCell ⟨w.heap.size + 1 + 1, 1, none⟩ (.slice va vn vc)) B (.slice va vn vc) (F ++ [r]) := hotZ.keep fun x _ hx => Below.heap_setCell _ _ _ _ (by simp; omega)
          replace st : Stab wr (w.heap.size + 1 + 1) v (Z.setCell ⟨w.heap.size + 1 + 1, 1, none⟩ (.slice va vn vc)) := st.set
          go_wp2
          go_roundw
          case rel => exact ⟨i + 1, .slice va vn vc, F ++ [r], by omega, by go_num, B1', (st.block _ (blk_lt kT) (by omega) (fun e => by have := (hot.og.lt e.symm).1; omega)).trans kT, (st.block _ (blk_lt kR) (by omega) (fun e => by have := (hot.og.lt e.symm).1; omega)).trans kR, kO', hot', Nat.le_trans hBs st.size, by rw [said_app, HX.out, hl]; exact congrArg (· ++ [xl]) HF.out⟩
          case measure => simp [intOf]; omega
        · simp only [Act.put, List.setIfInBounds_toArray, List.set_cons_zero, List.set_cons_succ]
          obtain ⟨Wd, hWd⟩ : ∃ Wd, Wd = Wc.alloc (.cells #[r.val] 149) := ⟨_, rfl⟩
          rw [← hWd] at hHeld ⊢
          have hT : Wd.heap[Wc.heap.size]? = some (.cells #[r.val] 149 (0, 0)) := by subst hWd; exact at_new rfl
          have hb : Below Wc.heap.size Wc Wd := by subst hWd; exact below_alloc1 _ _
          replace st := st.below hb
          replace kO0 := (hb.block _ (blk_lt kO0)).trans kO0
          replace B2 := Rw.next B2 hb
          have hr2 := hr.below hb
          have hbd := Rw.next hbc hb
          clear hb hWd
          refine wpAnyH_ready (rs := [1]) (by kernel_rfl) (by simp) (Hn.readyRun (i := 1) rfl (by kernel_rfl) (some 15) (by kernel_rfl) (v := v) (w' := Wd) (by obtain ⟨o0, o1⟩ := two kO0; go_simp) st (fun hHeld => ?_) AllReadyH.nil)
          simp only [Act.put, List.setIfInBounds_toArray, List.set_cons_zero, List.set_cons_succ]
          obtain ⟨v', Z, hrun, hotZ, hgr⟩ := hot0.app 67 (c := 1) hbd hr2 (by omega) hT hFl
          refine wpAnyH_ready (rs := [9]) (by kernel_rfl) (by simp) (Hn.readyRun (i := 9) rfl (by kernel_rfl) (some 23) (by kernel_rfl) (Hn.exec_app (.tmp 15) (.tmp 22) rfl (by kernel_rfl) (by kernel_rfl) hrun) (st.grown hgr) (fun hHeld => ?_) AllReadyH.nil)
          simp only [Act.put, List.setIfInBounds_toArray, List.set_cons_zero, List.set_cons_succ]
          replace st := st.grown hgr
          obtain ⟨va, vn, vc, hv⟩ := hotZ.og.slice
          subst hv
          have kOZ := (hgr.block _ (blk_lt kO0) (fun e => by have := (hot0.og.lt e.symm).1; omega)).trans kO0
          replace B2 := B2.grown hgr B2.size (fun k hk => by have := (hot0.og.lt hk).1; omega)
          obtain ⟨o0, o1⟩ := two kOZ
          have fO := Vl.free kOZ
          refine Hn.take (i := 10) (d := some 24) (v := .pointer (some ⟨w.heap.size + 1 + 1, 1, none⟩)) rfl (by kernel_rfl) (by kernel_rfl) (by kernel_rfl) (by kernel_rfl) (fun _ _ _ h => h) (Or.inl ⟨by rfl, by intro w hSw; go_simp⟩) hHeld ?_
          simp only [Act.put, List.setIfInBounds_toArray, List.set_cons_zero, List.set_cons_succ]
          refine wpAnyH_ready (rs := [11]) (by kernel_rfl) (by simp) (Hn.readySkip (i := 11) rfl (by kernel_rfl) none (by kernel_rfl) (w' := Z.setCell ⟨w.heap.size + 1 + 1, 1, none⟩ (.slice va vn vc)) (by go_simp) st.set (fun hHeld => ?_) AllReadyH.nil)
          simp only [Act.put, List.setIfInBounds_toArray, List.set_cons_zero, List.set_cons_succ]
          refine wpAnyH_done (by kernel_rfl) ?_ _
          have kO' : (Z.setCell ⟨w.heap.size + 1 + 1, 1, none⟩ (.slice va vn vc)).heap[w.heap.size + 1 + 1]? = some (.cells #[.int .i64 ar, (.slice va vn vc)] 69 (0, 0)) := two_set1 kOZ
          have B1' : Below w.heap.size w (Z.setCell ⟨w.heap.size + 1 + 1, 1, none⟩ (.slice va vn vc)) := Vl.bset B2 hwo
          have hot' : OT (Z.setCell ⟨w.heap.size + 1 + 1, 1, none⟩ (.slice va vn vc)) B (.slice va vn vc) (F ++ [r]) := hotZ.keep fun x _ hx => Below.heap_setCell _ _ _ _ (by simp; omega)
          replace st : Stab wr (w.heap.size + 1 + 1) v (Z.setCell ⟨w.heap.size + 1 + 1, 1, none⟩ (.slice va vn vc)) := st.set
          go_wp2
          go_roundw
          case rel => exact ⟨i + 1, .slice va vn vc, F ++ [r], by omega, by go_num, B1', (st.block _ (blk_lt kT) (by omega) (fun e => by have := (hot.og.lt e.symm).1; omega)).trans kT, (st.block _ (blk_lt kR) (by omega) (fun e => by have := (hot.og.lt e.symm).1; omega)).trans kR, kO', hot', Nat.le_trans hBs st.size, by rw [said_app, HX.out, hl]; exact congrArg (· ++ [xl]) HF.out⟩
          case measure => simp [intOf]; omega
    · have he : i = n := by omega
      subst he
      obtain ⟨t0, t1⟩ := two kO
      obtain ⟨r0, r1⟩ := two kR
      have fR := Vl.free kR
      obtain ⟨va, vn, vc, hv⟩ := hot.og.slice
      subst hv
      go_wp2
      refine bodyPost_ret (v := .agg #[.int .i64 ar, .slice va vn vc]) (by simp [results, Tryz.results95, go_sem, r0, r1]) rfl ⟨.slice va vn vc, F, rfl, ?_, HF.out.trans HE.out, ?_⟩
      · refine (OT.mono (B := B) ?_ (by have := HB.out; omega))
        refine hot.keep fun x hx hxB => ?_
        repeat (first | rfl | refine (Below.heap_setCell _ _ _ _ (by simp; omega)).trans ?_)
      · repeat (first | with_reducible exact B1 | refine Vl.bset ?_ (by simp <;> omega))

end Go.Proofs.YtljlgjgfmgilaaaGreat.Rl
