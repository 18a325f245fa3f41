/-
  The specification's RelMinus, RelBoth.
-/
import Derived.Test.YtkpchlojapkimaaGreatRo
import Derived.Test.YtkpchlojapkimaaGreatRj
namespace Go.Proofs.YtkpchlojapkimaaGreat.Rl
set_option maxRecDepth 8000
set_option linter.unusedSimpArgs false
set_option linter.unusedVariables false
open Go Go.RowKit
open Num Word Pl Rp


theorem filter_next {Q : List Rm} {i : Nat} (p : RowL → Bool) (h : i < Q.length) : ((said Q).take (i + 1)).filter p = ((said Q).take i).filter p ++ (if p (Q.getD i rm0).l = true then [(Q.getD i rm0).l] else []) := by
  rw [take_next h, List.filter_append]
  congr 1
  cases hp : p (Q.getD i rm0).l
  · rw [List.filter_cons, hp]; simp
  · rw [List.filter_cons, hp]; simp

set_option maxHeartbeats 16000000 in
theorem sift_any (ar y : Int) (a a' : Option Addr) (b off cap b' off' cap' : Nat) (Q P : List Rm) (t : Bool) (w : World) (h : Rd w a b off Q) (h' : Rd w a' b' off' P) (h4 : Q.length ≤ 100000) :
    Calls Tryz.prog 40 #[.agg #[.int .i64 ar, .slice a Q.length cap], .agg #[.int .i64 y, .slice a' P.length cap'], .bool t] w (ResL w ar ((said Q).filter fun x => decide (x ∈ said P) == t)) := by
  obtain ⟨W1, hW1⟩ : ∃ W1, W1 = (((w.alloc (.cells #[.int .i64 ar, .slice a Q.length cap] 67)).alloc (.cells #[.int .i64 y, .slice a' P.length cap'] 67)).alloc (.cells #[.int .i64 0, .slice none 0 0] 67)).alloc (.cells #[.int .i64 ar, .slice none 0 0] 67) := ⟨_, rfl⟩
  have B1 : Below w.heap.size w W1 := by subst hW1; exact Rw.next (Rw.next (Rw.next (below_alloc1 _ _) (below_alloc1 _ _)) (below_alloc1 _ _)) (below_alloc1 _ _)
  have kT : W1.heap[w.heap.size]? = some (.cells #[.int .i64 ar, .slice a Q.length cap] 67 (0, 0)) := by subst hW1; rw [at_old (by simp <;> omega), at_old (by simp <;> omega), at_old (by simp), at_new rfl]
  have kU : W1.heap[w.heap.size + 1]? = some (.cells #[.int .i64 y, .slice a' P.length cap'] 67 (0, 0)) := by subst hW1; rw [at_old (by simp <;> omega), at_old (by simp), at_new (by simp)]
  have kR : W1.heap[w.heap.size + 1 + 1]? = some (.cells #[.int .i64 0, .slice none 0 0] 67 (0, 0)) := by subst hW1; rw [at_old (by simp), at_new (by simp)]
  have kO : W1.heap[w.heap.size + 1 + 1 + 1]? = some (.cells #[.int .i64 ar, .slice none 0 0] 67 (0, 0)) := by subst hW1; exact at_new (by simp)
  obtain ⟨hh, hc, ho, hs⟩ := h
  obtain ⟨p, hpd⟩ : ∃ p : RowL → Bool, p = fun x => decide (x ∈ said P) == t := ⟨_, rfl⟩
  have HPd : Hid (∀ x, p x = (decide (x ∈ said P) == t)) := fun x => by rw [hpd]
  rw [← hpd]
  clear hpd
  obtain ⟨n, hn⟩ : ∃ n, n = Q.length := ⟨_, rfl⟩
  have HE : Hid ((said Q).take n = said Q) := by rw [hn, ← said_len, List.take_length]; exact rfl
  have HTk : Hid (∀ i, i < n → ((said Q).take (i + 1)).filter p = ((said Q).take i).filter p ++ (if p (Q.getD i rm0).l = true then [(Q.getD i rm0).l] else [])) := fun i hi => filter_next p (by omega)
  rw [← hn] at hh hc ho hs hW1 kT h4 ⊢
  have HN : Hid (n = Q.length) := hn
  clear hn
  obtain ⟨B, hB⟩ : ∃ B, B = w.heap.size + 1 + 1 + 1 + 1 := ⟨_, rfl⟩
  have zW1 : B ≤ W1.heap.size := by have := blk_lt kO; omega
  have hBo : w.heap.size + 1 + 1 + 1 < B := by omega
  have HB : Hid (B = w.heap.size + 1 + 1 + 1 + 1) := hB
  clear hB
  have hwo : w.heap.size ≤ w.heap.size + 1 + 1 + 1 := by omega
  go_enter Tryz.func40, Tryz.ntmps40
  go_wp2
  rw [← hW1]
  clear hW1
  go_loopw [15] (fun u wr => ∃ (i : Nat) (v : Value) (F : List Rm), i ≤ n ∧ u = .int .i64 i ∧ Below w.heap.size w wr ∧ wr.heap[w.heap.size]? = some (.cells #[.int .i64 ar, .slice a n cap] 67 (0, 0)) ∧ wr.heap[w.heap.size + 1]? = some (.cells #[.int .i64 y, .slice a' P.length cap'] 67 (0, 0)) ∧ wr.heap[w.heap.size + 1 + 1]? = some (.cells #[.int .i64 0, .slice none 0 0] 67 (0, 0)) ∧ wr.heap[w.heap.size + 1 + 1 + 1]? = some (.cells #[.int .i64 ar, v] 67 (0, 0)) ∧ OT wr B v F ∧ B ≤ wr.heap.size ∧ said F = ((said Q).take i).filter p) (fun u _ => n - (intOf u).toNat)
  case atStart => exact ⟨0, .slice none 0 0, [], Nat.zero_le _, rfl, B1, kT, kU, kR, kO, OT.nil _ _, zW1, rfl⟩
  case round =>
    clear B1 kT kU kR kO zW1
    obtain ⟨i, v, F, hi, rfl, B1, kT, kU, kR, kO, hot, hBs, hF⟩ := hrel
    have hFl : F.length ≤ 100000 := by
      have e1 := congrArg List.length hF
      have e2 := List.length_filter_le p ((said Q).take i)
      rw [said_len] at e1
      rw [List.length_take] at e2
      omega
    have HF : Hid (said F = ((said Q).take i).filter p) := hF
    clear hF
    obtain ⟨p0, p1⟩ := two kT
    obtain ⟨u0, u1⟩ := two kU
    by_cases hlt : i < n
    · obtain rfl := hh (by omega)
      have hnz : (i : Int) < (n : Int) := by omega
      have hn0 : (0 : Int) ≤ (i : Int) := by omega
      have A1 := (B1.cell (World.block_lt_of_cell? _ _ (hc i hlt))).trans (hc i hlt)
      have lb : b < w.heap.size := World.block_lt_of_cell? _ _ (hc i hlt)
      have ok := Vl.Rd.below (ho i hlt) B1
      have HX : Hid (((said Q).take (i + 1)).filter p = ((said Q).take i).filter p ++ (if p (Q.getD i rm0).l = true then [(Q.getD i rm0).l] else [])) := HTk.out i hlt
      have HBW : Hid (w.heap.size ≤ w.heap.size) := Nat.le_refl _
      clear hc ho hh HTk
      generalize Q.getD i rm0 = x at A1 ok HX
      obtain ⟨xa, xb, xo, xc, xl⟩ := x
      simp only [Rm.val] at A1 ok HX
      have hS := fun W h1 h2 => lhas_any a' xa b' off' cap' xb xo xc P xl W h1 h2
      have hpx := HPd.out xl
      generalize decide (xl ∈ said P) = m at hS hpx
      cases hpv : p xl
      · rw [hpv] at hpx HX
        have HX2 : Hid (((said Q).take (i + 1)).filter p = ((said Q).take i).filter p) := (show ((said Q).take (i + 1)).filter p = ((said Q).take i).filter p by rw [HX.out]; simp)
        have hm : (m == t) = false := hpx.symm
        clear hpx hpv HX
        go_wp2
        go_region_held3 (fun w' => w'.cell? ⟨w.heap.size, 1, none⟩ = some (.slice (some ⟨b, off, none⟩) n cap) ∧ w'.cell? ⟨w.heap.size + 1, 1, none⟩ = some (.slice a' P.length cap') ∧ w'.cell? ⟨b, off + i, none⟩ = some (.slice xa xl.length xc)) (go_keep) (first | (go_at_call 94; refine (hS _ (h'.below (Rw.next (B1.mono HBW.out) ((Below.refl _ _).drew))) (ok.below ((Below.refl _ _).drew))).mono ?_; rintro e w1 ⟨rfl, hb⟩; replace hb := Rw.next ((Below.refl _ _).drew) hb; clear p0 p1 u0 u1; replace B1 := Rw.next B1 hb; replace kT := (hb.block _ (blk_lt kT)).trans kT; replace kU := (hb.block _ (blk_lt kU)).trans kU; replace kR := (hb.block _ (blk_lt kR)).trans kR; replace kO := (hb.block _ (blk_lt kO)).trans kO; replace hot := hot.below hb; replace hBs := Nat.le_trans hBs hb.size; replace ok := Vl.Rd.below ok hb; replace A1 := (hb.cell (World.block_lt_of_cell? _ _ A1)).trans A1; clear hb; obtain ⟨p0, p1⟩ := two kT; obtain ⟨u0, u1⟩ := two kU))
        go_wp2
        go_roundw
        case rel => exact ⟨i + 1, v, F, by omega, by go_num, B1, kT, kU, kR, kO, hot, hBs, HF.out.trans HX2.out.symm⟩
        case measure => simp [intOf]; omega
      · rw [hpv] at hpx HX
        simp only [if_true] at HX
        have hm : (m == t) = true := hpx.symm
        clear hpx hpv
        go_wp2
        go_region_held3 (fun w' => w'.cell? ⟨w.heap.size, 1, none⟩ = some (.slice (some ⟨b, off, none⟩) n cap) ∧ w'.cell? ⟨w.heap.size + 1, 1, none⟩ = some (.slice a' P.length cap') ∧ w'.cell? ⟨b, off + i, none⟩ = some (.slice xa xl.length xc)) (go_keep) (first | (go_at_call 94; refine (hS _ (h'.below (Rw.next (B1.mono HBW.out) ((Below.refl _ _).drew))) (ok.below ((Below.refl _ _).drew))).mono ?_; rintro e w1 ⟨rfl, hb⟩; replace hb := Rw.next ((Below.refl _ _).drew) hb; clear p0 p1 u0 u1; replace B1 := Rw.next B1 hb; replace kT := (hb.block _ (blk_lt kT)).trans kT; replace kU := (hb.block _ (blk_lt kU)).trans kU; replace kR := (hb.block _ (blk_lt kR)).trans kR; replace kO := (hb.block _ (blk_lt kO)).trans kO; replace hot := hot.below hb; replace hBs := Nat.le_trans hBs hb.size; replace ok := Vl.Rd.below ok hb; replace A1 := (hb.cell (World.block_lt_of_cell? _ _ A1)).trans A1; clear hb; obtain ⟨p0, p1⟩ := two kT; obtain ⟨u0, u1⟩ := two kU))
        clear p0 p1 u0 u1
        have hSt : ∀ w', Stab w1 (w.heap.size + 1 + 1 + 1) v w' → w'.cell? ⟨w.heap.size, 1, none⟩ = some (.slice (some ⟨b, off, none⟩) n cap) ∧ w'.cell? ⟨b, off + i, none⟩ = some (.slice xa xl.length xc) := fun w' hst => ⟨(two ((hst.block _ (blk_lt kT) (by omega) (fun e => by have := (hot.og.lt e.symm).1; omega)).trans kT)).2, (World.cell?_of_block (hst.block b (Nat.lt_of_lt_of_le lb B1.size) (by omega) (fun e => by have := (hot.og.lt e.symm).1; omega))).trans A1⟩
        go_wp2
        refine wp_region_held_drew (S := Stab w1 (w.heap.size + 1 + 1 + 1) v) (by kernel_rfl) (Stab.refl _ _ _) (fun hHeld => ?_)
        refine Hn.take (i := 0) (d := some 28) (v := .pointer (some ⟨w.heap.size + 1 + 1 + 1, 1, none⟩)) rfl (by kernel_rfl) (by kernel_rfl) (by kernel_rfl) (by kernel_rfl) (fun _ _ _ h => h) (Or.inl ⟨by rfl, by intro w hSw; go_simp⟩) hHeld ?_
        simp only [Act.put, List.setIfInBounds_toArray, List.set_cons_zero, List.set_cons_succ]
        refine Hn.take (i := 2) (d := some 30) (v := .pointer (some ⟨w.heap.size, 1, none⟩)) rfl (by kernel_rfl) (by kernel_rfl) (by kernel_rfl) (by kernel_rfl) (fun _ _ _ h => h) (Or.inl ⟨by rfl, by intro w hSw; go_simp⟩) hHeld ?_
        simp only [Act.put, List.setIfInBounds_toArray, List.set_cons_zero, List.set_cons_succ]
        refine Hn.take (i := 3) (d := some 31) (v := .slice (some ⟨b, off, none⟩) n cap) rfl (by kernel_rfl) (by kernel_rfl) (by kernel_rfl) (by kernel_rfl) (fun _ _ _ h => h) (Or.inl ⟨by rfl, by intro w hSw; obtain ⟨c1, c2⟩ := hSt w hSw; go_simp⟩) hHeld ?_
        simp only [Act.put, List.setIfInBounds_toArray, List.set_cons_zero, List.set_cons_succ]
        refine Hn.take (i := 4) (d := some 32) (v := .int .i64 i) rfl (by kernel_rfl) (by kernel_rfl) (by kernel_rfl) (by kernel_rfl) (fun _ _ _ h => h) (Or.inl ⟨by rfl, by intro w hSw; go_simp⟩) hHeld ?_
        simp only [Act.put, List.setIfInBounds_toArray, List.set_cons_zero, List.set_cons_succ]
        refine Hn.take (i := 5) (d := some 33) (v := .pointer (some ⟨b, off + i, none⟩)) rfl (by kernel_rfl) (by kernel_rfl) (by kernel_rfl) (by kernel_rfl) (fun _ _ _ h => h) (Or.inl ⟨by rfl, by intro w hSw; go_simp⟩) hHeld ?_
        simp only [Act.put, List.setIfInBounds_toArray, List.set_cons_zero, List.set_cons_succ]
        refine Hn.take (i := 6) (d := some 34) (v := .agg #[.slice xa xl.length xc]) rfl (by kernel_rfl) (by kernel_rfl) (by kernel_rfl) (by kernel_rfl) (fun _ _ _ h => h) (Or.inl ⟨by rfl, by intro w hSw; obtain ⟨c1, c2⟩ := hSt w hSw; go_simp⟩) hHeld ?_
        simp only [Act.put, List.setIfInBounds_toArray, List.set_cons_zero, List.set_cons_succ]
        have st : Stab w1 (w.heap.size + 1 + 1 + 1) v w1.drew := Stab.refl _ _ _
        have hot0 : OT w1.drew B v F := hot.below ((Below.refl _ _).drew)
        have kO0 : w1.drew.heap[w.heap.size + 1 + 1 + 1]? = some (.cells #[.int .i64 ar, v] 67 (0, 0)) := kO
        have ok0 := Vl.Rd.below ok ((Below.refl w1.heap.size w1).drew)
        have B2 := Rw.next B1 ((Below.refl w1.heap.size w1).drew)
        have sW : w1.drew.heap.size = w1.heap.size := rfl
        generalize w1.drew = W at *
        refine wpAnyH_ready (rs := [1, 7]) (by kernel_rfl) (by simp) (Hn.readyRun (i := 1) rfl (by kernel_rfl) (some 29) (by kernel_rfl) (v := v) (w' := W) (by obtain ⟨o0, o1⟩ := two kO0; go_simp) st (fun hHeld => ?_) (Hn.call1 (i := 7) rfl (by rfl) 95 (.tmp 34) 107 (by kernel_rfl) 35 (by kernel_rfl) (.agg #[.slice xa xl.length xc]) (by kernel_rfl) (fun _ => rfl) (lrow_any xa xb xo xc xl _ ok0) ?_ AllReadyH.nil))
        · simp only [Act.put, List.setIfInBounds_toArray, List.set_cons_zero, List.set_cons_succ]
          refine wpAnyH_ready (rs := [7]) (by kernel_rfl) (by simp) (Hn.call1 (i := 7) rfl (by rfl) 95 (.tmp 34) 107 (by kernel_rfl) 35 (by kernel_rfl) (.agg #[.slice xa xl.length xc]) (by kernel_rfl) (fun _ => rfl) (lrow_any xa xb xo xc xl _ ok0) ?_ AllReadyH.nil)
          rintro e1 Wc ⟨r, rfl, hr, hl, hb⟩
          replace st := st.below hb
          replace kO0 := (hb.block _ (blk_lt kO0)).trans kO0
          have hbc := hb
          replace B2 := Rw.next B2 hb
          have sC := hb.size
          refine ⟨_, rfl, st, fun hHeld => ?_⟩
          simp only [Act.put, List.setIfInBounds_toArray, List.set_cons_zero, List.set_cons_succ]
          refine wpAnyH_ready (rs := [8]) (by kernel_rfl) (by simp) (Hn.readyRun (i := 8) rfl (by kernel_rfl) (some 36) (by kernel_rfl) (v := .slice (some ⟨Wc.heap.size, 0, none⟩) 1 1) (w' := Wc.alloc (.cells #[r.val] 107)) (exec_one rfl (by kernel_rfl)) (st.below (below_alloc1 _ _)) (fun hHeld => ?_) AllReadyH.nil)
          simp only [Act.put, List.setIfInBounds_toArray, List.set_cons_zero, List.set_cons_succ]
          obtain ⟨Wd, hWd⟩ : ∃ Wd, Wd = Wc.alloc (.cells #[r.val] 107) := ⟨_, rfl⟩
          rw [← hWd] at hHeld ⊢
          have hT : Wd.heap[Wc.heap.size]? = some (.cells #[r.val] 107 (0, 0)) := by subst hWd; exact at_new rfl
          have hb : Below Wc.heap.size Wc Wd := by subst hWd; exact below_alloc1 _ _
          replace st := st.below hb
          replace kO0 := (hb.block _ (blk_lt kO0)).trans kO0
          replace B2 := Rw.next B2 hb
          have hr2 := hr.below hb
          have hbd := Rw.next hbc hb
          clear hb hWd
          obtain ⟨v', Z, hrun, hotZ, hgr⟩ := hot0.app 65 (c := 1) hbd hr2 (by omega) hT hFl
          refine wpAnyH_ready (rs := [9]) (by kernel_rfl) (by simp) (Hn.readyRun (i := 9) rfl (by kernel_rfl) (some 37) (by kernel_rfl) (Hn.exec_app (.tmp 29) (.tmp 36) rfl (by kernel_rfl) (by kernel_rfl) hrun) (st.grown hgr) (fun hHeld => ?_) AllReadyH.nil)
          simp only [Act.put, List.setIfInBounds_toArray, List.set_cons_zero, List.set_cons_succ]
          replace st := st.grown hgr
          obtain ⟨va, vn, vc, hv⟩ := hotZ.og.slice
          subst hv
          have kOZ := (hgr.block _ (blk_lt kO0) (fun e => by have := (hot0.og.lt e.symm).1; omega)).trans kO0
          replace B2 := B2.grown hgr B2.size (fun k hk => by have := (hot0.og.lt hk).1; omega)
          obtain ⟨o0, o1⟩ := two kOZ
          have fO := Vl.free kOZ
          refine Hn.take (i := 10) (d := some 38) (v := .pointer (some ⟨w.heap.size + 1 + 1 + 1, 1, none⟩)) rfl (by kernel_rfl) (by kernel_rfl) (by kernel_rfl) (by kernel_rfl) (fun _ _ _ h => h) (Or.inl ⟨by rfl, by intro w hSw; go_simp⟩) hHeld ?_
          simp only [Act.put, List.setIfInBounds_toArray, List.set_cons_zero, List.set_cons_succ]
          refine wpAnyH_ready (rs := [11]) (by kernel_rfl) (by simp) (Hn.readySkip (i := 11) rfl (by kernel_rfl) none (by kernel_rfl) (w' := Z.setCell ⟨w.heap.size + 1 + 1 + 1, 1, none⟩ (.slice va vn vc)) (by go_simp) st.set (fun hHeld => ?_) AllReadyH.nil)
          simp only [Act.put, List.setIfInBounds_toArray, List.set_cons_zero, List.set_cons_succ]
          refine wpAnyH_done (by kernel_rfl) ?_ _
          have kO' : (Z.setCell ⟨w.heap.size + 1 + 1 + 1, 1, none⟩ (.slice va vn vc)).heap[w.heap.size + 1 + 1 + 1]? = some (.cells #[.int .i64 ar, (.slice va vn vc)] 67 (0, 0)) := two_set1 kOZ
          have B1' : Below w.heap.size w (Z.setCell ⟨w.heap.size + 1 + 1 + 1, 1, none⟩ (.slice va vn vc)) := Vl.bset B2 hwo
          have hot' : OT (Z.setCell ⟨w.heap.size + 1 + 1 + 1, 1, none⟩ (.slice va vn vc)) B (.slice va vn vc) (F ++ [r]) := hotZ.keep fun x _ hx => Below.heap_setCell _ _ _ _ (by simp; omega)
          replace st : Stab w1 (w.heap.size + 1 + 1 + 1) v (Z.setCell ⟨w.heap.size + 1 + 1 + 1, 1, none⟩ (.slice va vn vc)) := st.set
          go_wp2
          go_roundw
          case rel => exact ⟨i + 1, .slice va vn vc, F ++ [r], by omega, by go_num, B1', (st.block _ (blk_lt kT) (by omega) (fun e => by have := (hot.og.lt e.symm).1; omega)).trans kT, (st.block _ (blk_lt kU) (by omega) (fun e => by have := (hot.og.lt e.symm).1; omega)).trans kU, (st.block _ (blk_lt kR) (by omega) (fun e => by have := (hot.og.lt e.symm).1; omega)).trans kR, kO', hot', Nat.le_trans hBs st.size, by rw [said_app, HX.out, hl]; exact congrArg (· ++ [xl]) HF.out⟩
          case measure => simp [intOf]; omega
        · rintro e1 Wc ⟨r, rfl, hr, hl, hb⟩
          replace st := st.below hb
          replace kO0 := (hb.block _ (blk_lt kO0)).trans kO0
          have hbc := hb
          replace B2 := Rw.next B2 hb
          have sC := hb.size
          refine ⟨_, rfl, st, fun hHeld => ?_⟩
          simp only [Act.put, List.setIfInBounds_toArray, List.set_cons_zero, List.set_cons_succ]
          refine wpAnyH_ready (rs := [1, 8]) (by kernel_rfl) (by simp) (Hn.readyRun (i := 1) rfl (by kernel_rfl) (some 29) (by kernel_rfl) (v := v) (w' := Wc) (by obtain ⟨o0, o1⟩ := two kO0; go_simp) st (fun hHeld => ?_) (Hn.readyRun (i := 8) rfl (by kernel_rfl) (some 36) (by kernel_rfl) (v := .slice (some ⟨Wc.heap.size, 0, none⟩) 1 1) (w' := Wc.alloc (.cells #[r.val] 107)) (exec_one rfl (by kernel_rfl)) (st.below (below_alloc1 _ _)) (fun hHeld => ?_) AllReadyH.nil))
          · simp only [Act.put, List.setIfInBounds_toArray, List.set_cons_zero, List.set_cons_succ]
            refine wpAnyH_ready (rs := [8]) (by kernel_rfl) (by simp) (Hn.readyRun (i := 8) rfl (by kernel_rfl) (some 36) (by kernel_rfl) (v := .slice (some ⟨Wc.heap.size, 0, none⟩) 1 1) (w' := Wc.alloc (.cells #[r.val] 107)) (exec_one rfl (by kernel_rfl)) (st.below (below_alloc1 _ _)) (fun hHeld => ?_) AllReadyH.nil)
            simp only [Act.put, List.setIfInBounds_toArray, List.set_cons_zero, List.set_cons_succ]
            obtain ⟨Wd, hWd⟩ : ∃ Wd, Wd = Wc.alloc (.cells #[r.val] 107) := ⟨_, rfl⟩
            rw [← hWd] at hHeld ⊢
            have hT : Wd.heap[Wc.heap.size]? = some (.cells #[r.val] 107 (0, 0)) := by subst hWd; exact at_new rfl
            have hb : Below Wc.heap.size Wc Wd := by subst hWd; exact below_alloc1 _ _
            replace st := st.below hb
            replace kO0 := (hb.block _ (blk_lt kO0)).trans kO0
            replace B2 := Rw.next B2 hb
            have hr2 := hr.below hb
            have hbd := Rw.next hbc hb
            clear hb hWd
            obtain ⟨v', Z, hrun, hotZ, hgr⟩ := hot0.app 65 (c := 1) hbd hr2 (by omega) hT hFl
            refine wpAnyH_ready (rs := [9]) (by kernel_rfl) (by simp) (Hn.readyRun (i := 9) rfl (by kernel_rfl) (some 37) (by kernel_rfl) (Hn.exec_app (.tmp 29) (.tmp 36) rfl (by kernel_rfl) (by kernel_rfl) hrun) (st.grown hgr) (fun hHeld => ?_) AllReadyH.nil)
            simp only [Act.put, List.setIfInBounds_toArray, List.set_cons_zero, List.set_cons_succ]
            replace st := st.grown hgr
            obtain ⟨va, vn, vc, hv⟩ := hotZ.og.slice
            subst hv
            have kOZ := (hgr.block _ (blk_lt kO0) (fun e => by have := (hot0.og.lt e.symm).1; omega)).trans kO0
            replace B2 := B2.grown hgr B2.size (fun k hk => by have := (hot0.og.lt hk).1; omega)
            obtain ⟨o0, o1⟩ := two kOZ
            have fO := Vl.free kOZ
            refine Hn.take (i := 10) (d := some 38) (v := .pointer (some ⟨w.heap.size + 1 + 1 + 1, 1, none⟩)) rfl (by kernel_rfl) (by kernel_rfl) (by kernel_rfl) (by kernel_rfl) (fun _ _ _ h => h) (Or.inl ⟨by rfl, by intro w hSw; go_simp⟩) hHeld ?_
            simp only [Act.put, List.setIfInBounds_toArray, List.set_cons_zero, List.set_cons_succ]
            refine wpAnyH_ready (rs := [11]) (by kernel_rfl) (by simp) (Hn.readySkip (i := 11) rfl (by kernel_rfl) none (by kernel_rfl) (w' := Z.setCell ⟨w.heap.size + 1 + 1 + 1, 1, none⟩ (.slice va vn vc)) (by go_simp) st.set (fun hHeld => ?_) AllReadyH.nil)
            simp only [Act.put, List.setIfInBounds_toArray, List.set_cons_zero, List.set_cons_succ]
            refine wpAnyH_done (by kernel_rfl) ?_ _
            have kO' : (Z.setCell ⟨w.heap.size + 1 + 1 + 1, 1, none⟩ (.slice va vn vc)).heap[w.heap.size + 1 + 1 + 1]? = some (.cells #[.int .i64 ar, (.slice va vn vc)] 67 (0, 0)) := two_set1 kOZ
            have B1' : Below w.heap.size w (Z.setCell ⟨w.heap.size + 1 + 1 + 1, 1, none⟩ (.slice va vn vc)) := Vl.bset B2 hwo
            have hot' : OT (Z.setCell ⟨w.heap.size + 1 + 1 + 1, 1, none⟩ (.slice va vn vc)) B (.slice va vn vc) (F ++ [r]) := hotZ.keep fun x _ hx => Below.heap_setCell _ _ _ _ (by simp; omega)
            replace st : Stab w1 (w.heap.size + 1 + 1 + 1) v (Z.setCell ⟨w.heap.size + 1 + 1 + 1, 1, none⟩ (.slice va vn vc)) := st.set
            go_wp2
            go_roundw
            case rel => exact ⟨i + 1, .slice va vn vc, F ++ [r], by omega, by go_num, B1', (st.block _ (blk_lt kT) (by omega) (fun e => by have := (hot.og.lt e.symm).1; omega)).trans kT, (st.block _ (blk_lt kU) (by omega) (fun e => by have := (hot.og.lt e.symm).1; omega)).trans kU, (st.block _ (blk_lt kR) (by omega) (fun e => by have := (hot.og.lt e.symm).1; omega)).trans kR, kO', hot', Nat.le_trans hBs st.size, by rw [said_app, HX.out, hl]; exact congrArg (· ++ [xl]) HF.out⟩
            case measure => simp [intOf]; omega
          · simp only [Act.put, List.setIfInBounds_toArray, List.set_cons_zero, List.set_cons_succ]
            obtain ⟨Wd, hWd⟩ : ∃ Wd, Wd = Wc.alloc (.cells #[r.val] 107) := ⟨_, rfl⟩
            rw [← hWd] at hHeld ⊢
            have hT : Wd.heap[Wc.heap.size]? = some (.cells #[r.val] 107 (0, 0)) := by subst hWd; exact at_new rfl
            have hb : Below Wc.heap.size Wc Wd := by subst hWd; exact below_alloc1 _ _
            replace st := st.below hb
            replace kO0 := (hb.block _ (blk_lt kO0)).trans kO0
            replace B2 := Rw.next B2 hb
            have hr2 := hr.below hb
            have hbd := Rw.next hbc hb
            clear hb hWd
            refine wpAnyH_ready (rs := [1]) (by kernel_rfl) (by simp) (Hn.readyRun (i := 1) rfl (by kernel_rfl) (some 29) (by kernel_rfl) (v := v) (w' := Wd) (by obtain ⟨o0, o1⟩ := two kO0; go_simp) st (fun hHeld => ?_) AllReadyH.nil)
            simp only [Act.put, List.setIfInBounds_toArray, List.set_cons_zero, List.set_cons_succ]
            obtain ⟨v', Z, hrun, hotZ, hgr⟩ := hot0.app 65 (c := 1) hbd hr2 (by omega) hT hFl
            refine wpAnyH_ready (rs := [9]) (by kernel_rfl) (by simp) (Hn.readyRun (i := 9) rfl (by kernel_rfl) (some 37) (by kernel_rfl) (Hn.exec_app (.tmp 29) (.tmp 36) rfl (by kernel_rfl) (by kernel_rfl) hrun) (st.grown hgr) (fun hHeld => ?_) AllReadyH.nil)
            simp only [Act.put, List.setIfInBounds_toArray, List.set_cons_zero, List.set_cons_succ]
            replace st := st.grown hgr
            obtain ⟨va, vn, vc, hv⟩ := hotZ.og.slice
            subst hv
            have kOZ := (hgr.block _ (blk_lt kO0) (fun e => by have := (hot0.og.lt e.symm).1; omega)).trans kO0
            replace B2 := B2.grown hgr B2.size (fun k hk => by have := (hot0.og.lt hk).1; omega)
            obtain ⟨o0, o1⟩ := two kOZ
            have fO := Vl.free kOZ
            refine Hn.take (i := 10) (d := some 38) (v := .pointer (some ⟨w.heap.size + 1 + 1 + 1, 1, none⟩)) rfl (by kernel_rfl) (by kernel_rfl) (by kernel_rfl) (by kernel_rfl) (fun _ _ _ h => h) (Or.inl ⟨by rfl, by intro w hSw; go_simp⟩) hHeld ?_
            simp only [Act.put, List.setIfInBounds_toArray, List.set_cons_zero, List.set_cons_succ]
            refine wpAnyH_ready (rs := [11]) (by kernel_rfl) (by simp) (Hn.readySkip (i := 11) rfl (by kernel_rfl) none (by kernel_rfl) (w' := Z.setCell ⟨w.heap.size + 1 + 1 + 1, 1, none⟩ (.slice va vn vc)) (by go_simp) st.set (fun hHeld => ?_) AllReadyH.nil)
            simp only [Act.put, List.setIfInBounds_toArray, List.set_cons_zero, List.set_cons_succ]
            refine wpAnyH_done (by kernel_rfl) ?_ _
            have kO' : (Z.setCell ⟨w.heap.size + 1 + 1 + 1, 1, none⟩ (.slice va vn vc)).heap[w.heap.size + 1 + 1 + 1]? = some (.cells #[.int .i64 ar, (.slice va vn vc)] 67 (0, 0)) := two_set1 kOZ
            have B1' : Below w.heap.size w (Z.setCell ⟨w.heap.size + 1 + 1 + 1, 1, none⟩ (.slice va vn vc)) := Vl.bset B2 hwo
            have hot' : OT (Z.setCell ⟨w.heap.size + 1 + 1 + 1, 1, none⟩ (.slice va vn vc)) B (.slice va vn vc) (F ++ [r]) := hotZ.keep fun x _ hx => Below.heap_setCell _ _ _ _ (by simp; omega)
            replace st : Stab w1 (w.heap.size + 1 + 1 + 1) v (Z.setCell ⟨w.heap.size + 1 + 1 + 1, 1, none⟩ (.slice va vn vc)) := st.set
            go_wp2
            go_roundw
            case rel => exact ⟨i + 1, .slice va vn vc, F ++ [r], by omega, by go_num, B1', (st.block _ (blk_lt kT) (by omega) (fun e => by have := (hot.og.lt e.symm).1; omega)).trans kT, (st.block _ (blk_lt kU) (by omega) (fun e => by have := (hot.og.lt e.symm).1; omega)).trans kU, (st.block _ (blk_lt kR) (by omega) (fun e => by have := (hot.og.lt e.symm).1; omega)).trans kR, kO', hot', Nat.le_trans hBs st.size, by rw [said_app, HX.out, hl]; exact congrArg (· ++ [xl]) HF.out⟩
            case measure => simp [intOf]; omega
    · have he : i = n := by omega
      subst he
      obtain ⟨t0, t1⟩ := two kO
      obtain ⟨r0, r1⟩ := two kR
      have fR := Vl.free kR
      obtain ⟨va, vn, vc, hv⟩ := hot.og.slice
      subst hv
      go_wp2
      refine bodyPost_ret (v := .agg #[.int .i64 ar, .slice va vn vc]) (by simp [results, Tryz.results40, go_sem, r0, r1]) rfl ⟨.slice va vn vc, F, rfl, ?_, by rw [HF.out, HE.out], ?_⟩
      · refine (OT.mono (B := B) ?_ (by have := HB.out; omega))
        refine hot.keep fun x hx hxB => ?_
        repeat (first | rfl | refine (Below.heap_setCell _ _ _ _ (by simp; omega)).trans ?_)
      · repeat (first | with_reducible exact B1 | refine Vl.bset ?_ (by simp <;> omega))

/-- What a function that makes a relation says: its arity, its rows, and a code. -/
def ResC (w : World) (ar : Int) (R : List RowL) (c : Value) (e : Ending) (w' : World) : Prop := ∃ v F, e = .returned (.tuple #[.agg #[.int .i64 ar, v], c]) ∧ OT w' w.heap.size v F ∧ said F = R ∧ Below w.heap.size w w'

end Go.Proofs.YtkpchlojapkimaaGreat.Rl
