/- What a covered match hits the covering one hits, and what two that meet hit; no condition. -/
import Derived.Test.YtcbhpmgjmpbpmaaRows
import Derived.Test.YtcbhpmgjmpbpmaaPnc
import Derived.WalkKit
import Derived.ProofKit
import Derived.OpenShut
import Derived.ShutString
import Derived.ChangeOld
import Derived.Below
import Derived.Deep.RegionWith
import Derived.Deep.RegionHeld3
import Derived.Deep.Cut
namespace Go.Proofs.Ytcbhpmgjmpbpmaa.fnCovers
open Go.ChangeShapes Go.WideShapes Go.ChangeAt Go.RowKit
set_option linter.unusedVariables false
set_option linter.unusedSimpArgs false

theorem own : ownKnob Try.prog.godebug = none := by kernel_rfl
theorem laidOut : laidOutB Try.prog = true := by kernel_rfl
theorem mine_drew {w : World} {g : Nat} {l : List Int} (h : Hr.Mine w g l) : Hr.Mine w.drew g l := Yu.mine_of h rfl

set_option maxRecDepth 8000 in
set_option maxHeartbeats 16000000 in
theorem walk (a0 : Option Addr) (n0 c0 : Nat) (z0 : List Int) (w : World) (w0 : Rw.IsRow .u8 w a0 n0 c0 z0) :
    Calls Try.prog 12 #[.slice a0 n0 c0] w fun e w' => e = .returned (.bool true) ∧ Below w.heap.size w w' := by
  by_cases big0 : 1048576 < n0
  · have z0 : (1048576 : Int) < (n0 : Int) := by omega
    go_enter Try.func12, Try.ntmps12
    go_wp2
    go_ret
    exact ⟨rfl, Below.refl _ _⟩
  have z0 : ¬ (1048576 : Int) < (n0 : Int) := by omega
  obtain ⟨b0, o0, l, hl, rd0⟩ := Rw.rd_of_isRow w0 (by omega)
  subst hl
  clear w0 big0
  go_enter Try.func12, Try.ntmps12
  go_upto_region 4 with (go_at_call 56; refine (Ua.three_any _ _ _ _ l _ rd0).mono ?_; rintro e w1 ⟨aV, gV, cV, V, aM, gM, cM, M, aV', gV', cV', V', aM', gM', cM', M', gH, H, rfl, mA, mB, mH, lH, wH, BW⟩)
  clear rd0 z0
  obtain ⟨W2, hW2⟩ : ∃ W2, W2 = ((w1.alloc (.cells #[.slice aV V.length cV, .slice aM M.length cM] 25)).alloc (.cells #[.slice aV' V'.length cV', .slice aM' M'.length cM'] 25)).alloc (.cells #[.slice (some ⟨gH, 0, none⟩) 8 8] 28) := ⟨_, rfl⟩
  have hb : Below w1.heap.size w1 W2 := by subst hW2; exact Rw.next (Rw.next (Pl.below_alloc1 _ _) (Pl.below_alloc1 _ _)) (Pl.below_alloc1 _ _)
  have kT : W2.heap[w1.heap.size]? = some (.cells #[.slice aV V.length cV, .slice aM M.length cM] 25 (0, 0)) := by subst hW2; rw [Pl.at_old (by simp; omega), Pl.at_old (by simp)]; exact Pl.at_new rfl
  have kU : W2.heap[w1.heap.size + 1]? = some (.cells #[.slice aV' V'.length cV', .slice aM' M'.length cM'] 25 (0, 0)) := by subst hW2; rw [Pl.at_old (by simp)]; exact (by simpa using Pl.at_new (w := w1.alloc (.cells #[.slice aV V.length cV, .slice aM M.length cM] 25)) (cs := #[.slice aV' V'.length cV', .slice aM' M'.length cM']) (t := 25) rfl)
  have kS : W2.heap[w1.heap.size + 1 + 1]? = some (.cells #[.slice (some ⟨gH, 0, none⟩) 8 8] 28 (0, 0)) := by subst hW2; exact (by simpa using Pl.at_new (w := (w1.alloc (.cells #[.slice aV V.length cV, .slice aM M.length cM] 25)).alloc (.cells #[.slice aV' V'.length cV', .slice aM' M'.length cM'] 25)) (cs := #[.slice (some ⟨gH, 0, none⟩) 8 8]) (t := 28) rfl)
  replace mA := mA.below hb
  replace mB := mB.below hb
  replace mH := mH.below hb
  replace BW := Rw.next BW hb
  rw [← hW2]
  clear hW2 hb
  obtain ⟨T, hT⟩ : ∃ T, T = w1.heap.size := ⟨_, rfl⟩
  rw [← hT] at kT kU kS ⊢
  clear hT
  have c57 : ∀ W : World, Ua.MT W w.heap.size aV gV V aM gM M → Ua.MT W w.heap.size aV' gV' V' aM' gM' M' → Calls Try.prog 57 #[.agg #[.slice aV V.length cV, .slice aM M.length cM], .agg #[.slice aV' V'.length cV', .slice aM' M'.length cM']] W (Rg.Bo (Uc.covB V M V' M') W) := fun W m1 m2 => Uc.coversI V M V' M' m1.wV m2.wV _ _ _ _ cV _ _ cM _ _ _ _ cV' _ _ cM' W m1.rV m1.rM m2.rV m2.rM
  have c58 : ∀ W : World, Ua.MT W w.heap.size aV gV V aM gM M → Ua.MT W w.heap.size aV' gV' V' aM' gM' M' → Calls Try.prog 58 #[.agg #[.slice aV V.length cV, .slice aM M.length cM], .agg #[.slice aV' V'.length cV', .slice aM' M'.length cM']] W (Rg.Bo (Uc.covB V M V' M') W) := fun W m1 m2 => Uc.coversS V M V' M' m1.wV m2.wV _ _ _ _ cV _ _ cM _ _ _ _ cV' _ _ cM' W m1.rV m1.rM m2.rV m2.rM
  have c59a : ∀ W : World, Ua.MT W w.heap.size aV gV V aM gM M → Hr.Mine W gH H → Calls Try.prog 59 #[.agg #[.slice aV V.length cV, .slice aM M.length cM], .agg #[.slice (some ⟨gH, 0, none⟩) 8 8]] W (Rg.Bo (Ld.hitB V M H) W) := fun W m1 r => (by have q := Ld.hits_any V M H m1.wV wH _ _ _ _ cV _ _ cM (some ⟨gH, 0, none⟩) gH 0 8 W m1.rV m1.rM r.rd; rw [lH] at q; exact q)
  have c59b : ∀ W : World, Ua.MT W w.heap.size aV' gV' V' aM' gM' M' → Hr.Mine W gH H → Calls Try.prog 59 #[.agg #[.slice aV' V'.length cV', .slice aM' M'.length cM'], .agg #[.slice (some ⟨gH, 0, none⟩) 8 8]] W (Rg.Bo (Ld.hitB V' M' H) W) := fun W m1 r => (by have q := Ld.hits_any V' M' H m1.wV wH _ _ _ _ cV' _ _ cM' (some ⟨gH, 0, none⟩) gH 0 8 W m1.rV m1.rM r.rd; rw [lH] at q; exact q)
  have c60 : ∀ W : World, Ua.MT W w.heap.size aV gV V aM gM M → Ua.MT W w.heap.size aV' gV' V' aM' gM' M' → Calls Try.prog 60 #[.agg #[.slice aV V.length cV, .slice aM M.length cM], .agg #[.slice aV' V'.length cV', .slice aM' M'.length cM']] W (Pm.ResMB W (Le.meetB V M V' M') (Le.meetV V M V' M') (Le.meetM V M V' M')) := fun W m1 m2 => Le.meetI_any V M V' M' m1.wV m2.wV _ _ _ _ cV _ _ cM _ _ _ _ cV' _ _ cM' W m1.rV m1.rM m2.rV m2.rM
  have c61 : ∀ W : World, Ua.MT W w.heap.size aV gV V aM gM M → Ua.MT W w.heap.size aV' gV' V' aM' gM' M' → Calls Try.prog 61 #[.agg #[.slice aV V.length cV, .slice aM M.length cM], .agg #[.slice aV' V'.length cV', .slice aM' M'.length cM']] W (Rg.Bo (Le.meetB V M V' M') W) := fun W m1 m2 => Uc.meets V M V' M' m1.wV m2.wV _ _ _ _ cV _ _ cM _ _ _ _ cV' _ _ cM' W m1.rV m1.rM m2.rV m2.rM
  have c62a : ∀ W : World, Ua.MT W w.heap.size aV gV V aM gM M → Calls Try.prog 62 #[.agg #[.slice aV V.length cV, .slice aM M.length cM]] W (Rg.Nu (Uc.askI V M) W) := fun W m1 => Uc.asked V M m1.wV _ _ _ _ cV _ _ cM W m1.rV m1.rM
  obtain ⟨as1, as2, as3⟩ := Uc.ask V M V' M' H
  obtain ⟨xw, yw⟩ := Ua.meet_wide V M V' M'
  generalize hV3 : Le.meetV V M V' M' = V'' at *
  generalize hM3 : Le.meetM V M V' M' = M'' at *
  clear hV3 hM3
  have c57a : ∀ (aV'' aM'' : Option Addr) (gV'' cV'' gM'' cM'' : Nat) (W : World), Ua.MT W w.heap.size aV gV V aM gM M → Ua.MT W w.heap.size aV'' gV'' V'' aM'' gM'' M'' → Calls Try.prog 57 #[.agg #[.slice aV V.length cV, .slice aM M.length cM], .agg #[.slice aV'' V''.length cV'', .slice aM'' M''.length cM'']] W (Rg.Bo (Uc.covB V M V'' M'') W) := fun aV'' aM'' gV'' cV'' gM'' cM'' W m1 m2 => Uc.coversI V M V'' M'' m1.wV m2.wV _ _ _ _ cV _ _ cM _ _ _ _ cV'' _ _ cM'' W m1.rV m1.rM m2.rV m2.rM
  have c57b : ∀ (aV'' aM'' : Option Addr) (gV'' cV'' gM'' cM'' : Nat) (W : World), Ua.MT W w.heap.size aV' gV' V' aM' gM' M' → Ua.MT W w.heap.size aV'' gV'' V'' aM'' gM'' M'' → Calls Try.prog 57 #[.agg #[.slice aV' V'.length cV', .slice aM' M'.length cM'], .agg #[.slice aV'' V''.length cV'', .slice aM'' M''.length cM'']] W (Rg.Bo (Uc.covB V' M' V'' M'') W) := fun aV'' aM'' gV'' cV'' gM'' cM'' W m1 m2 => Uc.coversI V' M' V'' M'' m1.wV m2.wV _ _ _ _ cV' _ _ cM' _ _ _ _ cV'' _ _ cM'' W m1.rV m1.rM m2.rV m2.rM
  have c59m : ∀ (aV'' aM'' : Option Addr) (gV'' cV'' gM'' cM'' : Nat) (W : World), Ua.MT W w.heap.size aV'' gV'' V'' aM'' gM'' M'' → Hr.Mine W gH H → Calls Try.prog 59 #[.agg #[.slice aV'' V''.length cV'', .slice aM'' M''.length cM''], .agg #[.slice (some ⟨gH, 0, none⟩) 8 8]] W (Rg.Bo (Ld.hitB V'' M'' H) W) := fun aV'' aM'' gV'' cV'' gM'' cM'' W m1 r => (by have q := Ld.hits_any V'' M'' H m1.wV wH _ _ _ _ cV'' _ _ cM'' (some ⟨gH, 0, none⟩) gH 0 8 W m1.rV m1.rM r.rd; rw [lH] at q; exact q)
  have c62m : ∀ (aV'' aM'' : Option Addr) (gV'' cV'' gM'' cM'' : Nat) (W : World), Ua.MT W w.heap.size aV'' gV'' V'' aM'' gM'' M'' → Calls Try.prog 62 #[.agg #[.slice aV'' V''.length cV'', .slice aM'' M''.length cM'']] W (Rg.Nu (Uc.askI V'' M'') W) := fun aV'' aM'' gV'' cV'' gM'' cM'' W m1 => Uc.asked V'' M'' m1.wV _ _ _ _ cV'' _ _ cM'' W m1.rV m1.rM
  generalize Uc.covB V M V' M' = c at *
  generalize Ld.hitB V M H = ha at *
  generalize Ld.hitB V' M' H = hb at *
  generalize Le.meetB V M V' M' = mt at *
  generalize Uc.askI V M = y1 at *
  have AS2 : Hid (mt = false → (ha && hb) = false) := as2
  have AS3 : Hid (mt = true → Ld.hitB V'' M'' H = (ha && hb) ∧ Uc.covB V M V'' M'' = true ∧ Uc.covB V' M' V'' M'' = true ∧ y1 ≤ Uc.askI V'' M'') := as3
  clear as2 as3
  go_cut [3, 39] from 17 (fun s3 s39 wx => s3 = .pointer (some ⟨T, 0, none⟩) ∧ s39 = .bool false ∧ wx.heap[T]? = some (.cells #[.slice aV V.length cV, .slice aM M.length cM] 25 (0, 0)) ∧ wx.heap[T + 1]? = some (.cells #[.slice aV' V'.length cV', .slice aM' M'.length cM'] 25 (0, 0)) ∧ wx.heap[T + 1 + 1]? = some (.cells #[.slice (some ⟨gH, 0, none⟩) 8 8] 28 (0, 0)) ∧ Ua.MT wx w.heap.size aV gV V aM gM M ∧ Ua.MT wx w.heap.size aV' gV' V' aM' gM' M' ∧ Hr.Mine wx gH H ∧ Below w.heap.size w wx)
  case first =>
    obtain ⟨p0, p1⟩ := Pm.two kT
    obtain ⟨q0, q1⟩ := Pm.two kU
    have s0 := Hh.one kS
    rcases hcc : c with _ | _
    · subst hcc
      refine wp_region_held_drew (S := (fun w' => w'.cell? ⟨T, 0, none⟩ = some (.slice aV V.length cV) ∧ w'.cell? ⟨T, 1, none⟩ = some (.slice aM M.length cM) ∧ w'.cell? ⟨T + 1, 0, none⟩ = some (.slice aV' V'.length cV') ∧ w'.cell? ⟨T + 1, 1, none⟩ = some (.slice aM' M'.length cM') ∧ w'.cell? ⟨T + 1 + 1, 0, none⟩ = some (.slice (some ⟨gH, 0, none⟩) 8 8))) (by kernel_rfl) ⟨p0, p1, q0, q1, s0⟩ (fun hHeld => ?_)
      refine Pq.take (i := 0) (d := some 17) (v := .agg #[.slice aV V.length cV, .slice aM M.length cM]) rfl (by kernel_rfl) (by kernel_rfl) (by kernel_rfl) (by kernel_rfl) (fun _ _ _ h => h) (Or.inl ⟨by rfl, by intro w hSw; obtain ⟨h0, h1, h2, h3, h4⟩ := hSw; go_simp⟩) hHeld ?_
      simp only [Act.put, List.setIfInBounds_toArray, List.set_cons_zero, List.set_cons_succ]
      refine Pq.take (i := 1) (d := some 18) (v := .agg #[.slice aV' V'.length cV', .slice aM' M'.length cM']) rfl (by kernel_rfl) (by kernel_rfl) (by kernel_rfl) (by kernel_rfl) (fun _ _ _ h => h) (Or.inl ⟨by rfl, by intro w hSw; obtain ⟨h0, h1, h2, h3, h4⟩ := hSw; go_simp⟩) hHeld ?_
      simp only [Act.put, List.setIfInBounds_toArray, List.set_cons_zero, List.set_cons_succ]
      refine Pq.take (i := 3) (d := some 20) (v := .agg #[.slice aV V.length cV, .slice aM M.length cM]) rfl (by kernel_rfl) (by kernel_rfl) (by kernel_rfl) (by kernel_rfl) (fun _ _ _ h => h) (Or.inl ⟨by rfl, by intro w hSw; obtain ⟨h0, h1, h2, h3, h4⟩ := hSw; go_simp⟩) hHeld ?_
      simp only [Act.put, List.setIfInBounds_toArray, List.set_cons_zero, List.set_cons_succ]
      refine Pq.take (i := 4) (d := some 21) (v := .agg #[.slice aV' V'.length cV', .slice aM' M'.length cM']) rfl (by kernel_rfl) (by kernel_rfl) (by kernel_rfl) (by kernel_rfl) (fun _ _ _ h => h) (Or.inl ⟨by rfl, by intro w hSw; obtain ⟨h0, h1, h2, h3, h4⟩ := hSw; go_simp⟩) hHeld ?_
      simp only [Act.put, List.setIfInBounds_toArray, List.set_cons_zero, List.set_cons_succ]
      refine wpAnyH_ready (rs := [2]) (by kernel_rfl) (by simp) (Rg.call2 (i := 2) rfl (by kernel_rfl) 57 (.tmp 17) (.tmp 18) 25 25 (by kernel_rfl) 19 (by kernel_rfl) (.agg #[.slice aV V.length cV, .slice aM M.length cM]) (.agg #[.slice aV' V'.length cV', .slice aM' M'.length cM']) (by kernel_rfl) (by kernel_rfl) (fun _ => rfl) (c57 _ mA.drew mB.drew) ?_ AllReadyH.nil)
      rintro e wz ⟨rfl, hb⟩
      replace hb := Rw.next (Below.drew (Below.refl _ W2) : Below W2.heap.size W2 _) hb
      replace kT := (hb.block _ (Ea.blk_lt kT)).trans kT
      replace kU := (hb.block _ (Ea.blk_lt kU)).trans kU
      replace kS := (hb.block _ (Ea.blk_lt kS)).trans kS
      replace mA := mA.below hb
      replace mB := mB.below hb
      replace mH := mH.below hb
      replace BW := Rw.next BW hb
      clear hb p0 p1 q0 q1 s0
      obtain ⟨p0, p1⟩ := Pm.two kT
      obtain ⟨q0, q1⟩ := Pm.two kU
      have s0 := Hh.one kS
      refine ⟨_, rfl, ⟨p0, p1, q0, q1, s0⟩, fun hHeld => ?_⟩
      simp only [Act.put, List.setIfInBounds_toArray, List.set_cons_zero, List.set_cons_succ]
      refine wpAnyH_ready (rs := [5]) (by kernel_rfl) (by simp) (Rg.call2 (i := 5) rfl (by kernel_rfl) 58 (.tmp 20) (.tmp 21) 25 25 (by kernel_rfl) 22 (by kernel_rfl) (.agg #[.slice aV V.length cV, .slice aM M.length cM]) (.agg #[.slice aV' V'.length cV', .slice aM' M'.length cM']) (by kernel_rfl) (by kernel_rfl) (fun _ => rfl) (c58 _ mA mB) ?_ AllReadyH.nil)
      rintro e wz ⟨rfl, hb⟩
      replace kT := (hb.block _ (Ea.blk_lt kT)).trans kT
      replace kU := (hb.block _ (Ea.blk_lt kU)).trans kU
      replace kS := (hb.block _ (Ea.blk_lt kS)).trans kS
      replace mA := mA.below hb
      replace mB := mB.below hb
      replace mH := mH.below hb
      replace BW := Rw.next BW hb
      clear hb p0 p1 q0 q1 s0
      obtain ⟨p0, p1⟩ := Pm.two kT
      obtain ⟨q0, q1⟩ := Pm.two kU
      have s0 := Hh.one kS
      refine ⟨_, rfl, ⟨p0, p1, q0, q1, s0⟩, fun hHeld => ?_⟩
      simp only [Act.put, List.setIfInBounds_toArray, List.set_cons_zero, List.set_cons_succ]
      refine Pq.take (i := 6) (d := some 23) (v := .bool false) rfl (by kernel_rfl) (by kernel_rfl) (by kernel_rfl) (by kernel_rfl) (fun _ _ _ h => h) (Or.inl ⟨by rfl, by intro w hSw; go_simp⟩) hHeld ?_
      simp only [Act.put, List.setIfInBounds_toArray, List.set_cons_zero, List.set_cons_succ]
      refine Pq.take (i := 7) (d := some 24) (v := .bool false) rfl (by kernel_rfl) (by kernel_rfl) (by kernel_rfl) (by kernel_rfl) (fun _ _ _ h => h) (Or.inl ⟨by rfl, by intro w hSw; go_simp⟩) hHeld ?_
      simp only [Act.put, List.setIfInBounds_toArray, List.set_cons_zero, List.set_cons_succ]
      refine Pq.take (i := 8) (d := some 25) (v := .agg #[.slice aV V.length cV, .slice aM M.length cM]) rfl (by kernel_rfl) (by kernel_rfl) (by kernel_rfl) (by kernel_rfl) (fun _ _ _ h => h) (Or.inl ⟨by rfl, by intro w hSw; obtain ⟨h0, h1, h2, h3, h4⟩ := hSw; go_simp⟩) hHeld ?_
      simp only [Act.put, List.setIfInBounds_toArray, List.set_cons_zero, List.set_cons_succ]
      refine Pq.take (i := 9) (d := some 26) (v := .agg #[.slice aV' V'.length cV', .slice aM' M'.length cM']) rfl (by kernel_rfl) (by kernel_rfl) (by kernel_rfl) (by kernel_rfl) (fun _ _ _ h => h) (Or.inl ⟨by rfl, by intro w hSw; obtain ⟨h0, h1, h2, h3, h4⟩ := hSw; go_simp⟩) hHeld ?_
      simp only [Act.put, List.setIfInBounds_toArray, List.set_cons_zero, List.set_cons_succ]
      refine wpAnyH_ready (rs := [10]) (by kernel_rfl) (by simp) (Rg.call2 (i := 10) rfl (by kernel_rfl) 57 (.tmp 25) (.tmp 26) 25 25 (by kernel_rfl) 27 (by kernel_rfl) (.agg #[.slice aV V.length cV, .slice aM M.length cM]) (.agg #[.slice aV' V'.length cV', .slice aM' M'.length cM']) (by kernel_rfl) (by kernel_rfl) (fun _ => rfl) (c57 _ mA mB) ?_ AllReadyH.nil)
      rintro e wz ⟨rfl, hb⟩
      replace kT := (hb.block _ (Ea.blk_lt kT)).trans kT
      replace kU := (hb.block _ (Ea.blk_lt kU)).trans kU
      replace kS := (hb.block _ (Ea.blk_lt kS)).trans kS
      replace mA := mA.below hb
      replace mB := mB.below hb
      replace mH := mH.below hb
      replace BW := Rw.next BW hb
      clear hb p0 p1 q0 q1 s0
      obtain ⟨p0, p1⟩ := Pm.two kT
      obtain ⟨q0, q1⟩ := Pm.two kU
      have s0 := Hh.one kS
      refine ⟨_, rfl, ⟨p0, p1, q0, q1, s0⟩, fun hHeld => ?_⟩
      simp only [Act.put, List.setIfInBounds_toArray, List.set_cons_zero, List.set_cons_succ]
      refine Pq.take (i := 11) (d := some 28) (v := .bool false) rfl (by kernel_rfl) (by kernel_rfl) (by kernel_rfl) (by kernel_rfl) (fun _ _ _ h => h) (Or.inl ⟨by rfl, by intro w hSw; go_simp⟩) hHeld ?_
      simp only [Act.put, List.setIfInBounds_toArray, List.set_cons_zero, List.set_cons_succ]
      refine Pq.take (i := 12) (d := some 29) (v := undef) rfl (by kernel_rfl) (by kernel_rfl) (by kernel_rfl) (by kernel_rfl) (fun _ _ _ h => h) (Or.inr ⟨by rfl, rfl⟩) hHeld ?_
      simp only [Act.put, List.setIfInBounds_toArray, List.set_cons_zero, List.set_cons_succ]
      refine Pq.take (i := 13) (d := some 30) (v := undef) rfl (by kernel_rfl) (by kernel_rfl) (by kernel_rfl) (by kernel_rfl) (fun _ _ _ h => h) (Or.inr ⟨by rfl, rfl⟩) hHeld ?_
      simp only [Act.put, List.setIfInBounds_toArray, List.set_cons_zero, List.set_cons_succ]
      refine Pq.take (i := 14) (d := some 31) (v := undef) rfl (by kernel_rfl) (by kernel_rfl) (by kernel_rfl) (by kernel_rfl) (fun _ _ _ h => h) (Or.inr ⟨by rfl, rfl⟩) hHeld ?_
      simp only [Act.put, List.setIfInBounds_toArray, List.set_cons_zero, List.set_cons_succ]
      refine Pq.take (i := 15) (d := some 32) (v := .bool false) rfl (by kernel_rfl) (by kernel_rfl) (by kernel_rfl) (by kernel_rfl) (fun _ _ _ h => h) (Or.inl ⟨by rfl, by intro w hSw; go_simp⟩) hHeld ?_
      simp only [Act.put, List.setIfInBounds_toArray, List.set_cons_zero, List.set_cons_succ]
      refine Pq.take (i := 16) (d := some 33) (v := .bool false) rfl (by kernel_rfl) (by kernel_rfl) (by kernel_rfl) (by kernel_rfl) (fun _ _ _ h => h) (Or.inl ⟨by rfl, by intro w hSw; go_simp⟩) hHeld ?_
      simp only [Act.put, List.setIfInBounds_toArray, List.set_cons_zero, List.set_cons_succ]
      refine Pq.take (i := 17) (d := some 34) (v := undef) rfl (by kernel_rfl) (by kernel_rfl) (by kernel_rfl) (by kernel_rfl) (fun _ _ _ h => h) (Or.inr ⟨by rfl, rfl⟩) hHeld ?_
      simp only [Act.put, List.setIfInBounds_toArray, List.set_cons_zero, List.set_cons_succ]
      refine Pq.take (i := 18) (d := some 35) (v := undef) rfl (by kernel_rfl) (by kernel_rfl) (by kernel_rfl) (by kernel_rfl) (fun _ _ _ h => h) (Or.inr ⟨by rfl, rfl⟩) hHeld ?_
      simp only [Act.put, List.setIfInBounds_toArray, List.set_cons_zero, List.set_cons_succ]
      refine Pq.take (i := 19) (d := some 36) (v := undef) rfl (by kernel_rfl) (by kernel_rfl) (by kernel_rfl) (by kernel_rfl) (fun _ _ _ h => h) (Or.inr ⟨by rfl, rfl⟩) hHeld ?_
      simp only [Act.put, List.setIfInBounds_toArray, List.set_cons_zero, List.set_cons_succ]
      refine Pq.take (i := 20) (d := some 37) (v := undef) rfl (by kernel_rfl) (by kernel_rfl) (by kernel_rfl) (by kernel_rfl) (fun _ _ _ h => h) (Or.inr ⟨by rfl, rfl⟩) hHeld ?_
      simp only [Act.put, List.setIfInBounds_toArray, List.set_cons_zero, List.set_cons_succ]
      refine Pq.take (i := 21) (d := some 38) (v := .bool false) rfl (by kernel_rfl) (by kernel_rfl) (by kernel_rfl) (by kernel_rfl) (fun _ _ _ h => h) (Or.inl ⟨by rfl, by intro w hSw; go_simp⟩) hHeld ?_
      simp only [Act.put, List.setIfInBounds_toArray, List.set_cons_zero, List.set_cons_succ]
      refine Pq.take (i := 22) (d := some 39) (v := .bool false) rfl (by kernel_rfl) (by kernel_rfl) (by kernel_rfl) (by kernel_rfl) (fun _ _ _ h => h) (Or.inl ⟨by rfl, by intro w hSw; go_simp⟩) hHeld ?_
      simp only [Act.put, List.setIfInBounds_toArray, List.set_cons_zero, List.set_cons_succ]
      refine wpAnyH_done (by kernel_rfl) ?_ _
      go_wp2
      go_meet
      case rel => exact ⟨rfl, rfl, kT, kU, kS, mA, mB, mH, BW⟩
    · subst hcc
      rcases hbb : hb with _ | _
      · subst hbb
        refine wp_region_held_drew (S := (fun w' => w'.cell? ⟨T, 0, none⟩ = some (.slice aV V.length cV) ∧ w'.cell? ⟨T, 1, none⟩ = some (.slice aM M.length cM) ∧ w'.cell? ⟨T + 1, 0, none⟩ = some (.slice aV' V'.length cV') ∧ w'.cell? ⟨T + 1, 1, none⟩ = some (.slice aM' M'.length cM') ∧ w'.cell? ⟨T + 1 + 1, 0, none⟩ = some (.slice (some ⟨gH, 0, none⟩) 8 8))) (by kernel_rfl) ⟨p0, p1, q0, q1, s0⟩ (fun hHeld => ?_)
        refine Pq.take (i := 0) (d := some 17) (v := .agg #[.slice aV V.length cV, .slice aM M.length cM]) rfl (by kernel_rfl) (by kernel_rfl) (by kernel_rfl) (by kernel_rfl) (fun _ _ _ h => h) (Or.inl ⟨by rfl, by intro w hSw; obtain ⟨h0, h1, h2, h3, h4⟩ := hSw; go_simp⟩) hHeld ?_
        simp only [Act.put, List.setIfInBounds_toArray, List.set_cons_zero, List.set_cons_succ]
        refine Pq.take (i := 1) (d := some 18) (v := .agg #[.slice aV' V'.length cV', .slice aM' M'.length cM']) rfl (by kernel_rfl) (by kernel_rfl) (by kernel_rfl) (by kernel_rfl) (fun _ _ _ h => h) (Or.inl ⟨by rfl, by intro w hSw; obtain ⟨h0, h1, h2, h3, h4⟩ := hSw; go_simp⟩) hHeld ?_
        simp only [Act.put, List.setIfInBounds_toArray, List.set_cons_zero, List.set_cons_succ]
        refine Pq.take (i := 3) (d := some 20) (v := .agg #[.slice aV V.length cV, .slice aM M.length cM]) rfl (by kernel_rfl) (by kernel_rfl) (by kernel_rfl) (by kernel_rfl) (fun _ _ _ h => h) (Or.inl ⟨by rfl, by intro w hSw; obtain ⟨h0, h1, h2, h3, h4⟩ := hSw; go_simp⟩) hHeld ?_
        simp only [Act.put, List.setIfInBounds_toArray, List.set_cons_zero, List.set_cons_succ]
        refine Pq.take (i := 4) (d := some 21) (v := .agg #[.slice aV' V'.length cV', .slice aM' M'.length cM']) rfl (by kernel_rfl) (by kernel_rfl) (by kernel_rfl) (by kernel_rfl) (fun _ _ _ h => h) (Or.inl ⟨by rfl, by intro w hSw; obtain ⟨h0, h1, h2, h3, h4⟩ := hSw; go_simp⟩) hHeld ?_
        simp only [Act.put, List.setIfInBounds_toArray, List.set_cons_zero, List.set_cons_succ]
        refine wpAnyH_ready (rs := [2]) (by kernel_rfl) (by simp) (Rg.call2 (i := 2) rfl (by kernel_rfl) 57 (.tmp 17) (.tmp 18) 25 25 (by kernel_rfl) 19 (by kernel_rfl) (.agg #[.slice aV V.length cV, .slice aM M.length cM]) (.agg #[.slice aV' V'.length cV', .slice aM' M'.length cM']) (by kernel_rfl) (by kernel_rfl) (fun _ => rfl) (c57 _ mA.drew mB.drew) ?_ AllReadyH.nil)
        rintro e wz ⟨rfl, hb⟩
        replace hb := Rw.next (Below.drew (Below.refl _ W2) : Below W2.heap.size W2 _) hb
        replace kT := (hb.block _ (Ea.blk_lt kT)).trans kT
        replace kU := (hb.block _ (Ea.blk_lt kU)).trans kU
        replace kS := (hb.block _ (Ea.blk_lt kS)).trans kS
        replace mA := mA.below hb
        replace mB := mB.below hb
        replace mH := mH.below hb
        replace BW := Rw.next BW hb
        clear hb p0 p1 q0 q1 s0
        obtain ⟨p0, p1⟩ := Pm.two kT
        obtain ⟨q0, q1⟩ := Pm.two kU
        have s0 := Hh.one kS
        refine ⟨_, rfl, ⟨p0, p1, q0, q1, s0⟩, fun hHeld => ?_⟩
        simp only [Act.put, List.setIfInBounds_toArray, List.set_cons_zero, List.set_cons_succ]
        refine wpAnyH_ready (rs := [5]) (by kernel_rfl) (by simp) (Rg.call2 (i := 5) rfl (by kernel_rfl) 58 (.tmp 20) (.tmp 21) 25 25 (by kernel_rfl) 22 (by kernel_rfl) (.agg #[.slice aV V.length cV, .slice aM M.length cM]) (.agg #[.slice aV' V'.length cV', .slice aM' M'.length cM']) (by kernel_rfl) (by kernel_rfl) (fun _ => rfl) (c58 _ mA mB) ?_ AllReadyH.nil)
        rintro e wz ⟨rfl, hb⟩
        replace kT := (hb.block _ (Ea.blk_lt kT)).trans kT
        replace kU := (hb.block _ (Ea.blk_lt kU)).trans kU
        replace kS := (hb.block _ (Ea.blk_lt kS)).trans kS
        replace mA := mA.below hb
        replace mB := mB.below hb
        replace mH := mH.below hb
        replace BW := Rw.next BW hb
        clear hb p0 p1 q0 q1 s0
        obtain ⟨p0, p1⟩ := Pm.two kT
        obtain ⟨q0, q1⟩ := Pm.two kU
        have s0 := Hh.one kS
        refine ⟨_, rfl, ⟨p0, p1, q0, q1, s0⟩, fun hHeld => ?_⟩
        simp only [Act.put, List.setIfInBounds_toArray, List.set_cons_zero, List.set_cons_succ]
        refine Pq.take (i := 6) (d := some 23) (v := .bool false) rfl (by kernel_rfl) (by kernel_rfl) (by kernel_rfl) (by kernel_rfl) (fun _ _ _ h => h) (Or.inl ⟨by rfl, by intro w hSw; go_simp⟩) hHeld ?_
        simp only [Act.put, List.setIfInBounds_toArray, List.set_cons_zero, List.set_cons_succ]
        refine Pq.take (i := 7) (d := some 24) (v := .bool false) rfl (by kernel_rfl) (by kernel_rfl) (by kernel_rfl) (by kernel_rfl) (fun _ _ _ h => h) (Or.inl ⟨by rfl, by intro w hSw; go_simp⟩) hHeld ?_
        simp only [Act.put, List.setIfInBounds_toArray, List.set_cons_zero, List.set_cons_succ]
        refine Pq.take (i := 8) (d := some 25) (v := .agg #[.slice aV V.length cV, .slice aM M.length cM]) rfl (by kernel_rfl) (by kernel_rfl) (by kernel_rfl) (by kernel_rfl) (fun _ _ _ h => h) (Or.inl ⟨by rfl, by intro w hSw; obtain ⟨h0, h1, h2, h3, h4⟩ := hSw; go_simp⟩) hHeld ?_
        simp only [Act.put, List.setIfInBounds_toArray, List.set_cons_zero, List.set_cons_succ]
        refine Pq.take (i := 9) (d := some 26) (v := .agg #[.slice aV' V'.length cV', .slice aM' M'.length cM']) rfl (by kernel_rfl) (by kernel_rfl) (by kernel_rfl) (by kernel_rfl) (fun _ _ _ h => h) (Or.inl ⟨by rfl, by intro w hSw; obtain ⟨h0, h1, h2, h3, h4⟩ := hSw; go_simp⟩) hHeld ?_
        simp only [Act.put, List.setIfInBounds_toArray, List.set_cons_zero, List.set_cons_succ]
        refine wpAnyH_ready (rs := [10]) (by kernel_rfl) (by simp) (Rg.call2 (i := 10) rfl (by kernel_rfl) 57 (.tmp 25) (.tmp 26) 25 25 (by kernel_rfl) 27 (by kernel_rfl) (.agg #[.slice aV V.length cV, .slice aM M.length cM]) (.agg #[.slice aV' V'.length cV', .slice aM' M'.length cM']) (by kernel_rfl) (by kernel_rfl) (fun _ => rfl) (c57 _ mA mB) ?_ AllReadyH.nil)
        rintro e wz ⟨rfl, hb⟩
        replace kT := (hb.block _ (Ea.blk_lt kT)).trans kT
        replace kU := (hb.block _ (Ea.blk_lt kU)).trans kU
        replace kS := (hb.block _ (Ea.blk_lt kS)).trans kS
        replace mA := mA.below hb
        replace mB := mB.below hb
        replace mH := mH.below hb
        replace BW := Rw.next BW hb
        clear hb p0 p1 q0 q1 s0
        obtain ⟨p0, p1⟩ := Pm.two kT
        obtain ⟨q0, q1⟩ := Pm.two kU
        have s0 := Hh.one kS
        refine ⟨_, rfl, ⟨p0, p1, q0, q1, s0⟩, fun hHeld => ?_⟩
        simp only [Act.put, List.setIfInBounds_toArray, List.set_cons_zero, List.set_cons_succ]
        refine Pq.take (i := 11) (d := some 28) (v := .bool true) rfl (by kernel_rfl) (by kernel_rfl) (by kernel_rfl) (by kernel_rfl) (fun _ _ _ h => h) (Or.inl ⟨by rfl, by intro w hSw; go_simp⟩) hHeld ?_
        simp only [Act.put, List.setIfInBounds_toArray, List.set_cons_zero, List.set_cons_succ]
        refine Pq.take (i := 12) (d := some 29) (v := .agg #[.slice aV' V'.length cV', .slice aM' M'.length cM']) rfl (by kernel_rfl) (by kernel_rfl) (by kernel_rfl) (by kernel_rfl) (fun _ _ _ h => h) (Or.inl ⟨by rfl, by intro w hSw; obtain ⟨h0, h1, h2, h3, h4⟩ := hSw; go_simp⟩) hHeld ?_
        simp only [Act.put, List.setIfInBounds_toArray, List.set_cons_zero, List.set_cons_succ]
        refine Pq.take (i := 13) (d := some 30) (v := .agg #[.slice (some ⟨gH, 0, none⟩) 8 8]) rfl (by kernel_rfl) (by kernel_rfl) (by kernel_rfl) (by kernel_rfl) (fun _ _ _ h => h) (Or.inl ⟨by rfl, by intro w hSw; obtain ⟨h0, h1, h2, h3, h4⟩ := hSw; go_simp⟩) hHeld ?_
        simp only [Act.put, List.setIfInBounds_toArray, List.set_cons_zero, List.set_cons_succ]
        refine wpAnyH_ready (rs := [14]) (by kernel_rfl) (by simp) (Rg.call2 (i := 14) rfl (by kernel_rfl) 59 (.tmp 29) (.tmp 30) 25 28 (by kernel_rfl) 31 (by kernel_rfl) (.agg #[.slice aV' V'.length cV', .slice aM' M'.length cM']) (.agg #[.slice (some ⟨gH, 0, none⟩) 8 8]) (by kernel_rfl) (by kernel_rfl) (fun _ => rfl) (c59b _ mB mH) ?_ AllReadyH.nil)
        rintro e wz ⟨rfl, hb⟩
        replace kT := (hb.block _ (Ea.blk_lt kT)).trans kT
        replace kU := (hb.block _ (Ea.blk_lt kU)).trans kU
        replace kS := (hb.block _ (Ea.blk_lt kS)).trans kS
        replace mA := mA.below hb
        replace mB := mB.below hb
        replace mH := mH.below hb
        replace BW := Rw.next BW hb
        clear hb p0 p1 q0 q1 s0
        obtain ⟨p0, p1⟩ := Pm.two kT
        obtain ⟨q0, q1⟩ := Pm.two kU
        have s0 := Hh.one kS
        refine ⟨_, rfl, ⟨p0, p1, q0, q1, s0⟩, fun hHeld => ?_⟩
        simp only [Act.put, List.setIfInBounds_toArray, List.set_cons_zero, List.set_cons_succ]
        refine Pq.take (i := 15) (d := some 32) (v := .bool false) rfl (by kernel_rfl) (by kernel_rfl) (by kernel_rfl) (by kernel_rfl) (fun _ _ _ h => h) (Or.inl ⟨by rfl, by intro w hSw; go_simp⟩) hHeld ?_
        simp only [Act.put, List.setIfInBounds_toArray, List.set_cons_zero, List.set_cons_succ]
        refine Pq.take (i := 16) (d := some 33) (v := .bool false) rfl (by kernel_rfl) (by kernel_rfl) (by kernel_rfl) (by kernel_rfl) (fun _ _ _ h => h) (Or.inl ⟨by rfl, by intro w hSw; go_simp⟩) hHeld ?_
        simp only [Act.put, List.setIfInBounds_toArray, List.set_cons_zero, List.set_cons_succ]
        refine Pq.take (i := 17) (d := some 34) (v := undef) rfl (by kernel_rfl) (by kernel_rfl) (by kernel_rfl) (by kernel_rfl) (fun _ _ _ h => h) (Or.inr ⟨by rfl, rfl⟩) hHeld ?_
        simp only [Act.put, List.setIfInBounds_toArray, List.set_cons_zero, List.set_cons_succ]
        refine Pq.take (i := 18) (d := some 35) (v := undef) rfl (by kernel_rfl) (by kernel_rfl) (by kernel_rfl) (by kernel_rfl) (fun _ _ _ h => h) (Or.inr ⟨by rfl, rfl⟩) hHeld ?_
        simp only [Act.put, List.setIfInBounds_toArray, List.set_cons_zero, List.set_cons_succ]
        refine Pq.take (i := 19) (d := some 36) (v := undef) rfl (by kernel_rfl) (by kernel_rfl) (by kernel_rfl) (by kernel_rfl) (fun _ _ _ h => h) (Or.inr ⟨by rfl, rfl⟩) hHeld ?_
        simp only [Act.put, List.setIfInBounds_toArray, List.set_cons_zero, List.set_cons_succ]
        refine Pq.take (i := 20) (d := some 37) (v := undef) rfl (by kernel_rfl) (by kernel_rfl) (by kernel_rfl) (by kernel_rfl) (fun _ _ _ h => h) (Or.inr ⟨by rfl, rfl⟩) hHeld ?_
        simp only [Act.put, List.setIfInBounds_toArray, List.set_cons_zero, List.set_cons_succ]
        refine Pq.take (i := 21) (d := some 38) (v := .bool false) rfl (by kernel_rfl) (by kernel_rfl) (by kernel_rfl) (by kernel_rfl) (fun _ _ _ h => h) (Or.inl ⟨by rfl, by intro w hSw; go_simp⟩) hHeld ?_
        simp only [Act.put, List.setIfInBounds_toArray, List.set_cons_zero, List.set_cons_succ]
        refine Pq.take (i := 22) (d := some 39) (v := .bool false) rfl (by kernel_rfl) (by kernel_rfl) (by kernel_rfl) (by kernel_rfl) (fun _ _ _ h => h) (Or.inl ⟨by rfl, by intro w hSw; go_simp⟩) hHeld ?_
        simp only [Act.put, List.setIfInBounds_toArray, List.set_cons_zero, List.set_cons_succ]
        refine wpAnyH_done (by kernel_rfl) ?_ _
        go_wp2
        go_meet
        case rel => exact ⟨rfl, rfl, kT, kU, kS, mA, mB, mH, BW⟩
      · subst hbb
        obtain rfl := as1 rfl rfl
        have t1 : True := trivial
        go_region_held3 (fun w' => w'.cell? ⟨T, 0, none⟩ = some (.slice aV V.length cV) ∧ w'.cell? ⟨T, 1, none⟩ = some (.slice aM M.length cM) ∧ w'.cell? ⟨T + 1, 0, none⟩ = some (.slice aV' V'.length cV') ∧ w'.cell? ⟨T + 1, 1, none⟩ = some (.slice aM' M'.length cM') ∧ w'.cell? ⟨T + 1 + 1, 0, none⟩ = some (.slice (some ⟨gH, 0, none⟩) 8 8)) (go_keep) (first
          | (go_at_call 57; clear t1; refine (c57 _ (by first | exact mA | exact mA.drew) (by first | exact mB | exact mB.drew)).mono ?_; rintro e wz ⟨rfl, hb⟩; replace hb := Rw.next (by first | exact Below.refl _ W2 | exact Below.drew (Below.refl _ W2) : Below W2.heap.size W2 _) hb; replace kT := (hb.block _ (Ea.blk_lt kT)).trans kT; replace kU := (hb.block _ (Ea.blk_lt kU)).trans kU; replace kS := (hb.block _ (Ea.blk_lt kS)).trans kS; replace mA := mA.below hb; replace mB := mB.below hb; replace mH := mH.below hb; replace BW := Rw.next BW hb; clear hb p0 p1 q0 q1 s0; obtain ⟨p0, p1⟩ := Pm.two kT; obtain ⟨q0, q1⟩ := Pm.two kU; have s0 := Hh.one kS; have t2 : True := trivial)
          | (go_at_call 58; clear t2; refine (c58 _ (by first | exact mA | exact mA.drew) (by first | exact mB | exact mB.drew)).mono ?_; rintro e wz ⟨rfl, hb⟩; replace kT := (hb.block _ (Ea.blk_lt kT)).trans kT; replace kU := (hb.block _ (Ea.blk_lt kU)).trans kU; replace kS := (hb.block _ (Ea.blk_lt kS)).trans kS; replace mA := mA.below hb; replace mB := mB.below hb; replace mH := mH.below hb; replace BW := Rw.next BW hb; clear hb p0 p1 q0 q1 s0; obtain ⟨p0, p1⟩ := Pm.two kT; obtain ⟨q0, q1⟩ := Pm.two kU; have s0 := Hh.one kS; have t3 : True := trivial)
          | (go_at_call 57; clear t3; refine (c57 _ (by first | exact mA | exact mA.drew) (by first | exact mB | exact mB.drew)).mono ?_; rintro e wz ⟨rfl, hb⟩; replace kT := (hb.block _ (Ea.blk_lt kT)).trans kT; replace kU := (hb.block _ (Ea.blk_lt kU)).trans kU; replace kS := (hb.block _ (Ea.blk_lt kS)).trans kS; replace mA := mA.below hb; replace mB := mB.below hb; replace mH := mH.below hb; replace BW := Rw.next BW hb; clear hb p0 p1 q0 q1 s0; obtain ⟨p0, p1⟩ := Pm.two kT; obtain ⟨q0, q1⟩ := Pm.two kU; have s0 := Hh.one kS; have t4 : True := trivial)
          | (go_at_call 59; clear t4; refine (c59b _ (by first | exact mB | exact mB.drew) (by first | exact mH | exact mine_drew mH)).mono ?_; rintro e wz ⟨rfl, hb⟩; replace kT := (hb.block _ (Ea.blk_lt kT)).trans kT; replace kU := (hb.block _ (Ea.blk_lt kU)).trans kU; replace kS := (hb.block _ (Ea.blk_lt kS)).trans kS; replace mA := mA.below hb; replace mB := mB.below hb; replace mH := mH.below hb; replace BW := Rw.next BW hb; clear hb p0 p1 q0 q1 s0; obtain ⟨p0, p1⟩ := Pm.two kT; obtain ⟨q0, q1⟩ := Pm.two kU; have s0 := Hh.one kS; have t5 : True := trivial)
          | (go_at_call 59; clear t5; refine (c59a _ (by first | exact mA | exact mA.drew) (by first | exact mH | exact mine_drew mH)).mono ?_; rintro e wz ⟨rfl, hb⟩; replace kT := (hb.block _ (Ea.blk_lt kT)).trans kT; replace kU := (hb.block _ (Ea.blk_lt kU)).trans kU; replace kS := (hb.block _ (Ea.blk_lt kS)).trans kS; replace mA := mA.below hb; replace mB := mB.below hb; replace mH := mH.below hb; replace BW := Rw.next BW hb; clear hb p0 p1 q0 q1 s0; obtain ⟨p0, p1⟩ := Pm.two kT; obtain ⟨q0, q1⟩ := Pm.two kU; have s0 := Hh.one kS; have t6 : True := trivial))
        go_wp2
        go_meet
        case rel => exact ⟨rfl, rfl, kT, kU, kS, mA, mB, mH, BW⟩
  case rest =>
    clear kT kU kS mA mB mH BW
    obtain ⟨rfl, rfl, kT, kU, kS, mA, mB, mH, BW⟩ := hcut
    clear c57 c58 as1
    obtain ⟨p0, p1⟩ := Pm.two kT
    obtain ⟨q0, q1⟩ := Pm.two kU
    have s0 := Hh.one kS
    obtain ⟨kR, hkR⟩ : ∃ z : Nat, z = 0 := ⟨_, rfl⟩
    clear kR hkR
    apply ‹∀ (a : Act) (w : World), Code.wp Try.prog _ _ a w → _›
    go_upto_if 50 with (first
      | (go_at_call 60; refine (c60 _ mA mB).mono ?_; rintro e w5 ⟨aV'', gV'', cV'', aM'', gM'', cM'', rfl, tV, tM, lV, lM, _, hb⟩; have zw := BW.size; replace kT := (hb.block _ (Ea.blk_lt kT)).trans kT; replace kU := (hb.block _ (Ea.blk_lt kU)).trans kU; replace kS := (hb.block _ (Ea.blk_lt kS)).trans kS; replace mA := mA.below hb; replace mB := mB.below hb; replace mH := mH.below hb; replace BW := Rw.next BW hb; clear hb p0 p1 q0 q1 s0; obtain ⟨p0, p1⟩ := Pm.two kT; obtain ⟨q0, q1⟩ := Pm.two kU; have s0 := Hh.one kS; have mC : Ua.MT w5 w.heap.size aV'' gV'' V'' aM'' gM'' M'' := ⟨tV.rd, tM.rd, xw, yw, by omega, by omega⟩; clear tV tM lV lM zw; have hb := Pl.below_alloc1 w5 (.cells #[.slice aV'' V''.length cV'', .slice aM'' M''.length cM''] 25); have kQ : (w5.alloc (.cells #[.slice aV'' V''.length cV'', .slice aM'' M''.length cM''] 25)).heap[w5.heap.size]? = some (.cells #[.slice aV'' V''.length cV'', .slice aM'' M''.length cM''] 25 (0, 0)) := Pl.at_new rfl; replace mC := mC.below hb; replace kT := (hb.block _ (Ea.blk_lt kT)).trans kT; replace kU := (hb.block _ (Ea.blk_lt kU)).trans kU; replace kS := (hb.block _ (Ea.blk_lt kS)).trans kS; replace mA := mA.below hb; replace mB := mB.below hb; replace mH := mH.below hb; replace BW := Rw.next BW hb; clear hb p0 p1 q0 q1 s0; obtain ⟨p0, p1⟩ := Pm.two kT; obtain ⟨q0, q1⟩ := Pm.two kU; have s0 := Hh.one kS; obtain ⟨u0, u1⟩ := Pm.two kQ)
      | (go_at_call 61; refine (c61 _ mA mB).mono ?_; rintro e W6 ⟨rfl, hb⟩; replace kT := (hb.block _ (Ea.blk_lt kT)).trans kT; replace kU := (hb.block _ (Ea.blk_lt kU)).trans kU; replace kS := (hb.block _ (Ea.blk_lt kS)).trans kS; replace kQ := (hb.block _ (Ea.blk_lt kQ)).trans kQ; replace mA := mA.below hb; replace mB := mB.below hb; replace mH := mH.below hb; replace mC := mC.below hb; replace BW := Rw.next BW hb; clear hb p0 p1 q0 q1 s0 u0 u1; obtain ⟨p0, p1⟩ := Pm.two kT; obtain ⟨q0, q1⟩ := Pm.two kU; have s0 := Hh.one kS; obtain ⟨u0, u1⟩ := Pm.two kQ))
    obtain ⟨Q, hQ⟩ : ∃ Q, Q = w5.heap.size := ⟨_, rfl⟩
    rw [← hQ] at kQ u0 u1 ⊢
    clear hQ c60 c61
    replace c57a := c57a aV'' aM'' gV'' cV'' gM'' cM''
    replace c57b := c57b aV'' aM'' gV'' cV'' gM'' cM''
    replace c59m := c59m aV'' aM'' gV'' cV'' gM'' cM''
    replace c62m := c62m aV'' aM'' gV'' cV'' gM'' cM''
    rcases hmt : mt with _ | _
    · have hab := AS2.out hmt
      subst hmt
      clear AS2 AS3 c57a c57b c59m c62m c62a
      have t1 : True := trivial
      rcases hha : ha with _ | _
      · subst hha
        go_wp2_with (go_at_call 59; clear t1; refine (c59a _ mA mH).mono ?_; rintro e wz ⟨rfl, hb⟩; replace kT := (hb.block _ (Ea.blk_lt kT)).trans kT; replace kU := (hb.block _ (Ea.blk_lt kU)).trans kU; replace kS := (hb.block _ (Ea.blk_lt kS)).trans kS; replace kQ := (hb.block _ (Ea.blk_lt kQ)).trans kQ; replace mA := mA.below hb; replace mB := mB.below hb; replace mH := mH.below hb; replace mC := mC.below hb; replace BW := Rw.next BW hb; clear hb p0 p1 q0 q1 s0 u0 u1; obtain ⟨p0, p1⟩ := Pm.two kT; obtain ⟨q0, q1⟩ := Pm.two kU; have s0 := Hh.one kS; obtain ⟨u0, u1⟩ := Pm.two kQ)
        go_ret
        exact ⟨rfl, BW⟩
      · have hbf : hb = false := by rw [hha] at hab; simpa using hab
        subst hha
        subst hbf
        go_wp2_with (first
          | (go_at_call 59; clear t1; refine (c59a _ mA mH).mono ?_; rintro e wz ⟨rfl, hb⟩; replace kT := (hb.block _ (Ea.blk_lt kT)).trans kT; replace kU := (hb.block _ (Ea.blk_lt kU)).trans kU; replace kS := (hb.block _ (Ea.blk_lt kS)).trans kS; replace kQ := (hb.block _ (Ea.blk_lt kQ)).trans kQ; replace mA := mA.below hb; replace mB := mB.below hb; replace mH := mH.below hb; replace mC := mC.below hb; replace BW := Rw.next BW hb; clear hb p0 p1 q0 q1 s0 u0 u1; obtain ⟨p0, p1⟩ := Pm.two kT; obtain ⟨q0, q1⟩ := Pm.two kU; have s0 := Hh.one kS; obtain ⟨u0, u1⟩ := Pm.two kQ)
          | (go_at_call 59; refine (c59b _ mB mH).mono ?_; rintro e wz ⟨rfl, hb⟩; replace kT := (hb.block _ (Ea.blk_lt kT)).trans kT; replace kU := (hb.block _ (Ea.blk_lt kU)).trans kU; replace kS := (hb.block _ (Ea.blk_lt kS)).trans kS; replace kQ := (hb.block _ (Ea.blk_lt kQ)).trans kQ; replace mA := mA.below hb; replace mB := mB.below hb; replace mH := mH.below hb; replace mC := mC.below hb; replace BW := Rw.next BW hb; clear hb p0 p1 q0 q1 s0 u0 u1; obtain ⟨p0, p1⟩ := Pm.two kT; obtain ⟨q0, q1⟩ := Pm.two kU; have s0 := Hh.one kS; obtain ⟨u0, u1⟩ := Pm.two kQ))
        go_ret
        exact ⟨rfl, BW⟩
    · obtain ⟨e1, e2, e3, e4⟩ := AS3.out hmt
      subst hmt
      rw [e1] at c59m
      rw [e2] at c57a
      rw [e3] at c57b
      generalize Uc.askI V'' M'' = y2 at *
      clear AS2 AS3 e1 e2 e3
      rcases hha : ha with _ | _
      · subst hha
        rw [Bool.false_and] at c59m
        go_wp2
        refine wp_region_held_drew (S := (fun w' => w'.cell? ⟨T, 0, none⟩ = some (.slice aV V.length cV) ∧ w'.cell? ⟨T, 1, none⟩ = some (.slice aM M.length cM) ∧ w'.cell? ⟨T + 1, 0, none⟩ = some (.slice aV' V'.length cV') ∧ w'.cell? ⟨T + 1, 1, none⟩ = some (.slice aM' M'.length cM') ∧ w'.cell? ⟨T + 1 + 1, 0, none⟩ = some (.slice (some ⟨gH, 0, none⟩) 8 8) ∧ w'.cell? ⟨Q, 0, none⟩ = some (.slice aV'' V''.length cV'') ∧ w'.cell? ⟨Q, 1, none⟩ = some (.slice aM'' M''.length cM''))) (by kernel_rfl) ⟨p0, p1, q0, q1, s0, u0, u1⟩ (fun hHeld => ?_)
        refine Pq.take (i := 0) (d := some 62) (v := .agg #[.slice aV'' V''.length cV'', .slice aM'' M''.length cM'']) rfl (by kernel_rfl) (by kernel_rfl) (by kernel_rfl) (by kernel_rfl) (fun _ _ _ h => h) (Or.inl ⟨by rfl, by intro w hSw; obtain ⟨h0, h1, h2, h3, h4, h5, h6⟩ := hSw; go_simp⟩) hHeld ?_
        simp only [Act.put, List.setIfInBounds_toArray, List.set_cons_zero, List.set_cons_succ]
        refine Pq.take (i := 1) (d := some 63) (v := .agg #[.slice (some ⟨gH, 0, none⟩) 8 8]) rfl (by kernel_rfl) (by kernel_rfl) (by kernel_rfl) (by kernel_rfl) (fun _ _ _ h => h) (Or.inl ⟨by rfl, by intro w hSw; obtain ⟨h0, h1, h2, h3, h4, h5, h6⟩ := hSw; go_simp⟩) hHeld ?_
        simp only [Act.put, List.setIfInBounds_toArray, List.set_cons_zero, List.set_cons_succ]
        refine Pq.take (i := 3) (d := some 65) (v := .agg #[.slice aV V.length cV, .slice aM M.length cM]) rfl (by kernel_rfl) (by kernel_rfl) (by kernel_rfl) (by kernel_rfl) (fun _ _ _ h => h) (Or.inl ⟨by rfl, by intro w hSw; obtain ⟨h0, h1, h2, h3, h4, h5, h6⟩ := hSw; go_simp⟩) hHeld ?_
        simp only [Act.put, List.setIfInBounds_toArray, List.set_cons_zero, List.set_cons_succ]
        refine Pq.take (i := 4) (d := some 66) (v := .agg #[.slice (some ⟨gH, 0, none⟩) 8 8]) rfl (by kernel_rfl) (by kernel_rfl) (by kernel_rfl) (by kernel_rfl) (fun _ _ _ h => h) (Or.inl ⟨by rfl, by intro w hSw; obtain ⟨h0, h1, h2, h3, h4, h5, h6⟩ := hSw; go_simp⟩) hHeld ?_
        simp only [Act.put, List.setIfInBounds_toArray, List.set_cons_zero, List.set_cons_succ]
        refine wpAnyH_ready (rs := [2]) (by kernel_rfl) (by simp) (Rg.call2 (i := 2) rfl (by kernel_rfl) 59 (.tmp 62) (.tmp 63) 25 28 (by kernel_rfl) 64 (by kernel_rfl) (.agg #[.slice aV'' V''.length cV'', .slice aM'' M''.length cM'']) (.agg #[.slice (some ⟨gH, 0, none⟩) 8 8]) (by kernel_rfl) (by kernel_rfl) (fun _ => rfl) (c59m _ mC.drew (mine_drew mH)) ?_ AllReadyH.nil)
        rintro e wz ⟨rfl, hb⟩
        replace hb := Rw.next (Below.drew (Below.refl _ W6) : Below W6.heap.size W6 _) hb
        replace kT := (hb.block _ (Ea.blk_lt kT)).trans kT
        replace kU := (hb.block _ (Ea.blk_lt kU)).trans kU
        replace kS := (hb.block _ (Ea.blk_lt kS)).trans kS
        replace kQ := (hb.block _ (Ea.blk_lt kQ)).trans kQ
        replace mA := mA.below hb
        replace mB := mB.below hb
        replace mH := mH.below hb
        replace mC := mC.below hb
        replace BW := Rw.next BW hb
        clear hb p0 p1 q0 q1 s0 u0 u1
        obtain ⟨p0, p1⟩ := Pm.two kT
        obtain ⟨q0, q1⟩ := Pm.two kU
        have s0 := Hh.one kS
        obtain ⟨u0, u1⟩ := Pm.two kQ
        refine ⟨_, rfl, ⟨p0, p1, q0, q1, s0, u0, u1⟩, fun hHeld => ?_⟩
        simp only [Act.put, List.setIfInBounds_toArray, List.set_cons_zero, List.set_cons_succ]
        refine wpAnyH_ready (rs := [5]) (by kernel_rfl) (by simp) (Rg.call2 (i := 5) rfl (by kernel_rfl) 59 (.tmp 65) (.tmp 66) 25 28 (by kernel_rfl) 67 (by kernel_rfl) (.agg #[.slice aV V.length cV, .slice aM M.length cM]) (.agg #[.slice (some ⟨gH, 0, none⟩) 8 8]) (by kernel_rfl) (by kernel_rfl) (fun _ => rfl) (c59a _ mA mH) ?_ AllReadyH.nil)
        rintro e wz ⟨rfl, hb⟩
        replace kT := (hb.block _ (Ea.blk_lt kT)).trans kT
        replace kU := (hb.block _ (Ea.blk_lt kU)).trans kU
        replace kS := (hb.block _ (Ea.blk_lt kS)).trans kS
        replace kQ := (hb.block _ (Ea.blk_lt kQ)).trans kQ
        replace mA := mA.below hb
        replace mB := mB.below hb
        replace mH := mH.below hb
        replace mC := mC.below hb
        replace BW := Rw.next BW hb
        clear hb p0 p1 q0 q1 s0 u0 u1
        obtain ⟨p0, p1⟩ := Pm.two kT
        obtain ⟨q0, q1⟩ := Pm.two kU
        have s0 := Hh.one kS
        obtain ⟨u0, u1⟩ := Pm.two kQ
        refine ⟨_, rfl, ⟨p0, p1, q0, q1, s0, u0, u1⟩, fun hHeld => ?_⟩
        simp only [Act.put, List.setIfInBounds_toArray, List.set_cons_zero, List.set_cons_succ]
        refine Pq.take (i := 6) (d := some 68) (v := .bool false) rfl (by kernel_rfl) (by kernel_rfl) (by kernel_rfl) (by kernel_rfl) (fun _ _ _ h => h) (Or.inl ⟨by rfl, by intro w hSw; go_simp⟩) hHeld ?_
        simp only [Act.put, List.setIfInBounds_toArray, List.set_cons_zero, List.set_cons_succ]
        refine Pq.take (i := 7) (d := some 69) (v := undef) rfl (by kernel_rfl) (by kernel_rfl) (by kernel_rfl) (by kernel_rfl) (fun _ _ _ h => h) (Or.inr ⟨by rfl, rfl⟩) hHeld ?_
        simp only [Act.put, List.setIfInBounds_toArray, List.set_cons_zero, List.set_cons_succ]
        refine Pq.take (i := 8) (d := some 70) (v := undef) rfl (by kernel_rfl) (by kernel_rfl) (by kernel_rfl) (by kernel_rfl) (fun _ _ _ h => h) (Or.inr ⟨by rfl, rfl⟩) hHeld ?_
        simp only [Act.put, List.setIfInBounds_toArray, List.set_cons_zero, List.set_cons_succ]
        refine Pq.take (i := 9) (d := some 71) (v := undef) rfl (by kernel_rfl) (by kernel_rfl) (by kernel_rfl) (by kernel_rfl) (fun _ _ _ h => h) (Or.inr ⟨by rfl, rfl⟩) hHeld ?_
        simp only [Act.put, List.setIfInBounds_toArray, List.set_cons_zero, List.set_cons_succ]
        refine Pq.take (i := 10) (d := some 72) (v := .bool false) rfl (by kernel_rfl) (by kernel_rfl) (by kernel_rfl) (by kernel_rfl) (fun _ _ _ h => h) (Or.inl ⟨by rfl, by intro w hSw; go_simp⟩) hHeld ?_
        simp only [Act.put, List.setIfInBounds_toArray, List.set_cons_zero, List.set_cons_succ]
        refine Pq.take (i := 11) (d := some 73) (v := .bool true) rfl (by kernel_rfl) (by kernel_rfl) (by kernel_rfl) (by kernel_rfl) (fun _ _ _ h => h) (Or.inl ⟨by rfl, by intro w hSw; go_simp⟩) hHeld ?_
        simp only [Act.put, List.setIfInBounds_toArray, List.set_cons_zero, List.set_cons_succ]
        refine Pq.take (i := 12) (d := some 74) (v := .bool true) rfl (by kernel_rfl) (by kernel_rfl) (by kernel_rfl) (by kernel_rfl) (fun _ _ _ h => h) (Or.inl ⟨by rfl, by intro w hSw; go_simp⟩) hHeld ?_
        simp only [Act.put, List.setIfInBounds_toArray, List.set_cons_zero, List.set_cons_succ]
        refine Pq.take (i := 13) (d := some 75) (v := .agg #[.slice aV V.length cV, .slice aM M.length cM]) rfl (by kernel_rfl) (by kernel_rfl) (by kernel_rfl) (by kernel_rfl) (fun _ _ _ h => h) (Or.inl ⟨by rfl, by intro w hSw; obtain ⟨h0, h1, h2, h3, h4, h5, h6⟩ := hSw; go_simp⟩) hHeld ?_
        simp only [Act.put, List.setIfInBounds_toArray, List.set_cons_zero, List.set_cons_succ]
        refine Pq.take (i := 14) (d := some 76) (v := .agg #[.slice aV'' V''.length cV'', .slice aM'' M''.length cM'']) rfl (by kernel_rfl) (by kernel_rfl) (by kernel_rfl) (by kernel_rfl) (fun _ _ _ h => h) (Or.inl ⟨by rfl, by intro w hSw; obtain ⟨h0, h1, h2, h3, h4, h5, h6⟩ := hSw; go_simp⟩) hHeld ?_
        simp only [Act.put, List.setIfInBounds_toArray, List.set_cons_zero, List.set_cons_succ]
        refine wpAnyH_ready (rs := [15]) (by kernel_rfl) (by simp) (Rg.call2 (i := 15) rfl (by kernel_rfl) 57 (.tmp 75) (.tmp 76) 25 25 (by kernel_rfl) 77 (by kernel_rfl) (.agg #[.slice aV V.length cV, .slice aM M.length cM]) (.agg #[.slice aV'' V''.length cV'', .slice aM'' M''.length cM'']) (by kernel_rfl) (by kernel_rfl) (fun _ => rfl) (c57a _ mA mC) ?_ AllReadyH.nil)
        rintro e wz ⟨rfl, hb⟩
        replace kT := (hb.block _ (Ea.blk_lt kT)).trans kT
        replace kU := (hb.block _ (Ea.blk_lt kU)).trans kU
        replace kS := (hb.block _ (Ea.blk_lt kS)).trans kS
        replace kQ := (hb.block _ (Ea.blk_lt kQ)).trans kQ
        replace mA := mA.below hb
        replace mB := mB.below hb
        replace mH := mH.below hb
        replace mC := mC.below hb
        replace BW := Rw.next BW hb
        clear hb p0 p1 q0 q1 s0 u0 u1
        obtain ⟨p0, p1⟩ := Pm.two kT
        obtain ⟨q0, q1⟩ := Pm.two kU
        have s0 := Hh.one kS
        obtain ⟨u0, u1⟩ := Pm.two kQ
        refine ⟨_, rfl, ⟨p0, p1, q0, q1, s0, u0, u1⟩, fun hHeld => ?_⟩
        simp only [Act.put, List.setIfInBounds_toArray, List.set_cons_zero, List.set_cons_succ]
        refine Pq.take (i := 16) (d := some 78) (v := .bool true) rfl (by kernel_rfl) (by kernel_rfl) (by kernel_rfl) (by kernel_rfl) (fun _ _ _ h => h) (Or.inl ⟨by rfl, by intro w hSw; go_simp⟩) hHeld ?_
        simp only [Act.put, List.setIfInBounds_toArray, List.set_cons_zero, List.set_cons_succ]
        refine Pq.take (i := 17) (d := some 79) (v := .bool true) rfl (by kernel_rfl) (by kernel_rfl) (by kernel_rfl) (by kernel_rfl) (fun _ _ _ h => h) (Or.inl ⟨by rfl, by intro w hSw; go_simp⟩) hHeld ?_
        simp only [Act.put, List.setIfInBounds_toArray, List.set_cons_zero, List.set_cons_succ]
        refine Pq.take (i := 18) (d := some 80) (v := .agg #[.slice aV' V'.length cV', .slice aM' M'.length cM']) rfl (by kernel_rfl) (by kernel_rfl) (by kernel_rfl) (by kernel_rfl) (fun _ _ _ h => h) (Or.inl ⟨by rfl, by intro w hSw; obtain ⟨h0, h1, h2, h3, h4, h5, h6⟩ := hSw; go_simp⟩) hHeld ?_
        simp only [Act.put, List.setIfInBounds_toArray, List.set_cons_zero, List.set_cons_succ]
        refine Pq.take (i := 19) (d := some 81) (v := .agg #[.slice aV'' V''.length cV'', .slice aM'' M''.length cM'']) rfl (by kernel_rfl) (by kernel_rfl) (by kernel_rfl) (by kernel_rfl) (fun _ _ _ h => h) (Or.inl ⟨by rfl, by intro w hSw; obtain ⟨h0, h1, h2, h3, h4, h5, h6⟩ := hSw; go_simp⟩) hHeld ?_
        simp only [Act.put, List.setIfInBounds_toArray, List.set_cons_zero, List.set_cons_succ]
        refine wpAnyH_ready (rs := [20]) (by kernel_rfl) (by simp) (Rg.call2 (i := 20) rfl (by kernel_rfl) 57 (.tmp 80) (.tmp 81) 25 25 (by kernel_rfl) 82 (by kernel_rfl) (.agg #[.slice aV' V'.length cV', .slice aM' M'.length cM']) (.agg #[.slice aV'' V''.length cV'', .slice aM'' M''.length cM'']) (by kernel_rfl) (by kernel_rfl) (fun _ => rfl) (c57b _ mB mC) ?_ AllReadyH.nil)
        rintro e wz ⟨rfl, hb⟩
        replace kT := (hb.block _ (Ea.blk_lt kT)).trans kT
        replace kU := (hb.block _ (Ea.blk_lt kU)).trans kU
        replace kS := (hb.block _ (Ea.blk_lt kS)).trans kS
        replace kQ := (hb.block _ (Ea.blk_lt kQ)).trans kQ
        replace mA := mA.below hb
        replace mB := mB.below hb
        replace mH := mH.below hb
        replace mC := mC.below hb
        replace BW := Rw.next BW hb
        clear hb p0 p1 q0 q1 s0 u0 u1
        obtain ⟨p0, p1⟩ := Pm.two kT
        obtain ⟨q0, q1⟩ := Pm.two kU
        have s0 := Hh.one kS
        obtain ⟨u0, u1⟩ := Pm.two kQ
        refine ⟨_, rfl, ⟨p0, p1, q0, q1, s0, u0, u1⟩, fun hHeld => ?_⟩
        simp only [Act.put, List.setIfInBounds_toArray, List.set_cons_zero, List.set_cons_succ]
        refine Pq.take (i := 21) (d := some 83) (v := .bool true) rfl (by kernel_rfl) (by kernel_rfl) (by kernel_rfl) (by kernel_rfl) (fun _ _ _ h => h) (Or.inl ⟨by rfl, by intro w hSw; go_simp⟩) hHeld ?_
        simp only [Act.put, List.setIfInBounds_toArray, List.set_cons_zero, List.set_cons_succ]
        refine Pq.take (i := 22) (d := some 84) (v := .bool true) rfl (by kernel_rfl) (by kernel_rfl) (by kernel_rfl) (by kernel_rfl) (fun _ _ _ h => h) (Or.inl ⟨by rfl, by intro w hSw; go_simp⟩) hHeld ?_
        simp only [Act.put, List.setIfInBounds_toArray, List.set_cons_zero, List.set_cons_succ]
        refine Pq.take (i := 23) (d := some 85) (v := .agg #[.slice aV'' V''.length cV'', .slice aM'' M''.length cM'']) rfl (by kernel_rfl) (by kernel_rfl) (by kernel_rfl) (by kernel_rfl) (fun _ _ _ h => h) (Or.inl ⟨by rfl, by intro w hSw; obtain ⟨h0, h1, h2, h3, h4, h5, h6⟩ := hSw; go_simp⟩) hHeld ?_
        simp only [Act.put, List.setIfInBounds_toArray, List.set_cons_zero, List.set_cons_succ]
        refine Pq.take (i := 25) (d := some 87) (v := .agg #[.slice aV V.length cV, .slice aM M.length cM]) rfl (by kernel_rfl) (by kernel_rfl) (by kernel_rfl) (by kernel_rfl) (fun _ _ _ h => h) (Or.inl ⟨by rfl, by intro w hSw; obtain ⟨h0, h1, h2, h3, h4, h5, h6⟩ := hSw; go_simp⟩) hHeld ?_
        simp only [Act.put, List.setIfInBounds_toArray, List.set_cons_zero, List.set_cons_succ]
        refine wpAnyH_ready (rs := [24]) (by kernel_rfl) (by simp) (Rg.call1 (i := 24) rfl (by kernel_rfl) 62 (.tmp 85) 25 (by kernel_rfl) 86 (by kernel_rfl) (.agg #[.slice aV'' V''.length cV'', .slice aM'' M''.length cM'']) (by kernel_rfl) (fun _ => rfl) (c62m _ mC) ?_ AllReadyH.nil)
        rintro e wz ⟨rfl, hb⟩
        replace kT := (hb.block _ (Ea.blk_lt kT)).trans kT
        replace kU := (hb.block _ (Ea.blk_lt kU)).trans kU
        replace kS := (hb.block _ (Ea.blk_lt kS)).trans kS
        replace kQ := (hb.block _ (Ea.blk_lt kQ)).trans kQ
        replace mA := mA.below hb
        replace mB := mB.below hb
        replace mH := mH.below hb
        replace mC := mC.below hb
        replace BW := Rw.next BW hb
        clear hb p0 p1 q0 q1 s0 u0 u1
        obtain ⟨p0, p1⟩ := Pm.two kT
        obtain ⟨q0, q1⟩ := Pm.two kU
        have s0 := Hh.one kS
        obtain ⟨u0, u1⟩ := Pm.two kQ
        refine ⟨_, rfl, ⟨p0, p1, q0, q1, s0, u0, u1⟩, fun hHeld => ?_⟩
        simp only [Act.put, List.setIfInBounds_toArray, List.set_cons_zero, List.set_cons_succ]
        refine wpAnyH_ready (rs := [26]) (by kernel_rfl) (by simp) (Rg.call1 (i := 26) rfl (by kernel_rfl) 62 (.tmp 87) 25 (by kernel_rfl) 88 (by kernel_rfl) (.agg #[.slice aV V.length cV, .slice aM M.length cM]) (by kernel_rfl) (fun _ => rfl) (c62a _ mA) ?_ AllReadyH.nil)
        rintro e wz ⟨rfl, hb⟩
        replace kT := (hb.block _ (Ea.blk_lt kT)).trans kT
        replace kU := (hb.block _ (Ea.blk_lt kU)).trans kU
        replace kS := (hb.block _ (Ea.blk_lt kS)).trans kS
        replace kQ := (hb.block _ (Ea.blk_lt kQ)).trans kQ
        replace mA := mA.below hb
        replace mB := mB.below hb
        replace mH := mH.below hb
        replace mC := mC.below hb
        replace BW := Rw.next BW hb
        clear hb p0 p1 q0 q1 s0 u0 u1
        obtain ⟨p0, p1⟩ := Pm.two kT
        obtain ⟨q0, q1⟩ := Pm.two kU
        have s0 := Hh.one kS
        obtain ⟨u0, u1⟩ := Pm.two kQ
        refine ⟨_, rfl, ⟨p0, p1, q0, q1, s0, u0, u1⟩, fun hHeld => ?_⟩
        simp only [Act.put, List.setIfInBounds_toArray, List.set_cons_zero, List.set_cons_succ]
        refine Pq.take (i := 27) (d := some 89) (v := .bool true) rfl (by kernel_rfl) (by kernel_rfl) (by kernel_rfl) (by kernel_rfl) (fun _ _ _ h => h) (Or.inl ⟨by rfl, by intro w hSw; go_simp⟩) hHeld ?_
        simp only [Act.put, List.setIfInBounds_toArray, List.set_cons_zero, List.set_cons_succ]
        refine Pq.take (i := 28) (d := some 90) (v := .bool true) rfl (by kernel_rfl) (by kernel_rfl) (by kernel_rfl) (by kernel_rfl) (fun _ _ _ h => h) (Or.inl ⟨by rfl, by intro w hSw; go_simp⟩) hHeld ?_
        simp only [Act.put, List.setIfInBounds_toArray, List.set_cons_zero, List.set_cons_succ]
        refine Pq.take (i := 29) (d := some 2) (v := .bool true) rfl (by kernel_rfl) (by kernel_rfl) (by kernel_rfl) (by kernel_rfl) (fun _ _ _ h => h) (Or.inl ⟨by rfl, by intro w hSw; go_simp⟩) hHeld ?_
        simp only [Act.put, List.setIfInBounds_toArray, List.set_cons_zero, List.set_cons_succ]
        refine wpAnyH_done (by kernel_rfl) ?_ _
        go_wp2
        go_ret
        exact ⟨rfl, BW⟩
      · subst hha
        rw [Bool.true_and] at c59m
        rcases hbb : hb with _ | _
        · subst hbb
          have t1 : True := trivial
          go_wp2
          go_region_held3 (fun w' => w'.cell? ⟨T, 0, none⟩ = some (.slice aV V.length cV) ∧ w'.cell? ⟨T, 1, none⟩ = some (.slice aM M.length cM) ∧ w'.cell? ⟨T + 1, 0, none⟩ = some (.slice aV' V'.length cV') ∧ w'.cell? ⟨T + 1, 1, none⟩ = some (.slice aM' M'.length cM') ∧ w'.cell? ⟨T + 1 + 1, 0, none⟩ = some (.slice (some ⟨gH, 0, none⟩) 8 8) ∧ w'.cell? ⟨Q, 0, none⟩ = some (.slice aV'' V''.length cV'') ∧ w'.cell? ⟨Q, 1, none⟩ = some (.slice aM'' M''.length cM'')) (go_keep) (first
            | (go_at_call 59; clear t1; refine (c59m _ (by first | exact mC | exact mC.drew) (by first | exact mH | exact mine_drew mH)).mono ?_; rintro e wz ⟨rfl, hb⟩; replace hb := Rw.next (by first | exact Below.refl _ W6 | exact Below.drew (Below.refl _ W6) : Below W6.heap.size W6 _) hb; replace kT := (hb.block _ (Ea.blk_lt kT)).trans kT; replace kU := (hb.block _ (Ea.blk_lt kU)).trans kU; replace kS := (hb.block _ (Ea.blk_lt kS)).trans kS; replace kQ := (hb.block _ (Ea.blk_lt kQ)).trans kQ; replace mA := mA.below hb; replace mB := mB.below hb; replace mH := mH.below hb; replace mC := mC.below hb; replace BW := Rw.next BW hb; clear hb p0 p1 q0 q1 s0 u0 u1; obtain ⟨p0, p1⟩ := Pm.two kT; obtain ⟨q0, q1⟩ := Pm.two kU; have s0 := Hh.one kS; obtain ⟨u0, u1⟩ := Pm.two kQ; have t2 : True := trivial)
            | (go_at_call 59; clear t2; refine (c59a _ (by first | exact mA | exact mA.drew) (by first | exact mH | exact mine_drew mH)).mono ?_; rintro e wz ⟨rfl, hb⟩; replace kT := (hb.block _ (Ea.blk_lt kT)).trans kT; replace kU := (hb.block _ (Ea.blk_lt kU)).trans kU; replace kS := (hb.block _ (Ea.blk_lt kS)).trans kS; replace kQ := (hb.block _ (Ea.blk_lt kQ)).trans kQ; replace mA := mA.below hb; replace mB := mB.below hb; replace mH := mH.below hb; replace mC := mC.below hb; replace BW := Rw.next BW hb; clear hb p0 p1 q0 q1 s0 u0 u1; obtain ⟨p0, p1⟩ := Pm.two kT; obtain ⟨q0, q1⟩ := Pm.two kU; have s0 := Hh.one kS; obtain ⟨u0, u1⟩ := Pm.two kQ; have t3 : True := trivial)
            | (go_at_call 59; clear t3; refine (c59b _ (by first | exact mB | exact mB.drew) (by first | exact mH | exact mine_drew mH)).mono ?_; rintro e wz ⟨rfl, hb⟩; replace kT := (hb.block _ (Ea.blk_lt kT)).trans kT; replace kU := (hb.block _ (Ea.blk_lt kU)).trans kU; replace kS := (hb.block _ (Ea.blk_lt kS)).trans kS; replace kQ := (hb.block _ (Ea.blk_lt kQ)).trans kQ; replace mA := mA.below hb; replace mB := mB.below hb; replace mH := mH.below hb; replace mC := mC.below hb; replace BW := Rw.next BW hb; clear hb p0 p1 q0 q1 s0 u0 u1; obtain ⟨p0, p1⟩ := Pm.two kT; obtain ⟨q0, q1⟩ := Pm.two kU; have s0 := Hh.one kS; obtain ⟨u0, u1⟩ := Pm.two kQ; have t4 : True := trivial)
            | (go_at_call 57; clear t4; refine (c57a _ (by first | exact mA | exact mA.drew) (by first | exact mC | exact mC.drew)).mono ?_; rintro e wz ⟨rfl, hb⟩; replace kT := (hb.block _ (Ea.blk_lt kT)).trans kT; replace kU := (hb.block _ (Ea.blk_lt kU)).trans kU; replace kS := (hb.block _ (Ea.blk_lt kS)).trans kS; replace kQ := (hb.block _ (Ea.blk_lt kQ)).trans kQ; replace mA := mA.below hb; replace mB := mB.below hb; replace mH := mH.below hb; replace mC := mC.below hb; replace BW := Rw.next BW hb; clear hb p0 p1 q0 q1 s0 u0 u1; obtain ⟨p0, p1⟩ := Pm.two kT; obtain ⟨q0, q1⟩ := Pm.two kU; have s0 := Hh.one kS; obtain ⟨u0, u1⟩ := Pm.two kQ; have t5 : True := trivial)
            | (go_at_call 57; clear t5; refine (c57b _ (by first | exact mB | exact mB.drew) (by first | exact mC | exact mC.drew)).mono ?_; rintro e wz ⟨rfl, hb⟩; replace kT := (hb.block _ (Ea.blk_lt kT)).trans kT; replace kU := (hb.block _ (Ea.blk_lt kU)).trans kU; replace kS := (hb.block _ (Ea.blk_lt kS)).trans kS; replace kQ := (hb.block _ (Ea.blk_lt kQ)).trans kQ; replace mA := mA.below hb; replace mB := mB.below hb; replace mH := mH.below hb; replace mC := mC.below hb; replace BW := Rw.next BW hb; clear hb p0 p1 q0 q1 s0 u0 u1; obtain ⟨p0, p1⟩ := Pm.two kT; obtain ⟨q0, q1⟩ := Pm.two kU; have s0 := Hh.one kS; obtain ⟨u0, u1⟩ := Pm.two kQ; have t6 : True := trivial)
            | (go_at_call 62; clear t6; refine (c62m _ (by first | exact mC | exact mC.drew)).mono ?_; rintro e wz ⟨rfl, hb⟩; replace kT := (hb.block _ (Ea.blk_lt kT)).trans kT; replace kU := (hb.block _ (Ea.blk_lt kU)).trans kU; replace kS := (hb.block _ (Ea.blk_lt kS)).trans kS; replace kQ := (hb.block _ (Ea.blk_lt kQ)).trans kQ; replace mA := mA.below hb; replace mB := mB.below hb; replace mH := mH.below hb; replace mC := mC.below hb; replace BW := Rw.next BW hb; clear hb p0 p1 q0 q1 s0 u0 u1; obtain ⟨p0, p1⟩ := Pm.two kT; obtain ⟨q0, q1⟩ := Pm.two kU; have s0 := Hh.one kS; obtain ⟨u0, u1⟩ := Pm.two kQ; have t7 : True := trivial)
            | (go_at_call 62; clear t7; refine (c62a _ (by first | exact mA | exact mA.drew)).mono ?_; rintro e wz ⟨rfl, hb⟩; replace kT := (hb.block _ (Ea.blk_lt kT)).trans kT; replace kU := (hb.block _ (Ea.blk_lt kU)).trans kU; replace kS := (hb.block _ (Ea.blk_lt kS)).trans kS; replace kQ := (hb.block _ (Ea.blk_lt kQ)).trans kQ; replace mA := mA.below hb; replace mB := mB.below hb; replace mH := mH.below hb; replace mC := mC.below hb; replace BW := Rw.next BW hb; clear hb p0 p1 q0 q1 s0 u0 u1; obtain ⟨p0, p1⟩ := Pm.two kT; obtain ⟨q0, q1⟩ := Pm.two kU; have s0 := Hh.one kS; obtain ⟨u0, u1⟩ := Pm.two kQ; have t8 : True := trivial))
          go_wp2
          go_ret
          exact ⟨rfl, BW⟩
        · subst hbb
          have t1 : True := trivial
          go_wp2
          go_region_held3 (fun w' => w'.cell? ⟨T, 0, none⟩ = some (.slice aV V.length cV) ∧ w'.cell? ⟨T, 1, none⟩ = some (.slice aM M.length cM) ∧ w'.cell? ⟨T + 1, 0, none⟩ = some (.slice aV' V'.length cV') ∧ w'.cell? ⟨T + 1, 1, none⟩ = some (.slice aM' M'.length cM') ∧ w'.cell? ⟨T + 1 + 1, 0, none⟩ = some (.slice (some ⟨gH, 0, none⟩) 8 8) ∧ w'.cell? ⟨Q, 0, none⟩ = some (.slice aV'' V''.length cV'') ∧ w'.cell? ⟨Q, 1, none⟩ = some (.slice aM'' M''.length cM'')) (go_keep) (first
            | (go_at_call 59; clear t1; refine (c59m _ (by first | exact mC | exact mC.drew) (by first | exact mH | exact mine_drew mH)).mono ?_; rintro e wz ⟨rfl, hb⟩; replace hb := Rw.next (by first | exact Below.refl _ W6 | exact Below.drew (Below.refl _ W6) : Below W6.heap.size W6 _) hb; replace kT := (hb.block _ (Ea.blk_lt kT)).trans kT; replace kU := (hb.block _ (Ea.blk_lt kU)).trans kU; replace kS := (hb.block _ (Ea.blk_lt kS)).trans kS; replace kQ := (hb.block _ (Ea.blk_lt kQ)).trans kQ; replace mA := mA.below hb; replace mB := mB.below hb; replace mH := mH.below hb; replace mC := mC.below hb; replace BW := Rw.next BW hb; clear hb p0 p1 q0 q1 s0 u0 u1; obtain ⟨p0, p1⟩ := Pm.two kT; obtain ⟨q0, q1⟩ := Pm.two kU; have s0 := Hh.one kS; obtain ⟨u0, u1⟩ := Pm.two kQ; have t2 : True := trivial)
            | (go_at_call 59; clear t2; refine (c59a _ (by first | exact mA | exact mA.drew) (by first | exact mH | exact mine_drew mH)).mono ?_; rintro e wz ⟨rfl, hb⟩; replace kT := (hb.block _ (Ea.blk_lt kT)).trans kT; replace kU := (hb.block _ (Ea.blk_lt kU)).trans kU; replace kS := (hb.block _ (Ea.blk_lt kS)).trans kS; replace kQ := (hb.block _ (Ea.blk_lt kQ)).trans kQ; replace mA := mA.below hb; replace mB := mB.below hb; replace mH := mH.below hb; replace mC := mC.below hb; replace BW := Rw.next BW hb; clear hb p0 p1 q0 q1 s0 u0 u1; obtain ⟨p0, p1⟩ := Pm.two kT; obtain ⟨q0, q1⟩ := Pm.two kU; have s0 := Hh.one kS; obtain ⟨u0, u1⟩ := Pm.two kQ; have t3 : True := trivial)
            | (go_at_call 59; clear t3; refine (c59b _ (by first | exact mB | exact mB.drew) (by first | exact mH | exact mine_drew mH)).mono ?_; rintro e wz ⟨rfl, hb⟩; replace kT := (hb.block _ (Ea.blk_lt kT)).trans kT; replace kU := (hb.block _ (Ea.blk_lt kU)).trans kU; replace kS := (hb.block _ (Ea.blk_lt kS)).trans kS; replace kQ := (hb.block _ (Ea.blk_lt kQ)).trans kQ; replace mA := mA.below hb; replace mB := mB.below hb; replace mH := mH.below hb; replace mC := mC.below hb; replace BW := Rw.next BW hb; clear hb p0 p1 q0 q1 s0 u0 u1; obtain ⟨p0, p1⟩ := Pm.two kT; obtain ⟨q0, q1⟩ := Pm.two kU; have s0 := Hh.one kS; obtain ⟨u0, u1⟩ := Pm.two kQ; have t4 : True := trivial)
            | (go_at_call 57; clear t4; refine (c57a _ (by first | exact mA | exact mA.drew) (by first | exact mC | exact mC.drew)).mono ?_; rintro e wz ⟨rfl, hb⟩; replace kT := (hb.block _ (Ea.blk_lt kT)).trans kT; replace kU := (hb.block _ (Ea.blk_lt kU)).trans kU; replace kS := (hb.block _ (Ea.blk_lt kS)).trans kS; replace kQ := (hb.block _ (Ea.blk_lt kQ)).trans kQ; replace mA := mA.below hb; replace mB := mB.below hb; replace mH := mH.below hb; replace mC := mC.below hb; replace BW := Rw.next BW hb; clear hb p0 p1 q0 q1 s0 u0 u1; obtain ⟨p0, p1⟩ := Pm.two kT; obtain ⟨q0, q1⟩ := Pm.two kU; have s0 := Hh.one kS; obtain ⟨u0, u1⟩ := Pm.two kQ; have t5 : True := trivial)
            | (go_at_call 57; clear t5; refine (c57b _ (by first | exact mB | exact mB.drew) (by first | exact mC | exact mC.drew)).mono ?_; rintro e wz ⟨rfl, hb⟩; replace kT := (hb.block _ (Ea.blk_lt kT)).trans kT; replace kU := (hb.block _ (Ea.blk_lt kU)).trans kU; replace kS := (hb.block _ (Ea.blk_lt kS)).trans kS; replace kQ := (hb.block _ (Ea.blk_lt kQ)).trans kQ; replace mA := mA.below hb; replace mB := mB.below hb; replace mH := mH.below hb; replace mC := mC.below hb; replace BW := Rw.next BW hb; clear hb p0 p1 q0 q1 s0 u0 u1; obtain ⟨p0, p1⟩ := Pm.two kT; obtain ⟨q0, q1⟩ := Pm.two kU; have s0 := Hh.one kS; obtain ⟨u0, u1⟩ := Pm.two kQ; have t6 : True := trivial)
            | (go_at_call 62; clear t6; refine (c62m _ (by first | exact mC | exact mC.drew)).mono ?_; rintro e wz ⟨rfl, hb⟩; replace kT := (hb.block _ (Ea.blk_lt kT)).trans kT; replace kU := (hb.block _ (Ea.blk_lt kU)).trans kU; replace kS := (hb.block _ (Ea.blk_lt kS)).trans kS; replace kQ := (hb.block _ (Ea.blk_lt kQ)).trans kQ; replace mA := mA.below hb; replace mB := mB.below hb; replace mH := mH.below hb; replace mC := mC.below hb; replace BW := Rw.next BW hb; clear hb p0 p1 q0 q1 s0 u0 u1; obtain ⟨p0, p1⟩ := Pm.two kT; obtain ⟨q0, q1⟩ := Pm.two kU; have s0 := Hh.one kS; obtain ⟨u0, u1⟩ := Pm.two kQ; have t7 : True := trivial)
            | (go_at_call 62; clear t7; refine (c62a _ (by first | exact mA | exact mA.drew)).mono ?_; rintro e wz ⟨rfl, hb⟩; replace kT := (hb.block _ (Ea.blk_lt kT)).trans kT; replace kU := (hb.block _ (Ea.blk_lt kU)).trans kU; replace kS := (hb.block _ (Ea.blk_lt kS)).trans kS; replace kQ := (hb.block _ (Ea.blk_lt kQ)).trans kQ; replace mA := mA.below hb; replace mB := mB.below hb; replace mH := mH.below hb; replace mC := mC.below hb; replace BW := Rw.next BW hb; clear hb p0 p1 q0 q1 s0 u0 u1; obtain ⟨p0, p1⟩ := Pm.two kT; obtain ⟨q0, q1⟩ := Pm.two kU; have s0 := Hh.one kS; obtain ⟨u0, u1⟩ := Pm.two kQ; have t8 : True := trivial))
          go_wp2
          go_ret
          exact ⟨rfl, BW⟩

set_option maxRecDepth 100000 in
theorem lifted (os : Os) (started : os.Started) (H : Type) (enc : TypeId × Value → H) :
    ReturnsInHanded {} Try.checked os 12 .any (Rows.fnCoversSpec.pre6 enc Try.prog Try.f12 Rows.fnCoversRow.domain false) (Rows.fnCoversSpec.post enc Try.prog Try.f12 false true false false) := by
  refine returnsInHanded_of_change (C := Try.checked) own started (by kernel_rfl) Try.func12
    (ChangeSpec.witness6 (enc := enc) (C := Try.checked) false ⟨#[], #[.slice none 0 0], []⟩ 8 (by kernel_rfl) (by kernel_rfl) (by kernel_rfl) (by kernel_rfl)) ?_
  intro W base args ds gs before hval0 hW hcnd _
  have hval : ∀ (j : Nat) t v, Try.f12.params[j]? = some t → args[j]? = some v → Value.okWide Try.prog W .any base t v := hval0
  have hW' := hW
  obtain ⟨p, q, hA0, hV, rfl, hfz, hnd⟩ := hW
  have hA : DataW.TrodAll enc Try.prog W 0 (fun _ => true) true Try.f12.params.toList args.toList ds p := hA0
  rw [Try.params12] at hA hval
  obtain ⟨v0, vs0, d0, ds0, p0, q0, hargs, rfl, rfl, h0, r0⟩ := trodAll_cons hA
  obtain ⟨rfl, rfl, rfl⟩ := trodAll_nil r0
  obtain rfl : args = #[v0] := by cases args; simp_all
  obtain ⟨rfl, rfl⟩ := trodVars_none hV
  have k0 := h0
  have lt0 : ∀ x ∈ p0, x.block < W.heap.size := by obtain ⟨m, hm⟩ := k0; exact DataW.trod_lt m _ _ _ hm
  obtain ⟨a0, n0, c0, rfl⟩ := okWide_slice Try.underlying22 (hval 0 22 v0 rfl rfl)
  obtain ⟨z0, w0⟩ : ∃ zs, Rw.IsRow .u8 W a0 n0 c0 zs := by
    obtain ⟨fuel, hf⟩ := h0
    rcases open_ints Try.underlying22 Try.underlying5 (by kernel_rfl) hf with ⟨hcs, _⟩ | ⟨x, l, c, zs, hcs, _, hl, hm, hz, _, hcell, hwz⟩
    · simp [Value.cells] at hcs
      obtain ⟨rfl, rfl, rfl⟩ := hcs
      exact ⟨[], .inl ⟨rfl, rfl, rfl, rfl⟩⟩
    · simp [Value.cells] at hcs
      obtain ⟨rfl, rfl, rfl⟩ := hcs
      exact ⟨zs, .inr ⟨_, rfl, hl, hm, by simpa using hz, hcell, hwz⟩⟩
  clear hA0 hval0
  refine (walk a0 n0 c0 z0 W w0).mono fun e W' ⟨he, bel⟩ => ?_
  subst he
  exact ⟨_, rfl, _, _, _, [], _, [], hW', trodAll_mk1 (shut_bool Try.underlying4 _), (trodAll_cons_mk (Below.trod laidOut (by kernel_rfl) (of_decide_eq_true (by kernel_rfl)) k0 bel lt0) trodAll_mk0), rfl, bel.frame _, fun h => by cases h⟩

theorem over : Rows.fnCoversRow.holds Try.pinned (OpenSpec.ofChange Rows.fnCoversSpec) :=
  OpenClaim.holds_of_wide 12 Try.f12 rfl rfl rfl rfl rfl rfl rfl ⟨rfl, rfl, rfl, rfl, rfl⟩ rfl rfl rfl rfl rfl (by kernel_rfl) Try.func12 (by kernel_rfl)
    (of_decide_eq_true (by kernel_rfl)) (by unfold Func.isWrapper; first | (rw [if_pos (by decide +kernel)]; kernel_rfl) | (rw [if_neg (by decide +kernel)]; exact ⟨rfl, rfl⟩))
    (fun os started H enc _ => lifted os started H enc)

theorem proved : Rows.FnCoversSaid := over
end Go.Proofs.Ytcbhpmgjmpbpmaa.fnCovers

namespace Go.Proofs.Ytcbhpmgjmpbpmaa
theorem FnCovers_holds : Rows.FnCoversSaid := fnCovers.proved
end Go.Proofs.Ytcbhpmgjmpbpmaa
