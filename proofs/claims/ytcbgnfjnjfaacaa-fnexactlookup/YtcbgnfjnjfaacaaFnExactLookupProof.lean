/- At every table, epoch and head the program and the specification find the same entry, or none, and the arguments read as before; no condition. -/
import Derived.Test.YtcbgnfjnjfaacaaRows
import Derived.Test.YtcbgnfjnjfaacaaQg
import Derived.WalkKit
import Derived.ProofKit
import Derived.OpenShut
import Derived.ShutString
import Derived.ChangeOld
import Derived.Below
import Derived.Deep.RegionWith
import Derived.Deep.RegionHeld3
namespace Go.Proofs.Ytcbgnfjnjfaacaa.fnExactLookup
open Go.ChangeShapes Go.WideShapes Go.ChangeAt Go.RowKit
set_option linter.unusedVariables false
set_option linter.unusedSimpArgs false

theorem own : ownKnob Try.prog.godebug = none := by kernel_rfl
theorem laidOut : laidOutB Try.prog = true := by kernel_rfl
theorem szT_big (q : Int) (a : Option Addr) (c L : Nat) (R : List Ea.Raw) (w : World) (hR : Ea.IsRow w a R) (h : L < R.length + Ea.tot R R.length) (hL : L ≤ 1048576) :
    Calls Try.prog 38 #[.agg #[.int .i64 q, .slice a R.length c], .int .i64 L] w fun e w' => e = .returned (.int .i64 (-1)) ∧ Below w.heap.size w w' := by
  have B0 := Pl.below_alloc1 w (.cells #[.int .i64 q, .slice a R.length c] 65)
  have hR' := hR.below B0
  go_enter Try.func38, Try.ntmps38
  go_wp2_with (go_at_call 108; refine (Ea.szS_big _ _ L _ _ hR' h hL).mono ?_; rintro e w1 ⟨rfl, hb⟩)
  go_ret
  exact ⟨rfl, Rw.next B0 hb⟩

set_option maxRecDepth 8000 in
set_option maxHeartbeats 16000000 in
theorem walk (q0 : Int) (a0 : Option Addr) (c0 : Nat) (R0 : List Ea.Raw) (i1 : Int) (a2 : Option Addr) (n2 c2 : Nat) (z2 : List Int) (w : World) (w0 : Ea.IsRow w a0 R0) (w2 : Rw.IsRow .i64 w a2 n2 c2 z2) :
    Calls Try.prog 11 #[.agg #[.int .i64 q0, .slice a0 R0.length c0], .int .i64 i1, .agg #[.slice a2 n2 c2]] w fun e w' => e = .returned (.bool true) ∧ Below w.heap.size w w' := by
  have mx2 := Hr.isRow_max w2
  obtain ⟨W0, hW0⟩ : ∃ W0, W0 = (w.alloc (.cells #[.int .i64 q0, .slice a0 R0.length c0] 65)).alloc (.cells #[.slice a2 n2 c2] 78) := ⟨_, rfl⟩
  have B0 : Below w.heap.size w W0 := by subst hW0; exact Rw.next (Pl.below_alloc1 _ _) (Pl.below_alloc1 _ _)
  by_cases hbig : 1048576 < R0.length + Ea.tot R0 R0.length
  · have hc := szT_big q0 a0 c0 1048576 R0 W0 (w0.below B0) hbig (Nat.le_refl _)
    go_enter Try.func11, Try.ntmps11
    go_wp2_with (go_at_call 38; rw [← hW0]; clear hW0; refine hc.mono ?_; rintro e wa ⟨rfl, hb⟩)
    go_ret
    exact ⟨rfl, Rw.next B0 hb⟩
  obtain ⟨b, off, Q, hQ, rd⟩ := Ea.rd_of_isRow w0 (by omega)
  obtain ⟨L, hL⟩ : ∃ L : Nat, R0.length + Ea.tot R0 R0.length + L = 1048576 := ⟨1048576 - (R0.length + Ea.tot R0 R0.length), by omega⟩
  have hp : ¬ ((L : Int) < 0) := by omega
  have hc := Ea.szT_at q0 a0 c0 1048576 L R0 W0 (w0.below B0) hL (Nat.le_refl _)
  have kh : W0.heap[w.heap.size + 1]? = some (.cells #[.slice a2 n2 c2] 78 (0, 0)) := by subst hW0; exact Pl.at_new (by simp)
  have k0 : W0.heap[w.heap.size]? = some (.cells #[.int .i64 q0, .slice a0 R0.length c0] 65 (0, 0)) := by subst hW0; rw [Pl.at_old (by simp), Pl.at_new rfl]
  rw [← hQ] at hc hW0 k0 ⊢
  have hL1 : L ≤ 1048576 := by omega
  replace rd := rd.below B0
  clear hQ hL w0 hbig
  by_cases hbig : L < n2
  · go_enter Try.func11, Try.ntmps11
    go_wp2_with (first
      | (go_at_call 38; rw [← hW0]; clear hW0; refine hc.mono ?_; rintro e wa ⟨rfl, hb⟩; replace kh := (hb.block _ (Ea.blk_lt kh)).trans kh; have p2 := Hh.one kh; replace B0 := Rw.next B0 hb; clear hb)
      | (go_at_call 51; refine (Lm.szH_big _ _ _ L _ hbig hL1 mx2).mono ?_; rintro e wb ⟨rfl, hb⟩))
    go_ret
    exact ⟨rfl, Rw.next B0 hb⟩
  obtain ⟨bH, oH, H, lH, rH, wH⟩ := Lm.rd_wide w2 (by omega)
  obtain ⟨L', hL'⟩ : ∃ L' : Nat, n2 + L' = L := ⟨L - n2, by omega⟩
  have hp' : ¬ ((L' : Int) < 0) := by omega
  have hh := fun W => Rg.szH_at a2 n2 c2 L L' W hL' hL1
  rw [← lH] at hh kh hW0 ⊢
  replace rH := rH.below B0
  clear lH w2 hbig mx2 hL' hL1
  obtain ⟨r, hr⟩ := Lq.look_some q0 (Q.map Ea.Ent.said) i1 H
  have HR : Hid (Lq.Look q0 (Q.map Ea.Ent.said) i1 H r) := hr
  clear hr
  go_enter Try.func11, Try.ntmps11
  go_wp2_with (first
    | (go_at_call 38; rw [← hW0]; clear hW0; refine hc.mono ?_; rintro e wa ⟨rfl, hb⟩; replace k0 := (hb.block _ (Ea.blk_lt k0)).trans k0; replace kh := (hb.block _ (Ea.blk_lt kh)).trans kh; replace rd := rd.below hb; replace rH := rH.below hb; replace B0 := Rw.next B0 hb; clear hb; have p2 := Hh.one kh)
    | (go_at_call 51; refine (hh _).mono ?_; rintro e W3 ⟨rfl, hb⟩; replace k0 := (hb.block _ (Ea.blk_lt k0)).trans k0; replace kh := (hb.block _ (Ea.blk_lt kh)).trans kh; replace rd := rd.below hb; replace rH := rH.below hb; replace B0 := Rw.next B0 hb; clear hb p2; obtain ⟨p0, p1⟩ := Pm.two k0; have p2 := Hh.one kh))
  clear hc hh
  refine wp_region_held_drew (S := (fun w' => w'.cell? ⟨w.heap.size, 0, none⟩ = some (.int .i64 q0) ∧ w'.cell? ⟨w.heap.size, 1, none⟩ = some (.slice a0 Q.length c0) ∧ w'.cell? ⟨w.heap.size + 1, 0, none⟩ = some (.slice a2 H.length c2))) (by kernel_rfl) ⟨p0, p1, p2⟩ (fun hHeld => ?_)
  refine Pq.take (i := 0) (d := some 22) (v := .agg #[.int .i64 q0, .slice a0 Q.length c0]) rfl (by kernel_rfl) (by kernel_rfl) (by kernel_rfl) (by kernel_rfl) (fun _ _ _ h => h) (Or.inl ⟨by rfl, by intro w hSw; obtain ⟨s0, s1, s2⟩ := hSw; go_simp⟩) hHeld ?_
  simp only [Act.put, List.setIfInBounds_toArray, List.set_cons_zero, List.set_cons_succ]
  refine Pq.take (i := 2) (d := some 24) (v := .int .i64 i1) rfl (by kernel_rfl) (by kernel_rfl) (by kernel_rfl) (by kernel_rfl) (fun _ _ _ h => h) (Or.inl ⟨by rfl, by intro w hSw; go_simp⟩) hHeld ?_
  simp only [Act.put, List.setIfInBounds_toArray, List.set_cons_zero, List.set_cons_succ]
  refine Pq.take (i := 3) (d := some 25) (v := .agg #[.slice a2 H.length c2]) rfl (by kernel_rfl) (by kernel_rfl) (by kernel_rfl) (by kernel_rfl) (fun _ _ _ h => h) (Or.inl ⟨by rfl, by intro w hSw; obtain ⟨s0, s1, s2⟩ := hSw; go_simp⟩) hHeld ?_
  simp only [Act.put, List.setIfInBounds_toArray, List.set_cons_zero, List.set_cons_succ]
  clear p0 p1 p2
  replace rd := rd.below ((Below.refl _ _).drew)
  replace rH := rH.below ((Below.refl _ _).drew)
  replace B0 := Rw.next B0 ((Below.refl _ _).drew)
  have k0 : W3.drew.heap[w.heap.size]? = some (.cells #[.int .i64 q0, .slice a0 Q.length c0] 65 (0, 0)) := k0
  have kh : W3.drew.heap[w.heap.size + 1]? = some (.cells #[.slice a2 H.length c2] 78 (0, 0)) := kh
  generalize W3.drew = W4 at *
  refine wpAnyH_ready (rs := [1]) (by kernel_rfl) (by simp) (Rg.call1 (i := 1) rfl (by rfl) 40 (.tmp 22) 65 (by kernel_rfl) 23 (by kernel_rfl) (.agg #[.int .i64 q0, .slice a0 Q.length c0]) (by kernel_rfl) (fun _ => rfl) (Ea.toT_any q0 _ _ _ c0 Q _ rd) ?_ AllReadyH.nil)
  rintro x wa ⟨F, g, rfl, sF, hb, mF⟩
  replace k0 := (hb.block _ (Ea.blk_lt k0)).trans k0; replace kh := (hb.block _ (Ea.blk_lt kh)).trans kh; replace rd := rd.below hb; replace rH := rH.below hb; replace B0 := Rw.next B0 hb
  clear hb
  refine ⟨_, rfl, ⟨(Pm.two k0).1, (Pm.two k0).2, Hh.one kh⟩, fun hHeld => ?_⟩
  simp only [Act.put, List.setIfInBounds_toArray, List.set_cons_zero, List.set_cons_succ]
  refine wpAnyH_ready (rs := [4]) (by kernel_rfl) (by simp) (Rg.call1 (i := 4) rfl (by rfl) 52 (.tmp 25) 78 (by kernel_rfl) 26 (by kernel_rfl) (.agg #[.slice a2 H.length c2]) (by kernel_rfl) (fun _ => rfl) (Hh.toHead_any _ _ _ c2 H _ rH) ?_ AllReadyH.nil)
  rintro x wb ⟨gH, rfl, hb, lH, mH⟩
  replace k0 := (hb.block _ (Ea.blk_lt k0)).trans k0; replace kh := (hb.block _ (Ea.blk_lt kh)).trans kh; replace rd := rd.below hb; replace rH := rH.below hb; replace B0 := Rw.next B0 hb; replace mF := mF.below hb
  clear hb
  refine ⟨_, rfl, ⟨(Pm.two k0).1, (Pm.two k0).2, Hh.one kh⟩, fun hHeld => ?_⟩
  simp only [Act.put, List.setIfInBounds_toArray, List.set_cons_zero, List.set_cons_succ]
  refine wpAnyH_ready (rs := [5]) (by kernel_rfl) (by simp) (Yk.call3 (i := 5) rfl (by rfl) 30 (.tmp 23) (.tmp 24) (.tmp 26) 38 3 27 (by kernel_rfl) 27 (by kernel_rfl) (.agg #[.int .i64 q0, .slice (some ⟨g, 0, none⟩) F.length F.length]) (.int .i64 i1) (.agg #[.slice (some ⟨gH, 0, none⟩) H.length H.length]) (by kernel_rfl) (by kernel_rfl) (by kernel_rfl) (fun _ => rfl) (Lq.lookS q0 i1 _ _ _ _ F _ _ _ _ H _ mF.rd mH.rd wH r (by rw [sF]; exact HR.out)) ?_ AllReadyH.nil)
  rintro x wc ⟨rfl, hb⟩
  replace k0 := (hb.block _ (Ea.blk_lt k0)).trans k0; replace kh := (hb.block _ (Ea.blk_lt kh)).trans kh; replace rd := rd.below hb; replace rH := rH.below hb; replace B0 := Rw.next B0 hb
  clear hb mF mH sF
  refine ⟨_, rfl, ⟨(Pm.two k0).1, (Pm.two k0).2, Hh.one kh⟩, fun hHeld => ?_⟩
  simp only [Act.put, List.setIfInBounds_toArray, List.set_cons_zero, List.set_cons_succ]
  refine Pq.take (i := 6) (d := some 8) (v := .int .i64 r) rfl (by kernel_rfl) (by kernel_rfl) (by kernel_rfl) (by kernel_rfl) (fun _ _ _ h => h) (Or.inl ⟨by rfl, by intro w hSw; go_simp⟩) hHeld ?_
  simp only [Act.put, List.setIfInBounds_toArray, List.set_cons_zero, List.set_cons_succ]
  refine wpAnyH_done (by kernel_rfl) ?_ _
  obtain ⟨p0, p1⟩ := Pm.two k0
  have p2 := Hh.one kh
  have t2 : True := trivial
  go_wp2_with (go_at_call 40; clear t2; refine (Ea.toT_any q0 _ _ _ _ Q _ rd).mono ?_; rintro x wd ⟨G, g, rfl, sG, hb, mG⟩; replace k0 := (hb.block _ (Ea.blk_lt k0)).trans k0; replace kh := (hb.block _ (Ea.blk_lt kh)).trans kh; replace rd := rd.below hb; replace rH := rH.below hb; replace B0 := Rw.next B0 hb; clear hb p0 p1 p2; have p2 := Hh.one kh; have ltH := Ea.blk_lt kh)
  obtain ⟨W5, hW5⟩ : ∃ W5, W5 = wd.alloc (.cells #[.int .i64 q0, .slice (some ⟨g, 0, none⟩) G.length G.length] 38) := ⟨_, rfl⟩
  have k1 : W5.heap[wd.heap.size]? = some (.cells #[.int .i64 q0, .slice (some ⟨g, 0, none⟩) G.length G.length] 38 (0, 0)) := by subst hW5; exact Pl.at_new rfl
  have hb : Below wd.heap.size wd W5 := by subst hW5; exact Pl.below_alloc1 _ _
  replace k0 := (hb.block _ (Ea.blk_lt k0)).trans k0; replace kh := (hb.block _ (Ea.blk_lt kh)).trans kh; replace rd := rd.below hb; replace rH := rH.below hb; replace B0 := Rw.next B0 hb
  replace mG := mG.below hb
  clear hb
  go_wp2_with (go_at_call 52; rw [← hW5]; clear hW5; refine (Hh.toHead_any _ _ _ _ H _ rH).mono ?_; rintro x we ⟨gH, rfl, hb, lH, mH⟩; replace k0 := (hb.block _ (Ea.blk_lt k0)).trans k0; replace kh := (hb.block _ (Ea.blk_lt kh)).trans kh; replace rd := rd.below hb; replace rH := rH.below hb; replace B0 := Rw.next B0 hb; replace k1 := (hb.block _ (Ea.blk_lt k1)).trans k1; replace mG := mG.below hb; clear hb p2 ltH; obtain ⟨r0, r1⟩ := Pm.two k1; have lt1 := Ea.blk_lt k1)
  obtain ⟨W6, hW6⟩ : ∃ W6, W6 = we.alloc (.cells #[.slice (some ⟨gH, 0, none⟩) H.length H.length] 27) := ⟨_, rfl⟩
  have k2 : W6.heap[we.heap.size]? = some (.cells #[.slice (some ⟨gH, 0, none⟩) H.length H.length] 27 (0, 0)) := by subst hW6; exact Pl.at_new rfl
  have hb : Below we.heap.size we W6 := by subst hW6; exact Pl.below_alloc1 _ _
  replace k0 := (hb.block _ (Ea.blk_lt k0)).trans k0; replace kh := (hb.block _ (Ea.blk_lt kh)).trans kh; replace rd := rd.below hb; replace rH := rH.below hb; replace B0 := Rw.next B0 hb
  replace mG := mG.below hb
  replace mH := mH.below hb
  replace k1 := (hb.block _ (Ea.blk_lt k1)).trans k1
  clear hb
  go_wp2_with (go_at_call 28; rw [← hW6]; clear hW6; refine (Lq.lookI q0 i1 _ _ _ _ G _ _ _ _ H _ mG.rd mH.rd wH r (by rw [sG]; exact HR.out)).mono ?_; rintro x wf ⟨rfl, hb⟩; replace k0 := (hb.block _ (Ea.blk_lt k0)).trans k0; replace kh := (hb.block _ (Ea.blk_lt kh)).trans kh; replace rd := rd.below hb; replace rH := rH.below hb; replace B0 := Rw.next B0 hb; replace k1 := (hb.block _ (Ea.blk_lt k1)).trans k1; replace k2 := (hb.block _ (Ea.blk_lt k2)).trans k2; replace mG := mG.below hb; replace mH := mH.below hb; clear hb r0 r1 lt1; obtain ⟨r0, r1⟩ := Pm.two k1; have r2 := Hh.one k2; obtain ⟨p0, p1⟩ := Pm.two k0; have p2 := Hh.one kh)
  go_region_held3 (fun w' => w'.cell? ⟨wd.heap.size, 0, none⟩ = some (.int .i64 q0) ∧ w'.cell? ⟨wd.heap.size, 1, none⟩ = some (.slice (some ⟨g, 0, none⟩) G.length G.length) ∧ w'.cell? ⟨w.heap.size, 0, none⟩ = some (.int .i64 q0) ∧ w'.cell? ⟨w.heap.size, 1, none⟩ = some (.slice a0 Q.length c0) ∧ w'.cell? ⟨w.heap.size + 1, 0, none⟩ = some (.slice a2 H.length c2)) (go_keep) (first | (go_at_call 40; refine (Ea.toT_any q0 _ _ _ _ Q _ (rd.below ((Below.refl _ _).drew))).mono ?_; rintro x wg ⟨F, gF, rfl, sF, hb0, mF⟩; have hb := Rw.next ((Below.refl _ _).drew) hb0; clear p0 p1 p2 r0 r1 r2; replace k0 := (hb.block _ (Ea.blk_lt k0)).trans k0; replace kh := (hb.block _ (Ea.blk_lt kh)).trans kh; replace rd := rd.below hb; replace rH := rH.below hb; replace B0 := Rw.next B0 hb; replace k1 := (hb.block _ (Ea.blk_lt k1)).trans k1; replace k2 := (hb.block _ (Ea.blk_lt k2)).trans k2; replace mG := mG.below hb; replace mH := mH.below hb; clear hb hb0; obtain ⟨p0, p1⟩ := Pm.two k0; have p2 := Hh.one kh; obtain ⟨r0, r1⟩ := Pm.two k1; have r2 := Hh.one k2) | (go_at_call 41; refine (Ea.eqT_same q0 _ _ _ _ _ _ _ _ G F _ mG.rd mF.rd (sG.trans sF.symm)).mono ?_; rintro x wh ⟨rfl, hb⟩; clear p0 p1 p2 r0 r1 r2; replace k0 := (hb.block _ (Ea.blk_lt k0)).trans k0; replace kh := (hb.block _ (Ea.blk_lt kh)).trans kh; replace rd := rd.below hb; replace rH := rH.below hb; replace B0 := Rw.next B0 hb; replace k1 := (hb.block _ (Ea.blk_lt k1)).trans k1; replace k2 := (hb.block _ (Ea.blk_lt k2)).trans k2; replace mH := mH.below hb; clear hb; obtain ⟨p0, p1⟩ := Pm.two k0; have p2 := Hh.one kh; obtain ⟨r0, r1⟩ := Pm.two k1; have r2 := Hh.one k2))
  go_wp2
  go_region_held3 (fun w' => w'.cell? ⟨we.heap.size, 0, none⟩ = some (.slice (some ⟨gH, 0, none⟩) H.length H.length) ∧ w'.cell? ⟨w.heap.size, 0, none⟩ = some (.int .i64 q0) ∧ w'.cell? ⟨w.heap.size, 1, none⟩ = some (.slice a0 Q.length c0) ∧ w'.cell? ⟨w.heap.size + 1, 0, none⟩ = some (.slice a2 H.length c2)) (go_keep) (first | (go_at_call 52; refine (Hh.toHead_any _ _ _ _ H _ (rH.below ((Below.refl _ _).drew))).mono ?_; rintro x wi ⟨gX, rfl, hb0, lX, mX⟩; have hb := Rw.next ((Below.refl _ _).drew) hb0; clear p0 p1 p2 r0 r1 r2; replace k0 := (hb.block _ (Ea.blk_lt k0)).trans k0; replace kh := (hb.block _ (Ea.blk_lt kh)).trans kh; replace rd := rd.below hb; replace rH := rH.below hb; replace B0 := Rw.next B0 hb; replace k2 := (hb.block _ (Ea.blk_lt k2)).trans k2; replace mH := mH.below hb; clear hb hb0; obtain ⟨p0, p1⟩ := Pm.two k0; have p2 := Hh.one kh; have r2 := Hh.one k2) | (go_at_call 53; refine (Hh.eqHead_same _ _ _ _ _ _ _ _ H _ mH.rd mX.rd).mono ?_; rintro x wj ⟨rfl, hb⟩; clear p0 p1 p2 r2; replace k0 := (hb.block _ (Ea.blk_lt k0)).trans k0; replace kh := (hb.block _ (Ea.blk_lt kh)).trans kh; replace rd := rd.below hb; replace rH := rH.below hb; replace B0 := Rw.next B0 hb; replace k2 := (hb.block _ (Ea.blk_lt k2)).trans k2; clear hb; obtain ⟨p0, p1⟩ := Pm.two k0; have p2 := Hh.one kh; have r2 := Hh.one k2))
  go_wp2
  go_ret
  exact ⟨rfl, B0⟩

set_option maxRecDepth 100000 in
theorem lifted (os : Os) (started : os.Started) (H : Type) (enc : TypeId × Value → H) :
    ReturnsInHanded {} Try.checked os 11 .any (Rows.fnExactLookupSpec.pre6 enc Try.prog Try.f11 Rows.fnExactLookupRow.domain false) (Rows.fnExactLookupSpec.post enc Try.prog Try.f11 false true false false) := by
  refine returnsInHanded_of_change (C := Try.checked) own started (by kernel_rfl) Try.func11
    (ChangeSpec.witness6 (enc := enc) (C := Try.checked) false ⟨#[], #[.agg #[.int .i64 0, .slice none 0 0], .int .i64 0, .agg #[.slice none 0 0]], []⟩ 8 (by kernel_rfl) (by kernel_rfl) (by kernel_rfl) (by kernel_rfl)) ?_
  intro W base args ds gs before hval0 hW hcnd _
  have hval : ∀ (j : Nat) t v, Try.f11.params[j]? = some t → args[j]? = some v → Value.okWide Try.prog W .any base t v := hval0
  have hW' := hW
  obtain ⟨p, q, hA0, hV, rfl, hfz, hnd⟩ := hW
  have hA : DataW.TrodAll enc Try.prog W 0 (fun _ => true) true Try.f11.params.toList args.toList ds p := hA0
  rw [Try.params11] at hA hval
  obtain ⟨v0, vs0, d0, ds0, p0, q0, hargs, rfl, rfl, h0, r0⟩ := trodAll_cons hA
  obtain ⟨v1, vs1, d1, ds1, p1, q1, rfl, rfl, rfl, h1, r1⟩ := trodAll_cons r0
  obtain ⟨v2, vs2, d2, ds2, p2, q2, rfl, rfl, rfl, h2, r2⟩ := trodAll_cons r1
  obtain ⟨rfl, rfl, rfl⟩ := trodAll_nil r2
  obtain rfl : args = #[v0, v1, v2] := by cases args; simp_all
  obtain ⟨rfl, rfl⟩ := trodVars_none hV
  have k0 := h0
  have lt0 : ∀ x ∈ p0, x.block < W.heap.size := by obtain ⟨m, hm⟩ := k0; exact DataW.trod_lt m _ _ _ hm
  obtain ⟨q0, a0, c0, R0, rfl, w0⟩ := Ea.open_table (hval 0 65 v0 rfl rfl) h0
  obtain ⟨i1, rfl, rfl, rfl, w1⟩ := open_int Try.underlying3 (hval 1 3 v1 rfl rfl) h1
  have k2 := h2
  have lt2 : ∀ x ∈ p2, x.block < W.heap.size := by obtain ⟨m, hm⟩ := k2; exact DataW.trod_lt m _ _ _ hm
  obtain ⟨a2, n2, c2, z2, rfl, w2⟩ := Hh.open_head (hval 2 78 v2 rfl rfl) h2
  clear hA0 hval0
  refine (walk q0 a0 c0 R0 i1 a2 n2 c2 z2 W w0 w2).mono fun e W' ⟨he, bel⟩ => ?_
  subst he
  exact ⟨_, rfl, _, _, _, [], _, [], hW', trodAll_mk1 (shut_bool Try.underlying4 _), (trodAll_cons_mk (Below.trod laidOut (by kernel_rfl) (of_decide_eq_true (by kernel_rfl)) k0 bel lt0) (trodAll_cons_mk (shut_int Try.underlying3 w1) (trodAll_cons_mk (Below.trod laidOut (by kernel_rfl) (of_decide_eq_true (by kernel_rfl)) k2 bel lt2) trodAll_mk0))), rfl, bel.frame _, fun h => by cases h⟩

theorem over : Rows.fnExactLookupRow.holds Try.pinned (OpenSpec.ofChange Rows.fnExactLookupSpec) :=
  OpenClaim.holds_of_wide 11 Try.f11 rfl rfl rfl rfl rfl rfl rfl ⟨rfl, rfl, rfl, rfl, rfl⟩ rfl rfl rfl rfl rfl (by kernel_rfl) Try.func11 (by kernel_rfl)
    (of_decide_eq_true (by kernel_rfl)) (by unfold Func.isWrapper; first | (rw [if_pos (by decide +kernel)]; kernel_rfl) | (rw [if_neg (by decide +kernel)]; exact ⟨rfl, rfl⟩))
    (fun os started H enc _ => lifted os started H enc)

theorem proved : Rows.FnExactLookupSaid := over
end Go.Proofs.Ytcbgnfjnjfaacaa.fnExactLookup

namespace Go.Proofs.Ytcbgnfjnjfaacaa
theorem FnExactLookup_holds : Rows.FnExactLookupSaid := fnExactLookup.proved
end Go.Proofs.Ytcbgnfjnjfaacaa
