/- For every slice of bytes the law FnBits returns true: no condition. -/
import Derived.Test.YtbplpfcplpoeiaaRows
import Derived.Test.YtbplpfcplpoeiaaXb
import Derived.WalkKit
import Derived.ProofKit
import Derived.OpenShut
import Derived.ShutString
import Derived.ChangeOld
import Derived.Below
namespace Go.Proofs.Ytbplpfcplpoeiaa.fnBits
open Go.ChangeShapes Go.WideShapes Go.ChangeAt Go.RowKit
open Go.ChangeMaps (open_string shut_string)
set_option linter.unusedVariables false

theorem own : ownKnob Try.prog.godebug = none := by kernel_rfl
theorem laidOut : laidOutB Try.prog = true := by kernel_rfl

/-- WHAT THE WALK IS TOLD OF A SLICE OF INTEGERS THAT CAME IN: it is nil; or it leads to a row of 'cap' cells, the numbers 'zs' (the first 'len' are its elements, the rest its spare room), each fitting its kind. -/
def IsRow (k : IntKind) (w : World) (a : Option Addr) (len cap : Nat) (zs : List Int) : Prop :=
  (a = none ∧ len = 0 ∧ cap = 0 ∧ zs = []) ∨
  ∃ x, a = some x ∧ len ≤ cap ∧ cap ≤ maxLen ∧ zs.length = cap ∧ (∀ i, i < zs.length → w.cell? (x.add i) = some (.int k (zs.getD i 0))) ∧ ∀ n ∈ zs, (Lit.int k n).wf = true

/-! ### STEP 1: THE WALK: the Go text returns true, AND WRITES NOTHING THAT WAS THERE: 'Below w.heap.size w w'' (Derived/Below.lean: '.refl', '.alloc', '.drew', '.setCell' at a new block, '.trans'). Open each 'IsRow' by 'rcases' AHEAD of 'go_enter'; part every test ahead of the walk. -/
set_option maxRecDepth 20000 in
set_option maxHeartbeats 4000000 in
theorem walk (a0 : Option Addr) (len0 cap0 : Nat) (z0 : List Int) (w : World) (w0 : IsRow .u8 w a0 len0 cap0 z0) :
    Calls Try.prog 4 #[.slice a0 len0 cap0] w fun e w' => e = .returned (.bool true) ∧ Below w.heap.size w w' := by
  by_cases hbig : 1048576 < len0
  · have hbz : (1048576 : Int) < (len0 : Int) := by omega
    go_enter Try.func4, Try.ntmps4
    go_wp2
    go_ret
    exact ⟨rfl, Below.refl _ _⟩
  · obtain ⟨b, off, l, hl, hr⟩ := Rw.rd_of_isRow w0 (by omega)
    subst hl
    have hbz : ¬ (1048576 : Int) < (l.length : Int) := by omega
    clear w0
    have B := Below.refl w.heap.size w
    go_enter Try.func4, Try.ntmps4
    go_wp2_with (go_at_call 22; refine (Dr.bitsD_any _ _ _ _ _ _ hr).mono ?_; rintro e w00 ⟨f, v, n, rfl, hb⟩; replace B := Rw.next B hb; clear hb hr)
    have sy0 : w.heap.size ≤ w00.heap.size := B.size
    rcases Lp.bits_cases f v n with ⟨LV, LM, hI, hS⟩ | ⟨rfl, LV, LM, ZV, ZM, ⟨hI, hS⟩, hZ, hE⟩ | ⟨⟨n1, n2⟩, LV, LM, KV, KM, ⟨hI, hS⟩, ⟨hL, _⟩, hC, hD, hA⟩
    · have HI : Hid (∀ w, Calls Try.prog 23 #[.int .i64 f, .int .i64 v, .int .i64 n] w (Pm.ResMB w false LV LM)) := hI
      have HS : Hid (∀ w, Calls Try.prog 24 #[.int .i64 f, .int .i64 v, .int .i64 n] w (Pm.ResMB w false LV LM)) := hS
      clear hI hS
      have tk1 : True := trivial
      go_wp2_with (go_at_call 23; clear tk1; refine (HI.out _).mono ?_; rintro e w1 ⟨ma, mv, mc, mb, mm, md, rfl, hmv, hmm, mlv, mlm, mne, hb⟩; have sz1 := hb.size; replace B := Rw.next B hb; clear hb; have ltmv := Hr.wt_lt hmv; have ltmm := Hr.wt_lt hmm; have BX := Pl.below_alloc1 w1 (.cells #[.slice ma LV.length mc, .slice mb LM.length md] 25); replace B := Rw.next B BX; replace hmv := hmv.below BX; replace hmm := hmm.below BX; have km : (w1.alloc (.cells #[.slice ma LV.length mc, .slice mb LM.length md] 25)).heap[w1.heap.size]? = some (.cells #[.slice ma LV.length mc, .slice mb LM.length md] 25 (0, 0)) := Pl.at_new rfl; have zkm : w1.heap.size < (w1.alloc (.cells #[.slice ma LV.length mc, .slice mb LM.length md] 25)).heap.size := (by simp); have sykm := zkm; clear BX; obtain ⟨cmv, cmm⟩ := Pm.two km)
      have tk2 : True := trivial
      go_wp2_with (go_at_call 24; clear tk2; refine (HS.out _).mono ?_; rintro e w2 ⟨sa, sv, sc, sb, sm, sd, rfl, hsv, hsm, slv, slm, sne, hb⟩; have sz2 := hb.size; clear cmv cmm; replace B := Rw.next B hb; replace hmv := hmv.below hb; replace hmm := hmm.below hb; replace km := (hb.block _ zkm).trans km; replace zkm := Nat.lt_of_lt_of_le zkm hb.size; clear hb; have ltsv := Hr.wt_lt hsv; have ltsm := Hr.wt_lt hsm; have BX := Pl.below_alloc1 w2 (.cells #[.slice sa LV.length sc, .slice sb LM.length sd] 25); replace B := Rw.next B BX; replace hmv := hmv.below BX; replace hmm := hmm.below BX; replace km := (BX.block _ zkm).trans km; replace zkm := Nat.lt_of_lt_of_le zkm BX.size; replace hsv := hsv.below BX; replace hsm := hsm.below BX; have ks : (w2.alloc (.cells #[.slice sa LV.length sc, .slice sb LM.length sd] 25)).heap[w2.heap.size]? = some (.cells #[.slice sa LV.length sc, .slice sb LM.length sd] 25 (0, 0)) := Pl.at_new rfl; have zks : w2.heap.size < (w2.alloc (.cells #[.slice sa LV.length sc, .slice sb LM.length sd] 25)).heap.size := (by simp); have syks := zks; clear BX; obtain ⟨cmv, cmm⟩ := Pm.two km; obtain ⟨csv, csm⟩ := Pm.two ks)
      go_wp2_with fail
      generalize w2.alloc (.cells #[.slice sa LV.length sc, .slice sb LM.length sd] 25) = W at *
      refine wp_region_held_drew (S := fun _ => True) (by kernel_rfl) trivial (fun hHeld => ?_)
      refine Pq.take (i := 0) (d := some 44) (v := .bool false) rfl (by kernel_rfl) (by kernel_rfl) (by kernel_rfl) (by kernel_rfl) (fun _ _ _ h => h) (Or.inl ⟨by rfl, by intro w hSw; go_simp⟩) hHeld ?_
      simp only [Act.put, List.setIfInBounds_toArray, List.set_cons_zero, List.set_cons_succ]
      refine Pq.take (i := 1) (d := some 45) (v := .bool true) rfl (by kernel_rfl) (by kernel_rfl) (by kernel_rfl) (by kernel_rfl) (fun _ _ _ h => h) (Or.inl ⟨by rfl, by intro w hSw; go_simp⟩) hHeld ?_
      simp only [Act.put, List.setIfInBounds_toArray, List.set_cons_zero, List.set_cons_succ]
      refine Pq.take (i := 2) (d := some 46) (v := .bool true) rfl (by kernel_rfl) (by kernel_rfl) (by kernel_rfl) (by kernel_rfl) (fun _ _ _ h => h) (Or.inl ⟨by rfl, by intro w hSw; go_simp⟩) hHeld ?_
      simp only [Act.put, List.setIfInBounds_toArray, List.set_cons_zero, List.set_cons_succ]
      refine Pq.take (i := 3) (d := some 47) (v := undef) rfl (by kernel_rfl) (by kernel_rfl) (by kernel_rfl) (by kernel_rfl) (fun _ _ _ h => h) (Or.inr ⟨by rfl, rfl⟩) hHeld ?_
      simp only [Act.put, List.setIfInBounds_toArray, List.set_cons_zero, List.set_cons_succ]
      refine Pq.take (i := 4) (d := some 48) (v := undef) rfl (by kernel_rfl) (by kernel_rfl) (by kernel_rfl) (by kernel_rfl) (fun _ _ _ h => h) (Or.inr ⟨by rfl, rfl⟩) hHeld ?_
      simp only [Act.put, List.setIfInBounds_toArray, List.set_cons_zero, List.set_cons_succ]
      refine Pq.take (i := 5) (d := some 49) (v := undef) rfl (by kernel_rfl) (by kernel_rfl) (by kernel_rfl) (by kernel_rfl) (fun _ _ _ h => h) (Or.inr ⟨by rfl, rfl⟩) hHeld ?_
      simp only [Act.put, List.setIfInBounds_toArray, List.set_cons_zero, List.set_cons_succ]
      refine Pq.take (i := 6) (d := some 50) (v := .bool true) rfl (by kernel_rfl) (by kernel_rfl) (by kernel_rfl) (by kernel_rfl) (fun _ _ _ h => h) (Or.inl ⟨by rfl, by intro w hSw; go_simp⟩) hHeld ?_
      simp only [Act.put, List.setIfInBounds_toArray, List.set_cons_zero, List.set_cons_succ]
      refine Pq.take (i := 7) (d := some 2) (v := .bool true) rfl (by kernel_rfl) (by kernel_rfl) (by kernel_rfl) (by kernel_rfl) (fun _ _ _ h => h) (Or.inl ⟨by rfl, by intro w hSw; go_simp⟩) hHeld ?_
      simp only [Act.put, List.setIfInBounds_toArray, List.set_cons_zero, List.set_cons_succ]
      refine wpAnyH_done (by kernel_rfl) ?_ _
      go_wp2_with fail
      go_ret
      exact ⟨rfl, B.drew⟩
    · have HI : Hid (∀ w, Calls Try.prog 23 #[.int .i64 f, .int .i64 v, .int .i64 0] w (Pm.ResMB w true LV LM)) := hI
      have HS : Hid (∀ w, Calls Try.prog 24 #[.int .i64 f, .int .i64 v, .int .i64 0] w (Pm.ResMB w true LV LM)) := hS
      have HZ : Hid (∀ w, Calls Try.prog 26 #[] w (Pm.ResM w ZV ZM)) := hZ
      have HE : Hid (Rg.CMM 25 LV LM ZV ZM (Rg.Bo true)) := hE
      clear hI hS hZ hE
      have tk1 : True := trivial
      go_wp2_with (go_at_call 23; clear tk1; refine (HI.out _).mono ?_; rintro e w1 ⟨ma, mv, mc, mb, mm, md, rfl, hmv, hmm, mlv, mlm, mne, hb⟩; have sz1 := hb.size; replace B := Rw.next B hb; clear hb; have ltmv := Hr.wt_lt hmv; have ltmm := Hr.wt_lt hmm; have BX := Pl.below_alloc1 w1 (.cells #[.slice ma LV.length mc, .slice mb LM.length md] 25); replace B := Rw.next B BX; replace hmv := hmv.below BX; replace hmm := hmm.below BX; have km : (w1.alloc (.cells #[.slice ma LV.length mc, .slice mb LM.length md] 25)).heap[w1.heap.size]? = some (.cells #[.slice ma LV.length mc, .slice mb LM.length md] 25 (0, 0)) := Pl.at_new rfl; have zkm : w1.heap.size < (w1.alloc (.cells #[.slice ma LV.length mc, .slice mb LM.length md] 25)).heap.size := (by simp); have sykm := zkm; clear BX; obtain ⟨cmv, cmm⟩ := Pm.two km)
      have tk2 : True := trivial
      go_wp2_with (go_at_call 24; clear tk2; refine (HS.out _).mono ?_; rintro e w2 ⟨sa, sv, sc, sb, sm, sd, rfl, hsv, hsm, slv, slm, sne, hb⟩; have sz2 := hb.size; clear cmv cmm; replace B := Rw.next B hb; replace hmv := hmv.below hb; replace hmm := hmm.below hb; replace km := (hb.block _ zkm).trans km; replace zkm := Nat.lt_of_lt_of_le zkm hb.size; clear hb; have ltsv := Hr.wt_lt hsv; have ltsm := Hr.wt_lt hsm; have BX := Pl.below_alloc1 w2 (.cells #[.slice sa LV.length sc, .slice sb LM.length sd] 25); replace B := Rw.next B BX; replace hmv := hmv.below BX; replace hmm := hmm.below BX; replace km := (BX.block _ zkm).trans km; replace zkm := Nat.lt_of_lt_of_le zkm BX.size; replace hsv := hsv.below BX; replace hsm := hsm.below BX; have ks : (w2.alloc (.cells #[.slice sa LV.length sc, .slice sb LM.length sd] 25)).heap[w2.heap.size]? = some (.cells #[.slice sa LV.length sc, .slice sb LM.length sd] 25 (0, 0)) := Pl.at_new rfl; have zks : w2.heap.size < (w2.alloc (.cells #[.slice sa LV.length sc, .slice sb LM.length sd] 25)).heap.size := (by simp); have syks := zks; clear BX; obtain ⟨cmv, cmm⟩ := Pm.two km; obtain ⟨csv, csm⟩ := Pm.two ks)
      go_wp2_with fail
      generalize w2.alloc (.cells #[.slice sa LV.length sc, .slice sb LM.length sd] 25) = W at *
      refine wp_region_held_drew (S := (fun w' => w'.heap[w1.heap.size]? = some (.cells #[.slice ma LV.length mc, .slice mb LM.length md] 25 (0, 0)))) (by kernel_rfl) km (fun hHeld => ?_)
      refine Pq.take (i := 0) (d := some 44) (v := .bool true) rfl (by kernel_rfl) (by kernel_rfl) (by kernel_rfl) (by kernel_rfl) (fun _ _ _ h => h) (Or.inl ⟨by rfl, by intro w hSw; go_simp⟩) hHeld ?_
      simp only [Act.put, List.setIfInBounds_toArray, List.set_cons_zero, List.set_cons_succ]
      refine Pq.take (i := 1) (d := some 45) (v := .bool false) rfl (by kernel_rfl) (by kernel_rfl) (by kernel_rfl) (by kernel_rfl) (fun _ _ _ h => h) (Or.inl ⟨by rfl, by intro w hSw; go_simp⟩) hHeld ?_
      simp only [Act.put, List.setIfInBounds_toArray, List.set_cons_zero, List.set_cons_succ]
      refine Pq.take (i := 2) (d := some 46) (v := .bool false) rfl (by kernel_rfl) (by kernel_rfl) (by kernel_rfl) (by kernel_rfl) (fun _ _ _ h => h) (Or.inl ⟨by rfl, by intro w hSw; go_simp⟩) hHeld ?_
      simp only [Act.put, List.setIfInBounds_toArray, List.set_cons_zero, List.set_cons_succ]
      refine Pq.take (i := 3) (d := some 47) (v := .agg #[.slice ma LV.length mc, .slice mb LM.length md]) rfl (by kernel_rfl) (by kernel_rfl) (by kernel_rfl) (by kernel_rfl) (fun _ _ _ h => h) (Or.inl ⟨by rfl, by intro w hSw; obtain ⟨t0, t1⟩ := Pm.two hSw; go_simp⟩) hHeld ?_
      simp only [Act.put, List.setIfInBounds_toArray, List.set_cons_zero, List.set_cons_succ]
      refine wpAnyH_ready (rs := [4]) (by kernel_rfl) (by simp) (Lo.call0 rfl (by kernel_rfl) 26 (by kernel_rfl) 48 (by kernel_rfl) (fun _ => rfl) (HZ.out _) ?_ AllReadyH.nil)
      rintro e w6 ⟨za, zv, zc, zb, zm, zd, rfl, hzv, hzm, zlv, zlm, zne, hb⟩
      replace km := (hb.block _ zkm).trans km
      have zk6 := Nat.lt_of_lt_of_le zkm hb.size
      replace hmv := (Mm.wt_drew hmv).below hb
      replace hmm := (Mm.wt_drew hmm).below hb
      refine ⟨_, rfl, km, fun hHeld => ?_⟩
      simp only [Act.put, List.setIfInBounds_toArray, List.set_cons_zero, List.set_cons_succ]
      refine wpAnyH_ready (rs := [5]) (by kernel_rfl) (by simp) (Rg.call2 rfl (by kernel_rfl) 25 (.tmp 47) (.tmp 48) 25 25 (by kernel_rfl) 49 (by kernel_rfl) (.agg #[.slice ma LV.length mc, .slice mb LM.length md]) (.agg #[.slice za ZV.length zc, .slice zb ZM.length zd]) (by kernel_rfl) (by kernel_rfl) (fun _ => rfl) (HE.out _ _ _ _ _ _ _ _ _ _ _ _ _ _ _ _ _ hmv.rd hmm.rd hzv.rd hzm.rd) ?_ AllReadyH.nil)
      rintro e w7 ⟨rfl, hb2⟩
      replace km := (hb2.block _ zk6).trans km
      refine ⟨_, rfl, km, fun hHeld => ?_⟩
      simp only [Act.put, List.setIfInBounds_toArray, List.set_cons_zero, List.set_cons_succ]
      refine Pq.take (i := 6) (d := some 50) (v := .bool true) rfl (by kernel_rfl) (by kernel_rfl) (by kernel_rfl) (by kernel_rfl) (fun _ _ _ h => h) (Or.inl ⟨by rfl, by intro w hSw; go_simp⟩) hHeld ?_
      simp only [Act.put, List.setIfInBounds_toArray, List.set_cons_zero, List.set_cons_succ]
      refine Pq.take (i := 7) (d := some 2) (v := .bool true) rfl (by kernel_rfl) (by kernel_rfl) (by kernel_rfl) (by kernel_rfl) (fun _ _ _ h => h) (Or.inl ⟨by rfl, by intro w hSw; go_simp⟩) hHeld ?_
      simp only [Act.put, List.setIfInBounds_toArray, List.set_cons_zero, List.set_cons_succ]
      refine wpAnyH_done (by kernel_rfl) ?_ _
      go_wp2_with fail
      go_ret
      exact ⟨rfl, Rw.next (Rw.next B.drew hb) hb2⟩
    · have HI : Hid (∀ w, Calls Try.prog 23 #[.int .i64 f, .int .i64 v, .int .i64 n] w (Pm.ResMB w true LV LM)) := hI
      have HS : Hid (∀ w, Calls Try.prog 24 #[.int .i64 f, .int .i64 v, .int .i64 n] w (Pm.ResMB w true LV LM)) := hS
      have HL : Hid (∀ w, Calls Try.prog 23 #[.int .i64 f, .int .i64 v, .int .i64 (n - 1)] w (Pm.ResMB w true KV KM)) := hL
      have HC : Hid (Rg.CMM 16 KV KM LV LM (Rg.Bo true)) := hC
      have HD : Hid (Rg.CMM 16 LV LM KV KM (Rg.Bo false)) := hD
      have HA : Hid (Rg.CM 21 LV LM (Rg.Nu n)) := hA
      clear hI hS hL hC hD hA
      have nz : ¬ n = 0 := by omega
      have tk1 : True := trivial
      go_wp2_with (go_at_call 23; clear tk1; refine (HI.out _).mono ?_; rintro e w1 ⟨ma, mv, mc, mb, mm, md, rfl, hmv, hmm, mlv, mlm, mne, hb⟩; have sz1 := hb.size; replace B := Rw.next B hb; clear hb; have ltmv := Hr.wt_lt hmv; have ltmm := Hr.wt_lt hmm; have BX := Pl.below_alloc1 w1 (.cells #[.slice ma LV.length mc, .slice mb LM.length md] 25); replace B := Rw.next B BX; replace hmv := hmv.below BX; replace hmm := hmm.below BX; have km : (w1.alloc (.cells #[.slice ma LV.length mc, .slice mb LM.length md] 25)).heap[w1.heap.size]? = some (.cells #[.slice ma LV.length mc, .slice mb LM.length md] 25 (0, 0)) := Pl.at_new rfl; have zkm : w1.heap.size < (w1.alloc (.cells #[.slice ma LV.length mc, .slice mb LM.length md] 25)).heap.size := (by simp); have sykm := zkm; clear BX; obtain ⟨cmv, cmm⟩ := Pm.two km)
      have tk2 : True := trivial
      go_wp2_with (go_at_call 24; clear tk2; refine (HS.out _).mono ?_; rintro e w2 ⟨sa, sv, sc, sb, sm, sd, rfl, hsv, hsm, slv, slm, sne, hb⟩; have sz2 := hb.size; clear cmv cmm; replace B := Rw.next B hb; replace hmv := hmv.below hb; replace hmm := hmm.below hb; replace km := (hb.block _ zkm).trans km; replace zkm := Nat.lt_of_lt_of_le zkm hb.size; clear hb; have ltsv := Hr.wt_lt hsv; have ltsm := Hr.wt_lt hsm; have BX := Pl.below_alloc1 w2 (.cells #[.slice sa LV.length sc, .slice sb LM.length sd] 25); replace B := Rw.next B BX; replace hmv := hmv.below BX; replace hmm := hmm.below BX; replace km := (BX.block _ zkm).trans km; replace zkm := Nat.lt_of_lt_of_le zkm BX.size; replace hsv := hsv.below BX; replace hsm := hsm.below BX; have ks : (w2.alloc (.cells #[.slice sa LV.length sc, .slice sb LM.length sd] 25)).heap[w2.heap.size]? = some (.cells #[.slice sa LV.length sc, .slice sb LM.length sd] 25 (0, 0)) := Pl.at_new rfl; have zks : w2.heap.size < (w2.alloc (.cells #[.slice sa LV.length sc, .slice sb LM.length sd] 25)).heap.size := (by simp); have syks := zks; clear BX; obtain ⟨cmv, cmm⟩ := Pm.two km; obtain ⟨csv, csm⟩ := Pm.two ks)
      have tk3 : True := trivial
      go_wp2_with (go_at_call 23; clear tk3; refine (HL.out _).mono ?_; rintro e w3 ⟨la, lv, lc, lb, lm, ld, rfl, hlv, hlm, llv, llm, lne, hb⟩; have sz3 := hb.size; clear cmv cmm csv csm; replace B := Rw.next B hb; replace hmv := hmv.below hb; replace hmm := hmm.below hb; replace km := (hb.block _ zkm).trans km; replace zkm := Nat.lt_of_lt_of_le zkm hb.size; replace hsv := hsv.below hb; replace hsm := hsm.below hb; replace ks := (hb.block _ zks).trans ks; replace zks := Nat.lt_of_lt_of_le zks hb.size; clear hb; have ltlv := Hr.wt_lt hlv; have ltlm := Hr.wt_lt hlm; have BX := Pl.below_alloc1 w3 (.cells #[.slice la KV.length lc, .slice lb KM.length ld] 25); replace B := Rw.next B BX; replace hmv := hmv.below BX; replace hmm := hmm.below BX; replace km := (BX.block _ zkm).trans km; replace zkm := Nat.lt_of_lt_of_le zkm BX.size; replace hsv := hsv.below BX; replace hsm := hsm.below BX; replace ks := (BX.block _ zks).trans ks; replace zks := Nat.lt_of_lt_of_le zks BX.size; replace hlv := hlv.below BX; replace hlm := hlm.below BX; have kl : (w3.alloc (.cells #[.slice la KV.length lc, .slice lb KM.length ld] 25)).heap[w3.heap.size]? = some (.cells #[.slice la KV.length lc, .slice lb KM.length ld] 25 (0, 0)) := Pl.at_new rfl; have zkl : w3.heap.size < (w3.alloc (.cells #[.slice la KV.length lc, .slice lb KM.length ld] 25)).heap.size := (by simp); have sykl := zkl; clear BX; obtain ⟨cmv, cmm⟩ := Pm.two km; obtain ⟨csv, csm⟩ := Pm.two ks; obtain ⟨clv, clm⟩ := Pm.two kl)
      have tk4 : True := trivial
      go_wp2_with (go_at_call 16; clear tk4; refine (HC.out _ _ _ _ _ _ _ _ _ _ _ _ _ _ _ _ _ hlv.rd hlm.rd hmv.rd hmm.rd).mono ?_; rintro e w4 ⟨rfl, hb⟩; have sz4 := hb.size; clear cmv cmm csv csm clv clm; replace B := Rw.next B hb; replace hmv := hmv.below hb; replace hmm := hmm.below hb; replace km := (hb.block _ zkm).trans km; replace zkm := Nat.lt_of_lt_of_le zkm hb.size; replace hsv := hsv.below hb; replace hsm := hsm.below hb; replace ks := (hb.block _ zks).trans ks; replace zks := Nat.lt_of_lt_of_le zks hb.size; replace hlv := hlv.below hb; replace hlm := hlm.below hb; replace kl := (hb.block _ zkl).trans kl; replace zkl := Nat.lt_of_lt_of_le zkl hb.size; clear hb; obtain ⟨cmv, cmm⟩ := Pm.two km; obtain ⟨csv, csm⟩ := Pm.two ks; obtain ⟨clv, clm⟩ := Pm.two kl)
      have tk5 : True := trivial
      go_wp2_with (go_at_call 16; clear tk5; refine (HD.out _ _ _ _ _ _ _ _ _ _ _ _ _ _ _ _ _ hmv.rd hmm.rd hlv.rd hlm.rd).mono ?_; rintro e w5 ⟨rfl, hb⟩; have sz5 := hb.size; clear cmv cmm csv csm clv clm; replace B := Rw.next B hb; replace hmv := hmv.below hb; replace hmm := hmm.below hb; replace km := (hb.block _ zkm).trans km; replace zkm := Nat.lt_of_lt_of_le zkm hb.size; replace hsv := hsv.below hb; replace hsm := hsm.below hb; replace ks := (hb.block _ zks).trans ks; replace zks := Nat.lt_of_lt_of_le zks hb.size; replace hlv := hlv.below hb; replace hlm := hlm.below hb; replace kl := (hb.block _ zkl).trans kl; replace zkl := Nat.lt_of_lt_of_le zkl hb.size; clear hb; obtain ⟨cmv, cmm⟩ := Pm.two km; obtain ⟨csv, csm⟩ := Pm.two ks; obtain ⟨clv, clm⟩ := Pm.two kl)
      have tk6 : True := trivial
      go_wp2_with (go_at_call 21; clear tk6; refine (HA.out _ _ _ _ _ _ _ _ _ hmv.rd hmm.rd).mono ?_; rintro e w6 ⟨rfl, hb⟩; have sz6 := hb.size; clear cmv cmm csv csm clv clm; replace B := Rw.next B hb; replace hmv := hmv.below hb; replace hmm := hmm.below hb; replace km := (hb.block _ zkm).trans km; replace zkm := Nat.lt_of_lt_of_le zkm hb.size; replace hsv := hsv.below hb; replace hsm := hsm.below hb; replace ks := (hb.block _ zks).trans ks; replace zks := Nat.lt_of_lt_of_le zks hb.size; replace hlv := hlv.below hb; replace hlm := hlm.below hb; replace kl := (hb.block _ zkl).trans kl; replace zkl := Nat.lt_of_lt_of_le zkl hb.size; clear hb; obtain ⟨cmv, cmm⟩ := Pm.two km; obtain ⟨csv, csm⟩ := Pm.two ks; obtain ⟨clv, clm⟩ := Pm.two kl)
      go_ret
      exact ⟨rfl, B⟩

/-! ### THE ROW's STEP: WRITTEN OUT: LEAVE IT -/
set_option maxRecDepth 100000 in
theorem lifted (os : Os) (started : os.Started) (H : Type) (enc : TypeId × Value → H) :
    ReturnsInHanded {} Try.checked os 4 .any (Rows.fnBitsSpec.pre6 enc Try.prog Try.f4 Rows.fnBitsRow.domain false) (Rows.fnBitsSpec.post enc Try.prog Try.f4 false true false false) := by
  refine returnsInHanded_of_change (C := Try.checked) own started (by kernel_rfl) Try.func4
    (ChangeSpec.witness6 (enc := enc) (C := Try.checked) false ⟨#[], #[.slice none 0 0], []⟩ 8 (by kernel_rfl) (by kernel_rfl) (by kernel_rfl) (by kernel_rfl)) ?_
  intro W base args ds gs before hval0 hW hcnd _
  have hval : ∀ (j : Nat) t v, Try.f4.params[j]? = some t → args[j]? = some v → Value.okWide Try.prog W .any base t v := hval0
  have hW' := hW
  obtain ⟨p, q, hA0, hV, rfl, hfz, hnd⟩ := hW
  have hA : DataW.TrodAll enc Try.prog W 0 (fun _ => true) true Try.f4.params.toList args.toList ds p := hA0
  rw [Try.params4] at hA hval
  obtain ⟨v0, vs0, d0, ds0, p0, q0, hargs, rfl, rfl, h0, r0⟩ := trodAll_cons hA
  obtain ⟨rfl, rfl, rfl⟩ := trodAll_nil r0
  obtain rfl : args = #[v0] := by cases args; simp_all
  obtain ⟨rfl, rfl⟩ := trodVars_none hV
  obtain ⟨a0, len0, cap0, rfl⟩ := okWide_slice Try.underlying22 (hval 0 22 v0 rfl rfl)
  have k0 := h0
  have lt0 : ∀ x ∈ p0, x.block < W.heap.size := by obtain ⟨m, hm⟩ := k0; exact DataW.trod_lt m _ _ _ hm
  obtain ⟨z0, w0⟩ : ∃ zs, IsRow .u8 W a0 len0 cap0 zs := by
    obtain ⟨fuel, hf⟩ := h0
    rcases open_ints Try.underlying22 Try.underlying5 (by kernel_rfl) hf with ⟨hcs, _⟩ | ⟨x, l, c, zs, hcs, _, hl, hm, hz, _, hcell, hwz⟩
    · simp [Value.cells] at hcs
      obtain ⟨rfl, rfl, rfl⟩ := hcs
      exact ⟨[], .inl ⟨rfl, rfl, rfl, rfl⟩⟩
    · simp [Value.cells] at hcs
      obtain ⟨rfl, rfl, rfl⟩ := hcs
      exact ⟨zs, .inr ⟨_, rfl, hl, hm, by simpa using hz, hcell, hwz⟩⟩
  clear hA0 hval0
  refine (walk a0 len0 cap0 z0 W w0).mono fun e W' ⟨he, bel⟩ => ?_
  subst he
  exact ⟨_, rfl, _, _, _, [], _, [], hW', trodAll_mk1 (shut_bool Try.underlying4 _), (trodAll_cons_mk (Below.trod laidOut (by kernel_rfl) (of_decide_eq_true (by kernel_rfl)) k0 bel lt0) trodAll_mk0), rfl, bel.frame _, fun h => by cases h⟩

theorem over : Rows.fnBitsRow.holds Try.pinned (OpenSpec.ofChange Rows.fnBitsSpec) :=
  OpenClaim.holds_of_wide 4 Try.f4 rfl rfl rfl rfl rfl rfl rfl ⟨rfl, rfl, rfl, rfl, rfl⟩ rfl rfl rfl rfl rfl (by kernel_rfl) Try.func4 (by kernel_rfl)
    (of_decide_eq_true (by kernel_rfl)) (by unfold Func.isWrapper; first | (rw [if_pos (by decide +kernel)]; kernel_rfl) | (rw [if_neg (by decide +kernel)]; exact ⟨rfl, rfl⟩))
    (fun os started H enc _ => lifted os started H enc)

/-- ████ THE STATEMENT ████ -/
theorem proved : Rows.FnBitsSaid := over
end Go.Proofs.Ytbplpfcplpoeiaa.fnBits

namespace Go.Proofs.Ytbplpfcplpoeiaa
theorem FnBits_holds : Rows.FnBitsSaid := fnBits.proved
end Go.Proofs.Ytbplpfcplpoeiaa
