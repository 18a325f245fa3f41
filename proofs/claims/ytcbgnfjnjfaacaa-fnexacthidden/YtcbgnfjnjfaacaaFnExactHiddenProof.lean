/- At every table the program and the specification tell the same hidden entries; the answer owns its memory, and the argument reads as before; no condition. -/
import Derived.Test.YtcbgnfjnjfaacaaRows
import Derived.Test.YtcbgnfjnjfaacaaQg
import Derived.WalkKit
import Derived.ProofKit
import Derived.OpenShut
import Derived.ShutString
import Derived.ChangeOld
import Derived.Below
import Derived.Deep.RegionWith
import Derived.Deep.RegionHeld3
namespace Go.Proofs.Ytcbgnfjnjfaacaa.fnExactHidden
open Go.ChangeShapes Go.WideShapes Go.ChangeAt Go.RowKit
set_option linter.unusedVariables false
set_option linter.unusedSimpArgs false

theorem own : ownKnob Try.prog.godebug = none := by kernel_rfl
theorem laidOut : laidOutB Try.prog = true := by kernel_rfl
theorem szT_big (q : Int) (a : Option Addr) (c L : Nat) (R : List Ea.Raw) (w : World) (hR : Ea.IsRow w a R) (h : L < R.length + Ea.tot R R.length) (hL : L ≤ 1048576) :
    Calls Try.prog 38 #[.agg #[.int .i64 q, .slice a R.length c], .int .i64 L] w fun e w' => e = .returned (.int .i64 (-1)) ∧ Below w.heap.size w w' := by
  have B0 := Pl.below_alloc1 w (.cells #[.int .i64 q, .slice a R.length c] 65)
  have hR' := hR.below B0
  go_enter Try.func38, Try.ntmps38
  go_wp2_with (go_at_call 108; refine (Ea.szS_big _ _ L _ _ hR' h hL).mono ?_; rintro e w1 ⟨rfl, hb⟩)
  go_ret
  exact ⟨rfl, Rw.next B0 hb⟩

set_option maxRecDepth 8000 in
set_option maxHeartbeats 16000000 in
theorem walk (q0 : Int) (a0 : Option Addr) (c0 : Nat) (R0 : List Ea.Raw) (w : World) (w0 : Ea.IsRow w a0 R0) :
    Calls Try.prog 13 #[.agg #[.int .i64 q0, .slice a0 R0.length c0]] w fun e w' => e = .returned (.bool true) ∧ Below w.heap.size w w' := by
  obtain ⟨W0, hW0⟩ : ∃ W0, W0 = w.alloc (.cells #[.int .i64 q0, .slice a0 R0.length c0] 65) := ⟨_, rfl⟩
  have B0 : Below w.heap.size w W0 := by subst hW0; exact Pl.below_alloc1 _ _
  by_cases hbig : 1048576 < R0.length + Ea.tot R0 R0.length
  · have hc := szT_big q0 a0 c0 1048576 R0 W0 (w0.below B0) hbig (Nat.le_refl _)
    go_enter Try.func13, Try.ntmps13
    go_wp2_with (go_at_call 38; rw [← hW0]; clear hW0; refine hc.mono ?_; rintro e wa ⟨rfl, hb⟩)
    go_ret
    exact ⟨rfl, Rw.next B0 hb⟩
  obtain ⟨b, off, Q, hQ, rd0, hKQ⟩ := Em.rd_isRow w0 (by omega)
  obtain ⟨L, hL⟩ : ∃ L : Nat, R0.length + Ea.tot R0 R0.length + L = 1048576 := ⟨1048576 - (R0.length + Ea.tot R0 R0.length), by omega⟩
  have hp : ¬ ((L : Int) < 0) := by omega
  have hc := Ea.szT_at q0 a0 c0 1048576 L R0 W0 (w0.below B0) hL (Nat.le_refl _)
  have k0 : W0.heap[w.heap.size]? = some (.cells #[.int .i64 q0, .slice a0 R0.length c0] 65 (0, 0)) := by subst hW0; exact Pl.at_new rfl
  rw [← hQ] at hc hW0 k0 ⊢
  have RD : Hid (Ea.Rd w a0 b off Q) := rd0
  have HKQ : Hid ((Em.kAt (Em.at_ Q) Q.length : Int) ≤ 3145728) := hKQ
  clear hQ hL w0 hbig rd0 hKQ
  obtain ⟨r, hr⟩ := Hq.hid_some q0 (Q.map Ea.Ent.said)
  have HR : Hid (Hq.HidR q0 (Q.map Ea.Ent.said) r) := hr
  have hr4 : r.length ≤ 4194304 := by have := Hq.hid_len hr; omega
  have HL4 : Hid (r.length ≤ 4194304) := hr4
  clear hr
  go_enter Try.func13, Try.ntmps13
  have t1 : True := trivial
  go_wp2_with (first
    | (go_at_call 38; rw [← hW0]; clear hW0; refine hc.mono ?_; rintro x wa ⟨rfl, hb⟩; replace k0 := (hb.block _ (Ea.blk_lt k0)).trans k0; replace B0 := Rw.next B0 hb; clear hb; obtain ⟨p0, p1⟩ := Pm.two k0)
    | (go_at_call 40; clear t1; refine (Ea.toT_any q0 _ _ _ _ Q _ (RD.out.below B0)).mono ?_; rintro x wa ⟨F, g, rfl, sF, hb, mF⟩; replace k0 := (hb.block _ (Ea.blk_lt k0)).trans k0; replace B0 := Rw.next B0 hb; clear hb p0 p1; obtain ⟨p0, p1⟩ := Pm.two k0)
    | (go_at_call 32; refine (Hq.hidS q0 _ _ _ _ F _ mF.rd r (by rw [sF]; exact HR.out)).mono ?_; rintro x wa ⟨v0, rfl, hz, hb⟩; replace k0 := (hb.block _ (Ea.blk_lt k0)).trans k0; replace B0 := Rw.next B0 hb; clear hb p0 p1 mF sF; obtain ⟨aW, gW, cW, rfl, mW, lW⟩ := hz.form HL4.out; clear hz lW; obtain ⟨p0, p1⟩ := Pm.two k0))
  clear hc
  have loW := Hr.wt_lt mW
  have zlo := B0.size
  have zk := Ea.blk_lt k0
  obtain ⟨lo, hlo⟩ : ∃ lo, lo = wa.heap.size := ⟨_, rfl⟩
  have HLo : Hid (lo = wa.heap.size) := hlo
  have HLW : Hid (r.length = 0 ∨ gW < lo) := by rw [hlo]; exact loW
  have HZ : Hid (w.heap.size < lo) := by rw [hlo]; exact zk
  clear loW zlo zk hlo
  have t2 : True := trivial
  go_wp2_with (go_at_call 40; clear t2; refine (Ea.toT_any q0 _ _ _ _ Q _ (RD.out.below B0)).mono ?_; rintro x wc ⟨G, gX, rfl, sG, hb, mG⟩; rw [← HLo.out] at mG; replace k0 := (hb.block _ (Ea.blk_lt k0)).trans k0; replace mW := mW.below hb; replace B0 := Rw.next B0 hb; clear hb p0 p1 HLo; obtain ⟨p0, p1⟩ := Pm.two k0)
  obtain ⟨W2, hW2⟩ : ∃ W2, W2 = wc.alloc (.cells #[.int .i64 q0, .slice (some ⟨gX, 0, none⟩) G.length G.length] 38) := ⟨_, rfl⟩
  have k1 : W2.heap[wc.heap.size]? = some (.cells #[.int .i64 q0, .slice (some ⟨gX, 0, none⟩) G.length G.length] 38 (0, 0)) := by subst hW2; exact Pl.at_new rfl
  have hb : Below wc.heap.size wc W2 := by subst hW2; exact Pl.below_alloc1 _ _
  have HC : Hid (w.heap.size < wc.heap.size ∧ lo ≤ wc.heap.size) := ⟨Ea.blk_lt k0, by have := mG.lg; have := mG.row.lt; omega⟩
  have HU : Hid (∀ x, Em.UseT gX G.length (Em.at_ G) x → lo ≤ x ∧ x < wc.heap.size) := Em.mine_U mG
  have HKG : Hid (1 + (Em.kAt (Em.at_ G) G.length : Int) ≤ 100000000000) := by
    have e1 := Em.kAt_said sG G.length
    have e2 := Ea.said_len sG
    have e3 := HKQ.out
    have e4 : (Em.kAt (Em.at_ G) G.length : Int) ≤ 3145728 := by rw [e1, e2]; exact e3
    have e5 : 1 + (Em.kAt (Em.at_ G) G.length : Int) ≤ 100000000000 := by omega
    exact e5
  have hgl : G.length ≤ 4611686018427387904 := by have := mG.size; omega
  replace k0 := (hb.block _ (Ea.blk_lt k0)).trans k0
  replace mW := mW.below hb
  replace mG := mG.below hb
  replace B0 := Rw.next B0 hb
  clear hb p0 p1
  go_wp2_with (go_at_call 29; rw [← hW2]; clear hW2; refine (Hq.hidI q0 _ _ _ _ G _ mG.rd (Nat.le_refl _) hgl r (by rw [sG]; exact HR.out)).mono ?_; rintro x wd ⟨v1, rfl, hz, hb⟩; have ltX := Ea.blk_lt k1; replace k0 := (hb.block _ (Ea.blk_lt k0)).trans k0; replace k1 := (hb.block _ (Ea.blk_lt k1)).trans k1; replace mW := mW.below hb; replace mG := mG.below hb; replace B0 := Rw.next B0 hb; obtain ⟨aI, gI, cI, rfl, mI, lI⟩ := hz.form HL4.out; have HLI : Hid (r.length = 0 ∨ wc.heap.size < gI) := (lI.imp id (fun h => by omega)); clear hz hb lI ltX; obtain ⟨p0, p1⟩ := Pm.two k0; obtain ⟨x0, x1⟩ := Pm.two k1; have t3 : True := trivial)
  go_wp2_with (go_at_call 56; clear t3; refine (Hr.eqIntS_any _ _ _ _ _ _ _ _ r r _ mI.rd mW.rd).mono ?_; rw [decide_eq_true rfl]; rintro x we ⟨rfl, hb⟩; replace k0 := (hb.block _ (Ea.blk_lt k0)).trans k0; replace k1 := (hb.block _ (Ea.blk_lt k1)).trans k1; replace mW := mW.below hb; replace mI := mI.below hb; replace mG := mG.below hb; replace B0 := Rw.next B0 hb; clear hb p0 p1 x0 x1; obtain ⟨p0, p1⟩ := Pm.two k0; obtain ⟨x0, x1⟩ := Pm.two k1)
  go_region_held3 (fun w' => w'.cell? ⟨wc.heap.size, 0, none⟩ = some (.int .i64 q0) ∧ w'.cell? ⟨wc.heap.size, 1, none⟩ = some (.slice (some ⟨gX, 0, none⟩) G.length G.length) ∧ w'.cell? ⟨w.heap.size, 0, none⟩ = some (.int .i64 q0) ∧ w'.cell? ⟨w.heap.size, 1, none⟩ = some (.slice a0 Q.length c0)) (go_keep) (first
    | (go_at_call 40; refine (Ea.toT_any q0 _ _ _ _ Q _ (RD.out.below (Rw.next B0 ((Below.refl _ _).drew)))).mono ?_; rintro x wf ⟨F, gF, rfl, sF, hb0, mF⟩; have hb := Rw.next ((Below.refl _ _).drew) hb0; clear p0 p1 x0 x1; replace k0 := (hb.block _ (Ea.blk_lt k0)).trans k0; replace k1 := (hb.block _ (Ea.blk_lt k1)).trans k1; replace mW := mW.below hb; replace mI := mI.below hb; replace mG := mG.below hb; replace B0 := Rw.next B0 hb; clear hb hb0; obtain ⟨p0, p1⟩ := Pm.two k0; obtain ⟨x0, x1⟩ := Pm.two k1)
    | (go_at_call 41; refine (Ea.eqT_same q0 _ _ _ _ _ _ _ _ G F _ mG.rd mF.rd (sG.trans sF.symm)).mono ?_; rintro x wg ⟨rfl, hb⟩; clear p0 p1 x0 x1; replace k0 := (hb.block _ (Ea.blk_lt k0)).trans k0; replace k1 := (hb.block _ (Ea.blk_lt k1)).trans k1; replace mW := mW.below hb; replace mI := mI.below hb; replace mG := mG.below hb; replace B0 := Rw.next B0 hb; clear hb mF sF; obtain ⟨p0, p1⟩ := Pm.two k0; obtain ⟨x0, x1⟩ := Pm.two k1))
  obtain ⟨K, hK⟩ : ∃ K : Int, K = 1 + (Em.kAt (Em.at_ G) G.length : Int) := ⟨_, rfl⟩
  have hKn : ¬ (K < 0) := by omega
  have HK : Hid (K = 1 + (Em.kAt (Em.at_ G) G.length : Int)) := hK
  clear hK
  have t4 : True := trivial
  go_wp2_with (first
    | (go_at_call 42; refine (Em.markT_any 1 q0 (by omega) _ gX _ G.length (Em.at_ G) _ (fun _ => rfl) (Em.mine_wtF mG) (Em.mine_apF mG) mG.size (.inr mG.row.lt) HKG.out).mono ?_; rw [← HK.out]; rintro x wh ⟨rfl, kp, _⟩; have kk := kp.block _ (Ea.blk_lt k0) (fun hu => by have := (HU.out _ hu).1; have := HZ.out; omega); replace k0 := kk.trans k0; clear kk; replace B0 := kp.below B0 (fun x hu => by have := (HU.out _ hu).1; have := HZ.out; omega); replace mW := Em.wt_keep mW (fun h0 => kp.block _ (by rcases Hr.wt_lt mW with h1 | h1 <;> omega) (fun hu => by have := (HU.out _ hu).1; have := HLW.out; omega)); replace mI := Em.wt_keep mI (fun h0 => kp.block _ (by rcases Hr.wt_lt mI with h1 | h1 <;> omega) (fun hu => by have := (HU.out _ hu).2; have := HLI.out; omega)); clear kp p0 p1 x0 x1 mG k1)
    | (go_at_call 56; clear t4; refine (Hr.eqIntS_any _ _ _ _ _ _ _ _ r r _ mI.rd mW.rd).mono ?_; rw [decide_eq_true rfl]; rintro x wi ⟨rfl, hb⟩; replace k0 := (hb.block _ (Ea.blk_lt k0)).trans k0; replace mW := mW.below hb; replace mI := mI.below hb; replace B0 := Rw.next B0 hb; clear hb; have ltI := HLI.out)
    | (go_at_call 57; refine (Mf.markF_any 1 (by omega) (by omega) _ _ _ r _ mI).mono ?_; rintro x wj ⟨rfl, kp, mI'⟩; have kk := kp.block _ (Ea.blk_lt k0) (by have := HLI.out; have := HC.out; omega); replace k0 := kk.trans k0; clear kk; replace mW := Em.wt_keep mW (fun h0 => kp.block _ (by rcases Hr.wt_lt mW with h1 | h1 <;> omega) (by have := HLI.out; have := HC.out; have := HLW.out; omega)); replace B0 := (Em.KeptP.kept (U := fun b => b = gI ∧ 0 < r.length) kp (fun h => ⟨rfl, h⟩)).below B0 (fun x hu => by have := HLI.out; have := HC.out; omega); clear kp mI; have t5 : True := trivial)
    | (go_at_call 58; clear t5; refine (Mf.heldF_any 1 (by omega) (by omega) _ _ _ r.length _ mI').mono ?_; rintro x wk ⟨rfl, hw⟩; replace hw := hw.symm; subst hw; have hLn : ¬ (1 + (r.length : Int) < 0) := (by omega); obtain ⟨p0, p1⟩ := Pm.two k0; have t6 : True := trivial)
    | (go_at_call 40; clear t6; refine (Ea.toT_any q0 _ _ _ _ Q _ (RD.out.below B0)).mono ?_; rintro x wl ⟨F, g, rfl, sF, hb, mF⟩; have hfl : F.length ≤ 4611686018427387904 := (by have := mF.size; omega); replace k0 := (hb.block _ (Ea.blk_lt k0)).trans k0; replace mW := mW.below hb; replace mI' := mI'.below hb; replace B0 := Rw.next B0 hb; clear hb p0 p1)
    | (go_at_call 29; refine (Hq.hidI q0 _ _ _ _ F _ mF.rd (Nat.le_refl _) hfl r (by rw [sF]; exact HR.out)).mono ?_; rintro x wm ⟨v2, rfl, hz, hb⟩; replace k0 := (hb.block _ (Ea.blk_lt k0)).trans k0; replace mW := mW.below hb; replace mI' := mI'.below hb; replace B0 := Rw.next B0 hb; obtain ⟨aJ, gJ, cJ, rfl, mJ, lJ⟩ := hz.form HL4.out; clear hz hb lJ mF; have t7 : True := trivial)
    | (go_at_call 56; clear t7; refine (Hr.eqIntS_any _ _ _ _ _ _ _ _ r r _ mJ.rd mW.rd).mono ?_; rw [decide_eq_true rfl]; rintro x wn ⟨rfl, hb⟩; replace k0 := (hb.block _ (Ea.blk_lt k0)).trans k0; replace mW := mW.below hb; replace mI' := mI'.below hb; replace B0 := Rw.next B0 hb; clear hb; have t8 : True := trivial)
    | (go_at_call 58; clear t8; refine (Mf.heldF_any 1 (by omega) (by omega) _ _ _ r.length _ mI').mono ?_; rintro x wo ⟨rfl, hw⟩; replace hw := hw.symm; subst hw))
  go_ret
  exact ⟨rfl, B0⟩

set_option maxRecDepth 100000 in
theorem lifted (os : Os) (started : os.Started) (H : Type) (enc : TypeId × Value → H) :
    ReturnsInHanded {} Try.checked os 13 .any (Rows.fnExactHiddenSpec.pre6 enc Try.prog Try.f13 Rows.fnExactHiddenRow.domain false) (Rows.fnExactHiddenSpec.post enc Try.prog Try.f13 false true false false) := by
  refine returnsInHanded_of_change (C := Try.checked) own started (by kernel_rfl) Try.func13
    (ChangeSpec.witness6 (enc := enc) (C := Try.checked) false ⟨#[], #[.agg #[.int .i64 0, .slice none 0 0]], []⟩ 8 (by kernel_rfl) (by kernel_rfl) (by kernel_rfl) (by kernel_rfl)) ?_
  intro W base args ds gs before hval0 hW hcnd _
  have hval : ∀ (j : Nat) t v, Try.f13.params[j]? = some t → args[j]? = some v → Value.okWide Try.prog W .any base t v := hval0
  have hW' := hW
  obtain ⟨p, q, hA0, hV, rfl, hfz, hnd⟩ := hW
  have hA : DataW.TrodAll enc Try.prog W 0 (fun _ => true) true Try.f13.params.toList args.toList ds p := hA0
  rw [Try.params13] at hA hval
  obtain ⟨v0, vs0, d0, ds0, p0, q0, hargs, rfl, rfl, h0, r0⟩ := trodAll_cons hA
  obtain ⟨rfl, rfl, rfl⟩ := trodAll_nil r0
  obtain rfl : args = #[v0] := by cases args; simp_all
  obtain ⟨rfl, rfl⟩ := trodVars_none hV
  have k0 := h0
  have lt0 : ∀ x ∈ p0, x.block < W.heap.size := by obtain ⟨m, hm⟩ := k0; exact DataW.trod_lt m _ _ _ hm
  obtain ⟨q0, a0, c0, R0, rfl, w0⟩ := Ea.open_table (hval 0 65 v0 rfl rfl) h0
  clear hA0 hval0
  refine (walk q0 a0 c0 R0 W w0).mono fun e W' ⟨he, bel⟩ => ?_
  subst he
  exact ⟨_, rfl, _, _, _, [], _, [], hW', trodAll_mk1 (shut_bool Try.underlying4 _), (trodAll_cons_mk (Below.trod laidOut (by kernel_rfl) (of_decide_eq_true (by kernel_rfl)) k0 bel lt0) trodAll_mk0), rfl, bel.frame _, fun h => by cases h⟩

theorem over : Rows.fnExactHiddenRow.holds Try.pinned (OpenSpec.ofChange Rows.fnExactHiddenSpec) :=
  OpenClaim.holds_of_wide 13 Try.f13 rfl rfl rfl rfl rfl rfl rfl ⟨rfl, rfl, rfl, rfl, rfl⟩ rfl rfl rfl rfl rfl (by kernel_rfl) Try.func13 (by kernel_rfl)
    (of_decide_eq_true (by kernel_rfl)) (by unfold Func.isWrapper; first | (rw [if_pos (by decide +kernel)]; kernel_rfl) | (rw [if_neg (by decide +kernel)]; exact ⟨rfl, rfl⟩))
    (fun os started H enc _ => lifted os started H enc)

theorem proved : Rows.FnExactHiddenSaid := over
end Go.Proofs.Ytcbgnfjnjfaacaa.fnExactHidden

namespace Go.Proofs.Ytcbgnfjnjfaacaa
theorem FnExactHidden_holds : Rows.FnExactHiddenSaid := fnExactHidden.proved
end Go.Proofs.Ytcbgnfjnjfaacaa
