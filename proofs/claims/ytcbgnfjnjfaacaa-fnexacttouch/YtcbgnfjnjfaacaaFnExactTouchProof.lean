/- At every table and place the program and the specification count the same hit and tell the same verdict; the answer owns its memory, and the argument reads as before; no condition. -/
import Derived.Test.YtcbgnfjnjfaacaaRows
import Derived.Test.YtcbgnfjnjfaacaaPua
import Derived.WalkKit
import Derived.ProofKit
import Derived.OpenShut
import Derived.ShutString
import Derived.ChangeOld
import Derived.Below
import Derived.Deep.RegionWith
import Derived.Deep.RegionHeld3
namespace Go.Proofs.Ytcbgnfjnjfaacaa.fnExactTouch
open Go.ChangeShapes Go.WideShapes Go.ChangeAt Go.RowKit
set_option linter.unusedVariables false
set_option linter.unusedSimpArgs false

theorem own : ownKnob Try.prog.godebug = none := by kernel_rfl
theorem laidOut : laidOutB Try.prog = true := by kernel_rfl
theorem szT_big (q : Int) (a : Option Addr) (c L : Nat) (R : List Ea.Raw) (w : World) (hR : Ea.IsRow w a R) (h : L < R.length + Ea.tot R R.length) (hL : L ≤ 1048576) :
    Calls Try.prog 38 #[.agg #[.int .i64 q, .slice a R.length c], .int .i64 L] w fun e w' => e = .returned (.int .i64 (-1)) ∧ Below w.heap.size w w' := by
  have B0 := Pl.below_alloc1 w (.cells #[.int .i64 q, .slice a R.length c] 65)
  have hR' := hR.below B0
  go_enter Try.func38, Try.ntmps38
  go_wp2_with (go_at_call 108; refine (Ea.szS_big _ _ L _ _ hR' h hL).mono ?_; rintro e w1 ⟨rfl, hb⟩)
  go_ret
  exact ⟨rfl, Rw.next B0 hb⟩
theorem kg {Q G : List Ea.Ent} (h : (Em.kAt (Em.at_ Q) Q.length : Int) ≤ 3145728) (s : G.map Ea.Ent.said = Q.map Ea.Ent.said) : 1 + (Em.kAt (Em.at_ G) G.length : Int) ≤ 100000000000 := by
  have e1 := Em.kAt_said s G.length
  have e2 := Ea.said_len s
  have e4 : (Em.kAt (Em.at_ G) G.length : Int) ≤ 3145728 := by rw [e1, e2]; exact h
  omega

set_option maxRecDepth 8000 in
set_option maxHeartbeats 16000000 in
theorem walk (q0 : Int) (a0 : Option Addr) (c0 : Nat) (R0 : List Ea.Raw) (i1 : Int) (w : World) (w0 : Ea.IsRow w a0 R0) :
    Calls Try.prog 12 #[.agg #[.int .i64 q0, .slice a0 R0.length c0], .int .i64 i1] w fun e w' => e = .returned (.bool true) ∧ Below w.heap.size w w' := by
  obtain ⟨W0, hW0⟩ : ∃ W0, W0 = w.alloc (.cells #[.int .i64 q0, .slice a0 R0.length c0] 65) := ⟨_, rfl⟩
  have B0 : Below w.heap.size w W0 := by subst hW0; exact Pl.below_alloc1 _ _
  by_cases hbig : 1048576 < R0.length + Ea.tot R0 R0.length
  · have hc := szT_big q0 a0 c0 1048576 R0 W0 (w0.below B0) hbig (Nat.le_refl _)
    go_enter Try.func12, Try.ntmps12
    go_wp2_with (go_at_call 38; rw [← hW0]; clear hW0; refine hc.mono ?_; rintro e wa ⟨rfl, hb⟩)
    go_ret
    exact ⟨rfl, Rw.next B0 hb⟩
  obtain ⟨b, off, Q, hQ, rd0, hKQ⟩ := Em.rd_isRow w0 (by omega)
  obtain ⟨L, hL⟩ : ∃ L : Nat, R0.length + Ea.tot R0 R0.length + L = 1048576 := ⟨1048576 - (R0.length + Ea.tot R0 R0.length), by omega⟩
  have hp : ¬ ((L : Int) < 0) := by omega
  have hc := Ea.szT_at q0 a0 c0 1048576 L R0 W0 (w0.below B0) hL (Nat.le_refl _)
  have k0 : W0.heap[w.heap.size]? = some (.cells #[.int .i64 q0, .slice a0 R0.length c0] 65 (0, 0)) := by subst hW0; exact Pl.at_new rfl
  rw [← hQ] at hc hW0 k0 ⊢
  have RD : Hid (Ea.Rd w a0 b off Q) := rd0
  have HKQ : Hid ((Em.kAt (Em.at_ Q) Q.length : Int) ≤ 3145728) := hKQ
  clear hQ hL w0 hbig rd0 hKQ
  obtain ⟨q', L', m, hr⟩ := Cp.touch_some q0 (Q.map Ea.Ent.said) i1
  have HR : Hid (Cp.TouchA q0 (Q.map Ea.Ent.said) i1 q' L' m) := hr
  have HL4 : Hid (L'.length ≤ 400) := Cp.touch_len hr
  clear hr
  go_enter Try.func12, Try.ntmps12
  have t1 : True := trivial
  go_wp2_with (first
    | (go_at_call 38; rw [← hW0]; clear hW0; refine hc.mono ?_; rintro x wa ⟨rfl, hb⟩; replace k0 := (hb.block _ (Ea.blk_lt k0)).trans k0; replace B0 := Rw.next B0 hb; clear hb; obtain ⟨p0, p1⟩ := Pm.two k0)
    | (go_at_call 40; clear t1; refine (Ea.toT_any q0 _ _ _ _ Q _ (RD.out.below B0)).mono ?_; rintro x wa ⟨F, g, rfl, sF, hb, mF⟩; replace k0 := (hb.block _ (Ea.blk_lt k0)).trans k0; replace B0 := Rw.next B0 hb; clear hb p0 p1; obtain ⟨p0, p1⟩ := Pm.two k0)
    | (go_at_call 54; refine (Cp.touchS q0 i1 _ _ _ _ F _ mF.rd q' L' m (by rw [sF]; exact HR.out)).mono ?_; rintro x wa ⟨v0, FW, rfl, hot, sW, hb⟩; replace k0 := (hb.block _ (Ea.blk_lt k0)).trans k0; replace B0 := Rw.next B0 hb; clear hb p0 p1 mF sF; have lFW : FW.length ≤ 400 := (by have e1 := congrArg List.length sW; simp only [List.length_map] at e1; have := HL4.out; omega); obtain ⟨aW, gW, cW, rfl, mW, _⟩ := hot.form (by omega); clear hot; obtain ⟨p0, p1⟩ := Pm.two k0; have ltN := Ea.blk_lt k0; have t2 : True := trivial)
    | (go_at_call 40; clear t2; obtain ⟨W1, hW1⟩ : ∃ W1, W1 = wa.alloc (.cells #[.int .i64 q', .slice aW FW.length cW] 38) := ⟨_, rfl⟩; rw [← hW1]; have kW : W1.heap[wa.heap.size]? = some (.cells #[.int .i64 q', .slice aW FW.length cW] 38 (0, 0)) := (by subst hW1; exact Pl.at_new rfl); have hb : Below wa.heap.size wa W1 := (by subst hW1; exact Pl.below_alloc1 _ _); clear hW1; replace k0 := (hb.block _ (Ea.blk_lt k0)).trans k0; replace mW := mW.below hb; replace B0 := Rw.next B0 hb; clear hb p0 p1; have HLoW0 : Hid (∀ x, Em.UseT gW FW.length (Em.at_ FW) x → x < W1.heap.size) := (fun x hx => (mW.use x hx).2); have HlN0 : Hid (w.heap.size < W1.heap.size ∧ wa.heap.size < W1.heap.size) := ⟨Ea.blk_lt k0, Ea.blk_lt kW⟩; obtain ⟨lo, hlo⟩ : ∃ lo, lo = W1.heap.size := ⟨_, rfl⟩; rw [← hlo] at HLoW0 HlN0; have HLoW := HLoW0; have HlN := HlN0; clear HLoW0 HlN0; refine (Ea.toT_any q0 _ _ _ _ Q _ (RD.out.below B0)).mono ?_; rintro x wx ⟨G, gX, rfl, sG, hb, mG⟩; rw [← hlo] at mG; clear hlo; replace k0 := (hb.block _ (Ea.blk_lt k0)).trans k0; replace kW := (hb.block _ (Ea.blk_lt kW)).trans kW; replace mW := mW.below hb; replace B0 := Rw.next B0 hb; clear hb; have t3 : True := trivial)
    | (go_at_call 55; clear t3; obtain ⟨W2, hW2⟩ : ∃ W2, W2 = wx.alloc (.cells #[.int .i64 q0, .slice (some ⟨gX, 0, none⟩) G.length G.length] 38) := ⟨_, rfl⟩; rw [← hW2]; have kX : W2.heap[wx.heap.size]? = some (.cells #[.int .i64 q0, .slice (some ⟨gX, 0, none⟩) G.length G.length] 38 (0, 0)) := (by subst hW2; exact Pl.at_new rfl); have hb : Below wx.heap.size wx W2 := (by subst hW2; exact Pl.below_alloc1 _ _); clear hW2; have HU : Hid (∀ x, Em.UseT gX G.length (Em.at_ G) x → lo ≤ x ∧ x < wx.heap.size) := Em.mine_U mG; have HlX : Hid (lo ≤ wx.heap.size) := (by have := mG.lg; have := mG.row.lt; exact (by omega : lo ≤ wx.heap.size)); have HKG : Hid (1 + (Em.kAt (Em.at_ G) G.length : Int) ≤ 100000000000) := kg HKQ.out sG; replace k0 := (hb.block _ (Ea.blk_lt k0)).trans k0; replace kW := (hb.block _ (Ea.blk_lt kW)).trans kW; replace mW := mW.below hb; replace mG := mG.below hb; replace B0 := Rw.next B0 hb; clear hb; refine (Cp.touchI q0 i1 _ _ _ _ G _ mG.rd q' L' m (by rw [sG]; exact HR.out)).mono ?_; rintro x wy ⟨v1, FI, rfl, hot, sI, hb⟩; have lFI : FI.length ≤ 400 := (by have e1 := congrArg List.length sI; simp only [List.length_map] at e1; have := HL4.out; omega); obtain ⟨aI, gI, cI, rfl, mI, _⟩ := hot.form (by omega); clear hot; have ltX := Ea.blk_lt kX; have HUI : Hid (∀ x, Em.UseT gI FI.length (Em.at_ FI) x → wx.heap.size < x ∧ x < wy.heap.size) := (fun x hx => ⟨Nat.lt_of_lt_of_le ltX (mI.use x hx).1, (mI.use x hx).2⟩); clear ltX; replace k0 := (hb.block _ (Ea.blk_lt k0)).trans k0; replace kW := (hb.block _ (Ea.blk_lt kW)).trans kW; replace kX := (hb.block _ (Ea.blk_lt kX)).trans kX; replace mW := mW.below hb; replace mG := mG.below hb; replace B0 := Rw.next B0 hb; clear hb; have HlY : Hid (wx.heap.size < wy.heap.size) := Ea.blk_lt kX; obtain ⟨z0, z1⟩ := Pm.two kW; have ltW := Ea.blk_lt kW; have t4 : True := trivial)
    | (go_at_call 41; clear t4; obtain ⟨W3, hW3⟩ : ∃ W3, W3 = wy.alloc (.cells #[.int .i64 q', .slice aI FI.length cI] 38) := ⟨_, rfl⟩; rw [← hW3]; have kI : W3.heap[wy.heap.size]? = some (.cells #[.int .i64 q', .slice aI FI.length cI] 38 (0, 0)) := (by subst hW3; exact Pl.at_new rfl); have hb : Below wy.heap.size wy W3 := (by subst hW3; exact Pl.below_alloc1 _ _); clear hW3; clear z0 z1 ltW; replace k0 := (hb.block _ (Ea.blk_lt k0)).trans k0; replace kW := (hb.block _ (Ea.blk_lt kW)).trans kW; replace kX := (hb.block _ (Ea.blk_lt kX)).trans kX; replace mW := mW.below hb; replace mG := mG.below hb; replace mI := mI.below hb; replace B0 := Rw.next B0 hb; clear hb; refine (Ea.eqT_same q' _ _ _ _ _ _ _ _ FI FW _ mI.rd mW.rd (sI.trans sW.symm)).mono ?_; rintro x wz ⟨rfl, hb⟩; replace k0 := (hb.block _ (Ea.blk_lt k0)).trans k0; replace kW := (hb.block _ (Ea.blk_lt kW)).trans kW; replace kX := (hb.block _ (Ea.blk_lt kX)).trans kX; replace kI := (hb.block _ (Ea.blk_lt kI)).trans kI; replace mW := mW.below hb; replace mG := mG.below hb; replace mI := mI.below hb; replace B0 := Rw.next B0 hb; clear hb; obtain ⟨p0, p1⟩ := Pm.two k0; obtain ⟨y0, y1⟩ := Pm.two kX))
  go_region_held3 (fun w' => w'.cell? ⟨wx.heap.size, 0, none⟩ = some (.int .i64 q0) ∧ w'.cell? ⟨wx.heap.size, 1, none⟩ = some (.slice (some ⟨gX, 0, none⟩) G.length G.length) ∧ w'.cell? ⟨w.heap.size, 0, none⟩ = some (.int .i64 q0) ∧ w'.cell? ⟨w.heap.size, 1, none⟩ = some (.slice a0 Q.length c0)) (go_keep) (first
    | (go_at_call 40; refine (Ea.toT_any q0 _ _ _ _ Q _ (RD.out.below (Rw.next B0 ((Below.refl _ _).drew)))).mono ?_; rintro x wf ⟨F, gF, rfl, sF, hb0, mF⟩; have hb := Rw.next ((Below.refl _ _).drew) hb0; clear p0 p1 y0 y1; replace k0 := (hb.block _ (Ea.blk_lt k0)).trans k0; replace kW := (hb.block _ (Ea.blk_lt kW)).trans kW; replace kX := (hb.block _ (Ea.blk_lt kX)).trans kX; replace kI := (hb.block _ (Ea.blk_lt kI)).trans kI; replace mW := mW.below hb; replace mG := mG.below hb; replace mI := mI.below hb; replace B0 := Rw.next B0 hb; clear hb hb0; obtain ⟨p0, p1⟩ := Pm.two k0; obtain ⟨y0, y1⟩ := Pm.two kX)
    | (go_at_call 41; refine (Ea.eqT_same q0 _ _ _ _ _ _ _ _ G F _ mG.rd mF.rd (sG.trans sF.symm)).mono ?_; rintro x wg ⟨rfl, hb⟩; clear p0 p1 y0 y1; replace k0 := (hb.block _ (Ea.blk_lt k0)).trans k0; replace kW := (hb.block _ (Ea.blk_lt kW)).trans kW; replace kX := (hb.block _ (Ea.blk_lt kX)).trans kX; replace kI := (hb.block _ (Ea.blk_lt kI)).trans kI; replace mW := mW.below hb; replace mG := mG.below hb; replace mI := mI.below hb; replace B0 := Rw.next B0 hb; clear hb mF sF; obtain ⟨p0, p1⟩ := Pm.two k0; obtain ⟨y0, y1⟩ := Pm.two kX))
  obtain ⟨K, hK⟩ : ∃ K : Int, K = 1 + (Em.kAt (Em.at_ G) G.length : Int) := ⟨_, rfl⟩
  have hKn : ¬ (K < 0) := by omega
  have HK : Hid (K = 1 + (Em.kAt (Em.at_ G) G.length : Int)) := hK
  clear hK
  have t5 : True := trivial
  go_wp2_with (first
    | (go_at_call 42; clear t5; refine (Em.markT_any 1 q0 (by omega) _ gX _ G.length (Em.at_ G) _ (fun _ => rfl) (Em.mine_wtF mG) (Em.mine_apF mG) mG.size (.inr mG.row.lt) HKG.out).mono ?_; rw [← HK.out]; rintro x wA ⟨rfl, kp, _⟩; clear p0 p1 y0 y1 kX mG; have kk := kp.block _ (Ea.blk_lt k0) (fun hu => by have h1 := HU.out _ hu; have := HlN.out; have := HlY.out; omega); replace k0 := kk.trans k0; clear kk; have kk := kp.block _ (Ea.blk_lt kW) (fun hu => by have h1 := HU.out _ hu; have := HlN.out; have := HlY.out; omega); replace kW := kk.trans kW; clear kk; have kk := kp.block _ (Ea.blk_lt kI) (fun hu => by have h1 := HU.out _ hu; have := HlN.out; have := HlY.out; omega); replace kI := kk.trans kI; clear kk; replace mW := mW.keep kp.size (fun x hx => kp.block x ((mW.use x hx).2) (fun hu => by have := (HU.out _ hu).1; have := HLoW.out x hx; omega)); replace mI := mI.keep kp.size (fun x hx => kp.block x ((mI.use x hx).2) (fun hu => by have := (HU.out _ hu).2; have := (HUI.out x hx).1; omega)); replace B0 := kp.below B0 (fun x hu => by have := (HU.out _ hu).1; have := HlN.out; omega); clear kp; obtain ⟨v0, v1⟩ := Pm.two kI; obtain ⟨z0, z1⟩ := Pm.two kW; have t6 : True := trivial)
    | (go_at_call 41; clear t6; refine (Ea.eqT_same q' _ _ _ _ _ _ _ _ FI FW _ mI.rd mW.rd (sI.trans sW.symm)).mono ?_; rintro x wB ⟨rfl, hb⟩; clear v0 v1 z0 z1; replace k0 := (hb.block _ (Ea.blk_lt k0)).trans k0; replace kW := (hb.block _ (Ea.blk_lt kW)).trans kW; replace kI := (hb.block _ (Ea.blk_lt kI)).trans kI; replace mW := mW.below hb; replace mI := mI.below hb; replace B0 := Rw.next B0 hb; clear hb; obtain ⟨v0, v1⟩ := Pm.two kI; have t7 : True := trivial)
    | (go_at_call 42; clear t7; refine (Em.markT_any 1 q' (by omega) _ gI _ FI.length (Em.at_ FI) _ mI.head mI.wt mI.ap (by omega) (by rcases Nat.eq_zero_or_pos FI.length with h0 | h0; exact .inl h0; exact .inr (mI.use gI (.inl ⟨h0, rfl⟩)).2) (Cp.kAt_small mI.rd (by omega))).mono ?_; rintro x wC ⟨rfl, kp, mMk⟩; have hhI := mI.head; have HKI : Hid (1 + (Em.kAt (Em.at_ FI) FI.length : Int) ≤ 100000000000) := Cp.kAt_small mI.rd (by omega); clear v0 v1; have kk := kp.block _ (Ea.blk_lt k0) (fun hu => by have h1 := HUI.out _ hu; have := HlN.out; have := HlX.out; omega); replace k0 := kk.trans k0; clear kk; have kk := kp.block _ (Ea.blk_lt kW) (fun hu => by have h1 := HUI.out _ hu; have := HlN.out; have := HlX.out; omega); replace kW := kk.trans kW; clear kk; have kk := kp.block _ (Ea.blk_lt kI) (fun hu => by have h1 := HUI.out _ hu; have := HlN.out; have := HlX.out; omega); replace kI := kk.trans kI; clear kk; replace mW := mW.keep kp.size (fun x hx => kp.block x ((mW.use x hx).2) (fun hu => by have := (HUI.out _ hu).1; have := HLoW.out x hx; have := HlX.out; omega)); replace B0 := kp.below B0 (fun x hu => by have := (HUI.out _ hu).1; have := HlN.out; have := HlX.out; omega); clear kp mI; obtain ⟨KI, hKI⟩ : ∃ KI : Int, KI = 1 + (Em.kAt (Em.at_ FI) FI.length : Int) := ⟨_, rfl⟩; rw [← hKI]; have hKIn : ¬ (KI < 0) := (by omega); have HKe : Hid (KI = 1 + (Em.kAt (Em.at_ FI) FI.length : Int)) := hKI; clear hKI; obtain ⟨v0, v1⟩ := Pm.two kI; have t8 : True := trivial)
    | (go_at_call 44; clear t8; refine (Em.heldT_any 1 q' (by omega) _ gI _ FI.length (Em.at_ FI) _ hhI mMk (by omega) HKI.out).mono ?_; rw [← HKe.out]; rintro x wD ⟨rfl, hb⟩; clear v0 v1; replace mMk := Cp.wtF_below mMk hb; replace k0 := (hb.block _ (Ea.blk_lt k0)).trans k0; replace kW := (hb.block _ (Ea.blk_lt kW)).trans kW; replace kI := (hb.block _ (Ea.blk_lt kI)).trans kI; replace mW := mW.below hb; replace B0 := Rw.next B0 hb; clear hb; obtain ⟨p0, p1⟩ := Pm.two k0; have t9 : True := trivial)
    | (go_at_call 40; clear t9; refine (Ea.toT_any q0 _ _ _ _ Q _ (RD.out.below B0)).mono ?_; rintro x wE ⟨F2, g2, rfl, sF2, hb, mF2⟩; clear p0 p1; replace mMk := Cp.wtF_below mMk hb; replace k0 := (hb.block _ (Ea.blk_lt k0)).trans k0; replace kW := (hb.block _ (Ea.blk_lt kW)).trans kW; replace kI := (hb.block _ (Ea.blk_lt kI)).trans kI; replace mW := mW.below hb; replace B0 := Rw.next B0 hb; clear hb; have ta : True := trivial)
    | (go_at_call 55; clear ta; refine (Cp.touchI q0 i1 _ _ _ _ F2 _ mF2.rd q' L' m (by rw [sF2]; exact HR.out)).mono ?_; rintro x wG ⟨v2, FH, rfl, hot, sH, hb⟩; clear mF2; replace mMk := Cp.wtF_below mMk hb; have lFH : FH.length ≤ 400 := (by have e1 := congrArg List.length sH; simp only [List.length_map] at e1; have := HL4.out; omega); obtain ⟨aH, gH, cH, rfl, mH, _⟩ := hot.form (by omega); clear hot; replace k0 := (hb.block _ (Ea.blk_lt k0)).trans k0; replace kW := (hb.block _ (Ea.blk_lt kW)).trans kW; replace kI := (hb.block _ (Ea.blk_lt kI)).trans kI; replace mW := mW.below hb; replace B0 := Rw.next B0 hb; clear hb; obtain ⟨z0, z1⟩ := Pm.two kW; have ltW := Ea.blk_lt kW; have tb : True := trivial)
    | (go_at_call 41; clear tb; obtain ⟨W4, hW4⟩ : ∃ W4, W4 = wG.alloc (.cells #[.int .i64 q', .slice aH FH.length cH] 38) := ⟨_, rfl⟩; rw [← hW4]; have kH : W4.heap[wG.heap.size]? = some (.cells #[.int .i64 q', .slice aH FH.length cH] 38 (0, 0)) := (by subst hW4; exact Pl.at_new rfl); have hb : Below wG.heap.size wG W4 := (by subst hW4; exact Pl.below_alloc1 _ _); clear hW4; clear z0 z1 ltW; replace k0 := (hb.block _ (Ea.blk_lt k0)).trans k0; replace kW := (hb.block _ (Ea.blk_lt kW)).trans kW; replace kI := (hb.block _ (Ea.blk_lt kI)).trans kI; replace mW := mW.below hb; replace mH := mH.below hb; replace B0 := Rw.next B0 hb; replace mMk := Cp.wtF_below mMk hb; clear hb; refine (Ea.eqT_same q' _ _ _ _ _ _ _ _ FH FW _ mH.rd mW.rd (sH.trans sW.symm)).mono ?_; rintro x wH ⟨rfl, hb⟩; replace mMk := Cp.wtF_below mMk hb; replace k0 := (hb.block _ (Ea.blk_lt k0)).trans k0; replace kI := (hb.block _ (Ea.blk_lt kI)).trans kI; replace B0 := Rw.next B0 hb; clear hb; obtain ⟨v0, v1⟩ := Pm.two kI; have tc : True := trivial)
    | (go_at_call 44; clear tc; refine (Em.heldT_any 1 q' (by omega) _ gI _ FI.length (Em.at_ FI) _ hhI mMk (by omega) HKI.out).mono ?_; rw [← HKe.out]; rintro x wK ⟨rfl, hb⟩; replace B0 := Rw.next B0 hb))
  go_ret
  exact ⟨rfl, B0⟩

set_option maxRecDepth 100000 in
theorem lifted (os : Os) (started : os.Started) (H : Type) (enc : TypeId × Value → H) :
    ReturnsInHanded {} Try.checked os 12 .any (Rows.fnExactTouchSpec.pre6 enc Try.prog Try.f12 Rows.fnExactTouchRow.domain false) (Rows.fnExactTouchSpec.post enc Try.prog Try.f12 false true false false) := by
  refine returnsInHanded_of_change (C := Try.checked) own started (by kernel_rfl) Try.func12
    (ChangeSpec.witness6 (enc := enc) (C := Try.checked) false ⟨#[], #[.agg #[.int .i64 0, .slice none 0 0], .int .i64 0], []⟩ 8 (by kernel_rfl) (by kernel_rfl) (by kernel_rfl) (by kernel_rfl)) ?_
  intro W base args ds gs before hval0 hW hcnd _
  have hval : ∀ (j : Nat) t v, Try.f12.params[j]? = some t → args[j]? = some v → Value.okWide Try.prog W .any base t v := hval0
  have hW' := hW
  obtain ⟨p, q, hA0, hV, rfl, hfz, hnd⟩ := hW
  have hA : DataW.TrodAll enc Try.prog W 0 (fun _ => true) true Try.f12.params.toList args.toList ds p := hA0
  rw [Try.params12] at hA hval
  obtain ⟨v0, vs0, d0, ds0, p0, q0, hargs, rfl, rfl, h0, r0⟩ := trodAll_cons hA
  obtain ⟨v1, vs1, d1, ds1, p1, q1, rfl, rfl, rfl, h1, r1⟩ := trodAll_cons r0
  obtain ⟨rfl, rfl, rfl⟩ := trodAll_nil r1
  obtain rfl : args = #[v0, v1] := by cases args; simp_all
  obtain ⟨rfl, rfl⟩ := trodVars_none hV
  have k0 := h0
  have lt0 : ∀ x ∈ p0, x.block < W.heap.size := by obtain ⟨m, hm⟩ := k0; exact DataW.trod_lt m _ _ _ hm
  obtain ⟨q0, a0, c0, R0, rfl, w0⟩ := Ea.open_table (hval 0 65 v0 rfl rfl) h0
  obtain ⟨i1, rfl, rfl, rfl, w1⟩ := open_int Try.underlying3 (hval 1 3 v1 rfl rfl) h1
  clear hA0 hval0
  refine (walk q0 a0 c0 R0 i1 W w0).mono fun e W' ⟨he, bel⟩ => ?_
  subst he
  exact ⟨_, rfl, _, _, _, [], _, [], hW', trodAll_mk1 (shut_bool Try.underlying4 _), (trodAll_cons_mk (Below.trod laidOut (by kernel_rfl) (of_decide_eq_true (by kernel_rfl)) k0 bel lt0) (trodAll_cons_mk (shut_int Try.underlying3 w1) trodAll_mk0)), rfl, bel.frame _, fun h => by cases h⟩

theorem over : Rows.fnExactTouchRow.holds Try.pinned (OpenSpec.ofChange Rows.fnExactTouchSpec) :=
  OpenClaim.holds_of_wide 12 Try.f12 rfl rfl rfl rfl rfl rfl rfl ⟨rfl, rfl, rfl, rfl, rfl⟩ rfl rfl rfl rfl rfl (by kernel_rfl) Try.func12 (by kernel_rfl)
    (of_decide_eq_true (by kernel_rfl)) (by unfold Func.isWrapper; first | (rw [if_pos (by decide +kernel)]; kernel_rfl) | (rw [if_neg (by decide +kernel)]; exact ⟨rfl, rfl⟩))
    (fun os started H enc _ => lifted os started H enc)

theorem proved : Rows.FnExactTouchSaid := over
end Go.Proofs.Ytcbgnfjnjfaacaa.fnExactTouch

namespace Go.Proofs.Ytcbgnfjnjfaacaa
theorem FnExactTouch_holds : Rows.FnExactTouchSaid := fnExactTouch.proved
end Go.Proofs.Ytcbgnfjnjfaacaa
