/- FnExactRelCols: at every argument RelCols answers as the specification, every field; it writes into no argument, and its answer owns its memory. No condition. -/
import Derived.Test.YtfiebakgphcnbaaRows
import Derived.Test.YtfiebakgphcnbaaIl
import Derived.Test.YtfiebakgphcnbaaIm
import Derived.Test.YtfiebakgphcnbaaMd
import Derived.WalkKit
import Derived.ProofKit
import Derived.OpenShut
import Derived.ShutString
import Derived.ChangeOld
import Derived.Below
import Derived.Deep.RegionWith
import Derived.Deep.RegionHeld3
namespace Go.Proofs.Ytfiebakgphcnbaa.fnExactRelCols
open Go.ChangeShapes Go.WideShapes Go.ChangeAt Go.RowKit
set_option linter.unusedVariables false
set_option linter.unusedSimpArgs false

theorem own : ownKnob Try.prog.godebug = none := by kernel_rfl
theorem laidOut : laidOutB Try.prog = true := by kernel_rfl

set_option maxRecDepth 8000 in
set_option maxHeartbeats 16000000 in
theorem walk (q0 : Int) (a0 : Option Addr) (c0 : Nat) (S0 : List Rl.Raw) (a1 : Option Addr) (n1 c1 : Nat) (z1 : List Int) (w : World) (w0 : Rl.IsRel w a0 S0) (w1 : Rw.IsRow .i64 w a1 n1 c1 z1) :
    Calls Try.prog 4 #[.agg #[.int .i64 q0, .slice a0 S0.length c0], .slice a1 n1 c1] w fun e w' => e = .returned (.bool true) ∧ Below w.heap.size w w' := by
  by_cases hb1 : n1 > 1048576
  · have hz : (n1 : Int) > 1048576 := by omega
    go_enter Try.func4, Try.ntmps4
    go_wp2
    go_ret
    exact ⟨rfl, Pl.below_alloc1 _ _⟩
  obtain ⟨b1, o1, l1, hl1, r1⟩ := Hr.rd_of_isRow w1 (by omega)
  subst hl1
  have hz1 : ¬ (l1.length : Int) > 1048576 := by omega
  have HL1 : Hid (l1.length ≤ 1048576) := (by omega : l1.length ≤ 1048576)
  clear hb1 w1
  obtain ⟨W0, hW0⟩ : ∃ W0, W0 = w.alloc (.cells #[.int .i64 q0, .slice a0 S0.length c0] 24) := ⟨_, rfl⟩
  have B0 : Below w.heap.size w W0 := by subst hW0; exact Pl.below_alloc1 _ _
  have k0 : W0.heap[w.heap.size]? = some (.cells #[.int .i64 q0, .slice a0 S0.length c0] 24 (0, 0)) := by subst hW0; exact Pl.at_new rfl
  replace w0 := w0.below B0
  replace r1 := r1.below B0
  by_cases hbig : 1048576 < S0.length + Rl.totR S0 S0.length
  · have hZ := Rl.szL_big q0 a0 c0 1048576 S0 W0 w0 hbig (Nat.le_refl _)
    go_enter Try.func4, Try.ntmps4
    go_wp2_with (go_at_call 6; rw [← hW0]; clear hW0; refine hZ.mono ?_; rintro e v1 ⟨rfl, hb⟩)
    go_ret
    exact ⟨rfl, Rw.next B0 hb⟩
  obtain ⟨L, hL⟩ : ∃ L : Nat, S0.length + Rl.totR S0 S0.length + L = 1048576 := ⟨1048576 - (S0.length + Rl.totR S0 S0.length), by omega⟩
  have hZ0 := Rl.szL_at q0 a0 c0 1048576 L S0 W0 w0 hL (Nat.le_refl _)
  have hp : ¬ ((L : Int) < 0) := by omega
  obtain ⟨b0, o0, Q0, r0, sQ0, hQ0⟩ := Rl.rd_of_isRel w0 (by omega)
  have Hc0 : Hid (Rl.cnt Q0 Q0.length ≤ 1048576) := (by have q := Rl.cnt_raw sQ0 hQ0 Q0.length (Nat.le_refl _); rw [hQ0] at q ⊢; omega : Rl.cnt Q0 Q0.length ≤ 1048576)
  rw [← hQ0] at hZ0 hW0 k0 ⊢
  clear hQ0 sQ0 w0 hbig hL
  obtain ⟨ar, X, cc, hCA, hXl, hX6⟩ := Rl.CA_some q0 (Rl.said Q0) l1
  have HSm : Hid (X.length ≤ 300 ∧ ∀ l ∈ X, l.length ≤ 6) := ⟨hXl, hX6⟩
  clear hXl hX6
  have hS := fun a b off c P ca cb co cp W h h' (e : Rl.said P = Rl.said Q0) => Rl.colsS_any q0 a b off c P ca cb co cp l1 W h h' ar X cc (by rw [e]; exact hCA)
  have hI := fun a b off c P ca cb co cp W h h' (e : Rl.said P = Rl.said Q0) => Rl.colsI_any q0 a b off c P ca cb co cp l1 W h h' ar X cc (by rw [e]; exact hCA)
  have hI2 := fun a b off c P ca cb co cp W h h' (e : Rl.said P = Rl.said Q0) => (Rl.colsI_any q0 a b off c P ca cb co cp l1 W h h' ar X cc (by rw [e]; exact hCA)).mono (fun e w' h => Rl.resCS_of h (by have := HSm.out.1; omega))
  clear hCA
  have t1 : True := trivial
  go_enter Try.func4, Try.ntmps4
  go_wp2_with (first
    | (go_at_call 6; clear t1; rw [← hW0]; clear hW0; refine hZ0.mono ?_; rintro e v0 ⟨rfl, hb⟩; clear hZ0; replace k0 := (hb.block _ (Pl.blk_lt k0)).trans k0; replace r0 := r0.below hb; replace r1 := r1.below hb; replace B0 := Rw.next B0 hb; clear hb; obtain ⟨pa, pb⟩ := Pl.two k0; have l0 := Pl.blk_lt k0; have t2 : True := trivial)
    | (go_at_call 9; clear t2; clear pa pb l0; refine (Rl.toL_any _ _ _ _ _ _ _ r0).mono ?_; rintro e wa ⟨g0, X0, rfl, hb, m0, s0⟩; replace k0 := (hb.block _ (Pl.blk_lt k0)).trans k0; replace r0 := r0.below hb; replace r1 := r1.below hb; replace B0 := Rw.next B0 hb; clear hb; obtain ⟨pa, pb⟩ := Pl.two k0; have l0 := Pl.blk_lt k0; have t3 : True := trivial)
    | (go_at_call 16; clear t3; clear pa pb l0; refine (Hr.toIntS_any _ _ _ _ _ _ r1).mono ?_; rintro e wb ⟨rfl, hb, m1⟩; replace k0 := (hb.block _ (Pl.blk_lt k0)).trans k0; replace r0 := r0.below hb; replace r1 := r1.below hb; replace m0 := m0.below hb; replace B0 := Rw.next B0 hb; clear hb; obtain ⟨pa, pb⟩ := Pl.two k0; have l0 := Pl.blk_lt k0; have t4 : True := trivial)
    | (go_at_call 15; clear t4; clear pa pb l0; refine (hS _ _ _ _ _ _ _ _ _ _ m0.rd m1.rd s0).mono ?_; rintro e wc ⟨aW, gW, oW, cW, FW, rfl, mW, sW, hb, uW⟩; clear m0 m1 s0; replace k0 := (hb.block _ (Pl.blk_lt k0)).trans k0; replace r0 := r0.below hb; replace r1 := r1.below hb; replace B0 := Rw.next B0 hb; clear hb; obtain ⟨pa, pb⟩ := Pl.two k0; have l0 := Pl.blk_lt k0; have HSW : Hid (Rl.said FW = X) := sW; clear sW uW; have t5 : True := trivial)
    | (go_at_call 9; clear t5; clear pa pb l0; obtain ⟨V0, hV0⟩ : ∃ V0, V0 = wc.alloc (.cells #[.int .i64 ar, .slice aW FW.length cW] 31) := ⟨_, rfl⟩; rw [← hV0]; have kT : V0.heap[wc.heap.size]? = some (.cells #[.int .i64 ar, .slice aW FW.length cW] 31 (0, 0)) := (by subst hV0; exact Pl.at_new rfl); have hb : Below wc.heap.size wc V0 := (by subst hV0; exact Pl.below_alloc1 _ _); clear hV0; replace k0 := (hb.block _ (Pl.blk_lt k0)).trans k0; replace r0 := r0.below hb; replace r1 := r1.below hb; replace mW := mW.below hb; replace B0 := Rw.next B0 hb; clear hb; have HK0 : Hid (V0.heap[w.heap.size]? = some (.cells #[.int .i64 q0, .slice a0 Q0.length c0] 24 (0, 0))) := k0; have HKT : Hid (V0.heap[wc.heap.size]? = some (.cells #[.int .i64 ar, .slice aW FW.length cW] 31 (0, 0))) := kT; have HMW : Hid (Rl.Rd V0 aW gW oW FW) := mW; have HR0 : Hid (Rl.Rd V0 a0 b0 o0 Q0) := r0; have HR1 : Hid (Hr.Rd V0 a1 b1 o1 l1) := r1; have HBW : Hid (Below w.heap.size w V0) := B0; have BC : Below V0.heap.size V0 V0 := Below.refl _ _; clear k0 kT mW r0 r1 B0; refine (Rl.toL_any _ _ _ _ _ _ _ HR0.out).mono ?_; rintro e wx ⟨g0, X0, rfl, hb, m0, s0⟩; have n1 := hb.size; replace BC := Rw.next BC hb; clear hb; have t6 : True := trivial)
    | (go_at_call 16; clear t6; obtain ⟨W2, hW2⟩ : ∃ W2, W2 = wx.alloc (.cells #[.int .i64 q0, .slice (some ⟨g0, 0, none⟩) X0.length X0.length] 31) := ⟨_, rfl⟩; rw [← hW2]; have kx : W2.heap[wx.heap.size]? = some (.cells #[.int .i64 q0, .slice (some ⟨g0, 0, none⟩) X0.length X0.length] 31 (0, 0)) := (by subst hW2; exact Pl.at_new rfl); have hb : Below wx.heap.size wx W2 := (by subst hW2; exact Pl.below_alloc1 _ _); clear hW2; replace m0 := m0.below hb; replace BC := Rw.next BC hb; clear hb; have n2 := Pl.blk_lt kx; refine (Hr.toIntS_any _ _ _ _ _ _ (HR1.out.below BC)).mono ?_; rintro e wy ⟨rfl, hb, m1⟩; have n3 := m1.row.lt; replace kx := (hb.block _ (Pl.blk_lt kx)).trans kx; replace m0 := m0.below hb; replace BC := Rw.next BC hb; clear hb; have HN1 : Hid (V0.heap.size ≤ wx.heap.size ∧ wx.heap.size < W2.heap.size ∧ W2.heap.size < wy.heap.size) := ⟨n1, n2, n3⟩; clear n1 n2 n3; obtain ⟨xa, xb⟩ := Pl.two kx; have t7 : True := trivial)
    | (go_at_call 17; clear t7 xa xb; refine (hI _ _ _ _ _ _ _ _ _ _ m0.rd m1.rd s0).mono ?_; rintro e wz ⟨v5, FI, rfl, hot, sI, hb⟩; have n5 := hb.size; obtain ⟨lFI, cFI⟩ := Rl.small_said sI HSm.out; obtain ⟨aI, gI, cI, rfl, mI⟩ := hot.form (by omega); replace kx := (hb.block _ (Pl.blk_lt kx)).trans kx; replace m0 := m0.below hb; replace m1 := m1.below hb; replace BC := Rw.next BC hb; clear hb; have HN2 : Hid (wy.heap.size ≤ wz.heap.size) := n5; have HcF : Hid (1 + Rl.cnt FI FI.length * 2 ≤ 100000000000) := (by omega : 1 + Rl.cnt FI FI.length * 2 ≤ 100000000000); clear n5 hot cFI lFI; have kTc := (BC.block _ (Pl.blk_lt HKT.out)).trans HKT.out; obtain ⟨ta, tb⟩ := Pl.two kTc; have lkT := Pl.blk_lt kTc; have t8 : True := trivial)
    | (go_at_call 12; clear t8; clear kTc ta tb lkT; obtain ⟨W4, hW4⟩ : ∃ W4, W4 = wz.alloc (.cells #[.int .i64 ar, .slice aI FI.length cI] 31) := ⟨_, rfl⟩; rw [← hW4]; have kI : W4.heap[wz.heap.size]? = some (.cells #[.int .i64 ar, .slice aI FI.length cI] 31 (0, 0)) := (by subst hW4; exact Pl.at_new rfl); have hb : Below wz.heap.size wz W4 := (by subst hW4; exact Pl.below_alloc1 _ _); clear hW4; replace kx := (hb.block _ (Pl.blk_lt kx)).trans kx; replace m0 := m0.below hb; replace m1 := m1.below hb; replace mI := mI.below hb; replace BC := Rw.next BC hb; clear hb; refine (Rl.eqL_same _ _ _ _ _ _ _ _ _ FI FW _ mI.rd (HMW.out.below BC) (sI.trans HSW.out.symm)).mono ?_; rintro e w5 ⟨rfl, hb⟩; replace kx := (hb.block _ (Pl.blk_lt kx)).trans kx; replace kI := (hb.block _ (Pl.blk_lt kI)).trans kI; replace m0 := m0.below hb; replace m1 := m1.below hb; replace mI := mI.below hb; replace BC := Rw.next BC hb; clear hb; have k0c := (BC.block _ (Pl.blk_lt HK0.out)).trans HK0.out; obtain ⟨pa, pb⟩ := Pl.two k0c; have lk0 := Pl.blk_lt k0c; obtain ⟨xa, xb⟩ := Pl.two kx))
  go_region_held3 (fun w' => w'.cell? ⟨wx.heap.size, 0, none⟩ = some (.int .i64 q0) ∧ w'.cell? ⟨wx.heap.size, 1, none⟩ = some (.slice (some ⟨g0, 0, none⟩) X0.length X0.length) ∧ w'.cell? ⟨w.heap.size, 0, none⟩ = some (.int .i64 q0) ∧ w'.cell? ⟨w.heap.size, 1, none⟩ = some (.slice a0 Q0.length c0)) (go_keep) (first
    | (go_at_call 9; clear k0c pa pb lk0; clear xa xb; refine (Rl.toL_any _ _ _ _ _ _ _ (HR0.out.below (Rw.next BC ((Below.refl _ _).drew)))).mono ?_; rintro e w6 ⟨g2, X2, rfl, hb, m2, s2⟩; replace hb := Rw.next ((Below.refl _ _).drew) hb; replace kx := (hb.block _ (Pl.blk_lt kx)).trans kx; replace kI := (hb.block _ (Pl.blk_lt kI)).trans kI; replace m0 := m0.below hb; replace m1 := m1.below hb; replace mI := mI.below hb; replace BC := Rw.next BC hb; clear hb; have k0c := (BC.block _ (Pl.blk_lt HK0.out)).trans HK0.out; obtain ⟨pa, pb⟩ := Pl.two k0c; have lk0 := Pl.blk_lt k0c; obtain ⟨xa, xb⟩ := Pl.two kx)
    | (go_at_call 12; clear k0c pa pb lk0; clear xa xb; refine (Rl.eqL_same _ _ _ _ _ _ _ _ _ X0 X2 _ m0.rd m2.rd (s0.trans s2.symm)).mono ?_; rintro e w7 ⟨rfl, hb⟩; clear m2 s2; replace kx := (hb.block _ (Pl.blk_lt kx)).trans kx; replace kI := (hb.block _ (Pl.blk_lt kI)).trans kI; replace m0 := m0.below hb; replace m1 := m1.below hb; replace mI := mI.below hb; replace BC := Rw.next BC hb; clear hb; have k0c := (BC.block _ (Pl.blk_lt HK0.out)).trans HK0.out; obtain ⟨pa, pb⟩ := Pl.two k0c; have lk0 := Pl.blk_lt k0c; obtain ⟨xa, xb⟩ := Pl.two kx))
  clear k0c pa pb lk0
  clear xa xb
  have HU0 : Hid (∀ z, Rl.UseQ X0 z → V0.heap.size ≤ z ∧ z < wx.heap.size) := fun z ⟨r, hr, h0, e⟩ => by obtain ⟨_, q1, q2, _⟩ := m0.each r hr h0; omega
  have HUI : Hid (∀ z, Rl.UseQ FI z → wy.heap.size ≤ z ∧ z < wz.heap.size) := fun z ⟨r, hr, h0, e⟩ => by obtain ⟨_, q1, q2, _⟩ := mI.each r hr h0; omega
  have HcX : Hid (1 + Rl.cnt X0 X0.length * 2 ≤ 10000000000) := (by have e0 := Rl.cnt_said s0 X0.length; have l0 : X0.length = Q0.length := (by rw [← Rl.said_len, ← Rl.said_len, s0]); rw [l0] at e0 ⊢; have h0 := Hc0.out; omega : 1 + Rl.cnt X0 X0.length * 2 ≤ 10000000000)
  obtain ⟨Ka, hKa⟩ : ∃ Ka : Nat, Ka = 1 + Rl.cnt X0 X0.length * 2 := ⟨_, rfl⟩
  have HKa : Hid (Ka = 1 + Rl.cnt X0 X0.length * 2) := hKa
  have HKl : Hid (Ka ≤ 10000000000) := (by rw [hKa]; exact HcX.out : Ka ≤ 10000000000)
  obtain ⟨Kb, hKb⟩ : ∃ Kb : Nat, (Ka : Int) + (l1.length : Int) = (Kb : Int) := ⟨Ka + l1.length, by omega⟩
  have HKb : Hid ((Ka : Int) + (l1.length : Int) = (Kb : Int)) := hKb
  have hKbn : ¬ ((Kb : Int) < 0) := by omega
  obtain ⟨Kc, hKc⟩ : ∃ Kc : Nat, Kc = 1 + Rl.cnt FI FI.length * 2 := ⟨_, rfl⟩
  have HKc : Hid (Kc = 1 + Rl.cnt FI FI.length * 2) := hKc
  have hKcn : ¬ ((Kc : Int) < 0) := by omega
  clear hKa hKb hKc
  have t1 : True := trivial
  go_wp2_with (first
    | (go_at_call 16; clear t1; refine (Hr.toIntS_any _ _ _ _ _ _ (HR1.out.below BC)).mono ?_; rintro e w8 ⟨rfl, hb, m2⟩; replace kx := (hb.block _ (Pl.blk_lt kx)).trans kx; replace kI := (hb.block _ (Pl.blk_lt kI)).trans kI; replace m0 := m0.below hb; replace m1 := m1.below hb; replace mI := mI.below hb; replace BC := Rw.next BC hb; clear hb; have t2 : True := trivial)
    | (go_at_call 18; clear t2; refine (Hr.eqIntS_any _ _ _ _ _ _ _ _ l1 l1 _ m1.rd m2.rd).mono ?_; rw [decide_eq_true rfl]; rintro e w9 ⟨rfl, hb⟩; clear m2; replace kx := (hb.block _ (Pl.blk_lt kx)).trans kx; replace kI := (hb.block _ (Pl.blk_lt kI)).trans kI; replace m0 := m0.below hb; replace m1 := m1.below hb; replace mI := mI.below hb; replace BC := Rw.next BC hb; clear hb; obtain ⟨xa, xb⟩ := Pl.two kx; have t5 : True := trivial)
    | (go_at_call 13; clear t5 xa xb; refine (Rl.markL_any 1 (by omega) q0 _ g0 _ V0.heap.size wx.heap.size X0 _ m0 (Nat.le_trans HcX.out (by omega))).mono ?_; rw [← HKa.out]; rintro e wA ⟨rfl, kp, _⟩; have kk := kp.block _ (Pl.blk_lt kI) (fun hu => by have q := HU0.out _ hu; have hN1 := HN1.out; have hN2 := HN2.out; omega); replace kI := kk.trans kI; clear kk; replace mI := mI.keep (fun z hz hz2 => kp.block z hz2 (fun hu => by have q := HU0.out _ hu; have hN1 := HN1.out; have hN2 := HN2.out; omega)); replace m1 : Hr.Mine wA W2.heap.size l1 := ⟨m1.row.of_block (kp.block _ m1.row.lt (fun hu => by have q := HU0.out _ hu; have hN1 := HN1.out; have hN2 := HN2.out; omega)), m1.size⟩; replace BC := kp.below BC BC.size (fun z hu => by have q := HU0.out _ hu; omega); clear kp m0 kx; have t6 : True := trivial)
    | (go_at_call 19; clear t6; refine (Rl.markk_any Ka _ _ _ l1 _ (Hr.mine_wt m1) (by omega) (by have := HKl.out; omega)).mono ?_; rw [HKb.out]; rintro e wB ⟨rfl, kp⟩; have kk := kp.block _ (Pl.blk_lt kI) (fun hu => by simp only [Option.some.injEq] at hu; have hN1 := HN1.out; have hN2 := HN2.out; omega); replace kI := kk.trans kI; clear kk; replace mI := mI.keep (fun z hz hz2 => kp.block z hz2 (fun hu => by simp only [Option.some.injEq] at hu; have hN1 := HN1.out; have hN2 := HN2.out; omega)); replace BC := Mk.Only.below kp BC BC.size (by have hN1 := HN1.out; have hN2 := HN2.out; omega); clear kp m1; have kTc := (BC.block _ (Pl.blk_lt HKT.out)).trans HKT.out; obtain ⟨ta, tb⟩ := Pl.two kTc; have lkT := Pl.blk_lt kTc; obtain ⟨ia, ib⟩ := Pl.two kI; have t7 : True := trivial)
    | (go_at_call 12; clear t7; clear kTc ta tb lkT; clear ia ib; refine (Rl.eqL_same _ _ _ _ _ _ _ _ _ FI FW _ mI.rd (HMW.out.below BC) (sI.trans HSW.out.symm)).mono ?_; rintro e wC ⟨rfl, hb⟩; replace kI := (hb.block _ (Pl.blk_lt kI)).trans kI; replace mI := mI.below hb; replace BC := Rw.next BC hb; clear hb; obtain ⟨ia, ib⟩ := Pl.two kI; have t8 : True := trivial)
    | (go_at_call 13; clear t8 ia ib; refine (Rl.markL_any 1 (by omega) ar _ gI _ wy.heap.size wz.heap.size FI _ mI HcF.out).mono ?_; rw [← HKc.out]; rintro e wD ⟨rfl, kp, mk⟩; have kk := kp.block _ (Pl.blk_lt kI) (fun hu => by have q := HUI.out _ hu; have hN1 := HN1.out; have hN2 := HN2.out; omega); replace kI := kk.trans kI; clear kk; replace BC := kp.below BC BC.size (fun z hu => by have q := HUI.out _ hu; have hN1 := HN1.out; have hN2 := HN2.out; omega); clear kp mI; obtain ⟨ia, ib⟩ := Pl.two kI; have t9 : True := trivial)
    | (go_at_call 14; clear t9 ia ib; refine (Rl.heldL_any 1 (by omega) ar _ gI _ FI _ mk HcF.out).mono ?_; rw [← HKc.out]; rintro e wE ⟨rfl, hb⟩; replace kI := (hb.block _ (Pl.blk_lt kI)).trans kI; replace mk := mk.below hb; replace BC := Rw.next BC hb; clear hb; have k0c := (BC.block _ (Pl.blk_lt HK0.out)).trans HK0.out; obtain ⟨pa, pb⟩ := Pl.two k0c; have lk0 := Pl.blk_lt k0c; have u1 : True := trivial)
    | (go_at_call 9; clear u1; clear k0c pa pb lk0; refine (Rl.toL_any _ _ _ _ _ _ _ (HR0.out.below BC)).mono ?_; rintro e wF ⟨g3, X3, rfl, hb, m3, s3⟩; replace kI := (hb.block _ (Pl.blk_lt kI)).trans kI; replace mk := mk.below hb; replace BC := Rw.next BC hb; clear hb; have u2 : True := trivial)
    | (go_at_call 16; clear u2; refine (Hr.toIntS_any _ _ _ _ _ _ (HR1.out.below BC)).mono ?_; rintro e wG ⟨rfl, hb, m4⟩; replace kI := (hb.block _ (Pl.blk_lt kI)).trans kI; replace mk := mk.below hb; replace m3 := m3.below hb; replace BC := Rw.next BC hb; clear hb; have u3 : True := trivial)
    | (go_at_call 17; clear u3; refine (hI2 _ _ _ _ _ _ _ _ _ _ m3.rd m4.rd s3).mono ?_; rintro e wH ⟨aH, gH, oH, cH, FH, rfl, mH, sH, hb, uH⟩; clear m3 m4 s3 uH; replace kI := (hb.block _ (Pl.blk_lt kI)).trans kI; replace mk := mk.below hb; replace BC := Rw.next BC hb; clear hb; have kTc := (BC.block _ (Pl.blk_lt HKT.out)).trans HKT.out; obtain ⟨ta, tb⟩ := Pl.two kTc; have lkT := Pl.blk_lt kTc; have u4 : True := trivial)
    | (go_at_call 12; clear u4; clear kTc ta tb lkT; obtain ⟨W9, hW9⟩ : ∃ W9, W9 = wH.alloc (.cells #[.int .i64 ar, .slice aH FH.length cH] 31) := ⟨_, rfl⟩; rw [← hW9]; have kH : W9.heap[wH.heap.size]? = some (.cells #[.int .i64 ar, .slice aH FH.length cH] 31 (0, 0)) := (by subst hW9; exact Pl.at_new rfl); have hb : Below wH.heap.size wH W9 := (by subst hW9; exact Pl.below_alloc1 _ _); clear hW9; replace kI := (hb.block _ (Pl.blk_lt kI)).trans kI; replace mk := mk.below hb; replace mH := mH.below hb; replace BC := Rw.next BC hb; clear hb; refine (Rl.eqL_same _ _ _ _ _ _ _ _ _ FH FW _ mH (HMW.out.below BC) (sH.trans HSW.out.symm)).mono ?_; rintro e wJ ⟨rfl, hb⟩; replace kI := (hb.block _ (Pl.blk_lt kI)).trans kI; replace mk := mk.below hb; replace BC := Rw.next BC hb; clear hb; obtain ⟨ia, ib⟩ := Pl.two kI; have u5 : True := trivial)
    | (go_at_call 14; clear u5 ia ib; refine (Rl.heldL_any 1 (by omega) ar _ gI _ FI _ mk HcF.out).mono ?_; rw [← HKc.out]; rintro e wK ⟨rfl, hb⟩; replace BC := Rw.next BC hb))
  go_ret
  exact ⟨rfl, Rw.next HBW.out BC⟩

set_option maxRecDepth 100000 in
theorem lifted (os : Os) (started : os.Started) (H : Type) (enc : TypeId × Value → H) :
    ReturnsInHanded {} Try.checked os 4 .any (Rows.fnExactRelColsSpec.pre6 enc Try.prog Try.f4 Rows.fnExactRelColsRow.domain false) (Rows.fnExactRelColsSpec.post enc Try.prog Try.f4 false true false false) := by
  refine returnsInHanded_of_change (C := Try.checked) own started (by kernel_rfl) Try.func4
    (ChangeSpec.witness6 (enc := enc) (C := Try.checked) false ⟨#[], #[.agg #[.int .i64 0, .slice none 0 0], .slice none 0 0], []⟩ 8 (by kernel_rfl) (by kernel_rfl) (by kernel_rfl) (by kernel_rfl)) ?_
  intro W base args ds gs before hval0 hW hcnd _
  have hval : ∀ (j : Nat) t v, Try.f4.params[j]? = some t → args[j]? = some v → Value.okWide Try.prog W .any base t v := hval0
  have hW' := hW
  obtain ⟨p, q, hA0, hV, rfl, hfz, hnd⟩ := hW
  have hA : DataW.TrodAll enc Try.prog W 0 (fun _ => true) true Try.f4.params.toList args.toList ds p := hA0
  rw [Try.params4] at hA hval
  obtain ⟨v0, vs0, d0, ds0, p0, q0, hargs, rfl, rfl, h0, r0⟩ := trodAll_cons hA
  obtain ⟨v1, vs1, d1, ds1, p1, q1, rfl, rfl, rfl, h1, r1⟩ := trodAll_cons r0
  obtain ⟨rfl, rfl, rfl⟩ := trodAll_nil r1
  obtain rfl : args = #[v0, v1] := by cases args; simp_all
  obtain ⟨rfl, rfl⟩ := trodVars_none hV
  have k0 := h0
  have lt0 : ∀ x ∈ p0, x.block < W.heap.size := by obtain ⟨m, hm⟩ := k0; exact DataW.trod_lt m _ _ _ hm
  obtain ⟨q0, a0, c0, S0, rfl, w0⟩ := Rl.open_rel (hval 0 24 v0 rfl rfl) h0
  have k1 := h1
  have lt1 : ∀ x ∈ p1, x.block < W.heap.size := by obtain ⟨m, hm⟩ := k1; exact DataW.trod_lt m _ _ _ hm
  obtain ⟨a1, n1, c1, rfl⟩ := okWide_slice Try.underlying40 (hval 1 40 v1 rfl rfl)
  obtain ⟨z1, w1⟩ : ∃ zs, Rw.IsRow .i64 W a1 n1 c1 zs := by
    obtain ⟨fuel, hf⟩ := h1
    rcases open_ints Try.underlying40 Try.underlying3 (by kernel_rfl) hf with ⟨hcs, _⟩ | ⟨x, l, c, zs, hcs, _, hl, hm, hz, _, hcell, hwz⟩
    · simp [Value.cells] at hcs
      obtain ⟨rfl, rfl, rfl⟩ := hcs
      exact ⟨[], .inl ⟨rfl, rfl, rfl, rfl⟩⟩
    · simp [Value.cells] at hcs
      obtain ⟨rfl, rfl, rfl⟩ := hcs
      exact ⟨zs, .inr ⟨_, rfl, hl, hm, by simpa using hz, hcell, hwz⟩⟩
  clear hA0 hval0
  refine (walk q0 a0 c0 S0 a1 n1 c1 z1 W w0 w1).mono fun e W' ⟨he, bel⟩ => ?_
  subst he
  exact ⟨_, rfl, _, _, _, [], _, [], hW', trodAll_mk1 (shut_bool Try.underlying4 _), (trodAll_cons_mk (Below.trod laidOut (by kernel_rfl) (of_decide_eq_true (by kernel_rfl)) k0 bel lt0) (trodAll_cons_mk (Below.trod laidOut (by kernel_rfl) (of_decide_eq_true (by kernel_rfl)) k1 bel lt1) trodAll_mk0)), rfl, bel.frame _, fun h => by cases h⟩

theorem over : Rows.fnExactRelColsRow.holds Try.pinned (OpenSpec.ofChange Rows.fnExactRelColsSpec) :=
  OpenClaim.holds_of_wide 4 Try.f4 rfl rfl rfl rfl rfl rfl rfl ⟨rfl, rfl, rfl, rfl, rfl⟩ rfl rfl rfl rfl rfl (by kernel_rfl) Try.func4 (by kernel_rfl)
    (of_decide_eq_true (by kernel_rfl)) (by unfold Func.isWrapper; first | (rw [if_pos (by decide +kernel)]; kernel_rfl) | (rw [if_neg (by decide +kernel)]; exact ⟨rfl, rfl⟩))
    (fun os started H enc _ => lifted os started H enc)

theorem proved : Rows.FnExactRelColsSaid := over
end Go.Proofs.Ytfiebakgphcnbaa.fnExactRelCols

namespace Go.Proofs.Ytfiebakgphcnbaa
theorem FnExactRelCols_holds : Rows.FnExactRelColsSaid := fnExactRelCols.proved
end Go.Proofs.Ytfiebakgphcnbaa
