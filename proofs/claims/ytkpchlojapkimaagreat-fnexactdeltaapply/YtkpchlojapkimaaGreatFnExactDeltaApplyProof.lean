/- At every store and change the program and the specification hand back the same store and verdict; the answer owns its memory, and the arguments read as before; no condition. -/
import Derived.Test.YtkpchlojapkimaaGreatRows
import Derived.Test.YtkpchlojapkimaaGreatPad
import Derived.Test.YtkpchlojapkimaaGreatPae
import Derived.Test.YtkpchlojapkimaaGreatPac
import Derived.Test.YtkpchlojapkimaaGreatPaf
import Derived.WalkKit
import Derived.ProofKit
import Derived.OpenShut
import Derived.ShutString
import Derived.ChangeOld
import Derived.Below
import Derived.Deep.RegionWith
import Derived.Deep.RegionHeld3
namespace Go.Proofs.YtkpchlojapkimaaGreat.fnExactDeltaApply
open Go.ChangeShapes Go.WideShapes Go.ChangeAt Go.RowKit
open Go.ChangeMaps (open_string shut_string)
set_option linter.unusedVariables false
set_option linter.unusedSimpArgs false

theorem own : ownKnob Tryz.prog.godebug = none := by kernel_rfl
theorem laidOut : laidOutB Tryz.prog = true := by kernel_rfl

/-- The answer lies in its box. -/
theorem fin1 {wc : World} {T LO hi gW cW : Nat} {aW : Option Addr} {FW : List St.Nm} {x0 : Value} (r : St.Own wc LO hi aW gW FW) (k : wc.heap[T]? = some (.cells #[x0] 25 (0, 0))) (hT : T < LO) :
    (wc.setCell ⟨T, 0, none⟩ (.slice aW FW.length cW)).heap[T]? = some (.cells #[.slice aW FW.length cW] 25 (0, 0)) ∧ St.Rd (wc.setCell ⟨T, 0, none⟩ (.slice aW FW.length cW)) aW gW 0 FW :=
  ⟨Ch.one_set k, (r.set hT).rd⟩
theorem box {w : World} {cs : Array Value} {t : TypeId} : (w.alloc (.cells cs t)).heap[w.heap.size]? = some (.cells cs t (0, 0)) := Pl.at_new rfl

set_option maxRecDepth 8000 in
set_option maxHeartbeats 16000000 in
theorem walk (a0 : Option Addr) (c0 : Nat) (T0 : List St.Raw) (a1 : Option Addr) (c1 : Nat) (T1 : List Ch.Raw) (w : World) (w0 : St.IsSt w a0 T0) (w1 : Ch.IsDl w a1 T1) :
    Calls Tryz.prog 6 #[.agg #[.slice a0 T0.length c0], .agg #[.slice a1 T1.length c1]] w fun e w' => e = .returned (.bool true) ∧ Below w.heap.size w w' := by
  obtain ⟨W0, hW0⟩ : ∃ W0, W0 = ((w.alloc (.cells #[.slice a0 T0.length c0] 44)).alloc (.cells #[.slice a1 T1.length c1] 47)) := ⟨_, rfl⟩
  have B0 : Below w.heap.size w W0 := by subst hW0; exact Pl.below_alloc2 _ _ _
  have k0 : W0.heap[w.heap.size]? = some (.cells #[.slice a0 T0.length c0] 44 (0, 0)) := by subst hW0; rw [Pl.at_old (by simp), Pl.at_new rfl]
  replace w0 := w0.below B0
  have k1 : W0.heap[w.heap.size + 1]? = some (.cells #[.slice a1 T1.length c1] 47 (0, 0)) := by subst hW0; exact Pl.at_new (by simp)
  replace w1 := w1.below B0
  have t1 : True := trivial
  by_cases hbig : 1048576 < T0.length + St.totN T0 T0.length
  · have hY := St.szSt_big a0 c0 1048576 T0 W0 w0 hbig (Nat.le_refl _)
    go_enter Tryz.func6, Tryz.ntmps6
    go_wp2_with (first
      | (go_at_call 17; clear t1; rw [← hW0]; clear hW0; refine (hY).mono ?_; rintro e v0 ⟨rfl, hb⟩))
    go_ret
    exact ⟨rfl, Rw.next B0 hb⟩
  obtain ⟨L0, hL⟩ : ∃ L : Nat, T0.length + St.totN T0 T0.length + L = 1048576 := ⟨1048576 - (T0.length + St.totN T0 T0.length), by omega⟩
  have hZ0 := St.szSt_at a0 c0 1048576 L0 T0 W0 w0 hL (Nat.le_refl _)
  have hp0 : ¬ ((L0 : Int) < 0) := by omega
  have hLl0 : L0 ≤ 1048576 := by omega
  obtain ⟨b0, o0, Q0, r0, hQ0, hQE0⟩ := St.rd_of_isSt w0 (by omega)
  have Hc0 : Hid (St.kN Q0 1 Q0.length ≤ 10000000) := (by have q := St.kN_raw hQ0 hQE0 Q0.length (Nat.le_refl _); rw [hQ0] at q ⊢; omega : St.kN Q0 1 Q0.length ≤ 10000000)
  rw [← hQ0] at hZ0 hW0 k0 ⊢
  clear hQ0 hQE0 hbig hL
  by_cases hbig : L0 < T1.length + Ch.totC T1 T1.length
  · have hY := fun W h => Ch.szDl_big a1 c1 L0 T1 W h hbig hLl0
    go_enter Tryz.func6, Tryz.ntmps6
    go_wp2_with (first
      | (go_at_call 17; clear t1; rw [← hW0]; clear hW0; refine (hZ0).mono ?_; rintro e v0 ⟨rfl, hb⟩; replace B0 := Rw.next B0 hb; replace k1 := (hb.block _ (Pl.blk_lt k1)).trans k1; replace w1 := w1.below hb; have pa1 := Pl.one k1; have t2 : True := trivial)
      | (go_at_call 18; clear t2; refine (hY _ w1).mono ?_; rintro e v1 ⟨rfl, hb⟩))
    go_ret
    exact ⟨rfl, Rw.next B0 hb⟩
  obtain ⟨L1, hL⟩ : ∃ L : Nat, T1.length + Ch.totC T1 T1.length + L = L0 := ⟨L0 - (T1.length + Ch.totC T1 T1.length), by omega⟩
  have hZ1 := fun W h => Ch.szDl_at a1 c1 L0 L1 T1 W h hL hLl0
  have hp1 : ¬ ((L1 : Int) < 0) := by omega
  have hLl1 : L1 ≤ 1048576 := by omega
  obtain ⟨b1, o1, Q1, r1, hQ1, hQE1⟩ := Ch.rd_of_isDl w1 (by omega)
  have Hc1 : Hid (Ch.kC Q1 1 Q1.length ≤ 10000000) := (by have q := Ch.kC_raw hQ1 hQE1 Q1.length (Nat.le_refl _); rw [hQ1] at q ⊢; omega : Ch.kC Q1 1 Q1.length ≤ 10000000)
  rw [← hQ1] at hZ1 hW0 k1 ⊢
  clear hQ1 hQE1 hbig hL
  clear hLl0 hLl1
  obtain ⟨M, cb, hCA, hMl, hM1⟩ := Ch.AA_some (St.told Q0) (Ch.told Q1)
  have HSl : Hid (∀ F : List St.Nm, St.told F = M → F.length ≤ 4194304) := fun F h => by rw [← St.told_len, h]; omega
  have HKM : Hid (∀ F : List St.Nm, St.told F = M → St.kN F 1 F.length ≤ 10000000) := fun F h => Mp.few_marks h hMl hM1
  clear hMl hM1
  have hS := fun a b off c X a' b' off' c' Y W => fun h h' (e : St.told X = St.told Q0) (e' : Ch.told Y = Ch.told Q1) => Ch.applyS_any a b off c X a' b' off' c' Y W h h' M cb (by rw [e, e']; exact hCA)
  have hI := fun a b off c X a' b' off' c' Y W => fun h r h' r' (e : St.told X = St.told Q0) (e' : Ch.told Y = Ch.told Q1) => Ch.applyI_any a b off c X a' b' off' c' Y W h r h' r' M cb (by rw [e, e']; exact hCA)
  clear hCA
  go_enter Tryz.func6, Tryz.ntmps6
  go_wp2_with (first
    | (go_at_call 17; clear t1; rw [← hW0]; clear hW0; refine (hZ0).mono ?_; rintro e v0 ⟨rfl, hb⟩; clear hZ0 w0; replace w1 := w1.below hb; replace k0 := (hb.block _ (Pl.blk_lt k0)).trans k0; replace k1 := (hb.block _ (Pl.blk_lt k1)).trans k1; replace r0 := r0.below hb; replace r1 := r1.below hb; replace B0 := Rw.next B0 hb; clear hb; have pa0 := Pl.one k0; have pa1 := Pl.one k1; have t2 : True := trivial)
    | (go_at_call 18; clear t2; clear pa0 pa1; refine (hZ1 _ w1).mono ?_; rintro e v1 ⟨rfl, hb⟩; clear hZ1 w1; replace k0 := (hb.block _ (Pl.blk_lt k0)).trans k0; replace k1 := (hb.block _ (Pl.blk_lt k1)).trans k1; replace r0 := r0.below hb; replace r1 := r1.below hb; replace B0 := Rw.next B0 hb; clear hb; have pa0 := Pl.one k0; have pa1 := Pl.one k1; have t3 : True := trivial))
  have t1 : True := trivial
  have BW : Below v1.heap.size v1 v1 := Below.refl _ _
  have HKa0 : Hid (v1.heap[w.heap.size]? = some (.cells #[.slice a0 Q0.length c0] 44 (0, 0))) := k0
  have HR0 : Hid (St.Rd v1 a0 b0 o0 Q0) := r0
  have HKa1 : Hid (v1.heap[w.heap.size + 1]? = some (.cells #[.slice a1 Q1.length c1] 47 (0, 0))) := k1
  have HR1 : Hid (Ch.Rd v1 a1 b1 o1 Q1) := r1
  have HB0 : Hid (Below w.heap.size w v1) := B0
  go_cut [6, 7] from 17 (fun s6 s7 wx => ∃ (T : Nat) (aW : Option Addr) (gW cW : Nat) (FW : List St.Nm), s6 = .pointer (some ⟨T, 0, none⟩) ∧ s7 = .bool cb ∧ wx.heap[T]? = some (.cells #[.slice aW FW.length cW] 25 (0, 0)) ∧ St.Rd wx aW gW 0 FW ∧ St.told FW = M ∧ Below v1.heap.size v1 wx)
  case first =>
      go_region_held3 (fun w' => w'.cell? ⟨w.heap.size, 0, none⟩ = some (.slice a0 Q0.length c0) ∧ w'.cell? ⟨w.heap.size + 1, 0, none⟩ = some (.slice a1 Q1.length c1)) (go_keep) (first
        | (go_at_call 20; clear pa0 pa1; clear t1; have kB1 := kB; clear kB1; have hb : Below v1.heap.size v1 v1.drew := (Below.refl _ _).drew; replace k0 := (hb.block _ (Pl.blk_lt k0)).trans k0; replace k1 := (hb.block _ (Pl.blk_lt k1)).trans k1; replace r0 := r0.below hb; replace r1 := r1.below hb; replace BW := Rw.next BW hb; clear hb; refine (St.toSt_room _ _ _ _ _ _ r0).mono ?_; rintro e wa ⟨g0, X0, rfl, hb, m0, s0, rm0⟩; replace k0 := (hb.block _ (Pl.blk_lt k0)).trans k0; replace k1 := (hb.block _ (Pl.blk_lt k1)).trans k1; replace kB := (hb.block _ (Pl.blk_lt kB)).trans kB; replace r0 := r0.below hb; replace r1 := r1.below hb; replace BW := Rw.next BW hb; clear hb; have t2 : True := trivial; have pa0 := Pl.one k0; have pa1 := Pl.one k1)
        | (go_at_call 20; clear pa0 pa1; clear t1; have hb : Below v1.heap.size v1 v1.drew := (Below.refl _ _).drew; replace k0 := (hb.block _ (Pl.blk_lt k0)).trans k0; replace k1 := (hb.block _ (Pl.blk_lt k1)).trans k1; replace r0 := r0.below hb; replace r1 := r1.below hb; replace BW := Rw.next BW hb; clear hb; refine (St.toSt_room _ _ _ _ _ _ r0).mono ?_; rintro e wa ⟨g0, X0, rfl, hb, m0, s0, rm0⟩; replace k0 := (hb.block _ (Pl.blk_lt k0)).trans k0; replace k1 := (hb.block _ (Pl.blk_lt k1)).trans k1; replace r0 := r0.below hb; replace r1 := r1.below hb; replace BW := Rw.next BW hb; clear hb; have t2 : True := trivial; have pa0 := Pl.one k0; have pa1 := Pl.one k1)
        | (go_at_call 20; clear pa0 pa1; clear t1; have hb : Below v1.heap.size v1 v1.drew := (Below.refl _ _).drew; replace k0 := (hb.block _ (Pl.blk_lt k0)).trans k0; replace k1 := (hb.block _ (Pl.blk_lt k1)).trans k1; replace r0 := r0.below hb; replace r1 := r1.below hb; replace BW := Rw.next BW hb; clear hb; have xW := BW.size; have hb := Pl.below_alloc1 (v1.drew) (.cells #[.slice none 0 0] 25); have xn0 : (v1).heap.size ≠ w.heap.size := Nat.ne_of_gt (Pl.blk_lt k0); have xm0 := xn0.symm; have xn1 : (v1).heap.size ≠ w.heap.size + 1 := Nat.ne_of_gt (Pl.blk_lt k1); have xm1 := xn1.symm; replace k0 := (hb.block _ (Pl.blk_lt k0)).trans k0; replace k1 := (hb.block _ (Pl.blk_lt k1)).trans k1; replace r0 := r0.below hb; replace r1 := r1.below hb; replace BW := Rw.next BW hb; have kB : ((v1.drew).alloc (.cells #[.slice none 0 0] 25)).heap[v1.heap.size]? = some (.cells #[.slice none 0 0] 25 (0, 0)) := Pl.at_new rfl; clear hb; refine (St.toSt_room _ _ _ _ _ _ r0).mono ?_; rintro e wa ⟨g0, X0, rfl, hb, m0, s0, rm0⟩; replace k0 := (hb.block _ (Pl.blk_lt k0)).trans k0; replace k1 := (hb.block _ (Pl.blk_lt k1)).trans k1; replace kB := (hb.block _ (Pl.blk_lt kB)).trans kB; replace r0 := r0.below hb; replace r1 := r1.below hb; replace BW := Rw.next BW hb; clear hb; have t2 : True := trivial; have pa0 := Pl.one k0; have pa1 := Pl.one k1)
        | (go_at_call 21; clear pa0 pa1; clear t2; have kB1 := kB; clear kB1; refine (Ch.toDl_any _ _ _ _ _ _ r1).mono ?_; rintro e wb ⟨g1, X1, rfl, hb, m1, s1, rm1⟩; replace k0 := (hb.block _ (Pl.blk_lt k0)).trans k0; replace k1 := (hb.block _ (Pl.blk_lt k1)).trans k1; replace kB := (hb.block _ (Pl.blk_lt kB)).trans kB; replace r0 := r0.below hb; replace r1 := r1.below hb; replace m0 := m0.below hb; replace BW := Rw.next BW hb; clear hb; have t3 : True := trivial; have pa0 := Pl.one k0; have pa1 := Pl.one k1)
        | (go_at_call 21; clear pa0 pa1; clear t2; refine (Ch.toDl_any _ _ _ _ _ _ r1).mono ?_; rintro e wb ⟨g1, X1, rfl, hb, m1, s1, rm1⟩; replace k0 := (hb.block _ (Pl.blk_lt k0)).trans k0; replace k1 := (hb.block _ (Pl.blk_lt k1)).trans k1; replace r0 := r0.below hb; replace r1 := r1.below hb; replace m0 := m0.below hb; replace BW := Rw.next BW hb; clear hb; have t3 : True := trivial; have pa0 := Pl.one k0; have pa1 := Pl.one k1)
        | (go_at_call 21; clear pa0 pa1; clear t2; have xW := BW.size; have hb := Pl.below_alloc1 (wa) (.cells #[.slice none 0 0] 25); have xn0 : (wa).heap.size ≠ w.heap.size := Nat.ne_of_gt (Pl.blk_lt k0); have xm0 := xn0.symm; have xn1 : (wa).heap.size ≠ w.heap.size + 1 := Nat.ne_of_gt (Pl.blk_lt k1); have xm1 := xn1.symm; replace k0 := (hb.block _ (Pl.blk_lt k0)).trans k0; replace k1 := (hb.block _ (Pl.blk_lt k1)).trans k1; replace r0 := r0.below hb; replace r1 := r1.below hb; replace m0 := m0.below hb; replace BW := Rw.next BW hb; have kB : ((wa).alloc (.cells #[.slice none 0 0] 25)).heap[wa.heap.size]? = some (.cells #[.slice none 0 0] 25 (0, 0)) := Pl.at_new rfl; clear hb; refine (Ch.toDl_any _ _ _ _ _ _ r1).mono ?_; rintro e wb ⟨g1, X1, rfl, hb, m1, s1, rm1⟩; replace k0 := (hb.block _ (Pl.blk_lt k0)).trans k0; replace k1 := (hb.block _ (Pl.blk_lt k1)).trans k1; replace kB := (hb.block _ (Pl.blk_lt kB)).trans kB; replace r0 := r0.below hb; replace r1 := r1.below hb; replace m0 := m0.below hb; replace BW := Rw.next BW hb; clear hb; have t3 : True := trivial; have pa0 := Pl.one k0; have pa1 := Pl.one k1)
        | (go_at_call 25; clear pa0 pa1; clear t3; have kB1 := kB; clear kB1; have xB := Pl.blk_lt kB; refine (hS _ _ _ _ _ _ _ _ _ _ _ m0.rd m1.rd s0 s1).mono ?_; rintro e wc ⟨v4, FW, rfl, hos, sW, hb⟩; replace k0 := (hb.block _ (Pl.blk_lt k0)).trans k0; replace k1 := (hb.block _ (Pl.blk_lt k1)).trans k1; replace kB := (hb.block _ (Pl.blk_lt kB)).trans kB; replace r0 := r0.below hb; replace r1 := r1.below hb; replace BW := Rw.next BW hb; clear hb; have lFW := HSl.out FW sW; obtain ⟨aW, gW, cW, rfl, mW⟩ := hos.form lFW; have HSW : Hid (St.told FW = M) := sW; clear sW m0 s0 m1 s1 hos lFW; have pa0 := Pl.one k0; have pa1 := Pl.one k1; have x0 := Pl.one kB; have fB := Vl.free kB)
        | (go_at_call 25; clear pa0 pa1; clear t3; refine (hS _ _ _ _ _ _ _ _ _ _ _ m0.rd m1.rd s0 s1).mono ?_; rintro e wc ⟨v4, FW, rfl, hos, sW, hb⟩; replace k0 := (hb.block _ (Pl.blk_lt k0)).trans k0; replace k1 := (hb.block _ (Pl.blk_lt k1)).trans k1; replace r0 := r0.below hb; replace r1 := r1.below hb; replace BW := Rw.next BW hb; clear hb; have lFW := HSl.out FW sW; obtain ⟨aW, gW, cW, rfl, mW⟩ := hos.form lFW; have HSW : Hid (St.told FW = M) := sW; clear sW m0 s0 m1 s1 hos lFW; have pa0 := Pl.one k0; have pa1 := Pl.one k1)
        | (go_at_call 25; clear pa0 pa1; clear t3; have xW := BW.size; have hb := Pl.below_alloc1 (wb) (.cells #[.slice none 0 0] 25); have xn0 : (wb).heap.size ≠ w.heap.size := Nat.ne_of_gt (Pl.blk_lt k0); have xm0 := xn0.symm; have xn1 : (wb).heap.size ≠ w.heap.size + 1 := Nat.ne_of_gt (Pl.blk_lt k1); have xm1 := xn1.symm; replace k0 := (hb.block _ (Pl.blk_lt k0)).trans k0; replace k1 := (hb.block _ (Pl.blk_lt k1)).trans k1; replace r0 := r0.below hb; replace r1 := r1.below hb; replace m0 := m0.below hb; replace m1 := m1.below hb; replace BW := Rw.next BW hb; have kB : ((wb).alloc (.cells #[.slice none 0 0] 25)).heap[wb.heap.size]? = some (.cells #[.slice none 0 0] 25 (0, 0)) := Pl.at_new rfl; clear hb; have xB := Pl.blk_lt kB; refine (hS _ _ _ _ _ _ _ _ _ _ _ m0.rd m1.rd s0 s1).mono ?_; rintro e wc ⟨v4, FW, rfl, hos, sW, hb⟩; replace k0 := (hb.block _ (Pl.blk_lt k0)).trans k0; replace k1 := (hb.block _ (Pl.blk_lt k1)).trans k1; replace kB := (hb.block _ (Pl.blk_lt kB)).trans kB; replace r0 := r0.below hb; replace r1 := r1.below hb; replace BW := Rw.next BW hb; clear hb; have lFW := HSl.out FW sW; obtain ⟨aW, gW, cW, rfl, mW⟩ := hos.form lFW; have HSW : Hid (St.told FW = M) := sW; clear sW m0 s0 m1 s1 hos lFW; have pa0 := Pl.one k0; have pa1 := Pl.one k1; have x0 := Pl.one kB; have fB := Vl.free kB))
      all_goals (go_wp2_with fail; go_meet)
      all_goals (first
        | (obtain ⟨z1, z2⟩ := fin1 (cW := cW) mW kB xB; exact ⟨_, _, gW, _, FW, rfl, rfl, z1, z2, HSW.out, Vl.bset BW xW⟩)
        | exact ⟨_, _, gW, _, FW, rfl, rfl, box, mW.rd.below (Pl.below_alloc1 _ _), HSW.out, Rw.next BW (Pl.below_alloc1 _ _)⟩)
  case rest =>
    clear BW pa0 pa1 k0 k1 r0 r1 B0
    obtain ⟨T, aW, gW, cW, FW, rfl, rfl, kT, mW, sW, hb⟩ := hcut
    have HK0 : Hid (wc.heap[w.heap.size]? = some (.cells #[.slice a0 Q0.length c0] 44 (0, 0))) := (hb.block _ (Pl.blk_lt HKa0.out)).trans HKa0.out
    have HK1 : Hid (wc.heap[w.heap.size + 1]? = some (.cells #[.slice a1 Q1.length c1] 47 (0, 0))) := (hb.block _ (Pl.blk_lt HKa1.out)).trans HKa1.out
    have HKT : Hid (wc.heap[T]? = some (.cells #[.slice aW FW.length cW] 25 (0, 0))) := kT
    have HMW : Hid (St.Rd wc aW gW 0 FW) := mW
    have HSW : Hid (St.told FW = M) := sW
    have BC0 : Hid (Below v1.heap.size v1 wc) := hb
    have HBW : Hid (Below w.heap.size w wc) := Rw.next HB0.out hb
    have BC : Below wc.heap.size wc wc := Below.refl _ _
    clear hb kT mW sW HKa0 HKa1 HB0
    have kc0 := (BC.block _ (Pl.blk_lt HK0.out)).trans HK0.out
    have pa0 := Pl.one kc0
    have lk0 := Pl.blk_lt kc0
    have t1 : True := trivial
    go_wp2_with (first
      | (go_at_call 20; clear t1; clear kc0 pa0 lk0; refine (St.toSt_room _ _ _ _ _ _ (HR0.out.below BC0.out)).mono ?_; rintro e wx0 ⟨g0, X0, rfl, hb, m0, s0, rm0⟩; have n0 := hb.size; have hgl0 : X0.length ≠ 0 → g0 < wx0.heap.size := fun h => Pl.blk_lt (m0.blk.resolve_left h).2.choose_spec; replace BC := Rw.next BC hb; clear hb; have kc1 := (BC.block _ (Pl.blk_lt HK1.out)).trans HK1.out; have pa1 := Pl.one kc1; have lk1 := Pl.blk_lt kc1; have t2 : True := trivial)
      | (go_at_call 21; clear t2; clear kc1 pa1 lk1; obtain ⟨U1, hU1⟩ : ∃ U1, U1 = wx0.alloc (.cells #[.slice (some ⟨g0, 0, none⟩) X0.length X0.length] 25) := ⟨_, rfl⟩; rw [← hU1]; have kx0 : U1.heap[wx0.heap.size]? = some (.cells #[.slice (some ⟨g0, 0, none⟩) X0.length X0.length] 25 (0, 0)) := (by subst hU1; exact Pl.at_new rfl); have hb : Below wx0.heap.size wx0 U1 := (by subst hU1; exact Pl.below_alloc1 _ _); clear hU1; replace m0 := m0.below hb; replace BC := Rw.next BC hb; clear hb; have nn1 := Pl.blk_lt kx0; refine (Ch.toDl_any _ _ _ _ _ _ (HR1.out.below (Rw.next BC0.out BC))).mono ?_; rintro e wx1 ⟨g1, X1, rfl, hb, m1, s1, rm1⟩; have n1 := hb.size; have hgl1 : X1.length ≠ 0 → g1 < wx1.heap.size := fun h => Pl.blk_lt (m1.blk.resolve_left h).2.choose_spec; replace kx0 := (hb.block _ (Pl.blk_lt kx0)).trans kx0; replace m0 := m0.below hb; replace BC := Rw.next BC hb; clear hb; have xa0 := Pl.one kx0; have lx0 := Pl.blk_lt kx0; have t3 : True := trivial)
      | (go_at_call 11; clear t3; clear xa0 lx0; obtain ⟨U2, hU2⟩ : ∃ U2, U2 = wx1.alloc (.cells #[.slice (some ⟨g1, 0, none⟩) X1.length X1.length] 30) := ⟨_, rfl⟩; rw [← hU2]; have kx1 : U2.heap[wx1.heap.size]? = some (.cells #[.slice (some ⟨g1, 0, none⟩) X1.length X1.length] 30 (0, 0)) := (by subst hU2; exact Pl.at_new rfl); have hb : Below wx1.heap.size wx1 U2 := (by subst hU2; exact Pl.below_alloc1 _ _); clear hU2; replace kx0 := (hb.block _ (Pl.blk_lt kx0)).trans kx0; replace m0 := m0.below hb; replace m1 := m1.below hb; replace BC := Rw.next BC hb; clear hb; have nn2 := Pl.blk_lt kx1; refine (hI _ _ _ _ _ _ _ _ _ _ _ m0.rd rm0 m1.rd rm1 s0 s1).mono ?_; rintro e wz ⟨v5, FI, rfl, hos, sI, hb⟩; have n9 := hb.size; obtain ⟨aI, gI, cI, rfl, mI⟩ := hos.form (HSl.out FI sI); have hgi : FI.length ≠ 0 → gI < wz.heap.size := fun h => Pl.blk_lt (mI.blk.resolve_left h).2.choose_spec; replace kx0 := (hb.block _ (Pl.blk_lt kx0)).trans kx0; replace kx1 := (hb.block _ (Pl.blk_lt kx1)).trans kx1; replace m0 := m0.below hb; replace m1 := m1.below hb; replace BC := Rw.next BC hb; clear hb; have HN1 : Hid (wc.heap.size ≤ wx0.heap.size ∧ wx0.heap.size < U1.heap.size ∧ U1.heap.size ≤ wx1.heap.size ∧ wx1.heap.size < U2.heap.size ∧ U2.heap.size ≤ wz.heap.size) := ⟨n0, nn1, n1, nn2, n9⟩; have HcF : Hid (St.kN FI 1 FI.length ≤ 10000000) := HKM.out FI sI; clear n0 nn1 n1 nn2 n9 hos; have kTc := (BC.block _ (Pl.blk_lt HKT.out)).trans HKT.out; have ta := Pl.one kTc; have lkT := Pl.blk_lt kTc; have t4 : True := trivial)
      | (go_at_call 23; clear t4; clear kTc ta lkT; obtain ⟨U9, hU9⟩ : ∃ U9, U9 = wz.alloc (.cells #[.slice aI FI.length cI] 25) := ⟨_, rfl⟩; rw [← hU9]; have kI : U9.heap[wz.heap.size]? = some (.cells #[.slice aI FI.length cI] 25 (0, 0)) := (by subst hU9; exact Pl.at_new rfl); have hb : Below wz.heap.size wz U9 := (by subst hU9; exact Pl.below_alloc1 _ _); clear hU9; replace kx0 := (hb.block _ (Pl.blk_lt kx0)).trans kx0; replace kx1 := (hb.block _ (Pl.blk_lt kx1)).trans kx1; replace m0 := m0.below hb; replace m1 := m1.below hb; replace mI := mI.below hb; replace BC := Rw.next BC hb; clear hb; refine (St.eqSt_same _ _ _ _ _ _ _ _ FI FW _ mI.rd (HMW.out.below BC) (sI.trans HSW.out.symm)).mono ?_; rintro e w5 ⟨rfl, hb⟩; replace kx0 := (hb.block _ (Pl.blk_lt kx0)).trans kx0; replace kx1 := (hb.block _ (Pl.blk_lt kx1)).trans kx1; replace kI := (hb.block _ (Pl.blk_lt kI)).trans kI; replace m0 := m0.below hb; replace m1 := m1.below hb; replace mI := mI.below hb; replace BC := Rw.next BC hb; clear hb; have kc0 := (BC.block _ (Pl.blk_lt HK0.out)).trans HK0.out; have pa0 := Pl.one kc0; have lk0 := Pl.blk_lt kc0; have xa0 := Pl.one kx0))
    go_region_held3 (fun w' => w'.cell? ⟨wx0.heap.size, 0, none⟩ = some (.slice (some ⟨g0, 0, none⟩) X0.length X0.length) ∧ w'.cell? ⟨w.heap.size, 0, none⟩ = some (.slice a0 Q0.length c0)) (go_keep) (first
      | (go_at_call 20; clear kc0 pa0 lk0; clear xa0; refine (St.toSt_room _ _ _ _ _ _ (HR0.out.below (Rw.next (Rw.next BC0.out BC) ((Below.refl _ _).drew)))).mono ?_; rintro e w6 ⟨g9, X9, rfl, hb, m9, s9, _⟩; replace hb := Rw.next ((Below.refl _ _).drew) hb; replace kx0 := (hb.block _ (Pl.blk_lt kx0)).trans kx0; replace kx1 := (hb.block _ (Pl.blk_lt kx1)).trans kx1; replace kI := (hb.block _ (Pl.blk_lt kI)).trans kI; replace m0 := m0.below hb; replace m1 := m1.below hb; replace mI := mI.below hb; replace BC := Rw.next BC hb; clear hb; have kc0 := (BC.block _ (Pl.blk_lt HK0.out)).trans HK0.out; have pa0 := Pl.one kc0; have lk0 := Pl.blk_lt kc0; have xa0 := Pl.one kx0)
      | (go_at_call 23; clear kc0 pa0 lk0; clear xa0; refine (St.eqSt_same _ _ _ _ _ _ _ _ X0 X9 _ m0.rd m9.rd (s0.trans s9.symm)).mono ?_; rintro e w7 ⟨rfl, hb⟩; clear m9 s9; replace kx0 := (hb.block _ (Pl.blk_lt kx0)).trans kx0; replace kx1 := (hb.block _ (Pl.blk_lt kx1)).trans kx1; replace kI := (hb.block _ (Pl.blk_lt kI)).trans kI; replace m0 := m0.below hb; replace m1 := m1.below hb; replace mI := mI.below hb; replace BC := Rw.next BC hb; clear hb; have kc0 := (BC.block _ (Pl.blk_lt HK0.out)).trans HK0.out; have pa0 := Pl.one kc0; have lk0 := Pl.blk_lt kc0; have xa0 := Pl.one kx0))
    go_wp2
    clear kc0 pa0 lk0
    clear xa0
    have kc1 := (BC.block _ (Pl.blk_lt HK1.out)).trans HK1.out
    have pa1 := Pl.one kc1
    have lk1 := Pl.blk_lt kc1
    have xa1 := Pl.one kx1
    go_region_held3 (fun w' => w'.cell? ⟨wx1.heap.size, 0, none⟩ = some (.slice (some ⟨g1, 0, none⟩) X1.length X1.length) ∧ w'.cell? ⟨w.heap.size + 1, 0, none⟩ = some (.slice a1 Q1.length c1)) (go_keep) (first
      | (go_at_call 21; clear kc1 pa1 lk1; clear xa1; refine (Ch.toDl_any _ _ _ _ _ _ (HR1.out.below (Rw.next (Rw.next BC0.out BC) ((Below.refl _ _).drew)))).mono ?_; rintro e w6 ⟨g9, X9, rfl, hb, m9, s9, _⟩; replace hb := Rw.next ((Below.refl _ _).drew) hb; replace kx0 := (hb.block _ (Pl.blk_lt kx0)).trans kx0; replace kx1 := (hb.block _ (Pl.blk_lt kx1)).trans kx1; replace kI := (hb.block _ (Pl.blk_lt kI)).trans kI; replace m0 := m0.below hb; replace m1 := m1.below hb; replace mI := mI.below hb; replace BC := Rw.next BC hb; clear hb; have kc1 := (BC.block _ (Pl.blk_lt HK1.out)).trans HK1.out; have pa1 := Pl.one kc1; have lk1 := Pl.blk_lt kc1; have xa1 := Pl.one kx1)
      | (go_at_call 24; clear kc1 pa1 lk1; clear xa1; refine (Ch.eqDl_same _ _ _ _ _ _ _ _ X1 X9 _ m1.rd m9.rd (s1.trans s9.symm)).mono ?_; rintro e w7 ⟨rfl, hb⟩; clear m9 s9; replace kx0 := (hb.block _ (Pl.blk_lt kx0)).trans kx0; replace kx1 := (hb.block _ (Pl.blk_lt kx1)).trans kx1; replace kI := (hb.block _ (Pl.blk_lt kI)).trans kI; replace m0 := m0.below hb; replace m1 := m1.below hb; replace mI := mI.below hb; replace BC := Rw.next BC hb; clear hb; have kc1 := (BC.block _ (Pl.blk_lt HK1.out)).trans HK1.out; have pa1 := Pl.one kc1; have lk1 := Pl.blk_lt kc1; have xa1 := Pl.one kx1))
    
    clear kc1 pa1 lk1
    clear xa1
    have xa0 := Pl.one kx0
    have HU0 : Hid (∀ z, St.UseN X0 g0 z → wc.heap.size ≤ z ∧ z < wx0.heap.size) := fun z hu => St.own_use' m0 hgl0 hu
    have HU1 : Hid (∀ z, Ch.UseC X1 g1 z → U1.heap.size ≤ z ∧ z < wx1.heap.size) := fun z hu => Ch.own_use' m1 hgl1 hu
    have HUI : Hid (∀ z, St.UseN FI gI z → U2.heap.size ≤ z ∧ z < wz.heap.size) := fun z hu => St.own_use' mI hgi hu
    have HcX0 : Hid (St.kN X0 1 X0.length ≤ 10000000) := (by have e0 := St.kN_told s0 1 X0.length; have l0 : X0.length = Q0.length := (by rw [← St.told_len, ← St.told_len, s0]); rw [l0] at e0 ⊢; have h0 := Hc0.out; omega : St.kN X0 1 X0.length ≤ 10000000)
    have HcB0 : Hid (St.kN X0 1 X0.length ≤ 10000000) := HcX0.out
    obtain ⟨K0, hK0⟩ : ∃ K : Nat, K = St.kN X0 1 X0.length := ⟨_, rfl⟩
    have HKe0 : Hid (K0 = St.kN X0 1 X0.length) := hK0
    have HKp0 : Hid (0 < K0) := (by rw [hK0]; have := St.kN_ge X0 1 X0.length; omega : 0 < K0)
    have HKb0 : Hid (K0 ≤ 10000000) := (by rw [hK0]; exact HcB0.out : K0 ≤ 10000000)
    have hKn0 : ¬ ((K0 : Int) < 0) := by omega
    clear hK0
    have HcX1 : Hid (Ch.kC X1 1 X1.length ≤ 10000000) := (by have e0 := Ch.kC_told s1 1 X1.length; have l0 : X1.length = Q1.length := (by rw [← Ch.told_len, ← Ch.told_len, s1]); rw [l0] at e0 ⊢; have h0 := Hc1.out; omega : Ch.kC X1 1 X1.length ≤ 10000000)
    have HcB1 : Hid (Ch.kC X1 K0 X1.length ≤ 20000000) := (by have q := Ch.kC_shift X1 K0 X1.length; have q1 := HKb0.out; have q2 := HcX1.out; omega : Ch.kC X1 K0 X1.length ≤ 20000000)
    obtain ⟨K1, hK1⟩ : ∃ K : Nat, K = Ch.kC X1 K0 X1.length := ⟨_, rfl⟩
    have HKe1 : Hid (K1 = Ch.kC X1 K0 X1.length) := hK1
    have HKp1 : Hid (0 < K1) := (by rw [hK1]; have := Ch.kC_ge X1 K0 X1.length; have := HKp0.out; omega : 0 < K1)
    have HKb1 : Hid (K1 ≤ 20000000) := (by rw [hK1]; exact HcB1.out : K1 ≤ 20000000)
    have hKn1 : ¬ ((K1 : Int) < 0) := by omega
    clear hK1
    obtain ⟨Kc, hKc⟩ : ∃ Kc : Nat, Kc = St.kN FI 1 FI.length := ⟨_, rfl⟩
    have HKc : Hid (Kc = St.kN FI 1 FI.length) := hKc
    have hKcn : ¬ ((Kc : Int) < 0) := by omega
    clear hKc
    have t5 : True := trivial
    go_wp2_with (first
      | (go_at_call 26; clear t5 xa0; refine (St.markSt_any 1 (by omega) _ g0 _ wc.heap.size wx0.heap.size X0 _ m0 (Nat.le_trans HcB0.out (by omega))).mono ?_; rw [← HKe0.out]; rintro e wA0 ⟨rfl, kp, _⟩; have kk := kp.block _ (Pl.blk_lt kx1) (fun hu => by have q := HU0.out _ hu; have hN1 := HN1.out; omega); replace kx1 := kk.trans kx1; clear kk; replace m1 := m1.keep (fun z hz hz2 => kp.block z hz2 (fun hu => by have q := HU0.out _ hu; have hN1 := HN1.out; omega)); have kk := kp.block _ (Pl.blk_lt kI) (fun hu => by have q := HU0.out _ hu; have hN1 := HN1.out; omega); replace kI := kk.trans kI; clear kk; replace mI := mI.keep (fun z hz hz2 => kp.block z hz2 (fun hu => by have q := HU0.out _ hu; have hN1 := HN1.out; omega)); replace BC := kp.below BC BC.size (fun z hu => by have q := HU0.out _ hu; have hN1 := HN1.out; omega); clear kp m0 kx0; have xa1 := Pl.one kx1; have t6 : True := trivial)
      | (go_at_call 27; clear t6 xa1; refine (Ch.markDl_any K0 HKp0.out _ g1 _ U1.heap.size wx1.heap.size X1 _ m1 (Nat.le_trans HcB1.out (by omega))).mono ?_; rw [← HKe1.out]; rintro e wA1 ⟨rfl, kp, _⟩; have kk := kp.block _ (Pl.blk_lt kI) (fun hu => by have q := HU1.out _ hu; have hN1 := HN1.out; omega); replace kI := kk.trans kI; clear kk; replace mI := mI.keep (fun z hz hz2 => kp.block z hz2 (fun hu => by have q := HU1.out _ hu; have hN1 := HN1.out; omega)); replace BC := kp.below BC BC.size (fun z hu => by have q := HU1.out _ hu; have hN1 := HN1.out; omega); clear kp m1 kx1; have kTc := (BC.block _ (Pl.blk_lt HKT.out)).trans HKT.out; have ta := Pl.one kTc; have lkT := Pl.blk_lt kTc; have ia := Pl.one kI; have t7 : True := trivial)
      | (go_at_call 23; clear t7; clear kTc ta lkT; clear ia; refine (St.eqSt_same _ _ _ _ _ _ _ _ FI FW _ mI.rd (HMW.out.below BC) (sI.trans HSW.out.symm)).mono ?_; rintro e wC ⟨rfl, hb⟩; replace kI := (hb.block _ (Pl.blk_lt kI)).trans kI; replace mI := mI.below hb; replace BC := Rw.next BC hb; clear hb; have ia := Pl.one kI; have t8 : True := trivial)
      | (go_at_call 26; clear t8 ia; refine (St.markSt_any 1 (by omega) _ gI _ U2.heap.size wz.heap.size FI _ mI (Nat.le_trans HcF.out (by omega))).mono ?_; rw [← HKc.out]; rintro e wD ⟨rfl, kp, mk⟩; have kk := kp.block _ (Pl.blk_lt kI) (fun hu => by have q := HUI.out _ hu; have hN1 := HN1.out; omega); replace kI := kk.trans kI; clear kk; replace BC := kp.below BC BC.size (fun z hu => by have q := HUI.out _ hu; have hN1 := HN1.out; omega); clear kp mI; have ia := Pl.one kI; have t9 : True := trivial)
      | (go_at_call 28; clear t9 ia; refine (St.heldSt_any 1 (by omega) _ gI _ FI _ mk (Nat.le_trans HcF.out (by omega))).mono ?_; rw [← HKc.out]; rintro e wE ⟨rfl, hb⟩; replace kI := (hb.block _ (Pl.blk_lt kI)).trans kI; replace mk := mk.below hb; replace BC := Rw.next BC hb; clear hb))
    have k0 := (BC.block _ (Pl.blk_lt HK0.out)).trans HK0.out
    have r0 := HR0.out.below (Rw.next BC0.out BC)
    have k1 := (BC.block _ (Pl.blk_lt HK1.out)).trans HK1.out
    have r1 := HR1.out.below (Rw.next BC0.out BC)
    have pa0 := Pl.one k0
    have pa1 := Pl.one k1
    have BW : Below wE.heap.size wE wE := Below.refl _ _
    have t1 : True := trivial
    have HKI : Hid (wE.heap[wz.heap.size]? = some (.cells #[.slice aI FI.length cI] 25 (0, 0)) ∧ Below wc.heap.size wc wE) := ⟨kI, BC⟩
    have HMk : Hid (St.MkN wE 1 aI gI FI) := mk
    obtain ⟨V0, hV0⟩ : ∃ V0, V0 = wc := ⟨_, rfl⟩
    subst hV0
    clear kI BC mk s0 rm0 s1 rm1
    go_cut [15, 16] from 17 (fun s6 s7 wx => ∃ (T : Nat) (aW : Option Addr) (gW cW : Nat) (FW : List St.Nm), s6 = .pointer (some ⟨T, 0, none⟩) ∧ s7 = .bool cb ∧ wx.heap[T]? = some (.cells #[.slice aW FW.length cW] 25 (0, 0)) ∧ St.Rd wx aW gW 0 FW ∧ St.told FW = M ∧ Below wE.heap.size wE wx)
    case first =>
      go_region_held3 (fun w' => w'.cell? ⟨w.heap.size, 0, none⟩ = some (.slice a0 Q0.length c0) ∧ w'.cell? ⟨w.heap.size + 1, 0, none⟩ = some (.slice a1 Q1.length c1)) (go_keep) (first
        | (go_at_call 20; clear pa0 pa1; clear t1; have kB1 := kB; clear kB1; have hb : Below wE.heap.size wE wE.drew := (Below.refl _ _).drew; replace k0 := (hb.block _ (Pl.blk_lt k0)).trans k0; replace k1 := (hb.block _ (Pl.blk_lt k1)).trans k1; replace r0 := r0.below hb; replace r1 := r1.below hb; replace BW := Rw.next BW hb; clear hb; refine (St.toSt_room _ _ _ _ _ _ r0).mono ?_; rintro e wa ⟨g0, X0, rfl, hb, m0, s0, rm0⟩; replace k0 := (hb.block _ (Pl.blk_lt k0)).trans k0; replace k1 := (hb.block _ (Pl.blk_lt k1)).trans k1; replace kB := (hb.block _ (Pl.blk_lt kB)).trans kB; replace r0 := r0.below hb; replace r1 := r1.below hb; replace BW := Rw.next BW hb; clear hb; have t2 : True := trivial; have pa0 := Pl.one k0; have pa1 := Pl.one k1)
        | (go_at_call 20; clear pa0 pa1; clear t1; have hb : Below wE.heap.size wE wE.drew := (Below.refl _ _).drew; replace k0 := (hb.block _ (Pl.blk_lt k0)).trans k0; replace k1 := (hb.block _ (Pl.blk_lt k1)).trans k1; replace r0 := r0.below hb; replace r1 := r1.below hb; replace BW := Rw.next BW hb; clear hb; refine (St.toSt_room _ _ _ _ _ _ r0).mono ?_; rintro e wa ⟨g0, X0, rfl, hb, m0, s0, rm0⟩; replace k0 := (hb.block _ (Pl.blk_lt k0)).trans k0; replace k1 := (hb.block _ (Pl.blk_lt k1)).trans k1; replace r0 := r0.below hb; replace r1 := r1.below hb; replace BW := Rw.next BW hb; clear hb; have t2 : True := trivial; have pa0 := Pl.one k0; have pa1 := Pl.one k1)
        | (go_at_call 20; clear pa0 pa1; clear t1; have hb : Below wE.heap.size wE wE.drew := (Below.refl _ _).drew; replace k0 := (hb.block _ (Pl.blk_lt k0)).trans k0; replace k1 := (hb.block _ (Pl.blk_lt k1)).trans k1; replace r0 := r0.below hb; replace r1 := r1.below hb; replace BW := Rw.next BW hb; clear hb; have xW := BW.size; have hb := Pl.below_alloc1 (wE.drew) (.cells #[.slice none 0 0] 25); have xn0 : (wE).heap.size ≠ w.heap.size := Nat.ne_of_gt (Pl.blk_lt k0); have xm0 := xn0.symm; have xn1 : (wE).heap.size ≠ w.heap.size + 1 := Nat.ne_of_gt (Pl.blk_lt k1); have xm1 := xn1.symm; replace k0 := (hb.block _ (Pl.blk_lt k0)).trans k0; replace k1 := (hb.block _ (Pl.blk_lt k1)).trans k1; replace r0 := r0.below hb; replace r1 := r1.below hb; replace BW := Rw.next BW hb; have kB : ((wE.drew).alloc (.cells #[.slice none 0 0] 25)).heap[wE.heap.size]? = some (.cells #[.slice none 0 0] 25 (0, 0)) := Pl.at_new rfl; clear hb; refine (St.toSt_room _ _ _ _ _ _ r0).mono ?_; rintro e wa ⟨g0, X0, rfl, hb, m0, s0, rm0⟩; replace k0 := (hb.block _ (Pl.blk_lt k0)).trans k0; replace k1 := (hb.block _ (Pl.blk_lt k1)).trans k1; replace kB := (hb.block _ (Pl.blk_lt kB)).trans kB; replace r0 := r0.below hb; replace r1 := r1.below hb; replace BW := Rw.next BW hb; clear hb; have t2 : True := trivial; have pa0 := Pl.one k0; have pa1 := Pl.one k1)
        | (go_at_call 21; clear pa0 pa1; clear t2; have kB1 := kB; clear kB1; refine (Ch.toDl_any _ _ _ _ _ _ r1).mono ?_; rintro e wb ⟨g1, X1, rfl, hb, m1, s1, rm1⟩; replace k0 := (hb.block _ (Pl.blk_lt k0)).trans k0; replace k1 := (hb.block _ (Pl.blk_lt k1)).trans k1; replace kB := (hb.block _ (Pl.blk_lt kB)).trans kB; replace r0 := r0.below hb; replace r1 := r1.below hb; replace m0 := m0.below hb; replace BW := Rw.next BW hb; clear hb; have t3 : True := trivial; have pa0 := Pl.one k0; have pa1 := Pl.one k1)
        | (go_at_call 21; clear pa0 pa1; clear t2; refine (Ch.toDl_any _ _ _ _ _ _ r1).mono ?_; rintro e wb ⟨g1, X1, rfl, hb, m1, s1, rm1⟩; replace k0 := (hb.block _ (Pl.blk_lt k0)).trans k0; replace k1 := (hb.block _ (Pl.blk_lt k1)).trans k1; replace r0 := r0.below hb; replace r1 := r1.below hb; replace m0 := m0.below hb; replace BW := Rw.next BW hb; clear hb; have t3 : True := trivial; have pa0 := Pl.one k0; have pa1 := Pl.one k1)
        | (go_at_call 21; clear pa0 pa1; clear t2; have xW := BW.size; have hb := Pl.below_alloc1 (wa) (.cells #[.slice none 0 0] 25); have xn0 : (wa).heap.size ≠ w.heap.size := Nat.ne_of_gt (Pl.blk_lt k0); have xm0 := xn0.symm; have xn1 : (wa).heap.size ≠ w.heap.size + 1 := Nat.ne_of_gt (Pl.blk_lt k1); have xm1 := xn1.symm; replace k0 := (hb.block _ (Pl.blk_lt k0)).trans k0; replace k1 := (hb.block _ (Pl.blk_lt k1)).trans k1; replace r0 := r0.below hb; replace r1 := r1.below hb; replace m0 := m0.below hb; replace BW := Rw.next BW hb; have kB : ((wa).alloc (.cells #[.slice none 0 0] 25)).heap[wa.heap.size]? = some (.cells #[.slice none 0 0] 25 (0, 0)) := Pl.at_new rfl; clear hb; refine (Ch.toDl_any _ _ _ _ _ _ r1).mono ?_; rintro e wb ⟨g1, X1, rfl, hb, m1, s1, rm1⟩; replace k0 := (hb.block _ (Pl.blk_lt k0)).trans k0; replace k1 := (hb.block _ (Pl.blk_lt k1)).trans k1; replace kB := (hb.block _ (Pl.blk_lt kB)).trans kB; replace r0 := r0.below hb; replace r1 := r1.below hb; replace m0 := m0.below hb; replace BW := Rw.next BW hb; clear hb; have t3 : True := trivial; have pa0 := Pl.one k0; have pa1 := Pl.one k1)
        | (go_at_call 11; clear pa0 pa1; clear t3; have kB1 := kB; clear kB1; have xB := Pl.blk_lt kB; refine (hI _ _ _ _ _ _ _ _ _ _ _ m0.rd rm0 m1.rd rm1 s0 s1).mono ?_; rintro e wc ⟨v4, FW, rfl, hos, sW, hb⟩; replace k0 := (hb.block _ (Pl.blk_lt k0)).trans k0; replace k1 := (hb.block _ (Pl.blk_lt k1)).trans k1; replace kB := (hb.block _ (Pl.blk_lt kB)).trans kB; replace r0 := r0.below hb; replace r1 := r1.below hb; replace BW := Rw.next BW hb; clear hb; have lFW := HSl.out FW sW; obtain ⟨aW, gW, cW, rfl, mW⟩ := hos.form lFW; have HSW : Hid (St.told FW = M) := sW; clear sW m0 s0 m1 s1 hos lFW; have pa0 := Pl.one k0; have pa1 := Pl.one k1; have x0 := Pl.one kB; have fB := Vl.free kB)
        | (go_at_call 11; clear pa0 pa1; clear t3; refine (hI _ _ _ _ _ _ _ _ _ _ _ m0.rd rm0 m1.rd rm1 s0 s1).mono ?_; rintro e wc ⟨v4, FW, rfl, hos, sW, hb⟩; replace k0 := (hb.block _ (Pl.blk_lt k0)).trans k0; replace k1 := (hb.block _ (Pl.blk_lt k1)).trans k1; replace r0 := r0.below hb; replace r1 := r1.below hb; replace BW := Rw.next BW hb; clear hb; have lFW := HSl.out FW sW; obtain ⟨aW, gW, cW, rfl, mW⟩ := hos.form lFW; have HSW : Hid (St.told FW = M) := sW; clear sW m0 s0 m1 s1 hos lFW; have pa0 := Pl.one k0; have pa1 := Pl.one k1)
        | (go_at_call 11; clear pa0 pa1; clear t3; have xW := BW.size; have hb := Pl.below_alloc1 (wb) (.cells #[.slice none 0 0] 25); have xn0 : (wb).heap.size ≠ w.heap.size := Nat.ne_of_gt (Pl.blk_lt k0); have xm0 := xn0.symm; have xn1 : (wb).heap.size ≠ w.heap.size + 1 := Nat.ne_of_gt (Pl.blk_lt k1); have xm1 := xn1.symm; replace k0 := (hb.block _ (Pl.blk_lt k0)).trans k0; replace k1 := (hb.block _ (Pl.blk_lt k1)).trans k1; replace r0 := r0.below hb; replace r1 := r1.below hb; replace m0 := m0.below hb; replace m1 := m1.below hb; replace BW := Rw.next BW hb; have kB : ((wb).alloc (.cells #[.slice none 0 0] 25)).heap[wb.heap.size]? = some (.cells #[.slice none 0 0] 25 (0, 0)) := Pl.at_new rfl; clear hb; have xB := Pl.blk_lt kB; refine (hI _ _ _ _ _ _ _ _ _ _ _ m0.rd rm0 m1.rd rm1 s0 s1).mono ?_; rintro e wc ⟨v4, FW, rfl, hos, sW, hb⟩; replace k0 := (hb.block _ (Pl.blk_lt k0)).trans k0; replace k1 := (hb.block _ (Pl.blk_lt k1)).trans k1; replace kB := (hb.block _ (Pl.blk_lt kB)).trans kB; replace r0 := r0.below hb; replace r1 := r1.below hb; replace BW := Rw.next BW hb; clear hb; have lFW := HSl.out FW sW; obtain ⟨aW, gW, cW, rfl, mW⟩ := hos.form lFW; have HSW : Hid (St.told FW = M) := sW; clear sW m0 s0 m1 s1 hos lFW; have pa0 := Pl.one k0; have pa1 := Pl.one k1; have x0 := Pl.one kB; have fB := Vl.free kB))
      all_goals (go_wp2_with fail; go_meet)
      all_goals (first
        | (obtain ⟨z1, z2⟩ := fin1 (cW := cW) mW kB xB; exact ⟨_, _, gW, _, FW, rfl, rfl, z1, z2, HSW.out, Vl.bset BW xW⟩)
        | exact ⟨_, _, gW, _, FW, rfl, rfl, box, mW.rd.below (Pl.below_alloc1 _ _), HSW.out, Rw.next BW (Pl.below_alloc1 _ _)⟩)
    case rest =>
      clear BW pa0 pa1 k0 k1 r0 r1
      obtain ⟨T2, aH, gH, cH, FH, rfl, rfl, kH, mH, sH, hb⟩ := hcut
      have kI := (hb.block _ (Pl.blk_lt HKI.out.1)).trans HKI.out.1
      have BC := Rw.next HKI.out.2 hb
      have mk := HMk.out.below hb
      clear hb HKI HMk
      have ha := Pl.one kH
      have kTc := (BC.block _ (Pl.blk_lt HKT.out)).trans HKT.out
      have ta := Pl.one kTc
      have lkT := Pl.blk_lt kTc
      have tb : True := trivial
      go_wp2_with (first
        | (go_at_call 23; clear tb; clear kTc ta lkT; clear ha; refine (St.eqSt_same _ _ _ _ _ _ _ _ FH FW _ mH (HMW.out.below BC) (sH.trans HSW.out.symm)).mono ?_; rintro e wH ⟨rfl, hb⟩; replace kI := (hb.block _ (Pl.blk_lt kI)).trans kI; replace mk := mk.below hb; replace BC := Rw.next BC hb; clear hb; have ia := Pl.one kI; have tc : True := trivial)
        | (go_at_call 28; clear tc ia; refine (St.heldSt_any 1 (by omega) _ gI _ FI _ mk (Nat.le_trans HcF.out (by omega))).mono ?_; rw [← HKc.out]; rintro e wK ⟨rfl, hb⟩; replace BC := Rw.next BC hb))
      go_ret
      exact ⟨rfl, Rw.next HBW.out BC⟩

set_option maxRecDepth 100000 in
theorem lifted (os : Os) (started : os.Started) (H : Type) (enc : TypeId × Value → H) :
    ReturnsInHanded {} Tryz.checked os 6 .any (Rows.fnExactDeltaApplySpec.pre6 enc Tryz.prog Tryz.f6 Rows.fnExactDeltaApplyRow.domain false) (Rows.fnExactDeltaApplySpec.post enc Tryz.prog Tryz.f6 false true false false) := by
  refine returnsInHanded_of_change (C := Tryz.checked) own started (by kernel_rfl) Tryz.func6
    (ChangeSpec.witness6 (enc := enc) (C := Tryz.checked) false ⟨#[], #[.agg #[.slice none 0 0], .agg #[.slice none 0 0]], []⟩ 8 (by kernel_rfl) (by kernel_rfl) (by kernel_rfl) (by kernel_rfl)) ?_
  intro W base args ds gs before hval0 hW hcnd _
  have hval : ∀ (j : Nat) t v, Tryz.f6.params[j]? = some t → args[j]? = some v → Value.okWide Tryz.prog W .any base t v := hval0
  have hW' := hW
  obtain ⟨p, q, hA0, hV, rfl, hfz, hnd⟩ := hW
  have hA : DataW.TrodAll enc Tryz.prog W 0 (fun _ => true) true Tryz.f6.params.toList args.toList ds p := hA0
  rw [Tryz.params6] at hA hval
  obtain ⟨v0, vs0, d0, ds0, p0, q0, hargs, rfl, rfl, h0, r0⟩ := trodAll_cons hA
  obtain ⟨v1, vs1, d1, ds1, p1, q1, rfl, rfl, rfl, h1, r1⟩ := trodAll_cons r0
  obtain ⟨rfl, rfl, rfl⟩ := trodAll_nil r1
  obtain rfl : args = #[v0, v1] := by cases args; simp_all
  obtain ⟨rfl, rfl⟩ := trodVars_none hV
  have k0 := h0
  have lt0 : ∀ x ∈ p0, x.block < W.heap.size := by obtain ⟨m, hm⟩ := k0; exact DataW.trod_lt m _ _ _ hm
  obtain ⟨a0, c0, T0, rfl, w0⟩ := St.open_store (hval 0 44 v0 rfl rfl) h0
  have k1 := h1
  have lt1 : ∀ x ∈ p1, x.block < W.heap.size := by obtain ⟨m, hm⟩ := k1; exact DataW.trod_lt m _ _ _ hm
  obtain ⟨a1, c1, T1, rfl, w1⟩ := Ch.open_delta (hval 1 47 v1 rfl rfl) h1
  clear hA0 hval0
  refine (walk a0 c0 T0 a1 c1 T1 W w0 w1).mono fun e W' ⟨he, bel⟩ => ?_
  subst he
  exact ⟨_, rfl, _, _, _, [], _, [], hW', trodAll_mk1 (shut_bool Tryz.underlying4 _), (trodAll_cons_mk (Below.trod laidOut (by kernel_rfl) (of_decide_eq_true (by kernel_rfl)) k0 bel lt0) (trodAll_cons_mk (Below.trod laidOut (by kernel_rfl) (of_decide_eq_true (by kernel_rfl)) k1 bel lt1) trodAll_mk0)), rfl, bel.frame _, fun h => by cases h⟩

theorem over : Rows.fnExactDeltaApplyRow.holds Tryz.pinned (OpenSpec.ofChange Rows.fnExactDeltaApplySpec) :=
  OpenClaim.holds_of_wide 6 Tryz.f6 rfl rfl rfl rfl rfl rfl rfl ⟨rfl, rfl, rfl, rfl, rfl⟩ rfl rfl rfl rfl rfl (by kernel_rfl) Tryz.func6 (by kernel_rfl)
    (of_decide_eq_true (by kernel_rfl)) (by unfold Func.isWrapper; first | (rw [if_pos (by decide +kernel)]; kernel_rfl) | (rw [if_neg (by decide +kernel)]; exact ⟨rfl, rfl⟩))
    (fun os started H enc _ => lifted os started H enc)

theorem proved : Rows.FnExactDeltaApplySaid := over
end Go.Proofs.YtkpchlojapkimaaGreat.fnExactDeltaApply

namespace Go.Proofs.YtkpchlojapkimaaGreat
theorem FnExactDeltaApply_holds : Rows.FnExactDeltaApplySaid := fnExactDeltaApply.proved
end Go.Proofs.YtkpchlojapkimaaGreat
