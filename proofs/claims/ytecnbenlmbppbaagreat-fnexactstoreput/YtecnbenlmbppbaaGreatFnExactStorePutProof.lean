/- At every store, name and relation the program and the specification make the same store and tell the same verdict; the answer owns its memory, and the arguments read as before; no condition. -/
import Derived.Test.YtecnbenlmbppbaaGreatRows
import Derived.Test.YtecnbenlmbppbaaGreatSp
import Derived.Test.YtecnbenlmbppbaaGreatMh
import Derived.Test.YtecnbenlmbppbaaGreatSd
import Derived.WalkKit
import Derived.ProofKit
import Derived.OpenShut
import Derived.ShutString
import Derived.ChangeOld
import Derived.Below
import Derived.Deep.RegionWith
import Derived.Deep.RegionHeld3
namespace Go.Proofs.YtecnbenlmbppbaaGreat.fnExactStorePut
open Go.ChangeShapes Go.WideShapes Go.ChangeAt Go.RowKit
open Go.ChangeMaps (open_string shut_string)
set_option linter.unusedVariables false
set_option linter.unusedSimpArgs false

theorem own : ownKnob Tryz.prog.godebug = none := by kernel_rfl
theorem laidOut : laidOutB Tryz.prog = true := by kernel_rfl

/-- The store lies in its box. -/
theorem fin1 {wc : World} {T LO hi gW cW : Nat} {aW : Option Addr} {FW : List St.Nm} {x0 : Value} (r : St.Own wc LO hi aW gW FW) (k : wc.heap[T]? = some (.cells #[x0] 25 (0, 0))) (hT : T < LO) :
    (wc.setCell ⟨T, 0, none⟩ (.slice aW FW.length cW)).heap[T]? = some (.cells #[.slice aW FW.length cW] 25 (0, 0)) ∧ St.Rd (wc.setCell ⟨T, 0, none⟩ (.slice aW FW.length cW)) aW gW 0 FW :=
  ⟨Sw.one_set k, (r.set hT).rd⟩
theorem box {w : World} {cs : Array Value} {t : TypeId} : (w.alloc (.cells cs t)).heap[w.heap.size]? = some (.cells cs t (0, 0)) := Pl.at_new rfl

set_option maxRecDepth 8000 in
set_option maxHeartbeats 16000000 in
theorem walk (a0 : Option Addr) (c0 : Nat) (T0 : List St.Raw) (s1 : ByteArray) (q2 : Int) (a2 : Option Addr) (c2 : Nat) (S2 : List Rl.Raw) (w : World) (w0 : St.IsSt w a0 T0) (w1 : s1.size ≤ maxLen) (w2 : Rl.IsRel w a2 S2) :
    Calls Tryz.prog 4 #[.agg #[.slice a0 T0.length c0], .string s1, .agg #[.int .i64 q2, .slice a2 S2.length c2]] w fun e w' => e = .returned (.bool true) ∧ Below w.heap.size w w' := by
  by_cases hb1 : s1.size > 1048576
  · have hz : (s1.size : Int) > 1048576 := by omega
    unfold maxLen at w1
    go_enter Tryz.func4, Tryz.ntmps4
    go_wp2
    go_ret
    exact ⟨rfl, Pl.below_alloc2 _ _ _⟩
  have hz1 : ¬ (s1.size : Int) > 1048576 := by omega
  obtain ⟨W0, hW0⟩ : ∃ W0, W0 = (w.alloc (.cells #[.slice a0 T0.length c0] 36)).alloc (.cells #[.int .i64 q2, .slice a2 S2.length c2] 39) := ⟨_, rfl⟩
  have B0 : Below w.heap.size w W0 := by subst hW0; exact Pl.below_alloc2 _ _ _
  have k0 : W0.heap[w.heap.size]? = some (.cells #[.slice a0 T0.length c0] 36 (0, 0)) := by subst hW0; rw [Pl.at_old (by simp), Pl.at_new rfl]
  have k1 : W0.heap[w.heap.size + 1]? = some (.cells #[.int .i64 q2, .slice a2 S2.length c2] 39 (0, 0)) := by subst hW0; rw [Pl.at_new (by simp)]
  replace w0 := w0.below B0
  replace w2 := w2.below B0
  have t1 : True := trivial
  by_cases hbig : 1048576 < T0.length + St.totN T0 T0.length
  · have hZ := St.szSt_big a0 c0 1048576 T0 W0 w0 hbig (Nat.le_refl _)
    go_enter Tryz.func4, Tryz.ntmps4
    go_wp2_with (go_at_call 16; rw [← hW0]; clear hW0; refine hZ.mono ?_; rintro e v1 ⟨rfl, hb⟩)
    go_ret
    exact ⟨rfl, Rw.next B0 hb⟩
  obtain ⟨L, hL⟩ : ∃ L : Nat, T0.length + St.totN T0 T0.length + L = 1048576 := ⟨1048576 - (T0.length + St.totN T0 T0.length), by omega⟩
  have hZ0 := St.szSt_at a0 c0 1048576 L T0 W0 w0 hL (Nat.le_refl _)
  have hp : ¬ ((L : Int) < 0) := by omega
  have hLl : L ≤ 1048576 := by omega
  obtain ⟨b0, o0, Q0, r0, hQ0, hQE⟩ := St.rd_of_isSt w0 (by omega)
  have Hc0 : Hid (St.kN Q0 1 Q0.length ≤ 10000000) := (by have q := St.kN_raw hQ0 hQE Q0.length (Nat.le_refl _); rw [hQ0] at q ⊢; omega : St.kN Q0 1 Q0.length ≤ 10000000)
  rw [← hQ0] at hZ0 hW0 k0 ⊢
  clear hQ0 hQE w0 hbig hL hb1
  by_cases hbig : L < S2.length + Rl.totR S2 S2.length
  · have hY := fun W h => Rl.szL_big q2 a2 c2 L S2 W h hbig hLl
    go_enter Tryz.func4, Tryz.ntmps4
    go_wp2_with (first
      | (go_at_call 16; clear t1; rw [← hW0]; clear hW0; refine hZ0.mono ?_; rintro e v1 ⟨rfl, hb⟩; replace B0 := Rw.next B0 hb; replace k1 := (hb.block _ (Pl.blk_lt k1)).trans k1; replace w2 := w2.below hb; obtain ⟨pb, pc⟩ := Pl.two k1)
      | (go_at_call 17; refine (hY _ w2).mono ?_; rintro e v1 ⟨rfl, hb⟩))
    go_ret
    exact ⟨rfl, Rw.next B0 hb⟩
  obtain ⟨M9, hM⟩ : ∃ M9 : Nat, S2.length + Rl.totR S2 S2.length + M9 = L := ⟨L - (S2.length + Rl.totR S2 S2.length), by omega⟩
  have hZ1 := fun W h => Rl.szL_at q2 a2 c2 L M9 S2 W h hM hLl
  have hp2 : ¬ ((M9 : Int) < 0) := by omega
  obtain ⟨b2, o2, Q2, r2, sQ2, hQ2⟩ := Rl.rd_of_isRel w2 (by omega)
  have Hc2 : Hid (Rl.cnt Q2 Q2.length ≤ 1048576) := (by have q := Rl.cnt_raw sQ2 hQ2 Q2.length (Nat.le_refl _); rw [hQ2] at q ⊢; omega : Rl.cnt Q2 Q2.length ≤ 1048576)
  rw [← hQ2] at hZ1 hW0 k1 ⊢
  clear hQ2 sQ2 hbig hM
  obtain ⟨M, cb, hCA, hMl, hM1⟩ := Mp.PA_some (St.told Q0) (s1, q2, Rl.said Q2)
  have HSl : Hid (∀ F : List St.Nm, St.told F = M → F.length ≤ 4194304) := fun F h => by rw [← St.told_len, h]; omega
  have HKM : Hid (∀ F : List St.Nm, St.told F = M → St.kN F 1 F.length ≤ 10000000) := fun F h => Mp.few_marks h hMl hM1
  clear hMl hM1
  have hS := fun a b off c ra rb ro rc P R W => fun h q (e : St.told P = St.told Q0) (e' : Rl.said R = Rl.said Q2) => Mp.putS_any a b off c P s1 q2 ra rb ro rc R W h w1 q M cb (by rw [e, e']; exact hCA)
  have hI := fun a b off c ra rb ro rc P R W => fun h q (e : St.told P = St.told Q0) (e' : Rl.said R = Rl.said Q2) => Mp.putI_any a b off c P s1 q2 ra rb ro rc R W h w1 q M cb (by rw [e, e']; exact hCA)
  clear hCA
  go_enter Tryz.func4, Tryz.ntmps4
  go_wp2_with (first
    | (go_at_call 16; clear t1; rw [← hW0]; clear hW0; refine hZ0.mono ?_; rintro e v0 ⟨rfl, hb⟩; clear hZ0; replace w2 := w2.below hb; replace k0 := (hb.block _ (Pl.blk_lt k0)).trans k0; replace k1 := (hb.block _ (Pl.blk_lt k1)).trans k1; replace r0 := r0.below hb; replace r2 := r2.below hb; replace B0 := Rw.next B0 hb; clear hb; have pa := Pl.one k0; obtain ⟨pb, pc⟩ := Pl.two k1)
    | (go_at_call 17; refine (hZ1 _ w2).mono ?_; rintro e v1 ⟨rfl, hb⟩; clear hZ1 w2; clear pa pb pc; replace k0 := (hb.block _ (Pl.blk_lt k0)).trans k0; replace k1 := (hb.block _ (Pl.blk_lt k1)).trans k1; replace r0 := r0.below hb; replace r2 := r2.below hb; replace B0 := Rw.next B0 hb; clear hb; have pa := Pl.one k0; obtain ⟨pb, pc⟩ := Pl.two k1))
  have t1 : True := trivial
  have BW : Below v1.heap.size v1 v1 := Below.refl _ _
  have HK : Hid (v1.heap[w.heap.size]? = some (.cells #[.slice a0 Q0.length c0] 36 (0, 0)) ∧ v1.heap[w.heap.size + 1]? = some (.cells #[.int .i64 q2, .slice a2 Q2.length c2] 39 (0, 0))) := ⟨k0, k1⟩
  have HR0 : Hid (St.Rd v1 a0 b0 o0 Q0) := r0
  have HR2 : Hid (Rl.Rd v1 a2 b2 o2 Q2) := r2
  have HB0 : Hid (Below w.heap.size w v1) := B0
  go_cut [8, 9] from 19 (fun s6 s7 wx => ∃ (T : Nat) (aW : Option Addr) (gW cW : Nat) (FW : List St.Nm), s6 = .pointer (some ⟨T, 0, none⟩) ∧ s7 = .bool cb ∧ wx.heap[T]? = some (.cells #[.slice aW FW.length cW] 25 (0, 0)) ∧ St.Rd wx aW gW 0 FW ∧ St.told FW = M ∧ Below v1.heap.size v1 wx)
  case first =>
      go_region_held3 (fun w' => w'.cell? ⟨w.heap.size, 0, none⟩ = some (.slice a0 Q0.length c0) ∧ w'.cell? ⟨w.heap.size + 1, 0, none⟩ = some (.int .i64 q2) ∧ w'.cell? ⟨w.heap.size + 1, 1, none⟩ = some (.slice a2 Q2.length c2)) (go_keep) (first
        | (go_at_call 19; clear pa pb pc; clear t1; have kB1 := kB; clear kB1; have hb : Below v1.heap.size v1 v1.drew := (Below.refl _ _).drew; replace k0 := (hb.block _ (Pl.blk_lt k0)).trans k0; replace k1 := (hb.block _ (Pl.blk_lt k1)).trans k1; replace r0 := r0.below hb; replace r2 := r2.below hb; replace BW := Rw.next BW hb; clear hb; refine (St.toSt_any _ _ _ _ _ _ r0).mono ?_; rintro e wa ⟨g0, X0, rfl, hb, m0, s0⟩; replace k0 := (hb.block _ (Pl.blk_lt k0)).trans k0; replace k1 := (hb.block _ (Pl.blk_lt k1)).trans k1; replace kB := (hb.block _ (Pl.blk_lt kB)).trans kB; replace r0 := r0.below hb; replace r2 := r2.below hb; replace BW := Rw.next BW hb; clear hb; have t2 : True := trivial; have pa := Pl.one k0; obtain ⟨pb, pc⟩ := Pl.two k1)
        | (go_at_call 19; clear pa pb pc; clear t1; have hb : Below v1.heap.size v1 v1.drew := (Below.refl _ _).drew; replace k0 := (hb.block _ (Pl.blk_lt k0)).trans k0; replace k1 := (hb.block _ (Pl.blk_lt k1)).trans k1; replace r0 := r0.below hb; replace r2 := r2.below hb; replace BW := Rw.next BW hb; clear hb; refine (St.toSt_any _ _ _ _ _ _ r0).mono ?_; rintro e wa ⟨g0, X0, rfl, hb, m0, s0⟩; replace k0 := (hb.block _ (Pl.blk_lt k0)).trans k0; replace k1 := (hb.block _ (Pl.blk_lt k1)).trans k1; replace r0 := r0.below hb; replace r2 := r2.below hb; replace BW := Rw.next BW hb; clear hb; have t2 : True := trivial; have pa := Pl.one k0; obtain ⟨pb, pc⟩ := Pl.two k1)
        | (go_at_call 19; clear pa pb pc; clear t1; have hb : Below v1.heap.size v1 v1.drew := (Below.refl _ _).drew; replace k0 := (hb.block _ (Pl.blk_lt k0)).trans k0; replace k1 := (hb.block _ (Pl.blk_lt k1)).trans k1; replace r0 := r0.below hb; replace r2 := r2.below hb; replace BW := Rw.next BW hb; clear hb; have xW := BW.size; have hb := Pl.below_alloc1 (v1.drew) (.cells #[.slice none 0 0] 25); have xn0 : (v1).heap.size ≠ w.heap.size := Nat.ne_of_gt (Pl.blk_lt k0); have xn1 : (v1).heap.size ≠ w.heap.size + 1 := Nat.ne_of_gt (Pl.blk_lt k1); have xn2 := xn0.symm; have xn3 := xn1.symm; replace k0 := (hb.block _ (Pl.blk_lt k0)).trans k0; replace k1 := (hb.block _ (Pl.blk_lt k1)).trans k1; replace r0 := r0.below hb; replace r2 := r2.below hb; replace BW := Rw.next BW hb; have kB : ((v1.drew).alloc (.cells #[.slice none 0 0] 25)).heap[v1.heap.size]? = some (.cells #[.slice none 0 0] 25 (0, 0)) := Pl.at_new rfl; clear hb; refine (St.toSt_any _ _ _ _ _ _ r0).mono ?_; rintro e wa ⟨g0, X0, rfl, hb, m0, s0⟩; replace k0 := (hb.block _ (Pl.blk_lt k0)).trans k0; replace k1 := (hb.block _ (Pl.blk_lt k1)).trans k1; replace kB := (hb.block _ (Pl.blk_lt kB)).trans kB; replace r0 := r0.below hb; replace r2 := r2.below hb; replace BW := Rw.next BW hb; clear hb; have t2 : True := trivial; have pa := Pl.one k0; obtain ⟨pb, pc⟩ := Pl.two k1)
        | (go_at_call 20; clear pa pb pc; clear t2; have kB1 := kB; clear kB1; refine (Rl.toL_any _ _ _ _ _ _ _ r2).mono ?_; rintro e wb ⟨g2, X2, rfl, hb, m2, s2⟩; replace k0 := (hb.block _ (Pl.blk_lt k0)).trans k0; replace k1 := (hb.block _ (Pl.blk_lt k1)).trans k1; replace kB := (hb.block _ (Pl.blk_lt kB)).trans kB; replace r0 := r0.below hb; replace r2 := r2.below hb; replace m0 := m0.below hb; replace BW := Rw.next BW hb; clear hb; have t3 : True := trivial; have pa := Pl.one k0; obtain ⟨pb, pc⟩ := Pl.two k1)
        | (go_at_call 20; clear pa pb pc; clear t2; refine (Rl.toL_any _ _ _ _ _ _ _ r2).mono ?_; rintro e wb ⟨g2, X2, rfl, hb, m2, s2⟩; replace k0 := (hb.block _ (Pl.blk_lt k0)).trans k0; replace k1 := (hb.block _ (Pl.blk_lt k1)).trans k1; replace r0 := r0.below hb; replace r2 := r2.below hb; replace m0 := m0.below hb; replace BW := Rw.next BW hb; clear hb; have t3 : True := trivial; have pa := Pl.one k0; obtain ⟨pb, pc⟩ := Pl.two k1)
        | (go_at_call 20; clear pa pb pc; clear t2; have xW := BW.size; have hb := Pl.below_alloc1 (wa) (.cells #[.slice none 0 0] 25); have xn0 : (wa).heap.size ≠ w.heap.size := Nat.ne_of_gt (Pl.blk_lt k0); have xn1 : (wa).heap.size ≠ w.heap.size + 1 := Nat.ne_of_gt (Pl.blk_lt k1); have xn2 := xn0.symm; have xn3 := xn1.symm; replace k0 := (hb.block _ (Pl.blk_lt k0)).trans k0; replace k1 := (hb.block _ (Pl.blk_lt k1)).trans k1; replace r0 := r0.below hb; replace r2 := r2.below hb; replace m0 := m0.below hb; replace BW := Rw.next BW hb; have kB : ((wa).alloc (.cells #[.slice none 0 0] 25)).heap[wa.heap.size]? = some (.cells #[.slice none 0 0] 25 (0, 0)) := Pl.at_new rfl; clear hb; refine (Rl.toL_any _ _ _ _ _ _ _ r2).mono ?_; rintro e wb ⟨g2, X2, rfl, hb, m2, s2⟩; replace k0 := (hb.block _ (Pl.blk_lt k0)).trans k0; replace k1 := (hb.block _ (Pl.blk_lt k1)).trans k1; replace kB := (hb.block _ (Pl.blk_lt kB)).trans kB; replace r0 := r0.below hb; replace r2 := r2.below hb; replace m0 := m0.below hb; replace BW := Rw.next BW hb; clear hb; have t3 : True := trivial; have pa := Pl.one k0; obtain ⟨pb, pc⟩ := Pl.two k1)
        | (go_at_call 18; clear pa pb pc; clear t3; have kB1 := kB; clear kB1; have xB := Pl.blk_lt kB; refine (hS _ _ _ _ _ _ _ _ _ _ _ m0.rd m2.rd s0 s2).mono ?_; rintro e wc ⟨v4, FW, rfl, hos, sW, hb⟩; replace k0 := (hb.block _ (Pl.blk_lt k0)).trans k0; replace k1 := (hb.block _ (Pl.blk_lt k1)).trans k1; replace kB := (hb.block _ (Pl.blk_lt kB)).trans kB; replace r0 := r0.below hb; replace r2 := r2.below hb; replace BW := Rw.next BW hb; clear hb; have lFW := HSl.out FW sW; obtain ⟨aW, gW, cW, rfl, mW⟩ := hos.form lFW; have HSW : Hid (St.told FW = M) := sW; clear sW m0 m2 s0 s2 hos lFW; have pa := Pl.one k0; obtain ⟨pb, pc⟩ := Pl.two k1; have x0 := Pl.one kB; have fB := Vl.free kB)
        | (go_at_call 18; clear pa pb pc; clear t3; refine (hS _ _ _ _ _ _ _ _ _ _ _ m0.rd m2.rd s0 s2).mono ?_; rintro e wc ⟨v4, FW, rfl, hos, sW, hb⟩; replace k0 := (hb.block _ (Pl.blk_lt k0)).trans k0; replace k1 := (hb.block _ (Pl.blk_lt k1)).trans k1; replace r0 := r0.below hb; replace r2 := r2.below hb; replace BW := Rw.next BW hb; clear hb; have lFW := HSl.out FW sW; obtain ⟨aW, gW, cW, rfl, mW⟩ := hos.form lFW; have HSW : Hid (St.told FW = M) := sW; clear sW m0 m2 s0 s2 hos lFW; have pa := Pl.one k0; obtain ⟨pb, pc⟩ := Pl.two k1)
        | (go_at_call 18; clear pa pb pc; clear t3; have xW := BW.size; have hb := Pl.below_alloc1 (wb) (.cells #[.slice none 0 0] 25); have xn0 : (wb).heap.size ≠ w.heap.size := Nat.ne_of_gt (Pl.blk_lt k0); have xn1 : (wb).heap.size ≠ w.heap.size + 1 := Nat.ne_of_gt (Pl.blk_lt k1); have xn2 := xn0.symm; have xn3 := xn1.symm; replace k0 := (hb.block _ (Pl.blk_lt k0)).trans k0; replace k1 := (hb.block _ (Pl.blk_lt k1)).trans k1; replace r0 := r0.below hb; replace r2 := r2.below hb; replace m0 := m0.below hb; replace m2 := m2.below hb; replace BW := Rw.next BW hb; have kB : ((wb).alloc (.cells #[.slice none 0 0] 25)).heap[wb.heap.size]? = some (.cells #[.slice none 0 0] 25 (0, 0)) := Pl.at_new rfl; clear hb; have xB := Pl.blk_lt kB; refine (hS _ _ _ _ _ _ _ _ _ _ _ m0.rd m2.rd s0 s2).mono ?_; rintro e wc ⟨v4, FW, rfl, hos, sW, hb⟩; replace k0 := (hb.block _ (Pl.blk_lt k0)).trans k0; replace k1 := (hb.block _ (Pl.blk_lt k1)).trans k1; replace kB := (hb.block _ (Pl.blk_lt kB)).trans kB; replace r0 := r0.below hb; replace r2 := r2.below hb; replace BW := Rw.next BW hb; clear hb; have lFW := HSl.out FW sW; obtain ⟨aW, gW, cW, rfl, mW⟩ := hos.form lFW; have HSW : Hid (St.told FW = M) := sW; clear sW m0 m2 s0 s2 hos lFW; have pa := Pl.one k0; obtain ⟨pb, pc⟩ := Pl.two k1; have x0 := Pl.one kB; have fB := Vl.free kB))
      all_goals (go_wp2_with fail; go_meet)
      all_goals (first
        | (obtain ⟨z1, z2⟩ := fin1 (cW := cW) mW kB xB; exact ⟨_, _, gW, _, FW, rfl, rfl, z1, z2, HSW.out, Vl.bset BW xW⟩)
        | exact ⟨_, _, gW, _, FW, rfl, rfl, box, mW.rd.below (Pl.below_alloc1 _ _), HSW.out, Rw.next BW (Pl.below_alloc1 _ _)⟩)
  case rest =>
    clear BW pa pb pc k0 k1 r0 r2 B0
    obtain ⟨T, aW, gW, cW, FW, rfl, rfl, kT, mW, sW, hb⟩ := hcut
    have HK0 : Hid (wc.heap[w.heap.size]? = some (.cells #[.slice a0 Q0.length c0] 36 (0, 0))) := (hb.block _ (Pl.blk_lt HK.out.1)).trans HK.out.1
    have HK1 : Hid (wc.heap[w.heap.size + 1]? = some (.cells #[.int .i64 q2, .slice a2 Q2.length c2] 39 (0, 0))) := (hb.block _ (Pl.blk_lt HK.out.2)).trans HK.out.2
    have HKT : Hid (wc.heap[T]? = some (.cells #[.slice aW FW.length cW] 25 (0, 0))) := kT
    have HMW : Hid (St.Rd wc aW gW 0 FW) := mW
    have HSW : Hid (St.told FW = M) := sW
    have BC0 : Hid (Below v1.heap.size v1 wc) := hb
    have HBW : Hid (Below w.heap.size w wc) := Rw.next HB0.out hb
    have BC : Below wc.heap.size wc wc := Below.refl _ _
    clear hb kT mW sW HK HB0
    have k0c := (BC.block _ (Pl.blk_lt HK0.out)).trans HK0.out
    have pa := Pl.one k0c
    have t1 : True := trivial
    go_wp2_with (first
      | (go_at_call 19; clear t1; clear k0c pa; refine (St.toSt_any _ _ _ _ _ _ (HR0.out.below BC0.out)).mono ?_; rintro e wx ⟨g0, X0, rfl, hb, m0, s0⟩; have n1 := hb.size; have hgl : X0.length ≠ 0 → g0 < wx.heap.size := fun h => Pl.blk_lt (m0.blk.resolve_left h).2.choose_spec; replace BC := Rw.next BC hb; clear hb; have k1c := (BC.block _ (Pl.blk_lt HK1.out)).trans HK1.out; obtain ⟨pb, pc⟩ := Pl.two k1c; have lk1c := Pl.blk_lt k1c; have t2 : True := trivial)
      | (go_at_call 20; clear t2; clear k1c pb pc lk1c; obtain ⟨W2, hW2⟩ : ∃ W2, W2 = wx.alloc (.cells #[.slice (some ⟨g0, 0, none⟩) X0.length X0.length] 25) := ⟨_, rfl⟩; rw [← hW2]; have kx : W2.heap[wx.heap.size]? = some (.cells #[.slice (some ⟨g0, 0, none⟩) X0.length X0.length] 25 (0, 0)) := (by subst hW2; exact Pl.at_new rfl); have hb : Below wx.heap.size wx W2 := (by subst hW2; exact Pl.below_alloc1 _ _); clear hW2; replace m0 := m0.below hb; replace BC := Rw.next BC hb; clear hb; have n2 := Pl.blk_lt kx; refine (Rl.toL_any _ _ _ _ _ _ _ (HR2.out.below (Rw.next BC0.out BC))).mono ?_; rintro e wy ⟨g2, X2, rfl, hb, m2, s2⟩; have n3 := hb.size; replace kx := (hb.block _ (Pl.blk_lt kx)).trans kx; replace m0 := m0.below hb; replace BC := Rw.next BC hb; clear hb; have HN1 : Hid (wc.heap.size ≤ wx.heap.size ∧ wx.heap.size < W2.heap.size ∧ W2.heap.size ≤ wy.heap.size) := ⟨n1, n2, n3⟩; clear n1 n2 n3; have xa := Pl.one kx; have lx := Pl.blk_lt kx; have t3 : True := trivial)
      | (go_at_call 21; clear t3 xa lx; obtain ⟨W3, hW3⟩ : ∃ W3, W3 = wy.alloc (.cells #[.int .i64 q2, .slice (some ⟨g2, 0, none⟩) X2.length X2.length] 46) := ⟨_, rfl⟩; rw [← hW3]; have ky : W3.heap[wy.heap.size]? = some (.cells #[.int .i64 q2, .slice (some ⟨g2, 0, none⟩) X2.length X2.length] 46 (0, 0)) := (by subst hW3; exact Pl.at_new rfl); have hb : Below wy.heap.size wy W3 := (by subst hW3; exact Pl.below_alloc1 _ _); clear hW3; replace kx := (hb.block _ (Pl.blk_lt kx)).trans kx; replace m0 := m0.below hb; replace m2 := m2.below hb; replace BC := Rw.next BC hb; clear hb; have n4 := Pl.blk_lt ky; refine (hI _ _ _ _ _ _ _ _ _ _ _ m0.rd m2.rd s0 s2).mono ?_; rintro e wz ⟨v5, FI, rfl, hos, sI, hb⟩; have n5 := hb.size; obtain ⟨aI, gI, cI, rfl, mI⟩ := hos.form (HSl.out FI sI); have hgi : FI.length ≠ 0 → gI < wz.heap.size := fun h => Pl.blk_lt (mI.blk.resolve_left h).2.choose_spec; replace kx := (hb.block _ (Pl.blk_lt kx)).trans kx; replace ky := (hb.block _ (Pl.blk_lt ky)).trans ky; replace m0 := m0.below hb; replace m2 := m2.below hb; replace BC := Rw.next BC hb; clear hb; have HN2 : Hid (wy.heap.size < W3.heap.size ∧ W3.heap.size ≤ wz.heap.size) := ⟨n4, n5⟩; have HcF : Hid (St.kN FI 1 FI.length ≤ 10000000) := HKM.out FI sI; clear n4 n5 hos; have kTc := (BC.block _ (Pl.blk_lt HKT.out)).trans HKT.out; have ta := Pl.one kTc; have lkTc := Pl.blk_lt kTc; have t4 : True := trivial)
      | (go_at_call 22; clear t4; clear kTc ta lkTc; obtain ⟨W4, hW4⟩ : ∃ W4, W4 = wz.alloc (.cells #[.slice aI FI.length cI] 25) := ⟨_, rfl⟩; rw [← hW4]; have kI : W4.heap[wz.heap.size]? = some (.cells #[.slice aI FI.length cI] 25 (0, 0)) := (by subst hW4; exact Pl.at_new rfl); have hb : Below wz.heap.size wz W4 := (by subst hW4; exact Pl.below_alloc1 _ _); clear hW4; replace kx := (hb.block _ (Pl.blk_lt kx)).trans kx; replace ky := (hb.block _ (Pl.blk_lt ky)).trans ky; replace m0 := m0.below hb; replace m2 := m2.below hb; replace mI := mI.below hb; replace BC := Rw.next BC hb; clear hb; refine (St.eqSt_same _ _ _ _ _ _ _ _ FI FW _ mI.rd (HMW.out.below BC) (sI.trans HSW.out.symm)).mono ?_; rintro e w5 ⟨rfl, hb⟩; replace kx := (hb.block _ (Pl.blk_lt kx)).trans kx; replace ky := (hb.block _ (Pl.blk_lt ky)).trans ky; replace kI := (hb.block _ (Pl.blk_lt kI)).trans kI; replace m0 := m0.below hb; replace m2 := m2.below hb; replace mI := mI.below hb; replace BC := Rw.next BC hb; clear hb; have k0c := (BC.block _ (Pl.blk_lt HK0.out)).trans HK0.out; have pa := Pl.one k0c; have xa := Pl.one kx))
    go_region_held3 (fun w' => w'.cell? ⟨wx.heap.size, 0, none⟩ = some (.slice (some ⟨g0, 0, none⟩) X0.length X0.length) ∧ w'.cell? ⟨w.heap.size, 0, none⟩ = some (.slice a0 Q0.length c0)) (go_keep) (first
      | (go_at_call 19; clear k0c pa; clear xa; refine (St.toSt_any _ _ _ _ _ _ (HR0.out.below (Rw.next (Rw.next BC0.out BC) ((Below.refl _ _).drew)))).mono ?_; rintro e w6 ⟨g9, X9, rfl, hb, m9, s9⟩; replace hb := Rw.next ((Below.refl _ _).drew) hb; replace kx := (hb.block _ (Pl.blk_lt kx)).trans kx; replace ky := (hb.block _ (Pl.blk_lt ky)).trans ky; replace kI := (hb.block _ (Pl.blk_lt kI)).trans kI; replace m0 := m0.below hb; replace m2 := m2.below hb; replace mI := mI.below hb; replace BC := Rw.next BC hb; clear hb; have k0c := (BC.block _ (Pl.blk_lt HK0.out)).trans HK0.out; have pa := Pl.one k0c; have xa := Pl.one kx)
      | (go_at_call 22; clear k0c pa; clear xa; refine (St.eqSt_same _ _ _ _ _ _ _ _ X0 X9 _ m0.rd m9.rd (s0.trans s9.symm)).mono ?_; rintro e w7 ⟨rfl, hb⟩; clear m9 s9; replace kx := (hb.block _ (Pl.blk_lt kx)).trans kx; replace ky := (hb.block _ (Pl.blk_lt ky)).trans ky; replace kI := (hb.block _ (Pl.blk_lt kI)).trans kI; replace m0 := m0.below hb; replace m2 := m2.below hb; replace mI := mI.below hb; replace BC := Rw.next BC hb; clear hb; have k0c := (BC.block _ (Pl.blk_lt HK0.out)).trans HK0.out; have pa := Pl.one k0c; have xa := Pl.one kx))
    go_wp2
    clear k0c pa
    clear xa
    have k1c := (BC.block _ (Pl.blk_lt HK1.out)).trans HK1.out
    obtain ⟨pb, pc⟩ := Pl.two k1c
    obtain ⟨ya, yb⟩ := Pl.two ky
    go_region_held3 (fun w' => w'.cell? ⟨wy.heap.size, 0, none⟩ = some (.int .i64 q2) ∧ w'.cell? ⟨wy.heap.size, 1, none⟩ = some (.slice (some ⟨g2, 0, none⟩) X2.length X2.length) ∧ w'.cell? ⟨w.heap.size + 1, 0, none⟩ = some (.int .i64 q2) ∧ w'.cell? ⟨w.heap.size + 1, 1, none⟩ = some (.slice a2 Q2.length c2)) (go_keep) (first
      | (go_at_call 20; clear k1c pb pc; clear ya yb; refine (Rl.toL_any _ _ _ _ _ _ _ (HR2.out.below (Rw.next (Rw.next BC0.out BC) ((Below.refl _ _).drew)))).mono ?_; rintro e w8 ⟨g9, X9, rfl, hb, m9, s9⟩; replace hb := Rw.next ((Below.refl _ _).drew) hb; replace kx := (hb.block _ (Pl.blk_lt kx)).trans kx; replace ky := (hb.block _ (Pl.blk_lt ky)).trans ky; replace kI := (hb.block _ (Pl.blk_lt kI)).trans kI; replace m0 := m0.below hb; replace m2 := m2.below hb; replace mI := mI.below hb; replace BC := Rw.next BC hb; clear hb; have k1c := (BC.block _ (Pl.blk_lt HK1.out)).trans HK1.out; obtain ⟨pb, pc⟩ := Pl.two k1c; obtain ⟨ya, yb⟩ := Pl.two ky)
      | (go_at_call 23; clear k1c pb pc; clear ya yb; refine (Rl.eqL_same _ _ _ _ _ _ _ _ _ X2 X9 _ m2.rd m9.rd (s2.trans s9.symm)).mono ?_; rintro e w9 ⟨rfl, hb⟩; clear m9 s9; replace kx := (hb.block _ (Pl.blk_lt kx)).trans kx; replace ky := (hb.block _ (Pl.blk_lt ky)).trans ky; replace kI := (hb.block _ (Pl.blk_lt kI)).trans kI; replace m0 := m0.below hb; replace m2 := m2.below hb; replace mI := mI.below hb; replace BC := Rw.next BC hb; clear hb; have k1c := (BC.block _ (Pl.blk_lt HK1.out)).trans HK1.out; obtain ⟨pb, pc⟩ := Pl.two k1c; obtain ⟨ya, yb⟩ := Pl.two ky))
    clear k1c pb pc
    have xa := Pl.one kx
    have HU0 : Hid (∀ z, St.UseN X0 g0 z → wc.heap.size ≤ z ∧ z < wx.heap.size) := fun z hu => St.own_use' m0 hgl hu
    have HU1 : Hid (∀ z, Rl.UseQ X2 z → W2.heap.size ≤ z ∧ z < wy.heap.size) := fun z ⟨r, hr, h0, e⟩ => by obtain ⟨_, q1, q2, _⟩ := m2.each r hr h0; omega
    have HUI : Hid (∀ z, St.UseN FI gI z → W3.heap.size ≤ z ∧ z < wz.heap.size) := fun z hu => St.own_use' mI hgi hu
    have HcX : Hid (St.kN X0 1 X0.length ≤ 10000000) := (by have e0 := St.kN_told s0 1 X0.length; have l0 : X0.length = Q0.length := (by rw [← St.told_len, ← St.told_len, s0]); rw [l0] at e0 ⊢; have h0 := Hc0.out; omega : St.kN X0 1 X0.length ≤ 10000000)
    obtain ⟨Ka, hKa⟩ : ∃ Ka : Nat, Ka = St.kN X0 1 X0.length := ⟨_, rfl⟩
    have HKa : Hid (Ka = St.kN X0 1 X0.length) := hKa
    have HKp : Hid (0 < Ka) := (by rw [hKa]; have := St.kN_ge X0 1 X0.length; omega : 0 < Ka)
    have HcY : Hid (Ka + Rl.cnt X2 X2.length * 2 ≤ 100000000000) := (by rw [HKa.out]; have hx := HcX.out; have e1 := Rl.cnt_said s2 X2.length; have l1 : X2.length = Q2.length := (by rw [← Rl.said_len, ← Rl.said_len, s2]); rw [l1] at e1 ⊢; have h1 := Hc2.out; omega : Ka + Rl.cnt X2 X2.length * 2 ≤ 100000000000)
    obtain ⟨Kb, hKb⟩ : ∃ Kb : Nat, Kb = Ka + Rl.cnt X2 X2.length * 2 := ⟨_, rfl⟩
    have HKb : Hid (Kb = Ka + Rl.cnt X2 X2.length * 2) := hKb
    have hKbn : ¬ ((Kb : Int) < 0) := by omega
    obtain ⟨Kc, hKc⟩ : ∃ Kc : Nat, Kc = St.kN FI 1 FI.length := ⟨_, rfl⟩
    have HKc : Hid (Kc = St.kN FI 1 FI.length) := hKc
    have hKcn : ¬ ((Kc : Int) < 0) := by omega
    clear hKa hKb hKc
    have t5 : True := trivial
    go_wp2_with (first
      | (go_at_call 24; clear t5 xa; refine (St.markSt_any 1 (by omega) _ g0 _ wc.heap.size wx.heap.size X0 _ m0 (Nat.le_trans HcX.out (by omega))).mono ?_; rw [← HKa.out]; rintro e wA ⟨rfl, kp, _⟩; have kk := kp.block _ (Pl.blk_lt ky) (fun hu => by have q := HU0.out _ hu; have hN1 := HN1.out; have hN2 := HN2.out; omega); replace ky := kk.trans ky; clear kk; have kk := kp.block _ (Pl.blk_lt kI) (fun hu => by have q := HU0.out _ hu; have hN1 := HN1.out; have hN2 := HN2.out; omega); replace kI := kk.trans kI; clear kk; replace m2 := m2.keep (fun z hz hz2 => kp.block z hz2 (fun hu => by have q := HU0.out _ hu; have hN1 := HN1.out; have hN2 := HN2.out; omega)); replace mI := mI.keep (fun z hz hz2 => kp.block z hz2 (fun hu => by have q := HU0.out _ hu; have hN1 := HN1.out; have hN2 := HN2.out; omega)); replace BC := kp.below BC BC.size (fun z hu => by have q := HU0.out _ hu; omega); clear kp m0 kx; obtain ⟨ya, yb⟩ := Pl.two ky; have t6 : True := trivial)
      | (go_at_call 25; clear t6 ya yb; refine (Rl.markL_any Ka HKp.out q2 _ g2 _ W2.heap.size wy.heap.size X2 _ m2 HcY.out).mono ?_; rw [← HKb.out]; rintro e wB ⟨rfl, kp, _⟩; have kk := kp.block _ (Pl.blk_lt kI) (fun hu => by have q := HU1.out _ hu; have hN1 := HN1.out; have hN2 := HN2.out; omega); replace kI := kk.trans kI; clear kk; replace mI := mI.keep (fun z hz hz2 => kp.block z hz2 (fun hu => by have q := HU1.out _ hu; have hN1 := HN1.out; have hN2 := HN2.out; omega)); replace BC := kp.below BC BC.size (fun z hu => by have q := HU1.out _ hu; have hN1 := HN1.out; have hN2 := HN2.out; omega); clear kp m2 ky; have kTc := (BC.block _ (Pl.blk_lt HKT.out)).trans HKT.out; have ta := Pl.one kTc; have ia := Pl.one kI; have t7 : True := trivial)
      | (go_at_call 22; clear t7; clear kTc ta; clear ia; refine (St.eqSt_same _ _ _ _ _ _ _ _ FI FW _ mI.rd (HMW.out.below BC) (sI.trans HSW.out.symm)).mono ?_; rintro e wC ⟨rfl, hb⟩; replace kI := (hb.block _ (Pl.blk_lt kI)).trans kI; replace mI := mI.below hb; replace BC := Rw.next BC hb; clear hb; have ia := Pl.one kI; have t8 : True := trivial)
      | (go_at_call 24; clear t8 ia; refine (St.markSt_any 1 (by omega) _ gI _ W3.heap.size wz.heap.size FI _ mI (Nat.le_trans HcF.out (by omega))).mono ?_; rw [← HKc.out]; rintro e wD ⟨rfl, kp, mk⟩; have kk := kp.block _ (Pl.blk_lt kI) (fun hu => by have q := HUI.out _ hu; have hN1 := HN1.out; have hN2 := HN2.out; omega); replace kI := kk.trans kI; clear kk; replace BC := kp.below BC BC.size (fun z hu => by have q := HUI.out _ hu; have hN1 := HN1.out; have hN2 := HN2.out; omega); clear kp mI; have ia := Pl.one kI; have t9 : True := trivial)
      | (go_at_call 26; clear t9 ia; refine (St.heldSt_any 1 (by omega) _ gI _ FI _ mk (Nat.le_trans HcF.out (by omega))).mono ?_; rw [← HKc.out]; rintro e wE ⟨rfl, hb⟩; replace kI := (hb.block _ (Pl.blk_lt kI)).trans kI; replace mk := mk.below hb; replace BC := Rw.next BC hb; clear hb))
    have k0 := (BC.block _ (Pl.blk_lt HK0.out)).trans HK0.out
    have k1 := (BC.block _ (Pl.blk_lt HK1.out)).trans HK1.out
    have r0 := HR0.out.below (Rw.next BC0.out BC)
    have r2 := HR2.out.below (Rw.next BC0.out BC)
    have pa := Pl.one k0
    obtain ⟨pb, pc⟩ := Pl.two k1
    have BW : Below wE.heap.size wE wE := Below.refl _ _
    have t1 : True := trivial
    have HKI : Hid (wE.heap[wz.heap.size]? = some (.cells #[.slice aI FI.length cI] 25 (0, 0)) ∧ Below wc.heap.size wc wE) := ⟨kI, BC⟩
    have HMk : Hid (St.MkN wE 1 aI gI FI) := mk
    obtain ⟨V0, hV0⟩ : ∃ V0, V0 = wc := ⟨_, rfl⟩
    subst hV0
    clear kI BC mk s0 s2
    go_cut [17, 18] from 19 (fun s6 s7 wx => ∃ (T : Nat) (aW : Option Addr) (gW cW : Nat) (FW : List St.Nm), s6 = .pointer (some ⟨T, 0, none⟩) ∧ s7 = .bool cb ∧ wx.heap[T]? = some (.cells #[.slice aW FW.length cW] 25 (0, 0)) ∧ St.Rd wx aW gW 0 FW ∧ St.told FW = M ∧ Below wE.heap.size wE wx)
    case first =>
      go_region_held3 (fun w' => w'.cell? ⟨w.heap.size, 0, none⟩ = some (.slice a0 Q0.length c0) ∧ w'.cell? ⟨w.heap.size + 1, 0, none⟩ = some (.int .i64 q2) ∧ w'.cell? ⟨w.heap.size + 1, 1, none⟩ = some (.slice a2 Q2.length c2)) (go_keep) (first
        | (go_at_call 19; clear pa pb pc; clear t1; have kB1 := kB; clear kB1; have hb : Below wE.heap.size wE wE.drew := (Below.refl _ _).drew; replace k0 := (hb.block _ (Pl.blk_lt k0)).trans k0; replace k1 := (hb.block _ (Pl.blk_lt k1)).trans k1; replace r0 := r0.below hb; replace r2 := r2.below hb; replace BW := Rw.next BW hb; clear hb; refine (St.toSt_any _ _ _ _ _ _ r0).mono ?_; rintro e wa ⟨g0, X0, rfl, hb, m0, s0⟩; replace k0 := (hb.block _ (Pl.blk_lt k0)).trans k0; replace k1 := (hb.block _ (Pl.blk_lt k1)).trans k1; replace kB := (hb.block _ (Pl.blk_lt kB)).trans kB; replace r0 := r0.below hb; replace r2 := r2.below hb; replace BW := Rw.next BW hb; clear hb; have t2 : True := trivial; have pa := Pl.one k0; obtain ⟨pb, pc⟩ := Pl.two k1)
        | (go_at_call 19; clear pa pb pc; clear t1; have hb : Below wE.heap.size wE wE.drew := (Below.refl _ _).drew; replace k0 := (hb.block _ (Pl.blk_lt k0)).trans k0; replace k1 := (hb.block _ (Pl.blk_lt k1)).trans k1; replace r0 := r0.below hb; replace r2 := r2.below hb; replace BW := Rw.next BW hb; clear hb; refine (St.toSt_any _ _ _ _ _ _ r0).mono ?_; rintro e wa ⟨g0, X0, rfl, hb, m0, s0⟩; replace k0 := (hb.block _ (Pl.blk_lt k0)).trans k0; replace k1 := (hb.block _ (Pl.blk_lt k1)).trans k1; replace r0 := r0.below hb; replace r2 := r2.below hb; replace BW := Rw.next BW hb; clear hb; have t2 : True := trivial; have pa := Pl.one k0; obtain ⟨pb, pc⟩ := Pl.two k1)
        | (go_at_call 19; clear pa pb pc; clear t1; have hb : Below wE.heap.size wE wE.drew := (Below.refl _ _).drew; replace k0 := (hb.block _ (Pl.blk_lt k0)).trans k0; replace k1 := (hb.block _ (Pl.blk_lt k1)).trans k1; replace r0 := r0.below hb; replace r2 := r2.below hb; replace BW := Rw.next BW hb; clear hb; have xW := BW.size; have hb := Pl.below_alloc1 (wE.drew) (.cells #[.slice none 0 0] 25); have xn0 : (wE).heap.size ≠ w.heap.size := Nat.ne_of_gt (Pl.blk_lt k0); have xn1 : (wE).heap.size ≠ w.heap.size + 1 := Nat.ne_of_gt (Pl.blk_lt k1); have xn2 := xn0.symm; have xn3 := xn1.symm; replace k0 := (hb.block _ (Pl.blk_lt k0)).trans k0; replace k1 := (hb.block _ (Pl.blk_lt k1)).trans k1; replace r0 := r0.below hb; replace r2 := r2.below hb; replace BW := Rw.next BW hb; have kB : ((wE.drew).alloc (.cells #[.slice none 0 0] 25)).heap[wE.heap.size]? = some (.cells #[.slice none 0 0] 25 (0, 0)) := Pl.at_new rfl; clear hb; refine (St.toSt_any _ _ _ _ _ _ r0).mono ?_; rintro e wa ⟨g0, X0, rfl, hb, m0, s0⟩; replace k0 := (hb.block _ (Pl.blk_lt k0)).trans k0; replace k1 := (hb.block _ (Pl.blk_lt k1)).trans k1; replace kB := (hb.block _ (Pl.blk_lt kB)).trans kB; replace r0 := r0.below hb; replace r2 := r2.below hb; replace BW := Rw.next BW hb; clear hb; have t2 : True := trivial; have pa := Pl.one k0; obtain ⟨pb, pc⟩ := Pl.two k1)
        | (go_at_call 20; clear pa pb pc; clear t2; have kB1 := kB; clear kB1; refine (Rl.toL_any _ _ _ _ _ _ _ r2).mono ?_; rintro e wb ⟨g2, X2, rfl, hb, m2, s2⟩; replace k0 := (hb.block _ (Pl.blk_lt k0)).trans k0; replace k1 := (hb.block _ (Pl.blk_lt k1)).trans k1; replace kB := (hb.block _ (Pl.blk_lt kB)).trans kB; replace r0 := r0.below hb; replace r2 := r2.below hb; replace m0 := m0.below hb; replace BW := Rw.next BW hb; clear hb; have t3 : True := trivial; have pa := Pl.one k0; obtain ⟨pb, pc⟩ := Pl.two k1)
        | (go_at_call 20; clear pa pb pc; clear t2; refine (Rl.toL_any _ _ _ _ _ _ _ r2).mono ?_; rintro e wb ⟨g2, X2, rfl, hb, m2, s2⟩; replace k0 := (hb.block _ (Pl.blk_lt k0)).trans k0; replace k1 := (hb.block _ (Pl.blk_lt k1)).trans k1; replace r0 := r0.below hb; replace r2 := r2.below hb; replace m0 := m0.below hb; replace BW := Rw.next BW hb; clear hb; have t3 : True := trivial; have pa := Pl.one k0; obtain ⟨pb, pc⟩ := Pl.two k1)
        | (go_at_call 20; clear pa pb pc; clear t2; have xW := BW.size; have hb := Pl.below_alloc1 (wa) (.cells #[.slice none 0 0] 25); have xn0 : (wa).heap.size ≠ w.heap.size := Nat.ne_of_gt (Pl.blk_lt k0); have xn1 : (wa).heap.size ≠ w.heap.size + 1 := Nat.ne_of_gt (Pl.blk_lt k1); have xn2 := xn0.symm; have xn3 := xn1.symm; replace k0 := (hb.block _ (Pl.blk_lt k0)).trans k0; replace k1 := (hb.block _ (Pl.blk_lt k1)).trans k1; replace r0 := r0.below hb; replace r2 := r2.below hb; replace m0 := m0.below hb; replace BW := Rw.next BW hb; have kB : ((wa).alloc (.cells #[.slice none 0 0] 25)).heap[wa.heap.size]? = some (.cells #[.slice none 0 0] 25 (0, 0)) := Pl.at_new rfl; clear hb; refine (Rl.toL_any _ _ _ _ _ _ _ r2).mono ?_; rintro e wb ⟨g2, X2, rfl, hb, m2, s2⟩; replace k0 := (hb.block _ (Pl.blk_lt k0)).trans k0; replace k1 := (hb.block _ (Pl.blk_lt k1)).trans k1; replace kB := (hb.block _ (Pl.blk_lt kB)).trans kB; replace r0 := r0.below hb; replace r2 := r2.below hb; replace m0 := m0.below hb; replace BW := Rw.next BW hb; clear hb; have t3 : True := trivial; have pa := Pl.one k0; obtain ⟨pb, pc⟩ := Pl.two k1)
        | (go_at_call 21; clear pa pb pc; clear t3; have kB1 := kB; clear kB1; have xB := Pl.blk_lt kB; refine (hI _ _ _ _ _ _ _ _ _ _ _ m0.rd m2.rd s0 s2).mono ?_; rintro e wc ⟨v4, FW, rfl, hos, sW, hb⟩; replace k0 := (hb.block _ (Pl.blk_lt k0)).trans k0; replace k1 := (hb.block _ (Pl.blk_lt k1)).trans k1; replace kB := (hb.block _ (Pl.blk_lt kB)).trans kB; replace r0 := r0.below hb; replace r2 := r2.below hb; replace BW := Rw.next BW hb; clear hb; have lFW := HSl.out FW sW; obtain ⟨aW, gW, cW, rfl, mW⟩ := hos.form lFW; have HSW : Hid (St.told FW = M) := sW; clear sW m0 m2 s0 s2 hos lFW; have pa := Pl.one k0; obtain ⟨pb, pc⟩ := Pl.two k1; have x0 := Pl.one kB; have fB := Vl.free kB)
        | (go_at_call 21; clear pa pb pc; clear t3; refine (hI _ _ _ _ _ _ _ _ _ _ _ m0.rd m2.rd s0 s2).mono ?_; rintro e wc ⟨v4, FW, rfl, hos, sW, hb⟩; replace k0 := (hb.block _ (Pl.blk_lt k0)).trans k0; replace k1 := (hb.block _ (Pl.blk_lt k1)).trans k1; replace r0 := r0.below hb; replace r2 := r2.below hb; replace BW := Rw.next BW hb; clear hb; have lFW := HSl.out FW sW; obtain ⟨aW, gW, cW, rfl, mW⟩ := hos.form lFW; have HSW : Hid (St.told FW = M) := sW; clear sW m0 m2 s0 s2 hos lFW; have pa := Pl.one k0; obtain ⟨pb, pc⟩ := Pl.two k1)
        | (go_at_call 21; clear pa pb pc; clear t3; have xW := BW.size; have hb := Pl.below_alloc1 (wb) (.cells #[.slice none 0 0] 25); have xn0 : (wb).heap.size ≠ w.heap.size := Nat.ne_of_gt (Pl.blk_lt k0); have xn1 : (wb).heap.size ≠ w.heap.size + 1 := Nat.ne_of_gt (Pl.blk_lt k1); have xn2 := xn0.symm; have xn3 := xn1.symm; replace k0 := (hb.block _ (Pl.blk_lt k0)).trans k0; replace k1 := (hb.block _ (Pl.blk_lt k1)).trans k1; replace r0 := r0.below hb; replace r2 := r2.below hb; replace m0 := m0.below hb; replace m2 := m2.below hb; replace BW := Rw.next BW hb; have kB : ((wb).alloc (.cells #[.slice none 0 0] 25)).heap[wb.heap.size]? = some (.cells #[.slice none 0 0] 25 (0, 0)) := Pl.at_new rfl; clear hb; have xB := Pl.blk_lt kB; refine (hI _ _ _ _ _ _ _ _ _ _ _ m0.rd m2.rd s0 s2).mono ?_; rintro e wc ⟨v4, FW, rfl, hos, sW, hb⟩; replace k0 := (hb.block _ (Pl.blk_lt k0)).trans k0; replace k1 := (hb.block _ (Pl.blk_lt k1)).trans k1; replace kB := (hb.block _ (Pl.blk_lt kB)).trans kB; replace r0 := r0.below hb; replace r2 := r2.below hb; replace BW := Rw.next BW hb; clear hb; have lFW := HSl.out FW sW; obtain ⟨aW, gW, cW, rfl, mW⟩ := hos.form lFW; have HSW : Hid (St.told FW = M) := sW; clear sW m0 m2 s0 s2 hos lFW; have pa := Pl.one k0; obtain ⟨pb, pc⟩ := Pl.two k1; have x0 := Pl.one kB; have fB := Vl.free kB))
      all_goals (go_wp2_with fail; go_meet)
      all_goals (first
        | (obtain ⟨z1, z2⟩ := fin1 (cW := cW) mW kB xB; exact ⟨_, _, gW, _, FW, rfl, rfl, z1, z2, HSW.out, Vl.bset BW xW⟩)
        | exact ⟨_, _, gW, _, FW, rfl, rfl, box, mW.rd.below (Pl.below_alloc1 _ _), HSW.out, Rw.next BW (Pl.below_alloc1 _ _)⟩)
    case rest =>
      clear BW pa pb pc k0 k1 r0 r2
      obtain ⟨T2, aH, gH, cH, FH, rfl, rfl, kH, mH, sH, hb⟩ := hcut
      have kI := (hb.block _ (Pl.blk_lt HKI.out.1)).trans HKI.out.1
      have BC := Rw.next HKI.out.2 hb
      have mk := HMk.out.below hb
      clear hb HKI HMk
      have ha := Pl.one kH
      have kTc := (BC.block _ (Pl.blk_lt HKT.out)).trans HKT.out
      have ta := Pl.one kTc
      have tb : True := trivial
      go_wp2_with (first
        | (go_at_call 22; clear tb; clear kTc ta; clear ha; refine (St.eqSt_same _ _ _ _ _ _ _ _ FH FW _ mH (HMW.out.below BC) (sH.trans HSW.out.symm)).mono ?_; rintro e wH ⟨rfl, hb⟩; replace kI := (hb.block _ (Pl.blk_lt kI)).trans kI; replace mk := mk.below hb; replace BC := Rw.next BC hb; clear hb; have ia := Pl.one kI; have tc : True := trivial)
        | (go_at_call 26; clear tc ia; refine (St.heldSt_any 1 (by omega) _ gI _ FI _ mk (Nat.le_trans HcF.out (by omega))).mono ?_; rw [← HKc.out]; rintro e wK ⟨rfl, hb⟩; replace BC := Rw.next BC hb))
      go_ret
      exact ⟨rfl, Rw.next HBW.out BC⟩

set_option maxRecDepth 100000 in
theorem lifted (os : Os) (started : os.Started) (H : Type) (enc : TypeId × Value → H) :
    ReturnsInHanded {} Tryz.checked os 4 .any (Rows.fnExactStorePutSpec.pre6 enc Tryz.prog Tryz.f4 Rows.fnExactStorePutRow.domain false) (Rows.fnExactStorePutSpec.post enc Tryz.prog Tryz.f4 false true false false) := by
  refine returnsInHanded_of_change (C := Tryz.checked) own started (by kernel_rfl) Tryz.func4
    (ChangeSpec.witness6 (enc := enc) (C := Tryz.checked) false ⟨#[], #[.agg #[.slice none 0 0], .string ByteArray.empty, .agg #[.int .i64 0, .slice none 0 0]], []⟩ 8 (by kernel_rfl) (by kernel_rfl) (by kernel_rfl) (by kernel_rfl)) ?_
  intro W base args ds gs before hval0 hW hcnd _
  have hval : ∀ (j : Nat) t v, Tryz.f4.params[j]? = some t → args[j]? = some v → Value.okWide Tryz.prog W .any base t v := hval0
  have hW' := hW
  obtain ⟨p, q, hA0, hV, rfl, hfz, hnd⟩ := hW
  have hA : DataW.TrodAll enc Tryz.prog W 0 (fun _ => true) true Tryz.f4.params.toList args.toList ds p := hA0
  rw [Tryz.params4] at hA hval
  obtain ⟨v0, vs0, d0, ds0, p0, q0, hargs, rfl, rfl, h0, r0⟩ := trodAll_cons hA
  obtain ⟨v1, vs1, d1, ds1, p1, q1, rfl, rfl, rfl, h1, r1⟩ := trodAll_cons r0
  obtain ⟨v2, vs2, d2, ds2, p2, q2, rfl, rfl, rfl, h2, r2⟩ := trodAll_cons r1
  obtain ⟨rfl, rfl, rfl⟩ := trodAll_nil r2
  obtain rfl : args = #[v0, v1, v2] := by cases args; simp_all
  obtain ⟨rfl, rfl⟩ := trodVars_none hV
  have k0 := h0
  have lt0 : ∀ x ∈ p0, x.block < W.heap.size := by obtain ⟨m, hm⟩ := k0; exact DataW.trod_lt m _ _ _ hm
  obtain ⟨a0, c0, T0, rfl, w0⟩ := St.open_store (hval 0 36 v0 rfl rfl) h0
  obtain ⟨s1, rfl, rfl, rfl, w1⟩ := open_string Tryz.underlying9 (hval 1 9 v1 rfl rfl) h1
  have k2 := h2
  have lt2 : ∀ x ∈ p2, x.block < W.heap.size := by obtain ⟨m, hm⟩ := k2; exact DataW.trod_lt m _ _ _ hm
  obtain ⟨q2, a2, c2, S2, rfl, w2⟩ := Rl.open_rel (hval 2 39 v2 rfl rfl) h2
  clear hA0 hval0
  refine (walk a0 c0 T0 s1 q2 a2 c2 S2 W w0 w1 w2).mono fun e W' ⟨he, bel⟩ => ?_
  subst he
  exact ⟨_, rfl, _, _, _, [], _, [], hW', trodAll_mk1 (shut_bool Tryz.underlying4 _), (trodAll_cons_mk (Below.trod laidOut (by kernel_rfl) (of_decide_eq_true (by kernel_rfl)) k0 bel lt0) (trodAll_cons_mk (shut_string Tryz.underlying9 w1) (trodAll_cons_mk (Below.trod laidOut (by kernel_rfl) (of_decide_eq_true (by kernel_rfl)) k2 bel lt2) trodAll_mk0))), rfl, bel.frame _, fun h => by cases h⟩

theorem over : Rows.fnExactStorePutRow.holds Tryz.pinned (OpenSpec.ofChange Rows.fnExactStorePutSpec) :=
  OpenClaim.holds_of_wide 4 Tryz.f4 rfl rfl rfl rfl rfl rfl rfl ⟨rfl, rfl, rfl, rfl, rfl⟩ rfl rfl rfl rfl rfl (by kernel_rfl) Tryz.func4 (by kernel_rfl)
    (of_decide_eq_true (by kernel_rfl)) (by unfold Func.isWrapper; first | (rw [if_pos (by decide +kernel)]; kernel_rfl) | (rw [if_neg (by decide +kernel)]; exact ⟨rfl, rfl⟩))
    (fun os started H enc _ => lifted os started H enc)

theorem proved : Rows.FnExactStorePutSaid := over
end Go.Proofs.YtecnbenlmbppbaaGreat.fnExactStorePut

namespace Go.Proofs.YtecnbenlmbppbaaGreat
theorem FnExactStorePut_holds : Rows.FnExactStorePutSaid := fnExactStorePut.proved
end Go.Proofs.YtecnbenlmbppbaaGreat
