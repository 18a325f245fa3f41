/- At every relation and row the program and the specification take the row out alike and tell the same code; the answer owns its memory, and the arguments read as before; no condition. -/
import Derived.Test.YtbjbehphdkaahaaRows
import Derived.Test.YtbjbehphdkaahaaMd
import Derived.WalkKit
import Derived.ProofKit
import Derived.OpenShut
import Derived.ShutString
import Derived.ChangeOld
import Derived.Below
import Derived.Deep.RegionWith
import Derived.Deep.RegionHeld3
import Derived.Deep.Cut
namespace Go.Proofs.Ytbjbehphdkaahaa.fnExactRelDrop
open Go.ChangeShapes Go.WideShapes Go.ChangeAt Go.RowKit
set_option linter.unusedVariables false
set_option linter.unusedSimpArgs false

theorem own : ownKnob Try.prog.godebug = none := by kernel_rfl
theorem laidOut : laidOutB Try.prog = true := by kernel_rfl

/-- The relation lies in its box. -/
theorem fin1 {wc : World} {T LO gW oW : Nat} {aW : Option Addr} {FW : List Rl.Rm} {x0 x1 v0 v1 : Value} (r : Rl.Rd wc aW gW oW FW) (u : Rl.Up LO gW FW) (k : wc.heap[T]? = some (.cells #[x0, x1] 25 (0, 0))) (hT : T < LO) :
    ((wc.setCell ⟨T, 0, none⟩ v0).setCell ⟨T, 1, none⟩ v1).heap[T]? = some (.cells #[v0, v1] 25 (0, 0)) ∧ Rl.Rd ((wc.setCell ⟨T, 0, none⟩ v0).setCell ⟨T, 1, none⟩ v1) aW gW oW FW :=
  ⟨Rl.two_set1 (Rl.two_set0 k), Rl.rd_set (Rl.rd_set r (Rl.aw_up u hT)) (Rl.aw_up u hT)⟩
theorem box {w : World} {cs : Array Value} {t : TypeId} : (w.alloc (.cells cs t)).heap[w.heap.size]? = some (.cells cs t (0, 0)) := Pl.at_new rfl

set_option maxRecDepth 8000 in
set_option maxHeartbeats 16000000 in
theorem walk (q0 : Int) (a0 : Option Addr) (c0 : Nat) (S0 : List Rl.Raw) (a1 : Option Addr) (c1 : Nat) (l1 : List Vl.V2) (w : World) (w0 : Rl.IsRel w a0 S0) (w1 : Vl.IsRow w a1 l1) :
    Calls Try.prog 8 #[.agg #[.int .i64 q0, .slice a0 S0.length c0], .agg #[.slice a1 l1.length c1]] w fun e w' => e = .returned (.bool true) ∧ Below w.heap.size w w' := by
  obtain ⟨W0, hW0⟩ : ∃ W0, W0 = (w.alloc (.cells #[.int .i64 q0, .slice a0 S0.length c0] 42)).alloc (.cells #[.slice a1 l1.length c1] 49) := ⟨_, rfl⟩
  have B0 : Below w.heap.size w W0 := by subst hW0; exact Pl.below_alloc2 _ _ _
  have k0 : W0.heap[w.heap.size]? = some (.cells #[.int .i64 q0, .slice a0 S0.length c0] 42 (0, 0)) := by subst hW0; rw [Pl.at_old (by simp), Pl.at_new rfl]
  have k1 : W0.heap[w.heap.size + 1]? = some (.cells #[.slice a1 l1.length c1] 49 (0, 0)) := by subst hW0; rw [Pl.at_new (by simp)]
  replace w0 := w0.below B0
  replace w1 := w1.below B0
  have t1 : True := trivial
  by_cases hbig : 1048576 < S0.length + Rl.totR S0 S0.length
  · have hZ := Rl.szL_big q0 a0 c0 1048576 S0 W0 w0 hbig (Nat.le_refl _)
    go_enter Try.func8, Try.ntmps8
    go_wp2_with (go_at_call 24; rw [← hW0]; clear hW0; refine hZ.mono ?_; rintro e v1 ⟨rfl, hb⟩)
    go_ret
    exact ⟨rfl, Rw.next B0 hb⟩
  obtain ⟨L, hL⟩ : ∃ L : Nat, S0.length + Rl.totR S0 S0.length + L = 1048576 := ⟨1048576 - (S0.length + Rl.totR S0 S0.length), by omega⟩
  have hZ0 := Rl.szL_at q0 a0 c0 1048576 L S0 W0 w0 hL (Nat.le_refl _)
  have hp : ¬ ((L : Int) < 0) := by omega
  have hLl : L ≤ 1048576 := by omega
  obtain ⟨b0, o0, Q0, r0, sQ0, hQ0⟩ := Rl.rd_of_isRel w0 (by omega)
  have Hc0 : Hid (Rl.cnt Q0 Q0.length ≤ 1048576) := (by have q := Rl.cnt_raw sQ0 hQ0 Q0.length (Nat.le_refl _); rw [hQ0] at q ⊢; omega : Rl.cnt Q0 Q0.length ≤ 1048576)
  rw [← hQ0] at hZ0 hW0 k0 ⊢
  clear hQ0 sQ0
  clear w0 hbig hL
  by_cases hbig : L < l1.length + Vl.tot l1 l1.length
  · have hY := fun W h => Vl.szR_big a1 c1 L l1 W h hbig hLl
    go_enter Try.func8, Try.ntmps8
    go_wp2_with (first
      | (go_at_call 24; clear t1; rw [← hW0]; clear hW0; refine hZ0.mono ?_; rintro e v1 ⟨rfl, hb⟩; replace B0 := Rw.next B0 hb; replace k1 := (hb.block _ (Pl.blk_lt k1)).trans k1; replace w1 := w1.below hb; have pa1 := Pl.one k1)
      | (go_at_call 29; refine (hY _ w1).mono ?_; rintro e v1 ⟨rfl, hb⟩))
    go_ret
    exact ⟨rfl, Rw.next B0 hb⟩
  obtain ⟨M, hM⟩ : ∃ M : Nat, l1.length + Vl.tot l1 l1.length + M = L := ⟨L - (l1.length + Vl.tot l1 l1.length), by omega⟩
  have hZ1 := fun W h => Vl.szR_at a1 c1 L M l1 W h hM hLl
  have hp2 : ¬ ((M : Int) < 0) := by omega
  obtain ⟨b1, o1, r1⟩ := Vl.rd_of_isRow w1 (by omega)
  clear hbig hM
  obtain ⟨ar, X, cc, hMA, _⟩ := Rl.MA_some Rp.stOne q0 (Rl.said Q0) q0 [l1]
  have HSm : Hid (X.length ≤ 300 ∧ ∀ l ∈ X, l.length ≤ 6) := Rl.small_ma hMA
  have hS := fun a a' b off c b' off' c' W P h h' (e : Rl.said P = Rl.said Q0) => (Rl.dropS_any q0 a a' b off c b' off' c' P l1 W h h' ar X cc (by rw [e]; exact Rl.drop_bridge hMA)).mono (fun e w' h => Rl.resCS_of h (by have := HSm.out.1; omega))
  have hI := fun a a' b off c b' off' c' W P h h' (e : Rl.said P = Rl.said Q0) (hc : P.length ≤ c) => Rl.dropI_any q0 a a' b off c b' off' c' P l1 W h h' hc ar X cc (by rw [e]; exact hMA)
  have hI2 := fun a a' b off c b' off' c' W P h h' (e : Rl.said P = Rl.said Q0) (hc : P.length ≤ c) => (Rl.dropI_any q0 a a' b off c b' off' c' P l1 W h h' hc ar X cc (by rw [e]; exact hMA)).mono (fun e w' h => Rl.resCS_of h (by have := HSm.out.1; omega))
  clear hMA
  go_enter Try.func8, Try.ntmps8
  go_wp2_with (first
    | (go_at_call 24; clear t1; rw [← hW0]; clear hW0; refine hZ0.mono ?_; rintro e v0 ⟨rfl, hb⟩; clear hZ0; replace w1 := w1.below hb; replace k0 := (hb.block _ (Pl.blk_lt k0)).trans k0; replace k1 := (hb.block _ (Pl.blk_lt k1)).trans k1; replace r0 := r0.below hb; replace r1 := r1.below hb; replace B0 := Rw.next B0 hb; clear hb; obtain ⟨pa0, pb0⟩ := Pl.two k0; have pa1 := Pl.one k1)
    | (go_at_call 29; refine (hZ1 _ w1).mono ?_; rintro e v1 ⟨rfl, hb⟩; clear hZ1 w1; clear pa0 pb0 pa1; replace k0 := (hb.block _ (Pl.blk_lt k0)).trans k0; replace k1 := (hb.block _ (Pl.blk_lt k1)).trans k1; replace r0 := r0.below hb; replace r1 := r1.below hb; replace B0 := Rw.next B0 hb; clear hb; obtain ⟨pa0, pb0⟩ := Pl.two k0; have pa1 := Pl.one k1))
  have t1 : True := trivial
  have BW : Below v1.heap.size v1 v1 := Below.refl _ _
  have HK : Hid (v1.heap[w.heap.size]? = some (.cells #[.int .i64 q0, .slice a0 Q0.length c0] 42 (0, 0)) ∧ v1.heap[w.heap.size + 1]? = some (.cells #[.slice a1 l1.length c1] 49 (0, 0))) := ⟨k0, k1⟩
  have HR0 : Hid (Rl.Rd v1 a0 b0 o0 Q0) := r0
  have HR1 : Hid (Vl.Rd v1 a1 b1 o1 l1) := r1
  have HB0 : Hid (Below w.heap.size w v1) := B0
  go_cut [6, 7] from 17 (fun s6 s7 wx => ∃ (T : Nat) (aW : Option Addr) (gW oW cW : Nat) (FW : List Rl.Rm), s6 = .pointer (some ⟨T, 0, none⟩) ∧ s7 = .int .i64 cc ∧ wx.heap[T]? = some (.cells #[.int .i64 ar, .slice aW FW.length cW] 25 (0, 0)) ∧ Rl.Rd wx aW gW oW FW ∧ Rl.said FW = X ∧ Below v1.heap.size v1 wx)
  case first =>
      go_region_held3 (fun w' => w'.cell? ⟨w.heap.size, 0, none⟩ = some (.int .i64 q0) ∧ w'.cell? ⟨w.heap.size, 1, none⟩ = some (.slice a0 Q0.length c0) ∧ w'.cell? ⟨w.heap.size + 1, 0, none⟩ = some (.slice a1 l1.length c1)) (go_keep) (first
        | (go_at_call 26; clear pa0 pb0 pa1; clear t1; have kB1 := kB; clear kB1; have hb : Below v1.heap.size v1 v1.drew := (Below.refl _ _).drew; replace k0 := (hb.block _ (Pl.blk_lt k0)).trans k0; replace k1 := (hb.block _ (Pl.blk_lt k1)).trans k1; replace r0 := r0.below hb; replace r1 := r1.below hb; replace BW := Rw.next BW hb; clear hb; refine (Rl.toL_any _ _ _ _ _ _ _ r0).mono ?_; rintro e wa ⟨g0, X0, rfl, hb, m0, s0⟩; replace k0 := (hb.block _ (Pl.blk_lt k0)).trans k0; replace k1 := (hb.block _ (Pl.blk_lt k1)).trans k1; replace kB := (hb.block _ (Pl.blk_lt kB)).trans kB; replace r0 := r0.below hb; replace r1 := r1.below hb; replace BW := Rw.next BW hb; clear hb; have t2 : True := trivial; obtain ⟨pa0, pb0⟩ := Pl.two k0; have pa1 := Pl.one k1)
        | (go_at_call 26; clear pa0 pb0 pa1; clear t1; have hb : Below v1.heap.size v1 v1.drew := (Below.refl _ _).drew; replace k0 := (hb.block _ (Pl.blk_lt k0)).trans k0; replace k1 := (hb.block _ (Pl.blk_lt k1)).trans k1; replace r0 := r0.below hb; replace r1 := r1.below hb; replace BW := Rw.next BW hb; clear hb; refine (Rl.toL_any _ _ _ _ _ _ _ r0).mono ?_; rintro e wa ⟨g0, X0, rfl, hb, m0, s0⟩; replace k0 := (hb.block _ (Pl.blk_lt k0)).trans k0; replace k1 := (hb.block _ (Pl.blk_lt k1)).trans k1; replace r0 := r0.below hb; replace r1 := r1.below hb; replace BW := Rw.next BW hb; clear hb; have t2 : True := trivial; obtain ⟨pa0, pb0⟩ := Pl.two k0; have pa1 := Pl.one k1)
        | (go_at_call 26; clear pa0 pb0 pa1; clear t1; have hb : Below v1.heap.size v1 v1.drew := (Below.refl _ _).drew; replace k0 := (hb.block _ (Pl.blk_lt k0)).trans k0; replace k1 := (hb.block _ (Pl.blk_lt k1)).trans k1; replace r0 := r0.below hb; replace r1 := r1.below hb; replace BW := Rw.next BW hb; clear hb; have xW := BW.size; have hb := Pl.below_alloc1 (v1.drew) (.cells #[.int .i64 0, .slice none 0 0] 25); have xn0 : (v1).heap.size ≠ w.heap.size := Nat.ne_of_gt (Pl.blk_lt k0); have xn1 : (v1).heap.size ≠ w.heap.size + 1 := Nat.ne_of_gt (Pl.blk_lt k1); have xn2 := xn0.symm; have xn3 := xn1.symm; replace k0 := (hb.block _ (Pl.blk_lt k0)).trans k0; replace k1 := (hb.block _ (Pl.blk_lt k1)).trans k1; replace r0 := r0.below hb; replace r1 := r1.below hb; replace BW := Rw.next BW hb; have kB : ((v1.drew).alloc (.cells #[.int .i64 0, .slice none 0 0] 25)).heap[v1.heap.size]? = some (.cells #[.int .i64 0, .slice none 0 0] 25 (0, 0)) := Pl.at_new rfl; clear hb; refine (Rl.toL_any _ _ _ _ _ _ _ r0).mono ?_; rintro e wa ⟨g0, X0, rfl, hb, m0, s0⟩; replace k0 := (hb.block _ (Pl.blk_lt k0)).trans k0; replace k1 := (hb.block _ (Pl.blk_lt k1)).trans k1; replace kB := (hb.block _ (Pl.blk_lt kB)).trans kB; replace r0 := r0.below hb; replace r1 := r1.below hb; replace BW := Rw.next BW hb; clear hb; have t2 : True := trivial; obtain ⟨pa0, pb0⟩ := Pl.two k0; have pa1 := Pl.one k1)
        | (go_at_call 31; clear pa0 pb0 pa1; clear t2; have kB1 := kB; clear kB1; refine (Vl.toR_any _ _ _ _ _ _ r1).mono ?_; rintro e wb ⟨g1, rfl, hb, m1⟩; replace k0 := (hb.block _ (Pl.blk_lt k0)).trans k0; replace k1 := (hb.block _ (Pl.blk_lt k1)).trans k1; replace kB := (hb.block _ (Pl.blk_lt kB)).trans kB; replace r0 := r0.below hb; replace r1 := r1.below hb; replace m0 := m0.below hb; replace BW := Rw.next BW hb; clear hb; have t3 : True := trivial; obtain ⟨pa0, pb0⟩ := Pl.two k0; have pa1 := Pl.one k1)
        | (go_at_call 31; clear pa0 pb0 pa1; clear t2; refine (Vl.toR_any _ _ _ _ _ _ r1).mono ?_; rintro e wb ⟨g1, rfl, hb, m1⟩; replace k0 := (hb.block _ (Pl.blk_lt k0)).trans k0; replace k1 := (hb.block _ (Pl.blk_lt k1)).trans k1; replace r0 := r0.below hb; replace r1 := r1.below hb; replace m0 := m0.below hb; replace BW := Rw.next BW hb; clear hb; have t3 : True := trivial; obtain ⟨pa0, pb0⟩ := Pl.two k0; have pa1 := Pl.one k1)
        | (go_at_call 31; clear pa0 pb0 pa1; clear t2; have xW := BW.size; have hb := Pl.below_alloc1 (wa) (.cells #[.int .i64 0, .slice none 0 0] 25); have xn0 : (wa).heap.size ≠ w.heap.size := Nat.ne_of_gt (Pl.blk_lt k0); have xn1 : (wa).heap.size ≠ w.heap.size + 1 := Nat.ne_of_gt (Pl.blk_lt k1); have xn2 := xn0.symm; have xn3 := xn1.symm; replace k0 := (hb.block _ (Pl.blk_lt k0)).trans k0; replace k1 := (hb.block _ (Pl.blk_lt k1)).trans k1; replace r0 := r0.below hb; replace r1 := r1.below hb; replace m0 := m0.below hb; replace BW := Rw.next BW hb; have kB : ((wa).alloc (.cells #[.int .i64 0, .slice none 0 0] 25)).heap[wa.heap.size]? = some (.cells #[.int .i64 0, .slice none 0 0] 25 (0, 0)) := Pl.at_new rfl; clear hb; refine (Vl.toR_any _ _ _ _ _ _ r1).mono ?_; rintro e wb ⟨g1, rfl, hb, m1⟩; replace k0 := (hb.block _ (Pl.blk_lt k0)).trans k0; replace k1 := (hb.block _ (Pl.blk_lt k1)).trans k1; replace kB := (hb.block _ (Pl.blk_lt kB)).trans kB; replace r0 := r0.below hb; replace r1 := r1.below hb; replace m0 := m0.below hb; replace BW := Rw.next BW hb; clear hb; have t3 : True := trivial; obtain ⟨pa0, pb0⟩ := Pl.two k0; have pa1 := Pl.one k1)
        | (go_at_call 36; clear pa0 pb0 pa1; clear t3; have kB1 := kB; clear kB1; have xB := Pl.blk_lt kB; refine (hS _ _ _ _ _ _ _ _ _ _ m0.rd m1.rd s0).mono ?_; rintro e wc ⟨aW, gW, oW, cW, FW, rfl, mW, sW, hb, uW⟩; replace k0 := (hb.block _ (Pl.blk_lt k0)).trans k0; replace k1 := (hb.block _ (Pl.blk_lt k1)).trans k1; replace kB := (hb.block _ (Pl.blk_lt kB)).trans kB; replace r0 := r0.below hb; replace r1 := r1.below hb; replace BW := Rw.next BW hb; clear hb; have HSW : Hid (Rl.said FW = X) := sW; clear sW m0 m1 s0; obtain ⟨pa0, pb0⟩ := Pl.two k0; have pa1 := Pl.one k1; obtain ⟨x0, x1⟩ := Pl.two kB; have fB := Vl.free kB)
        | (go_at_call 36; clear pa0 pb0 pa1; clear t3; refine (hS _ _ _ _ _ _ _ _ _ _ m0.rd m1.rd s0).mono ?_; rintro e wc ⟨aW, gW, oW, cW, FW, rfl, mW, sW, hb, uW⟩; replace k0 := (hb.block _ (Pl.blk_lt k0)).trans k0; replace k1 := (hb.block _ (Pl.blk_lt k1)).trans k1; replace r0 := r0.below hb; replace r1 := r1.below hb; replace BW := Rw.next BW hb; clear hb; have HSW : Hid (Rl.said FW = X) := sW; clear sW m0 m1 s0; obtain ⟨pa0, pb0⟩ := Pl.two k0; have pa1 := Pl.one k1)
        | (go_at_call 36; clear pa0 pb0 pa1; clear t3; have xW := BW.size; have hb := Pl.below_alloc1 (wb) (.cells #[.int .i64 0, .slice none 0 0] 25); have xn0 : (wb).heap.size ≠ w.heap.size := Nat.ne_of_gt (Pl.blk_lt k0); have xn1 : (wb).heap.size ≠ w.heap.size + 1 := Nat.ne_of_gt (Pl.blk_lt k1); have xn2 := xn0.symm; have xn3 := xn1.symm; replace k0 := (hb.block _ (Pl.blk_lt k0)).trans k0; replace k1 := (hb.block _ (Pl.blk_lt k1)).trans k1; replace r0 := r0.below hb; replace r1 := r1.below hb; replace m0 := m0.below hb; replace m1 := m1.below hb; replace BW := Rw.next BW hb; have kB : ((wb).alloc (.cells #[.int .i64 0, .slice none 0 0] 25)).heap[wb.heap.size]? = some (.cells #[.int .i64 0, .slice none 0 0] 25 (0, 0)) := Pl.at_new rfl; clear hb; have xB := Pl.blk_lt kB; refine (hS _ _ _ _ _ _ _ _ _ _ m0.rd m1.rd s0).mono ?_; rintro e wc ⟨aW, gW, oW, cW, FW, rfl, mW, sW, hb, uW⟩; replace k0 := (hb.block _ (Pl.blk_lt k0)).trans k0; replace k1 := (hb.block _ (Pl.blk_lt k1)).trans k1; replace kB := (hb.block _ (Pl.blk_lt kB)).trans kB; replace r0 := r0.below hb; replace r1 := r1.below hb; replace BW := Rw.next BW hb; clear hb; have HSW : Hid (Rl.said FW = X) := sW; clear sW m0 m1 s0; obtain ⟨pa0, pb0⟩ := Pl.two k0; have pa1 := Pl.one k1; obtain ⟨x0, x1⟩ := Pl.two kB; have fB := Vl.free kB))
      all_goals (go_wp2_with fail; go_meet)
      all_goals (first
        | (obtain ⟨z1, z2⟩ := fin1 (v0 := .int .i64 ar) (v1 := .slice aW FW.length cW) mW uW kB xB; exact ⟨_, _, gW, oW, _, FW, rfl, rfl, z1, z2, HSW.out, Vl.bset (Vl.bset BW xW) xW⟩)
        | exact ⟨_, _, gW, oW, _, FW, rfl, rfl, box, mW.below (Pl.below_alloc1 _ _), HSW.out, Rw.next BW (Pl.below_alloc1 _ _)⟩)
  case rest =>
    clear BW pa0 pb0 pa1 k0 k1 r0 r1 B0
    obtain ⟨T, aW, gW, oW, cW, FW, rfl, rfl, kT, mW, sW, hb⟩ := hcut
    have n0 := hb.size
    have HK0 : Hid (wc.heap[w.heap.size]? = some (.cells #[.int .i64 q0, .slice a0 Q0.length c0] 42 (0, 0))) := (hb.block _ (Pl.blk_lt HK.out.1)).trans HK.out.1
    have HK1 : Hid (wc.heap[w.heap.size + 1]? = some (.cells #[.slice a1 l1.length c1] 49 (0, 0))) := (hb.block _ (Pl.blk_lt HK.out.2)).trans HK.out.2
    have HKT : Hid (wc.heap[T]? = some (.cells #[.int .i64 ar, .slice aW FW.length cW] 25 (0, 0))) := kT
    have HMW : Hid (Rl.Rd wc aW gW oW FW) := mW
    have HSW : Hid (Rl.said FW = X) := sW
    have BC0 : Hid (Below v1.heap.size v1 wc) := hb
    have HBW : Hid (Below w.heap.size w wc) := Rw.next HB0.out hb
    have BC : Below wc.heap.size wc wc := Below.refl _ _
    clear hb n0 kT mW sW HK HB0
    have k0c := (BC.block _ (Pl.blk_lt HK0.out)).trans HK0.out
    obtain ⟨pa0, pb0⟩ := Pl.two k0c
    have t1 : True := trivial
    go_wp2_with (first
      | (go_at_call 26; clear t1; clear k0c pa0 pb0; refine (Rl.toL_any _ _ _ _ _ _ _ (HR0.out.below BC0.out)).mono ?_; rintro e wx ⟨g0, X0, rfl, hb, m0, s0⟩; have n1 := hb.size; replace BC := Rw.next BC hb; clear hb; have k1c := (BC.block _ (Pl.blk_lt HK1.out)).trans HK1.out; have pa1 := Pl.one k1c; have lk1c := Pl.blk_lt k1c; have t2 : True := trivial)
      | (go_at_call 31; clear t2; clear k1c pa1 lk1c; obtain ⟨W2, hW2⟩ : ∃ W2, W2 = wx.alloc (.cells #[.int .i64 q0, .slice (some ⟨g0, 0, none⟩) X0.length X0.length] 25) := ⟨_, rfl⟩; rw [← hW2]; have kx : W2.heap[wx.heap.size]? = some (.cells #[.int .i64 q0, .slice (some ⟨g0, 0, none⟩) X0.length X0.length] 25 (0, 0)) := (by subst hW2; exact Pl.at_new rfl); have hb : Below wx.heap.size wx W2 := (by subst hW2; exact Pl.below_alloc1 _ _); clear hW2; replace m0 := m0.below hb; replace BC := Rw.next BC hb; clear hb; have n2 := Pl.blk_lt kx; refine (Rl.toR_own _ _ _ _ _ _ (HR1.out.below (Rw.next BC0.out BC))).mono ?_; rintro e wy ⟨g1, rfl, hb, m1, hg1⟩; have n3 := hb.size; have n3b := m1.row.lt; replace kx := (hb.block _ (Pl.blk_lt kx)).trans kx; replace m0 := m0.below hb; replace BC := Rw.next BC hb; clear hb; have HN1 : Hid (wc.heap.size ≤ wx.heap.size ∧ wx.heap.size < W2.heap.size ∧ W2.heap.size ≤ wy.heap.size ∧ W2.heap.size < g1 ∧ g1 < wy.heap.size) := ⟨n1, n2, n3, hg1, n3b⟩; clear n1 n2 n3 hg1 n3b; obtain ⟨xa0, xb0⟩ := Pl.two kx; have lx := Pl.blk_lt kx; have t3 : True := trivial)
      | (go_at_call 22; clear t3 xa0 xb0 lx; obtain ⟨W3, hW3⟩ : ∃ W3, W3 = wy.alloc (.cells #[.slice (some ⟨g1, 0, none⟩) l1.length l1.length] 34) := ⟨_, rfl⟩; rw [← hW3]; have ky : W3.heap[wy.heap.size]? = some (.cells #[.slice (some ⟨g1, 0, none⟩) l1.length l1.length] 34 (0, 0)) := (by subst hW3; exact Pl.at_new rfl); have hb : Below wy.heap.size wy W3 := (by subst hW3; exact Pl.below_alloc1 _ _); clear hW3; replace kx := (hb.block _ (Pl.blk_lt kx)).trans kx; replace m0 := m0.below hb; replace m1 := m1.below hb; replace BC := Rw.next BC hb; clear hb; have n4 := Pl.blk_lt ky; refine (hI _ _ _ _ _ _ _ _ _ _ m0.rd m1.rd s0 (Nat.le_refl _)).mono ?_; rintro e wz ⟨v5, FI, rfl, hot, sI, hb⟩; have n5 := hb.size; obtain ⟨lFI, cFI⟩ := Rl.small_said sI HSm.out; obtain ⟨aI, gI, cI, rfl, mI⟩ := hot.form (by omega); replace kx := (hb.block _ (Pl.blk_lt kx)).trans kx; replace ky := (hb.block _ (Pl.blk_lt ky)).trans ky; replace m0 := m0.below hb; replace m1 := m1.below hb; replace BC := Rw.next BC hb; clear hb; have HN2 : Hid (wy.heap.size < W3.heap.size ∧ W3.heap.size ≤ wz.heap.size) := ⟨n4, n5⟩; have HcF : Hid (1 + Rl.cnt FI FI.length * 2 ≤ 100000000000) := (by omega : 1 + Rl.cnt FI FI.length * 2 ≤ 100000000000); clear n4 n5 hot cFI lFI; have kTc := (BC.block _ (Pl.blk_lt HKT.out)).trans HKT.out; obtain ⟨ta, tb⟩ := Pl.two kTc; have lkTc := Pl.blk_lt kTc; have t4 : True := trivial)
      | (go_at_call 28; clear t4; clear kTc ta tb lkTc; obtain ⟨W4, hW4⟩ : ∃ W4, W4 = wz.alloc (.cells #[.int .i64 ar, .slice aI FI.length cI] 25) := ⟨_, rfl⟩; rw [← hW4]; have kI : W4.heap[wz.heap.size]? = some (.cells #[.int .i64 ar, .slice aI FI.length cI] 25 (0, 0)) := (by subst hW4; exact Pl.at_new rfl); have hb : Below wz.heap.size wz W4 := (by subst hW4; exact Pl.below_alloc1 _ _); clear hW4; replace kx := (hb.block _ (Pl.blk_lt kx)).trans kx; replace ky := (hb.block _ (Pl.blk_lt ky)).trans ky; replace m0 := m0.below hb; replace m1 := m1.below hb; replace mI := mI.below hb; replace BC := Rw.next BC hb; clear hb; refine (Rl.eqL_same _ _ _ _ _ _ _ _ _ FI FW _ mI.rd (HMW.out.below BC) (sI.trans HSW.out.symm)).mono ?_; rintro e w5 ⟨rfl, hb⟩; replace kx := (hb.block _ (Pl.blk_lt kx)).trans kx; replace ky := (hb.block _ (Pl.blk_lt ky)).trans ky; replace kI := (hb.block _ (Pl.blk_lt kI)).trans kI; replace m0 := m0.below hb; replace m1 := m1.below hb; replace mI := mI.below hb; replace BC := Rw.next BC hb; clear hb; have k0c := (BC.block _ (Pl.blk_lt HK0.out)).trans HK0.out; obtain ⟨pa0, pb0⟩ := Pl.two k0c; obtain ⟨xa0, xb0⟩ := Pl.two kx))
    go_region_held3 (fun w' => w'.cell? ⟨wx.heap.size, 0, none⟩ = some (.int .i64 q0) ∧ w'.cell? ⟨wx.heap.size, 1, none⟩ = some (.slice (some ⟨g0, 0, none⟩) X0.length X0.length) ∧ w'.cell? ⟨w.heap.size, 0, none⟩ = some (.int .i64 q0) ∧ w'.cell? ⟨w.heap.size, 1, none⟩ = some (.slice a0 Q0.length c0)) (go_keep) (first
      | (go_at_call 26; clear k0c pa0 pb0; clear xa0 xb0; refine (Rl.toL_any _ _ _ _ _ _ _ (HR0.out.below (Rw.next (Rw.next BC0.out BC) ((Below.refl _ _).drew)))).mono ?_; rintro e w6 ⟨g2, X2, rfl, hb, m2, s2⟩; replace hb := Rw.next ((Below.refl _ _).drew) hb; replace kx := (hb.block _ (Pl.blk_lt kx)).trans kx; replace ky := (hb.block _ (Pl.blk_lt ky)).trans ky; replace kI := (hb.block _ (Pl.blk_lt kI)).trans kI; replace m0 := m0.below hb; replace m1 := m1.below hb; replace mI := mI.below hb; replace BC := Rw.next BC hb; clear hb; have k0c := (BC.block _ (Pl.blk_lt HK0.out)).trans HK0.out; obtain ⟨pa0, pb0⟩ := Pl.two k0c; obtain ⟨xa0, xb0⟩ := Pl.two kx)
      | (go_at_call 28; clear k0c pa0 pb0; clear xa0 xb0; refine (Rl.eqL_same _ _ _ _ _ _ _ _ _ X0 X2 _ m0.rd m2.rd (s0.trans s2.symm)).mono ?_; rintro e w7 ⟨rfl, hb⟩; clear m2 s2; replace kx := (hb.block _ (Pl.blk_lt kx)).trans kx; replace ky := (hb.block _ (Pl.blk_lt ky)).trans ky; replace kI := (hb.block _ (Pl.blk_lt kI)).trans kI; replace m0 := m0.below hb; replace m1 := m1.below hb; replace mI := mI.below hb; replace BC := Rw.next BC hb; clear hb; have k0c := (BC.block _ (Pl.blk_lt HK0.out)).trans HK0.out; obtain ⟨pa0, pb0⟩ := Pl.two k0c; obtain ⟨xa0, xb0⟩ := Pl.two kx))
    go_wp2
    clear k0c pa0 pb0
    clear xa0 xb0
    have k1c := (BC.block _ (Pl.blk_lt HK1.out)).trans HK1.out
    have pa1 := Pl.one k1c
    have za1 := Pl.one ky
    go_region_held3 (fun w' => w'.cell? ⟨wy.heap.size, 0, none⟩ = some (.slice (some ⟨g1, 0, none⟩) l1.length l1.length) ∧ w'.cell? ⟨w.heap.size + 1, 0, none⟩ = some (.slice a1 l1.length c1)) (go_keep) (first
      | (go_at_call 31; clear k1c pa1; clear za1; refine (Rl.toR_own _ _ _ _ _ _ (HR1.out.below (Rw.next (Rw.next BC0.out BC) ((Below.refl _ _).drew)))).mono ?_; rintro e w8 ⟨g2, rfl, hb, m2, _⟩; replace hb := Rw.next ((Below.refl _ _).drew) hb; replace kx := (hb.block _ (Pl.blk_lt kx)).trans kx; replace ky := (hb.block _ (Pl.blk_lt ky)).trans ky; replace kI := (hb.block _ (Pl.blk_lt kI)).trans kI; replace m0 := m0.below hb; replace m1 := m1.below hb; replace mI := mI.below hb; replace BC := Rw.next BC hb; clear hb; have k1c := (BC.block _ (Pl.blk_lt HK1.out)).trans HK1.out; have pa1 := Pl.one k1c; have za1 := Pl.one ky)
      | (go_at_call 32; clear k1c pa1; clear za1; refine (Vl.eqR_same _ _ _ _ _ _ _ _ _ _ m1.rd m2.rd).mono ?_; rintro e w9 ⟨rfl, hb⟩; clear m2; replace kx := (hb.block _ (Pl.blk_lt kx)).trans kx; replace ky := (hb.block _ (Pl.blk_lt ky)).trans ky; replace kI := (hb.block _ (Pl.blk_lt kI)).trans kI; replace m0 := m0.below hb; replace m1 := m1.below hb; replace mI := mI.below hb; replace BC := Rw.next BC hb; clear hb; have k1c := (BC.block _ (Pl.blk_lt HK1.out)).trans HK1.out; have pa1 := Pl.one k1c; have za1 := Pl.one ky))
    clear k1c pa1
    obtain ⟨xa0, xb0⟩ := Pl.two kx
    have HU0 : Hid (∀ z, Rl.UseQ X0 z → wc.heap.size ≤ z ∧ z < wx.heap.size) := fun z ⟨r, hr, h0, e⟩ => by obtain ⟨_, q1, q2, _⟩ := m0.each r hr h0; omega
    have HU1 : True := trivial
    have HUI : Hid (∀ z, Rl.UseQ FI z → W3.heap.size ≤ z ∧ z < wz.heap.size) := fun z ⟨r, hr, h0, e⟩ => by obtain ⟨_, q1, q2, _⟩ := mI.each r hr h0; omega
    have HcX : Hid (1 + Rl.cnt X0 X0.length * 2 ≤ 100000000000) := (by have e0 := Rl.cnt_said s0 X0.length; have l0 : X0.length = Q0.length := (by rw [← Rl.said_len, ← Rl.said_len, s0]); rw [l0] at e0 ⊢; have h0 := Hc0.out; omega : 1 + Rl.cnt X0 X0.length * 2 ≤ 100000000000)
    obtain ⟨Ka, hKa⟩ : ∃ Ka : Nat, Ka = 1 + Rl.cnt X0 X0.length * 2 := ⟨_, rfl⟩
    have HKa : Hid (Ka = 1 + Rl.cnt X0 X0.length * 2) := hKa
    have HKp : Hid (0 < Ka) := (by omega : 0 < Ka)
    have HcY : Hid (Ka ≤ 100000000000) := (by rw [HKa.out]; exact HcX.out : Ka ≤ 100000000000)
    obtain ⟨Kb, hKb⟩ : ∃ Kb : Nat, Kb = Ka + l1.length * 2 := ⟨_, rfl⟩
    have HKb : Hid (Kb = Ka + l1.length * 2) := hKb
    have hKbn : ¬ ((Kb : Int) < 0) := by omega
    obtain ⟨Kc, hKc⟩ : ∃ Kc : Nat, Kc = 1 + Rl.cnt FI FI.length * 2 := ⟨_, rfl⟩
    have HKc : Hid (Kc = 1 + Rl.cnt FI FI.length * 2) := hKc
    have hKcn : ¬ ((Kc : Int) < 0) := by omega
    clear hKa hKb hKc
    have t5 : True := trivial
    go_wp2_with (first
      | (go_at_call 33; clear t5 xa0 xb0; refine (Rl.markL_any 1 (by omega) q0 _ g0 _ wc.heap.size wx.heap.size X0 _ m0 HcX.out).mono ?_; rw [← HKa.out]; rintro e wA ⟨rfl, kp, _⟩; have kk := kp.block _ (Pl.blk_lt ky) (fun hu => by have q := HU0.out _ hu; have hN1 := HN1.out; have hN2 := HN2.out; omega); replace ky := kk.trans ky; clear kk; have kk := kp.block _ (Pl.blk_lt kI) (fun hu => by have q := HU0.out _ hu; have hN1 := HN1.out; have hN2 := HN2.out; omega); replace kI := kk.trans kI; clear kk; replace m1 : Vl.Mine _ g1 l1 := ⟨m1.row.of_block (kp.block _ m1.row.lt (fun hu => by have q := HU0.out _ hu; have hN1 := HN1.out; have hN2 := HN2.out; omega)), m1.size, m1.str⟩; replace mI := mI.keep (fun z hz hz2 => kp.block z hz2 (fun hu => by have q := HU0.out _ hu; have hN1 := HN1.out; have hN2 := HN2.out; omega)); replace BC := kp.below BC BC.size (fun z hu => by have q := HU0.out _ hu; omega); clear kp m0 kx; have za1 := Pl.one ky; have t6 : True := trivial)
      | (go_at_call 34; clear t6 za1; refine (Rl.markR_any Ka HKp.out HcY.out _ g1 _ l1 _ m1.size (fun h => ⟨rfl, Rl.WtV.of_row m1.row⟩)).mono ?_; rw [← HKb.out]; rintro e wB ⟨rfl, kp⟩; have kk := kp.block _ (Pl.blk_lt kI) (fun hu => by have q := hu.2; have hN1 := HN1.out; have hN2 := HN2.out; omega); replace kI := kk.trans kI; clear kk; replace mI := mI.keep (fun z hz hz2 => kp.block z hz2 (fun hu => by have q := hu.2; have hN1 := HN1.out; have hN2 := HN2.out; omega)); replace BC := kp.below BC BC.size (fun z hu => by have q := hu.2; have hN1 := HN1.out; have hN2 := HN2.out; omega); clear kp m1 ky; have kTc := (BC.block _ (Pl.blk_lt HKT.out)).trans HKT.out; obtain ⟨ta, tb⟩ := Pl.two kTc; obtain ⟨ia, ib⟩ := Pl.two kI; have t7 : True := trivial)
      | (go_at_call 28; clear t7; clear kTc ta tb; clear ia ib; refine (Rl.eqL_same _ _ _ _ _ _ _ _ _ FI FW _ mI.rd (HMW.out.below BC) (sI.trans HSW.out.symm)).mono ?_; rintro e wC ⟨rfl, hb⟩; replace kI := (hb.block _ (Pl.blk_lt kI)).trans kI; replace mI := mI.below hb; replace BC := Rw.next BC hb; clear hb; obtain ⟨ia, ib⟩ := Pl.two kI; have t8 : True := trivial)
      | (go_at_call 33; clear t8 ia ib; refine (Rl.markL_any 1 (by omega) ar _ gI _ W3.heap.size wz.heap.size FI _ mI HcF.out).mono ?_; rw [← HKc.out]; rintro e wD ⟨rfl, kp, mk⟩; have kk := kp.block _ (Pl.blk_lt kI) (fun hu => by have q := HUI.out _ hu; have hN1 := HN1.out; have hN2 := HN2.out; omega); replace kI := kk.trans kI; clear kk; replace BC := kp.below BC BC.size (fun z hu => by have q := HUI.out _ hu; have hN1 := HN1.out; have hN2 := HN2.out; omega); clear kp mI; obtain ⟨ia, ib⟩ := Pl.two kI; have t9 : True := trivial)
      | (go_at_call 35; clear t9 ia ib; refine (Rl.heldL_any 1 (by omega) ar _ gI _ FI _ mk HcF.out).mono ?_; rw [← HKc.out]; rintro e wE ⟨rfl, hb⟩; replace kI := (hb.block _ (Pl.blk_lt kI)).trans kI; replace mk := mk.below hb; replace BC := Rw.next BC hb; clear hb))
    have k0 := (BC.block _ (Pl.blk_lt HK0.out)).trans HK0.out
    have k1 := (BC.block _ (Pl.blk_lt HK1.out)).trans HK1.out
    have r0 := HR0.out.below (Rw.next BC0.out BC)
    have r1 := HR1.out.below (Rw.next BC0.out BC)
    obtain ⟨pa0, pb0⟩ := Pl.two k0
    have pa1 := Pl.one k1
    have BW : Below wE.heap.size wE wE := Below.refl _ _
    have t1 : True := trivial
    have HKI : Hid (wE.heap[wz.heap.size]? = some (.cells #[.int .i64 ar, .slice aI FI.length cI] 25 (0, 0)) ∧ Below wc.heap.size wc wE) := ⟨kI, BC⟩
    have HMk : Hid (Rl.MkQ wE 1 aI gI FI) := mk
    clear kI BC mk s0
    go_cut [15, 16] from 17 (fun s6 s7 wx => ∃ (T : Nat) (aW : Option Addr) (gW oW cW : Nat) (FW : List Rl.Rm), s6 = .pointer (some ⟨T, 0, none⟩) ∧ s7 = .int .i64 cc ∧ wx.heap[T]? = some (.cells #[.int .i64 ar, .slice aW FW.length cW] 25 (0, 0)) ∧ Rl.Rd wx aW gW oW FW ∧ Rl.said FW = X ∧ Below wE.heap.size wE wx)
    case first =>
      go_region_held3 (fun w' => w'.cell? ⟨w.heap.size, 0, none⟩ = some (.int .i64 q0) ∧ w'.cell? ⟨w.heap.size, 1, none⟩ = some (.slice a0 Q0.length c0) ∧ w'.cell? ⟨w.heap.size + 1, 0, none⟩ = some (.slice a1 l1.length c1)) (go_keep) (first
        | (go_at_call 26; clear pa0 pb0 pa1; clear t1; have kB1 := kB; clear kB1; have hb : Below wE.heap.size wE wE.drew := (Below.refl _ _).drew; replace k0 := (hb.block _ (Pl.blk_lt k0)).trans k0; replace k1 := (hb.block _ (Pl.blk_lt k1)).trans k1; replace r0 := r0.below hb; replace r1 := r1.below hb; replace BW := Rw.next BW hb; clear hb; refine (Rl.toL_any _ _ _ _ _ _ _ r0).mono ?_; rintro e wa ⟨g0, X0, rfl, hb, m0, s0⟩; replace k0 := (hb.block _ (Pl.blk_lt k0)).trans k0; replace k1 := (hb.block _ (Pl.blk_lt k1)).trans k1; replace kB := (hb.block _ (Pl.blk_lt kB)).trans kB; replace r0 := r0.below hb; replace r1 := r1.below hb; replace BW := Rw.next BW hb; clear hb; have t2 : True := trivial; obtain ⟨pa0, pb0⟩ := Pl.two k0; have pa1 := Pl.one k1)
        | (go_at_call 26; clear pa0 pb0 pa1; clear t1; have hb : Below wE.heap.size wE wE.drew := (Below.refl _ _).drew; replace k0 := (hb.block _ (Pl.blk_lt k0)).trans k0; replace k1 := (hb.block _ (Pl.blk_lt k1)).trans k1; replace r0 := r0.below hb; replace r1 := r1.below hb; replace BW := Rw.next BW hb; clear hb; refine (Rl.toL_any _ _ _ _ _ _ _ r0).mono ?_; rintro e wa ⟨g0, X0, rfl, hb, m0, s0⟩; replace k0 := (hb.block _ (Pl.blk_lt k0)).trans k0; replace k1 := (hb.block _ (Pl.blk_lt k1)).trans k1; replace r0 := r0.below hb; replace r1 := r1.below hb; replace BW := Rw.next BW hb; clear hb; have t2 : True := trivial; obtain ⟨pa0, pb0⟩ := Pl.two k0; have pa1 := Pl.one k1)
        | (go_at_call 26; clear pa0 pb0 pa1; clear t1; have hb : Below wE.heap.size wE wE.drew := (Below.refl _ _).drew; replace k0 := (hb.block _ (Pl.blk_lt k0)).trans k0; replace k1 := (hb.block _ (Pl.blk_lt k1)).trans k1; replace r0 := r0.below hb; replace r1 := r1.below hb; replace BW := Rw.next BW hb; clear hb; have xW := BW.size; have hb := Pl.below_alloc1 (wE.drew) (.cells #[.int .i64 0, .slice none 0 0] 25); have xn0 : (wE).heap.size ≠ w.heap.size := Nat.ne_of_gt (Pl.blk_lt k0); have xn1 : (wE).heap.size ≠ w.heap.size + 1 := Nat.ne_of_gt (Pl.blk_lt k1); have xn2 := xn0.symm; have xn3 := xn1.symm; replace k0 := (hb.block _ (Pl.blk_lt k0)).trans k0; replace k1 := (hb.block _ (Pl.blk_lt k1)).trans k1; replace r0 := r0.below hb; replace r1 := r1.below hb; replace BW := Rw.next BW hb; have kB : ((wE.drew).alloc (.cells #[.int .i64 0, .slice none 0 0] 25)).heap[wE.heap.size]? = some (.cells #[.int .i64 0, .slice none 0 0] 25 (0, 0)) := Pl.at_new rfl; clear hb; refine (Rl.toL_any _ _ _ _ _ _ _ r0).mono ?_; rintro e wa ⟨g0, X0, rfl, hb, m0, s0⟩; replace k0 := (hb.block _ (Pl.blk_lt k0)).trans k0; replace k1 := (hb.block _ (Pl.blk_lt k1)).trans k1; replace kB := (hb.block _ (Pl.blk_lt kB)).trans kB; replace r0 := r0.below hb; replace r1 := r1.below hb; replace BW := Rw.next BW hb; clear hb; have t2 : True := trivial; obtain ⟨pa0, pb0⟩ := Pl.two k0; have pa1 := Pl.one k1)
        | (go_at_call 31; clear pa0 pb0 pa1; clear t2; have kB1 := kB; clear kB1; refine (Vl.toR_any _ _ _ _ _ _ r1).mono ?_; rintro e wb ⟨g1, rfl, hb, m1⟩; replace k0 := (hb.block _ (Pl.blk_lt k0)).trans k0; replace k1 := (hb.block _ (Pl.blk_lt k1)).trans k1; replace kB := (hb.block _ (Pl.blk_lt kB)).trans kB; replace r0 := r0.below hb; replace r1 := r1.below hb; replace m0 := m0.below hb; replace BW := Rw.next BW hb; clear hb; have t3 : True := trivial; obtain ⟨pa0, pb0⟩ := Pl.two k0; have pa1 := Pl.one k1)
        | (go_at_call 31; clear pa0 pb0 pa1; clear t2; refine (Vl.toR_any _ _ _ _ _ _ r1).mono ?_; rintro e wb ⟨g1, rfl, hb, m1⟩; replace k0 := (hb.block _ (Pl.blk_lt k0)).trans k0; replace k1 := (hb.block _ (Pl.blk_lt k1)).trans k1; replace r0 := r0.below hb; replace r1 := r1.below hb; replace m0 := m0.below hb; replace BW := Rw.next BW hb; clear hb; have t3 : True := trivial; obtain ⟨pa0, pb0⟩ := Pl.two k0; have pa1 := Pl.one k1)
        | (go_at_call 31; clear pa0 pb0 pa1; clear t2; have xW := BW.size; have hb := Pl.below_alloc1 (wa) (.cells #[.int .i64 0, .slice none 0 0] 25); have xn0 : (wa).heap.size ≠ w.heap.size := Nat.ne_of_gt (Pl.blk_lt k0); have xn1 : (wa).heap.size ≠ w.heap.size + 1 := Nat.ne_of_gt (Pl.blk_lt k1); have xn2 := xn0.symm; have xn3 := xn1.symm; replace k0 := (hb.block _ (Pl.blk_lt k0)).trans k0; replace k1 := (hb.block _ (Pl.blk_lt k1)).trans k1; replace r0 := r0.below hb; replace r1 := r1.below hb; replace m0 := m0.below hb; replace BW := Rw.next BW hb; have kB : ((wa).alloc (.cells #[.int .i64 0, .slice none 0 0] 25)).heap[wa.heap.size]? = some (.cells #[.int .i64 0, .slice none 0 0] 25 (0, 0)) := Pl.at_new rfl; clear hb; refine (Vl.toR_any _ _ _ _ _ _ r1).mono ?_; rintro e wb ⟨g1, rfl, hb, m1⟩; replace k0 := (hb.block _ (Pl.blk_lt k0)).trans k0; replace k1 := (hb.block _ (Pl.blk_lt k1)).trans k1; replace kB := (hb.block _ (Pl.blk_lt kB)).trans kB; replace r0 := r0.below hb; replace r1 := r1.below hb; replace m0 := m0.below hb; replace BW := Rw.next BW hb; clear hb; have t3 : True := trivial; obtain ⟨pa0, pb0⟩ := Pl.two k0; have pa1 := Pl.one k1)
        | (go_at_call 22; clear pa0 pb0 pa1; clear t3; have kB1 := kB; clear kB1; have xB := Pl.blk_lt kB; refine (hI2 _ _ _ _ _ _ _ _ _ _ m0.rd m1.rd s0 (Nat.le_refl _)).mono ?_; rintro e wc ⟨aW, gW, oW, cW, FW, rfl, mW, sW, hb, uW⟩; replace k0 := (hb.block _ (Pl.blk_lt k0)).trans k0; replace k1 := (hb.block _ (Pl.blk_lt k1)).trans k1; replace kB := (hb.block _ (Pl.blk_lt kB)).trans kB; replace r0 := r0.below hb; replace r1 := r1.below hb; replace BW := Rw.next BW hb; clear hb; have HSW : Hid (Rl.said FW = X) := sW; clear sW m0 m1 s0; obtain ⟨pa0, pb0⟩ := Pl.two k0; have pa1 := Pl.one k1; obtain ⟨x0, x1⟩ := Pl.two kB; have fB := Vl.free kB)
        | (go_at_call 22; clear pa0 pb0 pa1; clear t3; refine (hI2 _ _ _ _ _ _ _ _ _ _ m0.rd m1.rd s0 (Nat.le_refl _)).mono ?_; rintro e wc ⟨aW, gW, oW, cW, FW, rfl, mW, sW, hb, uW⟩; replace k0 := (hb.block _ (Pl.blk_lt k0)).trans k0; replace k1 := (hb.block _ (Pl.blk_lt k1)).trans k1; replace r0 := r0.below hb; replace r1 := r1.below hb; replace BW := Rw.next BW hb; clear hb; have HSW : Hid (Rl.said FW = X) := sW; clear sW m0 m1 s0; obtain ⟨pa0, pb0⟩ := Pl.two k0; have pa1 := Pl.one k1)
        | (go_at_call 22; clear pa0 pb0 pa1; clear t3; have xW := BW.size; have hb := Pl.below_alloc1 (wb) (.cells #[.int .i64 0, .slice none 0 0] 25); have xn0 : (wb).heap.size ≠ w.heap.size := Nat.ne_of_gt (Pl.blk_lt k0); have xn1 : (wb).heap.size ≠ w.heap.size + 1 := Nat.ne_of_gt (Pl.blk_lt k1); have xn2 := xn0.symm; have xn3 := xn1.symm; replace k0 := (hb.block _ (Pl.blk_lt k0)).trans k0; replace k1 := (hb.block _ (Pl.blk_lt k1)).trans k1; replace r0 := r0.below hb; replace r1 := r1.below hb; replace m0 := m0.below hb; replace m1 := m1.below hb; replace BW := Rw.next BW hb; have kB : ((wb).alloc (.cells #[.int .i64 0, .slice none 0 0] 25)).heap[wb.heap.size]? = some (.cells #[.int .i64 0, .slice none 0 0] 25 (0, 0)) := Pl.at_new rfl; clear hb; have xB := Pl.blk_lt kB; refine (hI2 _ _ _ _ _ _ _ _ _ _ m0.rd m1.rd s0 (Nat.le_refl _)).mono ?_; rintro e wc ⟨aW, gW, oW, cW, FW, rfl, mW, sW, hb, uW⟩; replace k0 := (hb.block _ (Pl.blk_lt k0)).trans k0; replace k1 := (hb.block _ (Pl.blk_lt k1)).trans k1; replace kB := (hb.block _ (Pl.blk_lt kB)).trans kB; replace r0 := r0.below hb; replace r1 := r1.below hb; replace BW := Rw.next BW hb; clear hb; have HSW : Hid (Rl.said FW = X) := sW; clear sW m0 m1 s0; obtain ⟨pa0, pb0⟩ := Pl.two k0; have pa1 := Pl.one k1; obtain ⟨x0, x1⟩ := Pl.two kB; have fB := Vl.free kB))
      all_goals (go_wp2_with fail; go_meet)
      all_goals (first
        | (obtain ⟨z1, z2⟩ := fin1 (v0 := .int .i64 ar) (v1 := .slice aW FW.length cW) mW uW kB xB; exact ⟨_, _, gW, oW, _, FW, rfl, rfl, z1, z2, HSW.out, Vl.bset (Vl.bset BW xW) xW⟩)
        | exact ⟨_, _, gW, oW, _, FW, rfl, rfl, box, mW.below (Pl.below_alloc1 _ _), HSW.out, Rw.next BW (Pl.below_alloc1 _ _)⟩)
    case rest =>
      clear BW pa0 pb0 pa1 k0 k1 r0 r1
      obtain ⟨T2, aH, gH, oH, cH, FH, rfl, rfl, kH, mH, sH, hb⟩ := hcut
      have kI := (hb.block _ (Pl.blk_lt HKI.out.1)).trans HKI.out.1
      have BC := Rw.next HKI.out.2 hb
      have mk := HMk.out.below hb
      clear hb HKI HMk
      obtain ⟨ha, hbb⟩ := Pl.two kH
      have kTc := (BC.block _ (Pl.blk_lt HKT.out)).trans HKT.out
      obtain ⟨ta, tb⟩ := Pl.two kTc
      have tb : True := trivial
      go_wp2_with (first
        | (go_at_call 28; clear tb; clear kTc ta tb; clear ha hbb; refine (Rl.eqL_same _ _ _ _ _ _ _ _ _ FH FW _ mH (HMW.out.below BC) (sH.trans HSW.out.symm)).mono ?_; rintro e wH ⟨rfl, hb⟩; replace kI := (hb.block _ (Pl.blk_lt kI)).trans kI; replace mk := mk.below hb; replace BC := Rw.next BC hb; clear hb; obtain ⟨ia, ib⟩ := Pl.two kI; have tc : True := trivial)
        | (go_at_call 35; clear tc ia ib; refine (Rl.heldL_any 1 (by omega) ar _ gI _ FI _ mk HcF.out).mono ?_; rw [← HKc.out]; rintro e wK ⟨rfl, hb⟩; replace BC := Rw.next BC hb))
      go_ret
      exact ⟨rfl, Rw.next HBW.out BC⟩

set_option maxRecDepth 100000 in
theorem lifted (os : Os) (started : os.Started) (H : Type) (enc : TypeId × Value → H) :
    ReturnsInHanded {} Try.checked os 8 .any (Rows.fnExactRelDropSpec.pre6 enc Try.prog Try.f8 Rows.fnExactRelDropRow.domain false) (Rows.fnExactRelDropSpec.post enc Try.prog Try.f8 false true false false) := by
  refine returnsInHanded_of_change (C := Try.checked) own started (by kernel_rfl) Try.func8
    (ChangeSpec.witness6 (enc := enc) (C := Try.checked) false ⟨#[], #[.agg #[.int .i64 0, .slice none 0 0], .agg #[.slice none 0 0]], []⟩ 8 (by kernel_rfl) (by kernel_rfl) (by kernel_rfl) (by kernel_rfl)) ?_
  intro W base args ds gs before hval0 hW hcnd _
  have hval : ∀ (j : Nat) t v, Try.f8.params[j]? = some t → args[j]? = some v → Value.okWide Try.prog W .any base t v := hval0
  have hW' := hW
  obtain ⟨p, q, hA0, hV, rfl, hfz, hnd⟩ := hW
  have hA : DataW.TrodAll enc Try.prog W 0 (fun _ => true) true Try.f8.params.toList args.toList ds p := hA0
  rw [Try.params8] at hA hval
  obtain ⟨v0, vs0, d0, ds0, p0, q0, hargs, rfl, rfl, h0, r0⟩ := trodAll_cons hA
  obtain ⟨v1, vs1, d1, ds1, p1, q1, rfl, rfl, rfl, h1, r1⟩ := trodAll_cons r0
  obtain ⟨rfl, rfl, rfl⟩ := trodAll_nil r1
  obtain rfl : args = #[v0, v1] := by cases args; simp_all
  obtain ⟨rfl, rfl⟩ := trodVars_none hV
  have k0 := h0
  have lt0 : ∀ x ∈ p0, x.block < W.heap.size := by obtain ⟨m, hm⟩ := k0; exact DataW.trod_lt m _ _ _ hm
  obtain ⟨q0, a0, c0, S0, rfl, w0⟩ := Rl.open_rel (hval 0 42 v0 rfl rfl) h0
  have k1 := h1
  have lt1 : ∀ x ∈ p1, x.block < W.heap.size := by obtain ⟨m, hm⟩ := k1; exact DataW.trod_lt m _ _ _ hm
  obtain ⟨a1, c1, l1, rfl, w1⟩ := Vl.open_row (hval 1 49 v1 rfl rfl) h1
  clear hA0 hval0
  refine (walk q0 a0 c0 S0 a1 c1 l1 W w0 w1).mono fun e W' ⟨he, bel⟩ => ?_
  subst he
  exact ⟨_, rfl, _, _, _, [], _, [], hW', trodAll_mk1 (shut_bool Try.underlying4 _), (trodAll_cons_mk (Below.trod laidOut (by kernel_rfl) (of_decide_eq_true (by kernel_rfl)) k0 bel lt0) (trodAll_cons_mk (Below.trod laidOut (by kernel_rfl) (of_decide_eq_true (by kernel_rfl)) k1 bel lt1) trodAll_mk0)), rfl, bel.frame _, fun h => by cases h⟩

theorem over : Rows.fnExactRelDropRow.holds Try.pinned (OpenSpec.ofChange Rows.fnExactRelDropSpec) :=
  OpenClaim.holds_of_wide 8 Try.f8 rfl rfl rfl rfl rfl rfl rfl ⟨rfl, rfl, rfl, rfl, rfl⟩ rfl rfl rfl rfl rfl (by kernel_rfl) Try.func8 (by kernel_rfl)
    (of_decide_eq_true (by kernel_rfl)) (by unfold Func.isWrapper; first | (rw [if_pos (by decide +kernel)]; kernel_rfl) | (rw [if_neg (by decide +kernel)]; exact ⟨rfl, rfl⟩))
    (fun os started H enc _ => lifted os started H enc)

theorem proved : Rows.FnExactRelDropSaid := over
end Go.Proofs.Ytbjbehphdkaahaa.fnExactRelDrop

namespace Go.Proofs.Ytbjbehphdkaahaa
theorem FnExactRelDrop_holds : Rows.FnExactRelDropSaid := fnExactRelDrop.proved
end Go.Proofs.Ytbjbehphdkaahaa
