/- FnExactRelPick: at every argument RelPick answers as the specification, every field; it writes into no argument, and its answer owns its memory. No condition. -/
import Derived.Test.YtfiebakgphcnbaaRows
import Derived.Test.YtfiebakgphcnbaaIh
import Derived.Test.YtfiebakgphcnbaaMd
import Derived.WalkKit
import Derived.ProofKit
import Derived.OpenShut
import Derived.ShutString
import Derived.ChangeOld
import Derived.Below
import Derived.Deep.RegionWith
import Derived.Deep.RegionHeld3
import Derived.Deep.Cut
namespace Go.Proofs.Ytfiebakgphcnbaa.fnExactRelPick
open Go.ChangeShapes Go.WideShapes Go.ChangeAt Go.RowKit
set_option linter.unusedVariables false
set_option linter.unusedSimpArgs false

theorem own : ownKnob Try.prog.godebug = none := by kernel_rfl
theorem laidOut : laidOutB Try.prog = true := by kernel_rfl

/-- The relation lies in its box. -/
theorem fin1 {wc : World} {T LO gW oW : Nat} {aW : Option Addr} {FW : List Rl.Rm} {x0 x1 v0 v1 : Value} (r : Rl.Rd wc aW gW oW FW) (u : Rl.Up LO gW FW) (k : wc.heap[T]? = some (.cells #[x0, x1] 31 (0, 0))) (hT : T < LO) :
    ((wc.setCell ⟨T, 0, none⟩ v0).setCell ⟨T, 1, none⟩ v1).heap[T]? = some (.cells #[v0, v1] 31 (0, 0)) ∧ Rl.Rd ((wc.setCell ⟨T, 0, none⟩ v0).setCell ⟨T, 1, none⟩ v1) aW gW oW FW :=
  ⟨Rl.two_set1 (Rl.two_set0 k), Rl.rd_set (Rl.rd_set r (Rl.aw_up u hT)) (Rl.aw_up u hT)⟩
/-- The relation of the program's own lies in its box. -/
theorem fin2 {wc : World} {T LO HI gW : Nat} {aW : Option Addr} {FW : List Rl.Rm} {x0 x1 v0 v1 : Value} (r : Rl.Own wc LO HI aW gW FW) (k : wc.heap[T]? = some (.cells #[x0, x1] 31 (0, 0))) (hT : T < LO) :
    ((wc.setCell ⟨T, 0, none⟩ v0).setCell ⟨T, 1, none⟩ v1).heap[T]? = some (.cells #[v0, v1] 31 (0, 0)) ∧ Rl.Own ((wc.setCell ⟨T, 0, none⟩ v0).setCell ⟨T, 1, none⟩ v1) LO HI aW gW FW ∧ ((wc.setCell ⟨T, 0, none⟩ v0).setCell ⟨T, 1, none⟩ v1).heap.size = wc.heap.size :=
  ⟨Rl.two_set1 (Rl.two_set0 k), r.keep (fun z h1 h2 => (Below.heap_setCell _ _ _ _ (by simp only; omega)).trans (Below.heap_setCell _ _ _ _ (by simp only; omega))), by simp [World.setCell]⟩
theorem box {w : World} {cs : Array Value} {t : TypeId} : (w.alloc (.cells cs t)).heap[w.heap.size]? = some (.cells cs t (0, 0)) := Pl.at_new rfl

set_option maxRecDepth 8000 in
set_option maxHeartbeats 16000000 in
theorem walk (q0 : Int) (a0 : Option Addr) (c0 : Nat) (S0 : List Rl.Raw) (i1 : Int) (n2 : Int) (s2 : ByteArray) (w : World) (w0 : Rl.IsRel w a0 S0) (w2 : s2.size ≤ maxLen) :
    Calls Try.prog 3 #[.agg #[.int .i64 q0, .slice a0 S0.length c0], .int .i64 i1, .agg #[.int .i64 n2, .string s2]] w fun e w' => e = .returned (.bool true) ∧ Below w.heap.size w w' := by
  obtain ⟨W0, hW0⟩ : ∃ W0, W0 = (w.alloc (.cells #[.int .i64 q0, .slice a0 S0.length c0] 24)).alloc (.cells #[.int .i64 n2, .string s2] 26) := ⟨_, rfl⟩
  have B0 : Below w.heap.size w W0 := by subst hW0; exact Pl.below_alloc2 _ _ _
  have k0 : W0.heap[w.heap.size]? = some (.cells #[.int .i64 q0, .slice a0 S0.length c0] 24 (0, 0)) := by subst hW0; rw [Pl.at_old (by simp), Pl.at_new rfl]
  have k1 : W0.heap[w.heap.size + 1]? = some (.cells #[.int .i64 n2, .string s2] 26 (0, 0)) := by subst hW0; rw [Pl.at_new (by simp)]
  replace w0 := w0.below B0
  have t1 : True := trivial
  by_cases hbig : 1048576 < S0.length + Rl.totR S0 S0.length
  · have hZ := Rl.szL_big q0 a0 c0 1048576 S0 W0 w0 hbig (Nat.le_refl _)
    go_enter Try.func3, Try.ntmps3
    go_wp2_with (go_at_call 6; rw [← hW0]; clear hW0; refine hZ.mono ?_; rintro e v1 ⟨rfl, hb⟩)
    go_ret
    exact ⟨rfl, Rw.next B0 hb⟩
  obtain ⟨L, hL⟩ : ∃ L : Nat, S0.length + Rl.totR S0 S0.length + L = 1048576 := ⟨1048576 - (S0.length + Rl.totR S0 S0.length), by omega⟩
  have hZ0 := Rl.szL_at q0 a0 c0 1048576 L S0 W0 w0 hL (Nat.le_refl _)
  have hp : ¬ ((L : Int) < 0) := by omega
  have hLl : L ≤ 1048576 := by omega
  obtain ⟨b0, o0, Q0, r0, sQ0, hQ0⟩ := Rl.rd_of_isRel w0 (by omega)
  have Hc0 : Hid (Rl.cnt Q0 Q0.length ≤ 1048576) := (by have q := Rl.cnt_raw sQ0 hQ0 Q0.length (Nat.le_refl _); rw [hQ0] at q ⊢; omega : Rl.cnt Q0 Q0.length ≤ 1048576)
  rw [← hQ0] at hZ0 hW0 k0 ⊢
  clear hQ0 sQ0
  clear w0 hbig hL
  by_cases hbig : L < s2.size
  · have hY := fun W => Vl.szV_big n2 s2 L W hbig hLl w2
    go_enter Try.func3, Try.ntmps3
    go_wp2_with (first
      | (go_at_call 6; clear t1; rw [← hW0]; clear hW0; refine hZ0.mono ?_; rintro e v1 ⟨rfl, hb⟩; replace B0 := Rw.next B0 hb; replace k1 := (hb.block _ (Pl.blk_lt k1)).trans k1; obtain ⟨va, vb⟩ := Pl.two k1)
      | (go_at_call 7; refine (hY _).mono ?_; rintro e v1 ⟨rfl, hb⟩))
    go_ret
    exact ⟨rfl, Rw.next B0 hb⟩
  have hZ1 := fun W => Vl.szV_small n2 s2 L W (by omega) hLl
  obtain ⟨M, hM⟩ : ∃ M : Nat, (L : Int) - (s2.size : Int) = (M : Int) := ⟨L - s2.size, by omega⟩
  rw [hM] at hZ1
  have hp2 : ¬ ((M : Int) < 0) := by omega
  clear hbig hM
  obtain ⟨ar, X, cc, hPA, hXl, hX6⟩ := Rl.PA_some q0 (Rl.said Q0) i1 (n2, s2)
  have HSm : Hid (X.length ≤ 300 ∧ ∀ l ∈ X, l.length ≤ 6) := ⟨hXl, hX6⟩
  clear hXl hX6
  have hS := fun a b off c P W h (e : Rl.said P = Rl.said Q0) => (Rl.pickS_any q0 i1 n2 s2 a b off c P W h w2 ar X cc (by rw [e]; exact hPA)).mono (fun e w' h => Rl.resCS_of h (by have := HSm.out.1; omega))
  have hI := fun a b off c P W h (e : Rl.said P = Rl.said Q0) => Rl.pickI_any q0 i1 n2 s2 a b off c P W h w2 ar X cc (by rw [e]; exact hPA)
  have hI2 := fun a b off c P W h (e : Rl.said P = Rl.said Q0) => (Rl.pickI_any q0 i1 n2 s2 a b off c P W h w2 ar X cc (by rw [e]; exact hPA)).mono (fun e w' h => Rl.resCS_of h (by have := HSm.out.1; omega))
  clear hPA
  go_enter Try.func3, Try.ntmps3
  go_wp2_with (first
    | (go_at_call 6; clear t1; rw [← hW0]; clear hW0; refine hZ0.mono ?_; rintro e v0 ⟨rfl, hb⟩; clear hZ0; replace k0 := (hb.block _ (Pl.blk_lt k0)).trans k0; replace k1 := (hb.block _ (Pl.blk_lt k1)).trans k1; replace r0 := r0.below hb; replace B0 := Rw.next B0 hb; clear hb; obtain ⟨pa, pb⟩ := Pl.two k0; obtain ⟨va, vb⟩ := Pl.two k1)
    | (go_at_call 7; refine (hZ1 _).mono ?_; rintro e v1 ⟨rfl, hb⟩; clear hZ1; clear pa pb va vb; replace k0 := (hb.block _ (Pl.blk_lt k0)).trans k0; replace k1 := (hb.block _ (Pl.blk_lt k1)).trans k1; replace r0 := r0.below hb; replace B0 := Rw.next B0 hb; clear hb; obtain ⟨pa, pb⟩ := Pl.two k0; obtain ⟨va, vb⟩ := Pl.two k1))
  have t1 : True := trivial
  have BW : Below v1.heap.size v1 v1 := Below.refl _ _
  have HK : Hid (v1.heap[w.heap.size]? = some (.cells #[.int .i64 q0, .slice a0 Q0.length c0] 24 (0, 0)) ∧ v1.heap[w.heap.size + 1]? = some (.cells #[.int .i64 n2, .string s2] 26 (0, 0))) := ⟨k0, k1⟩
  have HR0 : Hid (Rl.Rd v1 a0 b0 o0 Q0) := r0
  have HB0 : Hid (Below w.heap.size w v1) := B0
  go_cut [8, 9] from 18 (fun sa sb wx => ∃ (T : Nat) (aW : Option Addr) (gW oW cW : Nat) (FW : List Rl.Rm), sa = .pointer (some ⟨T, 0, none⟩) ∧ sb = .bool cc ∧ wx.heap[T]? = some (.cells #[.int .i64 ar, .slice aW FW.length cW] 31 (0, 0)) ∧ Rl.Rd wx aW gW oW FW ∧ Rl.said FW = X ∧ Below v1.heap.size v1 wx)
  case first =>
      go_region_held3 (fun w' => w'.cell? ⟨w.heap.size, 0, none⟩ = some (.int .i64 q0) ∧ w'.cell? ⟨w.heap.size, 1, none⟩ = some (.slice a0 Q0.length c0) ∧ w'.cell? ⟨w.heap.size + 1, 0, none⟩ = some (.int .i64 n2) ∧ w'.cell? ⟨w.heap.size + 1, 1, none⟩ = some (.string s2)) (go_keep) (first
        | (go_at_call 9; clear pa pb va vb; clear t1; have kB1 := kB; clear kB1; have hb : Below v1.heap.size v1 v1.drew := (Below.refl _ _).drew; replace k0 := (hb.block _ (Pl.blk_lt k0)).trans k0; replace k1 := (hb.block _ (Pl.blk_lt k1)).trans k1; replace r0 := r0.below hb; replace BW := Rw.next BW hb; clear hb; refine (Rl.toL_any _ _ _ _ _ _ _ r0).mono ?_; rintro e wa ⟨g0, X0, rfl, hb, m0, s0⟩; replace k0 := (hb.block _ (Pl.blk_lt k0)).trans k0; replace k1 := (hb.block _ (Pl.blk_lt k1)).trans k1; replace kB := (hb.block _ (Pl.blk_lt kB)).trans kB; replace r0 := r0.below hb; replace BW := Rw.next BW hb; clear hb; have t2 : True := trivial; obtain ⟨pa, pb⟩ := Pl.two k0; obtain ⟨va, vb⟩ := Pl.two k1)
        | (go_at_call 9; clear pa pb va vb; clear t1; have hb : Below v1.heap.size v1 v1.drew := (Below.refl _ _).drew; replace k0 := (hb.block _ (Pl.blk_lt k0)).trans k0; replace k1 := (hb.block _ (Pl.blk_lt k1)).trans k1; replace r0 := r0.below hb; replace BW := Rw.next BW hb; clear hb; refine (Rl.toL_any _ _ _ _ _ _ _ r0).mono ?_; rintro e wa ⟨g0, X0, rfl, hb, m0, s0⟩; replace k0 := (hb.block _ (Pl.blk_lt k0)).trans k0; replace k1 := (hb.block _ (Pl.blk_lt k1)).trans k1; replace r0 := r0.below hb; replace BW := Rw.next BW hb; clear hb; have t2 : True := trivial; obtain ⟨pa, pb⟩ := Pl.two k0; obtain ⟨va, vb⟩ := Pl.two k1)
        | (go_at_call 9; clear pa pb va vb; clear t1; have hb : Below v1.heap.size v1 v1.drew := (Below.refl _ _).drew; replace k0 := (hb.block _ (Pl.blk_lt k0)).trans k0; replace k1 := (hb.block _ (Pl.blk_lt k1)).trans k1; replace r0 := r0.below hb; replace BW := Rw.next BW hb; clear hb; have xW := BW.size; have hb := Pl.below_alloc1 (v1.drew) (.cells #[.int .i64 0, .slice none 0 0] 31); have xn0 : (v1).heap.size ≠ w.heap.size := Nat.ne_of_gt (Pl.blk_lt k0); have xm0 := xn0.symm; have xn1 : (v1).heap.size ≠ w.heap.size + 1 := Nat.ne_of_gt (Pl.blk_lt k1); have xm1 := xn1.symm; replace k0 := (hb.block _ (Pl.blk_lt k0)).trans k0; replace k1 := (hb.block _ (Pl.blk_lt k1)).trans k1; replace r0 := r0.below hb; replace BW := Rw.next BW hb; have kB : ((v1.drew).alloc (.cells #[.int .i64 0, .slice none 0 0] 31)).heap[v1.heap.size]? = some (.cells #[.int .i64 0, .slice none 0 0] 31 (0, 0)) := Pl.at_new rfl; clear hb; refine (Rl.toL_any _ _ _ _ _ _ _ r0).mono ?_; rintro e wa ⟨g0, X0, rfl, hb, m0, s0⟩; replace k0 := (hb.block _ (Pl.blk_lt k0)).trans k0; replace k1 := (hb.block _ (Pl.blk_lt k1)).trans k1; replace kB := (hb.block _ (Pl.blk_lt kB)).trans kB; replace r0 := r0.below hb; replace BW := Rw.next BW hb; clear hb; have t2 : True := trivial; obtain ⟨pa, pb⟩ := Pl.two k0; obtain ⟨va, vb⟩ := Pl.two k1)
        | (go_at_call 10; clear pa pb va vb; clear t2; have kB1 := kB; clear kB1; refine (Vl.toValue_any _ _ _).mono ?_; rintro e wb ⟨rfl, hb⟩; replace k0 := (hb.block _ (Pl.blk_lt k0)).trans k0; replace k1 := (hb.block _ (Pl.blk_lt k1)).trans k1; replace kB := (hb.block _ (Pl.blk_lt kB)).trans kB; replace r0 := r0.below hb; replace m0 := m0.below hb; replace BW := Rw.next BW hb; clear hb; have t3 : True := trivial; obtain ⟨pa, pb⟩ := Pl.two k0; obtain ⟨va, vb⟩ := Pl.two k1)
        | (go_at_call 10; clear pa pb va vb; clear t2; refine (Vl.toValue_any _ _ _).mono ?_; rintro e wb ⟨rfl, hb⟩; replace k0 := (hb.block _ (Pl.blk_lt k0)).trans k0; replace k1 := (hb.block _ (Pl.blk_lt k1)).trans k1; replace r0 := r0.below hb; replace m0 := m0.below hb; replace BW := Rw.next BW hb; clear hb; have t3 : True := trivial; obtain ⟨pa, pb⟩ := Pl.two k0; obtain ⟨va, vb⟩ := Pl.two k1)
        | (go_at_call 10; clear pa pb va vb; clear t2; have xW := BW.size; have hb := Pl.below_alloc1 (wa) (.cells #[.int .i64 0, .slice none 0 0] 31); have xn0 : (wa).heap.size ≠ w.heap.size := Nat.ne_of_gt (Pl.blk_lt k0); have xm0 := xn0.symm; have xn1 : (wa).heap.size ≠ w.heap.size + 1 := Nat.ne_of_gt (Pl.blk_lt k1); have xm1 := xn1.symm; replace k0 := (hb.block _ (Pl.blk_lt k0)).trans k0; replace k1 := (hb.block _ (Pl.blk_lt k1)).trans k1; replace r0 := r0.below hb; replace m0 := m0.below hb; replace BW := Rw.next BW hb; have kB : ((wa).alloc (.cells #[.int .i64 0, .slice none 0 0] 31)).heap[wa.heap.size]? = some (.cells #[.int .i64 0, .slice none 0 0] 31 (0, 0)) := Pl.at_new rfl; clear hb; refine (Vl.toValue_any _ _ _).mono ?_; rintro e wb ⟨rfl, hb⟩; replace k0 := (hb.block _ (Pl.blk_lt k0)).trans k0; replace k1 := (hb.block _ (Pl.blk_lt k1)).trans k1; replace kB := (hb.block _ (Pl.blk_lt kB)).trans kB; replace r0 := r0.below hb; replace m0 := m0.below hb; replace BW := Rw.next BW hb; clear hb; have t3 : True := trivial; obtain ⟨pa, pb⟩ := Pl.two k0; obtain ⟨va, vb⟩ := Pl.two k1)
        | (go_at_call 8; clear pa pb va vb; clear t3; have kB1 := kB; clear kB1; have xB := Pl.blk_lt kB; have xS := BW.size; refine (hS _ _ _ _ _ _ m0.rd s0).mono ?_; rintro e wc ⟨aW, gW, oW, cW, FW, rfl, mW, sW, hb, uW⟩; have xH := hb.size; replace k0 := (hb.block _ (Pl.blk_lt k0)).trans k0; replace k1 := (hb.block _ (Pl.blk_lt k1)).trans k1; replace kB := (hb.block _ (Pl.blk_lt kB)).trans kB; replace r0 := r0.below hb; replace BW := Rw.next BW hb; clear hb; have HSW : Hid (Rl.said FW = X) := sW; clear sW m0 s0; obtain ⟨pa, pb⟩ := Pl.two k0; obtain ⟨va, vb⟩ := Pl.two k1; obtain ⟨x0, x1⟩ := Pl.two kB; have fB := Vl.free kB)
        | (go_at_call 8; clear pa pb va vb; clear t3; have xS := BW.size; refine (hS _ _ _ _ _ _ m0.rd s0).mono ?_; rintro e wc ⟨aW, gW, oW, cW, FW, rfl, mW, sW, hb, uW⟩; have xH := hb.size; replace k0 := (hb.block _ (Pl.blk_lt k0)).trans k0; replace k1 := (hb.block _ (Pl.blk_lt k1)).trans k1; replace r0 := r0.below hb; replace BW := Rw.next BW hb; clear hb; have HSW : Hid (Rl.said FW = X) := sW; clear sW m0 s0; obtain ⟨pa, pb⟩ := Pl.two k0; obtain ⟨va, vb⟩ := Pl.two k1)
        | (go_at_call 8; clear pa pb va vb; clear t3; have xW := BW.size; have hb := Pl.below_alloc1 (wb) (.cells #[.int .i64 0, .slice none 0 0] 31); have xn0 : (wb).heap.size ≠ w.heap.size := Nat.ne_of_gt (Pl.blk_lt k0); have xm0 := xn0.symm; have xn1 : (wb).heap.size ≠ w.heap.size + 1 := Nat.ne_of_gt (Pl.blk_lt k1); have xm1 := xn1.symm; replace k0 := (hb.block _ (Pl.blk_lt k0)).trans k0; replace k1 := (hb.block _ (Pl.blk_lt k1)).trans k1; replace r0 := r0.below hb; replace m0 := m0.below hb; replace BW := Rw.next BW hb; have kB : ((wb).alloc (.cells #[.int .i64 0, .slice none 0 0] 31)).heap[wb.heap.size]? = some (.cells #[.int .i64 0, .slice none 0 0] 31 (0, 0)) := Pl.at_new rfl; clear hb; have xB := Pl.blk_lt kB; have xS := BW.size; refine (hS _ _ _ _ _ _ m0.rd s0).mono ?_; rintro e wc ⟨aW, gW, oW, cW, FW, rfl, mW, sW, hb, uW⟩; have xH := hb.size; replace k0 := (hb.block _ (Pl.blk_lt k0)).trans k0; replace k1 := (hb.block _ (Pl.blk_lt k1)).trans k1; replace kB := (hb.block _ (Pl.blk_lt kB)).trans kB; replace r0 := r0.below hb; replace BW := Rw.next BW hb; clear hb; have HSW : Hid (Rl.said FW = X) := sW; clear sW m0 s0; obtain ⟨pa, pb⟩ := Pl.two k0; obtain ⟨va, vb⟩ := Pl.two k1; obtain ⟨x0, x1⟩ := Pl.two kB; have fB := Vl.free kB))
      all_goals (go_wp2_with fail; go_meet)
      all_goals (first
        | (obtain ⟨z1, z2⟩ := fin1 (v0 := .int .i64 ar) (v1 := .slice aW FW.length cW) mW uW kB xB; exact ⟨_, _, gW, oW, _, FW, rfl, rfl, z1, z2, HSW.out, Vl.bset (Vl.bset BW xW) xW⟩)
        | exact ⟨_, _, gW, oW, _, FW, rfl, rfl, box, mW.below (Pl.below_alloc1 _ _), HSW.out, Rw.next BW (Pl.below_alloc1 _ _)⟩)
  case rest =>
    clear pa pb va vb
    clear BW k0 k1 r0 B0
    obtain ⟨T, aW, gW, oW, cW, FW, rfl, rfl, kT, mW, sW, hb⟩ := hcut
    obtain ⟨V0, hV0⟩ : ∃ V0, V0 = wc := ⟨_, rfl⟩
    subst hV0
    have HK0 : Hid (V0.heap[w.heap.size]? = some (.cells #[.int .i64 q0, .slice a0 Q0.length c0] 24 (0, 0))) := (hb.block _ (Pl.blk_lt HK.out.1)).trans HK.out.1
    have HK1 : Hid (V0.heap[w.heap.size + 1]? = some (.cells #[.int .i64 n2, .string s2] 26 (0, 0))) := (hb.block _ (Pl.blk_lt HK.out.2)).trans HK.out.2
    have HKT : Hid (V0.heap[T]? = some (.cells #[.int .i64 ar, .slice aW FW.length cW] 31 (0, 0))) := kT
    have HMW : Hid (Rl.Rd V0 aW gW oW FW) := mW
    have HSW : Hid (Rl.said FW = X) := sW
    have BC0 : Hid (Below v1.heap.size v1 V0) := hb
    have HBW : Hid (Below w.heap.size w V0) := Rw.next HB0.out hb
    have BC : Below V0.heap.size V0 V0 := Below.refl _ _
    clear hb kT mW sW HK HB0
    have k0c := (BC.block _ (Pl.blk_lt HK0.out)).trans HK0.out
    obtain ⟨pa, pb⟩ := Pl.two k0c
    have t1 : True := trivial
    go_wp2_with (go_at_call 9; clear t1; clear k0c pa pb; refine (Rl.toL_any _ _ _ _ _ _ _ (HR0.out.below BC0.out)).mono ?_; rintro e wx ⟨g0, X0, rfl, hb, m0, s0⟩; have n1 := hb.size; replace BC := Rw.next BC hb; clear hb)
    obtain ⟨W2, hW2⟩ : ∃ W2, W2 = wx.alloc (.cells #[.int .i64 q0, .slice (some ⟨g0, 0, none⟩) X0.length X0.length] 31) := ⟨_, rfl⟩
    rw [← hW2]
    have kx : W2.heap[wx.heap.size]? = some (.cells #[.int .i64 q0, .slice (some ⟨g0, 0, none⟩) X0.length X0.length] 31 (0, 0)) := (by subst hW2; exact Pl.at_new rfl)
    have hb : Below wx.heap.size wx W2 := (by subst hW2; exact Pl.below_alloc1 _ _)
    clear hW2
    replace m0 := m0.below hb
    replace BC := Rw.next BC hb
    clear hb
    have n2' := Pl.blk_lt kx
    have HN1 : Hid (V0.heap.size ≤ wx.heap.size ∧ wx.heap.size < W2.heap.size) := ⟨n1, n2'⟩
    clear n1 n2'
    have k1 := (BC.block _ (Pl.blk_lt HK1.out)).trans HK1.out
    obtain ⟨xa, xb⟩ := Pl.two kx
    obtain ⟨va, vb⟩ := Pl.two k1
    have BW : Below W2.heap.size W2 W2 := Below.refl _ _
    have t2 : True := trivial
    have HKx : Hid (W2.heap[wx.heap.size]? = some (.cells #[.int .i64 q0, .slice (some ⟨g0, 0, none⟩) X0.length X0.length] 31 (0, 0))) := kx
    have HM0 : Hid (Rl.Own W2 V0.heap.size wx.heap.size (some ⟨g0, 0, none⟩) g0 X0) := m0
    have HBC : Hid (Below V0.heap.size V0 W2) := BC
    go_cut [11, 12] from 18 (fun sa sb wx => ∃ (T LO HI : Nat) (aI : Option Addr) (gI cI : Nat) (FI : List Rl.Rm), sa = .pointer (some ⟨T, 0, none⟩) ∧ sb = .bool cc ∧ wx.heap[T]? = some (.cells #[.int .i64 ar, .slice aI FI.length cI] 31 (0, 0)) ∧ Rl.Own wx LO HI aI gI FI ∧ Rl.said FI = X ∧ Below W2.heap.size W2 wx ∧ W2.heap.size ≤ LO ∧ W2.heap.size ≤ T ∧ (T < LO ∨ HI ≤ T) ∧ HI ≤ wx.heap.size)
    case first =>
      go_region_held3 (fun w' => w'.cell? ⟨wx.heap.size, 0, none⟩ = some (.int .i64 q0) ∧ w'.cell? ⟨wx.heap.size, 1, none⟩ = some (.slice (some ⟨g0, 0, none⟩) X0.length X0.length) ∧ w'.cell? ⟨w.heap.size + 1, 0, none⟩ = some (.int .i64 n2) ∧ w'.cell? ⟨w.heap.size + 1, 1, none⟩ = some (.string s2)) (go_keep) (first
        | (go_at_call 10; clear xa xb va vb; clear t2; have kB1 := kB; clear kB1; have hb : Below W2.heap.size W2 W2.drew := (Below.refl _ _).drew; replace kx := (hb.block _ (Pl.blk_lt kx)).trans kx; replace k1 := (hb.block _ (Pl.blk_lt k1)).trans k1; replace m0 := m0.below hb; replace BW := Rw.next BW hb; clear hb; refine (Vl.toValue_any _ _ _).mono ?_; rintro e wa ⟨rfl, hb⟩; replace kx := (hb.block _ (Pl.blk_lt kx)).trans kx; replace k1 := (hb.block _ (Pl.blk_lt k1)).trans k1; replace kB := (hb.block _ (Pl.blk_lt kB)).trans kB; replace m0 := m0.below hb; replace BW := Rw.next BW hb; clear hb; have t3 : True := trivial; obtain ⟨xa, xb⟩ := Pl.two kx; obtain ⟨va, vb⟩ := Pl.two k1)
        | (go_at_call 10; clear xa xb va vb; clear t2; have hb : Below W2.heap.size W2 W2.drew := (Below.refl _ _).drew; replace kx := (hb.block _ (Pl.blk_lt kx)).trans kx; replace k1 := (hb.block _ (Pl.blk_lt k1)).trans k1; replace m0 := m0.below hb; replace BW := Rw.next BW hb; clear hb; refine (Vl.toValue_any _ _ _).mono ?_; rintro e wa ⟨rfl, hb⟩; replace kx := (hb.block _ (Pl.blk_lt kx)).trans kx; replace k1 := (hb.block _ (Pl.blk_lt k1)).trans k1; replace m0 := m0.below hb; replace BW := Rw.next BW hb; clear hb; have t3 : True := trivial; obtain ⟨xa, xb⟩ := Pl.two kx; obtain ⟨va, vb⟩ := Pl.two k1)
        | (go_at_call 10; clear xa xb va vb; clear t2; have hb : Below W2.heap.size W2 W2.drew := (Below.refl _ _).drew; replace kx := (hb.block _ (Pl.blk_lt kx)).trans kx; replace k1 := (hb.block _ (Pl.blk_lt k1)).trans k1; replace m0 := m0.below hb; replace BW := Rw.next BW hb; clear hb; have xW := BW.size; have hb := Pl.below_alloc1 (W2.drew) (.cells #[.int .i64 0, .slice none 0 0] 31); have xn0 : (W2).heap.size ≠ wx.heap.size := Nat.ne_of_gt (Pl.blk_lt kx); have xm0 := xn0.symm; have xn1 : (W2).heap.size ≠ w.heap.size + 1 := Nat.ne_of_gt (Pl.blk_lt k1); have xm1 := xn1.symm; replace kx := (hb.block _ (Pl.blk_lt kx)).trans kx; replace k1 := (hb.block _ (Pl.blk_lt k1)).trans k1; replace m0 := m0.below hb; replace BW := Rw.next BW hb; have kB : ((W2.drew).alloc (.cells #[.int .i64 0, .slice none 0 0] 31)).heap[W2.heap.size]? = some (.cells #[.int .i64 0, .slice none 0 0] 31 (0, 0)) := Pl.at_new rfl; clear hb; refine (Vl.toValue_any _ _ _).mono ?_; rintro e wa ⟨rfl, hb⟩; replace kx := (hb.block _ (Pl.blk_lt kx)).trans kx; replace k1 := (hb.block _ (Pl.blk_lt k1)).trans k1; replace kB := (hb.block _ (Pl.blk_lt kB)).trans kB; replace m0 := m0.below hb; replace BW := Rw.next BW hb; clear hb; have t3 : True := trivial; obtain ⟨xa, xb⟩ := Pl.two kx; obtain ⟨va, vb⟩ := Pl.two k1)
        | (go_at_call 11; clear xa xb va vb; clear t3; have kB1 := kB; clear kB1; have xB := Pl.blk_lt kB; have xS := BW.size; refine (hI _ _ _ _ _ _ m0.rd s0).mono ?_; rintro e wc ⟨v5, FI, rfl, hot, sI, hb⟩; have xH := hb.size; replace kx := (hb.block _ (Pl.blk_lt kx)).trans kx; replace k1 := (hb.block _ (Pl.blk_lt k1)).trans k1; replace kB := (hb.block _ (Pl.blk_lt kB)).trans kB; replace m0 := m0.below hb; replace BW := Rw.next BW hb; clear hb; obtain ⟨lFI, cFI⟩ := Rl.small_said sI HSm.out; obtain ⟨aI, gI, cI, rfl, mI⟩ := hot.form (by omega); have HSI : Hid (Rl.said FI = X) := sI; clear sI hot lFI cFI; obtain ⟨xa, xb⟩ := Pl.two kx; obtain ⟨va, vb⟩ := Pl.two k1; obtain ⟨x0, x1⟩ := Pl.two kB; have fB := Vl.free kB)
        | (go_at_call 11; clear xa xb va vb; clear t3; have xS := BW.size; refine (hI _ _ _ _ _ _ m0.rd s0).mono ?_; rintro e wc ⟨v5, FI, rfl, hot, sI, hb⟩; have xH := hb.size; replace kx := (hb.block _ (Pl.blk_lt kx)).trans kx; replace k1 := (hb.block _ (Pl.blk_lt k1)).trans k1; replace m0 := m0.below hb; replace BW := Rw.next BW hb; clear hb; obtain ⟨lFI, cFI⟩ := Rl.small_said sI HSm.out; obtain ⟨aI, gI, cI, rfl, mI⟩ := hot.form (by omega); have HSI : Hid (Rl.said FI = X) := sI; clear sI hot lFI cFI; obtain ⟨xa, xb⟩ := Pl.two kx; obtain ⟨va, vb⟩ := Pl.two k1)
        | (go_at_call 11; clear xa xb va vb; clear t3; have xW := BW.size; have hb := Pl.below_alloc1 (wa) (.cells #[.int .i64 0, .slice none 0 0] 31); have xn0 : (wa).heap.size ≠ wx.heap.size := Nat.ne_of_gt (Pl.blk_lt kx); have xm0 := xn0.symm; have xn1 : (wa).heap.size ≠ w.heap.size + 1 := Nat.ne_of_gt (Pl.blk_lt k1); have xm1 := xn1.symm; replace kx := (hb.block _ (Pl.blk_lt kx)).trans kx; replace k1 := (hb.block _ (Pl.blk_lt k1)).trans k1; replace m0 := m0.below hb; replace BW := Rw.next BW hb; have kB : ((wa).alloc (.cells #[.int .i64 0, .slice none 0 0] 31)).heap[wa.heap.size]? = some (.cells #[.int .i64 0, .slice none 0 0] 31 (0, 0)) := Pl.at_new rfl; clear hb; have xB := Pl.blk_lt kB; have xS := BW.size; refine (hI _ _ _ _ _ _ m0.rd s0).mono ?_; rintro e wc ⟨v5, FI, rfl, hot, sI, hb⟩; have xH := hb.size; replace kx := (hb.block _ (Pl.blk_lt kx)).trans kx; replace k1 := (hb.block _ (Pl.blk_lt k1)).trans k1; replace kB := (hb.block _ (Pl.blk_lt kB)).trans kB; replace m0 := m0.below hb; replace BW := Rw.next BW hb; clear hb; obtain ⟨lFI, cFI⟩ := Rl.small_said sI HSm.out; obtain ⟨aI, gI, cI, rfl, mI⟩ := hot.form (by omega); have HSI : Hid (Rl.said FI = X) := sI; clear sI hot lFI cFI; obtain ⟨xa, xb⟩ := Pl.two kx; obtain ⟨va, vb⟩ := Pl.two k1; obtain ⟨x0, x1⟩ := Pl.two kB; have fB := Vl.free kB))
      all_goals (go_wp2_with fail; go_meet)
      all_goals (first
        | (obtain ⟨z1, z2, z3⟩ := fin2 (v0 := .int .i64 ar) (v1 := .slice aI FI.length cI) mI kB xB; exact ⟨_, _, _, _, gI, _, FI, rfl, rfl, z1, z2, HSI.out, Vl.bset (Vl.bset BW xW) xW, xS, xW, .inl xB, by rw [z3]; exact Nat.le_refl _⟩)
        | exact ⟨_, _, _, _, gI, _, FI, rfl, rfl, box, mI.below (Pl.below_alloc1 _ _), HSI.out, Rw.next BW (Pl.below_alloc1 _ _), xS, Nat.le_trans xS xH, .inr (Nat.le_refl _), by rw [World.size_alloc]; exact Nat.le_succ _⟩)
    case rest =>
    clear xa xb va vb
    clear BW k1 kx m0 BC
    obtain ⟨TI, LO, HI, aI, gI, cI, FI, rfl, rfl, kI, mI, sI, hb, n1, n2', n3, n4⟩ := hcut
    have kx := (hb.block _ (Pl.blk_lt HKx.out)).trans HKx.out
    have m0 := HM0.out.below hb
    have BC := Rw.next HBC.out hb
    clear HKx HM0 HBC hb
    have HN2 : Hid (W2.heap.size ≤ LO ∧ W2.heap.size ≤ TI ∧ (TI < LO ∨ HI ≤ TI)) := ⟨n1, n2', n3⟩
    clear n1 n2' n3 n4
    have HcF : Hid (1 + Rl.cnt FI FI.length * 2 ≤ 100000000000) := (by obtain ⟨lFI, cFI⟩ := Rl.small_said sI HSm.out; omega : 1 + Rl.cnt FI FI.length * 2 ≤ 100000000000)
    have kTc := (BC.block _ (Pl.blk_lt HKT.out)).trans HKT.out
    obtain ⟨ta, tb⟩ := Pl.two kTc
    obtain ⟨ia, ib⟩ := Pl.two kI
    go_wp2_with (go_at_call 12; clear kTc ta tb; clear ia ib; refine (Rl.eqL_same _ _ _ _ _ _ _ _ _ FI FW _ mI.rd (HMW.out.below BC) (sI.trans HSW.out.symm)).mono ?_; rintro e w5 ⟨rfl, hb⟩; replace kx := (hb.block _ (Pl.blk_lt kx)).trans kx; replace kI := (hb.block _ (Pl.blk_lt kI)).trans kI; replace m0 := m0.below hb; replace mI := mI.below hb; replace BC := Rw.next BC hb; clear hb; have k0c := (BC.block _ (Pl.blk_lt HK0.out)).trans HK0.out; obtain ⟨pa, pb⟩ := Pl.two k0c; obtain ⟨xa, xb⟩ := Pl.two kx)
    go_region_held3 (fun w' => w'.cell? ⟨wx.heap.size, 0, none⟩ = some (.int .i64 q0) ∧ w'.cell? ⟨wx.heap.size, 1, none⟩ = some (.slice (some ⟨g0, 0, none⟩) X0.length X0.length) ∧ w'.cell? ⟨w.heap.size, 0, none⟩ = some (.int .i64 q0) ∧ w'.cell? ⟨w.heap.size, 1, none⟩ = some (.slice a0 Q0.length c0)) (go_keep) (first
      | (go_at_call 9; clear k0c pa pb; clear xa xb; refine (Rl.toL_any _ _ _ _ _ _ _ (HR0.out.below (Rw.next (Rw.next BC0.out BC) ((Below.refl _ _).drew)))).mono ?_; rintro e w6 ⟨g2, X2, rfl, hb, m2, s2'⟩; replace hb := Rw.next ((Below.refl _ _).drew) hb; replace kx := (hb.block _ (Pl.blk_lt kx)).trans kx; replace kI := (hb.block _ (Pl.blk_lt kI)).trans kI; replace m0 := m0.below hb; replace mI := mI.below hb; replace BC := Rw.next BC hb; clear hb; have k0c := (BC.block _ (Pl.blk_lt HK0.out)).trans HK0.out; obtain ⟨pa, pb⟩ := Pl.two k0c; obtain ⟨xa, xb⟩ := Pl.two kx)
      | (go_at_call 12; clear k0c pa pb; clear xa xb; refine (Rl.eqL_same _ _ _ _ _ _ _ _ _ X0 X2 _ m0.rd m2.rd (s0.trans s2'.symm)).mono ?_; rintro e w7 ⟨rfl, hb⟩; clear m2 s2'; replace kx := (hb.block _ (Pl.blk_lt kx)).trans kx; replace kI := (hb.block _ (Pl.blk_lt kI)).trans kI; replace m0 := m0.below hb; replace mI := mI.below hb; replace BC := Rw.next BC hb; clear hb; have k0c := (BC.block _ (Pl.blk_lt HK0.out)).trans HK0.out; obtain ⟨pa, pb⟩ := Pl.two k0c; obtain ⟨xa, xb⟩ := Pl.two kx))
    clear k0c pa pb
    have HU0 : Hid (∀ z, Rl.UseQ X0 z → V0.heap.size ≤ z ∧ z < wx.heap.size) := fun z ⟨r, hr, h0, e⟩ => by obtain ⟨_, q1, q2, _⟩ := m0.each r hr h0; omega
    have HUI : Hid (∀ z, Rl.UseQ FI z → LO ≤ z ∧ z < HI) := fun z ⟨r, hr, h0, e⟩ => by obtain ⟨_, q1, q2, _⟩ := mI.each r hr h0; omega
    have HcX : Hid (1 + Rl.cnt X0 X0.length * 2 ≤ 100000000000) := (by have e0 := Rl.cnt_said s0 X0.length; have l0 : X0.length = Q0.length := (by rw [← Rl.said_len, ← Rl.said_len, s0]); rw [l0] at e0 ⊢; have h0 := Hc0.out; omega : 1 + Rl.cnt X0 X0.length * 2 ≤ 100000000000)
    obtain ⟨Ka, hKa⟩ : ∃ Ka : Nat, Ka = 1 + Rl.cnt X0 X0.length * 2 := ⟨_, rfl⟩
    have HKa : Hid (Ka = 1 + Rl.cnt X0 X0.length * 2) := hKa
    have hKan : ¬ ((Ka : Int) < 0) := by omega
    obtain ⟨Kc, hKc⟩ : ∃ Kc : Nat, Kc = 1 + Rl.cnt FI FI.length * 2 := ⟨_, rfl⟩
    have HKc : Hid (Kc = 1 + Rl.cnt FI FI.length * 2) := hKc
    have hKcn : ¬ ((Kc : Int) < 0) := by omega
    clear hKa hKc
    have t5 : True := trivial
    go_wp2_with (first
      | (go_at_call 13; clear t5 xa xb; refine (Rl.markL_any 1 (by omega) q0 _ g0 _ V0.heap.size wx.heap.size X0 _ m0 HcX.out).mono ?_; rw [← HKa.out]; rintro e wA ⟨rfl, kp, _⟩; have kk := kp.block _ (Pl.blk_lt kI) (fun hu => by have q := HU0.out _ hu; have hN1 := HN1.out; have hN2 := HN2.out; omega); replace kI := kk.trans kI; clear kk; replace mI := mI.keep (fun z hz hz2 => kp.block z hz2 (fun hu => by have q := HU0.out _ hu; have hN1 := HN1.out; have hN2 := HN2.out; omega)); replace BC := kp.below BC BC.size (fun z hu => by have q := HU0.out _ hu; omega); clear kp m0 kx; have kTc := (BC.block _ (Pl.blk_lt HKT.out)).trans HKT.out; obtain ⟨ta, tb⟩ := Pl.two kTc; obtain ⟨ia, ib⟩ := Pl.two kI; have t7 : True := trivial)
      | (go_at_call 12; clear t7; clear kTc ta tb; clear ia ib; refine (Rl.eqL_same _ _ _ _ _ _ _ _ _ FI FW _ mI.rd (HMW.out.below BC) (sI.trans HSW.out.symm)).mono ?_; rintro e wC ⟨rfl, hb⟩; replace kI := (hb.block _ (Pl.blk_lt kI)).trans kI; replace mI := mI.below hb; replace BC := Rw.next BC hb; clear hb; obtain ⟨ia, ib⟩ := Pl.two kI; have t8 : True := trivial)
      | (go_at_call 13; clear t8 ia ib; refine (Rl.markL_any 1 (by omega) ar _ gI _ LO HI FI _ mI HcF.out).mono ?_; rw [← HKc.out]; rintro e wD ⟨rfl, kp, mk⟩; have kk := kp.block _ (Pl.blk_lt kI) (fun hu => by have q := HUI.out _ hu; have hN1 := HN1.out; have hN2 := HN2.out; omega); replace kI := kk.trans kI; clear kk; replace BC := kp.below BC BC.size (fun z hu => by have q := HUI.out _ hu; have hN1 := HN1.out; have hN2 := HN2.out; omega); clear kp mI; obtain ⟨ia, ib⟩ := Pl.two kI; have t9 : True := trivial)
      | (go_at_call 14; clear t9 ia ib; refine (Rl.heldL_any 1 (by omega) ar _ gI _ FI _ mk HcF.out).mono ?_; rw [← HKc.out]; rintro e wE ⟨rfl, hb⟩; replace kI := (hb.block _ (Pl.blk_lt kI)).trans kI; replace mk := mk.below hb; replace BC := Rw.next BC hb; clear hb))
    have k0 := (BC.block _ (Pl.blk_lt HK0.out)).trans HK0.out
    have k1 := (BC.block _ (Pl.blk_lt HK1.out)).trans HK1.out
    have r0 := HR0.out.below (Rw.next BC0.out BC)
    obtain ⟨pa, pb⟩ := Pl.two k0
    obtain ⟨va, vb⟩ := Pl.two k1
    have BW : Below wE.heap.size wE wE := Below.refl _ _
    have t1 : True := trivial
    have HKI : Hid (wE.heap[TI]? = some (.cells #[.int .i64 ar, .slice aI FI.length cI] 31 (0, 0)) ∧ Below V0.heap.size V0 wE) := ⟨kI, BC⟩
    have HMk : Hid (Rl.MkQ wE 1 aI gI FI) := mk
    clear kI BC mk s0
    go_cut [16, 17] from 18 (fun sa sb wx => ∃ (T : Nat) (aW : Option Addr) (gW oW cW : Nat) (FW : List Rl.Rm), sa = .pointer (some ⟨T, 0, none⟩) ∧ sb = .bool cc ∧ wx.heap[T]? = some (.cells #[.int .i64 ar, .slice aW FW.length cW] 31 (0, 0)) ∧ Rl.Rd wx aW gW oW FW ∧ Rl.said FW = X ∧ Below wE.heap.size wE wx)
    case first =>
      go_region_held3 (fun w' => w'.cell? ⟨w.heap.size, 0, none⟩ = some (.int .i64 q0) ∧ w'.cell? ⟨w.heap.size, 1, none⟩ = some (.slice a0 Q0.length c0) ∧ w'.cell? ⟨w.heap.size + 1, 0, none⟩ = some (.int .i64 n2) ∧ w'.cell? ⟨w.heap.size + 1, 1, none⟩ = some (.string s2)) (go_keep) (first
        | (go_at_call 9; clear pa pb va vb; clear t1; have kB1 := kB; clear kB1; have hb : Below wE.heap.size wE wE.drew := (Below.refl _ _).drew; replace k0 := (hb.block _ (Pl.blk_lt k0)).trans k0; replace k1 := (hb.block _ (Pl.blk_lt k1)).trans k1; replace r0 := r0.below hb; replace BW := Rw.next BW hb; clear hb; refine (Rl.toL_any _ _ _ _ _ _ _ r0).mono ?_; rintro e wa ⟨g0, X0, rfl, hb, m0, s0⟩; replace k0 := (hb.block _ (Pl.blk_lt k0)).trans k0; replace k1 := (hb.block _ (Pl.blk_lt k1)).trans k1; replace kB := (hb.block _ (Pl.blk_lt kB)).trans kB; replace r0 := r0.below hb; replace BW := Rw.next BW hb; clear hb; have t2 : True := trivial; obtain ⟨pa, pb⟩ := Pl.two k0; obtain ⟨va, vb⟩ := Pl.two k1)
        | (go_at_call 9; clear pa pb va vb; clear t1; have hb : Below wE.heap.size wE wE.drew := (Below.refl _ _).drew; replace k0 := (hb.block _ (Pl.blk_lt k0)).trans k0; replace k1 := (hb.block _ (Pl.blk_lt k1)).trans k1; replace r0 := r0.below hb; replace BW := Rw.next BW hb; clear hb; refine (Rl.toL_any _ _ _ _ _ _ _ r0).mono ?_; rintro e wa ⟨g0, X0, rfl, hb, m0, s0⟩; replace k0 := (hb.block _ (Pl.blk_lt k0)).trans k0; replace k1 := (hb.block _ (Pl.blk_lt k1)).trans k1; replace r0 := r0.below hb; replace BW := Rw.next BW hb; clear hb; have t2 : True := trivial; obtain ⟨pa, pb⟩ := Pl.two k0; obtain ⟨va, vb⟩ := Pl.two k1)
        | (go_at_call 9; clear pa pb va vb; clear t1; have hb : Below wE.heap.size wE wE.drew := (Below.refl _ _).drew; replace k0 := (hb.block _ (Pl.blk_lt k0)).trans k0; replace k1 := (hb.block _ (Pl.blk_lt k1)).trans k1; replace r0 := r0.below hb; replace BW := Rw.next BW hb; clear hb; have xW := BW.size; have hb := Pl.below_alloc1 (wE.drew) (.cells #[.int .i64 0, .slice none 0 0] 31); have xn0 : (wE).heap.size ≠ w.heap.size := Nat.ne_of_gt (Pl.blk_lt k0); have xm0 := xn0.symm; have xn1 : (wE).heap.size ≠ w.heap.size + 1 := Nat.ne_of_gt (Pl.blk_lt k1); have xm1 := xn1.symm; replace k0 := (hb.block _ (Pl.blk_lt k0)).trans k0; replace k1 := (hb.block _ (Pl.blk_lt k1)).trans k1; replace r0 := r0.below hb; replace BW := Rw.next BW hb; have kB : ((wE.drew).alloc (.cells #[.int .i64 0, .slice none 0 0] 31)).heap[wE.heap.size]? = some (.cells #[.int .i64 0, .slice none 0 0] 31 (0, 0)) := Pl.at_new rfl; clear hb; refine (Rl.toL_any _ _ _ _ _ _ _ r0).mono ?_; rintro e wa ⟨g0, X0, rfl, hb, m0, s0⟩; replace k0 := (hb.block _ (Pl.blk_lt k0)).trans k0; replace k1 := (hb.block _ (Pl.blk_lt k1)).trans k1; replace kB := (hb.block _ (Pl.blk_lt kB)).trans kB; replace r0 := r0.below hb; replace BW := Rw.next BW hb; clear hb; have t2 : True := trivial; obtain ⟨pa, pb⟩ := Pl.two k0; obtain ⟨va, vb⟩ := Pl.two k1)
        | (go_at_call 10; clear pa pb va vb; clear t2; have kB1 := kB; clear kB1; refine (Vl.toValue_any _ _ _).mono ?_; rintro e wb ⟨rfl, hb⟩; replace k0 := (hb.block _ (Pl.blk_lt k0)).trans k0; replace k1 := (hb.block _ (Pl.blk_lt k1)).trans k1; replace kB := (hb.block _ (Pl.blk_lt kB)).trans kB; replace r0 := r0.below hb; replace m0 := m0.below hb; replace BW := Rw.next BW hb; clear hb; have t3 : True := trivial; obtain ⟨pa, pb⟩ := Pl.two k0; obtain ⟨va, vb⟩ := Pl.two k1)
        | (go_at_call 10; clear pa pb va vb; clear t2; refine (Vl.toValue_any _ _ _).mono ?_; rintro e wb ⟨rfl, hb⟩; replace k0 := (hb.block _ (Pl.blk_lt k0)).trans k0; replace k1 := (hb.block _ (Pl.blk_lt k1)).trans k1; replace r0 := r0.below hb; replace m0 := m0.below hb; replace BW := Rw.next BW hb; clear hb; have t3 : True := trivial; obtain ⟨pa, pb⟩ := Pl.two k0; obtain ⟨va, vb⟩ := Pl.two k1)
        | (go_at_call 10; clear pa pb va vb; clear t2; have xW := BW.size; have hb := Pl.below_alloc1 (wa) (.cells #[.int .i64 0, .slice none 0 0] 31); have xn0 : (wa).heap.size ≠ w.heap.size := Nat.ne_of_gt (Pl.blk_lt k0); have xm0 := xn0.symm; have xn1 : (wa).heap.size ≠ w.heap.size + 1 := Nat.ne_of_gt (Pl.blk_lt k1); have xm1 := xn1.symm; replace k0 := (hb.block _ (Pl.blk_lt k0)).trans k0; replace k1 := (hb.block _ (Pl.blk_lt k1)).trans k1; replace r0 := r0.below hb; replace m0 := m0.below hb; replace BW := Rw.next BW hb; have kB : ((wa).alloc (.cells #[.int .i64 0, .slice none 0 0] 31)).heap[wa.heap.size]? = some (.cells #[.int .i64 0, .slice none 0 0] 31 (0, 0)) := Pl.at_new rfl; clear hb; refine (Vl.toValue_any _ _ _).mono ?_; rintro e wb ⟨rfl, hb⟩; replace k0 := (hb.block _ (Pl.blk_lt k0)).trans k0; replace k1 := (hb.block _ (Pl.blk_lt k1)).trans k1; replace kB := (hb.block _ (Pl.blk_lt kB)).trans kB; replace r0 := r0.below hb; replace m0 := m0.below hb; replace BW := Rw.next BW hb; clear hb; have t3 : True := trivial; obtain ⟨pa, pb⟩ := Pl.two k0; obtain ⟨va, vb⟩ := Pl.two k1)
        | (go_at_call 11; clear pa pb va vb; clear t3; have kB1 := kB; clear kB1; have xB := Pl.blk_lt kB; have xS := BW.size; refine (hI2 _ _ _ _ _ _ m0.rd s0).mono ?_; rintro e wc ⟨aW, gW, oW, cW, FW, rfl, mW, sW, hb, uW⟩; have xH := hb.size; replace k0 := (hb.block _ (Pl.blk_lt k0)).trans k0; replace k1 := (hb.block _ (Pl.blk_lt k1)).trans k1; replace kB := (hb.block _ (Pl.blk_lt kB)).trans kB; replace r0 := r0.below hb; replace BW := Rw.next BW hb; clear hb; have HSW : Hid (Rl.said FW = X) := sW; clear sW m0 s0; obtain ⟨pa, pb⟩ := Pl.two k0; obtain ⟨va, vb⟩ := Pl.two k1; obtain ⟨x0, x1⟩ := Pl.two kB; have fB := Vl.free kB)
        | (go_at_call 11; clear pa pb va vb; clear t3; have xS := BW.size; refine (hI2 _ _ _ _ _ _ m0.rd s0).mono ?_; rintro e wc ⟨aW, gW, oW, cW, FW, rfl, mW, sW, hb, uW⟩; have xH := hb.size; replace k0 := (hb.block _ (Pl.blk_lt k0)).trans k0; replace k1 := (hb.block _ (Pl.blk_lt k1)).trans k1; replace r0 := r0.below hb; replace BW := Rw.next BW hb; clear hb; have HSW : Hid (Rl.said FW = X) := sW; clear sW m0 s0; obtain ⟨pa, pb⟩ := Pl.two k0; obtain ⟨va, vb⟩ := Pl.two k1)
        | (go_at_call 11; clear pa pb va vb; clear t3; have xW := BW.size; have hb := Pl.below_alloc1 (wb) (.cells #[.int .i64 0, .slice none 0 0] 31); have xn0 : (wb).heap.size ≠ w.heap.size := Nat.ne_of_gt (Pl.blk_lt k0); have xm0 := xn0.symm; have xn1 : (wb).heap.size ≠ w.heap.size + 1 := Nat.ne_of_gt (Pl.blk_lt k1); have xm1 := xn1.symm; replace k0 := (hb.block _ (Pl.blk_lt k0)).trans k0; replace k1 := (hb.block _ (Pl.blk_lt k1)).trans k1; replace r0 := r0.below hb; replace m0 := m0.below hb; replace BW := Rw.next BW hb; have kB : ((wb).alloc (.cells #[.int .i64 0, .slice none 0 0] 31)).heap[wb.heap.size]? = some (.cells #[.int .i64 0, .slice none 0 0] 31 (0, 0)) := Pl.at_new rfl; clear hb; have xB := Pl.blk_lt kB; have xS := BW.size; refine (hI2 _ _ _ _ _ _ m0.rd s0).mono ?_; rintro e wc ⟨aW, gW, oW, cW, FW, rfl, mW, sW, hb, uW⟩; have xH := hb.size; replace k0 := (hb.block _ (Pl.blk_lt k0)).trans k0; replace k1 := (hb.block _ (Pl.blk_lt k1)).trans k1; replace kB := (hb.block _ (Pl.blk_lt kB)).trans kB; replace r0 := r0.below hb; replace BW := Rw.next BW hb; clear hb; have HSW : Hid (Rl.said FW = X) := sW; clear sW m0 s0; obtain ⟨pa, pb⟩ := Pl.two k0; obtain ⟨va, vb⟩ := Pl.two k1; obtain ⟨x0, x1⟩ := Pl.two kB; have fB := Vl.free kB))
      all_goals (go_wp2_with fail; go_meet)
      all_goals (first
        | (obtain ⟨z1, z2⟩ := fin1 (v0 := .int .i64 ar) (v1 := .slice aW FW.length cW) mW uW kB xB; exact ⟨_, _, gW, oW, _, FW, rfl, rfl, z1, z2, HSW.out, Vl.bset (Vl.bset BW xW) xW⟩)
        | exact ⟨_, _, gW, oW, _, FW, rfl, rfl, box, mW.below (Pl.below_alloc1 _ _), HSW.out, Rw.next BW (Pl.below_alloc1 _ _)⟩)
    case rest =>
      clear pa pb va vb
      clear BW k0 k1 r0
      obtain ⟨T2, aH, gH, oH, cH, FH, rfl, rfl, kH, mH, sH, hb⟩ := hcut
      have kI := (hb.block _ (Pl.blk_lt HKI.out.1)).trans HKI.out.1
      have BC := Rw.next HKI.out.2 hb
      have mk := HMk.out.below hb
      clear hb HKI HMk
      obtain ⟨ha, hbb⟩ := Pl.two kH
      have kTc := (BC.block _ (Pl.blk_lt HKT.out)).trans HKT.out
      obtain ⟨ta, tb⟩ := Pl.two kTc
      have tB : True := trivial
      go_wp2_with (first
        | (go_at_call 12; clear tB; clear kTc ta tb; clear ha hbb; refine (Rl.eqL_same _ _ _ _ _ _ _ _ _ FH FW _ mH (HMW.out.below BC) (sH.trans HSW.out.symm)).mono ?_; rintro e wH ⟨rfl, hb⟩; replace kI := (hb.block _ (Pl.blk_lt kI)).trans kI; replace mk := mk.below hb; replace BC := Rw.next BC hb; clear hb; obtain ⟨ia, ib⟩ := Pl.two kI; have tc : True := trivial)
        | (go_at_call 14; clear tc ia ib; refine (Rl.heldL_any 1 (by omega) ar _ gI _ FI _ mk HcF.out).mono ?_; rw [← HKc.out]; rintro e wK ⟨rfl, hb⟩; replace BC := Rw.next BC hb))
      go_ret
      exact ⟨rfl, Rw.next HBW.out BC⟩

set_option maxRecDepth 100000 in
theorem lifted (os : Os) (started : os.Started) (H : Type) (enc : TypeId × Value → H) :
    ReturnsInHanded {} Try.checked os 3 .any (Rows.fnExactRelPickSpec.pre6 enc Try.prog Try.f3 Rows.fnExactRelPickRow.domain false) (Rows.fnExactRelPickSpec.post enc Try.prog Try.f3 false true false false) := by
  refine returnsInHanded_of_change (C := Try.checked) own started (by kernel_rfl) Try.func3
    (ChangeSpec.witness6 (enc := enc) (C := Try.checked) false ⟨#[], #[.agg #[.int .i64 0, .slice none 0 0], .int .i64 0, .agg #[.int .i64 0, .string ByteArray.empty]], []⟩ 8 (by kernel_rfl) (by kernel_rfl) (by kernel_rfl) (by kernel_rfl)) ?_
  intro W base args ds gs before hval0 hW hcnd _
  have hval : ∀ (j : Nat) t v, Try.f3.params[j]? = some t → args[j]? = some v → Value.okWide Try.prog W .any base t v := hval0
  have hW' := hW
  obtain ⟨p, q, hA0, hV, rfl, hfz, hnd⟩ := hW
  have hA : DataW.TrodAll enc Try.prog W 0 (fun _ => true) true Try.f3.params.toList args.toList ds p := hA0
  rw [Try.params3] at hA hval
  obtain ⟨v0, vs0, d0, ds0, p0, q0, hargs, rfl, rfl, h0, r0⟩ := trodAll_cons hA
  obtain ⟨v1, vs1, d1, ds1, p1, q1, rfl, rfl, rfl, h1, r1⟩ := trodAll_cons r0
  obtain ⟨v2, vs2, d2, ds2, p2, q2, rfl, rfl, rfl, h2, r2⟩ := trodAll_cons r1
  obtain ⟨rfl, rfl, rfl⟩ := trodAll_nil r2
  obtain rfl : args = #[v0, v1, v2] := by cases args; simp_all
  obtain ⟨rfl, rfl⟩ := trodVars_none hV
  have k0 := h0
  have lt0 : ∀ x ∈ p0, x.block < W.heap.size := by obtain ⟨m, hm⟩ := k0; exact DataW.trod_lt m _ _ _ hm
  obtain ⟨q0, a0, c0, S0, rfl, w0⟩ := Rl.open_rel (hval 0 24 v0 rfl rfl) h0
  obtain ⟨i1, rfl, rfl, rfl, w1⟩ := open_int Try.underlying3 (hval 1 3 v1 rfl rfl) h1
  have k2 := h2
  have lt2 : ∀ x ∈ p2, x.block < W.heap.size := by obtain ⟨m, hm⟩ := k2; exact DataW.trod_lt m _ _ _ hm
  obtain ⟨n2, s2, rfl, w2⟩ := Vl.open_value (hval 2 26 v2 rfl rfl) h2
  clear hA0 hval0
  refine (walk q0 a0 c0 S0 i1 n2 s2 W w0 w2).mono fun e W' ⟨he, bel⟩ => ?_
  subst he
  exact ⟨_, rfl, _, _, _, [], _, [], hW', trodAll_mk1 (shut_bool Try.underlying4 _), (trodAll_cons_mk (Below.trod laidOut (by kernel_rfl) (of_decide_eq_true (by kernel_rfl)) k0 bel lt0) (trodAll_cons_mk (shut_int Try.underlying3 w1) (trodAll_cons_mk (Below.trod laidOut (by kernel_rfl) (of_decide_eq_true (by kernel_rfl)) k2 bel lt2) trodAll_mk0))), rfl, bel.frame _, fun h => by cases h⟩

theorem over : Rows.fnExactRelPickRow.holds Try.pinned (OpenSpec.ofChange Rows.fnExactRelPickSpec) :=
  OpenClaim.holds_of_wide 3 Try.f3 rfl rfl rfl rfl rfl rfl rfl ⟨rfl, rfl, rfl, rfl, rfl⟩ rfl rfl rfl rfl rfl (by kernel_rfl) Try.func3 (by kernel_rfl)
    (of_decide_eq_true (by kernel_rfl)) (by unfold Func.isWrapper; first | (rw [if_pos (by decide +kernel)]; kernel_rfl) | (rw [if_neg (by decide +kernel)]; exact ⟨rfl, rfl⟩))
    (fun os started H enc _ => lifted os started H enc)

theorem proved : Rows.FnExactRelPickSaid := over
end Go.Proofs.Ytfiebakgphcnbaa.fnExactRelPick

namespace Go.Proofs.Ytfiebakgphcnbaa
theorem FnExactRelPick_holds : Rows.FnExactRelPickSaid := fnExactRelPick.proved
end Go.Proofs.Ytfiebakgphcnbaa
