/- Union, difference and what is common fit together; no condition. -/
import Derived.Test.YtfiebakgphcnbaaRows
import Derived.Test.YtfiebakgphcnbaaDa9
import Derived.Test.YtfiebakgphcnbaaDb1
import Derived.Test.YtfiebakgphcnbaaRi
import Derived.Test.YtfiebakgphcnbaaRza
import Derived.WalkKit
import Derived.ProofKit
import Derived.OpenShut
import Derived.ShutString
import Derived.ChangeOld
import Derived.Below
import Derived.Deep.RegionWith
import Derived.Deep.RegionHeld3
namespace Go.Proofs.Ytfiebakgphcnbaa.fnSets
open Go.ChangeShapes Go.WideShapes Go.ChangeAt Go.RowKit
set_option linter.unusedVariables false
set_option linter.unusedSimpArgs false

theorem own : ownKnob Try.prog.godebug = none := by kernel_rfl
theorem laidOut : laidOutB Try.prog = true := by kernel_rfl

set_option maxRecDepth 8000 in
set_option maxHeartbeats 16000000 in
theorem walk (a0 : Option Addr) (n0 c0 : Nat) (z0 : List Int) (w : World) (w0 : Rw.IsRow .u8 w a0 n0 c0 z0) :
    Calls Try.prog 5 #[.slice a0 n0 c0] w fun e w' => e = .returned (.bool true) ∧ Below w.heap.size w w' := by
  by_cases big0 : 1048576 < n0
  · have z0 : (1048576 : Int) < (n0 : Int) := by omega
    go_enter Try.func5, Try.ntmps5
    go_wp2
    go_ret
    exact ⟨rfl, Below.refl _ _⟩
  have z0 : ¬ (1048576 : Int) < (n0 : Int) := by omega
  obtain ⟨b0, o0, l, hl, rd0⟩ := Rw.rd_of_isRow w0 (by omega)
  subst hl
  clear w0 big0
  go_enter Try.func5, Try.ntmps5
  go_wp2_with (go_at_call 20; refine (Dr.drawunion_any _ _ _ _ l _ rd0).mono ?_; rintro e w1 ⟨x, va, vn, vc, Q, y, ua, un, uc, P, rfl, orr, hQ, orp, hP, BW⟩; obtain ⟨fa, fg, fc, hv, rQ, hfb⟩ := orr.og.form (by omega); simp only [Value.slice.injEq] at hv; obtain ⟨rfl, rfl, rfl⟩ := hv; have hcQ := orr.og.cap.1; obtain ⟨fa2, fg2, fc2, hv, rP, hfb2⟩ := orp.og.form (by omega); simp only [Value.slice.injEq] at hv; obtain ⟨rfl, rfl, rfl⟩ := hv; have hcP := orp.og.cap.1; clear hfb hfb2 orr orp)
  obtain ⟨ar, X, c, hA, hX⟩ := Rl.MA_some Rp.stAll x (Rl.said Q) y (Rl.said P)
  obtain ⟨W2, hW2⟩ : ∃ W2, W2 = (w1.alloc (.cells #[.int .i64 x, .slice va Q.length vc] 31)).alloc (.cells #[.int .i64 y, .slice ua P.length uc] 31) := ⟨_, rfl⟩
  obtain ⟨pb, hpb⟩ : ∃ pb, pb = w1.heap.size := ⟨_, rfl⟩
  have kA : W2.heap[pb]? = some (.cells #[.int .i64 x, .slice va Q.length vc] 31 (0, 0)) := by subst hW2; rw [Pl.at_old (by simp [hpb]), Pl.at_new hpb]
  have kB : W2.heap[pb + 1]? = some (.cells #[.int .i64 y, .slice ua P.length uc] 31 (0, 0)) := by subst hW2; exact Pl.at_new (by simp [hpb])
  have hb : Below w1.heap.size w1 W2 := by subst hW2; exact Pl.below_alloc2 _ _ _
  replace rQ := rQ.below hb
  replace rP := rP.below hb
  replace BW := Rw.next BW hb
  clear hb
  rw [← hW2, ← hpb]
  clear hW2 hpb rd0 z0 hQ hP
  have hS := Rl.union_bridge hA
  obtain ⟨ap0, ap1⟩ := Pl.two kA
  have zA := Pl.blk_lt kA
  obtain ⟨bp0, bp1⟩ := Pl.two kB
  have zB := Pl.blk_lt kB
  go_upto_if 41 with (first
    | (go_at_call 21; clear ap0 ap1 zA bp0 bp1 zB; refine (Rl.unionM_any x y _ _ _ _ _ _ _ _ Q P _ rQ rP hcQ hcP ar X c hA).mono ?_; rintro e w3 ⟨ia, ig, ic, F, rfl, rF, hcF, sF, hb⟩; replace kA := (hb.block _ (Pl.blk_lt kA)).trans kA; replace kB := (hb.block _ (Pl.blk_lt kB)).trans kB; replace rQ := rQ.below hb; replace rP := rP.below hb; replace BW := Rw.next BW hb; clear hb; have HF : Hid (Rl.said F = X) := sF; clear sF; obtain ⟨ap0, ap1⟩ := Pl.two kA; have zA := Pl.blk_lt kA; obtain ⟨bp0, bp1⟩ := Pl.two kB; have zB := Pl.blk_lt kB; obtain ⟨W4, hW4⟩ : ∃ W4, W4 = w3.alloc (.cells #[.int .i64 ar, .slice ia F.length ic] 31) := ⟨_, rfl⟩; have kI : W4.heap[w3.heap.size]? = some (.cells #[.int .i64 ar, .slice ia F.length ic] 31 (0, 0)) := (by subst hW4; exact Pl.at_new rfl); have hb : Below w3.heap.size w3 W4 := (by subst hW4; exact Pl.below_alloc1 _ _); replace kA := (hb.block _ (Pl.blk_lt kA)).trans kA; replace kB := (hb.block _ (Pl.blk_lt kB)).trans kB; replace rQ := rQ.below hb; replace rP := rP.below hb; replace rF := rF.below hb; replace BW := Rw.next BW hb; clear hb)
    | (go_at_call 22; clear ap0 ap1 zA bp0 bp1 zB; rw [← hW4]; clear hW4; refine (Rl.unionS_any x y _ _ _ _ _ _ _ _ Q P _ rQ rP ar X (c == 0) hS).mono ?_; rintro e w5 ⟨sa, sb, so, sc, G, rfl, _, _, hb, _⟩; replace kA := (hb.block _ (Pl.blk_lt kA)).trans kA; replace kB := (hb.block _ (Pl.blk_lt kB)).trans kB; replace kI := (hb.block _ (Pl.blk_lt kI)).trans kI; replace rQ := rQ.below hb; replace rP := rP.below hb; replace rF := rF.below hb; replace BW := Rw.next BW hb; clear hb; obtain ⟨ap0, ap1⟩ := Pl.two kA; have zA := Pl.blk_lt kA; obtain ⟨bp0, bp1⟩ := Pl.two kB; have zB := Pl.blk_lt kB; obtain ⟨ip0, ip1⟩ := Pl.two kI; have zI := Pl.blk_lt kI; obtain ⟨W6, hW6⟩ : ∃ W6, W6 = w5.alloc (.cells #[.int .i64 ar, .slice sa G.length sc] 31) := ⟨_, rfl⟩; have hb : Below w5.heap.size w5 W6 := (by subst hW6; exact Pl.below_alloc1 _ _); replace kA := (hb.block _ (Pl.blk_lt kA)).trans kA; replace kB := (hb.block _ (Pl.blk_lt kB)).trans kB; replace kI := (hb.block _ (Pl.blk_lt kI)).trans kI; replace rQ := rQ.below hb; replace rP := rP.below hb; replace rF := rF.below hb; replace BW := Rw.next BW hb; clear hb))
  clear ap0 ap1 zA bp0 bp1 zB ip0 ip1 zI
  rw [← hW6]
  clear hW6
  rcases Rl.set_facts hA with ⟨hc, hX0⟩ | ⟨hc0, har, D, E, Z, m1, m2, m3, m4, m5, h1, h2, hlen⟩
  · have hF0 : F.length = 0 := by rw [← Rl.said_len, HF.out, hX0]; rfl
    have hcb : (c == 0) = false := by simpa using hc
    clear hX0 hA hS
    obtain ⟨ip0, ip1⟩ := Pl.two kI
    rw [hF0] at ip1
    rw [hcb]
    go_wp2
    go_ret
    exact ⟨rfl, BW⟩
  · subst hc0
    subst har
    clear hA hS
    have hcb : ((0 : Int) == 0) = true := rfl
    rw [hcb]
    clear hcb
    obtain ⟨ap0, ap1⟩ := Pl.two kA
    have zA := Pl.blk_lt kA
    obtain ⟨bp0, bp1⟩ := Pl.two kB
    have zB := Pl.blk_lt kB
    obtain ⟨ip0, ip1⟩ := Pl.two kI
    have zI := Pl.blk_lt kI
    have t5 : True := trivial
    go_upto_region 15 with (first
      | (go_at_call 23; clear t5; clear ap0 ap1 zA bp0 bp1 zB ip0 ip1 zI; refine (Rl.minusL_any ar y _ _ _ _ _ _ _ _ Q P _ rQ rP hcQ hcP _ (D) m1).mono ?_; rintro e v1 ⟨ga1, gg1, gc1, G1, rfl, rG1, hcG1, sG, hb⟩; replace kA := (hb.block _ (Pl.blk_lt kA)).trans kA; replace kB := (hb.block _ (Pl.blk_lt kB)).trans kB; replace kI := (hb.block _ (Pl.blk_lt kI)).trans kI; replace rQ := rQ.below hb; replace rP := rP.below hb; replace rF := rF.below hb; replace BW := Rw.next BW hb; clear hb; have HG1 : Hid (Rl.said G1 = D) := sG; clear sG; obtain ⟨ap0, ap1⟩ := Pl.two kA; have zA := Pl.blk_lt kA; obtain ⟨bp0, bp1⟩ := Pl.two kB; have zB := Pl.blk_lt kB; obtain ⟨ip0, ip1⟩ := Pl.two kI; have zI := Pl.blk_lt kI; obtain ⟨U1, hU1⟩ : ∃ U1, U1 = v1.alloc (.cells #[.int .i64 ar, .slice ga1 G1.length gc1] 31) := ⟨_, rfl⟩; have kX : U1.heap[v1.heap.size]? = some (.cells #[.int .i64 ar, .slice ga1 G1.length gc1] 31 (0, 0)) := (by subst hU1; exact Pl.at_new rfl); have hb : Below v1.heap.size v1 U1 := (by subst hU1; exact Pl.below_alloc1 _ _); replace kA := (hb.block _ (Pl.blk_lt kA)).trans kA; replace kB := (hb.block _ (Pl.blk_lt kB)).trans kB; replace kI := (hb.block _ (Pl.blk_lt kI)).trans kI; replace rQ := rQ.below hb; replace rP := rP.below hb; replace rF := rF.below hb; replace rG1 := rG1.below hb; replace BW := Rw.next BW hb; clear hb; have t6 : True := trivial)
      | (go_at_call 23; clear t6; clear ap0 ap1 zA bp0 bp1 zB ip0 ip1 zI; rw [← hU1]; clear hU1; refine (Rl.minusL_any y ar _ _ _ _ _ _ _ _ P Q _ rP rQ hcP hcQ _ (E) m2).mono ?_; rintro e v2 ⟨ga2, gg2, gc2, G2, rfl, rG2, hcG2, sG, hb⟩; replace kA := (hb.block _ (Pl.blk_lt kA)).trans kA; replace kB := (hb.block _ (Pl.blk_lt kB)).trans kB; replace kI := (hb.block _ (Pl.blk_lt kI)).trans kI; replace kX := (hb.block _ (Pl.blk_lt kX)).trans kX; replace rQ := rQ.below hb; replace rP := rP.below hb; replace rF := rF.below hb; replace rG1 := rG1.below hb; replace BW := Rw.next BW hb; clear hb; have HG2 : Hid (Rl.said G2 = E) := sG; clear sG; obtain ⟨ap0, ap1⟩ := Pl.two kA; have zA := Pl.blk_lt kA; obtain ⟨bp0, bp1⟩ := Pl.two kB; have zB := Pl.blk_lt kB; obtain ⟨ip0, ip1⟩ := Pl.two kI; have zI := Pl.blk_lt kI; obtain ⟨xp0, xp1⟩ := Pl.two kX; have zX := Pl.blk_lt kX; obtain ⟨U2, hU2⟩ : ∃ U2, U2 = v2.alloc (.cells #[.int .i64 y, .slice ga2 G2.length gc2] 31) := ⟨_, rfl⟩; have kY : U2.heap[v2.heap.size]? = some (.cells #[.int .i64 y, .slice ga2 G2.length gc2] 31 (0, 0)) := (by subst hU2; exact Pl.at_new rfl); have hb : Below v2.heap.size v2 U2 := (by subst hU2; exact Pl.below_alloc1 _ _); replace kA := (hb.block _ (Pl.blk_lt kA)).trans kA; replace kB := (hb.block _ (Pl.blk_lt kB)).trans kB; replace kI := (hb.block _ (Pl.blk_lt kI)).trans kI; replace kX := (hb.block _ (Pl.blk_lt kX)).trans kX; replace rQ := rQ.below hb; replace rP := rP.below hb; replace rF := rF.below hb; replace rG1 := rG1.below hb; replace rG2 := rG2.below hb; replace BW := Rw.next BW hb; clear hb; have t7 : True := trivial)
      | (go_at_call 24; clear t7; clear ap0 ap1 zA bp0 bp1 zB ip0 ip1 zI xp0 xp1 zX; rw [← hU2]; clear hU2; refine (Rl.bothL_any ar y _ _ _ _ _ _ _ _ Q P _ rQ rP hcQ hcP _ (Z) m3).mono ?_; rintro e v3 ⟨ga3, gg3, gc3, G3, rfl, rG3, hcG3, sG, hb⟩; replace kA := (hb.block _ (Pl.blk_lt kA)).trans kA; replace kB := (hb.block _ (Pl.blk_lt kB)).trans kB; replace kI := (hb.block _ (Pl.blk_lt kI)).trans kI; replace kX := (hb.block _ (Pl.blk_lt kX)).trans kX; replace kY := (hb.block _ (Pl.blk_lt kY)).trans kY; replace rQ := rQ.below hb; replace rP := rP.below hb; replace rF := rF.below hb; replace rG1 := rG1.below hb; replace rG2 := rG2.below hb; replace BW := Rw.next BW hb; clear hb; have HG3 : Hid (Rl.said G3 = Z) := sG; clear sG; obtain ⟨ap0, ap1⟩ := Pl.two kA; have zA := Pl.blk_lt kA; obtain ⟨bp0, bp1⟩ := Pl.two kB; have zB := Pl.blk_lt kB; obtain ⟨ip0, ip1⟩ := Pl.two kI; have zI := Pl.blk_lt kI; obtain ⟨xp0, xp1⟩ := Pl.two kX; have zX := Pl.blk_lt kX; obtain ⟨yp0, yp1⟩ := Pl.two kY; have zY := Pl.blk_lt kY; obtain ⟨U3, hU3⟩ : ∃ U3, U3 = v3.alloc (.cells #[.int .i64 ar, .slice ga3 G3.length gc3] 31) := ⟨_, rfl⟩; have kZ : U3.heap[v3.heap.size]? = some (.cells #[.int .i64 ar, .slice ga3 G3.length gc3] 31 (0, 0)) := (by subst hU3; exact Pl.at_new rfl); have hb : Below v3.heap.size v3 U3 := (by subst hU3; exact Pl.below_alloc1 _ _); replace kA := (hb.block _ (Pl.blk_lt kA)).trans kA; replace kB := (hb.block _ (Pl.blk_lt kB)).trans kB; replace kI := (hb.block _ (Pl.blk_lt kI)).trans kI; replace kX := (hb.block _ (Pl.blk_lt kX)).trans kX; replace kY := (hb.block _ (Pl.blk_lt kY)).trans kY; replace rQ := rQ.below hb; replace rP := rP.below hb; replace rF := rF.below hb; replace rG1 := rG1.below hb; replace rG2 := rG2.below hb; replace rG3 := rG3.below hb; replace BW := Rw.next BW hb; clear hb; have t8 : True := trivial)
      | (go_at_call 21; clear t8; clear ap0 ap1 zA bp0 bp1 zB ip0 ip1 zI xp0 xp1 zX yp0 yp1 zY; rw [← hU3]; clear hU3; refine (Rl.unionL_any ar ar _ _ _ _ _ _ _ _ G1 G3 _ rG1 rG3 hcG1 hcG3 _ (Rl.said Q) (by rw [HG1.out, HG3.out]; exact m4)).mono ?_; rintro e v4 ⟨ga4, gg4, gc4, G4, rfl, rG4, hcG4, sG, hb⟩; replace kA := (hb.block _ (Pl.blk_lt kA)).trans kA; replace kB := (hb.block _ (Pl.blk_lt kB)).trans kB; replace kI := (hb.block _ (Pl.blk_lt kI)).trans kI; replace kX := (hb.block _ (Pl.blk_lt kX)).trans kX; replace kY := (hb.block _ (Pl.blk_lt kY)).trans kY; replace kZ := (hb.block _ (Pl.blk_lt kZ)).trans kZ; replace rQ := rQ.below hb; replace rP := rP.below hb; replace rF := rF.below hb; replace rG1 := rG1.below hb; replace rG2 := rG2.below hb; replace rG3 := rG3.below hb; replace BW := Rw.next BW hb; clear hb; have HG4 : Hid (Rl.said G4 = Rl.said Q) := sG; clear sG; obtain ⟨ap0, ap1⟩ := Pl.two kA; have zA := Pl.blk_lt kA; obtain ⟨bp0, bp1⟩ := Pl.two kB; have zB := Pl.blk_lt kB; obtain ⟨ip0, ip1⟩ := Pl.two kI; have zI := Pl.blk_lt kI; obtain ⟨xp0, xp1⟩ := Pl.two kX; have zX := Pl.blk_lt kX; obtain ⟨yp0, yp1⟩ := Pl.two kY; have zY := Pl.blk_lt kY; obtain ⟨zp0, zp1⟩ := Pl.two kZ; have zZ := Pl.blk_lt kZ; obtain ⟨U4, hU4⟩ : ∃ U4, U4 = v4.alloc (.cells #[.int .i64 ar, .slice ga4 G4.length gc4] 31) := ⟨_, rfl⟩; have kO : U4.heap[v4.heap.size]? = some (.cells #[.int .i64 ar, .slice ga4 G4.length gc4] 31 (0, 0)) := (by subst hU4; exact Pl.at_new rfl); have hb : Below v4.heap.size v4 U4 := (by subst hU4; exact Pl.below_alloc1 _ _); replace kA := (hb.block _ (Pl.blk_lt kA)).trans kA; replace kB := (hb.block _ (Pl.blk_lt kB)).trans kB; replace kI := (hb.block _ (Pl.blk_lt kI)).trans kI; replace kX := (hb.block _ (Pl.blk_lt kX)).trans kX; replace kY := (hb.block _ (Pl.blk_lt kY)).trans kY; replace kZ := (hb.block _ (Pl.blk_lt kZ)).trans kZ; replace rQ := rQ.below hb; replace rP := rP.below hb; replace rF := rF.below hb; replace rG1 := rG1.below hb; replace rG2 := rG2.below hb; replace rG3 := rG3.below hb; replace rG4 := rG4.below hb; replace BW := Rw.next BW hb; clear hb; have t9 : True := trivial)
      | (go_at_call 21; clear t9; clear ap0 ap1 zA bp0 bp1 zB ip0 ip1 zI xp0 xp1 zX yp0 yp1 zY zp0 zp1 zZ; rw [← hU4]; clear hU4; refine (Rl.unionL_any ar y _ _ _ _ _ _ _ _ G4 G2 _ rG4 rG2 hcG4 hcG2 _ (X) (by rw [HG4.out, HG2.out]; exact m5)).mono ?_; rintro e v5 ⟨ga5, gg5, gc5, G5, rfl, rG5, hcG5, sG, hb⟩; replace kA := (hb.block _ (Pl.blk_lt kA)).trans kA; replace kB := (hb.block _ (Pl.blk_lt kB)).trans kB; replace kI := (hb.block _ (Pl.blk_lt kI)).trans kI; replace kX := (hb.block _ (Pl.blk_lt kX)).trans kX; replace kY := (hb.block _ (Pl.blk_lt kY)).trans kY; replace kZ := (hb.block _ (Pl.blk_lt kZ)).trans kZ; replace kO := (hb.block _ (Pl.blk_lt kO)).trans kO; replace rQ := rQ.below hb; replace rP := rP.below hb; replace rF := rF.below hb; replace rG1 := rG1.below hb; replace rG2 := rG2.below hb; replace rG3 := rG3.below hb; replace rG4 := rG4.below hb; replace BW := Rw.next BW hb; clear hb; have HG5 : Hid (Rl.said G5 = X) := sG; clear sG; obtain ⟨ap0, ap1⟩ := Pl.two kA; have zA := Pl.blk_lt kA; obtain ⟨bp0, bp1⟩ := Pl.two kB; have zB := Pl.blk_lt kB; obtain ⟨ip0, ip1⟩ := Pl.two kI; have zI := Pl.blk_lt kI; obtain ⟨xp0, xp1⟩ := Pl.two kX; have zX := Pl.blk_lt kX; obtain ⟨yp0, yp1⟩ := Pl.two kY; have zY := Pl.blk_lt kY; obtain ⟨zp0, zp1⟩ := Pl.two kZ; have zZ := Pl.blk_lt kZ; obtain ⟨op0, op1⟩ := Pl.two kO; have zO := Pl.blk_lt kO; obtain ⟨U5, hU5⟩ : ∃ U5, U5 = v5.alloc (.cells #[.int .i64 ar, .slice ga5 G5.length gc5] 31) := ⟨_, rfl⟩; have kV : U5.heap[v5.heap.size]? = some (.cells #[.int .i64 ar, .slice ga5 G5.length gc5] 31 (0, 0)) := (by subst hU5; exact Pl.at_new rfl); have hb : Below v5.heap.size v5 U5 := (by subst hU5; exact Pl.below_alloc1 _ _); replace kA := (hb.block _ (Pl.blk_lt kA)).trans kA; replace kB := (hb.block _ (Pl.blk_lt kB)).trans kB; replace kI := (hb.block _ (Pl.blk_lt kI)).trans kI; replace kX := (hb.block _ (Pl.blk_lt kX)).trans kX; replace kY := (hb.block _ (Pl.blk_lt kY)).trans kY; replace kZ := (hb.block _ (Pl.blk_lt kZ)).trans kZ; replace kO := (hb.block _ (Pl.blk_lt kO)).trans kO; replace rQ := rQ.below hb; replace rP := rP.below hb; replace rF := rF.below hb; replace rG1 := rG1.below hb; replace rG2 := rG2.below hb; replace rG3 := rG3.below hb; replace rG4 := rG4.below hb; replace rG5 := rG5.below hb; replace BW := Rw.next BW hb; clear hb; have t10 : True := trivial))
    clear ap0 ap1 zA bp0 bp1 zB ip0 ip1 zI xp0 xp1 zX yp0 yp1 zY zp0 zp1 zZ op0 op1 zO
    rw [← hU5]
    clear hU5 t10 m1 m2 m3 m4 m5
    have hl1 : G1.length = D.length := by rw [← Rl.said_len, HG1.out]
    have hl2 : G2.length = E.length := by rw [← Rl.said_len, HG2.out]
    have hl3 : G3.length = Z.length := by rw [← Rl.said_len, HG3.out]
    have hl4 : F.length = X.length := by rw [← Rl.said_len, HF.out]
    have hs : (G1.length : Int) + (G2.length : Int) + (G3.length : Int) = (F.length : Int) := by omega
    have HB : Hid (F.length ≤ 300) := (by omega : F.length ≤ 300)
    clear hl1 hl2 hl3 hl4 hlen hX
    obtain ⟨ap0, ap1⟩ := Pl.two kA
    have zA := Pl.blk_lt kA
    obtain ⟨bp0, bp1⟩ := Pl.two kB
    have zB := Pl.blk_lt kB
    obtain ⟨ip0, ip1⟩ := Pl.two kI
    have zI := Pl.blk_lt kI
    obtain ⟨xp0, xp1⟩ := Pl.two kX
    have zX := Pl.blk_lt kX
    obtain ⟨yp0, yp1⟩ := Pl.two kY
    have zY := Pl.blk_lt kY
    obtain ⟨zp0, zp1⟩ := Pl.two kZ
    have zZ := Pl.blk_lt kZ
    obtain ⟨op0, op1⟩ := Pl.two kO
    have zO := Pl.blk_lt kO
    obtain ⟨vp0, vp1⟩ := Pl.two kV
    have zV := Pl.blk_lt kV
    have t11 : True := trivial
    go_wp2_with (first
      | (go_at_call 25; clear t11; refine (Rl.sameS_any _ _ _ _ _ _ _ _ _ _ G4 Q _ rG4 rQ).mono ?_; rw [HG4.out, h1]; rintro e w13 ⟨rfl, hb⟩; clear ap0 ap1 zA bp0 bp1 zB ip0 ip1 zI xp0 xp1 zX yp0 yp1 zY zp0 zp1 zZ op0 op1 zO vp0 vp1 zV; replace kA := (hb.block _ (Pl.blk_lt kA)).trans kA; replace kB := (hb.block _ (Pl.blk_lt kB)).trans kB; replace kI := (hb.block _ (Pl.blk_lt kI)).trans kI; replace kX := (hb.block _ (Pl.blk_lt kX)).trans kX; replace kY := (hb.block _ (Pl.blk_lt kY)).trans kY; replace kZ := (hb.block _ (Pl.blk_lt kZ)).trans kZ; replace kO := (hb.block _ (Pl.blk_lt kO)).trans kO; replace kV := (hb.block _ (Pl.blk_lt kV)).trans kV; replace rQ := rQ.below hb; replace rP := rP.below hb; replace rF := rF.below hb; replace rG1 := rG1.below hb; replace rG2 := rG2.below hb; replace rG3 := rG3.below hb; replace rG4 := rG4.below hb; replace rG5 := rG5.below hb; replace BW := Rw.next BW hb; clear hb; obtain ⟨ap0, ap1⟩ := Pl.two kA; have zA := Pl.blk_lt kA; obtain ⟨bp0, bp1⟩ := Pl.two kB; have zB := Pl.blk_lt kB; obtain ⟨ip0, ip1⟩ := Pl.two kI; have zI := Pl.blk_lt kI; obtain ⟨xp0, xp1⟩ := Pl.two kX; have zX := Pl.blk_lt kX; obtain ⟨yp0, yp1⟩ := Pl.two kY; have zY := Pl.blk_lt kY; obtain ⟨zp0, zp1⟩ := Pl.two kZ; have zZ := Pl.blk_lt kZ; obtain ⟨op0, op1⟩ := Pl.two kO; have zO := Pl.blk_lt kO; obtain ⟨vp0, vp1⟩ := Pl.two kV; have zV := Pl.blk_lt kV; have t12 : True := trivial)
      | (go_at_call 25; clear t12; refine (Rl.sameS_any _ _ _ _ _ _ _ _ _ _ G5 F _ rG5 rF).mono ?_; rw [HG5.out, HF.out, h2]; rintro e w14 ⟨rfl, hb⟩; clear ap0 ap1 zA bp0 bp1 zB ip0 ip1 zI xp0 xp1 zX yp0 yp1 zY zp0 zp1 zZ op0 op1 zO vp0 vp1 zV; replace kA := (hb.block _ (Pl.blk_lt kA)).trans kA; replace kB := (hb.block _ (Pl.blk_lt kB)).trans kB; replace kI := (hb.block _ (Pl.blk_lt kI)).trans kI; replace kX := (hb.block _ (Pl.blk_lt kX)).trans kX; replace kY := (hb.block _ (Pl.blk_lt kY)).trans kY; replace kZ := (hb.block _ (Pl.blk_lt kZ)).trans kZ; replace kO := (hb.block _ (Pl.blk_lt kO)).trans kO; replace kV := (hb.block _ (Pl.blk_lt kV)).trans kV; replace rQ := rQ.below hb; replace rP := rP.below hb; replace rF := rF.below hb; replace rG1 := rG1.below hb; replace rG2 := rG2.below hb; replace rG3 := rG3.below hb; replace rG4 := rG4.below hb; replace rG5 := rG5.below hb; replace BW := Rw.next BW hb; clear hb; obtain ⟨ap0, ap1⟩ := Pl.two kA; have zA := Pl.blk_lt kA; obtain ⟨bp0, bp1⟩ := Pl.two kB; have zB := Pl.blk_lt kB; obtain ⟨ip0, ip1⟩ := Pl.two kI; have zI := Pl.blk_lt kI; obtain ⟨xp0, xp1⟩ := Pl.two kX; have zX := Pl.blk_lt kX; obtain ⟨yp0, yp1⟩ := Pl.two kY; have zY := Pl.blk_lt kY; obtain ⟨zp0, zp1⟩ := Pl.two kZ; have zZ := Pl.blk_lt kZ; obtain ⟨op0, op1⟩ := Pl.two kO; have zO := Pl.blk_lt kO; obtain ⟨vp0, vp1⟩ := Pl.two kV; have zV := Pl.blk_lt kV))
    go_ret
    have e9 := Rl.wrap3 hs HB.out
    exact ⟨by simp [e9], BW⟩

set_option maxRecDepth 100000 in
theorem lifted (os : Os) (started : os.Started) (H : Type) (enc : TypeId × Value → H) :
    ReturnsInHanded {} Try.checked os 5 .any (Rows.fnSetsSpec.pre6 enc Try.prog Try.f5 Rows.fnSetsRow.domain false) (Rows.fnSetsSpec.post enc Try.prog Try.f5 false true false false) := by
  refine returnsInHanded_of_change (C := Try.checked) own started (by kernel_rfl) Try.func5
    (ChangeSpec.witness6 (enc := enc) (C := Try.checked) false ⟨#[], #[.slice none 0 0], []⟩ 8 (by kernel_rfl) (by kernel_rfl) (by kernel_rfl) (by kernel_rfl)) ?_
  intro W base args ds gs before hval0 hW hcnd _
  have hval : ∀ (j : Nat) t v, Try.f5.params[j]? = some t → args[j]? = some v → Value.okWide Try.prog W .any base t v := hval0
  have hW' := hW
  obtain ⟨p, q, hA0, hV, rfl, hfz, hnd⟩ := hW
  have hA : DataW.TrodAll enc Try.prog W 0 (fun _ => true) true Try.f5.params.toList args.toList ds p := hA0
  rw [Try.params5] at hA hval
  obtain ⟨v0, vs0, d0, ds0, p0, q0, hargs, rfl, rfl, h0, r0⟩ := trodAll_cons hA
  obtain ⟨rfl, rfl, rfl⟩ := trodAll_nil r0
  obtain rfl : args = #[v0] := by cases args; simp_all
  obtain ⟨rfl, rfl⟩ := trodVars_none hV
  have k0 := h0
  have lt0 : ∀ x ∈ p0, x.block < W.heap.size := by obtain ⟨m, hm⟩ := k0; exact DataW.trod_lt m _ _ _ hm
  obtain ⟨a0, n0, c0, rfl⟩ := okWide_slice Try.underlying46 (hval 0 46 v0 rfl rfl)
  obtain ⟨z0, w0⟩ : ∃ zs, Rw.IsRow .u8 W a0 n0 c0 zs := by
    obtain ⟨fuel, hf⟩ := h0
    rcases open_ints Try.underlying46 Try.underlying5 (by kernel_rfl) hf with ⟨hcs, _⟩ | ⟨x, l, c, zs, hcs, _, hl, hm, hz, _, hcell, hwz⟩
    · simp [Value.cells] at hcs
      obtain ⟨rfl, rfl, rfl⟩ := hcs
      exact ⟨[], .inl ⟨rfl, rfl, rfl, rfl⟩⟩
    · simp [Value.cells] at hcs
      obtain ⟨rfl, rfl, rfl⟩ := hcs
      exact ⟨zs, .inr ⟨_, rfl, hl, hm, by simpa using hz, hcell, hwz⟩⟩
  clear hA0 hval0
  refine (walk a0 n0 c0 z0 W w0).mono fun e W' ⟨he, bel⟩ => ?_
  subst he
  exact ⟨_, rfl, _, _, _, [], _, [], hW', trodAll_mk1 (shut_bool Try.underlying4 _), (trodAll_cons_mk (Below.trod laidOut (by kernel_rfl) (of_decide_eq_true (by kernel_rfl)) k0 bel lt0) trodAll_mk0), rfl, bel.frame _, fun h => by cases h⟩

theorem over : Rows.fnSetsRow.holds Try.pinned (OpenSpec.ofChange Rows.fnSetsSpec) :=
  OpenClaim.holds_of_wide 5 Try.f5 rfl rfl rfl rfl rfl rfl rfl ⟨rfl, rfl, rfl, rfl, rfl⟩ rfl rfl rfl rfl rfl (by kernel_rfl) Try.func5 (by kernel_rfl)
    (of_decide_eq_true (by kernel_rfl)) (by unfold Func.isWrapper; first | (rw [if_pos (by decide +kernel)]; kernel_rfl) | (rw [if_neg (by decide +kernel)]; exact ⟨rfl, rfl⟩))
    (fun os started H enc _ => lifted os started H enc)

theorem proved : Rows.FnSetsSaid := over
end Go.Proofs.Ytfiebakgphcnbaa.fnSets

namespace Go.Proofs.Ytfiebakgphcnbaa
theorem FnSets_holds : Rows.FnSetsSaid := fnSets.proved
end Go.Proofs.Ytfiebakgphcnbaa
