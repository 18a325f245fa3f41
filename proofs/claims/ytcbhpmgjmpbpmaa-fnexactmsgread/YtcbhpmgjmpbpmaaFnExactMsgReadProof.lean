/- At every slice of bytes the program and the specification read the same message with the same code; the argument reads as before, the answer owns its memory; no condition. -/
import Derived.Test.YtcbhpmgjmpbpmaaRows
import Derived.Test.YtcbhpmgjmpbpmaaPkb
import Derived.WalkKit
import Derived.ProofKit
import Derived.OpenShut
import Derived.ShutString
import Derived.ChangeOld
import Derived.Below
import Derived.Deep.RegionWith
import Derived.Deep.RegionHeld3
namespace Go.Proofs.Ytcbhpmgjmpbpmaa.fnExactMsgRead
open Go.ChangeShapes Go.WideShapes Go.ChangeAt Go.RowKit
set_option linter.unusedVariables false
set_option linter.unusedSimpArgs false

theorem own : ownKnob Try.prog.godebug = none := by kernel_rfl
theorem laidOut : laidOutB Try.prog = true := by kernel_rfl

set_option maxRecDepth 8000 in
set_option maxHeartbeats 16000000 in
theorem walk (a0 : Option Addr) (n0 c0 : Nat) (z0 : List Int) (w : World) (w0 : Rw.IsRow .u8 w a0 n0 c0 z0) :
    Calls Try.prog 7 #[.slice a0 n0 c0] w fun e w' => e = .returned (.bool true) ∧ Below w.heap.size w w' := by
  by_cases big0 : 1048576 < n0
  · have z0 : (1048576 : Int) < (n0 : Int) := by omega
    go_enter Try.func7, Try.ntmps7
    go_wp2
    go_ret
    exact ⟨rfl, Below.refl _ _⟩
  have z0 : ¬ (1048576 : Int) < (n0 : Int) := by omega
  obtain ⟨b, off, l, hl, rd0⟩ := Rw.rd_of_isRow w0 (by omega)
  subst hl
  clear w0 big0
  have RD : Hid (Rw.Rd w a0 b off l) := rd0
  have hT := Rw.toByteS_any
  have hS := fun a b off c W h => Wj.sread_any a b off c l W h
  have hI := fun a b off c W h h' => Wa.read_any a b off c l W h h'
  generalize (Wa.readL l).1 = X at hS hI
  generalize (Wa.readL l).2 = C at hS hI
  have lL := rd0.size
  have hQ := Ga.eqMsg_same
  simp only [Ga.msg_vals] at hQ
  go_enter Try.func7, Try.ntmps7
  have t1 : True := trivial
  go_upto_region 4 with (first
    | (go_at_call 30; clear t1; refine (hT _ _ _ _ l _ rd0).mono ?_; rintro e wA ⟨rfl, hb, mA⟩; have B0 := hb; have hpos := mA.row.lt; clear hb)
    | (go_at_call 29; refine (hS _ _ _ _ _ mA.rd).mono ?_; rintro e ws ⟨f0, rfl, sf0, ok0, -, -, -, hb⟩; replace B0 := Rw.next B0 hb; have hp2 : 0 < ws.heap.size := (by have := hb.size; omega); clear hb mA hpos rd0; obtain ⟨f, vf, sf, okf, uf⟩ := Wj.low_msg ok0 hp2; rw [← vf]; simp only [Ga.msg_vals]; replace sf := sf.trans sf0; clear ok0 sf0 vf f0))
  obtain ⟨W3, hW3⟩ : ∃ W3, W3 = ws.alloc (.cells #[.int .i64 f.kd, .int .i64 f.se, .int .i64 f.xi, .int .i64 f.e.ep, .int .i64 f.e.pr, .slice f.e.aV f.e.V.length f.e.cV, .slice f.e.aM f.e.M.length f.e.cM, .slice f.e.aA f.e.A.length f.e.cA, .bool f.hd, .slice f.aH f.H.length f.cH] 30) := ⟨_, rfl⟩
  have k3 : W3.heap[ws.heap.size]? = some (.cells #[.int .i64 f.kd, .int .i64 f.se, .int .i64 f.xi, .int .i64 f.e.ep, .int .i64 f.e.pr, .slice f.e.aV f.e.V.length f.e.cV, .slice f.e.aM f.e.M.length f.e.cM, .slice f.e.aA f.e.A.length f.e.cA, .bool f.hd, .slice f.aH f.H.length f.cH] 30 (0, 0)) := by subst hW3; exact Pl.at_new rfl
  have b3 : Below ws.heap.size ws W3 := by subst hW3; exact Pl.below_alloc1 _ _
  replace okf := okf.below b3
  replace B0 := Rw.next B0 b3
  have RX := RD.out.below B0
  have SG : Hid (w.heap.size ≤ W3.heap.size) := B0.size
  obtain ⟨P3, hP3⟩ : ∃ P3, P3 = ws.heap.size := ⟨_, rfl⟩
  rw [← hP3] at k3 uf ⊢
  clear hP3 b3
  have lt3 := Ea.blk_lt k3
  have t2 : True := trivial
  have t3 : True := trivial
  rw [← hW3]
  clear hW3
  go_upto_region 6 with (first
    | (go_at_call 30; clear t2; refine (hT _ _ _ _ l _ RX).mono ?_; rintro e wX ⟨rfl, hb, mX⟩; replace k3 := (hb.block _ lt3).trans k3; replace okf := okf.below hb; replace B0 := Rw.next B0 hb; clear hb RX; have lgx := mX.row.lt; have SW : Hid (w.heap.size ≤ wX.heap.size) := B0.size)
    | (go_at_call 16; clear t3; refine (hI _ _ _ _ _ mX.rd (.inr lgx)).mono ?_; rintro e wg ⟨g0, rfl, sg0, okg0, wtg0, apg0, ug0, hb⟩; replace k3 := (hb.block _ (Ea.blk_lt k3)).trans k3; replace okf := okf.below hb; replace mX := mX.below hb; replace B0 := Rw.next B0 hb; have szg := hb.size; clear hb; obtain ⟨g, vg, sg, okg, wtg, apg, ug⟩ := Wj.high_msg okg0 wtg0 apg0; rw [← vg]; simp only [Ga.msg_vals]; replace sg := sg.trans sg0; have UG : Hid (∀ y, Jm.Use4 g y → (wX.heap.size ≤ y ∧ y < wg.heap.size) ∨ wg.heap.size < y) := (fun y hy => (ug y hy).imp (fun q => ⟨ug0 y q.1, q.2⟩) id); clear ug ug0 okg0 wtg0 apg0 sg0 vg g0))
  obtain ⟨W6, hW6⟩ : ∃ W6, W6 = wg.alloc (.cells #[.int .i64 g.kd, .int .i64 g.se, .int .i64 g.xi, .int .i64 g.e.ep, .int .i64 g.e.pr, .slice g.e.aV g.e.V.length g.e.cV, .slice g.e.aM g.e.M.length g.e.cM, .slice g.e.aA g.e.A.length g.e.cA, .bool g.hd, .slice g.aH g.H.length g.cH] 30) := ⟨_, rfl⟩
  have k6 : W6.heap[wg.heap.size]? = some (.cells #[.int .i64 g.kd, .int .i64 g.se, .int .i64 g.xi, .int .i64 g.e.ep, .int .i64 g.e.pr, .slice g.e.aV g.e.V.length g.e.cV, .slice g.e.aM g.e.M.length g.e.cM, .slice g.e.aA g.e.A.length g.e.cA, .bool g.hd, .slice g.aH g.H.length g.cH] 30 (0, 0)) := by subst hW6; exact Pl.at_new rfl
  have b6 : Below wg.heap.size wg W6 := by subst hW6; exact Pl.below_alloc1 _ _
  replace okf := okf.below b6
  replace okg := okg.below b6
  replace wtg := wtg.below b6
  replace mX := mX.below b6
  replace k3 := (b6.block _ (Ea.blk_lt k3)).trans k3
  rw [← hW6]
  clear hW6
  replace B0 := Rw.next B0 b6
  obtain ⟨P6, hP6⟩ : ∃ P6, P6 = wg.heap.size := ⟨_, rfl⟩
  obtain ⟨GX, hGX⟩ : ∃ GX, GX = W3.heap.size := ⟨_, rfl⟩
  have ord : P3 < GX ∧ GX < wX.heap.size ∧ wX.heap.size ≤ P6 := by omega
  rw [← hP6] at k6 UG ⊢
  rw [← hGX] at mX ⊢
  have UF : Hid (∀ y, Jm.Use4 f y → y < P3) := uf
  have SX : Hid (P3 < GX ∧ GX < wX.heap.size ∧ wX.heap.size ≤ P6 ∧ w.heap.size ≤ wX.heap.size ∧ w.heap.size ≤ GX) := ⟨ord.1, ord.2.1, ord.2.2, SW.out, by rw [hGX]; exact SG.out⟩
  clear SW SG
  clear hP6 hGX ord uf b6 szg lgx lt3
  obtain ⟨p0, p1, p2, p3, p4, p5, p6, p7, p8, p9⟩ := Ga.ten k3
  obtain ⟨q0, q1, q2, q3, q4, q5, q6, q7, q8, q9⟩ := Ga.ten k6
  have lens : g.e.V.length ≤ 4194304 ∧ g.e.M.length ≤ 4194304 ∧ g.e.A.length ≤ 4194304 ∧ g.H.length ≤ 4194304 := ⟨okg.e.rV.size, okg.e.rM.size, okg.e.rA.size, okg.rH.size⟩
  have top0 : ¬ (Jm.top g < 0) := by unfold Jm.top; omega
  have eqs : g.said = f.said := sg.trans sf.symm
  have t4 : True := trivial
  have t5 : True := trivial
  have t6 : True := trivial
  go_wp2_with (first
    | (go_at_call 24; clear t4; refine (hQ g f _ okg okf eqs).mono ?_; rintro x wh ⟨rfl, hb⟩; replace mX := mX.below hb; replace k3 := (hb.block _ (Ea.blk_lt k3)).trans k3; replace k6 := (hb.block _ (Ea.blk_lt k6)).trans k6; replace okf := okf.below hb; replace okg := okg.below hb; replace wtg := wtg.below hb; replace B0 := Rw.next B0 hb; clear p0 p1 p2 p3 p4 p5 p6 p7 p8 p9 q0 q1 q2 q3 q4 q5 q6 q7 q8 q9; obtain ⟨p0, p1, p2, p3, p4, p5, p6, p7, p8, p9⟩ := Ga.ten k3; obtain ⟨q0, q1, q2, q3, q4, q5, q6, q7, q8, q9⟩ := Ga.ten k6; clear hb; have t7 : True := trivial)
    | (go_at_call 30; clear t5; refine (hT _ _ _ _ l _ (RD.out.below B0)).mono ?_; rintro x wi ⟨rfl, hb, mY⟩; replace mX := mX.below hb; replace k3 := (hb.block _ (Ea.blk_lt k3)).trans k3; replace k6 := (hb.block _ (Ea.blk_lt k6)).trans k6; replace okf := okf.below hb; replace okg := okg.below hb; replace wtg := wtg.below hb; replace B0 := Rw.next B0 hb; clear p0 p1 p2 p3 p4 p5 p6 p7 p8 p9 q0 q1 q2 q3 q4 q5 q6 q7 q8 q9; obtain ⟨p0, p1, p2, p3, p4, p5, p6, p7, p8, p9⟩ := Ga.ten k3; obtain ⟨q0, q1, q2, q3, q4, q5, q6, q7, q8, q9⟩ := Ga.ten k6; clear hb)
    | (go_at_call 25; refine (Gq.eqL l _ _ _ _ _ _ _ _ _ mX.rd mY.rd).mono ?_; rintro x wj ⟨rfl, hb⟩; clear mY; replace mX := mX.below hb; replace k3 := (hb.block _ (Ea.blk_lt k3)).trans k3; replace k6 := (hb.block _ (Ea.blk_lt k6)).trans k6; replace okf := okf.below hb; replace okg := okg.below hb; replace wtg := wtg.below hb; replace B0 := Rw.next B0 hb; clear p0 p1 p2 p3 p4 p5 p6 p7 p8 p9 q0 q1 q2 q3 q4 q5 q6 q7 q8 q9; obtain ⟨p0, p1, p2, p3, p4, p5, p6, p7, p8, p9⟩ := Ga.ten k3; obtain ⟨q0, q1, q2, q3, q4, q5, q6, q7, q8, q9⟩ := Ga.ten k6; clear hb; have mk1 := Gd.markB_any 1 (by omega) (by omega) _ _ l.length l _ (Mk.mine_wt mX))
    | (go_at_call 27; refine mk1.mono ?_; rintro x wk ⟨rfl, hk, -⟩; have SXo := SX.out; have on := hk.only; replace k3 := (on.block _ (Ea.blk_lt k3) (by simp; omega)).trans k3; replace k6 := (on.block _ (Ea.blk_lt k6) (by simp; omega)).trans k6; replace okf := Wj.ok_keepM okf (fun y hy hl => on.block y hl (by have := UF.out y hy; simp; omega)); replace okg := Wj.ok_keepM okg (fun y hy hl => on.block y hl (by have := UG.out y hy; simp; omega)); replace wtg := wtg.keep (fun y hy hl => on.block y hl (by have := UG.out y hy; simp; omega)); replace B0 := on.below B0 B0.size (by omega); clear hk on mk1 mX SXo p0 p1 p2 p3 p4 p5 p6 p7 p8 p9 q0 q1 q2 q3 q4 q5 q6 q7 q8 q9; obtain ⟨p0, p1, p2, p3, p4, p5, p6, p7, p8, p9⟩ := Ga.ten k3; obtain ⟨q0, q1, q2, q3, q4, q5, q6, q7, q8, q9⟩ := Ga.ten k6; have t8 : True := trivial)
    | (go_at_call 24; clear t8; refine (hQ g f _ okg okf eqs).mono ?_; rintro x wl ⟨rfl, hb⟩; replace k3 := (hb.block _ (Ea.blk_lt k3)).trans k3; replace k6 := (hb.block _ (Ea.blk_lt k6)).trans k6; replace okf := okf.below hb; replace okg := okg.below hb; replace wtg := wtg.below hb; replace B0 := Rw.next B0 hb; clear p0 p1 p2 p3 p4 p5 p6 p7 p8 p9 q0 q1 q2 q3 q4 q5 q6 q7 q8 q9; obtain ⟨p0, p1, p2, p3, p4, p5, p6, p7, p8, p9⟩ := Ga.ten k3; obtain ⟨q0, q1, q2, q3, q4, q5, q6, q7, q8, q9⟩ := Ga.ten k6; clear hb; have mkm := Jm.markMsg_any g _ wtg apg; simp only [Ga.msg_vals] at mkm)
    | (go_at_call 26; refine mkm.mono ?_; rintro x wm ⟨rfl, hk, wtm⟩; have SXo := SX.out; replace k3 := (hk.block _ (Ea.blk_lt k3) (fun hu => (by have := UG.out _ hu; omega))).trans k3; replace k6 := (hk.block _ (Ea.blk_lt k6) (fun hu => (by have := UG.out _ hu; omega))).trans k6; replace okf := Wj.ok_keepM okf (fun y hy hl => hk.block y hl (fun hu => (by have := UG.out _ hu; have := UF.out y hy; omega))); replace B0 := hk.below B0 (fun y hy => (by have := UG.out _ hy; omega)); clear hk mkm SXo p0 p1 p2 p3 p4 p5 p6 p7 p8 p9 q0 q1 q2 q3 q4 q5 q6 q7 q8 q9 okg; obtain ⟨p0, p1, p2, p3, p4, p5, p6, p7, p8, p9⟩ := Ga.ten k3; obtain ⟨q0, q1, q2, q3, q4, q5, q6, q7, q8, q9⟩ := Ga.ten k6; have hd1 := Jm.heldMsg_any g _ wtm lens; simp only [Ga.msg_vals] at hd1; have t9 : True := trivial)
    | (go_at_call 31; clear t9; refine hd1.mono ?_; rintro x wn ⟨rfl, hb⟩; replace k3 := (hb.block _ (Ea.blk_lt k3)).trans k3; replace k6 := (hb.block _ (Ea.blk_lt k6)).trans k6; replace okf := okf.below hb; replace wtm := wtm.below hb; replace B0 := Rw.next B0 hb; clear hb hd1 p0 p1 p2 p3 p4 p5 p6 p7 p8 p9 q0 q1 q2 q3 q4 q5 q6 q7 q8 q9; obtain ⟨p0, p1, p2, p3, p4, p5, p6, p7, p8, p9⟩ := Ga.ten k3; obtain ⟨q0, q1, q2, q3, q4, q5, q6, q7, q8, q9⟩ := Ga.ten k6))
  have t10 : True := trivial
  have KH : True := trivial
  go_upto_region 23 with (first
    | (go_at_call 30; clear t10; refine (hT _ _ _ _ l _ (RD.out.below B0)).mono ?_; rintro x wo ⟨rfl, hb, mZ⟩; replace k3 := (hb.block _ (Ea.blk_lt k3)).trans k3; replace k6 := (hb.block _ (Ea.blk_lt k6)).trans k6; replace okf := okf.below hb; replace wtm := wtm.below hb; replace B0 := Rw.next B0 hb; clear p0 p1 p2 p3 p4 p5 p6 p7 p8 p9 q0 q1 q2 q3 q4 q5 q6 q7 q8 q9; obtain ⟨p0, p1, p2, p3, p4, p5, p6, p7, p8, p9⟩ := Ga.ten k3; obtain ⟨q0, q1, q2, q3, q4, q5, q6, q7, q8, q9⟩ := Ga.ten k6; clear hb; have lgz := mZ.row.lt)
    | (go_at_call 16; refine (hI _ _ _ _ _ mZ.rd (.inr lgz)).mono ?_; rintro e wp ⟨h0, rfl, sh0, okh0, -, -, -, hb⟩; replace k3 := (hb.block _ (Ea.blk_lt k3)).trans k3; replace k6 := (hb.block _ (Ea.blk_lt k6)).trans k6; replace okf := okf.below hb; replace wtm := wtm.below hb; replace B0 := Rw.next B0 hb; clear p0 p1 p2 p3 p4 p5 p6 p7 p8 p9 q0 q1 q2 q3 q4 q5 q6 q7 q8 q9; obtain ⟨p0, p1, p2, p3, p4, p5, p6, p7, p8, p9⟩ := Ga.ten k3; obtain ⟨q0, q1, q2, q3, q4, q5, q6, q7, q8, q9⟩ := Ga.ten k6; clear hb mZ lgz; simp only [Ga.msg_vals]))
  obtain ⟨W9, hW9⟩ : ∃ W9, W9 = wp.alloc (.cells #[.int .i64 h0.kd, .int .i64 h0.se, .int .i64 h0.xi, .int .i64 h0.e.ep, .int .i64 h0.e.pr, .slice h0.e.aV h0.e.V.length h0.e.cV, .slice h0.e.aM h0.e.M.length h0.e.cM, .slice h0.e.aA h0.e.A.length h0.e.cA, .bool h0.hd, .slice h0.aH h0.H.length h0.cH] 30) := ⟨_, rfl⟩
  have k9 : W9.heap[wp.heap.size]? = some (.cells #[.int .i64 h0.kd, .int .i64 h0.se, .int .i64 h0.xi, .int .i64 h0.e.ep, .int .i64 h0.e.pr, .slice h0.e.aV h0.e.V.length h0.e.cV, .slice h0.e.aM h0.e.M.length h0.e.cM, .slice h0.e.aA h0.e.A.length h0.e.cA, .bool h0.hd, .slice h0.aH h0.H.length h0.cH] 30 (0, 0)) := by subst hW9; exact Pl.at_new rfl
  have hb : Below wp.heap.size wp W9 := by subst hW9; exact Pl.below_alloc1 _ _
  replace okh0 := okh0.below hb
  replace k3 := (hb.block _ (Ea.blk_lt k3)).trans k3
  replace k6 := (hb.block _ (Ea.blk_lt k6)).trans k6
  replace okf := okf.below hb
  replace wtm := wtm.below hb
  replace B0 := Rw.next B0 hb
  clear p0 p1 p2 p3 p4 p5 p6 p7 p8 p9 q0 q1 q2 q3 q4 q5 q6 q7 q8 q9
  obtain ⟨p0, p1, p2, p3, p4, p5, p6, p7, p8, p9⟩ := Ga.ten k3
  obtain ⟨q0, q1, q2, q3, q4, q5, q6, q7, q8, q9⟩ := Ga.ten k6
  rw [← hW9]
  clear hW9 hb
  obtain ⟨P9, hP9⟩ : ∃ P9, P9 = wp.heap.size := ⟨_, rfl⟩
  rw [← hP9] at k9 ⊢
  clear hP9
  obtain ⟨r0, r1, r2, r3, r4, r5, r6, r7, r8, r9⟩ := Ga.ten k9
  have eqh : h0.said = f.said := sh0.trans sf.symm
  go_wp2_with (first
    | (go_at_call 24; refine (hQ h0 f _ okh0 okf eqh).mono ?_; rintro x wq ⟨rfl, hb⟩; replace k3 := (hb.block _ (Ea.blk_lt k3)).trans k3; replace k6 := (hb.block _ (Ea.blk_lt k6)).trans k6; replace okf := okf.below hb; replace wtm := wtm.below hb; replace B0 := Rw.next B0 hb; clear p0 p1 p2 p3 p4 p5 p6 p7 p8 p9 q0 q1 q2 q3 q4 q5 q6 q7 q8 q9; obtain ⟨p0, p1, p2, p3, p4, p5, p6, p7, p8, p9⟩ := Ga.ten k3; obtain ⟨q0, q1, q2, q3, q4, q5, q6, q7, q8, q9⟩ := Ga.ten k6; clear hb r0 r1 r2 r3 r4 r5 r6 r7 r8 r9; have hd2 := Jm.heldMsg_any g _ wtm lens; simp only [Ga.msg_vals] at hd2)
    | (go_at_call 31; refine hd2.mono ?_; rintro x wr ⟨rfl, hb⟩; replace B0 := Rw.next B0 hb))
  go_ret
  exact ⟨rfl, B0⟩

set_option maxRecDepth 100000 in
theorem lifted (os : Os) (started : os.Started) (H : Type) (enc : TypeId × Value → H) :
    ReturnsInHanded {} Try.checked os 7 .any (Rows.fnExactMsgReadSpec.pre6 enc Try.prog Try.f7 Rows.fnExactMsgReadRow.domain false) (Rows.fnExactMsgReadSpec.post enc Try.prog Try.f7 false true false false) := by
  refine returnsInHanded_of_change (C := Try.checked) own started (by kernel_rfl) Try.func7
    (ChangeSpec.witness6 (enc := enc) (C := Try.checked) false ⟨#[], #[.slice none 0 0], []⟩ 8 (by kernel_rfl) (by kernel_rfl) (by kernel_rfl) (by kernel_rfl)) ?_
  intro W base args ds gs before hval0 hW hcnd _
  have hval : ∀ (j : Nat) t v, Try.f7.params[j]? = some t → args[j]? = some v → Value.okWide Try.prog W .any base t v := hval0
  have hW' := hW
  obtain ⟨p, q, hA0, hV, rfl, hfz, hnd⟩ := hW
  have hA : DataW.TrodAll enc Try.prog W 0 (fun _ => true) true Try.f7.params.toList args.toList ds p := hA0
  rw [Try.params7] at hA hval
  obtain ⟨v0, vs0, d0, ds0, p0, q0, hargs, rfl, rfl, h0, r0⟩ := trodAll_cons hA
  obtain ⟨rfl, rfl, rfl⟩ := trodAll_nil r0
  obtain rfl : args = #[v0] := by cases args; simp_all
  obtain ⟨rfl, rfl⟩ := trodVars_none hV
  have k0 := h0
  have lt0 : ∀ x ∈ p0, x.block < W.heap.size := by obtain ⟨m, hm⟩ := k0; exact DataW.trod_lt m _ _ _ hm
  obtain ⟨a0, n0, c0, rfl⟩ := okWide_slice Try.underlying22 (hval 0 22 v0 rfl rfl)
  obtain ⟨z0, w0⟩ : ∃ zs, Rw.IsRow .u8 W a0 n0 c0 zs := by
    obtain ⟨fuel, hf⟩ := h0
    rcases open_ints Try.underlying22 Try.underlying5 (by kernel_rfl) hf with ⟨hcs, _⟩ | ⟨x, l, c, zs, hcs, _, hl, hm, hz, _, hcell, hwz⟩
    · simp [Value.cells] at hcs
      obtain ⟨rfl, rfl, rfl⟩ := hcs
      exact ⟨[], .inl ⟨rfl, rfl, rfl, rfl⟩⟩
    · simp [Value.cells] at hcs
      obtain ⟨rfl, rfl, rfl⟩ := hcs
      exact ⟨zs, .inr ⟨_, rfl, hl, hm, by simpa using hz, hcell, hwz⟩⟩
  clear hA0 hval0
  refine (walk a0 n0 c0 z0 W w0).mono fun e W' ⟨he, bel⟩ => ?_
  subst he
  exact ⟨_, rfl, _, _, _, [], _, [], hW', trodAll_mk1 (shut_bool Try.underlying4 _), (trodAll_cons_mk (Below.trod laidOut (by kernel_rfl) (of_decide_eq_true (by kernel_rfl)) k0 bel lt0) trodAll_mk0), rfl, bel.frame _, fun h => by cases h⟩

theorem over : Rows.fnExactMsgReadRow.holds Try.pinned (OpenSpec.ofChange Rows.fnExactMsgReadSpec) :=
  OpenClaim.holds_of_wide 7 Try.f7 rfl rfl rfl rfl rfl rfl rfl ⟨rfl, rfl, rfl, rfl, rfl⟩ rfl rfl rfl rfl rfl (by kernel_rfl) Try.func7 (by kernel_rfl)
    (of_decide_eq_true (by kernel_rfl)) (by unfold Func.isWrapper; first | (rw [if_pos (by decide +kernel)]; kernel_rfl) | (rw [if_neg (by decide +kernel)]; exact ⟨rfl, rfl⟩))
    (fun os started H enc _ => lifted os started H enc)

theorem proved : Rows.FnExactMsgReadSaid := over
end Go.Proofs.Ytcbhpmgjmpbpmaa.fnExactMsgRead

namespace Go.Proofs.Ytcbhpmgjmpbpmaa
theorem FnExactMsgRead_holds : Rows.FnExactMsgReadSaid := fnExactMsgRead.proved
end Go.Proofs.Ytcbhpmgjmpbpmaa
