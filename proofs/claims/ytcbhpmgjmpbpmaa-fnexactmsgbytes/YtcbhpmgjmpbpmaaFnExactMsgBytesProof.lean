/- At every message the program and the specification write the same bytes, or none; the argument reads as before, the answer owns its memory; no condition. -/
import Derived.Test.YtcbhpmgjmpbpmaaRows
import Derived.Test.YtcbhpmgjmpbpmaaQg
import Derived.WalkKit
import Derived.ProofKit
import Derived.OpenShut
import Derived.ShutString
import Derived.ChangeOld
import Derived.Below
import Derived.Deep.RegionWith
import Derived.Deep.RegionHeld3
namespace Go.Proofs.Ytcbhpmgjmpbpmaa.fnExactMsgBytes
open Go.ChangeShapes Go.WideShapes Go.ChangeAt Go.RowKit
set_option linter.unusedVariables false
set_option linter.unusedSimpArgs false

theorem own : ownKnob Try.prog.godebug = none := by kernel_rfl
theorem laidOut : laidOutB Try.prog = true := by kernel_rfl
theorem ownM_lt {w : World} {lo : Nat} {f : Ga.Msg} (h : Ga.OwnM w lo f) {x : Nat} (hx : Jm.Use4 f x) : x < w.heap.size := by
  rcases hx with rfl | rfl | rfl | rfl
  · exact h.e.mV.row.lt
  · exact h.e.mM.row.lt
  · exact h.e.mA.row.lt
  · exact h.mH.row.lt

set_option maxRecDepth 8000 in
set_option maxHeartbeats 16000000 in
theorem walk (r0 : Ga.MRaw) (w : World) (w0 : r0.Is w) :
    Calls Try.prog 6 #[.agg r0.vals] w fun e w' => e = .returned (.bool true) ∧ Below w.heap.size w w' := by
  have mx := w0.max
  obtain ⟨W0, hW0⟩ : ∃ W0, W0 = w.alloc (.cells r0.vals 49) := ⟨_, rfl⟩
  have B0 : Below w.heap.size w W0 := by subst hW0; exact Pl.below_alloc1 _ _
  by_cases hbig : 1048576 < r0.len
  · have hc := Ga.szMsg_big r0 1048576 W0 hbig (Nat.le_refl _) mx
    simp only [Ga.MRaw.vals] at hW0 hc ⊢
    go_enter Try.func6, Try.ntmps6
    go_wp2_with (go_at_call 21; rw [← hW0]; clear hW0; refine hc.mono ?_; rintro e wa ⟨rfl, hb⟩)
    go_ret
    exact ⟨rfl, Rw.next B0 hb⟩
  obtain ⟨e, he, ok⟩ := Ga.msg_of_raw w0 (by omega)
  obtain ⟨L, hL⟩ : ∃ L : Nat, r0.len + L = 1048576 := ⟨1048576 - r0.len, by omega⟩
  have hp : ¬ ((L : Int) < 0) := by omega
  have hc := Ga.szMsg_at r0 1048576 L W0 hL (Nat.le_refl _)
  rw [← he] at hc hW0 ⊢
  have k0 : W0.heap[w.heap.size]? = some (.cells #[.int .i64 e.kd, .int .i64 e.se, .int .i64 e.xi, .int .i64 e.e.ep, .int .i64 e.e.pr, .slice e.e.aV e.e.V.length e.e.cV, .slice e.e.aM e.e.M.length e.e.cM, .slice e.e.aA e.e.A.length e.e.cA, .bool e.hd, .slice e.aH e.H.length e.cH] 49 (0, 0)) := by subst hW0; exact Pl.at_new rfl
  clear he hL mx w0 hbig
  have hS := Ja.bytesSp
  have hI := Ja.bytesI
  have hT := Ga.toMsg_any
  have hQ := Ga.eqMsg_same
  simp only [Ga.msg_vals] at hc hS hI hT hQ hW0 ⊢
  have hlen := Ja.writtenL_len e.said
  have hbyt := Ja.writtenL_byt e.said
  generalize hR : Ga.msgB e.said = R
  generalize hL : Ja.writtenL e.said = L at hlen hbyt
  have HR : Hid (Ga.msgB e.said = R) := hR
  have HL : Hid (Ja.writtenL e.said = L) := hL
  have HB : Hid (Rw.Byt L) := hbyt
  have z211 : (L.length : Int) ≤ 211 := by omega
  have qh : ¬ (1 + (L.length : Int) < 0) := by omega
  clear hR hL hlen hbyt
  have OK : Hid (e.Ok w) := ok
  clear ok
  go_enter Try.func6, Try.ntmps6
  have t1 : True := trivial
  go_wp2_with (first
    | (go_at_call 21; rw [← hW0]; clear hW0; refine hc.mono ?_; rintro x wa ⟨rfl, hb⟩; replace k0 := (hb.block _ (Ea.blk_lt k0)).trans k0; replace B0 := Rw.next B0 hb; clear hb; obtain ⟨p0, p1, p2, p3, p4, p5, p6, p7, p8, p9⟩ := Ga.ten k0)
    | (go_at_call 22; clear t1; refine (hT e _ (OK.out.below B0)).mono ?_; rintro x wa ⟨f, rfl, sf, hb, hf⟩; replace k0 := (hb.block _ (Ea.blk_lt k0)).trans k0; replace B0 := Rw.next B0 hb; clear hb p0 p1 p2 p3 p4 p5 p6 p7 p8 p9; obtain ⟨p0, p1, p2, p3, p4, p5, p6, p7, p8, p9⟩ := Ga.ten k0)
    | (go_at_call 17; refine (hS f _ hf.ok).mono ?_; rw [sf, HR.out, HL.out]; rintro x ws ⟨sa, sg, sc, rfl, swt, slo, snil, scap, hb⟩; replace k0 := (hb.block _ (Ea.blk_lt k0)).trans k0; replace B0 := Rw.next B0 hb; clear hb p0 p1 p2 p3 p4 p5 p6 p7 p8 p9 hf sf slo snil scap; have SW : Hid (Mk.Wt ws sa sg L) := swt; have SZ : Hid (w.heap.size < ws.heap.size) := Ea.blk_lt k0; clear swt; obtain ⟨p0, p1, p2, p3, p4, p5, p6, p7, p8, p9⟩ := Ga.ten k0))
  have t2 : True := trivial
  go_wp2_with (go_at_call 22; clear t2; refine (hT e _ (OK.out.below B0)).mono ?_; rintro x wc ⟨g, rfl, sg', hb, hg⟩; have BS := hb; replace k0 := (hb.block _ (Ea.blk_lt k0)).trans k0; replace B0 := Rw.next B0 hb; clear hb p0 p1 p2 p3 p4 p5 p6 p7 p8 p9; obtain ⟨p0, p1, p2, p3, p4, p5, p6, p7, p8, p9⟩ := Ga.ten k0)
  have HU : Hid (∀ x, Jm.Use4 g x → ws.heap.size ≤ x ∧ x < wc.heap.size) := fun x hx => ⟨Jm.ownM_use hg hx, ownM_lt hg hx⟩
  obtain ⟨W2, hW2⟩ : ∃ W2, W2 = wc.alloc (.cells #[.int .i64 g.kd, .int .i64 g.se, .int .i64 g.xi, .int .i64 g.e.ep, .int .i64 g.e.pr, .slice g.e.aV g.e.V.length g.e.cV, .slice g.e.aM g.e.M.length g.e.cM, .slice g.e.aA g.e.A.length g.e.cA, .bool g.hd, .slice g.aH g.H.length g.cH] 30) := ⟨_, rfl⟩
  have k1 : W2.heap[wc.heap.size]? = some (.cells #[.int .i64 g.kd, .int .i64 g.se, .int .i64 g.xi, .int .i64 g.e.ep, .int .i64 g.e.pr, .slice g.e.aV g.e.V.length g.e.cV, .slice g.e.aM g.e.M.length g.e.cM, .slice g.e.aA g.e.A.length g.e.cA, .bool g.hd, .slice g.aH g.H.length g.cH] 30 (0, 0)) := by subst hW2; exact Pl.at_new rfl
  have hb : Below wc.heap.size wc W2 := by subst hW2; exact Pl.below_alloc1 _ _
  have szc : wc.heap.size < W2.heap.size := Ea.blk_lt k1
  have SZC : Hid (wc.heap.size < W2.heap.size ∧ ws.heap.size ≤ wc.heap.size) := ⟨szc, BS.size⟩
  replace k0 := (hb.block _ (Ea.blk_lt k0)).trans k0
  replace hg := hg.below hb
  replace B0 := Rw.next B0 hb
  replace BS := Rw.next BS hb
  clear hb szc p0 p1 p2 p3 p4 p5 p6 p7 p8 p9
  obtain ⟨p0, p1, p2, p3, p4, p5, p6, p7, p8, p9⟩ := Ga.ten k0
  have t3 : True := trivial
  go_wp2_with (first
    | (go_at_call 14; clear t3; rw [← hW2]; clear hW2; refine (hI g _ hg.ok).mono ?_; rw [sg', HR.out, HL.out]; rintro x wd ⟨ga, gg, gc, rfl, gwt, glo, gnil, gcap, hb⟩; replace k0 := (hb.block _ (Ea.blk_lt k0)).trans k0; replace B0 := Rw.next B0 hb; replace BS := Rw.next BS hb; replace k1 := (hb.block _ (Ea.blk_lt k1)).trans k1; replace hg := hg.below hb; have swt := SW.out.below BS; have GLO : Hid (W2.heap.size ≤ gg) := glo; clear hb p0 p1 p2 p3 p4 p5 p6 p7 p8 p9 glo gnil gcap; obtain ⟨p0, p1, p2, p3, p4, p5, p6, p7, p8, p9⟩ := Ga.ten k0; obtain ⟨q0, q1, q2, q3, q4, q5, q6, q7, q8, q9⟩ := Ga.ten k1)
    | (go_at_call 25; refine (Gq.eqL L _ _ _ _ _ _ _ _ _ gwt.rd swt.rd).mono ?_; rintro x we ⟨rfl, hb⟩; replace k0 := (hb.block _ (Ea.blk_lt k0)).trans k0; replace B0 := Rw.next B0 hb; replace BS := Rw.next BS hb; replace k1 := (hb.block _ (Ea.blk_lt k1)).trans k1; replace hg := hg.below hb; replace gwt := gwt.below hb; clear hb swt p0 p1 p2 p3 p4 p5 p6 p7 p8 p9 q0 q1 q2 q3 q4 q5 q6 q7 q8 q9; obtain ⟨p0, p1, p2, p3, p4, p5, p6, p7, p8, p9⟩ := Ga.ten k0; obtain ⟨q0, q1, q2, q3, q4, q5, q6, q7, q8, q9⟩ := Ga.ten k1))
  have OKE := OK.out.below B0
  go_region_held3 (fun w' => w'.cell? ⟨wc.heap.size, 0, none⟩ = some (.int .i64 g.kd) ∧ w'.cell? ⟨wc.heap.size, 1, none⟩ = some (.int .i64 g.se) ∧ w'.cell? ⟨wc.heap.size, 2, none⟩ = some (.int .i64 g.xi) ∧ w'.cell? ⟨wc.heap.size, 3, none⟩ = some (.int .i64 g.e.ep) ∧ w'.cell? ⟨wc.heap.size, 4, none⟩ = some (.int .i64 g.e.pr) ∧ w'.cell? ⟨wc.heap.size, 5, none⟩ = some (.slice g.e.aV g.e.V.length g.e.cV) ∧ w'.cell? ⟨wc.heap.size, 6, none⟩ = some (.slice g.e.aM g.e.M.length g.e.cM) ∧ w'.cell? ⟨wc.heap.size, 7, none⟩ = some (.slice g.e.aA g.e.A.length g.e.cA) ∧ w'.cell? ⟨wc.heap.size, 8, none⟩ = some (.bool g.hd) ∧ w'.cell? ⟨wc.heap.size, 9, none⟩ = some (.slice g.aH g.H.length g.cH) ∧ w'.cell? ⟨w.heap.size, 0, none⟩ = some (.int .i64 e.kd) ∧ w'.cell? ⟨w.heap.size, 1, none⟩ = some (.int .i64 e.se) ∧ w'.cell? ⟨w.heap.size, 2, none⟩ = some (.int .i64 e.xi) ∧ w'.cell? ⟨w.heap.size, 3, none⟩ = some (.int .i64 e.e.ep) ∧ w'.cell? ⟨w.heap.size, 4, none⟩ = some (.int .i64 e.e.pr) ∧ w'.cell? ⟨w.heap.size, 5, none⟩ = some (.slice e.e.aV e.e.V.length e.e.cV) ∧ w'.cell? ⟨w.heap.size, 6, none⟩ = some (.slice e.e.aM e.e.M.length e.e.cM) ∧ w'.cell? ⟨w.heap.size, 7, none⟩ = some (.slice e.e.aA e.e.A.length e.e.cA) ∧ w'.cell? ⟨w.heap.size, 8, none⟩ = some (.bool e.hd) ∧ w'.cell? ⟨w.heap.size, 9, none⟩ = some (.slice e.aH e.H.length e.cH)) (go_keep) (first
    | (go_at_call 22; refine (hT e _ (OKE.below ((Below.refl _ _).drew))).mono ?_; rintro x wf ⟨f, rfl, sf, hb0, hf⟩; have hb := Rw.next ((Below.refl _ _).drew) hb0; clear p0 p1 p2 p3 p4 p5 p6 p7 p8 p9 q0 q1 q2 q3 q4 q5 q6 q7 q8 q9; replace k0 := (hb.block _ (Ea.blk_lt k0)).trans k0; replace B0 := Rw.next B0 hb; replace BS := Rw.next BS hb; replace k1 := (hb.block _ (Ea.blk_lt k1)).trans k1; replace hg := hg.below hb; replace gwt := gwt.below hb; clear hb hb0; obtain ⟨p0, p1, p2, p3, p4, p5, p6, p7, p8, p9⟩ := Ga.ten k0; obtain ⟨q0, q1, q2, q3, q4, q5, q6, q7, q8, q9⟩ := Ga.ten k1)
    | (go_at_call 24; refine (hQ g f _ hg.ok hf.ok (sg'.trans sf.symm)).mono ?_; rintro x wh ⟨rfl, hb⟩; clear p0 p1 p2 p3 p4 p5 p6 p7 p8 p9 q0 q1 q2 q3 q4 q5 q6 q7 q8 q9; replace k0 := (hb.block _ (Ea.blk_lt k0)).trans k0; replace B0 := Rw.next B0 hb; replace BS := Rw.next BS hb; replace k1 := (hb.block _ (Ea.blk_lt k1)).trans k1; replace hg := hg.below hb; replace gwt := gwt.below hb; clear hb hf sf; obtain ⟨p0, p1, p2, p3, p4, p5, p6, p7, p8, p9⟩ := Ga.ten k0; obtain ⟨q0, q1, q2, q3, q4, q5, q6, q7, q8, q9⟩ := Ga.ten k1))
  clear OKE
  have top0 : ¬ (Jm.top g < 0) := by unfold Jm.top; omega
  generalize hTop : Jm.top g = T at top0
  have HT : Hid (Jm.top g = T) := hTop
  clear hTop
  have mkm := Jm.markMsg_any
  simp only [Ga.msg_vals] at mkm
  have t4 : True := trivial
  go_wp2_with (first
    | (go_at_call 26; clear t4; refine (mkm g _ (Jm.ownM_wt hg) (Jm.ownM_ap hg)).mono ?_; rw [HT.out]; rintro x wi ⟨rfl, hk, _⟩; have SZo := SZC.out; have SZw := SZ.out; replace k0 := (hk.block _ (Ea.blk_lt k0) (fun hu => (by have := HU.out _ hu; omega))).trans k0; replace k1 := (hk.block _ (Ea.blk_lt k1) (fun hu => (by have := HU.out _ hu; omega))).trans k1; replace gwt := Gp.wt_keep gwt (fun hl => hk.block _ (Gp.wt_lt gwt hl) (fun hu => (by have := HU.out _ hu; have := GLO.out; omega))); replace BS := hk.below BS (fun x hx => (HU.out x hx).1); replace B0 := hk.below B0 (fun x hx => (by have := HU.out _ hx; omega)); clear hk hg p0 p1 p2 p3 p4 p5 p6 p7 p8 p9 q0 q1 q2 q3 q4 q5 q6 q7 q8 q9 SZo SZw; have swt := SW.out.below BS; obtain ⟨p0, p1, p2, p3, p4, p5, p6, p7, p8, p9⟩ := Ga.ten k0; have t5 : True := trivial)
    | (go_at_call 25; clear t5; refine (Gq.eqL L _ _ _ _ _ _ _ _ _ gwt.rd swt.rd).mono ?_; rintro x wj ⟨rfl, hb⟩; replace k0 := (hb.block _ (Ea.blk_lt k0)).trans k0; replace B0 := Rw.next B0 hb; replace BS := Rw.next BS hb; replace gwt := gwt.below hb; clear hb swt p0 p1 p2 p3 p4 p5 p6 p7 p8 p9; obtain ⟨p0, p1, p2, p3, p4, p5, p6, p7, p8, p9⟩ := Ga.ten k0; have mk1 := Gd.markB_any 1 (by omega) (by omega) ga gg gc L _ gwt)
    | (go_at_call 27; refine mk1.mono ?_; rintro x wk ⟨rfl, hk, gm⟩; have SZo := SZC.out; have SZw := SZ.out; have GLo := GLO.out; replace k0 := (hk.block _ (Ea.blk_lt k0) (.inr (by omega))).trans k0; replace BS := hk.only.below BS BS.size (by omega); replace B0 := hk.only.below B0 B0.size (by omega); clear hk mk1 gwt p0 p1 p2 p3 p4 p5 p6 p7 p8 p9 SZo SZw GLo; obtain ⟨p0, p1, p2, p3, p4, p5, p6, p7, p8, p9⟩ := Ga.ten k0; have hd1 := Gd.heldB_any 1 (by omega) (by omega) ga gg gc L.length _ gm; have t6 : True := trivial)
    | (go_at_call 28; clear t6; refine hd1.mono ?_; rintro x wl ⟨rfl, hw⟩; replace hw := hw.symm; subst hw; have t7 : True := trivial)
    | (go_at_call 22; clear t7; refine (hT e _ (OK.out.below B0)).mono ?_; rintro x wm ⟨f, rfl, sf, hb, hf⟩; replace k0 := (hb.block _ (Ea.blk_lt k0)).trans k0; replace B0 := Rw.next B0 hb; replace BS := Rw.next BS hb; replace gm := gm.below hb; clear hb hd1 p0 p1 p2 p3 p4 p5 p6 p7 p8 p9; obtain ⟨p0, p1, p2, p3, p4, p5, p6, p7, p8, p9⟩ := Ga.ten k0)
    | (go_at_call 14; refine (hI f _ hf.ok).mono ?_; rw [sf, HR.out, HL.out]; rintro x wn ⟨ha, hgb, hcap, rfl, hwt, hlo, hnil, hcp, hb⟩; replace k0 := (hb.block _ (Ea.blk_lt k0)).trans k0; replace B0 := Rw.next B0 hb; replace BS := Rw.next BS hb; replace gm := gm.below hb; have swt := SW.out.below BS; clear hb hf sf hlo hnil hcp p0 p1 p2 p3 p4 p5 p6 p7 p8 p9; obtain ⟨p0, p1, p2, p3, p4, p5, p6, p7, p8, p9⟩ := Ga.ten k0; have t8 : True := trivial)
    | (go_at_call 25; clear t8; refine (Gq.eqL L _ _ _ _ _ _ _ _ _ hwt.rd swt.rd).mono ?_; rintro x wo ⟨rfl, hb⟩; replace k0 := (hb.block _ (Ea.blk_lt k0)).trans k0; replace B0 := Rw.next B0 hb; replace BS := Rw.next BS hb; replace gm := gm.below hb; clear hb swt hwt p0 p1 p2 p3 p4 p5 p6 p7 p8 p9; obtain ⟨p0, p1, p2, p3, p4, p5, p6, p7, p8, p9⟩ := Ga.ten k0; have hd2 := Gd.heldB_any 1 (by omega) (by omega) ga gg gc L.length _ gm; have t9 : True := trivial)
    | (go_at_call 28; clear t9; refine hd2.mono ?_; rintro x wp ⟨rfl, hw⟩; replace hw := hw.symm; subst hw))
  go_ret
  exact ⟨rfl, B0⟩

set_option maxRecDepth 100000 in
theorem lifted (os : Os) (started : os.Started) (H : Type) (enc : TypeId × Value → H) :
    ReturnsInHanded {} Try.checked os 6 .any (Rows.fnExactMsgBytesSpec.pre6 enc Try.prog Try.f6 Rows.fnExactMsgBytesRow.domain false) (Rows.fnExactMsgBytesSpec.post enc Try.prog Try.f6 false true false false) := by
  refine returnsInHanded_of_change (C := Try.checked) own started (by kernel_rfl) Try.func6
    (ChangeSpec.witness6 (enc := enc) (C := Try.checked) false ⟨#[], #[.agg #[.int .i64 0, .int .i64 0, .int .i64 0, .int .i64 0, .int .i64 0, .slice none 0 0, .slice none 0 0, .slice none 0 0, .bool false, .slice none 0 0]], []⟩ 8 (by kernel_rfl) (by kernel_rfl) (by kernel_rfl) (by kernel_rfl)) ?_
  intro W base args ds gs before hval0 hW hcnd _
  have hval : ∀ (j : Nat) t v, Try.f6.params[j]? = some t → args[j]? = some v → Value.okWide Try.prog W .any base t v := hval0
  have hW' := hW
  obtain ⟨p, q, hA0, hV, rfl, hfz, hnd⟩ := hW
  have hA : DataW.TrodAll enc Try.prog W 0 (fun _ => true) true Try.f6.params.toList args.toList ds p := hA0
  rw [Try.params6] at hA hval
  obtain ⟨v0, vs0, d0, ds0, p0, q0, hargs, rfl, rfl, h0, r0⟩ := trodAll_cons hA
  obtain ⟨rfl, rfl, rfl⟩ := trodAll_nil r0
  obtain rfl : args = #[v0] := by cases args; simp_all
  obtain ⟨rfl, rfl⟩ := trodVars_none hV
  have k0 := h0
  have lt0 : ∀ x ∈ p0, x.block < W.heap.size := by obtain ⟨m, hm⟩ := k0; exact DataW.trod_lt m _ _ _ hm
  obtain ⟨r0, rfl, w0⟩ := Ga.open_msg (hval 0 49 v0 rfl rfl) h0
  clear hA0 hval0
  refine (walk r0 W w0).mono fun e W' ⟨he, bel⟩ => ?_
  subst he
  exact ⟨_, rfl, _, _, _, [], _, [], hW', trodAll_mk1 (shut_bool Try.underlying4 _), (trodAll_cons_mk (Below.trod laidOut (by kernel_rfl) (of_decide_eq_true (by kernel_rfl)) k0 bel lt0) trodAll_mk0), rfl, bel.frame _, fun h => by cases h⟩

theorem over : Rows.fnExactMsgBytesRow.holds Try.pinned (OpenSpec.ofChange Rows.fnExactMsgBytesSpec) :=
  OpenClaim.holds_of_wide 6 Try.f6 rfl rfl rfl rfl rfl rfl rfl ⟨rfl, rfl, rfl, rfl, rfl⟩ rfl rfl rfl rfl rfl (by kernel_rfl) Try.func6 (by kernel_rfl)
    (of_decide_eq_true (by kernel_rfl)) (by unfold Func.isWrapper; first | (rw [if_pos (by decide +kernel)]; kernel_rfl) | (rw [if_neg (by decide +kernel)]; exact ⟨rfl, rfl⟩))
    (fun os started H enc _ => lifted os started H enc)

theorem proved : Rows.FnExactMsgBytesSaid := over
end Go.Proofs.Ytcbhpmgjmpbpmaa.fnExactMsgBytes

namespace Go.Proofs.Ytcbhpmgjmpbpmaa
theorem FnExactMsgBytes_holds : Rows.FnExactMsgBytesSaid := fnExactMsgBytes.proved
end Go.Proofs.Ytcbhpmgjmpbpmaa
