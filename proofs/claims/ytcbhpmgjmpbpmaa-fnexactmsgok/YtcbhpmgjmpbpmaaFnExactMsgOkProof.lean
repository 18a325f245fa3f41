/- At every message the program and the specification answer the same whether it is right, and the argument reads as before; no condition. -/
import Derived.Test.YtcbhpmgjmpbpmaaRows
import Derived.Test.YtcbhpmgjmpbpmaaQe
import Derived.WalkKit
import Derived.ProofKit
import Derived.OpenShut
import Derived.ShutString
import Derived.ChangeOld
import Derived.Below
import Derived.Deep.RegionWith
import Derived.Deep.RegionHeld3
namespace Go.Proofs.Ytcbhpmgjmpbpmaa.fnExactMsgOk
open Go.ChangeShapes Go.WideShapes Go.ChangeAt Go.RowKit
set_option linter.unusedVariables false
set_option linter.unusedSimpArgs false

theorem own : ownKnob Try.prog.godebug = none := by kernel_rfl
theorem laidOut : laidOutB Try.prog = true := by kernel_rfl

set_option maxRecDepth 8000 in
set_option maxHeartbeats 16000000 in
theorem walk (r0 : Ga.MRaw) (w : World) (w0 : r0.Is w) :
    Calls Try.prog 5 #[.agg r0.vals] w fun e w' => e = .returned (.bool true) ∧ Below w.heap.size w w' := by
  have mx := w0.max
  obtain ⟨W0, hW0⟩ : ∃ W0, W0 = w.alloc (.cells r0.vals 49) := ⟨_, rfl⟩
  have B0 : Below w.heap.size w W0 := by subst hW0; exact Pl.below_alloc1 _ _
  by_cases hbig : 1048576 < r0.len
  · have hc := Ga.szMsg_big r0 1048576 W0 hbig (Nat.le_refl _) mx
    simp only [Ga.MRaw.vals] at hW0 hc ⊢
    go_enter Try.func5, Try.ntmps5
    go_wp2_with (go_at_call 21; rw [← hW0]; clear hW0; refine hc.mono ?_; rintro e wa ⟨rfl, hb⟩)
    go_ret
    exact ⟨rfl, Rw.next B0 hb⟩
  obtain ⟨e, he, ok⟩ := Ga.msg_of_raw w0 (by omega)
  obtain ⟨L, hL⟩ : ∃ L : Nat, r0.len + L = 1048576 := ⟨1048576 - r0.len, by omega⟩
  have hp : ¬ ((L : Int) < 0) := by omega
  have hc := Ga.szMsg_at r0 1048576 L W0 hL (Nat.le_refl _)
  rw [← he] at hc hW0 ⊢
  have k0 : W0.heap[w.heap.size]? = some (.cells #[.int .i64 e.kd, .int .i64 e.se, .int .i64 e.xi, .int .i64 e.e.ep, .int .i64 e.e.pr, .slice e.e.aV e.e.V.length e.e.cV, .slice e.e.aM e.e.M.length e.e.cM, .slice e.e.aA e.e.A.length e.e.cA, .bool e.hd, .slice e.aH e.H.length e.cH] 49 (0, 0)) := by subst hW0; exact Pl.at_new rfl
  clear he hL mx w0 hbig
  replace ok := ok.below B0
  have hS := Ga.okM_spec
  have hI := Ga.okM_impl
  have hT := Ga.toMsg_any
  have hQ := Ga.eqMsg_same
  simp only [Ga.msg_vals] at hc hS hI hT hQ hW0 ⊢
  generalize hR : Ga.msgB e.said = R
  have HR : Hid (Ga.msgB e.said = R) := hR
  clear hR
  go_enter Try.func5, Try.ntmps5
  have t1 : True := trivial
  go_wp2_with (first
    | (go_at_call 21; rw [← hW0]; clear hW0; refine hc.mono ?_; rintro x wa ⟨rfl, hb⟩; replace k0 := (hb.block _ (Ea.blk_lt k0)).trans k0; replace ok := ok.below hb; replace B0 := Rw.next B0 hb; clear hb; obtain ⟨p0, p1, p2, p3, p4, p5, p6, p7, p8, p9⟩ := Ga.ten k0)
    | (go_at_call 22; clear t1; refine (hT e _ ok).mono ?_; rintro x wa ⟨f, rfl, sf, hb, hf⟩; replace k0 := (hb.block _ (Ea.blk_lt k0)).trans k0; replace ok := ok.below hb; replace B0 := Rw.next B0 hb; clear hb p0 p1 p2 p3 p4 p5 p6 p7 p8 p9; obtain ⟨p0, p1, p2, p3, p4, p5, p6, p7, p8, p9⟩ := Ga.ten k0)
    | (go_at_call 15; refine (hS f _ hf.ok).mono ?_; rw [sf, HR.out]; rintro x wa ⟨rfl, hb⟩; replace k0 := (hb.block _ (Ea.blk_lt k0)).trans k0; replace ok := ok.below hb; replace B0 := Rw.next B0 hb; clear hb p0 p1 p2 p3 p4 p5 p6 p7 p8 p9 hf sf; obtain ⟨p0, p1, p2, p3, p4, p5, p6, p7, p8, p9⟩ := Ga.ten k0))
  have t2 : True := trivial
  go_wp2_with (go_at_call 22; clear t2; refine (hT e _ ok).mono ?_; rintro x wc ⟨g, rfl, sg, hb, hg⟩; replace k0 := (hb.block _ (Ea.blk_lt k0)).trans k0; replace ok := ok.below hb; replace B0 := Rw.next B0 hb; clear hb p0 p1 p2 p3 p4 p5 p6 p7 p8 p9; obtain ⟨p0, p1, p2, p3, p4, p5, p6, p7, p8, p9⟩ := Ga.ten k0)
  obtain ⟨W2, hW2⟩ : ∃ W2, W2 = wc.alloc (.cells #[.int .i64 g.kd, .int .i64 g.se, .int .i64 g.xi, .int .i64 g.e.ep, .int .i64 g.e.pr, .slice g.e.aV g.e.V.length g.e.cV, .slice g.e.aM g.e.M.length g.e.cM, .slice g.e.aA g.e.A.length g.e.cA, .bool g.hd, .slice g.aH g.H.length g.cH] 30) := ⟨_, rfl⟩
  have k1 : W2.heap[wc.heap.size]? = some (.cells #[.int .i64 g.kd, .int .i64 g.se, .int .i64 g.xi, .int .i64 g.e.ep, .int .i64 g.e.pr, .slice g.e.aV g.e.V.length g.e.cV, .slice g.e.aM g.e.M.length g.e.cM, .slice g.e.aA g.e.A.length g.e.cA, .bool g.hd, .slice g.aH g.H.length g.cH] 30 (0, 0)) := by subst hW2; exact Pl.at_new rfl
  have hb : Below wc.heap.size wc W2 := by subst hW2; exact Pl.below_alloc1 _ _
  replace k0 := (hb.block _ (Ea.blk_lt k0)).trans k0
  replace ok := ok.below hb
  replace hg := hg.below hb
  replace B0 := Rw.next B0 hb
  clear hb p0 p1 p2 p3 p4 p5 p6 p7 p8 p9
  obtain ⟨p0, p1, p2, p3, p4, p5, p6, p7, p8, p9⟩ := Ga.ten k0
  go_wp2_with (go_at_call 23; rw [← hW2]; clear hW2; refine (hI g _ hg.ok).mono ?_; rw [sg, HR.out]; rintro x wd ⟨rfl, hb⟩; replace k0 := (hb.block _ (Ea.blk_lt k0)).trans k0; replace ok := ok.below hb; replace B0 := Rw.next B0 hb; replace k1 := (hb.block _ (Ea.blk_lt k1)).trans k1; replace hg := hg.below hb; clear hb p0 p1 p2 p3 p4 p5 p6 p7 p8 p9; obtain ⟨p0, p1, p2, p3, p4, p5, p6, p7, p8, p9⟩ := Ga.ten k0; obtain ⟨q0, q1, q2, q3, q4, q5, q6, q7, q8, q9⟩ := Ga.ten k1)
  go_region_held3 (fun w' => w'.cell? ⟨wc.heap.size, 0, none⟩ = some (.int .i64 g.kd) ∧ w'.cell? ⟨wc.heap.size, 1, none⟩ = some (.int .i64 g.se) ∧ w'.cell? ⟨wc.heap.size, 2, none⟩ = some (.int .i64 g.xi) ∧ w'.cell? ⟨wc.heap.size, 3, none⟩ = some (.int .i64 g.e.ep) ∧ w'.cell? ⟨wc.heap.size, 4, none⟩ = some (.int .i64 g.e.pr) ∧ w'.cell? ⟨wc.heap.size, 5, none⟩ = some (.slice g.e.aV g.e.V.length g.e.cV) ∧ w'.cell? ⟨wc.heap.size, 6, none⟩ = some (.slice g.e.aM g.e.M.length g.e.cM) ∧ w'.cell? ⟨wc.heap.size, 7, none⟩ = some (.slice g.e.aA g.e.A.length g.e.cA) ∧ w'.cell? ⟨wc.heap.size, 8, none⟩ = some (.bool g.hd) ∧ w'.cell? ⟨wc.heap.size, 9, none⟩ = some (.slice g.aH g.H.length g.cH) ∧ w'.cell? ⟨w.heap.size, 0, none⟩ = some (.int .i64 e.kd) ∧ w'.cell? ⟨w.heap.size, 1, none⟩ = some (.int .i64 e.se) ∧ w'.cell? ⟨w.heap.size, 2, none⟩ = some (.int .i64 e.xi) ∧ w'.cell? ⟨w.heap.size, 3, none⟩ = some (.int .i64 e.e.ep) ∧ w'.cell? ⟨w.heap.size, 4, none⟩ = some (.int .i64 e.e.pr) ∧ w'.cell? ⟨w.heap.size, 5, none⟩ = some (.slice e.e.aV e.e.V.length e.e.cV) ∧ w'.cell? ⟨w.heap.size, 6, none⟩ = some (.slice e.e.aM e.e.M.length e.e.cM) ∧ w'.cell? ⟨w.heap.size, 7, none⟩ = some (.slice e.e.aA e.e.A.length e.e.cA) ∧ w'.cell? ⟨w.heap.size, 8, none⟩ = some (.bool e.hd) ∧ w'.cell? ⟨w.heap.size, 9, none⟩ = some (.slice e.aH e.H.length e.cH)) (go_keep) (first
    | (go_at_call 22; refine (hT e _ (ok.below ((Below.refl _ _).drew))).mono ?_; rintro x we ⟨f, rfl, sf, hb0, hf⟩; have hb := Rw.next ((Below.refl _ _).drew) hb0; clear p0 p1 p2 p3 p4 p5 p6 p7 p8 p9 q0 q1 q2 q3 q4 q5 q6 q7 q8 q9; replace k0 := (hb.block _ (Ea.blk_lt k0)).trans k0; replace k1 := (hb.block _ (Ea.blk_lt k1)).trans k1; replace hg := hg.below hb; replace B0 := Rw.next B0 hb; clear hb hb0; obtain ⟨p0, p1, p2, p3, p4, p5, p6, p7, p8, p9⟩ := Ga.ten k0; obtain ⟨q0, q1, q2, q3, q4, q5, q6, q7, q8, q9⟩ := Ga.ten k1)
    | (go_at_call 24; refine (hQ g f _ hg.ok hf.ok (sg.trans sf.symm)).mono ?_; rintro x wf ⟨rfl, hb⟩; clear p0 p1 p2 p3 p4 p5 p6 p7 p8 p9 q0 q1 q2 q3 q4 q5 q6 q7 q8 q9; replace k0 := (hb.block _ (Ea.blk_lt k0)).trans k0; replace k1 := (hb.block _ (Ea.blk_lt k1)).trans k1; replace B0 := Rw.next B0 hb; clear hb; obtain ⟨p0, p1, p2, p3, p4, p5, p6, p7, p8, p9⟩ := Ga.ten k0; obtain ⟨q0, q1, q2, q3, q4, q5, q6, q7, q8, q9⟩ := Ga.ten k1))
  go_wp2
  go_ret
  exact ⟨rfl, B0⟩

set_option maxRecDepth 100000 in
theorem lifted (os : Os) (started : os.Started) (H : Type) (enc : TypeId × Value → H) :
    ReturnsInHanded {} Try.checked os 5 .any (Rows.fnExactMsgOkSpec.pre6 enc Try.prog Try.f5 Rows.fnExactMsgOkRow.domain false) (Rows.fnExactMsgOkSpec.post enc Try.prog Try.f5 false true false false) := by
  refine returnsInHanded_of_change (C := Try.checked) own started (by kernel_rfl) Try.func5
    (ChangeSpec.witness6 (enc := enc) (C := Try.checked) false ⟨#[], #[.agg #[.int .i64 0, .int .i64 0, .int .i64 0, .int .i64 0, .int .i64 0, .slice none 0 0, .slice none 0 0, .slice none 0 0, .bool false, .slice none 0 0]], []⟩ 8 (by kernel_rfl) (by kernel_rfl) (by kernel_rfl) (by kernel_rfl)) ?_
  intro W base args ds gs before hval0 hW hcnd _
  have hval : ∀ (j : Nat) t v, Try.f5.params[j]? = some t → args[j]? = some v → Value.okWide Try.prog W .any base t v := hval0
  have hW' := hW
  obtain ⟨p, q, hA0, hV, rfl, hfz, hnd⟩ := hW
  have hA : DataW.TrodAll enc Try.prog W 0 (fun _ => true) true Try.f5.params.toList args.toList ds p := hA0
  rw [Try.params5] at hA hval
  obtain ⟨v0, vs0, d0, ds0, p0, q0, hargs, rfl, rfl, h0, r0⟩ := trodAll_cons hA
  obtain ⟨rfl, rfl, rfl⟩ := trodAll_nil r0
  obtain rfl : args = #[v0] := by cases args; simp_all
  obtain ⟨rfl, rfl⟩ := trodVars_none hV
  have k0 := h0
  have lt0 : ∀ x ∈ p0, x.block < W.heap.size := by obtain ⟨m, hm⟩ := k0; exact DataW.trod_lt m _ _ _ hm
  obtain ⟨r0, rfl, w0⟩ := Ga.open_msg (hval 0 49 v0 rfl rfl) h0
  clear hA0 hval0
  refine (walk r0 W w0).mono fun e W' ⟨he, bel⟩ => ?_
  subst he
  exact ⟨_, rfl, _, _, _, [], _, [], hW', trodAll_mk1 (shut_bool Try.underlying4 _), (trodAll_cons_mk (Below.trod laidOut (by kernel_rfl) (of_decide_eq_true (by kernel_rfl)) k0 bel lt0) trodAll_mk0), rfl, bel.frame _, fun h => by cases h⟩

theorem over : Rows.fnExactMsgOkRow.holds Try.pinned (OpenSpec.ofChange Rows.fnExactMsgOkSpec) :=
  OpenClaim.holds_of_wide 5 Try.f5 rfl rfl rfl rfl rfl rfl rfl ⟨rfl, rfl, rfl, rfl, rfl⟩ rfl rfl rfl rfl rfl (by kernel_rfl) Try.func5 (by kernel_rfl)
    (of_decide_eq_true (by kernel_rfl)) (by unfold Func.isWrapper; first | (rw [if_pos (by decide +kernel)]; kernel_rfl) | (rw [if_neg (by decide +kernel)]; exact ⟨rfl, rfl⟩))
    (fun os started H enc _ => lifted os started H enc)

theorem proved : Rows.FnExactMsgOkSaid := over
end Go.Proofs.Ytcbhpmgjmpbpmaa.fnExactMsgOk

namespace Go.Proofs.Ytcbhpmgjmpbpmaa
theorem FnExactMsgOk_holds : Rows.FnExactMsgOkSaid := fnExactMsgOk.proved
end Go.Proofs.Ytcbhpmgjmpbpmaa
