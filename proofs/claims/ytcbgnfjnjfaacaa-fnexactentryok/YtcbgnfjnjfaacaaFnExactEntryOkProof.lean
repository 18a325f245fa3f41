/- At every entry the program and the specification answer the same whether it is right, and the argument reads as before; no condition. -/
import Derived.Test.YtcbgnfjnjfaacaaRows
import Derived.Test.YtcbgnfjnjfaacaaEg
import Derived.WalkKit
import Derived.ProofKit
import Derived.OpenShut
import Derived.ShutString
import Derived.ChangeOld
import Derived.Below
import Derived.Deep.RegionWith
import Derived.Deep.RegionHeld3
namespace Go.Proofs.Ytcbgnfjnjfaacaa.fnExactEntryOk
open Go.ChangeShapes Go.WideShapes Go.ChangeAt Go.RowKit
set_option linter.unusedVariables false
set_option linter.unusedSimpArgs false

theorem own : ownKnob Try.prog.godebug = none := by kernel_rfl
theorem laidOut : laidOutB Try.prog = true := by kernel_rfl

set_option maxRecDepth 8000 in
set_option maxHeartbeats 16000000 in
theorem walk (r0 : Ea.Raw) (w : World) (w0 : r0.Is w) :
    Calls Try.prog 6 #[.agg r0.vals] w fun e w' => e = .returned (.bool true) ∧ Below w.heap.size w w' := by
  have mx := w0.max
  obtain ⟨W0, hW0⟩ : ∃ W0, W0 = w.alloc (.cells r0.vals 57) := ⟨_, rfl⟩
  have B0 : Below w.heap.size w W0 := by subst hW0; exact Pl.below_alloc1 _ _
  by_cases hbig : 1048576 < r0.len
  · have hc := Ea.szE_big r0 1048576 W0 hbig (Nat.le_refl _) mx
    simp only [Ea.Raw.vals] at hW0 hc ⊢
    go_enter Try.func6, Try.ntmps6
    go_wp2_with (go_at_call 33; rw [← hW0]; clear hW0; refine hc.mono ?_; rintro e wa ⟨rfl, hb⟩)
    go_ret
    exact ⟨rfl, Rw.next B0 hb⟩
  obtain ⟨e, he, ok⟩ := Ea.ent_of_raw w0 (by omega)
  obtain ⟨L, hL⟩ : ∃ L : Nat, r0.len + L = 1048576 := ⟨1048576 - r0.len, by omega⟩
  have hp : ¬ ((L : Int) < 0) := by omega
  have hc := Ea.szE_at r0 1048576 L W0 hL (Nat.le_refl _)
  rw [← he] at hc hW0 ⊢
  have k0 : W0.heap[w.heap.size]? = some (.cells #[.int .i64 e.ep, .int .i64 e.pr, .slice e.aV e.V.length e.cV, .slice e.aM e.M.length e.cM, .slice e.aA e.A.length e.cA, .int .i64 e.h] 57 (0, 0)) := by subst hW0; exact Pl.at_new rfl
  clear he hL mx w0 hbig
  replace ok := ok.below B0
  have hS := Ea.okE_spec
  have hI := Ea.okE_impl
  have hT := Ea.toE_any
  have hQ := Ea.eqE_same
  simp only [Ea.ent_vals] at hc hS hI hT hQ hW0 ⊢
  generalize hR : Ea.enB e.said = R
  have HR : Hid (Ea.enB e.said = R) := hR
  clear hR
  go_enter Try.func6, Try.ntmps6
  have t1 : True := trivial
  go_wp2_with (first
    | (go_at_call 33; rw [← hW0]; clear hW0; refine hc.mono ?_; rintro x wa ⟨rfl, hb⟩; replace k0 := (hb.block _ (Ea.blk_lt k0)).trans k0; replace ok := ok.below hb; replace B0 := Rw.next B0 hb; clear hb; obtain ⟨p0, p1, p2, p3, p4, p5⟩ := Ea.six k0)
    | (go_at_call 35; clear t1; refine (hT e _ ok).mono ?_; rintro x wa ⟨f, rfl, sf, hb, hf⟩; replace k0 := (hb.block _ (Ea.blk_lt k0)).trans k0; replace ok := ok.below hb; replace B0 := Rw.next B0 hb; clear hb p0 p1 p2 p3 p4 p5; obtain ⟨p0, p1, p2, p3, p4, p5⟩ := Ea.six k0)
    | (go_at_call 34; refine (hS f _ hf.ok).mono ?_; rw [sf, HR.out]; rintro x wa ⟨rfl, hb⟩; replace k0 := (hb.block _ (Ea.blk_lt k0)).trans k0; replace ok := ok.below hb; replace B0 := Rw.next B0 hb; clear hb p0 p1 p2 p3 p4 p5 hf sf; obtain ⟨p0, p1, p2, p3, p4, p5⟩ := Ea.six k0))
  have t2 : True := trivial
  go_wp2_with (go_at_call 35; clear t2; refine (hT e _ ok).mono ?_; rintro x wc ⟨g, rfl, sg, hb, hg⟩; replace k0 := (hb.block _ (Ea.blk_lt k0)).trans k0; replace ok := ok.below hb; replace B0 := Rw.next B0 hb; clear hb p0 p1 p2 p3 p4 p5; obtain ⟨p0, p1, p2, p3, p4, p5⟩ := Ea.six k0)
  obtain ⟨W2, hW2⟩ : ∃ W2, W2 = wc.alloc (.cells #[.int .i64 g.ep, .int .i64 g.pr, .slice g.aV g.V.length g.cV, .slice g.aM g.M.length g.cM, .slice g.aA g.A.length g.cA, .int .i64 g.h] 41) := ⟨_, rfl⟩
  have k1 : W2.heap[wc.heap.size]? = some (.cells #[.int .i64 g.ep, .int .i64 g.pr, .slice g.aV g.V.length g.cV, .slice g.aM g.M.length g.cM, .slice g.aA g.A.length g.cA, .int .i64 g.h] 41 (0, 0)) := by subst hW2; exact Pl.at_new rfl
  have hb : Below wc.heap.size wc W2 := by subst hW2; exact Pl.below_alloc1 _ _
  replace k0 := (hb.block _ (Ea.blk_lt k0)).trans k0
  replace ok := ok.below hb
  replace hg := hg.below hb
  replace B0 := Rw.next B0 hb
  clear hb p0 p1 p2 p3 p4 p5
  obtain ⟨p0, p1, p2, p3, p4, p5⟩ := Ea.six k0
  go_wp2_with (go_at_call 36; rw [← hW2]; clear hW2; refine (hI g _ hg.ok).mono ?_; rw [sg, HR.out]; rintro x wd ⟨rfl, hb⟩; replace k0 := (hb.block _ (Ea.blk_lt k0)).trans k0; replace k1 := (hb.block _ (Ea.blk_lt k1)).trans k1; replace ok := ok.below hb; replace hg := hg.below hb; replace B0 := Rw.next B0 hb; clear hb p0 p1 p2 p3 p4 p5; obtain ⟨p0, p1, p2, p3, p4, p5⟩ := Ea.six k0; obtain ⟨q0, q1, q2, q3, q4, q5⟩ := Ea.six k1)
  go_region_held3 (fun w' => w'.cell? ⟨wc.heap.size, 0, none⟩ = some (.int .i64 g.ep) ∧ w'.cell? ⟨wc.heap.size, 1, none⟩ = some (.int .i64 g.pr) ∧ w'.cell? ⟨wc.heap.size, 2, none⟩ = some (.slice g.aV g.V.length g.cV) ∧ w'.cell? ⟨wc.heap.size, 3, none⟩ = some (.slice g.aM g.M.length g.cM) ∧ w'.cell? ⟨wc.heap.size, 4, none⟩ = some (.slice g.aA g.A.length g.cA) ∧ w'.cell? ⟨wc.heap.size, 5, none⟩ = some (.int .i64 g.h) ∧ w'.cell? ⟨w.heap.size, 0, none⟩ = some (.int .i64 e.ep) ∧ w'.cell? ⟨w.heap.size, 1, none⟩ = some (.int .i64 e.pr) ∧ w'.cell? ⟨w.heap.size, 2, none⟩ = some (.slice e.aV e.V.length e.cV) ∧ w'.cell? ⟨w.heap.size, 3, none⟩ = some (.slice e.aM e.M.length e.cM) ∧ w'.cell? ⟨w.heap.size, 4, none⟩ = some (.slice e.aA e.A.length e.cA) ∧ w'.cell? ⟨w.heap.size, 5, none⟩ = some (.int .i64 e.h)) (go_keep) (first
    | (go_at_call 35; refine (hT e _ (ok.below ((Below.refl _ _).drew))).mono ?_; rintro x we ⟨f, rfl, sf, hb0, hf⟩; have hb := Rw.next ((Below.refl _ _).drew) hb0; clear p0 p1 p2 p3 p4 p5 q0 q1 q2 q3 q4 q5; replace k0 := (hb.block _ (Ea.blk_lt k0)).trans k0; replace k1 := (hb.block _ (Ea.blk_lt k1)).trans k1; replace hg := hg.below hb; replace B0 := Rw.next B0 hb; clear hb hb0; obtain ⟨p0, p1, p2, p3, p4, p5⟩ := Ea.six k0; obtain ⟨q0, q1, q2, q3, q4, q5⟩ := Ea.six k1)
    | (go_at_call 37; refine (hQ g f _ hg.ok hf.ok (sg.trans sf.symm)).mono ?_; rintro x wf ⟨rfl, hb⟩; clear p0 p1 p2 p3 p4 p5 q0 q1 q2 q3 q4 q5; replace k0 := (hb.block _ (Ea.blk_lt k0)).trans k0; replace k1 := (hb.block _ (Ea.blk_lt k1)).trans k1; replace B0 := Rw.next B0 hb; clear hb; obtain ⟨p0, p1, p2, p3, p4, p5⟩ := Ea.six k0; obtain ⟨q0, q1, q2, q3, q4, q5⟩ := Ea.six k1))
  go_wp2
  go_ret
  exact ⟨rfl, B0⟩

set_option maxRecDepth 100000 in
theorem lifted (os : Os) (started : os.Started) (H : Type) (enc : TypeId × Value → H) :
    ReturnsInHanded {} Try.checked os 6 .any (Rows.fnExactEntryOkSpec.pre6 enc Try.prog Try.f6 Rows.fnExactEntryOkRow.domain false) (Rows.fnExactEntryOkSpec.post enc Try.prog Try.f6 false true false false) := by
  refine returnsInHanded_of_change (C := Try.checked) own started (by kernel_rfl) Try.func6
    (ChangeSpec.witness6 (enc := enc) (C := Try.checked) false ⟨#[], #[.agg #[.int .i64 0, .int .i64 0, .slice none 0 0, .slice none 0 0, .slice none 0 0, .int .i64 0]], []⟩ 8 (by kernel_rfl) (by kernel_rfl) (by kernel_rfl) (by kernel_rfl)) ?_
  intro W base args ds gs before hval0 hW hcnd _
  have hval : ∀ (j : Nat) t v, Try.f6.params[j]? = some t → args[j]? = some v → Value.okWide Try.prog W .any base t v := hval0
  have hW' := hW
  obtain ⟨p, q, hA0, hV, rfl, hfz, hnd⟩ := hW
  have hA : DataW.TrodAll enc Try.prog W 0 (fun _ => true) true Try.f6.params.toList args.toList ds p := hA0
  rw [Try.params6] at hA hval
  obtain ⟨v0, vs0, d0, ds0, p0, q0, hargs, rfl, rfl, h0, r0⟩ := trodAll_cons hA
  obtain ⟨rfl, rfl, rfl⟩ := trodAll_nil r0
  obtain rfl : args = #[v0] := by cases args; simp_all
  obtain ⟨rfl, rfl⟩ := trodVars_none hV
  have k0 := h0
  have lt0 : ∀ x ∈ p0, x.block < W.heap.size := by obtain ⟨m, hm⟩ := k0; exact DataW.trod_lt m _ _ _ hm
  obtain ⟨r0, rfl, w0⟩ := Ea.open_entry (hval 0 57 v0 rfl rfl) h0
  clear hA0 hval0
  refine (walk r0 W w0).mono fun e W' ⟨he, bel⟩ => ?_
  subst he
  exact ⟨_, rfl, _, _, _, [], _, [], hW', trodAll_mk1 (shut_bool Try.underlying4 _), (trodAll_cons_mk (Below.trod laidOut (by kernel_rfl) (of_decide_eq_true (by kernel_rfl)) k0 bel lt0) trodAll_mk0), rfl, bel.frame _, fun h => by cases h⟩

theorem over : Rows.fnExactEntryOkRow.holds Try.pinned (OpenSpec.ofChange Rows.fnExactEntryOkSpec) :=
  OpenClaim.holds_of_wide 6 Try.f6 rfl rfl rfl rfl rfl rfl rfl ⟨rfl, rfl, rfl, rfl, rfl⟩ rfl rfl rfl rfl rfl (by kernel_rfl) Try.func6 (by kernel_rfl)
    (of_decide_eq_true (by kernel_rfl)) (by unfold Func.isWrapper; first | (rw [if_pos (by decide +kernel)]; kernel_rfl) | (rw [if_neg (by decide +kernel)]; exact ⟨rfl, rfl⟩))
    (fun os started H enc _ => lifted os started H enc)

theorem proved : Rows.FnExactEntryOkSaid := over
end Go.Proofs.Ytcbgnfjnjfaacaa.fnExactEntryOk

namespace Go.Proofs.Ytcbgnfjnjfaacaa
theorem FnExactEntryOk_holds : Rows.FnExactEntryOkSaid := fnExactEntryOk.proved
end Go.Proofs.Ytcbgnfjnjfaacaa
