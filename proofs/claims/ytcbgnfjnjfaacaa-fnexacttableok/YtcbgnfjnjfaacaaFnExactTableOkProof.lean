/- At every table the program and the specification answer the same whether it is right, and the argument reads as before; no condition. -/
import Derived.Test.YtcbgnfjnjfaacaaRows
import Derived.Test.YtcbgnfjnjfaacaaQf
import Derived.WalkKit
import Derived.ProofKit
import Derived.OpenShut
import Derived.ShutString
import Derived.ChangeOld
import Derived.Below
import Derived.Deep.RegionWith
import Derived.Deep.RegionHeld3
namespace Go.Proofs.Ytcbgnfjnjfaacaa.fnExactTableOk
open Go.ChangeShapes Go.WideShapes Go.ChangeAt Go.RowKit
set_option linter.unusedVariables false
set_option linter.unusedSimpArgs false

theorem own : ownKnob Try.prog.godebug = none := by kernel_rfl
theorem laidOut : laidOutB Try.prog = true := by kernel_rfl
theorem szT_big (q : Int) (a : Option Addr) (c L : Nat) (R : List Ea.Raw) (w : World) (hR : Ea.IsRow w a R) (h : L < R.length + Ea.tot R R.length) (hL : L ≤ 1048576) :
    Calls Try.prog 38 #[.agg #[.int .i64 q, .slice a R.length c], .int .i64 L] w fun e w' => e = .returned (.int .i64 (-1)) ∧ Below w.heap.size w w' := by
  have B0 := Pl.below_alloc1 w (.cells #[.int .i64 q, .slice a R.length c] 65)
  have hR' := hR.below B0
  go_enter Try.func38, Try.ntmps38
  go_wp2_with (go_at_call 108; refine (Ea.szS_big _ _ L _ _ hR' h hL).mono ?_; rintro e w1 ⟨rfl, hb⟩)
  go_ret
  exact ⟨rfl, Rw.next B0 hb⟩

set_option maxRecDepth 8000 in
set_option maxHeartbeats 16000000 in
theorem walk (q0 : Int) (a0 : Option Addr) (c0 : Nat) (R0 : List Ea.Raw) (w : World) (w0 : Ea.IsRow w a0 R0) :
    Calls Try.prog 7 #[.agg #[.int .i64 q0, .slice a0 R0.length c0]] w fun e w' => e = .returned (.bool true) ∧ Below w.heap.size w w' := by
  obtain ⟨W0, hW0⟩ : ∃ W0, W0 = w.alloc (.cells #[.int .i64 q0, .slice a0 R0.length c0] 65) := ⟨_, rfl⟩
  have B0 : Below w.heap.size w W0 := by subst hW0; exact Pl.below_alloc1 _ _
  by_cases hbig : 1048576 < R0.length + Ea.tot R0 R0.length
  · have hc := szT_big q0 a0 c0 1048576 R0 W0 (w0.below B0) hbig (Nat.le_refl _)
    go_enter Try.func7, Try.ntmps7
    go_wp2_with (go_at_call 38; rw [← hW0]; clear hW0; refine hc.mono ?_; rintro e wa ⟨rfl, hb⟩)
    go_ret
    exact ⟨rfl, Rw.next B0 hb⟩
  obtain ⟨b, off, Q, hQ, rd⟩ := Ea.rd_of_isRow w0 (by omega)
  obtain ⟨L, hL⟩ : ∃ L : Nat, R0.length + Ea.tot R0 R0.length + L = 1048576 := ⟨1048576 - (R0.length + Ea.tot R0 R0.length), by omega⟩
  have hp : ¬ ((L : Int) < 0) := by omega
  have hc := Ea.szT_at q0 a0 c0 1048576 L R0 W0 (w0.below B0) hL (Nat.le_refl _)
  have k0 : W0.heap[w.heap.size]? = some (.cells #[.int .i64 q0, .slice a0 R0.length c0] 65 (0, 0)) := by subst hW0; exact Pl.at_new rfl
  rw [← hQ] at hc hW0 k0 ⊢
  replace rd := rd.below B0
  clear hQ hL w0 hbig
  obtain ⟨R, hR⟩ := Ka.em_bool (Ka.TabP q0 (Q.map Ea.Ent.said))
  have HR : Hid (R = true ↔ Ka.TabP q0 (Q.map Ea.Ent.said)) := hR
  clear hR
  go_enter Try.func7, Try.ntmps7
  have t1 : True := trivial
  go_wp2_with (first
    | (go_at_call 38; rw [← hW0]; clear hW0; refine hc.mono ?_; rintro x wa ⟨rfl, hb⟩; replace k0 := (hb.block _ (Ea.blk_lt k0)).trans k0; replace rd := rd.below hb; replace B0 := Rw.next B0 hb; clear hb; obtain ⟨p0, p1⟩ := Pm.two k0)
    | (go_at_call 40; clear t1; refine (Ea.toT_any q0 _ _ _ _ Q _ rd).mono ?_; rintro x wa ⟨F, g, rfl, sF, hb, mF⟩; replace k0 := (hb.block _ (Ea.blk_lt k0)).trans k0; replace rd := rd.below hb; replace B0 := Rw.next B0 hb; clear hb p0 p1; obtain ⟨p0, p1⟩ := Pm.two k0)
    | (go_at_call 39; refine (Ka.tabS q0 _ _ _ _ F _ mF.rd R (by rw [sF]; exact HR.out)).mono ?_; rintro x wa ⟨rfl, hb⟩; replace k0 := (hb.block _ (Ea.blk_lt k0)).trans k0; replace rd := rd.below hb; replace B0 := Rw.next B0 hb; clear hb p0 p1 mF sF; obtain ⟨p0, p1⟩ := Pm.two k0))
  have t2 : True := trivial
  go_wp2_with (go_at_call 40; clear t2; refine (Ea.toT_any q0 _ _ _ _ Q _ rd).mono ?_; rintro x wc ⟨G, g, rfl, sG, hb, mG⟩; replace k0 := (hb.block _ (Ea.blk_lt k0)).trans k0; replace rd := rd.below hb; replace B0 := Rw.next B0 hb; clear hb p0 p1; obtain ⟨p0, p1⟩ := Pm.two k0)
  obtain ⟨W2, hW2⟩ : ∃ W2, W2 = wc.alloc (.cells #[.int .i64 q0, .slice (some ⟨g, 0, none⟩) G.length G.length] 38) := ⟨_, rfl⟩
  have k1 : W2.heap[wc.heap.size]? = some (.cells #[.int .i64 q0, .slice (some ⟨g, 0, none⟩) G.length G.length] 38 (0, 0)) := by subst hW2; exact Pl.at_new rfl
  have hb : Below wc.heap.size wc W2 := by subst hW2; exact Pl.below_alloc1 _ _
  replace k0 := (hb.block _ (Ea.blk_lt k0)).trans k0
  replace rd := rd.below hb
  replace mG := mG.below hb
  replace B0 := Rw.next B0 hb
  clear hb p0 p1
  obtain ⟨p0, p1⟩ := Pm.two k0
  go_wp2_with (go_at_call 26; rw [← hW2]; clear hW2; refine (Ka.tabI q0 _ _ _ _ G _ mG.rd R (by rw [sG]; exact HR.out)).mono ?_; rintro x wd ⟨rfl, hb⟩; replace k0 := (hb.block _ (Ea.blk_lt k0)).trans k0; replace rd := rd.below hb; replace B0 := Rw.next B0 hb; replace k1 := (hb.block _ (Ea.blk_lt k1)).trans k1; replace mG := mG.below hb; clear hb p0 p1; obtain ⟨p0, p1⟩ := Pm.two k0; obtain ⟨r0, r1⟩ := Pm.two k1)
  go_region_held3 (fun w' => w'.cell? ⟨wc.heap.size, 0, none⟩ = some (.int .i64 q0) ∧ w'.cell? ⟨wc.heap.size, 1, none⟩ = some (.slice (some ⟨g, 0, none⟩) G.length G.length) ∧ w'.cell? ⟨w.heap.size, 0, none⟩ = some (.int .i64 q0) ∧ w'.cell? ⟨w.heap.size, 1, none⟩ = some (.slice a0 Q.length c0)) (go_keep) (first
    | (go_at_call 40; refine (Ea.toT_any q0 _ _ _ _ Q _ (rd.below ((Below.refl _ _).drew))).mono ?_; rintro x we ⟨F, gF, rfl, sF, hb0, mF⟩; have hb := Rw.next ((Below.refl _ _).drew) hb0; clear p0 p1 r0 r1; replace k0 := (hb.block _ (Ea.blk_lt k0)).trans k0; replace k1 := (hb.block _ (Ea.blk_lt k1)).trans k1; replace mG := mG.below hb; replace B0 := Rw.next B0 hb; clear hb hb0; obtain ⟨p0, p1⟩ := Pm.two k0; obtain ⟨r0, r1⟩ := Pm.two k1)
    | (go_at_call 41; refine (Ea.eqT_same q0 _ _ _ _ _ _ _ _ G F _ mG.rd mF.rd (sG.trans sF.symm)).mono ?_; rintro x wf ⟨rfl, hb⟩; clear p0 p1 r0 r1; replace k0 := (hb.block _ (Ea.blk_lt k0)).trans k0; replace k1 := (hb.block _ (Ea.blk_lt k1)).trans k1; replace B0 := Rw.next B0 hb; clear hb; obtain ⟨p0, p1⟩ := Pm.two k0; obtain ⟨r0, r1⟩ := Pm.two k1))
  go_wp2
  go_ret
  exact ⟨rfl, B0⟩

set_option maxRecDepth 100000 in
theorem lifted (os : Os) (started : os.Started) (H : Type) (enc : TypeId × Value → H) :
    ReturnsInHanded {} Try.checked os 7 .any (Rows.fnExactTableOkSpec.pre6 enc Try.prog Try.f7 Rows.fnExactTableOkRow.domain false) (Rows.fnExactTableOkSpec.post enc Try.prog Try.f7 false true false false) := by
  refine returnsInHanded_of_change (C := Try.checked) own started (by kernel_rfl) Try.func7
    (ChangeSpec.witness6 (enc := enc) (C := Try.checked) false ⟨#[], #[.agg #[.int .i64 0, .slice none 0 0]], []⟩ 8 (by kernel_rfl) (by kernel_rfl) (by kernel_rfl) (by kernel_rfl)) ?_
  intro W base args ds gs before hval0 hW hcnd _
  have hval : ∀ (j : Nat) t v, Try.f7.params[j]? = some t → args[j]? = some v → Value.okWide Try.prog W .any base t v := hval0
  have hW' := hW
  obtain ⟨p, q, hA0, hV, rfl, hfz, hnd⟩ := hW
  have hA : DataW.TrodAll enc Try.prog W 0 (fun _ => true) true Try.f7.params.toList args.toList ds p := hA0
  rw [Try.params7] at hA hval
  obtain ⟨v0, vs0, d0, ds0, p0, q0, hargs, rfl, rfl, h0, r0⟩ := trodAll_cons hA
  obtain ⟨rfl, rfl, rfl⟩ := trodAll_nil r0
  obtain rfl : args = #[v0] := by cases args; simp_all
  obtain ⟨rfl, rfl⟩ := trodVars_none hV
  have k0 := h0
  have lt0 : ∀ x ∈ p0, x.block < W.heap.size := by obtain ⟨m, hm⟩ := k0; exact DataW.trod_lt m _ _ _ hm
  obtain ⟨q0, a0, c0, R0, rfl, w0⟩ := Ea.open_table (hval 0 65 v0 rfl rfl) h0
  clear hA0 hval0
  refine (walk q0 a0 c0 R0 W w0).mono fun e W' ⟨he, bel⟩ => ?_
  subst he
  exact ⟨_, rfl, _, _, _, [], _, [], hW', trodAll_mk1 (shut_bool Try.underlying4 _), (trodAll_cons_mk (Below.trod laidOut (by kernel_rfl) (of_decide_eq_true (by kernel_rfl)) k0 bel lt0) trodAll_mk0), rfl, bel.frame _, fun h => by cases h⟩

theorem over : Rows.fnExactTableOkRow.holds Try.pinned (OpenSpec.ofChange Rows.fnExactTableOkSpec) :=
  OpenClaim.holds_of_wide 7 Try.f7 rfl rfl rfl rfl rfl rfl rfl ⟨rfl, rfl, rfl, rfl, rfl⟩ rfl rfl rfl rfl rfl (by kernel_rfl) Try.func7 (by kernel_rfl)
    (of_decide_eq_true (by kernel_rfl)) (by unfold Func.isWrapper; first | (rw [if_pos (by decide +kernel)]; kernel_rfl) | (rw [if_neg (by decide +kernel)]; exact ⟨rfl, rfl⟩))
    (fun os started H enc _ => lifted os started H enc)

theorem proved : Rows.FnExactTableOkSaid := over
end Go.Proofs.Ytcbgnfjnjfaacaa.fnExactTableOk

namespace Go.Proofs.Ytcbgnfjnjfaacaa
theorem FnExactTableOk_holds : Rows.FnExactTableOkSaid := fnExactTableOk.proved
end Go.Proofs.Ytcbgnfjnjfaacaa
