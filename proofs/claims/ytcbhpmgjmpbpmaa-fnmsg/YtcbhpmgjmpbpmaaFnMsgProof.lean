/- A drawn message is read as it was written; no condition. -/
import Derived.Test.YtcbhpmgjmpbpmaaRows
import Derived.Test.YtcbhpmgjmpbpmaaPmc
import Derived.WalkKit
import Derived.ProofKit
import Derived.OpenShut
import Derived.ShutString
import Derived.ChangeOld
import Derived.Below
import Derived.Deep.RegionWith
import Derived.Deep.RegionHeld3
namespace Go.Proofs.Ytcbhpmgjmpbpmaa.fnMsg
open Go.ChangeShapes Go.WideShapes Go.ChangeAt Go.RowKit
set_option linter.unusedVariables false
set_option linter.unusedSimpArgs false

theorem own : ownKnob Try.prog.godebug = none := by kernel_rfl
theorem laidOut : laidOutB Try.prog = true := by kernel_rfl

set_option maxRecDepth 8000 in
set_option maxHeartbeats 16000000 in
theorem walk (a0 : Option Addr) (n0 c0 : Nat) (z0 : List Int) (w : World) (w0 : Rw.IsRow .u8 w a0 n0 c0 z0) :
    Calls Try.prog 3 #[.slice a0 n0 c0] w fun e w' => e = .returned (.bool true) ∧ Below w.heap.size w w' := by
  by_cases big0 : 1048576 < n0
  · have z0 : (1048576 : Int) < (n0 : Int) := by omega
    go_enter Try.func3, Try.ntmps3
    go_wp2
    go_ret
    exact ⟨rfl, Below.refl _ _⟩
  have z0 : ¬ (1048576 : Int) < (n0 : Int) := by omega
  obtain ⟨b0, o0, l, hl, rd0⟩ := Rw.rd_of_isRow w0 (by omega)
  subst hl
  clear w0 big0
  go_enter Try.func3, Try.ntmps3
  go_upto_region 4 with (go_at_call 13; refine (Tf.draw_any _ _ _ _ l _ rd0).mono ?_; rintro e w1 ⟨⟨kd, se, xi, ⟨ep, pr, V, M, A, hh, aV, bV, oV, cV, aM, bM, oM, cM, aA, bA, oA, cA⟩, hd, H, aH, bH, oH, cH⟩, he, okm, BW⟩; simp only [Ga.Msg.vals] at he; subst he)
  clear rd0 z0
  obtain ⟨W2, hW2⟩ : ∃ W2, W2 = w1.alloc (.cells #[.int .i64 kd, .int .i64 se, .int .i64 xi, .int .i64 ep, .int .i64 pr, .slice aV V.length cV, .slice aM M.length cM, .slice aA A.length cA, .bool hd, .slice aH H.length cH] 30) := ⟨_, rfl⟩
  have b2 : Below w1.heap.size w1 W2 := by subst hW2; exact Pl.below_alloc1 _ _
  have kT : W2.heap[w1.heap.size]? = some (.cells #[.int .i64 kd, .int .i64 se, .int .i64 xi, .int .i64 ep, .int .i64 pr, .slice aV V.length cV, .slice aM M.length cM, .slice aA A.length cA, .bool hd, .slice aH H.length cH] 30 (0, 0)) := by subst hW2; exact Pl.at_new rfl
  replace okm := okm.below b2
  replace BW := Rw.next BW b2
  rw [← hW2]
  clear hW2 b2
  obtain ⟨T, hT⟩ : ∃ T, T = w1.heap.size := ⟨_, rfl⟩
  rw [← hT] at kT ⊢
  clear hT
  obtain ⟨y0, y1, y2, y3, y4, y5, y6, y7, y8, y9⟩ := Ga.ten kT
  have hI := Ja.bytesI ⟨kd, se, xi, ⟨ep, pr, V, M, A, hh, aV, bV, oV, cV, aM, bM, oM, cM, aA, bA, oA, cA⟩, hd, H, aH, bH, oH, cH⟩
  have hS := Ja.bytesSp ⟨kd, se, xi, ⟨ep, pr, V, M, A, hh, aV, bV, oV, cV, aM, bM, oM, cM, aA, bA, oA, cA⟩, hd, H, aH, bH, oH, cH⟩
  have hK := Ga.okM_spec ⟨kd, se, xi, ⟨ep, pr, V, M, A, hh, aV, bV, oV, cV, aM, bM, oM, cM, aA, bA, oA, cA⟩, hd, H, aH, bH, oH, cH⟩
  simp only [Ga.Msg.vals] at hI hS hK
  obtain ⟨x, hx⟩ : ∃ x : Ga.Said, x = Ga.Msg.said ⟨kd, se, xi, ⟨ep, pr, V, M, A, hh, aV, bV, oV, cV, aM, bM, oM, cM, aA, bA, oA, cA⟩, hd, H, aH, bH, oH, cH⟩ := ⟨_, rfl⟩
  rw [← hx] at hI hS hK
  have hz : x.2.2.2.1.2.2.2.2.2 = 0 := by rw [hx]; exact okm.z
  have hk : x.1 = kd := by rw [hx]; rfl
  clear hx
  by_cases hb : Ga.msgB x = true
  · have eW : Ja.writtenL x = Ja.msgL x := by unfold Ja.writtenL; rw [if_pos hb]
    have hR : ∀ (a : Option Addr) (b off cap : Nat) (W : World), Rw.Rd W a b off (Ja.msgL x) → ((Ja.msgL x).length = 0 ∨ b < W.heap.size) → Calls Try.prog 16 #[.slice a (Ja.msgL x).length cap] W (Wa.ResF W x 0) := fun a b off cap W h1 h2 => by
      have q := Wa.read_any a b off cap (Ja.msgL x) W h1 h2
      rw [Te.read_back x hb hz] at q
      exact q
    rw [hb, eW] at hI hS
    rw [hb] at hK
    clear hz
    go_upto_if 32 with (first
      | (go_at_call 14; refine (hI _ okm).mono ?_; rintro e w3 ⟨a3, g3, c3, rfl, wt3, _, _, _, hb⟩; replace kT := (hb.block _ (Ea.blk_lt kT)).trans kT; replace okm := okm.below hb; replace BW := Rw.next BW hb; clear y0 y1 y2 y3 y4 y5 y6 y7 y8 y9; obtain ⟨y0, y1, y2, y3, y4, y5, y6, y7, y8, y9⟩ := Ga.ten kT; have r3 := wt3.rd; clear wt3 hb)
      | (go_at_call 15; refine (hK _ okm).mono ?_; rintro e w4 ⟨rfl, hb⟩; replace kT := (hb.block _ (Ea.blk_lt kT)).trans kT; replace okm := okm.below hb; replace BW := Rw.next BW hb; clear y0 y1 y2 y3 y4 y5 y6 y7 y8 y9; obtain ⟨y0, y1, y2, y3, y4, y5, y6, y7, y8, y9⟩ := Ga.ten kT; replace r3 := r3.below hb; clear hb)
      | (go_at_call 16; refine (hR a3 g3 0 c3 _ r3 (Dr.rd_lt r3)).mono ?_; rintro e w5 ⟨⟨kd', se', xi', ⟨ep', pr', V', M', A', hh', aV', bV', oV', cV', aM', bM', oM', cM', aA', bA', oA', cA'⟩, hd', H', aH', bH', oH', cH'⟩, he, hs, okf, _, _, _, hb⟩; simp only [Ga.Msg.vals] at he; subst he; replace kT := (hb.block _ (Ea.blk_lt kT)).trans kT; replace okm := okm.below hb; replace BW := Rw.next BW hb; clear y0 y1 y2 y3 y4 y5 y6 y7 y8 y9; obtain ⟨y0, y1, y2, y3, y4, y5, y6, y7, y8, y9⟩ := Ga.ten kT; clear hb))
    obtain ⟨W6, hW6⟩ : ∃ W6, W6 = w5.alloc (.cells #[.int .i64 kd', .int .i64 se', .int .i64 xi', .int .i64 ep', .int .i64 pr', .slice aV' V'.length cV', .slice aM' M'.length cM', .slice aA' A'.length cA', .bool hd', .slice aH' H'.length cH'] 30) := ⟨_, rfl⟩
    have hb : Below w5.heap.size w5 W6 := by subst hW6; exact Pl.below_alloc1 _ _
    have kF : W6.heap[w5.heap.size]? = some (.cells #[.int .i64 kd', .int .i64 se', .int .i64 xi', .int .i64 ep', .int .i64 pr', .slice aV' V'.length cV', .slice aM' M'.length cM', .slice aA' A'.length cA', .bool hd', .slice aH' H'.length cH'] 30 (0, 0)) := by subst hW6; exact Pl.at_new rfl
    replace okf := okf.below hb
    replace kT := (hb.block _ (Ea.blk_lt kT)).trans kT
    replace okm := okm.below hb
    replace BW := Rw.next BW hb
    clear y0 y1 y2 y3 y4 y5 y6 y7 y8 y9
    obtain ⟨y0, y1, y2, y3, y4, y5, y6, y7, y8, y9⟩ := Ga.ten kT
    rw [← hW6]
    clear hW6 hb
    obtain ⟨S, hS'⟩ : ∃ S, S = w5.heap.size := ⟨_, rfl⟩
    rw [← hS'] at kF ⊢
    clear hS'
    obtain ⟨f0, f1, f2, f3, f4, f5, f6, f7, f8, f9⟩ := Ga.ten kF
    have hJ := Ja.bytesI ⟨kd', se', xi', ⟨ep', pr', V', M', A', hh', aV', bV', oV', cV', aM', bM', oM', cM', aA', bA', oA', cA'⟩, hd', H', aH', bH', oH', cH'⟩
    rw [hs, hb, eW] at hJ
    simp only [Ga.Msg.vals] at hJ
    have hk' : kd' = kd := by rw [← hk, ← hs]; rfl
    subst hk'
    clear hs hb eW hI hK hR hk
    go_wp2_with (first
      | (go_at_call 14; refine (hJ _ okf).mono ?_; rintro e w7 ⟨a7, g7, c7, rfl, wt7, _, _, _, hb⟩; replace kT := (hb.block _ (Ea.blk_lt kT)).trans kT; replace okm := okm.below hb; replace BW := Rw.next BW hb; clear y0 y1 y2 y3 y4 y5 y6 y7 y8 y9; obtain ⟨y0, y1, y2, y3, y4, y5, y6, y7, y8, y9⟩ := Ga.ten kT; replace kF := (hb.block _ (Ea.blk_lt kF)).trans kF; clear f0 f1 f2 f3 f4 f5 f6 f7 f8 f9; obtain ⟨f0, f1, f2, f3, f4, f5, f6, f7, f8, f9⟩ := Ga.ten kF; have r7 := wt7.rd; clear wt7 hb)
      | (go_at_call 17; refine (hS _ okm).mono ?_; rintro e w8 ⟨a8, g8, c8, rfl, wt8, _, _, _, hb⟩; replace kT := (hb.block _ (Ea.blk_lt kT)).trans kT; replace okm := okm.below hb; replace BW := Rw.next BW hb; clear y0 y1 y2 y3 y4 y5 y6 y7 y8 y9; obtain ⟨y0, y1, y2, y3, y4, y5, y6, y7, y8, y9⟩ := Ga.ten kT; replace kF := (hb.block _ (Ea.blk_lt kF)).trans kF; clear f0 f1 f2 f3 f4 f5 f6 f7 f8 f9; obtain ⟨f0, f1, f2, f3, f4, f5, f6, f7, f8, f9⟩ := Ga.ten kF; replace r7 := r7.below hb; have r8 := wt8.rd; have hv1 := Bk.conv_any c7 r7; have hv2 := Bk.conv_any c8 r8; clear wt8 hb))
    go_ret
    exact ⟨rfl, BW⟩
  · have hb' : Ga.msgB x = false := by simpa using hb
    have eW : Ja.writtenL x = [] := by unfold Ja.writtenL; rw [if_neg hb]
    have hR : ∀ (a : Option Addr) (b off cap : Nat) (W : World), Rw.Rd W a b off [] → (([] : List Int).length = 0 ∨ b < W.heap.size) → Calls Try.prog 16 #[.slice a ([] : List Int).length cap] W (Wa.ResF W Wa.said0 1) := fun a b off cap W h1 h2 => by
      have q := Wa.read_any a b off cap [] W h1 h2
      rw [Te.read_nil] at q
      exact q
    rw [hb', eW] at hI hS
    rw [hb'] at hK
    clear hz
    go_upto_if 32 with (first
      | (go_at_call 14; refine (hI _ okm).mono ?_; rintro e w3 ⟨a3, g3, c3, rfl, wt3, _, _, _, hb⟩; replace kT := (hb.block _ (Ea.blk_lt kT)).trans kT; replace okm := okm.below hb; replace BW := Rw.next BW hb; clear y0 y1 y2 y3 y4 y5 y6 y7 y8 y9; obtain ⟨y0, y1, y2, y3, y4, y5, y6, y7, y8, y9⟩ := Ga.ten kT; have r3 := wt3.rd; clear wt3 hb)
      | (go_at_call 15; refine (hK _ okm).mono ?_; rintro e w4 ⟨rfl, hb⟩; replace kT := (hb.block _ (Ea.blk_lt kT)).trans kT; replace okm := okm.below hb; replace BW := Rw.next BW hb; clear y0 y1 y2 y3 y4 y5 y6 y7 y8 y9; obtain ⟨y0, y1, y2, y3, y4, y5, y6, y7, y8, y9⟩ := Ga.ten kT; replace r3 := r3.below hb; clear hb)
      | (go_at_call 16; refine (hR a3 g3 0 c3 _ r3 (Dr.rd_lt r3)).mono ?_; rintro e w5 ⟨⟨kd', se', xi', ⟨ep', pr', V', M', A', hh', aV', bV', oV', cV', aM', bM', oM', cM', aA', bA', oA', cA'⟩, hd', H', aH', bH', oH', cH'⟩, he, hs, okf, _, _, _, hb⟩; simp only [Ga.Msg.vals] at he; subst he; replace kT := (hb.block _ (Ea.blk_lt kT)).trans kT; replace okm := okm.below hb; replace BW := Rw.next BW hb; clear y0 y1 y2 y3 y4 y5 y6 y7 y8 y9; obtain ⟨y0, y1, y2, y3, y4, y5, y6, y7, y8, y9⟩ := Ga.ten kT; clear hb))
    obtain ⟨W6, hW6⟩ : ∃ W6, W6 = w5.alloc (.cells #[.int .i64 kd', .int .i64 se', .int .i64 xi', .int .i64 ep', .int .i64 pr', .slice aV' V'.length cV', .slice aM' M'.length cM', .slice aA' A'.length cA', .bool hd', .slice aH' H'.length cH'] 30) := ⟨_, rfl⟩
    have hb : Below w5.heap.size w5 W6 := by subst hW6; exact Pl.below_alloc1 _ _
    have kF : W6.heap[w5.heap.size]? = some (.cells #[.int .i64 kd', .int .i64 se', .int .i64 xi', .int .i64 ep', .int .i64 pr', .slice aV' V'.length cV', .slice aM' M'.length cM', .slice aA' A'.length cA', .bool hd', .slice aH' H'.length cH'] 30 (0, 0)) := by subst hW6; exact Pl.at_new rfl
    replace okf := okf.below hb
    replace kT := (hb.block _ (Ea.blk_lt kT)).trans kT
    replace okm := okm.below hb
    replace BW := Rw.next BW hb
    clear y0 y1 y2 y3 y4 y5 y6 y7 y8 y9
    obtain ⟨y0, y1, y2, y3, y4, y5, y6, y7, y8, y9⟩ := Ga.ten kT
    rw [← hW6]
    clear hW6 hb
    obtain ⟨S, hS'⟩ : ∃ S, S = w5.heap.size := ⟨_, rfl⟩
    rw [← hS'] at kF ⊢
    clear hS'
    obtain ⟨f0, f1, f2, f3, f4, f5, f6, f7, f8, f9⟩ := Ga.ten kF
    have hk' : kd' = 0 := congrArg Prod.fst hs
    subst hk'
    go_wp2
    go_ret
    exact ⟨rfl, BW⟩

set_option maxRecDepth 100000 in
theorem lifted (os : Os) (started : os.Started) (H : Type) (enc : TypeId × Value → H) :
    ReturnsInHanded {} Try.checked os 3 .any (Rows.fnMsgSpec.pre6 enc Try.prog Try.f3 Rows.fnMsgRow.domain false) (Rows.fnMsgSpec.post enc Try.prog Try.f3 false true false false) := by
  refine returnsInHanded_of_change (C := Try.checked) own started (by kernel_rfl) Try.func3
    (ChangeSpec.witness6 (enc := enc) (C := Try.checked) false ⟨#[], #[.slice none 0 0], []⟩ 8 (by kernel_rfl) (by kernel_rfl) (by kernel_rfl) (by kernel_rfl)) ?_
  intro W base args ds gs before hval0 hW hcnd _
  have hval : ∀ (j : Nat) t v, Try.f3.params[j]? = some t → args[j]? = some v → Value.okWide Try.prog W .any base t v := hval0
  have hW' := hW
  obtain ⟨p, q, hA0, hV, rfl, hfz, hnd⟩ := hW
  have hA : DataW.TrodAll enc Try.prog W 0 (fun _ => true) true Try.f3.params.toList args.toList ds p := hA0
  rw [Try.params3] at hA hval
  obtain ⟨v0, vs0, d0, ds0, p0, q0, hargs, rfl, rfl, h0, r0⟩ := trodAll_cons hA
  obtain ⟨rfl, rfl, rfl⟩ := trodAll_nil r0
  obtain rfl : args = #[v0] := by cases args; simp_all
  obtain ⟨rfl, rfl⟩ := trodVars_none hV
  have k0 := h0
  have lt0 : ∀ x ∈ p0, x.block < W.heap.size := by obtain ⟨m, hm⟩ := k0; exact DataW.trod_lt m _ _ _ hm
  obtain ⟨a0, n0, c0, rfl⟩ := okWide_slice Try.underlying22 (hval 0 22 v0 rfl rfl)
  obtain ⟨z0, w0⟩ : ∃ zs, Rw.IsRow .u8 W a0 n0 c0 zs := by
    obtain ⟨fuel, hf⟩ := h0
    rcases open_ints Try.underlying22 Try.underlying5 (by kernel_rfl) hf with ⟨hcs, _⟩ | ⟨x, l, c, zs, hcs, _, hl, hm, hz, _, hcell, hwz⟩
    · simp [Value.cells] at hcs
      obtain ⟨rfl, rfl, rfl⟩ := hcs
      exact ⟨[], .inl ⟨rfl, rfl, rfl, rfl⟩⟩
    · simp [Value.cells] at hcs
      obtain ⟨rfl, rfl, rfl⟩ := hcs
      exact ⟨zs, .inr ⟨_, rfl, hl, hm, by simpa using hz, hcell, hwz⟩⟩
  clear hA0 hval0
  refine (walk a0 n0 c0 z0 W w0).mono fun e W' ⟨he, bel⟩ => ?_
  subst he
  exact ⟨_, rfl, _, _, _, [], _, [], hW', trodAll_mk1 (shut_bool Try.underlying4 _), (trodAll_cons_mk (Below.trod laidOut (by kernel_rfl) (of_decide_eq_true (by kernel_rfl)) k0 bel lt0) trodAll_mk0), rfl, bel.frame _, fun h => by cases h⟩

theorem over : Rows.fnMsgRow.holds Try.pinned (OpenSpec.ofChange Rows.fnMsgSpec) :=
  OpenClaim.holds_of_wide 3 Try.f3 rfl rfl rfl rfl rfl rfl rfl ⟨rfl, rfl, rfl, rfl, rfl⟩ rfl rfl rfl rfl rfl (by kernel_rfl) Try.func3 (by kernel_rfl)
    (of_decide_eq_true (by kernel_rfl)) (by unfold Func.isWrapper; first | (rw [if_pos (by decide +kernel)]; kernel_rfl) | (rw [if_neg (by decide +kernel)]; exact ⟨rfl, rfl⟩))
    (fun os started H enc _ => lifted os started H enc)

theorem proved : Rows.FnMsgSaid := over
end Go.Proofs.Ytcbhpmgjmpbpmaa.fnMsg

namespace Go.Proofs.Ytcbhpmgjmpbpmaa
theorem FnMsg_holds : Rows.FnMsgSaid := fnMsg.proved
end Go.Proofs.Ytcbhpmgjmpbpmaa
