/- For every inner datagram the law FnExactUdpBytes returns true and leaves its argument alone: the program writes each one as the specification does, into memory of its own; no condition. -/
import Derived.Test.YtjbjlmaeaajlhaaRows
import Derived.Test.YtjbjlmaeaajlhaaUl
import Derived.Test.YtjbjlmaeaajlhaaUb
import Derived.WalkKit
import Derived.ProofKit
import Derived.OpenShut
import Derived.ShutString
import Derived.ChangeOld
import Derived.Below
import Derived.Deep.RegionWith
import Derived.Deep.RegionHeld3
namespace Go.Proofs.Ytjbjlmaeaajlhaa.fnExactUdpBytes
open Go.ChangeShapes Go.WideShapes Go.ChangeAt Go.RowKit
set_option linter.unusedVariables false

theorem own : ownKnob Try.prog.godebug = none := by kernel_rfl
theorem laidOut : laidOutB Try.prog = true := by kernel_rfl

set_option maxHeartbeats 4000000 in
theorem walk (d s : Int) (a0 : Option Addr) (len0 cap0 : Nat) (z0 : List Int) (w : World) (w0 : Rw.IsRow .u8 w a0 len0 cap0 z0) :
    Calls Try.prog 8 #[.agg #[.int .i64 d, .int .i64 s, .slice a0 len0 cap0]] w fun e w' => e = .returned (.bool true) ∧ Below w.heap.size w w' := by
  by_cases hbig : 1048576 < len0
  · have hm := Pf.isRow_max w0
    go_enter Try.func8, Try.ntmps8
    go_wp2_with (go_at_call 29; refine (Ul.sz_big _ _ _ _ _ _ hbig hm).mono ?_; rintro e wa ⟨rfl, hba⟩)
    go_ret
    exact ⟨rfl, Rw.next (Pl.below_alloc1 _ _) hba⟩
  · obtain ⟨b, off, l, hl, hr⟩ := Rw.rd_of_isRow w0 (by omega)
    subst hl
    clear w0
    obtain ⟨OK, L, hI, hS⟩ := Ub.bytes d s l
    have HI : Hid (∀ a b off cap w, Rw.Rd w a b off l → Calls Try.prog 35 #[.agg #[.int .i64 d, .int .i64 s, .slice a l.length cap]] w (Pb.Res w OK L)) := hI
    have HS : Hid (∀ a b off cap w, Rw.Rd w a b off l → Calls Try.prog 34 #[.agg #[.int .i64 d, .int .i64 s, .slice a l.length cap]] w (Pb.Res w OK L)) := hS
    clear hI hS
    have hsm : l.length ≤ 1048576 := by omega
    have h0 : ¬ (1048576 - (l.length : Int) < 0) := by omega
    have hltb := Lw.rd_lt hr
    obtain ⟨W0, hW0⟩ : ∃ W0, W0 = w.alloc (.cells #[.int .i64 d, .int .i64 s, .slice a0 l.length cap0] 43) := ⟨_, rfl⟩
    have B : Below w.heap.size w W0 := by subst hW0; exact Pl.below_alloc1 _ _
    have k : W0.heap[w.heap.size]? = some (.cells #[.int .i64 d, .int .i64 s, .slice a0 l.length cap0] 43 (0, 0)) := by subst hW0; exact Pl.at_new rfl
    have z : w.heap.size < W0.heap.size := by subst hW0; simp
    replace hr := hr.below B
    go_enter Try.func8, Try.ntmps8
    go_wp2_with (go_at_call 29; rw [← hW0]; refine (Ul.sz_small _ _ _ _ _ _ hsm).mono ?_; rintro e wa ⟨rfl, hb⟩; replace B := Rw.next B hb; replace k := (hb.block _ z).trans k; replace z := Nat.lt_of_lt_of_le z hb.size; replace hr := hr.below hb; clear hb; obtain ⟨c0, c1, c2⟩ := Ul.three k)
    go_wp2_with (go_at_call 31; refine (Ul.toUdp_any _ _ _ _ _ _ _ _ hr).mono ?_; rintro e wb ⟨g1, rfl, hb, hg1, hm1⟩; clear c0 c1 c2; replace B := Rw.next B hb; replace k := (hb.block _ z).trans k; replace z := Nat.lt_of_lt_of_le z hb.size; replace hr := hr.below hb; clear hb; obtain ⟨c0, c1, c2⟩ := Ul.three k; have zw := z)
    go_wp2_with (go_at_call 34; refine (HS.out _ _ _ _ _ hm1.rd).mono ?_; rintro e wc ⟨aS, gS, cS, rfl, hwS, hgS, hb⟩; clear c0 c1 c2; replace B := Rw.next B hb; replace k := (hb.block _ z).trans k; replace z := Nat.lt_of_lt_of_le z hb.size; replace hr := hr.below hb; have sz1 := hb.size; have ltS := Put.wt_lt hwS; clear hb; obtain ⟨c0, c1, c2⟩ := Ul.three k)
    clear hm1
    go_wp2_with (go_at_call 31; refine (Ul.toUdp_any _ _ _ _ _ _ _ _ hr).mono ?_; rintro e wd ⟨gX, rfl, hb, hgX, hmX⟩; have sz2 := hb.size; clear c0 c1 c2; replace B := Rw.next B hb; replace k := (hb.block _ z).trans k; replace z := Nat.lt_of_lt_of_le z hb.size; replace hr := hr.below hb; replace hwS := hwS.below hb; clear hb; have ltX := hmX.row.lt; have BX := Pl.below_alloc1 wd (.cells #[.int .i64 d, .int .i64 s, .slice (some ⟨gX, 0, none⟩) l.length l.length] 46); replace B := Rw.next B BX; replace k := (BX.block _ z).trans k; replace z := Nat.lt_of_lt_of_le z BX.size; replace hr := hr.below BX; replace hwS := hwS.below BX; replace hmX := hmX.below BX; have kX : (wd.alloc (.cells #[.int .i64 d, .int .i64 s, .slice (some ⟨gX, 0, none⟩) l.length l.length] 46)).heap[wd.heap.size]? = some (.cells #[.int .i64 d, .int .i64 s, .slice (some ⟨gX, 0, none⟩) l.length l.length] 46 (0, 0)) := Pl.at_new rfl; have zX : wd.heap.size < (wd.alloc (.cells #[.int .i64 d, .int .i64 s, .slice (some ⟨gX, 0, none⟩) l.length l.length] 46)).heap.size := (by simp); clear BX; obtain ⟨c0, c1, c2⟩ := Ul.three k; obtain ⟨x0, x1, x2⟩ := Ul.three kX)
    go_wp2_with (go_at_call 35; refine (HI.out _ _ _ _ _ hmX.rd).mono ?_; rintro e we ⟨aG, gG, cG, rfl, hwG, hgG, hb⟩; have sz3 := hb.size; clear c0 c1 c2 x0 x1 x2; replace B := Rw.next B hb; replace k := (hb.block _ z).trans k; replace z := Nat.lt_of_lt_of_le z hb.size; replace hr := hr.below hb; replace hwS := hwS.below hb; replace hmX := hmX.below hb; replace kX := (hb.block _ zX).trans kX; replace zX := Nat.lt_of_lt_of_le zX hb.size; clear hb; have ltG := Put.wt_lt hwG; obtain ⟨c0, c1, c2⟩ := Ul.three k; obtain ⟨x0, x1, x2⟩ := Ul.three kX)
    go_wp2_with (go_at_call 19; refine (Rw.eqByteS_any _ _ _ _ _ _ _ _ _ _ _ hwG.rd hwS.rd).mono ?_; rw [decide_eq_true rfl]; rintro e wf ⟨rfl, hb⟩; clear c0 c1 c2 x0 x1 x2; replace B := Rw.next B hb; replace k := (hb.block _ z).trans k; replace z := Nat.lt_of_lt_of_le z hb.size; replace hr := hr.below hb; replace hwS := hwS.below hb; replace hmX := hmX.below hb; replace kX := (hb.block _ zX).trans kX; replace zX := Nat.lt_of_lt_of_le zX hb.size; replace hwG := hwG.below hb; clear hb; obtain ⟨c0, c1, c2⟩ := Ul.three k; obtain ⟨x0, x1, x2⟩ := Ul.three kX)
    go_region_held3 (fun w' => w'.cell? ⟨wd.heap.size, 0, none⟩ = some (.int .i64 d) ∧ w'.cell? ⟨wd.heap.size, 1, none⟩ = some (.int .i64 s) ∧ w'.cell? ⟨wd.heap.size, 2, none⟩ = some (.slice (some ⟨gX, 0, none⟩) l.length l.length) ∧ w'.cell? ⟨w.heap.size, 0, none⟩ = some (.int .i64 d) ∧ w'.cell? ⟨w.heap.size, 1, none⟩ = some (.int .i64 s) ∧ w'.cell? ⟨w.heap.size, 2, none⟩ = some (.slice a0 l.length cap0)) (go_keep) (first | (go_at_call 31; refine (Ul.toUdp_any _ _ _ _ _ _ _ _ (hr.below ((Below.refl _ _).drew))).mono ?_; rintro e wg ⟨gY, rfl, hb0, hgY, hmY⟩; have hb := Rw.next ((Below.refl _ _).drew) hb0; clear c0 c1 c2 x0 x1 x2; replace B := Rw.next B hb; replace k := (hb.block _ z).trans k; replace z := Nat.lt_of_lt_of_le z hb.size; replace hr := hr.below hb; replace hwS := hwS.below hb; replace hmX := hmX.below hb; replace kX := (hb.block _ zX).trans kX; replace zX := Nat.lt_of_lt_of_le zX hb.size; replace hwG := hwG.below hb; clear hb hb0; obtain ⟨c0, c1, c2⟩ := Ul.three k; obtain ⟨x0, x1, x2⟩ := Ul.three kX) | (go_at_call 33; refine (Ul.eqUdp_same _ _ _ _ _ _ _ _ _ _ l _ hmX.rd hmY.rd).mono ?_; rintro e wh ⟨rfl, hb⟩; have sz5 := hb.size; clear c0 c1 c2 x0 x1 x2; replace B := Rw.next B hb; replace k := (hb.block _ z).trans k; replace z := Nat.lt_of_lt_of_le z hb.size; replace hr := hr.below hb; replace hwS := hwS.below hb; replace hmX := hmX.below hb; replace kX := (hb.block _ zX).trans kX; replace zX := Nat.lt_of_lt_of_le zX hb.size; replace hwG := hwG.below hb; replace hmY := hmY.below hb; clear hb; obtain ⟨c0, c1, c2⟩ := Ul.three k; obtain ⟨x0, x1, x2⟩ := Ul.three kX))
    have hk0 : ¬ (1 + (l.length : Int) < 0) := by omega
    have hq0 : ¬ (1 + (L.length : Int) < 0) := by omega
    simp at hgG sz3
    go_wp2_with (go_at_call 36; refine (Ul.markU_any _ _ _ _ _ _ _ (Mk.mine_wt hmX)).mono ?_; rintro e wi ⟨rfl, ho, h00, hwXm⟩; clear hwXm hmX; clear c0 c1 c2 x0 x1 x2; replace B := Lw.below_of_only B B.size ho h00 (by omega); replace k := (Lw.k_only ho h00 z (by omega)).trans k; replace z := Nat.lt_of_lt_of_le z ho.size; replace hr := Lw.rd_onlyN ho h00 hr (by omega); replace hwS := Lw.wt_onlyN ho h00 hwS (by omega); replace kX := (Lw.k_only ho h00 zX (by omega)).trans kX; replace zX := Nat.lt_of_lt_of_le zX ho.size; replace hwG := Lw.wt_onlyN ho h00 hwG (by omega); clear ho h00; obtain ⟨c0, c1, c2⟩ := Ul.three k; obtain ⟨x0, x1, x2⟩ := Ul.three kX)
    go_wp2_with (go_at_call 19; refine (Rw.eqByteS_any _ _ _ _ _ _ _ _ _ _ _ hwG.rd hwS.rd).mono ?_; rw [decide_eq_true rfl]; rintro e wj ⟨rfl, hb⟩; clear c0 c1 c2 x0 x1 x2; replace B := Rw.next B hb; replace k := (hb.block _ z).trans k; replace z := Nat.lt_of_lt_of_le z hb.size; replace hr := hr.below hb; replace hwS := hwS.below hb; replace kX := (hb.block _ zX).trans kX; replace zX := Nat.lt_of_lt_of_le zX hb.size; replace hwG := hwG.below hb; clear hb; obtain ⟨c0, c1, c2⟩ := Ul.three k; obtain ⟨x0, x1, x2⟩ := Ul.three kX)
    go_wp2_with (go_at_call 21; refine (Pb.markB _ _ _ _ _ hwG).mono ?_; rintro e wk ⟨rfl, ho, h00, hwM⟩; clear c0 c1 c2 x0 x1 x2; replace B := Lw.below_of_only B B.size ho h00 (by omega); replace k := (Lw.k_only ho h00 z (by omega)).trans k; replace z := Nat.lt_of_lt_of_le z ho.size; replace hr := Lw.rd_onlyN ho h00 hr (by omega); replace hwS := Lw.wt_onlyN ho h00 hwS (by omega); replace kX := (Lw.k_only ho h00 zX (by omega)).trans kX; replace zX := Nat.lt_of_lt_of_le zX ho.size; clear ho h00 hwG; obtain ⟨c0, c1, c2⟩ := Ul.three k; obtain ⟨x0, x1, x2⟩ := Ul.three kX)
    go_wp2_with (first | (go_at_call 22; refine (Mk.held_any _ _ _ _ _ hwM).mono ?_; rintro e wl ⟨rfl, hwl⟩; replace hwl := hwl.symm; subst hwl))
    go_wp2_with (go_at_call 31; refine (Ul.toUdp_any _ _ _ _ _ _ _ _ hr).mono ?_; rintro e wm ⟨gH1, rfl, hb, hgH1, hmH⟩; clear c0 c1 c2 x0 x1 x2; replace B := Rw.next B hb; replace k := (hb.block _ z).trans k; replace z := Nat.lt_of_lt_of_le z hb.size; replace hr := hr.below hb; replace hwS := hwS.below hb; replace kX := (hb.block _ zX).trans kX; replace zX := Nat.lt_of_lt_of_le zX hb.size; replace hwM := hwM.below hb; clear hb; obtain ⟨c0, c1, c2⟩ := Ul.three k; obtain ⟨x0, x1, x2⟩ := Ul.three kX)
    go_wp2_with (go_at_call 35; refine (HI.out _ _ _ _ _ hmH.rd).mono ?_; rintro e wn ⟨aH, gH, cH, rfl, hwH, hgH, hb⟩; clear c0 c1 c2 x0 x1 x2; replace B := Rw.next B hb; replace k := (hb.block _ z).trans k; replace z := Nat.lt_of_lt_of_le z hb.size; replace hr := hr.below hb; replace hwS := hwS.below hb; replace kX := (hb.block _ zX).trans kX; replace zX := Nat.lt_of_lt_of_le zX hb.size; replace hwM := hwM.below hb; replace hmH := hmH.below hb; clear hb; obtain ⟨c0, c1, c2⟩ := Ul.three k; obtain ⟨x0, x1, x2⟩ := Ul.three kX)
    go_wp2_with (go_at_call 19; refine (Rw.eqByteS_any _ _ _ _ _ _ _ _ _ _ _ hwH.rd hwS.rd).mono ?_; rw [decide_eq_true rfl]; rintro e wo ⟨rfl, hb⟩; clear c0 c1 c2 x0 x1 x2; replace B := Rw.next B hb; replace k := (hb.block _ z).trans k; replace z := Nat.lt_of_lt_of_le z hb.size; replace hr := hr.below hb; replace hwS := hwS.below hb; replace kX := (hb.block _ zX).trans kX; replace zX := Nat.lt_of_lt_of_le zX hb.size; replace hwM := hwM.below hb; replace hmH := hmH.below hb; replace hwH := hwH.below hb; clear hb; obtain ⟨c0, c1, c2⟩ := Ul.three k; obtain ⟨x0, x1, x2⟩ := Ul.three kX)
    go_wp2_with (first | (go_at_call 22; refine (Mk.held_any _ _ _ _ _ hwM).mono ?_; rintro e wp ⟨rfl, hwl⟩; replace hwl := hwl.symm; subst hwl))
    go_ret
    exact ⟨rfl, B⟩

set_option maxRecDepth 100000 in
theorem lifted (os : Os) (started : os.Started) (H : Type) (enc : TypeId × Value → H) :
    ReturnsInHanded {} Try.checked os 8 .any (Rows.fnExactUdpBytesSpec.pre6 enc Try.prog Try.f8 Rows.fnExactUdpBytesRow.domain false) (Rows.fnExactUdpBytesSpec.post enc Try.prog Try.f8 false true false false) := by
  refine returnsInHanded_of_change (C := Try.checked) own started (by kernel_rfl) Try.func8
    (ChangeSpec.witness6 (enc := enc) (C := Try.checked) false ⟨#[], #[.agg #[.int .i64 0, .int .i64 0, .slice none 0 0]], []⟩ 8 (by kernel_rfl) (by kernel_rfl) (by kernel_rfl) (by kernel_rfl)) ?_
  intro W base args ds gs before hval0 hW hcnd _
  have hval : ∀ (j : Nat) t v, Try.f8.params[j]? = some t → args[j]? = some v → Value.okWide Try.prog W .any base t v := hval0
  have hW' := hW
  obtain ⟨p, q, hA0, hV, rfl, hfz, hnd⟩ := hW
  have hA : DataW.TrodAll enc Try.prog W 0 (fun _ => true) true Try.f8.params.toList args.toList ds p := hA0
  rw [Try.params8] at hA hval
  obtain ⟨v0, vs0, d0, ds0, p0, q0, hargs, rfl, rfl, h0, r0⟩ := trodAll_cons hA
  obtain ⟨rfl, rfl, rfl⟩ := trodAll_nil r0
  obtain rfl : args = #[v0] := by cases args; simp_all
  obtain ⟨rfl, rfl⟩ := trodVars_none hV
  have k0 := h0
  have lt0 : ∀ x ∈ p0, x.block < W.heap.size := by obtain ⟨m, hm⟩ := k0; exact DataW.trod_lt m _ _ _ hm
  obtain ⟨x0, x1, a0, len0, cap0, z0, rfl, w0⟩ := Ul.open_udp (hval 0 43 v0 rfl rfl) h0
  clear hA0 hval0
  refine (walk x0 x1 a0 len0 cap0 z0 W w0).mono fun e W' ⟨he, bel⟩ => ?_
  subst he
  exact ⟨_, rfl, _, _, _, [], _, [], hW', trodAll_mk1 (shut_bool Try.underlying4 _), (trodAll_cons_mk (Below.trod laidOut (by kernel_rfl) (of_decide_eq_true (by kernel_rfl)) k0 bel lt0) trodAll_mk0), rfl, bel.frame _, fun h => by cases h⟩

theorem over : Rows.fnExactUdpBytesRow.holds Try.pinned (OpenSpec.ofChange Rows.fnExactUdpBytesSpec) :=
  OpenClaim.holds_of_wide 8 Try.f8 rfl rfl rfl rfl rfl rfl rfl ⟨rfl, rfl, rfl, rfl, rfl⟩ rfl rfl rfl rfl rfl (by kernel_rfl) Try.func8 (by kernel_rfl)
    (of_decide_eq_true (by kernel_rfl)) (by unfold Func.isWrapper; first | (rw [if_pos (by decide +kernel)]; kernel_rfl) | (rw [if_neg (by decide +kernel)]; exact ⟨rfl, rfl⟩))
    (fun os started H enc _ => lifted os started H enc)

theorem proved : Rows.FnExactUdpBytesSaid := over
end Go.Proofs.Ytjbjlmaeaajlhaa.fnExactUdpBytes

namespace Go.Proofs.Ytjbjlmaeaajlhaa
theorem FnExactUdpBytes_holds : Rows.FnExactUdpBytesSaid := fnExactUdpBytes.proved
end Go.Proofs.Ytjbjlmaeaajlhaa
