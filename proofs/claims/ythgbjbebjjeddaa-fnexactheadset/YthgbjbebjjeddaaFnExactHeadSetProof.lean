/- At every head, field and number the program and the specification answer the same, in memory of its own; the argument reads as before; no condition. -/
import Derived.Test.YthgbjbebjjeddaaRows
import Derived.Test.YthgbjbebjjeddaaLw
import Derived.Test.YthgbjbebjjeddaaHt
import Derived.WalkKit
import Derived.ProofKit
import Derived.OpenShut
import Derived.ShutString
import Derived.ChangeOld
import Derived.Below
import Derived.Deep.RegionWith
import Derived.Deep.RegionHeld3
namespace Go.Proofs.Ythgbjbebjjeddaa.fnExactHeadSet
open Go.ChangeShapes Go.WideShapes Go.ChangeAt Go.RowKit
set_option linter.unusedVariables false

theorem own : ownKnob Try.prog.godebug = none := by kernel_rfl
theorem laidOut : laidOutB Try.prog = true := by kernel_rfl

set_option maxHeartbeats 4000000 in
theorem walk (a0 : Option Addr) (len0 cap0 : Nat) (z0 : List Int) (f : Int) (v : Int) (w : World) (w0 : Rw.IsRow .i64 w a0 len0 cap0 z0) :
    Calls Try.prog 7 #[.agg #[.slice a0 len0 cap0], .int .i64 f, .int .i64 v] w fun e w' => e = .returned (.bool true) ∧ Below w.heap.size w w' := by
  by_cases hbig : 1048576 < len0
  · have hm := Hr.isRow_max w0
    go_enter Try.func7, Try.ntmps7
    go_wp2_with (go_at_call 19; refine (Hh.sz_big _ _ _ _ hbig hm).mono ?_; rintro e wa ⟨rfl, hba⟩)
    go_ret
    exact ⟨rfl, Rw.next (Pl.below_alloc1 _ _) hba⟩
  · obtain ⟨b, off, l, hl, hr⟩ := Hr.rd_of_isRow w0 (by omega)
    subst hl
    clear w0
    obtain ⟨OK, L, hI, hS⟩ := Ht.set f v l
    have HI : Hid (∀ a b off cap w, Hr.Rd w a b off l → Calls Try.prog 32 #[.agg #[.slice a l.length cap], .int .i64 f, .int .i64 v] w (Ht.ResHB w OK L)) := hI
    have HS : Hid (∀ a b off cap w, Hr.Rd w a b off l → Calls Try.prog 31 #[.agg #[.slice a l.length cap], .int .i64 f, .int .i64 v] w (Ht.ResHB w OK L)) := hS
    clear hI hS
    have hsm : l.length ≤ 1048576 := by omega
    have h0 : ¬ (1048576 - (l.length : Int) < 0) := by omega
    have hltb := Hr.rd_lt hr
    obtain ⟨W0, hW0⟩ : ∃ W0, W0 = w.alloc (.cells #[.slice a0 l.length cap0] 49) := ⟨_, rfl⟩
    have B : Below w.heap.size w W0 := by subst hW0; exact Pl.below_alloc1 _ _
    have k : W0.heap[w.heap.size]? = some (.cells #[.slice a0 l.length cap0] 49 (0, 0)) := by subst hW0; exact Pl.at_new rfl
    have z : w.heap.size < W0.heap.size := by subst hW0; simp
    replace hr := hr.below B
    go_enter Try.func7, Try.ntmps7
    go_wp2_with (go_at_call 19; rw [← hW0]; refine (Hh.sz_small _ _ _ _ hsm).mono ?_; rintro e wa ⟨rfl, hb⟩; replace B := Rw.next B hb; replace k := (hb.block _ z).trans k; replace z := Nat.lt_of_lt_of_le z hb.size; replace hr := hr.below hb; clear hb; have c0 := Hh.one k)
    go_wp2_with (go_at_call 21; refine (Hh.toHead_any _ _ _ _ _ _ hr).mono ?_; rintro e wb ⟨g1, rfl, hb, hg1, hm1⟩; clear c0; replace B := Rw.next B hb; replace k := (hb.block _ z).trans k; replace z := Nat.lt_of_lt_of_le z hb.size; replace hr := hr.below hb; clear hb; have c0 := Hh.one k; have zw := z)
    go_wp2_with (go_at_call 31; refine (HS.out _ _ _ _ _ hm1.rd ).mono ?_; rintro e wc ⟨aS, gS, cS, rfl, hwS, hgS, hb⟩; clear c0; replace B := Rw.next B hb; replace k := (hb.block _ z).trans k; replace z := Nat.lt_of_lt_of_le z hb.size; replace hr := hr.below hb; have sz1 := hb.size; have ltS := Hr.wt_lt hwS; clear hb; have BX := Pl.below_alloc1 wc (.cells #[.slice aS L.length cS] 43); replace B := Rw.next B BX; replace k := (BX.block _ z).trans k; replace z := Nat.lt_of_lt_of_le z BX.size; replace hr := hr.below BX; replace hwS := hwS.below BX; have kS : (wc.alloc (.cells #[.slice aS L.length cS] 43)).heap[wc.heap.size]? = some (.cells #[.slice aS L.length cS] 43 (0, 0)) := Pl.at_new rfl; have zS : wc.heap.size < (wc.alloc (.cells #[.slice aS L.length cS] 43)).heap.size := (by simp); clear BX; have c0 := Hh.one k; have s_0 := Hh.one kS)
    clear hm1
    go_wp2_with (go_at_call 21; refine (Hh.toHead_any _ _ _ _ _ _ hr).mono ?_; rintro e wd ⟨gX, rfl, hb, hgX, hmX⟩; have sz2 := hb.size; clear c0 s_0; replace B := Rw.next B hb; replace k := (hb.block _ z).trans k; replace z := Nat.lt_of_lt_of_le z hb.size; replace hr := hr.below hb; replace hwS := hwS.below hb; replace kS := (hb.block _ zS).trans kS; replace zS := Nat.lt_of_lt_of_le zS hb.size; clear hb; have ltX := hmX.row.lt; have BX := Pl.below_alloc1 wd (.cells #[.slice (some ⟨gX, 0, none⟩) l.length l.length] 43); replace B := Rw.next B BX; replace k := (BX.block _ z).trans k; replace z := Nat.lt_of_lt_of_le z BX.size; replace hr := hr.below BX; replace hwS := hwS.below BX; replace kS := (BX.block _ zS).trans kS; replace zS := Nat.lt_of_lt_of_le zS BX.size; replace hmX := hmX.below BX; have kX : (wd.alloc (.cells #[.slice (some ⟨gX, 0, none⟩) l.length l.length] 43)).heap[wd.heap.size]? = some (.cells #[.slice (some ⟨gX, 0, none⟩) l.length l.length] 43 (0, 0)) := Pl.at_new rfl; have zX : wd.heap.size < (wd.alloc (.cells #[.slice (some ⟨gX, 0, none⟩) l.length l.length] 43)).heap.size := (by simp); clear BX; have c0 := Hh.one k; have s_0 := Hh.one kS; have x0 := Hh.one kX)
    go_wp2_with (go_at_call 32; refine (HI.out _ _ _ _ _ hmX.rd ).mono ?_; rintro e we ⟨aG, gG, cG, rfl, hwG, hgG, hb⟩; have sz3 := hb.size; clear c0 s_0 x0; replace B := Rw.next B hb; replace k := (hb.block _ z).trans k; replace z := Nat.lt_of_lt_of_le z hb.size; replace hr := hr.below hb; replace hwS := hwS.below hb; replace kS := (hb.block _ zS).trans kS; replace zS := Nat.lt_of_lt_of_le zS hb.size; replace hmX := hmX.below hb; replace kX := (hb.block _ zX).trans kX; replace zX := Nat.lt_of_lt_of_le zX hb.size; clear hb; have ltG := Hr.wt_lt hwG; have BX := Pl.below_alloc1 we (.cells #[.slice aG L.length cG] 43); replace B := Rw.next B BX; replace k := (BX.block _ z).trans k; replace z := Nat.lt_of_lt_of_le z BX.size; replace hr := hr.below BX; replace hwS := hwS.below BX; replace kS := (BX.block _ zS).trans kS; replace zS := Nat.lt_of_lt_of_le zS BX.size; replace hmX := hmX.below BX; replace kX := (BX.block _ zX).trans kX; replace zX := Nat.lt_of_lt_of_le zX BX.size; replace hwG := hwG.below BX; have kG : (we.alloc (.cells #[.slice aG L.length cG] 43)).heap[we.heap.size]? = some (.cells #[.slice aG L.length cG] 43 (0, 0)) := Pl.at_new rfl; have zG : we.heap.size < (we.alloc (.cells #[.slice aG L.length cG] 43)).heap.size := (by simp); clear BX; have c0 := Hh.one k; have s_0 := Hh.one kS; have x0 := Hh.one kX; have y_0 := Hh.one kG)
    go_wp2_with (go_at_call 23; refine (Hh.eqHead_same _ _ _ _ _ _ _ _ _ _ hwG.rd hwS.rd).mono ?_; rintro e wf ⟨rfl, hb⟩; have sz4 := hb.size; clear c0 s_0 x0 y_0; replace B := Rw.next B hb; replace k := (hb.block _ z).trans k; replace z := Nat.lt_of_lt_of_le z hb.size; replace hr := hr.below hb; replace hwS := hwS.below hb; replace kS := (hb.block _ zS).trans kS; replace zS := Nat.lt_of_lt_of_le zS hb.size; replace hmX := hmX.below hb; replace kX := (hb.block _ zX).trans kX; replace zX := Nat.lt_of_lt_of_le zX hb.size; replace hwG := hwG.below hb; replace kG := (hb.block _ zG).trans kG; replace zG := Nat.lt_of_lt_of_le zG hb.size; clear hb; have c0 := Hh.one k; have s_0 := Hh.one kS; have x0 := Hh.one kX; have y_0 := Hh.one kG)
    go_region_held3 (fun w' => w'.cell? ⟨wd.heap.size, 0, none⟩ = some (.slice (some ⟨gX, 0, none⟩) l.length l.length) ∧ w'.cell? ⟨w.heap.size, 0, none⟩ = some (.slice a0 l.length cap0)) (go_keep) (first | (go_at_call 21; refine (Hh.toHead_any _ _ _ _ _ _ (hr.below ((Below.refl _ _).drew))).mono ?_; rintro e wg ⟨gY, rfl, hb0, hgY, hmY⟩; have hb := Rw.next ((Below.refl _ _).drew) hb0; clear c0 s_0 x0 y_0; replace B := Rw.next B hb; replace k := (hb.block _ z).trans k; replace z := Nat.lt_of_lt_of_le z hb.size; replace hr := hr.below hb; replace hwS := hwS.below hb; replace kS := (hb.block _ zS).trans kS; replace zS := Nat.lt_of_lt_of_le zS hb.size; replace hmX := hmX.below hb; replace kX := (hb.block _ zX).trans kX; replace zX := Nat.lt_of_lt_of_le zX hb.size; replace hwG := hwG.below hb; replace kG := (hb.block _ zG).trans kG; replace zG := Nat.lt_of_lt_of_le zG hb.size; clear hb hb0; have c0 := Hh.one k; have s_0 := Hh.one kS; have x0 := Hh.one kX; have y_0 := Hh.one kG) | (go_at_call 23; refine (Hh.eqHead_same _ _ _ _ _ _ _ _ l _ hmX.rd hmY.rd).mono ?_; rintro e wh ⟨rfl, hb⟩; have sz5 := hb.size; clear c0 s_0 x0 y_0; replace B := Rw.next B hb; replace k := (hb.block _ z).trans k; replace z := Nat.lt_of_lt_of_le z hb.size; replace hr := hr.below hb; replace hwS := hwS.below hb; replace kS := (hb.block _ zS).trans kS; replace zS := Nat.lt_of_lt_of_le zS hb.size; replace hmX := hmX.below hb; replace kX := (hb.block _ zX).trans kX; replace zX := Nat.lt_of_lt_of_le zX hb.size; replace hwG := hwG.below hb; replace kG := (hb.block _ zG).trans kG; replace zG := Nat.lt_of_lt_of_le zG hb.size; replace hmY := hmY.below hb; clear hb; have c0 := Hh.one k; have s_0 := Hh.one kS; have x0 := Hh.one kX; have y_0 := Hh.one kG))
    have hk0 : ¬ (1 + (l.length : Int) < 0) := by omega
    have hq0 : ¬ (1 + (L.length : Int) < 0) := by omega
    simp at hgX hgG sz2 sz3
    go_wp2_with (go_at_call 29; refine (Hh.markHead_any _ _ _ _ _ (Hr.mine_wt hmX)).mono ?_; rintro e wi ⟨rfl, ho, h00, hwXm⟩; clear hwXm hmX; clear c0 s_0 x0 y_0; replace B := Lw.below_of_only B B.size ho h00 (by omega); replace k := (Lw.k_only ho h00 z (by omega)).trans k; replace z := Nat.lt_of_lt_of_le z ho.size; replace hr := Hr.rd_onlyN ho h00 hr (by omega); replace hwS := Hr.wt_onlyN ho h00 hwS (by omega); replace kS := (Lw.k_only ho h00 zS (by omega)).trans kS; replace zS := Nat.lt_of_lt_of_le zS ho.size; replace kX := (Lw.k_only ho h00 zX (by omega)).trans kX; replace zX := Nat.lt_of_lt_of_le zX ho.size; replace hwG := Hr.wt_onlyN ho h00 hwG (by omega); replace kG := (Lw.k_only ho h00 zG (by omega)).trans kG; replace zG := Nat.lt_of_lt_of_le zG ho.size; clear ho h00; have c0 := Hh.one k; have s_0 := Hh.one kS; have x0 := Hh.one kX; have y_0 := Hh.one kG)
    go_wp2_with (go_at_call 23; refine (Hh.eqHead_same _ _ _ _ _ _ _ _ _ _ hwG.rd hwS.rd).mono ?_; rintro e wj ⟨rfl, hb⟩; clear c0 s_0 x0 y_0; replace B := Rw.next B hb; replace k := (hb.block _ z).trans k; replace z := Nat.lt_of_lt_of_le z hb.size; replace hr := hr.below hb; replace hwS := hwS.below hb; replace kS := (hb.block _ zS).trans kS; replace zS := Nat.lt_of_lt_of_le zS hb.size; replace kX := (hb.block _ zX).trans kX; replace zX := Nat.lt_of_lt_of_le zX hb.size; replace hwG := hwG.below hb; replace kG := (hb.block _ zG).trans kG; replace zG := Nat.lt_of_lt_of_le zG hb.size; clear hb; have c0 := Hh.one k; have s_0 := Hh.one kS; have x0 := Hh.one kX; have y_0 := Hh.one kG)
    go_wp2_with (go_at_call 29; refine (Hh.markHead_any _ _ _ _ _ hwG).mono ?_; rintro e wk ⟨rfl, ho, h00, hwM⟩; clear c0 s_0 x0 y_0; replace B := Lw.below_of_only B B.size ho h00 (by omega); replace k := (Lw.k_only ho h00 z (by omega)).trans k; replace z := Nat.lt_of_lt_of_le z ho.size; replace hr := Hr.rd_onlyN ho h00 hr (by omega); replace hwS := Hr.wt_onlyN ho h00 hwS (by omega); replace kS := (Lw.k_only ho h00 zS (by omega)).trans kS; replace zS := Nat.lt_of_lt_of_le zS ho.size; replace kX := (Lw.k_only ho h00 zX (by omega)).trans kX; replace zX := Nat.lt_of_lt_of_le zX ho.size; replace kG := (Lw.k_only ho h00 zG (by omega)).trans kG; replace zG := Nat.lt_of_lt_of_le zG ho.size; clear ho h00 hwG; have c0 := Hh.one k; have s_0 := Hh.one kS; have x0 := Hh.one kX; have y_0 := Hh.one kG)
    go_wp2_with (go_at_call 30; refine (Hh.heldHead_any _ _ _ _ _ hwM).mono ?_; rintro e wl ⟨rfl, hb⟩; clear c0 s_0 x0 y_0; replace B := Rw.next B hb; replace k := (hb.block _ z).trans k; replace z := Nat.lt_of_lt_of_le z hb.size; replace hr := hr.below hb; replace hwS := hwS.below hb; replace kS := (hb.block _ zS).trans kS; replace zS := Nat.lt_of_lt_of_le zS hb.size; replace kX := (hb.block _ zX).trans kX; replace zX := Nat.lt_of_lt_of_le zX hb.size; replace kG := (hb.block _ zG).trans kG; replace zG := Nat.lt_of_lt_of_le zG hb.size; replace hwM := hwM.below hb; clear hb; have c0 := Hh.one k; have s_0 := Hh.one kS; have x0 := Hh.one kX; have y_0 := Hh.one kG)
    go_wp2_with (go_at_call 21; refine (Hh.toHead_any _ _ _ _ _ _ hr).mono ?_; rintro e wm ⟨gH1, rfl, hb, hgH1, hmH⟩; clear c0 s_0 x0 y_0; replace B := Rw.next B hb; replace k := (hb.block _ z).trans k; replace z := Nat.lt_of_lt_of_le z hb.size; replace hr := hr.below hb; replace hwS := hwS.below hb; replace kS := (hb.block _ zS).trans kS; replace zS := Nat.lt_of_lt_of_le zS hb.size; replace kX := (hb.block _ zX).trans kX; replace zX := Nat.lt_of_lt_of_le zX hb.size; replace kG := (hb.block _ zG).trans kG; replace zG := Nat.lt_of_lt_of_le zG hb.size; replace hwM := hwM.below hb; clear hb; have c0 := Hh.one k; have s_0 := Hh.one kS; have x0 := Hh.one kX; have y_0 := Hh.one kG)
    go_wp2_with (go_at_call 32; refine (HI.out _ _ _ _ _ hmH.rd ).mono ?_; rintro e wn ⟨aH, gH, cH, rfl, hwH, hgH, hb⟩; clear c0 s_0 x0 y_0; replace B := Rw.next B hb; replace k := (hb.block _ z).trans k; replace z := Nat.lt_of_lt_of_le z hb.size; replace hr := hr.below hb; replace hwS := hwS.below hb; replace kS := (hb.block _ zS).trans kS; replace zS := Nat.lt_of_lt_of_le zS hb.size; replace kX := (hb.block _ zX).trans kX; replace zX := Nat.lt_of_lt_of_le zX hb.size; replace kG := (hb.block _ zG).trans kG; replace zG := Nat.lt_of_lt_of_le zG hb.size; replace hwM := hwM.below hb; replace hmH := hmH.below hb; clear hb; have BX := Pl.below_alloc1 wn (.cells #[.slice aH L.length cH] 43); replace B := Rw.next B BX; replace k := (BX.block _ z).trans k; replace z := Nat.lt_of_lt_of_le z BX.size; replace hr := hr.below BX; replace hwS := hwS.below BX; replace kS := (BX.block _ zS).trans kS; replace zS := Nat.lt_of_lt_of_le zS BX.size; replace kX := (BX.block _ zX).trans kX; replace zX := Nat.lt_of_lt_of_le zX BX.size; replace kG := (BX.block _ zG).trans kG; replace zG := Nat.lt_of_lt_of_le zG BX.size; replace hwM := hwM.below BX; replace hmH := hmH.below BX; replace hwH := hwH.below BX; have kH : (wn.alloc (.cells #[.slice aH L.length cH] 43)).heap[wn.heap.size]? = some (.cells #[.slice aH L.length cH] 43 (0, 0)) := Pl.at_new rfl; have zH : wn.heap.size < (wn.alloc (.cells #[.slice aH L.length cH] 43)).heap.size := (by simp); clear BX; have c0 := Hh.one k; have s_0 := Hh.one kS; have x0 := Hh.one kX; have y_0 := Hh.one kG; have q_0 := Hh.one kH)
    go_wp2_with (go_at_call 23; refine (Hh.eqHead_same _ _ _ _ _ _ _ _ _ _ hwH.rd hwS.rd).mono ?_; rintro e wo ⟨rfl, hb⟩; clear c0 s_0 x0 y_0 q_0; replace B := Rw.next B hb; replace k := (hb.block _ z).trans k; replace z := Nat.lt_of_lt_of_le z hb.size; replace hr := hr.below hb; replace hwS := hwS.below hb; replace kS := (hb.block _ zS).trans kS; replace zS := Nat.lt_of_lt_of_le zS hb.size; replace kX := (hb.block _ zX).trans kX; replace zX := Nat.lt_of_lt_of_le zX hb.size; replace kG := (hb.block _ zG).trans kG; replace zG := Nat.lt_of_lt_of_le zG hb.size; replace hwM := hwM.below hb; replace hmH := hmH.below hb; replace hwH := hwH.below hb; replace kH := (hb.block _ zH).trans kH; replace zH := Nat.lt_of_lt_of_le zH hb.size; clear hb; have c0 := Hh.one k; have s_0 := Hh.one kS; have x0 := Hh.one kX; have y_0 := Hh.one kG; have q_0 := Hh.one kH)
    go_wp2_with (go_at_call 30; refine (Hh.heldHead_any _ _ _ _ _ hwM).mono ?_; rintro e wp ⟨rfl, hb⟩; clear c0 s_0 x0 y_0 q_0; replace B := Rw.next B hb; replace k := (hb.block _ z).trans k; replace z := Nat.lt_of_lt_of_le z hb.size; replace hr := hr.below hb; replace hwS := hwS.below hb; replace kS := (hb.block _ zS).trans kS; replace zS := Nat.lt_of_lt_of_le zS hb.size; replace kX := (hb.block _ zX).trans kX; replace zX := Nat.lt_of_lt_of_le zX hb.size; replace kG := (hb.block _ zG).trans kG; replace zG := Nat.lt_of_lt_of_le zG hb.size; replace hwM := hwM.below hb; replace hmH := hmH.below hb; replace hwH := hwH.below hb; replace kH := (hb.block _ zH).trans kH; replace zH := Nat.lt_of_lt_of_le zH hb.size; clear hb)
    go_ret
    exact ⟨rfl, B⟩

set_option maxRecDepth 100000 in
theorem lifted (os : Os) (started : os.Started) (H : Type) (enc : TypeId × Value → H) :
    ReturnsInHanded {} Try.checked os 7 .any (Rows.fnExactHeadSetSpec.pre6 enc Try.prog Try.f7 Rows.fnExactHeadSetRow.domain false) (Rows.fnExactHeadSetSpec.post enc Try.prog Try.f7 false true false false) := by
  refine returnsInHanded_of_change (C := Try.checked) own started (by kernel_rfl) Try.func7
    (ChangeSpec.witness6 (enc := enc) (C := Try.checked) false ⟨#[], #[.agg #[.slice none 0 0], .int .i64 0, .int .i64 0], []⟩ 8 (by kernel_rfl) (by kernel_rfl) (by kernel_rfl) (by kernel_rfl)) ?_
  intro W base args ds gs before hval0 hW hcnd _
  have hval : ∀ (j : Nat) t v, Try.f7.params[j]? = some t → args[j]? = some v → Value.okWide Try.prog W .any base t v := hval0
  have hW' := hW
  obtain ⟨p, q, hA0, hV, rfl, hfz, hnd⟩ := hW
  have hA : DataW.TrodAll enc Try.prog W 0 (fun _ => true) true Try.f7.params.toList args.toList ds p := hA0
  rw [Try.params7] at hA hval
  obtain ⟨v0, vs0, d0, ds0, p0, q0, hargs, rfl, rfl, h0, r0⟩ := trodAll_cons hA
  obtain ⟨v1, vs1, d1, ds1, p1, q1, rfl, rfl, rfl, h1, r1⟩ := trodAll_cons r0
  obtain ⟨v2, vs2, d2, ds2, p2, q2, rfl, rfl, rfl, h2, r2⟩ := trodAll_cons r1
  obtain ⟨rfl, rfl, rfl⟩ := trodAll_nil r2
  obtain rfl : args = #[v0, v1, v2] := by cases args; simp_all
  obtain ⟨rfl, rfl⟩ := trodVars_none hV
  have k0 := h0
  have lt0 : ∀ x ∈ p0, x.block < W.heap.size := by obtain ⟨m, hm⟩ := k0; exact DataW.trod_lt m _ _ _ hm
  obtain ⟨a0, len0, cap0, z0, rfl, w0⟩ := Hh.open_head (hval 0 49 v0 rfl rfl) h0
  obtain ⟨a1, rfl, rfl, rfl, w1⟩ := open_int Try.underlying3 (hval 1 3 v1 rfl rfl) h1
  obtain ⟨a2, rfl, rfl, rfl, w2⟩ := open_int Try.underlying3 (hval 2 3 v2 rfl rfl) h2
  clear hA0 hval0
  refine (walk  a0 len0 cap0 z0 a1 a2 W w0).mono fun e W' ⟨he, bel⟩ => ?_
  subst he
  exact ⟨_, rfl, _, _, _, [], _, [], hW', trodAll_mk1 (shut_bool Try.underlying4 _), (trodAll_cons_mk (Below.trod laidOut (by kernel_rfl) (of_decide_eq_true (by kernel_rfl)) k0 bel lt0) (trodAll_cons_mk (shut_int Try.underlying3 w1) (trodAll_cons_mk (shut_int Try.underlying3 w2) trodAll_mk0))), rfl, bel.frame _, fun h => by cases h⟩

theorem over : Rows.fnExactHeadSetRow.holds Try.pinned (OpenSpec.ofChange Rows.fnExactHeadSetSpec) :=
  OpenClaim.holds_of_wide 7 Try.f7 rfl rfl rfl rfl rfl rfl rfl ⟨rfl, rfl, rfl, rfl, rfl⟩ rfl rfl rfl rfl rfl (by kernel_rfl) Try.func7 (by kernel_rfl)
    (of_decide_eq_true (by kernel_rfl)) (by unfold Func.isWrapper; first | (rw [if_pos (by decide +kernel)]; kernel_rfl) | (rw [if_neg (by decide +kernel)]; exact ⟨rfl, rfl⟩))
    (fun os started H enc _ => lifted os started H enc)

theorem proved : Rows.FnExactHeadSetSaid := over
end Go.Proofs.Ythgbjbebjjeddaa.fnExactHeadSet

namespace Go.Proofs.Ythgbjbebjjeddaa
theorem FnExactHeadSet_holds : Rows.FnExactHeadSetSaid := fnExactHeadSet.proved
end Go.Proofs.Ythgbjbebjjeddaa
