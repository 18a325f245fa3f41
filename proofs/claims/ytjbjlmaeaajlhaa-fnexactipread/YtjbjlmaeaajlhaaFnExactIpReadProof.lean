/- For every slice of bytes the law FnExactIpRead returns true and leaves its argument alone: the program reads a datagram as the specification does, every code and field, into memory of its own; no condition. -/
import Derived.Test.YtjbjlmaeaajlhaaRows
import Derived.Test.YtjbjlmaeaajlhaaLw
import Derived.Test.YtjbjlmaeaajlhaaSk
import Derived.WalkKit
import Derived.ProofKit
import Derived.OpenShut
import Derived.ShutString
import Derived.ChangeOld
import Derived.Below
namespace Go.Proofs.Ytjbjlmaeaajlhaa.fnExactIpRead
open Go.ChangeShapes Go.WideShapes Go.ChangeAt Go.RowKit
open Go.ChangeMaps (open_string shut_string)
set_option linter.unusedVariables false

theorem own : ownKnob Try.prog.godebug = none := by kernel_rfl
theorem laidOut : laidOutB Try.prog = true := by kernel_rfl

/-- WHAT THE WALK IS TOLD OF A SLICE OF INTEGERS THAT CAME IN: it is nil; or it leads to a row of 'cap' cells, the numbers 'zs' (the first 'len' are its elements, the rest its spare room), each fitting its kind. -/
def IsRow (k : IntKind) (w : World) (a : Option Addr) (len cap : Nat) (zs : List Int) : Prop :=
  (a = none ∧ len = 0 ∧ cap = 0 ∧ zs = []) ∨
  ∃ x, a = some x ∧ len ≤ cap ∧ cap ≤ maxLen ∧ zs.length = cap ∧ (∀ i, i < zs.length → w.cell? (x.add i) = some (.int k (zs.getD i 0))) ∧ ∀ n ∈ zs, (Lit.int k n).wf = true

/-! ### STEP 1: THE WALK: the Go text returns true, AND WRITES NOTHING THAT WAS THERE: 'Below w.heap.size w w'' (Derived/Below.lean: '.refl', '.alloc', '.drew', '.setCell' at a new block, '.trans'). Open each 'IsRow' by 'rcases' AHEAD of 'go_enter'; part every test ahead of the walk. -/
set_option maxHeartbeats 2000000 in
theorem walk (a0 : Option Addr) (len0 cap0 : Nat) (z0 : List Int) (w : World) (w0 : IsRow .u8 w a0 len0 cap0 z0) :
    Calls Try.prog 5 #[.slice a0 len0 cap0] w fun e w' => e = .returned (.bool true) ∧ Below w.heap.size w w' := by
  by_cases hbig : 1048576 < len0
  · have hbz : (1048576 : Int) < (len0 : Int) := by omega
    go_enter Try.func5, Try.ntmps5
    go_wp2
    go_ret
    exact ⟨rfl, Below.refl _ _⟩
  · obtain ⟨b, off, l, hl, hr⟩ := Rw.rd_of_isRow w0 (by omega)
    subst hl
    have hbz : ¬ (1048576 : Int) < (l.length : Int) := by omega
    clear w0
    obtain ⟨D, S, T, Y, C, L, hA⟩ := Sk.read hr.byt
    have HA : Hid (Sk.Alike l D S T Y C L) := hA
    clear hA
    have hltb := Lw.rd_lt hr
    have B := Below.refl w.heap.size w
    go_enter Try.func5, Try.ntmps5
    go_wp2_with (go_at_call 24; refine (Rw.toByteS_any _ _ _ _ _ _ hr).mono ?_; rintro e wa ⟨rfl, hb, hm1⟩; have sz0 := hb.size; replace B := Rw.next B hb; replace hr := hr.below hb; clear hb)
    go_wp2_with (go_at_call 23; refine (HA.out.2 _ _ _ _ _ hm1.rd (Nat.le_refl _)).mono ?_; rintro e wb ⟨aS, gS, cS, rfl, hwS, hgS, hcS, hb⟩; have sz1 := hb.size; replace B := Rw.next B hb; replace hr := hr.below hb; clear hb; have ltS := Put.wt_lt hwS; have BX := Pl.below_alloc1 wb (.cells #[.int .i64 D, .int .i64 S, .int .i64 T, .int .i64 Y, .slice aS L.length cS] 27); replace B := Rw.next B BX; replace hr := hr.below BX; replace hwS := hwS.below BX; have kS : (wb.alloc (.cells #[.int .i64 D, .int .i64 S, .int .i64 T, .int .i64 Y, .slice aS L.length cS] 27)).heap[wb.heap.size]? = some (.cells #[.int .i64 D, .int .i64 S, .int .i64 T, .int .i64 Y, .slice aS L.length cS] 27 (0, 0)) := Pl.at_new rfl; have zS : wb.heap.size < (wb.alloc (.cells #[.int .i64 D, .int .i64 S, .int .i64 T, .int .i64 Y, .slice aS L.length cS] 27)).heap.size := (by simp); clear BX; obtain ⟨s_0, s_1, s_2, s_3, s_4⟩ := Pf.five kS)
    clear hm1
    go_wp2_with (go_at_call 24; refine (Rw.toByteS_any _ _ _ _ _ _ hr).mono ?_; rintro e wc ⟨rfl, hb, hmX⟩; have eX : (wb.alloc (.cells #[.int .i64 D, .int .i64 S, .int .i64 T, .int .i64 Y, .slice aS L.length cS] 27)).heap.size = wb.heap.size + 1 := (by simp); rw [eX] at hmX; have sz2 := hb.size; clear s_0 s_1 s_2 s_3 s_4; replace B := Rw.next B hb; replace hr := hr.below hb; replace hwS := hwS.below hb; replace kS := (hb.block _ zS).trans kS; replace zS := Nat.lt_of_lt_of_le zS hb.size; clear hb; have ltX := hmX.row.lt; obtain ⟨s_0, s_1, s_2, s_3, s_4⟩ := Pf.five kS)
    go_wp2_with (go_at_call 25; refine (HA.out.1 _ _ _ _ _ hmX.rd (Nat.le_refl _)).mono ?_; rintro e wd ⟨aG, gG, cG, rfl, hwG, hgG, hcG, hb⟩; have sz3 := hb.size; clear s_0 s_1 s_2 s_3 s_4; replace B := Rw.next B hb; replace hr := hr.below hb; replace hwS := hwS.below hb; replace kS := (hb.block _ zS).trans kS; replace zS := Nat.lt_of_lt_of_le zS hb.size; replace hmX := hmX.below hb; clear hb; have ltG := Put.wt_lt hwG; have BX := Pl.below_alloc1 wd (.cells #[.int .i64 D, .int .i64 S, .int .i64 T, .int .i64 Y, .slice aG L.length cG] 27); replace B := Rw.next B BX; replace hr := hr.below BX; replace hwS := hwS.below BX; replace kS := (BX.block _ zS).trans kS; replace zS := Nat.lt_of_lt_of_le zS BX.size; replace hmX := hmX.below BX; replace hwG := hwG.below BX; have kG : (wd.alloc (.cells #[.int .i64 D, .int .i64 S, .int .i64 T, .int .i64 Y, .slice aG L.length cG] 27)).heap[wd.heap.size]? = some (.cells #[.int .i64 D, .int .i64 S, .int .i64 T, .int .i64 Y, .slice aG L.length cG] 27 (0, 0)) := Pl.at_new rfl; have zG : wd.heap.size < (wd.alloc (.cells #[.int .i64 D, .int .i64 S, .int .i64 T, .int .i64 Y, .slice aG L.length cG] 27)).heap.size := (by simp); clear BX; obtain ⟨s_0, s_1, s_2, s_3, s_4⟩ := Pf.five kS; obtain ⟨y_0, y_1, y_2, y_3, y_4⟩ := Pf.five kG)
    go_wp2_with (go_at_call 16; refine (Pl.eqPacket_same _ _ _ _ _ _ _ _ _ _ _ _ _ _ hwG.rd hwS.rd).mono ?_; rintro e we ⟨rfl, hb⟩; clear s_0 s_1 s_2 s_3 s_4 y_0 y_1 y_2 y_3 y_4; replace B := Rw.next B hb; replace hr := hr.below hb; replace hwS := hwS.below hb; replace kS := (hb.block _ zS).trans kS; replace zS := Nat.lt_of_lt_of_le zS hb.size; replace hmX := hmX.below hb; replace hwG := hwG.below hb; replace kG := (hb.block _ zG).trans kG; replace zG := Nat.lt_of_lt_of_le zG hb.size; clear hb; obtain ⟨s_0, s_1, s_2, s_3, s_4⟩ := Pf.five kS; obtain ⟨y_0, y_1, y_2, y_3, y_4⟩ := Pf.five kG)
    go_wp2_with (go_at_call 24; refine (Rw.toByteS_any _ _ _ _ _ _ hr).mono ?_; rintro e wf ⟨rfl, hb, hmY⟩; clear s_0 s_1 s_2 s_3 s_4 y_0 y_1 y_2 y_3 y_4; replace B := Rw.next B hb; replace hr := hr.below hb; replace hwS := hwS.below hb; replace kS := (hb.block _ zS).trans kS; replace zS := Nat.lt_of_lt_of_le zS hb.size; replace hmX := hmX.below hb; replace hwG := hwG.below hb; replace kG := (hb.block _ zG).trans kG; replace zG := Nat.lt_of_lt_of_le zG hb.size; clear hb; obtain ⟨s_0, s_1, s_2, s_3, s_4⟩ := Pf.five kS; obtain ⟨y_0, y_1, y_2, y_3, y_4⟩ := Pf.five kG)
    go_wp2_with (go_at_call 19; refine (Rw.eqByteS_any _ _ _ _ _ _ _ _ l l _ hmX.rd hmY.rd).mono ?_; rw [decide_eq_true rfl]; rintro e wg ⟨rfl, hb⟩; clear s_0 s_1 s_2 s_3 s_4 y_0 y_1 y_2 y_3 y_4; replace B := Rw.next B hb; replace hr := hr.below hb; replace hwS := hwS.below hb; replace kS := (hb.block _ zS).trans kS; replace zS := Nat.lt_of_lt_of_le zS hb.size; replace hmX := hmX.below hb; replace hwG := hwG.below hb; replace kG := (hb.block _ zG).trans kG; replace zG := Nat.lt_of_lt_of_le zG hb.size; replace hmY := hmY.below hb; clear hb; obtain ⟨s_0, s_1, s_2, s_3, s_4⟩ := Pf.five kS; obtain ⟨y_0, y_1, y_2, y_3, y_4⟩ := Pf.five kG)
    clear hmY
    have hk0 : ¬ (1 + (l.length : Int) < 0) := by omega
    have hq0 : ¬ (1 + (L.length : Int) < 0) := by omega
    simp only [eX] at sz2
    go_wp2_with (go_at_call 21; refine (Pb.markB _ _ _ _ _ (Mk.mine_wt hmX)).mono ?_; rintro e wh ⟨rfl, ho, h00, hwXm⟩; clear hwXm hmX; clear s_0 s_1 s_2 s_3 s_4 y_0 y_1 y_2 y_3 y_4; replace B := Lw.below_of_only B B.size ho h00 (by omega); replace hr := Lw.rd_onlyN ho h00 hr (by omega); replace hwS := Lw.wt_onlyN ho h00 hwS (by omega); replace kS := (Lw.k_only ho h00 zS (by omega)).trans kS; replace zS := Nat.lt_of_lt_of_le zS ho.size; replace hwG := Lw.wt_onlyN ho h00 hwG (by omega); replace kG := (Lw.k_only ho h00 zG (by omega)).trans kG; replace zG := Nat.lt_of_lt_of_le zG ho.size; clear ho h00; obtain ⟨s_0, s_1, s_2, s_3, s_4⟩ := Pf.five kS; obtain ⟨y_0, y_1, y_2, y_3, y_4⟩ := Pf.five kG)
    go_wp2_with (go_at_call 16; refine (Pl.eqPacket_same _ _ _ _ _ _ _ _ _ _ _ _ _ _ hwG.rd hwS.rd).mono ?_; rintro e wi ⟨rfl, hb⟩; clear s_0 s_1 s_2 s_3 s_4 y_0 y_1 y_2 y_3 y_4; replace B := Rw.next B hb; replace hr := hr.below hb; replace hwS := hwS.below hb; replace kS := (hb.block _ zS).trans kS; replace zS := Nat.lt_of_lt_of_le zS hb.size; replace hwG := hwG.below hb; replace kG := (hb.block _ zG).trans kG; replace zG := Nat.lt_of_lt_of_le zG hb.size; clear hb; obtain ⟨s_0, s_1, s_2, s_3, s_4⟩ := Pf.five kS; obtain ⟨y_0, y_1, y_2, y_3, y_4⟩ := Pf.five kG)
    go_wp2_with (go_at_call 20; refine (Lw.markP_any _ _ _ _ _ _ _ _ _ hwG).mono ?_; rintro e wj ⟨rfl, ho, h00, hwM⟩; clear s_0 s_1 s_2 s_3 s_4 y_0 y_1 y_2 y_3 y_4; replace B := Lw.below_of_only B B.size ho h00 (by omega); replace hr := Lw.rd_onlyN ho h00 hr (by omega); replace hwS := Lw.wt_onlyN ho h00 hwS (by omega); replace kS := (Lw.k_only ho h00 zS (by omega)).trans kS; replace zS := Nat.lt_of_lt_of_le zS ho.size; replace kG := (Lw.k_only ho h00 zG (by omega)).trans kG; replace zG := Nat.lt_of_lt_of_le zG ho.size; clear ho h00 hwG; obtain ⟨s_0, s_1, s_2, s_3, s_4⟩ := Pf.five kS; obtain ⟨y_0, y_1, y_2, y_3, y_4⟩ := Pf.five kG)
    go_wp2_with (go_at_call 26; refine (Pl.heldPacket_any _ _ _ _ _ _ _ _ _ hwM).mono ?_; rintro e wk ⟨rfl, hb⟩; clear s_0 s_1 s_2 s_3 s_4 y_0 y_1 y_2 y_3 y_4; replace B := Rw.next B hb; replace hr := hr.below hb; replace hwS := hwS.below hb; replace kS := (hb.block _ zS).trans kS; replace zS := Nat.lt_of_lt_of_le zS hb.size; replace kG := (hb.block _ zG).trans kG; replace zG := Nat.lt_of_lt_of_le zG hb.size; replace hwM := hwM.below hb; clear hb; obtain ⟨s_0, s_1, s_2, s_3, s_4⟩ := Pf.five kS; obtain ⟨y_0, y_1, y_2, y_3, y_4⟩ := Pf.five kG)
    go_wp2_with (go_at_call 24; refine (Rw.toByteS_any _ _ _ _ _ _ hr).mono ?_; rintro e wl ⟨rfl, hb, hmH⟩; clear s_0 s_1 s_2 s_3 s_4 y_0 y_1 y_2 y_3 y_4; replace B := Rw.next B hb; replace hr := hr.below hb; replace hwS := hwS.below hb; replace kS := (hb.block _ zS).trans kS; replace zS := Nat.lt_of_lt_of_le zS hb.size; replace kG := (hb.block _ zG).trans kG; replace zG := Nat.lt_of_lt_of_le zG hb.size; replace hwM := hwM.below hb; clear hb; obtain ⟨s_0, s_1, s_2, s_3, s_4⟩ := Pf.five kS; obtain ⟨y_0, y_1, y_2, y_3, y_4⟩ := Pf.five kG)
    go_wp2_with (go_at_call 25; refine (HA.out.1 _ _ _ _ _ hmH.rd (Nat.le_refl _)).mono ?_; rintro e wm ⟨aH, gH, cH, rfl, hwH, hgH, hcH, hb⟩; clear s_0 s_1 s_2 s_3 s_4 y_0 y_1 y_2 y_3 y_4; replace B := Rw.next B hb; replace hr := hr.below hb; replace hwS := hwS.below hb; replace kS := (hb.block _ zS).trans kS; replace zS := Nat.lt_of_lt_of_le zS hb.size; replace kG := (hb.block _ zG).trans kG; replace zG := Nat.lt_of_lt_of_le zG hb.size; replace hwM := hwM.below hb; replace hmH := hmH.below hb; clear hb; have BX := Pl.below_alloc1 wm (.cells #[.int .i64 D, .int .i64 S, .int .i64 T, .int .i64 Y, .slice aH L.length cH] 27); replace B := Rw.next B BX; replace hr := hr.below BX; replace hwS := hwS.below BX; replace kS := (BX.block _ zS).trans kS; replace zS := Nat.lt_of_lt_of_le zS BX.size; replace kG := (BX.block _ zG).trans kG; replace zG := Nat.lt_of_lt_of_le zG BX.size; replace hwM := hwM.below BX; replace hmH := hmH.below BX; replace hwH := hwH.below BX; have kH : (wm.alloc (.cells #[.int .i64 D, .int .i64 S, .int .i64 T, .int .i64 Y, .slice aH L.length cH] 27)).heap[wm.heap.size]? = some (.cells #[.int .i64 D, .int .i64 S, .int .i64 T, .int .i64 Y, .slice aH L.length cH] 27 (0, 0)) := Pl.at_new rfl; have zH : wm.heap.size < (wm.alloc (.cells #[.int .i64 D, .int .i64 S, .int .i64 T, .int .i64 Y, .slice aH L.length cH] 27)).heap.size := (by simp); clear BX; obtain ⟨s_0, s_1, s_2, s_3, s_4⟩ := Pf.five kS; obtain ⟨y_0, y_1, y_2, y_3, y_4⟩ := Pf.five kG; obtain ⟨q_0, q_1, q_2, q_3, q_4⟩ := Pf.five kH)
    go_wp2_with (go_at_call 16; refine (Pl.eqPacket_same _ _ _ _ _ _ _ _ _ _ _ _ _ _ hwH.rd hwS.rd).mono ?_; rintro e wn ⟨rfl, hb⟩; clear s_0 s_1 s_2 s_3 s_4 y_0 y_1 y_2 y_3 y_4 q_0 q_1 q_2 q_3 q_4; replace B := Rw.next B hb; replace hr := hr.below hb; replace hwS := hwS.below hb; replace kS := (hb.block _ zS).trans kS; replace zS := Nat.lt_of_lt_of_le zS hb.size; replace kG := (hb.block _ zG).trans kG; replace zG := Nat.lt_of_lt_of_le zG hb.size; replace hwM := hwM.below hb; replace hmH := hmH.below hb; replace hwH := hwH.below hb; replace kH := (hb.block _ zH).trans kH; replace zH := Nat.lt_of_lt_of_le zH hb.size; clear hb; obtain ⟨s_0, s_1, s_2, s_3, s_4⟩ := Pf.five kS; obtain ⟨y_0, y_1, y_2, y_3, y_4⟩ := Pf.five kG; obtain ⟨q_0, q_1, q_2, q_3, q_4⟩ := Pf.five kH)
    go_wp2_with (go_at_call 26; refine (Pl.heldPacket_any _ _ _ _ _ _ _ _ _ hwM).mono ?_; rintro e wo ⟨rfl, hb⟩; clear s_0 s_1 s_2 s_3 s_4 y_0 y_1 y_2 y_3 y_4 q_0 q_1 q_2 q_3 q_4; replace B := Rw.next B hb; replace hr := hr.below hb; replace hwS := hwS.below hb; replace kS := (hb.block _ zS).trans kS; replace zS := Nat.lt_of_lt_of_le zS hb.size; replace kG := (hb.block _ zG).trans kG; replace zG := Nat.lt_of_lt_of_le zG hb.size; replace hwM := hwM.below hb; replace hmH := hmH.below hb; replace hwH := hwH.below hb; replace kH := (hb.block _ zH).trans kH; replace zH := Nat.lt_of_lt_of_le zH hb.size; clear hb)
    go_ret
    exact ⟨rfl, B⟩

/-! ### THE ROW's STEP: WRITTEN OUT: LEAVE IT -/
set_option maxRecDepth 100000 in
theorem lifted (os : Os) (started : os.Started) (H : Type) (enc : TypeId × Value → H) :
    ReturnsInHanded {} Try.checked os 5 .any (Rows.fnExactIpReadSpec.pre6 enc Try.prog Try.f5 Rows.fnExactIpReadRow.domain false) (Rows.fnExactIpReadSpec.post enc Try.prog Try.f5 false true false false) := by
  refine returnsInHanded_of_change (C := Try.checked) own started (by kernel_rfl) Try.func5
    (ChangeSpec.witness6 (enc := enc) (C := Try.checked) false ⟨#[], #[.slice none 0 0], []⟩ 8 (by kernel_rfl) (by kernel_rfl) (by kernel_rfl) (by kernel_rfl)) ?_
  intro W base args ds gs before hval0 hW hcnd _
  have hval : ∀ (j : Nat) t v, Try.f5.params[j]? = some t → args[j]? = some v → Value.okWide Try.prog W .any base t v := hval0
  have hW' := hW
  obtain ⟨p, q, hA0, hV, rfl, hfz, hnd⟩ := hW
  have hA : DataW.TrodAll enc Try.prog W 0 (fun _ => true) true Try.f5.params.toList args.toList ds p := hA0
  rw [Try.params5] at hA hval
  obtain ⟨v0, vs0, d0, ds0, p0, q0, hargs, rfl, rfl, h0, r0⟩ := trodAll_cons hA
  obtain ⟨rfl, rfl, rfl⟩ := trodAll_nil r0
  obtain rfl : args = #[v0] := by cases args; simp_all
  obtain ⟨rfl, rfl⟩ := trodVars_none hV
  obtain ⟨a0, len0, cap0, rfl⟩ := okWide_slice Try.underlying22 (hval 0 22 v0 rfl rfl)
  have k0 := h0
  have lt0 : ∀ x ∈ p0, x.block < W.heap.size := by obtain ⟨m, hm⟩ := k0; exact DataW.trod_lt m _ _ _ hm
  obtain ⟨z0, w0⟩ : ∃ zs, IsRow .u8 W a0 len0 cap0 zs := by
    obtain ⟨fuel, hf⟩ := h0
    rcases open_ints Try.underlying22 Try.underlying5 (by kernel_rfl) hf with ⟨hcs, _⟩ | ⟨x, l, c, zs, hcs, _, hl, hm, hz, _, hcell, hwz⟩
    · simp [Value.cells] at hcs
      obtain ⟨rfl, rfl, rfl⟩ := hcs
      exact ⟨[], .inl ⟨rfl, rfl, rfl, rfl⟩⟩
    · simp [Value.cells] at hcs
      obtain ⟨rfl, rfl, rfl⟩ := hcs
      exact ⟨zs, .inr ⟨_, rfl, hl, hm, by simpa using hz, hcell, hwz⟩⟩
  clear hA0 hval0
  refine (walk a0 len0 cap0 z0 W w0).mono fun e W' ⟨he, bel⟩ => ?_
  subst he
  exact ⟨_, rfl, _, _, _, [], _, [], hW', trodAll_mk1 (shut_bool Try.underlying4 _), (trodAll_cons_mk (Below.trod laidOut (by kernel_rfl) (of_decide_eq_true (by kernel_rfl)) k0 bel lt0) trodAll_mk0), rfl, bel.frame _, fun h => by cases h⟩

theorem over : Rows.fnExactIpReadRow.holds Try.pinned (OpenSpec.ofChange Rows.fnExactIpReadSpec) :=
  OpenClaim.holds_of_wide 5 Try.f5 rfl rfl rfl rfl rfl rfl rfl ⟨rfl, rfl, rfl, rfl, rfl⟩ rfl rfl rfl rfl rfl (by kernel_rfl) Try.func5 (by kernel_rfl)
    (of_decide_eq_true (by kernel_rfl)) (by unfold Func.isWrapper; first | (rw [if_pos (by decide +kernel)]; kernel_rfl) | (rw [if_neg (by decide +kernel)]; exact ⟨rfl, rfl⟩))
    (fun os started H enc _ => lifted os started H enc)

/-- ████ THE STATEMENT ████ -/
theorem proved : Rows.FnExactIpReadSaid := over
end Go.Proofs.Ytjbjlmaeaajlhaa.fnExactIpRead

namespace Go.Proofs.Ytjbjlmaeaajlhaa
theorem FnExactIpRead_holds : Rows.FnExactIpReadSaid := fnExactIpRead.proved
end Go.Proofs.Ytjbjlmaeaajlhaa
