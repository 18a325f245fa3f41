/- For every slice of bytes and every two integers the law FnExactPutNum returns true and leaves its arguments alone: the program's PutNum answers as the specification's, and its answer owns its memory; no condition. -/
import Derived.Test.YtjnhiolcciegaaaRows
import Derived.Test.YtjnhiolcciegaaaPut
import Derived.WalkKit
import Derived.ProofKit
import Derived.OpenShut
import Derived.ShutString
import Derived.ChangeOld
import Derived.Below
namespace Go.Proofs.Ytjnhiolcciegaaa.fnExactPutNum
open Go.ChangeShapes Go.WideShapes Go.ChangeAt Go.RowKit
open Go.ChangeMaps (open_string shut_string)
set_option linter.unusedVariables false

theorem own : ownKnob Try.prog.godebug = none := by kernel_rfl
theorem laidOut : laidOutB Try.prog = true := by kernel_rfl

/-- WHAT THE WALK IS TOLD OF A SLICE OF INTEGERS THAT CAME IN: it is nil; or it leads to a row of 'cap' cells, the numbers 'zs' (the first 'len' are its elements, the rest its spare room), each fitting its kind. -/
def IsRow (k : IntKind) (w : World) (a : Option Addr) (len cap : Nat) (zs : List Int) : Prop :=
  (a = none ∧ len = 0 ∧ cap = 0 ∧ zs = []) ∨
  ∃ x, a = some x ∧ len ≤ cap ∧ cap ≤ maxLen ∧ zs.length = cap ∧ (∀ i, i < zs.length → w.cell? (x.add i) = some (.int k (zs.getD i 0))) ∧ ∀ n ∈ zs, (Lit.int k n).wf = true

/-! ### STEP 1: THE WALK: the Go text returns true, AND WRITES NOTHING THAT WAS THERE: 'Below w.heap.size w w'' (Derived/Below.lean: '.refl', '.alloc', '.drew', '.setCell' at a new block, '.trans'). Open each 'IsRow' by 'rcases' AHEAD of 'go_enter'; part every test ahead of the walk. -/
set_option maxHeartbeats 2000000 in
theorem walk (a0 : Option Addr) (len0 cap0 : Nat) (z0 : List Int) (a1 : Int) (a2 : Int) (w : World) (w0 : IsRow .u8 w a0 len0 cap0 z0) (w1 : (Lit.int .i64 a1).wf = true) (w2 : (Lit.int .i64 a2).wf = true) :
    Calls Try.prog 5 #[.slice a0 len0 cap0, .int .i64 a1, .int .i64 a2] w fun e w' => e = .returned (.bool true) ∧ Below w.heap.size w w' := by
  by_cases hbig : 1048576 < len0
  · have hbz : (1048576 : Int) < (len0 : Int) := by omega
    go_enter Try.func5, Try.ntmps5
    go_wp2
    go_ret
    exact ⟨rfl, Below.refl _ _⟩
  · obtain ⟨b, off, l, hl, hr⟩ := Rw.rd_of_isRow w0 (by omega)
    subst hl
    have hbz : ¬ (1048576 : Int) < (l.length : Int) := by omega
    clear w0
    go_enter Try.func5, Try.ntmps5
    go_wp2_with (go_at_call 20; refine (Rw.toByteS_any _ _ _ _ _ _ hr).mono ?_; rintro e wa ⟨rfl, hba, hma⟩)
    have hra := hr.below hba
    go_wp2_with (go_at_call 16; refine (Put.specPut_any _ _ _ _ _ _ _ hma.rd).mono ?_; rintro e wb ⟨aS, gS, cS, rfl, hwS, hgS, hbb⟩)
    have hrb := hra.below hbb
    go_wp2_with (go_at_call 20; refine (Rw.toByteS_any _ _ _ _ _ _ hrb).mono ?_; rintro e wc ⟨rfl, hbc, hmc⟩)
    have hrc := hrb.below hbc
    have ltS := Put.wt_lt hwS
    have hwSc := hwS.below hbc
    have ltX := hmc.row.lt
    go_wp2_with (go_at_call 15; refine (Put.implPut_any _ _ _ _ _ _ _ hmc.rd).mono ?_; rintro e wd ⟨aG, gG, cG, rfl, hwG, hgG, hbd⟩)
    have hrd := hrc.below hbd
    have hwSd := hwSc.below hbd
    have hmd := hmc.below hbd
    go_wp2_with (go_at_call 21; refine (Rw.eqByteS_any _ _ _ _ _ _ _ _ _ _ _ hwG.rd hwSd.rd).mono ?_; rw [decide_eq_true rfl]; rintro e we ⟨rfl, hbe⟩)
    have hre := hrd.below hbe
    have hwSe := hwSd.below hbe
    have hme := hmd.below hbe
    have hwGe := hwG.below hbe
    go_wp2_with (go_at_call 20; refine (Rw.toByteS_any _ _ _ _ _ _ hre).mono ?_; rintro e wf ⟨rfl, hbf, hmf⟩)
    have hrf := hre.below hbf
    have hwSf := hwSe.below hbf
    have hmef := hme.below hbf
    have hwGf := hwGe.below hbf
    go_wp2_with (go_at_call 21; refine (Rw.eqByteS_any _ _ _ _ _ _ _ _ l l _ hmef.rd hmf.rd).mono ?_; rw [decide_eq_true rfl]; rintro e wg ⟨rfl, hbg⟩)
    have hrg := hrf.below hbg
    have hwSg := hwSf.below hbg
    have hmg := hmef.below hbg
    have hwGg := hwGf.below hbg
    have B : Below w.heap.size w wg := Rw.next (Rw.next (Rw.next (Rw.next (Rw.next (Rw.next hba hbb) hbc) hbd) hbe) hbf) hbg
    have sz1 := hba.size
    have sz2 := hbb.size
    have sz3 := hbc.size
    have neS : (Put.putl l a1 a2).length = 0 ∨ gS ≠ wb.heap.size := by omega
    have neG : (Put.putl l a1 a2).length = 0 ∨ gG ≠ wb.heap.size := by omega
    have hltb : l.length = 0 ∨ b < w.heap.size := by
      rcases Nat.eq_zero_or_pos l.length with h | h
      · exact .inl h
      · exact .inr (World.block_lt_of_cell? _ _ (hr.cell 0 h))
    clear hr hra hrb hrc hrd hre hrf hwS hwSc hwSd hwSe hwSf hma hmc hmd hme hmef hmf hwG hwGe hwGf hbb hbc hbd hbe hbf hbg
    have hk0 : ¬ (1 + (l.length : Int) < 0) := by omega
    have hq0 : ¬ (1 + ((Put.putl l a1 a2).length : Int) < 0) := by omega
    go_wp2_with (go_at_call 22; refine (Mk.mark_any _ _ _ _ _ (Mk.mine_wt hmg)).mono ?_; rintro e wh ⟨rfl, hoh, hwXh⟩)
    have hwSh := Put.wt_only hoh hwSg neS
    have hwGh := Put.wt_only hoh hwGg neG
    have hrh := Put.rd_only hoh hrg (by omega)
    have Bh : Below w.heap.size w wh := hoh.below B B.size (by omega)
    clear hwXh hmg hwSg hwGg hrg
    go_wp2_with (go_at_call 21; refine (Rw.eqByteS_any _ _ _ _ _ _ _ _ _ _ _ hwGh.rd hwSh.rd).mono ?_; rw [decide_eq_true rfl]; rintro e wi ⟨rfl, hbi⟩)
    have hwSi := hwSh.below hbi
    have hwGi := hwGh.below hbi
    have hri := hrh.below hbi
    have Bi := Rw.next Bh hbi
    clear hwSh hwGh hrh Bh hbi
    go_wp2_with (go_at_call 22; refine (Mk.mark_any _ _ _ _ _ hwGi).mono ?_; rintro e wj ⟨rfl, hoj, hwGj⟩)
    have hwSj := Put.wt_only hoj hwSi (by omega)
    have hrj := Put.rd_only hoj hri (by omega)
    have Bj : Below w.heap.size w wj := hoj.below Bi Bi.size (by omega)
    clear hwGi hwSi hri
    go_wp2_with (first | (go_at_call 23; refine (Mk.held_any _ _ _ _ _ hwGj).mono ?_; rintro e w' ⟨rfl, rfl⟩) | (go_at_call 20; refine (Rw.toByteS_any _ _ _ _ _ _ hrj).mono ?_; rintro e wk ⟨rfl, hbk, hmk⟩))
    have hwSk := hwSj.below hbk
    have hwGk := hwGj.below hbk
    have Bk := Rw.next Bj hbk
    go_wp2_with (go_at_call 15; refine (Put.implPut_any _ _ _ _ _ _ _ hmk.rd).mono ?_; rintro e wl ⟨aH, gH, cH, rfl, hwH, hgH, hbl⟩)
    have hwSl := hwSk.below hbl
    have hwGl := hwGk.below hbl
    have Bl := Rw.next Bk hbl
    go_wp2_with (go_at_call 21; refine (Rw.eqByteS_any _ _ _ _ _ _ _ _ _ _ _ hwH.rd hwSl.rd).mono ?_; rw [decide_eq_true rfl]; rintro e wm ⟨rfl, hbm⟩)
    have hwGm := hwGl.below hbm
    go_wp2_with (go_at_call 23; refine (Mk.held_any _ _ _ _ _ hwGm).mono ?_; rintro e w' ⟨rfl, rfl⟩)
    go_ret
    exact ⟨rfl, Rw.next Bl hbm⟩

/-! ### THE ROW's STEP: WRITTEN OUT: LEAVE IT -/
set_option maxRecDepth 100000 in
theorem lifted (os : Os) (started : os.Started) (H : Type) (enc : TypeId × Value → H) :
    ReturnsInHanded {} Try.checked os 5 .any (Rows.fnExactPutNumSpec.pre6 enc Try.prog Try.f5 Rows.fnExactPutNumRow.domain false) (Rows.fnExactPutNumSpec.post enc Try.prog Try.f5 false true false false) := by
  refine returnsInHanded_of_change (C := Try.checked) own started (by kernel_rfl) Try.func5
    (ChangeSpec.witness6 (enc := enc) (C := Try.checked) false ⟨#[], #[.slice none 0 0, .int .i64 0, .int .i64 0], []⟩ 8 (by kernel_rfl) (by kernel_rfl) (by kernel_rfl) (by kernel_rfl)) ?_
  intro W base args ds gs before hval0 hW hcnd _
  have hval : ∀ (j : Nat) t v, Try.f5.params[j]? = some t → args[j]? = some v → Value.okWide Try.prog W .any base t v := hval0
  have hW' := hW
  obtain ⟨p, q, hA0, hV, rfl, hfz, hnd⟩ := hW
  have hA : DataW.TrodAll enc Try.prog W 0 (fun _ => true) true Try.f5.params.toList args.toList ds p := hA0
  rw [Try.params5] at hA hval
  obtain ⟨v0, vs0, d0, ds0, p0, q0, hargs, rfl, rfl, h0, r0⟩ := trodAll_cons hA
  obtain ⟨v1, vs1, d1, ds1, p1, q1, rfl, rfl, rfl, h1, r1⟩ := trodAll_cons r0
  obtain ⟨v2, vs2, d2, ds2, p2, q2, rfl, rfl, rfl, h2, r2⟩ := trodAll_cons r1
  obtain ⟨rfl, rfl, rfl⟩ := trodAll_nil r2
  obtain rfl : args = #[v0, v1, v2] := by cases args; simp_all
  obtain ⟨rfl, rfl⟩ := trodVars_none hV
  obtain ⟨a0, len0, cap0, rfl⟩ := okWide_slice Try.underlying22 (hval 0 22 v0 rfl rfl)
  have k0 := h0
  have lt0 : ∀ x ∈ p0, x.block < W.heap.size := by obtain ⟨m, hm⟩ := k0; exact DataW.trod_lt m _ _ _ hm
  obtain ⟨z0, w0⟩ : ∃ zs, IsRow .u8 W a0 len0 cap0 zs := by
    obtain ⟨fuel, hf⟩ := h0
    rcases open_ints Try.underlying22 Try.underlying5 (by kernel_rfl) hf with ⟨hcs, _⟩ | ⟨x, l, c, zs, hcs, _, hl, hm, hz, _, hcell, hwz⟩
    · simp [Value.cells] at hcs
      obtain ⟨rfl, rfl, rfl⟩ := hcs
      exact ⟨[], .inl ⟨rfl, rfl, rfl, rfl⟩⟩
    · simp [Value.cells] at hcs
      obtain ⟨rfl, rfl, rfl⟩ := hcs
      exact ⟨zs, .inr ⟨_, rfl, hl, hm, by simpa using hz, hcell, hwz⟩⟩
  obtain ⟨a1, rfl, rfl, rfl, w1⟩ := open_int Try.underlying3 (hval 1 3 v1 rfl rfl) h1
  obtain ⟨a2, rfl, rfl, rfl, w2⟩ := open_int Try.underlying3 (hval 2 3 v2 rfl rfl) h2
  clear hA0 hval0
  refine (walk a0 len0 cap0 z0 a1 a2 W w0 w1 w2).mono fun e W' ⟨he, bel⟩ => ?_
  subst he
  exact ⟨_, rfl, _, _, _, [], _, [], hW', trodAll_mk1 (shut_bool Try.underlying4 _), (trodAll_cons_mk (Below.trod laidOut (by kernel_rfl) (of_decide_eq_true (by kernel_rfl)) k0 bel lt0) (trodAll_cons_mk (shut_int Try.underlying3 w1) (trodAll_cons_mk (shut_int Try.underlying3 w2) trodAll_mk0))), rfl, bel.frame _, fun h => by cases h⟩

theorem over : Rows.fnExactPutNumRow.holds Try.pinned (OpenSpec.ofChange Rows.fnExactPutNumSpec) :=
  OpenClaim.holds_of_wide 5 Try.f5 rfl rfl rfl rfl rfl rfl rfl ⟨rfl, rfl, rfl, rfl, rfl⟩ rfl rfl rfl rfl rfl (by kernel_rfl) Try.func5 (by kernel_rfl)
    (of_decide_eq_true (by kernel_rfl)) (by unfold Func.isWrapper; first | (rw [if_pos (by decide +kernel)]; kernel_rfl) | (rw [if_neg (by decide +kernel)]; exact ⟨rfl, rfl⟩))
    (fun os started H enc _ => lifted os started H enc)

/-- ████ THE STATEMENT ████ -/
theorem proved : Rows.FnExactPutNumSaid := over
end Go.Proofs.Ytjnhiolcciegaaa.fnExactPutNum

namespace Go.Proofs.Ytjnhiolcciegaaa
theorem FnExactPutNum_holds : Rows.FnExactPutNumSaid := fnExactPutNum.proved
end Go.Proofs.Ytjnhiolcciegaaa
