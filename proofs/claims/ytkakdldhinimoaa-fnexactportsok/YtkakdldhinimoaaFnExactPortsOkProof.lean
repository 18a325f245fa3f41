/- At every list of integers the program and the specification answer the same whether the ports are right, and the argument reads as before; no condition. -/
import Derived.Test.YtkakdldhinimoaaRows
import Derived.Test.YtkakdldhinimoaaYa
import Derived.WalkKit
import Derived.ProofKit
import Derived.OpenShut
import Derived.ShutString
import Derived.ChangeOld
import Derived.Below
namespace Go.Proofs.Ytkakdldhinimoaa.fnExactPortsOk
open Go.ChangeShapes Go.WideShapes Go.ChangeAt Go.RowKit
open Go.ChangeMaps (open_string shut_string)
set_option linter.unusedVariables false

theorem own : ownKnob Try.prog.godebug = none := by kernel_rfl
theorem laidOut : laidOutB Try.prog = true := by kernel_rfl

/-- WHAT THE WALK IS TOLD OF A SLICE OF INTEGERS THAT CAME IN: it is nil; or it leads to a row of 'cap' cells, the numbers 'zs' (the first 'len' are its elements, the rest its spare room), each fitting its kind. -/
def IsRow (k : IntKind) (w : World) (a : Option Addr) (len cap : Nat) (zs : List Int) : Prop :=
  (a = none ∧ len = 0 ∧ cap = 0 ∧ zs = []) ∨
  ∃ x, a = some x ∧ len ≤ cap ∧ cap ≤ maxLen ∧ zs.length = cap ∧ (∀ i, i < zs.length → w.cell? (x.add i) = some (.int k (zs.getD i 0))) ∧ ∀ n ∈ zs, (Lit.int k n).wf = true

/-! ### STEP 1: THE WALK: the Go text returns true, AND WRITES NOTHING THAT WAS THERE: 'Below w.heap.size w w'' (Derived/Below.lean: '.refl', '.alloc', '.drew', '.setCell' at a new block, '.trans'). Open each 'IsRow' by 'rcases' AHEAD of 'go_enter'; part every test ahead of the walk. -/
set_option maxRecDepth 20000 in
set_option maxHeartbeats 4000000 in
theorem walk (a0 : Option Addr) (len0 cap0 : Nat) (z0 : List Int) (w : World) (w0 : IsRow .i64 w a0 len0 cap0 z0) :
    Calls Try.prog 3 #[.slice a0 len0 cap0] w fun e w' => e = .returned (.bool true) ∧ Below w.heap.size w w' := by
  by_cases hbig : 1048576 < len0
  · have hbz : (1048576 : Int) < (len0 : Int) := by omega
    go_enter Try.func3, Try.ntmps3
    go_wp2
    go_ret
    exact ⟨rfl, Below.refl _ _⟩
  · obtain ⟨b, off, l, hl, hr⟩ := Hr.rd_of_isRow w0 (by omega)
    subst hl
    have hbz : ¬ (1048576 : Int) < (l.length : Int) := by omega
    generalize hR : Ya.portsB l = R
    have HR : Hid (Ya.portsB l = R) := hR
    clear hR hbig
    go_enter Try.func3, Try.ntmps3
    have t1 : True := trivial
    go_wp2_with (go_at_call 13; clear t1; refine (Hr.toIntS_any _ _ _ _ _ _ hr).mono ?_; rintro e w1 ⟨rfl, B1, m1⟩)
    go_wp2_with (go_at_call 12; refine (Ya.portsS _ _ _ _ _ _ m1.rd).mono ?_; rw [HR.out]; rintro e w2 ⟨rfl, hw⟩; replace hw := hw.symm; subst hw; clear m1; replace hr := hr.below B1)
    have t2 : True := trivial
    go_wp2_with (go_at_call 13; clear t2; refine (Hr.toIntS_any _ _ _ _ _ _ hr).mono ?_; rintro e w2 ⟨rfl, B2, m2⟩; replace hr := hr.below B2; replace B1 := Rw.next B1 B2)
    go_wp2_with (go_at_call 14; refine (Ya.portsI _ _ _ _ _ _ m2.rd).mono ?_; rw [HR.out]; rintro e w3 ⟨rfl, hw⟩; replace hw := hw.symm; subst hw)
    have t3 : True := trivial
    go_wp2_with (go_at_call 13; clear t3; refine (Hr.toIntS_any _ _ _ _ _ _ hr).mono ?_; rintro e w3 ⟨rfl, B3, m3⟩; replace m2 := m2.below B3; replace B1 := Rw.next B1 B3)
    go_wp2_with (go_at_call 15; refine (Hr.eqIntS_any _ _ _ _ _ _ _ _ _ _ _ m2.rd m3.rd).mono ?_; rw [decide_eq_true rfl]; rintro e w4 ⟨rfl, B4⟩; replace B1 := Rw.next B1 B4)
    go_ret
    exact ⟨rfl, B1⟩

/-! ### THE ROW's STEP: WRITTEN OUT: LEAVE IT -/
set_option maxRecDepth 100000 in
theorem lifted (os : Os) (started : os.Started) (H : Type) (enc : TypeId × Value → H) :
    ReturnsInHanded {} Try.checked os 3 .any (Rows.fnExactPortsOkSpec.pre6 enc Try.prog Try.f3 Rows.fnExactPortsOkRow.domain false) (Rows.fnExactPortsOkSpec.post enc Try.prog Try.f3 false true false false) := by
  refine returnsInHanded_of_change (C := Try.checked) own started (by kernel_rfl) Try.func3
    (ChangeSpec.witness6 (enc := enc) (C := Try.checked) false ⟨#[], #[.slice none 0 0], []⟩ 8 (by kernel_rfl) (by kernel_rfl) (by kernel_rfl) (by kernel_rfl)) ?_
  intro W base args ds gs before hval0 hW hcnd _
  have hval : ∀ (j : Nat) t v, Try.f3.params[j]? = some t → args[j]? = some v → Value.okWide Try.prog W .any base t v := hval0
  have hW' := hW
  obtain ⟨p, q, hA0, hV, rfl, hfz, hnd⟩ := hW
  have hA : DataW.TrodAll enc Try.prog W 0 (fun _ => true) true Try.f3.params.toList args.toList ds p := hA0
  rw [Try.params3] at hA hval
  obtain ⟨v0, vs0, d0, ds0, p0, q0, hargs, rfl, rfl, h0, r0⟩ := trodAll_cons hA
  obtain ⟨rfl, rfl, rfl⟩ := trodAll_nil r0
  obtain rfl : args = #[v0] := by cases args; simp_all
  obtain ⟨rfl, rfl⟩ := trodVars_none hV
  obtain ⟨a0, len0, cap0, rfl⟩ := okWide_slice Try.underlying22 (hval 0 22 v0 rfl rfl)
  have k0 := h0
  have lt0 : ∀ x ∈ p0, x.block < W.heap.size := by obtain ⟨m, hm⟩ := k0; exact DataW.trod_lt m _ _ _ hm
  obtain ⟨z0, w0⟩ : ∃ zs, IsRow .i64 W a0 len0 cap0 zs := by
    obtain ⟨fuel, hf⟩ := h0
    rcases open_ints Try.underlying22 Try.underlying3 (by kernel_rfl) hf with ⟨hcs, _⟩ | ⟨x, l, c, zs, hcs, _, hl, hm, hz, _, hcell, hwz⟩
    · simp [Value.cells] at hcs
      obtain ⟨rfl, rfl, rfl⟩ := hcs
      exact ⟨[], .inl ⟨rfl, rfl, rfl, rfl⟩⟩
    · simp [Value.cells] at hcs
      obtain ⟨rfl, rfl, rfl⟩ := hcs
      exact ⟨zs, .inr ⟨_, rfl, hl, hm, by simpa using hz, hcell, hwz⟩⟩
  clear hA0 hval0
  refine (walk a0 len0 cap0 z0 W w0).mono fun e W' ⟨he, bel⟩ => ?_
  subst he
  exact ⟨_, rfl, _, _, _, [], _, [], hW', trodAll_mk1 (shut_bool Try.underlying4 _), (trodAll_cons_mk (Below.trod laidOut (by kernel_rfl) (of_decide_eq_true (by kernel_rfl)) k0 bel lt0) trodAll_mk0), rfl, bel.frame _, fun h => by cases h⟩

theorem over : Rows.fnExactPortsOkRow.holds Try.pinned (OpenSpec.ofChange Rows.fnExactPortsOkSpec) :=
  OpenClaim.holds_of_wide 3 Try.f3 rfl rfl rfl rfl rfl rfl rfl ⟨rfl, rfl, rfl, rfl, rfl⟩ rfl rfl rfl rfl rfl (by kernel_rfl) Try.func3 (by kernel_rfl)
    (of_decide_eq_true (by kernel_rfl)) (by unfold Func.isWrapper; first | (rw [if_pos (by decide +kernel)]; kernel_rfl) | (rw [if_neg (by decide +kernel)]; exact ⟨rfl, rfl⟩))
    (fun os started H enc _ => lifted os started H enc)

/-- ████ THE STATEMENT ████ -/
theorem proved : Rows.FnExactPortsOkSaid := over
end Go.Proofs.Ytkakdldhinimoaa.fnExactPortsOk

namespace Go.Proofs.Ytkakdldhinimoaa
theorem FnExactPortsOk_holds : Rows.FnExactPortsOkSaid := fnExactPortsOk.proved
end Go.Proofs.Ytkakdldhinimoaa
