/- For every slice of bytes the law FnHex returns true and leaves its argument alone: what it draws is read by the program as it was written, as hexadecimal digits and as numbers in bytes; no condition. -/
import Derived.Test.YtjnhiolcciegaaaRows
import Derived.Test.YtjnhiolcciegaaaBack
import Derived.WalkKit
import Derived.ProofKit
import Derived.OpenShut
import Derived.ShutString
import Derived.ChangeOld
import Derived.Below
namespace Go.Proofs.Ytjnhiolcciegaaa.fnHex
open Go.ChangeShapes Go.WideShapes Go.ChangeAt Go.RowKit
open Go.ChangeMaps (open_string shut_string)
set_option linter.unusedVariables false

theorem own : ownKnob Try.prog.godebug = none := by kernel_rfl
theorem laidOut : laidOutB Try.prog = true := by kernel_rfl

/-- WHAT THE WALK IS TOLD OF A SLICE OF INTEGERS THAT CAME IN: it is nil; or it leads to a row of 'cap' cells, the numbers 'zs' (the first 'len' are its elements, the rest its spare room), each fitting its kind. -/
def IsRow (k : IntKind) (w : World) (a : Option Addr) (len cap : Nat) (zs : List Int) : Prop :=
  (a = none ∧ len = 0 ∧ cap = 0 ∧ zs = []) ∨
  ∃ x, a = some x ∧ len ≤ cap ∧ cap ≤ maxLen ∧ zs.length = cap ∧ (∀ i, i < zs.length → w.cell? (x.add i) = some (.int k (zs.getD i 0))) ∧ ∀ n ∈ zs, (Lit.int k n).wf = true

/-! ### STEP 1: THE WALK: the Go text returns true, AND WRITES NOTHING THAT WAS THERE: 'Below w.heap.size w w'' (Derived/Below.lean: '.refl', '.alloc', '.drew', '.setCell' at a new block, '.trans'). Open each 'IsRow' by 'rcases' AHEAD of 'go_enter'; part every test ahead of the walk. -/
set_option maxHeartbeats 2000000 in
theorem walk (a0 : Option Addr) (len0 cap0 : Nat) (z0 : List Int) (w : World) (w0 : IsRow .u8 w a0 len0 cap0 z0) :
    Calls Try.prog 3 #[.slice a0 len0 cap0] w fun e w' => e = .returned (.bool true) ∧ Below w.heap.size w w' := by
  by_cases hbig : 1048576 < len0
  · have hbz : (1048576 : Int) < (len0 : Int) := by omega
    go_enter Try.func3, Try.ntmps3
    go_wp2
    go_ret
    exact ⟨rfl, Below.refl _ _⟩
  · obtain ⟨b, off, l0, hl, hr⟩ := Rw.rd_of_isRow w0 (by omega)
    subst hl
    have hbz : ¬ (1048576 : Int) < (l0.length : Int) := by omega
    clear w0
    go_enter Try.func3, Try.ntmps3
    go_wp2_with (go_at_call 12; refine (Dr.drawPut_any _ _ _ _ _ _ hr).mono ?_; rintro e w1 ⟨gb, cb, l, n, size, rfl, hW, hgb, hB⟩)
    · have h100 : (l.length : Int) < 100 := by assumption
      have hy := hW.byt
      have h6 : l.length ≤ 60000 := by omega
      have hsz : (Bk.txt l).size ≤ maxLen := by rw [Bk.txt_size]; unfold maxLen; omega
      go_wp2_with (first | (go_at_call 14; refine (Hex.implHex_any _ _ _ _ _ _ hW.rd).mono ?_; rintro e w2 ⟨he, hb2⟩; replace he : e = .returned (.string (Bk.txt l)) := he; subst he) | (go_at_call 13; refine (Un.implUnhex_any (Bk.txt l) _ hsz).mono ?_; rintro e w3 ⟨aU, gU, cU, he, hWU, hgU, hb3⟩; rw [Bk.txt_back l hy h6] at he hWU; rw [Bk.txt_ok l hy h6] at he; subst he; have hcv1 := Bk.conv_any cU hWU.rd; have hcv2 := Bk.conv_any cb ((hW.below hb2).below hb3).rd))
      replace hW := (hW.below hb2).below hb3
      replace hB := Rw.next (Rw.next hB hb2) hb3
      clear hcv1 hcv2 hWU
      by_cases hok : Put.putOk l.length n size = true
      · obtain ⟨N, z, rfl, rfl, z1, z6, hlen, hacc⟩ := Bk.put_facts hok
        obtain ⟨L, hL⟩ : ∃ L, Put.putl l (N : Int) (z : Int) = L := ⟨_, rfl⟩
        rw [hL] at hlen hacc
        have HG : Hid (Put.putl l (N : Int) (z : Int) = L) := hL
        clear hL
        have hlz : ((L.length : Int) == (l.length : Int) + (z : Int)) = true := by simp; omega
        have hpl : l.length + z ≤ L.length := by omega
        have hls := hW.size
        clear hlen
        go_wp2_with (first | (go_at_call 15; refine (Put.implPut_any _ _ _ _ _ _ _ hW.rd).mono ?_; rintro e wp ⟨aO, gO, cO, he, hWO, hgO, hbO⟩; rw [hok] at he; rw [HG.out] at he hWO; subst he; replace hW := hW.below hbO; replace hB := Rw.next hB hbO) | (go_at_call 16; refine (Put.specPut_any _ _ _ _ _ _ _ hW.rd).mono ?_; rintro e wq ⟨aQ, gQ, cQ, he, hWQ, hgQ, hbQ⟩; rw [hok] at he; rw [HG.out] at he; subst he; replace hWO := hWO.below hbQ; replace hB := Rw.next hB hbQ) | (go_at_call 17; refine (Get.implGet_yes _ _ _ _ _ _ _ _ hWO.rd z1 z6 hpl).mono ?_; rw [hacc]; rintro e w' ⟨rfl, rfl⟩))
        go_ret
        exact ⟨rfl, hB⟩
      · have hno : Put.putOk l.length n size = false := by simpa using hok
        have hnil := Bk.put_nil hno
        have hgn := Bk.get_none (len := l.length) (size := size)
        clear hok
        go_wp2_with (first | (go_at_call 15; refine (Put.implPut_any _ _ _ _ _ _ _ hW.rd).mono ?_; rintro e wp ⟨aO, gO, cO, he, hWO, hgO, hbO⟩; rw [hno, hnil] at he; subst he; replace hW := hW.below hbO; replace hB := Rw.next hB hbO) | (go_at_call 16; refine (Put.specPut_any _ _ _ _ _ _ _ hW.rd).mono ?_; rintro e wq ⟨aQ, gQ, cQ, he, hWQ, hgQ, hbQ⟩; rw [hno] at he; subst he; replace hB := Rw.next hB hbQ) | (go_at_call 17; refine (Get.implGet_no _ _ 0 _ _ _ (by omega) hgn).mono ?_; rintro e w' ⟨rfl, rfl⟩))
        go_ret
        exact ⟨rfl, hB⟩
    · by_cases hok : Put.putOk l.length n size = true
      · obtain ⟨N, z, rfl, rfl, z1, z6, hlen, hacc⟩ := Bk.put_facts hok
        obtain ⟨L, hL⟩ : ∃ L, Put.putl l (N : Int) (z : Int) = L := ⟨_, rfl⟩
        rw [hL] at hlen hacc
        have HG : Hid (Put.putl l (N : Int) (z : Int) = L) := hL
        clear hL
        have hlz : ((L.length : Int) == (l.length : Int) + (z : Int)) = true := by simp; omega
        have hpl : l.length + z ≤ L.length := by omega
        have hls := hW.size
        clear hlen
        go_wp2_with (first | (go_at_call 15; refine (Put.implPut_any _ _ _ _ _ _ _ hW.rd).mono ?_; rintro e wp ⟨aO, gO, cO, he, hWO, hgO, hbO⟩; rw [hok] at he; rw [HG.out] at he hWO; subst he; replace hW := hW.below hbO; replace hB := Rw.next hB hbO) | (go_at_call 16; refine (Put.specPut_any _ _ _ _ _ _ _ hW.rd).mono ?_; rintro e wq ⟨aQ, gQ, cQ, he, hWQ, hgQ, hbQ⟩; rw [hok] at he; rw [HG.out] at he; subst he; replace hWO := hWO.below hbQ; replace hB := Rw.next hB hbQ) | (go_at_call 17; refine (Get.implGet_yes _ _ _ _ _ _ _ _ hWO.rd z1 z6 hpl).mono ?_; rw [hacc]; rintro e w' ⟨rfl, rfl⟩))
        go_ret
        exact ⟨rfl, hB⟩
      · have hno : Put.putOk l.length n size = false := by simpa using hok
        have hnil := Bk.put_nil hno
        have hgn := Bk.get_none (len := l.length) (size := size)
        clear hok
        go_wp2_with (first | (go_at_call 15; refine (Put.implPut_any _ _ _ _ _ _ _ hW.rd).mono ?_; rintro e wp ⟨aO, gO, cO, he, hWO, hgO, hbO⟩; rw [hno, hnil] at he; subst he; replace hW := hW.below hbO; replace hB := Rw.next hB hbO) | (go_at_call 16; refine (Put.specPut_any _ _ _ _ _ _ _ hW.rd).mono ?_; rintro e wq ⟨aQ, gQ, cQ, he, hWQ, hgQ, hbQ⟩; rw [hno] at he; subst he; replace hB := Rw.next hB hbQ) | (go_at_call 17; refine (Get.implGet_no _ _ 0 _ _ _ (by omega) hgn).mono ?_; rintro e w' ⟨rfl, rfl⟩))
        go_ret
        exact ⟨rfl, hB⟩

/-! ### THE ROW's STEP: WRITTEN OUT: LEAVE IT -/
set_option maxRecDepth 100000 in
theorem lifted (os : Os) (started : os.Started) (H : Type) (enc : TypeId × Value → H) :
    ReturnsInHanded {} Try.checked os 3 .any (Rows.fnHexSpec.pre6 enc Try.prog Try.f3 Rows.fnHexRow.domain false) (Rows.fnHexSpec.post enc Try.prog Try.f3 false true false false) := by
  refine returnsInHanded_of_change (C := Try.checked) own started (by kernel_rfl) Try.func3
    (ChangeSpec.witness6 (enc := enc) (C := Try.checked) false ⟨#[], #[.slice none 0 0], []⟩ 8 (by kernel_rfl) (by kernel_rfl) (by kernel_rfl) (by kernel_rfl)) ?_
  intro W base args ds gs before hval0 hW hcnd _
  have hval : ∀ (j : Nat) t v, Try.f3.params[j]? = some t → args[j]? = some v → Value.okWide Try.prog W .any base t v := hval0
  have hW' := hW
  obtain ⟨p, q, hA0, hV, rfl, hfz, hnd⟩ := hW
  have hA : DataW.TrodAll enc Try.prog W 0 (fun _ => true) true Try.f3.params.toList args.toList ds p := hA0
  rw [Try.params3] at hA hval
  obtain ⟨v0, vs0, d0, ds0, p0, q0, hargs, rfl, rfl, h0, r0⟩ := trodAll_cons hA
  obtain ⟨rfl, rfl, rfl⟩ := trodAll_nil r0
  obtain rfl : args = #[v0] := by cases args; simp_all
  obtain ⟨rfl, rfl⟩ := trodVars_none hV
  obtain ⟨a0, len0, cap0, rfl⟩ := okWide_slice Try.underlying22 (hval 0 22 v0 rfl rfl)
  have k0 := h0
  have lt0 : ∀ x ∈ p0, x.block < W.heap.size := by obtain ⟨m, hm⟩ := k0; exact DataW.trod_lt m _ _ _ hm
  obtain ⟨z0, w0⟩ : ∃ zs, IsRow .u8 W a0 len0 cap0 zs := by
    obtain ⟨fuel, hf⟩ := h0
    rcases open_ints Try.underlying22 Try.underlying5 (by kernel_rfl) hf with ⟨hcs, _⟩ | ⟨x, l, c, zs, hcs, _, hl, hm, hz, _, hcell, hwz⟩
    · simp [Value.cells] at hcs
      obtain ⟨rfl, rfl, rfl⟩ := hcs
      exact ⟨[], .inl ⟨rfl, rfl, rfl, rfl⟩⟩
    · simp [Value.cells] at hcs
      obtain ⟨rfl, rfl, rfl⟩ := hcs
      exact ⟨zs, .inr ⟨_, rfl, hl, hm, by simpa using hz, hcell, hwz⟩⟩
  clear hA0 hval0
  refine (walk a0 len0 cap0 z0 W w0).mono fun e W' ⟨he, bel⟩ => ?_
  subst he
  exact ⟨_, rfl, _, _, _, [], _, [], hW', trodAll_mk1 (shut_bool Try.underlying4 _), (trodAll_cons_mk (Below.trod laidOut (by kernel_rfl) (of_decide_eq_true (by kernel_rfl)) k0 bel lt0) trodAll_mk0), rfl, bel.frame _, fun h => by cases h⟩

theorem over : Rows.fnHexRow.holds Try.pinned (OpenSpec.ofChange Rows.fnHexSpec) :=
  OpenClaim.holds_of_wide 3 Try.f3 rfl rfl rfl rfl rfl rfl rfl ⟨rfl, rfl, rfl, rfl, rfl⟩ rfl rfl rfl rfl rfl (by kernel_rfl) Try.func3 (by kernel_rfl)
    (of_decide_eq_true (by kernel_rfl)) (by unfold Func.isWrapper; first | (rw [if_pos (by decide +kernel)]; kernel_rfl) | (rw [if_neg (by decide +kernel)]; exact ⟨rfl, rfl⟩))
    (fun os started H enc _ => lifted os started H enc)

/-- ████ THE STATEMENT ████ -/
theorem proved : Rows.FnHexSaid := over
end Go.Proofs.Ytjnhiolcciegaaa.fnHex

namespace Go.Proofs.Ytjnhiolcciegaaa
theorem FnHex_holds : Rows.FnHexSaid := fnHex.proved
end Go.Proofs.Ytjnhiolcciegaaa
