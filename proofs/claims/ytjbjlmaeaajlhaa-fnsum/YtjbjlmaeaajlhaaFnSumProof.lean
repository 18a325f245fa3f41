/- For every slice of bytes the law FnSum returns true and leaves its argument alone: the sum of the head of each drawn datagram that the program writes, its sum in it, is 0; no condition. -/
import Derived.Test.YtjbjlmaeaajlhaaRows
import Derived.Test.YtjbjlmaeaajlhaaLw
import Derived.Test.YtjbjlmaeaajlhaaFs
import Derived.WalkKit
import Derived.ProofKit
import Derived.OpenShut
import Derived.ShutString
import Derived.ChangeOld
import Derived.Below
namespace Go.Proofs.Ytjbjlmaeaajlhaa.fnSum
open Go.ChangeShapes Go.WideShapes Go.ChangeAt Go.RowKit
open Go.ChangeMaps (open_string shut_string)
set_option linter.unusedVariables false

theorem own : ownKnob Try.prog.godebug = none := by kernel_rfl
theorem laidOut : laidOutB Try.prog = true := by kernel_rfl

/-- WHAT THE WALK IS TOLD OF A SLICE OF INTEGERS THAT CAME IN: it is nil; or it leads to a row of 'cap' cells, the numbers 'zs' (the first 'len' are its elements, the rest its spare room), each fitting its kind. -/
def IsRow (k : IntKind) (w : World) (a : Option Addr) (len cap : Nat) (zs : List Int) : Prop :=
  (a = none ∧ len = 0 ∧ cap = 0 ∧ zs = []) ∨
  ∃ x, a = some x ∧ len ≤ cap ∧ cap ≤ maxLen ∧ zs.length = cap ∧ (∀ i, i < zs.length → w.cell? (x.add i) = some (.int k (zs.getD i 0))) ∧ ∀ n ∈ zs, (Lit.int k n).wf = true

/-! ### STEP 1: THE WALK: the Go text returns true, AND WRITES NOTHING THAT WAS THERE: 'Below w.heap.size w w'' (Derived/Below.lean: '.refl', '.alloc', '.drew', '.setCell' at a new block, '.trans'). Open each 'IsRow' by 'rcases' AHEAD of 'go_enter'; part every test ahead of the walk. -/
set_option maxHeartbeats 2000000 in
theorem walk (a0 : Option Addr) (len0 cap0 : Nat) (z0 : List Int) (w : World) (w0 : IsRow .u8 w a0 len0 cap0 z0) :
    Calls Try.prog 11 #[.slice a0 len0 cap0] w fun e w' => e = .returned (.bool true) ∧ Below w.heap.size w w' := by
  by_cases hbig : 1048576 < len0
  · have hbz : (1048576 : Int) < (len0 : Int) := by omega
    go_enter Try.func11, Try.ntmps11
    go_wp2
    go_ret
    exact ⟨rfl, Below.refl _ _⟩
  · obtain ⟨b, off, l, hl, hr⟩ := Rw.rd_of_isRow w0 (by omega)
    subst hl
    have hbz : ¬ (1048576 : Int) < (l.length : Int) := by omega
    clear w0
    go_enter Try.func11, Try.ntmps11
    go_wp2_with (go_at_call 41; refine (Dr.bytes_draw _ _ _ _ _ _ hr).mono ?_; rintro e w1 ⟨t, p, s, d, gb, cb, q, rfl, hW, B⟩; clear hr; have hyq := hW.byt; have hqs := hW.size; have BX := Pl.below_alloc1 w1 (.cells #[.int .i64 t, .int .i64 p, .int .i64 s, .int .i64 d, .slice (some ⟨gb, 0, none⟩) q.length cb] 27); replace B := Rw.next B BX; replace hW := hW.below BX; have kp : (w1.alloc (.cells #[.int .i64 t, .int .i64 p, .int .i64 s, .int .i64 d, .slice (some ⟨gb, 0, none⟩) q.length cb] 27)).heap[w1.heap.size]? = some (.cells #[.int .i64 t, .int .i64 p, .int .i64 s, .int .i64 d, .slice (some ⟨gb, 0, none⟩) q.length cb] 27 (0, 0)) := Pl.at_new rfl; have zp : w1.heap.size < (w1.alloc (.cells #[.int .i64 t, .int .i64 p, .int .i64 s, .int .i64 d, .slice (some ⟨gb, 0, none⟩) q.length cb] 27)).heap.size := (by simp); clear BX; obtain ⟨p0, p1, p2, p3, p4⟩ := Pf.five kp)
    cases hok : Ik.okI t p s d q.length with
    | false =>
      go_wp2_with (first | (go_at_call 18; refine (Ib.implNo _ _ _ _ _ _ _ _ hok).mono ?_; rintro e w2 ⟨aB, gB, cB, rfl, hwB, hgB, hb⟩; clear p0 p1 p2 p3 p4; replace B := Rw.next B hb; replace hW := hW.below hb; replace kp := (hb.block _ zp).trans kp; replace zp := Nat.lt_of_lt_of_le zp hb.size; clear hb hwB; obtain ⟨p0, p1, p2, p3, p4⟩ := Pf.five kp) | (go_at_call 13; refine (Ik.specIp_any _ _ _ _ _ _ _ _).mono ?_; rw [hok]; rintro e w3 ⟨rfl, hb⟩; clear p0 p1 p2 p3 p4; replace B := Rw.next B hb; replace hW := hW.below hb; replace kp := (hb.block _ zp).trans kp; replace zp := Nat.lt_of_lt_of_le zp hb.size; clear hb; obtain ⟨p0, p1, p2, p3, p4⟩ := Pf.five kp))
      go_ret
      exact ⟨rfl, B⟩
    | true =>
      obtain ⟨L, hL⟩ : ∃ L, L = Ipl.ipL t p s d q := ⟨_, rfl⟩
      have HL : Hid (L = Ipl.ipL t p s d q) := hL
      have hyL : Rw.Byt L := by rw [hL]; exact Ipl.ip_byt t p s d hyq
      have hl20 : (20 : Int) ≤ (L.length : Int) := by rw [hL, Ipl.ip_len]; omega
      clear hL
      go_wp2_with (first | (go_at_call 18; refine (Fi.writes _ _ _ _ _ _ _ _ _ _ hW.rd hok L HL.out).mono ?_; rintro e w2 ⟨gB, cB, rfl, hwB, hcB, hgB, hb⟩; clear p0 p1 p2 p3 p4; replace B := Rw.next B hb; replace hW := hW.below hb; replace kp := (hb.block _ zp).trans kp; replace zp := Nat.lt_of_lt_of_le zp hb.size; clear hb; have hcz : (20 : Int) ≤ (cB : Int) := (by omega); obtain ⟨p0, p1, p2, p3, p4⟩ := Pf.five kp) | (go_at_call 13; refine (Ik.specIp_any _ _ _ _ _ _ _ _).mono ?_; rw [hok]; rintro e w3 ⟨rfl, hb⟩; clear p0 p1 p2 p3 p4; replace B := Rw.next B hb; replace hW := hW.below hb; replace kp := (hb.block _ zp).trans kp; replace zp := Nat.lt_of_lt_of_le zp hb.size; replace hwB := hwB.below hb; clear hb; obtain ⟨p0, p1, p2, p3, p4⟩ := Pf.five kp) | (go_at_call 42; refine (Fi.sumHead _ _ t p s d q L _ hwB HL.out).mono ?_; rintro e w4 ⟨rfl, hw4⟩; replace hw4 := hw4.symm; subst hw4))
      go_ret
      exact ⟨rfl, B⟩

/-! ### THE ROW's STEP: WRITTEN OUT: LEAVE IT -/
set_option maxRecDepth 100000 in
theorem lifted (os : Os) (started : os.Started) (H : Type) (enc : TypeId × Value → H) :
    ReturnsInHanded {} Try.checked os 11 .any (Rows.fnSumSpec.pre6 enc Try.prog Try.f11 Rows.fnSumRow.domain false) (Rows.fnSumSpec.post enc Try.prog Try.f11 false true false false) := by
  refine returnsInHanded_of_change (C := Try.checked) own started (by kernel_rfl) Try.func11
    (ChangeSpec.witness6 (enc := enc) (C := Try.checked) false ⟨#[], #[.slice none 0 0], []⟩ 8 (by kernel_rfl) (by kernel_rfl) (by kernel_rfl) (by kernel_rfl)) ?_
  intro W base args ds gs before hval0 hW hcnd _
  have hval : ∀ (j : Nat) t v, Try.f11.params[j]? = some t → args[j]? = some v → Value.okWide Try.prog W .any base t v := hval0
  have hW' := hW
  obtain ⟨p, q, hA0, hV, rfl, hfz, hnd⟩ := hW
  have hA : DataW.TrodAll enc Try.prog W 0 (fun _ => true) true Try.f11.params.toList args.toList ds p := hA0
  rw [Try.params11] at hA hval
  obtain ⟨v0, vs0, d0, ds0, p0, q0, hargs, rfl, rfl, h0, r0⟩ := trodAll_cons hA
  obtain ⟨rfl, rfl, rfl⟩ := trodAll_nil r0
  obtain rfl : args = #[v0] := by cases args; simp_all
  obtain ⟨rfl, rfl⟩ := trodVars_none hV
  obtain ⟨a0, len0, cap0, rfl⟩ := okWide_slice Try.underlying22 (hval 0 22 v0 rfl rfl)
  have k0 := h0
  have lt0 : ∀ x ∈ p0, x.block < W.heap.size := by obtain ⟨m, hm⟩ := k0; exact DataW.trod_lt m _ _ _ hm
  obtain ⟨z0, w0⟩ : ∃ zs, IsRow .u8 W a0 len0 cap0 zs := by
    obtain ⟨fuel, hf⟩ := h0
    rcases open_ints Try.underlying22 Try.underlying5 (by kernel_rfl) hf with ⟨hcs, _⟩ | ⟨x, l, c, zs, hcs, _, hl, hm, hz, _, hcell, hwz⟩
    · simp [Value.cells] at hcs
      obtain ⟨rfl, rfl, rfl⟩ := hcs
      exact ⟨[], .inl ⟨rfl, rfl, rfl, rfl⟩⟩
    · simp [Value.cells] at hcs
      obtain ⟨rfl, rfl, rfl⟩ := hcs
      exact ⟨zs, .inr ⟨_, rfl, hl, hm, by simpa using hz, hcell, hwz⟩⟩
  clear hA0 hval0
  refine (walk a0 len0 cap0 z0 W w0).mono fun e W' ⟨he, bel⟩ => ?_
  subst he
  exact ⟨_, rfl, _, _, _, [], _, [], hW', trodAll_mk1 (shut_bool Try.underlying4 _), (trodAll_cons_mk (Below.trod laidOut (by kernel_rfl) (of_decide_eq_true (by kernel_rfl)) k0 bel lt0) trodAll_mk0), rfl, bel.frame _, fun h => by cases h⟩

theorem over : Rows.fnSumRow.holds Try.pinned (OpenSpec.ofChange Rows.fnSumSpec) :=
  OpenClaim.holds_of_wide 11 Try.f11 rfl rfl rfl rfl rfl rfl rfl ⟨rfl, rfl, rfl, rfl, rfl⟩ rfl rfl rfl rfl rfl (by kernel_rfl) Try.func11 (by kernel_rfl)
    (of_decide_eq_true (by kernel_rfl)) (by unfold Func.isWrapper; first | (rw [if_pos (by decide +kernel)]; kernel_rfl) | (rw [if_neg (by decide +kernel)]; exact ⟨rfl, rfl⟩))
    (fun os started H enc _ => lifted os started H enc)

/-- ████ THE STATEMENT ████ -/
theorem proved : Rows.FnSumSaid := over
end Go.Proofs.Ytjbjlmaeaajlhaa.fnSum

namespace Go.Proofs.Ytjbjlmaeaajlhaa
theorem FnSum_holds : Rows.FnSumSaid := fnSum.proved
end Go.Proofs.Ytjbjlmaeaajlhaa
