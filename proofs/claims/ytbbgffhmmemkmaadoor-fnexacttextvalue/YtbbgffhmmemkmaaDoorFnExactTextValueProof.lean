/- For every string the law FnExactTextValue returns true: the program's TextValue answers as the specification's; the library's tables and errors start as the program's text lays them (the card ties them). -/
import Derived.Test.YtbbgffhmmemkmaaDoorRows
import Derived.Test.YtbbgffhmmemkmaaDoorCards
import Derived.Test.YtbbgffhmmemkmaaDoorTie
import Derived.Test.YtbbgffhmmemkmaaDoorDt
import Derived.ProofKit
import Derived.LaidMore
import Derived.OpenShut
import Derived.ShutString
import Derived.ChangeOld
import Derived.Stop.Joined
import Derived.Stop.LaidErr
import Derived.Lib.LaidTab
import Derived.Lib.SmallJoins
import Derived.SevenTiedAt
namespace Go.Proofs.YtbbgffhmmemkmaaDoor.fnExactTextValue
open Go.ChangeShapes Go.WideShapes Go.ChangeAt Go.RowKit
open Go.ChangeMaps (open_string shut_string)
set_option linter.unusedVariables false
set_option linter.unusedSimpArgs false

theorem own : ownKnob Tryd.prog.godebug = none := by kernel_rfl
theorem laidOut : laidOutB Tryd.prog = true := by kernel_rfl
theorem gES : Tryd.prog.globalNamed "strconv.ErrSyntax" = some 0 := by kernel_rfl
theorem gER : Tryd.prog.globalNamed "strconv.ErrRange" = some 1 := by kernel_rfl
theorem cells88 : Tryd.prog.cellsOf 88 = 1 := by kernel_rfl
theorem cells9 : Tryd.prog.cellsOf 9 = 1 := by kernel_rfl

set_option maxRecDepth 8000 in
set_option maxHeartbeats 16000000 in
theorem walk (s : ByteArray) (w : World) (hs : s.size ≤ maxLen) (hL : Vl.Laid w) :
    Calls Tryd.prog 4 #[.string s] w fun e w' => e = .returned (.bool true) ∧ Below w.heap.size w w' := by
  by_cases hbig : 1048576 < s.size
  · have hbz : (1048576 : Int) < (s.size : Int) := by omega
    go_enter Tryd.func4, Tryd.ntmps4
    go_wp2
    go_ret
    exact ⟨rfl, Below.refl _ _⟩
  · have hbz : ¬ (1048576 : Int) < (s.size : Int) := by omega
    have hlim : s.size ≤ 1048576 := by omega
    have hS := fun W => Vl.tvS_any s W hs
    have hI := fun W h => Vl.tvI_any s W hlim h
    generalize Vl.tvN s = n at hS hI
    generalize Vl.tvS s = t at hS hI
    generalize Vl.tvB s = R at hS hI
    go_enter Tryd.func4, Tryd.ntmps4
    go_wp2_with (first
      | (go_at_call 11; refine (hS _).mono ?_; rintro e w1 ⟨rfl, hb1⟩; have hL1 := (hL.below hb1).below (Pl.below_alloc1 _ (.cells #[.int .i64 n, .string t] 24)))
      | (go_at_call 9; refine (hI _ hL1).mono ?_; rintro e w2 ⟨rfl, hb2⟩; have k0 : w2.heap[w1.heap.size]? = some (.cells #[.int .i64 n, .string t] 24 (0, 0)) := (hb2.block _ (by simp)).trans (Pl.at_new rfl); obtain ⟨p0, p1⟩ := Pl.two k0; have lt0 := Pl.blk_lt k0)
      | (go_at_call 12; refine (Vl.eqV_same _ _ _).mono ?_; rintro e w3 ⟨rfl, hb3⟩))
    go_ret
    exact ⟨rfl, Rw.next (Rw.next (Rw.next (Rw.next hb1 (Pl.below_alloc1 _ _)) hb2) (Pl.below_alloc1 _ _)) hb3⟩

theorem star : "*" ++ "errors.errorString" = "*errors.errorString" := by decide
theorem row86 (u : TypeId) (h : Tryd.prog.typeName? 3 u = some "*errors.errorString") : u = 86 :=
  typeName_ptr_named (nm := "errors.errorString") (by rw [star]; kernel_rfl) (by kernel_rfl) (by decide) u (by rw [star]; exact h)

theorem door_met (os : Os) (args : Array Value) : laidMetH Tryd.prog Rows.fnExactTextValueRow.laid ((World.doorLaid Tryd.prog 62 os).forCall (fun _ _ => 0) ⟨#[], args, []⟩).memory :=
  laidMetH_of_parts3 (fuel := 8) (laidMet_of_run' 8 (by kernel_rfl) (by kernel_rfl)) (by kernel_rfl) (by kernel_rfl)

theorem laid_of {W : World} (h : laidMetH Tryd.prog Rows.fnExactTextValueRow.laid W) : Vl.Laid W := by
  rw [MakeChecks.laidMetH_plain _ _ _ (by kernel_rfl)] at h
  have h2 : laidMet Tryd.prog (("internal/strconv.uint64pow10", Lib.tabData .u64 Lib.pow10Tab) :: [("strconv.ErrRange", Rows.laid_strconv_ErrRange), ("strconv.ErrSyntax", Rows.laid_strconv_ErrSyntax)]) W := laidMet.tail (laidMet.tail h)
  have htab := Lib.tabIs_of_head Tn.gPow (t := 95) (by kernel_rfl) Tryd.underlying95 Tryd.underlying76 (by kernel_rfl) (by kernel_rfl) h2
  have h3 := laidMet.tail h2
  obtain ⟨a1, s1, hv1, -, -, -⟩ := laid_sentinel h3 gER (ti := 56) (by kernel_rfl) Tryd.underlying56 row86 Tryd.underlying86 Tryd.underlying88 rfl rfl Tryd.underlying9 cells88 cells9
  obtain ⟨a0, s0, hv0, -, -, -⟩ := laid_sentinel (laidMet.tail h3) gES (ti := 56) (by kernel_rfl) Tryd.underlying56 row86 Tryd.underlying86 Tryd.underlying88 rfl rfl Tryd.underlying9 cells88 cells9
  exact ⟨htab, ⟨_, _, by have q := World.var?_cell gES hv0 0; simpa using q⟩, ⟨_, _, by have q := World.var?_cell gER hv1 0; simpa using q⟩⟩

set_option maxRecDepth 100000 in
theorem lifted (os : Os) (started : os.Started) (H : Type) (enc : TypeId × Value → H) :
    ReturnsInHanded {} Tryd.checked os 4 .any (fun w args => (Rows.fnExactTextValueSpec.pre enc Tryd.prog Tryd.f4 Rows.fnExactTextValueRow.domain false w args ∧ laidMetH Tryd.prog Rows.fnExactTextValueRow.laid w) ∧ sizedMet enc Tryd.prog Tryd.f4 (OpenSpec.ofChange Rows.fnExactTextValueSpec) false w args)
      (Rows.fnExactTextValueSpec.post enc Tryd.prog Tryd.f4 false true false false) := by
  refine returnsInHanded_of_change_and (C := Tryd.checked) (X := fun w _ => laidMetH Tryd.prog Rows.fnExactTextValueRow.laid w) (fun _ _ _ hh h => h.of_heap hh) own started (by kernel_rfl) Tryd.func4
    (ChangeSpec.witness_shaped (enc := enc) (C := Tryd.checked) (os := os) (X := fun w _ => laidMetH Tryd.prog Rows.fnExactTextValueRow.laid w) false (World.doorLaid Tryd.prog 62 os) #[.string ByteArray.empty] 8 rfl (World.shaped_of_RefB (by kernel_rfl) (by kernel_rfl)) (by kernel_rfl) (by kernel_rfl) (by kernel_rfl) (door_met os _)) ?_
  intro W base args ds gs before hval0 hW _ _ hL _
  have hval : ∀ (j : Nat) t v, Tryd.f4.params[j]? = some t → args[j]? = some v → Value.okWide Tryd.prog W .any base t v := hval0
  have hW' := hW
  obtain ⟨p, q, hA0, hV, rfl, hfz, hnd⟩ := hW
  have hA : DataW.TrodAll enc Tryd.prog W 0 (fun _ => true) true Tryd.f4.params.toList args.toList ds p := hA0
  rw [Tryd.params4] at hA hval
  obtain ⟨v0, d0, rfl, rfl, h0⟩ := trodAll_one hA
  obtain ⟨rfl, rfl⟩ := trodVars_none hV
  obtain ⟨a0, rfl, rfl, rfl, w0⟩ := open_string Tryd.underlying9 (hval 0 9 v0 rfl rfl) h0
  have hLaid := laid_of hL
  clear hA0 hval0
  simp only [List.append_nil] at hW'
  refine (walk a0 W w0 hLaid).mono fun e W' ⟨he, bel⟩ => ?_
  subst he
  exact ⟨_, rfl, _, _, _, [], _, [], hW', trodAll_mk1 (shut_bool Tryd.underlying4 _), trodAll_mk1 (shut_string Tryd.underlying9 w0), rfl, bel.frame _, fun h => by cases h⟩

theorem row_holds : Rows.FnExactTextValueSaid :=
  OpenClaim.holds_of_wide 4 Tryd.f4 rfl rfl rfl rfl rfl rfl rfl ⟨rfl, rfl, rfl, rfl, rfl⟩ rfl rfl rfl rfl rfl (by kernel_rfl) Tryd.func4 (by kernel_rfl)
    (of_decide_eq_true (by kernel_rfl)) (by unfold Func.isWrapper; first | (rw [if_pos (by decide +kernel)]; kernel_rfl) | (rw [if_neg (by decide +kernel)]; exact ⟨rfl, rfl⟩))
    (fun os started H enc _ => lifted os started H enc)

theorem card_holds : Rows.FnExactTextValueCardSaid :=
  Claim7.holds_tied_plain_at .later [] [.data, .data, .data, .sentinel, .sentinel] true (true, "b9d10c7401eb6a0fa535da65fb86b58d6e15bfb87de730975b2c8fe920fa121d") true
    row_holds (fun _ h => by cases h) (by kernel_rfl) (fun _ h => by cases h) fnExactTextValue_row_tie rfl ⟨rfl, rfl⟩ (by kernel_rfl) rfl
    (fun f fn hf hfn => by
      obtain rfl : f = 4 := Option.some.inj ((show Tryd.prog.funcNamed "loop.example/g00391/laws.FnExactTextValue" = some 4 by kernel_rfl).symm.trans hf) |>.symm
      obtain rfl : fn = Tryd.f4 := (Option.some.inj (Tryd.func4.symm.trans hfn)).symm
      exact ⟨by kernel_rfl, fun j t ht => by
        rw [Tryd.params4] at ht
        have hm : t ∈ [9] := by simpa using Array.mem_of_getElem? ht
        have hall : ([9].all fun u => !Tryd.prog.wantsStandIn u) = true := by kernel_rfl
        exact (show Tryd.prog.wantsStandIn t = false by simpa using List.all_eq_true.1 hall t hm)⟩)
    (by kernel_rfl)
end Go.Proofs.YtbbgffhmmemkmaaDoor.fnExactTextValue

namespace Go.Proofs.YtbbgffhmmemkmaaDoor
theorem FnExactTextValue_holds : Rows.FnExactTextValueCardSaid := fnExactTextValue.card_holds
end Go.Proofs.YtbbgffhmmemkmaaDoor
