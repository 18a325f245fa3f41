/- For every string the law FnExactLex returns true: the program's Lex answers as the specification's; the library's tables and errors and the program's list of signs start as the program's text lays them (the card ties them). -/
import Derived.Test.YtpjgedhkanmbpaaDoorRows
import Derived.Test.YtpjgedhkanmbpaaDoorCards
import Derived.Test.YtpjgedhkanmbpaaDoorTie
import Derived.Test.YtpjgedhkanmbpaaDoorLu
import Derived.ChangeVars
import Derived.ProofKit
import Derived.LaidMore
import Derived.OpenShut
import Derived.ShutString
import Derived.ChangeOld
import Derived.Stop.Joined
import Derived.Stop.LaidErr
import Derived.Lib.LaidTab
import Derived.Lib.SmallJoins
import Derived.SevenTiedAt
namespace Go.Proofs.YtpjgedhkanmbpaaDoor.fnExactLex
open Go.ChangeShapes Go.WideShapes Go.ChangeAt Go.RowKit
open Go.ChangeMaps (open_string shut_string)
set_option linter.unusedVariables false
set_option linter.unusedSimpArgs false

theorem own : ownKnob Tryd.prog.godebug = none := by kernel_rfl
theorem laidOut : laidOutB Tryd.prog = true := by kernel_rfl
theorem gES : Tryd.prog.globalNamed "strconv.ErrSyntax" = some 1 := by kernel_rfl
theorem gER : Tryd.prog.globalNamed "strconv.ErrRange" = some 2 := by kernel_rfl
theorem cells88 : Tryd.prog.cellsOf 72 = 1 := by kernel_rfl
theorem cells9 : Tryd.prog.cellsOf 9 = 1 := by kernel_rfl

set_option maxRecDepth 8000 in
set_option maxHeartbeats 16000000 in
theorem walk (s : ByteArray) (w : World) (hs : s.size ≤ maxLen) (hL : Lg.Laid w) :
    Calls Tryd.prog 3 #[.string s] w fun e w' => e = .returned (.bool true) ∧ Below w.heap.size w w' := by
  by_cases hbig : 1048576 < s.size
  · have hbz : (1048576 : Int) < (s.size : Int) := by omega
    go_enter Tryd.func3, Tryd.ntmps3
    go_wp2
    go_ret
    exact ⟨rfl, Below.refl _ _⟩
  have hbz : ¬ (1048576 : Int) < (s.size : Int) := by omega
  have hlen := Lt.LEX_len s
  obtain ⟨T, C, P, hA⟩ : ∃ T C P, Ly.LEX s = (T, C, P) := ⟨_, _, _, rfl⟩
  rw [hA] at hlen
  simp only at hlen
  have hS := fun W => Lt.lexS_got s hA hs W
  have hI := fun W h => Lt.lexI_got s hA hs W h
  clear hA
  have hE := fun a a' b c b' c' W h h' => Lt.eqS_same a a' b c b' c' T W h h' (by omega)
  obtain ⟨M, hM⟩ : ∃ M : Nat, M = 1 + T.length * 4 := ⟨_, rfl⟩
  have hK := fun a b c W h => Lt.markT_any 1 (by omega) (by omega) a b c T W (by omega) h
  have hH := fun a b c W h => Lt.heldT_any 1 (by omega) (by omega) a b c T.length W (by omega) h
  rw [← hM] at hK hH
  have hone : ((1 : Nat) : Int) = 1 := rfl
  simp only [hone] at hK hH
  clear hone
  have hM0 : ¬ (M : Int) < 0 := by omega
  clear hM hlen hs hbig
  have hC : (C != C) = false := by simp
  have hP : (P != P) = false := by simp
  have hMM : ((M : Int) != (M : Int)) = false := by simp
  have t1 : True := trivial
  have t2 : True := trivial
  have t3 : True := trivial
  go_enter Tryd.func3, Tryd.ntmps3
  go_wp2_with (first
    | (go_at_call 4; refine (hS _).mono ?_; rintro e w1 ⟨a0, b0, c0, rfl, G0⟩; have B1 := G0.bel; have L1 := hL.below B1)
    | (go_at_call 5; clear t1; refine (hI _ L1).mono ?_; rintro e w2 ⟨a1, b1, c1, rfl, G1⟩; have B2 := Rw.next B1 G1.bel; have S0 := G0.rd.below G1.bel)
    | (go_at_call 6; clear t2; refine (hE _ _ _ _ _ _ _ G1.rd S0).mono ?_; rintro e w3 ⟨rfl, D3⟩; have B3 := Rw.next B2 D3; have S3 := S0.below D3)
    | (go_at_call 7; refine (hK _ b1 _ _ (fun h0 => ⟨(G1.wt h0).1, (G1.wt h0).2.of_block (D3.block _ (G1.wt h0).2.lt)⟩)).mono ?_; rintro e w4 ⟨rfl, K4, W4⟩; have B4 := K4.below B3 B3.size (fun x hx => by have q1 := G1.lo hx.1; have q2 := B1.size; have q3 := hx.2; omega); have S4 := S3.kp K4 (fun h0 hx => by have q1 := G1.lo h0; have q2 := (G0.wt h0).2.lt; have q3 := hx.2; omega); have L4 := hL.below B4)
    | (go_at_call 8; clear t3; refine (hH _ b1 _ _ (fun h0 => ⟨(G1.wt h0).1, W4 h0⟩)).mono ?_; rintro e w5 ⟨rfl, D5⟩; have B5 := Rw.next B4 D5; have S5 := S4.below D5; have L5 := hL.below B5)
    | (go_at_call 5; refine (hI _ L5).mono ?_; rintro e w6 ⟨a2, b2, c2, rfl, G2⟩; have B6 := Rw.next B5 G2.bel; have S6 := S5.below G2.bel)
    | (go_at_call 6; refine (hE _ _ _ _ _ _ _ G2.rd S6).mono ?_; rintro e w7 ⟨rfl, D7⟩; have B7 := Rw.next B6 D7)
    | (go_at_call 8; refine (hH _ b1 _ _ (fun h0 => ⟨(G1.wt h0).1, (((W4 h0).of_block (D5.block _ (W4 h0).lt)).of_block (G2.bel.block _ (by have q1 := (W4 h0).lt; have q2 := D5.size; omega))).of_block (D7.block _ (by have q1 := (W4 h0).lt; have q2 := D5.size; have q3 := G2.bel.size; omega))⟩)).mono ?_; rintro e w8 ⟨rfl, D8⟩; have B8 := Rw.next B7 D8))
  go_ret
  exact ⟨rfl, B8⟩

theorem star : "*" ++ "errors.errorString" = "*errors.errorString" := by decide
theorem row86 (u : TypeId) (h : Tryd.prog.typeName? 3 u = some "*errors.errorString") : u = 71 :=
  typeName_ptr_named (nm := "errors.errorString") (by rw [star]; kernel_rfl) (by kernel_rfl) (by decide) u (by rw [star]; exact h)

theorem door_met (os : Os) (args : Array Value) : laidMetH Tryd.prog Rows.fnExactLexRow.laid ((World.doorLaid Tryd.prog 67 os).forCall (fun _ _ => 0) ⟨#[], args, []⟩).memory :=
  laidMetH_of_parts3 (fuel := 8) (laidMet_of_run' 8 (by kernel_rfl) (by kernel_rfl)) (by kernel_rfl) (by kernel_rfl)

theorem gSig : Tryd.prog.globalNamed "loop.example/g00391/impl.signs" = some 0 := by kernel_rfl
theorem tSig : (Tryd.prog.globals[0]?).map (·.type) = some 45 := by kernel_rfl
theorem cSig : Tryd.prog.cellsOf 45 = 12 := by kernel_rfl
def sigs : List (List UInt8) := [[58, 45], [33, 61], [60, 61], [40], [41], [44], [46], [61], [60], [43], [45], [47]]
def sgs : List ByteArray := [⟨#[58, 45]⟩, ⟨#[33, 61]⟩, ⟨#[60, 61]⟩, ⟨#[40]⟩, ⟨#[41]⟩, ⟨#[44]⟩, ⟨#[46]⟩, ⟨#[61]⟩, ⟨#[60]⟩, ⟨#[43]⟩, ⟨#[45]⟩, ⟨#[47]⟩]
def sgCells : Array Value := #[.string ⟨#[58, 45]⟩, .string ⟨#[33, 61]⟩, .string ⟨#[60, 61]⟩, .string ⟨#[40]⟩, .string ⟨#[41]⟩, .string ⟨#[44]⟩, .string ⟨#[46]⟩, .string ⟨#[61]⟩, .string ⟨#[60]⟩, .string ⟨#[43]⟩, .string ⟨#[45]⟩, .string ⟨#[47]⟩]
theorem bytes_of {s : ByteArray} {l : List UInt8} (h : s.data.toList = l) : s = ⟨l.toArray⟩ := by
  obtain ⟨⟨d⟩⟩ := s
  have h' : d = l := h
  rw [h']
/-- An array of strings that reads as the list holds the list's strings, cell for cell. -/
theorem cells_of_strs {H : Type} {enc : TypeId × Value → H} {P : Program} {w : World} {base : Nat} {sp : Nat → Bool} {held : Bool} {fuel : Nat} {t e : TypeId} {n : Nat} {cs : List Value} {zs : List (List UInt8)} {p : List MemPlace}
    (ht : P.underlying t = some (.array n e)) (he : P.underlying e = some .string) (hce : P.cellsOf e = 1) (hct : P.cellsOf t = n)
    (h : DataW.trod enc P w base sp held fuel t cs = some (.agg (zs.map fun z => .lit (.string z)), p)) : cs = zs.map fun z => Value.string ⟨z.toArray⟩ := by
  cases fuel with
  | zero => simp [DataW.trod] at h
  | succ fuel =>
    simp only [DataW.trod, ht, hce, hct, Nat.mul_one] at h
    split at h
    · rename_i hl
      obtain ⟨xs, hm, hx⟩ := Option.map_eq_some_iff.1 h
      have hxs : xs.map (·.1) = zs.map fun z => (DataW.lit (.string z) : DataW H) := by
        have := congrArg Prod.fst hx
        simpa using this
      have hxl : xs.length = n := by simpa using Lib.mapM_length hm
      have hzl : zs.length = n := by
        have := congrArg List.length hxs
        simp at this
        omega
      apply List.ext_getElem?
      intro i
      by_cases hi : i < n
      · obtain ⟨b, hb, hf⟩ := Lib.mapM_at hm i i (by simp [hi])
        obtain ⟨z, hc, rfl, _⟩ := DataW.trod_string he hf
        have h1 : cs[i]? = some (.string z) := by
          have := congrArg (·[0]?) hc
          simpa [List.getElem?_take, List.getElem?_drop] using this
        have h2 : (xs.map (·.1))[i]? = some (DataW.lit (.string z.data.toList) : DataW H) := by simp [hb]
        rw [hxs] at h2
        simp only [List.getElem?_map, Option.map_eq_some_iff, DataW.lit.injEq, Lit.string.injEq] at h2
        obtain ⟨z', hz', hzz⟩ := h2
        rw [h1, List.getElem?_map, hz', bytes_of hzz.symm]
        rfl
      · rw [List.getElem?_eq_none (by omega), List.getElem?_eq_none (by simp; omega)]
    · cases h
theorem signs_laid {r : List (String × DataW Unit)} {W : World} (h : laidMet Tryd.prog (("loop.example/g00391/impl.signs", Rows.laid_loop_example_g00391_impl_signs) :: r) W) : W.var? Tryd.prog "loop.example/g00391/impl.signs" = some sgCells := by
  obtain ⟨ps, ⟨g', t', cs, fuel, p, q, hg', ht', hvar, hd, _, _⟩, _⟩ := h
  obtain rfl := Option.some.inj (gSig.symm.trans hg')
  obtain rfl := Option.some.inj (tSig.symm.trans ht')
  have hc := cells_of_strs (zs := sigs) Tryd.underlying45 Tryd.underlying9 cells9 cSig hd
  rw [hvar]
  congr 1
  obtain ⟨l⟩ := cs
  simp only at hc
  rw [hc]
  rfl
theorem sign_cell {W : World} (h : W.var? Tryd.prog "loop.example/g00391/impl.signs" = some sgCells) (k : Nat) (hk : k < 12) : W.cell? ⟨0, k, none⟩ = some (.string (Ly.lit k)) := by
  have q := World.var?_cell gSig h k
  rw [q]
  match k, hk with
  | 0, _ | 1, _ | 2, _ | 3, _ | 4, _ | 5, _ | 6, _ | 7, _ | 8, _ | 9, _ | 10, _ | 11, _ => rfl
  | k + 12, h => omega
theorem var_keep {W W' : World} {cs : Array Value} (h : W.var? Tryd.prog "loop.example/g00391/impl.signs" = some cs) (hb : Below W.heap.size W W') : W'.var? Tryd.prog "loop.example/g00391/impl.signs" = some cs := by
  have hlt : 0 < W.heap.size := by
    rcases Nat.eq_zero_or_pos W.heap.size with e | e
    · have e0 : W.heap[0]? = none := Array.getElem?_eq_none (by omega)
      simp only [World.var?, gSig, Option.bind_some, e0] at h
      cases h
    · exact e
  simp only [World.var?, gSig, Option.bind_some] at h ⊢
  rw [hb.block 0 hlt]
  exact h
/-- How the list of signs reads. -/
abbrev sgD {H : Type} : DataW H := Rows.laid_loop_example_g00391_impl_signs
theorem reads_signs {H : Type} (enc : TypeId × Value → H) (W : World) (sp : Nat → Bool) : DataW.trod enc Tryd.prog W 0 sp true 3 45 sgCells.toList = some (sgD, []) := by kernel_rfl

theorem laid_of {W : World} (h : laidMetH Tryd.prog Rows.fnExactLexRow.laid W) : Lg.Laid W := by
  rw [MakeChecks.laidMetH_plain _ _ _ (by kernel_rfl)] at h
  have h2 : laidMet Tryd.prog (("internal/strconv.uint64pow10", Lib.tabData .u64 Lib.pow10Tab) :: [("strconv.ErrRange", Rows.laid_strconv_ErrRange), ("strconv.ErrSyntax", Rows.laid_strconv_ErrSyntax), ("loop.example/g00391/impl.signs", Rows.laid_loop_example_g00391_impl_signs)]) W := laidMet.tail (laidMet.tail h)
  have htab := Lib.tabIs_of_head Tn.gPow (t := 81) (by kernel_rfl) Tryd.underlying81 Tryd.underlying62 (by kernel_rfl) (by kernel_rfl) h2
  have h3 := laidMet.tail h2
  obtain ⟨a1, s1, hv1, -, -, -⟩ := laid_sentinel h3 gER (ti := 51) (by kernel_rfl) Tryd.underlying51 row86 Tryd.underlying71 Tryd.underlying73 rfl rfl Tryd.underlying9 cells88 cells9
  have hsg := signs_laid (laidMet.tail (laidMet.tail h3))
  obtain ⟨a0, s0, hv0, -, -, -⟩ := laid_sentinel (laidMet.tail h3) gES (ti := 51) (by kernel_rfl) Tryd.underlying51 row86 Tryd.underlying71 Tryd.underlying73 rfl rfl Tryd.underlying9 cells88 cells9
  exact ⟨htab, ⟨_, _, by have q := World.var?_cell gES hv0 0; simpa using q⟩, ⟨_, _, by have q := World.var?_cell gER hv1 0; simpa using q⟩, fun k hk => sign_cell hsg k hk⟩

theorem signs_of {W : World} (h : laidMetH Tryd.prog Rows.fnExactLexRow.laid W) : W.var? Tryd.prog "loop.example/g00391/impl.signs" = some sgCells := by
  rw [MakeChecks.laidMetH_plain _ _ _ (by kernel_rfl)] at h
  exact signs_laid (laidMet.tail (laidMet.tail (laidMet.tail (laidMet.tail (laidMet.tail h)))))

set_option maxRecDepth 100000 in
theorem lifted (os : Os) (started : os.Started) (H : Type) (enc : TypeId × Value → H) :
    ReturnsInHanded {} Tryd.checked os 3 .any (fun w args => (Rows.fnExactLexSpec.pre enc Tryd.prog Tryd.f3 Rows.fnExactLexRow.domain false w args ∧ laidMetH Tryd.prog Rows.fnExactLexRow.laid w) ∧ sizedMet enc Tryd.prog Tryd.f3 (OpenSpec.ofChange Rows.fnExactLexSpec) false w args)
      (Rows.fnExactLexSpec.post enc Tryd.prog Tryd.f3 false true false false) := by
  refine returnsInHanded_of_change_and (C := Tryd.checked) (X := fun w _ => laidMetH Tryd.prog Rows.fnExactLexRow.laid w) (fun _ _ _ hh h => h.of_heap hh) own started (by kernel_rfl) Tryd.func3
    (ChangeSpec.witness_shaped (enc := enc) (C := Tryd.checked) (os := os) (X := fun w _ => laidMetH Tryd.prog Rows.fnExactLexRow.laid w) false (World.doorLaid Tryd.prog 67 os) #[.string ByteArray.empty] 8 rfl (World.shaped_of_RefB (by kernel_rfl) (by kernel_rfl)) (by kernel_rfl) (by kernel_rfl) (by kernel_rfl) (door_met os _)) ?_
  intro W base args ds gs before hval0 hW _ _ hL _
  have hval : ∀ (j : Nat) t v, Tryd.f3.params[j]? = some t → args[j]? = some v → Value.okWide Tryd.prog W .any base t v := hval0
  have hW' := hW
  obtain ⟨p, q, hA0, hV, rfl, hfz, hnd⟩ := hW
  have hA : DataW.TrodAll enc Tryd.prog W 0 (fun _ => true) true Tryd.f3.params.toList args.toList ds p := hA0
  rw [Tryd.params3] at hA hval
  obtain ⟨v0, d0, rfl, rfl, h0⟩ := trodAll_one hA
  obtain ⟨g, t, cs, fuel, d, p', rfl, hg, ht, hvar, hd, rfl⟩ := trodVars_one hV
  obtain rfl := Option.some.inj (gSig.symm.trans hg)
  obtain rfl := Option.some.inj (tSig.symm.trans ht)
  obtain ⟨a0, rfl, rfl, rfl, w0⟩ := open_string Tryd.underlying9 (hval 0 9 v0 rfl rfl) h0
  have hsg : W.var? Tryd.prog "loop.example/g00391/impl.signs" = some sgCells := signs_of hL
  obtain rfl : cs = sgCells := Option.some.inj (hvar.symm.trans hsg)
  obtain ⟨rfl, rfl⟩ := DataW.Trod.unique (v := .agg sgCells) ⟨fuel, hd⟩ ⟨3, reads_signs enc W _⟩
  have hLaid := laid_of hL
  clear hA0 hval0
  simp only [List.append_nil] at hW'
  refine (walk a0 W w0 hLaid).mono fun e W' ⟨he, bel⟩ => ?_
  subst he
  exact ⟨_, rfl, _, _, _, [], _, _, hW', trodAll_mk1 (shut_bool Tryd.underlying4 _), trodAll_mk1 (shut_string Tryd.underlying9 w0), trodVars_mk1 gSig tSig (var_keep hvar bel) (reads_signs enc W' _), bel.frame _, fun h => by cases h⟩

theorem row_holds : Rows.FnExactLexSaid :=
  OpenClaim.holds_of_wide 3 Tryd.f3 rfl rfl rfl rfl rfl rfl rfl ⟨rfl, rfl, rfl, rfl, rfl⟩ rfl rfl rfl rfl rfl (by kernel_rfl) Tryd.func3 (by kernel_rfl)
    (of_decide_eq_true (by kernel_rfl)) (by unfold Func.isWrapper; first | (rw [if_pos (by decide +kernel)]; kernel_rfl) | (rw [if_neg (by decide +kernel)]; exact ⟨rfl, rfl⟩))
    (fun os started H enc _ => lifted os started H enc)

theorem card_holds : Rows.FnExactLexCardSaid :=
  Claim7.holds_tied_plain_at .later [] [.data, .data, .data, .sentinel, .sentinel, .data] true (true, "0d6187dbb23cfafaa35de177baa9e5ad54c915cf369cd7ef6c67eae73362a47c") true
    row_holds (fun _ h => by cases h) (by kernel_rfl) (fun _ h => by cases h) fnExactLex_row_tie rfl ⟨rfl, rfl⟩ (by kernel_rfl) rfl
    (fun f fn hf hfn => by
      obtain rfl : f = 3 := Option.some.inj ((show Tryd.prog.funcNamed "loop.example/g00391/laws.FnExactLex" = some 3 by kernel_rfl).symm.trans hf) |>.symm
      obtain rfl : fn = Tryd.f3 := (Option.some.inj (Tryd.func3.symm.trans hfn)).symm
      exact ⟨by kernel_rfl, fun j t ht => by
        rw [Tryd.params3] at ht
        have hm : t ∈ [9] := by simpa using Array.mem_of_getElem? ht
        have hall : ([9].all fun u => !Tryd.prog.wantsStandIn u) = true := by kernel_rfl
        exact (show Tryd.prog.wantsStandIn t = false by simpa using List.all_eq_true.1 hall t hm)⟩)
    (by kernel_rfl)
end Go.Proofs.YtpjgedhkanmbpaaDoor.fnExactLex

namespace Go.Proofs.YtpjgedhkanmbpaaDoor
theorem FnExactLex_holds : Rows.FnExactLexCardSaid := fnExactLex.card_holds
end Go.Proofs.YtpjgedhkanmbpaaDoor
