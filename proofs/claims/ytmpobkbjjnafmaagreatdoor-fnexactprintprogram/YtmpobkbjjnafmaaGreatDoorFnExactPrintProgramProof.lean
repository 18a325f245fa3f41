/- At every program the program's PrintProgram answers as the specification's: the text and the sign beside it; the argument reads as before; the library's tables and the program's lists of words and signs start as the program's text lays them (the card ties them). -/
import Derived.Test.YtmpobkbjjnafmaaGreatDoorRows
import Derived.Test.YtmpobkbjjnafmaaGreatDoorCards
import Derived.Test.YtmpobkbjjnafmaaGreatDoorTie
import Derived.Test.YtmpobkbjjnafmaaGreatDoorPrc
import Derived.Test.YtmpobkbjjnafmaaGreatDoorPre
import Derived.Test.YtmpobkbjjnafmaaGreatDoorPrg
import Derived.Test.YtmpobkbjjnafmaaGreatDoorPrh
import Derived.Test.YtmpobkbjjnafmaaGreatDoorWh
import Derived.Test.YtmpobkbjjnafmaaGreatDoorWi
import Derived.WalkKit
import Derived.ProofKit
import Derived.LaidMore
import Derived.OpenShut
import Derived.OpenVars
import Derived.ShutString
import Derived.ChangeOld
import Derived.ChangeVars
import Derived.Below
import Derived.Deep.RegionWith
import Derived.Deep.RegionHeld3
import Derived.Stop.Joined
import Derived.Stop.LaidErr
import Derived.Lib.LaidTab
import Derived.Lib.SmallJoins
import Derived.SevenTiedAt
namespace Go.Proofs.YtmpobkbjjnafmaaGreatDoor.fnExactPrintProgram
open Go.ChangeShapes Go.WideShapes Go.ChangeAt Go.RowKit
open Go.ChangeMaps (open_string shut_string)
set_option linter.unusedVariables false
set_option linter.unusedSimpArgs false

theorem own : ownKnob Tryz.prog.godebug = none := by kernel_rfl
theorem laidOut : laidOutB Tryz.prog = true := by kernel_rfl
theorem cells9 : Tryz.prog.cellsOf 9 = 1 := by kernel_rfl

set_option maxRecDepth 8000 in
set_option maxHeartbeats 16000000 in
theorem walk (x : Pm.Pg) (w : World) (r0 : x.Ok 0 w) (hL : Wp.Laid w) :
    Calls Tryz.prog 3 #[.agg #[.slice x.D.a x.D.Q.length x.D.c, .slice x.R.a x.R.Q.length x.R.c]] w fun e w' => e = .returned (.bool true) ∧ Below w.heap.size w w' := by
  obtain ⟨W0, hW0⟩ : ∃ W0, W0 = w.alloc (.cells #[.slice x.D.a x.D.Q.length x.D.c, .slice x.R.a x.R.Q.length x.R.c] 25) := ⟨_, rfl⟩
  have B0 : Below w.heap.size w W0 := by subst hW0; exact Pl.below_alloc1 _ _
  have k0 : W0.heap[w.heap.size]? = some (.cells #[.slice x.D.a x.D.Q.length x.D.c, .slice x.R.a x.R.Q.length x.R.c] 25 (0, 0)) := by subst hW0; exact Pl.at_new rfl
  replace r0 := r0.below B0
  replace hL := hL.below B0
  have hz := Pm.szPg_any x W0 r0
  by_cases hbig : 1048576 < x.wt
  · have hZ := hz.2 1048576 W0 (Below.refl _ _) hbig (Nat.le_refl _)
    go_enter Tryz.func3, Tryz.ntmps3
    go_wp2_with (go_at_call 4; rw [← hW0]; clear hW0; refine hZ.mono ?_; rintro e w1 ⟨rfl, hb⟩)
    go_ret
    exact ⟨rfl, Rw.next B0 hb⟩
  obtain ⟨L, hLe⟩ : ∃ L : Nat, x.wt + L = 1048576 := ⟨1048576 - x.wt, by omega⟩
  have hZ := hz.1 1048576 L W0 (Below.refl _ _) hLe (Nat.le_refl _)
  have hp : ¬ ((L : Int) < 0) := by omega
  have hle : x.wt ≤ 1048576 := by omega
  have hTo := fun W (h : x.Ok 0 W) => Pm.toPg_any x W h hle W (Below.refl _ _)
  obtain ⟨RT, hRT⟩ : ∃ RT, RT = Wp.PRt x.l := ⟨_, rfl⟩
  obtain ⟨RB, hRB⟩ : ∃ RB, RB = Wp.PRb x.l := ⟨_, rfl⟩
  have hS : ∀ (y : Pm.Pg) W, y.Ok 0 W → y.l = x.l → Calls Tryz.prog 5 #[.agg #[.slice y.D.a y.D.Q.length y.D.c, .slice y.R.a y.R.Q.length y.R.c]] W fun e w' => e = .returned (.tuple #[.string RT, .bool RB]) ∧ Below W.heap.size W w' := fun y W h e => by
    have q := Wp.printS_any y W h
    rw [e, ← hRT, ← hRB] at q
    exact q
  have hI : ∀ (y : Pm.Pg) W, Wp.Laid W → y.Ok 0 W → y.l = x.l → Calls Tryz.prog 7 #[.agg #[.slice y.D.a y.D.Q.length y.D.c, .slice y.R.a y.R.Q.length y.R.c]] W fun e w' => e = .returned (.tuple #[.string RT, .bool RB]) ∧ Below W.heap.size W w' := fun y W hl h e => by
    have q := Wp.printI_any y W hl h
    rw [e, ← hRT, ← hRB] at q
    exact q
  clear hbig hLe hz hle hRT hRB
  have hC : (RB != RB) = false := by simp
  have t1 : True := trivial
  go_enter Tryz.func3, Tryz.ntmps3
  go_wp2_with (first
    | (go_at_call 4; rw [← hW0]; clear hW0; refine hZ.mono ?_; rintro e w1 ⟨rfl, hb⟩; clear hZ; replace k0 := (hb.block _ (Pl.blk_lt k0)).trans k0; replace r0 := r0.below hb; replace hL := hL.below hb; replace B0 := Rw.next B0 hb; clear hb; obtain ⟨p0, p1⟩ := Pl.two k0)
    | (go_at_call 6; clear t1; refine (hTo _ r0).mono ?_; rintro e w1 ⟨y, rfl, hb, hm, sP⟩; replace hm := hm.mono (Nat.zero_le _); clear p0 p1; replace k0 := (hb.block _ (Pl.blk_lt k0)).trans k0; replace r0 := r0.below hb; replace hL := hL.below hb; replace B0 := Rw.next B0 hb; clear hb; obtain ⟨p0, p1⟩ := Pl.two k0)
    | (go_at_call 5; refine (hS y _ hm sP).mono ?_; rintro e w1 ⟨rfl, hb⟩; clear p0 p1 hm sP; replace k0 := (hb.block _ (Pl.blk_lt k0)).trans k0; replace r0 := r0.below hb; replace hL := hL.below hb; replace B0 := Rw.next B0 hb; clear hb; obtain ⟨p0, p1⟩ := Pl.two k0))
  have t2 : True := trivial
  go_wp2_with (go_at_call 6; clear t2; refine (hTo _ r0).mono ?_; rintro e wx ⟨y, rfl, hb, my, sY⟩; replace my := my.mono (Nat.zero_le _); clear p0 p1; replace k0 := (hb.block _ (Pl.blk_lt k0)).trans k0; replace r0 := r0.below hb; replace hL := hL.below hb; replace B0 := Rw.next B0 hb; clear hb; obtain ⟨p0, p1⟩ := Pl.two k0; clear p0 p1)
  obtain ⟨Wx, hWx⟩ : ∃ Wx, Wx = wx.alloc (.cells #[.slice y.D.a y.D.Q.length y.D.c, .slice y.R.a y.R.Q.length y.R.c] 32) := ⟨_, rfl⟩
  have kx : Wx.heap[wx.heap.size]? = some (.cells #[.slice y.D.a y.D.Q.length y.D.c, .slice y.R.a y.R.Q.length y.R.c] 32 (0, 0)) := by subst hWx; exact Pl.at_new rfl
  have hb : Below wx.heap.size wx Wx := by subst hWx; exact Pl.below_alloc1 _ _
  replace k0 := (hb.block _ (Pl.blk_lt k0)).trans k0; replace r0 := r0.below hb; replace my := my.below hb; replace hL := hL.below hb; replace B0 := Rw.next B0 hb; clear hb
  obtain ⟨p0, p1⟩ := Pl.two k0
  obtain ⟨y0, y1⟩ := Pl.two kx
  have HY : Hid (y.l = x.l) := sY
  clear sY
  go_wp2_with (go_at_call 7; rw [← hWx]; clear hWx; refine (hI y _ hL my HY.out).mono ?_; rintro e w3 ⟨rfl, hb⟩; clear p0 p1 y0 y1; replace k0 := (hb.block _ (Pl.blk_lt k0)).trans k0; replace kx := (hb.block _ (Pl.blk_lt kx)).trans kx; replace r0 := r0.below hb; replace my := my.below hb; replace hL := hL.below hb; replace B0 := Rw.next B0 hb; clear hb; obtain ⟨p0, p1⟩ := Pl.two k0; obtain ⟨y0, y1⟩ := Pl.two kx)
  go_region_held3 (fun w' => w'.cell? ⟨wx.heap.size, 0, none⟩ = some (.slice y.D.a y.D.Q.length y.D.c) ∧ w'.cell? ⟨wx.heap.size, 1, none⟩ = some (.slice y.R.a y.R.Q.length y.R.c) ∧ w'.cell? ⟨w.heap.size, 0, none⟩ = some (.slice x.D.a x.D.Q.length x.D.c) ∧ w'.cell? ⟨w.heap.size, 1, none⟩ = some (.slice x.R.a x.R.Q.length x.R.c)) (go_keep) (first
    | (go_at_call 6; refine (hTo _ (r0.below ((Below.refl _ _).drew))).mono ?_; rintro e w4 ⟨z, rfl, hb, m2, s2⟩; replace m2 := m2.mono (Nat.zero_le _); replace hb := Rw.next ((Below.refl _ _).drew) hb; clear p0 p1 y0 y1; replace k0 := (hb.block _ (Pl.blk_lt k0)).trans k0; replace kx := (hb.block _ (Pl.blk_lt kx)).trans kx; replace r0 := r0.below hb; replace my := my.below hb; replace hL := hL.below hb; replace B0 := Rw.next B0 hb; clear hb; obtain ⟨p0, p1⟩ := Pl.two k0; obtain ⟨y0, y1⟩ := Pl.two kx)
    | (go_at_call 8; refine (Pm.eqPg_same y z _ my m2 (HY.out.trans s2.symm) _ (Below.refl _ _)).mono ?_; rintro e w5 ⟨rfl, hb⟩; clear m2 s2; clear p0 p1 y0 y1; replace k0 := (hb.block _ (Pl.blk_lt k0)).trans k0; replace kx := (hb.block _ (Pl.blk_lt kx)).trans kx; replace r0 := r0.below hb; replace my := my.below hb; replace hL := hL.below hb; replace B0 := Rw.next B0 hb; clear hb; obtain ⟨p0, p1⟩ := Pl.two k0; obtain ⟨y0, y1⟩ := Pl.two kx))
  go_wp2
  go_ret
  exact ⟨rfl, B0⟩

theorem door_met (os : Os) (args : Array Value) : laidMetH Tryz.prog Rows.fnExactPrintProgramRow.laid ((World.doorLaid Tryz.prog 39 os).forCall (fun _ _ => 0) ⟨#[], args, []⟩).memory :=
  laidMetH_of_parts3 (fuel := 8) (laidMet_of_run' 8 (by kernel_rfl) (by kernel_rfl)) (by kernel_rfl) (by kernel_rfl)

theorem bytes_of {s : ByteArray} {l : List UInt8} (h : s.data.toList = l) : s = ⟨l.toArray⟩ := by
  obtain ⟨⟨d⟩⟩ := s
  have h' : d = l := h
  rw [h']
/-- An array of strings that reads as the list holds the list's strings, cell for cell. -/
theorem cells_of_strs {H : Type} {enc : TypeId × Value → H} {P : Program} {w : World} {base : Nat} {sp : Nat → Bool} {held : Bool} {fuel : Nat} {t e : TypeId} {n : Nat} {cs : List Value} {zs : List (List UInt8)} {p : List MemPlace}
    (ht : P.underlying t = some (.array n e)) (he : P.underlying e = some .string) (hce : P.cellsOf e = 1) (hct : P.cellsOf t = n)
    (h : DataW.trod enc P w base sp held fuel t cs = some (.agg (zs.map fun z => .lit (.string z)), p)) : cs = zs.map fun z => Value.string ⟨z.toArray⟩ := by
  cases fuel with
  | zero => simp [DataW.trod] at h
  | succ fuel =>
    simp only [DataW.trod, ht, hce, hct, Nat.mul_one] at h
    split at h
    · rename_i hl
      obtain ⟨xs, hm, hx⟩ := Option.map_eq_some_iff.1 h
      have hxs : xs.map (·.1) = zs.map fun z => (DataW.lit (.string z) : DataW H) := by
        have := congrArg Prod.fst hx
        simpa using this
      have hxl : xs.length = n := by simpa using Lib.mapM_length hm
      have hzl : zs.length = n := by
        have := congrArg List.length hxs
        simp at this
        omega
      apply List.ext_getElem?
      intro i
      by_cases hi : i < n
      · obtain ⟨b, hb, hf⟩ := Lib.mapM_at hm i i (by simp [hi])
        obtain ⟨z, hc, rfl, _⟩ := DataW.trod_string he hf
        have h1 : cs[i]? = some (.string z) := by
          have := congrArg (·[0]?) hc
          simpa [List.getElem?_take, List.getElem?_drop] using this
        have h2 : (xs.map (·.1))[i]? = some (DataW.lit (.string z.data.toList) : DataW H) := by simp [hb]
        rw [hxs] at h2
        simp only [List.getElem?_map, Option.map_eq_some_iff, DataW.lit.injEq, Lit.string.injEq] at h2
        obtain ⟨z', hz', hzz⟩ := h2
        rw [h1, List.getElem?_map, hz', bytes_of hzz.symm]
        rfl
      · rw [List.getElem?_eq_none (by omega), List.getElem?_eq_none (by simp; omega)]
    · cases h
theorem gDw : Tryz.prog.globalNamed "loop.example/g00391/impl.declWords" = some 0 := by kernel_rfl
theorem tDw : (Tryz.prog.globals[0]?).map (·.type) = some 92 := by kernel_rfl
theorem cDw : Tryz.prog.cellsOf 92 = 4 := by kernel_rfl
def csDw : Array Value := #[.string ⟨#[]⟩, .string ⟨#[115, 116, 97, 116, 101]⟩, .string ⟨#[101, 118, 101, 110, 116]⟩, .string ⟨#[118, 105, 101, 119]⟩]
theorem laidDw {r : List (String × DataW Unit)} {W : World} (h : laidMet Tryz.prog (("loop.example/g00391/impl.declWords", Rows.laid_loop_example_g00391_impl_declWords) :: r) W) : W.var? Tryz.prog "loop.example/g00391/impl.declWords" = some csDw := by
  obtain ⟨ps, ⟨g', t', cs, fuel, p, q, hg', ht', hvar, hd, _, _⟩, _⟩ := h
  obtain rfl := Option.some.inj (gDw.symm.trans hg')
  obtain rfl := Option.some.inj (tDw.symm.trans ht')
  have hc := cells_of_strs (zs := [[], [115, 116, 97, 116, 101], [101, 118, 101, 110, 116], [118, 105, 101, 119]]) Tryz.underlying92 Tryz.underlying9 cells9 cDw hd
  rw [hvar]
  congr 1
  obtain ⟨l⟩ := cs
  simp only at hc
  rw [hc]
  rfl
theorem atDw {W : World} (h : W.var? Tryz.prog "loop.example/g00391/impl.declWords" = some csDw) (k : Nat) (h1 : 1 ≤ k) (h3 : k ≤ 3) : W.cell? ⟨0, k, none⟩ = some (.string (Wp.wdN k)) := by
  have q := World.var?_cell gDw h k
  rw [q]
  match k, h1, h3 with
  | 1, _, _ => rfl
  | 2, _, _ => rfl
  | 3, _, _ => rfl
theorem gRs : Tryz.prog.globalNamed "loop.example/g00391/impl.ruleSigns" = some 1 := by kernel_rfl
theorem tRs : (Tryz.prog.globals[1]?).map (·.type) = some 92 := by kernel_rfl
theorem cRs : Tryz.prog.cellsOf 92 = 4 := by kernel_rfl
def csRs : Array Value := #[.string ⟨#[]⟩, .string ⟨#[]⟩, .string ⟨#[43]⟩, .string ⟨#[45]⟩]
theorem laidRs {r : List (String × DataW Unit)} {W : World} (h : laidMet Tryz.prog (("loop.example/g00391/impl.ruleSigns", Rows.laid_loop_example_g00391_impl_ruleSigns) :: r) W) : W.var? Tryz.prog "loop.example/g00391/impl.ruleSigns" = some csRs := by
  obtain ⟨ps, ⟨g', t', cs, fuel, p, q, hg', ht', hvar, hd, _, _⟩, _⟩ := h
  obtain rfl := Option.some.inj (gRs.symm.trans hg')
  obtain rfl := Option.some.inj (tRs.symm.trans ht')
  have hc := cells_of_strs (zs := [[], [], [43], [45]]) Tryz.underlying92 Tryz.underlying9 cells9 cRs hd
  rw [hvar]
  congr 1
  obtain ⟨l⟩ := cs
  simp only at hc
  rw [hc]
  rfl
theorem atRs {W : World} (h : W.var? Tryz.prog "loop.example/g00391/impl.ruleSigns" = some csRs) (k : Nat) (h1 : 1 ≤ k) (h3 : k ≤ 3) : W.cell? ⟨1, k, none⟩ = some (.string (Wp.kdN k)) := by
  have q := World.var?_cell gRs h k
  rw [q]
  match k, h1, h3 with
  | 1, _, _ => rfl
  | 2, _, _ => rfl
  | 3, _, _ => rfl
theorem gOs : Tryz.prog.globalNamed "loop.example/g00391/impl.opSigns" = some 2 := by kernel_rfl
theorem tOs : (Tryz.prog.globals[2]?).map (·.type) = some 132 := by kernel_rfl
theorem cOs : Tryz.prog.cellsOf 132 = 5 := by kernel_rfl
def csOs : Array Value := #[.string ⟨#[]⟩, .string ⟨#[61]⟩, .string ⟨#[33, 61]⟩, .string ⟨#[60]⟩, .string ⟨#[60, 61]⟩]
theorem laidOs {r : List (String × DataW Unit)} {W : World} (h : laidMet Tryz.prog (("loop.example/g00391/impl.opSigns", Rows.laid_loop_example_g00391_impl_opSigns) :: r) W) : W.var? Tryz.prog "loop.example/g00391/impl.opSigns" = some csOs := by
  obtain ⟨ps, ⟨g', t', cs, fuel, p, q, hg', ht', hvar, hd, _, _⟩, _⟩ := h
  obtain rfl := Option.some.inj (gOs.symm.trans hg')
  obtain rfl := Option.some.inj (tOs.symm.trans ht')
  have hc := cells_of_strs (zs := [[], [61], [33, 61], [60], [60, 61]]) Tryz.underlying132 Tryz.underlying9 cells9 cOs hd
  rw [hvar]
  congr 1
  obtain ⟨l⟩ := cs
  simp only at hc
  rw [hc]
  rfl
theorem atOs {W : World} (h : W.var? Tryz.prog "loop.example/g00391/impl.opSigns" = some csOs) (k : Nat) (h1 : 1 ≤ k) (h3 : k ≤ 4) : W.cell? ⟨2, k, none⟩ = some (.string (Wp.sgN k)) := by
  have q := World.var?_cell gOs h k
  rw [q]
  match k, h1, h3 with
  | 1, _, _ => rfl
  | 2, _, _ => rfl
  | 3, _, _ => rfl
  | 4, _, _ => rfl

theorem laid_of {W : World} (h : laidMetH Tryz.prog Rows.fnExactPrintProgramRow.laid W) : Wp.Laid W := by
  rw [MakeChecks.laidMetH_plain _ _ _ (by kernel_rfl)] at h
  have h2 : laidMet Tryz.prog (("internal/strconv.uint64pow10", Lib.tabData .u64 Lib.pow10Tab) :: [("loop.example/g00391/impl.declWords", Rows.laid_loop_example_g00391_impl_declWords), ("loop.example/g00391/impl.ruleSigns", Rows.laid_loop_example_g00391_impl_ruleSigns), ("loop.example/g00391/impl.opSigns", Rows.laid_loop_example_g00391_impl_opSigns)]) W := laidMet.tail (laidMet.tail h)
  have htab := Lib.tabIs_of_head Wp.gPow (t := 163) (by kernel_rfl) Tryz.underlying163 Tryz.underlying153 (by kernel_rfl) (by kernel_rfl) h2
  have h3 := laidMet.tail h2
  have h4 := laidMet.tail h3
  have h5 := laidMet.tail h4
  exact ⟨htab, atDw (laidDw h3), atRs (laidRs h4), atOs (laidOs h5)⟩

/-- Three named variables read as three. -/
theorem three {H : Type} {enc : TypeId × Value → H} {P : Program} {w : World} {sp : Nat → Bool} {n0 n1 n2 : String} {gs : List (DataW H)} {ps : List MemPlace} (h : DataW.TrodVars enc P w sp [n0, n1, n2] gs ps) : ∃ a b c, gs = [a, b, c] := by
  cases gs with
  | nil => simp [DataW.TrodVars] at h
  | cons d ds =>
    obtain ⟨g, t, cs, fuel, p, q, h1, h2, h3, h4, hs, e⟩ := h
    obtain ⟨_, _, _, _, d0, _, _, _, _, _, d1, _, rfl, _⟩ := trodVars_two hs
    exact ⟨d, d0, d1, rfl⟩

set_option maxRecDepth 100000 in
theorem lifted (os : Os) (started : os.Started) (H : Type) (enc : TypeId × Value → H) :
    ReturnsInHanded {} Tryz.checked os 3 .any (fun w args => (Rows.fnExactPrintProgramSpec.pre enc Tryz.prog Tryz.f3 Rows.fnExactPrintProgramRow.domain false w args ∧ laidMetH Tryz.prog Rows.fnExactPrintProgramRow.laid w) ∧ sizedMet enc Tryz.prog Tryz.f3 (OpenSpec.ofChange Rows.fnExactPrintProgramSpec) false w args)
      (Rows.fnExactPrintProgramSpec.post enc Tryz.prog Tryz.f3 false true false false) := by
  refine returnsInHanded_of_change_and (C := Tryz.checked) (X := fun w _ => laidMetH Tryz.prog Rows.fnExactPrintProgramRow.laid w) (fun _ _ _ hh h => h.of_heap hh) own started (by kernel_rfl) Tryz.func3
    (ChangeSpec.witness_shaped (enc := enc) (C := Tryz.checked) (os := os) (X := fun w _ => laidMetH Tryz.prog Rows.fnExactPrintProgramRow.laid w) false (World.doorLaid Tryz.prog 39 os) #[.agg #[.slice none 0 0, .slice none 0 0]] 8 rfl (World.shaped_of_RefB (by kernel_rfl) (by kernel_rfl)) (by kernel_rfl) (by kernel_rfl) (by kernel_rfl) (door_met os _)) ?_
  intro W base args ds gs before hval0 hW _ _ hL _
  have hval : ∀ (j : Nat) t v, Tryz.f3.params[j]? = some t → args[j]? = some v → Value.okWide Tryz.prog W .any base t v := hval0
  have hW' := hW
  obtain ⟨p, qq, hA0, hV, rfl, hfz, hnd⟩ := hW
  have hA : DataW.TrodAll enc Tryz.prog W 0 (fun _ => true) true Tryz.f3.params.toList args.toList ds p := hA0
  rw [Tryz.params3] at hA hval
  obtain ⟨v0, vs0, d0, ds0, p0, q0, hargs, rfl, rfl, h0, r0⟩ := trodAll_cons hA
  obtain ⟨rfl, rfl, rfl⟩ := trodAll_nil r0
  obtain rfl : args = #[v0] := by cases args; simp_all
  have hV2 : DataW.TrodVars enc Tryz.prog W (fun _ => true) ["loop.example/g00391/impl.declWords", "loop.example/g00391/impl.ruleSigns", "loop.example/g00391/impl.opSigns"] gs qq := hV
  obtain ⟨ga, gb, gc, rfl⟩ := three hV2
  have k0 := h0
  have lt0 : ∀ x ∈ p0, x.block < W.heap.size := by obtain ⟨m, hm⟩ := k0; exact DataW.trod_lt m _ _ _ hm
  obtain ⟨q, rfl, w0⟩ := Pm.open_program (hval 0 25 v0 rfl rfl) h0
  have hLaid := laid_of hL
  clear hA0 hval0
  refine (walk q W w0 hLaid).mono fun e W' ⟨he, bel⟩ => ?_
  subst he
  exact ⟨_, rfl, _, _, _, [], _, _, hW', trodAll_mk1 (shut_bool Tryz.underlying4 _), (trodAll_cons_mk (Below.trod laidOut (by kernel_rfl) (of_decide_eq_true (by kernel_rfl)) k0 bel lt0) trodAll_mk0), Below.trodVars laidOut bel (by kernel_rfl) hV2, bel.frame _, fun h => by cases h⟩

theorem row_holds : Rows.FnExactPrintProgramSaid :=
  OpenClaim.holds_of_wide 3 Tryz.f3 rfl rfl rfl rfl rfl rfl rfl ⟨rfl, rfl, rfl, rfl, rfl⟩ rfl rfl rfl rfl rfl (by kernel_rfl) Tryz.func3 (by kernel_rfl)
    (of_decide_eq_true (by kernel_rfl)) (by unfold Func.isWrapper; first | (rw [if_pos (by decide +kernel)]; kernel_rfl) | (rw [if_neg (by decide +kernel)]; exact ⟨rfl, rfl⟩))
    (fun os started H enc _ => lifted os started H enc)

theorem card_holds : Rows.FnExactPrintProgramCardSaid :=
  Claim7.holds_tied_plain_at .later [] [.data, .data, .data, .data, .data, .data] true (true, "a59bc2b4c600be45cf73fb62451b491430b6fd6ae36177e79f86267c2e30f513") false
    row_holds (fun _ h => by cases h) (by kernel_rfl) (fun _ h => by cases h) fnExactPrintProgram_row_tie rfl ⟨rfl, rfl⟩ (by kernel_rfl) rfl
    (fun f fn hf hfn => by
      obtain rfl : f = 3 := Option.some.inj ((show Tryz.prog.funcNamed "loop.example/g00391/laws.FnExactPrintProgram" = some 3 by kernel_rfl).symm.trans hf) |>.symm
      obtain rfl : fn = Tryz.f3 := (Option.some.inj (Tryz.func3.symm.trans hfn)).symm
      exact ⟨by kernel_rfl, fun j t ht => by
        rw [Tryz.params3] at ht
        have hm : t ∈ [25] := by simpa using Array.mem_of_getElem? ht
        have hall : ([25].all fun u => !Tryz.prog.wantsStandIn u) = true := by kernel_rfl
        exact (show Tryz.prog.wantsStandIn t = false by simpa using List.all_eq_true.1 hall t hm)⟩)
    (by kernel_rfl)
end Go.Proofs.YtmpobkbjjnafmaaGreatDoor.fnExactPrintProgram

namespace Go.Proofs.YtmpobkbjjnafmaaGreatDoor
theorem FnExactPrintProgram_holds : Rows.FnExactPrintProgramCardSaid := fnExactPrintProgram.card_holds
end Go.Proofs.YtmpobkbjjnafmaaGreatDoor
