/- However a drawn row of messages is cut into two pieces, the same messages come out; no condition. -/
import Derived.Test.YtcbhpmgjmpbpmaaRows
import Derived.Test.YtcbhpmgjmpbpmaaQj
import Derived.WalkKit
import Derived.ProofKit
import Derived.OpenShut
import Derived.ShutString
import Derived.ChangeOld
import Derived.Below
import Derived.Deep.RegionWith
import Derived.Deep.RegionHeld3
import Derived.Deep.Cut
namespace Go.Proofs.Ytcbhpmgjmpbpmaa.fnCut
open Go.ChangeShapes Go.WideShapes Go.ChangeAt Go.RowKit
set_option linter.unusedVariables false
set_option linter.unusedSimpArgs false

theorem own : ownKnob Try.prog.godebug = none := by kernel_rfl
theorem laidOut : laidOutB Try.prog = true := by kernel_rfl
theorem part_left {P Q R : List Gp.Pt} {k : Nat} (h : P.map Gp.Pt.l = Q.map Gp.Pt.l ++ R.map Gp.Pt.l) (hk : k < Q.length) : (P.getD k Gp.p0).l = (Q.getD k Gp.p0).l := by
  have e : (P.map Gp.Pt.l).getD k [] = (Q.map Gp.Pt.l ++ R.map Gp.Pt.l).getD k [] := by rw [h]
  have hp : k < P.length := by have := congrArg List.length h; simp at this; omega
  simp [List.getD, List.getElem?_append_left, hk, hp] at e
  simpa [List.getD, hk, hp] using e
theorem part_right {P Q R : List Gp.Pt} {k : Nat} (h : P.map Gp.Pt.l = Q.map Gp.Pt.l ++ R.map Gp.Pt.l) (hk : k < P.length) (h2 : Q.length ≤ k) (hn : P.length = Q.length + R.length) : (P.getD k Gp.p0).l = (R.getD (k - Q.length) Gp.p0).l := by
  have e : (P.map Gp.Pt.l).getD k [] = (Q.map Gp.Pt.l ++ R.map Gp.Pt.l).getD k [] := by rw [h]
  have hr : k - Q.length < R.length := by omega
  have hq : (Q.map Gp.Pt.l).length ≤ k := by simpa using h2
  simp only [List.getD, List.getElem?_append_right hq, List.getElem?_map, List.length_map] at e
  simpa [List.getD, hk, hr] using e

set_option maxRecDepth 8000 in
set_option maxHeartbeats 16000000 in
theorem walk (a0 : Option Addr) (n0 c0 : Nat) (z0 : List Int) (w : World) (w0 : Rw.IsRow .u8 w a0 n0 c0 z0) :
    Calls Try.prog 4 #[.slice a0 n0 c0] w fun e w' => e = .returned (.bool true) ∧ Below w.heap.size w w' := by
  by_cases big0 : 1048576 < n0
  · have z0 : (1048576 : Int) < (n0 : Int) := by omega
    go_enter Try.func4, Try.ntmps4
    go_wp2
    go_ret
    exact ⟨rfl, Below.refl _ _⟩
  have z0 : ¬ (1048576 : Int) < (n0 : Int) := by omega
  obtain ⟨b0, o0, l, hl, rd0⟩ := Rw.rd_of_isRow w0 (by omega)
  subst hl
  clear w0 big0
  go_enter Try.func4, Try.ntmps4
  go_upto_if 29 with (go_at_call 18; refine (Vc.draw_any _ _ _ _ l _ rd0).mono ?_; rintro e w1 ⟨h, p, ah, bh, oh, ch, ap, bp, op, cp, rfl, rh, rp, hhc, hh, hp, BW⟩)
  go_cut [3] from 27 (fun s3 wx => ∃ (h2 : List Int) (a2 : Option Addr) (b2 o2 c2 : Nat), s3 = .slice a2 h2.length c2 ∧ Rw.Rd w1 a2 b2 o2 h2 ∧ h2.length ≤ 250 ∧ wx = w1)
  case first =>
    by_cases h250 : 250 < h.length
    · have z1 : (250 : Int) < (h.length : Int) := by omega
      have z2 : (100 : Int) ≤ (ch : Int) := by omega
      have hd := rh.head (by omega)
      subst hd
      have e1 : (h.take 100).length = 100 := by simp; omega
      have rt := Pr.rd_take rh 100
      go_wp2
      go_meet
      case rel => exact ⟨h.take 100, some ⟨bh, oh, none⟩, bh, oh, ch, by rw [e1], rt, by omega, rfl⟩
    · have z1 : ¬ (250 : Int) < (h.length : Int) := by omega
      go_wp2
      go_meet
      case rel => exact ⟨h, ah, bh, oh, ch, rfl, rh, by omega, rfl⟩
  case rest =>
    obtain ⟨h2, a2, b2, o2, c2, rfl, r2, hl2, hwc⟩ := hcut
    subst hwc
    clear rd0 z0 hhc hh rh
    obtain ⟨ok, LW, RW, fine, LA, RA, good, LB, RB, F⟩ := Gq.facts h2 p hl2 (by omega)
    obtain ⟨cI, cS, cA, cB, fit⟩ := F
    have FIT : Hid ((ok = false ∧ fine = false) ∨ (ok = false ∧ fine = true ∧ good = false) ∨ (ok = true ∧ fine = true ∧ good = true ∧ LW = LA ++ LB ∧ RW = RB)) := fit
    clear fit
    have HSL : Hid ((h2 ++ p).length ≤ 950) := (by simp; omega : (h2 ++ p).length ≤ 950)
    have HSY : Hid (Rw.Byt (h2 ++ p)) := Put.byt_app r2.byt rp.byt
    obtain ⟨S, hS⟩ : ∃ S, S = h2 ++ p := ⟨_, rfl⟩
    have HS : Hid (S = h2 ++ p) := hS
    rw [← hS] at cI cS HSL HSY
    clear hS
    have BX : Below wc.heap.size wc wc := Below.refl _ _
    have t1 : True := trivial
    go_upto_if 69 with (first
      | (at_builtin; refine App.wpList_app rfl (.tmp 33) (.tmp 34) rfl wc.heap.size _ [] h2 rfl (App.own_empty wc) a2 b2 o2 c2 rfl ((r2.below BX).below (Pl.below_alloc1 _ _)) (by simp; omega) (by simp) ?_; intro v2 w2 own1 gr1; have be := App.below_own (App.own_empty wc) (Pl.below_alloc1 wc (.cells #[] 5)) (Nat.le_refl _) gr1; replace own1 : Un.HasI w2 wc.heap.size v2 h2 := (by simpa using own1); have rp1 := (rp.below BX).below be; have se := be.size)
      | (at_builtin; refine App.wpList_app rfl (.tmp 35) (.tmp 36) rfl wc.heap.size _ h2 p rfl own1 ap bp op cp rfl rp1 (by omega) se ?_; intro v3 w3 own2 gr2; have hb := App.below_own own1 be (Nat.le_refl _) gr2; rw [← HS.out] at own2; obtain ⟨g3, c3, rfl, _, wt3, _⟩ := Gq.hasI_room own2 (by have := HSL.out; omega) HSY.out; replace BX := Rw.next BX hb; replace BW := Rw.next BW hb; clear own1 own2 gr1 gr2 be rp1 se)
      | (go_at_call 19; clear t1; refine (cI g3 c3 _ wt3).mono ?_; rintro e wC ⟨hb, pa, pg, pc, PW, ra, rg, rc, rfl, GW⟩; replace BX := Rw.next BX hb; replace BW := Rw.next BW hb; clear hb; have t2 : True := trivial)
      | (at_builtin; refine App.wpList_app rfl (.tmp 43) (.tmp 44) rfl wC.heap.size _ [] h2 rfl (App.own_empty wC) a2 b2 o2 c2 rfl ((r2.below BX).below (Pl.below_alloc1 _ _)) (by simp; omega) (by simp) ?_; intro v4 w4 own1 gr1; have be := App.below_own (App.own_empty wC) (Pl.below_alloc1 wC (.cells #[] 5)) (Nat.le_refl _) gr1; replace own1 : Un.HasI w4 wC.heap.size v4 h2 := (by simpa using own1); have rp1 := (rp.below BX).below be; have se := be.size)
      | (at_builtin; refine App.wpList_app rfl (.tmp 45) (.tmp 46) rfl wC.heap.size _ h2 p rfl own1 ap bp op cp rfl rp1 (by omega) se ?_; intro v5 w5 own2 gr2; have hb := App.below_own own1 be (Nat.le_refl _) gr2; rw [← HS.out] at own2; obtain ⟨g5, c5, rfl, _, wt5, _⟩ := Gq.hasI_room own2 (by have := HSL.out; omega) HSY.out; replace BX := Rw.next BX hb; replace BW := Rw.next BW hb; replace GW := GW.below hb; clear own1 own2 gr1 gr2 be rp1 se)
      | (go_at_call 20; clear t2; refine (cS g5 c5 _ wt5).mono ?_; rintro e wE ⟨hb, qa, qg, qc, PS, sa, sg, sc, rfl, GS⟩; replace BX := Rw.next BX hb; replace BW := Rw.next BW hb; replace GW := GW.below hb; clear hb GS; have t3 : True := trivial)
      | (go_at_call 19; clear t3; refine (cA a2 b2 o2 c2 _ (r2.below BX)).mono ?_; rintro e wF ⟨hb, xa, xg, xc, PX, ya, yg, yc, rfl, GX⟩; replace BX := Rw.next BX hb; replace BW := Rw.next BW hb; replace GW := GW.below hb; clear hb; have t4 : True := trivial)
      | (go_at_call 19; clear t4; refine (cB ya yg yc ap bp op cp _ GX.wt (rp.below BX)).mono ?_; rintro e wG ⟨hb, za, zg, zc, PZ, ta, tg, tc, rfl, GZ⟩; replace BX := Rw.next BX hb; replace BW := Rw.next BW hb; replace GW := GW.below hb; replace GX := GX.below hb; clear hb))
    rcases FIT.out with ⟨rfl, rfl⟩ | ⟨rfl, rfl, rfl⟩ | ⟨rfl, rfl, rfl, hLW, hRW⟩
    · go_wp2
      go_ret
      exact ⟨rfl, BW⟩
    · go_wp2
      go_ret
      exact ⟨rfl, BW⟩
    · subst hRW
      simp only [Bool.not_true]
      have eL : PW.map Gp.Pt.l = PX.map Gp.Pt.l ++ PZ.map Gp.Pt.l := by rw [GW.like, GX.like, GZ.like, hLW]
      have nW : PW.length = PX.length + PZ.length := by have := congrArg List.length eL; simpa using this
      have pX := GX.n1
      have pZ := GZ.n1
      have bl : ((PW.length : Int) != (PX.length : Int) + (PZ.length : Int)) = false := by rw [nW]; simp
      have hv1 := Bk.conv_any rc GW.wt.rd
      have hv2 := Bk.conv_any tc GZ.wt.rd
      have HEL : Hid (PW.map Gp.Pt.l = PX.map Gp.Pt.l ++ PZ.map Gp.Pt.l) := eL
      have HNW : Hid (PW.length = PX.length + PZ.length ∧ PX.length ≤ 10000 ∧ PZ.length ≤ 10000) := ⟨nW, pX, pZ⟩
      have hdW := GW.form.head
      have hdX := GX.form.head
      have hdZ := GZ.form.head
      have GW0 : Hid (Gq.Got _ wG _ _ pa pg PW ra rg) := GW
      have GX0 : Hid (Gq.Got _ wG _ _ xa xg PX ya yg) := GX
      have GZ0 : Hid (Gq.Got _ wG _ _ za zg PZ ta tg) := GZ
      have BG : Hid (Below w.heap.size w wG) := BW
      clear eL nW GW GX GZ hLW cI cS cA cB FIT HS HSL HSY BX BW r2 rp wt3 wt5
      go_wp2
      clear hv1 hv2 bl
      go_loopw [101] (fun i wr => ∃ k : Nat, k ≤ PW.length ∧ i = .int .i64 k ∧ Below wG.heap.size wG wr) (fun i _ => PW.length - (intOf i).toNat)
      case atStart => exact ⟨0, Nat.zero_le _, rfl, Below.refl _ _⟩
      case round =>
        obtain ⟨k, hk, rfl, hbel⟩ := hrel
        by_cases hlt : k < PW.length
        · have hkz : (k : Int) < (PW.length : Int) := by omega
          obtain rfl := hdW (by omega)
          have cW := ((GW0.out.below hbel).form.cell k hlt)
          have rW := ((GW0.out.below hbel).form.rd k hlt)
          simp only [Gp.Pt.val] at cW
          have lW := World.block_lt_of_cell? _ _ cW
          by_cases hx : k < PX.length
          · have hxz : (k : Int) < (PX.length : Int) := by omega
            obtain rfl := hdX (by omega)
            have cX := ((GX0.out.below hbel).form.cell k hx)
            have rX := ((GX0.out.below hbel).form.rd k hx)
            simp only [Gp.Pt.val] at cX
            have lX := World.block_lt_of_cell? _ _ cX
            simp only at lX
            have el := part_left HEL.out hx
            generalize PW.getD k Gp.p0 = pw at *
            generalize PX.getD k Gp.p0 = px at *
            obtain ⟨a8, g8, c8, l8⟩ := pw
            obtain ⟨a9, g9, c9, l9⟩ := px
            simp only at cW rW cX rX el
            subst el
            have bT := Pl.below_alloc1 wr (.cells #[.slice a9 l8.length c9] 44)
            have rW1 := (rW.below bT).below ((Below.refl _ _).drew)
            have rX1 := (rX.below bT).below ((Below.refl _ _).drew)
            have hv1 := Bk.conv_any c8 rW1
            have hv2 := Bk.conv_any c9 rX1
            go_wp2
            go_region
            go_wp2
            go_roundw
            case rel => exact ⟨k + 1, by omega, by go_num, Rw.next (Rw.next hbel bT) ((Below.refl _ _).drew)⟩
            case measure => simp [intOf]; omega
          · have hxz : ¬ (k : Int) < (PX.length : Int) := by omega
            have hzl : k - PX.length < PZ.length := by have := HNW.out; omega
            have ez : (k : Int) - (PX.length : Int) = ((k - PX.length : Nat) : Int) := by omega
            obtain rfl := hdZ (by omega)
            have cX := ((GZ0.out.below hbel).form.cell (k - PX.length) hzl)
            have rX := ((GZ0.out.below hbel).form.rd (k - PX.length) hzl)
            simp only [Gp.Pt.val] at cX
            have lX := World.block_lt_of_cell? _ _ cX
            simp only at lX
            have el := part_right HEL.out hlt (by omega : PX.length ≤ k) HNW.out.1
            obtain ⟨j, hj⟩ : ∃ j, j = k - PX.length := ⟨_, rfl⟩
            rw [← hj] at cX rX hzl ez el
            have hjz : (j : Int) < (PZ.length : Int) := by omega
            clear hj
            generalize PW.getD k Gp.p0 = pw at *
            generalize PZ.getD j Gp.p0 = px at *
            obtain ⟨a8, g8, c8, l8⟩ := pw
            obtain ⟨a9, g9, c9, l9⟩ := px
            simp only at cW rW cX rX el
            subst el
            have bT := Pl.below_alloc1 wr (.cells #[.slice a9 l8.length c9] 44)
            have rW1 := (rW.below bT).below ((Below.refl _ _).drew)
            have rX1 := (rX.below bT).below ((Below.refl _ _).drew)
            have hv1 := Bk.conv_any c8 rW1
            have hv2 := Bk.conv_any c9 rX1
            go_wp2
            go_region
            go_wp2
            go_roundw
            case rel => exact ⟨k + 1, by omega, by go_num, Rw.next (Rw.next hbel bT) ((Below.refl _ _).drew)⟩
            case measure => simp [intOf]; omega
        · have he : k = PW.length := by omega
          subst he
          go_wp2
          go_ret
          exact ⟨rfl, Rw.next BG.out hbel⟩

set_option maxRecDepth 100000 in
theorem lifted (os : Os) (started : os.Started) (H : Type) (enc : TypeId × Value → H) :
    ReturnsInHanded {} Try.checked os 4 .any (Rows.fnCutSpec.pre6 enc Try.prog Try.f4 Rows.fnCutRow.domain false) (Rows.fnCutSpec.post enc Try.prog Try.f4 false true false false) := by
  refine returnsInHanded_of_change (C := Try.checked) own started (by kernel_rfl) Try.func4
    (ChangeSpec.witness6 (enc := enc) (C := Try.checked) false ⟨#[], #[.slice none 0 0], []⟩ 8 (by kernel_rfl) (by kernel_rfl) (by kernel_rfl) (by kernel_rfl)) ?_
  intro W base args ds gs before hval0 hW hcnd _
  have hval : ∀ (j : Nat) t v, Try.f4.params[j]? = some t → args[j]? = some v → Value.okWide Try.prog W .any base t v := hval0
  have hW' := hW
  obtain ⟨p, q, hA0, hV, rfl, hfz, hnd⟩ := hW
  have hA : DataW.TrodAll enc Try.prog W 0 (fun _ => true) true Try.f4.params.toList args.toList ds p := hA0
  rw [Try.params4] at hA hval
  obtain ⟨v0, vs0, d0, ds0, p0, q0, hargs, rfl, rfl, h0, r0⟩ := trodAll_cons hA
  obtain ⟨rfl, rfl, rfl⟩ := trodAll_nil r0
  obtain rfl : args = #[v0] := by cases args; simp_all
  obtain ⟨rfl, rfl⟩ := trodVars_none hV
  have k0 := h0
  have lt0 : ∀ x ∈ p0, x.block < W.heap.size := by obtain ⟨m, hm⟩ := k0; exact DataW.trod_lt m _ _ _ hm
  obtain ⟨a0, n0, c0, rfl⟩ := okWide_slice Try.underlying22 (hval 0 22 v0 rfl rfl)
  obtain ⟨z0, w0⟩ : ∃ zs, Rw.IsRow .u8 W a0 n0 c0 zs := by
    obtain ⟨fuel, hf⟩ := h0
    rcases open_ints Try.underlying22 Try.underlying5 (by kernel_rfl) hf with ⟨hcs, _⟩ | ⟨x, l, c, zs, hcs, _, hl, hm, hz, _, hcell, hwz⟩
    · simp [Value.cells] at hcs
      obtain ⟨rfl, rfl, rfl⟩ := hcs
      exact ⟨[], .inl ⟨rfl, rfl, rfl, rfl⟩⟩
    · simp [Value.cells] at hcs
      obtain ⟨rfl, rfl, rfl⟩ := hcs
      exact ⟨zs, .inr ⟨_, rfl, hl, hm, by simpa using hz, hcell, hwz⟩⟩
  clear hA0 hval0
  refine (walk a0 n0 c0 z0 W w0).mono fun e W' ⟨he, bel⟩ => ?_
  subst he
  exact ⟨_, rfl, _, _, _, [], _, [], hW', trodAll_mk1 (shut_bool Try.underlying4 _), (trodAll_cons_mk (Below.trod laidOut (by kernel_rfl) (of_decide_eq_true (by kernel_rfl)) k0 bel lt0) trodAll_mk0), rfl, bel.frame _, fun h => by cases h⟩

theorem over : Rows.fnCutRow.holds Try.pinned (OpenSpec.ofChange Rows.fnCutSpec) :=
  OpenClaim.holds_of_wide 4 Try.f4 rfl rfl rfl rfl rfl rfl rfl ⟨rfl, rfl, rfl, rfl, rfl⟩ rfl rfl rfl rfl rfl (by kernel_rfl) Try.func4 (by kernel_rfl)
    (of_decide_eq_true (by kernel_rfl)) (by unfold Func.isWrapper; first | (rw [if_pos (by decide +kernel)]; kernel_rfl) | (rw [if_neg (by decide +kernel)]; exact ⟨rfl, rfl⟩))
    (fun os started H enc _ => lifted os started H enc)

theorem proved : Rows.FnCutSaid := over
end Go.Proofs.Ytcbhpmgjmpbpmaa.fnCut

namespace Go.Proofs.Ytcbhpmgjmpbpmaa
theorem FnCut_holds : Rows.FnCutSaid := fnCut.proved
end Go.Proofs.Ytcbhpmgjmpbpmaa
