/-
  Contracts laid together (Mz, Ta, Tb, Yx, Yy, Va, Tc).
-/
import Derived.Test.YtcbhpmgjmpbpmaaPma
import Derived.Deep.RegionHeld3
import Derived.Deep.Cut
namespace Go.Proofs.Ytcbhpmgjmpbpmaa.Mz
set_option maxRecDepth 8000
set_option linter.unusedSimpArgs false
set_option linter.unusedVariables false
open Go Go.RowKit
open Num Pl Hr Hh Pq Ht Yh Yl Yu Hw2 My

theorem two {w : World} {g : Nat} {x0 x1 : Value} {t : TypeId} (k : w.heap[g]? = some (.cells #[x0, x1] t (0, 0))) : w.cell? ⟨g, 0, none⟩ = some x0 ∧ w.cell? ⟨g, 1, none⟩ = some x1 := by
  simp [World.cell?, k]
theorem set20 {w : World} {g : Nat} {x0 x1 u : Value} {t : TypeId} (k : w.heap[g]? = some (.cells #[x0, x1] t (0, 0))) : (w.setCell ⟨g, 0, none⟩ u).heap[g]? = some (.cells #[u, x1] t (0, 0)) := by
  simp [World.setCell, Array.getElem?_modify, k]
theorem set21 {w : World} {g : Nat} {x0 x1 u : Value} {t : TypeId} (k : w.heap[g]? = some (.cells #[x0, x1] t (0, 0))) : (w.setCell ⟨g, 1, none⟩ u).heap[g]? = some (.cells #[x0, u] t (0, 0)) := by
  simp [World.setCell, Array.getElem?_modify, k]
theorem wide_and (x y : Int) : Pm.I64 (bits .and .i64 x y) := by
  simp only [bits]
  rw [IntKind.wrap_i64]
  constructor <;> omega
theorem full_wide {f : Nat} (h : f < 8) : Pm.I64 (Mp.fullI f) := by
  rcases Hs.k8 h with rfl | rfl | rfl | rfl | rfl | rfl | rfl | rfl <;> (constructor <;> decide)
theorem wide_nul : Po.Wide (Pm.lst Pa.nul) := wide8 (by constructor <;> decide) (by constructor <;> decide) (by constructor <;> decide) (by constructor <;> decide) (by constructor <;> decide) (by constructor <;> decide) (by constructor <;> decide) (by constructor <;> decide)
/-- A match of two rows of 8 numbers is handed back, in memory of the call's own, and the cursor goes on. -/
def MatD (w : World) (g : Nat) (a : Option Addr) (b off cap : Nat) (c : List Int) (e : Ending) (w' : World) : Prop :=
  ∃ gV gM V M, e = .returned (.agg #[sl gV, sl gM]) ∧ Hr.Mine w' gV V ∧ Hr.Mine w' gM M ∧ V.length = 8 ∧ M.length = 8 ∧ Po.Wide V ∧ Po.Wide M ∧ w.heap.size ≤ gV ∧ w.heap.size ≤ gM ∧ gV ≠ gM ∧ Dr.Cur w' g a b off cap c ∧ Mk.Only g w w'

set_option maxHeartbeats 8000000 in
theorem match_any (g : Nat) (a : Option Addr) (b off cap : Nat) (c : List Int) (w : World) (h : Dr.Cur w g a b off cap c) :
    Calls Try.prog 195 #[.pointer (some ⟨g, 0, none⟩)] w (MatD w g a b off cap c) := by
  obtain ⟨W0, hW0⟩ : ∃ W0, W0 = w.alloc (.cells #[.slice none 0 0, .slice none 0 0] 25) := ⟨_, rfl⟩
  have hg := Dr.cur_lt h
  have hbl := Dr.rd_lt h.rd
  have hC0 : Dr.Cur W0 g a b off cap c := by subst hW0; exact Dr.cur_alloc h _
  have k0 : W0.heap[w.heap.size]? = some (.cells #[.slice none 0 0, .slice none 0 0] 25 (0, 0)) := by subst hW0; exact at_new rfl
  have hO0 : Mk.Only g w W0 := by subst hW0; exact Dr.only_alloc (Mk.Only.refl _ _) _
  have z0 : w.heap.size < W0.heap.size := by subst hW0; simp
  clear h
  go_enter Try.func195, Try.ntmps195
  have t1 : True := trivial
  go_wp2_with (go_at_call 96; clear t1; rw [← hW0]; refine (Mr.allS_mine _).mono ?_; rintro e w1 ⟨gV, gM, rfl, mV, mM, hgV, hgM, hne, hb⟩; clear hW0; replace hC0 := Dr.cur_keep hC0 (fun k hk => hb.block k hk) (Dr.cur_lt hC0) (Dr.rd_lt hC0.rd); replace k0 := (hb.block _ z0).trans k0; replace hO0 := only_below hO0 hb; have z1 := hb.size; clear hb)
  have lV1 := mV.row.lt
  have lM1 := mM.row.lt
  obtain ⟨W2, hW2⟩ : ∃ W2, W2 = w1.alloc (.cells #[sl gV, sl gM] 25) := ⟨_, rfl⟩
  have kM : W2.heap[w1.heap.size]? = some (.cells #[sl gV, sl gM] 25 (0, 0)) := by subst hW2; exact at_new rfl
  have b2 : Below w1.heap.size w1 W2 := by subst hW2; exact below_alloc1 _ _
  replace hC0 := Dr.cur_keep hC0 (fun k hk => b2.block k hk) (Dr.cur_lt hC0) (Dr.rd_lt hC0.rd)
  replace k0 := (b2.block _ (by omega)).trans k0
  replace hO0 := only_below hO0 b2
  replace mV := mV.below b2
  replace mM := mM.below b2
  have z2 := (Array.getElem?_eq_some_iff.1 kM).1
  clear b2
  have t1 : True := trivial
  go_wp2_with (go_at_call 139; clear t1; rw [← hW2]; refine (head_wide _ _ _ _ _ _ _ hC0).mono ?_; rintro e w3 ⟨gH, H, rfl, mH, lH, wH, hgH, hC3, hO'⟩; clear hW2; replace k0 := (hO'.block _ (by omega) (by simp; omega)).trans k0; replace kM := (hO'.block _ z2 (by simp; omega)).trans kM; replace mV := own_onlyN mV hO' (by omega); replace mM := own_onlyN mM hO' (by omega); replace hO0 := Dr.only_trans hO0 hO'; have z3 := hO'.size; clear hO' hC0)
  have lH1 := mH.row.lt
  obtain ⟨W4, hW4⟩ : ∃ W4, W4 = w3.alloc (.cells #[sl gH] 28) := ⟨_, rfl⟩
  have kX : W4.heap[w3.heap.size]? = some (.cells #[sl gH] 28 (0, 0)) := by subst hW4; exact at_new rfl
  have b2 : Below w3.heap.size w3 W4 := by subst hW4; exact below_alloc1 _ _
  have i : My.Inv w W4 g a b off cap c w1.heap.size w3.heap.size gV gM gH H (Pm.lst Pa.nul) (Pm.lst Pa.nul) :=
    ⟨(b2.block _ (by omega)).trans k0, (b2.block _ (by omega)).trans kM, kX, mV.below b2, mM.below b2, mH.below b2, Pm.lst_len _, Pm.lst_len _, lH, wide_nul, wide_nul, wH, Dr.cur_keep hC3 (fun k hk => b2.block k hk) (Dr.cur_lt hC3) (Dr.rd_lt hC3.rd), only_below hO0 b2⟩
  have hL : Lie w g w1.heap.size w3.heap.size gV gM gH := ⟨hg, by omega, by omega, hne, lV1, lM1, by omega, lH1⟩
  obtain ⟨V0, hV0⟩ : ∃ V0, V0 = Pm.lst Pa.nul := ⟨_, rfl⟩
  rw [← hV0] at i
  clear kX b2 k0 kM mV mM mH lH wH hC3 hO0 hV0 lV1 lM1 lH1 z0 z1 z2 z3 hgV hgM hne hgH
  have t1 : True := trivial
  go_wp2_with (go_at_call 74; clear t1; rw [← hW4]; refine (Dr.below_any _ _ _ _ _ _ 4 _ i.cur (by omega) (by omega)).mono ?_; rintro e w5 ⟨x, rfl, x0, x1, hC', hO'⟩; replace i := i.step hL hO' hC'; clear hC' hO' hW4)
  generalize w1.heap.size = gm at *
  generalize w3.heap.size = gx at *
  obtain ⟨n, hn⟩ : ∃ n : Nat, x = n := ⟨x.toNat, by omega⟩
  subst hn
  go_loopw [5, 6, 7] (fun v _ _ wr => ∃ (k : Nat) (V M : List Int), k ≤ 3 ∧ v = .int .i64 k ∧ My.Inv w wr g a b off cap c gm gx gV gM gH H V M) (fun v _ _ _ => (intOf v).toNat)
  case atStart => exact ⟨n, V0, V0, by omega, rfl, i⟩
  case round =>
    clear i
    obtain ⟨k, V, M, hk, rfl, i⟩ := hrel
    by_cases hk0 : 0 < k
    · have hkz : 0 < (k : Int) := by omega
      obtain ⟨K, hK⟩ : ∃ K, k = K + 1 := ⟨k - 1, by omega⟩
      have t1 : True := trivial
      go_wp2_with (go_at_call 74; clear t1; refine (Dr.below_any _ _ _ _ _ _ 8 _ i.cur (by omega) (by omega)).mono ?_; rintro e w6 ⟨f, rfl, f0, f1, hC', hO'⟩; replace i := i.step hL hO' hC'; clear hC' hO')
      have t1 : True := trivial
      go_wp2_with (go_at_call 74; clear t1; refine (Dr.below_any _ _ _ _ _ _ 4 _ i.cur (by omega) (by omega)).mono ?_; rintro e wA ⟨q, rfl, q0, q1, hC', hO'⟩; replace i := i.step hL hO' hC'; clear hC' hO')
      · have t1 : True := trivial
        go_wp2_with (go_at_call 74; clear t1; refine (Dr.below_any _ _ _ _ _ _ 2 _ i.cur (by omega) (by omega)).mono ?_; rintro e wA ⟨y, rfl, y0, y1, hC', hO'⟩; replace i := i.step hL hO' hC'; clear hC' hO')
        obtain ⟨F, hF⟩ : ∃ F : Nat, 1 + y = F := ⟨(1 + y).toNat, by omega⟩
        have hF8 : F < 8 := by omega
        rw [hF]
        clear hF
        have hFz : (F : Int) < 8 := by omega
        refine wp_region_held_drew (S := (fun w' => w'.heap[gm]? = some (.cells #[sl gV, sl gM] 25 (0, 0)))) (by kernel_rfl) i.kM (fun hHeld => ?_)
        refine take (i := 0) (d := some 25) (v := .pointer (some ⟨gm, 1, none⟩)) rfl (by kernel_rfl) (by kernel_rfl) (by kernel_rfl) (by kernel_rfl) (fun _ _ _ h => h) (Or.inl ⟨by rfl, by intro w hSw; go_simp⟩) hHeld ?_
        simp only [Act.put, List.setIfInBounds_toArray, List.set_cons_zero, List.set_cons_succ]
        refine take (i := 1) (d := some 26) (v := .slice (some ⟨gM, 0, none⟩) 8 8) rfl (by kernel_rfl) (by kernel_rfl) (by kernel_rfl) (by kernel_rfl) (fun _ _ _ h => h) (Or.inl ⟨by rfl, by intro w hSw; obtain ⟨q1, q2⟩ := two hSw; go_simp⟩) hHeld ?_
        simp only [Act.put, List.setIfInBounds_toArray, List.set_cons_zero, List.set_cons_succ]
        refine take (i := 2) (d := some 27) (v := .int .i64 F) rfl (by kernel_rfl) (by kernel_rfl) (by kernel_rfl) (by kernel_rfl) (fun _ _ _ h => h) (Or.inl ⟨by rfl, by intro w hSw; go_simp⟩) hHeld ?_
        simp only [Act.put, List.setIfInBounds_toArray, List.set_cons_zero, List.set_cons_succ]
        refine take (i := 3) (d := some 28) (v := .int .i64 F) rfl (by kernel_rfl) (by kernel_rfl) (by kernel_rfl) (by kernel_rfl) (fun _ _ _ h => h) (Or.inl ⟨by rfl, by intro w hSw; go_simp⟩) hHeld ?_
        simp only [Act.put, List.setIfInBounds_toArray, List.set_cons_zero, List.set_cons_succ]
        refine wpAnyH_ready (rs := [4]) (by kernel_rfl) (by simp) (Rg.call1 (i := 4) rfl (by kernel_rfl) 207 (.tmp 28) 3 (by kernel_rfl) 29 (by kernel_rfl) (.int .i64 F) (by kernel_rfl) (fun _ => rfl) (Mu.fullS_any F hF8 _) ?_ AllReadyH.nil)
        rintro e wB ⟨rfl, hb⟩
        replace i := (i.drew hL).below hL hb
        clear hb
        refine ⟨_, rfl, i.kM, fun hHeld => ?_⟩
        simp only [Act.put, List.setIfInBounds_toArray, List.set_cons_zero, List.set_cons_succ]
        obtain ⟨m0, hm0⟩ : ∃ m0 : Int, m0 = Mp.fullI F := ⟨_, rfl⟩
        have hm1 : Pm.I64 m0 := by rw [hm0]; exact full_wide hF8
        rw [← hm0]
        clear hm0
        refine take (i := 5) (d := some 30) (v := .pointer (some ⟨gM, F, none⟩)) rfl (by kernel_rfl) (by kernel_rfl) (by kernel_rfl) (by kernel_rfl) (fun _ _ _ h => h) (Or.inl ⟨by rfl, by intro w hSw; go_simp⟩) hHeld ?_
        simp only [Act.put, List.setIfInBounds_toArray, List.set_cons_zero, List.set_cons_succ]
        obtain ⟨cM, fM⟩ := i.cellM hF8
        refine wpAnyH_ready (rs := [6]) (by kernel_rfl) (by simp) (readySkip (i := 6) rfl (by kernel_rfl) none (by kernel_rfl) (w' := wB.setCell ⟨gM, F, none⟩ (.int .i64 m0)) (by go_simp) (i.setM hL hbl hm1).kM (fun hHeld => ?_) AllReadyH.nil)
        simp only [Act.put, List.setIfInBounds_toArray, List.set_cons_zero, List.set_cons_succ]
        refine wpAnyH_done (by kernel_rfl) ?_ _
        clear cM fM
        replace i := i.setM hL hbl (F := F) hm1
        have hmF : (M.set F m0).getD F 0 = m0 := by have := i.lM; rw [List.length_set] at this; simp [List.getD, this, hF8]
        generalize wB.setCell ⟨gM, F, none⟩ (.int .i64 m0) = wC at *
        have t1 : True := trivial
        go_wp2_with (go_at_call 74; clear t1; refine (Dr.below_any _ _ _ _ _ _ 6 _ i.cur (by omega) (by omega)).mono ?_; rintro e wD ⟨u, rfl, u0, u1, hC', hO'⟩; replace i := i.step hL hO' hC'; clear hC' hO')
        · obtain ⟨m1, cM, wM1⟩ : ∃ m1 : Int, wD.cell? ⟨gM, F, none⟩ = some (.int .i64 m1) ∧ Pm.I64 m1 := ⟨_, (i.cellM hF8).1, i.wM F⟩
          refine wp_region_held_drew (S := (fun w' => w'.heap[gm]? = some (.cells #[sl gV, sl gM] 25 (0, 0)))) (by kernel_rfl) i.kM (fun hHeld => ?_)
          have cMd : wD.drew.cell? ⟨gM, F, none⟩ = some (.int .i64 m1) := cM
          clear cM
          replace i := i.drew hL
          have lm := hL.m
          generalize wD.drew = wD' at *
          refine take (i := 0) (d := some 35) (v := .pointer (some ⟨gm, 1, none⟩)) rfl (by kernel_rfl) (by kernel_rfl) (by kernel_rfl) (by kernel_rfl) (fun _ _ _ h => h) (Or.inl ⟨by rfl, by intro w hSw; go_simp⟩) hHeld ?_
          simp only [Act.put, List.setIfInBounds_toArray, List.set_cons_zero, List.set_cons_succ]
          refine take (i := 1) (d := some 36) (v := .slice (some ⟨gM, 0, none⟩) 8 8) rfl (by kernel_rfl) (by kernel_rfl) (by kernel_rfl) (by kernel_rfl) (fun _ _ _ h => h) (Or.inl ⟨by rfl, by intro w hSw; obtain ⟨q1, q2⟩ := two hSw; go_simp⟩) hHeld ?_
          simp only [Act.put, List.setIfInBounds_toArray, List.set_cons_zero, List.set_cons_succ]
          refine take (i := 2) (d := some 37) (v := .int .i64 F) rfl (by kernel_rfl) (by kernel_rfl) (by kernel_rfl) (by kernel_rfl) (fun _ _ _ h => h) (Or.inl ⟨by rfl, by intro w hSw; go_simp⟩) hHeld ?_
          simp only [Act.put, List.setIfInBounds_toArray, List.set_cons_zero, List.set_cons_succ]
          refine take (i := 3) (d := some 38) (v := .pointer (some ⟨gm, 1, none⟩)) rfl (by kernel_rfl) (by kernel_rfl) (by kernel_rfl) (by kernel_rfl) (fun _ _ _ h => h) (Or.inl ⟨by rfl, by intro w hSw; go_simp⟩) hHeld ?_
          simp only [Act.put, List.setIfInBounds_toArray, List.set_cons_zero, List.set_cons_succ]
          refine take (i := 4) (d := some 39) (v := .slice (some ⟨gM, 0, none⟩) 8 8) rfl (by kernel_rfl) (by kernel_rfl) (by kernel_rfl) (by kernel_rfl) (fun _ _ _ h => h) (Or.inl ⟨by rfl, by intro w hSw; obtain ⟨q1, q2⟩ := two hSw; go_simp⟩) hHeld ?_
          simp only [Act.put, List.setIfInBounds_toArray, List.set_cons_zero, List.set_cons_succ]
          refine take (i := 5) (d := some 40) (v := .int .i64 F) rfl (by kernel_rfl) (by kernel_rfl) (by kernel_rfl) (by kernel_rfl) (fun _ _ _ h => h) (Or.inl ⟨by rfl, by intro w hSw; go_simp⟩) hHeld ?_
          simp only [Act.put, List.setIfInBounds_toArray, List.set_cons_zero, List.set_cons_succ]
          refine take (i := 6) (d := some 41) (v := .pointer (some ⟨gM, F, none⟩)) rfl (by kernel_rfl) (by kernel_rfl) (by kernel_rfl) (by kernel_rfl) (fun _ _ _ h => h) (Or.inl ⟨by rfl, by intro w hSw; go_simp⟩) hHeld ?_
          simp only [Act.put, List.setIfInBounds_toArray, List.set_cons_zero, List.set_cons_succ]
          refine take (i := 8) (d := some 43) (v := .pointer (some ⟨g, 0, none⟩)) rfl (by kernel_rfl) (by kernel_rfl) (by kernel_rfl) (by kernel_rfl) (fun _ _ _ h => h) (Or.inl ⟨by rfl, by intro w hSw; go_simp⟩) hHeld ?_
          simp only [Act.put, List.setIfInBounds_toArray, List.set_cons_zero, List.set_cons_succ]
          refine wpAnyH_ready (rs := [7, 9]) (by kernel_rfl) (by simp) (readyRun (i := 7) rfl (by kernel_rfl) (some 42) (by kernel_rfl) (v := .int .i64 m1) (w' := wD') (by go_simp) i.kM (fun hHeld => ?_) (Rg.call2 (i := 9) rfl (by kernel_rfl) 74 (.tmp 43) (.const (.int .i64 8)) 98 3 (by kernel_rfl) 44 (by kernel_rfl) (.pointer (some ⟨g, 0, none⟩)) (.int .i64 8) (by kernel_rfl) (by kernel_rfl) (fun _ => rfl) (Dr.below_any _ _ _ _ _ _ 8 _ i.cur (by omega) (by omega)) ?_ AllReadyH.nil))
          · simp only [Act.put, List.setIfInBounds_toArray, List.set_cons_zero, List.set_cons_succ]
            refine wpAnyH_ready (rs := [9]) (by kernel_rfl) (by simp) (Rg.call2 (i := 9) rfl (by kernel_rfl) 74 (.tmp 43) (.const (.int .i64 8)) 98 3 (by kernel_rfl) 44 (by kernel_rfl) (.pointer (some ⟨g, 0, none⟩)) (.int .i64 8) (by kernel_rfl) (by kernel_rfl) (fun _ => rfl) (Dr.below_any _ _ _ _ _ _ 8 _ i.cur (by omega) (by omega)) ?_ AllReadyH.nil)
            rintro e wH ⟨z, rfl, zz0, zz1, hC', hO'⟩
            have cMh := (World.cell?_of_block (hO'.block gM i.mM.row.lt (by have := hL.g; simp; omega)) (a := ⟨gM, F, none⟩)).trans cMd
            replace i := i.step hL hO' hC'
            clear hC' hO' cMd
            refine ⟨_, rfl, i.kM, fun hHeld => ?_⟩
            simp only [Act.put, List.setIfInBounds_toArray, List.set_cons_zero, List.set_cons_succ]
            obtain ⟨s1, es1⟩ : ∃ s1 : Int, s1 = IntKind.i64.wrap (m1 - z) := ⟨_, rfl⟩
            have hs1 : Pm.I64 s1 := by rw [es1, IntKind.wrap_i64]; constructor <;> omega
            refine take (i := 10) (d := some 45) (v := .int .i64 s1) rfl (by kernel_rfl) (by kernel_rfl) (by kernel_rfl) (by kernel_rfl) (fun _ _ _ h => h) (Or.inl ⟨by rfl, by intro w hSw; rw [es1]; go_simp⟩) hHeld ?_
            simp only [Act.put, List.setIfInBounds_toArray, List.set_cons_zero, List.set_cons_succ]
            clear es1
            refine take (i := 11) (d := some 46) (v := .pointer (some ⟨gM, F, none⟩)) rfl (by kernel_rfl) (by kernel_rfl) (by kernel_rfl) (by kernel_rfl) (fun _ _ _ h => h) (Or.inl ⟨by rfl, by intro w hSw; go_simp⟩) hHeld ?_
            simp only [Act.put, List.setIfInBounds_toArray, List.set_cons_zero, List.set_cons_succ]
            obtain ⟨_, fM⟩ := i.cellM hF8
            refine wpAnyH_ready (rs := [12]) (by kernel_rfl) (by simp) (readySkip (i := 12) rfl (by kernel_rfl) none (by kernel_rfl) (w' := wH.setCell ⟨gM, F, none⟩ (.int .i64 s1)) (by go_simp) (i.setM hL hbl hs1).kM (fun hHeld => ?_) AllReadyH.nil)
            simp only [Act.put, List.setIfInBounds_toArray, List.set_cons_zero, List.set_cons_succ]
            refine wpAnyH_done (by kernel_rfl) ?_ _
            clear cMh fM
            replace i := i.setM hL hbl (F := F) hs1
            generalize wH.setCell ⟨gM, F, none⟩ (.int .i64 s1) = wG at *
            obtain rfl : u = 0 := eq_of_beq (by assumption)
            go_wp2
            obtain ⟨h1, cH⟩ : ∃ h1 : Int, wG.cell? ⟨gH, F, none⟩ = some (.int .i64 h1) := ⟨_, i.cellH hF8⟩
            obtain ⟨m1, cM⟩ : ∃ m1 : Int, wG.cell? ⟨gM, F, none⟩ = some (.int .i64 m1) := ⟨_, (i.cellM hF8).1⟩
            obtain ⟨cV, fV⟩ := i.cellV hF8
            have lv := hL.vm
            have l9 := hL.mv
            have l8 := hL.h
            have l7 := hL.x
            refine wp_region_held_drew (S := (fun w' => w'.heap[gm]? = some (.cells #[sl gV, sl gM] 25 (0, 0)) ∧ w'.heap[gx]? = some (.cells #[sl gH] 28 (0, 0)) ∧ w'.cell? ⟨gH, F, none⟩ = some (.int .i64 h1) ∧ w'.cell? ⟨gM, F, none⟩ = some (.int .i64 m1))) (by kernel_rfl) ⟨i.kM, i.kX, cH, cM⟩ (fun hHeld => ?_)
            refine take (i := 0) (d := some 56) (v := .pointer (some ⟨gm, 0, none⟩)) rfl (by kernel_rfl) (by kernel_rfl) (by kernel_rfl) (by kernel_rfl) (fun _ _ _ h => h) (Or.inl ⟨by rfl, by intro w hSw; go_simp⟩) hHeld ?_
            simp only [Act.put, List.setIfInBounds_toArray, List.set_cons_zero, List.set_cons_succ]
            refine take (i := 1) (d := some 57) (v := .slice (some ⟨gV, 0, none⟩) 8 8) rfl (by kernel_rfl) (by kernel_rfl) (by kernel_rfl) (by kernel_rfl) (fun _ _ _ h => h) (Or.inl ⟨by rfl, by intro w hSw; obtain ⟨q1, q2⟩ := two hSw.1; go_simp⟩) hHeld ?_
            simp only [Act.put, List.setIfInBounds_toArray, List.set_cons_zero, List.set_cons_succ]
            refine take (i := 2) (d := some 58) (v := .int .i64 F) rfl (by kernel_rfl) (by kernel_rfl) (by kernel_rfl) (by kernel_rfl) (fun _ _ _ h => h) (Or.inl ⟨by rfl, by intro w hSw; go_simp⟩) hHeld ?_
            simp only [Act.put, List.setIfInBounds_toArray, List.set_cons_zero, List.set_cons_succ]
            refine take (i := 3) (d := some 59) (v := .pointer (some ⟨gx, 0, none⟩)) rfl (by kernel_rfl) (by kernel_rfl) (by kernel_rfl) (by kernel_rfl) (fun _ _ _ h => h) (Or.inl ⟨by rfl, by intro w hSw; go_simp⟩) hHeld ?_
            simp only [Act.put, List.setIfInBounds_toArray, List.set_cons_zero, List.set_cons_succ]
            refine take (i := 4) (d := some 60) (v := .slice (some ⟨gH, 0, none⟩) 8 8) rfl (by kernel_rfl) (by kernel_rfl) (by kernel_rfl) (by kernel_rfl) (fun _ _ _ h => h) (Or.inl ⟨by rfl, by intro w hSw; have q1 := Hh.one hSw.2.1; go_simp⟩) hHeld ?_
            simp only [Act.put, List.setIfInBounds_toArray, List.set_cons_zero, List.set_cons_succ]
            refine take (i := 5) (d := some 61) (v := .int .i64 F) rfl (by kernel_rfl) (by kernel_rfl) (by kernel_rfl) (by kernel_rfl) (fun _ _ _ h => h) (Or.inl ⟨by rfl, by intro w hSw; go_simp⟩) hHeld ?_
            simp only [Act.put, List.setIfInBounds_toArray, List.set_cons_zero, List.set_cons_succ]
            refine take (i := 6) (d := some 62) (v := .pointer (some ⟨gH, F, none⟩)) rfl (by kernel_rfl) (by kernel_rfl) (by kernel_rfl) (by kernel_rfl) (fun _ _ _ h => h) (Or.inl ⟨by rfl, by intro w hSw; go_simp⟩) hHeld ?_
            simp only [Act.put, List.setIfInBounds_toArray, List.set_cons_zero, List.set_cons_succ]
            refine take (i := 7) (d := some 63) (v := .int .i64 h1) rfl (by kernel_rfl) (by kernel_rfl) (by kernel_rfl) (by kernel_rfl) (fun _ _ _ h => h) (Or.inl ⟨by rfl, by intro w hSw; have q1 := hSw.2.2.1; go_simp⟩) hHeld ?_
            simp only [Act.put, List.setIfInBounds_toArray, List.set_cons_zero, List.set_cons_succ]
            refine take (i := 8) (d := some 64) (v := .pointer (some ⟨gm, 1, none⟩)) rfl (by kernel_rfl) (by kernel_rfl) (by kernel_rfl) (by kernel_rfl) (fun _ _ _ h => h) (Or.inl ⟨by rfl, by intro w hSw; go_simp⟩) hHeld ?_
            simp only [Act.put, List.setIfInBounds_toArray, List.set_cons_zero, List.set_cons_succ]
            refine take (i := 9) (d := some 65) (v := .slice (some ⟨gM, 0, none⟩) 8 8) rfl (by kernel_rfl) (by kernel_rfl) (by kernel_rfl) (by kernel_rfl) (fun _ _ _ h => h) (Or.inl ⟨by rfl, by intro w hSw; obtain ⟨q1, q2⟩ := two hSw.1; go_simp⟩) hHeld ?_
            simp only [Act.put, List.setIfInBounds_toArray, List.set_cons_zero, List.set_cons_succ]
            refine take (i := 10) (d := some 66) (v := .int .i64 F) rfl (by kernel_rfl) (by kernel_rfl) (by kernel_rfl) (by kernel_rfl) (fun _ _ _ h => h) (Or.inl ⟨by rfl, by intro w hSw; go_simp⟩) hHeld ?_
            simp only [Act.put, List.setIfInBounds_toArray, List.set_cons_zero, List.set_cons_succ]
            refine take (i := 11) (d := some 67) (v := .pointer (some ⟨gM, F, none⟩)) rfl (by kernel_rfl) (by kernel_rfl) (by kernel_rfl) (by kernel_rfl) (fun _ _ _ h => h) (Or.inl ⟨by rfl, by intro w hSw; go_simp⟩) hHeld ?_
            simp only [Act.put, List.setIfInBounds_toArray, List.set_cons_zero, List.set_cons_succ]
            refine take (i := 12) (d := some 68) (v := .int .i64 m1) rfl (by kernel_rfl) (by kernel_rfl) (by kernel_rfl) (by kernel_rfl) (fun _ _ _ h => h) (Or.inl ⟨by rfl, by intro w hSw; have q1 := hSw.2.2.2; go_simp⟩) hHeld ?_
            simp only [Act.put, List.setIfInBounds_toArray, List.set_cons_zero, List.set_cons_succ]
            refine take (i := 13) (d := some 69) (v := .int .i64 (bits .and .i64 h1 m1)) rfl (by kernel_rfl) (by kernel_rfl) (by kernel_rfl) (by kernel_rfl) (fun _ _ _ h => h) (Or.inl ⟨by rfl, by intro w hSw; go_simp⟩) hHeld ?_
            simp only [Act.put, List.setIfInBounds_toArray, List.set_cons_zero, List.set_cons_succ]
            refine take (i := 14) (d := some 70) (v := .pointer (some ⟨gV, F, none⟩)) rfl (by kernel_rfl) (by kernel_rfl) (by kernel_rfl) (by kernel_rfl) (fun _ _ _ h => h) (Or.inl ⟨by rfl, by intro w hSw; go_simp⟩) hHeld ?_
            simp only [Act.put, List.setIfInBounds_toArray, List.set_cons_zero, List.set_cons_succ]
            have hx := wide_and h1 m1
            generalize bits .and .i64 h1 m1 = x1 at *
            refine wpAnyH_ready (rs := [15]) (by kernel_rfl) (by simp) (readySkip (i := 15) rfl (by kernel_rfl) none (by kernel_rfl) (w' := wG.drew.setCell ⟨gV, F, none⟩ (.int .i64 x1)) (by go_simp) ⟨((i.drew hL).setV hL hbl hx).kM, ((i.drew hL).setV hL hbl hx).kX, by rw [World.cell?_setCell_other _ _ _ _ (by simp <;> omega)]; exact cH, by rw [World.cell?_setCell_other _ _ _ _ (by simp <;> omega)]; exact cM⟩ (fun hHeld => ?_) AllReadyH.nil)
            simp only [Act.put, List.setIfInBounds_toArray, List.set_cons_zero, List.set_cons_succ]
            refine wpAnyH_done (by kernel_rfl) ?_ _
            replace i := (i.drew hL).setV hL hbl (F := F) hx
            clear cH cM cV fV
            generalize wG.drew.setCell ⟨gV, F, none⟩ (.int .i64 x1) = wE at *
            go_wp2
            go_roundw
            case rel => exact ⟨K, _, _, by omega, by first | go_num | (congr 1; omega), i⟩
            case measure => simp [intOf]; omega
          · rintro e wH ⟨z, rfl, zz0, zz1, hC', hO'⟩
            have cMh := (World.cell?_of_block (hO'.block gM i.mM.row.lt (by have := hL.g; simp; omega)) (a := ⟨gM, F, none⟩)).trans cMd
            replace i := i.step hL hO' hC'
            clear hC' hO' cMd
            refine ⟨_, rfl, i.kM, fun hHeld => ?_⟩
            simp only [Act.put, List.setIfInBounds_toArray, List.set_cons_zero, List.set_cons_succ]
            refine wpAnyH_ready (rs := [7]) (by kernel_rfl) (by simp) (readyRun (i := 7) rfl (by kernel_rfl) (some 42) (by kernel_rfl) (v := .int .i64 m1) (w' := wH) (by go_simp) i.kM (fun hHeld => ?_) AllReadyH.nil)
            simp only [Act.put, List.setIfInBounds_toArray, List.set_cons_zero, List.set_cons_succ]
            obtain ⟨s1, es1⟩ : ∃ s1 : Int, s1 = IntKind.i64.wrap (m1 - z) := ⟨_, rfl⟩
            have hs1 : Pm.I64 s1 := by rw [es1, IntKind.wrap_i64]; constructor <;> omega
            refine take (i := 10) (d := some 45) (v := .int .i64 s1) rfl (by kernel_rfl) (by kernel_rfl) (by kernel_rfl) (by kernel_rfl) (fun _ _ _ h => h) (Or.inl ⟨by rfl, by intro w hSw; rw [es1]; go_simp⟩) hHeld ?_
            simp only [Act.put, List.setIfInBounds_toArray, List.set_cons_zero, List.set_cons_succ]
            clear es1
            refine take (i := 11) (d := some 46) (v := .pointer (some ⟨gM, F, none⟩)) rfl (by kernel_rfl) (by kernel_rfl) (by kernel_rfl) (by kernel_rfl) (fun _ _ _ h => h) (Or.inl ⟨by rfl, by intro w hSw; go_simp⟩) hHeld ?_
            simp only [Act.put, List.setIfInBounds_toArray, List.set_cons_zero, List.set_cons_succ]
            obtain ⟨_, fM⟩ := i.cellM hF8
            refine wpAnyH_ready (rs := [12]) (by kernel_rfl) (by simp) (readySkip (i := 12) rfl (by kernel_rfl) none (by kernel_rfl) (w' := wH.setCell ⟨gM, F, none⟩ (.int .i64 s1)) (by go_simp) (i.setM hL hbl hs1).kM (fun hHeld => ?_) AllReadyH.nil)
            simp only [Act.put, List.setIfInBounds_toArray, List.set_cons_zero, List.set_cons_succ]
            refine wpAnyH_done (by kernel_rfl) ?_ _
            clear cMh fM
            replace i := i.setM hL hbl (F := F) hs1
            generalize wH.setCell ⟨gM, F, none⟩ (.int .i64 s1) = wG at *
            obtain rfl : u = 0 := eq_of_beq (by assumption)
            go_wp2
            obtain ⟨h1, cH⟩ : ∃ h1 : Int, wG.cell? ⟨gH, F, none⟩ = some (.int .i64 h1) := ⟨_, i.cellH hF8⟩
            obtain ⟨m1, cM⟩ : ∃ m1 : Int, wG.cell? ⟨gM, F, none⟩ = some (.int .i64 m1) := ⟨_, (i.cellM hF8).1⟩
            obtain ⟨cV, fV⟩ := i.cellV hF8
            have lv := hL.vm
            have l9 := hL.mv
            have l8 := hL.h
            have l7 := hL.x
            refine wp_region_held_drew (S := (fun w' => w'.heap[gm]? = some (.cells #[sl gV, sl gM] 25 (0, 0)) ∧ w'.heap[gx]? = some (.cells #[sl gH] 28 (0, 0)) ∧ w'.cell? ⟨gH, F, none⟩ = some (.int .i64 h1) ∧ w'.cell? ⟨gM, F, none⟩ = some (.int .i64 m1))) (by kernel_rfl) ⟨i.kM, i.kX, cH, cM⟩ (fun hHeld => ?_)
            refine take (i := 0) (d := some 56) (v := .pointer (some ⟨gm, 0, none⟩)) rfl (by kernel_rfl) (by kernel_rfl) (by kernel_rfl) (by kernel_rfl) (fun _ _ _ h => h) (Or.inl ⟨by rfl, by intro w hSw; go_simp⟩) hHeld ?_
            simp only [Act.put, List.setIfInBounds_toArray, List.set_cons_zero, List.set_cons_succ]
            refine take (i := 1) (d := some 57) (v := .slice (some ⟨gV, 0, none⟩) 8 8) rfl (by kernel_rfl) (by kernel_rfl) (by kernel_rfl) (by kernel_rfl) (fun _ _ _ h => h) (Or.inl ⟨by rfl, by intro w hSw; obtain ⟨q1, q2⟩ := two hSw.1; go_simp⟩) hHeld ?_
            simp only [Act.put, List.setIfInBounds_toArray, List.set_cons_zero, List.set_cons_succ]
            refine take (i := 2) (d := some 58) (v := .int .i64 F) rfl (by kernel_rfl) (by kernel_rfl) (by kernel_rfl) (by kernel_rfl) (fun _ _ _ h => h) (Or.inl ⟨by rfl, by intro w hSw; go_simp⟩) hHeld ?_
            simp only [Act.put, List.setIfInBounds_toArray, List.set_cons_zero, List.set_cons_succ]
            refine take (i := 3) (d := some 59) (v := .pointer (some ⟨gx, 0, none⟩)) rfl (by kernel_rfl) (by kernel_rfl) (by kernel_rfl) (by kernel_rfl) (fun _ _ _ h => h) (Or.inl ⟨by rfl, by intro w hSw; go_simp⟩) hHeld ?_
            simp only [Act.put, List.setIfInBounds_toArray, List.set_cons_zero, List.set_cons_succ]
            refine take (i := 4) (d := some 60) (v := .slice (some ⟨gH, 0, none⟩) 8 8) rfl (by kernel_rfl) (by kernel_rfl) (by kernel_rfl) (by kernel_rfl) (fun _ _ _ h => h) (Or.inl ⟨by rfl, by intro w hSw; have q1 := Hh.one hSw.2.1; go_simp⟩) hHeld ?_
            simp only [Act.put, List.setIfInBounds_toArray, List.set_cons_zero, List.set_cons_succ]
            refine take (i := 5) (d := some 61) (v := .int .i64 F) rfl (by kernel_rfl) (by kernel_rfl) (by kernel_rfl) (by kernel_rfl) (fun _ _ _ h => h) (Or.inl ⟨by rfl, by intro w hSw; go_simp⟩) hHeld ?_
            simp only [Act.put, List.setIfInBounds_toArray, List.set_cons_zero, List.set_cons_succ]
            refine take (i := 6) (d := some 62) (v := .pointer (some ⟨gH, F, none⟩)) rfl (by kernel_rfl) (by kernel_rfl) (by kernel_rfl) (by kernel_rfl) (fun _ _ _ h => h) (Or.inl ⟨by rfl, by intro w hSw; go_simp⟩) hHeld ?_
            simp only [Act.put, List.setIfInBounds_toArray, List.set_cons_zero, List.set_cons_succ]
            refine take (i := 7) (d := some 63) (v := .int .i64 h1) rfl (by kernel_rfl) (by kernel_rfl) (by kernel_rfl) (by kernel_rfl) (fun _ _ _ h => h) (Or.inl ⟨by rfl, by intro w hSw; have q1 := hSw.2.2.1; go_simp⟩) hHeld ?_
            simp only [Act.put, List.setIfInBounds_toArray, List.set_cons_zero, List.set_cons_succ]
            refine take (i := 8) (d := some 64) (v := .pointer (some ⟨gm, 1, none⟩)) rfl (by kernel_rfl) (by kernel_rfl) (by kernel_rfl) (by kernel_rfl) (fun _ _ _ h => h) (Or.inl ⟨by rfl, by intro w hSw; go_simp⟩) hHeld ?_
            simp only [Act.put, List.setIfInBounds_toArray, List.set_cons_zero, List.set_cons_succ]
            refine take (i := 9) (d := some 65) (v := .slice (some ⟨gM, 0, none⟩) 8 8) rfl (by kernel_rfl) (by kernel_rfl) (by kernel_rfl) (by kernel_rfl) (fun _ _ _ h => h) (Or.inl ⟨by rfl, by intro w hSw; obtain ⟨q1, q2⟩ := two hSw.1; go_simp⟩) hHeld ?_
            simp only [Act.put, List.setIfInBounds_toArray, List.set_cons_zero, List.set_cons_succ]
            refine take (i := 10) (d := some 66) (v := .int .i64 F) rfl (by kernel_rfl) (by kernel_rfl) (by kernel_rfl) (by kernel_rfl) (fun _ _ _ h => h) (Or.inl ⟨by rfl, by intro w hSw; go_simp⟩) hHeld ?_
            simp only [Act.put, List.setIfInBounds_toArray, List.set_cons_zero, List.set_cons_succ]
            refine take (i := 11) (d := some 67) (v := .pointer (some ⟨gM, F, none⟩)) rfl (by kernel_rfl) (by kernel_rfl) (by kernel_rfl) (by kernel_rfl) (fun _ _ _ h => h) (Or.inl ⟨by rfl, by intro w hSw; go_simp⟩) hHeld ?_
            simp only [Act.put, List.setIfInBounds_toArray, List.set_cons_zero, List.set_cons_succ]
            refine take (i := 12) (d := some 68) (v := .int .i64 m1) rfl (by kernel_rfl) (by kernel_rfl) (by kernel_rfl) (by kernel_rfl) (fun _ _ _ h => h) (Or.inl ⟨by rfl, by intro w hSw; have q1 := hSw.2.2.2; go_simp⟩) hHeld ?_
            simp only [Act.put, List.setIfInBounds_toArray, List.set_cons_zero, List.set_cons_succ]
            refine take (i := 13) (d := some 69) (v := .int .i64 (bits .and .i64 h1 m1)) rfl (by kernel_rfl) (by kernel_rfl) (by kernel_rfl) (by kernel_rfl) (fun _ _ _ h => h) (Or.inl ⟨by rfl, by intro w hSw; go_simp⟩) hHeld ?_
            simp only [Act.put, List.setIfInBounds_toArray, List.set_cons_zero, List.set_cons_succ]
            refine take (i := 14) (d := some 70) (v := .pointer (some ⟨gV, F, none⟩)) rfl (by kernel_rfl) (by kernel_rfl) (by kernel_rfl) (by kernel_rfl) (fun _ _ _ h => h) (Or.inl ⟨by rfl, by intro w hSw; go_simp⟩) hHeld ?_
            simp only [Act.put, List.setIfInBounds_toArray, List.set_cons_zero, List.set_cons_succ]
            have hx := wide_and h1 m1
            generalize bits .and .i64 h1 m1 = x1 at *
            refine wpAnyH_ready (rs := [15]) (by kernel_rfl) (by simp) (readySkip (i := 15) rfl (by kernel_rfl) none (by kernel_rfl) (w' := wG.drew.setCell ⟨gV, F, none⟩ (.int .i64 x1)) (by go_simp) ⟨((i.drew hL).setV hL hbl hx).kM, ((i.drew hL).setV hL hbl hx).kX, by rw [World.cell?_setCell_other _ _ _ _ (by simp <;> omega)]; exact cH, by rw [World.cell?_setCell_other _ _ _ _ (by simp <;> omega)]; exact cM⟩ (fun hHeld => ?_) AllReadyH.nil)
            simp only [Act.put, List.setIfInBounds_toArray, List.set_cons_zero, List.set_cons_succ]
            refine wpAnyH_done (by kernel_rfl) ?_ _
            replace i := (i.drew hL).setV hL hbl (F := F) hx
            clear cH cM cV fV
            generalize wG.drew.setCell ⟨gV, F, none⟩ (.int .i64 x1) = wE at *
            go_wp2
            go_roundw
            case rel => exact ⟨K, _, _, by omega, by first | go_num | (congr 1; omega), i⟩
            case measure => simp [intOf]; omega
        · refine wp_region_held_drew (S := (fun w' => w'.heap[gm]? = some (.cells #[sl gV, sl gM] 25 (0, 0)))) (by kernel_rfl) i.kM (fun hHeld => ?_)
          refine take (i := 0) (d := some 49) (v := .pointer (some ⟨gm, 1, none⟩)) rfl (by kernel_rfl) (by kernel_rfl) (by kernel_rfl) (by kernel_rfl) (fun _ _ _ h => h) (Or.inl ⟨by rfl, by intro w hSw; go_simp⟩) hHeld ?_
          simp only [Act.put, List.setIfInBounds_toArray, List.set_cons_zero, List.set_cons_succ]
          refine take (i := 1) (d := some 50) (v := .slice (some ⟨gM, 0, none⟩) 8 8) rfl (by kernel_rfl) (by kernel_rfl) (by kernel_rfl) (by kernel_rfl) (fun _ _ _ h => h) (Or.inl ⟨by rfl, by intro w hSw; obtain ⟨q1, q2⟩ := two hSw; go_simp⟩) hHeld ?_
          simp only [Act.put, List.setIfInBounds_toArray, List.set_cons_zero, List.set_cons_succ]
          refine take (i := 2) (d := some 51) (v := .int .i64 F) rfl (by kernel_rfl) (by kernel_rfl) (by kernel_rfl) (by kernel_rfl) (fun _ _ _ h => h) (Or.inl ⟨by rfl, by intro w hSw; go_simp⟩) hHeld ?_
          simp only [Act.put, List.setIfInBounds_toArray, List.set_cons_zero, List.set_cons_succ]
          refine take (i := 3) (d := some 52) (v := .pointer (some ⟨g, 0, none⟩)) rfl (by kernel_rfl) (by kernel_rfl) (by kernel_rfl) (by kernel_rfl) (fun _ _ _ h => h) (Or.inl ⟨by rfl, by intro w hSw; go_simp⟩) hHeld ?_
          simp only [Act.put, List.setIfInBounds_toArray, List.set_cons_zero, List.set_cons_succ]
          refine wpAnyH_ready (rs := [4]) (by kernel_rfl) (by simp) (Rg.call2 (i := 4) rfl (by kernel_rfl) 74 (.tmp 52) (.const (.int .i64 3)) 98 3 (by kernel_rfl) 53 (by kernel_rfl) (.pointer (some ⟨g, 0, none⟩)) (.int .i64 3) (by kernel_rfl) (by kernel_rfl) (fun _ => rfl) (Dr.below_any _ _ _ _ _ _ 3 _ (i.drew hL).cur (by omega) (by omega)) ?_ AllReadyH.nil)
          rintro e wF ⟨z, rfl, zz0, zz1, hC', hO'⟩
          replace i := (i.drew hL).step hL hO' hC'
          clear hC' hO'
          refine ⟨_, rfl, i.kM, fun hHeld => ?_⟩
          simp only [Act.put, List.setIfInBounds_toArray, List.set_cons_zero, List.set_cons_succ]
          have hz3 : ∃ p2 : Int, Pm.I64 p2 ∧ ((z = 0 ∧ p2 = 1) ∨ (z = 1 ∧ p2 = 2) ∨ (z = 2 ∧ p2 = 4)) := by
            have e : z = 0 ∨ z = 1 ∨ z = 2 := by omega
            rcases e with rfl | rfl | rfl
            · exact ⟨1, by constructor <;> decide, by omega⟩
            · exact ⟨2, by constructor <;> decide, by omega⟩
            · exact ⟨4, by constructor <;> decide, by omega⟩
          obtain ⟨p2, hp2, hcase⟩ := hz3
          refine take (i := 5) (d := some 54) (v := .int .i64 p2) rfl (by kernel_rfl) (by kernel_rfl) (by kernel_rfl) (by kernel_rfl) (fun _ _ _ h => h) (Or.inl ⟨by rfl, by intro w hSw; rcases hcase with ⟨rfl, rfl⟩ | ⟨rfl, rfl⟩ | ⟨rfl, rfl⟩ <;> (go_simp; rfl)⟩) hHeld ?_
          simp only [Act.put, List.setIfInBounds_toArray, List.set_cons_zero, List.set_cons_succ]
          clear hcase
          refine take (i := 6) (d := some 55) (v := .pointer (some ⟨gM, F, none⟩)) rfl (by kernel_rfl) (by kernel_rfl) (by kernel_rfl) (by kernel_rfl) (fun _ _ _ h => h) (Or.inl ⟨by rfl, by intro w hSw; go_simp⟩) hHeld ?_
          simp only [Act.put, List.setIfInBounds_toArray, List.set_cons_zero, List.set_cons_succ]
          obtain ⟨cM, fM⟩ := i.cellM hF8
          refine wpAnyH_ready (rs := [7]) (by kernel_rfl) (by simp) (readySkip (i := 7) rfl (by kernel_rfl) none (by kernel_rfl) (w' := wF.setCell ⟨gM, F, none⟩ (.int .i64 p2)) (by go_simp) (i.setM hL hbl hp2).kM (fun hHeld => ?_) AllReadyH.nil)
          simp only [Act.put, List.setIfInBounds_toArray, List.set_cons_zero, List.set_cons_succ]
          refine wpAnyH_done (by kernel_rfl) ?_ _
          clear cM fM
          replace i := i.setM hL hbl (F := F) hp2
          generalize wF.setCell ⟨gM, F, none⟩ (.int .i64 p2) = wG at *
          go_wp2
          obtain ⟨h1, cH⟩ : ∃ h1 : Int, wG.cell? ⟨gH, F, none⟩ = some (.int .i64 h1) := ⟨_, i.cellH hF8⟩
          obtain ⟨m1, cM⟩ : ∃ m1 : Int, wG.cell? ⟨gM, F, none⟩ = some (.int .i64 m1) := ⟨_, (i.cellM hF8).1⟩
          obtain ⟨cV, fV⟩ := i.cellV hF8
          have lv := hL.vm
          have l9 := hL.mv
          have l8 := hL.h
          have l7 := hL.x
          refine wp_region_held_drew (S := (fun w' => w'.heap[gm]? = some (.cells #[sl gV, sl gM] 25 (0, 0)) ∧ w'.heap[gx]? = some (.cells #[sl gH] 28 (0, 0)) ∧ w'.cell? ⟨gH, F, none⟩ = some (.int .i64 h1) ∧ w'.cell? ⟨gM, F, none⟩ = some (.int .i64 m1))) (by kernel_rfl) ⟨i.kM, i.kX, cH, cM⟩ (fun hHeld => ?_)
          refine take (i := 0) (d := some 56) (v := .pointer (some ⟨gm, 0, none⟩)) rfl (by kernel_rfl) (by kernel_rfl) (by kernel_rfl) (by kernel_rfl) (fun _ _ _ h => h) (Or.inl ⟨by rfl, by intro w hSw; go_simp⟩) hHeld ?_
          simp only [Act.put, List.setIfInBounds_toArray, List.set_cons_zero, List.set_cons_succ]
          refine take (i := 1) (d := some 57) (v := .slice (some ⟨gV, 0, none⟩) 8 8) rfl (by kernel_rfl) (by kernel_rfl) (by kernel_rfl) (by kernel_rfl) (fun _ _ _ h => h) (Or.inl ⟨by rfl, by intro w hSw; obtain ⟨q1, q2⟩ := two hSw.1; go_simp⟩) hHeld ?_
          simp only [Act.put, List.setIfInBounds_toArray, List.set_cons_zero, List.set_cons_succ]
          refine take (i := 2) (d := some 58) (v := .int .i64 F) rfl (by kernel_rfl) (by kernel_rfl) (by kernel_rfl) (by kernel_rfl) (fun _ _ _ h => h) (Or.inl ⟨by rfl, by intro w hSw; go_simp⟩) hHeld ?_
          simp only [Act.put, List.setIfInBounds_toArray, List.set_cons_zero, List.set_cons_succ]
          refine take (i := 3) (d := some 59) (v := .pointer (some ⟨gx, 0, none⟩)) rfl (by kernel_rfl) (by kernel_rfl) (by kernel_rfl) (by kernel_rfl) (fun _ _ _ h => h) (Or.inl ⟨by rfl, by intro w hSw; go_simp⟩) hHeld ?_
          simp only [Act.put, List.setIfInBounds_toArray, List.set_cons_zero, List.set_cons_succ]
          refine take (i := 4) (d := some 60) (v := .slice (some ⟨gH, 0, none⟩) 8 8) rfl (by kernel_rfl) (by kernel_rfl) (by kernel_rfl) (by kernel_rfl) (fun _ _ _ h => h) (Or.inl ⟨by rfl, by intro w hSw; have q1 := Hh.one hSw.2.1; go_simp⟩) hHeld ?_
          simp only [Act.put, List.setIfInBounds_toArray, List.set_cons_zero, List.set_cons_succ]
          refine take (i := 5) (d := some 61) (v := .int .i64 F) rfl (by kernel_rfl) (by kernel_rfl) (by kernel_rfl) (by kernel_rfl) (fun _ _ _ h => h) (Or.inl ⟨by rfl, by intro w hSw; go_simp⟩) hHeld ?_
          simp only [Act.put, List.setIfInBounds_toArray, List.set_cons_zero, List.set_cons_succ]
          refine take (i := 6) (d := some 62) (v := .pointer (some ⟨gH, F, none⟩)) rfl (by kernel_rfl) (by kernel_rfl) (by kernel_rfl) (by kernel_rfl) (fun _ _ _ h => h) (Or.inl ⟨by rfl, by intro w hSw; go_simp⟩) hHeld ?_
          simp only [Act.put, List.setIfInBounds_toArray, List.set_cons_zero, List.set_cons_succ]
          refine take (i := 7) (d := some 63) (v := .int .i64 h1) rfl (by kernel_rfl) (by kernel_rfl) (by kernel_rfl) (by kernel_rfl) (fun _ _ _ h => h) (Or.inl ⟨by rfl, by intro w hSw; have q1 := hSw.2.2.1; go_simp⟩) hHeld ?_
          simp only [Act.put, List.setIfInBounds_toArray, List.set_cons_zero, List.set_cons_succ]
          refine take (i := 8) (d := some 64) (v := .pointer (some ⟨gm, 1, none⟩)) rfl (by kernel_rfl) (by kernel_rfl) (by kernel_rfl) (by kernel_rfl) (fun _ _ _ h => h) (Or.inl ⟨by rfl, by intro w hSw; go_simp⟩) hHeld ?_
          simp only [Act.put, List.setIfInBounds_toArray, List.set_cons_zero, List.set_cons_succ]
          refine take (i := 9) (d := some 65) (v := .slice (some ⟨gM, 0, none⟩) 8 8) rfl (by kernel_rfl) (by kernel_rfl) (by kernel_rfl) (by kernel_rfl) (fun _ _ _ h => h) (Or.inl ⟨by rfl, by intro w hSw; obtain ⟨q1, q2⟩ := two hSw.1; go_simp⟩) hHeld ?_
          simp only [Act.put, List.setIfInBounds_toArray, List.set_cons_zero, List.set_cons_succ]
          refine take (i := 10) (d := some 66) (v := .int .i64 F) rfl (by kernel_rfl) (by kernel_rfl) (by kernel_rfl) (by kernel_rfl) (fun _ _ _ h => h) (Or.inl ⟨by rfl, by intro w hSw; go_simp⟩) hHeld ?_
          simp only [Act.put, List.setIfInBounds_toArray, List.set_cons_zero, List.set_cons_succ]
          refine take (i := 11) (d := some 67) (v := .pointer (some ⟨gM, F, none⟩)) rfl (by kernel_rfl) (by kernel_rfl) (by kernel_rfl) (by kernel_rfl) (fun _ _ _ h => h) (Or.inl ⟨by rfl, by intro w hSw; go_simp⟩) hHeld ?_
          simp only [Act.put, List.setIfInBounds_toArray, List.set_cons_zero, List.set_cons_succ]
          refine take (i := 12) (d := some 68) (v := .int .i64 m1) rfl (by kernel_rfl) (by kernel_rfl) (by kernel_rfl) (by kernel_rfl) (fun _ _ _ h => h) (Or.inl ⟨by rfl, by intro w hSw; have q1 := hSw.2.2.2; go_simp⟩) hHeld ?_
          simp only [Act.put, List.setIfInBounds_toArray, List.set_cons_zero, List.set_cons_succ]
          refine take (i := 13) (d := some 69) (v := .int .i64 (bits .and .i64 h1 m1)) rfl (by kernel_rfl) (by kernel_rfl) (by kernel_rfl) (by kernel_rfl) (fun _ _ _ h => h) (Or.inl ⟨by rfl, by intro w hSw; go_simp⟩) hHeld ?_
          simp only [Act.put, List.setIfInBounds_toArray, List.set_cons_zero, List.set_cons_succ]
          refine take (i := 14) (d := some 70) (v := .pointer (some ⟨gV, F, none⟩)) rfl (by kernel_rfl) (by kernel_rfl) (by kernel_rfl) (by kernel_rfl) (fun _ _ _ h => h) (Or.inl ⟨by rfl, by intro w hSw; go_simp⟩) hHeld ?_
          simp only [Act.put, List.setIfInBounds_toArray, List.set_cons_zero, List.set_cons_succ]
          have hx := wide_and h1 m1
          generalize bits .and .i64 h1 m1 = x1 at *
          refine wpAnyH_ready (rs := [15]) (by kernel_rfl) (by simp) (readySkip (i := 15) rfl (by kernel_rfl) none (by kernel_rfl) (w' := wG.drew.setCell ⟨gV, F, none⟩ (.int .i64 x1)) (by go_simp) ⟨((i.drew hL).setV hL hbl hx).kM, ((i.drew hL).setV hL hbl hx).kX, by rw [World.cell?_setCell_other _ _ _ _ (by simp <;> omega)]; exact cH, by rw [World.cell?_setCell_other _ _ _ _ (by simp <;> omega)]; exact cM⟩ (fun hHeld => ?_) AllReadyH.nil)
          simp only [Act.put, List.setIfInBounds_toArray, List.set_cons_zero, List.set_cons_succ]
          refine wpAnyH_done (by kernel_rfl) ?_ _
          replace i := (i.drew hL).setV hL hbl (F := F) hx
          clear cH cM cV fV
          generalize wG.drew.setCell ⟨gV, F, none⟩ (.int .i64 x1) = wE at *
          go_wp2
          go_roundw
          case rel => exact ⟨K, _, _, by omega, by first | go_num | (congr 1; omega), i⟩
          case measure => simp [intOf]; omega
        · obtain ⟨h1, cH⟩ : ∃ h1 : Int, wD.cell? ⟨gH, F, none⟩ = some (.int .i64 h1) := ⟨_, i.cellH hF8⟩
          obtain ⟨m1, cM⟩ : ∃ m1 : Int, wD.cell? ⟨gM, F, none⟩ = some (.int .i64 m1) := ⟨_, (i.cellM hF8).1⟩
          obtain ⟨cV, fV⟩ := i.cellV hF8
          have lv := hL.vm
          have l9 := hL.mv
          have l8 := hL.h
          have l7 := hL.x
          refine wp_region_held_drew (S := (fun w' => w'.heap[gm]? = some (.cells #[sl gV, sl gM] 25 (0, 0)) ∧ w'.heap[gx]? = some (.cells #[sl gH] 28 (0, 0)) ∧ w'.cell? ⟨gH, F, none⟩ = some (.int .i64 h1) ∧ w'.cell? ⟨gM, F, none⟩ = some (.int .i64 m1))) (by kernel_rfl) ⟨i.kM, i.kX, cH, cM⟩ (fun hHeld => ?_)
          refine take (i := 0) (d := some 56) (v := .pointer (some ⟨gm, 0, none⟩)) rfl (by kernel_rfl) (by kernel_rfl) (by kernel_rfl) (by kernel_rfl) (fun _ _ _ h => h) (Or.inl ⟨by rfl, by intro w hSw; go_simp⟩) hHeld ?_
          simp only [Act.put, List.setIfInBounds_toArray, List.set_cons_zero, List.set_cons_succ]
          refine take (i := 1) (d := some 57) (v := .slice (some ⟨gV, 0, none⟩) 8 8) rfl (by kernel_rfl) (by kernel_rfl) (by kernel_rfl) (by kernel_rfl) (fun _ _ _ h => h) (Or.inl ⟨by rfl, by intro w hSw; obtain ⟨q1, q2⟩ := two hSw.1; go_simp⟩) hHeld ?_
          simp only [Act.put, List.setIfInBounds_toArray, List.set_cons_zero, List.set_cons_succ]
          refine take (i := 2) (d := some 58) (v := .int .i64 F) rfl (by kernel_rfl) (by kernel_rfl) (by kernel_rfl) (by kernel_rfl) (fun _ _ _ h => h) (Or.inl ⟨by rfl, by intro w hSw; go_simp⟩) hHeld ?_
          simp only [Act.put, List.setIfInBounds_toArray, List.set_cons_zero, List.set_cons_succ]
          refine take (i := 3) (d := some 59) (v := .pointer (some ⟨gx, 0, none⟩)) rfl (by kernel_rfl) (by kernel_rfl) (by kernel_rfl) (by kernel_rfl) (fun _ _ _ h => h) (Or.inl ⟨by rfl, by intro w hSw; go_simp⟩) hHeld ?_
          simp only [Act.put, List.setIfInBounds_toArray, List.set_cons_zero, List.set_cons_succ]
          refine take (i := 4) (d := some 60) (v := .slice (some ⟨gH, 0, none⟩) 8 8) rfl (by kernel_rfl) (by kernel_rfl) (by kernel_rfl) (by kernel_rfl) (fun _ _ _ h => h) (Or.inl ⟨by rfl, by intro w hSw; have q1 := Hh.one hSw.2.1; go_simp⟩) hHeld ?_
          simp only [Act.put, List.setIfInBounds_toArray, List.set_cons_zero, List.set_cons_succ]
          refine take (i := 5) (d := some 61) (v := .int .i64 F) rfl (by kernel_rfl) (by kernel_rfl) (by kernel_rfl) (by kernel_rfl) (fun _ _ _ h => h) (Or.inl ⟨by rfl, by intro w hSw; go_simp⟩) hHeld ?_
          simp only [Act.put, List.setIfInBounds_toArray, List.set_cons_zero, List.set_cons_succ]
          refine take (i := 6) (d := some 62) (v := .pointer (some ⟨gH, F, none⟩)) rfl (by kernel_rfl) (by kernel_rfl) (by kernel_rfl) (by kernel_rfl) (fun _ _ _ h => h) (Or.inl ⟨by rfl, by intro w hSw; go_simp⟩) hHeld ?_
          simp only [Act.put, List.setIfInBounds_toArray, List.set_cons_zero, List.set_cons_succ]
          refine take (i := 7) (d := some 63) (v := .int .i64 h1) rfl (by kernel_rfl) (by kernel_rfl) (by kernel_rfl) (by kernel_rfl) (fun _ _ _ h => h) (Or.inl ⟨by rfl, by intro w hSw; have q1 := hSw.2.2.1; go_simp⟩) hHeld ?_
          simp only [Act.put, List.setIfInBounds_toArray, List.set_cons_zero, List.set_cons_succ]
          refine take (i := 8) (d := some 64) (v := .pointer (some ⟨gm, 1, none⟩)) rfl (by kernel_rfl) (by kernel_rfl) (by kernel_rfl) (by kernel_rfl) (fun _ _ _ h => h) (Or.inl ⟨by rfl, by intro w hSw; go_simp⟩) hHeld ?_
          simp only [Act.put, List.setIfInBounds_toArray, List.set_cons_zero, List.set_cons_succ]
          refine take (i := 9) (d := some 65) (v := .slice (some ⟨gM, 0, none⟩) 8 8) rfl (by kernel_rfl) (by kernel_rfl) (by kernel_rfl) (by kernel_rfl) (fun _ _ _ h => h) (Or.inl ⟨by rfl, by intro w hSw; obtain ⟨q1, q2⟩ := two hSw.1; go_simp⟩) hHeld ?_
          simp only [Act.put, List.setIfInBounds_toArray, List.set_cons_zero, List.set_cons_succ]
          refine take (i := 10) (d := some 66) (v := .int .i64 F) rfl (by kernel_rfl) (by kernel_rfl) (by kernel_rfl) (by kernel_rfl) (fun _ _ _ h => h) (Or.inl ⟨by rfl, by intro w hSw; go_simp⟩) hHeld ?_
          simp only [Act.put, List.setIfInBounds_toArray, List.set_cons_zero, List.set_cons_succ]
          refine take (i := 11) (d := some 67) (v := .pointer (some ⟨gM, F, none⟩)) rfl (by kernel_rfl) (by kernel_rfl) (by kernel_rfl) (by kernel_rfl) (fun _ _ _ h => h) (Or.inl ⟨by rfl, by intro w hSw; go_simp⟩) hHeld ?_
          simp only [Act.put, List.setIfInBounds_toArray, List.set_cons_zero, List.set_cons_succ]
          refine take (i := 12) (d := some 68) (v := .int .i64 m1) rfl (by kernel_rfl) (by kernel_rfl) (by kernel_rfl) (by kernel_rfl) (fun _ _ _ h => h) (Or.inl ⟨by rfl, by intro w hSw; have q1 := hSw.2.2.2; go_simp⟩) hHeld ?_
          simp only [Act.put, List.setIfInBounds_toArray, List.set_cons_zero, List.set_cons_succ]
          refine take (i := 13) (d := some 69) (v := .int .i64 (bits .and .i64 h1 m1)) rfl (by kernel_rfl) (by kernel_rfl) (by kernel_rfl) (by kernel_rfl) (fun _ _ _ h => h) (Or.inl ⟨by rfl, by intro w hSw; go_simp⟩) hHeld ?_
          simp only [Act.put, List.setIfInBounds_toArray, List.set_cons_zero, List.set_cons_succ]
          refine take (i := 14) (d := some 70) (v := .pointer (some ⟨gV, F, none⟩)) rfl (by kernel_rfl) (by kernel_rfl) (by kernel_rfl) (by kernel_rfl) (fun _ _ _ h => h) (Or.inl ⟨by rfl, by intro w hSw; go_simp⟩) hHeld ?_
          simp only [Act.put, List.setIfInBounds_toArray, List.set_cons_zero, List.set_cons_succ]
          have hx := wide_and h1 m1
          generalize bits .and .i64 h1 m1 = x1 at *
          refine wpAnyH_ready (rs := [15]) (by kernel_rfl) (by simp) (readySkip (i := 15) rfl (by kernel_rfl) none (by kernel_rfl) (w' := wD.drew.setCell ⟨gV, F, none⟩ (.int .i64 x1)) (by go_simp) ⟨((i.drew hL).setV hL hbl hx).kM, ((i.drew hL).setV hL hbl hx).kX, by rw [World.cell?_setCell_other _ _ _ _ (by simp <;> omega)]; exact cH, by rw [World.cell?_setCell_other _ _ _ _ (by simp <;> omega)]; exact cM⟩ (fun hHeld => ?_) AllReadyH.nil)
          simp only [Act.put, List.setIfInBounds_toArray, List.set_cons_zero, List.set_cons_succ]
          refine wpAnyH_done (by kernel_rfl) ?_ _
          replace i := (i.drew hL).setV hL hbl (F := F) hx
          clear cH cM cV fV
          generalize wD.drew.setCell ⟨gV, F, none⟩ (.int .i64 x1) = wE at *
          go_wp2
          go_roundw
          case rel => exact ⟨K, _, _, by omega, by first | go_num | (congr 1; omega), i⟩
          case measure => simp [intOf]; omega
      · obtain ⟨F, hF⟩ : ∃ F : Nat, f = F := ⟨f.toNat, by omega⟩
        subst hF
        have hF8 : F < 8 := by omega
        have hFz : (F : Int) < 8 := by omega
        refine wp_region_held_drew (S := (fun w' => w'.heap[gm]? = some (.cells #[sl gV, sl gM] 25 (0, 0)))) (by kernel_rfl) i.kM (fun hHeld => ?_)
        refine take (i := 0) (d := some 25) (v := .pointer (some ⟨gm, 1, none⟩)) rfl (by kernel_rfl) (by kernel_rfl) (by kernel_rfl) (by kernel_rfl) (fun _ _ _ h => h) (Or.inl ⟨by rfl, by intro w hSw; go_simp⟩) hHeld ?_
        simp only [Act.put, List.setIfInBounds_toArray, List.set_cons_zero, List.set_cons_succ]
        refine take (i := 1) (d := some 26) (v := .slice (some ⟨gM, 0, none⟩) 8 8) rfl (by kernel_rfl) (by kernel_rfl) (by kernel_rfl) (by kernel_rfl) (fun _ _ _ h => h) (Or.inl ⟨by rfl, by intro w hSw; obtain ⟨q1, q2⟩ := two hSw; go_simp⟩) hHeld ?_
        simp only [Act.put, List.setIfInBounds_toArray, List.set_cons_zero, List.set_cons_succ]
        refine take (i := 2) (d := some 27) (v := .int .i64 F) rfl (by kernel_rfl) (by kernel_rfl) (by kernel_rfl) (by kernel_rfl) (fun _ _ _ h => h) (Or.inl ⟨by rfl, by intro w hSw; go_simp⟩) hHeld ?_
        simp only [Act.put, List.setIfInBounds_toArray, List.set_cons_zero, List.set_cons_succ]
        refine take (i := 3) (d := some 28) (v := .int .i64 F) rfl (by kernel_rfl) (by kernel_rfl) (by kernel_rfl) (by kernel_rfl) (fun _ _ _ h => h) (Or.inl ⟨by rfl, by intro w hSw; go_simp⟩) hHeld ?_
        simp only [Act.put, List.setIfInBounds_toArray, List.set_cons_zero, List.set_cons_succ]
        refine wpAnyH_ready (rs := [4]) (by kernel_rfl) (by simp) (Rg.call1 (i := 4) rfl (by kernel_rfl) 207 (.tmp 28) 3 (by kernel_rfl) 29 (by kernel_rfl) (.int .i64 F) (by kernel_rfl) (fun _ => rfl) (Mu.fullS_any F hF8 _) ?_ AllReadyH.nil)
        rintro e wB ⟨rfl, hb⟩
        replace i := (i.drew hL).below hL hb
        clear hb
        refine ⟨_, rfl, i.kM, fun hHeld => ?_⟩
        simp only [Act.put, List.setIfInBounds_toArray, List.set_cons_zero, List.set_cons_succ]
        obtain ⟨m0, hm0⟩ : ∃ m0 : Int, m0 = Mp.fullI F := ⟨_, rfl⟩
        have hm1 : Pm.I64 m0 := by rw [hm0]; exact full_wide hF8
        rw [← hm0]
        clear hm0
        refine take (i := 5) (d := some 30) (v := .pointer (some ⟨gM, F, none⟩)) rfl (by kernel_rfl) (by kernel_rfl) (by kernel_rfl) (by kernel_rfl) (fun _ _ _ h => h) (Or.inl ⟨by rfl, by intro w hSw; go_simp⟩) hHeld ?_
        simp only [Act.put, List.setIfInBounds_toArray, List.set_cons_zero, List.set_cons_succ]
        obtain ⟨cM, fM⟩ := i.cellM hF8
        refine wpAnyH_ready (rs := [6]) (by kernel_rfl) (by simp) (readySkip (i := 6) rfl (by kernel_rfl) none (by kernel_rfl) (w' := wB.setCell ⟨gM, F, none⟩ (.int .i64 m0)) (by go_simp) (i.setM hL hbl hm1).kM (fun hHeld => ?_) AllReadyH.nil)
        simp only [Act.put, List.setIfInBounds_toArray, List.set_cons_zero, List.set_cons_succ]
        refine wpAnyH_done (by kernel_rfl) ?_ _
        clear cM fM
        replace i := i.setM hL hbl (F := F) hm1
        have hmF : (M.set F m0).getD F 0 = m0 := by have := i.lM; rw [List.length_set] at this; simp [List.getD, this, hF8]
        generalize wB.setCell ⟨gM, F, none⟩ (.int .i64 m0) = wC at *
        have t1 : True := trivial
        go_wp2_with (go_at_call 74; clear t1; refine (Dr.below_any _ _ _ _ _ _ 6 _ i.cur (by omega) (by omega)).mono ?_; rintro e wD ⟨u, rfl, u0, u1, hC', hO'⟩; replace i := i.step hL hO' hC'; clear hC' hO')
        · obtain ⟨m1, cM, wM1⟩ : ∃ m1 : Int, wD.cell? ⟨gM, F, none⟩ = some (.int .i64 m1) ∧ Pm.I64 m1 := ⟨_, (i.cellM hF8).1, i.wM F⟩
          refine wp_region_held_drew (S := (fun w' => w'.heap[gm]? = some (.cells #[sl gV, sl gM] 25 (0, 0)))) (by kernel_rfl) i.kM (fun hHeld => ?_)
          have cMd : wD.drew.cell? ⟨gM, F, none⟩ = some (.int .i64 m1) := cM
          clear cM
          replace i := i.drew hL
          have lm := hL.m
          generalize wD.drew = wD' at *
          refine take (i := 0) (d := some 35) (v := .pointer (some ⟨gm, 1, none⟩)) rfl (by kernel_rfl) (by kernel_rfl) (by kernel_rfl) (by kernel_rfl) (fun _ _ _ h => h) (Or.inl ⟨by rfl, by intro w hSw; go_simp⟩) hHeld ?_
          simp only [Act.put, List.setIfInBounds_toArray, List.set_cons_zero, List.set_cons_succ]
          refine take (i := 1) (d := some 36) (v := .slice (some ⟨gM, 0, none⟩) 8 8) rfl (by kernel_rfl) (by kernel_rfl) (by kernel_rfl) (by kernel_rfl) (fun _ _ _ h => h) (Or.inl ⟨by rfl, by intro w hSw; obtain ⟨q1, q2⟩ := two hSw; go_simp⟩) hHeld ?_
          simp only [Act.put, List.setIfInBounds_toArray, List.set_cons_zero, List.set_cons_succ]
          refine take (i := 2) (d := some 37) (v := .int .i64 F) rfl (by kernel_rfl) (by kernel_rfl) (by kernel_rfl) (by kernel_rfl) (fun _ _ _ h => h) (Or.inl ⟨by rfl, by intro w hSw; go_simp⟩) hHeld ?_
          simp only [Act.put, List.setIfInBounds_toArray, List.set_cons_zero, List.set_cons_succ]
          refine take (i := 3) (d := some 38) (v := .pointer (some ⟨gm, 1, none⟩)) rfl (by kernel_rfl) (by kernel_rfl) (by kernel_rfl) (by kernel_rfl) (fun _ _ _ h => h) (Or.inl ⟨by rfl, by intro w hSw; go_simp⟩) hHeld ?_
          simp only [Act.put, List.setIfInBounds_toArray, List.set_cons_zero, List.set_cons_succ]
          refine take (i := 4) (d := some 39) (v := .slice (some ⟨gM, 0, none⟩) 8 8) rfl (by kernel_rfl) (by kernel_rfl) (by kernel_rfl) (by kernel_rfl) (fun _ _ _ h => h) (Or.inl ⟨by rfl, by intro w hSw; obtain ⟨q1, q2⟩ := two hSw; go_simp⟩) hHeld ?_
          simp only [Act.put, List.setIfInBounds_toArray, List.set_cons_zero, List.set_cons_succ]
          refine take (i := 5) (d := some 40) (v := .int .i64 F) rfl (by kernel_rfl) (by kernel_rfl) (by kernel_rfl) (by kernel_rfl) (fun _ _ _ h => h) (Or.inl ⟨by rfl, by intro w hSw; go_simp⟩) hHeld ?_
          simp only [Act.put, List.setIfInBounds_toArray, List.set_cons_zero, List.set_cons_succ]
          refine take (i := 6) (d := some 41) (v := .pointer (some ⟨gM, F, none⟩)) rfl (by kernel_rfl) (by kernel_rfl) (by kernel_rfl) (by kernel_rfl) (fun _ _ _ h => h) (Or.inl ⟨by rfl, by intro w hSw; go_simp⟩) hHeld ?_
          simp only [Act.put, List.setIfInBounds_toArray, List.set_cons_zero, List.set_cons_succ]
          refine take (i := 8) (d := some 43) (v := .pointer (some ⟨g, 0, none⟩)) rfl (by kernel_rfl) (by kernel_rfl) (by kernel_rfl) (by kernel_rfl) (fun _ _ _ h => h) (Or.inl ⟨by rfl, by intro w hSw; go_simp⟩) hHeld ?_
          simp only [Act.put, List.setIfInBounds_toArray, List.set_cons_zero, List.set_cons_succ]
          refine wpAnyH_ready (rs := [7, 9]) (by kernel_rfl) (by simp) (readyRun (i := 7) rfl (by kernel_rfl) (some 42) (by kernel_rfl) (v := .int .i64 m1) (w' := wD') (by go_simp) i.kM (fun hHeld => ?_) (Rg.call2 (i := 9) rfl (by kernel_rfl) 74 (.tmp 43) (.const (.int .i64 8)) 98 3 (by kernel_rfl) 44 (by kernel_rfl) (.pointer (some ⟨g, 0, none⟩)) (.int .i64 8) (by kernel_rfl) (by kernel_rfl) (fun _ => rfl) (Dr.below_any _ _ _ _ _ _ 8 _ i.cur (by omega) (by omega)) ?_ AllReadyH.nil))
          · simp only [Act.put, List.setIfInBounds_toArray, List.set_cons_zero, List.set_cons_succ]
            refine wpAnyH_ready (rs := [9]) (by kernel_rfl) (by simp) (Rg.call2 (i := 9) rfl (by kernel_rfl) 74 (.tmp 43) (.const (.int .i64 8)) 98 3 (by kernel_rfl) 44 (by kernel_rfl) (.pointer (some ⟨g, 0, none⟩)) (.int .i64 8) (by kernel_rfl) (by kernel_rfl) (fun _ => rfl) (Dr.below_any _ _ _ _ _ _ 8 _ i.cur (by omega) (by omega)) ?_ AllReadyH.nil)
            rintro e wH ⟨z, rfl, zz0, zz1, hC', hO'⟩
            have cMh := (World.cell?_of_block (hO'.block gM i.mM.row.lt (by have := hL.g; simp; omega)) (a := ⟨gM, F, none⟩)).trans cMd
            replace i := i.step hL hO' hC'
            clear hC' hO' cMd
            refine ⟨_, rfl, i.kM, fun hHeld => ?_⟩
            simp only [Act.put, List.setIfInBounds_toArray, List.set_cons_zero, List.set_cons_succ]
            obtain ⟨s1, es1⟩ : ∃ s1 : Int, s1 = IntKind.i64.wrap (m1 - z) := ⟨_, rfl⟩
            have hs1 : Pm.I64 s1 := by rw [es1, IntKind.wrap_i64]; constructor <;> omega
            refine take (i := 10) (d := some 45) (v := .int .i64 s1) rfl (by kernel_rfl) (by kernel_rfl) (by kernel_rfl) (by kernel_rfl) (fun _ _ _ h => h) (Or.inl ⟨by rfl, by intro w hSw; rw [es1]; go_simp⟩) hHeld ?_
            simp only [Act.put, List.setIfInBounds_toArray, List.set_cons_zero, List.set_cons_succ]
            clear es1
            refine take (i := 11) (d := some 46) (v := .pointer (some ⟨gM, F, none⟩)) rfl (by kernel_rfl) (by kernel_rfl) (by kernel_rfl) (by kernel_rfl) (fun _ _ _ h => h) (Or.inl ⟨by rfl, by intro w hSw; go_simp⟩) hHeld ?_
            simp only [Act.put, List.setIfInBounds_toArray, List.set_cons_zero, List.set_cons_succ]
            obtain ⟨_, fM⟩ := i.cellM hF8
            refine wpAnyH_ready (rs := [12]) (by kernel_rfl) (by simp) (readySkip (i := 12) rfl (by kernel_rfl) none (by kernel_rfl) (w' := wH.setCell ⟨gM, F, none⟩ (.int .i64 s1)) (by go_simp) (i.setM hL hbl hs1).kM (fun hHeld => ?_) AllReadyH.nil)
            simp only [Act.put, List.setIfInBounds_toArray, List.set_cons_zero, List.set_cons_succ]
            refine wpAnyH_done (by kernel_rfl) ?_ _
            clear cMh fM
            replace i := i.setM hL hbl (F := F) hs1
            generalize wH.setCell ⟨gM, F, none⟩ (.int .i64 s1) = wG at *
            obtain rfl : u = 0 := eq_of_beq (by assumption)
            go_wp2
            obtain ⟨h1, cH⟩ : ∃ h1 : Int, wG.cell? ⟨gH, F, none⟩ = some (.int .i64 h1) := ⟨_, i.cellH hF8⟩
            obtain ⟨m1, cM⟩ : ∃ m1 : Int, wG.cell? ⟨gM, F, none⟩ = some (.int .i64 m1) := ⟨_, (i.cellM hF8).1⟩
            obtain ⟨cV, fV⟩ := i.cellV hF8
            have lv := hL.vm
            have l9 := hL.mv
            have l8 := hL.h
            have l7 := hL.x
            refine wp_region_held_drew (S := (fun w' => w'.heap[gm]? = some (.cells #[sl gV, sl gM] 25 (0, 0)) ∧ w'.heap[gx]? = some (.cells #[sl gH] 28 (0, 0)) ∧ w'.cell? ⟨gH, F, none⟩ = some (.int .i64 h1) ∧ w'.cell? ⟨gM, F, none⟩ = some (.int .i64 m1))) (by kernel_rfl) ⟨i.kM, i.kX, cH, cM⟩ (fun hHeld => ?_)
            refine take (i := 0) (d := some 56) (v := .pointer (some ⟨gm, 0, none⟩)) rfl (by kernel_rfl) (by kernel_rfl) (by kernel_rfl) (by kernel_rfl) (fun _ _ _ h => h) (Or.inl ⟨by rfl, by intro w hSw; go_simp⟩) hHeld ?_
            simp only [Act.put, List.setIfInBounds_toArray, List.set_cons_zero, List.set_cons_succ]
            refine take (i := 1) (d := some 57) (v := .slice (some ⟨gV, 0, none⟩) 8 8) rfl (by kernel_rfl) (by kernel_rfl) (by kernel_rfl) (by kernel_rfl) (fun _ _ _ h => h) (Or.inl ⟨by rfl, by intro w hSw; obtain ⟨q1, q2⟩ := two hSw.1; go_simp⟩) hHeld ?_
            simp only [Act.put, List.setIfInBounds_toArray, List.set_cons_zero, List.set_cons_succ]
            refine take (i := 2) (d := some 58) (v := .int .i64 F) rfl (by kernel_rfl) (by kernel_rfl) (by kernel_rfl) (by kernel_rfl) (fun _ _ _ h => h) (Or.inl ⟨by rfl, by intro w hSw; go_simp⟩) hHeld ?_
            simp only [Act.put, List.setIfInBounds_toArray, List.set_cons_zero, List.set_cons_succ]
            refine take (i := 3) (d := some 59) (v := .pointer (some ⟨gx, 0, none⟩)) rfl (by kernel_rfl) (by kernel_rfl) (by kernel_rfl) (by kernel_rfl) (fun _ _ _ h => h) (Or.inl ⟨by rfl, by intro w hSw; go_simp⟩) hHeld ?_
            simp only [Act.put, List.setIfInBounds_toArray, List.set_cons_zero, List.set_cons_succ]
            refine take (i := 4) (d := some 60) (v := .slice (some ⟨gH, 0, none⟩) 8 8) rfl (by kernel_rfl) (by kernel_rfl) (by kernel_rfl) (by kernel_rfl) (fun _ _ _ h => h) (Or.inl ⟨by rfl, by intro w hSw; have q1 := Hh.one hSw.2.1; go_simp⟩) hHeld ?_
            simp only [Act.put, List.setIfInBounds_toArray, List.set_cons_zero, List.set_cons_succ]
            refine take (i := 5) (d := some 61) (v := .int .i64 F) rfl (by kernel_rfl) (by kernel_rfl) (by kernel_rfl) (by kernel_rfl) (fun _ _ _ h => h) (Or.inl ⟨by rfl, by intro w hSw; go_simp⟩) hHeld ?_
            simp only [Act.put, List.setIfInBounds_toArray, List.set_cons_zero, List.set_cons_succ]
            refine take (i := 6) (d := some 62) (v := .pointer (some ⟨gH, F, none⟩)) rfl (by kernel_rfl) (by kernel_rfl) (by kernel_rfl) (by kernel_rfl) (fun _ _ _ h => h) (Or.inl ⟨by rfl, by intro w hSw; go_simp⟩) hHeld ?_
            simp only [Act.put, List.setIfInBounds_toArray, List.set_cons_zero, List.set_cons_succ]
            refine take (i := 7) (d := some 63) (v := .int .i64 h1) rfl (by kernel_rfl) (by kernel_rfl) (by kernel_rfl) (by kernel_rfl) (fun _ _ _ h => h) (Or.inl ⟨by rfl, by intro w hSw; have q1 := hSw.2.2.1; go_simp⟩) hHeld ?_
            simp only [Act.put, List.setIfInBounds_toArray, List.set_cons_zero, List.set_cons_succ]
            refine take (i := 8) (d := some 64) (v := .pointer (some ⟨gm, 1, none⟩)) rfl (by kernel_rfl) (by kernel_rfl) (by kernel_rfl) (by kernel_rfl) (fun _ _ _ h => h) (Or.inl ⟨by rfl, by intro w hSw; go_simp⟩) hHeld ?_
            simp only [Act.put, List.setIfInBounds_toArray, List.set_cons_zero, List.set_cons_succ]
            refine take (i := 9) (d := some 65) (v := .slice (some ⟨gM, 0, none⟩) 8 8) rfl (by kernel_rfl) (by kernel_rfl) (by kernel_rfl) (by kernel_rfl) (fun _ _ _ h => h) (Or.inl ⟨by rfl, by intro w hSw; obtain ⟨q1, q2⟩ := two hSw.1; go_simp⟩) hHeld ?_
            simp only [Act.put, List.setIfInBounds_toArray, List.set_cons_zero, List.set_cons_succ]
            refine take (i := 10) (d := some 66) (v := .int .i64 F) rfl (by kernel_rfl) (by kernel_rfl) (by kernel_rfl) (by kernel_rfl) (fun _ _ _ h => h) (Or.inl ⟨by rfl, by intro w hSw; go_simp⟩) hHeld ?_
            simp only [Act.put, List.setIfInBounds_toArray, List.set_cons_zero, List.set_cons_succ]
            refine take (i := 11) (d := some 67) (v := .pointer (some ⟨gM, F, none⟩)) rfl (by kernel_rfl) (by kernel_rfl) (by kernel_rfl) (by kernel_rfl) (fun _ _ _ h => h) (Or.inl ⟨by rfl, by intro w hSw; go_simp⟩) hHeld ?_
            simp only [Act.put, List.setIfInBounds_toArray, List.set_cons_zero, List.set_cons_succ]
            refine take (i := 12) (d := some 68) (v := .int .i64 m1) rfl (by kernel_rfl) (by kernel_rfl) (by kernel_rfl) (by kernel_rfl) (fun _ _ _ h => h) (Or.inl ⟨by rfl, by intro w hSw; have q1 := hSw.2.2.2; go_simp⟩) hHeld ?_
            simp only [Act.put, List.setIfInBounds_toArray, List.set_cons_zero, List.set_cons_succ]
            refine take (i := 13) (d := some 69) (v := .int .i64 (bits .and .i64 h1 m1)) rfl (by kernel_rfl) (by kernel_rfl) (by kernel_rfl) (by kernel_rfl) (fun _ _ _ h => h) (Or.inl ⟨by rfl, by intro w hSw; go_simp⟩) hHeld ?_
            simp only [Act.put, List.setIfInBounds_toArray, List.set_cons_zero, List.set_cons_succ]
            refine take (i := 14) (d := some 70) (v := .pointer (some ⟨gV, F, none⟩)) rfl (by kernel_rfl) (by kernel_rfl) (by kernel_rfl) (by kernel_rfl) (fun _ _ _ h => h) (Or.inl ⟨by rfl, by intro w hSw; go_simp⟩) hHeld ?_
            simp only [Act.put, List.setIfInBounds_toArray, List.set_cons_zero, List.set_cons_succ]
            have hx := wide_and h1 m1
            generalize bits .and .i64 h1 m1 = x1 at *
            refine wpAnyH_ready (rs := [15]) (by kernel_rfl) (by simp) (readySkip (i := 15) rfl (by kernel_rfl) none (by kernel_rfl) (w' := wG.drew.setCell ⟨gV, F, none⟩ (.int .i64 x1)) (by go_simp) ⟨((i.drew hL).setV hL hbl hx).kM, ((i.drew hL).setV hL hbl hx).kX, by rw [World.cell?_setCell_other _ _ _ _ (by simp <;> omega)]; exact cH, by rw [World.cell?_setCell_other _ _ _ _ (by simp <;> omega)]; exact cM⟩ (fun hHeld => ?_) AllReadyH.nil)
            simp only [Act.put, List.setIfInBounds_toArray, List.set_cons_zero, List.set_cons_succ]
            refine wpAnyH_done (by kernel_rfl) ?_ _
            replace i := (i.drew hL).setV hL hbl (F := F) hx
            clear cH cM cV fV
            generalize wG.drew.setCell ⟨gV, F, none⟩ (.int .i64 x1) = wE at *
            go_wp2
            go_roundw
            case rel => exact ⟨K, _, _, by omega, by first | go_num | (congr 1; omega), i⟩
            case measure => simp [intOf]; omega
          · rintro e wH ⟨z, rfl, zz0, zz1, hC', hO'⟩
            have cMh := (World.cell?_of_block (hO'.block gM i.mM.row.lt (by have := hL.g; simp; omega)) (a := ⟨gM, F, none⟩)).trans cMd
            replace i := i.step hL hO' hC'
            clear hC' hO' cMd
            refine ⟨_, rfl, i.kM, fun hHeld => ?_⟩
            simp only [Act.put, List.setIfInBounds_toArray, List.set_cons_zero, List.set_cons_succ]
            refine wpAnyH_ready (rs := [7]) (by kernel_rfl) (by simp) (readyRun (i := 7) rfl (by kernel_rfl) (some 42) (by kernel_rfl) (v := .int .i64 m1) (w' := wH) (by go_simp) i.kM (fun hHeld => ?_) AllReadyH.nil)
            simp only [Act.put, List.setIfInBounds_toArray, List.set_cons_zero, List.set_cons_succ]
            obtain ⟨s1, es1⟩ : ∃ s1 : Int, s1 = IntKind.i64.wrap (m1 - z) := ⟨_, rfl⟩
            have hs1 : Pm.I64 s1 := by rw [es1, IntKind.wrap_i64]; constructor <;> omega
            refine take (i := 10) (d := some 45) (v := .int .i64 s1) rfl (by kernel_rfl) (by kernel_rfl) (by kernel_rfl) (by kernel_rfl) (fun _ _ _ h => h) (Or.inl ⟨by rfl, by intro w hSw; rw [es1]; go_simp⟩) hHeld ?_
            simp only [Act.put, List.setIfInBounds_toArray, List.set_cons_zero, List.set_cons_succ]
            clear es1
            refine take (i := 11) (d := some 46) (v := .pointer (some ⟨gM, F, none⟩)) rfl (by kernel_rfl) (by kernel_rfl) (by kernel_rfl) (by kernel_rfl) (fun _ _ _ h => h) (Or.inl ⟨by rfl, by intro w hSw; go_simp⟩) hHeld ?_
            simp only [Act.put, List.setIfInBounds_toArray, List.set_cons_zero, List.set_cons_succ]
            obtain ⟨_, fM⟩ := i.cellM hF8
            refine wpAnyH_ready (rs := [12]) (by kernel_rfl) (by simp) (readySkip (i := 12) rfl (by kernel_rfl) none (by kernel_rfl) (w' := wH.setCell ⟨gM, F, none⟩ (.int .i64 s1)) (by go_simp) (i.setM hL hbl hs1).kM (fun hHeld => ?_) AllReadyH.nil)
            simp only [Act.put, List.setIfInBounds_toArray, List.set_cons_zero, List.set_cons_succ]
            refine wpAnyH_done (by kernel_rfl) ?_ _
            clear cMh fM
            replace i := i.setM hL hbl (F := F) hs1
            generalize wH.setCell ⟨gM, F, none⟩ (.int .i64 s1) = wG at *
            obtain rfl : u = 0 := eq_of_beq (by assumption)
            go_wp2
            obtain ⟨h1, cH⟩ : ∃ h1 : Int, wG.cell? ⟨gH, F, none⟩ = some (.int .i64 h1) := ⟨_, i.cellH hF8⟩
            obtain ⟨m1, cM⟩ : ∃ m1 : Int, wG.cell? ⟨gM, F, none⟩ = some (.int .i64 m1) := ⟨_, (i.cellM hF8).1⟩
            obtain ⟨cV, fV⟩ := i.cellV hF8
            have lv := hL.vm
            have l9 := hL.mv
            have l8 := hL.h
            have l7 := hL.x
            refine wp_region_held_drew (S := (fun w' => w'.heap[gm]? = some (.cells #[sl gV, sl gM] 25 (0, 0)) ∧ w'.heap[gx]? = some (.cells #[sl gH] 28 (0, 0)) ∧ w'.cell? ⟨gH, F, none⟩ = some (.int .i64 h1) ∧ w'.cell? ⟨gM, F, none⟩ = some (.int .i64 m1))) (by kernel_rfl) ⟨i.kM, i.kX, cH, cM⟩ (fun hHeld => ?_)
            refine take (i := 0) (d := some 56) (v := .pointer (some ⟨gm, 0, none⟩)) rfl (by kernel_rfl) (by kernel_rfl) (by kernel_rfl) (by kernel_rfl) (fun _ _ _ h => h) (Or.inl ⟨by rfl, by intro w hSw; go_simp⟩) hHeld ?_
            simp only [Act.put, List.setIfInBounds_toArray, List.set_cons_zero, List.set_cons_succ]
            refine take (i := 1) (d := some 57) (v := .slice (some ⟨gV, 0, none⟩) 8 8) rfl (by kernel_rfl) (by kernel_rfl) (by kernel_rfl) (by kernel_rfl) (fun _ _ _ h => h) (Or.inl ⟨by rfl, by intro w hSw; obtain ⟨q1, q2⟩ := two hSw.1; go_simp⟩) hHeld ?_
            simp only [Act.put, List.setIfInBounds_toArray, List.set_cons_zero, List.set_cons_succ]
            refine take (i := 2) (d := some 58) (v := .int .i64 F) rfl (by kernel_rfl) (by kernel_rfl) (by kernel_rfl) (by kernel_rfl) (fun _ _ _ h => h) (Or.inl ⟨by rfl, by intro w hSw; go_simp⟩) hHeld ?_
            simp only [Act.put, List.setIfInBounds_toArray, List.set_cons_zero, List.set_cons_succ]
            refine take (i := 3) (d := some 59) (v := .pointer (some ⟨gx, 0, none⟩)) rfl (by kernel_rfl) (by kernel_rfl) (by kernel_rfl) (by kernel_rfl) (fun _ _ _ h => h) (Or.inl ⟨by rfl, by intro w hSw; go_simp⟩) hHeld ?_
            simp only [Act.put, List.setIfInBounds_toArray, List.set_cons_zero, List.set_cons_succ]
            refine take (i := 4) (d := some 60) (v := .slice (some ⟨gH, 0, none⟩) 8 8) rfl (by kernel_rfl) (by kernel_rfl) (by kernel_rfl) (by kernel_rfl) (fun _ _ _ h => h) (Or.inl ⟨by rfl, by intro w hSw; have q1 := Hh.one hSw.2.1; go_simp⟩) hHeld ?_
            simp only [Act.put, List.setIfInBounds_toArray, List.set_cons_zero, List.set_cons_succ]
            refine take (i := 5) (d := some 61) (v := .int .i64 F) rfl (by kernel_rfl) (by kernel_rfl) (by kernel_rfl) (by kernel_rfl) (fun _ _ _ h => h) (Or.inl ⟨by rfl, by intro w hSw; go_simp⟩) hHeld ?_
            simp only [Act.put, List.setIfInBounds_toArray, List.set_cons_zero, List.set_cons_succ]
            refine take (i := 6) (d := some 62) (v := .pointer (some ⟨gH, F, none⟩)) rfl (by kernel_rfl) (by kernel_rfl) (by kernel_rfl) (by kernel_rfl) (fun _ _ _ h => h) (Or.inl ⟨by rfl, by intro w hSw; go_simp⟩) hHeld ?_
            simp only [Act.put, List.setIfInBounds_toArray, List.set_cons_zero, List.set_cons_succ]
            refine take (i := 7) (d := some 63) (v := .int .i64 h1) rfl (by kernel_rfl) (by kernel_rfl) (by kernel_rfl) (by kernel_rfl) (fun _ _ _ h => h) (Or.inl ⟨by rfl, by intro w hSw; have q1 := hSw.2.2.1; go_simp⟩) hHeld ?_
            simp only [Act.put, List.setIfInBounds_toArray, List.set_cons_zero, List.set_cons_succ]
            refine take (i := 8) (d := some 64) (v := .pointer (some ⟨gm, 1, none⟩)) rfl (by kernel_rfl) (by kernel_rfl) (by kernel_rfl) (by kernel_rfl) (fun _ _ _ h => h) (Or.inl ⟨by rfl, by intro w hSw; go_simp⟩) hHeld ?_
            simp only [Act.put, List.setIfInBounds_toArray, List.set_cons_zero, List.set_cons_succ]
            refine take (i := 9) (d := some 65) (v := .slice (some ⟨gM, 0, none⟩) 8 8) rfl (by kernel_rfl) (by kernel_rfl) (by kernel_rfl) (by kernel_rfl) (fun _ _ _ h => h) (Or.inl ⟨by rfl, by intro w hSw; obtain ⟨q1, q2⟩ := two hSw.1; go_simp⟩) hHeld ?_
            simp only [Act.put, List.setIfInBounds_toArray, List.set_cons_zero, List.set_cons_succ]
            refine take (i := 10) (d := some 66) (v := .int .i64 F) rfl (by kernel_rfl) (by kernel_rfl) (by kernel_rfl) (by kernel_rfl) (fun _ _ _ h => h) (Or.inl ⟨by rfl, by intro w hSw; go_simp⟩) hHeld ?_
            simp only [Act.put, List.setIfInBounds_toArray, List.set_cons_zero, List.set_cons_succ]
            refine take (i := 11) (d := some 67) (v := .pointer (some ⟨gM, F, none⟩)) rfl (by kernel_rfl) (by kernel_rfl) (by kernel_rfl) (by kernel_rfl) (fun _ _ _ h => h) (Or.inl ⟨by rfl, by intro w hSw; go_simp⟩) hHeld ?_
            simp only [Act.put, List.setIfInBounds_toArray, List.set_cons_zero, List.set_cons_succ]
            refine take (i := 12) (d := some 68) (v := .int .i64 m1) rfl (by kernel_rfl) (by kernel_rfl) (by kernel_rfl) (by kernel_rfl) (fun _ _ _ h => h) (Or.inl ⟨by rfl, by intro w hSw; have q1 := hSw.2.2.2; go_simp⟩) hHeld ?_
            simp only [Act.put, List.setIfInBounds_toArray, List.set_cons_zero, List.set_cons_succ]
            refine take (i := 13) (d := some 69) (v := .int .i64 (bits .and .i64 h1 m1)) rfl (by kernel_rfl) (by kernel_rfl) (by kernel_rfl) (by kernel_rfl) (fun _ _ _ h => h) (Or.inl ⟨by rfl, by intro w hSw; go_simp⟩) hHeld ?_
            simp only [Act.put, List.setIfInBounds_toArray, List.set_cons_zero, List.set_cons_succ]
            refine take (i := 14) (d := some 70) (v := .pointer (some ⟨gV, F, none⟩)) rfl (by kernel_rfl) (by kernel_rfl) (by kernel_rfl) (by kernel_rfl) (fun _ _ _ h => h) (Or.inl ⟨by rfl, by intro w hSw; go_simp⟩) hHeld ?_
            simp only [Act.put, List.setIfInBounds_toArray, List.set_cons_zero, List.set_cons_succ]
            have hx := wide_and h1 m1
            generalize bits .and .i64 h1 m1 = x1 at *
            refine wpAnyH_ready (rs := [15]) (by kernel_rfl) (by simp) (readySkip (i := 15) rfl (by kernel_rfl) none (by kernel_rfl) (w' := wG.drew.setCell ⟨gV, F, none⟩ (.int .i64 x1)) (by go_simp) ⟨((i.drew hL).setV hL hbl hx).kM, ((i.drew hL).setV hL hbl hx).kX, by rw [World.cell?_setCell_other _ _ _ _ (by simp <;> omega)]; exact cH, by rw [World.cell?_setCell_other _ _ _ _ (by simp <;> omega)]; exact cM⟩ (fun hHeld => ?_) AllReadyH.nil)
            simp only [Act.put, List.setIfInBounds_toArray, List.set_cons_zero, List.set_cons_succ]
            refine wpAnyH_done (by kernel_rfl) ?_ _
            replace i := (i.drew hL).setV hL hbl (F := F) hx
            clear cH cM cV fV
            generalize wG.drew.setCell ⟨gV, F, none⟩ (.int .i64 x1) = wE at *
            go_wp2
            go_roundw
            case rel => exact ⟨K, _, _, by omega, by first | go_num | (congr 1; omega), i⟩
            case measure => simp [intOf]; omega
        · refine wp_region_held_drew (S := (fun w' => w'.heap[gm]? = some (.cells #[sl gV, sl gM] 25 (0, 0)))) (by kernel_rfl) i.kM (fun hHeld => ?_)
          refine take (i := 0) (d := some 49) (v := .pointer (some ⟨gm, 1, none⟩)) rfl (by kernel_rfl) (by kernel_rfl) (by kernel_rfl) (by kernel_rfl) (fun _ _ _ h => h) (Or.inl ⟨by rfl, by intro w hSw; go_simp⟩) hHeld ?_
          simp only [Act.put, List.setIfInBounds_toArray, List.set_cons_zero, List.set_cons_succ]
          refine take (i := 1) (d := some 50) (v := .slice (some ⟨gM, 0, none⟩) 8 8) rfl (by kernel_rfl) (by kernel_rfl) (by kernel_rfl) (by kernel_rfl) (fun _ _ _ h => h) (Or.inl ⟨by rfl, by intro w hSw; obtain ⟨q1, q2⟩ := two hSw; go_simp⟩) hHeld ?_
          simp only [Act.put, List.setIfInBounds_toArray, List.set_cons_zero, List.set_cons_succ]
          refine take (i := 2) (d := some 51) (v := .int .i64 F) rfl (by kernel_rfl) (by kernel_rfl) (by kernel_rfl) (by kernel_rfl) (fun _ _ _ h => h) (Or.inl ⟨by rfl, by intro w hSw; go_simp⟩) hHeld ?_
          simp only [Act.put, List.setIfInBounds_toArray, List.set_cons_zero, List.set_cons_succ]
          refine take (i := 3) (d := some 52) (v := .pointer (some ⟨g, 0, none⟩)) rfl (by kernel_rfl) (by kernel_rfl) (by kernel_rfl) (by kernel_rfl) (fun _ _ _ h => h) (Or.inl ⟨by rfl, by intro w hSw; go_simp⟩) hHeld ?_
          simp only [Act.put, List.setIfInBounds_toArray, List.set_cons_zero, List.set_cons_succ]
          refine wpAnyH_ready (rs := [4]) (by kernel_rfl) (by simp) (Rg.call2 (i := 4) rfl (by kernel_rfl) 74 (.tmp 52) (.const (.int .i64 3)) 98 3 (by kernel_rfl) 53 (by kernel_rfl) (.pointer (some ⟨g, 0, none⟩)) (.int .i64 3) (by kernel_rfl) (by kernel_rfl) (fun _ => rfl) (Dr.below_any _ _ _ _ _ _ 3 _ (i.drew hL).cur (by omega) (by omega)) ?_ AllReadyH.nil)
          rintro e wF ⟨z, rfl, zz0, zz1, hC', hO'⟩
          replace i := (i.drew hL).step hL hO' hC'
          clear hC' hO'
          refine ⟨_, rfl, i.kM, fun hHeld => ?_⟩
          simp only [Act.put, List.setIfInBounds_toArray, List.set_cons_zero, List.set_cons_succ]
          have hz3 : ∃ p2 : Int, Pm.I64 p2 ∧ ((z = 0 ∧ p2 = 1) ∨ (z = 1 ∧ p2 = 2) ∨ (z = 2 ∧ p2 = 4)) := by
            have e : z = 0 ∨ z = 1 ∨ z = 2 := by omega
            rcases e with rfl | rfl | rfl
            · exact ⟨1, by constructor <;> decide, by omega⟩
            · exact ⟨2, by constructor <;> decide, by omega⟩
            · exact ⟨4, by constructor <;> decide, by omega⟩
          obtain ⟨p2, hp2, hcase⟩ := hz3
          refine take (i := 5) (d := some 54) (v := .int .i64 p2) rfl (by kernel_rfl) (by kernel_rfl) (by kernel_rfl) (by kernel_rfl) (fun _ _ _ h => h) (Or.inl ⟨by rfl, by intro w hSw; rcases hcase with ⟨rfl, rfl⟩ | ⟨rfl, rfl⟩ | ⟨rfl, rfl⟩ <;> (go_simp; rfl)⟩) hHeld ?_
          simp only [Act.put, List.setIfInBounds_toArray, List.set_cons_zero, List.set_cons_succ]
          clear hcase
          refine take (i := 6) (d := some 55) (v := .pointer (some ⟨gM, F, none⟩)) rfl (by kernel_rfl) (by kernel_rfl) (by kernel_rfl) (by kernel_rfl) (fun _ _ _ h => h) (Or.inl ⟨by rfl, by intro w hSw; go_simp⟩) hHeld ?_
          simp only [Act.put, List.setIfInBounds_toArray, List.set_cons_zero, List.set_cons_succ]
          obtain ⟨cM, fM⟩ := i.cellM hF8
          refine wpAnyH_ready (rs := [7]) (by kernel_rfl) (by simp) (readySkip (i := 7) rfl (by kernel_rfl) none (by kernel_rfl) (w' := wF.setCell ⟨gM, F, none⟩ (.int .i64 p2)) (by go_simp) (i.setM hL hbl hp2).kM (fun hHeld => ?_) AllReadyH.nil)
          simp only [Act.put, List.setIfInBounds_toArray, List.set_cons_zero, List.set_cons_succ]
          refine wpAnyH_done (by kernel_rfl) ?_ _
          clear cM fM
          replace i := i.setM hL hbl (F := F) hp2
          generalize wF.setCell ⟨gM, F, none⟩ (.int .i64 p2) = wG at *
          go_wp2
          obtain ⟨h1, cH⟩ : ∃ h1 : Int, wG.cell? ⟨gH, F, none⟩ = some (.int .i64 h1) := ⟨_, i.cellH hF8⟩
          obtain ⟨m1, cM⟩ : ∃ m1 : Int, wG.cell? ⟨gM, F, none⟩ = some (.int .i64 m1) := ⟨_, (i.cellM hF8).1⟩
          obtain ⟨cV, fV⟩ := i.cellV hF8
          have lv := hL.vm
          have l9 := hL.mv
          have l8 := hL.h
          have l7 := hL.x
          refine wp_region_held_drew (S := (fun w' => w'.heap[gm]? = some (.cells #[sl gV, sl gM] 25 (0, 0)) ∧ w'.heap[gx]? = some (.cells #[sl gH] 28 (0, 0)) ∧ w'.cell? ⟨gH, F, none⟩ = some (.int .i64 h1) ∧ w'.cell? ⟨gM, F, none⟩ = some (.int .i64 m1))) (by kernel_rfl) ⟨i.kM, i.kX, cH, cM⟩ (fun hHeld => ?_)
          refine take (i := 0) (d := some 56) (v := .pointer (some ⟨gm, 0, none⟩)) rfl (by kernel_rfl) (by kernel_rfl) (by kernel_rfl) (by kernel_rfl) (fun _ _ _ h => h) (Or.inl ⟨by rfl, by intro w hSw; go_simp⟩) hHeld ?_
          simp only [Act.put, List.setIfInBounds_toArray, List.set_cons_zero, List.set_cons_succ]
          refine take (i := 1) (d := some 57) (v := .slice (some ⟨gV, 0, none⟩) 8 8) rfl (by kernel_rfl) (by kernel_rfl) (by kernel_rfl) (by kernel_rfl) (fun _ _ _ h => h) (Or.inl ⟨by rfl, by intro w hSw; obtain ⟨q1, q2⟩ := two hSw.1; go_simp⟩) hHeld ?_
          simp only [Act.put, List.setIfInBounds_toArray, List.set_cons_zero, List.set_cons_succ]
          refine take (i := 2) (d := some 58) (v := .int .i64 F) rfl (by kernel_rfl) (by kernel_rfl) (by kernel_rfl) (by kernel_rfl) (fun _ _ _ h => h) (Or.inl ⟨by rfl, by intro w hSw; go_simp⟩) hHeld ?_
          simp only [Act.put, List.setIfInBounds_toArray, List.set_cons_zero, List.set_cons_succ]
          refine take (i := 3) (d := some 59) (v := .pointer (some ⟨gx, 0, none⟩)) rfl (by kernel_rfl) (by kernel_rfl) (by kernel_rfl) (by kernel_rfl) (fun _ _ _ h => h) (Or.inl ⟨by rfl, by intro w hSw; go_simp⟩) hHeld ?_
          simp only [Act.put, List.setIfInBounds_toArray, List.set_cons_zero, List.set_cons_succ]
          refine take (i := 4) (d := some 60) (v := .slice (some ⟨gH, 0, none⟩) 8 8) rfl (by kernel_rfl) (by kernel_rfl) (by kernel_rfl) (by kernel_rfl) (fun _ _ _ h => h) (Or.inl ⟨by rfl, by intro w hSw; have q1 := Hh.one hSw.2.1; go_simp⟩) hHeld ?_
          simp only [Act.put, List.setIfInBounds_toArray, List.set_cons_zero, List.set_cons_succ]
          refine take (i := 5) (d := some 61) (v := .int .i64 F) rfl (by kernel_rfl) (by kernel_rfl) (by kernel_rfl) (by kernel_rfl) (fun _ _ _ h => h) (Or.inl ⟨by rfl, by intro w hSw; go_simp⟩) hHeld ?_
          simp only [Act.put, List.setIfInBounds_toArray, List.set_cons_zero, List.set_cons_succ]
          refine take (i := 6) (d := some 62) (v := .pointer (some ⟨gH, F, none⟩)) rfl (by kernel_rfl) (by kernel_rfl) (by kernel_rfl) (by kernel_rfl) (fun _ _ _ h => h) (Or.inl ⟨by rfl, by intro w hSw; go_simp⟩) hHeld ?_
          simp only [Act.put, List.setIfInBounds_toArray, List.set_cons_zero, List.set_cons_succ]
          refine take (i := 7) (d := some 63) (v := .int .i64 h1) rfl (by kernel_rfl) (by kernel_rfl) (by kernel_rfl) (by kernel_rfl) (fun _ _ _ h => h) (Or.inl ⟨by rfl, by intro w hSw; have q1 := hSw.2.2.1; go_simp⟩) hHeld ?_
          simp only [Act.put, List.setIfInBounds_toArray, List.set_cons_zero, List.set_cons_succ]
          refine take (i := 8) (d := some 64) (v := .pointer (some ⟨gm, 1, none⟩)) rfl (by kernel_rfl) (by kernel_rfl) (by kernel_rfl) (by kernel_rfl) (fun _ _ _ h => h) (Or.inl ⟨by rfl, by intro w hSw; go_simp⟩) hHeld ?_
          simp only [Act.put, List.setIfInBounds_toArray, List.set_cons_zero, List.set_cons_succ]
          refine take (i := 9) (d := some 65) (v := .slice (some ⟨gM, 0, none⟩) 8 8) rfl (by kernel_rfl) (by kernel_rfl) (by kernel_rfl) (by kernel_rfl) (fun _ _ _ h => h) (Or.inl ⟨by rfl, by intro w hSw; obtain ⟨q1, q2⟩ := two hSw.1; go_simp⟩) hHeld ?_
          simp only [Act.put, List.setIfInBounds_toArray, List.set_cons_zero, List.set_cons_succ]
          refine take (i := 10) (d := some 66) (v := .int .i64 F) rfl (by kernel_rfl) (by kernel_rfl) (by kernel_rfl) (by kernel_rfl) (fun _ _ _ h => h) (Or.inl ⟨by rfl, by intro w hSw; go_simp⟩) hHeld ?_
          simp only [Act.put, List.setIfInBounds_toArray, List.set_cons_zero, List.set_cons_succ]
          refine take (i := 11) (d := some 67) (v := .pointer (some ⟨gM, F, none⟩)) rfl (by kernel_rfl) (by kernel_rfl) (by kernel_rfl) (by kernel_rfl) (fun _ _ _ h => h) (Or.inl ⟨by rfl, by intro w hSw; go_simp⟩) hHeld ?_
          simp only [Act.put, List.setIfInBounds_toArray, List.set_cons_zero, List.set_cons_succ]
          refine take (i := 12) (d := some 68) (v := .int .i64 m1) rfl (by kernel_rfl) (by kernel_rfl) (by kernel_rfl) (by kernel_rfl) (fun _ _ _ h => h) (Or.inl ⟨by rfl, by intro w hSw; have q1 := hSw.2.2.2; go_simp⟩) hHeld ?_
          simp only [Act.put, List.setIfInBounds_toArray, List.set_cons_zero, List.set_cons_succ]
          refine take (i := 13) (d := some 69) (v := .int .i64 (bits .and .i64 h1 m1)) rfl (by kernel_rfl) (by kernel_rfl) (by kernel_rfl) (by kernel_rfl) (fun _ _ _ h => h) (Or.inl ⟨by rfl, by intro w hSw; go_simp⟩) hHeld ?_
          simp only [Act.put, List.setIfInBounds_toArray, List.set_cons_zero, List.set_cons_succ]
          refine take (i := 14) (d := some 70) (v := .pointer (some ⟨gV, F, none⟩)) rfl (by kernel_rfl) (by kernel_rfl) (by kernel_rfl) (by kernel_rfl) (fun _ _ _ h => h) (Or.inl ⟨by rfl, by intro w hSw; go_simp⟩) hHeld ?_
          simp only [Act.put, List.setIfInBounds_toArray, List.set_cons_zero, List.set_cons_succ]
          have hx := wide_and h1 m1
          generalize bits .and .i64 h1 m1 = x1 at *
          refine wpAnyH_ready (rs := [15]) (by kernel_rfl) (by simp) (readySkip (i := 15) rfl (by kernel_rfl) none (by kernel_rfl) (w' := wG.drew.setCell ⟨gV, F, none⟩ (.int .i64 x1)) (by go_simp) ⟨((i.drew hL).setV hL hbl hx).kM, ((i.drew hL).setV hL hbl hx).kX, by rw [World.cell?_setCell_other _ _ _ _ (by simp <;> omega)]; exact cH, by rw [World.cell?_setCell_other _ _ _ _ (by simp <;> omega)]; exact cM⟩ (fun hHeld => ?_) AllReadyH.nil)
          simp only [Act.put, List.setIfInBounds_toArray, List.set_cons_zero, List.set_cons_succ]
          refine wpAnyH_done (by kernel_rfl) ?_ _
          replace i := (i.drew hL).setV hL hbl (F := F) hx
          clear cH cM cV fV
          generalize wG.drew.setCell ⟨gV, F, none⟩ (.int .i64 x1) = wE at *
          go_wp2
          go_roundw
          case rel => exact ⟨K, _, _, by omega, by first | go_num | (congr 1; omega), i⟩
          case measure => simp [intOf]; omega
        · obtain ⟨h1, cH⟩ : ∃ h1 : Int, wD.cell? ⟨gH, F, none⟩ = some (.int .i64 h1) := ⟨_, i.cellH hF8⟩
          obtain ⟨m1, cM⟩ : ∃ m1 : Int, wD.cell? ⟨gM, F, none⟩ = some (.int .i64 m1) := ⟨_, (i.cellM hF8).1⟩
          obtain ⟨cV, fV⟩ := i.cellV hF8
          have lv := hL.vm
          have l9 := hL.mv
          have l8 := hL.h
          have l7 := hL.x
          refine wp_region_held_drew (S := (fun w' => w'.heap[gm]? = some (.cells #[sl gV, sl gM] 25 (0, 0)) ∧ w'.heap[gx]? = some (.cells #[sl gH] 28 (0, 0)) ∧ w'.cell? ⟨gH, F, none⟩ = some (.int .i64 h1) ∧ w'.cell? ⟨gM, F, none⟩ = some (.int .i64 m1))) (by kernel_rfl) ⟨i.kM, i.kX, cH, cM⟩ (fun hHeld => ?_)
          refine take (i := 0) (d := some 56) (v := .pointer (some ⟨gm, 0, none⟩)) rfl (by kernel_rfl) (by kernel_rfl) (by kernel_rfl) (by kernel_rfl) (fun _ _ _ h => h) (Or.inl ⟨by rfl, by intro w hSw; go_simp⟩) hHeld ?_
          simp only [Act.put, List.setIfInBounds_toArray, List.set_cons_zero, List.set_cons_succ]
          refine take (i := 1) (d := some 57) (v := .slice (some ⟨gV, 0, none⟩) 8 8) rfl (by kernel_rfl) (by kernel_rfl) (by kernel_rfl) (by kernel_rfl) (fun _ _ _ h => h) (Or.inl ⟨by rfl, by intro w hSw; obtain ⟨q1, q2⟩ := two hSw.1; go_simp⟩) hHeld ?_
          simp only [Act.put, List.setIfInBounds_toArray, List.set_cons_zero, List.set_cons_succ]
          refine take (i := 2) (d := some 58) (v := .int .i64 F) rfl (by kernel_rfl) (by kernel_rfl) (by kernel_rfl) (by kernel_rfl) (fun _ _ _ h => h) (Or.inl ⟨by rfl, by intro w hSw; go_simp⟩) hHeld ?_
          simp only [Act.put, List.setIfInBounds_toArray, List.set_cons_zero, List.set_cons_succ]
          refine take (i := 3) (d := some 59) (v := .pointer (some ⟨gx, 0, none⟩)) rfl (by kernel_rfl) (by kernel_rfl) (by kernel_rfl) (by kernel_rfl) (fun _ _ _ h => h) (Or.inl ⟨by rfl, by intro w hSw; go_simp⟩) hHeld ?_
          simp only [Act.put, List.setIfInBounds_toArray, List.set_cons_zero, List.set_cons_succ]
          refine take (i := 4) (d := some 60) (v := .slice (some ⟨gH, 0, none⟩) 8 8) rfl (by kernel_rfl) (by kernel_rfl) (by kernel_rfl) (by kernel_rfl) (fun _ _ _ h => h) (Or.inl ⟨by rfl, by intro w hSw; have q1 := Hh.one hSw.2.1; go_simp⟩) hHeld ?_
          simp only [Act.put, List.setIfInBounds_toArray, List.set_cons_zero, List.set_cons_succ]
          refine take (i := 5) (d := some 61) (v := .int .i64 F) rfl (by kernel_rfl) (by kernel_rfl) (by kernel_rfl) (by kernel_rfl) (fun _ _ _ h => h) (Or.inl ⟨by rfl, by intro w hSw; go_simp⟩) hHeld ?_
          simp only [Act.put, List.setIfInBounds_toArray, List.set_cons_zero, List.set_cons_succ]
          refine take (i := 6) (d := some 62) (v := .pointer (some ⟨gH, F, none⟩)) rfl (by kernel_rfl) (by kernel_rfl) (by kernel_rfl) (by kernel_rfl) (fun _ _ _ h => h) (Or.inl ⟨by rfl, by intro w hSw; go_simp⟩) hHeld ?_
          simp only [Act.put, List.setIfInBounds_toArray, List.set_cons_zero, List.set_cons_succ]
          refine take (i := 7) (d := some 63) (v := .int .i64 h1) rfl (by kernel_rfl) (by kernel_rfl) (by kernel_rfl) (by kernel_rfl) (fun _ _ _ h => h) (Or.inl ⟨by rfl, by intro w hSw; have q1 := hSw.2.2.1; go_simp⟩) hHeld ?_
          simp only [Act.put, List.setIfInBounds_toArray, List.set_cons_zero, List.set_cons_succ]
          refine take (i := 8) (d := some 64) (v := .pointer (some ⟨gm, 1, none⟩)) rfl (by kernel_rfl) (by kernel_rfl) (by kernel_rfl) (by kernel_rfl) (fun _ _ _ h => h) (Or.inl ⟨by rfl, by intro w hSw; go_simp⟩) hHeld ?_
          simp only [Act.put, List.setIfInBounds_toArray, List.set_cons_zero, List.set_cons_succ]
          refine take (i := 9) (d := some 65) (v := .slice (some ⟨gM, 0, none⟩) 8 8) rfl (by kernel_rfl) (by kernel_rfl) (by kernel_rfl) (by kernel_rfl) (fun _ _ _ h => h) (Or.inl ⟨by rfl, by intro w hSw; obtain ⟨q1, q2⟩ := two hSw.1; go_simp⟩) hHeld ?_
          simp only [Act.put, List.setIfInBounds_toArray, List.set_cons_zero, List.set_cons_succ]
          refine take (i := 10) (d := some 66) (v := .int .i64 F) rfl (by kernel_rfl) (by kernel_rfl) (by kernel_rfl) (by kernel_rfl) (fun _ _ _ h => h) (Or.inl ⟨by rfl, by intro w hSw; go_simp⟩) hHeld ?_
          simp only [Act.put, List.setIfInBounds_toArray, List.set_cons_zero, List.set_cons_succ]
          refine take (i := 11) (d := some 67) (v := .pointer (some ⟨gM, F, none⟩)) rfl (by kernel_rfl) (by kernel_rfl) (by kernel_rfl) (by kernel_rfl) (fun _ _ _ h => h) (Or.inl ⟨by rfl, by intro w hSw; go_simp⟩) hHeld ?_
          simp only [Act.put, List.setIfInBounds_toArray, List.set_cons_zero, List.set_cons_succ]
          refine take (i := 12) (d := some 68) (v := .int .i64 m1) rfl (by kernel_rfl) (by kernel_rfl) (by kernel_rfl) (by kernel_rfl) (fun _ _ _ h => h) (Or.inl ⟨by rfl, by intro w hSw; have q1 := hSw.2.2.2; go_simp⟩) hHeld ?_
          simp only [Act.put, List.setIfInBounds_toArray, List.set_cons_zero, List.set_cons_succ]
          refine take (i := 13) (d := some 69) (v := .int .i64 (bits .and .i64 h1 m1)) rfl (by kernel_rfl) (by kernel_rfl) (by kernel_rfl) (by kernel_rfl) (fun _ _ _ h => h) (Or.inl ⟨by rfl, by intro w hSw; go_simp⟩) hHeld ?_
          simp only [Act.put, List.setIfInBounds_toArray, List.set_cons_zero, List.set_cons_succ]
          refine take (i := 14) (d := some 70) (v := .pointer (some ⟨gV, F, none⟩)) rfl (by kernel_rfl) (by kernel_rfl) (by kernel_rfl) (by kernel_rfl) (fun _ _ _ h => h) (Or.inl ⟨by rfl, by intro w hSw; go_simp⟩) hHeld ?_
          simp only [Act.put, List.setIfInBounds_toArray, List.set_cons_zero, List.set_cons_succ]
          have hx := wide_and h1 m1
          generalize bits .and .i64 h1 m1 = x1 at *
          refine wpAnyH_ready (rs := [15]) (by kernel_rfl) (by simp) (readySkip (i := 15) rfl (by kernel_rfl) none (by kernel_rfl) (w' := wD.drew.setCell ⟨gV, F, none⟩ (.int .i64 x1)) (by go_simp) ⟨((i.drew hL).setV hL hbl hx).kM, ((i.drew hL).setV hL hbl hx).kX, by rw [World.cell?_setCell_other _ _ _ _ (by simp <;> omega)]; exact cH, by rw [World.cell?_setCell_other _ _ _ _ (by simp <;> omega)]; exact cM⟩ (fun hHeld => ?_) AllReadyH.nil)
          simp only [Act.put, List.setIfInBounds_toArray, List.set_cons_zero, List.set_cons_succ]
          refine wpAnyH_done (by kernel_rfl) ?_ _
          replace i := (i.drew hL).setV hL hbl (F := F) hx
          clear cH cM cV fV
          generalize wD.drew.setCell ⟨gV, F, none⟩ (.int .i64 x1) = wE at *
          go_wp2
          go_roundw
          case rel => exact ⟨K, _, _, by omega, by first | go_num | (congr 1; omega), i⟩
          case measure => simp [intOf]; omega
    · obtain rfl : k = 0 := by omega
      have kM := i.kM
      have kR := i.kR
      obtain ⟨c0, c1⟩ := two kM
      obtain ⟨r0, r1⟩ := two kR
      have fr := Bl.free kR
      have l1 := hL.v
      have l2 := hL.m
      go_wp2
      have e0 := set20 (u := sl gV) kR
      have e1 := set21 (u := sl gM) e0
      obtain ⟨y0, y1⟩ := two e1
      have ek : ∀ k, k ≠ w.heap.size → ((wr.setCell ⟨w.heap.size, 0, none⟩ (sl gV)).setCell ⟨w.heap.size, 1, none⟩ (sl gM)).heap[k]? = wr.heap[k]? := fun k hk => by rw [Below.heap_setCell _ _ _ k (by simpa using hk), Below.heap_setCell _ _ _ k (by simpa using hk)]
      exact bodyPost_ret (v := .agg #[sl gV, sl gM]) (by simp [results, Try.results195, go_sem, y0, y1]) rfl ⟨gV, gM, V, M, rfl, mine_of i.mV (ek _ (by omega)), mine_of i.mM (ek _ (by omega)), i.lV, i.lM, i.wV, i.wM, by omega, by omega, hL.vm, Dr.cur_keep (B := w.heap.size) i.cur (fun k hk => ek k (by omega)) hg hbl, Dr.only_set (Dr.only_set i.only (Nat.le_refl _)) (Nat.le_refl _)⟩

end Go.Proofs.Ytcbhpmgjmpbpmaa.Mz
namespace Go.Proofs.Ytcbhpmgjmpbpmaa.Ta
set_option maxRecDepth 8000
set_option linter.unusedSimpArgs false
set_option linter.unusedVariables false
open Go Go.RowKit
open Num Pl Hr Hh Pq Ht Yh Yl Yu

theorem cur_drew {w : World} {g : Nat} {a : Option Addr} {b off cap : Nat} {c : List Int} (h : Dr.Cur w g a b off cap c) : Dr.Cur w.drew g a b off cap c := Dr.cur_keep h (fun k hk => rfl) (B := w.heap.size) (Dr.cur_lt h) (Dr.rd_lt h.rd)
theorem only_drew' {g : Nat} {w w' : World} (h : Mk.Only g w.drew w') : Mk.Only g w w' := ⟨h.os, h.tape, h.output, h.size, h.block⟩
theorem hasN_mine {w : World} {B g : Nat} {l : List Int} (h : Mine w g l) (hB : B ≤ g) : HasN w B (.slice (some ⟨g, 0, none⟩) l.length l.length) l := by
  obtain ⟨⟨c, hb, hn, hc⟩, hs⟩ := h
  refine ⟨⟨by simp, .inr ⟨g, l.length, c, rfl, hB, hb, Nat.le_refl _, by unfold maxLen; omega, by omega, ?_⟩⟩, by simp⟩
  apply List.ext_getElem?
  intro i
  by_cases hi : i < l.length
  · rw [List.getElem?_take, if_pos (by omega), Array.getElem?_toList, hc i hi]
    simp [List.getD, hi]
  · rw [List.getElem?_take, if_neg (by omega), List.getElem?_eq_none (by simp; omega)]
theorem rd_take {w : World} {a : Option Addr} {b off : Nat} {l : List Int} (h : Hr.Rd w a b off l) (n : Nat) : Hr.Rd w a b off (l.take n) := by
  refine ⟨fun hh => h.head (by simp at hh; omega), fun i hi => ?_, by have := h.size; simp; omega⟩
  have hi' : i < l.length := by simp at hi; omega
  have hn : i < n := by simp at hi; omega
  have e : (l.take n).getD i 0 = l.getD i 0 := by simp [List.getD, hn]
  rw [e]; exact h.cell i hi'
theorem rd_setN {w : World} {a : Option Addr} {b off : Nat} {l : List Int} {x : Addr} {u : Value} (h : Hr.Rd w a b off l) (hne : l.length = 0 ∨ b ≠ x.block) : Hr.Rd (w.setCell x u) a b off l :=
  ⟨h.head, fun i hi => (World.cell?_of_block (Below.heap_setCell w x u b (hne.resolve_left (by omega)))).trans (h.cell i hi), h.size⟩

/-- A match of any kind is handed back, and the cursor goes on. -/
def MatA (w : World) (g : Nat) (a : Option Addr) (b off cap : Nat) (c : List Int) (e : Ending) (w' : World) : Prop :=
  ∃ aV gV cV V aM gM cM M, e = .returned (.agg #[.slice aV (List.length V) cV, .slice aM (List.length M) cM]) ∧ Hr.Rd w' aV gV 0 V ∧ Hr.Rd w' aM gM 0 M ∧ Po.Wide V ∧ Po.Wide M ∧ w.heap.size ≤ gV ∧ w.heap.size ≤ gM ∧ Dr.Cur w' g a b off cap c ∧ Mk.Only g w w'

set_option maxHeartbeats 8000000 in
theorem any_any (g : Nat) (a : Option Addr) (b off cap : Nat) (c : List Int) (w : World) (h : Dr.Cur w g a b off cap c) :
    Calls Try.prog 151 #[.pointer (some ⟨g, 0, none⟩)] w (MatA w g a b off cap c) := by
  obtain ⟨W0, hW0⟩ : ∃ W0, W0 = w.alloc (.cells #[.slice none 0 0, .slice none 0 0] 25) := ⟨_, rfl⟩
  have hg := Dr.cur_lt h
  have hbl := Dr.rd_lt h.rd
  have hC : Dr.Cur W0 g a b off cap c := by subst hW0; exact Dr.cur_alloc h _
  have kR : W0.heap[w.heap.size]? = some (.cells #[.slice none 0 0, .slice none 0 0] 25 (0, 0)) := by subst hW0; exact at_new rfl
  have hO : Mk.Only g w W0 := by subst hW0; exact Dr.only_alloc (Mk.Only.refl _ _) _
  have z0 : w.heap.size < W0.heap.size := by subst hW0; simp
  clear h
  go_enter Try.func151, Try.ntmps151
  go_upto_region 2 with (go_at_call 195; rw [← hW0]; clear hW0; refine (Mz.match_any _ _ _ _ _ _ _ hC).mono ?_; rintro e w1 ⟨gV, gM, V, M, rfl, mV, mM, lV, lM, wV, wM, hgV, hgM, hVM, hC1, hO1⟩; replace kR := (hO1.block _ z0 (by simp; omega)).trans kR; replace hO := Dr.only_trans hO hO1; replace hC := hC1; clear hC1 hO1; try simp only [My.sl])
  obtain ⟨W2, hW2⟩ : ∃ W2, W2 = w1.alloc (.cells #[.slice (some ⟨gV, 0, none⟩) 8 8, .slice (some ⟨gM, 0, none⟩) 8 8] 25) := ⟨_, rfl⟩
  have b2 : Below w1.heap.size w1 W2 := by subst hW2; exact below_alloc1 _ _
  have kT : W2.heap[w1.heap.size]? = some (.cells #[.slice (some ⟨gV, 0, none⟩) 8 8, .slice (some ⟨gM, 0, none⟩) 8 8] 25 (0, 0)) := by subst hW2; exact at_new rfl
  replace kR := (b2.block _ (Ea.blk_lt kR)).trans kR
  have nV : gV < w1.heap.size := mV.row.lt
  have nM : gM < w1.heap.size := mM.row.lt
  replace mV := mV.below b2
  replace mM := mM.below b2
  replace hC : Dr.Cur W2 g a b off cap c := by subst hW2; exact Dr.cur_alloc hC _
  replace hO : Mk.Only g w W2 := by subst hW2; exact Dr.only_alloc hO _
  have sT : w.heap.size < w1.heap.size := by have := mV.row.lt; omega
  rw [← hW2]
  clear hW2 b2
  obtain ⟨T, hT⟩ : ∃ T, T = w1.heap.size := ⟨_, rfl⟩
  rw [← hT] at kT nV nM sT ⊢
  clear hT
  have t1 : True := trivial
  go_upto_if 13 with (first
    | (go_at_call 74; clear t1; refine (Dr.below_any _ _ _ _ _ _ 8 _ hC (by omega) (by omega)).mono ?_; rintro e w3 ⟨F, rfl, F0, F8, hC1, hO1⟩; replace kR := (hO1.block _ (Ea.blk_lt kR) (by simp; omega)).trans kR; replace kT := (hO1.block _ (Ea.blk_lt kT) (by simp; omega)).trans kT; replace mV := own_onlyN mV hO1 (by omega); replace mM := own_onlyN mM hO1 (by omega); replace hO := Dr.only_trans hO hO1; replace hC := hC1; clear hC1 hO1)
    | (go_at_call 74; refine (Dr.below_any _ _ _ _ _ _ 16 _ hC (by omega) (by omega)).mono ?_; rintro e w4 ⟨q, rfl, q0, q16, hC1, hO1⟩; replace kR := (hO1.block _ (Ea.blk_lt kR) (by simp; omega)).trans kR; replace kT := (hO1.block _ (Ea.blk_lt kT) (by simp; omega)).trans kT; replace mV := own_onlyN mV hO1 (by omega); replace mM := own_onlyN mM hO1 (by omega); replace hO := Dr.only_trans hO hO1; replace hC := hC1; clear hC1 hO1))
  obtain ⟨f, rfl⟩ := Int.eq_ofNat_of_zero_le F0
  have hf8 : f < 8 := by omega
  have hq : q = 0 ∨ q = 1 ∨ q = 2 ∨ q = 3 ∨ (¬ q = 0 ∧ ¬ q = 1 ∧ ¬ q = 2 ∧ ¬ q = 3) := by omega
  rcases hq with rfl | rfl | rfl | rfl | ⟨e0, e1, e2, e3⟩
  · have cx := World.rowIs.cell mM.row (i := f) (by omega)
    have fx := World.rowIs.frozen mM.row f
    have nT1 : T ≠ gM := by omega
    have nT2 : gM ≠ T := by omega
    have hfz : (f : Int) < 8 := by omega
    obtain ⟨p0, p1⟩ := Pm.two kT
    go_wp2
    go_region_held3 (fun w' => w'.cell? ⟨T, 0, none⟩ = some (.slice (some ⟨gV, 0, none⟩) 8 8) ∧ w'.cell? ⟨T, 1, none⟩ = some (.slice (some ⟨gM, 0, none⟩) 8 8)) (go_keep) (first
      | (go_at_call 149; refine (Dr.raw_wide _ _ _ _ _ _ _ (by first | exact hC | exact cur_drew hC)).mono ?_; rintro e w5 ⟨y, rfl, hy, hC1, hO1⟩; replace hO1 := (by first | exact hO1 | exact only_drew' hO1 : Mk.Only g w4 w5); clear p0 p1 cx fx; replace kR := (hO1.block _ (Ea.blk_lt kR) (by simp; omega)).trans kR; replace kT := (hO1.block _ (Ea.blk_lt kT) (by simp; omega)).trans kT; replace mV := own_onlyN mV hO1 (by omega); replace mM := own_onlyN mM hO1 (by omega); replace hO := Dr.only_trans hO hO1; replace hC := hC1; clear hC1 hO1; obtain ⟨p0, p1⟩ := Pm.two kT; have cx := World.rowIs.cell mM.row (i := f) (by omega); have fx := World.rowIs.frozen mM.row f))
    obtain ⟨W6, hW6⟩ : ∃ W6, W6 = w5.setCell ⟨gM, f, none⟩ (.int .i64 y) := ⟨_, rfl⟩
    replace kR : W6.heap[w.heap.size]? = some (.cells #[.slice none 0 0, .slice none 0 0] 25 (0, 0)) := by subst hW6; exact Ea.blk_other kR (by omega)
    replace kT : W6.heap[T]? = some (.cells #[.slice (some ⟨gV, 0, none⟩) 8 8, .slice (some ⟨gM, 0, none⟩) 8 8] 25 (0, 0)) := by subst hW6; exact Ea.blk_other kT (by omega)
    have mX : Mine W6 gM (M.set f y) := by subst hW6; exact mine_put mM
    have mO : Mine W6 gV V := by subst hW6; exact mine_of mV (Below.heap_setCell _ _ _ _ (by simp; omega))
    replace hC : Dr.Cur W6 g a b off cap c := by subst hW6; exact Dr.cur_set (B := w.heap.size) hC (by omega) hg hbl
    replace hO : Mk.Only g w W6 := by subst hW6; exact Dr.only_set hO (by omega)
    rw [← hW6]
    clear hW6 cx fx p0 p1 mM mV
    obtain ⟨p0, p1⟩ := Pm.two kT
    obtain ⟨r0, r1⟩ := Pm.two kR
    have fR := Bl.free kR
    go_wp2
    refine bodyPost_ret (v := .agg #[.slice (some ⟨gV, 0, none⟩) 8 8, .slice (some ⟨gM, 0, none⟩) 8 8]) (by simp [results, Try.results151, go_sem, r0, r1]) rfl ?_
    refine ⟨some ⟨gV, 0, none⟩, gV, 8, V, some ⟨gM, 0, none⟩, gM, 8, M.set f y, by simp [lV, lM], ?_, ?_, wV, Hw2.wide_set wM (by unfold Pm.I64; omega), by omega, by omega, ?_, ?_⟩
    · exact rd_setN (rd_setN mO.rd (.inr (by simp; omega))) (.inr (by simp; omega))
    · exact rd_setN (rd_setN mX.rd (.inr (by simp; omega))) (.inr (by simp; omega))
    · exact Dr.cur_set (B := w.heap.size) (Dr.cur_set (B := w.heap.size) hC (Nat.le_refl _) hg hbl) (Nat.le_refl _) hg hbl
    · exact Dr.only_set (Dr.only_set hO (Nat.le_refl _)) (Nat.le_refl _)
  · have cx := World.rowIs.cell mV.row (i := f) (by omega)
    have fx := World.rowIs.frozen mV.row f
    have nT1 : T ≠ gV := by omega
    have nT2 : gV ≠ T := by omega
    have hfz : (f : Int) < 8 := by omega
    obtain ⟨p0, p1⟩ := Pm.two kT
    go_wp2
    go_region_held3 (fun w' => w'.cell? ⟨T, 0, none⟩ = some (.slice (some ⟨gV, 0, none⟩) 8 8) ∧ w'.cell? ⟨T, 1, none⟩ = some (.slice (some ⟨gM, 0, none⟩) 8 8)) (go_keep) (first
      | (go_at_call 149; refine (Dr.raw_wide _ _ _ _ _ _ _ (by first | exact hC | exact cur_drew hC)).mono ?_; rintro e w5 ⟨y, rfl, hy, hC1, hO1⟩; replace hO1 := (by first | exact hO1 | exact only_drew' hO1 : Mk.Only g w4 w5); clear p0 p1 cx fx; replace kR := (hO1.block _ (Ea.blk_lt kR) (by simp; omega)).trans kR; replace kT := (hO1.block _ (Ea.blk_lt kT) (by simp; omega)).trans kT; replace mV := own_onlyN mV hO1 (by omega); replace mM := own_onlyN mM hO1 (by omega); replace hO := Dr.only_trans hO hO1; replace hC := hC1; clear hC1 hO1; obtain ⟨p0, p1⟩ := Pm.two kT; have cx := World.rowIs.cell mV.row (i := f) (by omega); have fx := World.rowIs.frozen mV.row f))
    obtain ⟨W6, hW6⟩ : ∃ W6, W6 = w5.setCell ⟨gV, f, none⟩ (.int .i64 y) := ⟨_, rfl⟩
    replace kR : W6.heap[w.heap.size]? = some (.cells #[.slice none 0 0, .slice none 0 0] 25 (0, 0)) := by subst hW6; exact Ea.blk_other kR (by omega)
    replace kT : W6.heap[T]? = some (.cells #[.slice (some ⟨gV, 0, none⟩) 8 8, .slice (some ⟨gM, 0, none⟩) 8 8] 25 (0, 0)) := by subst hW6; exact Ea.blk_other kT (by omega)
    have mX : Mine W6 gV (V.set f y) := by subst hW6; exact mine_put mV
    have mO : Mine W6 gM M := by subst hW6; exact mine_of mM (Below.heap_setCell _ _ _ _ (by simp; omega))
    replace hC : Dr.Cur W6 g a b off cap c := by subst hW6; exact Dr.cur_set (B := w.heap.size) hC (by omega) hg hbl
    replace hO : Mk.Only g w W6 := by subst hW6; exact Dr.only_set hO (by omega)
    rw [← hW6]
    clear hW6 cx fx p0 p1 mV mM
    obtain ⟨p0, p1⟩ := Pm.two kT
    obtain ⟨r0, r1⟩ := Pm.two kR
    have fR := Bl.free kR
    go_wp2
    refine bodyPost_ret (v := .agg #[.slice (some ⟨gV, 0, none⟩) 8 8, .slice (some ⟨gM, 0, none⟩) 8 8]) (by simp [results, Try.results151, go_sem, r0, r1]) rfl ?_
    refine ⟨some ⟨gV, 0, none⟩, gV, 8, V.set f y, some ⟨gM, 0, none⟩, gM, 8, M, by simp [lV, lM], ?_, ?_, Hw2.wide_set wV (by unfold Pm.I64; omega), wM, by omega, by omega, ?_, ?_⟩
    · exact rd_setN (rd_setN mX.rd (.inr (by simp; omega))) (.inr (by simp; omega))
    · exact rd_setN (rd_setN mO.rd (.inr (by simp; omega))) (.inr (by simp; omega))
    · exact Dr.cur_set (B := w.heap.size) (Dr.cur_set (B := w.heap.size) hC (Nat.le_refl _) hg hbl) (Nat.le_refl _) hg hbl
    · exact Dr.only_set (Dr.only_set hO (Nat.le_refl _)) (Nat.le_refl _)
  · have hfz : (f : Int) ≤ 8 := by omega
    have fT := Bl.free kT
    obtain ⟨p0, p1⟩ := Pm.two kT
    have lT : (V.take f).length = f := by simp [lV]; omega
    go_upto_region 12 with fail
    obtain ⟨W6, hW6⟩ : ∃ W6, W6 = w4.setCell ⟨T, 0, none⟩ (.slice (some ⟨gV, 0, none⟩) f 8) := ⟨_, rfl⟩
    replace kR : W6.heap[w.heap.size]? = some (.cells #[.slice none 0 0, .slice none 0 0] 25 (0, 0)) := by subst hW6; exact Ea.blk_other kR (by omega)
    replace kT : W6.heap[T]? = some (.cells #[.slice (some ⟨gV, 0, none⟩) f 8, .slice (some ⟨gM, 0, none⟩) 8 8] 25 (0, 0)) := by subst hW6; exact Ea.blk_same kT
    replace mV : Mine W6 gV V := by subst hW6; exact mine_of mV (Below.heap_setCell _ _ _ _ (by simp; omega))
    replace mM : Mine W6 gM M := by subst hW6; exact mine_of mM (Below.heap_setCell _ _ _ _ (by simp; omega))
    replace hC : Dr.Cur W6 g a b off cap c := by subst hW6; exact Dr.cur_set (B := w.heap.size) hC (by omega) hg hbl
    replace hO : Mk.Only g w W6 := by subst hW6; exact Dr.only_set hO (by omega)
    rw [← hW6]
    clear hW6 p0 p1 fT
    obtain ⟨p0, p1⟩ := Pm.two kT
    obtain ⟨r0, r1⟩ := Pm.two kR
    have fR := Bl.free kR
    go_wp2
    refine bodyPost_ret (v := .agg #[.slice (some ⟨gV, 0, none⟩) f 8, .slice (some ⟨gM, 0, none⟩) 8 8]) (by simp [results, Try.results151, go_sem, r0, r1]) rfl ?_
    refine ⟨some ⟨gV, 0, none⟩, gV, 8, V.take f, some ⟨gM, 0, none⟩, gM, 8, M, by rw [lT, lM], ?_, ?_, Hw2.wide_take wV f, wM, by omega, by omega, ?_, ?_⟩
    · exact rd_take (rd_setN (rd_setN mV.rd (.inr (by simp; omega))) (.inr (by simp; omega))) f
    · exact rd_setN (rd_setN mM.rd (.inr (by simp; omega))) (.inr (by simp; omega))
    · exact Dr.cur_set (B := w.heap.size) (Dr.cur_set (B := w.heap.size) hC (Nat.le_refl _) hg hbl) (Nat.le_refl _) hg hbl
    · exact Dr.only_set (Dr.only_set hO (Nat.le_refl _)) (Nat.le_refl _)
  · have fT := Bl.free kT
    obtain ⟨p0, p1⟩ := Pm.two kT
    have own0 := hasN_mine mM (B := gM) (Nat.le_refl _)
    rw [lM] at own0
    have own : HasN (w4.alloc (.cells #[.int .i64 0] 3)) gM (.slice (some ⟨gM, 0, none⟩) 8 8) M := ⟨own0.1.alloc _, own0.2⟩
    have lt4 := Ea.blk_lt kT
    have hr1 : Hr.Rd (w4.alloc (.cells #[.int .i64 0] 3)) (some ⟨w4.heap.size, 0, none⟩) w4.heap.size 0 [0] := ⟨fun _ => rfl, fun i hi => by
      have e : i = 0 := by simpa using hi
      subst e
      have := at_new (w := w4) (cs := #[.int .i64 0]) (t := 3) rfl
      exact Hh.one this, by simp⟩
    have lA : (M ++ [0]).length = 9 := by simp [lM]
    have hbM : Hid (∀ k, k ≠ gM → k < w4.heap.size → (w4.alloc (.cells #[.int .i64 0] 3)).heap[k]? = w4.heap[k]?) := fun k _ hk => at_old hk
    go_upto_region 12 with (at_builtin; refine wpList_appN rfl (.tmp 38) (.tmp 39) rfl gM (.slice (some ⟨gM, 0, none⟩) 8 8) M [0] rfl own ⟨w4.heap.size, 0, none⟩ w4.heap.size 0 1 rfl hr1 (by rw [lM]; simp) (by simp; omega) ?_; intro v' w' own' hgr; obtain ⟨g', c', hv', hg', wt', _⟩ := hasN_form own' (by simp; omega); subst hv'; rw [lA]; have gb : ∀ k, k ≠ gM → k < w4.heap.size → w'.heap[k]? = w4.heap[k]? := (fun k hk hl => (hgr.block k (by simp; omega) (fun e => hk (by simpa [Value.ownBlock] using e))).trans (hbM.out k hk hl)); have kT' := (gb T (by omega) lt4).trans kT; have kR' := (gb w.heap.size (by omega) (Ea.blk_lt kR)).trans kR; have mV' := mine_of mV (gb gV hVM mV.row.lt); have hC' := Dr.cur_keep (B := w.heap.size) hC (fun k hk => gb k (by omega) (by have := Ea.blk_lt kR; omega)) hg hbl; have hO' := Dr.only_grown (Dr.only_alloc hO (.cells #[.int .i64 0] 3)) hgr (fun k hk => by have hk' : gM = k := (by simpa [Value.ownBlock] using hk); omega); have q1 := (Pm.two kT').2; have fT' := Bl.free kT')
    obtain ⟨W6, hW6⟩ : ∃ W6, W6 = w'.setCell ⟨T, 1, none⟩ (.slice (some ⟨g', 0, none⟩) 9 c') := ⟨_, rfl⟩
    replace kR : W6.heap[w.heap.size]? = some (.cells #[.slice none 0 0, .slice none 0 0] 25 (0, 0)) := by subst hW6; exact Ea.blk_other kR' (by omega)
    replace kT : W6.heap[T]? = some (.cells #[.slice (some ⟨gV, 0, none⟩) 8 8, .slice (some ⟨g', 0, none⟩) 9 c'] 25 (0, 0)) := by subst hW6; exact Ea.blk_same kT'
    replace mV : Mine W6 gV V := by subst hW6; exact mine_of mV' (Below.heap_setCell _ _ _ _ (by simp; omega))
    have hgT : g' ≠ T := by
      intro e
      subst e
      have q := (wt'.cell 0 (by rw [lA]; omega))
      rw [(Pm.two kT').1] at q
      simp at q
    have hgR : g' ≠ w.heap.size := by omega
    have rM : Hr.Rd W6 (some ⟨g', 0, none⟩) g' 0 (M ++ [0]) := by subst hW6; exact rd_setN wt'.rd (.inr (by simp; omega))
    replace hC : Dr.Cur W6 g a b off cap c := by subst hW6; exact Dr.cur_set (B := w.heap.size) hC' (by omega) hg hbl
    replace hO : Mk.Only g w W6 := by subst hW6; exact Dr.only_set hO' (by omega)
    rw [← hW6]
    clear hW6 p0 p1 fT q1 fT' kT' kR' mV' hC' hO' mM own own0 hr1 own' wt' gb hbM
    obtain ⟨p0, p1⟩ := Pm.two kT
    obtain ⟨r0, r1⟩ := Pm.two kR
    have fR := Bl.free kR
    go_wp2
    refine bodyPost_ret (v := .agg #[.slice (some ⟨gV, 0, none⟩) 8 8, .slice (some ⟨g', 0, none⟩) 9 c']) (by simp [results, Try.results151, go_sem, r0, r1]) rfl ?_
    refine ⟨some ⟨gV, 0, none⟩, gV, 8, V, some ⟨g', 0, none⟩, g', c', M ++ [0], by rw [lV, lA], ?_, ?_, wV, Hw2.wide_app wM (by unfold Pm.I64; omega), by omega, by omega, ?_, ?_⟩
    · exact rd_setN (rd_setN mV.rd (.inr (by simp; omega))) (.inr (by simp; omega))
    · exact rd_setN (rd_setN rM (.inr (by simp; omega))) (.inr (by simp; omega))
    · exact Dr.cur_set (B := w.heap.size) (Dr.cur_set (B := w.heap.size) hC (Nat.le_refl _) hg hbl) (Nat.le_refl _) hg hbl
    · exact Dr.only_set (Dr.only_set hO (Nat.le_refl _)) (Nat.le_refl _)
  · have b0 : (q == 0) = false := by simpa using e0
    have b1 : (q == 1) = false := by simpa using e1
    have b2 : (q == 2) = false := by simpa using e2
    have b3 : (q == 3) = false := by simpa using e3
    obtain ⟨p0, p1⟩ := Pm.two kT
    obtain ⟨r0, r1⟩ := Pm.two kR
    have fR := Bl.free kR
    go_wp2
    refine bodyPost_ret (v := .agg #[.slice (some ⟨gV, 0, none⟩) 8 8, .slice (some ⟨gM, 0, none⟩) 8 8]) (by simp [results, Try.results151, go_sem, r0, r1]) rfl ?_
    refine ⟨some ⟨gV, 0, none⟩, gV, 8, V, some ⟨gM, 0, none⟩, gM, 8, M, by simp [lV, lM], ?_, ?_, wV, wM, by omega, by omega, ?_, ?_⟩
    · exact rd_setN (rd_setN mV.rd (.inr (by simp; omega))) (.inr (by simp; omega))
    · exact rd_setN (rd_setN mM.rd (.inr (by simp; omega))) (.inr (by simp; omega))
    · exact Dr.cur_set (B := w.heap.size) (Dr.cur_set (B := w.heap.size) hC (Nat.le_refl _) hg hbl) (Nat.le_refl _) hg hbl
    · exact Dr.only_set (Dr.only_set hO (Nat.le_refl _)) (Nat.le_refl _)

end Go.Proofs.Ytcbhpmgjmpbpmaa.Ta
namespace Go.Proofs.Ytcbhpmgjmpbpmaa.Tb
set_option maxRecDepth 8000
set_option linter.unusedSimpArgs false
set_option linter.unusedVariables false
open Go Go.RowKit
open Num Pl Hr Hh Pq Ht Yh Yl Yu

/-- A head of any kind is handed back, and the cursor goes on. -/
def HeadA (w : World) (g : Nat) (a : Option Addr) (b off cap : Nat) (c : List Int) (e : Ending) (w' : World) : Prop :=
  ∃ aV gV cV V, e = .returned (.agg #[.slice aV (List.length V) cV]) ∧ Hr.Rd w' aV gV 0 V ∧ Po.Wide V ∧ w.heap.size ≤ gV ∧ Dr.Cur w' g a b off cap c ∧ Mk.Only g w w'

set_option maxHeartbeats 8000000 in
theorem any_any (g : Nat) (a : Option Addr) (b off cap : Nat) (c : List Int) (w : World) (h : Dr.Cur w g a b off cap c) :
    Calls Try.prog 131 #[.pointer (some ⟨g, 0, none⟩)] w (HeadA w g a b off cap c) := by
  obtain ⟨W0, hW0⟩ : ∃ W0, W0 = w.alloc (.cells #[.slice none 0 0] 28) := ⟨_, rfl⟩
  have hg := Dr.cur_lt h
  have hbl := Dr.rd_lt h.rd
  have hC : Dr.Cur W0 g a b off cap c := by subst hW0; exact Dr.cur_alloc h _
  have kR : W0.heap[w.heap.size]? = some (.cells #[.slice none 0 0] 28 (0, 0)) := by subst hW0; exact at_new rfl
  have hO : Mk.Only g w W0 := by subst hW0; exact Dr.only_alloc (Mk.Only.refl _ _) _
  have z0 : w.heap.size < W0.heap.size := by subst hW0; simp
  clear h
  go_enter Try.func131, Try.ntmps131
  go_upto_region 2 with (go_at_call 139; rw [← hW0]; clear hW0; refine (Hw2.head_wide _ _ _ _ _ _ _ hC).mono ?_; rintro e w1 ⟨gV, V, rfl, mV, lV, wV, hgV, hC1, hO1⟩; replace kR := (hO1.block _ z0 (by simp; omega)).trans kR; replace hO := Dr.only_trans hO hO1; replace hC := hC1; clear hC1 hO1)
  obtain ⟨W2, hW2⟩ : ∃ W2, W2 = w1.alloc (.cells #[.slice (some ⟨gV, 0, none⟩) 8 8] 28) := ⟨_, rfl⟩
  have b2 : Below w1.heap.size w1 W2 := by subst hW2; exact below_alloc1 _ _
  have kT : W2.heap[w1.heap.size]? = some (.cells #[.slice (some ⟨gV, 0, none⟩) 8 8] 28 (0, 0)) := by subst hW2; exact at_new rfl
  replace kR := (b2.block _ (Ea.blk_lt kR)).trans kR
  have nV : gV < w1.heap.size := mV.row.lt
  replace mV := mV.below b2
  replace hC : Dr.Cur W2 g a b off cap c := by subst hW2; exact Dr.cur_alloc hC _
  replace hO : Mk.Only g w W2 := by subst hW2; exact Dr.only_alloc hO _
  have sT : w.heap.size < w1.heap.size := by omega
  rw [← hW2]
  clear hW2 b2
  obtain ⟨T, hT⟩ : ∃ T, T = w1.heap.size := ⟨_, rfl⟩
  rw [← hT] at kT nV sT ⊢
  clear hT
  go_upto_if 11 with (go_at_call 74; refine (Dr.below_any _ _ _ _ _ _ 12 _ hC (by omega) (by omega)).mono ?_; rintro e w4 ⟨q, rfl, q0, q1, hC1, hO1⟩; replace kR := (hO1.block _ (Ea.blk_lt kR) (by simp; omega)).trans kR; replace kT := (hO1.block _ (Ea.blk_lt kT) (by simp; omega)).trans kT; replace mV := own_onlyN mV hO1 (by omega); replace hO := Dr.only_trans hO hO1; replace hC := hC1; clear hC1 hO1)
  have hq : q = 0 ∨ q = 1 ∨ q = 2 ∨ q = 3 ∨ (¬ q = 0 ∧ ¬ q = 1 ∧ ¬ q = 2 ∧ ¬ q = 3) := by omega
  have nT1 : T ≠ gV := by omega
  have nT2 : gV ≠ T := by omega
  rcases hq with rfl | rfl | rfl | rfl | ⟨e0, e1, e2, e3⟩
  · have p0 := Hh.one kT
    go_wp2
    go_region_held3 (fun w' => w'.cell? ⟨T, 0, none⟩ = some (.slice (some ⟨gV, 0, none⟩) 8 8)) (go_keep) (first
      | (go_at_call 74; refine (Dr.below_any _ _ _ _ _ _ 8 _ (by first | exact hC | exact Ta.cur_drew hC) (by omega) (by omega)).mono ?_; rintro e w5 ⟨F, rfl, F0, F1, hC1, hO1⟩; replace hO1 := (by first | exact hO1 | exact Ta.only_drew' hO1 : Mk.Only g w4 w5); clear p0; replace kR := (hO1.block _ (Ea.blk_lt kR) (by simp; omega)).trans kR; replace kT := (hO1.block _ (Ea.blk_lt kT) (by simp; omega)).trans kT; replace mV := own_onlyN mV hO1 (by omega); replace hO := Dr.only_trans hO hO1; replace hC := hC1; clear hC1 hO1; obtain ⟨f, hf⟩ : ∃ f : Nat, F = f := ⟨F.toNat, by omega⟩; subst hf; have p0 := Hh.one kT)
      | (go_at_call 149; refine (Dr.raw_wide _ _ _ _ _ _ _ hC).mono ?_; rintro e w6 ⟨y, rfl, hy, hC1, hO1⟩; clear p0; replace kR := (hO1.block _ (Ea.blk_lt kR) (by simp; omega)).trans kR; replace kT := (hO1.block _ (Ea.blk_lt kT) (by simp; omega)).trans kT; replace mV := own_onlyN mV hO1 (by omega); replace hO := Dr.only_trans hO hO1; replace hC := hC1; clear hC1 hO1; have p0 := Hh.one kT; have hfz : (f : Int) < 8 := (by omega); have cx := World.rowIs.cell mV.row (i := f) (by omega); have fx := World.rowIs.frozen mV.row f))
    have hyW : Pm.I64 y := by unfold Pm.I64; omega
    obtain ⟨W6, hW6⟩ : ∃ W6, W6 = w6.setCell ⟨gV, f, none⟩ (.int .i64 y) := ⟨_, rfl⟩
    replace kR : W6.heap[w.heap.size]? = some (.cells #[.slice none 0 0] 28 (0, 0)) := by subst hW6; exact Ea.blk_other kR (by omega)
    replace kT : W6.heap[T]? = some (.cells #[.slice (some ⟨gV, 0, none⟩) 8 8] 28 (0, 0)) := by subst hW6; exact Ea.blk_other kT (by omega)
    have mX : Mine W6 gV (V.set f y) := by subst hW6; exact mine_put mV
    replace hC : Dr.Cur W6 g a b off cap c := by subst hW6; exact Dr.cur_set (B := w.heap.size) hC (by omega) hg hbl
    replace hO : Mk.Only g w W6 := by subst hW6; exact Dr.only_set hO (by omega)
    rw [← hW6]
    clear hW6 cx fx p0 mV
    have p0 := Hh.one kT
    have r0 := Hh.one kR
    have fR := Bl.free kR
    go_wp2
    refine bodyPost_ret (v := .agg #[.slice (some ⟨gV, 0, none⟩) 8 8]) (by simp [results, Try.results131, go_sem, r0]) rfl ?_
    refine ⟨some ⟨gV, 0, none⟩, gV, 8, V.set f y, by simp [lV], ?_, Hw2.wide_set wV hyW, by omega, ?_, ?_⟩
    · exact Ta.rd_setN mX.rd (.inr (by simp; omega))
    · exact Dr.cur_set (B := w.heap.size) hC (Nat.le_refl _) hg hbl
    · exact Dr.only_set hO (Nat.le_refl _)

  · have p0 := Hh.one kT
    have fT := Bl.free kT
    go_wp2
    go_region_with (go_at_call 74; refine (Dr.below_any _ _ _ _ _ _ 8 _ (by first | exact hC | exact Ta.cur_drew hC) (by omega) (by omega)).mono ?_; rintro e w5 ⟨F, rfl, F0, F1, hC1, hO1⟩; replace hO1 := (by first | exact hO1 | exact Ta.only_drew' hO1 : Mk.Only g w4 w5); clear p0 fT; replace kR := (hO1.block _ (Ea.blk_lt kR) (by simp; omega)).trans kR; replace kT := (hO1.block _ (Ea.blk_lt kT) (by simp; omega)).trans kT; replace mV := own_onlyN mV hO1 (by omega); replace hO := Dr.only_trans hO hO1; replace hC := hC1; clear hC1 hO1; obtain ⟨f, hf⟩ : ∃ f : Nat, F = f := ⟨F.toNat, by omega⟩; subst hf; have p0 := Hh.one kT; have fT := Bl.free kT; have hfz : (f : Int) ≤ 8 := (by omega))
    all_goals
      have lT : (V.take f).length = f := by simp [lV]; omega
      obtain ⟨W6, hW6⟩ : ∃ W6, W6 = w5.setCell ⟨T, 0, none⟩ (.slice (some ⟨gV, 0, none⟩) f 8) := ⟨_, rfl⟩
      replace kR : W6.heap[w.heap.size]? = some (.cells #[.slice none 0 0] 28 (0, 0)) := by subst hW6; exact Ea.blk_other kR (by omega)
      replace kT : W6.heap[T]? = some (.cells #[.slice (some ⟨gV, 0, none⟩) f 8] 28 (0, 0)) := by subst hW6; exact Ea.blk_same kT
      replace mV : Mine W6 gV V := by subst hW6; exact mine_of mV (Below.heap_setCell _ _ _ _ (by simp; omega))
      replace hC : Dr.Cur W6 g a b off cap c := by subst hW6; exact Dr.cur_set (B := w.heap.size) hC (by omega) hg hbl
      replace hO : Mk.Only g w W6 := by subst hW6; exact Dr.only_set hO (by omega)
      rw [← hW6]
      clear hW6 p0 fT
      have p0 := Hh.one kT
      have r0 := Hh.one kR
      have fR := Bl.free kR
      go_wp2
      refine bodyPost_ret (v := .agg #[.slice (some ⟨gV, 0, none⟩) f 8]) (by simp [results, Try.results131, go_sem, r0]) rfl ?_
      refine ⟨some ⟨gV, 0, none⟩, gV, 8, V.take f, by rw [lT], ?_, Hw2.wide_take wV f, by omega, ?_, ?_⟩
      · exact Ta.rd_take (Ta.rd_setN mV.rd (.inr (by simp; omega))) f
      · exact Dr.cur_set (B := w.heap.size) hC (Nat.le_refl _) hg hbl
      · exact Dr.only_set hO (Nat.le_refl _)
  · have fT := Bl.free kT
    have p0 := Hh.one kT
    have own0 := Ta.hasN_mine mV (B := gV) (Nat.le_refl _)
    rw [lV] at own0
    have own : HasN (w4.alloc (.cells #[.int .i64 0] 3)) gV (.slice (some ⟨gV, 0, none⟩) 8 8) V := ⟨own0.1.alloc _, own0.2⟩
    have lt4 := Ea.blk_lt kT
    have hr1 : Hr.Rd (w4.alloc (.cells #[.int .i64 0] 3)) (some ⟨w4.heap.size, 0, none⟩) w4.heap.size 0 [0] := ⟨fun _ => rfl, fun i hi => by
      have e : i = 0 := by simpa using hi
      subst e
      have := at_new (w := w4) (cs := #[.int .i64 0]) (t := 3) rfl
      exact Hh.one this, by simp⟩
    have lA : (V ++ [0]).length = 9 := by simp [lV]
    have hbM : Hid (∀ k, k ≠ gV → k < w4.heap.size → (w4.alloc (.cells #[.int .i64 0] 3)).heap[k]? = w4.heap[k]?) := fun k _ hk => at_old hk
    go_upto_if 35 with (at_builtin; refine wpList_appN rfl (.tmp 30) (.tmp 31) rfl gV (.slice (some ⟨gV, 0, none⟩) 8 8) V [0] rfl own ⟨w4.heap.size, 0, none⟩ w4.heap.size 0 1 rfl hr1 (by rw [lV]; simp) (by simp; omega) ?_; intro v' w' own' hgr; obtain ⟨g', c', hv', hg', wt', _⟩ := hasN_form own' (by simp; omega); subst hv'; rw [lA]; have gb : ∀ k, k ≠ gV → k < w4.heap.size → w'.heap[k]? = w4.heap[k]? := (fun k hk hl => (hgr.block k (by simp; omega) (fun e => hk (by simpa [Value.ownBlock] using e))).trans (hbM.out k hk hl)); have kT' := (gb T (by omega) lt4).trans kT; have kR' := (gb w.heap.size (by omega) (Ea.blk_lt kR)).trans kR; have hC' := Dr.cur_keep (B := w.heap.size) hC (fun k hk => gb k (by omega) (by have := Ea.blk_lt kR; omega)) hg hbl; have hO' := Dr.only_grown (Dr.only_alloc hO (.cells #[.int .i64 0] 3)) hgr (fun k hk => by have hk' : gV = k := (by simpa [Value.ownBlock] using hk); omega); have q1 := Hh.one kT'; have fT' := Bl.free kT')
    obtain ⟨W6, hW6⟩ : ∃ W6, W6 = w'.setCell ⟨T, 0, none⟩ (.slice (some ⟨g', 0, none⟩) 9 c') := ⟨_, rfl⟩
    replace kR : W6.heap[w.heap.size]? = some (.cells #[.slice none 0 0] 28 (0, 0)) := by subst hW6; exact Ea.blk_other kR' (by omega)
    replace kT : W6.heap[T]? = some (.cells #[.slice (some ⟨g', 0, none⟩) 9 c'] 28 (0, 0)) := by subst hW6; exact Ea.blk_same kT'
    have hgT : g' ≠ T := by
      intro e
      subst e
      have q := (wt'.cell 0 (by rw [lA]; omega))
      rw [Hh.one kT'] at q
      simp at q
    have hgR : g' ≠ w.heap.size := by omega
    have rM : Hr.Rd W6 (some ⟨g', 0, none⟩) g' 0 (V ++ [0]) := by subst hW6; exact Ta.rd_setN wt'.rd (.inr (by simp; omega))
    replace hC : Dr.Cur W6 g a b off cap c := by subst hW6; exact Dr.cur_set (B := w.heap.size) hC' (by omega) hg hbl
    replace hO : Mk.Only g w W6 := by subst hW6; exact Dr.only_set hO' (by omega)
    rw [← hW6]
    clear hW6 p0 fT q1 fT' kT' kR' hC' hO' mV own own0 hr1 own' wt' gb hbM
    have p0 := Hh.one kT
    have r0 := Hh.one kR
    have fR := Bl.free kR
    go_wp2
    refine bodyPost_ret (v := .agg #[.slice (some ⟨g', 0, none⟩) 9 c']) (by simp [results, Try.results131, go_sem, r0]) rfl ?_
    refine ⟨some ⟨g', 0, none⟩, g', c', V ++ [0], by rw [lA], ?_, Hw2.wide_app wV (by unfold Pm.I64; omega), by omega, ?_, ?_⟩
    · exact Ta.rd_setN rM (.inr (by simp; omega))
    · exact Dr.cur_set (B := w.heap.size) hC (Nat.le_refl _) hg hbl
    · exact Dr.only_set hO (Nat.le_refl _)
  · go_upto_region 11 with (go_at_call 74; refine (Dr.below_any _ _ _ _ _ _ 8 _ hC (by omega) (by omega)).mono ?_; rintro e w5 ⟨F, rfl, F0, F1, hC1, hO1⟩; replace kR := (hO1.block _ (Ea.blk_lt kR) (by simp; omega)).trans kR; replace kT := (hO1.block _ (Ea.blk_lt kT) (by simp; omega)).trans kT; replace mV := own_onlyN mV hO1 (by omega); replace hO := Dr.only_trans hO hO1; replace hC := hC1; clear hC1 hO1)
    obtain ⟨f, hf⟩ : ∃ f : Nat, F = f := ⟨F.toNat, by omega⟩
    subst hf
    obtain ⟨z, hz⟩ : ∃ z : Int, z = Hf.fb f / 8 := ⟨_, rfl⟩
    have hq6 : 0 ≤ z ∧ z ≤ 6 := by rcases Hg.fb_val f with e | e | e | e | e <;> (rw [e] at hz; omega)
    obtain ⟨y, hpp⟩ : ∃ y : Int, y = (pw z.toNat : Int) := ⟨_, rfl⟩
    have hd1 : (Hf.fb f).tdiv 8 = z := by rcases Hg.fb_val f with e | e | e | e | e <;> (rw [e] at hz ⊢; rw [hz]; rfl)
    have hyW : Pm.I64 y := by
      have e : z = 0 ∨ z = 1 ∨ z = 2 ∨ z = 3 ∨ z = 4 ∨ z = 5 ∨ z = 6 := by omega
      rw [hpp]
      rcases e with rfl | rfl | rfl | rfl | rfl | rfl | rfl <;> (unfold Pm.I64 pw; decide)
    have HPP : Hid (y = (pw z.toNat : Int)) := hpp
    have hfr : 0 ≤ Hf.fb f ∧ Hf.fb f ≤ 48 := by rcases Hg.fb_val f with e | e | e | e | e <;> omega
    have hw1 : IntKind.i64.wrap z = z := wrap_of (by omega) (by omega)
    have hfz : (f : Int) < 8 := by omega
    clear hz hpp
    have p0 := Hh.one kT
    have cx := World.rowIs.cell mV.row (i := f) (by omega)
    have fx := World.rowIs.frozen mV.row f
    go_region_held3 (fun w' => w'.cell? ⟨T, 0, none⟩ = some (.slice (some ⟨gV, 0, none⟩) 8 8)) (go_keep) (first
      | (go_at_call 142; refine (Hf.specBits_any _ _).mono ?_; rintro e w6 ⟨rfl, hb⟩; replace hb := Rw.next (by first | exact Below.refl _ w5 | exact Below.drew (Below.refl _ w5) : Below w5.heap.size w5 _) hb; clear p0 cx fx; have s6 := hb.size; have lT5 := Ea.blk_lt kT; have lR5 := Ea.blk_lt kR; replace kR := (hb.block _ lR5).trans kR; replace kT := (hb.block _ lT5).trans kT; replace mV := mV.below hb; replace hC := Dr.cur_keep (B := w.heap.size) hC (fun k hk => hb.block k (by omega)) hg hbl; replace hO := Yu.only_below hO hb; clear hb; have p0 := Hh.one kT; have cx := World.rowIs.cell mV.row (i := f) (by omega); have fx := World.rowIs.frozen mV.row f)
      | (go_at_call 191; refine (by rw [HPP.out]; exact Dr.powI z _ hq6.1 hq6.2 : Calls Try.prog 191 #[.int .i64 z] w6 fun e w' => e = .returned (.int .i64 y) ∧ w' = w6).mono ?_; rintro e w7 ⟨rfl, rfl⟩))
    obtain ⟨W6, hW6⟩ : ∃ W6, W6 = w7.setCell ⟨gV, f, none⟩ (.int .i64 y) := ⟨_, rfl⟩
    replace kR : W6.heap[w.heap.size]? = some (.cells #[.slice none 0 0] 28 (0, 0)) := by subst hW6; exact Ea.blk_other kR (by omega)
    replace kT : W6.heap[T]? = some (.cells #[.slice (some ⟨gV, 0, none⟩) 8 8] 28 (0, 0)) := by subst hW6; exact Ea.blk_other kT (by omega)
    have mX : Mine W6 gV (V.set f y) := by subst hW6; exact mine_put mV
    replace hC : Dr.Cur W6 g a b off cap c := by subst hW6; exact Dr.cur_set (B := w.heap.size) hC (by omega) hg hbl
    replace hO : Mk.Only g w W6 := by subst hW6; exact Dr.only_set hO (by omega)
    rw [← hW6]
    clear hW6 cx fx p0 mV
    have p0 := Hh.one kT
    have r0 := Hh.one kR
    have fR := Bl.free kR
    go_wp2
    refine bodyPost_ret (v := .agg #[.slice (some ⟨gV, 0, none⟩) 8 8]) (by simp [results, Try.results131, go_sem, r0]) rfl ?_
    refine ⟨some ⟨gV, 0, none⟩, gV, 8, V.set f y, by simp [lV], ?_, Hw2.wide_set wV hyW, by omega, ?_, ?_⟩
    · exact Ta.rd_setN mX.rd (.inr (by simp; omega))
    · exact Dr.cur_set (B := w.heap.size) hC (Nat.le_refl _) hg hbl
    · exact Dr.only_set hO (Nat.le_refl _)

  · have b0 : (q == 0) = false := by simpa using e0
    have b1 : (q == 1) = false := by simpa using e1
    have b2 : (q == 2) = false := by simpa using e2
    have b3 : (q == 3) = false := by simpa using e3
    have p0 := Hh.one kT
    have r0 := Hh.one kR
    have fR := Bl.free kR
    go_wp2
    refine bodyPost_ret (v := .agg #[.slice (some ⟨gV, 0, none⟩) 8 8]) (by simp [results, Try.results131, go_sem, r0]) rfl ?_
    refine ⟨some ⟨gV, 0, none⟩, gV, 8, V, by simp [lV], ?_, wV, by omega, ?_, ?_⟩
    · exact Ta.rd_setN mV.rd (.inr (by simp; omega))
    · exact Dr.cur_set (B := w.heap.size) hC (Nat.le_refl _) hg hbl
    · exact Dr.only_set hO (Nat.le_refl _)

end Go.Proofs.Ytcbhpmgjmpbpmaa.Tb
namespace Go.Proofs.Ytcbhpmgjmpbpmaa.Yx
set_option maxRecDepth 8000
set_option linter.unusedSimpArgs false
set_option linter.unusedVariables false
open Go Go.RowKit
open Num Pl Hr Hh Pq Ht Yh Yl Yu

abbrev A3 := Yb.A3
def cellsA (x : A3) : List Value := [.int .i64 x.1, .int .i64 x.2.1, .int .i64 x.2.2]
def flatA (l : List A3) : List Value := l.flatMap cellsA
theorem flatA_get : ∀ (l : List A3) (i : Nat), i < l.length → (flatA l)[i * 3]? = some (.int .i64 (l.getD i Yb.z3).1) ∧ (flatA l)[i * 3 + 1]? = some (.int .i64 (l.getD i Yb.z3).2.1) ∧ (flatA l)[i * 3 + 2]? = some (.int .i64 (l.getD i Yb.z3).2.2)
  | [], i, h => by simp at h
  | x :: l, 0, h => by simp [flatA, cellsA, List.getD]
  | x :: l, i + 1, h => by
    have q := flatA_get l i (by simpa using h)
    have e0 : (i + 1) * 3 = i * 3 + 1 + 1 + 1 := by omega
    have e : flatA (x :: l) = .int .i64 x.1 :: .int .i64 x.2.1 :: .int .i64 x.2.2 :: flatA l := by simp [flatA, cellsA]
    rw [e0, e]
    exact ⟨q.1, q.2.1, q.2.2⟩
theorem info76 : (Try.prog.info? 133).map (fun i => (i.zero, i.size, i.bytes)) = some (some (.agg #[.int .i64 0, .int .i64 0, .int .i64 0]), 3, 24) := by kernel_rfl

/-- A slice of the call's own, not nil, that holds the actions l. -/
def HasA (w : World) (B : Nat) (v : Value) (l : List A3) : Prop := w.ownsRow B 133 3 v l.length (flatA l) ∧ v ≠ .slice none 0 0
theorem hasA_mono {w : World} {B B' : Nat} {v : Value} {l : List A3} (h : HasA w B v l) (hB : B' ≤ B) : HasA w B' v l := by
  refine ⟨⟨h.1.1, ?_⟩, h.2⟩
  rcases h.1.2 with ⟨e1, e2⟩ | ⟨g, cap, cur, e1, hb, hg, rest⟩
  · exact .inl ⟨e1, e2⟩
  · exact .inr ⟨g, cap, cur, e1, Nat.le_trans hB hb, hg, rest⟩
theorem hasA_keep {w w' : World} {B : Nat} {v : Value} {l : List A3} (h : HasA w B v l) (hk : ∀ k, B ≤ k → k < w.heap.size → w'.heap[k]? = w.heap[k]?) : HasA w' B v l := by
  refine ⟨⟨h.1.1, ?_⟩, h.2⟩
  rcases h.1.2 with ⟨e1, e2⟩ | ⟨g, cap, cur, e1, hb, hg, rest⟩
  · exact .inl ⟨e1, e2⟩
  · exact .inr ⟨g, cap, cur, e1, hb, (hk g hb (Array.getElem?_eq_some_iff.1 hg).1).trans hg, rest⟩
theorem hasA_only {w w' : World} {B g : Nat} {v : Value} {l : List A3} (h : HasA w B v l) (ho : Mk.Only g w w') (hg : g < B) : HasA w' B v l :=
  hasA_keep h fun k hk hk' => ho.block k hk' (by simp; omega)
theorem hasA_alloc {w : World} {B : Nat} {v : Value} {l : List A3} (h : HasA w B v l) (o : Obj) : HasA (w.alloc o) B v l := ⟨h.1.alloc o, h.2⟩
theorem curA_app {w1 w2 : World} {B g b off cap : Nat} {a : Option Addr} {c : List Int} {v : Value} {l : List A3} (hC : Dr.Cur w1 g a b off cap c) (h : HasA w1 B v l) (hg : w1.grownBy w2 v.ownBlock) (h1 : g < B) (h2 : c.length = 0 ∨ b < B) (h3 : B ≤ w1.heap.size) : Dr.Cur w2 g a b off cap c :=
  Dr.cur_keep (B := B) hC (fun q hq => hg.block q (by omega) (fun e => by have := (h.1.lt q e.symm).1; omega)) h1 h2
theorem onlyA_app {w w1 w2 : World} {B g : Nat} {v : Value} {l : List A3} (hO : Mk.Only g w w1) (h : HasA w1 B v l) (hg : w1.grownBy w2 v.ownBlock) (hB : w.heap.size ≤ B) : Mk.Only g w w2 :=
  Dr.only_grown hO hg (fun q hq => by have := (h.1.lt q hq).1; omega)
theorem own_emptyA (w : World) : HasA (w.alloc (.cells #[] 133)) w.heap.size (.slice (some ⟨w.heap.size, 0, none⟩) 0 0) [] := ⟨by simpa [flatA] using World.ownsRow_made (size := 3) (e := 133) w #[] 0 (Nat.le_refl _) (Nat.zero_le _) rfl, by simp⟩
theorem hasA_form {w : World} {B : Nat} {v : Value} {l : List A3} (h : HasA w B v l) (hs : l.length ≤ 4194304) :
    ∃ g cap, v = .slice (some ⟨g, 0, none⟩) l.length cap ∧ B ≤ g ∧ Yb.Rd w (some ⟨g, 0, none⟩) g 0 l ∧ l.length ≤ cap := by
  rcases h.1.2 with ⟨rfl, _⟩ | ⟨g, cap, cur, rfl, hb, hh, hn, _, _, ht⟩
  · exact absurd rfl h.2
  · refine ⟨g, cap, rfl, hb, ⟨fun _ => rfl, fun i hi => ?_, hs⟩, hn⟩
    obtain ⟨q0, q1, q2⟩ := flatA_get l i hi
    have p0 := h.1.cells (g := g) rfl _ _ q0
    have p1 := h.1.cells (g := g) rfl _ _ q1
    have p2 := h.1.cells (g := g) rfl _ _ q2
    rw [Yb.add_eq] at p0 p1 p2
    exact ⟨p0, p1, p2⟩
theorem wpList_appA {ops : Array Oper} {rest : List Oper} {o : Oper} {a : Act} {w : World} {Q : Exit → Act → World → Prop} (hgd : o.guard = none) (s x : Operand)
    (ho : o.op = .call { callee := .builtin .append, args := #[s, x], argTypes := #[26, 26] }) (base : Nat) (v : Value) (l : List A3) (m : A3) (hs : a.eval s = v) (hown : HasA w base v l)
    (T c : Nat) (hx : a.eval x = .slice (some ⟨T, 0, none⟩) 1 c) (hT : w.heap[T]? = some (.cells #[.int .i64 m.1, .int .i64 m.2.1, .int .i64 m.2.2] 133 (0, 0))) (hb : l.length ≤ 4194304) (hbase : base ≤ w.heap.size)
    (h : ∀ v' w', HasA w' base v' (l ++ [m]) → w.grownBy w' v.ownBlock → wpList Try.prog ops Q rest (a.put o.dst v') w') : wpList Try.prog ops Q (o :: rest) a w := by
  obtain ⟨i0, hi, hz0, hz1, hz2⟩ := info_parts info76
  refine wpList_append_own _ hgd s x 26 ho base 133 i0 (.agg #[.int .i64 0, .int .i64 0, .int .i64 0]) 3 24 Try.underlying26 hi hz0 hz1 hz2 rfl (by decide) v l.length (flatA l) hs hown.1 ⟨T, 0, none⟩ 1 c (cellsA m) hx rfl (by
      intro j u hj
      have hjl : j < 3 := by have := (List.getElem?_eq_some_iff.1 hj).1; simpa [cellsA] using this
      rw [Yb.add_eq, Nat.zero_add]
      match j, hjl with
      | 0, _ => simp [cellsA] at hj; subst hj; simp [World.cell?, hT]
      | 1, _ => simp [cellsA] at hj; subst hj; simp [World.cell?, hT]
      | 2, _ => simp [cellsA] at hj; subst hj; simp [World.cell?, hT]) (by intro u hu; simp [cellsA] at hu; rcases hu with rfl | rfl | rfl <;> rfl) (by unfold maxLen; omega) (by omega) hbase ?_
  intro v' w' h1 h2 h3
  refine h v' w' ⟨by have e : flatA (l ++ [m]) = flatA l ++ cellsA m := (by simp [flatA]); rw [e]; simpa using h1, fun e => ?_⟩ h2
  exact hown.2 (h3.1 e).1

/-- A row of actions is handed back, in memory of the call's own, and the cursor goes on. -/
def ActD (w : World) (g : Nat) (a : Option Addr) (b off cap : Nat) (c : List Int) (e : Ending) (w' : World) : Prop :=
  ∃ v l, e = .returned v ∧ HasA w' w.heap.size v l ∧ l.length ≤ 13 ∧ Dr.Cur w' g a b off cap c ∧ Mk.Only g w w'

end Go.Proofs.Ytcbhpmgjmpbpmaa.Yx
namespace Go.Proofs.Ytcbhpmgjmpbpmaa.Yy
set_option maxRecDepth 8000
set_option linter.unusedSimpArgs false
set_option linter.unusedVariables false
open Go Go.RowKit
open Num Pl Hr Hh Pq Ht Yh Yl Yu Yx

theorem cells3 {w : World} {g : Nat} {x0 x1 x2 : Value} {t : TypeId} (k : w.heap[g]? = some (.cells #[x0, x1, x2] t (0, 0))) : w.cell? ⟨g, 0, none⟩ = some x0 ∧ w.cell? ⟨g, 1, none⟩ = some x1 ∧ w.cell? ⟨g, 2, none⟩ = some x2 := by
  simp [World.cell?, k]
theorem set31 {w : World} {g : Nat} {x0 x1 x2 u : Value} {t : TypeId} (k : w.heap[g]? = some (.cells #[x0, x1, x2] t (0, 0))) : (w.setCell ⟨g, 1, none⟩ u).heap[g]? = some (.cells #[x0, u, x2] t (0, 0)) := by
  simp [World.setCell, Array.getElem?_modify, k]
theorem set32 {w : World} {g : Nat} {x0 x1 x2 u : Value} {t : TypeId} (k : w.heap[g]? = some (.cells #[x0, x1, x2] t (0, 0))) : (w.setCell ⟨g, 2, none⟩ u).heap[g]? = some (.cells #[x0, x1, u] t (0, 0)) := by
  simp [World.setCell, Array.getElem?_modify, k]
theorem set30 {w : World} {g : Nat} {x0 x1 x2 u : Value} {t : TypeId} (k : w.heap[g]? = some (.cells #[x0, x1, x2] t (0, 0))) : (w.setCell ⟨g, 0, none⟩ u).heap[g]? = some (.cells #[u, x1, x2] t (0, 0)) := by
  simp [World.setCell, Array.getElem?_modify, k]
def lenOf : Value → Nat
  | .slice _ n _ => n
  | _ => 0

set_option maxHeartbeats 8000000 in
theorem acts_any (g : Nat) (a : Option Addr) (b off cap : Nat) (c : List Int) (w : World) (h : Dr.Cur w g a b off cap c) :
    Calls Try.prog 194 #[.pointer (some ⟨g, 0, none⟩)] w (ActD w g a b off cap c) := by
  have hg := Dr.cur_lt h
  have hbl := Dr.rd_lt h.rd
  have own0 := own_emptyA w
  have hC0 := Dr.cur_alloc h (.cells #[] 133)
  have hO0 := Dr.only_alloc (Mk.Only.refl g w) (.cells #[] 133)
  clear h
  go_enter Try.func194, Try.ntmps194
  go_wp2_with (go_at_call 74; refine (Dr.below_any _ _ _ _ _ _ 5 _ hC0 (by omega) (by omega)).mono ?_; rintro e w1 ⟨n, rfl, n0, n1, hC1, hO1⟩; have own1 := hasA_only own0 hO1 (by omega); replace hO1 := Dr.only_trans hO0 hO1; clear hC0 hO0 own0)
  obtain ⟨M, hM⟩ : ∃ M : Nat, n = M := ⟨n.toNat, by omega⟩
  subst hM
  go_loopw [3, 4, 5, 6] (fun v n _ _ wr => ∃ (k : Nat) (l : List A3), l.length + k ≤ 4 ∧ n = .int .i64 k ∧ HasA wr w.heap.size v l ∧ Dr.Cur wr g a b off cap c ∧ Mk.Only g w wr) (fun _ n _ _ _ => (intOf n).toNat)
  case atStart => exact ⟨M, [], by simp; omega, rfl, own1, hC1, hO1⟩
  case round =>
    obtain ⟨k, l, hk, rfl, own, hC, hO⟩ := hrel
    clear own1 hC1 hO1
    have zr := hO.size
    by_cases hk0 : 0 < k
    · have hkz : 0 < (k : Int) := by omega
      obtain ⟨K, hK⟩ : ∃ K, k = K + 1 := ⟨k - 1, by omega⟩
      have t1 : True := trivial
      go_wp2_with (first | (go_at_call 74; clear t1; refine (Dr.below_any _ _ _ _ _ _ 5 _ hC (by omega) (by omega)).mono ?_; rintro e w3 ⟨x, rfl, x0, x1, hC3, hO'⟩; have own3 := hasA_only own hO' (by omega); replace hO := Dr.only_trans hO hO'; clear hC own hO'; have z3 := hO.size; have hC4 := Dr.cur_alloc hC3 (.cells #[.int .i64 (1 + x), .int .i64 0, .int .i64 0] 133); have hO4 := Dr.only_alloc (Mk.Only.refl g w3) (.cells #[.int .i64 (1 + x), .int .i64 0, .int .i64 0] 133); have kA : (w3.alloc (.cells #[.int .i64 (1 + x), .int .i64 0, .int .i64 0] 133)).heap[w3.heap.size]? = some (.cells #[.int .i64 (1 + x), .int .i64 0, .int .i64 0] 133 (0, 0)) := at_new rfl; have hC5 := Dr.cur_alloc hC4 (.cells #[.int .i64 (1 + x), .int .i64 0, .int .i64 0] 133); have hO5 := Dr.only_alloc hO4 (.cells #[.int .i64 (1 + x), .int .i64 0, .int .i64 0] 133); have own5 := hasA_only own3 hO5 (by omega); have kT : ((w3.alloc (.cells #[.int .i64 (1 + x), .int .i64 0, .int .i64 0] 133)).alloc (.cells #[.int .i64 (1 + x), .int .i64 0, .int .i64 0] 133)).heap[w3.heap.size + 1]? = some (.cells #[.int .i64 (1 + x), .int .i64 0, .int .i64 0] 133 (0, 0)) := at_new (by simp)) | (at_builtin; refine wpList_appA rfl (.tmp 34) (.tmp 36) rfl w.heap.size _ l (1 + x, 0, 0) rfl own5 (w3.heap.size + 1) 1 rfl kT (by omega) (by simp; omega) ?_; intro v7 w7 hown7 hg7))
      · obtain rfl : x = 0 := by have ex := eq_of_beq (by assumption : (1 + x == 1) = true); omega
        clear hC5 hO5 own5 kT
        simp only [Int.add_zero] at hC4 hO4 kA ⊢
        go_wp2_with (first | (go_at_call 74; refine (Dr.below_any _ _ _ _ _ _ 5 _ hC4 (by omega) (by omega)).mono ?_; rintro e w4 ⟨y, rfl, y0, y1, hC, hO'⟩; replace kA := (hO'.block _ (by simp) (by simp; omega)).trans kA; replace hO4 := Dr.only_trans hO4 hO'; clear hO' hC4; have z4 := hO4.size; obtain ⟨q0, q1, q2⟩ := cells3 kA; have ff := Bl.free kA; have hC6 : Dr.Cur ((w4.setCell ⟨w3.heap.size, 1, none⟩ (.int .i64 (1 + y))).alloc (.cells #[.int .i64 1, .int .i64 (1 + y), .int .i64 0] 133)) g a b off cap c := Dr.cur_alloc (Dr.cur_keep (B := w.heap.size) hC (fun k hk => Below.heap_setCell _ _ _ k (by simp; omega)) hg hbl) _; have hO6 : Mk.Only g w3 ((w4.setCell ⟨w3.heap.size, 1, none⟩ (.int .i64 (1 + y))).alloc (.cells #[.int .i64 1, .int .i64 (1 + y), .int .i64 0] 133)) := Dr.only_alloc (Dr.only_set hO4 (Nat.le_refl _)) _; have own6 := hasA_only own3 hO6 (by omega); have kT : ((w4.setCell ⟨w3.heap.size, 1, none⟩ (.int .i64 (1 + y))).alloc (.cells #[.int .i64 1, .int .i64 (1 + y), .int .i64 0] 133)).heap[w4.heap.size]? = some (.cells #[.int .i64 1, .int .i64 (1 + y), .int .i64 0] 133 (0, 0)) := at_new (by simp)) | (at_builtin; refine wpList_appA rfl (.tmp 34) (.tmp 36) rfl w.heap.size _ l (1, 1 + y, 0) rfl own6 w4.heap.size 1 rfl kT (by omega) (by simp; omega) ?_; intro v7 w7 hown7 hg7))
        have hC7 := curA_app hC6 own6 hg7 hg hbl (by simp; omega)
        have hO7 := onlyA_app (Dr.only_trans hO hO6) own6 hg7 (Nat.le_refl _)
        go_roundw
        case rel => exact ⟨K, _, by simp; omega, by first | go_num | (congr 1; omega), hown7, hC7, hO7⟩
        case measure => simp [intOf]; omega
      · obtain rfl : x = 2 := by have ex := eq_of_beq (by assumption : (1 + x == 3) = true); omega
        clear hC5 hO5 own5 kT
        simp only [show (1 : Int) + 2 = 3 from rfl] at hC4 hO4 kA ⊢
        go_wp2_with (first | (go_at_call 74; refine (Dr.below_any _ _ _ _ _ _ 2 _ hC4 (by omega) (by omega)).mono ?_; rintro e w4 ⟨y, rfl, y0, y1, hC, hO'⟩; replace kA := (hO'.block _ (by simp) (by simp; omega)).trans kA; replace hO4 := Dr.only_trans hO4 hO'; clear hO' hC4; have z4 := hO4.size; obtain ⟨q0, q1, q2⟩ := cells3 kA; have ff := Bl.free kA; have hC5 : Dr.Cur (w4.setCell ⟨w3.heap.size, 1, none⟩ (.int .i64 (1 + y))) g a b off cap c := Dr.cur_keep (B := w.heap.size) hC (fun k hk => Below.heap_setCell _ _ _ k (by simp; omega)) hg hbl; have hO5 : Mk.Only g w3 (w4.setCell ⟨w3.heap.size, 1, none⟩ (.int .i64 (1 + y))) := Dr.only_set hO4 (Nat.le_refl _); have kA5 := set31 (u := .int .i64 (1 + y)) kA; have z5 : w3.heap.size < (w4.setCell ⟨w3.heap.size, 1, none⟩ (.int .i64 (1 + y))).heap.size := (Array.getElem?_eq_some_iff.1 kA5).1) | (go_at_call 206; refine (Dr.num6_any _ _ _ _ _ _ _ hC5).mono ?_; rintro e w5 ⟨z, rfl, zz0, zz1, hC', hO'⟩; clear q0 q1 q2 ff kA hC hC5; have kA := (hO'.block _ z5 (by simp; omega)).trans kA5; have hO6' := Dr.only_trans hO5 hO'; clear hO' hO5 kA5; obtain ⟨q0, q1, q2⟩ := cells3 kA; have ff := Bl.free kA; have z6 := hO6'.size; have hC6 : Dr.Cur ((w5.setCell ⟨w3.heap.size, 2, none⟩ (.int .i64 z)).alloc (.cells #[.int .i64 3, .int .i64 (1 + y), .int .i64 z] 133)) g a b off cap c := Dr.cur_alloc (Dr.cur_keep (B := w.heap.size) hC' (fun k hk => Below.heap_setCell _ _ _ k (by simp; omega)) hg hbl) _; have hO6 : Mk.Only g w3 ((w5.setCell ⟨w3.heap.size, 2, none⟩ (.int .i64 z)).alloc (.cells #[.int .i64 3, .int .i64 (1 + y), .int .i64 z] 133)) := Dr.only_alloc (Dr.only_set hO6' (Nat.le_refl _)) _; have own6 := hasA_only own3 hO6 (by omega); have kT : ((w5.setCell ⟨w3.heap.size, 2, none⟩ (.int .i64 z)).alloc (.cells #[.int .i64 3, .int .i64 (1 + y), .int .i64 z] 133)).heap[w5.heap.size]? = some (.cells #[.int .i64 3, .int .i64 (1 + y), .int .i64 z] 133 (0, 0)) := at_new (by simp)) | (at_builtin; refine wpList_appA rfl (.tmp 34) (.tmp 36) rfl w.heap.size _ l (3, 1 + y, z) rfl own6 w5.heap.size 1 rfl kT (by omega) (by simp; omega) ?_; intro v7 w7 hown7 hg7))
        have hC7 := curA_app hC6 own6 hg7 hg hbl (by simp; omega)
        have hO7 := onlyA_app (Dr.only_trans hO hO6) own6 hg7 (Nat.le_refl _)
        go_roundw
        case rel => exact ⟨K, _, by simp; omega, by first | go_num | (congr 1; omega), hown7, hC7, hO7⟩
        case measure => simp [intOf]; omega
      · have hC6 := hC5
        have hO6 := hO5
        have own6 := own5
        have hC7 := curA_app hC6 own6 hg7 hg hbl (by simp; omega)
        have hO7 := onlyA_app (Dr.only_trans hO hO6) own6 hg7 (Nat.le_refl _)
        go_roundw
        case rel => exact ⟨K, _, by simp; omega, by first | go_num | (congr 1; omega), hown7, hC7, hO7⟩
        case measure => simp [intOf]; omega
    · obtain rfl : k = 0 := by omega
      have t1 : True := trivial
      go_wp2_with (go_at_call 74; clear t1; refine (Dr.below_any _ _ _ _ _ _ 25 _ hC (by omega) (by omega)).mono ?_; rintro e w3 ⟨x, rfl, x0, x1, hC3, hO'⟩; have own3 := hasA_only own hO' (by omega); replace hO := Dr.only_trans hO hO'; clear hC own hO')
      · have hxt : (x == 0) = true := by assumption
        rw [hxt]
        clear hxt
        go_loopw [3] (fun v wr => ∃ l : List A3, l.length ≤ 13 ∧ HasA wr w.heap.size v l ∧ Dr.Cur wr g a b off cap c ∧ Mk.Only g w wr) (fun v _ => 14 - lenOf v)
        case atStart => exact ⟨l, by omega, own3, hC3, hO⟩
        case round =>
          clear hO own3 hC3
          obtain ⟨l, hl, own, hC, hO⟩ := hrel
          have zr := hO.size
          obtain ⟨gl, cl, rfl, hgl, _, hcl⟩ := hasA_form own (by omega)
          have t2 : True := trivial
          go_wp2_with (first | (go_at_call 74; clear t2; refine (Dr.below_any _ _ _ _ _ _ 2 _ hC (by omega) (by omega)).mono ?_; rintro e w4 ⟨y, rfl, y0, y1, hC4, hO'⟩; have own4 := hasA_only own hO' (by omega); replace hO := Dr.only_trans hO hO'; clear hC own hO'; have z4 := hO.size; have hC6 := Dr.cur_alloc hC4 (.cells #[.int .i64 2, .int .i64 0, .int .i64 0] 133); have hO6 := Dr.only_alloc hO (.cells #[.int .i64 2, .int .i64 0, .int .i64 0] 133); have own6 := hasA_alloc own4 (.cells #[.int .i64 2, .int .i64 0, .int .i64 0] 133); have kT : (w4.alloc (.cells #[.int .i64 2, .int .i64 0, .int .i64 0] 133)).heap[w4.heap.size]? = some (.cells #[.int .i64 2, .int .i64 0, .int .i64 0] 133 (0, 0)) := at_new rfl) | (at_builtin; refine wpList_appA rfl (.tmp 47) (.tmp 49) rfl w.heap.size _ l (2, 0, 0) rfl own6 w4.heap.size 1 rfl kT (by omega) (by simp; omega) ?_; intro v7 w7 hown7 hg7))
          · have hlt : l.length < 13 := by omega
            obtain ⟨g7, c7, rfl, _, _, _⟩ := hasA_form hown7 (by simp; omega)
            have hC7 := curA_app hC6 own6 hg7 hg hbl (by simp; omega)
            have hO7 := onlyA_app hO6 own6 hg7 (Nat.le_refl _)
            go_roundw
            case rel => exact ⟨_, by simp; omega, hown7, hC7, hO7⟩
            case measure => simp [lenOf]; omega
          · go_ret
            exact ⟨_, _, rfl, own4, hl, hC4, hO⟩
      · go_ret
        exact ⟨_, _, rfl, own3, by omega, hC3, hO⟩

end Go.Proofs.Ytcbhpmgjmpbpmaa.Yy
namespace Go.Proofs.Ytcbhpmgjmpbpmaa.Va
set_option maxRecDepth 8000
set_option linter.unusedSimpArgs false
set_option linter.unusedVariables false
open Go Go.RowKit
open Num Pl Ea

/-- The blocks that an entry's rows lie in. -/
def In (f : Ent) (x : Nat) : Prop := x = f.bV ∨ x = f.bM ∨ x = f.bA
theorem ok_keep {w w' : World} {f : Ent} (o : f.Ok w) (hk : ∀ x, In f x → x < w.heap.size → w'.heap[x]? = w.heap[x]?) : f.Ok w' :=
  ⟨⟨o.rV.head, fun i hi => (World.cell?_of_block (hk _ (.inl rfl) (World.block_lt_of_cell? _ _ (o.rV.cell i hi)))).trans (o.rV.cell i hi), o.rV.size⟩,
   ⟨o.rM.head, fun i hi => (World.cell?_of_block (hk _ (.inr (.inl rfl)) (World.block_lt_of_cell? _ _ (o.rM.cell i hi)))).trans (o.rM.cell i hi), o.rM.size⟩,
   ⟨o.rA.head, fun i hi => by
      have e := hk _ (.inr (.inr rfl)) (o.rA.cell i hi).lt
      obtain ⟨c0, c1, c2⟩ := o.rA.cell i hi
      exact ⟨(World.cell?_of_block e).trans c0, (World.cell?_of_block e).trans c1, (World.cell?_of_block e).trans c2⟩, o.rA.size⟩, o.wV, o.wM⟩
theorem rdA_only {g : Nat} {w w' : World} {a : Option Addr} {b off : Nat} {l : List Yb.A3} (h : Mk.Only g w w') (hr : Yb.Rd w a b off l) (hne : b ≠ g) : Yb.Rd w' a b off l :=
  ⟨hr.head, fun i hi => ⟨h.cell (hr.cell i hi).1 (by simpa using hne), h.cell (hr.cell i hi).2.1 (by simpa using hne), h.cell (hr.cell i hi).2.2 (by simpa using hne)⟩, hr.size⟩
theorem set_far {w : World} {p o x : Nat} {u : Value} (h : x ≠ p) : (w.setCell ⟨p, o, none⟩ u).heap[x]? = w.heap[x]? := by
  simp [World.setCell, Array.getElem?_modify, Ne.symm h]
/-- A drawn entry is handed back, and the cursor goes on. -/
def EntD (w : World) (g : Nat) (a : Option Addr) (b off cap : Nat) (c : List Int) (e : Ending) (w' : World) : Prop :=
  ∃ f : Ent, e = .returned (.agg f.vals) ∧ f.Ok w' ∧ (∀ x, In f x → w.heap.size ≤ x ∧ x < w'.heap.size) ∧ Dr.Cur w' g a b off cap c ∧ Mk.Only g w w'

set_option maxHeartbeats 16000000 in
theorem entry_any (g : Nat) (a : Option Addr) (b off cap : Nat) (c : List Int) (w : World) (h : Dr.Cur w g a b off cap c) :
    Calls Try.prog 166 #[.pointer (some ⟨g, 0, none⟩)] w (EntD w g a b off cap c) := by
  obtain ⟨W0, hW0⟩ : ∃ W0, W0 = w.alloc (.cells #[.int .i64 0, .int .i64 0, .slice none 0 0, .slice none 0 0, .slice none 0 0, .int .i64 0] 74) := ⟨_, rfl⟩
  have hg := Dr.cur_lt h
  have hbl := Dr.rd_lt h.rd
  have hC0 : Dr.Cur W0 g a b off cap c := by subst hW0; exact Dr.cur_alloc h _
  have kR : W0.heap[w.heap.size]? = some (.cells #[.int .i64 0, .int .i64 0, .slice none 0 0, .slice none 0 0, .slice none 0 0, .int .i64 0] 74 (0, 0)) := by subst hW0; exact at_new rfl
  have hO0 : Mk.Only g w W0 := by subst hW0; exact Dr.only_alloc (Mk.Only.refl _ _) _
  have z0 : w.heap.size < W0.heap.size := blk_lt kR
  clear h
  have t1 : True := trivial
  go_enter Try.func166, Try.ntmps166
  go_wp2_with (first
    | (go_at_call 74; clear t1; rw [← hW0]; clear hW0; refine (Dr.below_any _ _ _ _ _ _ 3 _ hC0 (by omega) (by omega)).mono ?_; rintro e w1 ⟨d1, rfl, _, _, hC1, hO⟩; replace kR := (hO.block _ (blk_lt kR) (by simp; omega)).trans kR; replace hO0 := Dr.only_trans hO0 hO; have s1 := hO.size; clear hO hC0; have t2 : True := trivial)
    | (go_at_call 74; clear t2; refine (Dr.below_any _ _ _ _ _ _ 4 _ hC1 (by omega) (by omega)).mono ?_; rintro e w2 ⟨d2, rfl, _, _, hC2, hO⟩; replace kR := (hO.block _ (blk_lt kR) (by simp; omega)).trans kR; replace hO0 := Dr.only_trans hO0 hO; have s2 := hO.size; clear hO hC1)
    | (go_at_call 195; refine (Mz.match_any _ _ _ _ _ _ _ hC2).mono ?_; rintro e w3 ⟨gV, gM, V, M, rfl, mV, mM, lV, lM, wV, wM, zV, zM, dVM, hC3, hO⟩; replace kR := (hO.block _ (blk_lt kR) (by simp; omega)).trans kR; replace hO0 := Dr.only_trans hO0 hO; have s3 := hO.size; clear hO hC2)
    | (go_at_call 194; refine (Yy.acts_any _ _ _ _ _ _ _ hC3).mono ?_; rintro e w4 ⟨vA, A, rfl, hA, lA, hC4, hO⟩; obtain ⟨gA, cA, rfl, zA, rA, rA2⟩ := Yx.hasA_form hA (by omega); replace kR := (hO.block _ (blk_lt kR) (by simp; omega)).trans kR; replace mV := Yu.own_onlyN mV hO (by omega); replace mM := Yu.own_onlyN mM hO (by omega); replace hO0 := Dr.only_trans hO0 hO; have s4 := hO.size; clear hO hC3; have t5 : True := trivial)
    | (go_at_call 74; clear t5; refine (Dr.below_any _ _ _ _ _ _ 3 _ hC4 (by omega) (by omega)).mono ?_; rintro e w5 ⟨d5, rfl, _, _, hC5, hO⟩; replace kR := (hO.block _ (blk_lt kR) (by simp; omega)).trans kR; replace mV := Yu.own_onlyN mV hO (by omega); replace mM := Yu.own_onlyN mM hO (by omega); replace hO0 := Dr.only_trans hO0 hO; have s5 := hO.size; have HO5 : Hid (Mk.Only g w4 w5) := hO; clear hO hC4; have t6 : True := trivial)
    | (go_at_call 74; clear t6; refine (Dr.below_any _ _ _ _ _ _ 9 _ (Dr.cur_alloc hC5 _) (by omega) (by omega)).mono ?_; rintro e w7 ⟨x7, rfl, _, _, hC7, hO⟩; have kT := (hO.block w5.heap.size (by simp) (by simp; omega)).trans (at_new rfl); have o57 : ∀ k, k < w5.heap.size → k ≠ g → w7.heap[k]? = w5.heap[k]? := (fun k hk hne => (hO.block k (by simp; omega) (by simpa using hne)).trans (at_old hk)); replace kR := (o57 _ (blk_lt kR) (by omega)).trans kR; replace hO0 := Dr.only_trans (Dr.only_alloc hO0 _) hO; have s7 := hO.size; clear hO hC5; obtain ⟨y0, y1, y2, y3, y4, y5⟩ := six kT; obtain ⟨r0, r1, r2, r3, r4, r5⟩ := six kR; have fT := Bl.free kT; have fR := Bl.free kR; have t7 : True := trivial)
    | (go_at_call 74; clear t7; refine (Dr.below_any _ _ _ _ _ _ 2 _ hC7 (by omega) (by omega)).mono ?_; rintro e w8 ⟨x8, rfl, _, _, hC8, hO⟩; have kT8 := (hO.block _ (blk_lt kT) (by simp; omega)).trans kT; have kR8 := (hO.block _ (blk_lt kR) (by simp; omega)).trans kR; have o78 : ∀ k, k < w7.heap.size → k ≠ g → w8.heap[k]? = w7.heap[k]? := (fun k hk hne => hO.block k hk (by simpa using hne)); replace hO0 := Dr.only_trans hO0 hO; have s8 := hO.size; clear hO y0 y1 y2 y3 y4 y5 r0 r1 r2 r3 r4 r5; obtain ⟨y0, y1, y2, y3, y4, y5⟩ := six kT8; obtain ⟨r0, r1, r2, r3, r4, r5⟩ := six kR8; have fT8 := Bl.free kT8; have fR8 := Bl.free kR8))
  all_goals
    have xV := mV.row.lt
    have xM := mM.row.lt
    have xA := zA
    have s7b : w5.heap.size + 1 ≤ w7.heap.size := by simpa using s7
    have xA2 : gA < w4.heap.size := (hA.1.lt gA (by simp [Value.ownBlock])).2
  · have v5 : Ent.Ok w5 ⟨d1, 65535, V, M, [], (1000000000 - x8), some ⟨gV, 0, none⟩, gV, 0, 8, some ⟨gM, 0, none⟩, gM, 0, 8, none, gV, 0, 0⟩ := ⟨by simpa using mV.rd, by simpa using mM.rd, ⟨fun h => by simp at h, fun i h => by simp at h, by simp⟩, wV, wM⟩
    refine bodyPost_ret (v := .agg #[.int .i64 d1, .int .i64 65535, .slice (some ⟨gV, 0, none⟩) 8 8, .slice (some ⟨gM, 0, none⟩) 8 8, .slice none 0 0, .int .i64 (1000000000 - x8)]) (by simp [results, Try.results166, go_sem, r0, r1, r2, r3, r4, r5]) rfl ⟨⟨d1, 65535, V, M, [], (1000000000 - x8), some ⟨gV, 0, none⟩, gV, 0, 8, some ⟨gM, 0, none⟩, gM, 0, 8, none, gV, 0, 0⟩, ?_, ?_, ?_, ?_, ?_⟩
    · simp [Ent.vals, lV, lM]
    · refine ok_keep v5 fun x hx hl => ?_
      have hx2 : x ≠ g ∧ x ≠ w.heap.size ∧ x ≠ w5.heap.size := by rcases hx with rfl | rfl | rfl <;> ((try simp only); omega)
      obtain ⟨n1, n2, n3⟩ := hx2
      simp only [set_far n2, set_far n3]
      exact (o78 _ (by omega) (by omega)).trans (o57 _ (by omega) (by omega))
    · intro x hx
      simp only [World.size_setCell]
      rcases hx with rfl | rfl | rfl <;> ((try simp only); omega)
    · repeat (first | with_reducible exact hC8 | refine Dr.cur_set (B := w.heap.size) ?_ (by omega) hg hbl)
    · repeat (first | with_reducible exact hO0 | refine Dr.only_set ?_ (by omega))
  · have v5 : Ent.Ok w5 ⟨d1, d2, V, M, [], d5, some ⟨gV, 0, none⟩, gV, 0, 8, some ⟨gM, 0, none⟩, gM, 0, 8, none, gV, 0, 0⟩ := ⟨by simpa using mV.rd, by simpa using mM.rd, ⟨fun h => by simp at h, fun i h => by simp at h, by simp⟩, wV, wM⟩
    refine bodyPost_ret (v := .agg #[.int .i64 d1, .int .i64 d2, .slice (some ⟨gV, 0, none⟩) 8 8, .slice (some ⟨gM, 0, none⟩) 8 8, .slice none 0 0, .int .i64 d5]) (by simp [results, Try.results166, go_sem, r0, r1, r2, r3, r4, r5]) rfl ⟨⟨d1, d2, V, M, [], d5, some ⟨gV, 0, none⟩, gV, 0, 8, some ⟨gM, 0, none⟩, gM, 0, 8, none, gV, 0, 0⟩, ?_, ?_, ?_, ?_, ?_⟩
    · simp [Ent.vals, lV, lM]
    · refine ok_keep v5 fun x hx hl => ?_
      have hx2 : x ≠ g ∧ x ≠ w.heap.size ∧ x ≠ w5.heap.size := by rcases hx with rfl | rfl | rfl <;> ((try simp only); omega)
      obtain ⟨n1, n2, n3⟩ := hx2
      simp only [set_far n2, set_far n3]
      exact o57 _ (by omega) (by omega)
    · intro x hx
      simp only [World.size_setCell]
      rcases hx with rfl | rfl | rfl <;> ((try simp only); omega)
    · repeat (first | with_reducible exact hC7 | refine Dr.cur_set (B := w.heap.size) ?_ (by omega) hg hbl)
    · repeat (first | with_reducible exact hO0 | refine Dr.only_set ?_ (by omega))
  · have v5 : Ent.Ok w5 ⟨d1, 65535, V, M, A, (1000000000 - x8), some ⟨gV, 0, none⟩, gV, 0, 8, some ⟨gM, 0, none⟩, gM, 0, 8, some ⟨gA, 0, none⟩, gA, 0, cA⟩ := ⟨by simpa using mV.rd, by simpa using mM.rd, rdA_only HO5.out rA (show gA ≠ g by omega), wV, wM⟩
    refine bodyPost_ret (v := .agg #[.int .i64 d1, .int .i64 65535, .slice (some ⟨gV, 0, none⟩) 8 8, .slice (some ⟨gM, 0, none⟩) 8 8, .slice (some ⟨gA, 0, none⟩) A.length cA, .int .i64 (1000000000 - x8)]) (by simp [results, Try.results166, go_sem, r0, r1, r2, r3, r4, r5]) rfl ⟨⟨d1, 65535, V, M, A, (1000000000 - x8), some ⟨gV, 0, none⟩, gV, 0, 8, some ⟨gM, 0, none⟩, gM, 0, 8, some ⟨gA, 0, none⟩, gA, 0, cA⟩, ?_, ?_, ?_, ?_, ?_⟩
    · simp [Ent.vals, lV, lM]
    · refine ok_keep v5 fun x hx hl => ?_
      have hx2 : x ≠ g ∧ x ≠ w.heap.size ∧ x ≠ w5.heap.size := by rcases hx with rfl | rfl | rfl <;> ((try simp only); omega)
      obtain ⟨n1, n2, n3⟩ := hx2
      simp only [set_far n2, set_far n3]
      exact (o78 _ (by omega) (by omega)).trans (o57 _ (by omega) (by omega))
    · intro x hx
      simp only [World.size_setCell]
      rcases hx with rfl | rfl | rfl <;> ((try simp only); omega)
    · repeat (first | with_reducible exact hC8 | refine Dr.cur_set (B := w.heap.size) ?_ (by omega) hg hbl)
    · repeat (first | with_reducible exact hO0 | refine Dr.only_set ?_ (by omega))
  · have v5 : Ent.Ok w5 ⟨d1, d2, V, M, A, d5, some ⟨gV, 0, none⟩, gV, 0, 8, some ⟨gM, 0, none⟩, gM, 0, 8, some ⟨gA, 0, none⟩, gA, 0, cA⟩ := ⟨by simpa using mV.rd, by simpa using mM.rd, rdA_only HO5.out rA (show gA ≠ g by omega), wV, wM⟩
    refine bodyPost_ret (v := .agg #[.int .i64 d1, .int .i64 d2, .slice (some ⟨gV, 0, none⟩) 8 8, .slice (some ⟨gM, 0, none⟩) 8 8, .slice (some ⟨gA, 0, none⟩) A.length cA, .int .i64 d5]) (by simp [results, Try.results166, go_sem, r0, r1, r2, r3, r4, r5]) rfl ⟨⟨d1, d2, V, M, A, d5, some ⟨gV, 0, none⟩, gV, 0, 8, some ⟨gM, 0, none⟩, gM, 0, 8, some ⟨gA, 0, none⟩, gA, 0, cA⟩, ?_, ?_, ?_, ?_, ?_⟩
    · simp [Ent.vals, lV, lM]
    · refine ok_keep v5 fun x hx hl => ?_
      have hx2 : x ≠ g ∧ x ≠ w.heap.size ∧ x ≠ w5.heap.size := by rcases hx with rfl | rfl | rfl <;> ((try simp only); omega)
      obtain ⟨n1, n2, n3⟩ := hx2
      simp only [set_far n2, set_far n3]
      exact o57 _ (by omega) (by omega)
    · intro x hx
      simp only [World.size_setCell]
      rcases hx with rfl | rfl | rfl <;> ((try simp only); omega)
    · repeat (first | with_reducible exact hC7 | refine Dr.cur_set (B := w.heap.size) ?_ (by omega) hg hbl)
    · repeat (first | with_reducible exact hO0 | refine Dr.only_set ?_ (by omega))


end Go.Proofs.Ytcbhpmgjmpbpmaa.Va
namespace Go.Proofs.Ytcbhpmgjmpbpmaa.Tc
set_option maxRecDepth 8000
set_option linter.unusedSimpArgs false
set_option linter.unusedVariables false
open Go Go.RowKit
open Num

/-- The blocks of a message's rows. -/
def In4 (m : Ga.Msg) (x : Nat) : Prop := Va.In m.e x ∨ x = m.bH
/-- A drawn message is handed back, its rows in blocks of the call's own, and the cursor goes on. -/
def MsgD (w : World) (g : Nat) (a : Option Addr) (b off cap : Nat) (c : List Int) (e : Ending) (w' : World) : Prop :=
  ∃ m : Ga.Msg, e = .returned (.agg m.vals) ∧ m.Ok w' ∧ Dr.Cur w' g a b off cap c ∧ Mk.Only g w w' ∧ (∀ x, In4 m x → w.heap.size ≤ x)
theorem set1 {w : World} {g : Nat} {v0 v1 v2 v3 v4 v5 v6 v7 v8 v9 u : Value} {t : TypeId} (k : w.heap[g]? = some (.cells #[v0, v1, v2, v3, v4, v5, v6, v7, v8, v9] t (0, 0))) :
    (w.setCell ⟨g, 0, none⟩ u).heap[g]? = some (.cells #[u, v1, v2, v3, v4, v5, v6, v7, v8, v9] t (0, 0)) ∧ (w.setCell ⟨g, 1, none⟩ u).heap[g]? = some (.cells #[v0, u, v2, v3, v4, v5, v6, v7, v8, v9] t (0, 0)) ∧ (w.setCell ⟨g, 2, none⟩ u).heap[g]? = some (.cells #[v0, v1, u, v3, v4, v5, v6, v7, v8, v9] t (0, 0)) ∧ (w.setCell ⟨g, 8, none⟩ u).heap[g]? = some (.cells #[v0, v1, v2, v3, v4, v5, v6, v7, u, v9] t (0, 0)) := by
  exact ⟨Ea.blk_same k, Ea.blk_same k, Ea.blk_same k, Ea.blk_same k⟩

theorem wide_nil : Po.Wide [] := fun k => by simp [Pm.I64]

set_option maxHeartbeats 16000000 in
theorem msg_any (g : Nat) (a : Option Addr) (b off cap : Nat) (c : List Int) (w : World) (h : Dr.Cur w g a b off cap c) :
    Calls Try.prog 75 #[.pointer (some ⟨g, 0, none⟩)] w (MsgD w g a b off cap c) := by
  obtain ⟨W0, hW0⟩ : ∃ W0, W0 = w.alloc (.cells #[.int .i64 0, .int .i64 0, .int .i64 0, .int .i64 0, .int .i64 0, .slice none 0 0, .slice none 0 0, .slice none 0 0, .bool false, .slice none 0 0] 30) := ⟨_, rfl⟩
  have hg := Dr.cur_lt h
  have hbl := Dr.rd_lt h.rd
  have hC0 : Dr.Cur W0 g a b off cap c := by subst hW0; exact Dr.cur_alloc h _
  have kR : W0.heap[w.heap.size]? = some (.cells #[.int .i64 0, .int .i64 0, .int .i64 0, .int .i64 0, .int .i64 0, .slice none 0 0, .slice none 0 0, .slice none 0 0, .bool false, .slice none 0 0] 30 (0, 0)) := by subst hW0; exact Pl.at_new rfl
  have hO0 : Mk.Only g w W0 := by subst hW0; exact Dr.only_alloc (Mk.Only.refl _ _) _
  have z0 : w.heap.size < W0.heap.size := Ea.blk_lt kR
  clear h
  have t1 : True := trivial
  go_enter Try.func75, Try.ntmps75
  go_upto_if 15 with (first
    | (go_at_call 74; clear t1; rw [← hW0]; clear hW0; refine (Dr.below_any _ _ _ _ _ _ 6 _ hC0 (by omega) (by omega)).mono ?_; rintro e w1 ⟨d1, rfl, _, _, hC1, hO⟩; replace kR := (hO.block _ (Ea.blk_lt kR) (by simp; omega)).trans kR; replace hO0 := Dr.only_trans hO0 hO; have s1 := hO.size; clear hO; have t2 : True := trivial)
    | (go_at_call 74; clear t2; refine (Dr.below_any _ _ _ _ _ _ 4 _ hC1 (by omega) (by omega)).mono ?_; rintro e w2 ⟨d2, rfl, _, _, hC2, hO⟩; replace kR := (hO.block _ (Ea.blk_lt kR) (by simp; omega)).trans kR; replace hO0 := Dr.only_trans hO0 hO; have s2 := hO.size; clear hO; have t3 : True := trivial)
    | (go_at_call 74; clear t3; refine (Dr.below_any _ _ _ _ _ _ 9 _ hC2 (by omega) (by omega)).mono ?_; rintro e w3 ⟨d3, rfl, _, _, hC3, hO⟩; replace kR := (hO.block _ (Ea.blk_lt kR) (by simp; omega)).trans kR; replace hO0 := Dr.only_trans hO0 hO; have s3 := hO.size; clear hO; have t4 : True := trivial)
    | (go_at_call 74; clear t4; refine (Dr.below_any _ _ _ _ _ _ 3 _ (Dr.cur_alloc hC3 _) (by omega) (by omega)).mono ?_; rintro e w5 ⟨x5, rfl, _, _, hC5, hO⟩; have kT5 := (hO.block w3.heap.size (by simp) (by simp; omega)).trans (Pl.at_new rfl); have kR5 := (hO.block w.heap.size (by simp; omega) (by simp; omega)).trans ((Pl.at_old (Ea.blk_lt kR)).trans kR); replace hO0 := Dr.only_trans (Dr.only_alloc hO0 _) hO; have s5 := hO.size; simp at s5; clear hO hC3 kR; obtain ⟨y0, y1, y2, y3, y4, y5, y6, y7, y8, y9⟩ := Ga.ten kT5; have fT5 := Pl.Bl.free kT5))
  have lT : w3.heap.size < w5.heap.size := Ea.blk_lt kT5
  have lR : w.heap.size < w3.heap.size := by omega
  go_cut [3] from 16 (fun s3 wx => ∃ kd : Int, s3 = .pointer (some ⟨w3.heap.size, 0, none⟩) ∧ wx.heap[w3.heap.size]? = some (.cells #[.int .i64 kd, .int .i64 d2, .int .i64 d3, .int .i64 0, .int .i64 0, .slice none 0 0, .slice none 0 0, .slice none 0 0, .bool false, .slice none 0 0] 30 (0, 0)) ∧ wx.heap[w.heap.size]? = some (.cells #[.int .i64 0, .int .i64 0, .int .i64 0, .int .i64 0, .int .i64 0, .slice none 0 0, .slice none 0 0, .slice none 0 0, .bool false, .slice none 0 0] 30 (0, 0)) ∧ Dr.Cur wx g a b off cap c ∧ Mk.Only g w wx ∧ w3.heap.size < wx.heap.size)
  case first =>
    go_wp2
    · go_meet
      case rel => exact ⟨2, rfl, (set1 kT5).1, Ea.blk_other kR5 (by omega), Dr.cur_set (B := w.heap.size) hC5 (by omega) hg hbl, Dr.only_set hO0 (by omega), by simpa using lT⟩
    · go_meet
      case rel => exact ⟨_, rfl, kT5, kR5, hC5, hO0, lT⟩
  case rest =>
    clear kT5 kR5 hC5 hO0 lT fT5 y0 y1 y2 y3 y4 y5 y6 y7 y8 y9
    obtain ⟨kd, rfl, kT, kR, hC, hO0, lT⟩ := hcut
    have t5 : True := trivial
    go_upto_if 19 with (go_at_call 74; clear t5; refine (Dr.below_any _ _ _ _ _ _ 9 _ hC (by omega) (by omega)).mono ?_; rintro e w6 ⟨x6, rfl, _, _, hC6, hO⟩; have kT6 := (hO.block _ lT (by simp; omega)).trans kT; have kR6 := (hO.block _ (by omega) (by simp; omega)).trans kR; replace hO0 := Dr.only_trans hO0 hO; have lT6 : w3.heap.size < w6.heap.size := Ea.blk_lt kT6; clear hO hC kT kR lT; obtain ⟨y0, y1, y2, y3, y4, y5, y6, y7, y8, y9⟩ := Ga.ten kT6; have fT6 := Pl.Bl.free kT6)
    go_cut [3] from 20 (fun s3 wx => ∃ kd se xi : Int, s3 = .pointer (some ⟨w3.heap.size, 0, none⟩) ∧ wx.heap[w3.heap.size]? = some (.cells #[.int .i64 kd, .int .i64 se, .int .i64 xi, .int .i64 0, .int .i64 0, .slice none 0 0, .slice none 0 0, .slice none 0 0, .bool false, .slice none 0 0] 30 (0, 0)) ∧ wx.heap[w.heap.size]? = some (.cells #[.int .i64 0, .int .i64 0, .int .i64 0, .int .i64 0, .int .i64 0, .slice none 0 0, .slice none 0 0, .slice none 0 0, .bool false, .slice none 0 0] 30 (0, 0)) ∧ Dr.Cur wx g a b off cap c ∧ Mk.Only g w wx ∧ w3.heap.size < wx.heap.size)
    case first =>
      go_wp2
      · go_meet
        case rel => exact ⟨_, 1000000000, 4294967295, rfl, (set1 (set1 kT6).2.1).2.2.1, Ea.blk_other (Ea.blk_other kR6 (by omega)) (by omega), Dr.cur_set (B := w.heap.size) (Dr.cur_set (B := w.heap.size) hC6 (by omega) hg hbl) (by omega) hg hbl, Dr.only_set (Dr.only_set hO0 (by omega)) (by omega), by simpa using lT6⟩
      · go_meet
        case rel => exact ⟨_, _, _, rfl, kT6, kR6, hC6, hO0, lT6⟩
    case rest =>
      clear kT6 kR6 hC6 hO0 lT6 fT6 y0 y1 y2 y3 y4 y5 y6 y7 y8 y9
      obtain ⟨kd, se, xi, rfl, kT, kR, hC, hO0, lT⟩ := hcut
      have lR2 : w.heap.size < wc.heap.size := by omega
      obtain ⟨y0, y1, y2, y3, y4, y5, y6, y7, y8, y9⟩ := Ga.ten kT
      obtain ⟨r0, r1, r2, r3, r4, r5, r6, r7, r8, r9⟩ := Ga.ten kR
      have fT := Pl.Bl.free kT
      have fR := Pl.Bl.free kR
      by_cases k2 : kd = 2
      · subst k2
        go_upto_region 9 with (go_at_call 166; refine (Va.entry_any _ _ _ _ _ _ _ hC).mono ?_; rintro e w7 ⟨⟨ep, pr, V, M, A, hh, aV, bV, oV, cV, aM, bM, oM, cM, aA, bA, oA, cA⟩, he, okf, inf, hC7, hO⟩; simp only [Ea.Ent.vals] at he; subst he; have kT7 := (hO.block _ lT (by simp; omega)).trans kT; have kR7 := (hO.block _ lR2 (by simp; omega)).trans kR; replace hO0 := Dr.only_trans hO0 hO; have s7 := hO.size; clear hO y0 y1 y2 y3 y4 y5 y6 y7 y8 y9 r0 r1 r2 r3 r4 r5 r6 r7 r8 r9 fT fR)
        obtain ⟨W8, hW8⟩ : ∃ W8, W8 = w7.alloc (.cells #[.int .i64 ep, .int .i64 pr, .slice aV V.length cV, .slice aM M.length cM, .slice aA A.length cA, .int .i64 hh] 74) := ⟨_, rfl⟩
        have b8 : Below w7.heap.size w7 W8 := by subst hW8; exact Pl.below_alloc1 _ _
        have k8 : W8.heap[w7.heap.size]? = some (.cells #[.int .i64 ep, .int .i64 pr, .slice aV V.length cV, .slice aM M.length cM, .slice aA A.length cA, .int .i64 hh] 74 (0, 0)) := by subst hW8; exact Pl.at_new rfl
        have hC8 : Dr.Cur W8 g a b off cap c := by subst hW8; exact Dr.cur_alloc hC7 _
        have hO8 : Mk.Only g w W8 := by subst hW8; exact Dr.only_alloc hO0 _
        rw [← hW8]
        clear hW8 hC7 hO0
        have lT7 := Ea.blk_lt kT7
        have lR7 := Ea.blk_lt kR7
        replace kT7 := (b8.block _ lT7).trans kT7
        replace kR7 := (b8.block _ lR7).trans kR7
        have OK8 : Hid (Ea.Ent.Ok W8 ⟨ep, pr, V, M, A, 0, aV, bV, oV, cV, aM, bM, oM, cM, aA, bA, oA, cA⟩) := Ea.Ent.Ok.below (w := w7) ⟨okf.rV, okf.rM, okf.rA, okf.wV, okf.wM⟩ b8
        have INF : Hid (∀ x, Va.In ⟨ep, pr, V, M, A, hh, aV, bV, oV, cV, aM, bM, oM, cM, aA, bA, oA, cA⟩ x → wc.heap.size ≤ x ∧ x < w7.heap.size) := inf
        have NE : Hid (w.heap.size < w3.heap.size ∧ w3.heap.size < wc.heap.size ∧ wc.heap.size ≤ w7.heap.size ∧ w3.heap.size ≠ w7.heap.size ∧ w.heap.size ≠ w7.heap.size) := ⟨by omega, by omega, by omega, by omega, by omega⟩
        have n37 : ¬ w3.heap.size = w7.heap.size := by omega
        have n07 : ¬ w.heap.size = w7.heap.size := by omega
        have n03 : ¬ w.heap.size = w3.heap.size := by omega
        have n73 : ¬ w7.heap.size = w3.heap.size := by omega
        have n70 : ¬ w7.heap.size = w.heap.size := by omega
        have n30 : ¬ w3.heap.size = w.heap.size := by omega
        clear okf inf b8
        obtain ⟨y0, y1, y2, y3, y4, y5, y6, y7, y8, y9⟩ := Ga.ten kT7
        obtain ⟨r0, r1, r2, r3, r4, r5, r6, r7, r8, r9⟩ := Ga.ten kR7
        obtain ⟨u0, u1, u2, u3, u4, u5⟩ := Ea.six k8
        have fT7 := Pl.Bl.free kT7
        clear kT kR hC lT7 lR7 r0 r1 r2 r3 r4 r5 r6 r7 r8 r9 n07 n03 n70 n30
        go_upto_region 13 with fail
        obtain ⟨W9, hW9⟩ : ∃ W9, W9 = ((((W8.setCell ⟨w3.heap.size, 3, none⟩ (.int .i64 ep)).setCell ⟨w3.heap.size, 4, none⟩ (.int .i64 pr)).setCell ⟨w3.heap.size, 5, none⟩ (.slice aV V.length cV)).setCell ⟨w3.heap.size, 6, none⟩ (.slice aM M.length cM)).setCell ⟨w3.heap.size, 7, none⟩ (.slice aA A.length cA) := ⟨_, rfl⟩
        have k9 : W9.heap[w3.heap.size]? = some (.cells #[.int .i64 2, .int .i64 se, .int .i64 xi, .int .i64 ep, .int .i64 pr, .slice aV V.length cV, .slice aM M.length cM, .slice aA A.length cA, .bool false, .slice none 0 0] 30 (0, 0)) := by subst hW9; exact Ea.blk_same (Ea.blk_same (Ea.blk_same (Ea.blk_same (Ea.blk_same kT7))))
        have far9 : ∀ x, x ≠ w3.heap.size → W9.heap[x]? = W8.heap[x]? := fun x hx => by subst hW9; simp only [Va.set_far hx]
        have kR9 := (far9 w.heap.size (by have := NE.out; omega)).trans kR7
        have z9 : W9.heap.size = W8.heap.size := by subst hW9; simp
        have hC9 : Dr.Cur W9 g a b off cap c := by subst hW9; repeat (first | with_reducible exact hC8 | refine Dr.cur_set (B := w.heap.size) ?_ (by have := NE.out; omega) hg hbl)
        have hO9 : Mk.Only g w W9 := by subst hW9; repeat (first | with_reducible exact hO8 | refine Dr.only_set ?_ (by have := NE.out; omega))
        rw [← hW9]
        have OK9 : Hid (Ea.Ent.Ok W9 ⟨ep, pr, V, M, A, 0, aV, bV, oV, cV, aM, bM, oM, cM, aA, bA, oA, cA⟩) := Va.ok_keep OK8.out fun x hx hl => far9 x (by have := INF.out x hx; have := NE.out; omega)
        clear hW9 far9 hC8 hO8 k8 kT7 kR7 fT7 OK8 y0 y1 y2 y3 y4 y5 y6 y7 y8 y9 u0 u1 u2 u3 u4 u5 n37 n73
        obtain ⟨y0, y1, y2, y3, y4, y5, y6, y7, y8, y9⟩ := Ga.ten k9
        obtain ⟨r0, r1, r2, r3, r4, r5, r6, r7, r8, r9⟩ := Ga.ten kR9
        have fR9 := Pl.Bl.free kR9
        have n30 : ¬ w3.heap.size = w.heap.size := by have := NE.out; omega
        have n03 : ¬ w.heap.size = w3.heap.size := by have := NE.out; omega
        go_wp2
        refine bodyPost_ret (v := .agg #[.int .i64 2, .int .i64 se, .int .i64 xi, .int .i64 ep, .int .i64 pr, .slice aV V.length cV, .slice aM M.length cM, .slice aA A.length cA, .bool false, .slice none 0 0]) (by simp [results, Try.results75, go_sem, r0, r1, r2, r3, r4, r5, r6, r7, r8, r9]) rfl ⟨⟨2, se, xi, ⟨ep, pr, V, M, A, 0, aV, bV, oV, cV, aM, bM, oM, cM, aA, bA, oA, cA⟩, false, [], none, w.heap.size, 0, 0⟩, ?_, ?_, ?_, ?_, ?_⟩
        · simp [Ga.Msg.vals]
        · refine ⟨Va.ok_keep OK9.out fun x hx hl => ?_, rfl, ⟨fun h => by simp at h, fun i h => by simp at h, by simp⟩, wide_nil⟩
          have q := INF.out x hx
          have nn := NE.out
          have n1 : x ≠ w3.heap.size := by omega
          have n2 : x ≠ w.heap.size := by omega
          simp only [Va.set_far n1, Va.set_far n2]
        · repeat (first | with_reducible exact hC9 | refine Dr.cur_set (B := w.heap.size) ?_ (by omega) hg hbl | refine Dr.cur_alloc ?_ _)
        · repeat (first | with_reducible exact hO9 | refine Dr.only_set ?_ (by omega) | refine Dr.only_alloc ?_ _)
        · rintro x ((h | h | h) | h) <;> first | exact Nat.le_of_eq h.symm | (have q := INF.out x (.inl h); have n := NE.out; omega) | (have q := INF.out x (.inr (.inl h)); have n := NE.out; omega) | (have q := INF.out x (.inr (.inr h)); have n := NE.out; omega) | (have h2 : x = gH := h; omega)
      have b2 : (kd == 2) = false := by simp [k2]
      by_cases k3 : kd = 3
      · subst k3
        go_wp2_with (go_at_call 74; refine (Dr.below_any _ _ _ _ _ _ 5 _ hC (by omega) (by omega)).mono ?_; rintro e w7 ⟨x7, rfl, _, _, hC7, hO⟩; have kT7 := (hO.block _ lT (by simp; omega)).trans kT; have kR7 := (hO.block _ lR2 (by simp; omega)).trans kR; replace hO0 := Dr.only_trans hO0 hO; have s7 := hO.size; clear hO y0 y1 y2 y3 y4 y5 y6 y7 y8 y9 r0 r1 r2 r3 r4 r5 r6 r7 r8 r9; obtain ⟨y0, y1, y2, y3, y4, y5, y6, y7, y8, y9⟩ := Ga.ten kT7; obtain ⟨r0, r1, r2, r3, r4, r5, r6, r7, r8, r9⟩ := Ga.ten kR7; have fT7 := Pl.Bl.free kT7; have fR7 := Pl.Bl.free kR7)
        refine bodyPost_ret (v := .agg #[.int .i64 3, .int .i64 se, .int .i64 xi, .int .i64 x7, .int .i64 0, .slice none 0 0, .slice none 0 0, .slice none 0 0, .bool false, .slice none 0 0]) (by simp [results, Try.results75, go_sem, r0, r1, r2, r3, r4, r5, r6, r7, r8, r9]) rfl ⟨⟨3, se, xi, ⟨x7, 0, [], [], [], 0, none, w.heap.size, 0, 0, none, w.heap.size, 0, 0, none, w.heap.size, 0, 0⟩, false, [], none, w.heap.size, 0, 0⟩, ?_, ?_, ?_, ?_, ?_⟩
        · simp [Ga.Msg.vals]
        · exact ⟨⟨⟨fun h => by simp at h, fun i h => by simp at h, by simp⟩, ⟨fun h => by simp at h, fun i h => by simp at h, by simp⟩, ⟨fun h => by simp at h, fun i h => by simp at h, by simp⟩, wide_nil, wide_nil⟩, rfl, ⟨fun h => by simp at h, fun i h => by simp at h, by simp⟩, wide_nil⟩
        · repeat (first | with_reducible exact hC7 | refine Dr.cur_set (B := w.heap.size) ?_ (by omega) hg hbl | refine Dr.cur_alloc ?_ _)
        · repeat (first | with_reducible exact hO0 | refine Dr.only_set ?_ (by omega) | refine Dr.only_alloc ?_ _)
        · rintro x ((h | h | h) | h) <;> first | exact Nat.le_of_eq h.symm | (have q := INF.out x (.inl h); have n := NE.out; omega) | (have q := INF.out x (.inr (.inl h)); have n := NE.out; omega) | (have q := INF.out x (.inr (.inr h)); have n := NE.out; omega) | (have h2 : x = gH := h; omega)
      have b3 : (kd == 3) = false := by simp [k3]
      by_cases k5 : kd = 5
      · subst k5
        go_wp2_with (first
          | (go_at_call 74; refine (Dr.below_any _ _ _ _ _ _ 2 _ hC (by omega) (by omega)).mono ?_; rintro e w7 ⟨x7, rfl, _, _, hC7, hO⟩; have kT7 := (hO.block _ lT (by simp; omega)).trans kT; have kR7 := (hO.block _ lR2 (by simp; omega)).trans kR; replace hO0 := Dr.only_trans hO0 hO; have s7 := hO.size; clear hO y0 y1 y2 y3 y4 y5 y6 y7 y8 y9 r0 r1 r2 r3 r4 r5 r6 r7 r8 r9; obtain ⟨y0, y1, y2, y3, y4, y5, y6, y7, y8, y9⟩ := Ga.ten kT7; obtain ⟨r0, r1, r2, r3, r4, r5, r6, r7, r8, r9⟩ := Ga.ten kR7; have fT7 := Pl.Bl.free kT7; have fR7 := Pl.Bl.free kR7; have hC8 := Dr.cur_set (B := w.heap.size) (p := w3.heap.size) (o := 8) (u := .bool (x7 == 0)) hC7 (by omega) hg hbl; have kT8 := (set1 (u := .bool (x7 == 0)) kT7).2.2.2; have kR8 := Ea.blk_other (g' := w3.heap.size) (i := 8) (u := .bool (x7 == 0)) kR7 (by omega))
          | (go_at_call 139; refine (Hw2.head_wide _ _ _ _ _ _ _ hC8).mono ?_; rintro e w9 ⟨gH, H, rfl, mH, lH, wH, zH, hC9, hO⟩; have kT9 := (hO.block _ (by simp; omega) (by simp; omega)).trans kT8; have kR9 := (hO.block _ (by simp; omega) (by simp; omega)).trans kR8; replace hO0 := Dr.only_trans (Dr.only_set hO0 (by omega)) hO; simp at zH; clear hO y0 y1 y2 y3 y4 y5 y6 y7 y8 y9 r0 r1 r2 r3 r4 r5 r6 r7 r8 r9; obtain ⟨y0, y1, y2, y3, y4, y5, y6, y7, y8, y9⟩ := Ga.ten kT9; obtain ⟨r0, r1, r2, r3, r4, r5, r6, r7, r8, r9⟩ := Ga.ten kR9; have fT9 := Pl.Bl.free kT9; have fR9 := Pl.Bl.free kR9))
        refine bodyPost_ret (v := .agg #[.int .i64 5, .int .i64 se, .int .i64 xi, .int .i64 0, .int .i64 0, .slice none 0 0, .slice none 0 0, .slice none 0 0, .bool (x7 == 0), .slice (some ⟨gH, 0, none⟩) 8 8]) (by simp [results, Try.results75, go_sem, r0, r1, r2, r3, r4, r5, r6, r7, r8, r9]) rfl ⟨⟨5, se, xi, ⟨0, 0, [], [], [], 0, none, w.heap.size, 0, 0, none, w.heap.size, 0, 0, none, w.heap.size, 0, 0⟩, x7 == 0, H, some ⟨gH, 0, none⟩, gH, 0, 8⟩, ?_, ?_, ?_, ?_, ?_⟩
        · simp [Ga.Msg.vals, lH]
        · have lH2 := lH
          have mF : Hr.Rd w9 (some ⟨gH, 0, none⟩) gH 0 H := mH.rd
          refine ⟨⟨⟨fun h => by simp at h, fun i h => by simp at h, by simp⟩, ⟨fun h => by simp at h, fun i h => by simp at h, by simp⟩, ⟨fun h => by simp at h, fun i h => by simp at h, by simp⟩, wide_nil, wide_nil⟩, rfl, ⟨fun _ => rfl, fun i hi => ?_, mF.size⟩, wH⟩
          have n1 : gH ≠ w3.heap.size := by omega
          have n2 : gH ≠ w.heap.size := by omega
          refine (World.cell?_of_block ?_).trans (mF.cell i hi)
          simp only [Va.set_far n1, Va.set_far n2]
        · repeat (first | with_reducible exact hC9 | refine Dr.cur_set (B := w.heap.size) ?_ (by omega) hg hbl | refine Dr.cur_alloc ?_ _)
        · repeat (first | with_reducible exact hO0 | refine Dr.only_set ?_ (by omega) | refine Dr.only_alloc ?_ _)
        · rintro x ((h | h | h) | h) <;> first | exact Nat.le_of_eq h.symm | (have q := INF.out x (.inl h); have n := NE.out; omega) | (have q := INF.out x (.inr (.inl h)); have n := NE.out; omega) | (have q := INF.out x (.inr (.inr h)); have n := NE.out; omega) | (have h2 : x = gH := h; omega)
      have b5 : (kd == 5) = false := by simp [k5]
      · go_wp2
        refine bodyPost_ret (v := .agg #[.int .i64 kd, .int .i64 se, .int .i64 xi, .int .i64 0, .int .i64 0, .slice none 0 0, .slice none 0 0, .slice none 0 0, .bool false, .slice none 0 0]) (by simp [results, Try.results75, go_sem, r0, r1, r2, r3, r4, r5, r6, r7, r8, r9]) rfl ⟨⟨kd, se, xi, ⟨0, 0, [], [], [], 0, none, w.heap.size, 0, 0, none, w.heap.size, 0, 0, none, w.heap.size, 0, 0⟩, false, [], none, w.heap.size, 0, 0⟩, ?_, ?_, ?_, ?_, ?_⟩
        · simp [Ga.Msg.vals]
        · exact ⟨⟨⟨fun h => by simp at h, fun i h => by simp at h, by simp⟩, ⟨fun h => by simp at h, fun i h => by simp at h, by simp⟩, ⟨fun h => by simp at h, fun i h => by simp at h, by simp⟩, wide_nil, wide_nil⟩, rfl, ⟨fun h => by simp at h, fun i h => by simp at h, by simp⟩, wide_nil⟩
        · repeat (first | with_reducible exact hC | refine Dr.cur_set (B := w.heap.size) ?_ (by omega) hg hbl | refine Dr.cur_alloc ?_ _)
        · repeat (first | with_reducible exact hO0 | refine Dr.only_set ?_ (by omega) | refine Dr.only_alloc ?_ _)
        · rintro x ((h | h | h) | h) <;> first | exact Nat.le_of_eq h.symm | (have q := INF.out x (.inl h); have n := NE.out; omega) | (have q := INF.out x (.inr (.inl h)); have n := NE.out; omega) | (have q := INF.out x (.inr (.inr h)); have n := NE.out; omega) | (have h2 : x = gH := h; omega)

end Go.Proofs.Ytcbhpmgjmpbpmaa.Tc
