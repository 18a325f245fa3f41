/-
  Contracts laid together (Mz, Ta).
-/
import Derived.Test.YtcbhpmgjmpbpmaaPma
import Derived.Deep.RegionHeld3
import Derived.Deep.Cut
namespace Go.Proofs.Ytcbhpmgjmpbpmaa.Mz
set_option maxRecDepth 8000
set_option linter.unusedSimpArgs false
set_option linter.unusedVariables false
open Go Go.RowKit
open Num Pl Hr Hh Pq Ht Yh Yl Yu Hw2 My

theorem two {w : World} {g : Nat} {x0 x1 : Value} {t : TypeId} (k : w.heap[g]? = some (.cells #[x0, x1] t (0, 0))) : w.cell? ⟨g, 0, none⟩ = some x0 ∧ w.cell? ⟨g, 1, none⟩ = some x1 := by
  simp [World.cell?, k]
theorem set20 {w : World} {g : Nat} {x0 x1 u : Value} {t : TypeId} (k : w.heap[g]? = some (.cells #[x0, x1] t (0, 0))) : (w.setCell ⟨g, 0, none⟩ u).heap[g]? = some (.cells #[u, x1] t (0, 0)) := by
  simp [World.setCell, Array.getElem?_modify, k]
theorem set21 {w : World} {g : Nat} {x0 x1 u : Value} {t : TypeId} (k : w.heap[g]? = some (.cells #[x0, x1] t (0, 0))) : (w.setCell ⟨g, 1, none⟩ u).heap[g]? = some (.cells #[x0, u] t (0, 0)) := by
  simp [World.setCell, Array.getElem?_modify, k]
theorem wide_and (x y : Int) : Pm.I64 (bits .and .i64 x y) := by
  simp only [bits]
  rw [IntKind.wrap_i64]
  constructor <;> omega
theorem full_wide {f : Nat} (h : f < 8) : Pm.I64 (Mp.fullI f) := by
  rcases Hs.k8 h with rfl | rfl | rfl | rfl | rfl | rfl | rfl | rfl <;> (constructor <;> decide)
theorem wide_nul : Po.Wide (Pm.lst Pa.nul) := wide8 (by constructor <;> decide) (by constructor <;> decide) (by constructor <;> decide) (by constructor <;> decide) (by constructor <;> decide) (by constructor <;> decide) (by constructor <;> decide) (by constructor <;> decide)
/-- A match of two rows of 8 numbers is handed back, in memory of the call's own, and the cursor goes on. -/
def MatD (w : World) (g : Nat) (a : Option Addr) (b off cap : Nat) (c : List Int) (e : Ending) (w' : World) : Prop :=
  ∃ gV gM V M, e = .returned (.agg #[sl gV, sl gM]) ∧ Hr.Mine w' gV V ∧ Hr.Mine w' gM M ∧ V.length = 8 ∧ M.length = 8 ∧ Po.Wide V ∧ Po.Wide M ∧ w.heap.size ≤ gV ∧ w.heap.size ≤ gM ∧ gV ≠ gM ∧ Dr.Cur w' g a b off cap c ∧ Mk.Only g w w'

set_option maxHeartbeats 8000000 in
theorem match_any (g : Nat) (a : Option Addr) (b off cap : Nat) (c : List Int) (w : World) (h : Dr.Cur w g a b off cap c) :
    Calls Try.prog 195 #[.pointer (some ⟨g, 0, none⟩)] w (MatD w g a b off cap c) := by
  obtain ⟨W0, hW0⟩ : ∃ W0, W0 = w.alloc (.cells #[.slice none 0 0, .slice none 0 0] 25) := ⟨_, rfl⟩
  have hg := Dr.cur_lt h
  have hbl := Dr.rd_lt h.rd
  have hC0 : Dr.Cur W0 g a b off cap c := by subst hW0; exact Dr.cur_alloc h _
  have k0 : W0.heap[w.heap.size]? = some (.cells #[.slice none 0 0, .slice none 0 0] 25 (0, 0)) := by subst hW0; exact at_new rfl
  have hO0 : Mk.Only g w W0 := by subst hW0; exact Dr.only_alloc (Mk.Only.refl _ _) _
  have z0 : w.heap.size < W0.heap.size := by subst hW0; simp
  clear h
  go_enter Try.func195, Try.ntmps195
  have t1 : True := trivial
  go_wp2_with (go_at_call 96; clear t1; rw [← hW0]; refine (Mr.allS_mine _).mono ?_; rintro e w1 ⟨gV, gM, rfl, mV, mM, hgV, hgM, hne, hb⟩; clear hW0; replace hC0 := Dr.cur_keep hC0 (fun k hk => hb.block k hk) (Dr.cur_lt hC0) (Dr.rd_lt hC0.rd); replace k0 := (hb.block _ z0).trans k0; replace hO0 := only_below hO0 hb; have z1 := hb.size; clear hb)
  have lV1 := mV.row.lt
  have lM1 := mM.row.lt
  obtain ⟨W2, hW2⟩ : ∃ W2, W2 = w1.alloc (.cells #[sl gV, sl gM] 25) := ⟨_, rfl⟩
  have kM : W2.heap[w1.heap.size]? = some (.cells #[sl gV, sl gM] 25 (0, 0)) := by subst hW2; exact at_new rfl
  have b2 : Below w1.heap.size w1 W2 := by subst hW2; exact below_alloc1 _ _
  replace hC0 := Dr.cur_keep hC0 (fun k hk => b2.block k hk) (Dr.cur_lt hC0) (Dr.rd_lt hC0.rd)
  replace k0 := (b2.block _ (by omega)).trans k0
  replace hO0 := only_below hO0 b2
  replace mV := mV.below b2
  replace mM := mM.below b2
  have z2 := (Array.getElem?_eq_some_iff.1 kM).1
  clear b2
  have t1 : True := trivial
  go_wp2_with (go_at_call 139; clear t1; rw [← hW2]; refine (head_wide _ _ _ _ _ _ _ hC0).mono ?_; rintro e w3 ⟨gH, H, rfl, mH, lH, wH, hgH, hC3, hO'⟩; clear hW2; replace k0 := (hO'.block _ (by omega) (by simp; omega)).trans k0; replace kM := (hO'.block _ z2 (by simp; omega)).trans kM; replace mV := own_onlyN mV hO' (by omega); replace mM := own_onlyN mM hO' (by omega); replace hO0 := Dr.only_trans hO0 hO'; have z3 := hO'.size; clear hO' hC0)
  have lH1 := mH.row.lt
  obtain ⟨W4, hW4⟩ : ∃ W4, W4 = w3.alloc (.cells #[sl gH] 28) := ⟨_, rfl⟩
  have kX : W4.heap[w3.heap.size]? = some (.cells #[sl gH] 28 (0, 0)) := by subst hW4; exact at_new rfl
  have b2 : Below w3.heap.size w3 W4 := by subst hW4; exact below_alloc1 _ _
  have i : My.Inv w W4 g a b off cap c w1.heap.size w3.heap.size gV gM gH H (Pm.lst Pa.nul) (Pm.lst Pa.nul) :=
    ⟨(b2.block _ (by omega)).trans k0, (b2.block _ (by omega)).trans kM, kX, mV.below b2, mM.below b2, mH.below b2, Pm.lst_len _, Pm.lst_len _, lH, wide_nul, wide_nul, wH, Dr.cur_keep hC3 (fun k hk => b2.block k hk) (Dr.cur_lt hC3) (Dr.rd_lt hC3.rd), only_below hO0 b2⟩
  have hL : Lie w g w1.heap.size w3.heap.size gV gM gH := ⟨hg, by omega, by omega, hne, lV1, lM1, by omega, lH1⟩
  obtain ⟨V0, hV0⟩ : ∃ V0, V0 = Pm.lst Pa.nul := ⟨_, rfl⟩
  rw [← hV0] at i
  clear kX b2 k0 kM mV mM mH lH wH hC3 hO0 hV0 lV1 lM1 lH1 z0 z1 z2 z3 hgV hgM hne hgH
  have t1 : True := trivial
  go_wp2_with (go_at_call 74; clear t1; rw [← hW4]; refine (Dr.below_any _ _ _ _ _ _ 4 _ i.cur (by omega) (by omega)).mono ?_; rintro e w5 ⟨x, rfl, x0, x1, hC', hO'⟩; replace i := i.step hL hO' hC'; clear hC' hO' hW4)
  generalize w1.heap.size = gm at *
  generalize w3.heap.size = gx at *
  obtain ⟨n, hn⟩ : ∃ n : Nat, x = n := ⟨x.toNat, by omega⟩
  subst hn
  go_loopw [5, 6, 7] (fun v _ _ wr => ∃ (k : Nat) (V M : List Int), k ≤ 3 ∧ v = .int .i64 k ∧ My.Inv w wr g a b off cap c gm gx gV gM gH H V M) (fun v _ _ _ => (intOf v).toNat)
  case atStart => exact ⟨n, V0, V0, by omega, rfl, i⟩
  case round =>
    clear i
    obtain ⟨k, V, M, hk, rfl, i⟩ := hrel
    by_cases hk0 : 0 < k
    · have hkz : 0 < (k : Int) := by omega
      obtain ⟨K, hK⟩ : ∃ K, k = K + 1 := ⟨k - 1, by omega⟩
      have t1 : True := trivial
      go_wp2_with (go_at_call 74; clear t1; refine (Dr.below_any _ _ _ _ _ _ 8 _ i.cur (by omega) (by omega)).mono ?_; rintro e w6 ⟨f, rfl, f0, f1, hC', hO'⟩; replace i := i.step hL hO' hC'; clear hC' hO')
      have t1 : True := trivial
      go_wp2_with (go_at_call 74; clear t1; refine (Dr.below_any _ _ _ _ _ _ 4 _ i.cur (by omega) (by omega)).mono ?_; rintro e wA ⟨q, rfl, q0, q1, hC', hO'⟩; replace i := i.step hL hO' hC'; clear hC' hO')
      · have t1 : True := trivial
        go_wp2_with (go_at_call 74; clear t1; refine (Dr.below_any _ _ _ _ _ _ 2 _ i.cur (by omega) (by omega)).mono ?_; rintro e wA ⟨y, rfl, y0, y1, hC', hO'⟩; replace i := i.step hL hO' hC'; clear hC' hO')
        obtain ⟨F, hF⟩ : ∃ F : Nat, 1 + y = F := ⟨(1 + y).toNat, by omega⟩
        have hF8 : F < 8 := by omega
        rw [hF]
        clear hF
        have hFz : (F : Int) < 8 := by omega
        refine wp_region_held_drew (S := (fun w' => w'.heap[gm]? = some (.cells #[sl gV, sl gM] 25 (0, 0)))) (by kernel_rfl) i.kM (fun hHeld => ?_)
        refine take (i := 0) (d := some 25) (v := .pointer (some ⟨gm, 1, none⟩)) rfl (by kernel_rfl) (by kernel_rfl) (by kernel_rfl) (by kernel_rfl) (fun _ _ _ h => h) (Or.inl ⟨by rfl, by intro w hSw; go_simp⟩) hHeld ?_
        simp only [Act.put, List.setIfInBounds_toArray, List.set_cons_zero, List.set_cons_succ]
        refine take (i := 1) (d := some 26) (v := .slice (some ⟨gM, 0, none⟩) 8 8) rfl (by kernel_rfl) (by kernel_rfl) (by kernel_rfl) (by kernel_rfl) (fun _ _ _ h => h) (Or.inl ⟨by rfl, by intro w hSw; obtain ⟨q1, q2⟩ := two hSw; go_simp⟩) hHeld ?_
        simp only [Act.put, List.setIfInBounds_toArray, List.set_cons_zero, List.set_cons_succ]
        refine take (i := 2) (d := some 27) (v := .int .i64 F) rfl (by kernel_rfl) (by kernel_rfl) (by kernel_rfl) (by kernel_rfl) (fun _ _ _ h => h) (Or.inl ⟨by rfl, by intro w hSw; go_simp⟩) hHeld ?_
        simp only [Act.put, List.setIfInBounds_toArray, List.set_cons_zero, List.set_cons_succ]
        refine take (i := 3) (d := some 28) (v := .int .i64 F) rfl (by kernel_rfl) (by kernel_rfl) (by kernel_rfl) (by kernel_rfl) (fun _ _ _ h => h) (Or.inl ⟨by rfl, by intro w hSw; go_simp⟩) hHeld ?_
        simp only [Act.put, List.setIfInBounds_toArray, List.set_cons_zero, List.set_cons_succ]
        refine wpAnyH_ready (rs := [4]) (by kernel_rfl) (by simp) (Rg.call1 (i := 4) rfl (by kernel_rfl) 207 (.tmp 28) 3 (by kernel_rfl) 29 (by kernel_rfl) (.int .i64 F) (by kernel_rfl) (fun _ => rfl) (Mu.fullS_any F hF8 _) ?_ AllReadyH.nil)
        rintro e wB ⟨rfl, hb⟩
        replace i := (i.drew hL).below hL hb
        clear hb
        refine ⟨_, rfl, i.kM, fun hHeld => ?_⟩
        simp only [Act.put, List.setIfInBounds_toArray, List.set_cons_zero, List.set_cons_succ]
        obtain ⟨m0, hm0⟩ : ∃ m0 : Int, m0 = Mp.fullI F := ⟨_, rfl⟩
        have hm1 : Pm.I64 m0 := by rw [hm0]; exact full_wide hF8
        rw [← hm0]
        clear hm0
        refine take (i := 5) (d := some 30) (v := .pointer (some ⟨gM, F, none⟩)) rfl (by kernel_rfl) (by kernel_rfl) (by kernel_rfl) (by kernel_rfl) (fun _ _ _ h => h) (Or.inl ⟨by rfl, by intro w hSw; go_simp⟩) hHeld ?_
        simp only [Act.put, List.setIfInBounds_toArray, List.set_cons_zero, List.set_cons_succ]
        obtain ⟨cM, fM⟩ := i.cellM hF8
        refine wpAnyH_ready (rs := [6]) (by kernel_rfl) (by simp) (readySkip (i := 6) rfl (by kernel_rfl) none (by kernel_rfl) (w' := wB.setCell ⟨gM, F, none⟩ (.int .i64 m0)) (by go_simp) (i.setM hL hbl hm1).kM (fun hHeld => ?_) AllReadyH.nil)
        simp only [Act.put, List.setIfInBounds_toArray, List.set_cons_zero, List.set_cons_succ]
        refine wpAnyH_done (by kernel_rfl) ?_ _
        clear cM fM
        replace i := i.setM hL hbl (F := F) hm1
        have hmF : (M.set F m0).getD F 0 = m0 := by have := i.lM; rw [List.length_set] at this; simp [List.getD, this, hF8]
        generalize wB.setCell ⟨gM, F, none⟩ (.int .i64 m0) = wC at *
        have t1 : True := trivial
        go_wp2_with (go_at_call 74; clear t1; refine (Dr.below_any _ _ _ _ _ _ 6 _ i.cur (by omega) (by omega)).mono ?_; rintro e wD ⟨u, rfl, u0, u1, hC', hO'⟩; replace i := i.step hL hO' hC'; clear hC' hO')
        · obtain ⟨m1, cM, wM1⟩ : ∃ m1 : Int, wD.cell? ⟨gM, F, none⟩ = some (.int .i64 m1) ∧ Pm.I64 m1 := ⟨_, (i.cellM hF8).1, i.wM F⟩
          refine wp_region_held_drew (S := (fun w' => w'.heap[gm]? = some (.cells #[sl gV, sl gM] 25 (0, 0)))) (by kernel_rfl) i.kM (fun hHeld => ?_)
          have cMd : wD.drew.cell? ⟨gM, F, none⟩ = some (.int .i64 m1) := cM
          clear cM
          replace i := i.drew hL
          have lm := hL.m
          generalize wD.drew = wD' at *
          refine take (i := 0) (d := some 35) (v := .pointer (some ⟨gm, 1, none⟩)) rfl (by kernel_rfl) (by kernel_rfl) (by kernel_rfl) (by kernel_rfl) (fun _ _ _ h => h) (Or.inl ⟨by rfl, by intro w hSw; go_simp⟩) hHeld ?_
          simp only [Act.put, List.setIfInBounds_toArray, List.set_cons_zero, List.set_cons_succ]
          refine take (i := 1) (d := some 36) (v := .slice (some ⟨gM, 0, none⟩) 8 8) rfl (by kernel_rfl) (by kernel_rfl) (by kernel_rfl) (by kernel_rfl) (fun _ _ _ h => h) (Or.inl ⟨by rfl, by intro w hSw; obtain ⟨q1, q2⟩ := two hSw; go_simp⟩) hHeld ?_
          simp only [Act.put, List.setIfInBounds_toArray, List.set_cons_zero, List.set_cons_succ]
          refine take (i := 2) (d := some 37) (v := .int .i64 F) rfl (by kernel_rfl) (by kernel_rfl) (by kernel_rfl) (by kernel_rfl) (fun _ _ _ h => h) (Or.inl ⟨by rfl, by intro w hSw; go_simp⟩) hHeld ?_
          simp only [Act.put, List.setIfInBounds_toArray, List.set_cons_zero, List.set_cons_succ]
          refine take (i := 3) (d := some 38) (v := .pointer (some ⟨gm, 1, none⟩)) rfl (by kernel_rfl) (by kernel_rfl) (by kernel_rfl) (by kernel_rfl) (fun _ _ _ h => h) (Or.inl ⟨by rfl, by intro w hSw; go_simp⟩) hHeld ?_
          simp only [Act.put, List.setIfInBounds_toArray, List.set_cons_zero, List.set_cons_succ]
          refine take (i := 4) (d := some 39) (v := .slice (some ⟨gM, 0, none⟩) 8 8) rfl (by kernel_rfl) (by kernel_rfl) (by kernel_rfl) (by kernel_rfl) (fun _ _ _ h => h) (Or.inl ⟨by rfl, by intro w hSw; obtain ⟨q1, q2⟩ := two hSw; go_simp⟩) hHeld ?_
          simp only [Act.put, List.setIfInBounds_toArray, List.set_cons_zero, List.set_cons_succ]
          refine take (i := 5) (d := some 40) (v := .int .i64 F) rfl (by kernel_rfl) (by kernel_rfl) (by kernel_rfl) (by kernel_rfl) (fun _ _ _ h => h) (Or.inl ⟨by rfl, by intro w hSw; go_simp⟩) hHeld ?_
          simp only [Act.put, List.setIfInBounds_toArray, List.set_cons_zero, List.set_cons_succ]
          refine take (i := 6) (d := some 41) (v := .pointer (some ⟨gM, F, none⟩)) rfl (by kernel_rfl) (by kernel_rfl) (by kernel_rfl) (by kernel_rfl) (fun _ _ _ h => h) (Or.inl ⟨by rfl, by intro w hSw; go_simp⟩) hHeld ?_
          simp only [Act.put, List.setIfInBounds_toArray, List.set_cons_zero, List.set_cons_succ]
          refine take (i := 8) (d := some 43) (v := .pointer (some ⟨g, 0, none⟩)) rfl (by kernel_rfl) (by kernel_rfl) (by kernel_rfl) (by kernel_rfl) (fun _ _ _ h => h) (Or.inl ⟨by rfl, by intro w hSw; go_simp⟩) hHeld ?_
          simp only [Act.put, List.setIfInBounds_toArray, List.set_cons_zero, List.set_cons_succ]
          refine wpAnyH_ready (rs := [7, 9]) (by kernel_rfl) (by simp) (readyRun (i := 7) rfl (by kernel_rfl) (some 42) (by kernel_rfl) (v := .int .i64 m1) (w' := wD') (by go_simp) i.kM (fun hHeld => ?_) (Rg.call2 (i := 9) rfl (by kernel_rfl) 74 (.tmp 43) (.const (.int .i64 8)) 98 3 (by kernel_rfl) 44 (by kernel_rfl) (.pointer (some ⟨g, 0, none⟩)) (.int .i64 8) (by kernel_rfl) (by kernel_rfl) (fun _ => rfl) (Dr.below_any _ _ _ _ _ _ 8 _ i.cur (by omega) (by omega)) ?_ AllReadyH.nil))
          · simp only [Act.put, List.setIfInBounds_toArray, List.set_cons_zero, List.set_cons_succ]
            refine wpAnyH_ready (rs := [9]) (by kernel_rfl) (by simp) (Rg.call2 (i := 9) rfl (by kernel_rfl) 74 (.tmp 43) (.const (.int .i64 8)) 98 3 (by kernel_rfl) 44 (by kernel_rfl) (.pointer (some ⟨g, 0, none⟩)) (.int .i64 8) (by kernel_rfl) (by kernel_rfl) (fun _ => rfl) (Dr.below_any _ _ _ _ _ _ 8 _ i.cur (by omega) (by omega)) ?_ AllReadyH.nil)
            rintro e wH ⟨z, rfl, zz0, zz1, hC', hO'⟩
            have cMh := (World.cell?_of_block (hO'.block gM i.mM.row.lt (by have := hL.g; simp; omega)) (a := ⟨gM, F, none⟩)).trans cMd
            replace i := i.step hL hO' hC'
            clear hC' hO' cMd
            refine ⟨_, rfl, i.kM, fun hHeld => ?_⟩
            simp only [Act.put, List.setIfInBounds_toArray, List.set_cons_zero, List.set_cons_succ]
            obtain ⟨s1, es1⟩ : ∃ s1 : Int, s1 = IntKind.i64.wrap (m1 - z) := ⟨_, rfl⟩
            have hs1 : Pm.I64 s1 := by rw [es1, IntKind.wrap_i64]; constructor <;> omega
            refine take (i := 10) (d := some 45) (v := .int .i64 s1) rfl (by kernel_rfl) (by kernel_rfl) (by kernel_rfl) (by kernel_rfl) (fun _ _ _ h => h) (Or.inl ⟨by rfl, by intro w hSw; rw [es1]; go_simp⟩) hHeld ?_
            simp only [Act.put, List.setIfInBounds_toArray, List.set_cons_zero, List.set_cons_succ]
            clear es1
            refine take (i := 11) (d := some 46) (v := .pointer (some ⟨gM, F, none⟩)) rfl (by kernel_rfl) (by kernel_rfl) (by kernel_rfl) (by kernel_rfl) (fun _ _ _ h => h) (Or.inl ⟨by rfl, by intro w hSw; go_simp⟩) hHeld ?_
            simp only [Act.put, List.setIfInBounds_toArray, List.set_cons_zero, List.set_cons_succ]
            obtain ⟨_, fM⟩ := i.cellM hF8
            refine wpAnyH_ready (rs := [12]) (by kernel_rfl) (by simp) (readySkip (i := 12) rfl (by kernel_rfl) none (by kernel_rfl) (w' := wH.setCell ⟨gM, F, none⟩ (.int .i64 s1)) (by go_simp) (i.setM hL hbl hs1).kM (fun hHeld => ?_) AllReadyH.nil)
            simp only [Act.put, List.setIfInBounds_toArray, List.set_cons_zero, List.set_cons_succ]
            refine wpAnyH_done (by kernel_rfl) ?_ _
            clear cMh fM
            replace i := i.setM hL hbl (F := F) hs1
            generalize wH.setCell ⟨gM, F, none⟩ (.int .i64 s1) = wG at *
            obtain rfl : u = 0 := eq_of_beq (by assumption)
            go_wp2
            obtain ⟨h1, cH⟩ : ∃ h1 : Int, wG.cell? ⟨gH, F, none⟩ = some (.int .i64 h1) := ⟨_, i.cellH hF8⟩
            obtain ⟨m1, cM⟩ : ∃ m1 : Int, wG.cell? ⟨gM, F, none⟩ = some (.int .i64 m1) := ⟨_, (i.cellM hF8).1⟩
            obtain ⟨cV, fV⟩ := i.cellV hF8
            have lv := hL.vm
            have l9 := hL.mv
            have l8 := hL.h
            have l7 := hL.x
            refine wp_region_held_drew (S := (fun w' => w'.heap[gm]? = some (.cells #[sl gV, sl gM] 25 (0, 0)) ∧ w'.heap[gx]? = some (.cells #[sl gH] 28 (0, 0)) ∧ w'.cell? ⟨gH, F, none⟩ = some (.int .i64 h1) ∧ w'.cell? ⟨gM, F, none⟩ = some (.int .i64 m1))) (by kernel_rfl) ⟨i.kM, i.kX, cH, cM⟩ (fun hHeld => ?_)
            refine take (i := 0) (d := some 56) (v := .pointer (some ⟨gm, 0, none⟩)) rfl (by kernel_rfl) (by kernel_rfl) (by kernel_rfl) (by kernel_rfl) (fun _ _ _ h => h) (Or.inl ⟨by rfl, by intro w hSw; go_simp⟩) hHeld ?_
            simp only [Act.put, List.setIfInBounds_toArray, List.set_cons_zero, List.set_cons_succ]
            refine take (i := 1) (d := some 57) (v := .slice (some ⟨gV, 0, none⟩) 8 8) rfl (by kernel_rfl) (by kernel_rfl) (by kernel_rfl) (by kernel_rfl) (fun _ _ _ h => h) (Or.inl ⟨by rfl, by intro w hSw; obtain ⟨q1, q2⟩ := two hSw.1; go_simp⟩) hHeld ?_
            simp only [Act.put, List.setIfInBounds_toArray, List.set_cons_zero, List.set_cons_succ]
            refine take (i := 2) (d := some 58) (v := .int .i64 F) rfl (by kernel_rfl) (by kernel_rfl) (by kernel_rfl) (by kernel_rfl) (fun _ _ _ h => h) (Or.inl ⟨by rfl, by intro w hSw; go_simp⟩) hHeld ?_
            simp only [Act.put, List.setIfInBounds_toArray, List.set_cons_zero, List.set_cons_succ]
            refine take (i := 3) (d := some 59) (v := .pointer (some ⟨gx, 0, none⟩)) rfl (by kernel_rfl) (by kernel_rfl) (by kernel_rfl) (by kernel_rfl) (fun _ _ _ h => h) (Or.inl ⟨by rfl, by intro w hSw; go_simp⟩) hHeld ?_
            simp only [Act.put, List.setIfInBounds_toArray, List.set_cons_zero, List.set_cons_succ]
            refine take (i := 4) (d := some 60) (v := .slice (some ⟨gH, 0, none⟩) 8 8) rfl (by kernel_rfl) (by kernel_rfl) (by kernel_rfl) (by kernel_rfl) (fun _ _ _ h => h) (Or.inl ⟨by rfl, by intro w hSw; have q1 := Hh.one hSw.2.1; go_simp⟩) hHeld ?_
            simp only [Act.put, List.setIfInBounds_toArray, List.set_cons_zero, List.set_cons_succ]
            refine take (i := 5) (d := some 61) (v := .int .i64 F) rfl (by kernel_rfl) (by kernel_rfl) (by kernel_rfl) (by kernel_rfl) (fun _ _ _ h => h) (Or.inl ⟨by rfl, by intro w hSw; go_simp⟩) hHeld ?_
            simp only [Act.put, List.setIfInBounds_toArray, List.set_cons_zero, List.set_cons_succ]
            refine take (i := 6) (d := some 62) (v := .pointer (some ⟨gH, F, none⟩)) rfl (by kernel_rfl) (by kernel_rfl) (by kernel_rfl) (by kernel_rfl) (fun _ _ _ h => h) (Or.inl ⟨by rfl, by intro w hSw; go_simp⟩) hHeld ?_
            simp only [Act.put, List.setIfInBounds_toArray, List.set_cons_zero, List.set_cons_succ]
            refine take (i := 7) (d := some 63) (v := .int .i64 h1) rfl (by kernel_rfl) (by kernel_rfl) (by kernel_rfl) (by kernel_rfl) (fun _ _ _ h => h) (Or.inl ⟨by rfl, by intro w hSw; have q1 := hSw.2.2.1; go_simp⟩) hHeld ?_
            simp only [Act.put, List.setIfInBounds_toArray, List.set_cons_zero, List.set_cons_succ]
            refine take (i := 8) (d := some 64) (v := .pointer (some ⟨gm, 1, none⟩)) rfl (by kernel_rfl) (by kernel_rfl) (by kernel_rfl) (by kernel_rfl) (fun _ _ _ h => h) (Or.inl ⟨by rfl, by intro w hSw; go_simp⟩) hHeld ?_
            simp only [Act.put, List.setIfInBounds_toArray, List.set_cons_zero, List.set_cons_succ]
            refine take (i := 9) (d := some 65) (v := .slice (some ⟨gM, 0, none⟩) 8 8) rfl (by kernel_rfl) (by kernel_rfl) (by kernel_rfl) (by kernel_rfl) (fun _ _ _ h => h) (Or.inl ⟨by rfl, by intro w hSw; obtain ⟨q1, q2⟩ := two hSw.1; go_simp⟩) hHeld ?_
            simp only [Act.put, List.setIfInBounds_toArray, List.set_cons_zero, List.set_cons_succ]
            refine take (i := 10) (d := some 66) (v := .int .i64 F) rfl (by kernel_rfl) (by kernel_rfl) (by kernel_rfl) (by kernel_rfl) (fun _ _ _ h => h) (Or.inl ⟨by rfl, by intro w hSw; go_simp⟩) hHeld ?_
            simp only [Act.put, List.setIfInBounds_toArray, List.set_cons_zero, List.set_cons_succ]
            refine take (i := 11) (d := some 67) (v := .pointer (some ⟨gM, F, none⟩)) rfl (by kernel_rfl) (by kernel_rfl) (by kernel_rfl) (by kernel_rfl) (fun _ _ _ h => h) (Or.inl ⟨by rfl, by intro w hSw; go_simp⟩) hHeld ?_
            simp only [Act.put, List.setIfInBounds_toArray, List.set_cons_zero, List.set_cons_succ]
            refine take (i := 12) (d := some 68) (v := .int .i64 m1) rfl (by kernel_rfl) (by kernel_rfl) (by kernel_rfl) (by kernel_rfl) (fun _ _ _ h => h) (Or.inl ⟨by rfl, by intro w hSw; have q1 := hSw.2.2.2; go_simp⟩) hHeld ?_
            simp only [Act.put, List.setIfInBounds_toArray, List.set_cons_zero, List.set_cons_succ]
            refine take (i := 13) (d := some 69) (v := .int .i64 (bits .and .i64 h1 m1)) rfl (by kernel_rfl) (by kernel_rfl) (by kernel_rfl) (by kernel_rfl) (fun _ _ _ h => h) (Or.inl ⟨by rfl, by intro w hSw; go_simp⟩) hHeld ?_
            simp only [Act.put, List.setIfInBounds_toArray, List.set_cons_zero, List.set_cons_succ]
            refine take (i := 14) (d := some 70) (v := .pointer (some ⟨gV, F, none⟩)) rfl (by kernel_rfl) (by kernel_rfl) (by kernel_rfl) (by kernel_rfl) (fun _ _ _ h => h) (Or.inl ⟨by rfl, by intro w hSw; go_simp⟩) hHeld ?_
            simp only [Act.put, List.setIfInBounds_toArray, List.set_cons_zero, List.set_cons_succ]
            have hx := wide_and h1 m1
            generalize bits .and .i64 h1 m1 = x1 at *
            refine wpAnyH_ready (rs := [15]) (by kernel_rfl) (by simp) (readySkip (i := 15) rfl (by kernel_rfl) none (by kernel_rfl) (w' := wG.drew.setCell ⟨gV, F, none⟩ (.int .i64 x1)) (by go_simp) ⟨((i.drew hL).setV hL hbl hx).kM, ((i.drew hL).setV hL hbl hx).kX, by rw [World.cell?_setCell_other _ _ _ _ (by simp <;> omega)]; exact cH, by rw [World.cell?_setCell_other _ _ _ _ (by simp <;> omega)]; exact cM⟩ (fun hHeld => ?_) AllReadyH.nil)
            simp only [Act.put, List.setIfInBounds_toArray, List.set_cons_zero, List.set_cons_succ]
            refine wpAnyH_done (by kernel_rfl) ?_ _
            replace i := (i.drew hL).setV hL hbl (F := F) hx
            clear cH cM cV fV
            generalize wG.drew.setCell ⟨gV, F, none⟩ (.int .i64 x1) = wE at *
            go_wp2
            go_roundw
            case rel => exact ⟨K, _, _, by omega, by first | go_num | (congr 1; omega), i⟩
            case measure => simp [intOf]; omega
          · rintro e wH ⟨z, rfl, zz0, zz1, hC', hO'⟩
            have cMh := (World.cell?_of_block (hO'.block gM i.mM.row.lt (by have := hL.g; simp; omega)) (a := ⟨gM, F, none⟩)).trans cMd
            replace i := i.step hL hO' hC'
            clear hC' hO' cMd
            refine ⟨_, rfl, i.kM, fun hHeld => ?_⟩
            simp only [Act.put, List.setIfInBounds_toArray, List.set_cons_zero, List.set_cons_succ]
            refine wpAnyH_ready (rs := [7]) (by kernel_rfl) (by simp) (readyRun (i := 7) rfl (by kernel_rfl) (some 42) (by kernel_rfl) (v := .int .i64 m1) (w' := wH) (by go_simp) i.kM (fun hHeld => ?_) AllReadyH.nil)
            simp only [Act.put, List.setIfInBounds_toArray, List.set_cons_zero, List.set_cons_succ]
            obtain ⟨s1, es1⟩ : ∃ s1 : Int, s1 = IntKind.i64.wrap (m1 - z) := ⟨_, rfl⟩
            have hs1 : Pm.I64 s1 := by rw [es1, IntKind.wrap_i64]; constructor <;> omega
            refine take (i := 10) (d := some 45) (v := .int .i64 s1) rfl (by kernel_rfl) (by kernel_rfl) (by kernel_rfl) (by kernel_rfl) (fun _ _ _ h => h) (Or.inl ⟨by rfl, by intro w hSw; rw [es1]; go_simp⟩) hHeld ?_
            simp only [Act.put, List.setIfInBounds_toArray, List.set_cons_zero, List.set_cons_succ]
            clear es1
            refine take (i := 11) (d := some 46) (v := .pointer (some ⟨gM, F, none⟩)) rfl (by kernel_rfl) (by kernel_rfl) (by kernel_rfl) (by kernel_rfl) (fun _ _ _ h => h) (Or.inl ⟨by rfl, by intro w hSw; go_simp⟩) hHeld ?_
            simp only [Act.put, List.setIfInBounds_toArray, List.set_cons_zero, List.set_cons_succ]
            obtain ⟨_, fM⟩ := i.cellM hF8
            refine wpAnyH_ready (rs := [12]) (by kernel_rfl) (by simp) (readySkip (i := 12) rfl (by kernel_rfl) none (by kernel_rfl) (w' := wH.setCell ⟨gM, F, none⟩ (.int .i64 s1)) (by go_simp) (i.setM hL hbl hs1).kM (fun hHeld => ?_) AllReadyH.nil)
            simp only [Act.put, List.setIfInBounds_toArray, List.set_cons_zero, List.set_cons_succ]
            refine wpAnyH_done (by kernel_rfl) ?_ _
            clear cMh fM
            replace i := i.setM hL hbl (F := F) hs1
            generalize wH.setCell ⟨gM, F, none⟩ (.int .i64 s1) = wG at *
            obtain rfl : u = 0 := eq_of_beq (by assumption)
            go_wp2
            obtain ⟨h1, cH⟩ : ∃ h1 : Int, wG.cell? ⟨gH, F, none⟩ = some (.int .i64 h1) := ⟨_, i.cellH hF8⟩
            obtain ⟨m1, cM⟩ : ∃ m1 : Int, wG.cell? ⟨gM, F, none⟩ = some (.int .i64 m1) := ⟨_, (i.cellM hF8).1⟩
            obtain ⟨cV, fV⟩ := i.cellV hF8
            have lv := hL.vm
            have l9 := hL.mv
            have l8 := hL.h
            have l7 := hL.x
            refine wp_region_held_drew (S := (fun w' => w'.heap[gm]? = some (.cells #[sl gV, sl gM] 25 (0, 0)) ∧ w'.heap[gx]? = some (.cells #[sl gH] 28 (0, 0)) ∧ w'.cell? ⟨gH, F, none⟩ = some (.int .i64 h1) ∧ w'.cell? ⟨gM, F, none⟩ = some (.int .i64 m1))) (by kernel_rfl) ⟨i.kM, i.kX, cH, cM⟩ (fun hHeld => ?_)
            refine take (i := 0) (d := some 56) (v := .pointer (some ⟨gm, 0, none⟩)) rfl (by kernel_rfl) (by kernel_rfl) (by kernel_rfl) (by kernel_rfl) (fun _ _ _ h => h) (Or.inl ⟨by rfl, by intro w hSw; go_simp⟩) hHeld ?_
            simp only [Act.put, List.setIfInBounds_toArray, List.set_cons_zero, List.set_cons_succ]
            refine take (i := 1) (d := some 57) (v := .slice (some ⟨gV, 0, none⟩) 8 8) rfl (by kernel_rfl) (by kernel_rfl) (by kernel_rfl) (by kernel_rfl) (fun _ _ _ h => h) (Or.inl ⟨by rfl, by intro w hSw; obtain ⟨q1, q2⟩ := two hSw.1; go_simp⟩) hHeld ?_
            simp only [Act.put, List.setIfInBounds_toArray, List.set_cons_zero, List.set_cons_succ]
            refine take (i := 2) (d := some 58) (v := .int .i64 F) rfl (by kernel_rfl) (by kernel_rfl) (by kernel_rfl) (by kernel_rfl) (fun _ _ _ h => h) (Or.inl ⟨by rfl, by intro w hSw; go_simp⟩) hHeld ?_
            simp only [Act.put, List.setIfInBounds_toArray, List.set_cons_zero, List.set_cons_succ]
            refine take (i := 3) (d := some 59) (v := .pointer (some ⟨gx, 0, none⟩)) rfl (by kernel_rfl) (by kernel_rfl) (by kernel_rfl) (by kernel_rfl) (fun _ _ _ h => h) (Or.inl ⟨by rfl, by intro w hSw; go_simp⟩) hHeld ?_
            simp only [Act.put, List.setIfInBounds_toArray, List.set_cons_zero, List.set_cons_succ]
            refine take (i := 4) (d := some 60) (v := .slice (some ⟨gH, 0, none⟩) 8 8) rfl (by kernel_rfl) (by kernel_rfl) (by kernel_rfl) (by kernel_rfl) (fun _ _ _ h => h) (Or.inl ⟨by rfl, by intro w hSw; have q1 := Hh.one hSw.2.1; go_simp⟩) hHeld ?_
            simp only [Act.put, List.setIfInBounds_toArray, List.set_cons_zero, List.set_cons_succ]
            refine take (i := 5) (d := some 61) (v := .int .i64 F) rfl (by kernel_rfl) (by kernel_rfl) (by kernel_rfl) (by kernel_rfl) (fun _ _ _ h => h) (Or.inl ⟨by rfl, by intro w hSw; go_simp⟩) hHeld ?_
            simp only [Act.put, List.setIfInBounds_toArray, List.set_cons_zero, List.set_cons_succ]
            refine take (i := 6) (d := some 62) (v := .pointer (some ⟨gH, F, none⟩)) rfl (by kernel_rfl) (by kernel_rfl) (by kernel_rfl) (by kernel_rfl) (fun _ _ _ h => h) (Or.inl ⟨by rfl, by intro w hSw; go_simp⟩) hHeld ?_
            simp only [Act.put, List.setIfInBounds_toArray, List.set_cons_zero, List.set_cons_succ]
            refine take (i := 7) (d := some 63) (v := .int .i64 h1) rfl (by kernel_rfl) (by kernel_rfl) (by kernel_rfl) (by kernel_rfl) (fun _ _ _ h => h) (Or.inl ⟨by rfl, by intro w hSw; have q1 := hSw.2.2.1; go_simp⟩) hHeld ?_
            simp only [Act.put, List.setIfInBounds_toArray, List.set_cons_zero, List.set_cons_succ]
            refine take (i := 8) (d := some 64) (v := .pointer (some ⟨gm, 1, none⟩)) rfl (by kernel_rfl) (by kernel_rfl) (by kernel_rfl) (by kernel_rfl) (fun _ _ _ h => h) (Or.inl ⟨by rfl, by intro w hSw; go_simp⟩) hHeld ?_
            simp only [Act.put, List.setIfInBounds_toArray, List.set_cons_zero, List.set_cons_succ]
            refine take (i := 9) (d := some 65) (v := .slice (some ⟨gM, 0, none⟩) 8 8) rfl (by kernel_rfl) (by kernel_rfl) (by kernel_rfl) (by kernel_rfl) (fun _ _ _ h => h) (Or.inl ⟨by rfl, by intro w hSw; obtain ⟨q1, q2⟩ := two hSw.1; go_simp⟩) hHeld ?_
            simp only [Act.put, List.setIfInBounds_toArray, List.set_cons_zero, List.set_cons_succ]
            refine take (i := 10) (d := some 66) (v := .int .i64 F) rfl (by kernel_rfl) (by kernel_rfl) (by kernel_rfl) (by kernel_rfl) (fun _ _ _ h => h) (Or.inl ⟨by rfl, by intro w hSw; go_simp⟩) hHeld ?_
            simp only [Act.put, List.setIfInBounds_toArray, List.set_cons_zero, List.set_cons_succ]
            refine take (i := 11) (d := some 67) (v := .pointer (some ⟨gM, F, none⟩)) rfl (by kernel_rfl) (by kernel_rfl) (by kernel_rfl) (by kernel_rfl) (fun _ _ _ h => h) (Or.inl ⟨by rfl, by intro w hSw; go_simp⟩) hHeld ?_
            simp only [Act.put, List.setIfInBounds_toArray, List.set_cons_zero, List.set_cons_succ]
            refine take (i := 12) (d := some 68) (v := .int .i64 m1) rfl (by kernel_rfl) (by kernel_rfl) (by kernel_rfl) (by kernel_rfl) (fun _ _ _ h => h) (Or.inl ⟨by rfl, by intro w hSw; have q1 := hSw.2.2.2; go_simp⟩) hHeld ?_
            simp only [Act.put, List.setIfInBounds_toArray, List.set_cons_zero, List.set_cons_succ]
            refine take (i := 13) (d := some 69) (v := .int .i64 (bits .and .i64 h1 m1)) rfl (by kernel_rfl) (by kernel_rfl) (by kernel_rfl) (by kernel_rfl) (fun _ _ _ h => h) (Or.inl ⟨by rfl, by intro w hSw; go_simp⟩) hHeld ?_
            simp only [Act.put, List.setIfInBounds_toArray, List.set_cons_zero, List.set_cons_succ]
            refine take (i := 14) (d := some 70) (v := .pointer (some ⟨gV, F, none⟩)) rfl (by kernel_rfl) (by kernel_rfl) (by kernel_rfl) (by kernel_rfl) (fun _ _ _ h => h) (Or.inl ⟨by rfl, by intro w hSw; go_simp⟩) hHeld ?_
            simp only [Act.put, List.setIfInBounds_toArray, List.set_cons_zero, List.set_cons_succ]
            have hx := wide_and h1 m1
            generalize bits .and .i64 h1 m1 = x1 at *
            refine wpAnyH_ready (rs := [15]) (by kernel_rfl) (by simp) (readySkip (i := 15) rfl (by kernel_rfl) none (by kernel_rfl) (w' := wG.drew.setCell ⟨gV, F, none⟩ (.int .i64 x1)) (by go_simp) ⟨((i.drew hL).setV hL hbl hx).kM, ((i.drew hL).setV hL hbl hx).kX, by rw [World.cell?_setCell_other _ _ _ _ (by simp <;> omega)]; exact cH, by rw [World.cell?_setCell_other _ _ _ _ (by simp <;> omega)]; exact cM⟩ (fun hHeld => ?_) AllReadyH.nil)
            simp only [Act.put, List.setIfInBounds_toArray, List.set_cons_zero, List.set_cons_succ]
            refine wpAnyH_done (by kernel_rfl) ?_ _
            replace i := (i.drew hL).setV hL hbl (F := F) hx
            clear cH cM cV fV
            generalize wG.drew.setCell ⟨gV, F, none⟩ (.int .i64 x1) = wE at *
            go_wp2
            go_roundw
            case rel => exact ⟨K, _, _, by omega, by first | go_num | (congr 1; omega), i⟩
            case measure => simp [intOf]; omega
        · refine wp_region_held_drew (S := (fun w' => w'.heap[gm]? = some (.cells #[sl gV, sl gM] 25 (0, 0)))) (by kernel_rfl) i.kM (fun hHeld => ?_)
          refine take (i := 0) (d := some 49) (v := .pointer (some ⟨gm, 1, none⟩)) rfl (by kernel_rfl) (by kernel_rfl) (by kernel_rfl) (by kernel_rfl) (fun _ _ _ h => h) (Or.inl ⟨by rfl, by intro w hSw; go_simp⟩) hHeld ?_
          simp only [Act.put, List.setIfInBounds_toArray, List.set_cons_zero, List.set_cons_succ]
          refine take (i := 1) (d := some 50) (v := .slice (some ⟨gM, 0, none⟩) 8 8) rfl (by kernel_rfl) (by kernel_rfl) (by kernel_rfl) (by kernel_rfl) (fun _ _ _ h => h) (Or.inl ⟨by rfl, by intro w hSw; obtain ⟨q1, q2⟩ := two hSw; go_simp⟩) hHeld ?_
          simp only [Act.put, List.setIfInBounds_toArray, List.set_cons_zero, List.set_cons_succ]
          refine take (i := 2) (d := some 51) (v := .int .i64 F) rfl (by kernel_rfl) (by kernel_rfl) (by kernel_rfl) (by kernel_rfl) (fun _ _ _ h => h) (Or.inl ⟨by rfl, by intro w hSw; go_simp⟩) hHeld ?_
          simp only [Act.put, List.setIfInBounds_toArray, List.set_cons_zero, List.set_cons_succ]
          refine take (i := 3) (d := some 52) (v := .pointer (some ⟨g, 0, none⟩)) rfl (by kernel_rfl) (by kernel_rfl) (by kernel_rfl) (by kernel_rfl) (fun _ _ _ h => h) (Or.inl ⟨by rfl, by intro w hSw; go_simp⟩) hHeld ?_
          simp only [Act.put, List.setIfInBounds_toArray, List.set_cons_zero, List.set_cons_succ]
          refine wpAnyH_ready (rs := [4]) (by kernel_rfl) (by simp) (Rg.call2 (i := 4) rfl (by kernel_rfl) 74 (.tmp 52) (.const (.int .i64 3)) 98 3 (by kernel_rfl) 53 (by kernel_rfl) (.pointer (some ⟨g, 0, none⟩)) (.int .i64 3) (by kernel_rfl) (by kernel_rfl) (fun _ => rfl) (Dr.below_any _ _ _ _ _ _ 3 _ (i.drew hL).cur (by omega) (by omega)) ?_ AllReadyH.nil)
          rintro e wF ⟨z, rfl, zz0, zz1, hC', hO'⟩
          replace i := (i.drew hL).step hL hO' hC'
          clear hC' hO'
          refine ⟨_, rfl, i.kM, fun hHeld => ?_⟩
          simp only [Act.put, List.setIfInBounds_toArray, List.set_cons_zero, List.set_cons_succ]
          have hz3 : ∃ p2 : Int, Pm.I64 p2 ∧ ((z = 0 ∧ p2 = 1) ∨ (z = 1 ∧ p2 = 2) ∨ (z = 2 ∧ p2 = 4)) := by
            have e : z = 0 ∨ z = 1 ∨ z = 2 := by omega
            rcases e with rfl | rfl | rfl
            · exact ⟨1, by constructor <;> decide, by omega⟩
            · exact ⟨2, by constructor <;> decide, by omega⟩
            · exact ⟨4, by constructor <;> decide, by omega⟩
          obtain ⟨p2, hp2, hcase⟩ := hz3
          refine take (i := 5) (d := some 54) (v := .int .i64 p2) rfl (by kernel_rfl) (by kernel_rfl) (by kernel_rfl) (by kernel_rfl) (fun _ _ _ h => h) (Or.inl ⟨by rfl, by intro w hSw; rcases hcase with ⟨rfl, rfl⟩ | ⟨rfl, rfl⟩ | ⟨rfl, rfl⟩ <;> (go_simp; rfl)⟩) hHeld ?_
          simp only [Act.put, List.setIfInBounds_toArray, List.set_cons_zero, List.set_cons_succ]
          clear hcase
          refine take (i := 6) (d := some 55) (v := .pointer (some ⟨gM, F, none⟩)) rfl (by kernel_rfl) (by kernel_rfl) (by kernel_rfl) (by kernel_rfl) (fun _ _ _ h => h) (Or.inl ⟨by rfl, by intro w hSw; go_simp⟩) hHeld ?_
          simp only [Act.put, List.setIfInBounds_toArray, List.set_cons_zero, List.set_cons_succ]
          obtain ⟨cM, fM⟩ := i.cellM hF8
          refine wpAnyH_ready (rs := [7]) (by kernel_rfl) (by simp) (readySkip (i := 7) rfl (by kernel_rfl) none (by kernel_rfl) (w' := wF.setCell ⟨gM, F, none⟩ (.int .i64 p2)) (by go_simp) (i.setM hL hbl hp2).kM (fun hHeld => ?_) AllReadyH.nil)
          simp only [Act.put, List.setIfInBounds_toArray, List.set_cons_zero, List.set_cons_succ]
          refine wpAnyH_done (by kernel_rfl) ?_ _
          clear cM fM
          replace i := i.setM hL hbl (F := F) hp2
          generalize wF.setCell ⟨gM, F, none⟩ (.int .i64 p2) = wG at *
          go_wp2
          obtain ⟨h1, cH⟩ : ∃ h1 : Int, wG.cell? ⟨gH, F, none⟩ = some (.int .i64 h1) := ⟨_, i.cellH hF8⟩
          obtain ⟨m1, cM⟩ : ∃ m1 : Int, wG.cell? ⟨gM, F, none⟩ = some (.int .i64 m1) := ⟨_, (i.cellM hF8).1⟩
          obtain ⟨cV, fV⟩ := i.cellV hF8
          have lv := hL.vm
          have l9 := hL.mv
          have l8 := hL.h
          have l7 := hL.x
          refine wp_region_held_drew (S := (fun w' => w'.heap[gm]? = some (.cells #[sl gV, sl gM] 25 (0, 0)) ∧ w'.heap[gx]? = some (.cells #[sl gH] 28 (0, 0)) ∧ w'.cell? ⟨gH, F, none⟩ = some (.int .i64 h1) ∧ w'.cell? ⟨gM, F, none⟩ = some (.int .i64 m1))) (by kernel_rfl) ⟨i.kM, i.kX, cH, cM⟩ (fun hHeld => ?_)
          refine take (i := 0) (d := some 56) (v := .pointer (some ⟨gm, 0, none⟩)) rfl (by kernel_rfl) (by kernel_rfl) (by kernel_rfl) (by kernel_rfl) (fun _ _ _ h => h) (Or.inl ⟨by rfl, by intro w hSw; go_simp⟩) hHeld ?_
          simp only [Act.put, List.setIfInBounds_toArray, List.set_cons_zero, List.set_cons_succ]
          refine take (i := 1) (d := some 57) (v := .slice (some ⟨gV, 0, none⟩) 8 8) rfl (by kernel_rfl) (by kernel_rfl) (by kernel_rfl) (by kernel_rfl) (fun _ _ _ h => h) (Or.inl ⟨by rfl, by intro w hSw; obtain ⟨q1, q2⟩ := two hSw.1; go_simp⟩) hHeld ?_
          simp only [Act.put, List.setIfInBounds_toArray, List.set_cons_zero, List.set_cons_succ]
          refine take (i := 2) (d := some 58) (v := .int .i64 F) rfl (by kernel_rfl) (by kernel_rfl) (by kernel_rfl) (by kernel_rfl) (fun _ _ _ h => h) (Or.inl ⟨by rfl, by intro w hSw; go_simp⟩) hHeld ?_
          simp only [Act.put, List.setIfInBounds_toArray, List.set_cons_zero, List.set_cons_succ]
          refine take (i := 3) (d := some 59) (v := .pointer (some ⟨gx, 0, none⟩)) rfl (by kernel_rfl) (by kernel_rfl) (by kernel_rfl) (by kernel_rfl) (fun _ _ _ h => h) (Or.inl ⟨by rfl, by intro w hSw; go_simp⟩) hHeld ?_
          simp only [Act.put, List.setIfInBounds_toArray, List.set_cons_zero, List.set_cons_succ]
          refine take (i := 4) (d := some 60) (v := .slice (some ⟨gH, 0, none⟩) 8 8) rfl (by kernel_rfl) (by kernel_rfl) (by kernel_rfl) (by kernel_rfl) (fun _ _ _ h => h) (Or.inl ⟨by rfl, by intro w hSw; have q1 := Hh.one hSw.2.1; go_simp⟩) hHeld ?_
          simp only [Act.put, List.setIfInBounds_toArray, List.set_cons_zero, List.set_cons_succ]
          refine take (i := 5) (d := some 61) (v := .int .i64 F) rfl (by kernel_rfl) (by kernel_rfl) (by kernel_rfl) (by kernel_rfl) (fun _ _ _ h => h) (Or.inl ⟨by rfl, by intro w hSw; go_simp⟩) hHeld ?_
          simp only [Act.put, List.setIfInBounds_toArray, List.set_cons_zero, List.set_cons_succ]
          refine take (i := 6) (d := some 62) (v := .pointer (some ⟨gH, F, none⟩)) rfl (by kernel_rfl) (by kernel_rfl) (by kernel_rfl) (by kernel_rfl) (fun _ _ _ h => h) (Or.inl ⟨by rfl, by intro w hSw; go_simp⟩) hHeld ?_
          simp only [Act.put, List.setIfInBounds_toArray, List.set_cons_zero, List.set_cons_succ]
          refine take (i := 7) (d := some 63) (v := .int .i64 h1) rfl (by kernel_rfl) (by kernel_rfl) (by kernel_rfl) (by kernel_rfl) (fun _ _ _ h => h) (Or.inl ⟨by rfl, by intro w hSw; have q1 := hSw.2.2.1; go_simp⟩) hHeld ?_
          simp only [Act.put, List.setIfInBounds_toArray, List.set_cons_zero, List.set_cons_succ]
          refine take (i := 8) (d := some 64) (v := .pointer (some ⟨gm, 1, none⟩)) rfl (by kernel_rfl) (by kernel_rfl) (by kernel_rfl) (by kernel_rfl) (fun _ _ _ h => h) (Or.inl ⟨by rfl, by intro w hSw; go_simp⟩) hHeld ?_
          simp only [Act.put, List.setIfInBounds_toArray, List.set_cons_zero, List.set_cons_succ]
          refine take (i := 9) (d := some 65) (v := .slice (some ⟨gM, 0, none⟩) 8 8) rfl (by kernel_rfl) (by kernel_rfl) (by kernel_rfl) (by kernel_rfl) (fun _ _ _ h => h) (Or.inl ⟨by rfl, by intro w hSw; obtain ⟨q1, q2⟩ := two hSw.1; go_simp⟩) hHeld ?_
          simp only [Act.put, List.setIfInBounds_toArray, List.set_cons_zero, List.set_cons_succ]
          refine take (i := 10) (d := some 66) (v := .int .i64 F) rfl (by kernel_rfl) (by kernel_rfl) (by kernel_rfl) (by kernel_rfl) (fun _ _ _ h => h) (Or.inl ⟨by rfl, by intro w hSw; go_simp⟩) hHeld ?_
          simp only [Act.put, List.setIfInBounds_toArray, List.set_cons_zero, List.set_cons_succ]
          refine take (i := 11) (d := some 67) (v := .pointer (some ⟨gM, F, none⟩)) rfl (by kernel_rfl) (by kernel_rfl) (by kernel_rfl) (by kernel_rfl) (fun _ _ _ h => h) (Or.inl ⟨by rfl, by intro w hSw; go_simp⟩) hHeld ?_
          simp only [Act.put, List.setIfInBounds_toArray, List.set_cons_zero, List.set_cons_succ]
          refine take (i := 12) (d := some 68) (v := .int .i64 m1) rfl (by kernel_rfl) (by kernel_rfl) (by kernel_rfl) (by kernel_rfl) (fun _ _ _ h => h) (Or.inl ⟨by rfl, by intro w hSw; have q1 := hSw.2.2.2; go_simp⟩) hHeld ?_
          simp only [Act.put, List.setIfInBounds_toArray, List.set_cons_zero, List.set_cons_succ]
          refine take (i := 13) (d := some 69) (v := .int .i64 (bits .and .i64 h1 m1)) rfl (by kernel_rfl) (by kernel_rfl) (by kernel_rfl) (by kernel_rfl) (fun _ _ _ h => h) (Or.inl ⟨by rfl, by intro w hSw; go_simp⟩) hHeld ?_
          simp only [Act.put, List.setIfInBounds_toArray, List.set_cons_zero, List.set_cons_succ]
          refine take (i := 14) (d := some 70) (v := .pointer (some ⟨gV, F, none⟩)) rfl (by kernel_rfl) (by kernel_rfl) (by kernel_rfl) (by kernel_rfl) (fun _ _ _ h => h) (Or.inl ⟨by rfl, by intro w hSw; go_simp⟩) hHeld ?_
          simp only [Act.put, List.setIfInBounds_toArray, List.set_cons_zero, List.set_cons_succ]
          have hx := wide_and h1 m1
          generalize bits .and .i64 h1 m1 = x1 at *
          refine wpAnyH_ready (rs := [15]) (by kernel_rfl) (by simp) (readySkip (i := 15) rfl (by kernel_rfl) none (by kernel_rfl) (w' := wG.drew.setCell ⟨gV, F, none⟩ (.int .i64 x1)) (by go_simp) ⟨((i.drew hL).setV hL hbl hx).kM, ((i.drew hL).setV hL hbl hx).kX, by rw [World.cell?_setCell_other _ _ _ _ (by simp <;> omega)]; exact cH, by rw [World.cell?_setCell_other _ _ _ _ (by simp <;> omega)]; exact cM⟩ (fun hHeld => ?_) AllReadyH.nil)
          simp only [Act.put, List.setIfInBounds_toArray, List.set_cons_zero, List.set_cons_succ]
          refine wpAnyH_done (by kernel_rfl) ?_ _
          replace i := (i.drew hL).setV hL hbl (F := F) hx
          clear cH cM cV fV
          generalize wG.drew.setCell ⟨gV, F, none⟩ (.int .i64 x1) = wE at *
          go_wp2
          go_roundw
          case rel => exact ⟨K, _, _, by omega, by first | go_num | (congr 1; omega), i⟩
          case measure => simp [intOf]; omega
        · obtain ⟨h1, cH⟩ : ∃ h1 : Int, wD.cell? ⟨gH, F, none⟩ = some (.int .i64 h1) := ⟨_, i.cellH hF8⟩
          obtain ⟨m1, cM⟩ : ∃ m1 : Int, wD.cell? ⟨gM, F, none⟩ = some (.int .i64 m1) := ⟨_, (i.cellM hF8).1⟩
          obtain ⟨cV, fV⟩ := i.cellV hF8
          have lv := hL.vm
          have l9 := hL.mv
          have l8 := hL.h
          have l7 := hL.x
          refine wp_region_held_drew (S := (fun w' => w'.heap[gm]? = some (.cells #[sl gV, sl gM] 25 (0, 0)) ∧ w'.heap[gx]? = some (.cells #[sl gH] 28 (0, 0)) ∧ w'.cell? ⟨gH, F, none⟩ = some (.int .i64 h1) ∧ w'.cell? ⟨gM, F, none⟩ = some (.int .i64 m1))) (by kernel_rfl) ⟨i.kM, i.kX, cH, cM⟩ (fun hHeld => ?_)
          refine take (i := 0) (d := some 56) (v := .pointer (some ⟨gm, 0, none⟩)) rfl (by kernel_rfl) (by kernel_rfl) (by kernel_rfl) (by kernel_rfl) (fun _ _ _ h => h) (Or.inl ⟨by rfl, by intro w hSw; go_simp⟩) hHeld ?_
          simp only [Act.put, List.setIfInBounds_toArray, List.set_cons_zero, List.set_cons_succ]
          refine take (i := 1) (d := some 57) (v := .slice (some ⟨gV, 0, none⟩) 8 8) rfl (by kernel_rfl) (by kernel_rfl) (by kernel_rfl) (by kernel_rfl) (fun _ _ _ h => h) (Or.inl ⟨by rfl, by intro w hSw; obtain ⟨q1, q2⟩ := two hSw.1; go_simp⟩) hHeld ?_
          simp only [Act.put, List.setIfInBounds_toArray, List.set_cons_zero, List.set_cons_succ]
          refine take (i := 2) (d := some 58) (v := .int .i64 F) rfl (by kernel_rfl) (by kernel_rfl) (by kernel_rfl) (by kernel_rfl) (fun _ _ _ h => h) (Or.inl ⟨by rfl, by intro w hSw; go_simp⟩) hHeld ?_
          simp only [Act.put, List.setIfInBounds_toArray, List.set_cons_zero, List.set_cons_succ]
          refine take (i := 3) (d := some 59) (v := .pointer (some ⟨gx, 0, none⟩)) rfl (by kernel_rfl) (by kernel_rfl) (by kernel_rfl) (by kernel_rfl) (fun _ _ _ h => h) (Or.inl ⟨by rfl, by intro w hSw; go_simp⟩) hHeld ?_
          simp only [Act.put, List.setIfInBounds_toArray, List.set_cons_zero, List.set_cons_succ]
          refine take (i := 4) (d := some 60) (v := .slice (some ⟨gH, 0, none⟩) 8 8) rfl (by kernel_rfl) (by kernel_rfl) (by kernel_rfl) (by kernel_rfl) (fun _ _ _ h => h) (Or.inl ⟨by rfl, by intro w hSw; have q1 := Hh.one hSw.2.1; go_simp⟩) hHeld ?_
          simp only [Act.put, List.setIfInBounds_toArray, List.set_cons_zero, List.set_cons_succ]
          refine take (i := 5) (d := some 61) (v := .int .i64 F) rfl (by kernel_rfl) (by kernel_rfl) (by kernel_rfl) (by kernel_rfl) (fun _ _ _ h => h) (Or.inl ⟨by rfl, by intro w hSw; go_simp⟩) hHeld ?_
          simp only [Act.put, List.setIfInBounds_toArray, List.set_cons_zero, List.set_cons_succ]
          refine take (i := 6) (d := some 62) (v := .pointer (some ⟨gH, F, none⟩)) rfl (by kernel_rfl) (by kernel_rfl) (by kernel_rfl) (by kernel_rfl) (fun _ _ _ h => h) (Or.inl ⟨by rfl, by intro w hSw; go_simp⟩) hHeld ?_
          simp only [Act.put, List.setIfInBounds_toArray, List.set_cons_zero, List.set_cons_succ]
          refine take (i := 7) (d := some 63) (v := .int .i64 h1) rfl (by kernel_rfl) (by kernel_rfl) (by kernel_rfl) (by kernel_rfl) (fun _ _ _ h => h) (Or.inl ⟨by rfl, by intro w hSw; have q1 := hSw.2.2.1; go_simp⟩) hHeld ?_
          simp only [Act.put, List.setIfInBounds_toArray, List.set_cons_zero, List.set_cons_succ]
          refine take (i := 8) (d := some 64) (v := .pointer (some ⟨gm, 1, none⟩)) rfl (by kernel_rfl) (by kernel_rfl) (by kernel_rfl) (by kernel_rfl) (fun _ _ _ h => h) (Or.inl ⟨by rfl, by intro w hSw; go_simp⟩) hHeld ?_
          simp only [Act.put, List.setIfInBounds_toArray, List.set_cons_zero, List.set_cons_succ]
          refine take (i := 9) (d := some 65) (v := .slice (some ⟨gM, 0, none⟩) 8 8) rfl (by kernel_rfl) (by kernel_rfl) (by kernel_rfl) (by kernel_rfl) (fun _ _ _ h => h) (Or.inl ⟨by rfl, by intro w hSw; obtain ⟨q1, q2⟩ := two hSw.1; go_simp⟩) hHeld ?_
          simp only [Act.put, List.setIfInBounds_toArray, List.set_cons_zero, List.set_cons_succ]
          refine take (i := 10) (d := some 66) (v := .int .i64 F) rfl (by kernel_rfl) (by kernel_rfl) (by kernel_rfl) (by kernel_rfl) (fun _ _ _ h => h) (Or.inl ⟨by rfl, by intro w hSw; go_simp⟩) hHeld ?_
          simp only [Act.put, List.setIfInBounds_toArray, List.set_cons_zero, List.set_cons_succ]
          refine take (i := 11) (d := some 67) (v := .pointer (some ⟨gM, F, none⟩)) rfl (by kernel_rfl) (by kernel_rfl) (by kernel_rfl) (by kernel_rfl) (fun _ _ _ h => h) (Or.inl ⟨by rfl, by intro w hSw; go_simp⟩) hHeld ?_
          simp only [Act.put, List.setIfInBounds_toArray, List.set_cons_zero, List.set_cons_succ]
          refine take (i := 12) (d := some 68) (v := .int .i64 m1) rfl (by kernel_rfl) (by kernel_rfl) (by kernel_rfl) (by kernel_rfl) (fun _ _ _ h => h) (Or.inl ⟨by rfl, by intro w hSw; have q1 := hSw.2.2.2; go_simp⟩) hHeld ?_
          simp only [Act.put, List.setIfInBounds_toArray, List.set_cons_zero, List.set_cons_succ]
          refine take (i := 13) (d := some 69) (v := .int .i64 (bits .and .i64 h1 m1)) rfl (by kernel_rfl) (by kernel_rfl) (by kernel_rfl) (by kernel_rfl) (fun _ _ _ h => h) (Or.inl ⟨by rfl, by intro w hSw; go_simp⟩) hHeld ?_
          simp only [Act.put, List.setIfInBounds_toArray, List.set_cons_zero, List.set_cons_succ]
          refine take (i := 14) (d := some 70) (v := .pointer (some ⟨gV, F, none⟩)) rfl (by kernel_rfl) (by kernel_rfl) (by kernel_rfl) (by kernel_rfl) (fun _ _ _ h => h) (Or.inl ⟨by rfl, by intro w hSw; go_simp⟩) hHeld ?_
          simp only [Act.put, List.setIfInBounds_toArray, List.set_cons_zero, List.set_cons_succ]
          have hx := wide_and h1 m1
          generalize bits .and .i64 h1 m1 = x1 at *
          refine wpAnyH_ready (rs := [15]) (by kernel_rfl) (by simp) (readySkip (i := 15) rfl (by kernel_rfl) none (by kernel_rfl) (w' := wD.drew.setCell ⟨gV, F, none⟩ (.int .i64 x1)) (by go_simp) ⟨((i.drew hL).setV hL hbl hx).kM, ((i.drew hL).setV hL hbl hx).kX, by rw [World.cell?_setCell_other _ _ _ _ (by simp <;> omega)]; exact cH, by rw [World.cell?_setCell_other _ _ _ _ (by simp <;> omega)]; exact cM⟩ (fun hHeld => ?_) AllReadyH.nil)
          simp only [Act.put, List.setIfInBounds_toArray, List.set_cons_zero, List.set_cons_succ]
          refine wpAnyH_done (by kernel_rfl) ?_ _
          replace i := (i.drew hL).setV hL hbl (F := F) hx
          clear cH cM cV fV
          generalize wD.drew.setCell ⟨gV, F, none⟩ (.int .i64 x1) = wE at *
          go_wp2
          go_roundw
          case rel => exact ⟨K, _, _, by omega, by first | go_num | (congr 1; omega), i⟩
          case measure => simp [intOf]; omega
      · obtain ⟨F, hF⟩ : ∃ F : Nat, f = F := ⟨f.toNat, by omega⟩
        subst hF
        have hF8 : F < 8 := by omega
        have hFz : (F : Int) < 8 := by omega
        refine wp_region_held_drew (S := (fun w' => w'.heap[gm]? = some (.cells #[sl gV, sl gM] 25 (0, 0)))) (by kernel_rfl) i.kM (fun hHeld => ?_)
        refine take (i := 0) (d := some 25) (v := .pointer (some ⟨gm, 1, none⟩)) rfl (by kernel_rfl) (by kernel_rfl) (by kernel_rfl) (by kernel_rfl) (fun _ _ _ h => h) (Or.inl ⟨by rfl, by intro w hSw; go_simp⟩) hHeld ?_
        simp only [Act.put, List.setIfInBounds_toArray, List.set_cons_zero, List.set_cons_succ]
        refine take (i := 1) (d := some 26) (v := .slice (some ⟨gM, 0, none⟩) 8 8) rfl (by kernel_rfl) (by kernel_rfl) (by kernel_rfl) (by kernel_rfl) (fun _ _ _ h => h) (Or.inl ⟨by rfl, by intro w hSw; obtain ⟨q1, q2⟩ := two hSw; go_simp⟩) hHeld ?_
        simp only [Act.put, List.setIfInBounds_toArray, List.set_cons_zero, List.set_cons_succ]
        refine take (i := 2) (d := some 27) (v := .int .i64 F) rfl (by kernel_rfl) (by kernel_rfl) (by kernel_rfl) (by kernel_rfl) (fun _ _ _ h => h) (Or.inl ⟨by rfl, by intro w hSw; go_simp⟩) hHeld ?_
        simp only [Act.put, List.setIfInBounds_toArray, List.set_cons_zero, List.set_cons_succ]
        refine take (i := 3) (d := some 28) (v := .int .i64 F) rfl (by kernel_rfl) (by kernel_rfl) (by kernel_rfl) (by kernel_rfl) (fun _ _ _ h => h) (Or.inl ⟨by rfl, by intro w hSw; go_simp⟩) hHeld ?_
        simp only [Act.put, List.setIfInBounds_toArray, List.set_cons_zero, List.set_cons_succ]
        refine wpAnyH_ready (rs := [4]) (by kernel_rfl) (by simp) (Rg.call1 (i := 4) rfl (by kernel_rfl) 207 (.tmp 28) 3 (by kernel_rfl) 29 (by kernel_rfl) (.int .i64 F) (by kernel_rfl) (fun _ => rfl) (Mu.fullS_any F hF8 _) ?_ AllReadyH.nil)
        rintro e wB ⟨rfl, hb⟩
        replace i := (i.drew hL).below hL hb
        clear hb
        refine ⟨_, rfl, i.kM, fun hHeld => ?_⟩
        simp only [Act.put, List.setIfInBounds_toArray, List.set_cons_zero, List.set_cons_succ]
        obtain ⟨m0, hm0⟩ : ∃ m0 : Int, m0 = Mp.fullI F := ⟨_, rfl⟩
        have hm1 : Pm.I64 m0 := by rw [hm0]; exact full_wide hF8
        rw [← hm0]
        clear hm0
        refine take (i := 5) (d := some 30) (v := .pointer (some ⟨gM, F, none⟩)) rfl (by kernel_rfl) (by kernel_rfl) (by kernel_rfl) (by kernel_rfl) (fun _ _ _ h => h) (Or.inl ⟨by rfl, by intro w hSw; go_simp⟩) hHeld ?_
        simp only [Act.put, List.setIfInBounds_toArray, List.set_cons_zero, List.set_cons_succ]
        obtain ⟨cM, fM⟩ := i.cellM hF8
        refine wpAnyH_ready (rs := [6]) (by kernel_rfl) (by simp) (readySkip (i := 6) rfl (by kernel_rfl) none (by kernel_rfl) (w' := wB.setCell ⟨gM, F, none⟩ (.int .i64 m0)) (by go_simp) (i.setM hL hbl hm1).kM (fun hHeld => ?_) AllReadyH.nil)
        simp only [Act.put, List.setIfInBounds_toArray, List.set_cons_zero, List.set_cons_succ]
        refine wpAnyH_done (by kernel_rfl) ?_ _
        clear cM fM
        replace i := i.setM hL hbl (F := F) hm1
        have hmF : (M.set F m0).getD F 0 = m0 := by have := i.lM; rw [List.length_set] at this; simp [List.getD, this, hF8]
        generalize wB.setCell ⟨gM, F, none⟩ (.int .i64 m0) = wC at *
        have t1 : True := trivial
        go_wp2_with (go_at_call 74; clear t1; refine (Dr.below_any _ _ _ _ _ _ 6 _ i.cur (by omega) (by omega)).mono ?_; rintro e wD ⟨u, rfl, u0, u1, hC', hO'⟩; replace i := i.step hL hO' hC'; clear hC' hO')
        · obtain ⟨m1, cM, wM1⟩ : ∃ m1 : Int, wD.cell? ⟨gM, F, none⟩ = some (.int .i64 m1) ∧ Pm.I64 m1 := ⟨_, (i.cellM hF8).1, i.wM F⟩
          refine wp_region_held_drew (S := (fun w' => w'.heap[gm]? = some (.cells #[sl gV, sl gM] 25 (0, 0)))) (by kernel_rfl) i.kM (fun hHeld => ?_)
          have cMd : wD.drew.cell? ⟨gM, F, none⟩ = some (.int .i64 m1) := cM
          clear cM
          replace i := i.drew hL
          have lm := hL.m
          generalize wD.drew = wD' at *
          refine take (i := 0) (d := some 35) (v := .pointer (some ⟨gm, 1, none⟩)) rfl (by kernel_rfl) (by kernel_rfl) (by kernel_rfl) (by kernel_rfl) (fun _ _ _ h => h) (Or.inl ⟨by rfl, by intro w hSw; go_simp⟩) hHeld ?_
          simp only [Act.put, List.setIfInBounds_toArray, List.set_cons_zero, List.set_cons_succ]
          refine take (i := 1) (d := some 36) (v := .slice (some ⟨gM, 0, none⟩) 8 8) rfl (by kernel_rfl) (by kernel_rfl) (by kernel_rfl) (by kernel_rfl) (fun _ _ _ h => h) (Or.inl ⟨by rfl, by intro w hSw; obtain ⟨q1, q2⟩ := two hSw; go_simp⟩) hHeld ?_
          simp only [Act.put, List.setIfInBounds_toArray, List.set_cons_zero, List.set_cons_succ]
          refine take (i := 2) (d := some 37) (v := .int .i64 F) rfl (by kernel_rfl) (by kernel_rfl) (by kernel_rfl) (by kernel_rfl) (fun _ _ _ h => h) (Or.inl ⟨by rfl, by intro w hSw; go_simp⟩) hHeld ?_
          simp only [Act.put, List.setIfInBounds_toArray, List.set_cons_zero, List.set_cons_succ]
          refine take (i := 3) (d := some 38) (v := .pointer (some ⟨gm, 1, none⟩)) rfl (by kernel_rfl) (by kernel_rfl) (by kernel_rfl) (by kernel_rfl) (fun _ _ _ h => h) (Or.inl ⟨by rfl, by intro w hSw; go_simp⟩) hHeld ?_
          simp only [Act.put, List.setIfInBounds_toArray, List.set_cons_zero, List.set_cons_succ]
          refine take (i := 4) (d := some 39) (v := .slice (some ⟨gM, 0, none⟩) 8 8) rfl (by kernel_rfl) (by kernel_rfl) (by kernel_rfl) (by kernel_rfl) (fun _ _ _ h => h) (Or.inl ⟨by rfl, by intro w hSw; obtain ⟨q1, q2⟩ := two hSw; go_simp⟩) hHeld ?_
          simp only [Act.put, List.setIfInBounds_toArray, List.set_cons_zero, List.set_cons_succ]
          refine take (i := 5) (d := some 40) (v := .int .i64 F) rfl (by kernel_rfl) (by kernel_rfl) (by kernel_rfl) (by kernel_rfl) (fun _ _ _ h => h) (Or.inl ⟨by rfl, by intro w hSw; go_simp⟩) hHeld ?_
          simp only [Act.put, List.setIfInBounds_toArray, List.set_cons_zero, List.set_cons_succ]
          refine take (i := 6) (d := some 41) (v := .pointer (some ⟨gM, F, none⟩)) rfl (by kernel_rfl) (by kernel_rfl) (by kernel_rfl) (by kernel_rfl) (fun _ _ _ h => h) (Or.inl ⟨by rfl, by intro w hSw; go_simp⟩) hHeld ?_
          simp only [Act.put, List.setIfInBounds_toArray, List.set_cons_zero, List.set_cons_succ]
          refine take (i := 8) (d := some 43) (v := .pointer (some ⟨g, 0, none⟩)) rfl (by kernel_rfl) (by kernel_rfl) (by kernel_rfl) (by kernel_rfl) (fun _ _ _ h => h) (Or.inl ⟨by rfl, by intro w hSw; go_simp⟩) hHeld ?_
          simp only [Act.put, List.setIfInBounds_toArray, List.set_cons_zero, List.set_cons_succ]
          refine wpAnyH_ready (rs := [7, 9]) (by kernel_rfl) (by simp) (readyRun (i := 7) rfl (by kernel_rfl) (some 42) (by kernel_rfl) (v := .int .i64 m1) (w' := wD') (by go_simp) i.kM (fun hHeld => ?_) (Rg.call2 (i := 9) rfl (by kernel_rfl) 74 (.tmp 43) (.const (.int .i64 8)) 98 3 (by kernel_rfl) 44 (by kernel_rfl) (.pointer (some ⟨g, 0, none⟩)) (.int .i64 8) (by kernel_rfl) (by kernel_rfl) (fun _ => rfl) (Dr.below_any _ _ _ _ _ _ 8 _ i.cur (by omega) (by omega)) ?_ AllReadyH.nil))
          · simp only [Act.put, List.setIfInBounds_toArray, List.set_cons_zero, List.set_cons_succ]
            refine wpAnyH_ready (rs := [9]) (by kernel_rfl) (by simp) (Rg.call2 (i := 9) rfl (by kernel_rfl) 74 (.tmp 43) (.const (.int .i64 8)) 98 3 (by kernel_rfl) 44 (by kernel_rfl) (.pointer (some ⟨g, 0, none⟩)) (.int .i64 8) (by kernel_rfl) (by kernel_rfl) (fun _ => rfl) (Dr.below_any _ _ _ _ _ _ 8 _ i.cur (by omega) (by omega)) ?_ AllReadyH.nil)
            rintro e wH ⟨z, rfl, zz0, zz1, hC', hO'⟩
            have cMh := (World.cell?_of_block (hO'.block gM i.mM.row.lt (by have := hL.g; simp; omega)) (a := ⟨gM, F, none⟩)).trans cMd
            replace i := i.step hL hO' hC'
            clear hC' hO' cMd
            refine ⟨_, rfl, i.kM, fun hHeld => ?_⟩
            simp only [Act.put, List.setIfInBounds_toArray, List.set_cons_zero, List.set_cons_succ]
            obtain ⟨s1, es1⟩ : ∃ s1 : Int, s1 = IntKind.i64.wrap (m1 - z) := ⟨_, rfl⟩
            have hs1 : Pm.I64 s1 := by rw [es1, IntKind.wrap_i64]; constructor <;> omega
            refine take (i := 10) (d := some 45) (v := .int .i64 s1) rfl (by kernel_rfl) (by kernel_rfl) (by kernel_rfl) (by kernel_rfl) (fun _ _ _ h => h) (Or.inl ⟨by rfl, by intro w hSw; rw [es1]; go_simp⟩) hHeld ?_
            simp only [Act.put, List.setIfInBounds_toArray, List.set_cons_zero, List.set_cons_succ]
            clear es1
            refine take (i := 11) (d := some 46) (v := .pointer (some ⟨gM, F, none⟩)) rfl (by kernel_rfl) (by kernel_rfl) (by kernel_rfl) (by kernel_rfl) (fun _ _ _ h => h) (Or.inl ⟨by rfl, by intro w hSw; go_simp⟩) hHeld ?_
            simp only [Act.put, List.setIfInBounds_toArray, List.set_cons_zero, List.set_cons_succ]
            obtain ⟨_, fM⟩ := i.cellM hF8
            refine wpAnyH_ready (rs := [12]) (by kernel_rfl) (by simp) (readySkip (i := 12) rfl (by kernel_rfl) none (by kernel_rfl) (w' := wH.setCell ⟨gM, F, none⟩ (.int .i64 s1)) (by go_simp) (i.setM hL hbl hs1).kM (fun hHeld => ?_) AllReadyH.nil)
            simp only [Act.put, List.setIfInBounds_toArray, List.set_cons_zero, List.set_cons_succ]
            refine wpAnyH_done (by kernel_rfl) ?_ _
            clear cMh fM
            replace i := i.setM hL hbl (F := F) hs1
            generalize wH.setCell ⟨gM, F, none⟩ (.int .i64 s1) = wG at *
            obtain rfl : u = 0 := eq_of_beq (by assumption)
            go_wp2
            obtain ⟨h1, cH⟩ : ∃ h1 : Int, wG.cell? ⟨gH, F, none⟩ = some (.int .i64 h1) := ⟨_, i.cellH hF8⟩
            obtain ⟨m1, cM⟩ : ∃ m1 : Int, wG.cell? ⟨gM, F, none⟩ = some (.int .i64 m1) := ⟨_, (i.cellM hF8).1⟩
            obtain ⟨cV, fV⟩ := i.cellV hF8
            have lv := hL.vm
            have l9 := hL.mv
            have l8 := hL.h
            have l7 := hL.x
            refine wp_region_held_drew (S := (fun w' => w'.heap[gm]? = some (.cells #[sl gV, sl gM] 25 (0, 0)) ∧ w'.heap[gx]? = some (.cells #[sl gH] 28 (0, 0)) ∧ w'.cell? ⟨gH, F, none⟩ = some (.int .i64 h1) ∧ w'.cell? ⟨gM, F, none⟩ = some (.int .i64 m1))) (by kernel_rfl) ⟨i.kM, i.kX, cH, cM⟩ (fun hHeld => ?_)
            refine take (i := 0) (d := some 56) (v := .pointer (some ⟨gm, 0, none⟩)) rfl (by kernel_rfl) (by kernel_rfl) (by kernel_rfl) (by kernel_rfl) (fun _ _ _ h => h) (Or.inl ⟨by rfl, by intro w hSw; go_simp⟩) hHeld ?_
            simp only [Act.put, List.setIfInBounds_toArray, List.set_cons_zero, List.set_cons_succ]
            refine take (i := 1) (d := some 57) (v := .slice (some ⟨gV, 0, none⟩) 8 8) rfl (by kernel_rfl) (by kernel_rfl) (by kernel_rfl) (by kernel_rfl) (fun _ _ _ h => h) (Or.inl ⟨by rfl, by intro w hSw; obtain ⟨q1, q2⟩ := two hSw.1; go_simp⟩) hHeld ?_
            simp only [Act.put, List.setIfInBounds_toArray, List.set_cons_zero, List.set_cons_succ]
            refine take (i := 2) (d := some 58) (v := .int .i64 F) rfl (by kernel_rfl) (by kernel_rfl) (by kernel_rfl) (by kernel_rfl) (fun _ _ _ h => h) (Or.inl ⟨by rfl, by intro w hSw; go_simp⟩) hHeld ?_
            simp only [Act.put, List.setIfInBounds_toArray, List.set_cons_zero, List.set_cons_succ]
            refine take (i := 3) (d := some 59) (v := .pointer (some ⟨gx, 0, none⟩)) rfl (by kernel_rfl) (by kernel_rfl) (by kernel_rfl) (by kernel_rfl) (fun _ _ _ h => h) (Or.inl ⟨by rfl, by intro w hSw; go_simp⟩) hHeld ?_
            simp only [Act.put, List.setIfInBounds_toArray, List.set_cons_zero, List.set_cons_succ]
            refine take (i := 4) (d := some 60) (v := .slice (some ⟨gH, 0, none⟩) 8 8) rfl (by kernel_rfl) (by kernel_rfl) (by kernel_rfl) (by kernel_rfl) (fun _ _ _ h => h) (Or.inl ⟨by rfl, by intro w hSw; have q1 := Hh.one hSw.2.1; go_simp⟩) hHeld ?_
            simp only [Act.put, List.setIfInBounds_toArray, List.set_cons_zero, List.set_cons_succ]
            refine take (i := 5) (d := some 61) (v := .int .i64 F) rfl (by kernel_rfl) (by kernel_rfl) (by kernel_rfl) (by kernel_rfl) (fun _ _ _ h => h) (Or.inl ⟨by rfl, by intro w hSw; go_simp⟩) hHeld ?_
            simp only [Act.put, List.setIfInBounds_toArray, List.set_cons_zero, List.set_cons_succ]
            refine take (i := 6) (d := some 62) (v := .pointer (some ⟨gH, F, none⟩)) rfl (by kernel_rfl) (by kernel_rfl) (by kernel_rfl) (by kernel_rfl) (fun _ _ _ h => h) (Or.inl ⟨by rfl, by intro w hSw; go_simp⟩) hHeld ?_
            simp only [Act.put, List.setIfInBounds_toArray, List.set_cons_zero, List.set_cons_succ]
            refine take (i := 7) (d := some 63) (v := .int .i64 h1) rfl (by kernel_rfl) (by kernel_rfl) (by kernel_rfl) (by kernel_rfl) (fun _ _ _ h => h) (Or.inl ⟨by rfl, by intro w hSw; have q1 := hSw.2.2.1; go_simp⟩) hHeld ?_
            simp only [Act.put, List.setIfInBounds_toArray, List.set_cons_zero, List.set_cons_succ]
            refine take (i := 8) (d := some 64) (v := .pointer (some ⟨gm, 1, none⟩)) rfl (by kernel_rfl) (by kernel_rfl) (by kernel_rfl) (by kernel_rfl) (fun _ _ _ h => h) (Or.inl ⟨by rfl, by intro w hSw; go_simp⟩) hHeld ?_
            simp only [Act.put, List.setIfInBounds_toArray, List.set_cons_zero, List.set_cons_succ]
            refine take (i := 9) (d := some 65) (v := .slice (some ⟨gM, 0, none⟩) 8 8) rfl (by kernel_rfl) (by kernel_rfl) (by kernel_rfl) (by kernel_rfl) (fun _ _ _ h => h) (Or.inl ⟨by rfl, by intro w hSw; obtain ⟨q1, q2⟩ := two hSw.1; go_simp⟩) hHeld ?_
            simp only [Act.put, List.setIfInBounds_toArray, List.set_cons_zero, List.set_cons_succ]
            refine take (i := 10) (d := some 66) (v := .int .i64 F) rfl (by kernel_rfl) (by kernel_rfl) (by kernel_rfl) (by kernel_rfl) (fun _ _ _ h => h) (Or.inl ⟨by rfl, by intro w hSw; go_simp⟩) hHeld ?_
            simp only [Act.put, List.setIfInBounds_toArray, List.set_cons_zero, List.set_cons_succ]
            refine take (i := 11) (d := some 67) (v := .pointer (some ⟨gM, F, none⟩)) rfl (by kernel_rfl) (by kernel_rfl) (by kernel_rfl) (by kernel_rfl) (fun _ _ _ h => h) (Or.inl ⟨by rfl, by intro w hSw; go_simp⟩) hHeld ?_
            simp only [Act.put, List.setIfInBounds_toArray, List.set_cons_zero, List.set_cons_succ]
            refine take (i := 12) (d := some 68) (v := .int .i64 m1) rfl (by kernel_rfl) (by kernel_rfl) (by kernel_rfl) (by kernel_rfl) (fun _ _ _ h => h) (Or.inl ⟨by rfl, by intro w hSw; have q1 := hSw.2.2.2; go_simp⟩) hHeld ?_
            simp only [Act.put, List.setIfInBounds_toArray, List.set_cons_zero, List.set_cons_succ]
            refine take (i := 13) (d := some 69) (v := .int .i64 (bits .and .i64 h1 m1)) rfl (by kernel_rfl) (by kernel_rfl) (by kernel_rfl) (by kernel_rfl) (fun _ _ _ h => h) (Or.inl ⟨by rfl, by intro w hSw; go_simp⟩) hHeld ?_
            simp only [Act.put, List.setIfInBounds_toArray, List.set_cons_zero, List.set_cons_succ]
            refine take (i := 14) (d := some 70) (v := .pointer (some ⟨gV, F, none⟩)) rfl (by kernel_rfl) (by kernel_rfl) (by kernel_rfl) (by kernel_rfl) (fun _ _ _ h => h) (Or.inl ⟨by rfl, by intro w hSw; go_simp⟩) hHeld ?_
            simp only [Act.put, List.setIfInBounds_toArray, List.set_cons_zero, List.set_cons_succ]
            have hx := wide_and h1 m1
            generalize bits .and .i64 h1 m1 = x1 at *
            refine wpAnyH_ready (rs := [15]) (by kernel_rfl) (by simp) (readySkip (i := 15) rfl (by kernel_rfl) none (by kernel_rfl) (w' := wG.drew.setCell ⟨gV, F, none⟩ (.int .i64 x1)) (by go_simp) ⟨((i.drew hL).setV hL hbl hx).kM, ((i.drew hL).setV hL hbl hx).kX, by rw [World.cell?_setCell_other _ _ _ _ (by simp <;> omega)]; exact cH, by rw [World.cell?_setCell_other _ _ _ _ (by simp <;> omega)]; exact cM⟩ (fun hHeld => ?_) AllReadyH.nil)
            simp only [Act.put, List.setIfInBounds_toArray, List.set_cons_zero, List.set_cons_succ]
            refine wpAnyH_done (by kernel_rfl) ?_ _
            replace i := (i.drew hL).setV hL hbl (F := F) hx
            clear cH cM cV fV
            generalize wG.drew.setCell ⟨gV, F, none⟩ (.int .i64 x1) = wE at *
            go_wp2
            go_roundw
            case rel => exact ⟨K, _, _, by omega, by first | go_num | (congr 1; omega), i⟩
            case measure => simp [intOf]; omega
          · rintro e wH ⟨z, rfl, zz0, zz1, hC', hO'⟩
            have cMh := (World.cell?_of_block (hO'.block gM i.mM.row.lt (by have := hL.g; simp; omega)) (a := ⟨gM, F, none⟩)).trans cMd
            replace i := i.step hL hO' hC'
            clear hC' hO' cMd
            refine ⟨_, rfl, i.kM, fun hHeld => ?_⟩
            simp only [Act.put, List.setIfInBounds_toArray, List.set_cons_zero, List.set_cons_succ]
            refine wpAnyH_ready (rs := [7]) (by kernel_rfl) (by simp) (readyRun (i := 7) rfl (by kernel_rfl) (some 42) (by kernel_rfl) (v := .int .i64 m1) (w' := wH) (by go_simp) i.kM (fun hHeld => ?_) AllReadyH.nil)
            simp only [Act.put, List.setIfInBounds_toArray, List.set_cons_zero, List.set_cons_succ]
            obtain ⟨s1, es1⟩ : ∃ s1 : Int, s1 = IntKind.i64.wrap (m1 - z) := ⟨_, rfl⟩
            have hs1 : Pm.I64 s1 := by rw [es1, IntKind.wrap_i64]; constructor <;> omega
            refine take (i := 10) (d := some 45) (v := .int .i64 s1) rfl (by kernel_rfl) (by kernel_rfl) (by kernel_rfl) (by kernel_rfl) (fun _ _ _ h => h) (Or.inl ⟨by rfl, by intro w hSw; rw [es1]; go_simp⟩) hHeld ?_
            simp only [Act.put, List.setIfInBounds_toArray, List.set_cons_zero, List.set_cons_succ]
            clear es1
            refine take (i := 11) (d := some 46) (v := .pointer (some ⟨gM, F, none⟩)) rfl (by kernel_rfl) (by kernel_rfl) (by kernel_rfl) (by kernel_rfl) (fun _ _ _ h => h) (Or.inl ⟨by rfl, by intro w hSw; go_simp⟩) hHeld ?_
            simp only [Act.put, List.setIfInBounds_toArray, List.set_cons_zero, List.set_cons_succ]
            obtain ⟨_, fM⟩ := i.cellM hF8
            refine wpAnyH_ready (rs := [12]) (by kernel_rfl) (by simp) (readySkip (i := 12) rfl (by kernel_rfl) none (by kernel_rfl) (w' := wH.setCell ⟨gM, F, none⟩ (.int .i64 s1)) (by go_simp) (i.setM hL hbl hs1).kM (fun hHeld => ?_) AllReadyH.nil)
            simp only [Act.put, List.setIfInBounds_toArray, List.set_cons_zero, List.set_cons_succ]
            refine wpAnyH_done (by kernel_rfl) ?_ _
            clear cMh fM
            replace i := i.setM hL hbl (F := F) hs1
            generalize wH.setCell ⟨gM, F, none⟩ (.int .i64 s1) = wG at *
            obtain rfl : u = 0 := eq_of_beq (by assumption)
            go_wp2
            obtain ⟨h1, cH⟩ : ∃ h1 : Int, wG.cell? ⟨gH, F, none⟩ = some (.int .i64 h1) := ⟨_, i.cellH hF8⟩
            obtain ⟨m1, cM⟩ : ∃ m1 : Int, wG.cell? ⟨gM, F, none⟩ = some (.int .i64 m1) := ⟨_, (i.cellM hF8).1⟩
            obtain ⟨cV, fV⟩ := i.cellV hF8
            have lv := hL.vm
            have l9 := hL.mv
            have l8 := hL.h
            have l7 := hL.x
            refine wp_region_held_drew (S := (fun w' => w'.heap[gm]? = some (.cells #[sl gV, sl gM] 25 (0, 0)) ∧ w'.heap[gx]? = some (.cells #[sl gH] 28 (0, 0)) ∧ w'.cell? ⟨gH, F, none⟩ = some (.int .i64 h1) ∧ w'.cell? ⟨gM, F, none⟩ = some (.int .i64 m1))) (by kernel_rfl) ⟨i.kM, i.kX, cH, cM⟩ (fun hHeld => ?_)
            refine take (i := 0) (d := some 56) (v := .pointer (some ⟨gm, 0, none⟩)) rfl (by kernel_rfl) (by kernel_rfl) (by kernel_rfl) (by kernel_rfl) (fun _ _ _ h => h) (Or.inl ⟨by rfl, by intro w hSw; go_simp⟩) hHeld ?_
            simp only [Act.put, List.setIfInBounds_toArray, List.set_cons_zero, List.set_cons_succ]
            refine take (i := 1) (d := some 57) (v := .slice (some ⟨gV, 0, none⟩) 8 8) rfl (by kernel_rfl) (by kernel_rfl) (by kernel_rfl) (by kernel_rfl) (fun _ _ _ h => h) (Or.inl ⟨by rfl, by intro w hSw; obtain ⟨q1, q2⟩ := two hSw.1; go_simp⟩) hHeld ?_
            simp only [Act.put, List.setIfInBounds_toArray, List.set_cons_zero, List.set_cons_succ]
            refine take (i := 2) (d := some 58) (v := .int .i64 F) rfl (by kernel_rfl) (by kernel_rfl) (by kernel_rfl) (by kernel_rfl) (fun _ _ _ h => h) (Or.inl ⟨by rfl, by intro w hSw; go_simp⟩) hHeld ?_
            simp only [Act.put, List.setIfInBounds_toArray, List.set_cons_zero, List.set_cons_succ]
            refine take (i := 3) (d := some 59) (v := .pointer (some ⟨gx, 0, none⟩)) rfl (by kernel_rfl) (by kernel_rfl) (by kernel_rfl) (by kernel_rfl) (fun _ _ _ h => h) (Or.inl ⟨by rfl, by intro w hSw; go_simp⟩) hHeld ?_
            simp only [Act.put, List.setIfInBounds_toArray, List.set_cons_zero, List.set_cons_succ]
            refine take (i := 4) (d := some 60) (v := .slice (some ⟨gH, 0, none⟩) 8 8) rfl (by kernel_rfl) (by kernel_rfl) (by kernel_rfl) (by kernel_rfl) (fun _ _ _ h => h) (Or.inl ⟨by rfl, by intro w hSw; have q1 := Hh.one hSw.2.1; go_simp⟩) hHeld ?_
            simp only [Act.put, List.setIfInBounds_toArray, List.set_cons_zero, List.set_cons_succ]
            refine take (i := 5) (d := some 61) (v := .int .i64 F) rfl (by kernel_rfl) (by kernel_rfl) (by kernel_rfl) (by kernel_rfl) (fun _ _ _ h => h) (Or.inl ⟨by rfl, by intro w hSw; go_simp⟩) hHeld ?_
            simp only [Act.put, List.setIfInBounds_toArray, List.set_cons_zero, List.set_cons_succ]
            refine take (i := 6) (d := some 62) (v := .pointer (some ⟨gH, F, none⟩)) rfl (by kernel_rfl) (by kernel_rfl) (by kernel_rfl) (by kernel_rfl) (fun _ _ _ h => h) (Or.inl ⟨by rfl, by intro w hSw; go_simp⟩) hHeld ?_
            simp only [Act.put, List.setIfInBounds_toArray, List.set_cons_zero, List.set_cons_succ]
            refine take (i := 7) (d := some 63) (v := .int .i64 h1) rfl (by kernel_rfl) (by kernel_rfl) (by kernel_rfl) (by kernel_rfl) (fun _ _ _ h => h) (Or.inl ⟨by rfl, by intro w hSw; have q1 := hSw.2.2.1; go_simp⟩) hHeld ?_
            simp only [Act.put, List.setIfInBounds_toArray, List.set_cons_zero, List.set_cons_succ]
            refine take (i := 8) (d := some 64) (v := .pointer (some ⟨gm, 1, none⟩)) rfl (by kernel_rfl) (by kernel_rfl) (by kernel_rfl) (by kernel_rfl) (fun _ _ _ h => h) (Or.inl ⟨by rfl, by intro w hSw; go_simp⟩) hHeld ?_
            simp only [Act.put, List.setIfInBounds_toArray, List.set_cons_zero, List.set_cons_succ]
            refine take (i := 9) (d := some 65) (v := .slice (some ⟨gM, 0, none⟩) 8 8) rfl (by kernel_rfl) (by kernel_rfl) (by kernel_rfl) (by kernel_rfl) (fun _ _ _ h => h) (Or.inl ⟨by rfl, by intro w hSw; obtain ⟨q1, q2⟩ := two hSw.1; go_simp⟩) hHeld ?_
            simp only [Act.put, List.setIfInBounds_toArray, List.set_cons_zero, List.set_cons_succ]
            refine take (i := 10) (d := some 66) (v := .int .i64 F) rfl (by kernel_rfl) (by kernel_rfl) (by kernel_rfl) (by kernel_rfl) (fun _ _ _ h => h) (Or.inl ⟨by rfl, by intro w hSw; go_simp⟩) hHeld ?_
            simp only [Act.put, List.setIfInBounds_toArray, List.set_cons_zero, List.set_cons_succ]
            refine take (i := 11) (d := some 67) (v := .pointer (some ⟨gM, F, none⟩)) rfl (by kernel_rfl) (by kernel_rfl) (by kernel_rfl) (by kernel_rfl) (fun _ _ _ h => h) (Or.inl ⟨by rfl, by intro w hSw; go_simp⟩) hHeld ?_
            simp only [Act.put, List.setIfInBounds_toArray, List.set_cons_zero, List.set_cons_succ]
            refine take (i := 12) (d := some 68) (v := .int .i64 m1) rfl (by kernel_rfl) (by kernel_rfl) (by kernel_rfl) (by kernel_rfl) (fun _ _ _ h => h) (Or.inl ⟨by rfl, by intro w hSw; have q1 := hSw.2.2.2; go_simp⟩) hHeld ?_
            simp only [Act.put, List.setIfInBounds_toArray, List.set_cons_zero, List.set_cons_succ]
            refine take (i := 13) (d := some 69) (v := .int .i64 (bits .and .i64 h1 m1)) rfl (by kernel_rfl) (by kernel_rfl) (by kernel_rfl) (by kernel_rfl) (fun _ _ _ h => h) (Or.inl ⟨by rfl, by intro w hSw; go_simp⟩) hHeld ?_
            simp only [Act.put, List.setIfInBounds_toArray, List.set_cons_zero, List.set_cons_succ]
            refine take (i := 14) (d := some 70) (v := .pointer (some ⟨gV, F, none⟩)) rfl (by kernel_rfl) (by kernel_rfl) (by kernel_rfl) (by kernel_rfl) (fun _ _ _ h => h) (Or.inl ⟨by rfl, by intro w hSw; go_simp⟩) hHeld ?_
            simp only [Act.put, List.setIfInBounds_toArray, List.set_cons_zero, List.set_cons_succ]
            have hx := wide_and h1 m1
            generalize bits .and .i64 h1 m1 = x1 at *
            refine wpAnyH_ready (rs := [15]) (by kernel_rfl) (by simp) (readySkip (i := 15) rfl (by kernel_rfl) none (by kernel_rfl) (w' := wG.drew.setCell ⟨gV, F, none⟩ (.int .i64 x1)) (by go_simp) ⟨((i.drew hL).setV hL hbl hx).kM, ((i.drew hL).setV hL hbl hx).kX, by rw [World.cell?_setCell_other _ _ _ _ (by simp <;> omega)]; exact cH, by rw [World.cell?_setCell_other _ _ _ _ (by simp <;> omega)]; exact cM⟩ (fun hHeld => ?_) AllReadyH.nil)
            simp only [Act.put, List.setIfInBounds_toArray, List.set_cons_zero, List.set_cons_succ]
            refine wpAnyH_done (by kernel_rfl) ?_ _
            replace i := (i.drew hL).setV hL hbl (F := F) hx
            clear cH cM cV fV
            generalize wG.drew.setCell ⟨gV, F, none⟩ (.int .i64 x1) = wE at *
            go_wp2
            go_roundw
            case rel => exact ⟨K, _, _, by omega, by first | go_num | (congr 1; omega), i⟩
            case measure => simp [intOf]; omega
        · refine wp_region_held_drew (S := (fun w' => w'.heap[gm]? = some (.cells #[sl gV, sl gM] 25 (0, 0)))) (by kernel_rfl) i.kM (fun hHeld => ?_)
          refine take (i := 0) (d := some 49) (v := .pointer (some ⟨gm, 1, none⟩)) rfl (by kernel_rfl) (by kernel_rfl) (by kernel_rfl) (by kernel_rfl) (fun _ _ _ h => h) (Or.inl ⟨by rfl, by intro w hSw; go_simp⟩) hHeld ?_
          simp only [Act.put, List.setIfInBounds_toArray, List.set_cons_zero, List.set_cons_succ]
          refine take (i := 1) (d := some 50) (v := .slice (some ⟨gM, 0, none⟩) 8 8) rfl (by kernel_rfl) (by kernel_rfl) (by kernel_rfl) (by kernel_rfl) (fun _ _ _ h => h) (Or.inl ⟨by rfl, by intro w hSw; obtain ⟨q1, q2⟩ := two hSw; go_simp⟩) hHeld ?_
          simp only [Act.put, List.setIfInBounds_toArray, List.set_cons_zero, List.set_cons_succ]
          refine take (i := 2) (d := some 51) (v := .int .i64 F) rfl (by kernel_rfl) (by kernel_rfl) (by kernel_rfl) (by kernel_rfl) (fun _ _ _ h => h) (Or.inl ⟨by rfl, by intro w hSw; go_simp⟩) hHeld ?_
          simp only [Act.put, List.setIfInBounds_toArray, List.set_cons_zero, List.set_cons_succ]
          refine take (i := 3) (d := some 52) (v := .pointer (some ⟨g, 0, none⟩)) rfl (by kernel_rfl) (by kernel_rfl) (by kernel_rfl) (by kernel_rfl) (fun _ _ _ h => h) (Or.inl ⟨by rfl, by intro w hSw; go_simp⟩) hHeld ?_
          simp only [Act.put, List.setIfInBounds_toArray, List.set_cons_zero, List.set_cons_succ]
          refine wpAnyH_ready (rs := [4]) (by kernel_rfl) (by simp) (Rg.call2 (i := 4) rfl (by kernel_rfl) 74 (.tmp 52) (.const (.int .i64 3)) 98 3 (by kernel_rfl) 53 (by kernel_rfl) (.pointer (some ⟨g, 0, none⟩)) (.int .i64 3) (by kernel_rfl) (by kernel_rfl) (fun _ => rfl) (Dr.below_any _ _ _ _ _ _ 3 _ (i.drew hL).cur (by omega) (by omega)) ?_ AllReadyH.nil)
          rintro e wF ⟨z, rfl, zz0, zz1, hC', hO'⟩
          replace i := (i.drew hL).step hL hO' hC'
          clear hC' hO'
          refine ⟨_, rfl, i.kM, fun hHeld => ?_⟩
          simp only [Act.put, List.setIfInBounds_toArray, List.set_cons_zero, List.set_cons_succ]
          have hz3 : ∃ p2 : Int, Pm.I64 p2 ∧ ((z = 0 ∧ p2 = 1) ∨ (z = 1 ∧ p2 = 2) ∨ (z = 2 ∧ p2 = 4)) := by
            have e : z = 0 ∨ z = 1 ∨ z = 2 := by omega
            rcases e with rfl | rfl | rfl
            · exact ⟨1, by constructor <;> decide, by omega⟩
            · exact ⟨2, by constructor <;> decide, by omega⟩
            · exact ⟨4, by constructor <;> decide, by omega⟩
          obtain ⟨p2, hp2, hcase⟩ := hz3
          refine take (i := 5) (d := some 54) (v := .int .i64 p2) rfl (by kernel_rfl) (by kernel_rfl) (by kernel_rfl) (by kernel_rfl) (fun _ _ _ h => h) (Or.inl ⟨by rfl, by intro w hSw; rcases hcase with ⟨rfl, rfl⟩ | ⟨rfl, rfl⟩ | ⟨rfl, rfl⟩ <;> (go_simp; rfl)⟩) hHeld ?_
          simp only [Act.put, List.setIfInBounds_toArray, List.set_cons_zero, List.set_cons_succ]
          clear hcase
          refine take (i := 6) (d := some 55) (v := .pointer (some ⟨gM, F, none⟩)) rfl (by kernel_rfl) (by kernel_rfl) (by kernel_rfl) (by kernel_rfl) (fun _ _ _ h => h) (Or.inl ⟨by rfl, by intro w hSw; go_simp⟩) hHeld ?_
          simp only [Act.put, List.setIfInBounds_toArray, List.set_cons_zero, List.set_cons_succ]
          obtain ⟨cM, fM⟩ := i.cellM hF8
          refine wpAnyH_ready (rs := [7]) (by kernel_rfl) (by simp) (readySkip (i := 7) rfl (by kernel_rfl) none (by kernel_rfl) (w' := wF.setCell ⟨gM, F, none⟩ (.int .i64 p2)) (by go_simp) (i.setM hL hbl hp2).kM (fun hHeld => ?_) AllReadyH.nil)
          simp only [Act.put, List.setIfInBounds_toArray, List.set_cons_zero, List.set_cons_succ]
          refine wpAnyH_done (by kernel_rfl) ?_ _
          clear cM fM
          replace i := i.setM hL hbl (F := F) hp2
          generalize wF.setCell ⟨gM, F, none⟩ (.int .i64 p2) = wG at *
          go_wp2
          obtain ⟨h1, cH⟩ : ∃ h1 : Int, wG.cell? ⟨gH, F, none⟩ = some (.int .i64 h1) := ⟨_, i.cellH hF8⟩
          obtain ⟨m1, cM⟩ : ∃ m1 : Int, wG.cell? ⟨gM, F, none⟩ = some (.int .i64 m1) := ⟨_, (i.cellM hF8).1⟩
          obtain ⟨cV, fV⟩ := i.cellV hF8
          have lv := hL.vm
          have l9 := hL.mv
          have l8 := hL.h
          have l7 := hL.x
          refine wp_region_held_drew (S := (fun w' => w'.heap[gm]? = some (.cells #[sl gV, sl gM] 25 (0, 0)) ∧ w'.heap[gx]? = some (.cells #[sl gH] 28 (0, 0)) ∧ w'.cell? ⟨gH, F, none⟩ = some (.int .i64 h1) ∧ w'.cell? ⟨gM, F, none⟩ = some (.int .i64 m1))) (by kernel_rfl) ⟨i.kM, i.kX, cH, cM⟩ (fun hHeld => ?_)
          refine take (i := 0) (d := some 56) (v := .pointer (some ⟨gm, 0, none⟩)) rfl (by kernel_rfl) (by kernel_rfl) (by kernel_rfl) (by kernel_rfl) (fun _ _ _ h => h) (Or.inl ⟨by rfl, by intro w hSw; go_simp⟩) hHeld ?_
          simp only [Act.put, List.setIfInBounds_toArray, List.set_cons_zero, List.set_cons_succ]
          refine take (i := 1) (d := some 57) (v := .slice (some ⟨gV, 0, none⟩) 8 8) rfl (by kernel_rfl) (by kernel_rfl) (by kernel_rfl) (by kernel_rfl) (fun _ _ _ h => h) (Or.inl ⟨by rfl, by intro w hSw; obtain ⟨q1, q2⟩ := two hSw.1; go_simp⟩) hHeld ?_
          simp only [Act.put, List.setIfInBounds_toArray, List.set_cons_zero, List.set_cons_succ]
          refine take (i := 2) (d := some 58) (v := .int .i64 F) rfl (by kernel_rfl) (by kernel_rfl) (by kernel_rfl) (by kernel_rfl) (fun _ _ _ h => h) (Or.inl ⟨by rfl, by intro w hSw; go_simp⟩) hHeld ?_
          simp only [Act.put, List.setIfInBounds_toArray, List.set_cons_zero, List.set_cons_succ]
          refine take (i := 3) (d := some 59) (v := .pointer (some ⟨gx, 0, none⟩)) rfl (by kernel_rfl) (by kernel_rfl) (by kernel_rfl) (by kernel_rfl) (fun _ _ _ h => h) (Or.inl ⟨by rfl, by intro w hSw; go_simp⟩) hHeld ?_
          simp only [Act.put, List.setIfInBounds_toArray, List.set_cons_zero, List.set_cons_succ]
          refine take (i := 4) (d := some 60) (v := .slice (some ⟨gH, 0, none⟩) 8 8) rfl (by kernel_rfl) (by kernel_rfl) (by kernel_rfl) (by kernel_rfl) (fun _ _ _ h => h) (Or.inl ⟨by rfl, by intro w hSw; have q1 := Hh.one hSw.2.1; go_simp⟩) hHeld ?_
          simp only [Act.put, List.setIfInBounds_toArray, List.set_cons_zero, List.set_cons_succ]
          refine take (i := 5) (d := some 61) (v := .int .i64 F) rfl (by kernel_rfl) (by kernel_rfl) (by kernel_rfl) (by kernel_rfl) (fun _ _ _ h => h) (Or.inl ⟨by rfl, by intro w hSw; go_simp⟩) hHeld ?_
          simp only [Act.put, List.setIfInBounds_toArray, List.set_cons_zero, List.set_cons_succ]
          refine take (i := 6) (d := some 62) (v := .pointer (some ⟨gH, F, none⟩)) rfl (by kernel_rfl) (by kernel_rfl) (by kernel_rfl) (by kernel_rfl) (fun _ _ _ h => h) (Or.inl ⟨by rfl, by intro w hSw; go_simp⟩) hHeld ?_
          simp only [Act.put, List.setIfInBounds_toArray, List.set_cons_zero, List.set_cons_succ]
          refine take (i := 7) (d := some 63) (v := .int .i64 h1) rfl (by kernel_rfl) (by kernel_rfl) (by kernel_rfl) (by kernel_rfl) (fun _ _ _ h => h) (Or.inl ⟨by rfl, by intro w hSw; have q1 := hSw.2.2.1; go_simp⟩) hHeld ?_
          simp only [Act.put, List.setIfInBounds_toArray, List.set_cons_zero, List.set_cons_succ]
          refine take (i := 8) (d := some 64) (v := .pointer (some ⟨gm, 1, none⟩)) rfl (by kernel_rfl) (by kernel_rfl) (by kernel_rfl) (by kernel_rfl) (fun _ _ _ h => h) (Or.inl ⟨by rfl, by intro w hSw; go_simp⟩) hHeld ?_
          simp only [Act.put, List.setIfInBounds_toArray, List.set_cons_zero, List.set_cons_succ]
          refine take (i := 9) (d := some 65) (v := .slice (some ⟨gM, 0, none⟩) 8 8) rfl (by kernel_rfl) (by kernel_rfl) (by kernel_rfl) (by kernel_rfl) (fun _ _ _ h => h) (Or.inl ⟨by rfl, by intro w hSw; obtain ⟨q1, q2⟩ := two hSw.1; go_simp⟩) hHeld ?_
          simp only [Act.put, List.setIfInBounds_toArray, List.set_cons_zero, List.set_cons_succ]
          refine take (i := 10) (d := some 66) (v := .int .i64 F) rfl (by kernel_rfl) (by kernel_rfl) (by kernel_rfl) (by kernel_rfl) (fun _ _ _ h => h) (Or.inl ⟨by rfl, by intro w hSw; go_simp⟩) hHeld ?_
          simp only [Act.put, List.setIfInBounds_toArray, List.set_cons_zero, List.set_cons_succ]
          refine take (i := 11) (d := some 67) (v := .pointer (some ⟨gM, F, none⟩)) rfl (by kernel_rfl) (by kernel_rfl) (by kernel_rfl) (by kernel_rfl) (fun _ _ _ h => h) (Or.inl ⟨by rfl, by intro w hSw; go_simp⟩) hHeld ?_
          simp only [Act.put, List.setIfInBounds_toArray, List.set_cons_zero, List.set_cons_succ]
          refine take (i := 12) (d := some 68) (v := .int .i64 m1) rfl (by kernel_rfl) (by kernel_rfl) (by kernel_rfl) (by kernel_rfl) (fun _ _ _ h => h) (Or.inl ⟨by rfl, by intro w hSw; have q1 := hSw.2.2.2; go_simp⟩) hHeld ?_
          simp only [Act.put, List.setIfInBounds_toArray, List.set_cons_zero, List.set_cons_succ]
          refine take (i := 13) (d := some 69) (v := .int .i64 (bits .and .i64 h1 m1)) rfl (by kernel_rfl) (by kernel_rfl) (by kernel_rfl) (by kernel_rfl) (fun _ _ _ h => h) (Or.inl ⟨by rfl, by intro w hSw; go_simp⟩) hHeld ?_
          simp only [Act.put, List.setIfInBounds_toArray, List.set_cons_zero, List.set_cons_succ]
          refine take (i := 14) (d := some 70) (v := .pointer (some ⟨gV, F, none⟩)) rfl (by kernel_rfl) (by kernel_rfl) (by kernel_rfl) (by kernel_rfl) (fun _ _ _ h => h) (Or.inl ⟨by rfl, by intro w hSw; go_simp⟩) hHeld ?_
          simp only [Act.put, List.setIfInBounds_toArray, List.set_cons_zero, List.set_cons_succ]
          have hx := wide_and h1 m1
          generalize bits .and .i64 h1 m1 = x1 at *
          refine wpAnyH_ready (rs := [15]) (by kernel_rfl) (by simp) (readySkip (i := 15) rfl (by kernel_rfl) none (by kernel_rfl) (w' := wG.drew.setCell ⟨gV, F, none⟩ (.int .i64 x1)) (by go_simp) ⟨((i.drew hL).setV hL hbl hx).kM, ((i.drew hL).setV hL hbl hx).kX, by rw [World.cell?_setCell_other _ _ _ _ (by simp <;> omega)]; exact cH, by rw [World.cell?_setCell_other _ _ _ _ (by simp <;> omega)]; exact cM⟩ (fun hHeld => ?_) AllReadyH.nil)
          simp only [Act.put, List.setIfInBounds_toArray, List.set_cons_zero, List.set_cons_succ]
          refine wpAnyH_done (by kernel_rfl) ?_ _
          replace i := (i.drew hL).setV hL hbl (F := F) hx
          clear cH cM cV fV
          generalize wG.drew.setCell ⟨gV, F, none⟩ (.int .i64 x1) = wE at *
          go_wp2
          go_roundw
          case rel => exact ⟨K, _, _, by omega, by first | go_num | (congr 1; omega), i⟩
          case measure => simp [intOf]; omega
        · obtain ⟨h1, cH⟩ : ∃ h1 : Int, wD.cell? ⟨gH, F, none⟩ = some (.int .i64 h1) := ⟨_, i.cellH hF8⟩
          obtain ⟨m1, cM⟩ : ∃ m1 : Int, wD.cell? ⟨gM, F, none⟩ = some (.int .i64 m1) := ⟨_, (i.cellM hF8).1⟩
          obtain ⟨cV, fV⟩ := i.cellV hF8
          have lv := hL.vm
          have l9 := hL.mv
          have l8 := hL.h
          have l7 := hL.x
          refine wp_region_held_drew (S := (fun w' => w'.heap[gm]? = some (.cells #[sl gV, sl gM] 25 (0, 0)) ∧ w'.heap[gx]? = some (.cells #[sl gH] 28 (0, 0)) ∧ w'.cell? ⟨gH, F, none⟩ = some (.int .i64 h1) ∧ w'.cell? ⟨gM, F, none⟩ = some (.int .i64 m1))) (by kernel_rfl) ⟨i.kM, i.kX, cH, cM⟩ (fun hHeld => ?_)
          refine take (i := 0) (d := some 56) (v := .pointer (some ⟨gm, 0, none⟩)) rfl (by kernel_rfl) (by kernel_rfl) (by kernel_rfl) (by kernel_rfl) (fun _ _ _ h => h) (Or.inl ⟨by rfl, by intro w hSw; go_simp⟩) hHeld ?_
          simp only [Act.put, List.setIfInBounds_toArray, List.set_cons_zero, List.set_cons_succ]
          refine take (i := 1) (d := some 57) (v := .slice (some ⟨gV, 0, none⟩) 8 8) rfl (by kernel_rfl) (by kernel_rfl) (by kernel_rfl) (by kernel_rfl) (fun _ _ _ h => h) (Or.inl ⟨by rfl, by intro w hSw; obtain ⟨q1, q2⟩ := two hSw.1; go_simp⟩) hHeld ?_
          simp only [Act.put, List.setIfInBounds_toArray, List.set_cons_zero, List.set_cons_succ]
          refine take (i := 2) (d := some 58) (v := .int .i64 F) rfl (by kernel_rfl) (by kernel_rfl) (by kernel_rfl) (by kernel_rfl) (fun _ _ _ h => h) (Or.inl ⟨by rfl, by intro w hSw; go_simp⟩) hHeld ?_
          simp only [Act.put, List.setIfInBounds_toArray, List.set_cons_zero, List.set_cons_succ]
          refine take (i := 3) (d := some 59) (v := .pointer (some ⟨gx, 0, none⟩)) rfl (by kernel_rfl) (by kernel_rfl) (by kernel_rfl) (by kernel_rfl) (fun _ _ _ h => h) (Or.inl ⟨by rfl, by intro w hSw; go_simp⟩) hHeld ?_
          simp only [Act.put, List.setIfInBounds_toArray, List.set_cons_zero, List.set_cons_succ]
          refine take (i := 4) (d := some 60) (v := .slice (some ⟨gH, 0, none⟩) 8 8) rfl (by kernel_rfl) (by kernel_rfl) (by kernel_rfl) (by kernel_rfl) (fun _ _ _ h => h) (Or.inl ⟨by rfl, by intro w hSw; have q1 := Hh.one hSw.2.1; go_simp⟩) hHeld ?_
          simp only [Act.put, List.setIfInBounds_toArray, List.set_cons_zero, List.set_cons_succ]
          refine take (i := 5) (d := some 61) (v := .int .i64 F) rfl (by kernel_rfl) (by kernel_rfl) (by kernel_rfl) (by kernel_rfl) (fun _ _ _ h => h) (Or.inl ⟨by rfl, by intro w hSw; go_simp⟩) hHeld ?_
          simp only [Act.put, List.setIfInBounds_toArray, List.set_cons_zero, List.set_cons_succ]
          refine take (i := 6) (d := some 62) (v := .pointer (some ⟨gH, F, none⟩)) rfl (by kernel_rfl) (by kernel_rfl) (by kernel_rfl) (by kernel_rfl) (fun _ _ _ h => h) (Or.inl ⟨by rfl, by intro w hSw; go_simp⟩) hHeld ?_
          simp only [Act.put, List.setIfInBounds_toArray, List.set_cons_zero, List.set_cons_succ]
          refine take (i := 7) (d := some 63) (v := .int .i64 h1) rfl (by kernel_rfl) (by kernel_rfl) (by kernel_rfl) (by kernel_rfl) (fun _ _ _ h => h) (Or.inl ⟨by rfl, by intro w hSw; have q1 := hSw.2.2.1; go_simp⟩) hHeld ?_
          simp only [Act.put, List.setIfInBounds_toArray, List.set_cons_zero, List.set_cons_succ]
          refine take (i := 8) (d := some 64) (v := .pointer (some ⟨gm, 1, none⟩)) rfl (by kernel_rfl) (by kernel_rfl) (by kernel_rfl) (by kernel_rfl) (fun _ _ _ h => h) (Or.inl ⟨by rfl, by intro w hSw; go_simp⟩) hHeld ?_
          simp only [Act.put, List.setIfInBounds_toArray, List.set_cons_zero, List.set_cons_succ]
          refine take (i := 9) (d := some 65) (v := .slice (some ⟨gM, 0, none⟩) 8 8) rfl (by kernel_rfl) (by kernel_rfl) (by kernel_rfl) (by kernel_rfl) (fun _ _ _ h => h) (Or.inl ⟨by rfl, by intro w hSw; obtain ⟨q1, q2⟩ := two hSw.1; go_simp⟩) hHeld ?_
          simp only [Act.put, List.setIfInBounds_toArray, List.set_cons_zero, List.set_cons_succ]
          refine take (i := 10) (d := some 66) (v := .int .i64 F) rfl (by kernel_rfl) (by kernel_rfl) (by kernel_rfl) (by kernel_rfl) (fun _ _ _ h => h) (Or.inl ⟨by rfl, by intro w hSw; go_simp⟩) hHeld ?_
          simp only [Act.put, List.setIfInBounds_toArray, List.set_cons_zero, List.set_cons_succ]
          refine take (i := 11) (d := some 67) (v := .pointer (some ⟨gM, F, none⟩)) rfl (by kernel_rfl) (by kernel_rfl) (by kernel_rfl) (by kernel_rfl) (fun _ _ _ h => h) (Or.inl ⟨by rfl, by intro w hSw; go_simp⟩) hHeld ?_
          simp only [Act.put, List.setIfInBounds_toArray, List.set_cons_zero, List.set_cons_succ]
          refine take (i := 12) (d := some 68) (v := .int .i64 m1) rfl (by kernel_rfl) (by kernel_rfl) (by kernel_rfl) (by kernel_rfl) (fun _ _ _ h => h) (Or.inl ⟨by rfl, by intro w hSw; have q1 := hSw.2.2.2; go_simp⟩) hHeld ?_
          simp only [Act.put, List.setIfInBounds_toArray, List.set_cons_zero, List.set_cons_succ]
          refine take (i := 13) (d := some 69) (v := .int .i64 (bits .and .i64 h1 m1)) rfl (by kernel_rfl) (by kernel_rfl) (by kernel_rfl) (by kernel_rfl) (fun _ _ _ h => h) (Or.inl ⟨by rfl, by intro w hSw; go_simp⟩) hHeld ?_
          simp only [Act.put, List.setIfInBounds_toArray, List.set_cons_zero, List.set_cons_succ]
          refine take (i := 14) (d := some 70) (v := .pointer (some ⟨gV, F, none⟩)) rfl (by kernel_rfl) (by kernel_rfl) (by kernel_rfl) (by kernel_rfl) (fun _ _ _ h => h) (Or.inl ⟨by rfl, by intro w hSw; go_simp⟩) hHeld ?_
          simp only [Act.put, List.setIfInBounds_toArray, List.set_cons_zero, List.set_cons_succ]
          have hx := wide_and h1 m1
          generalize bits .and .i64 h1 m1 = x1 at *
          refine wpAnyH_ready (rs := [15]) (by kernel_rfl) (by simp) (readySkip (i := 15) rfl (by kernel_rfl) none (by kernel_rfl) (w' := wD.drew.setCell ⟨gV, F, none⟩ (.int .i64 x1)) (by go_simp) ⟨((i.drew hL).setV hL hbl hx).kM, ((i.drew hL).setV hL hbl hx).kX, by rw [World.cell?_setCell_other _ _ _ _ (by simp <;> omega)]; exact cH, by rw [World.cell?_setCell_other _ _ _ _ (by simp <;> omega)]; exact cM⟩ (fun hHeld => ?_) AllReadyH.nil)
          simp only [Act.put, List.setIfInBounds_toArray, List.set_cons_zero, List.set_cons_succ]
          refine wpAnyH_done (by kernel_rfl) ?_ _
          replace i := (i.drew hL).setV hL hbl (F := F) hx
          clear cH cM cV fV
          generalize wD.drew.setCell ⟨gV, F, none⟩ (.int .i64 x1) = wE at *
          go_wp2
          go_roundw
          case rel => exact ⟨K, _, _, by omega, by first | go_num | (congr 1; omega), i⟩
          case measure => simp [intOf]; omega
    · obtain rfl : k = 0 := by omega
      have kM := i.kM
      have kR := i.kR
      obtain ⟨c0, c1⟩ := two kM
      obtain ⟨r0, r1⟩ := two kR
      have fr := Bl.free kR
      have l1 := hL.v
      have l2 := hL.m
      go_wp2
      have e0 := set20 (u := sl gV) kR
      have e1 := set21 (u := sl gM) e0
      obtain ⟨y0, y1⟩ := two e1
      have ek : ∀ k, k ≠ w.heap.size → ((wr.setCell ⟨w.heap.size, 0, none⟩ (sl gV)).setCell ⟨w.heap.size, 1, none⟩ (sl gM)).heap[k]? = wr.heap[k]? := fun k hk => by rw [Below.heap_setCell _ _ _ k (by simpa using hk), Below.heap_setCell _ _ _ k (by simpa using hk)]
      exact bodyPost_ret (v := .agg #[sl gV, sl gM]) (by simp [results, Try.results195, go_sem, y0, y1]) rfl ⟨gV, gM, V, M, rfl, mine_of i.mV (ek _ (by omega)), mine_of i.mM (ek _ (by omega)), i.lV, i.lM, i.wV, i.wM, by omega, by omega, hL.vm, Dr.cur_keep (B := w.heap.size) i.cur (fun k hk => ek k (by omega)) hg hbl, Dr.only_set (Dr.only_set i.only (Nat.le_refl _)) (Nat.le_refl _)⟩

end Go.Proofs.Ytcbhpmgjmpbpmaa.Mz
namespace Go.Proofs.Ytcbhpmgjmpbpmaa.Ta
set_option maxRecDepth 8000
set_option linter.unusedSimpArgs false
set_option linter.unusedVariables false
open Go Go.RowKit
open Num Pl Hr Hh Pq Ht Yh Yl Yu

theorem cur_drew {w : World} {g : Nat} {a : Option Addr} {b off cap : Nat} {c : List Int} (h : Dr.Cur w g a b off cap c) : Dr.Cur w.drew g a b off cap c := Dr.cur_keep h (fun k hk => rfl) (B := w.heap.size) (Dr.cur_lt h) (Dr.rd_lt h.rd)
theorem only_drew' {g : Nat} {w w' : World} (h : Mk.Only g w.drew w') : Mk.Only g w w' := ⟨h.os, h.tape, h.output, h.size, h.block⟩
theorem hasN_mine {w : World} {B g : Nat} {l : List Int} (h : Mine w g l) (hB : B ≤ g) : HasN w B (.slice (some ⟨g, 0, none⟩) l.length l.length) l := by
  obtain ⟨⟨c, hb, hn, hc⟩, hs⟩ := h
  refine ⟨⟨by simp, .inr ⟨g, l.length, c, rfl, hB, hb, Nat.le_refl _, by unfold maxLen; omega, by omega, ?_⟩⟩, by simp⟩
  apply List.ext_getElem?
  intro i
  by_cases hi : i < l.length
  · rw [List.getElem?_take, if_pos (by omega), Array.getElem?_toList, hc i hi]
    simp [List.getD, hi]
  · rw [List.getElem?_take, if_neg (by omega), List.getElem?_eq_none (by simp; omega)]
theorem rd_take {w : World} {a : Option Addr} {b off : Nat} {l : List Int} (h : Hr.Rd w a b off l) (n : Nat) : Hr.Rd w a b off (l.take n) := by
  refine ⟨fun hh => h.head (by simp at hh; omega), fun i hi => ?_, by have := h.size; simp; omega⟩
  have hi' : i < l.length := by simp at hi; omega
  have hn : i < n := by simp at hi; omega
  have e : (l.take n).getD i 0 = l.getD i 0 := by simp [List.getD, hn]
  rw [e]; exact h.cell i hi'
theorem rd_setN {w : World} {a : Option Addr} {b off : Nat} {l : List Int} {x : Addr} {u : Value} (h : Hr.Rd w a b off l) (hne : l.length = 0 ∨ b ≠ x.block) : Hr.Rd (w.setCell x u) a b off l :=
  ⟨h.head, fun i hi => (World.cell?_of_block (Below.heap_setCell w x u b (hne.resolve_left (by omega)))).trans (h.cell i hi), h.size⟩

/-- A match of any kind is handed back, and the cursor goes on. -/
def MatA (w : World) (g : Nat) (a : Option Addr) (b off cap : Nat) (c : List Int) (e : Ending) (w' : World) : Prop :=
  ∃ aV gV cV V aM gM cM M, e = .returned (.agg #[.slice aV (List.length V) cV, .slice aM (List.length M) cM]) ∧ Hr.Rd w' aV gV 0 V ∧ Hr.Rd w' aM gM 0 M ∧ Po.Wide V ∧ Po.Wide M ∧ w.heap.size ≤ gV ∧ w.heap.size ≤ gM ∧ Dr.Cur w' g a b off cap c ∧ Mk.Only g w w'

set_option maxHeartbeats 8000000 in
theorem any_any (g : Nat) (a : Option Addr) (b off cap : Nat) (c : List Int) (w : World) (h : Dr.Cur w g a b off cap c) :
    Calls Try.prog 151 #[.pointer (some ⟨g, 0, none⟩)] w (MatA w g a b off cap c) := by
  obtain ⟨W0, hW0⟩ : ∃ W0, W0 = w.alloc (.cells #[.slice none 0 0, .slice none 0 0] 25) := ⟨_, rfl⟩
  have hg := Dr.cur_lt h
  have hbl := Dr.rd_lt h.rd
  have hC : Dr.Cur W0 g a b off cap c := by subst hW0; exact Dr.cur_alloc h _
  have kR : W0.heap[w.heap.size]? = some (.cells #[.slice none 0 0, .slice none 0 0] 25 (0, 0)) := by subst hW0; exact at_new rfl
  have hO : Mk.Only g w W0 := by subst hW0; exact Dr.only_alloc (Mk.Only.refl _ _) _
  have z0 : w.heap.size < W0.heap.size := by subst hW0; simp
  clear h
  go_enter Try.func151, Try.ntmps151
  go_upto_region 2 with (go_at_call 195; rw [← hW0]; clear hW0; refine (Mz.match_any _ _ _ _ _ _ _ hC).mono ?_; rintro e w1 ⟨gV, gM, V, M, rfl, mV, mM, lV, lM, wV, wM, hgV, hgM, hVM, hC1, hO1⟩; replace kR := (hO1.block _ z0 (by simp; omega)).trans kR; replace hO := Dr.only_trans hO hO1; replace hC := hC1; clear hC1 hO1; try simp only [My.sl])
  obtain ⟨W2, hW2⟩ : ∃ W2, W2 = w1.alloc (.cells #[.slice (some ⟨gV, 0, none⟩) 8 8, .slice (some ⟨gM, 0, none⟩) 8 8] 25) := ⟨_, rfl⟩
  have b2 : Below w1.heap.size w1 W2 := by subst hW2; exact below_alloc1 _ _
  have kT : W2.heap[w1.heap.size]? = some (.cells #[.slice (some ⟨gV, 0, none⟩) 8 8, .slice (some ⟨gM, 0, none⟩) 8 8] 25 (0, 0)) := by subst hW2; exact at_new rfl
  replace kR := (b2.block _ (Ea.blk_lt kR)).trans kR
  have nV : gV < w1.heap.size := mV.row.lt
  have nM : gM < w1.heap.size := mM.row.lt
  replace mV := mV.below b2
  replace mM := mM.below b2
  replace hC : Dr.Cur W2 g a b off cap c := by subst hW2; exact Dr.cur_alloc hC _
  replace hO : Mk.Only g w W2 := by subst hW2; exact Dr.only_alloc hO _
  have sT : w.heap.size < w1.heap.size := by have := mV.row.lt; omega
  rw [← hW2]
  clear hW2 b2
  obtain ⟨T, hT⟩ : ∃ T, T = w1.heap.size := ⟨_, rfl⟩
  rw [← hT] at kT nV nM sT ⊢
  clear hT
  have t1 : True := trivial
  go_upto_if 13 with (first
    | (go_at_call 74; clear t1; refine (Dr.below_any _ _ _ _ _ _ 8 _ hC (by omega) (by omega)).mono ?_; rintro e w3 ⟨F, rfl, F0, F8, hC1, hO1⟩; replace kR := (hO1.block _ (Ea.blk_lt kR) (by simp; omega)).trans kR; replace kT := (hO1.block _ (Ea.blk_lt kT) (by simp; omega)).trans kT; replace mV := own_onlyN mV hO1 (by omega); replace mM := own_onlyN mM hO1 (by omega); replace hO := Dr.only_trans hO hO1; replace hC := hC1; clear hC1 hO1)
    | (go_at_call 74; refine (Dr.below_any _ _ _ _ _ _ 16 _ hC (by omega) (by omega)).mono ?_; rintro e w4 ⟨q, rfl, q0, q16, hC1, hO1⟩; replace kR := (hO1.block _ (Ea.blk_lt kR) (by simp; omega)).trans kR; replace kT := (hO1.block _ (Ea.blk_lt kT) (by simp; omega)).trans kT; replace mV := own_onlyN mV hO1 (by omega); replace mM := own_onlyN mM hO1 (by omega); replace hO := Dr.only_trans hO hO1; replace hC := hC1; clear hC1 hO1))
  obtain ⟨f, rfl⟩ := Int.eq_ofNat_of_zero_le F0
  have hf8 : f < 8 := by omega
  have hq : q = 0 ∨ q = 1 ∨ q = 2 ∨ q = 3 ∨ (¬ q = 0 ∧ ¬ q = 1 ∧ ¬ q = 2 ∧ ¬ q = 3) := by omega
  rcases hq with rfl | rfl | rfl | rfl | ⟨e0, e1, e2, e3⟩
  · have cx := World.rowIs.cell mM.row (i := f) (by omega)
    have fx := World.rowIs.frozen mM.row f
    have nT1 : T ≠ gM := by omega
    have nT2 : gM ≠ T := by omega
    have hfz : (f : Int) < 8 := by omega
    obtain ⟨p0, p1⟩ := Pm.two kT
    go_wp2
    go_region_held3 (fun w' => w'.cell? ⟨T, 0, none⟩ = some (.slice (some ⟨gV, 0, none⟩) 8 8) ∧ w'.cell? ⟨T, 1, none⟩ = some (.slice (some ⟨gM, 0, none⟩) 8 8)) (go_keep) (first
      | (go_at_call 149; refine (Dr.raw_wide _ _ _ _ _ _ _ (by first | exact hC | exact cur_drew hC)).mono ?_; rintro e w5 ⟨y, rfl, hy, hC1, hO1⟩; replace hO1 := (by first | exact hO1 | exact only_drew' hO1 : Mk.Only g w4 w5); clear p0 p1 cx fx; replace kR := (hO1.block _ (Ea.blk_lt kR) (by simp; omega)).trans kR; replace kT := (hO1.block _ (Ea.blk_lt kT) (by simp; omega)).trans kT; replace mV := own_onlyN mV hO1 (by omega); replace mM := own_onlyN mM hO1 (by omega); replace hO := Dr.only_trans hO hO1; replace hC := hC1; clear hC1 hO1; obtain ⟨p0, p1⟩ := Pm.two kT; have cx := World.rowIs.cell mM.row (i := f) (by omega); have fx := World.rowIs.frozen mM.row f))
    obtain ⟨W6, hW6⟩ : ∃ W6, W6 = w5.setCell ⟨gM, f, none⟩ (.int .i64 y) := ⟨_, rfl⟩
    replace kR : W6.heap[w.heap.size]? = some (.cells #[.slice none 0 0, .slice none 0 0] 25 (0, 0)) := by subst hW6; exact Ea.blk_other kR (by omega)
    replace kT : W6.heap[T]? = some (.cells #[.slice (some ⟨gV, 0, none⟩) 8 8, .slice (some ⟨gM, 0, none⟩) 8 8] 25 (0, 0)) := by subst hW6; exact Ea.blk_other kT (by omega)
    have mX : Mine W6 gM (M.set f y) := by subst hW6; exact mine_put mM
    have mO : Mine W6 gV V := by subst hW6; exact mine_of mV (Below.heap_setCell _ _ _ _ (by simp; omega))
    replace hC : Dr.Cur W6 g a b off cap c := by subst hW6; exact Dr.cur_set (B := w.heap.size) hC (by omega) hg hbl
    replace hO : Mk.Only g w W6 := by subst hW6; exact Dr.only_set hO (by omega)
    rw [← hW6]
    clear hW6 cx fx p0 p1 mM mV
    obtain ⟨p0, p1⟩ := Pm.two kT
    obtain ⟨r0, r1⟩ := Pm.two kR
    have fR := Bl.free kR
    go_wp2
    refine bodyPost_ret (v := .agg #[.slice (some ⟨gV, 0, none⟩) 8 8, .slice (some ⟨gM, 0, none⟩) 8 8]) (by simp [results, Try.results151, go_sem, r0, r1]) rfl ?_
    refine ⟨some ⟨gV, 0, none⟩, gV, 8, V, some ⟨gM, 0, none⟩, gM, 8, M.set f y, by simp [lV, lM], ?_, ?_, wV, Hw2.wide_set wM (by unfold Pm.I64; omega), by omega, by omega, ?_, ?_⟩
    · exact rd_setN (rd_setN mO.rd (.inr (by simp; omega))) (.inr (by simp; omega))
    · exact rd_setN (rd_setN mX.rd (.inr (by simp; omega))) (.inr (by simp; omega))
    · exact Dr.cur_set (B := w.heap.size) (Dr.cur_set (B := w.heap.size) hC (Nat.le_refl _) hg hbl) (Nat.le_refl _) hg hbl
    · exact Dr.only_set (Dr.only_set hO (Nat.le_refl _)) (Nat.le_refl _)
  · have cx := World.rowIs.cell mV.row (i := f) (by omega)
    have fx := World.rowIs.frozen mV.row f
    have nT1 : T ≠ gV := by omega
    have nT2 : gV ≠ T := by omega
    have hfz : (f : Int) < 8 := by omega
    obtain ⟨p0, p1⟩ := Pm.two kT
    go_wp2
    go_region_held3 (fun w' => w'.cell? ⟨T, 0, none⟩ = some (.slice (some ⟨gV, 0, none⟩) 8 8) ∧ w'.cell? ⟨T, 1, none⟩ = some (.slice (some ⟨gM, 0, none⟩) 8 8)) (go_keep) (first
      | (go_at_call 149; refine (Dr.raw_wide _ _ _ _ _ _ _ (by first | exact hC | exact cur_drew hC)).mono ?_; rintro e w5 ⟨y, rfl, hy, hC1, hO1⟩; replace hO1 := (by first | exact hO1 | exact only_drew' hO1 : Mk.Only g w4 w5); clear p0 p1 cx fx; replace kR := (hO1.block _ (Ea.blk_lt kR) (by simp; omega)).trans kR; replace kT := (hO1.block _ (Ea.blk_lt kT) (by simp; omega)).trans kT; replace mV := own_onlyN mV hO1 (by omega); replace mM := own_onlyN mM hO1 (by omega); replace hO := Dr.only_trans hO hO1; replace hC := hC1; clear hC1 hO1; obtain ⟨p0, p1⟩ := Pm.two kT; have cx := World.rowIs.cell mV.row (i := f) (by omega); have fx := World.rowIs.frozen mV.row f))
    obtain ⟨W6, hW6⟩ : ∃ W6, W6 = w5.setCell ⟨gV, f, none⟩ (.int .i64 y) := ⟨_, rfl⟩
    replace kR : W6.heap[w.heap.size]? = some (.cells #[.slice none 0 0, .slice none 0 0] 25 (0, 0)) := by subst hW6; exact Ea.blk_other kR (by omega)
    replace kT : W6.heap[T]? = some (.cells #[.slice (some ⟨gV, 0, none⟩) 8 8, .slice (some ⟨gM, 0, none⟩) 8 8] 25 (0, 0)) := by subst hW6; exact Ea.blk_other kT (by omega)
    have mX : Mine W6 gV (V.set f y) := by subst hW6; exact mine_put mV
    have mO : Mine W6 gM M := by subst hW6; exact mine_of mM (Below.heap_setCell _ _ _ _ (by simp; omega))
    replace hC : Dr.Cur W6 g a b off cap c := by subst hW6; exact Dr.cur_set (B := w.heap.size) hC (by omega) hg hbl
    replace hO : Mk.Only g w W6 := by subst hW6; exact Dr.only_set hO (by omega)
    rw [← hW6]
    clear hW6 cx fx p0 p1 mV mM
    obtain ⟨p0, p1⟩ := Pm.two kT
    obtain ⟨r0, r1⟩ := Pm.two kR
    have fR := Bl.free kR
    go_wp2
    refine bodyPost_ret (v := .agg #[.slice (some ⟨gV, 0, none⟩) 8 8, .slice (some ⟨gM, 0, none⟩) 8 8]) (by simp [results, Try.results151, go_sem, r0, r1]) rfl ?_
    refine ⟨some ⟨gV, 0, none⟩, gV, 8, V.set f y, some ⟨gM, 0, none⟩, gM, 8, M, by simp [lV, lM], ?_, ?_, Hw2.wide_set wV (by unfold Pm.I64; omega), wM, by omega, by omega, ?_, ?_⟩
    · exact rd_setN (rd_setN mX.rd (.inr (by simp; omega))) (.inr (by simp; omega))
    · exact rd_setN (rd_setN mO.rd (.inr (by simp; omega))) (.inr (by simp; omega))
    · exact Dr.cur_set (B := w.heap.size) (Dr.cur_set (B := w.heap.size) hC (Nat.le_refl _) hg hbl) (Nat.le_refl _) hg hbl
    · exact Dr.only_set (Dr.only_set hO (Nat.le_refl _)) (Nat.le_refl _)
  · have hfz : (f : Int) ≤ 8 := by omega
    have fT := Bl.free kT
    obtain ⟨p0, p1⟩ := Pm.two kT
    have lT : (V.take f).length = f := by simp [lV]; omega
    go_upto_region 12 with fail
    obtain ⟨W6, hW6⟩ : ∃ W6, W6 = w4.setCell ⟨T, 0, none⟩ (.slice (some ⟨gV, 0, none⟩) f 8) := ⟨_, rfl⟩
    replace kR : W6.heap[w.heap.size]? = some (.cells #[.slice none 0 0, .slice none 0 0] 25 (0, 0)) := by subst hW6; exact Ea.blk_other kR (by omega)
    replace kT : W6.heap[T]? = some (.cells #[.slice (some ⟨gV, 0, none⟩) f 8, .slice (some ⟨gM, 0, none⟩) 8 8] 25 (0, 0)) := by subst hW6; exact Ea.blk_same kT
    replace mV : Mine W6 gV V := by subst hW6; exact mine_of mV (Below.heap_setCell _ _ _ _ (by simp; omega))
    replace mM : Mine W6 gM M := by subst hW6; exact mine_of mM (Below.heap_setCell _ _ _ _ (by simp; omega))
    replace hC : Dr.Cur W6 g a b off cap c := by subst hW6; exact Dr.cur_set (B := w.heap.size) hC (by omega) hg hbl
    replace hO : Mk.Only g w W6 := by subst hW6; exact Dr.only_set hO (by omega)
    rw [← hW6]
    clear hW6 p0 p1 fT
    obtain ⟨p0, p1⟩ := Pm.two kT
    obtain ⟨r0, r1⟩ := Pm.two kR
    have fR := Bl.free kR
    go_wp2
    refine bodyPost_ret (v := .agg #[.slice (some ⟨gV, 0, none⟩) f 8, .slice (some ⟨gM, 0, none⟩) 8 8]) (by simp [results, Try.results151, go_sem, r0, r1]) rfl ?_
    refine ⟨some ⟨gV, 0, none⟩, gV, 8, V.take f, some ⟨gM, 0, none⟩, gM, 8, M, by rw [lT, lM], ?_, ?_, Hw2.wide_take wV f, wM, by omega, by omega, ?_, ?_⟩
    · exact rd_take (rd_setN (rd_setN mV.rd (.inr (by simp; omega))) (.inr (by simp; omega))) f
    · exact rd_setN (rd_setN mM.rd (.inr (by simp; omega))) (.inr (by simp; omega))
    · exact Dr.cur_set (B := w.heap.size) (Dr.cur_set (B := w.heap.size) hC (Nat.le_refl _) hg hbl) (Nat.le_refl _) hg hbl
    · exact Dr.only_set (Dr.only_set hO (Nat.le_refl _)) (Nat.le_refl _)
  · have fT := Bl.free kT
    obtain ⟨p0, p1⟩ := Pm.two kT
    have own0 := hasN_mine mM (B := gM) (Nat.le_refl _)
    rw [lM] at own0
    have own : HasN (w4.alloc (.cells #[.int .i64 0] 3)) gM (.slice (some ⟨gM, 0, none⟩) 8 8) M := ⟨own0.1.alloc _, own0.2⟩
    have lt4 := Ea.blk_lt kT
    have hr1 : Hr.Rd (w4.alloc (.cells #[.int .i64 0] 3)) (some ⟨w4.heap.size, 0, none⟩) w4.heap.size 0 [0] := ⟨fun _ => rfl, fun i hi => by
      have e : i = 0 := by simpa using hi
      subst e
      have := at_new (w := w4) (cs := #[.int .i64 0]) (t := 3) rfl
      exact Hh.one this, by simp⟩
    have lA : (M ++ [0]).length = 9 := by simp [lM]
    have hbM : Hid (∀ k, k ≠ gM → k < w4.heap.size → (w4.alloc (.cells #[.int .i64 0] 3)).heap[k]? = w4.heap[k]?) := fun k _ hk => at_old hk
    go_upto_region 12 with (at_builtin; refine wpList_appN rfl (.tmp 38) (.tmp 39) rfl gM (.slice (some ⟨gM, 0, none⟩) 8 8) M [0] rfl own ⟨w4.heap.size, 0, none⟩ w4.heap.size 0 1 rfl hr1 (by rw [lM]; simp) (by simp; omega) ?_; intro v' w' own' hgr; obtain ⟨g', c', hv', hg', wt', _⟩ := hasN_form own' (by simp; omega); subst hv'; rw [lA]; have gb : ∀ k, k ≠ gM → k < w4.heap.size → w'.heap[k]? = w4.heap[k]? := (fun k hk hl => (hgr.block k (by simp; omega) (fun e => hk (by simpa [Value.ownBlock] using e))).trans (hbM.out k hk hl)); have kT' := (gb T (by omega) lt4).trans kT; have kR' := (gb w.heap.size (by omega) (Ea.blk_lt kR)).trans kR; have mV' := mine_of mV (gb gV hVM mV.row.lt); have hC' := Dr.cur_keep (B := w.heap.size) hC (fun k hk => gb k (by omega) (by have := Ea.blk_lt kR; omega)) hg hbl; have hO' := Dr.only_grown (Dr.only_alloc hO (.cells #[.int .i64 0] 3)) hgr (fun k hk => by have hk' : gM = k := (by simpa [Value.ownBlock] using hk); omega); have q1 := (Pm.two kT').2; have fT' := Bl.free kT')
    obtain ⟨W6, hW6⟩ : ∃ W6, W6 = w'.setCell ⟨T, 1, none⟩ (.slice (some ⟨g', 0, none⟩) 9 c') := ⟨_, rfl⟩
    replace kR : W6.heap[w.heap.size]? = some (.cells #[.slice none 0 0, .slice none 0 0] 25 (0, 0)) := by subst hW6; exact Ea.blk_other kR' (by omega)
    replace kT : W6.heap[T]? = some (.cells #[.slice (some ⟨gV, 0, none⟩) 8 8, .slice (some ⟨g', 0, none⟩) 9 c'] 25 (0, 0)) := by subst hW6; exact Ea.blk_same kT'
    replace mV : Mine W6 gV V := by subst hW6; exact mine_of mV' (Below.heap_setCell _ _ _ _ (by simp; omega))
    have hgT : g' ≠ T := by
      intro e
      subst e
      have q := (wt'.cell 0 (by rw [lA]; omega))
      rw [(Pm.two kT').1] at q
      simp at q
    have hgR : g' ≠ w.heap.size := by omega
    have rM : Hr.Rd W6 (some ⟨g', 0, none⟩) g' 0 (M ++ [0]) := by subst hW6; exact rd_setN wt'.rd (.inr (by simp; omega))
    replace hC : Dr.Cur W6 g a b off cap c := by subst hW6; exact Dr.cur_set (B := w.heap.size) hC' (by omega) hg hbl
    replace hO : Mk.Only g w W6 := by subst hW6; exact Dr.only_set hO' (by omega)
    rw [← hW6]
    clear hW6 p0 p1 fT q1 fT' kT' kR' mV' hC' hO' mM own own0 hr1 own' wt' gb hbM
    obtain ⟨p0, p1⟩ := Pm.two kT
    obtain ⟨r0, r1⟩ := Pm.two kR
    have fR := Bl.free kR
    go_wp2
    refine bodyPost_ret (v := .agg #[.slice (some ⟨gV, 0, none⟩) 8 8, .slice (some ⟨g', 0, none⟩) 9 c']) (by simp [results, Try.results151, go_sem, r0, r1]) rfl ?_
    refine ⟨some ⟨gV, 0, none⟩, gV, 8, V, some ⟨g', 0, none⟩, g', c', M ++ [0], by rw [lV, lA], ?_, ?_, wV, Hw2.wide_app wM (by unfold Pm.I64; omega), by omega, by omega, ?_, ?_⟩
    · exact rd_setN (rd_setN mV.rd (.inr (by simp; omega))) (.inr (by simp; omega))
    · exact rd_setN (rd_setN rM (.inr (by simp; omega))) (.inr (by simp; omega))
    · exact Dr.cur_set (B := w.heap.size) (Dr.cur_set (B := w.heap.size) hC (Nat.le_refl _) hg hbl) (Nat.le_refl _) hg hbl
    · exact Dr.only_set (Dr.only_set hO (Nat.le_refl _)) (Nat.le_refl _)
  · have b0 : (q == 0) = false := by simpa using e0
    have b1 : (q == 1) = false := by simpa using e1
    have b2 : (q == 2) = false := by simpa using e2
    have b3 : (q == 3) = false := by simpa using e3
    obtain ⟨p0, p1⟩ := Pm.two kT
    obtain ⟨r0, r1⟩ := Pm.two kR
    have fR := Bl.free kR
    go_wp2
    refine bodyPost_ret (v := .agg #[.slice (some ⟨gV, 0, none⟩) 8 8, .slice (some ⟨gM, 0, none⟩) 8 8]) (by simp [results, Try.results151, go_sem, r0, r1]) rfl ?_
    refine ⟨some ⟨gV, 0, none⟩, gV, 8, V, some ⟨gM, 0, none⟩, gM, 8, M, by simp [lV, lM], ?_, ?_, wV, wM, by omega, by omega, ?_, ?_⟩
    · exact rd_setN (rd_setN mV.rd (.inr (by simp; omega))) (.inr (by simp; omega))
    · exact rd_setN (rd_setN mM.rd (.inr (by simp; omega))) (.inr (by simp; omega))
    · exact Dr.cur_set (B := w.heap.size) (Dr.cur_set (B := w.heap.size) hC (Nat.le_refl _) hg hbl) (Nat.le_refl _) hg hbl
    · exact Dr.only_set (Dr.only_set hO (Nat.le_refl _)) (Nat.le_refl _)

end Go.Proofs.Ytcbhpmgjmpbpmaa.Ta
