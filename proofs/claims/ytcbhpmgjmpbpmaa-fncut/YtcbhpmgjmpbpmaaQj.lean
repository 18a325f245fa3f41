/-
  Contracts laid together (Mz, Va, Vb, Vc, Back, Vd).
-/
import Derived.Test.YtcbhpmgjmpbpmaaQi
import Derived.Deep.Cut
namespace Go.Proofs.Ytcbhpmgjmpbpmaa.Mz
set_option maxRecDepth 8000
set_option linter.unusedSimpArgs false
set_option linter.unusedVariables false
open Go Go.RowKit
open Num Pl Hr Hh Pq Ht Yh Yl Yu Hw2 My

theorem two {w : World} {g : Nat} {x0 x1 : Value} {t : TypeId} (k : w.heap[g]? = some (.cells #[x0, x1] t (0, 0))) : w.cell? ⟨g, 0, none⟩ = some x0 ∧ w.cell? ⟨g, 1, none⟩ = some x1 := by
  simp [World.cell?, k]
theorem set20 {w : World} {g : Nat} {x0 x1 u : Value} {t : TypeId} (k : w.heap[g]? = some (.cells #[x0, x1] t (0, 0))) : (w.setCell ⟨g, 0, none⟩ u).heap[g]? = some (.cells #[u, x1] t (0, 0)) := by
  simp [World.setCell, Array.getElem?_modify, k]
theorem set21 {w : World} {g : Nat} {x0 x1 u : Value} {t : TypeId} (k : w.heap[g]? = some (.cells #[x0, x1] t (0, 0))) : (w.setCell ⟨g, 1, none⟩ u).heap[g]? = some (.cells #[x0, u] t (0, 0)) := by
  simp [World.setCell, Array.getElem?_modify, k]
theorem wide_and (x y : Int) : Pm.I64 (bits .and .i64 x y) := by
  simp only [bits]
  rw [IntKind.wrap_i64]
  constructor <;> omega
theorem full_wide {f : Nat} (h : f < 8) : Pm.I64 (Mp.fullI f) := by
  rcases Hs.k8 h with rfl | rfl | rfl | rfl | rfl | rfl | rfl | rfl <;> (constructor <;> decide)
theorem wide_nul : Po.Wide (Pm.lst Pa.nul) := wide8 (by constructor <;> decide) (by constructor <;> decide) (by constructor <;> decide) (by constructor <;> decide) (by constructor <;> decide) (by constructor <;> decide) (by constructor <;> decide) (by constructor <;> decide)
/-- A match of two rows of 8 numbers is handed back, in memory of the call's own, and the cursor goes on. -/
def MatD (w : World) (g : Nat) (a : Option Addr) (b off cap : Nat) (c : List Int) (e : Ending) (w' : World) : Prop :=
  ∃ gV gM V M, e = .returned (.agg #[sl gV, sl gM]) ∧ Hr.Mine w' gV V ∧ Hr.Mine w' gM M ∧ V.length = 8 ∧ M.length = 8 ∧ Po.Wide V ∧ Po.Wide M ∧ w.heap.size ≤ gV ∧ w.heap.size ≤ gM ∧ gV ≠ gM ∧ Dr.Cur w' g a b off cap c ∧ Mk.Only g w w'

set_option maxHeartbeats 8000000 in
theorem match_any (g : Nat) (a : Option Addr) (b off cap : Nat) (c : List Int) (w : World) (h : Dr.Cur w g a b off cap c) :
    Calls Try.prog 195 #[.pointer (some ⟨g, 0, none⟩)] w (MatD w g a b off cap c) := by
  obtain ⟨W0, hW0⟩ : ∃ W0, W0 = w.alloc (.cells #[.slice none 0 0, .slice none 0 0] 25) := ⟨_, rfl⟩
  have hg := Dr.cur_lt h
  have hbl := Dr.rd_lt h.rd
  have hC0 : Dr.Cur W0 g a b off cap c := by subst hW0; exact Dr.cur_alloc h _
  have k0 : W0.heap[w.heap.size]? = some (.cells #[.slice none 0 0, .slice none 0 0] 25 (0, 0)) := by subst hW0; exact at_new rfl
  have hO0 : Mk.Only g w W0 := by subst hW0; exact Dr.only_alloc (Mk.Only.refl _ _) _
  have z0 : w.heap.size < W0.heap.size := by subst hW0; simp
  clear h
  go_enter Try.func195, Try.ntmps195
  have t1 : True := trivial
  go_wp2_with (go_at_call 96; clear t1; rw [← hW0]; refine (Mr.allS_mine _).mono ?_; rintro e w1 ⟨gV, gM, rfl, mV, mM, hgV, hgM, hne, hb⟩; clear hW0; replace hC0 := Dr.cur_keep hC0 (fun k hk => hb.block k hk) (Dr.cur_lt hC0) (Dr.rd_lt hC0.rd); replace k0 := (hb.block _ z0).trans k0; replace hO0 := only_below hO0 hb; have z1 := hb.size; clear hb)
  have lV1 := mV.row.lt
  have lM1 := mM.row.lt
  obtain ⟨W2, hW2⟩ : ∃ W2, W2 = w1.alloc (.cells #[sl gV, sl gM] 25) := ⟨_, rfl⟩
  have kM : W2.heap[w1.heap.size]? = some (.cells #[sl gV, sl gM] 25 (0, 0)) := by subst hW2; exact at_new rfl
  have b2 : Below w1.heap.size w1 W2 := by subst hW2; exact below_alloc1 _ _
  replace hC0 := Dr.cur_keep hC0 (fun k hk => b2.block k hk) (Dr.cur_lt hC0) (Dr.rd_lt hC0.rd)
  replace k0 := (b2.block _ (by omega)).trans k0
  replace hO0 := only_below hO0 b2
  replace mV := mV.below b2
  replace mM := mM.below b2
  have z2 := (Array.getElem?_eq_some_iff.1 kM).1
  clear b2
  have t1 : True := trivial
  go_wp2_with (go_at_call 139; clear t1; rw [← hW2]; refine (head_wide _ _ _ _ _ _ _ hC0).mono ?_; rintro e w3 ⟨gH, H, rfl, mH, lH, wH, hgH, hC3, hO'⟩; clear hW2; replace k0 := (hO'.block _ (by omega) (by simp; omega)).trans k0; replace kM := (hO'.block _ z2 (by simp; omega)).trans kM; replace mV := own_onlyN mV hO' (by omega); replace mM := own_onlyN mM hO' (by omega); replace hO0 := Dr.only_trans hO0 hO'; have z3 := hO'.size; clear hO' hC0)
  have lH1 := mH.row.lt
  obtain ⟨W4, hW4⟩ : ∃ W4, W4 = w3.alloc (.cells #[sl gH] 28) := ⟨_, rfl⟩
  have kX : W4.heap[w3.heap.size]? = some (.cells #[sl gH] 28 (0, 0)) := by subst hW4; exact at_new rfl
  have b2 : Below w3.heap.size w3 W4 := by subst hW4; exact below_alloc1 _ _
  have i : My.Inv w W4 g a b off cap c w1.heap.size w3.heap.size gV gM gH H (Pm.lst Pa.nul) (Pm.lst Pa.nul) :=
    ⟨(b2.block _ (by omega)).trans k0, (b2.block _ (by omega)).trans kM, kX, mV.below b2, mM.below b2, mH.below b2, Pm.lst_len _, Pm.lst_len _, lH, wide_nul, wide_nul, wH, Dr.cur_keep hC3 (fun k hk => b2.block k hk) (Dr.cur_lt hC3) (Dr.rd_lt hC3.rd), only_below hO0 b2⟩
  have hL : Lie w g w1.heap.size w3.heap.size gV gM gH := ⟨hg, by omega, by omega, hne, lV1, lM1, by omega, lH1⟩
  obtain ⟨V0, hV0⟩ : ∃ V0, V0 = Pm.lst Pa.nul := ⟨_, rfl⟩
  rw [← hV0] at i
  clear kX b2 k0 kM mV mM mH lH wH hC3 hO0 hV0 lV1 lM1 lH1 z0 z1 z2 z3 hgV hgM hne hgH
  have t1 : True := trivial
  go_wp2_with (go_at_call 74; clear t1; rw [← hW4]; refine (Dr.below_any _ _ _ _ _ _ 4 _ i.cur (by omega) (by omega)).mono ?_; rintro e w5 ⟨x, rfl, x0, x1, hC', hO'⟩; replace i := i.step hL hO' hC'; clear hC' hO' hW4)
  generalize w1.heap.size = gm at *
  generalize w3.heap.size = gx at *
  obtain ⟨n, hn⟩ : ∃ n : Nat, x = n := ⟨x.toNat, by omega⟩
  subst hn
  go_loopw [5, 6, 7] (fun v _ _ wr => ∃ (k : Nat) (V M : List Int), k ≤ 3 ∧ v = .int .i64 k ∧ My.Inv w wr g a b off cap c gm gx gV gM gH H V M) (fun v _ _ _ => (intOf v).toNat)
  case atStart => exact ⟨n, V0, V0, by omega, rfl, i⟩
  case round =>
    clear i
    obtain ⟨k, V, M, hk, rfl, i⟩ := hrel
    by_cases hk0 : 0 < k
    · have hkz : 0 < (k : Int) := by omega
      obtain ⟨K, hK⟩ : ∃ K, k = K + 1 := ⟨k - 1, by omega⟩
      have t1 : True := trivial
      go_wp2_with (go_at_call 74; clear t1; refine (Dr.below_any _ _ _ _ _ _ 8 _ i.cur (by omega) (by omega)).mono ?_; rintro e w6 ⟨f, rfl, f0, f1, hC', hO'⟩; replace i := i.step hL hO' hC'; clear hC' hO')
      have t1 : True := trivial
      go_wp2_with (go_at_call 74; clear t1; refine (Dr.below_any _ _ _ _ _ _ 4 _ i.cur (by omega) (by omega)).mono ?_; rintro e wA ⟨q, rfl, q0, q1, hC', hO'⟩; replace i := i.step hL hO' hC'; clear hC' hO')
      · have t1 : True := trivial
        go_wp2_with (go_at_call 74; clear t1; refine (Dr.below_any _ _ _ _ _ _ 2 _ i.cur (by omega) (by omega)).mono ?_; rintro e wA ⟨y, rfl, y0, y1, hC', hO'⟩; replace i := i.step hL hO' hC'; clear hC' hO')
        obtain ⟨F, hF⟩ : ∃ F : Nat, 1 + y = F := ⟨(1 + y).toNat, by omega⟩
        have hF8 : F < 8 := by omega
        rw [hF]
        clear hF
        have hFz : (F : Int) < 8 := by omega
        refine wp_region_held_drew (S := (fun w' => w'.heap[gm]? = some (.cells #[sl gV, sl gM] 25 (0, 0)))) (by kernel_rfl) i.kM (fun hHeld => ?_)
        refine take (i := 0) (d := some 25) (v := .pointer (some ⟨gm, 1, none⟩)) rfl (by kernel_rfl) (by kernel_rfl) (by kernel_rfl) (by kernel_rfl) (fun _ _ _ h => h) (Or.inl ⟨by rfl, by intro w hSw; go_simp⟩) hHeld ?_
        simp only [Act.put, List.setIfInBounds_toArray, List.set_cons_zero, List.set_cons_succ]
        refine take (i := 1) (d := some 26) (v := .slice (some ⟨gM, 0, none⟩) 8 8) rfl (by kernel_rfl) (by kernel_rfl) (by kernel_rfl) (by kernel_rfl) (fun _ _ _ h => h) (Or.inl ⟨by rfl, by intro w hSw; obtain ⟨q1, q2⟩ := two hSw; go_simp⟩) hHeld ?_
        simp only [Act.put, List.setIfInBounds_toArray, List.set_cons_zero, List.set_cons_succ]
        refine take (i := 2) (d := some 27) (v := .int .i64 F) rfl (by kernel_rfl) (by kernel_rfl) (by kernel_rfl) (by kernel_rfl) (fun _ _ _ h => h) (Or.inl ⟨by rfl, by intro w hSw; go_simp⟩) hHeld ?_
        simp only [Act.put, List.setIfInBounds_toArray, List.set_cons_zero, List.set_cons_succ]
        refine take (i := 3) (d := some 28) (v := .int .i64 F) rfl (by kernel_rfl) (by kernel_rfl) (by kernel_rfl) (by kernel_rfl) (fun _ _ _ h => h) (Or.inl ⟨by rfl, by intro w hSw; go_simp⟩) hHeld ?_
        simp only [Act.put, List.setIfInBounds_toArray, List.set_cons_zero, List.set_cons_succ]
        refine wpAnyH_ready (rs := [4]) (by kernel_rfl) (by simp) (Rg.call1 (i := 4) rfl (by kernel_rfl) 207 (.tmp 28) 3 (by kernel_rfl) 29 (by kernel_rfl) (.int .i64 F) (by kernel_rfl) (fun _ => rfl) (Mu.fullS_any F hF8 _) ?_ AllReadyH.nil)
        rintro e wB ⟨rfl, hb⟩
        replace i := (i.drew hL).below hL hb
        clear hb
        refine ⟨_, rfl, i.kM, fun hHeld => ?_⟩
        simp only [Act.put, List.setIfInBounds_toArray, List.set_cons_zero, List.set_cons_succ]
        obtain ⟨m0, hm0⟩ : ∃ m0 : Int, m0 = Mp.fullI F := ⟨_, rfl⟩
        have hm1 : Pm.I64 m0 := by rw [hm0]; exact full_wide hF8
        rw [← hm0]
        clear hm0
        refine take (i := 5) (d := some 30) (v := .pointer (some ⟨gM, F, none⟩)) rfl (by kernel_rfl) (by kernel_rfl) (by kernel_rfl) (by kernel_rfl) (fun _ _ _ h => h) (Or.inl ⟨by rfl, by intro w hSw; go_simp⟩) hHeld ?_
        simp only [Act.put, List.setIfInBounds_toArray, List.set_cons_zero, List.set_cons_succ]
        obtain ⟨cM, fM⟩ := i.cellM hF8
        refine wpAnyH_ready (rs := [6]) (by kernel_rfl) (by simp) (readySkip (i := 6) rfl (by kernel_rfl) none (by kernel_rfl) (w' := wB.setCell ⟨gM, F, none⟩ (.int .i64 m0)) (by go_simp) (i.setM hL hbl hm1).kM (fun hHeld => ?_) AllReadyH.nil)
        simp only [Act.put, List.setIfInBounds_toArray, List.set_cons_zero, List.set_cons_succ]
        refine wpAnyH_done (by kernel_rfl) ?_ _
        clear cM fM
        replace i := i.setM hL hbl (F := F) hm1
        have hmF : (M.set F m0).getD F 0 = m0 := by have := i.lM; rw [List.length_set] at this; simp [List.getD, this, hF8]
        generalize wB.setCell ⟨gM, F, none⟩ (.int .i64 m0) = wC at *
        have t1 : True := trivial
        go_wp2_with (go_at_call 74; clear t1; refine (Dr.below_any _ _ _ _ _ _ 6 _ i.cur (by omega) (by omega)).mono ?_; rintro e wD ⟨u, rfl, u0, u1, hC', hO'⟩; replace i := i.step hL hO' hC'; clear hC' hO')
        · obtain ⟨m1, cM, wM1⟩ : ∃ m1 : Int, wD.cell? ⟨gM, F, none⟩ = some (.int .i64 m1) ∧ Pm.I64 m1 := ⟨_, (i.cellM hF8).1, i.wM F⟩
          refine wp_region_held_drew (S := (fun w' => w'.heap[gm]? = some (.cells #[sl gV, sl gM] 25 (0, 0)))) (by kernel_rfl) i.kM (fun hHeld => ?_)
          have cMd : wD.drew.cell? ⟨gM, F, none⟩ = some (.int .i64 m1) := cM
          clear cM
          replace i := i.drew hL
          have lm := hL.m
          generalize wD.drew = wD' at *
          refine take (i := 0) (d := some 35) (v := .pointer (some ⟨gm, 1, none⟩)) rfl (by kernel_rfl) (by kernel_rfl) (by kernel_rfl) (by kernel_rfl) (fun _ _ _ h => h) (Or.inl ⟨by rfl, by intro w hSw; go_simp⟩) hHeld ?_
          simp only [Act.put, List.setIfInBounds_toArray, List.set_cons_zero, List.set_cons_succ]
          refine take (i := 1) (d := some 36) (v := .slice (some ⟨gM, 0, none⟩) 8 8) rfl (by kernel_rfl) (by kernel_rfl) (by kernel_rfl) (by kernel_rfl) (fun _ _ _ h => h) (Or.inl ⟨by rfl, by intro w hSw; obtain ⟨q1, q2⟩ := two hSw; go_simp⟩) hHeld ?_
          simp only [Act.put, List.setIfInBounds_toArray, List.set_cons_zero, List.set_cons_succ]
          refine take (i := 2) (d := some 37) (v := .int .i64 F) rfl (by kernel_rfl) (by kernel_rfl) (by kernel_rfl) (by kernel_rfl) (fun _ _ _ h => h) (Or.inl ⟨by rfl, by intro w hSw; go_simp⟩) hHeld ?_
          simp only [Act.put, List.setIfInBounds_toArray, List.set_cons_zero, List.set_cons_succ]
          refine take (i := 3) (d := some 38) (v := .pointer (some ⟨gm, 1, none⟩)) rfl (by kernel_rfl) (by kernel_rfl) (by kernel_rfl) (by kernel_rfl) (fun _ _ _ h => h) (Or.inl ⟨by rfl, by intro w hSw; go_simp⟩) hHeld ?_
          simp only [Act.put, List.setIfInBounds_toArray, List.set_cons_zero, List.set_cons_succ]
          refine take (i := 4) (d := some 39) (v := .slice (some ⟨gM, 0, none⟩) 8 8) rfl (by kernel_rfl) (by kernel_rfl) (by kernel_rfl) (by kernel_rfl) (fun _ _ _ h => h) (Or.inl ⟨by rfl, by intro w hSw; obtain ⟨q1, q2⟩ := two hSw; go_simp⟩) hHeld ?_
          simp only [Act.put, List.setIfInBounds_toArray, List.set_cons_zero, List.set_cons_succ]
          refine take (i := 5) (d := some 40) (v := .int .i64 F) rfl (by kernel_rfl) (by kernel_rfl) (by kernel_rfl) (by kernel_rfl) (fun _ _ _ h => h) (Or.inl ⟨by rfl, by intro w hSw; go_simp⟩) hHeld ?_
          simp only [Act.put, List.setIfInBounds_toArray, List.set_cons_zero, List.set_cons_succ]
          refine take (i := 6) (d := some 41) (v := .pointer (some ⟨gM, F, none⟩)) rfl (by kernel_rfl) (by kernel_rfl) (by kernel_rfl) (by kernel_rfl) (fun _ _ _ h => h) (Or.inl ⟨by rfl, by intro w hSw; go_simp⟩) hHeld ?_
          simp only [Act.put, List.setIfInBounds_toArray, List.set_cons_zero, List.set_cons_succ]
          refine take (i := 8) (d := some 43) (v := .pointer (some ⟨g, 0, none⟩)) rfl (by kernel_rfl) (by kernel_rfl) (by kernel_rfl) (by kernel_rfl) (fun _ _ _ h => h) (Or.inl ⟨by rfl, by intro w hSw; go_simp⟩) hHeld ?_
          simp only [Act.put, List.setIfInBounds_toArray, List.set_cons_zero, List.set_cons_succ]
          refine wpAnyH_ready (rs := [7, 9]) (by kernel_rfl) (by simp) (readyRun (i := 7) rfl (by kernel_rfl) (some 42) (by kernel_rfl) (v := .int .i64 m1) (w' := wD') (by go_simp) i.kM (fun hHeld => ?_) (Rg.call2 (i := 9) rfl (by kernel_rfl) 74 (.tmp 43) (.const (.int .i64 8)) 98 3 (by kernel_rfl) 44 (by kernel_rfl) (.pointer (some ⟨g, 0, none⟩)) (.int .i64 8) (by kernel_rfl) (by kernel_rfl) (fun _ => rfl) (Dr.below_any _ _ _ _ _ _ 8 _ i.cur (by omega) (by omega)) ?_ AllReadyH.nil))
          · simp only [Act.put, List.setIfInBounds_toArray, List.set_cons_zero, List.set_cons_succ]
            refine wpAnyH_ready (rs := [9]) (by kernel_rfl) (by simp) (Rg.call2 (i := 9) rfl (by kernel_rfl) 74 (.tmp 43) (.const (.int .i64 8)) 98 3 (by kernel_rfl) 44 (by kernel_rfl) (.pointer (some ⟨g, 0, none⟩)) (.int .i64 8) (by kernel_rfl) (by kernel_rfl) (fun _ => rfl) (Dr.below_any _ _ _ _ _ _ 8 _ i.cur (by omega) (by omega)) ?_ AllReadyH.nil)
            rintro e wH ⟨z, rfl, zz0, zz1, hC', hO'⟩
            have cMh := (World.cell?_of_block (hO'.block gM i.mM.row.lt (by have := hL.g; simp; omega)) (a := ⟨gM, F, none⟩)).trans cMd
            replace i := i.step hL hO' hC'
            clear hC' hO' cMd
            refine ⟨_, rfl, i.kM, fun hHeld => ?_⟩
            simp only [Act.put, List.setIfInBounds_toArray, List.set_cons_zero, List.set_cons_succ]
            obtain ⟨s1, es1⟩ : ∃ s1 : Int, s1 = IntKind.i64.wrap (m1 - z) := ⟨_, rfl⟩
            have hs1 : Pm.I64 s1 := by rw [es1, IntKind.wrap_i64]; constructor <;> omega
            refine take (i := 10) (d := some 45) (v := .int .i64 s1) rfl (by kernel_rfl) (by kernel_rfl) (by kernel_rfl) (by kernel_rfl) (fun _ _ _ h => h) (Or.inl ⟨by rfl, by intro w hSw; rw [es1]; go_simp⟩) hHeld ?_
            simp only [Act.put, List.setIfInBounds_toArray, List.set_cons_zero, List.set_cons_succ]
            clear es1
            refine take (i := 11) (d := some 46) (v := .pointer (some ⟨gM, F, none⟩)) rfl (by kernel_rfl) (by kernel_rfl) (by kernel_rfl) (by kernel_rfl) (fun _ _ _ h => h) (Or.inl ⟨by rfl, by intro w hSw; go_simp⟩) hHeld ?_
            simp only [Act.put, List.setIfInBounds_toArray, List.set_cons_zero, List.set_cons_succ]
            obtain ⟨_, fM⟩ := i.cellM hF8
            refine wpAnyH_ready (rs := [12]) (by kernel_rfl) (by simp) (readySkip (i := 12) rfl (by kernel_rfl) none (by kernel_rfl) (w' := wH.setCell ⟨gM, F, none⟩ (.int .i64 s1)) (by go_simp) (i.setM hL hbl hs1).kM (fun hHeld => ?_) AllReadyH.nil)
            simp only [Act.put, List.setIfInBounds_toArray, List.set_cons_zero, List.set_cons_succ]
            refine wpAnyH_done (by kernel_rfl) ?_ _
            clear cMh fM
            replace i := i.setM hL hbl (F := F) hs1
            generalize wH.setCell ⟨gM, F, none⟩ (.int .i64 s1) = wG at *
            obtain rfl : u = 0 := eq_of_beq (by assumption)
            go_wp2
            obtain ⟨h1, cH⟩ : ∃ h1 : Int, wG.cell? ⟨gH, F, none⟩ = some (.int .i64 h1) := ⟨_, i.cellH hF8⟩
            obtain ⟨m1, cM⟩ : ∃ m1 : Int, wG.cell? ⟨gM, F, none⟩ = some (.int .i64 m1) := ⟨_, (i.cellM hF8).1⟩
            obtain ⟨cV, fV⟩ := i.cellV hF8
            have lv := hL.vm
            have l9 := hL.mv
            have l8 := hL.h
            have l7 := hL.x
            refine wp_region_held_drew (S := (fun w' => w'.heap[gm]? = some (.cells #[sl gV, sl gM] 25 (0, 0)) ∧ w'.heap[gx]? = some (.cells #[sl gH] 28 (0, 0)) ∧ w'.cell? ⟨gH, F, none⟩ = some (.int .i64 h1) ∧ w'.cell? ⟨gM, F, none⟩ = some (.int .i64 m1))) (by kernel_rfl) ⟨i.kM, i.kX, cH, cM⟩ (fun hHeld => ?_)
            refine take (i := 0) (d := some 56) (v := .pointer (some ⟨gm, 0, none⟩)) rfl (by kernel_rfl) (by kernel_rfl) (by kernel_rfl) (by kernel_rfl) (fun _ _ _ h => h) (Or.inl ⟨by rfl, by intro w hSw; go_simp⟩) hHeld ?_
            simp only [Act.put, List.setIfInBounds_toArray, List.set_cons_zero, List.set_cons_succ]
            refine take (i := 1) (d := some 57) (v := .slice (some ⟨gV, 0, none⟩) 8 8) rfl (by kernel_rfl) (by kernel_rfl) (by kernel_rfl) (by kernel_rfl) (fun _ _ _ h => h) (Or.inl ⟨by rfl, by intro w hSw; obtain ⟨q1, q2⟩ := two hSw.1; go_simp⟩) hHeld ?_
            simp only [Act.put, List.setIfInBounds_toArray, List.set_cons_zero, List.set_cons_succ]
            refine take (i := 2) (d := some 58) (v := .int .i64 F) rfl (by kernel_rfl) (by kernel_rfl) (by kernel_rfl) (by kernel_rfl) (fun _ _ _ h => h) (Or.inl ⟨by rfl, by intro w hSw; go_simp⟩) hHeld ?_
            simp only [Act.put, List.setIfInBounds_toArray, List.set_cons_zero, List.set_cons_succ]
            refine take (i := 3) (d := some 59) (v := .pointer (some ⟨gx, 0, none⟩)) rfl (by kernel_rfl) (by kernel_rfl) (by kernel_rfl) (by kernel_rfl) (fun _ _ _ h => h) (Or.inl ⟨by rfl, by intro w hSw; go_simp⟩) hHeld ?_
            simp only [Act.put, List.setIfInBounds_toArray, List.set_cons_zero, List.set_cons_succ]
            refine take (i := 4) (d := some 60) (v := .slice (some ⟨gH, 0, none⟩) 8 8) rfl (by kernel_rfl) (by kernel_rfl) (by kernel_rfl) (by kernel_rfl) (fun _ _ _ h => h) (Or.inl ⟨by rfl, by intro w hSw; have q1 := Hh.one hSw.2.1; go_simp⟩) hHeld ?_
            simp only [Act.put, List.setIfInBounds_toArray, List.set_cons_zero, List.set_cons_succ]
            refine take (i := 5) (d := some 61) (v := .int .i64 F) rfl (by kernel_rfl) (by kernel_rfl) (by kernel_rfl) (by kernel_rfl) (fun _ _ _ h => h) (Or.inl ⟨by rfl, by intro w hSw; go_simp⟩) hHeld ?_
            simp only [Act.put, List.setIfInBounds_toArray, List.set_cons_zero, List.set_cons_succ]
            refine take (i := 6) (d := some 62) (v := .pointer (some ⟨gH, F, none⟩)) rfl (by kernel_rfl) (by kernel_rfl) (by kernel_rfl) (by kernel_rfl) (fun _ _ _ h => h) (Or.inl ⟨by rfl, by intro w hSw; go_simp⟩) hHeld ?_
            simp only [Act.put, List.setIfInBounds_toArray, List.set_cons_zero, List.set_cons_succ]
            refine take (i := 7) (d := some 63) (v := .int .i64 h1) rfl (by kernel_rfl) (by kernel_rfl) (by kernel_rfl) (by kernel_rfl) (fun _ _ _ h => h) (Or.inl ⟨by rfl, by intro w hSw; have q1 := hSw.2.2.1; go_simp⟩) hHeld ?_
            simp only [Act.put, List.setIfInBounds_toArray, List.set_cons_zero, List.set_cons_succ]
            refine take (i := 8) (d := some 64) (v := .pointer (some ⟨gm, 1, none⟩)) rfl (by kernel_rfl) (by kernel_rfl) (by kernel_rfl) (by kernel_rfl) (fun _ _ _ h => h) (Or.inl ⟨by rfl, by intro w hSw; go_simp⟩) hHeld ?_
            simp only [Act.put, List.setIfInBounds_toArray, List.set_cons_zero, List.set_cons_succ]
            refine take (i := 9) (d := some 65) (v := .slice (some ⟨gM, 0, none⟩) 8 8) rfl (by kernel_rfl) (by kernel_rfl) (by kernel_rfl) (by kernel_rfl) (fun _ _ _ h => h) (Or.inl ⟨by rfl, by intro w hSw; obtain ⟨q1, q2⟩ := two hSw.1; go_simp⟩) hHeld ?_
            simp only [Act.put, List.setIfInBounds_toArray, List.set_cons_zero, List.set_cons_succ]
            refine take (i := 10) (d := some 66) (v := .int .i64 F) rfl (by kernel_rfl) (by kernel_rfl) (by kernel_rfl) (by kernel_rfl) (fun _ _ _ h => h) (Or.inl ⟨by rfl, by intro w hSw; go_simp⟩) hHeld ?_
            simp only [Act.put, List.setIfInBounds_toArray, List.set_cons_zero, List.set_cons_succ]
            refine take (i := 11) (d := some 67) (v := .pointer (some ⟨gM, F, none⟩)) rfl (by kernel_rfl) (by kernel_rfl) (by kernel_rfl) (by kernel_rfl) (fun _ _ _ h => h) (Or.inl ⟨by rfl, by intro w hSw; go_simp⟩) hHeld ?_
            simp only [Act.put, List.setIfInBounds_toArray, List.set_cons_zero, List.set_cons_succ]
            refine take (i := 12) (d := some 68) (v := .int .i64 m1) rfl (by kernel_rfl) (by kernel_rfl) (by kernel_rfl) (by kernel_rfl) (fun _ _ _ h => h) (Or.inl ⟨by rfl, by intro w hSw; have q1 := hSw.2.2.2; go_simp⟩) hHeld ?_
            simp only [Act.put, List.setIfInBounds_toArray, List.set_cons_zero, List.set_cons_succ]
            refine take (i := 13) (d := some 69) (v := .int .i64 (bits .and .i64 h1 m1)) rfl (by kernel_rfl) (by kernel_rfl) (by kernel_rfl) (by kernel_rfl) (fun _ _ _ h => h) (Or.inl ⟨by rfl, by intro w hSw; go_simp⟩) hHeld ?_
            simp only [Act.put, List.setIfInBounds_toArray, List.set_cons_zero, List.set_cons_succ]
            refine take (i := 14) (d := some 70) (v := .pointer (some ⟨gV, F, none⟩)) rfl (by kernel_rfl) (by kernel_rfl) (by kernel_rfl) (by kernel_rfl) (fun _ _ _ h => h) (Or.inl ⟨by rfl, by intro w hSw; go_simp⟩) hHeld ?_
            simp only [Act.put, List.setIfInBounds_toArray, List.set_cons_zero, List.set_cons_succ]
            have hx := wide_and h1 m1
            generalize bits .and .i64 h1 m1 = x1 at *
            refine wpAnyH_ready (rs := [15]) (by kernel_rfl) (by simp) (readySkip (i := 15) rfl (by kernel_rfl) none (by kernel_rfl) (w' := wG.drew.setCell ⟨gV, F, none⟩ (.int .i64 x1)) (by go_simp) ⟨((i.drew hL).setV hL hbl hx).kM, ((i.drew hL).setV hL hbl hx).kX, by rw [World.cell?_setCell_other _ _ _ _ (by simp <;> omega)]; exact cH, by rw [World.cell?_setCell_other _ _ _ _ (by simp <;> omega)]; exact cM⟩ (fun hHeld => ?_) AllReadyH.nil)
            simp only [Act.put, List.setIfInBounds_toArray, List.set_cons_zero, List.set_cons_succ]
            refine wpAnyH_done (by kernel_rfl) ?_ _
            replace i := (i.drew hL).setV hL hbl (F := F) hx
            clear cH cM cV fV
            generalize wG.drew.setCell ⟨gV, F, none⟩ (.int .i64 x1) = wE at *
            go_wp2
            go_roundw
            case rel => exact ⟨K, _, _, by omega, by first | go_num | (congr 1; omega), i⟩
            case measure => simp [intOf]; omega
          · rintro e wH ⟨z, rfl, zz0, zz1, hC', hO'⟩
            have cMh := (World.cell?_of_block (hO'.block gM i.mM.row.lt (by have := hL.g; simp; omega)) (a := ⟨gM, F, none⟩)).trans cMd
            replace i := i.step hL hO' hC'
            clear hC' hO' cMd
            refine ⟨_, rfl, i.kM, fun hHeld => ?_⟩
            simp only [Act.put, List.setIfInBounds_toArray, List.set_cons_zero, List.set_cons_succ]
            refine wpAnyH_ready (rs := [7]) (by kernel_rfl) (by simp) (readyRun (i := 7) rfl (by kernel_rfl) (some 42) (by kernel_rfl) (v := .int .i64 m1) (w' := wH) (by go_simp) i.kM (fun hHeld => ?_) AllReadyH.nil)
            simp only [Act.put, List.setIfInBounds_toArray, List.set_cons_zero, List.set_cons_succ]
            obtain ⟨s1, es1⟩ : ∃ s1 : Int, s1 = IntKind.i64.wrap (m1 - z) := ⟨_, rfl⟩
            have hs1 : Pm.I64 s1 := by rw [es1, IntKind.wrap_i64]; constructor <;> omega
            refine take (i := 10) (d := some 45) (v := .int .i64 s1) rfl (by kernel_rfl) (by kernel_rfl) (by kernel_rfl) (by kernel_rfl) (fun _ _ _ h => h) (Or.inl ⟨by rfl, by intro w hSw; rw [es1]; go_simp⟩) hHeld ?_
            simp only [Act.put, List.setIfInBounds_toArray, List.set_cons_zero, List.set_cons_succ]
            clear es1
            refine take (i := 11) (d := some 46) (v := .pointer (some ⟨gM, F, none⟩)) rfl (by kernel_rfl) (by kernel_rfl) (by kernel_rfl) (by kernel_rfl) (fun _ _ _ h => h) (Or.inl ⟨by rfl, by intro w hSw; go_simp⟩) hHeld ?_
            simp only [Act.put, List.setIfInBounds_toArray, List.set_cons_zero, List.set_cons_succ]
            obtain ⟨_, fM⟩ := i.cellM hF8
            refine wpAnyH_ready (rs := [12]) (by kernel_rfl) (by simp) (readySkip (i := 12) rfl (by kernel_rfl) none (by kernel_rfl) (w' := wH.setCell ⟨gM, F, none⟩ (.int .i64 s1)) (by go_simp) (i.setM hL hbl hs1).kM (fun hHeld => ?_) AllReadyH.nil)
            simp only [Act.put, List.setIfInBounds_toArray, List.set_cons_zero, List.set_cons_succ]
            refine wpAnyH_done (by kernel_rfl) ?_ _
            clear cMh fM
            replace i := i.setM hL hbl (F := F) hs1
            generalize wH.setCell ⟨gM, F, none⟩ (.int .i64 s1) = wG at *
            obtain rfl : u = 0 := eq_of_beq (by assumption)
            go_wp2
            obtain ⟨h1, cH⟩ : ∃ h1 : Int, wG.cell? ⟨gH, F, none⟩ = some (.int .i64 h1) := ⟨_, i.cellH hF8⟩
            obtain ⟨m1, cM⟩ : ∃ m1 : Int, wG.cell? ⟨gM, F, none⟩ = some (.int .i64 m1) := ⟨_, (i.cellM hF8).1⟩
            obtain ⟨cV, fV⟩ := i.cellV hF8
            have lv := hL.vm
            have l9 := hL.mv
            have l8 := hL.h
            have l7 := hL.x
            refine wp_region_held_drew (S := (fun w' => w'.heap[gm]? = some (.cells #[sl gV, sl gM] 25 (0, 0)) ∧ w'.heap[gx]? = some (.cells #[sl gH] 28 (0, 0)) ∧ w'.cell? ⟨gH, F, none⟩ = some (.int .i64 h1) ∧ w'.cell? ⟨gM, F, none⟩ = some (.int .i64 m1))) (by kernel_rfl) ⟨i.kM, i.kX, cH, cM⟩ (fun hHeld => ?_)
            refine take (i := 0) (d := some 56) (v := .pointer (some ⟨gm, 0, none⟩)) rfl (by kernel_rfl) (by kernel_rfl) (by kernel_rfl) (by kernel_rfl) (fun _ _ _ h => h) (Or.inl ⟨by rfl, by intro w hSw; go_simp⟩) hHeld ?_
            simp only [Act.put, List.setIfInBounds_toArray, List.set_cons_zero, List.set_cons_succ]
            refine take (i := 1) (d := some 57) (v := .slice (some ⟨gV, 0, none⟩) 8 8) rfl (by kernel_rfl) (by kernel_rfl) (by kernel_rfl) (by kernel_rfl) (fun _ _ _ h => h) (Or.inl ⟨by rfl, by intro w hSw; obtain ⟨q1, q2⟩ := two hSw.1; go_simp⟩) hHeld ?_
            simp only [Act.put, List.setIfInBounds_toArray, List.set_cons_zero, List.set_cons_succ]
            refine take (i := 2) (d := some 58) (v := .int .i64 F) rfl (by kernel_rfl) (by kernel_rfl) (by kernel_rfl) (by kernel_rfl) (fun _ _ _ h => h) (Or.inl ⟨by rfl, by intro w hSw; go_simp⟩) hHeld ?_
            simp only [Act.put, List.setIfInBounds_toArray, List.set_cons_zero, List.set_cons_succ]
            refine take (i := 3) (d := some 59) (v := .pointer (some ⟨gx, 0, none⟩)) rfl (by kernel_rfl) (by kernel_rfl) (by kernel_rfl) (by kernel_rfl) (fun _ _ _ h => h) (Or.inl ⟨by rfl, by intro w hSw; go_simp⟩) hHeld ?_
            simp only [Act.put, List.setIfInBounds_toArray, List.set_cons_zero, List.set_cons_succ]
            refine take (i := 4) (d := some 60) (v := .slice (some ⟨gH, 0, none⟩) 8 8) rfl (by kernel_rfl) (by kernel_rfl) (by kernel_rfl) (by kernel_rfl) (fun _ _ _ h => h) (Or.inl ⟨by rfl, by intro w hSw; have q1 := Hh.one hSw.2.1; go_simp⟩) hHeld ?_
            simp only [Act.put, List.setIfInBounds_toArray, List.set_cons_zero, List.set_cons_succ]
            refine take (i := 5) (d := some 61) (v := .int .i64 F) rfl (by kernel_rfl) (by kernel_rfl) (by kernel_rfl) (by kernel_rfl) (fun _ _ _ h => h) (Or.inl ⟨by rfl, by intro w hSw; go_simp⟩) hHeld ?_
            simp only [Act.put, List.setIfInBounds_toArray, List.set_cons_zero, List.set_cons_succ]
            refine take (i := 6) (d := some 62) (v := .pointer (some ⟨gH, F, none⟩)) rfl (by kernel_rfl) (by kernel_rfl) (by kernel_rfl) (by kernel_rfl) (fun _ _ _ h => h) (Or.inl ⟨by rfl, by intro w hSw; go_simp⟩) hHeld ?_
            simp only [Act.put, List.setIfInBounds_toArray, List.set_cons_zero, List.set_cons_succ]
            refine take (i := 7) (d := some 63) (v := .int .i64 h1) rfl (by kernel_rfl) (by kernel_rfl) (by kernel_rfl) (by kernel_rfl) (fun _ _ _ h => h) (Or.inl ⟨by rfl, by intro w hSw; have q1 := hSw.2.2.1; go_simp⟩) hHeld ?_
            simp only [Act.put, List.setIfInBounds_toArray, List.set_cons_zero, List.set_cons_succ]
            refine take (i := 8) (d := some 64) (v := .pointer (some ⟨gm, 1, none⟩)) rfl (by kernel_rfl) (by kernel_rfl) (by kernel_rfl) (by kernel_rfl) (fun _ _ _ h => h) (Or.inl ⟨by rfl, by intro w hSw; go_simp⟩) hHeld ?_
            simp only [Act.put, List.setIfInBounds_toArray, List.set_cons_zero, List.set_cons_succ]
            refine take (i := 9) (d := some 65) (v := .slice (some ⟨gM, 0, none⟩) 8 8) rfl (by kernel_rfl) (by kernel_rfl) (by kernel_rfl) (by kernel_rfl) (fun _ _ _ h => h) (Or.inl ⟨by rfl, by intro w hSw; obtain ⟨q1, q2⟩ := two hSw.1; go_simp⟩) hHeld ?_
            simp only [Act.put, List.setIfInBounds_toArray, List.set_cons_zero, List.set_cons_succ]
            refine take (i := 10) (d := some 66) (v := .int .i64 F) rfl (by kernel_rfl) (by kernel_rfl) (by kernel_rfl) (by kernel_rfl) (fun _ _ _ h => h) (Or.inl ⟨by rfl, by intro w hSw; go_simp⟩) hHeld ?_
            simp only [Act.put, List.setIfInBounds_toArray, List.set_cons_zero, List.set_cons_succ]
            refine take (i := 11) (d := some 67) (v := .pointer (some ⟨gM, F, none⟩)) rfl (by kernel_rfl) (by kernel_rfl) (by kernel_rfl) (by kernel_rfl) (fun _ _ _ h => h) (Or.inl ⟨by rfl, by intro w hSw; go_simp⟩) hHeld ?_
            simp only [Act.put, List.setIfInBounds_toArray, List.set_cons_zero, List.set_cons_succ]
            refine take (i := 12) (d := some 68) (v := .int .i64 m1) rfl (by kernel_rfl) (by kernel_rfl) (by kernel_rfl) (by kernel_rfl) (fun _ _ _ h => h) (Or.inl ⟨by rfl, by intro w hSw; have q1 := hSw.2.2.2; go_simp⟩) hHeld ?_
            simp only [Act.put, List.setIfInBounds_toArray, List.set_cons_zero, List.set_cons_succ]
            refine take (i := 13) (d := some 69) (v := .int .i64 (bits .and .i64 h1 m1)) rfl (by kernel_rfl) (by kernel_rfl) (by kernel_rfl) (by kernel_rfl) (fun _ _ _ h => h) (Or.inl ⟨by rfl, by intro w hSw; go_simp⟩) hHeld ?_
            simp only [Act.put, List.setIfInBounds_toArray, List.set_cons_zero, List.set_cons_succ]
            refine take (i := 14) (d := some 70) (v := .pointer (some ⟨gV, F, none⟩)) rfl (by kernel_rfl) (by kernel_rfl) (by kernel_rfl) (by kernel_rfl) (fun _ _ _ h => h) (Or.inl ⟨by rfl, by intro w hSw; go_simp⟩) hHeld ?_
            simp only [Act.put, List.setIfInBounds_toArray, List.set_cons_zero, List.set_cons_succ]
            have hx := wide_and h1 m1
            generalize bits .and .i64 h1 m1 = x1 at *
            refine wpAnyH_ready (rs := [15]) (by kernel_rfl) (by simp) (readySkip (i := 15) rfl (by kernel_rfl) none (by kernel_rfl) (w' := wG.drew.setCell ⟨gV, F, none⟩ (.int .i64 x1)) (by go_simp) ⟨((i.drew hL).setV hL hbl hx).kM, ((i.drew hL).setV hL hbl hx).kX, by rw [World.cell?_setCell_other _ _ _ _ (by simp <;> omega)]; exact cH, by rw [World.cell?_setCell_other _ _ _ _ (by simp <;> omega)]; exact cM⟩ (fun hHeld => ?_) AllReadyH.nil)
            simp only [Act.put, List.setIfInBounds_toArray, List.set_cons_zero, List.set_cons_succ]
            refine wpAnyH_done (by kernel_rfl) ?_ _
            replace i := (i.drew hL).setV hL hbl (F := F) hx
            clear cH cM cV fV
            generalize wG.drew.setCell ⟨gV, F, none⟩ (.int .i64 x1) = wE at *
            go_wp2
            go_roundw
            case rel => exact ⟨K, _, _, by omega, by first | go_num | (congr 1; omega), i⟩
            case measure => simp [intOf]; omega
        · refine wp_region_held_drew (S := (fun w' => w'.heap[gm]? = some (.cells #[sl gV, sl gM] 25 (0, 0)))) (by kernel_rfl) i.kM (fun hHeld => ?_)
          refine take (i := 0) (d := some 49) (v := .pointer (some ⟨gm, 1, none⟩)) rfl (by kernel_rfl) (by kernel_rfl) (by kernel_rfl) (by kernel_rfl) (fun _ _ _ h => h) (Or.inl ⟨by rfl, by intro w hSw; go_simp⟩) hHeld ?_
          simp only [Act.put, List.setIfInBounds_toArray, List.set_cons_zero, List.set_cons_succ]
          refine take (i := 1) (d := some 50) (v := .slice (some ⟨gM, 0, none⟩) 8 8) rfl (by kernel_rfl) (by kernel_rfl) (by kernel_rfl) (by kernel_rfl) (fun _ _ _ h => h) (Or.inl ⟨by rfl, by intro w hSw; obtain ⟨q1, q2⟩ := two hSw; go_simp⟩) hHeld ?_
          simp only [Act.put, List.setIfInBounds_toArray, List.set_cons_zero, List.set_cons_succ]
          refine take (i := 2) (d := some 51) (v := .int .i64 F) rfl (by kernel_rfl) (by kernel_rfl) (by kernel_rfl) (by kernel_rfl) (fun _ _ _ h => h) (Or.inl ⟨by rfl, by intro w hSw; go_simp⟩) hHeld ?_
          simp only [Act.put, List.setIfInBounds_toArray, List.set_cons_zero, List.set_cons_succ]
          refine take (i := 3) (d := some 52) (v := .pointer (some ⟨g, 0, none⟩)) rfl (by kernel_rfl) (by kernel_rfl) (by kernel_rfl) (by kernel_rfl) (fun _ _ _ h => h) (Or.inl ⟨by rfl, by intro w hSw; go_simp⟩) hHeld ?_
          simp only [Act.put, List.setIfInBounds_toArray, List.set_cons_zero, List.set_cons_succ]
          refine wpAnyH_ready (rs := [4]) (by kernel_rfl) (by simp) (Rg.call2 (i := 4) rfl (by kernel_rfl) 74 (.tmp 52) (.const (.int .i64 3)) 98 3 (by kernel_rfl) 53 (by kernel_rfl) (.pointer (some ⟨g, 0, none⟩)) (.int .i64 3) (by kernel_rfl) (by kernel_rfl) (fun _ => rfl) (Dr.below_any _ _ _ _ _ _ 3 _ (i.drew hL).cur (by omega) (by omega)) ?_ AllReadyH.nil)
          rintro e wF ⟨z, rfl, zz0, zz1, hC', hO'⟩
          replace i := (i.drew hL).step hL hO' hC'
          clear hC' hO'
          refine ⟨_, rfl, i.kM, fun hHeld => ?_⟩
          simp only [Act.put, List.setIfInBounds_toArray, List.set_cons_zero, List.set_cons_succ]
          have hz3 : ∃ p2 : Int, Pm.I64 p2 ∧ ((z = 0 ∧ p2 = 1) ∨ (z = 1 ∧ p2 = 2) ∨ (z = 2 ∧ p2 = 4)) := by
            have e : z = 0 ∨ z = 1 ∨ z = 2 := by omega
            rcases e with rfl | rfl | rfl
            · exact ⟨1, by constructor <;> decide, by omega⟩
            · exact ⟨2, by constructor <;> decide, by omega⟩
            · exact ⟨4, by constructor <;> decide, by omega⟩
          obtain ⟨p2, hp2, hcase⟩ := hz3
          refine take (i := 5) (d := some 54) (v := .int .i64 p2) rfl (by kernel_rfl) (by kernel_rfl) (by kernel_rfl) (by kernel_rfl) (fun _ _ _ h => h) (Or.inl ⟨by rfl, by intro w hSw; rcases hcase with ⟨rfl, rfl⟩ | ⟨rfl, rfl⟩ | ⟨rfl, rfl⟩ <;> (go_simp; rfl)⟩) hHeld ?_
          simp only [Act.put, List.setIfInBounds_toArray, List.set_cons_zero, List.set_cons_succ]
          clear hcase
          refine take (i := 6) (d := some 55) (v := .pointer (some ⟨gM, F, none⟩)) rfl (by kernel_rfl) (by kernel_rfl) (by kernel_rfl) (by kernel_rfl) (fun _ _ _ h => h) (Or.inl ⟨by rfl, by intro w hSw; go_simp⟩) hHeld ?_
          simp only [Act.put, List.setIfInBounds_toArray, List.set_cons_zero, List.set_cons_succ]
          obtain ⟨cM, fM⟩ := i.cellM hF8
          refine wpAnyH_ready (rs := [7]) (by kernel_rfl) (by simp) (readySkip (i := 7) rfl (by kernel_rfl) none (by kernel_rfl) (w' := wF.setCell ⟨gM, F, none⟩ (.int .i64 p2)) (by go_simp) (i.setM hL hbl hp2).kM (fun hHeld => ?_) AllReadyH.nil)
          simp only [Act.put, List.setIfInBounds_toArray, List.set_cons_zero, List.set_cons_succ]
          refine wpAnyH_done (by kernel_rfl) ?_ _
          clear cM fM
          replace i := i.setM hL hbl (F := F) hp2
          generalize wF.setCell ⟨gM, F, none⟩ (.int .i64 p2) = wG at *
          go_wp2
          obtain ⟨h1, cH⟩ : ∃ h1 : Int, wG.cell? ⟨gH, F, none⟩ = some (.int .i64 h1) := ⟨_, i.cellH hF8⟩
          obtain ⟨m1, cM⟩ : ∃ m1 : Int, wG.cell? ⟨gM, F, none⟩ = some (.int .i64 m1) := ⟨_, (i.cellM hF8).1⟩
          obtain ⟨cV, fV⟩ := i.cellV hF8
          have lv := hL.vm
          have l9 := hL.mv
          have l8 := hL.h
          have l7 := hL.x
          refine wp_region_held_drew (S := (fun w' => w'.heap[gm]? = some (.cells #[sl gV, sl gM] 25 (0, 0)) ∧ w'.heap[gx]? = some (.cells #[sl gH] 28 (0, 0)) ∧ w'.cell? ⟨gH, F, none⟩ = some (.int .i64 h1) ∧ w'.cell? ⟨gM, F, none⟩ = some (.int .i64 m1))) (by kernel_rfl) ⟨i.kM, i.kX, cH, cM⟩ (fun hHeld => ?_)
          refine take (i := 0) (d := some 56) (v := .pointer (some ⟨gm, 0, none⟩)) rfl (by kernel_rfl) (by kernel_rfl) (by kernel_rfl) (by kernel_rfl) (fun _ _ _ h => h) (Or.inl ⟨by rfl, by intro w hSw; go_simp⟩) hHeld ?_
          simp only [Act.put, List.setIfInBounds_toArray, List.set_cons_zero, List.set_cons_succ]
          refine take (i := 1) (d := some 57) (v := .slice (some ⟨gV, 0, none⟩) 8 8) rfl (by kernel_rfl) (by kernel_rfl) (by kernel_rfl) (by kernel_rfl) (fun _ _ _ h => h) (Or.inl ⟨by rfl, by intro w hSw; obtain ⟨q1, q2⟩ := two hSw.1; go_simp⟩) hHeld ?_
          simp only [Act.put, List.setIfInBounds_toArray, List.set_cons_zero, List.set_cons_succ]
          refine take (i := 2) (d := some 58) (v := .int .i64 F) rfl (by kernel_rfl) (by kernel_rfl) (by kernel_rfl) (by kernel_rfl) (fun _ _ _ h => h) (Or.inl ⟨by rfl, by intro w hSw; go_simp⟩) hHeld ?_
          simp only [Act.put, List.setIfInBounds_toArray, List.set_cons_zero, List.set_cons_succ]
          refine take (i := 3) (d := some 59) (v := .pointer (some ⟨gx, 0, none⟩)) rfl (by kernel_rfl) (by kernel_rfl) (by kernel_rfl) (by kernel_rfl) (fun _ _ _ h => h) (Or.inl ⟨by rfl, by intro w hSw; go_simp⟩) hHeld ?_
          simp only [Act.put, List.setIfInBounds_toArray, List.set_cons_zero, List.set_cons_succ]
          refine take (i := 4) (d := some 60) (v := .slice (some ⟨gH, 0, none⟩) 8 8) rfl (by kernel_rfl) (by kernel_rfl) (by kernel_rfl) (by kernel_rfl) (fun _ _ _ h => h) (Or.inl ⟨by rfl, by intro w hSw; have q1 := Hh.one hSw.2.1; go_simp⟩) hHeld ?_
          simp only [Act.put, List.setIfInBounds_toArray, List.set_cons_zero, List.set_cons_succ]
          refine take (i := 5) (d := some 61) (v := .int .i64 F) rfl (by kernel_rfl) (by kernel_rfl) (by kernel_rfl) (by kernel_rfl) (fun _ _ _ h => h) (Or.inl ⟨by rfl, by intro w hSw; go_simp⟩) hHeld ?_
          simp only [Act.put, List.setIfInBounds_toArray, List.set_cons_zero, List.set_cons_succ]
          refine take (i := 6) (d := some 62) (v := .pointer (some ⟨gH, F, none⟩)) rfl (by kernel_rfl) (by kernel_rfl) (by kernel_rfl) (by kernel_rfl) (fun _ _ _ h => h) (Or.inl ⟨by rfl, by intro w hSw; go_simp⟩) hHeld ?_
          simp only [Act.put, List.setIfInBounds_toArray, List.set_cons_zero, List.set_cons_succ]
          refine take (i := 7) (d := some 63) (v := .int .i64 h1) rfl (by kernel_rfl) (by kernel_rfl) (by kernel_rfl) (by kernel_rfl) (fun _ _ _ h => h) (Or.inl ⟨by rfl, by intro w hSw; have q1 := hSw.2.2.1; go_simp⟩) hHeld ?_
          simp only [Act.put, List.setIfInBounds_toArray, List.set_cons_zero, List.set_cons_succ]
          refine take (i := 8) (d := some 64) (v := .pointer (some ⟨gm, 1, none⟩)) rfl (by kernel_rfl) (by kernel_rfl) (by kernel_rfl) (by kernel_rfl) (fun _ _ _ h => h) (Or.inl ⟨by rfl, by intro w hSw; go_simp⟩) hHeld ?_
          simp only [Act.put, List.setIfInBounds_toArray, List.set_cons_zero, List.set_cons_succ]
          refine take (i := 9) (d := some 65) (v := .slice (some ⟨gM, 0, none⟩) 8 8) rfl (by kernel_rfl) (by kernel_rfl) (by kernel_rfl) (by kernel_rfl) (fun _ _ _ h => h) (Or.inl ⟨by rfl, by intro w hSw; obtain ⟨q1, q2⟩ := two hSw.1; go_simp⟩) hHeld ?_
          simp only [Act.put, List.setIfInBounds_toArray, List.set_cons_zero, List.set_cons_succ]
          refine take (i := 10) (d := some 66) (v := .int .i64 F) rfl (by kernel_rfl) (by kernel_rfl) (by kernel_rfl) (by kernel_rfl) (fun _ _ _ h => h) (Or.inl ⟨by rfl, by intro w hSw; go_simp⟩) hHeld ?_
          simp only [Act.put, List.setIfInBounds_toArray, List.set_cons_zero, List.set_cons_succ]
          refine take (i := 11) (d := some 67) (v := .pointer (some ⟨gM, F, none⟩)) rfl (by kernel_rfl) (by kernel_rfl) (by kernel_rfl) (by kernel_rfl) (fun _ _ _ h => h) (Or.inl ⟨by rfl, by intro w hSw; go_simp⟩) hHeld ?_
          simp only [Act.put, List.setIfInBounds_toArray, List.set_cons_zero, List.set_cons_succ]
          refine take (i := 12) (d := some 68) (v := .int .i64 m1) rfl (by kernel_rfl) (by kernel_rfl) (by kernel_rfl) (by kernel_rfl) (fun _ _ _ h => h) (Or.inl ⟨by rfl, by intro w hSw; have q1 := hSw.2.2.2; go_simp⟩) hHeld ?_
          simp only [Act.put, List.setIfInBounds_toArray, List.set_cons_zero, List.set_cons_succ]
          refine take (i := 13) (d := some 69) (v := .int .i64 (bits .and .i64 h1 m1)) rfl (by kernel_rfl) (by kernel_rfl) (by kernel_rfl) (by kernel_rfl) (fun _ _ _ h => h) (Or.inl ⟨by rfl, by intro w hSw; go_simp⟩) hHeld ?_
          simp only [Act.put, List.setIfInBounds_toArray, List.set_cons_zero, List.set_cons_succ]
          refine take (i := 14) (d := some 70) (v := .pointer (some ⟨gV, F, none⟩)) rfl (by kernel_rfl) (by kernel_rfl) (by kernel_rfl) (by kernel_rfl) (fun _ _ _ h => h) (Or.inl ⟨by rfl, by intro w hSw; go_simp⟩) hHeld ?_
          simp only [Act.put, List.setIfInBounds_toArray, List.set_cons_zero, List.set_cons_succ]
          have hx := wide_and h1 m1
          generalize bits .and .i64 h1 m1 = x1 at *
          refine wpAnyH_ready (rs := [15]) (by kernel_rfl) (by simp) (readySkip (i := 15) rfl (by kernel_rfl) none (by kernel_rfl) (w' := wG.drew.setCell ⟨gV, F, none⟩ (.int .i64 x1)) (by go_simp) ⟨((i.drew hL).setV hL hbl hx).kM, ((i.drew hL).setV hL hbl hx).kX, by rw [World.cell?_setCell_other _ _ _ _ (by simp <;> omega)]; exact cH, by rw [World.cell?_setCell_other _ _ _ _ (by simp <;> omega)]; exact cM⟩ (fun hHeld => ?_) AllReadyH.nil)
          simp only [Act.put, List.setIfInBounds_toArray, List.set_cons_zero, List.set_cons_succ]
          refine wpAnyH_done (by kernel_rfl) ?_ _
          replace i := (i.drew hL).setV hL hbl (F := F) hx
          clear cH cM cV fV
          generalize wG.drew.setCell ⟨gV, F, none⟩ (.int .i64 x1) = wE at *
          go_wp2
          go_roundw
          case rel => exact ⟨K, _, _, by omega, by first | go_num | (congr 1; omega), i⟩
          case measure => simp [intOf]; omega
        · obtain ⟨h1, cH⟩ : ∃ h1 : Int, wD.cell? ⟨gH, F, none⟩ = some (.int .i64 h1) := ⟨_, i.cellH hF8⟩
          obtain ⟨m1, cM⟩ : ∃ m1 : Int, wD.cell? ⟨gM, F, none⟩ = some (.int .i64 m1) := ⟨_, (i.cellM hF8).1⟩
          obtain ⟨cV, fV⟩ := i.cellV hF8
          have lv := hL.vm
          have l9 := hL.mv
          have l8 := hL.h
          have l7 := hL.x
          refine wp_region_held_drew (S := (fun w' => w'.heap[gm]? = some (.cells #[sl gV, sl gM] 25 (0, 0)) ∧ w'.heap[gx]? = some (.cells #[sl gH] 28 (0, 0)) ∧ w'.cell? ⟨gH, F, none⟩ = some (.int .i64 h1) ∧ w'.cell? ⟨gM, F, none⟩ = some (.int .i64 m1))) (by kernel_rfl) ⟨i.kM, i.kX, cH, cM⟩ (fun hHeld => ?_)
          refine take (i := 0) (d := some 56) (v := .pointer (some ⟨gm, 0, none⟩)) rfl (by kernel_rfl) (by kernel_rfl) (by kernel_rfl) (by kernel_rfl) (fun _ _ _ h => h) (Or.inl ⟨by rfl, by intro w hSw; go_simp⟩) hHeld ?_
          simp only [Act.put, List.setIfInBounds_toArray, List.set_cons_zero, List.set_cons_succ]
          refine take (i := 1) (d := some 57) (v := .slice (some ⟨gV, 0, none⟩) 8 8) rfl (by kernel_rfl) (by kernel_rfl) (by kernel_rfl) (by kernel_rfl) (fun _ _ _ h => h) (Or.inl ⟨by rfl, by intro w hSw; obtain ⟨q1, q2⟩ := two hSw.1; go_simp⟩) hHeld ?_
          simp only [Act.put, List.setIfInBounds_toArray, List.set_cons_zero, List.set_cons_succ]
          refine take (i := 2) (d := some 58) (v := .int .i64 F) rfl (by kernel_rfl) (by kernel_rfl) (by kernel_rfl) (by kernel_rfl) (fun _ _ _ h => h) (Or.inl ⟨by rfl, by intro w hSw; go_simp⟩) hHeld ?_
          simp only [Act.put, List.setIfInBounds_toArray, List.set_cons_zero, List.set_cons_succ]
          refine take (i := 3) (d := some 59) (v := .pointer (some ⟨gx, 0, none⟩)) rfl (by kernel_rfl) (by kernel_rfl) (by kernel_rfl) (by kernel_rfl) (fun _ _ _ h => h) (Or.inl ⟨by rfl, by intro w hSw; go_simp⟩) hHeld ?_
          simp only [Act.put, List.setIfInBounds_toArray, List.set_cons_zero, List.set_cons_succ]
          refine take (i := 4) (d := some 60) (v := .slice (some ⟨gH, 0, none⟩) 8 8) rfl (by kernel_rfl) (by kernel_rfl) (by kernel_rfl) (by kernel_rfl) (fun _ _ _ h => h) (Or.inl ⟨by rfl, by intro w hSw; have q1 := Hh.one hSw.2.1; go_simp⟩) hHeld ?_
          simp only [Act.put, List.setIfInBounds_toArray, List.set_cons_zero, List.set_cons_succ]
          refine take (i := 5) (d := some 61) (v := .int .i64 F) rfl (by kernel_rfl) (by kernel_rfl) (by kernel_rfl) (by kernel_rfl) (fun _ _ _ h => h) (Or.inl ⟨by rfl, by intro w hSw; go_simp⟩) hHeld ?_
          simp only [Act.put, List.setIfInBounds_toArray, List.set_cons_zero, List.set_cons_succ]
          refine take (i := 6) (d := some 62) (v := .pointer (some ⟨gH, F, none⟩)) rfl (by kernel_rfl) (by kernel_rfl) (by kernel_rfl) (by kernel_rfl) (fun _ _ _ h => h) (Or.inl ⟨by rfl, by intro w hSw; go_simp⟩) hHeld ?_
          simp only [Act.put, List.setIfInBounds_toArray, List.set_cons_zero, List.set_cons_succ]
          refine take (i := 7) (d := some 63) (v := .int .i64 h1) rfl (by kernel_rfl) (by kernel_rfl) (by kernel_rfl) (by kernel_rfl) (fun _ _ _ h => h) (Or.inl ⟨by rfl, by intro w hSw; have q1 := hSw.2.2.1; go_simp⟩) hHeld ?_
          simp only [Act.put, List.setIfInBounds_toArray, List.set_cons_zero, List.set_cons_succ]
          refine take (i := 8) (d := some 64) (v := .pointer (some ⟨gm, 1, none⟩)) rfl (by kernel_rfl) (by kernel_rfl) (by kernel_rfl) (by kernel_rfl) (fun _ _ _ h => h) (Or.inl ⟨by rfl, by intro w hSw; go_simp⟩) hHeld ?_
          simp only [Act.put, List.setIfInBounds_toArray, List.set_cons_zero, List.set_cons_succ]
          refine take (i := 9) (d := some 65) (v := .slice (some ⟨gM, 0, none⟩) 8 8) rfl (by kernel_rfl) (by kernel_rfl) (by kernel_rfl) (by kernel_rfl) (fun _ _ _ h => h) (Or.inl ⟨by rfl, by intro w hSw; obtain ⟨q1, q2⟩ := two hSw.1; go_simp⟩) hHeld ?_
          simp only [Act.put, List.setIfInBounds_toArray, List.set_cons_zero, List.set_cons_succ]
          refine take (i := 10) (d := some 66) (v := .int .i64 F) rfl (by kernel_rfl) (by kernel_rfl) (by kernel_rfl) (by kernel_rfl) (fun _ _ _ h => h) (Or.inl ⟨by rfl, by intro w hSw; go_simp⟩) hHeld ?_
          simp only [Act.put, List.setIfInBounds_toArray, List.set_cons_zero, List.set_cons_succ]
          refine take (i := 11) (d := some 67) (v := .pointer (some ⟨gM, F, none⟩)) rfl (by kernel_rfl) (by kernel_rfl) (by kernel_rfl) (by kernel_rfl) (fun _ _ _ h => h) (Or.inl ⟨by rfl, by intro w hSw; go_simp⟩) hHeld ?_
          simp only [Act.put, List.setIfInBounds_toArray, List.set_cons_zero, List.set_cons_succ]
          refine take (i := 12) (d := some 68) (v := .int .i64 m1) rfl (by kernel_rfl) (by kernel_rfl) (by kernel_rfl) (by kernel_rfl) (fun _ _ _ h => h) (Or.inl ⟨by rfl, by intro w hSw; have q1 := hSw.2.2.2; go_simp⟩) hHeld ?_
          simp only [Act.put, List.setIfInBounds_toArray, List.set_cons_zero, List.set_cons_succ]
          refine take (i := 13) (d := some 69) (v := .int .i64 (bits .and .i64 h1 m1)) rfl (by kernel_rfl) (by kernel_rfl) (by kernel_rfl) (by kernel_rfl) (fun _ _ _ h => h) (Or.inl ⟨by rfl, by intro w hSw; go_simp⟩) hHeld ?_
          simp only [Act.put, List.setIfInBounds_toArray, List.set_cons_zero, List.set_cons_succ]
          refine take (i := 14) (d := some 70) (v := .pointer (some ⟨gV, F, none⟩)) rfl (by kernel_rfl) (by kernel_rfl) (by kernel_rfl) (by kernel_rfl) (fun _ _ _ h => h) (Or.inl ⟨by rfl, by intro w hSw; go_simp⟩) hHeld ?_
          simp only [Act.put, List.setIfInBounds_toArray, List.set_cons_zero, List.set_cons_succ]
          have hx := wide_and h1 m1
          generalize bits .and .i64 h1 m1 = x1 at *
          refine wpAnyH_ready (rs := [15]) (by kernel_rfl) (by simp) (readySkip (i := 15) rfl (by kernel_rfl) none (by kernel_rfl) (w' := wD.drew.setCell ⟨gV, F, none⟩ (.int .i64 x1)) (by go_simp) ⟨((i.drew hL).setV hL hbl hx).kM, ((i.drew hL).setV hL hbl hx).kX, by rw [World.cell?_setCell_other _ _ _ _ (by simp <;> omega)]; exact cH, by rw [World.cell?_setCell_other _ _ _ _ (by simp <;> omega)]; exact cM⟩ (fun hHeld => ?_) AllReadyH.nil)
          simp only [Act.put, List.setIfInBounds_toArray, List.set_cons_zero, List.set_cons_succ]
          refine wpAnyH_done (by kernel_rfl) ?_ _
          replace i := (i.drew hL).setV hL hbl (F := F) hx
          clear cH cM cV fV
          generalize wD.drew.setCell ⟨gV, F, none⟩ (.int .i64 x1) = wE at *
          go_wp2
          go_roundw
          case rel => exact ⟨K, _, _, by omega, by first | go_num | (congr 1; omega), i⟩
          case measure => simp [intOf]; omega
      · obtain ⟨F, hF⟩ : ∃ F : Nat, f = F := ⟨f.toNat, by omega⟩
        subst hF
        have hF8 : F < 8 := by omega
        have hFz : (F : Int) < 8 := by omega
        refine wp_region_held_drew (S := (fun w' => w'.heap[gm]? = some (.cells #[sl gV, sl gM] 25 (0, 0)))) (by kernel_rfl) i.kM (fun hHeld => ?_)
        refine take (i := 0) (d := some 25) (v := .pointer (some ⟨gm, 1, none⟩)) rfl (by kernel_rfl) (by kernel_rfl) (by kernel_rfl) (by kernel_rfl) (fun _ _ _ h => h) (Or.inl ⟨by rfl, by intro w hSw; go_simp⟩) hHeld ?_
        simp only [Act.put, List.setIfInBounds_toArray, List.set_cons_zero, List.set_cons_succ]
        refine take (i := 1) (d := some 26) (v := .slice (some ⟨gM, 0, none⟩) 8 8) rfl (by kernel_rfl) (by kernel_rfl) (by kernel_rfl) (by kernel_rfl) (fun _ _ _ h => h) (Or.inl ⟨by rfl, by intro w hSw; obtain ⟨q1, q2⟩ := two hSw; go_simp⟩) hHeld ?_
        simp only [Act.put, List.setIfInBounds_toArray, List.set_cons_zero, List.set_cons_succ]
        refine take (i := 2) (d := some 27) (v := .int .i64 F) rfl (by kernel_rfl) (by kernel_rfl) (by kernel_rfl) (by kernel_rfl) (fun _ _ _ h => h) (Or.inl ⟨by rfl, by intro w hSw; go_simp⟩) hHeld ?_
        simp only [Act.put, List.setIfInBounds_toArray, List.set_cons_zero, List.set_cons_succ]
        refine take (i := 3) (d := some 28) (v := .int .i64 F) rfl (by kernel_rfl) (by kernel_rfl) (by kernel_rfl) (by kernel_rfl) (fun _ _ _ h => h) (Or.inl ⟨by rfl, by intro w hSw; go_simp⟩) hHeld ?_
        simp only [Act.put, List.setIfInBounds_toArray, List.set_cons_zero, List.set_cons_succ]
        refine wpAnyH_ready (rs := [4]) (by kernel_rfl) (by simp) (Rg.call1 (i := 4) rfl (by kernel_rfl) 207 (.tmp 28) 3 (by kernel_rfl) 29 (by kernel_rfl) (.int .i64 F) (by kernel_rfl) (fun _ => rfl) (Mu.fullS_any F hF8 _) ?_ AllReadyH.nil)
        rintro e wB ⟨rfl, hb⟩
        replace i := (i.drew hL).below hL hb
        clear hb
        refine ⟨_, rfl, i.kM, fun hHeld => ?_⟩
        simp only [Act.put, List.setIfInBounds_toArray, List.set_cons_zero, List.set_cons_succ]
        obtain ⟨m0, hm0⟩ : ∃ m0 : Int, m0 = Mp.fullI F := ⟨_, rfl⟩
        have hm1 : Pm.I64 m0 := by rw [hm0]; exact full_wide hF8
        rw [← hm0]
        clear hm0
        refine take (i := 5) (d := some 30) (v := .pointer (some ⟨gM, F, none⟩)) rfl (by kernel_rfl) (by kernel_rfl) (by kernel_rfl) (by kernel_rfl) (fun _ _ _ h => h) (Or.inl ⟨by rfl, by intro w hSw; go_simp⟩) hHeld ?_
        simp only [Act.put, List.setIfInBounds_toArray, List.set_cons_zero, List.set_cons_succ]
        obtain ⟨cM, fM⟩ := i.cellM hF8
        refine wpAnyH_ready (rs := [6]) (by kernel_rfl) (by simp) (readySkip (i := 6) rfl (by kernel_rfl) none (by kernel_rfl) (w' := wB.setCell ⟨gM, F, none⟩ (.int .i64 m0)) (by go_simp) (i.setM hL hbl hm1).kM (fun hHeld => ?_) AllReadyH.nil)
        simp only [Act.put, List.setIfInBounds_toArray, List.set_cons_zero, List.set_cons_succ]
        refine wpAnyH_done (by kernel_rfl) ?_ _
        clear cM fM
        replace i := i.setM hL hbl (F := F) hm1
        have hmF : (M.set F m0).getD F 0 = m0 := by have := i.lM; rw [List.length_set] at this; simp [List.getD, this, hF8]
        generalize wB.setCell ⟨gM, F, none⟩ (.int .i64 m0) = wC at *
        have t1 : True := trivial
        go_wp2_with (go_at_call 74; clear t1; refine (Dr.below_any _ _ _ _ _ _ 6 _ i.cur (by omega) (by omega)).mono ?_; rintro e wD ⟨u, rfl, u0, u1, hC', hO'⟩; replace i := i.step hL hO' hC'; clear hC' hO')
        · obtain ⟨m1, cM, wM1⟩ : ∃ m1 : Int, wD.cell? ⟨gM, F, none⟩ = some (.int .i64 m1) ∧ Pm.I64 m1 := ⟨_, (i.cellM hF8).1, i.wM F⟩
          refine wp_region_held_drew (S := (fun w' => w'.heap[gm]? = some (.cells #[sl gV, sl gM] 25 (0, 0)))) (by kernel_rfl) i.kM (fun hHeld => ?_)
          have cMd : wD.drew.cell? ⟨gM, F, none⟩ = some (.int .i64 m1) := cM
          clear cM
          replace i := i.drew hL
          have lm := hL.m
          generalize wD.drew = wD' at *
          refine take (i := 0) (d := some 35) (v := .pointer (some ⟨gm, 1, none⟩)) rfl (by kernel_rfl) (by kernel_rfl) (by kernel_rfl) (by kernel_rfl) (fun _ _ _ h => h) (Or.inl ⟨by rfl, by intro w hSw; go_simp⟩) hHeld ?_
          simp only [Act.put, List.setIfInBounds_toArray, List.set_cons_zero, List.set_cons_succ]
          refine take (i := 1) (d := some 36) (v := .slice (some ⟨gM, 0, none⟩) 8 8) rfl (by kernel_rfl) (by kernel_rfl) (by kernel_rfl) (by kernel_rfl) (fun _ _ _ h => h) (Or.inl ⟨by rfl, by intro w hSw; obtain ⟨q1, q2⟩ := two hSw; go_simp⟩) hHeld ?_
          simp only [Act.put, List.setIfInBounds_toArray, List.set_cons_zero, List.set_cons_succ]
          refine take (i := 2) (d := some 37) (v := .int .i64 F) rfl (by kernel_rfl) (by kernel_rfl) (by kernel_rfl) (by kernel_rfl) (fun _ _ _ h => h) (Or.inl ⟨by rfl, by intro w hSw; go_simp⟩) hHeld ?_
          simp only [Act.put, List.setIfInBounds_toArray, List.set_cons_zero, List.set_cons_succ]
          refine take (i := 3) (d := some 38) (v := .pointer (some ⟨gm, 1, none⟩)) rfl (by kernel_rfl) (by kernel_rfl) (by kernel_rfl) (by kernel_rfl) (fun _ _ _ h => h) (Or.inl ⟨by rfl, by intro w hSw; go_simp⟩) hHeld ?_
          simp only [Act.put, List.setIfInBounds_toArray, List.set_cons_zero, List.set_cons_succ]
          refine take (i := 4) (d := some 39) (v := .slice (some ⟨gM, 0, none⟩) 8 8) rfl (by kernel_rfl) (by kernel_rfl) (by kernel_rfl) (by kernel_rfl) (fun _ _ _ h => h) (Or.inl ⟨by rfl, by intro w hSw; obtain ⟨q1, q2⟩ := two hSw; go_simp⟩) hHeld ?_
          simp only [Act.put, List.setIfInBounds_toArray, List.set_cons_zero, List.set_cons_succ]
          refine take (i := 5) (d := some 40) (v := .int .i64 F) rfl (by kernel_rfl) (by kernel_rfl) (by kernel_rfl) (by kernel_rfl) (fun _ _ _ h => h) (Or.inl ⟨by rfl, by intro w hSw; go_simp⟩) hHeld ?_
          simp only [Act.put, List.setIfInBounds_toArray, List.set_cons_zero, List.set_cons_succ]
          refine take (i := 6) (d := some 41) (v := .pointer (some ⟨gM, F, none⟩)) rfl (by kernel_rfl) (by kernel_rfl) (by kernel_rfl) (by kernel_rfl) (fun _ _ _ h => h) (Or.inl ⟨by rfl, by intro w hSw; go_simp⟩) hHeld ?_
          simp only [Act.put, List.setIfInBounds_toArray, List.set_cons_zero, List.set_cons_succ]
          refine take (i := 8) (d := some 43) (v := .pointer (some ⟨g, 0, none⟩)) rfl (by kernel_rfl) (by kernel_rfl) (by kernel_rfl) (by kernel_rfl) (fun _ _ _ h => h) (Or.inl ⟨by rfl, by intro w hSw; go_simp⟩) hHeld ?_
          simp only [Act.put, List.setIfInBounds_toArray, List.set_cons_zero, List.set_cons_succ]
          refine wpAnyH_ready (rs := [7, 9]) (by kernel_rfl) (by simp) (readyRun (i := 7) rfl (by kernel_rfl) (some 42) (by kernel_rfl) (v := .int .i64 m1) (w' := wD') (by go_simp) i.kM (fun hHeld => ?_) (Rg.call2 (i := 9) rfl (by kernel_rfl) 74 (.tmp 43) (.const (.int .i64 8)) 98 3 (by kernel_rfl) 44 (by kernel_rfl) (.pointer (some ⟨g, 0, none⟩)) (.int .i64 8) (by kernel_rfl) (by kernel_rfl) (fun _ => rfl) (Dr.below_any _ _ _ _ _ _ 8 _ i.cur (by omega) (by omega)) ?_ AllReadyH.nil))
          · simp only [Act.put, List.setIfInBounds_toArray, List.set_cons_zero, List.set_cons_succ]
            refine wpAnyH_ready (rs := [9]) (by kernel_rfl) (by simp) (Rg.call2 (i := 9) rfl (by kernel_rfl) 74 (.tmp 43) (.const (.int .i64 8)) 98 3 (by kernel_rfl) 44 (by kernel_rfl) (.pointer (some ⟨g, 0, none⟩)) (.int .i64 8) (by kernel_rfl) (by kernel_rfl) (fun _ => rfl) (Dr.below_any _ _ _ _ _ _ 8 _ i.cur (by omega) (by omega)) ?_ AllReadyH.nil)
            rintro e wH ⟨z, rfl, zz0, zz1, hC', hO'⟩
            have cMh := (World.cell?_of_block (hO'.block gM i.mM.row.lt (by have := hL.g; simp; omega)) (a := ⟨gM, F, none⟩)).trans cMd
            replace i := i.step hL hO' hC'
            clear hC' hO' cMd
            refine ⟨_, rfl, i.kM, fun hHeld => ?_⟩
            simp only [Act.put, List.setIfInBounds_toArray, List.set_cons_zero, List.set_cons_succ]
            obtain ⟨s1, es1⟩ : ∃ s1 : Int, s1 = IntKind.i64.wrap (m1 - z) := ⟨_, rfl⟩
            have hs1 : Pm.I64 s1 := by rw [es1, IntKind.wrap_i64]; constructor <;> omega
            refine take (i := 10) (d := some 45) (v := .int .i64 s1) rfl (by kernel_rfl) (by kernel_rfl) (by kernel_rfl) (by kernel_rfl) (fun _ _ _ h => h) (Or.inl ⟨by rfl, by intro w hSw; rw [es1]; go_simp⟩) hHeld ?_
            simp only [Act.put, List.setIfInBounds_toArray, List.set_cons_zero, List.set_cons_succ]
            clear es1
            refine take (i := 11) (d := some 46) (v := .pointer (some ⟨gM, F, none⟩)) rfl (by kernel_rfl) (by kernel_rfl) (by kernel_rfl) (by kernel_rfl) (fun _ _ _ h => h) (Or.inl ⟨by rfl, by intro w hSw; go_simp⟩) hHeld ?_
            simp only [Act.put, List.setIfInBounds_toArray, List.set_cons_zero, List.set_cons_succ]
            obtain ⟨_, fM⟩ := i.cellM hF8
            refine wpAnyH_ready (rs := [12]) (by kernel_rfl) (by simp) (readySkip (i := 12) rfl (by kernel_rfl) none (by kernel_rfl) (w' := wH.setCell ⟨gM, F, none⟩ (.int .i64 s1)) (by go_simp) (i.setM hL hbl hs1).kM (fun hHeld => ?_) AllReadyH.nil)
            simp only [Act.put, List.setIfInBounds_toArray, List.set_cons_zero, List.set_cons_succ]
            refine wpAnyH_done (by kernel_rfl) ?_ _
            clear cMh fM
            replace i := i.setM hL hbl (F := F) hs1
            generalize wH.setCell ⟨gM, F, none⟩ (.int .i64 s1) = wG at *
            obtain rfl : u = 0 := eq_of_beq (by assumption)
            go_wp2
            obtain ⟨h1, cH⟩ : ∃ h1 : Int, wG.cell? ⟨gH, F, none⟩ = some (.int .i64 h1) := ⟨_, i.cellH hF8⟩
            obtain ⟨m1, cM⟩ : ∃ m1 : Int, wG.cell? ⟨gM, F, none⟩ = some (.int .i64 m1) := ⟨_, (i.cellM hF8).1⟩
            obtain ⟨cV, fV⟩ := i.cellV hF8
            have lv := hL.vm
            have l9 := hL.mv
            have l8 := hL.h
            have l7 := hL.x
            refine wp_region_held_drew (S := (fun w' => w'.heap[gm]? = some (.cells #[sl gV, sl gM] 25 (0, 0)) ∧ w'.heap[gx]? = some (.cells #[sl gH] 28 (0, 0)) ∧ w'.cell? ⟨gH, F, none⟩ = some (.int .i64 h1) ∧ w'.cell? ⟨gM, F, none⟩ = some (.int .i64 m1))) (by kernel_rfl) ⟨i.kM, i.kX, cH, cM⟩ (fun hHeld => ?_)
            refine take (i := 0) (d := some 56) (v := .pointer (some ⟨gm, 0, none⟩)) rfl (by kernel_rfl) (by kernel_rfl) (by kernel_rfl) (by kernel_rfl) (fun _ _ _ h => h) (Or.inl ⟨by rfl, by intro w hSw; go_simp⟩) hHeld ?_
            simp only [Act.put, List.setIfInBounds_toArray, List.set_cons_zero, List.set_cons_succ]
            refine take (i := 1) (d := some 57) (v := .slice (some ⟨gV, 0, none⟩) 8 8) rfl (by kernel_rfl) (by kernel_rfl) (by kernel_rfl) (by kernel_rfl) (fun _ _ _ h => h) (Or.inl ⟨by rfl, by intro w hSw; obtain ⟨q1, q2⟩ := two hSw.1; go_simp⟩) hHeld ?_
            simp only [Act.put, List.setIfInBounds_toArray, List.set_cons_zero, List.set_cons_succ]
            refine take (i := 2) (d := some 58) (v := .int .i64 F) rfl (by kernel_rfl) (by kernel_rfl) (by kernel_rfl) (by kernel_rfl) (fun _ _ _ h => h) (Or.inl ⟨by rfl, by intro w hSw; go_simp⟩) hHeld ?_
            simp only [Act.put, List.setIfInBounds_toArray, List.set_cons_zero, List.set_cons_succ]
            refine take (i := 3) (d := some 59) (v := .pointer (some ⟨gx, 0, none⟩)) rfl (by kernel_rfl) (by kernel_rfl) (by kernel_rfl) (by kernel_rfl) (fun _ _ _ h => h) (Or.inl ⟨by rfl, by intro w hSw; go_simp⟩) hHeld ?_
            simp only [Act.put, List.setIfInBounds_toArray, List.set_cons_zero, List.set_cons_succ]
            refine take (i := 4) (d := some 60) (v := .slice (some ⟨gH, 0, none⟩) 8 8) rfl (by kernel_rfl) (by kernel_rfl) (by kernel_rfl) (by kernel_rfl) (fun _ _ _ h => h) (Or.inl ⟨by rfl, by intro w hSw; have q1 := Hh.one hSw.2.1; go_simp⟩) hHeld ?_
            simp only [Act.put, List.setIfInBounds_toArray, List.set_cons_zero, List.set_cons_succ]
            refine take (i := 5) (d := some 61) (v := .int .i64 F) rfl (by kernel_rfl) (by kernel_rfl) (by kernel_rfl) (by kernel_rfl) (fun _ _ _ h => h) (Or.inl ⟨by rfl, by intro w hSw; go_simp⟩) hHeld ?_
            simp only [Act.put, List.setIfInBounds_toArray, List.set_cons_zero, List.set_cons_succ]
            refine take (i := 6) (d := some 62) (v := .pointer (some ⟨gH, F, none⟩)) rfl (by kernel_rfl) (by kernel_rfl) (by kernel_rfl) (by kernel_rfl) (fun _ _ _ h => h) (Or.inl ⟨by rfl, by intro w hSw; go_simp⟩) hHeld ?_
            simp only [Act.put, List.setIfInBounds_toArray, List.set_cons_zero, List.set_cons_succ]
            refine take (i := 7) (d := some 63) (v := .int .i64 h1) rfl (by kernel_rfl) (by kernel_rfl) (by kernel_rfl) (by kernel_rfl) (fun _ _ _ h => h) (Or.inl ⟨by rfl, by intro w hSw; have q1 := hSw.2.2.1; go_simp⟩) hHeld ?_
            simp only [Act.put, List.setIfInBounds_toArray, List.set_cons_zero, List.set_cons_succ]
            refine take (i := 8) (d := some 64) (v := .pointer (some ⟨gm, 1, none⟩)) rfl (by kernel_rfl) (by kernel_rfl) (by kernel_rfl) (by kernel_rfl) (fun _ _ _ h => h) (Or.inl ⟨by rfl, by intro w hSw; go_simp⟩) hHeld ?_
            simp only [Act.put, List.setIfInBounds_toArray, List.set_cons_zero, List.set_cons_succ]
            refine take (i := 9) (d := some 65) (v := .slice (some ⟨gM, 0, none⟩) 8 8) rfl (by kernel_rfl) (by kernel_rfl) (by kernel_rfl) (by kernel_rfl) (fun _ _ _ h => h) (Or.inl ⟨by rfl, by intro w hSw; obtain ⟨q1, q2⟩ := two hSw.1; go_simp⟩) hHeld ?_
            simp only [Act.put, List.setIfInBounds_toArray, List.set_cons_zero, List.set_cons_succ]
            refine take (i := 10) (d := some 66) (v := .int .i64 F) rfl (by kernel_rfl) (by kernel_rfl) (by kernel_rfl) (by kernel_rfl) (fun _ _ _ h => h) (Or.inl ⟨by rfl, by intro w hSw; go_simp⟩) hHeld ?_
            simp only [Act.put, List.setIfInBounds_toArray, List.set_cons_zero, List.set_cons_succ]
            refine take (i := 11) (d := some 67) (v := .pointer (some ⟨gM, F, none⟩)) rfl (by kernel_rfl) (by kernel_rfl) (by kernel_rfl) (by kernel_rfl) (fun _ _ _ h => h) (Or.inl ⟨by rfl, by intro w hSw; go_simp⟩) hHeld ?_
            simp only [Act.put, List.setIfInBounds_toArray, List.set_cons_zero, List.set_cons_succ]
            refine take (i := 12) (d := some 68) (v := .int .i64 m1) rfl (by kernel_rfl) (by kernel_rfl) (by kernel_rfl) (by kernel_rfl) (fun _ _ _ h => h) (Or.inl ⟨by rfl, by intro w hSw; have q1 := hSw.2.2.2; go_simp⟩) hHeld ?_
            simp only [Act.put, List.setIfInBounds_toArray, List.set_cons_zero, List.set_cons_succ]
            refine take (i := 13) (d := some 69) (v := .int .i64 (bits .and .i64 h1 m1)) rfl (by kernel_rfl) (by kernel_rfl) (by kernel_rfl) (by kernel_rfl) (fun _ _ _ h => h) (Or.inl ⟨by rfl, by intro w hSw; go_simp⟩) hHeld ?_
            simp only [Act.put, List.setIfInBounds_toArray, List.set_cons_zero, List.set_cons_succ]
            refine take (i := 14) (d := some 70) (v := .pointer (some ⟨gV, F, none⟩)) rfl (by kernel_rfl) (by kernel_rfl) (by kernel_rfl) (by kernel_rfl) (fun _ _ _ h => h) (Or.inl ⟨by rfl, by intro w hSw; go_simp⟩) hHeld ?_
            simp only [Act.put, List.setIfInBounds_toArray, List.set_cons_zero, List.set_cons_succ]
            have hx := wide_and h1 m1
            generalize bits .and .i64 h1 m1 = x1 at *
            refine wpAnyH_ready (rs := [15]) (by kernel_rfl) (by simp) (readySkip (i := 15) rfl (by kernel_rfl) none (by kernel_rfl) (w' := wG.drew.setCell ⟨gV, F, none⟩ (.int .i64 x1)) (by go_simp) ⟨((i.drew hL).setV hL hbl hx).kM, ((i.drew hL).setV hL hbl hx).kX, by rw [World.cell?_setCell_other _ _ _ _ (by simp <;> omega)]; exact cH, by rw [World.cell?_setCell_other _ _ _ _ (by simp <;> omega)]; exact cM⟩ (fun hHeld => ?_) AllReadyH.nil)
            simp only [Act.put, List.setIfInBounds_toArray, List.set_cons_zero, List.set_cons_succ]
            refine wpAnyH_done (by kernel_rfl) ?_ _
            replace i := (i.drew hL).setV hL hbl (F := F) hx
            clear cH cM cV fV
            generalize wG.drew.setCell ⟨gV, F, none⟩ (.int .i64 x1) = wE at *
            go_wp2
            go_roundw
            case rel => exact ⟨K, _, _, by omega, by first | go_num | (congr 1; omega), i⟩
            case measure => simp [intOf]; omega
          · rintro e wH ⟨z, rfl, zz0, zz1, hC', hO'⟩
            have cMh := (World.cell?_of_block (hO'.block gM i.mM.row.lt (by have := hL.g; simp; omega)) (a := ⟨gM, F, none⟩)).trans cMd
            replace i := i.step hL hO' hC'
            clear hC' hO' cMd
            refine ⟨_, rfl, i.kM, fun hHeld => ?_⟩
            simp only [Act.put, List.setIfInBounds_toArray, List.set_cons_zero, List.set_cons_succ]
            refine wpAnyH_ready (rs := [7]) (by kernel_rfl) (by simp) (readyRun (i := 7) rfl (by kernel_rfl) (some 42) (by kernel_rfl) (v := .int .i64 m1) (w' := wH) (by go_simp) i.kM (fun hHeld => ?_) AllReadyH.nil)
            simp only [Act.put, List.setIfInBounds_toArray, List.set_cons_zero, List.set_cons_succ]
            obtain ⟨s1, es1⟩ : ∃ s1 : Int, s1 = IntKind.i64.wrap (m1 - z) := ⟨_, rfl⟩
            have hs1 : Pm.I64 s1 := by rw [es1, IntKind.wrap_i64]; constructor <;> omega
            refine take (i := 10) (d := some 45) (v := .int .i64 s1) rfl (by kernel_rfl) (by kernel_rfl) (by kernel_rfl) (by kernel_rfl) (fun _ _ _ h => h) (Or.inl ⟨by rfl, by intro w hSw; rw [es1]; go_simp⟩) hHeld ?_
            simp only [Act.put, List.setIfInBounds_toArray, List.set_cons_zero, List.set_cons_succ]
            clear es1
            refine take (i := 11) (d := some 46) (v := .pointer (some ⟨gM, F, none⟩)) rfl (by kernel_rfl) (by kernel_rfl) (by kernel_rfl) (by kernel_rfl) (fun _ _ _ h => h) (Or.inl ⟨by rfl, by intro w hSw; go_simp⟩) hHeld ?_
            simp only [Act.put, List.setIfInBounds_toArray, List.set_cons_zero, List.set_cons_succ]
            obtain ⟨_, fM⟩ := i.cellM hF8
            refine wpAnyH_ready (rs := [12]) (by kernel_rfl) (by simp) (readySkip (i := 12) rfl (by kernel_rfl) none (by kernel_rfl) (w' := wH.setCell ⟨gM, F, none⟩ (.int .i64 s1)) (by go_simp) (i.setM hL hbl hs1).kM (fun hHeld => ?_) AllReadyH.nil)
            simp only [Act.put, List.setIfInBounds_toArray, List.set_cons_zero, List.set_cons_succ]
            refine wpAnyH_done (by kernel_rfl) ?_ _
            clear cMh fM
            replace i := i.setM hL hbl (F := F) hs1
            generalize wH.setCell ⟨gM, F, none⟩ (.int .i64 s1) = wG at *
            obtain rfl : u = 0 := eq_of_beq (by assumption)
            go_wp2
            obtain ⟨h1, cH⟩ : ∃ h1 : Int, wG.cell? ⟨gH, F, none⟩ = some (.int .i64 h1) := ⟨_, i.cellH hF8⟩
            obtain ⟨m1, cM⟩ : ∃ m1 : Int, wG.cell? ⟨gM, F, none⟩ = some (.int .i64 m1) := ⟨_, (i.cellM hF8).1⟩
            obtain ⟨cV, fV⟩ := i.cellV hF8
            have lv := hL.vm
            have l9 := hL.mv
            have l8 := hL.h
            have l7 := hL.x
            refine wp_region_held_drew (S := (fun w' => w'.heap[gm]? = some (.cells #[sl gV, sl gM] 25 (0, 0)) ∧ w'.heap[gx]? = some (.cells #[sl gH] 28 (0, 0)) ∧ w'.cell? ⟨gH, F, none⟩ = some (.int .i64 h1) ∧ w'.cell? ⟨gM, F, none⟩ = some (.int .i64 m1))) (by kernel_rfl) ⟨i.kM, i.kX, cH, cM⟩ (fun hHeld => ?_)
            refine take (i := 0) (d := some 56) (v := .pointer (some ⟨gm, 0, none⟩)) rfl (by kernel_rfl) (by kernel_rfl) (by kernel_rfl) (by kernel_rfl) (fun _ _ _ h => h) (Or.inl ⟨by rfl, by intro w hSw; go_simp⟩) hHeld ?_
            simp only [Act.put, List.setIfInBounds_toArray, List.set_cons_zero, List.set_cons_succ]
            refine take (i := 1) (d := some 57) (v := .slice (some ⟨gV, 0, none⟩) 8 8) rfl (by kernel_rfl) (by kernel_rfl) (by kernel_rfl) (by kernel_rfl) (fun _ _ _ h => h) (Or.inl ⟨by rfl, by intro w hSw; obtain ⟨q1, q2⟩ := two hSw.1; go_simp⟩) hHeld ?_
            simp only [Act.put, List.setIfInBounds_toArray, List.set_cons_zero, List.set_cons_succ]
            refine take (i := 2) (d := some 58) (v := .int .i64 F) rfl (by kernel_rfl) (by kernel_rfl) (by kernel_rfl) (by kernel_rfl) (fun _ _ _ h => h) (Or.inl ⟨by rfl, by intro w hSw; go_simp⟩) hHeld ?_
            simp only [Act.put, List.setIfInBounds_toArray, List.set_cons_zero, List.set_cons_succ]
            refine take (i := 3) (d := some 59) (v := .pointer (some ⟨gx, 0, none⟩)) rfl (by kernel_rfl) (by kernel_rfl) (by kernel_rfl) (by kernel_rfl) (fun _ _ _ h => h) (Or.inl ⟨by rfl, by intro w hSw; go_simp⟩) hHeld ?_
            simp only [Act.put, List.setIfInBounds_toArray, List.set_cons_zero, List.set_cons_succ]
            refine take (i := 4) (d := some 60) (v := .slice (some ⟨gH, 0, none⟩) 8 8) rfl (by kernel_rfl) (by kernel_rfl) (by kernel_rfl) (by kernel_rfl) (fun _ _ _ h => h) (Or.inl ⟨by rfl, by intro w hSw; have q1 := Hh.one hSw.2.1; go_simp⟩) hHeld ?_
            simp only [Act.put, List.setIfInBounds_toArray, List.set_cons_zero, List.set_cons_succ]
            refine take (i := 5) (d := some 61) (v := .int .i64 F) rfl (by kernel_rfl) (by kernel_rfl) (by kernel_rfl) (by kernel_rfl) (fun _ _ _ h => h) (Or.inl ⟨by rfl, by intro w hSw; go_simp⟩) hHeld ?_
            simp only [Act.put, List.setIfInBounds_toArray, List.set_cons_zero, List.set_cons_succ]
            refine take (i := 6) (d := some 62) (v := .pointer (some ⟨gH, F, none⟩)) rfl (by kernel_rfl) (by kernel_rfl) (by kernel_rfl) (by kernel_rfl) (fun _ _ _ h => h) (Or.inl ⟨by rfl, by intro w hSw; go_simp⟩) hHeld ?_
            simp only [Act.put, List.setIfInBounds_toArray, List.set_cons_zero, List.set_cons_succ]
            refine take (i := 7) (d := some 63) (v := .int .i64 h1) rfl (by kernel_rfl) (by kernel_rfl) (by kernel_rfl) (by kernel_rfl) (fun _ _ _ h => h) (Or.inl ⟨by rfl, by intro w hSw; have q1 := hSw.2.2.1; go_simp⟩) hHeld ?_
            simp only [Act.put, List.setIfInBounds_toArray, List.set_cons_zero, List.set_cons_succ]
            refine take (i := 8) (d := some 64) (v := .pointer (some ⟨gm, 1, none⟩)) rfl (by kernel_rfl) (by kernel_rfl) (by kernel_rfl) (by kernel_rfl) (fun _ _ _ h => h) (Or.inl ⟨by rfl, by intro w hSw; go_simp⟩) hHeld ?_
            simp only [Act.put, List.setIfInBounds_toArray, List.set_cons_zero, List.set_cons_succ]
            refine take (i := 9) (d := some 65) (v := .slice (some ⟨gM, 0, none⟩) 8 8) rfl (by kernel_rfl) (by kernel_rfl) (by kernel_rfl) (by kernel_rfl) (fun _ _ _ h => h) (Or.inl ⟨by rfl, by intro w hSw; obtain ⟨q1, q2⟩ := two hSw.1; go_simp⟩) hHeld ?_
            simp only [Act.put, List.setIfInBounds_toArray, List.set_cons_zero, List.set_cons_succ]
            refine take (i := 10) (d := some 66) (v := .int .i64 F) rfl (by kernel_rfl) (by kernel_rfl) (by kernel_rfl) (by kernel_rfl) (fun _ _ _ h => h) (Or.inl ⟨by rfl, by intro w hSw; go_simp⟩) hHeld ?_
            simp only [Act.put, List.setIfInBounds_toArray, List.set_cons_zero, List.set_cons_succ]
            refine take (i := 11) (d := some 67) (v := .pointer (some ⟨gM, F, none⟩)) rfl (by kernel_rfl) (by kernel_rfl) (by kernel_rfl) (by kernel_rfl) (fun _ _ _ h => h) (Or.inl ⟨by rfl, by intro w hSw; go_simp⟩) hHeld ?_
            simp only [Act.put, List.setIfInBounds_toArray, List.set_cons_zero, List.set_cons_succ]
            refine take (i := 12) (d := some 68) (v := .int .i64 m1) rfl (by kernel_rfl) (by kernel_rfl) (by kernel_rfl) (by kernel_rfl) (fun _ _ _ h => h) (Or.inl ⟨by rfl, by intro w hSw; have q1 := hSw.2.2.2; go_simp⟩) hHeld ?_
            simp only [Act.put, List.setIfInBounds_toArray, List.set_cons_zero, List.set_cons_succ]
            refine take (i := 13) (d := some 69) (v := .int .i64 (bits .and .i64 h1 m1)) rfl (by kernel_rfl) (by kernel_rfl) (by kernel_rfl) (by kernel_rfl) (fun _ _ _ h => h) (Or.inl ⟨by rfl, by intro w hSw; go_simp⟩) hHeld ?_
            simp only [Act.put, List.setIfInBounds_toArray, List.set_cons_zero, List.set_cons_succ]
            refine take (i := 14) (d := some 70) (v := .pointer (some ⟨gV, F, none⟩)) rfl (by kernel_rfl) (by kernel_rfl) (by kernel_rfl) (by kernel_rfl) (fun _ _ _ h => h) (Or.inl ⟨by rfl, by intro w hSw; go_simp⟩) hHeld ?_
            simp only [Act.put, List.setIfInBounds_toArray, List.set_cons_zero, List.set_cons_succ]
            have hx := wide_and h1 m1
            generalize bits .and .i64 h1 m1 = x1 at *
            refine wpAnyH_ready (rs := [15]) (by kernel_rfl) (by simp) (readySkip (i := 15) rfl (by kernel_rfl) none (by kernel_rfl) (w' := wG.drew.setCell ⟨gV, F, none⟩ (.int .i64 x1)) (by go_simp) ⟨((i.drew hL).setV hL hbl hx).kM, ((i.drew hL).setV hL hbl hx).kX, by rw [World.cell?_setCell_other _ _ _ _ (by simp <;> omega)]; exact cH, by rw [World.cell?_setCell_other _ _ _ _ (by simp <;> omega)]; exact cM⟩ (fun hHeld => ?_) AllReadyH.nil)
            simp only [Act.put, List.setIfInBounds_toArray, List.set_cons_zero, List.set_cons_succ]
            refine wpAnyH_done (by kernel_rfl) ?_ _
            replace i := (i.drew hL).setV hL hbl (F := F) hx
            clear cH cM cV fV
            generalize wG.drew.setCell ⟨gV, F, none⟩ (.int .i64 x1) = wE at *
            go_wp2
            go_roundw
            case rel => exact ⟨K, _, _, by omega, by first | go_num | (congr 1; omega), i⟩
            case measure => simp [intOf]; omega
        · refine wp_region_held_drew (S := (fun w' => w'.heap[gm]? = some (.cells #[sl gV, sl gM] 25 (0, 0)))) (by kernel_rfl) i.kM (fun hHeld => ?_)
          refine take (i := 0) (d := some 49) (v := .pointer (some ⟨gm, 1, none⟩)) rfl (by kernel_rfl) (by kernel_rfl) (by kernel_rfl) (by kernel_rfl) (fun _ _ _ h => h) (Or.inl ⟨by rfl, by intro w hSw; go_simp⟩) hHeld ?_
          simp only [Act.put, List.setIfInBounds_toArray, List.set_cons_zero, List.set_cons_succ]
          refine take (i := 1) (d := some 50) (v := .slice (some ⟨gM, 0, none⟩) 8 8) rfl (by kernel_rfl) (by kernel_rfl) (by kernel_rfl) (by kernel_rfl) (fun _ _ _ h => h) (Or.inl ⟨by rfl, by intro w hSw; obtain ⟨q1, q2⟩ := two hSw; go_simp⟩) hHeld ?_
          simp only [Act.put, List.setIfInBounds_toArray, List.set_cons_zero, List.set_cons_succ]
          refine take (i := 2) (d := some 51) (v := .int .i64 F) rfl (by kernel_rfl) (by kernel_rfl) (by kernel_rfl) (by kernel_rfl) (fun _ _ _ h => h) (Or.inl ⟨by rfl, by intro w hSw; go_simp⟩) hHeld ?_
          simp only [Act.put, List.setIfInBounds_toArray, List.set_cons_zero, List.set_cons_succ]
          refine take (i := 3) (d := some 52) (v := .pointer (some ⟨g, 0, none⟩)) rfl (by kernel_rfl) (by kernel_rfl) (by kernel_rfl) (by kernel_rfl) (fun _ _ _ h => h) (Or.inl ⟨by rfl, by intro w hSw; go_simp⟩) hHeld ?_
          simp only [Act.put, List.setIfInBounds_toArray, List.set_cons_zero, List.set_cons_succ]
          refine wpAnyH_ready (rs := [4]) (by kernel_rfl) (by simp) (Rg.call2 (i := 4) rfl (by kernel_rfl) 74 (.tmp 52) (.const (.int .i64 3)) 98 3 (by kernel_rfl) 53 (by kernel_rfl) (.pointer (some ⟨g, 0, none⟩)) (.int .i64 3) (by kernel_rfl) (by kernel_rfl) (fun _ => rfl) (Dr.below_any _ _ _ _ _ _ 3 _ (i.drew hL).cur (by omega) (by omega)) ?_ AllReadyH.nil)
          rintro e wF ⟨z, rfl, zz0, zz1, hC', hO'⟩
          replace i := (i.drew hL).step hL hO' hC'
          clear hC' hO'
          refine ⟨_, rfl, i.kM, fun hHeld => ?_⟩
          simp only [Act.put, List.setIfInBounds_toArray, List.set_cons_zero, List.set_cons_succ]
          have hz3 : ∃ p2 : Int, Pm.I64 p2 ∧ ((z = 0 ∧ p2 = 1) ∨ (z = 1 ∧ p2 = 2) ∨ (z = 2 ∧ p2 = 4)) := by
            have e : z = 0 ∨ z = 1 ∨ z = 2 := by omega
            rcases e with rfl | rfl | rfl
            · exact ⟨1, by constructor <;> decide, by omega⟩
            · exact ⟨2, by constructor <;> decide, by omega⟩
            · exact ⟨4, by constructor <;> decide, by omega⟩
          obtain ⟨p2, hp2, hcase⟩ := hz3
          refine take (i := 5) (d := some 54) (v := .int .i64 p2) rfl (by kernel_rfl) (by kernel_rfl) (by kernel_rfl) (by kernel_rfl) (fun _ _ _ h => h) (Or.inl ⟨by rfl, by intro w hSw; rcases hcase with ⟨rfl, rfl⟩ | ⟨rfl, rfl⟩ | ⟨rfl, rfl⟩ <;> (go_simp; rfl)⟩) hHeld ?_
          simp only [Act.put, List.setIfInBounds_toArray, List.set_cons_zero, List.set_cons_succ]
          clear hcase
          refine take (i := 6) (d := some 55) (v := .pointer (some ⟨gM, F, none⟩)) rfl (by kernel_rfl) (by kernel_rfl) (by kernel_rfl) (by kernel_rfl) (fun _ _ _ h => h) (Or.inl ⟨by rfl, by intro w hSw; go_simp⟩) hHeld ?_
          simp only [Act.put, List.setIfInBounds_toArray, List.set_cons_zero, List.set_cons_succ]
          obtain ⟨cM, fM⟩ := i.cellM hF8
          refine wpAnyH_ready (rs := [7]) (by kernel_rfl) (by simp) (readySkip (i := 7) rfl (by kernel_rfl) none (by kernel_rfl) (w' := wF.setCell ⟨gM, F, none⟩ (.int .i64 p2)) (by go_simp) (i.setM hL hbl hp2).kM (fun hHeld => ?_) AllReadyH.nil)
          simp only [Act.put, List.setIfInBounds_toArray, List.set_cons_zero, List.set_cons_succ]
          refine wpAnyH_done (by kernel_rfl) ?_ _
          clear cM fM
          replace i := i.setM hL hbl (F := F) hp2
          generalize wF.setCell ⟨gM, F, none⟩ (.int .i64 p2) = wG at *
          go_wp2
          obtain ⟨h1, cH⟩ : ∃ h1 : Int, wG.cell? ⟨gH, F, none⟩ = some (.int .i64 h1) := ⟨_, i.cellH hF8⟩
          obtain ⟨m1, cM⟩ : ∃ m1 : Int, wG.cell? ⟨gM, F, none⟩ = some (.int .i64 m1) := ⟨_, (i.cellM hF8).1⟩
          obtain ⟨cV, fV⟩ := i.cellV hF8
          have lv := hL.vm
          have l9 := hL.mv
          have l8 := hL.h
          have l7 := hL.x
          refine wp_region_held_drew (S := (fun w' => w'.heap[gm]? = some (.cells #[sl gV, sl gM] 25 (0, 0)) ∧ w'.heap[gx]? = some (.cells #[sl gH] 28 (0, 0)) ∧ w'.cell? ⟨gH, F, none⟩ = some (.int .i64 h1) ∧ w'.cell? ⟨gM, F, none⟩ = some (.int .i64 m1))) (by kernel_rfl) ⟨i.kM, i.kX, cH, cM⟩ (fun hHeld => ?_)
          refine take (i := 0) (d := some 56) (v := .pointer (some ⟨gm, 0, none⟩)) rfl (by kernel_rfl) (by kernel_rfl) (by kernel_rfl) (by kernel_rfl) (fun _ _ _ h => h) (Or.inl ⟨by rfl, by intro w hSw; go_simp⟩) hHeld ?_
          simp only [Act.put, List.setIfInBounds_toArray, List.set_cons_zero, List.set_cons_succ]
          refine take (i := 1) (d := some 57) (v := .slice (some ⟨gV, 0, none⟩) 8 8) rfl (by kernel_rfl) (by kernel_rfl) (by kernel_rfl) (by kernel_rfl) (fun _ _ _ h => h) (Or.inl ⟨by rfl, by intro w hSw; obtain ⟨q1, q2⟩ := two hSw.1; go_simp⟩) hHeld ?_
          simp only [Act.put, List.setIfInBounds_toArray, List.set_cons_zero, List.set_cons_succ]
          refine take (i := 2) (d := some 58) (v := .int .i64 F) rfl (by kernel_rfl) (by kernel_rfl) (by kernel_rfl) (by kernel_rfl) (fun _ _ _ h => h) (Or.inl ⟨by rfl, by intro w hSw; go_simp⟩) hHeld ?_
          simp only [Act.put, List.setIfInBounds_toArray, List.set_cons_zero, List.set_cons_succ]
          refine take (i := 3) (d := some 59) (v := .pointer (some ⟨gx, 0, none⟩)) rfl (by kernel_rfl) (by kernel_rfl) (by kernel_rfl) (by kernel_rfl) (fun _ _ _ h => h) (Or.inl ⟨by rfl, by intro w hSw; go_simp⟩) hHeld ?_
          simp only [Act.put, List.setIfInBounds_toArray, List.set_cons_zero, List.set_cons_succ]
          refine take (i := 4) (d := some 60) (v := .slice (some ⟨gH, 0, none⟩) 8 8) rfl (by kernel_rfl) (by kernel_rfl) (by kernel_rfl) (by kernel_rfl) (fun _ _ _ h => h) (Or.inl ⟨by rfl, by intro w hSw; have q1 := Hh.one hSw.2.1; go_simp⟩) hHeld ?_
          simp only [Act.put, List.setIfInBounds_toArray, List.set_cons_zero, List.set_cons_succ]
          refine take (i := 5) (d := some 61) (v := .int .i64 F) rfl (by kernel_rfl) (by kernel_rfl) (by kernel_rfl) (by kernel_rfl) (fun _ _ _ h => h) (Or.inl ⟨by rfl, by intro w hSw; go_simp⟩) hHeld ?_
          simp only [Act.put, List.setIfInBounds_toArray, List.set_cons_zero, List.set_cons_succ]
          refine take (i := 6) (d := some 62) (v := .pointer (some ⟨gH, F, none⟩)) rfl (by kernel_rfl) (by kernel_rfl) (by kernel_rfl) (by kernel_rfl) (fun _ _ _ h => h) (Or.inl ⟨by rfl, by intro w hSw; go_simp⟩) hHeld ?_
          simp only [Act.put, List.setIfInBounds_toArray, List.set_cons_zero, List.set_cons_succ]
          refine take (i := 7) (d := some 63) (v := .int .i64 h1) rfl (by kernel_rfl) (by kernel_rfl) (by kernel_rfl) (by kernel_rfl) (fun _ _ _ h => h) (Or.inl ⟨by rfl, by intro w hSw; have q1 := hSw.2.2.1; go_simp⟩) hHeld ?_
          simp only [Act.put, List.setIfInBounds_toArray, List.set_cons_zero, List.set_cons_succ]
          refine take (i := 8) (d := some 64) (v := .pointer (some ⟨gm, 1, none⟩)) rfl (by kernel_rfl) (by kernel_rfl) (by kernel_rfl) (by kernel_rfl) (fun _ _ _ h => h) (Or.inl ⟨by rfl, by intro w hSw; go_simp⟩) hHeld ?_
          simp only [Act.put, List.setIfInBounds_toArray, List.set_cons_zero, List.set_cons_succ]
          refine take (i := 9) (d := some 65) (v := .slice (some ⟨gM, 0, none⟩) 8 8) rfl (by kernel_rfl) (by kernel_rfl) (by kernel_rfl) (by kernel_rfl) (fun _ _ _ h => h) (Or.inl ⟨by rfl, by intro w hSw; obtain ⟨q1, q2⟩ := two hSw.1; go_simp⟩) hHeld ?_
          simp only [Act.put, List.setIfInBounds_toArray, List.set_cons_zero, List.set_cons_succ]
          refine take (i := 10) (d := some 66) (v := .int .i64 F) rfl (by kernel_rfl) (by kernel_rfl) (by kernel_rfl) (by kernel_rfl) (fun _ _ _ h => h) (Or.inl ⟨by rfl, by intro w hSw; go_simp⟩) hHeld ?_
          simp only [Act.put, List.setIfInBounds_toArray, List.set_cons_zero, List.set_cons_succ]
          refine take (i := 11) (d := some 67) (v := .pointer (some ⟨gM, F, none⟩)) rfl (by kernel_rfl) (by kernel_rfl) (by kernel_rfl) (by kernel_rfl) (fun _ _ _ h => h) (Or.inl ⟨by rfl, by intro w hSw; go_simp⟩) hHeld ?_
          simp only [Act.put, List.setIfInBounds_toArray, List.set_cons_zero, List.set_cons_succ]
          refine take (i := 12) (d := some 68) (v := .int .i64 m1) rfl (by kernel_rfl) (by kernel_rfl) (by kernel_rfl) (by kernel_rfl) (fun _ _ _ h => h) (Or.inl ⟨by rfl, by intro w hSw; have q1 := hSw.2.2.2; go_simp⟩) hHeld ?_
          simp only [Act.put, List.setIfInBounds_toArray, List.set_cons_zero, List.set_cons_succ]
          refine take (i := 13) (d := some 69) (v := .int .i64 (bits .and .i64 h1 m1)) rfl (by kernel_rfl) (by kernel_rfl) (by kernel_rfl) (by kernel_rfl) (fun _ _ _ h => h) (Or.inl ⟨by rfl, by intro w hSw; go_simp⟩) hHeld ?_
          simp only [Act.put, List.setIfInBounds_toArray, List.set_cons_zero, List.set_cons_succ]
          refine take (i := 14) (d := some 70) (v := .pointer (some ⟨gV, F, none⟩)) rfl (by kernel_rfl) (by kernel_rfl) (by kernel_rfl) (by kernel_rfl) (fun _ _ _ h => h) (Or.inl ⟨by rfl, by intro w hSw; go_simp⟩) hHeld ?_
          simp only [Act.put, List.setIfInBounds_toArray, List.set_cons_zero, List.set_cons_succ]
          have hx := wide_and h1 m1
          generalize bits .and .i64 h1 m1 = x1 at *
          refine wpAnyH_ready (rs := [15]) (by kernel_rfl) (by simp) (readySkip (i := 15) rfl (by kernel_rfl) none (by kernel_rfl) (w' := wG.drew.setCell ⟨gV, F, none⟩ (.int .i64 x1)) (by go_simp) ⟨((i.drew hL).setV hL hbl hx).kM, ((i.drew hL).setV hL hbl hx).kX, by rw [World.cell?_setCell_other _ _ _ _ (by simp <;> omega)]; exact cH, by rw [World.cell?_setCell_other _ _ _ _ (by simp <;> omega)]; exact cM⟩ (fun hHeld => ?_) AllReadyH.nil)
          simp only [Act.put, List.setIfInBounds_toArray, List.set_cons_zero, List.set_cons_succ]
          refine wpAnyH_done (by kernel_rfl) ?_ _
          replace i := (i.drew hL).setV hL hbl (F := F) hx
          clear cH cM cV fV
          generalize wG.drew.setCell ⟨gV, F, none⟩ (.int .i64 x1) = wE at *
          go_wp2
          go_roundw
          case rel => exact ⟨K, _, _, by omega, by first | go_num | (congr 1; omega), i⟩
          case measure => simp [intOf]; omega
        · obtain ⟨h1, cH⟩ : ∃ h1 : Int, wD.cell? ⟨gH, F, none⟩ = some (.int .i64 h1) := ⟨_, i.cellH hF8⟩
          obtain ⟨m1, cM⟩ : ∃ m1 : Int, wD.cell? ⟨gM, F, none⟩ = some (.int .i64 m1) := ⟨_, (i.cellM hF8).1⟩
          obtain ⟨cV, fV⟩ := i.cellV hF8
          have lv := hL.vm
          have l9 := hL.mv
          have l8 := hL.h
          have l7 := hL.x
          refine wp_region_held_drew (S := (fun w' => w'.heap[gm]? = some (.cells #[sl gV, sl gM] 25 (0, 0)) ∧ w'.heap[gx]? = some (.cells #[sl gH] 28 (0, 0)) ∧ w'.cell? ⟨gH, F, none⟩ = some (.int .i64 h1) ∧ w'.cell? ⟨gM, F, none⟩ = some (.int .i64 m1))) (by kernel_rfl) ⟨i.kM, i.kX, cH, cM⟩ (fun hHeld => ?_)
          refine take (i := 0) (d := some 56) (v := .pointer (some ⟨gm, 0, none⟩)) rfl (by kernel_rfl) (by kernel_rfl) (by kernel_rfl) (by kernel_rfl) (fun _ _ _ h => h) (Or.inl ⟨by rfl, by intro w hSw; go_simp⟩) hHeld ?_
          simp only [Act.put, List.setIfInBounds_toArray, List.set_cons_zero, List.set_cons_succ]
          refine take (i := 1) (d := some 57) (v := .slice (some ⟨gV, 0, none⟩) 8 8) rfl (by kernel_rfl) (by kernel_rfl) (by kernel_rfl) (by kernel_rfl) (fun _ _ _ h => h) (Or.inl ⟨by rfl, by intro w hSw; obtain ⟨q1, q2⟩ := two hSw.1; go_simp⟩) hHeld ?_
          simp only [Act.put, List.setIfInBounds_toArray, List.set_cons_zero, List.set_cons_succ]
          refine take (i := 2) (d := some 58) (v := .int .i64 F) rfl (by kernel_rfl) (by kernel_rfl) (by kernel_rfl) (by kernel_rfl) (fun _ _ _ h => h) (Or.inl ⟨by rfl, by intro w hSw; go_simp⟩) hHeld ?_
          simp only [Act.put, List.setIfInBounds_toArray, List.set_cons_zero, List.set_cons_succ]
          refine take (i := 3) (d := some 59) (v := .pointer (some ⟨gx, 0, none⟩)) rfl (by kernel_rfl) (by kernel_rfl) (by kernel_rfl) (by kernel_rfl) (fun _ _ _ h => h) (Or.inl ⟨by rfl, by intro w hSw; go_simp⟩) hHeld ?_
          simp only [Act.put, List.setIfInBounds_toArray, List.set_cons_zero, List.set_cons_succ]
          refine take (i := 4) (d := some 60) (v := .slice (some ⟨gH, 0, none⟩) 8 8) rfl (by kernel_rfl) (by kernel_rfl) (by kernel_rfl) (by kernel_rfl) (fun _ _ _ h => h) (Or.inl ⟨by rfl, by intro w hSw; have q1 := Hh.one hSw.2.1; go_simp⟩) hHeld ?_
          simp only [Act.put, List.setIfInBounds_toArray, List.set_cons_zero, List.set_cons_succ]
          refine take (i := 5) (d := some 61) (v := .int .i64 F) rfl (by kernel_rfl) (by kernel_rfl) (by kernel_rfl) (by kernel_rfl) (fun _ _ _ h => h) (Or.inl ⟨by rfl, by intro w hSw; go_simp⟩) hHeld ?_
          simp only [Act.put, List.setIfInBounds_toArray, List.set_cons_zero, List.set_cons_succ]
          refine take (i := 6) (d := some 62) (v := .pointer (some ⟨gH, F, none⟩)) rfl (by kernel_rfl) (by kernel_rfl) (by kernel_rfl) (by kernel_rfl) (fun _ _ _ h => h) (Or.inl ⟨by rfl, by intro w hSw; go_simp⟩) hHeld ?_
          simp only [Act.put, List.setIfInBounds_toArray, List.set_cons_zero, List.set_cons_succ]
          refine take (i := 7) (d := some 63) (v := .int .i64 h1) rfl (by kernel_rfl) (by kernel_rfl) (by kernel_rfl) (by kernel_rfl) (fun _ _ _ h => h) (Or.inl ⟨by rfl, by intro w hSw; have q1 := hSw.2.2.1; go_simp⟩) hHeld ?_
          simp only [Act.put, List.setIfInBounds_toArray, List.set_cons_zero, List.set_cons_succ]
          refine take (i := 8) (d := some 64) (v := .pointer (some ⟨gm, 1, none⟩)) rfl (by kernel_rfl) (by kernel_rfl) (by kernel_rfl) (by kernel_rfl) (fun _ _ _ h => h) (Or.inl ⟨by rfl, by intro w hSw; go_simp⟩) hHeld ?_
          simp only [Act.put, List.setIfInBounds_toArray, List.set_cons_zero, List.set_cons_succ]
          refine take (i := 9) (d := some 65) (v := .slice (some ⟨gM, 0, none⟩) 8 8) rfl (by kernel_rfl) (by kernel_rfl) (by kernel_rfl) (by kernel_rfl) (fun _ _ _ h => h) (Or.inl ⟨by rfl, by intro w hSw; obtain ⟨q1, q2⟩ := two hSw.1; go_simp⟩) hHeld ?_
          simp only [Act.put, List.setIfInBounds_toArray, List.set_cons_zero, List.set_cons_succ]
          refine take (i := 10) (d := some 66) (v := .int .i64 F) rfl (by kernel_rfl) (by kernel_rfl) (by kernel_rfl) (by kernel_rfl) (fun _ _ _ h => h) (Or.inl ⟨by rfl, by intro w hSw; go_simp⟩) hHeld ?_
          simp only [Act.put, List.setIfInBounds_toArray, List.set_cons_zero, List.set_cons_succ]
          refine take (i := 11) (d := some 67) (v := .pointer (some ⟨gM, F, none⟩)) rfl (by kernel_rfl) (by kernel_rfl) (by kernel_rfl) (by kernel_rfl) (fun _ _ _ h => h) (Or.inl ⟨by rfl, by intro w hSw; go_simp⟩) hHeld ?_
          simp only [Act.put, List.setIfInBounds_toArray, List.set_cons_zero, List.set_cons_succ]
          refine take (i := 12) (d := some 68) (v := .int .i64 m1) rfl (by kernel_rfl) (by kernel_rfl) (by kernel_rfl) (by kernel_rfl) (fun _ _ _ h => h) (Or.inl ⟨by rfl, by intro w hSw; have q1 := hSw.2.2.2; go_simp⟩) hHeld ?_
          simp only [Act.put, List.setIfInBounds_toArray, List.set_cons_zero, List.set_cons_succ]
          refine take (i := 13) (d := some 69) (v := .int .i64 (bits .and .i64 h1 m1)) rfl (by kernel_rfl) (by kernel_rfl) (by kernel_rfl) (by kernel_rfl) (fun _ _ _ h => h) (Or.inl ⟨by rfl, by intro w hSw; go_simp⟩) hHeld ?_
          simp only [Act.put, List.setIfInBounds_toArray, List.set_cons_zero, List.set_cons_succ]
          refine take (i := 14) (d := some 70) (v := .pointer (some ⟨gV, F, none⟩)) rfl (by kernel_rfl) (by kernel_rfl) (by kernel_rfl) (by kernel_rfl) (fun _ _ _ h => h) (Or.inl ⟨by rfl, by intro w hSw; go_simp⟩) hHeld ?_
          simp only [Act.put, List.setIfInBounds_toArray, List.set_cons_zero, List.set_cons_succ]
          have hx := wide_and h1 m1
          generalize bits .and .i64 h1 m1 = x1 at *
          refine wpAnyH_ready (rs := [15]) (by kernel_rfl) (by simp) (readySkip (i := 15) rfl (by kernel_rfl) none (by kernel_rfl) (w' := wD.drew.setCell ⟨gV, F, none⟩ (.int .i64 x1)) (by go_simp) ⟨((i.drew hL).setV hL hbl hx).kM, ((i.drew hL).setV hL hbl hx).kX, by rw [World.cell?_setCell_other _ _ _ _ (by simp <;> omega)]; exact cH, by rw [World.cell?_setCell_other _ _ _ _ (by simp <;> omega)]; exact cM⟩ (fun hHeld => ?_) AllReadyH.nil)
          simp only [Act.put, List.setIfInBounds_toArray, List.set_cons_zero, List.set_cons_succ]
          refine wpAnyH_done (by kernel_rfl) ?_ _
          replace i := (i.drew hL).setV hL hbl (F := F) hx
          clear cH cM cV fV
          generalize wD.drew.setCell ⟨gV, F, none⟩ (.int .i64 x1) = wE at *
          go_wp2
          go_roundw
          case rel => exact ⟨K, _, _, by omega, by first | go_num | (congr 1; omega), i⟩
          case measure => simp [intOf]; omega
    · obtain rfl : k = 0 := by omega
      have kM := i.kM
      have kR := i.kR
      obtain ⟨c0, c1⟩ := two kM
      obtain ⟨r0, r1⟩ := two kR
      have fr := Bl.free kR
      have l1 := hL.v
      have l2 := hL.m
      go_wp2
      have e0 := set20 (u := sl gV) kR
      have e1 := set21 (u := sl gM) e0
      obtain ⟨y0, y1⟩ := two e1
      have ek : ∀ k, k ≠ w.heap.size → ((wr.setCell ⟨w.heap.size, 0, none⟩ (sl gV)).setCell ⟨w.heap.size, 1, none⟩ (sl gM)).heap[k]? = wr.heap[k]? := fun k hk => by rw [Below.heap_setCell _ _ _ k (by simpa using hk), Below.heap_setCell _ _ _ k (by simpa using hk)]
      exact bodyPost_ret (v := .agg #[sl gV, sl gM]) (by simp [results, Try.results195, go_sem, y0, y1]) rfl ⟨gV, gM, V, M, rfl, mine_of i.mV (ek _ (by omega)), mine_of i.mM (ek _ (by omega)), i.lV, i.lM, i.wV, i.wM, by omega, by omega, hL.vm, Dr.cur_keep (B := w.heap.size) i.cur (fun k hk => ek k (by omega)) hg hbl, Dr.only_set (Dr.only_set i.only (Nat.le_refl _)) (Nat.le_refl _)⟩

end Go.Proofs.Ytcbhpmgjmpbpmaa.Mz
namespace Go.Proofs.Ytcbhpmgjmpbpmaa.Va
set_option maxRecDepth 8000
set_option linter.unusedSimpArgs false
set_option linter.unusedVariables false
open Go Go.RowKit
open Num Pl Ea

/-- The blocks that an entry's rows lie in. -/
def In (f : Ent) (x : Nat) : Prop := x = f.bV ∨ x = f.bM ∨ x = f.bA
theorem ok_keep {w w' : World} {f : Ent} (o : f.Ok w) (hk : ∀ x, In f x → x < w.heap.size → w'.heap[x]? = w.heap[x]?) : f.Ok w' :=
  ⟨⟨o.rV.head, fun i hi => (World.cell?_of_block (hk _ (.inl rfl) (World.block_lt_of_cell? _ _ (o.rV.cell i hi)))).trans (o.rV.cell i hi), o.rV.size⟩,
   ⟨o.rM.head, fun i hi => (World.cell?_of_block (hk _ (.inr (.inl rfl)) (World.block_lt_of_cell? _ _ (o.rM.cell i hi)))).trans (o.rM.cell i hi), o.rM.size⟩,
   ⟨o.rA.head, fun i hi => by
      have e := hk _ (.inr (.inr rfl)) (o.rA.cell i hi).lt
      obtain ⟨c0, c1, c2⟩ := o.rA.cell i hi
      exact ⟨(World.cell?_of_block e).trans c0, (World.cell?_of_block e).trans c1, (World.cell?_of_block e).trans c2⟩, o.rA.size⟩, o.wV, o.wM⟩
theorem rdA_only {g : Nat} {w w' : World} {a : Option Addr} {b off : Nat} {l : List Yb.A3} (h : Mk.Only g w w') (hr : Yb.Rd w a b off l) (hne : b ≠ g) : Yb.Rd w' a b off l :=
  ⟨hr.head, fun i hi => ⟨h.cell (hr.cell i hi).1 (by simpa using hne), h.cell (hr.cell i hi).2.1 (by simpa using hne), h.cell (hr.cell i hi).2.2 (by simpa using hne)⟩, hr.size⟩
theorem set_far {w : World} {p o x : Nat} {u : Value} (h : x ≠ p) : (w.setCell ⟨p, o, none⟩ u).heap[x]? = w.heap[x]? := by
  simp [World.setCell, Array.getElem?_modify, Ne.symm h]
/-- A drawn entry is handed back, and the cursor goes on. -/
def EntD (w : World) (g : Nat) (a : Option Addr) (b off cap : Nat) (c : List Int) (e : Ending) (w' : World) : Prop :=
  ∃ f : Ent, e = .returned (.agg f.vals) ∧ f.Ok w' ∧ (∀ x, In f x → w.heap.size ≤ x ∧ x < w'.heap.size) ∧ Dr.Cur w' g a b off cap c ∧ Mk.Only g w w'

set_option maxHeartbeats 16000000 in
theorem entry_any (g : Nat) (a : Option Addr) (b off cap : Nat) (c : List Int) (w : World) (h : Dr.Cur w g a b off cap c) :
    Calls Try.prog 166 #[.pointer (some ⟨g, 0, none⟩)] w (EntD w g a b off cap c) := by
  obtain ⟨W0, hW0⟩ : ∃ W0, W0 = w.alloc (.cells #[.int .i64 0, .int .i64 0, .slice none 0 0, .slice none 0 0, .slice none 0 0, .int .i64 0] 74) := ⟨_, rfl⟩
  have hg := Dr.cur_lt h
  have hbl := Dr.rd_lt h.rd
  have hC0 : Dr.Cur W0 g a b off cap c := by subst hW0; exact Dr.cur_alloc h _
  have kR : W0.heap[w.heap.size]? = some (.cells #[.int .i64 0, .int .i64 0, .slice none 0 0, .slice none 0 0, .slice none 0 0, .int .i64 0] 74 (0, 0)) := by subst hW0; exact at_new rfl
  have hO0 : Mk.Only g w W0 := by subst hW0; exact Dr.only_alloc (Mk.Only.refl _ _) _
  have z0 : w.heap.size < W0.heap.size := blk_lt kR
  clear h
  have t1 : True := trivial
  go_enter Try.func166, Try.ntmps166
  go_wp2_with (first
    | (go_at_call 74; clear t1; rw [← hW0]; clear hW0; refine (Dr.below_any _ _ _ _ _ _ 3 _ hC0 (by omega) (by omega)).mono ?_; rintro e w1 ⟨d1, rfl, _, _, hC1, hO⟩; replace kR := (hO.block _ (blk_lt kR) (by simp; omega)).trans kR; replace hO0 := Dr.only_trans hO0 hO; have s1 := hO.size; clear hO hC0; have t2 : True := trivial)
    | (go_at_call 74; clear t2; refine (Dr.below_any _ _ _ _ _ _ 4 _ hC1 (by omega) (by omega)).mono ?_; rintro e w2 ⟨d2, rfl, _, _, hC2, hO⟩; replace kR := (hO.block _ (blk_lt kR) (by simp; omega)).trans kR; replace hO0 := Dr.only_trans hO0 hO; have s2 := hO.size; clear hO hC1)
    | (go_at_call 195; refine (Mz.match_any _ _ _ _ _ _ _ hC2).mono ?_; rintro e w3 ⟨gV, gM, V, M, rfl, mV, mM, lV, lM, wV, wM, zV, zM, dVM, hC3, hO⟩; replace kR := (hO.block _ (blk_lt kR) (by simp; omega)).trans kR; replace hO0 := Dr.only_trans hO0 hO; have s3 := hO.size; clear hO hC2)
    | (go_at_call 194; refine (Yy.acts_any _ _ _ _ _ _ _ hC3).mono ?_; rintro e w4 ⟨vA, A, rfl, hA, lA, hC4, hO⟩; obtain ⟨gA, cA, rfl, zA, rA, rA2⟩ := Yx.hasA_form hA (by omega); replace kR := (hO.block _ (blk_lt kR) (by simp; omega)).trans kR; replace mV := Yu.own_onlyN mV hO (by omega); replace mM := Yu.own_onlyN mM hO (by omega); replace hO0 := Dr.only_trans hO0 hO; have s4 := hO.size; clear hO hC3; have t5 : True := trivial)
    | (go_at_call 74; clear t5; refine (Dr.below_any _ _ _ _ _ _ 3 _ hC4 (by omega) (by omega)).mono ?_; rintro e w5 ⟨d5, rfl, _, _, hC5, hO⟩; replace kR := (hO.block _ (blk_lt kR) (by simp; omega)).trans kR; replace mV := Yu.own_onlyN mV hO (by omega); replace mM := Yu.own_onlyN mM hO (by omega); replace hO0 := Dr.only_trans hO0 hO; have s5 := hO.size; have HO5 : Hid (Mk.Only g w4 w5) := hO; clear hO hC4; have t6 : True := trivial)
    | (go_at_call 74; clear t6; refine (Dr.below_any _ _ _ _ _ _ 9 _ (Dr.cur_alloc hC5 _) (by omega) (by omega)).mono ?_; rintro e w7 ⟨x7, rfl, _, _, hC7, hO⟩; have kT := (hO.block w5.heap.size (by simp) (by simp; omega)).trans (at_new rfl); have o57 : ∀ k, k < w5.heap.size → k ≠ g → w7.heap[k]? = w5.heap[k]? := (fun k hk hne => (hO.block k (by simp; omega) (by simpa using hne)).trans (at_old hk)); replace kR := (o57 _ (blk_lt kR) (by omega)).trans kR; replace hO0 := Dr.only_trans (Dr.only_alloc hO0 _) hO; have s7 := hO.size; clear hO hC5; obtain ⟨y0, y1, y2, y3, y4, y5⟩ := six kT; obtain ⟨r0, r1, r2, r3, r4, r5⟩ := six kR; have fT := Bl.free kT; have fR := Bl.free kR; have t7 : True := trivial)
    | (go_at_call 74; clear t7; refine (Dr.below_any _ _ _ _ _ _ 2 _ hC7 (by omega) (by omega)).mono ?_; rintro e w8 ⟨x8, rfl, _, _, hC8, hO⟩; have kT8 := (hO.block _ (blk_lt kT) (by simp; omega)).trans kT; have kR8 := (hO.block _ (blk_lt kR) (by simp; omega)).trans kR; have o78 : ∀ k, k < w7.heap.size → k ≠ g → w8.heap[k]? = w7.heap[k]? := (fun k hk hne => hO.block k hk (by simpa using hne)); replace hO0 := Dr.only_trans hO0 hO; have s8 := hO.size; clear hO y0 y1 y2 y3 y4 y5 r0 r1 r2 r3 r4 r5; obtain ⟨y0, y1, y2, y3, y4, y5⟩ := six kT8; obtain ⟨r0, r1, r2, r3, r4, r5⟩ := six kR8; have fT8 := Bl.free kT8; have fR8 := Bl.free kR8))
  all_goals
    have xV := mV.row.lt
    have xM := mM.row.lt
    have xA := zA
    have s7b : w5.heap.size + 1 ≤ w7.heap.size := by simpa using s7
    have xA2 : gA < w4.heap.size := (hA.1.lt gA (by simp [Value.ownBlock])).2
  · have v5 : Ent.Ok w5 ⟨d1, 65535, V, M, [], (1000000000 - x8), some ⟨gV, 0, none⟩, gV, 0, 8, some ⟨gM, 0, none⟩, gM, 0, 8, none, gV, 0, 0⟩ := ⟨by simpa using mV.rd, by simpa using mM.rd, ⟨fun h => by simp at h, fun i h => by simp at h, by simp⟩, wV, wM⟩
    refine bodyPost_ret (v := .agg #[.int .i64 d1, .int .i64 65535, .slice (some ⟨gV, 0, none⟩) 8 8, .slice (some ⟨gM, 0, none⟩) 8 8, .slice none 0 0, .int .i64 (1000000000 - x8)]) (by simp [results, Try.results166, go_sem, r0, r1, r2, r3, r4, r5]) rfl ⟨⟨d1, 65535, V, M, [], (1000000000 - x8), some ⟨gV, 0, none⟩, gV, 0, 8, some ⟨gM, 0, none⟩, gM, 0, 8, none, gV, 0, 0⟩, ?_, ?_, ?_, ?_, ?_⟩
    · simp [Ent.vals, lV, lM]
    · refine ok_keep v5 fun x hx hl => ?_
      have hx2 : x ≠ g ∧ x ≠ w.heap.size ∧ x ≠ w5.heap.size := by rcases hx with rfl | rfl | rfl <;> ((try simp only); omega)
      obtain ⟨n1, n2, n3⟩ := hx2
      simp only [set_far n2, set_far n3]
      exact (o78 _ (by omega) (by omega)).trans (o57 _ (by omega) (by omega))
    · intro x hx
      simp only [World.size_setCell]
      rcases hx with rfl | rfl | rfl <;> ((try simp only); omega)
    · repeat (first | with_reducible exact hC8 | refine Dr.cur_set (B := w.heap.size) ?_ (by omega) hg hbl)
    · repeat (first | with_reducible exact hO0 | refine Dr.only_set ?_ (by omega))
  · have v5 : Ent.Ok w5 ⟨d1, d2, V, M, [], d5, some ⟨gV, 0, none⟩, gV, 0, 8, some ⟨gM, 0, none⟩, gM, 0, 8, none, gV, 0, 0⟩ := ⟨by simpa using mV.rd, by simpa using mM.rd, ⟨fun h => by simp at h, fun i h => by simp at h, by simp⟩, wV, wM⟩
    refine bodyPost_ret (v := .agg #[.int .i64 d1, .int .i64 d2, .slice (some ⟨gV, 0, none⟩) 8 8, .slice (some ⟨gM, 0, none⟩) 8 8, .slice none 0 0, .int .i64 d5]) (by simp [results, Try.results166, go_sem, r0, r1, r2, r3, r4, r5]) rfl ⟨⟨d1, d2, V, M, [], d5, some ⟨gV, 0, none⟩, gV, 0, 8, some ⟨gM, 0, none⟩, gM, 0, 8, none, gV, 0, 0⟩, ?_, ?_, ?_, ?_, ?_⟩
    · simp [Ent.vals, lV, lM]
    · refine ok_keep v5 fun x hx hl => ?_
      have hx2 : x ≠ g ∧ x ≠ w.heap.size ∧ x ≠ w5.heap.size := by rcases hx with rfl | rfl | rfl <;> ((try simp only); omega)
      obtain ⟨n1, n2, n3⟩ := hx2
      simp only [set_far n2, set_far n3]
      exact o57 _ (by omega) (by omega)
    · intro x hx
      simp only [World.size_setCell]
      rcases hx with rfl | rfl | rfl <;> ((try simp only); omega)
    · repeat (first | with_reducible exact hC7 | refine Dr.cur_set (B := w.heap.size) ?_ (by omega) hg hbl)
    · repeat (first | with_reducible exact hO0 | refine Dr.only_set ?_ (by omega))
  · have v5 : Ent.Ok w5 ⟨d1, 65535, V, M, A, (1000000000 - x8), some ⟨gV, 0, none⟩, gV, 0, 8, some ⟨gM, 0, none⟩, gM, 0, 8, some ⟨gA, 0, none⟩, gA, 0, cA⟩ := ⟨by simpa using mV.rd, by simpa using mM.rd, rdA_only HO5.out rA (show gA ≠ g by omega), wV, wM⟩
    refine bodyPost_ret (v := .agg #[.int .i64 d1, .int .i64 65535, .slice (some ⟨gV, 0, none⟩) 8 8, .slice (some ⟨gM, 0, none⟩) 8 8, .slice (some ⟨gA, 0, none⟩) A.length cA, .int .i64 (1000000000 - x8)]) (by simp [results, Try.results166, go_sem, r0, r1, r2, r3, r4, r5]) rfl ⟨⟨d1, 65535, V, M, A, (1000000000 - x8), some ⟨gV, 0, none⟩, gV, 0, 8, some ⟨gM, 0, none⟩, gM, 0, 8, some ⟨gA, 0, none⟩, gA, 0, cA⟩, ?_, ?_, ?_, ?_, ?_⟩
    · simp [Ent.vals, lV, lM]
    · refine ok_keep v5 fun x hx hl => ?_
      have hx2 : x ≠ g ∧ x ≠ w.heap.size ∧ x ≠ w5.heap.size := by rcases hx with rfl | rfl | rfl <;> ((try simp only); omega)
      obtain ⟨n1, n2, n3⟩ := hx2
      simp only [set_far n2, set_far n3]
      exact (o78 _ (by omega) (by omega)).trans (o57 _ (by omega) (by omega))
    · intro x hx
      simp only [World.size_setCell]
      rcases hx with rfl | rfl | rfl <;> ((try simp only); omega)
    · repeat (first | with_reducible exact hC8 | refine Dr.cur_set (B := w.heap.size) ?_ (by omega) hg hbl)
    · repeat (first | with_reducible exact hO0 | refine Dr.only_set ?_ (by omega))
  · have v5 : Ent.Ok w5 ⟨d1, d2, V, M, A, d5, some ⟨gV, 0, none⟩, gV, 0, 8, some ⟨gM, 0, none⟩, gM, 0, 8, some ⟨gA, 0, none⟩, gA, 0, cA⟩ := ⟨by simpa using mV.rd, by simpa using mM.rd, rdA_only HO5.out rA (show gA ≠ g by omega), wV, wM⟩
    refine bodyPost_ret (v := .agg #[.int .i64 d1, .int .i64 d2, .slice (some ⟨gV, 0, none⟩) 8 8, .slice (some ⟨gM, 0, none⟩) 8 8, .slice (some ⟨gA, 0, none⟩) A.length cA, .int .i64 d5]) (by simp [results, Try.results166, go_sem, r0, r1, r2, r3, r4, r5]) rfl ⟨⟨d1, d2, V, M, A, d5, some ⟨gV, 0, none⟩, gV, 0, 8, some ⟨gM, 0, none⟩, gM, 0, 8, some ⟨gA, 0, none⟩, gA, 0, cA⟩, ?_, ?_, ?_, ?_, ?_⟩
    · simp [Ent.vals, lV, lM]
    · refine ok_keep v5 fun x hx hl => ?_
      have hx2 : x ≠ g ∧ x ≠ w.heap.size ∧ x ≠ w5.heap.size := by rcases hx with rfl | rfl | rfl <;> ((try simp only); omega)
      obtain ⟨n1, n2, n3⟩ := hx2
      simp only [set_far n2, set_far n3]
      exact o57 _ (by omega) (by omega)
    · intro x hx
      simp only [World.size_setCell]
      rcases hx with rfl | rfl | rfl <;> ((try simp only); omega)
    · repeat (first | with_reducible exact hC7 | refine Dr.cur_set (B := w.heap.size) ?_ (by omega) hg hbl)
    · repeat (first | with_reducible exact hO0 | refine Dr.only_set ?_ (by omega))


end Go.Proofs.Ytcbhpmgjmpbpmaa.Va
namespace Go.Proofs.Ytcbhpmgjmpbpmaa.Vb
set_option maxRecDepth 8000
set_option linter.unusedSimpArgs false
set_option linter.unusedVariables false
open Go Go.RowKit
open Num

/-- A drawn message is handed back, and the cursor goes on. -/
def MsgD (w : World) (g : Nat) (a : Option Addr) (b off cap : Nat) (c : List Int) (e : Ending) (w' : World) : Prop :=
  ∃ m : Ga.Msg, e = .returned (.agg m.vals) ∧ m.Ok w' ∧ Dr.Cur w' g a b off cap c ∧ Mk.Only g w w'
theorem set1 {w : World} {g : Nat} {v0 v1 v2 v3 v4 v5 v6 v7 v8 v9 u : Value} {t : TypeId} (k : w.heap[g]? = some (.cells #[v0, v1, v2, v3, v4, v5, v6, v7, v8, v9] t (0, 0))) :
    (w.setCell ⟨g, 0, none⟩ u).heap[g]? = some (.cells #[u, v1, v2, v3, v4, v5, v6, v7, v8, v9] t (0, 0)) ∧ (w.setCell ⟨g, 1, none⟩ u).heap[g]? = some (.cells #[v0, u, v2, v3, v4, v5, v6, v7, v8, v9] t (0, 0)) ∧ (w.setCell ⟨g, 2, none⟩ u).heap[g]? = some (.cells #[v0, v1, u, v3, v4, v5, v6, v7, v8, v9] t (0, 0)) ∧ (w.setCell ⟨g, 8, none⟩ u).heap[g]? = some (.cells #[v0, v1, v2, v3, v4, v5, v6, v7, u, v9] t (0, 0)) := by
  exact ⟨Ea.blk_same k, Ea.blk_same k, Ea.blk_same k, Ea.blk_same k⟩

theorem wide_nil : Po.Wide [] := fun k => by simp [Pm.I64]

set_option maxHeartbeats 16000000 in
theorem msg_any (g : Nat) (a : Option Addr) (b off cap : Nat) (c : List Int) (w : World) (h : Dr.Cur w g a b off cap c) :
    Calls Try.prog 75 #[.pointer (some ⟨g, 0, none⟩)] w (MsgD w g a b off cap c) := by
  obtain ⟨W0, hW0⟩ : ∃ W0, W0 = w.alloc (.cells #[.int .i64 0, .int .i64 0, .int .i64 0, .int .i64 0, .int .i64 0, .slice none 0 0, .slice none 0 0, .slice none 0 0, .bool false, .slice none 0 0] 30) := ⟨_, rfl⟩
  have hg := Dr.cur_lt h
  have hbl := Dr.rd_lt h.rd
  have hC0 : Dr.Cur W0 g a b off cap c := by subst hW0; exact Dr.cur_alloc h _
  have kR : W0.heap[w.heap.size]? = some (.cells #[.int .i64 0, .int .i64 0, .int .i64 0, .int .i64 0, .int .i64 0, .slice none 0 0, .slice none 0 0, .slice none 0 0, .bool false, .slice none 0 0] 30 (0, 0)) := by subst hW0; exact Pl.at_new rfl
  have hO0 : Mk.Only g w W0 := by subst hW0; exact Dr.only_alloc (Mk.Only.refl _ _) _
  have z0 : w.heap.size < W0.heap.size := Ea.blk_lt kR
  clear h
  have t1 : True := trivial
  go_enter Try.func75, Try.ntmps75
  go_upto_if 15 with (first
    | (go_at_call 74; clear t1; rw [← hW0]; clear hW0; refine (Dr.below_any _ _ _ _ _ _ 6 _ hC0 (by omega) (by omega)).mono ?_; rintro e w1 ⟨d1, rfl, _, _, hC1, hO⟩; replace kR := (hO.block _ (Ea.blk_lt kR) (by simp; omega)).trans kR; replace hO0 := Dr.only_trans hO0 hO; have s1 := hO.size; clear hO; have t2 : True := trivial)
    | (go_at_call 74; clear t2; refine (Dr.below_any _ _ _ _ _ _ 4 _ hC1 (by omega) (by omega)).mono ?_; rintro e w2 ⟨d2, rfl, _, _, hC2, hO⟩; replace kR := (hO.block _ (Ea.blk_lt kR) (by simp; omega)).trans kR; replace hO0 := Dr.only_trans hO0 hO; have s2 := hO.size; clear hO; have t3 : True := trivial)
    | (go_at_call 74; clear t3; refine (Dr.below_any _ _ _ _ _ _ 9 _ hC2 (by omega) (by omega)).mono ?_; rintro e w3 ⟨d3, rfl, _, _, hC3, hO⟩; replace kR := (hO.block _ (Ea.blk_lt kR) (by simp; omega)).trans kR; replace hO0 := Dr.only_trans hO0 hO; have s3 := hO.size; clear hO; have t4 : True := trivial)
    | (go_at_call 74; clear t4; refine (Dr.below_any _ _ _ _ _ _ 3 _ (Dr.cur_alloc hC3 _) (by omega) (by omega)).mono ?_; rintro e w5 ⟨x5, rfl, _, _, hC5, hO⟩; have kT5 := (hO.block w3.heap.size (by simp) (by simp; omega)).trans (Pl.at_new rfl); have kR5 := (hO.block w.heap.size (by simp; omega) (by simp; omega)).trans ((Pl.at_old (Ea.blk_lt kR)).trans kR); replace hO0 := Dr.only_trans (Dr.only_alloc hO0 _) hO; have s5 := hO.size; simp at s5; clear hO hC3 kR; obtain ⟨y0, y1, y2, y3, y4, y5, y6, y7, y8, y9⟩ := Ga.ten kT5; have fT5 := Pl.Bl.free kT5))
  have lT : w3.heap.size < w5.heap.size := Ea.blk_lt kT5
  have lR : w.heap.size < w3.heap.size := by omega
  go_cut [3] from 16 (fun s3 wx => ∃ kd : Int, s3 = .pointer (some ⟨w3.heap.size, 0, none⟩) ∧ wx.heap[w3.heap.size]? = some (.cells #[.int .i64 kd, .int .i64 d2, .int .i64 d3, .int .i64 0, .int .i64 0, .slice none 0 0, .slice none 0 0, .slice none 0 0, .bool false, .slice none 0 0] 30 (0, 0)) ∧ wx.heap[w.heap.size]? = some (.cells #[.int .i64 0, .int .i64 0, .int .i64 0, .int .i64 0, .int .i64 0, .slice none 0 0, .slice none 0 0, .slice none 0 0, .bool false, .slice none 0 0] 30 (0, 0)) ∧ Dr.Cur wx g a b off cap c ∧ Mk.Only g w wx ∧ w3.heap.size < wx.heap.size)
  case first =>
    go_wp2
    · go_meet
      case rel => exact ⟨2, rfl, (set1 kT5).1, Ea.blk_other kR5 (by omega), Dr.cur_set (B := w.heap.size) hC5 (by omega) hg hbl, Dr.only_set hO0 (by omega), by simpa using lT⟩
    · go_meet
      case rel => exact ⟨_, rfl, kT5, kR5, hC5, hO0, lT⟩
  case rest =>
    clear kT5 kR5 hC5 hO0 lT fT5 y0 y1 y2 y3 y4 y5 y6 y7 y8 y9
    obtain ⟨kd, rfl, kT, kR, hC, hO0, lT⟩ := hcut
    have t5 : True := trivial
    go_upto_if 19 with (go_at_call 74; clear t5; refine (Dr.below_any _ _ _ _ _ _ 9 _ hC (by omega) (by omega)).mono ?_; rintro e w6 ⟨x6, rfl, _, _, hC6, hO⟩; have kT6 := (hO.block _ lT (by simp; omega)).trans kT; have kR6 := (hO.block _ (by omega) (by simp; omega)).trans kR; replace hO0 := Dr.only_trans hO0 hO; have lT6 : w3.heap.size < w6.heap.size := Ea.blk_lt kT6; clear hO hC kT kR lT; obtain ⟨y0, y1, y2, y3, y4, y5, y6, y7, y8, y9⟩ := Ga.ten kT6; have fT6 := Pl.Bl.free kT6)
    go_cut [3] from 20 (fun s3 wx => ∃ kd se xi : Int, s3 = .pointer (some ⟨w3.heap.size, 0, none⟩) ∧ wx.heap[w3.heap.size]? = some (.cells #[.int .i64 kd, .int .i64 se, .int .i64 xi, .int .i64 0, .int .i64 0, .slice none 0 0, .slice none 0 0, .slice none 0 0, .bool false, .slice none 0 0] 30 (0, 0)) ∧ wx.heap[w.heap.size]? = some (.cells #[.int .i64 0, .int .i64 0, .int .i64 0, .int .i64 0, .int .i64 0, .slice none 0 0, .slice none 0 0, .slice none 0 0, .bool false, .slice none 0 0] 30 (0, 0)) ∧ Dr.Cur wx g a b off cap c ∧ Mk.Only g w wx ∧ w3.heap.size < wx.heap.size)
    case first =>
      go_wp2
      · go_meet
        case rel => exact ⟨_, 1000000000, 4294967295, rfl, (set1 (set1 kT6).2.1).2.2.1, Ea.blk_other (Ea.blk_other kR6 (by omega)) (by omega), Dr.cur_set (B := w.heap.size) (Dr.cur_set (B := w.heap.size) hC6 (by omega) hg hbl) (by omega) hg hbl, Dr.only_set (Dr.only_set hO0 (by omega)) (by omega), by simpa using lT6⟩
      · go_meet
        case rel => exact ⟨_, _, _, rfl, kT6, kR6, hC6, hO0, lT6⟩
    case rest =>
      clear kT6 kR6 hC6 hO0 lT6 fT6 y0 y1 y2 y3 y4 y5 y6 y7 y8 y9
      obtain ⟨kd, se, xi, rfl, kT, kR, hC, hO0, lT⟩ := hcut
      have lR2 : w.heap.size < wc.heap.size := by omega
      obtain ⟨y0, y1, y2, y3, y4, y5, y6, y7, y8, y9⟩ := Ga.ten kT
      obtain ⟨r0, r1, r2, r3, r4, r5, r6, r7, r8, r9⟩ := Ga.ten kR
      have fT := Pl.Bl.free kT
      have fR := Pl.Bl.free kR
      by_cases k2 : kd = 2
      · subst k2
        go_upto_region 9 with (go_at_call 166; refine (Va.entry_any _ _ _ _ _ _ _ hC).mono ?_; rintro e w7 ⟨⟨ep, pr, V, M, A, hh, aV, bV, oV, cV, aM, bM, oM, cM, aA, bA, oA, cA⟩, he, okf, inf, hC7, hO⟩; simp only [Ea.Ent.vals] at he; subst he; have kT7 := (hO.block _ lT (by simp; omega)).trans kT; have kR7 := (hO.block _ lR2 (by simp; omega)).trans kR; replace hO0 := Dr.only_trans hO0 hO; have s7 := hO.size; clear hO y0 y1 y2 y3 y4 y5 y6 y7 y8 y9 r0 r1 r2 r3 r4 r5 r6 r7 r8 r9 fT fR)
        obtain ⟨W8, hW8⟩ : ∃ W8, W8 = w7.alloc (.cells #[.int .i64 ep, .int .i64 pr, .slice aV V.length cV, .slice aM M.length cM, .slice aA A.length cA, .int .i64 hh] 74) := ⟨_, rfl⟩
        have b8 : Below w7.heap.size w7 W8 := by subst hW8; exact Pl.below_alloc1 _ _
        have k8 : W8.heap[w7.heap.size]? = some (.cells #[.int .i64 ep, .int .i64 pr, .slice aV V.length cV, .slice aM M.length cM, .slice aA A.length cA, .int .i64 hh] 74 (0, 0)) := by subst hW8; exact Pl.at_new rfl
        have hC8 : Dr.Cur W8 g a b off cap c := by subst hW8; exact Dr.cur_alloc hC7 _
        have hO8 : Mk.Only g w W8 := by subst hW8; exact Dr.only_alloc hO0 _
        rw [← hW8]
        clear hW8 hC7 hO0
        have lT7 := Ea.blk_lt kT7
        have lR7 := Ea.blk_lt kR7
        replace kT7 := (b8.block _ lT7).trans kT7
        replace kR7 := (b8.block _ lR7).trans kR7
        have OK8 : Hid (Ea.Ent.Ok W8 ⟨ep, pr, V, M, A, 0, aV, bV, oV, cV, aM, bM, oM, cM, aA, bA, oA, cA⟩) := Ea.Ent.Ok.below (w := w7) ⟨okf.rV, okf.rM, okf.rA, okf.wV, okf.wM⟩ b8
        have INF : Hid (∀ x, Va.In ⟨ep, pr, V, M, A, hh, aV, bV, oV, cV, aM, bM, oM, cM, aA, bA, oA, cA⟩ x → wc.heap.size ≤ x ∧ x < w7.heap.size) := inf
        have NE : Hid (w.heap.size < w3.heap.size ∧ w3.heap.size < wc.heap.size ∧ wc.heap.size ≤ w7.heap.size ∧ w3.heap.size ≠ w7.heap.size ∧ w.heap.size ≠ w7.heap.size) := ⟨by omega, by omega, by omega, by omega, by omega⟩
        have n37 : ¬ w3.heap.size = w7.heap.size := by omega
        have n07 : ¬ w.heap.size = w7.heap.size := by omega
        have n03 : ¬ w.heap.size = w3.heap.size := by omega
        have n73 : ¬ w7.heap.size = w3.heap.size := by omega
        have n70 : ¬ w7.heap.size = w.heap.size := by omega
        have n30 : ¬ w3.heap.size = w.heap.size := by omega
        clear okf inf b8
        obtain ⟨y0, y1, y2, y3, y4, y5, y6, y7, y8, y9⟩ := Ga.ten kT7
        obtain ⟨r0, r1, r2, r3, r4, r5, r6, r7, r8, r9⟩ := Ga.ten kR7
        obtain ⟨u0, u1, u2, u3, u4, u5⟩ := Ea.six k8
        have fT7 := Pl.Bl.free kT7
        clear kT kR hC lT7 lR7 r0 r1 r2 r3 r4 r5 r6 r7 r8 r9 n07 n03 n70 n30
        go_upto_region 13 with fail
        obtain ⟨W9, hW9⟩ : ∃ W9, W9 = ((((W8.setCell ⟨w3.heap.size, 3, none⟩ (.int .i64 ep)).setCell ⟨w3.heap.size, 4, none⟩ (.int .i64 pr)).setCell ⟨w3.heap.size, 5, none⟩ (.slice aV V.length cV)).setCell ⟨w3.heap.size, 6, none⟩ (.slice aM M.length cM)).setCell ⟨w3.heap.size, 7, none⟩ (.slice aA A.length cA) := ⟨_, rfl⟩
        have k9 : W9.heap[w3.heap.size]? = some (.cells #[.int .i64 2, .int .i64 se, .int .i64 xi, .int .i64 ep, .int .i64 pr, .slice aV V.length cV, .slice aM M.length cM, .slice aA A.length cA, .bool false, .slice none 0 0] 30 (0, 0)) := by subst hW9; exact Ea.blk_same (Ea.blk_same (Ea.blk_same (Ea.blk_same (Ea.blk_same kT7))))
        have far9 : ∀ x, x ≠ w3.heap.size → W9.heap[x]? = W8.heap[x]? := fun x hx => by subst hW9; simp only [Va.set_far hx]
        have kR9 := (far9 w.heap.size (by have := NE.out; omega)).trans kR7
        have z9 : W9.heap.size = W8.heap.size := by subst hW9; simp
        have hC9 : Dr.Cur W9 g a b off cap c := by subst hW9; repeat (first | with_reducible exact hC8 | refine Dr.cur_set (B := w.heap.size) ?_ (by have := NE.out; omega) hg hbl)
        have hO9 : Mk.Only g w W9 := by subst hW9; repeat (first | with_reducible exact hO8 | refine Dr.only_set ?_ (by have := NE.out; omega))
        rw [← hW9]
        have OK9 : Hid (Ea.Ent.Ok W9 ⟨ep, pr, V, M, A, 0, aV, bV, oV, cV, aM, bM, oM, cM, aA, bA, oA, cA⟩) := Va.ok_keep OK8.out fun x hx hl => far9 x (by have := INF.out x hx; have := NE.out; omega)
        clear hW9 far9 hC8 hO8 k8 kT7 kR7 fT7 OK8 y0 y1 y2 y3 y4 y5 y6 y7 y8 y9 u0 u1 u2 u3 u4 u5 n37 n73
        obtain ⟨y0, y1, y2, y3, y4, y5, y6, y7, y8, y9⟩ := Ga.ten k9
        obtain ⟨r0, r1, r2, r3, r4, r5, r6, r7, r8, r9⟩ := Ga.ten kR9
        have fR9 := Pl.Bl.free kR9
        have n30 : ¬ w3.heap.size = w.heap.size := by have := NE.out; omega
        have n03 : ¬ w.heap.size = w3.heap.size := by have := NE.out; omega
        go_wp2
        refine bodyPost_ret (v := .agg #[.int .i64 2, .int .i64 se, .int .i64 xi, .int .i64 ep, .int .i64 pr, .slice aV V.length cV, .slice aM M.length cM, .slice aA A.length cA, .bool false, .slice none 0 0]) (by simp [results, Try.results75, go_sem, r0, r1, r2, r3, r4, r5, r6, r7, r8, r9]) rfl ⟨⟨2, se, xi, ⟨ep, pr, V, M, A, 0, aV, bV, oV, cV, aM, bM, oM, cM, aA, bA, oA, cA⟩, false, [], none, 0, 0, 0⟩, ?_, ?_, ?_, ?_⟩
        · simp [Ga.Msg.vals]
        · refine ⟨Va.ok_keep OK9.out fun x hx hl => ?_, rfl, ⟨fun h => by simp at h, fun i h => by simp at h, by simp⟩, wide_nil⟩
          have q := INF.out x hx
          have nn := NE.out
          have n1 : x ≠ w3.heap.size := by omega
          have n2 : x ≠ w.heap.size := by omega
          simp only [Va.set_far n1, Va.set_far n2]
        · repeat (first | with_reducible exact hC9 | refine Dr.cur_set (B := w.heap.size) ?_ (by omega) hg hbl | refine Dr.cur_alloc ?_ _)
        · repeat (first | with_reducible exact hO9 | refine Dr.only_set ?_ (by omega) | refine Dr.only_alloc ?_ _)
      have b2 : (kd == 2) = false := by simp [k2]
      by_cases k3 : kd = 3
      · subst k3
        go_wp2_with (go_at_call 74; refine (Dr.below_any _ _ _ _ _ _ 5 _ hC (by omega) (by omega)).mono ?_; rintro e w7 ⟨x7, rfl, _, _, hC7, hO⟩; have kT7 := (hO.block _ lT (by simp; omega)).trans kT; have kR7 := (hO.block _ lR2 (by simp; omega)).trans kR; replace hO0 := Dr.only_trans hO0 hO; have s7 := hO.size; clear hO y0 y1 y2 y3 y4 y5 y6 y7 y8 y9 r0 r1 r2 r3 r4 r5 r6 r7 r8 r9; obtain ⟨y0, y1, y2, y3, y4, y5, y6, y7, y8, y9⟩ := Ga.ten kT7; obtain ⟨r0, r1, r2, r3, r4, r5, r6, r7, r8, r9⟩ := Ga.ten kR7; have fT7 := Pl.Bl.free kT7; have fR7 := Pl.Bl.free kR7)
        refine bodyPost_ret (v := .agg #[.int .i64 3, .int .i64 se, .int .i64 xi, .int .i64 x7, .int .i64 0, .slice none 0 0, .slice none 0 0, .slice none 0 0, .bool false, .slice none 0 0]) (by simp [results, Try.results75, go_sem, r0, r1, r2, r3, r4, r5, r6, r7, r8, r9]) rfl ⟨⟨3, se, xi, ⟨x7, 0, [], [], [], 0, none, 0, 0, 0, none, 0, 0, 0, none, 0, 0, 0⟩, false, [], none, 0, 0, 0⟩, ?_, ?_, ?_, ?_⟩
        · simp [Ga.Msg.vals]
        · exact ⟨⟨⟨fun h => by simp at h, fun i h => by simp at h, by simp⟩, ⟨fun h => by simp at h, fun i h => by simp at h, by simp⟩, ⟨fun h => by simp at h, fun i h => by simp at h, by simp⟩, wide_nil, wide_nil⟩, rfl, ⟨fun h => by simp at h, fun i h => by simp at h, by simp⟩, wide_nil⟩
        · repeat (first | with_reducible exact hC7 | refine Dr.cur_set (B := w.heap.size) ?_ (by omega) hg hbl | refine Dr.cur_alloc ?_ _)
        · repeat (first | with_reducible exact hO0 | refine Dr.only_set ?_ (by omega) | refine Dr.only_alloc ?_ _)
      have b3 : (kd == 3) = false := by simp [k3]
      by_cases k5 : kd = 5
      · subst k5
        go_wp2_with (first
          | (go_at_call 74; refine (Dr.below_any _ _ _ _ _ _ 2 _ hC (by omega) (by omega)).mono ?_; rintro e w7 ⟨x7, rfl, _, _, hC7, hO⟩; have kT7 := (hO.block _ lT (by simp; omega)).trans kT; have kR7 := (hO.block _ lR2 (by simp; omega)).trans kR; replace hO0 := Dr.only_trans hO0 hO; have s7 := hO.size; clear hO y0 y1 y2 y3 y4 y5 y6 y7 y8 y9 r0 r1 r2 r3 r4 r5 r6 r7 r8 r9; obtain ⟨y0, y1, y2, y3, y4, y5, y6, y7, y8, y9⟩ := Ga.ten kT7; obtain ⟨r0, r1, r2, r3, r4, r5, r6, r7, r8, r9⟩ := Ga.ten kR7; have fT7 := Pl.Bl.free kT7; have fR7 := Pl.Bl.free kR7; have hC8 := Dr.cur_set (B := w.heap.size) (p := w3.heap.size) (o := 8) (u := .bool (x7 == 0)) hC7 (by omega) hg hbl; have kT8 := (set1 (u := .bool (x7 == 0)) kT7).2.2.2; have kR8 := Ea.blk_other (g' := w3.heap.size) (i := 8) (u := .bool (x7 == 0)) kR7 (by omega))
          | (go_at_call 139; refine (Hw2.head_wide _ _ _ _ _ _ _ hC8).mono ?_; rintro e w9 ⟨gH, H, rfl, mH, lH, wH, zH, hC9, hO⟩; have kT9 := (hO.block _ (by simp; omega) (by simp; omega)).trans kT8; have kR9 := (hO.block _ (by simp; omega) (by simp; omega)).trans kR8; replace hO0 := Dr.only_trans (Dr.only_set hO0 (by omega)) hO; simp at zH; clear hO y0 y1 y2 y3 y4 y5 y6 y7 y8 y9 r0 r1 r2 r3 r4 r5 r6 r7 r8 r9; obtain ⟨y0, y1, y2, y3, y4, y5, y6, y7, y8, y9⟩ := Ga.ten kT9; obtain ⟨r0, r1, r2, r3, r4, r5, r6, r7, r8, r9⟩ := Ga.ten kR9; have fT9 := Pl.Bl.free kT9; have fR9 := Pl.Bl.free kR9))
        refine bodyPost_ret (v := .agg #[.int .i64 5, .int .i64 se, .int .i64 xi, .int .i64 0, .int .i64 0, .slice none 0 0, .slice none 0 0, .slice none 0 0, .bool (x7 == 0), .slice (some ⟨gH, 0, none⟩) 8 8]) (by simp [results, Try.results75, go_sem, r0, r1, r2, r3, r4, r5, r6, r7, r8, r9]) rfl ⟨⟨5, se, xi, ⟨0, 0, [], [], [], 0, none, 0, 0, 0, none, 0, 0, 0, none, 0, 0, 0⟩, x7 == 0, H, some ⟨gH, 0, none⟩, gH, 0, 8⟩, ?_, ?_, ?_, ?_⟩
        · simp [Ga.Msg.vals, lH]
        · have lH2 := lH
          have mF : Hr.Rd w9 (some ⟨gH, 0, none⟩) gH 0 H := mH.rd
          refine ⟨⟨⟨fun h => by simp at h, fun i h => by simp at h, by simp⟩, ⟨fun h => by simp at h, fun i h => by simp at h, by simp⟩, ⟨fun h => by simp at h, fun i h => by simp at h, by simp⟩, wide_nil, wide_nil⟩, rfl, ⟨fun _ => rfl, fun i hi => ?_, mF.size⟩, wH⟩
          have n1 : gH ≠ w3.heap.size := by omega
          have n2 : gH ≠ w.heap.size := by omega
          refine (World.cell?_of_block ?_).trans (mF.cell i hi)
          simp only [Va.set_far n1, Va.set_far n2]
        · repeat (first | with_reducible exact hC9 | refine Dr.cur_set (B := w.heap.size) ?_ (by omega) hg hbl | refine Dr.cur_alloc ?_ _)
        · repeat (first | with_reducible exact hO0 | refine Dr.only_set ?_ (by omega) | refine Dr.only_alloc ?_ _)
      have b5 : (kd == 5) = false := by simp [k5]
      · go_wp2
        refine bodyPost_ret (v := .agg #[.int .i64 kd, .int .i64 se, .int .i64 xi, .int .i64 0, .int .i64 0, .slice none 0 0, .slice none 0 0, .slice none 0 0, .bool false, .slice none 0 0]) (by simp [results, Try.results75, go_sem, r0, r1, r2, r3, r4, r5, r6, r7, r8, r9]) rfl ⟨⟨kd, se, xi, ⟨0, 0, [], [], [], 0, none, 0, 0, 0, none, 0, 0, 0, none, 0, 0, 0⟩, false, [], none, 0, 0, 0⟩, ?_, ?_, ?_, ?_⟩
        · simp [Ga.Msg.vals]
        · exact ⟨⟨⟨fun h => by simp at h, fun i h => by simp at h, by simp⟩, ⟨fun h => by simp at h, fun i h => by simp at h, by simp⟩, ⟨fun h => by simp at h, fun i h => by simp at h, by simp⟩, wide_nil, wide_nil⟩, rfl, ⟨fun h => by simp at h, fun i h => by simp at h, by simp⟩, wide_nil⟩
        · repeat (first | with_reducible exact hC | refine Dr.cur_set (B := w.heap.size) ?_ (by omega) hg hbl | refine Dr.cur_alloc ?_ _)
        · repeat (first | with_reducible exact hO0 | refine Dr.only_set ?_ (by omega) | refine Dr.only_alloc ?_ _)

end Go.Proofs.Ytcbhpmgjmpbpmaa.Vb
namespace Go.Proofs.Ytcbhpmgjmpbpmaa.Vc
set_option maxRecDepth 8000
set_option linter.unusedSimpArgs false
set_option linter.unusedVariables false
open Go Go.RowKit
open Num Pl Rw Mk Un Put App Ea

theorem hasI_only {w w' : World} {B g : Nat} {v : Value} {l : List Int} (h : HasI w B v l) (ho : Only g w w') (hg : g < B) : HasI w' B v l := by
  refine ⟨⟨h.1.1, ?_⟩, h.2⟩
  rcases h.1.2 with h0 | ⟨g1, cap, cur, e, hb, hh, rest⟩
  · exact .inl h0
  · exact .inr ⟨g1, cap, cur, e, hb, (ho.block g1 (blk_lt hh) (by simp; omega)).trans hh, rest⟩
theorem cur_below {w w' : World} {g : Nat} {a : Option Addr} {b off cap : Nat} {l : List Int} (h : Dr.Cur w g a b off cap l) (hb : Below w.heap.size w w') : Dr.Cur w' g a b off cap l :=
  Dr.cur_keep (B := w.heap.size) h (fun k hk => hb.block k hk) (Dr.cur_lt h) (Dr.rd_lt h.rd)
theorem cur_grown {w w' : World} {g B : Nat} {a : Option Addr} {b off cap : Nat} {l L : List Int} {v : Value} (h : Dr.Cur w g a b off cap l) (own : HasI w B v L) (hg : w.grownBy w' v.ownBlock) (h1 : g < B) (h2 : l.length = 0 ∨ b < B) (h3 : B ≤ w.heap.size) : Dr.Cur w' g a b off cap l :=
  Dr.cur_keep (B := B) h (fun k hk => hg.block k (by omega) (fun e => by have := (own.1.lt k e.symm).1; omega)) h1 h2
theorem hasI_set3 {w : World} {B gv cv : Nat} {L : List Int} {y : Int} (h : HasI w B (.slice (some ⟨gv, 0, none⟩) L.length cv) L) (h3 : 3 < L.length) : HasI (w.setCell ⟨gv, 3, none⟩ (.int .u8 y)) B (.slice (some ⟨gv, 0, none⟩) L.length cv) (L.set 3 y) := by
  refine ⟨⟨by simp, ?_⟩, h.2⟩
  rcases h.1.2 with h0 | ⟨g1, cap, cur, e, hb, hh, hn, hm, hz, ht⟩
  · exact absurd h0.1 (by simp)
  · injection e with e1 e2 e3
    injection e1 with e1
    injection e1 with e1
    subst e1 e3
    refine .inr ⟨gv, cv, cur.setIfInBounds 3 (.int .u8 y), by simp, hb, blk_same hh, by simpa using hn, hm, by simpa using hz, ?_⟩
    rw [Array.toList_setIfInBounds, List.take_set, List.length_set, ht, ← List.map_set]
/-- What DrawCut hands back. -/
def CutD (w : World) (e : Ending) (w' : World) : Prop :=
  ∃ (h p : List Int) (ah : Option Addr) (bh oh ch : Nat) (ap : Option Addr) (bp op cp : Nat), e = .returned (.tuple #[.slice ah h.length ch, .slice ap p.length cp]) ∧ Rd w' ah bh oh h ∧ Rd w' ap bp op p ∧ h.length ≤ ch ∧ h.length ≤ 301 ∧ p.length ≤ 700 ∧ Below w.heap.size w w'

set_option maxHeartbeats 16000000 in
theorem draw_any (a : Option Addr) (b off cap : Nat) (c : List Int) (w : World) (h : Rd w a b off c) : Calls Try.prog 18 #[.slice a c.length cap] w (CutD w) := by
  have hbl := Dr.rd_lt h
  have hn := Dr.new_any a b off cap c w h
  clear h
  obtain ⟨g, hgw⟩ : ∃ g, g = w.heap.size := ⟨_, rfl⟩
  have HG : Hid (g = w.heap.size) := hgw
  rw [← hgw] at hn hbl
  clear hgw
  have t1 : True := trivial
  go_enter Try.func18, Try.ntmps18
  go_wp2_with (first
    | (go_at_call 63; refine hn.mono ?_; rintro e w1 ⟨rfl, hC1, hb1⟩; rw [HG.out] at hb1; have own := own_empty w1; have lg := Dr.cur_lt hC1; have hC2 := Dr.cur_alloc hC1 (.cells #[] 5); have BW := Rw.next hb1 (below_alloc1 w1 (.cells #[] 5)))
    | (go_at_call 74; clear t1; refine (Dr.below_any _ _ _ _ _ _ 4 _ hC2 (by omega) (by omega)).mono ?_; rintro e w3 ⟨n, rfl, n0, n1, hC3, hO⟩; replace own := hasI_only own hO lg; replace BW := hO.below BW BW.size (by have := HG.out; omega); have s3 := hO.size; simp at s3; clear hO hC2 hC1))
  obtain ⟨B, hB⟩ : ∃ B, B = w1.heap.size := ⟨_, rfl⟩
  have HB : Hid (B = w1.heap.size) := hB
  have wB : w.heap.size ≤ B := by have := hb1.size; omega
  rw [← hB] at own lg s3
  have hbB : c.length = 0 ∨ b < B := by omega
  obtain ⟨n3, rfl⟩ : ∃ n3 : Nat, n = (n3 : Int) := ⟨n.toNat, by omega⟩
  have own2 : HasI w3 B (.slice (some ⟨w1.heap.size, 0, none⟩) 0 0) [] := by rw [← HB.out]; exact own
  have OWN : Hid (HasI w3 B (.slice (some ⟨w1.heap.size, 0, none⟩) 0 0) []) := own2
  have HC3 : Hid (Dr.Cur w3 g a b off cap c ∧ Below w.heap.size w w3 ∧ B ≤ w3.heap.size ∧ n3 ≤ 3) := ⟨hC3, BW, by omega, by omega⟩
  clear own own2 hC3 BW s3 hn n0 n1 hB
  go_loopw [5, 6] (fun v i wr => ∃ (n : Nat) (L : List Int), n ≤ 3 ∧ i = .int .i64 n ∧ HasI wr B v L ∧ Byt L ∧ L.length + 211 * n ≤ 633 ∧ Dr.Cur wr g a b off cap c ∧ Below w.heap.size w wr ∧ B ≤ wr.heap.size) (fun _ i _ => (intOf i).toNat)
  case atStart => exact ⟨n3, [], HC3.out.2.2.2, rfl, OWN.out, Ja.byt_nil, by have := HC3.out.2.2.2; simp; omega, HC3.out.1, HC3.out.2.1, HC3.out.2.2.1⟩
  case round =>
    obtain ⟨n, L, hn3, rfl, own, hy, hl, hC, BW, sB⟩ := hrel
    by_cases hz : n = 0
    · subst hz
      obtain ⟨gv, cv, rfl, hgv, wv, hroom⟩ := Gq.hasI_room own (by omega) hy
      clear wv
      go_upto_if 35 with (go_at_call 74; refine (Dr.below_any _ _ _ _ _ _ ((L.length : Int) + 1) _ hC (by omega) (by omega)).mono ?_; rintro e w4 ⟨x, rfl, x0, x1, hC4, hO⟩; replace own := hasI_only own hO lg; replace BW := hO.below BW BW.size (by have := HG.out; omega); have s4 := hO.size; clear hO hC)
      go_cut [9] from 36 (fun s9 wx => ∃ t : Nat, s9 = .int .i64 t ∧ t ≤ L.length ∧ t ≤ 200 ∧ wx = w4)
      case first =>
        by_cases hx : 200 < x
        · go_wp2
          go_meet
          case rel => exact ⟨200, rfl, by omega, by omega, rfl⟩
        · go_wp2
          go_meet
          case rel => exact ⟨x.toNat, by rw [Int.toNat_of_nonneg x0], by omega, by omega, rfl⟩
      case rest =>
        obtain ⟨t, rfl, ht1, ht2, hwc⟩ := hcut
        subst hwc
        clear x0 x1
        go_upto_region 12 with (go_at_call 74; refine (Dr.below_any _ _ _ _ _ _ 9 _ hC4 (by omega) (by omega)).mono ?_; rintro e w5 ⟨x5, rfl, x50, x51, hC5, hO⟩; replace own := hasI_only own hO lg; replace BW := hO.below BW BW.size (by have := HG.out; omega); have s5 := hO.size; clear hO hC4)
        go_cut [44] from 38 (fun s44 wx => ∃ q : Bool, s44 = .bool q ∧ (q = true → x5 = 0 ∧ 3 < L.length) ∧ wx = w5)
        case first =>
          by_cases hx5 : x5 = 0
          · subst hx5
            by_cases h3 : 3 < L.length
            · have z3 : (3 : Int) < (L.length : Int) := by omega
              go_wp2
              go_meet
              case rel => exact ⟨true, by simp, fun _ => ⟨(by first | rfl | trivial), h3⟩, rfl⟩
            · have z3 : ¬ (3 : Int) < (L.length : Int) := by omega
              go_wp2
              go_meet
              case rel => exact ⟨false, by simp, fun h => by simp at h, rfl⟩
          · have b5 : (x5 == 0) = false := by simp [hx5]
            go_wp2
            go_meet
            case rel => exact ⟨false, by simp, fun h => by simp at h, rfl⟩
        case rest =>
          obtain ⟨q, rfl, hq, hwc⟩ := hcut
          subst hwc
          go_upto_if 44 with fail
          go_cut [5] from 45 (fun s5 wx => s5 = .slice (some ⟨gv, 0, none⟩) L.length cv ∧ ∃ L2 : List Int, L2.length = L.length ∧ HasI wx B (.slice (some ⟨gv, 0, none⟩) L.length cv) L2 ∧ Byt L2 ∧ Dr.Cur wx g a b off cap c ∧ Below w.heap.size w wx ∧ B ≤ wx.heap.size)
          case first =>
            cases q
            · go_wp2
              go_meet
              case rel => exact ⟨rfl, L, rfl, own, hy, hC5, BW, by omega⟩
            · have h3 := (hq rfl).2
              clear hq
              have z3 : (3 : Int) < (L.length : Int) := by omega
              go_wp2_with (go_at_call 76; refine (Dr.byte_any _ _ _ _ _ _ _ hC5).mono ?_; rintro e w6 ⟨y, rfl, y0, y1, hC6, hO⟩; replace own := hasI_only own hO lg; replace BW := hO.below BW BW.size (by have := HG.out; omega); have s6 := hO.size; clear hO hC5; have wt6 := Ja.hasI_wt own (by omega) hy; have c3 := wt6.cell 3 h3; have f3 := wt6.free 3 h3)
              go_meet
              case rel => exact ⟨rfl, L.set 3 y, by simp, hasI_set3 own h3, fun n hn => by rcases List.mem_or_eq_of_mem_set hn with h | h; exact hy n h; omega, Dr.cur_set (B := B) hC6 (by omega) lg hbB, by have := HG.out; exact Pm.bset BW (by omega), by simp; omega⟩
          case rest =>
            obtain ⟨rfl, L2, hL2, own2, hy2, hC6, BW2, sB2⟩ := hcut
            clear own hC5 BW hq s5 s4 sB hy
            go_upto_if 51 with fail
            go_cut [5] from 50 (fun s5 wx => ∃ (L3 : List Int) (g3 c3 : Nat), s5 = .slice (some ⟨g3, 0, none⟩) L3.length c3 ∧ L.length ≤ L3.length ∧ L3.length ≤ 640 ∧ L3.length ≤ c3 ∧ Wt wx (some ⟨g3, 0, none⟩) g3 L3 ∧ Byt L3 ∧ Dr.Cur wx g a b off cap c ∧ Below w.heap.size w wx ∧ B ≤ g3)
            case first =>
              by_cases hx5 : x5 = 1
              · have HX : Hid (x5 = 1) := hx5
                have b5 : (x5 == 1) = true := by simp [hx5]
                clear hx5
                have t7 : True := trivial
                go_wp2_with (first
                  | (go_at_call 74; clear t7; refine (Dr.below_any _ _ _ _ _ _ 3 _ hC6 (by omega) (by omega)).mono ?_; rintro e w7 ⟨y7, rfl, y70, y71, hC7, hO⟩; replace own2 := hasI_only own2 hO lg; replace BW2 := hO.below BW2 BW2.size (by have := HG.out; omega); have s7 := hO.size; clear hO hC6)
                  | (go_at_call 76; refine (Dr.byte_any _ _ _ _ _ _ _ hC7).mono ?_; rintro e w8 ⟨y8, rfl, y80, y81, hC8, hO⟩; replace own2 := hasI_only own2 hO lg; replace BW2 := hO.below BW2 BW2.size (by have := HG.out; omega); have s8 := hO.size; have b8 := below_alloc1 w8 (.cells #[.int .u8 1, .int .u8 2, .int .u8 y7, .int .u8 y8, .int .u8 7] 5); have own9 := Hp.own_made w8 [1, 2, y7, y8, 7] 5 #[.int .u8 1, .int .u8 2, .int .u8 y7, .int .u8 y8, .int .u8 7] rfl rfl (by decide); have by5 : Byt [1, 2, y7, y8, 7] := (fun n hn => by simp at hn; omega); have rd5 := (Ja.hasI_wt own9 (by simp) by5).rd; clear hO hC7)
                  | (at_builtin; refine wpList_app rfl (.tmp 52) (.tmp 59) rfl B _ L2 [1, 2, y7, y8, 7] rfl (hasI_below own2 b8) (some ⟨w8.heap.size, 0, none⟩) w8.heap.size 0 5 rfl rd5 (by simp; omega) (by have := b8.size; omega) ?_; intro v9 w9 own10 gr9; have hC9 := cur_grown (cur_below hC8 b8) (hasI_below own2 b8) gr9 lg hbB (by have := b8.size; omega); replace BW2 := App.below_own (hasI_below own2 b8) (Rw.next BW2 b8) wB gr9; obtain ⟨g9, c9, rfl, hg9, wt9, hr9⟩ := Gq.hasI_room own10 (by simp; omega) (byt_app hy2 by5)))
                go_meet
                case rel => exact ⟨L2 ++ [1, 2, y7, y8, 7], g9, c9, by simp [hL2], by simp; omega, by simp; omega, hr9, wt9, byt_app hy2 by5, hC9, BW2, hg9⟩
              · have b5 : (x5 == 1) = false := by simp [hx5]
                go_wp2
                go_meet
                case rel => exact ⟨L2, gv, cv, by rw [hL2], by omega, by omega, by omega, Ja.hasI_wt own2 (by omega) hy2, hy2, hC6, BW2, hgv⟩
            case rest =>
              obtain ⟨L3, g3, c3, rfl, hl3, hl3b, hlc, wt3, hy3, hC7, BW3, hg3⟩ := hcut
              clear own2 hC6 BW2
              by_cases hx2 : x5 = 2
              · have b5 : (x5 == 2) = true := by simp [hx2]
                clear hx2
                have t9 : True := trivial
                go_wp2_with (go_at_call 74; clear t9; refine (Dr.below_any _ _ _ _ _ _ 2 _ hC7 (by omega) (by omega)).mono ?_; rintro e w9 ⟨x9, rfl, x90, x91, hC9, hO⟩; obtain ⟨k, rfl⟩ : ∃ k : Nat, x9 = (k : Int) := ⟨x9.toNat, by omega⟩; have hmk := run_make_row' (P := Try.prog) 22 5 (.int .u8 0) 1 Try.underlying22 info5 rfl .i64 .i64 (300 + k) (by omega) (by omega); have ek : ((300 + k : Nat) : Int) = 300 + (k : Int) := (by omega); rw [ek] at hmk; replace wt3 := wt_only hO wt3 (.inr (by omega)); replace BW3 := hO.below BW3 BW3.size (by have := HG.out; omega); clear hO hC7)
                have rz := World.rowIs_made w9 (.int .u8 0) (300 + k) 5
                have mz : Rw.Mine (w9.alloc (.cells (madeCells #[.int .u8 0] (300 + k)) 5)) w9.heap.size (List.replicate (300 + k) 0) := by
                  refine ⟨?_, by simp; omega, fun n hn => by have := List.eq_of_mem_replicate hn; omega⟩
                  rw [List.length_replicate]
                  exact rz.congr fun i hi => by simp [List.getD, hi]
                have bz := below_alloc1 w9 (.cells (madeCells #[.int .u8 0] (300 + k)) 5)
                refine bodyPost_ret (v := .tuple #[.slice (some ⟨w9.heap.size, 0, none⟩) (300 + k) (300 + k), .slice (some ⟨g3, 0, none⟩) L3.length c3]) (by simp [results, Try.results18, go_sem]) rfl ?_
                exact ⟨List.replicate (300 + k) 0, L3, some ⟨w9.heap.size, 0, none⟩, w9.heap.size, 0, 300 + k, some ⟨g3, 0, none⟩, g3, 0, c3, by simp, mz.rd, wt3.rd.below bz, by simp, by simp; omega, by omega, Rw.next BW3 bz⟩
              · have b5 : (x5 == 2) = false := by simp [hx2]
                have z1 : (t : Int) ≤ (c3 : Int) := by omega
                have z2 : (t : Int) ≤ (L3.length : Int) := by omega
                have z3 : (L3.length : Int) ≤ (c3 : Int) := by omega
                have r1 := Pr.rd_take wt3.rd t
                have r2 := Pr.rd_drop wt3.rd t
                simp only [Nat.zero_add] at r2
                go_wp2
                by_cases hc : t = c3
                · subst hc
                  go_region
                  go_wp2
                  refine bodyPost_ret (v := .tuple #[.slice (some ⟨g3, 0, none⟩) t t, .slice (some ⟨g3, 0, none⟩) 0 0]) (by simp [results, Try.results18, go_sem]) rfl ?_
                  have e1 : L3.length = t := by omega
                  have bd : Below wc.heap.size wc wc.drew := (Below.refl _ _).drew
                  exact ⟨L3.take t, [], some ⟨g3, 0, none⟩, g3, 0, t, some ⟨g3, 0, none⟩, g3, 0, 0, by simp [e1], r1.below bd, ⟨fun h => by simp at h, fun i h => by simp at h, by simp, Ja.byt_nil⟩, by simp; omega, by simp; omega, by simp, Rw.next BW3 bd⟩
                · have zc : ¬ (t : Int) = (c3 : Int) := by omega
                  go_region
                  go_wp2
                  refine bodyPost_ret (v := .tuple #[.slice (some ⟨g3, 0, none⟩) t c3, .slice (some ⟨g3, t, none⟩) (L3.length - t) (c3 - t)]) (by simp [results, Try.results18, go_sem]) rfl ?_
                  have bd : Below wc.heap.size wc wc.drew := (Below.refl _ _).drew
                  have e1 : (L3.take t).length = t := by simp; omega
                  exact ⟨L3.take t, L3.drop t, some ⟨g3, 0, none⟩, g3, 0, c3, some ⟨g3, t, none⟩, g3, t, c3 - t, by rw [e1]; simp, r1.below bd, r2.below bd, by omega, by omega, by simp; omega, Rw.next BW3 bd⟩
    · have hnz : (0 : Int) < (n : Int) := by omega
      go_wp2_with (first
        | (go_at_call 75; refine (Vb.msg_any _ _ _ _ _ _ _ hC).mono ?_; rintro e w4 ⟨m, rfl, okm, hC4, hO⟩; replace own := hasI_only own hO lg; replace BW := hO.below BW BW.size (by have := HG.out; omega); have s4 := hO.size; clear hO hC)
        | (go_at_call 17; refine (Ja.bytesSp m _ okm).mono ?_; rintro e w5 ⟨sa, sg, sc, rfl, swt, slo, snil, scap, hb⟩; have hlen := Ja.writtenL_len m.said; have hbyt := Ja.writtenL_byt m.said; replace own := hasI_below own hb; replace BW := Rw.next BW hb; have hC5 := cur_below hC4 hb; have s5 := hb.size; clear hb hC4 slo snil scap; generalize Ja.writtenL m.said = M at *; have HM : Hid (M.length ≤ 211 ∧ Byt M) := ⟨hlen, hbyt⟩; clear hlen hbyt)
        | (at_builtin; refine wpList_app rfl (.tmp 26) (.tmp 27) rfl B _ L M rfl own sa sg 0 sc rfl swt.rd (by have := HM.out.1; omega) (by omega) ?_; intro v6 w6 own6 gr6; have hC6 := cur_grown hC5 own gr6 lg hbB (by omega); replace BW := App.below_own own BW wB gr6; have s6 := gr6.size))
      go_roundw
      case rel => exact ⟨n - 1, L ++ M, by omega, by go_num, own6, byt_app hy HM.out.2, by have := HM.out.1; simp; omega, hC6, BW, by omega⟩
      case measure => simp [intOf]; omega

end Go.Proofs.Ytcbhpmgjmpbpmaa.Vc
namespace Go.Proofs.Ytcbhpmgjmpbpmaa.Bk
open Go.RowKit
set_option maxRecDepth 8000
open Num Rw Mk Un Put Word Hex

theorem acc_put (l : List Int) (N z : Nat) (h : N < pw z) : ∀ k, k ≤ z → Get.acc (l ++ digs N z z) l.length k = ((N / pw (z - k) : Nat) : Int)
  | 0, _ => by
    have : N / pw z = 0 := Nat.div_eq_of_lt h
    simp [Get.acc, this]
  | k + 1, hk => by
    have ih := acc_put l N z h k (by omega)
    have hd : (l ++ digs N z z).getD (l.length + k) 0 = dig N z k := by
      have := digs_at N z z k (by omega)
      simp only [List.getD] at this ⊢
      rw [List.getElem?_append_right (by omega), Nat.add_sub_cancel_left, this]
    have e1 : z - k = z - (k + 1) + 1 := by omega
    have e2 : z - 1 - k = z - (k + 1) := by omega
    have hs := div_step N (z - (k + 1))
    rw [Get.acc, ih, hd, dig, e1, e2, ← hs]
    omega

theorem acc_back (l : List Int) (N z : Nat) (h : N < pw z) : Get.acc (l ++ digs N z z) l.length z = (N : Int) := by
  have := acc_put l N z h z (Nat.le_refl _)
  simpa [pw] using this

/-- The text of the digits. -/
def txt (l : List Int) : ByteArray := ⟨(hexU l l.length).toArray⟩
theorem txt_size (l : List Int) : (txt l).size = 2 * l.length := by
  show (hexU l l.length).toArray.size = _
  simp [hexU_len]

theorem hexU_at (l : List Int) (i : Nat) : ∀ n, i < n → (hexU l n).getD (2 * i) 0 = dg ((l.getD i 0).toNat / 16) ∧ (hexU l n).getD (2 * i + 1) 0 = dg ((l.getD i 0).toNat % 16)
  | 0, h => by omega
  | n + 1, h => by
    have hl := hexU_len l n
    by_cases e : i = n
    · subst e
      simp only [hexU, List.getD]
      rw [List.getElem?_append_right (by omega), List.getElem?_append_right (by omega)]
      have e1 : 2 * i - (hexU l i).length = 0 := by omega
      have e2 : 2 * i + 1 - (hexU l i).length = 1 := by omega
      rw [e1, e2]
      simp
    · have ih := hexU_at l i n (by omega)
      simp only [List.getD] at ih ⊢
      simp only [hexU]
      rw [List.getElem?_append_left (by omega), List.getElem?_append_left (by omega)]
      exact ih

theorem ch_txt (l : List Int) (i : Nat) (h : i < l.length) : ch (txt l) (2 * i) = ((dg ((l.getD i 0).toNat / 16)).toNat : Int) ∧ ch (txt l) (2 * i + 1) = ((dg ((l.getD i 0).toNat % 16)).toNat : Int) := by
  have := hexU_at l i l.length h
  unfold ch txt
  simp only
  rw [this.1, this.2]
  exact ⟨rfl, rfl⟩

theorem txt_digit (l : List Int) (hy : Byt l) (i : Nat) (h : i < l.length) : isH (ch (txt l) (2 * i)) = true ∧ isH (ch (txt l) (2 * i + 1)) = true ∧ un (txt l) i = l.getD i 0 := by
  have hb := hy.at i
  obtain ⟨c1, c2⟩ := ch_txt l i h
  have d1 := dg_val (j := (l.getD i 0).toNat / 16) (by omega) c1.symm
  have d2 := dg_val (j := (l.getD i 0).toNat % 16) (by omega) c2.symm
  refine ⟨d1.1, d2.1, ?_⟩
  unfold un
  rw [d1.2, d2.2]
  omega

theorem txt_ok (l : List Int) (hy : Byt l) (h6 : l.length ≤ 60000) : okB (txt l) = true := by
  have hs := txt_size l
  refine ok_good (by omega) (by omega) fun k hk => ?_
  have hd := txt_digit l hy (k / 2) (by omega)
  by_cases e : k % 2 = 0
  · have : k = 2 * (k / 2) := by omega
    rw [this]; exact hd.1
  · have : k = 2 * (k / 2) + 1 := by omega
    rw [this]; exact hd.2.1

theorem txt_back (l : List Int) (hy : Byt l) (h6 : l.length ≤ 60000) : unl (txt l) = l := by
  have hs := txt_size l
  have e : (txt l).size / 2 = l.length := by omega
  unfold unl
  rw [txt_ok l hy h6, if_pos rfl, e]
  refine ext_getD (bytes_len _ _) fun i hi => ?_
  rw [bytes_len] at hi
  rw [bytes_at _ _ _ hi]
  exact (txt_digit l hy i hi).2.2

theorem toNat_back {l : List Int} (hy : Byt l) : (l.map (fun x => UInt8.ofNat x.toNat)).map (fun b => Value.int .u8 (b.toNat : Int)) = l.map (Value.int .u8) := by
  rw [List.map_map]
  refine List.map_congr_left fun x hx => ?_
  have := hy x hx
  simp
  omega

theorem conv_any {w : World} {a : Option Addr} {b off : Nat} {l : List Int} (cap : Nat) (h : Rd w a b off l) :
    (convert 22 9 (.slice a l.length cap)).run Try.prog w = .ok (.string ⟨(l.map (fun x => UInt8.ofNat x.toNat)).toArray⟩) w := by
  rcases a with _ | ad
  · have hl : l = [] := by
      rcases Nat.eq_zero_or_pos l.length with h0 | h0
      · exact List.eq_nil_of_length_eq_zero h0
      · exact absurd (h.head h0) (by simp)
    subst hl
    rw [run_convert_bytes_string w 22 9 5 none _ cap Try.underlying22 Try.underlying5 Try.underlying9]
    simp [Conv.bytesToString]
    rfl
  · have hb := run_convert_bytes_back (P := Try.prog) w 22 9 5 ad cap (l.map (fun x => UInt8.ofNat x.toNat)) Try.underlying22 Try.underlying5 Try.underlying9 (fun j hj => by
      have hj' : j < l.length := by simpa using hj
      have e := h.head (by omega)
      injection e with e
      subst e
      have hc := h.cell j hj'
      have hby := h.byt.at j
      have e2 : (((l.map (fun x => UInt8.ofNat x.toNat))[j]'hj).toNat : Int) = l.getD j 0 := by
        simp [List.getD, hj'] at hby ⊢
        omega
      rw [e2]
      by_cases ej : j = 0
      · subst ej; simpa [Addr.add] using hc
      · simpa [Addr.add, ej] using hc)
    rw [List.length_map] at hb
    exact hb


theorem put_facts {l : List Int} {n size : Int} (h : putOk l.length n size = true) :
    ∃ N z : Nat, n = N ∧ size = z ∧ 1 ≤ z ∧ z ≤ 6 ∧ (putl l n size).length = l.length + z ∧ Get.acc (putl l n size) l.length z = (N : Int) := by
  have hn : numOkB n size = true := by
    cases hq : numOkB n size with
    | true => rfl
    | false => rw [ok_num hq] at h; simp at h
  obtain ⟨N, z, rfl, rfl, z1, z6, hNz⟩ := numOk_nat hn
  have hp : putl l (N : Int) (z : Int) = l ++ digs N z z := by simp [putl, h]
  refine ⟨N, z, rfl, rfl, z1, z6, ?_, ?_⟩
  · rw [hp, List.length_append, digs_len]
  · rw [hp]; exact acc_back l N z hNz
theorem put_nil {l : List Int} {n size : Int} (h : putOk l.length n size = false) : putl l n size = [] := by simp [putl, h]
theorem get_none {len : Nat} {size : Int} : ¬ Get.getOk 0 (len : Int) size := by unfold Get.getOk; omega

end Go.Proofs.Ytcbhpmgjmpbpmaa.Bk
namespace Go.Proofs.Ytcbhpmgjmpbpmaa.Gq
open Go Go.RowKit
set_option maxRecDepth 8000
set_option linter.unusedSimpArgs false
set_option linter.unusedVariables false
open Num Pl Rw Mk Un Put App Pr Gp

theorem told_app {h p : List Int} (h4 : ¬ h.length < 4) : told (h ++ p) = told h := by
  have e : ∀ i, i < 4 → (h ++ p).getD i 0 = h.getD i 0 := fun i hi => by simp [List.getD, List.getElem?_append_left (by omega : i < h.length)]
  unfold told
  simp only [Get.acc]
  rw [e (2 + 0) (by omega), e (2 + 1) (by omega)]
theorem cut_app (p : List Int) : ∀ (n : Nat) (h : List Int), h.length ≤ n →
    (cut h = none → cut (h ++ p) = none) ∧ ∀ P r, cut h = some (P, r) → cut (h ++ p) = (cut (r ++ p)).map (fun x => (P ++ x.1, x.2)) ∧ r.length ≤ 300
  | n, h, hn => by
    have idm : ∀ (o : Option (List (List Int) × List Int)), o = o.map (fun x => ([] ++ x.1, x.2)) := fun o => by cases o <;> simp
    by_cases h4 : h.length < 4
    · rw [cut_short h4]
      refine ⟨fun e => by simp at e, fun P r e => ?_⟩
      simp at e
      obtain ⟨rfl, rfl⟩ := e
      exact ⟨idm _, by omega⟩
    have h4' : ¬ (h ++ p).length < 4 := by simp; omega
    by_cases h5 : told h < 12 ∨ 300 < told h
    · rw [cut_bad h4 h5]
      exact ⟨fun _ => cut_bad h4' (by rw [told_app h4]; exact h5), fun P r e => by simp at e⟩
    by_cases h6 : h.length < told h
    · rw [cut_wait h4 h5 h6]
      refine ⟨fun e => by simp at e, fun P r e => ?_⟩
      simp at e
      obtain ⟨rfl, rfl⟩ := e
      exact ⟨idm _, by omega⟩
    have e1 : cut (h ++ p) = (cut (h.drop (told h) ++ p)).map fun x => (h.take (told h) :: x.1, x.2) := by
      rw [cut_more h4' (by rw [told_app h4]; exact h5) (by rw [told_app h4]; simp; omega), told_app h4, List.drop_append_of_le_length (by omega), List.take_append_of_le_length (by omega)]
    rw [cut_more h4 h5 h6, e1]
    match n, hn with
    | 0, hn => omega
    | n + 1, hn =>
      have ih := cut_app p n (h.drop (told h)) (by simp; omega)
      refine ⟨fun e => ?_, fun P r e => ?_⟩
      · rcases hc : cut (h.drop (told h)) with _ | x
        · rw [ih.1 hc]; rfl
        · rw [hc] at e; simp at e
      · rcases hc : cut (h.drop (told h)) with _ | x
        · rw [hc] at e; simp at e
        · rw [hc] at e
          simp at e
          obtain ⟨rfl, rfl⟩ := e
          obtain ⟨e2, e3⟩ := ih.2 x.1 x.2 hc
          rw [e2]
          refine ⟨?_, e3⟩
          cases cut (x.2 ++ p) <;> simp

theorem ans_small {l m : List Int} (h1 : l.length ≤ 300) (h2 : m.length ≤ 60000) : Answer l m = cut (l ++ m) := by
  unfold Answer; rw [if_neg (by omega)]
theorem cutIG (a a' : Option Addr) (b off c b' off' c' : Nat) (l m : List Int) (w : World) (A : Option (List (List Int) × List Int)) (hA : cut (l ++ m) = A) (h1 : l.length ≤ 300) (h2 : m.length ≤ 60000) (h : Rd w a b off l) (h' : Rd w a' b' off' m) :
    Calls Try.prog 19 #[.slice a l.length c, .slice a' m.length c'] w (ResG w A.isSome (A.getD ([], [])).1 (A.getD ([], [])).2) := by
  have := cutI a a' b off c b' off' c' l m w h h'
  rw [ans_small h1 h2, hA] at this
  exact this.mono fun _ _ x => resG x
theorem cutSG (a a' : Option Addr) (b off c b' off' c' : Nat) (l m : List Int) (w : World) (A : Option (List (List Int) × List Int)) (hA : cut (l ++ m) = A) (h1 : l.length ≤ 300) (h2 : m.length ≤ 60000) (h : Rd w a b off l) (h' : Rd w a' b' off' m) :
    Calls Try.prog 20 #[.slice a l.length c, .slice a' m.length c'] w (ResG w A.isSome (A.getD ([], [])).1 (A.getD ([], [])).2) := by
  have := cutS a a' b off c b' off' c' l m w h h'
  rw [ans_small h1 h2, hA] at this
  exact this.mono fun _ _ x => resG x
theorem rd_none (w : World) : Rd w none 0 0 [] := ⟨fun h => by simp at h, fun i h => by simp at h, by simp, fun n h => by simp at h⟩

/-- What FnCut asks, told by letters: the whole, its first piece, its second. -/
structure Facts (h p : List Int) (ok : Bool) (LW : List (List Int)) (RW : List Int) (fine : Bool) (LA : List (List Int)) (RA : List Int) (good : Bool) (LB : List (List Int)) (RB : List Int) : Prop where
  cI : ∀ g c w, Wt w (some ⟨g, 0, none⟩) g (h ++ p) → Calls Try.prog 19 #[.slice none 0 0, .slice (some ⟨g, 0, none⟩) (h ++ p).length c] w (ResG w ok LW RW)
  cS : ∀ g c w, Wt w (some ⟨g, 0, none⟩) g (h ++ p) → Calls Try.prog 20 #[.slice none 0 0, .slice (some ⟨g, 0, none⟩) (h ++ p).length c] w (ResG w ok LW RW)
  cA : ∀ a b off c w, Rd w a b off h → Calls Try.prog 19 #[.slice none 0 0, .slice a h.length c] w (ResG w fine LA RA)
  cB : ∀ a g c a' b' off' c' w, Wt w a g RA → Rd w a' b' off' p → Calls Try.prog 19 #[.slice a RA.length c, .slice a' p.length c'] w (ResG w good LB RB)
  fit : (ok = false ∧ fine = false) ∨ (ok = false ∧ fine = true ∧ good = false) ∨ (ok = true ∧ fine = true ∧ good = true ∧ LW = LA ++ LB ∧ RW = RB)
theorem facts (h p : List Int) (hl : h.length ≤ 250) (hp : p.length ≤ 700) : ∃ ok LW RW fine LA RA good LB RB, Facts h p ok LW RW fine LA RA good LB RB := by
  obtain ⟨A, hA⟩ : ∃ A, cut (h ++ p) = A := ⟨_, rfl⟩
  obtain ⟨A1, hA1⟩ : ∃ A1, cut h = A1 := ⟨_, rfl⟩
  obtain ⟨r1, hr1⟩ : ∃ r1, (A1.getD ([], [])).2 = r1 := ⟨_, rfl⟩
  obtain ⟨A2, hA2⟩ : ∃ A2, cut (r1 ++ p) = A2 := ⟨_, rfl⟩
  have hC := cut_app p h.length h (Nat.le_refl _)
  have hr : r1.length ≤ 300 := by
    rcases A1 with _ | ⟨P1, r⟩
    · subst hr1; simp
    · have := (hC.2 P1 r hA1).2
      subst hr1; exact this
  refine ⟨A.isSome, (A.getD ([], [])).1, (A.getD ([], [])).2, A1.isSome, (A1.getD ([], [])).1, r1, A2.isSome, (A2.getD ([], [])).1, (A2.getD ([], [])).2, ?_, ?_, ?_, ?_, ?_⟩
  · intro g c w hw
    exact cutIG none (some ⟨g, 0, none⟩) 0 0 0 g 0 c [] (h ++ p) w A (by simpa using hA) (by simp) (by simp; omega) (rd_none _) hw.rd
  · intro g c w hw
    exact cutSG none (some ⟨g, 0, none⟩) 0 0 0 g 0 c [] (h ++ p) w A (by simpa using hA) (by simp) (by simp; omega) (rd_none _) hw.rd
  · intro a b off c w hw
    have := cutIG none a 0 0 0 b off c [] h w A1 (by simpa using hA1) (by simp) (by omega) (rd_none _) hw
    rw [hr1] at this
    exact this
  · intro a g c a' b' off' c' w hw hw'
    exact cutIG a a' g 0 c b' off' c' r1 p w A2 hA2 hr (by omega) hw.rd hw'
  · rcases A1 with _ | ⟨P1, r⟩
    · left
      rw [hC.1 hA1] at hA
      subst hA
      exact ⟨rfl, rfl⟩
    · right
      obtain ⟨e1, _⟩ := hC.2 P1 r hA1
      have er : r = r1 := hr1
      subst er
      rw [hA, hA2] at e1
      rcases A2 with _ | ⟨P2, r2⟩
      · left; subst e1; exact ⟨rfl, rfl, rfl⟩
      · right; subst e1; exact ⟨rfl, rfl, rfl, rfl, rfl⟩

end Go.Proofs.Ytcbhpmgjmpbpmaa.Gq
