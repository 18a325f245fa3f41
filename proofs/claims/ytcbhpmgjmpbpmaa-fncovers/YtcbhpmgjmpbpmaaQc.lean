/-
  Contracts laid together (Ms, La, Mt, Lb, Bw, Mc, Lc, Na, Yc, Yf).
-/
import Derived.Test.YtcbhpmgjmpbpmaaQb
import Derived.Handy
namespace Go.Proofs.Ytcbhpmgjmpbpmaa.Ms
set_option maxRecDepth 8000
open Go Go.RowKit
open Num Pl Hr Hh Hf Hg Pa Pm Po Pq Mi
set_option linter.unusedSimpArgs false

theorem or_neq {f v m : Int} (hf : fits f m = true) (h0 : 0 ≤ v) (hv : I64 v) : (bits .or .i64 v m != m) = !decide (v.toNat ||| m.toNat = m.toNat) := by
  have hm := fits_lt hf
  rw [Bu.or_int h0 (by have := hv.2; omega) hm.1 (by omega)]
  rw [Bool.eq_iff_iff]
  simp
  omega

set_option maxHeartbeats 2000000 in
theorem ok_short (aV aM : Option Addr) (cV cM : Nat) (V M : List Int) (w : World) (h : ¬ (V.length = 8 ∧ M.length = 8)) :
    Calls Try.prog 132 #[.agg #[.slice aV V.length cV, .slice aM M.length cM]] w fun e w' => e = .returned (.bool false) ∧ Below w.heap.size w w' := by
  by_cases h1 : V.length = 8
  · have h2 : ((M.length : Int) != 8) = true := by simp; omega
    have h3 : ((V.length : Int) != 8) = false := by simp; omega
    clear h h1
    go_enter Try.func132, Try.ntmps132
    go_wp2
    go_ret
    exact ⟨rfl, below_alloc1 _ _⟩
  · have h2 : ((V.length : Int) != 8) = true := by simp; omega
    clear h
    go_enter Try.func132, Try.ntmps132
    go_wp2
    go_ret
    exact ⟨rfl, below_alloc1 _ _⟩

set_option maxHeartbeats 4000000 in
theorem ok_full (bV oV cV bM oM cM : Nat) (V M : List Int) (w : World) (hV : Rd w (some ⟨bV, oV, none⟩) bV oV V) (hM : Rd w (some ⟨bM, oM, none⟩) bM oM M) (hW : Wide V) (h1 : V.length = 8) (h2 : M.length = 8) :
    Calls Try.prog 132 #[.agg #[.slice (some ⟨bV, oV, none⟩) 8 cV, .slice (some ⟨bM, oM, none⟩) 8 cM]] w fun e w' => e = .returned (.bool (matchB V M)) ∧ Below w.heap.size w w' := by
  have HB : Hid (matchB V M = uptoP V M 8) := (by unfold matchB; rw [decide_eq_true h1, decide_eq_true h2]; rfl : matchB V M = uptoP V M 8)
  have HV : Hid (∀ k, k < 8 → w.cell? ⟨bV, oV + k, none⟩ = some (.int .i64 (V.getD k 0))) := (fun k hk => hV.cell k (by omega) : ∀ k, k < 8 → w.cell? ⟨bV, oV + k, none⟩ = some (.int .i64 (V.getD k 0)))
  have HM : Hid (∀ k, k < 8 → w.cell? ⟨bM, oM + k, none⟩ = some (.int .i64 (M.getD k 0))) := (fun k hk => hM.cell k (by omega) : ∀ k, k < 8 → w.cell? ⟨bM, oM + k, none⟩ = some (.int .i64 (M.getD k 0)))
  have HW : Hid (Wide V) := hW
  obtain ⟨W0, hW0⟩ : ∃ W0, W0 = w.alloc (.cells #[.slice (some ⟨bV, oV, none⟩) 8 cV, .slice (some ⟨bM, oM, none⟩) 8 cM] 25) := ⟨_, rfl⟩
  have B0 : Below w.heap.size w W0 := by subst hW0; exact below_alloc1 _ _
  have k0 : W0.heap[w.heap.size]? = some (.cells #[.slice (some ⟨bV, oV, none⟩) 8 cV, .slice (some ⟨bM, oM, none⟩) 8 cM] 25 (0, 0)) := by subst hW0; exact at_new rfl
  clear hV hM hW h1 h2
  go_enter Try.func132, Try.ntmps132
  go_wp2
  rw [← hW0]
  clear hW0
  go_loopw [3] (fun i wr => ∃ k : Nat, k ≤ 8 ∧ i = .int .i64 k ∧ Below w.heap.size w wr ∧ wr.heap[w.heap.size]? = some (.cells #[.slice (some ⟨bV, oV, none⟩) 8 cV, .slice (some ⟨bM, oM, none⟩) 8 cM] 25 (0, 0)) ∧ uptoP V M k = true) (fun i _ => 8 - (intOf i).toNat)
  case atStart => exact ⟨0, Nat.zero_le _, rfl, B0, k0, rfl⟩
  case round =>
    obtain ⟨k, hk, rfl, hbel, q0, hup⟩ := hrel
    have HU : Hid (uptoP V M k = true) := hup
    clear hup B0 k0
    have z0 := (Array.getElem?_eq_some_iff.1 q0).1
    by_cases hlt : k < 8
    · have hkz : (k : Int) < 8 := by omega
      have g0 : wr.cell? ⟨bV, oV + k, none⟩ = some (.int .i64 (V.getD k 0)) := (hbel.cell (World.block_lt_of_cell? _ _ (HV.out k hlt))).trans (HV.out k hlt)
      have g1 : wr.cell? ⟨bM, oM + k, none⟩ = some (.int .i64 (M.getD k 0)) := (hbel.cell (World.block_lt_of_cell? _ _ (HM.out k hlt))).trans (HM.out k hlt)
      obtain ⟨c0, c1⟩ := two q0
      have HQ : Hid (wr.heap[w.heap.size]? = some (.cells #[.slice (some ⟨bV, oV, none⟩) 8 cV, .slice (some ⟨bM, oM, none⟩) 8 cM] 25 (0, 0))) := q0
      clear q0
      have HN : Hid (pairB k (V.getD k 0) (M.getD k 0) = false → uptoP V M 8 = false) := (fun h => uptoP_no h 8 hlt : pairB k (V.getD k 0) (M.getD k 0) = false → uptoP V M 8 = false)
      have HY : Hid (pairB k (V.getD k 0) (M.getD k 0) = true → uptoP V M (k + 1) = true) := (fun h => uptoP_step HU.out h : pairB k (V.getD k 0) (M.getD k 0) = true → uptoP V M (k + 1) = true)
      have hi := HW.out k
      have HF : Hid (∀ w', Calls Try.prog 158 #[.int .i64 k, .int .i64 (M.getD k 0)] w' fun e w'' => e = .returned (.bool (fits k (M.getD k 0))) ∧ Below w'.heap.size w' w'') := (fun w' => specFits_any _ _ w' : ∀ w', Calls Try.prog 158 #[.int .i64 k, .int .i64 (M.getD k 0)] w' fun e w'' => e = .returned (.bool (fits k (M.getD k 0))) ∧ Below w'.heap.size w' w'')
      clear HV HM HU HW
      generalize V.getD k 0 = v at *
      generalize M.getD k 0 = m at *
      cases hft : fits k m with
      | false =>
        have hx : pairB k v m = false := by unfold pairB; rw [hft]; rfl
        rw [hft] at HF
        clear hi
        go_wp2
        refine wp_region_held_drew (S := (fun w' => w'.cell? ⟨w.heap.size, 0, none⟩ = some (.slice (some ⟨bV, oV, none⟩) 8 cV) ∧ w'.cell? ⟨w.heap.size, 1, none⟩ = some (.slice (some ⟨bM, oM, none⟩) 8 cM) ∧ w'.cell? ⟨bV, oV + k, none⟩ = some (.int .i64 v) ∧ w'.cell? ⟨bM, oM + k, none⟩ = some (.int .i64 m))) (by kernel_rfl) ⟨c0, c1, g0, g1⟩ (fun hHeld => ?_)
        refine take (i := 0) (d := some 18) (v := .int .i64 k) rfl (by kernel_rfl) (by kernel_rfl) (by kernel_rfl) (by kernel_rfl) (fun _ _ _ h => h) (Or.inl ⟨by rfl, by intro w hSw; go_simp⟩) hHeld ?_
        simp only [Act.put, List.setIfInBounds_toArray, List.set_cons_zero, List.set_cons_succ]
        refine take (i := 1) (d := some 19) (v := .pointer (some ⟨w.heap.size, 1, none⟩)) rfl (by kernel_rfl) (by kernel_rfl) (by kernel_rfl) (by kernel_rfl) (fun _ _ _ h => h) (Or.inl ⟨by rfl, by intro w hSw; go_simp⟩) hHeld ?_
        simp only [Act.put, List.setIfInBounds_toArray, List.set_cons_zero, List.set_cons_succ]
        refine take (i := 2) (d := some 20) (v := .slice (some ⟨bM, oM, none⟩) 8 cM) rfl (by kernel_rfl) (by kernel_rfl) (by kernel_rfl) (by kernel_rfl) (fun _ _ _ h => h) (Or.inl ⟨by rfl, by intro w hSw; obtain ⟨c0, c1, g0, g1⟩ := hSw; go_simp⟩) hHeld ?_
        simp only [Act.put, List.setIfInBounds_toArray, List.set_cons_zero, List.set_cons_succ]
        refine take (i := 3) (d := some 21) (v := .int .i64 k) rfl (by kernel_rfl) (by kernel_rfl) (by kernel_rfl) (by kernel_rfl) (fun _ _ _ h => h) (Or.inl ⟨by rfl, by intro w hSw; go_simp⟩) hHeld ?_
        simp only [Act.put, List.setIfInBounds_toArray, List.set_cons_zero, List.set_cons_succ]
        refine take (i := 4) (d := some 22) (v := .pointer (some ⟨bM, oM + k, none⟩)) rfl (by kernel_rfl) (by kernel_rfl) (by kernel_rfl) (by kernel_rfl) (fun _ _ _ h => h) (Or.inl ⟨by rfl, by intro w hSw; go_simp⟩) hHeld ?_
        simp only [Act.put, List.setIfInBounds_toArray, List.set_cons_zero, List.set_cons_succ]
        refine take (i := 5) (d := some 23) (v := .int .i64 m) rfl (by kernel_rfl) (by kernel_rfl) (by kernel_rfl) (by kernel_rfl) (fun _ _ _ h => h) (Or.inl ⟨by rfl, by intro w hSw; obtain ⟨c0, c1, g0, g1⟩ := hSw; go_simp⟩) hHeld ?_
        simp only [Act.put, List.setIfInBounds_toArray, List.set_cons_zero, List.set_cons_succ]
        refine wpAnyH_ready (rs := [6]) (by kernel_rfl) (by simp) (readyCall2 rfl (by kernel_rfl) 158 (.tmp 18) (.tmp 23) 3 3 (by kernel_rfl) 24 (by kernel_rfl) _ _ (by kernel_rfl) (by kernel_rfl) (fun _ => rfl) (HF.out _) (fun wa hb => ⟨(hb.cell (World.block_lt_of_cell? _ _ c0)).trans c0, (hb.cell (World.block_lt_of_cell? _ _ c1)).trans c1, (hb.cell (World.block_lt_of_cell? _ _ g0)).trans g0, (hb.cell (World.block_lt_of_cell? _ _ g1)).trans g1⟩) (fun wa hb hHeld => ?_) AllReadyH.nil)
        simp only [Act.put, List.setIfInBounds_toArray, List.set_cons_zero, List.set_cons_succ]
        refine take (i := 7) (d := some 25) (v := .bool true) rfl (by kernel_rfl) (by kernel_rfl) (by kernel_rfl) (by kernel_rfl) (fun _ _ _ h => h) (Or.inl ⟨by rfl, by intro w hSw; go_simp⟩) hHeld ?_
        simp only [Act.put, List.setIfInBounds_toArray, List.set_cons_zero, List.set_cons_succ]
        refine take (i := 8) (d := some 26) (v := .bool true) rfl (by kernel_rfl) (by kernel_rfl) (by kernel_rfl) (by kernel_rfl) (fun _ _ _ h => h) (Or.inl ⟨by rfl, by intro w hSw; go_simp⟩) hHeld ?_
        simp only [Act.put, List.setIfInBounds_toArray, List.set_cons_zero, List.set_cons_succ]
        refine take (i := 9) (d := some 27) (v := undef) rfl (by kernel_rfl) (by kernel_rfl) (by kernel_rfl) (by kernel_rfl) (fun _ _ _ h => h) (Or.inr ⟨by rfl, rfl⟩) hHeld ?_
        simp only [Act.put, List.setIfInBounds_toArray, List.set_cons_zero, List.set_cons_succ]
        refine take (i := 10) (d := some 28) (v := undef) rfl (by kernel_rfl) (by kernel_rfl) (by kernel_rfl) (by kernel_rfl) (fun _ _ _ h => h) (Or.inr ⟨by rfl, rfl⟩) hHeld ?_
        simp only [Act.put, List.setIfInBounds_toArray, List.set_cons_zero, List.set_cons_succ]
        refine take (i := 11) (d := some 29) (v := undef) rfl (by kernel_rfl) (by kernel_rfl) (by kernel_rfl) (by kernel_rfl) (fun _ _ _ h => h) (Or.inr ⟨by rfl, rfl⟩) hHeld ?_
        simp only [Act.put, List.setIfInBounds_toArray, List.set_cons_zero, List.set_cons_succ]
        refine take (i := 12) (d := some 30) (v := undef) rfl (by kernel_rfl) (by kernel_rfl) (by kernel_rfl) (by kernel_rfl) (fun _ _ _ h => h) (Or.inr ⟨by rfl, rfl⟩) hHeld ?_
        simp only [Act.put, List.setIfInBounds_toArray, List.set_cons_zero, List.set_cons_succ]
        refine take (i := 13) (d := some 31) (v := undef) rfl (by kernel_rfl) (by kernel_rfl) (by kernel_rfl) (by kernel_rfl) (fun _ _ _ h => h) (Or.inr ⟨by rfl, rfl⟩) hHeld ?_
        simp only [Act.put, List.setIfInBounds_toArray, List.set_cons_zero, List.set_cons_succ]
        refine take (i := 14) (d := some 32) (v := undef) rfl (by kernel_rfl) (by kernel_rfl) (by kernel_rfl) (by kernel_rfl) (fun _ _ _ h => h) (Or.inr ⟨by rfl, rfl⟩) hHeld ?_
        simp only [Act.put, List.setIfInBounds_toArray, List.set_cons_zero, List.set_cons_succ]
        refine take (i := 15) (d := some 33) (v := .bool true) rfl (by kernel_rfl) (by kernel_rfl) (by kernel_rfl) (by kernel_rfl) (fun _ _ _ h => h) (Or.inl ⟨by rfl, by intro w hSw; go_simp⟩) hHeld ?_
        simp only [Act.put, List.setIfInBounds_toArray, List.set_cons_zero, List.set_cons_succ]
        refine take (i := 16) (d := some 34) (v := .bool true) rfl (by kernel_rfl) (by kernel_rfl) (by kernel_rfl) (by kernel_rfl) (fun _ _ _ h => h) (Or.inl ⟨by rfl, by intro w hSw; go_simp⟩) hHeld ?_
        simp only [Act.put, List.setIfInBounds_toArray, List.set_cons_zero, List.set_cons_succ]
        refine take (i := 17) (d := some 35) (v := undef) rfl (by kernel_rfl) (by kernel_rfl) (by kernel_rfl) (by kernel_rfl) (fun _ _ _ h => h) (Or.inr ⟨by rfl, rfl⟩) hHeld ?_
        simp only [Act.put, List.setIfInBounds_toArray, List.set_cons_zero, List.set_cons_succ]
        refine take (i := 18) (d := some 36) (v := undef) rfl (by kernel_rfl) (by kernel_rfl) (by kernel_rfl) (by kernel_rfl) (fun _ _ _ h => h) (Or.inr ⟨by rfl, rfl⟩) hHeld ?_
        simp only [Act.put, List.setIfInBounds_toArray, List.set_cons_zero, List.set_cons_succ]
        refine take (i := 19) (d := some 37) (v := undef) rfl (by kernel_rfl) (by kernel_rfl) (by kernel_rfl) (by kernel_rfl) (fun _ _ _ h => h) (Or.inr ⟨by rfl, rfl⟩) hHeld ?_
        simp only [Act.put, List.setIfInBounds_toArray, List.set_cons_zero, List.set_cons_succ]
        refine take (i := 20) (d := some 38) (v := undef) rfl (by kernel_rfl) (by kernel_rfl) (by kernel_rfl) (by kernel_rfl) (fun _ _ _ h => h) (Or.inr ⟨by rfl, rfl⟩) hHeld ?_
        simp only [Act.put, List.setIfInBounds_toArray, List.set_cons_zero, List.set_cons_succ]
        refine take (i := 21) (d := some 39) (v := undef) rfl (by kernel_rfl) (by kernel_rfl) (by kernel_rfl) (by kernel_rfl) (fun _ _ _ h => h) (Or.inr ⟨by rfl, rfl⟩) hHeld ?_
        simp only [Act.put, List.setIfInBounds_toArray, List.set_cons_zero, List.set_cons_succ]
        refine take (i := 22) (d := some 40) (v := undef) rfl (by kernel_rfl) (by kernel_rfl) (by kernel_rfl) (by kernel_rfl) (fun _ _ _ h => h) (Or.inr ⟨by rfl, rfl⟩) hHeld ?_
        simp only [Act.put, List.setIfInBounds_toArray, List.set_cons_zero, List.set_cons_succ]
        refine take (i := 23) (d := some 41) (v := undef) rfl (by kernel_rfl) (by kernel_rfl) (by kernel_rfl) (by kernel_rfl) (fun _ _ _ h => h) (Or.inr ⟨by rfl, rfl⟩) hHeld ?_
        simp only [Act.put, List.setIfInBounds_toArray, List.set_cons_zero, List.set_cons_succ]
        refine take (i := 24) (d := some 42) (v := undef) rfl (by kernel_rfl) (by kernel_rfl) (by kernel_rfl) (by kernel_rfl) (fun _ _ _ h => h) (Or.inr ⟨by rfl, rfl⟩) hHeld ?_
        simp only [Act.put, List.setIfInBounds_toArray, List.set_cons_zero, List.set_cons_succ]
        refine take (i := 25) (d := some 43) (v := undef) rfl (by kernel_rfl) (by kernel_rfl) (by kernel_rfl) (by kernel_rfl) (fun _ _ _ h => h) (Or.inr ⟨by rfl, rfl⟩) hHeld ?_
        simp only [Act.put, List.setIfInBounds_toArray, List.set_cons_zero, List.set_cons_succ]
        refine take (i := 26) (d := some 44) (v := undef) rfl (by kernel_rfl) (by kernel_rfl) (by kernel_rfl) (by kernel_rfl) (fun _ _ _ h => h) (Or.inr ⟨by rfl, rfl⟩) hHeld ?_
        simp only [Act.put, List.setIfInBounds_toArray, List.set_cons_zero, List.set_cons_succ]
        refine take (i := 27) (d := some 45) (v := undef) rfl (by kernel_rfl) (by kernel_rfl) (by kernel_rfl) (by kernel_rfl) (fun _ _ _ h => h) (Or.inr ⟨by rfl, rfl⟩) hHeld ?_
        simp only [Act.put, List.setIfInBounds_toArray, List.set_cons_zero, List.set_cons_succ]
        refine take (i := 28) (d := some 46) (v := undef) rfl (by kernel_rfl) (by kernel_rfl) (by kernel_rfl) (by kernel_rfl) (fun _ _ _ h => h) (Or.inr ⟨by rfl, rfl⟩) hHeld ?_
        simp only [Act.put, List.setIfInBounds_toArray, List.set_cons_zero, List.set_cons_succ]
        refine take (i := 29) (d := some 47) (v := undef) rfl (by kernel_rfl) (by kernel_rfl) (by kernel_rfl) (by kernel_rfl) (fun _ _ _ h => h) (Or.inr ⟨by rfl, rfl⟩) hHeld ?_
        simp only [Act.put, List.setIfInBounds_toArray, List.set_cons_zero, List.set_cons_succ]
        refine take (i := 30) (d := some 48) (v := undef) rfl (by kernel_rfl) (by kernel_rfl) (by kernel_rfl) (by kernel_rfl) (fun _ _ _ h => h) (Or.inr ⟨by rfl, rfl⟩) hHeld ?_
        simp only [Act.put, List.setIfInBounds_toArray, List.set_cons_zero, List.set_cons_succ]
        refine take (i := 31) (d := some 49) (v := undef) rfl (by kernel_rfl) (by kernel_rfl) (by kernel_rfl) (by kernel_rfl) (fun _ _ _ h => h) (Or.inr ⟨by rfl, rfl⟩) hHeld ?_
        simp only [Act.put, List.setIfInBounds_toArray, List.set_cons_zero, List.set_cons_succ]
        refine take (i := 32) (d := some 50) (v := undef) rfl (by kernel_rfl) (by kernel_rfl) (by kernel_rfl) (by kernel_rfl) (fun _ _ _ h => h) (Or.inr ⟨by rfl, rfl⟩) hHeld ?_
        simp only [Act.put, List.setIfInBounds_toArray, List.set_cons_zero, List.set_cons_succ]
        refine take (i := 33) (d := some 51) (v := undef) rfl (by kernel_rfl) (by kernel_rfl) (by kernel_rfl) (by kernel_rfl) (fun _ _ _ h => h) (Or.inr ⟨by rfl, rfl⟩) hHeld ?_
        simp only [Act.put, List.setIfInBounds_toArray, List.set_cons_zero, List.set_cons_succ]
        refine take (i := 34) (d := some 52) (v := .bool true) rfl (by kernel_rfl) (by kernel_rfl) (by kernel_rfl) (by kernel_rfl) (fun _ _ _ h => h) (Or.inl ⟨by rfl, by intro w hSw; go_simp⟩) hHeld ?_
        simp only [Act.put, List.setIfInBounds_toArray, List.set_cons_zero, List.set_cons_succ]
        refine wpAnyH_done (by kernel_rfl) ?_ _
        go_wp2
        go_ret
        exact ⟨Num.ret_bool (by rw [HB.out, HN.out hx]), Rw.next hbel.drew hb⟩
      | true =>
        rw [hft] at HF
        by_cases hneg : v < 0
        · have hx : pairB k v m = false := by unfold pairB; rw [hft]; simp; omega
          clear hi
          go_wp2
          refine wp_region_held_drew (S := (fun w' => w'.cell? ⟨w.heap.size, 0, none⟩ = some (.slice (some ⟨bV, oV, none⟩) 8 cV) ∧ w'.cell? ⟨w.heap.size, 1, none⟩ = some (.slice (some ⟨bM, oM, none⟩) 8 cM) ∧ w'.cell? ⟨bV, oV + k, none⟩ = some (.int .i64 v) ∧ w'.cell? ⟨bM, oM + k, none⟩ = some (.int .i64 m))) (by kernel_rfl) ⟨c0, c1, g0, g1⟩ (fun hHeld => ?_)
          refine take (i := 0) (d := some 18) (v := .int .i64 k) rfl (by kernel_rfl) (by kernel_rfl) (by kernel_rfl) (by kernel_rfl) (fun _ _ _ h => h) (Or.inl ⟨by rfl, by intro w hSw; go_simp⟩) hHeld ?_
          simp only [Act.put, List.setIfInBounds_toArray, List.set_cons_zero, List.set_cons_succ]
          refine take (i := 1) (d := some 19) (v := .pointer (some ⟨w.heap.size, 1, none⟩)) rfl (by kernel_rfl) (by kernel_rfl) (by kernel_rfl) (by kernel_rfl) (fun _ _ _ h => h) (Or.inl ⟨by rfl, by intro w hSw; go_simp⟩) hHeld ?_
          simp only [Act.put, List.setIfInBounds_toArray, List.set_cons_zero, List.set_cons_succ]
          refine take (i := 2) (d := some 20) (v := .slice (some ⟨bM, oM, none⟩) 8 cM) rfl (by kernel_rfl) (by kernel_rfl) (by kernel_rfl) (by kernel_rfl) (fun _ _ _ h => h) (Or.inl ⟨by rfl, by intro w hSw; obtain ⟨c0, c1, g0, g1⟩ := hSw; go_simp⟩) hHeld ?_
          simp only [Act.put, List.setIfInBounds_toArray, List.set_cons_zero, List.set_cons_succ]
          refine take (i := 3) (d := some 21) (v := .int .i64 k) rfl (by kernel_rfl) (by kernel_rfl) (by kernel_rfl) (by kernel_rfl) (fun _ _ _ h => h) (Or.inl ⟨by rfl, by intro w hSw; go_simp⟩) hHeld ?_
          simp only [Act.put, List.setIfInBounds_toArray, List.set_cons_zero, List.set_cons_succ]
          refine take (i := 4) (d := some 22) (v := .pointer (some ⟨bM, oM + k, none⟩)) rfl (by kernel_rfl) (by kernel_rfl) (by kernel_rfl) (by kernel_rfl) (fun _ _ _ h => h) (Or.inl ⟨by rfl, by intro w hSw; go_simp⟩) hHeld ?_
          simp only [Act.put, List.setIfInBounds_toArray, List.set_cons_zero, List.set_cons_succ]
          refine take (i := 5) (d := some 23) (v := .int .i64 m) rfl (by kernel_rfl) (by kernel_rfl) (by kernel_rfl) (by kernel_rfl) (fun _ _ _ h => h) (Or.inl ⟨by rfl, by intro w hSw; obtain ⟨c0, c1, g0, g1⟩ := hSw; go_simp⟩) hHeld ?_
          simp only [Act.put, List.setIfInBounds_toArray, List.set_cons_zero, List.set_cons_succ]
          refine wpAnyH_ready (rs := [6]) (by kernel_rfl) (by simp) (readyCall2 rfl (by kernel_rfl) 158 (.tmp 18) (.tmp 23) 3 3 (by kernel_rfl) 24 (by kernel_rfl) _ _ (by kernel_rfl) (by kernel_rfl) (fun _ => rfl) (HF.out _) (fun wa hb => ⟨(hb.cell (World.block_lt_of_cell? _ _ c0)).trans c0, (hb.cell (World.block_lt_of_cell? _ _ c1)).trans c1, (hb.cell (World.block_lt_of_cell? _ _ g0)).trans g0, (hb.cell (World.block_lt_of_cell? _ _ g1)).trans g1⟩) (fun wa hb hHeld => ?_) AllReadyH.nil)
          simp only [Act.put, List.setIfInBounds_toArray, List.set_cons_zero, List.set_cons_succ]
          refine take (i := 7) (d := some 25) (v := .bool false) rfl (by kernel_rfl) (by kernel_rfl) (by kernel_rfl) (by kernel_rfl) (fun _ _ _ h => h) (Or.inl ⟨by rfl, by intro w hSw; go_simp⟩) hHeld ?_
          simp only [Act.put, List.setIfInBounds_toArray, List.set_cons_zero, List.set_cons_succ]
          refine take (i := 8) (d := some 26) (v := .bool false) rfl (by kernel_rfl) (by kernel_rfl) (by kernel_rfl) (by kernel_rfl) (fun _ _ _ h => h) (Or.inl ⟨by rfl, by intro w hSw; go_simp⟩) hHeld ?_
          simp only [Act.put, List.setIfInBounds_toArray, List.set_cons_zero, List.set_cons_succ]
          refine take (i := 9) (d := some 27) (v := .pointer (some ⟨w.heap.size, 0, none⟩)) rfl (by kernel_rfl) (by kernel_rfl) (by kernel_rfl) (by kernel_rfl) (fun _ _ _ h => h) (Or.inl ⟨by rfl, by intro w hSw; go_simp⟩) hHeld ?_
          simp only [Act.put, List.setIfInBounds_toArray, List.set_cons_zero, List.set_cons_succ]
          refine take (i := 10) (d := some 28) (v := .slice (some ⟨bV, oV, none⟩) 8 cV) rfl (by kernel_rfl) (by kernel_rfl) (by kernel_rfl) (by kernel_rfl) (fun _ _ _ h => h) (Or.inl ⟨by rfl, by intro w hSw; obtain ⟨c0, c1, g0, g1⟩ := hSw; go_simp⟩) hHeld ?_
          simp only [Act.put, List.setIfInBounds_toArray, List.set_cons_zero, List.set_cons_succ]
          refine take (i := 11) (d := some 29) (v := .int .i64 k) rfl (by kernel_rfl) (by kernel_rfl) (by kernel_rfl) (by kernel_rfl) (fun _ _ _ h => h) (Or.inl ⟨by rfl, by intro w hSw; go_simp⟩) hHeld ?_
          simp only [Act.put, List.setIfInBounds_toArray, List.set_cons_zero, List.set_cons_succ]
          refine take (i := 12) (d := some 30) (v := .pointer (some ⟨bV, oV + k, none⟩)) rfl (by kernel_rfl) (by kernel_rfl) (by kernel_rfl) (by kernel_rfl) (fun _ _ _ h => h) (Or.inl ⟨by rfl, by intro w hSw; go_simp⟩) hHeld ?_
          simp only [Act.put, List.setIfInBounds_toArray, List.set_cons_zero, List.set_cons_succ]
          refine take (i := 13) (d := some 31) (v := .int .i64 v) rfl (by kernel_rfl) (by kernel_rfl) (by kernel_rfl) (by kernel_rfl) (fun _ _ _ h => h) (Or.inl ⟨by rfl, by intro w hSw; obtain ⟨c0, c1, g0, g1⟩ := hSw; go_simp⟩) hHeld ?_
          simp only [Act.put, List.setIfInBounds_toArray, List.set_cons_zero, List.set_cons_succ]
          refine take (i := 14) (d := some 32) (v := .bool true) rfl (by kernel_rfl) (by kernel_rfl) (by kernel_rfl) (by kernel_rfl) (fun _ _ _ h => h) (Or.inl ⟨by rfl, by intro w hSw; go_simp⟩) hHeld ?_
          simp only [Act.put, List.setIfInBounds_toArray, List.set_cons_zero, List.set_cons_succ]
          refine take (i := 15) (d := some 33) (v := .bool true) rfl (by kernel_rfl) (by kernel_rfl) (by kernel_rfl) (by kernel_rfl) (fun _ _ _ h => h) (Or.inl ⟨by rfl, by intro w hSw; go_simp⟩) hHeld ?_
          simp only [Act.put, List.setIfInBounds_toArray, List.set_cons_zero, List.set_cons_succ]
          refine take (i := 16) (d := some 34) (v := .bool true) rfl (by kernel_rfl) (by kernel_rfl) (by kernel_rfl) (by kernel_rfl) (fun _ _ _ h => h) (Or.inl ⟨by rfl, by intro w hSw; go_simp⟩) hHeld ?_
          simp only [Act.put, List.setIfInBounds_toArray, List.set_cons_zero, List.set_cons_succ]
          refine take (i := 17) (d := some 35) (v := undef) rfl (by kernel_rfl) (by kernel_rfl) (by kernel_rfl) (by kernel_rfl) (fun _ _ _ h => h) (Or.inr ⟨by rfl, rfl⟩) hHeld ?_
          simp only [Act.put, List.setIfInBounds_toArray, List.set_cons_zero, List.set_cons_succ]
          refine take (i := 18) (d := some 36) (v := undef) rfl (by kernel_rfl) (by kernel_rfl) (by kernel_rfl) (by kernel_rfl) (fun _ _ _ h => h) (Or.inr ⟨by rfl, rfl⟩) hHeld ?_
          simp only [Act.put, List.setIfInBounds_toArray, List.set_cons_zero, List.set_cons_succ]
          refine take (i := 19) (d := some 37) (v := undef) rfl (by kernel_rfl) (by kernel_rfl) (by kernel_rfl) (by kernel_rfl) (fun _ _ _ h => h) (Or.inr ⟨by rfl, rfl⟩) hHeld ?_
          simp only [Act.put, List.setIfInBounds_toArray, List.set_cons_zero, List.set_cons_succ]
          refine take (i := 20) (d := some 38) (v := undef) rfl (by kernel_rfl) (by kernel_rfl) (by kernel_rfl) (by kernel_rfl) (fun _ _ _ h => h) (Or.inr ⟨by rfl, rfl⟩) hHeld ?_
          simp only [Act.put, List.setIfInBounds_toArray, List.set_cons_zero, List.set_cons_succ]
          refine take (i := 21) (d := some 39) (v := undef) rfl (by kernel_rfl) (by kernel_rfl) (by kernel_rfl) (by kernel_rfl) (fun _ _ _ h => h) (Or.inr ⟨by rfl, rfl⟩) hHeld ?_
          simp only [Act.put, List.setIfInBounds_toArray, List.set_cons_zero, List.set_cons_succ]
          refine take (i := 22) (d := some 40) (v := undef) rfl (by kernel_rfl) (by kernel_rfl) (by kernel_rfl) (by kernel_rfl) (fun _ _ _ h => h) (Or.inr ⟨by rfl, rfl⟩) hHeld ?_
          simp only [Act.put, List.setIfInBounds_toArray, List.set_cons_zero, List.set_cons_succ]
          refine take (i := 23) (d := some 41) (v := undef) rfl (by kernel_rfl) (by kernel_rfl) (by kernel_rfl) (by kernel_rfl) (fun _ _ _ h => h) (Or.inr ⟨by rfl, rfl⟩) hHeld ?_
          simp only [Act.put, List.setIfInBounds_toArray, List.set_cons_zero, List.set_cons_succ]
          refine take (i := 24) (d := some 42) (v := undef) rfl (by kernel_rfl) (by kernel_rfl) (by kernel_rfl) (by kernel_rfl) (fun _ _ _ h => h) (Or.inr ⟨by rfl, rfl⟩) hHeld ?_
          simp only [Act.put, List.setIfInBounds_toArray, List.set_cons_zero, List.set_cons_succ]
          refine take (i := 25) (d := some 43) (v := undef) rfl (by kernel_rfl) (by kernel_rfl) (by kernel_rfl) (by kernel_rfl) (fun _ _ _ h => h) (Or.inr ⟨by rfl, rfl⟩) hHeld ?_
          simp only [Act.put, List.setIfInBounds_toArray, List.set_cons_zero, List.set_cons_succ]
          refine take (i := 26) (d := some 44) (v := undef) rfl (by kernel_rfl) (by kernel_rfl) (by kernel_rfl) (by kernel_rfl) (fun _ _ _ h => h) (Or.inr ⟨by rfl, rfl⟩) hHeld ?_
          simp only [Act.put, List.setIfInBounds_toArray, List.set_cons_zero, List.set_cons_succ]
          refine take (i := 27) (d := some 45) (v := undef) rfl (by kernel_rfl) (by kernel_rfl) (by kernel_rfl) (by kernel_rfl) (fun _ _ _ h => h) (Or.inr ⟨by rfl, rfl⟩) hHeld ?_
          simp only [Act.put, List.setIfInBounds_toArray, List.set_cons_zero, List.set_cons_succ]
          refine take (i := 28) (d := some 46) (v := undef) rfl (by kernel_rfl) (by kernel_rfl) (by kernel_rfl) (by kernel_rfl) (fun _ _ _ h => h) (Or.inr ⟨by rfl, rfl⟩) hHeld ?_
          simp only [Act.put, List.setIfInBounds_toArray, List.set_cons_zero, List.set_cons_succ]
          refine take (i := 29) (d := some 47) (v := undef) rfl (by kernel_rfl) (by kernel_rfl) (by kernel_rfl) (by kernel_rfl) (fun _ _ _ h => h) (Or.inr ⟨by rfl, rfl⟩) hHeld ?_
          simp only [Act.put, List.setIfInBounds_toArray, List.set_cons_zero, List.set_cons_succ]
          refine take (i := 30) (d := some 48) (v := undef) rfl (by kernel_rfl) (by kernel_rfl) (by kernel_rfl) (by kernel_rfl) (fun _ _ _ h => h) (Or.inr ⟨by rfl, rfl⟩) hHeld ?_
          simp only [Act.put, List.setIfInBounds_toArray, List.set_cons_zero, List.set_cons_succ]
          refine take (i := 31) (d := some 49) (v := undef) rfl (by kernel_rfl) (by kernel_rfl) (by kernel_rfl) (by kernel_rfl) (fun _ _ _ h => h) (Or.inr ⟨by rfl, rfl⟩) hHeld ?_
          simp only [Act.put, List.setIfInBounds_toArray, List.set_cons_zero, List.set_cons_succ]
          refine take (i := 32) (d := some 50) (v := undef) rfl (by kernel_rfl) (by kernel_rfl) (by kernel_rfl) (by kernel_rfl) (fun _ _ _ h => h) (Or.inr ⟨by rfl, rfl⟩) hHeld ?_
          simp only [Act.put, List.setIfInBounds_toArray, List.set_cons_zero, List.set_cons_succ]
          refine take (i := 33) (d := some 51) (v := undef) rfl (by kernel_rfl) (by kernel_rfl) (by kernel_rfl) (by kernel_rfl) (fun _ _ _ h => h) (Or.inr ⟨by rfl, rfl⟩) hHeld ?_
          simp only [Act.put, List.setIfInBounds_toArray, List.set_cons_zero, List.set_cons_succ]
          refine take (i := 34) (d := some 52) (v := .bool true) rfl (by kernel_rfl) (by kernel_rfl) (by kernel_rfl) (by kernel_rfl) (fun _ _ _ h => h) (Or.inl ⟨by rfl, by intro w hSw; go_simp⟩) hHeld ?_
          simp only [Act.put, List.setIfInBounds_toArray, List.set_cons_zero, List.set_cons_succ]
          refine wpAnyH_done (by kernel_rfl) ?_ _
          go_wp2
          go_ret
          exact ⟨Num.ret_bool (by rw [HB.out, HN.out hx]), Rw.next hbel.drew hb⟩
        · have hpos : 0 ≤ v := by omega
          have hor := or_neq hft hpos hi
          cases hd : decide (v.toNat ||| m.toNat = m.toNat) with
          | false =>
            have hx : pairB k v m = false := by unfold pairB; rw [hft]; simp at hd ⊢; intro _; exact hd
            rw [hd] at hor
            clear hi hd hpos
            go_wp2
            refine wp_region_held_drew (S := (fun w' => w'.cell? ⟨w.heap.size, 0, none⟩ = some (.slice (some ⟨bV, oV, none⟩) 8 cV) ∧ w'.cell? ⟨w.heap.size, 1, none⟩ = some (.slice (some ⟨bM, oM, none⟩) 8 cM) ∧ w'.cell? ⟨bV, oV + k, none⟩ = some (.int .i64 v) ∧ w'.cell? ⟨bM, oM + k, none⟩ = some (.int .i64 m))) (by kernel_rfl) ⟨c0, c1, g0, g1⟩ (fun hHeld => ?_)
            refine take (i := 0) (d := some 18) (v := .int .i64 k) rfl (by kernel_rfl) (by kernel_rfl) (by kernel_rfl) (by kernel_rfl) (fun _ _ _ h => h) (Or.inl ⟨by rfl, by intro w hSw; go_simp⟩) hHeld ?_
            simp only [Act.put, List.setIfInBounds_toArray, List.set_cons_zero, List.set_cons_succ]
            refine take (i := 1) (d := some 19) (v := .pointer (some ⟨w.heap.size, 1, none⟩)) rfl (by kernel_rfl) (by kernel_rfl) (by kernel_rfl) (by kernel_rfl) (fun _ _ _ h => h) (Or.inl ⟨by rfl, by intro w hSw; go_simp⟩) hHeld ?_
            simp only [Act.put, List.setIfInBounds_toArray, List.set_cons_zero, List.set_cons_succ]
            refine take (i := 2) (d := some 20) (v := .slice (some ⟨bM, oM, none⟩) 8 cM) rfl (by kernel_rfl) (by kernel_rfl) (by kernel_rfl) (by kernel_rfl) (fun _ _ _ h => h) (Or.inl ⟨by rfl, by intro w hSw; obtain ⟨c0, c1, g0, g1⟩ := hSw; go_simp⟩) hHeld ?_
            simp only [Act.put, List.setIfInBounds_toArray, List.set_cons_zero, List.set_cons_succ]
            refine take (i := 3) (d := some 21) (v := .int .i64 k) rfl (by kernel_rfl) (by kernel_rfl) (by kernel_rfl) (by kernel_rfl) (fun _ _ _ h => h) (Or.inl ⟨by rfl, by intro w hSw; go_simp⟩) hHeld ?_
            simp only [Act.put, List.setIfInBounds_toArray, List.set_cons_zero, List.set_cons_succ]
            refine take (i := 4) (d := some 22) (v := .pointer (some ⟨bM, oM + k, none⟩)) rfl (by kernel_rfl) (by kernel_rfl) (by kernel_rfl) (by kernel_rfl) (fun _ _ _ h => h) (Or.inl ⟨by rfl, by intro w hSw; go_simp⟩) hHeld ?_
            simp only [Act.put, List.setIfInBounds_toArray, List.set_cons_zero, List.set_cons_succ]
            refine take (i := 5) (d := some 23) (v := .int .i64 m) rfl (by kernel_rfl) (by kernel_rfl) (by kernel_rfl) (by kernel_rfl) (fun _ _ _ h => h) (Or.inl ⟨by rfl, by intro w hSw; obtain ⟨c0, c1, g0, g1⟩ := hSw; go_simp⟩) hHeld ?_
            simp only [Act.put, List.setIfInBounds_toArray, List.set_cons_zero, List.set_cons_succ]
            refine wpAnyH_ready (rs := [6]) (by kernel_rfl) (by simp) (readyCall2 rfl (by kernel_rfl) 158 (.tmp 18) (.tmp 23) 3 3 (by kernel_rfl) 24 (by kernel_rfl) _ _ (by kernel_rfl) (by kernel_rfl) (fun _ => rfl) (HF.out _) (fun wa hb => ⟨(hb.cell (World.block_lt_of_cell? _ _ c0)).trans c0, (hb.cell (World.block_lt_of_cell? _ _ c1)).trans c1, (hb.cell (World.block_lt_of_cell? _ _ g0)).trans g0, (hb.cell (World.block_lt_of_cell? _ _ g1)).trans g1⟩) (fun wa hb hHeld => ?_) AllReadyH.nil)
            simp only [Act.put, List.setIfInBounds_toArray, List.set_cons_zero, List.set_cons_succ]
            refine take (i := 7) (d := some 25) (v := .bool false) rfl (by kernel_rfl) (by kernel_rfl) (by kernel_rfl) (by kernel_rfl) (fun _ _ _ h => h) (Or.inl ⟨by rfl, by intro w hSw; go_simp⟩) hHeld ?_
            simp only [Act.put, List.setIfInBounds_toArray, List.set_cons_zero, List.set_cons_succ]
            refine take (i := 8) (d := some 26) (v := .bool false) rfl (by kernel_rfl) (by kernel_rfl) (by kernel_rfl) (by kernel_rfl) (fun _ _ _ h => h) (Or.inl ⟨by rfl, by intro w hSw; go_simp⟩) hHeld ?_
            simp only [Act.put, List.setIfInBounds_toArray, List.set_cons_zero, List.set_cons_succ]
            refine take (i := 9) (d := some 27) (v := .pointer (some ⟨w.heap.size, 0, none⟩)) rfl (by kernel_rfl) (by kernel_rfl) (by kernel_rfl) (by kernel_rfl) (fun _ _ _ h => h) (Or.inl ⟨by rfl, by intro w hSw; go_simp⟩) hHeld ?_
            simp only [Act.put, List.setIfInBounds_toArray, List.set_cons_zero, List.set_cons_succ]
            refine take (i := 10) (d := some 28) (v := .slice (some ⟨bV, oV, none⟩) 8 cV) rfl (by kernel_rfl) (by kernel_rfl) (by kernel_rfl) (by kernel_rfl) (fun _ _ _ h => h) (Or.inl ⟨by rfl, by intro w hSw; obtain ⟨c0, c1, g0, g1⟩ := hSw; go_simp⟩) hHeld ?_
            simp only [Act.put, List.setIfInBounds_toArray, List.set_cons_zero, List.set_cons_succ]
            refine take (i := 11) (d := some 29) (v := .int .i64 k) rfl (by kernel_rfl) (by kernel_rfl) (by kernel_rfl) (by kernel_rfl) (fun _ _ _ h => h) (Or.inl ⟨by rfl, by intro w hSw; go_simp⟩) hHeld ?_
            simp only [Act.put, List.setIfInBounds_toArray, List.set_cons_zero, List.set_cons_succ]
            refine take (i := 12) (d := some 30) (v := .pointer (some ⟨bV, oV + k, none⟩)) rfl (by kernel_rfl) (by kernel_rfl) (by kernel_rfl) (by kernel_rfl) (fun _ _ _ h => h) (Or.inl ⟨by rfl, by intro w hSw; go_simp⟩) hHeld ?_
            simp only [Act.put, List.setIfInBounds_toArray, List.set_cons_zero, List.set_cons_succ]
            refine take (i := 13) (d := some 31) (v := .int .i64 v) rfl (by kernel_rfl) (by kernel_rfl) (by kernel_rfl) (by kernel_rfl) (fun _ _ _ h => h) (Or.inl ⟨by rfl, by intro w hSw; obtain ⟨c0, c1, g0, g1⟩ := hSw; go_simp⟩) hHeld ?_
            simp only [Act.put, List.setIfInBounds_toArray, List.set_cons_zero, List.set_cons_succ]
            refine take (i := 14) (d := some 32) (v := .bool false) rfl (by kernel_rfl) (by kernel_rfl) (by kernel_rfl) (by kernel_rfl) (fun _ _ _ h => h) (Or.inl ⟨by rfl, by intro w hSw; go_simp⟩) hHeld ?_
            simp only [Act.put, List.setIfInBounds_toArray, List.set_cons_zero, List.set_cons_succ]
            refine take (i := 15) (d := some 33) (v := .bool false) rfl (by kernel_rfl) (by kernel_rfl) (by kernel_rfl) (by kernel_rfl) (fun _ _ _ h => h) (Or.inl ⟨by rfl, by intro w hSw; go_simp⟩) hHeld ?_
            simp only [Act.put, List.setIfInBounds_toArray, List.set_cons_zero, List.set_cons_succ]
            refine take (i := 16) (d := some 34) (v := .bool false) rfl (by kernel_rfl) (by kernel_rfl) (by kernel_rfl) (by kernel_rfl) (fun _ _ _ h => h) (Or.inl ⟨by rfl, by intro w hSw; go_simp⟩) hHeld ?_
            simp only [Act.put, List.setIfInBounds_toArray, List.set_cons_zero, List.set_cons_succ]
            refine take (i := 17) (d := some 35) (v := .pointer (some ⟨w.heap.size, 0, none⟩)) rfl (by kernel_rfl) (by kernel_rfl) (by kernel_rfl) (by kernel_rfl) (fun _ _ _ h => h) (Or.inl ⟨by rfl, by intro w hSw; go_simp⟩) hHeld ?_
            simp only [Act.put, List.setIfInBounds_toArray, List.set_cons_zero, List.set_cons_succ]
            refine take (i := 18) (d := some 36) (v := .slice (some ⟨bV, oV, none⟩) 8 cV) rfl (by kernel_rfl) (by kernel_rfl) (by kernel_rfl) (by kernel_rfl) (fun _ _ _ h => h) (Or.inl ⟨by rfl, by intro w hSw; obtain ⟨c0, c1, g0, g1⟩ := hSw; go_simp⟩) hHeld ?_
            simp only [Act.put, List.setIfInBounds_toArray, List.set_cons_zero, List.set_cons_succ]
            refine take (i := 19) (d := some 37) (v := .int .i64 k) rfl (by kernel_rfl) (by kernel_rfl) (by kernel_rfl) (by kernel_rfl) (fun _ _ _ h => h) (Or.inl ⟨by rfl, by intro w hSw; go_simp⟩) hHeld ?_
            simp only [Act.put, List.setIfInBounds_toArray, List.set_cons_zero, List.set_cons_succ]
            refine take (i := 20) (d := some 38) (v := .pointer (some ⟨bV, oV + k, none⟩)) rfl (by kernel_rfl) (by kernel_rfl) (by kernel_rfl) (by kernel_rfl) (fun _ _ _ h => h) (Or.inl ⟨by rfl, by intro w hSw; go_simp⟩) hHeld ?_
            simp only [Act.put, List.setIfInBounds_toArray, List.set_cons_zero, List.set_cons_succ]
            refine take (i := 21) (d := some 39) (v := .int .i64 v) rfl (by kernel_rfl) (by kernel_rfl) (by kernel_rfl) (by kernel_rfl) (fun _ _ _ h => h) (Or.inl ⟨by rfl, by intro w hSw; obtain ⟨c0, c1, g0, g1⟩ := hSw; go_simp⟩) hHeld ?_
            simp only [Act.put, List.setIfInBounds_toArray, List.set_cons_zero, List.set_cons_succ]
            refine take (i := 22) (d := some 40) (v := .pointer (some ⟨w.heap.size, 1, none⟩)) rfl (by kernel_rfl) (by kernel_rfl) (by kernel_rfl) (by kernel_rfl) (fun _ _ _ h => h) (Or.inl ⟨by rfl, by intro w hSw; go_simp⟩) hHeld ?_
            simp only [Act.put, List.setIfInBounds_toArray, List.set_cons_zero, List.set_cons_succ]
            refine take (i := 23) (d := some 41) (v := .slice (some ⟨bM, oM, none⟩) 8 cM) rfl (by kernel_rfl) (by kernel_rfl) (by kernel_rfl) (by kernel_rfl) (fun _ _ _ h => h) (Or.inl ⟨by rfl, by intro w hSw; obtain ⟨c0, c1, g0, g1⟩ := hSw; go_simp⟩) hHeld ?_
            simp only [Act.put, List.setIfInBounds_toArray, List.set_cons_zero, List.set_cons_succ]
            refine take (i := 24) (d := some 42) (v := .int .i64 k) rfl (by kernel_rfl) (by kernel_rfl) (by kernel_rfl) (by kernel_rfl) (fun _ _ _ h => h) (Or.inl ⟨by rfl, by intro w hSw; go_simp⟩) hHeld ?_
            simp only [Act.put, List.setIfInBounds_toArray, List.set_cons_zero, List.set_cons_succ]
            refine take (i := 25) (d := some 43) (v := .pointer (some ⟨bM, oM + k, none⟩)) rfl (by kernel_rfl) (by kernel_rfl) (by kernel_rfl) (by kernel_rfl) (fun _ _ _ h => h) (Or.inl ⟨by rfl, by intro w hSw; go_simp⟩) hHeld ?_
            simp only [Act.put, List.setIfInBounds_toArray, List.set_cons_zero, List.set_cons_succ]
            refine take (i := 26) (d := some 44) (v := .int .i64 m) rfl (by kernel_rfl) (by kernel_rfl) (by kernel_rfl) (by kernel_rfl) (fun _ _ _ h => h) (Or.inl ⟨by rfl, by intro w hSw; obtain ⟨c0, c1, g0, g1⟩ := hSw; go_simp⟩) hHeld ?_
            simp only [Act.put, List.setIfInBounds_toArray, List.set_cons_zero, List.set_cons_succ]
            refine take (i := 27) (d := some 45) (v := .int .i64 (bits .or .i64 v m)) rfl (by kernel_rfl) (by kernel_rfl) (by kernel_rfl) (by kernel_rfl) (fun _ _ _ h => h) (Or.inl ⟨by rfl, by intro w hSw; go_simp⟩) hHeld ?_
            simp only [Act.put, List.setIfInBounds_toArray, List.set_cons_zero, List.set_cons_succ]
            refine take (i := 28) (d := some 46) (v := .pointer (some ⟨w.heap.size, 1, none⟩)) rfl (by kernel_rfl) (by kernel_rfl) (by kernel_rfl) (by kernel_rfl) (fun _ _ _ h => h) (Or.inl ⟨by rfl, by intro w hSw; go_simp⟩) hHeld ?_
            simp only [Act.put, List.setIfInBounds_toArray, List.set_cons_zero, List.set_cons_succ]
            refine take (i := 29) (d := some 47) (v := .slice (some ⟨bM, oM, none⟩) 8 cM) rfl (by kernel_rfl) (by kernel_rfl) (by kernel_rfl) (by kernel_rfl) (fun _ _ _ h => h) (Or.inl ⟨by rfl, by intro w hSw; obtain ⟨c0, c1, g0, g1⟩ := hSw; go_simp⟩) hHeld ?_
            simp only [Act.put, List.setIfInBounds_toArray, List.set_cons_zero, List.set_cons_succ]
            refine take (i := 30) (d := some 48) (v := .int .i64 k) rfl (by kernel_rfl) (by kernel_rfl) (by kernel_rfl) (by kernel_rfl) (fun _ _ _ h => h) (Or.inl ⟨by rfl, by intro w hSw; go_simp⟩) hHeld ?_
            simp only [Act.put, List.setIfInBounds_toArray, List.set_cons_zero, List.set_cons_succ]
            refine take (i := 31) (d := some 49) (v := .pointer (some ⟨bM, oM + k, none⟩)) rfl (by kernel_rfl) (by kernel_rfl) (by kernel_rfl) (by kernel_rfl) (fun _ _ _ h => h) (Or.inl ⟨by rfl, by intro w hSw; go_simp⟩) hHeld ?_
            simp only [Act.put, List.setIfInBounds_toArray, List.set_cons_zero, List.set_cons_succ]
            refine take (i := 32) (d := some 50) (v := .int .i64 m) rfl (by kernel_rfl) (by kernel_rfl) (by kernel_rfl) (by kernel_rfl) (fun _ _ _ h => h) (Or.inl ⟨by rfl, by intro w hSw; obtain ⟨c0, c1, g0, g1⟩ := hSw; go_simp⟩) hHeld ?_
            simp only [Act.put, List.setIfInBounds_toArray, List.set_cons_zero, List.set_cons_succ]
            refine take (i := 33) (d := some 51) (v := .bool true) rfl (by kernel_rfl) (by kernel_rfl) (by kernel_rfl) (by kernel_rfl) (fun _ _ _ h => h) (Or.inl ⟨by rfl, by intro w hSw; go_simp⟩) hHeld ?_
            simp only [Act.put, List.setIfInBounds_toArray, List.set_cons_zero, List.set_cons_succ]
            refine take (i := 34) (d := some 52) (v := .bool true) rfl (by kernel_rfl) (by kernel_rfl) (by kernel_rfl) (by kernel_rfl) (fun _ _ _ h => h) (Or.inl ⟨by rfl, by intro w hSw; go_simp⟩) hHeld ?_
            simp only [Act.put, List.setIfInBounds_toArray, List.set_cons_zero, List.set_cons_succ]
            refine wpAnyH_done (by kernel_rfl) ?_ _
            go_wp2
            go_ret
            exact ⟨Num.ret_bool (by rw [HB.out, HN.out hx]), Rw.next hbel.drew hb⟩
          | true =>
            have hx : pairB k v m = true := by unfold pairB; rw [hft]; simp at hd ⊢; exact ⟨hpos, hd⟩
            rw [hd] at hor
            clear hi hd hpos
            go_wp2
            refine wp_region_held_drew (S := (fun w' => w'.cell? ⟨w.heap.size, 0, none⟩ = some (.slice (some ⟨bV, oV, none⟩) 8 cV) ∧ w'.cell? ⟨w.heap.size, 1, none⟩ = some (.slice (some ⟨bM, oM, none⟩) 8 cM) ∧ w'.cell? ⟨bV, oV + k, none⟩ = some (.int .i64 v) ∧ w'.cell? ⟨bM, oM + k, none⟩ = some (.int .i64 m))) (by kernel_rfl) ⟨c0, c1, g0, g1⟩ (fun hHeld => ?_)
            refine take (i := 0) (d := some 18) (v := .int .i64 k) rfl (by kernel_rfl) (by kernel_rfl) (by kernel_rfl) (by kernel_rfl) (fun _ _ _ h => h) (Or.inl ⟨by rfl, by intro w hSw; go_simp⟩) hHeld ?_
            simp only [Act.put, List.setIfInBounds_toArray, List.set_cons_zero, List.set_cons_succ]
            refine take (i := 1) (d := some 19) (v := .pointer (some ⟨w.heap.size, 1, none⟩)) rfl (by kernel_rfl) (by kernel_rfl) (by kernel_rfl) (by kernel_rfl) (fun _ _ _ h => h) (Or.inl ⟨by rfl, by intro w hSw; go_simp⟩) hHeld ?_
            simp only [Act.put, List.setIfInBounds_toArray, List.set_cons_zero, List.set_cons_succ]
            refine take (i := 2) (d := some 20) (v := .slice (some ⟨bM, oM, none⟩) 8 cM) rfl (by kernel_rfl) (by kernel_rfl) (by kernel_rfl) (by kernel_rfl) (fun _ _ _ h => h) (Or.inl ⟨by rfl, by intro w hSw; obtain ⟨c0, c1, g0, g1⟩ := hSw; go_simp⟩) hHeld ?_
            simp only [Act.put, List.setIfInBounds_toArray, List.set_cons_zero, List.set_cons_succ]
            refine take (i := 3) (d := some 21) (v := .int .i64 k) rfl (by kernel_rfl) (by kernel_rfl) (by kernel_rfl) (by kernel_rfl) (fun _ _ _ h => h) (Or.inl ⟨by rfl, by intro w hSw; go_simp⟩) hHeld ?_
            simp only [Act.put, List.setIfInBounds_toArray, List.set_cons_zero, List.set_cons_succ]
            refine take (i := 4) (d := some 22) (v := .pointer (some ⟨bM, oM + k, none⟩)) rfl (by kernel_rfl) (by kernel_rfl) (by kernel_rfl) (by kernel_rfl) (fun _ _ _ h => h) (Or.inl ⟨by rfl, by intro w hSw; go_simp⟩) hHeld ?_
            simp only [Act.put, List.setIfInBounds_toArray, List.set_cons_zero, List.set_cons_succ]
            refine take (i := 5) (d := some 23) (v := .int .i64 m) rfl (by kernel_rfl) (by kernel_rfl) (by kernel_rfl) (by kernel_rfl) (fun _ _ _ h => h) (Or.inl ⟨by rfl, by intro w hSw; obtain ⟨c0, c1, g0, g1⟩ := hSw; go_simp⟩) hHeld ?_
            simp only [Act.put, List.setIfInBounds_toArray, List.set_cons_zero, List.set_cons_succ]
            refine wpAnyH_ready (rs := [6]) (by kernel_rfl) (by simp) (readyCall2 rfl (by kernel_rfl) 158 (.tmp 18) (.tmp 23) 3 3 (by kernel_rfl) 24 (by kernel_rfl) _ _ (by kernel_rfl) (by kernel_rfl) (fun _ => rfl) (HF.out _) (fun wa hb => ⟨(hb.cell (World.block_lt_of_cell? _ _ c0)).trans c0, (hb.cell (World.block_lt_of_cell? _ _ c1)).trans c1, (hb.cell (World.block_lt_of_cell? _ _ g0)).trans g0, (hb.cell (World.block_lt_of_cell? _ _ g1)).trans g1⟩) (fun wa hb hHeld => ?_) AllReadyH.nil)
            simp only [Act.put, List.setIfInBounds_toArray, List.set_cons_zero, List.set_cons_succ]
            refine take (i := 7) (d := some 25) (v := .bool false) rfl (by kernel_rfl) (by kernel_rfl) (by kernel_rfl) (by kernel_rfl) (fun _ _ _ h => h) (Or.inl ⟨by rfl, by intro w hSw; go_simp⟩) hHeld ?_
            simp only [Act.put, List.setIfInBounds_toArray, List.set_cons_zero, List.set_cons_succ]
            refine take (i := 8) (d := some 26) (v := .bool false) rfl (by kernel_rfl) (by kernel_rfl) (by kernel_rfl) (by kernel_rfl) (fun _ _ _ h => h) (Or.inl ⟨by rfl, by intro w hSw; go_simp⟩) hHeld ?_
            simp only [Act.put, List.setIfInBounds_toArray, List.set_cons_zero, List.set_cons_succ]
            refine take (i := 9) (d := some 27) (v := .pointer (some ⟨w.heap.size, 0, none⟩)) rfl (by kernel_rfl) (by kernel_rfl) (by kernel_rfl) (by kernel_rfl) (fun _ _ _ h => h) (Or.inl ⟨by rfl, by intro w hSw; go_simp⟩) hHeld ?_
            simp only [Act.put, List.setIfInBounds_toArray, List.set_cons_zero, List.set_cons_succ]
            refine take (i := 10) (d := some 28) (v := .slice (some ⟨bV, oV, none⟩) 8 cV) rfl (by kernel_rfl) (by kernel_rfl) (by kernel_rfl) (by kernel_rfl) (fun _ _ _ h => h) (Or.inl ⟨by rfl, by intro w hSw; obtain ⟨c0, c1, g0, g1⟩ := hSw; go_simp⟩) hHeld ?_
            simp only [Act.put, List.setIfInBounds_toArray, List.set_cons_zero, List.set_cons_succ]
            refine take (i := 11) (d := some 29) (v := .int .i64 k) rfl (by kernel_rfl) (by kernel_rfl) (by kernel_rfl) (by kernel_rfl) (fun _ _ _ h => h) (Or.inl ⟨by rfl, by intro w hSw; go_simp⟩) hHeld ?_
            simp only [Act.put, List.setIfInBounds_toArray, List.set_cons_zero, List.set_cons_succ]
            refine take (i := 12) (d := some 30) (v := .pointer (some ⟨bV, oV + k, none⟩)) rfl (by kernel_rfl) (by kernel_rfl) (by kernel_rfl) (by kernel_rfl) (fun _ _ _ h => h) (Or.inl ⟨by rfl, by intro w hSw; go_simp⟩) hHeld ?_
            simp only [Act.put, List.setIfInBounds_toArray, List.set_cons_zero, List.set_cons_succ]
            refine take (i := 13) (d := some 31) (v := .int .i64 v) rfl (by kernel_rfl) (by kernel_rfl) (by kernel_rfl) (by kernel_rfl) (fun _ _ _ h => h) (Or.inl ⟨by rfl, by intro w hSw; obtain ⟨c0, c1, g0, g1⟩ := hSw; go_simp⟩) hHeld ?_
            simp only [Act.put, List.setIfInBounds_toArray, List.set_cons_zero, List.set_cons_succ]
            refine take (i := 14) (d := some 32) (v := .bool false) rfl (by kernel_rfl) (by kernel_rfl) (by kernel_rfl) (by kernel_rfl) (fun _ _ _ h => h) (Or.inl ⟨by rfl, by intro w hSw; go_simp⟩) hHeld ?_
            simp only [Act.put, List.setIfInBounds_toArray, List.set_cons_zero, List.set_cons_succ]
            refine take (i := 15) (d := some 33) (v := .bool false) rfl (by kernel_rfl) (by kernel_rfl) (by kernel_rfl) (by kernel_rfl) (fun _ _ _ h => h) (Or.inl ⟨by rfl, by intro w hSw; go_simp⟩) hHeld ?_
            simp only [Act.put, List.setIfInBounds_toArray, List.set_cons_zero, List.set_cons_succ]
            refine take (i := 16) (d := some 34) (v := .bool false) rfl (by kernel_rfl) (by kernel_rfl) (by kernel_rfl) (by kernel_rfl) (fun _ _ _ h => h) (Or.inl ⟨by rfl, by intro w hSw; go_simp⟩) hHeld ?_
            simp only [Act.put, List.setIfInBounds_toArray, List.set_cons_zero, List.set_cons_succ]
            refine take (i := 17) (d := some 35) (v := .pointer (some ⟨w.heap.size, 0, none⟩)) rfl (by kernel_rfl) (by kernel_rfl) (by kernel_rfl) (by kernel_rfl) (fun _ _ _ h => h) (Or.inl ⟨by rfl, by intro w hSw; go_simp⟩) hHeld ?_
            simp only [Act.put, List.setIfInBounds_toArray, List.set_cons_zero, List.set_cons_succ]
            refine take (i := 18) (d := some 36) (v := .slice (some ⟨bV, oV, none⟩) 8 cV) rfl (by kernel_rfl) (by kernel_rfl) (by kernel_rfl) (by kernel_rfl) (fun _ _ _ h => h) (Or.inl ⟨by rfl, by intro w hSw; obtain ⟨c0, c1, g0, g1⟩ := hSw; go_simp⟩) hHeld ?_
            simp only [Act.put, List.setIfInBounds_toArray, List.set_cons_zero, List.set_cons_succ]
            refine take (i := 19) (d := some 37) (v := .int .i64 k) rfl (by kernel_rfl) (by kernel_rfl) (by kernel_rfl) (by kernel_rfl) (fun _ _ _ h => h) (Or.inl ⟨by rfl, by intro w hSw; go_simp⟩) hHeld ?_
            simp only [Act.put, List.setIfInBounds_toArray, List.set_cons_zero, List.set_cons_succ]
            refine take (i := 20) (d := some 38) (v := .pointer (some ⟨bV, oV + k, none⟩)) rfl (by kernel_rfl) (by kernel_rfl) (by kernel_rfl) (by kernel_rfl) (fun _ _ _ h => h) (Or.inl ⟨by rfl, by intro w hSw; go_simp⟩) hHeld ?_
            simp only [Act.put, List.setIfInBounds_toArray, List.set_cons_zero, List.set_cons_succ]
            refine take (i := 21) (d := some 39) (v := .int .i64 v) rfl (by kernel_rfl) (by kernel_rfl) (by kernel_rfl) (by kernel_rfl) (fun _ _ _ h => h) (Or.inl ⟨by rfl, by intro w hSw; obtain ⟨c0, c1, g0, g1⟩ := hSw; go_simp⟩) hHeld ?_
            simp only [Act.put, List.setIfInBounds_toArray, List.set_cons_zero, List.set_cons_succ]
            refine take (i := 22) (d := some 40) (v := .pointer (some ⟨w.heap.size, 1, none⟩)) rfl (by kernel_rfl) (by kernel_rfl) (by kernel_rfl) (by kernel_rfl) (fun _ _ _ h => h) (Or.inl ⟨by rfl, by intro w hSw; go_simp⟩) hHeld ?_
            simp only [Act.put, List.setIfInBounds_toArray, List.set_cons_zero, List.set_cons_succ]
            refine take (i := 23) (d := some 41) (v := .slice (some ⟨bM, oM, none⟩) 8 cM) rfl (by kernel_rfl) (by kernel_rfl) (by kernel_rfl) (by kernel_rfl) (fun _ _ _ h => h) (Or.inl ⟨by rfl, by intro w hSw; obtain ⟨c0, c1, g0, g1⟩ := hSw; go_simp⟩) hHeld ?_
            simp only [Act.put, List.setIfInBounds_toArray, List.set_cons_zero, List.set_cons_succ]
            refine take (i := 24) (d := some 42) (v := .int .i64 k) rfl (by kernel_rfl) (by kernel_rfl) (by kernel_rfl) (by kernel_rfl) (fun _ _ _ h => h) (Or.inl ⟨by rfl, by intro w hSw; go_simp⟩) hHeld ?_
            simp only [Act.put, List.setIfInBounds_toArray, List.set_cons_zero, List.set_cons_succ]
            refine take (i := 25) (d := some 43) (v := .pointer (some ⟨bM, oM + k, none⟩)) rfl (by kernel_rfl) (by kernel_rfl) (by kernel_rfl) (by kernel_rfl) (fun _ _ _ h => h) (Or.inl ⟨by rfl, by intro w hSw; go_simp⟩) hHeld ?_
            simp only [Act.put, List.setIfInBounds_toArray, List.set_cons_zero, List.set_cons_succ]
            refine take (i := 26) (d := some 44) (v := .int .i64 m) rfl (by kernel_rfl) (by kernel_rfl) (by kernel_rfl) (by kernel_rfl) (fun _ _ _ h => h) (Or.inl ⟨by rfl, by intro w hSw; obtain ⟨c0, c1, g0, g1⟩ := hSw; go_simp⟩) hHeld ?_
            simp only [Act.put, List.setIfInBounds_toArray, List.set_cons_zero, List.set_cons_succ]
            refine take (i := 27) (d := some 45) (v := .int .i64 (bits .or .i64 v m)) rfl (by kernel_rfl) (by kernel_rfl) (by kernel_rfl) (by kernel_rfl) (fun _ _ _ h => h) (Or.inl ⟨by rfl, by intro w hSw; go_simp⟩) hHeld ?_
            simp only [Act.put, List.setIfInBounds_toArray, List.set_cons_zero, List.set_cons_succ]
            refine take (i := 28) (d := some 46) (v := .pointer (some ⟨w.heap.size, 1, none⟩)) rfl (by kernel_rfl) (by kernel_rfl) (by kernel_rfl) (by kernel_rfl) (fun _ _ _ h => h) (Or.inl ⟨by rfl, by intro w hSw; go_simp⟩) hHeld ?_
            simp only [Act.put, List.setIfInBounds_toArray, List.set_cons_zero, List.set_cons_succ]
            refine take (i := 29) (d := some 47) (v := .slice (some ⟨bM, oM, none⟩) 8 cM) rfl (by kernel_rfl) (by kernel_rfl) (by kernel_rfl) (by kernel_rfl) (fun _ _ _ h => h) (Or.inl ⟨by rfl, by intro w hSw; obtain ⟨c0, c1, g0, g1⟩ := hSw; go_simp⟩) hHeld ?_
            simp only [Act.put, List.setIfInBounds_toArray, List.set_cons_zero, List.set_cons_succ]
            refine take (i := 30) (d := some 48) (v := .int .i64 k) rfl (by kernel_rfl) (by kernel_rfl) (by kernel_rfl) (by kernel_rfl) (fun _ _ _ h => h) (Or.inl ⟨by rfl, by intro w hSw; go_simp⟩) hHeld ?_
            simp only [Act.put, List.setIfInBounds_toArray, List.set_cons_zero, List.set_cons_succ]
            refine take (i := 31) (d := some 49) (v := .pointer (some ⟨bM, oM + k, none⟩)) rfl (by kernel_rfl) (by kernel_rfl) (by kernel_rfl) (by kernel_rfl) (fun _ _ _ h => h) (Or.inl ⟨by rfl, by intro w hSw; go_simp⟩) hHeld ?_
            simp only [Act.put, List.setIfInBounds_toArray, List.set_cons_zero, List.set_cons_succ]
            refine take (i := 32) (d := some 50) (v := .int .i64 m) rfl (by kernel_rfl) (by kernel_rfl) (by kernel_rfl) (by kernel_rfl) (fun _ _ _ h => h) (Or.inl ⟨by rfl, by intro w hSw; obtain ⟨c0, c1, g0, g1⟩ := hSw; go_simp⟩) hHeld ?_
            simp only [Act.put, List.setIfInBounds_toArray, List.set_cons_zero, List.set_cons_succ]
            refine take (i := 33) (d := some 51) (v := .bool false) rfl (by kernel_rfl) (by kernel_rfl) (by kernel_rfl) (by kernel_rfl) (fun _ _ _ h => h) (Or.inl ⟨by rfl, by intro w hSw; go_simp⟩) hHeld ?_
            simp only [Act.put, List.setIfInBounds_toArray, List.set_cons_zero, List.set_cons_succ]
            refine take (i := 34) (d := some 52) (v := .bool false) rfl (by kernel_rfl) (by kernel_rfl) (by kernel_rfl) (by kernel_rfl) (fun _ _ _ h => h) (Or.inl ⟨by rfl, by intro w hSw; go_simp⟩) hHeld ?_
            simp only [Act.put, List.setIfInBounds_toArray, List.set_cons_zero, List.set_cons_succ]
            refine wpAnyH_done (by kernel_rfl) ?_ _
            go_wp2
            go_roundw
            case rel => exact ⟨k + 1, by omega, by go_num, Rw.next hbel.drew hb, (hb.block _ z0).trans HQ.out, HY.out hx⟩
            case measure => simp [intOf]; omega
    · have he : k = 8 := by omega
      subst he
      clear HV HM HW
      go_wp2
      go_ret
      exact ⟨Num.ret_bool (by rw [HB.out, HU.out]), hbel⟩

theorem okS_any (aV aM : Option Addr) (bV oV cV bM oM cM : Nat) (V M : List Int) (w : World) (hV : Rd w aV bV oV V) (hM : Rd w aM bM oM M) (hW : Wide V) :
    Calls Try.prog 132 #[.agg #[.slice aV V.length cV, .slice aM M.length cM]] w fun e w' => e = .returned (.bool (matchB V M)) ∧ Below w.heap.size w w' := by
  by_cases h : V.length = 8 ∧ M.length = 8
  · obtain ⟨h1, h2⟩ := h
    obtain rfl := rd_some hV h1
    obtain rfl := rd_some hM h2
    rw [h1, h2]
    exact ok_full bV oV cV bM oM cM V M w hV hM hW h1 h2
  · have ho := lens_no h
    rw [ho]
    exact ok_short aV aM cV cM V M w h

end Go.Proofs.Ytcbhpmgjmpbpmaa.Ms
namespace Go.Proofs.Ytcbhpmgjmpbpmaa.La
set_option maxRecDepth 8000
open Go Go.RowKit
open Num Pl Hr Hh Pm Po Rg

end Go.Proofs.Ytcbhpmgjmpbpmaa.La
namespace Go.Proofs.Ytcbhpmgjmpbpmaa.Mt
set_option maxRecDepth 8000
open Go Go.RowKit
open Num Pl Hr Hh Hf Hg Pa Pm Po

end Go.Proofs.Ytcbhpmgjmpbpmaa.Mt
namespace Go.Proofs.Ytcbhpmgjmpbpmaa.Lb
set_option maxRecDepth 8000
open Go Go.RowKit
open Num Pl Hr Hh Pa Pm Po Pe Rg

theorem lens {V M : List Int} (h : matchB V M = true) : V.length = 8 ∧ M.length = 8 := by
  unfold matchB at h
  simp at h
  exact ⟨h.1.1, h.1.2⟩
theorem sameB_iff (x y x' y' : Nat → Int) : sameB x y x' y' = true ↔ ∀ k, k < 8 → x k = x' k ∧ y k = y' k := by
  unfold sameB
  simp [List.all_eq_true]
theorem same_lists {V M V' M' : List Int} (h : matchB V M = true) (h' : matchB V' M' = true) : sameB (nth V) (nth M) (nth V') (nth M') = (decide (V = V') && decide (M = M')) := by
  obtain ⟨a1, a2⟩ := lens h
  obtain ⟨b1, b2⟩ := lens h'
  rw [Bool.eq_iff_iff, sameB_iff]
  simp only [Bool.and_eq_true, decide_eq_true_eq]
  constructor
  · intro q
    exact ⟨Rw.ext_getD (by omega) (fun i hi => (q i (by omega)).1), Rw.ext_getD (by omega) (fun i hi => (q i (by omega)).2)⟩
  · rintro ⟨rfl, rfl⟩ k _
    exact ⟨rfl, rfl⟩
theorem same_eq (V M V' M' : List Int) : ((matchB V M && matchB V' M') && sameB (pv V M) (pm V M) (pv V' M') (pm V' M')) = (matchB V M && matchB V' M' && (decide (V = V') && decide (M = M'))) := by
  cases h : matchB V M with
  | false => simp
  | true =>
    cases h' : matchB V' M' with
    | false => simp
    | true => rw [pv_yes h, pm_yes h, pv_yes h', pm_yes h', same_lists h h']

end Go.Proofs.Ytcbhpmgjmpbpmaa.Lb
namespace Go.Proofs.Ytcbhpmgjmpbpmaa.Bw
set_option maxRecDepth 8000
open Go Go.RowKit
open Num Pl Hr Hh Hf Hg Pa Pm Po

/-- Bit i of a number, as an integer. -/
def bitI (n : Int) (i : Nat) : Int := ((n.toNat / 2 ^ i % 2 : Nat) : Int)

theorem bit_int (n : Int) (i : Nat) (h0 : 0 ≤ n) (h1 : n < 281474976710656) : bits .and .i64 (n / 2 ^ i) 1 = bitI n i := by
  obtain ⟨N, rfl⟩ : ∃ N : Nat, n = N := ⟨n.toNat, by omega⟩
  have e : (N : Int) / 2 ^ i = ((N / 2 ^ i : Nat) : Int) := by
    rw [Int.natCast_ediv, Int.natCast_pow]
    rfl
  have hle : N / 2 ^ i ≤ N := Nat.div_le_self _ _
  unfold bitI
  rw [Int.toNat_natCast, e]
  generalize N / 2 ^ i = q at hle ⊢
  rw [Bu.and_one _ (by omega) (by omega)]
  omega
/-- How many bits a field has. -/
def fbN (f : Nat) : Nat := (fb f).toNat
theorem fbN_eq (f : Nat) : fb f = (fbN f : Int) := by
  unfold fbN
  rcases fb_val f with h | h | h | h | h <;> rw [h] <;> rfl
theorem fbN_le (f : Nat) : fbN f ≤ 48 := by
  unfold fbN
  rcases fb_val f with h | h | h | h | h <;> rw [h] <;> decide
theorem fits_pow {f : Nat} {m : Int} (h : fits f m = true) : m.toNat < 2 ^ fbN f := by
  unfold fits numOkB at h
  simp only [decide_eq_true_eq] at h
  obtain ⟨h1, h2, h3, h4⟩ := h
  unfold fbN
  rcases fb_val f with e | e | e | e | e <;> rw [e] at h1 h2 h4 ⊢
  all_goals first | (exfalso; revert h1; decide) | (simp only [pw] at h4; revert h4; simp <;> omega)
theorem bit_01 (n : Int) (i : Nat) : bitI n i = 0 ∨ bitI n i = 1 := by
  unfold bitI
  have : n.toNat / 2 ^ i % 2 = 0 ∨ n.toNat / 2 ^ i % 2 = 1 := by omega
  omega
/-- The bit is set. -/
theorem bit_iff (n : Int) (i : Nat) : bitI n i = 1 ↔ n.toNat.testBit i = true := by
  unfold bitI
  have := Bt.bit_eq n.toNat i
  rw [this]
  cases n.toNat.testBit i <;> simp
theorem bit_eq_iff (n m : Int) (i : Nat) : bitI n i = bitI m i ↔ n.toNat.testBit i = m.toNat.testBit i := by
  unfold bitI
  rw [Bt.bit_eq, Bt.bit_eq]
  cases n.toNat.testBit i <;> cases m.toNat.testBit i <;> simp

set_option maxHeartbeats 1000000 in
theorem bit_any (n : Int) (i : Nat) (h0 : 0 ≤ n) (h1 : n < 281474976710656) (hi : i < 48) (w : World) :
    Calls Try.prog 143 #[.int .i64 n, .int .i64 i] w fun e w' => e = .returned (.int .i64 (bitI n i)) ∧ w' = w := by
  have HB := (bit_int n i h0 h1).symm
  have HH : Hid (bitI n i = bits .and .i64 (n / 2 ^ i) 1) := HB
  clear HB
  go_enter Try.func143, Try.ntmps143
  go_wp2
  go_ret
  exact ⟨Hf.ret_int HH.out.symm, rfl⟩

end Go.Proofs.Ytcbhpmgjmpbpmaa.Bw
namespace Go.Proofs.Ytcbhpmgjmpbpmaa.Mc
set_option maxRecDepth 8000
open Go Go.RowKit
open Num Pl Hr Hh Hf Hg Pa Pm Po Pq
set_option linter.unusedSimpArgs false
set_option linter.unusedVariables false

set_option maxHeartbeats 8000000 in
theorem coversS (b1 o1 c1 : Nat) (b2 o2 c2 : Nat) (b3 o3 c3 : Nat) (b4 o4 c4 : Nat) (V M V' M' : List Int) (w : World)
    (r1 : ∀ k, k < 8 → w.cell? ⟨b1, o1 + k, none⟩ = some (.int .i64 (V.getD k 0))) (r2 : ∀ k, k < 8 → w.cell? ⟨b2, o2 + k, none⟩ = some (.int .i64 (M.getD k 0))) (r3 : ∀ k, k < 8 → w.cell? ⟨b3, o3 + k, none⟩ = some (.int .i64 (V'.getD k 0))) (r4 : ∀ k, k < 8 → w.cell? ⟨b4, o4 + k, none⟩ = some (.int .i64 (M'.getD k 0)))
    (d1 : ∀ k, k < 8 → 0 ≤ V.getD k 0 ∧ V.getD k 0 < 281474976710656) (d2 : ∀ k, k < 8 → 0 ≤ M.getD k 0 ∧ M.getD k 0 < 281474976710656) (d3 : ∀ k, k < 8 → 0 ≤ V'.getD k 0 ∧ V'.getD k 0 < 281474976710656) (d4 : ∀ k, k < 8 → 0 ≤ M'.getD k 0 ∧ M'.getD k 0 < 281474976710656)
    (t0 : ∀ w1, Below w.heap.size w w1 → Calls Try.prog 132 #[.agg #[.slice (some ⟨b1, o1, none⟩) 8 c1, .slice (some ⟨b2, o2, none⟩) 8 c2]] w1 fun e w' => e = .returned (.bool true) ∧ Below w1.heap.size w1 w')
    (t1 : ∀ w1, Below w.heap.size w w1 → Calls Try.prog 132 #[.agg #[.slice (some ⟨b3, o3, none⟩) 8 c3, .slice (some ⟨b4, o4, none⟩) 8 c4]] w1 fun e w' => e = .returned (.bool true) ∧ Below w1.heap.size w1 w')
    (R : Bool) (hR : R = true ↔ ∀ f, f < 8 → ∀ i, i < Bw.fbN f → (Bw.bitI (M.getD f 0) i = 1 → Bw.bitI (M'.getD f 0) i = 1 ∧ Bw.bitI (V.getD f 0) i = Bw.bitI (V'.getD f 0) i)) :
    Calls Try.prog 58 #[.agg #[.slice (some ⟨b1, o1, none⟩) 8 c1, .slice (some ⟨b2, o2, none⟩) 8 c2], .agg #[.slice (some ⟨b3, o3, none⟩) 8 c3, .slice (some ⟨b4, o4, none⟩) 8 c4]] w fun e w' => e = .returned (.bool R) ∧ Below w.heap.size w w' := by
  have R1 : Hid (∀ k, k < 8 → w.cell? ⟨b1, o1 + k, none⟩ = some (.int .i64 (V.getD k 0))) := r1
  have D1 : Hid (∀ k, k < 8 → 0 ≤ V.getD k 0 ∧ V.getD k 0 < 281474976710656) := d1
  have R2 : Hid (∀ k, k < 8 → w.cell? ⟨b2, o2 + k, none⟩ = some (.int .i64 (M.getD k 0))) := r2
  have D2 : Hid (∀ k, k < 8 → 0 ≤ M.getD k 0 ∧ M.getD k 0 < 281474976710656) := d2
  have R3 : Hid (∀ k, k < 8 → w.cell? ⟨b3, o3 + k, none⟩ = some (.int .i64 (V'.getD k 0))) := r3
  have D3 : Hid (∀ k, k < 8 → 0 ≤ V'.getD k 0 ∧ V'.getD k 0 < 281474976710656) := d3
  have R4 : Hid (∀ k, k < 8 → w.cell? ⟨b4, o4 + k, none⟩ = some (.int .i64 (M'.getD k 0))) := r4
  have D4 : Hid (∀ k, k < 8 → 0 ≤ M'.getD k 0 ∧ M'.getD k 0 < 281474976710656) := d4
  have T0 : Hid (∀ w1, Below w.heap.size w w1 → Calls Try.prog 132 #[.agg #[.slice (some ⟨b1, o1, none⟩) 8 c1, .slice (some ⟨b2, o2, none⟩) 8 c2]] w1 fun e w' => e = .returned (.bool true) ∧ Below w1.heap.size w1 w') := t0
  have T1 : Hid (∀ w1, Below w.heap.size w w1 → Calls Try.prog 132 #[.agg #[.slice (some ⟨b3, o3, none⟩) 8 c3, .slice (some ⟨b4, o4, none⟩) 8 c4]] w1 fun e w' => e = .returned (.bool true) ∧ Below w1.heap.size w1 w') := t1
  have HR : Hid (R = true ↔ ∀ f, f < 8 → ∀ i, i < Bw.fbN f → (Bw.bitI (M.getD f 0) i = 1 → Bw.bitI (M'.getD f 0) i = 1 ∧ Bw.bitI (V.getD f 0) i = Bw.bitI (V'.getD f 0) i)) := hR
  clear hR t0 t1 r1 d1 r2 d2 r3 d3 r4 d4
  obtain ⟨W0, hW0⟩ : ∃ W0, W0 = (w.alloc (.cells #[.slice (some ⟨b1, o1, none⟩) 8 c1, .slice (some ⟨b2, o2, none⟩) 8 c2] 25)).alloc (.cells #[.slice (some ⟨b3, o3, none⟩) 8 c3, .slice (some ⟨b4, o4, none⟩) 8 c4] 25) := ⟨_, rfl⟩
  have B : Below w.heap.size w W0 := by subst hW0; exact Mi.below2 _ _ _
  have k0 : W0.heap[w.heap.size]? = some (.cells #[.slice (some ⟨b1, o1, none⟩) 8 c1, .slice (some ⟨b2, o2, none⟩) 8 c2] 25 (0, 0)) := by subst hW0; rw [at_old (by simp), at_new rfl]
  have k1 : W0.heap[w.heap.size + 1]? = some (.cells #[.slice (some ⟨b3, o3, none⟩) 8 c3, .slice (some ⟨b4, o4, none⟩) 8 c4] 25 (0, 0)) := by subst hW0; exact at_new (by simp)
  have tok1 : True := trivial
  go_enter Try.func58, Try.ntmps58
  go_wp2_with (first
    | (go_at_call 132; clear tok1; rw [← hW0]; refine (T0.out _ B).mono ?_; rintro e wa ⟨rfl, hb⟩; replace k0 := (hb.block _ (Array.getElem?_eq_some_iff.1 k0).1).trans k0; replace k1 := (hb.block _ (Array.getElem?_eq_some_iff.1 k1).1).trans k1; obtain ⟨p00, p01⟩ := two k0; obtain ⟨p10, p11⟩ := two k1; replace B := Rw.next B hb; clear hb; have tok2 : True := trivial)
    | (go_at_call 132; clear tok2; refine (T1.out _ B).mono ?_; rintro e wb ⟨rfl, hb⟩; clear p00 p01 p10 p11; replace k0 := (hb.block _ (Array.getElem?_eq_some_iff.1 k0).1).trans k0; replace k1 := (hb.block _ (Array.getElem?_eq_some_iff.1 k1).1).trans k1; obtain ⟨p00, p01⟩ := two k0; obtain ⟨p10, p11⟩ := two k1; replace B := Rw.next B hb; clear hb))
  clear p00 p01 p10 p11 hW0 T0 T1
  go_loopw [5] (fun i wr => ∃ k : Nat, k ≤ 8 ∧ i = .int .i64 k ∧ Below w.heap.size w wr ∧ wr.heap[w.heap.size]? = some (.cells #[.slice (some ⟨b1, o1, none⟩) 8 c1, .slice (some ⟨b2, o2, none⟩) 8 c2] 25 (0, 0)) ∧ wr.heap[w.heap.size + 1]? = some (.cells #[.slice (some ⟨b3, o3, none⟩) 8 c3, .slice (some ⟨b4, o4, none⟩) 8 c4] 25 (0, 0)) ∧ ∀ f, f < k → ∀ i, i < Bw.fbN f → (Bw.bitI (M.getD f 0) i = 1 → Bw.bitI (M'.getD f 0) i = 1 ∧ Bw.bitI (V.getD f 0) i = Bw.bitI (V'.getD f 0) i)) (fun i _ => 8 - (intOf i).toNat)
  case atStart => exact ⟨0, Nat.zero_le _, rfl, B, k0, k1, fun f hf => by omega⟩
  case round =>
    obtain ⟨k, hk, rfl, hbo, q0, q1, hgo⟩ := hrel
    have HG : Hid (∀ f, f < k → ∀ i, i < Bw.fbN f → (Bw.bitI (M.getD f 0) i = 1 → Bw.bitI (M'.getD f 0) i = 1 ∧ Bw.bitI (V.getD f 0) i = Bw.bitI (V'.getD f 0) i)) := hgo
    clear hgo B k0 k1
    by_cases hlt : k < 8
    · have hkz : (k : Int) < 8 := by omega
      have h48 := Bw.fbN_le k
      have HF : Hid (∀ w, Calls Try.prog 142 #[.int .i64 k] w fun e w' => e = .returned (.int .i64 (Bw.fbN k : Int)) ∧ Below w.heap.size w w') := (fun w => by have := specBits_any k w; rw [Bw.fbN_eq] at this; exact this : ∀ w, Calls Try.prog 142 #[.int .i64 k] w fun e w' => e = .returned (.int .i64 (Bw.fbN k : Int)) ∧ Below w.heap.size w w')
      go_wp2
      go_loopw [6] (fun i wr => ∃ j : Nat, j ≤ Bw.fbN k ∧ i = .int .i64 j ∧ Below w.heap.size w wr ∧ wr.heap[w.heap.size]? = some (.cells #[.slice (some ⟨b1, o1, none⟩) 8 c1, .slice (some ⟨b2, o2, none⟩) 8 c2] 25 (0, 0)) ∧ wr.heap[w.heap.size + 1]? = some (.cells #[.slice (some ⟨b3, o3, none⟩) 8 c3, .slice (some ⟨b4, o4, none⟩) 8 c4] 25 (0, 0)) ∧ ∀ i, i < j → (Bw.bitI (M.getD k 0) i = 1 → Bw.bitI (M'.getD k 0) i = 1 ∧ Bw.bitI (V.getD k 0) i = Bw.bitI (V'.getD k 0) i)) (fun i _ => Bw.fbN k - (intOf i).toNat)
      case atStart => exact ⟨0, Nat.zero_le _, rfl, hbo, q0, q1, fun i hi => by omega⟩
      case round =>
        obtain ⟨j, hj, rfl, hbel, q0, q1, hgi⟩ := hrel
        have HI : Hid (∀ i, i < j → (Bw.bitI (M.getD k 0) i = 1 → Bw.bitI (M'.getD k 0) i = 1 ∧ Bw.bitI (V.getD k 0) i = Bw.bitI (V'.getD k 0) i)) := hgi
        clear hgi
        by_cases hjl : j < Bw.fbN k
        · have hjz : (j : Int) < (Bw.fbN k : Int) := by omega
          have hj48 : j < 48 := by omega
          go_wp2_with (go_at_call 142; refine (HF.out _).mono ?_; rintro e ws ⟨rfl, hb⟩; replace q0 := (hb.block _ (Array.getElem?_eq_some_iff.1 q0).1).trans q0; replace q1 := (hb.block _ (Array.getElem?_eq_some_iff.1 q1).1).trans q1; replace hbel := Rw.next hbel hb; clear hb)
          have Q0 : Hid (ws.heap[w.heap.size]? = some (.cells #[.slice (some ⟨b1, o1, none⟩) 8 c1, .slice (some ⟨b2, o2, none⟩) 8 c2] 25 (0, 0))) := q0
          have Q1 : Hid (ws.heap[w.heap.size + 1]? = some (.cells #[.slice (some ⟨b3, o3, none⟩) 8 c3, .slice (some ⟨b4, o4, none⟩) 8 c4] 25 (0, 0))) := q1
          obtain ⟨p00, p01⟩ := two q0
          obtain ⟨p10, p11⟩ := two q1
          clear q0 q1
          have g1 : ws.cell? ⟨b1, o1 + k, none⟩ = some (.int .i64 (V.getD k 0)) := (hbel.cell (World.block_lt_of_cell? _ _ (R1.out k hlt))).trans (R1.out k hlt)
          have H1 : Hid (∀ w, Calls Try.prog 143 #[.int .i64 (V.getD k 0), .int .i64 j] w fun e w' => e = .returned (.int .i64 (Bw.bitI (V.getD k 0) j)) ∧ w' = w) := (fun w => Bw.bit_any _ _ (D1.out k hlt).1 (D1.out k hlt).2 hj48 w : ∀ w, Calls Try.prog 143 #[.int .i64 (V.getD k 0), .int .i64 j] w fun e w' => e = .returned (.int .i64 (Bw.bitI (V.getD k 0) j)) ∧ w' = w)
          have y1 := Bw.bit_01 (V.getD k 0) j
          have g2 : ws.cell? ⟨b2, o2 + k, none⟩ = some (.int .i64 (M.getD k 0)) := (hbel.cell (World.block_lt_of_cell? _ _ (R2.out k hlt))).trans (R2.out k hlt)
          have H2 : Hid (∀ w, Calls Try.prog 143 #[.int .i64 (M.getD k 0), .int .i64 j] w fun e w' => e = .returned (.int .i64 (Bw.bitI (M.getD k 0) j)) ∧ w' = w) := (fun w => Bw.bit_any _ _ (D2.out k hlt).1 (D2.out k hlt).2 hj48 w : ∀ w, Calls Try.prog 143 #[.int .i64 (M.getD k 0), .int .i64 j] w fun e w' => e = .returned (.int .i64 (Bw.bitI (M.getD k 0) j)) ∧ w' = w)
          have y2 := Bw.bit_01 (M.getD k 0) j
          have g3 : ws.cell? ⟨b3, o3 + k, none⟩ = some (.int .i64 (V'.getD k 0)) := (hbel.cell (World.block_lt_of_cell? _ _ (R3.out k hlt))).trans (R3.out k hlt)
          have H3 : Hid (∀ w, Calls Try.prog 143 #[.int .i64 (V'.getD k 0), .int .i64 j] w fun e w' => e = .returned (.int .i64 (Bw.bitI (V'.getD k 0) j)) ∧ w' = w) := (fun w => Bw.bit_any _ _ (D3.out k hlt).1 (D3.out k hlt).2 hj48 w : ∀ w, Calls Try.prog 143 #[.int .i64 (V'.getD k 0), .int .i64 j] w fun e w' => e = .returned (.int .i64 (Bw.bitI (V'.getD k 0) j)) ∧ w' = w)
          have y3 := Bw.bit_01 (V'.getD k 0) j
          have g4 : ws.cell? ⟨b4, o4 + k, none⟩ = some (.int .i64 (M'.getD k 0)) := (hbel.cell (World.block_lt_of_cell? _ _ (R4.out k hlt))).trans (R4.out k hlt)
          have H4 : Hid (∀ w, Calls Try.prog 143 #[.int .i64 (M'.getD k 0), .int .i64 j] w fun e w' => e = .returned (.int .i64 (Bw.bitI (M'.getD k 0) j)) ∧ w' = w) := (fun w => Bw.bit_any _ _ (D4.out k hlt).1 (D4.out k hlt).2 hj48 w : ∀ w, Calls Try.prog 143 #[.int .i64 (M'.getD k 0), .int .i64 j] w fun e w' => e = .returned (.int .i64 (Bw.bitI (M'.getD k 0) j)) ∧ w' = w)
          have y4 := Bw.bit_01 (M'.getD k 0) j
          have HN : Hid (¬ (Bw.bitI (M.getD k 0) j = 1 → Bw.bitI (M'.getD k 0) j = 1 ∧ Bw.bitI (V.getD k 0) j = Bw.bitI (V'.getD k 0) j) → R = false) := (fun h => by cases hr : R with | false => rfl | true => exact absurd (HR.out.1 hr k hlt j hjl) h : ¬ (Bw.bitI (M.getD k 0) j = 1 → Bw.bitI (M'.getD k 0) j = 1 ∧ Bw.bitI (V.getD k 0) j = Bw.bitI (V'.getD k 0) j) → R = false)
          have HY : Hid ((Bw.bitI (M.getD k 0) j = 1 → Bw.bitI (M'.getD k 0) j = 1 ∧ Bw.bitI (V.getD k 0) j = Bw.bitI (V'.getD k 0) j) → ∀ i, i < j + 1 → (Bw.bitI (M.getD k 0) i = 1 → Bw.bitI (M'.getD k 0) i = 1 ∧ Bw.bitI (V.getD k 0) i = Bw.bitI (V'.getD k 0) i)) := (fun h i hi => by by_cases e : i = j; (· subst e; exact h); (· exact HI.out i (by omega)) : (Bw.bitI (M.getD k 0) j = 1 → Bw.bitI (M'.getD k 0) j = 1 ∧ Bw.bitI (V.getD k 0) j = Bw.bitI (V'.getD k 0) j) → ∀ i, i < j + 1 → (Bw.bitI (M.getD k 0) i = 1 → Bw.bitI (M'.getD k 0) i = 1 ∧ Bw.bitI (V.getD k 0) i = Bw.bitI (V'.getD k 0) i))
          generalize e1a : Bw.bitI (V.getD k 0) j = x1 at *
          generalize e1b : V.getD k 0 = m1 at H1 g1
          generalize e2a : Bw.bitI (M.getD k 0) j = x2 at *
          generalize e2b : M.getD k 0 = m2 at H2 g2
          generalize e3a : Bw.bitI (V'.getD k 0) j = x3 at *
          generalize e3b : V'.getD k 0 = m3 at H3 g3
          generalize e4a : Bw.bitI (M'.getD k 0) j = x4 at *
          generalize e4b : M'.getD k 0 = m4 at H4 g4
          clear e1a e1b e2a e2b e3a e3b e4a e4b
          clear HI HF D1 D2 D3 D4
          have hc : x2 = 0 ∨ (x2 = 1 ∧ x4 = 0) ∨ (x2 = 1 ∧ x4 = 1 ∧ x1 = x3) ∨ (x2 = 1 ∧ x4 = 1 ∧ ¬ x1 = x3) := by omega
          rcases hc with u | ⟨u, v⟩ | ⟨u, v, t⟩ | ⟨u, v, t⟩
          · have U : Hid (x2 = 0) := u
            have f1 : (x2 == 1) = false := by rw [u]; rfl
            clear u y1 y2 y3 y4
            refine wp_region_held_drew (S := (fun w' => w'.cell? ⟨w.heap.size, 0, none⟩ = some (.slice (some ⟨b1, o1, none⟩) 8 c1) ∧ w'.cell? ⟨w.heap.size, 1, none⟩ = some (.slice (some ⟨b2, o2, none⟩) 8 c2) ∧ w'.cell? ⟨w.heap.size + 1, 0, none⟩ = some (.slice (some ⟨b3, o3, none⟩) 8 c3) ∧ w'.cell? ⟨w.heap.size + 1, 1, none⟩ = some (.slice (some ⟨b4, o4, none⟩) 8 c4) ∧ w'.cell? ⟨b1, o1 + k, none⟩ = some (.int .i64 m1) ∧ w'.cell? ⟨b2, o2 + k, none⟩ = some (.int .i64 m2) ∧ w'.cell? ⟨b3, o3 + k, none⟩ = some (.int .i64 m3) ∧ w'.cell? ⟨b4, o4 + k, none⟩ = some (.int .i64 m4))) (by kernel_rfl) ⟨p00, p01, p10, p11, g1, g2, g3, g4⟩ (fun hHeld => ?_)
            refine take (i := 0) (d := some 25) (v := .pointer (some ⟨w.heap.size, 1, none⟩)) rfl (by kernel_rfl) (by kernel_rfl) (by kernel_rfl) (by kernel_rfl) (fun _ _ _ h => h) (Or.inl ⟨by rfl, by intro w hSw; go_simp⟩) hHeld ?_
            simp only [Act.put, List.setIfInBounds_toArray, List.set_cons_zero, List.set_cons_succ]
            refine take (i := 1) (d := some 26) (v := .slice (some ⟨b2, o2, none⟩) 8 c2) rfl (by kernel_rfl) (by kernel_rfl) (by kernel_rfl) (by kernel_rfl) (fun _ _ _ h => h) (Or.inl ⟨by rfl, by intro w hSw; obtain ⟨p00, p01, p10, p11, g1, g2, g3, g4⟩ := hSw; go_simp⟩) hHeld ?_
            simp only [Act.put, List.setIfInBounds_toArray, List.set_cons_zero, List.set_cons_succ]
            refine take (i := 2) (d := some 27) (v := .int .i64 k) rfl (by kernel_rfl) (by kernel_rfl) (by kernel_rfl) (by kernel_rfl) (fun _ _ _ h => h) (Or.inl ⟨by rfl, by intro w hSw; go_simp⟩) hHeld ?_
            simp only [Act.put, List.setIfInBounds_toArray, List.set_cons_zero, List.set_cons_succ]
            refine take (i := 3) (d := some 28) (v := .pointer (some ⟨b2, o2 + k, none⟩)) rfl (by kernel_rfl) (by kernel_rfl) (by kernel_rfl) (by kernel_rfl) (fun _ _ _ h => h) (Or.inl ⟨by rfl, by intro w hSw; go_simp⟩) hHeld ?_
            simp only [Act.put, List.setIfInBounds_toArray, List.set_cons_zero, List.set_cons_succ]
            refine take (i := 4) (d := some 29) (v := .int .i64 m2) rfl (by kernel_rfl) (by kernel_rfl) (by kernel_rfl) (by kernel_rfl) (fun _ _ _ h => h) (Or.inl ⟨by rfl, by intro w hSw; obtain ⟨p00, p01, p10, p11, g1, g2, g3, g4⟩ := hSw; go_simp⟩) hHeld ?_
            simp only [Act.put, List.setIfInBounds_toArray, List.set_cons_zero, List.set_cons_succ]
            refine take (i := 5) (d := some 30) (v := .int .i64 j) rfl (by kernel_rfl) (by kernel_rfl) (by kernel_rfl) (by kernel_rfl) (fun _ _ _ h => h) (Or.inl ⟨by rfl, by intro w hSw; go_simp⟩) hHeld ?_
            simp only [Act.put, List.setIfInBounds_toArray, List.set_cons_zero, List.set_cons_succ]
            refine wpAnyH_ready (rs := [6]) (by kernel_rfl) (by simp) (Mi.readyCall2 rfl (by kernel_rfl) 143 (.tmp 29) (.tmp 30) 3 3 (by kernel_rfl) 31 (by kernel_rfl) _ _ (by kernel_rfl) (by kernel_rfl) (fun _ => rfl) (H2.out _) (fun wx hb => by rw [hb]; exact hHeld) (fun wx hb hHeld => ?_) AllReadyH.nil)
            subst hb
            simp only [Act.put, List.setIfInBounds_toArray, List.set_cons_zero, List.set_cons_succ]
            refine take (i := 7) (d := some 32) (v := .bool false) rfl (by kernel_rfl) (by kernel_rfl) (by kernel_rfl) (by kernel_rfl) (fun _ _ _ h => h) (Or.inl ⟨by rfl, by intro w hSw; go_simp⟩) hHeld ?_
            simp only [Act.put, List.setIfInBounds_toArray, List.set_cons_zero, List.set_cons_succ]
            refine take (i := 8) (d := some 33) (v := .bool false) rfl (by kernel_rfl) (by kernel_rfl) (by kernel_rfl) (by kernel_rfl) (fun _ _ _ h => h) (Or.inl ⟨by rfl, by intro w hSw; go_simp⟩) hHeld ?_
            simp only [Act.put, List.setIfInBounds_toArray, List.set_cons_zero, List.set_cons_succ]
            refine take (i := 9) (d := some 34) (v := undef) rfl (by kernel_rfl) (by kernel_rfl) (by kernel_rfl) (by kernel_rfl) (fun _ _ _ h => h) (Or.inr ⟨by rfl, rfl⟩) hHeld ?_
            simp only [Act.put, List.setIfInBounds_toArray, List.set_cons_zero, List.set_cons_succ]
            refine take (i := 10) (d := some 35) (v := undef) rfl (by kernel_rfl) (by kernel_rfl) (by kernel_rfl) (by kernel_rfl) (fun _ _ _ h => h) (Or.inr ⟨by rfl, rfl⟩) hHeld ?_
            simp only [Act.put, List.setIfInBounds_toArray, List.set_cons_zero, List.set_cons_succ]
            refine take (i := 11) (d := some 36) (v := undef) rfl (by kernel_rfl) (by kernel_rfl) (by kernel_rfl) (by kernel_rfl) (fun _ _ _ h => h) (Or.inr ⟨by rfl, rfl⟩) hHeld ?_
            simp only [Act.put, List.setIfInBounds_toArray, List.set_cons_zero, List.set_cons_succ]
            refine take (i := 12) (d := some 37) (v := undef) rfl (by kernel_rfl) (by kernel_rfl) (by kernel_rfl) (by kernel_rfl) (fun _ _ _ h => h) (Or.inr ⟨by rfl, rfl⟩) hHeld ?_
            simp only [Act.put, List.setIfInBounds_toArray, List.set_cons_zero, List.set_cons_succ]
            refine take (i := 13) (d := some 38) (v := undef) rfl (by kernel_rfl) (by kernel_rfl) (by kernel_rfl) (by kernel_rfl) (fun _ _ _ h => h) (Or.inr ⟨by rfl, rfl⟩) hHeld ?_
            simp only [Act.put, List.setIfInBounds_toArray, List.set_cons_zero, List.set_cons_succ]
            refine take (i := 14) (d := some 39) (v := undef) rfl (by kernel_rfl) (by kernel_rfl) (by kernel_rfl) (by kernel_rfl) (fun _ _ _ h => h) (Or.inr ⟨by rfl, rfl⟩) hHeld ?_
            simp only [Act.put, List.setIfInBounds_toArray, List.set_cons_zero, List.set_cons_succ]
            refine take (i := 15) (d := some 40) (v := undef) rfl (by kernel_rfl) (by kernel_rfl) (by kernel_rfl) (by kernel_rfl) (fun _ _ _ h => h) (Or.inr ⟨by rfl, rfl⟩) hHeld ?_
            simp only [Act.put, List.setIfInBounds_toArray, List.set_cons_zero, List.set_cons_succ]
            refine take (i := 16) (d := some 41) (v := undef) rfl (by kernel_rfl) (by kernel_rfl) (by kernel_rfl) (by kernel_rfl) (fun _ _ _ h => h) (Or.inr ⟨by rfl, rfl⟩) hHeld ?_
            simp only [Act.put, List.setIfInBounds_toArray, List.set_cons_zero, List.set_cons_succ]
            refine take (i := 17) (d := some 42) (v := undef) rfl (by kernel_rfl) (by kernel_rfl) (by kernel_rfl) (by kernel_rfl) (fun _ _ _ h => h) (Or.inr ⟨by rfl, rfl⟩) hHeld ?_
            simp only [Act.put, List.setIfInBounds_toArray, List.set_cons_zero, List.set_cons_succ]
            refine take (i := 18) (d := some 43) (v := undef) rfl (by kernel_rfl) (by kernel_rfl) (by kernel_rfl) (by kernel_rfl) (fun _ _ _ h => h) (Or.inr ⟨by rfl, rfl⟩) hHeld ?_
            simp only [Act.put, List.setIfInBounds_toArray, List.set_cons_zero, List.set_cons_succ]
            refine take (i := 19) (d := some 44) (v := undef) rfl (by kernel_rfl) (by kernel_rfl) (by kernel_rfl) (by kernel_rfl) (fun _ _ _ h => h) (Or.inr ⟨by rfl, rfl⟩) hHeld ?_
            simp only [Act.put, List.setIfInBounds_toArray, List.set_cons_zero, List.set_cons_succ]
            refine take (i := 20) (d := some 45) (v := undef) rfl (by kernel_rfl) (by kernel_rfl) (by kernel_rfl) (by kernel_rfl) (fun _ _ _ h => h) (Or.inr ⟨by rfl, rfl⟩) hHeld ?_
            simp only [Act.put, List.setIfInBounds_toArray, List.set_cons_zero, List.set_cons_succ]
            refine take (i := 21) (d := some 46) (v := undef) rfl (by kernel_rfl) (by kernel_rfl) (by kernel_rfl) (by kernel_rfl) (fun _ _ _ h => h) (Or.inr ⟨by rfl, rfl⟩) hHeld ?_
            simp only [Act.put, List.setIfInBounds_toArray, List.set_cons_zero, List.set_cons_succ]
            refine take (i := 22) (d := some 47) (v := undef) rfl (by kernel_rfl) (by kernel_rfl) (by kernel_rfl) (by kernel_rfl) (fun _ _ _ h => h) (Or.inr ⟨by rfl, rfl⟩) hHeld ?_
            simp only [Act.put, List.setIfInBounds_toArray, List.set_cons_zero, List.set_cons_succ]
            refine take (i := 23) (d := some 48) (v := undef) rfl (by kernel_rfl) (by kernel_rfl) (by kernel_rfl) (by kernel_rfl) (fun _ _ _ h => h) (Or.inr ⟨by rfl, rfl⟩) hHeld ?_
            simp only [Act.put, List.setIfInBounds_toArray, List.set_cons_zero, List.set_cons_succ]
            refine take (i := 25) (d := some 50) (v := undef) rfl (by kernel_rfl) (by kernel_rfl) (by kernel_rfl) (by kernel_rfl) (fun _ _ _ h => h) (Or.inr ⟨by rfl, rfl⟩) hHeld ?_
            simp only [Act.put, List.setIfInBounds_toArray, List.set_cons_zero, List.set_cons_succ]
            refine take (i := 26) (d := some 51) (v := undef) rfl (by kernel_rfl) (by kernel_rfl) (by kernel_rfl) (by kernel_rfl) (fun _ _ _ h => h) (Or.inr ⟨by rfl, rfl⟩) hHeld ?_
            simp only [Act.put, List.setIfInBounds_toArray, List.set_cons_zero, List.set_cons_succ]
            refine take (i := 27) (d := some 52) (v := undef) rfl (by kernel_rfl) (by kernel_rfl) (by kernel_rfl) (by kernel_rfl) (fun _ _ _ h => h) (Or.inr ⟨by rfl, rfl⟩) hHeld ?_
            simp only [Act.put, List.setIfInBounds_toArray, List.set_cons_zero, List.set_cons_succ]
            refine take (i := 28) (d := some 53) (v := undef) rfl (by kernel_rfl) (by kernel_rfl) (by kernel_rfl) (by kernel_rfl) (fun _ _ _ h => h) (Or.inr ⟨by rfl, rfl⟩) hHeld ?_
            simp only [Act.put, List.setIfInBounds_toArray, List.set_cons_zero, List.set_cons_succ]
            refine take (i := 29) (d := some 54) (v := undef) rfl (by kernel_rfl) (by kernel_rfl) (by kernel_rfl) (by kernel_rfl) (fun _ _ _ h => h) (Or.inr ⟨by rfl, rfl⟩) hHeld ?_
            simp only [Act.put, List.setIfInBounds_toArray, List.set_cons_zero, List.set_cons_succ]
            refine take (i := 30) (d := some 55) (v := undef) rfl (by kernel_rfl) (by kernel_rfl) (by kernel_rfl) (by kernel_rfl) (fun _ _ _ h => h) (Or.inr ⟨by rfl, rfl⟩) hHeld ?_
            simp only [Act.put, List.setIfInBounds_toArray, List.set_cons_zero, List.set_cons_succ]
            refine take (i := 24) (d := some 49) (v := undef) rfl (by kernel_rfl) (by kernel_rfl) (by kernel_rfl) (by kernel_rfl) (fun _ _ _ h => h) (Or.inr ⟨by rfl, rfl⟩) hHeld ?_
            simp only [Act.put, List.setIfInBounds_toArray, List.set_cons_zero, List.set_cons_succ]
            refine take (i := 31) (d := some 56) (v := undef) rfl (by kernel_rfl) (by kernel_rfl) (by kernel_rfl) (by kernel_rfl) (fun _ _ _ h => h) (Or.inr ⟨by rfl, rfl⟩) hHeld ?_
            simp only [Act.put, List.setIfInBounds_toArray, List.set_cons_zero, List.set_cons_succ]
            refine take (i := 32) (d := some 57) (v := undef) rfl (by kernel_rfl) (by kernel_rfl) (by kernel_rfl) (by kernel_rfl) (fun _ _ _ h => h) (Or.inr ⟨by rfl, rfl⟩) hHeld ?_
            simp only [Act.put, List.setIfInBounds_toArray, List.set_cons_zero, List.set_cons_succ]
            refine take (i := 33) (d := some 58) (v := undef) rfl (by kernel_rfl) (by kernel_rfl) (by kernel_rfl) (by kernel_rfl) (fun _ _ _ h => h) (Or.inr ⟨by rfl, rfl⟩) hHeld ?_
            simp only [Act.put, List.setIfInBounds_toArray, List.set_cons_zero, List.set_cons_succ]
            refine take (i := 34) (d := some 59) (v := .bool false) rfl (by kernel_rfl) (by kernel_rfl) (by kernel_rfl) (by kernel_rfl) (fun _ _ _ h => h) (Or.inl ⟨by rfl, by intro w hSw; go_simp⟩) hHeld ?_
            simp only [Act.put, List.setIfInBounds_toArray, List.set_cons_zero, List.set_cons_succ]
            refine wpAnyH_done (by kernel_rfl) ?_ _
            go_wp2
            go_roundw
            case rel => exact ⟨j + 1, by omega, by go_num, hbel.drew, Q0.out, Q1.out, HY.out (fun h => by have := U.out; omega)⟩
            case measure => simp [intOf]; omega
          · have U : Hid (x2 = 1) := u
            have V1 : Hid (x4 = 0) := v
            have f1 : (x2 == 1) = true := by rw [u]; rfl
            have f2 : (x4 == 0) = true := by rw [v]; rfl
            clear u v y1 y2 y3 y4
            refine wp_region_held_drew (S := (fun w' => w'.cell? ⟨w.heap.size, 0, none⟩ = some (.slice (some ⟨b1, o1, none⟩) 8 c1) ∧ w'.cell? ⟨w.heap.size, 1, none⟩ = some (.slice (some ⟨b2, o2, none⟩) 8 c2) ∧ w'.cell? ⟨w.heap.size + 1, 0, none⟩ = some (.slice (some ⟨b3, o3, none⟩) 8 c3) ∧ w'.cell? ⟨w.heap.size + 1, 1, none⟩ = some (.slice (some ⟨b4, o4, none⟩) 8 c4) ∧ w'.cell? ⟨b1, o1 + k, none⟩ = some (.int .i64 m1) ∧ w'.cell? ⟨b2, o2 + k, none⟩ = some (.int .i64 m2) ∧ w'.cell? ⟨b3, o3 + k, none⟩ = some (.int .i64 m3) ∧ w'.cell? ⟨b4, o4 + k, none⟩ = some (.int .i64 m4))) (by kernel_rfl) ⟨p00, p01, p10, p11, g1, g2, g3, g4⟩ (fun hHeld => ?_)
            refine take (i := 0) (d := some 25) (v := .pointer (some ⟨w.heap.size, 1, none⟩)) rfl (by kernel_rfl) (by kernel_rfl) (by kernel_rfl) (by kernel_rfl) (fun _ _ _ h => h) (Or.inl ⟨by rfl, by intro w hSw; go_simp⟩) hHeld ?_
            simp only [Act.put, List.setIfInBounds_toArray, List.set_cons_zero, List.set_cons_succ]
            refine take (i := 1) (d := some 26) (v := .slice (some ⟨b2, o2, none⟩) 8 c2) rfl (by kernel_rfl) (by kernel_rfl) (by kernel_rfl) (by kernel_rfl) (fun _ _ _ h => h) (Or.inl ⟨by rfl, by intro w hSw; obtain ⟨p00, p01, p10, p11, g1, g2, g3, g4⟩ := hSw; go_simp⟩) hHeld ?_
            simp only [Act.put, List.setIfInBounds_toArray, List.set_cons_zero, List.set_cons_succ]
            refine take (i := 2) (d := some 27) (v := .int .i64 k) rfl (by kernel_rfl) (by kernel_rfl) (by kernel_rfl) (by kernel_rfl) (fun _ _ _ h => h) (Or.inl ⟨by rfl, by intro w hSw; go_simp⟩) hHeld ?_
            simp only [Act.put, List.setIfInBounds_toArray, List.set_cons_zero, List.set_cons_succ]
            refine take (i := 3) (d := some 28) (v := .pointer (some ⟨b2, o2 + k, none⟩)) rfl (by kernel_rfl) (by kernel_rfl) (by kernel_rfl) (by kernel_rfl) (fun _ _ _ h => h) (Or.inl ⟨by rfl, by intro w hSw; go_simp⟩) hHeld ?_
            simp only [Act.put, List.setIfInBounds_toArray, List.set_cons_zero, List.set_cons_succ]
            refine take (i := 4) (d := some 29) (v := .int .i64 m2) rfl (by kernel_rfl) (by kernel_rfl) (by kernel_rfl) (by kernel_rfl) (fun _ _ _ h => h) (Or.inl ⟨by rfl, by intro w hSw; obtain ⟨p00, p01, p10, p11, g1, g2, g3, g4⟩ := hSw; go_simp⟩) hHeld ?_
            simp only [Act.put, List.setIfInBounds_toArray, List.set_cons_zero, List.set_cons_succ]
            refine take (i := 5) (d := some 30) (v := .int .i64 j) rfl (by kernel_rfl) (by kernel_rfl) (by kernel_rfl) (by kernel_rfl) (fun _ _ _ h => h) (Or.inl ⟨by rfl, by intro w hSw; go_simp⟩) hHeld ?_
            simp only [Act.put, List.setIfInBounds_toArray, List.set_cons_zero, List.set_cons_succ]
            refine wpAnyH_ready (rs := [6]) (by kernel_rfl) (by simp) (Mi.readyCall2 rfl (by kernel_rfl) 143 (.tmp 29) (.tmp 30) 3 3 (by kernel_rfl) 31 (by kernel_rfl) _ _ (by kernel_rfl) (by kernel_rfl) (fun _ => rfl) (H2.out _) (fun wx hb => by rw [hb]; exact hHeld) (fun wx hb hHeld => ?_) AllReadyH.nil)
            subst hb
            simp only [Act.put, List.setIfInBounds_toArray, List.set_cons_zero, List.set_cons_succ]
            refine take (i := 7) (d := some 32) (v := .bool true) rfl (by kernel_rfl) (by kernel_rfl) (by kernel_rfl) (by kernel_rfl) (fun _ _ _ h => h) (Or.inl ⟨by rfl, by intro w hSw; go_simp⟩) hHeld ?_
            simp only [Act.put, List.setIfInBounds_toArray, List.set_cons_zero, List.set_cons_succ]
            refine take (i := 8) (d := some 33) (v := .bool true) rfl (by kernel_rfl) (by kernel_rfl) (by kernel_rfl) (by kernel_rfl) (fun _ _ _ h => h) (Or.inl ⟨by rfl, by intro w hSw; go_simp⟩) hHeld ?_
            simp only [Act.put, List.setIfInBounds_toArray, List.set_cons_zero, List.set_cons_succ]
            refine take (i := 9) (d := some 34) (v := .pointer (some ⟨w.heap.size + 1, 1, none⟩)) rfl (by kernel_rfl) (by kernel_rfl) (by kernel_rfl) (by kernel_rfl) (fun _ _ _ h => h) (Or.inl ⟨by rfl, by intro w hSw; go_simp⟩) hHeld ?_
            simp only [Act.put, List.setIfInBounds_toArray, List.set_cons_zero, List.set_cons_succ]
            refine take (i := 10) (d := some 35) (v := .slice (some ⟨b4, o4, none⟩) 8 c4) rfl (by kernel_rfl) (by kernel_rfl) (by kernel_rfl) (by kernel_rfl) (fun _ _ _ h => h) (Or.inl ⟨by rfl, by intro w hSw; obtain ⟨p00, p01, p10, p11, g1, g2, g3, g4⟩ := hSw; go_simp⟩) hHeld ?_
            simp only [Act.put, List.setIfInBounds_toArray, List.set_cons_zero, List.set_cons_succ]
            refine take (i := 11) (d := some 36) (v := .int .i64 k) rfl (by kernel_rfl) (by kernel_rfl) (by kernel_rfl) (by kernel_rfl) (fun _ _ _ h => h) (Or.inl ⟨by rfl, by intro w hSw; go_simp⟩) hHeld ?_
            simp only [Act.put, List.setIfInBounds_toArray, List.set_cons_zero, List.set_cons_succ]
            refine take (i := 12) (d := some 37) (v := .pointer (some ⟨b4, o4 + k, none⟩)) rfl (by kernel_rfl) (by kernel_rfl) (by kernel_rfl) (by kernel_rfl) (fun _ _ _ h => h) (Or.inl ⟨by rfl, by intro w hSw; go_simp⟩) hHeld ?_
            simp only [Act.put, List.setIfInBounds_toArray, List.set_cons_zero, List.set_cons_succ]
            refine take (i := 13) (d := some 38) (v := .int .i64 m4) rfl (by kernel_rfl) (by kernel_rfl) (by kernel_rfl) (by kernel_rfl) (fun _ _ _ h => h) (Or.inl ⟨by rfl, by intro w hSw; obtain ⟨p00, p01, p10, p11, g1, g2, g3, g4⟩ := hSw; go_simp⟩) hHeld ?_
            simp only [Act.put, List.setIfInBounds_toArray, List.set_cons_zero, List.set_cons_succ]
            refine take (i := 14) (d := some 39) (v := .int .i64 j) rfl (by kernel_rfl) (by kernel_rfl) (by kernel_rfl) (by kernel_rfl) (fun _ _ _ h => h) (Or.inl ⟨by rfl, by intro w hSw; go_simp⟩) hHeld ?_
            simp only [Act.put, List.setIfInBounds_toArray, List.set_cons_zero, List.set_cons_succ]
            refine wpAnyH_ready (rs := [15]) (by kernel_rfl) (by simp) (Mi.readyCall2 rfl (by kernel_rfl) 143 (.tmp 38) (.tmp 39) 3 3 (by kernel_rfl) 40 (by kernel_rfl) _ _ (by kernel_rfl) (by kernel_rfl) (fun _ => rfl) (H4.out _) (fun wx hb => by rw [hb]; exact hHeld) (fun wx hb hHeld => ?_) AllReadyH.nil)
            subst hb
            simp only [Act.put, List.setIfInBounds_toArray, List.set_cons_zero, List.set_cons_succ]
            refine take (i := 16) (d := some 41) (v := .bool true) rfl (by kernel_rfl) (by kernel_rfl) (by kernel_rfl) (by kernel_rfl) (fun _ _ _ h => h) (Or.inl ⟨by rfl, by intro w hSw; go_simp⟩) hHeld ?_
            simp only [Act.put, List.setIfInBounds_toArray, List.set_cons_zero, List.set_cons_succ]
            refine take (i := 17) (d := some 42) (v := .bool true) rfl (by kernel_rfl) (by kernel_rfl) (by kernel_rfl) (by kernel_rfl) (fun _ _ _ h => h) (Or.inl ⟨by rfl, by intro w hSw; go_simp⟩) hHeld ?_
            simp only [Act.put, List.setIfInBounds_toArray, List.set_cons_zero, List.set_cons_succ]
            refine take (i := 18) (d := some 43) (v := undef) rfl (by kernel_rfl) (by kernel_rfl) (by kernel_rfl) (by kernel_rfl) (fun _ _ _ h => h) (Or.inr ⟨by rfl, rfl⟩) hHeld ?_
            simp only [Act.put, List.setIfInBounds_toArray, List.set_cons_zero, List.set_cons_succ]
            refine take (i := 19) (d := some 44) (v := undef) rfl (by kernel_rfl) (by kernel_rfl) (by kernel_rfl) (by kernel_rfl) (fun _ _ _ h => h) (Or.inr ⟨by rfl, rfl⟩) hHeld ?_
            simp only [Act.put, List.setIfInBounds_toArray, List.set_cons_zero, List.set_cons_succ]
            refine take (i := 20) (d := some 45) (v := undef) rfl (by kernel_rfl) (by kernel_rfl) (by kernel_rfl) (by kernel_rfl) (fun _ _ _ h => h) (Or.inr ⟨by rfl, rfl⟩) hHeld ?_
            simp only [Act.put, List.setIfInBounds_toArray, List.set_cons_zero, List.set_cons_succ]
            refine take (i := 21) (d := some 46) (v := undef) rfl (by kernel_rfl) (by kernel_rfl) (by kernel_rfl) (by kernel_rfl) (fun _ _ _ h => h) (Or.inr ⟨by rfl, rfl⟩) hHeld ?_
            simp only [Act.put, List.setIfInBounds_toArray, List.set_cons_zero, List.set_cons_succ]
            refine take (i := 22) (d := some 47) (v := undef) rfl (by kernel_rfl) (by kernel_rfl) (by kernel_rfl) (by kernel_rfl) (fun _ _ _ h => h) (Or.inr ⟨by rfl, rfl⟩) hHeld ?_
            simp only [Act.put, List.setIfInBounds_toArray, List.set_cons_zero, List.set_cons_succ]
            refine take (i := 23) (d := some 48) (v := undef) rfl (by kernel_rfl) (by kernel_rfl) (by kernel_rfl) (by kernel_rfl) (fun _ _ _ h => h) (Or.inr ⟨by rfl, rfl⟩) hHeld ?_
            simp only [Act.put, List.setIfInBounds_toArray, List.set_cons_zero, List.set_cons_succ]
            refine take (i := 25) (d := some 50) (v := undef) rfl (by kernel_rfl) (by kernel_rfl) (by kernel_rfl) (by kernel_rfl) (fun _ _ _ h => h) (Or.inr ⟨by rfl, rfl⟩) hHeld ?_
            simp only [Act.put, List.setIfInBounds_toArray, List.set_cons_zero, List.set_cons_succ]
            refine take (i := 26) (d := some 51) (v := undef) rfl (by kernel_rfl) (by kernel_rfl) (by kernel_rfl) (by kernel_rfl) (fun _ _ _ h => h) (Or.inr ⟨by rfl, rfl⟩) hHeld ?_
            simp only [Act.put, List.setIfInBounds_toArray, List.set_cons_zero, List.set_cons_succ]
            refine take (i := 27) (d := some 52) (v := undef) rfl (by kernel_rfl) (by kernel_rfl) (by kernel_rfl) (by kernel_rfl) (fun _ _ _ h => h) (Or.inr ⟨by rfl, rfl⟩) hHeld ?_
            simp only [Act.put, List.setIfInBounds_toArray, List.set_cons_zero, List.set_cons_succ]
            refine take (i := 28) (d := some 53) (v := undef) rfl (by kernel_rfl) (by kernel_rfl) (by kernel_rfl) (by kernel_rfl) (fun _ _ _ h => h) (Or.inr ⟨by rfl, rfl⟩) hHeld ?_
            simp only [Act.put, List.setIfInBounds_toArray, List.set_cons_zero, List.set_cons_succ]
            refine take (i := 29) (d := some 54) (v := undef) rfl (by kernel_rfl) (by kernel_rfl) (by kernel_rfl) (by kernel_rfl) (fun _ _ _ h => h) (Or.inr ⟨by rfl, rfl⟩) hHeld ?_
            simp only [Act.put, List.setIfInBounds_toArray, List.set_cons_zero, List.set_cons_succ]
            refine take (i := 30) (d := some 55) (v := undef) rfl (by kernel_rfl) (by kernel_rfl) (by kernel_rfl) (by kernel_rfl) (fun _ _ _ h => h) (Or.inr ⟨by rfl, rfl⟩) hHeld ?_
            simp only [Act.put, List.setIfInBounds_toArray, List.set_cons_zero, List.set_cons_succ]
            refine take (i := 24) (d := some 49) (v := undef) rfl (by kernel_rfl) (by kernel_rfl) (by kernel_rfl) (by kernel_rfl) (fun _ _ _ h => h) (Or.inr ⟨by rfl, rfl⟩) hHeld ?_
            simp only [Act.put, List.setIfInBounds_toArray, List.set_cons_zero, List.set_cons_succ]
            refine take (i := 31) (d := some 56) (v := undef) rfl (by kernel_rfl) (by kernel_rfl) (by kernel_rfl) (by kernel_rfl) (fun _ _ _ h => h) (Or.inr ⟨by rfl, rfl⟩) hHeld ?_
            simp only [Act.put, List.setIfInBounds_toArray, List.set_cons_zero, List.set_cons_succ]
            refine take (i := 32) (d := some 57) (v := undef) rfl (by kernel_rfl) (by kernel_rfl) (by kernel_rfl) (by kernel_rfl) (fun _ _ _ h => h) (Or.inr ⟨by rfl, rfl⟩) hHeld ?_
            simp only [Act.put, List.setIfInBounds_toArray, List.set_cons_zero, List.set_cons_succ]
            refine take (i := 33) (d := some 58) (v := .bool true) rfl (by kernel_rfl) (by kernel_rfl) (by kernel_rfl) (by kernel_rfl) (fun _ _ _ h => h) (Or.inl ⟨by rfl, by intro w hSw; go_simp⟩) hHeld ?_
            simp only [Act.put, List.setIfInBounds_toArray, List.set_cons_zero, List.set_cons_succ]
            refine take (i := 34) (d := some 59) (v := .bool true) rfl (by kernel_rfl) (by kernel_rfl) (by kernel_rfl) (by kernel_rfl) (fun _ _ _ h => h) (Or.inl ⟨by rfl, by intro w hSw; go_simp⟩) hHeld ?_
            simp only [Act.put, List.setIfInBounds_toArray, List.set_cons_zero, List.set_cons_succ]
            refine wpAnyH_done (by kernel_rfl) ?_ _
            go_wp2
            go_ret
            exact ⟨Num.ret_bool (HN.out (fun h => by have := (h U.out).1; have := V1.out; omega)).symm, hbel.drew⟩
          · have U : Hid (x4 = 1 ∧ x1 = x3) := ⟨v, t⟩
            have f1 : (x2 == 1) = true := by rw [u]; rfl
            have f2 : (x4 == 0) = false := by rw [v]; rfl
            have f3 : (x1 != x3) = false := by rw [t]; simp
            clear u v t y1 y2 y3 y4
            refine wp_region_held_drew (S := (fun w' => w'.cell? ⟨w.heap.size, 0, none⟩ = some (.slice (some ⟨b1, o1, none⟩) 8 c1) ∧ w'.cell? ⟨w.heap.size, 1, none⟩ = some (.slice (some ⟨b2, o2, none⟩) 8 c2) ∧ w'.cell? ⟨w.heap.size + 1, 0, none⟩ = some (.slice (some ⟨b3, o3, none⟩) 8 c3) ∧ w'.cell? ⟨w.heap.size + 1, 1, none⟩ = some (.slice (some ⟨b4, o4, none⟩) 8 c4) ∧ w'.cell? ⟨b1, o1 + k, none⟩ = some (.int .i64 m1) ∧ w'.cell? ⟨b2, o2 + k, none⟩ = some (.int .i64 m2) ∧ w'.cell? ⟨b3, o3 + k, none⟩ = some (.int .i64 m3) ∧ w'.cell? ⟨b4, o4 + k, none⟩ = some (.int .i64 m4))) (by kernel_rfl) ⟨p00, p01, p10, p11, g1, g2, g3, g4⟩ (fun hHeld => ?_)
            refine take (i := 0) (d := some 25) (v := .pointer (some ⟨w.heap.size, 1, none⟩)) rfl (by kernel_rfl) (by kernel_rfl) (by kernel_rfl) (by kernel_rfl) (fun _ _ _ h => h) (Or.inl ⟨by rfl, by intro w hSw; go_simp⟩) hHeld ?_
            simp only [Act.put, List.setIfInBounds_toArray, List.set_cons_zero, List.set_cons_succ]
            refine take (i := 1) (d := some 26) (v := .slice (some ⟨b2, o2, none⟩) 8 c2) rfl (by kernel_rfl) (by kernel_rfl) (by kernel_rfl) (by kernel_rfl) (fun _ _ _ h => h) (Or.inl ⟨by rfl, by intro w hSw; obtain ⟨p00, p01, p10, p11, g1, g2, g3, g4⟩ := hSw; go_simp⟩) hHeld ?_
            simp only [Act.put, List.setIfInBounds_toArray, List.set_cons_zero, List.set_cons_succ]
            refine take (i := 2) (d := some 27) (v := .int .i64 k) rfl (by kernel_rfl) (by kernel_rfl) (by kernel_rfl) (by kernel_rfl) (fun _ _ _ h => h) (Or.inl ⟨by rfl, by intro w hSw; go_simp⟩) hHeld ?_
            simp only [Act.put, List.setIfInBounds_toArray, List.set_cons_zero, List.set_cons_succ]
            refine take (i := 3) (d := some 28) (v := .pointer (some ⟨b2, o2 + k, none⟩)) rfl (by kernel_rfl) (by kernel_rfl) (by kernel_rfl) (by kernel_rfl) (fun _ _ _ h => h) (Or.inl ⟨by rfl, by intro w hSw; go_simp⟩) hHeld ?_
            simp only [Act.put, List.setIfInBounds_toArray, List.set_cons_zero, List.set_cons_succ]
            refine take (i := 4) (d := some 29) (v := .int .i64 m2) rfl (by kernel_rfl) (by kernel_rfl) (by kernel_rfl) (by kernel_rfl) (fun _ _ _ h => h) (Or.inl ⟨by rfl, by intro w hSw; obtain ⟨p00, p01, p10, p11, g1, g2, g3, g4⟩ := hSw; go_simp⟩) hHeld ?_
            simp only [Act.put, List.setIfInBounds_toArray, List.set_cons_zero, List.set_cons_succ]
            refine take (i := 5) (d := some 30) (v := .int .i64 j) rfl (by kernel_rfl) (by kernel_rfl) (by kernel_rfl) (by kernel_rfl) (fun _ _ _ h => h) (Or.inl ⟨by rfl, by intro w hSw; go_simp⟩) hHeld ?_
            simp only [Act.put, List.setIfInBounds_toArray, List.set_cons_zero, List.set_cons_succ]
            refine wpAnyH_ready (rs := [6]) (by kernel_rfl) (by simp) (Mi.readyCall2 rfl (by kernel_rfl) 143 (.tmp 29) (.tmp 30) 3 3 (by kernel_rfl) 31 (by kernel_rfl) _ _ (by kernel_rfl) (by kernel_rfl) (fun _ => rfl) (H2.out _) (fun wx hb => by rw [hb]; exact hHeld) (fun wx hb hHeld => ?_) AllReadyH.nil)
            subst hb
            simp only [Act.put, List.setIfInBounds_toArray, List.set_cons_zero, List.set_cons_succ]
            refine take (i := 7) (d := some 32) (v := .bool true) rfl (by kernel_rfl) (by kernel_rfl) (by kernel_rfl) (by kernel_rfl) (fun _ _ _ h => h) (Or.inl ⟨by rfl, by intro w hSw; go_simp⟩) hHeld ?_
            simp only [Act.put, List.setIfInBounds_toArray, List.set_cons_zero, List.set_cons_succ]
            refine take (i := 8) (d := some 33) (v := .bool true) rfl (by kernel_rfl) (by kernel_rfl) (by kernel_rfl) (by kernel_rfl) (fun _ _ _ h => h) (Or.inl ⟨by rfl, by intro w hSw; go_simp⟩) hHeld ?_
            simp only [Act.put, List.setIfInBounds_toArray, List.set_cons_zero, List.set_cons_succ]
            refine take (i := 9) (d := some 34) (v := .pointer (some ⟨w.heap.size + 1, 1, none⟩)) rfl (by kernel_rfl) (by kernel_rfl) (by kernel_rfl) (by kernel_rfl) (fun _ _ _ h => h) (Or.inl ⟨by rfl, by intro w hSw; go_simp⟩) hHeld ?_
            simp only [Act.put, List.setIfInBounds_toArray, List.set_cons_zero, List.set_cons_succ]
            refine take (i := 10) (d := some 35) (v := .slice (some ⟨b4, o4, none⟩) 8 c4) rfl (by kernel_rfl) (by kernel_rfl) (by kernel_rfl) (by kernel_rfl) (fun _ _ _ h => h) (Or.inl ⟨by rfl, by intro w hSw; obtain ⟨p00, p01, p10, p11, g1, g2, g3, g4⟩ := hSw; go_simp⟩) hHeld ?_
            simp only [Act.put, List.setIfInBounds_toArray, List.set_cons_zero, List.set_cons_succ]
            refine take (i := 11) (d := some 36) (v := .int .i64 k) rfl (by kernel_rfl) (by kernel_rfl) (by kernel_rfl) (by kernel_rfl) (fun _ _ _ h => h) (Or.inl ⟨by rfl, by intro w hSw; go_simp⟩) hHeld ?_
            simp only [Act.put, List.setIfInBounds_toArray, List.set_cons_zero, List.set_cons_succ]
            refine take (i := 12) (d := some 37) (v := .pointer (some ⟨b4, o4 + k, none⟩)) rfl (by kernel_rfl) (by kernel_rfl) (by kernel_rfl) (by kernel_rfl) (fun _ _ _ h => h) (Or.inl ⟨by rfl, by intro w hSw; go_simp⟩) hHeld ?_
            simp only [Act.put, List.setIfInBounds_toArray, List.set_cons_zero, List.set_cons_succ]
            refine take (i := 13) (d := some 38) (v := .int .i64 m4) rfl (by kernel_rfl) (by kernel_rfl) (by kernel_rfl) (by kernel_rfl) (fun _ _ _ h => h) (Or.inl ⟨by rfl, by intro w hSw; obtain ⟨p00, p01, p10, p11, g1, g2, g3, g4⟩ := hSw; go_simp⟩) hHeld ?_
            simp only [Act.put, List.setIfInBounds_toArray, List.set_cons_zero, List.set_cons_succ]
            refine take (i := 14) (d := some 39) (v := .int .i64 j) rfl (by kernel_rfl) (by kernel_rfl) (by kernel_rfl) (by kernel_rfl) (fun _ _ _ h => h) (Or.inl ⟨by rfl, by intro w hSw; go_simp⟩) hHeld ?_
            simp only [Act.put, List.setIfInBounds_toArray, List.set_cons_zero, List.set_cons_succ]
            refine wpAnyH_ready (rs := [15]) (by kernel_rfl) (by simp) (Mi.readyCall2 rfl (by kernel_rfl) 143 (.tmp 38) (.tmp 39) 3 3 (by kernel_rfl) 40 (by kernel_rfl) _ _ (by kernel_rfl) (by kernel_rfl) (fun _ => rfl) (H4.out _) (fun wx hb => by rw [hb]; exact hHeld) (fun wx hb hHeld => ?_) AllReadyH.nil)
            subst hb
            simp only [Act.put, List.setIfInBounds_toArray, List.set_cons_zero, List.set_cons_succ]
            refine take (i := 16) (d := some 41) (v := .bool false) rfl (by kernel_rfl) (by kernel_rfl) (by kernel_rfl) (by kernel_rfl) (fun _ _ _ h => h) (Or.inl ⟨by rfl, by intro w hSw; go_simp⟩) hHeld ?_
            simp only [Act.put, List.setIfInBounds_toArray, List.set_cons_zero, List.set_cons_succ]
            refine take (i := 17) (d := some 42) (v := .bool false) rfl (by kernel_rfl) (by kernel_rfl) (by kernel_rfl) (by kernel_rfl) (fun _ _ _ h => h) (Or.inl ⟨by rfl, by intro w hSw; go_simp⟩) hHeld ?_
            simp only [Act.put, List.setIfInBounds_toArray, List.set_cons_zero, List.set_cons_succ]
            refine take (i := 18) (d := some 43) (v := .pointer (some ⟨w.heap.size, 0, none⟩)) rfl (by kernel_rfl) (by kernel_rfl) (by kernel_rfl) (by kernel_rfl) (fun _ _ _ h => h) (Or.inl ⟨by rfl, by intro w hSw; go_simp⟩) hHeld ?_
            simp only [Act.put, List.setIfInBounds_toArray, List.set_cons_zero, List.set_cons_succ]
            refine take (i := 19) (d := some 44) (v := .slice (some ⟨b1, o1, none⟩) 8 c1) rfl (by kernel_rfl) (by kernel_rfl) (by kernel_rfl) (by kernel_rfl) (fun _ _ _ h => h) (Or.inl ⟨by rfl, by intro w hSw; obtain ⟨p00, p01, p10, p11, g1, g2, g3, g4⟩ := hSw; go_simp⟩) hHeld ?_
            simp only [Act.put, List.setIfInBounds_toArray, List.set_cons_zero, List.set_cons_succ]
            refine take (i := 20) (d := some 45) (v := .int .i64 k) rfl (by kernel_rfl) (by kernel_rfl) (by kernel_rfl) (by kernel_rfl) (fun _ _ _ h => h) (Or.inl ⟨by rfl, by intro w hSw; go_simp⟩) hHeld ?_
            simp only [Act.put, List.setIfInBounds_toArray, List.set_cons_zero, List.set_cons_succ]
            refine take (i := 21) (d := some 46) (v := .pointer (some ⟨b1, o1 + k, none⟩)) rfl (by kernel_rfl) (by kernel_rfl) (by kernel_rfl) (by kernel_rfl) (fun _ _ _ h => h) (Or.inl ⟨by rfl, by intro w hSw; go_simp⟩) hHeld ?_
            simp only [Act.put, List.setIfInBounds_toArray, List.set_cons_zero, List.set_cons_succ]
            refine take (i := 22) (d := some 47) (v := .int .i64 m1) rfl (by kernel_rfl) (by kernel_rfl) (by kernel_rfl) (by kernel_rfl) (fun _ _ _ h => h) (Or.inl ⟨by rfl, by intro w hSw; obtain ⟨p00, p01, p10, p11, g1, g2, g3, g4⟩ := hSw; go_simp⟩) hHeld ?_
            simp only [Act.put, List.setIfInBounds_toArray, List.set_cons_zero, List.set_cons_succ]
            refine take (i := 23) (d := some 48) (v := .int .i64 j) rfl (by kernel_rfl) (by kernel_rfl) (by kernel_rfl) (by kernel_rfl) (fun _ _ _ h => h) (Or.inl ⟨by rfl, by intro w hSw; go_simp⟩) hHeld ?_
            simp only [Act.put, List.setIfInBounds_toArray, List.set_cons_zero, List.set_cons_succ]
            refine take (i := 25) (d := some 50) (v := .pointer (some ⟨w.heap.size + 1, 0, none⟩)) rfl (by kernel_rfl) (by kernel_rfl) (by kernel_rfl) (by kernel_rfl) (fun _ _ _ h => h) (Or.inl ⟨by rfl, by intro w hSw; go_simp⟩) hHeld ?_
            simp only [Act.put, List.setIfInBounds_toArray, List.set_cons_zero, List.set_cons_succ]
            refine take (i := 26) (d := some 51) (v := .slice (some ⟨b3, o3, none⟩) 8 c3) rfl (by kernel_rfl) (by kernel_rfl) (by kernel_rfl) (by kernel_rfl) (fun _ _ _ h => h) (Or.inl ⟨by rfl, by intro w hSw; obtain ⟨p00, p01, p10, p11, g1, g2, g3, g4⟩ := hSw; go_simp⟩) hHeld ?_
            simp only [Act.put, List.setIfInBounds_toArray, List.set_cons_zero, List.set_cons_succ]
            refine take (i := 27) (d := some 52) (v := .int .i64 k) rfl (by kernel_rfl) (by kernel_rfl) (by kernel_rfl) (by kernel_rfl) (fun _ _ _ h => h) (Or.inl ⟨by rfl, by intro w hSw; go_simp⟩) hHeld ?_
            simp only [Act.put, List.setIfInBounds_toArray, List.set_cons_zero, List.set_cons_succ]
            refine take (i := 28) (d := some 53) (v := .pointer (some ⟨b3, o3 + k, none⟩)) rfl (by kernel_rfl) (by kernel_rfl) (by kernel_rfl) (by kernel_rfl) (fun _ _ _ h => h) (Or.inl ⟨by rfl, by intro w hSw; go_simp⟩) hHeld ?_
            simp only [Act.put, List.setIfInBounds_toArray, List.set_cons_zero, List.set_cons_succ]
            refine take (i := 29) (d := some 54) (v := .int .i64 m3) rfl (by kernel_rfl) (by kernel_rfl) (by kernel_rfl) (by kernel_rfl) (fun _ _ _ h => h) (Or.inl ⟨by rfl, by intro w hSw; obtain ⟨p00, p01, p10, p11, g1, g2, g3, g4⟩ := hSw; go_simp⟩) hHeld ?_
            simp only [Act.put, List.setIfInBounds_toArray, List.set_cons_zero, List.set_cons_succ]
            refine take (i := 30) (d := some 55) (v := .int .i64 j) rfl (by kernel_rfl) (by kernel_rfl) (by kernel_rfl) (by kernel_rfl) (fun _ _ _ h => h) (Or.inl ⟨by rfl, by intro w hSw; go_simp⟩) hHeld ?_
            simp only [Act.put, List.setIfInBounds_toArray, List.set_cons_zero, List.set_cons_succ]
            refine wpAnyH_ready (rs := [24]) (by kernel_rfl) (by simp) (Mi.readyCall2 rfl (by kernel_rfl) 143 (.tmp 47) (.tmp 48) 3 3 (by kernel_rfl) 49 (by kernel_rfl) _ _ (by kernel_rfl) (by kernel_rfl) (fun _ => rfl) (H1.out _) (fun wx hb => by rw [hb]; exact hHeld) (fun wx hb hHeld => ?_) AllReadyH.nil)
            subst hb
            simp only [Act.put, List.setIfInBounds_toArray, List.set_cons_zero, List.set_cons_succ]
            refine wpAnyH_ready (rs := [31]) (by kernel_rfl) (by simp) (Mi.readyCall2 rfl (by kernel_rfl) 143 (.tmp 54) (.tmp 55) 3 3 (by kernel_rfl) 56 (by kernel_rfl) _ _ (by kernel_rfl) (by kernel_rfl) (fun _ => rfl) (H3.out _) (fun wx hb => by rw [hb]; exact hHeld) (fun wx hb hHeld => ?_) AllReadyH.nil)
            subst hb
            simp only [Act.put, List.setIfInBounds_toArray, List.set_cons_zero, List.set_cons_succ]
            refine take (i := 32) (d := some 57) (v := .bool false) rfl (by kernel_rfl) (by kernel_rfl) (by kernel_rfl) (by kernel_rfl) (fun _ _ _ h => h) (Or.inl ⟨by rfl, by intro w hSw; go_simp⟩) hHeld ?_
            simp only [Act.put, List.setIfInBounds_toArray, List.set_cons_zero, List.set_cons_succ]
            refine take (i := 33) (d := some 58) (v := .bool false) rfl (by kernel_rfl) (by kernel_rfl) (by kernel_rfl) (by kernel_rfl) (fun _ _ _ h => h) (Or.inl ⟨by rfl, by intro w hSw; go_simp⟩) hHeld ?_
            simp only [Act.put, List.setIfInBounds_toArray, List.set_cons_zero, List.set_cons_succ]
            refine take (i := 34) (d := some 59) (v := .bool false) rfl (by kernel_rfl) (by kernel_rfl) (by kernel_rfl) (by kernel_rfl) (fun _ _ _ h => h) (Or.inl ⟨by rfl, by intro w hSw; go_simp⟩) hHeld ?_
            simp only [Act.put, List.setIfInBounds_toArray, List.set_cons_zero, List.set_cons_succ]
            refine wpAnyH_done (by kernel_rfl) ?_ _
            go_wp2
            go_roundw
            case rel => exact ⟨j + 1, by omega, by go_num, hbel.drew, Q0.out, Q1.out, HY.out (fun _ => U.out)⟩
            case measure => simp [intOf]; omega
          · have U : Hid (x2 = 1 ∧ ¬ x1 = x3) := ⟨u, t⟩
            have f1 : (x2 == 1) = true := by rw [u]; rfl
            have f2 : (x4 == 0) = false := by rw [v]; rfl
            have f3 : (x1 != x3) = true := by simpa using t
            clear u v t y1 y2 y3 y4
            refine wp_region_held_drew (S := (fun w' => w'.cell? ⟨w.heap.size, 0, none⟩ = some (.slice (some ⟨b1, o1, none⟩) 8 c1) ∧ w'.cell? ⟨w.heap.size, 1, none⟩ = some (.slice (some ⟨b2, o2, none⟩) 8 c2) ∧ w'.cell? ⟨w.heap.size + 1, 0, none⟩ = some (.slice (some ⟨b3, o3, none⟩) 8 c3) ∧ w'.cell? ⟨w.heap.size + 1, 1, none⟩ = some (.slice (some ⟨b4, o4, none⟩) 8 c4) ∧ w'.cell? ⟨b1, o1 + k, none⟩ = some (.int .i64 m1) ∧ w'.cell? ⟨b2, o2 + k, none⟩ = some (.int .i64 m2) ∧ w'.cell? ⟨b3, o3 + k, none⟩ = some (.int .i64 m3) ∧ w'.cell? ⟨b4, o4 + k, none⟩ = some (.int .i64 m4))) (by kernel_rfl) ⟨p00, p01, p10, p11, g1, g2, g3, g4⟩ (fun hHeld => ?_)
            refine take (i := 0) (d := some 25) (v := .pointer (some ⟨w.heap.size, 1, none⟩)) rfl (by kernel_rfl) (by kernel_rfl) (by kernel_rfl) (by kernel_rfl) (fun _ _ _ h => h) (Or.inl ⟨by rfl, by intro w hSw; go_simp⟩) hHeld ?_
            simp only [Act.put, List.setIfInBounds_toArray, List.set_cons_zero, List.set_cons_succ]
            refine take (i := 1) (d := some 26) (v := .slice (some ⟨b2, o2, none⟩) 8 c2) rfl (by kernel_rfl) (by kernel_rfl) (by kernel_rfl) (by kernel_rfl) (fun _ _ _ h => h) (Or.inl ⟨by rfl, by intro w hSw; obtain ⟨p00, p01, p10, p11, g1, g2, g3, g4⟩ := hSw; go_simp⟩) hHeld ?_
            simp only [Act.put, List.setIfInBounds_toArray, List.set_cons_zero, List.set_cons_succ]
            refine take (i := 2) (d := some 27) (v := .int .i64 k) rfl (by kernel_rfl) (by kernel_rfl) (by kernel_rfl) (by kernel_rfl) (fun _ _ _ h => h) (Or.inl ⟨by rfl, by intro w hSw; go_simp⟩) hHeld ?_
            simp only [Act.put, List.setIfInBounds_toArray, List.set_cons_zero, List.set_cons_succ]
            refine take (i := 3) (d := some 28) (v := .pointer (some ⟨b2, o2 + k, none⟩)) rfl (by kernel_rfl) (by kernel_rfl) (by kernel_rfl) (by kernel_rfl) (fun _ _ _ h => h) (Or.inl ⟨by rfl, by intro w hSw; go_simp⟩) hHeld ?_
            simp only [Act.put, List.setIfInBounds_toArray, List.set_cons_zero, List.set_cons_succ]
            refine take (i := 4) (d := some 29) (v := .int .i64 m2) rfl (by kernel_rfl) (by kernel_rfl) (by kernel_rfl) (by kernel_rfl) (fun _ _ _ h => h) (Or.inl ⟨by rfl, by intro w hSw; obtain ⟨p00, p01, p10, p11, g1, g2, g3, g4⟩ := hSw; go_simp⟩) hHeld ?_
            simp only [Act.put, List.setIfInBounds_toArray, List.set_cons_zero, List.set_cons_succ]
            refine take (i := 5) (d := some 30) (v := .int .i64 j) rfl (by kernel_rfl) (by kernel_rfl) (by kernel_rfl) (by kernel_rfl) (fun _ _ _ h => h) (Or.inl ⟨by rfl, by intro w hSw; go_simp⟩) hHeld ?_
            simp only [Act.put, List.setIfInBounds_toArray, List.set_cons_zero, List.set_cons_succ]
            refine wpAnyH_ready (rs := [6]) (by kernel_rfl) (by simp) (Mi.readyCall2 rfl (by kernel_rfl) 143 (.tmp 29) (.tmp 30) 3 3 (by kernel_rfl) 31 (by kernel_rfl) _ _ (by kernel_rfl) (by kernel_rfl) (fun _ => rfl) (H2.out _) (fun wx hb => by rw [hb]; exact hHeld) (fun wx hb hHeld => ?_) AllReadyH.nil)
            subst hb
            simp only [Act.put, List.setIfInBounds_toArray, List.set_cons_zero, List.set_cons_succ]
            refine take (i := 7) (d := some 32) (v := .bool true) rfl (by kernel_rfl) (by kernel_rfl) (by kernel_rfl) (by kernel_rfl) (fun _ _ _ h => h) (Or.inl ⟨by rfl, by intro w hSw; go_simp⟩) hHeld ?_
            simp only [Act.put, List.setIfInBounds_toArray, List.set_cons_zero, List.set_cons_succ]
            refine take (i := 8) (d := some 33) (v := .bool true) rfl (by kernel_rfl) (by kernel_rfl) (by kernel_rfl) (by kernel_rfl) (fun _ _ _ h => h) (Or.inl ⟨by rfl, by intro w hSw; go_simp⟩) hHeld ?_
            simp only [Act.put, List.setIfInBounds_toArray, List.set_cons_zero, List.set_cons_succ]
            refine take (i := 9) (d := some 34) (v := .pointer (some ⟨w.heap.size + 1, 1, none⟩)) rfl (by kernel_rfl) (by kernel_rfl) (by kernel_rfl) (by kernel_rfl) (fun _ _ _ h => h) (Or.inl ⟨by rfl, by intro w hSw; go_simp⟩) hHeld ?_
            simp only [Act.put, List.setIfInBounds_toArray, List.set_cons_zero, List.set_cons_succ]
            refine take (i := 10) (d := some 35) (v := .slice (some ⟨b4, o4, none⟩) 8 c4) rfl (by kernel_rfl) (by kernel_rfl) (by kernel_rfl) (by kernel_rfl) (fun _ _ _ h => h) (Or.inl ⟨by rfl, by intro w hSw; obtain ⟨p00, p01, p10, p11, g1, g2, g3, g4⟩ := hSw; go_simp⟩) hHeld ?_
            simp only [Act.put, List.setIfInBounds_toArray, List.set_cons_zero, List.set_cons_succ]
            refine take (i := 11) (d := some 36) (v := .int .i64 k) rfl (by kernel_rfl) (by kernel_rfl) (by kernel_rfl) (by kernel_rfl) (fun _ _ _ h => h) (Or.inl ⟨by rfl, by intro w hSw; go_simp⟩) hHeld ?_
            simp only [Act.put, List.setIfInBounds_toArray, List.set_cons_zero, List.set_cons_succ]
            refine take (i := 12) (d := some 37) (v := .pointer (some ⟨b4, o4 + k, none⟩)) rfl (by kernel_rfl) (by kernel_rfl) (by kernel_rfl) (by kernel_rfl) (fun _ _ _ h => h) (Or.inl ⟨by rfl, by intro w hSw; go_simp⟩) hHeld ?_
            simp only [Act.put, List.setIfInBounds_toArray, List.set_cons_zero, List.set_cons_succ]
            refine take (i := 13) (d := some 38) (v := .int .i64 m4) rfl (by kernel_rfl) (by kernel_rfl) (by kernel_rfl) (by kernel_rfl) (fun _ _ _ h => h) (Or.inl ⟨by rfl, by intro w hSw; obtain ⟨p00, p01, p10, p11, g1, g2, g3, g4⟩ := hSw; go_simp⟩) hHeld ?_
            simp only [Act.put, List.setIfInBounds_toArray, List.set_cons_zero, List.set_cons_succ]
            refine take (i := 14) (d := some 39) (v := .int .i64 j) rfl (by kernel_rfl) (by kernel_rfl) (by kernel_rfl) (by kernel_rfl) (fun _ _ _ h => h) (Or.inl ⟨by rfl, by intro w hSw; go_simp⟩) hHeld ?_
            simp only [Act.put, List.setIfInBounds_toArray, List.set_cons_zero, List.set_cons_succ]
            refine wpAnyH_ready (rs := [15]) (by kernel_rfl) (by simp) (Mi.readyCall2 rfl (by kernel_rfl) 143 (.tmp 38) (.tmp 39) 3 3 (by kernel_rfl) 40 (by kernel_rfl) _ _ (by kernel_rfl) (by kernel_rfl) (fun _ => rfl) (H4.out _) (fun wx hb => by rw [hb]; exact hHeld) (fun wx hb hHeld => ?_) AllReadyH.nil)
            subst hb
            simp only [Act.put, List.setIfInBounds_toArray, List.set_cons_zero, List.set_cons_succ]
            refine take (i := 16) (d := some 41) (v := .bool false) rfl (by kernel_rfl) (by kernel_rfl) (by kernel_rfl) (by kernel_rfl) (fun _ _ _ h => h) (Or.inl ⟨by rfl, by intro w hSw; go_simp⟩) hHeld ?_
            simp only [Act.put, List.setIfInBounds_toArray, List.set_cons_zero, List.set_cons_succ]
            refine take (i := 17) (d := some 42) (v := .bool false) rfl (by kernel_rfl) (by kernel_rfl) (by kernel_rfl) (by kernel_rfl) (fun _ _ _ h => h) (Or.inl ⟨by rfl, by intro w hSw; go_simp⟩) hHeld ?_
            simp only [Act.put, List.setIfInBounds_toArray, List.set_cons_zero, List.set_cons_succ]
            refine take (i := 18) (d := some 43) (v := .pointer (some ⟨w.heap.size, 0, none⟩)) rfl (by kernel_rfl) (by kernel_rfl) (by kernel_rfl) (by kernel_rfl) (fun _ _ _ h => h) (Or.inl ⟨by rfl, by intro w hSw; go_simp⟩) hHeld ?_
            simp only [Act.put, List.setIfInBounds_toArray, List.set_cons_zero, List.set_cons_succ]
            refine take (i := 19) (d := some 44) (v := .slice (some ⟨b1, o1, none⟩) 8 c1) rfl (by kernel_rfl) (by kernel_rfl) (by kernel_rfl) (by kernel_rfl) (fun _ _ _ h => h) (Or.inl ⟨by rfl, by intro w hSw; obtain ⟨p00, p01, p10, p11, g1, g2, g3, g4⟩ := hSw; go_simp⟩) hHeld ?_
            simp only [Act.put, List.setIfInBounds_toArray, List.set_cons_zero, List.set_cons_succ]
            refine take (i := 20) (d := some 45) (v := .int .i64 k) rfl (by kernel_rfl) (by kernel_rfl) (by kernel_rfl) (by kernel_rfl) (fun _ _ _ h => h) (Or.inl ⟨by rfl, by intro w hSw; go_simp⟩) hHeld ?_
            simp only [Act.put, List.setIfInBounds_toArray, List.set_cons_zero, List.set_cons_succ]
            refine take (i := 21) (d := some 46) (v := .pointer (some ⟨b1, o1 + k, none⟩)) rfl (by kernel_rfl) (by kernel_rfl) (by kernel_rfl) (by kernel_rfl) (fun _ _ _ h => h) (Or.inl ⟨by rfl, by intro w hSw; go_simp⟩) hHeld ?_
            simp only [Act.put, List.setIfInBounds_toArray, List.set_cons_zero, List.set_cons_succ]
            refine take (i := 22) (d := some 47) (v := .int .i64 m1) rfl (by kernel_rfl) (by kernel_rfl) (by kernel_rfl) (by kernel_rfl) (fun _ _ _ h => h) (Or.inl ⟨by rfl, by intro w hSw; obtain ⟨p00, p01, p10, p11, g1, g2, g3, g4⟩ := hSw; go_simp⟩) hHeld ?_
            simp only [Act.put, List.setIfInBounds_toArray, List.set_cons_zero, List.set_cons_succ]
            refine take (i := 23) (d := some 48) (v := .int .i64 j) rfl (by kernel_rfl) (by kernel_rfl) (by kernel_rfl) (by kernel_rfl) (fun _ _ _ h => h) (Or.inl ⟨by rfl, by intro w hSw; go_simp⟩) hHeld ?_
            simp only [Act.put, List.setIfInBounds_toArray, List.set_cons_zero, List.set_cons_succ]
            refine take (i := 25) (d := some 50) (v := .pointer (some ⟨w.heap.size + 1, 0, none⟩)) rfl (by kernel_rfl) (by kernel_rfl) (by kernel_rfl) (by kernel_rfl) (fun _ _ _ h => h) (Or.inl ⟨by rfl, by intro w hSw; go_simp⟩) hHeld ?_
            simp only [Act.put, List.setIfInBounds_toArray, List.set_cons_zero, List.set_cons_succ]
            refine take (i := 26) (d := some 51) (v := .slice (some ⟨b3, o3, none⟩) 8 c3) rfl (by kernel_rfl) (by kernel_rfl) (by kernel_rfl) (by kernel_rfl) (fun _ _ _ h => h) (Or.inl ⟨by rfl, by intro w hSw; obtain ⟨p00, p01, p10, p11, g1, g2, g3, g4⟩ := hSw; go_simp⟩) hHeld ?_
            simp only [Act.put, List.setIfInBounds_toArray, List.set_cons_zero, List.set_cons_succ]
            refine take (i := 27) (d := some 52) (v := .int .i64 k) rfl (by kernel_rfl) (by kernel_rfl) (by kernel_rfl) (by kernel_rfl) (fun _ _ _ h => h) (Or.inl ⟨by rfl, by intro w hSw; go_simp⟩) hHeld ?_
            simp only [Act.put, List.setIfInBounds_toArray, List.set_cons_zero, List.set_cons_succ]
            refine take (i := 28) (d := some 53) (v := .pointer (some ⟨b3, o3 + k, none⟩)) rfl (by kernel_rfl) (by kernel_rfl) (by kernel_rfl) (by kernel_rfl) (fun _ _ _ h => h) (Or.inl ⟨by rfl, by intro w hSw; go_simp⟩) hHeld ?_
            simp only [Act.put, List.setIfInBounds_toArray, List.set_cons_zero, List.set_cons_succ]
            refine take (i := 29) (d := some 54) (v := .int .i64 m3) rfl (by kernel_rfl) (by kernel_rfl) (by kernel_rfl) (by kernel_rfl) (fun _ _ _ h => h) (Or.inl ⟨by rfl, by intro w hSw; obtain ⟨p00, p01, p10, p11, g1, g2, g3, g4⟩ := hSw; go_simp⟩) hHeld ?_
            simp only [Act.put, List.setIfInBounds_toArray, List.set_cons_zero, List.set_cons_succ]
            refine take (i := 30) (d := some 55) (v := .int .i64 j) rfl (by kernel_rfl) (by kernel_rfl) (by kernel_rfl) (by kernel_rfl) (fun _ _ _ h => h) (Or.inl ⟨by rfl, by intro w hSw; go_simp⟩) hHeld ?_
            simp only [Act.put, List.setIfInBounds_toArray, List.set_cons_zero, List.set_cons_succ]
            refine wpAnyH_ready (rs := [24]) (by kernel_rfl) (by simp) (Mi.readyCall2 rfl (by kernel_rfl) 143 (.tmp 47) (.tmp 48) 3 3 (by kernel_rfl) 49 (by kernel_rfl) _ _ (by kernel_rfl) (by kernel_rfl) (fun _ => rfl) (H1.out _) (fun wx hb => by rw [hb]; exact hHeld) (fun wx hb hHeld => ?_) AllReadyH.nil)
            subst hb
            simp only [Act.put, List.setIfInBounds_toArray, List.set_cons_zero, List.set_cons_succ]
            refine wpAnyH_ready (rs := [31]) (by kernel_rfl) (by simp) (Mi.readyCall2 rfl (by kernel_rfl) 143 (.tmp 54) (.tmp 55) 3 3 (by kernel_rfl) 56 (by kernel_rfl) _ _ (by kernel_rfl) (by kernel_rfl) (fun _ => rfl) (H3.out _) (fun wx hb => by rw [hb]; exact hHeld) (fun wx hb hHeld => ?_) AllReadyH.nil)
            subst hb
            simp only [Act.put, List.setIfInBounds_toArray, List.set_cons_zero, List.set_cons_succ]
            refine take (i := 32) (d := some 57) (v := .bool true) rfl (by kernel_rfl) (by kernel_rfl) (by kernel_rfl) (by kernel_rfl) (fun _ _ _ h => h) (Or.inl ⟨by rfl, by intro w hSw; go_simp⟩) hHeld ?_
            simp only [Act.put, List.setIfInBounds_toArray, List.set_cons_zero, List.set_cons_succ]
            refine take (i := 33) (d := some 58) (v := .bool true) rfl (by kernel_rfl) (by kernel_rfl) (by kernel_rfl) (by kernel_rfl) (fun _ _ _ h => h) (Or.inl ⟨by rfl, by intro w hSw; go_simp⟩) hHeld ?_
            simp only [Act.put, List.setIfInBounds_toArray, List.set_cons_zero, List.set_cons_succ]
            refine take (i := 34) (d := some 59) (v := .bool true) rfl (by kernel_rfl) (by kernel_rfl) (by kernel_rfl) (by kernel_rfl) (fun _ _ _ h => h) (Or.inl ⟨by rfl, by intro w hSw; go_simp⟩) hHeld ?_
            simp only [Act.put, List.setIfInBounds_toArray, List.set_cons_zero, List.set_cons_succ]
            refine wpAnyH_done (by kernel_rfl) ?_ _
            go_wp2
            go_ret
            exact ⟨Num.ret_bool (HN.out (fun h => U.out.2 (h U.out.1).2)).symm, hbel.drew⟩
        · have he : j = Bw.fbN k := by omega
          have hjz : ¬ ((j : Int) < (Bw.fbN k : Int)) := by omega
          have HY : Hid (∀ f, f < k + 1 → ∀ i, i < Bw.fbN f → (Bw.bitI (M.getD f 0) i = 1 → Bw.bitI (M'.getD f 0) i = 1 ∧ Bw.bitI (V.getD f 0) i = Bw.bitI (V'.getD f 0) i)) := (fun f hf => by by_cases e : f = k; (· subst e; intro i hi; exact HI.out i (by omega)); (· exact HG.out f (by omega)) : ∀ f, f < k + 1 → ∀ i, i < Bw.fbN f → (Bw.bitI (M.getD f 0) i = 1 → Bw.bitI (M'.getD f 0) i = 1 ∧ Bw.bitI (V.getD f 0) i = Bw.bitI (V'.getD f 0) i))
          clear HI HG he D1 R1 D2 R2 D3 R3 D4 R4
          go_wp2_with (go_at_call 142; refine (HF.out _).mono ?_; rintro e ws ⟨rfl, hb⟩; replace q0 := (hb.block _ (Array.getElem?_eq_some_iff.1 q0).1).trans q0; replace q1 := (hb.block _ (Array.getElem?_eq_some_iff.1 q1).1).trans q1; replace hbel := Rw.next hbel hb; clear hb)
          go_roundw
          case rel => exact ⟨k + 1, by omega, by go_num, hbel, q0, q1, HY.out⟩
          case measure => simp [intOf]; omega
    · have he : k = 8 := by omega
      subst he
      clear D1 R1 D2 R2 D3 R3 D4 R4
      go_wp2
      go_ret
      exact ⟨Num.ret_bool (HR.out.2 HG.out).symm, hbo⟩

end Go.Proofs.Ytcbhpmgjmpbpmaa.Mc
namespace Go.Proofs.Ytcbhpmgjmpbpmaa.Lc
set_option maxRecDepth 8000
open Go Go.RowKit
open Num Pl Hr Hh Hf Hg Pa Pm Po Pe Rg Lb Bw
set_option linter.unusedVariables false

/-- What a right match says of its places. -/
theorem at_ok {V M : List Int} (h : matchB V M = true) {k : Nat} (hk : k < 8) :
    fits k (M.getD k 0) = true ∧ 0 ≤ V.getD k 0 ∧ (V.getD k 0).toNat ||| (M.getD k 0).toNat = (M.getD k 0).toNat ∧ 0 ≤ M.getD k 0 ∧ M.getD k 0 < 281474976710656 ∧ V.getD k 0 < 281474976710656 := by
  unfold matchB at h
  simp only [Bool.and_eq_true, decide_eq_true_eq] at h
  have := uptoP_at h.2 k hk
  unfold pairB at this
  simp only [Bool.and_eq_true, decide_eq_true_eq] at this
  obtain ⟨h1, h2, h3⟩ := this
  have hm := fits_lt h1
  have hv : (V.getD k 0).toNat ≤ (M.getD k 0).toNat := by rw [← h3]; exact Nat.left_le_or
  exact ⟨h1, h2, h3, hm.1, hm.2, by omega⟩
theorem bounds {V M : List Int} (h : matchB V M = true) : (∀ k, k < 8 → 0 ≤ V.getD k 0 ∧ V.getD k 0 < 281474976710656) ∧ (∀ k, k < 8 → 0 ≤ M.getD k 0 ∧ M.getD k 0 < 281474976710656) :=
  ⟨fun k hk => by have := at_ok h hk; exact ⟨this.2.1, this.2.2.2.2.2⟩, fun k hk => by have := at_ok h hk; exact ⟨this.2.2.2.1, this.2.2.2.2.1⟩⟩
theorem and_nat {a b : Int} (ha : 0 ≤ a) (ha' : a < 281474976710656) (hb : 0 ≤ b) (hb' : b < 281474976710656) : bits .and .i64 a b = ((a.toNat &&& b.toNat : Nat) : Int) := Bu.and_int ha (by omega) hb (by omega)
theorem cast_eq {x : Nat} {b : Int} (hb : 0 ≤ b) : (x : Int) = b ↔ x = b.toNat := by omega

/-- What the program asks of two right matches, field by field, is what the specification asks bit by bit. -/
theorem covers_iff {V M V' M' : List Int} (h : matchB V M = true) (h' : matchB V' M' = true) :
    sameB (fun k => bits .and .i64 (nth V' k) (nth M k)) (fun k => bits .and .i64 (nth M' k) (nth M k)) (nth V) (nth M) = true ↔ ∀ f, f < 8 → ∀ i, i < fbN f → (bitI (M.getD f 0) i = 1 → bitI (M'.getD f 0) i = 1 ∧ bitI (V.getD f 0) i = bitI (V'.getD f 0) i) := by
  rw [sameB_iff]
  have key : ∀ f, f < 8 → ((bits .and .i64 (nth V' f) (nth M f) = nth V f ∧ bits .and .i64 (nth M' f) (nth M f) = nth M f) ↔ ∀ i, i < fbN f → (bitI (M.getD f 0) i = 1 → bitI (M'.getD f 0) i = 1 ∧ bitI (V.getD f 0) i = bitI (V'.getD f 0) i)) := by
    intro f hf
    obtain ⟨a1, a2, a3, a4, a5, a6⟩ := at_ok h hf
    obtain ⟨b1, b2, b3, b4, b5, b6⟩ := at_ok h' hf
    unfold nth
    rw [and_nat b2 b6 a4 a5, and_nat b4 b5 a4 a5, cast_eq a2, cast_eq a4]
    have := Bt.covers_iff (bV := (V'.getD f 0).toNat) (bM := (M'.getD f 0).toNat) a3 (fits_pow a1)
    simp only [bit_iff, bit_eq_iff]
    rw [this, Nat.and_comm (M'.getD f 0).toNat]
    exact and_comm
  exact ⟨fun q f hf => (key f hf).1 (q f hf), fun q f hf => (key f hf).2 (q f hf)⟩

set_option maxHeartbeats 1000000 in
theorem cov_wrong1 (a a' : Option Addr) (n c n' c' : Nat) (p p' : Option Addr) (m d m' d' : Nat) (w : World) (t0 : ∀ w1, Below w.heap.size w w1 → Calls Try.prog 132 #[.agg #[.slice a n c, .slice a' n' c']] w1 fun e w' => e = .returned (.bool false) ∧ Below w1.heap.size w1 w') :
    Calls Try.prog 58 #[.agg #[.slice a n c, .slice a' n' c'], .agg #[.slice p m d, .slice p' m' d']] w fun e w' => e = .returned (.bool false) ∧ Below w.heap.size w w' := by
  have T0 : Hid (∀ w1, Below w.heap.size w w1 → Calls Try.prog 132 #[.agg #[.slice a n c, .slice a' n' c']] w1 fun e w' => e = .returned (.bool false) ∧ Below w1.heap.size w1 w') := t0
  obtain ⟨W0, hW0⟩ : ∃ W0, W0 = ((w.alloc (.cells #[.slice a n c, .slice a' n' c'] 25)).alloc (.cells #[.slice p m d, .slice p' m' d'] 25)) := ⟨_, rfl⟩
  have B : Below w.heap.size w W0 := by subst hW0; exact Mi.below2 _ _ _
  clear t0
  go_enter Try.func58, Try.ntmps58
  go_wp2_with (go_at_call 132; rw [← hW0]; refine (T0.out _ B).mono ?_; rintro e wa ⟨rfl, hb⟩; replace B := Rw.next B hb)
  go_ret
  exact ⟨rfl, B⟩

set_option maxHeartbeats 1000000 in
theorem cov_wrong2 (a a' : Option Addr) (n c n' c' : Nat) (p p' : Option Addr) (m d m' d' : Nat) (w : World) (t0 : ∀ w1, Below w.heap.size w w1 → Calls Try.prog 132 #[.agg #[.slice a n c, .slice a' n' c']] w1 fun e w' => e = .returned (.bool true) ∧ Below w1.heap.size w1 w') (t1 : ∀ w1, Below w.heap.size w w1 → Calls Try.prog 132 #[.agg #[.slice p m d, .slice p' m' d']] w1 fun e w' => e = .returned (.bool false) ∧ Below w1.heap.size w1 w') :
    Calls Try.prog 58 #[.agg #[.slice a n c, .slice a' n' c'], .agg #[.slice p m d, .slice p' m' d']] w fun e w' => e = .returned (.bool false) ∧ Below w.heap.size w w' := by
  have T0 : Hid (∀ w1, Below w.heap.size w w1 → Calls Try.prog 132 #[.agg #[.slice a n c, .slice a' n' c']] w1 fun e w' => e = .returned (.bool true) ∧ Below w1.heap.size w1 w') := t0
  have T1 : Hid (∀ w1, Below w.heap.size w w1 → Calls Try.prog 132 #[.agg #[.slice p m d, .slice p' m' d']] w1 fun e w' => e = .returned (.bool false) ∧ Below w1.heap.size w1 w') := t1
  obtain ⟨W0, hW0⟩ : ∃ W0, W0 = ((w.alloc (.cells #[.slice a n c, .slice a' n' c'] 25)).alloc (.cells #[.slice p m d, .slice p' m' d'] 25)) := ⟨_, rfl⟩
  have B : Below w.heap.size w W0 := by subst hW0; exact Mi.below2 _ _ _
  clear t0 t1
  have k1 : W0.heap[w.heap.size + 1]? = some (.cells #[.slice p m d, .slice p' m' d'] 25 (0, 0)) := by subst hW0; exact at_new (by simp)
  have tok1 : True := trivial
  go_enter Try.func58, Try.ntmps58
  go_wp2_with (first
    | (go_at_call 132; clear tok1; rw [← hW0]; refine (T0.out _ B).mono ?_; rintro e wa ⟨rfl, hb⟩; replace k1 := (hb.block _ (Array.getElem?_eq_some_iff.1 k1).1).trans k1; obtain ⟨q0, q1⟩ := two k1; replace B := Rw.next B hb; clear hb; have tok2 : True := trivial)
    | (go_at_call 132; clear tok2; refine (T1.out _ B).mono ?_; rintro e wb ⟨rfl, hb⟩; replace B := Rw.next B hb))
  go_ret
  exact ⟨rfl, B⟩

theorem okT {V M : List Int} {a a' : Option Addr} {b o b' o' : Nat} (c c' : Nat) {w : World} (h1 : Rd w a b o V) (h2 : Rd w a' b' o' M) (wV : Wide V) {P : Bool} (hP : matchB V M = P) :
    ∀ w1, Below w.heap.size w w1 → Calls Try.prog 132 #[.agg #[.slice a V.length c, .slice a' M.length c']] w1 fun e w' => e = .returned (.bool P) ∧ Below w1.heap.size w1 w' := by
  intro w1 hb
  have := Ms.okS_any a a' b o c b' o' c' V M w1 (h1.below hb) (h2.below hb) wV
  rw [hP] at this
  exact this

theorem coversS_any {V M V' M' : List Int} (wV : Wide V) (wV' : Wide V') :
    CMM 58 V M V' M' (Bo ((matchB V M && matchB V' M') && sameB (fun k => bits .and .i64 (pv V' M' k) (pm V M k)) (fun k => bits .and .i64 (pm V' M' k) (pm V M k)) (pv V M) (pm V M))) := by
  intro a a' b o c b' o' c' p p' q r s q' r' s' w h1 h2 h3 h4
  cases h : matchB V M with
  | false => exact cov_wrong1 _ _ _ _ _ _ _ _ _ _ _ _ w (okT c c' h1 h2 wV h)
  | true =>
    cases h' : matchB V' M' with
    | false => exact cov_wrong2 _ _ _ _ _ _ _ _ _ _ _ _ w (okT c c' h1 h2 wV h) (okT s s' h3 h4 wV' h')
    | true =>
      obtain ⟨l1, l2⟩ := lens h
      obtain ⟨l3, l4⟩ := lens h'
      obtain ⟨d1, d2⟩ := bounds h
      obtain ⟨d3, d4⟩ := bounds h'
      have t0 := okT c c' h1 h2 wV h
      have t1 := okT s s' h3 h4 wV' h'
      obtain rfl := rd_some h1 l1
      obtain rfl := rd_some h2 l2
      obtain rfl := rd_some h3 l3
      obtain rfl := rd_some h4 l4
      have g1 := h1.cell; have g2 := h2.cell; have g3 := h3.cell; have g4 := h4.cell
      rw [l1] at t0 g1; rw [l2] at t0 g2; rw [l3] at t1 g3; rw [l4] at t1 g4
      rw [l1, l2, l3, l4, pv_yes h, pm_yes h, pv_yes h', pm_yes h']
      exact Mc.coversS b o c b' o' c' q r s q' r' s' V M V' M' w g1 g2 g3 g4 d1 d2 d3 d4 t0 t1 _ (covers_iff h h')

theorem coversR (V M V' M' : List Int) (wV : Wide V) (_wM : Wide M) (wV' : Wide V') (_wM' : Wide M') : ∃ R, CMM 57 V M V' M' (Bo R) ∧ CMM 58 V M V' M' (Bo R) :=
  ⟨_, fun a a' b o c b' o' c' p p' q r s q' r' s' w h1 h2 h3 h4 => Mi.covers_l a a' p p' _ _ _ _ c c' s s' _ _ _ _ _ w (Mi.two_any c c' s s' h1 h2 wV h3 h4 wV'), coversS_any wV wV'⟩

end Go.Proofs.Ytcbhpmgjmpbpmaa.Lc
namespace Go.Proofs.Ytcbhpmgjmpbpmaa.Mi
set_option maxRecDepth 8000
open Go Go.RowKit
open Num Pl Hr Hh Hf Hg Pa Pm Po Pq Pe
set_option maxHeartbeats 1000000 in
theorem ok_any (aV aM : Option Addr) (bV oV cV bM oM cM : Nat) (V M : List Int) (w : World) (hV : Rd w aV bV oV V) (hM : Rd w aM bM oM M) (hW : Wide V) :
    Calls Try.prog 121 #[.agg #[.slice aV V.length cV, .slice aM M.length cM]] w fun e w' => e = .returned (.bool (matchB V M)) ∧ Below w.heap.size w w' := by
  have B := below_alloc1 w (.cells #[.slice aV V.length cV, .slice aM M.length cM] 25)
  have hp := pairs_any aV aM bV oV cV bM oM cM V M _ (hV.below B) (hM.below B) hW
  have HP : Hid (Calls Try.prog 110 #[.agg #[.slice aV V.length cV, .slice aM M.length cM]] (w.alloc (.cells #[.slice aV V.length cV, .slice aM M.length cM] 25)) fun e w' => e = .returned (.tuple #[.agg (enc (pv V M) (pm V M)), .bool (matchB V M)]) ∧ Below (w.alloc (.cells #[.slice aV V.length cV, .slice aM M.length cM] 25)).heap.size (w.alloc (.cells #[.slice aV V.length cV, .slice aM M.length cM] 25)) w') := hp
  clear hp hV hM hW
  go_enter Try.func121, Try.ntmps121
  go_wp2_with (first
    | (go_at_call 110; refine HP.out.mono ?_; rintro e wa ⟨rfl, hb⟩; replace B := Rw.next B hb; clear hb)
    | (refine store66 rfl _ _ rfl rfl rfl (has_zero rfl) (fun w1 hX hS => ?_)))
  go_ret
  exact ⟨rfl, hS.below (Rw.next B (below_alloc1 _ _)) B.size⟩

set_option maxHeartbeats 2000000 in
theorem same_l (a1 a2 a3 a4 : Option Addr) (n1 n2 n3 n4 c1 c2 c3 c4 : Nat) (x y x' y' : Nat → Int) (q : Bool) (w : World) (h : Two a1 a2 a3 a4 n1 n2 n3 n4 c1 c2 c3 c4 x y x' y' q w) :
    Calls Try.prog 124 #[.agg #[.slice a1 n1 c1, .slice a2 n2 c2], .agg #[.slice a3 n3 c3, .slice a4 n4 c4]] w fun e w' => e = .returned (.bool (q && sameB x y x' y')) ∧ Below w.heap.size w w' := by
  have heq := fun w => eql_any x y x' y' w
  have hgd := guard66
  generalize sameB x y x' y' = R at heq ⊢
  cases q with
  | true =>
    have HT : Hid (Two a1 a2 a3 a4 n1 n2 n3 n4 c1 c2 c3 c4 x y x' y' true w) := h
    obtain ⟨W0, hW0⟩ : ∃ W0, W0 = ((w.alloc (.cells #[.slice a1 n1 c1, .slice a2 n2 c2] 25)).alloc (.cells #[.slice a3 n3 c3, .slice a4 n4 c4] 25)) := ⟨_, rfl⟩
    have B : Below w.heap.size w W0 := by subst hW0; exact below2 _ _ _
    clear h
    have tok1 : True := trivial
    go_enter Try.func124, Try.ntmps124
    go_wp2_with (first
      | (go_at_call 140; rw [← hW0]; clear hW0; refine (HT.out _ B).mono ?_; rintro e wa ⟨rfl, hb⟩; have ZB := Nat.le_trans B.size hb.size; replace B := Rw.next B hb; clear hb HT)
      | (clear tok1; refine store66 rfl _ _ rfl rfl rfl (has_old (has_zero rfl)) (fun w1 hX hS => ?_); have hZ := hS.has (has_zero (g := wa.heap.size + 1) (by simp)) (by simp); replace B := hS.below (Rw.next B (below2 _ _ _)) B.size; have tok2 : True := trivial; clear hS)
      | (clear tok2; refine store66 rfl _ _ rfl rfl rfl hZ (fun w2 hY hS => ?_); replace hX := hS.has hX (by simp); replace B := hS.below B (Nat.le_succ_of_le ZB); clear hS hZ)
      | (refine load66g rfl _ rfl rfl hX ?_)
      | (refine load66g rfl _ rfl rfl hY ?_))
    go_ret
    exact ⟨rfl, B⟩
  | false =>
    have HT : Hid (Two a1 a2 a3 a4 n1 n2 n3 n4 c1 c2 c3 c4 x y x' y' false w) := h
    obtain ⟨W0, hW0⟩ : ∃ W0, W0 = ((w.alloc (.cells #[.slice a1 n1 c1, .slice a2 n2 c2] 25)).alloc (.cells #[.slice a3 n3 c3, .slice a4 n4 c4] 25)) := ⟨_, rfl⟩
    have B : Below w.heap.size w W0 := by subst hW0; exact below2 _ _ _
    clear h
    have tok1 : True := trivial
    go_enter Try.func124, Try.ntmps124
    go_wp2_with (first
      | (go_at_call 140; rw [← hW0]; clear hW0; refine (HT.out _ B).mono ?_; rintro e wa ⟨rfl, hb⟩; have ZB := Nat.le_trans B.size hb.size; replace B := Rw.next B hb; clear hb HT)
      | (clear tok1; refine store66 rfl _ _ rfl rfl rfl (has_old (has_zero rfl)) (fun w1 hX hS => ?_); have hZ := hS.has (has_zero (g := wa.heap.size + 1) (by simp)) (by simp); replace B := hS.below (Rw.next B (below2 _ _ _)) B.size; have tok2 : True := trivial; clear hS)
      | (clear tok2; refine store66 rfl _ _ rfl rfl rfl hZ (fun w2 hY hS => ?_); replace hX := hS.has hX (by simp); replace B := hS.below B (Nat.le_succ_of_le ZB); clear hS hZ))
    go_ret
    exact ⟨rfl, B⟩

end Go.Proofs.Ytcbhpmgjmpbpmaa.Mi
namespace Go.Proofs.Ytcbhpmgjmpbpmaa.Mt
set_option maxRecDepth 8000
open Go Go.RowKit
open Num Pl Hr Hh Hf Hg Pa Pm Po
set_option maxHeartbeats 1000000 in
theorem same_any (a a' : Option Addr) (b off cap b' off' cap' : Nat) (l m : List Int) (w : World) (h : Rd w a b off l) (h' : Rd w a' b' off' m) :
    Calls Try.prog 202 #[.slice a l.length cap, .slice a' m.length cap'] w fun e w' => e = .returned (.bool (decide (l = m))) ∧ Below w.heap.size w w' := by
  obtain ⟨hh, hc, hs⟩ := h
  obtain ⟨hh', hc', hs'⟩ := h'
  by_cases hl : l.length = m.length
  · obtain ⟨n, hn⟩ : ∃ n, n = l.length := ⟨_, rfl⟩
    rw [← hl] at hh' hc' ⊢
    rw [← hn] at hh hc hs hh' hc' ⊢
    have HN : Hid (n = l.length) := hn
    have HL : Hid (l.length = m.length) := hl
    clear hn hl hs'
    go_enter Try.func202, Try.ntmps202
    go_wp2
    go_loopw [13] (fun i wr => ∃ k : Nat, k ≤ n ∧ i = .int .i64 k ∧ Below w.heap.size w wr ∧ ∀ i, i < k → l.getD i 0 = m.getD i 0) (fun i _ => n - (intOf i).toNat)
    case atStart => exact ⟨0, Nat.zero_le _, rfl, Below.refl _ _, fun i hi => by omega⟩
    case round =>
      obtain ⟨k, hk, rfl, hbel, hsame⟩ := hrel
      have HSA : Hid (∀ i, i < k → l.getD i 0 = m.getD i 0) := hsame
      clear hsame
      by_cases hlt : k < n
      · obtain rfl := hh (by omega)
        obtain rfl := hh' (by omega)
        have hkz : (k : Int) < (n : Int) := by omega
        have g0 : wr.cell? ⟨b, off + k, none⟩ = some (.int .i64 (l.getD k 0)) := (hbel.cell (World.block_lt_of_cell? _ _ (hc k hlt))).trans (hc k hlt)
        have g1 : wr.cell? ⟨b', off' + k, none⟩ = some (.int .i64 (m.getD k 0)) := (hbel.cell (World.block_lt_of_cell? _ _ (hc' k hlt))).trans (hc' k hlt)
        generalize e1 : l.getD k 0 = x at g0
        generalize e2 : m.getD k 0 = y at g1
        have H1 : Hid (l.getD k 0 = x) := e1
        have H2 : Hid (m.getD k 0 = y) := e2
        clear e1 e2 hc hc' hh hh'
        by_cases hxy : x = y
        · subst hxy
          go_wp2
          go_region
          all_goals go_wp2
          all_goals go_roundw
          case rel => exact ⟨k + 1, by omega, by go_num, by repeat (first | exact hbel | apply Below.drew), fun i hi => by
            by_cases e : i = k
            · subst e; exact H1.out.trans H2.out.symm
            · exact HSA.out i (by omega)⟩
          case measure => simp [intOf]; omega
        · have hne : (x != y) = true := by simpa using hxy
          go_wp2
          go_region
          all_goals go_wp2
          go_ret
          exact ⟨Num.ret_bool (Rw.ne_of_getD (k := k) (by rw [H1.out, H2.out]; exact hxy)).symm, by repeat (first | exact hbel | apply Below.drew)⟩
      · have he : k = n := by omega
        subst he
        go_wp2
        go_ret
        have := HN.out
        subst this
        exact ⟨Num.ret_bool (by simpa using Rw.ext_getD HL.out HSA.out), hbel⟩
  · have hne : ((l.length : Int) != (m.length : Int)) = true := by simp; omega
    go_enter Try.func202, Try.ntmps202
    go_wp2
    go_ret
    exact ⟨Num.ret_bool (by simp; intro e; subst e; exact hl rfl), Below.refl _ _⟩

set_option maxHeartbeats 2000000 in
theorem sameS_any (aV aM : Option Addr) (bV oV cV bM oM cM : Nat) (aV' aM' : Option Addr) (bV' oV' cV' bM' oM' cM' : Nat) (V M V' M' : List Int) (w : World) (hV : Rd w aV bV oV V) (hM : Rd w aM bM oM M) (hV' : Rd w aV' bV' oV' V') (hM' : Rd w aM' bM' oM' M') (hW : Wide V) (hW' : Wide V') :
    Calls Try.prog 178 #[.agg #[.slice aV V.length cV, .slice aM M.length cM], .agg #[.slice aV' V'.length cV', .slice aM' M'.length cM']] w fun e w' => e = .returned (.bool (matchB V M && matchB V' M' && (decide (V = V') && decide (M = M')))) ∧ Below w.heap.size w w' := by
  obtain ⟨W0, hW0⟩ : ∃ W0, W0 = (w.alloc (.cells #[.slice aV V.length cV, .slice aM M.length cM] 25)).alloc (.cells #[.slice aV' V'.length cV', .slice aM' M'.length cM'] 25) := ⟨_, rfl⟩
  have B : Below w.heap.size w W0 := by subst hW0; exact Mi.below2 _ _ _
  have k0 : W0.heap[w.heap.size]? = some (.cells #[.slice aV V.length cV, .slice aM M.length cM] 25 (0, 0)) := by subst hW0; rw [at_old (by simp), at_new rfl]
  have k1 : W0.heap[w.heap.size + 1]? = some (.cells #[.slice aV' V'.length cV', .slice aM' M'.length cM'] 25 (0, 0)) := by subst hW0; exact at_new (by simp)
  replace hV := hV.below B
  replace hM := hM.below B
  replace hV' := hV'.below B
  replace hM' := hM'.below B
  have tok1 : True := trivial
  generalize e1 : matchB V M = P
  generalize e2 : matchB V' M' = P'
  generalize e3 : decide (V = V') = D
  have E1 : Hid (matchB V M = P) := e1
  have E2 : Hid (matchB V' M' = P') := e2
  have E3 : Hid (decide (V = V') = D) := e3
  clear e1 e2 e3
  cases P with
  | false =>
    go_enter Try.func178, Try.ntmps178
    go_wp2_with (first
      | (go_at_call 132; clear tok1; rw [← hW0]; refine (Ms.okS_any _ _ _ _ _ _ _ _ V M _ hV hM hW).mono ?_; rw [E1.out]; rintro e wa ⟨rfl, hb⟩; replace k0 := (hb.block _ (Array.getElem?_eq_some_iff.1 k0).1).trans k0; replace k1 := (hb.block _ (Array.getElem?_eq_some_iff.1 k1).1).trans k1; obtain ⟨p0, p1⟩ := two k0; obtain ⟨q0, q1⟩ := two k1; replace hV := hV.below hb; replace hM := hM.below hb; replace hV' := hV'.below hb; replace hM' := hM'.below hb; replace B := Rw.next B hb; clear hb; have tok2 : True := trivial))
    go_ret
    exact ⟨Num.ret_bool (rfl), B⟩
  | true =>
    cases P' with
    | false =>
      go_enter Try.func178, Try.ntmps178
      go_wp2_with (first
        | (go_at_call 132; clear tok1; rw [← hW0]; refine (Ms.okS_any _ _ _ _ _ _ _ _ V M _ hV hM hW).mono ?_; rw [E1.out]; rintro e wa ⟨rfl, hb⟩; replace k0 := (hb.block _ (Array.getElem?_eq_some_iff.1 k0).1).trans k0; replace k1 := (hb.block _ (Array.getElem?_eq_some_iff.1 k1).1).trans k1; obtain ⟨p0, p1⟩ := two k0; obtain ⟨q0, q1⟩ := two k1; replace hV := hV.below hb; replace hM := hM.below hb; replace hV' := hV'.below hb; replace hM' := hM'.below hb; replace B := Rw.next B hb; clear hb; have tok2 : True := trivial)
        | (go_at_call 132; clear tok2; refine (Ms.okS_any _ _ _ _ _ _ _ _ V' M' _ hV' hM' hW').mono ?_; rw [E2.out]; rintro e wb ⟨rfl, hb⟩; clear p0 p1 q0 q1; replace k0 := (hb.block _ (Array.getElem?_eq_some_iff.1 k0).1).trans k0; replace k1 := (hb.block _ (Array.getElem?_eq_some_iff.1 k1).1).trans k1; obtain ⟨p0, p1⟩ := two k0; obtain ⟨q0, q1⟩ := two k1; replace hV := hV.below hb; replace hM := hM.below hb; replace hV' := hV'.below hb; replace hM' := hM'.below hb; replace B := Rw.next B hb; clear hb; have tok3 : True := trivial))
      go_ret
      exact ⟨Num.ret_bool (rfl), B⟩
    | true =>
      cases D with
      | false =>
        go_enter Try.func178, Try.ntmps178
        go_wp2_with (first
          | (go_at_call 132; clear tok1; rw [← hW0]; refine (Ms.okS_any _ _ _ _ _ _ _ _ V M _ hV hM hW).mono ?_; rw [E1.out]; rintro e wa ⟨rfl, hb⟩; replace k0 := (hb.block _ (Array.getElem?_eq_some_iff.1 k0).1).trans k0; replace k1 := (hb.block _ (Array.getElem?_eq_some_iff.1 k1).1).trans k1; obtain ⟨p0, p1⟩ := two k0; obtain ⟨q0, q1⟩ := two k1; replace hV := hV.below hb; replace hM := hM.below hb; replace hV' := hV'.below hb; replace hM' := hM'.below hb; replace B := Rw.next B hb; clear hb; have tok2 : True := trivial)
          | (go_at_call 132; clear tok2; refine (Ms.okS_any _ _ _ _ _ _ _ _ V' M' _ hV' hM' hW').mono ?_; rw [E2.out]; rintro e wb ⟨rfl, hb⟩; clear p0 p1 q0 q1; replace k0 := (hb.block _ (Array.getElem?_eq_some_iff.1 k0).1).trans k0; replace k1 := (hb.block _ (Array.getElem?_eq_some_iff.1 k1).1).trans k1; obtain ⟨p0, p1⟩ := two k0; obtain ⟨q0, q1⟩ := two k1; replace hV := hV.below hb; replace hM := hM.below hb; replace hV' := hV'.below hb; replace hM' := hM'.below hb; replace B := Rw.next B hb; clear hb; have tok3 : True := trivial)
          | (go_at_call 202; clear tok3; refine (same_any _ _ _ _ _ _ _ _ V V' _ hV hV').mono ?_; rw [E3.out]; rintro e wc ⟨rfl, hb⟩; clear p0 p1 q0 q1; replace k0 := (hb.block _ (Array.getElem?_eq_some_iff.1 k0).1).trans k0; replace k1 := (hb.block _ (Array.getElem?_eq_some_iff.1 k1).1).trans k1; obtain ⟨p0, p1⟩ := two k0; obtain ⟨q0, q1⟩ := two k1; replace hV := hV.below hb; replace hM := hM.below hb; replace hV' := hV'.below hb; replace hM' := hM'.below hb; replace B := Rw.next B hb; clear hb; have tok4 : True := trivial))
        go_ret
        exact ⟨Num.ret_bool (rfl), B⟩
      | true =>
        go_enter Try.func178, Try.ntmps178
        go_wp2_with (first
          | (go_at_call 132; clear tok1; rw [← hW0]; refine (Ms.okS_any _ _ _ _ _ _ _ _ V M _ hV hM hW).mono ?_; rw [E1.out]; rintro e wa ⟨rfl, hb⟩; replace k0 := (hb.block _ (Array.getElem?_eq_some_iff.1 k0).1).trans k0; replace k1 := (hb.block _ (Array.getElem?_eq_some_iff.1 k1).1).trans k1; obtain ⟨p0, p1⟩ := two k0; obtain ⟨q0, q1⟩ := two k1; replace hV := hV.below hb; replace hM := hM.below hb; replace hV' := hV'.below hb; replace hM' := hM'.below hb; replace B := Rw.next B hb; clear hb; have tok2 : True := trivial)
          | (go_at_call 132; clear tok2; refine (Ms.okS_any _ _ _ _ _ _ _ _ V' M' _ hV' hM' hW').mono ?_; rw [E2.out]; rintro e wb ⟨rfl, hb⟩; clear p0 p1 q0 q1; replace k0 := (hb.block _ (Array.getElem?_eq_some_iff.1 k0).1).trans k0; replace k1 := (hb.block _ (Array.getElem?_eq_some_iff.1 k1).1).trans k1; obtain ⟨p0, p1⟩ := two k0; obtain ⟨q0, q1⟩ := two k1; replace hV := hV.below hb; replace hM := hM.below hb; replace hV' := hV'.below hb; replace hM' := hM'.below hb; replace B := Rw.next B hb; clear hb; have tok3 : True := trivial)
          | (go_at_call 202; clear tok3; refine (same_any _ _ _ _ _ _ _ _ V V' _ hV hV').mono ?_; rw [E3.out]; rintro e wc ⟨rfl, hb⟩; clear p0 p1 q0 q1; replace k0 := (hb.block _ (Array.getElem?_eq_some_iff.1 k0).1).trans k0; replace k1 := (hb.block _ (Array.getElem?_eq_some_iff.1 k1).1).trans k1; obtain ⟨p0, p1⟩ := two k0; obtain ⟨q0, q1⟩ := two k1; replace hV := hV.below hb; replace hM := hM.below hb; replace hV' := hV'.below hb; replace hM' := hM'.below hb; replace B := Rw.next B hb; clear hb; have tok4 : True := trivial)
          | (go_at_call 202; clear tok4; refine (same_any _ _ _ _ _ _ _ _ M M' _ hM hM').mono ?_; rintro e wd ⟨rfl, hb⟩; replace B := Rw.next B hb; clear hb))
        go_ret
        exact ⟨Num.ret_bool (rfl), B⟩

end Go.Proofs.Ytcbhpmgjmpbpmaa.Mt
namespace Go.Proofs.Ytcbhpmgjmpbpmaa.La
set_option maxRecDepth 8000
open Go Go.RowKit
open Num Pl Hr Hh Pm Po Rg
theorem okB (V M : List Int) (wV : Wide V) (_wM : Wide M) : ∃ R, CM 121 V M (Bo R) ∧ CM 132 V M (Bo R) :=
  ⟨matchB V M, fun a a' b o c b' o' c' w h1 h2 => Mi.ok_any a a' b o c b' o' c' V M w h1 h2 wV, fun a a' b o c b' o' c' w h1 h2 => Ms.okS_any a a' b o c b' o' c' V M w h1 h2 wV⟩

end Go.Proofs.Ytcbhpmgjmpbpmaa.La
namespace Go.Proofs.Ytcbhpmgjmpbpmaa.Lb
set_option maxRecDepth 8000
open Go Go.RowKit
open Num Pl Hr Hh Pa Pm Po Pe Rg
theorem sameR (V M V' M' : List Int) (wV : Wide V) (_wM : Wide M) (wV' : Wide V') (_wM' : Wide M') : ∃ R, CMM 124 V M V' M' (Bo R) ∧ CMM 178 V M V' M' (Bo R) :=
  ⟨_, fun a a' b o c b' o' c' p p' q r s q' r' s' w h1 h2 h3 h4 => Mi.same_l a a' p p' _ _ _ _ c c' s s' _ _ _ _ _ w (Mi.two_any c c' s s' h1 h2 wV h3 h4 wV'),
    fun a a' b o c b' o' c' p p' q r s q' r' s' w h1 h2 h3 h4 => by rw [same_eq]; exact Mt.sameS_any a a' b o c b' o' c' p p' q r s q' r' s' V M V' M' w h1 h2 h3 h4 wV wV'⟩

end Go.Proofs.Ytcbhpmgjmpbpmaa.Lb
namespace Go.Proofs.Ytcbhpmgjmpbpmaa.Yc
set_option maxRecDepth 8000
open Go Go.RowKit
open Num Pl Yb

def agg3 (x : A3) : Value := .agg #[.int .i64 x.1, .int .i64 x.2.1, .int .i64 x.2.2]
/-- The program's value of an action: a type a kind. -/
def actV (x : A3) : Value :=
  if x.1 = 1 then .iface 208 (.agg #[.int .i64 x.2.1]) else if x.1 = 2 then .iface 210 (.agg #[]) else if x.1 = 3 then .iface 212 (.agg #[.int .i64 x.2.1, .int .i64 x.2.2])
  else if x.1 = 4 then .iface 213 (.agg #[]) else if x.1 = 5 then .iface 214 (.agg #[]) else .nilIface
/-- What the program asks of it. -/
def rightB (x : A3) : Bool :=
  if x.1 = 1 then decide (1 ≤ x.2.1 ∧ x.2.1 ≤ 255) else if x.1 = 2 then true else if x.1 = 3 then decide (x.2.1 = 1 ∨ x.2.1 = 2) && Hg.fits x.2.1 x.2.2
  else if x.1 = 4 then true else if x.1 = 5 then true else false

set_option maxHeartbeats 1000000 in
theorem kind_any (x : A3) (w : World) :
    Calls Try.prog 211 #[agg3 x] w fun e w' => e = .returned (actV x) ∧ Below w.heap.size w w' := by
  obtain ⟨k, a, b⟩ := x
  simp only [agg3, actV]
  by_cases h1 : k = 1
  · subst h1
    go_enter Try.func211, Try.ntmps211
    go_wp2
    go_ret
    exact ⟨rfl, below_alloc1 _ _⟩
  by_cases h2 : k = 2
  · subst h2
    go_enter Try.func211, Try.ntmps211
    go_wp2
    go_ret
    exact ⟨rfl, below_alloc1 _ _⟩
  by_cases h3 : k = 3
  · subst h3
    go_enter Try.func211, Try.ntmps211
    go_wp2
    go_ret
    exact ⟨rfl, below_alloc1 _ _⟩
  by_cases h4 : k = 4
  · subst h4
    go_enter Try.func211, Try.ntmps211
    go_wp2
    go_ret
    exact ⟨rfl, below_alloc1 _ _⟩
  by_cases h5 : k = 5
  · subst h5
    go_enter Try.func211, Try.ntmps211
    go_wp2
    go_ret
    exact ⟨rfl, below_alloc1 _ _⟩
  have e1 : (k == 1) = false := by simpa using h1
  have e2 : (k == 2) = false := by simpa using h2
  have e3 : (k == 3) = false := by simpa using h3
  have e4 : (k == 4) = false := by simpa using h4
  have e5 : (k == 5) = false := by simpa using h5
  rw [if_neg h1, if_neg h2, if_neg h3, if_neg h4, if_neg h5]
  go_enter Try.func211, Try.ntmps211
  go_wp2
  go_ret
  exact ⟨rfl, below_alloc1 _ _⟩

theorem as124_124 (a : Int) (w : World) : (Instr.typeAssert (.iface 208 (.agg #[.int .i64 a])) 202 208 true).run Try.prog w = .ok (.tuple #[.agg #[.int .i64 a], .bool true]) w := by kernel_rfl
theorem as124_127 (a : Int) (w : World) : (Instr.typeAssert (.iface 208 (.agg #[.int .i64 a])) 202 210 true).run Try.prog w = .ok (.tuple #[.agg #[], .bool false]) w := by kernel_rfl
theorem as124_129 (a : Int) (w : World) : (Instr.typeAssert (.iface 208 (.agg #[.int .i64 a])) 202 212 true).run Try.prog w = .ok (.tuple #[.agg #[.int .i64 0, .int .i64 0], .bool false]) w := by kernel_rfl
theorem as127_124 (w : World) : (Instr.typeAssert (.iface 210 (.agg #[])) 202 208 true).run Try.prog w = .ok (.tuple #[.agg #[.int .i64 0], .bool false]) w := by kernel_rfl
theorem as127_127 (w : World) : (Instr.typeAssert (.iface 210 (.agg #[])) 202 210 true).run Try.prog w = .ok (.tuple #[.agg #[], .bool true]) w := by kernel_rfl
theorem as127_129 (w : World) : (Instr.typeAssert (.iface 210 (.agg #[])) 202 212 true).run Try.prog w = .ok (.tuple #[.agg #[.int .i64 0, .int .i64 0], .bool false]) w := by kernel_rfl
theorem as129_124 (a b : Int) (w : World) : (Instr.typeAssert (.iface 212 (.agg #[.int .i64 a, .int .i64 b])) 202 208 true).run Try.prog w = .ok (.tuple #[.agg #[.int .i64 0], .bool false]) w := by kernel_rfl
theorem as129_127 (a b : Int) (w : World) : (Instr.typeAssert (.iface 212 (.agg #[.int .i64 a, .int .i64 b])) 202 210 true).run Try.prog w = .ok (.tuple #[.agg #[], .bool false]) w := by kernel_rfl
theorem as129_129 (a b : Int) (w : World) : (Instr.typeAssert (.iface 212 (.agg #[.int .i64 a, .int .i64 b])) 202 212 true).run Try.prog w = .ok (.tuple #[.agg #[.int .i64 a, .int .i64 b], .bool true]) w := by kernel_rfl
theorem as139_124 (w : World) : (Instr.typeAssert (.iface 213 (.agg #[])) 202 208 true).run Try.prog w = .ok (.tuple #[.agg #[.int .i64 0], .bool false]) w := by kernel_rfl
theorem as139_127 (w : World) : (Instr.typeAssert (.iface 213 (.agg #[])) 202 210 true).run Try.prog w = .ok (.tuple #[.agg #[], .bool false]) w := by kernel_rfl
theorem as139_129 (w : World) : (Instr.typeAssert (.iface 213 (.agg #[])) 202 212 true).run Try.prog w = .ok (.tuple #[.agg #[.int .i64 0, .int .i64 0], .bool false]) w := by kernel_rfl
theorem as140_124 (w : World) : (Instr.typeAssert (.iface 214 (.agg #[])) 202 208 true).run Try.prog w = .ok (.tuple #[.agg #[.int .i64 0], .bool false]) w := by kernel_rfl
theorem as140_127 (w : World) : (Instr.typeAssert (.iface 214 (.agg #[])) 202 210 true).run Try.prog w = .ok (.tuple #[.agg #[], .bool false]) w := by kernel_rfl
theorem as140_129 (w : World) : (Instr.typeAssert (.iface 214 (.agg #[])) 202 212 true).run Try.prog w = .ok (.tuple #[.agg #[.int .i64 0, .int .i64 0], .bool false]) w := by kernel_rfl

/-- The port's edges, in place. -/
theorem port_any (n : Int) (w : World) : Calls Try.prog 214 #[.int .i64 n] w fun e w' => e = .returned (.bool (decide (1 ≤ n ∧ n ≤ 255))) ∧ w' = w := by
  by_cases h1 : 1 ≤ n
  · by_cases h2 : n ≤ 255
    · go_enter Try.func214, Try.ntmps214
      go_wp2
      go_ret
      exact ⟨ret_bool (by simp [h1, h2]), rfl⟩
    · go_enter Try.func214, Try.ntmps214
      go_wp2
      go_ret
      exact ⟨ret_bool (by simp [h2]), rfl⟩
  · go_enter Try.func214, Try.ntmps214
    go_wp2
    go_ret
    exact ⟨ret_bool (by simp; omega), rfl⟩

set_option maxHeartbeats 1000000 in
theorem right1 (a : Int) (w : World) :
    Calls Try.prog 212 #[.iface 208 (.agg #[.int .i64 a])] w fun e w' => e = .returned (.bool (decide (1 ≤ a ∧ a ≤ 255))) ∧ Below w.heap.size w w' := by
  have q1 := as124_124 a w
  go_enter Try.func212, Try.ntmps212
  go_wp2_with (go_at_call 214; refine (port_any _ _).mono ?_; rintro e w' ⟨rfl, hw⟩; replace hw := hw.symm; subst hw)
  go_ret
  exact ⟨ret_bool (by simp), below_alloc1 _ _⟩
theorem right2 (w : World) :
    Calls Try.prog 212 #[.iface 210 (.agg #[])] w fun e w' => e = .returned (.bool true) ∧ Below w.heap.size w w' := by
  have q1 := as127_124 w
  have q2 := as127_129 w
  go_enter Try.func212, Try.ntmps212
  go_wp2
  go_ret
  exact ⟨rfl, Below.refl _ _⟩
theorem right4 (w : World) :
    Calls Try.prog 212 #[.iface 213 (.agg #[])] w fun e w' => e = .returned (.bool true) ∧ Below w.heap.size w w' := by
  have q1 := as139_124 w
  have q2 := as139_129 w
  go_enter Try.func212, Try.ntmps212
  go_wp2
  go_ret
  exact ⟨rfl, Below.refl _ _⟩
theorem right5 (w : World) :
    Calls Try.prog 212 #[.iface 214 (.agg #[])] w fun e w' => e = .returned (.bool true) ∧ Below w.heap.size w w' := by
  have q1 := as140_124 w
  have q2 := as140_129 w
  go_enter Try.func212, Try.ntmps212
  go_wp2
  go_ret
  exact ⟨rfl, Below.refl _ _⟩
theorem right6 (w : World) :
    Calls Try.prog 212 #[.nilIface] w fun e w' => e = .returned (.bool false) ∧ Below w.heap.size w w' := by
  go_enter Try.func212, Try.ntmps212
  go_wp2
  go_ret
  exact ⟨rfl, Below.refl _ _⟩
set_option maxHeartbeats 1000000 in
theorem right3 (a b : Int) (w : World) :
    Calls Try.prog 212 #[.iface 212 (.agg #[.int .i64 a, .int .i64 b])] w fun e w' => e = .returned (.bool (decide (a = 1 ∨ a = 2) && Hg.fits a b)) ∧ Below w.heap.size w w' := by
  have q1 := as129_124 a b w
  have q2 := as129_129 a b w
  by_cases h1 : a = 1
  · subst h1
    generalize hR : Hg.fits 1 b = R
    have HR : Hid (Hg.fits 1 b = R) := hR
    clear hR
    go_enter Try.func212, Try.ntmps212
    go_wp2_with (go_at_call 201; refine (Hg.implFits_any _ _ _).mono ?_; rw [HR.out]; rintro e w' ⟨rfl, hw⟩; replace hw := hw.symm; subst hw)
    go_ret
    exact ⟨ret_bool (by simp), below_alloc1 _ _⟩
  by_cases h2 : a = 2
  · subst h2
    generalize hR : Hg.fits 2 b = R
    have HR : Hid (Hg.fits 2 b = R) := hR
    clear hR
    go_enter Try.func212, Try.ntmps212
    go_wp2_with (go_at_call 201; refine (Hg.implFits_any _ _ _).mono ?_; rw [HR.out]; rintro e w' ⟨rfl, hw⟩; replace hw := hw.symm; subst hw)
    go_ret
    exact ⟨ret_bool (by simp), below_alloc1 _ _⟩
  have e1 : (a == 1) = false := by simpa using h1
  have e2 : (a == 2) = false := by simpa using h2
  go_enter Try.func212, Try.ntmps212
  go_wp2
  go_ret
  exact ⟨ret_bool (by simp [h1, h2]), below_alloc1 _ _⟩

theorem act1 (a : Int) (w : World) : Calls Try.prog 230 #[.agg #[.int .i64 a]] w fun e w' => e = .returned (.agg #[.int .i64 1, .int .i64 a, .int .i64 0]) ∧ Below w.heap.size w w' := by
  go_enter Try.func230, Try.ntmps230
  go_wp2
  exact bodyPost_ret (v := .agg #[.int .i64 1, .int .i64 a, .int .i64 0]) (by simp [results, Try.results230, go_sem]) rfl ⟨rfl, Rw.next (below_alloc1 _ _) (below_alloc1 _ _)⟩
theorem act2 (w : World) : Calls Try.prog 231 #[.agg #[]] w fun e w' => e = .returned (.agg #[.int .i64 2, .int .i64 0, .int .i64 0]) ∧ Below w.heap.size w w' := by
  go_enter Try.func231, Try.ntmps231
  go_wp2
  exact bodyPost_ret (v := .agg #[.int .i64 2, .int .i64 0, .int .i64 0]) (by simp [results, Try.results231, go_sem]) rfl ⟨rfl, Rw.next (below_alloc1 _ _) (below_alloc1 _ _)⟩
theorem act3 (a b : Int) (w : World) : Calls Try.prog 232 #[.agg #[.int .i64 a, .int .i64 b]] w fun e w' => e = .returned (.agg #[.int .i64 3, .int .i64 a, .int .i64 b]) ∧ Below w.heap.size w w' := by
  go_enter Try.func232, Try.ntmps232
  go_wp2
  exact bodyPost_ret (v := .agg #[.int .i64 3, .int .i64 a, .int .i64 b]) (by simp [results, Try.results232, go_sem]) rfl ⟨rfl, Rw.next (below_alloc1 _ _) (below_alloc1 _ _)⟩
theorem act4 (w : World) : Calls Try.prog 233 #[.agg #[]] w fun e w' => e = .returned (.agg #[.int .i64 4, .int .i64 0, .int .i64 0]) ∧ Below w.heap.size w w' := by
  go_enter Try.func233, Try.ntmps233
  go_wp2
  exact bodyPost_ret (v := .agg #[.int .i64 4, .int .i64 0, .int .i64 0]) (by simp [results, Try.results233, go_sem]) rfl ⟨rfl, Rw.next (below_alloc1 _ _) (below_alloc1 _ _)⟩
theorem act5 (w : World) : Calls Try.prog 234 #[.agg #[]] w fun e w' => e = .returned (.agg #[.int .i64 5, .int .i64 0, .int .i64 0]) ∧ Below w.heap.size w w' := by
  go_enter Try.func234, Try.ntmps234
  go_wp2
  exact bodyPost_ret (v := .agg #[.int .i64 5, .int .i64 0, .int .i64 0]) (by simp [results, Try.results234, go_sem]) rfl ⟨rfl, Rw.next (below_alloc1 _ _) (below_alloc1 _ _)⟩

end Go.Proofs.Ytcbhpmgjmpbpmaa.Yc
namespace Go.Proofs.Ytcbhpmgjmpbpmaa.Yf
set_option maxRecDepth 8000
open Go Go.RowKit
open Num Pl Pq Yb Yc

theorem callI {md : Region.Mode} {ops : Array Oper} {Q : Exit → Act → World → Prop} {S : World → Prop} {fuel : Nat} {listed : Array Bool} {a : Act} {w : World} {i : Nat} {o : Oper} {rs : List Nat} (hi : ops[i]? = some o) (hw : Region.wanted o (yielded ops a.tmps) = true)
    (f : FuncId) (x : Operand) {nm : String} (hop : o.op = Op.call { callee := Callee.invoke x nm, args := #[], argTypes := #[] }) (d : Tmp) (hd : o.dst = some d)
    (u v : Value) (hx : a.eval x = u) (he : ∀ w, (invoke (.fn (.method nm) #[]) #[u]).run Try.prog w = .ok (.enter f #[v]) w) {R : Ending → World → Prop} (hc : Calls Try.prog f #[v] w R)
    (hk : ∀ e w', R e w' → ∃ v, e = .returned v ∧ S w' ∧ (S w' → wpAnyH Try.prog md ops Q S fuel (listed.setIfInBounds i true) (a.put (some d) v) w'))
    (hs : AllReadyH Try.prog md ops Q S fuel listed a w rs) : AllReadyH Try.prog md ops Q S fuel listed a w (i :: rs) :=
  AllReadyH.cons hi (fun K hK => by
    rw [if_pos hw]
    unfold Oper.wp
    simp [execOp, hop, resolve, hx, he w]
    refine hc.mono ?_
    intro e w' hr
    obtain ⟨v, rfl, h1, h2⟩ := hk e w' hr
    exact hK.out _ _ h1 (fun hs' => by rw [hd]; exact h2 hs')) hs

theorem right1y {a : Int} (h : 1 ≤ a ∧ a ≤ 255) (w : World) : Calls Try.prog 212 #[.iface 208 (.agg #[.int .i64 a])] w fun e w' => e = .returned (.bool true) ∧ Below w.heap.size w w' := by
  have := right1 a w; rw [decide_eq_true h] at this; exact this
theorem right1n {a : Int} (h : ¬ (1 ≤ a ∧ a ≤ 255)) (w : World) : Calls Try.prog 212 #[.iface 208 (.agg #[.int .i64 a])] w fun e w' => e = .returned (.bool false) ∧ Below w.heap.size w w' := by
  have := right1 a w; rw [decide_eq_false h] at this; exact this
theorem right3b {a b : Int} {R : Bool} (h : (decide (a = 1 ∨ a = 2) && Hg.fits a b) = R) (w : World) : Calls Try.prog 212 #[.iface 212 (.agg #[.int .i64 a, .int .i64 b])] w fun e w' => e = .returned (.bool R) ∧ Below w.heap.size w w' := by
  have := right3 a b w; rw [h] at this; exact this
end Go.Proofs.Ytcbhpmgjmpbpmaa.Yf
