/-
  Texts of one claim, laid together: Mp, Mh, Mc, La, Mt, Lb, Lc, Mq, Yl, Ym, Yn, Yo, Yp, Yq.
-/
import Derived.Test.YtkakdldhinimoaaMo
import Derived.Test.YtkakdldhinimoaaBw
import Derived.Test.YtkakdldhinimoaaRg
import Derived.Test.YtkakdldhinimoaaMs
import Derived.Test.YtkakdldhinimoaaHs
import Derived.Test.YtkakdldhinimoaaYk
import Derived.Test.YtkakdldhinimoaaYa
import Derived.Test.YtkakdldhinimoaaMf
import Derived.Test.YtkakdldhinimoaaLk
namespace Go.Proofs.Ytkakdldhinimoaa.Mp
set_option maxRecDepth 8000
open Go Go.RowKit
open Num Pl Hr Hh Hf Hg Pa Pm Po Pq Mi Bw Mo
set_option linter.unusedSimpArgs false
set_option linter.unusedVariables false

theorem cell_set2 {w : World} {a : Addr} {g i j : Nat} {x y : Value} {v : Option Value} (h : w.cell? a = v) (hne : a.block ≠ g) : ((w.setCell ⟨g, i, none⟩ x).setCell ⟨g, j, none⟩ y).cell? a = v := by
  rw [World.cell?_setCell_other _ _ _ _ (by intro q; exact hne (by rw [← q])), World.cell?_setCell_other _ _ _ _ (by intro q; exact hne (by rw [← q]))]
  exact h
theorem resM_none {w w' : World} (h : Below w.heap.size w w') : ResM w [] [] (.returned (.agg #[.slice none 0 0, .slice none 0 0])) w' :=
  ⟨none, w.heap.size, 0, none, w.heap.size + 1, 0, rfl, Wt.nil _ _ _, Wt.nil _ _ _, Nat.le_refl _, Nat.le_succ _, by omega, h⟩
/-- All bits of a field. -/
def fullI (f : Nat) : Int := topI f (fbN f)

set_option maxHeartbeats 1000000 in
theorem of_no (a : Option Addr) (n c : Nat) (w : World) (t0 : ∀ w1, Below w.heap.size w w1 → Calls Try.prog 41 #[.agg #[.slice a n c]] w1 fun e w' => e = .returned (.bool false) ∧ Below w1.heap.size w1 w') :
    Calls Try.prog 89 #[.agg #[.slice a n c]] w (ResM w [] []) := by
  have T0 : Hid (∀ w1, Below w.heap.size w w1 → Calls Try.prog 41 #[.agg #[.slice a n c]] w1 fun e w' => e = .returned (.bool false) ∧ Below w1.heap.size w1 w') := t0
  obtain ⟨W0, hW0⟩ : ∃ W0, W0 = (w.alloc (.cells #[.slice a n c] 42)).alloc (.cells #[.slice none 0 0, .slice none 0 0] 63) := ⟨_, rfl⟩
  have B : Below w.heap.size w W0 := by subst hW0; exact Mi.below2 _ _ _
  have k1 : W0.heap[w.heap.size + 1]? = some (.cells #[.slice none 0 0, .slice none 0 0] 63 (0, 0)) := by subst hW0; exact at_new (by simp)
  clear t0
  go_enter Try.func89, Try.ntmps89
  go_wp2_with (go_at_call 41; rw [← hW0]; refine (T0.out _ B).mono ?_; rintro e wa ⟨rfl, hb⟩; replace k1 := (hb.block _ (Array.getElem?_eq_some_iff.1 k1).1).trans k1; obtain ⟨r0, r1⟩ := two k1; have fr := Bl.free k1; replace B := Rw.next B hb; clear hb)
  refine bodyPost_ret (v := .agg #[.slice none 0 0, .slice none 0 0]) (by simp [results, Try.results89, go_sem, r0, r1]) rfl (resM_none ?_)
  exact bset (bset B (by omega)) (by omega)

set_option maxHeartbeats 4000000 in
theorem of_yes (b o c : Nat) (H : List Int) (w : World) (r1 : ∀ k, k < 8 → w.cell? ⟨b, o + k, none⟩ = some (.int .i64 (H.getD k 0)))
    (t0 : ∀ w1, Below w.heap.size w w1 → Calls Try.prog 41 #[.agg #[.slice (some ⟨b, o, none⟩) 8 c]] w1 fun e w' => e = .returned (.bool true) ∧ Below w1.heap.size w1 w') :
    Calls Try.prog 89 #[.agg #[.slice (some ⟨b, o, none⟩) 8 c]] w (ResM w (lst (nth H)) (lst fullI)) := by
  have T0 : Hid (∀ w1, Below w.heap.size w w1 → Calls Try.prog 41 #[.agg #[.slice (some ⟨b, o, none⟩) 8 c]] w1 fun e w' => e = .returned (.bool true) ∧ Below w1.heap.size w1 w') := t0
  have R1 : Hid (∀ k, k < 8 → w.cell? ⟨b, o + k, none⟩ = some (.int .i64 (H.getD k 0))) := r1
  obtain ⟨W0, hW0⟩ : ∃ W0, W0 = (w.alloc (.cells #[.slice (some ⟨b, o, none⟩) 8 c] 42)).alloc (.cells #[.slice none 0 0, .slice none 0 0] 63) := ⟨_, rfl⟩
  have B : Below w.heap.size w W0 := by subst hW0; exact Mi.below2 _ _ _
  have k0 : W0.heap[w.heap.size]? = some (.cells #[.slice (some ⟨b, o, none⟩) 8 c] 42 (0, 0)) := by subst hW0; rw [at_old (by simp), at_new rfl]
  have k1 : W0.heap[w.heap.size + 1]? = some (.cells #[.slice none 0 0, .slice none 0 0] 63 (0, 0)) := by subst hW0; exact at_new (by simp)
  clear t0 r1
  go_enter Try.func89, Try.ntmps89
  go_wp2_with (go_at_call 41; rw [← hW0]; refine (T0.out _ B).mono ?_; rintro e wa ⟨rfl, hb⟩; replace k0 := (hb.block _ (Array.getElem?_eq_some_iff.1 k0).1).trans k0; replace k1 := (hb.block _ (Array.getElem?_eq_some_iff.1 k1).1).trans k1; replace B := Rw.next B hb; clear hb)
  clear hW0 T0
  have z0 := (Array.getElem?_eq_some_iff.1 k0).1
  have z1 := (Array.getElem?_eq_some_iff.1 k1).1
  have hA : Has (wa.alloc (.cells #[.int .i64 0, .int .i64 0, .int .i64 0, .int .i64 0, .int .i64 0, .int .i64 0, .int .i64 0, .int .i64 0, .int .i64 0, .int .i64 0, .int .i64 0, .int .i64 0, .int .i64 0, .int .i64 0, .int .i64 0, .int .i64 0] 106)) wa.heap.size nul nul := has_zero rfl
  have B1 : Below w.heap.size w (wa.alloc (.cells #[.int .i64 0, .int .i64 0, .int .i64 0, .int .i64 0, .int .i64 0, .int .i64 0, .int .i64 0, .int .i64 0, .int .i64 0, .int .i64 0, .int .i64 0, .int .i64 0, .int .i64 0, .int .i64 0, .int .i64 0, .int .i64 0] 106)) := Rw.next B (below_alloc1 _ _)
  replace k0 := (at_old (o := .cells #[.int .i64 0, .int .i64 0, .int .i64 0, .int .i64 0, .int .i64 0, .int .i64 0, .int .i64 0, .int .i64 0, .int .i64 0, .int .i64 0, .int .i64 0, .int .i64 0, .int .i64 0, .int .i64 0, .int .i64 0, .int .i64 0] 106) z0).trans k0
  replace k1 := (at_old (o := .cells #[.int .i64 0, .int .i64 0, .int .i64 0, .int .i64 0, .int .i64 0, .int .i64 0, .int .i64 0, .int .i64 0, .int .i64 0, .int .i64 0, .int .i64 0, .int .i64 0, .int .i64 0, .int .i64 0, .int .i64 0, .int .i64 0] 106) z1).trans k1
  obtain ⟨gA, hgA⟩ : ∃ gA, gA = wa.heap.size := ⟨_, rfl⟩
  rw [← hgA] at hA ⊢
  have n0 : w.heap.size ≠ gA := by omega
  have n1 : w.heap.size + 1 ≠ gA := by omega
  have n2 : w.heap.size ≤ gA := by omega
  have HLT : Hid (∀ k, k < 8 → b ≠ gA) := (fun k hk e => by have := World.block_lt_of_cell? _ _ (R1.out k hk); simp at this; omega : ∀ k, k < 8 → b ≠ gA)
  clear hgA z0 z1 B
  go_loopw [9] (fun i wr => ∃ k : Nat, k ≤ 8 ∧ i = .int .i64 k ∧ Below w.heap.size w wr ∧ wr.heap[w.heap.size]? = some (.cells #[.slice (some ⟨b, o, none⟩) 8 c] 42 (0, 0)) ∧ wr.heap[w.heap.size + 1]? = some (.cells #[.slice none 0 0, .slice none 0 0] 63 (0, 0)) ∧ Has wr gA (cut (nth H) nul k) (cut fullI nul k)) (fun i _ => 8 - (intOf i).toNat)
  case atStart => exact ⟨0, Nat.zero_le _, rfl, B1, k0, k1, hA.cast (by funext i; simp [cut]) (by funext i; simp [cut])⟩
  case round =>
    obtain ⟨k, hk, rfl, hbel, q0, q1, ha⟩ := hrel
    clear B1 k0 k1 hA
    have z0 := (Array.getElem?_eq_some_iff.1 q0).1
    have z1 := (Array.getElem?_eq_some_iff.1 q1).1
    by_cases hlt : k < 8
    · have hkz : (k : Int) < 8 := by omega
      have g0 : wr.cell? ⟨b, o + k, none⟩ = some (.int .i64 (nth H k)) := (hbel.cell (World.block_lt_of_cell? _ _ (R1.out k hlt))).trans (R1.out k hlt)
      have p0 := one q0
      have nb := HLT.out k hlt
      have Q0 : Hid (wr.heap[w.heap.size]? = some (.cells #[.slice (some ⟨b, o, none⟩) 8 c] 42 (0, 0))) := q0
      have Q1 : Hid (wr.heap[w.heap.size + 1]? = some (.cells #[.slice none 0 0, .slice none 0 0] 63 (0, 0))) := q1
      have HA : Hid (Has wr gA (cut (nth H) nul k) (cut fullI nul k)) := ha
      clear q0 q1 ha
      have HB : Hid (∀ w, Calls Try.prog 106 #[.int .i64 k] w fun e w' => e = .returned (.int .i64 (fbN k : Int)) ∧ w' = w) := (fun w => by have := implBits_any k w; rw [fbN_eq] at this; exact this : ∀ w, Calls Try.prog 106 #[.int .i64 k] w fun e w' => e = .returned (.int .i64 (fbN k : Int)) ∧ w' = w)
      have HT : Hid (∀ w, Calls Try.prog 109 #[.int .i64 k, .int .i64 (fbN k : Int)] w fun e w' => e = .returned (.int .i64 (fullI k)) ∧ Below w.heap.size w w') := (fun w => high_any k (fbN k) hlt (Nat.le_refl _) w : ∀ w, Calls Try.prog 109 #[.int .i64 k, .int .i64 (fbN k : Int)] w fun e w' => e = .returned (.int .i64 (fullI k)) ∧ Below w.heap.size w w')
      have eV : Hid (upd (cut (nth H) nul k) k (nth H k) = cut (nth H) nul (k + 1)) := upd_cut _ _ _
      have eM : Hid (upd (cut fullI nul k) k (fullI k) = cut fullI nul (k + 1)) := upd_cut _ _ _
      generalize (fbN k : Int) = B at HB HT
      generalize nth H k = h at g0 eV
      generalize fullI k = T at HT eM
      go_wp2
      refine wp_region_held_drew (S := (fun w' => w'.cell? ⟨w.heap.size, 0, none⟩ = some (.slice (some ⟨b, o, none⟩) 8 c) ∧ w'.cell? ⟨b, o + k, none⟩ = some (.int .i64 h))) (by kernel_rfl) ⟨p0, g0⟩ (fun hHeld => ?_)
      refine take (i := 0) (d := some 12) (v := .int .i64 k) rfl (by kernel_rfl) (by kernel_rfl) (by kernel_rfl) (by kernel_rfl) (fun _ _ _ h => h) (Or.inl ⟨by rfl, by intro w hSw; go_simp⟩) hHeld ?_
      simp only [Act.put, List.setIfInBounds_toArray, List.set_cons_zero, List.set_cons_succ]
      refine take (i := 1) (d := some 13) (v := .pointer (some ⟨w.heap.size, 0, none⟩)) rfl (by kernel_rfl) (by kernel_rfl) (by kernel_rfl) (by kernel_rfl) (fun _ _ _ h => h) (Or.inl ⟨by rfl, by intro w hSw; go_simp⟩) hHeld ?_
      simp only [Act.put, List.setIfInBounds_toArray, List.set_cons_zero, List.set_cons_succ]
      refine take (i := 2) (d := some 14) (v := .slice (some ⟨b, o, none⟩) 8 c) rfl (by kernel_rfl) (by kernel_rfl) (by kernel_rfl) (by kernel_rfl) (fun _ _ _ h => h) (Or.inl ⟨by rfl, by intro w hSw; obtain ⟨p0, g0⟩ := hSw; go_simp⟩) hHeld ?_
      simp only [Act.put, List.setIfInBounds_toArray, List.set_cons_zero, List.set_cons_succ]
      refine take (i := 3) (d := some 15) (v := .int .i64 k) rfl (by kernel_rfl) (by kernel_rfl) (by kernel_rfl) (by kernel_rfl) (fun _ _ _ h => h) (Or.inl ⟨by rfl, by intro w hSw; go_simp⟩) hHeld ?_
      simp only [Act.put, List.setIfInBounds_toArray, List.set_cons_zero, List.set_cons_succ]
      refine take (i := 4) (d := some 16) (v := .pointer (some ⟨b, o + k, none⟩)) rfl (by kernel_rfl) (by kernel_rfl) (by kernel_rfl) (by kernel_rfl) (fun _ _ _ h => h) (Or.inl ⟨by rfl, by intro w hSw; go_simp⟩) hHeld ?_
      simp only [Act.put, List.setIfInBounds_toArray, List.set_cons_zero, List.set_cons_succ]
      refine take (i := 5) (d := some 17) (v := .int .i64 h) rfl (by kernel_rfl) (by kernel_rfl) (by kernel_rfl) (by kernel_rfl) (fun _ _ _ h => h) (Or.inl ⟨by rfl, by intro w hSw; obtain ⟨p0, g0⟩ := hSw; go_simp⟩) hHeld ?_
      simp only [Act.put, List.setIfInBounds_toArray, List.set_cons_zero, List.set_cons_succ]
      refine take (i := 6) (d := some 18) (v := .int .i64 k) rfl (by kernel_rfl) (by kernel_rfl) (by kernel_rfl) (by kernel_rfl) (fun _ _ _ h => h) (Or.inl ⟨by rfl, by intro w hSw; go_simp⟩) hHeld ?_
      simp only [Act.put, List.setIfInBounds_toArray, List.set_cons_zero, List.set_cons_succ]
      refine take (i := 7) (d := some 19) (v := .int .i64 k) rfl (by kernel_rfl) (by kernel_rfl) (by kernel_rfl) (by kernel_rfl) (fun _ _ _ h => h) (Or.inl ⟨by rfl, by intro w hSw; go_simp⟩) hHeld ?_
      simp only [Act.put, List.setIfInBounds_toArray, List.set_cons_zero, List.set_cons_succ]
      refine wpAnyH_ready (rs := [8]) (by kernel_rfl) (by simp) (Rg.call1 rfl (by kernel_rfl) 106 (.tmp 19) 3 (by kernel_rfl) 20 (by kernel_rfl) (.int .i64 k) (by kernel_rfl) (fun _ => rfl) (HB.out _) ?_ AllReadyH.nil)
      rintro e wq ⟨rfl, hwq⟩
      subst hwq
      refine ⟨_, rfl, hHeld, fun hHeld => ?_⟩
      simp only [Act.put, List.setIfInBounds_toArray, List.set_cons_zero, List.set_cons_succ]
      refine wpAnyH_ready (rs := [9]) (by kernel_rfl) (by simp) (Rg.call2 rfl (by kernel_rfl) 109 (.tmp 18) (.tmp 20) 3 3 (by kernel_rfl) 21 (by kernel_rfl) (.int .i64 k) (.int .i64 B) (by kernel_rfl) (by kernel_rfl) (fun _ => rfl) (HT.out _) ?_ AllReadyH.nil)
      rintro e wq ⟨rfl, hb⟩
      replace p0 := (hb.cell (World.block_lt_of_cell? _ _ p0)).trans p0
      replace g0 := (hb.cell (World.block_lt_of_cell? _ _ g0)).trans g0
      refine ⟨_, rfl, ⟨p0, g0⟩, fun hHeld => ?_⟩
      simp only [Act.put, List.setIfInBounds_toArray, List.set_cons_zero, List.set_cons_succ]
      have hA1 := (HA.out.drew).below hb
      refine take (i := 10) (d := some 22) (v := .agg #[.int .i64 h, .int .i64 T]) rfl (by kernel_rfl) (by kernel_rfl) (by kernel_rfl) (by kernel_rfl) (fun _ _ _ h => h) (Or.inl ⟨by rfl, by intro w hSw; go_simp⟩) hHeld ?_
      simp only [Act.put, List.setIfInBounds_toArray, List.set_cons_zero, List.set_cons_succ]
      refine take (i := 11) (d := some 23) (v := .pointer (some ⟨gA, k * 2, none⟩)) rfl (by kernel_rfl) (by kernel_rfl) (by kernel_rfl) (by kernel_rfl) (fun _ _ _ h => h) (Or.inl ⟨by rfl, by intro w hSw; go_simp⟩) hHeld ?_
      simp only [Act.put, List.setIfInBounds_toArray, List.set_cons_zero, List.set_cons_succ]
      refine wpAnyH_ready (rs := [12]) (by kernel_rfl) (by simp) (Mo.ready64 (g := gA) (k := k) (p := h) (q := T) rfl (by kernel_rfl) (.tmp 23) (.tmp 22) (by kernel_rfl) (by kernel_rfl) (by kernel_rfl) (by kernel_rfl) hA1 hlt ⟨cell_set2 p0 (by omega), cell_set2 g0 (by omega)⟩ (fun hHeld => ?_) AllReadyH.nil)
      simp only [Act.put, List.setIfInBounds_toArray, List.set_cons_zero, List.set_cons_succ]
      refine wpAnyH_done (by kernel_rfl) ?_ _
      go_wp2
      go_roundw
      case rel => exact ⟨k + 1, by omega, by go_num, bset (bset (Rw.next hbel.drew hb) n2) n2, blk_set (blk_set ((hb.block _ z0).trans Q0.out) n0) n0, blk_set (blk_set ((hb.block _ z1).trans Q1.out) n1) n1, ((hA1.set_v hlt _).set_m hlt _).cast eV.out eM.out⟩
      case measure => simp [intOf]; omega
    · have he : k = 8 := by omega
      subst he
      have e8 : lst (cut (nth H) nul 8) = lst (nth H) := by unfold lst; apply List.map_congr_left; intro i hi; simp at hi; simp [cut, hi]
      have e9 : lst (cut fullI nul 8) = lst fullI := by unfold lst; apply List.map_congr_left; intro i hi; simp at hi; simp [cut, hi]
      have E8 : Hid (lst (cut (nth H) nul 8) = lst (nth H)) := e8
      have E9 : Hid (lst (cut fullI nul 8) = lst fullI) := e9
      clear e8 e9 q0 HLT R1
      have sW := hbel.size
      go_wp2_with (first
        | (refine load66 rfl _ rfl rfl ha ?_)
        | (go_at_call 85; refine (match_any _ _ _).mono ?_; rw [E8.out, E9.out]; rintro e w6 ⟨aV, gV, cV, aM, gM, cM, rfl, hV, hM, l1, l2, l3, hb⟩; replace q1 := (hb.block _ z1).trans q1; replace hbel := Rw.next hbel hb; obtain ⟨r0, r1⟩ := two q1; have fr := Bl.free q1; clear hb))
      refine bodyPost_ret (v := .agg #[.slice aV (lst _).length cV, .slice aM (lst _).length cM]) (by simp [results, Try.results89, go_sem, r0, r1]) rfl ⟨aV, gV, cV, aM, gM, cM, rfl, ?_, ?_, by omega, by omega, l3, ?_⟩
      · exact Mj.wt_set2 (Mj.wt_set2 hV (by omega)) (by omega)
      · exact Mj.wt_set2 (Mj.wt_set2 hM (by omega)) (by omega)
      · exact bset (bset hbel (by omega)) (by omega)

end Go.Proofs.Ytkakdldhinimoaa.Mp

namespace Go.Proofs.Ytkakdldhinimoaa.Mh
set_option maxRecDepth 8000
open Go Go.RowKit
open Num Pl Hr Hh Hf Hg Pa Pm Po Pq
set_option linter.unusedSimpArgs false
set_option linter.unusedVariables false

end Go.Proofs.Ytkakdldhinimoaa.Mh

namespace Go.Proofs.Ytkakdldhinimoaa.Mc
set_option maxRecDepth 8000
open Go Go.RowKit
open Num Pl Hr Hh Hf Hg Pa Pm Po Pq
set_option linter.unusedSimpArgs false
set_option linter.unusedVariables false

set_option maxHeartbeats 8000000 in
theorem coversS (b1 o1 c1 : Nat) (b2 o2 c2 : Nat) (b3 o3 c3 : Nat) (b4 o4 c4 : Nat) (V M V' M' : List Int) (w : World)
    (r1 : ∀ k, k < 8 → w.cell? ⟨b1, o1 + k, none⟩ = some (.int .i64 (V.getD k 0))) (r2 : ∀ k, k < 8 → w.cell? ⟨b2, o2 + k, none⟩ = some (.int .i64 (M.getD k 0))) (r3 : ∀ k, k < 8 → w.cell? ⟨b3, o3 + k, none⟩ = some (.int .i64 (V'.getD k 0))) (r4 : ∀ k, k < 8 → w.cell? ⟨b4, o4 + k, none⟩ = some (.int .i64 (M'.getD k 0)))
    (d1 : ∀ k, k < 8 → 0 ≤ V.getD k 0 ∧ V.getD k 0 < 281474976710656) (d2 : ∀ k, k < 8 → 0 ≤ M.getD k 0 ∧ M.getD k 0 < 281474976710656) (d3 : ∀ k, k < 8 → 0 ≤ V'.getD k 0 ∧ V'.getD k 0 < 281474976710656) (d4 : ∀ k, k < 8 → 0 ≤ M'.getD k 0 ∧ M'.getD k 0 < 281474976710656)
    (t0 : ∀ w1, Below w.heap.size w w1 → Calls Try.prog 78 #[.agg #[.slice (some ⟨b1, o1, none⟩) 8 c1, .slice (some ⟨b2, o2, none⟩) 8 c2]] w1 fun e w' => e = .returned (.bool true) ∧ Below w1.heap.size w1 w')
    (t1 : ∀ w1, Below w.heap.size w w1 → Calls Try.prog 78 #[.agg #[.slice (some ⟨b3, o3, none⟩) 8 c3, .slice (some ⟨b4, o4, none⟩) 8 c4]] w1 fun e w' => e = .returned (.bool true) ∧ Below w1.heap.size w1 w')
    (R : Bool) (hR : R = true ↔ ∀ f, f < 8 → ∀ i, i < Bw.fbN f → (Bw.bitI (M.getD f 0) i = 1 → Bw.bitI (M'.getD f 0) i = 1 ∧ Bw.bitI (V.getD f 0) i = Bw.bitI (V'.getD f 0) i)) :
    Calls Try.prog 51 #[.agg #[.slice (some ⟨b1, o1, none⟩) 8 c1, .slice (some ⟨b2, o2, none⟩) 8 c2], .agg #[.slice (some ⟨b3, o3, none⟩) 8 c3, .slice (some ⟨b4, o4, none⟩) 8 c4]] w fun e w' => e = .returned (.bool R) ∧ Below w.heap.size w w' := by
  have R1 : Hid (∀ k, k < 8 → w.cell? ⟨b1, o1 + k, none⟩ = some (.int .i64 (V.getD k 0))) := r1
  have D1 : Hid (∀ k, k < 8 → 0 ≤ V.getD k 0 ∧ V.getD k 0 < 281474976710656) := d1
  have R2 : Hid (∀ k, k < 8 → w.cell? ⟨b2, o2 + k, none⟩ = some (.int .i64 (M.getD k 0))) := r2
  have D2 : Hid (∀ k, k < 8 → 0 ≤ M.getD k 0 ∧ M.getD k 0 < 281474976710656) := d2
  have R3 : Hid (∀ k, k < 8 → w.cell? ⟨b3, o3 + k, none⟩ = some (.int .i64 (V'.getD k 0))) := r3
  have D3 : Hid (∀ k, k < 8 → 0 ≤ V'.getD k 0 ∧ V'.getD k 0 < 281474976710656) := d3
  have R4 : Hid (∀ k, k < 8 → w.cell? ⟨b4, o4 + k, none⟩ = some (.int .i64 (M'.getD k 0))) := r4
  have D4 : Hid (∀ k, k < 8 → 0 ≤ M'.getD k 0 ∧ M'.getD k 0 < 281474976710656) := d4
  have T0 : Hid (∀ w1, Below w.heap.size w w1 → Calls Try.prog 78 #[.agg #[.slice (some ⟨b1, o1, none⟩) 8 c1, .slice (some ⟨b2, o2, none⟩) 8 c2]] w1 fun e w' => e = .returned (.bool true) ∧ Below w1.heap.size w1 w') := t0
  have T1 : Hid (∀ w1, Below w.heap.size w w1 → Calls Try.prog 78 #[.agg #[.slice (some ⟨b3, o3, none⟩) 8 c3, .slice (some ⟨b4, o4, none⟩) 8 c4]] w1 fun e w' => e = .returned (.bool true) ∧ Below w1.heap.size w1 w') := t1
  have HR : Hid (R = true ↔ ∀ f, f < 8 → ∀ i, i < Bw.fbN f → (Bw.bitI (M.getD f 0) i = 1 → Bw.bitI (M'.getD f 0) i = 1 ∧ Bw.bitI (V.getD f 0) i = Bw.bitI (V'.getD f 0) i)) := hR
  clear hR t0 t1 r1 d1 r2 d2 r3 d3 r4 d4
  obtain ⟨W0, hW0⟩ : ∃ W0, W0 = (w.alloc (.cells #[.slice (some ⟨b1, o1, none⟩) 8 c1, .slice (some ⟨b2, o2, none⟩) 8 c2] 63)).alloc (.cells #[.slice (some ⟨b3, o3, none⟩) 8 c3, .slice (some ⟨b4, o4, none⟩) 8 c4] 63) := ⟨_, rfl⟩
  have B : Below w.heap.size w W0 := by subst hW0; exact Mi.below2 _ _ _
  have k0 : W0.heap[w.heap.size]? = some (.cells #[.slice (some ⟨b1, o1, none⟩) 8 c1, .slice (some ⟨b2, o2, none⟩) 8 c2] 63 (0, 0)) := by subst hW0; rw [at_old (by simp), at_new rfl]
  have k1 : W0.heap[w.heap.size + 1]? = some (.cells #[.slice (some ⟨b3, o3, none⟩) 8 c3, .slice (some ⟨b4, o4, none⟩) 8 c4] 63 (0, 0)) := by subst hW0; exact at_new (by simp)
  have tok1 : True := trivial
  go_enter Try.func51, Try.ntmps51
  go_wp2_with (first
    | (go_at_call 78; clear tok1; rw [← hW0]; refine (T0.out _ B).mono ?_; rintro e wa ⟨rfl, hb⟩; replace k0 := (hb.block _ (Array.getElem?_eq_some_iff.1 k0).1).trans k0; replace k1 := (hb.block _ (Array.getElem?_eq_some_iff.1 k1).1).trans k1; obtain ⟨p00, p01⟩ := two k0; obtain ⟨p10, p11⟩ := two k1; replace B := Rw.next B hb; clear hb; have tok2 : True := trivial)
    | (go_at_call 78; clear tok2; refine (T1.out _ B).mono ?_; rintro e wb ⟨rfl, hb⟩; clear p00 p01 p10 p11; replace k0 := (hb.block _ (Array.getElem?_eq_some_iff.1 k0).1).trans k0; replace k1 := (hb.block _ (Array.getElem?_eq_some_iff.1 k1).1).trans k1; obtain ⟨p00, p01⟩ := two k0; obtain ⟨p10, p11⟩ := two k1; replace B := Rw.next B hb; clear hb))
  clear p00 p01 p10 p11 hW0 T0 T1
  go_loopw [5] (fun i wr => ∃ k : Nat, k ≤ 8 ∧ i = .int .i64 k ∧ Below w.heap.size w wr ∧ wr.heap[w.heap.size]? = some (.cells #[.slice (some ⟨b1, o1, none⟩) 8 c1, .slice (some ⟨b2, o2, none⟩) 8 c2] 63 (0, 0)) ∧ wr.heap[w.heap.size + 1]? = some (.cells #[.slice (some ⟨b3, o3, none⟩) 8 c3, .slice (some ⟨b4, o4, none⟩) 8 c4] 63 (0, 0)) ∧ ∀ f, f < k → ∀ i, i < Bw.fbN f → (Bw.bitI (M.getD f 0) i = 1 → Bw.bitI (M'.getD f 0) i = 1 ∧ Bw.bitI (V.getD f 0) i = Bw.bitI (V'.getD f 0) i)) (fun i _ => 8 - (intOf i).toNat)
  case atStart => exact ⟨0, Nat.zero_le _, rfl, B, k0, k1, fun f hf => by omega⟩
  case round =>
    obtain ⟨k, hk, rfl, hbo, q0, q1, hgo⟩ := hrel
    have HG : Hid (∀ f, f < k → ∀ i, i < Bw.fbN f → (Bw.bitI (M.getD f 0) i = 1 → Bw.bitI (M'.getD f 0) i = 1 ∧ Bw.bitI (V.getD f 0) i = Bw.bitI (V'.getD f 0) i)) := hgo
    clear hgo B k0 k1
    by_cases hlt : k < 8
    · have hkz : (k : Int) < 8 := by omega
      have h48 := Bw.fbN_le k
      have HF : Hid (∀ w, Calls Try.prog 80 #[.int .i64 k] w fun e w' => e = .returned (.int .i64 (Bw.fbN k : Int)) ∧ Below w.heap.size w w') := (fun w => by have := specBits_any k w; rw [Bw.fbN_eq] at this; exact this : ∀ w, Calls Try.prog 80 #[.int .i64 k] w fun e w' => e = .returned (.int .i64 (Bw.fbN k : Int)) ∧ Below w.heap.size w w')
      go_wp2
      go_loopw [6] (fun i wr => ∃ j : Nat, j ≤ Bw.fbN k ∧ i = .int .i64 j ∧ Below w.heap.size w wr ∧ wr.heap[w.heap.size]? = some (.cells #[.slice (some ⟨b1, o1, none⟩) 8 c1, .slice (some ⟨b2, o2, none⟩) 8 c2] 63 (0, 0)) ∧ wr.heap[w.heap.size + 1]? = some (.cells #[.slice (some ⟨b3, o3, none⟩) 8 c3, .slice (some ⟨b4, o4, none⟩) 8 c4] 63 (0, 0)) ∧ ∀ i, i < j → (Bw.bitI (M.getD k 0) i = 1 → Bw.bitI (M'.getD k 0) i = 1 ∧ Bw.bitI (V.getD k 0) i = Bw.bitI (V'.getD k 0) i)) (fun i _ => Bw.fbN k - (intOf i).toNat)
      case atStart => exact ⟨0, Nat.zero_le _, rfl, hbo, q0, q1, fun i hi => by omega⟩
      case round =>
        obtain ⟨j, hj, rfl, hbel, q0, q1, hgi⟩ := hrel
        have HI : Hid (∀ i, i < j → (Bw.bitI (M.getD k 0) i = 1 → Bw.bitI (M'.getD k 0) i = 1 ∧ Bw.bitI (V.getD k 0) i = Bw.bitI (V'.getD k 0) i)) := hgi
        clear hgi
        by_cases hjl : j < Bw.fbN k
        · have hjz : (j : Int) < (Bw.fbN k : Int) := by omega
          have hj48 : j < 48 := by omega
          go_wp2_with (go_at_call 80; refine (HF.out _).mono ?_; rintro e ws ⟨rfl, hb⟩; replace q0 := (hb.block _ (Array.getElem?_eq_some_iff.1 q0).1).trans q0; replace q1 := (hb.block _ (Array.getElem?_eq_some_iff.1 q1).1).trans q1; replace hbel := Rw.next hbel hb; clear hb)
          have Q0 : Hid (ws.heap[w.heap.size]? = some (.cells #[.slice (some ⟨b1, o1, none⟩) 8 c1, .slice (some ⟨b2, o2, none⟩) 8 c2] 63 (0, 0))) := q0
          have Q1 : Hid (ws.heap[w.heap.size + 1]? = some (.cells #[.slice (some ⟨b3, o3, none⟩) 8 c3, .slice (some ⟨b4, o4, none⟩) 8 c4] 63 (0, 0))) := q1
          obtain ⟨p00, p01⟩ := two q0
          obtain ⟨p10, p11⟩ := two q1
          clear q0 q1
          have g1 : ws.cell? ⟨b1, o1 + k, none⟩ = some (.int .i64 (V.getD k 0)) := (hbel.cell (World.block_lt_of_cell? _ _ (R1.out k hlt))).trans (R1.out k hlt)
          have H1 : Hid (∀ w, Calls Try.prog 81 #[.int .i64 (V.getD k 0), .int .i64 j] w fun e w' => e = .returned (.int .i64 (Bw.bitI (V.getD k 0) j)) ∧ w' = w) := (fun w => Bw.bit_any _ _ (D1.out k hlt).1 (D1.out k hlt).2 hj48 w : ∀ w, Calls Try.prog 81 #[.int .i64 (V.getD k 0), .int .i64 j] w fun e w' => e = .returned (.int .i64 (Bw.bitI (V.getD k 0) j)) ∧ w' = w)
          have y1 := Bw.bit_01 (V.getD k 0) j
          have g2 : ws.cell? ⟨b2, o2 + k, none⟩ = some (.int .i64 (M.getD k 0)) := (hbel.cell (World.block_lt_of_cell? _ _ (R2.out k hlt))).trans (R2.out k hlt)
          have H2 : Hid (∀ w, Calls Try.prog 81 #[.int .i64 (M.getD k 0), .int .i64 j] w fun e w' => e = .returned (.int .i64 (Bw.bitI (M.getD k 0) j)) ∧ w' = w) := (fun w => Bw.bit_any _ _ (D2.out k hlt).1 (D2.out k hlt).2 hj48 w : ∀ w, Calls Try.prog 81 #[.int .i64 (M.getD k 0), .int .i64 j] w fun e w' => e = .returned (.int .i64 (Bw.bitI (M.getD k 0) j)) ∧ w' = w)
          have y2 := Bw.bit_01 (M.getD k 0) j
          have g3 : ws.cell? ⟨b3, o3 + k, none⟩ = some (.int .i64 (V'.getD k 0)) := (hbel.cell (World.block_lt_of_cell? _ _ (R3.out k hlt))).trans (R3.out k hlt)
          have H3 : Hid (∀ w, Calls Try.prog 81 #[.int .i64 (V'.getD k 0), .int .i64 j] w fun e w' => e = .returned (.int .i64 (Bw.bitI (V'.getD k 0) j)) ∧ w' = w) := (fun w => Bw.bit_any _ _ (D3.out k hlt).1 (D3.out k hlt).2 hj48 w : ∀ w, Calls Try.prog 81 #[.int .i64 (V'.getD k 0), .int .i64 j] w fun e w' => e = .returned (.int .i64 (Bw.bitI (V'.getD k 0) j)) ∧ w' = w)
          have y3 := Bw.bit_01 (V'.getD k 0) j
          have g4 : ws.cell? ⟨b4, o4 + k, none⟩ = some (.int .i64 (M'.getD k 0)) := (hbel.cell (World.block_lt_of_cell? _ _ (R4.out k hlt))).trans (R4.out k hlt)
          have H4 : Hid (∀ w, Calls Try.prog 81 #[.int .i64 (M'.getD k 0), .int .i64 j] w fun e w' => e = .returned (.int .i64 (Bw.bitI (M'.getD k 0) j)) ∧ w' = w) := (fun w => Bw.bit_any _ _ (D4.out k hlt).1 (D4.out k hlt).2 hj48 w : ∀ w, Calls Try.prog 81 #[.int .i64 (M'.getD k 0), .int .i64 j] w fun e w' => e = .returned (.int .i64 (Bw.bitI (M'.getD k 0) j)) ∧ w' = w)
          have y4 := Bw.bit_01 (M'.getD k 0) j
          have HN : Hid (¬ (Bw.bitI (M.getD k 0) j = 1 → Bw.bitI (M'.getD k 0) j = 1 ∧ Bw.bitI (V.getD k 0) j = Bw.bitI (V'.getD k 0) j) → R = false) := (fun h => by cases hr : R with | false => rfl | true => exact absurd (HR.out.1 hr k hlt j hjl) h : ¬ (Bw.bitI (M.getD k 0) j = 1 → Bw.bitI (M'.getD k 0) j = 1 ∧ Bw.bitI (V.getD k 0) j = Bw.bitI (V'.getD k 0) j) → R = false)
          have HY : Hid ((Bw.bitI (M.getD k 0) j = 1 → Bw.bitI (M'.getD k 0) j = 1 ∧ Bw.bitI (V.getD k 0) j = Bw.bitI (V'.getD k 0) j) → ∀ i, i < j + 1 → (Bw.bitI (M.getD k 0) i = 1 → Bw.bitI (M'.getD k 0) i = 1 ∧ Bw.bitI (V.getD k 0) i = Bw.bitI (V'.getD k 0) i)) := (fun h i hi => by by_cases e : i = j; (· subst e; exact h); (· exact HI.out i (by omega)) : (Bw.bitI (M.getD k 0) j = 1 → Bw.bitI (M'.getD k 0) j = 1 ∧ Bw.bitI (V.getD k 0) j = Bw.bitI (V'.getD k 0) j) → ∀ i, i < j + 1 → (Bw.bitI (M.getD k 0) i = 1 → Bw.bitI (M'.getD k 0) i = 1 ∧ Bw.bitI (V.getD k 0) i = Bw.bitI (V'.getD k 0) i))
          generalize e1a : Bw.bitI (V.getD k 0) j = x1 at *
          generalize e1b : V.getD k 0 = m1 at H1 g1
          generalize e2a : Bw.bitI (M.getD k 0) j = x2 at *
          generalize e2b : M.getD k 0 = m2 at H2 g2
          generalize e3a : Bw.bitI (V'.getD k 0) j = x3 at *
          generalize e3b : V'.getD k 0 = m3 at H3 g3
          generalize e4a : Bw.bitI (M'.getD k 0) j = x4 at *
          generalize e4b : M'.getD k 0 = m4 at H4 g4
          clear e1a e1b e2a e2b e3a e3b e4a e4b
          clear HI HF D1 D2 D3 D4
          have hc : x2 = 0 ∨ (x2 = 1 ∧ x4 = 0) ∨ (x2 = 1 ∧ x4 = 1 ∧ x1 = x3) ∨ (x2 = 1 ∧ x4 = 1 ∧ ¬ x1 = x3) := by omega
          rcases hc with u | ⟨u, v⟩ | ⟨u, v, t⟩ | ⟨u, v, t⟩
          · have U : Hid (x2 = 0) := u
            have f1 : (x2 == 1) = false := by rw [u]; rfl
            clear u y1 y2 y3 y4
            refine wp_region_held_drew (S := (fun w' => w'.cell? ⟨w.heap.size, 0, none⟩ = some (.slice (some ⟨b1, o1, none⟩) 8 c1) ∧ w'.cell? ⟨w.heap.size, 1, none⟩ = some (.slice (some ⟨b2, o2, none⟩) 8 c2) ∧ w'.cell? ⟨w.heap.size + 1, 0, none⟩ = some (.slice (some ⟨b3, o3, none⟩) 8 c3) ∧ w'.cell? ⟨w.heap.size + 1, 1, none⟩ = some (.slice (some ⟨b4, o4, none⟩) 8 c4) ∧ w'.cell? ⟨b1, o1 + k, none⟩ = some (.int .i64 m1) ∧ w'.cell? ⟨b2, o2 + k, none⟩ = some (.int .i64 m2) ∧ w'.cell? ⟨b3, o3 + k, none⟩ = some (.int .i64 m3) ∧ w'.cell? ⟨b4, o4 + k, none⟩ = some (.int .i64 m4))) (by kernel_rfl) ⟨p00, p01, p10, p11, g1, g2, g3, g4⟩ (fun hHeld => ?_)
            refine take (i := 0) (d := some 25) (v := .pointer (some ⟨w.heap.size, 1, none⟩)) rfl (by kernel_rfl) (by kernel_rfl) (by kernel_rfl) (by kernel_rfl) (fun _ _ _ h => h) (Or.inl ⟨by rfl, by intro w hSw; go_simp⟩) hHeld ?_
            simp only [Act.put, List.setIfInBounds_toArray, List.set_cons_zero, List.set_cons_succ]
            refine take (i := 1) (d := some 26) (v := .slice (some ⟨b2, o2, none⟩) 8 c2) rfl (by kernel_rfl) (by kernel_rfl) (by kernel_rfl) (by kernel_rfl) (fun _ _ _ h => h) (Or.inl ⟨by rfl, by intro w hSw; obtain ⟨p00, p01, p10, p11, g1, g2, g3, g4⟩ := hSw; go_simp⟩) hHeld ?_
            simp only [Act.put, List.setIfInBounds_toArray, List.set_cons_zero, List.set_cons_succ]
            refine take (i := 2) (d := some 27) (v := .int .i64 k) rfl (by kernel_rfl) (by kernel_rfl) (by kernel_rfl) (by kernel_rfl) (fun _ _ _ h => h) (Or.inl ⟨by rfl, by intro w hSw; go_simp⟩) hHeld ?_
            simp only [Act.put, List.setIfInBounds_toArray, List.set_cons_zero, List.set_cons_succ]
            refine take (i := 3) (d := some 28) (v := .pointer (some ⟨b2, o2 + k, none⟩)) rfl (by kernel_rfl) (by kernel_rfl) (by kernel_rfl) (by kernel_rfl) (fun _ _ _ h => h) (Or.inl ⟨by rfl, by intro w hSw; go_simp⟩) hHeld ?_
            simp only [Act.put, List.setIfInBounds_toArray, List.set_cons_zero, List.set_cons_succ]
            refine take (i := 4) (d := some 29) (v := .int .i64 m2) rfl (by kernel_rfl) (by kernel_rfl) (by kernel_rfl) (by kernel_rfl) (fun _ _ _ h => h) (Or.inl ⟨by rfl, by intro w hSw; obtain ⟨p00, p01, p10, p11, g1, g2, g3, g4⟩ := hSw; go_simp⟩) hHeld ?_
            simp only [Act.put, List.setIfInBounds_toArray, List.set_cons_zero, List.set_cons_succ]
            refine take (i := 5) (d := some 30) (v := .int .i64 j) rfl (by kernel_rfl) (by kernel_rfl) (by kernel_rfl) (by kernel_rfl) (fun _ _ _ h => h) (Or.inl ⟨by rfl, by intro w hSw; go_simp⟩) hHeld ?_
            simp only [Act.put, List.setIfInBounds_toArray, List.set_cons_zero, List.set_cons_succ]
            refine wpAnyH_ready (rs := [6]) (by kernel_rfl) (by simp) (Mi.readyCall2 rfl (by kernel_rfl) 81 (.tmp 29) (.tmp 30) 3 3 (by kernel_rfl) 31 (by kernel_rfl) _ _ (by kernel_rfl) (by kernel_rfl) (fun _ => rfl) (H2.out _) (fun wx hb => by rw [hb]; exact hHeld) (fun wx hb hHeld => ?_) AllReadyH.nil)
            subst hb
            simp only [Act.put, List.setIfInBounds_toArray, List.set_cons_zero, List.set_cons_succ]
            refine take (i := 7) (d := some 32) (v := .bool false) rfl (by kernel_rfl) (by kernel_rfl) (by kernel_rfl) (by kernel_rfl) (fun _ _ _ h => h) (Or.inl ⟨by rfl, by intro w hSw; go_simp⟩) hHeld ?_
            simp only [Act.put, List.setIfInBounds_toArray, List.set_cons_zero, List.set_cons_succ]
            refine take (i := 8) (d := some 33) (v := .bool false) rfl (by kernel_rfl) (by kernel_rfl) (by kernel_rfl) (by kernel_rfl) (fun _ _ _ h => h) (Or.inl ⟨by rfl, by intro w hSw; go_simp⟩) hHeld ?_
            simp only [Act.put, List.setIfInBounds_toArray, List.set_cons_zero, List.set_cons_succ]
            refine take (i := 9) (d := some 34) (v := undef) rfl (by kernel_rfl) (by kernel_rfl) (by kernel_rfl) (by kernel_rfl) (fun _ _ _ h => h) (Or.inr ⟨by rfl, rfl⟩) hHeld ?_
            simp only [Act.put, List.setIfInBounds_toArray, List.set_cons_zero, List.set_cons_succ]
            refine take (i := 10) (d := some 35) (v := undef) rfl (by kernel_rfl) (by kernel_rfl) (by kernel_rfl) (by kernel_rfl) (fun _ _ _ h => h) (Or.inr ⟨by rfl, rfl⟩) hHeld ?_
            simp only [Act.put, List.setIfInBounds_toArray, List.set_cons_zero, List.set_cons_succ]
            refine take (i := 11) (d := some 36) (v := undef) rfl (by kernel_rfl) (by kernel_rfl) (by kernel_rfl) (by kernel_rfl) (fun _ _ _ h => h) (Or.inr ⟨by rfl, rfl⟩) hHeld ?_
            simp only [Act.put, List.setIfInBounds_toArray, List.set_cons_zero, List.set_cons_succ]
            refine take (i := 12) (d := some 37) (v := undef) rfl (by kernel_rfl) (by kernel_rfl) (by kernel_rfl) (by kernel_rfl) (fun _ _ _ h => h) (Or.inr ⟨by rfl, rfl⟩) hHeld ?_
            simp only [Act.put, List.setIfInBounds_toArray, List.set_cons_zero, List.set_cons_succ]
            refine take (i := 13) (d := some 38) (v := undef) rfl (by kernel_rfl) (by kernel_rfl) (by kernel_rfl) (by kernel_rfl) (fun _ _ _ h => h) (Or.inr ⟨by rfl, rfl⟩) hHeld ?_
            simp only [Act.put, List.setIfInBounds_toArray, List.set_cons_zero, List.set_cons_succ]
            refine take (i := 14) (d := some 39) (v := undef) rfl (by kernel_rfl) (by kernel_rfl) (by kernel_rfl) (by kernel_rfl) (fun _ _ _ h => h) (Or.inr ⟨by rfl, rfl⟩) hHeld ?_
            simp only [Act.put, List.setIfInBounds_toArray, List.set_cons_zero, List.set_cons_succ]
            refine take (i := 15) (d := some 40) (v := undef) rfl (by kernel_rfl) (by kernel_rfl) (by kernel_rfl) (by kernel_rfl) (fun _ _ _ h => h) (Or.inr ⟨by rfl, rfl⟩) hHeld ?_
            simp only [Act.put, List.setIfInBounds_toArray, List.set_cons_zero, List.set_cons_succ]
            refine take (i := 16) (d := some 41) (v := undef) rfl (by kernel_rfl) (by kernel_rfl) (by kernel_rfl) (by kernel_rfl) (fun _ _ _ h => h) (Or.inr ⟨by rfl, rfl⟩) hHeld ?_
            simp only [Act.put, List.setIfInBounds_toArray, List.set_cons_zero, List.set_cons_succ]
            refine take (i := 17) (d := some 42) (v := undef) rfl (by kernel_rfl) (by kernel_rfl) (by kernel_rfl) (by kernel_rfl) (fun _ _ _ h => h) (Or.inr ⟨by rfl, rfl⟩) hHeld ?_
            simp only [Act.put, List.setIfInBounds_toArray, List.set_cons_zero, List.set_cons_succ]
            refine take (i := 18) (d := some 43) (v := undef) rfl (by kernel_rfl) (by kernel_rfl) (by kernel_rfl) (by kernel_rfl) (fun _ _ _ h => h) (Or.inr ⟨by rfl, rfl⟩) hHeld ?_
            simp only [Act.put, List.setIfInBounds_toArray, List.set_cons_zero, List.set_cons_succ]
            refine take (i := 19) (d := some 44) (v := undef) rfl (by kernel_rfl) (by kernel_rfl) (by kernel_rfl) (by kernel_rfl) (fun _ _ _ h => h) (Or.inr ⟨by rfl, rfl⟩) hHeld ?_
            simp only [Act.put, List.setIfInBounds_toArray, List.set_cons_zero, List.set_cons_succ]
            refine take (i := 20) (d := some 45) (v := undef) rfl (by kernel_rfl) (by kernel_rfl) (by kernel_rfl) (by kernel_rfl) (fun _ _ _ h => h) (Or.inr ⟨by rfl, rfl⟩) hHeld ?_
            simp only [Act.put, List.setIfInBounds_toArray, List.set_cons_zero, List.set_cons_succ]
            refine take (i := 21) (d := some 46) (v := undef) rfl (by kernel_rfl) (by kernel_rfl) (by kernel_rfl) (by kernel_rfl) (fun _ _ _ h => h) (Or.inr ⟨by rfl, rfl⟩) hHeld ?_
            simp only [Act.put, List.setIfInBounds_toArray, List.set_cons_zero, List.set_cons_succ]
            refine take (i := 22) (d := some 47) (v := undef) rfl (by kernel_rfl) (by kernel_rfl) (by kernel_rfl) (by kernel_rfl) (fun _ _ _ h => h) (Or.inr ⟨by rfl, rfl⟩) hHeld ?_
            simp only [Act.put, List.setIfInBounds_toArray, List.set_cons_zero, List.set_cons_succ]
            refine take (i := 23) (d := some 48) (v := undef) rfl (by kernel_rfl) (by kernel_rfl) (by kernel_rfl) (by kernel_rfl) (fun _ _ _ h => h) (Or.inr ⟨by rfl, rfl⟩) hHeld ?_
            simp only [Act.put, List.setIfInBounds_toArray, List.set_cons_zero, List.set_cons_succ]
            refine take (i := 25) (d := some 50) (v := undef) rfl (by kernel_rfl) (by kernel_rfl) (by kernel_rfl) (by kernel_rfl) (fun _ _ _ h => h) (Or.inr ⟨by rfl, rfl⟩) hHeld ?_
            simp only [Act.put, List.setIfInBounds_toArray, List.set_cons_zero, List.set_cons_succ]
            refine take (i := 26) (d := some 51) (v := undef) rfl (by kernel_rfl) (by kernel_rfl) (by kernel_rfl) (by kernel_rfl) (fun _ _ _ h => h) (Or.inr ⟨by rfl, rfl⟩) hHeld ?_
            simp only [Act.put, List.setIfInBounds_toArray, List.set_cons_zero, List.set_cons_succ]
            refine take (i := 27) (d := some 52) (v := undef) rfl (by kernel_rfl) (by kernel_rfl) (by kernel_rfl) (by kernel_rfl) (fun _ _ _ h => h) (Or.inr ⟨by rfl, rfl⟩) hHeld ?_
            simp only [Act.put, List.setIfInBounds_toArray, List.set_cons_zero, List.set_cons_succ]
            refine take (i := 28) (d := some 53) (v := undef) rfl (by kernel_rfl) (by kernel_rfl) (by kernel_rfl) (by kernel_rfl) (fun _ _ _ h => h) (Or.inr ⟨by rfl, rfl⟩) hHeld ?_
            simp only [Act.put, List.setIfInBounds_toArray, List.set_cons_zero, List.set_cons_succ]
            refine take (i := 29) (d := some 54) (v := undef) rfl (by kernel_rfl) (by kernel_rfl) (by kernel_rfl) (by kernel_rfl) (fun _ _ _ h => h) (Or.inr ⟨by rfl, rfl⟩) hHeld ?_
            simp only [Act.put, List.setIfInBounds_toArray, List.set_cons_zero, List.set_cons_succ]
            refine take (i := 30) (d := some 55) (v := undef) rfl (by kernel_rfl) (by kernel_rfl) (by kernel_rfl) (by kernel_rfl) (fun _ _ _ h => h) (Or.inr ⟨by rfl, rfl⟩) hHeld ?_
            simp only [Act.put, List.setIfInBounds_toArray, List.set_cons_zero, List.set_cons_succ]
            refine take (i := 24) (d := some 49) (v := undef) rfl (by kernel_rfl) (by kernel_rfl) (by kernel_rfl) (by kernel_rfl) (fun _ _ _ h => h) (Or.inr ⟨by rfl, rfl⟩) hHeld ?_
            simp only [Act.put, List.setIfInBounds_toArray, List.set_cons_zero, List.set_cons_succ]
            refine take (i := 31) (d := some 56) (v := undef) rfl (by kernel_rfl) (by kernel_rfl) (by kernel_rfl) (by kernel_rfl) (fun _ _ _ h => h) (Or.inr ⟨by rfl, rfl⟩) hHeld ?_
            simp only [Act.put, List.setIfInBounds_toArray, List.set_cons_zero, List.set_cons_succ]
            refine take (i := 32) (d := some 57) (v := undef) rfl (by kernel_rfl) (by kernel_rfl) (by kernel_rfl) (by kernel_rfl) (fun _ _ _ h => h) (Or.inr ⟨by rfl, rfl⟩) hHeld ?_
            simp only [Act.put, List.setIfInBounds_toArray, List.set_cons_zero, List.set_cons_succ]
            refine take (i := 33) (d := some 58) (v := undef) rfl (by kernel_rfl) (by kernel_rfl) (by kernel_rfl) (by kernel_rfl) (fun _ _ _ h => h) (Or.inr ⟨by rfl, rfl⟩) hHeld ?_
            simp only [Act.put, List.setIfInBounds_toArray, List.set_cons_zero, List.set_cons_succ]
            refine take (i := 34) (d := some 59) (v := .bool false) rfl (by kernel_rfl) (by kernel_rfl) (by kernel_rfl) (by kernel_rfl) (fun _ _ _ h => h) (Or.inl ⟨by rfl, by intro w hSw; go_simp⟩) hHeld ?_
            simp only [Act.put, List.setIfInBounds_toArray, List.set_cons_zero, List.set_cons_succ]
            refine wpAnyH_done (by kernel_rfl) ?_ _
            go_wp2
            go_roundw
            case rel => exact ⟨j + 1, by omega, by go_num, hbel.drew, Q0.out, Q1.out, HY.out (fun h => by have := U.out; omega)⟩
            case measure => simp [intOf]; omega
          · have U : Hid (x2 = 1) := u
            have V1 : Hid (x4 = 0) := v
            have f1 : (x2 == 1) = true := by rw [u]; rfl
            have f2 : (x4 == 0) = true := by rw [v]; rfl
            clear u v y1 y2 y3 y4
            refine wp_region_held_drew (S := (fun w' => w'.cell? ⟨w.heap.size, 0, none⟩ = some (.slice (some ⟨b1, o1, none⟩) 8 c1) ∧ w'.cell? ⟨w.heap.size, 1, none⟩ = some (.slice (some ⟨b2, o2, none⟩) 8 c2) ∧ w'.cell? ⟨w.heap.size + 1, 0, none⟩ = some (.slice (some ⟨b3, o3, none⟩) 8 c3) ∧ w'.cell? ⟨w.heap.size + 1, 1, none⟩ = some (.slice (some ⟨b4, o4, none⟩) 8 c4) ∧ w'.cell? ⟨b1, o1 + k, none⟩ = some (.int .i64 m1) ∧ w'.cell? ⟨b2, o2 + k, none⟩ = some (.int .i64 m2) ∧ w'.cell? ⟨b3, o3 + k, none⟩ = some (.int .i64 m3) ∧ w'.cell? ⟨b4, o4 + k, none⟩ = some (.int .i64 m4))) (by kernel_rfl) ⟨p00, p01, p10, p11, g1, g2, g3, g4⟩ (fun hHeld => ?_)
            refine take (i := 0) (d := some 25) (v := .pointer (some ⟨w.heap.size, 1, none⟩)) rfl (by kernel_rfl) (by kernel_rfl) (by kernel_rfl) (by kernel_rfl) (fun _ _ _ h => h) (Or.inl ⟨by rfl, by intro w hSw; go_simp⟩) hHeld ?_
            simp only [Act.put, List.setIfInBounds_toArray, List.set_cons_zero, List.set_cons_succ]
            refine take (i := 1) (d := some 26) (v := .slice (some ⟨b2, o2, none⟩) 8 c2) rfl (by kernel_rfl) (by kernel_rfl) (by kernel_rfl) (by kernel_rfl) (fun _ _ _ h => h) (Or.inl ⟨by rfl, by intro w hSw; obtain ⟨p00, p01, p10, p11, g1, g2, g3, g4⟩ := hSw; go_simp⟩) hHeld ?_
            simp only [Act.put, List.setIfInBounds_toArray, List.set_cons_zero, List.set_cons_succ]
            refine take (i := 2) (d := some 27) (v := .int .i64 k) rfl (by kernel_rfl) (by kernel_rfl) (by kernel_rfl) (by kernel_rfl) (fun _ _ _ h => h) (Or.inl ⟨by rfl, by intro w hSw; go_simp⟩) hHeld ?_
            simp only [Act.put, List.setIfInBounds_toArray, List.set_cons_zero, List.set_cons_succ]
            refine take (i := 3) (d := some 28) (v := .pointer (some ⟨b2, o2 + k, none⟩)) rfl (by kernel_rfl) (by kernel_rfl) (by kernel_rfl) (by kernel_rfl) (fun _ _ _ h => h) (Or.inl ⟨by rfl, by intro w hSw; go_simp⟩) hHeld ?_
            simp only [Act.put, List.setIfInBounds_toArray, List.set_cons_zero, List.set_cons_succ]
            refine take (i := 4) (d := some 29) (v := .int .i64 m2) rfl (by kernel_rfl) (by kernel_rfl) (by kernel_rfl) (by kernel_rfl) (fun _ _ _ h => h) (Or.inl ⟨by rfl, by intro w hSw; obtain ⟨p00, p01, p10, p11, g1, g2, g3, g4⟩ := hSw; go_simp⟩) hHeld ?_
            simp only [Act.put, List.setIfInBounds_toArray, List.set_cons_zero, List.set_cons_succ]
            refine take (i := 5) (d := some 30) (v := .int .i64 j) rfl (by kernel_rfl) (by kernel_rfl) (by kernel_rfl) (by kernel_rfl) (fun _ _ _ h => h) (Or.inl ⟨by rfl, by intro w hSw; go_simp⟩) hHeld ?_
            simp only [Act.put, List.setIfInBounds_toArray, List.set_cons_zero, List.set_cons_succ]
            refine wpAnyH_ready (rs := [6]) (by kernel_rfl) (by simp) (Mi.readyCall2 rfl (by kernel_rfl) 81 (.tmp 29) (.tmp 30) 3 3 (by kernel_rfl) 31 (by kernel_rfl) _ _ (by kernel_rfl) (by kernel_rfl) (fun _ => rfl) (H2.out _) (fun wx hb => by rw [hb]; exact hHeld) (fun wx hb hHeld => ?_) AllReadyH.nil)
            subst hb
            simp only [Act.put, List.setIfInBounds_toArray, List.set_cons_zero, List.set_cons_succ]
            refine take (i := 7) (d := some 32) (v := .bool true) rfl (by kernel_rfl) (by kernel_rfl) (by kernel_rfl) (by kernel_rfl) (fun _ _ _ h => h) (Or.inl ⟨by rfl, by intro w hSw; go_simp⟩) hHeld ?_
            simp only [Act.put, List.setIfInBounds_toArray, List.set_cons_zero, List.set_cons_succ]
            refine take (i := 8) (d := some 33) (v := .bool true) rfl (by kernel_rfl) (by kernel_rfl) (by kernel_rfl) (by kernel_rfl) (fun _ _ _ h => h) (Or.inl ⟨by rfl, by intro w hSw; go_simp⟩) hHeld ?_
            simp only [Act.put, List.setIfInBounds_toArray, List.set_cons_zero, List.set_cons_succ]
            refine take (i := 9) (d := some 34) (v := .pointer (some ⟨w.heap.size + 1, 1, none⟩)) rfl (by kernel_rfl) (by kernel_rfl) (by kernel_rfl) (by kernel_rfl) (fun _ _ _ h => h) (Or.inl ⟨by rfl, by intro w hSw; go_simp⟩) hHeld ?_
            simp only [Act.put, List.setIfInBounds_toArray, List.set_cons_zero, List.set_cons_succ]
            refine take (i := 10) (d := some 35) (v := .slice (some ⟨b4, o4, none⟩) 8 c4) rfl (by kernel_rfl) (by kernel_rfl) (by kernel_rfl) (by kernel_rfl) (fun _ _ _ h => h) (Or.inl ⟨by rfl, by intro w hSw; obtain ⟨p00, p01, p10, p11, g1, g2, g3, g4⟩ := hSw; go_simp⟩) hHeld ?_
            simp only [Act.put, List.setIfInBounds_toArray, List.set_cons_zero, List.set_cons_succ]
            refine take (i := 11) (d := some 36) (v := .int .i64 k) rfl (by kernel_rfl) (by kernel_rfl) (by kernel_rfl) (by kernel_rfl) (fun _ _ _ h => h) (Or.inl ⟨by rfl, by intro w hSw; go_simp⟩) hHeld ?_
            simp only [Act.put, List.setIfInBounds_toArray, List.set_cons_zero, List.set_cons_succ]
            refine take (i := 12) (d := some 37) (v := .pointer (some ⟨b4, o4 + k, none⟩)) rfl (by kernel_rfl) (by kernel_rfl) (by kernel_rfl) (by kernel_rfl) (fun _ _ _ h => h) (Or.inl ⟨by rfl, by intro w hSw; go_simp⟩) hHeld ?_
            simp only [Act.put, List.setIfInBounds_toArray, List.set_cons_zero, List.set_cons_succ]
            refine take (i := 13) (d := some 38) (v := .int .i64 m4) rfl (by kernel_rfl) (by kernel_rfl) (by kernel_rfl) (by kernel_rfl) (fun _ _ _ h => h) (Or.inl ⟨by rfl, by intro w hSw; obtain ⟨p00, p01, p10, p11, g1, g2, g3, g4⟩ := hSw; go_simp⟩) hHeld ?_
            simp only [Act.put, List.setIfInBounds_toArray, List.set_cons_zero, List.set_cons_succ]
            refine take (i := 14) (d := some 39) (v := .int .i64 j) rfl (by kernel_rfl) (by kernel_rfl) (by kernel_rfl) (by kernel_rfl) (fun _ _ _ h => h) (Or.inl ⟨by rfl, by intro w hSw; go_simp⟩) hHeld ?_
            simp only [Act.put, List.setIfInBounds_toArray, List.set_cons_zero, List.set_cons_succ]
            refine wpAnyH_ready (rs := [15]) (by kernel_rfl) (by simp) (Mi.readyCall2 rfl (by kernel_rfl) 81 (.tmp 38) (.tmp 39) 3 3 (by kernel_rfl) 40 (by kernel_rfl) _ _ (by kernel_rfl) (by kernel_rfl) (fun _ => rfl) (H4.out _) (fun wx hb => by rw [hb]; exact hHeld) (fun wx hb hHeld => ?_) AllReadyH.nil)
            subst hb
            simp only [Act.put, List.setIfInBounds_toArray, List.set_cons_zero, List.set_cons_succ]
            refine take (i := 16) (d := some 41) (v := .bool true) rfl (by kernel_rfl) (by kernel_rfl) (by kernel_rfl) (by kernel_rfl) (fun _ _ _ h => h) (Or.inl ⟨by rfl, by intro w hSw; go_simp⟩) hHeld ?_
            simp only [Act.put, List.setIfInBounds_toArray, List.set_cons_zero, List.set_cons_succ]
            refine take (i := 17) (d := some 42) (v := .bool true) rfl (by kernel_rfl) (by kernel_rfl) (by kernel_rfl) (by kernel_rfl) (fun _ _ _ h => h) (Or.inl ⟨by rfl, by intro w hSw; go_simp⟩) hHeld ?_
            simp only [Act.put, List.setIfInBounds_toArray, List.set_cons_zero, List.set_cons_succ]
            refine take (i := 18) (d := some 43) (v := undef) rfl (by kernel_rfl) (by kernel_rfl) (by kernel_rfl) (by kernel_rfl) (fun _ _ _ h => h) (Or.inr ⟨by rfl, rfl⟩) hHeld ?_
            simp only [Act.put, List.setIfInBounds_toArray, List.set_cons_zero, List.set_cons_succ]
            refine take (i := 19) (d := some 44) (v := undef) rfl (by kernel_rfl) (by kernel_rfl) (by kernel_rfl) (by kernel_rfl) (fun _ _ _ h => h) (Or.inr ⟨by rfl, rfl⟩) hHeld ?_
            simp only [Act.put, List.setIfInBounds_toArray, List.set_cons_zero, List.set_cons_succ]
            refine take (i := 20) (d := some 45) (v := undef) rfl (by kernel_rfl) (by kernel_rfl) (by kernel_rfl) (by kernel_rfl) (fun _ _ _ h => h) (Or.inr ⟨by rfl, rfl⟩) hHeld ?_
            simp only [Act.put, List.setIfInBounds_toArray, List.set_cons_zero, List.set_cons_succ]
            refine take (i := 21) (d := some 46) (v := undef) rfl (by kernel_rfl) (by kernel_rfl) (by kernel_rfl) (by kernel_rfl) (fun _ _ _ h => h) (Or.inr ⟨by rfl, rfl⟩) hHeld ?_
            simp only [Act.put, List.setIfInBounds_toArray, List.set_cons_zero, List.set_cons_succ]
            refine take (i := 22) (d := some 47) (v := undef) rfl (by kernel_rfl) (by kernel_rfl) (by kernel_rfl) (by kernel_rfl) (fun _ _ _ h => h) (Or.inr ⟨by rfl, rfl⟩) hHeld ?_
            simp only [Act.put, List.setIfInBounds_toArray, List.set_cons_zero, List.set_cons_succ]
            refine take (i := 23) (d := some 48) (v := undef) rfl (by kernel_rfl) (by kernel_rfl) (by kernel_rfl) (by kernel_rfl) (fun _ _ _ h => h) (Or.inr ⟨by rfl, rfl⟩) hHeld ?_
            simp only [Act.put, List.setIfInBounds_toArray, List.set_cons_zero, List.set_cons_succ]
            refine take (i := 25) (d := some 50) (v := undef) rfl (by kernel_rfl) (by kernel_rfl) (by kernel_rfl) (by kernel_rfl) (fun _ _ _ h => h) (Or.inr ⟨by rfl, rfl⟩) hHeld ?_
            simp only [Act.put, List.setIfInBounds_toArray, List.set_cons_zero, List.set_cons_succ]
            refine take (i := 26) (d := some 51) (v := undef) rfl (by kernel_rfl) (by kernel_rfl) (by kernel_rfl) (by kernel_rfl) (fun _ _ _ h => h) (Or.inr ⟨by rfl, rfl⟩) hHeld ?_
            simp only [Act.put, List.setIfInBounds_toArray, List.set_cons_zero, List.set_cons_succ]
            refine take (i := 27) (d := some 52) (v := undef) rfl (by kernel_rfl) (by kernel_rfl) (by kernel_rfl) (by kernel_rfl) (fun _ _ _ h => h) (Or.inr ⟨by rfl, rfl⟩) hHeld ?_
            simp only [Act.put, List.setIfInBounds_toArray, List.set_cons_zero, List.set_cons_succ]
            refine take (i := 28) (d := some 53) (v := undef) rfl (by kernel_rfl) (by kernel_rfl) (by kernel_rfl) (by kernel_rfl) (fun _ _ _ h => h) (Or.inr ⟨by rfl, rfl⟩) hHeld ?_
            simp only [Act.put, List.setIfInBounds_toArray, List.set_cons_zero, List.set_cons_succ]
            refine take (i := 29) (d := some 54) (v := undef) rfl (by kernel_rfl) (by kernel_rfl) (by kernel_rfl) (by kernel_rfl) (fun _ _ _ h => h) (Or.inr ⟨by rfl, rfl⟩) hHeld ?_
            simp only [Act.put, List.setIfInBounds_toArray, List.set_cons_zero, List.set_cons_succ]
            refine take (i := 30) (d := some 55) (v := undef) rfl (by kernel_rfl) (by kernel_rfl) (by kernel_rfl) (by kernel_rfl) (fun _ _ _ h => h) (Or.inr ⟨by rfl, rfl⟩) hHeld ?_
            simp only [Act.put, List.setIfInBounds_toArray, List.set_cons_zero, List.set_cons_succ]
            refine take (i := 24) (d := some 49) (v := undef) rfl (by kernel_rfl) (by kernel_rfl) (by kernel_rfl) (by kernel_rfl) (fun _ _ _ h => h) (Or.inr ⟨by rfl, rfl⟩) hHeld ?_
            simp only [Act.put, List.setIfInBounds_toArray, List.set_cons_zero, List.set_cons_succ]
            refine take (i := 31) (d := some 56) (v := undef) rfl (by kernel_rfl) (by kernel_rfl) (by kernel_rfl) (by kernel_rfl) (fun _ _ _ h => h) (Or.inr ⟨by rfl, rfl⟩) hHeld ?_
            simp only [Act.put, List.setIfInBounds_toArray, List.set_cons_zero, List.set_cons_succ]
            refine take (i := 32) (d := some 57) (v := undef) rfl (by kernel_rfl) (by kernel_rfl) (by kernel_rfl) (by kernel_rfl) (fun _ _ _ h => h) (Or.inr ⟨by rfl, rfl⟩) hHeld ?_
            simp only [Act.put, List.setIfInBounds_toArray, List.set_cons_zero, List.set_cons_succ]
            refine take (i := 33) (d := some 58) (v := .bool true) rfl (by kernel_rfl) (by kernel_rfl) (by kernel_rfl) (by kernel_rfl) (fun _ _ _ h => h) (Or.inl ⟨by rfl, by intro w hSw; go_simp⟩) hHeld ?_
            simp only [Act.put, List.setIfInBounds_toArray, List.set_cons_zero, List.set_cons_succ]
            refine take (i := 34) (d := some 59) (v := .bool true) rfl (by kernel_rfl) (by kernel_rfl) (by kernel_rfl) (by kernel_rfl) (fun _ _ _ h => h) (Or.inl ⟨by rfl, by intro w hSw; go_simp⟩) hHeld ?_
            simp only [Act.put, List.setIfInBounds_toArray, List.set_cons_zero, List.set_cons_succ]
            refine wpAnyH_done (by kernel_rfl) ?_ _
            go_wp2
            go_ret
            exact ⟨Num.ret_bool (HN.out (fun h => by have := (h U.out).1; have := V1.out; omega)).symm, hbel.drew⟩
          · have U : Hid (x4 = 1 ∧ x1 = x3) := ⟨v, t⟩
            have f1 : (x2 == 1) = true := by rw [u]; rfl
            have f2 : (x4 == 0) = false := by rw [v]; rfl
            have f3 : (x1 != x3) = false := by rw [t]; simp
            clear u v t y1 y2 y3 y4
            refine wp_region_held_drew (S := (fun w' => w'.cell? ⟨w.heap.size, 0, none⟩ = some (.slice (some ⟨b1, o1, none⟩) 8 c1) ∧ w'.cell? ⟨w.heap.size, 1, none⟩ = some (.slice (some ⟨b2, o2, none⟩) 8 c2) ∧ w'.cell? ⟨w.heap.size + 1, 0, none⟩ = some (.slice (some ⟨b3, o3, none⟩) 8 c3) ∧ w'.cell? ⟨w.heap.size + 1, 1, none⟩ = some (.slice (some ⟨b4, o4, none⟩) 8 c4) ∧ w'.cell? ⟨b1, o1 + k, none⟩ = some (.int .i64 m1) ∧ w'.cell? ⟨b2, o2 + k, none⟩ = some (.int .i64 m2) ∧ w'.cell? ⟨b3, o3 + k, none⟩ = some (.int .i64 m3) ∧ w'.cell? ⟨b4, o4 + k, none⟩ = some (.int .i64 m4))) (by kernel_rfl) ⟨p00, p01, p10, p11, g1, g2, g3, g4⟩ (fun hHeld => ?_)
            refine take (i := 0) (d := some 25) (v := .pointer (some ⟨w.heap.size, 1, none⟩)) rfl (by kernel_rfl) (by kernel_rfl) (by kernel_rfl) (by kernel_rfl) (fun _ _ _ h => h) (Or.inl ⟨by rfl, by intro w hSw; go_simp⟩) hHeld ?_
            simp only [Act.put, List.setIfInBounds_toArray, List.set_cons_zero, List.set_cons_succ]
            refine take (i := 1) (d := some 26) (v := .slice (some ⟨b2, o2, none⟩) 8 c2) rfl (by kernel_rfl) (by kernel_rfl) (by kernel_rfl) (by kernel_rfl) (fun _ _ _ h => h) (Or.inl ⟨by rfl, by intro w hSw; obtain ⟨p00, p01, p10, p11, g1, g2, g3, g4⟩ := hSw; go_simp⟩) hHeld ?_
            simp only [Act.put, List.setIfInBounds_toArray, List.set_cons_zero, List.set_cons_succ]
            refine take (i := 2) (d := some 27) (v := .int .i64 k) rfl (by kernel_rfl) (by kernel_rfl) (by kernel_rfl) (by kernel_rfl) (fun _ _ _ h => h) (Or.inl ⟨by rfl, by intro w hSw; go_simp⟩) hHeld ?_
            simp only [Act.put, List.setIfInBounds_toArray, List.set_cons_zero, List.set_cons_succ]
            refine take (i := 3) (d := some 28) (v := .pointer (some ⟨b2, o2 + k, none⟩)) rfl (by kernel_rfl) (by kernel_rfl) (by kernel_rfl) (by kernel_rfl) (fun _ _ _ h => h) (Or.inl ⟨by rfl, by intro w hSw; go_simp⟩) hHeld ?_
            simp only [Act.put, List.setIfInBounds_toArray, List.set_cons_zero, List.set_cons_succ]
            refine take (i := 4) (d := some 29) (v := .int .i64 m2) rfl (by kernel_rfl) (by kernel_rfl) (by kernel_rfl) (by kernel_rfl) (fun _ _ _ h => h) (Or.inl ⟨by rfl, by intro w hSw; obtain ⟨p00, p01, p10, p11, g1, g2, g3, g4⟩ := hSw; go_simp⟩) hHeld ?_
            simp only [Act.put, List.setIfInBounds_toArray, List.set_cons_zero, List.set_cons_succ]
            refine take (i := 5) (d := some 30) (v := .int .i64 j) rfl (by kernel_rfl) (by kernel_rfl) (by kernel_rfl) (by kernel_rfl) (fun _ _ _ h => h) (Or.inl ⟨by rfl, by intro w hSw; go_simp⟩) hHeld ?_
            simp only [Act.put, List.setIfInBounds_toArray, List.set_cons_zero, List.set_cons_succ]
            refine wpAnyH_ready (rs := [6]) (by kernel_rfl) (by simp) (Mi.readyCall2 rfl (by kernel_rfl) 81 (.tmp 29) (.tmp 30) 3 3 (by kernel_rfl) 31 (by kernel_rfl) _ _ (by kernel_rfl) (by kernel_rfl) (fun _ => rfl) (H2.out _) (fun wx hb => by rw [hb]; exact hHeld) (fun wx hb hHeld => ?_) AllReadyH.nil)
            subst hb
            simp only [Act.put, List.setIfInBounds_toArray, List.set_cons_zero, List.set_cons_succ]
            refine take (i := 7) (d := some 32) (v := .bool true) rfl (by kernel_rfl) (by kernel_rfl) (by kernel_rfl) (by kernel_rfl) (fun _ _ _ h => h) (Or.inl ⟨by rfl, by intro w hSw; go_simp⟩) hHeld ?_
            simp only [Act.put, List.setIfInBounds_toArray, List.set_cons_zero, List.set_cons_succ]
            refine take (i := 8) (d := some 33) (v := .bool true) rfl (by kernel_rfl) (by kernel_rfl) (by kernel_rfl) (by kernel_rfl) (fun _ _ _ h => h) (Or.inl ⟨by rfl, by intro w hSw; go_simp⟩) hHeld ?_
            simp only [Act.put, List.setIfInBounds_toArray, List.set_cons_zero, List.set_cons_succ]
            refine take (i := 9) (d := some 34) (v := .pointer (some ⟨w.heap.size + 1, 1, none⟩)) rfl (by kernel_rfl) (by kernel_rfl) (by kernel_rfl) (by kernel_rfl) (fun _ _ _ h => h) (Or.inl ⟨by rfl, by intro w hSw; go_simp⟩) hHeld ?_
            simp only [Act.put, List.setIfInBounds_toArray, List.set_cons_zero, List.set_cons_succ]
            refine take (i := 10) (d := some 35) (v := .slice (some ⟨b4, o4, none⟩) 8 c4) rfl (by kernel_rfl) (by kernel_rfl) (by kernel_rfl) (by kernel_rfl) (fun _ _ _ h => h) (Or.inl ⟨by rfl, by intro w hSw; obtain ⟨p00, p01, p10, p11, g1, g2, g3, g4⟩ := hSw; go_simp⟩) hHeld ?_
            simp only [Act.put, List.setIfInBounds_toArray, List.set_cons_zero, List.set_cons_succ]
            refine take (i := 11) (d := some 36) (v := .int .i64 k) rfl (by kernel_rfl) (by kernel_rfl) (by kernel_rfl) (by kernel_rfl) (fun _ _ _ h => h) (Or.inl ⟨by rfl, by intro w hSw; go_simp⟩) hHeld ?_
            simp only [Act.put, List.setIfInBounds_toArray, List.set_cons_zero, List.set_cons_succ]
            refine take (i := 12) (d := some 37) (v := .pointer (some ⟨b4, o4 + k, none⟩)) rfl (by kernel_rfl) (by kernel_rfl) (by kernel_rfl) (by kernel_rfl) (fun _ _ _ h => h) (Or.inl ⟨by rfl, by intro w hSw; go_simp⟩) hHeld ?_
            simp only [Act.put, List.setIfInBounds_toArray, List.set_cons_zero, List.set_cons_succ]
            refine take (i := 13) (d := some 38) (v := .int .i64 m4) rfl (by kernel_rfl) (by kernel_rfl) (by kernel_rfl) (by kernel_rfl) (fun _ _ _ h => h) (Or.inl ⟨by rfl, by intro w hSw; obtain ⟨p00, p01, p10, p11, g1, g2, g3, g4⟩ := hSw; go_simp⟩) hHeld ?_
            simp only [Act.put, List.setIfInBounds_toArray, List.set_cons_zero, List.set_cons_succ]
            refine take (i := 14) (d := some 39) (v := .int .i64 j) rfl (by kernel_rfl) (by kernel_rfl) (by kernel_rfl) (by kernel_rfl) (fun _ _ _ h => h) (Or.inl ⟨by rfl, by intro w hSw; go_simp⟩) hHeld ?_
            simp only [Act.put, List.setIfInBounds_toArray, List.set_cons_zero, List.set_cons_succ]
            refine wpAnyH_ready (rs := [15]) (by kernel_rfl) (by simp) (Mi.readyCall2 rfl (by kernel_rfl) 81 (.tmp 38) (.tmp 39) 3 3 (by kernel_rfl) 40 (by kernel_rfl) _ _ (by kernel_rfl) (by kernel_rfl) (fun _ => rfl) (H4.out _) (fun wx hb => by rw [hb]; exact hHeld) (fun wx hb hHeld => ?_) AllReadyH.nil)
            subst hb
            simp only [Act.put, List.setIfInBounds_toArray, List.set_cons_zero, List.set_cons_succ]
            refine take (i := 16) (d := some 41) (v := .bool false) rfl (by kernel_rfl) (by kernel_rfl) (by kernel_rfl) (by kernel_rfl) (fun _ _ _ h => h) (Or.inl ⟨by rfl, by intro w hSw; go_simp⟩) hHeld ?_
            simp only [Act.put, List.setIfInBounds_toArray, List.set_cons_zero, List.set_cons_succ]
            refine take (i := 17) (d := some 42) (v := .bool false) rfl (by kernel_rfl) (by kernel_rfl) (by kernel_rfl) (by kernel_rfl) (fun _ _ _ h => h) (Or.inl ⟨by rfl, by intro w hSw; go_simp⟩) hHeld ?_
            simp only [Act.put, List.setIfInBounds_toArray, List.set_cons_zero, List.set_cons_succ]
            refine take (i := 18) (d := some 43) (v := .pointer (some ⟨w.heap.size, 0, none⟩)) rfl (by kernel_rfl) (by kernel_rfl) (by kernel_rfl) (by kernel_rfl) (fun _ _ _ h => h) (Or.inl ⟨by rfl, by intro w hSw; go_simp⟩) hHeld ?_
            simp only [Act.put, List.setIfInBounds_toArray, List.set_cons_zero, List.set_cons_succ]
            refine take (i := 19) (d := some 44) (v := .slice (some ⟨b1, o1, none⟩) 8 c1) rfl (by kernel_rfl) (by kernel_rfl) (by kernel_rfl) (by kernel_rfl) (fun _ _ _ h => h) (Or.inl ⟨by rfl, by intro w hSw; obtain ⟨p00, p01, p10, p11, g1, g2, g3, g4⟩ := hSw; go_simp⟩) hHeld ?_
            simp only [Act.put, List.setIfInBounds_toArray, List.set_cons_zero, List.set_cons_succ]
            refine take (i := 20) (d := some 45) (v := .int .i64 k) rfl (by kernel_rfl) (by kernel_rfl) (by kernel_rfl) (by kernel_rfl) (fun _ _ _ h => h) (Or.inl ⟨by rfl, by intro w hSw; go_simp⟩) hHeld ?_
            simp only [Act.put, List.setIfInBounds_toArray, List.set_cons_zero, List.set_cons_succ]
            refine take (i := 21) (d := some 46) (v := .pointer (some ⟨b1, o1 + k, none⟩)) rfl (by kernel_rfl) (by kernel_rfl) (by kernel_rfl) (by kernel_rfl) (fun _ _ _ h => h) (Or.inl ⟨by rfl, by intro w hSw; go_simp⟩) hHeld ?_
            simp only [Act.put, List.setIfInBounds_toArray, List.set_cons_zero, List.set_cons_succ]
            refine take (i := 22) (d := some 47) (v := .int .i64 m1) rfl (by kernel_rfl) (by kernel_rfl) (by kernel_rfl) (by kernel_rfl) (fun _ _ _ h => h) (Or.inl ⟨by rfl, by intro w hSw; obtain ⟨p00, p01, p10, p11, g1, g2, g3, g4⟩ := hSw; go_simp⟩) hHeld ?_
            simp only [Act.put, List.setIfInBounds_toArray, List.set_cons_zero, List.set_cons_succ]
            refine take (i := 23) (d := some 48) (v := .int .i64 j) rfl (by kernel_rfl) (by kernel_rfl) (by kernel_rfl) (by kernel_rfl) (fun _ _ _ h => h) (Or.inl ⟨by rfl, by intro w hSw; go_simp⟩) hHeld ?_
            simp only [Act.put, List.setIfInBounds_toArray, List.set_cons_zero, List.set_cons_succ]
            refine take (i := 25) (d := some 50) (v := .pointer (some ⟨w.heap.size + 1, 0, none⟩)) rfl (by kernel_rfl) (by kernel_rfl) (by kernel_rfl) (by kernel_rfl) (fun _ _ _ h => h) (Or.inl ⟨by rfl, by intro w hSw; go_simp⟩) hHeld ?_
            simp only [Act.put, List.setIfInBounds_toArray, List.set_cons_zero, List.set_cons_succ]
            refine take (i := 26) (d := some 51) (v := .slice (some ⟨b3, o3, none⟩) 8 c3) rfl (by kernel_rfl) (by kernel_rfl) (by kernel_rfl) (by kernel_rfl) (fun _ _ _ h => h) (Or.inl ⟨by rfl, by intro w hSw; obtain ⟨p00, p01, p10, p11, g1, g2, g3, g4⟩ := hSw; go_simp⟩) hHeld ?_
            simp only [Act.put, List.setIfInBounds_toArray, List.set_cons_zero, List.set_cons_succ]
            refine take (i := 27) (d := some 52) (v := .int .i64 k) rfl (by kernel_rfl) (by kernel_rfl) (by kernel_rfl) (by kernel_rfl) (fun _ _ _ h => h) (Or.inl ⟨by rfl, by intro w hSw; go_simp⟩) hHeld ?_
            simp only [Act.put, List.setIfInBounds_toArray, List.set_cons_zero, List.set_cons_succ]
            refine take (i := 28) (d := some 53) (v := .pointer (some ⟨b3, o3 + k, none⟩)) rfl (by kernel_rfl) (by kernel_rfl) (by kernel_rfl) (by kernel_rfl) (fun _ _ _ h => h) (Or.inl ⟨by rfl, by intro w hSw; go_simp⟩) hHeld ?_
            simp only [Act.put, List.setIfInBounds_toArray, List.set_cons_zero, List.set_cons_succ]
            refine take (i := 29) (d := some 54) (v := .int .i64 m3) rfl (by kernel_rfl) (by kernel_rfl) (by kernel_rfl) (by kernel_rfl) (fun _ _ _ h => h) (Or.inl ⟨by rfl, by intro w hSw; obtain ⟨p00, p01, p10, p11, g1, g2, g3, g4⟩ := hSw; go_simp⟩) hHeld ?_
            simp only [Act.put, List.setIfInBounds_toArray, List.set_cons_zero, List.set_cons_succ]
            refine take (i := 30) (d := some 55) (v := .int .i64 j) rfl (by kernel_rfl) (by kernel_rfl) (by kernel_rfl) (by kernel_rfl) (fun _ _ _ h => h) (Or.inl ⟨by rfl, by intro w hSw; go_simp⟩) hHeld ?_
            simp only [Act.put, List.setIfInBounds_toArray, List.set_cons_zero, List.set_cons_succ]
            refine wpAnyH_ready (rs := [24]) (by kernel_rfl) (by simp) (Mi.readyCall2 rfl (by kernel_rfl) 81 (.tmp 47) (.tmp 48) 3 3 (by kernel_rfl) 49 (by kernel_rfl) _ _ (by kernel_rfl) (by kernel_rfl) (fun _ => rfl) (H1.out _) (fun wx hb => by rw [hb]; exact hHeld) (fun wx hb hHeld => ?_) AllReadyH.nil)
            subst hb
            simp only [Act.put, List.setIfInBounds_toArray, List.set_cons_zero, List.set_cons_succ]
            refine wpAnyH_ready (rs := [31]) (by kernel_rfl) (by simp) (Mi.readyCall2 rfl (by kernel_rfl) 81 (.tmp 54) (.tmp 55) 3 3 (by kernel_rfl) 56 (by kernel_rfl) _ _ (by kernel_rfl) (by kernel_rfl) (fun _ => rfl) (H3.out _) (fun wx hb => by rw [hb]; exact hHeld) (fun wx hb hHeld => ?_) AllReadyH.nil)
            subst hb
            simp only [Act.put, List.setIfInBounds_toArray, List.set_cons_zero, List.set_cons_succ]
            refine take (i := 32) (d := some 57) (v := .bool false) rfl (by kernel_rfl) (by kernel_rfl) (by kernel_rfl) (by kernel_rfl) (fun _ _ _ h => h) (Or.inl ⟨by rfl, by intro w hSw; go_simp⟩) hHeld ?_
            simp only [Act.put, List.setIfInBounds_toArray, List.set_cons_zero, List.set_cons_succ]
            refine take (i := 33) (d := some 58) (v := .bool false) rfl (by kernel_rfl) (by kernel_rfl) (by kernel_rfl) (by kernel_rfl) (fun _ _ _ h => h) (Or.inl ⟨by rfl, by intro w hSw; go_simp⟩) hHeld ?_
            simp only [Act.put, List.setIfInBounds_toArray, List.set_cons_zero, List.set_cons_succ]
            refine take (i := 34) (d := some 59) (v := .bool false) rfl (by kernel_rfl) (by kernel_rfl) (by kernel_rfl) (by kernel_rfl) (fun _ _ _ h => h) (Or.inl ⟨by rfl, by intro w hSw; go_simp⟩) hHeld ?_
            simp only [Act.put, List.setIfInBounds_toArray, List.set_cons_zero, List.set_cons_succ]
            refine wpAnyH_done (by kernel_rfl) ?_ _
            go_wp2
            go_roundw
            case rel => exact ⟨j + 1, by omega, by go_num, hbel.drew, Q0.out, Q1.out, HY.out (fun _ => U.out)⟩
            case measure => simp [intOf]; omega
          · have U : Hid (x2 = 1 ∧ ¬ x1 = x3) := ⟨u, t⟩
            have f1 : (x2 == 1) = true := by rw [u]; rfl
            have f2 : (x4 == 0) = false := by rw [v]; rfl
            have f3 : (x1 != x3) = true := by simpa using t
            clear u v t y1 y2 y3 y4
            refine wp_region_held_drew (S := (fun w' => w'.cell? ⟨w.heap.size, 0, none⟩ = some (.slice (some ⟨b1, o1, none⟩) 8 c1) ∧ w'.cell? ⟨w.heap.size, 1, none⟩ = some (.slice (some ⟨b2, o2, none⟩) 8 c2) ∧ w'.cell? ⟨w.heap.size + 1, 0, none⟩ = some (.slice (some ⟨b3, o3, none⟩) 8 c3) ∧ w'.cell? ⟨w.heap.size + 1, 1, none⟩ = some (.slice (some ⟨b4, o4, none⟩) 8 c4) ∧ w'.cell? ⟨b1, o1 + k, none⟩ = some (.int .i64 m1) ∧ w'.cell? ⟨b2, o2 + k, none⟩ = some (.int .i64 m2) ∧ w'.cell? ⟨b3, o3 + k, none⟩ = some (.int .i64 m3) ∧ w'.cell? ⟨b4, o4 + k, none⟩ = some (.int .i64 m4))) (by kernel_rfl) ⟨p00, p01, p10, p11, g1, g2, g3, g4⟩ (fun hHeld => ?_)
            refine take (i := 0) (d := some 25) (v := .pointer (some ⟨w.heap.size, 1, none⟩)) rfl (by kernel_rfl) (by kernel_rfl) (by kernel_rfl) (by kernel_rfl) (fun _ _ _ h => h) (Or.inl ⟨by rfl, by intro w hSw; go_simp⟩) hHeld ?_
            simp only [Act.put, List.setIfInBounds_toArray, List.set_cons_zero, List.set_cons_succ]
            refine take (i := 1) (d := some 26) (v := .slice (some ⟨b2, o2, none⟩) 8 c2) rfl (by kernel_rfl) (by kernel_rfl) (by kernel_rfl) (by kernel_rfl) (fun _ _ _ h => h) (Or.inl ⟨by rfl, by intro w hSw; obtain ⟨p00, p01, p10, p11, g1, g2, g3, g4⟩ := hSw; go_simp⟩) hHeld ?_
            simp only [Act.put, List.setIfInBounds_toArray, List.set_cons_zero, List.set_cons_succ]
            refine take (i := 2) (d := some 27) (v := .int .i64 k) rfl (by kernel_rfl) (by kernel_rfl) (by kernel_rfl) (by kernel_rfl) (fun _ _ _ h => h) (Or.inl ⟨by rfl, by intro w hSw; go_simp⟩) hHeld ?_
            simp only [Act.put, List.setIfInBounds_toArray, List.set_cons_zero, List.set_cons_succ]
            refine take (i := 3) (d := some 28) (v := .pointer (some ⟨b2, o2 + k, none⟩)) rfl (by kernel_rfl) (by kernel_rfl) (by kernel_rfl) (by kernel_rfl) (fun _ _ _ h => h) (Or.inl ⟨by rfl, by intro w hSw; go_simp⟩) hHeld ?_
            simp only [Act.put, List.setIfInBounds_toArray, List.set_cons_zero, List.set_cons_succ]
            refine take (i := 4) (d := some 29) (v := .int .i64 m2) rfl (by kernel_rfl) (by kernel_rfl) (by kernel_rfl) (by kernel_rfl) (fun _ _ _ h => h) (Or.inl ⟨by rfl, by intro w hSw; obtain ⟨p00, p01, p10, p11, g1, g2, g3, g4⟩ := hSw; go_simp⟩) hHeld ?_
            simp only [Act.put, List.setIfInBounds_toArray, List.set_cons_zero, List.set_cons_succ]
            refine take (i := 5) (d := some 30) (v := .int .i64 j) rfl (by kernel_rfl) (by kernel_rfl) (by kernel_rfl) (by kernel_rfl) (fun _ _ _ h => h) (Or.inl ⟨by rfl, by intro w hSw; go_simp⟩) hHeld ?_
            simp only [Act.put, List.setIfInBounds_toArray, List.set_cons_zero, List.set_cons_succ]
            refine wpAnyH_ready (rs := [6]) (by kernel_rfl) (by simp) (Mi.readyCall2 rfl (by kernel_rfl) 81 (.tmp 29) (.tmp 30) 3 3 (by kernel_rfl) 31 (by kernel_rfl) _ _ (by kernel_rfl) (by kernel_rfl) (fun _ => rfl) (H2.out _) (fun wx hb => by rw [hb]; exact hHeld) (fun wx hb hHeld => ?_) AllReadyH.nil)
            subst hb
            simp only [Act.put, List.setIfInBounds_toArray, List.set_cons_zero, List.set_cons_succ]
            refine take (i := 7) (d := some 32) (v := .bool true) rfl (by kernel_rfl) (by kernel_rfl) (by kernel_rfl) (by kernel_rfl) (fun _ _ _ h => h) (Or.inl ⟨by rfl, by intro w hSw; go_simp⟩) hHeld ?_
            simp only [Act.put, List.setIfInBounds_toArray, List.set_cons_zero, List.set_cons_succ]
            refine take (i := 8) (d := some 33) (v := .bool true) rfl (by kernel_rfl) (by kernel_rfl) (by kernel_rfl) (by kernel_rfl) (fun _ _ _ h => h) (Or.inl ⟨by rfl, by intro w hSw; go_simp⟩) hHeld ?_
            simp only [Act.put, List.setIfInBounds_toArray, List.set_cons_zero, List.set_cons_succ]
            refine take (i := 9) (d := some 34) (v := .pointer (some ⟨w.heap.size + 1, 1, none⟩)) rfl (by kernel_rfl) (by kernel_rfl) (by kernel_rfl) (by kernel_rfl) (fun _ _ _ h => h) (Or.inl ⟨by rfl, by intro w hSw; go_simp⟩) hHeld ?_
            simp only [Act.put, List.setIfInBounds_toArray, List.set_cons_zero, List.set_cons_succ]
            refine take (i := 10) (d := some 35) (v := .slice (some ⟨b4, o4, none⟩) 8 c4) rfl (by kernel_rfl) (by kernel_rfl) (by kernel_rfl) (by kernel_rfl) (fun _ _ _ h => h) (Or.inl ⟨by rfl, by intro w hSw; obtain ⟨p00, p01, p10, p11, g1, g2, g3, g4⟩ := hSw; go_simp⟩) hHeld ?_
            simp only [Act.put, List.setIfInBounds_toArray, List.set_cons_zero, List.set_cons_succ]
            refine take (i := 11) (d := some 36) (v := .int .i64 k) rfl (by kernel_rfl) (by kernel_rfl) (by kernel_rfl) (by kernel_rfl) (fun _ _ _ h => h) (Or.inl ⟨by rfl, by intro w hSw; go_simp⟩) hHeld ?_
            simp only [Act.put, List.setIfInBounds_toArray, List.set_cons_zero, List.set_cons_succ]
            refine take (i := 12) (d := some 37) (v := .pointer (some ⟨b4, o4 + k, none⟩)) rfl (by kernel_rfl) (by kernel_rfl) (by kernel_rfl) (by kernel_rfl) (fun _ _ _ h => h) (Or.inl ⟨by rfl, by intro w hSw; go_simp⟩) hHeld ?_
            simp only [Act.put, List.setIfInBounds_toArray, List.set_cons_zero, List.set_cons_succ]
            refine take (i := 13) (d := some 38) (v := .int .i64 m4) rfl (by kernel_rfl) (by kernel_rfl) (by kernel_rfl) (by kernel_rfl) (fun _ _ _ h => h) (Or.inl ⟨by rfl, by intro w hSw; obtain ⟨p00, p01, p10, p11, g1, g2, g3, g4⟩ := hSw; go_simp⟩) hHeld ?_
            simp only [Act.put, List.setIfInBounds_toArray, List.set_cons_zero, List.set_cons_succ]
            refine take (i := 14) (d := some 39) (v := .int .i64 j) rfl (by kernel_rfl) (by kernel_rfl) (by kernel_rfl) (by kernel_rfl) (fun _ _ _ h => h) (Or.inl ⟨by rfl, by intro w hSw; go_simp⟩) hHeld ?_
            simp only [Act.put, List.setIfInBounds_toArray, List.set_cons_zero, List.set_cons_succ]
            refine wpAnyH_ready (rs := [15]) (by kernel_rfl) (by simp) (Mi.readyCall2 rfl (by kernel_rfl) 81 (.tmp 38) (.tmp 39) 3 3 (by kernel_rfl) 40 (by kernel_rfl) _ _ (by kernel_rfl) (by kernel_rfl) (fun _ => rfl) (H4.out _) (fun wx hb => by rw [hb]; exact hHeld) (fun wx hb hHeld => ?_) AllReadyH.nil)
            subst hb
            simp only [Act.put, List.setIfInBounds_toArray, List.set_cons_zero, List.set_cons_succ]
            refine take (i := 16) (d := some 41) (v := .bool false) rfl (by kernel_rfl) (by kernel_rfl) (by kernel_rfl) (by kernel_rfl) (fun _ _ _ h => h) (Or.inl ⟨by rfl, by intro w hSw; go_simp⟩) hHeld ?_
            simp only [Act.put, List.setIfInBounds_toArray, List.set_cons_zero, List.set_cons_succ]
            refine take (i := 17) (d := some 42) (v := .bool false) rfl (by kernel_rfl) (by kernel_rfl) (by kernel_rfl) (by kernel_rfl) (fun _ _ _ h => h) (Or.inl ⟨by rfl, by intro w hSw; go_simp⟩) hHeld ?_
            simp only [Act.put, List.setIfInBounds_toArray, List.set_cons_zero, List.set_cons_succ]
            refine take (i := 18) (d := some 43) (v := .pointer (some ⟨w.heap.size, 0, none⟩)) rfl (by kernel_rfl) (by kernel_rfl) (by kernel_rfl) (by kernel_rfl) (fun _ _ _ h => h) (Or.inl ⟨by rfl, by intro w hSw; go_simp⟩) hHeld ?_
            simp only [Act.put, List.setIfInBounds_toArray, List.set_cons_zero, List.set_cons_succ]
            refine take (i := 19) (d := some 44) (v := .slice (some ⟨b1, o1, none⟩) 8 c1) rfl (by kernel_rfl) (by kernel_rfl) (by kernel_rfl) (by kernel_rfl) (fun _ _ _ h => h) (Or.inl ⟨by rfl, by intro w hSw; obtain ⟨p00, p01, p10, p11, g1, g2, g3, g4⟩ := hSw; go_simp⟩) hHeld ?_
            simp only [Act.put, List.setIfInBounds_toArray, List.set_cons_zero, List.set_cons_succ]
            refine take (i := 20) (d := some 45) (v := .int .i64 k) rfl (by kernel_rfl) (by kernel_rfl) (by kernel_rfl) (by kernel_rfl) (fun _ _ _ h => h) (Or.inl ⟨by rfl, by intro w hSw; go_simp⟩) hHeld ?_
            simp only [Act.put, List.setIfInBounds_toArray, List.set_cons_zero, List.set_cons_succ]
            refine take (i := 21) (d := some 46) (v := .pointer (some ⟨b1, o1 + k, none⟩)) rfl (by kernel_rfl) (by kernel_rfl) (by kernel_rfl) (by kernel_rfl) (fun _ _ _ h => h) (Or.inl ⟨by rfl, by intro w hSw; go_simp⟩) hHeld ?_
            simp only [Act.put, List.setIfInBounds_toArray, List.set_cons_zero, List.set_cons_succ]
            refine take (i := 22) (d := some 47) (v := .int .i64 m1) rfl (by kernel_rfl) (by kernel_rfl) (by kernel_rfl) (by kernel_rfl) (fun _ _ _ h => h) (Or.inl ⟨by rfl, by intro w hSw; obtain ⟨p00, p01, p10, p11, g1, g2, g3, g4⟩ := hSw; go_simp⟩) hHeld ?_
            simp only [Act.put, List.setIfInBounds_toArray, List.set_cons_zero, List.set_cons_succ]
            refine take (i := 23) (d := some 48) (v := .int .i64 j) rfl (by kernel_rfl) (by kernel_rfl) (by kernel_rfl) (by kernel_rfl) (fun _ _ _ h => h) (Or.inl ⟨by rfl, by intro w hSw; go_simp⟩) hHeld ?_
            simp only [Act.put, List.setIfInBounds_toArray, List.set_cons_zero, List.set_cons_succ]
            refine take (i := 25) (d := some 50) (v := .pointer (some ⟨w.heap.size + 1, 0, none⟩)) rfl (by kernel_rfl) (by kernel_rfl) (by kernel_rfl) (by kernel_rfl) (fun _ _ _ h => h) (Or.inl ⟨by rfl, by intro w hSw; go_simp⟩) hHeld ?_
            simp only [Act.put, List.setIfInBounds_toArray, List.set_cons_zero, List.set_cons_succ]
            refine take (i := 26) (d := some 51) (v := .slice (some ⟨b3, o3, none⟩) 8 c3) rfl (by kernel_rfl) (by kernel_rfl) (by kernel_rfl) (by kernel_rfl) (fun _ _ _ h => h) (Or.inl ⟨by rfl, by intro w hSw; obtain ⟨p00, p01, p10, p11, g1, g2, g3, g4⟩ := hSw; go_simp⟩) hHeld ?_
            simp only [Act.put, List.setIfInBounds_toArray, List.set_cons_zero, List.set_cons_succ]
            refine take (i := 27) (d := some 52) (v := .int .i64 k) rfl (by kernel_rfl) (by kernel_rfl) (by kernel_rfl) (by kernel_rfl) (fun _ _ _ h => h) (Or.inl ⟨by rfl, by intro w hSw; go_simp⟩) hHeld ?_
            simp only [Act.put, List.setIfInBounds_toArray, List.set_cons_zero, List.set_cons_succ]
            refine take (i := 28) (d := some 53) (v := .pointer (some ⟨b3, o3 + k, none⟩)) rfl (by kernel_rfl) (by kernel_rfl) (by kernel_rfl) (by kernel_rfl) (fun _ _ _ h => h) (Or.inl ⟨by rfl, by intro w hSw; go_simp⟩) hHeld ?_
            simp only [Act.put, List.setIfInBounds_toArray, List.set_cons_zero, List.set_cons_succ]
            refine take (i := 29) (d := some 54) (v := .int .i64 m3) rfl (by kernel_rfl) (by kernel_rfl) (by kernel_rfl) (by kernel_rfl) (fun _ _ _ h => h) (Or.inl ⟨by rfl, by intro w hSw; obtain ⟨p00, p01, p10, p11, g1, g2, g3, g4⟩ := hSw; go_simp⟩) hHeld ?_
            simp only [Act.put, List.setIfInBounds_toArray, List.set_cons_zero, List.set_cons_succ]
            refine take (i := 30) (d := some 55) (v := .int .i64 j) rfl (by kernel_rfl) (by kernel_rfl) (by kernel_rfl) (by kernel_rfl) (fun _ _ _ h => h) (Or.inl ⟨by rfl, by intro w hSw; go_simp⟩) hHeld ?_
            simp only [Act.put, List.setIfInBounds_toArray, List.set_cons_zero, List.set_cons_succ]
            refine wpAnyH_ready (rs := [24]) (by kernel_rfl) (by simp) (Mi.readyCall2 rfl (by kernel_rfl) 81 (.tmp 47) (.tmp 48) 3 3 (by kernel_rfl) 49 (by kernel_rfl) _ _ (by kernel_rfl) (by kernel_rfl) (fun _ => rfl) (H1.out _) (fun wx hb => by rw [hb]; exact hHeld) (fun wx hb hHeld => ?_) AllReadyH.nil)
            subst hb
            simp only [Act.put, List.setIfInBounds_toArray, List.set_cons_zero, List.set_cons_succ]
            refine wpAnyH_ready (rs := [31]) (by kernel_rfl) (by simp) (Mi.readyCall2 rfl (by kernel_rfl) 81 (.tmp 54) (.tmp 55) 3 3 (by kernel_rfl) 56 (by kernel_rfl) _ _ (by kernel_rfl) (by kernel_rfl) (fun _ => rfl) (H3.out _) (fun wx hb => by rw [hb]; exact hHeld) (fun wx hb hHeld => ?_) AllReadyH.nil)
            subst hb
            simp only [Act.put, List.setIfInBounds_toArray, List.set_cons_zero, List.set_cons_succ]
            refine take (i := 32) (d := some 57) (v := .bool true) rfl (by kernel_rfl) (by kernel_rfl) (by kernel_rfl) (by kernel_rfl) (fun _ _ _ h => h) (Or.inl ⟨by rfl, by intro w hSw; go_simp⟩) hHeld ?_
            simp only [Act.put, List.setIfInBounds_toArray, List.set_cons_zero, List.set_cons_succ]
            refine take (i := 33) (d := some 58) (v := .bool true) rfl (by kernel_rfl) (by kernel_rfl) (by kernel_rfl) (by kernel_rfl) (fun _ _ _ h => h) (Or.inl ⟨by rfl, by intro w hSw; go_simp⟩) hHeld ?_
            simp only [Act.put, List.setIfInBounds_toArray, List.set_cons_zero, List.set_cons_succ]
            refine take (i := 34) (d := some 59) (v := .bool true) rfl (by kernel_rfl) (by kernel_rfl) (by kernel_rfl) (by kernel_rfl) (fun _ _ _ h => h) (Or.inl ⟨by rfl, by intro w hSw; go_simp⟩) hHeld ?_
            simp only [Act.put, List.setIfInBounds_toArray, List.set_cons_zero, List.set_cons_succ]
            refine wpAnyH_done (by kernel_rfl) ?_ _
            go_wp2
            go_ret
            exact ⟨Num.ret_bool (HN.out (fun h => U.out.2 (h U.out.1).2)).symm, hbel.drew⟩
        · have he : j = Bw.fbN k := by omega
          have hjz : ¬ ((j : Int) < (Bw.fbN k : Int)) := by omega
          have HY : Hid (∀ f, f < k + 1 → ∀ i, i < Bw.fbN f → (Bw.bitI (M.getD f 0) i = 1 → Bw.bitI (M'.getD f 0) i = 1 ∧ Bw.bitI (V.getD f 0) i = Bw.bitI (V'.getD f 0) i)) := (fun f hf => by by_cases e : f = k; (· subst e; intro i hi; exact HI.out i (by omega)); (· exact HG.out f (by omega)) : ∀ f, f < k + 1 → ∀ i, i < Bw.fbN f → (Bw.bitI (M.getD f 0) i = 1 → Bw.bitI (M'.getD f 0) i = 1 ∧ Bw.bitI (V.getD f 0) i = Bw.bitI (V'.getD f 0) i))
          clear HI HG he D1 R1 D2 R2 D3 R3 D4 R4
          go_wp2_with (go_at_call 80; refine (HF.out _).mono ?_; rintro e ws ⟨rfl, hb⟩; replace q0 := (hb.block _ (Array.getElem?_eq_some_iff.1 q0).1).trans q0; replace q1 := (hb.block _ (Array.getElem?_eq_some_iff.1 q1).1).trans q1; replace hbel := Rw.next hbel hb; clear hb)
          go_roundw
          case rel => exact ⟨k + 1, by omega, by go_num, hbel, q0, q1, HY.out⟩
          case measure => simp [intOf]; omega
    · have he : k = 8 := by omega
      subst he
      clear D1 R1 D2 R2 D3 R3 D4 R4
      go_wp2
      go_ret
      exact ⟨Num.ret_bool (HR.out.2 HG.out).symm, hbo⟩

end Go.Proofs.Ytkakdldhinimoaa.Mc

namespace Go.Proofs.Ytkakdldhinimoaa.La
set_option maxRecDepth 8000
open Go Go.RowKit
open Num Pl Hr Hh Pm Po Rg

end Go.Proofs.Ytkakdldhinimoaa.La

namespace Go.Proofs.Ytkakdldhinimoaa.Mt
set_option maxRecDepth 8000
open Go Go.RowKit
open Num Pl Hr Hh Hf Hg Pa Pm Po

end Go.Proofs.Ytkakdldhinimoaa.Mt

namespace Go.Proofs.Ytkakdldhinimoaa.Lb
set_option maxRecDepth 8000
open Go Go.RowKit
open Num Pl Hr Hh Pa Pm Po Pe Rg

theorem lens {V M : List Int} (h : matchB V M = true) : V.length = 8 ∧ M.length = 8 := by
  unfold matchB at h
  simp at h
  exact ⟨h.1.1, h.1.2⟩
theorem sameB_iff (x y x' y' : Nat → Int) : sameB x y x' y' = true ↔ ∀ k, k < 8 → x k = x' k ∧ y k = y' k := by
  unfold sameB
  simp [List.all_eq_true]
theorem same_lists {V M V' M' : List Int} (h : matchB V M = true) (h' : matchB V' M' = true) : sameB (nth V) (nth M) (nth V') (nth M') = (decide (V = V') && decide (M = M')) := by
  obtain ⟨a1, a2⟩ := lens h
  obtain ⟨b1, b2⟩ := lens h'
  rw [Bool.eq_iff_iff, sameB_iff]
  simp only [Bool.and_eq_true, decide_eq_true_eq]
  constructor
  · intro q
    exact ⟨Rw.ext_getD (by omega) (fun i hi => (q i (by omega)).1), Rw.ext_getD (by omega) (fun i hi => (q i (by omega)).2)⟩
  · rintro ⟨rfl, rfl⟩ k _
    exact ⟨rfl, rfl⟩
theorem same_eq (V M V' M' : List Int) : ((matchB V M && matchB V' M') && sameB (pv V M) (pm V M) (pv V' M') (pm V' M')) = (matchB V M && matchB V' M' && (decide (V = V') && decide (M = M'))) := by
  cases h : matchB V M with
  | false => simp
  | true =>
    cases h' : matchB V' M' with
    | false => simp
    | true => rw [pv_yes h, pm_yes h, pv_yes h', pm_yes h', same_lists h h']

end Go.Proofs.Ytkakdldhinimoaa.Lb

namespace Go.Proofs.Ytkakdldhinimoaa.Lc
set_option maxRecDepth 8000
open Go Go.RowKit
open Num Pl Hr Hh Hf Hg Pa Pm Po Pe Rg Lb Bw
set_option linter.unusedVariables false

/-- What a right match says of its places. -/
theorem at_ok {V M : List Int} (h : matchB V M = true) {k : Nat} (hk : k < 8) :
    fits k (M.getD k 0) = true ∧ 0 ≤ V.getD k 0 ∧ (V.getD k 0).toNat ||| (M.getD k 0).toNat = (M.getD k 0).toNat ∧ 0 ≤ M.getD k 0 ∧ M.getD k 0 < 281474976710656 ∧ V.getD k 0 < 281474976710656 := by
  unfold matchB at h
  simp only [Bool.and_eq_true, decide_eq_true_eq] at h
  have := uptoP_at h.2 k hk
  unfold pairB at this
  simp only [Bool.and_eq_true, decide_eq_true_eq] at this
  obtain ⟨h1, h2, h3⟩ := this
  have hm := fits_lt h1
  have hv : (V.getD k 0).toNat ≤ (M.getD k 0).toNat := by rw [← h3]; exact Nat.left_le_or
  exact ⟨h1, h2, h3, hm.1, hm.2, by omega⟩
theorem bounds {V M : List Int} (h : matchB V M = true) : (∀ k, k < 8 → 0 ≤ V.getD k 0 ∧ V.getD k 0 < 281474976710656) ∧ (∀ k, k < 8 → 0 ≤ M.getD k 0 ∧ M.getD k 0 < 281474976710656) :=
  ⟨fun k hk => by have := at_ok h hk; exact ⟨this.2.1, this.2.2.2.2.2⟩, fun k hk => by have := at_ok h hk; exact ⟨this.2.2.2.1, this.2.2.2.2.1⟩⟩
theorem and_nat {a b : Int} (ha : 0 ≤ a) (ha' : a < 281474976710656) (hb : 0 ≤ b) (hb' : b < 281474976710656) : bits .and .i64 a b = ((a.toNat &&& b.toNat : Nat) : Int) := Bu.and_int ha (by omega) hb (by omega)
theorem cast_eq {x : Nat} {b : Int} (hb : 0 ≤ b) : (x : Int) = b ↔ x = b.toNat := by omega

/-- What the program asks of two right matches, field by field, is what the specification asks bit by bit. -/
theorem covers_iff {V M V' M' : List Int} (h : matchB V M = true) (h' : matchB V' M' = true) :
    sameB (fun k => bits .and .i64 (nth V' k) (nth M k)) (fun k => bits .and .i64 (nth M' k) (nth M k)) (nth V) (nth M) = true ↔ ∀ f, f < 8 → ∀ i, i < fbN f → (bitI (M.getD f 0) i = 1 → bitI (M'.getD f 0) i = 1 ∧ bitI (V.getD f 0) i = bitI (V'.getD f 0) i) := by
  rw [sameB_iff]
  have key : ∀ f, f < 8 → ((bits .and .i64 (nth V' f) (nth M f) = nth V f ∧ bits .and .i64 (nth M' f) (nth M f) = nth M f) ↔ ∀ i, i < fbN f → (bitI (M.getD f 0) i = 1 → bitI (M'.getD f 0) i = 1 ∧ bitI (V.getD f 0) i = bitI (V'.getD f 0) i)) := by
    intro f hf
    obtain ⟨a1, a2, a3, a4, a5, a6⟩ := at_ok h hf
    obtain ⟨b1, b2, b3, b4, b5, b6⟩ := at_ok h' hf
    unfold nth
    rw [and_nat b2 b6 a4 a5, and_nat b4 b5 a4 a5, cast_eq a2, cast_eq a4]
    have := Bt.covers_iff (bV := (V'.getD f 0).toNat) (bM := (M'.getD f 0).toNat) a3 (fits_pow a1)
    simp only [bit_iff, bit_eq_iff]
    rw [this, Nat.and_comm (M'.getD f 0).toNat]
    exact and_comm
  exact ⟨fun q f hf => (key f hf).1 (q f hf), fun q f hf => (key f hf).2 (q f hf)⟩

set_option maxHeartbeats 1000000 in
theorem cov_wrong1 (a a' : Option Addr) (n c n' c' : Nat) (p p' : Option Addr) (m d m' d' : Nat) (w : World) (t0 : ∀ w1, Below w.heap.size w w1 → Calls Try.prog 78 #[.agg #[.slice a n c, .slice a' n' c']] w1 fun e w' => e = .returned (.bool false) ∧ Below w1.heap.size w1 w') :
    Calls Try.prog 51 #[.agg #[.slice a n c, .slice a' n' c'], .agg #[.slice p m d, .slice p' m' d']] w fun e w' => e = .returned (.bool false) ∧ Below w.heap.size w w' := by
  have T0 : Hid (∀ w1, Below w.heap.size w w1 → Calls Try.prog 78 #[.agg #[.slice a n c, .slice a' n' c']] w1 fun e w' => e = .returned (.bool false) ∧ Below w1.heap.size w1 w') := t0
  obtain ⟨W0, hW0⟩ : ∃ W0, W0 = ((w.alloc (.cells #[.slice a n c, .slice a' n' c'] 63)).alloc (.cells #[.slice p m d, .slice p' m' d'] 63)) := ⟨_, rfl⟩
  have B : Below w.heap.size w W0 := by subst hW0; exact Mi.below2 _ _ _
  clear t0
  go_enter Try.func51, Try.ntmps51
  go_wp2_with (go_at_call 78; rw [← hW0]; refine (T0.out _ B).mono ?_; rintro e wa ⟨rfl, hb⟩; replace B := Rw.next B hb)
  go_ret
  exact ⟨rfl, B⟩

set_option maxHeartbeats 1000000 in
theorem cov_wrong2 (a a' : Option Addr) (n c n' c' : Nat) (p p' : Option Addr) (m d m' d' : Nat) (w : World) (t0 : ∀ w1, Below w.heap.size w w1 → Calls Try.prog 78 #[.agg #[.slice a n c, .slice a' n' c']] w1 fun e w' => e = .returned (.bool true) ∧ Below w1.heap.size w1 w') (t1 : ∀ w1, Below w.heap.size w w1 → Calls Try.prog 78 #[.agg #[.slice p m d, .slice p' m' d']] w1 fun e w' => e = .returned (.bool false) ∧ Below w1.heap.size w1 w') :
    Calls Try.prog 51 #[.agg #[.slice a n c, .slice a' n' c'], .agg #[.slice p m d, .slice p' m' d']] w fun e w' => e = .returned (.bool false) ∧ Below w.heap.size w w' := by
  have T0 : Hid (∀ w1, Below w.heap.size w w1 → Calls Try.prog 78 #[.agg #[.slice a n c, .slice a' n' c']] w1 fun e w' => e = .returned (.bool true) ∧ Below w1.heap.size w1 w') := t0
  have T1 : Hid (∀ w1, Below w.heap.size w w1 → Calls Try.prog 78 #[.agg #[.slice p m d, .slice p' m' d']] w1 fun e w' => e = .returned (.bool false) ∧ Below w1.heap.size w1 w') := t1
  obtain ⟨W0, hW0⟩ : ∃ W0, W0 = ((w.alloc (.cells #[.slice a n c, .slice a' n' c'] 63)).alloc (.cells #[.slice p m d, .slice p' m' d'] 63)) := ⟨_, rfl⟩
  have B : Below w.heap.size w W0 := by subst hW0; exact Mi.below2 _ _ _
  clear t0 t1
  have k1 : W0.heap[w.heap.size + 1]? = some (.cells #[.slice p m d, .slice p' m' d'] 63 (0, 0)) := by subst hW0; exact at_new (by simp)
  have tok1 : True := trivial
  go_enter Try.func51, Try.ntmps51
  go_wp2_with (first
    | (go_at_call 78; clear tok1; rw [← hW0]; refine (T0.out _ B).mono ?_; rintro e wa ⟨rfl, hb⟩; replace k1 := (hb.block _ (Array.getElem?_eq_some_iff.1 k1).1).trans k1; obtain ⟨q0, q1⟩ := two k1; replace B := Rw.next B hb; clear hb; have tok2 : True := trivial)
    | (go_at_call 78; clear tok2; refine (T1.out _ B).mono ?_; rintro e wb ⟨rfl, hb⟩; replace B := Rw.next B hb))
  go_ret
  exact ⟨rfl, B⟩

theorem okT {V M : List Int} {a a' : Option Addr} {b o b' o' : Nat} (c c' : Nat) {w : World} (h1 : Rd w a b o V) (h2 : Rd w a' b' o' M) (wV : Wide V) {P : Bool} (hP : matchB V M = P) :
    ∀ w1, Below w.heap.size w w1 → Calls Try.prog 78 #[.agg #[.slice a V.length c, .slice a' M.length c']] w1 fun e w' => e = .returned (.bool P) ∧ Below w1.heap.size w1 w' := by
  intro w1 hb
  have := Ms.okS_any a a' b o c b' o' c' V M w1 (h1.below hb) (h2.below hb) wV
  rw [hP] at this
  exact this

theorem coversS_any {V M V' M' : List Int} (wV : Wide V) (wV' : Wide V') :
    CMM 51 V M V' M' (Bo ((matchB V M && matchB V' M') && sameB (fun k => bits .and .i64 (pv V' M' k) (pm V M k)) (fun k => bits .and .i64 (pm V' M' k) (pm V M k)) (pv V M) (pm V M))) := by
  intro a a' b o c b' o' c' p p' q r s q' r' s' w h1 h2 h3 h4
  cases h : matchB V M with
  | false => exact cov_wrong1 _ _ _ _ _ _ _ _ _ _ _ _ w (okT c c' h1 h2 wV h)
  | true =>
    cases h' : matchB V' M' with
    | false => exact cov_wrong2 _ _ _ _ _ _ _ _ _ _ _ _ w (okT c c' h1 h2 wV h) (okT s s' h3 h4 wV' h')
    | true =>
      obtain ⟨l1, l2⟩ := lens h
      obtain ⟨l3, l4⟩ := lens h'
      obtain ⟨d1, d2⟩ := bounds h
      obtain ⟨d3, d4⟩ := bounds h'
      have t0 := okT c c' h1 h2 wV h
      have t1 := okT s s' h3 h4 wV' h'
      obtain rfl := rd_some h1 l1
      obtain rfl := rd_some h2 l2
      obtain rfl := rd_some h3 l3
      obtain rfl := rd_some h4 l4
      have g1 := h1.cell; have g2 := h2.cell; have g3 := h3.cell; have g4 := h4.cell
      rw [l1] at t0 g1; rw [l2] at t0 g2; rw [l3] at t1 g3; rw [l4] at t1 g4
      rw [l1, l2, l3, l4, pv_yes h, pm_yes h, pv_yes h', pm_yes h']
      exact Mc.coversS b o c b' o' c' q r s q' r' s' V M V' M' w g1 g2 g3 g4 d1 d2 d3 d4 t0 t1 _ (covers_iff h h')

theorem coversR (V M V' M' : List Int) (wV : Wide V) (_wM : Wide M) (wV' : Wide V') (_wM' : Wide M') : ∃ R, CMM 50 V M V' M' (Bo R) ∧ CMM 51 V M V' M' (Bo R) :=
  ⟨_, fun a a' b o c b' o' c' p p' q r s q' r' s' w h1 h2 h3 h4 => Mi.covers_l a a' p p' _ _ _ _ c c' s s' _ _ _ _ _ w (Mi.two_any c c' s s' h1 h2 wV h3 h4 wV'), coversS_any wV wV'⟩

end Go.Proofs.Ytkakdldhinimoaa.Lc

namespace Go.Proofs.Ytkakdldhinimoaa.Mq
set_option maxRecDepth 8000
open Go Go.RowKit
open Num Pl Hr Hh Hf Hg Pa Pm Po Pq Pe Mi Bw Mo Mp
set_option linter.unusedSimpArgs false
set_option linter.unusedVariables false

set_option maxHeartbeats 2000000 in
theorem hits_l (a a' : Option Addr) (n c n' c' : Nat) (p : Option Addr) (m d : Nat) (HV HM : List Int) (R : Bool) (w : World)
    (t0 : ∀ w1, Below w.heap.size w w1 → Calls Try.prog 89 #[.agg #[.slice p m d]] w1 (ResM w1 HV HM))
    (t1 : ∀ w1, Below w.heap.size w w1 → ∀ (aV aM : Option Addr) (gV cV gM cM : Nat), Rd w1 aV gV 0 HV → Rd w1 aM gM 0 HM → Calls Try.prog 50 #[.agg #[.slice a n c, .slice a' n' c'], .agg #[.slice aV HV.length cV, .slice aM HM.length cM]] w1 fun e w' => e = .returned (.bool R) ∧ Below w1.heap.size w1 w') :
    Calls Try.prog 52 #[.agg #[.slice a n c, .slice a' n' c'], .agg #[.slice p m d]] w fun e w' => e = .returned (.bool R) ∧ Below w.heap.size w w' := by
  have T0 : Hid (∀ w1, Below w.heap.size w w1 → Calls Try.prog 89 #[.agg #[.slice p m d]] w1 (ResM w1 HV HM)) := t0
  have T1 : Hid (∀ w1, Below w.heap.size w w1 → ∀ (aV aM : Option Addr) (gV cV gM cM : Nat), Rd w1 aV gV 0 HV → Rd w1 aM gM 0 HM → Calls Try.prog 50 #[.agg #[.slice a n c, .slice a' n' c'], .agg #[.slice aV HV.length cV, .slice aM HM.length cM]] w1 fun e w' => e = .returned (.bool R) ∧ Below w1.heap.size w1 w') := t1
  obtain ⟨W0, hW0⟩ : ∃ W0, W0 = (w.alloc (.cells #[.slice a n c, .slice a' n' c'] 63)).alloc (.cells #[.slice p m d] 42) := ⟨_, rfl⟩
  have B : Below w.heap.size w W0 := by subst hW0; exact Mi.below2 _ _ _
  have k0 : W0.heap[w.heap.size]? = some (.cells #[.slice a n c, .slice a' n' c'] 63 (0, 0)) := by subst hW0; rw [at_old (by simp), at_new rfl]
  have k1 : W0.heap[w.heap.size + 1]? = some (.cells #[.slice p m d] 42 (0, 0)) := by subst hW0; exact at_new (by simp)
  have z0 := (Array.getElem?_eq_some_iff.1 k0).1
  have z1 := (Array.getElem?_eq_some_iff.1 k1).1
  clear t0 t1
  go_enter Try.func52, Try.ntmps52
  go_wp2
  rw [← hW0]
  clear hW0
  refine wp_region_held_drew (S := (fun w' => w'.heap[w.heap.size]? = some (.cells #[.slice a n c, .slice a' n' c'] 63 (0, 0)) ∧ w'.heap[w.heap.size + 1]? = some (.cells #[.slice p m d] 42 (0, 0)))) (by kernel_rfl) ⟨k0, k1⟩ (fun hHeld => ?_)
  refine take (i := 0) (d := some 5) (v := .agg #[.slice a n c, .slice a' n' c']) rfl (by kernel_rfl) (by kernel_rfl) (by kernel_rfl) (by kernel_rfl) (fun _ _ _ h => h) (Or.inl ⟨by rfl, by intro w hSw; obtain ⟨q0, q1⟩ := hSw; obtain ⟨t0, t1⟩ := two q0; go_simp⟩) hHeld ?_
  simp only [Act.put, List.setIfInBounds_toArray, List.set_cons_zero, List.set_cons_succ]
  refine take (i := 1) (d := some 6) (v := .agg #[.slice p m d]) rfl (by kernel_rfl) (by kernel_rfl) (by kernel_rfl) (by kernel_rfl) (fun _ _ _ h => h) (Or.inl ⟨by rfl, by intro w hSw; obtain ⟨q0, q1⟩ := hSw; have t0 := one q1; go_simp⟩) hHeld ?_
  simp only [Act.put, List.setIfInBounds_toArray, List.set_cons_zero, List.set_cons_succ]
  refine wpAnyH_ready (rs := [2]) (by kernel_rfl) (by simp) (Rg.call1 rfl (by kernel_rfl) 89 (.tmp 6) 42 (by kernel_rfl) 7 (by kernel_rfl) (.agg #[.slice p m d]) (by kernel_rfl) (fun _ => rfl) (T0.out _ B.drew) ?_ AllReadyH.nil)
  rintro e w3 ⟨aV, gV, cV, aM, gM, cM, rfl, hV, hM, l1, l2, l3, hb⟩
  refine ⟨_, rfl, ⟨(hb.block _ z0).trans k0, (hb.block _ z1).trans k1⟩, fun hHeld => ?_⟩
  simp only [Act.put, List.setIfInBounds_toArray, List.set_cons_zero, List.set_cons_succ]
  have B1 := Rw.next B.drew hb
  have k0a : w3.heap[w.heap.size]? = some (.cells #[.slice a n c, .slice a' n' c'] 63 (0, 0)) := (hb.block _ z0).trans k0
  have k1a : w3.heap[w.heap.size + 1]? = some (.cells #[.slice p m d] 42 (0, 0)) := (hb.block _ z1).trans k1
  have z0a := Nat.lt_of_lt_of_le z0 hb.size
  have z1a := Nat.lt_of_lt_of_le z1 hb.size
  clear hb
  refine wpAnyH_ready (rs := [3]) (by kernel_rfl) (by simp) (Rg.call2 rfl (by kernel_rfl) 50 (.tmp 5) (.tmp 7) 63 63 (by kernel_rfl) 8 (by kernel_rfl) (.agg #[.slice a n c, .slice a' n' c']) (.agg #[.slice aV HV.length cV, .slice aM HM.length cM]) (by kernel_rfl) (by kernel_rfl) (fun _ => rfl) (T1.out _ B1 _ _ _ _ _ _ hV.rd hM.rd) ?_ AllReadyH.nil)
  rintro e w4 ⟨rfl, hb⟩
  refine ⟨_, rfl, ⟨(hb.block _ z0a).trans k0a, (hb.block _ z1a).trans k1a⟩, fun hHeld => ?_⟩
  simp only [Act.put, List.setIfInBounds_toArray, List.set_cons_zero, List.set_cons_succ]
  refine take (i := 4) (d := some 4) (v := .bool R) rfl (by kernel_rfl) (by kernel_rfl) (by kernel_rfl) (by kernel_rfl) (fun _ _ _ h => h) (Or.inl ⟨by rfl, by intro w hSw; go_simp⟩) hHeld ?_
  simp only [Act.put, List.setIfInBounds_toArray, List.set_cons_zero, List.set_cons_succ]
  refine wpAnyH_done (by kernel_rfl) ?_ _
  go_wp2_with fail
  go_ret
  exact ⟨rfl, Rw.next B1 hb⟩

theorem full_eq (k : Nat) : fullI k = ((2 ^ fbN k - 1 : Nat) : Int) := by
  unfold fullI topI Bt.top
  rw [Nat.sub_self, Nat.pow_zero, Nat.mul_one]
theorem full_lt (k : Nat) : 0 ≤ fullI k ∧ fullI k < 281474976710656 := by
  rw [full_eq]
  have h1 : (2 ^ fbN k : Nat) ≤ 2 ^ 48 := Nat.pow_le_pow_right (by decide) (fbN_le k)
  have h3 : (2 ^ fbN k : Nat) ≤ 281474976710656 := h1
  have hp : 0 < 2 ^ fbN k := Nat.pow_pos (by decide)
  generalize (2 ^ fbN k : Nat) = Q at *
  omega
theorem fb_pos {k : Nat} (h : k < 8) : 0 < fbN k := by
  rcases Hs.k8 h with rfl | rfl | rfl | rfl | rfl | rfl | rfl | rfl <;> decide
theorem fits_full {k : Nat} (h : k < 8) : fits k (fullI k) = true := by
  rcases Hs.k8 h with rfl | rfl | rfl | rfl | rfl | rfl | rfl | rfl <;> decide
theorem or_full {n b : Nat} (h : n < 2 ^ b) : n ||| (2 ^ b - 1) = 2 ^ b - 1 := by
  rw [Bt.within_iff]
  intro i hi
  rw [Nat.testBit_two_pow_sub_one]
  refine decide_eq_true (Nat.lt_of_not_le fun hle => ?_)
  rw [Bt.testBit_out h hle] at hi
  exact absurd hi (by simp)
theorem and_full {n b : Nat} (h : n < 2 ^ b) : (2 ^ b - 1) &&& n = n := by
  have := (Bt.within_or_and n (2 ^ b - 1)).1 (or_full h)
  rw [Nat.and_comm]
  exact this

/-- What a right head says of its places. -/
theorem head_at {H : List Int} (h : headB H = true) {k : Nat} (hk : k < 8) : fits k (H.getD k 0) = true := by
  unfold headB at h
  simp only [Bool.and_eq_true, decide_eq_true_eq] at h
  have key : ∀ j, upto H j = true → ∀ i, i < j → fits i (H.getD i 0) = true := by
    intro j
    induction j with
    | zero => intro _ i hi; omega
    | succ j ih =>
      intro hu i hi
      simp only [upto, Bool.and_eq_true] at hu
      by_cases e : i = j
      · subst e; exact hu.2
      · exact ih hu.1 i (by omega)
  exact key 8 h.2 k hk
theorem head_len {H : List Int} (h : headB H = true) : H.length = 8 := by
  unfold headB at h
  simp only [Bool.and_eq_true, decide_eq_true_eq] at h
  exact h.1
theorem lst_getD (v : Nat → Int) {k : Nat} (h : k < 8) : (lst v).getD k 0 = v k := lst_at v h
theorem of_ok {H : List Int} (h : headB H = true) : matchB (lst (nth H)) (lst fullI) = true := by
  unfold matchB
  rw [lst_len, lst_len]
  have key : ∀ j, j ≤ 8 → uptoP (lst (nth H)) (lst fullI) j = true := by
    intro j
    induction j with
    | zero => intro _; rfl
    | succ j ih =>
      intro hj
      simp only [uptoP, ih (by omega), Bool.true_and]
      rw [lst_at _ (by omega), lst_at _ (by omega)]
      unfold pairB
      have hf := head_at h (k := j) (by omega)
      rw [fits_full (by omega)]
      simp only [Bool.true_and, decide_eq_true_eq]
      refine ⟨(fits_lt hf).1, ?_⟩
      rw [full_eq, Int.toNat_natCast]
      exact or_full (fits_pow hf)
  rw [key 8 (Nat.le_refl _)]
  rfl
theorem wide_lst {v : Nat → Int} (h : ∀ k, k < 8 → I64 (v k)) : Wide (lst v) := by
  intro k
  by_cases hk : k < 8
  · rw [lst_at v hk]; exact h k hk
  · have e : (lst v).getD k 0 = 0 := by simp [List.getD, List.getElem?_eq_none (by rw [lst_len]; omega : (lst v).length ≤ k)]
    rw [e]
    unfold I64
    omega

/-- What the program asks of a right match and a right head is what the specification asks bit by bit. -/
theorem hits_iff {V M H : List Int} (h : matchB V M = true) (hh : headB H = true) :
    sameB (fun k => bits .and .i64 (nth (lst (nth H)) k) (nth M k)) (fun k => bits .and .i64 (nth (lst fullI) k) (nth M k)) (nth V) (nth M) = true ↔ ∀ f, f < 8 → ∀ i, i < fbN f → (bitI (M.getD f 0) i = 1 → bitI (V.getD f 0) i = bitI (H.getD f 0) i) := by
  rw [Lb.sameB_iff]
  have key : ∀ f, f < 8 → ((bits .and .i64 (nth (lst (nth H)) f) (nth M f) = nth V f ∧ bits .and .i64 (nth (lst fullI) f) (nth M f) = nth M f) ↔ ∀ i, i < fbN f → (bitI (M.getD f 0) i = 1 → bitI (V.getD f 0) i = bitI (H.getD f 0) i)) := by
    intro f hf
    obtain ⟨a1, a2, a3, a4, a5, a6⟩ := Lc.at_ok h hf
    have b1 := head_at hh hf
    have b2 := fits_lt b1
    have b3 := full_lt f
    unfold nth
    rw [lst_at _ hf, lst_at _ hf, Lc.and_nat b2.1 b2.2 a4 a5, Lc.and_nat b3.1 b3.2 a4 a5, Lc.cast_eq a2, Lc.cast_eq a4, full_eq, Int.toNat_natCast, and_full (fits_pow a1)]
    simp only [and_true]
    have := Bt.hits_iff (H := (H.getD f 0).toNat) a3 (fits_pow a1)
    simp only [bit_iff, bit_eq_iff]
    rw [this]
  exact ⟨fun q f hf => (key f hf).1 (q f hf), fun q f hf => (key f hf).2 (q f hf)⟩

end Go.Proofs.Ytkakdldhinimoaa.Mq

namespace Go.Proofs.Ytkakdldhinimoaa.Yl
set_option maxRecDepth 8000
set_option linter.unusedSimpArgs false
open Go Go.RowKit
open Num Pl Hr Hh Pq Ht Yh Yj Yk Yb Yc Yd

theorem hid {p : Prop} (h : p) : Hid p := h
theorem upto_of {l : List Int} : ∀ j : Nat, (∀ i : Nat, i < j → Hg.fits i (l.getD i 0) = true) → Hg.upto l j = true
  | 0, _ => rfl
  | j + 1, h => Hg.upto_step (upto_of j fun i hi => h i (by omega)) (h j (by omega))
theorem headB_set {l : List Int} {F : Nat} {x : Int} (h : Hg.headB l = true) (hF : Hg.fits F x = true) : Hg.headB (l.set F x) = true := by
  have hl := head_len h
  unfold Hg.headB
  rw [List.length_set, hl]
  simp only [decide_true, Bool.true_and]
  refine upto_of 8 fun i hi => ?_
  rw [set_at (by omega)]
  split
  · next e => subst e; exact hF
  · exact Mq.head_at h hi

/-- The head behind the first k actions. -/
def nowK (l : List A3) (h : List Int) : Nat → List Int
  | 0 => h
  | k + 1 => next (nowK l h k) (l.getD k z3)
/-- What the first k actions send. -/
def sentK (hin : Int) (ports : List Int) (l : List A3) (h : List Int) : Nat → List (Int × List Int)
  | 0 => []
  | k + 1 => sentK hin ports l h k ++ goes hin ports (nowK l h (k + 1)) (l.getD k z3)
theorem act_set {x : A3} (hx : actB x = true) (h3 : x.1 = 3) : ∃ F : Nat, x.2.1 = F ∧ F < 8 ∧ Hg.fits F x.2.2 = true := by
  obtain ⟨x0, a, b⟩ := x
  simp only at h3
  subst h3
  rw [actB_set, Bool.and_eq_true] at hx
  have h1 := of_decide_eq_true hx.1
  refine ⟨a.toNat, ?_, ?_, ?_⟩
  · simp only; omega
  · omega
  · have : ((a.toNat : Nat) : Int) = a := by omega
    rw [this]; exact hx.2
theorem head_next {x : A3} {now : List Int} (hx : actB x = true) (h : Hg.headB now = true) : Hg.headB (next now x) = true := by
  unfold next
  split
  · next h3 =>
    obtain ⟨F, e, hF, hf⟩ := act_set hx h3
    rw [e]
    exact headB_set h hf
  · exact h
theorem head_nowK {l : List A3} {h : List Int} (hB : Hg.headB h = true) : ∀ k, pre l k → Hg.headB (nowK l h k) = true
  | 0, _ => hB
  | k + 1, hp => head_next (hp k (by omega)) (head_nowK hB k fun i hi => hp i (by omega))
theorem goes_len (hin : Int) (ports now : List Int) (x : A3) (h : ports.length ≤ 8) : (goes hin ports now x).length ≤ 8 := by
  unfold goes
  split
  · split <;> simp
  · split
    · rw [List.length_map]; exact Nat.le_trans (List.length_filter_le _ _) h
    · simp
theorem sentK_len (hin : Int) (ports : List Int) (l : List A3) (h : List Int) (hp : ports.length ≤ 8) : ∀ k, (sentK hin ports l h k).length ≤ 8 * k
  | 0 => by simp [sentK]
  | k + 1 => by
    have := sentK_len hin ports l h hp k
    have := goes_len hin ports (nowK l h (k + 1)) (l.getD k z3) hp
    simp only [sentK, List.length_append]; omega

theorem do_any {w : World} {P B : Nat} {hin : Int} {pa : Option Addr} {pb po pc : Nat} {ports : List Int} {hb ho hc : Nat} {now : List Int} {v : Value} {Q : List E} (x : A3) (hx : actB x = true) (st : St w P B hin pa pb po pc ports hb ho hc now v Q) (hB : Hg.headB now = true) (hQ : Q.length + ports.length ≤ 4096) :
    Calls Try.prog 66 #[.pointer (some ⟨P, 0, none⟩), actV x] w (Did w P B hin pa pb po pc ports (next now x) (said Q ++ goes hin ports (next now x) x)) := by
  obtain ⟨x0, x1, x2⟩ := x
  by_cases k1 : x0 = 1
  · subst k1
    have e1 : actV (1, x1, x2) = .iface 124 (.agg #[.int .i64 x1]) := rfl
    have e2 : next now (1, x1, x2) = now := rfl
    rw [e1, e2]
    cases hm : decide (x1 ∈ ports)
    · have e3 : goes hin ports now (1, x1, x2) = [] := by simp [goes]; intro h; exact absurd h (of_decide_eq_false hm)
      rw [e3, List.append_nil]
      exact do1_no st hm
    · by_cases hi : x1 = hin
      · have e3 : goes hin ports now (1, x1, x2) = [] := by simp [goes, hi]
        rw [e3, List.append_nil]
        exact do1_in st hi hm
      · have e3 : goes hin ports now (1, x1, x2) = [(x1, now)] := by simp [goes, hi, of_decide_eq_true hm]
        rw [e3]
        exact do1_out st hi (by omega) hm
  by_cases k2 : x0 = 2
  · subst k2
    have e1 : actV (2, x1, x2) = .iface 127 (.agg #[]) := rfl
    have e2 : next now (2, x1, x2) = now := rfl
    have e3 : goes hin ports now (2, x1, x2) = flood hin ports now ports.length := by simp [goes, flood]
    rw [e1, e2, e3]
    exact do2 st hQ
  by_cases k3 : x0 = 3
  · subst k3
    obtain ⟨F, e, hF, hf⟩ := act_set hx rfl
    simp only at e hf
    subst e
    have e1 : actV (3, (F : Int), x2) = .iface 129 (.agg #[.int .i64 F, .int .i64 x2]) := rfl
    have e2 : next now (3, (F : Int), x2) = now.set F x2 := rfl
    have e3 : goes hin ports (now.set F x2) (3, (F : Int), x2) = [] := rfl
    rw [e1, e2, e3, List.append_nil]
    exact do3 st hB hf
  have hk : x0 = 4 ∨ x0 = 5 := by
    simp [actB, k1, k3] at hx
    omega
  rcases hk with rfl | rfl
  · have e1 : actV (4, x1, x2) = .iface 139 (.agg #[]) := rfl
    have e2 : next now (4, x1, x2) = now := rfl
    have e3 : goes hin ports now (4, x1, x2) = [] := rfl
    rw [e1, e2, e3, List.append_nil]
    exact do4 st
  · have e1 : actV (5, x1, x2) = .iface 140 (.agg #[]) := rfl
    have e2 : next now (5, x1, x2) = now := rfl
    have e3 : goes hin ports now (5, x1, x2) = [] := rfl
    rw [e1, e2, e3, List.append_nil]
    exact do5 st

/-- What is sent, and a bool, are handed back in memory of the call's own. -/
def ResP (w : World) (ok : Bool) (L : List (Int × List Int)) (e : Ending) (w' : World) : Prop :=
  ∃ B v Q, e = .returned (.tuple #[v, .bool ok]) ∧ Sn w' B v Q ∧ w.heap.size ≤ B ∧ said Q = L ∧ Below w.heap.size w w'
theorem res_no {w w' : World} (h : Below w.heap.size w w') : ResP w false [] (.returned (.tuple #[.slice none 0 0, .bool false])) w' := ⟨w.heap.size, _, [], rfl, Sn.nil _ _, Nat.le_refl _, rfl, h⟩

set_option maxHeartbeats 4000000 in
theorem perfI_no (ha : Option Addr) (hb ho hc : Nat) (h : List Int) (pa : Option Addr) (pb po pc : Nat) (ports : List Int) (a : Option Addr) (b off cap : Nat) (l : List A3) (w : World)
    (hh : Rd w ha hb ho h) (hp : Rd w pa pb po ports) (hl : Yb.Rd w a b off l) (hno : (actsB l && Hg.headB h && Ya.portsB ports) = false) :
    Calls Try.prog 28 #[.agg #[.slice ha h.length hc], .slice pa ports.length pc, .slice a l.length cap] w (ResP w false []) := by
  obtain ⟨W0, hW0⟩ : ∃ W0, W0 = w.alloc (.cells #[.slice ha h.length hc] 42) := ⟨_, rfl⟩
  have B0 : Below w.heap.size w W0 := by subst hW0; exact below_alloc1 _ _
  have k0 : W0.heap[w.heap.size]? = some (.cells #[.slice ha h.length hc] 42 (0, 0)) := by subst hW0; exact at_new rfl
  have z0 : w.heap.size < W0.heap.size := by subst hW0; simp
  replace hh := hh.below B0
  replace hp := hp.below B0
  replace hl := hl.below B0
  cases h1 : actsB l
  · go_enter Try.func28, Try.ntmps28
    go_wp2_with (go_at_call 58; rw [← hW0]; refine (acts_any _ _ _ _ _ _ hl).mono ?_; rintro e w1 ⟨hb1, q0, q1⟩; obtain rfl := q0 h1; clear q0 q1)
    exact bodyPost_ret (v := .tuple #[.slice none 0 0, .bool false]) (by simp [results, Try.results28, go_sem]) rfl (res_no (Rw.next B0 hb1))
  · cases h2 : Hg.headB h
    · go_enter Try.func28, Try.ntmps28
      go_wp2_with (first | (go_at_call 58; rw [← hW0]; refine (acts_any _ _ _ _ _ _ hl).mono ?_; rintro e w1 ⟨hb1, q0, q1⟩; obtain ⟨rfl, _⟩ := q1 h1; clear q0 q1; replace hh := hh.below hb1; replace k0 := (hb1.block _ z0).trans k0; replace B0 := Rw.next B0 hb1; have c0 := Hh.one k0) | (go_at_call 41; refine (Hg.implOk_any _ _ _ _ _ _ hh).mono ?_; rw [h2]; rintro e w2 ⟨rfl, hb2⟩))
      exact bodyPost_ret (v := .tuple #[.slice none 0 0, .bool false]) (by simp [results, Try.results28, go_sem]) rfl (res_no (Rw.next B0 hb2))
    · have h3 : Ya.portsB ports = false := by rw [h1, h2] at hno; simpa using hno
      go_enter Try.func28, Try.ntmps28
      go_wp2_with (first | (go_at_call 58; rw [← hW0]; refine (acts_any _ _ _ _ _ _ hl).mono ?_; rintro e w1 ⟨hb1, q0, q1⟩; obtain ⟨rfl, _⟩ := q1 h1; clear q0 q1; replace hh := hh.below hb1; replace hp := hp.below hb1; replace k0 := (hb1.block _ z0).trans k0; replace B0 := Rw.next B0 hb1; have c0 := Hh.one k0) | (go_at_call 41; refine (Hg.implOk_any _ _ _ _ _ _ hh).mono ?_; rw [h2]; rintro e w2 ⟨rfl, hb2⟩; replace hp := hp.below hb2) | (go_at_call 14; refine (Ya.portsI _ _ _ _ _ _ hp).mono ?_; rw [h3]; rintro e w3 ⟨rfl, hw⟩; replace hw := hw.symm; subst hw))
      exact bodyPost_ret (v := .tuple #[.slice none 0 0, .bool false]) (by simp [results, Try.results28, go_sem]) rfl (res_no (Rw.next B0 hb2))

set_option maxHeartbeats 4000000 in
theorem perfI_yes (ha : Option Addr) (hb ho hc : Nat) (h : List Int) (pa : Option Addr) (pb po pc : Nat) (ports : List Int) (a : Option Addr) (b off cap : Nat) (l : List A3) (w : World)
    (hh : Rd w ha hb ho h) (hp : Rd w pa pb po ports) (hl : Yb.Rd w a b off l) (h1 : actsB l = true) (h2 : Hg.headB h = true) (h3 : Ya.portsB ports = true) :
    Calls Try.prog 28 #[.agg #[.slice ha h.length hc], .slice pa ports.length pc, .slice a l.length cap] w (ResP w true (sentK (h.getD 0 0) ports l h l.length)) := by
  have h8 := head_len h2
  obtain ⟨rfl, hin0⟩ := Hg.at_rd hh (k := 0) (by omega)
  obtain ⟨hin, ehin⟩ : ∃ hin, hin = h.getD 0 0 := ⟨_, rfl⟩
  rw [← ehin] at hin0 ⊢
  have HIN : Hid (hin = h.getD 0 0) := ehin
  clear ehin
  rw [Nat.add_zero] at hin0
  have hp8 : ports.length ≤ 8 := (of_decide_eq_true h3).1
  obtain ⟨hl12, hpre⟩ := actsB_out h1
  obtain ⟨W0, hW0⟩ : ∃ W0, W0 = w.alloc (.cells #[.slice (some ⟨hb, ho, none⟩) 8 hc] 42) := ⟨_, rfl⟩
  have B0 : Below w.heap.size w W0 := by subst hW0; exact below_alloc1 _ _
  have k0 : W0.heap[w.heap.size]? = some (.cells #[.slice (some ⟨hb, ho, none⟩) 8 hc] 42 (0, 0)) := by subst hW0; exact at_new rfl
  have z0 : w.heap.size < W0.heap.size := by subst hW0; simp
  have ZW : Hid (W0.heap.size = w.heap.size + 1) := by unfold Hid; subst hW0; simp
  replace hh := hh.below B0
  replace hp := hp.below B0
  replace hl := hl.below B0
  have hOk := fun w1 (q : Rd w1 (some ⟨hb, ho, none⟩) hb ho h) => Hg.implOk_any _ _ _ hc _ _ q
  rw [h8] at hOk
  have HOK := hid hOk
  clear hOk
  rw [h8]
  obtain ⟨n, hn⟩ : ∃ n, n = l.length := ⟨_, rfl⟩
  have HACT := hid (acts_any a b off cap l W0 hl)
  rw [← hn] at HACT hl12 hpre ⊢
  have HN : Hid (n = l.length) := hn
  have HPRE : Hid (pre l n) := hpre
  clear hpre hn hl
  go_enter Try.func28, Try.ntmps28
  go_wp2_with (first | (go_at_call 58; rw [← hW0]; refine HACT.out.mono ?_; rintro e w1 ⟨hb1, q0, q1⟩; obtain ⟨rfl, hrow⟩ := q1 h1; clear q0 q1 HACT; have zr := hrow.lt; replace hh := hh.below hb1; replace hp := hp.below hb1; replace k0 := (hb1.block _ z0).trans k0; replace z0 := Nat.lt_of_lt_of_le z0 hb1.size; replace B0 := Rw.next B0 hb1; have c0 := Hh.one k0) | (go_at_call 41; refine (HOK.out _ hh).mono ?_; rw [h2]; rintro e w2 ⟨rfl, hb2⟩; replace hh := hh.below hb2; replace hp := hp.below hb2; replace k0 := (hb2.block _ z0).trans k0; replace z0 := Nat.lt_of_lt_of_le z0 hb2.size; replace hrow := hrow.of_block (hb2.block _ zr); replace B0 := Rw.next B0 hb2) | (go_at_call 14; refine (Ya.portsI _ _ _ _ _ _ hp).mono ?_; rw [h3]; rintro e w3 ⟨rfl, hw⟩; replace hw := hw.symm; subst hw))
  clear HOK
  have x0 := Hh.one k0
  have x1 : w2.cell? ⟨hb, ho, none⟩ = some (.int .i64 hin) := (B0.cell (World.block_lt_of_cell? _ _ hin0)).trans hin0
  have x0d : w2.drew.cell? ⟨w.heap.size, 0, none⟩ = some (.slice (some ⟨hb, ho, none⟩) 8 hc) := x0
  have x1d : w2.drew.cell? ⟨hb, ho, none⟩ = some (.int .i64 hin) := x1
  refine wp_region_held_drew (S := fun w' => w'.cell? ⟨w.heap.size, 0, none⟩ = some (.slice (some ⟨hb, ho, none⟩) 8 hc) ∧ w'.cell? ⟨hb, ho, none⟩ = some (.int .i64 hin)) (by kernel_rfl) ⟨x0, x1⟩ (fun hHeld => ?_)
  refine take (i := 0) (d := some 30) (v := .pointer (some ⟨w.heap.size, 0, none⟩)) rfl (by kernel_rfl) (by kernel_rfl) (by kernel_rfl) (by kernel_rfl) (fun _ _ _ h => h) (Or.inl ⟨by rfl, by intro w hSw; go_simp⟩) hHeld ?_
  simp only [Act.put, List.setIfInBounds_toArray, List.set_cons_zero, List.set_cons_succ]
  refine take (i := 1) (d := some 31) (v := .slice (some ⟨hb, ho, none⟩) 8 hc) rfl (by kernel_rfl) (by kernel_rfl) (by kernel_rfl) (by kernel_rfl) (fun _ _ _ h => h) (Or.inl ⟨by rfl, by intro w hSw; have q1 := hSw.1; go_simp⟩) hHeld ?_
  simp only [Act.put, List.setIfInBounds_toArray, List.set_cons_zero, List.set_cons_succ]
  refine take (i := 2) (d := some 32) (v := .pointer (some ⟨hb, ho, none⟩)) rfl (by kernel_rfl) (by kernel_rfl) (by kernel_rfl) (by kernel_rfl) (fun _ _ _ h => h) (Or.inl ⟨by rfl, by intro w hSw; go_simp⟩) hHeld ?_
  simp only [Act.put, List.setIfInBounds_toArray, List.set_cons_zero, List.set_cons_succ]
  refine take (i := 3) (d := some 33) (v := .int .i64 hin) rfl (by kernel_rfl) (by kernel_rfl) (by kernel_rfl) (by kernel_rfl) (fun _ _ _ h => h) (Or.inl ⟨by rfl, by intro w hSw; have q1 := hSw.2; go_simp⟩) hHeld ?_
  simp only [Act.put, List.setIfInBounds_toArray, List.set_cons_zero, List.set_cons_succ]
  refine take (i := 4) (d := some 34) (v := .slice pa ports.length pc) rfl (by kernel_rfl) (by kernel_rfl) (by kernel_rfl) (by kernel_rfl) (fun _ _ _ h => h) (Or.inl ⟨by rfl, by intro w hSw; go_simp⟩) hHeld ?_
  simp only [Act.put, List.setIfInBounds_toArray, List.set_cons_zero, List.set_cons_succ]
  refine take (i := 5) (d := some 35) (v := .agg #[.slice (some ⟨hb, ho, none⟩) 8 hc]) rfl (by kernel_rfl) (by kernel_rfl) (by kernel_rfl) (by kernel_rfl) (fun _ _ _ h => h) (Or.inl ⟨by rfl, by intro w hSw; have q1 := hSw.1; go_simp⟩) hHeld ?_
  simp only [Act.put, List.setIfInBounds_toArray, List.set_cons_zero, List.set_cons_succ]
  refine take (i := 6) (d := some 36) (v := .agg #[.int .i64 hin, .slice pa ports.length pc, .slice (some ⟨hb, ho, none⟩) 8 hc, .slice none 0 0]) rfl (by kernel_rfl) (by kernel_rfl) (by kernel_rfl) (by kernel_rfl) (fun _ _ _ h => h) (Or.inl ⟨by rfl, by intro w hSw; go_simp⟩) hHeld ?_
  simp only [Act.put, List.setIfInBounds_toArray, List.set_cons_zero, List.set_cons_succ]
  refine wpAnyH_ready (rs := [7]) (by kernel_rfl) (by simp) (readyRun (i := 7) rfl (by kernel_rfl) (some 10) (by kernel_rfl) (v := .pointer (some ⟨w2.heap.size, 0, none⟩)) (w' := w2.drew.alloc (.cells #[.int .i64 0, .slice none 0 0, .slice none 0 0, .slice none 0 0] 86)) (by go_simp) ⟨(World.cell?_alloc_some _ _ _ (by rw [x0d]; rfl)).trans x0d, (World.cell?_alloc_some _ _ _ (by rw [x1d]; rfl)).trans x1d⟩ (fun hHeld => ?_) AllReadyH.nil)
  simp only [Act.put, List.setIfInBounds_toArray, List.set_cons_zero, List.set_cons_succ]
  refine wpAnyH_ready (rs := [8]) (by kernel_rfl) (by simp) (readySkip (i := 8) rfl (by kernel_rfl) none (by kernel_rfl) (w' := w2.drew.alloc (.cells #[.int .i64 hin, .slice pa ports.length pc, .slice (some ⟨hb, ho, none⟩) 8 hc, .slice none 0 0] 86)) (by go_simp) ⟨(World.cell?_alloc_some _ _ _ (by rw [x0d]; rfl)).trans x0d, (World.cell?_alloc_some _ _ _ (by rw [x1d]; rfl)).trans x1d⟩ (fun hHeld => ?_) AllReadyH.nil)
  simp only [Act.put, List.setIfInBounds_toArray, List.set_cons_zero, List.set_cons_succ]
  refine wpAnyH_done (by kernel_rfl) ?_ _
  obtain ⟨Wp, hWp⟩ : ∃ Wp, Wp = w2.drew.alloc (.cells #[.int .i64 hin, .slice pa ports.length pc, .slice (some ⟨hb, ho, none⟩) 8 hc, .slice none 0 0] 86) := ⟨_, rfl⟩
  rw [← hWp]
  have Bp : Below w2.heap.size w2 Wp := by subst hWp; exact Rw.next (Below.drew (Below.refl _ w2)) (below_alloc1 _ _)
  have kP : Wp.heap[w2.heap.size]? = some (.cells #[.int .i64 hin, .slice pa ports.length pc, .slice (some ⟨hb, ho, none⟩) 8 hc, .slice none 0 0] 86 (0, 0)) := by subst hWp; exact at_new rfl
  clear hWp x0 x1 x0d x1d
  have stp : St Wp w2.heap.size w2.heap.size hin pa pb po pc ports hb ho hc h (.slice none 0 0) [] := by
    refine ⟨kP, hp.below Bp, (rd_lt hp).imp id (fun q => .inl q), hh.below Bp, h8, (rd_lt hh).imp id (fun q => .inl q), Sn.nil _ _, Nat.le_refl _⟩
  have hrz : W0.heap.size < w2.heap.size := Nat.lt_of_lt_of_le zr hb2.size
  clear k0 z0 hh hp kP
  go_wp2_with fail
  go_loopw [39] (fun i wr => ∃ k : Nat, k ≤ n ∧ i = .int .i64 k ∧ ∃ hb' ho' hc' v' Q', St wr w2.heap.size w2.heap.size hin pa pb po pc ports hb' ho' hc' (nowK l h k) v' Q' ∧ said Q' = sentK hin ports l h k ∧ Below w2.heap.size w2 wr) (fun i _ => n - (intOf i).toNat)
  case atStart => exact ⟨0, Nat.zero_le _, rfl, _, _, _, _, _, stp, rfl, Bp⟩
  case round =>
    obtain ⟨k, hk, rfl, hb', ho', hc', v', Q', st', hsaid, bel⟩ := hrel
    have HS : Hid (said Q' = sentK hin ports l h k) := hsaid
    clear hsaid stp
    by_cases hlt : k < n
    · have hkz : (k : Int) < (n : Int) := by omega
      have c0 := (hrow.of_block (bel.block _ hrz)).cell hlt
      have er : row l n k = actV (l.getD k z3) := by simp only [row, if_pos hlt]
      rw [er, ZW.out] at c0
      have hxB := HPRE.out k hlt
      have hhB := head_nowK (l := l) h2 k (fun i hi => HPRE.out i (by omega))
      have HE : Hid (nowK l h (k + 1) = next (nowK l h k) (l.getD k z3)) := rfl
      have HT : Hid (sentK hin ports l h (k + 1) = sentK hin ports l h k ++ goes hin ports (nowK l h (k + 1)) (l.getD k z3)) := rfl
      have hq' : Q'.length + ports.length ≤ 4096 := by
        have e1 := congrArg List.length HS.out
        rw [said_len] at e1
        have e2 := sentK_len hin ports l h hp8 k
        omega
      generalize l.getD k z3 = x at *
      clear er
      go_wp2_with (go_at_call 66; refine (do_any x hxB st' hhB hq').mono ?_; rintro e w4 ⟨rfl, hb4, ho4, hc4, v4, Q4, st4, hs4, bl4⟩)
      go_roundw
      case rel => exact ⟨k + 1, by omega, by go_num, _, _, _, _, _, (by rw [HE.out]; exact st4), by rw [hs4, HS.out, HT.out, HE.out], bel.trans bl4⟩
      case measure => simp [intOf]; omega
    · have he : k = n := by omega
      subst he
      have c3 := four3 st'.blk
      go_wp2
      have hN := HN.out
      refine bodyPost_ret (v := .tuple #[v', .bool true]) (by simp [results, Try.results28, go_sem]) rfl ⟨w2.heap.size, v', Q', rfl, st'.sn, ?_, ?_, ?_⟩
      · exact B0.size
      · rw [HS.out, hN]
      · exact B0.trans (bel.mono B0.size)

end Go.Proofs.Ytkakdldhinimoaa.Yl

namespace Go.Proofs.Ytkakdldhinimoaa.Ym
set_option maxRecDepth 8000
set_option linter.unusedSimpArgs false
open Go Go.RowKit
open Num Pl Hr Hh Pq Ht Yh Yj Yk Yl Yb Yc Yd

theorem blk_ne' {w : World} {B n P : Nat} {v : Value} {xs : List Value} {cs : Array Value} {t : TypeId} (h : w.ownsRow B 56 2 v n xs) (hP : w.heap[P]? = some (.cells cs t (0, 0))) (ht : t ≠ 56) : some P ≠ v.ownBlock := by
  rcases h.2 with ⟨rfl, _⟩ | ⟨k, cap, cur, rfl, _, hk, _⟩
  · simp [Value.ownBlock]
  · intro e
    simp only [Value.ownBlock, Option.some.injEq] at e
    subst e
    rw [hk] at hP
    injection hP with hP
    injection hP with _ hP _
    exact absurd hP.symm ht

/-- The specification amid its actions: what is sent, and the head as it is now in a row of its own. -/
structure Sp (w : World) (B : Nat) (v : Value) (Q : List E) (gN : Nat) (now : List Int) : Prop where
  sn : Sn w B v Q
  own : Own w gN now
  hl : now.length = 8
  le : B ≤ gN
  ne : ∀ q ∈ Q, q.g ≠ gN

theorem Sp.below {w w' : World} {B gN : Nat} {v : Value} {Q : List E} {now : List Int} (h : Sp w B v Q gN now) (b : Below w.heap.size w w') : Sp w' B v Q gN now :=
  ⟨h.sn.below b, h.own.below b, h.hl, h.le, h.ne⟩
theorem sp_app {w w' : World} {B gN : Nat} {v v' : Value} {Q : List E} {now : List Int} {e : E} (h : Sp w B v Q gN now) (ha : App w B v Q e v' w') (he : e.g ≠ gN) : Sp w' B v' (Q ++ [e]) gN now := by
  refine ⟨ha.sn, h.own.of_block (ha.grow.block _ h.own.lt (own_ne h.sn.own h.own)), h.hl, h.le, fun q hq => ?_⟩
  rcases List.mem_append.1 hq with hq | hq
  · exact h.ne q hq
  · obtain rfl := List.mem_singleton.1 hq
    exact he
theorem own_set {w : World} {g F : Nat} {l : List Int} {x : Int} (h : Own w g l) : Own (w.setCell ⟨g, F, none⟩ (.int .i64 x)) g (l.set F x) := by
  obtain ⟨⟨c, hb, hc⟩, hs⟩ := h
  refine ⟨⟨c.setIfInBounds F (.int .i64 x), ?_, fun i hi => ?_⟩, by simpa using hs⟩
  · simp [World.setCell, Array.getElem?_modify, hb]
  · have hi' : i < l.length := by simpa using hi
    rw [set_at hi', Array.getElem?_setIfInBounds]
    have hci := hc i hi'
    have hic : i < c.size := by
      rcases Nat.lt_or_ge i c.size with h | h
      · exact h
      · rw [Array.getElem?_eq_none h] at hci; cases hci
    by_cases e : i = F
    · subst e; simp [hic]
    · rw [if_neg (fun q => e q.symm), if_neg e]; exact hci
theorem sp_set {w : World} {B gN F : Nat} {v : Value} {Q : List E} {now : List Int} {x : Int} (h : Sp w B v Q gN now) : Sp (w.setCell ⟨gN, F, none⟩ (.int .i64 x)) B v Q gN (now.set F x) := by
  have hv : ∀ k cur, w.heap[k]? = some (Obj.cells cur 56 (0, 0)) → k ≠ gN := by
    rintro k cur hk rfl
    obtain ⟨⟨c, hb, _⟩, _⟩ := h.own
    rw [hk] at hb
    injection hb with hb
    injection hb with _ hb _
    exact absurd hb (by decide)
  refine ⟨⟨⟨h.sn.own.1, ?_⟩, fun e he => ?_, h.sn.diff⟩, own_set h.own, by rw [List.length_set]; exact h.hl, h.le, h.ne⟩
  · rcases h.sn.own.2 with ⟨e1, e2⟩ | ⟨g, cap, cur, e1, hb, hg, rest⟩
    · exact .inl ⟨e1, e2⟩
    · exact .inr ⟨g, cap, cur, e1, hb, (Below.heap_setCell _ _ _ _ (hv g cur hg)).trans hg, rest⟩
  · obtain ⟨ho, h1, h2⟩ := h.sn.row e he
    exact ⟨ho.of_block (Below.heap_setCell _ _ _ _ (h.ne e he)), h1, h2⟩

theorem wpList_appS {ops : Array Oper} {rest : List Oper} {o : Oper} {a : Act} {w : World} {Q' : Exit → Act → World → Prop} (hgd : o.guard = none) (s x : Operand)
    (ho : o.op = .call { callee := .builtin .append, args := #[s, x], argTypes := #[39, 39] }) {B T c : Nat} {v : Value} {Q : List E} (e : E) (hs : a.eval s = v) (hx : a.eval x = .slice (some ⟨T, 0, none⟩) 1 c) (h : Sn w B v Q) (hT : w.heap[T]? = some (.cells #[.int .i64 e.p, .slice (some ⟨e.g, 0, none⟩) e.l.length e.c] 56 (0, 0)))
    (he : Own w e.g e.l) (hge : B ≤ e.g) (h8 : e.l.length = 8) (hnew : ∀ q ∈ Q, q.g ≠ e.g) (hlen : Q.length ≤ 4096) (hB : B ≤ w.heap.size)
    (hk : ∀ v' w', App w B v Q e v' w' → wpList Try.prog ops Q' rest (a.put o.dst v') w') : wpList Try.prog ops Q' (o :: rest) a w := by
  obtain ⟨v', w', hr, ha⟩ := app_run (c := c) o.type h hT he hge h8 hnew hlen hB
  exact wpList_plain hgd fun K hK => by
    unfold Oper.wp
    rw [exec_app s x ho hs hx hr]
    exact hK _ _ (hk v' w' ha)

/-- What an action sends to the first j ports. -/
def sends (hin : Int) (x : A3) (ports now : List Int) (j : Nat) : List (Int × List Int) := ((ports.take j).filter (fun p => decide (p ≠ hin ∧ (x.1 = 2 ∨ x.1 = 1 ∧ x.2.1 = p)))).map (fun p => (p, now))
theorem sends_step (hin : Int) (x : A3) (ports now : List Int) (j : Nat) (hj : j < ports.length) : sends hin x ports now (j + 1) = sends hin x ports now j ++ (if ports.getD j 0 ≠ hin ∧ (x.1 = 2 ∨ x.1 = 1 ∧ x.2.1 = ports.getD j 0) then [(ports.getD j 0, now)] else []) := by
  unfold sends
  rw [List.take_succ_eq_append_getElem hj, List.filter_append, List.map_append]
  have e : ports.getD j 0 = ports[j] := by simp [List.getD, hj]
  rw [e]
  by_cases h : ports[j] ≠ hin ∧ (x.1 = 2 ∨ x.1 = 1 ∧ x.2.1 = ports[j])
  · rw [if_pos h]; simp [h]
  · rw [if_neg h]; simp [h]
theorem sends_len (hin : Int) (x : A3) (ports now : List Int) (j : Nat) : (sends hin x ports now j).length ≤ j := by
  unfold sends
  rw [List.length_map]
  exact Nat.le_trans (List.length_filter_le _ _) (by simp; omega)
theorem filter_one {l : List Int} {a : Int} (hd : l.Nodup) (q : Int → Bool) : l.filter (fun p => q p && decide (a = p)) = if a ∈ l ∧ q a = true then [a] else [] := by
  induction l with
  | nil => simp
  | cons b l ih =>
    have hb := List.nodup_cons.1 hd
    by_cases e : a = b
    · subst e
      have hno : l.filter (fun p => q p && decide (a = p)) = [] := by
        rw [ih hb.2, if_neg (fun h => hb.1 h.1)]
      by_cases hq : q a = true
      · simp [List.filter_cons, hq, hno]
      · simp [List.filter_cons, hq, hno]
    · rw [List.filter_cons, if_neg (by simp [e]), ih hb.2]
      simp [e]
theorem nodup_ports {ports : List Int} (h : Ya.portsB ports = true) : ports.Nodup := by
  have hp := (of_decide_eq_true h).2
  have rise : ∀ i j, i < j → j < ports.length → ports.getD i 0 < ports.getD j 0 := by
    intro i j hij hj
    induction j with
    | zero => omega
    | succ j ih =>
      have h1 := (hp (j + 1) hj).2.2 (by omega)
      rw [Nat.add_sub_cancel] at h1
      by_cases e : i = j
      · subst e; exact h1
      · have := ih (by omega) (by omega); omega
  rw [List.nodup_iff_pairwise_ne, List.pairwise_iff_getElem]
  intro i j hi hj hij
  have := rise i j hij hj
  simp [List.getD, hi, hj] at this
  omega
theorem sends_all {hin : Int} {x : A3} {ports now : List Int} (h : Ya.portsB ports = true) : sends hin x ports now ports.length = goes hin ports now x := by
  unfold sends goes
  rw [List.take_length]
  by_cases h1 : x.1 = 1
  · rw [if_pos h1]
    have e : (fun p => decide (p ≠ hin ∧ (x.1 = 2 ∨ x.1 = 1 ∧ x.2.1 = p))) = fun p => decide (p ≠ hin) && decide (x.2.1 = p) := by
      funext p
      rw [h1]
      simp
    rw [e, filter_one (nodup_ports h)]
    by_cases hm : x.2.1 ∈ ports ∧ x.2.1 ≠ hin
    · rw [if_pos hm, if_pos ⟨hm.1, by simpa using hm.2⟩]; rfl
    · rw [if_neg hm, if_neg (fun q => hm ⟨q.1, by simpa using q.2⟩)]; rfl
  · rw [if_neg h1]
    by_cases h2 : x.1 = 2
    · rw [if_pos h2]
      simp [h2]
    · rw [if_neg h2]
      simp [h1, h2]

end Go.Proofs.Ytkakdldhinimoaa.Ym

namespace Go.Proofs.Ytkakdldhinimoaa.Yn
set_option maxRecDepth 8000
set_option linter.unusedSimpArgs false
set_option linter.unusedVariables false
open Go Go.RowKit
open Num Pl Hr Hh Pq Ht Yh Yj Yk Yl Ym Yb Yc Yd

theorem own7 {w : World} {o : Obj} {g : Nat} {l : List Int} (h : Own w g l) : Own (w.alloc o) g l := h.below (below_alloc1 _ _)

set_option maxHeartbeats 4000000 in
theorem perfS_no (ha : Option Addr) (hb ho hc : Nat) (h : List Int) (pa : Option Addr) (pb po pc : Nat) (ports : List Int) (a : Option Addr) (b off cap : Nat) (l : List A3) (w : World)
    (hh : Rd w ha hb ho h) (hp : Rd w pa pb po ports) (hl : Yb.Rd w a b off l) (hno : (actsB l && Hg.headB h && Ya.portsB ports) = false) :
    Calls Try.prog 26 #[.agg #[.slice ha h.length hc], .slice pa ports.length pc, .slice a l.length cap] w (ResP w false []) := by
  obtain ⟨W0, hW0⟩ : ∃ W0, W0 = w.alloc (.cells #[.slice ha h.length hc] 42) := ⟨_, rfl⟩
  have B0 : Below w.heap.size w W0 := by subst hW0; exact below_alloc1 _ _
  replace hh := hh.below B0
  replace hp := hp.below B0
  replace hl := hl.below B0
  cases h2 : Hg.headB h
  · go_enter Try.func26, Try.ntmps26
    go_wp2_with (go_at_call 65; rw [← hW0]; refine (Hg.specOk_any _ _ _ _ _ _ hh).mono ?_; rw [h2]; rintro e w2 ⟨rfl, hb2⟩)
    exact bodyPost_ret (v := .tuple #[.slice none 0 0, .bool false]) (by simp [results, Try.results26, go_sem]) rfl (res_no (Rw.next B0 hb2))
  · cases h3 : Ya.portsB ports
    · go_enter Try.func26, Try.ntmps26
      go_wp2_with (first | (go_at_call 65; rw [← hW0]; refine (Hg.specOk_any _ _ _ _ _ _ hh).mono ?_; rw [h2]; rintro e w2 ⟨rfl, hb2⟩; replace hp := hp.below hb2) | (go_at_call 12; refine (Ya.portsS _ _ _ _ _ _ hp).mono ?_; rw [h3]; rintro e w3 ⟨rfl, hw⟩; replace hw := hw.symm; subst hw))
      exact bodyPost_ret (v := .tuple #[.slice none 0 0, .bool false]) (by simp [results, Try.results26, go_sem]) rfl (res_no (Rw.next B0 hb2))
    · have h1 : actsB l = false := by rw [h2, h3] at hno; simpa using hno
      go_enter Try.func26, Try.ntmps26
      go_wp2_with (first | (go_at_call 65; rw [← hW0]; refine (Hg.specOk_any _ _ _ _ _ _ hh).mono ?_; rw [h2]; rintro e w2 ⟨rfl, hb2⟩; replace hp := hp.below hb2; replace hl := hl.below hb2) | (go_at_call 12; refine (Ya.portsS _ _ _ _ _ _ hp).mono ?_; rw [h3]; rintro e w3 ⟨rfl, hw⟩; replace hw := hw.symm; subst hw) | (go_at_call 17; refine (Ye.actsS _ _ _ _ _ _ hl).mono ?_; rw [h1]; rintro e w4 ⟨rfl, hb4⟩))
      exact bodyPost_ret (v := .tuple #[.slice none 0 0, .bool false]) (by simp [results, Try.results26, go_sem]) rfl (res_no (Rw.next (Rw.next B0 hb2) hb4))

set_option maxHeartbeats 8000000 in
theorem perfS_yes (ha : Option Addr) (hb ho hc : Nat) (h : List Int) (pa : Option Addr) (pb po pc : Nat) (ports : List Int) (a : Option Addr) (b off cap : Nat) (l : List A3) (w : World)
    (hh : Rd w ha hb ho h) (hp : Rd w pa pb po ports) (hl : Yb.Rd w a b off l) (h1 : actsB l = true) (h2 : Hg.headB h = true) (h3 : Ya.portsB ports = true) :
    Calls Try.prog 26 #[.agg #[.slice ha h.length hc], .slice pa ports.length pc, .slice a l.length cap] w (ResP w true (sentK (h.getD 0 0) ports l h l.length)) := by
  have h8 := head_len h2
  obtain ⟨rfl, hin0⟩ := Hg.at_rd hh (k := 0) (by omega)
  obtain ⟨hin, ehin⟩ : ∃ hin, hin = h.getD 0 0 := ⟨_, rfl⟩
  rw [← ehin] at hin0 ⊢
  clear ehin
  rw [Nat.add_zero] at hin0
  have hp8 : ports.length ≤ 8 := (of_decide_eq_true h3).1
  obtain ⟨hl12, hpre⟩ := actsB_out h1
  obtain ⟨W0, hW0⟩ : ∃ W0, W0 = w.alloc (.cells #[.slice (some ⟨hb, ho, none⟩) 8 hc] 42) := ⟨_, rfl⟩
  have B0 : Below w.heap.size w W0 := by subst hW0; exact below_alloc1 _ _
  have k0 : W0.heap[w.heap.size]? = some (.cells #[.slice (some ⟨hb, ho, none⟩) 8 hc] 42 (0, 0)) := by subst hW0; exact at_new rfl
  have z0 : w.heap.size < W0.heap.size := by subst hW0; simp
  replace hh := hh.below B0
  replace hp := hp.below B0
  replace hl := hl.below B0
  have hOk := fun w1 (q : Rd w1 (some ⟨hb, ho, none⟩) hb ho h) => Hg.specOk_any _ _ _ hc _ _ q
  rw [h8] at hOk
  have HOK := hid hOk
  clear hOk
  rw [h8]
  obtain ⟨n, hn⟩ : ∃ n, n = l.length := ⟨_, rfl⟩
  have hACT := fun w1 (q : Yb.Rd w1 a b off l) => Ye.actsS a b off cap l w1 q
  rw [← hn] at hACT hl12 hpre ⊢
  have HACT := hid hACT
  have HN : Hid (n = l.length) := hn
  have HPRE : Hid (pre l n) := hpre
  have H3 : Hid (Ya.portsB ports = true) := h3
  clear hpre hn hACT
  go_enter Try.func26, Try.ntmps26
  go_wp2_with (first | (go_at_call 65; rw [← hW0]; refine (HOK.out _ hh).mono ?_; rw [h2]; rintro e w2 ⟨rfl, hb2⟩; clear HOK; replace hh := hh.below hb2; replace hp := hp.below hb2; replace hl := hl.below hb2; replace k0 := (hb2.block _ z0).trans k0; replace z0 := Nat.lt_of_lt_of_le z0 hb2.size; replace B0 := Rw.next B0 hb2; clear hb2) | (go_at_call 12; refine (Ya.portsS _ _ _ _ _ _ hp).mono ?_; rw [H3.out]; rintro e w3 ⟨rfl, hw⟩; replace hw := hw.symm; subst hw) | (go_at_call 17; refine (HACT.out _ hl).mono ?_; rw [h1]; rintro e W1 ⟨rfl, hb4⟩; clear HACT; replace hh := hh.below hb4; replace hp := hp.below hb4; replace hl := hl.below hb4; replace k0 := (hb4.block _ z0).trans k0; replace z0 := Nat.lt_of_lt_of_le z0 hb4.size; replace B0 := Rw.next B0 hb4; clear hb4; have c0 := Hh.one k0; have b1 : Below W1.heap.size W1 ((W1.alloc (.cells #[] 56)).alloc (.cells #[] 3)) := Rw.next (below_alloc1 _ _) (below_alloc1 _ _); have O1 : HasN ((W1.alloc (.cells #[] 56)).alloc (.cells #[] 3)) (W1.heap.size + 1) (.slice (some ⟨W1.heap.size + 1, 0, none⟩) 0 0) [] := (by simpa using own_emptyN (W1.alloc (.cells #[] 56))); have rh1 := hh.below b1) | (at_builtin; refine wpList_appN rfl (.tmp 28) (.tmp 30) rfl (W1.heap.size + 1) (.slice (some ⟨W1.heap.size + 1, 0, none⟩) 0 0) [] h rfl O1 ⟨hb, ho, none⟩ hb ho hc (by rw [h8]; rfl) rh1 (by simp only [List.length_nil, h8]; omega) (by simp <;> omega) ?_; intro v2 W2 hown2 hg2; obtain ⟨gN, cN, rfl, hgl, hoN, hcN⟩ := own_has hown2 (by simp only [List.nil_append, h8]; omega); simp only [List.nil_append, h8] at hoN hcN ⊢))
  have b2 : Below W1.heap.size W1 W2 := below_own O1 b1 (by omega) hg2
  have kS : W2.heap[W1.heap.size]? = some (.cells #[] 56 (0, 0)) := (hg2.block _ (by simp <;> omega) (by simp [Value.ownBlock])).trans (by rw [at_old (by simp), at_new rfl])
  clear c0 O1 rh1 b1 hown2 hg2
  have sp0 : Sp W2 W1.heap.size (.slice (some ⟨W1.heap.size, 0, none⟩) 0 0) [] gN h := by
    refine ⟨⟨⟨rfl, .inr ⟨W1.heap.size, 0, #[], rfl, Nat.le_refl _, kS, Nat.le_refl _, Nat.zero_le _, rfl, rfl⟩⟩, fun _ q => (by cases q), List.Pairwise.nil⟩, hoN, h8, by omega, fun _ q => (by cases q)⟩
  clear kS hoN
  obtain ⟨m, hm⟩ : ∃ m, m = ports.length := ⟨_, rfl⟩
  have HM : Hid (m = ports.length) := hm
  have hm8 : m ≤ 8 := by omega
  have hin1 : W1.cell? ⟨hb, ho, none⟩ = some (.int .i64 hin) := (B0.cell (World.block_lt_of_cell? _ _ hin0)).trans hin0
  clear hin0 hh
  try rw [← hm]
  clear hm
  go_loopw [8, 34] (fun q i wr => ∃ k : Nat, k ≤ n ∧ i = .int .i64 k ∧ ∃ Q', Sp wr W1.heap.size q Q' gN (nowK l h k) ∧ said Q' = sentK hin ports l h k ∧ Below W1.heap.size W1 wr) (fun _ i _ => n - (intOf i).toNat)
  case atStart => exact ⟨0, Nat.zero_le _, rfl, _, sp0, rfl, b2⟩
  case round =>
    obtain ⟨k, hk, rfl, Q', sp, hsaid, bel⟩ := hrel
    have HS : Hid (said Q' = sentK hin ports l h k) := hsaid
    clear hsaid sp0 b2
    by_cases hlt : k < n
    · have hkz : (k : Int) < (n : Int) := by omega
      have hkl : k < l.length := by have := HN.out; omega
      obtain rfl := hl.head (by omega)
      obtain ⟨a0, a1, a2⟩ := (hl.cell k hkl).of bel (hl.cell k hkl).lt
      have hxB := HPRE.out k hlt
      have HE : Hid (nowK l h (k + 1) = next (nowK l h k) (l.getD k z3)) := rfl
      have HT : Hid (sentK hin ports l h (k + 1) = sentK hin ports l h k ++ goes hin ports (nowK l h (k + 1)) (l.getD k z3)) := rfl
      have hQ' : Q'.length ≤ 96 := by
        have e1 := congrArg List.length HS.out
        rw [said_len] at e1
        have e2 := sentK_len hin ports l h hp8 k
        omega
      generalize l.getD k z3 = x at *
      obtain ⟨now, enw⟩ : ∃ now, now = nowK l h k := ⟨_, rfl⟩
      rw [← enw] at sp HE
      clear enw
      have zN := sp.own.lt
      have zB := bel.size
      have zle := sp.le
      obtain ⟨x0, x1, x2⟩ := x
      simp only at a0 a1 a2
      by_cases k3 : x0 = 3
      · subst k3
        obtain ⟨F, eF, hF8, hf⟩ := act_set hxB rfl
        simp only at eF hf
        subst eF
        have cF := sp.own.wt.cell F (by rw [sp.hl]; exact hF8)
        have fF := sp.own.wt.free F (by rw [sp.hl]; exact hF8)
        have hFz : (F : Int) < 8 := by omega
        go_wp2
        obtain ⟨Wi, hWi⟩ : ∃ Wi, Wi = (wr.setCell ⟨gN, F, none⟩ (.int .i64 x2)).alloc (.cells #[.int .i64 3, .int .i64 F, .int .i64 x2] 76) := ⟨_, rfl⟩
        rw [← hWi]
        have spi : Sp Wi W1.heap.size u8 Q' gN (now.set F x2) := by subst hWi; exact (sp_set sp).below (below_alloc1 _ _)
        have kA : Wi.heap[wr.heap.size]? = some (.cells #[.int .i64 3, .int .i64 F, .int .i64 x2] 76 (0, 0)) := by subst hWi; exact at_new (by simp)
        have bi : Below W1.heap.size W1 Wi := by subst hWi; exact (bel.setCell (by simp <;> omega) _).trans ((below_alloc1 _ _).mono (by simp <;> omega))
        clear hWi
        clear cF fF
        have hwA : wr.heap.size < Wi.heap.size := (Array.getElem?_eq_some_iff.1 kA).1
        obtain ⟨AA, hAA⟩ : ∃ AA, AA = wr.heap.size := ⟨_, rfl⟩
        rw [← hAA] at kA ⊢
        clear hAA
        obtain ⟨now', enow⟩ : ∃ now', now' = (now.set F x2) := ⟨_, rfl⟩
        rw [← enow] at spi
        have ENOW : Hid (now' = nowK l h (k + 1)) := (enow.trans (show now.set F x2 = next now (3, (F : Int), x2) from rfl)).trans HE.out.symm
        clear enow
        go_loopw [8, 49] (fun q5 i5 w5 => ∃ j : Nat, j ≤ m ∧ i5 = .int .i64 j ∧ ∃ Q5, Sp w5 W1.heap.size q5 Q5 gN now' ∧ said Q5 = said Q' ++ sends hin (3, (F : Int), x2) ports now' j ∧ Below W1.heap.size W1 w5 ∧ w5.heap[AA]? = some (.cells #[.int .i64 3, .int .i64 F, .int .i64 x2] 76 (0, 0))) (fun _ i5 _ => m - (intOf i5).toNat)
        case atStart => exact ⟨0, Nat.zero_le _, rfl, _, spi, by simp [sends], bi, kA⟩
        case round =>
          obtain ⟨j, hj, rfl, Q5, sp5, hs5, bel5, kA5⟩ := hrel
          have HS5 : Hid (said Q5 = said Q' ++ sends hin (3, (F : Int), x2) ports now' j) := hs5
          clear hs5 spi kA bi
          by_cases hjm : j < m
          · have hjl : j < ports.length := by have := HM.out; omega
            obtain ⟨hpa, p0⟩ := Hg.at_rd hp hjl
            subst hpa
            replace p0 := (bel5.cell (World.block_lt_of_cell? _ _ p0)).trans p0
            have e0 := (bel5.cell (World.block_lt_of_cell? _ _ (Hh.one k0))).trans (Hh.one k0)
            have e1 : wr.cell? ⟨hb, ho, none⟩ = some (.int .i64 hin) := (bel5.cell (World.block_lt_of_cell? _ _ hin1)).trans hin1
            have d0 := three0 kA5
            have d1 := three1 kA5
            have d2 := three2 kA5
            have hjz : (j : Int) < (m : Int) := by omega
            have hst := sends_step hin (3, (F : Int), x2) ports now' j hjl
            generalize ports.getD j 0 = p at p0 hst
            have HST := hid hst
            clear hst
            by_cases hx : p = hin
            · subst hx
              go_wp2
              go_roundw
              case rel => exact ⟨j + 1, by omega, by go_num, _, sp5, by rw [HST.out, HS5.out, if_neg (by simp), List.append_nil], bel5, kA5⟩
              case measure => simp [intOf]; omega
            · have hne : (p != hin) = true := by simpa using hx
              go_wp2
              go_roundw
              case rel => exact ⟨j + 1, by omega, by go_num, _, sp5, by rw [HST.out, HS5.out, if_neg (by simp), List.append_nil], bel5, kA5⟩
              case measure => simp [intOf]; omega
          · have he : j = m := by omega
            subst he
            go_wp2
            have hsa := sends_all (hin := hin) (x := (3, (F : Int), x2)) (now := now') H3.out
            rw [← HM.out] at hsa
            go_roundw
            case rel => exact ⟨k + 1, by omega, by go_num, _, by rw [← ENOW.out]; exact sp5, by rw [HS5.out, HS.out, HT.out, hsa, ← ENOW.out], bel5⟩
            case measure => simp [intOf]; omega
      · have e3 : (x0 == 3) = false := by simpa using k3
        go_wp2
        obtain ⟨Wi, hWi⟩ : ∃ Wi, Wi = wr.alloc (.cells #[.int .i64 x0, .int .i64 x1, .int .i64 x2] 76) := ⟨_, rfl⟩
        rw [← hWi]
        have spi : Sp Wi W1.heap.size u8 Q' gN now := by subst hWi; exact sp.below (below_alloc1 _ _)
        have kA : Wi.heap[wr.heap.size]? = some (.cells #[.int .i64 x0, .int .i64 x1, .int .i64 x2] 76 (0, 0)) := by subst hWi; exact at_new rfl
        have bi : Below W1.heap.size W1 Wi := by subst hWi; exact bel.trans ((below_alloc1 wr _).mono bel.size)
        clear hWi
        have hwA : wr.heap.size < Wi.heap.size := (Array.getElem?_eq_some_iff.1 kA).1
        obtain ⟨AA, hAA⟩ : ∃ AA, AA = wr.heap.size := ⟨_, rfl⟩
        rw [← hAA] at kA ⊢
        clear hAA
        obtain ⟨now', enow⟩ : ∃ now', now' = now := ⟨_, rfl⟩
        rw [← enow] at spi
        have ENOW : Hid (now' = nowK l h (k + 1)) := (enow.trans (show now = next now (x0, x1, x2) from (if_neg k3).symm)).trans HE.out.symm
        clear enow
        go_loopw [8, 49] (fun q5 i5 w5 => ∃ j : Nat, j ≤ m ∧ i5 = .int .i64 j ∧ ∃ Q5, Sp w5 W1.heap.size q5 Q5 gN now' ∧ said Q5 = said Q' ++ sends hin (x0, x1, x2) ports now' j ∧ Below W1.heap.size W1 w5 ∧ w5.heap[AA]? = some (.cells #[.int .i64 x0, .int .i64 x1, .int .i64 x2] 76 (0, 0))) (fun _ i5 _ => m - (intOf i5).toNat)
        case atStart => exact ⟨0, Nat.zero_le _, rfl, _, spi, by simp [sends], bi, kA⟩
        case round =>
          obtain ⟨j, hj, rfl, Q5, sp5, hs5, bel5, kA5⟩ := hrel
          have HS5 : Hid (said Q5 = said Q' ++ sends hin (x0, x1, x2) ports now' j) := hs5
          clear hs5 spi kA bi
          by_cases hjm : j < m
          · have hjl : j < ports.length := by have := HM.out; omega
            obtain ⟨hpa, p0⟩ := Hg.at_rd hp hjl
            subst hpa
            replace p0 := (bel5.cell (World.block_lt_of_cell? _ _ p0)).trans p0
            have e0 := (bel5.cell (World.block_lt_of_cell? _ _ (Hh.one k0))).trans (Hh.one k0)
            have e1 : wr.cell? ⟨hb, ho, none⟩ = some (.int .i64 hin) := (bel5.cell (World.block_lt_of_cell? _ _ hin1)).trans hin1
            have d0 := three0 kA5
            have d1 := three1 kA5
            have d2 := three2 kA5
            have hjz : (j : Int) < (m : Int) := by omega
            have hst := sends_step hin (x0, x1, x2) ports now' j hjl
            generalize ports.getD j 0 = p at p0 hst
            have HST := hid hst
            clear hst
            by_cases hx : p = hin
            · subst hx
              go_wp2
              go_roundw
              case rel => exact ⟨j + 1, by omega, by go_num, _, sp5, by rw [HST.out, HS5.out, if_neg (by simp), List.append_nil], bel5, kA5⟩
              case measure => simp [intOf]; omega
            have hne : (p != hin) = true := by simpa using hx
            by_cases q2 : x0 = 2
            · subst q2
              have hq5 : Q5.length ≤ 4096 := by
                have g1 := congrArg List.length HS5.out
                rw [List.length_append, said_len, said_len] at g1
                have g2 := sends_len hin (2, x1, x2) ports now' j
                omega
              have O5 := own_emptyN wr
              have b5 := below_alloc1 wr (.cells #[] 3)
              have rN5 := sp5.own.rd.below b5
              have l8 := sp5.hl
              have HLT : Hid (∀ q ∈ Q5, q.g < wr.heap.size) := fun q hq => sp5.sn.lt hq
              have zN5 := sp5.own.lt
              have zle := bel5.size
              go_wp2_with (first | (at_builtin; refine wpList_appN rfl (.tmp 77) (.tmp 78) rfl wr.heap.size (.slice (some ⟨wr.heap.size, 0, none⟩) 0 0) [] now' rfl O5 ⟨gN, 0, none⟩ gN 0 cN (by rw [l8]; rfl) rN5 (by simp only [List.length_nil, l8]; omega) (by simp) ?_; intro v6 w6 hown6 hg6; obtain ⟨g6, c6, rfl, hg6l, ho6, _⟩ := own_has hown6 (by simp only [List.nil_append, l8]; omega); simp only [List.nil_append, l8] at ho6 ⊢; have b6 := below_own O5 b5 (Nat.le_refl _) hg6; replace sp5 := sp5.below b6; replace kA5 := (b6.block _ (Array.getElem?_eq_some_iff.1 kA5).1).trans kA5; have z6 := b6.size; have bel6 := bel5.trans (b6.mono zle); have sp7 := sp5.below (below_alloc1 w6 (.cells #[.int .i64 p, .slice (some ⟨g6, 0, none⟩) 8 c6] 56)); have kA7 := ((below_alloc1 w6 (.cells #[.int .i64 p, .slice (some ⟨g6, 0, none⟩) 8 c6] 56)).block _ (Array.getElem?_eq_some_iff.1 kA5).1).trans kA5; have bel7 := bel6.trans ((below_alloc1 w6 (.cells #[.int .i64 p, .slice (some ⟨g6, 0, none⟩) 8 c6] 56)).mono (Nat.le_trans zle z6)); have o7 := own7 (o := .cells #[.int .i64 p, .slice (some ⟨g6, 0, none⟩) 8 c6] 56) ho6; have z7 := bel7.size; have k7 : (w6.alloc (.cells #[.int .i64 p, .slice (some ⟨g6, 0, none⟩) 8 c6] 56)).heap[w6.heap.size]? = some (.cells #[.int .i64 p, .slice (some ⟨g6, 0, none⟩) 8 c6] 56 (0, 0)) := at_new rfl) | (at_builtin; refine wpList_appS rfl (.tmp 75) (.tmp 82) rfl ⟨p, now', g6, c6⟩ rfl rfl sp7.sn (by simp only [l8]; exact k7) o7 (by simp only; omega) l8 (fun q hq => by have := HLT.out q hq; simp only; omega) hq5 z7 ?_; intro v8 w8 ha8))
              go_roundw
              case rel => exact ⟨j + 1, by omega, by go_num, _, sp_app sp7 ha8 (by simp only; omega), by rw [HST.out, said_app, HS5.out, if_pos (by exact ⟨hx, .inl rfl⟩), List.append_assoc], bel7.trans (grown_below sp7.sn.own ha8.grow z7), (ha8.grow.block _ (Array.getElem?_eq_some_iff.1 kA7).1 (blk_ne' sp7.sn.own kA7 (by decide))).trans kA7⟩
              case measure => simp [intOf]; omega
            have n2 : (x0 == 2) = false := by simpa using q2
            by_cases q1 : x0 = 1
            · subst q1
              by_cases qp : p = x1
              · subst qp
                have hq5 : Q5.length ≤ 4096 := by
                  have g1 := congrArg List.length HS5.out
                  rw [List.length_append, said_len, said_len] at g1
                  have g2 := sends_len hin (1, p, x2) ports now' j
                  omega
                have O5 := own_emptyN wr
                have b5 := below_alloc1 wr (.cells #[] 3)
                have rN5 := sp5.own.rd.below b5
                have l8 := sp5.hl
                have HLT : Hid (∀ q ∈ Q5, q.g < wr.heap.size) := fun q hq => sp5.sn.lt hq
                have zN5 := sp5.own.lt
                have zle := bel5.size
                go_wp2_with (first | (at_builtin; refine wpList_appN rfl (.tmp 77) (.tmp 78) rfl wr.heap.size (.slice (some ⟨wr.heap.size, 0, none⟩) 0 0) [] now' rfl O5 ⟨gN, 0, none⟩ gN 0 cN (by rw [l8]; rfl) rN5 (by simp only [List.length_nil, l8]; omega) (by simp) ?_; intro v6 w6 hown6 hg6; obtain ⟨g6, c6, rfl, hg6l, ho6, _⟩ := own_has hown6 (by simp only [List.nil_append, l8]; omega); simp only [List.nil_append, l8] at ho6 ⊢; have b6 := below_own O5 b5 (Nat.le_refl _) hg6; replace sp5 := sp5.below b6; replace kA5 := (b6.block _ (Array.getElem?_eq_some_iff.1 kA5).1).trans kA5; have z6 := b6.size; have bel6 := bel5.trans (b6.mono zle); have sp7 := sp5.below (below_alloc1 w6 (.cells #[.int .i64 p, .slice (some ⟨g6, 0, none⟩) 8 c6] 56)); have kA7 := ((below_alloc1 w6 (.cells #[.int .i64 p, .slice (some ⟨g6, 0, none⟩) 8 c6] 56)).block _ (Array.getElem?_eq_some_iff.1 kA5).1).trans kA5; have bel7 := bel6.trans ((below_alloc1 w6 (.cells #[.int .i64 p, .slice (some ⟨g6, 0, none⟩) 8 c6] 56)).mono (Nat.le_trans zle z6)); have o7 := own7 (o := .cells #[.int .i64 p, .slice (some ⟨g6, 0, none⟩) 8 c6] 56) ho6; have z7 := bel7.size; have k7 : (w6.alloc (.cells #[.int .i64 p, .slice (some ⟨g6, 0, none⟩) 8 c6] 56)).heap[w6.heap.size]? = some (.cells #[.int .i64 p, .slice (some ⟨g6, 0, none⟩) 8 c6] 56 (0, 0)) := at_new rfl) | (at_builtin; refine wpList_appS rfl (.tmp 75) (.tmp 82) rfl ⟨p, now', g6, c6⟩ rfl rfl sp7.sn (by simp only [l8]; exact k7) o7 (by simp only; omega) l8 (fun q hq => by have := HLT.out q hq; simp only; omega) hq5 z7 ?_; intro v8 w8 ha8))
                go_roundw
                case rel => exact ⟨j + 1, by omega, by go_num, _, sp_app sp7 ha8 (by simp only; omega), by rw [HST.out, said_app, HS5.out, if_pos (by exact ⟨hx, .inr ⟨rfl, rfl⟩⟩), List.append_assoc], bel7.trans (grown_below sp7.sn.own ha8.grow z7), (ha8.grow.block _ (Array.getElem?_eq_some_iff.1 kA7).1 (blk_ne' sp7.sn.own kA7 (by decide))).trans kA7⟩
                case measure => simp [intOf]; omega
              · have np : (x1 == p) = false := by simpa using fun q : x1 = p => qp q.symm
                go_wp2
                go_roundw
                case rel => exact ⟨j + 1, by omega, by go_num, _, sp5, by rw [HST.out, HS5.out, if_neg (fun q => q.2.elim (fun e => absurd e (by simp)) (fun e => qp e.2.symm)), List.append_nil], bel5, kA5⟩
                case measure => simp [intOf]; omega
            have n1 : (x0 == 1) = false := by simpa using q1
            go_wp2
            go_roundw
            case rel => exact ⟨j + 1, by omega, by go_num, _, sp5, by rw [HST.out, HS5.out, if_neg (by simp [q1, q2]), List.append_nil], bel5, kA5⟩
            case measure => simp [intOf]; omega
          · have he : j = m := by omega
            subst he
            go_wp2
            have hsa := sends_all (hin := hin) (x := (x0, x1, x2)) (now := now') H3.out
            rw [← HM.out] at hsa
            go_roundw
            case rel => exact ⟨k + 1, by omega, by go_num, _, by rw [← ENOW.out]; exact sp5, by rw [HS5.out, HS.out, HT.out, hsa, ← ENOW.out], bel5⟩
            case measure => simp [intOf]; omega
    · have he : k = n := by omega
      subst he
      go_wp2
      have hN := HN.out
      refine bodyPost_ret (v := .tuple #[u8, .bool true]) (by simp [results, Try.results26, go_sem]) rfl ⟨W1.heap.size, _, Q', rfl, sp.sn, ?_, ?_, ?_⟩
      · exact B0.size
      · rw [HS.out, hN]
      · exact B0.trans (bel.mono B0.size)

end Go.Proofs.Ytkakdldhinimoaa.Yn

namespace Go.Proofs.Ytkakdldhinimoaa.Yo
set_option maxRecDepth 8000
set_option linter.unusedSimpArgs false
set_option linter.unusedVariables false
open Go Go.RowKit
open Num Pl Hr Hh Pq Ht Yh Yj Yk Yl Ym Yb Yc Yd

def e0 : E := ⟨0, [], 0, 0⟩
theorem flat_at0 (Q : List E) (i : Nat) (hi : i < Q.length) : (Yh.flat Q)[i * 2]? = some (.int .i64 (Q.getD i e0).p) := by
  induction Q generalizing i with
  | nil => simp at hi
  | cons e Q ih =>
    cases i with
    | zero => simp [Yh.flat, E.cells]
    | succ i =>
      have := ih i (by simpa using hi)
      simp only [Yh.flat] at this
      have e1 : (i + 1) * 2 = i * 2 + 1 + 1 := by omega
      simp only [Yh.flat, List.flatMap_cons, E.cells, List.cons_append, List.nil_append, e1, List.getElem?_cons_succ, this]
      simp [List.getD]
theorem flat_at1 (Q : List E) (i : Nat) (hi : i < Q.length) : (Yh.flat Q)[i * 2 + 1]? = some (.slice (some ⟨(Q.getD i e0).g, 0, none⟩) (Q.getD i e0).l.length (Q.getD i e0).c) := by
  induction Q generalizing i with
  | nil => simp at hi
  | cons e Q ih =>
    cases i with
    | zero => simp [Yh.flat, E.cells]
    | succ i =>
      have := ih i (by simpa using hi)
      simp only [Yh.flat] at this
      have e1 : (i + 1) * 2 + 1 = (i * 2 + 1) + 1 + 1 := by omega
      simp only [Yh.flat, List.flatMap_cons, E.cells, List.cons_append, List.nil_append, e1, List.getElem?_cons_succ, this]
      simp [List.getD]
theorem get_mem {Q : List E} {i : Nat} (hi : i < Q.length) : Q.getD i e0 ∈ Q := by
  simp only [List.getD, List.getElem?_eq_getElem hi, Option.getD_some]
  exact List.getElem_mem hi

/-- The slice's own form, and its cells. -/
theorem view {w : World} {B : Nat} {v : Value} {Q : List E} (h : Sn w B v Q) : ∃ a g cap, v = .slice a Q.length cap ∧ (0 < Q.length → a = some ⟨g, 0, none⟩ ∧ B ≤ g ∧ ∃ cur, w.heap[g]? = some (Obj.cells cur 56 (0, 0))) ∧
    ∀ i, i < Q.length → w.cell? ⟨g, i * 2, none⟩ = some (.int .i64 (Q.getD i e0).p) ∧ w.cell? ⟨g, i * 2 + 1, none⟩ = some (.slice (some ⟨(Q.getD i e0).g, 0, none⟩) 8 (Q.getD i e0).c) := by
  rcases h.own.2 with ⟨rfl, hq⟩ | ⟨g, cap, cur, rfl, hb, hg, _⟩
  · exact ⟨none, 0, 0, by rw [hq], fun h => by omega, fun i hi => by omega⟩
  · refine ⟨_, g, cap, rfl, fun _ => ⟨rfl, hb, cur, hg⟩, fun i hi => ?_⟩
    have c0 := h.own.cells (g := g) rfl (i * 2) _ (flat_at0 Q i hi)
    have c1 := h.own.cells (g := g) rfl (i * 2 + 1) _ (flat_at1 Q i hi)
    rw [add_eq, Nat.zero_add] at c0 c1
    rw [(h.row _ (get_mem hi)).2.2] at c1
    exact ⟨c0, c1⟩

set_option maxHeartbeats 1000000 in
theorem eqHead_any (a a' : Option Addr) (b off cap b' off' cap' : Nat) (l m : List Int) (w : World) (h : Rd w a b off l) (h' : Rd w a' b' off' m) :
    Calls Try.prog 30 #[.agg #[.slice a l.length cap], .agg #[.slice a' m.length cap']] w fun e w' => e = .returned (.bool (decide (l = m))) ∧ Below w.heap.size w w' := by
  have B := Rw.next (below_alloc1 w (.cells #[.slice a l.length cap] 42)) (below_alloc1 _ (.cells #[.slice a' m.length cap'] 42))
  have hr := h.below B
  have hr' := h'.below B
  cases hR : decide (l = m)
  · have HR : Hid (decide (l = m) = false) := hR
    clear hR
    go_enter Try.func30, Try.ntmps30
    go_wp2_with (go_at_call 15; refine (eqIntS_any _ _ _ _ _ _ _ _ _ _ _ hr hr').mono ?_; rw [HR.out]; rintro e w' ⟨rfl, hb⟩)
    go_ret
    exact ⟨rfl, Rw.next B hb⟩
  · have HR : Hid (decide (l = m) = true) := hR
    clear hR
    go_enter Try.func30, Try.ntmps30
    go_wp2_with (go_at_call 15; refine (eqIntS_any _ _ _ _ _ _ _ _ _ _ _ hr hr').mono ?_; rw [HR.out]; rintro e w' ⟨rfl, hb⟩)
    go_ret
    exact ⟨rfl, Rw.next B hb⟩

set_option maxHeartbeats 1000000 in
theorem eqSent_any (e f : E) (w : World) (he : Own w e.g e.l) (hf : Own w f.g f.l) (h8 : e.l.length = 8) (h8' : f.l.length = 8) :
    Calls Try.prog 67 #[.agg #[.int .i64 e.p, .slice (some ⟨e.g, 0, none⟩) 8 e.c], .agg #[.int .i64 f.p, .slice (some ⟨f.g, 0, none⟩) 8 f.c]] w fun r w' => r = .returned (.bool (decide ((e.p, e.l) = (f.p, f.l)))) ∧ Below w.heap.size w w' := by
  obtain ⟨p, l, g, c⟩ := e
  obtain ⟨p', l', g', c'⟩ := f
  simp only at he hf h8 h8' ⊢
  have B := Rw.next (below_alloc1 w (.cells #[.int .i64 p, .slice (some ⟨g, 0, none⟩) 8 c] 56)) (below_alloc1 _ (.cells #[.int .i64 p', .slice (some ⟨g', 0, none⟩) 8 c'] 56))
  have hr := (he.below B).rd
  have hr' := (hf.below B).rd
  by_cases hp : p = p'
  · subst hp
    have hE := eqHead_any _ _ _ _ c _ _ c' _ _ _ hr hr'
    rw [h8, h8'] at hE
    have HD : Hid (decide ((p, l) = (p, l')) = decide (l = l')) := by unfold Hid; simp
    have HE := hid hE
    clear hE he hf h8 h8'
    rw [HD.out]
    cases hR : decide (l = l')
    · have HR : Hid (decide (l = l') = false) := hR
      clear hR
      go_enter Try.func67, Try.ntmps67
      go_wp2_with (go_at_call 30; refine HE.out.mono ?_; rw [HR.out]; rintro e w' ⟨rfl, hb⟩)
      go_ret
      exact ⟨rfl, Rw.next B hb⟩
    · have HR : Hid (decide (l = l') = true) := hR
      clear hR
      go_enter Try.func67, Try.ntmps67
      go_wp2_with (go_at_call 30; refine HE.out.mono ?_; rw [HR.out]; rintro e w' ⟨rfl, hb⟩)
      go_ret
      exact ⟨rfl, Rw.next B hb⟩
  · have hn : (p != p') = true := by simpa using hp
    have hf' : decide ((p, l) = (p', l')) = false := by simp [hp]
    rw [hf']
    go_enter Try.func67, Try.ntmps67
    go_wp2
    go_ret
    exact ⟨rfl, B⟩

theorem said_at (Q : List E) (i : Nat) (hi : i < Q.length) : (said Q).getD i (0, []) = ((Q.getD i e0).p, (Q.getD i e0).l) := by
  simp [said, List.getD, hi]
theorem said_ext {Q Q' : List E} (hl : Q.length = Q'.length) (h : ∀ i, i < Q.length → ((Q.getD i e0).p, (Q.getD i e0).l) = ((Q'.getD i e0).p, (Q'.getD i e0).l)) : said Q = said Q' := by
  refine List.ext_getElem (by rw [said_len, said_len, hl]) fun i h1 h2 => ?_
  rw [said_len] at h1 h2
  have := h i h1
  rw [← said_at Q i h1, ← said_at Q' i h2] at this
  have g1 : i < (said Q).length := by rw [said_len]; exact h1
  have g2 : i < (said Q').length := by rw [said_len]; exact h2
  simpa [List.getD, g1, g2] using this
theorem said_ne {Q Q' : List E} {i : Nat} (hi : i < Q.length) (hi' : i < Q'.length) (h : ¬ ((Q.getD i e0).p, (Q.getD i e0).l) = ((Q'.getD i e0).p, (Q'.getD i e0).l)) : decide (said Q = said Q') = false := by
  refine decide_eq_false fun e => h ?_
  rw [← said_at Q i hi, ← said_at Q' i hi', e]

set_option maxHeartbeats 2000000 in
theorem eqSentS_any {w : World} {B B' : Nat} {v v' : Value} {Q Q' : List E} (h : Sn w B v Q) (h' : Sn w B' v' Q') (hs : Q.length ≤ 4096) (hs' : Q'.length ≤ 4096) :
    Calls Try.prog 29 #[v, v'] w fun e w' => e = .returned (.bool (decide (said Q = said Q'))) ∧ Below w.heap.size w w' := by
  obtain ⟨a, g, cap, rfl, hh, hc⟩ := view h
  obtain ⟨a', g', cap', rfl, hh', hc'⟩ := view h'
  by_cases hl : Q.length = Q'.length
  · obtain ⟨n, hn⟩ : ∃ n, n = Q.length := ⟨_, rfl⟩
    have hn' : Q'.length = n := by omega
    rw [hn'] at hh' hc' hs' ⊢
    rw [← hn] at hh hc hs ⊢
    have HN : Hid (n = Q.length) := hn
    have HN' : Hid (Q'.length = n) := hn'
    clear hn hn' hl
    go_enter Try.func29, Try.ntmps29
    go_wp2
    go_loopw [5] (fun i wr => ∃ k : Nat, k ≤ n ∧ i = .int .i64 k ∧ Below w.heap.size w wr ∧ ∀ i, i < k → ((Q.getD i e0).p, (Q.getD i e0).l) = ((Q'.getD i e0).p, (Q'.getD i e0).l)) (fun i _ => n - (intOf i).toNat)
    case atStart => exact ⟨0, Nat.zero_le _, rfl, Below.refl _ _, fun i hi => by omega⟩
    case round =>
      obtain ⟨k, hk, rfl, hbel, hsame⟩ := hrel
      have HSA : Hid (∀ i, i < k → ((Q.getD i e0).p, (Q.getD i e0).l) = ((Q'.getD i e0).p, (Q'.getD i e0).l)) := hsame
      clear hsame
      by_cases hlt : k < n
      · obtain ⟨rfl, _⟩ := hh (by omega)
        obtain ⟨rfl, _⟩ := hh' (by omega)
        have hkz : (k : Int) < (n : Int) := by omega
        obtain ⟨c0, c1⟩ := hc k hlt
        obtain ⟨d0, d1⟩ := hc' k hlt
        have rk := h.row _ (get_mem (Q := Q) (i := k) (by have := HN.out; omega))
        have rk' := h'.row _ (get_mem (Q := Q') (i := k) (by have := HN'.out; omega))
        replace c0 := (hbel.cell (World.block_lt_of_cell? _ _ c0)).trans c0
        replace c1 := (hbel.cell (World.block_lt_of_cell? _ _ c1)).trans c1
        replace d0 := (hbel.cell (World.block_lt_of_cell? _ _ d0)).trans d0
        replace d1 := (hbel.cell (World.block_lt_of_cell? _ _ d1)).trans d1
        have o1 := rk.1.below hbel
        have o2 := rk'.1.below hbel
        have l1 := rk.2.2
        have l2 := rk'.2.2
        have NE : Hid (¬ ((Q.getD k e0).p, (Q.getD k e0).l) = ((Q'.getD k e0).p, (Q'.getD k e0).l) → decide (said Q = said Q') = false) := fun q => said_ne (by have := HN.out; omega) (by have := HN'.out; omega) q
        have ST : Hid (((Q.getD k e0).p, (Q.getD k e0).l) = ((Q'.getD k e0).p, (Q'.getD k e0).l) → ∀ i, i < k + 1 → ((Q.getD i e0).p, (Q.getD i e0).l) = ((Q'.getD i e0).p, (Q'.getD i e0).l)) := fun q i hi => by
          by_cases e : i = k
          · subst e; exact q
          · exact HSA.out i (by omega)
        generalize Q.getD k e0 = x at *
        generalize Q'.getD k e0 = y at *
        have hE := eqSent_any x y wr.drew (o1.below (Below.drew (Below.refl _ wr))) (o2.below (Below.drew (Below.refl _ wr))) l1 l2
        clear hc hc' rk rk' hh hh'
        cases hR : decide ((x.p, x.l) = (y.p, y.l))
        · rw [hR] at hE
          go_wp2
          go_region_with (go_at_call 67; refine hE.mono ?_; rintro e w1 ⟨rfl, hb⟩)
          all_goals go_wp2
          all_goals go_ret
          all_goals exact ⟨ret_bool (NE.out (of_decide_eq_false hR)).symm, Rw.next (by repeat (first | exact hbel | apply Below.drew)) hb⟩
        · rw [hR] at hE
          go_wp2
          go_region_with (go_at_call 67; refine hE.mono ?_; rintro e w1 ⟨rfl, hb⟩)
          all_goals go_wp2
          all_goals go_roundw
          all_goals first
            | exact ⟨k + 1, by omega, by go_num, Rw.next (by repeat (first | exact hbel | apply Below.drew)) hb, ST.out (of_decide_eq_true hR)⟩
            | (simp [intOf]; omega)
      · have he : k = n := by omega
        subst he
        go_wp2
        go_ret
        exact ⟨ret_bool (decide_eq_true (said_ext (by have := HN.out; have := HN'.out; omega) (by rw [← HN.out]; exact HSA.out))).symm, hbel⟩
  · have hne : ((Q.length : Int) != (Q'.length : Int)) = true := by simp; omega
    have hd : decide (said Q = said Q') = false := decide_eq_false fun e => hl (by rw [← said_len Q, ← said_len Q', e])
    rw [hd]
    go_enter Try.func29, Try.ntmps29
    go_wp2
    go_ret
    exact ⟨rfl, Below.refl _ _⟩

end Go.Proofs.Ytkakdldhinimoaa.Yo

namespace Go.Proofs.Ytkakdldhinimoaa.Yp
set_option maxRecDepth 8000
set_option linter.unusedSimpArgs false
set_option linter.unusedVariables false
open Go Go.RowKit
open Num Pl Hr Hh Pq Ht Yh Yj Yk Yl Ym Yb Yc Yd Yo

set_option maxHeartbeats 2000000 in
theorem markActS_any (k0 : Int) (h0 : 0 ≤ k0) (h1 : k0 ≤ 1000000000000) (g cap : Nat) (l : List A3) (w : World) (h : Yb.Mine w g l) :
    Calls Try.prog 33 #[.slice (some ⟨g, 0, none⟩) l.length cap, .int .i64 k0] w fun e w' => e = .returned (.int .i64 (k0 + 3 * (l.length : Int))) ∧ Mk.Only g w w' := by
  obtain ⟨hrow, hs⟩ := h
  obtain ⟨n, hn⟩ : ∃ n, n = l.length := ⟨_, rfl⟩
  rw [← hn] at hrow hs ⊢
  have HR : Hid (∃ f, w.rowIs g 76 (n * 3) f) := ⟨_, hrow⟩
  clear hrow hn
  go_enter Try.func33, Try.ntmps33
  go_wp2
  go_loopw [1, 5] (fun q i wr => ∃ k : Nat, k ≤ n ∧ i = .int .i64 k ∧ q = .int .i64 (k0 + 3 * (k : Int)) ∧ Mk.Only g w wr ∧ ∃ f, wr.rowIs g 76 (n * 3) f) (fun _ i _ => n - (intOf i).toNat)
  case atStart => exact ⟨0, Nat.zero_le _, rfl, by simp, Mk.Only.refl _ _, HR.out⟩
  case round =>
    obtain ⟨k, hk, rfl, rfl, hon, f, hrow⟩ := hrel
    by_cases hlt : k < n
    · have hkz : (k : Int) < (n : Int) := by omega
      have g0 := hrow.cell (i := k * 3) (by omega)
      have g1 := hrow.cell (i := k * 3 + 1) (by omega)
      have g2 := hrow.cell (i := k * 3 + 2) (by omega)
      have f0 := hrow.frozen (k * 3)
      have f1 := hrow.frozen (k * 3 + 1)
      have f2 := hrow.frozen (k * 3 + 2)
      clear HR
      go_wp2
      go_roundw
      case rel => exact ⟨k + 1, by omega, by go_num, by simp only [Value.int.injEq, true_and]; omega, ((hon.set _).set _).set _, _, ((hrow.set _ _).set _ _).set _ _⟩
      case measure => simp [intOf]; omega
    · have he : k = n := by omega
      subst he
      go_wp2
      go_ret
      exact ⟨rfl, hon⟩

/-- What is sent, the first j marked. -/
structure Md (w : World) (g : Nat) (Q : List E) (j : Nat) : Prop where
  blk : 0 < Q.length → ∃ cur, w.heap[g]? = some (Obj.cells cur 56 (0, 0))
  port : ∀ i, i < Q.length → w.cell? ⟨g, i * 2, none⟩ = some (.int .i64 (if i < j then 1 + 9 * (i : Int) else (Q.getD i e0).p))
  hd : ∀ i, i < Q.length → w.cell? ⟨g, i * 2 + 1, none⟩ = some (.slice (some ⟨(Q.getD i e0).g, 0, none⟩) 8 (Q.getD i e0).c)
  own : ∀ i, i < Q.length → Wt w (some ⟨(Q.getD i e0).g, 0, none⟩) (Q.getD i e0).g (if i < j then Mf.marksF (1 + 9 * (i : Int) + 1) 8 else (Q.getD i e0).l)

theorem Md.below {w w' : World} {g j : Nat} {Q : List E} (h : Md w g Q j) (b : Below w.heap.size w w') : Md w' g Q j := by
  refine ⟨fun hp => ?_, fun i hi => ?_, fun i hi => ?_, fun i hi => (h.own i hi).below b⟩
  · obtain ⟨cur, hc⟩ := h.blk hp
    exact ⟨cur, (b.block _ (Array.getElem?_eq_some_iff.1 hc).1).trans hc⟩
  · exact (b.cell (World.block_lt_of_cell? _ _ (h.port i hi))).trans (h.port i hi)
  · exact (b.cell (World.block_lt_of_cell? _ _ (h.hd i hi))).trans (h.hd i hi)

/-- The blocks lie apart. -/
structure Ap (B g : Nat) (Q : List E) : Prop where
  far : ∀ i, i < Q.length → (Q.getD i e0).g ≠ g
  diff : ∀ i k, i < Q.length → k < Q.length → i ≠ k → (Q.getD i e0).g ≠ (Q.getD k e0).g
  lo : 0 < Q.length → B ≤ g
  low : ∀ i, i < Q.length → B ≤ (Q.getD i e0).g
  len : ∀ i, i < Q.length → (Q.getD i e0).l.length = 8

theorem start {w : World} {B : Nat} {v : Value} {Q : List E} (h : Sn w B v Q) : ∃ a g cap, v = .slice a Q.length cap ∧ (0 < Q.length → a = some ⟨g, 0, none⟩) ∧ Md w g Q 0 ∧ Ap B g Q := by
  obtain ⟨a, g, cap, rfl, hh, hc⟩ := view h
  refine ⟨a, g, cap, rfl, fun hp => (hh hp).1, ⟨fun hp => (hh hp).2.2, fun i hi => ?_, fun i hi => (hc i hi).2, fun i hi => ?_⟩, ⟨fun i hi e => ?_, fun i k hi hk hne => ?_, fun hp => (hh hp).2.1, fun i hi => (h.row _ (get_mem hi)).2.1, fun i hi => (h.row _ (get_mem hi)).2.2⟩⟩
  · rw [if_neg (Nat.not_lt_zero _)]; exact (hc i hi).1
  · rw [if_neg (Nat.not_lt_zero _)]; exact (h.row _ (get_mem hi)).1.wt
  · obtain ⟨_, _, cur, hb⟩ := hh (by omega)
    obtain ⟨⟨c, hb', _⟩, _⟩ := (h.row _ (get_mem hi)).1
    rw [e, hb] at hb'
    injection hb' with hb'
    injection hb' with _ hb' _
    exact absurd hb' (by decide)
  · have hd := List.pairwise_iff_getElem.1 h.diff
    simp only [List.getD, List.getElem?_eq_getElem hi, List.getElem?_eq_getElem hk, Option.getD_some]
    rcases Nat.lt_or_gt_of_ne hne with q | q
    · exact hd i k hi hk q
    · exact fun e => hd k i hk hi q e.symm

theorem step1 {w : World} {B g j : Nat} {Q : List E} (h : Md w g Q j) (ap : Ap B g Q) (hj : j < Q.length) :
    (∀ i, i < Q.length → (w.setCell ⟨g, j * 2, none⟩ (.int .i64 (1 + 9 * (j : Int)))).cell? ⟨g, i * 2, none⟩ = some (.int .i64 (if i < j + 1 then 1 + 9 * (i : Int) else (Q.getD i e0).p))) ∧
    (∀ i, i < Q.length → (w.setCell ⟨g, j * 2, none⟩ (.int .i64 (1 + 9 * (j : Int)))).cell? ⟨g, i * 2 + 1, none⟩ = some (.slice (some ⟨(Q.getD i e0).g, 0, none⟩) 8 (Q.getD i e0).c)) ∧
    (∀ i, i < Q.length → Wt (w.setCell ⟨g, j * 2, none⟩ (.int .i64 (1 + 9 * (j : Int)))) (some ⟨(Q.getD i e0).g, 0, none⟩) (Q.getD i e0).g (if i < j then Mf.marksF (1 + 9 * (i : Int) + 1) 8 else (Q.getD i e0).l)) ∧
    ∃ cur, (w.setCell ⟨g, j * 2, none⟩ (.int .i64 (1 + 9 * (j : Int)))).heap[g]? = some (Obj.cells cur 56 (0, 0)) := by
  refine ⟨fun i hi => ?_, fun i hi => ?_, fun i hi => ?_, ?_⟩
  · by_cases e : i = j
    · subst e
      rw [World.cell?_setCell_same _ _ _ (h.port i hi), if_pos (by omega)]
    · rw [World.cell?_setCell_other _ _ _ _ (by intro q; injection q with q1 q2; omega), h.port i hi]
      have : (i < j + 1) = (i < j) := by rw [eq_iff_iff]; omega
      simp only [this]
  · rw [World.cell?_setCell_other _ _ _ _ (by intro q; injection q with q1 q2; omega)]
    exact h.hd i hi
  · exact Hs.wt_set (h.own i hi) (by simpa using fun e : g = (Q.getD i e0).g => ap.far i hi e.symm)
  · obtain ⟨cur, hc⟩ := h.blk (by omega)
    exact ⟨cur.setIfInBounds (j * 2) (.int .i64 (1 + 9 * (j : Int))), by simp [World.setCell, Array.getElem?_modify, hc]⟩

theorem step2 {w w' : World} {B g j : Nat} {Q : List E} (ap : Ap B g Q) (hj : j < Q.length)
    (hp : ∀ i, i < Q.length → w.cell? ⟨g, i * 2, none⟩ = some (.int .i64 (if i < j + 1 then 1 + 9 * (i : Int) else (Q.getD i e0).p)))
    (hd : ∀ i, i < Q.length → w.cell? ⟨g, i * 2 + 1, none⟩ = some (.slice (some ⟨(Q.getD i e0).g, 0, none⟩) 8 (Q.getD i e0).c))
    (ho : ∀ i, i < Q.length → Wt w (some ⟨(Q.getD i e0).g, 0, none⟩) (Q.getD i e0).g (if i < j then Mf.marksF (1 + 9 * (i : Int) + 1) 8 else (Q.getD i e0).l))
    (hb : ∃ cur, w.heap[g]? = some (Obj.cells cur 56 (0, 0)))
    (k : Mk.Only (Q.getD j e0).g w w') (hm : Wt w' (some ⟨(Q.getD j e0).g, 0, none⟩) (Q.getD j e0).g (Mf.marksF (1 + 9 * (j : Int) + 1) 8)) : Md w' g Q (j + 1) := by
  obtain ⟨cur, hc⟩ := hb
  have hbg : w'.heap[g]? = w.heap[g]? := k.block g (Array.getElem?_eq_some_iff.1 hc).1 (by simpa using fun e : g = (Q.getD j e0).g => ap.far j hj e.symm)
  refine ⟨fun _ => ⟨cur, hbg.trans hc⟩, fun i hi => (World.cell?_of_block (a := ⟨g, i * 2, none⟩) hbg).trans (hp i hi), fun i hi => (World.cell?_of_block (a := ⟨g, i * 2 + 1, none⟩) hbg).trans (hd i hi), fun i hi => ?_⟩
  by_cases e : i = j
  · subst e
    rw [if_pos (by omega)]
    exact hm
  · have : (i < j + 1) = (i < j) := by rw [eq_iff_iff]; omega
    simp only [this]
    exact wt_only k (ho i hi) (.inr (ap.diff i j hi hj e))

set_option maxHeartbeats 2000000 in
theorem markSentS_any {w : World} {B g cap : Nat} {a : Option Addr} {Q : List E} (hh : 0 < Q.length → a = some ⟨g, 0, none⟩) (md : Md w g Q 0) (ap : Ap B g Q) (hs : Q.length ≤ 4096) :
    Calls Try.prog 34 #[.slice a Q.length cap, .int .i64 1] w fun e w' => e = .returned (.int .i64 (1 + 9 * (Q.length : Int))) ∧ Md w' g Q Q.length ∧ Below B w w' := by
  obtain ⟨n, hn⟩ : ∃ n, n = Q.length := ⟨_, rfl⟩
  have HN : Hid (n = Q.length) := hn
  rw [← hn] at hs hh ⊢
  clear hn
  go_enter Try.func34, Try.ntmps34
  go_wp2
  go_loopw [1, 5] (fun q i wr => ∃ k : Nat, k ≤ n ∧ i = .int .i64 k ∧ q = .int .i64 (1 + 9 * (k : Int)) ∧ Below B w wr ∧ Md wr g Q k) (fun _ i _ => n - (intOf i).toNat)
  case atStart => exact ⟨0, Nat.zero_le _, rfl, by simp, Below.refl _ _, md⟩
  case round =>
    obtain ⟨k, hk, rfl, rfl, bel, mk⟩ := hrel
    by_cases hlt : k < n
    · have hkl : k < Q.length := by have := HN.out; omega
      obtain rfl := hh (by omega)
      have hkz : (k : Int) < (n : Int) := by omega
      have g0 := mk.port k hkl
      have f0 : wr.frozen? ⟨g, k * 2, none⟩ = false := by
        obtain ⟨cur, hc⟩ := mk.blk (by omega)
        simp [World.frozen?, hc]
      obtain ⟨s1, s2, s3, s4⟩ := step1 mk ap hkl
      have b1 : Below B w (wr.setCell ⟨g, k * 2, none⟩ (.int .i64 (1 + 9 * (k : Int)))) := bel.setCell (ap.lo (by omega)) _
      have g1 := s2 k hkl
      have o1 := s3 k hkl
      rw [if_neg (Nat.lt_irrefl _)] at o1
      have hl8 := ap.len k hkl
      have STEP : Hid (∀ w2, Mk.Only (Q.getD k e0).g (wr.setCell ⟨g, k * 2, none⟩ (.int .i64 (1 + 9 * (k : Int)))) w2 → Wt w2 (some ⟨(Q.getD k e0).g, 0, none⟩) (Q.getD k e0).g (Mf.marksF (1 + 9 * (k : Int) + 1) 8) → Md w2 g Q (k + 1)) := fun w2 q1 q2 => step2 ap hkl s1 s2 s3 s4 q1 q2
      have hlo := ap.low k hkl
      have hB2 : B ≤ wr.heap.size := by
        obtain ⟨cur, hc⟩ := mk.blk (by omega)
        have q1 := (Array.getElem?_eq_some_iff.1 hc).1
        have q2 := ap.lo (by omega)
        omega
      have hbw : B ≤ (wr.setCell ⟨g, k * 2, none⟩ (.int .i64 (1 + 9 * (k : Int)))).heap.size := by simp; omega
      clear s1 s2 s3 s4 mk md
      generalize (Q.getD k e0).g = gx at *
      generalize (Q.getD k e0).c = cx at *
      generalize (Q.getD k e0).l = lx at *
      generalize (Q.getD k e0).p = px at *
      obtain ⟨W1, hW1⟩ : ∃ W1, W1 = wr.setCell ⟨g, k * 2, none⟩ (.int .i64 (1 + 9 * (k : Int))) := ⟨_, rfl⟩
      rw [← hW1] at o1 b1 hbw STEP
      obtain ⟨q, hq⟩ : ∃ q, q = 1 + 9 * (k : Int) + 1 := ⟨_, rfl⟩
      have hM := Mf.markF_any q (by omega) (by omega) _ _ cx _ _ o1
      rw [hl8] at hM
      rw [← hq] at STEP
      clear o1
      go_wp2_with (go_at_call 32; rw [← hW1, ← hq]; refine hM.mono ?_; rintro e w2 ⟨rfl, hk2, hw2⟩)
      go_roundw
      case rel => exact ⟨k + 1, by omega, by go_num, by simp only [Value.int.injEq, true_and]; omega, hk2.only.below b1 hbw hlo, STEP.out _ hk2.only hw2⟩
      case measure => simp [intOf]; omega
    · have he : k = n := by omega
      subst he
      go_wp2
      go_ret
      exact ⟨rfl, mk, bel⟩

set_option maxHeartbeats 2000000 in
theorem heldSentS_any {w : World} {g cap : Nat} {a : Option Addr} {Q : List E} (hh : 0 < Q.length → a = some ⟨g, 0, none⟩) (md : Md w g Q Q.length) (hs : Q.length ≤ 4096) :
    Calls Try.prog 35 #[.slice a Q.length cap, .int .i64 1] w fun e w' => e = .returned (.int .i64 (1 + 9 * (Q.length : Int))) ∧ w' = w := by
  obtain ⟨n, hn⟩ : ∃ n, n = Q.length := ⟨_, rfl⟩
  have HN : Hid (n = Q.length) := hn
  rw [← hn] at hs hh ⊢
  clear hn
  go_enter Try.func35, Try.ntmps35
  go_wp2
  go_loop [1, 5] (fun q i => ∃ k : Nat, k ≤ n ∧ i = .int .i64 k ∧ q = .int .i64 (1 + 9 * (k : Int))) (fun _ i => n - (intOf i).toNat)
  case atStart => exact ⟨0, Nat.zero_le _, rfl, by simp⟩
  case round =>
    obtain ⟨k, hk, rfl, rfl⟩ := hrel
    by_cases hlt : k < n
    · have hkl : k < Q.length := by have := HN.out; omega
      obtain rfl := hh (by omega)
      have hkz : (k : Int) < (n : Int) := by omega
      have g0 := md.port k hkl
      have g1 := md.hd k hkl
      have o1 := md.own k hkl
      rw [if_pos hkl] at g0 o1
      generalize (Q.getD k e0).g = gx at *
      generalize (Q.getD k e0).c = cx at *
      obtain ⟨q, hq⟩ : ∃ q, q = 1 + 9 * (k : Int) + 1 := ⟨_, rfl⟩
      rw [← hq] at o1
      have hM := Mf.heldF_any q (by omega) (by omega) _ _ cx 8 _ o1
      have hnn : ¬ (q + 8 < 0) := by omega
      clear o1
      go_wp2_with (go_at_call 38; rw [← hq]; refine hM.mono ?_; rintro e w2 ⟨rfl, hw⟩; replace hw := hw.symm; subst hw)
      go_round
      case rel => exact ⟨k + 1, by omega, by go_num, by simp only [Value.int.injEq, true_and]; omega⟩
      case measure => simp [intOf]; omega
    · have he : k = n := by omega
      subst he
      go_wp2
      go_ret
      exact ⟨rfl, rfl⟩

end Go.Proofs.Ytkakdldhinimoaa.Yp

namespace Go.Proofs.Ytkakdldhinimoaa.Yq
set_option maxRecDepth 8000
open Go Go.RowKit
open Num Pl Hr Hh Pq Ht Yh Yj Yk Yl Ym Yn Yb Yc Yd Yo Yp

/-- A function over a head, ports and actions answers R and L. -/
def CP (f : Nat) (h ports : List Int) (l : List A3) (R : Bool) (L : List (Int × List Int)) : Prop :=
  ∀ (ha pa a : Option Addr) (hb ho hc pb po pc b off cap : Nat) (w : World), Hr.Rd w ha hb ho h → Hr.Rd w pa pb po ports → Yb.Rd w a b off l →
    Calls Try.prog f #[.agg #[.slice ha h.length hc], .slice pa ports.length pc, .slice a l.length cap] w (ResP w R L)

theorem performR (h ports : List Int) (l : List A3) : ∃ R L, L.length ≤ 96 ∧ CP 28 h ports l R L ∧ CP 26 h ports l R L := by
  cases hR : actsB l && Hg.headB h && Ya.portsB ports
  · exact ⟨false, [], by simp, fun ha pa a hb ho hc pb po pc b off cap w h1 h2 h3 => perfI_no ha hb ho hc h pa pb po pc ports a b off cap l w h1 h2 h3 hR,
      fun ha pa a hb ho hc pb po pc b off cap w h1 h2 h3 => perfS_no ha hb ho hc h pa pb po pc ports a b off cap l w h1 h2 h3 hR⟩
  · simp only [Bool.and_eq_true] at hR
    obtain ⟨⟨q1, q2⟩, q3⟩ := hR
    refine ⟨true, sentK (h.getD 0 0) ports l h l.length, ?_, fun ha pa a hb ho hc pb po pc b off cap w h1 h2 h3 => perfI_yes ha hb ho hc h pa pb po pc ports a b off cap l w h1 h2 h3 q1 q2 q3,
      fun ha pa a hb ho hc pb po pc b off cap w h1 h2 h3 => perfS_yes ha hb ho hc h pa pb po pc ports a b off cap l w h1 h2 h3 q1 q2 q3⟩
    have := sentK_len (h.getD 0 0) ports l h (of_decide_eq_true q3).1 l.length
    have := (actsB_out q1).1
    omega

theorem sn_only {w w' : World} {B g : Nat} {v : Value} {Q : List E} (h : Sn w B v Q) (ho : Mk.Only g w w') (hg : g < B) : Sn w' B v Q := by
  refine ⟨h.own.kept ho ?_, fun e he => ?_, h.diff⟩
  · rcases h.own.2 with ⟨rfl, _⟩ | ⟨k, cap, cur, rfl, hb, _⟩
    · exact .inl rfl
    · refine .inr ?_
      simp only [Value.ownBlock, ne_eq, Option.some.injEq]
      omega
  · obtain ⟨o, h1, h2⟩ := h.row e he
    exact ⟨o.of_block (ho.block _ o.lt (by simp only [ne_eq, Option.some.injEq]; omega)), h1, h2⟩
theorem mineA_only {w w' : World} {b g : Nat} {l : List A3} (h : Yb.Mine w b l) (ho : Mk.Only g w w') (hg : b ≠ g) : Yb.Mine w' b l := ⟨h.row.of_block (ho.block b h.row.lt (by simpa using hg)), h.size⟩
theorem mine_only {w w' : World} {b g : Nat} {l : List Int} (h : Hr.Mine w b l) (ho : Mk.Only g w w') (hg : b ≠ g) : Hr.Mine w' b l := ⟨h.row.of_block (ho.block b h.row.lt (by simpa using hg)), h.size⟩
theorem said_le {Q : List E} {L : List (Int × List Int)} (h : said Q = L) (hL : L.length ≤ 96) : Q.length ≤ 4096 := by
  have := congrArg List.length h
  rw [said_len] at this
  omega

end Go.Proofs.Ytkakdldhinimoaa.Yq

