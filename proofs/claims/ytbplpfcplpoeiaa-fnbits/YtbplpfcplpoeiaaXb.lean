/-
  Texts of one claim, laid together: Mh, Hb, Hs, Mq, Mu, Mw, By, Lf, Lj, Li, Lg, Draw, Drawb, Tg, Dp, Da, Lp, Lo.
-/
import Derived.Test.YtbplpfcplpoeiaaBw
import Derived.Test.YtbplpfcplpoeiaaHg
import Derived.Test.YtbplpfcplpoeiaaMp
import Derived.Test.YtbplpfcplpoeiaaLc
import Derived.Test.YtbplpfcplpoeiaaMm
import Derived.Test.YtbplpfcplpoeiaaBx
import Derived.Test.YtbplpfcplpoeiaaMa
import Derived.Test.YtbplpfcplpoeiaaMr
import Derived.Test.YtbplpfcplpoeiaaRg
import Derived.Test.YtbplpfcplpoeiaaPut
import Derived.Test.YtbplpfcplpoeiaaApp
import Derived.Test.YtbplpfcplpoeiaaPf
namespace Go.Proofs.Ytbplpfcplpoeiaa.Mh
open Go Go.RowKit
open Num Pl Hr Hh Hf Hg Pa Pm Po Pq
set_option linter.unusedSimpArgs false
set_option linter.unusedVariables false

set_option maxHeartbeats 8000000 in
theorem hitsS (b1 o1 c1 : Nat) (b2 o2 c2 : Nat) (b3 o3 c3 : Nat) (V M H : List Int) (w : World)
    (r1 : ∀ k, k < 8 → w.cell? ⟨b1, o1 + k, none⟩ = some (.int .i64 (V.getD k 0))) (r2 : ∀ k, k < 8 → w.cell? ⟨b2, o2 + k, none⟩ = some (.int .i64 (M.getD k 0))) (r3 : ∀ k, k < 8 → w.cell? ⟨b3, o3 + k, none⟩ = some (.int .i64 (H.getD k 0)))
    (d1 : ∀ k, k < 8 → 0 ≤ V.getD k 0 ∧ V.getD k 0 < 281474976710656) (d2 : ∀ k, k < 8 → 0 ≤ M.getD k 0 ∧ M.getD k 0 < 281474976710656) (d3 : ∀ k, k < 8 → 0 ≤ H.getD k 0 ∧ H.getD k 0 < 281474976710656)
    (t0 : ∀ w1, Below w.heap.size w w1 → Calls Try.prog 28 #[.agg #[.slice (some ⟨b1, o1, none⟩) 8 c1, .slice (some ⟨b2, o2, none⟩) 8 c2]] w1 fun e w' => e = .returned (.bool true) ∧ Below w1.heap.size w1 w')
    (t1 : ∀ w1, Below w.heap.size w w1 → Calls Try.prog 70 #[.agg #[.slice (some ⟨b3, o3, none⟩) 8 c3]] w1 fun e w' => e = .returned (.bool true) ∧ Below w1.heap.size w1 w')
    (R : Bool) (hR : R = true ↔ ∀ f, f < 8 → ∀ i, i < Bw.fbN f → (Bw.bitI (M.getD f 0) i = 1 → Bw.bitI (V.getD f 0) i = Bw.bitI (H.getD f 0) i)) :
    Calls Try.prog 41 #[.agg #[.slice (some ⟨b1, o1, none⟩) 8 c1, .slice (some ⟨b2, o2, none⟩) 8 c2], .agg #[.slice (some ⟨b3, o3, none⟩) 8 c3]] w fun e w' => e = .returned (.bool R) ∧ Below w.heap.size w w' := by
  have R1 : Hid (∀ k, k < 8 → w.cell? ⟨b1, o1 + k, none⟩ = some (.int .i64 (V.getD k 0))) := r1
  have D1 : Hid (∀ k, k < 8 → 0 ≤ V.getD k 0 ∧ V.getD k 0 < 281474976710656) := d1
  have R2 : Hid (∀ k, k < 8 → w.cell? ⟨b2, o2 + k, none⟩ = some (.int .i64 (M.getD k 0))) := r2
  have D2 : Hid (∀ k, k < 8 → 0 ≤ M.getD k 0 ∧ M.getD k 0 < 281474976710656) := d2
  have R3 : Hid (∀ k, k < 8 → w.cell? ⟨b3, o3 + k, none⟩ = some (.int .i64 (H.getD k 0))) := r3
  have D3 : Hid (∀ k, k < 8 → 0 ≤ H.getD k 0 ∧ H.getD k 0 < 281474976710656) := d3
  have T0 : Hid (∀ w1, Below w.heap.size w w1 → Calls Try.prog 28 #[.agg #[.slice (some ⟨b1, o1, none⟩) 8 c1, .slice (some ⟨b2, o2, none⟩) 8 c2]] w1 fun e w' => e = .returned (.bool true) ∧ Below w1.heap.size w1 w') := t0
  have T1 : Hid (∀ w1, Below w.heap.size w w1 → Calls Try.prog 70 #[.agg #[.slice (some ⟨b3, o3, none⟩) 8 c3]] w1 fun e w' => e = .returned (.bool true) ∧ Below w1.heap.size w1 w') := t1
  have HR : Hid (R = true ↔ ∀ f, f < 8 → ∀ i, i < Bw.fbN f → (Bw.bitI (M.getD f 0) i = 1 → Bw.bitI (V.getD f 0) i = Bw.bitI (H.getD f 0) i)) := hR
  clear hR t0 t1 r1 d1 r2 d2 r3 d3
  obtain ⟨W0, hW0⟩ : ∃ W0, W0 = (w.alloc (.cells #[.slice (some ⟨b1, o1, none⟩) 8 c1, .slice (some ⟨b2, o2, none⟩) 8 c2] 25)).alloc (.cells #[.slice (some ⟨b3, o3, none⟩) 8 c3] 27) := ⟨_, rfl⟩
  have B : Below w.heap.size w W0 := by subst hW0; exact Mi.below2 _ _ _
  have k0 : W0.heap[w.heap.size]? = some (.cells #[.slice (some ⟨b1, o1, none⟩) 8 c1, .slice (some ⟨b2, o2, none⟩) 8 c2] 25 (0, 0)) := by subst hW0; rw [at_old (by simp), at_new rfl]
  have k1 : W0.heap[w.heap.size + 1]? = some (.cells #[.slice (some ⟨b3, o3, none⟩) 8 c3] 27 (0, 0)) := by subst hW0; exact at_new (by simp)
  have tok1 : True := trivial
  go_enter Try.func41, Try.ntmps41
  go_wp2_with (first
    | (go_at_call 28; clear tok1; rw [← hW0]; refine (T0.out _ B).mono ?_; rintro e wa ⟨rfl, hb⟩; replace k0 := (hb.block _ (Array.getElem?_eq_some_iff.1 k0).1).trans k0; replace k1 := (hb.block _ (Array.getElem?_eq_some_iff.1 k1).1).trans k1; obtain ⟨p00, p01⟩ := two k0; have p10 := one k1; replace B := Rw.next B hb; clear hb; have tok2 : True := trivial)
    | (go_at_call 70; clear tok2; refine (T1.out _ B).mono ?_; rintro e wb ⟨rfl, hb⟩; clear p00 p01 p10; replace k0 := (hb.block _ (Array.getElem?_eq_some_iff.1 k0).1).trans k0; replace k1 := (hb.block _ (Array.getElem?_eq_some_iff.1 k1).1).trans k1; obtain ⟨p00, p01⟩ := two k0; have p10 := one k1; replace B := Rw.next B hb; clear hb))
  clear p00 p01 p10 hW0 T0 T1
  go_loopw [5] (fun i wr => ∃ k : Nat, k ≤ 8 ∧ i = .int .i64 k ∧ Below w.heap.size w wr ∧ wr.heap[w.heap.size]? = some (.cells #[.slice (some ⟨b1, o1, none⟩) 8 c1, .slice (some ⟨b2, o2, none⟩) 8 c2] 25 (0, 0)) ∧ wr.heap[w.heap.size + 1]? = some (.cells #[.slice (some ⟨b3, o3, none⟩) 8 c3] 27 (0, 0)) ∧ ∀ f, f < k → ∀ i, i < Bw.fbN f → (Bw.bitI (M.getD f 0) i = 1 → Bw.bitI (V.getD f 0) i = Bw.bitI (H.getD f 0) i)) (fun i _ => 8 - (intOf i).toNat)
  case atStart => exact ⟨0, Nat.zero_le _, rfl, B, k0, k1, fun f hf => by omega⟩
  case round =>
    obtain ⟨k, hk, rfl, hbo, q0, q1, hgo⟩ := hrel
    have HG : Hid (∀ f, f < k → ∀ i, i < Bw.fbN f → (Bw.bitI (M.getD f 0) i = 1 → Bw.bitI (V.getD f 0) i = Bw.bitI (H.getD f 0) i)) := hgo
    clear hgo B k0 k1
    by_cases hlt : k < 8
    · have hkz : (k : Int) < 8 := by omega
      have h48 := Bw.fbN_le k
      have HF : Hid (∀ w, Calls Try.prog 52 #[.int .i64 k] w fun e w' => e = .returned (.int .i64 (Bw.fbN k : Int)) ∧ Below w.heap.size w w') := (fun w => by have := specBits_any k w; rw [Bw.fbN_eq] at this; exact this : ∀ w, Calls Try.prog 52 #[.int .i64 k] w fun e w' => e = .returned (.int .i64 (Bw.fbN k : Int)) ∧ Below w.heap.size w w')
      go_wp2
      go_loopw [6] (fun i wr => ∃ j : Nat, j ≤ Bw.fbN k ∧ i = .int .i64 j ∧ Below w.heap.size w wr ∧ wr.heap[w.heap.size]? = some (.cells #[.slice (some ⟨b1, o1, none⟩) 8 c1, .slice (some ⟨b2, o2, none⟩) 8 c2] 25 (0, 0)) ∧ wr.heap[w.heap.size + 1]? = some (.cells #[.slice (some ⟨b3, o3, none⟩) 8 c3] 27 (0, 0)) ∧ ∀ i, i < j → (Bw.bitI (M.getD k 0) i = 1 → Bw.bitI (V.getD k 0) i = Bw.bitI (H.getD k 0) i)) (fun i _ => Bw.fbN k - (intOf i).toNat)
      case atStart => exact ⟨0, Nat.zero_le _, rfl, hbo, q0, q1, fun i hi => by omega⟩
      case round =>
        obtain ⟨j, hj, rfl, hbel, q0, q1, hgi⟩ := hrel
        have HI : Hid (∀ i, i < j → (Bw.bitI (M.getD k 0) i = 1 → Bw.bitI (V.getD k 0) i = Bw.bitI (H.getD k 0) i)) := hgi
        clear hgi
        by_cases hjl : j < Bw.fbN k
        · have hjz : (j : Int) < (Bw.fbN k : Int) := by omega
          have hj48 : j < 48 := by omega
          go_wp2_with (go_at_call 52; refine (HF.out _).mono ?_; rintro e ws ⟨rfl, hb⟩; replace q0 := (hb.block _ (Array.getElem?_eq_some_iff.1 q0).1).trans q0; replace q1 := (hb.block _ (Array.getElem?_eq_some_iff.1 q1).1).trans q1; replace hbel := Rw.next hbel hb; clear hb)
          have Q0 : Hid (ws.heap[w.heap.size]? = some (.cells #[.slice (some ⟨b1, o1, none⟩) 8 c1, .slice (some ⟨b2, o2, none⟩) 8 c2] 25 (0, 0))) := q0
          have Q1 : Hid (ws.heap[w.heap.size + 1]? = some (.cells #[.slice (some ⟨b3, o3, none⟩) 8 c3] 27 (0, 0))) := q1
          obtain ⟨p00, p01⟩ := two q0
          have p10 := one q1
          clear q0 q1
          have g1 : ws.cell? ⟨b1, o1 + k, none⟩ = some (.int .i64 (V.getD k 0)) := (hbel.cell (World.block_lt_of_cell? _ _ (R1.out k hlt))).trans (R1.out k hlt)
          have H1 : Hid (∀ w, Calls Try.prog 53 #[.int .i64 (V.getD k 0), .int .i64 j] w fun e w' => e = .returned (.int .i64 (Bw.bitI (V.getD k 0) j)) ∧ w' = w) := (fun w => Bw.bit_any _ _ (D1.out k hlt).1 (D1.out k hlt).2 hj48 w : ∀ w, Calls Try.prog 53 #[.int .i64 (V.getD k 0), .int .i64 j] w fun e w' => e = .returned (.int .i64 (Bw.bitI (V.getD k 0) j)) ∧ w' = w)
          have y1 := Bw.bit_01 (V.getD k 0) j
          have g2 : ws.cell? ⟨b2, o2 + k, none⟩ = some (.int .i64 (M.getD k 0)) := (hbel.cell (World.block_lt_of_cell? _ _ (R2.out k hlt))).trans (R2.out k hlt)
          have H2 : Hid (∀ w, Calls Try.prog 53 #[.int .i64 (M.getD k 0), .int .i64 j] w fun e w' => e = .returned (.int .i64 (Bw.bitI (M.getD k 0) j)) ∧ w' = w) := (fun w => Bw.bit_any _ _ (D2.out k hlt).1 (D2.out k hlt).2 hj48 w : ∀ w, Calls Try.prog 53 #[.int .i64 (M.getD k 0), .int .i64 j] w fun e w' => e = .returned (.int .i64 (Bw.bitI (M.getD k 0) j)) ∧ w' = w)
          have y2 := Bw.bit_01 (M.getD k 0) j
          have g3 : ws.cell? ⟨b3, o3 + k, none⟩ = some (.int .i64 (H.getD k 0)) := (hbel.cell (World.block_lt_of_cell? _ _ (R3.out k hlt))).trans (R3.out k hlt)
          have H3 : Hid (∀ w, Calls Try.prog 53 #[.int .i64 (H.getD k 0), .int .i64 j] w fun e w' => e = .returned (.int .i64 (Bw.bitI (H.getD k 0) j)) ∧ w' = w) := (fun w => Bw.bit_any _ _ (D3.out k hlt).1 (D3.out k hlt).2 hj48 w : ∀ w, Calls Try.prog 53 #[.int .i64 (H.getD k 0), .int .i64 j] w fun e w' => e = .returned (.int .i64 (Bw.bitI (H.getD k 0) j)) ∧ w' = w)
          have y3 := Bw.bit_01 (H.getD k 0) j
          have HN : Hid (¬ (Bw.bitI (M.getD k 0) j = 1 → Bw.bitI (V.getD k 0) j = Bw.bitI (H.getD k 0) j) → R = false) := (fun h => by cases hr : R with | false => rfl | true => exact absurd (HR.out.1 hr k hlt j hjl) h : ¬ (Bw.bitI (M.getD k 0) j = 1 → Bw.bitI (V.getD k 0) j = Bw.bitI (H.getD k 0) j) → R = false)
          have HY : Hid ((Bw.bitI (M.getD k 0) j = 1 → Bw.bitI (V.getD k 0) j = Bw.bitI (H.getD k 0) j) → ∀ i, i < j + 1 → (Bw.bitI (M.getD k 0) i = 1 → Bw.bitI (V.getD k 0) i = Bw.bitI (H.getD k 0) i)) := (fun h i hi => by by_cases e : i = j; (· subst e; exact h); (· exact HI.out i (by omega)) : (Bw.bitI (M.getD k 0) j = 1 → Bw.bitI (V.getD k 0) j = Bw.bitI (H.getD k 0) j) → ∀ i, i < j + 1 → (Bw.bitI (M.getD k 0) i = 1 → Bw.bitI (V.getD k 0) i = Bw.bitI (H.getD k 0) i))
          generalize e1a : Bw.bitI (V.getD k 0) j = x1 at *
          generalize e1b : V.getD k 0 = m1 at H1 g1
          generalize e2a : Bw.bitI (M.getD k 0) j = x2 at *
          generalize e2b : M.getD k 0 = m2 at H2 g2
          generalize e3a : Bw.bitI (H.getD k 0) j = x3 at *
          generalize e3b : H.getD k 0 = m3 at H3 g3
          clear e1a e1b e2a e2b e3a e3b
          clear HI HF D1 D2 D3
          have hc : x2 = 0 ∨ (x2 = 1 ∧ x1 = x3) ∨ (x2 = 1 ∧ ¬ x1 = x3) := by omega
          rcases hc with u | ⟨u, t⟩ | ⟨u, t⟩
          · have U : Hid (x2 = 0) := u
            have f1 : (x2 == 1) = false := by rw [u]; rfl
            clear u y1 y2 y3
            refine wp_region_held_drew (S := (fun w' => w'.cell? ⟨w.heap.size, 0, none⟩ = some (.slice (some ⟨b1, o1, none⟩) 8 c1) ∧ w'.cell? ⟨w.heap.size, 1, none⟩ = some (.slice (some ⟨b2, o2, none⟩) 8 c2) ∧ w'.cell? ⟨w.heap.size + 1, 0, none⟩ = some (.slice (some ⟨b3, o3, none⟩) 8 c3) ∧ w'.cell? ⟨b1, o1 + k, none⟩ = some (.int .i64 m1) ∧ w'.cell? ⟨b2, o2 + k, none⟩ = some (.int .i64 m2) ∧ w'.cell? ⟨b3, o3 + k, none⟩ = some (.int .i64 m3))) (by kernel_rfl) ⟨p00, p01, p10, g1, g2, g3⟩ (fun hHeld => ?_)
            refine take (i := 0) (d := some 25) (v := .pointer (some ⟨w.heap.size, 1, none⟩)) rfl (by kernel_rfl) (by kernel_rfl) (by kernel_rfl) (by kernel_rfl) (fun _ _ _ h => h) (Or.inl ⟨by rfl, by intro w hSw; go_simp⟩) hHeld ?_
            simp only [Act.put, List.setIfInBounds_toArray, List.set_cons_zero, List.set_cons_succ]
            refine take (i := 1) (d := some 26) (v := .slice (some ⟨b2, o2, none⟩) 8 c2) rfl (by kernel_rfl) (by kernel_rfl) (by kernel_rfl) (by kernel_rfl) (fun _ _ _ h => h) (Or.inl ⟨by rfl, by intro w hSw; obtain ⟨p00, p01, p10, g1, g2, g3⟩ := hSw; go_simp⟩) hHeld ?_
            simp only [Act.put, List.setIfInBounds_toArray, List.set_cons_zero, List.set_cons_succ]
            refine take (i := 2) (d := some 27) (v := .int .i64 k) rfl (by kernel_rfl) (by kernel_rfl) (by kernel_rfl) (by kernel_rfl) (fun _ _ _ h => h) (Or.inl ⟨by rfl, by intro w hSw; go_simp⟩) hHeld ?_
            simp only [Act.put, List.setIfInBounds_toArray, List.set_cons_zero, List.set_cons_succ]
            refine take (i := 3) (d := some 28) (v := .pointer (some ⟨b2, o2 + k, none⟩)) rfl (by kernel_rfl) (by kernel_rfl) (by kernel_rfl) (by kernel_rfl) (fun _ _ _ h => h) (Or.inl ⟨by rfl, by intro w hSw; go_simp⟩) hHeld ?_
            simp only [Act.put, List.setIfInBounds_toArray, List.set_cons_zero, List.set_cons_succ]
            refine take (i := 4) (d := some 29) (v := .int .i64 m2) rfl (by kernel_rfl) (by kernel_rfl) (by kernel_rfl) (by kernel_rfl) (fun _ _ _ h => h) (Or.inl ⟨by rfl, by intro w hSw; obtain ⟨p00, p01, p10, g1, g2, g3⟩ := hSw; go_simp⟩) hHeld ?_
            simp only [Act.put, List.setIfInBounds_toArray, List.set_cons_zero, List.set_cons_succ]
            refine take (i := 5) (d := some 30) (v := .int .i64 j) rfl (by kernel_rfl) (by kernel_rfl) (by kernel_rfl) (by kernel_rfl) (fun _ _ _ h => h) (Or.inl ⟨by rfl, by intro w hSw; go_simp⟩) hHeld ?_
            simp only [Act.put, List.setIfInBounds_toArray, List.set_cons_zero, List.set_cons_succ]
            refine wpAnyH_ready (rs := [6]) (by kernel_rfl) (by simp) (Mi.readyCall2 rfl (by kernel_rfl) 53 (.tmp 29) (.tmp 30) 3 3 (by kernel_rfl) 31 (by kernel_rfl) _ _ (by kernel_rfl) (by kernel_rfl) (fun _ => rfl) (H2.out _) (fun wx hb => by rw [hb]; exact hHeld) (fun wx hb hHeld => ?_) AllReadyH.nil)
            subst hb
            simp only [Act.put, List.setIfInBounds_toArray, List.set_cons_zero, List.set_cons_succ]
            refine take (i := 7) (d := some 32) (v := .bool false) rfl (by kernel_rfl) (by kernel_rfl) (by kernel_rfl) (by kernel_rfl) (fun _ _ _ h => h) (Or.inl ⟨by rfl, by intro w hSw; go_simp⟩) hHeld ?_
            simp only [Act.put, List.setIfInBounds_toArray, List.set_cons_zero, List.set_cons_succ]
            refine take (i := 8) (d := some 33) (v := .bool false) rfl (by kernel_rfl) (by kernel_rfl) (by kernel_rfl) (by kernel_rfl) (fun _ _ _ h => h) (Or.inl ⟨by rfl, by intro w hSw; go_simp⟩) hHeld ?_
            simp only [Act.put, List.setIfInBounds_toArray, List.set_cons_zero, List.set_cons_succ]
            refine take (i := 9) (d := some 34) (v := undef) rfl (by kernel_rfl) (by kernel_rfl) (by kernel_rfl) (by kernel_rfl) (fun _ _ _ h => h) (Or.inr ⟨by rfl, rfl⟩) hHeld ?_
            simp only [Act.put, List.setIfInBounds_toArray, List.set_cons_zero, List.set_cons_succ]
            refine take (i := 10) (d := some 35) (v := undef) rfl (by kernel_rfl) (by kernel_rfl) (by kernel_rfl) (by kernel_rfl) (fun _ _ _ h => h) (Or.inr ⟨by rfl, rfl⟩) hHeld ?_
            simp only [Act.put, List.setIfInBounds_toArray, List.set_cons_zero, List.set_cons_succ]
            refine take (i := 11) (d := some 36) (v := undef) rfl (by kernel_rfl) (by kernel_rfl) (by kernel_rfl) (by kernel_rfl) (fun _ _ _ h => h) (Or.inr ⟨by rfl, rfl⟩) hHeld ?_
            simp only [Act.put, List.setIfInBounds_toArray, List.set_cons_zero, List.set_cons_succ]
            refine take (i := 12) (d := some 37) (v := undef) rfl (by kernel_rfl) (by kernel_rfl) (by kernel_rfl) (by kernel_rfl) (fun _ _ _ h => h) (Or.inr ⟨by rfl, rfl⟩) hHeld ?_
            simp only [Act.put, List.setIfInBounds_toArray, List.set_cons_zero, List.set_cons_succ]
            refine take (i := 13) (d := some 38) (v := undef) rfl (by kernel_rfl) (by kernel_rfl) (by kernel_rfl) (by kernel_rfl) (fun _ _ _ h => h) (Or.inr ⟨by rfl, rfl⟩) hHeld ?_
            simp only [Act.put, List.setIfInBounds_toArray, List.set_cons_zero, List.set_cons_succ]
            refine take (i := 14) (d := some 39) (v := undef) rfl (by kernel_rfl) (by kernel_rfl) (by kernel_rfl) (by kernel_rfl) (fun _ _ _ h => h) (Or.inr ⟨by rfl, rfl⟩) hHeld ?_
            simp only [Act.put, List.setIfInBounds_toArray, List.set_cons_zero, List.set_cons_succ]
            refine take (i := 16) (d := some 41) (v := undef) rfl (by kernel_rfl) (by kernel_rfl) (by kernel_rfl) (by kernel_rfl) (fun _ _ _ h => h) (Or.inr ⟨by rfl, rfl⟩) hHeld ?_
            simp only [Act.put, List.setIfInBounds_toArray, List.set_cons_zero, List.set_cons_succ]
            refine take (i := 17) (d := some 42) (v := undef) rfl (by kernel_rfl) (by kernel_rfl) (by kernel_rfl) (by kernel_rfl) (fun _ _ _ h => h) (Or.inr ⟨by rfl, rfl⟩) hHeld ?_
            simp only [Act.put, List.setIfInBounds_toArray, List.set_cons_zero, List.set_cons_succ]
            refine take (i := 18) (d := some 43) (v := undef) rfl (by kernel_rfl) (by kernel_rfl) (by kernel_rfl) (by kernel_rfl) (fun _ _ _ h => h) (Or.inr ⟨by rfl, rfl⟩) hHeld ?_
            simp only [Act.put, List.setIfInBounds_toArray, List.set_cons_zero, List.set_cons_succ]
            refine take (i := 19) (d := some 44) (v := undef) rfl (by kernel_rfl) (by kernel_rfl) (by kernel_rfl) (by kernel_rfl) (fun _ _ _ h => h) (Or.inr ⟨by rfl, rfl⟩) hHeld ?_
            simp only [Act.put, List.setIfInBounds_toArray, List.set_cons_zero, List.set_cons_succ]
            refine take (i := 20) (d := some 45) (v := undef) rfl (by kernel_rfl) (by kernel_rfl) (by kernel_rfl) (by kernel_rfl) (fun _ _ _ h => h) (Or.inr ⟨by rfl, rfl⟩) hHeld ?_
            simp only [Act.put, List.setIfInBounds_toArray, List.set_cons_zero, List.set_cons_succ]
            refine take (i := 21) (d := some 46) (v := undef) rfl (by kernel_rfl) (by kernel_rfl) (by kernel_rfl) (by kernel_rfl) (fun _ _ _ h => h) (Or.inr ⟨by rfl, rfl⟩) hHeld ?_
            simp only [Act.put, List.setIfInBounds_toArray, List.set_cons_zero, List.set_cons_succ]
            refine take (i := 15) (d := some 40) (v := undef) rfl (by kernel_rfl) (by kernel_rfl) (by kernel_rfl) (by kernel_rfl) (fun _ _ _ h => h) (Or.inr ⟨by rfl, rfl⟩) hHeld ?_
            simp only [Act.put, List.setIfInBounds_toArray, List.set_cons_zero, List.set_cons_succ]
            refine take (i := 22) (d := some 47) (v := undef) rfl (by kernel_rfl) (by kernel_rfl) (by kernel_rfl) (by kernel_rfl) (fun _ _ _ h => h) (Or.inr ⟨by rfl, rfl⟩) hHeld ?_
            simp only [Act.put, List.setIfInBounds_toArray, List.set_cons_zero, List.set_cons_succ]
            refine take (i := 23) (d := some 48) (v := undef) rfl (by kernel_rfl) (by kernel_rfl) (by kernel_rfl) (by kernel_rfl) (fun _ _ _ h => h) (Or.inr ⟨by rfl, rfl⟩) hHeld ?_
            simp only [Act.put, List.setIfInBounds_toArray, List.set_cons_zero, List.set_cons_succ]
            refine take (i := 24) (d := some 49) (v := .bool false) rfl (by kernel_rfl) (by kernel_rfl) (by kernel_rfl) (by kernel_rfl) (fun _ _ _ h => h) (Or.inl ⟨by rfl, by intro w hSw; go_simp⟩) hHeld ?_
            simp only [Act.put, List.setIfInBounds_toArray, List.set_cons_zero, List.set_cons_succ]
            refine wpAnyH_done (by kernel_rfl) ?_ _
            go_wp2
            go_roundw
            case rel => exact ⟨j + 1, by omega, by go_num, hbel.drew, Q0.out, Q1.out, HY.out (fun h => by have := U.out; omega)⟩
            case measure => simp [intOf]; omega
          · have U : Hid (x1 = x3) := t
            have f1 : (x2 == 1) = true := by rw [u]; rfl
            have f3 : (x1 != x3) = false := by rw [t]; simp
            clear u t y1 y2 y3
            refine wp_region_held_drew (S := (fun w' => w'.cell? ⟨w.heap.size, 0, none⟩ = some (.slice (some ⟨b1, o1, none⟩) 8 c1) ∧ w'.cell? ⟨w.heap.size, 1, none⟩ = some (.slice (some ⟨b2, o2, none⟩) 8 c2) ∧ w'.cell? ⟨w.heap.size + 1, 0, none⟩ = some (.slice (some ⟨b3, o3, none⟩) 8 c3) ∧ w'.cell? ⟨b1, o1 + k, none⟩ = some (.int .i64 m1) ∧ w'.cell? ⟨b2, o2 + k, none⟩ = some (.int .i64 m2) ∧ w'.cell? ⟨b3, o3 + k, none⟩ = some (.int .i64 m3))) (by kernel_rfl) ⟨p00, p01, p10, g1, g2, g3⟩ (fun hHeld => ?_)
            refine take (i := 0) (d := some 25) (v := .pointer (some ⟨w.heap.size, 1, none⟩)) rfl (by kernel_rfl) (by kernel_rfl) (by kernel_rfl) (by kernel_rfl) (fun _ _ _ h => h) (Or.inl ⟨by rfl, by intro w hSw; go_simp⟩) hHeld ?_
            simp only [Act.put, List.setIfInBounds_toArray, List.set_cons_zero, List.set_cons_succ]
            refine take (i := 1) (d := some 26) (v := .slice (some ⟨b2, o2, none⟩) 8 c2) rfl (by kernel_rfl) (by kernel_rfl) (by kernel_rfl) (by kernel_rfl) (fun _ _ _ h => h) (Or.inl ⟨by rfl, by intro w hSw; obtain ⟨p00, p01, p10, g1, g2, g3⟩ := hSw; go_simp⟩) hHeld ?_
            simp only [Act.put, List.setIfInBounds_toArray, List.set_cons_zero, List.set_cons_succ]
            refine take (i := 2) (d := some 27) (v := .int .i64 k) rfl (by kernel_rfl) (by kernel_rfl) (by kernel_rfl) (by kernel_rfl) (fun _ _ _ h => h) (Or.inl ⟨by rfl, by intro w hSw; go_simp⟩) hHeld ?_
            simp only [Act.put, List.setIfInBounds_toArray, List.set_cons_zero, List.set_cons_succ]
            refine take (i := 3) (d := some 28) (v := .pointer (some ⟨b2, o2 + k, none⟩)) rfl (by kernel_rfl) (by kernel_rfl) (by kernel_rfl) (by kernel_rfl) (fun _ _ _ h => h) (Or.inl ⟨by rfl, by intro w hSw; go_simp⟩) hHeld ?_
            simp only [Act.put, List.setIfInBounds_toArray, List.set_cons_zero, List.set_cons_succ]
            refine take (i := 4) (d := some 29) (v := .int .i64 m2) rfl (by kernel_rfl) (by kernel_rfl) (by kernel_rfl) (by kernel_rfl) (fun _ _ _ h => h) (Or.inl ⟨by rfl, by intro w hSw; obtain ⟨p00, p01, p10, g1, g2, g3⟩ := hSw; go_simp⟩) hHeld ?_
            simp only [Act.put, List.setIfInBounds_toArray, List.set_cons_zero, List.set_cons_succ]
            refine take (i := 5) (d := some 30) (v := .int .i64 j) rfl (by kernel_rfl) (by kernel_rfl) (by kernel_rfl) (by kernel_rfl) (fun _ _ _ h => h) (Or.inl ⟨by rfl, by intro w hSw; go_simp⟩) hHeld ?_
            simp only [Act.put, List.setIfInBounds_toArray, List.set_cons_zero, List.set_cons_succ]
            refine wpAnyH_ready (rs := [6]) (by kernel_rfl) (by simp) (Mi.readyCall2 rfl (by kernel_rfl) 53 (.tmp 29) (.tmp 30) 3 3 (by kernel_rfl) 31 (by kernel_rfl) _ _ (by kernel_rfl) (by kernel_rfl) (fun _ => rfl) (H2.out _) (fun wx hb => by rw [hb]; exact hHeld) (fun wx hb hHeld => ?_) AllReadyH.nil)
            subst hb
            simp only [Act.put, List.setIfInBounds_toArray, List.set_cons_zero, List.set_cons_succ]
            refine take (i := 7) (d := some 32) (v := .bool true) rfl (by kernel_rfl) (by kernel_rfl) (by kernel_rfl) (by kernel_rfl) (fun _ _ _ h => h) (Or.inl ⟨by rfl, by intro w hSw; go_simp⟩) hHeld ?_
            simp only [Act.put, List.setIfInBounds_toArray, List.set_cons_zero, List.set_cons_succ]
            refine take (i := 8) (d := some 33) (v := .bool true) rfl (by kernel_rfl) (by kernel_rfl) (by kernel_rfl) (by kernel_rfl) (fun _ _ _ h => h) (Or.inl ⟨by rfl, by intro w hSw; go_simp⟩) hHeld ?_
            simp only [Act.put, List.setIfInBounds_toArray, List.set_cons_zero, List.set_cons_succ]
            refine take (i := 9) (d := some 34) (v := .pointer (some ⟨w.heap.size, 0, none⟩)) rfl (by kernel_rfl) (by kernel_rfl) (by kernel_rfl) (by kernel_rfl) (fun _ _ _ h => h) (Or.inl ⟨by rfl, by intro w hSw; go_simp⟩) hHeld ?_
            simp only [Act.put, List.setIfInBounds_toArray, List.set_cons_zero, List.set_cons_succ]
            refine take (i := 10) (d := some 35) (v := .slice (some ⟨b1, o1, none⟩) 8 c1) rfl (by kernel_rfl) (by kernel_rfl) (by kernel_rfl) (by kernel_rfl) (fun _ _ _ h => h) (Or.inl ⟨by rfl, by intro w hSw; obtain ⟨p00, p01, p10, g1, g2, g3⟩ := hSw; go_simp⟩) hHeld ?_
            simp only [Act.put, List.setIfInBounds_toArray, List.set_cons_zero, List.set_cons_succ]
            refine take (i := 11) (d := some 36) (v := .int .i64 k) rfl (by kernel_rfl) (by kernel_rfl) (by kernel_rfl) (by kernel_rfl) (fun _ _ _ h => h) (Or.inl ⟨by rfl, by intro w hSw; go_simp⟩) hHeld ?_
            simp only [Act.put, List.setIfInBounds_toArray, List.set_cons_zero, List.set_cons_succ]
            refine take (i := 12) (d := some 37) (v := .pointer (some ⟨b1, o1 + k, none⟩)) rfl (by kernel_rfl) (by kernel_rfl) (by kernel_rfl) (by kernel_rfl) (fun _ _ _ h => h) (Or.inl ⟨by rfl, by intro w hSw; go_simp⟩) hHeld ?_
            simp only [Act.put, List.setIfInBounds_toArray, List.set_cons_zero, List.set_cons_succ]
            refine take (i := 13) (d := some 38) (v := .int .i64 m1) rfl (by kernel_rfl) (by kernel_rfl) (by kernel_rfl) (by kernel_rfl) (fun _ _ _ h => h) (Or.inl ⟨by rfl, by intro w hSw; obtain ⟨p00, p01, p10, g1, g2, g3⟩ := hSw; go_simp⟩) hHeld ?_
            simp only [Act.put, List.setIfInBounds_toArray, List.set_cons_zero, List.set_cons_succ]
            refine take (i := 14) (d := some 39) (v := .int .i64 j) rfl (by kernel_rfl) (by kernel_rfl) (by kernel_rfl) (by kernel_rfl) (fun _ _ _ h => h) (Or.inl ⟨by rfl, by intro w hSw; go_simp⟩) hHeld ?_
            simp only [Act.put, List.setIfInBounds_toArray, List.set_cons_zero, List.set_cons_succ]
            refine take (i := 16) (d := some 41) (v := .pointer (some ⟨w.heap.size + 1, 0, none⟩)) rfl (by kernel_rfl) (by kernel_rfl) (by kernel_rfl) (by kernel_rfl) (fun _ _ _ h => h) (Or.inl ⟨by rfl, by intro w hSw; go_simp⟩) hHeld ?_
            simp only [Act.put, List.setIfInBounds_toArray, List.set_cons_zero, List.set_cons_succ]
            refine take (i := 17) (d := some 42) (v := .slice (some ⟨b3, o3, none⟩) 8 c3) rfl (by kernel_rfl) (by kernel_rfl) (by kernel_rfl) (by kernel_rfl) (fun _ _ _ h => h) (Or.inl ⟨by rfl, by intro w hSw; obtain ⟨p00, p01, p10, g1, g2, g3⟩ := hSw; go_simp⟩) hHeld ?_
            simp only [Act.put, List.setIfInBounds_toArray, List.set_cons_zero, List.set_cons_succ]
            refine take (i := 18) (d := some 43) (v := .int .i64 k) rfl (by kernel_rfl) (by kernel_rfl) (by kernel_rfl) (by kernel_rfl) (fun _ _ _ h => h) (Or.inl ⟨by rfl, by intro w hSw; go_simp⟩) hHeld ?_
            simp only [Act.put, List.setIfInBounds_toArray, List.set_cons_zero, List.set_cons_succ]
            refine take (i := 19) (d := some 44) (v := .pointer (some ⟨b3, o3 + k, none⟩)) rfl (by kernel_rfl) (by kernel_rfl) (by kernel_rfl) (by kernel_rfl) (fun _ _ _ h => h) (Or.inl ⟨by rfl, by intro w hSw; go_simp⟩) hHeld ?_
            simp only [Act.put, List.setIfInBounds_toArray, List.set_cons_zero, List.set_cons_succ]
            refine take (i := 20) (d := some 45) (v := .int .i64 m3) rfl (by kernel_rfl) (by kernel_rfl) (by kernel_rfl) (by kernel_rfl) (fun _ _ _ h => h) (Or.inl ⟨by rfl, by intro w hSw; obtain ⟨p00, p01, p10, g1, g2, g3⟩ := hSw; go_simp⟩) hHeld ?_
            simp only [Act.put, List.setIfInBounds_toArray, List.set_cons_zero, List.set_cons_succ]
            refine take (i := 21) (d := some 46) (v := .int .i64 j) rfl (by kernel_rfl) (by kernel_rfl) (by kernel_rfl) (by kernel_rfl) (fun _ _ _ h => h) (Or.inl ⟨by rfl, by intro w hSw; go_simp⟩) hHeld ?_
            simp only [Act.put, List.setIfInBounds_toArray, List.set_cons_zero, List.set_cons_succ]
            refine wpAnyH_ready (rs := [15]) (by kernel_rfl) (by simp) (Mi.readyCall2 rfl (by kernel_rfl) 53 (.tmp 38) (.tmp 39) 3 3 (by kernel_rfl) 40 (by kernel_rfl) _ _ (by kernel_rfl) (by kernel_rfl) (fun _ => rfl) (H1.out _) (fun wx hb => by rw [hb]; exact hHeld) (fun wx hb hHeld => ?_) AllReadyH.nil)
            subst hb
            simp only [Act.put, List.setIfInBounds_toArray, List.set_cons_zero, List.set_cons_succ]
            refine wpAnyH_ready (rs := [22]) (by kernel_rfl) (by simp) (Mi.readyCall2 rfl (by kernel_rfl) 53 (.tmp 45) (.tmp 46) 3 3 (by kernel_rfl) 47 (by kernel_rfl) _ _ (by kernel_rfl) (by kernel_rfl) (fun _ => rfl) (H3.out _) (fun wx hb => by rw [hb]; exact hHeld) (fun wx hb hHeld => ?_) AllReadyH.nil)
            subst hb
            simp only [Act.put, List.setIfInBounds_toArray, List.set_cons_zero, List.set_cons_succ]
            refine take (i := 23) (d := some 48) (v := .bool false) rfl (by kernel_rfl) (by kernel_rfl) (by kernel_rfl) (by kernel_rfl) (fun _ _ _ h => h) (Or.inl ⟨by rfl, by intro w hSw; go_simp⟩) hHeld ?_
            simp only [Act.put, List.setIfInBounds_toArray, List.set_cons_zero, List.set_cons_succ]
            refine take (i := 24) (d := some 49) (v := .bool false) rfl (by kernel_rfl) (by kernel_rfl) (by kernel_rfl) (by kernel_rfl) (fun _ _ _ h => h) (Or.inl ⟨by rfl, by intro w hSw; go_simp⟩) hHeld ?_
            simp only [Act.put, List.setIfInBounds_toArray, List.set_cons_zero, List.set_cons_succ]
            refine wpAnyH_done (by kernel_rfl) ?_ _
            go_wp2
            go_roundw
            case rel => exact ⟨j + 1, by omega, by go_num, hbel.drew, Q0.out, Q1.out, HY.out (fun _ => U.out)⟩
            case measure => simp [intOf]; omega
          · have U : Hid (x2 = 1 ∧ ¬ x1 = x3) := ⟨u, t⟩
            have f1 : (x2 == 1) = true := by rw [u]; rfl
            have f3 : (x1 != x3) = true := by simpa using t
            clear u t y1 y2 y3
            refine wp_region_held_drew (S := (fun w' => w'.cell? ⟨w.heap.size, 0, none⟩ = some (.slice (some ⟨b1, o1, none⟩) 8 c1) ∧ w'.cell? ⟨w.heap.size, 1, none⟩ = some (.slice (some ⟨b2, o2, none⟩) 8 c2) ∧ w'.cell? ⟨w.heap.size + 1, 0, none⟩ = some (.slice (some ⟨b3, o3, none⟩) 8 c3) ∧ w'.cell? ⟨b1, o1 + k, none⟩ = some (.int .i64 m1) ∧ w'.cell? ⟨b2, o2 + k, none⟩ = some (.int .i64 m2) ∧ w'.cell? ⟨b3, o3 + k, none⟩ = some (.int .i64 m3))) (by kernel_rfl) ⟨p00, p01, p10, g1, g2, g3⟩ (fun hHeld => ?_)
            refine take (i := 0) (d := some 25) (v := .pointer (some ⟨w.heap.size, 1, none⟩)) rfl (by kernel_rfl) (by kernel_rfl) (by kernel_rfl) (by kernel_rfl) (fun _ _ _ h => h) (Or.inl ⟨by rfl, by intro w hSw; go_simp⟩) hHeld ?_
            simp only [Act.put, List.setIfInBounds_toArray, List.set_cons_zero, List.set_cons_succ]
            refine take (i := 1) (d := some 26) (v := .slice (some ⟨b2, o2, none⟩) 8 c2) rfl (by kernel_rfl) (by kernel_rfl) (by kernel_rfl) (by kernel_rfl) (fun _ _ _ h => h) (Or.inl ⟨by rfl, by intro w hSw; obtain ⟨p00, p01, p10, g1, g2, g3⟩ := hSw; go_simp⟩) hHeld ?_
            simp only [Act.put, List.setIfInBounds_toArray, List.set_cons_zero, List.set_cons_succ]
            refine take (i := 2) (d := some 27) (v := .int .i64 k) rfl (by kernel_rfl) (by kernel_rfl) (by kernel_rfl) (by kernel_rfl) (fun _ _ _ h => h) (Or.inl ⟨by rfl, by intro w hSw; go_simp⟩) hHeld ?_
            simp only [Act.put, List.setIfInBounds_toArray, List.set_cons_zero, List.set_cons_succ]
            refine take (i := 3) (d := some 28) (v := .pointer (some ⟨b2, o2 + k, none⟩)) rfl (by kernel_rfl) (by kernel_rfl) (by kernel_rfl) (by kernel_rfl) (fun _ _ _ h => h) (Or.inl ⟨by rfl, by intro w hSw; go_simp⟩) hHeld ?_
            simp only [Act.put, List.setIfInBounds_toArray, List.set_cons_zero, List.set_cons_succ]
            refine take (i := 4) (d := some 29) (v := .int .i64 m2) rfl (by kernel_rfl) (by kernel_rfl) (by kernel_rfl) (by kernel_rfl) (fun _ _ _ h => h) (Or.inl ⟨by rfl, by intro w hSw; obtain ⟨p00, p01, p10, g1, g2, g3⟩ := hSw; go_simp⟩) hHeld ?_
            simp only [Act.put, List.setIfInBounds_toArray, List.set_cons_zero, List.set_cons_succ]
            refine take (i := 5) (d := some 30) (v := .int .i64 j) rfl (by kernel_rfl) (by kernel_rfl) (by kernel_rfl) (by kernel_rfl) (fun _ _ _ h => h) (Or.inl ⟨by rfl, by intro w hSw; go_simp⟩) hHeld ?_
            simp only [Act.put, List.setIfInBounds_toArray, List.set_cons_zero, List.set_cons_succ]
            refine wpAnyH_ready (rs := [6]) (by kernel_rfl) (by simp) (Mi.readyCall2 rfl (by kernel_rfl) 53 (.tmp 29) (.tmp 30) 3 3 (by kernel_rfl) 31 (by kernel_rfl) _ _ (by kernel_rfl) (by kernel_rfl) (fun _ => rfl) (H2.out _) (fun wx hb => by rw [hb]; exact hHeld) (fun wx hb hHeld => ?_) AllReadyH.nil)
            subst hb
            simp only [Act.put, List.setIfInBounds_toArray, List.set_cons_zero, List.set_cons_succ]
            refine take (i := 7) (d := some 32) (v := .bool true) rfl (by kernel_rfl) (by kernel_rfl) (by kernel_rfl) (by kernel_rfl) (fun _ _ _ h => h) (Or.inl ⟨by rfl, by intro w hSw; go_simp⟩) hHeld ?_
            simp only [Act.put, List.setIfInBounds_toArray, List.set_cons_zero, List.set_cons_succ]
            refine take (i := 8) (d := some 33) (v := .bool true) rfl (by kernel_rfl) (by kernel_rfl) (by kernel_rfl) (by kernel_rfl) (fun _ _ _ h => h) (Or.inl ⟨by rfl, by intro w hSw; go_simp⟩) hHeld ?_
            simp only [Act.put, List.setIfInBounds_toArray, List.set_cons_zero, List.set_cons_succ]
            refine take (i := 9) (d := some 34) (v := .pointer (some ⟨w.heap.size, 0, none⟩)) rfl (by kernel_rfl) (by kernel_rfl) (by kernel_rfl) (by kernel_rfl) (fun _ _ _ h => h) (Or.inl ⟨by rfl, by intro w hSw; go_simp⟩) hHeld ?_
            simp only [Act.put, List.setIfInBounds_toArray, List.set_cons_zero, List.set_cons_succ]
            refine take (i := 10) (d := some 35) (v := .slice (some ⟨b1, o1, none⟩) 8 c1) rfl (by kernel_rfl) (by kernel_rfl) (by kernel_rfl) (by kernel_rfl) (fun _ _ _ h => h) (Or.inl ⟨by rfl, by intro w hSw; obtain ⟨p00, p01, p10, g1, g2, g3⟩ := hSw; go_simp⟩) hHeld ?_
            simp only [Act.put, List.setIfInBounds_toArray, List.set_cons_zero, List.set_cons_succ]
            refine take (i := 11) (d := some 36) (v := .int .i64 k) rfl (by kernel_rfl) (by kernel_rfl) (by kernel_rfl) (by kernel_rfl) (fun _ _ _ h => h) (Or.inl ⟨by rfl, by intro w hSw; go_simp⟩) hHeld ?_
            simp only [Act.put, List.setIfInBounds_toArray, List.set_cons_zero, List.set_cons_succ]
            refine take (i := 12) (d := some 37) (v := .pointer (some ⟨b1, o1 + k, none⟩)) rfl (by kernel_rfl) (by kernel_rfl) (by kernel_rfl) (by kernel_rfl) (fun _ _ _ h => h) (Or.inl ⟨by rfl, by intro w hSw; go_simp⟩) hHeld ?_
            simp only [Act.put, List.setIfInBounds_toArray, List.set_cons_zero, List.set_cons_succ]
            refine take (i := 13) (d := some 38) (v := .int .i64 m1) rfl (by kernel_rfl) (by kernel_rfl) (by kernel_rfl) (by kernel_rfl) (fun _ _ _ h => h) (Or.inl ⟨by rfl, by intro w hSw; obtain ⟨p00, p01, p10, g1, g2, g3⟩ := hSw; go_simp⟩) hHeld ?_
            simp only [Act.put, List.setIfInBounds_toArray, List.set_cons_zero, List.set_cons_succ]
            refine take (i := 14) (d := some 39) (v := .int .i64 j) rfl (by kernel_rfl) (by kernel_rfl) (by kernel_rfl) (by kernel_rfl) (fun _ _ _ h => h) (Or.inl ⟨by rfl, by intro w hSw; go_simp⟩) hHeld ?_
            simp only [Act.put, List.setIfInBounds_toArray, List.set_cons_zero, List.set_cons_succ]
            refine take (i := 16) (d := some 41) (v := .pointer (some ⟨w.heap.size + 1, 0, none⟩)) rfl (by kernel_rfl) (by kernel_rfl) (by kernel_rfl) (by kernel_rfl) (fun _ _ _ h => h) (Or.inl ⟨by rfl, by intro w hSw; go_simp⟩) hHeld ?_
            simp only [Act.put, List.setIfInBounds_toArray, List.set_cons_zero, List.set_cons_succ]
            refine take (i := 17) (d := some 42) (v := .slice (some ⟨b3, o3, none⟩) 8 c3) rfl (by kernel_rfl) (by kernel_rfl) (by kernel_rfl) (by kernel_rfl) (fun _ _ _ h => h) (Or.inl ⟨by rfl, by intro w hSw; obtain ⟨p00, p01, p10, g1, g2, g3⟩ := hSw; go_simp⟩) hHeld ?_
            simp only [Act.put, List.setIfInBounds_toArray, List.set_cons_zero, List.set_cons_succ]
            refine take (i := 18) (d := some 43) (v := .int .i64 k) rfl (by kernel_rfl) (by kernel_rfl) (by kernel_rfl) (by kernel_rfl) (fun _ _ _ h => h) (Or.inl ⟨by rfl, by intro w hSw; go_simp⟩) hHeld ?_
            simp only [Act.put, List.setIfInBounds_toArray, List.set_cons_zero, List.set_cons_succ]
            refine take (i := 19) (d := some 44) (v := .pointer (some ⟨b3, o3 + k, none⟩)) rfl (by kernel_rfl) (by kernel_rfl) (by kernel_rfl) (by kernel_rfl) (fun _ _ _ h => h) (Or.inl ⟨by rfl, by intro w hSw; go_simp⟩) hHeld ?_
            simp only [Act.put, List.setIfInBounds_toArray, List.set_cons_zero, List.set_cons_succ]
            refine take (i := 20) (d := some 45) (v := .int .i64 m3) rfl (by kernel_rfl) (by kernel_rfl) (by kernel_rfl) (by kernel_rfl) (fun _ _ _ h => h) (Or.inl ⟨by rfl, by intro w hSw; obtain ⟨p00, p01, p10, g1, g2, g3⟩ := hSw; go_simp⟩) hHeld ?_
            simp only [Act.put, List.setIfInBounds_toArray, List.set_cons_zero, List.set_cons_succ]
            refine take (i := 21) (d := some 46) (v := .int .i64 j) rfl (by kernel_rfl) (by kernel_rfl) (by kernel_rfl) (by kernel_rfl) (fun _ _ _ h => h) (Or.inl ⟨by rfl, by intro w hSw; go_simp⟩) hHeld ?_
            simp only [Act.put, List.setIfInBounds_toArray, List.set_cons_zero, List.set_cons_succ]
            refine wpAnyH_ready (rs := [15]) (by kernel_rfl) (by simp) (Mi.readyCall2 rfl (by kernel_rfl) 53 (.tmp 38) (.tmp 39) 3 3 (by kernel_rfl) 40 (by kernel_rfl) _ _ (by kernel_rfl) (by kernel_rfl) (fun _ => rfl) (H1.out _) (fun wx hb => by rw [hb]; exact hHeld) (fun wx hb hHeld => ?_) AllReadyH.nil)
            subst hb
            simp only [Act.put, List.setIfInBounds_toArray, List.set_cons_zero, List.set_cons_succ]
            refine wpAnyH_ready (rs := [22]) (by kernel_rfl) (by simp) (Mi.readyCall2 rfl (by kernel_rfl) 53 (.tmp 45) (.tmp 46) 3 3 (by kernel_rfl) 47 (by kernel_rfl) _ _ (by kernel_rfl) (by kernel_rfl) (fun _ => rfl) (H3.out _) (fun wx hb => by rw [hb]; exact hHeld) (fun wx hb hHeld => ?_) AllReadyH.nil)
            subst hb
            simp only [Act.put, List.setIfInBounds_toArray, List.set_cons_zero, List.set_cons_succ]
            refine take (i := 23) (d := some 48) (v := .bool true) rfl (by kernel_rfl) (by kernel_rfl) (by kernel_rfl) (by kernel_rfl) (fun _ _ _ h => h) (Or.inl ⟨by rfl, by intro w hSw; go_simp⟩) hHeld ?_
            simp only [Act.put, List.setIfInBounds_toArray, List.set_cons_zero, List.set_cons_succ]
            refine take (i := 24) (d := some 49) (v := .bool true) rfl (by kernel_rfl) (by kernel_rfl) (by kernel_rfl) (by kernel_rfl) (fun _ _ _ h => h) (Or.inl ⟨by rfl, by intro w hSw; go_simp⟩) hHeld ?_
            simp only [Act.put, List.setIfInBounds_toArray, List.set_cons_zero, List.set_cons_succ]
            refine wpAnyH_done (by kernel_rfl) ?_ _
            go_wp2
            go_ret
            exact ⟨Num.ret_bool (HN.out (fun h => U.out.2 (h U.out.1))).symm, hbel.drew⟩
        · have he : j = Bw.fbN k := by omega
          have hjz : ¬ ((j : Int) < (Bw.fbN k : Int)) := by omega
          have HY : Hid (∀ f, f < k + 1 → ∀ i, i < Bw.fbN f → (Bw.bitI (M.getD f 0) i = 1 → Bw.bitI (V.getD f 0) i = Bw.bitI (H.getD f 0) i)) := (fun f hf => by by_cases e : f = k; (· subst e; intro i hi; exact HI.out i (by omega)); (· exact HG.out f (by omega)) : ∀ f, f < k + 1 → ∀ i, i < Bw.fbN f → (Bw.bitI (M.getD f 0) i = 1 → Bw.bitI (V.getD f 0) i = Bw.bitI (H.getD f 0) i))
          clear HI HG he D1 R1 D2 R2 D3 R3
          go_wp2_with (go_at_call 52; refine (HF.out _).mono ?_; rintro e ws ⟨rfl, hb⟩; replace q0 := (hb.block _ (Array.getElem?_eq_some_iff.1 q0).1).trans q0; replace q1 := (hb.block _ (Array.getElem?_eq_some_iff.1 q1).1).trans q1; replace hbel := Rw.next hbel hb; clear hb)
          go_roundw
          case rel => exact ⟨k + 1, by omega, by go_num, hbel, q0, q1, HY.out⟩
          case measure => simp [intOf]; omega
    · have he : k = 8 := by omega
      subst he
      clear D1 R1 D2 R2 D3 R3
      go_wp2
      go_ret
      exact ⟨Num.ret_bool (HR.out.2 HG.out).symm, hbo⟩

end Go.Proofs.Ytbplpfcplpoeiaa.Mh

namespace Go.Proofs.Ytbplpfcplpoeiaa.Hb
open Go Go.RowKit
open Num Pl Hr Hh Hf Hg

/-- What headBy hands back. -/
def Made (w : World) (L : List Int) (e : Ending) (w' : World) : Prop :=
  ∃ g, e = .returned (.agg #[.slice (some ⟨g, 0, none⟩) 8 8]) ∧ Mine w' g L ∧ w.heap.size ≤ g ∧ Below w.heap.size w w'
/-- What the closure tells. -/
def Tells (c : Nat) (p1 p2 p3 : Value) (L : List Int) (w : World) : Prop :=
  ∀ k : Nat, k < 8 → ∀ w', Below w.heap.size w w' → Calls Try.prog c #[.int .i64 k, p1, p2, p3] w' fun e w'' => e = .returned (.int .i64 (L.getD k 0)) ∧ w'' = w'

end Go.Proofs.Ytbplpfcplpoeiaa.Hb

namespace Go.Proofs.Ytbplpfcplpoeiaa.Hs
open Go Go.RowKit
open Num Pl Hr Hh Hf Hg Hb

theorem k8 {k : Nat} (h : k < 8) : k = 0 ∨ k = 1 ∨ k = 2 ∨ k = 3 ∨ k = 4 ∨ k = 5 ∨ k = 6 ∨ k = 7 := by omega

/-- A head in memory of the call's own. -/
def ResH (w : World) (L : List Int) (e : Ending) (w' : World) : Prop :=
  ∃ a g cap, e = .returned (.agg #[.slice a L.length cap]) ∧ Wt w' a g L ∧ w.heap.size ≤ g ∧ Below w.heap.size w w'

theorem wt_built {w : World} {g : Nat} {x0 x1 x2 x3 x4 x5 x6 x7 : Int} (h : w.heap[g]? = some (.cells #[.int .i64 x0, .int .i64 x1, .int .i64 x2, .int .i64 x3, .int .i64 x4, .int .i64 x5, .int .i64 x6, .int .i64 x7] 3 (0, 0))) :
    Wt w (some ⟨g, 0, none⟩) g [x0, x1, x2, x3, x4, x5, x6, x7] := by
  refine ⟨fun _ => rfl, fun i hi => ?_, fun i _ => Bl.free h i, by simp⟩
  have hi8 : i < 8 := hi
  rw [Bl.cell h]
  rcases k8 hi8 with rfl | rfl | rfl | rfl | rfl | rfl | rfl | rfl <;> rfl

theorem wt_set {w : World} {a : Option Addr} {g : Nat} {l : List Int} {ad : Addr} {u : Value} (h : Wt w a g l) (hne : ¬ ad.block = g) : Wt (w.setCell ad u) a g l := by
  have e : (w.setCell ad u).heap[g]? = w.heap[g]? := Below.heap_setCell w ad u g (fun e => hne e.symm)
  refine ⟨h.head, fun i hi => ?_, fun i hi => ?_, h.size⟩
  · have := h.cell i hi
    simp only [World.cell?, e] at this ⊢
    exact this
  · have := h.free i hi
    simp only [World.frozen?, e] at this ⊢
    exact this

/-- The list of a small head. -/
def smL (i s d : Int) : List Int := [i, s, d, 2048, 0, 0, 0, 0]
/-- What SmallHead answers. -/
def smallL (i s d : Int) : List Int := if headB (smL i s d) = true then smL i s d else []

end Go.Proofs.Ytbplpfcplpoeiaa.Hs

namespace Go.Proofs.Ytbplpfcplpoeiaa.Mq
open Go Go.RowKit
open Num Pl Hr Hh Hf Hg Pa Pm Po Pq Pe Mi Bw Mo Mp
set_option linter.unusedSimpArgs false
set_option linter.unusedVariables false

set_option maxHeartbeats 2000000 in
theorem hits_l (a a' : Option Addr) (n c n' c' : Nat) (p : Option Addr) (m d : Nat) (HV HM : List Int) (R : Bool) (w : World)
    (t0 : ∀ w1, Below w.heap.size w w1 → Calls Try.prog 38 #[.agg #[.slice p m d]] w1 (ResM w1 HV HM))
    (t1 : ∀ w1, Below w.heap.size w w1 → ∀ (aV aM : Option Addr) (gV cV gM cM : Nat), Rd w1 aV gV 0 HV → Rd w1 aM gM 0 HM → Calls Try.prog 16 #[.agg #[.slice a n c, .slice a' n' c'], .agg #[.slice aV HV.length cV, .slice aM HM.length cM]] w1 fun e w' => e = .returned (.bool R) ∧ Below w1.heap.size w1 w') :
    Calls Try.prog 18 #[.agg #[.slice a n c, .slice a' n' c'], .agg #[.slice p m d]] w fun e w' => e = .returned (.bool R) ∧ Below w.heap.size w w' := by
  have T0 : Hid (∀ w1, Below w.heap.size w w1 → Calls Try.prog 38 #[.agg #[.slice p m d]] w1 (ResM w1 HV HM)) := t0
  have T1 : Hid (∀ w1, Below w.heap.size w w1 → ∀ (aV aM : Option Addr) (gV cV gM cM : Nat), Rd w1 aV gV 0 HV → Rd w1 aM gM 0 HM → Calls Try.prog 16 #[.agg #[.slice a n c, .slice a' n' c'], .agg #[.slice aV HV.length cV, .slice aM HM.length cM]] w1 fun e w' => e = .returned (.bool R) ∧ Below w1.heap.size w1 w') := t1
  obtain ⟨W0, hW0⟩ : ∃ W0, W0 = (w.alloc (.cells #[.slice a n c, .slice a' n' c'] 25)).alloc (.cells #[.slice p m d] 27) := ⟨_, rfl⟩
  have B : Below w.heap.size w W0 := by subst hW0; exact Mi.below2 _ _ _
  have k0 : W0.heap[w.heap.size]? = some (.cells #[.slice a n c, .slice a' n' c'] 25 (0, 0)) := by subst hW0; rw [at_old (by simp), at_new rfl]
  have k1 : W0.heap[w.heap.size + 1]? = some (.cells #[.slice p m d] 27 (0, 0)) := by subst hW0; exact at_new (by simp)
  have z0 := (Array.getElem?_eq_some_iff.1 k0).1
  have z1 := (Array.getElem?_eq_some_iff.1 k1).1
  clear t0 t1
  go_enter Try.func18, Try.ntmps18
  go_wp2
  rw [← hW0]
  clear hW0
  refine wp_region_held_drew (S := (fun w' => w'.heap[w.heap.size]? = some (.cells #[.slice a n c, .slice a' n' c'] 25 (0, 0)) ∧ w'.heap[w.heap.size + 1]? = some (.cells #[.slice p m d] 27 (0, 0)))) (by kernel_rfl) ⟨k0, k1⟩ (fun hHeld => ?_)
  refine take (i := 0) (d := some 5) (v := .agg #[.slice a n c, .slice a' n' c']) rfl (by kernel_rfl) (by kernel_rfl) (by kernel_rfl) (by kernel_rfl) (fun _ _ _ h => h) (Or.inl ⟨by rfl, by intro w hSw; obtain ⟨q0, q1⟩ := hSw; obtain ⟨t0, t1⟩ := two q0; go_simp⟩) hHeld ?_
  simp only [Act.put, List.setIfInBounds_toArray, List.set_cons_zero, List.set_cons_succ]
  refine take (i := 1) (d := some 6) (v := .agg #[.slice p m d]) rfl (by kernel_rfl) (by kernel_rfl) (by kernel_rfl) (by kernel_rfl) (fun _ _ _ h => h) (Or.inl ⟨by rfl, by intro w hSw; obtain ⟨q0, q1⟩ := hSw; have t0 := one q1; go_simp⟩) hHeld ?_
  simp only [Act.put, List.setIfInBounds_toArray, List.set_cons_zero, List.set_cons_succ]
  refine wpAnyH_ready (rs := [2]) (by kernel_rfl) (by simp) (Rg.call1 rfl (by kernel_rfl) 38 (.tmp 6) 27 (by kernel_rfl) 7 (by kernel_rfl) (.agg #[.slice p m d]) (by kernel_rfl) (fun _ => rfl) (T0.out _ B.drew) ?_ AllReadyH.nil)
  rintro e w3 ⟨aV, gV, cV, aM, gM, cM, rfl, hV, hM, l1, l2, l3, hb⟩
  refine ⟨_, rfl, ⟨(hb.block _ z0).trans k0, (hb.block _ z1).trans k1⟩, fun hHeld => ?_⟩
  simp only [Act.put, List.setIfInBounds_toArray, List.set_cons_zero, List.set_cons_succ]
  have B1 := Rw.next B.drew hb
  have k0a : w3.heap[w.heap.size]? = some (.cells #[.slice a n c, .slice a' n' c'] 25 (0, 0)) := (hb.block _ z0).trans k0
  have k1a : w3.heap[w.heap.size + 1]? = some (.cells #[.slice p m d] 27 (0, 0)) := (hb.block _ z1).trans k1
  have z0a := Nat.lt_of_lt_of_le z0 hb.size
  have z1a := Nat.lt_of_lt_of_le z1 hb.size
  clear hb
  refine wpAnyH_ready (rs := [3]) (by kernel_rfl) (by simp) (Rg.call2 rfl (by kernel_rfl) 16 (.tmp 5) (.tmp 7) 25 25 (by kernel_rfl) 8 (by kernel_rfl) (.agg #[.slice a n c, .slice a' n' c']) (.agg #[.slice aV HV.length cV, .slice aM HM.length cM]) (by kernel_rfl) (by kernel_rfl) (fun _ => rfl) (T1.out _ B1 _ _ _ _ _ _ hV.rd hM.rd) ?_ AllReadyH.nil)
  rintro e w4 ⟨rfl, hb⟩
  refine ⟨_, rfl, ⟨(hb.block _ z0a).trans k0a, (hb.block _ z1a).trans k1a⟩, fun hHeld => ?_⟩
  simp only [Act.put, List.setIfInBounds_toArray, List.set_cons_zero, List.set_cons_succ]
  refine take (i := 4) (d := some 4) (v := .bool R) rfl (by kernel_rfl) (by kernel_rfl) (by kernel_rfl) (by kernel_rfl) (fun _ _ _ h => h) (Or.inl ⟨by rfl, by intro w hSw; go_simp⟩) hHeld ?_
  simp only [Act.put, List.setIfInBounds_toArray, List.set_cons_zero, List.set_cons_succ]
  refine wpAnyH_done (by kernel_rfl) ?_ _
  go_wp2_with fail
  go_ret
  exact ⟨rfl, Rw.next B1 hb⟩

theorem full_eq (k : Nat) : fullI k = ((2 ^ fbN k - 1 : Nat) : Int) := by
  unfold fullI topI Bt.top
  rw [Nat.sub_self, Nat.pow_zero, Nat.mul_one]
theorem full_lt (k : Nat) : 0 ≤ fullI k ∧ fullI k < 281474976710656 := by
  rw [full_eq]
  have h1 : (2 ^ fbN k : Nat) ≤ 2 ^ 48 := Nat.pow_le_pow_right (by decide) (fbN_le k)
  have h3 : (2 ^ fbN k : Nat) ≤ 281474976710656 := h1
  have hp : 0 < 2 ^ fbN k := Nat.pow_pos (by decide)
  generalize (2 ^ fbN k : Nat) = Q at *
  omega
theorem fb_pos {k : Nat} (h : k < 8) : 0 < fbN k := by
  rcases Hs.k8 h with rfl | rfl | rfl | rfl | rfl | rfl | rfl | rfl <;> decide
theorem fits_full {k : Nat} (h : k < 8) : fits k (fullI k) = true := by
  rcases Hs.k8 h with rfl | rfl | rfl | rfl | rfl | rfl | rfl | rfl <;> decide
theorem or_full {n b : Nat} (h : n < 2 ^ b) : n ||| (2 ^ b - 1) = 2 ^ b - 1 := by
  rw [Bt.within_iff]
  intro i hi
  rw [Nat.testBit_two_pow_sub_one]
  refine decide_eq_true (Nat.lt_of_not_le fun hle => ?_)
  rw [Bt.testBit_out h hle] at hi
  exact absurd hi (by simp)
theorem and_full {n b : Nat} (h : n < 2 ^ b) : (2 ^ b - 1) &&& n = n := by
  have := (Bt.within_or_and n (2 ^ b - 1)).1 (or_full h)
  rw [Nat.and_comm]
  exact this

/-- What a right head says of its places. -/
theorem head_at {H : List Int} (h : headB H = true) {k : Nat} (hk : k < 8) : fits k (H.getD k 0) = true := by
  unfold headB at h
  simp only [Bool.and_eq_true, decide_eq_true_eq] at h
  have key : ∀ j, upto H j = true → ∀ i, i < j → fits i (H.getD i 0) = true := by
    intro j
    induction j with
    | zero => intro _ i hi; omega
    | succ j ih =>
      intro hu i hi
      simp only [upto, Bool.and_eq_true] at hu
      by_cases e : i = j
      · subst e; exact hu.2
      · exact ih hu.1 i (by omega)
  exact key 8 h.2 k hk
theorem head_len {H : List Int} (h : headB H = true) : H.length = 8 := by
  unfold headB at h
  simp only [Bool.and_eq_true, decide_eq_true_eq] at h
  exact h.1
theorem lst_getD (v : Nat → Int) {k : Nat} (h : k < 8) : (lst v).getD k 0 = v k := lst_at v h
theorem of_ok {H : List Int} (h : headB H = true) : matchB (lst (nth H)) (lst fullI) = true := by
  unfold matchB
  rw [lst_len, lst_len]
  have key : ∀ j, j ≤ 8 → uptoP (lst (nth H)) (lst fullI) j = true := by
    intro j
    induction j with
    | zero => intro _; rfl
    | succ j ih =>
      intro hj
      simp only [uptoP, ih (by omega), Bool.true_and]
      rw [lst_at _ (by omega), lst_at _ (by omega)]
      unfold pairB
      have hf := head_at h (k := j) (by omega)
      rw [fits_full (by omega)]
      simp only [Bool.true_and, decide_eq_true_eq]
      refine ⟨(fits_lt hf).1, ?_⟩
      rw [full_eq, Int.toNat_natCast]
      exact or_full (fits_pow hf)
  rw [key 8 (Nat.le_refl _)]
  rfl
theorem wide_lst {v : Nat → Int} (h : ∀ k, k < 8 → I64 (v k)) : Wide (lst v) := by
  intro k
  by_cases hk : k < 8
  · rw [lst_at v hk]; exact h k hk
  · have e : (lst v).getD k 0 = 0 := by simp [List.getD, List.getElem?_eq_none (by rw [lst_len]; omega : (lst v).length ≤ k)]
    rw [e]
    unfold I64
    omega

/-- What the program asks of a right match and a right head is what the specification asks bit by bit. -/
theorem hits_iff {V M H : List Int} (h : matchB V M = true) (hh : headB H = true) :
    sameB (fun k => bits .and .i64 (nth (lst (nth H)) k) (nth M k)) (fun k => bits .and .i64 (nth (lst fullI) k) (nth M k)) (nth V) (nth M) = true ↔ ∀ f, f < 8 → ∀ i, i < fbN f → (bitI (M.getD f 0) i = 1 → bitI (V.getD f 0) i = bitI (H.getD f 0) i) := by
  rw [Lb.sameB_iff]
  have key : ∀ f, f < 8 → ((bits .and .i64 (nth (lst (nth H)) f) (nth M f) = nth V f ∧ bits .and .i64 (nth (lst fullI) f) (nth M f) = nth M f) ↔ ∀ i, i < fbN f → (bitI (M.getD f 0) i = 1 → bitI (V.getD f 0) i = bitI (H.getD f 0) i)) := by
    intro f hf
    obtain ⟨a1, a2, a3, a4, a5, a6⟩ := Lc.at_ok h hf
    have b1 := head_at hh hf
    have b2 := fits_lt b1
    have b3 := full_lt f
    unfold nth
    rw [lst_at _ hf, lst_at _ hf, Lc.and_nat b2.1 b2.2 a4 a5, Lc.and_nat b3.1 b3.2 a4 a5, Lc.cast_eq a2, Lc.cast_eq a4, full_eq, Int.toNat_natCast, and_full (fits_pow a1)]
    simp only [and_true]
    have := Bt.hits_iff (H := (H.getD f 0).toNat) a3 (fits_pow a1)
    simp only [bit_iff, bit_eq_iff]
    rw [this]
  exact ⟨fun q f hf => (key f hf).1 (q f hf), fun q f hf => (key f hf).2 (q f hf)⟩

end Go.Proofs.Ytbplpfcplpoeiaa.Mq

namespace Go.Proofs.Ytbplpfcplpoeiaa.Mu
open Go Go.RowKit
open Num Pl Hr Hh Hf Hg Pa Pm Po Pq Mi Bw Mo Mp Mj Mm
set_option linter.unusedSimpArgs false
set_option linter.unusedVariables false

theorem cell_set0 {w : World} {a : Addr} {g i : Nat} {x : Value} {v : Option Value} (h : w.cell? a = v) (hne : a.block ≠ g) : (w.setCell ⟨g, i, none⟩ x).cell? a = v := by
  rw [World.cell?_setCell_other _ _ _ _ (by intro q; exact hne (by rw [← q]))]
  exact h
theorem quo8 (f : Nat) (h : f < 8) : fb f / 8 = (((fbN f) / 8 : Nat) : Int) := by
  rw [fbN_eq]; omega
theorem pw_full (f : Nat) (h : f < 8) : (pw (fbN f / 8) : Int) - 1 = fullI f := by
  rcases Hs.k8 h with rfl | rfl | rfl | rfl | rfl | rfl | rfl | rfl <;> decide

set_option maxHeartbeats 1000000 in
theorem fullS_any (f : Nat) (hf : f < 8) (w : World) : Calls Try.prog 59 #[.int .i64 f] w fun e w' => e = .returned (.int .i64 (fullI f)) ∧ Below w.heap.size w w' := by
  rcases Hs.k8 hf with rfl | rfl | rfl | rfl | rfl | rfl | rfl | rfl
  · have hb := specBits_any 0 w
    rw [show fb 0 = 8 from by decide] at hb
    have hp := fun w => pow_any 1 (by omega) w
    have e : fullI 0 = (pw 1 : Int) - 1 := by decide
    have hv : pw 1 = 256 := by decide
    rw [e, hv]
    rw [hv] at hp
    clear e hv
    go_enter Try.func59, Try.ntmps59
    go_wp2_with (first | (go_at_call 52; refine hb.mono ?_; rintro e wa ⟨rfl, hba⟩) | (go_at_call 74; refine (hp _).mono ?_; rintro e wq ⟨rfl, hwq⟩; replace hwq := hwq.symm; subst hwq))
    go_ret
    exact ⟨rfl, hba⟩
  · have hb := specBits_any 1 w
    rw [show fb 1 = 48 from by decide] at hb
    have hp := fun w => pow_any 6 (by omega) w
    have e : fullI 1 = (pw 6 : Int) - 1 := by decide
    have hv : pw 6 = 281474976710656 := by decide
    rw [e, hv]
    rw [hv] at hp
    clear e hv
    go_enter Try.func59, Try.ntmps59
    go_wp2_with (first | (go_at_call 52; refine hb.mono ?_; rintro e wa ⟨rfl, hba⟩) | (go_at_call 74; refine (hp _).mono ?_; rintro e wq ⟨rfl, hwq⟩; replace hwq := hwq.symm; subst hwq))
    go_ret
    exact ⟨rfl, hba⟩
  · have hb := specBits_any 2 w
    rw [show fb 2 = 48 from by decide] at hb
    have hp := fun w => pow_any 6 (by omega) w
    have e : fullI 2 = (pw 6 : Int) - 1 := by decide
    have hv : pw 6 = 281474976710656 := by decide
    rw [e, hv]
    rw [hv] at hp
    clear e hv
    go_enter Try.func59, Try.ntmps59
    go_wp2_with (first | (go_at_call 52; refine hb.mono ?_; rintro e wa ⟨rfl, hba⟩) | (go_at_call 74; refine (hp _).mono ?_; rintro e wq ⟨rfl, hwq⟩; replace hwq := hwq.symm; subst hwq))
    go_ret
    exact ⟨rfl, hba⟩
  · have hb := specBits_any 3 w
    rw [show fb 3 = 16 from by decide] at hb
    have hp := fun w => pow_any 2 (by omega) w
    have e : fullI 3 = (pw 2 : Int) - 1 := by decide
    have hv : pw 2 = 65536 := by decide
    rw [e, hv]
    rw [hv] at hp
    clear e hv
    go_enter Try.func59, Try.ntmps59
    go_wp2_with (first | (go_at_call 52; refine hb.mono ?_; rintro e wa ⟨rfl, hba⟩) | (go_at_call 74; refine (hp _).mono ?_; rintro e wq ⟨rfl, hwq⟩; replace hwq := hwq.symm; subst hwq))
    go_ret
    exact ⟨rfl, hba⟩
  · have hb := specBits_any 4 w
    rw [show fb 4 = 16 from by decide] at hb
    have hp := fun w => pow_any 2 (by omega) w
    have e : fullI 4 = (pw 2 : Int) - 1 := by decide
    have hv : pw 2 = 65536 := by decide
    rw [e, hv]
    rw [hv] at hp
    clear e hv
    go_enter Try.func59, Try.ntmps59
    go_wp2_with (first | (go_at_call 52; refine hb.mono ?_; rintro e wa ⟨rfl, hba⟩) | (go_at_call 74; refine (hp _).mono ?_; rintro e wq ⟨rfl, hwq⟩; replace hwq := hwq.symm; subst hwq))
    go_ret
    exact ⟨rfl, hba⟩
  · have hb := specBits_any 5 w
    rw [show fb 5 = 32 from by decide] at hb
    have hp := fun w => pow_any 4 (by omega) w
    have e : fullI 5 = (pw 4 : Int) - 1 := by decide
    have hv : pw 4 = 4294967296 := by decide
    rw [e, hv]
    rw [hv] at hp
    clear e hv
    go_enter Try.func59, Try.ntmps59
    go_wp2_with (first | (go_at_call 52; refine hb.mono ?_; rintro e wa ⟨rfl, hba⟩) | (go_at_call 74; refine (hp _).mono ?_; rintro e wq ⟨rfl, hwq⟩; replace hwq := hwq.symm; subst hwq))
    go_ret
    exact ⟨rfl, hba⟩
  · have hb := specBits_any 6 w
    rw [show fb 6 = 32 from by decide] at hb
    have hp := fun w => pow_any 4 (by omega) w
    have e : fullI 6 = (pw 4 : Int) - 1 := by decide
    have hv : pw 4 = 4294967296 := by decide
    rw [e, hv]
    rw [hv] at hp
    clear e hv
    go_enter Try.func59, Try.ntmps59
    go_wp2_with (first | (go_at_call 52; refine hb.mono ?_; rintro e wa ⟨rfl, hba⟩) | (go_at_call 74; refine (hp _).mono ?_; rintro e wq ⟨rfl, hwq⟩; replace hwq := hwq.symm; subst hwq))
    go_ret
    exact ⟨rfl, hba⟩
  · have hb := specBits_any 7 w
    rw [show fb 7 = 8 from by decide] at hb
    have hp := fun w => pow_any 1 (by omega) w
    have e : fullI 7 = (pw 1 : Int) - 1 := by decide
    have hv : pw 1 = 256 := by decide
    rw [e, hv]
    rw [hv] at hp
    clear e hv
    go_enter Try.func59, Try.ntmps59
    go_wp2_with (first | (go_at_call 52; refine hb.mono ?_; rintro e wa ⟨rfl, hba⟩) | (go_at_call 74; refine (hp _).mono ?_; rintro e wq ⟨rfl, hwq⟩; replace hwq := hwq.symm; subst hwq))
    go_ret
    exact ⟨rfl, hba⟩

set_option maxHeartbeats 1000000 in
theorem ofS_no (a : Option Addr) (n c : Nat) (w : World) (t0 : ∀ w1, Below w.heap.size w w1 → Calls Try.prog 70 #[.agg #[.slice a n c]] w1 fun e w' => e = .returned (.bool false) ∧ Below w1.heap.size w1 w') :
    Calls Try.prog 36 #[.agg #[.slice a n c]] w (ResM w [] []) := by
  have T0 : Hid (∀ w1, Below w.heap.size w w1 → Calls Try.prog 70 #[.agg #[.slice a n c]] w1 fun e w' => e = .returned (.bool false) ∧ Below w1.heap.size w1 w') := t0
  obtain ⟨W0, hW0⟩ : ∃ W0, W0 = (w.alloc (.cells #[.slice a n c] 27)).alloc (.cells #[.slice none 0 0, .slice none 0 0] 25) := ⟨_, rfl⟩
  have B : Below w.heap.size w W0 := by subst hW0; exact Mi.below2 _ _ _
  have k1 : W0.heap[w.heap.size + 1]? = some (.cells #[.slice none 0 0, .slice none 0 0] 25 (0, 0)) := by subst hW0; exact at_new (by simp)
  clear t0
  go_enter Try.func36, Try.ntmps36
  go_wp2_with (go_at_call 70; rw [← hW0]; refine (T0.out _ B).mono ?_; rintro e wa ⟨rfl, hb⟩; replace k1 := (hb.block _ (Array.getElem?_eq_some_iff.1 k1).1).trans k1; obtain ⟨r0, r1⟩ := two k1; have fr := Bl.free k1; replace B := Rw.next B hb; clear hb)
  refine bodyPost_ret (v := .agg #[.slice none 0 0, .slice none 0 0]) (by simp [results, Try.results36, go_sem, r0, r1]) rfl (resM_none ?_)
  exact bset (bset B (by omega)) (by omega)

set_option maxHeartbeats 4000000 in
theorem ofS_yes (b o c : Nat) (H : List Int) (w : World) (r1 : ∀ k, k < 8 → w.cell? ⟨b, o + k, none⟩ = some (.int .i64 (H.getD k 0)))
    (t0 : ∀ w1, Below w.heap.size w w1 → Calls Try.prog 70 #[.agg #[.slice (some ⟨b, o, none⟩) 8 c]] w1 fun e w' => e = .returned (.bool true) ∧ Below w1.heap.size w1 w') :
    Calls Try.prog 36 #[.agg #[.slice (some ⟨b, o, none⟩) 8 c]] w (ResM w (lst (nth H)) (lst fullI)) := by
  have T0 : Hid (∀ w1, Below w.heap.size w w1 → Calls Try.prog 70 #[.agg #[.slice (some ⟨b, o, none⟩) 8 c]] w1 fun e w' => e = .returned (.bool true) ∧ Below w1.heap.size w1 w') := t0
  have R1 : Hid (∀ k, k < 8 → w.cell? ⟨b, o + k, none⟩ = some (.int .i64 (H.getD k 0))) := r1
  obtain ⟨W0, hW0⟩ : ∃ W0, W0 = (w.alloc (.cells #[.slice (some ⟨b, o, none⟩) 8 c] 27)).alloc (.cells #[.slice none 0 0, .slice none 0 0] 25) := ⟨_, rfl⟩
  have B : Below w.heap.size w W0 := by subst hW0; exact Mi.below2 _ _ _
  have k0 : W0.heap[w.heap.size]? = some (.cells #[.slice (some ⟨b, o, none⟩) 8 c] 27 (0, 0)) := by subst hW0; rw [at_old (by simp), at_new rfl]
  have kR : W0.heap[w.heap.size + 1]? = some (.cells #[.slice none 0 0, .slice none 0 0] 25 (0, 0)) := by subst hW0; exact at_new (by simp)
  clear t0 r1
  go_enter Try.func36, Try.ntmps36
  go_wp2_with (first
    | (go_at_call 70; rw [← hW0]; refine (T0.out _ B).mono ?_; rintro e wa ⟨rfl, hb⟩; replace k0 := (hb.block _ (Array.getElem?_eq_some_iff.1 k0).1).trans k0; replace kR := (hb.block _ (Array.getElem?_eq_some_iff.1 kR).1).trans kR; replace B := Rw.next B hb; clear hb)
    | (go_at_call 32; refine (Mr.allS_any _).mono ?_; rintro e wc ⟨aV, gV, cV, aM, gM, cM, rfl, hV, hM, l1, l2, l3, hb⟩; have sb := hb.size; have zr3 := (Array.getElem?_eq_some_iff.1 kR).1; replace k0 := (hb.block _ (Array.getElem?_eq_some_iff.1 k0).1).trans k0; replace kR := (hb.block _ zr3).trans kR; replace B := Rw.next B hb; clear hb))
  clear hW0 T0
  obtain rfl := hV.head (by rw [lst_len]; omega)
  obtain rfl := hM.head (by rw [lst_len]; omega)
  rw [lst_len]
  have z0 := (Array.getElem?_eq_some_iff.1 k0).1
  have zR := (Array.getElem?_eq_some_iff.1 kR).1
  have yV : gV < wc.heap.size := by have := Hr.wt_lt hV; rw [lst_len] at this; omega
  have yM : gM < wc.heap.size := by have := Hr.wt_lt hM; rw [lst_len] at this; omega
  have kX : (wc.alloc (.cells #[.slice (some ⟨gV, 0, none⟩) 8 cV, .slice (some ⟨gM, 0, none⟩) 8 cM] 25)).heap[wc.heap.size]? = some (.cells #[.slice (some ⟨gV, 0, none⟩) 8 cV, .slice (some ⟨gM, 0, none⟩) 8 cM] 25 (0, 0)) := at_new rfl
  have BX : Below wc.heap.size wc (wc.alloc (.cells #[.slice (some ⟨gV, 0, none⟩) 8 cV, .slice (some ⟨gM, 0, none⟩) 8 cM] 25)) := below_alloc1 _ _
  replace k0 := (BX.block _ z0).trans k0
  replace kR := (BX.block _ zR).trans kR
  replace hV := hV.below BX
  replace hM := hM.below BX
  replace B := Rw.next B BX
  obtain ⟨X, hX⟩ : ∃ X, X = wc.heap.size := ⟨_, rfl⟩
  rw [← hX] at kX ⊢
  have HLT : Hid (∀ k, k < 8 → b < w.heap.size) := (fun k hk => World.block_lt_of_cell? _ _ (R1.out k hk) : ∀ k, k < 8 → b < w.heap.size)
  have o1V : w.heap.size + 1 < gV := by omega
  have o1M : w.heap.size + 1 < gM := by omega
  have oXV : gV < X := by omega
  have oXM : gM < X := by omega
  have hV0 : Wt (wc.alloc (.cells #[.slice (some ⟨gV, 0, none⟩) 8 cV, .slice (some ⟨gM, 0, none⟩) 8 cM] 25)) (some ⟨gV, 0, none⟩) gV (lst (cut (nth H) nul 0)) := hV
  have hM0 : Wt (wc.alloc (.cells #[.slice (some ⟨gV, 0, none⟩) 8 cV, .slice (some ⟨gM, 0, none⟩) 8 cM] 25)) (some ⟨gM, 0, none⟩) gM (lst (cut fullI nul 0)) := hM
  clear hX z0 zR yV yM sb zr3 l1 l2 hV hM BX
  go_loopw [4] (fun i wr => ∃ k : Nat, k ≤ 8 ∧ i = .int .i64 k ∧ Below w.heap.size w wr ∧ wr.heap[w.heap.size]? = some (.cells #[.slice (some ⟨b, o, none⟩) 8 c] 27 (0, 0)) ∧ wr.heap[w.heap.size + 1]? = some (.cells #[.slice none 0 0, .slice none 0 0] 25 (0, 0)) ∧ wr.heap[X]? = some (.cells #[.slice (some ⟨gV, 0, none⟩) 8 cV, .slice (some ⟨gM, 0, none⟩) 8 cM] 25 (0, 0)) ∧ Wt wr (some ⟨gV, 0, none⟩) gV (lst (cut (nth H) nul k)) ∧ Wt wr (some ⟨gM, 0, none⟩) gM (lst (cut fullI nul k))) (fun i _ => 8 - (intOf i).toNat)
  case atStart => exact ⟨0, Nat.zero_le _, rfl, B, k0, kR, kX, hV0, hM0⟩
  case round =>
    obtain ⟨k, hk, rfl, hbel, q0, qR, qX, hv, hm⟩ := hrel
    clear B k0 kR kX hV0 hM0
    have z0 := (Array.getElem?_eq_some_iff.1 q0).1
    have zR := (Array.getElem?_eq_some_iff.1 qR).1
    have zX := (Array.getElem?_eq_some_iff.1 qX).1
    by_cases hlt : k < 8
    · have hkz : (k : Int) < 8 := by omega
      have p0 := one q0
      obtain ⟨x0, x1⟩ := two qX
      have g0 : wr.cell? ⟨b, o + k, none⟩ = some (.int .i64 (nth H k)) := (hbel.cell (World.block_lt_of_cell? _ _ (R1.out k hlt))).trans (R1.out k hlt)
      have hl := HLT.out k hlt
      have cV1 := hv.cell k (by rw [lst_len]; exact hlt)
      have cM1 := hm.cell k (by rw [lst_len]; exact hlt)
      have fV := hv.free k (by rw [lst_len]; exact hlt)
      have fM := hm.free k (by rw [lst_len]; exact hlt)
      have GV : Hid (Wt wr (some ⟨gV, 0, none⟩) gV (lst (cut (nth H) nul k))) := hv
      have GM : Hid (Wt wr (some ⟨gM, 0, none⟩) gM (lst (cut fullI nul k))) := hm
      have Q0 : Hid (wr.heap[w.heap.size]? = some (.cells #[.slice (some ⟨b, o, none⟩) 8 c] 27 (0, 0))) := q0
      have QR : Hid (wr.heap[w.heap.size + 1]? = some (.cells #[.slice none 0 0, .slice none 0 0] 25 (0, 0))) := qR
      have QX : Hid (wr.heap[X]? = some (.cells #[.slice (some ⟨gV, 0, none⟩) 8 cV, .slice (some ⟨gM, 0, none⟩) 8 cM] 25 (0, 0))) := qX
      clear q0 qR qX hv hm HLT R1
      have HT : Hid (∀ w, Calls Try.prog 59 #[.int .i64 k] w fun e w' => e = .returned (.int .i64 (fullI k)) ∧ Below w.heap.size w w') := (fun w => fullS_any k hlt w : ∀ w, Calls Try.prog 59 #[.int .i64 k] w fun e w' => e = .returned (.int .i64 (fullI k)) ∧ Below w.heap.size w w')
      have EV : Hid (nth H k = nth H k) := rfl
      generalize eh : nth H k = h at g0
      have EH : Hid (nth H k = h) := eh
      generalize et : fullI k = T at HT
      have ET : Hid (fullI k = T) := et
      clear eh et EV
      have d1 : gV ≠ w.heap.size := by omega
      have d3 : gM ≠ w.heap.size := by omega
      have d5 : gV ≠ X := by omega
      have d6 : gM ≠ X := by omega
      have d15 : w.heap.size + 1 ≠ gV := by omega
      have d16 : w.heap.size + 1 ≠ gM := by omega
      go_wp2
      refine wp_region_held_drew (S := (fun w' => w'.cell? ⟨w.heap.size, 0, none⟩ = some (.slice (some ⟨b, o, none⟩) 8 c) ∧ w'.cell? ⟨X, 0, none⟩ = some (.slice (some ⟨gV, 0, none⟩) 8 cV) ∧ w'.cell? ⟨X, 1, none⟩ = some (.slice (some ⟨gM, 0, none⟩) 8 cM) ∧ w'.cell? ⟨b, o + k, none⟩ = some (.int .i64 h))) (by kernel_rfl) ⟨p0, x0, x1, g0⟩ (fun hHeld => ?_)
      refine take (i := 0) (d := some 14) (v := .pointer (some ⟨X, 0, none⟩)) rfl (by kernel_rfl) (by kernel_rfl) (by kernel_rfl) (by kernel_rfl) (fun _ _ _ h => h) (Or.inl ⟨by rfl, by intro w hSw; go_simp⟩) hHeld ?_
      simp only [Act.put, List.setIfInBounds_toArray, List.set_cons_zero, List.set_cons_succ]
      refine take (i := 1) (d := some 15) (v := .slice (some ⟨gV, 0, none⟩) 8 cV) rfl (by kernel_rfl) (by kernel_rfl) (by kernel_rfl) (by kernel_rfl) (fun _ _ _ h => h) (Or.inl ⟨by rfl, by intro w hSw; obtain ⟨p0, x0, x1, g0⟩ := hSw; go_simp⟩) hHeld ?_
      simp only [Act.put, List.setIfInBounds_toArray, List.set_cons_zero, List.set_cons_succ]
      refine take (i := 2) (d := some 16) (v := .int .i64 k) rfl (by kernel_rfl) (by kernel_rfl) (by kernel_rfl) (by kernel_rfl) (fun _ _ _ h => h) (Or.inl ⟨by rfl, by intro w hSw; go_simp⟩) hHeld ?_
      simp only [Act.put, List.setIfInBounds_toArray, List.set_cons_zero, List.set_cons_succ]
      refine take (i := 3) (d := some 17) (v := .pointer (some ⟨w.heap.size, 0, none⟩)) rfl (by kernel_rfl) (by kernel_rfl) (by kernel_rfl) (by kernel_rfl) (fun _ _ _ h => h) (Or.inl ⟨by rfl, by intro w hSw; go_simp⟩) hHeld ?_
      simp only [Act.put, List.setIfInBounds_toArray, List.set_cons_zero, List.set_cons_succ]
      refine take (i := 4) (d := some 18) (v := .slice (some ⟨b, o, none⟩) 8 c) rfl (by kernel_rfl) (by kernel_rfl) (by kernel_rfl) (by kernel_rfl) (fun _ _ _ h => h) (Or.inl ⟨by rfl, by intro w hSw; obtain ⟨p0, x0, x1, g0⟩ := hSw; go_simp⟩) hHeld ?_
      simp only [Act.put, List.setIfInBounds_toArray, List.set_cons_zero, List.set_cons_succ]
      refine take (i := 5) (d := some 19) (v := .int .i64 k) rfl (by kernel_rfl) (by kernel_rfl) (by kernel_rfl) (by kernel_rfl) (fun _ _ _ h => h) (Or.inl ⟨by rfl, by intro w hSw; go_simp⟩) hHeld ?_
      simp only [Act.put, List.setIfInBounds_toArray, List.set_cons_zero, List.set_cons_succ]
      refine take (i := 6) (d := some 20) (v := .pointer (some ⟨b, o + k, none⟩)) rfl (by kernel_rfl) (by kernel_rfl) (by kernel_rfl) (by kernel_rfl) (fun _ _ _ h => h) (Or.inl ⟨by rfl, by intro w hSw; go_simp⟩) hHeld ?_
      simp only [Act.put, List.setIfInBounds_toArray, List.set_cons_zero, List.set_cons_succ]
      refine take (i := 7) (d := some 21) (v := .int .i64 h) rfl (by kernel_rfl) (by kernel_rfl) (by kernel_rfl) (by kernel_rfl) (fun _ _ _ h => h) (Or.inl ⟨by rfl, by intro w hSw; obtain ⟨p0, x0, x1, g0⟩ := hSw; go_simp⟩) hHeld ?_
      simp only [Act.put, List.setIfInBounds_toArray, List.set_cons_zero, List.set_cons_succ]
      refine take (i := 8) (d := some 22) (v := .pointer (some ⟨gV, k, none⟩)) rfl (by kernel_rfl) (by kernel_rfl) (by kernel_rfl) (by kernel_rfl) (fun _ _ _ h => h) (Or.inl ⟨by rfl, by intro w hSw; go_simp⟩) hHeld ?_
      simp only [Act.put, List.setIfInBounds_toArray, List.set_cons_zero, List.set_cons_succ]
      refine wpAnyH_ready (rs := [9]) (by kernel_rfl) (by simp) (Mm.ready3 (g := gV) (k := k) (v := h) rfl (by kernel_rfl) (.tmp 22) (.tmp 21) (by kernel_rfl) (by kernel_rfl) (by kernel_rfl) (by kernel_rfl) cV1 fV ⟨Mm.cell_set1 p0 (by simp; omega), Mm.cell_set1 x0 (by simp; omega), Mm.cell_set1 x1 (by simp; omega), Mm.cell_set1 g0 (by simp; omega)⟩ (fun hHeld => ?_) AllReadyH.nil)
      simp only [Act.put, List.setIfInBounds_toArray, List.set_cons_zero, List.set_cons_succ]
      refine wpAnyH_done (by kernel_rfl) ?_ _
      obtain ⟨wy, hwy⟩ : ∃ wy, wy = wr.drew.setCell ⟨gV, k, none⟩ (.int .i64 h) := ⟨_, rfl⟩
      rw [← hwy]
      replace p0 := (by subst hwy; exact cell_set1 p0 (by simp; omega) : wy.cell? _ = _)
      replace x0 := (by subst hwy; exact cell_set1 x0 (by simp; omega) : wy.cell? _ = _)
      replace x1 := (by subst hwy; exact cell_set1 x1 (by simp; omega) : wy.cell? _ = _)
      replace g0 := (by subst hwy; exact cell_set1 g0 (by simp; omega) : wy.cell? _ = _)
      replace cM1 := (by subst hwy; exact cell_set1 cM1 (by simp; omega) : wy.cell? _ = _)
      replace fM : wy.frozen? ⟨gM, k, none⟩ = false := by subst hwy; simpa using fM
      replace hbel : Below w.heap.size w wy := by subst hwy; exact bset hbel.drew (by omega)
      replace Q0 : Hid (wy.heap[w.heap.size]? = some (.cells #[.slice (some ⟨b, o, none⟩) 8 c] 27 (0, 0))) := (by subst hwy; exact blk_set Q0.out (Ne.symm d1) : wy.heap[w.heap.size]? = some (.cells #[.slice (some ⟨b, o, none⟩) 8 c] 27 (0, 0)))
      replace QR : Hid (wy.heap[w.heap.size + 1]? = some (.cells #[.slice none 0 0, .slice none 0 0] 25 (0, 0))) := (by subst hwy; exact blk_set QR.out d15 : wy.heap[w.heap.size + 1]? = some (.cells #[.slice none 0 0, .slice none 0 0] 25 (0, 0)))
      replace QX : Hid (wy.heap[X]? = some (.cells #[.slice (some ⟨gV, 0, none⟩) 8 cV, .slice (some ⟨gM, 0, none⟩) 8 cM] 25 (0, 0))) := (by subst hwy; exact blk_set QX.out (Ne.symm d5) : wy.heap[X]? = some (.cells #[.slice (some ⟨gV, 0, none⟩) 8 cV, .slice (some ⟨gM, 0, none⟩) 8 cM] 25 (0, 0)))
      replace GV : Hid (Wt wy (some ⟨gV, 0, none⟩) gV (lst (cut (nth H) nul (k + 1)))) := (by subst hwy; rw [← EH.out]; exact wt_up (wt_drew GV.out) hlt : Wt wy (some ⟨gV, 0, none⟩) gV (lst (cut (nth H) nul (k + 1))))
      replace GM : Hid (Wt wy (some ⟨gM, 0, none⟩) gM (lst (cut fullI nul k))) := (by subst hwy; exact wt_set2 (wt_drew GM.out) l3 : Wt wy (some ⟨gM, 0, none⟩) gM (lst (cut fullI nul k)))
      have y0 := (Array.getElem?_eq_some_iff.1 Q0.out).1
      have yR := (Array.getElem?_eq_some_iff.1 QR.out).1
      have yX := (Array.getElem?_eq_some_iff.1 QX.out).1
      have cM1b := cM1
      clear hwy cV1 fV z0 zR zX
      go_wp2
      refine wp_region_held_drew (S := (fun w' => w'.cell? ⟨w.heap.size, 0, none⟩ = some (.slice (some ⟨b, o, none⟩) 8 c) ∧ w'.cell? ⟨X, 0, none⟩ = some (.slice (some ⟨gV, 0, none⟩) 8 cV) ∧ w'.cell? ⟨X, 1, none⟩ = some (.slice (some ⟨gM, 0, none⟩) 8 cM) ∧ w'.cell? ⟨b, o + k, none⟩ = some (.int .i64 h))) (by kernel_rfl) ⟨p0, x0, x1, g0⟩ (fun hHeld => ?_)
      refine take (i := 0) (d := some 23) (v := .pointer (some ⟨X, 1, none⟩)) rfl (by kernel_rfl) (by kernel_rfl) (by kernel_rfl) (by kernel_rfl) (fun _ _ _ h => h) (Or.inl ⟨by rfl, by intro w hSw; go_simp⟩) hHeld ?_
      simp only [Act.put, List.setIfInBounds_toArray, List.set_cons_zero, List.set_cons_succ]
      refine take (i := 1) (d := some 24) (v := .slice (some ⟨gM, 0, none⟩) 8 cM) rfl (by kernel_rfl) (by kernel_rfl) (by kernel_rfl) (by kernel_rfl) (fun _ _ _ h => h) (Or.inl ⟨by rfl, by intro w hSw; obtain ⟨p0, x0, x1, g0⟩ := hSw; go_simp⟩) hHeld ?_
      simp only [Act.put, List.setIfInBounds_toArray, List.set_cons_zero, List.set_cons_succ]
      refine take (i := 2) (d := some 25) (v := .int .i64 k) rfl (by kernel_rfl) (by kernel_rfl) (by kernel_rfl) (by kernel_rfl) (fun _ _ _ h => h) (Or.inl ⟨by rfl, by intro w hSw; go_simp⟩) hHeld ?_
      simp only [Act.put, List.setIfInBounds_toArray, List.set_cons_zero, List.set_cons_succ]
      refine take (i := 3) (d := some 26) (v := .int .i64 k) rfl (by kernel_rfl) (by kernel_rfl) (by kernel_rfl) (by kernel_rfl) (fun _ _ _ h => h) (Or.inl ⟨by rfl, by intro w hSw; go_simp⟩) hHeld ?_
      simp only [Act.put, List.setIfInBounds_toArray, List.set_cons_zero, List.set_cons_succ]
      refine wpAnyH_ready (rs := [4]) (by kernel_rfl) (by simp) (Rg.call1 rfl (by kernel_rfl) 59 (.tmp 26) 3 (by kernel_rfl) 27 (by kernel_rfl) (.int .i64 k) (by kernel_rfl) (fun _ => rfl) (HT.out _) ?_ AllReadyH.nil)
      rintro e wz ⟨rfl, hb⟩
      replace p0 := (hb.cell (World.block_lt_of_cell? _ _ p0)).trans p0
      replace x0 := (hb.cell (World.block_lt_of_cell? _ _ x0)).trans x0
      replace x1 := (hb.cell (World.block_lt_of_cell? _ _ x1)).trans x1
      replace g0 := (hb.cell (World.block_lt_of_cell? _ _ g0)).trans g0
      replace cM1 := (hb.cell (World.block_lt_of_cell? _ _ cM1)).trans cM1
      replace fM := (hb.frozen (World.block_lt_of_cell? _ _ cM1b)).trans fM
      refine ⟨_, rfl, ⟨p0, x0, x1, g0⟩, fun hHeld => ?_⟩
      simp only [Act.put, List.setIfInBounds_toArray, List.set_cons_zero, List.set_cons_succ]
      refine take (i := 5) (d := some 28) (v := .pointer (some ⟨gM, k, none⟩)) rfl (by kernel_rfl) (by kernel_rfl) (by kernel_rfl) (by kernel_rfl) (fun _ _ _ h => h) (Or.inl ⟨by rfl, by intro w hSw; go_simp⟩) hHeld ?_
      simp only [Act.put, List.setIfInBounds_toArray, List.set_cons_zero, List.set_cons_succ]
      refine wpAnyH_ready (rs := [6]) (by kernel_rfl) (by simp) (Mm.ready3 (g := gM) (k := k) (v := T) rfl (by kernel_rfl) (.tmp 28) (.tmp 27) (by kernel_rfl) (by kernel_rfl) (by kernel_rfl) (by kernel_rfl) cM1 fM ⟨cell_set0 p0 (by simp; omega), cell_set0 x0 (by simp; omega), cell_set0 x1 (by simp; omega), cell_set0 g0 (by simp; omega)⟩ (fun hHeld => ?_) AllReadyH.nil)
      simp only [Act.put, List.setIfInBounds_toArray, List.set_cons_zero, List.set_cons_succ]
      refine wpAnyH_done (by kernel_rfl) ?_ _
      go_wp2
      go_roundw
      case rel =>
        rw [← ET.out]
        exact ⟨k + 1, by omega, by go_num, bset (Rw.next hbel.drew hb) (by omega), blk_set ((hb.block _ y0).trans Q0.out) (Ne.symm d3), blk_set ((hb.block _ yR).trans QR.out) d16, blk_set ((hb.block _ yX).trans QX.out) (Ne.symm d6), wt_set2 ((wt_drew GV.out).below hb) (Ne.symm l3), wt_up ((wt_drew GM.out).below hb) hlt⟩
      case measure => simp [intOf]; omega
    · have he : k = 8 := by omega
      subst he
      have e8 : lst (cut (nth H) nul 8) = lst (nth H) := by unfold lst; apply List.map_congr_left; intro i hi; simp at hi; simp [cut, hi]
      have e9 : lst (cut fullI nul 8) = lst fullI := by unfold lst; apply List.map_congr_left; intro i hi; simp at hi; simp [cut, hi]
      rw [e8] at hv
      rw [e9] at hm
      clear e8 e9 HLT R1
      obtain ⟨x0, x1⟩ := two qX
      obtain ⟨s0, s1⟩ := two qR
      have fR := Bl.free qR
      have nX : X ≠ w.heap.size + 1 := by omega
      go_wp2
      refine bodyPost_ret (v := .agg #[.slice (some ⟨gV, 0, none⟩) 8 cV, .slice (some ⟨gM, 0, none⟩) 8 cM]) (by simp [results, Try.results36, go_sem, s0, s1]) rfl ⟨_, gV, _, _, gM, _, by rw [lst_len, lst_len], ?_, ?_, by omega, by omega, l3, ?_⟩
      · exact wt_set2 (wt_set2 hv (by omega)) (by omega)
      · exact wt_set2 (wt_set2 hm (by omega)) (by omega)
      · exact bset (bset hbel (by omega)) (by omega)

end Go.Proofs.Ytbplpfcplpoeiaa.Mu

namespace Go.Proofs.Ytbplpfcplpoeiaa.Mw
open Go Go.RowKit
open Num Pl Hr Hh Hf Hg Pa Pm Po Pq Mi Bw Mo Mp Mj Mm Mv Bx
set_option linter.unusedSimpArgs false
set_option linter.unusedVariables false

set_option maxHeartbeats 1000000 in
theorem bitsS_no (f v n : Int) (w : World) (h : bitsB f v n = false) : Calls Try.prog 24 #[.int .i64 f, .int .i64 v, .int .i64 n] w (ResMB w false [] []) := by
  obtain ⟨W0, hW0⟩ : ∃ W0, W0 = w.alloc (.cells #[.slice none 0 0, .slice none 0 0] 25) := ⟨_, rfl⟩
  have B : Below w.heap.size w W0 := by subst hW0; exact below_alloc1 _ _
  have k0 : W0.heap[w.heap.size]? = some (.cells #[.slice none 0 0, .slice none 0 0] 25 (0, 0)) := by subst hW0; exact at_new rfl
  have hf := specFits_any f v W0
  have hb := fun w => specBits_any f w
  cases hx : fits f v with
  | false =>
    rw [hx] at hf
    have HF : Hid (Calls Try.prog 64 #[.int .i64 f, .int .i64 v] W0 fun e w' => e = .returned (.bool false) ∧ Below W0.heap.size W0 w') := hf
    clear h hb hf
    go_enter Try.func24, Try.ntmps24
    go_wp2_with (go_at_call 64; rw [← hW0]; clear hW0; refine HF.out.mono ?_; rintro e wa ⟨rfl, hb⟩; replace k0 := (hb.block _ (Array.getElem?_eq_some_iff.1 k0).1).trans k0; obtain ⟨r0, r1⟩ := two k0; have fr := Bl.free k0; replace B := Rw.next B hb; clear hb)
    refine bodyPost_ret (v := .tuple #[.agg #[.slice none 0 0, .slice none 0 0], .bool false]) (by simp [results, Try.results24, go_sem, r0, r1]) rfl (resMB_none ?_)
    exact bset (bset B (by omega)) (by omega)
  | true =>
    rw [hx] at hf
    have HF : Hid (Calls Try.prog 64 #[.int .i64 f, .int .i64 v] W0 fun e w' => e = .returned (.bool true) ∧ Below W0.heap.size W0 w') := hf
    unfold bitsB at h
    rw [hx] at h
    by_cases hn : n < 0
    · clear h hb hf
      go_enter Try.func24, Try.ntmps24
      go_wp2_with (go_at_call 64; rw [← hW0]; clear hW0; refine HF.out.mono ?_; rintro e wa ⟨rfl, hb⟩; replace k0 := (hb.block _ (Array.getElem?_eq_some_iff.1 k0).1).trans k0; obtain ⟨r0, r1⟩ := two k0; have fr := Bl.free k0; replace B := Rw.next B hb; clear hb)
      refine bodyPost_ret (v := .tuple #[.agg #[.slice none 0 0, .slice none 0 0], .bool false]) (by simp [results, Try.results24, go_sem, r0, r1]) rfl (resMB_none ?_)
      exact bset (bset B (by omega)) (by omega)
    · have hg : fb f < n := by simp at h; omega
      generalize fb f = q at *
      have HB : Hid (∀ w, Calls Try.prog 52 #[.int .i64 f] w fun e w' => e = .returned (.int .i64 q) ∧ Below w.heap.size w w') := hb
      clear h hb hf
      go_enter Try.func24, Try.ntmps24
      go_wp2_with (first
        | (go_at_call 64; rw [← hW0]; clear hW0; refine HF.out.mono ?_; rintro e wa ⟨rfl, hb⟩; replace k0 := (hb.block _ (Array.getElem?_eq_some_iff.1 k0).1).trans k0; replace B := Rw.next B hb; clear hb)
        | (go_at_call 52; refine (HB.out _).mono ?_; rintro e wb ⟨rfl, hb⟩; replace k0 := (hb.block _ (Array.getElem?_eq_some_iff.1 k0).1).trans k0; obtain ⟨r0, r1⟩ := two k0; have fr := Bl.free k0; replace B := Rw.next B hb; clear hb))
      refine bodyPost_ret (v := .tuple #[.agg #[.slice none 0 0, .slice none 0 0], .bool false]) (by simp [results, Try.results24, go_sem, r0, r1]) rfl (resMB_none ?_)
      exact bset (bset B (by omega)) (by omega)

theorem upd_nul (f : Nat) : upd nul f 0 = nul := by funext i; simp [upd, nul]
theorem wt_upd {w : World} {a : Option Addr} {g k : Nat} {x y : Int} (h : Wt w a g (lst (upd nul k x))) (hk : k < 8) : Wt (w.setCell ⟨g, k, none⟩ (.int .i64 y)) a g (lst (upd nul k y)) := by
  have hl : (lst (upd nul k y)).length = (lst (upd nul k x)).length := by rw [lst_len, lst_len]
  refine ⟨fun hp => h.head (by omega), fun i hi => ?_, fun i hi => ?_, by rw [lst_len]; omega⟩
  · rw [lst_len] at hi
    rw [lst_at _ hi]
    have hc := h.cell i (by rw [lst_len]; exact hi)
    rw [lst_at _ hi] at hc
    by_cases e : i = k
    · subst e
      rw [World.cell?_setCell_same _ _ _ hc]
      simp [upd]
    · rw [World.cell?_setCell_other _ _ _ _ (by intro q; injection q with q1 q2; exact e q2.symm), hc]
      simp [upd, e]
  · rw [lst_len] at hi
    have := h.free i (by rw [lst_len]; exact hi)
    simpa using this

set_option maxRecDepth 8000 in
set_option maxHeartbeats 4000000 in
theorem bitsS_yes (f n : Nat) (v : Int) (w : World) (hf8 : f < 8) (hx : fits f v = true) (hn : n ≤ fbN f) :
    Calls Try.prog 24 #[.int .i64 f, .int .i64 v, .int .i64 n] w (ResMB w true (lst (upd nul f ((hi v.toNat (fbN f) n : Nat) : Int))) (lst (upd nul f (topI f n)))) := by
  obtain ⟨W0, hW0⟩ : ∃ W0, W0 = w.alloc (.cells #[.slice none 0 0, .slice none 0 0] 25) := ⟨_, rfl⟩
  have B : Below w.heap.size w W0 := by subst hW0; exact below_alloc1 _ _
  have kR : W0.heap[w.heap.size]? = some (.cells #[.slice none 0 0, .slice none 0 0] 25 (0, 0)) := by subst hW0; exact at_new rfl
  have hf := specFits_any f v W0
  rw [hx] at hf
  have HF : Hid (Calls Try.prog 64 #[.int .i64 f, .int .i64 v] W0 fun e w' => e = .returned (.bool true) ∧ Below W0.heap.size W0 w') := hf
  have HB : Hid (∀ w, Calls Try.prog 52 #[.int .i64 f] w fun e w' => e = .returned (.int .i64 (fbN f : Int)) ∧ Below w.heap.size w w') := (fun w => by have := specBits_any f w; rw [fbN_eq] at this; exact this : ∀ w, Calls Try.prog 52 #[.int .i64 f] w fun e w' => e = .returned (.int .i64 (fbN f : Int)) ∧ Below w.heap.size w w')
  have hpos : 0 < fbN f := by rcases Hs.k8 hf8 with rfl | rfl | rfl | rfl | rfl | rfl | rfl | rfl <;> decide
  have h48 := fbN_le f
  have hlt := fits_pow hx
  have hv0 := fits_lt hx
  obtain ⟨u, rfl⟩ : ∃ u : Nat, v = u := ⟨v.toNat, by omega⟩
  rw [Int.toNat_natCast] at hlt ⊢
  unfold topI
  have hnz : ¬ ((fbN f : Int) < (n : Int)) := by omega
  have hfz : (f : Int) < 8 := by omega
  have HLT : Hid (u < 2 ^ fbN f) := hlt
  clear hf hx hlt
  generalize fbN f = b at *
  go_enter Try.func24, Try.ntmps24
  have tok1 : True := trivial
  go_wp2_with (first
    | (go_at_call 64; rw [← hW0]; clear hW0; refine HF.out.mono ?_; rintro e wa ⟨rfl, hb⟩; replace kR := (hb.block _ (Array.getElem?_eq_some_iff.1 kR).1).trans kR; replace B := Rw.next B hb; clear hb)
    | (go_at_call 52; clear tok1; refine (HB.out _).mono ?_; rintro e wb ⟨rfl, hb⟩; replace kR := (hb.block _ (Array.getElem?_eq_some_iff.1 kR).1).trans kR; replace B := Rw.next B hb; clear hb)
    | (go_at_call 32; refine (Mr.allS_any _).mono ?_; rintro e wc ⟨aV, gV, cV, aM, gM, cM, rfl, hV, hM, l1, l2, l3, hb⟩; have sb := hb.size; have zr3 := (Array.getElem?_eq_some_iff.1 kR).1; replace kR := (hb.block _ zr3).trans kR; replace B := Rw.next B hb; clear hb))
  clear HF
  obtain rfl := hV.head (by rw [lst_len]; omega)
  obtain rfl := hM.head (by rw [lst_len]; omega)
  rw [lst_len]
  have zR := (Array.getElem?_eq_some_iff.1 kR).1
  have yV : gV < wc.heap.size := by have := Hr.wt_lt hV; rw [lst_len] at this; omega
  have yM : gM < wc.heap.size := by have := Hr.wt_lt hM; rw [lst_len] at this; omega
  have kX : (wc.alloc (.cells #[.slice (some ⟨gV, 0, none⟩) 8 cV, .slice (some ⟨gM, 0, none⟩) 8 cM] 25)).heap[wc.heap.size]? = some (.cells #[.slice (some ⟨gV, 0, none⟩) 8 cV, .slice (some ⟨gM, 0, none⟩) 8 cM] 25 (0, 0)) := at_new rfl
  have BX : Below wc.heap.size wc (wc.alloc (.cells #[.slice (some ⟨gV, 0, none⟩) 8 cV, .slice (some ⟨gM, 0, none⟩) 8 cM] 25)) := below_alloc1 _ _
  replace kR := (BX.block _ zR).trans kR
  replace hV := hV.below BX
  replace hM := hM.below BX
  replace B := Rw.next B BX
  obtain ⟨X, hX⟩ : ∃ X, X = wc.heap.size := ⟨_, rfl⟩
  rw [← hX] at kX ⊢
  obtain ⟨wd, hwd⟩ : ∃ wd, wd = wc.alloc (.cells #[.slice (some ⟨gV, 0, none⟩) 8 cV, .slice (some ⟨gM, 0, none⟩) 8 cM] 25) := ⟨_, rfl⟩
  rw [← hwd] at kR kX hV hM B ⊢
  have o1V : w.heap.size < gV := by omega
  have o1M : w.heap.size < gM := by omega
  have oXV : gV < X := by omega
  have oXM : gM < X := by omega
  have hV0 : Wt wd (some ⟨gV, 0, none⟩) gV (lst (upd nul f ((hi u b 0 : Nat) : Int))) := by rw [hi_zero HLT.out]; show Wt wd _ gV (lst (upd nul f 0)); rw [upd_nul]; exact hV
  have hM0 : Wt wd (some ⟨gM, 0, none⟩) gM (lst (upd nul f ((Bt.top b 0 : Nat) : Int))) := by rw [top_zero]; show Wt wd _ gM (lst (upd nul f 0)); rw [upd_nul]; exact hM
  clear hX hwd zR yV yM sb zr3 l1 l2 hV hM BX
  go_loopw [9, 10] (fun q i wr => ∃ k : Nat, 1 ≤ k ∧ k ≤ b ∧ i = .int .i64 k ∧ q = .int .i64 ((2 ^ (k - 1) : Nat) : Int) ∧ Below w.heap.size w wr ∧ wr.heap[w.heap.size]? = some (.cells #[.slice none 0 0, .slice none 0 0] 25 (0, 0)) ∧ wr.heap[X]? = some (.cells #[.slice (some ⟨gV, 0, none⟩) 8 cV, .slice (some ⟨gM, 0, none⟩) 8 cM] 25 (0, 0)) ∧ Wt wr (some ⟨gV, 0, none⟩) gV (lst (upd nul f ((hi u b 0 : Nat) : Int))) ∧ Wt wr (some ⟨gM, 0, none⟩) gM (lst (upd nul f ((Bt.top b 0 : Nat) : Int)))) (fun _ i _ => b - (intOf i).toNat)
  case atStart => exact ⟨1, by omega, hpos, rfl, rfl, B, kR, kX, hV0, hM0⟩
  case round =>
    obtain ⟨k, hk1, hk, rfl, rfl, hbel, qR, qX, hv, hm⟩ := hrel
    clear B kR kX hV0 hM0
    have zR := (Array.getElem?_eq_some_iff.1 qR).1
    have zX := (Array.getElem?_eq_some_iff.1 qX).1
    by_cases hlt : k < b
    · have hkz : (k : Int) < b := by omega
      have e2 : 2 ^ (k - 1) * 2 = 2 ^ (k + 1 - 1) := by rw [← Nat.pow_succ]; congr 1; omega
      have e3 : 2 ^ (k - 1) < 2 ^ 48 := Nat.pow_lt_pow_right (by decide) (by omega)
      generalize 2 ^ (k - 1) = p at *
      have E2 : Hid (p * 2 = 2 ^ (k + 1 - 1)) := e2
      have e4 : (p : Int) < 281474976710656 := by omega
      have GV : Hid (Wt wr (some ⟨gV, 0, none⟩) gV (lst (upd nul f ((hi u b 0 : Nat) : Int)))) := hv
      have GM : Hid (Wt wr (some ⟨gM, 0, none⟩) gM (lst (upd nul f ((Bt.top b 0 : Nat) : Int)))) := hm
      have QR : Hid (wr.heap[w.heap.size]? = some (.cells #[.slice none 0 0, .slice none 0 0] 25 (0, 0))) := qR
      have QX : Hid (wr.heap[X]? = some (.cells #[.slice (some ⟨gV, 0, none⟩) 8 cV, .slice (some ⟨gM, 0, none⟩) 8 cM] 25 (0, 0))) := qX
      clear hv hm qR qX e2 e3
      go_wp2_with (go_at_call 52; refine (HB.out _).mono ?_; rintro e wz ⟨rfl, hb⟩)
      go_roundw
      case rel =>
        refine ⟨k + 1, by omega, by omega, by go_num, ?_, Rw.next hbel hb, (hb.block _ zR).trans QR.out, (hb.block _ zX).trans QX.out, GV.out.below hb, GM.out.below hb⟩
        rw [← E2.out]
        go_num
      case measure => simp [intOf]; omega
    · have he : k = b := by omega
      have hkz : ¬ ((k : Int) < (b : Int)) := by omega
      have e5 : 2 ^ (k - 1) = bitN b 0 := by
        rw [bitN_lt hpos, he]
      rw [e5]
      have GV : Hid (Wt wr (some ⟨gV, 0, none⟩) gV (lst (upd nul f ((hi u b 0 : Nat) : Int)))) := hv
      have GM : Hid (Wt wr (some ⟨gM, 0, none⟩) gM (lst (upd nul f ((Bt.top b 0 : Nat) : Int)))) := hm
      have QR : Hid (wr.heap[w.heap.size]? = some (.cells #[.slice none 0 0, .slice none 0 0] 25 (0, 0))) := qR
      have QX : Hid (wr.heap[X]? = some (.cells #[.slice (some ⟨gV, 0, none⟩) 8 cV, .slice (some ⟨gM, 0, none⟩) 8 cM] 25 (0, 0))) := qX
      clear hv hm qR qX e5 hk hk1 hlt
      go_wp2_with (go_at_call 52; refine (HB.out _).mono ?_; rintro e wz ⟨rfl, hb⟩; clear HB)
      go_loopw [9, 11] (fun q i wr => ∃ k : Nat, k ≤ n ∧ i = .int .i64 k ∧ q = .int .i64 ((bitN b k : Nat) : Int) ∧ Below w.heap.size w wr ∧ wr.heap[w.heap.size]? = some (.cells #[.slice none 0 0, .slice none 0 0] 25 (0, 0)) ∧ wr.heap[X]? = some (.cells #[.slice (some ⟨gV, 0, none⟩) 8 cV, .slice (some ⟨gM, 0, none⟩) 8 cM] 25 (0, 0)) ∧ Wt wr (some ⟨gV, 0, none⟩) gV (lst (upd nul f ((hi u b k : Nat) : Int))) ∧ Wt wr (some ⟨gM, 0, none⟩) gM (lst (upd nul f ((Bt.top b k : Nat) : Int)))) (fun _ i _ => n - (intOf i).toNat)
      case atStart => exact ⟨0, by omega, rfl, rfl, Rw.next hbel hb, (hb.block _ zR).trans QR.out, (hb.block _ zX).trans QX.out, GV.out.below hb, GM.out.below hb⟩
      case round =>
        clear zR zX GV GM QR QX hb hbel hkz he
        obtain ⟨j, hj, rfl, rfl, hbel, qR, qX, hv, hm⟩ := hrel
        have zR := (Array.getElem?_eq_some_iff.1 qR).1
        have zX := (Array.getElem?_eq_some_iff.1 qX).1
        obtain ⟨x0, x1⟩ := two qX
        have nX : X ≠ w.heap.size := by omega
        have d1 : gV ≠ w.heap.size := by omega
        have d3 : gM ≠ w.heap.size := by omega
        have d5 : gV ≠ X := by omega
        have d6 : gM ≠ X := by omega
        by_cases hlt : j < n
        · have hjb : j < b := by omega
          have hjz : (j : Int) < n := by omega
          have cV1 := hv.cell f (by rw [lst_len]; exact hf8)
          have cM1 := hm.cell f (by rw [lst_len]; exact hf8)
          have fV := hv.free f (by rw [lst_len]; exact hf8)
          have fM := hm.free f (by rw [lst_len]; exact hf8)
          rw [lst_at _ hf8] at cV1 cM1
          have ef : ∀ x : Int, upd nul f x f = x := fun x => by simp [upd]
          rw [ef] at cV1 cM1
          clear ef
          have GV : Hid (Wt wr (some ⟨gV, 0, none⟩) gV (lst (upd nul f ((hi u b j : Nat) : Int)))) := hv
          have GM : Hid (Wt wr (some ⟨gM, 0, none⟩) gM (lst (upd nul f ((Bt.top b j : Nat) : Int)))) := hm
          have QR : Hid (wr.heap[w.heap.size]? = some (.cells #[.slice none 0 0, .slice none 0 0] 25 (0, 0))) := qR
          have QX : Hid (wr.heap[X]? = some (.cells #[.slice (some ⟨gV, 0, none⟩) 8 cV, .slice (some ⟨gM, 0, none⟩) 8 cM] 25 (0, 0))) := qX
          have et := Bt.top_succ hjb
          have eh := hi_succ (v := u) hjb
          rw [← bitN_lt hjb] at et eh
          have eb := bitN_half hjb
          have l48 : 2 ^ b ≤ 2 ^ 48 := Nat.pow_le_pow_right (by decide) h48
          have lt := Nat.lt_of_lt_of_le (Bt.top_lt b (j + 1) (by omega)) l48
          have lh := hi_le u b (j + 1)
          have lu := HLT.out
          have bp : 0 < bitN b j := by rw [bitN_lt hjb]; exact Nat.pos_of_ne_zero (by simp)
          clear hv hm qR qX
          generalize et2 : Bt.top b (j + 1) = t2 at *
          generalize et1 : Bt.top b j = t1 at *
          generalize eh2 : hi u b (j + 1) = h2 at *
          generalize eh1 : hi u b j = h1 at *
          generalize eb2 : bitN b (j + 1) = p2 at *
          generalize eb1 : bitN b j = p at *
          have hp : (0 : Int) < p := by omega
          have ew : IntKind.i64.wrap ((t1 : Int) + (p : Int)) = (t2 : Int) := by
            have e : (t1 : Int) + (p : Int) = t2 := by omega
            rw [e]
            exact Get.wraps_i64 _ (by omega) (by omega)
          have EB : Hid (p / 2 = bitN b (j + 1)) := eb.trans eb2.symm
          have ET2 : Hid (Bt.top b (j + 1) = t2) := et2
          have EH2 : Hid (hi u b (j + 1) = h2) := eh2
          have hp48 : (p : Int) < 281474976710656 := by omega
          have hquo : (u : Int) / (p : Int) = ((u / p : Nat) : Int) := by omega
          have hqle : u / p ≤ u := Nat.div_le_self _ _
          have hqz : ((u / p : Nat) : Int) < 281474976710656 := by omega
          generalize u / p = c at *
          have HX : Hid (X ≠ gM ∧ X ≠ gV) := ⟨by omega, by omega⟩
          clear et2 et1 eh2 eh1 eb2 eb1 et eb lt
          go_wp2
          go_region
          obtain ⟨wy, hwy⟩ : ∃ wy, wy = (wr.setCell ⟨gM, f, none⟩ (.int .i64 t2)).drew := ⟨_, rfl⟩
          rw [← hwy]
          replace x0 : wy.cell? ⟨X, 0, none⟩ = some (.slice (some ⟨gV, 0, none⟩) 8 cV) := by subst hwy; rw [World.cell?_drew]; exact Mu.cell_set0 x0 (by simp; omega)
          replace cV1 : wy.cell? ⟨gV, f, none⟩ = some (.int .i64 h1) := by subst hwy; rw [World.cell?_drew]; exact Mu.cell_set0 cV1 (by simp; omega)
          replace fV : wy.frozen? ⟨gV, f, none⟩ = false := by subst hwy; simpa using fV
          replace hbel : Below w.heap.size w wy := by subst hwy; exact (bset hbel (by omega)).drew
          replace QR : Hid (wy.heap[w.heap.size]? = some (.cells #[.slice none 0 0, .slice none 0 0] 25 (0, 0))) := (by subst hwy; exact blk_set QR.out (Ne.symm d3) : wy.heap[w.heap.size]? = some (.cells #[.slice none 0 0, .slice none 0 0] 25 (0, 0)))
          replace QX : Hid (wy.heap[X]? = some (.cells #[.slice (some ⟨gV, 0, none⟩) 8 cV, .slice (some ⟨gM, 0, none⟩) 8 cM] 25 (0, 0))) := (by subst hwy; exact blk_set QX.out (Ne.symm d6) : wy.heap[X]? = some (.cells #[.slice (some ⟨gV, 0, none⟩) 8 cV, .slice (some ⟨gM, 0, none⟩) 8 cM] 25 (0, 0)))
          replace GV : Hid (Wt wy (some ⟨gV, 0, none⟩) gV (lst (upd nul f ((h1 : Nat) : Int)))) := (by subst hwy; exact wt_drew (wt_set2 GV.out (Ne.symm l3)) : Wt wy (some ⟨gV, 0, none⟩) gV (lst (upd nul f ((h1 : Nat) : Int))))
          replace GM : Hid (Wt wy (some ⟨gM, 0, none⟩) gM (lst (upd nul f ((t2 : Nat) : Int)))) := (by subst hwy; exact wt_drew (wt_upd GM.out hf8) : Wt wy (some ⟨gM, 0, none⟩) gM (lst (upd nul f ((t2 : Nat) : Int))))
          clear hwy x1 cM1 fM ew zR zX
          by_cases hd : c % 2 = 1
          · rw [hd] at eh
            have ew : IntKind.i64.wrap ((h1 : Int) + (p : Int)) = (h2 : Int) := by
              have e : (h1 : Int) + (p : Int) = h2 := by omega
              rw [e]
              exact Get.wraps_i64 _ (by omega) (by omega)
            have hdz : (c : Int) % 2 = 1 := by omega
            clear eh hd lu lh
            go_wp2
            go_region
            go_wp2
            go_roundw
            case rel =>
              refine ⟨j + 1, by omega, by go_num, ?_, (bset hbel (by omega)).drew, blk_set QR.out (Ne.symm d1), blk_set QX.out (Ne.symm d5), by rw [EH2.out]; exact wt_drew (wt_upd GV.out hf8), by rw [ET2.out]; exact wt_drew (wt_set2 GM.out l3)⟩
              · rw [← EB.out]
                go_num
            case measure => simp [intOf]; omega
          · have hd0 : c % 2 = 0 := by omega
            rw [hd0] at eh
            have e12 : h1 = h2 := by omega
            rw [e12] at GV
            have hdz : (c : Int) % 2 = 0 := by omega
            clear eh hd hd0 lu lh e12 x0 cV1 fV
            go_wp2
            go_roundw
            case rel =>
              refine ⟨j + 1, by omega, by go_num, ?_, hbel, QR.out, QX.out, by rw [EH2.out]; exact GV.out, by rw [ET2.out]; exact GM.out⟩
              · rw [← EB.out]
                go_num
            case measure => simp [intOf]; omega
        · have he : j = n := by omega
          subst he
          have hjz : ¬ ((j : Int) < (j : Int)) := by omega
          obtain ⟨s0, s1⟩ := two qR
          have fR := Bl.free qR
          go_wp2
          refine bodyPost_ret (v := .tuple #[.agg #[.slice (some ⟨gV, 0, none⟩) 8 cV, .slice (some ⟨gM, 0, none⟩) 8 cM], .bool true]) (by simp [results, Try.results24, go_sem, s0, s1]) rfl ⟨_, gV, _, _, gM, _, by rw [lst_len, lst_len], ?_, ?_, by omega, by omega, l3, ?_⟩
          · exact wt_set2 (wt_set2 hv (by omega)) (by omega)
          · exact wt_set2 (wt_set2 hm (by omega)) (by omega)
          · exact bset (bset hbel (by omega)) (by omega)

end Go.Proofs.Ytbplpfcplpoeiaa.Mw

namespace Go.Proofs.Ytbplpfcplpoeiaa.By
open Bx

theorem top_bit (b n i : Nat) (hn : n ≤ b) : (Bt.top b n).testBit i = (decide (b - n ≤ i) && decide (i < b)) := by
  unfold Bt.top
  rw [Nat.testBit_mul_two_pow, Nat.testBit_two_pow_sub_one]
  by_cases h1 : b - n ≤ i
  · have : (i - (b - n) < n) = (i < b) := by apply propext; omega
    simp [h1, this]
  · simp [h1]
theorem top_and {b m n : Nat} (hn : n ≤ b) (hm : m ≤ n) : Bt.top b n &&& Bt.top b m = Bt.top b m := by
  apply Nat.eq_of_testBit_eq
  intro i
  rw [Nat.testBit_and, top_bit b n i hn, top_bit b m i (by omega)]
  by_cases h1 : b - m ≤ i
  · have : b - n ≤ i := by omega
    simp [h1, this]
  · simp [h1]
theorem hi_and {v b m n : Nat} (hv : v < 2 ^ b) (hn : n ≤ b) (hm : m ≤ n) : hi v b n &&& Bt.top b m = hi v b m := by
  rw [← and_top hv hn, Nat.and_assoc, top_and hn hm, and_top hv (by omega)]
theorem top_digit (b n i : Nat) (hn : n ≤ b) : Bt.top b n / 2 ^ i % 2 = if b - n ≤ i ∧ i < b then 1 else 0 := by
  rw [← Nat.toNat_testBit, top_bit b n i hn]
  by_cases h1 : b - n ≤ i <;> by_cases h2 : i < b <;> simp [h1, h2]
theorem top_cnt (b n : Nat) (hn : n ≤ b) : ∀ k, Bt.cnt (Bt.top b n) k = min k b - min k (b - n)
  | 0 => by simp [Bt.cnt]
  | k + 1 => by
    rw [Bt.cnt, top_cnt b n hn k, top_digit b n k hn]
    split <;> omega
theorem top_ne {b n : Nat} (hn : n + 1 ≤ b) : Bt.top b n ≠ Bt.top b (n + 1) := by
  rw [Bt.top_succ (by omega)]
  have : 0 < 2 ^ (b - (n + 1)) := Nat.pow_pos (by decide)
  omega

end Go.Proofs.Ytbplpfcplpoeiaa.By

namespace Go.Proofs.Ytbplpfcplpoeiaa.Lf
open Go Go.RowKit
open Num Pl Hr Hh Hf Hg Pa Pm Po Pe Rg Lb Lc Bw Ma
set_option linter.unusedVariables false

theorem pairsT {V M : List Int} {a a' : Option Addr} {b o b' o' : Nat} (c c' : Nat) {w : World} (h1 : Rd w a b o V) (h2 : Rd w a' b' o' M) (wV : Wide V) {P : Bool} (hP : matchB V M = P) :
    ∀ w1, Below w.heap.size w w1 → Calls Try.prog 56 #[.agg #[.slice a V.length c, .slice a' M.length c']] w1 fun e w' => e = .returned (.tuple #[.agg (enc (pv V M) (pm V M)), .bool P]) ∧ Below w1.heap.size w1 w' := by
  intro w1 hb
  have := pairs_any a a' b o c b' o' c' V M w1 (h1.below hb) (h2.below hb) wV
  rw [hP] at this
  exact this

theorem askedR (V M : List Int) (wV : Wide V) (_wM : Wide M) : ∃ R, CM 21 V M (Nu R) ∧ CM 44 V M (Nu R) := by
  cases h : matchB V M with
  | false =>
    exact ⟨-1, fun a a' b o c b' o' c' w h1 h2 => ask_no _ _ _ _ _ _ _ _ w (pairsT c c' h1 h2 wV h), fun a a' b o c b' o' c' w h1 h2 => askS_no _ _ _ _ _ _ w (okT c c' h1 h2 wV h)⟩
  | true =>
    obtain ⟨d1, d2⟩ := bounds h
    have hf : ∀ k : Nat, k < 8 → fits k (nth M k) = true := fun k hk => (at_ok h hk).1
    refine ⟨((tot (nth M) 8 : Nat) : Int), fun a a' b o c b' o' c' w h1 h2 => ?_, fun a a' b o c b' o' c' w h1 h2 => ?_⟩
    · have t := pairsT c c' h1 h2 wV h
      rw [pm_yes h] at t
      exact ask_yes _ _ _ _ _ _ _ _ w d2 t
    · obtain ⟨l1, l2⟩ := lens h
      have t0 := okT c c' h1 h2 wV h
      obtain rfl := rd_some h1 l1
      obtain rfl := rd_some h2 l2
      have g2 := h2.cell
      rw [l1] at t0
      rw [l2] at t0 g2
      rw [l1, l2, ← tots hf 8 (Nat.le_refl _)]
      exact askS_yes b o c b' o' c' (nth M) w g2 d2 t0

end Go.Proofs.Ytbplpfcplpoeiaa.Lf

namespace Go.Proofs.Ytbplpfcplpoeiaa.Lj
open Go Go.RowKit
open Num Pl Hr Hh Hf Hg Pa Pm Po Pe Rg Lb Lc Bw Bx By Ma Mo
set_option linter.unusedVariables false

def VB (f u n : Nat) : List Int := lst (upd nul f ((hi u (fbN f) n : Nat) : Int))
def MB (f n : Nat) : List Int := lst (upd nul f ((Bt.top (fbN f) n : Nat) : Int))
theorem upd_at (f : Nat) (x : Int) (k : Nat) : upd nul f x k = if k = f then x else 0 := rfl
theorem small {f n u : Nat} (hn : n ≤ fbN f) (hu : u < 2 ^ fbN f) : hi u (fbN f) n < 281474976710656 ∧ Bt.top (fbN f) n < 281474976710656 := by
  have l48 : 2 ^ fbN f ≤ 2 ^ 48 := Nat.pow_le_pow_right (by decide) (fbN_le f)
  have := Bt.top_lt (fbN f) n hn
  have := hi_le u (fbN f) n
  omega
theorem wideU {f : Nat} {x : Nat} (h : x < 281474976710656) : Wide (lst (upd nul f (x : Int))) := Mq.wide_lst fun k hk => by
  rw [upd_at]
  unfold I64
  split <;> omega
theorem fits_top {f n : Nat} (hf : f < 8) (hn : n ≤ fbN f) : fits f ((Bt.top (fbN f) n : Nat) : Int) = true := by
  have ht := Bt.top_lt (fbN f) n hn
  generalize Bt.top (fbN f) n = t at *
  clear hn
  rcases Hs.k8 hf with rfl | rfl | rfl | rfl | rfl | rfl | rfl | rfl
  all_goals
    unfold fits numOkB
    simp only [decide_eq_true_eq]
    simp only [show fbN 0 = 8 from by decide, show fbN 1 = 48 from by decide, show fbN 2 = 48 from by decide, show fbN 3 = 16 from by decide, show fbN 4 = 16 from by decide, show fbN 5 = 32 from by decide, show fbN 6 = 32 from by decide, show fbN 7 = 8 from by decide] at ht
    exact ⟨by decide, by decide, by omega, Int.lt_of_lt_of_le (Int.ofNat_lt.2 ht) (by decide)⟩
theorem fits_zero {k : Nat} (hk : k < 8) : fits k 0 = true := by
  rcases Hs.k8 hk with rfl | rfl | rfl | rfl | rfl | rfl | rfl | rfl <;> decide
theorem ok {f n u : Nat} (hf : f < 8) (hn : n ≤ fbN f) (hu : u < 2 ^ fbN f) : matchB (VB f u n) (MB f n) = true := by
  unfold matchB VB MB
  rw [lst_len, lst_len]
  have key : ∀ j, j ≤ 8 → uptoP (lst (upd nul f ((hi u (fbN f) n : Nat) : Int))) (lst (upd nul f ((Bt.top (fbN f) n : Nat) : Int))) j = true := by
    intro j
    induction j with
    | zero => intro _; rfl
    | succ j ih =>
      intro hj
      simp only [uptoP, ih (by omega), Bool.true_and]
      rw [lst_at _ (by omega), lst_at _ (by omega), upd_at, upd_at]
      unfold pairB
      by_cases e : j = f
      · subst e
        rw [if_pos rfl, if_pos rfl, fits_top (by omega) hn]
        simp only [Bool.true_and, decide_eq_true_eq, Int.toNat_natCast]
        refine ⟨by omega, ?_⟩
        rw [Bt.within_iff, ← and_top hu hn]
        intro i hi
        rw [Nat.testBit_and, Bool.and_eq_true] at hi
        exact hi.2
      · rw [if_neg e, if_neg e, fits_zero (by omega)]
        rfl
  rw [key 8 (Nat.le_refl _)]
  rfl
theorem nthU (f : Nat) (x : Int) {k : Nat} (hk : k < 8) : nth (lst (upd nul f x)) k = if k = f then x else 0 := by
  unfold nth
  rw [lst_at _ hk, upd_at]
theorem and00 : bits .and .i64 0 0 = 0 := by have := Bu.and_i64 0 0 (by decide) (by decide); exact this
theorem covB {f m n u : Nat} (hf : f < 8) (hm : m ≤ fbN f) (hn : n ≤ fbN f) (hu : u < 2 ^ fbN f) : CMM 16 (VB f u m) (MB f m) (VB f u n) (MB f n) (Bo (decide (hi u (fbN f) n &&& Bt.top (fbN f) m = hi u (fbN f) m ∧ Bt.top (fbN f) n &&& Bt.top (fbN f) m = Bt.top (fbN f) m))) := by
  intro a a' b o c b' o' c' p p' q r s q' r' s' w h1 h2 h3 h4
  obtain ⟨s1, s2⟩ := small hm hu
  obtain ⟨s3, s4⟩ := small hn hu
  have := Mi.covers_l a a' p p' _ _ _ _ c c' s s' _ _ _ _ _ w (Mi.two_any c c' s s' h1 h2 (wideU s1) h3 h4 (wideU s3))
  rw [ok hf hm hu, ok hf hn hu, pv_yes (ok hf hm hu), pm_yes (ok hf hm hu), pv_yes (ok hf hn hu), pm_yes (ok hf hn hu), Bool.true_and, Bool.true_and] at this
  have e : sameB (fun k => bits .and .i64 (nth (VB f u n) k) (nth (MB f m) k)) (fun k => bits .and .i64 (nth (MB f n) k) (nth (MB f m) k)) (nth (VB f u m)) (nth (MB f m)) = decide (hi u (fbN f) n &&& Bt.top (fbN f) m = hi u (fbN f) m ∧ Bt.top (fbN f) n &&& Bt.top (fbN f) m = Bt.top (fbN f) m) := by
    rw [Bool.eq_iff_iff, sameB_iff, decide_eq_true_eq]
    unfold VB MB
    have ea := Bu.and_i64 (hi u (fbN f) n) (Bt.top (fbN f) m) (by omega) (by omega)
    have eb := Bu.and_i64 (Bt.top (fbN f) n) (Bt.top (fbN f) m) (by omega) (by omega)
    constructor
    · intro h
      have := h f hf
      rw [nthU _ _ hf, nthU _ _ hf, nthU _ _ hf, nthU _ _ hf, if_pos rfl, if_pos rfl, if_pos rfl, if_pos rfl, ea, eb] at this
      omega
    · intro h k hk
      rw [nthU _ _ hk, nthU _ _ hk, nthU _ _ hk, nthU _ _ hk]
      by_cases e : k = f
      · rw [if_pos e, if_pos e, if_pos e, if_pos e, ea, eb, h.1, h.2]
        exact ⟨rfl, rfl⟩
      · rw [if_neg e, if_neg e, if_neg e, if_neg e, and00]
        exact ⟨rfl, rfl⟩
  rw [e] at this
  exact this
theorem cov_yes {f n u : Nat} (hf : f < 8) (hn : n + 1 ≤ fbN f) (hu : u < 2 ^ fbN f) : CMM 16 (VB f u n) (MB f n) (VB f u (n + 1)) (MB f (n + 1)) (Bo true) := by
  have := covB hf (m := n) (n := n + 1) (by omega) hn hu
  rw [decide_eq_true ⟨hi_and hu hn (by omega), top_and hn (by omega)⟩] at this
  exact this
theorem cov_no {f n u : Nat} (hf : f < 8) (hn : n + 1 ≤ fbN f) (hu : u < 2 ^ fbN f) : CMM 16 (VB f u (n + 1)) (MB f (n + 1)) (VB f u n) (MB f n) (Bo false) := by
  have := covB hf (m := n + 1) (n := n) hn (by omega) hu
  rw [decide_eq_false (fun h => top_ne hn (by have h2 := h.2; rw [Nat.and_comm, top_and hn (by omega)] at h2; exact h2))] at this
  exact this
theorem same0 {f u : Nat} (hf : f < 8) (hu : u < 2 ^ fbN f) : CMM 25 (VB f u 0) (MB f 0) (lst nul) (lst nul) (Bo true) := by
  have ev : VB f u 0 = lst nul := by unfold VB; rw [hi_zero hu]; show lst (upd nul f 0) = _; rw [Mw.upd_nul]
  have em : MB f 0 = lst nul := by unfold MB; rw [top_zero]; show lst (upd nul f 0) = _; rw [Mw.upd_nul]
  have hk := ok hf (Nat.zero_le _) hu
  have hw : Wide (VB f u 0) := wideU (small (Nat.zero_le _) hu).1
  rw [ev] at hw
  rw [ev, em] at hk ⊢
  intro a a' b o c b' o' c' p p' q r s q' r' s' w h1 h2 h3 h4
  have := Mi.same_l a a' p p' _ _ _ _ c c' s s' _ _ _ _ _ w (Mi.two_any c c' s s' h1 h2 hw h3 h4 hw)
  rw [hk, Bool.true_and, Bool.true_and, (sameB_iff _ _ _ _).2 (fun k _ => ⟨rfl, rfl⟩)] at this
  exact this
theorem asked {f n u : Nat} (hf : f < 8) (hn : n ≤ fbN f) (hu : u < 2 ^ fbN f) : CM 21 (VB f u n) (MB f n) (Nu (n : Int)) := by
  have hk := ok hf hn hu
  obtain ⟨d1, d2⟩ := bounds hk
  have et : tot (nth (MB f n)) 8 = n := by
    have key : ∀ k, k ≤ 8 → tot (nth (MB f n)) k = if f < k then n else 0 := by
      intro k
      induction k with
      | zero => intro _; simp [tot]
      | succ k ih =>
        intro hk8
        rw [tot, ih (by omega)]
        unfold MB
        rw [nthU _ _ (by omega)]
        by_cases e : k = f
        · subst e
          rw [if_pos rfl, Int.toNat_natCast, top_cnt _ _ hn, if_neg (by omega), if_pos (by omega)]
          have := fbN_le k
          omega
        · rw [if_neg e]
          have ez : Bt.cnt (Int.toNat 0) 48 = 0 := Bt.cnt_zero 48
          rw [ez]
          by_cases h : f < k
          · rw [if_pos h, if_pos (by omega)]; rfl
          · rw [if_neg h, if_neg (by omega)]
    rw [key 8 (Nat.le_refl _), if_pos hf]
  intro a a' b o c b' o' c' w h1 h2
  have t := Lf.pairsT c c' h1 h2 (wideU (small hn hu).1) hk
  rw [pm_yes hk] at t
  have := ask_yes _ _ _ _ _ _ _ (nth (MB f n)) w d2 t
  rw [et] at this
  exact this

end Go.Proofs.Ytbplpfcplpoeiaa.Lj

namespace Go.Proofs.Ytbplpfcplpoeiaa.Li
open Go Go.RowKit
open Num Pl Hr Hf Hg Pa Pm Bw Mo Mv Bx
set_option linter.unusedVariables false

theorem and_hi (f n : Nat) (v : Int) (hx : fits f v = true) (hn : n ≤ fbN f) : bits .and .i64 v (topI f n) = ((hi v.toNat (fbN f) n : Nat) : Int) := by
  have h1 := fits_lt hx
  have h2 := fits_pow hx
  have l48 : 2 ^ fbN f ≤ 2 ^ 48 := Nat.pow_le_pow_right (by decide) (fbN_le f)
  have lt := Nat.lt_of_lt_of_le (Bt.top_lt (fbN f) n hn) l48
  unfold topI
  rw [Lc.and_nat h1.1 h1.2 (by omega) (by omega), Int.toNat_natCast, and_top h2 hn]
theorem bitsR (f v n : Int) : ∃ R LV LM, (∀ w, Calls Try.prog 23 #[.int .i64 f, .int .i64 v, .int .i64 n] w (ResMB w R LV LM)) ∧ (∀ w, Calls Try.prog 24 #[.int .i64 f, .int .i64 v, .int .i64 n] w (ResMB w R LV LM)) := by
  cases h : bitsB f v n with
  | false => exact ⟨_, _, _, fun w => bits_no f v n w h, fun w => Mw.bitsS_no f v n w h⟩
  | true =>
    unfold bitsB at h
    simp only [Bool.and_eq_true, decide_eq_true_eq] at h
    obtain ⟨hx, hn0, hn1⟩ := h
    have hf : 0 ≤ f ∧ f < 8 := by
      by_cases hf : f < 0 ∨ 8 ≤ f
      · rw [fits_out hf] at hx; cases hx
      · omega
    obtain ⟨F, rfl⟩ : ∃ F : Nat, f = F := ⟨f.toNat, by omega⟩
    obtain ⟨N, rfl⟩ : ∃ N : Nat, n = N := ⟨n.toNat, by omega⟩
    rw [fbN_eq] at hn1
    have hN : N ≤ fbN F := by omega
    refine ⟨_, _, _, fun w => bits_yes F N v w (by omega) hx hN, fun w => ?_⟩
    rw [and_hi F N v hx hN]
    exact Mw.bitsS_yes F N v w (by omega) hx hN

end Go.Proofs.Ytbplpfcplpoeiaa.Li

namespace Go.Proofs.Ytbplpfcplpoeiaa.Lg
open Go Go.RowKit
open Num Pl Hr Pa Pm

theorem allR : ∃ LV LM, (∀ w, Calls Try.prog 26 #[] w (ResM w LV LM)) ∧ (∀ w, Calls Try.prog 32 #[] w (ResM w LV LM)) := ⟨_, _, fun w => Mo.all_any w, fun w => Mr.allS_any w⟩

end Go.Proofs.Ytbplpfcplpoeiaa.Lg

namespace Go.Proofs.Ytbplpfcplpoeiaa.Dr
open Go.RowKit
open Num Rw Mk Un Put

/-- A cursor at block g over the bytes l of the slice at a. -/
structure Cur (w : World) (g : Nat) (a : Option Addr) (b off cap : Nat) (l : List Int) : Prop where
  blk : ∃ i h : Int, w.heap[g]? = some (.cells #[.slice a l.length cap, .int .i64 i, .int .i64 h] 83 (0, 0)) ∧ 0 ≤ i ∧ i ≤ (l.length : Int)
  rd : Rd w a b off l
  ne : l.length = 0 ∨ b ≠ g

theorem three0 {w : World} {g : Nat} {x y z : Value} {t : TypeId} (h : w.heap[g]? = some (.cells #[x, y, z] t (0, 0))) : w.cell? ⟨g, 0, none⟩ = some x := by simp [World.cell?, h]
theorem three1 {w : World} {g : Nat} {x y z : Value} {t : TypeId} (h : w.heap[g]? = some (.cells #[x, y, z] t (0, 0))) : w.cell? ⟨g, 1, none⟩ = some y := by simp [World.cell?, h]
theorem three2 {w : World} {g : Nat} {x y z : Value} {t : TypeId} (h : w.heap[g]? = some (.cells #[x, y, z] t (0, 0))) : w.cell? ⟨g, 2, none⟩ = some z := by simp [World.cell?, h]
theorem threef {w : World} {g : Nat} {x y z : Value} {t : TypeId} (h : w.heap[g]? = some (.cells #[x, y, z] t (0, 0))) (o : Nat) : w.frozen? ⟨g, o, none⟩ = false := by simp [World.frozen?, h]
theorem three_set {w : World} {g o : Nat} {c : Array Value} {t : TypeId} (h : w.heap[g]? = some (.cells c t (0, 0))) (u : Value) : (w.setCell ⟨g, o, none⟩ u).heap[g]? = some (.cells (c.setIfInBounds o u) t (0, 0)) := by
  simp [World.setCell, Array.getElem?_modify, h]

theorem and255 (y : Int) : 0 ≤ bits .and .i64 y 255 ∧ bits .and .i64 y 255 ≤ 255 := by
  have hle : (BitVec.ofInt 64 y &&& BitVec.ofInt 64 255).toNat ≤ 255 := by
    rw [BitVec.toNat_and]
    exact Nat.le_trans Nat.and_le_right (by decide)
  have e : bits .and .i64 y 255 = IntKind.i64.wrap ((BitVec.ofInt 64 y &&& BitVec.ofInt 64 255).toNat : Int) := rfl
  rw [e, Get.wraps_i64 _ (by omega) (by omega)]
  omega

theorem only_drewN {g : Nat} {w w' : World} (h : Only g w w') (n : Nat) : Only g w (w'.drewN n) := ⟨h.os, h.tape, h.output, h.size, h.block⟩
theorem only_trans {g : Nat} {w w1 w2 : World} (h : Only g w w1) (k : Only g w1 w2) : Only g w w2 :=
  ⟨k.os.trans h.os, k.tape.trans h.tape, k.output.trans h.output, Nat.le_trans h.size k.size, fun q hq hne => (k.block q (Nat.lt_of_lt_of_le hq h.size) hne).trans (h.block q hq hne)⟩
theorem rd_drewN {w : World} {a : Option Addr} {b off : Nat} {l : List Int} (h : Rd w a b off l) (n : Nat) : Rd (w.drewN n) a b off l := ⟨h.head, h.cell, h.size, h.byt⟩

set_option maxHeartbeats 2000000 in
theorem byte_any (g : Nat) (a : Option Addr) (b off cap : Nat) (l : List Int) (w : World) (h : Cur w g a b off cap l) :
    Calls Try.prog 75 #[.pointer (some ⟨g, 0, none⟩)] w fun e w' => ∃ x : Int, e = .returned (.int .i64 x) ∧ 0 ≤ x ∧ x ≤ 255 ∧ Cur w' g a b off cap l ∧ Only g w w' := by
  obtain ⟨⟨i, hh, hblk, hi0, hil⟩, hrd, hne⟩ := h
  have c0 := three0 hblk
  have c1 := three1 hblk
  have c2 := three2 hblk
  have f1 := threef hblk 1
  have f2 := threef hblk 2
  have hs := hrd.size
  by_cases hlt : i < (l.length : Int)
  · obtain ⟨k, rfl⟩ : ∃ k : Nat, i = k := ⟨i.toNat, by omega⟩
    have hkl : k < l.length := by omega
    have hb := hrd.head (by omega)
    subst hb
    have g0 := hrd.cell k hkl
    have hbg : b ≠ g := by omega
    go_enter Try.func75, Try.ntmps75
    go_wp2
    generalize wrap64 (wrap64 (hh * 6364136223846793005) + 1442695040888963407) = h1
    have hb1 := three_set (o := 2) hblk (.int .i64 h1)
    simp at hb1
    have ho1 : Only g w (w.setCell ⟨g, 2, none⟩ (.int .i64 h1)) := (Only.refl g w).set _
    have hrd1 := rd_only ho1 hrd hne
    clear hblk c0 c1 c2 f1 f2 g0 hrd
    generalize w.setCell ⟨g, 2, none⟩ (.int .i64 h1) = w1 at *
    have c0 := three0 hb1
    have c1 := three1 hb1
    have c2 := three2 hb1
    have f1 := threef hb1 1
    have g0 := hrd1.cell k hkl
    go_quiet (fail)
    go_wp2
    go_quiet (fail)
    go_wp2
    go_quiet (fail)
    go_wp2
    go_ret
    exact ⟨_, rfl, (and255 _).1, (and255 _).2, ⟨⟨(k : Int) + 1, h1, by simpa using three_set (w := w1.drewN _) (o := 1) hb1 (.int .i64 ((k : Int) + 1)), by omega, by omega⟩, rd_only ((Only.refl g (w1.drewN _)).set _) (rd_drewN hrd1 _) hne, hne⟩, (only_drewN ho1 _).set _⟩
  · go_enter Try.func75, Try.ntmps75
    go_wp2
    generalize wrap64 (wrap64 (hh * 6364136223846793005) + 1442695040888963407) = h1
    have hb1 := three_set (o := 2) hblk (.int .i64 h1)
    simp at hb1
    have ho1 : Only g w (w.setCell ⟨g, 2, none⟩ (.int .i64 h1)) := (Only.refl g w).set _
    have hrd1 := rd_only ho1 hrd hne
    clear hblk c0 c1 c2 f1 f2 hrd
    generalize w.setCell ⟨g, 2, none⟩ (.int .i64 h1) = w1 at *
    have c0 := three0 hb1
    have c1 := three1 hb1
    have c2 := three2 hb1
    go_quiet (fail)
    go_wp2
    go_quiet (fail)
    go_wp2
    go_ret
    exact ⟨_, rfl, (and255 _).1, (and255 _).2, ⟨⟨i, h1, hb1, by omega, by omega⟩, rd_drewN (rd_drewN hrd1 _) _, hne⟩, only_drewN (only_drewN ho1 _) _⟩

/-- A number below n, n above 0. -/
theorem below_any (g : Nat) (a : Option Addr) (b off cap : Nat) (l : List Int) (n : Int) (w : World) (h : Cur w g a b off cap l) (hn : 1 ≤ n) (hn6 : n ≤ 4294967296) :
    Calls Try.prog 49 #[.pointer (some ⟨g, 0, none⟩), .int .i64 n] w fun e w' => ∃ x : Int, e = .returned (.int .i64 x) ∧ 0 ≤ x ∧ x < n ∧ Cur w' g a b off cap l ∧ Only g w w' := by
  have h0 : ¬ n ≤ 0 := by omega
  by_cases hs : n ≤ 256
  · go_enter Try.func49, Try.ntmps49
    go_wp2_with (go_at_call 75; refine (byte_any _ _ _ _ _ _ _ h).mono ?_; rintro e w1 ⟨x, rfl, x0, x1, hc1, ho1⟩)
    go_ret
    exact ⟨_, rfl, Int.emod_nonneg _ (by omega), Int.emod_lt_of_pos _ (by omega), hc1, ho1⟩
  · go_enter Try.func49, Try.ntmps49
    go_wp2_with (go_at_call 75; refine (byte_any _ _ _ _ _ _ _ h).mono ?_; rintro e w1 ⟨x, rfl, x0, x1, hc1, ho1⟩)
    go_wp2_with (go_at_call 75; refine (byte_any _ _ _ _ _ _ _ hc1).mono ?_; rintro e w2 ⟨y, rfl, y0, y1, hc2, ho2⟩)
    go_wp2_with (go_at_call 75; refine (byte_any _ _ _ _ _ _ _ hc2).mono ?_; rintro e w3 ⟨z, rfl, z0, z1, hc3, ho3⟩)
    go_wp2_with (go_at_call 75; refine (byte_any _ _ _ _ _ _ _ hc3).mono ?_; rintro e w4 ⟨v, rfl, v0, v1, hc4, ho4⟩)
    go_ret
    exact ⟨_, rfl, Int.emod_nonneg _ (by omega), Int.emod_lt_of_pos _ (by omega), hc4, only_trans (only_trans (only_trans ho1 ho2) ho3) ho4⟩

theorem powI (x : Int) (w : World) (h0 : 0 ≤ x) (h6 : x ≤ 6) :
    Calls Try.prog 74 #[.int .i64 x] w fun e w' => e = .returned (.int .i64 (pw x.toNat)) ∧ w' = w := by
  obtain ⟨k, rfl⟩ : ∃ k : Nat, x = k := ⟨x.toNat, by omega⟩
  simpa using pow_any k (by omega) w

end Go.Proofs.Ytbplpfcplpoeiaa.Dr

namespace Go.Proofs.Ytbplpfcplpoeiaa.Dr
open Go.RowKit
open Num Rw Mk Un Put

theorem cur_new {w : World} {a : Option Addr} {b off cap : Nat} {l : List Int} (h : Rd w a b off l) (x : Int) : Cur (w.alloc (.cells #[.slice a l.length cap, .int .i64 0, .int .i64 x] 83)) w.heap.size a b off cap l :=
  ⟨⟨0, x, heap_alloc_new _ _, Int.le_refl _, by omega⟩, h.below ((Below.refl _ _).alloc (Nat.le_refl _) _), by
    rcases Nat.eq_zero_or_pos l.length with h0 | h0
    · exact .inl h0
    · have := World.block_lt_of_cell? _ _ (h.cell 0 h0); simp at this; exact .inr (by omega)⟩

/-- Where the bytes lie that are read. -/
theorem rd_lt {w : World} {a : Option Addr} {b off : Nat} {l : List Int} (h : Rd w a b off l) : l.length = 0 ∨ b < w.heap.size := by
  rcases Nat.eq_zero_or_pos l.length with h0 | h0
  · exact .inl h0
  · exact .inr (World.block_lt_of_cell? _ _ (h.cell 0 h0))
theorem cur_lt {w : World} {g : Nat} {a : Option Addr} {b off cap : Nat} {l : List Int} (h : Cur w g a b off cap l) : g < w.heap.size := by
  obtain ⟨i, x, hb, _⟩ := h.blk
  exact lt_of_block hb

/-- A cursor is kept where the blocks below B are, and it and its bytes lie below B. -/
theorem cur_keep {w w' : World} {B g : Nat} {a : Option Addr} {b off cap : Nat} {l : List Int} (h : Cur w g a b off cap l) (hk : ∀ k, k < B → w'.heap[k]? = w.heap[k]?) (hg : g < B) (hb : l.length = 0 ∨ b < B) : Cur w' g a b off cap l := by
  obtain ⟨⟨i, x, hblk, h1, h2⟩, hrd, hne⟩ := h
  refine ⟨⟨i, x, (hk g hg).trans hblk, h1, h2⟩, ⟨hrd.head, fun j hj => ?_, hrd.size, hrd.byt⟩, hne⟩
  have hb' : b < B := by omega
  exact (World.cell?_of_block (w := w) (hk b hb')).trans (hrd.cell j hj)

theorem hasI_only {w w' : World} {B g : Nat} {v : Value} {l : List Int} (h : HasI w B v l) (ho : Only g w w') (hg : g < B) : HasI w' B v l := by
  refine ⟨h.1.kept ho ?_, h.2⟩
  cases hv : v.ownBlock with
  | none => exact .inl rfl
  | some k => exact .inr (fun e => by have := (h.1.lt k hv).1; injection e with e; omega)

theorem only_alloc {g : Nat} {w w' : World} (h : Only g w w') (o : Obj) : Only g w (w'.alloc o) :=
  ⟨h.os, h.tape, h.output, by have := h.size; simp; omega, fun k hk hne => (Below.heap_alloc w' o k (Nat.lt_of_lt_of_le hk h.size)).trans (h.block k hk hne)⟩
theorem only_grown {g : Nat} {w w1 w2 : World} {row : Option Nat} (h : Only g w w1) (hg : w1.grownBy w2 row) (hr : ∀ k, row = some k → w.heap.size ≤ k) : Only g w w2 :=
  ⟨hg.os.trans h.os, hg.tape.trans h.tape, hg.output.trans h.output, Nat.le_trans h.size hg.size, fun k hk hne => (hg.block k (Nat.lt_of_lt_of_le hk h.size) (fun e => by have := hr k e.symm; omega)).trans (h.block k hk hne)⟩
theorem hasI_app {wr w1 : World} {B : Nat} {v v' : Value} {l : List Int} {x : Int} (_h : HasI wr B v l)
    (h' : w1.ownsRow B 5 1 v' (l.length + 1) (l.map (Value.int .u8) ++ [.int .u8 x])) (hn : v' = .slice none 0 0 ↔ v = .slice none 0 0 ∧ 1 = 0) : HasI w1 B v' (l ++ [x]) := by
  refine ⟨by simpa using h', fun e => ?_⟩
  have := hn.1 e; simp at this

set_option maxHeartbeats 2000000 in
theorem new_any (a : Option Addr) (b off cap : Nat) (l : List Int) (w : World) (h : Rd w a b off l) :
    Calls Try.prog 46 #[.slice a l.length cap] w fun e w' => e = .returned (.pointer (some ⟨w.heap.size, 0, none⟩)) ∧ Cur w' w.heap.size a b off cap l ∧ Below w.heap.size w w' := by
  have hs := h.size
  have hy := h.byt
  have hh := h.head
  have hc := h.cell
  go_enter Try.func46, Try.ntmps46
  go_wp2
  go_loop [3, 4] (fun t i => ∃ k : Nat, k ≤ l.length ∧ i = .int .i64 k ∧ ∃ x : Int, t = .int .i64 x) (fun _ i => l.length - (intOf i).toNat)
  case atStart => exact ⟨0, Nat.zero_le _, rfl, _, rfl⟩
  case round =>
    obtain ⟨k, hk, rfl, x, rfl⟩ := hrel
    by_cases hlt : k < l.length
    · have hkz : (k : Int) < (l.length : Int) := by omega
      by_cases h4 : (k : Int) < 4000
      · obtain rfl := hh (by omega)
        have g0 := hc k hlt
        clear hc hy hh
        go_wp2
        go_round
        case rel => exact ⟨k + 1, by omega, by go_num, _, rfl⟩
        case measure => simp [intOf]; omega
      · clear hc hy hh
        go_wp2
        go_ret
        exact ⟨rfl, cur_new h _, (Below.refl _ _).alloc (Nat.le_refl _) _⟩
    · have hkz : ¬ (k : Int) < (l.length : Int) := by omega
      clear hc hy hh
      go_wp2
      go_ret
      exact ⟨rfl, cur_new h _, (Below.refl _ _).alloc (Nat.le_refl _) _⟩


theorem byt_zeros (n : Nat) : Byt (List.replicate n 0) := fun x hx => by have := List.eq_of_mem_replicate hx; omega
theorem mine_made (w : World) (n : Nat) (h : n ≤ 4194304) : Mine (w.alloc (.cells (madeCells #[.int .u8 0] n) 5)) w.heap.size (List.replicate n 0) := by
  refine ⟨?_, by simpa using h, byt_zeros n⟩
  rw [List.length_replicate]
  refine (World.rowIs_made w (.int .u8 0) n 5).congr fun i hi => ?_
  simp [List.getD, hi]

theorem ret3 {gb n c m : Nat} {x y : Int} (h : n = m) : Ending.returned (.tuple #[.slice (some ⟨gb, 0, none⟩) n c, .int .i64 x, .int .i64 y]) = .returned (.tuple #[.slice (some ⟨gb, 0, none⟩) m c, .int .i64 x, .int .i64 y]) := by rw [h]

end Go.Proofs.Ytbplpfcplpoeiaa.Dr

namespace Go.Proofs.Ytbplpfcplpoeiaa.Tg
open Go Go.RowKit
open Num Rw Mk Un Put Pl App Pf

/-- A packet's cells. -/
theorem wt_set {w : World} {a : Option Addr} {g : Nat} {l : List Int} {ad : Addr} {u : Value} (h : Wt w a g l) (hne : ¬ ad.block = g) : Wt (w.setCell ad u) a g l :=
  ⟨h.head, fun i hi => (World.cell?_setCell_other _ _ _ _ (by intro q; apply hne; rw [q])).trans (h.cell i hi), fun i hi => by simpa using h.free i hi, h.size, h.byt⟩

/-- What 'Tagged' answers. -/
def Yes (w : World) (d s t y : Int) (l : List Int) (e : Ending) (w' : World) : Prop :=
  ∃ a g cap, e = .returned (.tuple #[.agg #[.int .i64 d, .int .i64 s, .int .i64 t, .int .i64 y, .slice a l.length cap], .bool true]) ∧ Wt w' a g l ∧ w.heap.size ≤ g ∧ (a = none → cap = 0) ∧ Below w.heap.size w w'
def No (w : World) (e : Ending) (w' : World) : Prop :=
  e = .returned (.tuple #[.agg #[.int .i64 0, .int .i64 0, .int .i64 0, .int .i64 0, .slice none 0 0], .bool false]) ∧ Below w.heap.size w w'

end Go.Proofs.Ytbplpfcplpoeiaa.Tg

namespace Go.Proofs.Ytbplpfcplpoeiaa.Dr
open Go Go.RowKit
open Num Rw Mk Un Put Pl Pf

theorem cur_set {w : World} {B g p o : Nat} {a : Option Addr} {b off cap : Nat} {l : List Int} {u : Value} (h : Cur w g a b off cap l) (hp : B ≤ p) (hg : g < B) (hb : l.length = 0 ∨ b < B) : Cur (w.setCell ⟨p, o, none⟩ u) g a b off cap l :=
  cur_keep (B := B) h (fun k hk => Below.heap_setCell w ⟨p, o, none⟩ u k (fun e => by simp at e; omega)) hg hb
theorem cur_alloc {w : World} {g : Nat} {a : Option Addr} {b off cap : Nat} {l : List Int} (h : Cur w g a b off cap l) (o : Obj) : Cur (w.alloc o) g a b off cap l :=
  cur_keep (B := w.heap.size) h (fun k hk => Below.heap_alloc w o k hk) (cur_lt h) (rd_lt h.rd)
theorem only_set {g p o : Nat} {w w1 : World} {u : Value} (h : Only g w w1) (hp : w.heap.size ≤ p) : Only g w (w1.setCell ⟨p, o, none⟩ u) :=
  ⟨h.os, h.tape, h.output, by simpa using h.size, fun k hk hne => (Below.heap_setCell w1 _ u k (fun e => by simp at e; omega)).trans (h.block k hk hne)⟩
theorem k_of {g k : Nat} {w w' : World} (h : Only g w w') (hk : k < w.heap.size) (hne : k ≠ g) : w'.heap[k]? = w.heap[k]? := h.block k hk (by simpa using hne)
theorem wt_of {g : Nat} {w w' : World} {a : Option Addr} {b : Nat} {l : List Int} (h : Only g w w') (hr : Wt w a b l) (hne : b ≠ g) : Wt w' a b l := wt_only h hr (.inr hne)

set_option maxHeartbeats 1000000 in
theorem num6_any (g : Nat) (a : Option Addr) (b off cap : Nat) (l : List Int) (w : World) (h : Cur w g a b off cap l) :
    Calls Try.prog 58 #[.pointer (some ⟨g, 0, none⟩)] w fun e w' => ∃ x : Int, e = .returned (.int .i64 x) ∧ 0 ≤ x ∧ x ≤ 281474976710655 ∧ Cur w' g a b off cap l ∧ Only g w w' := by
  go_enter Try.func58, Try.ntmps58
  go_wp2_with (first | (go_at_call 49; clear tok1) | (go_at_call 49; refine (below_any _ _ _ _ _ _ _ _ h (by omega) (by omega)).mono ?_; rintro e w1 ⟨x, rfl, x0, x1, hC, hO⟩; clear h))
  · go_wp2_with (go_at_call 49; refine (below_any _ _ _ _ _ _ _ _ hC (by omega) (by omega)).mono ?_; rintro e w2 ⟨y, rfl, y0, y1, hC2, hO2⟩)
    go_ret
    exact ⟨_, rfl, by omega, by omega, hC2, only_trans hO hO2⟩
  · go_ret
    exact ⟨_, rfl, by omega, by omega, hC, hO⟩
  · go_wp2_with (go_at_call 49; refine (below_any _ _ _ _ _ _ _ _ hC (by omega) (by omega)).mono ?_; rintro e w2 ⟨y, rfl, y0, y1, hC2, hO2⟩)
    go_ret
    exact ⟨_, rfl, by omega, by omega, hC2, only_trans hO hO2⟩


theorem set4 {w : World} {g : Nat} {v0 v1 v2 v3 v4 u : Value} {t : TypeId} (h : w.heap[g]? = some (.cells #[v0, v1, v2, v3, v4] t (0, 0))) : (w.setCell ⟨g, 4, none⟩ u).heap[g]? = some (.cells #[v0, v1, v2, v3, u] t (0, 0)) := by simpa using three_set (o := 4) h u
theorem set3 {w : World} {g : Nat} {v0 v1 v2 v3 v4 u : Value} {t : TypeId} (h : w.heap[g]? = some (.cells #[v0, v1, v2, v3, v4] t (0, 0))) : (w.setCell ⟨g, 3, none⟩ u).heap[g]? = some (.cells #[v0, v1, v2, u, v4] t (0, 0)) := by simpa using three_set (o := 3) h u
theorem set2 {w : World} {g : Nat} {v0 v1 v2 v3 v4 u : Value} {t : TypeId} (h : w.heap[g]? = some (.cells #[v0, v1, v2, v3, v4] t (0, 0))) : (w.setCell ⟨g, 2, none⟩ u).heap[g]? = some (.cells #[v0, v1, u, v3, v4] t (0, 0)) := by simpa using three_set (o := 2) h u
theorem set1 {w : World} {g : Nat} {v0 v1 v2 v3 v4 u : Value} {t : TypeId} (h : w.heap[g]? = some (.cells #[v0, v1, v2, v3, v4] t (0, 0))) : (w.setCell ⟨g, 1, none⟩ u).heap[g]? = some (.cells #[v0, u, v2, v3, v4] t (0, 0)) := by simpa using three_set (o := 1) h u
theorem set0 {w : World} {g : Nat} {v0 v1 v2 v3 v4 u : Value} {t : TypeId} (h : w.heap[g]? = some (.cells #[v0, v1, v2, v3, v4] t (0, 0))) : (w.setCell ⟨g, 0, none⟩ u).heap[g]? = some (.cells #[u, v1, v2, v3, v4] t (0, 0)) := by simpa using three_set (o := 0) h u
theorem far {w : World} {g : Nat} {ad : Addr} {u : Value} (hne : ¬ ad.block = g) : (w.setCell ad u).heap[g]? = w.heap[g]? := Below.heap_setCell w ad u g (fun e => hne e.symm)
theorem wset {w : World} {a : Option Addr} {g : Nat} {l : List Int} {ad : Addr} {u : Value} (h : Wt w a g l) (hne : l.length = 0 ∨ ¬ ad.block = g) : Wt (w.setCell ad u) a g l := by
  rcases hne with h0 | h0
  · exact ⟨h.head, fun i hi => by omega, fun i hi => by omega, h.size, h.byt⟩
  · exact Tg.wt_set h h0
theorem wt_eq {w : World} {g g' : Nat} {l : List Int} (e : g = g') (h : Wt w (some ⟨g, 0, none⟩) g l) : Wt w (some ⟨g', 0, none⟩) g' l := by subst e; exact h
theorem size_set (w : World) (ad : Addr) (u : Value) : (w.setCell ad u).heap.size = w.heap.size := by simp

theorem two_at {w : World} {g : Nat} {x y : Int} {t : TypeId} (h : w.heap[g]? = some (.cells #[.int .i64 x, .int .i64 y] t (0, 0))) (i : Nat) (hi : i < 2) : ∃ V : Int, w.cell? ⟨g, i, none⟩ = some (.int .i64 V) ∧ (V = x ∨ V = y) := by
  match i, hi with
  | 0, _ => exact ⟨x, by simp [World.cell?, h], .inl rfl⟩
  | 1, _ => exact ⟨y, by simp [World.cell?, h], .inr rfl⟩

/-- The numbers of a drawn packet are right. -/
def Bnd (d s t : Int) : Prop := (0 ≤ d ∧ d ≤ 281474976710655) ∧ (0 ≤ s ∧ s ≤ 281474976710655) ∧ -1 ≤ t ∧ t ≤ 4094
/-- What a draw of a packet leaves. -/
def Drawn (w : World) (g : Nat) (a : Option Addr) (b off cap : Nat) (l : List Int) (e : Ending) (w' : World) : Prop :=
  ∃ (d s t y : Int) (gb cap' : Nat) (q : List Int), e = .returned (.agg #[.int .i64 d, .int .i64 s, .int .i64 t, .int .i64 y, .slice (some ⟨gb, 0, none⟩) q.length cap']) ∧ Bnd d s t ∧ Wt w' (some ⟨gb, 0, none⟩) gb q ∧ w.heap.size ≤ gb ∧ Cur w' g a b off cap l ∧ Only g w w'

end Go.Proofs.Ytbplpfcplpoeiaa.Dr

namespace Go.Proofs.Ytbplpfcplpoeiaa.Dr
open Go Go.RowKit
open Num Rw Mk Un Put
set_option linter.unusedSimpArgs false
set_option linter.unusedVariables false

set_option maxHeartbeats 2000000 in
/-- A number of any kind. -/
theorem raw_any (g : Nat) (a : Option Addr) (b off cap : Nat) (l : List Int) (w : World) (h : Cur w g a b off cap l) :
    Calls Try.prog 60 #[.pointer (some ⟨g, 0, none⟩)] w fun e w' => ∃ x : Int, e = .returned (.int .i64 x) ∧ Cur w' g a b off cap l ∧ Only g w w' := by
  have hC := h
  have hO := Only.refl g w
  clear h
  go_enter Try.func60, Try.ntmps60
  go_wp2_with (first | (go_at_call 49; refine (below_any _ _ _ _ _ _ _ _ hC (by omega) (by omega)).mono ?_; rintro e w1 ⟨x, rfl, x0, x1, hC1, hO1⟩; replace hO := only_trans hO hO1; replace hC := hC1; clear hC1 hO1) | (go_at_call 74; refine (powI _ _ (by omega) (by omega)).mono ?_; rintro e w1 ⟨rfl, rfl⟩))
  all_goals
    go_ret
    exact ⟨_, rfl, hC, hO⟩


set_option maxHeartbeats 4000000 in
/-- What DrawMatchBits draws. -/
theorem bitsD_any (a : Option Addr) (b off cap : Nat) (l : List Int) (w : World) (h : Rd w a b off l) :
    Calls Try.prog 22 #[.slice a l.length cap] w fun e w' => ∃ f v n : Int, e = .returned (.tuple #[.int .i64 f, .int .i64 v, .int .i64 n]) ∧ Below w.heap.size w w' := by
  have B := Below.refl w.heap.size w
  go_enter Try.func22, Try.ntmps22
  go_wp2_with (go_at_call 46; refine (new_any _ _ _ _ _ _ h).mono ?_; rintro e w1 ⟨rfl, hC, hb⟩; replace B := next B hb; clear h hb; have t0 : True := trivial)
  go_wp2_with (first
    | (go_at_call 49; clear t0; refine (below_any _ _ _ _ _ _ _ _ hC (by omega) (by omega)).mono ?_; rintro e w2 ⟨x, rfl, x0, x1, hC1, hO1⟩; replace B := hO1.below B B.size (Nat.le_refl _); replace hC := hC1; clear hC1 hO1; have t1 : True := trivial)
    | (go_at_call 58; clear t1; refine (num6_any _ _ _ _ _ _ _ hC).mono ?_; rintro e w3 ⟨y, rfl, y0, y1, hC1, hO1⟩; replace B := hO1.below B B.size (Nat.le_refl _); replace hC := hC1; clear hC1 hO1; have t2 : True := trivial; obtain ⟨F, rfl⟩ : ∃ F : Nat, x = F := ⟨x.toNat, by omega⟩)
    | (go_at_call 59; clear t2; refine (Mu.fullS_any _ (by omega) _).mono ?_; rintro e w4 ⟨rfl, hb⟩; replace hC := cur_keep hC (fun k hk => hb.block k hk) (cur_lt hC) (rd_lt hC.rd); replace B := next B hb; clear hb; have t3 : True := trivial)
    | (go_at_call 52; clear t3; refine (Hf.specBits_any _ _).mono ?_; rintro e w5 ⟨rfl, hb⟩; replace hC := cur_keep hC (fun k hk => hb.block k hk) (cur_lt hC) (rd_lt hC.rd); replace B := next B hb; clear hb; have hfb : 0 ≤ Hf.fb F ∧ Hf.fb F ≤ 48 := (by have := Hg.fb_val F; omega); have t4 : True := trivial)
    | (go_at_call 49; clear t4; refine (below_any _ _ _ _ _ _ _ _ hC (by omega) (by omega)).mono ?_; rintro e w6 ⟨z, rfl, z0, z1, hC1, hO1⟩; replace B := hO1.below B B.size (Nat.le_refl _); replace hC := hC1; clear hC1 hO1; have t5 : True := trivial)
    | (go_at_call 49; clear t5; refine (below_any _ _ _ _ _ _ _ _ hC (by omega) (by omega)).mono ?_; rintro e w7 ⟨q, rfl, q0, q1, hC1, hO1⟩; replace B := hO1.below B B.size (Nat.le_refl _); replace hC := hC1; clear hC1 hO1; have t6 : True := trivial))
  all_goals go_wp2_with (first
    | (go_at_call 49; refine (below_any _ _ _ _ _ _ _ _ hC (by omega) (by omega)).mono ?_; rintro e w8 ⟨r, rfl, r0, r1, hC1, hO1⟩; replace B := hO1.below B B.size (Nat.le_refl _); replace hC := hC1; clear hC1 hO1)
    | (go_at_call 60; refine (raw_any _ _ _ _ _ _ _ hC).mono ?_; rintro e w8 ⟨r, rfl, hC1, hO1⟩; replace B := hO1.below B B.size (Nat.le_refl _); replace hC := hC1; clear hC1 hO1))
  all_goals
    refine bodyPost_ret (by simp [results, Try.results22, go_sem]; exact ⟨rfl, rfl, rfl⟩) rfl ⟨_, _, _, rfl, B⟩

end Go.Proofs.Ytbplpfcplpoeiaa.Dr

namespace Go.Proofs.Ytbplpfcplpoeiaa.Lp
open Go Go.RowKit
open Num Pl Hr Hf Hg Pa Pm Po Rg Bw Bx Mo Mv Lj
set_option linter.unusedVariables false

def Both (f v n : Int) (R : Bool) (LV LM : List Int) : Prop :=
  (∀ w, Calls Try.prog 23 #[.int .i64 f, .int .i64 v, .int .i64 n] w (ResMB w R LV LM)) ∧ (∀ w, Calls Try.prog 24 #[.int .i64 f, .int .i64 v, .int .i64 n] w (ResMB w R LV LM))

theorem both {F N u : Nat} (hf : F < 8) (hx : fits F (u : Int) = true) (hN : N ≤ fbN F) : Both F u N true (VB F u N) (MB F N) := by
  refine ⟨fun w => ?_, fun w => ?_⟩
  · have := bits_yes F N u w hf hx hN
    rw [Li.and_hi F N u hx hN] at this
    exact this
  · exact Mw.bitsS_yes F N u w hf hx hN
theorem bits_cases (f v n : Int) :
    (∃ LV LM, Both f v n false LV LM) ∨
    (n = 0 ∧ ∃ LV LM ZV ZM, Both f v n true LV LM ∧ (∀ w, Calls Try.prog 26 #[] w (ResM w ZV ZM)) ∧ CMM 25 LV LM ZV ZM (Bo true)) ∨
    ((1 ≤ n ∧ n ≤ 48) ∧ ∃ LV LM KV KM, Both f v n true LV LM ∧ Both f v (n - 1) true KV KM ∧ CMM 16 KV KM LV LM (Bo true) ∧ CMM 16 LV LM KV KM (Bo false) ∧ CM 21 LV LM (Nu n)) := by
  cases h : bitsB f v n with
  | false => exact .inl ⟨[], [], fun w => bits_no f v n w h, fun w => Mw.bitsS_no f v n w h⟩
  | true =>
    unfold bitsB at h
    simp only [Bool.and_eq_true, decide_eq_true_eq] at h
    obtain ⟨hx, hn0, hn1⟩ := h
    have hf : 0 ≤ f ∧ f < 8 := by
      by_cases hf : f < 0 ∨ 8 ≤ f
      · rw [fits_out hf] at hx; cases hx
      · omega
    obtain ⟨F, rfl⟩ : ∃ F : Nat, f = F := ⟨f.toNat, by omega⟩
    have hv := fits_lt hx
    obtain ⟨u, rfl⟩ : ∃ u : Nat, v = u := ⟨v.toNat, by omega⟩
    have hu := fits_pow hx
    rw [Int.toNat_natCast] at hu
    rw [fbN_eq] at hn1
    have h48 := fbN_le F
    have hF : F < 8 := by omega
    by_cases hz : n = 0
    · subst hz
      exact .inr (.inl ⟨rfl, _, _, _, _, both (N := 0) hF hx (Nat.zero_le _), fun w => Mo.all_any w, same0 hF hu⟩)
    · obtain ⟨N, rfl⟩ : ∃ N : Nat, n = ((N + 1 : Nat) : Int) := ⟨(n - 1).toNat, by omega⟩
      have hN : N + 1 ≤ fbN F := by omega
      have e : ((N + 1 : Nat) : Int) - 1 = (N : Int) := by omega
      rw [e]
      exact .inr (.inr ⟨by omega, _, _, _, _, both (N := N + 1) hF hx hN, both (N := N) hF hx (by omega), cov_yes hF hN hu, cov_no hF hN hu, asked hF hN hu⟩)

end Go.Proofs.Ytbplpfcplpoeiaa.Lp

namespace Go.Proofs.Ytbplpfcplpoeiaa.Lo
open Go Go.RowKit
open Num Pl Hr Hh Pm Po Pq

theorem call0 {md : Region.Mode} {ops : Array Oper} {Q : Exit → Act → World → Prop} {S : World → Prop} {fuel : Nat} {listed : Array Bool} {a : Act} {w : World} {i : Nat} {o : Oper} {rs : List Nat} (hi : ops[i]? = some o) (hw : Region.wanted o (yielded ops a.tmps) = true)
    (f : FuncId) (hop : o.op = Op.call { callee := Callee.value (Operand.func f), args := #[], argTypes := #[] }) (d : Tmp) (hd : o.dst = some d)
    (he : ∀ w, (callFunc f #[]).run Try.prog w = .ok (.enter f #[]) w) {R : Ending → World → Prop} (hc : Calls Try.prog f #[] w R)
    (hk : ∀ e w', R e w' → ∃ v, e = .returned v ∧ S w' ∧ (S w' → wpAnyH Try.prog md ops Q S fuel (listed.setIfInBounds i true) (a.put (some d) v) w'))
    (hs : AllReadyH Try.prog md ops Q S fuel listed a w rs) : AllReadyH Try.prog md ops Q S fuel listed a w (i :: rs) :=
  AllReadyH.cons hi (fun K hK => by
    rw [if_pos hw]
    unfold Oper.wp
    have hf : a.eval (.func f) = .func (.func f) #[] #[] := rfl
    simp [execOp, hop, resolve, invoke, hf, Deferred.ofValue, he w]
    refine hc.mono ?_
    intro e w' hr
    obtain ⟨v, rfl, h1, h2⟩ := hk e w' hr
    exact hK.out _ _ h1 (fun hs' => by rw [hd]; exact h2 hs')) hs

end Go.Proofs.Ytbplpfcplpoeiaa.Lo

