/-
  Contracts of the specification's MatchOf.
-/
import Derived.Test.YtbplpfcplpoeiaaMm
import Derived.Test.YtbplpfcplpoeiaaMq
namespace Go.Proofs.Ytbplpfcplpoeiaa.Mu
open Go Go.RowKit
open Num Pl Hr Hh Hf Hg Pa Pm Po Pq Mi Bw Mo Mp Mj Mm
set_option linter.unusedSimpArgs false
set_option linter.unusedVariables false

theorem cell_set0 {w : World} {a : Addr} {g i : Nat} {x : Value} {v : Option Value} (h : w.cell? a = v) (hne : a.block ≠ g) : (w.setCell ⟨g, i, none⟩ x).cell? a = v := by
  rw [World.cell?_setCell_other _ _ _ _ (by intro q; exact hne (by rw [← q]))]
  exact h
theorem quo8 (f : Nat) (h : f < 8) : fb f / 8 = (((fbN f) / 8 : Nat) : Int) := by
  rw [fbN_eq]; omega
theorem pw_full (f : Nat) (h : f < 8) : (pw (fbN f / 8) : Int) - 1 = fullI f := by
  rcases Hs.k8 h with rfl | rfl | rfl | rfl | rfl | rfl | rfl | rfl <;> decide

set_option maxHeartbeats 1000000 in
theorem fullS_any (f : Nat) (hf : f < 8) (w : World) : Calls Try.prog 59 #[.int .i64 f] w fun e w' => e = .returned (.int .i64 (fullI f)) ∧ Below w.heap.size w w' := by
  rcases Hs.k8 hf with rfl | rfl | rfl | rfl | rfl | rfl | rfl | rfl
  · have hb := specBits_any 0 w
    rw [show fb 0 = 8 from by decide] at hb
    have hp := fun w => pow_any 1 (by omega) w
    have e : fullI 0 = (pw 1 : Int) - 1 := by decide
    have hv : pw 1 = 256 := by decide
    rw [e, hv]
    rw [hv] at hp
    clear e hv
    go_enter Try.func59, Try.ntmps59
    go_wp2_with (first | (go_at_call 52; refine hb.mono ?_; rintro e wa ⟨rfl, hba⟩) | (go_at_call 74; refine (hp _).mono ?_; rintro e wq ⟨rfl, hwq⟩; replace hwq := hwq.symm; subst hwq))
    go_ret
    exact ⟨rfl, hba⟩
  · have hb := specBits_any 1 w
    rw [show fb 1 = 48 from by decide] at hb
    have hp := fun w => pow_any 6 (by omega) w
    have e : fullI 1 = (pw 6 : Int) - 1 := by decide
    have hv : pw 6 = 281474976710656 := by decide
    rw [e, hv]
    rw [hv] at hp
    clear e hv
    go_enter Try.func59, Try.ntmps59
    go_wp2_with (first | (go_at_call 52; refine hb.mono ?_; rintro e wa ⟨rfl, hba⟩) | (go_at_call 74; refine (hp _).mono ?_; rintro e wq ⟨rfl, hwq⟩; replace hwq := hwq.symm; subst hwq))
    go_ret
    exact ⟨rfl, hba⟩
  · have hb := specBits_any 2 w
    rw [show fb 2 = 48 from by decide] at hb
    have hp := fun w => pow_any 6 (by omega) w
    have e : fullI 2 = (pw 6 : Int) - 1 := by decide
    have hv : pw 6 = 281474976710656 := by decide
    rw [e, hv]
    rw [hv] at hp
    clear e hv
    go_enter Try.func59, Try.ntmps59
    go_wp2_with (first | (go_at_call 52; refine hb.mono ?_; rintro e wa ⟨rfl, hba⟩) | (go_at_call 74; refine (hp _).mono ?_; rintro e wq ⟨rfl, hwq⟩; replace hwq := hwq.symm; subst hwq))
    go_ret
    exact ⟨rfl, hba⟩
  · have hb := specBits_any 3 w
    rw [show fb 3 = 16 from by decide] at hb
    have hp := fun w => pow_any 2 (by omega) w
    have e : fullI 3 = (pw 2 : Int) - 1 := by decide
    have hv : pw 2 = 65536 := by decide
    rw [e, hv]
    rw [hv] at hp
    clear e hv
    go_enter Try.func59, Try.ntmps59
    go_wp2_with (first | (go_at_call 52; refine hb.mono ?_; rintro e wa ⟨rfl, hba⟩) | (go_at_call 74; refine (hp _).mono ?_; rintro e wq ⟨rfl, hwq⟩; replace hwq := hwq.symm; subst hwq))
    go_ret
    exact ⟨rfl, hba⟩
  · have hb := specBits_any 4 w
    rw [show fb 4 = 16 from by decide] at hb
    have hp := fun w => pow_any 2 (by omega) w
    have e : fullI 4 = (pw 2 : Int) - 1 := by decide
    have hv : pw 2 = 65536 := by decide
    rw [e, hv]
    rw [hv] at hp
    clear e hv
    go_enter Try.func59, Try.ntmps59
    go_wp2_with (first | (go_at_call 52; refine hb.mono ?_; rintro e wa ⟨rfl, hba⟩) | (go_at_call 74; refine (hp _).mono ?_; rintro e wq ⟨rfl, hwq⟩; replace hwq := hwq.symm; subst hwq))
    go_ret
    exact ⟨rfl, hba⟩
  · have hb := specBits_any 5 w
    rw [show fb 5 = 32 from by decide] at hb
    have hp := fun w => pow_any 4 (by omega) w
    have e : fullI 5 = (pw 4 : Int) - 1 := by decide
    have hv : pw 4 = 4294967296 := by decide
    rw [e, hv]
    rw [hv] at hp
    clear e hv
    go_enter Try.func59, Try.ntmps59
    go_wp2_with (first | (go_at_call 52; refine hb.mono ?_; rintro e wa ⟨rfl, hba⟩) | (go_at_call 74; refine (hp _).mono ?_; rintro e wq ⟨rfl, hwq⟩; replace hwq := hwq.symm; subst hwq))
    go_ret
    exact ⟨rfl, hba⟩
  · have hb := specBits_any 6 w
    rw [show fb 6 = 32 from by decide] at hb
    have hp := fun w => pow_any 4 (by omega) w
    have e : fullI 6 = (pw 4 : Int) - 1 := by decide
    have hv : pw 4 = 4294967296 := by decide
    rw [e, hv]
    rw [hv] at hp
    clear e hv
    go_enter Try.func59, Try.ntmps59
    go_wp2_with (first | (go_at_call 52; refine hb.mono ?_; rintro e wa ⟨rfl, hba⟩) | (go_at_call 74; refine (hp _).mono ?_; rintro e wq ⟨rfl, hwq⟩; replace hwq := hwq.symm; subst hwq))
    go_ret
    exact ⟨rfl, hba⟩
  · have hb := specBits_any 7 w
    rw [show fb 7 = 8 from by decide] at hb
    have hp := fun w => pow_any 1 (by omega) w
    have e : fullI 7 = (pw 1 : Int) - 1 := by decide
    have hv : pw 1 = 256 := by decide
    rw [e, hv]
    rw [hv] at hp
    clear e hv
    go_enter Try.func59, Try.ntmps59
    go_wp2_with (first | (go_at_call 52; refine hb.mono ?_; rintro e wa ⟨rfl, hba⟩) | (go_at_call 74; refine (hp _).mono ?_; rintro e wq ⟨rfl, hwq⟩; replace hwq := hwq.symm; subst hwq))
    go_ret
    exact ⟨rfl, hba⟩

set_option maxHeartbeats 1000000 in
theorem ofS_no (a : Option Addr) (n c : Nat) (w : World) (t0 : ∀ w1, Below w.heap.size w w1 → Calls Try.prog 70 #[.agg #[.slice a n c]] w1 fun e w' => e = .returned (.bool false) ∧ Below w1.heap.size w1 w') :
    Calls Try.prog 36 #[.agg #[.slice a n c]] w (ResM w [] []) := by
  have T0 : Hid (∀ w1, Below w.heap.size w w1 → Calls Try.prog 70 #[.agg #[.slice a n c]] w1 fun e w' => e = .returned (.bool false) ∧ Below w1.heap.size w1 w') := t0
  obtain ⟨W0, hW0⟩ : ∃ W0, W0 = (w.alloc (.cells #[.slice a n c] 27)).alloc (.cells #[.slice none 0 0, .slice none 0 0] 25) := ⟨_, rfl⟩
  have B : Below w.heap.size w W0 := by subst hW0; exact Mi.below2 _ _ _
  have k1 : W0.heap[w.heap.size + 1]? = some (.cells #[.slice none 0 0, .slice none 0 0] 25 (0, 0)) := by subst hW0; exact at_new (by simp)
  clear t0
  go_enter Try.func36, Try.ntmps36
  go_wp2_with (go_at_call 70; rw [← hW0]; refine (T0.out _ B).mono ?_; rintro e wa ⟨rfl, hb⟩; replace k1 := (hb.block _ (Array.getElem?_eq_some_iff.1 k1).1).trans k1; obtain ⟨r0, r1⟩ := two k1; have fr := Bl.free k1; replace B := Rw.next B hb; clear hb)
  refine bodyPost_ret (v := .agg #[.slice none 0 0, .slice none 0 0]) (by simp [results, Try.results36, go_sem, r0, r1]) rfl (resM_none ?_)
  exact bset (bset B (by omega)) (by omega)

set_option maxHeartbeats 4000000 in
theorem ofS_yes (b o c : Nat) (H : List Int) (w : World) (r1 : ∀ k, k < 8 → w.cell? ⟨b, o + k, none⟩ = some (.int .i64 (H.getD k 0)))
    (t0 : ∀ w1, Below w.heap.size w w1 → Calls Try.prog 70 #[.agg #[.slice (some ⟨b, o, none⟩) 8 c]] w1 fun e w' => e = .returned (.bool true) ∧ Below w1.heap.size w1 w') :
    Calls Try.prog 36 #[.agg #[.slice (some ⟨b, o, none⟩) 8 c]] w (ResM w (lst (nth H)) (lst fullI)) := by
  have T0 : Hid (∀ w1, Below w.heap.size w w1 → Calls Try.prog 70 #[.agg #[.slice (some ⟨b, o, none⟩) 8 c]] w1 fun e w' => e = .returned (.bool true) ∧ Below w1.heap.size w1 w') := t0
  have R1 : Hid (∀ k, k < 8 → w.cell? ⟨b, o + k, none⟩ = some (.int .i64 (H.getD k 0))) := r1
  obtain ⟨W0, hW0⟩ : ∃ W0, W0 = (w.alloc (.cells #[.slice (some ⟨b, o, none⟩) 8 c] 27)).alloc (.cells #[.slice none 0 0, .slice none 0 0] 25) := ⟨_, rfl⟩
  have B : Below w.heap.size w W0 := by subst hW0; exact Mi.below2 _ _ _
  have k0 : W0.heap[w.heap.size]? = some (.cells #[.slice (some ⟨b, o, none⟩) 8 c] 27 (0, 0)) := by subst hW0; rw [at_old (by simp), at_new rfl]
  have kR : W0.heap[w.heap.size + 1]? = some (.cells #[.slice none 0 0, .slice none 0 0] 25 (0, 0)) := by subst hW0; exact at_new (by simp)
  clear t0 r1
  go_enter Try.func36, Try.ntmps36
  go_wp2_with (first
    | (go_at_call 70; rw [← hW0]; refine (T0.out _ B).mono ?_; rintro e wa ⟨rfl, hb⟩; replace k0 := (hb.block _ (Array.getElem?_eq_some_iff.1 k0).1).trans k0; replace kR := (hb.block _ (Array.getElem?_eq_some_iff.1 kR).1).trans kR; replace B := Rw.next B hb; clear hb)
    | (go_at_call 32; refine (Mr.allS_any _).mono ?_; rintro e wc ⟨aV, gV, cV, aM, gM, cM, rfl, hV, hM, l1, l2, l3, hb⟩; have sb := hb.size; have zr3 := (Array.getElem?_eq_some_iff.1 kR).1; replace k0 := (hb.block _ (Array.getElem?_eq_some_iff.1 k0).1).trans k0; replace kR := (hb.block _ zr3).trans kR; replace B := Rw.next B hb; clear hb))
  clear hW0 T0
  obtain rfl := hV.head (by rw [lst_len]; omega)
  obtain rfl := hM.head (by rw [lst_len]; omega)
  rw [lst_len]
  have z0 := (Array.getElem?_eq_some_iff.1 k0).1
  have zR := (Array.getElem?_eq_some_iff.1 kR).1
  have yV : gV < wc.heap.size := by have := Hr.wt_lt hV; rw [lst_len] at this; omega
  have yM : gM < wc.heap.size := by have := Hr.wt_lt hM; rw [lst_len] at this; omega
  have kX : (wc.alloc (.cells #[.slice (some ⟨gV, 0, none⟩) 8 cV, .slice (some ⟨gM, 0, none⟩) 8 cM] 25)).heap[wc.heap.size]? = some (.cells #[.slice (some ⟨gV, 0, none⟩) 8 cV, .slice (some ⟨gM, 0, none⟩) 8 cM] 25 (0, 0)) := at_new rfl
  have BX : Below wc.heap.size wc (wc.alloc (.cells #[.slice (some ⟨gV, 0, none⟩) 8 cV, .slice (some ⟨gM, 0, none⟩) 8 cM] 25)) := below_alloc1 _ _
  replace k0 := (BX.block _ z0).trans k0
  replace kR := (BX.block _ zR).trans kR
  replace hV := hV.below BX
  replace hM := hM.below BX
  replace B := Rw.next B BX
  obtain ⟨X, hX⟩ : ∃ X, X = wc.heap.size := ⟨_, rfl⟩
  rw [← hX] at kX ⊢
  have HLT : Hid (∀ k, k < 8 → b < w.heap.size) := (fun k hk => World.block_lt_of_cell? _ _ (R1.out k hk) : ∀ k, k < 8 → b < w.heap.size)
  have o1V : w.heap.size + 1 < gV := by omega
  have o1M : w.heap.size + 1 < gM := by omega
  have oXV : gV < X := by omega
  have oXM : gM < X := by omega
  have hV0 : Wt (wc.alloc (.cells #[.slice (some ⟨gV, 0, none⟩) 8 cV, .slice (some ⟨gM, 0, none⟩) 8 cM] 25)) (some ⟨gV, 0, none⟩) gV (lst (cut (nth H) nul 0)) := hV
  have hM0 : Wt (wc.alloc (.cells #[.slice (some ⟨gV, 0, none⟩) 8 cV, .slice (some ⟨gM, 0, none⟩) 8 cM] 25)) (some ⟨gM, 0, none⟩) gM (lst (cut fullI nul 0)) := hM
  clear hX z0 zR yV yM sb zr3 l1 l2 hV hM BX
  go_loopw [4] (fun i wr => ∃ k : Nat, k ≤ 8 ∧ i = .int .i64 k ∧ Below w.heap.size w wr ∧ wr.heap[w.heap.size]? = some (.cells #[.slice (some ⟨b, o, none⟩) 8 c] 27 (0, 0)) ∧ wr.heap[w.heap.size + 1]? = some (.cells #[.slice none 0 0, .slice none 0 0] 25 (0, 0)) ∧ wr.heap[X]? = some (.cells #[.slice (some ⟨gV, 0, none⟩) 8 cV, .slice (some ⟨gM, 0, none⟩) 8 cM] 25 (0, 0)) ∧ Wt wr (some ⟨gV, 0, none⟩) gV (lst (cut (nth H) nul k)) ∧ Wt wr (some ⟨gM, 0, none⟩) gM (lst (cut fullI nul k))) (fun i _ => 8 - (intOf i).toNat)
  case atStart => exact ⟨0, Nat.zero_le _, rfl, B, k0, kR, kX, hV0, hM0⟩
  case round =>
    obtain ⟨k, hk, rfl, hbel, q0, qR, qX, hv, hm⟩ := hrel
    clear B k0 kR kX hV0 hM0
    have z0 := (Array.getElem?_eq_some_iff.1 q0).1
    have zR := (Array.getElem?_eq_some_iff.1 qR).1
    have zX := (Array.getElem?_eq_some_iff.1 qX).1
    by_cases hlt : k < 8
    · have hkz : (k : Int) < 8 := by omega
      have p0 := one q0
      obtain ⟨x0, x1⟩ := two qX
      have g0 : wr.cell? ⟨b, o + k, none⟩ = some (.int .i64 (nth H k)) := (hbel.cell (World.block_lt_of_cell? _ _ (R1.out k hlt))).trans (R1.out k hlt)
      have hl := HLT.out k hlt
      have cV1 := hv.cell k (by rw [lst_len]; exact hlt)
      have cM1 := hm.cell k (by rw [lst_len]; exact hlt)
      have fV := hv.free k (by rw [lst_len]; exact hlt)
      have fM := hm.free k (by rw [lst_len]; exact hlt)
      have GV : Hid (Wt wr (some ⟨gV, 0, none⟩) gV (lst (cut (nth H) nul k))) := hv
      have GM : Hid (Wt wr (some ⟨gM, 0, none⟩) gM (lst (cut fullI nul k))) := hm
      have Q0 : Hid (wr.heap[w.heap.size]? = some (.cells #[.slice (some ⟨b, o, none⟩) 8 c] 27 (0, 0))) := q0
      have QR : Hid (wr.heap[w.heap.size + 1]? = some (.cells #[.slice none 0 0, .slice none 0 0] 25 (0, 0))) := qR
      have QX : Hid (wr.heap[X]? = some (.cells #[.slice (some ⟨gV, 0, none⟩) 8 cV, .slice (some ⟨gM, 0, none⟩) 8 cM] 25 (0, 0))) := qX
      clear q0 qR qX hv hm HLT R1
      have HT : Hid (∀ w, Calls Try.prog 59 #[.int .i64 k] w fun e w' => e = .returned (.int .i64 (fullI k)) ∧ Below w.heap.size w w') := (fun w => fullS_any k hlt w : ∀ w, Calls Try.prog 59 #[.int .i64 k] w fun e w' => e = .returned (.int .i64 (fullI k)) ∧ Below w.heap.size w w')
      have EV : Hid (nth H k = nth H k) := rfl
      generalize eh : nth H k = h at g0
      have EH : Hid (nth H k = h) := eh
      generalize et : fullI k = T at HT
      have ET : Hid (fullI k = T) := et
      clear eh et EV
      have d1 : gV ≠ w.heap.size := by omega
      have d3 : gM ≠ w.heap.size := by omega
      have d5 : gV ≠ X := by omega
      have d6 : gM ≠ X := by omega
      have d15 : w.heap.size + 1 ≠ gV := by omega
      have d16 : w.heap.size + 1 ≠ gM := by omega
      go_wp2
      refine wp_region_held_drew (S := (fun w' => w'.cell? ⟨w.heap.size, 0, none⟩ = some (.slice (some ⟨b, o, none⟩) 8 c) ∧ w'.cell? ⟨X, 0, none⟩ = some (.slice (some ⟨gV, 0, none⟩) 8 cV) ∧ w'.cell? ⟨X, 1, none⟩ = some (.slice (some ⟨gM, 0, none⟩) 8 cM) ∧ w'.cell? ⟨b, o + k, none⟩ = some (.int .i64 h))) (by kernel_rfl) ⟨p0, x0, x1, g0⟩ (fun hHeld => ?_)
      refine take (i := 0) (d := some 14) (v := .pointer (some ⟨X, 0, none⟩)) rfl (by kernel_rfl) (by kernel_rfl) (by kernel_rfl) (by kernel_rfl) (fun _ _ _ h => h) (Or.inl ⟨by rfl, by intro w hSw; go_simp⟩) hHeld ?_
      simp only [Act.put, List.setIfInBounds_toArray, List.set_cons_zero, List.set_cons_succ]
      refine take (i := 1) (d := some 15) (v := .slice (some ⟨gV, 0, none⟩) 8 cV) rfl (by kernel_rfl) (by kernel_rfl) (by kernel_rfl) (by kernel_rfl) (fun _ _ _ h => h) (Or.inl ⟨by rfl, by intro w hSw; obtain ⟨p0, x0, x1, g0⟩ := hSw; go_simp⟩) hHeld ?_
      simp only [Act.put, List.setIfInBounds_toArray, List.set_cons_zero, List.set_cons_succ]
      refine take (i := 2) (d := some 16) (v := .int .i64 k) rfl (by kernel_rfl) (by kernel_rfl) (by kernel_rfl) (by kernel_rfl) (fun _ _ _ h => h) (Or.inl ⟨by rfl, by intro w hSw; go_simp⟩) hHeld ?_
      simp only [Act.put, List.setIfInBounds_toArray, List.set_cons_zero, List.set_cons_succ]
      refine take (i := 3) (d := some 17) (v := .pointer (some ⟨w.heap.size, 0, none⟩)) rfl (by kernel_rfl) (by kernel_rfl) (by kernel_rfl) (by kernel_rfl) (fun _ _ _ h => h) (Or.inl ⟨by rfl, by intro w hSw; go_simp⟩) hHeld ?_
      simp only [Act.put, List.setIfInBounds_toArray, List.set_cons_zero, List.set_cons_succ]
      refine take (i := 4) (d := some 18) (v := .slice (some ⟨b, o, none⟩) 8 c) rfl (by kernel_rfl) (by kernel_rfl) (by kernel_rfl) (by kernel_rfl) (fun _ _ _ h => h) (Or.inl ⟨by rfl, by intro w hSw; obtain ⟨p0, x0, x1, g0⟩ := hSw; go_simp⟩) hHeld ?_
      simp only [Act.put, List.setIfInBounds_toArray, List.set_cons_zero, List.set_cons_succ]
      refine take (i := 5) (d := some 19) (v := .int .i64 k) rfl (by kernel_rfl) (by kernel_rfl) (by kernel_rfl) (by kernel_rfl) (fun _ _ _ h => h) (Or.inl ⟨by rfl, by intro w hSw; go_simp⟩) hHeld ?_
      simp only [Act.put, List.setIfInBounds_toArray, List.set_cons_zero, List.set_cons_succ]
      refine take (i := 6) (d := some 20) (v := .pointer (some ⟨b, o + k, none⟩)) rfl (by kernel_rfl) (by kernel_rfl) (by kernel_rfl) (by kernel_rfl) (fun _ _ _ h => h) (Or.inl ⟨by rfl, by intro w hSw; go_simp⟩) hHeld ?_
      simp only [Act.put, List.setIfInBounds_toArray, List.set_cons_zero, List.set_cons_succ]
      refine take (i := 7) (d := some 21) (v := .int .i64 h) rfl (by kernel_rfl) (by kernel_rfl) (by kernel_rfl) (by kernel_rfl) (fun _ _ _ h => h) (Or.inl ⟨by rfl, by intro w hSw; obtain ⟨p0, x0, x1, g0⟩ := hSw; go_simp⟩) hHeld ?_
      simp only [Act.put, List.setIfInBounds_toArray, List.set_cons_zero, List.set_cons_succ]
      refine take (i := 8) (d := some 22) (v := .pointer (some ⟨gV, k, none⟩)) rfl (by kernel_rfl) (by kernel_rfl) (by kernel_rfl) (by kernel_rfl) (fun _ _ _ h => h) (Or.inl ⟨by rfl, by intro w hSw; go_simp⟩) hHeld ?_
      simp only [Act.put, List.setIfInBounds_toArray, List.set_cons_zero, List.set_cons_succ]
      refine wpAnyH_ready (rs := [9]) (by kernel_rfl) (by simp) (Mm.ready3 (g := gV) (k := k) (v := h) rfl (by kernel_rfl) (.tmp 22) (.tmp 21) (by kernel_rfl) (by kernel_rfl) (by kernel_rfl) (by kernel_rfl) cV1 fV ⟨Mm.cell_set1 p0 (by simp; omega), Mm.cell_set1 x0 (by simp; omega), Mm.cell_set1 x1 (by simp; omega), Mm.cell_set1 g0 (by simp; omega)⟩ (fun hHeld => ?_) AllReadyH.nil)
      simp only [Act.put, List.setIfInBounds_toArray, List.set_cons_zero, List.set_cons_succ]
      refine wpAnyH_done (by kernel_rfl) ?_ _
      obtain ⟨wy, hwy⟩ : ∃ wy, wy = wr.drew.setCell ⟨gV, k, none⟩ (.int .i64 h) := ⟨_, rfl⟩
      rw [← hwy]
      replace p0 := (by subst hwy; exact cell_set1 p0 (by simp; omega) : wy.cell? _ = _)
      replace x0 := (by subst hwy; exact cell_set1 x0 (by simp; omega) : wy.cell? _ = _)
      replace x1 := (by subst hwy; exact cell_set1 x1 (by simp; omega) : wy.cell? _ = _)
      replace g0 := (by subst hwy; exact cell_set1 g0 (by simp; omega) : wy.cell? _ = _)
      replace cM1 := (by subst hwy; exact cell_set1 cM1 (by simp; omega) : wy.cell? _ = _)
      replace fM : wy.frozen? ⟨gM, k, none⟩ = false := by subst hwy; simpa using fM
      replace hbel : Below w.heap.size w wy := by subst hwy; exact bset hbel.drew (by omega)
      replace Q0 : Hid (wy.heap[w.heap.size]? = some (.cells #[.slice (some ⟨b, o, none⟩) 8 c] 27 (0, 0))) := (by subst hwy; exact blk_set Q0.out (Ne.symm d1) : wy.heap[w.heap.size]? = some (.cells #[.slice (some ⟨b, o, none⟩) 8 c] 27 (0, 0)))
      replace QR : Hid (wy.heap[w.heap.size + 1]? = some (.cells #[.slice none 0 0, .slice none 0 0] 25 (0, 0))) := (by subst hwy; exact blk_set QR.out d15 : wy.heap[w.heap.size + 1]? = some (.cells #[.slice none 0 0, .slice none 0 0] 25 (0, 0)))
      replace QX : Hid (wy.heap[X]? = some (.cells #[.slice (some ⟨gV, 0, none⟩) 8 cV, .slice (some ⟨gM, 0, none⟩) 8 cM] 25 (0, 0))) := (by subst hwy; exact blk_set QX.out (Ne.symm d5) : wy.heap[X]? = some (.cells #[.slice (some ⟨gV, 0, none⟩) 8 cV, .slice (some ⟨gM, 0, none⟩) 8 cM] 25 (0, 0)))
      replace GV : Hid (Wt wy (some ⟨gV, 0, none⟩) gV (lst (cut (nth H) nul (k + 1)))) := (by subst hwy; rw [← EH.out]; exact wt_up (wt_drew GV.out) hlt : Wt wy (some ⟨gV, 0, none⟩) gV (lst (cut (nth H) nul (k + 1))))
      replace GM : Hid (Wt wy (some ⟨gM, 0, none⟩) gM (lst (cut fullI nul k))) := (by subst hwy; exact wt_set2 (wt_drew GM.out) l3 : Wt wy (some ⟨gM, 0, none⟩) gM (lst (cut fullI nul k)))
      have y0 := (Array.getElem?_eq_some_iff.1 Q0.out).1
      have yR := (Array.getElem?_eq_some_iff.1 QR.out).1
      have yX := (Array.getElem?_eq_some_iff.1 QX.out).1
      have cM1b := cM1
      clear hwy cV1 fV z0 zR zX
      go_wp2
      refine wp_region_held_drew (S := (fun w' => w'.cell? ⟨w.heap.size, 0, none⟩ = some (.slice (some ⟨b, o, none⟩) 8 c) ∧ w'.cell? ⟨X, 0, none⟩ = some (.slice (some ⟨gV, 0, none⟩) 8 cV) ∧ w'.cell? ⟨X, 1, none⟩ = some (.slice (some ⟨gM, 0, none⟩) 8 cM) ∧ w'.cell? ⟨b, o + k, none⟩ = some (.int .i64 h))) (by kernel_rfl) ⟨p0, x0, x1, g0⟩ (fun hHeld => ?_)
      refine take (i := 0) (d := some 23) (v := .pointer (some ⟨X, 1, none⟩)) rfl (by kernel_rfl) (by kernel_rfl) (by kernel_rfl) (by kernel_rfl) (fun _ _ _ h => h) (Or.inl ⟨by rfl, by intro w hSw; go_simp⟩) hHeld ?_
      simp only [Act.put, List.setIfInBounds_toArray, List.set_cons_zero, List.set_cons_succ]
      refine take (i := 1) (d := some 24) (v := .slice (some ⟨gM, 0, none⟩) 8 cM) rfl (by kernel_rfl) (by kernel_rfl) (by kernel_rfl) (by kernel_rfl) (fun _ _ _ h => h) (Or.inl ⟨by rfl, by intro w hSw; obtain ⟨p0, x0, x1, g0⟩ := hSw; go_simp⟩) hHeld ?_
      simp only [Act.put, List.setIfInBounds_toArray, List.set_cons_zero, List.set_cons_succ]
      refine take (i := 2) (d := some 25) (v := .int .i64 k) rfl (by kernel_rfl) (by kernel_rfl) (by kernel_rfl) (by kernel_rfl) (fun _ _ _ h => h) (Or.inl ⟨by rfl, by intro w hSw; go_simp⟩) hHeld ?_
      simp only [Act.put, List.setIfInBounds_toArray, List.set_cons_zero, List.set_cons_succ]
      refine take (i := 3) (d := some 26) (v := .int .i64 k) rfl (by kernel_rfl) (by kernel_rfl) (by kernel_rfl) (by kernel_rfl) (fun _ _ _ h => h) (Or.inl ⟨by rfl, by intro w hSw; go_simp⟩) hHeld ?_
      simp only [Act.put, List.setIfInBounds_toArray, List.set_cons_zero, List.set_cons_succ]
      refine wpAnyH_ready (rs := [4]) (by kernel_rfl) (by simp) (Rg.call1 rfl (by kernel_rfl) 59 (.tmp 26) 3 (by kernel_rfl) 27 (by kernel_rfl) (.int .i64 k) (by kernel_rfl) (fun _ => rfl) (HT.out _) ?_ AllReadyH.nil)
      rintro e wz ⟨rfl, hb⟩
      replace p0 := (hb.cell (World.block_lt_of_cell? _ _ p0)).trans p0
      replace x0 := (hb.cell (World.block_lt_of_cell? _ _ x0)).trans x0
      replace x1 := (hb.cell (World.block_lt_of_cell? _ _ x1)).trans x1
      replace g0 := (hb.cell (World.block_lt_of_cell? _ _ g0)).trans g0
      replace cM1 := (hb.cell (World.block_lt_of_cell? _ _ cM1)).trans cM1
      replace fM := (hb.frozen (World.block_lt_of_cell? _ _ cM1b)).trans fM
      refine ⟨_, rfl, ⟨p0, x0, x1, g0⟩, fun hHeld => ?_⟩
      simp only [Act.put, List.setIfInBounds_toArray, List.set_cons_zero, List.set_cons_succ]
      refine take (i := 5) (d := some 28) (v := .pointer (some ⟨gM, k, none⟩)) rfl (by kernel_rfl) (by kernel_rfl) (by kernel_rfl) (by kernel_rfl) (fun _ _ _ h => h) (Or.inl ⟨by rfl, by intro w hSw; go_simp⟩) hHeld ?_
      simp only [Act.put, List.setIfInBounds_toArray, List.set_cons_zero, List.set_cons_succ]
      refine wpAnyH_ready (rs := [6]) (by kernel_rfl) (by simp) (Mm.ready3 (g := gM) (k := k) (v := T) rfl (by kernel_rfl) (.tmp 28) (.tmp 27) (by kernel_rfl) (by kernel_rfl) (by kernel_rfl) (by kernel_rfl) cM1 fM ⟨cell_set0 p0 (by simp; omega), cell_set0 x0 (by simp; omega), cell_set0 x1 (by simp; omega), cell_set0 g0 (by simp; omega)⟩ (fun hHeld => ?_) AllReadyH.nil)
      simp only [Act.put, List.setIfInBounds_toArray, List.set_cons_zero, List.set_cons_succ]
      refine wpAnyH_done (by kernel_rfl) ?_ _
      go_wp2
      go_roundw
      case rel =>
        rw [← ET.out]
        exact ⟨k + 1, by omega, by go_num, bset (Rw.next hbel.drew hb) (by omega), blk_set ((hb.block _ y0).trans Q0.out) (Ne.symm d3), blk_set ((hb.block _ yR).trans QR.out) d16, blk_set ((hb.block _ yX).trans QX.out) (Ne.symm d6), wt_set2 ((wt_drew GV.out).below hb) (Ne.symm l3), wt_up ((wt_drew GM.out).below hb) hlt⟩
      case measure => simp [intOf]; omega
    · have he : k = 8 := by omega
      subst he
      have e8 : lst (cut (nth H) nul 8) = lst (nth H) := by unfold lst; apply List.map_congr_left; intro i hi; simp at hi; simp [cut, hi]
      have e9 : lst (cut fullI nul 8) = lst fullI := by unfold lst; apply List.map_congr_left; intro i hi; simp at hi; simp [cut, hi]
      rw [e8] at hv
      rw [e9] at hm
      clear e8 e9 HLT R1
      obtain ⟨x0, x1⟩ := two qX
      obtain ⟨s0, s1⟩ := two qR
      have fR := Bl.free qR
      have nX : X ≠ w.heap.size + 1 := by omega
      go_wp2
      refine bodyPost_ret (v := .agg #[.slice (some ⟨gV, 0, none⟩) 8 cV, .slice (some ⟨gM, 0, none⟩) 8 cM]) (by simp [results, Try.results36, go_sem, s0, s1]) rfl ⟨_, gV, _, _, gM, _, by rw [lst_len, lst_len], ?_, ?_, by omega, by omega, l3, ?_⟩
      · exact wt_set2 (wt_set2 hv (by omega)) (by omega)
      · exact wt_set2 (wt_set2 hm (by omega)) (by omega)
      · exact bset (bset hbel (by omega)) (by omega)

end Go.Proofs.Ytbplpfcplpoeiaa.Mu
