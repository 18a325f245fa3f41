/-
  Contracts of both Asked.
-/
import Derived.Test.YtbplpfcplpoeiaaOc
import Derived.Test.YtbplpfcplpoeiaaLc
namespace Go.Proofs.Ytbplpfcplpoeiaa.Ma
open Go Go.RowKit
open Num Pl Hr Hh Hf Hg Pa Pm Po Pq Bw Rg Lc
set_option linter.unusedSimpArgs false
set_option linter.unusedVariables false

/-- The bits asked for by the first k places. -/
def tot (m : Nat → Int) : Nat → Nat
  | 0 => 0
  | k + 1 => tot m k + Bt.cnt (m k).toNat 48
theorem tot_le (m : Nat → Int) : ∀ k, tot m k ≤ 48 * k
  | 0 => by simp [tot]
  | k + 1 => by have := tot_le m k; have := Bt.cnt_le (m k).toNat 48; simp only [tot]; omega

set_option maxHeartbeats 1000000 in
theorem ask_no (a1 a2 : Option Addr) (n1 n2 c1 c2 : Nat) (x y : Nat → Int) (w : World)
    (h : ∀ w1, Below w.heap.size w w1 → Calls Try.prog 56 #[.agg #[.slice a1 n1 c1, .slice a2 n2 c2]] w1 fun e w' => e = .returned (.tuple #[.agg (enc x y), .bool false]) ∧ Below w1.heap.size w1 w') :
    Calls Try.prog 21 #[.agg #[.slice a1 n1 c1, .slice a2 n2 c2]] w (Nu (-1) w) := by
  have B := below_alloc1 w (.cells #[.slice a1 n1 c1, .slice a2 n2 c2] 25)
  have HP : Hid (Calls Try.prog 56 #[.agg #[.slice a1 n1 c1, .slice a2 n2 c2]] (w.alloc (.cells #[.slice a1 n1 c1, .slice a2 n2 c2] 25)) fun e w' => e = .returned (.tuple #[.agg (enc x y), .bool false]) ∧ Below (w.alloc (.cells #[.slice a1 n1 c1, .slice a2 n2 c2] 25)).heap.size (w.alloc (.cells #[.slice a1 n1 c1, .slice a2 n2 c2] 25)) w') := h _ B
  clear h
  unfold Nu
  go_enter Try.func21, Try.ntmps21
  go_wp2_with (first
    | (go_at_call 56; refine HP.out.mono ?_; rintro e wa ⟨rfl, hb⟩; replace B := Rw.next B hb; clear hb)
    | (refine store66 rfl _ _ rfl rfl rfl (has_zero rfl) (fun w1 hX hS => ?_)))
  go_ret
  exact ⟨rfl, hS.below (Rw.next B (below_alloc1 _ _)) B.size⟩

set_option maxHeartbeats 2000000 in
theorem ask_yes (a1 a2 : Option Addr) (n1 n2 c1 c2 : Nat) (x y : Nat → Int) (w : World) (hy : ∀ k, k < 8 → 0 ≤ y k ∧ y k < 281474976710656)
    (h : ∀ w1, Below w.heap.size w w1 → Calls Try.prog 56 #[.agg #[.slice a1 n1 c1, .slice a2 n2 c2]] w1 fun e w' => e = .returned (.tuple #[.agg (enc x y), .bool true]) ∧ Below w1.heap.size w1 w') :
    Calls Try.prog 21 #[.agg #[.slice a1 n1 c1, .slice a2 n2 c2]] w (Nu (tot y 8 : Nat) w) := by
  have B := below_alloc1 w (.cells #[.slice a1 n1 c1, .slice a2 n2 c2] 25)
  have HP : Hid (Calls Try.prog 56 #[.agg #[.slice a1 n1 c1, .slice a2 n2 c2]] (w.alloc (.cells #[.slice a1 n1 c1, .slice a2 n2 c2] 25)) fun e w' => e = .returned (.tuple #[.agg (enc x y), .bool true]) ∧ Below (w.alloc (.cells #[.slice a1 n1 c1, .slice a2 n2 c2] 25)).heap.size (w.alloc (.cells #[.slice a1 n1 c1, .slice a2 n2 c2] 25)) w') := h _ B
  have HY : Hid (∀ k, k < 8 → 0 ≤ y k ∧ y k < 281474976710656) := hy
  clear h hy
  unfold Nu
  go_enter Try.func21, Try.ntmps21
  go_wp2_with (first
    | (go_at_call 56; refine HP.out.mono ?_; rintro e wa ⟨rfl, hb⟩; replace B := Rw.next B hb; clear hb)
    | (refine store66 rfl _ _ rfl rfl rfl (has_zero rfl) (fun w1 hX hS => ?_); replace B := hS.below (Rw.next B (below_alloc1 _ _)) B.size; clear hS)
    | (refine load66 rfl _ rfl rfl hX ?_))
  clear HP
  go_loopw [5, 16] (fun t i wr => ∃ k : Nat, k ≤ 8 ∧ i = .int .i64 k ∧ t = .int .i64 ((tot y k : Nat) : Int) ∧ Below w.heap.size w wr) (fun _ i _ => 8 - (intOf i).toNat)
  case atStart => exact ⟨0, Nat.zero_le _, rfl, rfl, B⟩
  case round =>
    obtain ⟨k, hk, rfl, rfl, hbel⟩ := hrel
    clear B hX
    by_cases hlt : k < 8
    · have hkz : (k : Int) < 8 := by omega
      have hix := fun w => index_any (v := x) (m := y) hlt w
      have hyk := HY.out k hlt
      have ht := tot_le y k
      have et : tot y (k + 1) = tot y k + Bt.cnt (y k).toNat 48 := rfl
      have hcl := Bt.cnt_le (y k).toNat 48
      have HO : Hid (∀ w, Calls Try.prog 57 #[.int .u64 (y k)] w fun e w' => e = .returned (.int .i64 ((Bt.cnt (y k).toNat 48 : Nat) : Int)) ∧ w' = w) := (fun w => by
        have := Oc.ones_any (y k).toNat (by omega) w
        rw [Int.toNat_of_nonneg hyk.1] at this
        exact this : ∀ w, Calls Try.prog 57 #[.int .u64 (y k)] w fun e w' => e = .returned (.int .i64 ((Bt.cnt (y k).toNat 48 : Nat) : Int)) ∧ w' = w)
      have hcv : IntKind.u64.wrap (y k) = y k := Oc.wraps_u64 _ hyk.1 (by omega)
      generalize Bt.cnt (y k).toNat 48 = c at *
      generalize x k = xk at *
      generalize y k = yk at *
      have ET : Hid (tot y (k + 1) = tot y k + c) := et
      clear et
      generalize tot y k = t at *
      have h1 : (t : Int) ≤ 384 := by omega
      have h2 : (c : Int) ≤ 48 := by omega
      have sz := hbel.size
      go_wp2_with (go_at_call 57; refine (HO.out _).mono ?_; rintro e wq ⟨rfl, hwq⟩; replace hwq := hwq.symm; subst hwq)
      go_roundw
      case rel => exact ⟨k + 1, by omega, by go_num, by rw [ET.out]; go_num, Rw.next hbel (below_alloc1 _ _)⟩
      case measure => simp [intOf]; omega
    · have he : k = 8 := by omega
      subst he
      go_wp2
      go_ret
      exact ⟨rfl, hbel⟩

set_option maxHeartbeats 1000000 in
theorem askS_no (a a' : Option Addr) (n c n' c' : Nat) (w : World) (t0 : ∀ w1, Below w.heap.size w w1 → Calls Try.prog 28 #[.agg #[.slice a n c, .slice a' n' c']] w1 fun e w' => e = .returned (.bool false) ∧ Below w1.heap.size w1 w') :
    Calls Try.prog 44 #[.agg #[.slice a n c, .slice a' n' c']] w (Nu (-1) w) := by
  have T0 : Hid (∀ w1, Below w.heap.size w w1 → Calls Try.prog 28 #[.agg #[.slice a n c, .slice a' n' c']] w1 fun e w' => e = .returned (.bool false) ∧ Below w1.heap.size w1 w') := t0
  have B := below_alloc1 w (.cells #[.slice a n c, .slice a' n' c'] 25)
  clear t0
  unfold Nu
  go_enter Try.func44, Try.ntmps44
  go_wp2_with (go_at_call 28; refine (T0.out _ B).mono ?_; rintro e wa ⟨rfl, hb⟩; replace B := Rw.next B hb)
  go_ret
  exact ⟨rfl, B⟩

/-- The same, each place by its own bits. -/
def totS (m : Nat → Int) : Nat → Nat
  | 0 => 0
  | k + 1 => totS m k + Bt.cnt (m k).toNat (fbN k)
theorem totS_le (m : Nat → Int) : ∀ k, totS m k ≤ 48 * k
  | 0 => by simp [totS]
  | k + 1 => by have := totS_le m k; have := Bt.cnt_le (m k).toNat (fbN k); have := fbN_le k; simp only [totS]; omega
theorem cnt_big {n b : Nat} (h : n < 2 ^ b) : ∀ d, Bt.cnt n (b + d) = Bt.cnt n b
  | 0 => rfl
  | d + 1 => by
    have hl : n < 2 ^ (b + d) := Nat.lt_of_lt_of_le h (Nat.pow_le_pow_right (by decide) (by omega))
    rw [← Nat.add_assoc, Bt.cnt, cnt_big h d, Nat.div_eq_of_lt hl]
    rfl
theorem tots {m : Nat → Int} (h : ∀ k : Nat, k < 8 → fits k (m k) = true) : ∀ k, k ≤ 8 → totS m k = tot m k
  | 0, _ => rfl
  | k + 1, hk => by
    have hf := fits_pow (h k (by omega))
    have h48 := fbN_le k
    obtain ⟨d, hd⟩ : ∃ d, 48 = fbN k + d := ⟨48 - fbN k, by omega⟩
    simp only [totS, tot]
    rw [tots h k (by omega), hd, cnt_big hf]

set_option maxHeartbeats 4000000 in
theorem askS_yes (b1 o1 c1 b2 o2 c2 : Nat) (y : Nat → Int) (w : World) (r2 : ∀ k, k < 8 → w.cell? ⟨b2, o2 + k, none⟩ = some (.int .i64 (y k))) (hy : ∀ k, k < 8 → 0 ≤ y k ∧ y k < 281474976710656) (t0 : ∀ w1, Below w.heap.size w w1 → Calls Try.prog 28 #[.agg #[.slice (some ⟨b1, o1, none⟩) 8 c1, .slice (some ⟨b2, o2, none⟩) 8 c2]] w1 fun e w' => e = .returned (.bool true) ∧ Below w1.heap.size w1 w') :
    Calls Try.prog 44 #[.agg #[.slice (some ⟨b1, o1, none⟩) 8 c1, .slice (some ⟨b2, o2, none⟩) 8 c2]] w (Nu (totS y 8 : Nat) w) := by
  have T0 : Hid (∀ w1, Below w.heap.size w w1 → Calls Try.prog 28 #[.agg #[.slice (some ⟨b1, o1, none⟩) 8 c1, .slice (some ⟨b2, o2, none⟩) 8 c2]] w1 fun e w' => e = .returned (.bool true) ∧ Below w1.heap.size w1 w') := t0
  have R2 : Hid (∀ k, k < 8 → w.cell? ⟨b2, o2 + k, none⟩ = some (.int .i64 (y k))) := r2
  have HY : Hid (∀ k, k < 8 → 0 ≤ y k ∧ y k < 281474976710656) := hy
  have B := below_alloc1 w (.cells #[.slice (some ⟨b1, o1, none⟩) 8 c1, .slice (some ⟨b2, o2, none⟩) 8 c2] 25)
  have k0 : (w.alloc (.cells #[.slice (some ⟨b1, o1, none⟩) 8 c1, .slice (some ⟨b2, o2, none⟩) 8 c2] 25)).heap[w.heap.size]? = some (.cells #[.slice (some ⟨b1, o1, none⟩) 8 c1, .slice (some ⟨b2, o2, none⟩) 8 c2] 25 (0, 0)) := at_new rfl
  clear t0 r2 hy
  unfold Nu
  go_enter Try.func44, Try.ntmps44
  go_wp2_with (go_at_call 28; refine (T0.out _ B).mono ?_; rintro e wa ⟨rfl, hb⟩; replace k0 := (hb.block _ (Array.getElem?_eq_some_iff.1 k0).1).trans k0; replace B := Rw.next B hb; clear hb)
  clear T0
  go_loopw [3, 4] (fun t i wr => ∃ k : Nat, k ≤ 8 ∧ i = .int .i64 k ∧ t = .int .i64 ((totS y k : Nat) : Int) ∧ Below w.heap.size w wr ∧ wr.heap[w.heap.size]? = some (.cells #[.slice (some ⟨b1, o1, none⟩) 8 c1, .slice (some ⟨b2, o2, none⟩) 8 c2] 25 (0, 0))) (fun _ i _ => 8 - (intOf i).toNat)
  case atStart => exact ⟨0, Nat.zero_le _, rfl, rfl, B, k0⟩
  case round =>
    obtain ⟨k, hk, rfl, rfl, hbo, q0⟩ := hrel
    clear B k0
    by_cases hlt : k < 8
    · have hkz : (k : Int) < 8 := by omega
      have h48 := fbN_le k
      have HF : Hid (∀ w, Calls Try.prog 52 #[.int .i64 k] w fun e w' => e = .returned (.int .i64 (fbN k : Int)) ∧ Below w.heap.size w w') := (fun w => by have := specBits_any k w; rw [fbN_eq] at this; exact this : ∀ w, Calls Try.prog 52 #[.int .i64 k] w fun e w' => e = .returned (.int .i64 (fbN k : Int)) ∧ Below w.heap.size w w')
      have hyk := HY.out k hlt
      have ht := totS_le y k
      have ET : Hid (totS y (k + 1) = totS y k + Bt.cnt (y k).toNat (fbN k)) := rfl
      go_wp2
      go_loopw [3, 5] (fun t i wr => ∃ j : Nat, j ≤ fbN k ∧ i = .int .i64 j ∧ t = .int .i64 ((totS y k + Bt.cnt (y k).toNat j : Nat) : Int) ∧ Below w.heap.size w wr ∧ wr.heap[w.heap.size]? = some (.cells #[.slice (some ⟨b1, o1, none⟩) 8 c1, .slice (some ⟨b2, o2, none⟩) 8 c2] 25 (0, 0))) (fun _ i _ => fbN k - (intOf i).toNat)
      case atStart => exact ⟨0, Nat.zero_le _, rfl, rfl, hbo, q0⟩
      case round =>
        obtain ⟨j, hj, rfl, rfl, hbel, q0⟩ := hrel
        by_cases hjl : j < fbN k
        · have hjz : (j : Int) < (fbN k : Int) := by omega
          have hj48 : j < 48 := by omega
          have hcl := Bt.cnt_le (y k).toNat j
          have HC : Hid (∀ w, Calls Try.prog 53 #[.int .i64 (y k), .int .i64 j] w fun e w' => e = .returned (.int .i64 (bitI (y k) j)) ∧ w' = w) := (fun w => bit_any _ _ hyk.1 hyk.2 hj48 w : ∀ w, Calls Try.prog 53 #[.int .i64 (y k), .int .i64 j] w fun e w' => e = .returned (.int .i64 (bitI (y k) j)) ∧ w' = w)
          have hbi : 0 ≤ bitI (y k) j ∧ bitI (y k) j ≤ 1 := by have := bit_01 (y k) j; omega
          have ec : ((totS y k + Bt.cnt (y k).toNat (j + 1) : Nat) : Int) = ((totS y k + Bt.cnt (y k).toNat j : Nat) : Int) + bitI (y k) j := by
            unfold bitI
            rw [Bt.cnt]
            omega
          go_wp2_with (first | (go_at_call 53; refine (HC.out _).mono ?_; rintro e wq ⟨rfl, hwq⟩; replace hwq := hwq.symm; subst hwq) | (go_at_call 52; refine (HF.out _).mono ?_; rintro e ws ⟨rfl, hb⟩; replace q0 := (hb.block _ (Array.getElem?_eq_some_iff.1 q0).1).trans q0; replace hbel := Rw.next hbel hb; clear hb; obtain ⟨p00, p01⟩ := two q0; have g2 : ws.cell? ⟨b2, o2 + k, none⟩ = some (.int .i64 (y k)) := (hbel.cell (World.block_lt_of_cell? _ _ (R2.out k hlt))).trans (R2.out k hlt); have hT : ((totS y k + Bt.cnt (y k).toNat j : Nat) : Int) ≤ 432 := (by omega); have EC : Hid (((totS y k + Bt.cnt (y k).toNat (j + 1) : Nat) : Int) = ((totS y k + Bt.cnt (y k).toNat j : Nat) : Int) + bitI (y k) j) := ec; have Q0 : Hid (ws.heap[w.heap.size]? = some (.cells #[.slice (some ⟨b1, o1, none⟩) 8 c1, .slice (some ⟨b2, o2, none⟩) 8 c2] 25 (0, 0))) := q0; clear ec q0; generalize totS y k + Bt.cnt (y k).toNat j = t at *; generalize bitI (y k) j = bi at *))
          go_roundw
          case rel => exact ⟨j + 1, by omega, by go_num, by rw [EC.out], hbel, Q0.out⟩
          case measure => simp [intOf]; omega
        · have he : j = fbN k := by omega
          have hjz : ¬ ((j : Int) < (fbN k : Int)) := by omega
          rw [he]
          rw [← ET.out]
          go_wp2_with (go_at_call 52; refine (HF.out _).mono ?_; rintro e ws ⟨rfl, hb⟩; replace q0 := (hb.block _ (Array.getElem?_eq_some_iff.1 q0).1).trans q0; replace hbel := Rw.next hbel hb; clear hb)
          go_roundw
          case rel => exact ⟨k + 1, by omega, by go_num, rfl, hbel, q0⟩
          case measure => simp [intOf]; omega
    · have he : k = 8 := by omega
      subst he
      go_wp2
      go_ret
      exact ⟨rfl, hbo⟩
end Go.Proofs.Ytbplpfcplpoeiaa.Ma
