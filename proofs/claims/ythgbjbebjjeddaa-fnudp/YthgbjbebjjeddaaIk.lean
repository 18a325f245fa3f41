/-
  Contracts of both IpOk, both UdpOk and what they lean on: what they answer, on every datagram.
-/
import Derived.Test.YthgbjbebjjeddaaUl
namespace Go.Proofs.Ythgbjbebjjeddaa.Ik
open Go Go.RowKit
open Num Rw Mk Pl
set_option maxRecDepth 4000

/-- 'IpOk' as a truth value. -/
def okI (t p s d : Int) (n : Nat) : Bool := numOkB t 1 && numOkB p 1 && numOkB s 4 && numOkB d 4 && decide (n ≤ 1480)
/-- 'UdpOk' as a truth value. -/
def okU (s d : Int) (n : Nat) : Bool := numOkB s 2 && numOkB d 2 && decide (n ≤ 1472)

set_option maxHeartbeats 1000000 in
theorem ends_any (s d z : Int) (w : World) :
    Calls Try.prog 78 #[.agg #[.int .i64 s, .int .i64 d, .int .i64 z]] w fun e w' => e = .returned (.bool (numOkB s z && numOkB d z)) ∧ Below w.heap.size w w' := by
  have HB := (rfl : numOkB s z = numOkB s z)
  generalize hs : numOkB s z = bs at *
  generalize hd : numOkB d z = bd at *
  clear HB
  cases bs
  · go_enter Try.func78, Try.ntmps78
    go_wp2_with (go_at_call 80; refine (implNumOk_any _ _ _).mono ?_; (first | rw [hs] | rw [hd]); rintro e w' ⟨rfl, hw'⟩; replace hw' := hw'.symm; subst hw')
    go_ret
    exact ⟨rfl, (Below.refl _ _).alloc (Nat.le_refl _) _⟩
  · go_enter Try.func78, Try.ntmps78
    go_wp2_with (go_at_call 80; refine (implNumOk_any _ _ _).mono ?_; (first | rw [hs] | rw [hd]); rintro e w' ⟨rfl, hw'⟩; replace hw' := hw'.symm; subst hw')
    go_ret
    exact ⟨ret_bool (by simp), (Below.refl _ _).alloc (Nat.le_refl _) _⟩

set_option maxHeartbeats 1000000 in
theorem within_ip (t p s d : Int) (a : Option Addr) (n c : Nat) (w : World) :
    Calls Try.prog 43 #[.agg #[.int .i64 t, .int .i64 p, .int .i64 s, .int .i64 d, .slice a n c]] w fun e w' => e = .returned (.agg #[.int .i64 s, .int .i64 d, .int .i64 4, .int .i64 t, .int .i64 p, .slice a n c]) ∧ Below w.heap.size w w' := by
  go_enter Try.func43, Try.ntmps43
  go_wp2
  refine bodyPost_ret (v := .agg #[.int .i64 s, .int .i64 d, .int .i64 4, .int .i64 t, .int .i64 p, .slice a n c]) (by simp [results, Try.results43, go_sem]) rfl ⟨rfl, ?_⟩
  exact next (below_alloc1 _ _) (below_alloc1 _ _)

set_option maxHeartbeats 1000000 in
theorem within_udp (s d : Int) (a : Option Addr) (n c : Nat) (w : World) :
    Calls Try.prog 40 #[.agg #[.int .i64 s, .int .i64 d, .slice a n c]] w fun e w' => e = .returned (.agg #[.int .i64 s, .int .i64 d, .int .i64 2, .slice a n c]) ∧ Below w.heap.size w w' := by
  go_enter Try.func40, Try.ntmps40
  go_wp2
  refine bodyPost_ret (v := .agg #[.int .i64 s, .int .i64 d, .int .i64 2, .slice a n c]) (by simp [results, Try.results40, go_sem]) rfl ⟨rfl, ?_⟩
  exact next (below_alloc1 _ _) (below_alloc1 _ _)

theorem field_ip (t p s d z : Int) (a : Option Addr) (n c : Nat) (w : World) : (Instr.field 80 (.agg #[.int .i64 s, .int .i64 d, .int .i64 z, .int .i64 t, .int .i64 p, .slice a n c]) 0).run Try.prog w = .ok (.agg #[.int .i64 s, .int .i64 d, .int .i64 z]) w := by kernel_rfl
theorem field_udp (s d z : Int) (a : Option Addr) (n c : Nat) (w : World) : (Instr.field 75 (.agg #[.int .i64 s, .int .i64 d, .int .i64 z, .slice a n c]) 0).run Try.prog w = .ok (.agg #[.int .i64 s, .int .i64 d, .int .i64 z]) w := by kernel_rfl

set_option maxHeartbeats 1000000 in
theorem implIp_any (t p s d : Int) (a : Option Addr) (n c : Nat) (w : World) :
    Calls Try.prog 42 #[.agg #[.int .i64 t, .int .i64 p, .int .i64 s, .int .i64 d, .slice a n c]] w fun e w' => e = .returned (.bool (okI t p s d n)) ∧ Below w.heap.size w w' := by
  have HN : Hid (decide ((n : Int) ≤ 1480) = decide (n ≤ 1480)) := by unfold Hid; rw [Bool.eq_iff_iff]; simp; omega
  have HO : Hid (okI t p s d n = (numOkB t 1 && numOkB p 1 && (numOkB s 4 && numOkB d 4) && decide (n ≤ 1480))) := by unfold Hid okI; simp [Bool.and_assoc]
  obtain ⟨W0, hW0⟩ : ∃ W0, W0 = w.alloc (.cells #[.int .i64 t, .int .i64 p, .int .i64 s, .int .i64 d, .slice a n c] 26) := ⟨_, rfl⟩
  have B0 : Below w.heap.size w W0 := by subst hW0; exact below_alloc1 _ _
  have k : W0.heap[w.heap.size]? = some (.cells #[.int .i64 t, .int .i64 p, .int .i64 s, .int .i64 d, .slice a n c] 26 (0, 0)) := by subst hW0; exact at_new rfl
  have z : w.heap.size < W0.heap.size := by subst hW0; simp
  have hfl := field_ip t p s d 4 a n c
  generalize ht : numOkB t 1 = bt at *
  generalize hp : numOkB p 1 = bp at *
  generalize he : (numOkB s 4 && numOkB d 4) = be at *
  cases bt
  · go_enter Try.func42, Try.ntmps42
    go_wp2_with (first | (go_at_call 80; (try rw [← hW0]); refine (implNumOk_any _ _ _).mono ?_; (first | rw [ht] | rw [hp]); rintro e w' ⟨rfl, hw'⟩; replace hw' := hw'.symm; subst hw') | (go_at_call 43; (try rw [← hW0]); refine (within_ip _ _ _ _ _ _ _ _).mono ?_; rintro e w1 ⟨rfl, hb⟩; replace k := (hb.block _ z).trans k; replace z := Nat.lt_of_lt_of_le z hb.size; replace B0 := next B0 hb; clear hb) | (go_at_call 78; refine (ends_any _ _ _ _).mono ?_; rw [he]; rintro e w2 ⟨rfl, hb⟩; replace k := (hb.block _ z).trans k; replace z := Nat.lt_of_lt_of_le z hb.size; replace B0 := next B0 hb; clear hb; obtain ⟨c0, c1, c2, c3, c4⟩ := Pf.five k))
    go_ret
    exact ⟨ret_bool (by rw [HO.out]; simp), below_alloc1 _ _⟩
  cases bp
  · go_enter Try.func42, Try.ntmps42
    go_wp2_with (first | (go_at_call 80; (try rw [← hW0]); refine (implNumOk_any _ _ _).mono ?_; (first | rw [ht] | rw [hp]); rintro e w' ⟨rfl, hw'⟩; replace hw' := hw'.symm; subst hw') | (go_at_call 43; (try rw [← hW0]); refine (within_ip _ _ _ _ _ _ _ _).mono ?_; rintro e w1 ⟨rfl, hb⟩; replace k := (hb.block _ z).trans k; replace z := Nat.lt_of_lt_of_le z hb.size; replace B0 := next B0 hb; clear hb) | (go_at_call 78; refine (ends_any _ _ _ _).mono ?_; rw [he]; rintro e w2 ⟨rfl, hb⟩; replace k := (hb.block _ z).trans k; replace z := Nat.lt_of_lt_of_le z hb.size; replace B0 := next B0 hb; clear hb; obtain ⟨c0, c1, c2, c3, c4⟩ := Pf.five k))
    go_ret
    exact ⟨ret_bool (by rw [HO.out]; simp), below_alloc1 _ _⟩
  cases be
  · go_enter Try.func42, Try.ntmps42
    go_wp2_with (first | (go_at_call 80; (try rw [← hW0]); refine (implNumOk_any _ _ _).mono ?_; (first | rw [ht] | rw [hp]); rintro e w' ⟨rfl, hw'⟩; replace hw' := hw'.symm; subst hw') | (go_at_call 43; (try rw [← hW0]); refine (within_ip _ _ _ _ _ _ _ _).mono ?_; rintro e w1 ⟨rfl, hb⟩; replace k := (hb.block _ z).trans k; replace z := Nat.lt_of_lt_of_le z hb.size; replace B0 := next B0 hb; clear hb) | (go_at_call 78; refine (ends_any _ _ _ _).mono ?_; rw [he]; rintro e w2 ⟨rfl, hb⟩; replace k := (hb.block _ z).trans k; replace z := Nat.lt_of_lt_of_le z hb.size; replace B0 := next B0 hb; clear hb; obtain ⟨c0, c1, c2, c3, c4⟩ := Pf.five k))
    go_ret
    exact ⟨ret_bool (by rw [HO.out]; simp), B0⟩
  · go_enter Try.func42, Try.ntmps42
    go_wp2_with (first | (go_at_call 80; (try rw [← hW0]); refine (implNumOk_any _ _ _).mono ?_; (first | rw [ht] | rw [hp]); rintro e w' ⟨rfl, hw'⟩; replace hw' := hw'.symm; subst hw') | (go_at_call 43; (try rw [← hW0]); refine (within_ip _ _ _ _ _ _ _ _).mono ?_; rintro e w1 ⟨rfl, hb⟩; replace k := (hb.block _ z).trans k; replace z := Nat.lt_of_lt_of_le z hb.size; replace B0 := next B0 hb; clear hb) | (go_at_call 78; refine (ends_any _ _ _ _).mono ?_; rw [he]; rintro e w2 ⟨rfl, hb⟩; replace k := (hb.block _ z).trans k; replace z := Nat.lt_of_lt_of_le z hb.size; replace B0 := next B0 hb; clear hb; obtain ⟨c0, c1, c2, c3, c4⟩ := Pf.five k))
    go_ret
    exact ⟨ret_bool (by rw [HO.out, ← HN.out]; simp), B0⟩

set_option maxHeartbeats 1000000 in
theorem implUdp_any (s d : Int) (a : Option Addr) (n c : Nat) (w : World) :
    Calls Try.prog 39 #[.agg #[.int .i64 s, .int .i64 d, .slice a n c]] w fun e w' => e = .returned (.bool (okU s d n)) ∧ Below w.heap.size w w' := by
  have HN : Hid (decide ((n : Int) ≤ 1472) = decide (n ≤ 1472)) := by unfold Hid; rw [Bool.eq_iff_iff]; simp; omega
  have HO : Hid (okU s d n = ((numOkB s 2 && numOkB d 2) && decide (n ≤ 1472))) := by unfold Hid okU; simp [Bool.and_assoc]
  obtain ⟨W0, hW0⟩ : ∃ W0, W0 = w.alloc (.cells #[.int .i64 s, .int .i64 d, .slice a n c] 24) := ⟨_, rfl⟩
  have B0 : Below w.heap.size w W0 := by subst hW0; exact below_alloc1 _ _
  have k : W0.heap[w.heap.size]? = some (.cells #[.int .i64 s, .int .i64 d, .slice a n c] 24 (0, 0)) := by subst hW0; exact at_new rfl
  have z : w.heap.size < W0.heap.size := by subst hW0; simp
  have hfl := field_udp s d 2 a n c
  generalize he : (numOkB s 2 && numOkB d 2) = be at *
  cases be
  · go_enter Try.func39, Try.ntmps39
    go_wp2_with (first | (go_at_call 40; (try rw [← hW0]); refine (within_udp _ _ _ _ _ _).mono ?_; rintro e w1 ⟨rfl, hb⟩; replace k := (hb.block _ z).trans k; replace z := Nat.lt_of_lt_of_le z hb.size; replace B0 := next B0 hb; clear hb) | (go_at_call 78; refine (ends_any _ _ _ _).mono ?_; rw [he]; rintro e w2 ⟨rfl, hb⟩; replace k := (hb.block _ z).trans k; replace z := Nat.lt_of_lt_of_le z hb.size; replace B0 := next B0 hb; clear hb; obtain ⟨c0, c1, c2⟩ := Ul.three k))
    go_ret
    exact ⟨ret_bool (by rw [HO.out]; simp), B0⟩
  · go_enter Try.func39, Try.ntmps39
    go_wp2_with (first | (go_at_call 40; (try rw [← hW0]); refine (within_udp _ _ _ _ _ _).mono ?_; rintro e w1 ⟨rfl, hb⟩; replace k := (hb.block _ z).trans k; replace z := Nat.lt_of_lt_of_le z hb.size; replace B0 := next B0 hb; clear hb) | (go_at_call 78; refine (ends_any _ _ _ _).mono ?_; rw [he]; rintro e w2 ⟨rfl, hb⟩; replace k := (hb.block _ z).trans k; replace z := Nat.lt_of_lt_of_le z hb.size; replace B0 := next B0 hb; clear hb; obtain ⟨c0, c1, c2⟩ := Ul.three k))
    go_ret
    exact ⟨ret_bool (by rw [HO.out, ← HN.out]; simp), B0⟩

theorem okI_parts {t p s d : Int} {n : Nat} (h : okI t p s d n = true) : numOkB t 1 = true ∧ numOkB p 1 = true ∧ numOkB s 4 = true ∧ numOkB d 4 = true ∧ n ≤ 1480 := by
  unfold okI at h
  simp only [Bool.and_eq_true, decide_eq_true_eq] at h
  exact ⟨h.1.1.1.1, h.1.1.1.2, h.1.1.2, h.1.2, h.2⟩
theorem okU_parts {s d : Int} {n : Nat} (h : okU s d n = true) : numOkB s 2 = true ∧ numOkB d 2 = true ∧ n ≤ 1472 := by
  unfold okU at h
  simp only [Bool.and_eq_true, decide_eq_true_eq] at h
  exact ⟨h.1.1, h.1.2, h.2⟩

end Go.Proofs.Ythgbjbebjjeddaa.Ik
