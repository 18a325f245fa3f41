/-
  The sum of a datagram's head as the program reckons it; the head of an inner datagram.
-/
import Derived.Test.YthgbjbebjjeddaaHd
import Derived.Lib.SliceRun
namespace Go.Proofs.Ythgbjbebjjeddaa.Su
open Go Go.RowKit
open Num Rw Mk Un Put Pl App Pf Pb Ipl Hp Hd
set_option maxRecDepth 4000

theorem wt_put {w : World} {a : Option Addr} {g : Nat} {l : List Int} (h : Wt w a g l) (i : Nat) (hi : i < l.length) (x : Int) (hx : 0 ≤ x ∧ x ≤ 255) : Wt (w.setCell ⟨g, i, none⟩ (.int .u8 x)) a g (l.set i x) := by
  refine ⟨fun hp => h.head (by simpa using hp), fun j hj => ?_, fun j hj => ?_, by simpa using h.size, fun n hn => ?_⟩
  · rw [List.length_set] at hj
    by_cases e : j = i
    · subst e
      rw [World.cell?_setCell_same _ _ _ (h.cell j hj)]
      simp [List.getD, hj]
    · rw [World.cell?_setCell_other _ _ _ _ (by intro q; injection q with q1 q2; exact e q2.symm), h.cell j hj]
      simp [List.getD, Ne.symm e]
  · rw [List.length_set] at hj
    simpa using h.free j hj
  · rcases List.mem_or_eq_of_mem_set hn with h1 | h1
    · exact h.byt n h1
    · subst h1; exact hx

theorem zero_set {l : List Int} (h20 : 20 ≤ l.length) : ((l.take 20).set 10 0).set 11 0 = zero l := by
  obtain ⟨x0, x1, x2, x3, x4, x5, x6, x7, x8, x9, x10, x11, x12, x13, x14, x15, x16, x17, x18, x19, r, rfl⟩ := twenty h20
  simp [zero]
theorem zero_len {l : List Int} (h20 : 20 ≤ l.length) : (zero l).length = 20 := by
  rw [← zero_set h20]; simp; omega
theorem zero_byt {l : List Int} (hy : Byt l) : Byt (zero l) := by
  unfold zero
  refine byt_app (fun n hn => hy n (List.mem_of_mem_take hn)) (byt_app ?_ fun n hn => hy n (List.mem_of_mem_take (List.mem_of_mem_drop hn)))
  intro n hn
  simp at hn
  omega

theorem zero8 (w : World) : (zeroValue 5).run Try.prog w = .ok (.int .u8 0) w := by kernel_rfl
theorem clear_two (w : World) (g c : Nat) (ty : TypeId) (l : List Int) (h : Wt w (some ⟨g, 0, none⟩) g l) (hl : 12 ≤ l.length) :
    (Builtin.clear_ #[22] ty #[.slice (some ⟨g, 10, none⟩) 2 c]).run Try.prog w = .ok (.tuple #[]) ((w.setCell ⟨g, 10, none⟩ (.int .u8 0)).setCell ⟨g, 11, none⟩ (.int .u8 0)) := by
  have := Lib.run_clear_slice (P := Try.prog) w 22 5 ty (.int .u8 0) Try.underlying22 zero8 rfl rfl g 10 2 c (by decide) (fun j hj => by rw [h.cell (10 + j) (by omega)]; rfl) (fun j hj => h.free (10 + j) (by omega))
  rw [this]
  rfl

theorem sum_impl (a : Option Addr) (b off cap n : Nat) (l : List Int) (w : World) (h : Rd w a b off l) (hn : l.length = n) :
    Calls Try.prog 81 #[.slice a n cap] w fun e w' => ∃ S, e = .returned (.int .i64 S) ∧ Hid (S = s16 l) ∧ numOkB S 2 = true ∧ w' = w := by
  subst hn
  refine (Sm.implSum_any a b off cap l w h).mono ?_
  rintro e w' ⟨rfl, rfl⟩
  exact ⟨_, rfl, rfl, s16_ok h.byt, rfl⟩
theorem sum_spec (a : Option Addr) (b off cap n : Nat) (l : List Int) (w : World) (h : Rd w a b off l) (hn : l.length = n) :
    Calls Try.prog 92 #[.slice a n cap] w fun e w' => ∃ S, e = .returned (.int .i64 S) ∧ Hid (S = s16 l) ∧ numOkB S 2 = true ∧ w' = w := by
  subst hn
  refine (Sm.specSum_any a b off cap l w h).mono ?_
  rintro e w' ⟨rfl, rfl⟩
  exact ⟨_, rfl, rfl, s16_ok h.byt, rfl⟩

set_option maxHeartbeats 1600000 in
theorem ipSum_any (b off cap n : Nat) (l : List Int) (w : World) (h : Rd w (some ⟨b, off, none⟩) b off l) (hn : l.length = n) (h20 : 20 ≤ n) (hcap : n ≤ cap) :
    Calls Try.prog 45 #[.slice (some ⟨b, off, none⟩) n cap] w fun e w' => ∃ S, e = .returned (.int .i64 S) ∧ Hid (S = s16 (zero l)) ∧ numOkB S 2 = true ∧ Below w.heap.size w w' := by
  have h20l : 20 ≤ l.length := by omega
  have ht : (l.take 20).length = 20 := by rw [List.length_take]; omega
  have HC := clone_room ⟨b, off, none⟩ b off cap 20 (l.take 20) w (Pr.rd_take h 20) ht
  have hc0 : (20 : Int) ≤ (cap : Int) := by omega
  have HZ : Hid (((l.take 20).set 10 0).set 11 0 = zero l) := zero_set h20l
  have HZL : Hid ((zero l).length = 20) := zero_len h20l
  clear h
  go_enter Try.func45, Try.ntmps45
  go_wp2_with (first | (go_at_call 54; refine HC.mono ?_; rintro e w1 ⟨g, c1, rfl, hwt, hc1, hg, hb⟩; clear HC; have hc1z : (12 : Int) ≤ (c1 : Int) := (by omega); have hcl := fun c ty => clear_two w1 g c ty _ hwt (by rw [ht]; decide); have hw1 := wt_put (wt_put hwt 10 (by rw [ht]; decide) 0 (by decide)) 11 (by rw [List.length_set, ht]; decide) 0 (by decide); rw [HZ.out] at hw1; have B1 : Below w.heap.size w ((w1.setCell ⟨g, 10, none⟩ (.int .u8 0)).setCell ⟨g, 11, none⟩ (.int .u8 0)) := (hb.setCell (by simpa using hg) _).setCell (by simpa using hg) _; have HW : Hid (Wt ((w1.setCell ⟨g, 10, none⟩ (.int .u8 0)).setCell ⟨g, 11, none⟩ (.int .u8 0)) (some ⟨g, 0, none⟩) g (zero l)) := hw1; clear hw1 hwt hb) | (go_at_call 81; refine (sum_impl _ _ _ _ _ _ _ HW.out.rd HZL.out).mono ?_; rintro e w2 ⟨S, rfl, hS, hSok, hw2⟩; replace hw2 := hw2.symm; subst hw2))
  go_ret
  exact ⟨S, rfl, hS, hSok, B1⟩

set_option maxHeartbeats 1600000 in
theorem headU (s d : Int) (a : Option Addr) (n c : Nat) (w : World) (hs : numOkB s 2 = true) (hd : numOkB d 2 = true) (hn : n ≤ 1480) :
    Calls Try.prog 41 #[.agg #[.int .i64 s, .int .i64 d, .int .i64 2, .slice a n c]] w (Row w (udpH s d (8 + n)) 8) := by
  have hln := len_okU hn
  have HWR : Hid (IntKind.i64.wrap (8 + (n : Int)) = 8 + (n : Int)) := Get.wraps_i64 _ (by omega) (by omega)
  have hno := nought2
  have hnz : (n : Int) ≤ 1480 := by omega
  obtain ⟨W0, hW0⟩ : ∃ W0, W0 = w.alloc (.cells #[.int .i64 s, .int .i64 d, .int .i64 2, .slice a n c] 75) := ⟨_, rfl⟩
  have B : Below w.heap.size w W0 := by subst hW0; exact below_alloc1 _ _
  have k : W0.heap[w.heap.size]? = some (.cells #[.int .i64 s, .int .i64 d, .int .i64 2, .slice a n c] 75 (0, 0)) := by subst hW0; exact at_new rfl
  have z : w.heap.size < W0.heap.size := by subst hW0; simp
  obtain ⟨c0, c1, c2, c3⟩ := four k
  go_enter Try.func41, Try.ntmps41
  go_wp2
  rw [← hW0]
  clear hW0
  go_region_held3 (fun w' => w'.cell? ⟨w.heap.size, 0, none⟩ = some (.int .i64 s) ∧ w'.cell? ⟨w.heap.size, 1, none⟩ = some (.int .i64 d) ∧ w'.cell? ⟨w.heap.size, 2, none⟩ = some (.int .i64 2) ∧ w'.cell? ⟨w.heap.size, 3, none⟩ = some (.slice a n c)) (go_keep)
    (first
    | (go_at_call 47; refine (iput _ _ _ _ _ _ hv2 by2 hno (by omega) (by omega)).mono ?_; rintro e w3 ⟨v3, L3, rfl, hL3, ln3, by3, hv3, hb⟩; clear c0 c1 c2 c3; replace B := next B hb; replace k := (hb.block _ z).trans k; replace z := Nat.lt_of_lt_of_le z hb.size; clear hb; obtain ⟨c0, c1, c2, c3⟩ := four k)
    | (go_at_call 47; rw [HWR.out]; refine (iput _ _ _ _ _ _ hv1 by1 hln (by omega) (by omega)).mono ?_; rintro e w2 ⟨v2, L2, rfl, hL2, ln2, by2, hv2, hb⟩; simp at ln2; clear c0 c1 c2 c3; replace B := next B hb; replace k := (hb.block _ z).trans k; replace z := Nat.lt_of_lt_of_le z hb.size; have zz2 := z; clear hb hv1; obtain ⟨c0, c1, c2, c3⟩ := four k)
    | (go_at_call 79; refine (ends_nil _ _ _ _ hs hd).mono ?_; rintro e w1 ⟨v1, L1, rfl, hL1, ln1, by1, hv1, hb0⟩; simp at ln1; have hb := next ((Below.refl _ _).drew) hb0; clear c0 c1 c2 c3; replace B := next B hb; replace k := (hb.block _ z).trans k; replace z := Nat.lt_of_lt_of_le z hb.size; clear hb hb0; obtain ⟨c0, c1, c2, c3⟩ := four k))
  go_wp2
  go_ret
  have e3 : L3 = udpH s d (8 + n) := by rw [hL3.out, hL2.out, hL1.out]; rfl
  have l3 : L3.length = 8 := by rw [e3, udpH_len]
  exact ⟨v3, L3, rfl, e3, l3, by3, hasI_mono hv3 (by omega), B⟩

end Go.Proofs.Ythgbjbebjjeddaa.Su
