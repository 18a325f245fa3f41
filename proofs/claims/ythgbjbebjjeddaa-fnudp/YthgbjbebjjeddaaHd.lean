/-
  The heads of both kinds of datagram, as the program and as the specification write them; the sum of a head.
-/
import Derived.Test.YthgbjbebjjeddaaHp
import Derived.Lib.SliceRun
namespace Go.Proofs.Ythgbjbebjjeddaa.Hd
open Go Go.RowKit
open Num Rw Mk Un Put Pl App Pf Pb Ipl Hp
set_option maxRecDepth 4000

theorem six {w : World} {g : Nat} {v0 v1 v2 v3 v4 v5 : Value} {t : TypeId} {fr : Nat × Nat} (k : w.heap[g]? = some (.cells #[v0, v1, v2, v3, v4, v5] t fr)) :
    w.cell? ⟨g, 0, none⟩ = some v0 ∧ w.cell? ⟨g, 1, none⟩ = some v1 ∧ w.cell? ⟨g, 2, none⟩ = some v2 ∧ w.cell? ⟨g, 3, none⟩ = some v3 ∧ w.cell? ⟨g, 4, none⟩ = some v4 ∧ w.cell? ⟨g, 5, none⟩ = some v5 := by
  simp [World.cell?, k]
theorem four {w : World} {g : Nat} {v0 v1 v2 v3 : Value} {t : TypeId} {fr : Nat × Nat} (k : w.heap[g]? = some (.cells #[v0, v1, v2, v3] t fr)) :
    w.cell? ⟨g, 0, none⟩ = some v0 ∧ w.cell? ⟨g, 1, none⟩ = some v1 ∧ w.cell? ⟨g, 2, none⟩ = some v2 ∧ w.cell? ⟨g, 3, none⟩ = some v3 := by
  simp [World.cell?, k]

/-- Bytes are handed back, of the call's own, the list by a name. -/
def Row (w : World) (X : List Int) (n : Nat) (e : Ending) (w' : World) : Prop :=
  ∃ v L, e = .returned v ∧ Hid (L = X) ∧ L.length = n ∧ Byt L ∧ HasI w' w.heap.size v L ∧ Below w.heap.size w w'

theorem len_ok {n : Nat} (h : n ≤ 1480) : numOkB (20 + (n : Int)) 2 = true := mk2 (by omega) (by omega)
theorem len_okU {n : Nat} (h : n ≤ 1480) : numOkB (8 + (n : Int)) 2 = true := mk2 (by omega) (by omega)
theorem nought4 : numOkB 0 4 = true := by decide
theorem nought2 : numOkB 0 2 = true := by decide

theorem hide {p : Prop} (h : p) : Hid p := h
theorem far_own {w : World} {B g : Nat} {v : Value} {l : List Int} (h : HasI w B v l) (hg : g < B) : some g ≠ v.ownBlock := fun e => by
  have := (h.1.lt g e.symm).1
  omega

theorem own_tail (w : World) (t p : Int) (hy : Byt [0, 0, 0, 0, t, p]) : Wt (w.alloc (.cells #[.int .u8 0, .int .u8 0, .int .u8 0, .int .u8 0, .int .u8 t, .int .u8 p] 5)) (some ⟨w.heap.size, 0, none⟩) w.heap.size [0, 0, 0, 0, t, p] := by
  obtain ⟨g, cap, e, hg, hw⟩ := hasI_form (own_made w [0, 0, 0, 0, t, p] 6 #[.int .u8 0, .int .u8 0, .int .u8 0, .int .u8 0, .int .u8 t, .int .u8 p] rfl rfl (by decide)) (by simp) hy
  injection e with e1
  injection e1 with e1
  injection e1 with e1
  subst e1
  exact hw

set_option maxHeartbeats 1600000 in
theorem head_impl (t p s d S : Int) (a : Option Addr) (n c : Nat) (w : World) (ht : numOkB t 1 = true) (hp : numOkB p 1 = true) (hs : numOkB s 4 = true) (hd : numOkB d 4 = true) (hS : numOkB S 2 = true) (hn : n ≤ 1480) :
    Calls Try.prog 44 #[.agg #[.int .i64 s, .int .i64 d, .int .i64 4, .int .i64 t, .int .i64 p, .slice a n c], .int .i64 S] w (Row w (head t p s d (20 + n) S) 20) := by
  have hln := len_ok hn
  have hno := nought4
  obtain ⟨W0, hW0⟩ : ∃ W0, W0 = w.alloc (.cells #[.int .i64 s, .int .i64 d, .int .i64 4, .int .i64 t, .int .i64 p, .slice a n c] 80) := ⟨_, rfl⟩
  have eW : W0.heap.size = w.heap.size + 1 := by subst hW0; simp
  have hv0 : HasI (W0.alloc (.cells #[.int .u8 69, .int .u8 0] 5)) (w.heap.size + 1) (.slice (some ⟨w.heap.size + 1, 0, none⟩) 2 2) [69, 0] := by have := own_head W0; rw [eW] at this; exact this
  have by0 := byt_two
  have B : Below w.heap.size w (W0.alloc (.cells #[.int .u8 69, .int .u8 0] 5)) := by subst hW0; exact next (below_alloc1 _ _) (below_alloc1 _ _)
  have k : (W0.alloc (.cells #[.int .u8 69, .int .u8 0] 5)).heap[w.heap.size]? = some (.cells #[.int .i64 s, .int .i64 d, .int .i64 4, .int .i64 t, .int .i64 p, .slice a n c] 80 (0, 0)) := by rw [at_old (by omega)]; subst hW0; exact at_new rfl
  have z : w.heap.size < (W0.alloc (.cells #[.int .u8 69, .int .u8 0] 5)).heap.size := by simp; omega
  have hnz : (n : Int) ≤ 1480 := by omega
  subst hW0
  obtain ⟨c0, c1, c2, c3, c4, c5⟩ := six k
  go_enter Try.func44, Try.ntmps44
  go_wp2_with (first | (go_at_call 79; refine (ends_own _ _ _ _ _ _ _ hv5 by5 hs hd (by omega)).mono ?_; rintro e w6 ⟨v6, L6, rfl, hL6, ln6, by6, hv6, hb⟩) | (go_at_call 47; refine (iput _ _ _ _ _ _ hv4 by4 hS (by omega) (by omega)).mono ?_; rintro e w5 ⟨v5, L5, rfl, hL5, ln5, by5, hv5, hb⟩; have sz5 := hb.size; clear hv4; simp at ln5; clear c0 c1 c2 c3 c4 c5; replace B := next B hb; replace k := (hb.block _ z).trans k; replace z := Nat.lt_of_lt_of_le z hb.size; clear hb; obtain ⟨c0, c1, c2, c3, c4, c5⟩ := six k) | (go_at_call 47; refine (iput _ _ _ _ _ _ hv3 by3 hp (by omega) (by omega)).mono ?_; rintro e w4 ⟨v4, L4, rfl, hL4, ln4, by4, hv4, hb⟩; have sz4 := hb.size; clear hv3; simp at ln4; clear c0 c1 c2 c3 c4 c5; replace B := next B hb; replace k := (hb.block _ z).trans k; replace z := Nat.lt_of_lt_of_le z hb.size; clear hb; obtain ⟨c0, c1, c2, c3, c4, c5⟩ := six k) | (go_at_call 47; refine (iput _ _ _ _ _ _ hv2 by2 ht (by omega) (by omega)).mono ?_; rintro e w3 ⟨v3, L3, rfl, hL3, ln3, by3, hv3, hb⟩; have sz3 := hb.size; clear hv2; simp at ln3; clear c0 c1 c2 c3 c4 c5; replace B := next B hb; replace k := (hb.block _ z).trans k; replace z := Nat.lt_of_lt_of_le z hb.size; clear hb; obtain ⟨c0, c1, c2, c3, c4, c5⟩ := six k) | (go_at_call 47; refine (iput _ _ _ _ _ _ hv1 by1 hno (by omega) (by omega)).mono ?_; rintro e w2 ⟨v2, L2, rfl, hL2, ln2, by2, hv2, hb⟩; have sz2 := hb.size; clear hv1; simp at ln2; clear c0 c1 c2 c3 c4 c5; replace B := next B hb; replace k := (hb.block _ z).trans k; replace z := Nat.lt_of_lt_of_le z hb.size; clear hb; obtain ⟨c0, c1, c2, c3, c4, c5⟩ := six k) | (go_at_call 47; refine (iput _ _ _ _ _ _ hv0 by0 hln (by decide) (by decide)).mono ?_; rintro e w1 ⟨v1, L1, rfl, hL1, ln1, by1, hv1, hb⟩; have sz1 := hb.size; clear hv0; simp at ln1; clear c0 c1 c2 c3 c4 c5; replace B := next B hb; replace k := (hb.block _ z).trans k; replace z := Nat.lt_of_lt_of_le z hb.size; clear hb; obtain ⟨c0, c1, c2, c3, c4, c5⟩ := six k))
  go_ret
  have e6 : L6 = head t p s d (20 + n) S := by rw [hL6.out, hL5.out, hL4.out, hL3.out, hL2.out, hL1.out]; rfl
  have sB := B.size
  have ln : L6.length = 20 := by rw [e6, head_len]
  exact ⟨v6, L6, rfl, e6, ln, by6, hasI_mono hv6 (by omega), next B hb⟩

theorem byt_tail {t p : Int} (ht : numOkB t 1 = true) (hp : numOkB p 1 = true) : Byt [0, 0, 0, 0, t, p] := by
  have h1 := ok1 ht
  have h2 := ok1 hp
  intro n hn
  simp at hn
  omega

set_option maxHeartbeats 1600000 in
theorem head_spc (t p s d S : Int) (a : Option Addr) (n c : Nat) (w : World) (ht : numOkB t 1 = true) (hp : numOkB p 1 = true) (hs : numOkB s 4 = true) (hd : numOkB d 4 = true) (hS : numOkB S 2 = true) (hn : n ≤ 1480) :
    Calls Try.prog 93 #[.agg #[.int .i64 t, .int .i64 p, .int .i64 s, .int .i64 d, .slice a n c], .int .i64 S] w (Row w (head t p s d (20 + n) S) 20) := by
  have hln := len_ok hn
  have ht1 := ok1 ht
  have hp1 := ok1 hp
  have byT := byt_tail ht hp
  have EX := head_spec ht hp s d (20 + n) S
  have HX : Hid (add (add (add (add [69, 0] (20 + n) 2 ++ [0, 0, 0, 0, t, p]) S 2) s 4) d 4 = head t p s d (20 + n) S) := EX
  clear EX
  obtain ⟨W0, hW0⟩ : ∃ W0, W0 = w.alloc (.cells #[.int .i64 t, .int .i64 p, .int .i64 s, .int .i64 d, .slice a n c] 26) := ⟨_, rfl⟩
  have eW : W0.heap.size = w.heap.size + 1 := by subst hW0; simp
  have hv0 : HasI (W0.alloc (.cells #[.int .u8 69, .int .u8 0] 5)) (w.heap.size + 1) (.slice (some ⟨w.heap.size + 1, 0, none⟩) 2 2) [69, 0] := by have := own_head W0; rw [eW] at this; exact this
  have by0 := byt_two
  have B : Below w.heap.size w (W0.alloc (.cells #[.int .u8 69, .int .u8 0] 5)) := by subst hW0; exact next (below_alloc1 _ _) (below_alloc1 _ _)
  have k : (W0.alloc (.cells #[.int .u8 69, .int .u8 0] 5)).heap[w.heap.size]? = some (.cells #[.int .i64 t, .int .i64 p, .int .i64 s, .int .i64 d, .slice a n c] 26 (0, 0)) := by rw [at_old (by omega)]; subst hW0; exact at_new rfl
  have z : w.heap.size < (W0.alloc (.cells #[.int .u8 69, .int .u8 0] 5)).heap.size := by simp; omega
  have hnz : (n : Int) ≤ 1480 := by omega
  subst hW0
  obtain ⟨c0, c1, c2, c3, c4⟩ := five k
  go_enter Try.func93, Try.ntmps93
  go_wp2_with (first | (go_at_call 97; refine (sput _ _ _ _ _ _ hv4 by4 hd (by omega) (by omega)).mono ?_; rintro e w5 ⟨v5, L5, rfl, hL5, ln5, by5, hv5, hb⟩; have sz5 := hb.size; clear hv4; simp at ln5; clear c0 c1 c2 c3 c4; replace B := next B hb; replace k := (hb.block _ z).trans k; replace z := Nat.lt_of_lt_of_le z hb.size; clear hb; obtain ⟨c0, c1, c2, c3, c4⟩ := five k) | (go_at_call 97; refine (sput _ _ _ _ _ _ hv3 by3 hs (by omega) (by omega)).mono ?_; rintro e w4 ⟨v4, L4, rfl, hL4, ln4, by4, hv4, hb⟩; have sz4 := hb.size; clear hv3; simp at ln4; clear c0 c1 c2 c3 c4; replace B := next B hb; replace k := (hb.block _ z).trans k; replace z := Nat.lt_of_lt_of_le z hb.size; clear hb; obtain ⟨c0, c1, c2, c3, c4⟩ := five k) | (go_at_call 97; refine (sput _ _ _ _ _ _ hv2 by2 hS (by omega) (by omega)).mono ?_; rintro e w3 ⟨v3, L3, rfl, hL3, ln3, by3, hv3, hb⟩; have sz3 := hb.size; clear hv2; simp at ln3; clear c0 c1 c2 c3 c4; replace B := next B hb; replace k := (hb.block _ z).trans k; replace z := Nat.lt_of_lt_of_le z hb.size; clear hb; obtain ⟨c0, c1, c2, c3, c4⟩ := five k) | (at_builtin; refine wpList_app rfl (.tmp 16) (.tmp 23) rfl _ v1 L1 [0, 0, 0, 0, t, p] rfl hv1a (some ⟨w1.heap.size, 0, none⟩) w1.heap.size 0 6 rfl hT (by simp <;> omega) (by simp <;> omega) ?_; intro v2 w2 hv2 hgrow; have hb := below_own hv1a BA (by simp <;> omega) hgrow; have by2 : Byt (L1 ++ [0, 0, 0, 0, t, p]) := byt_app by1 byT; have ln2 : (L1 ++ [0, 0, 0, 0, t, p]).length = L1.length + 6 := (by simp); obtain ⟨L2, hL2⟩ : ∃ L2, L2 = L1 ++ [0, 0, 0, 0, t, p] := ⟨_, rfl⟩; rw [← hL2] at hv2 by2 ln2; have HL2 : Hid (L2 = L1 ++ [0, 0, 0, 0, t, p]) := hL2; clear k z; have k := (hgrow.block _ zA (far_own hv1a (by simp <;> omega))).trans HKA.out; have z := Nat.lt_of_lt_of_le zA hgrow.size; have zw2 := z; clear hL2 hv1a hv1 hgrow hT B BA HKA zA; have B := hb; clear hb; clear c0 c1 c2 c3 c4; obtain ⟨c0, c1, c2, c3, c4⟩ := five k) | (go_at_call 97; refine (sput _ _ _ _ _ _ hv0 by0 hln (by decide) (by decide)).mono ?_; rintro e w1 ⟨v1, L1, rfl, hL1, ln1, by1, hv1, hb⟩; have sz1 := hb.size; clear hv0; simp at ln1; clear c0 c1 c2 c3 c4; replace B := next B hb; replace k := (hb.block _ z).trans k; replace z := Nat.lt_of_lt_of_le z hb.size; clear hb; obtain ⟨c0, c1, c2, c3, c4⟩ := five k; have zw := z; have BE := below_alloc1 w1 (.cells #[.int .u8 0, .int .u8 0, .int .u8 0, .int .u8 0, .int .u8 t, .int .u8 p] 5); have hv1a := hasI_below hv1 BE; have hT := (own_tail w1 t p byT).rd; have BA := next B BE; have kA := (BE.block _ z).trans k; have zA := Nat.lt_of_lt_of_le z BE.size; have HKA := hide kA; clear BE kA))
  go_ret
  have e6 : L5 = head t p s d (20 + n) S := by rw [← HX.out, hL5.out, hL4.out, hL3.out, HL2.out, hL1.out]
  have sB := B.size
  have ln : L5.length = 20 := by rw [e6, head_len]
  exact ⟨v5, L5, rfl, e6, ln, by5, hasI_mono hv5 (by omega), B⟩

end Go.Proofs.Ythgbjbebjjeddaa.Hd
