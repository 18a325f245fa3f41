/-
  Contracts laid together (Yd, Ye, Hb, Yg, Ef, Eg, Ga).
-/
import Derived.Test.YtcbhpmgjmpbpmaaQc
import Derived.Deep.LoopGhost
namespace Go.Proofs.Ytcbhpmgjmpbpmaa.Yd
set_option maxRecDepth 8000
open Go Go.RowKit
open Num Pl Pq Yb Yc

/-- The action is right. -/
def actB (x : A3) : Bool :=
  if x.1 = 1 then decide (1 ≤ x.2.1 ∧ x.2.1 ≤ 255 ∧ x.2.2 = 0) else if x.1 = 3 then decide (x.2.1 = 1 ∨ x.2.1 = 2) && numOkB x.2.2 6
  else decide ((x.1 = 2 ∨ x.1 = 4 ∨ x.1 = 5) ∧ x.2.1 = 0 ∧ x.2.2 = 0)
/-- The first k are right. -/
def pre (l : List A3) (k : Nat) : Prop := ∀ i, i < k → actB (l.getD i z3) = true
instance (l : List A3) (k : Nat) : Decidable (pre l k) := by unfold pre; infer_instance
/-- The actions are right. -/
def actsB (l : List A3) : Bool := decide (l.length ≤ 12 ∧ pre l l.length)
theorem actsB_long {l : List A3} (h : 12 < l.length) : actsB l = false := by
  unfold actsB; rw [decide_eq_false]; omega
theorem actsB_yes {l : List A3} (h : l.length ≤ 12) (hp : pre l l.length) : actsB l = true := decide_eq_true ⟨h, hp⟩
theorem actsB_no {l : List A3} {k : Nat} (hk : k < l.length) (h : actB (l.getD k z3) = false) : actsB l = false :=
  decide_eq_false fun hh => by have := hh.2 k hk; rw [h] at this; cases this
theorem pre_step {l : List A3} {k : Nat} (h : pre l k) (hk : actB (l.getD k z3) = true) : pre l (k + 1) := by
  intro i hi
  by_cases e : i = k
  · subst e; exact hk
  · exact h i (by omega)
theorem actsB_out {l : List A3} (h : actsB l = true) : l.length ≤ 12 ∧ pre l l.length := of_decide_eq_true h

theorem three0 {w : World} {g : Nat} {v0 v1 v2 : Value} {t : TypeId} {fr : Nat × Nat} (k : w.heap[g]? = some (.cells #[v0, v1, v2] t fr)) : w.cell? ⟨g, 0, none⟩ = some v0 := by simp [World.cell?, k]
theorem three1 {w : World} {g : Nat} {v0 v1 v2 : Value} {t : TypeId} {fr : Nat × Nat} (k : w.heap[g]? = some (.cells #[v0, v1, v2] t fr)) : w.cell? ⟨g, 1, none⟩ = some v1 := by simp [World.cell?, k]
theorem three2 {w : World} {g : Nat} {v0 v1 v2 : Value} {t : TypeId} {fr : Nat × Nat} (k : w.heap[g]? = some (.cells #[v0, v1, v2] t fr)) : w.cell? ⟨g, 2, none⟩ = some v2 := by simp [World.cell?, k]
theorem actB_set (a b : Int) : actB (3, a, b) = (decide (a = 1 ∨ a = 2) && Hg.fits a b) := by
  by_cases h : a = 1 ∨ a = 2
  · have e : Hg.fits a b = numOkB b 6 := by
      rcases h with rfl | rfl <;> rfl
    simp [actB, e]
  · simp [actB, h]

theorem info88 : (Try.prog.info? 202).map (fun i => (i.zero, i.size, i.bytes)) = some (some .nilIface, 1, 16) := by kernel_rfl

/-- The row of the first k actions, by their types. -/
def row (l : List A3) (k : Nat) : Nat → Value := fun j => if j < k then actV (l.getD j z3) else .nilIface
theorem row_step {w : World} {g n : Nat} {l : List A3} {k : Nat} (h : w.rowIs g 202 n (row l k)) : (w.setCell ⟨g, k, none⟩ (actV (l.getD k z3))).rowIs g 202 n (row l (k + 1)) := by
  refine (h.set k _).congr fun i hi => ?_
  unfold row
  by_cases e : i = k
  · subst e; simp
  · have : (i < k + 1) = (i < k) := by rw [eq_iff_iff]; omega
    simp [e, this]

set_option maxHeartbeats 40000000 in
theorem acts_any (a : Option Addr) (b off cap : Nat) (l : List A3) (w : World) (h : Rd w a b off l) :
    Calls Try.prog 203 #[.slice a l.length cap] w fun e w' => Below w.heap.size w w' ∧
      (actsB l = false → e = .returned (.tuple #[.slice none 0 0, .bool false])) ∧
      (actsB l = true → e = .returned (.tuple #[.slice (some ⟨w.heap.size, 0, none⟩) l.length l.length, .bool true]) ∧ w'.rowIs w.heap.size 202 l.length (row l l.length)) := by
  obtain ⟨hh, hc, hs⟩ := h
  by_cases h12 : 12 < l.length
  · have hz : (12 : Int) < (l.length : Int) := by omega
    have hB := actsB_long h12
    go_enter Try.func203, Try.ntmps203
    go_wp2
    exact bodyPost_ret (v := .tuple #[.slice none 0 0, .bool false]) (by simp [results, Try.results203, go_sem]) rfl ⟨Below.refl _ _, fun _ => rfl, fun h => by rw [hB] at h; cases h⟩
  obtain ⟨n, hn⟩ : ∃ n, n = l.length := ⟨_, rfl⟩
  have hmk := run_make_row' (P := Try.prog) 198 202 .nilIface 16 Try.underlying198 info88 rfl .i64 .i64 n (by omega) (by omega)
  rw [← hn] at hh hc hs h12 ⊢
  have HN : Hid (n = l.length) := hn
  clear hn
  have hz : ¬ (12 : Int) < (n : Int) := by omega
  go_enter Try.func203, Try.ntmps203
  go_wp2
  clear hmk
  go_loopw [15] (fun i wr => ∃ k : Nat, k ≤ n ∧ i = .int .i64 k ∧ Below w.heap.size w wr ∧ wr.rowIs w.heap.size 202 n (row l k) ∧ pre l k) (fun i _ => n - (intOf i).toNat)
  case atStart => exact ⟨0, Nat.zero_le _, rfl, (Below.refl _ _).alloc (Nat.le_refl _) _, (World.rowIs_made w .nilIface n 202).congr (fun i _ => by simp [row]), fun i hi => by omega⟩
  case round =>
    obtain ⟨k, hk, rfl, hbel, hrow, hpre⟩ := hrel
    have HP : Hid (pre l k) := hpre
    clear hpre
    by_cases hlt : k < n
    · obtain rfl := hh (by omega)
      have hkz : (k : Int) < (n : Int) := by omega
      obtain ⟨c0, c1, c2⟩ := (hc k hlt).of hbel (hc k hlt).lt
      generalize ex : l.getD k z3 = x at c0 c1 c2
      have HX : Hid (l.getD k z3 = x) := ex
      clear ex hc hh
      have hlw : w.heap.size < wr.heap.size := hrow.lt
      obtain ⟨x0, x1, x2⟩ := x
      simp only at c0 c1 c2
      obtain ⟨W0, hW0⟩ : ∃ W0, W0 = wr.alloc (.cells #[.int .i64 x0, .int .i64 x1, .int .i64 x2] 133) := ⟨_, rfl⟩
      have kA : W0.heap[wr.heap.size]? = some (.cells #[.int .i64 x0, .int .i64 x1, .int .i64 x2] 133 (0, 0)) := by subst hW0; exact at_new rfl
      have zA : wr.heap.size < W0.heap.size := by subst hW0; simp
      have B0 : Below wr.heap.size wr W0 := by subst hW0; exact below_alloc1 _ _
      have hlt2 : w.heap.size ≠ wr.heap.size := by omega
      replace hrow := hrow.of_block (B0.block _ hlw)
      replace hlw := hrow.lt
      replace hbel := Rw.next hbel B0
      clear B0
      by_cases k1 : x0 = 1
      · subst k1
        by_cases hr : 1 ≤ x1 ∧ x1 ≤ 255
        · by_cases h0 : x2 = 0
          · subst h0
            go_wp2_with (go_at_call 211; rw [← hW0]; refine (kind_any (1, x1, 0) _).mono ?_; rintro e w1 ⟨rfl, hb⟩; rw [show actV (1, x1, 0) = .iface 208 (.agg #[.int .i64 x1]) from rfl]; replace hrow := hrow.of_block (hb.block _ hlw); replace kA := (hb.block _ zA).trans kA; replace hbel := Rw.next hbel hb; have g0 := hrow.cell hlt; have g1 := hrow.frozen k)
            obtain ⟨W2, hW2⟩ : ∃ W2, W2 = w1.setCell ⟨w.heap.size, k, none⟩ (.iface 208 (.agg #[.int .i64 x1])) := ⟨_, rfl⟩
            rw [← hW2]
            have q0 : W2.cell? ⟨w.heap.size, k, none⟩ = some (.iface 208 (.agg #[.int .i64 x1])) := by subst hW2; exact World.cell?_setCell_same _ _ _ g0
            have kA2 : W2.heap[wr.heap.size]? = some (.cells #[.int .i64 1, .int .i64 x1, .int .i64 0] 133 (0, 0)) := by subst hW2; exact (Below.heap_setCell _ _ _ _ (fun h => hlt2 h.symm)).trans kA
            have hrow2 : W2.rowIs w.heap.size 202 n (row l (k + 1)) := by subst hW2; have := row_step hrow; rw [HX.out] at this; exact this
            have hb2 : Below w.heap.size w W2 := by subst hW2; exact hbel.setCell (by simp) _
            clear hW2 hrow g0 g1 hbel kA
            have hB := pre_step HP.out (by rw [HX.out]; simp [actB, hr])
            refine wp_region_held_drew (S := (fun w' => w'.cell? ⟨w.heap.size, k, none⟩ = some (.iface 208 (.agg #[.int .i64 x1])) ∧ w'.heap[wr.heap.size]? = some (.cells #[.int .i64 1, .int .i64 x1, .int .i64 0] 133 (0, 0)))) (by kernel_rfl) ⟨q0, kA2⟩ (fun hHeld => ?_)
            refine take (i := 0) (d := some 25) (v := .slice (some ⟨w.heap.size, 0, none⟩) n n) rfl (by kernel_rfl) (by kernel_rfl) (by kernel_rfl) (by kernel_rfl) (fun _ _ _ h => h) (Or.inl ⟨by rfl, by intro w hSw; go_simp⟩) hHeld ?_
            simp only [Act.put, List.setIfInBounds_toArray, List.set_cons_zero, List.set_cons_succ]
            refine take (i := 1) (d := some 26) (v := .int .i64 k) rfl (by kernel_rfl) (by kernel_rfl) (by kernel_rfl) (by kernel_rfl) (fun _ _ _ h => h) (Or.inl ⟨by rfl, by intro w hSw; go_simp⟩) hHeld ?_
            simp only [Act.put, List.setIfInBounds_toArray, List.set_cons_zero, List.set_cons_succ]
            refine take (i := 2) (d := some 27) (v := .pointer (some ⟨w.heap.size, k, none⟩)) rfl (by kernel_rfl) (by kernel_rfl) (by kernel_rfl) (by kernel_rfl) (fun _ _ _ h => h) (Or.inl ⟨by rfl, by intro w hSw; go_simp⟩) hHeld ?_
            simp only [Act.put, List.setIfInBounds_toArray, List.set_cons_zero, List.set_cons_succ]
            refine take (i := 3) (d := some 28) (v := .iface 208 (.agg #[.int .i64 x1])) rfl (by kernel_rfl) (by kernel_rfl) (by kernel_rfl) (by kernel_rfl) (fun _ _ _ h => h) (Or.inl ⟨by rfl, by intro w hSw; have q1 := hSw.1; go_simp⟩) hHeld ?_
            simp only [Act.put, List.setIfInBounds_toArray, List.set_cons_zero, List.set_cons_succ]
            refine wpAnyH_ready (rs := [4]) (by kernel_rfl) (by simp) (Rg.call1 rfl (by kernel_rfl) 212 (.tmp 28) 202 (by kernel_rfl) 29 (by kernel_rfl) (.iface 208 (.agg #[.int .i64 x1])) (by kernel_rfl) (fun _ => rfl) (Yf.right1y hr _) ?_ AllReadyH.nil)
            rintro e w3 ⟨rfl, hb3⟩
            replace hb3 := Rw.next (Below.drew (Below.refl _ W2)) hb3
            replace q0 := (hb3.cell (World.block_lt_of_cell? _ _ q0)).trans q0
            replace kA2 := (hb3.block _ (Array.getElem?_eq_some_iff.1 kA2).1).trans kA2
            replace hrow2 := hrow2.of_block (hb3.block _ hrow2.lt)
            replace hb2 := Rw.next hb2 hb3
            clear hb3
            refine ⟨_, rfl, ⟨q0, kA2⟩, fun hHeld => ?_⟩
            simp only [Act.put, List.setIfInBounds_toArray, List.set_cons_zero, List.set_cons_succ]
            refine take (i := 5) (d := some 30) (v := .bool false) rfl (by kernel_rfl) (by kernel_rfl) (by kernel_rfl) (by kernel_rfl) (fun _ _ _ h => h) (Or.inl ⟨by rfl, by intro w hSw; go_simp⟩) hHeld ?_
            simp only [Act.put, List.setIfInBounds_toArray, List.set_cons_zero, List.set_cons_succ]
            refine take (i := 6) (d := some 31) (v := .bool false) rfl (by kernel_rfl) (by kernel_rfl) (by kernel_rfl) (by kernel_rfl) (fun _ _ _ h => h) (Or.inl ⟨by rfl, by intro w hSw; go_simp⟩) hHeld ?_
            simp only [Act.put, List.setIfInBounds_toArray, List.set_cons_zero, List.set_cons_succ]
            refine take (i := 7) (d := some 32) (v := .slice (some ⟨w.heap.size, 0, none⟩) n n) rfl (by kernel_rfl) (by kernel_rfl) (by kernel_rfl) (by kernel_rfl) (fun _ _ _ h => h) (Or.inl ⟨by rfl, by intro w hSw; go_simp⟩) hHeld ?_
            simp only [Act.put, List.setIfInBounds_toArray, List.set_cons_zero, List.set_cons_succ]
            refine take (i := 8) (d := some 33) (v := .int .i64 k) rfl (by kernel_rfl) (by kernel_rfl) (by kernel_rfl) (by kernel_rfl) (fun _ _ _ h => h) (Or.inl ⟨by rfl, by intro w hSw; go_simp⟩) hHeld ?_
            simp only [Act.put, List.setIfInBounds_toArray, List.set_cons_zero, List.set_cons_succ]
            refine take (i := 9) (d := some 34) (v := .pointer (some ⟨w.heap.size, k, none⟩)) rfl (by kernel_rfl) (by kernel_rfl) (by kernel_rfl) (by kernel_rfl) (fun _ _ _ h => h) (Or.inl ⟨by rfl, by intro w hSw; go_simp⟩) hHeld ?_
            simp only [Act.put, List.setIfInBounds_toArray, List.set_cons_zero, List.set_cons_succ]
            refine take (i := 10) (d := some 35) (v := .iface 208 (.agg #[.int .i64 x1])) rfl (by kernel_rfl) (by kernel_rfl) (by kernel_rfl) (by kernel_rfl) (fun _ _ _ h => h) (Or.inl ⟨by rfl, by intro w hSw; have q1 := hSw.1; go_simp⟩) hHeld ?_
            simp only [Act.put, List.setIfInBounds_toArray, List.set_cons_zero, List.set_cons_succ]
            refine take (i := 12) (d := some 37) (v := .agg #[.int .i64 1, .int .i64 x1, .int .i64 0]) rfl (by kernel_rfl) (by kernel_rfl) (by kernel_rfl) (by kernel_rfl) (fun _ _ _ h => h) (Or.inl ⟨by rfl, by intro w hSw; have q2 := hSw.2; have d0 := three0 q2; have d1 := three1 q2; have d2 := three2 q2; go_simp⟩) hHeld ?_
            simp only [Act.put, List.setIfInBounds_toArray, List.set_cons_zero, List.set_cons_succ]
            refine wpAnyH_ready (rs := [11]) (by kernel_rfl) (by simp) (Yf.callI rfl (by kernel_rfl) 230 (.tmp 35) rfl 36 (by kernel_rfl) (.iface 208 (.agg #[.int .i64 x1])) (.agg #[.int .i64 x1]) (by kernel_rfl) (fun w => by kernel_rfl) (act1 x1 _) ?_ AllReadyH.nil)
            rintro e w4 ⟨rfl, hb4⟩
            replace q0 := (hb4.cell (World.block_lt_of_cell? _ _ q0)).trans q0
            replace kA2 := (hb4.block _ (Array.getElem?_eq_some_iff.1 kA2).1).trans kA2
            replace hrow2 := hrow2.of_block (hb4.block _ hrow2.lt)
            replace hb2 := Rw.next hb2 hb4
            clear hb4
            refine ⟨_, rfl, ⟨q0, kA2⟩, fun hHeld => ?_⟩
            simp only [Act.put, List.setIfInBounds_toArray, List.set_cons_zero, List.set_cons_succ]
            refine take (i := 13) (d := some 38) (v := .bool false) rfl (by kernel_rfl) (by kernel_rfl) (by kernel_rfl) (by kernel_rfl) (fun _ _ _ h => h) (Or.inl ⟨by rfl, by intro w hSw; go_simp⟩) hHeld ?_
            simp only [Act.put, List.setIfInBounds_toArray, List.set_cons_zero, List.set_cons_succ]
            refine take (i := 14) (d := some 39) (v := .bool false) rfl (by kernel_rfl) (by kernel_rfl) (by kernel_rfl) (by kernel_rfl) (fun _ _ _ h => h) (Or.inl ⟨by rfl, by intro w hSw; go_simp⟩) hHeld ?_
            simp only [Act.put, List.setIfInBounds_toArray, List.set_cons_zero, List.set_cons_succ]
            refine wpAnyH_done (by kernel_rfl) ?_ _
            go_wp2
            all_goals go_roundw
            all_goals first | exact ⟨k + 1, by omega, by go_num, hb2, hrow2, hB⟩ | (simp [intOf]; omega)
          · have hne : (0 == x2) = false := by simpa using fun h : 0 = x2 => h0 h.symm
            go_wp2_with (go_at_call 211; rw [← hW0]; refine (kind_any (1, x1, x2) _).mono ?_; rintro e w1 ⟨rfl, hb⟩; rw [show actV (1, x1, x2) = .iface 208 (.agg #[.int .i64 x1]) from rfl]; replace hrow := hrow.of_block (hb.block _ hlw); replace kA := (hb.block _ zA).trans kA; replace hbel := Rw.next hbel hb; have g0 := hrow.cell hlt; have g1 := hrow.frozen k)
            obtain ⟨W2, hW2⟩ : ∃ W2, W2 = w1.setCell ⟨w.heap.size, k, none⟩ (.iface 208 (.agg #[.int .i64 x1])) := ⟨_, rfl⟩
            rw [← hW2]
            have q0 : W2.cell? ⟨w.heap.size, k, none⟩ = some (.iface 208 (.agg #[.int .i64 x1])) := by subst hW2; exact World.cell?_setCell_same _ _ _ g0
            have kA2 : W2.heap[wr.heap.size]? = some (.cells #[.int .i64 1, .int .i64 x1, .int .i64 x2] 133 (0, 0)) := by subst hW2; exact (Below.heap_setCell _ _ _ _ (fun h => hlt2 h.symm)).trans kA
            have hrow2 : W2.rowIs w.heap.size 202 n (row l (k + 1)) := by subst hW2; have := row_step hrow; rw [HX.out] at this; exact this
            have hb2 : Below w.heap.size w W2 := by subst hW2; exact hbel.setCell (by simp) _
            clear hW2 hrow g0 g1 hbel kA
            have hB := actsB_no (l := l) (k := k) (by have := HN.out; omega) (by rw [HX.out]; simp [actB, h0])
            refine wp_region_held_drew (S := (fun w' => w'.cell? ⟨w.heap.size, k, none⟩ = some (.iface 208 (.agg #[.int .i64 x1])) ∧ w'.heap[wr.heap.size]? = some (.cells #[.int .i64 1, .int .i64 x1, .int .i64 x2] 133 (0, 0)))) (by kernel_rfl) ⟨q0, kA2⟩ (fun hHeld => ?_)
            refine take (i := 0) (d := some 25) (v := .slice (some ⟨w.heap.size, 0, none⟩) n n) rfl (by kernel_rfl) (by kernel_rfl) (by kernel_rfl) (by kernel_rfl) (fun _ _ _ h => h) (Or.inl ⟨by rfl, by intro w hSw; go_simp⟩) hHeld ?_
            simp only [Act.put, List.setIfInBounds_toArray, List.set_cons_zero, List.set_cons_succ]
            refine take (i := 1) (d := some 26) (v := .int .i64 k) rfl (by kernel_rfl) (by kernel_rfl) (by kernel_rfl) (by kernel_rfl) (fun _ _ _ h => h) (Or.inl ⟨by rfl, by intro w hSw; go_simp⟩) hHeld ?_
            simp only [Act.put, List.setIfInBounds_toArray, List.set_cons_zero, List.set_cons_succ]
            refine take (i := 2) (d := some 27) (v := .pointer (some ⟨w.heap.size, k, none⟩)) rfl (by kernel_rfl) (by kernel_rfl) (by kernel_rfl) (by kernel_rfl) (fun _ _ _ h => h) (Or.inl ⟨by rfl, by intro w hSw; go_simp⟩) hHeld ?_
            simp only [Act.put, List.setIfInBounds_toArray, List.set_cons_zero, List.set_cons_succ]
            refine take (i := 3) (d := some 28) (v := .iface 208 (.agg #[.int .i64 x1])) rfl (by kernel_rfl) (by kernel_rfl) (by kernel_rfl) (by kernel_rfl) (fun _ _ _ h => h) (Or.inl ⟨by rfl, by intro w hSw; have q1 := hSw.1; go_simp⟩) hHeld ?_
            simp only [Act.put, List.setIfInBounds_toArray, List.set_cons_zero, List.set_cons_succ]
            refine wpAnyH_ready (rs := [4]) (by kernel_rfl) (by simp) (Rg.call1 rfl (by kernel_rfl) 212 (.tmp 28) 202 (by kernel_rfl) 29 (by kernel_rfl) (.iface 208 (.agg #[.int .i64 x1])) (by kernel_rfl) (fun _ => rfl) (Yf.right1y hr _) ?_ AllReadyH.nil)
            rintro e w3 ⟨rfl, hb3⟩
            replace hb3 := Rw.next (Below.drew (Below.refl _ W2)) hb3
            replace q0 := (hb3.cell (World.block_lt_of_cell? _ _ q0)).trans q0
            replace kA2 := (hb3.block _ (Array.getElem?_eq_some_iff.1 kA2).1).trans kA2
            replace hrow2 := hrow2.of_block (hb3.block _ hrow2.lt)
            replace hb2 := Rw.next hb2 hb3
            clear hb3
            refine ⟨_, rfl, ⟨q0, kA2⟩, fun hHeld => ?_⟩
            simp only [Act.put, List.setIfInBounds_toArray, List.set_cons_zero, List.set_cons_succ]
            refine take (i := 5) (d := some 30) (v := .bool false) rfl (by kernel_rfl) (by kernel_rfl) (by kernel_rfl) (by kernel_rfl) (fun _ _ _ h => h) (Or.inl ⟨by rfl, by intro w hSw; go_simp⟩) hHeld ?_
            simp only [Act.put, List.setIfInBounds_toArray, List.set_cons_zero, List.set_cons_succ]
            refine take (i := 6) (d := some 31) (v := .bool false) rfl (by kernel_rfl) (by kernel_rfl) (by kernel_rfl) (by kernel_rfl) (fun _ _ _ h => h) (Or.inl ⟨by rfl, by intro w hSw; go_simp⟩) hHeld ?_
            simp only [Act.put, List.setIfInBounds_toArray, List.set_cons_zero, List.set_cons_succ]
            refine take (i := 7) (d := some 32) (v := .slice (some ⟨w.heap.size, 0, none⟩) n n) rfl (by kernel_rfl) (by kernel_rfl) (by kernel_rfl) (by kernel_rfl) (fun _ _ _ h => h) (Or.inl ⟨by rfl, by intro w hSw; go_simp⟩) hHeld ?_
            simp only [Act.put, List.setIfInBounds_toArray, List.set_cons_zero, List.set_cons_succ]
            refine take (i := 8) (d := some 33) (v := .int .i64 k) rfl (by kernel_rfl) (by kernel_rfl) (by kernel_rfl) (by kernel_rfl) (fun _ _ _ h => h) (Or.inl ⟨by rfl, by intro w hSw; go_simp⟩) hHeld ?_
            simp only [Act.put, List.setIfInBounds_toArray, List.set_cons_zero, List.set_cons_succ]
            refine take (i := 9) (d := some 34) (v := .pointer (some ⟨w.heap.size, k, none⟩)) rfl (by kernel_rfl) (by kernel_rfl) (by kernel_rfl) (by kernel_rfl) (fun _ _ _ h => h) (Or.inl ⟨by rfl, by intro w hSw; go_simp⟩) hHeld ?_
            simp only [Act.put, List.setIfInBounds_toArray, List.set_cons_zero, List.set_cons_succ]
            refine take (i := 10) (d := some 35) (v := .iface 208 (.agg #[.int .i64 x1])) rfl (by kernel_rfl) (by kernel_rfl) (by kernel_rfl) (by kernel_rfl) (fun _ _ _ h => h) (Or.inl ⟨by rfl, by intro w hSw; have q1 := hSw.1; go_simp⟩) hHeld ?_
            simp only [Act.put, List.setIfInBounds_toArray, List.set_cons_zero, List.set_cons_succ]
            refine take (i := 12) (d := some 37) (v := .agg #[.int .i64 1, .int .i64 x1, .int .i64 x2]) rfl (by kernel_rfl) (by kernel_rfl) (by kernel_rfl) (by kernel_rfl) (fun _ _ _ h => h) (Or.inl ⟨by rfl, by intro w hSw; have q2 := hSw.2; have d0 := three0 q2; have d1 := three1 q2; have d2 := three2 q2; go_simp⟩) hHeld ?_
            simp only [Act.put, List.setIfInBounds_toArray, List.set_cons_zero, List.set_cons_succ]
            refine wpAnyH_ready (rs := [11]) (by kernel_rfl) (by simp) (Yf.callI rfl (by kernel_rfl) 230 (.tmp 35) rfl 36 (by kernel_rfl) (.iface 208 (.agg #[.int .i64 x1])) (.agg #[.int .i64 x1]) (by kernel_rfl) (fun w => by kernel_rfl) (act1 x1 _) ?_ AllReadyH.nil)
            rintro e w4 ⟨rfl, hb4⟩
            replace q0 := (hb4.cell (World.block_lt_of_cell? _ _ q0)).trans q0
            replace kA2 := (hb4.block _ (Array.getElem?_eq_some_iff.1 kA2).1).trans kA2
            replace hrow2 := hrow2.of_block (hb4.block _ hrow2.lt)
            replace hb2 := Rw.next hb2 hb4
            clear hb4
            refine ⟨_, rfl, ⟨q0, kA2⟩, fun hHeld => ?_⟩
            simp only [Act.put, List.setIfInBounds_toArray, List.set_cons_zero, List.set_cons_succ]
            refine take (i := 13) (d := some 38) (v := .bool true) rfl (by kernel_rfl) (by kernel_rfl) (by kernel_rfl) (by kernel_rfl) (fun _ _ _ h => h) (Or.inl ⟨by rfl, by intro w hSw; go_simp⟩) hHeld ?_
            simp only [Act.put, List.setIfInBounds_toArray, List.set_cons_zero, List.set_cons_succ]
            refine take (i := 14) (d := some 39) (v := .bool true) rfl (by kernel_rfl) (by kernel_rfl) (by kernel_rfl) (by kernel_rfl) (fun _ _ _ h => h) (Or.inl ⟨by rfl, by intro w hSw; go_simp⟩) hHeld ?_
            simp only [Act.put, List.setIfInBounds_toArray, List.set_cons_zero, List.set_cons_succ]
            refine wpAnyH_done (by kernel_rfl) ?_ _
            go_wp2
            all_goals exact bodyPost_ret (v := .tuple #[.slice none 0 0, .bool false]) (by simp [results, Try.results203, go_sem]) rfl ⟨hb2, fun _ => rfl, fun h => (by rw [hB] at h; cases h)⟩
        · skip
          go_wp2_with (go_at_call 211; rw [← hW0]; refine (kind_any (1, x1, x2) _).mono ?_; rintro e w1 ⟨rfl, hb⟩; rw [show actV (1, x1, x2) = .iface 208 (.agg #[.int .i64 x1]) from rfl]; replace hrow := hrow.of_block (hb.block _ hlw); replace kA := (hb.block _ zA).trans kA; replace hbel := Rw.next hbel hb; have g0 := hrow.cell hlt; have g1 := hrow.frozen k)
          obtain ⟨W2, hW2⟩ : ∃ W2, W2 = w1.setCell ⟨w.heap.size, k, none⟩ (.iface 208 (.agg #[.int .i64 x1])) := ⟨_, rfl⟩
          rw [← hW2]
          have q0 : W2.cell? ⟨w.heap.size, k, none⟩ = some (.iface 208 (.agg #[.int .i64 x1])) := by subst hW2; exact World.cell?_setCell_same _ _ _ g0
          have kA2 : W2.heap[wr.heap.size]? = some (.cells #[.int .i64 1, .int .i64 x1, .int .i64 x2] 133 (0, 0)) := by subst hW2; exact (Below.heap_setCell _ _ _ _ (fun h => hlt2 h.symm)).trans kA
          have hrow2 : W2.rowIs w.heap.size 202 n (row l (k + 1)) := by subst hW2; have := row_step hrow; rw [HX.out] at this; exact this
          have hb2 : Below w.heap.size w W2 := by subst hW2; exact hbel.setCell (by simp) _
          clear hW2 hrow g0 g1 hbel kA
          have hB := actsB_no (l := l) (k := k) (by have := HN.out; omega) (by rw [HX.out]; simp [actB]; omega)
          refine wp_region_held_drew (S := (fun w' => w'.cell? ⟨w.heap.size, k, none⟩ = some (.iface 208 (.agg #[.int .i64 x1])) ∧ w'.heap[wr.heap.size]? = some (.cells #[.int .i64 1, .int .i64 x1, .int .i64 x2] 133 (0, 0)))) (by kernel_rfl) ⟨q0, kA2⟩ (fun hHeld => ?_)
          refine take (i := 0) (d := some 25) (v := .slice (some ⟨w.heap.size, 0, none⟩) n n) rfl (by kernel_rfl) (by kernel_rfl) (by kernel_rfl) (by kernel_rfl) (fun _ _ _ h => h) (Or.inl ⟨by rfl, by intro w hSw; go_simp⟩) hHeld ?_
          simp only [Act.put, List.setIfInBounds_toArray, List.set_cons_zero, List.set_cons_succ]
          refine take (i := 1) (d := some 26) (v := .int .i64 k) rfl (by kernel_rfl) (by kernel_rfl) (by kernel_rfl) (by kernel_rfl) (fun _ _ _ h => h) (Or.inl ⟨by rfl, by intro w hSw; go_simp⟩) hHeld ?_
          simp only [Act.put, List.setIfInBounds_toArray, List.set_cons_zero, List.set_cons_succ]
          refine take (i := 2) (d := some 27) (v := .pointer (some ⟨w.heap.size, k, none⟩)) rfl (by kernel_rfl) (by kernel_rfl) (by kernel_rfl) (by kernel_rfl) (fun _ _ _ h => h) (Or.inl ⟨by rfl, by intro w hSw; go_simp⟩) hHeld ?_
          simp only [Act.put, List.setIfInBounds_toArray, List.set_cons_zero, List.set_cons_succ]
          refine take (i := 3) (d := some 28) (v := .iface 208 (.agg #[.int .i64 x1])) rfl (by kernel_rfl) (by kernel_rfl) (by kernel_rfl) (by kernel_rfl) (fun _ _ _ h => h) (Or.inl ⟨by rfl, by intro w hSw; have q1 := hSw.1; go_simp⟩) hHeld ?_
          simp only [Act.put, List.setIfInBounds_toArray, List.set_cons_zero, List.set_cons_succ]
          refine wpAnyH_ready (rs := [4]) (by kernel_rfl) (by simp) (Rg.call1 rfl (by kernel_rfl) 212 (.tmp 28) 202 (by kernel_rfl) 29 (by kernel_rfl) (.iface 208 (.agg #[.int .i64 x1])) (by kernel_rfl) (fun _ => rfl) (Yf.right1n hr _) ?_ AllReadyH.nil)
          rintro e w3 ⟨rfl, hb3⟩
          replace hb3 := Rw.next (Below.drew (Below.refl _ W2)) hb3
          replace q0 := (hb3.cell (World.block_lt_of_cell? _ _ q0)).trans q0
          replace kA2 := (hb3.block _ (Array.getElem?_eq_some_iff.1 kA2).1).trans kA2
          replace hrow2 := hrow2.of_block (hb3.block _ hrow2.lt)
          replace hb2 := Rw.next hb2 hb3
          clear hb3
          refine ⟨_, rfl, ⟨q0, kA2⟩, fun hHeld => ?_⟩
          simp only [Act.put, List.setIfInBounds_toArray, List.set_cons_zero, List.set_cons_succ]
          refine take (i := 5) (d := some 30) (v := .bool true) rfl (by kernel_rfl) (by kernel_rfl) (by kernel_rfl) (by kernel_rfl) (fun _ _ _ h => h) (Or.inl ⟨by rfl, by intro w hSw; go_simp⟩) hHeld ?_
          simp only [Act.put, List.setIfInBounds_toArray, List.set_cons_zero, List.set_cons_succ]
          refine take (i := 6) (d := some 31) (v := .bool true) rfl (by kernel_rfl) (by kernel_rfl) (by kernel_rfl) (by kernel_rfl) (fun _ _ _ h => h) (Or.inl ⟨by rfl, by intro w hSw; go_simp⟩) hHeld ?_
          simp only [Act.put, List.setIfInBounds_toArray, List.set_cons_zero, List.set_cons_succ]
          refine take (i := 7) (d := some 32) (v := undef) rfl (by kernel_rfl) (by kernel_rfl) (by kernel_rfl) (by kernel_rfl) (fun _ _ _ h => h) (Or.inr ⟨by rfl, rfl⟩) hHeld ?_
          simp only [Act.put, List.setIfInBounds_toArray, List.set_cons_zero, List.set_cons_succ]
          refine take (i := 8) (d := some 33) (v := undef) rfl (by kernel_rfl) (by kernel_rfl) (by kernel_rfl) (by kernel_rfl) (fun _ _ _ h => h) (Or.inr ⟨by rfl, rfl⟩) hHeld ?_
          simp only [Act.put, List.setIfInBounds_toArray, List.set_cons_zero, List.set_cons_succ]
          refine take (i := 9) (d := some 34) (v := undef) rfl (by kernel_rfl) (by kernel_rfl) (by kernel_rfl) (by kernel_rfl) (fun _ _ _ h => h) (Or.inr ⟨by rfl, rfl⟩) hHeld ?_
          simp only [Act.put, List.setIfInBounds_toArray, List.set_cons_zero, List.set_cons_succ]
          refine take (i := 10) (d := some 35) (v := undef) rfl (by kernel_rfl) (by kernel_rfl) (by kernel_rfl) (by kernel_rfl) (fun _ _ _ h => h) (Or.inr ⟨by rfl, rfl⟩) hHeld ?_
          simp only [Act.put, List.setIfInBounds_toArray, List.set_cons_zero, List.set_cons_succ]
          refine take (i := 11) (d := some 36) (v := undef) rfl (by kernel_rfl) (by kernel_rfl) (by kernel_rfl) (by kernel_rfl) (fun _ _ _ h => h) (Or.inr ⟨by rfl, rfl⟩) hHeld ?_
          simp only [Act.put, List.setIfInBounds_toArray, List.set_cons_zero, List.set_cons_succ]
          refine take (i := 12) (d := some 37) (v := undef) rfl (by kernel_rfl) (by kernel_rfl) (by kernel_rfl) (by kernel_rfl) (fun _ _ _ h => h) (Or.inr ⟨by rfl, rfl⟩) hHeld ?_
          simp only [Act.put, List.setIfInBounds_toArray, List.set_cons_zero, List.set_cons_succ]
          refine take (i := 13) (d := some 38) (v := undef) rfl (by kernel_rfl) (by kernel_rfl) (by kernel_rfl) (by kernel_rfl) (fun _ _ _ h => h) (Or.inr ⟨by rfl, rfl⟩) hHeld ?_
          simp only [Act.put, List.setIfInBounds_toArray, List.set_cons_zero, List.set_cons_succ]
          refine take (i := 14) (d := some 39) (v := .bool true) rfl (by kernel_rfl) (by kernel_rfl) (by kernel_rfl) (by kernel_rfl) (fun _ _ _ h => h) (Or.inl ⟨by rfl, by intro w hSw; go_simp⟩) hHeld ?_
          simp only [Act.put, List.setIfInBounds_toArray, List.set_cons_zero, List.set_cons_succ]
          refine wpAnyH_done (by kernel_rfl) ?_ _
          go_wp2
          all_goals exact bodyPost_ret (v := .tuple #[.slice none 0 0, .bool false]) (by simp [results, Try.results203, go_sem]) rfl ⟨hb2, fun _ => rfl, fun h => (by rw [hB] at h; cases h)⟩
      by_cases k2 : x0 = 2
      · subst k2
        by_cases h0 : x1 = 0
        · subst h0
          by_cases h1 : x2 = 0
          · subst h1
            go_wp2_with (go_at_call 211; rw [← hW0]; refine (kind_any (2, 0, 0) _).mono ?_; rintro e w1 ⟨rfl, hb⟩; rw [show actV (2, 0, 0) = .iface 210 (.agg #[]) from rfl]; replace hrow := hrow.of_block (hb.block _ hlw); replace kA := (hb.block _ zA).trans kA; replace hbel := Rw.next hbel hb; have g0 := hrow.cell hlt; have g1 := hrow.frozen k)
            obtain ⟨W2, hW2⟩ : ∃ W2, W2 = w1.setCell ⟨w.heap.size, k, none⟩ (.iface 210 (.agg #[])) := ⟨_, rfl⟩
            rw [← hW2]
            have q0 : W2.cell? ⟨w.heap.size, k, none⟩ = some (.iface 210 (.agg #[])) := by subst hW2; exact World.cell?_setCell_same _ _ _ g0
            have kA2 : W2.heap[wr.heap.size]? = some (.cells #[.int .i64 2, .int .i64 0, .int .i64 0] 133 (0, 0)) := by subst hW2; exact (Below.heap_setCell _ _ _ _ (fun h => hlt2 h.symm)).trans kA
            have hrow2 : W2.rowIs w.heap.size 202 n (row l (k + 1)) := by subst hW2; have := row_step hrow; rw [HX.out] at this; exact this
            have hb2 : Below w.heap.size w W2 := by subst hW2; exact hbel.setCell (by simp) _
            clear hW2 hrow g0 g1 hbel kA
            have hB := pre_step HP.out (by rw [HX.out]; simp [actB])
            refine wp_region_held_drew (S := (fun w' => w'.cell? ⟨w.heap.size, k, none⟩ = some (.iface 210 (.agg #[])) ∧ w'.heap[wr.heap.size]? = some (.cells #[.int .i64 2, .int .i64 0, .int .i64 0] 133 (0, 0)))) (by kernel_rfl) ⟨q0, kA2⟩ (fun hHeld => ?_)
            refine take (i := 0) (d := some 25) (v := .slice (some ⟨w.heap.size, 0, none⟩) n n) rfl (by kernel_rfl) (by kernel_rfl) (by kernel_rfl) (by kernel_rfl) (fun _ _ _ h => h) (Or.inl ⟨by rfl, by intro w hSw; go_simp⟩) hHeld ?_
            simp only [Act.put, List.setIfInBounds_toArray, List.set_cons_zero, List.set_cons_succ]
            refine take (i := 1) (d := some 26) (v := .int .i64 k) rfl (by kernel_rfl) (by kernel_rfl) (by kernel_rfl) (by kernel_rfl) (fun _ _ _ h => h) (Or.inl ⟨by rfl, by intro w hSw; go_simp⟩) hHeld ?_
            simp only [Act.put, List.setIfInBounds_toArray, List.set_cons_zero, List.set_cons_succ]
            refine take (i := 2) (d := some 27) (v := .pointer (some ⟨w.heap.size, k, none⟩)) rfl (by kernel_rfl) (by kernel_rfl) (by kernel_rfl) (by kernel_rfl) (fun _ _ _ h => h) (Or.inl ⟨by rfl, by intro w hSw; go_simp⟩) hHeld ?_
            simp only [Act.put, List.setIfInBounds_toArray, List.set_cons_zero, List.set_cons_succ]
            refine take (i := 3) (d := some 28) (v := .iface 210 (.agg #[])) rfl (by kernel_rfl) (by kernel_rfl) (by kernel_rfl) (by kernel_rfl) (fun _ _ _ h => h) (Or.inl ⟨by rfl, by intro w hSw; have q1 := hSw.1; go_simp⟩) hHeld ?_
            simp only [Act.put, List.setIfInBounds_toArray, List.set_cons_zero, List.set_cons_succ]
            refine wpAnyH_ready (rs := [4]) (by kernel_rfl) (by simp) (Rg.call1 rfl (by kernel_rfl) 212 (.tmp 28) 202 (by kernel_rfl) 29 (by kernel_rfl) (.iface 210 (.agg #[])) (by kernel_rfl) (fun _ => rfl) (right2 _) ?_ AllReadyH.nil)
            rintro e w3 ⟨rfl, hb3⟩
            replace hb3 := Rw.next (Below.drew (Below.refl _ W2)) hb3
            replace q0 := (hb3.cell (World.block_lt_of_cell? _ _ q0)).trans q0
            replace kA2 := (hb3.block _ (Array.getElem?_eq_some_iff.1 kA2).1).trans kA2
            replace hrow2 := hrow2.of_block (hb3.block _ hrow2.lt)
            replace hb2 := Rw.next hb2 hb3
            clear hb3
            refine ⟨_, rfl, ⟨q0, kA2⟩, fun hHeld => ?_⟩
            simp only [Act.put, List.setIfInBounds_toArray, List.set_cons_zero, List.set_cons_succ]
            refine take (i := 5) (d := some 30) (v := .bool false) rfl (by kernel_rfl) (by kernel_rfl) (by kernel_rfl) (by kernel_rfl) (fun _ _ _ h => h) (Or.inl ⟨by rfl, by intro w hSw; go_simp⟩) hHeld ?_
            simp only [Act.put, List.setIfInBounds_toArray, List.set_cons_zero, List.set_cons_succ]
            refine take (i := 6) (d := some 31) (v := .bool false) rfl (by kernel_rfl) (by kernel_rfl) (by kernel_rfl) (by kernel_rfl) (fun _ _ _ h => h) (Or.inl ⟨by rfl, by intro w hSw; go_simp⟩) hHeld ?_
            simp only [Act.put, List.setIfInBounds_toArray, List.set_cons_zero, List.set_cons_succ]
            refine take (i := 7) (d := some 32) (v := .slice (some ⟨w.heap.size, 0, none⟩) n n) rfl (by kernel_rfl) (by kernel_rfl) (by kernel_rfl) (by kernel_rfl) (fun _ _ _ h => h) (Or.inl ⟨by rfl, by intro w hSw; go_simp⟩) hHeld ?_
            simp only [Act.put, List.setIfInBounds_toArray, List.set_cons_zero, List.set_cons_succ]
            refine take (i := 8) (d := some 33) (v := .int .i64 k) rfl (by kernel_rfl) (by kernel_rfl) (by kernel_rfl) (by kernel_rfl) (fun _ _ _ h => h) (Or.inl ⟨by rfl, by intro w hSw; go_simp⟩) hHeld ?_
            simp only [Act.put, List.setIfInBounds_toArray, List.set_cons_zero, List.set_cons_succ]
            refine take (i := 9) (d := some 34) (v := .pointer (some ⟨w.heap.size, k, none⟩)) rfl (by kernel_rfl) (by kernel_rfl) (by kernel_rfl) (by kernel_rfl) (fun _ _ _ h => h) (Or.inl ⟨by rfl, by intro w hSw; go_simp⟩) hHeld ?_
            simp only [Act.put, List.setIfInBounds_toArray, List.set_cons_zero, List.set_cons_succ]
            refine take (i := 10) (d := some 35) (v := .iface 210 (.agg #[])) rfl (by kernel_rfl) (by kernel_rfl) (by kernel_rfl) (by kernel_rfl) (fun _ _ _ h => h) (Or.inl ⟨by rfl, by intro w hSw; have q1 := hSw.1; go_simp⟩) hHeld ?_
            simp only [Act.put, List.setIfInBounds_toArray, List.set_cons_zero, List.set_cons_succ]
            refine take (i := 12) (d := some 37) (v := .agg #[.int .i64 2, .int .i64 0, .int .i64 0]) rfl (by kernel_rfl) (by kernel_rfl) (by kernel_rfl) (by kernel_rfl) (fun _ _ _ h => h) (Or.inl ⟨by rfl, by intro w hSw; have q2 := hSw.2; have d0 := three0 q2; have d1 := three1 q2; have d2 := three2 q2; go_simp⟩) hHeld ?_
            simp only [Act.put, List.setIfInBounds_toArray, List.set_cons_zero, List.set_cons_succ]
            refine wpAnyH_ready (rs := [11]) (by kernel_rfl) (by simp) (Yf.callI rfl (by kernel_rfl) 231 (.tmp 35) rfl 36 (by kernel_rfl) (.iface 210 (.agg #[])) (.agg #[]) (by kernel_rfl) (fun w => by kernel_rfl) (act2 _) ?_ AllReadyH.nil)
            rintro e w4 ⟨rfl, hb4⟩
            replace q0 := (hb4.cell (World.block_lt_of_cell? _ _ q0)).trans q0
            replace kA2 := (hb4.block _ (Array.getElem?_eq_some_iff.1 kA2).1).trans kA2
            replace hrow2 := hrow2.of_block (hb4.block _ hrow2.lt)
            replace hb2 := Rw.next hb2 hb4
            clear hb4
            refine ⟨_, rfl, ⟨q0, kA2⟩, fun hHeld => ?_⟩
            simp only [Act.put, List.setIfInBounds_toArray, List.set_cons_zero, List.set_cons_succ]
            refine take (i := 13) (d := some 38) (v := .bool false) rfl (by kernel_rfl) (by kernel_rfl) (by kernel_rfl) (by kernel_rfl) (fun _ _ _ h => h) (Or.inl ⟨by rfl, by intro w hSw; go_simp⟩) hHeld ?_
            simp only [Act.put, List.setIfInBounds_toArray, List.set_cons_zero, List.set_cons_succ]
            refine take (i := 14) (d := some 39) (v := .bool false) rfl (by kernel_rfl) (by kernel_rfl) (by kernel_rfl) (by kernel_rfl) (fun _ _ _ h => h) (Or.inl ⟨by rfl, by intro w hSw; go_simp⟩) hHeld ?_
            simp only [Act.put, List.setIfInBounds_toArray, List.set_cons_zero, List.set_cons_succ]
            refine wpAnyH_done (by kernel_rfl) ?_ _
            go_wp2
            all_goals go_roundw
            all_goals first | exact ⟨k + 1, by omega, by go_num, hb2, hrow2, hB⟩ | (simp [intOf]; omega)
          · have hne : (0 == x2) = false := by simpa using fun h : 0 = x2 => h1 h.symm
            go_wp2_with (go_at_call 211; rw [← hW0]; refine (kind_any (2, 0, x2) _).mono ?_; rintro e w1 ⟨rfl, hb⟩; rw [show actV (2, 0, x2) = .iface 210 (.agg #[]) from rfl]; replace hrow := hrow.of_block (hb.block _ hlw); replace kA := (hb.block _ zA).trans kA; replace hbel := Rw.next hbel hb; have g0 := hrow.cell hlt; have g1 := hrow.frozen k)
            obtain ⟨W2, hW2⟩ : ∃ W2, W2 = w1.setCell ⟨w.heap.size, k, none⟩ (.iface 210 (.agg #[])) := ⟨_, rfl⟩
            rw [← hW2]
            have q0 : W2.cell? ⟨w.heap.size, k, none⟩ = some (.iface 210 (.agg #[])) := by subst hW2; exact World.cell?_setCell_same _ _ _ g0
            have kA2 : W2.heap[wr.heap.size]? = some (.cells #[.int .i64 2, .int .i64 0, .int .i64 x2] 133 (0, 0)) := by subst hW2; exact (Below.heap_setCell _ _ _ _ (fun h => hlt2 h.symm)).trans kA
            have hrow2 : W2.rowIs w.heap.size 202 n (row l (k + 1)) := by subst hW2; have := row_step hrow; rw [HX.out] at this; exact this
            have hb2 : Below w.heap.size w W2 := by subst hW2; exact hbel.setCell (by simp) _
            clear hW2 hrow g0 g1 hbel kA
            have hB := actsB_no (l := l) (k := k) (by have := HN.out; omega) (by rw [HX.out]; simp [actB, h1])
            refine wp_region_held_drew (S := (fun w' => w'.cell? ⟨w.heap.size, k, none⟩ = some (.iface 210 (.agg #[])) ∧ w'.heap[wr.heap.size]? = some (.cells #[.int .i64 2, .int .i64 0, .int .i64 x2] 133 (0, 0)))) (by kernel_rfl) ⟨q0, kA2⟩ (fun hHeld => ?_)
            refine take (i := 0) (d := some 25) (v := .slice (some ⟨w.heap.size, 0, none⟩) n n) rfl (by kernel_rfl) (by kernel_rfl) (by kernel_rfl) (by kernel_rfl) (fun _ _ _ h => h) (Or.inl ⟨by rfl, by intro w hSw; go_simp⟩) hHeld ?_
            simp only [Act.put, List.setIfInBounds_toArray, List.set_cons_zero, List.set_cons_succ]
            refine take (i := 1) (d := some 26) (v := .int .i64 k) rfl (by kernel_rfl) (by kernel_rfl) (by kernel_rfl) (by kernel_rfl) (fun _ _ _ h => h) (Or.inl ⟨by rfl, by intro w hSw; go_simp⟩) hHeld ?_
            simp only [Act.put, List.setIfInBounds_toArray, List.set_cons_zero, List.set_cons_succ]
            refine take (i := 2) (d := some 27) (v := .pointer (some ⟨w.heap.size, k, none⟩)) rfl (by kernel_rfl) (by kernel_rfl) (by kernel_rfl) (by kernel_rfl) (fun _ _ _ h => h) (Or.inl ⟨by rfl, by intro w hSw; go_simp⟩) hHeld ?_
            simp only [Act.put, List.setIfInBounds_toArray, List.set_cons_zero, List.set_cons_succ]
            refine take (i := 3) (d := some 28) (v := .iface 210 (.agg #[])) rfl (by kernel_rfl) (by kernel_rfl) (by kernel_rfl) (by kernel_rfl) (fun _ _ _ h => h) (Or.inl ⟨by rfl, by intro w hSw; have q1 := hSw.1; go_simp⟩) hHeld ?_
            simp only [Act.put, List.setIfInBounds_toArray, List.set_cons_zero, List.set_cons_succ]
            refine wpAnyH_ready (rs := [4]) (by kernel_rfl) (by simp) (Rg.call1 rfl (by kernel_rfl) 212 (.tmp 28) 202 (by kernel_rfl) 29 (by kernel_rfl) (.iface 210 (.agg #[])) (by kernel_rfl) (fun _ => rfl) (right2 _) ?_ AllReadyH.nil)
            rintro e w3 ⟨rfl, hb3⟩
            replace hb3 := Rw.next (Below.drew (Below.refl _ W2)) hb3
            replace q0 := (hb3.cell (World.block_lt_of_cell? _ _ q0)).trans q0
            replace kA2 := (hb3.block _ (Array.getElem?_eq_some_iff.1 kA2).1).trans kA2
            replace hrow2 := hrow2.of_block (hb3.block _ hrow2.lt)
            replace hb2 := Rw.next hb2 hb3
            clear hb3
            refine ⟨_, rfl, ⟨q0, kA2⟩, fun hHeld => ?_⟩
            simp only [Act.put, List.setIfInBounds_toArray, List.set_cons_zero, List.set_cons_succ]
            refine take (i := 5) (d := some 30) (v := .bool false) rfl (by kernel_rfl) (by kernel_rfl) (by kernel_rfl) (by kernel_rfl) (fun _ _ _ h => h) (Or.inl ⟨by rfl, by intro w hSw; go_simp⟩) hHeld ?_
            simp only [Act.put, List.setIfInBounds_toArray, List.set_cons_zero, List.set_cons_succ]
            refine take (i := 6) (d := some 31) (v := .bool false) rfl (by kernel_rfl) (by kernel_rfl) (by kernel_rfl) (by kernel_rfl) (fun _ _ _ h => h) (Or.inl ⟨by rfl, by intro w hSw; go_simp⟩) hHeld ?_
            simp only [Act.put, List.setIfInBounds_toArray, List.set_cons_zero, List.set_cons_succ]
            refine take (i := 7) (d := some 32) (v := .slice (some ⟨w.heap.size, 0, none⟩) n n) rfl (by kernel_rfl) (by kernel_rfl) (by kernel_rfl) (by kernel_rfl) (fun _ _ _ h => h) (Or.inl ⟨by rfl, by intro w hSw; go_simp⟩) hHeld ?_
            simp only [Act.put, List.setIfInBounds_toArray, List.set_cons_zero, List.set_cons_succ]
            refine take (i := 8) (d := some 33) (v := .int .i64 k) rfl (by kernel_rfl) (by kernel_rfl) (by kernel_rfl) (by kernel_rfl) (fun _ _ _ h => h) (Or.inl ⟨by rfl, by intro w hSw; go_simp⟩) hHeld ?_
            simp only [Act.put, List.setIfInBounds_toArray, List.set_cons_zero, List.set_cons_succ]
            refine take (i := 9) (d := some 34) (v := .pointer (some ⟨w.heap.size, k, none⟩)) rfl (by kernel_rfl) (by kernel_rfl) (by kernel_rfl) (by kernel_rfl) (fun _ _ _ h => h) (Or.inl ⟨by rfl, by intro w hSw; go_simp⟩) hHeld ?_
            simp only [Act.put, List.setIfInBounds_toArray, List.set_cons_zero, List.set_cons_succ]
            refine take (i := 10) (d := some 35) (v := .iface 210 (.agg #[])) rfl (by kernel_rfl) (by kernel_rfl) (by kernel_rfl) (by kernel_rfl) (fun _ _ _ h => h) (Or.inl ⟨by rfl, by intro w hSw; have q1 := hSw.1; go_simp⟩) hHeld ?_
            simp only [Act.put, List.setIfInBounds_toArray, List.set_cons_zero, List.set_cons_succ]
            refine take (i := 12) (d := some 37) (v := .agg #[.int .i64 2, .int .i64 0, .int .i64 x2]) rfl (by kernel_rfl) (by kernel_rfl) (by kernel_rfl) (by kernel_rfl) (fun _ _ _ h => h) (Or.inl ⟨by rfl, by intro w hSw; have q2 := hSw.2; have d0 := three0 q2; have d1 := three1 q2; have d2 := three2 q2; go_simp⟩) hHeld ?_
            simp only [Act.put, List.setIfInBounds_toArray, List.set_cons_zero, List.set_cons_succ]
            refine wpAnyH_ready (rs := [11]) (by kernel_rfl) (by simp) (Yf.callI rfl (by kernel_rfl) 231 (.tmp 35) rfl 36 (by kernel_rfl) (.iface 210 (.agg #[])) (.agg #[]) (by kernel_rfl) (fun w => by kernel_rfl) (act2 _) ?_ AllReadyH.nil)
            rintro e w4 ⟨rfl, hb4⟩
            replace q0 := (hb4.cell (World.block_lt_of_cell? _ _ q0)).trans q0
            replace kA2 := (hb4.block _ (Array.getElem?_eq_some_iff.1 kA2).1).trans kA2
            replace hrow2 := hrow2.of_block (hb4.block _ hrow2.lt)
            replace hb2 := Rw.next hb2 hb4
            clear hb4
            refine ⟨_, rfl, ⟨q0, kA2⟩, fun hHeld => ?_⟩
            simp only [Act.put, List.setIfInBounds_toArray, List.set_cons_zero, List.set_cons_succ]
            refine take (i := 13) (d := some 38) (v := .bool true) rfl (by kernel_rfl) (by kernel_rfl) (by kernel_rfl) (by kernel_rfl) (fun _ _ _ h => h) (Or.inl ⟨by rfl, by intro w hSw; go_simp⟩) hHeld ?_
            simp only [Act.put, List.setIfInBounds_toArray, List.set_cons_zero, List.set_cons_succ]
            refine take (i := 14) (d := some 39) (v := .bool true) rfl (by kernel_rfl) (by kernel_rfl) (by kernel_rfl) (by kernel_rfl) (fun _ _ _ h => h) (Or.inl ⟨by rfl, by intro w hSw; go_simp⟩) hHeld ?_
            simp only [Act.put, List.setIfInBounds_toArray, List.set_cons_zero, List.set_cons_succ]
            refine wpAnyH_done (by kernel_rfl) ?_ _
            go_wp2
            all_goals exact bodyPost_ret (v := .tuple #[.slice none 0 0, .bool false]) (by simp [results, Try.results203, go_sem]) rfl ⟨hb2, fun _ => rfl, fun h => (by rw [hB] at h; cases h)⟩
        · have hne : (0 == x1) = false := by simpa using fun h : 0 = x1 => h0 h.symm
          go_wp2_with (go_at_call 211; rw [← hW0]; refine (kind_any (2, x1, x2) _).mono ?_; rintro e w1 ⟨rfl, hb⟩; rw [show actV (2, x1, x2) = .iface 210 (.agg #[]) from rfl]; replace hrow := hrow.of_block (hb.block _ hlw); replace kA := (hb.block _ zA).trans kA; replace hbel := Rw.next hbel hb; have g0 := hrow.cell hlt; have g1 := hrow.frozen k)
          obtain ⟨W2, hW2⟩ : ∃ W2, W2 = w1.setCell ⟨w.heap.size, k, none⟩ (.iface 210 (.agg #[])) := ⟨_, rfl⟩
          rw [← hW2]
          have q0 : W2.cell? ⟨w.heap.size, k, none⟩ = some (.iface 210 (.agg #[])) := by subst hW2; exact World.cell?_setCell_same _ _ _ g0
          have kA2 : W2.heap[wr.heap.size]? = some (.cells #[.int .i64 2, .int .i64 x1, .int .i64 x2] 133 (0, 0)) := by subst hW2; exact (Below.heap_setCell _ _ _ _ (fun h => hlt2 h.symm)).trans kA
          have hrow2 : W2.rowIs w.heap.size 202 n (row l (k + 1)) := by subst hW2; have := row_step hrow; rw [HX.out] at this; exact this
          have hb2 : Below w.heap.size w W2 := by subst hW2; exact hbel.setCell (by simp) _
          clear hW2 hrow g0 g1 hbel kA
          have hB := actsB_no (l := l) (k := k) (by have := HN.out; omega) (by rw [HX.out]; simp [actB, h0])
          refine wp_region_held_drew (S := (fun w' => w'.cell? ⟨w.heap.size, k, none⟩ = some (.iface 210 (.agg #[])) ∧ w'.heap[wr.heap.size]? = some (.cells #[.int .i64 2, .int .i64 x1, .int .i64 x2] 133 (0, 0)))) (by kernel_rfl) ⟨q0, kA2⟩ (fun hHeld => ?_)
          refine take (i := 0) (d := some 25) (v := .slice (some ⟨w.heap.size, 0, none⟩) n n) rfl (by kernel_rfl) (by kernel_rfl) (by kernel_rfl) (by kernel_rfl) (fun _ _ _ h => h) (Or.inl ⟨by rfl, by intro w hSw; go_simp⟩) hHeld ?_
          simp only [Act.put, List.setIfInBounds_toArray, List.set_cons_zero, List.set_cons_succ]
          refine take (i := 1) (d := some 26) (v := .int .i64 k) rfl (by kernel_rfl) (by kernel_rfl) (by kernel_rfl) (by kernel_rfl) (fun _ _ _ h => h) (Or.inl ⟨by rfl, by intro w hSw; go_simp⟩) hHeld ?_
          simp only [Act.put, List.setIfInBounds_toArray, List.set_cons_zero, List.set_cons_succ]
          refine take (i := 2) (d := some 27) (v := .pointer (some ⟨w.heap.size, k, none⟩)) rfl (by kernel_rfl) (by kernel_rfl) (by kernel_rfl) (by kernel_rfl) (fun _ _ _ h => h) (Or.inl ⟨by rfl, by intro w hSw; go_simp⟩) hHeld ?_
          simp only [Act.put, List.setIfInBounds_toArray, List.set_cons_zero, List.set_cons_succ]
          refine take (i := 3) (d := some 28) (v := .iface 210 (.agg #[])) rfl (by kernel_rfl) (by kernel_rfl) (by kernel_rfl) (by kernel_rfl) (fun _ _ _ h => h) (Or.inl ⟨by rfl, by intro w hSw; have q1 := hSw.1; go_simp⟩) hHeld ?_
          simp only [Act.put, List.setIfInBounds_toArray, List.set_cons_zero, List.set_cons_succ]
          refine wpAnyH_ready (rs := [4]) (by kernel_rfl) (by simp) (Rg.call1 rfl (by kernel_rfl) 212 (.tmp 28) 202 (by kernel_rfl) 29 (by kernel_rfl) (.iface 210 (.agg #[])) (by kernel_rfl) (fun _ => rfl) (right2 _) ?_ AllReadyH.nil)
          rintro e w3 ⟨rfl, hb3⟩
          replace hb3 := Rw.next (Below.drew (Below.refl _ W2)) hb3
          replace q0 := (hb3.cell (World.block_lt_of_cell? _ _ q0)).trans q0
          replace kA2 := (hb3.block _ (Array.getElem?_eq_some_iff.1 kA2).1).trans kA2
          replace hrow2 := hrow2.of_block (hb3.block _ hrow2.lt)
          replace hb2 := Rw.next hb2 hb3
          clear hb3
          refine ⟨_, rfl, ⟨q0, kA2⟩, fun hHeld => ?_⟩
          simp only [Act.put, List.setIfInBounds_toArray, List.set_cons_zero, List.set_cons_succ]
          refine take (i := 5) (d := some 30) (v := .bool false) rfl (by kernel_rfl) (by kernel_rfl) (by kernel_rfl) (by kernel_rfl) (fun _ _ _ h => h) (Or.inl ⟨by rfl, by intro w hSw; go_simp⟩) hHeld ?_
          simp only [Act.put, List.setIfInBounds_toArray, List.set_cons_zero, List.set_cons_succ]
          refine take (i := 6) (d := some 31) (v := .bool false) rfl (by kernel_rfl) (by kernel_rfl) (by kernel_rfl) (by kernel_rfl) (fun _ _ _ h => h) (Or.inl ⟨by rfl, by intro w hSw; go_simp⟩) hHeld ?_
          simp only [Act.put, List.setIfInBounds_toArray, List.set_cons_zero, List.set_cons_succ]
          refine take (i := 7) (d := some 32) (v := .slice (some ⟨w.heap.size, 0, none⟩) n n) rfl (by kernel_rfl) (by kernel_rfl) (by kernel_rfl) (by kernel_rfl) (fun _ _ _ h => h) (Or.inl ⟨by rfl, by intro w hSw; go_simp⟩) hHeld ?_
          simp only [Act.put, List.setIfInBounds_toArray, List.set_cons_zero, List.set_cons_succ]
          refine take (i := 8) (d := some 33) (v := .int .i64 k) rfl (by kernel_rfl) (by kernel_rfl) (by kernel_rfl) (by kernel_rfl) (fun _ _ _ h => h) (Or.inl ⟨by rfl, by intro w hSw; go_simp⟩) hHeld ?_
          simp only [Act.put, List.setIfInBounds_toArray, List.set_cons_zero, List.set_cons_succ]
          refine take (i := 9) (d := some 34) (v := .pointer (some ⟨w.heap.size, k, none⟩)) rfl (by kernel_rfl) (by kernel_rfl) (by kernel_rfl) (by kernel_rfl) (fun _ _ _ h => h) (Or.inl ⟨by rfl, by intro w hSw; go_simp⟩) hHeld ?_
          simp only [Act.put, List.setIfInBounds_toArray, List.set_cons_zero, List.set_cons_succ]
          refine take (i := 10) (d := some 35) (v := .iface 210 (.agg #[])) rfl (by kernel_rfl) (by kernel_rfl) (by kernel_rfl) (by kernel_rfl) (fun _ _ _ h => h) (Or.inl ⟨by rfl, by intro w hSw; have q1 := hSw.1; go_simp⟩) hHeld ?_
          simp only [Act.put, List.setIfInBounds_toArray, List.set_cons_zero, List.set_cons_succ]
          refine take (i := 12) (d := some 37) (v := .agg #[.int .i64 2, .int .i64 x1, .int .i64 x2]) rfl (by kernel_rfl) (by kernel_rfl) (by kernel_rfl) (by kernel_rfl) (fun _ _ _ h => h) (Or.inl ⟨by rfl, by intro w hSw; have q2 := hSw.2; have d0 := three0 q2; have d1 := three1 q2; have d2 := three2 q2; go_simp⟩) hHeld ?_
          simp only [Act.put, List.setIfInBounds_toArray, List.set_cons_zero, List.set_cons_succ]
          refine wpAnyH_ready (rs := [11]) (by kernel_rfl) (by simp) (Yf.callI rfl (by kernel_rfl) 231 (.tmp 35) rfl 36 (by kernel_rfl) (.iface 210 (.agg #[])) (.agg #[]) (by kernel_rfl) (fun w => by kernel_rfl) (act2 _) ?_ AllReadyH.nil)
          rintro e w4 ⟨rfl, hb4⟩
          replace q0 := (hb4.cell (World.block_lt_of_cell? _ _ q0)).trans q0
          replace kA2 := (hb4.block _ (Array.getElem?_eq_some_iff.1 kA2).1).trans kA2
          replace hrow2 := hrow2.of_block (hb4.block _ hrow2.lt)
          replace hb2 := Rw.next hb2 hb4
          clear hb4
          refine ⟨_, rfl, ⟨q0, kA2⟩, fun hHeld => ?_⟩
          simp only [Act.put, List.setIfInBounds_toArray, List.set_cons_zero, List.set_cons_succ]
          refine take (i := 13) (d := some 38) (v := .bool true) rfl (by kernel_rfl) (by kernel_rfl) (by kernel_rfl) (by kernel_rfl) (fun _ _ _ h => h) (Or.inl ⟨by rfl, by intro w hSw; go_simp⟩) hHeld ?_
          simp only [Act.put, List.setIfInBounds_toArray, List.set_cons_zero, List.set_cons_succ]
          refine take (i := 14) (d := some 39) (v := .bool true) rfl (by kernel_rfl) (by kernel_rfl) (by kernel_rfl) (by kernel_rfl) (fun _ _ _ h => h) (Or.inl ⟨by rfl, by intro w hSw; go_simp⟩) hHeld ?_
          simp only [Act.put, List.setIfInBounds_toArray, List.set_cons_zero, List.set_cons_succ]
          refine wpAnyH_done (by kernel_rfl) ?_ _
          go_wp2
          all_goals exact bodyPost_ret (v := .tuple #[.slice none 0 0, .bool false]) (by simp [results, Try.results203, go_sem]) rfl ⟨hb2, fun _ => rfl, fun h => (by rw [hB] at h; cases h)⟩
      by_cases k4 : x0 = 4
      · subst k4
        by_cases h0 : x1 = 0
        · subst h0
          by_cases h1 : x2 = 0
          · subst h1
            go_wp2_with (go_at_call 211; rw [← hW0]; refine (kind_any (4, 0, 0) _).mono ?_; rintro e w1 ⟨rfl, hb⟩; rw [show actV (4, 0, 0) = .iface 213 (.agg #[]) from rfl]; replace hrow := hrow.of_block (hb.block _ hlw); replace kA := (hb.block _ zA).trans kA; replace hbel := Rw.next hbel hb; have g0 := hrow.cell hlt; have g1 := hrow.frozen k)
            obtain ⟨W2, hW2⟩ : ∃ W2, W2 = w1.setCell ⟨w.heap.size, k, none⟩ (.iface 213 (.agg #[])) := ⟨_, rfl⟩
            rw [← hW2]
            have q0 : W2.cell? ⟨w.heap.size, k, none⟩ = some (.iface 213 (.agg #[])) := by subst hW2; exact World.cell?_setCell_same _ _ _ g0
            have kA2 : W2.heap[wr.heap.size]? = some (.cells #[.int .i64 4, .int .i64 0, .int .i64 0] 133 (0, 0)) := by subst hW2; exact (Below.heap_setCell _ _ _ _ (fun h => hlt2 h.symm)).trans kA
            have hrow2 : W2.rowIs w.heap.size 202 n (row l (k + 1)) := by subst hW2; have := row_step hrow; rw [HX.out] at this; exact this
            have hb2 : Below w.heap.size w W2 := by subst hW2; exact hbel.setCell (by simp) _
            clear hW2 hrow g0 g1 hbel kA
            have hB := pre_step HP.out (by rw [HX.out]; simp [actB])
            refine wp_region_held_drew (S := (fun w' => w'.cell? ⟨w.heap.size, k, none⟩ = some (.iface 213 (.agg #[])) ∧ w'.heap[wr.heap.size]? = some (.cells #[.int .i64 4, .int .i64 0, .int .i64 0] 133 (0, 0)))) (by kernel_rfl) ⟨q0, kA2⟩ (fun hHeld => ?_)
            refine take (i := 0) (d := some 25) (v := .slice (some ⟨w.heap.size, 0, none⟩) n n) rfl (by kernel_rfl) (by kernel_rfl) (by kernel_rfl) (by kernel_rfl) (fun _ _ _ h => h) (Or.inl ⟨by rfl, by intro w hSw; go_simp⟩) hHeld ?_
            simp only [Act.put, List.setIfInBounds_toArray, List.set_cons_zero, List.set_cons_succ]
            refine take (i := 1) (d := some 26) (v := .int .i64 k) rfl (by kernel_rfl) (by kernel_rfl) (by kernel_rfl) (by kernel_rfl) (fun _ _ _ h => h) (Or.inl ⟨by rfl, by intro w hSw; go_simp⟩) hHeld ?_
            simp only [Act.put, List.setIfInBounds_toArray, List.set_cons_zero, List.set_cons_succ]
            refine take (i := 2) (d := some 27) (v := .pointer (some ⟨w.heap.size, k, none⟩)) rfl (by kernel_rfl) (by kernel_rfl) (by kernel_rfl) (by kernel_rfl) (fun _ _ _ h => h) (Or.inl ⟨by rfl, by intro w hSw; go_simp⟩) hHeld ?_
            simp only [Act.put, List.setIfInBounds_toArray, List.set_cons_zero, List.set_cons_succ]
            refine take (i := 3) (d := some 28) (v := .iface 213 (.agg #[])) rfl (by kernel_rfl) (by kernel_rfl) (by kernel_rfl) (by kernel_rfl) (fun _ _ _ h => h) (Or.inl ⟨by rfl, by intro w hSw; have q1 := hSw.1; go_simp⟩) hHeld ?_
            simp only [Act.put, List.setIfInBounds_toArray, List.set_cons_zero, List.set_cons_succ]
            refine wpAnyH_ready (rs := [4]) (by kernel_rfl) (by simp) (Rg.call1 rfl (by kernel_rfl) 212 (.tmp 28) 202 (by kernel_rfl) 29 (by kernel_rfl) (.iface 213 (.agg #[])) (by kernel_rfl) (fun _ => rfl) (right4 _) ?_ AllReadyH.nil)
            rintro e w3 ⟨rfl, hb3⟩
            replace hb3 := Rw.next (Below.drew (Below.refl _ W2)) hb3
            replace q0 := (hb3.cell (World.block_lt_of_cell? _ _ q0)).trans q0
            replace kA2 := (hb3.block _ (Array.getElem?_eq_some_iff.1 kA2).1).trans kA2
            replace hrow2 := hrow2.of_block (hb3.block _ hrow2.lt)
            replace hb2 := Rw.next hb2 hb3
            clear hb3
            refine ⟨_, rfl, ⟨q0, kA2⟩, fun hHeld => ?_⟩
            simp only [Act.put, List.setIfInBounds_toArray, List.set_cons_zero, List.set_cons_succ]
            refine take (i := 5) (d := some 30) (v := .bool false) rfl (by kernel_rfl) (by kernel_rfl) (by kernel_rfl) (by kernel_rfl) (fun _ _ _ h => h) (Or.inl ⟨by rfl, by intro w hSw; go_simp⟩) hHeld ?_
            simp only [Act.put, List.setIfInBounds_toArray, List.set_cons_zero, List.set_cons_succ]
            refine take (i := 6) (d := some 31) (v := .bool false) rfl (by kernel_rfl) (by kernel_rfl) (by kernel_rfl) (by kernel_rfl) (fun _ _ _ h => h) (Or.inl ⟨by rfl, by intro w hSw; go_simp⟩) hHeld ?_
            simp only [Act.put, List.setIfInBounds_toArray, List.set_cons_zero, List.set_cons_succ]
            refine take (i := 7) (d := some 32) (v := .slice (some ⟨w.heap.size, 0, none⟩) n n) rfl (by kernel_rfl) (by kernel_rfl) (by kernel_rfl) (by kernel_rfl) (fun _ _ _ h => h) (Or.inl ⟨by rfl, by intro w hSw; go_simp⟩) hHeld ?_
            simp only [Act.put, List.setIfInBounds_toArray, List.set_cons_zero, List.set_cons_succ]
            refine take (i := 8) (d := some 33) (v := .int .i64 k) rfl (by kernel_rfl) (by kernel_rfl) (by kernel_rfl) (by kernel_rfl) (fun _ _ _ h => h) (Or.inl ⟨by rfl, by intro w hSw; go_simp⟩) hHeld ?_
            simp only [Act.put, List.setIfInBounds_toArray, List.set_cons_zero, List.set_cons_succ]
            refine take (i := 9) (d := some 34) (v := .pointer (some ⟨w.heap.size, k, none⟩)) rfl (by kernel_rfl) (by kernel_rfl) (by kernel_rfl) (by kernel_rfl) (fun _ _ _ h => h) (Or.inl ⟨by rfl, by intro w hSw; go_simp⟩) hHeld ?_
            simp only [Act.put, List.setIfInBounds_toArray, List.set_cons_zero, List.set_cons_succ]
            refine take (i := 10) (d := some 35) (v := .iface 213 (.agg #[])) rfl (by kernel_rfl) (by kernel_rfl) (by kernel_rfl) (by kernel_rfl) (fun _ _ _ h => h) (Or.inl ⟨by rfl, by intro w hSw; have q1 := hSw.1; go_simp⟩) hHeld ?_
            simp only [Act.put, List.setIfInBounds_toArray, List.set_cons_zero, List.set_cons_succ]
            refine take (i := 12) (d := some 37) (v := .agg #[.int .i64 4, .int .i64 0, .int .i64 0]) rfl (by kernel_rfl) (by kernel_rfl) (by kernel_rfl) (by kernel_rfl) (fun _ _ _ h => h) (Or.inl ⟨by rfl, by intro w hSw; have q2 := hSw.2; have d0 := three0 q2; have d1 := three1 q2; have d2 := three2 q2; go_simp⟩) hHeld ?_
            simp only [Act.put, List.setIfInBounds_toArray, List.set_cons_zero, List.set_cons_succ]
            refine wpAnyH_ready (rs := [11]) (by kernel_rfl) (by simp) (Yf.callI rfl (by kernel_rfl) 233 (.tmp 35) rfl 36 (by kernel_rfl) (.iface 213 (.agg #[])) (.agg #[]) (by kernel_rfl) (fun w => by kernel_rfl) (act4 _) ?_ AllReadyH.nil)
            rintro e w4 ⟨rfl, hb4⟩
            replace q0 := (hb4.cell (World.block_lt_of_cell? _ _ q0)).trans q0
            replace kA2 := (hb4.block _ (Array.getElem?_eq_some_iff.1 kA2).1).trans kA2
            replace hrow2 := hrow2.of_block (hb4.block _ hrow2.lt)
            replace hb2 := Rw.next hb2 hb4
            clear hb4
            refine ⟨_, rfl, ⟨q0, kA2⟩, fun hHeld => ?_⟩
            simp only [Act.put, List.setIfInBounds_toArray, List.set_cons_zero, List.set_cons_succ]
            refine take (i := 13) (d := some 38) (v := .bool false) rfl (by kernel_rfl) (by kernel_rfl) (by kernel_rfl) (by kernel_rfl) (fun _ _ _ h => h) (Or.inl ⟨by rfl, by intro w hSw; go_simp⟩) hHeld ?_
            simp only [Act.put, List.setIfInBounds_toArray, List.set_cons_zero, List.set_cons_succ]
            refine take (i := 14) (d := some 39) (v := .bool false) rfl (by kernel_rfl) (by kernel_rfl) (by kernel_rfl) (by kernel_rfl) (fun _ _ _ h => h) (Or.inl ⟨by rfl, by intro w hSw; go_simp⟩) hHeld ?_
            simp only [Act.put, List.setIfInBounds_toArray, List.set_cons_zero, List.set_cons_succ]
            refine wpAnyH_done (by kernel_rfl) ?_ _
            go_wp2
            all_goals go_roundw
            all_goals first | exact ⟨k + 1, by omega, by go_num, hb2, hrow2, hB⟩ | (simp [intOf]; omega)
          · have hne : (0 == x2) = false := by simpa using fun h : 0 = x2 => h1 h.symm
            go_wp2_with (go_at_call 211; rw [← hW0]; refine (kind_any (4, 0, x2) _).mono ?_; rintro e w1 ⟨rfl, hb⟩; rw [show actV (4, 0, x2) = .iface 213 (.agg #[]) from rfl]; replace hrow := hrow.of_block (hb.block _ hlw); replace kA := (hb.block _ zA).trans kA; replace hbel := Rw.next hbel hb; have g0 := hrow.cell hlt; have g1 := hrow.frozen k)
            obtain ⟨W2, hW2⟩ : ∃ W2, W2 = w1.setCell ⟨w.heap.size, k, none⟩ (.iface 213 (.agg #[])) := ⟨_, rfl⟩
            rw [← hW2]
            have q0 : W2.cell? ⟨w.heap.size, k, none⟩ = some (.iface 213 (.agg #[])) := by subst hW2; exact World.cell?_setCell_same _ _ _ g0
            have kA2 : W2.heap[wr.heap.size]? = some (.cells #[.int .i64 4, .int .i64 0, .int .i64 x2] 133 (0, 0)) := by subst hW2; exact (Below.heap_setCell _ _ _ _ (fun h => hlt2 h.symm)).trans kA
            have hrow2 : W2.rowIs w.heap.size 202 n (row l (k + 1)) := by subst hW2; have := row_step hrow; rw [HX.out] at this; exact this
            have hb2 : Below w.heap.size w W2 := by subst hW2; exact hbel.setCell (by simp) _
            clear hW2 hrow g0 g1 hbel kA
            have hB := actsB_no (l := l) (k := k) (by have := HN.out; omega) (by rw [HX.out]; simp [actB, h1])
            refine wp_region_held_drew (S := (fun w' => w'.cell? ⟨w.heap.size, k, none⟩ = some (.iface 213 (.agg #[])) ∧ w'.heap[wr.heap.size]? = some (.cells #[.int .i64 4, .int .i64 0, .int .i64 x2] 133 (0, 0)))) (by kernel_rfl) ⟨q0, kA2⟩ (fun hHeld => ?_)
            refine take (i := 0) (d := some 25) (v := .slice (some ⟨w.heap.size, 0, none⟩) n n) rfl (by kernel_rfl) (by kernel_rfl) (by kernel_rfl) (by kernel_rfl) (fun _ _ _ h => h) (Or.inl ⟨by rfl, by intro w hSw; go_simp⟩) hHeld ?_
            simp only [Act.put, List.setIfInBounds_toArray, List.set_cons_zero, List.set_cons_succ]
            refine take (i := 1) (d := some 26) (v := .int .i64 k) rfl (by kernel_rfl) (by kernel_rfl) (by kernel_rfl) (by kernel_rfl) (fun _ _ _ h => h) (Or.inl ⟨by rfl, by intro w hSw; go_simp⟩) hHeld ?_
            simp only [Act.put, List.setIfInBounds_toArray, List.set_cons_zero, List.set_cons_succ]
            refine take (i := 2) (d := some 27) (v := .pointer (some ⟨w.heap.size, k, none⟩)) rfl (by kernel_rfl) (by kernel_rfl) (by kernel_rfl) (by kernel_rfl) (fun _ _ _ h => h) (Or.inl ⟨by rfl, by intro w hSw; go_simp⟩) hHeld ?_
            simp only [Act.put, List.setIfInBounds_toArray, List.set_cons_zero, List.set_cons_succ]
            refine take (i := 3) (d := some 28) (v := .iface 213 (.agg #[])) rfl (by kernel_rfl) (by kernel_rfl) (by kernel_rfl) (by kernel_rfl) (fun _ _ _ h => h) (Or.inl ⟨by rfl, by intro w hSw; have q1 := hSw.1; go_simp⟩) hHeld ?_
            simp only [Act.put, List.setIfInBounds_toArray, List.set_cons_zero, List.set_cons_succ]
            refine wpAnyH_ready (rs := [4]) (by kernel_rfl) (by simp) (Rg.call1 rfl (by kernel_rfl) 212 (.tmp 28) 202 (by kernel_rfl) 29 (by kernel_rfl) (.iface 213 (.agg #[])) (by kernel_rfl) (fun _ => rfl) (right4 _) ?_ AllReadyH.nil)
            rintro e w3 ⟨rfl, hb3⟩
            replace hb3 := Rw.next (Below.drew (Below.refl _ W2)) hb3
            replace q0 := (hb3.cell (World.block_lt_of_cell? _ _ q0)).trans q0
            replace kA2 := (hb3.block _ (Array.getElem?_eq_some_iff.1 kA2).1).trans kA2
            replace hrow2 := hrow2.of_block (hb3.block _ hrow2.lt)
            replace hb2 := Rw.next hb2 hb3
            clear hb3
            refine ⟨_, rfl, ⟨q0, kA2⟩, fun hHeld => ?_⟩
            simp only [Act.put, List.setIfInBounds_toArray, List.set_cons_zero, List.set_cons_succ]
            refine take (i := 5) (d := some 30) (v := .bool false) rfl (by kernel_rfl) (by kernel_rfl) (by kernel_rfl) (by kernel_rfl) (fun _ _ _ h => h) (Or.inl ⟨by rfl, by intro w hSw; go_simp⟩) hHeld ?_
            simp only [Act.put, List.setIfInBounds_toArray, List.set_cons_zero, List.set_cons_succ]
            refine take (i := 6) (d := some 31) (v := .bool false) rfl (by kernel_rfl) (by kernel_rfl) (by kernel_rfl) (by kernel_rfl) (fun _ _ _ h => h) (Or.inl ⟨by rfl, by intro w hSw; go_simp⟩) hHeld ?_
            simp only [Act.put, List.setIfInBounds_toArray, List.set_cons_zero, List.set_cons_succ]
            refine take (i := 7) (d := some 32) (v := .slice (some ⟨w.heap.size, 0, none⟩) n n) rfl (by kernel_rfl) (by kernel_rfl) (by kernel_rfl) (by kernel_rfl) (fun _ _ _ h => h) (Or.inl ⟨by rfl, by intro w hSw; go_simp⟩) hHeld ?_
            simp only [Act.put, List.setIfInBounds_toArray, List.set_cons_zero, List.set_cons_succ]
            refine take (i := 8) (d := some 33) (v := .int .i64 k) rfl (by kernel_rfl) (by kernel_rfl) (by kernel_rfl) (by kernel_rfl) (fun _ _ _ h => h) (Or.inl ⟨by rfl, by intro w hSw; go_simp⟩) hHeld ?_
            simp only [Act.put, List.setIfInBounds_toArray, List.set_cons_zero, List.set_cons_succ]
            refine take (i := 9) (d := some 34) (v := .pointer (some ⟨w.heap.size, k, none⟩)) rfl (by kernel_rfl) (by kernel_rfl) (by kernel_rfl) (by kernel_rfl) (fun _ _ _ h => h) (Or.inl ⟨by rfl, by intro w hSw; go_simp⟩) hHeld ?_
            simp only [Act.put, List.setIfInBounds_toArray, List.set_cons_zero, List.set_cons_succ]
            refine take (i := 10) (d := some 35) (v := .iface 213 (.agg #[])) rfl (by kernel_rfl) (by kernel_rfl) (by kernel_rfl) (by kernel_rfl) (fun _ _ _ h => h) (Or.inl ⟨by rfl, by intro w hSw; have q1 := hSw.1; go_simp⟩) hHeld ?_
            simp only [Act.put, List.setIfInBounds_toArray, List.set_cons_zero, List.set_cons_succ]
            refine take (i := 12) (d := some 37) (v := .agg #[.int .i64 4, .int .i64 0, .int .i64 x2]) rfl (by kernel_rfl) (by kernel_rfl) (by kernel_rfl) (by kernel_rfl) (fun _ _ _ h => h) (Or.inl ⟨by rfl, by intro w hSw; have q2 := hSw.2; have d0 := three0 q2; have d1 := three1 q2; have d2 := three2 q2; go_simp⟩) hHeld ?_
            simp only [Act.put, List.setIfInBounds_toArray, List.set_cons_zero, List.set_cons_succ]
            refine wpAnyH_ready (rs := [11]) (by kernel_rfl) (by simp) (Yf.callI rfl (by kernel_rfl) 233 (.tmp 35) rfl 36 (by kernel_rfl) (.iface 213 (.agg #[])) (.agg #[]) (by kernel_rfl) (fun w => by kernel_rfl) (act4 _) ?_ AllReadyH.nil)
            rintro e w4 ⟨rfl, hb4⟩
            replace q0 := (hb4.cell (World.block_lt_of_cell? _ _ q0)).trans q0
            replace kA2 := (hb4.block _ (Array.getElem?_eq_some_iff.1 kA2).1).trans kA2
            replace hrow2 := hrow2.of_block (hb4.block _ hrow2.lt)
            replace hb2 := Rw.next hb2 hb4
            clear hb4
            refine ⟨_, rfl, ⟨q0, kA2⟩, fun hHeld => ?_⟩
            simp only [Act.put, List.setIfInBounds_toArray, List.set_cons_zero, List.set_cons_succ]
            refine take (i := 13) (d := some 38) (v := .bool true) rfl (by kernel_rfl) (by kernel_rfl) (by kernel_rfl) (by kernel_rfl) (fun _ _ _ h => h) (Or.inl ⟨by rfl, by intro w hSw; go_simp⟩) hHeld ?_
            simp only [Act.put, List.setIfInBounds_toArray, List.set_cons_zero, List.set_cons_succ]
            refine take (i := 14) (d := some 39) (v := .bool true) rfl (by kernel_rfl) (by kernel_rfl) (by kernel_rfl) (by kernel_rfl) (fun _ _ _ h => h) (Or.inl ⟨by rfl, by intro w hSw; go_simp⟩) hHeld ?_
            simp only [Act.put, List.setIfInBounds_toArray, List.set_cons_zero, List.set_cons_succ]
            refine wpAnyH_done (by kernel_rfl) ?_ _
            go_wp2
            all_goals exact bodyPost_ret (v := .tuple #[.slice none 0 0, .bool false]) (by simp [results, Try.results203, go_sem]) rfl ⟨hb2, fun _ => rfl, fun h => (by rw [hB] at h; cases h)⟩
        · have hne : (0 == x1) = false := by simpa using fun h : 0 = x1 => h0 h.symm
          go_wp2_with (go_at_call 211; rw [← hW0]; refine (kind_any (4, x1, x2) _).mono ?_; rintro e w1 ⟨rfl, hb⟩; rw [show actV (4, x1, x2) = .iface 213 (.agg #[]) from rfl]; replace hrow := hrow.of_block (hb.block _ hlw); replace kA := (hb.block _ zA).trans kA; replace hbel := Rw.next hbel hb; have g0 := hrow.cell hlt; have g1 := hrow.frozen k)
          obtain ⟨W2, hW2⟩ : ∃ W2, W2 = w1.setCell ⟨w.heap.size, k, none⟩ (.iface 213 (.agg #[])) := ⟨_, rfl⟩
          rw [← hW2]
          have q0 : W2.cell? ⟨w.heap.size, k, none⟩ = some (.iface 213 (.agg #[])) := by subst hW2; exact World.cell?_setCell_same _ _ _ g0
          have kA2 : W2.heap[wr.heap.size]? = some (.cells #[.int .i64 4, .int .i64 x1, .int .i64 x2] 133 (0, 0)) := by subst hW2; exact (Below.heap_setCell _ _ _ _ (fun h => hlt2 h.symm)).trans kA
          have hrow2 : W2.rowIs w.heap.size 202 n (row l (k + 1)) := by subst hW2; have := row_step hrow; rw [HX.out] at this; exact this
          have hb2 : Below w.heap.size w W2 := by subst hW2; exact hbel.setCell (by simp) _
          clear hW2 hrow g0 g1 hbel kA
          have hB := actsB_no (l := l) (k := k) (by have := HN.out; omega) (by rw [HX.out]; simp [actB, h0])
          refine wp_region_held_drew (S := (fun w' => w'.cell? ⟨w.heap.size, k, none⟩ = some (.iface 213 (.agg #[])) ∧ w'.heap[wr.heap.size]? = some (.cells #[.int .i64 4, .int .i64 x1, .int .i64 x2] 133 (0, 0)))) (by kernel_rfl) ⟨q0, kA2⟩ (fun hHeld => ?_)
          refine take (i := 0) (d := some 25) (v := .slice (some ⟨w.heap.size, 0, none⟩) n n) rfl (by kernel_rfl) (by kernel_rfl) (by kernel_rfl) (by kernel_rfl) (fun _ _ _ h => h) (Or.inl ⟨by rfl, by intro w hSw; go_simp⟩) hHeld ?_
          simp only [Act.put, List.setIfInBounds_toArray, List.set_cons_zero, List.set_cons_succ]
          refine take (i := 1) (d := some 26) (v := .int .i64 k) rfl (by kernel_rfl) (by kernel_rfl) (by kernel_rfl) (by kernel_rfl) (fun _ _ _ h => h) (Or.inl ⟨by rfl, by intro w hSw; go_simp⟩) hHeld ?_
          simp only [Act.put, List.setIfInBounds_toArray, List.set_cons_zero, List.set_cons_succ]
          refine take (i := 2) (d := some 27) (v := .pointer (some ⟨w.heap.size, k, none⟩)) rfl (by kernel_rfl) (by kernel_rfl) (by kernel_rfl) (by kernel_rfl) (fun _ _ _ h => h) (Or.inl ⟨by rfl, by intro w hSw; go_simp⟩) hHeld ?_
          simp only [Act.put, List.setIfInBounds_toArray, List.set_cons_zero, List.set_cons_succ]
          refine take (i := 3) (d := some 28) (v := .iface 213 (.agg #[])) rfl (by kernel_rfl) (by kernel_rfl) (by kernel_rfl) (by kernel_rfl) (fun _ _ _ h => h) (Or.inl ⟨by rfl, by intro w hSw; have q1 := hSw.1; go_simp⟩) hHeld ?_
          simp only [Act.put, List.setIfInBounds_toArray, List.set_cons_zero, List.set_cons_succ]
          refine wpAnyH_ready (rs := [4]) (by kernel_rfl) (by simp) (Rg.call1 rfl (by kernel_rfl) 212 (.tmp 28) 202 (by kernel_rfl) 29 (by kernel_rfl) (.iface 213 (.agg #[])) (by kernel_rfl) (fun _ => rfl) (right4 _) ?_ AllReadyH.nil)
          rintro e w3 ⟨rfl, hb3⟩
          replace hb3 := Rw.next (Below.drew (Below.refl _ W2)) hb3
          replace q0 := (hb3.cell (World.block_lt_of_cell? _ _ q0)).trans q0
          replace kA2 := (hb3.block _ (Array.getElem?_eq_some_iff.1 kA2).1).trans kA2
          replace hrow2 := hrow2.of_block (hb3.block _ hrow2.lt)
          replace hb2 := Rw.next hb2 hb3
          clear hb3
          refine ⟨_, rfl, ⟨q0, kA2⟩, fun hHeld => ?_⟩
          simp only [Act.put, List.setIfInBounds_toArray, List.set_cons_zero, List.set_cons_succ]
          refine take (i := 5) (d := some 30) (v := .bool false) rfl (by kernel_rfl) (by kernel_rfl) (by kernel_rfl) (by kernel_rfl) (fun _ _ _ h => h) (Or.inl ⟨by rfl, by intro w hSw; go_simp⟩) hHeld ?_
          simp only [Act.put, List.setIfInBounds_toArray, List.set_cons_zero, List.set_cons_succ]
          refine take (i := 6) (d := some 31) (v := .bool false) rfl (by kernel_rfl) (by kernel_rfl) (by kernel_rfl) (by kernel_rfl) (fun _ _ _ h => h) (Or.inl ⟨by rfl, by intro w hSw; go_simp⟩) hHeld ?_
          simp only [Act.put, List.setIfInBounds_toArray, List.set_cons_zero, List.set_cons_succ]
          refine take (i := 7) (d := some 32) (v := .slice (some ⟨w.heap.size, 0, none⟩) n n) rfl (by kernel_rfl) (by kernel_rfl) (by kernel_rfl) (by kernel_rfl) (fun _ _ _ h => h) (Or.inl ⟨by rfl, by intro w hSw; go_simp⟩) hHeld ?_
          simp only [Act.put, List.setIfInBounds_toArray, List.set_cons_zero, List.set_cons_succ]
          refine take (i := 8) (d := some 33) (v := .int .i64 k) rfl (by kernel_rfl) (by kernel_rfl) (by kernel_rfl) (by kernel_rfl) (fun _ _ _ h => h) (Or.inl ⟨by rfl, by intro w hSw; go_simp⟩) hHeld ?_
          simp only [Act.put, List.setIfInBounds_toArray, List.set_cons_zero, List.set_cons_succ]
          refine take (i := 9) (d := some 34) (v := .pointer (some ⟨w.heap.size, k, none⟩)) rfl (by kernel_rfl) (by kernel_rfl) (by kernel_rfl) (by kernel_rfl) (fun _ _ _ h => h) (Or.inl ⟨by rfl, by intro w hSw; go_simp⟩) hHeld ?_
          simp only [Act.put, List.setIfInBounds_toArray, List.set_cons_zero, List.set_cons_succ]
          refine take (i := 10) (d := some 35) (v := .iface 213 (.agg #[])) rfl (by kernel_rfl) (by kernel_rfl) (by kernel_rfl) (by kernel_rfl) (fun _ _ _ h => h) (Or.inl ⟨by rfl, by intro w hSw; have q1 := hSw.1; go_simp⟩) hHeld ?_
          simp only [Act.put, List.setIfInBounds_toArray, List.set_cons_zero, List.set_cons_succ]
          refine take (i := 12) (d := some 37) (v := .agg #[.int .i64 4, .int .i64 x1, .int .i64 x2]) rfl (by kernel_rfl) (by kernel_rfl) (by kernel_rfl) (by kernel_rfl) (fun _ _ _ h => h) (Or.inl ⟨by rfl, by intro w hSw; have q2 := hSw.2; have d0 := three0 q2; have d1 := three1 q2; have d2 := three2 q2; go_simp⟩) hHeld ?_
          simp only [Act.put, List.setIfInBounds_toArray, List.set_cons_zero, List.set_cons_succ]
          refine wpAnyH_ready (rs := [11]) (by kernel_rfl) (by simp) (Yf.callI rfl (by kernel_rfl) 233 (.tmp 35) rfl 36 (by kernel_rfl) (.iface 213 (.agg #[])) (.agg #[]) (by kernel_rfl) (fun w => by kernel_rfl) (act4 _) ?_ AllReadyH.nil)
          rintro e w4 ⟨rfl, hb4⟩
          replace q0 := (hb4.cell (World.block_lt_of_cell? _ _ q0)).trans q0
          replace kA2 := (hb4.block _ (Array.getElem?_eq_some_iff.1 kA2).1).trans kA2
          replace hrow2 := hrow2.of_block (hb4.block _ hrow2.lt)
          replace hb2 := Rw.next hb2 hb4
          clear hb4
          refine ⟨_, rfl, ⟨q0, kA2⟩, fun hHeld => ?_⟩
          simp only [Act.put, List.setIfInBounds_toArray, List.set_cons_zero, List.set_cons_succ]
          refine take (i := 13) (d := some 38) (v := .bool true) rfl (by kernel_rfl) (by kernel_rfl) (by kernel_rfl) (by kernel_rfl) (fun _ _ _ h => h) (Or.inl ⟨by rfl, by intro w hSw; go_simp⟩) hHeld ?_
          simp only [Act.put, List.setIfInBounds_toArray, List.set_cons_zero, List.set_cons_succ]
          refine take (i := 14) (d := some 39) (v := .bool true) rfl (by kernel_rfl) (by kernel_rfl) (by kernel_rfl) (by kernel_rfl) (fun _ _ _ h => h) (Or.inl ⟨by rfl, by intro w hSw; go_simp⟩) hHeld ?_
          simp only [Act.put, List.setIfInBounds_toArray, List.set_cons_zero, List.set_cons_succ]
          refine wpAnyH_done (by kernel_rfl) ?_ _
          go_wp2
          all_goals exact bodyPost_ret (v := .tuple #[.slice none 0 0, .bool false]) (by simp [results, Try.results203, go_sem]) rfl ⟨hb2, fun _ => rfl, fun h => (by rw [hB] at h; cases h)⟩
      by_cases k5 : x0 = 5
      · subst k5
        by_cases h0 : x1 = 0
        · subst h0
          by_cases h1 : x2 = 0
          · subst h1
            go_wp2_with (go_at_call 211; rw [← hW0]; refine (kind_any (5, 0, 0) _).mono ?_; rintro e w1 ⟨rfl, hb⟩; rw [show actV (5, 0, 0) = .iface 214 (.agg #[]) from rfl]; replace hrow := hrow.of_block (hb.block _ hlw); replace kA := (hb.block _ zA).trans kA; replace hbel := Rw.next hbel hb; have g0 := hrow.cell hlt; have g1 := hrow.frozen k)
            obtain ⟨W2, hW2⟩ : ∃ W2, W2 = w1.setCell ⟨w.heap.size, k, none⟩ (.iface 214 (.agg #[])) := ⟨_, rfl⟩
            rw [← hW2]
            have q0 : W2.cell? ⟨w.heap.size, k, none⟩ = some (.iface 214 (.agg #[])) := by subst hW2; exact World.cell?_setCell_same _ _ _ g0
            have kA2 : W2.heap[wr.heap.size]? = some (.cells #[.int .i64 5, .int .i64 0, .int .i64 0] 133 (0, 0)) := by subst hW2; exact (Below.heap_setCell _ _ _ _ (fun h => hlt2 h.symm)).trans kA
            have hrow2 : W2.rowIs w.heap.size 202 n (row l (k + 1)) := by subst hW2; have := row_step hrow; rw [HX.out] at this; exact this
            have hb2 : Below w.heap.size w W2 := by subst hW2; exact hbel.setCell (by simp) _
            clear hW2 hrow g0 g1 hbel kA
            have hB := pre_step HP.out (by rw [HX.out]; simp [actB])
            refine wp_region_held_drew (S := (fun w' => w'.cell? ⟨w.heap.size, k, none⟩ = some (.iface 214 (.agg #[])) ∧ w'.heap[wr.heap.size]? = some (.cells #[.int .i64 5, .int .i64 0, .int .i64 0] 133 (0, 0)))) (by kernel_rfl) ⟨q0, kA2⟩ (fun hHeld => ?_)
            refine take (i := 0) (d := some 25) (v := .slice (some ⟨w.heap.size, 0, none⟩) n n) rfl (by kernel_rfl) (by kernel_rfl) (by kernel_rfl) (by kernel_rfl) (fun _ _ _ h => h) (Or.inl ⟨by rfl, by intro w hSw; go_simp⟩) hHeld ?_
            simp only [Act.put, List.setIfInBounds_toArray, List.set_cons_zero, List.set_cons_succ]
            refine take (i := 1) (d := some 26) (v := .int .i64 k) rfl (by kernel_rfl) (by kernel_rfl) (by kernel_rfl) (by kernel_rfl) (fun _ _ _ h => h) (Or.inl ⟨by rfl, by intro w hSw; go_simp⟩) hHeld ?_
            simp only [Act.put, List.setIfInBounds_toArray, List.set_cons_zero, List.set_cons_succ]
            refine take (i := 2) (d := some 27) (v := .pointer (some ⟨w.heap.size, k, none⟩)) rfl (by kernel_rfl) (by kernel_rfl) (by kernel_rfl) (by kernel_rfl) (fun _ _ _ h => h) (Or.inl ⟨by rfl, by intro w hSw; go_simp⟩) hHeld ?_
            simp only [Act.put, List.setIfInBounds_toArray, List.set_cons_zero, List.set_cons_succ]
            refine take (i := 3) (d := some 28) (v := .iface 214 (.agg #[])) rfl (by kernel_rfl) (by kernel_rfl) (by kernel_rfl) (by kernel_rfl) (fun _ _ _ h => h) (Or.inl ⟨by rfl, by intro w hSw; have q1 := hSw.1; go_simp⟩) hHeld ?_
            simp only [Act.put, List.setIfInBounds_toArray, List.set_cons_zero, List.set_cons_succ]
            refine wpAnyH_ready (rs := [4]) (by kernel_rfl) (by simp) (Rg.call1 rfl (by kernel_rfl) 212 (.tmp 28) 202 (by kernel_rfl) 29 (by kernel_rfl) (.iface 214 (.agg #[])) (by kernel_rfl) (fun _ => rfl) (right5 _) ?_ AllReadyH.nil)
            rintro e w3 ⟨rfl, hb3⟩
            replace hb3 := Rw.next (Below.drew (Below.refl _ W2)) hb3
            replace q0 := (hb3.cell (World.block_lt_of_cell? _ _ q0)).trans q0
            replace kA2 := (hb3.block _ (Array.getElem?_eq_some_iff.1 kA2).1).trans kA2
            replace hrow2 := hrow2.of_block (hb3.block _ hrow2.lt)
            replace hb2 := Rw.next hb2 hb3
            clear hb3
            refine ⟨_, rfl, ⟨q0, kA2⟩, fun hHeld => ?_⟩
            simp only [Act.put, List.setIfInBounds_toArray, List.set_cons_zero, List.set_cons_succ]
            refine take (i := 5) (d := some 30) (v := .bool false) rfl (by kernel_rfl) (by kernel_rfl) (by kernel_rfl) (by kernel_rfl) (fun _ _ _ h => h) (Or.inl ⟨by rfl, by intro w hSw; go_simp⟩) hHeld ?_
            simp only [Act.put, List.setIfInBounds_toArray, List.set_cons_zero, List.set_cons_succ]
            refine take (i := 6) (d := some 31) (v := .bool false) rfl (by kernel_rfl) (by kernel_rfl) (by kernel_rfl) (by kernel_rfl) (fun _ _ _ h => h) (Or.inl ⟨by rfl, by intro w hSw; go_simp⟩) hHeld ?_
            simp only [Act.put, List.setIfInBounds_toArray, List.set_cons_zero, List.set_cons_succ]
            refine take (i := 7) (d := some 32) (v := .slice (some ⟨w.heap.size, 0, none⟩) n n) rfl (by kernel_rfl) (by kernel_rfl) (by kernel_rfl) (by kernel_rfl) (fun _ _ _ h => h) (Or.inl ⟨by rfl, by intro w hSw; go_simp⟩) hHeld ?_
            simp only [Act.put, List.setIfInBounds_toArray, List.set_cons_zero, List.set_cons_succ]
            refine take (i := 8) (d := some 33) (v := .int .i64 k) rfl (by kernel_rfl) (by kernel_rfl) (by kernel_rfl) (by kernel_rfl) (fun _ _ _ h => h) (Or.inl ⟨by rfl, by intro w hSw; go_simp⟩) hHeld ?_
            simp only [Act.put, List.setIfInBounds_toArray, List.set_cons_zero, List.set_cons_succ]
            refine take (i := 9) (d := some 34) (v := .pointer (some ⟨w.heap.size, k, none⟩)) rfl (by kernel_rfl) (by kernel_rfl) (by kernel_rfl) (by kernel_rfl) (fun _ _ _ h => h) (Or.inl ⟨by rfl, by intro w hSw; go_simp⟩) hHeld ?_
            simp only [Act.put, List.setIfInBounds_toArray, List.set_cons_zero, List.set_cons_succ]
            refine take (i := 10) (d := some 35) (v := .iface 214 (.agg #[])) rfl (by kernel_rfl) (by kernel_rfl) (by kernel_rfl) (by kernel_rfl) (fun _ _ _ h => h) (Or.inl ⟨by rfl, by intro w hSw; have q1 := hSw.1; go_simp⟩) hHeld ?_
            simp only [Act.put, List.setIfInBounds_toArray, List.set_cons_zero, List.set_cons_succ]
            refine take (i := 12) (d := some 37) (v := .agg #[.int .i64 5, .int .i64 0, .int .i64 0]) rfl (by kernel_rfl) (by kernel_rfl) (by kernel_rfl) (by kernel_rfl) (fun _ _ _ h => h) (Or.inl ⟨by rfl, by intro w hSw; have q2 := hSw.2; have d0 := three0 q2; have d1 := three1 q2; have d2 := three2 q2; go_simp⟩) hHeld ?_
            simp only [Act.put, List.setIfInBounds_toArray, List.set_cons_zero, List.set_cons_succ]
            refine wpAnyH_ready (rs := [11]) (by kernel_rfl) (by simp) (Yf.callI rfl (by kernel_rfl) 234 (.tmp 35) rfl 36 (by kernel_rfl) (.iface 214 (.agg #[])) (.agg #[]) (by kernel_rfl) (fun w => by kernel_rfl) (act5 _) ?_ AllReadyH.nil)
            rintro e w4 ⟨rfl, hb4⟩
            replace q0 := (hb4.cell (World.block_lt_of_cell? _ _ q0)).trans q0
            replace kA2 := (hb4.block _ (Array.getElem?_eq_some_iff.1 kA2).1).trans kA2
            replace hrow2 := hrow2.of_block (hb4.block _ hrow2.lt)
            replace hb2 := Rw.next hb2 hb4
            clear hb4
            refine ⟨_, rfl, ⟨q0, kA2⟩, fun hHeld => ?_⟩
            simp only [Act.put, List.setIfInBounds_toArray, List.set_cons_zero, List.set_cons_succ]
            refine take (i := 13) (d := some 38) (v := .bool false) rfl (by kernel_rfl) (by kernel_rfl) (by kernel_rfl) (by kernel_rfl) (fun _ _ _ h => h) (Or.inl ⟨by rfl, by intro w hSw; go_simp⟩) hHeld ?_
            simp only [Act.put, List.setIfInBounds_toArray, List.set_cons_zero, List.set_cons_succ]
            refine take (i := 14) (d := some 39) (v := .bool false) rfl (by kernel_rfl) (by kernel_rfl) (by kernel_rfl) (by kernel_rfl) (fun _ _ _ h => h) (Or.inl ⟨by rfl, by intro w hSw; go_simp⟩) hHeld ?_
            simp only [Act.put, List.setIfInBounds_toArray, List.set_cons_zero, List.set_cons_succ]
            refine wpAnyH_done (by kernel_rfl) ?_ _
            go_wp2
            all_goals go_roundw
            all_goals first | exact ⟨k + 1, by omega, by go_num, hb2, hrow2, hB⟩ | (simp [intOf]; omega)
          · have hne : (0 == x2) = false := by simpa using fun h : 0 = x2 => h1 h.symm
            go_wp2_with (go_at_call 211; rw [← hW0]; refine (kind_any (5, 0, x2) _).mono ?_; rintro e w1 ⟨rfl, hb⟩; rw [show actV (5, 0, x2) = .iface 214 (.agg #[]) from rfl]; replace hrow := hrow.of_block (hb.block _ hlw); replace kA := (hb.block _ zA).trans kA; replace hbel := Rw.next hbel hb; have g0 := hrow.cell hlt; have g1 := hrow.frozen k)
            obtain ⟨W2, hW2⟩ : ∃ W2, W2 = w1.setCell ⟨w.heap.size, k, none⟩ (.iface 214 (.agg #[])) := ⟨_, rfl⟩
            rw [← hW2]
            have q0 : W2.cell? ⟨w.heap.size, k, none⟩ = some (.iface 214 (.agg #[])) := by subst hW2; exact World.cell?_setCell_same _ _ _ g0
            have kA2 : W2.heap[wr.heap.size]? = some (.cells #[.int .i64 5, .int .i64 0, .int .i64 x2] 133 (0, 0)) := by subst hW2; exact (Below.heap_setCell _ _ _ _ (fun h => hlt2 h.symm)).trans kA
            have hrow2 : W2.rowIs w.heap.size 202 n (row l (k + 1)) := by subst hW2; have := row_step hrow; rw [HX.out] at this; exact this
            have hb2 : Below w.heap.size w W2 := by subst hW2; exact hbel.setCell (by simp) _
            clear hW2 hrow g0 g1 hbel kA
            have hB := actsB_no (l := l) (k := k) (by have := HN.out; omega) (by rw [HX.out]; simp [actB, h1])
            refine wp_region_held_drew (S := (fun w' => w'.cell? ⟨w.heap.size, k, none⟩ = some (.iface 214 (.agg #[])) ∧ w'.heap[wr.heap.size]? = some (.cells #[.int .i64 5, .int .i64 0, .int .i64 x2] 133 (0, 0)))) (by kernel_rfl) ⟨q0, kA2⟩ (fun hHeld => ?_)
            refine take (i := 0) (d := some 25) (v := .slice (some ⟨w.heap.size, 0, none⟩) n n) rfl (by kernel_rfl) (by kernel_rfl) (by kernel_rfl) (by kernel_rfl) (fun _ _ _ h => h) (Or.inl ⟨by rfl, by intro w hSw; go_simp⟩) hHeld ?_
            simp only [Act.put, List.setIfInBounds_toArray, List.set_cons_zero, List.set_cons_succ]
            refine take (i := 1) (d := some 26) (v := .int .i64 k) rfl (by kernel_rfl) (by kernel_rfl) (by kernel_rfl) (by kernel_rfl) (fun _ _ _ h => h) (Or.inl ⟨by rfl, by intro w hSw; go_simp⟩) hHeld ?_
            simp only [Act.put, List.setIfInBounds_toArray, List.set_cons_zero, List.set_cons_succ]
            refine take (i := 2) (d := some 27) (v := .pointer (some ⟨w.heap.size, k, none⟩)) rfl (by kernel_rfl) (by kernel_rfl) (by kernel_rfl) (by kernel_rfl) (fun _ _ _ h => h) (Or.inl ⟨by rfl, by intro w hSw; go_simp⟩) hHeld ?_
            simp only [Act.put, List.setIfInBounds_toArray, List.set_cons_zero, List.set_cons_succ]
            refine take (i := 3) (d := some 28) (v := .iface 214 (.agg #[])) rfl (by kernel_rfl) (by kernel_rfl) (by kernel_rfl) (by kernel_rfl) (fun _ _ _ h => h) (Or.inl ⟨by rfl, by intro w hSw; have q1 := hSw.1; go_simp⟩) hHeld ?_
            simp only [Act.put, List.setIfInBounds_toArray, List.set_cons_zero, List.set_cons_succ]
            refine wpAnyH_ready (rs := [4]) (by kernel_rfl) (by simp) (Rg.call1 rfl (by kernel_rfl) 212 (.tmp 28) 202 (by kernel_rfl) 29 (by kernel_rfl) (.iface 214 (.agg #[])) (by kernel_rfl) (fun _ => rfl) (right5 _) ?_ AllReadyH.nil)
            rintro e w3 ⟨rfl, hb3⟩
            replace hb3 := Rw.next (Below.drew (Below.refl _ W2)) hb3
            replace q0 := (hb3.cell (World.block_lt_of_cell? _ _ q0)).trans q0
            replace kA2 := (hb3.block _ (Array.getElem?_eq_some_iff.1 kA2).1).trans kA2
            replace hrow2 := hrow2.of_block (hb3.block _ hrow2.lt)
            replace hb2 := Rw.next hb2 hb3
            clear hb3
            refine ⟨_, rfl, ⟨q0, kA2⟩, fun hHeld => ?_⟩
            simp only [Act.put, List.setIfInBounds_toArray, List.set_cons_zero, List.set_cons_succ]
            refine take (i := 5) (d := some 30) (v := .bool false) rfl (by kernel_rfl) (by kernel_rfl) (by kernel_rfl) (by kernel_rfl) (fun _ _ _ h => h) (Or.inl ⟨by rfl, by intro w hSw; go_simp⟩) hHeld ?_
            simp only [Act.put, List.setIfInBounds_toArray, List.set_cons_zero, List.set_cons_succ]
            refine take (i := 6) (d := some 31) (v := .bool false) rfl (by kernel_rfl) (by kernel_rfl) (by kernel_rfl) (by kernel_rfl) (fun _ _ _ h => h) (Or.inl ⟨by rfl, by intro w hSw; go_simp⟩) hHeld ?_
            simp only [Act.put, List.setIfInBounds_toArray, List.set_cons_zero, List.set_cons_succ]
            refine take (i := 7) (d := some 32) (v := .slice (some ⟨w.heap.size, 0, none⟩) n n) rfl (by kernel_rfl) (by kernel_rfl) (by kernel_rfl) (by kernel_rfl) (fun _ _ _ h => h) (Or.inl ⟨by rfl, by intro w hSw; go_simp⟩) hHeld ?_
            simp only [Act.put, List.setIfInBounds_toArray, List.set_cons_zero, List.set_cons_succ]
            refine take (i := 8) (d := some 33) (v := .int .i64 k) rfl (by kernel_rfl) (by kernel_rfl) (by kernel_rfl) (by kernel_rfl) (fun _ _ _ h => h) (Or.inl ⟨by rfl, by intro w hSw; go_simp⟩) hHeld ?_
            simp only [Act.put, List.setIfInBounds_toArray, List.set_cons_zero, List.set_cons_succ]
            refine take (i := 9) (d := some 34) (v := .pointer (some ⟨w.heap.size, k, none⟩)) rfl (by kernel_rfl) (by kernel_rfl) (by kernel_rfl) (by kernel_rfl) (fun _ _ _ h => h) (Or.inl ⟨by rfl, by intro w hSw; go_simp⟩) hHeld ?_
            simp only [Act.put, List.setIfInBounds_toArray, List.set_cons_zero, List.set_cons_succ]
            refine take (i := 10) (d := some 35) (v := .iface 214 (.agg #[])) rfl (by kernel_rfl) (by kernel_rfl) (by kernel_rfl) (by kernel_rfl) (fun _ _ _ h => h) (Or.inl ⟨by rfl, by intro w hSw; have q1 := hSw.1; go_simp⟩) hHeld ?_
            simp only [Act.put, List.setIfInBounds_toArray, List.set_cons_zero, List.set_cons_succ]
            refine take (i := 12) (d := some 37) (v := .agg #[.int .i64 5, .int .i64 0, .int .i64 x2]) rfl (by kernel_rfl) (by kernel_rfl) (by kernel_rfl) (by kernel_rfl) (fun _ _ _ h => h) (Or.inl ⟨by rfl, by intro w hSw; have q2 := hSw.2; have d0 := three0 q2; have d1 := three1 q2; have d2 := three2 q2; go_simp⟩) hHeld ?_
            simp only [Act.put, List.setIfInBounds_toArray, List.set_cons_zero, List.set_cons_succ]
            refine wpAnyH_ready (rs := [11]) (by kernel_rfl) (by simp) (Yf.callI rfl (by kernel_rfl) 234 (.tmp 35) rfl 36 (by kernel_rfl) (.iface 214 (.agg #[])) (.agg #[]) (by kernel_rfl) (fun w => by kernel_rfl) (act5 _) ?_ AllReadyH.nil)
            rintro e w4 ⟨rfl, hb4⟩
            replace q0 := (hb4.cell (World.block_lt_of_cell? _ _ q0)).trans q0
            replace kA2 := (hb4.block _ (Array.getElem?_eq_some_iff.1 kA2).1).trans kA2
            replace hrow2 := hrow2.of_block (hb4.block _ hrow2.lt)
            replace hb2 := Rw.next hb2 hb4
            clear hb4
            refine ⟨_, rfl, ⟨q0, kA2⟩, fun hHeld => ?_⟩
            simp only [Act.put, List.setIfInBounds_toArray, List.set_cons_zero, List.set_cons_succ]
            refine take (i := 13) (d := some 38) (v := .bool true) rfl (by kernel_rfl) (by kernel_rfl) (by kernel_rfl) (by kernel_rfl) (fun _ _ _ h => h) (Or.inl ⟨by rfl, by intro w hSw; go_simp⟩) hHeld ?_
            simp only [Act.put, List.setIfInBounds_toArray, List.set_cons_zero, List.set_cons_succ]
            refine take (i := 14) (d := some 39) (v := .bool true) rfl (by kernel_rfl) (by kernel_rfl) (by kernel_rfl) (by kernel_rfl) (fun _ _ _ h => h) (Or.inl ⟨by rfl, by intro w hSw; go_simp⟩) hHeld ?_
            simp only [Act.put, List.setIfInBounds_toArray, List.set_cons_zero, List.set_cons_succ]
            refine wpAnyH_done (by kernel_rfl) ?_ _
            go_wp2
            all_goals exact bodyPost_ret (v := .tuple #[.slice none 0 0, .bool false]) (by simp [results, Try.results203, go_sem]) rfl ⟨hb2, fun _ => rfl, fun h => (by rw [hB] at h; cases h)⟩
        · have hne : (0 == x1) = false := by simpa using fun h : 0 = x1 => h0 h.symm
          go_wp2_with (go_at_call 211; rw [← hW0]; refine (kind_any (5, x1, x2) _).mono ?_; rintro e w1 ⟨rfl, hb⟩; rw [show actV (5, x1, x2) = .iface 214 (.agg #[]) from rfl]; replace hrow := hrow.of_block (hb.block _ hlw); replace kA := (hb.block _ zA).trans kA; replace hbel := Rw.next hbel hb; have g0 := hrow.cell hlt; have g1 := hrow.frozen k)
          obtain ⟨W2, hW2⟩ : ∃ W2, W2 = w1.setCell ⟨w.heap.size, k, none⟩ (.iface 214 (.agg #[])) := ⟨_, rfl⟩
          rw [← hW2]
          have q0 : W2.cell? ⟨w.heap.size, k, none⟩ = some (.iface 214 (.agg #[])) := by subst hW2; exact World.cell?_setCell_same _ _ _ g0
          have kA2 : W2.heap[wr.heap.size]? = some (.cells #[.int .i64 5, .int .i64 x1, .int .i64 x2] 133 (0, 0)) := by subst hW2; exact (Below.heap_setCell _ _ _ _ (fun h => hlt2 h.symm)).trans kA
          have hrow2 : W2.rowIs w.heap.size 202 n (row l (k + 1)) := by subst hW2; have := row_step hrow; rw [HX.out] at this; exact this
          have hb2 : Below w.heap.size w W2 := by subst hW2; exact hbel.setCell (by simp) _
          clear hW2 hrow g0 g1 hbel kA
          have hB := actsB_no (l := l) (k := k) (by have := HN.out; omega) (by rw [HX.out]; simp [actB, h0])
          refine wp_region_held_drew (S := (fun w' => w'.cell? ⟨w.heap.size, k, none⟩ = some (.iface 214 (.agg #[])) ∧ w'.heap[wr.heap.size]? = some (.cells #[.int .i64 5, .int .i64 x1, .int .i64 x2] 133 (0, 0)))) (by kernel_rfl) ⟨q0, kA2⟩ (fun hHeld => ?_)
          refine take (i := 0) (d := some 25) (v := .slice (some ⟨w.heap.size, 0, none⟩) n n) rfl (by kernel_rfl) (by kernel_rfl) (by kernel_rfl) (by kernel_rfl) (fun _ _ _ h => h) (Or.inl ⟨by rfl, by intro w hSw; go_simp⟩) hHeld ?_
          simp only [Act.put, List.setIfInBounds_toArray, List.set_cons_zero, List.set_cons_succ]
          refine take (i := 1) (d := some 26) (v := .int .i64 k) rfl (by kernel_rfl) (by kernel_rfl) (by kernel_rfl) (by kernel_rfl) (fun _ _ _ h => h) (Or.inl ⟨by rfl, by intro w hSw; go_simp⟩) hHeld ?_
          simp only [Act.put, List.setIfInBounds_toArray, List.set_cons_zero, List.set_cons_succ]
          refine take (i := 2) (d := some 27) (v := .pointer (some ⟨w.heap.size, k, none⟩)) rfl (by kernel_rfl) (by kernel_rfl) (by kernel_rfl) (by kernel_rfl) (fun _ _ _ h => h) (Or.inl ⟨by rfl, by intro w hSw; go_simp⟩) hHeld ?_
          simp only [Act.put, List.setIfInBounds_toArray, List.set_cons_zero, List.set_cons_succ]
          refine take (i := 3) (d := some 28) (v := .iface 214 (.agg #[])) rfl (by kernel_rfl) (by kernel_rfl) (by kernel_rfl) (by kernel_rfl) (fun _ _ _ h => h) (Or.inl ⟨by rfl, by intro w hSw; have q1 := hSw.1; go_simp⟩) hHeld ?_
          simp only [Act.put, List.setIfInBounds_toArray, List.set_cons_zero, List.set_cons_succ]
          refine wpAnyH_ready (rs := [4]) (by kernel_rfl) (by simp) (Rg.call1 rfl (by kernel_rfl) 212 (.tmp 28) 202 (by kernel_rfl) 29 (by kernel_rfl) (.iface 214 (.agg #[])) (by kernel_rfl) (fun _ => rfl) (right5 _) ?_ AllReadyH.nil)
          rintro e w3 ⟨rfl, hb3⟩
          replace hb3 := Rw.next (Below.drew (Below.refl _ W2)) hb3
          replace q0 := (hb3.cell (World.block_lt_of_cell? _ _ q0)).trans q0
          replace kA2 := (hb3.block _ (Array.getElem?_eq_some_iff.1 kA2).1).trans kA2
          replace hrow2 := hrow2.of_block (hb3.block _ hrow2.lt)
          replace hb2 := Rw.next hb2 hb3
          clear hb3
          refine ⟨_, rfl, ⟨q0, kA2⟩, fun hHeld => ?_⟩
          simp only [Act.put, List.setIfInBounds_toArray, List.set_cons_zero, List.set_cons_succ]
          refine take (i := 5) (d := some 30) (v := .bool false) rfl (by kernel_rfl) (by kernel_rfl) (by kernel_rfl) (by kernel_rfl) (fun _ _ _ h => h) (Or.inl ⟨by rfl, by intro w hSw; go_simp⟩) hHeld ?_
          simp only [Act.put, List.setIfInBounds_toArray, List.set_cons_zero, List.set_cons_succ]
          refine take (i := 6) (d := some 31) (v := .bool false) rfl (by kernel_rfl) (by kernel_rfl) (by kernel_rfl) (by kernel_rfl) (fun _ _ _ h => h) (Or.inl ⟨by rfl, by intro w hSw; go_simp⟩) hHeld ?_
          simp only [Act.put, List.setIfInBounds_toArray, List.set_cons_zero, List.set_cons_succ]
          refine take (i := 7) (d := some 32) (v := .slice (some ⟨w.heap.size, 0, none⟩) n n) rfl (by kernel_rfl) (by kernel_rfl) (by kernel_rfl) (by kernel_rfl) (fun _ _ _ h => h) (Or.inl ⟨by rfl, by intro w hSw; go_simp⟩) hHeld ?_
          simp only [Act.put, List.setIfInBounds_toArray, List.set_cons_zero, List.set_cons_succ]
          refine take (i := 8) (d := some 33) (v := .int .i64 k) rfl (by kernel_rfl) (by kernel_rfl) (by kernel_rfl) (by kernel_rfl) (fun _ _ _ h => h) (Or.inl ⟨by rfl, by intro w hSw; go_simp⟩) hHeld ?_
          simp only [Act.put, List.setIfInBounds_toArray, List.set_cons_zero, List.set_cons_succ]
          refine take (i := 9) (d := some 34) (v := .pointer (some ⟨w.heap.size, k, none⟩)) rfl (by kernel_rfl) (by kernel_rfl) (by kernel_rfl) (by kernel_rfl) (fun _ _ _ h => h) (Or.inl ⟨by rfl, by intro w hSw; go_simp⟩) hHeld ?_
          simp only [Act.put, List.setIfInBounds_toArray, List.set_cons_zero, List.set_cons_succ]
          refine take (i := 10) (d := some 35) (v := .iface 214 (.agg #[])) rfl (by kernel_rfl) (by kernel_rfl) (by kernel_rfl) (by kernel_rfl) (fun _ _ _ h => h) (Or.inl ⟨by rfl, by intro w hSw; have q1 := hSw.1; go_simp⟩) hHeld ?_
          simp only [Act.put, List.setIfInBounds_toArray, List.set_cons_zero, List.set_cons_succ]
          refine take (i := 12) (d := some 37) (v := .agg #[.int .i64 5, .int .i64 x1, .int .i64 x2]) rfl (by kernel_rfl) (by kernel_rfl) (by kernel_rfl) (by kernel_rfl) (fun _ _ _ h => h) (Or.inl ⟨by rfl, by intro w hSw; have q2 := hSw.2; have d0 := three0 q2; have d1 := three1 q2; have d2 := three2 q2; go_simp⟩) hHeld ?_
          simp only [Act.put, List.setIfInBounds_toArray, List.set_cons_zero, List.set_cons_succ]
          refine wpAnyH_ready (rs := [11]) (by kernel_rfl) (by simp) (Yf.callI rfl (by kernel_rfl) 234 (.tmp 35) rfl 36 (by kernel_rfl) (.iface 214 (.agg #[])) (.agg #[]) (by kernel_rfl) (fun w => by kernel_rfl) (act5 _) ?_ AllReadyH.nil)
          rintro e w4 ⟨rfl, hb4⟩
          replace q0 := (hb4.cell (World.block_lt_of_cell? _ _ q0)).trans q0
          replace kA2 := (hb4.block _ (Array.getElem?_eq_some_iff.1 kA2).1).trans kA2
          replace hrow2 := hrow2.of_block (hb4.block _ hrow2.lt)
          replace hb2 := Rw.next hb2 hb4
          clear hb4
          refine ⟨_, rfl, ⟨q0, kA2⟩, fun hHeld => ?_⟩
          simp only [Act.put, List.setIfInBounds_toArray, List.set_cons_zero, List.set_cons_succ]
          refine take (i := 13) (d := some 38) (v := .bool true) rfl (by kernel_rfl) (by kernel_rfl) (by kernel_rfl) (by kernel_rfl) (fun _ _ _ h => h) (Or.inl ⟨by rfl, by intro w hSw; go_simp⟩) hHeld ?_
          simp only [Act.put, List.setIfInBounds_toArray, List.set_cons_zero, List.set_cons_succ]
          refine take (i := 14) (d := some 39) (v := .bool true) rfl (by kernel_rfl) (by kernel_rfl) (by kernel_rfl) (by kernel_rfl) (fun _ _ _ h => h) (Or.inl ⟨by rfl, by intro w hSw; go_simp⟩) hHeld ?_
          simp only [Act.put, List.setIfInBounds_toArray, List.set_cons_zero, List.set_cons_succ]
          refine wpAnyH_done (by kernel_rfl) ?_ _
          go_wp2
          all_goals exact bodyPost_ret (v := .tuple #[.slice none 0 0, .bool false]) (by simp [results, Try.results203, go_sem]) rfl ⟨hb2, fun _ => rfl, fun h => (by rw [hB] at h; cases h)⟩
      by_cases k3 : x0 = 3
      · subst k3
        cases hr : decide (x1 = 1 ∨ x1 = 2) && Hg.fits x1 x2
        · have HR : Hid ((decide (x1 = 1 ∨ x1 = 2) && Hg.fits x1 x2) = false) := hr
          clear hr
          go_wp2_with (go_at_call 211; rw [← hW0]; refine (kind_any (3, x1, x2) _).mono ?_; rintro e w1 ⟨rfl, hb⟩; rw [show actV (3, x1, x2) = .iface 212 (.agg #[.int .i64 x1, .int .i64 x2]) from rfl]; replace hrow := hrow.of_block (hb.block _ hlw); replace kA := (hb.block _ zA).trans kA; replace hbel := Rw.next hbel hb; have g0 := hrow.cell hlt; have g1 := hrow.frozen k)
          obtain ⟨W2, hW2⟩ : ∃ W2, W2 = w1.setCell ⟨w.heap.size, k, none⟩ (.iface 212 (.agg #[.int .i64 x1, .int .i64 x2])) := ⟨_, rfl⟩
          rw [← hW2]
          have q0 : W2.cell? ⟨w.heap.size, k, none⟩ = some (.iface 212 (.agg #[.int .i64 x1, .int .i64 x2])) := by subst hW2; exact World.cell?_setCell_same _ _ _ g0
          have kA2 : W2.heap[wr.heap.size]? = some (.cells #[.int .i64 3, .int .i64 x1, .int .i64 x2] 133 (0, 0)) := by subst hW2; exact (Below.heap_setCell _ _ _ _ (fun h => hlt2 h.symm)).trans kA
          have hrow2 : W2.rowIs w.heap.size 202 n (row l (k + 1)) := by subst hW2; have := row_step hrow; rw [HX.out] at this; exact this
          have hb2 : Below w.heap.size w W2 := by subst hW2; exact hbel.setCell (by simp) _
          clear hW2 hrow g0 g1 hbel kA
          have hB := actsB_no (l := l) (k := k) (by have := HN.out; omega) (by rw [HX.out]; rw [actB_set]; exact HR.out)
          refine wp_region_held_drew (S := (fun w' => w'.cell? ⟨w.heap.size, k, none⟩ = some (.iface 212 (.agg #[.int .i64 x1, .int .i64 x2])) ∧ w'.heap[wr.heap.size]? = some (.cells #[.int .i64 3, .int .i64 x1, .int .i64 x2] 133 (0, 0)))) (by kernel_rfl) ⟨q0, kA2⟩ (fun hHeld => ?_)
          refine take (i := 0) (d := some 25) (v := .slice (some ⟨w.heap.size, 0, none⟩) n n) rfl (by kernel_rfl) (by kernel_rfl) (by kernel_rfl) (by kernel_rfl) (fun _ _ _ h => h) (Or.inl ⟨by rfl, by intro w hSw; go_simp⟩) hHeld ?_
          simp only [Act.put, List.setIfInBounds_toArray, List.set_cons_zero, List.set_cons_succ]
          refine take (i := 1) (d := some 26) (v := .int .i64 k) rfl (by kernel_rfl) (by kernel_rfl) (by kernel_rfl) (by kernel_rfl) (fun _ _ _ h => h) (Or.inl ⟨by rfl, by intro w hSw; go_simp⟩) hHeld ?_
          simp only [Act.put, List.setIfInBounds_toArray, List.set_cons_zero, List.set_cons_succ]
          refine take (i := 2) (d := some 27) (v := .pointer (some ⟨w.heap.size, k, none⟩)) rfl (by kernel_rfl) (by kernel_rfl) (by kernel_rfl) (by kernel_rfl) (fun _ _ _ h => h) (Or.inl ⟨by rfl, by intro w hSw; go_simp⟩) hHeld ?_
          simp only [Act.put, List.setIfInBounds_toArray, List.set_cons_zero, List.set_cons_succ]
          refine take (i := 3) (d := some 28) (v := .iface 212 (.agg #[.int .i64 x1, .int .i64 x2])) rfl (by kernel_rfl) (by kernel_rfl) (by kernel_rfl) (by kernel_rfl) (fun _ _ _ h => h) (Or.inl ⟨by rfl, by intro w hSw; have q1 := hSw.1; go_simp⟩) hHeld ?_
          simp only [Act.put, List.setIfInBounds_toArray, List.set_cons_zero, List.set_cons_succ]
          refine wpAnyH_ready (rs := [4]) (by kernel_rfl) (by simp) (Rg.call1 rfl (by kernel_rfl) 212 (.tmp 28) 202 (by kernel_rfl) 29 (by kernel_rfl) (.iface 212 (.agg #[.int .i64 x1, .int .i64 x2])) (by kernel_rfl) (fun _ => rfl) (Yf.right3b HR.out _) ?_ AllReadyH.nil)
          rintro e w3 ⟨rfl, hb3⟩
          replace hb3 := Rw.next (Below.drew (Below.refl _ W2)) hb3
          replace q0 := (hb3.cell (World.block_lt_of_cell? _ _ q0)).trans q0
          replace kA2 := (hb3.block _ (Array.getElem?_eq_some_iff.1 kA2).1).trans kA2
          replace hrow2 := hrow2.of_block (hb3.block _ hrow2.lt)
          replace hb2 := Rw.next hb2 hb3
          clear hb3
          refine ⟨_, rfl, ⟨q0, kA2⟩, fun hHeld => ?_⟩
          simp only [Act.put, List.setIfInBounds_toArray, List.set_cons_zero, List.set_cons_succ]
          refine take (i := 5) (d := some 30) (v := .bool true) rfl (by kernel_rfl) (by kernel_rfl) (by kernel_rfl) (by kernel_rfl) (fun _ _ _ h => h) (Or.inl ⟨by rfl, by intro w hSw; go_simp⟩) hHeld ?_
          simp only [Act.put, List.setIfInBounds_toArray, List.set_cons_zero, List.set_cons_succ]
          refine take (i := 6) (d := some 31) (v := .bool true) rfl (by kernel_rfl) (by kernel_rfl) (by kernel_rfl) (by kernel_rfl) (fun _ _ _ h => h) (Or.inl ⟨by rfl, by intro w hSw; go_simp⟩) hHeld ?_
          simp only [Act.put, List.setIfInBounds_toArray, List.set_cons_zero, List.set_cons_succ]
          refine take (i := 7) (d := some 32) (v := undef) rfl (by kernel_rfl) (by kernel_rfl) (by kernel_rfl) (by kernel_rfl) (fun _ _ _ h => h) (Or.inr ⟨by rfl, rfl⟩) hHeld ?_
          simp only [Act.put, List.setIfInBounds_toArray, List.set_cons_zero, List.set_cons_succ]
          refine take (i := 8) (d := some 33) (v := undef) rfl (by kernel_rfl) (by kernel_rfl) (by kernel_rfl) (by kernel_rfl) (fun _ _ _ h => h) (Or.inr ⟨by rfl, rfl⟩) hHeld ?_
          simp only [Act.put, List.setIfInBounds_toArray, List.set_cons_zero, List.set_cons_succ]
          refine take (i := 9) (d := some 34) (v := undef) rfl (by kernel_rfl) (by kernel_rfl) (by kernel_rfl) (by kernel_rfl) (fun _ _ _ h => h) (Or.inr ⟨by rfl, rfl⟩) hHeld ?_
          simp only [Act.put, List.setIfInBounds_toArray, List.set_cons_zero, List.set_cons_succ]
          refine take (i := 10) (d := some 35) (v := undef) rfl (by kernel_rfl) (by kernel_rfl) (by kernel_rfl) (by kernel_rfl) (fun _ _ _ h => h) (Or.inr ⟨by rfl, rfl⟩) hHeld ?_
          simp only [Act.put, List.setIfInBounds_toArray, List.set_cons_zero, List.set_cons_succ]
          refine take (i := 11) (d := some 36) (v := undef) rfl (by kernel_rfl) (by kernel_rfl) (by kernel_rfl) (by kernel_rfl) (fun _ _ _ h => h) (Or.inr ⟨by rfl, rfl⟩) hHeld ?_
          simp only [Act.put, List.setIfInBounds_toArray, List.set_cons_zero, List.set_cons_succ]
          refine take (i := 12) (d := some 37) (v := undef) rfl (by kernel_rfl) (by kernel_rfl) (by kernel_rfl) (by kernel_rfl) (fun _ _ _ h => h) (Or.inr ⟨by rfl, rfl⟩) hHeld ?_
          simp only [Act.put, List.setIfInBounds_toArray, List.set_cons_zero, List.set_cons_succ]
          refine take (i := 13) (d := some 38) (v := undef) rfl (by kernel_rfl) (by kernel_rfl) (by kernel_rfl) (by kernel_rfl) (fun _ _ _ h => h) (Or.inr ⟨by rfl, rfl⟩) hHeld ?_
          simp only [Act.put, List.setIfInBounds_toArray, List.set_cons_zero, List.set_cons_succ]
          refine take (i := 14) (d := some 39) (v := .bool true) rfl (by kernel_rfl) (by kernel_rfl) (by kernel_rfl) (by kernel_rfl) (fun _ _ _ h => h) (Or.inl ⟨by rfl, by intro w hSw; go_simp⟩) hHeld ?_
          simp only [Act.put, List.setIfInBounds_toArray, List.set_cons_zero, List.set_cons_succ]
          refine wpAnyH_done (by kernel_rfl) ?_ _
          go_wp2
          all_goals exact bodyPost_ret (v := .tuple #[.slice none 0 0, .bool false]) (by simp [results, Try.results203, go_sem]) rfl ⟨hb2, fun _ => rfl, fun h => (by rw [hB] at h; cases h)⟩
        · have HR : Hid ((decide (x1 = 1 ∨ x1 = 2) && Hg.fits x1 x2) = true) := hr
          clear hr
          go_wp2_with (go_at_call 211; rw [← hW0]; refine (kind_any (3, x1, x2) _).mono ?_; rintro e w1 ⟨rfl, hb⟩; rw [show actV (3, x1, x2) = .iface 212 (.agg #[.int .i64 x1, .int .i64 x2]) from rfl]; replace hrow := hrow.of_block (hb.block _ hlw); replace kA := (hb.block _ zA).trans kA; replace hbel := Rw.next hbel hb; have g0 := hrow.cell hlt; have g1 := hrow.frozen k)
          obtain ⟨W2, hW2⟩ : ∃ W2, W2 = w1.setCell ⟨w.heap.size, k, none⟩ (.iface 212 (.agg #[.int .i64 x1, .int .i64 x2])) := ⟨_, rfl⟩
          rw [← hW2]
          have q0 : W2.cell? ⟨w.heap.size, k, none⟩ = some (.iface 212 (.agg #[.int .i64 x1, .int .i64 x2])) := by subst hW2; exact World.cell?_setCell_same _ _ _ g0
          have kA2 : W2.heap[wr.heap.size]? = some (.cells #[.int .i64 3, .int .i64 x1, .int .i64 x2] 133 (0, 0)) := by subst hW2; exact (Below.heap_setCell _ _ _ _ (fun h => hlt2 h.symm)).trans kA
          have hrow2 : W2.rowIs w.heap.size 202 n (row l (k + 1)) := by subst hW2; have := row_step hrow; rw [HX.out] at this; exact this
          have hb2 : Below w.heap.size w W2 := by subst hW2; exact hbel.setCell (by simp) _
          clear hW2 hrow g0 g1 hbel kA
          have hB := pre_step HP.out (by rw [HX.out]; rw [actB_set]; exact HR.out)
          refine wp_region_held_drew (S := (fun w' => w'.cell? ⟨w.heap.size, k, none⟩ = some (.iface 212 (.agg #[.int .i64 x1, .int .i64 x2])) ∧ w'.heap[wr.heap.size]? = some (.cells #[.int .i64 3, .int .i64 x1, .int .i64 x2] 133 (0, 0)))) (by kernel_rfl) ⟨q0, kA2⟩ (fun hHeld => ?_)
          refine take (i := 0) (d := some 25) (v := .slice (some ⟨w.heap.size, 0, none⟩) n n) rfl (by kernel_rfl) (by kernel_rfl) (by kernel_rfl) (by kernel_rfl) (fun _ _ _ h => h) (Or.inl ⟨by rfl, by intro w hSw; go_simp⟩) hHeld ?_
          simp only [Act.put, List.setIfInBounds_toArray, List.set_cons_zero, List.set_cons_succ]
          refine take (i := 1) (d := some 26) (v := .int .i64 k) rfl (by kernel_rfl) (by kernel_rfl) (by kernel_rfl) (by kernel_rfl) (fun _ _ _ h => h) (Or.inl ⟨by rfl, by intro w hSw; go_simp⟩) hHeld ?_
          simp only [Act.put, List.setIfInBounds_toArray, List.set_cons_zero, List.set_cons_succ]
          refine take (i := 2) (d := some 27) (v := .pointer (some ⟨w.heap.size, k, none⟩)) rfl (by kernel_rfl) (by kernel_rfl) (by kernel_rfl) (by kernel_rfl) (fun _ _ _ h => h) (Or.inl ⟨by rfl, by intro w hSw; go_simp⟩) hHeld ?_
          simp only [Act.put, List.setIfInBounds_toArray, List.set_cons_zero, List.set_cons_succ]
          refine take (i := 3) (d := some 28) (v := .iface 212 (.agg #[.int .i64 x1, .int .i64 x2])) rfl (by kernel_rfl) (by kernel_rfl) (by kernel_rfl) (by kernel_rfl) (fun _ _ _ h => h) (Or.inl ⟨by rfl, by intro w hSw; have q1 := hSw.1; go_simp⟩) hHeld ?_
          simp only [Act.put, List.setIfInBounds_toArray, List.set_cons_zero, List.set_cons_succ]
          refine wpAnyH_ready (rs := [4]) (by kernel_rfl) (by simp) (Rg.call1 rfl (by kernel_rfl) 212 (.tmp 28) 202 (by kernel_rfl) 29 (by kernel_rfl) (.iface 212 (.agg #[.int .i64 x1, .int .i64 x2])) (by kernel_rfl) (fun _ => rfl) (Yf.right3b HR.out _) ?_ AllReadyH.nil)
          rintro e w3 ⟨rfl, hb3⟩
          replace hb3 := Rw.next (Below.drew (Below.refl _ W2)) hb3
          replace q0 := (hb3.cell (World.block_lt_of_cell? _ _ q0)).trans q0
          replace kA2 := (hb3.block _ (Array.getElem?_eq_some_iff.1 kA2).1).trans kA2
          replace hrow2 := hrow2.of_block (hb3.block _ hrow2.lt)
          replace hb2 := Rw.next hb2 hb3
          clear hb3
          refine ⟨_, rfl, ⟨q0, kA2⟩, fun hHeld => ?_⟩
          simp only [Act.put, List.setIfInBounds_toArray, List.set_cons_zero, List.set_cons_succ]
          refine take (i := 5) (d := some 30) (v := .bool false) rfl (by kernel_rfl) (by kernel_rfl) (by kernel_rfl) (by kernel_rfl) (fun _ _ _ h => h) (Or.inl ⟨by rfl, by intro w hSw; go_simp⟩) hHeld ?_
          simp only [Act.put, List.setIfInBounds_toArray, List.set_cons_zero, List.set_cons_succ]
          refine take (i := 6) (d := some 31) (v := .bool false) rfl (by kernel_rfl) (by kernel_rfl) (by kernel_rfl) (by kernel_rfl) (fun _ _ _ h => h) (Or.inl ⟨by rfl, by intro w hSw; go_simp⟩) hHeld ?_
          simp only [Act.put, List.setIfInBounds_toArray, List.set_cons_zero, List.set_cons_succ]
          refine take (i := 7) (d := some 32) (v := .slice (some ⟨w.heap.size, 0, none⟩) n n) rfl (by kernel_rfl) (by kernel_rfl) (by kernel_rfl) (by kernel_rfl) (fun _ _ _ h => h) (Or.inl ⟨by rfl, by intro w hSw; go_simp⟩) hHeld ?_
          simp only [Act.put, List.setIfInBounds_toArray, List.set_cons_zero, List.set_cons_succ]
          refine take (i := 8) (d := some 33) (v := .int .i64 k) rfl (by kernel_rfl) (by kernel_rfl) (by kernel_rfl) (by kernel_rfl) (fun _ _ _ h => h) (Or.inl ⟨by rfl, by intro w hSw; go_simp⟩) hHeld ?_
          simp only [Act.put, List.setIfInBounds_toArray, List.set_cons_zero, List.set_cons_succ]
          refine take (i := 9) (d := some 34) (v := .pointer (some ⟨w.heap.size, k, none⟩)) rfl (by kernel_rfl) (by kernel_rfl) (by kernel_rfl) (by kernel_rfl) (fun _ _ _ h => h) (Or.inl ⟨by rfl, by intro w hSw; go_simp⟩) hHeld ?_
          simp only [Act.put, List.setIfInBounds_toArray, List.set_cons_zero, List.set_cons_succ]
          refine take (i := 10) (d := some 35) (v := .iface 212 (.agg #[.int .i64 x1, .int .i64 x2])) rfl (by kernel_rfl) (by kernel_rfl) (by kernel_rfl) (by kernel_rfl) (fun _ _ _ h => h) (Or.inl ⟨by rfl, by intro w hSw; have q1 := hSw.1; go_simp⟩) hHeld ?_
          simp only [Act.put, List.setIfInBounds_toArray, List.set_cons_zero, List.set_cons_succ]
          refine take (i := 12) (d := some 37) (v := .agg #[.int .i64 3, .int .i64 x1, .int .i64 x2]) rfl (by kernel_rfl) (by kernel_rfl) (by kernel_rfl) (by kernel_rfl) (fun _ _ _ h => h) (Or.inl ⟨by rfl, by intro w hSw; have q2 := hSw.2; have d0 := three0 q2; have d1 := three1 q2; have d2 := three2 q2; go_simp⟩) hHeld ?_
          simp only [Act.put, List.setIfInBounds_toArray, List.set_cons_zero, List.set_cons_succ]
          refine wpAnyH_ready (rs := [11]) (by kernel_rfl) (by simp) (Yf.callI rfl (by kernel_rfl) 232 (.tmp 35) rfl 36 (by kernel_rfl) (.iface 212 (.agg #[.int .i64 x1, .int .i64 x2])) (.agg #[.int .i64 x1, .int .i64 x2]) (by kernel_rfl) (fun w => by kernel_rfl) (act3 x1 x2 _) ?_ AllReadyH.nil)
          rintro e w4 ⟨rfl, hb4⟩
          replace q0 := (hb4.cell (World.block_lt_of_cell? _ _ q0)).trans q0
          replace kA2 := (hb4.block _ (Array.getElem?_eq_some_iff.1 kA2).1).trans kA2
          replace hrow2 := hrow2.of_block (hb4.block _ hrow2.lt)
          replace hb2 := Rw.next hb2 hb4
          clear hb4
          refine ⟨_, rfl, ⟨q0, kA2⟩, fun hHeld => ?_⟩
          simp only [Act.put, List.setIfInBounds_toArray, List.set_cons_zero, List.set_cons_succ]
          refine take (i := 13) (d := some 38) (v := .bool false) rfl (by kernel_rfl) (by kernel_rfl) (by kernel_rfl) (by kernel_rfl) (fun _ _ _ h => h) (Or.inl ⟨by rfl, by intro w hSw; go_simp⟩) hHeld ?_
          simp only [Act.put, List.setIfInBounds_toArray, List.set_cons_zero, List.set_cons_succ]
          refine take (i := 14) (d := some 39) (v := .bool false) rfl (by kernel_rfl) (by kernel_rfl) (by kernel_rfl) (by kernel_rfl) (fun _ _ _ h => h) (Or.inl ⟨by rfl, by intro w hSw; go_simp⟩) hHeld ?_
          simp only [Act.put, List.setIfInBounds_toArray, List.set_cons_zero, List.set_cons_succ]
          refine wpAnyH_done (by kernel_rfl) ?_ _
          go_wp2
          all_goals go_roundw
          all_goals first | exact ⟨k + 1, by omega, by go_num, hb2, hrow2, hB⟩ | (simp [intOf]; omega)
      have hV6 : actV (x0, x1, x2) = .nilIface := by simp [actV, k1, k2, k3, k4, k5]
      go_wp2_with (go_at_call 211; rw [← hW0]; refine (kind_any (x0, x1, x2) _).mono ?_; rintro e w1 ⟨rfl, hb⟩; rw [show actV (x0, x1, x2) = .nilIface from hV6]; replace hrow := hrow.of_block (hb.block _ hlw); replace kA := (hb.block _ zA).trans kA; replace hbel := Rw.next hbel hb; have g0 := hrow.cell hlt; have g1 := hrow.frozen k)
      obtain ⟨W2, hW2⟩ : ∃ W2, W2 = w1.setCell ⟨w.heap.size, k, none⟩ (.nilIface) := ⟨_, rfl⟩
      rw [← hW2]
      have q0 : W2.cell? ⟨w.heap.size, k, none⟩ = some (.nilIface) := by subst hW2; exact World.cell?_setCell_same _ _ _ g0
      have kA2 : W2.heap[wr.heap.size]? = some (.cells #[.int .i64 x0, .int .i64 x1, .int .i64 x2] 133 (0, 0)) := by subst hW2; exact (Below.heap_setCell _ _ _ _ (fun h => hlt2 h.symm)).trans kA
      have hrow2 : W2.rowIs w.heap.size 202 n (row l (k + 1)) := by subst hW2; have := row_step hrow; rw [HX.out] at this; rw [hV6] at this; exact this
      have hb2 : Below w.heap.size w W2 := by subst hW2; exact hbel.setCell (by simp) _
      clear hW2 hrow g0 g1 hbel kA
      have hB := actsB_no (l := l) (k := k) (by have := HN.out; omega) (by rw [HX.out]; simp [actB, k1, k2, k3, k4, k5])
      refine wp_region_held_drew (S := (fun w' => w'.cell? ⟨w.heap.size, k, none⟩ = some (.nilIface) ∧ w'.heap[wr.heap.size]? = some (.cells #[.int .i64 x0, .int .i64 x1, .int .i64 x2] 133 (0, 0)))) (by kernel_rfl) ⟨q0, kA2⟩ (fun hHeld => ?_)
      refine take (i := 0) (d := some 25) (v := .slice (some ⟨w.heap.size, 0, none⟩) n n) rfl (by kernel_rfl) (by kernel_rfl) (by kernel_rfl) (by kernel_rfl) (fun _ _ _ h => h) (Or.inl ⟨by rfl, by intro w hSw; go_simp⟩) hHeld ?_
      simp only [Act.put, List.setIfInBounds_toArray, List.set_cons_zero, List.set_cons_succ]
      refine take (i := 1) (d := some 26) (v := .int .i64 k) rfl (by kernel_rfl) (by kernel_rfl) (by kernel_rfl) (by kernel_rfl) (fun _ _ _ h => h) (Or.inl ⟨by rfl, by intro w hSw; go_simp⟩) hHeld ?_
      simp only [Act.put, List.setIfInBounds_toArray, List.set_cons_zero, List.set_cons_succ]
      refine take (i := 2) (d := some 27) (v := .pointer (some ⟨w.heap.size, k, none⟩)) rfl (by kernel_rfl) (by kernel_rfl) (by kernel_rfl) (by kernel_rfl) (fun _ _ _ h => h) (Or.inl ⟨by rfl, by intro w hSw; go_simp⟩) hHeld ?_
      simp only [Act.put, List.setIfInBounds_toArray, List.set_cons_zero, List.set_cons_succ]
      refine take (i := 3) (d := some 28) (v := .nilIface) rfl (by kernel_rfl) (by kernel_rfl) (by kernel_rfl) (by kernel_rfl) (fun _ _ _ h => h) (Or.inl ⟨by rfl, by intro w hSw; have q1 := hSw.1; go_simp⟩) hHeld ?_
      simp only [Act.put, List.setIfInBounds_toArray, List.set_cons_zero, List.set_cons_succ]
      refine wpAnyH_ready (rs := [4]) (by kernel_rfl) (by simp) (Rg.call1 rfl (by kernel_rfl) 212 (.tmp 28) 202 (by kernel_rfl) 29 (by kernel_rfl) (.nilIface) (by kernel_rfl) (fun _ => rfl) (right6 _) ?_ AllReadyH.nil)
      rintro e w3 ⟨rfl, hb3⟩
      replace hb3 := Rw.next (Below.drew (Below.refl _ W2)) hb3
      replace q0 := (hb3.cell (World.block_lt_of_cell? _ _ q0)).trans q0
      replace kA2 := (hb3.block _ (Array.getElem?_eq_some_iff.1 kA2).1).trans kA2
      replace hrow2 := hrow2.of_block (hb3.block _ hrow2.lt)
      replace hb2 := Rw.next hb2 hb3
      clear hb3
      refine ⟨_, rfl, ⟨q0, kA2⟩, fun hHeld => ?_⟩
      simp only [Act.put, List.setIfInBounds_toArray, List.set_cons_zero, List.set_cons_succ]
      refine take (i := 5) (d := some 30) (v := .bool true) rfl (by kernel_rfl) (by kernel_rfl) (by kernel_rfl) (by kernel_rfl) (fun _ _ _ h => h) (Or.inl ⟨by rfl, by intro w hSw; go_simp⟩) hHeld ?_
      simp only [Act.put, List.setIfInBounds_toArray, List.set_cons_zero, List.set_cons_succ]
      refine take (i := 6) (d := some 31) (v := .bool true) rfl (by kernel_rfl) (by kernel_rfl) (by kernel_rfl) (by kernel_rfl) (fun _ _ _ h => h) (Or.inl ⟨by rfl, by intro w hSw; go_simp⟩) hHeld ?_
      simp only [Act.put, List.setIfInBounds_toArray, List.set_cons_zero, List.set_cons_succ]
      refine take (i := 7) (d := some 32) (v := undef) rfl (by kernel_rfl) (by kernel_rfl) (by kernel_rfl) (by kernel_rfl) (fun _ _ _ h => h) (Or.inr ⟨by rfl, rfl⟩) hHeld ?_
      simp only [Act.put, List.setIfInBounds_toArray, List.set_cons_zero, List.set_cons_succ]
      refine take (i := 8) (d := some 33) (v := undef) rfl (by kernel_rfl) (by kernel_rfl) (by kernel_rfl) (by kernel_rfl) (fun _ _ _ h => h) (Or.inr ⟨by rfl, rfl⟩) hHeld ?_
      simp only [Act.put, List.setIfInBounds_toArray, List.set_cons_zero, List.set_cons_succ]
      refine take (i := 9) (d := some 34) (v := undef) rfl (by kernel_rfl) (by kernel_rfl) (by kernel_rfl) (by kernel_rfl) (fun _ _ _ h => h) (Or.inr ⟨by rfl, rfl⟩) hHeld ?_
      simp only [Act.put, List.setIfInBounds_toArray, List.set_cons_zero, List.set_cons_succ]
      refine take (i := 10) (d := some 35) (v := undef) rfl (by kernel_rfl) (by kernel_rfl) (by kernel_rfl) (by kernel_rfl) (fun _ _ _ h => h) (Or.inr ⟨by rfl, rfl⟩) hHeld ?_
      simp only [Act.put, List.setIfInBounds_toArray, List.set_cons_zero, List.set_cons_succ]
      refine take (i := 11) (d := some 36) (v := undef) rfl (by kernel_rfl) (by kernel_rfl) (by kernel_rfl) (by kernel_rfl) (fun _ _ _ h => h) (Or.inr ⟨by rfl, rfl⟩) hHeld ?_
      simp only [Act.put, List.setIfInBounds_toArray, List.set_cons_zero, List.set_cons_succ]
      refine take (i := 12) (d := some 37) (v := undef) rfl (by kernel_rfl) (by kernel_rfl) (by kernel_rfl) (by kernel_rfl) (fun _ _ _ h => h) (Or.inr ⟨by rfl, rfl⟩) hHeld ?_
      simp only [Act.put, List.setIfInBounds_toArray, List.set_cons_zero, List.set_cons_succ]
      refine take (i := 13) (d := some 38) (v := undef) rfl (by kernel_rfl) (by kernel_rfl) (by kernel_rfl) (by kernel_rfl) (fun _ _ _ h => h) (Or.inr ⟨by rfl, rfl⟩) hHeld ?_
      simp only [Act.put, List.setIfInBounds_toArray, List.set_cons_zero, List.set_cons_succ]
      refine take (i := 14) (d := some 39) (v := .bool true) rfl (by kernel_rfl) (by kernel_rfl) (by kernel_rfl) (by kernel_rfl) (fun _ _ _ h => h) (Or.inl ⟨by rfl, by intro w hSw; go_simp⟩) hHeld ?_
      simp only [Act.put, List.setIfInBounds_toArray, List.set_cons_zero, List.set_cons_succ]
      refine wpAnyH_done (by kernel_rfl) ?_ _
      go_wp2
      all_goals exact bodyPost_ret (v := .tuple #[.slice none 0 0, .bool false]) (by simp [results, Try.results203, go_sem]) rfl ⟨hb2, fun _ => rfl, fun h => (by rw [hB] at h; cases h)⟩
    · have he : k = n := by omega
      subst he
      go_wp2
      have := HN.out
      have hB := actsB_yes (l := l) (by omega) (by rw [← this]; exact HP.out)
      exact bodyPost_ret (v := .tuple #[.slice (some ⟨w.heap.size, 0, none⟩) k k, .bool true]) (by simp [results, Try.results203, go_sem]) rfl ⟨hbel, fun h => (by rw [hB] at h; cases h), fun _ => ⟨rfl, hrow⟩⟩

end Go.Proofs.Ytcbhpmgjmpbpmaa.Yd
namespace Go.Proofs.Ytcbhpmgjmpbpmaa.Ye
set_option maxRecDepth 8000
open Go Go.RowKit
open Num Pl Yb Yc Yd

theorem num_any (n : Int) (w : World) : Calls Try.prog 197 #[.int .i64 n] w fun e w' => e = .returned (.bool (numOkB n 6)) ∧ w' = w := by
  rw [Pk.num6]
  unfold Pk.numB
  by_cases h1 : 0 ≤ n
  · by_cases h2 : n ≤ 281474976710655
    · go_enter Try.func197, Try.ntmps197
      go_wp2
      go_ret
      exact ⟨ret_bool (by simp <;> omega), rfl⟩
    · go_enter Try.func197, Try.ntmps197
      go_wp2
      go_ret
      exact ⟨ret_bool (by simp <;> omega), rfl⟩
  · go_enter Try.func197, Try.ntmps197
    go_wp2
    go_ret
    exact ⟨ret_bool (by simp <;> omega), rfl⟩

set_option maxHeartbeats 40000000 in
theorem actsS (a : Option Addr) (b off cap : Nat) (l : List A3) (w : World) (h : Rd w a b off l) :
    Calls Try.prog 157 #[.slice a l.length cap] w fun e w' => e = .returned (.bool (actsB l)) ∧ Below w.heap.size w w' := by
  obtain ⟨hh, hc, hs⟩ := h
  by_cases h12 : 12 < l.length
  · have hz : (12 : Int) < (l.length : Int) := by omega
    rw [actsB_long h12]
    go_enter Try.func157, Try.ntmps157
    go_wp2
    go_ret
    exact ⟨rfl, Below.refl _ _⟩
  obtain ⟨n, hn⟩ : ∃ n, n = l.length := ⟨_, rfl⟩
  rw [← hn] at hh hc hs h12 ⊢
  have HN : Hid (n = l.length) := hn
  clear hn
  have hz : ¬ (12 : Int) < (n : Int) := by omega
  go_enter Try.func157, Try.ntmps157
  go_wp2
  go_loopw [11] (fun i wr => ∃ k : Nat, k ≤ n ∧ i = .int .i64 k ∧ Below w.heap.size w wr ∧ pre l k) (fun i _ => n - (intOf i).toNat)
  case atStart => exact ⟨0, Nat.zero_le _, rfl, Below.refl _ _, fun i hi => by omega⟩
  case round =>
    obtain ⟨k, hk, rfl, hbel, hpre⟩ := hrel
    have HP : Hid (pre l k) := hpre
    clear hpre
    by_cases hlt : k < n
    · obtain rfl := hh (by omega)
      have hkz : (k : Int) < (n : Int) := by omega
      obtain ⟨c0, c1, c2⟩ := (hc k hlt).of hbel (hc k hlt).lt
      generalize ex : l.getD k z3 = x at c0 c1 c2
      have HX : Hid (l.getD k z3 = x) := ex
      clear ex hc hh
      obtain ⟨x0, x1, x2⟩ := x
      simp only at c0 c1 c2
      replace hbel : ∀ o, Below w.heap.size w (wr.alloc o) := fun o => Rw.next hbel (below_alloc1 _ _)
      have HB : Hid (∀ o, Below w.heap.size w (wr.alloc o)) := hbel
      clear hbel
      have NO : Hid (actB (x0, x1, x2) = false → actsB l = false) := fun h => actsB_no (k := k) (by have := HN.out; omega) (by rw [HX.out]; exact h)
      have YES : Hid (actB (x0, x1, x2) = true → pre l (k + 1)) := fun h => pre_step HP.out (by rw [HX.out]; exact h)
      clear HX HP
      by_cases hz1 : x1 = 0
      · subst hz1
        by_cases hz2 : x2 = 0
        · subst hz2
          by_cases k1 : x0 = 1
          · subst k1
            go_wp2
            go_ret
            exact ⟨ret_bool (NO.out (by simp [actB])).symm, HB.out _⟩
          have e1 : (x0 == 1) = false := by simpa using k1
          by_cases k3 : x0 = 3
          · subst k3
            go_wp2
            go_ret
            exact ⟨ret_bool (NO.out (by simp [actB])).symm, HB.out _⟩
          have e3 : (x0 == 3) = false := by simpa using k3
          by_cases m1 : x0 < 1
          · skip
            go_wp2
            go_ret
            exact ⟨ret_bool (NO.out (by simp [actB, k1, k3]; omega)).symm, HB.out _⟩
          by_cases m5 : 5 < x0
          · skip
            go_wp2
            go_ret
            exact ⟨ret_bool (NO.out (by simp [actB, k1, k3]; omega)).symm, HB.out _⟩
          go_wp2
          go_roundw
          case rel => exact ⟨k + 1, by omega, by go_num, HB.out _, YES.out (by simp [actB, k1, k3]; omega)⟩
          case measure => simp [intOf]; omega
        · have f02 : (x2 == 0) = false := by simpa using hz2
          by_cases k1 : x0 = 1
          · subst k1
            go_wp2
            go_ret
            exact ⟨ret_bool (NO.out (by simp [actB])).symm, HB.out _⟩
          have e1 : (x0 == 1) = false := by simpa using k1
          by_cases k3 : x0 = 3
          · subst k3
            go_wp2
            go_ret
            exact ⟨ret_bool (NO.out (by simp [actB])).symm, HB.out _⟩
          have e3 : (x0 == 3) = false := by simpa using k3
          go_wp2
          go_ret
          exact ⟨ret_bool (NO.out (by simp [actB, k1, k3, hz2])).symm, HB.out _⟩
      · have f01 : (x1 == 0) = false := by simpa using hz1
        by_cases hz2 : x2 = 0
        · subst hz2
          by_cases k1 : x0 = 1
          · subst k1
            by_cases p1 : 1 ≤ x1
            · by_cases p2 : x1 ≤ 255
              · skip
                go_wp2
                go_roundw
                case rel => exact ⟨k + 1, by omega, by go_num, HB.out _, YES.out (by simp [actB, p1, p2])⟩
                case measure => simp [intOf]; omega
              · skip
                go_wp2
                go_ret
                exact ⟨ret_bool (NO.out (by simp [actB]; omega)).symm, HB.out _⟩
            · skip
              go_wp2
              go_ret
              exact ⟨ret_bool (NO.out (by simp [actB]; omega)).symm, HB.out _⟩
          have e1 : (x0 == 1) = false := by simpa using k1
          by_cases k3 : x0 = 3
          · subst k3
            by_cases p1 : x1 = 1
            · subst p1
              cases hR : numOkB 0 6
              · have HR : Hid (numOkB 0 6 = false) := hR
                clear hR
                go_wp2_with (go_at_call 197; refine (num_any _ _).mono ?_; rw [HR.out]; rintro e w3 ⟨rfl, hw⟩; replace hw := hw.symm; subst hw)
                go_ret
                exact ⟨ret_bool (NO.out (by simp [actB]; exact HR.out)).symm, HB.out _⟩
              · have HR : Hid (numOkB 0 6 = true) := hR
                clear hR
                go_wp2_with (go_at_call 197; refine (num_any _ _).mono ?_; rw [HR.out]; rintro e w3 ⟨rfl, hw⟩; replace hw := hw.symm; subst hw)
                go_roundw
                case rel => exact ⟨k + 1, by omega, by go_num, HB.out _, YES.out (by simp [actB]; exact HR.out)⟩
                case measure => simp [intOf]; omega
            by_cases p2 : x1 = 2
            · subst p2
              cases hR : numOkB 0 6
              · have HR : Hid (numOkB 0 6 = false) := hR
                clear hR
                go_wp2_with (go_at_call 197; refine (num_any _ _).mono ?_; rw [HR.out]; rintro e w3 ⟨rfl, hw⟩; replace hw := hw.symm; subst hw)
                go_ret
                exact ⟨ret_bool (NO.out (by simp [actB]; exact HR.out)).symm, HB.out _⟩
              · have HR : Hid (numOkB 0 6 = true) := hR
                clear hR
                go_wp2_with (go_at_call 197; refine (num_any _ _).mono ?_; rw [HR.out]; rintro e w3 ⟨rfl, hw⟩; replace hw := hw.symm; subst hw)
                go_roundw
                case rel => exact ⟨k + 1, by omega, by go_num, HB.out _, YES.out (by simp [actB]; exact HR.out)⟩
                case measure => simp [intOf]; omega
            have f1 : (x1 == 1) = false := by simpa using p1
            have f2 : (x1 == 2) = false := by simpa using p2
            go_wp2
            go_ret
            exact ⟨ret_bool (NO.out (by simp [actB, p1, p2])).symm, HB.out _⟩
          have e3 : (x0 == 3) = false := by simpa using k3
          go_wp2
          go_ret
          exact ⟨ret_bool (NO.out (by simp [actB, k1, k3, hz1])).symm, HB.out _⟩
        · have f02 : (x2 == 0) = false := by simpa using hz2
          by_cases k1 : x0 = 1
          · subst k1
            by_cases p1 : 1 ≤ x1
            · by_cases p2 : x1 ≤ 255
              · skip
                go_wp2
                go_ret
                exact ⟨ret_bool (NO.out (by simp [actB, hz2])).symm, HB.out _⟩
              · skip
                go_wp2
                go_ret
                exact ⟨ret_bool (NO.out (by simp [actB]; omega)).symm, HB.out _⟩
            · skip
              go_wp2
              go_ret
              exact ⟨ret_bool (NO.out (by simp [actB]; omega)).symm, HB.out _⟩
          have e1 : (x0 == 1) = false := by simpa using k1
          by_cases k3 : x0 = 3
          · subst k3
            by_cases p1 : x1 = 1
            · subst p1
              cases hR : numOkB x2 6
              · have HR : Hid (numOkB x2 6 = false) := hR
                clear hR
                go_wp2_with (go_at_call 197; refine (num_any _ _).mono ?_; rw [HR.out]; rintro e w3 ⟨rfl, hw⟩; replace hw := hw.symm; subst hw)
                go_ret
                exact ⟨ret_bool (NO.out (by simp [actB]; exact HR.out)).symm, HB.out _⟩
              · have HR : Hid (numOkB x2 6 = true) := hR
                clear hR
                go_wp2_with (go_at_call 197; refine (num_any _ _).mono ?_; rw [HR.out]; rintro e w3 ⟨rfl, hw⟩; replace hw := hw.symm; subst hw)
                go_roundw
                case rel => exact ⟨k + 1, by omega, by go_num, HB.out _, YES.out (by simp [actB]; exact HR.out)⟩
                case measure => simp [intOf]; omega
            by_cases p2 : x1 = 2
            · subst p2
              cases hR : numOkB x2 6
              · have HR : Hid (numOkB x2 6 = false) := hR
                clear hR
                go_wp2_with (go_at_call 197; refine (num_any _ _).mono ?_; rw [HR.out]; rintro e w3 ⟨rfl, hw⟩; replace hw := hw.symm; subst hw)
                go_ret
                exact ⟨ret_bool (NO.out (by simp [actB]; exact HR.out)).symm, HB.out _⟩
              · have HR : Hid (numOkB x2 6 = true) := hR
                clear hR
                go_wp2_with (go_at_call 197; refine (num_any _ _).mono ?_; rw [HR.out]; rintro e w3 ⟨rfl, hw⟩; replace hw := hw.symm; subst hw)
                go_roundw
                case rel => exact ⟨k + 1, by omega, by go_num, HB.out _, YES.out (by simp [actB]; exact HR.out)⟩
                case measure => simp [intOf]; omega
            have f1 : (x1 == 1) = false := by simpa using p1
            have f2 : (x1 == 2) = false := by simpa using p2
            go_wp2
            go_ret
            exact ⟨ret_bool (NO.out (by simp [actB, p1, p2])).symm, HB.out _⟩
          have e3 : (x0 == 3) = false := by simpa using k3
          go_wp2
          go_ret
          exact ⟨ret_bool (NO.out (by simp [actB, k1, k3, hz1])).symm, HB.out _⟩
    · have he : k = n := by omega
      subst he
      go_wp2
      go_ret
      have := HN.out
      exact ⟨ret_bool (actsB_yes (l := l) (by omega) (by rw [← this]; exact HP.out)).symm, hbel⟩

end Go.Proofs.Ytcbhpmgjmpbpmaa.Ye
namespace Go.Proofs.Ytcbhpmgjmpbpmaa.Hb
open Go Go.RowKit
set_option maxRecDepth 8000
open Num Pl Hr Hh Hf Hg

/-- What headBy hands back. -/
def Made (w : World) (L : List Int) (e : Ending) (w' : World) : Prop :=
  ∃ g, e = .returned (.agg #[.slice (some ⟨g, 0, none⟩) 8 8]) ∧ Mine w' g L ∧ w.heap.size ≤ g ∧ Below w.heap.size w w'
/-- What the closure tells. -/
def Tells (c : Nat) (p1 p2 p3 : Value) (L : List Int) (w : World) : Prop :=
  ∀ k : Nat, k < 8 → ∀ w', Below w.heap.size w w' → Calls Try.prog c #[.int .i64 k, p1, p2, p3] w' fun e w'' => e = .returned (.int .i64 (L.getD k 0)) ∧ w'' = w'

end Go.Proofs.Ytcbhpmgjmpbpmaa.Hb
namespace Go.Proofs.Ytcbhpmgjmpbpmaa.Yg
set_option maxRecDepth 8000
open Go Go.RowKit
open Num Pl Yb Yc Yd

theorem actsI (a : Option Addr) (b off cap : Nat) (l : List A3) (w : World) (h : Rd w a b off l) :
    Calls Try.prog 179 #[.slice a l.length cap] w fun e w' => e = .returned (.bool (actsB l)) ∧ Below w.heap.size w w' := by
  cases hB : actsB l
  · go_enter Try.func179, Try.ntmps179
    go_wp2_with (go_at_call 203; refine (acts_any _ _ _ _ _ _ h).mono ?_; rintro e w1 ⟨hb, h0, h1⟩; obtain rfl := h0 hB; clear h0 h1)
    go_ret
    exact ⟨rfl, hb⟩
  · go_enter Try.func179, Try.ntmps179
    go_wp2_with (go_at_call 203; refine (acts_any _ _ _ _ _ _ h).mono ?_; rintro e w1 ⟨hb, h0, h1⟩; obtain ⟨rfl, _⟩ := h1 hB; clear h0 h1)
    go_ret
    exact ⟨rfl, hb⟩

/-- There is an action of the kind. -/
def anyK (l : List A3) (q : Int) : Bool := decide (∃ i, i < l.length ∧ (l.getD i z3).1 = q)
def hasB (l : List A3) (q : Int) : Bool := actsB l && anyK l q
theorem anyK_yes {l : List A3} {q : Int} {k : Nat} (hk : k < l.length) (h : (l.getD k z3).1 = q) : anyK l q = true := decide_eq_true ⟨k, hk, h⟩
theorem anyK_no {l : List A3} {q : Int} (h : ∀ i, i < l.length → (l.getD i z3).1 ≠ q) : anyK l q = false := decide_eq_false fun ⟨i, hi, e⟩ => h i hi e

def sameB (l m : List A3) : Bool := actsB l && decide (l = m)

end Go.Proofs.Ytcbhpmgjmpbpmaa.Yg
namespace Go.Proofs.Ytcbhpmgjmpbpmaa.Ea
set_option maxRecDepth 8000
set_option linter.unusedSimpArgs false
set_option linter.unusedVariables false
open Go Go.RowKit
open Num Pl

set_option maxHeartbeats 1000000 in
theorem eqT_same (q : Int) (a a' : Option Addr) (b off c b' off' c' : Nat) (Q F : List Ent) (w : World) (hQ : Rd w a b off Q) (hF : Rd w a' b' off' F) (hs : Q.map Ent.said = F.map Ent.said) :
    Calls Try.prog 41 #[.agg #[.int .i64 q, .slice a Q.length c], .agg #[.int .i64 q, .slice a' F.length c']] w fun x w' => x = .returned (.bool true) ∧ Below w.heap.size w w' := by
  obtain ⟨W1, hW1⟩ : ∃ W1, W1 = (w.alloc (.cells #[.int .i64 q, .slice a Q.length c] 69)).alloc (.cells #[.int .i64 q, .slice a' F.length c'] 69) := ⟨_, rfl⟩
  have B1 : Below w.heap.size w W1 := by subst hW1; exact Rw.next (below_alloc1 _ _) (below_alloc1 _ _)
  replace hQ := hQ.below B1
  replace hF := hF.below B1
  go_enter Try.func41, Try.ntmps41
  go_wp2_with (go_at_call 115; rw [← hW1]; clear hW1; refine (eqS_same _ _ _ _ _ _ _ _ Q F _ hQ hF hs).mono ?_; rintro x wa ⟨rfl, ba⟩)
  go_ret
  exact ⟨rfl, Rw.next B1 ba⟩

def upB (m n : Int) : Bool := decide (0 ≤ n) && decide (n ≤ m)
theorem upTo_any (m n : Int) (w : World) : Calls Try.prog 88 #[.int .i64 m, .int .i64 n] w fun e w' => e = .returned (.bool (upB m n)) ∧ w' = w := by
  by_cases h0 : 0 ≤ n
  · go_enter Try.func88, Try.ntmps88
    go_wp2
    go_ret
    exact ⟨ret_bool (by simp [upB, h0]), rfl⟩
  · go_enter Try.func88, Try.ntmps88
    go_wp2
    go_ret
    exact ⟨ret_bool (by simp [upB]; omega), rfl⟩

/-- Is an entry right? -/
def enB (x : En) : Bool := upB 1000000000 x.1 && (upB 65535 x.2.1 && (upB 1000000000 x.2.2.2.2.2 && (Po.matchB x.2.2.1 x.2.2.2.1 && Yd.actsB x.2.2.2.2.1)))

set_option maxHeartbeats 4000000 in
theorem okE_impl (e : Ent) (w : World) (h : e.Ok w) : Calls Try.prog 109 #[.agg e.vals] w fun x w' => x = .returned (.bool (enB e.said)) ∧ Below w.heap.size w w' := by
  obtain ⟨ep, pr, V, M, A, hh, aV, bV, oV, cV, aM, bM, oM, cM, aA, bA, oA, cA⟩ := e
  obtain ⟨rV, rM, rA, wV, wM⟩ := h
  simp only at rV rM rA wV wM
  simp only [Ent.vals, enB, Ent.said]
  obtain ⟨W1, hW1⟩ : ∃ W1, W1 = w.alloc (.cells #[.int .i64 ep, .int .i64 pr, .slice aV V.length cV, .slice aM M.length cM, .slice aA A.length cA, .int .i64 hh] 74) := ⟨_, rfl⟩
  have B1 : Below w.heap.size w W1 := by subst hW1; exact below_alloc1 _ _
  have k0 : W1.heap[w.heap.size]? = some (.cells #[.int .i64 ep, .int .i64 pr, .slice aV V.length cV, .slice aM M.length cM, .slice aA A.length cA, .int .i64 hh] 74 (0, 0)) := by subst hW1; exact at_new rfl
  replace rV := rV.below B1
  replace rM := rM.below B1
  replace rA := rA.below B1
  generalize hb1 : upB 1000000000 ep = b1
  generalize hb2 : upB 65535 pr = b2
  generalize hb3 : upB 1000000000 hh = b3
  generalize hb4 : Po.matchB V M = b4
  generalize hb5 : Yd.actsB A = b5
  have Hb1 : Hid (upB 1000000000 ep = b1) := hb1
  have Hb2 : Hid (upB 65535 pr = b2) := hb2
  have Hb3 : Hid (upB 1000000000 hh = b3) := hb3
  have Hb4 : Hid (Po.matchB V M = b4) := hb4
  have Hb5 : Hid (Yd.actsB A = b5) := hb5
  clear hb1 hb2 hb3 hb4 hb5
  cases b1
  · have t1 : True := trivial
    go_enter Try.func109, Try.ntmps109
    go_wp2_with (first
      | (go_at_call 88; clear t1; rw [← hW1]; clear hW1; refine (upTo_any _ _ _).mono ?_; rw [Hb1.out]; rintro x wa ⟨rfl, hw⟩; replace hw := hw.symm; subst hw; obtain ⟨p0, p1, p2, p3, p4, p5⟩ := six k0; have t2 : True := trivial))
    go_ret
    exact ⟨ret_bool (by simp), B1⟩
  · skip
    cases b2
    · have t1 : True := trivial
      go_enter Try.func109, Try.ntmps109
      go_wp2_with (first
      | (go_at_call 88; clear t1; rw [← hW1]; clear hW1; refine (upTo_any _ _ _).mono ?_; rw [Hb1.out]; rintro x wa ⟨rfl, hw⟩; replace hw := hw.symm; subst hw; obtain ⟨p0, p1, p2, p3, p4, p5⟩ := six k0; have t2 : True := trivial)
      | (go_at_call 88; clear t2; refine (upTo_any _ _ _).mono ?_; rw [Hb2.out]; rintro x wa ⟨rfl, hw⟩; replace hw := hw.symm; subst hw; have t3 : True := trivial))
      go_ret
      exact ⟨ret_bool (by simp), B1⟩
    · skip
      cases b3
      · have t1 : True := trivial
        go_enter Try.func109, Try.ntmps109
        go_wp2_with (first
      | (go_at_call 88; clear t1; rw [← hW1]; clear hW1; refine (upTo_any _ _ _).mono ?_; rw [Hb1.out]; rintro x wa ⟨rfl, hw⟩; replace hw := hw.symm; subst hw; obtain ⟨p0, p1, p2, p3, p4, p5⟩ := six k0; have t2 : True := trivial)
      | (go_at_call 88; clear t2; refine (upTo_any _ _ _).mono ?_; rw [Hb2.out]; rintro x wa ⟨rfl, hw⟩; replace hw := hw.symm; subst hw; have t3 : True := trivial)
      | (go_at_call 88; clear t3; refine (upTo_any _ _ _).mono ?_; rw [Hb3.out]; rintro x wa ⟨rfl, hw⟩; replace hw := hw.symm; subst hw))
        go_ret
        exact ⟨ret_bool (by simp), B1⟩
      · skip
        cases b4
        · have t1 : True := trivial
          go_enter Try.func109, Try.ntmps109
          go_wp2_with (first
      | (go_at_call 88; clear t1; rw [← hW1]; clear hW1; refine (upTo_any _ _ _).mono ?_; rw [Hb1.out]; rintro x wa ⟨rfl, hw⟩; replace hw := hw.symm; subst hw; obtain ⟨p0, p1, p2, p3, p4, p5⟩ := six k0; have t2 : True := trivial)
      | (go_at_call 88; clear t2; refine (upTo_any _ _ _).mono ?_; rw [Hb2.out]; rintro x wa ⟨rfl, hw⟩; replace hw := hw.symm; subst hw; have t3 : True := trivial)
      | (go_at_call 88; clear t3; refine (upTo_any _ _ _).mono ?_; rw [Hb3.out]; rintro x wa ⟨rfl, hw⟩; replace hw := hw.symm; subst hw)
      | (go_at_call 121; refine (Mi.ok_any _ _ _ _ _ _ _ _ V M _ rV rM wV).mono ?_; rw [Hb4.out]; rintro x wa ⟨rfl, ba⟩; replace k0 := (ba.block _ (blk_lt k0)).trans k0; clear p0 p1 p2 p3 p4 p5; obtain ⟨p0, p1, p2, p3, p4, p5⟩ := six k0; replace rA := rA.below ba; replace B1 := Rw.next B1 ba; clear ba))
          go_ret
          exact ⟨ret_bool (by simp), B1⟩
        · skip
          have t1 : True := trivial
          go_enter Try.func109, Try.ntmps109
          go_wp2_with (first
      | (go_at_call 88; clear t1; rw [← hW1]; clear hW1; refine (upTo_any _ _ _).mono ?_; rw [Hb1.out]; rintro x wa ⟨rfl, hw⟩; replace hw := hw.symm; subst hw; obtain ⟨p0, p1, p2, p3, p4, p5⟩ := six k0; have t2 : True := trivial)
      | (go_at_call 88; clear t2; refine (upTo_any _ _ _).mono ?_; rw [Hb2.out]; rintro x wa ⟨rfl, hw⟩; replace hw := hw.symm; subst hw; have t3 : True := trivial)
      | (go_at_call 88; clear t3; refine (upTo_any _ _ _).mono ?_; rw [Hb3.out]; rintro x wa ⟨rfl, hw⟩; replace hw := hw.symm; subst hw)
      | (go_at_call 121; refine (Mi.ok_any _ _ _ _ _ _ _ _ V M _ rV rM wV).mono ?_; rw [Hb4.out]; rintro x wa ⟨rfl, ba⟩; replace k0 := (ba.block _ (blk_lt k0)).trans k0; clear p0 p1 p2 p3 p4 p5; obtain ⟨p0, p1, p2, p3, p4, p5⟩ := six k0; replace rA := rA.below ba; replace B1 := Rw.next B1 ba; clear ba)
      | (go_at_call 179; refine (Yg.actsI _ _ _ _ A _ rA).mono ?_; rw [Hb5.out]; rintro x wa ⟨rfl, ba⟩; replace B1 := Rw.next B1 ba; clear ba))
          go_ret
          exact ⟨ret_bool (by simp), B1⟩

set_option maxHeartbeats 4000000 in
theorem okE_spec (e : Ent) (w : World) (h : e.Ok w) : Calls Try.prog 67 #[.agg e.vals] w fun x w' => x = .returned (.bool (enB e.said)) ∧ Below w.heap.size w w' := by
  obtain ⟨ep, pr, V, M, A, hh, aV, bV, oV, cV, aM, bM, oM, cM, aA, bA, oA, cA⟩ := e
  obtain ⟨rV, rM, rA, wV, wM⟩ := h
  simp only at rV rM rA wV wM
  simp only [Ent.vals, enB, Ent.said]
  obtain ⟨W1, hW1⟩ : ∃ W1, W1 = w.alloc (.cells #[.int .i64 ep, .int .i64 pr, .slice aV V.length cV, .slice aM M.length cM, .slice aA A.length cA, .int .i64 hh] 74) := ⟨_, rfl⟩
  have B1 : Below w.heap.size w W1 := by subst hW1; exact below_alloc1 _ _
  have k0 : W1.heap[w.heap.size]? = some (.cells #[.int .i64 ep, .int .i64 pr, .slice aV V.length cV, .slice aM M.length cM, .slice aA A.length cA, .int .i64 hh] 74 (0, 0)) := by subst hW1; exact at_new rfl
  replace rV := rV.below B1
  replace rM := rM.below B1
  replace rA := rA.below B1
  generalize hb4 : Po.matchB V M = b4
  generalize hb5 : Yd.actsB A = b5
  have Hb4 : Hid (Po.matchB V M = b4) := hb4
  have Hb5 : Hid (Yd.actsB A = b5) := hb5
  clear hb4 hb5
  by_cases c0 : ep < 0
  · go_enter Try.func67, Try.ntmps67
    go_wp2
    go_ret
    exact ⟨ret_bool (by simp [upB]; omega), below_alloc1 _ _⟩
  by_cases c1 : 1000000000 < ep
  · go_enter Try.func67, Try.ntmps67
    go_wp2
    go_ret
    exact ⟨ret_bool (by simp [upB]; omega), below_alloc1 _ _⟩
  by_cases c2 : pr < 0
  · go_enter Try.func67, Try.ntmps67
    go_wp2
    go_ret
    exact ⟨ret_bool (by simp [upB]; omega), below_alloc1 _ _⟩
  by_cases c3 : 65535 < pr
  · go_enter Try.func67, Try.ntmps67
    go_wp2
    go_ret
    exact ⟨ret_bool (by simp [upB]; omega), below_alloc1 _ _⟩
  by_cases c4 : hh < 0
  · go_enter Try.func67, Try.ntmps67
    go_wp2
    go_ret
    exact ⟨ret_bool (by simp [upB]; omega), below_alloc1 _ _⟩
  by_cases c5 : 1000000000 < hh
  · go_enter Try.func67, Try.ntmps67
    go_wp2
    go_ret
    exact ⟨ret_bool (by simp [upB]; omega), below_alloc1 _ _⟩
  have e1 : upB 1000000000 ep = true := by simp [upB]; omega
  have e2 : upB 65535 pr = true := by simp [upB]; omega
  have e3 : upB 1000000000 hh = true := by simp [upB]; omega
  rw [e1, e2, e3]
  clear e1 e2 e3
  cases b4
  · go_enter Try.func67, Try.ntmps67
    go_wp2_with (go_at_call 132; rw [← hW1]; clear hW1; refine (Ms.okS_any _ _ _ _ _ _ _ _ V M _ rV rM wV).mono ?_; rw [Hb4.out]; rintro x wa ⟨rfl, ba⟩; replace k0 := (ba.block _ (blk_lt k0)).trans k0; obtain ⟨p0, p1, p2, p3, p4, p5⟩ := six k0; replace rA := rA.below ba; replace B1 := Rw.next B1 ba; clear ba)
    go_ret
    exact ⟨ret_bool (by simp), B1⟩
  · go_enter Try.func67, Try.ntmps67
    go_wp2_with (first
      | (go_at_call 132; rw [← hW1]; clear hW1; refine (Ms.okS_any _ _ _ _ _ _ _ _ V M _ rV rM wV).mono ?_; rw [Hb4.out]; rintro x wa ⟨rfl, ba⟩; replace k0 := (ba.block _ (blk_lt k0)).trans k0; obtain ⟨p0, p1, p2, p3, p4, p5⟩ := six k0; replace rA := rA.below ba; replace B1 := Rw.next B1 ba; clear ba)
      | (go_at_call 157; refine (Ye.actsS _ _ _ _ A _ rA).mono ?_; rw [Hb5.out]; rintro x wa ⟨rfl, ba⟩; replace B1 := Rw.next B1 ba; clear ba))
    go_ret
    exact ⟨ret_bool (by simp), B1⟩

end Go.Proofs.Ytcbhpmgjmpbpmaa.Ea
namespace Go.Proofs.Ytcbhpmgjmpbpmaa.Ea
set_option maxRecDepth 8000
open Go Go.RowKit
open Num Pl

theorem ent_of_raw {w : World} {r : Raw} (h : r.Is w) (hl : r.len ≤ 1048576) : ∃ e : Ent, e.vals = r.vals ∧ e.Ok w := by
  obtain ⟨ep, pr, aV, nV, cV, aM, nM, cM, aA, nA, cA, hh⟩ := r
  obtain ⟨⟨zV, h1⟩, ⟨zM, h2⟩, ⟨zA, h3⟩⟩ := h
  simp only [Raw.len] at hl
  simp only at h1 h2 h3
  obtain ⟨bV, oV, V, lV, rV, wV⟩ := Lm.rd_wide h1 (by omega)
  obtain ⟨bM, oM, M, lM, rM, wM⟩ := Lm.rd_wide h2 (by omega)
  obtain ⟨bA, oA, A, lA, rA⟩ := Yb.rd_of_isRow h3 (by omega)
  exact ⟨⟨ep, pr, V, M, A, hh, aV, bV, oV, cV, aM, bM, oM, cM, aA, bA, oA, cA⟩, by simp [Ent.vals, Raw.vals, lV, lM, lA], ⟨rV, rM, rA, wV, wM⟩⟩
theorem len_le_tot (R : List Raw) {i : Nat} (h : i < R.length) : (R.getD i r0).len ≤ tot R R.length := by
  have := tot_mono R (i := i + 1) (j := R.length) (by omega)
  simp only [tot] at this
  omega
instance : Inhabited Ent := ⟨e0⟩
theorem rd_of_isRow {w : World} {a : Option Addr} {R : List Raw} (h : IsRow w a R) (hl : R.length + tot R R.length ≤ 1048576) : ∃ b off Q, List.length Q = R.length ∧ Rd w a b off Q := by
  obtain ⟨_, hi, hc⟩ := h
  obtain ⟨q, hq⟩ := Deep.choose_lt (n := R.length) (fun i h => ent_of_raw (hi i h) (by have := len_le_tot R h; omega))
  have ge : ∀ i, i < R.length → ((List.range R.length).map q).getD i e0 = q i := fun i hi => by simp [List.getD, hi]
  rcases hc with h0 | ⟨b, off, rfl, hc⟩
  · exact ⟨0, 0, [], h0.symm, ⟨fun h => by simp at h, fun i h => by simp at h, fun i h => by simp at h, by simp⟩⟩
  · refine ⟨b, off, (List.range R.length).map q, by simp, ⟨fun _ => rfl, fun i hi => ?_, fun i hi => ?_, by simp; omega⟩⟩
    · simp only [List.length_map, List.length_range] at hi
      rw [ge i hi, (hq i hi).1]
      exact hc i hi
    · simp only [List.length_map, List.length_range] at hi
      rw [ge i hi]
      exact (hq i hi).2

end Go.Proofs.Ytcbhpmgjmpbpmaa.Ea
namespace Go.Proofs.Ytcbhpmgjmpbpmaa.Ga
set_option maxRecDepth 8000
set_option linter.unusedSimpArgs false
set_option linter.unusedVariables false
open Go Go.ChangeShapes Go.WideShapes Go.RowKit
open Num Pl Ea

/-- What a message says: kind, session, number, what its entry says, hand, head. -/
abbrev Said := Int × Int × Int × En × Bool × List Int

structure MRaw where
  kd : Int
  se : Int
  xi : Int
  r : Raw
  hd : Bool
  aH : Option Addr
  nH : Nat
  cH : Nat
def MRaw.vals (m : MRaw) : Array Value := #[.int .i64 m.kd, .int .i64 m.se, .int .i64 m.xi, .int .i64 m.r.ep, .int .i64 m.r.pr, .slice m.r.aV m.r.nV m.r.cV, .slice m.r.aM m.r.nM m.r.cM, .slice m.r.aA m.r.nA m.r.cA, .bool m.hd, .slice m.aH m.nH m.cH]
def MRaw.Is (w : World) (m : MRaw) : Prop := m.r.Is w ∧ m.r.h = 0 ∧ ∃ z, Rw.IsRow .i64 w m.aH m.nH m.cH z
def MRaw.len (m : MRaw) : Nat := m.r.len + m.nH
theorem MRaw.Is.max {w : World} {m : MRaw} (h : m.Is w) : m.r.nV ≤ maxLen ∧ m.r.nM ≤ maxLen ∧ m.r.nA ≤ maxLen ∧ m.nH ≤ maxLen := by
  obtain ⟨h1, _, ⟨_, h2⟩⟩ := h
  have := h1.max
  exact ⟨this.1, this.2.1, this.2.2, Hr.isRow_max h2⟩

structure Msg where
  kd : Int
  se : Int
  xi : Int
  e : Ent
  hd : Bool
  H : List Int
  aH : Option Addr
  bH : Nat
  oH : Nat
  cH : Nat
def Msg.said (m : Msg) : Said := (m.kd, m.se, m.xi, m.e.said, m.hd, m.H)
def Msg.vals (m : Msg) : Array Value := #[.int .i64 m.kd, .int .i64 m.se, .int .i64 m.xi, .int .i64 m.e.ep, .int .i64 m.e.pr, .slice m.e.aV m.e.V.length m.e.cV, .slice m.e.aM m.e.M.length m.e.cM, .slice m.e.aA m.e.A.length m.e.cA, .bool m.hd, .slice m.aH m.H.length m.cH]
structure Msg.Ok (w : World) (m : Msg) : Prop where
  e : m.e.Ok w
  z : m.e.h = 0
  rH : Hr.Rd w m.aH m.bH m.oH m.H
  wH : Po.Wide m.H
theorem Msg.Ok.below {w w' : World} {m : Msg} (h : m.Ok w) (hb : Below w.heap.size w w') : m.Ok w' := ⟨h.e.below hb, h.z, h.rH.below hb, h.wH⟩
theorem msg_vals (m : Msg) : m.vals = #[.int .i64 m.kd, .int .i64 m.se, .int .i64 m.xi, .int .i64 m.e.ep, .int .i64 m.e.pr, .slice m.e.aV m.e.V.length m.e.cV, .slice m.e.aM m.e.M.length m.e.cM, .slice m.e.aA m.e.A.length m.e.cA, .bool m.hd, .slice m.aH m.H.length m.cH] := rfl

theorem msg_of_raw {w : World} {r : MRaw} (h : r.Is w) (hl : r.len ≤ 1048576) : ∃ m : Msg, m.vals = r.vals ∧ m.Ok w := by
  obtain ⟨kd, se, xi, ⟨ep, pr, aV, nV, cV, aM, nM, cM, aA, nA, cA, hh⟩, hd, aH, nH, cH⟩ := r
  obtain ⟨⟨⟨zV, h1⟩, ⟨zM, h2⟩, ⟨zA, h3⟩⟩, h0, ⟨zH, h4⟩⟩ := h
  simp only [MRaw.len, Raw.len] at hl
  simp only at h1 h2 h3 h0 h4
  obtain ⟨bV, oV, V, lV, rV, wV⟩ := Lm.rd_wide h1 (by omega)
  obtain ⟨bM, oM, M, lM, rM, wM⟩ := Lm.rd_wide h2 (by omega)
  obtain ⟨bA, oA, A, lA, rA⟩ := Yb.rd_of_isRow h3 (by omega)
  obtain ⟨bH, oH, H, lH, rH, wH⟩ := Lm.rd_wide h4 (by omega)
  exact ⟨⟨kd, se, xi, ⟨ep, pr, V, M, A, hh, aV, bV, oV, cV, aM, bM, oM, cM, aA, bA, oA, cA⟩, hd, H, aH, bH, oH, cH⟩, by simp [Msg.vals, MRaw.vals, lV, lM, lA, lH], ⟨⟨rV, rM, rA, wV, wM⟩, h0, rH, wH⟩⟩

theorem ten {w : World} {g : Nat} {v0 v1 v2 v3 v4 v5 v6 v7 v8 v9 : Value} {t : TypeId} {fr : Nat × Nat} (k : w.heap[g]? = some (.cells #[v0, v1, v2, v3, v4, v5, v6, v7, v8, v9] t fr)) :
    w.cell? ⟨g, 0, none⟩ = some v0 ∧ w.cell? ⟨g, 1, none⟩ = some v1 ∧ w.cell? ⟨g, 2, none⟩ = some v2 ∧ w.cell? ⟨g, 3, none⟩ = some v3 ∧ w.cell? ⟨g, 4, none⟩ = some v4 ∧ w.cell? ⟨g, 5, none⟩ = some v5 ∧ w.cell? ⟨g, 6, none⟩ = some v6 ∧ w.cell? ⟨g, 7, none⟩ = some v7 ∧ w.cell? ⟨g, 8, none⟩ = some v8 ∧ w.cell? ⟨g, 9, none⟩ = some v9 := by
  simp [World.cell?, k]

set_option maxHeartbeats 2000000 in
theorem open_msg {H : Type} {enc : TypeId × Value → H} {W : World} {r : Reach} {b0 : Nat} {v : Value} {d : DataW H} {p : List MemPlace}
    (hv : Value.okWide Try.prog W r b0 49 v) (h : DataW.Trod enc Try.prog W 0 (fun _ => true) true 49 v d p) : ∃ q : MRaw, v = .agg q.vals ∧ q.Is W := by
  obtain ⟨cs, rfl, hsz⟩ := okWide_struct Try.underlying49 hv
  obtain ⟨fuel, hf⟩ := h
  have c3 : Try.prog.cellsOf 3 = 1 := by kernel_rfl
  have c4 : Try.prog.cellsOf 4 = 1 := by kernel_rfl
  have c23 : Try.prog.cellsOf 23 = 1 := by kernel_rfl
  have c45 : Try.prog.cellsOf 45 = 2 := by kernel_rfl
  have c46 : Try.prog.cellsOf 46 = 1 := by kernel_rfl
  have c47 : Try.prog.cellsOf 47 = 1 := by kernel_rfl
  have c49 : Try.prog.cellsOf 49 = 10 := by kernel_rfl
  obtain ⟨xs, k, _, _, hl, hxl, hf⟩ := DataW.trod_struct Try.underlying49 hf
  rw [c49] at hl
  simp only [Value.cells] at hl hf
  obtain ⟨cs⟩ := cs
  simp only at hl hf
  match xs, hxl, cs, hl with
  | [y0, y1, y2, y3, y4, y5, y6, y7, y8], _, [v0, v1, v2, v3, v4, v5, v6, v7, v8, v9], _ =>
    have g0 := hf 0 _ rfl
    have g1 := hf 1 _ rfl
    have g2 := hf 2 _ rfl
    have g3 := hf 3 _ rfl
    have g4 := hf 4 _ rfl
    have g5 := hf 5 _ rfl
    have g6 := hf 6 _ rfl
    have g7 := hf 7 _ rfl
    have g8 := hf 8 _ rfl
    simp [c3, c4, c45, c46, c47] at g0 g1 g2 g3 g4 g5 g6 g7 g8
    obtain ⟨q0, r0, _⟩ := DataW.trod_int Try.underlying3 g0
    obtain ⟨q1, r1, _⟩ := DataW.trod_int Try.underlying3 g1
    obtain ⟨q2, r2, _⟩ := DataW.trod_int Try.underlying3 g2
    obtain ⟨q3, r3, _⟩ := DataW.trod_int Try.underlying3 g3
    obtain ⟨q4, r4, _⟩ := DataW.trod_int Try.underlying3 g4
    obtain ⟨q7, r7, _⟩ := DataW.trod_bool Try.underlying4 g7
    simp at r0 r1 r2 r3 r4 r7
    subst r0 r1 r2 r3 r4 r7
    obtain ⟨z0, z1, k', _, _, t0, t1⟩ := trod_struct2 Try.underlying45 g5
    simp [c23] at t0 t1
    obtain ⟨aV, nV, cV, zV, rfl, iV⟩ := open_ints1 t0
    obtain ⟨aM, nM, cM, zM, rfl, iM⟩ := open_ints1 t1
    obtain ⟨aA, nA, cA, zA, rfl, iA⟩ := open_acts1 g6
    obtain ⟨ys, k3, _, _, hl3, hxl3, hf3⟩ := DataW.trod_struct Try.underlying47 g8
    match ys, hxl3 with
    | [u0], _ =>
      have t2 := hf3 0 _ rfl
      simp [c23] at t2
      obtain ⟨aH, nH, cH, zH, rfl, iH⟩ := open_ints1 t2
      exact ⟨⟨q0, q1, q2, ⟨q3, q4, aV, nV, cV, aM, nM, cM, aA, nA, cA, 0⟩, q7, aH, nH, cH⟩, rfl, ⟨⟨zV, iV⟩, ⟨zM, iM⟩, ⟨zA, iA⟩⟩, rfl, ⟨zH, iH⟩⟩

set_option maxHeartbeats 1000000 in
theorem szMsg_at (m : MRaw) (L L' : Nat) (w : World) (h : m.len + L' = L) (hL : L ≤ 1048576) :
    Calls Try.prog 21 #[.agg m.vals, .int .i64 L] w fun e w' => e = .returned (.int .i64 L') ∧ Below w.heap.size w w' := by
  obtain ⟨kd, se, xi, ⟨ep, pr, aV, nV, cV, aM, nM, cM, aA, nA, cA, hh⟩, hd, aH, nH, cH⟩ := m
  simp only [MRaw.len, Raw.len] at h
  simp only [MRaw.vals]
  obtain ⟨L1, h1⟩ : ∃ L1 : Nat, nA + nH + L' = L1 := ⟨_, rfl⟩
  obtain ⟨L2, h2⟩ : ∃ L2 : Nat, nH + L' = L2 := ⟨_, rfl⟩
  have hp1 : ¬ ((L1 : Int) < 0) := by omega
  have hp2 : ¬ ((L2 : Int) < 0) := by omega
  have hp3 : ¬ ((L' : Int) < 0) := by omega
  have e2 : (L1 : Int) - (nA : Int) = (L2 : Int) := by omega
  have e3 : L2 - nH = L' := by omega
  obtain ⟨W0, hW0⟩ : ∃ W0, W0 = w.alloc (.cells #[.int .i64 kd, .int .i64 se, .int .i64 xi, .int .i64 ep, .int .i64 pr, .slice aV nV cV, .slice aM nM cM, .slice aA nA cA, .bool hd, .slice aH nH cH] 49) := ⟨_, rfl⟩
  have B0 : Below w.heap.size w W0 := by subst hW0; exact below_alloc1 _ _
  have k0 : W0.heap[w.heap.size]? = some (.cells #[.int .i64 kd, .int .i64 se, .int .i64 xi, .int .i64 ep, .int .i64 pr, .slice aV nV cV, .slice aM nM cM, .slice aA nA cA, .bool hd, .slice aH nH cH] 49 (0, 0)) := by subst hW0; exact at_new rfl
  go_enter Try.func21, Try.ntmps21
  go_wp2_with (first
    | (go_at_call 82; rw [← hW0]; clear hW0; refine (Rg.szM_at _ _ _ _ _ _ L L1 _ (by omega) hL).mono ?_; rintro e wa ⟨rfl, hb⟩; replace k0 := (hb.block _ (blk_lt k0)).trans k0; replace B0 := Rw.next B0 hb; clear hb; obtain ⟨p0, p1, p2, p3, p4, p5, p6, p7, p8, p9⟩ := ten k0)
    | (go_at_call 83; refine (Yb.sz_small _ _ _ L1 _ (by omega) (by omega)).mono ?_; rw [e2]; rintro e wb ⟨rfl, hw⟩; replace hw := hw.symm; subst hw)
    | (go_at_call 84; refine (Lm.szH_small _ _ _ L2 _ (by omega) (by omega)).mono ?_; rw [e3]; rintro e wb ⟨rfl, hb⟩; replace B0 := Rw.next B0 hb; clear hb))
  go_ret
  exact ⟨rfl, B0⟩

set_option maxHeartbeats 1000000 in
theorem szMsg_big (m : MRaw) (L : Nat) (w : World) (h : L < m.len) (hL : L ≤ 1048576) (hm : m.r.nV ≤ maxLen ∧ m.r.nM ≤ maxLen ∧ m.r.nA ≤ maxLen ∧ m.nH ≤ maxLen) :
    Calls Try.prog 21 #[.agg m.vals, .int .i64 L] w fun e w' => e = .returned (.int .i64 (-1)) ∧ Below w.heap.size w w' := by
  obtain ⟨kd, se, xi, ⟨ep, pr, aV, nV, cV, aM, nM, cM, aA, nA, cA, hh⟩, hd, aH, nH, cH⟩ := m
  simp only [MRaw.len, Raw.len] at h
  simp only at hm
  obtain ⟨m1, m2, m3, m4⟩ := hm
  simp only [MRaw.vals]
  obtain ⟨W0, hW0⟩ : ∃ W0, W0 = w.alloc (.cells #[.int .i64 kd, .int .i64 se, .int .i64 xi, .int .i64 ep, .int .i64 pr, .slice aV nV cV, .slice aM nM cM, .slice aA nA cA, .bool hd, .slice aH nH cH] 49) := ⟨_, rfl⟩
  have B0 : Below w.heap.size w W0 := by subst hW0; exact below_alloc1 _ _
  have k0 : W0.heap[w.heap.size]? = some (.cells #[.int .i64 kd, .int .i64 se, .int .i64 xi, .int .i64 ep, .int .i64 pr, .slice aV nV cV, .slice aM nM cM, .slice aA nA cA, .bool hd, .slice aH nH cH] 49 (0, 0)) := by subst hW0; exact at_new rfl
  by_cases h1 : L < nV + nM
  · go_enter Try.func21, Try.ntmps21
    go_wp2_with (go_at_call 82; rw [← hW0]; refine (Lm.szM_big _ _ _ _ _ _ L _ h1 hL m1 m2).mono ?_; rintro e wa ⟨rfl, hb⟩)
    go_ret
    exact ⟨rfl, Rw.next B0 hb⟩
  obtain ⟨L1, e1⟩ : ∃ L1 : Nat, nV + nM + L1 = L := ⟨L - nV - nM, by omega⟩
  have hp1 : ¬ ((L1 : Int) < 0) := by omega
  by_cases h2 : L1 < nA
  · go_enter Try.func21, Try.ntmps21
    go_wp2_with (first
      | (go_at_call 82; rw [← hW0]; clear hW0; refine (Rg.szM_at _ _ _ _ _ _ L L1 _ e1 hL).mono ?_; rintro e wa ⟨rfl, hb⟩; replace k0 := (hb.block _ (blk_lt k0)).trans k0; replace B0 := Rw.next B0 hb; clear hb; obtain ⟨p0, p1, p2, p3, p4, p5, p6, p7, p8, p9⟩ := ten k0)
      | (go_at_call 83; refine (Yb.sz_big _ _ _ L1 _ (by omega) (by omega) m3).mono ?_; rintro e wb ⟨rfl, hw⟩; replace hw := hw.symm; subst hw))
    go_ret
    exact ⟨rfl, B0⟩
  obtain ⟨L2, e2⟩ : ∃ L2 : Nat, nA + L2 = L1 := ⟨L1 - nA, by omega⟩
  have hp2 : ¬ ((L2 : Int) < 0) := by omega
  have e3 : (L1 : Int) - (nA : Int) = (L2 : Int) := by omega
  go_enter Try.func21, Try.ntmps21
  go_wp2_with (first
    | (go_at_call 82; rw [← hW0]; clear hW0; refine (Rg.szM_at _ _ _ _ _ _ L L1 _ e1 hL).mono ?_; rintro e wa ⟨rfl, hb⟩; replace k0 := (hb.block _ (blk_lt k0)).trans k0; replace B0 := Rw.next B0 hb; clear hb; obtain ⟨p0, p1, p2, p3, p4, p5, p6, p7, p8, p9⟩ := ten k0)
    | (go_at_call 83; refine (Yb.sz_small _ _ _ L1 _ (by omega) (by omega)).mono ?_; rw [e3]; rintro e wb ⟨rfl, hw⟩; replace hw := hw.symm; subst hw)
    | (go_at_call 84; refine (Lm.szH_big _ _ _ L2 _ (by omega) (by omega) m4).mono ?_; rintro e wb ⟨rfl, hb⟩; replace B0 := Rw.next B0 hb; clear hb))
  go_ret
  exact ⟨rfl, B0⟩

/-- The message's slices lie in memory of the call's own, from block lo on, each in a block of its own. -/
structure OwnM (w : World) (lo : Nat) (f : Msg) : Prop where
  e : OwnE w lo f.e
  z : f.e.h = 0
  mH : Hr.Mine w f.bH f.H
  aH : f.aH = some ⟨f.bH, 0, none⟩
  oH : f.oH = 0
  lH : lo ≤ f.bH
  d1 : f.bH ≠ f.e.bV
  d2 : f.bH ≠ f.e.bM
  d3 : f.bH ≠ f.e.bA
  wH : Po.Wide f.H
theorem OwnM.ok {w : World} {lo : Nat} {f : Msg} (h : OwnM w lo f) : f.Ok w := by
  refine ⟨h.e.ok, h.z, ?_, h.wH⟩
  rw [h.aH, h.oH]; exact h.mH.rd
theorem OwnM.below {w w' : World} {lo : Nat} {f : Msg} (h : OwnM w lo f) (hb : Below w.heap.size w w') : OwnM w' lo f :=
  { h with e := h.e.below hb, mH := h.mH.below hb }

set_option maxHeartbeats 4000000 in
theorem toMsg_any (m : Msg) (w : World) (h : m.Ok w) :
    Calls Try.prog 22 #[.agg m.vals] w fun x w' => ∃ f : Msg, x = .returned (.agg f.vals) ∧ f.said = m.said ∧ Below w.heap.size w w' ∧ OwnM w' w.heap.size f := by
  obtain ⟨kd, se, xi, ⟨ep, pr, V, M, A, hh, aV, bV, oV, cV, aM, bM, oM, cM, aA, bA, oA, cA⟩, hd, H, aH, bH, oH, cH⟩ := m
  obtain ⟨⟨rV, rM, rA, wV, wM⟩, hz, rH, wH⟩ := h
  simp only at rV rM rA wV wM hz rH wH
  subst hz
  simp only [Msg.vals]
  obtain ⟨W1, hW1⟩ : ∃ W1, W1 = ((w.alloc (.cells #[.int .i64 kd, .int .i64 se, .int .i64 xi, .int .i64 ep, .int .i64 pr, .slice aV V.length cV, .slice aM M.length cM, .slice aA A.length cA, .bool hd, .slice aH H.length cH] 49)).alloc (.cells #[.int .i64 0, .int .i64 0, .int .i64 0, .int .i64 0, .int .i64 0, .slice none 0 0, .slice none 0 0, .slice none 0 0, .bool false, .slice none 0 0] 30)).alloc (.cells #[.int .i64 kd, .int .i64 se, .int .i64 xi, .int .i64 ep, .int .i64 pr, .slice none 0 0, .slice none 0 0, .slice none 0 0, .bool false, .slice none 0 0] 30) := ⟨_, rfl⟩
  have B1 : Below w.heap.size w W1 := by subst hW1; exact Rw.next (Rw.next (below_alloc1 _ _) (below_alloc1 _ _)) (below_alloc1 _ _)
  have k0 : W1.heap[w.heap.size]? = some (.cells #[.int .i64 kd, .int .i64 se, .int .i64 xi, .int .i64 ep, .int .i64 pr, .slice aV V.length cV, .slice aM M.length cM, .slice aA A.length cA, .bool hd, .slice aH H.length cH] 49 (0, 0)) := by subst hW1; rw [at_old (by simp <;> omega), at_old (by simp), at_new rfl]
  have k1 : W1.heap[w.heap.size + 1]? = some (.cells #[.int .i64 0, .int .i64 0, .int .i64 0, .int .i64 0, .int .i64 0, .slice none 0 0, .slice none 0 0, .slice none 0 0, .bool false, .slice none 0 0] 30 (0, 0)) := by subst hW1; rw [at_old (by simp), at_new (by simp)]
  have k2 : W1.heap[w.heap.size + 1 + 1]? = some (.cells #[.int .i64 kd, .int .i64 se, .int .i64 xi, .int .i64 ep, .int .i64 pr, .slice none 0 0, .slice none 0 0, .slice none 0 0, .bool false, .slice none 0 0] 30 (0, 0)) := by subst hW1; exact at_new (by simp)
  have rV1 := rV.below B1
  have rM1 := rM.below B1
  have rA1 := rA.below B1
  have RA : Hid (Yb.Rd w aA bA oA A) := rA
  have RH : Hid (Hr.Rd w aH bH oH H) := rH
  have S2 := blk_lt k2
  clear rV rM rA rH
  go_enter Try.func22, Try.ntmps22
  go_wp2_with (go_at_call 85; rw [← hW1]; refine (Lm.toMatch_any _ _ _ _ _ _ _ _ V M _ rV1 rM1).mono ?_; rintro x wa ⟨gV, gM, rfl, ba, lV, lM, dVM, mV, mM⟩; replace k0 := (ba.block _ (blk_lt k0)).trans k0; replace k1 := (ba.block _ (blk_lt k1)).trans k1; replace k2 := (ba.block _ (blk_lt k2)).trans k2; replace rA1 := rA1.below ba; obtain ⟨p0, p1, p2, p3, p4, p5, p6, p7, p8, p9⟩ := ten k0; obtain ⟨r0, r1, r2, r3, r4, r5, r6, r7, r8, r9⟩ := ten k2; have f2 := Bl.free k2)
  clear hW1
  obtain ⟨W2, hW2⟩ : ∃ W2, W2 = (wa.setCell ⟨w.heap.size + 1 + 1, 5, none⟩ (.slice (some ⟨gV, 0, none⟩) V.length V.length)).setCell ⟨w.heap.size + 1 + 1, 6, none⟩ (.slice (some ⟨gM, 0, none⟩) M.length M.length) := ⟨_, rfl⟩
  have s1 : w.heap.size + 1 + 1 < gV ∧ w.heap.size + 1 + 1 < gM := ⟨Nat.lt_of_lt_of_le S2 lV, Nat.lt_of_lt_of_le S2 lM⟩
  have sW : W2.heap.size = wa.heap.size := by subst hW2; simp
  replace B1 : Below w.heap.size w W2 := by subst hW2; exact Pm.bset (Pm.bset (Rw.next B1 ba) (by omega)) (by omega)
  replace k0 : W2.heap[w.heap.size]? = some (.cells #[.int .i64 kd, .int .i64 se, .int .i64 xi, .int .i64 ep, .int .i64 pr, .slice aV V.length cV, .slice aM M.length cM, .slice aA A.length cA, .bool hd, .slice aH H.length cH] 49 (0, 0)) := by subst hW2; exact blk_other (blk_other k0 (by omega)) (by omega)
  replace k1 : W2.heap[w.heap.size + 1]? = some (.cells #[.int .i64 0, .int .i64 0, .int .i64 0, .int .i64 0, .int .i64 0, .slice none 0 0, .slice none 0 0, .slice none 0 0, .bool false, .slice none 0 0] 30 (0, 0)) := by subst hW2; exact blk_other (blk_other k1 (by omega)) (by omega)
  replace k2 : W2.heap[w.heap.size + 1 + 1]? = some (.cells #[.int .i64 kd, .int .i64 se, .int .i64 xi, .int .i64 ep, .int .i64 pr, .slice (some ⟨gV, 0, none⟩) V.length V.length, .slice (some ⟨gM, 0, none⟩) M.length M.length, .slice none 0 0, .bool false, .slice none 0 0] 30 (0, 0)) := by subst hW2; exact blk_same (blk_same k2)
  replace mV : Hr.Mine W2 gV V := by subst hW2; exact (mV.set (by simp; omega)).set (by simp; omega)
  replace mM : Hr.Mine W2 gM M := by subst hW2; exact (mM.set (by simp; omega)).set (by simp; omega)
  have rA2 : Yb.Rd W2 aA bA oA A := RA.out.below B1
  have lW : w.heap.size ≤ W2.heap.size := B1.size
  have xV := mV.row.lt
  have xM := mM.row.lt
  have S3 := blk_lt k2
  clear rA1 p0 p1 p2 p3 p4 p5 p6 p7 p8 p9 r0 r1 r2 r3 r4 r5 r6 r7 r8 r9 f2 ba sW rV1 rM1
  obtain ⟨p0, p1, p2, p3, p4, p5, p6, p7, p8, p9⟩ := ten k0
  go_wp2_with (go_at_call 86; rw [← hW2]; clear hW2; refine (Yb.toActS_any _ _ _ _ _ _ rA2).mono ?_; rintro x wc ⟨rfl, bc, mA⟩; replace k0 := (bc.block _ (blk_lt k0)).trans k0; replace k1 := (bc.block _ (blk_lt k1)).trans k1; replace k2 := (bc.block _ (blk_lt k2)).trans k2; replace mV := mV.below bc; replace mM := mM.below bc; replace B1 := Rw.next B1 bc; clear p0 p1 p2 p3 p4 p5 p6 p7 p8 p9 bc; obtain ⟨p0, p1, p2, p3, p4, p5, p6, p7, p8, p9⟩ := ten k0; obtain ⟨r0, r1, r2, r3, r4, r5, r6, r7, r8, r9⟩ := ten k2; have f2 := Bl.free k2)
  obtain ⟨W3, hW3⟩ : ∃ W3, W3 = (wc.setCell ⟨w.heap.size + 1 + 1, 7, none⟩ (.slice (some ⟨W2.heap.size, 0, none⟩) A.length A.length)).setCell ⟨w.heap.size + 1 + 1, 8, none⟩ (.bool hd) := ⟨_, rfl⟩
  obtain ⟨gA, hgA⟩ : ∃ gA, gA = W2.heap.size := ⟨_, rfl⟩
  have sA : w.heap.size + 1 + 1 < gA := by omega
  replace B1 : Below w.heap.size w W3 := by subst hW3; exact Pm.bset (Pm.bset B1 (by omega)) (by omega)
  replace k0 : W3.heap[w.heap.size]? = some (.cells #[.int .i64 kd, .int .i64 se, .int .i64 xi, .int .i64 ep, .int .i64 pr, .slice aV V.length cV, .slice aM M.length cM, .slice aA A.length cA, .bool hd, .slice aH H.length cH] 49 (0, 0)) := by subst hW3; exact blk_other (blk_other k0 (by omega)) (by omega)
  replace k1 : W3.heap[w.heap.size + 1]? = some (.cells #[.int .i64 0, .int .i64 0, .int .i64 0, .int .i64 0, .int .i64 0, .slice none 0 0, .slice none 0 0, .slice none 0 0, .bool false, .slice none 0 0] 30 (0, 0)) := by subst hW3; exact blk_other (blk_other k1 (by omega)) (by omega)
  replace k2 : W3.heap[w.heap.size + 1 + 1]? = some (.cells #[.int .i64 kd, .int .i64 se, .int .i64 xi, .int .i64 ep, .int .i64 pr, .slice (some ⟨gV, 0, none⟩) V.length V.length, .slice (some ⟨gM, 0, none⟩) M.length M.length, .slice (some ⟨gA, 0, none⟩) A.length A.length, .bool hd, .slice none 0 0] 30 (0, 0)) := by subst hW3; rw [hgA]; exact blk_same (blk_same k2)
  replace mV : Hr.Mine W3 gV V := by subst hW3; exact (mV.set (by simp; omega)).set (by simp; omega)
  replace mM : Hr.Mine W3 gM M := by subst hW3; exact (mM.set (by simp; omega)).set (by simp; omega)
  replace mA : Yb.Mine W3 gA A := by rw [hgA]; subst hW3; exact mineA_set (mineA_set mA (by simp; omega)) (by simp; omega)
  have rH2 : Hr.Rd W3 aH bH oH H := RH.out.below B1
  have dA : gV < gA ∧ gM < gA := by omega
  have lA : w.heap.size ≤ gA := by omega
  have xA := mA.row.lt
  clear p0 p1 p2 p3 p4 p5 p6 p7 p8 p9 r0 r1 r2 r3 r4 r5 r6 r7 r8 r9 f2 lW xV xM S3
  obtain ⟨p0, p1, p2, p3, p4, p5, p6, p7, p8, p9⟩ := ten k0
  go_wp2_with (go_at_call 87; rw [← hW3]; clear hW3 hgA; refine (Hh.toHead_any _ _ _ _ _ _ rH2).mono ?_; rintro x wd ⟨gH, rfl, bd, lH, mH⟩; replace k0 := (bd.block _ (blk_lt k0)).trans k0; replace k1 := (bd.block _ (blk_lt k1)).trans k1; replace k2 := (bd.block _ (blk_lt k2)).trans k2; replace mV := mV.below bd; replace mM := mM.below bd; replace mA := mA.below bd; replace B1 := Rw.next B1 bd; clear p0 p1 p2 p3 p4 p5 p6 p7 p8 p9; obtain ⟨p0, p1, p2, p3, p4, p5, p6, p7, p8, p9⟩ := ten k0; obtain ⟨r0, r1, r2, r3, r4, r5, r6, r7, r8, r9⟩ := ten k2; have f2 := Bl.free k2; obtain ⟨q0, q1, q2, q3, q4, q5, q6, q7, q8, q9⟩ := ten k1; have f1 := Bl.free k1)
  have zA : gA < gH := Nat.lt_of_lt_of_le xA lH
  refine bodyPost_ret (v := .agg #[.int .i64 kd, .int .i64 se, .int .i64 xi, .int .i64 ep, .int .i64 pr, .slice (some ⟨gV, 0, none⟩) V.length V.length, .slice (some ⟨gM, 0, none⟩) M.length M.length, .slice (some ⟨gA, 0, none⟩) A.length A.length, .bool hd, .slice (some ⟨gH, 0, none⟩) H.length H.length]) (by simp [results, Try.results22, go_sem, q0, q1, q2, q3, q4, q5, q6, q7, q8, q9]) rfl ⟨⟨kd, se, xi, ⟨ep, pr, V, M, A, 0, some ⟨gV, 0, none⟩, gV, 0, V.length, some ⟨gM, 0, none⟩, gM, 0, M.length, some ⟨gA, 0, none⟩, gA, 0, A.length⟩, hd, H, some ⟨gH, 0, none⟩, gH, 0, H.length⟩, rfl, rfl, ?_, ?_⟩
  · repeat (first | with_reducible exact B1 | refine Pm.bset ?_ (by omega))
  · refine ⟨⟨?_, ?_, ?_, rfl, rfl, rfl, rfl, rfl, rfl, by simp only; omega, by simp only; omega, lA, dVM, by simp only; omega, by simp only; omega, wV, wM⟩, rfl, ?_, rfl, rfl, by simp only; omega, by simp only; omega, by simp only; omega, by simp only; omega, wH⟩
    · repeat (first | with_reducible exact mV | refine Hr.Mine.set ?_ (by simp; omega))
    · repeat (first | with_reducible exact mM | refine Hr.Mine.set ?_ (by simp; omega))
    · repeat (first | with_reducible exact mA | refine mineA_set ?_ (by simp; omega))
    · repeat (first | with_reducible exact mH | refine Hr.Mine.set ?_ (by simp; omega))

set_option maxHeartbeats 4000000 in
theorem eqMsg_same (m f : Msg) (w : World) (hm : m.Ok w) (hf : f.Ok w) (hs : m.said = f.said) :
    Calls Try.prog 24 #[.agg m.vals, .agg f.vals] w fun x w' => x = .returned (.bool true) ∧ Below w.heap.size w w' := by
  obtain ⟨kd, se, xi, ⟨ep, pr, V, M, A, hh, aV, bV, oV, cV, aM, bM, oM, cM, aA, bA, oA, cA⟩, hd, H, aH, bH, oH, cH⟩ := m
  obtain ⟨kd', se', xi', ⟨ep', pr', V', M', A', hh', aV', bV', oV', cV', aM', bM', oM', cM', aA', bA', oA', cA'⟩, hd', H', aH', bH', oH', cH'⟩ := f
  simp only [Msg.said, Ent.said, Prod.mk.injEq] at hs
  obtain ⟨rfl, rfl, rfl, ⟨rfl, rfl, rfl, rfl, rfl, rfl⟩, rfl, rfl⟩ := hs
  obtain ⟨⟨rV, rM, rA, wV, wM⟩, hz, rH, wH⟩ := hm
  obtain ⟨⟨sV, sM, sA, uV, uM⟩, _, sH, uH⟩ := hf
  simp only at rV rM rA sV sM sA rH sH
  simp only [Msg.vals]
  obtain ⟨W1, hW1⟩ : ∃ W1, W1 = (w.alloc (.cells #[.int .i64 kd, .int .i64 se, .int .i64 xi, .int .i64 ep, .int .i64 pr, .slice aV V.length cV, .slice aM M.length cM, .slice aA A.length cA, .bool hd, .slice aH H.length cH] 30)).alloc (.cells #[.int .i64 kd, .int .i64 se, .int .i64 xi, .int .i64 ep, .int .i64 pr, .slice aV' V.length cV', .slice aM' M.length cM', .slice aA' A.length cA', .bool hd, .slice aH' H.length cH'] 30) := ⟨_, rfl⟩
  have B1 : Below w.heap.size w W1 := by subst hW1; exact Rw.next (below_alloc1 _ _) (below_alloc1 _ _)
  have k0 : W1.heap[w.heap.size]? = some (.cells #[.int .i64 kd, .int .i64 se, .int .i64 xi, .int .i64 ep, .int .i64 pr, .slice aV V.length cV, .slice aM M.length cM, .slice aA A.length cA, .bool hd, .slice aH H.length cH] 30 (0, 0)) := by subst hW1; rw [at_old (by simp), at_new rfl]
  have k1 : W1.heap[w.heap.size + 1]? = some (.cells #[.int .i64 kd, .int .i64 se, .int .i64 xi, .int .i64 ep, .int .i64 pr, .slice aV' V.length cV', .slice aM' M.length cM', .slice aA' A.length cA', .bool hd, .slice aH' H.length cH'] 30 (0, 0)) := by subst hW1; exact at_new (by simp)
  replace rV := rV.below B1
  replace rM := rM.below B1
  replace rA := rA.below B1
  replace rH := rH.below B1
  replace sV := sV.below B1
  replace sM := sM.below B1
  replace sA := sA.below B1
  replace sH := sH.below B1
  go_enter Try.func24, Try.ntmps24
  go_wp2_with (first
    | (go_at_call 90; rw [← hW1]; clear hW1; refine (Lm.eqMatch_same _ _ _ _ _ _ _ _ _ _ _ _ _ _ _ _ V M _ rV rM sV sM).mono ?_; rintro x wa ⟨rfl, ba⟩; replace k0 := (ba.block _ (blk_lt k0)).trans k0; replace k1 := (ba.block _ (blk_lt k1)).trans k1; replace rA := rA.below ba; replace sA := sA.below ba; replace rH := rH.below ba; replace sH := sH.below ba; replace B1 := Rw.next B1 ba; clear ba; obtain ⟨p0, p1, p2, p3, p4, p5, p6, p7, p8, p9⟩ := ten k0; obtain ⟨r0, r1, r2, r3, r4, r5, r6, r7, r8, r9⟩ := ten k1)
    | (go_at_call 91; refine (Yb.eqActS_any _ _ _ _ _ _ _ _ A A _ rA sA).mono ?_; rw [decide_eq_true rfl]; rintro x wb ⟨rfl, bb⟩; replace k0 := (bb.block _ (blk_lt k0)).trans k0; replace k1 := (bb.block _ (blk_lt k1)).trans k1; replace rH := rH.below bb; replace sH := sH.below bb; replace B1 := Rw.next B1 bb; clear bb p0 p1 p2 p3 p4 p5 p6 p7 p8 p9 r0 r1 r2 r3 r4 r5 r6 r7 r8 r9; obtain ⟨p0, p1, p2, p3, p4, p5, p6, p7, p8, p9⟩ := ten k0; obtain ⟨r0, r1, r2, r3, r4, r5, r6, r7, r8, r9⟩ := ten k1)
    | (go_at_call 92; refine (Hh.eqHead_same _ _ _ _ _ _ _ _ H _ rH sH).mono ?_; rintro x wb ⟨rfl, bb⟩; replace B1 := Rw.next B1 bb; clear bb))
  go_ret
  exact ⟨rfl, B1⟩

end Go.Proofs.Ytcbhpmgjmpbpmaa.Ga
