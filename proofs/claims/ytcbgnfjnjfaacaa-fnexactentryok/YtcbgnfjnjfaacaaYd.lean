/-
  The program's actionsOf: each action by its type, held against what it was made of.
-/
import Derived.Test.YtcbgnfjnjfaacaaYf
import Derived.Deep.LoopGhost
namespace Go.Proofs.Ytcbgnfjnjfaacaa.Yd
set_option maxRecDepth 8000
open Go Go.RowKit
open Num Pl Pq Yb Yc

/-- The action is right. -/
def actB (x : A3) : Bool :=
  if x.1 = 1 then decide (1 ≤ x.2.1 ∧ x.2.1 ≤ 255 ∧ x.2.2 = 0) else if x.1 = 3 then decide (x.2.1 = 1 ∨ x.2.1 = 2) && numOkB x.2.2 6
  else decide ((x.1 = 2 ∨ x.1 = 4 ∨ x.1 = 5) ∧ x.2.1 = 0 ∧ x.2.2 = 0)
/-- The first k are right. -/
def pre (l : List A3) (k : Nat) : Prop := ∀ i, i < k → actB (l.getD i z3) = true
instance (l : List A3) (k : Nat) : Decidable (pre l k) := by unfold pre; infer_instance
/-- The actions are right. -/
def actsB (l : List A3) : Bool := decide (l.length ≤ 12 ∧ pre l l.length)
theorem actsB_long {l : List A3} (h : 12 < l.length) : actsB l = false := by
  unfold actsB; rw [decide_eq_false]; omega
theorem actsB_yes {l : List A3} (h : l.length ≤ 12) (hp : pre l l.length) : actsB l = true := decide_eq_true ⟨h, hp⟩
theorem actsB_no {l : List A3} {k : Nat} (hk : k < l.length) (h : actB (l.getD k z3) = false) : actsB l = false :=
  decide_eq_false fun hh => by have := hh.2 k hk; rw [h] at this; cases this
theorem pre_step {l : List A3} {k : Nat} (h : pre l k) (hk : actB (l.getD k z3) = true) : pre l (k + 1) := by
  intro i hi
  by_cases e : i = k
  · subst e; exact hk
  · exact h i (by omega)
theorem actsB_out {l : List A3} (h : actsB l = true) : l.length ≤ 12 ∧ pre l l.length := of_decide_eq_true h

theorem three0 {w : World} {g : Nat} {v0 v1 v2 : Value} {t : TypeId} {fr : Nat × Nat} (k : w.heap[g]? = some (.cells #[v0, v1, v2] t fr)) : w.cell? ⟨g, 0, none⟩ = some v0 := by simp [World.cell?, k]
theorem three1 {w : World} {g : Nat} {v0 v1 v2 : Value} {t : TypeId} {fr : Nat × Nat} (k : w.heap[g]? = some (.cells #[v0, v1, v2] t fr)) : w.cell? ⟨g, 1, none⟩ = some v1 := by simp [World.cell?, k]
theorem three2 {w : World} {g : Nat} {v0 v1 v2 : Value} {t : TypeId} {fr : Nat × Nat} (k : w.heap[g]? = some (.cells #[v0, v1, v2] t fr)) : w.cell? ⟨g, 2, none⟩ = some v2 := by simp [World.cell?, k]
theorem actB_set (a b : Int) : actB (3, a, b) = (decide (a = 1 ∨ a = 2) && Hg.fits a b) := by
  by_cases h : a = 1 ∨ a = 2
  · have e : Hg.fits a b = numOkB b 6 := by
      rcases h with rfl | rfl <;> rfl
    simp [actB, e]
  · simp [actB, h]

theorem info88 : (Try.prog.info? 158).map (fun i => (i.zero, i.size, i.bytes)) = some (some .nilIface, 1, 16) := by kernel_rfl

/-- The row of the first k actions, by their types. -/
def row (l : List A3) (k : Nat) : Nat → Value := fun j => if j < k then actV (l.getD j z3) else .nilIface
theorem row_step {w : World} {g n : Nat} {l : List A3} {k : Nat} (h : w.rowIs g 158 n (row l k)) : (w.setCell ⟨g, k, none⟩ (actV (l.getD k z3))).rowIs g 158 n (row l (k + 1)) := by
  refine (h.set k _).congr fun i hi => ?_
  unfold row
  by_cases e : i = k
  · subst e; simp
  · have : (i < k + 1) = (i < k) := by rw [eq_iff_iff]; omega
    simp [e, this]

set_option maxHeartbeats 40000000 in
theorem acts_any (a : Option Addr) (b off cap : Nat) (l : List A3) (w : World) (h : Rd w a b off l) :
    Calls Try.prog 141 #[.slice a l.length cap] w fun e w' => Below w.heap.size w w' ∧
      (actsB l = false → e = .returned (.tuple #[.slice none 0 0, .bool false])) ∧
      (actsB l = true → e = .returned (.tuple #[.slice (some ⟨w.heap.size, 0, none⟩) l.length l.length, .bool true]) ∧ w'.rowIs w.heap.size 158 l.length (row l l.length)) := by
  obtain ⟨hh, hc, hs⟩ := h
  by_cases h12 : 12 < l.length
  · have hz : (12 : Int) < (l.length : Int) := by omega
    have hB := actsB_long h12
    go_enter Try.func141, Try.ntmps141
    go_wp2
    exact bodyPost_ret (v := .tuple #[.slice none 0 0, .bool false]) (by simp [results, Try.results141, go_sem]) rfl ⟨Below.refl _ _, fun _ => rfl, fun h => by rw [hB] at h; cases h⟩
  obtain ⟨n, hn⟩ : ∃ n, n = l.length := ⟨_, rfl⟩
  have hmk := run_make_row' (P := Try.prog) 152 158 .nilIface 16 Try.underlying152 info88 rfl .i64 .i64 n (by omega) (by omega)
  rw [← hn] at hh hc hs h12 ⊢
  have HN : Hid (n = l.length) := hn
  clear hn
  have hz : ¬ (12 : Int) < (n : Int) := by omega
  go_enter Try.func141, Try.ntmps141
  go_wp2
  clear hmk
  go_loopw [15] (fun i wr => ∃ k : Nat, k ≤ n ∧ i = .int .i64 k ∧ Below w.heap.size w wr ∧ wr.rowIs w.heap.size 158 n (row l k) ∧ pre l k) (fun i _ => n - (intOf i).toNat)
  case atStart => exact ⟨0, Nat.zero_le _, rfl, (Below.refl _ _).alloc (Nat.le_refl _) _, (World.rowIs_made w .nilIface n 158).congr (fun i _ => by simp [row]), fun i hi => by omega⟩
  case round =>
    obtain ⟨k, hk, rfl, hbel, hrow, hpre⟩ := hrel
    have HP : Hid (pre l k) := hpre
    clear hpre
    by_cases hlt : k < n
    · obtain rfl := hh (by omega)
      have hkz : (k : Int) < (n : Int) := by omega
      obtain ⟨c0, c1, c2⟩ := (hc k hlt).of hbel (hc k hlt).lt
      generalize ex : l.getD k z3 = x at c0 c1 c2
      have HX : Hid (l.getD k z3 = x) := ex
      clear ex hc hh
      have hlw : w.heap.size < wr.heap.size := hrow.lt
      obtain ⟨x0, x1, x2⟩ := x
      simp only at c0 c1 c2
      obtain ⟨W0, hW0⟩ : ∃ W0, W0 = wr.alloc (.cells #[.int .i64 x0, .int .i64 x1, .int .i64 x2] 147) := ⟨_, rfl⟩
      have kA : W0.heap[wr.heap.size]? = some (.cells #[.int .i64 x0, .int .i64 x1, .int .i64 x2] 147 (0, 0)) := by subst hW0; exact at_new rfl
      have zA : wr.heap.size < W0.heap.size := by subst hW0; simp
      have B0 : Below wr.heap.size wr W0 := by subst hW0; exact below_alloc1 _ _
      have hlt2 : w.heap.size ≠ wr.heap.size := by omega
      replace hrow := hrow.of_block (B0.block _ hlw)
      replace hlw := hrow.lt
      replace hbel := Rw.next hbel B0
      clear B0
      by_cases k1 : x0 = 1
      · subst k1
        by_cases hr : 1 ≤ x1 ∧ x1 ≤ 255
        · by_cases h0 : x2 = 0
          · subst h0
            go_wp2_with (go_at_call 153; rw [← hW0]; refine (kind_any (1, x1, 0) _).mono ?_; rintro e w1 ⟨rfl, hb⟩; rw [show actV (1, x1, 0) = .iface 164 (.agg #[.int .i64 x1]) from rfl]; replace hrow := hrow.of_block (hb.block _ hlw); replace kA := (hb.block _ zA).trans kA; replace hbel := Rw.next hbel hb; have g0 := hrow.cell hlt; have g1 := hrow.frozen k)
            obtain ⟨W2, hW2⟩ : ∃ W2, W2 = w1.setCell ⟨w.heap.size, k, none⟩ (.iface 164 (.agg #[.int .i64 x1])) := ⟨_, rfl⟩
            rw [← hW2]
            have q0 : W2.cell? ⟨w.heap.size, k, none⟩ = some (.iface 164 (.agg #[.int .i64 x1])) := by subst hW2; exact World.cell?_setCell_same _ _ _ g0
            have kA2 : W2.heap[wr.heap.size]? = some (.cells #[.int .i64 1, .int .i64 x1, .int .i64 0] 147 (0, 0)) := by subst hW2; exact (Below.heap_setCell _ _ _ _ (fun h => hlt2 h.symm)).trans kA
            have hrow2 : W2.rowIs w.heap.size 158 n (row l (k + 1)) := by subst hW2; have := row_step hrow; rw [HX.out] at this; exact this
            have hb2 : Below w.heap.size w W2 := by subst hW2; exact hbel.setCell (by simp) _
            clear hW2 hrow g0 g1 hbel kA
            have hB := pre_step HP.out (by rw [HX.out]; simp [actB, hr])
            refine wp_region_held_drew (S := (fun w' => w'.cell? ⟨w.heap.size, k, none⟩ = some (.iface 164 (.agg #[.int .i64 x1])) ∧ w'.heap[wr.heap.size]? = some (.cells #[.int .i64 1, .int .i64 x1, .int .i64 0] 147 (0, 0)))) (by kernel_rfl) ⟨q0, kA2⟩ (fun hHeld => ?_)
            refine take (i := 0) (d := some 25) (v := .slice (some ⟨w.heap.size, 0, none⟩) n n) rfl (by kernel_rfl) (by kernel_rfl) (by kernel_rfl) (by kernel_rfl) (fun _ _ _ h => h) (Or.inl ⟨by rfl, by intro w hSw; go_simp⟩) hHeld ?_
            simp only [Act.put, List.setIfInBounds_toArray, List.set_cons_zero, List.set_cons_succ]
            refine take (i := 1) (d := some 26) (v := .int .i64 k) rfl (by kernel_rfl) (by kernel_rfl) (by kernel_rfl) (by kernel_rfl) (fun _ _ _ h => h) (Or.inl ⟨by rfl, by intro w hSw; go_simp⟩) hHeld ?_
            simp only [Act.put, List.setIfInBounds_toArray, List.set_cons_zero, List.set_cons_succ]
            refine take (i := 2) (d := some 27) (v := .pointer (some ⟨w.heap.size, k, none⟩)) rfl (by kernel_rfl) (by kernel_rfl) (by kernel_rfl) (by kernel_rfl) (fun _ _ _ h => h) (Or.inl ⟨by rfl, by intro w hSw; go_simp⟩) hHeld ?_
            simp only [Act.put, List.setIfInBounds_toArray, List.set_cons_zero, List.set_cons_succ]
            refine take (i := 3) (d := some 28) (v := .iface 164 (.agg #[.int .i64 x1])) rfl (by kernel_rfl) (by kernel_rfl) (by kernel_rfl) (by kernel_rfl) (fun _ _ _ h => h) (Or.inl ⟨by rfl, by intro w hSw; have q1 := hSw.1; go_simp⟩) hHeld ?_
            simp only [Act.put, List.setIfInBounds_toArray, List.set_cons_zero, List.set_cons_succ]
            refine wpAnyH_ready (rs := [4]) (by kernel_rfl) (by simp) (Rg.call1 rfl (by kernel_rfl) 154 (.tmp 28) 158 (by kernel_rfl) 29 (by kernel_rfl) (.iface 164 (.agg #[.int .i64 x1])) (by kernel_rfl) (fun _ => rfl) (Yf.right1y hr _) ?_ AllReadyH.nil)
            rintro e w3 ⟨rfl, hb3⟩
            replace hb3 := Rw.next (Below.drew (Below.refl _ W2)) hb3
            replace q0 := (hb3.cell (World.block_lt_of_cell? _ _ q0)).trans q0
            replace kA2 := (hb3.block _ (Array.getElem?_eq_some_iff.1 kA2).1).trans kA2
            replace hrow2 := hrow2.of_block (hb3.block _ hrow2.lt)
            replace hb2 := Rw.next hb2 hb3
            clear hb3
            refine ⟨_, rfl, ⟨q0, kA2⟩, fun hHeld => ?_⟩
            simp only [Act.put, List.setIfInBounds_toArray, List.set_cons_zero, List.set_cons_succ]
            refine take (i := 5) (d := some 30) (v := .bool false) rfl (by kernel_rfl) (by kernel_rfl) (by kernel_rfl) (by kernel_rfl) (fun _ _ _ h => h) (Or.inl ⟨by rfl, by intro w hSw; go_simp⟩) hHeld ?_
            simp only [Act.put, List.setIfInBounds_toArray, List.set_cons_zero, List.set_cons_succ]
            refine take (i := 6) (d := some 31) (v := .bool false) rfl (by kernel_rfl) (by kernel_rfl) (by kernel_rfl) (by kernel_rfl) (fun _ _ _ h => h) (Or.inl ⟨by rfl, by intro w hSw; go_simp⟩) hHeld ?_
            simp only [Act.put, List.setIfInBounds_toArray, List.set_cons_zero, List.set_cons_succ]
            refine take (i := 7) (d := some 32) (v := .slice (some ⟨w.heap.size, 0, none⟩) n n) rfl (by kernel_rfl) (by kernel_rfl) (by kernel_rfl) (by kernel_rfl) (fun _ _ _ h => h) (Or.inl ⟨by rfl, by intro w hSw; go_simp⟩) hHeld ?_
            simp only [Act.put, List.setIfInBounds_toArray, List.set_cons_zero, List.set_cons_succ]
            refine take (i := 8) (d := some 33) (v := .int .i64 k) rfl (by kernel_rfl) (by kernel_rfl) (by kernel_rfl) (by kernel_rfl) (fun _ _ _ h => h) (Or.inl ⟨by rfl, by intro w hSw; go_simp⟩) hHeld ?_
            simp only [Act.put, List.setIfInBounds_toArray, List.set_cons_zero, List.set_cons_succ]
            refine take (i := 9) (d := some 34) (v := .pointer (some ⟨w.heap.size, k, none⟩)) rfl (by kernel_rfl) (by kernel_rfl) (by kernel_rfl) (by kernel_rfl) (fun _ _ _ h => h) (Or.inl ⟨by rfl, by intro w hSw; go_simp⟩) hHeld ?_
            simp only [Act.put, List.setIfInBounds_toArray, List.set_cons_zero, List.set_cons_succ]
            refine take (i := 10) (d := some 35) (v := .iface 164 (.agg #[.int .i64 x1])) rfl (by kernel_rfl) (by kernel_rfl) (by kernel_rfl) (by kernel_rfl) (fun _ _ _ h => h) (Or.inl ⟨by rfl, by intro w hSw; have q1 := hSw.1; go_simp⟩) hHeld ?_
            simp only [Act.put, List.setIfInBounds_toArray, List.set_cons_zero, List.set_cons_succ]
            refine take (i := 12) (d := some 37) (v := .agg #[.int .i64 1, .int .i64 x1, .int .i64 0]) rfl (by kernel_rfl) (by kernel_rfl) (by kernel_rfl) (by kernel_rfl) (fun _ _ _ h => h) (Or.inl ⟨by rfl, by intro w hSw; have q2 := hSw.2; have d0 := three0 q2; have d1 := three1 q2; have d2 := three2 q2; go_simp⟩) hHeld ?_
            simp only [Act.put, List.setIfInBounds_toArray, List.set_cons_zero, List.set_cons_succ]
            refine wpAnyH_ready (rs := [11]) (by kernel_rfl) (by simp) (Yf.callI rfl (by kernel_rfl) 176 (.tmp 35) rfl 36 (by kernel_rfl) (.iface 164 (.agg #[.int .i64 x1])) (.agg #[.int .i64 x1]) (by kernel_rfl) (fun w => by kernel_rfl) (act1 x1 _) ?_ AllReadyH.nil)
            rintro e w4 ⟨rfl, hb4⟩
            replace q0 := (hb4.cell (World.block_lt_of_cell? _ _ q0)).trans q0
            replace kA2 := (hb4.block _ (Array.getElem?_eq_some_iff.1 kA2).1).trans kA2
            replace hrow2 := hrow2.of_block (hb4.block _ hrow2.lt)
            replace hb2 := Rw.next hb2 hb4
            clear hb4
            refine ⟨_, rfl, ⟨q0, kA2⟩, fun hHeld => ?_⟩
            simp only [Act.put, List.setIfInBounds_toArray, List.set_cons_zero, List.set_cons_succ]
            refine take (i := 13) (d := some 38) (v := .bool false) rfl (by kernel_rfl) (by kernel_rfl) (by kernel_rfl) (by kernel_rfl) (fun _ _ _ h => h) (Or.inl ⟨by rfl, by intro w hSw; go_simp⟩) hHeld ?_
            simp only [Act.put, List.setIfInBounds_toArray, List.set_cons_zero, List.set_cons_succ]
            refine take (i := 14) (d := some 39) (v := .bool false) rfl (by kernel_rfl) (by kernel_rfl) (by kernel_rfl) (by kernel_rfl) (fun _ _ _ h => h) (Or.inl ⟨by rfl, by intro w hSw; go_simp⟩) hHeld ?_
            simp only [Act.put, List.setIfInBounds_toArray, List.set_cons_zero, List.set_cons_succ]
            refine wpAnyH_done (by kernel_rfl) ?_ _
            go_wp2
            all_goals go_roundw
            all_goals first | exact ⟨k + 1, by omega, by go_num, hb2, hrow2, hB⟩ | (simp [intOf]; omega)
          · have hne : (0 == x2) = false := by simpa using fun h : 0 = x2 => h0 h.symm
            go_wp2_with (go_at_call 153; rw [← hW0]; refine (kind_any (1, x1, x2) _).mono ?_; rintro e w1 ⟨rfl, hb⟩; rw [show actV (1, x1, x2) = .iface 164 (.agg #[.int .i64 x1]) from rfl]; replace hrow := hrow.of_block (hb.block _ hlw); replace kA := (hb.block _ zA).trans kA; replace hbel := Rw.next hbel hb; have g0 := hrow.cell hlt; have g1 := hrow.frozen k)
            obtain ⟨W2, hW2⟩ : ∃ W2, W2 = w1.setCell ⟨w.heap.size, k, none⟩ (.iface 164 (.agg #[.int .i64 x1])) := ⟨_, rfl⟩
            rw [← hW2]
            have q0 : W2.cell? ⟨w.heap.size, k, none⟩ = some (.iface 164 (.agg #[.int .i64 x1])) := by subst hW2; exact World.cell?_setCell_same _ _ _ g0
            have kA2 : W2.heap[wr.heap.size]? = some (.cells #[.int .i64 1, .int .i64 x1, .int .i64 x2] 147 (0, 0)) := by subst hW2; exact (Below.heap_setCell _ _ _ _ (fun h => hlt2 h.symm)).trans kA
            have hrow2 : W2.rowIs w.heap.size 158 n (row l (k + 1)) := by subst hW2; have := row_step hrow; rw [HX.out] at this; exact this
            have hb2 : Below w.heap.size w W2 := by subst hW2; exact hbel.setCell (by simp) _
            clear hW2 hrow g0 g1 hbel kA
            have hB := actsB_no (l := l) (k := k) (by have := HN.out; omega) (by rw [HX.out]; simp [actB, h0])
            refine wp_region_held_drew (S := (fun w' => w'.cell? ⟨w.heap.size, k, none⟩ = some (.iface 164 (.agg #[.int .i64 x1])) ∧ w'.heap[wr.heap.size]? = some (.cells #[.int .i64 1, .int .i64 x1, .int .i64 x2] 147 (0, 0)))) (by kernel_rfl) ⟨q0, kA2⟩ (fun hHeld => ?_)
            refine take (i := 0) (d := some 25) (v := .slice (some ⟨w.heap.size, 0, none⟩) n n) rfl (by kernel_rfl) (by kernel_rfl) (by kernel_rfl) (by kernel_rfl) (fun _ _ _ h => h) (Or.inl ⟨by rfl, by intro w hSw; go_simp⟩) hHeld ?_
            simp only [Act.put, List.setIfInBounds_toArray, List.set_cons_zero, List.set_cons_succ]
            refine take (i := 1) (d := some 26) (v := .int .i64 k) rfl (by kernel_rfl) (by kernel_rfl) (by kernel_rfl) (by kernel_rfl) (fun _ _ _ h => h) (Or.inl ⟨by rfl, by intro w hSw; go_simp⟩) hHeld ?_
            simp only [Act.put, List.setIfInBounds_toArray, List.set_cons_zero, List.set_cons_succ]
            refine take (i := 2) (d := some 27) (v := .pointer (some ⟨w.heap.size, k, none⟩)) rfl (by kernel_rfl) (by kernel_rfl) (by kernel_rfl) (by kernel_rfl) (fun _ _ _ h => h) (Or.inl ⟨by rfl, by intro w hSw; go_simp⟩) hHeld ?_
            simp only [Act.put, List.setIfInBounds_toArray, List.set_cons_zero, List.set_cons_succ]
            refine take (i := 3) (d := some 28) (v := .iface 164 (.agg #[.int .i64 x1])) rfl (by kernel_rfl) (by kernel_rfl) (by kernel_rfl) (by kernel_rfl) (fun _ _ _ h => h) (Or.inl ⟨by rfl, by intro w hSw; have q1 := hSw.1; go_simp⟩) hHeld ?_
            simp only [Act.put, List.setIfInBounds_toArray, List.set_cons_zero, List.set_cons_succ]
            refine wpAnyH_ready (rs := [4]) (by kernel_rfl) (by simp) (Rg.call1 rfl (by kernel_rfl) 154 (.tmp 28) 158 (by kernel_rfl) 29 (by kernel_rfl) (.iface 164 (.agg #[.int .i64 x1])) (by kernel_rfl) (fun _ => rfl) (Yf.right1y hr _) ?_ AllReadyH.nil)
            rintro e w3 ⟨rfl, hb3⟩
            replace hb3 := Rw.next (Below.drew (Below.refl _ W2)) hb3
            replace q0 := (hb3.cell (World.block_lt_of_cell? _ _ q0)).trans q0
            replace kA2 := (hb3.block _ (Array.getElem?_eq_some_iff.1 kA2).1).trans kA2
            replace hrow2 := hrow2.of_block (hb3.block _ hrow2.lt)
            replace hb2 := Rw.next hb2 hb3
            clear hb3
            refine ⟨_, rfl, ⟨q0, kA2⟩, fun hHeld => ?_⟩
            simp only [Act.put, List.setIfInBounds_toArray, List.set_cons_zero, List.set_cons_succ]
            refine take (i := 5) (d := some 30) (v := .bool false) rfl (by kernel_rfl) (by kernel_rfl) (by kernel_rfl) (by kernel_rfl) (fun _ _ _ h => h) (Or.inl ⟨by rfl, by intro w hSw; go_simp⟩) hHeld ?_
            simp only [Act.put, List.setIfInBounds_toArray, List.set_cons_zero, List.set_cons_succ]
            refine take (i := 6) (d := some 31) (v := .bool false) rfl (by kernel_rfl) (by kernel_rfl) (by kernel_rfl) (by kernel_rfl) (fun _ _ _ h => h) (Or.inl ⟨by rfl, by intro w hSw; go_simp⟩) hHeld ?_
            simp only [Act.put, List.setIfInBounds_toArray, List.set_cons_zero, List.set_cons_succ]
            refine take (i := 7) (d := some 32) (v := .slice (some ⟨w.heap.size, 0, none⟩) n n) rfl (by kernel_rfl) (by kernel_rfl) (by kernel_rfl) (by kernel_rfl) (fun _ _ _ h => h) (Or.inl ⟨by rfl, by intro w hSw; go_simp⟩) hHeld ?_
            simp only [Act.put, List.setIfInBounds_toArray, List.set_cons_zero, List.set_cons_succ]
            refine take (i := 8) (d := some 33) (v := .int .i64 k) rfl (by kernel_rfl) (by kernel_rfl) (by kernel_rfl) (by kernel_rfl) (fun _ _ _ h => h) (Or.inl ⟨by rfl, by intro w hSw; go_simp⟩) hHeld ?_
            simp only [Act.put, List.setIfInBounds_toArray, List.set_cons_zero, List.set_cons_succ]
            refine take (i := 9) (d := some 34) (v := .pointer (some ⟨w.heap.size, k, none⟩)) rfl (by kernel_rfl) (by kernel_rfl) (by kernel_rfl) (by kernel_rfl) (fun _ _ _ h => h) (Or.inl ⟨by rfl, by intro w hSw; go_simp⟩) hHeld ?_
            simp only [Act.put, List.setIfInBounds_toArray, List.set_cons_zero, List.set_cons_succ]
            refine take (i := 10) (d := some 35) (v := .iface 164 (.agg #[.int .i64 x1])) rfl (by kernel_rfl) (by kernel_rfl) (by kernel_rfl) (by kernel_rfl) (fun _ _ _ h => h) (Or.inl ⟨by rfl, by intro w hSw; have q1 := hSw.1; go_simp⟩) hHeld ?_
            simp only [Act.put, List.setIfInBounds_toArray, List.set_cons_zero, List.set_cons_succ]
            refine take (i := 12) (d := some 37) (v := .agg #[.int .i64 1, .int .i64 x1, .int .i64 x2]) rfl (by kernel_rfl) (by kernel_rfl) (by kernel_rfl) (by kernel_rfl) (fun _ _ _ h => h) (Or.inl ⟨by rfl, by intro w hSw; have q2 := hSw.2; have d0 := three0 q2; have d1 := three1 q2; have d2 := three2 q2; go_simp⟩) hHeld ?_
            simp only [Act.put, List.setIfInBounds_toArray, List.set_cons_zero, List.set_cons_succ]
            refine wpAnyH_ready (rs := [11]) (by kernel_rfl) (by simp) (Yf.callI rfl (by kernel_rfl) 176 (.tmp 35) rfl 36 (by kernel_rfl) (.iface 164 (.agg #[.int .i64 x1])) (.agg #[.int .i64 x1]) (by kernel_rfl) (fun w => by kernel_rfl) (act1 x1 _) ?_ AllReadyH.nil)
            rintro e w4 ⟨rfl, hb4⟩
            replace q0 := (hb4.cell (World.block_lt_of_cell? _ _ q0)).trans q0
            replace kA2 := (hb4.block _ (Array.getElem?_eq_some_iff.1 kA2).1).trans kA2
            replace hrow2 := hrow2.of_block (hb4.block _ hrow2.lt)
            replace hb2 := Rw.next hb2 hb4
            clear hb4
            refine ⟨_, rfl, ⟨q0, kA2⟩, fun hHeld => ?_⟩
            simp only [Act.put, List.setIfInBounds_toArray, List.set_cons_zero, List.set_cons_succ]
            refine take (i := 13) (d := some 38) (v := .bool true) rfl (by kernel_rfl) (by kernel_rfl) (by kernel_rfl) (by kernel_rfl) (fun _ _ _ h => h) (Or.inl ⟨by rfl, by intro w hSw; go_simp⟩) hHeld ?_
            simp only [Act.put, List.setIfInBounds_toArray, List.set_cons_zero, List.set_cons_succ]
            refine take (i := 14) (d := some 39) (v := .bool true) rfl (by kernel_rfl) (by kernel_rfl) (by kernel_rfl) (by kernel_rfl) (fun _ _ _ h => h) (Or.inl ⟨by rfl, by intro w hSw; go_simp⟩) hHeld ?_
            simp only [Act.put, List.setIfInBounds_toArray, List.set_cons_zero, List.set_cons_succ]
            refine wpAnyH_done (by kernel_rfl) ?_ _
            go_wp2
            all_goals exact bodyPost_ret (v := .tuple #[.slice none 0 0, .bool false]) (by simp [results, Try.results141, go_sem]) rfl ⟨hb2, fun _ => rfl, fun h => (by rw [hB] at h; cases h)⟩
        · skip
          go_wp2_with (go_at_call 153; rw [← hW0]; refine (kind_any (1, x1, x2) _).mono ?_; rintro e w1 ⟨rfl, hb⟩; rw [show actV (1, x1, x2) = .iface 164 (.agg #[.int .i64 x1]) from rfl]; replace hrow := hrow.of_block (hb.block _ hlw); replace kA := (hb.block _ zA).trans kA; replace hbel := Rw.next hbel hb; have g0 := hrow.cell hlt; have g1 := hrow.frozen k)
          obtain ⟨W2, hW2⟩ : ∃ W2, W2 = w1.setCell ⟨w.heap.size, k, none⟩ (.iface 164 (.agg #[.int .i64 x1])) := ⟨_, rfl⟩
          rw [← hW2]
          have q0 : W2.cell? ⟨w.heap.size, k, none⟩ = some (.iface 164 (.agg #[.int .i64 x1])) := by subst hW2; exact World.cell?_setCell_same _ _ _ g0
          have kA2 : W2.heap[wr.heap.size]? = some (.cells #[.int .i64 1, .int .i64 x1, .int .i64 x2] 147 (0, 0)) := by subst hW2; exact (Below.heap_setCell _ _ _ _ (fun h => hlt2 h.symm)).trans kA
          have hrow2 : W2.rowIs w.heap.size 158 n (row l (k + 1)) := by subst hW2; have := row_step hrow; rw [HX.out] at this; exact this
          have hb2 : Below w.heap.size w W2 := by subst hW2; exact hbel.setCell (by simp) _
          clear hW2 hrow g0 g1 hbel kA
          have hB := actsB_no (l := l) (k := k) (by have := HN.out; omega) (by rw [HX.out]; simp [actB]; omega)
          refine wp_region_held_drew (S := (fun w' => w'.cell? ⟨w.heap.size, k, none⟩ = some (.iface 164 (.agg #[.int .i64 x1])) ∧ w'.heap[wr.heap.size]? = some (.cells #[.int .i64 1, .int .i64 x1, .int .i64 x2] 147 (0, 0)))) (by kernel_rfl) ⟨q0, kA2⟩ (fun hHeld => ?_)
          refine take (i := 0) (d := some 25) (v := .slice (some ⟨w.heap.size, 0, none⟩) n n) rfl (by kernel_rfl) (by kernel_rfl) (by kernel_rfl) (by kernel_rfl) (fun _ _ _ h => h) (Or.inl ⟨by rfl, by intro w hSw; go_simp⟩) hHeld ?_
          simp only [Act.put, List.setIfInBounds_toArray, List.set_cons_zero, List.set_cons_succ]
          refine take (i := 1) (d := some 26) (v := .int .i64 k) rfl (by kernel_rfl) (by kernel_rfl) (by kernel_rfl) (by kernel_rfl) (fun _ _ _ h => h) (Or.inl ⟨by rfl, by intro w hSw; go_simp⟩) hHeld ?_
          simp only [Act.put, List.setIfInBounds_toArray, List.set_cons_zero, List.set_cons_succ]
          refine take (i := 2) (d := some 27) (v := .pointer (some ⟨w.heap.size, k, none⟩)) rfl (by kernel_rfl) (by kernel_rfl) (by kernel_rfl) (by kernel_rfl) (fun _ _ _ h => h) (Or.inl ⟨by rfl, by intro w hSw; go_simp⟩) hHeld ?_
          simp only [Act.put, List.setIfInBounds_toArray, List.set_cons_zero, List.set_cons_succ]
          refine take (i := 3) (d := some 28) (v := .iface 164 (.agg #[.int .i64 x1])) rfl (by kernel_rfl) (by kernel_rfl) (by kernel_rfl) (by kernel_rfl) (fun _ _ _ h => h) (Or.inl ⟨by rfl, by intro w hSw; have q1 := hSw.1; go_simp⟩) hHeld ?_
          simp only [Act.put, List.setIfInBounds_toArray, List.set_cons_zero, List.set_cons_succ]
          refine wpAnyH_ready (rs := [4]) (by kernel_rfl) (by simp) (Rg.call1 rfl (by kernel_rfl) 154 (.tmp 28) 158 (by kernel_rfl) 29 (by kernel_rfl) (.iface 164 (.agg #[.int .i64 x1])) (by kernel_rfl) (fun _ => rfl) (Yf.right1n hr _) ?_ AllReadyH.nil)
          rintro e w3 ⟨rfl, hb3⟩
          replace hb3 := Rw.next (Below.drew (Below.refl _ W2)) hb3
          replace q0 := (hb3.cell (World.block_lt_of_cell? _ _ q0)).trans q0
          replace kA2 := (hb3.block _ (Array.getElem?_eq_some_iff.1 kA2).1).trans kA2
          replace hrow2 := hrow2.of_block (hb3.block _ hrow2.lt)
          replace hb2 := Rw.next hb2 hb3
          clear hb3
          refine ⟨_, rfl, ⟨q0, kA2⟩, fun hHeld => ?_⟩
          simp only [Act.put, List.setIfInBounds_toArray, List.set_cons_zero, List.set_cons_succ]
          refine take (i := 5) (d := some 30) (v := .bool true) rfl (by kernel_rfl) (by kernel_rfl) (by kernel_rfl) (by kernel_rfl) (fun _ _ _ h => h) (Or.inl ⟨by rfl, by intro w hSw; go_simp⟩) hHeld ?_
          simp only [Act.put, List.setIfInBounds_toArray, List.set_cons_zero, List.set_cons_succ]
          refine take (i := 6) (d := some 31) (v := .bool true) rfl (by kernel_rfl) (by kernel_rfl) (by kernel_rfl) (by kernel_rfl) (fun _ _ _ h => h) (Or.inl ⟨by rfl, by intro w hSw; go_simp⟩) hHeld ?_
          simp only [Act.put, List.setIfInBounds_toArray, List.set_cons_zero, List.set_cons_succ]
          refine take (i := 7) (d := some 32) (v := undef) rfl (by kernel_rfl) (by kernel_rfl) (by kernel_rfl) (by kernel_rfl) (fun _ _ _ h => h) (Or.inr ⟨by rfl, rfl⟩) hHeld ?_
          simp only [Act.put, List.setIfInBounds_toArray, List.set_cons_zero, List.set_cons_succ]
          refine take (i := 8) (d := some 33) (v := undef) rfl (by kernel_rfl) (by kernel_rfl) (by kernel_rfl) (by kernel_rfl) (fun _ _ _ h => h) (Or.inr ⟨by rfl, rfl⟩) hHeld ?_
          simp only [Act.put, List.setIfInBounds_toArray, List.set_cons_zero, List.set_cons_succ]
          refine take (i := 9) (d := some 34) (v := undef) rfl (by kernel_rfl) (by kernel_rfl) (by kernel_rfl) (by kernel_rfl) (fun _ _ _ h => h) (Or.inr ⟨by rfl, rfl⟩) hHeld ?_
          simp only [Act.put, List.setIfInBounds_toArray, List.set_cons_zero, List.set_cons_succ]
          refine take (i := 10) (d := some 35) (v := undef) rfl (by kernel_rfl) (by kernel_rfl) (by kernel_rfl) (by kernel_rfl) (fun _ _ _ h => h) (Or.inr ⟨by rfl, rfl⟩) hHeld ?_
          simp only [Act.put, List.setIfInBounds_toArray, List.set_cons_zero, List.set_cons_succ]
          refine take (i := 11) (d := some 36) (v := undef) rfl (by kernel_rfl) (by kernel_rfl) (by kernel_rfl) (by kernel_rfl) (fun _ _ _ h => h) (Or.inr ⟨by rfl, rfl⟩) hHeld ?_
          simp only [Act.put, List.setIfInBounds_toArray, List.set_cons_zero, List.set_cons_succ]
          refine take (i := 12) (d := some 37) (v := undef) rfl (by kernel_rfl) (by kernel_rfl) (by kernel_rfl) (by kernel_rfl) (fun _ _ _ h => h) (Or.inr ⟨by rfl, rfl⟩) hHeld ?_
          simp only [Act.put, List.setIfInBounds_toArray, List.set_cons_zero, List.set_cons_succ]
          refine take (i := 13) (d := some 38) (v := undef) rfl (by kernel_rfl) (by kernel_rfl) (by kernel_rfl) (by kernel_rfl) (fun _ _ _ h => h) (Or.inr ⟨by rfl, rfl⟩) hHeld ?_
          simp only [Act.put, List.setIfInBounds_toArray, List.set_cons_zero, List.set_cons_succ]
          refine take (i := 14) (d := some 39) (v := .bool true) rfl (by kernel_rfl) (by kernel_rfl) (by kernel_rfl) (by kernel_rfl) (fun _ _ _ h => h) (Or.inl ⟨by rfl, by intro w hSw; go_simp⟩) hHeld ?_
          simp only [Act.put, List.setIfInBounds_toArray, List.set_cons_zero, List.set_cons_succ]
          refine wpAnyH_done (by kernel_rfl) ?_ _
          go_wp2
          all_goals exact bodyPost_ret (v := .tuple #[.slice none 0 0, .bool false]) (by simp [results, Try.results141, go_sem]) rfl ⟨hb2, fun _ => rfl, fun h => (by rw [hB] at h; cases h)⟩
      by_cases k2 : x0 = 2
      · subst k2
        by_cases h0 : x1 = 0
        · subst h0
          by_cases h1 : x2 = 0
          · subst h1
            go_wp2_with (go_at_call 153; rw [← hW0]; refine (kind_any (2, 0, 0) _).mono ?_; rintro e w1 ⟨rfl, hb⟩; rw [show actV (2, 0, 0) = .iface 166 (.agg #[]) from rfl]; replace hrow := hrow.of_block (hb.block _ hlw); replace kA := (hb.block _ zA).trans kA; replace hbel := Rw.next hbel hb; have g0 := hrow.cell hlt; have g1 := hrow.frozen k)
            obtain ⟨W2, hW2⟩ : ∃ W2, W2 = w1.setCell ⟨w.heap.size, k, none⟩ (.iface 166 (.agg #[])) := ⟨_, rfl⟩
            rw [← hW2]
            have q0 : W2.cell? ⟨w.heap.size, k, none⟩ = some (.iface 166 (.agg #[])) := by subst hW2; exact World.cell?_setCell_same _ _ _ g0
            have kA2 : W2.heap[wr.heap.size]? = some (.cells #[.int .i64 2, .int .i64 0, .int .i64 0] 147 (0, 0)) := by subst hW2; exact (Below.heap_setCell _ _ _ _ (fun h => hlt2 h.symm)).trans kA
            have hrow2 : W2.rowIs w.heap.size 158 n (row l (k + 1)) := by subst hW2; have := row_step hrow; rw [HX.out] at this; exact this
            have hb2 : Below w.heap.size w W2 := by subst hW2; exact hbel.setCell (by simp) _
            clear hW2 hrow g0 g1 hbel kA
            have hB := pre_step HP.out (by rw [HX.out]; simp [actB])
            refine wp_region_held_drew (S := (fun w' => w'.cell? ⟨w.heap.size, k, none⟩ = some (.iface 166 (.agg #[])) ∧ w'.heap[wr.heap.size]? = some (.cells #[.int .i64 2, .int .i64 0, .int .i64 0] 147 (0, 0)))) (by kernel_rfl) ⟨q0, kA2⟩ (fun hHeld => ?_)
            refine take (i := 0) (d := some 25) (v := .slice (some ⟨w.heap.size, 0, none⟩) n n) rfl (by kernel_rfl) (by kernel_rfl) (by kernel_rfl) (by kernel_rfl) (fun _ _ _ h => h) (Or.inl ⟨by rfl, by intro w hSw; go_simp⟩) hHeld ?_
            simp only [Act.put, List.setIfInBounds_toArray, List.set_cons_zero, List.set_cons_succ]
            refine take (i := 1) (d := some 26) (v := .int .i64 k) rfl (by kernel_rfl) (by kernel_rfl) (by kernel_rfl) (by kernel_rfl) (fun _ _ _ h => h) (Or.inl ⟨by rfl, by intro w hSw; go_simp⟩) hHeld ?_
            simp only [Act.put, List.setIfInBounds_toArray, List.set_cons_zero, List.set_cons_succ]
            refine take (i := 2) (d := some 27) (v := .pointer (some ⟨w.heap.size, k, none⟩)) rfl (by kernel_rfl) (by kernel_rfl) (by kernel_rfl) (by kernel_rfl) (fun _ _ _ h => h) (Or.inl ⟨by rfl, by intro w hSw; go_simp⟩) hHeld ?_
            simp only [Act.put, List.setIfInBounds_toArray, List.set_cons_zero, List.set_cons_succ]
            refine take (i := 3) (d := some 28) (v := .iface 166 (.agg #[])) rfl (by kernel_rfl) (by kernel_rfl) (by kernel_rfl) (by kernel_rfl) (fun _ _ _ h => h) (Or.inl ⟨by rfl, by intro w hSw; have q1 := hSw.1; go_simp⟩) hHeld ?_
            simp only [Act.put, List.setIfInBounds_toArray, List.set_cons_zero, List.set_cons_succ]
            refine wpAnyH_ready (rs := [4]) (by kernel_rfl) (by simp) (Rg.call1 rfl (by kernel_rfl) 154 (.tmp 28) 158 (by kernel_rfl) 29 (by kernel_rfl) (.iface 166 (.agg #[])) (by kernel_rfl) (fun _ => rfl) (right2 _) ?_ AllReadyH.nil)
            rintro e w3 ⟨rfl, hb3⟩
            replace hb3 := Rw.next (Below.drew (Below.refl _ W2)) hb3
            replace q0 := (hb3.cell (World.block_lt_of_cell? _ _ q0)).trans q0
            replace kA2 := (hb3.block _ (Array.getElem?_eq_some_iff.1 kA2).1).trans kA2
            replace hrow2 := hrow2.of_block (hb3.block _ hrow2.lt)
            replace hb2 := Rw.next hb2 hb3
            clear hb3
            refine ⟨_, rfl, ⟨q0, kA2⟩, fun hHeld => ?_⟩
            simp only [Act.put, List.setIfInBounds_toArray, List.set_cons_zero, List.set_cons_succ]
            refine take (i := 5) (d := some 30) (v := .bool false) rfl (by kernel_rfl) (by kernel_rfl) (by kernel_rfl) (by kernel_rfl) (fun _ _ _ h => h) (Or.inl ⟨by rfl, by intro w hSw; go_simp⟩) hHeld ?_
            simp only [Act.put, List.setIfInBounds_toArray, List.set_cons_zero, List.set_cons_succ]
            refine take (i := 6) (d := some 31) (v := .bool false) rfl (by kernel_rfl) (by kernel_rfl) (by kernel_rfl) (by kernel_rfl) (fun _ _ _ h => h) (Or.inl ⟨by rfl, by intro w hSw; go_simp⟩) hHeld ?_
            simp only [Act.put, List.setIfInBounds_toArray, List.set_cons_zero, List.set_cons_succ]
            refine take (i := 7) (d := some 32) (v := .slice (some ⟨w.heap.size, 0, none⟩) n n) rfl (by kernel_rfl) (by kernel_rfl) (by kernel_rfl) (by kernel_rfl) (fun _ _ _ h => h) (Or.inl ⟨by rfl, by intro w hSw; go_simp⟩) hHeld ?_
            simp only [Act.put, List.setIfInBounds_toArray, List.set_cons_zero, List.set_cons_succ]
            refine take (i := 8) (d := some 33) (v := .int .i64 k) rfl (by kernel_rfl) (by kernel_rfl) (by kernel_rfl) (by kernel_rfl) (fun _ _ _ h => h) (Or.inl ⟨by rfl, by intro w hSw; go_simp⟩) hHeld ?_
            simp only [Act.put, List.setIfInBounds_toArray, List.set_cons_zero, List.set_cons_succ]
            refine take (i := 9) (d := some 34) (v := .pointer (some ⟨w.heap.size, k, none⟩)) rfl (by kernel_rfl) (by kernel_rfl) (by kernel_rfl) (by kernel_rfl) (fun _ _ _ h => h) (Or.inl ⟨by rfl, by intro w hSw; go_simp⟩) hHeld ?_
            simp only [Act.put, List.setIfInBounds_toArray, List.set_cons_zero, List.set_cons_succ]
            refine take (i := 10) (d := some 35) (v := .iface 166 (.agg #[])) rfl (by kernel_rfl) (by kernel_rfl) (by kernel_rfl) (by kernel_rfl) (fun _ _ _ h => h) (Or.inl ⟨by rfl, by intro w hSw; have q1 := hSw.1; go_simp⟩) hHeld ?_
            simp only [Act.put, List.setIfInBounds_toArray, List.set_cons_zero, List.set_cons_succ]
            refine take (i := 12) (d := some 37) (v := .agg #[.int .i64 2, .int .i64 0, .int .i64 0]) rfl (by kernel_rfl) (by kernel_rfl) (by kernel_rfl) (by kernel_rfl) (fun _ _ _ h => h) (Or.inl ⟨by rfl, by intro w hSw; have q2 := hSw.2; have d0 := three0 q2; have d1 := three1 q2; have d2 := three2 q2; go_simp⟩) hHeld ?_
            simp only [Act.put, List.setIfInBounds_toArray, List.set_cons_zero, List.set_cons_succ]
            refine wpAnyH_ready (rs := [11]) (by kernel_rfl) (by simp) (Yf.callI rfl (by kernel_rfl) 177 (.tmp 35) rfl 36 (by kernel_rfl) (.iface 166 (.agg #[])) (.agg #[]) (by kernel_rfl) (fun w => by kernel_rfl) (act2 _) ?_ AllReadyH.nil)
            rintro e w4 ⟨rfl, hb4⟩
            replace q0 := (hb4.cell (World.block_lt_of_cell? _ _ q0)).trans q0
            replace kA2 := (hb4.block _ (Array.getElem?_eq_some_iff.1 kA2).1).trans kA2
            replace hrow2 := hrow2.of_block (hb4.block _ hrow2.lt)
            replace hb2 := Rw.next hb2 hb4
            clear hb4
            refine ⟨_, rfl, ⟨q0, kA2⟩, fun hHeld => ?_⟩
            simp only [Act.put, List.setIfInBounds_toArray, List.set_cons_zero, List.set_cons_succ]
            refine take (i := 13) (d := some 38) (v := .bool false) rfl (by kernel_rfl) (by kernel_rfl) (by kernel_rfl) (by kernel_rfl) (fun _ _ _ h => h) (Or.inl ⟨by rfl, by intro w hSw; go_simp⟩) hHeld ?_
            simp only [Act.put, List.setIfInBounds_toArray, List.set_cons_zero, List.set_cons_succ]
            refine take (i := 14) (d := some 39) (v := .bool false) rfl (by kernel_rfl) (by kernel_rfl) (by kernel_rfl) (by kernel_rfl) (fun _ _ _ h => h) (Or.inl ⟨by rfl, by intro w hSw; go_simp⟩) hHeld ?_
            simp only [Act.put, List.setIfInBounds_toArray, List.set_cons_zero, List.set_cons_succ]
            refine wpAnyH_done (by kernel_rfl) ?_ _
            go_wp2
            all_goals go_roundw
            all_goals first | exact ⟨k + 1, by omega, by go_num, hb2, hrow2, hB⟩ | (simp [intOf]; omega)
          · have hne : (0 == x2) = false := by simpa using fun h : 0 = x2 => h1 h.symm
            go_wp2_with (go_at_call 153; rw [← hW0]; refine (kind_any (2, 0, x2) _).mono ?_; rintro e w1 ⟨rfl, hb⟩; rw [show actV (2, 0, x2) = .iface 166 (.agg #[]) from rfl]; replace hrow := hrow.of_block (hb.block _ hlw); replace kA := (hb.block _ zA).trans kA; replace hbel := Rw.next hbel hb; have g0 := hrow.cell hlt; have g1 := hrow.frozen k)
            obtain ⟨W2, hW2⟩ : ∃ W2, W2 = w1.setCell ⟨w.heap.size, k, none⟩ (.iface 166 (.agg #[])) := ⟨_, rfl⟩
            rw [← hW2]
            have q0 : W2.cell? ⟨w.heap.size, k, none⟩ = some (.iface 166 (.agg #[])) := by subst hW2; exact World.cell?_setCell_same _ _ _ g0
            have kA2 : W2.heap[wr.heap.size]? = some (.cells #[.int .i64 2, .int .i64 0, .int .i64 x2] 147 (0, 0)) := by subst hW2; exact (Below.heap_setCell _ _ _ _ (fun h => hlt2 h.symm)).trans kA
            have hrow2 : W2.rowIs w.heap.size 158 n (row l (k + 1)) := by subst hW2; have := row_step hrow; rw [HX.out] at this; exact this
            have hb2 : Below w.heap.size w W2 := by subst hW2; exact hbel.setCell (by simp) _
            clear hW2 hrow g0 g1 hbel kA
            have hB := actsB_no (l := l) (k := k) (by have := HN.out; omega) (by rw [HX.out]; simp [actB, h1])
            refine wp_region_held_drew (S := (fun w' => w'.cell? ⟨w.heap.size, k, none⟩ = some (.iface 166 (.agg #[])) ∧ w'.heap[wr.heap.size]? = some (.cells #[.int .i64 2, .int .i64 0, .int .i64 x2] 147 (0, 0)))) (by kernel_rfl) ⟨q0, kA2⟩ (fun hHeld => ?_)
            refine take (i := 0) (d := some 25) (v := .slice (some ⟨w.heap.size, 0, none⟩) n n) rfl (by kernel_rfl) (by kernel_rfl) (by kernel_rfl) (by kernel_rfl) (fun _ _ _ h => h) (Or.inl ⟨by rfl, by intro w hSw; go_simp⟩) hHeld ?_
            simp only [Act.put, List.setIfInBounds_toArray, List.set_cons_zero, List.set_cons_succ]
            refine take (i := 1) (d := some 26) (v := .int .i64 k) rfl (by kernel_rfl) (by kernel_rfl) (by kernel_rfl) (by kernel_rfl) (fun _ _ _ h => h) (Or.inl ⟨by rfl, by intro w hSw; go_simp⟩) hHeld ?_
            simp only [Act.put, List.setIfInBounds_toArray, List.set_cons_zero, List.set_cons_succ]
            refine take (i := 2) (d := some 27) (v := .pointer (some ⟨w.heap.size, k, none⟩)) rfl (by kernel_rfl) (by kernel_rfl) (by kernel_rfl) (by kernel_rfl) (fun _ _ _ h => h) (Or.inl ⟨by rfl, by intro w hSw; go_simp⟩) hHeld ?_
            simp only [Act.put, List.setIfInBounds_toArray, List.set_cons_zero, List.set_cons_succ]
            refine take (i := 3) (d := some 28) (v := .iface 166 (.agg #[])) rfl (by kernel_rfl) (by kernel_rfl) (by kernel_rfl) (by kernel_rfl) (fun _ _ _ h => h) (Or.inl ⟨by rfl, by intro w hSw; have q1 := hSw.1; go_simp⟩) hHeld ?_
            simp only [Act.put, List.setIfInBounds_toArray, List.set_cons_zero, List.set_cons_succ]
            refine wpAnyH_ready (rs := [4]) (by kernel_rfl) (by simp) (Rg.call1 rfl (by kernel_rfl) 154 (.tmp 28) 158 (by kernel_rfl) 29 (by kernel_rfl) (.iface 166 (.agg #[])) (by kernel_rfl) (fun _ => rfl) (right2 _) ?_ AllReadyH.nil)
            rintro e w3 ⟨rfl, hb3⟩
            replace hb3 := Rw.next (Below.drew (Below.refl _ W2)) hb3
            replace q0 := (hb3.cell (World.block_lt_of_cell? _ _ q0)).trans q0
            replace kA2 := (hb3.block _ (Array.getElem?_eq_some_iff.1 kA2).1).trans kA2
            replace hrow2 := hrow2.of_block (hb3.block _ hrow2.lt)
            replace hb2 := Rw.next hb2 hb3
            clear hb3
            refine ⟨_, rfl, ⟨q0, kA2⟩, fun hHeld => ?_⟩
            simp only [Act.put, List.setIfInBounds_toArray, List.set_cons_zero, List.set_cons_succ]
            refine take (i := 5) (d := some 30) (v := .bool false) rfl (by kernel_rfl) (by kernel_rfl) (by kernel_rfl) (by kernel_rfl) (fun _ _ _ h => h) (Or.inl ⟨by rfl, by intro w hSw; go_simp⟩) hHeld ?_
            simp only [Act.put, List.setIfInBounds_toArray, List.set_cons_zero, List.set_cons_succ]
            refine take (i := 6) (d := some 31) (v := .bool false) rfl (by kernel_rfl) (by kernel_rfl) (by kernel_rfl) (by kernel_rfl) (fun _ _ _ h => h) (Or.inl ⟨by rfl, by intro w hSw; go_simp⟩) hHeld ?_
            simp only [Act.put, List.setIfInBounds_toArray, List.set_cons_zero, List.set_cons_succ]
            refine take (i := 7) (d := some 32) (v := .slice (some ⟨w.heap.size, 0, none⟩) n n) rfl (by kernel_rfl) (by kernel_rfl) (by kernel_rfl) (by kernel_rfl) (fun _ _ _ h => h) (Or.inl ⟨by rfl, by intro w hSw; go_simp⟩) hHeld ?_
            simp only [Act.put, List.setIfInBounds_toArray, List.set_cons_zero, List.set_cons_succ]
            refine take (i := 8) (d := some 33) (v := .int .i64 k) rfl (by kernel_rfl) (by kernel_rfl) (by kernel_rfl) (by kernel_rfl) (fun _ _ _ h => h) (Or.inl ⟨by rfl, by intro w hSw; go_simp⟩) hHeld ?_
            simp only [Act.put, List.setIfInBounds_toArray, List.set_cons_zero, List.set_cons_succ]
            refine take (i := 9) (d := some 34) (v := .pointer (some ⟨w.heap.size, k, none⟩)) rfl (by kernel_rfl) (by kernel_rfl) (by kernel_rfl) (by kernel_rfl) (fun _ _ _ h => h) (Or.inl ⟨by rfl, by intro w hSw; go_simp⟩) hHeld ?_
            simp only [Act.put, List.setIfInBounds_toArray, List.set_cons_zero, List.set_cons_succ]
            refine take (i := 10) (d := some 35) (v := .iface 166 (.agg #[])) rfl (by kernel_rfl) (by kernel_rfl) (by kernel_rfl) (by kernel_rfl) (fun _ _ _ h => h) (Or.inl ⟨by rfl, by intro w hSw; have q1 := hSw.1; go_simp⟩) hHeld ?_
            simp only [Act.put, List.setIfInBounds_toArray, List.set_cons_zero, List.set_cons_succ]
            refine take (i := 12) (d := some 37) (v := .agg #[.int .i64 2, .int .i64 0, .int .i64 x2]) rfl (by kernel_rfl) (by kernel_rfl) (by kernel_rfl) (by kernel_rfl) (fun _ _ _ h => h) (Or.inl ⟨by rfl, by intro w hSw; have q2 := hSw.2; have d0 := three0 q2; have d1 := three1 q2; have d2 := three2 q2; go_simp⟩) hHeld ?_
            simp only [Act.put, List.setIfInBounds_toArray, List.set_cons_zero, List.set_cons_succ]
            refine wpAnyH_ready (rs := [11]) (by kernel_rfl) (by simp) (Yf.callI rfl (by kernel_rfl) 177 (.tmp 35) rfl 36 (by kernel_rfl) (.iface 166 (.agg #[])) (.agg #[]) (by kernel_rfl) (fun w => by kernel_rfl) (act2 _) ?_ AllReadyH.nil)
            rintro e w4 ⟨rfl, hb4⟩
            replace q0 := (hb4.cell (World.block_lt_of_cell? _ _ q0)).trans q0
            replace kA2 := (hb4.block _ (Array.getElem?_eq_some_iff.1 kA2).1).trans kA2
            replace hrow2 := hrow2.of_block (hb4.block _ hrow2.lt)
            replace hb2 := Rw.next hb2 hb4
            clear hb4
            refine ⟨_, rfl, ⟨q0, kA2⟩, fun hHeld => ?_⟩
            simp only [Act.put, List.setIfInBounds_toArray, List.set_cons_zero, List.set_cons_succ]
            refine take (i := 13) (d := some 38) (v := .bool true) rfl (by kernel_rfl) (by kernel_rfl) (by kernel_rfl) (by kernel_rfl) (fun _ _ _ h => h) (Or.inl ⟨by rfl, by intro w hSw; go_simp⟩) hHeld ?_
            simp only [Act.put, List.setIfInBounds_toArray, List.set_cons_zero, List.set_cons_succ]
            refine take (i := 14) (d := some 39) (v := .bool true) rfl (by kernel_rfl) (by kernel_rfl) (by kernel_rfl) (by kernel_rfl) (fun _ _ _ h => h) (Or.inl ⟨by rfl, by intro w hSw; go_simp⟩) hHeld ?_
            simp only [Act.put, List.setIfInBounds_toArray, List.set_cons_zero, List.set_cons_succ]
            refine wpAnyH_done (by kernel_rfl) ?_ _
            go_wp2
            all_goals exact bodyPost_ret (v := .tuple #[.slice none 0 0, .bool false]) (by simp [results, Try.results141, go_sem]) rfl ⟨hb2, fun _ => rfl, fun h => (by rw [hB] at h; cases h)⟩
        · have hne : (0 == x1) = false := by simpa using fun h : 0 = x1 => h0 h.symm
          go_wp2_with (go_at_call 153; rw [← hW0]; refine (kind_any (2, x1, x2) _).mono ?_; rintro e w1 ⟨rfl, hb⟩; rw [show actV (2, x1, x2) = .iface 166 (.agg #[]) from rfl]; replace hrow := hrow.of_block (hb.block _ hlw); replace kA := (hb.block _ zA).trans kA; replace hbel := Rw.next hbel hb; have g0 := hrow.cell hlt; have g1 := hrow.frozen k)
          obtain ⟨W2, hW2⟩ : ∃ W2, W2 = w1.setCell ⟨w.heap.size, k, none⟩ (.iface 166 (.agg #[])) := ⟨_, rfl⟩
          rw [← hW2]
          have q0 : W2.cell? ⟨w.heap.size, k, none⟩ = some (.iface 166 (.agg #[])) := by subst hW2; exact World.cell?_setCell_same _ _ _ g0
          have kA2 : W2.heap[wr.heap.size]? = some (.cells #[.int .i64 2, .int .i64 x1, .int .i64 x2] 147 (0, 0)) := by subst hW2; exact (Below.heap_setCell _ _ _ _ (fun h => hlt2 h.symm)).trans kA
          have hrow2 : W2.rowIs w.heap.size 158 n (row l (k + 1)) := by subst hW2; have := row_step hrow; rw [HX.out] at this; exact this
          have hb2 : Below w.heap.size w W2 := by subst hW2; exact hbel.setCell (by simp) _
          clear hW2 hrow g0 g1 hbel kA
          have hB := actsB_no (l := l) (k := k) (by have := HN.out; omega) (by rw [HX.out]; simp [actB, h0])
          refine wp_region_held_drew (S := (fun w' => w'.cell? ⟨w.heap.size, k, none⟩ = some (.iface 166 (.agg #[])) ∧ w'.heap[wr.heap.size]? = some (.cells #[.int .i64 2, .int .i64 x1, .int .i64 x2] 147 (0, 0)))) (by kernel_rfl) ⟨q0, kA2⟩ (fun hHeld => ?_)
          refine take (i := 0) (d := some 25) (v := .slice (some ⟨w.heap.size, 0, none⟩) n n) rfl (by kernel_rfl) (by kernel_rfl) (by kernel_rfl) (by kernel_rfl) (fun _ _ _ h => h) (Or.inl ⟨by rfl, by intro w hSw; go_simp⟩) hHeld ?_
          simp only [Act.put, List.setIfInBounds_toArray, List.set_cons_zero, List.set_cons_succ]
          refine take (i := 1) (d := some 26) (v := .int .i64 k) rfl (by kernel_rfl) (by kernel_rfl) (by kernel_rfl) (by kernel_rfl) (fun _ _ _ h => h) (Or.inl ⟨by rfl, by intro w hSw; go_simp⟩) hHeld ?_
          simp only [Act.put, List.setIfInBounds_toArray, List.set_cons_zero, List.set_cons_succ]
          refine take (i := 2) (d := some 27) (v := .pointer (some ⟨w.heap.size, k, none⟩)) rfl (by kernel_rfl) (by kernel_rfl) (by kernel_rfl) (by kernel_rfl) (fun _ _ _ h => h) (Or.inl ⟨by rfl, by intro w hSw; go_simp⟩) hHeld ?_
          simp only [Act.put, List.setIfInBounds_toArray, List.set_cons_zero, List.set_cons_succ]
          refine take (i := 3) (d := some 28) (v := .iface 166 (.agg #[])) rfl (by kernel_rfl) (by kernel_rfl) (by kernel_rfl) (by kernel_rfl) (fun _ _ _ h => h) (Or.inl ⟨by rfl, by intro w hSw; have q1 := hSw.1; go_simp⟩) hHeld ?_
          simp only [Act.put, List.setIfInBounds_toArray, List.set_cons_zero, List.set_cons_succ]
          refine wpAnyH_ready (rs := [4]) (by kernel_rfl) (by simp) (Rg.call1 rfl (by kernel_rfl) 154 (.tmp 28) 158 (by kernel_rfl) 29 (by kernel_rfl) (.iface 166 (.agg #[])) (by kernel_rfl) (fun _ => rfl) (right2 _) ?_ AllReadyH.nil)
          rintro e w3 ⟨rfl, hb3⟩
          replace hb3 := Rw.next (Below.drew (Below.refl _ W2)) hb3
          replace q0 := (hb3.cell (World.block_lt_of_cell? _ _ q0)).trans q0
          replace kA2 := (hb3.block _ (Array.getElem?_eq_some_iff.1 kA2).1).trans kA2
          replace hrow2 := hrow2.of_block (hb3.block _ hrow2.lt)
          replace hb2 := Rw.next hb2 hb3
          clear hb3
          refine ⟨_, rfl, ⟨q0, kA2⟩, fun hHeld => ?_⟩
          simp only [Act.put, List.setIfInBounds_toArray, List.set_cons_zero, List.set_cons_succ]
          refine take (i := 5) (d := some 30) (v := .bool false) rfl (by kernel_rfl) (by kernel_rfl) (by kernel_rfl) (by kernel_rfl) (fun _ _ _ h => h) (Or.inl ⟨by rfl, by intro w hSw; go_simp⟩) hHeld ?_
          simp only [Act.put, List.setIfInBounds_toArray, List.set_cons_zero, List.set_cons_succ]
          refine take (i := 6) (d := some 31) (v := .bool false) rfl (by kernel_rfl) (by kernel_rfl) (by kernel_rfl) (by kernel_rfl) (fun _ _ _ h => h) (Or.inl ⟨by rfl, by intro w hSw; go_simp⟩) hHeld ?_
          simp only [Act.put, List.setIfInBounds_toArray, List.set_cons_zero, List.set_cons_succ]
          refine take (i := 7) (d := some 32) (v := .slice (some ⟨w.heap.size, 0, none⟩) n n) rfl (by kernel_rfl) (by kernel_rfl) (by kernel_rfl) (by kernel_rfl) (fun _ _ _ h => h) (Or.inl ⟨by rfl, by intro w hSw; go_simp⟩) hHeld ?_
          simp only [Act.put, List.setIfInBounds_toArray, List.set_cons_zero, List.set_cons_succ]
          refine take (i := 8) (d := some 33) (v := .int .i64 k) rfl (by kernel_rfl) (by kernel_rfl) (by kernel_rfl) (by kernel_rfl) (fun _ _ _ h => h) (Or.inl ⟨by rfl, by intro w hSw; go_simp⟩) hHeld ?_
          simp only [Act.put, List.setIfInBounds_toArray, List.set_cons_zero, List.set_cons_succ]
          refine take (i := 9) (d := some 34) (v := .pointer (some ⟨w.heap.size, k, none⟩)) rfl (by kernel_rfl) (by kernel_rfl) (by kernel_rfl) (by kernel_rfl) (fun _ _ _ h => h) (Or.inl ⟨by rfl, by intro w hSw; go_simp⟩) hHeld ?_
          simp only [Act.put, List.setIfInBounds_toArray, List.set_cons_zero, List.set_cons_succ]
          refine take (i := 10) (d := some 35) (v := .iface 166 (.agg #[])) rfl (by kernel_rfl) (by kernel_rfl) (by kernel_rfl) (by kernel_rfl) (fun _ _ _ h => h) (Or.inl ⟨by rfl, by intro w hSw; have q1 := hSw.1; go_simp⟩) hHeld ?_
          simp only [Act.put, List.setIfInBounds_toArray, List.set_cons_zero, List.set_cons_succ]
          refine take (i := 12) (d := some 37) (v := .agg #[.int .i64 2, .int .i64 x1, .int .i64 x2]) rfl (by kernel_rfl) (by kernel_rfl) (by kernel_rfl) (by kernel_rfl) (fun _ _ _ h => h) (Or.inl ⟨by rfl, by intro w hSw; have q2 := hSw.2; have d0 := three0 q2; have d1 := three1 q2; have d2 := three2 q2; go_simp⟩) hHeld ?_
          simp only [Act.put, List.setIfInBounds_toArray, List.set_cons_zero, List.set_cons_succ]
          refine wpAnyH_ready (rs := [11]) (by kernel_rfl) (by simp) (Yf.callI rfl (by kernel_rfl) 177 (.tmp 35) rfl 36 (by kernel_rfl) (.iface 166 (.agg #[])) (.agg #[]) (by kernel_rfl) (fun w => by kernel_rfl) (act2 _) ?_ AllReadyH.nil)
          rintro e w4 ⟨rfl, hb4⟩
          replace q0 := (hb4.cell (World.block_lt_of_cell? _ _ q0)).trans q0
          replace kA2 := (hb4.block _ (Array.getElem?_eq_some_iff.1 kA2).1).trans kA2
          replace hrow2 := hrow2.of_block (hb4.block _ hrow2.lt)
          replace hb2 := Rw.next hb2 hb4
          clear hb4
          refine ⟨_, rfl, ⟨q0, kA2⟩, fun hHeld => ?_⟩
          simp only [Act.put, List.setIfInBounds_toArray, List.set_cons_zero, List.set_cons_succ]
          refine take (i := 13) (d := some 38) (v := .bool true) rfl (by kernel_rfl) (by kernel_rfl) (by kernel_rfl) (by kernel_rfl) (fun _ _ _ h => h) (Or.inl ⟨by rfl, by intro w hSw; go_simp⟩) hHeld ?_
          simp only [Act.put, List.setIfInBounds_toArray, List.set_cons_zero, List.set_cons_succ]
          refine take (i := 14) (d := some 39) (v := .bool true) rfl (by kernel_rfl) (by kernel_rfl) (by kernel_rfl) (by kernel_rfl) (fun _ _ _ h => h) (Or.inl ⟨by rfl, by intro w hSw; go_simp⟩) hHeld ?_
          simp only [Act.put, List.setIfInBounds_toArray, List.set_cons_zero, List.set_cons_succ]
          refine wpAnyH_done (by kernel_rfl) ?_ _
          go_wp2
          all_goals exact bodyPost_ret (v := .tuple #[.slice none 0 0, .bool false]) (by simp [results, Try.results141, go_sem]) rfl ⟨hb2, fun _ => rfl, fun h => (by rw [hB] at h; cases h)⟩
      by_cases k4 : x0 = 4
      · subst k4
        by_cases h0 : x1 = 0
        · subst h0
          by_cases h1 : x2 = 0
          · subst h1
            go_wp2_with (go_at_call 153; rw [← hW0]; refine (kind_any (4, 0, 0) _).mono ?_; rintro e w1 ⟨rfl, hb⟩; rw [show actV (4, 0, 0) = .iface 169 (.agg #[]) from rfl]; replace hrow := hrow.of_block (hb.block _ hlw); replace kA := (hb.block _ zA).trans kA; replace hbel := Rw.next hbel hb; have g0 := hrow.cell hlt; have g1 := hrow.frozen k)
            obtain ⟨W2, hW2⟩ : ∃ W2, W2 = w1.setCell ⟨w.heap.size, k, none⟩ (.iface 169 (.agg #[])) := ⟨_, rfl⟩
            rw [← hW2]
            have q0 : W2.cell? ⟨w.heap.size, k, none⟩ = some (.iface 169 (.agg #[])) := by subst hW2; exact World.cell?_setCell_same _ _ _ g0
            have kA2 : W2.heap[wr.heap.size]? = some (.cells #[.int .i64 4, .int .i64 0, .int .i64 0] 147 (0, 0)) := by subst hW2; exact (Below.heap_setCell _ _ _ _ (fun h => hlt2 h.symm)).trans kA
            have hrow2 : W2.rowIs w.heap.size 158 n (row l (k + 1)) := by subst hW2; have := row_step hrow; rw [HX.out] at this; exact this
            have hb2 : Below w.heap.size w W2 := by subst hW2; exact hbel.setCell (by simp) _
            clear hW2 hrow g0 g1 hbel kA
            have hB := pre_step HP.out (by rw [HX.out]; simp [actB])
            refine wp_region_held_drew (S := (fun w' => w'.cell? ⟨w.heap.size, k, none⟩ = some (.iface 169 (.agg #[])) ∧ w'.heap[wr.heap.size]? = some (.cells #[.int .i64 4, .int .i64 0, .int .i64 0] 147 (0, 0)))) (by kernel_rfl) ⟨q0, kA2⟩ (fun hHeld => ?_)
            refine take (i := 0) (d := some 25) (v := .slice (some ⟨w.heap.size, 0, none⟩) n n) rfl (by kernel_rfl) (by kernel_rfl) (by kernel_rfl) (by kernel_rfl) (fun _ _ _ h => h) (Or.inl ⟨by rfl, by intro w hSw; go_simp⟩) hHeld ?_
            simp only [Act.put, List.setIfInBounds_toArray, List.set_cons_zero, List.set_cons_succ]
            refine take (i := 1) (d := some 26) (v := .int .i64 k) rfl (by kernel_rfl) (by kernel_rfl) (by kernel_rfl) (by kernel_rfl) (fun _ _ _ h => h) (Or.inl ⟨by rfl, by intro w hSw; go_simp⟩) hHeld ?_
            simp only [Act.put, List.setIfInBounds_toArray, List.set_cons_zero, List.set_cons_succ]
            refine take (i := 2) (d := some 27) (v := .pointer (some ⟨w.heap.size, k, none⟩)) rfl (by kernel_rfl) (by kernel_rfl) (by kernel_rfl) (by kernel_rfl) (fun _ _ _ h => h) (Or.inl ⟨by rfl, by intro w hSw; go_simp⟩) hHeld ?_
            simp only [Act.put, List.setIfInBounds_toArray, List.set_cons_zero, List.set_cons_succ]
            refine take (i := 3) (d := some 28) (v := .iface 169 (.agg #[])) rfl (by kernel_rfl) (by kernel_rfl) (by kernel_rfl) (by kernel_rfl) (fun _ _ _ h => h) (Or.inl ⟨by rfl, by intro w hSw; have q1 := hSw.1; go_simp⟩) hHeld ?_
            simp only [Act.put, List.setIfInBounds_toArray, List.set_cons_zero, List.set_cons_succ]
            refine wpAnyH_ready (rs := [4]) (by kernel_rfl) (by simp) (Rg.call1 rfl (by kernel_rfl) 154 (.tmp 28) 158 (by kernel_rfl) 29 (by kernel_rfl) (.iface 169 (.agg #[])) (by kernel_rfl) (fun _ => rfl) (right4 _) ?_ AllReadyH.nil)
            rintro e w3 ⟨rfl, hb3⟩
            replace hb3 := Rw.next (Below.drew (Below.refl _ W2)) hb3
            replace q0 := (hb3.cell (World.block_lt_of_cell? _ _ q0)).trans q0
            replace kA2 := (hb3.block _ (Array.getElem?_eq_some_iff.1 kA2).1).trans kA2
            replace hrow2 := hrow2.of_block (hb3.block _ hrow2.lt)
            replace hb2 := Rw.next hb2 hb3
            clear hb3
            refine ⟨_, rfl, ⟨q0, kA2⟩, fun hHeld => ?_⟩
            simp only [Act.put, List.setIfInBounds_toArray, List.set_cons_zero, List.set_cons_succ]
            refine take (i := 5) (d := some 30) (v := .bool false) rfl (by kernel_rfl) (by kernel_rfl) (by kernel_rfl) (by kernel_rfl) (fun _ _ _ h => h) (Or.inl ⟨by rfl, by intro w hSw; go_simp⟩) hHeld ?_
            simp only [Act.put, List.setIfInBounds_toArray, List.set_cons_zero, List.set_cons_succ]
            refine take (i := 6) (d := some 31) (v := .bool false) rfl (by kernel_rfl) (by kernel_rfl) (by kernel_rfl) (by kernel_rfl) (fun _ _ _ h => h) (Or.inl ⟨by rfl, by intro w hSw; go_simp⟩) hHeld ?_
            simp only [Act.put, List.setIfInBounds_toArray, List.set_cons_zero, List.set_cons_succ]
            refine take (i := 7) (d := some 32) (v := .slice (some ⟨w.heap.size, 0, none⟩) n n) rfl (by kernel_rfl) (by kernel_rfl) (by kernel_rfl) (by kernel_rfl) (fun _ _ _ h => h) (Or.inl ⟨by rfl, by intro w hSw; go_simp⟩) hHeld ?_
            simp only [Act.put, List.setIfInBounds_toArray, List.set_cons_zero, List.set_cons_succ]
            refine take (i := 8) (d := some 33) (v := .int .i64 k) rfl (by kernel_rfl) (by kernel_rfl) (by kernel_rfl) (by kernel_rfl) (fun _ _ _ h => h) (Or.inl ⟨by rfl, by intro w hSw; go_simp⟩) hHeld ?_
            simp only [Act.put, List.setIfInBounds_toArray, List.set_cons_zero, List.set_cons_succ]
            refine take (i := 9) (d := some 34) (v := .pointer (some ⟨w.heap.size, k, none⟩)) rfl (by kernel_rfl) (by kernel_rfl) (by kernel_rfl) (by kernel_rfl) (fun _ _ _ h => h) (Or.inl ⟨by rfl, by intro w hSw; go_simp⟩) hHeld ?_
            simp only [Act.put, List.setIfInBounds_toArray, List.set_cons_zero, List.set_cons_succ]
            refine take (i := 10) (d := some 35) (v := .iface 169 (.agg #[])) rfl (by kernel_rfl) (by kernel_rfl) (by kernel_rfl) (by kernel_rfl) (fun _ _ _ h => h) (Or.inl ⟨by rfl, by intro w hSw; have q1 := hSw.1; go_simp⟩) hHeld ?_
            simp only [Act.put, List.setIfInBounds_toArray, List.set_cons_zero, List.set_cons_succ]
            refine take (i := 12) (d := some 37) (v := .agg #[.int .i64 4, .int .i64 0, .int .i64 0]) rfl (by kernel_rfl) (by kernel_rfl) (by kernel_rfl) (by kernel_rfl) (fun _ _ _ h => h) (Or.inl ⟨by rfl, by intro w hSw; have q2 := hSw.2; have d0 := three0 q2; have d1 := three1 q2; have d2 := three2 q2; go_simp⟩) hHeld ?_
            simp only [Act.put, List.setIfInBounds_toArray, List.set_cons_zero, List.set_cons_succ]
            refine wpAnyH_ready (rs := [11]) (by kernel_rfl) (by simp) (Yf.callI rfl (by kernel_rfl) 179 (.tmp 35) rfl 36 (by kernel_rfl) (.iface 169 (.agg #[])) (.agg #[]) (by kernel_rfl) (fun w => by kernel_rfl) (act4 _) ?_ AllReadyH.nil)
            rintro e w4 ⟨rfl, hb4⟩
            replace q0 := (hb4.cell (World.block_lt_of_cell? _ _ q0)).trans q0
            replace kA2 := (hb4.block _ (Array.getElem?_eq_some_iff.1 kA2).1).trans kA2
            replace hrow2 := hrow2.of_block (hb4.block _ hrow2.lt)
            replace hb2 := Rw.next hb2 hb4
            clear hb4
            refine ⟨_, rfl, ⟨q0, kA2⟩, fun hHeld => ?_⟩
            simp only [Act.put, List.setIfInBounds_toArray, List.set_cons_zero, List.set_cons_succ]
            refine take (i := 13) (d := some 38) (v := .bool false) rfl (by kernel_rfl) (by kernel_rfl) (by kernel_rfl) (by kernel_rfl) (fun _ _ _ h => h) (Or.inl ⟨by rfl, by intro w hSw; go_simp⟩) hHeld ?_
            simp only [Act.put, List.setIfInBounds_toArray, List.set_cons_zero, List.set_cons_succ]
            refine take (i := 14) (d := some 39) (v := .bool false) rfl (by kernel_rfl) (by kernel_rfl) (by kernel_rfl) (by kernel_rfl) (fun _ _ _ h => h) (Or.inl ⟨by rfl, by intro w hSw; go_simp⟩) hHeld ?_
            simp only [Act.put, List.setIfInBounds_toArray, List.set_cons_zero, List.set_cons_succ]
            refine wpAnyH_done (by kernel_rfl) ?_ _
            go_wp2
            all_goals go_roundw
            all_goals first | exact ⟨k + 1, by omega, by go_num, hb2, hrow2, hB⟩ | (simp [intOf]; omega)
          · have hne : (0 == x2) = false := by simpa using fun h : 0 = x2 => h1 h.symm
            go_wp2_with (go_at_call 153; rw [← hW0]; refine (kind_any (4, 0, x2) _).mono ?_; rintro e w1 ⟨rfl, hb⟩; rw [show actV (4, 0, x2) = .iface 169 (.agg #[]) from rfl]; replace hrow := hrow.of_block (hb.block _ hlw); replace kA := (hb.block _ zA).trans kA; replace hbel := Rw.next hbel hb; have g0 := hrow.cell hlt; have g1 := hrow.frozen k)
            obtain ⟨W2, hW2⟩ : ∃ W2, W2 = w1.setCell ⟨w.heap.size, k, none⟩ (.iface 169 (.agg #[])) := ⟨_, rfl⟩
            rw [← hW2]
            have q0 : W2.cell? ⟨w.heap.size, k, none⟩ = some (.iface 169 (.agg #[])) := by subst hW2; exact World.cell?_setCell_same _ _ _ g0
            have kA2 : W2.heap[wr.heap.size]? = some (.cells #[.int .i64 4, .int .i64 0, .int .i64 x2] 147 (0, 0)) := by subst hW2; exact (Below.heap_setCell _ _ _ _ (fun h => hlt2 h.symm)).trans kA
            have hrow2 : W2.rowIs w.heap.size 158 n (row l (k + 1)) := by subst hW2; have := row_step hrow; rw [HX.out] at this; exact this
            have hb2 : Below w.heap.size w W2 := by subst hW2; exact hbel.setCell (by simp) _
            clear hW2 hrow g0 g1 hbel kA
            have hB := actsB_no (l := l) (k := k) (by have := HN.out; omega) (by rw [HX.out]; simp [actB, h1])
            refine wp_region_held_drew (S := (fun w' => w'.cell? ⟨w.heap.size, k, none⟩ = some (.iface 169 (.agg #[])) ∧ w'.heap[wr.heap.size]? = some (.cells #[.int .i64 4, .int .i64 0, .int .i64 x2] 147 (0, 0)))) (by kernel_rfl) ⟨q0, kA2⟩ (fun hHeld => ?_)
            refine take (i := 0) (d := some 25) (v := .slice (some ⟨w.heap.size, 0, none⟩) n n) rfl (by kernel_rfl) (by kernel_rfl) (by kernel_rfl) (by kernel_rfl) (fun _ _ _ h => h) (Or.inl ⟨by rfl, by intro w hSw; go_simp⟩) hHeld ?_
            simp only [Act.put, List.setIfInBounds_toArray, List.set_cons_zero, List.set_cons_succ]
            refine take (i := 1) (d := some 26) (v := .int .i64 k) rfl (by kernel_rfl) (by kernel_rfl) (by kernel_rfl) (by kernel_rfl) (fun _ _ _ h => h) (Or.inl ⟨by rfl, by intro w hSw; go_simp⟩) hHeld ?_
            simp only [Act.put, List.setIfInBounds_toArray, List.set_cons_zero, List.set_cons_succ]
            refine take (i := 2) (d := some 27) (v := .pointer (some ⟨w.heap.size, k, none⟩)) rfl (by kernel_rfl) (by kernel_rfl) (by kernel_rfl) (by kernel_rfl) (fun _ _ _ h => h) (Or.inl ⟨by rfl, by intro w hSw; go_simp⟩) hHeld ?_
            simp only [Act.put, List.setIfInBounds_toArray, List.set_cons_zero, List.set_cons_succ]
            refine take (i := 3) (d := some 28) (v := .iface 169 (.agg #[])) rfl (by kernel_rfl) (by kernel_rfl) (by kernel_rfl) (by kernel_rfl) (fun _ _ _ h => h) (Or.inl ⟨by rfl, by intro w hSw; have q1 := hSw.1; go_simp⟩) hHeld ?_
            simp only [Act.put, List.setIfInBounds_toArray, List.set_cons_zero, List.set_cons_succ]
            refine wpAnyH_ready (rs := [4]) (by kernel_rfl) (by simp) (Rg.call1 rfl (by kernel_rfl) 154 (.tmp 28) 158 (by kernel_rfl) 29 (by kernel_rfl) (.iface 169 (.agg #[])) (by kernel_rfl) (fun _ => rfl) (right4 _) ?_ AllReadyH.nil)
            rintro e w3 ⟨rfl, hb3⟩
            replace hb3 := Rw.next (Below.drew (Below.refl _ W2)) hb3
            replace q0 := (hb3.cell (World.block_lt_of_cell? _ _ q0)).trans q0
            replace kA2 := (hb3.block _ (Array.getElem?_eq_some_iff.1 kA2).1).trans kA2
            replace hrow2 := hrow2.of_block (hb3.block _ hrow2.lt)
            replace hb2 := Rw.next hb2 hb3
            clear hb3
            refine ⟨_, rfl, ⟨q0, kA2⟩, fun hHeld => ?_⟩
            simp only [Act.put, List.setIfInBounds_toArray, List.set_cons_zero, List.set_cons_succ]
            refine take (i := 5) (d := some 30) (v := .bool false) rfl (by kernel_rfl) (by kernel_rfl) (by kernel_rfl) (by kernel_rfl) (fun _ _ _ h => h) (Or.inl ⟨by rfl, by intro w hSw; go_simp⟩) hHeld ?_
            simp only [Act.put, List.setIfInBounds_toArray, List.set_cons_zero, List.set_cons_succ]
            refine take (i := 6) (d := some 31) (v := .bool false) rfl (by kernel_rfl) (by kernel_rfl) (by kernel_rfl) (by kernel_rfl) (fun _ _ _ h => h) (Or.inl ⟨by rfl, by intro w hSw; go_simp⟩) hHeld ?_
            simp only [Act.put, List.setIfInBounds_toArray, List.set_cons_zero, List.set_cons_succ]
            refine take (i := 7) (d := some 32) (v := .slice (some ⟨w.heap.size, 0, none⟩) n n) rfl (by kernel_rfl) (by kernel_rfl) (by kernel_rfl) (by kernel_rfl) (fun _ _ _ h => h) (Or.inl ⟨by rfl, by intro w hSw; go_simp⟩) hHeld ?_
            simp only [Act.put, List.setIfInBounds_toArray, List.set_cons_zero, List.set_cons_succ]
            refine take (i := 8) (d := some 33) (v := .int .i64 k) rfl (by kernel_rfl) (by kernel_rfl) (by kernel_rfl) (by kernel_rfl) (fun _ _ _ h => h) (Or.inl ⟨by rfl, by intro w hSw; go_simp⟩) hHeld ?_
            simp only [Act.put, List.setIfInBounds_toArray, List.set_cons_zero, List.set_cons_succ]
            refine take (i := 9) (d := some 34) (v := .pointer (some ⟨w.heap.size, k, none⟩)) rfl (by kernel_rfl) (by kernel_rfl) (by kernel_rfl) (by kernel_rfl) (fun _ _ _ h => h) (Or.inl ⟨by rfl, by intro w hSw; go_simp⟩) hHeld ?_
            simp only [Act.put, List.setIfInBounds_toArray, List.set_cons_zero, List.set_cons_succ]
            refine take (i := 10) (d := some 35) (v := .iface 169 (.agg #[])) rfl (by kernel_rfl) (by kernel_rfl) (by kernel_rfl) (by kernel_rfl) (fun _ _ _ h => h) (Or.inl ⟨by rfl, by intro w hSw; have q1 := hSw.1; go_simp⟩) hHeld ?_
            simp only [Act.put, List.setIfInBounds_toArray, List.set_cons_zero, List.set_cons_succ]
            refine take (i := 12) (d := some 37) (v := .agg #[.int .i64 4, .int .i64 0, .int .i64 x2]) rfl (by kernel_rfl) (by kernel_rfl) (by kernel_rfl) (by kernel_rfl) (fun _ _ _ h => h) (Or.inl ⟨by rfl, by intro w hSw; have q2 := hSw.2; have d0 := three0 q2; have d1 := three1 q2; have d2 := three2 q2; go_simp⟩) hHeld ?_
            simp only [Act.put, List.setIfInBounds_toArray, List.set_cons_zero, List.set_cons_succ]
            refine wpAnyH_ready (rs := [11]) (by kernel_rfl) (by simp) (Yf.callI rfl (by kernel_rfl) 179 (.tmp 35) rfl 36 (by kernel_rfl) (.iface 169 (.agg #[])) (.agg #[]) (by kernel_rfl) (fun w => by kernel_rfl) (act4 _) ?_ AllReadyH.nil)
            rintro e w4 ⟨rfl, hb4⟩
            replace q0 := (hb4.cell (World.block_lt_of_cell? _ _ q0)).trans q0
            replace kA2 := (hb4.block _ (Array.getElem?_eq_some_iff.1 kA2).1).trans kA2
            replace hrow2 := hrow2.of_block (hb4.block _ hrow2.lt)
            replace hb2 := Rw.next hb2 hb4
            clear hb4
            refine ⟨_, rfl, ⟨q0, kA2⟩, fun hHeld => ?_⟩
            simp only [Act.put, List.setIfInBounds_toArray, List.set_cons_zero, List.set_cons_succ]
            refine take (i := 13) (d := some 38) (v := .bool true) rfl (by kernel_rfl) (by kernel_rfl) (by kernel_rfl) (by kernel_rfl) (fun _ _ _ h => h) (Or.inl ⟨by rfl, by intro w hSw; go_simp⟩) hHeld ?_
            simp only [Act.put, List.setIfInBounds_toArray, List.set_cons_zero, List.set_cons_succ]
            refine take (i := 14) (d := some 39) (v := .bool true) rfl (by kernel_rfl) (by kernel_rfl) (by kernel_rfl) (by kernel_rfl) (fun _ _ _ h => h) (Or.inl ⟨by rfl, by intro w hSw; go_simp⟩) hHeld ?_
            simp only [Act.put, List.setIfInBounds_toArray, List.set_cons_zero, List.set_cons_succ]
            refine wpAnyH_done (by kernel_rfl) ?_ _
            go_wp2
            all_goals exact bodyPost_ret (v := .tuple #[.slice none 0 0, .bool false]) (by simp [results, Try.results141, go_sem]) rfl ⟨hb2, fun _ => rfl, fun h => (by rw [hB] at h; cases h)⟩
        · have hne : (0 == x1) = false := by simpa using fun h : 0 = x1 => h0 h.symm
          go_wp2_with (go_at_call 153; rw [← hW0]; refine (kind_any (4, x1, x2) _).mono ?_; rintro e w1 ⟨rfl, hb⟩; rw [show actV (4, x1, x2) = .iface 169 (.agg #[]) from rfl]; replace hrow := hrow.of_block (hb.block _ hlw); replace kA := (hb.block _ zA).trans kA; replace hbel := Rw.next hbel hb; have g0 := hrow.cell hlt; have g1 := hrow.frozen k)
          obtain ⟨W2, hW2⟩ : ∃ W2, W2 = w1.setCell ⟨w.heap.size, k, none⟩ (.iface 169 (.agg #[])) := ⟨_, rfl⟩
          rw [← hW2]
          have q0 : W2.cell? ⟨w.heap.size, k, none⟩ = some (.iface 169 (.agg #[])) := by subst hW2; exact World.cell?_setCell_same _ _ _ g0
          have kA2 : W2.heap[wr.heap.size]? = some (.cells #[.int .i64 4, .int .i64 x1, .int .i64 x2] 147 (0, 0)) := by subst hW2; exact (Below.heap_setCell _ _ _ _ (fun h => hlt2 h.symm)).trans kA
          have hrow2 : W2.rowIs w.heap.size 158 n (row l (k + 1)) := by subst hW2; have := row_step hrow; rw [HX.out] at this; exact this
          have hb2 : Below w.heap.size w W2 := by subst hW2; exact hbel.setCell (by simp) _
          clear hW2 hrow g0 g1 hbel kA
          have hB := actsB_no (l := l) (k := k) (by have := HN.out; omega) (by rw [HX.out]; simp [actB, h0])
          refine wp_region_held_drew (S := (fun w' => w'.cell? ⟨w.heap.size, k, none⟩ = some (.iface 169 (.agg #[])) ∧ w'.heap[wr.heap.size]? = some (.cells #[.int .i64 4, .int .i64 x1, .int .i64 x2] 147 (0, 0)))) (by kernel_rfl) ⟨q0, kA2⟩ (fun hHeld => ?_)
          refine take (i := 0) (d := some 25) (v := .slice (some ⟨w.heap.size, 0, none⟩) n n) rfl (by kernel_rfl) (by kernel_rfl) (by kernel_rfl) (by kernel_rfl) (fun _ _ _ h => h) (Or.inl ⟨by rfl, by intro w hSw; go_simp⟩) hHeld ?_
          simp only [Act.put, List.setIfInBounds_toArray, List.set_cons_zero, List.set_cons_succ]
          refine take (i := 1) (d := some 26) (v := .int .i64 k) rfl (by kernel_rfl) (by kernel_rfl) (by kernel_rfl) (by kernel_rfl) (fun _ _ _ h => h) (Or.inl ⟨by rfl, by intro w hSw; go_simp⟩) hHeld ?_
          simp only [Act.put, List.setIfInBounds_toArray, List.set_cons_zero, List.set_cons_succ]
          refine take (i := 2) (d := some 27) (v := .pointer (some ⟨w.heap.size, k, none⟩)) rfl (by kernel_rfl) (by kernel_rfl) (by kernel_rfl) (by kernel_rfl) (fun _ _ _ h => h) (Or.inl ⟨by rfl, by intro w hSw; go_simp⟩) hHeld ?_
          simp only [Act.put, List.setIfInBounds_toArray, List.set_cons_zero, List.set_cons_succ]
          refine take (i := 3) (d := some 28) (v := .iface 169 (.agg #[])) rfl (by kernel_rfl) (by kernel_rfl) (by kernel_rfl) (by kernel_rfl) (fun _ _ _ h => h) (Or.inl ⟨by rfl, by intro w hSw; have q1 := hSw.1; go_simp⟩) hHeld ?_
          simp only [Act.put, List.setIfInBounds_toArray, List.set_cons_zero, List.set_cons_succ]
          refine wpAnyH_ready (rs := [4]) (by kernel_rfl) (by simp) (Rg.call1 rfl (by kernel_rfl) 154 (.tmp 28) 158 (by kernel_rfl) 29 (by kernel_rfl) (.iface 169 (.agg #[])) (by kernel_rfl) (fun _ => rfl) (right4 _) ?_ AllReadyH.nil)
          rintro e w3 ⟨rfl, hb3⟩
          replace hb3 := Rw.next (Below.drew (Below.refl _ W2)) hb3
          replace q0 := (hb3.cell (World.block_lt_of_cell? _ _ q0)).trans q0
          replace kA2 := (hb3.block _ (Array.getElem?_eq_some_iff.1 kA2).1).trans kA2
          replace hrow2 := hrow2.of_block (hb3.block _ hrow2.lt)
          replace hb2 := Rw.next hb2 hb3
          clear hb3
          refine ⟨_, rfl, ⟨q0, kA2⟩, fun hHeld => ?_⟩
          simp only [Act.put, List.setIfInBounds_toArray, List.set_cons_zero, List.set_cons_succ]
          refine take (i := 5) (d := some 30) (v := .bool false) rfl (by kernel_rfl) (by kernel_rfl) (by kernel_rfl) (by kernel_rfl) (fun _ _ _ h => h) (Or.inl ⟨by rfl, by intro w hSw; go_simp⟩) hHeld ?_
          simp only [Act.put, List.setIfInBounds_toArray, List.set_cons_zero, List.set_cons_succ]
          refine take (i := 6) (d := some 31) (v := .bool false) rfl (by kernel_rfl) (by kernel_rfl) (by kernel_rfl) (by kernel_rfl) (fun _ _ _ h => h) (Or.inl ⟨by rfl, by intro w hSw; go_simp⟩) hHeld ?_
          simp only [Act.put, List.setIfInBounds_toArray, List.set_cons_zero, List.set_cons_succ]
          refine take (i := 7) (d := some 32) (v := .slice (some ⟨w.heap.size, 0, none⟩) n n) rfl (by kernel_rfl) (by kernel_rfl) (by kernel_rfl) (by kernel_rfl) (fun _ _ _ h => h) (Or.inl ⟨by rfl, by intro w hSw; go_simp⟩) hHeld ?_
          simp only [Act.put, List.setIfInBounds_toArray, List.set_cons_zero, List.set_cons_succ]
          refine take (i := 8) (d := some 33) (v := .int .i64 k) rfl (by kernel_rfl) (by kernel_rfl) (by kernel_rfl) (by kernel_rfl) (fun _ _ _ h => h) (Or.inl ⟨by rfl, by intro w hSw; go_simp⟩) hHeld ?_
          simp only [Act.put, List.setIfInBounds_toArray, List.set_cons_zero, List.set_cons_succ]
          refine take (i := 9) (d := some 34) (v := .pointer (some ⟨w.heap.size, k, none⟩)) rfl (by kernel_rfl) (by kernel_rfl) (by kernel_rfl) (by kernel_rfl) (fun _ _ _ h => h) (Or.inl ⟨by rfl, by intro w hSw; go_simp⟩) hHeld ?_
          simp only [Act.put, List.setIfInBounds_toArray, List.set_cons_zero, List.set_cons_succ]
          refine take (i := 10) (d := some 35) (v := .iface 169 (.agg #[])) rfl (by kernel_rfl) (by kernel_rfl) (by kernel_rfl) (by kernel_rfl) (fun _ _ _ h => h) (Or.inl ⟨by rfl, by intro w hSw; have q1 := hSw.1; go_simp⟩) hHeld ?_
          simp only [Act.put, List.setIfInBounds_toArray, List.set_cons_zero, List.set_cons_succ]
          refine take (i := 12) (d := some 37) (v := .agg #[.int .i64 4, .int .i64 x1, .int .i64 x2]) rfl (by kernel_rfl) (by kernel_rfl) (by kernel_rfl) (by kernel_rfl) (fun _ _ _ h => h) (Or.inl ⟨by rfl, by intro w hSw; have q2 := hSw.2; have d0 := three0 q2; have d1 := three1 q2; have d2 := three2 q2; go_simp⟩) hHeld ?_
          simp only [Act.put, List.setIfInBounds_toArray, List.set_cons_zero, List.set_cons_succ]
          refine wpAnyH_ready (rs := [11]) (by kernel_rfl) (by simp) (Yf.callI rfl (by kernel_rfl) 179 (.tmp 35) rfl 36 (by kernel_rfl) (.iface 169 (.agg #[])) (.agg #[]) (by kernel_rfl) (fun w => by kernel_rfl) (act4 _) ?_ AllReadyH.nil)
          rintro e w4 ⟨rfl, hb4⟩
          replace q0 := (hb4.cell (World.block_lt_of_cell? _ _ q0)).trans q0
          replace kA2 := (hb4.block _ (Array.getElem?_eq_some_iff.1 kA2).1).trans kA2
          replace hrow2 := hrow2.of_block (hb4.block _ hrow2.lt)
          replace hb2 := Rw.next hb2 hb4
          clear hb4
          refine ⟨_, rfl, ⟨q0, kA2⟩, fun hHeld => ?_⟩
          simp only [Act.put, List.setIfInBounds_toArray, List.set_cons_zero, List.set_cons_succ]
          refine take (i := 13) (d := some 38) (v := .bool true) rfl (by kernel_rfl) (by kernel_rfl) (by kernel_rfl) (by kernel_rfl) (fun _ _ _ h => h) (Or.inl ⟨by rfl, by intro w hSw; go_simp⟩) hHeld ?_
          simp only [Act.put, List.setIfInBounds_toArray, List.set_cons_zero, List.set_cons_succ]
          refine take (i := 14) (d := some 39) (v := .bool true) rfl (by kernel_rfl) (by kernel_rfl) (by kernel_rfl) (by kernel_rfl) (fun _ _ _ h => h) (Or.inl ⟨by rfl, by intro w hSw; go_simp⟩) hHeld ?_
          simp only [Act.put, List.setIfInBounds_toArray, List.set_cons_zero, List.set_cons_succ]
          refine wpAnyH_done (by kernel_rfl) ?_ _
          go_wp2
          all_goals exact bodyPost_ret (v := .tuple #[.slice none 0 0, .bool false]) (by simp [results, Try.results141, go_sem]) rfl ⟨hb2, fun _ => rfl, fun h => (by rw [hB] at h; cases h)⟩
      by_cases k5 : x0 = 5
      · subst k5
        by_cases h0 : x1 = 0
        · subst h0
          by_cases h1 : x2 = 0
          · subst h1
            go_wp2_with (go_at_call 153; rw [← hW0]; refine (kind_any (5, 0, 0) _).mono ?_; rintro e w1 ⟨rfl, hb⟩; rw [show actV (5, 0, 0) = .iface 170 (.agg #[]) from rfl]; replace hrow := hrow.of_block (hb.block _ hlw); replace kA := (hb.block _ zA).trans kA; replace hbel := Rw.next hbel hb; have g0 := hrow.cell hlt; have g1 := hrow.frozen k)
            obtain ⟨W2, hW2⟩ : ∃ W2, W2 = w1.setCell ⟨w.heap.size, k, none⟩ (.iface 170 (.agg #[])) := ⟨_, rfl⟩
            rw [← hW2]
            have q0 : W2.cell? ⟨w.heap.size, k, none⟩ = some (.iface 170 (.agg #[])) := by subst hW2; exact World.cell?_setCell_same _ _ _ g0
            have kA2 : W2.heap[wr.heap.size]? = some (.cells #[.int .i64 5, .int .i64 0, .int .i64 0] 147 (0, 0)) := by subst hW2; exact (Below.heap_setCell _ _ _ _ (fun h => hlt2 h.symm)).trans kA
            have hrow2 : W2.rowIs w.heap.size 158 n (row l (k + 1)) := by subst hW2; have := row_step hrow; rw [HX.out] at this; exact this
            have hb2 : Below w.heap.size w W2 := by subst hW2; exact hbel.setCell (by simp) _
            clear hW2 hrow g0 g1 hbel kA
            have hB := pre_step HP.out (by rw [HX.out]; simp [actB])
            refine wp_region_held_drew (S := (fun w' => w'.cell? ⟨w.heap.size, k, none⟩ = some (.iface 170 (.agg #[])) ∧ w'.heap[wr.heap.size]? = some (.cells #[.int .i64 5, .int .i64 0, .int .i64 0] 147 (0, 0)))) (by kernel_rfl) ⟨q0, kA2⟩ (fun hHeld => ?_)
            refine take (i := 0) (d := some 25) (v := .slice (some ⟨w.heap.size, 0, none⟩) n n) rfl (by kernel_rfl) (by kernel_rfl) (by kernel_rfl) (by kernel_rfl) (fun _ _ _ h => h) (Or.inl ⟨by rfl, by intro w hSw; go_simp⟩) hHeld ?_
            simp only [Act.put, List.setIfInBounds_toArray, List.set_cons_zero, List.set_cons_succ]
            refine take (i := 1) (d := some 26) (v := .int .i64 k) rfl (by kernel_rfl) (by kernel_rfl) (by kernel_rfl) (by kernel_rfl) (fun _ _ _ h => h) (Or.inl ⟨by rfl, by intro w hSw; go_simp⟩) hHeld ?_
            simp only [Act.put, List.setIfInBounds_toArray, List.set_cons_zero, List.set_cons_succ]
            refine take (i := 2) (d := some 27) (v := .pointer (some ⟨w.heap.size, k, none⟩)) rfl (by kernel_rfl) (by kernel_rfl) (by kernel_rfl) (by kernel_rfl) (fun _ _ _ h => h) (Or.inl ⟨by rfl, by intro w hSw; go_simp⟩) hHeld ?_
            simp only [Act.put, List.setIfInBounds_toArray, List.set_cons_zero, List.set_cons_succ]
            refine take (i := 3) (d := some 28) (v := .iface 170 (.agg #[])) rfl (by kernel_rfl) (by kernel_rfl) (by kernel_rfl) (by kernel_rfl) (fun _ _ _ h => h) (Or.inl ⟨by rfl, by intro w hSw; have q1 := hSw.1; go_simp⟩) hHeld ?_
            simp only [Act.put, List.setIfInBounds_toArray, List.set_cons_zero, List.set_cons_succ]
            refine wpAnyH_ready (rs := [4]) (by kernel_rfl) (by simp) (Rg.call1 rfl (by kernel_rfl) 154 (.tmp 28) 158 (by kernel_rfl) 29 (by kernel_rfl) (.iface 170 (.agg #[])) (by kernel_rfl) (fun _ => rfl) (right5 _) ?_ AllReadyH.nil)
            rintro e w3 ⟨rfl, hb3⟩
            replace hb3 := Rw.next (Below.drew (Below.refl _ W2)) hb3
            replace q0 := (hb3.cell (World.block_lt_of_cell? _ _ q0)).trans q0
            replace kA2 := (hb3.block _ (Array.getElem?_eq_some_iff.1 kA2).1).trans kA2
            replace hrow2 := hrow2.of_block (hb3.block _ hrow2.lt)
            replace hb2 := Rw.next hb2 hb3
            clear hb3
            refine ⟨_, rfl, ⟨q0, kA2⟩, fun hHeld => ?_⟩
            simp only [Act.put, List.setIfInBounds_toArray, List.set_cons_zero, List.set_cons_succ]
            refine take (i := 5) (d := some 30) (v := .bool false) rfl (by kernel_rfl) (by kernel_rfl) (by kernel_rfl) (by kernel_rfl) (fun _ _ _ h => h) (Or.inl ⟨by rfl, by intro w hSw; go_simp⟩) hHeld ?_
            simp only [Act.put, List.setIfInBounds_toArray, List.set_cons_zero, List.set_cons_succ]
            refine take (i := 6) (d := some 31) (v := .bool false) rfl (by kernel_rfl) (by kernel_rfl) (by kernel_rfl) (by kernel_rfl) (fun _ _ _ h => h) (Or.inl ⟨by rfl, by intro w hSw; go_simp⟩) hHeld ?_
            simp only [Act.put, List.setIfInBounds_toArray, List.set_cons_zero, List.set_cons_succ]
            refine take (i := 7) (d := some 32) (v := .slice (some ⟨w.heap.size, 0, none⟩) n n) rfl (by kernel_rfl) (by kernel_rfl) (by kernel_rfl) (by kernel_rfl) (fun _ _ _ h => h) (Or.inl ⟨by rfl, by intro w hSw; go_simp⟩) hHeld ?_
            simp only [Act.put, List.setIfInBounds_toArray, List.set_cons_zero, List.set_cons_succ]
            refine take (i := 8) (d := some 33) (v := .int .i64 k) rfl (by kernel_rfl) (by kernel_rfl) (by kernel_rfl) (by kernel_rfl) (fun _ _ _ h => h) (Or.inl ⟨by rfl, by intro w hSw; go_simp⟩) hHeld ?_
            simp only [Act.put, List.setIfInBounds_toArray, List.set_cons_zero, List.set_cons_succ]
            refine take (i := 9) (d := some 34) (v := .pointer (some ⟨w.heap.size, k, none⟩)) rfl (by kernel_rfl) (by kernel_rfl) (by kernel_rfl) (by kernel_rfl) (fun _ _ _ h => h) (Or.inl ⟨by rfl, by intro w hSw; go_simp⟩) hHeld ?_
            simp only [Act.put, List.setIfInBounds_toArray, List.set_cons_zero, List.set_cons_succ]
            refine take (i := 10) (d := some 35) (v := .iface 170 (.agg #[])) rfl (by kernel_rfl) (by kernel_rfl) (by kernel_rfl) (by kernel_rfl) (fun _ _ _ h => h) (Or.inl ⟨by rfl, by intro w hSw; have q1 := hSw.1; go_simp⟩) hHeld ?_
            simp only [Act.put, List.setIfInBounds_toArray, List.set_cons_zero, List.set_cons_succ]
            refine take (i := 12) (d := some 37) (v := .agg #[.int .i64 5, .int .i64 0, .int .i64 0]) rfl (by kernel_rfl) (by kernel_rfl) (by kernel_rfl) (by kernel_rfl) (fun _ _ _ h => h) (Or.inl ⟨by rfl, by intro w hSw; have q2 := hSw.2; have d0 := three0 q2; have d1 := three1 q2; have d2 := three2 q2; go_simp⟩) hHeld ?_
            simp only [Act.put, List.setIfInBounds_toArray, List.set_cons_zero, List.set_cons_succ]
            refine wpAnyH_ready (rs := [11]) (by kernel_rfl) (by simp) (Yf.callI rfl (by kernel_rfl) 180 (.tmp 35) rfl 36 (by kernel_rfl) (.iface 170 (.agg #[])) (.agg #[]) (by kernel_rfl) (fun w => by kernel_rfl) (act5 _) ?_ AllReadyH.nil)
            rintro e w4 ⟨rfl, hb4⟩
            replace q0 := (hb4.cell (World.block_lt_of_cell? _ _ q0)).trans q0
            replace kA2 := (hb4.block _ (Array.getElem?_eq_some_iff.1 kA2).1).trans kA2
            replace hrow2 := hrow2.of_block (hb4.block _ hrow2.lt)
            replace hb2 := Rw.next hb2 hb4
            clear hb4
            refine ⟨_, rfl, ⟨q0, kA2⟩, fun hHeld => ?_⟩
            simp only [Act.put, List.setIfInBounds_toArray, List.set_cons_zero, List.set_cons_succ]
            refine take (i := 13) (d := some 38) (v := .bool false) rfl (by kernel_rfl) (by kernel_rfl) (by kernel_rfl) (by kernel_rfl) (fun _ _ _ h => h) (Or.inl ⟨by rfl, by intro w hSw; go_simp⟩) hHeld ?_
            simp only [Act.put, List.setIfInBounds_toArray, List.set_cons_zero, List.set_cons_succ]
            refine take (i := 14) (d := some 39) (v := .bool false) rfl (by kernel_rfl) (by kernel_rfl) (by kernel_rfl) (by kernel_rfl) (fun _ _ _ h => h) (Or.inl ⟨by rfl, by intro w hSw; go_simp⟩) hHeld ?_
            simp only [Act.put, List.setIfInBounds_toArray, List.set_cons_zero, List.set_cons_succ]
            refine wpAnyH_done (by kernel_rfl) ?_ _
            go_wp2
            all_goals go_roundw
            all_goals first | exact ⟨k + 1, by omega, by go_num, hb2, hrow2, hB⟩ | (simp [intOf]; omega)
          · have hne : (0 == x2) = false := by simpa using fun h : 0 = x2 => h1 h.symm
            go_wp2_with (go_at_call 153; rw [← hW0]; refine (kind_any (5, 0, x2) _).mono ?_; rintro e w1 ⟨rfl, hb⟩; rw [show actV (5, 0, x2) = .iface 170 (.agg #[]) from rfl]; replace hrow := hrow.of_block (hb.block _ hlw); replace kA := (hb.block _ zA).trans kA; replace hbel := Rw.next hbel hb; have g0 := hrow.cell hlt; have g1 := hrow.frozen k)
            obtain ⟨W2, hW2⟩ : ∃ W2, W2 = w1.setCell ⟨w.heap.size, k, none⟩ (.iface 170 (.agg #[])) := ⟨_, rfl⟩
            rw [← hW2]
            have q0 : W2.cell? ⟨w.heap.size, k, none⟩ = some (.iface 170 (.agg #[])) := by subst hW2; exact World.cell?_setCell_same _ _ _ g0
            have kA2 : W2.heap[wr.heap.size]? = some (.cells #[.int .i64 5, .int .i64 0, .int .i64 x2] 147 (0, 0)) := by subst hW2; exact (Below.heap_setCell _ _ _ _ (fun h => hlt2 h.symm)).trans kA
            have hrow2 : W2.rowIs w.heap.size 158 n (row l (k + 1)) := by subst hW2; have := row_step hrow; rw [HX.out] at this; exact this
            have hb2 : Below w.heap.size w W2 := by subst hW2; exact hbel.setCell (by simp) _
            clear hW2 hrow g0 g1 hbel kA
            have hB := actsB_no (l := l) (k := k) (by have := HN.out; omega) (by rw [HX.out]; simp [actB, h1])
            refine wp_region_held_drew (S := (fun w' => w'.cell? ⟨w.heap.size, k, none⟩ = some (.iface 170 (.agg #[])) ∧ w'.heap[wr.heap.size]? = some (.cells #[.int .i64 5, .int .i64 0, .int .i64 x2] 147 (0, 0)))) (by kernel_rfl) ⟨q0, kA2⟩ (fun hHeld => ?_)
            refine take (i := 0) (d := some 25) (v := .slice (some ⟨w.heap.size, 0, none⟩) n n) rfl (by kernel_rfl) (by kernel_rfl) (by kernel_rfl) (by kernel_rfl) (fun _ _ _ h => h) (Or.inl ⟨by rfl, by intro w hSw; go_simp⟩) hHeld ?_
            simp only [Act.put, List.setIfInBounds_toArray, List.set_cons_zero, List.set_cons_succ]
            refine take (i := 1) (d := some 26) (v := .int .i64 k) rfl (by kernel_rfl) (by kernel_rfl) (by kernel_rfl) (by kernel_rfl) (fun _ _ _ h => h) (Or.inl ⟨by rfl, by intro w hSw; go_simp⟩) hHeld ?_
            simp only [Act.put, List.setIfInBounds_toArray, List.set_cons_zero, List.set_cons_succ]
            refine take (i := 2) (d := some 27) (v := .pointer (some ⟨w.heap.size, k, none⟩)) rfl (by kernel_rfl) (by kernel_rfl) (by kernel_rfl) (by kernel_rfl) (fun _ _ _ h => h) (Or.inl ⟨by rfl, by intro w hSw; go_simp⟩) hHeld ?_
            simp only [Act.put, List.setIfInBounds_toArray, List.set_cons_zero, List.set_cons_succ]
            refine take (i := 3) (d := some 28) (v := .iface 170 (.agg #[])) rfl (by kernel_rfl) (by kernel_rfl) (by kernel_rfl) (by kernel_rfl) (fun _ _ _ h => h) (Or.inl ⟨by rfl, by intro w hSw; have q1 := hSw.1; go_simp⟩) hHeld ?_
            simp only [Act.put, List.setIfInBounds_toArray, List.set_cons_zero, List.set_cons_succ]
            refine wpAnyH_ready (rs := [4]) (by kernel_rfl) (by simp) (Rg.call1 rfl (by kernel_rfl) 154 (.tmp 28) 158 (by kernel_rfl) 29 (by kernel_rfl) (.iface 170 (.agg #[])) (by kernel_rfl) (fun _ => rfl) (right5 _) ?_ AllReadyH.nil)
            rintro e w3 ⟨rfl, hb3⟩
            replace hb3 := Rw.next (Below.drew (Below.refl _ W2)) hb3
            replace q0 := (hb3.cell (World.block_lt_of_cell? _ _ q0)).trans q0
            replace kA2 := (hb3.block _ (Array.getElem?_eq_some_iff.1 kA2).1).trans kA2
            replace hrow2 := hrow2.of_block (hb3.block _ hrow2.lt)
            replace hb2 := Rw.next hb2 hb3
            clear hb3
            refine ⟨_, rfl, ⟨q0, kA2⟩, fun hHeld => ?_⟩
            simp only [Act.put, List.setIfInBounds_toArray, List.set_cons_zero, List.set_cons_succ]
            refine take (i := 5) (d := some 30) (v := .bool false) rfl (by kernel_rfl) (by kernel_rfl) (by kernel_rfl) (by kernel_rfl) (fun _ _ _ h => h) (Or.inl ⟨by rfl, by intro w hSw; go_simp⟩) hHeld ?_
            simp only [Act.put, List.setIfInBounds_toArray, List.set_cons_zero, List.set_cons_succ]
            refine take (i := 6) (d := some 31) (v := .bool false) rfl (by kernel_rfl) (by kernel_rfl) (by kernel_rfl) (by kernel_rfl) (fun _ _ _ h => h) (Or.inl ⟨by rfl, by intro w hSw; go_simp⟩) hHeld ?_
            simp only [Act.put, List.setIfInBounds_toArray, List.set_cons_zero, List.set_cons_succ]
            refine take (i := 7) (d := some 32) (v := .slice (some ⟨w.heap.size, 0, none⟩) n n) rfl (by kernel_rfl) (by kernel_rfl) (by kernel_rfl) (by kernel_rfl) (fun _ _ _ h => h) (Or.inl ⟨by rfl, by intro w hSw; go_simp⟩) hHeld ?_
            simp only [Act.put, List.setIfInBounds_toArray, List.set_cons_zero, List.set_cons_succ]
            refine take (i := 8) (d := some 33) (v := .int .i64 k) rfl (by kernel_rfl) (by kernel_rfl) (by kernel_rfl) (by kernel_rfl) (fun _ _ _ h => h) (Or.inl ⟨by rfl, by intro w hSw; go_simp⟩) hHeld ?_
            simp only [Act.put, List.setIfInBounds_toArray, List.set_cons_zero, List.set_cons_succ]
            refine take (i := 9) (d := some 34) (v := .pointer (some ⟨w.heap.size, k, none⟩)) rfl (by kernel_rfl) (by kernel_rfl) (by kernel_rfl) (by kernel_rfl) (fun _ _ _ h => h) (Or.inl ⟨by rfl, by intro w hSw; go_simp⟩) hHeld ?_
            simp only [Act.put, List.setIfInBounds_toArray, List.set_cons_zero, List.set_cons_succ]
            refine take (i := 10) (d := some 35) (v := .iface 170 (.agg #[])) rfl (by kernel_rfl) (by kernel_rfl) (by kernel_rfl) (by kernel_rfl) (fun _ _ _ h => h) (Or.inl ⟨by rfl, by intro w hSw; have q1 := hSw.1; go_simp⟩) hHeld ?_
            simp only [Act.put, List.setIfInBounds_toArray, List.set_cons_zero, List.set_cons_succ]
            refine take (i := 12) (d := some 37) (v := .agg #[.int .i64 5, .int .i64 0, .int .i64 x2]) rfl (by kernel_rfl) (by kernel_rfl) (by kernel_rfl) (by kernel_rfl) (fun _ _ _ h => h) (Or.inl ⟨by rfl, by intro w hSw; have q2 := hSw.2; have d0 := three0 q2; have d1 := three1 q2; have d2 := three2 q2; go_simp⟩) hHeld ?_
            simp only [Act.put, List.setIfInBounds_toArray, List.set_cons_zero, List.set_cons_succ]
            refine wpAnyH_ready (rs := [11]) (by kernel_rfl) (by simp) (Yf.callI rfl (by kernel_rfl) 180 (.tmp 35) rfl 36 (by kernel_rfl) (.iface 170 (.agg #[])) (.agg #[]) (by kernel_rfl) (fun w => by kernel_rfl) (act5 _) ?_ AllReadyH.nil)
            rintro e w4 ⟨rfl, hb4⟩
            replace q0 := (hb4.cell (World.block_lt_of_cell? _ _ q0)).trans q0
            replace kA2 := (hb4.block _ (Array.getElem?_eq_some_iff.1 kA2).1).trans kA2
            replace hrow2 := hrow2.of_block (hb4.block _ hrow2.lt)
            replace hb2 := Rw.next hb2 hb4
            clear hb4
            refine ⟨_, rfl, ⟨q0, kA2⟩, fun hHeld => ?_⟩
            simp only [Act.put, List.setIfInBounds_toArray, List.set_cons_zero, List.set_cons_succ]
            refine take (i := 13) (d := some 38) (v := .bool true) rfl (by kernel_rfl) (by kernel_rfl) (by kernel_rfl) (by kernel_rfl) (fun _ _ _ h => h) (Or.inl ⟨by rfl, by intro w hSw; go_simp⟩) hHeld ?_
            simp only [Act.put, List.setIfInBounds_toArray, List.set_cons_zero, List.set_cons_succ]
            refine take (i := 14) (d := some 39) (v := .bool true) rfl (by kernel_rfl) (by kernel_rfl) (by kernel_rfl) (by kernel_rfl) (fun _ _ _ h => h) (Or.inl ⟨by rfl, by intro w hSw; go_simp⟩) hHeld ?_
            simp only [Act.put, List.setIfInBounds_toArray, List.set_cons_zero, List.set_cons_succ]
            refine wpAnyH_done (by kernel_rfl) ?_ _
            go_wp2
            all_goals exact bodyPost_ret (v := .tuple #[.slice none 0 0, .bool false]) (by simp [results, Try.results141, go_sem]) rfl ⟨hb2, fun _ => rfl, fun h => (by rw [hB] at h; cases h)⟩
        · have hne : (0 == x1) = false := by simpa using fun h : 0 = x1 => h0 h.symm
          go_wp2_with (go_at_call 153; rw [← hW0]; refine (kind_any (5, x1, x2) _).mono ?_; rintro e w1 ⟨rfl, hb⟩; rw [show actV (5, x1, x2) = .iface 170 (.agg #[]) from rfl]; replace hrow := hrow.of_block (hb.block _ hlw); replace kA := (hb.block _ zA).trans kA; replace hbel := Rw.next hbel hb; have g0 := hrow.cell hlt; have g1 := hrow.frozen k)
          obtain ⟨W2, hW2⟩ : ∃ W2, W2 = w1.setCell ⟨w.heap.size, k, none⟩ (.iface 170 (.agg #[])) := ⟨_, rfl⟩
          rw [← hW2]
          have q0 : W2.cell? ⟨w.heap.size, k, none⟩ = some (.iface 170 (.agg #[])) := by subst hW2; exact World.cell?_setCell_same _ _ _ g0
          have kA2 : W2.heap[wr.heap.size]? = some (.cells #[.int .i64 5, .int .i64 x1, .int .i64 x2] 147 (0, 0)) := by subst hW2; exact (Below.heap_setCell _ _ _ _ (fun h => hlt2 h.symm)).trans kA
          have hrow2 : W2.rowIs w.heap.size 158 n (row l (k + 1)) := by subst hW2; have := row_step hrow; rw [HX.out] at this; exact this
          have hb2 : Below w.heap.size w W2 := by subst hW2; exact hbel.setCell (by simp) _
          clear hW2 hrow g0 g1 hbel kA
          have hB := actsB_no (l := l) (k := k) (by have := HN.out; omega) (by rw [HX.out]; simp [actB, h0])
          refine wp_region_held_drew (S := (fun w' => w'.cell? ⟨w.heap.size, k, none⟩ = some (.iface 170 (.agg #[])) ∧ w'.heap[wr.heap.size]? = some (.cells #[.int .i64 5, .int .i64 x1, .int .i64 x2] 147 (0, 0)))) (by kernel_rfl) ⟨q0, kA2⟩ (fun hHeld => ?_)
          refine take (i := 0) (d := some 25) (v := .slice (some ⟨w.heap.size, 0, none⟩) n n) rfl (by kernel_rfl) (by kernel_rfl) (by kernel_rfl) (by kernel_rfl) (fun _ _ _ h => h) (Or.inl ⟨by rfl, by intro w hSw; go_simp⟩) hHeld ?_
          simp only [Act.put, List.setIfInBounds_toArray, List.set_cons_zero, List.set_cons_succ]
          refine take (i := 1) (d := some 26) (v := .int .i64 k) rfl (by kernel_rfl) (by kernel_rfl) (by kernel_rfl) (by kernel_rfl) (fun _ _ _ h => h) (Or.inl ⟨by rfl, by intro w hSw; go_simp⟩) hHeld ?_
          simp only [Act.put, List.setIfInBounds_toArray, List.set_cons_zero, List.set_cons_succ]
          refine take (i := 2) (d := some 27) (v := .pointer (some ⟨w.heap.size, k, none⟩)) rfl (by kernel_rfl) (by kernel_rfl) (by kernel_rfl) (by kernel_rfl) (fun _ _ _ h => h) (Or.inl ⟨by rfl, by intro w hSw; go_simp⟩) hHeld ?_
          simp only [Act.put, List.setIfInBounds_toArray, List.set_cons_zero, List.set_cons_succ]
          refine take (i := 3) (d := some 28) (v := .iface 170 (.agg #[])) rfl (by kernel_rfl) (by kernel_rfl) (by kernel_rfl) (by kernel_rfl) (fun _ _ _ h => h) (Or.inl ⟨by rfl, by intro w hSw; have q1 := hSw.1; go_simp⟩) hHeld ?_
          simp only [Act.put, List.setIfInBounds_toArray, List.set_cons_zero, List.set_cons_succ]
          refine wpAnyH_ready (rs := [4]) (by kernel_rfl) (by simp) (Rg.call1 rfl (by kernel_rfl) 154 (.tmp 28) 158 (by kernel_rfl) 29 (by kernel_rfl) (.iface 170 (.agg #[])) (by kernel_rfl) (fun _ => rfl) (right5 _) ?_ AllReadyH.nil)
          rintro e w3 ⟨rfl, hb3⟩
          replace hb3 := Rw.next (Below.drew (Below.refl _ W2)) hb3
          replace q0 := (hb3.cell (World.block_lt_of_cell? _ _ q0)).trans q0
          replace kA2 := (hb3.block _ (Array.getElem?_eq_some_iff.1 kA2).1).trans kA2
          replace hrow2 := hrow2.of_block (hb3.block _ hrow2.lt)
          replace hb2 := Rw.next hb2 hb3
          clear hb3
          refine ⟨_, rfl, ⟨q0, kA2⟩, fun hHeld => ?_⟩
          simp only [Act.put, List.setIfInBounds_toArray, List.set_cons_zero, List.set_cons_succ]
          refine take (i := 5) (d := some 30) (v := .bool false) rfl (by kernel_rfl) (by kernel_rfl) (by kernel_rfl) (by kernel_rfl) (fun _ _ _ h => h) (Or.inl ⟨by rfl, by intro w hSw; go_simp⟩) hHeld ?_
          simp only [Act.put, List.setIfInBounds_toArray, List.set_cons_zero, List.set_cons_succ]
          refine take (i := 6) (d := some 31) (v := .bool false) rfl (by kernel_rfl) (by kernel_rfl) (by kernel_rfl) (by kernel_rfl) (fun _ _ _ h => h) (Or.inl ⟨by rfl, by intro w hSw; go_simp⟩) hHeld ?_
          simp only [Act.put, List.setIfInBounds_toArray, List.set_cons_zero, List.set_cons_succ]
          refine take (i := 7) (d := some 32) (v := .slice (some ⟨w.heap.size, 0, none⟩) n n) rfl (by kernel_rfl) (by kernel_rfl) (by kernel_rfl) (by kernel_rfl) (fun _ _ _ h => h) (Or.inl ⟨by rfl, by intro w hSw; go_simp⟩) hHeld ?_
          simp only [Act.put, List.setIfInBounds_toArray, List.set_cons_zero, List.set_cons_succ]
          refine take (i := 8) (d := some 33) (v := .int .i64 k) rfl (by kernel_rfl) (by kernel_rfl) (by kernel_rfl) (by kernel_rfl) (fun _ _ _ h => h) (Or.inl ⟨by rfl, by intro w hSw; go_simp⟩) hHeld ?_
          simp only [Act.put, List.setIfInBounds_toArray, List.set_cons_zero, List.set_cons_succ]
          refine take (i := 9) (d := some 34) (v := .pointer (some ⟨w.heap.size, k, none⟩)) rfl (by kernel_rfl) (by kernel_rfl) (by kernel_rfl) (by kernel_rfl) (fun _ _ _ h => h) (Or.inl ⟨by rfl, by intro w hSw; go_simp⟩) hHeld ?_
          simp only [Act.put, List.setIfInBounds_toArray, List.set_cons_zero, List.set_cons_succ]
          refine take (i := 10) (d := some 35) (v := .iface 170 (.agg #[])) rfl (by kernel_rfl) (by kernel_rfl) (by kernel_rfl) (by kernel_rfl) (fun _ _ _ h => h) (Or.inl ⟨by rfl, by intro w hSw; have q1 := hSw.1; go_simp⟩) hHeld ?_
          simp only [Act.put, List.setIfInBounds_toArray, List.set_cons_zero, List.set_cons_succ]
          refine take (i := 12) (d := some 37) (v := .agg #[.int .i64 5, .int .i64 x1, .int .i64 x2]) rfl (by kernel_rfl) (by kernel_rfl) (by kernel_rfl) (by kernel_rfl) (fun _ _ _ h => h) (Or.inl ⟨by rfl, by intro w hSw; have q2 := hSw.2; have d0 := three0 q2; have d1 := three1 q2; have d2 := three2 q2; go_simp⟩) hHeld ?_
          simp only [Act.put, List.setIfInBounds_toArray, List.set_cons_zero, List.set_cons_succ]
          refine wpAnyH_ready (rs := [11]) (by kernel_rfl) (by simp) (Yf.callI rfl (by kernel_rfl) 180 (.tmp 35) rfl 36 (by kernel_rfl) (.iface 170 (.agg #[])) (.agg #[]) (by kernel_rfl) (fun w => by kernel_rfl) (act5 _) ?_ AllReadyH.nil)
          rintro e w4 ⟨rfl, hb4⟩
          replace q0 := (hb4.cell (World.block_lt_of_cell? _ _ q0)).trans q0
          replace kA2 := (hb4.block _ (Array.getElem?_eq_some_iff.1 kA2).1).trans kA2
          replace hrow2 := hrow2.of_block (hb4.block _ hrow2.lt)
          replace hb2 := Rw.next hb2 hb4
          clear hb4
          refine ⟨_, rfl, ⟨q0, kA2⟩, fun hHeld => ?_⟩
          simp only [Act.put, List.setIfInBounds_toArray, List.set_cons_zero, List.set_cons_succ]
          refine take (i := 13) (d := some 38) (v := .bool true) rfl (by kernel_rfl) (by kernel_rfl) (by kernel_rfl) (by kernel_rfl) (fun _ _ _ h => h) (Or.inl ⟨by rfl, by intro w hSw; go_simp⟩) hHeld ?_
          simp only [Act.put, List.setIfInBounds_toArray, List.set_cons_zero, List.set_cons_succ]
          refine take (i := 14) (d := some 39) (v := .bool true) rfl (by kernel_rfl) (by kernel_rfl) (by kernel_rfl) (by kernel_rfl) (fun _ _ _ h => h) (Or.inl ⟨by rfl, by intro w hSw; go_simp⟩) hHeld ?_
          simp only [Act.put, List.setIfInBounds_toArray, List.set_cons_zero, List.set_cons_succ]
          refine wpAnyH_done (by kernel_rfl) ?_ _
          go_wp2
          all_goals exact bodyPost_ret (v := .tuple #[.slice none 0 0, .bool false]) (by simp [results, Try.results141, go_sem]) rfl ⟨hb2, fun _ => rfl, fun h => (by rw [hB] at h; cases h)⟩
      by_cases k3 : x0 = 3
      · subst k3
        cases hr : decide (x1 = 1 ∨ x1 = 2) && Hg.fits x1 x2
        · have HR : Hid ((decide (x1 = 1 ∨ x1 = 2) && Hg.fits x1 x2) = false) := hr
          clear hr
          go_wp2_with (go_at_call 153; rw [← hW0]; refine (kind_any (3, x1, x2) _).mono ?_; rintro e w1 ⟨rfl, hb⟩; rw [show actV (3, x1, x2) = .iface 168 (.agg #[.int .i64 x1, .int .i64 x2]) from rfl]; replace hrow := hrow.of_block (hb.block _ hlw); replace kA := (hb.block _ zA).trans kA; replace hbel := Rw.next hbel hb; have g0 := hrow.cell hlt; have g1 := hrow.frozen k)
          obtain ⟨W2, hW2⟩ : ∃ W2, W2 = w1.setCell ⟨w.heap.size, k, none⟩ (.iface 168 (.agg #[.int .i64 x1, .int .i64 x2])) := ⟨_, rfl⟩
          rw [← hW2]
          have q0 : W2.cell? ⟨w.heap.size, k, none⟩ = some (.iface 168 (.agg #[.int .i64 x1, .int .i64 x2])) := by subst hW2; exact World.cell?_setCell_same _ _ _ g0
          have kA2 : W2.heap[wr.heap.size]? = some (.cells #[.int .i64 3, .int .i64 x1, .int .i64 x2] 147 (0, 0)) := by subst hW2; exact (Below.heap_setCell _ _ _ _ (fun h => hlt2 h.symm)).trans kA
          have hrow2 : W2.rowIs w.heap.size 158 n (row l (k + 1)) := by subst hW2; have := row_step hrow; rw [HX.out] at this; exact this
          have hb2 : Below w.heap.size w W2 := by subst hW2; exact hbel.setCell (by simp) _
          clear hW2 hrow g0 g1 hbel kA
          have hB := actsB_no (l := l) (k := k) (by have := HN.out; omega) (by rw [HX.out]; rw [actB_set]; exact HR.out)
          refine wp_region_held_drew (S := (fun w' => w'.cell? ⟨w.heap.size, k, none⟩ = some (.iface 168 (.agg #[.int .i64 x1, .int .i64 x2])) ∧ w'.heap[wr.heap.size]? = some (.cells #[.int .i64 3, .int .i64 x1, .int .i64 x2] 147 (0, 0)))) (by kernel_rfl) ⟨q0, kA2⟩ (fun hHeld => ?_)
          refine take (i := 0) (d := some 25) (v := .slice (some ⟨w.heap.size, 0, none⟩) n n) rfl (by kernel_rfl) (by kernel_rfl) (by kernel_rfl) (by kernel_rfl) (fun _ _ _ h => h) (Or.inl ⟨by rfl, by intro w hSw; go_simp⟩) hHeld ?_
          simp only [Act.put, List.setIfInBounds_toArray, List.set_cons_zero, List.set_cons_succ]
          refine take (i := 1) (d := some 26) (v := .int .i64 k) rfl (by kernel_rfl) (by kernel_rfl) (by kernel_rfl) (by kernel_rfl) (fun _ _ _ h => h) (Or.inl ⟨by rfl, by intro w hSw; go_simp⟩) hHeld ?_
          simp only [Act.put, List.setIfInBounds_toArray, List.set_cons_zero, List.set_cons_succ]
          refine take (i := 2) (d := some 27) (v := .pointer (some ⟨w.heap.size, k, none⟩)) rfl (by kernel_rfl) (by kernel_rfl) (by kernel_rfl) (by kernel_rfl) (fun _ _ _ h => h) (Or.inl ⟨by rfl, by intro w hSw; go_simp⟩) hHeld ?_
          simp only [Act.put, List.setIfInBounds_toArray, List.set_cons_zero, List.set_cons_succ]
          refine take (i := 3) (d := some 28) (v := .iface 168 (.agg #[.int .i64 x1, .int .i64 x2])) rfl (by kernel_rfl) (by kernel_rfl) (by kernel_rfl) (by kernel_rfl) (fun _ _ _ h => h) (Or.inl ⟨by rfl, by intro w hSw; have q1 := hSw.1; go_simp⟩) hHeld ?_
          simp only [Act.put, List.setIfInBounds_toArray, List.set_cons_zero, List.set_cons_succ]
          refine wpAnyH_ready (rs := [4]) (by kernel_rfl) (by simp) (Rg.call1 rfl (by kernel_rfl) 154 (.tmp 28) 158 (by kernel_rfl) 29 (by kernel_rfl) (.iface 168 (.agg #[.int .i64 x1, .int .i64 x2])) (by kernel_rfl) (fun _ => rfl) (Yf.right3b HR.out _) ?_ AllReadyH.nil)
          rintro e w3 ⟨rfl, hb3⟩
          replace hb3 := Rw.next (Below.drew (Below.refl _ W2)) hb3
          replace q0 := (hb3.cell (World.block_lt_of_cell? _ _ q0)).trans q0
          replace kA2 := (hb3.block _ (Array.getElem?_eq_some_iff.1 kA2).1).trans kA2
          replace hrow2 := hrow2.of_block (hb3.block _ hrow2.lt)
          replace hb2 := Rw.next hb2 hb3
          clear hb3
          refine ⟨_, rfl, ⟨q0, kA2⟩, fun hHeld => ?_⟩
          simp only [Act.put, List.setIfInBounds_toArray, List.set_cons_zero, List.set_cons_succ]
          refine take (i := 5) (d := some 30) (v := .bool true) rfl (by kernel_rfl) (by kernel_rfl) (by kernel_rfl) (by kernel_rfl) (fun _ _ _ h => h) (Or.inl ⟨by rfl, by intro w hSw; go_simp⟩) hHeld ?_
          simp only [Act.put, List.setIfInBounds_toArray, List.set_cons_zero, List.set_cons_succ]
          refine take (i := 6) (d := some 31) (v := .bool true) rfl (by kernel_rfl) (by kernel_rfl) (by kernel_rfl) (by kernel_rfl) (fun _ _ _ h => h) (Or.inl ⟨by rfl, by intro w hSw; go_simp⟩) hHeld ?_
          simp only [Act.put, List.setIfInBounds_toArray, List.set_cons_zero, List.set_cons_succ]
          refine take (i := 7) (d := some 32) (v := undef) rfl (by kernel_rfl) (by kernel_rfl) (by kernel_rfl) (by kernel_rfl) (fun _ _ _ h => h) (Or.inr ⟨by rfl, rfl⟩) hHeld ?_
          simp only [Act.put, List.setIfInBounds_toArray, List.set_cons_zero, List.set_cons_succ]
          refine take (i := 8) (d := some 33) (v := undef) rfl (by kernel_rfl) (by kernel_rfl) (by kernel_rfl) (by kernel_rfl) (fun _ _ _ h => h) (Or.inr ⟨by rfl, rfl⟩) hHeld ?_
          simp only [Act.put, List.setIfInBounds_toArray, List.set_cons_zero, List.set_cons_succ]
          refine take (i := 9) (d := some 34) (v := undef) rfl (by kernel_rfl) (by kernel_rfl) (by kernel_rfl) (by kernel_rfl) (fun _ _ _ h => h) (Or.inr ⟨by rfl, rfl⟩) hHeld ?_
          simp only [Act.put, List.setIfInBounds_toArray, List.set_cons_zero, List.set_cons_succ]
          refine take (i := 10) (d := some 35) (v := undef) rfl (by kernel_rfl) (by kernel_rfl) (by kernel_rfl) (by kernel_rfl) (fun _ _ _ h => h) (Or.inr ⟨by rfl, rfl⟩) hHeld ?_
          simp only [Act.put, List.setIfInBounds_toArray, List.set_cons_zero, List.set_cons_succ]
          refine take (i := 11) (d := some 36) (v := undef) rfl (by kernel_rfl) (by kernel_rfl) (by kernel_rfl) (by kernel_rfl) (fun _ _ _ h => h) (Or.inr ⟨by rfl, rfl⟩) hHeld ?_
          simp only [Act.put, List.setIfInBounds_toArray, List.set_cons_zero, List.set_cons_succ]
          refine take (i := 12) (d := some 37) (v := undef) rfl (by kernel_rfl) (by kernel_rfl) (by kernel_rfl) (by kernel_rfl) (fun _ _ _ h => h) (Or.inr ⟨by rfl, rfl⟩) hHeld ?_
          simp only [Act.put, List.setIfInBounds_toArray, List.set_cons_zero, List.set_cons_succ]
          refine take (i := 13) (d := some 38) (v := undef) rfl (by kernel_rfl) (by kernel_rfl) (by kernel_rfl) (by kernel_rfl) (fun _ _ _ h => h) (Or.inr ⟨by rfl, rfl⟩) hHeld ?_
          simp only [Act.put, List.setIfInBounds_toArray, List.set_cons_zero, List.set_cons_succ]
          refine take (i := 14) (d := some 39) (v := .bool true) rfl (by kernel_rfl) (by kernel_rfl) (by kernel_rfl) (by kernel_rfl) (fun _ _ _ h => h) (Or.inl ⟨by rfl, by intro w hSw; go_simp⟩) hHeld ?_
          simp only [Act.put, List.setIfInBounds_toArray, List.set_cons_zero, List.set_cons_succ]
          refine wpAnyH_done (by kernel_rfl) ?_ _
          go_wp2
          all_goals exact bodyPost_ret (v := .tuple #[.slice none 0 0, .bool false]) (by simp [results, Try.results141, go_sem]) rfl ⟨hb2, fun _ => rfl, fun h => (by rw [hB] at h; cases h)⟩
        · have HR : Hid ((decide (x1 = 1 ∨ x1 = 2) && Hg.fits x1 x2) = true) := hr
          clear hr
          go_wp2_with (go_at_call 153; rw [← hW0]; refine (kind_any (3, x1, x2) _).mono ?_; rintro e w1 ⟨rfl, hb⟩; rw [show actV (3, x1, x2) = .iface 168 (.agg #[.int .i64 x1, .int .i64 x2]) from rfl]; replace hrow := hrow.of_block (hb.block _ hlw); replace kA := (hb.block _ zA).trans kA; replace hbel := Rw.next hbel hb; have g0 := hrow.cell hlt; have g1 := hrow.frozen k)
          obtain ⟨W2, hW2⟩ : ∃ W2, W2 = w1.setCell ⟨w.heap.size, k, none⟩ (.iface 168 (.agg #[.int .i64 x1, .int .i64 x2])) := ⟨_, rfl⟩
          rw [← hW2]
          have q0 : W2.cell? ⟨w.heap.size, k, none⟩ = some (.iface 168 (.agg #[.int .i64 x1, .int .i64 x2])) := by subst hW2; exact World.cell?_setCell_same _ _ _ g0
          have kA2 : W2.heap[wr.heap.size]? = some (.cells #[.int .i64 3, .int .i64 x1, .int .i64 x2] 147 (0, 0)) := by subst hW2; exact (Below.heap_setCell _ _ _ _ (fun h => hlt2 h.symm)).trans kA
          have hrow2 : W2.rowIs w.heap.size 158 n (row l (k + 1)) := by subst hW2; have := row_step hrow; rw [HX.out] at this; exact this
          have hb2 : Below w.heap.size w W2 := by subst hW2; exact hbel.setCell (by simp) _
          clear hW2 hrow g0 g1 hbel kA
          have hB := pre_step HP.out (by rw [HX.out]; rw [actB_set]; exact HR.out)
          refine wp_region_held_drew (S := (fun w' => w'.cell? ⟨w.heap.size, k, none⟩ = some (.iface 168 (.agg #[.int .i64 x1, .int .i64 x2])) ∧ w'.heap[wr.heap.size]? = some (.cells #[.int .i64 3, .int .i64 x1, .int .i64 x2] 147 (0, 0)))) (by kernel_rfl) ⟨q0, kA2⟩ (fun hHeld => ?_)
          refine take (i := 0) (d := some 25) (v := .slice (some ⟨w.heap.size, 0, none⟩) n n) rfl (by kernel_rfl) (by kernel_rfl) (by kernel_rfl) (by kernel_rfl) (fun _ _ _ h => h) (Or.inl ⟨by rfl, by intro w hSw; go_simp⟩) hHeld ?_
          simp only [Act.put, List.setIfInBounds_toArray, List.set_cons_zero, List.set_cons_succ]
          refine take (i := 1) (d := some 26) (v := .int .i64 k) rfl (by kernel_rfl) (by kernel_rfl) (by kernel_rfl) (by kernel_rfl) (fun _ _ _ h => h) (Or.inl ⟨by rfl, by intro w hSw; go_simp⟩) hHeld ?_
          simp only [Act.put, List.setIfInBounds_toArray, List.set_cons_zero, List.set_cons_succ]
          refine take (i := 2) (d := some 27) (v := .pointer (some ⟨w.heap.size, k, none⟩)) rfl (by kernel_rfl) (by kernel_rfl) (by kernel_rfl) (by kernel_rfl) (fun _ _ _ h => h) (Or.inl ⟨by rfl, by intro w hSw; go_simp⟩) hHeld ?_
          simp only [Act.put, List.setIfInBounds_toArray, List.set_cons_zero, List.set_cons_succ]
          refine take (i := 3) (d := some 28) (v := .iface 168 (.agg #[.int .i64 x1, .int .i64 x2])) rfl (by kernel_rfl) (by kernel_rfl) (by kernel_rfl) (by kernel_rfl) (fun _ _ _ h => h) (Or.inl ⟨by rfl, by intro w hSw; have q1 := hSw.1; go_simp⟩) hHeld ?_
          simp only [Act.put, List.setIfInBounds_toArray, List.set_cons_zero, List.set_cons_succ]
          refine wpAnyH_ready (rs := [4]) (by kernel_rfl) (by simp) (Rg.call1 rfl (by kernel_rfl) 154 (.tmp 28) 158 (by kernel_rfl) 29 (by kernel_rfl) (.iface 168 (.agg #[.int .i64 x1, .int .i64 x2])) (by kernel_rfl) (fun _ => rfl) (Yf.right3b HR.out _) ?_ AllReadyH.nil)
          rintro e w3 ⟨rfl, hb3⟩
          replace hb3 := Rw.next (Below.drew (Below.refl _ W2)) hb3
          replace q0 := (hb3.cell (World.block_lt_of_cell? _ _ q0)).trans q0
          replace kA2 := (hb3.block _ (Array.getElem?_eq_some_iff.1 kA2).1).trans kA2
          replace hrow2 := hrow2.of_block (hb3.block _ hrow2.lt)
          replace hb2 := Rw.next hb2 hb3
          clear hb3
          refine ⟨_, rfl, ⟨q0, kA2⟩, fun hHeld => ?_⟩
          simp only [Act.put, List.setIfInBounds_toArray, List.set_cons_zero, List.set_cons_succ]
          refine take (i := 5) (d := some 30) (v := .bool false) rfl (by kernel_rfl) (by kernel_rfl) (by kernel_rfl) (by kernel_rfl) (fun _ _ _ h => h) (Or.inl ⟨by rfl, by intro w hSw; go_simp⟩) hHeld ?_
          simp only [Act.put, List.setIfInBounds_toArray, List.set_cons_zero, List.set_cons_succ]
          refine take (i := 6) (d := some 31) (v := .bool false) rfl (by kernel_rfl) (by kernel_rfl) (by kernel_rfl) (by kernel_rfl) (fun _ _ _ h => h) (Or.inl ⟨by rfl, by intro w hSw; go_simp⟩) hHeld ?_
          simp only [Act.put, List.setIfInBounds_toArray, List.set_cons_zero, List.set_cons_succ]
          refine take (i := 7) (d := some 32) (v := .slice (some ⟨w.heap.size, 0, none⟩) n n) rfl (by kernel_rfl) (by kernel_rfl) (by kernel_rfl) (by kernel_rfl) (fun _ _ _ h => h) (Or.inl ⟨by rfl, by intro w hSw; go_simp⟩) hHeld ?_
          simp only [Act.put, List.setIfInBounds_toArray, List.set_cons_zero, List.set_cons_succ]
          refine take (i := 8) (d := some 33) (v := .int .i64 k) rfl (by kernel_rfl) (by kernel_rfl) (by kernel_rfl) (by kernel_rfl) (fun _ _ _ h => h) (Or.inl ⟨by rfl, by intro w hSw; go_simp⟩) hHeld ?_
          simp only [Act.put, List.setIfInBounds_toArray, List.set_cons_zero, List.set_cons_succ]
          refine take (i := 9) (d := some 34) (v := .pointer (some ⟨w.heap.size, k, none⟩)) rfl (by kernel_rfl) (by kernel_rfl) (by kernel_rfl) (by kernel_rfl) (fun _ _ _ h => h) (Or.inl ⟨by rfl, by intro w hSw; go_simp⟩) hHeld ?_
          simp only [Act.put, List.setIfInBounds_toArray, List.set_cons_zero, List.set_cons_succ]
          refine take (i := 10) (d := some 35) (v := .iface 168 (.agg #[.int .i64 x1, .int .i64 x2])) rfl (by kernel_rfl) (by kernel_rfl) (by kernel_rfl) (by kernel_rfl) (fun _ _ _ h => h) (Or.inl ⟨by rfl, by intro w hSw; have q1 := hSw.1; go_simp⟩) hHeld ?_
          simp only [Act.put, List.setIfInBounds_toArray, List.set_cons_zero, List.set_cons_succ]
          refine take (i := 12) (d := some 37) (v := .agg #[.int .i64 3, .int .i64 x1, .int .i64 x2]) rfl (by kernel_rfl) (by kernel_rfl) (by kernel_rfl) (by kernel_rfl) (fun _ _ _ h => h) (Or.inl ⟨by rfl, by intro w hSw; have q2 := hSw.2; have d0 := three0 q2; have d1 := three1 q2; have d2 := three2 q2; go_simp⟩) hHeld ?_
          simp only [Act.put, List.setIfInBounds_toArray, List.set_cons_zero, List.set_cons_succ]
          refine wpAnyH_ready (rs := [11]) (by kernel_rfl) (by simp) (Yf.callI rfl (by kernel_rfl) 178 (.tmp 35) rfl 36 (by kernel_rfl) (.iface 168 (.agg #[.int .i64 x1, .int .i64 x2])) (.agg #[.int .i64 x1, .int .i64 x2]) (by kernel_rfl) (fun w => by kernel_rfl) (act3 x1 x2 _) ?_ AllReadyH.nil)
          rintro e w4 ⟨rfl, hb4⟩
          replace q0 := (hb4.cell (World.block_lt_of_cell? _ _ q0)).trans q0
          replace kA2 := (hb4.block _ (Array.getElem?_eq_some_iff.1 kA2).1).trans kA2
          replace hrow2 := hrow2.of_block (hb4.block _ hrow2.lt)
          replace hb2 := Rw.next hb2 hb4
          clear hb4
          refine ⟨_, rfl, ⟨q0, kA2⟩, fun hHeld => ?_⟩
          simp only [Act.put, List.setIfInBounds_toArray, List.set_cons_zero, List.set_cons_succ]
          refine take (i := 13) (d := some 38) (v := .bool false) rfl (by kernel_rfl) (by kernel_rfl) (by kernel_rfl) (by kernel_rfl) (fun _ _ _ h => h) (Or.inl ⟨by rfl, by intro w hSw; go_simp⟩) hHeld ?_
          simp only [Act.put, List.setIfInBounds_toArray, List.set_cons_zero, List.set_cons_succ]
          refine take (i := 14) (d := some 39) (v := .bool false) rfl (by kernel_rfl) (by kernel_rfl) (by kernel_rfl) (by kernel_rfl) (fun _ _ _ h => h) (Or.inl ⟨by rfl, by intro w hSw; go_simp⟩) hHeld ?_
          simp only [Act.put, List.setIfInBounds_toArray, List.set_cons_zero, List.set_cons_succ]
          refine wpAnyH_done (by kernel_rfl) ?_ _
          go_wp2
          all_goals go_roundw
          all_goals first | exact ⟨k + 1, by omega, by go_num, hb2, hrow2, hB⟩ | (simp [intOf]; omega)
      have hV6 : actV (x0, x1, x2) = .nilIface := by simp [actV, k1, k2, k3, k4, k5]
      go_wp2_with (go_at_call 153; rw [← hW0]; refine (kind_any (x0, x1, x2) _).mono ?_; rintro e w1 ⟨rfl, hb⟩; rw [show actV (x0, x1, x2) = .nilIface from hV6]; replace hrow := hrow.of_block (hb.block _ hlw); replace kA := (hb.block _ zA).trans kA; replace hbel := Rw.next hbel hb; have g0 := hrow.cell hlt; have g1 := hrow.frozen k)
      obtain ⟨W2, hW2⟩ : ∃ W2, W2 = w1.setCell ⟨w.heap.size, k, none⟩ (.nilIface) := ⟨_, rfl⟩
      rw [← hW2]
      have q0 : W2.cell? ⟨w.heap.size, k, none⟩ = some (.nilIface) := by subst hW2; exact World.cell?_setCell_same _ _ _ g0
      have kA2 : W2.heap[wr.heap.size]? = some (.cells #[.int .i64 x0, .int .i64 x1, .int .i64 x2] 147 (0, 0)) := by subst hW2; exact (Below.heap_setCell _ _ _ _ (fun h => hlt2 h.symm)).trans kA
      have hrow2 : W2.rowIs w.heap.size 158 n (row l (k + 1)) := by subst hW2; have := row_step hrow; rw [HX.out] at this; rw [hV6] at this; exact this
      have hb2 : Below w.heap.size w W2 := by subst hW2; exact hbel.setCell (by simp) _
      clear hW2 hrow g0 g1 hbel kA
      have hB := actsB_no (l := l) (k := k) (by have := HN.out; omega) (by rw [HX.out]; simp [actB, k1, k2, k3, k4, k5])
      refine wp_region_held_drew (S := (fun w' => w'.cell? ⟨w.heap.size, k, none⟩ = some (.nilIface) ∧ w'.heap[wr.heap.size]? = some (.cells #[.int .i64 x0, .int .i64 x1, .int .i64 x2] 147 (0, 0)))) (by kernel_rfl) ⟨q0, kA2⟩ (fun hHeld => ?_)
      refine take (i := 0) (d := some 25) (v := .slice (some ⟨w.heap.size, 0, none⟩) n n) rfl (by kernel_rfl) (by kernel_rfl) (by kernel_rfl) (by kernel_rfl) (fun _ _ _ h => h) (Or.inl ⟨by rfl, by intro w hSw; go_simp⟩) hHeld ?_
      simp only [Act.put, List.setIfInBounds_toArray, List.set_cons_zero, List.set_cons_succ]
      refine take (i := 1) (d := some 26) (v := .int .i64 k) rfl (by kernel_rfl) (by kernel_rfl) (by kernel_rfl) (by kernel_rfl) (fun _ _ _ h => h) (Or.inl ⟨by rfl, by intro w hSw; go_simp⟩) hHeld ?_
      simp only [Act.put, List.setIfInBounds_toArray, List.set_cons_zero, List.set_cons_succ]
      refine take (i := 2) (d := some 27) (v := .pointer (some ⟨w.heap.size, k, none⟩)) rfl (by kernel_rfl) (by kernel_rfl) (by kernel_rfl) (by kernel_rfl) (fun _ _ _ h => h) (Or.inl ⟨by rfl, by intro w hSw; go_simp⟩) hHeld ?_
      simp only [Act.put, List.setIfInBounds_toArray, List.set_cons_zero, List.set_cons_succ]
      refine take (i := 3) (d := some 28) (v := .nilIface) rfl (by kernel_rfl) (by kernel_rfl) (by kernel_rfl) (by kernel_rfl) (fun _ _ _ h => h) (Or.inl ⟨by rfl, by intro w hSw; have q1 := hSw.1; go_simp⟩) hHeld ?_
      simp only [Act.put, List.setIfInBounds_toArray, List.set_cons_zero, List.set_cons_succ]
      refine wpAnyH_ready (rs := [4]) (by kernel_rfl) (by simp) (Rg.call1 rfl (by kernel_rfl) 154 (.tmp 28) 158 (by kernel_rfl) 29 (by kernel_rfl) (.nilIface) (by kernel_rfl) (fun _ => rfl) (right6 _) ?_ AllReadyH.nil)
      rintro e w3 ⟨rfl, hb3⟩
      replace hb3 := Rw.next (Below.drew (Below.refl _ W2)) hb3
      replace q0 := (hb3.cell (World.block_lt_of_cell? _ _ q0)).trans q0
      replace kA2 := (hb3.block _ (Array.getElem?_eq_some_iff.1 kA2).1).trans kA2
      replace hrow2 := hrow2.of_block (hb3.block _ hrow2.lt)
      replace hb2 := Rw.next hb2 hb3
      clear hb3
      refine ⟨_, rfl, ⟨q0, kA2⟩, fun hHeld => ?_⟩
      simp only [Act.put, List.setIfInBounds_toArray, List.set_cons_zero, List.set_cons_succ]
      refine take (i := 5) (d := some 30) (v := .bool true) rfl (by kernel_rfl) (by kernel_rfl) (by kernel_rfl) (by kernel_rfl) (fun _ _ _ h => h) (Or.inl ⟨by rfl, by intro w hSw; go_simp⟩) hHeld ?_
      simp only [Act.put, List.setIfInBounds_toArray, List.set_cons_zero, List.set_cons_succ]
      refine take (i := 6) (d := some 31) (v := .bool true) rfl (by kernel_rfl) (by kernel_rfl) (by kernel_rfl) (by kernel_rfl) (fun _ _ _ h => h) (Or.inl ⟨by rfl, by intro w hSw; go_simp⟩) hHeld ?_
      simp only [Act.put, List.setIfInBounds_toArray, List.set_cons_zero, List.set_cons_succ]
      refine take (i := 7) (d := some 32) (v := undef) rfl (by kernel_rfl) (by kernel_rfl) (by kernel_rfl) (by kernel_rfl) (fun _ _ _ h => h) (Or.inr ⟨by rfl, rfl⟩) hHeld ?_
      simp only [Act.put, List.setIfInBounds_toArray, List.set_cons_zero, List.set_cons_succ]
      refine take (i := 8) (d := some 33) (v := undef) rfl (by kernel_rfl) (by kernel_rfl) (by kernel_rfl) (by kernel_rfl) (fun _ _ _ h => h) (Or.inr ⟨by rfl, rfl⟩) hHeld ?_
      simp only [Act.put, List.setIfInBounds_toArray, List.set_cons_zero, List.set_cons_succ]
      refine take (i := 9) (d := some 34) (v := undef) rfl (by kernel_rfl) (by kernel_rfl) (by kernel_rfl) (by kernel_rfl) (fun _ _ _ h => h) (Or.inr ⟨by rfl, rfl⟩) hHeld ?_
      simp only [Act.put, List.setIfInBounds_toArray, List.set_cons_zero, List.set_cons_succ]
      refine take (i := 10) (d := some 35) (v := undef) rfl (by kernel_rfl) (by kernel_rfl) (by kernel_rfl) (by kernel_rfl) (fun _ _ _ h => h) (Or.inr ⟨by rfl, rfl⟩) hHeld ?_
      simp only [Act.put, List.setIfInBounds_toArray, List.set_cons_zero, List.set_cons_succ]
      refine take (i := 11) (d := some 36) (v := undef) rfl (by kernel_rfl) (by kernel_rfl) (by kernel_rfl) (by kernel_rfl) (fun _ _ _ h => h) (Or.inr ⟨by rfl, rfl⟩) hHeld ?_
      simp only [Act.put, List.setIfInBounds_toArray, List.set_cons_zero, List.set_cons_succ]
      refine take (i := 12) (d := some 37) (v := undef) rfl (by kernel_rfl) (by kernel_rfl) (by kernel_rfl) (by kernel_rfl) (fun _ _ _ h => h) (Or.inr ⟨by rfl, rfl⟩) hHeld ?_
      simp only [Act.put, List.setIfInBounds_toArray, List.set_cons_zero, List.set_cons_succ]
      refine take (i := 13) (d := some 38) (v := undef) rfl (by kernel_rfl) (by kernel_rfl) (by kernel_rfl) (by kernel_rfl) (fun _ _ _ h => h) (Or.inr ⟨by rfl, rfl⟩) hHeld ?_
      simp only [Act.put, List.setIfInBounds_toArray, List.set_cons_zero, List.set_cons_succ]
      refine take (i := 14) (d := some 39) (v := .bool true) rfl (by kernel_rfl) (by kernel_rfl) (by kernel_rfl) (by kernel_rfl) (fun _ _ _ h => h) (Or.inl ⟨by rfl, by intro w hSw; go_simp⟩) hHeld ?_
      simp only [Act.put, List.setIfInBounds_toArray, List.set_cons_zero, List.set_cons_succ]
      refine wpAnyH_done (by kernel_rfl) ?_ _
      go_wp2
      all_goals exact bodyPost_ret (v := .tuple #[.slice none 0 0, .bool false]) (by simp [results, Try.results141, go_sem]) rfl ⟨hb2, fun _ => rfl, fun h => (by rw [hB] at h; cases h)⟩
    · have he : k = n := by omega
      subst he
      go_wp2
      have := HN.out
      have hB := actsB_yes (l := l) (by omega) (by rw [← this]; exact HP.out)
      exact bodyPost_ret (v := .tuple #[.slice (some ⟨w.heap.size, 0, none⟩) k k, .bool true]) (by simp [results, Try.results141, go_sem]) rfl ⟨hbel, fun h => (by rw [hB] at h; cases h), fun _ => ⟨rfl, hrow⟩⟩

end Go.Proofs.Ytcbgnfjnjfaacaa.Yd
