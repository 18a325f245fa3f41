/-
  Contracts laid together (Yd, Ye, Hb, Yg, Ef, Eg, Ra, Rb, Hs, Yi, Lk, Ln).
-/
import Derived.Test.YtcbgnfjnjfaacaaQc
import Derived.Deep.LoopGhost
import Derived.Deep.RegionHeld3
import Derived.Laws.CopyOwn
namespace Go.Proofs.Ytcbgnfjnjfaacaa.Yd
set_option maxRecDepth 8000
open Go Go.RowKit
open Num Pl Pq Yb Yc

/-- The action is right. -/
def actB (x : A3) : Bool :=
  if x.1 = 1 then decide (1 ≤ x.2.1 ∧ x.2.1 ≤ 255 ∧ x.2.2 = 0) else if x.1 = 3 then decide (x.2.1 = 1 ∨ x.2.1 = 2) && numOkB x.2.2 6
  else decide ((x.1 = 2 ∨ x.1 = 4 ∨ x.1 = 5) ∧ x.2.1 = 0 ∧ x.2.2 = 0)
/-- The first k are right. -/
def pre (l : List A3) (k : Nat) : Prop := ∀ i, i < k → actB (l.getD i z3) = true
instance (l : List A3) (k : Nat) : Decidable (pre l k) := by unfold pre; infer_instance
/-- The actions are right. -/
def actsB (l : List A3) : Bool := decide (l.length ≤ 12 ∧ pre l l.length)
theorem actsB_long {l : List A3} (h : 12 < l.length) : actsB l = false := by
  unfold actsB; rw [decide_eq_false]; omega
theorem actsB_yes {l : List A3} (h : l.length ≤ 12) (hp : pre l l.length) : actsB l = true := decide_eq_true ⟨h, hp⟩
theorem actsB_no {l : List A3} {k : Nat} (hk : k < l.length) (h : actB (l.getD k z3) = false) : actsB l = false :=
  decide_eq_false fun hh => by have := hh.2 k hk; rw [h] at this; cases this
theorem pre_step {l : List A3} {k : Nat} (h : pre l k) (hk : actB (l.getD k z3) = true) : pre l (k + 1) := by
  intro i hi
  by_cases e : i = k
  · subst e; exact hk
  · exact h i (by omega)
theorem actsB_out {l : List A3} (h : actsB l = true) : l.length ≤ 12 ∧ pre l l.length := of_decide_eq_true h

theorem three0 {w : World} {g : Nat} {v0 v1 v2 : Value} {t : TypeId} {fr : Nat × Nat} (k : w.heap[g]? = some (.cells #[v0, v1, v2] t fr)) : w.cell? ⟨g, 0, none⟩ = some v0 := by simp [World.cell?, k]
theorem three1 {w : World} {g : Nat} {v0 v1 v2 : Value} {t : TypeId} {fr : Nat × Nat} (k : w.heap[g]? = some (.cells #[v0, v1, v2] t fr)) : w.cell? ⟨g, 1, none⟩ = some v1 := by simp [World.cell?, k]
theorem three2 {w : World} {g : Nat} {v0 v1 v2 : Value} {t : TypeId} {fr : Nat × Nat} (k : w.heap[g]? = some (.cells #[v0, v1, v2] t fr)) : w.cell? ⟨g, 2, none⟩ = some v2 := by simp [World.cell?, k]
theorem actB_set (a b : Int) : actB (3, a, b) = (decide (a = 1 ∨ a = 2) && Hg.fits a b) := by
  by_cases h : a = 1 ∨ a = 2
  · have e : Hg.fits a b = numOkB b 6 := by
      rcases h with rfl | rfl <;> rfl
    simp [actB, e]
  · simp [actB, h]

theorem info88 : (Try.prog.info? 158).map (fun i => (i.zero, i.size, i.bytes)) = some (some .nilIface, 1, 16) := by kernel_rfl

/-- The row of the first k actions, by their types. -/
def row (l : List A3) (k : Nat) : Nat → Value := fun j => if j < k then actV (l.getD j z3) else .nilIface
theorem row_step {w : World} {g n : Nat} {l : List A3} {k : Nat} (h : w.rowIs g 158 n (row l k)) : (w.setCell ⟨g, k, none⟩ (actV (l.getD k z3))).rowIs g 158 n (row l (k + 1)) := by
  refine (h.set k _).congr fun i hi => ?_
  unfold row
  by_cases e : i = k
  · subst e; simp
  · have : (i < k + 1) = (i < k) := by rw [eq_iff_iff]; omega
    simp [e, this]

set_option maxHeartbeats 40000000 in
theorem acts_any (a : Option Addr) (b off cap : Nat) (l : List A3) (w : World) (h : Rd w a b off l) :
    Calls Try.prog 141 #[.slice a l.length cap] w fun e w' => Below w.heap.size w w' ∧
      (actsB l = false → e = .returned (.tuple #[.slice none 0 0, .bool false])) ∧
      (actsB l = true → e = .returned (.tuple #[.slice (some ⟨w.heap.size, 0, none⟩) l.length l.length, .bool true]) ∧ w'.rowIs w.heap.size 158 l.length (row l l.length)) := by
  obtain ⟨hh, hc, hs⟩ := h
  by_cases h12 : 12 < l.length
  · have hz : (12 : Int) < (l.length : Int) := by omega
    have hB := actsB_long h12
    go_enter Try.func141, Try.ntmps141
    go_wp2
    exact bodyPost_ret (v := .tuple #[.slice none 0 0, .bool false]) (by simp [results, Try.results141, go_sem]) rfl ⟨Below.refl _ _, fun _ => rfl, fun h => by rw [hB] at h; cases h⟩
  obtain ⟨n, hn⟩ : ∃ n, n = l.length := ⟨_, rfl⟩
  have hmk := run_make_row' (P := Try.prog) 152 158 .nilIface 16 Try.underlying152 info88 rfl .i64 .i64 n (by omega) (by omega)
  rw [← hn] at hh hc hs h12 ⊢
  have HN : Hid (n = l.length) := hn
  clear hn
  have hz : ¬ (12 : Int) < (n : Int) := by omega
  go_enter Try.func141, Try.ntmps141
  go_wp2
  clear hmk
  go_loopw [15] (fun i wr => ∃ k : Nat, k ≤ n ∧ i = .int .i64 k ∧ Below w.heap.size w wr ∧ wr.rowIs w.heap.size 158 n (row l k) ∧ pre l k) (fun i _ => n - (intOf i).toNat)
  case atStart => exact ⟨0, Nat.zero_le _, rfl, (Below.refl _ _).alloc (Nat.le_refl _) _, (World.rowIs_made w .nilIface n 158).congr (fun i _ => by simp [row]), fun i hi => by omega⟩
  case round =>
    obtain ⟨k, hk, rfl, hbel, hrow, hpre⟩ := hrel
    have HP : Hid (pre l k) := hpre
    clear hpre
    by_cases hlt : k < n
    · obtain rfl := hh (by omega)
      have hkz : (k : Int) < (n : Int) := by omega
      obtain ⟨c0, c1, c2⟩ := (hc k hlt).of hbel (hc k hlt).lt
      generalize ex : l.getD k z3 = x at c0 c1 c2
      have HX : Hid (l.getD k z3 = x) := ex
      clear ex hc hh
      have hlw : w.heap.size < wr.heap.size := hrow.lt
      obtain ⟨x0, x1, x2⟩ := x
      simp only at c0 c1 c2
      obtain ⟨W0, hW0⟩ : ∃ W0, W0 = wr.alloc (.cells #[.int .i64 x0, .int .i64 x1, .int .i64 x2] 147) := ⟨_, rfl⟩
      have kA : W0.heap[wr.heap.size]? = some (.cells #[.int .i64 x0, .int .i64 x1, .int .i64 x2] 147 (0, 0)) := by subst hW0; exact at_new rfl
      have zA : wr.heap.size < W0.heap.size := by subst hW0; simp
      have B0 : Below wr.heap.size wr W0 := by subst hW0; exact below_alloc1 _ _
      have hlt2 : w.heap.size ≠ wr.heap.size := by omega
      replace hrow := hrow.of_block (B0.block _ hlw)
      replace hlw := hrow.lt
      replace hbel := Rw.next hbel B0
      clear B0
      by_cases k1 : x0 = 1
      · subst k1
        by_cases hr : 1 ≤ x1 ∧ x1 ≤ 255
        · by_cases h0 : x2 = 0
          · subst h0
            go_wp2_with (go_at_call 153; rw [← hW0]; refine (kind_any (1, x1, 0) _).mono ?_; rintro e w1 ⟨rfl, hb⟩; rw [show actV (1, x1, 0) = .iface 164 (.agg #[.int .i64 x1]) from rfl]; replace hrow := hrow.of_block (hb.block _ hlw); replace kA := (hb.block _ zA).trans kA; replace hbel := Rw.next hbel hb; have g0 := hrow.cell hlt; have g1 := hrow.frozen k)
            obtain ⟨W2, hW2⟩ : ∃ W2, W2 = w1.setCell ⟨w.heap.size, k, none⟩ (.iface 164 (.agg #[.int .i64 x1])) := ⟨_, rfl⟩
            rw [← hW2]
            have q0 : W2.cell? ⟨w.heap.size, k, none⟩ = some (.iface 164 (.agg #[.int .i64 x1])) := by subst hW2; exact World.cell?_setCell_same _ _ _ g0
            have kA2 : W2.heap[wr.heap.size]? = some (.cells #[.int .i64 1, .int .i64 x1, .int .i64 0] 147 (0, 0)) := by subst hW2; exact (Below.heap_setCell _ _ _ _ (fun h => hlt2 h.symm)).trans kA
            have hrow2 : W2.rowIs w.heap.size 158 n (row l (k + 1)) := by subst hW2; have := row_step hrow; rw [HX.out] at this; exact this
            have hb2 : Below w.heap.size w W2 := by subst hW2; exact hbel.setCell (by simp) _
            clear hW2 hrow g0 g1 hbel kA
            have hB := pre_step HP.out (by rw [HX.out]; simp [actB, hr])
            refine wp_region_held_drew (S := (fun w' => w'.cell? ⟨w.heap.size, k, none⟩ = some (.iface 164 (.agg #[.int .i64 x1])) ∧ w'.heap[wr.heap.size]? = some (.cells #[.int .i64 1, .int .i64 x1, .int .i64 0] 147 (0, 0)))) (by kernel_rfl) ⟨q0, kA2⟩ (fun hHeld => ?_)
            refine take (i := 0) (d := some 25) (v := .slice (some ⟨w.heap.size, 0, none⟩) n n) rfl (by kernel_rfl) (by kernel_rfl) (by kernel_rfl) (by kernel_rfl) (fun _ _ _ h => h) (Or.inl ⟨by rfl, by intro w hSw; go_simp⟩) hHeld ?_
            simp only [Act.put, List.setIfInBounds_toArray, List.set_cons_zero, List.set_cons_succ]
            refine take (i := 1) (d := some 26) (v := .int .i64 k) rfl (by kernel_rfl) (by kernel_rfl) (by kernel_rfl) (by kernel_rfl) (fun _ _ _ h => h) (Or.inl ⟨by rfl, by intro w hSw; go_simp⟩) hHeld ?_
            simp only [Act.put, List.setIfInBounds_toArray, List.set_cons_zero, List.set_cons_succ]
            refine take (i := 2) (d := some 27) (v := .pointer (some ⟨w.heap.size, k, none⟩)) rfl (by kernel_rfl) (by kernel_rfl) (by kernel_rfl) (by kernel_rfl) (fun _ _ _ h => h) (Or.inl ⟨by rfl, by intro w hSw; go_simp⟩) hHeld ?_
            simp only [Act.put, List.setIfInBounds_toArray, List.set_cons_zero, List.set_cons_succ]
            refine take (i := 3) (d := some 28) (v := .iface 164 (.agg #[.int .i64 x1])) rfl (by kernel_rfl) (by kernel_rfl) (by kernel_rfl) (by kernel_rfl) (fun _ _ _ h => h) (Or.inl ⟨by rfl, by intro w hSw; have q1 := hSw.1; go_simp⟩) hHeld ?_
            simp only [Act.put, List.setIfInBounds_toArray, List.set_cons_zero, List.set_cons_succ]
            refine wpAnyH_ready (rs := [4]) (by kernel_rfl) (by simp) (Rg.call1 rfl (by kernel_rfl) 154 (.tmp 28) 158 (by kernel_rfl) 29 (by kernel_rfl) (.iface 164 (.agg #[.int .i64 x1])) (by kernel_rfl) (fun _ => rfl) (Yf.right1y hr _) ?_ AllReadyH.nil)
            rintro e w3 ⟨rfl, hb3⟩
            replace hb3 := Rw.next (Below.drew (Below.refl _ W2)) hb3
            replace q0 := (hb3.cell (World.block_lt_of_cell? _ _ q0)).trans q0
            replace kA2 := (hb3.block _ (Array.getElem?_eq_some_iff.1 kA2).1).trans kA2
            replace hrow2 := hrow2.of_block (hb3.block _ hrow2.lt)
            replace hb2 := Rw.next hb2 hb3
            clear hb3
            refine ⟨_, rfl, ⟨q0, kA2⟩, fun hHeld => ?_⟩
            simp only [Act.put, List.setIfInBounds_toArray, List.set_cons_zero, List.set_cons_succ]
            refine take (i := 5) (d := some 30) (v := .bool false) rfl (by kernel_rfl) (by kernel_rfl) (by kernel_rfl) (by kernel_rfl) (fun _ _ _ h => h) (Or.inl ⟨by rfl, by intro w hSw; go_simp⟩) hHeld ?_
            simp only [Act.put, List.setIfInBounds_toArray, List.set_cons_zero, List.set_cons_succ]
            refine take (i := 6) (d := some 31) (v := .bool false) rfl (by kernel_rfl) (by kernel_rfl) (by kernel_rfl) (by kernel_rfl) (fun _ _ _ h => h) (Or.inl ⟨by rfl, by intro w hSw; go_simp⟩) hHeld ?_
            simp only [Act.put, List.setIfInBounds_toArray, List.set_cons_zero, List.set_cons_succ]
            refine take (i := 7) (d := some 32) (v := .slice (some ⟨w.heap.size, 0, none⟩) n n) rfl (by kernel_rfl) (by kernel_rfl) (by kernel_rfl) (by kernel_rfl) (fun _ _ _ h => h) (Or.inl ⟨by rfl, by intro w hSw; go_simp⟩) hHeld ?_
            simp only [Act.put, List.setIfInBounds_toArray, List.set_cons_zero, List.set_cons_succ]
            refine take (i := 8) (d := some 33) (v := .int .i64 k) rfl (by kernel_rfl) (by kernel_rfl) (by kernel_rfl) (by kernel_rfl) (fun _ _ _ h => h) (Or.inl ⟨by rfl, by intro w hSw; go_simp⟩) hHeld ?_
            simp only [Act.put, List.setIfInBounds_toArray, List.set_cons_zero, List.set_cons_succ]
            refine take (i := 9) (d := some 34) (v := .pointer (some ⟨w.heap.size, k, none⟩)) rfl (by kernel_rfl) (by kernel_rfl) (by kernel_rfl) (by kernel_rfl) (fun _ _ _ h => h) (Or.inl ⟨by rfl, by intro w hSw; go_simp⟩) hHeld ?_
            simp only [Act.put, List.setIfInBounds_toArray, List.set_cons_zero, List.set_cons_succ]
            refine take (i := 10) (d := some 35) (v := .iface 164 (.agg #[.int .i64 x1])) rfl (by kernel_rfl) (by kernel_rfl) (by kernel_rfl) (by kernel_rfl) (fun _ _ _ h => h) (Or.inl ⟨by rfl, by intro w hSw; have q1 := hSw.1; go_simp⟩) hHeld ?_
            simp only [Act.put, List.setIfInBounds_toArray, List.set_cons_zero, List.set_cons_succ]
            refine take (i := 12) (d := some 37) (v := .agg #[.int .i64 1, .int .i64 x1, .int .i64 0]) rfl (by kernel_rfl) (by kernel_rfl) (by kernel_rfl) (by kernel_rfl) (fun _ _ _ h => h) (Or.inl ⟨by rfl, by intro w hSw; have q2 := hSw.2; have d0 := three0 q2; have d1 := three1 q2; have d2 := three2 q2; go_simp⟩) hHeld ?_
            simp only [Act.put, List.setIfInBounds_toArray, List.set_cons_zero, List.set_cons_succ]
            refine wpAnyH_ready (rs := [11]) (by kernel_rfl) (by simp) (Yf.callI rfl (by kernel_rfl) 176 (.tmp 35) rfl 36 (by kernel_rfl) (.iface 164 (.agg #[.int .i64 x1])) (.agg #[.int .i64 x1]) (by kernel_rfl) (fun w => by kernel_rfl) (act1 x1 _) ?_ AllReadyH.nil)
            rintro e w4 ⟨rfl, hb4⟩
            replace q0 := (hb4.cell (World.block_lt_of_cell? _ _ q0)).trans q0
            replace kA2 := (hb4.block _ (Array.getElem?_eq_some_iff.1 kA2).1).trans kA2
            replace hrow2 := hrow2.of_block (hb4.block _ hrow2.lt)
            replace hb2 := Rw.next hb2 hb4
            clear hb4
            refine ⟨_, rfl, ⟨q0, kA2⟩, fun hHeld => ?_⟩
            simp only [Act.put, List.setIfInBounds_toArray, List.set_cons_zero, List.set_cons_succ]
            refine take (i := 13) (d := some 38) (v := .bool false) rfl (by kernel_rfl) (by kernel_rfl) (by kernel_rfl) (by kernel_rfl) (fun _ _ _ h => h) (Or.inl ⟨by rfl, by intro w hSw; go_simp⟩) hHeld ?_
            simp only [Act.put, List.setIfInBounds_toArray, List.set_cons_zero, List.set_cons_succ]
            refine take (i := 14) (d := some 39) (v := .bool false) rfl (by kernel_rfl) (by kernel_rfl) (by kernel_rfl) (by kernel_rfl) (fun _ _ _ h => h) (Or.inl ⟨by rfl, by intro w hSw; go_simp⟩) hHeld ?_
            simp only [Act.put, List.setIfInBounds_toArray, List.set_cons_zero, List.set_cons_succ]
            refine wpAnyH_done (by kernel_rfl) ?_ _
            go_wp2
            all_goals go_roundw
            all_goals first | exact ⟨k + 1, by omega, by go_num, hb2, hrow2, hB⟩ | (simp [intOf]; omega)
          · have hne : (0 == x2) = false := by simpa using fun h : 0 = x2 => h0 h.symm
            go_wp2_with (go_at_call 153; rw [← hW0]; refine (kind_any (1, x1, x2) _).mono ?_; rintro e w1 ⟨rfl, hb⟩; rw [show actV (1, x1, x2) = .iface 164 (.agg #[.int .i64 x1]) from rfl]; replace hrow := hrow.of_block (hb.block _ hlw); replace kA := (hb.block _ zA).trans kA; replace hbel := Rw.next hbel hb; have g0 := hrow.cell hlt; have g1 := hrow.frozen k)
            obtain ⟨W2, hW2⟩ : ∃ W2, W2 = w1.setCell ⟨w.heap.size, k, none⟩ (.iface 164 (.agg #[.int .i64 x1])) := ⟨_, rfl⟩
            rw [← hW2]
            have q0 : W2.cell? ⟨w.heap.size, k, none⟩ = some (.iface 164 (.agg #[.int .i64 x1])) := by subst hW2; exact World.cell?_setCell_same _ _ _ g0
            have kA2 : W2.heap[wr.heap.size]? = some (.cells #[.int .i64 1, .int .i64 x1, .int .i64 x2] 147 (0, 0)) := by subst hW2; exact (Below.heap_setCell _ _ _ _ (fun h => hlt2 h.symm)).trans kA
            have hrow2 : W2.rowIs w.heap.size 158 n (row l (k + 1)) := by subst hW2; have := row_step hrow; rw [HX.out] at this; exact this
            have hb2 : Below w.heap.size w W2 := by subst hW2; exact hbel.setCell (by simp) _
            clear hW2 hrow g0 g1 hbel kA
            have hB := actsB_no (l := l) (k := k) (by have := HN.out; omega) (by rw [HX.out]; simp [actB, h0])
            refine wp_region_held_drew (S := (fun w' => w'.cell? ⟨w.heap.size, k, none⟩ = some (.iface 164 (.agg #[.int .i64 x1])) ∧ w'.heap[wr.heap.size]? = some (.cells #[.int .i64 1, .int .i64 x1, .int .i64 x2] 147 (0, 0)))) (by kernel_rfl) ⟨q0, kA2⟩ (fun hHeld => ?_)
            refine take (i := 0) (d := some 25) (v := .slice (some ⟨w.heap.size, 0, none⟩) n n) rfl (by kernel_rfl) (by kernel_rfl) (by kernel_rfl) (by kernel_rfl) (fun _ _ _ h => h) (Or.inl ⟨by rfl, by intro w hSw; go_simp⟩) hHeld ?_
            simp only [Act.put, List.setIfInBounds_toArray, List.set_cons_zero, List.set_cons_succ]
            refine take (i := 1) (d := some 26) (v := .int .i64 k) rfl (by kernel_rfl) (by kernel_rfl) (by kernel_rfl) (by kernel_rfl) (fun _ _ _ h => h) (Or.inl ⟨by rfl, by intro w hSw; go_simp⟩) hHeld ?_
            simp only [Act.put, List.setIfInBounds_toArray, List.set_cons_zero, List.set_cons_succ]
            refine take (i := 2) (d := some 27) (v := .pointer (some ⟨w.heap.size, k, none⟩)) rfl (by kernel_rfl) (by kernel_rfl) (by kernel_rfl) (by kernel_rfl) (fun _ _ _ h => h) (Or.inl ⟨by rfl, by intro w hSw; go_simp⟩) hHeld ?_
            simp only [Act.put, List.setIfInBounds_toArray, List.set_cons_zero, List.set_cons_succ]
            refine take (i := 3) (d := some 28) (v := .iface 164 (.agg #[.int .i64 x1])) rfl (by kernel_rfl) (by kernel_rfl) (by kernel_rfl) (by kernel_rfl) (fun _ _ _ h => h) (Or.inl ⟨by rfl, by intro w hSw; have q1 := hSw.1; go_simp⟩) hHeld ?_
            simp only [Act.put, List.setIfInBounds_toArray, List.set_cons_zero, List.set_cons_succ]
            refine wpAnyH_ready (rs := [4]) (by kernel_rfl) (by simp) (Rg.call1 rfl (by kernel_rfl) 154 (.tmp 28) 158 (by kernel_rfl) 29 (by kernel_rfl) (.iface 164 (.agg #[.int .i64 x1])) (by kernel_rfl) (fun _ => rfl) (Yf.right1y hr _) ?_ AllReadyH.nil)
            rintro e w3 ⟨rfl, hb3⟩
            replace hb3 := Rw.next (Below.drew (Below.refl _ W2)) hb3
            replace q0 := (hb3.cell (World.block_lt_of_cell? _ _ q0)).trans q0
            replace kA2 := (hb3.block _ (Array.getElem?_eq_some_iff.1 kA2).1).trans kA2
            replace hrow2 := hrow2.of_block (hb3.block _ hrow2.lt)
            replace hb2 := Rw.next hb2 hb3
            clear hb3
            refine ⟨_, rfl, ⟨q0, kA2⟩, fun hHeld => ?_⟩
            simp only [Act.put, List.setIfInBounds_toArray, List.set_cons_zero, List.set_cons_succ]
            refine take (i := 5) (d := some 30) (v := .bool false) rfl (by kernel_rfl) (by kernel_rfl) (by kernel_rfl) (by kernel_rfl) (fun _ _ _ h => h) (Or.inl ⟨by rfl, by intro w hSw; go_simp⟩) hHeld ?_
            simp only [Act.put, List.setIfInBounds_toArray, List.set_cons_zero, List.set_cons_succ]
            refine take (i := 6) (d := some 31) (v := .bool false) rfl (by kernel_rfl) (by kernel_rfl) (by kernel_rfl) (by kernel_rfl) (fun _ _ _ h => h) (Or.inl ⟨by rfl, by intro w hSw; go_simp⟩) hHeld ?_
            simp only [Act.put, List.setIfInBounds_toArray, List.set_cons_zero, List.set_cons_succ]
            refine take (i := 7) (d := some 32) (v := .slice (some ⟨w.heap.size, 0, none⟩) n n) rfl (by kernel_rfl) (by kernel_rfl) (by kernel_rfl) (by kernel_rfl) (fun _ _ _ h => h) (Or.inl ⟨by rfl, by intro w hSw; go_simp⟩) hHeld ?_
            simp only [Act.put, List.setIfInBounds_toArray, List.set_cons_zero, List.set_cons_succ]
            refine take (i := 8) (d := some 33) (v := .int .i64 k) rfl (by kernel_rfl) (by kernel_rfl) (by kernel_rfl) (by kernel_rfl) (fun _ _ _ h => h) (Or.inl ⟨by rfl, by intro w hSw; go_simp⟩) hHeld ?_
            simp only [Act.put, List.setIfInBounds_toArray, List.set_cons_zero, List.set_cons_succ]
            refine take (i := 9) (d := some 34) (v := .pointer (some ⟨w.heap.size, k, none⟩)) rfl (by kernel_rfl) (by kernel_rfl) (by kernel_rfl) (by kernel_rfl) (fun _ _ _ h => h) (Or.inl ⟨by rfl, by intro w hSw; go_simp⟩) hHeld ?_
            simp only [Act.put, List.setIfInBounds_toArray, List.set_cons_zero, List.set_cons_succ]
            refine take (i := 10) (d := some 35) (v := .iface 164 (.agg #[.int .i64 x1])) rfl (by kernel_rfl) (by kernel_rfl) (by kernel_rfl) (by kernel_rfl) (fun _ _ _ h => h) (Or.inl ⟨by rfl, by intro w hSw; have q1 := hSw.1; go_simp⟩) hHeld ?_
            simp only [Act.put, List.setIfInBounds_toArray, List.set_cons_zero, List.set_cons_succ]
            refine take (i := 12) (d := some 37) (v := .agg #[.int .i64 1, .int .i64 x1, .int .i64 x2]) rfl (by kernel_rfl) (by kernel_rfl) (by kernel_rfl) (by kernel_rfl) (fun _ _ _ h => h) (Or.inl ⟨by rfl, by intro w hSw; have q2 := hSw.2; have d0 := three0 q2; have d1 := three1 q2; have d2 := three2 q2; go_simp⟩) hHeld ?_
            simp only [Act.put, List.setIfInBounds_toArray, List.set_cons_zero, List.set_cons_succ]
            refine wpAnyH_ready (rs := [11]) (by kernel_rfl) (by simp) (Yf.callI rfl (by kernel_rfl) 176 (.tmp 35) rfl 36 (by kernel_rfl) (.iface 164 (.agg #[.int .i64 x1])) (.agg #[.int .i64 x1]) (by kernel_rfl) (fun w => by kernel_rfl) (act1 x1 _) ?_ AllReadyH.nil)
            rintro e w4 ⟨rfl, hb4⟩
            replace q0 := (hb4.cell (World.block_lt_of_cell? _ _ q0)).trans q0
            replace kA2 := (hb4.block _ (Array.getElem?_eq_some_iff.1 kA2).1).trans kA2
            replace hrow2 := hrow2.of_block (hb4.block _ hrow2.lt)
            replace hb2 := Rw.next hb2 hb4
            clear hb4
            refine ⟨_, rfl, ⟨q0, kA2⟩, fun hHeld => ?_⟩
            simp only [Act.put, List.setIfInBounds_toArray, List.set_cons_zero, List.set_cons_succ]
            refine take (i := 13) (d := some 38) (v := .bool true) rfl (by kernel_rfl) (by kernel_rfl) (by kernel_rfl) (by kernel_rfl) (fun _ _ _ h => h) (Or.inl ⟨by rfl, by intro w hSw; go_simp⟩) hHeld ?_
            simp only [Act.put, List.setIfInBounds_toArray, List.set_cons_zero, List.set_cons_succ]
            refine take (i := 14) (d := some 39) (v := .bool true) rfl (by kernel_rfl) (by kernel_rfl) (by kernel_rfl) (by kernel_rfl) (fun _ _ _ h => h) (Or.inl ⟨by rfl, by intro w hSw; go_simp⟩) hHeld ?_
            simp only [Act.put, List.setIfInBounds_toArray, List.set_cons_zero, List.set_cons_succ]
            refine wpAnyH_done (by kernel_rfl) ?_ _
            go_wp2
            all_goals exact bodyPost_ret (v := .tuple #[.slice none 0 0, .bool false]) (by simp [results, Try.results141, go_sem]) rfl ⟨hb2, fun _ => rfl, fun h => (by rw [hB] at h; cases h)⟩
        · skip
          go_wp2_with (go_at_call 153; rw [← hW0]; refine (kind_any (1, x1, x2) _).mono ?_; rintro e w1 ⟨rfl, hb⟩; rw [show actV (1, x1, x2) = .iface 164 (.agg #[.int .i64 x1]) from rfl]; replace hrow := hrow.of_block (hb.block _ hlw); replace kA := (hb.block _ zA).trans kA; replace hbel := Rw.next hbel hb; have g0 := hrow.cell hlt; have g1 := hrow.frozen k)
          obtain ⟨W2, hW2⟩ : ∃ W2, W2 = w1.setCell ⟨w.heap.size, k, none⟩ (.iface 164 (.agg #[.int .i64 x1])) := ⟨_, rfl⟩
          rw [← hW2]
          have q0 : W2.cell? ⟨w.heap.size, k, none⟩ = some (.iface 164 (.agg #[.int .i64 x1])) := by subst hW2; exact World.cell?_setCell_same _ _ _ g0
          have kA2 : W2.heap[wr.heap.size]? = some (.cells #[.int .i64 1, .int .i64 x1, .int .i64 x2] 147 (0, 0)) := by subst hW2; exact (Below.heap_setCell _ _ _ _ (fun h => hlt2 h.symm)).trans kA
          have hrow2 : W2.rowIs w.heap.size 158 n (row l (k + 1)) := by subst hW2; have := row_step hrow; rw [HX.out] at this; exact this
          have hb2 : Below w.heap.size w W2 := by subst hW2; exact hbel.setCell (by simp) _
          clear hW2 hrow g0 g1 hbel kA
          have hB := actsB_no (l := l) (k := k) (by have := HN.out; omega) (by rw [HX.out]; simp [actB]; omega)
          refine wp_region_held_drew (S := (fun w' => w'.cell? ⟨w.heap.size, k, none⟩ = some (.iface 164 (.agg #[.int .i64 x1])) ∧ w'.heap[wr.heap.size]? = some (.cells #[.int .i64 1, .int .i64 x1, .int .i64 x2] 147 (0, 0)))) (by kernel_rfl) ⟨q0, kA2⟩ (fun hHeld => ?_)
          refine take (i := 0) (d := some 25) (v := .slice (some ⟨w.heap.size, 0, none⟩) n n) rfl (by kernel_rfl) (by kernel_rfl) (by kernel_rfl) (by kernel_rfl) (fun _ _ _ h => h) (Or.inl ⟨by rfl, by intro w hSw; go_simp⟩) hHeld ?_
          simp only [Act.put, List.setIfInBounds_toArray, List.set_cons_zero, List.set_cons_succ]
          refine take (i := 1) (d := some 26) (v := .int .i64 k) rfl (by kernel_rfl) (by kernel_rfl) (by kernel_rfl) (by kernel_rfl) (fun _ _ _ h => h) (Or.inl ⟨by rfl, by intro w hSw; go_simp⟩) hHeld ?_
          simp only [Act.put, List.setIfInBounds_toArray, List.set_cons_zero, List.set_cons_succ]
          refine take (i := 2) (d := some 27) (v := .pointer (some ⟨w.heap.size, k, none⟩)) rfl (by kernel_rfl) (by kernel_rfl) (by kernel_rfl) (by kernel_rfl) (fun _ _ _ h => h) (Or.inl ⟨by rfl, by intro w hSw; go_simp⟩) hHeld ?_
          simp only [Act.put, List.setIfInBounds_toArray, List.set_cons_zero, List.set_cons_succ]
          refine take (i := 3) (d := some 28) (v := .iface 164 (.agg #[.int .i64 x1])) rfl (by kernel_rfl) (by kernel_rfl) (by kernel_rfl) (by kernel_rfl) (fun _ _ _ h => h) (Or.inl ⟨by rfl, by intro w hSw; have q1 := hSw.1; go_simp⟩) hHeld ?_
          simp only [Act.put, List.setIfInBounds_toArray, List.set_cons_zero, List.set_cons_succ]
          refine wpAnyH_ready (rs := [4]) (by kernel_rfl) (by simp) (Rg.call1 rfl (by kernel_rfl) 154 (.tmp 28) 158 (by kernel_rfl) 29 (by kernel_rfl) (.iface 164 (.agg #[.int .i64 x1])) (by kernel_rfl) (fun _ => rfl) (Yf.right1n hr _) ?_ AllReadyH.nil)
          rintro e w3 ⟨rfl, hb3⟩
          replace hb3 := Rw.next (Below.drew (Below.refl _ W2)) hb3
          replace q0 := (hb3.cell (World.block_lt_of_cell? _ _ q0)).trans q0
          replace kA2 := (hb3.block _ (Array.getElem?_eq_some_iff.1 kA2).1).trans kA2
          replace hrow2 := hrow2.of_block (hb3.block _ hrow2.lt)
          replace hb2 := Rw.next hb2 hb3
          clear hb3
          refine ⟨_, rfl, ⟨q0, kA2⟩, fun hHeld => ?_⟩
          simp only [Act.put, List.setIfInBounds_toArray, List.set_cons_zero, List.set_cons_succ]
          refine take (i := 5) (d := some 30) (v := .bool true) rfl (by kernel_rfl) (by kernel_rfl) (by kernel_rfl) (by kernel_rfl) (fun _ _ _ h => h) (Or.inl ⟨by rfl, by intro w hSw; go_simp⟩) hHeld ?_
          simp only [Act.put, List.setIfInBounds_toArray, List.set_cons_zero, List.set_cons_succ]
          refine take (i := 6) (d := some 31) (v := .bool true) rfl (by kernel_rfl) (by kernel_rfl) (by kernel_rfl) (by kernel_rfl) (fun _ _ _ h => h) (Or.inl ⟨by rfl, by intro w hSw; go_simp⟩) hHeld ?_
          simp only [Act.put, List.setIfInBounds_toArray, List.set_cons_zero, List.set_cons_succ]
          refine take (i := 7) (d := some 32) (v := undef) rfl (by kernel_rfl) (by kernel_rfl) (by kernel_rfl) (by kernel_rfl) (fun _ _ _ h => h) (Or.inr ⟨by rfl, rfl⟩) hHeld ?_
          simp only [Act.put, List.setIfInBounds_toArray, List.set_cons_zero, List.set_cons_succ]
          refine take (i := 8) (d := some 33) (v := undef) rfl (by kernel_rfl) (by kernel_rfl) (by kernel_rfl) (by kernel_rfl) (fun _ _ _ h => h) (Or.inr ⟨by rfl, rfl⟩) hHeld ?_
          simp only [Act.put, List.setIfInBounds_toArray, List.set_cons_zero, List.set_cons_succ]
          refine take (i := 9) (d := some 34) (v := undef) rfl (by kernel_rfl) (by kernel_rfl) (by kernel_rfl) (by kernel_rfl) (fun _ _ _ h => h) (Or.inr ⟨by rfl, rfl⟩) hHeld ?_
          simp only [Act.put, List.setIfInBounds_toArray, List.set_cons_zero, List.set_cons_succ]
          refine take (i := 10) (d := some 35) (v := undef) rfl (by kernel_rfl) (by kernel_rfl) (by kernel_rfl) (by kernel_rfl) (fun _ _ _ h => h) (Or.inr ⟨by rfl, rfl⟩) hHeld ?_
          simp only [Act.put, List.setIfInBounds_toArray, List.set_cons_zero, List.set_cons_succ]
          refine take (i := 11) (d := some 36) (v := undef) rfl (by kernel_rfl) (by kernel_rfl) (by kernel_rfl) (by kernel_rfl) (fun _ _ _ h => h) (Or.inr ⟨by rfl, rfl⟩) hHeld ?_
          simp only [Act.put, List.setIfInBounds_toArray, List.set_cons_zero, List.set_cons_succ]
          refine take (i := 12) (d := some 37) (v := undef) rfl (by kernel_rfl) (by kernel_rfl) (by kernel_rfl) (by kernel_rfl) (fun _ _ _ h => h) (Or.inr ⟨by rfl, rfl⟩) hHeld ?_
          simp only [Act.put, List.setIfInBounds_toArray, List.set_cons_zero, List.set_cons_succ]
          refine take (i := 13) (d := some 38) (v := undef) rfl (by kernel_rfl) (by kernel_rfl) (by kernel_rfl) (by kernel_rfl) (fun _ _ _ h => h) (Or.inr ⟨by rfl, rfl⟩) hHeld ?_
          simp only [Act.put, List.setIfInBounds_toArray, List.set_cons_zero, List.set_cons_succ]
          refine take (i := 14) (d := some 39) (v := .bool true) rfl (by kernel_rfl) (by kernel_rfl) (by kernel_rfl) (by kernel_rfl) (fun _ _ _ h => h) (Or.inl ⟨by rfl, by intro w hSw; go_simp⟩) hHeld ?_
          simp only [Act.put, List.setIfInBounds_toArray, List.set_cons_zero, List.set_cons_succ]
          refine wpAnyH_done (by kernel_rfl) ?_ _
          go_wp2
          all_goals exact bodyPost_ret (v := .tuple #[.slice none 0 0, .bool false]) (by simp [results, Try.results141, go_sem]) rfl ⟨hb2, fun _ => rfl, fun h => (by rw [hB] at h; cases h)⟩
      by_cases k2 : x0 = 2
      · subst k2
        by_cases h0 : x1 = 0
        · subst h0
          by_cases h1 : x2 = 0
          · subst h1
            go_wp2_with (go_at_call 153; rw [← hW0]; refine (kind_any (2, 0, 0) _).mono ?_; rintro e w1 ⟨rfl, hb⟩; rw [show actV (2, 0, 0) = .iface 166 (.agg #[]) from rfl]; replace hrow := hrow.of_block (hb.block _ hlw); replace kA := (hb.block _ zA).trans kA; replace hbel := Rw.next hbel hb; have g0 := hrow.cell hlt; have g1 := hrow.frozen k)
            obtain ⟨W2, hW2⟩ : ∃ W2, W2 = w1.setCell ⟨w.heap.size, k, none⟩ (.iface 166 (.agg #[])) := ⟨_, rfl⟩
            rw [← hW2]
            have q0 : W2.cell? ⟨w.heap.size, k, none⟩ = some (.iface 166 (.agg #[])) := by subst hW2; exact World.cell?_setCell_same _ _ _ g0
            have kA2 : W2.heap[wr.heap.size]? = some (.cells #[.int .i64 2, .int .i64 0, .int .i64 0] 147 (0, 0)) := by subst hW2; exact (Below.heap_setCell _ _ _ _ (fun h => hlt2 h.symm)).trans kA
            have hrow2 : W2.rowIs w.heap.size 158 n (row l (k + 1)) := by subst hW2; have := row_step hrow; rw [HX.out] at this; exact this
            have hb2 : Below w.heap.size w W2 := by subst hW2; exact hbel.setCell (by simp) _
            clear hW2 hrow g0 g1 hbel kA
            have hB := pre_step HP.out (by rw [HX.out]; simp [actB])
            refine wp_region_held_drew (S := (fun w' => w'.cell? ⟨w.heap.size, k, none⟩ = some (.iface 166 (.agg #[])) ∧ w'.heap[wr.heap.size]? = some (.cells #[.int .i64 2, .int .i64 0, .int .i64 0] 147 (0, 0)))) (by kernel_rfl) ⟨q0, kA2⟩ (fun hHeld => ?_)
            refine take (i := 0) (d := some 25) (v := .slice (some ⟨w.heap.size, 0, none⟩) n n) rfl (by kernel_rfl) (by kernel_rfl) (by kernel_rfl) (by kernel_rfl) (fun _ _ _ h => h) (Or.inl ⟨by rfl, by intro w hSw; go_simp⟩) hHeld ?_
            simp only [Act.put, List.setIfInBounds_toArray, List.set_cons_zero, List.set_cons_succ]
            refine take (i := 1) (d := some 26) (v := .int .i64 k) rfl (by kernel_rfl) (by kernel_rfl) (by kernel_rfl) (by kernel_rfl) (fun _ _ _ h => h) (Or.inl ⟨by rfl, by intro w hSw; go_simp⟩) hHeld ?_
            simp only [Act.put, List.setIfInBounds_toArray, List.set_cons_zero, List.set_cons_succ]
            refine take (i := 2) (d := some 27) (v := .pointer (some ⟨w.heap.size, k, none⟩)) rfl (by kernel_rfl) (by kernel_rfl) (by kernel_rfl) (by kernel_rfl) (fun _ _ _ h => h) (Or.inl ⟨by rfl, by intro w hSw; go_simp⟩) hHeld ?_
            simp only [Act.put, List.setIfInBounds_toArray, List.set_cons_zero, List.set_cons_succ]
            refine take (i := 3) (d := some 28) (v := .iface 166 (.agg #[])) rfl (by kernel_rfl) (by kernel_rfl) (by kernel_rfl) (by kernel_rfl) (fun _ _ _ h => h) (Or.inl ⟨by rfl, by intro w hSw; have q1 := hSw.1; go_simp⟩) hHeld ?_
            simp only [Act.put, List.setIfInBounds_toArray, List.set_cons_zero, List.set_cons_succ]
            refine wpAnyH_ready (rs := [4]) (by kernel_rfl) (by simp) (Rg.call1 rfl (by kernel_rfl) 154 (.tmp 28) 158 (by kernel_rfl) 29 (by kernel_rfl) (.iface 166 (.agg #[])) (by kernel_rfl) (fun _ => rfl) (right2 _) ?_ AllReadyH.nil)
            rintro e w3 ⟨rfl, hb3⟩
            replace hb3 := Rw.next (Below.drew (Below.refl _ W2)) hb3
            replace q0 := (hb3.cell (World.block_lt_of_cell? _ _ q0)).trans q0
            replace kA2 := (hb3.block _ (Array.getElem?_eq_some_iff.1 kA2).1).trans kA2
            replace hrow2 := hrow2.of_block (hb3.block _ hrow2.lt)
            replace hb2 := Rw.next hb2 hb3
            clear hb3
            refine ⟨_, rfl, ⟨q0, kA2⟩, fun hHeld => ?_⟩
            simp only [Act.put, List.setIfInBounds_toArray, List.set_cons_zero, List.set_cons_succ]
            refine take (i := 5) (d := some 30) (v := .bool false) rfl (by kernel_rfl) (by kernel_rfl) (by kernel_rfl) (by kernel_rfl) (fun _ _ _ h => h) (Or.inl ⟨by rfl, by intro w hSw; go_simp⟩) hHeld ?_
            simp only [Act.put, List.setIfInBounds_toArray, List.set_cons_zero, List.set_cons_succ]
            refine take (i := 6) (d := some 31) (v := .bool false) rfl (by kernel_rfl) (by kernel_rfl) (by kernel_rfl) (by kernel_rfl) (fun _ _ _ h => h) (Or.inl ⟨by rfl, by intro w hSw; go_simp⟩) hHeld ?_
            simp only [Act.put, List.setIfInBounds_toArray, List.set_cons_zero, List.set_cons_succ]
            refine take (i := 7) (d := some 32) (v := .slice (some ⟨w.heap.size, 0, none⟩) n n) rfl (by kernel_rfl) (by kernel_rfl) (by kernel_rfl) (by kernel_rfl) (fun _ _ _ h => h) (Or.inl ⟨by rfl, by intro w hSw; go_simp⟩) hHeld ?_
            simp only [Act.put, List.setIfInBounds_toArray, List.set_cons_zero, List.set_cons_succ]
            refine take (i := 8) (d := some 33) (v := .int .i64 k) rfl (by kernel_rfl) (by kernel_rfl) (by kernel_rfl) (by kernel_rfl) (fun _ _ _ h => h) (Or.inl ⟨by rfl, by intro w hSw; go_simp⟩) hHeld ?_
            simp only [Act.put, List.setIfInBounds_toArray, List.set_cons_zero, List.set_cons_succ]
            refine take (i := 9) (d := some 34) (v := .pointer (some ⟨w.heap.size, k, none⟩)) rfl (by kernel_rfl) (by kernel_rfl) (by kernel_rfl) (by kernel_rfl) (fun _ _ _ h => h) (Or.inl ⟨by rfl, by intro w hSw; go_simp⟩) hHeld ?_
            simp only [Act.put, List.setIfInBounds_toArray, List.set_cons_zero, List.set_cons_succ]
            refine take (i := 10) (d := some 35) (v := .iface 166 (.agg #[])) rfl (by kernel_rfl) (by kernel_rfl) (by kernel_rfl) (by kernel_rfl) (fun _ _ _ h => h) (Or.inl ⟨by rfl, by intro w hSw; have q1 := hSw.1; go_simp⟩) hHeld ?_
            simp only [Act.put, List.setIfInBounds_toArray, List.set_cons_zero, List.set_cons_succ]
            refine take (i := 12) (d := some 37) (v := .agg #[.int .i64 2, .int .i64 0, .int .i64 0]) rfl (by kernel_rfl) (by kernel_rfl) (by kernel_rfl) (by kernel_rfl) (fun _ _ _ h => h) (Or.inl ⟨by rfl, by intro w hSw; have q2 := hSw.2; have d0 := three0 q2; have d1 := three1 q2; have d2 := three2 q2; go_simp⟩) hHeld ?_
            simp only [Act.put, List.setIfInBounds_toArray, List.set_cons_zero, List.set_cons_succ]
            refine wpAnyH_ready (rs := [11]) (by kernel_rfl) (by simp) (Yf.callI rfl (by kernel_rfl) 177 (.tmp 35) rfl 36 (by kernel_rfl) (.iface 166 (.agg #[])) (.agg #[]) (by kernel_rfl) (fun w => by kernel_rfl) (act2 _) ?_ AllReadyH.nil)
            rintro e w4 ⟨rfl, hb4⟩
            replace q0 := (hb4.cell (World.block_lt_of_cell? _ _ q0)).trans q0
            replace kA2 := (hb4.block _ (Array.getElem?_eq_some_iff.1 kA2).1).trans kA2
            replace hrow2 := hrow2.of_block (hb4.block _ hrow2.lt)
            replace hb2 := Rw.next hb2 hb4
            clear hb4
            refine ⟨_, rfl, ⟨q0, kA2⟩, fun hHeld => ?_⟩
            simp only [Act.put, List.setIfInBounds_toArray, List.set_cons_zero, List.set_cons_succ]
            refine take (i := 13) (d := some 38) (v := .bool false) rfl (by kernel_rfl) (by kernel_rfl) (by kernel_rfl) (by kernel_rfl) (fun _ _ _ h => h) (Or.inl ⟨by rfl, by intro w hSw; go_simp⟩) hHeld ?_
            simp only [Act.put, List.setIfInBounds_toArray, List.set_cons_zero, List.set_cons_succ]
            refine take (i := 14) (d := some 39) (v := .bool false) rfl (by kernel_rfl) (by kernel_rfl) (by kernel_rfl) (by kernel_rfl) (fun _ _ _ h => h) (Or.inl ⟨by rfl, by intro w hSw; go_simp⟩) hHeld ?_
            simp only [Act.put, List.setIfInBounds_toArray, List.set_cons_zero, List.set_cons_succ]
            refine wpAnyH_done (by kernel_rfl) ?_ _
            go_wp2
            all_goals go_roundw
            all_goals first | exact ⟨k + 1, by omega, by go_num, hb2, hrow2, hB⟩ | (simp [intOf]; omega)
          · have hne : (0 == x2) = false := by simpa using fun h : 0 = x2 => h1 h.symm
            go_wp2_with (go_at_call 153; rw [← hW0]; refine (kind_any (2, 0, x2) _).mono ?_; rintro e w1 ⟨rfl, hb⟩; rw [show actV (2, 0, x2) = .iface 166 (.agg #[]) from rfl]; replace hrow := hrow.of_block (hb.block _ hlw); replace kA := (hb.block _ zA).trans kA; replace hbel := Rw.next hbel hb; have g0 := hrow.cell hlt; have g1 := hrow.frozen k)
            obtain ⟨W2, hW2⟩ : ∃ W2, W2 = w1.setCell ⟨w.heap.size, k, none⟩ (.iface 166 (.agg #[])) := ⟨_, rfl⟩
            rw [← hW2]
            have q0 : W2.cell? ⟨w.heap.size, k, none⟩ = some (.iface 166 (.agg #[])) := by subst hW2; exact World.cell?_setCell_same _ _ _ g0
            have kA2 : W2.heap[wr.heap.size]? = some (.cells #[.int .i64 2, .int .i64 0, .int .i64 x2] 147 (0, 0)) := by subst hW2; exact (Below.heap_setCell _ _ _ _ (fun h => hlt2 h.symm)).trans kA
            have hrow2 : W2.rowIs w.heap.size 158 n (row l (k + 1)) := by subst hW2; have := row_step hrow; rw [HX.out] at this; exact this
            have hb2 : Below w.heap.size w W2 := by subst hW2; exact hbel.setCell (by simp) _
            clear hW2 hrow g0 g1 hbel kA
            have hB := actsB_no (l := l) (k := k) (by have := HN.out; omega) (by rw [HX.out]; simp [actB, h1])
            refine wp_region_held_drew (S := (fun w' => w'.cell? ⟨w.heap.size, k, none⟩ = some (.iface 166 (.agg #[])) ∧ w'.heap[wr.heap.size]? = some (.cells #[.int .i64 2, .int .i64 0, .int .i64 x2] 147 (0, 0)))) (by kernel_rfl) ⟨q0, kA2⟩ (fun hHeld => ?_)
            refine take (i := 0) (d := some 25) (v := .slice (some ⟨w.heap.size, 0, none⟩) n n) rfl (by kernel_rfl) (by kernel_rfl) (by kernel_rfl) (by kernel_rfl) (fun _ _ _ h => h) (Or.inl ⟨by rfl, by intro w hSw; go_simp⟩) hHeld ?_
            simp only [Act.put, List.setIfInBounds_toArray, List.set_cons_zero, List.set_cons_succ]
            refine take (i := 1) (d := some 26) (v := .int .i64 k) rfl (by kernel_rfl) (by kernel_rfl) (by kernel_rfl) (by kernel_rfl) (fun _ _ _ h => h) (Or.inl ⟨by rfl, by intro w hSw; go_simp⟩) hHeld ?_
            simp only [Act.put, List.setIfInBounds_toArray, List.set_cons_zero, List.set_cons_succ]
            refine take (i := 2) (d := some 27) (v := .pointer (some ⟨w.heap.size, k, none⟩)) rfl (by kernel_rfl) (by kernel_rfl) (by kernel_rfl) (by kernel_rfl) (fun _ _ _ h => h) (Or.inl ⟨by rfl, by intro w hSw; go_simp⟩) hHeld ?_
            simp only [Act.put, List.setIfInBounds_toArray, List.set_cons_zero, List.set_cons_succ]
            refine take (i := 3) (d := some 28) (v := .iface 166 (.agg #[])) rfl (by kernel_rfl) (by kernel_rfl) (by kernel_rfl) (by kernel_rfl) (fun _ _ _ h => h) (Or.inl ⟨by rfl, by intro w hSw; have q1 := hSw.1; go_simp⟩) hHeld ?_
            simp only [Act.put, List.setIfInBounds_toArray, List.set_cons_zero, List.set_cons_succ]
            refine wpAnyH_ready (rs := [4]) (by kernel_rfl) (by simp) (Rg.call1 rfl (by kernel_rfl) 154 (.tmp 28) 158 (by kernel_rfl) 29 (by kernel_rfl) (.iface 166 (.agg #[])) (by kernel_rfl) (fun _ => rfl) (right2 _) ?_ AllReadyH.nil)
            rintro e w3 ⟨rfl, hb3⟩
            replace hb3 := Rw.next (Below.drew (Below.refl _ W2)) hb3
            replace q0 := (hb3.cell (World.block_lt_of_cell? _ _ q0)).trans q0
            replace kA2 := (hb3.block _ (Array.getElem?_eq_some_iff.1 kA2).1).trans kA2
            replace hrow2 := hrow2.of_block (hb3.block _ hrow2.lt)
            replace hb2 := Rw.next hb2 hb3
            clear hb3
            refine ⟨_, rfl, ⟨q0, kA2⟩, fun hHeld => ?_⟩
            simp only [Act.put, List.setIfInBounds_toArray, List.set_cons_zero, List.set_cons_succ]
            refine take (i := 5) (d := some 30) (v := .bool false) rfl (by kernel_rfl) (by kernel_rfl) (by kernel_rfl) (by kernel_rfl) (fun _ _ _ h => h) (Or.inl ⟨by rfl, by intro w hSw; go_simp⟩) hHeld ?_
            simp only [Act.put, List.setIfInBounds_toArray, List.set_cons_zero, List.set_cons_succ]
            refine take (i := 6) (d := some 31) (v := .bool false) rfl (by kernel_rfl) (by kernel_rfl) (by kernel_rfl) (by kernel_rfl) (fun _ _ _ h => h) (Or.inl ⟨by rfl, by intro w hSw; go_simp⟩) hHeld ?_
            simp only [Act.put, List.setIfInBounds_toArray, List.set_cons_zero, List.set_cons_succ]
            refine take (i := 7) (d := some 32) (v := .slice (some ⟨w.heap.size, 0, none⟩) n n) rfl (by kernel_rfl) (by kernel_rfl) (by kernel_rfl) (by kernel_rfl) (fun _ _ _ h => h) (Or.inl ⟨by rfl, by intro w hSw; go_simp⟩) hHeld ?_
            simp only [Act.put, List.setIfInBounds_toArray, List.set_cons_zero, List.set_cons_succ]
            refine take (i := 8) (d := some 33) (v := .int .i64 k) rfl (by kernel_rfl) (by kernel_rfl) (by kernel_rfl) (by kernel_rfl) (fun _ _ _ h => h) (Or.inl ⟨by rfl, by intro w hSw; go_simp⟩) hHeld ?_
            simp only [Act.put, List.setIfInBounds_toArray, List.set_cons_zero, List.set_cons_succ]
            refine take (i := 9) (d := some 34) (v := .pointer (some ⟨w.heap.size, k, none⟩)) rfl (by kernel_rfl) (by kernel_rfl) (by kernel_rfl) (by kernel_rfl) (fun _ _ _ h => h) (Or.inl ⟨by rfl, by intro w hSw; go_simp⟩) hHeld ?_
            simp only [Act.put, List.setIfInBounds_toArray, List.set_cons_zero, List.set_cons_succ]
            refine take (i := 10) (d := some 35) (v := .iface 166 (.agg #[])) rfl (by kernel_rfl) (by kernel_rfl) (by kernel_rfl) (by kernel_rfl) (fun _ _ _ h => h) (Or.inl ⟨by rfl, by intro w hSw; have q1 := hSw.1; go_simp⟩) hHeld ?_
            simp only [Act.put, List.setIfInBounds_toArray, List.set_cons_zero, List.set_cons_succ]
            refine take (i := 12) (d := some 37) (v := .agg #[.int .i64 2, .int .i64 0, .int .i64 x2]) rfl (by kernel_rfl) (by kernel_rfl) (by kernel_rfl) (by kernel_rfl) (fun _ _ _ h => h) (Or.inl ⟨by rfl, by intro w hSw; have q2 := hSw.2; have d0 := three0 q2; have d1 := three1 q2; have d2 := three2 q2; go_simp⟩) hHeld ?_
            simp only [Act.put, List.setIfInBounds_toArray, List.set_cons_zero, List.set_cons_succ]
            refine wpAnyH_ready (rs := [11]) (by kernel_rfl) (by simp) (Yf.callI rfl (by kernel_rfl) 177 (.tmp 35) rfl 36 (by kernel_rfl) (.iface 166 (.agg #[])) (.agg #[]) (by kernel_rfl) (fun w => by kernel_rfl) (act2 _) ?_ AllReadyH.nil)
            rintro e w4 ⟨rfl, hb4⟩
            replace q0 := (hb4.cell (World.block_lt_of_cell? _ _ q0)).trans q0
            replace kA2 := (hb4.block _ (Array.getElem?_eq_some_iff.1 kA2).1).trans kA2
            replace hrow2 := hrow2.of_block (hb4.block _ hrow2.lt)
            replace hb2 := Rw.next hb2 hb4
            clear hb4
            refine ⟨_, rfl, ⟨q0, kA2⟩, fun hHeld => ?_⟩
            simp only [Act.put, List.setIfInBounds_toArray, List.set_cons_zero, List.set_cons_succ]
            refine take (i := 13) (d := some 38) (v := .bool true) rfl (by kernel_rfl) (by kernel_rfl) (by kernel_rfl) (by kernel_rfl) (fun _ _ _ h => h) (Or.inl ⟨by rfl, by intro w hSw; go_simp⟩) hHeld ?_
            simp only [Act.put, List.setIfInBounds_toArray, List.set_cons_zero, List.set_cons_succ]
            refine take (i := 14) (d := some 39) (v := .bool true) rfl (by kernel_rfl) (by kernel_rfl) (by kernel_rfl) (by kernel_rfl) (fun _ _ _ h => h) (Or.inl ⟨by rfl, by intro w hSw; go_simp⟩) hHeld ?_
            simp only [Act.put, List.setIfInBounds_toArray, List.set_cons_zero, List.set_cons_succ]
            refine wpAnyH_done (by kernel_rfl) ?_ _
            go_wp2
            all_goals exact bodyPost_ret (v := .tuple #[.slice none 0 0, .bool false]) (by simp [results, Try.results141, go_sem]) rfl ⟨hb2, fun _ => rfl, fun h => (by rw [hB] at h; cases h)⟩
        · have hne : (0 == x1) = false := by simpa using fun h : 0 = x1 => h0 h.symm
          go_wp2_with (go_at_call 153; rw [← hW0]; refine (kind_any (2, x1, x2) _).mono ?_; rintro e w1 ⟨rfl, hb⟩; rw [show actV (2, x1, x2) = .iface 166 (.agg #[]) from rfl]; replace hrow := hrow.of_block (hb.block _ hlw); replace kA := (hb.block _ zA).trans kA; replace hbel := Rw.next hbel hb; have g0 := hrow.cell hlt; have g1 := hrow.frozen k)
          obtain ⟨W2, hW2⟩ : ∃ W2, W2 = w1.setCell ⟨w.heap.size, k, none⟩ (.iface 166 (.agg #[])) := ⟨_, rfl⟩
          rw [← hW2]
          have q0 : W2.cell? ⟨w.heap.size, k, none⟩ = some (.iface 166 (.agg #[])) := by subst hW2; exact World.cell?_setCell_same _ _ _ g0
          have kA2 : W2.heap[wr.heap.size]? = some (.cells #[.int .i64 2, .int .i64 x1, .int .i64 x2] 147 (0, 0)) := by subst hW2; exact (Below.heap_setCell _ _ _ _ (fun h => hlt2 h.symm)).trans kA
          have hrow2 : W2.rowIs w.heap.size 158 n (row l (k + 1)) := by subst hW2; have := row_step hrow; rw [HX.out] at this; exact this
          have hb2 : Below w.heap.size w W2 := by subst hW2; exact hbel.setCell (by simp) _
          clear hW2 hrow g0 g1 hbel kA
          have hB := actsB_no (l := l) (k := k) (by have := HN.out; omega) (by rw [HX.out]; simp [actB, h0])
          refine wp_region_held_drew (S := (fun w' => w'.cell? ⟨w.heap.size, k, none⟩ = some (.iface 166 (.agg #[])) ∧ w'.heap[wr.heap.size]? = some (.cells #[.int .i64 2, .int .i64 x1, .int .i64 x2] 147 (0, 0)))) (by kernel_rfl) ⟨q0, kA2⟩ (fun hHeld => ?_)
          refine take (i := 0) (d := some 25) (v := .slice (some ⟨w.heap.size, 0, none⟩) n n) rfl (by kernel_rfl) (by kernel_rfl) (by kernel_rfl) (by kernel_rfl) (fun _ _ _ h => h) (Or.inl ⟨by rfl, by intro w hSw; go_simp⟩) hHeld ?_
          simp only [Act.put, List.setIfInBounds_toArray, List.set_cons_zero, List.set_cons_succ]
          refine take (i := 1) (d := some 26) (v := .int .i64 k) rfl (by kernel_rfl) (by kernel_rfl) (by kernel_rfl) (by kernel_rfl) (fun _ _ _ h => h) (Or.inl ⟨by rfl, by intro w hSw; go_simp⟩) hHeld ?_
          simp only [Act.put, List.setIfInBounds_toArray, List.set_cons_zero, List.set_cons_succ]
          refine take (i := 2) (d := some 27) (v := .pointer (some ⟨w.heap.size, k, none⟩)) rfl (by kernel_rfl) (by kernel_rfl) (by kernel_rfl) (by kernel_rfl) (fun _ _ _ h => h) (Or.inl ⟨by rfl, by intro w hSw; go_simp⟩) hHeld ?_
          simp only [Act.put, List.setIfInBounds_toArray, List.set_cons_zero, List.set_cons_succ]
          refine take (i := 3) (d := some 28) (v := .iface 166 (.agg #[])) rfl (by kernel_rfl) (by kernel_rfl) (by kernel_rfl) (by kernel_rfl) (fun _ _ _ h => h) (Or.inl ⟨by rfl, by intro w hSw; have q1 := hSw.1; go_simp⟩) hHeld ?_
          simp only [Act.put, List.setIfInBounds_toArray, List.set_cons_zero, List.set_cons_succ]
          refine wpAnyH_ready (rs := [4]) (by kernel_rfl) (by simp) (Rg.call1 rfl (by kernel_rfl) 154 (.tmp 28) 158 (by kernel_rfl) 29 (by kernel_rfl) (.iface 166 (.agg #[])) (by kernel_rfl) (fun _ => rfl) (right2 _) ?_ AllReadyH.nil)
          rintro e w3 ⟨rfl, hb3⟩
          replace hb3 := Rw.next (Below.drew (Below.refl _ W2)) hb3
          replace q0 := (hb3.cell (World.block_lt_of_cell? _ _ q0)).trans q0
          replace kA2 := (hb3.block _ (Array.getElem?_eq_some_iff.1 kA2).1).trans kA2
          replace hrow2 := hrow2.of_block (hb3.block _ hrow2.lt)
          replace hb2 := Rw.next hb2 hb3
          clear hb3
          refine ⟨_, rfl, ⟨q0, kA2⟩, fun hHeld => ?_⟩
          simp only [Act.put, List.setIfInBounds_toArray, List.set_cons_zero, List.set_cons_succ]
          refine take (i := 5) (d := some 30) (v := .bool false) rfl (by kernel_rfl) (by kernel_rfl) (by kernel_rfl) (by kernel_rfl) (fun _ _ _ h => h) (Or.inl ⟨by rfl, by intro w hSw; go_simp⟩) hHeld ?_
          simp only [Act.put, List.setIfInBounds_toArray, List.set_cons_zero, List.set_cons_succ]
          refine take (i := 6) (d := some 31) (v := .bool false) rfl (by kernel_rfl) (by kernel_rfl) (by kernel_rfl) (by kernel_rfl) (fun _ _ _ h => h) (Or.inl ⟨by rfl, by intro w hSw; go_simp⟩) hHeld ?_
          simp only [Act.put, List.setIfInBounds_toArray, List.set_cons_zero, List.set_cons_succ]
          refine take (i := 7) (d := some 32) (v := .slice (some ⟨w.heap.size, 0, none⟩) n n) rfl (by kernel_rfl) (by kernel_rfl) (by kernel_rfl) (by kernel_rfl) (fun _ _ _ h => h) (Or.inl ⟨by rfl, by intro w hSw; go_simp⟩) hHeld ?_
          simp only [Act.put, List.setIfInBounds_toArray, List.set_cons_zero, List.set_cons_succ]
          refine take (i := 8) (d := some 33) (v := .int .i64 k) rfl (by kernel_rfl) (by kernel_rfl) (by kernel_rfl) (by kernel_rfl) (fun _ _ _ h => h) (Or.inl ⟨by rfl, by intro w hSw; go_simp⟩) hHeld ?_
          simp only [Act.put, List.setIfInBounds_toArray, List.set_cons_zero, List.set_cons_succ]
          refine take (i := 9) (d := some 34) (v := .pointer (some ⟨w.heap.size, k, none⟩)) rfl (by kernel_rfl) (by kernel_rfl) (by kernel_rfl) (by kernel_rfl) (fun _ _ _ h => h) (Or.inl ⟨by rfl, by intro w hSw; go_simp⟩) hHeld ?_
          simp only [Act.put, List.setIfInBounds_toArray, List.set_cons_zero, List.set_cons_succ]
          refine take (i := 10) (d := some 35) (v := .iface 166 (.agg #[])) rfl (by kernel_rfl) (by kernel_rfl) (by kernel_rfl) (by kernel_rfl) (fun _ _ _ h => h) (Or.inl ⟨by rfl, by intro w hSw; have q1 := hSw.1; go_simp⟩) hHeld ?_
          simp only [Act.put, List.setIfInBounds_toArray, List.set_cons_zero, List.set_cons_succ]
          refine take (i := 12) (d := some 37) (v := .agg #[.int .i64 2, .int .i64 x1, .int .i64 x2]) rfl (by kernel_rfl) (by kernel_rfl) (by kernel_rfl) (by kernel_rfl) (fun _ _ _ h => h) (Or.inl ⟨by rfl, by intro w hSw; have q2 := hSw.2; have d0 := three0 q2; have d1 := three1 q2; have d2 := three2 q2; go_simp⟩) hHeld ?_
          simp only [Act.put, List.setIfInBounds_toArray, List.set_cons_zero, List.set_cons_succ]
          refine wpAnyH_ready (rs := [11]) (by kernel_rfl) (by simp) (Yf.callI rfl (by kernel_rfl) 177 (.tmp 35) rfl 36 (by kernel_rfl) (.iface 166 (.agg #[])) (.agg #[]) (by kernel_rfl) (fun w => by kernel_rfl) (act2 _) ?_ AllReadyH.nil)
          rintro e w4 ⟨rfl, hb4⟩
          replace q0 := (hb4.cell (World.block_lt_of_cell? _ _ q0)).trans q0
          replace kA2 := (hb4.block _ (Array.getElem?_eq_some_iff.1 kA2).1).trans kA2
          replace hrow2 := hrow2.of_block (hb4.block _ hrow2.lt)
          replace hb2 := Rw.next hb2 hb4
          clear hb4
          refine ⟨_, rfl, ⟨q0, kA2⟩, fun hHeld => ?_⟩
          simp only [Act.put, List.setIfInBounds_toArray, List.set_cons_zero, List.set_cons_succ]
          refine take (i := 13) (d := some 38) (v := .bool true) rfl (by kernel_rfl) (by kernel_rfl) (by kernel_rfl) (by kernel_rfl) (fun _ _ _ h => h) (Or.inl ⟨by rfl, by intro w hSw; go_simp⟩) hHeld ?_
          simp only [Act.put, List.setIfInBounds_toArray, List.set_cons_zero, List.set_cons_succ]
          refine take (i := 14) (d := some 39) (v := .bool true) rfl (by kernel_rfl) (by kernel_rfl) (by kernel_rfl) (by kernel_rfl) (fun _ _ _ h => h) (Or.inl ⟨by rfl, by intro w hSw; go_simp⟩) hHeld ?_
          simp only [Act.put, List.setIfInBounds_toArray, List.set_cons_zero, List.set_cons_succ]
          refine wpAnyH_done (by kernel_rfl) ?_ _
          go_wp2
          all_goals exact bodyPost_ret (v := .tuple #[.slice none 0 0, .bool false]) (by simp [results, Try.results141, go_sem]) rfl ⟨hb2, fun _ => rfl, fun h => (by rw [hB] at h; cases h)⟩
      by_cases k4 : x0 = 4
      · subst k4
        by_cases h0 : x1 = 0
        · subst h0
          by_cases h1 : x2 = 0
          · subst h1
            go_wp2_with (go_at_call 153; rw [← hW0]; refine (kind_any (4, 0, 0) _).mono ?_; rintro e w1 ⟨rfl, hb⟩; rw [show actV (4, 0, 0) = .iface 169 (.agg #[]) from rfl]; replace hrow := hrow.of_block (hb.block _ hlw); replace kA := (hb.block _ zA).trans kA; replace hbel := Rw.next hbel hb; have g0 := hrow.cell hlt; have g1 := hrow.frozen k)
            obtain ⟨W2, hW2⟩ : ∃ W2, W2 = w1.setCell ⟨w.heap.size, k, none⟩ (.iface 169 (.agg #[])) := ⟨_, rfl⟩
            rw [← hW2]
            have q0 : W2.cell? ⟨w.heap.size, k, none⟩ = some (.iface 169 (.agg #[])) := by subst hW2; exact World.cell?_setCell_same _ _ _ g0
            have kA2 : W2.heap[wr.heap.size]? = some (.cells #[.int .i64 4, .int .i64 0, .int .i64 0] 147 (0, 0)) := by subst hW2; exact (Below.heap_setCell _ _ _ _ (fun h => hlt2 h.symm)).trans kA
            have hrow2 : W2.rowIs w.heap.size 158 n (row l (k + 1)) := by subst hW2; have := row_step hrow; rw [HX.out] at this; exact this
            have hb2 : Below w.heap.size w W2 := by subst hW2; exact hbel.setCell (by simp) _
            clear hW2 hrow g0 g1 hbel kA
            have hB := pre_step HP.out (by rw [HX.out]; simp [actB])
            refine wp_region_held_drew (S := (fun w' => w'.cell? ⟨w.heap.size, k, none⟩ = some (.iface 169 (.agg #[])) ∧ w'.heap[wr.heap.size]? = some (.cells #[.int .i64 4, .int .i64 0, .int .i64 0] 147 (0, 0)))) (by kernel_rfl) ⟨q0, kA2⟩ (fun hHeld => ?_)
            refine take (i := 0) (d := some 25) (v := .slice (some ⟨w.heap.size, 0, none⟩) n n) rfl (by kernel_rfl) (by kernel_rfl) (by kernel_rfl) (by kernel_rfl) (fun _ _ _ h => h) (Or.inl ⟨by rfl, by intro w hSw; go_simp⟩) hHeld ?_
            simp only [Act.put, List.setIfInBounds_toArray, List.set_cons_zero, List.set_cons_succ]
            refine take (i := 1) (d := some 26) (v := .int .i64 k) rfl (by kernel_rfl) (by kernel_rfl) (by kernel_rfl) (by kernel_rfl) (fun _ _ _ h => h) (Or.inl ⟨by rfl, by intro w hSw; go_simp⟩) hHeld ?_
            simp only [Act.put, List.setIfInBounds_toArray, List.set_cons_zero, List.set_cons_succ]
            refine take (i := 2) (d := some 27) (v := .pointer (some ⟨w.heap.size, k, none⟩)) rfl (by kernel_rfl) (by kernel_rfl) (by kernel_rfl) (by kernel_rfl) (fun _ _ _ h => h) (Or.inl ⟨by rfl, by intro w hSw; go_simp⟩) hHeld ?_
            simp only [Act.put, List.setIfInBounds_toArray, List.set_cons_zero, List.set_cons_succ]
            refine take (i := 3) (d := some 28) (v := .iface 169 (.agg #[])) rfl (by kernel_rfl) (by kernel_rfl) (by kernel_rfl) (by kernel_rfl) (fun _ _ _ h => h) (Or.inl ⟨by rfl, by intro w hSw; have q1 := hSw.1; go_simp⟩) hHeld ?_
            simp only [Act.put, List.setIfInBounds_toArray, List.set_cons_zero, List.set_cons_succ]
            refine wpAnyH_ready (rs := [4]) (by kernel_rfl) (by simp) (Rg.call1 rfl (by kernel_rfl) 154 (.tmp 28) 158 (by kernel_rfl) 29 (by kernel_rfl) (.iface 169 (.agg #[])) (by kernel_rfl) (fun _ => rfl) (right4 _) ?_ AllReadyH.nil)
            rintro e w3 ⟨rfl, hb3⟩
            replace hb3 := Rw.next (Below.drew (Below.refl _ W2)) hb3
            replace q0 := (hb3.cell (World.block_lt_of_cell? _ _ q0)).trans q0
            replace kA2 := (hb3.block _ (Array.getElem?_eq_some_iff.1 kA2).1).trans kA2
            replace hrow2 := hrow2.of_block (hb3.block _ hrow2.lt)
            replace hb2 := Rw.next hb2 hb3
            clear hb3
            refine ⟨_, rfl, ⟨q0, kA2⟩, fun hHeld => ?_⟩
            simp only [Act.put, List.setIfInBounds_toArray, List.set_cons_zero, List.set_cons_succ]
            refine take (i := 5) (d := some 30) (v := .bool false) rfl (by kernel_rfl) (by kernel_rfl) (by kernel_rfl) (by kernel_rfl) (fun _ _ _ h => h) (Or.inl ⟨by rfl, by intro w hSw; go_simp⟩) hHeld ?_
            simp only [Act.put, List.setIfInBounds_toArray, List.set_cons_zero, List.set_cons_succ]
            refine take (i := 6) (d := some 31) (v := .bool false) rfl (by kernel_rfl) (by kernel_rfl) (by kernel_rfl) (by kernel_rfl) (fun _ _ _ h => h) (Or.inl ⟨by rfl, by intro w hSw; go_simp⟩) hHeld ?_
            simp only [Act.put, List.setIfInBounds_toArray, List.set_cons_zero, List.set_cons_succ]
            refine take (i := 7) (d := some 32) (v := .slice (some ⟨w.heap.size, 0, none⟩) n n) rfl (by kernel_rfl) (by kernel_rfl) (by kernel_rfl) (by kernel_rfl) (fun _ _ _ h => h) (Or.inl ⟨by rfl, by intro w hSw; go_simp⟩) hHeld ?_
            simp only [Act.put, List.setIfInBounds_toArray, List.set_cons_zero, List.set_cons_succ]
            refine take (i := 8) (d := some 33) (v := .int .i64 k) rfl (by kernel_rfl) (by kernel_rfl) (by kernel_rfl) (by kernel_rfl) (fun _ _ _ h => h) (Or.inl ⟨by rfl, by intro w hSw; go_simp⟩) hHeld ?_
            simp only [Act.put, List.setIfInBounds_toArray, List.set_cons_zero, List.set_cons_succ]
            refine take (i := 9) (d := some 34) (v := .pointer (some ⟨w.heap.size, k, none⟩)) rfl (by kernel_rfl) (by kernel_rfl) (by kernel_rfl) (by kernel_rfl) (fun _ _ _ h => h) (Or.inl ⟨by rfl, by intro w hSw; go_simp⟩) hHeld ?_
            simp only [Act.put, List.setIfInBounds_toArray, List.set_cons_zero, List.set_cons_succ]
            refine take (i := 10) (d := some 35) (v := .iface 169 (.agg #[])) rfl (by kernel_rfl) (by kernel_rfl) (by kernel_rfl) (by kernel_rfl) (fun _ _ _ h => h) (Or.inl ⟨by rfl, by intro w hSw; have q1 := hSw.1; go_simp⟩) hHeld ?_
            simp only [Act.put, List.setIfInBounds_toArray, List.set_cons_zero, List.set_cons_succ]
            refine take (i := 12) (d := some 37) (v := .agg #[.int .i64 4, .int .i64 0, .int .i64 0]) rfl (by kernel_rfl) (by kernel_rfl) (by kernel_rfl) (by kernel_rfl) (fun _ _ _ h => h) (Or.inl ⟨by rfl, by intro w hSw; have q2 := hSw.2; have d0 := three0 q2; have d1 := three1 q2; have d2 := three2 q2; go_simp⟩) hHeld ?_
            simp only [Act.put, List.setIfInBounds_toArray, List.set_cons_zero, List.set_cons_succ]
            refine wpAnyH_ready (rs := [11]) (by kernel_rfl) (by simp) (Yf.callI rfl (by kernel_rfl) 179 (.tmp 35) rfl 36 (by kernel_rfl) (.iface 169 (.agg #[])) (.agg #[]) (by kernel_rfl) (fun w => by kernel_rfl) (act4 _) ?_ AllReadyH.nil)
            rintro e w4 ⟨rfl, hb4⟩
            replace q0 := (hb4.cell (World.block_lt_of_cell? _ _ q0)).trans q0
            replace kA2 := (hb4.block _ (Array.getElem?_eq_some_iff.1 kA2).1).trans kA2
            replace hrow2 := hrow2.of_block (hb4.block _ hrow2.lt)
            replace hb2 := Rw.next hb2 hb4
            clear hb4
            refine ⟨_, rfl, ⟨q0, kA2⟩, fun hHeld => ?_⟩
            simp only [Act.put, List.setIfInBounds_toArray, List.set_cons_zero, List.set_cons_succ]
            refine take (i := 13) (d := some 38) (v := .bool false) rfl (by kernel_rfl) (by kernel_rfl) (by kernel_rfl) (by kernel_rfl) (fun _ _ _ h => h) (Or.inl ⟨by rfl, by intro w hSw; go_simp⟩) hHeld ?_
            simp only [Act.put, List.setIfInBounds_toArray, List.set_cons_zero, List.set_cons_succ]
            refine take (i := 14) (d := some 39) (v := .bool false) rfl (by kernel_rfl) (by kernel_rfl) (by kernel_rfl) (by kernel_rfl) (fun _ _ _ h => h) (Or.inl ⟨by rfl, by intro w hSw; go_simp⟩) hHeld ?_
            simp only [Act.put, List.setIfInBounds_toArray, List.set_cons_zero, List.set_cons_succ]
            refine wpAnyH_done (by kernel_rfl) ?_ _
            go_wp2
            all_goals go_roundw
            all_goals first | exact ⟨k + 1, by omega, by go_num, hb2, hrow2, hB⟩ | (simp [intOf]; omega)
          · have hne : (0 == x2) = false := by simpa using fun h : 0 = x2 => h1 h.symm
            go_wp2_with (go_at_call 153; rw [← hW0]; refine (kind_any (4, 0, x2) _).mono ?_; rintro e w1 ⟨rfl, hb⟩; rw [show actV (4, 0, x2) = .iface 169 (.agg #[]) from rfl]; replace hrow := hrow.of_block (hb.block _ hlw); replace kA := (hb.block _ zA).trans kA; replace hbel := Rw.next hbel hb; have g0 := hrow.cell hlt; have g1 := hrow.frozen k)
            obtain ⟨W2, hW2⟩ : ∃ W2, W2 = w1.setCell ⟨w.heap.size, k, none⟩ (.iface 169 (.agg #[])) := ⟨_, rfl⟩
            rw [← hW2]
            have q0 : W2.cell? ⟨w.heap.size, k, none⟩ = some (.iface 169 (.agg #[])) := by subst hW2; exact World.cell?_setCell_same _ _ _ g0
            have kA2 : W2.heap[wr.heap.size]? = some (.cells #[.int .i64 4, .int .i64 0, .int .i64 x2] 147 (0, 0)) := by subst hW2; exact (Below.heap_setCell _ _ _ _ (fun h => hlt2 h.symm)).trans kA
            have hrow2 : W2.rowIs w.heap.size 158 n (row l (k + 1)) := by subst hW2; have := row_step hrow; rw [HX.out] at this; exact this
            have hb2 : Below w.heap.size w W2 := by subst hW2; exact hbel.setCell (by simp) _
            clear hW2 hrow g0 g1 hbel kA
            have hB := actsB_no (l := l) (k := k) (by have := HN.out; omega) (by rw [HX.out]; simp [actB, h1])
            refine wp_region_held_drew (S := (fun w' => w'.cell? ⟨w.heap.size, k, none⟩ = some (.iface 169 (.agg #[])) ∧ w'.heap[wr.heap.size]? = some (.cells #[.int .i64 4, .int .i64 0, .int .i64 x2] 147 (0, 0)))) (by kernel_rfl) ⟨q0, kA2⟩ (fun hHeld => ?_)
            refine take (i := 0) (d := some 25) (v := .slice (some ⟨w.heap.size, 0, none⟩) n n) rfl (by kernel_rfl) (by kernel_rfl) (by kernel_rfl) (by kernel_rfl) (fun _ _ _ h => h) (Or.inl ⟨by rfl, by intro w hSw; go_simp⟩) hHeld ?_
            simp only [Act.put, List.setIfInBounds_toArray, List.set_cons_zero, List.set_cons_succ]
            refine take (i := 1) (d := some 26) (v := .int .i64 k) rfl (by kernel_rfl) (by kernel_rfl) (by kernel_rfl) (by kernel_rfl) (fun _ _ _ h => h) (Or.inl ⟨by rfl, by intro w hSw; go_simp⟩) hHeld ?_
            simp only [Act.put, List.setIfInBounds_toArray, List.set_cons_zero, List.set_cons_succ]
            refine take (i := 2) (d := some 27) (v := .pointer (some ⟨w.heap.size, k, none⟩)) rfl (by kernel_rfl) (by kernel_rfl) (by kernel_rfl) (by kernel_rfl) (fun _ _ _ h => h) (Or.inl ⟨by rfl, by intro w hSw; go_simp⟩) hHeld ?_
            simp only [Act.put, List.setIfInBounds_toArray, List.set_cons_zero, List.set_cons_succ]
            refine take (i := 3) (d := some 28) (v := .iface 169 (.agg #[])) rfl (by kernel_rfl) (by kernel_rfl) (by kernel_rfl) (by kernel_rfl) (fun _ _ _ h => h) (Or.inl ⟨by rfl, by intro w hSw; have q1 := hSw.1; go_simp⟩) hHeld ?_
            simp only [Act.put, List.setIfInBounds_toArray, List.set_cons_zero, List.set_cons_succ]
            refine wpAnyH_ready (rs := [4]) (by kernel_rfl) (by simp) (Rg.call1 rfl (by kernel_rfl) 154 (.tmp 28) 158 (by kernel_rfl) 29 (by kernel_rfl) (.iface 169 (.agg #[])) (by kernel_rfl) (fun _ => rfl) (right4 _) ?_ AllReadyH.nil)
            rintro e w3 ⟨rfl, hb3⟩
            replace hb3 := Rw.next (Below.drew (Below.refl _ W2)) hb3
            replace q0 := (hb3.cell (World.block_lt_of_cell? _ _ q0)).trans q0
            replace kA2 := (hb3.block _ (Array.getElem?_eq_some_iff.1 kA2).1).trans kA2
            replace hrow2 := hrow2.of_block (hb3.block _ hrow2.lt)
            replace hb2 := Rw.next hb2 hb3
            clear hb3
            refine ⟨_, rfl, ⟨q0, kA2⟩, fun hHeld => ?_⟩
            simp only [Act.put, List.setIfInBounds_toArray, List.set_cons_zero, List.set_cons_succ]
            refine take (i := 5) (d := some 30) (v := .bool false) rfl (by kernel_rfl) (by kernel_rfl) (by kernel_rfl) (by kernel_rfl) (fun _ _ _ h => h) (Or.inl ⟨by rfl, by intro w hSw; go_simp⟩) hHeld ?_
            simp only [Act.put, List.setIfInBounds_toArray, List.set_cons_zero, List.set_cons_succ]
            refine take (i := 6) (d := some 31) (v := .bool false) rfl (by kernel_rfl) (by kernel_rfl) (by kernel_rfl) (by kernel_rfl) (fun _ _ _ h => h) (Or.inl ⟨by rfl, by intro w hSw; go_simp⟩) hHeld ?_
            simp only [Act.put, List.setIfInBounds_toArray, List.set_cons_zero, List.set_cons_succ]
            refine take (i := 7) (d := some 32) (v := .slice (some ⟨w.heap.size, 0, none⟩) n n) rfl (by kernel_rfl) (by kernel_rfl) (by kernel_rfl) (by kernel_rfl) (fun _ _ _ h => h) (Or.inl ⟨by rfl, by intro w hSw; go_simp⟩) hHeld ?_
            simp only [Act.put, List.setIfInBounds_toArray, List.set_cons_zero, List.set_cons_succ]
            refine take (i := 8) (d := some 33) (v := .int .i64 k) rfl (by kernel_rfl) (by kernel_rfl) (by kernel_rfl) (by kernel_rfl) (fun _ _ _ h => h) (Or.inl ⟨by rfl, by intro w hSw; go_simp⟩) hHeld ?_
            simp only [Act.put, List.setIfInBounds_toArray, List.set_cons_zero, List.set_cons_succ]
            refine take (i := 9) (d := some 34) (v := .pointer (some ⟨w.heap.size, k, none⟩)) rfl (by kernel_rfl) (by kernel_rfl) (by kernel_rfl) (by kernel_rfl) (fun _ _ _ h => h) (Or.inl ⟨by rfl, by intro w hSw; go_simp⟩) hHeld ?_
            simp only [Act.put, List.setIfInBounds_toArray, List.set_cons_zero, List.set_cons_succ]
            refine take (i := 10) (d := some 35) (v := .iface 169 (.agg #[])) rfl (by kernel_rfl) (by kernel_rfl) (by kernel_rfl) (by kernel_rfl) (fun _ _ _ h => h) (Or.inl ⟨by rfl, by intro w hSw; have q1 := hSw.1; go_simp⟩) hHeld ?_
            simp only [Act.put, List.setIfInBounds_toArray, List.set_cons_zero, List.set_cons_succ]
            refine take (i := 12) (d := some 37) (v := .agg #[.int .i64 4, .int .i64 0, .int .i64 x2]) rfl (by kernel_rfl) (by kernel_rfl) (by kernel_rfl) (by kernel_rfl) (fun _ _ _ h => h) (Or.inl ⟨by rfl, by intro w hSw; have q2 := hSw.2; have d0 := three0 q2; have d1 := three1 q2; have d2 := three2 q2; go_simp⟩) hHeld ?_
            simp only [Act.put, List.setIfInBounds_toArray, List.set_cons_zero, List.set_cons_succ]
            refine wpAnyH_ready (rs := [11]) (by kernel_rfl) (by simp) (Yf.callI rfl (by kernel_rfl) 179 (.tmp 35) rfl 36 (by kernel_rfl) (.iface 169 (.agg #[])) (.agg #[]) (by kernel_rfl) (fun w => by kernel_rfl) (act4 _) ?_ AllReadyH.nil)
            rintro e w4 ⟨rfl, hb4⟩
            replace q0 := (hb4.cell (World.block_lt_of_cell? _ _ q0)).trans q0
            replace kA2 := (hb4.block _ (Array.getElem?_eq_some_iff.1 kA2).1).trans kA2
            replace hrow2 := hrow2.of_block (hb4.block _ hrow2.lt)
            replace hb2 := Rw.next hb2 hb4
            clear hb4
            refine ⟨_, rfl, ⟨q0, kA2⟩, fun hHeld => ?_⟩
            simp only [Act.put, List.setIfInBounds_toArray, List.set_cons_zero, List.set_cons_succ]
            refine take (i := 13) (d := some 38) (v := .bool true) rfl (by kernel_rfl) (by kernel_rfl) (by kernel_rfl) (by kernel_rfl) (fun _ _ _ h => h) (Or.inl ⟨by rfl, by intro w hSw; go_simp⟩) hHeld ?_
            simp only [Act.put, List.setIfInBounds_toArray, List.set_cons_zero, List.set_cons_succ]
            refine take (i := 14) (d := some 39) (v := .bool true) rfl (by kernel_rfl) (by kernel_rfl) (by kernel_rfl) (by kernel_rfl) (fun _ _ _ h => h) (Or.inl ⟨by rfl, by intro w hSw; go_simp⟩) hHeld ?_
            simp only [Act.put, List.setIfInBounds_toArray, List.set_cons_zero, List.set_cons_succ]
            refine wpAnyH_done (by kernel_rfl) ?_ _
            go_wp2
            all_goals exact bodyPost_ret (v := .tuple #[.slice none 0 0, .bool false]) (by simp [results, Try.results141, go_sem]) rfl ⟨hb2, fun _ => rfl, fun h => (by rw [hB] at h; cases h)⟩
        · have hne : (0 == x1) = false := by simpa using fun h : 0 = x1 => h0 h.symm
          go_wp2_with (go_at_call 153; rw [← hW0]; refine (kind_any (4, x1, x2) _).mono ?_; rintro e w1 ⟨rfl, hb⟩; rw [show actV (4, x1, x2) = .iface 169 (.agg #[]) from rfl]; replace hrow := hrow.of_block (hb.block _ hlw); replace kA := (hb.block _ zA).trans kA; replace hbel := Rw.next hbel hb; have g0 := hrow.cell hlt; have g1 := hrow.frozen k)
          obtain ⟨W2, hW2⟩ : ∃ W2, W2 = w1.setCell ⟨w.heap.size, k, none⟩ (.iface 169 (.agg #[])) := ⟨_, rfl⟩
          rw [← hW2]
          have q0 : W2.cell? ⟨w.heap.size, k, none⟩ = some (.iface 169 (.agg #[])) := by subst hW2; exact World.cell?_setCell_same _ _ _ g0
          have kA2 : W2.heap[wr.heap.size]? = some (.cells #[.int .i64 4, .int .i64 x1, .int .i64 x2] 147 (0, 0)) := by subst hW2; exact (Below.heap_setCell _ _ _ _ (fun h => hlt2 h.symm)).trans kA
          have hrow2 : W2.rowIs w.heap.size 158 n (row l (k + 1)) := by subst hW2; have := row_step hrow; rw [HX.out] at this; exact this
          have hb2 : Below w.heap.size w W2 := by subst hW2; exact hbel.setCell (by simp) _
          clear hW2 hrow g0 g1 hbel kA
          have hB := actsB_no (l := l) (k := k) (by have := HN.out; omega) (by rw [HX.out]; simp [actB, h0])
          refine wp_region_held_drew (S := (fun w' => w'.cell? ⟨w.heap.size, k, none⟩ = some (.iface 169 (.agg #[])) ∧ w'.heap[wr.heap.size]? = some (.cells #[.int .i64 4, .int .i64 x1, .int .i64 x2] 147 (0, 0)))) (by kernel_rfl) ⟨q0, kA2⟩ (fun hHeld => ?_)
          refine take (i := 0) (d := some 25) (v := .slice (some ⟨w.heap.size, 0, none⟩) n n) rfl (by kernel_rfl) (by kernel_rfl) (by kernel_rfl) (by kernel_rfl) (fun _ _ _ h => h) (Or.inl ⟨by rfl, by intro w hSw; go_simp⟩) hHeld ?_
          simp only [Act.put, List.setIfInBounds_toArray, List.set_cons_zero, List.set_cons_succ]
          refine take (i := 1) (d := some 26) (v := .int .i64 k) rfl (by kernel_rfl) (by kernel_rfl) (by kernel_rfl) (by kernel_rfl) (fun _ _ _ h => h) (Or.inl ⟨by rfl, by intro w hSw; go_simp⟩) hHeld ?_
          simp only [Act.put, List.setIfInBounds_toArray, List.set_cons_zero, List.set_cons_succ]
          refine take (i := 2) (d := some 27) (v := .pointer (some ⟨w.heap.size, k, none⟩)) rfl (by kernel_rfl) (by kernel_rfl) (by kernel_rfl) (by kernel_rfl) (fun _ _ _ h => h) (Or.inl ⟨by rfl, by intro w hSw; go_simp⟩) hHeld ?_
          simp only [Act.put, List.setIfInBounds_toArray, List.set_cons_zero, List.set_cons_succ]
          refine take (i := 3) (d := some 28) (v := .iface 169 (.agg #[])) rfl (by kernel_rfl) (by kernel_rfl) (by kernel_rfl) (by kernel_rfl) (fun _ _ _ h => h) (Or.inl ⟨by rfl, by intro w hSw; have q1 := hSw.1; go_simp⟩) hHeld ?_
          simp only [Act.put, List.setIfInBounds_toArray, List.set_cons_zero, List.set_cons_succ]
          refine wpAnyH_ready (rs := [4]) (by kernel_rfl) (by simp) (Rg.call1 rfl (by kernel_rfl) 154 (.tmp 28) 158 (by kernel_rfl) 29 (by kernel_rfl) (.iface 169 (.agg #[])) (by kernel_rfl) (fun _ => rfl) (right4 _) ?_ AllReadyH.nil)
          rintro e w3 ⟨rfl, hb3⟩
          replace hb3 := Rw.next (Below.drew (Below.refl _ W2)) hb3
          replace q0 := (hb3.cell (World.block_lt_of_cell? _ _ q0)).trans q0
          replace kA2 := (hb3.block _ (Array.getElem?_eq_some_iff.1 kA2).1).trans kA2
          replace hrow2 := hrow2.of_block (hb3.block _ hrow2.lt)
          replace hb2 := Rw.next hb2 hb3
          clear hb3
          refine ⟨_, rfl, ⟨q0, kA2⟩, fun hHeld => ?_⟩
          simp only [Act.put, List.setIfInBounds_toArray, List.set_cons_zero, List.set_cons_succ]
          refine take (i := 5) (d := some 30) (v := .bool false) rfl (by kernel_rfl) (by kernel_rfl) (by kernel_rfl) (by kernel_rfl) (fun _ _ _ h => h) (Or.inl ⟨by rfl, by intro w hSw; go_simp⟩) hHeld ?_
          simp only [Act.put, List.setIfInBounds_toArray, List.set_cons_zero, List.set_cons_succ]
          refine take (i := 6) (d := some 31) (v := .bool false) rfl (by kernel_rfl) (by kernel_rfl) (by kernel_rfl) (by kernel_rfl) (fun _ _ _ h => h) (Or.inl ⟨by rfl, by intro w hSw; go_simp⟩) hHeld ?_
          simp only [Act.put, List.setIfInBounds_toArray, List.set_cons_zero, List.set_cons_succ]
          refine take (i := 7) (d := some 32) (v := .slice (some ⟨w.heap.size, 0, none⟩) n n) rfl (by kernel_rfl) (by kernel_rfl) (by kernel_rfl) (by kernel_rfl) (fun _ _ _ h => h) (Or.inl ⟨by rfl, by intro w hSw; go_simp⟩) hHeld ?_
          simp only [Act.put, List.setIfInBounds_toArray, List.set_cons_zero, List.set_cons_succ]
          refine take (i := 8) (d := some 33) (v := .int .i64 k) rfl (by kernel_rfl) (by kernel_rfl) (by kernel_rfl) (by kernel_rfl) (fun _ _ _ h => h) (Or.inl ⟨by rfl, by intro w hSw; go_simp⟩) hHeld ?_
          simp only [Act.put, List.setIfInBounds_toArray, List.set_cons_zero, List.set_cons_succ]
          refine take (i := 9) (d := some 34) (v := .pointer (some ⟨w.heap.size, k, none⟩)) rfl (by kernel_rfl) (by kernel_rfl) (by kernel_rfl) (by kernel_rfl) (fun _ _ _ h => h) (Or.inl ⟨by rfl, by intro w hSw; go_simp⟩) hHeld ?_
          simp only [Act.put, List.setIfInBounds_toArray, List.set_cons_zero, List.set_cons_succ]
          refine take (i := 10) (d := some 35) (v := .iface 169 (.agg #[])) rfl (by kernel_rfl) (by kernel_rfl) (by kernel_rfl) (by kernel_rfl) (fun _ _ _ h => h) (Or.inl ⟨by rfl, by intro w hSw; have q1 := hSw.1; go_simp⟩) hHeld ?_
          simp only [Act.put, List.setIfInBounds_toArray, List.set_cons_zero, List.set_cons_succ]
          refine take (i := 12) (d := some 37) (v := .agg #[.int .i64 4, .int .i64 x1, .int .i64 x2]) rfl (by kernel_rfl) (by kernel_rfl) (by kernel_rfl) (by kernel_rfl) (fun _ _ _ h => h) (Or.inl ⟨by rfl, by intro w hSw; have q2 := hSw.2; have d0 := three0 q2; have d1 := three1 q2; have d2 := three2 q2; go_simp⟩) hHeld ?_
          simp only [Act.put, List.setIfInBounds_toArray, List.set_cons_zero, List.set_cons_succ]
          refine wpAnyH_ready (rs := [11]) (by kernel_rfl) (by simp) (Yf.callI rfl (by kernel_rfl) 179 (.tmp 35) rfl 36 (by kernel_rfl) (.iface 169 (.agg #[])) (.agg #[]) (by kernel_rfl) (fun w => by kernel_rfl) (act4 _) ?_ AllReadyH.nil)
          rintro e w4 ⟨rfl, hb4⟩
          replace q0 := (hb4.cell (World.block_lt_of_cell? _ _ q0)).trans q0
          replace kA2 := (hb4.block _ (Array.getElem?_eq_some_iff.1 kA2).1).trans kA2
          replace hrow2 := hrow2.of_block (hb4.block _ hrow2.lt)
          replace hb2 := Rw.next hb2 hb4
          clear hb4
          refine ⟨_, rfl, ⟨q0, kA2⟩, fun hHeld => ?_⟩
          simp only [Act.put, List.setIfInBounds_toArray, List.set_cons_zero, List.set_cons_succ]
          refine take (i := 13) (d := some 38) (v := .bool true) rfl (by kernel_rfl) (by kernel_rfl) (by kernel_rfl) (by kernel_rfl) (fun _ _ _ h => h) (Or.inl ⟨by rfl, by intro w hSw; go_simp⟩) hHeld ?_
          simp only [Act.put, List.setIfInBounds_toArray, List.set_cons_zero, List.set_cons_succ]
          refine take (i := 14) (d := some 39) (v := .bool true) rfl (by kernel_rfl) (by kernel_rfl) (by kernel_rfl) (by kernel_rfl) (fun _ _ _ h => h) (Or.inl ⟨by rfl, by intro w hSw; go_simp⟩) hHeld ?_
          simp only [Act.put, List.setIfInBounds_toArray, List.set_cons_zero, List.set_cons_succ]
          refine wpAnyH_done (by kernel_rfl) ?_ _
          go_wp2
          all_goals exact bodyPost_ret (v := .tuple #[.slice none 0 0, .bool false]) (by simp [results, Try.results141, go_sem]) rfl ⟨hb2, fun _ => rfl, fun h => (by rw [hB] at h; cases h)⟩
      by_cases k5 : x0 = 5
      · subst k5
        by_cases h0 : x1 = 0
        · subst h0
          by_cases h1 : x2 = 0
          · subst h1
            go_wp2_with (go_at_call 153; rw [← hW0]; refine (kind_any (5, 0, 0) _).mono ?_; rintro e w1 ⟨rfl, hb⟩; rw [show actV (5, 0, 0) = .iface 170 (.agg #[]) from rfl]; replace hrow := hrow.of_block (hb.block _ hlw); replace kA := (hb.block _ zA).trans kA; replace hbel := Rw.next hbel hb; have g0 := hrow.cell hlt; have g1 := hrow.frozen k)
            obtain ⟨W2, hW2⟩ : ∃ W2, W2 = w1.setCell ⟨w.heap.size, k, none⟩ (.iface 170 (.agg #[])) := ⟨_, rfl⟩
            rw [← hW2]
            have q0 : W2.cell? ⟨w.heap.size, k, none⟩ = some (.iface 170 (.agg #[])) := by subst hW2; exact World.cell?_setCell_same _ _ _ g0
            have kA2 : W2.heap[wr.heap.size]? = some (.cells #[.int .i64 5, .int .i64 0, .int .i64 0] 147 (0, 0)) := by subst hW2; exact (Below.heap_setCell _ _ _ _ (fun h => hlt2 h.symm)).trans kA
            have hrow2 : W2.rowIs w.heap.size 158 n (row l (k + 1)) := by subst hW2; have := row_step hrow; rw [HX.out] at this; exact this
            have hb2 : Below w.heap.size w W2 := by subst hW2; exact hbel.setCell (by simp) _
            clear hW2 hrow g0 g1 hbel kA
            have hB := pre_step HP.out (by rw [HX.out]; simp [actB])
            refine wp_region_held_drew (S := (fun w' => w'.cell? ⟨w.heap.size, k, none⟩ = some (.iface 170 (.agg #[])) ∧ w'.heap[wr.heap.size]? = some (.cells #[.int .i64 5, .int .i64 0, .int .i64 0] 147 (0, 0)))) (by kernel_rfl) ⟨q0, kA2⟩ (fun hHeld => ?_)
            refine take (i := 0) (d := some 25) (v := .slice (some ⟨w.heap.size, 0, none⟩) n n) rfl (by kernel_rfl) (by kernel_rfl) (by kernel_rfl) (by kernel_rfl) (fun _ _ _ h => h) (Or.inl ⟨by rfl, by intro w hSw; go_simp⟩) hHeld ?_
            simp only [Act.put, List.setIfInBounds_toArray, List.set_cons_zero, List.set_cons_succ]
            refine take (i := 1) (d := some 26) (v := .int .i64 k) rfl (by kernel_rfl) (by kernel_rfl) (by kernel_rfl) (by kernel_rfl) (fun _ _ _ h => h) (Or.inl ⟨by rfl, by intro w hSw; go_simp⟩) hHeld ?_
            simp only [Act.put, List.setIfInBounds_toArray, List.set_cons_zero, List.set_cons_succ]
            refine take (i := 2) (d := some 27) (v := .pointer (some ⟨w.heap.size, k, none⟩)) rfl (by kernel_rfl) (by kernel_rfl) (by kernel_rfl) (by kernel_rfl) (fun _ _ _ h => h) (Or.inl ⟨by rfl, by intro w hSw; go_simp⟩) hHeld ?_
            simp only [Act.put, List.setIfInBounds_toArray, List.set_cons_zero, List.set_cons_succ]
            refine take (i := 3) (d := some 28) (v := .iface 170 (.agg #[])) rfl (by kernel_rfl) (by kernel_rfl) (by kernel_rfl) (by kernel_rfl) (fun _ _ _ h => h) (Or.inl ⟨by rfl, by intro w hSw; have q1 := hSw.1; go_simp⟩) hHeld ?_
            simp only [Act.put, List.setIfInBounds_toArray, List.set_cons_zero, List.set_cons_succ]
            refine wpAnyH_ready (rs := [4]) (by kernel_rfl) (by simp) (Rg.call1 rfl (by kernel_rfl) 154 (.tmp 28) 158 (by kernel_rfl) 29 (by kernel_rfl) (.iface 170 (.agg #[])) (by kernel_rfl) (fun _ => rfl) (right5 _) ?_ AllReadyH.nil)
            rintro e w3 ⟨rfl, hb3⟩
            replace hb3 := Rw.next (Below.drew (Below.refl _ W2)) hb3
            replace q0 := (hb3.cell (World.block_lt_of_cell? _ _ q0)).trans q0
            replace kA2 := (hb3.block _ (Array.getElem?_eq_some_iff.1 kA2).1).trans kA2
            replace hrow2 := hrow2.of_block (hb3.block _ hrow2.lt)
            replace hb2 := Rw.next hb2 hb3
            clear hb3
            refine ⟨_, rfl, ⟨q0, kA2⟩, fun hHeld => ?_⟩
            simp only [Act.put, List.setIfInBounds_toArray, List.set_cons_zero, List.set_cons_succ]
            refine take (i := 5) (d := some 30) (v := .bool false) rfl (by kernel_rfl) (by kernel_rfl) (by kernel_rfl) (by kernel_rfl) (fun _ _ _ h => h) (Or.inl ⟨by rfl, by intro w hSw; go_simp⟩) hHeld ?_
            simp only [Act.put, List.setIfInBounds_toArray, List.set_cons_zero, List.set_cons_succ]
            refine take (i := 6) (d := some 31) (v := .bool false) rfl (by kernel_rfl) (by kernel_rfl) (by kernel_rfl) (by kernel_rfl) (fun _ _ _ h => h) (Or.inl ⟨by rfl, by intro w hSw; go_simp⟩) hHeld ?_
            simp only [Act.put, List.setIfInBounds_toArray, List.set_cons_zero, List.set_cons_succ]
            refine take (i := 7) (d := some 32) (v := .slice (some ⟨w.heap.size, 0, none⟩) n n) rfl (by kernel_rfl) (by kernel_rfl) (by kernel_rfl) (by kernel_rfl) (fun _ _ _ h => h) (Or.inl ⟨by rfl, by intro w hSw; go_simp⟩) hHeld ?_
            simp only [Act.put, List.setIfInBounds_toArray, List.set_cons_zero, List.set_cons_succ]
            refine take (i := 8) (d := some 33) (v := .int .i64 k) rfl (by kernel_rfl) (by kernel_rfl) (by kernel_rfl) (by kernel_rfl) (fun _ _ _ h => h) (Or.inl ⟨by rfl, by intro w hSw; go_simp⟩) hHeld ?_
            simp only [Act.put, List.setIfInBounds_toArray, List.set_cons_zero, List.set_cons_succ]
            refine take (i := 9) (d := some 34) (v := .pointer (some ⟨w.heap.size, k, none⟩)) rfl (by kernel_rfl) (by kernel_rfl) (by kernel_rfl) (by kernel_rfl) (fun _ _ _ h => h) (Or.inl ⟨by rfl, by intro w hSw; go_simp⟩) hHeld ?_
            simp only [Act.put, List.setIfInBounds_toArray, List.set_cons_zero, List.set_cons_succ]
            refine take (i := 10) (d := some 35) (v := .iface 170 (.agg #[])) rfl (by kernel_rfl) (by kernel_rfl) (by kernel_rfl) (by kernel_rfl) (fun _ _ _ h => h) (Or.inl ⟨by rfl, by intro w hSw; have q1 := hSw.1; go_simp⟩) hHeld ?_
            simp only [Act.put, List.setIfInBounds_toArray, List.set_cons_zero, List.set_cons_succ]
            refine take (i := 12) (d := some 37) (v := .agg #[.int .i64 5, .int .i64 0, .int .i64 0]) rfl (by kernel_rfl) (by kernel_rfl) (by kernel_rfl) (by kernel_rfl) (fun _ _ _ h => h) (Or.inl ⟨by rfl, by intro w hSw; have q2 := hSw.2; have d0 := three0 q2; have d1 := three1 q2; have d2 := three2 q2; go_simp⟩) hHeld ?_
            simp only [Act.put, List.setIfInBounds_toArray, List.set_cons_zero, List.set_cons_succ]
            refine wpAnyH_ready (rs := [11]) (by kernel_rfl) (by simp) (Yf.callI rfl (by kernel_rfl) 180 (.tmp 35) rfl 36 (by kernel_rfl) (.iface 170 (.agg #[])) (.agg #[]) (by kernel_rfl) (fun w => by kernel_rfl) (act5 _) ?_ AllReadyH.nil)
            rintro e w4 ⟨rfl, hb4⟩
            replace q0 := (hb4.cell (World.block_lt_of_cell? _ _ q0)).trans q0
            replace kA2 := (hb4.block _ (Array.getElem?_eq_some_iff.1 kA2).1).trans kA2
            replace hrow2 := hrow2.of_block (hb4.block _ hrow2.lt)
            replace hb2 := Rw.next hb2 hb4
            clear hb4
            refine ⟨_, rfl, ⟨q0, kA2⟩, fun hHeld => ?_⟩
            simp only [Act.put, List.setIfInBounds_toArray, List.set_cons_zero, List.set_cons_succ]
            refine take (i := 13) (d := some 38) (v := .bool false) rfl (by kernel_rfl) (by kernel_rfl) (by kernel_rfl) (by kernel_rfl) (fun _ _ _ h => h) (Or.inl ⟨by rfl, by intro w hSw; go_simp⟩) hHeld ?_
            simp only [Act.put, List.setIfInBounds_toArray, List.set_cons_zero, List.set_cons_succ]
            refine take (i := 14) (d := some 39) (v := .bool false) rfl (by kernel_rfl) (by kernel_rfl) (by kernel_rfl) (by kernel_rfl) (fun _ _ _ h => h) (Or.inl ⟨by rfl, by intro w hSw; go_simp⟩) hHeld ?_
            simp only [Act.put, List.setIfInBounds_toArray, List.set_cons_zero, List.set_cons_succ]
            refine wpAnyH_done (by kernel_rfl) ?_ _
            go_wp2
            all_goals go_roundw
            all_goals first | exact ⟨k + 1, by omega, by go_num, hb2, hrow2, hB⟩ | (simp [intOf]; omega)
          · have hne : (0 == x2) = false := by simpa using fun h : 0 = x2 => h1 h.symm
            go_wp2_with (go_at_call 153; rw [← hW0]; refine (kind_any (5, 0, x2) _).mono ?_; rintro e w1 ⟨rfl, hb⟩; rw [show actV (5, 0, x2) = .iface 170 (.agg #[]) from rfl]; replace hrow := hrow.of_block (hb.block _ hlw); replace kA := (hb.block _ zA).trans kA; replace hbel := Rw.next hbel hb; have g0 := hrow.cell hlt; have g1 := hrow.frozen k)
            obtain ⟨W2, hW2⟩ : ∃ W2, W2 = w1.setCell ⟨w.heap.size, k, none⟩ (.iface 170 (.agg #[])) := ⟨_, rfl⟩
            rw [← hW2]
            have q0 : W2.cell? ⟨w.heap.size, k, none⟩ = some (.iface 170 (.agg #[])) := by subst hW2; exact World.cell?_setCell_same _ _ _ g0
            have kA2 : W2.heap[wr.heap.size]? = some (.cells #[.int .i64 5, .int .i64 0, .int .i64 x2] 147 (0, 0)) := by subst hW2; exact (Below.heap_setCell _ _ _ _ (fun h => hlt2 h.symm)).trans kA
            have hrow2 : W2.rowIs w.heap.size 158 n (row l (k + 1)) := by subst hW2; have := row_step hrow; rw [HX.out] at this; exact this
            have hb2 : Below w.heap.size w W2 := by subst hW2; exact hbel.setCell (by simp) _
            clear hW2 hrow g0 g1 hbel kA
            have hB := actsB_no (l := l) (k := k) (by have := HN.out; omega) (by rw [HX.out]; simp [actB, h1])
            refine wp_region_held_drew (S := (fun w' => w'.cell? ⟨w.heap.size, k, none⟩ = some (.iface 170 (.agg #[])) ∧ w'.heap[wr.heap.size]? = some (.cells #[.int .i64 5, .int .i64 0, .int .i64 x2] 147 (0, 0)))) (by kernel_rfl) ⟨q0, kA2⟩ (fun hHeld => ?_)
            refine take (i := 0) (d := some 25) (v := .slice (some ⟨w.heap.size, 0, none⟩) n n) rfl (by kernel_rfl) (by kernel_rfl) (by kernel_rfl) (by kernel_rfl) (fun _ _ _ h => h) (Or.inl ⟨by rfl, by intro w hSw; go_simp⟩) hHeld ?_
            simp only [Act.put, List.setIfInBounds_toArray, List.set_cons_zero, List.set_cons_succ]
            refine take (i := 1) (d := some 26) (v := .int .i64 k) rfl (by kernel_rfl) (by kernel_rfl) (by kernel_rfl) (by kernel_rfl) (fun _ _ _ h => h) (Or.inl ⟨by rfl, by intro w hSw; go_simp⟩) hHeld ?_
            simp only [Act.put, List.setIfInBounds_toArray, List.set_cons_zero, List.set_cons_succ]
            refine take (i := 2) (d := some 27) (v := .pointer (some ⟨w.heap.size, k, none⟩)) rfl (by kernel_rfl) (by kernel_rfl) (by kernel_rfl) (by kernel_rfl) (fun _ _ _ h => h) (Or.inl ⟨by rfl, by intro w hSw; go_simp⟩) hHeld ?_
            simp only [Act.put, List.setIfInBounds_toArray, List.set_cons_zero, List.set_cons_succ]
            refine take (i := 3) (d := some 28) (v := .iface 170 (.agg #[])) rfl (by kernel_rfl) (by kernel_rfl) (by kernel_rfl) (by kernel_rfl) (fun _ _ _ h => h) (Or.inl ⟨by rfl, by intro w hSw; have q1 := hSw.1; go_simp⟩) hHeld ?_
            simp only [Act.put, List.setIfInBounds_toArray, List.set_cons_zero, List.set_cons_succ]
            refine wpAnyH_ready (rs := [4]) (by kernel_rfl) (by simp) (Rg.call1 rfl (by kernel_rfl) 154 (.tmp 28) 158 (by kernel_rfl) 29 (by kernel_rfl) (.iface 170 (.agg #[])) (by kernel_rfl) (fun _ => rfl) (right5 _) ?_ AllReadyH.nil)
            rintro e w3 ⟨rfl, hb3⟩
            replace hb3 := Rw.next (Below.drew (Below.refl _ W2)) hb3
            replace q0 := (hb3.cell (World.block_lt_of_cell? _ _ q0)).trans q0
            replace kA2 := (hb3.block _ (Array.getElem?_eq_some_iff.1 kA2).1).trans kA2
            replace hrow2 := hrow2.of_block (hb3.block _ hrow2.lt)
            replace hb2 := Rw.next hb2 hb3
            clear hb3
            refine ⟨_, rfl, ⟨q0, kA2⟩, fun hHeld => ?_⟩
            simp only [Act.put, List.setIfInBounds_toArray, List.set_cons_zero, List.set_cons_succ]
            refine take (i := 5) (d := some 30) (v := .bool false) rfl (by kernel_rfl) (by kernel_rfl) (by kernel_rfl) (by kernel_rfl) (fun _ _ _ h => h) (Or.inl ⟨by rfl, by intro w hSw; go_simp⟩) hHeld ?_
            simp only [Act.put, List.setIfInBounds_toArray, List.set_cons_zero, List.set_cons_succ]
            refine take (i := 6) (d := some 31) (v := .bool false) rfl (by kernel_rfl) (by kernel_rfl) (by kernel_rfl) (by kernel_rfl) (fun _ _ _ h => h) (Or.inl ⟨by rfl, by intro w hSw; go_simp⟩) hHeld ?_
            simp only [Act.put, List.setIfInBounds_toArray, List.set_cons_zero, List.set_cons_succ]
            refine take (i := 7) (d := some 32) (v := .slice (some ⟨w.heap.size, 0, none⟩) n n) rfl (by kernel_rfl) (by kernel_rfl) (by kernel_rfl) (by kernel_rfl) (fun _ _ _ h => h) (Or.inl ⟨by rfl, by intro w hSw; go_simp⟩) hHeld ?_
            simp only [Act.put, List.setIfInBounds_toArray, List.set_cons_zero, List.set_cons_succ]
            refine take (i := 8) (d := some 33) (v := .int .i64 k) rfl (by kernel_rfl) (by kernel_rfl) (by kernel_rfl) (by kernel_rfl) (fun _ _ _ h => h) (Or.inl ⟨by rfl, by intro w hSw; go_simp⟩) hHeld ?_
            simp only [Act.put, List.setIfInBounds_toArray, List.set_cons_zero, List.set_cons_succ]
            refine take (i := 9) (d := some 34) (v := .pointer (some ⟨w.heap.size, k, none⟩)) rfl (by kernel_rfl) (by kernel_rfl) (by kernel_rfl) (by kernel_rfl) (fun _ _ _ h => h) (Or.inl ⟨by rfl, by intro w hSw; go_simp⟩) hHeld ?_
            simp only [Act.put, List.setIfInBounds_toArray, List.set_cons_zero, List.set_cons_succ]
            refine take (i := 10) (d := some 35) (v := .iface 170 (.agg #[])) rfl (by kernel_rfl) (by kernel_rfl) (by kernel_rfl) (by kernel_rfl) (fun _ _ _ h => h) (Or.inl ⟨by rfl, by intro w hSw; have q1 := hSw.1; go_simp⟩) hHeld ?_
            simp only [Act.put, List.setIfInBounds_toArray, List.set_cons_zero, List.set_cons_succ]
            refine take (i := 12) (d := some 37) (v := .agg #[.int .i64 5, .int .i64 0, .int .i64 x2]) rfl (by kernel_rfl) (by kernel_rfl) (by kernel_rfl) (by kernel_rfl) (fun _ _ _ h => h) (Or.inl ⟨by rfl, by intro w hSw; have q2 := hSw.2; have d0 := three0 q2; have d1 := three1 q2; have d2 := three2 q2; go_simp⟩) hHeld ?_
            simp only [Act.put, List.setIfInBounds_toArray, List.set_cons_zero, List.set_cons_succ]
            refine wpAnyH_ready (rs := [11]) (by kernel_rfl) (by simp) (Yf.callI rfl (by kernel_rfl) 180 (.tmp 35) rfl 36 (by kernel_rfl) (.iface 170 (.agg #[])) (.agg #[]) (by kernel_rfl) (fun w => by kernel_rfl) (act5 _) ?_ AllReadyH.nil)
            rintro e w4 ⟨rfl, hb4⟩
            replace q0 := (hb4.cell (World.block_lt_of_cell? _ _ q0)).trans q0
            replace kA2 := (hb4.block _ (Array.getElem?_eq_some_iff.1 kA2).1).trans kA2
            replace hrow2 := hrow2.of_block (hb4.block _ hrow2.lt)
            replace hb2 := Rw.next hb2 hb4
            clear hb4
            refine ⟨_, rfl, ⟨q0, kA2⟩, fun hHeld => ?_⟩
            simp only [Act.put, List.setIfInBounds_toArray, List.set_cons_zero, List.set_cons_succ]
            refine take (i := 13) (d := some 38) (v := .bool true) rfl (by kernel_rfl) (by kernel_rfl) (by kernel_rfl) (by kernel_rfl) (fun _ _ _ h => h) (Or.inl ⟨by rfl, by intro w hSw; go_simp⟩) hHeld ?_
            simp only [Act.put, List.setIfInBounds_toArray, List.set_cons_zero, List.set_cons_succ]
            refine take (i := 14) (d := some 39) (v := .bool true) rfl (by kernel_rfl) (by kernel_rfl) (by kernel_rfl) (by kernel_rfl) (fun _ _ _ h => h) (Or.inl ⟨by rfl, by intro w hSw; go_simp⟩) hHeld ?_
            simp only [Act.put, List.setIfInBounds_toArray, List.set_cons_zero, List.set_cons_succ]
            refine wpAnyH_done (by kernel_rfl) ?_ _
            go_wp2
            all_goals exact bodyPost_ret (v := .tuple #[.slice none 0 0, .bool false]) (by simp [results, Try.results141, go_sem]) rfl ⟨hb2, fun _ => rfl, fun h => (by rw [hB] at h; cases h)⟩
        · have hne : (0 == x1) = false := by simpa using fun h : 0 = x1 => h0 h.symm
          go_wp2_with (go_at_call 153; rw [← hW0]; refine (kind_any (5, x1, x2) _).mono ?_; rintro e w1 ⟨rfl, hb⟩; rw [show actV (5, x1, x2) = .iface 170 (.agg #[]) from rfl]; replace hrow := hrow.of_block (hb.block _ hlw); replace kA := (hb.block _ zA).trans kA; replace hbel := Rw.next hbel hb; have g0 := hrow.cell hlt; have g1 := hrow.frozen k)
          obtain ⟨W2, hW2⟩ : ∃ W2, W2 = w1.setCell ⟨w.heap.size, k, none⟩ (.iface 170 (.agg #[])) := ⟨_, rfl⟩
          rw [← hW2]
          have q0 : W2.cell? ⟨w.heap.size, k, none⟩ = some (.iface 170 (.agg #[])) := by subst hW2; exact World.cell?_setCell_same _ _ _ g0
          have kA2 : W2.heap[wr.heap.size]? = some (.cells #[.int .i64 5, .int .i64 x1, .int .i64 x2] 147 (0, 0)) := by subst hW2; exact (Below.heap_setCell _ _ _ _ (fun h => hlt2 h.symm)).trans kA
          have hrow2 : W2.rowIs w.heap.size 158 n (row l (k + 1)) := by subst hW2; have := row_step hrow; rw [HX.out] at this; exact this
          have hb2 : Below w.heap.size w W2 := by subst hW2; exact hbel.setCell (by simp) _
          clear hW2 hrow g0 g1 hbel kA
          have hB := actsB_no (l := l) (k := k) (by have := HN.out; omega) (by rw [HX.out]; simp [actB, h0])
          refine wp_region_held_drew (S := (fun w' => w'.cell? ⟨w.heap.size, k, none⟩ = some (.iface 170 (.agg #[])) ∧ w'.heap[wr.heap.size]? = some (.cells #[.int .i64 5, .int .i64 x1, .int .i64 x2] 147 (0, 0)))) (by kernel_rfl) ⟨q0, kA2⟩ (fun hHeld => ?_)
          refine take (i := 0) (d := some 25) (v := .slice (some ⟨w.heap.size, 0, none⟩) n n) rfl (by kernel_rfl) (by kernel_rfl) (by kernel_rfl) (by kernel_rfl) (fun _ _ _ h => h) (Or.inl ⟨by rfl, by intro w hSw; go_simp⟩) hHeld ?_
          simp only [Act.put, List.setIfInBounds_toArray, List.set_cons_zero, List.set_cons_succ]
          refine take (i := 1) (d := some 26) (v := .int .i64 k) rfl (by kernel_rfl) (by kernel_rfl) (by kernel_rfl) (by kernel_rfl) (fun _ _ _ h => h) (Or.inl ⟨by rfl, by intro w hSw; go_simp⟩) hHeld ?_
          simp only [Act.put, List.setIfInBounds_toArray, List.set_cons_zero, List.set_cons_succ]
          refine take (i := 2) (d := some 27) (v := .pointer (some ⟨w.heap.size, k, none⟩)) rfl (by kernel_rfl) (by kernel_rfl) (by kernel_rfl) (by kernel_rfl) (fun _ _ _ h => h) (Or.inl ⟨by rfl, by intro w hSw; go_simp⟩) hHeld ?_
          simp only [Act.put, List.setIfInBounds_toArray, List.set_cons_zero, List.set_cons_succ]
          refine take (i := 3) (d := some 28) (v := .iface 170 (.agg #[])) rfl (by kernel_rfl) (by kernel_rfl) (by kernel_rfl) (by kernel_rfl) (fun _ _ _ h => h) (Or.inl ⟨by rfl, by intro w hSw; have q1 := hSw.1; go_simp⟩) hHeld ?_
          simp only [Act.put, List.setIfInBounds_toArray, List.set_cons_zero, List.set_cons_succ]
          refine wpAnyH_ready (rs := [4]) (by kernel_rfl) (by simp) (Rg.call1 rfl (by kernel_rfl) 154 (.tmp 28) 158 (by kernel_rfl) 29 (by kernel_rfl) (.iface 170 (.agg #[])) (by kernel_rfl) (fun _ => rfl) (right5 _) ?_ AllReadyH.nil)
          rintro e w3 ⟨rfl, hb3⟩
          replace hb3 := Rw.next (Below.drew (Below.refl _ W2)) hb3
          replace q0 := (hb3.cell (World.block_lt_of_cell? _ _ q0)).trans q0
          replace kA2 := (hb3.block _ (Array.getElem?_eq_some_iff.1 kA2).1).trans kA2
          replace hrow2 := hrow2.of_block (hb3.block _ hrow2.lt)
          replace hb2 := Rw.next hb2 hb3
          clear hb3
          refine ⟨_, rfl, ⟨q0, kA2⟩, fun hHeld => ?_⟩
          simp only [Act.put, List.setIfInBounds_toArray, List.set_cons_zero, List.set_cons_succ]
          refine take (i := 5) (d := some 30) (v := .bool false) rfl (by kernel_rfl) (by kernel_rfl) (by kernel_rfl) (by kernel_rfl) (fun _ _ _ h => h) (Or.inl ⟨by rfl, by intro w hSw; go_simp⟩) hHeld ?_
          simp only [Act.put, List.setIfInBounds_toArray, List.set_cons_zero, List.set_cons_succ]
          refine take (i := 6) (d := some 31) (v := .bool false) rfl (by kernel_rfl) (by kernel_rfl) (by kernel_rfl) (by kernel_rfl) (fun _ _ _ h => h) (Or.inl ⟨by rfl, by intro w hSw; go_simp⟩) hHeld ?_
          simp only [Act.put, List.setIfInBounds_toArray, List.set_cons_zero, List.set_cons_succ]
          refine take (i := 7) (d := some 32) (v := .slice (some ⟨w.heap.size, 0, none⟩) n n) rfl (by kernel_rfl) (by kernel_rfl) (by kernel_rfl) (by kernel_rfl) (fun _ _ _ h => h) (Or.inl ⟨by rfl, by intro w hSw; go_simp⟩) hHeld ?_
          simp only [Act.put, List.setIfInBounds_toArray, List.set_cons_zero, List.set_cons_succ]
          refine take (i := 8) (d := some 33) (v := .int .i64 k) rfl (by kernel_rfl) (by kernel_rfl) (by kernel_rfl) (by kernel_rfl) (fun _ _ _ h => h) (Or.inl ⟨by rfl, by intro w hSw; go_simp⟩) hHeld ?_
          simp only [Act.put, List.setIfInBounds_toArray, List.set_cons_zero, List.set_cons_succ]
          refine take (i := 9) (d := some 34) (v := .pointer (some ⟨w.heap.size, k, none⟩)) rfl (by kernel_rfl) (by kernel_rfl) (by kernel_rfl) (by kernel_rfl) (fun _ _ _ h => h) (Or.inl ⟨by rfl, by intro w hSw; go_simp⟩) hHeld ?_
          simp only [Act.put, List.setIfInBounds_toArray, List.set_cons_zero, List.set_cons_succ]
          refine take (i := 10) (d := some 35) (v := .iface 170 (.agg #[])) rfl (by kernel_rfl) (by kernel_rfl) (by kernel_rfl) (by kernel_rfl) (fun _ _ _ h => h) (Or.inl ⟨by rfl, by intro w hSw; have q1 := hSw.1; go_simp⟩) hHeld ?_
          simp only [Act.put, List.setIfInBounds_toArray, List.set_cons_zero, List.set_cons_succ]
          refine take (i := 12) (d := some 37) (v := .agg #[.int .i64 5, .int .i64 x1, .int .i64 x2]) rfl (by kernel_rfl) (by kernel_rfl) (by kernel_rfl) (by kernel_rfl) (fun _ _ _ h => h) (Or.inl ⟨by rfl, by intro w hSw; have q2 := hSw.2; have d0 := three0 q2; have d1 := three1 q2; have d2 := three2 q2; go_simp⟩) hHeld ?_
          simp only [Act.put, List.setIfInBounds_toArray, List.set_cons_zero, List.set_cons_succ]
          refine wpAnyH_ready (rs := [11]) (by kernel_rfl) (by simp) (Yf.callI rfl (by kernel_rfl) 180 (.tmp 35) rfl 36 (by kernel_rfl) (.iface 170 (.agg #[])) (.agg #[]) (by kernel_rfl) (fun w => by kernel_rfl) (act5 _) ?_ AllReadyH.nil)
          rintro e w4 ⟨rfl, hb4⟩
          replace q0 := (hb4.cell (World.block_lt_of_cell? _ _ q0)).trans q0
          replace kA2 := (hb4.block _ (Array.getElem?_eq_some_iff.1 kA2).1).trans kA2
          replace hrow2 := hrow2.of_block (hb4.block _ hrow2.lt)
          replace hb2 := Rw.next hb2 hb4
          clear hb4
          refine ⟨_, rfl, ⟨q0, kA2⟩, fun hHeld => ?_⟩
          simp only [Act.put, List.setIfInBounds_toArray, List.set_cons_zero, List.set_cons_succ]
          refine take (i := 13) (d := some 38) (v := .bool true) rfl (by kernel_rfl) (by kernel_rfl) (by kernel_rfl) (by kernel_rfl) (fun _ _ _ h => h) (Or.inl ⟨by rfl, by intro w hSw; go_simp⟩) hHeld ?_
          simp only [Act.put, List.setIfInBounds_toArray, List.set_cons_zero, List.set_cons_succ]
          refine take (i := 14) (d := some 39) (v := .bool true) rfl (by kernel_rfl) (by kernel_rfl) (by kernel_rfl) (by kernel_rfl) (fun _ _ _ h => h) (Or.inl ⟨by rfl, by intro w hSw; go_simp⟩) hHeld ?_
          simp only [Act.put, List.setIfInBounds_toArray, List.set_cons_zero, List.set_cons_succ]
          refine wpAnyH_done (by kernel_rfl) ?_ _
          go_wp2
          all_goals exact bodyPost_ret (v := .tuple #[.slice none 0 0, .bool false]) (by simp [results, Try.results141, go_sem]) rfl ⟨hb2, fun _ => rfl, fun h => (by rw [hB] at h; cases h)⟩
      by_cases k3 : x0 = 3
      · subst k3
        cases hr : decide (x1 = 1 ∨ x1 = 2) && Hg.fits x1 x2
        · have HR : Hid ((decide (x1 = 1 ∨ x1 = 2) && Hg.fits x1 x2) = false) := hr
          clear hr
          go_wp2_with (go_at_call 153; rw [← hW0]; refine (kind_any (3, x1, x2) _).mono ?_; rintro e w1 ⟨rfl, hb⟩; rw [show actV (3, x1, x2) = .iface 168 (.agg #[.int .i64 x1, .int .i64 x2]) from rfl]; replace hrow := hrow.of_block (hb.block _ hlw); replace kA := (hb.block _ zA).trans kA; replace hbel := Rw.next hbel hb; have g0 := hrow.cell hlt; have g1 := hrow.frozen k)
          obtain ⟨W2, hW2⟩ : ∃ W2, W2 = w1.setCell ⟨w.heap.size, k, none⟩ (.iface 168 (.agg #[.int .i64 x1, .int .i64 x2])) := ⟨_, rfl⟩
          rw [← hW2]
          have q0 : W2.cell? ⟨w.heap.size, k, none⟩ = some (.iface 168 (.agg #[.int .i64 x1, .int .i64 x2])) := by subst hW2; exact World.cell?_setCell_same _ _ _ g0
          have kA2 : W2.heap[wr.heap.size]? = some (.cells #[.int .i64 3, .int .i64 x1, .int .i64 x2] 147 (0, 0)) := by subst hW2; exact (Below.heap_setCell _ _ _ _ (fun h => hlt2 h.symm)).trans kA
          have hrow2 : W2.rowIs w.heap.size 158 n (row l (k + 1)) := by subst hW2; have := row_step hrow; rw [HX.out] at this; exact this
          have hb2 : Below w.heap.size w W2 := by subst hW2; exact hbel.setCell (by simp) _
          clear hW2 hrow g0 g1 hbel kA
          have hB := actsB_no (l := l) (k := k) (by have := HN.out; omega) (by rw [HX.out]; rw [actB_set]; exact HR.out)
          refine wp_region_held_drew (S := (fun w' => w'.cell? ⟨w.heap.size, k, none⟩ = some (.iface 168 (.agg #[.int .i64 x1, .int .i64 x2])) ∧ w'.heap[wr.heap.size]? = some (.cells #[.int .i64 3, .int .i64 x1, .int .i64 x2] 147 (0, 0)))) (by kernel_rfl) ⟨q0, kA2⟩ (fun hHeld => ?_)
          refine take (i := 0) (d := some 25) (v := .slice (some ⟨w.heap.size, 0, none⟩) n n) rfl (by kernel_rfl) (by kernel_rfl) (by kernel_rfl) (by kernel_rfl) (fun _ _ _ h => h) (Or.inl ⟨by rfl, by intro w hSw; go_simp⟩) hHeld ?_
          simp only [Act.put, List.setIfInBounds_toArray, List.set_cons_zero, List.set_cons_succ]
          refine take (i := 1) (d := some 26) (v := .int .i64 k) rfl (by kernel_rfl) (by kernel_rfl) (by kernel_rfl) (by kernel_rfl) (fun _ _ _ h => h) (Or.inl ⟨by rfl, by intro w hSw; go_simp⟩) hHeld ?_
          simp only [Act.put, List.setIfInBounds_toArray, List.set_cons_zero, List.set_cons_succ]
          refine take (i := 2) (d := some 27) (v := .pointer (some ⟨w.heap.size, k, none⟩)) rfl (by kernel_rfl) (by kernel_rfl) (by kernel_rfl) (by kernel_rfl) (fun _ _ _ h => h) (Or.inl ⟨by rfl, by intro w hSw; go_simp⟩) hHeld ?_
          simp only [Act.put, List.setIfInBounds_toArray, List.set_cons_zero, List.set_cons_succ]
          refine take (i := 3) (d := some 28) (v := .iface 168 (.agg #[.int .i64 x1, .int .i64 x2])) rfl (by kernel_rfl) (by kernel_rfl) (by kernel_rfl) (by kernel_rfl) (fun _ _ _ h => h) (Or.inl ⟨by rfl, by intro w hSw; have q1 := hSw.1; go_simp⟩) hHeld ?_
          simp only [Act.put, List.setIfInBounds_toArray, List.set_cons_zero, List.set_cons_succ]
          refine wpAnyH_ready (rs := [4]) (by kernel_rfl) (by simp) (Rg.call1 rfl (by kernel_rfl) 154 (.tmp 28) 158 (by kernel_rfl) 29 (by kernel_rfl) (.iface 168 (.agg #[.int .i64 x1, .int .i64 x2])) (by kernel_rfl) (fun _ => rfl) (Yf.right3b HR.out _) ?_ AllReadyH.nil)
          rintro e w3 ⟨rfl, hb3⟩
          replace hb3 := Rw.next (Below.drew (Below.refl _ W2)) hb3
          replace q0 := (hb3.cell (World.block_lt_of_cell? _ _ q0)).trans q0
          replace kA2 := (hb3.block _ (Array.getElem?_eq_some_iff.1 kA2).1).trans kA2
          replace hrow2 := hrow2.of_block (hb3.block _ hrow2.lt)
          replace hb2 := Rw.next hb2 hb3
          clear hb3
          refine ⟨_, rfl, ⟨q0, kA2⟩, fun hHeld => ?_⟩
          simp only [Act.put, List.setIfInBounds_toArray, List.set_cons_zero, List.set_cons_succ]
          refine take (i := 5) (d := some 30) (v := .bool true) rfl (by kernel_rfl) (by kernel_rfl) (by kernel_rfl) (by kernel_rfl) (fun _ _ _ h => h) (Or.inl ⟨by rfl, by intro w hSw; go_simp⟩) hHeld ?_
          simp only [Act.put, List.setIfInBounds_toArray, List.set_cons_zero, List.set_cons_succ]
          refine take (i := 6) (d := some 31) (v := .bool true) rfl (by kernel_rfl) (by kernel_rfl) (by kernel_rfl) (by kernel_rfl) (fun _ _ _ h => h) (Or.inl ⟨by rfl, by intro w hSw; go_simp⟩) hHeld ?_
          simp only [Act.put, List.setIfInBounds_toArray, List.set_cons_zero, List.set_cons_succ]
          refine take (i := 7) (d := some 32) (v := undef) rfl (by kernel_rfl) (by kernel_rfl) (by kernel_rfl) (by kernel_rfl) (fun _ _ _ h => h) (Or.inr ⟨by rfl, rfl⟩) hHeld ?_
          simp only [Act.put, List.setIfInBounds_toArray, List.set_cons_zero, List.set_cons_succ]
          refine take (i := 8) (d := some 33) (v := undef) rfl (by kernel_rfl) (by kernel_rfl) (by kernel_rfl) (by kernel_rfl) (fun _ _ _ h => h) (Or.inr ⟨by rfl, rfl⟩) hHeld ?_
          simp only [Act.put, List.setIfInBounds_toArray, List.set_cons_zero, List.set_cons_succ]
          refine take (i := 9) (d := some 34) (v := undef) rfl (by kernel_rfl) (by kernel_rfl) (by kernel_rfl) (by kernel_rfl) (fun _ _ _ h => h) (Or.inr ⟨by rfl, rfl⟩) hHeld ?_
          simp only [Act.put, List.setIfInBounds_toArray, List.set_cons_zero, List.set_cons_succ]
          refine take (i := 10) (d := some 35) (v := undef) rfl (by kernel_rfl) (by kernel_rfl) (by kernel_rfl) (by kernel_rfl) (fun _ _ _ h => h) (Or.inr ⟨by rfl, rfl⟩) hHeld ?_
          simp only [Act.put, List.setIfInBounds_toArray, List.set_cons_zero, List.set_cons_succ]
          refine take (i := 11) (d := some 36) (v := undef) rfl (by kernel_rfl) (by kernel_rfl) (by kernel_rfl) (by kernel_rfl) (fun _ _ _ h => h) (Or.inr ⟨by rfl, rfl⟩) hHeld ?_
          simp only [Act.put, List.setIfInBounds_toArray, List.set_cons_zero, List.set_cons_succ]
          refine take (i := 12) (d := some 37) (v := undef) rfl (by kernel_rfl) (by kernel_rfl) (by kernel_rfl) (by kernel_rfl) (fun _ _ _ h => h) (Or.inr ⟨by rfl, rfl⟩) hHeld ?_
          simp only [Act.put, List.setIfInBounds_toArray, List.set_cons_zero, List.set_cons_succ]
          refine take (i := 13) (d := some 38) (v := undef) rfl (by kernel_rfl) (by kernel_rfl) (by kernel_rfl) (by kernel_rfl) (fun _ _ _ h => h) (Or.inr ⟨by rfl, rfl⟩) hHeld ?_
          simp only [Act.put, List.setIfInBounds_toArray, List.set_cons_zero, List.set_cons_succ]
          refine take (i := 14) (d := some 39) (v := .bool true) rfl (by kernel_rfl) (by kernel_rfl) (by kernel_rfl) (by kernel_rfl) (fun _ _ _ h => h) (Or.inl ⟨by rfl, by intro w hSw; go_simp⟩) hHeld ?_
          simp only [Act.put, List.setIfInBounds_toArray, List.set_cons_zero, List.set_cons_succ]
          refine wpAnyH_done (by kernel_rfl) ?_ _
          go_wp2
          all_goals exact bodyPost_ret (v := .tuple #[.slice none 0 0, .bool false]) (by simp [results, Try.results141, go_sem]) rfl ⟨hb2, fun _ => rfl, fun h => (by rw [hB] at h; cases h)⟩
        · have HR : Hid ((decide (x1 = 1 ∨ x1 = 2) && Hg.fits x1 x2) = true) := hr
          clear hr
          go_wp2_with (go_at_call 153; rw [← hW0]; refine (kind_any (3, x1, x2) _).mono ?_; rintro e w1 ⟨rfl, hb⟩; rw [show actV (3, x1, x2) = .iface 168 (.agg #[.int .i64 x1, .int .i64 x2]) from rfl]; replace hrow := hrow.of_block (hb.block _ hlw); replace kA := (hb.block _ zA).trans kA; replace hbel := Rw.next hbel hb; have g0 := hrow.cell hlt; have g1 := hrow.frozen k)
          obtain ⟨W2, hW2⟩ : ∃ W2, W2 = w1.setCell ⟨w.heap.size, k, none⟩ (.iface 168 (.agg #[.int .i64 x1, .int .i64 x2])) := ⟨_, rfl⟩
          rw [← hW2]
          have q0 : W2.cell? ⟨w.heap.size, k, none⟩ = some (.iface 168 (.agg #[.int .i64 x1, .int .i64 x2])) := by subst hW2; exact World.cell?_setCell_same _ _ _ g0
          have kA2 : W2.heap[wr.heap.size]? = some (.cells #[.int .i64 3, .int .i64 x1, .int .i64 x2] 147 (0, 0)) := by subst hW2; exact (Below.heap_setCell _ _ _ _ (fun h => hlt2 h.symm)).trans kA
          have hrow2 : W2.rowIs w.heap.size 158 n (row l (k + 1)) := by subst hW2; have := row_step hrow; rw [HX.out] at this; exact this
          have hb2 : Below w.heap.size w W2 := by subst hW2; exact hbel.setCell (by simp) _
          clear hW2 hrow g0 g1 hbel kA
          have hB := pre_step HP.out (by rw [HX.out]; rw [actB_set]; exact HR.out)
          refine wp_region_held_drew (S := (fun w' => w'.cell? ⟨w.heap.size, k, none⟩ = some (.iface 168 (.agg #[.int .i64 x1, .int .i64 x2])) ∧ w'.heap[wr.heap.size]? = some (.cells #[.int .i64 3, .int .i64 x1, .int .i64 x2] 147 (0, 0)))) (by kernel_rfl) ⟨q0, kA2⟩ (fun hHeld => ?_)
          refine take (i := 0) (d := some 25) (v := .slice (some ⟨w.heap.size, 0, none⟩) n n) rfl (by kernel_rfl) (by kernel_rfl) (by kernel_rfl) (by kernel_rfl) (fun _ _ _ h => h) (Or.inl ⟨by rfl, by intro w hSw; go_simp⟩) hHeld ?_
          simp only [Act.put, List.setIfInBounds_toArray, List.set_cons_zero, List.set_cons_succ]
          refine take (i := 1) (d := some 26) (v := .int .i64 k) rfl (by kernel_rfl) (by kernel_rfl) (by kernel_rfl) (by kernel_rfl) (fun _ _ _ h => h) (Or.inl ⟨by rfl, by intro w hSw; go_simp⟩) hHeld ?_
          simp only [Act.put, List.setIfInBounds_toArray, List.set_cons_zero, List.set_cons_succ]
          refine take (i := 2) (d := some 27) (v := .pointer (some ⟨w.heap.size, k, none⟩)) rfl (by kernel_rfl) (by kernel_rfl) (by kernel_rfl) (by kernel_rfl) (fun _ _ _ h => h) (Or.inl ⟨by rfl, by intro w hSw; go_simp⟩) hHeld ?_
          simp only [Act.put, List.setIfInBounds_toArray, List.set_cons_zero, List.set_cons_succ]
          refine take (i := 3) (d := some 28) (v := .iface 168 (.agg #[.int .i64 x1, .int .i64 x2])) rfl (by kernel_rfl) (by kernel_rfl) (by kernel_rfl) (by kernel_rfl) (fun _ _ _ h => h) (Or.inl ⟨by rfl, by intro w hSw; have q1 := hSw.1; go_simp⟩) hHeld ?_
          simp only [Act.put, List.setIfInBounds_toArray, List.set_cons_zero, List.set_cons_succ]
          refine wpAnyH_ready (rs := [4]) (by kernel_rfl) (by simp) (Rg.call1 rfl (by kernel_rfl) 154 (.tmp 28) 158 (by kernel_rfl) 29 (by kernel_rfl) (.iface 168 (.agg #[.int .i64 x1, .int .i64 x2])) (by kernel_rfl) (fun _ => rfl) (Yf.right3b HR.out _) ?_ AllReadyH.nil)
          rintro e w3 ⟨rfl, hb3⟩
          replace hb3 := Rw.next (Below.drew (Below.refl _ W2)) hb3
          replace q0 := (hb3.cell (World.block_lt_of_cell? _ _ q0)).trans q0
          replace kA2 := (hb3.block _ (Array.getElem?_eq_some_iff.1 kA2).1).trans kA2
          replace hrow2 := hrow2.of_block (hb3.block _ hrow2.lt)
          replace hb2 := Rw.next hb2 hb3
          clear hb3
          refine ⟨_, rfl, ⟨q0, kA2⟩, fun hHeld => ?_⟩
          simp only [Act.put, List.setIfInBounds_toArray, List.set_cons_zero, List.set_cons_succ]
          refine take (i := 5) (d := some 30) (v := .bool false) rfl (by kernel_rfl) (by kernel_rfl) (by kernel_rfl) (by kernel_rfl) (fun _ _ _ h => h) (Or.inl ⟨by rfl, by intro w hSw; go_simp⟩) hHeld ?_
          simp only [Act.put, List.setIfInBounds_toArray, List.set_cons_zero, List.set_cons_succ]
          refine take (i := 6) (d := some 31) (v := .bool false) rfl (by kernel_rfl) (by kernel_rfl) (by kernel_rfl) (by kernel_rfl) (fun _ _ _ h => h) (Or.inl ⟨by rfl, by intro w hSw; go_simp⟩) hHeld ?_
          simp only [Act.put, List.setIfInBounds_toArray, List.set_cons_zero, List.set_cons_succ]
          refine take (i := 7) (d := some 32) (v := .slice (some ⟨w.heap.size, 0, none⟩) n n) rfl (by kernel_rfl) (by kernel_rfl) (by kernel_rfl) (by kernel_rfl) (fun _ _ _ h => h) (Or.inl ⟨by rfl, by intro w hSw; go_simp⟩) hHeld ?_
          simp only [Act.put, List.setIfInBounds_toArray, List.set_cons_zero, List.set_cons_succ]
          refine take (i := 8) (d := some 33) (v := .int .i64 k) rfl (by kernel_rfl) (by kernel_rfl) (by kernel_rfl) (by kernel_rfl) (fun _ _ _ h => h) (Or.inl ⟨by rfl, by intro w hSw; go_simp⟩) hHeld ?_
          simp only [Act.put, List.setIfInBounds_toArray, List.set_cons_zero, List.set_cons_succ]
          refine take (i := 9) (d := some 34) (v := .pointer (some ⟨w.heap.size, k, none⟩)) rfl (by kernel_rfl) (by kernel_rfl) (by kernel_rfl) (by kernel_rfl) (fun _ _ _ h => h) (Or.inl ⟨by rfl, by intro w hSw; go_simp⟩) hHeld ?_
          simp only [Act.put, List.setIfInBounds_toArray, List.set_cons_zero, List.set_cons_succ]
          refine take (i := 10) (d := some 35) (v := .iface 168 (.agg #[.int .i64 x1, .int .i64 x2])) rfl (by kernel_rfl) (by kernel_rfl) (by kernel_rfl) (by kernel_rfl) (fun _ _ _ h => h) (Or.inl ⟨by rfl, by intro w hSw; have q1 := hSw.1; go_simp⟩) hHeld ?_
          simp only [Act.put, List.setIfInBounds_toArray, List.set_cons_zero, List.set_cons_succ]
          refine take (i := 12) (d := some 37) (v := .agg #[.int .i64 3, .int .i64 x1, .int .i64 x2]) rfl (by kernel_rfl) (by kernel_rfl) (by kernel_rfl) (by kernel_rfl) (fun _ _ _ h => h) (Or.inl ⟨by rfl, by intro w hSw; have q2 := hSw.2; have d0 := three0 q2; have d1 := three1 q2; have d2 := three2 q2; go_simp⟩) hHeld ?_
          simp only [Act.put, List.setIfInBounds_toArray, List.set_cons_zero, List.set_cons_succ]
          refine wpAnyH_ready (rs := [11]) (by kernel_rfl) (by simp) (Yf.callI rfl (by kernel_rfl) 178 (.tmp 35) rfl 36 (by kernel_rfl) (.iface 168 (.agg #[.int .i64 x1, .int .i64 x2])) (.agg #[.int .i64 x1, .int .i64 x2]) (by kernel_rfl) (fun w => by kernel_rfl) (act3 x1 x2 _) ?_ AllReadyH.nil)
          rintro e w4 ⟨rfl, hb4⟩
          replace q0 := (hb4.cell (World.block_lt_of_cell? _ _ q0)).trans q0
          replace kA2 := (hb4.block _ (Array.getElem?_eq_some_iff.1 kA2).1).trans kA2
          replace hrow2 := hrow2.of_block (hb4.block _ hrow2.lt)
          replace hb2 := Rw.next hb2 hb4
          clear hb4
          refine ⟨_, rfl, ⟨q0, kA2⟩, fun hHeld => ?_⟩
          simp only [Act.put, List.setIfInBounds_toArray, List.set_cons_zero, List.set_cons_succ]
          refine take (i := 13) (d := some 38) (v := .bool false) rfl (by kernel_rfl) (by kernel_rfl) (by kernel_rfl) (by kernel_rfl) (fun _ _ _ h => h) (Or.inl ⟨by rfl, by intro w hSw; go_simp⟩) hHeld ?_
          simp only [Act.put, List.setIfInBounds_toArray, List.set_cons_zero, List.set_cons_succ]
          refine take (i := 14) (d := some 39) (v := .bool false) rfl (by kernel_rfl) (by kernel_rfl) (by kernel_rfl) (by kernel_rfl) (fun _ _ _ h => h) (Or.inl ⟨by rfl, by intro w hSw; go_simp⟩) hHeld ?_
          simp only [Act.put, List.setIfInBounds_toArray, List.set_cons_zero, List.set_cons_succ]
          refine wpAnyH_done (by kernel_rfl) ?_ _
          go_wp2
          all_goals go_roundw
          all_goals first | exact ⟨k + 1, by omega, by go_num, hb2, hrow2, hB⟩ | (simp [intOf]; omega)
      have hV6 : actV (x0, x1, x2) = .nilIface := by simp [actV, k1, k2, k3, k4, k5]
      go_wp2_with (go_at_call 153; rw [← hW0]; refine (kind_any (x0, x1, x2) _).mono ?_; rintro e w1 ⟨rfl, hb⟩; rw [show actV (x0, x1, x2) = .nilIface from hV6]; replace hrow := hrow.of_block (hb.block _ hlw); replace kA := (hb.block _ zA).trans kA; replace hbel := Rw.next hbel hb; have g0 := hrow.cell hlt; have g1 := hrow.frozen k)
      obtain ⟨W2, hW2⟩ : ∃ W2, W2 = w1.setCell ⟨w.heap.size, k, none⟩ (.nilIface) := ⟨_, rfl⟩
      rw [← hW2]
      have q0 : W2.cell? ⟨w.heap.size, k, none⟩ = some (.nilIface) := by subst hW2; exact World.cell?_setCell_same _ _ _ g0
      have kA2 : W2.heap[wr.heap.size]? = some (.cells #[.int .i64 x0, .int .i64 x1, .int .i64 x2] 147 (0, 0)) := by subst hW2; exact (Below.heap_setCell _ _ _ _ (fun h => hlt2 h.symm)).trans kA
      have hrow2 : W2.rowIs w.heap.size 158 n (row l (k + 1)) := by subst hW2; have := row_step hrow; rw [HX.out] at this; rw [hV6] at this; exact this
      have hb2 : Below w.heap.size w W2 := by subst hW2; exact hbel.setCell (by simp) _
      clear hW2 hrow g0 g1 hbel kA
      have hB := actsB_no (l := l) (k := k) (by have := HN.out; omega) (by rw [HX.out]; simp [actB, k1, k2, k3, k4, k5])
      refine wp_region_held_drew (S := (fun w' => w'.cell? ⟨w.heap.size, k, none⟩ = some (.nilIface) ∧ w'.heap[wr.heap.size]? = some (.cells #[.int .i64 x0, .int .i64 x1, .int .i64 x2] 147 (0, 0)))) (by kernel_rfl) ⟨q0, kA2⟩ (fun hHeld => ?_)
      refine take (i := 0) (d := some 25) (v := .slice (some ⟨w.heap.size, 0, none⟩) n n) rfl (by kernel_rfl) (by kernel_rfl) (by kernel_rfl) (by kernel_rfl) (fun _ _ _ h => h) (Or.inl ⟨by rfl, by intro w hSw; go_simp⟩) hHeld ?_
      simp only [Act.put, List.setIfInBounds_toArray, List.set_cons_zero, List.set_cons_succ]
      refine take (i := 1) (d := some 26) (v := .int .i64 k) rfl (by kernel_rfl) (by kernel_rfl) (by kernel_rfl) (by kernel_rfl) (fun _ _ _ h => h) (Or.inl ⟨by rfl, by intro w hSw; go_simp⟩) hHeld ?_
      simp only [Act.put, List.setIfInBounds_toArray, List.set_cons_zero, List.set_cons_succ]
      refine take (i := 2) (d := some 27) (v := .pointer (some ⟨w.heap.size, k, none⟩)) rfl (by kernel_rfl) (by kernel_rfl) (by kernel_rfl) (by kernel_rfl) (fun _ _ _ h => h) (Or.inl ⟨by rfl, by intro w hSw; go_simp⟩) hHeld ?_
      simp only [Act.put, List.setIfInBounds_toArray, List.set_cons_zero, List.set_cons_succ]
      refine take (i := 3) (d := some 28) (v := .nilIface) rfl (by kernel_rfl) (by kernel_rfl) (by kernel_rfl) (by kernel_rfl) (fun _ _ _ h => h) (Or.inl ⟨by rfl, by intro w hSw; have q1 := hSw.1; go_simp⟩) hHeld ?_
      simp only [Act.put, List.setIfInBounds_toArray, List.set_cons_zero, List.set_cons_succ]
      refine wpAnyH_ready (rs := [4]) (by kernel_rfl) (by simp) (Rg.call1 rfl (by kernel_rfl) 154 (.tmp 28) 158 (by kernel_rfl) 29 (by kernel_rfl) (.nilIface) (by kernel_rfl) (fun _ => rfl) (right6 _) ?_ AllReadyH.nil)
      rintro e w3 ⟨rfl, hb3⟩
      replace hb3 := Rw.next (Below.drew (Below.refl _ W2)) hb3
      replace q0 := (hb3.cell (World.block_lt_of_cell? _ _ q0)).trans q0
      replace kA2 := (hb3.block _ (Array.getElem?_eq_some_iff.1 kA2).1).trans kA2
      replace hrow2 := hrow2.of_block (hb3.block _ hrow2.lt)
      replace hb2 := Rw.next hb2 hb3
      clear hb3
      refine ⟨_, rfl, ⟨q0, kA2⟩, fun hHeld => ?_⟩
      simp only [Act.put, List.setIfInBounds_toArray, List.set_cons_zero, List.set_cons_succ]
      refine take (i := 5) (d := some 30) (v := .bool true) rfl (by kernel_rfl) (by kernel_rfl) (by kernel_rfl) (by kernel_rfl) (fun _ _ _ h => h) (Or.inl ⟨by rfl, by intro w hSw; go_simp⟩) hHeld ?_
      simp only [Act.put, List.setIfInBounds_toArray, List.set_cons_zero, List.set_cons_succ]
      refine take (i := 6) (d := some 31) (v := .bool true) rfl (by kernel_rfl) (by kernel_rfl) (by kernel_rfl) (by kernel_rfl) (fun _ _ _ h => h) (Or.inl ⟨by rfl, by intro w hSw; go_simp⟩) hHeld ?_
      simp only [Act.put, List.setIfInBounds_toArray, List.set_cons_zero, List.set_cons_succ]
      refine take (i := 7) (d := some 32) (v := undef) rfl (by kernel_rfl) (by kernel_rfl) (by kernel_rfl) (by kernel_rfl) (fun _ _ _ h => h) (Or.inr ⟨by rfl, rfl⟩) hHeld ?_
      simp only [Act.put, List.setIfInBounds_toArray, List.set_cons_zero, List.set_cons_succ]
      refine take (i := 8) (d := some 33) (v := undef) rfl (by kernel_rfl) (by kernel_rfl) (by kernel_rfl) (by kernel_rfl) (fun _ _ _ h => h) (Or.inr ⟨by rfl, rfl⟩) hHeld ?_
      simp only [Act.put, List.setIfInBounds_toArray, List.set_cons_zero, List.set_cons_succ]
      refine take (i := 9) (d := some 34) (v := undef) rfl (by kernel_rfl) (by kernel_rfl) (by kernel_rfl) (by kernel_rfl) (fun _ _ _ h => h) (Or.inr ⟨by rfl, rfl⟩) hHeld ?_
      simp only [Act.put, List.setIfInBounds_toArray, List.set_cons_zero, List.set_cons_succ]
      refine take (i := 10) (d := some 35) (v := undef) rfl (by kernel_rfl) (by kernel_rfl) (by kernel_rfl) (by kernel_rfl) (fun _ _ _ h => h) (Or.inr ⟨by rfl, rfl⟩) hHeld ?_
      simp only [Act.put, List.setIfInBounds_toArray, List.set_cons_zero, List.set_cons_succ]
      refine take (i := 11) (d := some 36) (v := undef) rfl (by kernel_rfl) (by kernel_rfl) (by kernel_rfl) (by kernel_rfl) (fun _ _ _ h => h) (Or.inr ⟨by rfl, rfl⟩) hHeld ?_
      simp only [Act.put, List.setIfInBounds_toArray, List.set_cons_zero, List.set_cons_succ]
      refine take (i := 12) (d := some 37) (v := undef) rfl (by kernel_rfl) (by kernel_rfl) (by kernel_rfl) (by kernel_rfl) (fun _ _ _ h => h) (Or.inr ⟨by rfl, rfl⟩) hHeld ?_
      simp only [Act.put, List.setIfInBounds_toArray, List.set_cons_zero, List.set_cons_succ]
      refine take (i := 13) (d := some 38) (v := undef) rfl (by kernel_rfl) (by kernel_rfl) (by kernel_rfl) (by kernel_rfl) (fun _ _ _ h => h) (Or.inr ⟨by rfl, rfl⟩) hHeld ?_
      simp only [Act.put, List.setIfInBounds_toArray, List.set_cons_zero, List.set_cons_succ]
      refine take (i := 14) (d := some 39) (v := .bool true) rfl (by kernel_rfl) (by kernel_rfl) (by kernel_rfl) (by kernel_rfl) (fun _ _ _ h => h) (Or.inl ⟨by rfl, by intro w hSw; go_simp⟩) hHeld ?_
      simp only [Act.put, List.setIfInBounds_toArray, List.set_cons_zero, List.set_cons_succ]
      refine wpAnyH_done (by kernel_rfl) ?_ _
      go_wp2
      all_goals exact bodyPost_ret (v := .tuple #[.slice none 0 0, .bool false]) (by simp [results, Try.results141, go_sem]) rfl ⟨hb2, fun _ => rfl, fun h => (by rw [hB] at h; cases h)⟩
    · have he : k = n := by omega
      subst he
      go_wp2
      have := HN.out
      have hB := actsB_yes (l := l) (by omega) (by rw [← this]; exact HP.out)
      exact bodyPost_ret (v := .tuple #[.slice (some ⟨w.heap.size, 0, none⟩) k k, .bool true]) (by simp [results, Try.results141, go_sem]) rfl ⟨hbel, fun h => (by rw [hB] at h; cases h), fun _ => ⟨rfl, hrow⟩⟩

end Go.Proofs.Ytcbgnfjnjfaacaa.Yd
namespace Go.Proofs.Ytcbgnfjnjfaacaa.Ye
set_option maxRecDepth 8000
open Go Go.RowKit
open Num Pl Yb Yc Yd

theorem num_any (n : Int) (w : World) : Calls Try.prog 139 #[.int .i64 n] w fun e w' => e = .returned (.bool (numOkB n 6)) ∧ w' = w := by
  rw [Pk.num6]
  unfold Pk.numB
  by_cases h1 : 0 ≤ n
  · by_cases h2 : n ≤ 281474976710655
    · go_enter Try.func139, Try.ntmps139
      go_wp2
      go_ret
      exact ⟨ret_bool (by simp <;> omega), rfl⟩
    · go_enter Try.func139, Try.ntmps139
      go_wp2
      go_ret
      exact ⟨ret_bool (by simp <;> omega), rfl⟩
  · go_enter Try.func139, Try.ntmps139
    go_wp2
    go_ret
    exact ⟨ret_bool (by simp <;> omega), rfl⟩

set_option maxHeartbeats 40000000 in
theorem actsS (a : Option Addr) (b off cap : Nat) (l : List A3) (w : World) (h : Rd w a b off l) :
    Calls Try.prog 104 #[.slice a l.length cap] w fun e w' => e = .returned (.bool (actsB l)) ∧ Below w.heap.size w w' := by
  obtain ⟨hh, hc, hs⟩ := h
  by_cases h12 : 12 < l.length
  · have hz : (12 : Int) < (l.length : Int) := by omega
    rw [actsB_long h12]
    go_enter Try.func104, Try.ntmps104
    go_wp2
    go_ret
    exact ⟨rfl, Below.refl _ _⟩
  obtain ⟨n, hn⟩ : ∃ n, n = l.length := ⟨_, rfl⟩
  rw [← hn] at hh hc hs h12 ⊢
  have HN : Hid (n = l.length) := hn
  clear hn
  have hz : ¬ (12 : Int) < (n : Int) := by omega
  go_enter Try.func104, Try.ntmps104
  go_wp2
  go_loopw [11] (fun i wr => ∃ k : Nat, k ≤ n ∧ i = .int .i64 k ∧ Below w.heap.size w wr ∧ pre l k) (fun i _ => n - (intOf i).toNat)
  case atStart => exact ⟨0, Nat.zero_le _, rfl, Below.refl _ _, fun i hi => by omega⟩
  case round =>
    obtain ⟨k, hk, rfl, hbel, hpre⟩ := hrel
    have HP : Hid (pre l k) := hpre
    clear hpre
    by_cases hlt : k < n
    · obtain rfl := hh (by omega)
      have hkz : (k : Int) < (n : Int) := by omega
      obtain ⟨c0, c1, c2⟩ := (hc k hlt).of hbel (hc k hlt).lt
      generalize ex : l.getD k z3 = x at c0 c1 c2
      have HX : Hid (l.getD k z3 = x) := ex
      clear ex hc hh
      obtain ⟨x0, x1, x2⟩ := x
      simp only at c0 c1 c2
      replace hbel : ∀ o, Below w.heap.size w (wr.alloc o) := fun o => Rw.next hbel (below_alloc1 _ _)
      have HB : Hid (∀ o, Below w.heap.size w (wr.alloc o)) := hbel
      clear hbel
      have NO : Hid (actB (x0, x1, x2) = false → actsB l = false) := fun h => actsB_no (k := k) (by have := HN.out; omega) (by rw [HX.out]; exact h)
      have YES : Hid (actB (x0, x1, x2) = true → pre l (k + 1)) := fun h => pre_step HP.out (by rw [HX.out]; exact h)
      clear HX HP
      by_cases hz1 : x1 = 0
      · subst hz1
        by_cases hz2 : x2 = 0
        · subst hz2
          by_cases k1 : x0 = 1
          · subst k1
            go_wp2
            go_ret
            exact ⟨ret_bool (NO.out (by simp [actB])).symm, HB.out _⟩
          have e1 : (x0 == 1) = false := by simpa using k1
          by_cases k3 : x0 = 3
          · subst k3
            go_wp2
            go_ret
            exact ⟨ret_bool (NO.out (by simp [actB])).symm, HB.out _⟩
          have e3 : (x0 == 3) = false := by simpa using k3
          by_cases m1 : x0 < 1
          · skip
            go_wp2
            go_ret
            exact ⟨ret_bool (NO.out (by simp [actB, k1, k3]; omega)).symm, HB.out _⟩
          by_cases m5 : 5 < x0
          · skip
            go_wp2
            go_ret
            exact ⟨ret_bool (NO.out (by simp [actB, k1, k3]; omega)).symm, HB.out _⟩
          go_wp2
          go_roundw
          case rel => exact ⟨k + 1, by omega, by go_num, HB.out _, YES.out (by simp [actB, k1, k3]; omega)⟩
          case measure => simp [intOf]; omega
        · have f02 : (x2 == 0) = false := by simpa using hz2
          by_cases k1 : x0 = 1
          · subst k1
            go_wp2
            go_ret
            exact ⟨ret_bool (NO.out (by simp [actB])).symm, HB.out _⟩
          have e1 : (x0 == 1) = false := by simpa using k1
          by_cases k3 : x0 = 3
          · subst k3
            go_wp2
            go_ret
            exact ⟨ret_bool (NO.out (by simp [actB])).symm, HB.out _⟩
          have e3 : (x0 == 3) = false := by simpa using k3
          go_wp2
          go_ret
          exact ⟨ret_bool (NO.out (by simp [actB, k1, k3, hz2])).symm, HB.out _⟩
      · have f01 : (x1 == 0) = false := by simpa using hz1
        by_cases hz2 : x2 = 0
        · subst hz2
          by_cases k1 : x0 = 1
          · subst k1
            by_cases p1 : 1 ≤ x1
            · by_cases p2 : x1 ≤ 255
              · skip
                go_wp2
                go_roundw
                case rel => exact ⟨k + 1, by omega, by go_num, HB.out _, YES.out (by simp [actB, p1, p2])⟩
                case measure => simp [intOf]; omega
              · skip
                go_wp2
                go_ret
                exact ⟨ret_bool (NO.out (by simp [actB]; omega)).symm, HB.out _⟩
            · skip
              go_wp2
              go_ret
              exact ⟨ret_bool (NO.out (by simp [actB]; omega)).symm, HB.out _⟩
          have e1 : (x0 == 1) = false := by simpa using k1
          by_cases k3 : x0 = 3
          · subst k3
            by_cases p1 : x1 = 1
            · subst p1
              cases hR : numOkB 0 6
              · have HR : Hid (numOkB 0 6 = false) := hR
                clear hR
                go_wp2_with (go_at_call 139; refine (num_any _ _).mono ?_; rw [HR.out]; rintro e w3 ⟨rfl, hw⟩; replace hw := hw.symm; subst hw)
                go_ret
                exact ⟨ret_bool (NO.out (by simp [actB]; exact HR.out)).symm, HB.out _⟩
              · have HR : Hid (numOkB 0 6 = true) := hR
                clear hR
                go_wp2_with (go_at_call 139; refine (num_any _ _).mono ?_; rw [HR.out]; rintro e w3 ⟨rfl, hw⟩; replace hw := hw.symm; subst hw)
                go_roundw
                case rel => exact ⟨k + 1, by omega, by go_num, HB.out _, YES.out (by simp [actB]; exact HR.out)⟩
                case measure => simp [intOf]; omega
            by_cases p2 : x1 = 2
            · subst p2
              cases hR : numOkB 0 6
              · have HR : Hid (numOkB 0 6 = false) := hR
                clear hR
                go_wp2_with (go_at_call 139; refine (num_any _ _).mono ?_; rw [HR.out]; rintro e w3 ⟨rfl, hw⟩; replace hw := hw.symm; subst hw)
                go_ret
                exact ⟨ret_bool (NO.out (by simp [actB]; exact HR.out)).symm, HB.out _⟩
              · have HR : Hid (numOkB 0 6 = true) := hR
                clear hR
                go_wp2_with (go_at_call 139; refine (num_any _ _).mono ?_; rw [HR.out]; rintro e w3 ⟨rfl, hw⟩; replace hw := hw.symm; subst hw)
                go_roundw
                case rel => exact ⟨k + 1, by omega, by go_num, HB.out _, YES.out (by simp [actB]; exact HR.out)⟩
                case measure => simp [intOf]; omega
            have f1 : (x1 == 1) = false := by simpa using p1
            have f2 : (x1 == 2) = false := by simpa using p2
            go_wp2
            go_ret
            exact ⟨ret_bool (NO.out (by simp [actB, p1, p2])).symm, HB.out _⟩
          have e3 : (x0 == 3) = false := by simpa using k3
          go_wp2
          go_ret
          exact ⟨ret_bool (NO.out (by simp [actB, k1, k3, hz1])).symm, HB.out _⟩
        · have f02 : (x2 == 0) = false := by simpa using hz2
          by_cases k1 : x0 = 1
          · subst k1
            by_cases p1 : 1 ≤ x1
            · by_cases p2 : x1 ≤ 255
              · skip
                go_wp2
                go_ret
                exact ⟨ret_bool (NO.out (by simp [actB, hz2])).symm, HB.out _⟩
              · skip
                go_wp2
                go_ret
                exact ⟨ret_bool (NO.out (by simp [actB]; omega)).symm, HB.out _⟩
            · skip
              go_wp2
              go_ret
              exact ⟨ret_bool (NO.out (by simp [actB]; omega)).symm, HB.out _⟩
          have e1 : (x0 == 1) = false := by simpa using k1
          by_cases k3 : x0 = 3
          · subst k3
            by_cases p1 : x1 = 1
            · subst p1
              cases hR : numOkB x2 6
              · have HR : Hid (numOkB x2 6 = false) := hR
                clear hR
                go_wp2_with (go_at_call 139; refine (num_any _ _).mono ?_; rw [HR.out]; rintro e w3 ⟨rfl, hw⟩; replace hw := hw.symm; subst hw)
                go_ret
                exact ⟨ret_bool (NO.out (by simp [actB]; exact HR.out)).symm, HB.out _⟩
              · have HR : Hid (numOkB x2 6 = true) := hR
                clear hR
                go_wp2_with (go_at_call 139; refine (num_any _ _).mono ?_; rw [HR.out]; rintro e w3 ⟨rfl, hw⟩; replace hw := hw.symm; subst hw)
                go_roundw
                case rel => exact ⟨k + 1, by omega, by go_num, HB.out _, YES.out (by simp [actB]; exact HR.out)⟩
                case measure => simp [intOf]; omega
            by_cases p2 : x1 = 2
            · subst p2
              cases hR : numOkB x2 6
              · have HR : Hid (numOkB x2 6 = false) := hR
                clear hR
                go_wp2_with (go_at_call 139; refine (num_any _ _).mono ?_; rw [HR.out]; rintro e w3 ⟨rfl, hw⟩; replace hw := hw.symm; subst hw)
                go_ret
                exact ⟨ret_bool (NO.out (by simp [actB]; exact HR.out)).symm, HB.out _⟩
              · have HR : Hid (numOkB x2 6 = true) := hR
                clear hR
                go_wp2_with (go_at_call 139; refine (num_any _ _).mono ?_; rw [HR.out]; rintro e w3 ⟨rfl, hw⟩; replace hw := hw.symm; subst hw)
                go_roundw
                case rel => exact ⟨k + 1, by omega, by go_num, HB.out _, YES.out (by simp [actB]; exact HR.out)⟩
                case measure => simp [intOf]; omega
            have f1 : (x1 == 1) = false := by simpa using p1
            have f2 : (x1 == 2) = false := by simpa using p2
            go_wp2
            go_ret
            exact ⟨ret_bool (NO.out (by simp [actB, p1, p2])).symm, HB.out _⟩
          have e3 : (x0 == 3) = false := by simpa using k3
          go_wp2
          go_ret
          exact ⟨ret_bool (NO.out (by simp [actB, k1, k3, hz1])).symm, HB.out _⟩
    · have he : k = n := by omega
      subst he
      go_wp2
      go_ret
      have := HN.out
      exact ⟨ret_bool (actsB_yes (l := l) (by omega) (by rw [← this]; exact HP.out)).symm, hbel⟩

end Go.Proofs.Ytcbgnfjnjfaacaa.Ye
namespace Go.Proofs.Ytcbgnfjnjfaacaa.Hb
open Go Go.RowKit
open Num Pl Hr Hh Hf Hg

/-- What headBy hands back. -/
def Made (w : World) (L : List Int) (e : Ending) (w' : World) : Prop :=
  ∃ g, e = .returned (.agg #[.slice (some ⟨g, 0, none⟩) 8 8]) ∧ Mine w' g L ∧ w.heap.size ≤ g ∧ Below w.heap.size w w'
/-- What the closure tells. -/
def Tells (c : Nat) (p1 p2 p3 : Value) (L : List Int) (w : World) : Prop :=
  ∀ k : Nat, k < 8 → ∀ w', Below w.heap.size w w' → Calls Try.prog c #[.int .i64 k, p1, p2, p3] w' fun e w'' => e = .returned (.int .i64 (L.getD k 0)) ∧ w'' = w'

end Go.Proofs.Ytcbgnfjnjfaacaa.Hb
namespace Go.Proofs.Ytcbgnfjnjfaacaa.Yg
set_option maxRecDepth 8000
open Go Go.RowKit
open Num Pl Yb Yc Yd

theorem actsI (a : Option Addr) (b off cap : Nat) (l : List A3) (w : World) (h : Rd w a b off l) :
    Calls Try.prog 106 #[.slice a l.length cap] w fun e w' => e = .returned (.bool (actsB l)) ∧ Below w.heap.size w w' := by
  cases hB : actsB l
  · go_enter Try.func106, Try.ntmps106
    go_wp2_with (go_at_call 141; refine (acts_any _ _ _ _ _ _ h).mono ?_; rintro e w1 ⟨hb, h0, h1⟩; obtain rfl := h0 hB; clear h0 h1)
    go_ret
    exact ⟨rfl, hb⟩
  · go_enter Try.func106, Try.ntmps106
    go_wp2_with (go_at_call 141; refine (acts_any _ _ _ _ _ _ h).mono ?_; rintro e w1 ⟨hb, h0, h1⟩; obtain ⟨rfl, _⟩ := h1 hB; clear h0 h1)
    go_ret
    exact ⟨rfl, hb⟩

/-- There is an action of the kind. -/
def anyK (l : List A3) (q : Int) : Bool := decide (∃ i, i < l.length ∧ (l.getD i z3).1 = q)
def hasB (l : List A3) (q : Int) : Bool := actsB l && anyK l q
theorem anyK_yes {l : List A3} {q : Int} {k : Nat} (hk : k < l.length) (h : (l.getD k z3).1 = q) : anyK l q = true := decide_eq_true ⟨k, hk, h⟩
theorem anyK_no {l : List A3} {q : Int} (h : ∀ i, i < l.length → (l.getD i z3).1 ≠ q) : anyK l q = false := decide_eq_false fun ⟨i, hi, e⟩ => h i hi e

def sameB (l m : List A3) : Bool := actsB l && decide (l = m)

end Go.Proofs.Ytcbgnfjnjfaacaa.Yg
namespace Go.Proofs.Ytcbgnfjnjfaacaa.Ea
set_option maxRecDepth 8000
set_option linter.unusedSimpArgs false
set_option linter.unusedVariables false
open Go Go.RowKit
open Num Pl

set_option maxHeartbeats 1000000 in
theorem eqT_same (q : Int) (a a' : Option Addr) (b off c b' off' c' : Nat) (Q F : List Ent) (w : World) (hQ : Rd w a b off Q) (hF : Rd w a' b' off' F) (hs : Q.map Ent.said = F.map Ent.said) :
    Calls Try.prog 41 #[.agg #[.int .i64 q, .slice a Q.length c], .agg #[.int .i64 q, .slice a' F.length c']] w fun x w' => x = .returned (.bool true) ∧ Below w.heap.size w w' := by
  obtain ⟨W1, hW1⟩ : ∃ W1, W1 = (w.alloc (.cells #[.int .i64 q, .slice a Q.length c] 38)).alloc (.cells #[.int .i64 q, .slice a' F.length c'] 38) := ⟨_, rfl⟩
  have B1 : Below w.heap.size w W1 := by subst hW1; exact Rw.next (below_alloc1 _ _) (below_alloc1 _ _)
  replace hQ := hQ.below B1
  replace hF := hF.below B1
  go_enter Try.func41, Try.ntmps41
  go_wp2_with (go_at_call 110; rw [← hW1]; clear hW1; refine (eqS_same _ _ _ _ _ _ _ _ Q F _ hQ hF hs).mono ?_; rintro x wa ⟨rfl, ba⟩)
  go_ret
  exact ⟨rfl, Rw.next B1 ba⟩

def upB (m n : Int) : Bool := decide (0 ≤ n) && decide (n ≤ m)
theorem upTo_any (m n : Int) (w : World) : Calls Try.prog 91 #[.int .i64 m, .int .i64 n] w fun e w' => e = .returned (.bool (upB m n)) ∧ w' = w := by
  by_cases h0 : 0 ≤ n
  · go_enter Try.func91, Try.ntmps91
    go_wp2
    go_ret
    exact ⟨ret_bool (by simp [upB, h0]), rfl⟩
  · go_enter Try.func91, Try.ntmps91
    go_wp2
    go_ret
    exact ⟨ret_bool (by simp [upB]; omega), rfl⟩

/-- Is an entry right? -/
def enB (x : En) : Bool := upB 1000000000 x.1 && (upB 65535 x.2.1 && (upB 1000000000 x.2.2.2.2.2 && (Po.matchB x.2.2.1 x.2.2.2.1 && Yd.actsB x.2.2.2.2.1)))

set_option maxHeartbeats 4000000 in
theorem okE_impl (e : Ent) (w : World) (h : e.Ok w) : Calls Try.prog 36 #[.agg e.vals] w fun x w' => x = .returned (.bool (enB e.said)) ∧ Below w.heap.size w w' := by
  obtain ⟨ep, pr, V, M, A, hh, aV, bV, oV, cV, aM, bM, oM, cM, aA, bA, oA, cA⟩ := e
  obtain ⟨rV, rM, rA, wV, wM⟩ := h
  simp only at rV rM rA wV wM
  simp only [Ent.vals, enB, Ent.said]
  obtain ⟨W1, hW1⟩ : ∃ W1, W1 = w.alloc (.cells #[.int .i64 ep, .int .i64 pr, .slice aV V.length cV, .slice aM M.length cM, .slice aA A.length cA, .int .i64 hh] 41) := ⟨_, rfl⟩
  have B1 : Below w.heap.size w W1 := by subst hW1; exact below_alloc1 _ _
  have k0 : W1.heap[w.heap.size]? = some (.cells #[.int .i64 ep, .int .i64 pr, .slice aV V.length cV, .slice aM M.length cM, .slice aA A.length cA, .int .i64 hh] 41 (0, 0)) := by subst hW1; exact at_new rfl
  replace rV := rV.below B1
  replace rM := rM.below B1
  replace rA := rA.below B1
  generalize hb1 : upB 1000000000 ep = b1
  generalize hb2 : upB 65535 pr = b2
  generalize hb3 : upB 1000000000 hh = b3
  generalize hb4 : Po.matchB V M = b4
  generalize hb5 : Yd.actsB A = b5
  have Hb1 : Hid (upB 1000000000 ep = b1) := hb1
  have Hb2 : Hid (upB 65535 pr = b2) := hb2
  have Hb3 : Hid (upB 1000000000 hh = b3) := hb3
  have Hb4 : Hid (Po.matchB V M = b4) := hb4
  have Hb5 : Hid (Yd.actsB A = b5) := hb5
  clear hb1 hb2 hb3 hb4 hb5
  cases b1
  · have t1 : True := trivial
    go_enter Try.func36, Try.ntmps36
    go_wp2_with (first
      | (go_at_call 91; clear t1; rw [← hW1]; clear hW1; refine (upTo_any _ _ _).mono ?_; rw [Hb1.out]; rintro x wa ⟨rfl, hw⟩; replace hw := hw.symm; subst hw; obtain ⟨p0, p1, p2, p3, p4, p5⟩ := six k0; have t2 : True := trivial))
    go_ret
    exact ⟨ret_bool (by simp), B1⟩
  · skip
    cases b2
    · have t1 : True := trivial
      go_enter Try.func36, Try.ntmps36
      go_wp2_with (first
      | (go_at_call 91; clear t1; rw [← hW1]; clear hW1; refine (upTo_any _ _ _).mono ?_; rw [Hb1.out]; rintro x wa ⟨rfl, hw⟩; replace hw := hw.symm; subst hw; obtain ⟨p0, p1, p2, p3, p4, p5⟩ := six k0; have t2 : True := trivial)
      | (go_at_call 91; clear t2; refine (upTo_any _ _ _).mono ?_; rw [Hb2.out]; rintro x wa ⟨rfl, hw⟩; replace hw := hw.symm; subst hw; have t3 : True := trivial))
      go_ret
      exact ⟨ret_bool (by simp), B1⟩
    · skip
      cases b3
      · have t1 : True := trivial
        go_enter Try.func36, Try.ntmps36
        go_wp2_with (first
      | (go_at_call 91; clear t1; rw [← hW1]; clear hW1; refine (upTo_any _ _ _).mono ?_; rw [Hb1.out]; rintro x wa ⟨rfl, hw⟩; replace hw := hw.symm; subst hw; obtain ⟨p0, p1, p2, p3, p4, p5⟩ := six k0; have t2 : True := trivial)
      | (go_at_call 91; clear t2; refine (upTo_any _ _ _).mono ?_; rw [Hb2.out]; rintro x wa ⟨rfl, hw⟩; replace hw := hw.symm; subst hw; have t3 : True := trivial)
      | (go_at_call 91; clear t3; refine (upTo_any _ _ _).mono ?_; rw [Hb3.out]; rintro x wa ⟨rfl, hw⟩; replace hw := hw.symm; subst hw))
        go_ret
        exact ⟨ret_bool (by simp), B1⟩
      · skip
        cases b4
        · have t1 : True := trivial
          go_enter Try.func36, Try.ntmps36
          go_wp2_with (first
      | (go_at_call 91; clear t1; rw [← hW1]; clear hW1; refine (upTo_any _ _ _).mono ?_; rw [Hb1.out]; rintro x wa ⟨rfl, hw⟩; replace hw := hw.symm; subst hw; obtain ⟨p0, p1, p2, p3, p4, p5⟩ := six k0; have t2 : True := trivial)
      | (go_at_call 91; clear t2; refine (upTo_any _ _ _).mono ?_; rw [Hb2.out]; rintro x wa ⟨rfl, hw⟩; replace hw := hw.symm; subst hw; have t3 : True := trivial)
      | (go_at_call 91; clear t3; refine (upTo_any _ _ _).mono ?_; rw [Hb3.out]; rintro x wa ⟨rfl, hw⟩; replace hw := hw.symm; subst hw)
      | (go_at_call 85; refine (Mi.ok_any _ _ _ _ _ _ _ _ V M _ rV rM wV).mono ?_; rw [Hb4.out]; rintro x wa ⟨rfl, ba⟩; replace k0 := (ba.block _ (blk_lt k0)).trans k0; clear p0 p1 p2 p3 p4 p5; obtain ⟨p0, p1, p2, p3, p4, p5⟩ := six k0; replace rA := rA.below ba; replace B1 := Rw.next B1 ba; clear ba))
          go_ret
          exact ⟨ret_bool (by simp), B1⟩
        · skip
          have t1 : True := trivial
          go_enter Try.func36, Try.ntmps36
          go_wp2_with (first
      | (go_at_call 91; clear t1; rw [← hW1]; clear hW1; refine (upTo_any _ _ _).mono ?_; rw [Hb1.out]; rintro x wa ⟨rfl, hw⟩; replace hw := hw.symm; subst hw; obtain ⟨p0, p1, p2, p3, p4, p5⟩ := six k0; have t2 : True := trivial)
      | (go_at_call 91; clear t2; refine (upTo_any _ _ _).mono ?_; rw [Hb2.out]; rintro x wa ⟨rfl, hw⟩; replace hw := hw.symm; subst hw; have t3 : True := trivial)
      | (go_at_call 91; clear t3; refine (upTo_any _ _ _).mono ?_; rw [Hb3.out]; rintro x wa ⟨rfl, hw⟩; replace hw := hw.symm; subst hw)
      | (go_at_call 85; refine (Mi.ok_any _ _ _ _ _ _ _ _ V M _ rV rM wV).mono ?_; rw [Hb4.out]; rintro x wa ⟨rfl, ba⟩; replace k0 := (ba.block _ (blk_lt k0)).trans k0; clear p0 p1 p2 p3 p4 p5; obtain ⟨p0, p1, p2, p3, p4, p5⟩ := six k0; replace rA := rA.below ba; replace B1 := Rw.next B1 ba; clear ba)
      | (go_at_call 106; refine (Yg.actsI _ _ _ _ A _ rA).mono ?_; rw [Hb5.out]; rintro x wa ⟨rfl, ba⟩; replace B1 := Rw.next B1 ba; clear ba))
          go_ret
          exact ⟨ret_bool (by simp), B1⟩

set_option maxHeartbeats 4000000 in
theorem okE_spec (e : Ent) (w : World) (h : e.Ok w) : Calls Try.prog 34 #[.agg e.vals] w fun x w' => x = .returned (.bool (enB e.said)) ∧ Below w.heap.size w w' := by
  obtain ⟨ep, pr, V, M, A, hh, aV, bV, oV, cV, aM, bM, oM, cM, aA, bA, oA, cA⟩ := e
  obtain ⟨rV, rM, rA, wV, wM⟩ := h
  simp only at rV rM rA wV wM
  simp only [Ent.vals, enB, Ent.said]
  obtain ⟨W1, hW1⟩ : ∃ W1, W1 = w.alloc (.cells #[.int .i64 ep, .int .i64 pr, .slice aV V.length cV, .slice aM M.length cM, .slice aA A.length cA, .int .i64 hh] 41) := ⟨_, rfl⟩
  have B1 : Below w.heap.size w W1 := by subst hW1; exact below_alloc1 _ _
  have k0 : W1.heap[w.heap.size]? = some (.cells #[.int .i64 ep, .int .i64 pr, .slice aV V.length cV, .slice aM M.length cM, .slice aA A.length cA, .int .i64 hh] 41 (0, 0)) := by subst hW1; exact at_new rfl
  replace rV := rV.below B1
  replace rM := rM.below B1
  replace rA := rA.below B1
  generalize hb4 : Po.matchB V M = b4
  generalize hb5 : Yd.actsB A = b5
  have Hb4 : Hid (Po.matchB V M = b4) := hb4
  have Hb5 : Hid (Yd.actsB A = b5) := hb5
  clear hb4 hb5
  by_cases c0 : ep < 0
  · go_enter Try.func34, Try.ntmps34
    go_wp2
    go_ret
    exact ⟨ret_bool (by simp [upB]; omega), below_alloc1 _ _⟩
  by_cases c1 : 1000000000 < ep
  · go_enter Try.func34, Try.ntmps34
    go_wp2
    go_ret
    exact ⟨ret_bool (by simp [upB]; omega), below_alloc1 _ _⟩
  by_cases c2 : pr < 0
  · go_enter Try.func34, Try.ntmps34
    go_wp2
    go_ret
    exact ⟨ret_bool (by simp [upB]; omega), below_alloc1 _ _⟩
  by_cases c3 : 65535 < pr
  · go_enter Try.func34, Try.ntmps34
    go_wp2
    go_ret
    exact ⟨ret_bool (by simp [upB]; omega), below_alloc1 _ _⟩
  by_cases c4 : hh < 0
  · go_enter Try.func34, Try.ntmps34
    go_wp2
    go_ret
    exact ⟨ret_bool (by simp [upB]; omega), below_alloc1 _ _⟩
  by_cases c5 : 1000000000 < hh
  · go_enter Try.func34, Try.ntmps34
    go_wp2
    go_ret
    exact ⟨ret_bool (by simp [upB]; omega), below_alloc1 _ _⟩
  have e1 : upB 1000000000 ep = true := by simp [upB]; omega
  have e2 : upB 65535 pr = true := by simp [upB]; omega
  have e3 : upB 1000000000 hh = true := by simp [upB]; omega
  rw [e1, e2, e3]
  clear e1 e2 e3
  cases b4
  · go_enter Try.func34, Try.ntmps34
    go_wp2_with (go_at_call 62; rw [← hW1]; clear hW1; refine (Ms.okS_any _ _ _ _ _ _ _ _ V M _ rV rM wV).mono ?_; rw [Hb4.out]; rintro x wa ⟨rfl, ba⟩; replace k0 := (ba.block _ (blk_lt k0)).trans k0; obtain ⟨p0, p1, p2, p3, p4, p5⟩ := six k0; replace rA := rA.below ba; replace B1 := Rw.next B1 ba; clear ba)
    go_ret
    exact ⟨ret_bool (by simp), B1⟩
  · go_enter Try.func34, Try.ntmps34
    go_wp2_with (first
      | (go_at_call 62; rw [← hW1]; clear hW1; refine (Ms.okS_any _ _ _ _ _ _ _ _ V M _ rV rM wV).mono ?_; rw [Hb4.out]; rintro x wa ⟨rfl, ba⟩; replace k0 := (ba.block _ (blk_lt k0)).trans k0; obtain ⟨p0, p1, p2, p3, p4, p5⟩ := six k0; replace rA := rA.below ba; replace B1 := Rw.next B1 ba; clear ba)
      | (go_at_call 104; refine (Ye.actsS _ _ _ _ A _ rA).mono ?_; rw [Hb5.out]; rintro x wa ⟨rfl, ba⟩; replace B1 := Rw.next B1 ba; clear ba))
    go_ret
    exact ⟨ret_bool (by simp), B1⟩

end Go.Proofs.Ytcbgnfjnjfaacaa.Ea
namespace Go.Proofs.Ytcbgnfjnjfaacaa.Ea
set_option maxRecDepth 8000
open Go Go.RowKit
open Num Pl

theorem ent_of_raw {w : World} {r : Raw} (h : r.Is w) (hl : r.len ≤ 1048576) : ∃ e : Ent, e.vals = r.vals ∧ e.Ok w := by
  obtain ⟨ep, pr, aV, nV, cV, aM, nM, cM, aA, nA, cA, hh⟩ := r
  obtain ⟨⟨zV, h1⟩, ⟨zM, h2⟩, ⟨zA, h3⟩⟩ := h
  simp only [Raw.len] at hl
  simp only at h1 h2 h3
  obtain ⟨bV, oV, V, lV, rV, wV⟩ := Lm.rd_wide h1 (by omega)
  obtain ⟨bM, oM, M, lM, rM, wM⟩ := Lm.rd_wide h2 (by omega)
  obtain ⟨bA, oA, A, lA, rA⟩ := Yb.rd_of_isRow h3 (by omega)
  exact ⟨⟨ep, pr, V, M, A, hh, aV, bV, oV, cV, aM, bM, oM, cM, aA, bA, oA, cA⟩, by simp [Ent.vals, Raw.vals, lV, lM, lA], ⟨rV, rM, rA, wV, wM⟩⟩
theorem len_le_tot (R : List Raw) {i : Nat} (h : i < R.length) : (R.getD i r0).len ≤ tot R R.length := by
  have := tot_mono R (i := i + 1) (j := R.length) (by omega)
  simp only [tot] at this
  omega
instance : Inhabited Ent := ⟨e0⟩
theorem rd_of_isRow {w : World} {a : Option Addr} {R : List Raw} (h : IsRow w a R) (hl : R.length + tot R R.length ≤ 1048576) : ∃ b off Q, List.length Q = R.length ∧ Rd w a b off Q := by
  obtain ⟨_, hi, hc⟩ := h
  obtain ⟨q, hq⟩ := Deep.choose_lt (n := R.length) (fun i h => ent_of_raw (hi i h) (by have := len_le_tot R h; omega))
  have ge : ∀ i, i < R.length → ((List.range R.length).map q).getD i e0 = q i := fun i hi => by simp [List.getD, hi]
  rcases hc with h0 | ⟨b, off, rfl, hc⟩
  · exact ⟨0, 0, [], h0.symm, ⟨fun h => by simp at h, fun i h => by simp at h, fun i h => by simp at h, by simp⟩⟩
  · refine ⟨b, off, (List.range R.length).map q, by simp, ⟨fun _ => rfl, fun i hi => ?_, fun i hi => ?_, by simp; omega⟩⟩
    · simp only [List.length_map, List.length_range] at hi
      rw [ge i hi, (hq i hi).1]
      exact hc i hi
    · simp only [List.length_map, List.length_range] at hi
      rw [ge i hi]
      exact (hq i hi).2

end Go.Proofs.Ytcbgnfjnjfaacaa.Ea
namespace Go.Proofs.Ytcbgnfjnjfaacaa.Ra
set_option maxRecDepth 8000
set_option linter.unusedSimpArgs false
set_option linter.unusedVariables false
open Go Go.RowKit
open Num Pl Ea

def cmpI (a b : Int) : Int := if a < b then -1 else if b < a then 1 else 0
theorem isNaN_any (a : Int) (w : World) : Calls Try.prog 152 #[.int .i64 a] w fun e w' => e = .returned (.bool false) ∧ w' = w := by
  go_enter Try.func152, Try.ntmps152
  go_wp2
  go_ret
  exact ⟨ret_bool (by simp), rfl⟩
theorem cmp_any (a b : Int) (w : World) : Calls Try.prog 138 #[.int .i64 a, .int .i64 b] w fun e w' => e = .returned (.int .i64 (cmpI a b)) ∧ w' = w := by
  by_cases h1 : a < b
  · have e : cmpI a b = -1 := by simp [cmpI, h1]
    rw [e]
    go_enter Try.func138, Try.ntmps138
    go_wp2_with (go_at_call 152; refine (isNaN_any _ _).mono ?_; rintro e w1 ⟨rfl, hw⟩; replace hw := hw.symm; subst hw)
    go_ret
    exact ⟨rfl, rfl⟩
  · by_cases h2 : b < a
    · have e : cmpI a b = 1 := by simp [cmpI, h1, h2]
      rw [e]
      go_enter Try.func138, Try.ntmps138
      go_wp2_with (go_at_call 152; refine (isNaN_any _ _).mono ?_; rintro e w1 ⟨rfl, hw⟩; replace hw := hw.symm; subst hw)
      go_ret
      exact ⟨rfl, rfl⟩
    · have e : cmpI a b = 0 := by simp [cmpI, h1, h2]
      rw [e]
      go_enter Try.func138, Try.ntmps138
      go_wp2_with (go_at_call 152; refine (isNaN_any _ _).mono ?_; rintro e w1 ⟨rfl, hw⟩; replace hw := hw.symm; subst hw)
      go_ret
      exact ⟨rfl, rfl⟩
def orI (x y : Int) : Int := if x = 0 then y else x
theorem or_any (g c : Nat) (x y : Int) (w : World) (h0 : w.cell? ⟨g, 0, none⟩ = some (.int .i64 x)) (h1 : w.cell? ⟨g, 1, none⟩ = some (.int .i64 y)) :
    Calls Try.prog 137 #[.slice (some ⟨g, 0, none⟩) 2 c] w fun e w' => e = .returned (.int .i64 (orI x y)) ∧ w' = w := by
  by_cases hx : x = 0
  · subst hx
    have e : orI 0 y = y := by simp [orI]
    rw [e]
    by_cases hy : y = 0
    · subst hy
      go_enter Try.func137, Try.ntmps137
      go_wp2
      go_loop [8] (fun i => ∃ k : Nat, k ≤ 2 ∧ i = .int .i64 k) (fun i => 2 - (intOf i).toNat)
      case atStart => exact ⟨0, by omega, rfl⟩
      case round =>
        obtain ⟨k, hk, rfl⟩ := hrel
        by_cases k2 : k = 2
        · subst k2
          go_wp2
          go_ret
          exact ⟨rfl, rfl⟩
        · have hkz : (k : Int) < 2 := by omega
          have hc : w.cell? ⟨g, k, none⟩ = some (.int .i64 0) := by
            rcases (show k = 0 ∨ k = 1 by omega) with rfl | rfl
            · exact h0
            · exact h1
          go_wp2
          go_roundw
          case rel => exact ⟨k + 1, by omega, by go_num⟩
          case measure => simp [intOf]; omega
    · have hyn : (y != 0) = true := by simpa using hy
      go_enter Try.func137, Try.ntmps137
      go_wp2
      go_loop [8] (fun i => i = .int .i64 0 ∨ i = .int .i64 1) (fun i => 2 - (intOf i).toNat)
      case atStart => exact .inl rfl
      case round =>
        rcases hrel with rfl | rfl
        · go_wp2
          go_roundw
          case rel => exact .inr rfl
          case measure => simp [intOf]
        · go_wp2
          go_ret
          exact ⟨rfl, rfl⟩
  · have hxn : (x != 0) = true := by simpa using hx
    have e : orI x y = x := by simp [orI, hx]
    rw [e]
    go_enter Try.func137, Try.ntmps137
    go_wp2
    go_loop [8] (fun i => i = .int .i64 0) (fun i => 0)
    case atStart => rfl
    case round =>
      obtain rfl := hrel
      go_wp2
      go_ret
      exact ⟨rfl, rfl⟩

theorem or_new (x y : Int) (w : World) : Calls Try.prog 137 #[.slice (some ⟨w.heap.size, 0, none⟩) 2 2] (w.alloc (.cells #[.int .i64 x, .int .i64 y] 3)).drew fun e w' => e = .returned (.int .i64 (orI x y)) ∧ Below w.heap.size w w' := by
  have k : (w.alloc (.cells #[.int .i64 x, .int .i64 y] 3)).drew.heap[w.heap.size]? = some (.cells #[.int .i64 x, .int .i64 y] 3 (0, 0)) := at_new rfl
  refine (or_any _ _ _ _ _ (Pm.two k).1 (Pm.two k).2).mono ?_
  rintro e w' ⟨rfl, rfl⟩
  exact ⟨rfl, (below_alloc1 _ _).drew⟩
/-- The rank of an entry against another's. -/
def rk (a b : Ent) : Int := orI (cmpI a.ep b.ep) (cmpI b.pr a.pr)

set_option maxHeartbeats 4000000 in
theorem rank_any (a b : Ent) (w : World) : Calls Try.prog 94 #[.agg a.vals, .agg b.vals] w fun e w' => e = .returned (.int .i64 (rk a b)) ∧ Below w.heap.size w w' := by
  obtain ⟨W1, hW1⟩ : ∃ W1, W1 = (w.alloc (.cells a.vals 41)).alloc (.cells b.vals 41) := ⟨_, rfl⟩
  have B1 : Below w.heap.size w W1 := by subst hW1; exact Rw.next (below_alloc1 _ _) (below_alloc1 _ _)
  have k0 : W1.heap[w.heap.size]? = some (.cells #[.int .i64 a.ep, .int .i64 a.pr, .slice a.aV a.V.length a.cV, .slice a.aM a.M.length a.cM, .slice a.aA a.A.length a.cA, .int .i64 a.h] 41 (0, 0)) := by subst hW1; rw [at_old (by simp), at_new rfl]; rfl
  have k1 : W1.heap[w.heap.size + 1]? = some (.cells #[.int .i64 b.ep, .int .i64 b.pr, .slice b.aV b.V.length b.cV, .slice b.aM b.M.length b.cM, .slice b.aA b.A.length b.cA, .int .i64 b.h] 41 (0, 0)) := by subst hW1; rw [at_new (by simp)]; rfl
  simp only [ent_vals] at hW1 ⊢
  unfold rk
  obtain ⟨p0, p1, p2, p3, p4, p5⟩ := six k0
  obtain ⟨q0, q1, q2, q3, q4, q5⟩ := six k1
  go_enter Try.func94, Try.ntmps94
  go_wp2
  rw [← hW1]
  clear hW1
  go_region_held3 (fun w' => w'.cell? ⟨w.heap.size, 0, none⟩ = some (.int .i64 a.ep) ∧ w'.cell? ⟨w.heap.size, 1, none⟩ = some (.int .i64 a.pr) ∧ w'.cell? ⟨w.heap.size, 2, none⟩ = some (.slice a.aV a.V.length a.cV) ∧ w'.cell? ⟨w.heap.size, 3, none⟩ = some (.slice a.aM a.M.length a.cM) ∧ w'.cell? ⟨w.heap.size, 4, none⟩ = some (.slice a.aA a.A.length a.cA) ∧ w'.cell? ⟨w.heap.size, 5, none⟩ = some (.int .i64 a.h) ∧ w'.cell? ⟨w.heap.size + 1, 0, none⟩ = some (.int .i64 b.ep) ∧ w'.cell? ⟨w.heap.size + 1, 1, none⟩ = some (.int .i64 b.pr) ∧ w'.cell? ⟨w.heap.size + 1, 2, none⟩ = some (.slice b.aV b.V.length b.cV) ∧ w'.cell? ⟨w.heap.size + 1, 3, none⟩ = some (.slice b.aM b.M.length b.cM) ∧ w'.cell? ⟨w.heap.size + 1, 4, none⟩ = some (.slice b.aA b.A.length b.cA) ∧ w'.cell? ⟨w.heap.size + 1, 5, none⟩ = some (.int .i64 b.h)) (go_keep) (first
    | (go_at_call 138; refine (cmp_any _ _ _).mono ?_; rintro e w1 ⟨rfl, rfl⟩)
    | (go_at_call 137; refine (or_new _ _ _).mono ?_; rintro e w1 ⟨rfl, hb⟩; clear p0 p1 p2 p3 p4 p5 q0 q1 q2 q3 q4 q5; replace B1 := Rw.next B1 hb; replace k0 := (hb.block _ (blk_lt k0)).trans k0; replace k1 := (hb.block _ (blk_lt k1)).trans k1; obtain ⟨p0, p1, p2, p3, p4, p5⟩ := six k0; obtain ⟨q0, q1, q2, q3, q4, q5⟩ := six k1))
  go_wp2
  go_ret
  exact ⟨rfl, B1⟩

end Go.Proofs.Ytcbgnfjnjfaacaa.Ra
namespace Go.Proofs.Ytcbgnfjnjfaacaa.Ra
set_option maxRecDepth 8000
set_option linter.unusedSimpArgs false
set_option linter.unusedVariables false
open Go Go.RowKit
open Num Pl Ea

/-- r is the first place below n at which p holds, or -1. -/
def Fst (p : Nat → Bool) (n : Nat) (r : Int) : Prop := (r = -1 ∧ ∀ k, k < n → p k = false) ∨ ∃ k : Nat, r = k ∧ k < n ∧ p k = true ∧ ∀ j, j < k → p j = false
/-- Does p hold somewhere below n? -/
def anyB (p : Nat → Bool) : Nat → Bool
  | 0 => false
  | n + 1 => anyB p n || p n
theorem anyB_no {p : Nat → Bool} {n : Nat} (h : ∀ k, k < n → p k = false) : anyB p n = false := by
  induction n with
  | zero => rfl
  | succ n ih => simp [anyB, ih (fun k hk => h k (by omega)), h n (by omega)]
theorem anyB_yes {p : Nat → Bool} {n k : Nat} (hk : k < n) (h : p k = true) : anyB p n = true := by
  induction n with
  | zero => omega
  | succ n ih =>
    by_cases e : k = n
    · subst e; simp [anyB, h]
    · simp [anyB, ih (by omega)]
theorem anyB_iff {p : Nat → Bool} {n : Nat} : anyB p n = true ↔ ∃ k, k < n ∧ p k = true := by
  constructor
  · intro h
    apply Classical.byContradiction
    intro hn
    rw [anyB_no (fun k hk => by cases e : p k; rfl; exact absurd ⟨k, hk, e⟩ hn)] at h
    cases h
  · rintro ⟨k, hk, h⟩
    exact anyB_yes hk h
theorem Fst.any {p : Nat → Bool} {n : Nat} {r : Int} (h : Fst p n r) : decide (0 ≤ r) = anyB p n := by
  rcases h with ⟨rfl, h⟩ | ⟨k, rfl, hk, h, _⟩
  · rw [anyB_no h]; rfl
  · rw [anyB_yes hk h]; exact decide_eq_true (by omega)

/-- What the closure 136 tells of each entry. -/
def Tells136 (Q : List Ent) (w : World) (p : Nat → Bool) : Prop := ∀ k, k < Q.length → ∀ W, Below w.heap.size w W → Calls Try.prog 136 #[.agg #[.int .i64 (Q.getD k e0).ep, .int .i64 (Q.getD k e0).pr, .slice (Q.getD k e0).aV (Q.getD k e0).V.length (Q.getD k e0).cV, .slice (Q.getD k e0).aM (Q.getD k e0).M.length (Q.getD k e0).cM, .slice (Q.getD k e0).aA (Q.getD k e0).A.length (Q.getD k e0).cA, .int .i64 (Q.getD k e0).h]] W fun e w' => e = .returned (.bool (p k)) ∧ Below W.heap.size W w'
set_option maxHeartbeats 2000000 in
theorem index136 (a : Option Addr) (b off cap : Nat) (Q : List Ent) (p : Nat → Bool) (w : World) (h : Rd w a b off Q) (hP : Tells136 Q w p) :
    Calls Try.prog 98 #[.slice a Q.length cap, .func (.func 136) #[] #[]] w fun e w' => Below w.heap.size w w' ∧ ∃ r : Int, e = .returned (.int .i64 r) ∧ Fst p Q.length r := by
  obtain ⟨hh, hc, ho, hs⟩ := h
  unfold Tells136 at hP
  obtain ⟨n, hn⟩ : ∃ n, n = Q.length := ⟨_, rfl⟩
  rw [← hn] at hh hc hs hP ⊢
  clear hn ho
  go_enter Try.func98, Try.ntmps98
  go_wp2
  go_loopw [8] (fun i wr => ∃ k : Nat, k ≤ n ∧ i = .int .i64 k ∧ Below w.heap.size w wr ∧ ∀ i, i < k → p i = false) (fun i _ => n - (intOf i).toNat)
  case atStart => exact ⟨0, Nat.zero_le _, rfl, Below.refl _ _, fun i hi => by omega⟩
  case round =>
    obtain ⟨k, hk, rfl, hbel, hpre⟩ := hrel
    have HP : Hid (∀ i, i < k → p i = false) := hpre
    clear hpre
    by_cases hlt : k < n
    · obtain rfl := hh (by omega)
      have hkz : (k : Int) < (n : Int) := by omega
      obtain ⟨c0, c1, c2, c3, c4, c5⟩ := ((hc k hlt).of hbel (At6.lt (hc k hlt))).six
      have hcall := hP k hlt wr hbel
      clear hc hh hP
      generalize Q.getD k e0 = x at *
      cases hq : p k
      · have HQ : Hid (p k = false) := hq
        rw [hq] at hcall
        clear hq
        go_wp2_with (go_at_call 136; refine hcall.mono ?_; rintro e w1 ⟨rfl, hb⟩)
        go_roundw
        case rel => exact ⟨k + 1, by omega, by go_num, Rw.next hbel hb, fun i hi => by
          by_cases e : i = k
          · subst e; exact HQ.out
          · exact HP.out i (by omega)⟩
        case measure => simp [intOf]; omega
      · have HQ : Hid (p k = true) := hq
        rw [hq] at hcall
        clear hq
        go_wp2_with (go_at_call 136; refine hcall.mono ?_; rintro e w1 ⟨rfl, hb⟩)
        go_ret
        exact ⟨Rw.next hbel hb, _, rfl, .inr ⟨k, rfl, hlt, HQ.out, HP.out⟩⟩
    · have he : k = n := by omega
      subst he
      go_wp2
      go_ret
      exact ⟨hbel, _, rfl, .inl ⟨rfl, HP.out⟩⟩

theorem contains136 (a : Option Addr) (b off cap : Nat) (Q : List Ent) (p : Nat → Bool) (w : World) (h : Rd w a b off Q) (hP : Tells136 Q w p) :
    Calls Try.prog 101 #[.slice a Q.length cap, .func (.func 136) #[] #[]] w fun e w' => e = .returned (.bool (anyB p Q.length)) ∧ Below w.heap.size w w' := by
  generalize hR : anyB p Q.length = R
  have HR : Hid (anyB p Q.length = R) := hR
  clear hR
  go_enter Try.func101, Try.ntmps101
  go_wp2_with (go_at_call 98; refine (index136 _ _ _ _ Q p _ h hP).mono ?_; rintro e w1 ⟨hb, r, rfl, hr⟩; replace hr := hr.any; rw [HR.out] at hr)
  go_ret
  exact ⟨ret_bool (by first | exact hr | rfl | simp), hb⟩

/-- What the closure 99 tells of each entry. -/
def Tells99 (g0 : Nat) (g1 : Nat) (Q : List Ent) (w : World) (p : Nat → Bool) : Prop := ∀ k, k < Q.length → ∀ W, Below w.heap.size w W → Calls Try.prog 99 #[.agg #[.int .i64 (Q.getD k e0).ep, .int .i64 (Q.getD k e0).pr, .slice (Q.getD k e0).aV (Q.getD k e0).V.length (Q.getD k e0).cV, .slice (Q.getD k e0).aM (Q.getD k e0).M.length (Q.getD k e0).cM, .slice (Q.getD k e0).aA (Q.getD k e0).A.length (Q.getD k e0).cA, .int .i64 (Q.getD k e0).h], .pointer (some ⟨g0, 0, none⟩), .pointer (some ⟨g1, 0, none⟩)] W fun e w' => e = .returned (.bool (p k)) ∧ Below W.heap.size W w'
set_option maxHeartbeats 2000000 in
theorem index99 (a : Option Addr) (b off cap : Nat) (g0 : Nat) (g1 : Nat) (Q : List Ent) (p : Nat → Bool) (w : World) (h : Rd w a b off Q) (hP : Tells99 g0 g1 Q w p) :
    Calls Try.prog 98 #[.slice a Q.length cap, .func (.func 99) #[] #[.pointer (some ⟨g0, 0, none⟩), .pointer (some ⟨g1, 0, none⟩)]] w fun e w' => Below w.heap.size w w' ∧ ∃ r : Int, e = .returned (.int .i64 r) ∧ Fst p Q.length r := by
  obtain ⟨hh, hc, ho, hs⟩ := h
  unfold Tells99 at hP
  obtain ⟨n, hn⟩ : ∃ n, n = Q.length := ⟨_, rfl⟩
  rw [← hn] at hh hc hs hP ⊢
  clear hn ho
  go_enter Try.func98, Try.ntmps98
  go_wp2
  go_loopw [8] (fun i wr => ∃ k : Nat, k ≤ n ∧ i = .int .i64 k ∧ Below w.heap.size w wr ∧ ∀ i, i < k → p i = false) (fun i _ => n - (intOf i).toNat)
  case atStart => exact ⟨0, Nat.zero_le _, rfl, Below.refl _ _, fun i hi => by omega⟩
  case round =>
    obtain ⟨k, hk, rfl, hbel, hpre⟩ := hrel
    have HP : Hid (∀ i, i < k → p i = false) := hpre
    clear hpre
    by_cases hlt : k < n
    · obtain rfl := hh (by omega)
      have hkz : (k : Int) < (n : Int) := by omega
      obtain ⟨c0, c1, c2, c3, c4, c5⟩ := ((hc k hlt).of hbel (At6.lt (hc k hlt))).six
      have hcall := hP k hlt wr hbel
      clear hc hh hP
      generalize Q.getD k e0 = x at *
      cases hq : p k
      · have HQ : Hid (p k = false) := hq
        rw [hq] at hcall
        clear hq
        go_wp2_with (go_at_call 99; refine hcall.mono ?_; rintro e w1 ⟨rfl, hb⟩)
        go_roundw
        case rel => exact ⟨k + 1, by omega, by go_num, Rw.next hbel hb, fun i hi => by
          by_cases e : i = k
          · subst e; exact HQ.out
          · exact HP.out i (by omega)⟩
        case measure => simp [intOf]; omega
      · have HQ : Hid (p k = true) := hq
        rw [hq] at hcall
        clear hq
        go_wp2_with (go_at_call 99; refine hcall.mono ?_; rintro e w1 ⟨rfl, hb⟩)
        go_ret
        exact ⟨Rw.next hbel hb, _, rfl, .inr ⟨k, rfl, hlt, HQ.out, HP.out⟩⟩
    · have he : k = n := by omega
      subst he
      go_wp2
      go_ret
      exact ⟨hbel, _, rfl, .inl ⟨rfl, HP.out⟩⟩

/-- What the closure 100 tells of each entry. -/
def Tells100 (g0 : Nat) (Q : List Ent) (w : World) (p : Nat → Bool) : Prop := ∀ k, k < Q.length → ∀ W, Below w.heap.size w W → Calls Try.prog 100 #[.agg #[.int .i64 (Q.getD k e0).ep, .int .i64 (Q.getD k e0).pr, .slice (Q.getD k e0).aV (Q.getD k e0).V.length (Q.getD k e0).cV, .slice (Q.getD k e0).aM (Q.getD k e0).M.length (Q.getD k e0).cM, .slice (Q.getD k e0).aA (Q.getD k e0).A.length (Q.getD k e0).cA, .int .i64 (Q.getD k e0).h], .pointer (some ⟨g0, 0, none⟩)] W fun e w' => e = .returned (.bool (p k)) ∧ Below W.heap.size W w'
set_option maxHeartbeats 2000000 in
theorem index100 (a : Option Addr) (b off cap : Nat) (g0 : Nat) (Q : List Ent) (p : Nat → Bool) (w : World) (h : Rd w a b off Q) (hP : Tells100 g0 Q w p) :
    Calls Try.prog 98 #[.slice a Q.length cap, .func (.func 100) #[] #[.pointer (some ⟨g0, 0, none⟩)]] w fun e w' => Below w.heap.size w w' ∧ ∃ r : Int, e = .returned (.int .i64 r) ∧ Fst p Q.length r := by
  obtain ⟨hh, hc, ho, hs⟩ := h
  unfold Tells100 at hP
  obtain ⟨n, hn⟩ : ∃ n, n = Q.length := ⟨_, rfl⟩
  rw [← hn] at hh hc hs hP ⊢
  clear hn ho
  go_enter Try.func98, Try.ntmps98
  go_wp2
  go_loopw [8] (fun i wr => ∃ k : Nat, k ≤ n ∧ i = .int .i64 k ∧ Below w.heap.size w wr ∧ ∀ i, i < k → p i = false) (fun i _ => n - (intOf i).toNat)
  case atStart => exact ⟨0, Nat.zero_le _, rfl, Below.refl _ _, fun i hi => by omega⟩
  case round =>
    obtain ⟨k, hk, rfl, hbel, hpre⟩ := hrel
    have HP : Hid (∀ i, i < k → p i = false) := hpre
    clear hpre
    by_cases hlt : k < n
    · obtain rfl := hh (by omega)
      have hkz : (k : Int) < (n : Int) := by omega
      obtain ⟨c0, c1, c2, c3, c4, c5⟩ := ((hc k hlt).of hbel (At6.lt (hc k hlt))).six
      have hcall := hP k hlt wr hbel
      clear hc hh hP
      generalize Q.getD k e0 = x at *
      cases hq : p k
      · have HQ : Hid (p k = false) := hq
        rw [hq] at hcall
        clear hq
        go_wp2_with (go_at_call 100; refine hcall.mono ?_; rintro e w1 ⟨rfl, hb⟩)
        go_roundw
        case rel => exact ⟨k + 1, by omega, by go_num, Rw.next hbel hb, fun i hi => by
          by_cases e : i = k
          · subst e; exact HQ.out
          · exact HP.out i (by omega)⟩
        case measure => simp [intOf]; omega
      · have HQ : Hid (p k = true) := hq
        rw [hq] at hcall
        clear hq
        go_wp2_with (go_at_call 100; refine hcall.mono ?_; rintro e w1 ⟨rfl, hb⟩)
        go_ret
        exact ⟨Rw.next hbel hb, _, rfl, .inr ⟨k, rfl, hlt, HQ.out, HP.out⟩⟩
    · have he : k = n := by omega
      subst he
      go_wp2
      go_ret
      exact ⟨hbel, _, rfl, .inl ⟨rfl, HP.out⟩⟩

theorem contains100 (a : Option Addr) (b off cap : Nat) (g0 : Nat) (Q : List Ent) (p : Nat → Bool) (w : World) (h : Rd w a b off Q) (hP : Tells100 g0 Q w p) :
    Calls Try.prog 101 #[.slice a Q.length cap, .func (.func 100) #[] #[.pointer (some ⟨g0, 0, none⟩)]] w fun e w' => e = .returned (.bool (anyB p Q.length)) ∧ Below w.heap.size w w' := by
  generalize hR : anyB p Q.length = R
  have HR : Hid (anyB p Q.length = R) := hR
  clear hR
  go_enter Try.func101, Try.ntmps101
  go_wp2_with (go_at_call 98; refine (index100 _ _ _ _ _ Q p _ h hP).mono ?_; rintro e w1 ⟨hb, r, rfl, hr⟩; replace hr := hr.any; rw [HR.out] at hr)
  go_ret
  exact ⟨ret_bool (by first | exact hr | rfl | simp), hb⟩

end Go.Proofs.Ytcbgnfjnjfaacaa.Ra
namespace Go.Proofs.Ytcbgnfjnjfaacaa.Hs
open Go Go.RowKit
open Num Pl Hr Hh Hf Hg Hb

theorem k8 {k : Nat} (h : k < 8) : k = 0 ∨ k = 1 ∨ k = 2 ∨ k = 3 ∨ k = 4 ∨ k = 5 ∨ k = 6 ∨ k = 7 := by omega

/-- A head in memory of the call's own. -/
def ResH (w : World) (L : List Int) (e : Ending) (w' : World) : Prop :=
  ∃ a g cap, e = .returned (.agg #[.slice a L.length cap]) ∧ Wt w' a g L ∧ w.heap.size ≤ g ∧ Below w.heap.size w w'

theorem wt_built {w : World} {g : Nat} {x0 x1 x2 x3 x4 x5 x6 x7 : Int} (h : w.heap[g]? = some (.cells #[.int .i64 x0, .int .i64 x1, .int .i64 x2, .int .i64 x3, .int .i64 x4, .int .i64 x5, .int .i64 x6, .int .i64 x7] 3 (0, 0))) :
    Wt w (some ⟨g, 0, none⟩) g [x0, x1, x2, x3, x4, x5, x6, x7] := by
  refine ⟨fun _ => rfl, fun i hi => ?_, fun i _ => Bl.free h i, by simp⟩
  have hi8 : i < 8 := hi
  rw [Bl.cell h]
  rcases k8 hi8 with rfl | rfl | rfl | rfl | rfl | rfl | rfl | rfl <;> rfl

theorem wt_set {w : World} {a : Option Addr} {g : Nat} {l : List Int} {ad : Addr} {u : Value} (h : Wt w a g l) (hne : ¬ ad.block = g) : Wt (w.setCell ad u) a g l := by
  have e : (w.setCell ad u).heap[g]? = w.heap[g]? := Below.heap_setCell w ad u g (fun e => hne e.symm)
  refine ⟨h.head, fun i hi => ?_, fun i hi => ?_, h.size⟩
  · have := h.cell i hi
    simp only [World.cell?, e] at this ⊢
    exact this
  · have := h.free i hi
    simp only [World.frozen?, e] at this ⊢
    exact this

/-- The list of a small head. -/
def smL (i s d : Int) : List Int := [i, s, d, 2048, 0, 0, 0, 0]
/-- What SmallHead answers. -/
def smallL (i s d : Int) : List Int := if headB (smL i s d) = true then smL i s d else []

end Go.Proofs.Ytcbgnfjnjfaacaa.Hs
namespace Go.Proofs.Ytcbgnfjnjfaacaa.Ht
set_option maxRecDepth 8000
open Go Go.RowKit
open Num Pl Hr Hh Hf Hg Hb Hs

/-- A slice of the call's own, not nil, that holds the integers l. -/
def HasN (w : World) (base : Nat) (v : Value) (l : List Int) : Prop := w.ownsRow base 3 1 v l.length (l.map (Value.int .i64)) ∧ v ≠ .slice none 0 0

theorem news_of {w : World} {ad : Addr} {b off : Nat} {m : List Int} (hr : Rd w (some ad) b off m) : ∀ j u, (m.map (Value.int .i64))[j]? = some u → w.cell? (ad.add j) = some u := by
  intro j u hj
  have hjl : j < m.length := by have := (List.getElem?_eq_some_iff.1 hj).1; simpa using this
  have hcj := hr.cell j hjl
  have e : u = .int .i64 (m.getD j 0) := by simp [hjl] at hj; rw [← hj]; simp [List.getD, hjl]
  subst e
  have hd := hr.head (by omega)
  injection hd with hd
  subst hd
  by_cases ej : j = 0
  · subst ej; simpa [Addr.add] using hcj
  · simpa [Addr.add, ej] using hcj

theorem hasN_form {w : World} {B : Nat} {v : Value} {l : List Int} (h : HasN w B v l) (hs : l.length ≤ 4194304) :
    ∃ g cap, v = .slice (some ⟨g, 0, none⟩) l.length cap ∧ B ≤ g ∧ Wt w (some ⟨g, 0, none⟩) g l ∧ l.length ≤ cap := by
  rcases h.1.2 with ⟨rfl, _⟩ | ⟨g, cap, cur, rfl, hb, hh, hn, _, _, ht⟩
  · exact absurd rfl h.2
  · refine ⟨g, cap, rfl, hb, ⟨fun _ => rfl, fun i hi => ?_, fun i _ => by simp [World.frozen?, hh], hs⟩, hn⟩
    have := h.1.cells (g := g) rfl i (.int .i64 (l.getD i 0)) (by simp [hi, List.getD])
    by_cases ei : i = 0
    · subst ei; simpa [Addr.add] using this
    · simpa [Addr.add, ei] using this

theorem own_emptyN (w : World) : HasN (w.alloc (.cells #[] 3)) w.heap.size (.slice (some ⟨w.heap.size, 0, none⟩) 0 0) [] := ⟨by simpa using World.ownsRow_made (size := 1) (e := 3) w #[] 0 (Nat.le_refl _) (Nat.zero_le _) rfl, by simp⟩

theorem below_own {w w1 w2 : World} {B : Nat} {v : Value} {l : List Int} (h : HasN w1 B v l) (hb : Below w.heap.size w w1) (hB : w.heap.size ≤ B) (hg : w1.grownBy w2 v.ownBlock) : Below w.heap.size w w2 :=
  hb.grown hg hb.size (fun k hk => by have := (h.1.lt k hk).1; omega)

theorem wpList_appN {ops : Array Oper} {rest : List Oper} {o : Oper} {a : Act} {w : World} {Q : Exit → Act → World → Prop} (hgd : o.guard = none) (s x : Operand)
    (ho : o.op = .call { callee := .builtin .append, args := #[s, x], argTypes := #[23, 23] }) (base : Nat) (v : Value) (l m : List Int) (hs : a.eval s = v) (hown : HasN w base v l)
    (ad : Addr) (b off c : Nat) (hx : a.eval x = .slice (some ad) m.length c) (hr : Rd w (some ad) b off m) (hb : l.length + m.length ≤ 8388608) (hbase : base ≤ w.heap.size)
    (h : ∀ v' w', HasN w' base v' (l ++ m) → w.grownBy w' v.ownBlock → wpList Try.prog ops Q rest (a.put o.dst v') w') : wpList Try.prog ops Q (o :: rest) a w := by
  obtain ⟨i0, hi, hz0, hz1, hz2⟩ := info_parts info3
  refine wpList_append_own _ hgd s x 23 ho base 3 i0 (.int .i64 0) 1 8 Try.underlying23 hi hz0 hz1 hz2 rfl (by decide) v l.length (l.map (Value.int .i64)) hs hown.1 ad m.length c (m.map (Value.int .i64)) hx (by simp) (news_of hr) (by intro u hu; simp at hu; obtain ⟨q, _, rfl⟩ := hu; rfl) (by unfold maxLen; omega) (by omega) hbase ?_
  intro v' w' h1 h2 h3
  refine h v' w' ⟨by simpa using h1, fun e => ?_⟩ h2
  exact hown.2 (h3.1 e).1

/-- A head and a bool are handed back, the head in memory of the call's own. -/
def ResHB (w : World) (ok : Bool) (L : List Int) (e : Ending) (w' : World) : Prop :=
  ∃ a g cap, e = .returned (.tuple #[.agg #[.slice a L.length cap], .bool ok]) ∧ Wt w' a g L ∧ w.heap.size ≤ g ∧ Below w.heap.size w w'

theorem res_none {w w' : World} (h : Below w.heap.size w w') : ResHB w false [] (.returned (.tuple #[.agg #[.slice none 0 0], .bool false])) w' :=
  ⟨none, w.heap.size, 0, rfl, Wt.nil _ _ _, Nat.le_refl _, h⟩

theorem set_at {l : List Int} {F k : Nat} {v : Int} (hk : k < l.length) : (l.set F v).getD k 0 = if k = F then v else l.getD k 0 := by
  simp only [List.getD, List.getElem?_set]
  by_cases e : k = F
  · subst e; simp [hk]
  · have e' : ¬ F = k := fun h => e h.symm
    simp [e, e']

theorem fits_in {f v : Int} (h : fits f v = true) : ∃ F : Nat, f = F ∧ F < 8 := by
  by_cases h0 : f < 0 ∨ 8 ≤ f
  · rw [fits_out h0] at h; simp at h
  · exact ⟨f.toNat, by omega, by omega⟩
theorem head_len {l : List Int} (h : headB l = true) : l.length = 8 := by
  unfold headB at h
  simp at h
  exact h.1

theorem wt_put {w : World} {g F : Nat} {l : List Int} {v : Int} (h : Wt w (some ⟨g, 0, none⟩) g l) : Wt (w.setCell ⟨g, F, none⟩ (.int .i64 v)) (some ⟨g, 0, none⟩) g (l.set F v) := by
  refine ⟨fun _ => rfl, fun i hi => ?_, fun i hi => ?_, by simpa using h.size⟩
  · have hi' : i < l.length := by simpa using hi
    rw [set_at hi']
    by_cases e : i = F
    · subst e
      rw [World.cell?_setCell_same _ _ _ (h.cell i hi'), if_pos rfl]
    · rw [World.cell?_setCell_other _ _ _ _ (by intro q; injection q with q1 q2; exact e q2.symm), h.cell i hi', if_neg e]
  · have hi' : i < l.length := by simpa using hi
    simpa using h.free i hi'

theorem grown_below {w w3 w4 : World} {o : Obj} (B0 : Below w.heap.size w (w3.alloc o)) (hg : (w3.alloc o).grownBy w4 (Value.ownBlock (.slice (some ⟨w3.heap.size, 0, none⟩) 0 0))) (h : w.heap.size ≤ w3.heap.size) : Below w.heap.size w w4 ∧ ∀ k, k < w3.heap.size → w4.heap[k]? = (w3.alloc o).heap[k]? := by
  constructor
  · refine B0.grown hg B0.size ?_
    intro k hk
    have e : w3.heap.size = k := by simpa [Value.ownBlock] using hk
    omega
  · intro k hk
    refine hg.block k (by simp; omega) ?_
    intro e
    have e' : k = w3.heap.size := by simpa [Value.ownBlock] using e
    omega

end Go.Proofs.Ytcbgnfjnjfaacaa.Ht
namespace Go.Proofs.Ytcbgnfjnjfaacaa.Lk
open Go Go.RowKit
open Num Pl Hr Mf

theorem below_kept {B g n : Nat} {w0 w w' : World} (hb : Below B w0 w) (hB : B ≤ w.heap.size) (hk : Kept g n w w') (hg : n = 0 ∨ B ≤ g) : Below B w0 w' :=
  hb.trans ⟨hk.os, hk.tape, hk.output, hk.size, fun k h => hk.block k (Nat.lt_of_lt_of_le h hB) (hg.imp id (by omega))⟩
theorem rd_kept {g n : Nat} {w w' : World} {a : Option Addr} {b off : Nat} {l : List Int} (hk : Kept g n w w') (hr : Rd w a b off l) (hne : l.length = 0 ∨ n = 0 ∨ b ≠ g) : Rd w' a b off l := by
  refine ⟨hr.head, fun i hi => ?_, hr.size⟩
  rcases hne with h0 | h1
  · omega
  · exact (World.cell?_of_block (hk.block b (World.block_lt_of_cell? _ _ (hr.cell i hi)) h1)).trans (hr.cell i hi)
theorem wt_kept {g n : Nat} {w w' : World} {a : Option Addr} {b : Nat} {l : List Int} (hk : Kept g n w w') (hr : Wt w a b l) (hne : l.length = 0 ∨ n = 0 ∨ b ≠ g) : Wt w' a b l := by
  refine ⟨hr.head, fun i hi => ?_, fun i hi => ?_, hr.size⟩
  · have := (rd_kept hk hr.rd hne).cell i hi
    simpa using this
  · rcases hne with h0 | h1
    · omega
    · have hb := hk.block b (World.block_lt_of_cell? _ _ (hr.cell i hi)) h1
      have := hr.free i hi
      simp only [World.frozen?, hb] at this ⊢
      exact this
theorem mine_kept {g n b : Nat} {w w' : World} {l : List Int} (hk : Kept g n w w') (hm : Mine w b l) (hne : n = 0 ∨ b ≠ g) : Mine w' b l :=
  ⟨hm.row.of_block (hk.block b hm.row.lt hne), hm.size⟩
theorem mine_kept2 {g n g' n' b : Nat} {w w' : World} {l : List Int} (hk : Kept2 g n g' n' w w') (hm : Mine w b l) (hne : (n = 0 ∨ b ≠ g) ∧ (n' = 0 ∨ b ≠ g')) : Mine w' b l :=
  ⟨hm.row.of_block (hk.block b hm.row.lt hne.1 hne.2), hm.size⟩

end Go.Proofs.Ytcbgnfjnjfaacaa.Lk
namespace Go.Proofs.Ytcbgnfjnjfaacaa.Ln
set_option maxRecDepth 8000
open Go Go.RowKit
open Num Pl Hr Hh Pa Pm Po Pq

theorem run_alloc25 (w : World) : (Instr.alloc 25 true (.tuple #[])).run Try.prog w = .ok (.pointer (some ⟨w.heap.size, 0, none⟩)) (w.alloc (.cells #[.slice none 0 0, .slice none 0 0] 25)) := by
  simp [go_sem]
theorem readyAlloc {md : Region.Mode} {ops : Array Oper} {Q : Exit → Act → World → Prop} {S : World → Prop} {fuel : Nat} {listed : Array Bool} {a : Act} {w : World} {i : Nat} {o : Oper} {rs : List Nat} (hi : ops[i]? = some o) (hgd : o.guard = none)
    (ho : o.op = .alloc 25) (d : Tmp) (hd : o.dst = some d)
    (hS : S (w.alloc (.cells #[.slice none 0 0, .slice none 0 0] 25)))
    (hk : S (w.alloc (.cells #[.slice none 0 0, .slice none 0 0] 25)) → wpAnyH Try.prog md ops Q S fuel (listed.setIfInBounds i true) (a.put (some d) (.pointer (some ⟨w.heap.size, 0, none⟩))) (w.alloc (.cells #[.slice none 0 0, .slice none 0 0] 25)))
    (hs : AllReadyH Try.prog md ops Q S fuel listed a w rs) : AllReadyH Try.prog md ops Q S fuel listed a w (i :: rs) :=
  AllReadyH.cons hi (fun K hK => by
    rw [if_pos (by simp only [Region.wanted, hgd])]
    unfold Oper.wp execOp
    simp only [ho, Sem.run_bind, Sem.run_pure, Result.andThen_ok, run_alloc25]
    exact hK.out _ _ hS (fun hs' => by rw [hd]; exact hk hs')) hs
theorem info25 : (Try.prog.info? 25).map (·.size) = some 2 := by kernel_rfl
theorem row_setRow {w : World} {g : Nat} {c c' : Array Value} {t : TypeId} {fr : Nat × Nat} (h : w.heap[g]? = some (.cells c t fr)) : (w.setRow g c').heap[g]? = some (.cells c' t fr) := by
  simp only [World.setRow]
  rw [Array.getElem?_modify, if_pos rfl, h]
  rfl
theorem readyStore {md : Region.Mode} {ops : Array Oper} {Q : Exit → Act → World → Prop} {S : World → Prop} {fuel : Nat} {listed : Array Bool} {a : Act} {w : World} {i : Nat} {o : Oper} {rs : List Nat} (hi : ops[i]? = some o) (hgd : o.guard = none)
    (x y : Operand) (ho : o.op = .store 25 x y) (hd : o.dst = none) {X : Nat} (hx : a.eval x = .pointer (some ⟨X, 0, none⟩)) {p p' : Option Addr} {n c n' c' : Nat} (hy : a.eval y = .agg #[.slice p n c, .slice p' n' c'])
    (h : w.heap[X]? = some (.cells #[.slice none 0 0, .slice none 0 0] 25 (0, 0)))
    (hS : ∀ w', w'.heap[X]? = some (.cells #[.slice p n c, .slice p' n' c'] 25 (0, 0)) → Same X w w' → S w')
    (hk : ∀ w', w'.heap[X]? = some (.cells #[.slice p n c, .slice p' n' c'] 25 (0, 0)) → Same X w w' → S w' → wpAnyH Try.prog md ops Q S fuel (listed.setIfInBounds i true) (a.put none undef) w')
    (hs : AllReadyH Try.prog md ops Q S fuel listed a w rs) : AllReadyH Try.prog md ops Q S fuel listed a w (i :: rs) :=
  AllReadyH.cons hi (fun K hK => by
    rw [if_pos (by simp only [Region.wanted, hgd])]
    exact wp_store_row 25 x y ho X _ hx hy 25 _ h info25 rfl (by simp [Value.oneCell']) (hK.out _ _ (hS _ (row_setRow h) (same_setRow w X _)) (fun hs' => by rw [hd]; exact hk _ (row_setRow h) (same_setRow w X _) hs'))) hs
theorem wt_same {X g : Nat} {w w' : World} {a : Option Addr} {l : List Int} (hs : Same X w w') (h : Wt w a g l) (hne : l.length = 0 ∨ g ≠ X) : Wt w' a g l := by
  refine ⟨h.head, fun i hi => ?_, fun i hi => ?_, h.size⟩
  · rcases hne with h0 | h0
    · omega
    · have e := hs.block g h0
      have := h.cell i hi
      simp only [World.cell?, e] at this ⊢
      exact this
  · rcases hne with h0 | h0
    · omega
    · have e := hs.block g h0
      have := h.free i hi
      simp only [World.frozen?, e] at this ⊢
      exact this
theorem same_below {X : Nat} {B : Nat} {w0 w w' : World} (hs : Same X w w') (hb : Below B w0 w) (h : B ≤ X) : Below B w0 w' := hs.below hb h

end Go.Proofs.Ytcbgnfjnjfaacaa.Ln
