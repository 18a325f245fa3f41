/-
  Contracts laid together (Yd, Ye, Hb, Yg, Ef, Eg, Em, Ep, Eq, Er, Hs, Yi, Lk, Ln, Yh, YxS, Cp, Cq, Cr).
-/
import Derived.Test.YtcbgnfjnjfaacaaPtb
import Derived.Deep.LoopGhost
import Derived.Laws.CopyOwn
import Derived.Deep.RegionHeld3
import Derived.Maps.AppendAt
namespace Go.Proofs.Ytcbgnfjnjfaacaa.Yd
set_option maxRecDepth 8000
open Go Go.RowKit
open Num Pl Pq Yb Yc

/-- The action is right. -/
def actB (x : A3) : Bool :=
  if x.1 = 1 then decide (1 ≤ x.2.1 ∧ x.2.1 ≤ 255 ∧ x.2.2 = 0) else if x.1 = 3 then decide (x.2.1 = 1 ∨ x.2.1 = 2) && numOkB x.2.2 6
  else decide ((x.1 = 2 ∨ x.1 = 4 ∨ x.1 = 5) ∧ x.2.1 = 0 ∧ x.2.2 = 0)
/-- The first k are right. -/
def pre (l : List A3) (k : Nat) : Prop := ∀ i, i < k → actB (l.getD i z3) = true
instance (l : List A3) (k : Nat) : Decidable (pre l k) := by unfold pre; infer_instance
/-- The actions are right. -/
def actsB (l : List A3) : Bool := decide (l.length ≤ 12 ∧ pre l l.length)
theorem actsB_long {l : List A3} (h : 12 < l.length) : actsB l = false := by
  unfold actsB; rw [decide_eq_false]; omega
theorem actsB_yes {l : List A3} (h : l.length ≤ 12) (hp : pre l l.length) : actsB l = true := decide_eq_true ⟨h, hp⟩
theorem actsB_no {l : List A3} {k : Nat} (hk : k < l.length) (h : actB (l.getD k z3) = false) : actsB l = false :=
  decide_eq_false fun hh => by have := hh.2 k hk; rw [h] at this; cases this
theorem pre_step {l : List A3} {k : Nat} (h : pre l k) (hk : actB (l.getD k z3) = true) : pre l (k + 1) := by
  intro i hi
  by_cases e : i = k
  · subst e; exact hk
  · exact h i (by omega)
theorem actsB_out {l : List A3} (h : actsB l = true) : l.length ≤ 12 ∧ pre l l.length := of_decide_eq_true h

theorem three0 {w : World} {g : Nat} {v0 v1 v2 : Value} {t : TypeId} {fr : Nat × Nat} (k : w.heap[g]? = some (.cells #[v0, v1, v2] t fr)) : w.cell? ⟨g, 0, none⟩ = some v0 := by simp [World.cell?, k]
theorem three1 {w : World} {g : Nat} {v0 v1 v2 : Value} {t : TypeId} {fr : Nat × Nat} (k : w.heap[g]? = some (.cells #[v0, v1, v2] t fr)) : w.cell? ⟨g, 1, none⟩ = some v1 := by simp [World.cell?, k]
theorem three2 {w : World} {g : Nat} {v0 v1 v2 : Value} {t : TypeId} {fr : Nat × Nat} (k : w.heap[g]? = some (.cells #[v0, v1, v2] t fr)) : w.cell? ⟨g, 2, none⟩ = some v2 := by simp [World.cell?, k]
theorem actB_set (a b : Int) : actB (3, a, b) = (decide (a = 1 ∨ a = 2) && Hg.fits a b) := by
  by_cases h : a = 1 ∨ a = 2
  · have e : Hg.fits a b = numOkB b 6 := by
      rcases h with rfl | rfl <;> rfl
    simp [actB, e]
  · simp [actB, h]

theorem info88 : (Try.prog.info? 158).map (fun i => (i.zero, i.size, i.bytes)) = some (some .nilIface, 1, 16) := by kernel_rfl

/-- The row of the first k actions, by their types. -/
def row (l : List A3) (k : Nat) : Nat → Value := fun j => if j < k then actV (l.getD j z3) else .nilIface
theorem row_step {w : World} {g n : Nat} {l : List A3} {k : Nat} (h : w.rowIs g 158 n (row l k)) : (w.setCell ⟨g, k, none⟩ (actV (l.getD k z3))).rowIs g 158 n (row l (k + 1)) := by
  refine (h.set k _).congr fun i hi => ?_
  unfold row
  by_cases e : i = k
  · subst e; simp
  · have : (i < k + 1) = (i < k) := by rw [eq_iff_iff]; omega
    simp [e, this]

set_option maxHeartbeats 40000000 in
theorem acts_any (a : Option Addr) (b off cap : Nat) (l : List A3) (w : World) (h : Rd w a b off l) :
    Calls Try.prog 141 #[.slice a l.length cap] w fun e w' => Below w.heap.size w w' ∧
      (actsB l = false → e = .returned (.tuple #[.slice none 0 0, .bool false])) ∧
      (actsB l = true → e = .returned (.tuple #[.slice (some ⟨w.heap.size, 0, none⟩) l.length l.length, .bool true]) ∧ w'.rowIs w.heap.size 158 l.length (row l l.length)) := by
  obtain ⟨hh, hc, hs⟩ := h
  by_cases h12 : 12 < l.length
  · have hz : (12 : Int) < (l.length : Int) := by omega
    have hB := actsB_long h12
    go_enter Try.func141, Try.ntmps141
    go_wp2
    exact bodyPost_ret (v := .tuple #[.slice none 0 0, .bool false]) (by simp [results, Try.results141, go_sem]) rfl ⟨Below.refl _ _, fun _ => rfl, fun h => by rw [hB] at h; cases h⟩
  obtain ⟨n, hn⟩ : ∃ n, n = l.length := ⟨_, rfl⟩
  have hmk := run_make_row' (P := Try.prog) 152 158 .nilIface 16 Try.underlying152 info88 rfl .i64 .i64 n (by omega) (by omega)
  rw [← hn] at hh hc hs h12 ⊢
  have HN : Hid (n = l.length) := hn
  clear hn
  have hz : ¬ (12 : Int) < (n : Int) := by omega
  go_enter Try.func141, Try.ntmps141
  go_wp2
  clear hmk
  go_loopw [15] (fun i wr => ∃ k : Nat, k ≤ n ∧ i = .int .i64 k ∧ Below w.heap.size w wr ∧ wr.rowIs w.heap.size 158 n (row l k) ∧ pre l k) (fun i _ => n - (intOf i).toNat)
  case atStart => exact ⟨0, Nat.zero_le _, rfl, (Below.refl _ _).alloc (Nat.le_refl _) _, (World.rowIs_made w .nilIface n 158).congr (fun i _ => by simp [row]), fun i hi => by omega⟩
  case round =>
    obtain ⟨k, hk, rfl, hbel, hrow, hpre⟩ := hrel
    have HP : Hid (pre l k) := hpre
    clear hpre
    by_cases hlt : k < n
    · obtain rfl := hh (by omega)
      have hkz : (k : Int) < (n : Int) := by omega
      obtain ⟨c0, c1, c2⟩ := (hc k hlt).of hbel (hc k hlt).lt
      generalize ex : l.getD k z3 = x at c0 c1 c2
      have HX : Hid (l.getD k z3 = x) := ex
      clear ex hc hh
      have hlw : w.heap.size < wr.heap.size := hrow.lt
      obtain ⟨x0, x1, x2⟩ := x
      simp only at c0 c1 c2
      obtain ⟨W0, hW0⟩ : ∃ W0, W0 = wr.alloc (.cells #[.int .i64 x0, .int .i64 x1, .int .i64 x2] 147) := ⟨_, rfl⟩
      have kA : W0.heap[wr.heap.size]? = some (.cells #[.int .i64 x0, .int .i64 x1, .int .i64 x2] 147 (0, 0)) := by subst hW0; exact at_new rfl
      have zA : wr.heap.size < W0.heap.size := by subst hW0; simp
      have B0 : Below wr.heap.size wr W0 := by subst hW0; exact below_alloc1 _ _
      have hlt2 : w.heap.size ≠ wr.heap.size := by omega
      replace hrow := hrow.of_block (B0.block _ hlw)
      replace hlw := hrow.lt
      replace hbel := Rw.next hbel B0
      clear B0
      by_cases k1 : x0 = 1
      · subst k1
        by_cases hr : 1 ≤ x1 ∧ x1 ≤ 255
        · by_cases h0 : x2 = 0
          · subst h0
            go_wp2_with (go_at_call 153; rw [← hW0]; refine (kind_any (1, x1, 0) _).mono ?_; rintro e w1 ⟨rfl, hb⟩; rw [show actV (1, x1, 0) = .iface 164 (.agg #[.int .i64 x1]) from rfl]; replace hrow := hrow.of_block (hb.block _ hlw); replace kA := (hb.block _ zA).trans kA; replace hbel := Rw.next hbel hb; have g0 := hrow.cell hlt; have g1 := hrow.frozen k)
            obtain ⟨W2, hW2⟩ : ∃ W2, W2 = w1.setCell ⟨w.heap.size, k, none⟩ (.iface 164 (.agg #[.int .i64 x1])) := ⟨_, rfl⟩
            rw [← hW2]
            have q0 : W2.cell? ⟨w.heap.size, k, none⟩ = some (.iface 164 (.agg #[.int .i64 x1])) := by subst hW2; exact World.cell?_setCell_same _ _ _ g0
            have kA2 : W2.heap[wr.heap.size]? = some (.cells #[.int .i64 1, .int .i64 x1, .int .i64 0] 147 (0, 0)) := by subst hW2; exact (Below.heap_setCell _ _ _ _ (fun h => hlt2 h.symm)).trans kA
            have hrow2 : W2.rowIs w.heap.size 158 n (row l (k + 1)) := by subst hW2; have := row_step hrow; rw [HX.out] at this; exact this
            have hb2 : Below w.heap.size w W2 := by subst hW2; exact hbel.setCell (by simp) _
            clear hW2 hrow g0 g1 hbel kA
            have hB := pre_step HP.out (by rw [HX.out]; simp [actB, hr])
            refine wp_region_held_drew (S := (fun w' => w'.cell? ⟨w.heap.size, k, none⟩ = some (.iface 164 (.agg #[.int .i64 x1])) ∧ w'.heap[wr.heap.size]? = some (.cells #[.int .i64 1, .int .i64 x1, .int .i64 0] 147 (0, 0)))) (by kernel_rfl) ⟨q0, kA2⟩ (fun hHeld => ?_)
            refine take (i := 0) (d := some 25) (v := .slice (some ⟨w.heap.size, 0, none⟩) n n) rfl (by kernel_rfl) (by kernel_rfl) (by kernel_rfl) (by kernel_rfl) (fun _ _ _ h => h) (Or.inl ⟨by rfl, by intro w hSw; go_simp⟩) hHeld ?_
            simp only [Act.put, List.setIfInBounds_toArray, List.set_cons_zero, List.set_cons_succ]
            refine take (i := 1) (d := some 26) (v := .int .i64 k) rfl (by kernel_rfl) (by kernel_rfl) (by kernel_rfl) (by kernel_rfl) (fun _ _ _ h => h) (Or.inl ⟨by rfl, by intro w hSw; go_simp⟩) hHeld ?_
            simp only [Act.put, List.setIfInBounds_toArray, List.set_cons_zero, List.set_cons_succ]
            refine take (i := 2) (d := some 27) (v := .pointer (some ⟨w.heap.size, k, none⟩)) rfl (by kernel_rfl) (by kernel_rfl) (by kernel_rfl) (by kernel_rfl) (fun _ _ _ h => h) (Or.inl ⟨by rfl, by intro w hSw; go_simp⟩) hHeld ?_
            simp only [Act.put, List.setIfInBounds_toArray, List.set_cons_zero, List.set_cons_succ]
            refine take (i := 3) (d := some 28) (v := .iface 164 (.agg #[.int .i64 x1])) rfl (by kernel_rfl) (by kernel_rfl) (by kernel_rfl) (by kernel_rfl) (fun _ _ _ h => h) (Or.inl ⟨by rfl, by intro w hSw; have q1 := hSw.1; go_simp⟩) hHeld ?_
            simp only [Act.put, List.setIfInBounds_toArray, List.set_cons_zero, List.set_cons_succ]
            refine wpAnyH_ready (rs := [4]) (by kernel_rfl) (by simp) (Rg.call1 rfl (by kernel_rfl) 154 (.tmp 28) 158 (by kernel_rfl) 29 (by kernel_rfl) (.iface 164 (.agg #[.int .i64 x1])) (by kernel_rfl) (fun _ => rfl) (Yf.right1y hr _) ?_ AllReadyH.nil)
            rintro e w3 ⟨rfl, hb3⟩
            replace hb3 := Rw.next (Below.drew (Below.refl _ W2)) hb3
            replace q0 := (hb3.cell (World.block_lt_of_cell? _ _ q0)).trans q0
            replace kA2 := (hb3.block _ (Array.getElem?_eq_some_iff.1 kA2).1).trans kA2
            replace hrow2 := hrow2.of_block (hb3.block _ hrow2.lt)
            replace hb2 := Rw.next hb2 hb3
            clear hb3
            refine ⟨_, rfl, ⟨q0, kA2⟩, fun hHeld => ?_⟩
            simp only [Act.put, List.setIfInBounds_toArray, List.set_cons_zero, List.set_cons_succ]
            refine take (i := 5) (d := some 30) (v := .bool false) rfl (by kernel_rfl) (by kernel_rfl) (by kernel_rfl) (by kernel_rfl) (fun _ _ _ h => h) (Or.inl ⟨by rfl, by intro w hSw; go_simp⟩) hHeld ?_
            simp only [Act.put, List.setIfInBounds_toArray, List.set_cons_zero, List.set_cons_succ]
            refine take (i := 6) (d := some 31) (v := .bool false) rfl (by kernel_rfl) (by kernel_rfl) (by kernel_rfl) (by kernel_rfl) (fun _ _ _ h => h) (Or.inl ⟨by rfl, by intro w hSw; go_simp⟩) hHeld ?_
            simp only [Act.put, List.setIfInBounds_toArray, List.set_cons_zero, List.set_cons_succ]
            refine take (i := 7) (d := some 32) (v := .slice (some ⟨w.heap.size, 0, none⟩) n n) rfl (by kernel_rfl) (by kernel_rfl) (by kernel_rfl) (by kernel_rfl) (fun _ _ _ h => h) (Or.inl ⟨by rfl, by intro w hSw; go_simp⟩) hHeld ?_
            simp only [Act.put, List.setIfInBounds_toArray, List.set_cons_zero, List.set_cons_succ]
            refine take (i := 8) (d := some 33) (v := .int .i64 k) rfl (by kernel_rfl) (by kernel_rfl) (by kernel_rfl) (by kernel_rfl) (fun _ _ _ h => h) (Or.inl ⟨by rfl, by intro w hSw; go_simp⟩) hHeld ?_
            simp only [Act.put, List.setIfInBounds_toArray, List.set_cons_zero, List.set_cons_succ]
            refine take (i := 9) (d := some 34) (v := .pointer (some ⟨w.heap.size, k, none⟩)) rfl (by kernel_rfl) (by kernel_rfl) (by kernel_rfl) (by kernel_rfl) (fun _ _ _ h => h) (Or.inl ⟨by rfl, by intro w hSw; go_simp⟩) hHeld ?_
            simp only [Act.put, List.setIfInBounds_toArray, List.set_cons_zero, List.set_cons_succ]
            refine take (i := 10) (d := some 35) (v := .iface 164 (.agg #[.int .i64 x1])) rfl (by kernel_rfl) (by kernel_rfl) (by kernel_rfl) (by kernel_rfl) (fun _ _ _ h => h) (Or.inl ⟨by rfl, by intro w hSw; have q1 := hSw.1; go_simp⟩) hHeld ?_
            simp only [Act.put, List.setIfInBounds_toArray, List.set_cons_zero, List.set_cons_succ]
            refine take (i := 12) (d := some 37) (v := .agg #[.int .i64 1, .int .i64 x1, .int .i64 0]) rfl (by kernel_rfl) (by kernel_rfl) (by kernel_rfl) (by kernel_rfl) (fun _ _ _ h => h) (Or.inl ⟨by rfl, by intro w hSw; have q2 := hSw.2; have d0 := three0 q2; have d1 := three1 q2; have d2 := three2 q2; go_simp⟩) hHeld ?_
            simp only [Act.put, List.setIfInBounds_toArray, List.set_cons_zero, List.set_cons_succ]
            refine wpAnyH_ready (rs := [11]) (by kernel_rfl) (by simp) (Yf.callI rfl (by kernel_rfl) 176 (.tmp 35) rfl 36 (by kernel_rfl) (.iface 164 (.agg #[.int .i64 x1])) (.agg #[.int .i64 x1]) (by kernel_rfl) (fun w => by kernel_rfl) (act1 x1 _) ?_ AllReadyH.nil)
            rintro e w4 ⟨rfl, hb4⟩
            replace q0 := (hb4.cell (World.block_lt_of_cell? _ _ q0)).trans q0
            replace kA2 := (hb4.block _ (Array.getElem?_eq_some_iff.1 kA2).1).trans kA2
            replace hrow2 := hrow2.of_block (hb4.block _ hrow2.lt)
            replace hb2 := Rw.next hb2 hb4
            clear hb4
            refine ⟨_, rfl, ⟨q0, kA2⟩, fun hHeld => ?_⟩
            simp only [Act.put, List.setIfInBounds_toArray, List.set_cons_zero, List.set_cons_succ]
            refine take (i := 13) (d := some 38) (v := .bool false) rfl (by kernel_rfl) (by kernel_rfl) (by kernel_rfl) (by kernel_rfl) (fun _ _ _ h => h) (Or.inl ⟨by rfl, by intro w hSw; go_simp⟩) hHeld ?_
            simp only [Act.put, List.setIfInBounds_toArray, List.set_cons_zero, List.set_cons_succ]
            refine take (i := 14) (d := some 39) (v := .bool false) rfl (by kernel_rfl) (by kernel_rfl) (by kernel_rfl) (by kernel_rfl) (fun _ _ _ h => h) (Or.inl ⟨by rfl, by intro w hSw; go_simp⟩) hHeld ?_
            simp only [Act.put, List.setIfInBounds_toArray, List.set_cons_zero, List.set_cons_succ]
            refine wpAnyH_done (by kernel_rfl) ?_ _
            go_wp2
            all_goals go_roundw
            all_goals first | exact ⟨k + 1, by omega, by go_num, hb2, hrow2, hB⟩ | (simp [intOf]; omega)
          · have hne : (0 == x2) = false := by simpa using fun h : 0 = x2 => h0 h.symm
            go_wp2_with (go_at_call 153; rw [← hW0]; refine (kind_any (1, x1, x2) _).mono ?_; rintro e w1 ⟨rfl, hb⟩; rw [show actV (1, x1, x2) = .iface 164 (.agg #[.int .i64 x1]) from rfl]; replace hrow := hrow.of_block (hb.block _ hlw); replace kA := (hb.block _ zA).trans kA; replace hbel := Rw.next hbel hb; have g0 := hrow.cell hlt; have g1 := hrow.frozen k)
            obtain ⟨W2, hW2⟩ : ∃ W2, W2 = w1.setCell ⟨w.heap.size, k, none⟩ (.iface 164 (.agg #[.int .i64 x1])) := ⟨_, rfl⟩
            rw [← hW2]
            have q0 : W2.cell? ⟨w.heap.size, k, none⟩ = some (.iface 164 (.agg #[.int .i64 x1])) := by subst hW2; exact World.cell?_setCell_same _ _ _ g0
            have kA2 : W2.heap[wr.heap.size]? = some (.cells #[.int .i64 1, .int .i64 x1, .int .i64 x2] 147 (0, 0)) := by subst hW2; exact (Below.heap_setCell _ _ _ _ (fun h => hlt2 h.symm)).trans kA
            have hrow2 : W2.rowIs w.heap.size 158 n (row l (k + 1)) := by subst hW2; have := row_step hrow; rw [HX.out] at this; exact this
            have hb2 : Below w.heap.size w W2 := by subst hW2; exact hbel.setCell (by simp) _
            clear hW2 hrow g0 g1 hbel kA
            have hB := actsB_no (l := l) (k := k) (by have := HN.out; omega) (by rw [HX.out]; simp [actB, h0])
            refine wp_region_held_drew (S := (fun w' => w'.cell? ⟨w.heap.size, k, none⟩ = some (.iface 164 (.agg #[.int .i64 x1])) ∧ w'.heap[wr.heap.size]? = some (.cells #[.int .i64 1, .int .i64 x1, .int .i64 x2] 147 (0, 0)))) (by kernel_rfl) ⟨q0, kA2⟩ (fun hHeld => ?_)
            refine take (i := 0) (d := some 25) (v := .slice (some ⟨w.heap.size, 0, none⟩) n n) rfl (by kernel_rfl) (by kernel_rfl) (by kernel_rfl) (by kernel_rfl) (fun _ _ _ h => h) (Or.inl ⟨by rfl, by intro w hSw; go_simp⟩) hHeld ?_
            simp only [Act.put, List.setIfInBounds_toArray, List.set_cons_zero, List.set_cons_succ]
            refine take (i := 1) (d := some 26) (v := .int .i64 k) rfl (by kernel_rfl) (by kernel_rfl) (by kernel_rfl) (by kernel_rfl) (fun _ _ _ h => h) (Or.inl ⟨by rfl, by intro w hSw; go_simp⟩) hHeld ?_
            simp only [Act.put, List.setIfInBounds_toArray, List.set_cons_zero, List.set_cons_succ]
            refine take (i := 2) (d := some 27) (v := .pointer (some ⟨w.heap.size, k, none⟩)) rfl (by kernel_rfl) (by kernel_rfl) (by kernel_rfl) (by kernel_rfl) (fun _ _ _ h => h) (Or.inl ⟨by rfl, by intro w hSw; go_simp⟩) hHeld ?_
            simp only [Act.put, List.setIfInBounds_toArray, List.set_cons_zero, List.set_cons_succ]
            refine take (i := 3) (d := some 28) (v := .iface 164 (.agg #[.int .i64 x1])) rfl (by kernel_rfl) (by kernel_rfl) (by kernel_rfl) (by kernel_rfl) (fun _ _ _ h => h) (Or.inl ⟨by rfl, by intro w hSw; have q1 := hSw.1; go_simp⟩) hHeld ?_
            simp only [Act.put, List.setIfInBounds_toArray, List.set_cons_zero, List.set_cons_succ]
            refine wpAnyH_ready (rs := [4]) (by kernel_rfl) (by simp) (Rg.call1 rfl (by kernel_rfl) 154 (.tmp 28) 158 (by kernel_rfl) 29 (by kernel_rfl) (.iface 164 (.agg #[.int .i64 x1])) (by kernel_rfl) (fun _ => rfl) (Yf.right1y hr _) ?_ AllReadyH.nil)
            rintro e w3 ⟨rfl, hb3⟩
            replace hb3 := Rw.next (Below.drew (Below.refl _ W2)) hb3
            replace q0 := (hb3.cell (World.block_lt_of_cell? _ _ q0)).trans q0
            replace kA2 := (hb3.block _ (Array.getElem?_eq_some_iff.1 kA2).1).trans kA2
            replace hrow2 := hrow2.of_block (hb3.block _ hrow2.lt)
            replace hb2 := Rw.next hb2 hb3
            clear hb3
            refine ⟨_, rfl, ⟨q0, kA2⟩, fun hHeld => ?_⟩
            simp only [Act.put, List.setIfInBounds_toArray, List.set_cons_zero, List.set_cons_succ]
            refine take (i := 5) (d := some 30) (v := .bool false) rfl (by kernel_rfl) (by kernel_rfl) (by kernel_rfl) (by kernel_rfl) (fun _ _ _ h => h) (Or.inl ⟨by rfl, by intro w hSw; go_simp⟩) hHeld ?_
            simp only [Act.put, List.setIfInBounds_toArray, List.set_cons_zero, List.set_cons_succ]
            refine take (i := 6) (d := some 31) (v := .bool false) rfl (by kernel_rfl) (by kernel_rfl) (by kernel_rfl) (by kernel_rfl) (fun _ _ _ h => h) (Or.inl ⟨by rfl, by intro w hSw; go_simp⟩) hHeld ?_
            simp only [Act.put, List.setIfInBounds_toArray, List.set_cons_zero, List.set_cons_succ]
            refine take (i := 7) (d := some 32) (v := .slice (some ⟨w.heap.size, 0, none⟩) n n) rfl (by kernel_rfl) (by kernel_rfl) (by kernel_rfl) (by kernel_rfl) (fun _ _ _ h => h) (Or.inl ⟨by rfl, by intro w hSw; go_simp⟩) hHeld ?_
            simp only [Act.put, List.setIfInBounds_toArray, List.set_cons_zero, List.set_cons_succ]
            refine take (i := 8) (d := some 33) (v := .int .i64 k) rfl (by kernel_rfl) (by kernel_rfl) (by kernel_rfl) (by kernel_rfl) (fun _ _ _ h => h) (Or.inl ⟨by rfl, by intro w hSw; go_simp⟩) hHeld ?_
            simp only [Act.put, List.setIfInBounds_toArray, List.set_cons_zero, List.set_cons_succ]
            refine take (i := 9) (d := some 34) (v := .pointer (some ⟨w.heap.size, k, none⟩)) rfl (by kernel_rfl) (by kernel_rfl) (by kernel_rfl) (by kernel_rfl) (fun _ _ _ h => h) (Or.inl ⟨by rfl, by intro w hSw; go_simp⟩) hHeld ?_
            simp only [Act.put, List.setIfInBounds_toArray, List.set_cons_zero, List.set_cons_succ]
            refine take (i := 10) (d := some 35) (v := .iface 164 (.agg #[.int .i64 x1])) rfl (by kernel_rfl) (by kernel_rfl) (by kernel_rfl) (by kernel_rfl) (fun _ _ _ h => h) (Or.inl ⟨by rfl, by intro w hSw; have q1 := hSw.1; go_simp⟩) hHeld ?_
            simp only [Act.put, List.setIfInBounds_toArray, List.set_cons_zero, List.set_cons_succ]
            refine take (i := 12) (d := some 37) (v := .agg #[.int .i64 1, .int .i64 x1, .int .i64 x2]) rfl (by kernel_rfl) (by kernel_rfl) (by kernel_rfl) (by kernel_rfl) (fun _ _ _ h => h) (Or.inl ⟨by rfl, by intro w hSw; have q2 := hSw.2; have d0 := three0 q2; have d1 := three1 q2; have d2 := three2 q2; go_simp⟩) hHeld ?_
            simp only [Act.put, List.setIfInBounds_toArray, List.set_cons_zero, List.set_cons_succ]
            refine wpAnyH_ready (rs := [11]) (by kernel_rfl) (by simp) (Yf.callI rfl (by kernel_rfl) 176 (.tmp 35) rfl 36 (by kernel_rfl) (.iface 164 (.agg #[.int .i64 x1])) (.agg #[.int .i64 x1]) (by kernel_rfl) (fun w => by kernel_rfl) (act1 x1 _) ?_ AllReadyH.nil)
            rintro e w4 ⟨rfl, hb4⟩
            replace q0 := (hb4.cell (World.block_lt_of_cell? _ _ q0)).trans q0
            replace kA2 := (hb4.block _ (Array.getElem?_eq_some_iff.1 kA2).1).trans kA2
            replace hrow2 := hrow2.of_block (hb4.block _ hrow2.lt)
            replace hb2 := Rw.next hb2 hb4
            clear hb4
            refine ⟨_, rfl, ⟨q0, kA2⟩, fun hHeld => ?_⟩
            simp only [Act.put, List.setIfInBounds_toArray, List.set_cons_zero, List.set_cons_succ]
            refine take (i := 13) (d := some 38) (v := .bool true) rfl (by kernel_rfl) (by kernel_rfl) (by kernel_rfl) (by kernel_rfl) (fun _ _ _ h => h) (Or.inl ⟨by rfl, by intro w hSw; go_simp⟩) hHeld ?_
            simp only [Act.put, List.setIfInBounds_toArray, List.set_cons_zero, List.set_cons_succ]
            refine take (i := 14) (d := some 39) (v := .bool true) rfl (by kernel_rfl) (by kernel_rfl) (by kernel_rfl) (by kernel_rfl) (fun _ _ _ h => h) (Or.inl ⟨by rfl, by intro w hSw; go_simp⟩) hHeld ?_
            simp only [Act.put, List.setIfInBounds_toArray, List.set_cons_zero, List.set_cons_succ]
            refine wpAnyH_done (by kernel_rfl) ?_ _
            go_wp2
            all_goals exact bodyPost_ret (v := .tuple #[.slice none 0 0, .bool false]) (by simp [results, Try.results141, go_sem]) rfl ⟨hb2, fun _ => rfl, fun h => (by rw [hB] at h; cases h)⟩
        · skip
          go_wp2_with (go_at_call 153; rw [← hW0]; refine (kind_any (1, x1, x2) _).mono ?_; rintro e w1 ⟨rfl, hb⟩; rw [show actV (1, x1, x2) = .iface 164 (.agg #[.int .i64 x1]) from rfl]; replace hrow := hrow.of_block (hb.block _ hlw); replace kA := (hb.block _ zA).trans kA; replace hbel := Rw.next hbel hb; have g0 := hrow.cell hlt; have g1 := hrow.frozen k)
          obtain ⟨W2, hW2⟩ : ∃ W2, W2 = w1.setCell ⟨w.heap.size, k, none⟩ (.iface 164 (.agg #[.int .i64 x1])) := ⟨_, rfl⟩
          rw [← hW2]
          have q0 : W2.cell? ⟨w.heap.size, k, none⟩ = some (.iface 164 (.agg #[.int .i64 x1])) := by subst hW2; exact World.cell?_setCell_same _ _ _ g0
          have kA2 : W2.heap[wr.heap.size]? = some (.cells #[.int .i64 1, .int .i64 x1, .int .i64 x2] 147 (0, 0)) := by subst hW2; exact (Below.heap_setCell _ _ _ _ (fun h => hlt2 h.symm)).trans kA
          have hrow2 : W2.rowIs w.heap.size 158 n (row l (k + 1)) := by subst hW2; have := row_step hrow; rw [HX.out] at this; exact this
          have hb2 : Below w.heap.size w W2 := by subst hW2; exact hbel.setCell (by simp) _
          clear hW2 hrow g0 g1 hbel kA
          have hB := actsB_no (l := l) (k := k) (by have := HN.out; omega) (by rw [HX.out]; simp [actB]; omega)
          refine wp_region_held_drew (S := (fun w' => w'.cell? ⟨w.heap.size, k, none⟩ = some (.iface 164 (.agg #[.int .i64 x1])) ∧ w'.heap[wr.heap.size]? = some (.cells #[.int .i64 1, .int .i64 x1, .int .i64 x2] 147 (0, 0)))) (by kernel_rfl) ⟨q0, kA2⟩ (fun hHeld => ?_)
          refine take (i := 0) (d := some 25) (v := .slice (some ⟨w.heap.size, 0, none⟩) n n) rfl (by kernel_rfl) (by kernel_rfl) (by kernel_rfl) (by kernel_rfl) (fun _ _ _ h => h) (Or.inl ⟨by rfl, by intro w hSw; go_simp⟩) hHeld ?_
          simp only [Act.put, List.setIfInBounds_toArray, List.set_cons_zero, List.set_cons_succ]
          refine take (i := 1) (d := some 26) (v := .int .i64 k) rfl (by kernel_rfl) (by kernel_rfl) (by kernel_rfl) (by kernel_rfl) (fun _ _ _ h => h) (Or.inl ⟨by rfl, by intro w hSw; go_simp⟩) hHeld ?_
          simp only [Act.put, List.setIfInBounds_toArray, List.set_cons_zero, List.set_cons_succ]
          refine take (i := 2) (d := some 27) (v := .pointer (some ⟨w.heap.size, k, none⟩)) rfl (by kernel_rfl) (by kernel_rfl) (by kernel_rfl) (by kernel_rfl) (fun _ _ _ h => h) (Or.inl ⟨by rfl, by intro w hSw; go_simp⟩) hHeld ?_
          simp only [Act.put, List.setIfInBounds_toArray, List.set_cons_zero, List.set_cons_succ]
          refine take (i := 3) (d := some 28) (v := .iface 164 (.agg #[.int .i64 x1])) rfl (by kernel_rfl) (by kernel_rfl) (by kernel_rfl) (by kernel_rfl) (fun _ _ _ h => h) (Or.inl ⟨by rfl, by intro w hSw; have q1 := hSw.1; go_simp⟩) hHeld ?_
          simp only [Act.put, List.setIfInBounds_toArray, List.set_cons_zero, List.set_cons_succ]
          refine wpAnyH_ready (rs := [4]) (by kernel_rfl) (by simp) (Rg.call1 rfl (by kernel_rfl) 154 (.tmp 28) 158 (by kernel_rfl) 29 (by kernel_rfl) (.iface 164 (.agg #[.int .i64 x1])) (by kernel_rfl) (fun _ => rfl) (Yf.right1n hr _) ?_ AllReadyH.nil)
          rintro e w3 ⟨rfl, hb3⟩
          replace hb3 := Rw.next (Below.drew (Below.refl _ W2)) hb3
          replace q0 := (hb3.cell (World.block_lt_of_cell? _ _ q0)).trans q0
          replace kA2 := (hb3.block _ (Array.getElem?_eq_some_iff.1 kA2).1).trans kA2
          replace hrow2 := hrow2.of_block (hb3.block _ hrow2.lt)
          replace hb2 := Rw.next hb2 hb3
          clear hb3
          refine ⟨_, rfl, ⟨q0, kA2⟩, fun hHeld => ?_⟩
          simp only [Act.put, List.setIfInBounds_toArray, List.set_cons_zero, List.set_cons_succ]
          refine take (i := 5) (d := some 30) (v := .bool true) rfl (by kernel_rfl) (by kernel_rfl) (by kernel_rfl) (by kernel_rfl) (fun _ _ _ h => h) (Or.inl ⟨by rfl, by intro w hSw; go_simp⟩) hHeld ?_
          simp only [Act.put, List.setIfInBounds_toArray, List.set_cons_zero, List.set_cons_succ]
          refine take (i := 6) (d := some 31) (v := .bool true) rfl (by kernel_rfl) (by kernel_rfl) (by kernel_rfl) (by kernel_rfl) (fun _ _ _ h => h) (Or.inl ⟨by rfl, by intro w hSw; go_simp⟩) hHeld ?_
          simp only [Act.put, List.setIfInBounds_toArray, List.set_cons_zero, List.set_cons_succ]
          refine take (i := 7) (d := some 32) (v := undef) rfl (by kernel_rfl) (by kernel_rfl) (by kernel_rfl) (by kernel_rfl) (fun _ _ _ h => h) (Or.inr ⟨by rfl, rfl⟩) hHeld ?_
          simp only [Act.put, List.setIfInBounds_toArray, List.set_cons_zero, List.set_cons_succ]
          refine take (i := 8) (d := some 33) (v := undef) rfl (by kernel_rfl) (by kernel_rfl) (by kernel_rfl) (by kernel_rfl) (fun _ _ _ h => h) (Or.inr ⟨by rfl, rfl⟩) hHeld ?_
          simp only [Act.put, List.setIfInBounds_toArray, List.set_cons_zero, List.set_cons_succ]
          refine take (i := 9) (d := some 34) (v := undef) rfl (by kernel_rfl) (by kernel_rfl) (by kernel_rfl) (by kernel_rfl) (fun _ _ _ h => h) (Or.inr ⟨by rfl, rfl⟩) hHeld ?_
          simp only [Act.put, List.setIfInBounds_toArray, List.set_cons_zero, List.set_cons_succ]
          refine take (i := 10) (d := some 35) (v := undef) rfl (by kernel_rfl) (by kernel_rfl) (by kernel_rfl) (by kernel_rfl) (fun _ _ _ h => h) (Or.inr ⟨by rfl, rfl⟩) hHeld ?_
          simp only [Act.put, List.setIfInBounds_toArray, List.set_cons_zero, List.set_cons_succ]
          refine take (i := 11) (d := some 36) (v := undef) rfl (by kernel_rfl) (by kernel_rfl) (by kernel_rfl) (by kernel_rfl) (fun _ _ _ h => h) (Or.inr ⟨by rfl, rfl⟩) hHeld ?_
          simp only [Act.put, List.setIfInBounds_toArray, List.set_cons_zero, List.set_cons_succ]
          refine take (i := 12) (d := some 37) (v := undef) rfl (by kernel_rfl) (by kernel_rfl) (by kernel_rfl) (by kernel_rfl) (fun _ _ _ h => h) (Or.inr ⟨by rfl, rfl⟩) hHeld ?_
          simp only [Act.put, List.setIfInBounds_toArray, List.set_cons_zero, List.set_cons_succ]
          refine take (i := 13) (d := some 38) (v := undef) rfl (by kernel_rfl) (by kernel_rfl) (by kernel_rfl) (by kernel_rfl) (fun _ _ _ h => h) (Or.inr ⟨by rfl, rfl⟩) hHeld ?_
          simp only [Act.put, List.setIfInBounds_toArray, List.set_cons_zero, List.set_cons_succ]
          refine take (i := 14) (d := some 39) (v := .bool true) rfl (by kernel_rfl) (by kernel_rfl) (by kernel_rfl) (by kernel_rfl) (fun _ _ _ h => h) (Or.inl ⟨by rfl, by intro w hSw; go_simp⟩) hHeld ?_
          simp only [Act.put, List.setIfInBounds_toArray, List.set_cons_zero, List.set_cons_succ]
          refine wpAnyH_done (by kernel_rfl) ?_ _
          go_wp2
          all_goals exact bodyPost_ret (v := .tuple #[.slice none 0 0, .bool false]) (by simp [results, Try.results141, go_sem]) rfl ⟨hb2, fun _ => rfl, fun h => (by rw [hB] at h; cases h)⟩
      by_cases k2 : x0 = 2
      · subst k2
        by_cases h0 : x1 = 0
        · subst h0
          by_cases h1 : x2 = 0
          · subst h1
            go_wp2_with (go_at_call 153; rw [← hW0]; refine (kind_any (2, 0, 0) _).mono ?_; rintro e w1 ⟨rfl, hb⟩; rw [show actV (2, 0, 0) = .iface 166 (.agg #[]) from rfl]; replace hrow := hrow.of_block (hb.block _ hlw); replace kA := (hb.block _ zA).trans kA; replace hbel := Rw.next hbel hb; have g0 := hrow.cell hlt; have g1 := hrow.frozen k)
            obtain ⟨W2, hW2⟩ : ∃ W2, W2 = w1.setCell ⟨w.heap.size, k, none⟩ (.iface 166 (.agg #[])) := ⟨_, rfl⟩
            rw [← hW2]
            have q0 : W2.cell? ⟨w.heap.size, k, none⟩ = some (.iface 166 (.agg #[])) := by subst hW2; exact World.cell?_setCell_same _ _ _ g0
            have kA2 : W2.heap[wr.heap.size]? = some (.cells #[.int .i64 2, .int .i64 0, .int .i64 0] 147 (0, 0)) := by subst hW2; exact (Below.heap_setCell _ _ _ _ (fun h => hlt2 h.symm)).trans kA
            have hrow2 : W2.rowIs w.heap.size 158 n (row l (k + 1)) := by subst hW2; have := row_step hrow; rw [HX.out] at this; exact this
            have hb2 : Below w.heap.size w W2 := by subst hW2; exact hbel.setCell (by simp) _
            clear hW2 hrow g0 g1 hbel kA
            have hB := pre_step HP.out (by rw [HX.out]; simp [actB])
            refine wp_region_held_drew (S := (fun w' => w'.cell? ⟨w.heap.size, k, none⟩ = some (.iface 166 (.agg #[])) ∧ w'.heap[wr.heap.size]? = some (.cells #[.int .i64 2, .int .i64 0, .int .i64 0] 147 (0, 0)))) (by kernel_rfl) ⟨q0, kA2⟩ (fun hHeld => ?_)
            refine take (i := 0) (d := some 25) (v := .slice (some ⟨w.heap.size, 0, none⟩) n n) rfl (by kernel_rfl) (by kernel_rfl) (by kernel_rfl) (by kernel_rfl) (fun _ _ _ h => h) (Or.inl ⟨by rfl, by intro w hSw; go_simp⟩) hHeld ?_
            simp only [Act.put, List.setIfInBounds_toArray, List.set_cons_zero, List.set_cons_succ]
            refine take (i := 1) (d := some 26) (v := .int .i64 k) rfl (by kernel_rfl) (by kernel_rfl) (by kernel_rfl) (by kernel_rfl) (fun _ _ _ h => h) (Or.inl ⟨by rfl, by intro w hSw; go_simp⟩) hHeld ?_
            simp only [Act.put, List.setIfInBounds_toArray, List.set_cons_zero, List.set_cons_succ]
            refine take (i := 2) (d := some 27) (v := .pointer (some ⟨w.heap.size, k, none⟩)) rfl (by kernel_rfl) (by kernel_rfl) (by kernel_rfl) (by kernel_rfl) (fun _ _ _ h => h) (Or.inl ⟨by rfl, by intro w hSw; go_simp⟩) hHeld ?_
            simp only [Act.put, List.setIfInBounds_toArray, List.set_cons_zero, List.set_cons_succ]
            refine take (i := 3) (d := some 28) (v := .iface 166 (.agg #[])) rfl (by kernel_rfl) (by kernel_rfl) (by kernel_rfl) (by kernel_rfl) (fun _ _ _ h => h) (Or.inl ⟨by rfl, by intro w hSw; have q1 := hSw.1; go_simp⟩) hHeld ?_
            simp only [Act.put, List.setIfInBounds_toArray, List.set_cons_zero, List.set_cons_succ]
            refine wpAnyH_ready (rs := [4]) (by kernel_rfl) (by simp) (Rg.call1 rfl (by kernel_rfl) 154 (.tmp 28) 158 (by kernel_rfl) 29 (by kernel_rfl) (.iface 166 (.agg #[])) (by kernel_rfl) (fun _ => rfl) (right2 _) ?_ AllReadyH.nil)
            rintro e w3 ⟨rfl, hb3⟩
            replace hb3 := Rw.next (Below.drew (Below.refl _ W2)) hb3
            replace q0 := (hb3.cell (World.block_lt_of_cell? _ _ q0)).trans q0
            replace kA2 := (hb3.block _ (Array.getElem?_eq_some_iff.1 kA2).1).trans kA2
            replace hrow2 := hrow2.of_block (hb3.block _ hrow2.lt)
            replace hb2 := Rw.next hb2 hb3
            clear hb3
            refine ⟨_, rfl, ⟨q0, kA2⟩, fun hHeld => ?_⟩
            simp only [Act.put, List.setIfInBounds_toArray, List.set_cons_zero, List.set_cons_succ]
            refine take (i := 5) (d := some 30) (v := .bool false) rfl (by kernel_rfl) (by kernel_rfl) (by kernel_rfl) (by kernel_rfl) (fun _ _ _ h => h) (Or.inl ⟨by rfl, by intro w hSw; go_simp⟩) hHeld ?_
            simp only [Act.put, List.setIfInBounds_toArray, List.set_cons_zero, List.set_cons_succ]
            refine take (i := 6) (d := some 31) (v := .bool false) rfl (by kernel_rfl) (by kernel_rfl) (by kernel_rfl) (by kernel_rfl) (fun _ _ _ h => h) (Or.inl ⟨by rfl, by intro w hSw; go_simp⟩) hHeld ?_
            simp only [Act.put, List.setIfInBounds_toArray, List.set_cons_zero, List.set_cons_succ]
            refine take (i := 7) (d := some 32) (v := .slice (some ⟨w.heap.size, 0, none⟩) n n) rfl (by kernel_rfl) (by kernel_rfl) (by kernel_rfl) (by kernel_rfl) (fun _ _ _ h => h) (Or.inl ⟨by rfl, by intro w hSw; go_simp⟩) hHeld ?_
            simp only [Act.put, List.setIfInBounds_toArray, List.set_cons_zero, List.set_cons_succ]
            refine take (i := 8) (d := some 33) (v := .int .i64 k) rfl (by kernel_rfl) (by kernel_rfl) (by kernel_rfl) (by kernel_rfl) (fun _ _ _ h => h) (Or.inl ⟨by rfl, by intro w hSw; go_simp⟩) hHeld ?_
            simp only [Act.put, List.setIfInBounds_toArray, List.set_cons_zero, List.set_cons_succ]
            refine take (i := 9) (d := some 34) (v := .pointer (some ⟨w.heap.size, k, none⟩)) rfl (by kernel_rfl) (by kernel_rfl) (by kernel_rfl) (by kernel_rfl) (fun _ _ _ h => h) (Or.inl ⟨by rfl, by intro w hSw; go_simp⟩) hHeld ?_
            simp only [Act.put, List.setIfInBounds_toArray, List.set_cons_zero, List.set_cons_succ]
            refine take (i := 10) (d := some 35) (v := .iface 166 (.agg #[])) rfl (by kernel_rfl) (by kernel_rfl) (by kernel_rfl) (by kernel_rfl) (fun _ _ _ h => h) (Or.inl ⟨by rfl, by intro w hSw; have q1 := hSw.1; go_simp⟩) hHeld ?_
            simp only [Act.put, List.setIfInBounds_toArray, List.set_cons_zero, List.set_cons_succ]
            refine take (i := 12) (d := some 37) (v := .agg #[.int .i64 2, .int .i64 0, .int .i64 0]) rfl (by kernel_rfl) (by kernel_rfl) (by kernel_rfl) (by kernel_rfl) (fun _ _ _ h => h) (Or.inl ⟨by rfl, by intro w hSw; have q2 := hSw.2; have d0 := three0 q2; have d1 := three1 q2; have d2 := three2 q2; go_simp⟩) hHeld ?_
            simp only [Act.put, List.setIfInBounds_toArray, List.set_cons_zero, List.set_cons_succ]
            refine wpAnyH_ready (rs := [11]) (by kernel_rfl) (by simp) (Yf.callI rfl (by kernel_rfl) 177 (.tmp 35) rfl 36 (by kernel_rfl) (.iface 166 (.agg #[])) (.agg #[]) (by kernel_rfl) (fun w => by kernel_rfl) (act2 _) ?_ AllReadyH.nil)
            rintro e w4 ⟨rfl, hb4⟩
            replace q0 := (hb4.cell (World.block_lt_of_cell? _ _ q0)).trans q0
            replace kA2 := (hb4.block _ (Array.getElem?_eq_some_iff.1 kA2).1).trans kA2
            replace hrow2 := hrow2.of_block (hb4.block _ hrow2.lt)
            replace hb2 := Rw.next hb2 hb4
            clear hb4
            refine ⟨_, rfl, ⟨q0, kA2⟩, fun hHeld => ?_⟩
            simp only [Act.put, List.setIfInBounds_toArray, List.set_cons_zero, List.set_cons_succ]
            refine take (i := 13) (d := some 38) (v := .bool false) rfl (by kernel_rfl) (by kernel_rfl) (by kernel_rfl) (by kernel_rfl) (fun _ _ _ h => h) (Or.inl ⟨by rfl, by intro w hSw; go_simp⟩) hHeld ?_
            simp only [Act.put, List.setIfInBounds_toArray, List.set_cons_zero, List.set_cons_succ]
            refine take (i := 14) (d := some 39) (v := .bool false) rfl (by kernel_rfl) (by kernel_rfl) (by kernel_rfl) (by kernel_rfl) (fun _ _ _ h => h) (Or.inl ⟨by rfl, by intro w hSw; go_simp⟩) hHeld ?_
            simp only [Act.put, List.setIfInBounds_toArray, List.set_cons_zero, List.set_cons_succ]
            refine wpAnyH_done (by kernel_rfl) ?_ _
            go_wp2
            all_goals go_roundw
            all_goals first | exact ⟨k + 1, by omega, by go_num, hb2, hrow2, hB⟩ | (simp [intOf]; omega)
          · have hne : (0 == x2) = false := by simpa using fun h : 0 = x2 => h1 h.symm
            go_wp2_with (go_at_call 153; rw [← hW0]; refine (kind_any (2, 0, x2) _).mono ?_; rintro e w1 ⟨rfl, hb⟩; rw [show actV (2, 0, x2) = .iface 166 (.agg #[]) from rfl]; replace hrow := hrow.of_block (hb.block _ hlw); replace kA := (hb.block _ zA).trans kA; replace hbel := Rw.next hbel hb; have g0 := hrow.cell hlt; have g1 := hrow.frozen k)
            obtain ⟨W2, hW2⟩ : ∃ W2, W2 = w1.setCell ⟨w.heap.size, k, none⟩ (.iface 166 (.agg #[])) := ⟨_, rfl⟩
            rw [← hW2]
            have q0 : W2.cell? ⟨w.heap.size, k, none⟩ = some (.iface 166 (.agg #[])) := by subst hW2; exact World.cell?_setCell_same _ _ _ g0
            have kA2 : W2.heap[wr.heap.size]? = some (.cells #[.int .i64 2, .int .i64 0, .int .i64 x2] 147 (0, 0)) := by subst hW2; exact (Below.heap_setCell _ _ _ _ (fun h => hlt2 h.symm)).trans kA
            have hrow2 : W2.rowIs w.heap.size 158 n (row l (k + 1)) := by subst hW2; have := row_step hrow; rw [HX.out] at this; exact this
            have hb2 : Below w.heap.size w W2 := by subst hW2; exact hbel.setCell (by simp) _
            clear hW2 hrow g0 g1 hbel kA
            have hB := actsB_no (l := l) (k := k) (by have := HN.out; omega) (by rw [HX.out]; simp [actB, h1])
            refine wp_region_held_drew (S := (fun w' => w'.cell? ⟨w.heap.size, k, none⟩ = some (.iface 166 (.agg #[])) ∧ w'.heap[wr.heap.size]? = some (.cells #[.int .i64 2, .int .i64 0, .int .i64 x2] 147 (0, 0)))) (by kernel_rfl) ⟨q0, kA2⟩ (fun hHeld => ?_)
            refine take (i := 0) (d := some 25) (v := .slice (some ⟨w.heap.size, 0, none⟩) n n) rfl (by kernel_rfl) (by kernel_rfl) (by kernel_rfl) (by kernel_rfl) (fun _ _ _ h => h) (Or.inl ⟨by rfl, by intro w hSw; go_simp⟩) hHeld ?_
            simp only [Act.put, List.setIfInBounds_toArray, List.set_cons_zero, List.set_cons_succ]
            refine take (i := 1) (d := some 26) (v := .int .i64 k) rfl (by kernel_rfl) (by kernel_rfl) (by kernel_rfl) (by kernel_rfl) (fun _ _ _ h => h) (Or.inl ⟨by rfl, by intro w hSw; go_simp⟩) hHeld ?_
            simp only [Act.put, List.setIfInBounds_toArray, List.set_cons_zero, List.set_cons_succ]
            refine take (i := 2) (d := some 27) (v := .pointer (some ⟨w.heap.size, k, none⟩)) rfl (by kernel_rfl) (by kernel_rfl) (by kernel_rfl) (by kernel_rfl) (fun _ _ _ h => h) (Or.inl ⟨by rfl, by intro w hSw; go_simp⟩) hHeld ?_
            simp only [Act.put, List.setIfInBounds_toArray, List.set_cons_zero, List.set_cons_succ]
            refine take (i := 3) (d := some 28) (v := .iface 166 (.agg #[])) rfl (by kernel_rfl) (by kernel_rfl) (by kernel_rfl) (by kernel_rfl) (fun _ _ _ h => h) (Or.inl ⟨by rfl, by intro w hSw; have q1 := hSw.1; go_simp⟩) hHeld ?_
            simp only [Act.put, List.setIfInBounds_toArray, List.set_cons_zero, List.set_cons_succ]
            refine wpAnyH_ready (rs := [4]) (by kernel_rfl) (by simp) (Rg.call1 rfl (by kernel_rfl) 154 (.tmp 28) 158 (by kernel_rfl) 29 (by kernel_rfl) (.iface 166 (.agg #[])) (by kernel_rfl) (fun _ => rfl) (right2 _) ?_ AllReadyH.nil)
            rintro e w3 ⟨rfl, hb3⟩
            replace hb3 := Rw.next (Below.drew (Below.refl _ W2)) hb3
            replace q0 := (hb3.cell (World.block_lt_of_cell? _ _ q0)).trans q0
            replace kA2 := (hb3.block _ (Array.getElem?_eq_some_iff.1 kA2).1).trans kA2
            replace hrow2 := hrow2.of_block (hb3.block _ hrow2.lt)
            replace hb2 := Rw.next hb2 hb3
            clear hb3
            refine ⟨_, rfl, ⟨q0, kA2⟩, fun hHeld => ?_⟩
            simp only [Act.put, List.setIfInBounds_toArray, List.set_cons_zero, List.set_cons_succ]
            refine take (i := 5) (d := some 30) (v := .bool false) rfl (by kernel_rfl) (by kernel_rfl) (by kernel_rfl) (by kernel_rfl) (fun _ _ _ h => h) (Or.inl ⟨by rfl, by intro w hSw; go_simp⟩) hHeld ?_
            simp only [Act.put, List.setIfInBounds_toArray, List.set_cons_zero, List.set_cons_succ]
            refine take (i := 6) (d := some 31) (v := .bool false) rfl (by kernel_rfl) (by kernel_rfl) (by kernel_rfl) (by kernel_rfl) (fun _ _ _ h => h) (Or.inl ⟨by rfl, by intro w hSw; go_simp⟩) hHeld ?_
            simp only [Act.put, List.setIfInBounds_toArray, List.set_cons_zero, List.set_cons_succ]
            refine take (i := 7) (d := some 32) (v := .slice (some ⟨w.heap.size, 0, none⟩) n n) rfl (by kernel_rfl) (by kernel_rfl) (by kernel_rfl) (by kernel_rfl) (fun _ _ _ h => h) (Or.inl ⟨by rfl, by intro w hSw; go_simp⟩) hHeld ?_
            simp only [Act.put, List.setIfInBounds_toArray, List.set_cons_zero, List.set_cons_succ]
            refine take (i := 8) (d := some 33) (v := .int .i64 k) rfl (by kernel_rfl) (by kernel_rfl) (by kernel_rfl) (by kernel_rfl) (fun _ _ _ h => h) (Or.inl ⟨by rfl, by intro w hSw; go_simp⟩) hHeld ?_
            simp only [Act.put, List.setIfInBounds_toArray, List.set_cons_zero, List.set_cons_succ]
            refine take (i := 9) (d := some 34) (v := .pointer (some ⟨w.heap.size, k, none⟩)) rfl (by kernel_rfl) (by kernel_rfl) (by kernel_rfl) (by kernel_rfl) (fun _ _ _ h => h) (Or.inl ⟨by rfl, by intro w hSw; go_simp⟩) hHeld ?_
            simp only [Act.put, List.setIfInBounds_toArray, List.set_cons_zero, List.set_cons_succ]
            refine take (i := 10) (d := some 35) (v := .iface 166 (.agg #[])) rfl (by kernel_rfl) (by kernel_rfl) (by kernel_rfl) (by kernel_rfl) (fun _ _ _ h => h) (Or.inl ⟨by rfl, by intro w hSw; have q1 := hSw.1; go_simp⟩) hHeld ?_
            simp only [Act.put, List.setIfInBounds_toArray, List.set_cons_zero, List.set_cons_succ]
            refine take (i := 12) (d := some 37) (v := .agg #[.int .i64 2, .int .i64 0, .int .i64 x2]) rfl (by kernel_rfl) (by kernel_rfl) (by kernel_rfl) (by kernel_rfl) (fun _ _ _ h => h) (Or.inl ⟨by rfl, by intro w hSw; have q2 := hSw.2; have d0 := three0 q2; have d1 := three1 q2; have d2 := three2 q2; go_simp⟩) hHeld ?_
            simp only [Act.put, List.setIfInBounds_toArray, List.set_cons_zero, List.set_cons_succ]
            refine wpAnyH_ready (rs := [11]) (by kernel_rfl) (by simp) (Yf.callI rfl (by kernel_rfl) 177 (.tmp 35) rfl 36 (by kernel_rfl) (.iface 166 (.agg #[])) (.agg #[]) (by kernel_rfl) (fun w => by kernel_rfl) (act2 _) ?_ AllReadyH.nil)
            rintro e w4 ⟨rfl, hb4⟩
            replace q0 := (hb4.cell (World.block_lt_of_cell? _ _ q0)).trans q0
            replace kA2 := (hb4.block _ (Array.getElem?_eq_some_iff.1 kA2).1).trans kA2
            replace hrow2 := hrow2.of_block (hb4.block _ hrow2.lt)
            replace hb2 := Rw.next hb2 hb4
            clear hb4
            refine ⟨_, rfl, ⟨q0, kA2⟩, fun hHeld => ?_⟩
            simp only [Act.put, List.setIfInBounds_toArray, List.set_cons_zero, List.set_cons_succ]
            refine take (i := 13) (d := some 38) (v := .bool true) rfl (by kernel_rfl) (by kernel_rfl) (by kernel_rfl) (by kernel_rfl) (fun _ _ _ h => h) (Or.inl ⟨by rfl, by intro w hSw; go_simp⟩) hHeld ?_
            simp only [Act.put, List.setIfInBounds_toArray, List.set_cons_zero, List.set_cons_succ]
            refine take (i := 14) (d := some 39) (v := .bool true) rfl (by kernel_rfl) (by kernel_rfl) (by kernel_rfl) (by kernel_rfl) (fun _ _ _ h => h) (Or.inl ⟨by rfl, by intro w hSw; go_simp⟩) hHeld ?_
            simp only [Act.put, List.setIfInBounds_toArray, List.set_cons_zero, List.set_cons_succ]
            refine wpAnyH_done (by kernel_rfl) ?_ _
            go_wp2
            all_goals exact bodyPost_ret (v := .tuple #[.slice none 0 0, .bool false]) (by simp [results, Try.results141, go_sem]) rfl ⟨hb2, fun _ => rfl, fun h => (by rw [hB] at h; cases h)⟩
        · have hne : (0 == x1) = false := by simpa using fun h : 0 = x1 => h0 h.symm
          go_wp2_with (go_at_call 153; rw [← hW0]; refine (kind_any (2, x1, x2) _).mono ?_; rintro e w1 ⟨rfl, hb⟩; rw [show actV (2, x1, x2) = .iface 166 (.agg #[]) from rfl]; replace hrow := hrow.of_block (hb.block _ hlw); replace kA := (hb.block _ zA).trans kA; replace hbel := Rw.next hbel hb; have g0 := hrow.cell hlt; have g1 := hrow.frozen k)
          obtain ⟨W2, hW2⟩ : ∃ W2, W2 = w1.setCell ⟨w.heap.size, k, none⟩ (.iface 166 (.agg #[])) := ⟨_, rfl⟩
          rw [← hW2]
          have q0 : W2.cell? ⟨w.heap.size, k, none⟩ = some (.iface 166 (.agg #[])) := by subst hW2; exact World.cell?_setCell_same _ _ _ g0
          have kA2 : W2.heap[wr.heap.size]? = some (.cells #[.int .i64 2, .int .i64 x1, .int .i64 x2] 147 (0, 0)) := by subst hW2; exact (Below.heap_setCell _ _ _ _ (fun h => hlt2 h.symm)).trans kA
          have hrow2 : W2.rowIs w.heap.size 158 n (row l (k + 1)) := by subst hW2; have := row_step hrow; rw [HX.out] at this; exact this
          have hb2 : Below w.heap.size w W2 := by subst hW2; exact hbel.setCell (by simp) _
          clear hW2 hrow g0 g1 hbel kA
          have hB := actsB_no (l := l) (k := k) (by have := HN.out; omega) (by rw [HX.out]; simp [actB, h0])
          refine wp_region_held_drew (S := (fun w' => w'.cell? ⟨w.heap.size, k, none⟩ = some (.iface 166 (.agg #[])) ∧ w'.heap[wr.heap.size]? = some (.cells #[.int .i64 2, .int .i64 x1, .int .i64 x2] 147 (0, 0)))) (by kernel_rfl) ⟨q0, kA2⟩ (fun hHeld => ?_)
          refine take (i := 0) (d := some 25) (v := .slice (some ⟨w.heap.size, 0, none⟩) n n) rfl (by kernel_rfl) (by kernel_rfl) (by kernel_rfl) (by kernel_rfl) (fun _ _ _ h => h) (Or.inl ⟨by rfl, by intro w hSw; go_simp⟩) hHeld ?_
          simp only [Act.put, List.setIfInBounds_toArray, List.set_cons_zero, List.set_cons_succ]
          refine take (i := 1) (d := some 26) (v := .int .i64 k) rfl (by kernel_rfl) (by kernel_rfl) (by kernel_rfl) (by kernel_rfl) (fun _ _ _ h => h) (Or.inl ⟨by rfl, by intro w hSw; go_simp⟩) hHeld ?_
          simp only [Act.put, List.setIfInBounds_toArray, List.set_cons_zero, List.set_cons_succ]
          refine take (i := 2) (d := some 27) (v := .pointer (some ⟨w.heap.size, k, none⟩)) rfl (by kernel_rfl) (by kernel_rfl) (by kernel_rfl) (by kernel_rfl) (fun _ _ _ h => h) (Or.inl ⟨by rfl, by intro w hSw; go_simp⟩) hHeld ?_
          simp only [Act.put, List.setIfInBounds_toArray, List.set_cons_zero, List.set_cons_succ]
          refine take (i := 3) (d := some 28) (v := .iface 166 (.agg #[])) rfl (by kernel_rfl) (by kernel_rfl) (by kernel_rfl) (by kernel_rfl) (fun _ _ _ h => h) (Or.inl ⟨by rfl, by intro w hSw; have q1 := hSw.1; go_simp⟩) hHeld ?_
          simp only [Act.put, List.setIfInBounds_toArray, List.set_cons_zero, List.set_cons_succ]
          refine wpAnyH_ready (rs := [4]) (by kernel_rfl) (by simp) (Rg.call1 rfl (by kernel_rfl) 154 (.tmp 28) 158 (by kernel_rfl) 29 (by kernel_rfl) (.iface 166 (.agg #[])) (by kernel_rfl) (fun _ => rfl) (right2 _) ?_ AllReadyH.nil)
          rintro e w3 ⟨rfl, hb3⟩
          replace hb3 := Rw.next (Below.drew (Below.refl _ W2)) hb3
          replace q0 := (hb3.cell (World.block_lt_of_cell? _ _ q0)).trans q0
          replace kA2 := (hb3.block _ (Array.getElem?_eq_some_iff.1 kA2).1).trans kA2
          replace hrow2 := hrow2.of_block (hb3.block _ hrow2.lt)
          replace hb2 := Rw.next hb2 hb3
          clear hb3
          refine ⟨_, rfl, ⟨q0, kA2⟩, fun hHeld => ?_⟩
          simp only [Act.put, List.setIfInBounds_toArray, List.set_cons_zero, List.set_cons_succ]
          refine take (i := 5) (d := some 30) (v := .bool false) rfl (by kernel_rfl) (by kernel_rfl) (by kernel_rfl) (by kernel_rfl) (fun _ _ _ h => h) (Or.inl ⟨by rfl, by intro w hSw; go_simp⟩) hHeld ?_
          simp only [Act.put, List.setIfInBounds_toArray, List.set_cons_zero, List.set_cons_succ]
          refine take (i := 6) (d := some 31) (v := .bool false) rfl (by kernel_rfl) (by kernel_rfl) (by kernel_rfl) (by kernel_rfl) (fun _ _ _ h => h) (Or.inl ⟨by rfl, by intro w hSw; go_simp⟩) hHeld ?_
          simp only [Act.put, List.setIfInBounds_toArray, List.set_cons_zero, List.set_cons_succ]
          refine take (i := 7) (d := some 32) (v := .slice (some ⟨w.heap.size, 0, none⟩) n n) rfl (by kernel_rfl) (by kernel_rfl) (by kernel_rfl) (by kernel_rfl) (fun _ _ _ h => h) (Or.inl ⟨by rfl, by intro w hSw; go_simp⟩) hHeld ?_
          simp only [Act.put, List.setIfInBounds_toArray, List.set_cons_zero, List.set_cons_succ]
          refine take (i := 8) (d := some 33) (v := .int .i64 k) rfl (by kernel_rfl) (by kernel_rfl) (by kernel_rfl) (by kernel_rfl) (fun _ _ _ h => h) (Or.inl ⟨by rfl, by intro w hSw; go_simp⟩) hHeld ?_
          simp only [Act.put, List.setIfInBounds_toArray, List.set_cons_zero, List.set_cons_succ]
          refine take (i := 9) (d := some 34) (v := .pointer (some ⟨w.heap.size, k, none⟩)) rfl (by kernel_rfl) (by kernel_rfl) (by kernel_rfl) (by kernel_rfl) (fun _ _ _ h => h) (Or.inl ⟨by rfl, by intro w hSw; go_simp⟩) hHeld ?_
          simp only [Act.put, List.setIfInBounds_toArray, List.set_cons_zero, List.set_cons_succ]
          refine take (i := 10) (d := some 35) (v := .iface 166 (.agg #[])) rfl (by kernel_rfl) (by kernel_rfl) (by kernel_rfl) (by kernel_rfl) (fun _ _ _ h => h) (Or.inl ⟨by rfl, by intro w hSw; have q1 := hSw.1; go_simp⟩) hHeld ?_
          simp only [Act.put, List.setIfInBounds_toArray, List.set_cons_zero, List.set_cons_succ]
          refine take (i := 12) (d := some 37) (v := .agg #[.int .i64 2, .int .i64 x1, .int .i64 x2]) rfl (by kernel_rfl) (by kernel_rfl) (by kernel_rfl) (by kernel_rfl) (fun _ _ _ h => h) (Or.inl ⟨by rfl, by intro w hSw; have q2 := hSw.2; have d0 := three0 q2; have d1 := three1 q2; have d2 := three2 q2; go_simp⟩) hHeld ?_
          simp only [Act.put, List.setIfInBounds_toArray, List.set_cons_zero, List.set_cons_succ]
          refine wpAnyH_ready (rs := [11]) (by kernel_rfl) (by simp) (Yf.callI rfl (by kernel_rfl) 177 (.tmp 35) rfl 36 (by kernel_rfl) (.iface 166 (.agg #[])) (.agg #[]) (by kernel_rfl) (fun w => by kernel_rfl) (act2 _) ?_ AllReadyH.nil)
          rintro e w4 ⟨rfl, hb4⟩
          replace q0 := (hb4.cell (World.block_lt_of_cell? _ _ q0)).trans q0
          replace kA2 := (hb4.block _ (Array.getElem?_eq_some_iff.1 kA2).1).trans kA2
          replace hrow2 := hrow2.of_block (hb4.block _ hrow2.lt)
          replace hb2 := Rw.next hb2 hb4
          clear hb4
          refine ⟨_, rfl, ⟨q0, kA2⟩, fun hHeld => ?_⟩
          simp only [Act.put, List.setIfInBounds_toArray, List.set_cons_zero, List.set_cons_succ]
          refine take (i := 13) (d := some 38) (v := .bool true) rfl (by kernel_rfl) (by kernel_rfl) (by kernel_rfl) (by kernel_rfl) (fun _ _ _ h => h) (Or.inl ⟨by rfl, by intro w hSw; go_simp⟩) hHeld ?_
          simp only [Act.put, List.setIfInBounds_toArray, List.set_cons_zero, List.set_cons_succ]
          refine take (i := 14) (d := some 39) (v := .bool true) rfl (by kernel_rfl) (by kernel_rfl) (by kernel_rfl) (by kernel_rfl) (fun _ _ _ h => h) (Or.inl ⟨by rfl, by intro w hSw; go_simp⟩) hHeld ?_
          simp only [Act.put, List.setIfInBounds_toArray, List.set_cons_zero, List.set_cons_succ]
          refine wpAnyH_done (by kernel_rfl) ?_ _
          go_wp2
          all_goals exact bodyPost_ret (v := .tuple #[.slice none 0 0, .bool false]) (by simp [results, Try.results141, go_sem]) rfl ⟨hb2, fun _ => rfl, fun h => (by rw [hB] at h; cases h)⟩
      by_cases k4 : x0 = 4
      · subst k4
        by_cases h0 : x1 = 0
        · subst h0
          by_cases h1 : x2 = 0
          · subst h1
            go_wp2_with (go_at_call 153; rw [← hW0]; refine (kind_any (4, 0, 0) _).mono ?_; rintro e w1 ⟨rfl, hb⟩; rw [show actV (4, 0, 0) = .iface 169 (.agg #[]) from rfl]; replace hrow := hrow.of_block (hb.block _ hlw); replace kA := (hb.block _ zA).trans kA; replace hbel := Rw.next hbel hb; have g0 := hrow.cell hlt; have g1 := hrow.frozen k)
            obtain ⟨W2, hW2⟩ : ∃ W2, W2 = w1.setCell ⟨w.heap.size, k, none⟩ (.iface 169 (.agg #[])) := ⟨_, rfl⟩
            rw [← hW2]
            have q0 : W2.cell? ⟨w.heap.size, k, none⟩ = some (.iface 169 (.agg #[])) := by subst hW2; exact World.cell?_setCell_same _ _ _ g0
            have kA2 : W2.heap[wr.heap.size]? = some (.cells #[.int .i64 4, .int .i64 0, .int .i64 0] 147 (0, 0)) := by subst hW2; exact (Below.heap_setCell _ _ _ _ (fun h => hlt2 h.symm)).trans kA
            have hrow2 : W2.rowIs w.heap.size 158 n (row l (k + 1)) := by subst hW2; have := row_step hrow; rw [HX.out] at this; exact this
            have hb2 : Below w.heap.size w W2 := by subst hW2; exact hbel.setCell (by simp) _
            clear hW2 hrow g0 g1 hbel kA
            have hB := pre_step HP.out (by rw [HX.out]; simp [actB])
            refine wp_region_held_drew (S := (fun w' => w'.cell? ⟨w.heap.size, k, none⟩ = some (.iface 169 (.agg #[])) ∧ w'.heap[wr.heap.size]? = some (.cells #[.int .i64 4, .int .i64 0, .int .i64 0] 147 (0, 0)))) (by kernel_rfl) ⟨q0, kA2⟩ (fun hHeld => ?_)
            refine take (i := 0) (d := some 25) (v := .slice (some ⟨w.heap.size, 0, none⟩) n n) rfl (by kernel_rfl) (by kernel_rfl) (by kernel_rfl) (by kernel_rfl) (fun _ _ _ h => h) (Or.inl ⟨by rfl, by intro w hSw; go_simp⟩) hHeld ?_
            simp only [Act.put, List.setIfInBounds_toArray, List.set_cons_zero, List.set_cons_succ]
            refine take (i := 1) (d := some 26) (v := .int .i64 k) rfl (by kernel_rfl) (by kernel_rfl) (by kernel_rfl) (by kernel_rfl) (fun _ _ _ h => h) (Or.inl ⟨by rfl, by intro w hSw; go_simp⟩) hHeld ?_
            simp only [Act.put, List.setIfInBounds_toArray, List.set_cons_zero, List.set_cons_succ]
            refine take (i := 2) (d := some 27) (v := .pointer (some ⟨w.heap.size, k, none⟩)) rfl (by kernel_rfl) (by kernel_rfl) (by kernel_rfl) (by kernel_rfl) (fun _ _ _ h => h) (Or.inl ⟨by rfl, by intro w hSw; go_simp⟩) hHeld ?_
            simp only [Act.put, List.setIfInBounds_toArray, List.set_cons_zero, List.set_cons_succ]
            refine take (i := 3) (d := some 28) (v := .iface 169 (.agg #[])) rfl (by kernel_rfl) (by kernel_rfl) (by kernel_rfl) (by kernel_rfl) (fun _ _ _ h => h) (Or.inl ⟨by rfl, by intro w hSw; have q1 := hSw.1; go_simp⟩) hHeld ?_
            simp only [Act.put, List.setIfInBounds_toArray, List.set_cons_zero, List.set_cons_succ]
            refine wpAnyH_ready (rs := [4]) (by kernel_rfl) (by simp) (Rg.call1 rfl (by kernel_rfl) 154 (.tmp 28) 158 (by kernel_rfl) 29 (by kernel_rfl) (.iface 169 (.agg #[])) (by kernel_rfl) (fun _ => rfl) (right4 _) ?_ AllReadyH.nil)
            rintro e w3 ⟨rfl, hb3⟩
            replace hb3 := Rw.next (Below.drew (Below.refl _ W2)) hb3
            replace q0 := (hb3.cell (World.block_lt_of_cell? _ _ q0)).trans q0
            replace kA2 := (hb3.block _ (Array.getElem?_eq_some_iff.1 kA2).1).trans kA2
            replace hrow2 := hrow2.of_block (hb3.block _ hrow2.lt)
            replace hb2 := Rw.next hb2 hb3
            clear hb3
            refine ⟨_, rfl, ⟨q0, kA2⟩, fun hHeld => ?_⟩
            simp only [Act.put, List.setIfInBounds_toArray, List.set_cons_zero, List.set_cons_succ]
            refine take (i := 5) (d := some 30) (v := .bool false) rfl (by kernel_rfl) (by kernel_rfl) (by kernel_rfl) (by kernel_rfl) (fun _ _ _ h => h) (Or.inl ⟨by rfl, by intro w hSw; go_simp⟩) hHeld ?_
            simp only [Act.put, List.setIfInBounds_toArray, List.set_cons_zero, List.set_cons_succ]
            refine take (i := 6) (d := some 31) (v := .bool false) rfl (by kernel_rfl) (by kernel_rfl) (by kernel_rfl) (by kernel_rfl) (fun _ _ _ h => h) (Or.inl ⟨by rfl, by intro w hSw; go_simp⟩) hHeld ?_
            simp only [Act.put, List.setIfInBounds_toArray, List.set_cons_zero, List.set_cons_succ]
            refine take (i := 7) (d := some 32) (v := .slice (some ⟨w.heap.size, 0, none⟩) n n) rfl (by kernel_rfl) (by kernel_rfl) (by kernel_rfl) (by kernel_rfl) (fun _ _ _ h => h) (Or.inl ⟨by rfl, by intro w hSw; go_simp⟩) hHeld ?_
            simp only [Act.put, List.setIfInBounds_toArray, List.set_cons_zero, List.set_cons_succ]
            refine take (i := 8) (d := some 33) (v := .int .i64 k) rfl (by kernel_rfl) (by kernel_rfl) (by kernel_rfl) (by kernel_rfl) (fun _ _ _ h => h) (Or.inl ⟨by rfl, by intro w hSw; go_simp⟩) hHeld ?_
            simp only [Act.put, List.setIfInBounds_toArray, List.set_cons_zero, List.set_cons_succ]
            refine take (i := 9) (d := some 34) (v := .pointer (some ⟨w.heap.size, k, none⟩)) rfl (by kernel_rfl) (by kernel_rfl) (by kernel_rfl) (by kernel_rfl) (fun _ _ _ h => h) (Or.inl ⟨by rfl, by intro w hSw; go_simp⟩) hHeld ?_
            simp only [Act.put, List.setIfInBounds_toArray, List.set_cons_zero, List.set_cons_succ]
            refine take (i := 10) (d := some 35) (v := .iface 169 (.agg #[])) rfl (by kernel_rfl) (by kernel_rfl) (by kernel_rfl) (by kernel_rfl) (fun _ _ _ h => h) (Or.inl ⟨by rfl, by intro w hSw; have q1 := hSw.1; go_simp⟩) hHeld ?_
            simp only [Act.put, List.setIfInBounds_toArray, List.set_cons_zero, List.set_cons_succ]
            refine take (i := 12) (d := some 37) (v := .agg #[.int .i64 4, .int .i64 0, .int .i64 0]) rfl (by kernel_rfl) (by kernel_rfl) (by kernel_rfl) (by kernel_rfl) (fun _ _ _ h => h) (Or.inl ⟨by rfl, by intro w hSw; have q2 := hSw.2; have d0 := three0 q2; have d1 := three1 q2; have d2 := three2 q2; go_simp⟩) hHeld ?_
            simp only [Act.put, List.setIfInBounds_toArray, List.set_cons_zero, List.set_cons_succ]
            refine wpAnyH_ready (rs := [11]) (by kernel_rfl) (by simp) (Yf.callI rfl (by kernel_rfl) 179 (.tmp 35) rfl 36 (by kernel_rfl) (.iface 169 (.agg #[])) (.agg #[]) (by kernel_rfl) (fun w => by kernel_rfl) (act4 _) ?_ AllReadyH.nil)
            rintro e w4 ⟨rfl, hb4⟩
            replace q0 := (hb4.cell (World.block_lt_of_cell? _ _ q0)).trans q0
            replace kA2 := (hb4.block _ (Array.getElem?_eq_some_iff.1 kA2).1).trans kA2
            replace hrow2 := hrow2.of_block (hb4.block _ hrow2.lt)
            replace hb2 := Rw.next hb2 hb4
            clear hb4
            refine ⟨_, rfl, ⟨q0, kA2⟩, fun hHeld => ?_⟩
            simp only [Act.put, List.setIfInBounds_toArray, List.set_cons_zero, List.set_cons_succ]
            refine take (i := 13) (d := some 38) (v := .bool false) rfl (by kernel_rfl) (by kernel_rfl) (by kernel_rfl) (by kernel_rfl) (fun _ _ _ h => h) (Or.inl ⟨by rfl, by intro w hSw; go_simp⟩) hHeld ?_
            simp only [Act.put, List.setIfInBounds_toArray, List.set_cons_zero, List.set_cons_succ]
            refine take (i := 14) (d := some 39) (v := .bool false) rfl (by kernel_rfl) (by kernel_rfl) (by kernel_rfl) (by kernel_rfl) (fun _ _ _ h => h) (Or.inl ⟨by rfl, by intro w hSw; go_simp⟩) hHeld ?_
            simp only [Act.put, List.setIfInBounds_toArray, List.set_cons_zero, List.set_cons_succ]
            refine wpAnyH_done (by kernel_rfl) ?_ _
            go_wp2
            all_goals go_roundw
            all_goals first | exact ⟨k + 1, by omega, by go_num, hb2, hrow2, hB⟩ | (simp [intOf]; omega)
          · have hne : (0 == x2) = false := by simpa using fun h : 0 = x2 => h1 h.symm
            go_wp2_with (go_at_call 153; rw [← hW0]; refine (kind_any (4, 0, x2) _).mono ?_; rintro e w1 ⟨rfl, hb⟩; rw [show actV (4, 0, x2) = .iface 169 (.agg #[]) from rfl]; replace hrow := hrow.of_block (hb.block _ hlw); replace kA := (hb.block _ zA).trans kA; replace hbel := Rw.next hbel hb; have g0 := hrow.cell hlt; have g1 := hrow.frozen k)
            obtain ⟨W2, hW2⟩ : ∃ W2, W2 = w1.setCell ⟨w.heap.size, k, none⟩ (.iface 169 (.agg #[])) := ⟨_, rfl⟩
            rw [← hW2]
            have q0 : W2.cell? ⟨w.heap.size, k, none⟩ = some (.iface 169 (.agg #[])) := by subst hW2; exact World.cell?_setCell_same _ _ _ g0
            have kA2 : W2.heap[wr.heap.size]? = some (.cells #[.int .i64 4, .int .i64 0, .int .i64 x2] 147 (0, 0)) := by subst hW2; exact (Below.heap_setCell _ _ _ _ (fun h => hlt2 h.symm)).trans kA
            have hrow2 : W2.rowIs w.heap.size 158 n (row l (k + 1)) := by subst hW2; have := row_step hrow; rw [HX.out] at this; exact this
            have hb2 : Below w.heap.size w W2 := by subst hW2; exact hbel.setCell (by simp) _
            clear hW2 hrow g0 g1 hbel kA
            have hB := actsB_no (l := l) (k := k) (by have := HN.out; omega) (by rw [HX.out]; simp [actB, h1])
            refine wp_region_held_drew (S := (fun w' => w'.cell? ⟨w.heap.size, k, none⟩ = some (.iface 169 (.agg #[])) ∧ w'.heap[wr.heap.size]? = some (.cells #[.int .i64 4, .int .i64 0, .int .i64 x2] 147 (0, 0)))) (by kernel_rfl) ⟨q0, kA2⟩ (fun hHeld => ?_)
            refine take (i := 0) (d := some 25) (v := .slice (some ⟨w.heap.size, 0, none⟩) n n) rfl (by kernel_rfl) (by kernel_rfl) (by kernel_rfl) (by kernel_rfl) (fun _ _ _ h => h) (Or.inl ⟨by rfl, by intro w hSw; go_simp⟩) hHeld ?_
            simp only [Act.put, List.setIfInBounds_toArray, List.set_cons_zero, List.set_cons_succ]
            refine take (i := 1) (d := some 26) (v := .int .i64 k) rfl (by kernel_rfl) (by kernel_rfl) (by kernel_rfl) (by kernel_rfl) (fun _ _ _ h => h) (Or.inl ⟨by rfl, by intro w hSw; go_simp⟩) hHeld ?_
            simp only [Act.put, List.setIfInBounds_toArray, List.set_cons_zero, List.set_cons_succ]
            refine take (i := 2) (d := some 27) (v := .pointer (some ⟨w.heap.size, k, none⟩)) rfl (by kernel_rfl) (by kernel_rfl) (by kernel_rfl) (by kernel_rfl) (fun _ _ _ h => h) (Or.inl ⟨by rfl, by intro w hSw; go_simp⟩) hHeld ?_
            simp only [Act.put, List.setIfInBounds_toArray, List.set_cons_zero, List.set_cons_succ]
            refine take (i := 3) (d := some 28) (v := .iface 169 (.agg #[])) rfl (by kernel_rfl) (by kernel_rfl) (by kernel_rfl) (by kernel_rfl) (fun _ _ _ h => h) (Or.inl ⟨by rfl, by intro w hSw; have q1 := hSw.1; go_simp⟩) hHeld ?_
            simp only [Act.put, List.setIfInBounds_toArray, List.set_cons_zero, List.set_cons_succ]
            refine wpAnyH_ready (rs := [4]) (by kernel_rfl) (by simp) (Rg.call1 rfl (by kernel_rfl) 154 (.tmp 28) 158 (by kernel_rfl) 29 (by kernel_rfl) (.iface 169 (.agg #[])) (by kernel_rfl) (fun _ => rfl) (right4 _) ?_ AllReadyH.nil)
            rintro e w3 ⟨rfl, hb3⟩
            replace hb3 := Rw.next (Below.drew (Below.refl _ W2)) hb3
            replace q0 := (hb3.cell (World.block_lt_of_cell? _ _ q0)).trans q0
            replace kA2 := (hb3.block _ (Array.getElem?_eq_some_iff.1 kA2).1).trans kA2
            replace hrow2 := hrow2.of_block (hb3.block _ hrow2.lt)
            replace hb2 := Rw.next hb2 hb3
            clear hb3
            refine ⟨_, rfl, ⟨q0, kA2⟩, fun hHeld => ?_⟩
            simp only [Act.put, List.setIfInBounds_toArray, List.set_cons_zero, List.set_cons_succ]
            refine take (i := 5) (d := some 30) (v := .bool false) rfl (by kernel_rfl) (by kernel_rfl) (by kernel_rfl) (by kernel_rfl) (fun _ _ _ h => h) (Or.inl ⟨by rfl, by intro w hSw; go_simp⟩) hHeld ?_
            simp only [Act.put, List.setIfInBounds_toArray, List.set_cons_zero, List.set_cons_succ]
            refine take (i := 6) (d := some 31) (v := .bool false) rfl (by kernel_rfl) (by kernel_rfl) (by kernel_rfl) (by kernel_rfl) (fun _ _ _ h => h) (Or.inl ⟨by rfl, by intro w hSw; go_simp⟩) hHeld ?_
            simp only [Act.put, List.setIfInBounds_toArray, List.set_cons_zero, List.set_cons_succ]
            refine take (i := 7) (d := some 32) (v := .slice (some ⟨w.heap.size, 0, none⟩) n n) rfl (by kernel_rfl) (by kernel_rfl) (by kernel_rfl) (by kernel_rfl) (fun _ _ _ h => h) (Or.inl ⟨by rfl, by intro w hSw; go_simp⟩) hHeld ?_
            simp only [Act.put, List.setIfInBounds_toArray, List.set_cons_zero, List.set_cons_succ]
            refine take (i := 8) (d := some 33) (v := .int .i64 k) rfl (by kernel_rfl) (by kernel_rfl) (by kernel_rfl) (by kernel_rfl) (fun _ _ _ h => h) (Or.inl ⟨by rfl, by intro w hSw; go_simp⟩) hHeld ?_
            simp only [Act.put, List.setIfInBounds_toArray, List.set_cons_zero, List.set_cons_succ]
            refine take (i := 9) (d := some 34) (v := .pointer (some ⟨w.heap.size, k, none⟩)) rfl (by kernel_rfl) (by kernel_rfl) (by kernel_rfl) (by kernel_rfl) (fun _ _ _ h => h) (Or.inl ⟨by rfl, by intro w hSw; go_simp⟩) hHeld ?_
            simp only [Act.put, List.setIfInBounds_toArray, List.set_cons_zero, List.set_cons_succ]
            refine take (i := 10) (d := some 35) (v := .iface 169 (.agg #[])) rfl (by kernel_rfl) (by kernel_rfl) (by kernel_rfl) (by kernel_rfl) (fun _ _ _ h => h) (Or.inl ⟨by rfl, by intro w hSw; have q1 := hSw.1; go_simp⟩) hHeld ?_
            simp only [Act.put, List.setIfInBounds_toArray, List.set_cons_zero, List.set_cons_succ]
            refine take (i := 12) (d := some 37) (v := .agg #[.int .i64 4, .int .i64 0, .int .i64 x2]) rfl (by kernel_rfl) (by kernel_rfl) (by kernel_rfl) (by kernel_rfl) (fun _ _ _ h => h) (Or.inl ⟨by rfl, by intro w hSw; have q2 := hSw.2; have d0 := three0 q2; have d1 := three1 q2; have d2 := three2 q2; go_simp⟩) hHeld ?_
            simp only [Act.put, List.setIfInBounds_toArray, List.set_cons_zero, List.set_cons_succ]
            refine wpAnyH_ready (rs := [11]) (by kernel_rfl) (by simp) (Yf.callI rfl (by kernel_rfl) 179 (.tmp 35) rfl 36 (by kernel_rfl) (.iface 169 (.agg #[])) (.agg #[]) (by kernel_rfl) (fun w => by kernel_rfl) (act4 _) ?_ AllReadyH.nil)
            rintro e w4 ⟨rfl, hb4⟩
            replace q0 := (hb4.cell (World.block_lt_of_cell? _ _ q0)).trans q0
            replace kA2 := (hb4.block _ (Array.getElem?_eq_some_iff.1 kA2).1).trans kA2
            replace hrow2 := hrow2.of_block (hb4.block _ hrow2.lt)
            replace hb2 := Rw.next hb2 hb4
            clear hb4
            refine ⟨_, rfl, ⟨q0, kA2⟩, fun hHeld => ?_⟩
            simp only [Act.put, List.setIfInBounds_toArray, List.set_cons_zero, List.set_cons_succ]
            refine take (i := 13) (d := some 38) (v := .bool true) rfl (by kernel_rfl) (by kernel_rfl) (by kernel_rfl) (by kernel_rfl) (fun _ _ _ h => h) (Or.inl ⟨by rfl, by intro w hSw; go_simp⟩) hHeld ?_
            simp only [Act.put, List.setIfInBounds_toArray, List.set_cons_zero, List.set_cons_succ]
            refine take (i := 14) (d := some 39) (v := .bool true) rfl (by kernel_rfl) (by kernel_rfl) (by kernel_rfl) (by kernel_rfl) (fun _ _ _ h => h) (Or.inl ⟨by rfl, by intro w hSw; go_simp⟩) hHeld ?_
            simp only [Act.put, List.setIfInBounds_toArray, List.set_cons_zero, List.set_cons_succ]
            refine wpAnyH_done (by kernel_rfl) ?_ _
            go_wp2
            all_goals exact bodyPost_ret (v := .tuple #[.slice none 0 0, .bool false]) (by simp [results, Try.results141, go_sem]) rfl ⟨hb2, fun _ => rfl, fun h => (by rw [hB] at h; cases h)⟩
        · have hne : (0 == x1) = false := by simpa using fun h : 0 = x1 => h0 h.symm
          go_wp2_with (go_at_call 153; rw [← hW0]; refine (kind_any (4, x1, x2) _).mono ?_; rintro e w1 ⟨rfl, hb⟩; rw [show actV (4, x1, x2) = .iface 169 (.agg #[]) from rfl]; replace hrow := hrow.of_block (hb.block _ hlw); replace kA := (hb.block _ zA).trans kA; replace hbel := Rw.next hbel hb; have g0 := hrow.cell hlt; have g1 := hrow.frozen k)
          obtain ⟨W2, hW2⟩ : ∃ W2, W2 = w1.setCell ⟨w.heap.size, k, none⟩ (.iface 169 (.agg #[])) := ⟨_, rfl⟩
          rw [← hW2]
          have q0 : W2.cell? ⟨w.heap.size, k, none⟩ = some (.iface 169 (.agg #[])) := by subst hW2; exact World.cell?_setCell_same _ _ _ g0
          have kA2 : W2.heap[wr.heap.size]? = some (.cells #[.int .i64 4, .int .i64 x1, .int .i64 x2] 147 (0, 0)) := by subst hW2; exact (Below.heap_setCell _ _ _ _ (fun h => hlt2 h.symm)).trans kA
          have hrow2 : W2.rowIs w.heap.size 158 n (row l (k + 1)) := by subst hW2; have := row_step hrow; rw [HX.out] at this; exact this
          have hb2 : Below w.heap.size w W2 := by subst hW2; exact hbel.setCell (by simp) _
          clear hW2 hrow g0 g1 hbel kA
          have hB := actsB_no (l := l) (k := k) (by have := HN.out; omega) (by rw [HX.out]; simp [actB, h0])
          refine wp_region_held_drew (S := (fun w' => w'.cell? ⟨w.heap.size, k, none⟩ = some (.iface 169 (.agg #[])) ∧ w'.heap[wr.heap.size]? = some (.cells #[.int .i64 4, .int .i64 x1, .int .i64 x2] 147 (0, 0)))) (by kernel_rfl) ⟨q0, kA2⟩ (fun hHeld => ?_)
          refine take (i := 0) (d := some 25) (v := .slice (some ⟨w.heap.size, 0, none⟩) n n) rfl (by kernel_rfl) (by kernel_rfl) (by kernel_rfl) (by kernel_rfl) (fun _ _ _ h => h) (Or.inl ⟨by rfl, by intro w hSw; go_simp⟩) hHeld ?_
          simp only [Act.put, List.setIfInBounds_toArray, List.set_cons_zero, List.set_cons_succ]
          refine take (i := 1) (d := some 26) (v := .int .i64 k) rfl (by kernel_rfl) (by kernel_rfl) (by kernel_rfl) (by kernel_rfl) (fun _ _ _ h => h) (Or.inl ⟨by rfl, by intro w hSw; go_simp⟩) hHeld ?_
          simp only [Act.put, List.setIfInBounds_toArray, List.set_cons_zero, List.set_cons_succ]
          refine take (i := 2) (d := some 27) (v := .pointer (some ⟨w.heap.size, k, none⟩)) rfl (by kernel_rfl) (by kernel_rfl) (by kernel_rfl) (by kernel_rfl) (fun _ _ _ h => h) (Or.inl ⟨by rfl, by intro w hSw; go_simp⟩) hHeld ?_
          simp only [Act.put, List.setIfInBounds_toArray, List.set_cons_zero, List.set_cons_succ]
          refine take (i := 3) (d := some 28) (v := .iface 169 (.agg #[])) rfl (by kernel_rfl) (by kernel_rfl) (by kernel_rfl) (by kernel_rfl) (fun _ _ _ h => h) (Or.inl ⟨by rfl, by intro w hSw; have q1 := hSw.1; go_simp⟩) hHeld ?_
          simp only [Act.put, List.setIfInBounds_toArray, List.set_cons_zero, List.set_cons_succ]
          refine wpAnyH_ready (rs := [4]) (by kernel_rfl) (by simp) (Rg.call1 rfl (by kernel_rfl) 154 (.tmp 28) 158 (by kernel_rfl) 29 (by kernel_rfl) (.iface 169 (.agg #[])) (by kernel_rfl) (fun _ => rfl) (right4 _) ?_ AllReadyH.nil)
          rintro e w3 ⟨rfl, hb3⟩
          replace hb3 := Rw.next (Below.drew (Below.refl _ W2)) hb3
          replace q0 := (hb3.cell (World.block_lt_of_cell? _ _ q0)).trans q0
          replace kA2 := (hb3.block _ (Array.getElem?_eq_some_iff.1 kA2).1).trans kA2
          replace hrow2 := hrow2.of_block (hb3.block _ hrow2.lt)
          replace hb2 := Rw.next hb2 hb3
          clear hb3
          refine ⟨_, rfl, ⟨q0, kA2⟩, fun hHeld => ?_⟩
          simp only [Act.put, List.setIfInBounds_toArray, List.set_cons_zero, List.set_cons_succ]
          refine take (i := 5) (d := some 30) (v := .bool false) rfl (by kernel_rfl) (by kernel_rfl) (by kernel_rfl) (by kernel_rfl) (fun _ _ _ h => h) (Or.inl ⟨by rfl, by intro w hSw; go_simp⟩) hHeld ?_
          simp only [Act.put, List.setIfInBounds_toArray, List.set_cons_zero, List.set_cons_succ]
          refine take (i := 6) (d := some 31) (v := .bool false) rfl (by kernel_rfl) (by kernel_rfl) (by kernel_rfl) (by kernel_rfl) (fun _ _ _ h => h) (Or.inl ⟨by rfl, by intro w hSw; go_simp⟩) hHeld ?_
          simp only [Act.put, List.setIfInBounds_toArray, List.set_cons_zero, List.set_cons_succ]
          refine take (i := 7) (d := some 32) (v := .slice (some ⟨w.heap.size, 0, none⟩) n n) rfl (by kernel_rfl) (by kernel_rfl) (by kernel_rfl) (by kernel_rfl) (fun _ _ _ h => h) (Or.inl ⟨by rfl, by intro w hSw; go_simp⟩) hHeld ?_
          simp only [Act.put, List.setIfInBounds_toArray, List.set_cons_zero, List.set_cons_succ]
          refine take (i := 8) (d := some 33) (v := .int .i64 k) rfl (by kernel_rfl) (by kernel_rfl) (by kernel_rfl) (by kernel_rfl) (fun _ _ _ h => h) (Or.inl ⟨by rfl, by intro w hSw; go_simp⟩) hHeld ?_
          simp only [Act.put, List.setIfInBounds_toArray, List.set_cons_zero, List.set_cons_succ]
          refine take (i := 9) (d := some 34) (v := .pointer (some ⟨w.heap.size, k, none⟩)) rfl (by kernel_rfl) (by kernel_rfl) (by kernel_rfl) (by kernel_rfl) (fun _ _ _ h => h) (Or.inl ⟨by rfl, by intro w hSw; go_simp⟩) hHeld ?_
          simp only [Act.put, List.setIfInBounds_toArray, List.set_cons_zero, List.set_cons_succ]
          refine take (i := 10) (d := some 35) (v := .iface 169 (.agg #[])) rfl (by kernel_rfl) (by kernel_rfl) (by kernel_rfl) (by kernel_rfl) (fun _ _ _ h => h) (Or.inl ⟨by rfl, by intro w hSw; have q1 := hSw.1; go_simp⟩) hHeld ?_
          simp only [Act.put, List.setIfInBounds_toArray, List.set_cons_zero, List.set_cons_succ]
          refine take (i := 12) (d := some 37) (v := .agg #[.int .i64 4, .int .i64 x1, .int .i64 x2]) rfl (by kernel_rfl) (by kernel_rfl) (by kernel_rfl) (by kernel_rfl) (fun _ _ _ h => h) (Or.inl ⟨by rfl, by intro w hSw; have q2 := hSw.2; have d0 := three0 q2; have d1 := three1 q2; have d2 := three2 q2; go_simp⟩) hHeld ?_
          simp only [Act.put, List.setIfInBounds_toArray, List.set_cons_zero, List.set_cons_succ]
          refine wpAnyH_ready (rs := [11]) (by kernel_rfl) (by simp) (Yf.callI rfl (by kernel_rfl) 179 (.tmp 35) rfl 36 (by kernel_rfl) (.iface 169 (.agg #[])) (.agg #[]) (by kernel_rfl) (fun w => by kernel_rfl) (act4 _) ?_ AllReadyH.nil)
          rintro e w4 ⟨rfl, hb4⟩
          replace q0 := (hb4.cell (World.block_lt_of_cell? _ _ q0)).trans q0
          replace kA2 := (hb4.block _ (Array.getElem?_eq_some_iff.1 kA2).1).trans kA2
          replace hrow2 := hrow2.of_block (hb4.block _ hrow2.lt)
          replace hb2 := Rw.next hb2 hb4
          clear hb4
          refine ⟨_, rfl, ⟨q0, kA2⟩, fun hHeld => ?_⟩
          simp only [Act.put, List.setIfInBounds_toArray, List.set_cons_zero, List.set_cons_succ]
          refine take (i := 13) (d := some 38) (v := .bool true) rfl (by kernel_rfl) (by kernel_rfl) (by kernel_rfl) (by kernel_rfl) (fun _ _ _ h => h) (Or.inl ⟨by rfl, by intro w hSw; go_simp⟩) hHeld ?_
          simp only [Act.put, List.setIfInBounds_toArray, List.set_cons_zero, List.set_cons_succ]
          refine take (i := 14) (d := some 39) (v := .bool true) rfl (by kernel_rfl) (by kernel_rfl) (by kernel_rfl) (by kernel_rfl) (fun _ _ _ h => h) (Or.inl ⟨by rfl, by intro w hSw; go_simp⟩) hHeld ?_
          simp only [Act.put, List.setIfInBounds_toArray, List.set_cons_zero, List.set_cons_succ]
          refine wpAnyH_done (by kernel_rfl) ?_ _
          go_wp2
          all_goals exact bodyPost_ret (v := .tuple #[.slice none 0 0, .bool false]) (by simp [results, Try.results141, go_sem]) rfl ⟨hb2, fun _ => rfl, fun h => (by rw [hB] at h; cases h)⟩
      by_cases k5 : x0 = 5
      · subst k5
        by_cases h0 : x1 = 0
        · subst h0
          by_cases h1 : x2 = 0
          · subst h1
            go_wp2_with (go_at_call 153; rw [← hW0]; refine (kind_any (5, 0, 0) _).mono ?_; rintro e w1 ⟨rfl, hb⟩; rw [show actV (5, 0, 0) = .iface 170 (.agg #[]) from rfl]; replace hrow := hrow.of_block (hb.block _ hlw); replace kA := (hb.block _ zA).trans kA; replace hbel := Rw.next hbel hb; have g0 := hrow.cell hlt; have g1 := hrow.frozen k)
            obtain ⟨W2, hW2⟩ : ∃ W2, W2 = w1.setCell ⟨w.heap.size, k, none⟩ (.iface 170 (.agg #[])) := ⟨_, rfl⟩
            rw [← hW2]
            have q0 : W2.cell? ⟨w.heap.size, k, none⟩ = some (.iface 170 (.agg #[])) := by subst hW2; exact World.cell?_setCell_same _ _ _ g0
            have kA2 : W2.heap[wr.heap.size]? = some (.cells #[.int .i64 5, .int .i64 0, .int .i64 0] 147 (0, 0)) := by subst hW2; exact (Below.heap_setCell _ _ _ _ (fun h => hlt2 h.symm)).trans kA
            have hrow2 : W2.rowIs w.heap.size 158 n (row l (k + 1)) := by subst hW2; have := row_step hrow; rw [HX.out] at this; exact this
            have hb2 : Below w.heap.size w W2 := by subst hW2; exact hbel.setCell (by simp) _
            clear hW2 hrow g0 g1 hbel kA
            have hB := pre_step HP.out (by rw [HX.out]; simp [actB])
            refine wp_region_held_drew (S := (fun w' => w'.cell? ⟨w.heap.size, k, none⟩ = some (.iface 170 (.agg #[])) ∧ w'.heap[wr.heap.size]? = some (.cells #[.int .i64 5, .int .i64 0, .int .i64 0] 147 (0, 0)))) (by kernel_rfl) ⟨q0, kA2⟩ (fun hHeld => ?_)
            refine take (i := 0) (d := some 25) (v := .slice (some ⟨w.heap.size, 0, none⟩) n n) rfl (by kernel_rfl) (by kernel_rfl) (by kernel_rfl) (by kernel_rfl) (fun _ _ _ h => h) (Or.inl ⟨by rfl, by intro w hSw; go_simp⟩) hHeld ?_
            simp only [Act.put, List.setIfInBounds_toArray, List.set_cons_zero, List.set_cons_succ]
            refine take (i := 1) (d := some 26) (v := .int .i64 k) rfl (by kernel_rfl) (by kernel_rfl) (by kernel_rfl) (by kernel_rfl) (fun _ _ _ h => h) (Or.inl ⟨by rfl, by intro w hSw; go_simp⟩) hHeld ?_
            simp only [Act.put, List.setIfInBounds_toArray, List.set_cons_zero, List.set_cons_succ]
            refine take (i := 2) (d := some 27) (v := .pointer (some ⟨w.heap.size, k, none⟩)) rfl (by kernel_rfl) (by kernel_rfl) (by kernel_rfl) (by kernel_rfl) (fun _ _ _ h => h) (Or.inl ⟨by rfl, by intro w hSw; go_simp⟩) hHeld ?_
            simp only [Act.put, List.setIfInBounds_toArray, List.set_cons_zero, List.set_cons_succ]
            refine take (i := 3) (d := some 28) (v := .iface 170 (.agg #[])) rfl (by kernel_rfl) (by kernel_rfl) (by kernel_rfl) (by kernel_rfl) (fun _ _ _ h => h) (Or.inl ⟨by rfl, by intro w hSw; have q1 := hSw.1; go_simp⟩) hHeld ?_
            simp only [Act.put, List.setIfInBounds_toArray, List.set_cons_zero, List.set_cons_succ]
            refine wpAnyH_ready (rs := [4]) (by kernel_rfl) (by simp) (Rg.call1 rfl (by kernel_rfl) 154 (.tmp 28) 158 (by kernel_rfl) 29 (by kernel_rfl) (.iface 170 (.agg #[])) (by kernel_rfl) (fun _ => rfl) (right5 _) ?_ AllReadyH.nil)
            rintro e w3 ⟨rfl, hb3⟩
            replace hb3 := Rw.next (Below.drew (Below.refl _ W2)) hb3
            replace q0 := (hb3.cell (World.block_lt_of_cell? _ _ q0)).trans q0
            replace kA2 := (hb3.block _ (Array.getElem?_eq_some_iff.1 kA2).1).trans kA2
            replace hrow2 := hrow2.of_block (hb3.block _ hrow2.lt)
            replace hb2 := Rw.next hb2 hb3
            clear hb3
            refine ⟨_, rfl, ⟨q0, kA2⟩, fun hHeld => ?_⟩
            simp only [Act.put, List.setIfInBounds_toArray, List.set_cons_zero, List.set_cons_succ]
            refine take (i := 5) (d := some 30) (v := .bool false) rfl (by kernel_rfl) (by kernel_rfl) (by kernel_rfl) (by kernel_rfl) (fun _ _ _ h => h) (Or.inl ⟨by rfl, by intro w hSw; go_simp⟩) hHeld ?_
            simp only [Act.put, List.setIfInBounds_toArray, List.set_cons_zero, List.set_cons_succ]
            refine take (i := 6) (d := some 31) (v := .bool false) rfl (by kernel_rfl) (by kernel_rfl) (by kernel_rfl) (by kernel_rfl) (fun _ _ _ h => h) (Or.inl ⟨by rfl, by intro w hSw; go_simp⟩) hHeld ?_
            simp only [Act.put, List.setIfInBounds_toArray, List.set_cons_zero, List.set_cons_succ]
            refine take (i := 7) (d := some 32) (v := .slice (some ⟨w.heap.size, 0, none⟩) n n) rfl (by kernel_rfl) (by kernel_rfl) (by kernel_rfl) (by kernel_rfl) (fun _ _ _ h => h) (Or.inl ⟨by rfl, by intro w hSw; go_simp⟩) hHeld ?_
            simp only [Act.put, List.setIfInBounds_toArray, List.set_cons_zero, List.set_cons_succ]
            refine take (i := 8) (d := some 33) (v := .int .i64 k) rfl (by kernel_rfl) (by kernel_rfl) (by kernel_rfl) (by kernel_rfl) (fun _ _ _ h => h) (Or.inl ⟨by rfl, by intro w hSw; go_simp⟩) hHeld ?_
            simp only [Act.put, List.setIfInBounds_toArray, List.set_cons_zero, List.set_cons_succ]
            refine take (i := 9) (d := some 34) (v := .pointer (some ⟨w.heap.size, k, none⟩)) rfl (by kernel_rfl) (by kernel_rfl) (by kernel_rfl) (by kernel_rfl) (fun _ _ _ h => h) (Or.inl ⟨by rfl, by intro w hSw; go_simp⟩) hHeld ?_
            simp only [Act.put, List.setIfInBounds_toArray, List.set_cons_zero, List.set_cons_succ]
            refine take (i := 10) (d := some 35) (v := .iface 170 (.agg #[])) rfl (by kernel_rfl) (by kernel_rfl) (by kernel_rfl) (by kernel_rfl) (fun _ _ _ h => h) (Or.inl ⟨by rfl, by intro w hSw; have q1 := hSw.1; go_simp⟩) hHeld ?_
            simp only [Act.put, List.setIfInBounds_toArray, List.set_cons_zero, List.set_cons_succ]
            refine take (i := 12) (d := some 37) (v := .agg #[.int .i64 5, .int .i64 0, .int .i64 0]) rfl (by kernel_rfl) (by kernel_rfl) (by kernel_rfl) (by kernel_rfl) (fun _ _ _ h => h) (Or.inl ⟨by rfl, by intro w hSw; have q2 := hSw.2; have d0 := three0 q2; have d1 := three1 q2; have d2 := three2 q2; go_simp⟩) hHeld ?_
            simp only [Act.put, List.setIfInBounds_toArray, List.set_cons_zero, List.set_cons_succ]
            refine wpAnyH_ready (rs := [11]) (by kernel_rfl) (by simp) (Yf.callI rfl (by kernel_rfl) 180 (.tmp 35) rfl 36 (by kernel_rfl) (.iface 170 (.agg #[])) (.agg #[]) (by kernel_rfl) (fun w => by kernel_rfl) (act5 _) ?_ AllReadyH.nil)
            rintro e w4 ⟨rfl, hb4⟩
            replace q0 := (hb4.cell (World.block_lt_of_cell? _ _ q0)).trans q0
            replace kA2 := (hb4.block _ (Array.getElem?_eq_some_iff.1 kA2).1).trans kA2
            replace hrow2 := hrow2.of_block (hb4.block _ hrow2.lt)
            replace hb2 := Rw.next hb2 hb4
            clear hb4
            refine ⟨_, rfl, ⟨q0, kA2⟩, fun hHeld => ?_⟩
            simp only [Act.put, List.setIfInBounds_toArray, List.set_cons_zero, List.set_cons_succ]
            refine take (i := 13) (d := some 38) (v := .bool false) rfl (by kernel_rfl) (by kernel_rfl) (by kernel_rfl) (by kernel_rfl) (fun _ _ _ h => h) (Or.inl ⟨by rfl, by intro w hSw; go_simp⟩) hHeld ?_
            simp only [Act.put, List.setIfInBounds_toArray, List.set_cons_zero, List.set_cons_succ]
            refine take (i := 14) (d := some 39) (v := .bool false) rfl (by kernel_rfl) (by kernel_rfl) (by kernel_rfl) (by kernel_rfl) (fun _ _ _ h => h) (Or.inl ⟨by rfl, by intro w hSw; go_simp⟩) hHeld ?_
            simp only [Act.put, List.setIfInBounds_toArray, List.set_cons_zero, List.set_cons_succ]
            refine wpAnyH_done (by kernel_rfl) ?_ _
            go_wp2
            all_goals go_roundw
            all_goals first | exact ⟨k + 1, by omega, by go_num, hb2, hrow2, hB⟩ | (simp [intOf]; omega)
          · have hne : (0 == x2) = false := by simpa using fun h : 0 = x2 => h1 h.symm
            go_wp2_with (go_at_call 153; rw [← hW0]; refine (kind_any (5, 0, x2) _).mono ?_; rintro e w1 ⟨rfl, hb⟩; rw [show actV (5, 0, x2) = .iface 170 (.agg #[]) from rfl]; replace hrow := hrow.of_block (hb.block _ hlw); replace kA := (hb.block _ zA).trans kA; replace hbel := Rw.next hbel hb; have g0 := hrow.cell hlt; have g1 := hrow.frozen k)
            obtain ⟨W2, hW2⟩ : ∃ W2, W2 = w1.setCell ⟨w.heap.size, k, none⟩ (.iface 170 (.agg #[])) := ⟨_, rfl⟩
            rw [← hW2]
            have q0 : W2.cell? ⟨w.heap.size, k, none⟩ = some (.iface 170 (.agg #[])) := by subst hW2; exact World.cell?_setCell_same _ _ _ g0
            have kA2 : W2.heap[wr.heap.size]? = some (.cells #[.int .i64 5, .int .i64 0, .int .i64 x2] 147 (0, 0)) := by subst hW2; exact (Below.heap_setCell _ _ _ _ (fun h => hlt2 h.symm)).trans kA
            have hrow2 : W2.rowIs w.heap.size 158 n (row l (k + 1)) := by subst hW2; have := row_step hrow; rw [HX.out] at this; exact this
            have hb2 : Below w.heap.size w W2 := by subst hW2; exact hbel.setCell (by simp) _
            clear hW2 hrow g0 g1 hbel kA
            have hB := actsB_no (l := l) (k := k) (by have := HN.out; omega) (by rw [HX.out]; simp [actB, h1])
            refine wp_region_held_drew (S := (fun w' => w'.cell? ⟨w.heap.size, k, none⟩ = some (.iface 170 (.agg #[])) ∧ w'.heap[wr.heap.size]? = some (.cells #[.int .i64 5, .int .i64 0, .int .i64 x2] 147 (0, 0)))) (by kernel_rfl) ⟨q0, kA2⟩ (fun hHeld => ?_)
            refine take (i := 0) (d := some 25) (v := .slice (some ⟨w.heap.size, 0, none⟩) n n) rfl (by kernel_rfl) (by kernel_rfl) (by kernel_rfl) (by kernel_rfl) (fun _ _ _ h => h) (Or.inl ⟨by rfl, by intro w hSw; go_simp⟩) hHeld ?_
            simp only [Act.put, List.setIfInBounds_toArray, List.set_cons_zero, List.set_cons_succ]
            refine take (i := 1) (d := some 26) (v := .int .i64 k) rfl (by kernel_rfl) (by kernel_rfl) (by kernel_rfl) (by kernel_rfl) (fun _ _ _ h => h) (Or.inl ⟨by rfl, by intro w hSw; go_simp⟩) hHeld ?_
            simp only [Act.put, List.setIfInBounds_toArray, List.set_cons_zero, List.set_cons_succ]
            refine take (i := 2) (d := some 27) (v := .pointer (some ⟨w.heap.size, k, none⟩)) rfl (by kernel_rfl) (by kernel_rfl) (by kernel_rfl) (by kernel_rfl) (fun _ _ _ h => h) (Or.inl ⟨by rfl, by intro w hSw; go_simp⟩) hHeld ?_
            simp only [Act.put, List.setIfInBounds_toArray, List.set_cons_zero, List.set_cons_succ]
            refine take (i := 3) (d := some 28) (v := .iface 170 (.agg #[])) rfl (by kernel_rfl) (by kernel_rfl) (by kernel_rfl) (by kernel_rfl) (fun _ _ _ h => h) (Or.inl ⟨by rfl, by intro w hSw; have q1 := hSw.1; go_simp⟩) hHeld ?_
            simp only [Act.put, List.setIfInBounds_toArray, List.set_cons_zero, List.set_cons_succ]
            refine wpAnyH_ready (rs := [4]) (by kernel_rfl) (by simp) (Rg.call1 rfl (by kernel_rfl) 154 (.tmp 28) 158 (by kernel_rfl) 29 (by kernel_rfl) (.iface 170 (.agg #[])) (by kernel_rfl) (fun _ => rfl) (right5 _) ?_ AllReadyH.nil)
            rintro e w3 ⟨rfl, hb3⟩
            replace hb3 := Rw.next (Below.drew (Below.refl _ W2)) hb3
            replace q0 := (hb3.cell (World.block_lt_of_cell? _ _ q0)).trans q0
            replace kA2 := (hb3.block _ (Array.getElem?_eq_some_iff.1 kA2).1).trans kA2
            replace hrow2 := hrow2.of_block (hb3.block _ hrow2.lt)
            replace hb2 := Rw.next hb2 hb3
            clear hb3
            refine ⟨_, rfl, ⟨q0, kA2⟩, fun hHeld => ?_⟩
            simp only [Act.put, List.setIfInBounds_toArray, List.set_cons_zero, List.set_cons_succ]
            refine take (i := 5) (d := some 30) (v := .bool false) rfl (by kernel_rfl) (by kernel_rfl) (by kernel_rfl) (by kernel_rfl) (fun _ _ _ h => h) (Or.inl ⟨by rfl, by intro w hSw; go_simp⟩) hHeld ?_
            simp only [Act.put, List.setIfInBounds_toArray, List.set_cons_zero, List.set_cons_succ]
            refine take (i := 6) (d := some 31) (v := .bool false) rfl (by kernel_rfl) (by kernel_rfl) (by kernel_rfl) (by kernel_rfl) (fun _ _ _ h => h) (Or.inl ⟨by rfl, by intro w hSw; go_simp⟩) hHeld ?_
            simp only [Act.put, List.setIfInBounds_toArray, List.set_cons_zero, List.set_cons_succ]
            refine take (i := 7) (d := some 32) (v := .slice (some ⟨w.heap.size, 0, none⟩) n n) rfl (by kernel_rfl) (by kernel_rfl) (by kernel_rfl) (by kernel_rfl) (fun _ _ _ h => h) (Or.inl ⟨by rfl, by intro w hSw; go_simp⟩) hHeld ?_
            simp only [Act.put, List.setIfInBounds_toArray, List.set_cons_zero, List.set_cons_succ]
            refine take (i := 8) (d := some 33) (v := .int .i64 k) rfl (by kernel_rfl) (by kernel_rfl) (by kernel_rfl) (by kernel_rfl) (fun _ _ _ h => h) (Or.inl ⟨by rfl, by intro w hSw; go_simp⟩) hHeld ?_
            simp only [Act.put, List.setIfInBounds_toArray, List.set_cons_zero, List.set_cons_succ]
            refine take (i := 9) (d := some 34) (v := .pointer (some ⟨w.heap.size, k, none⟩)) rfl (by kernel_rfl) (by kernel_rfl) (by kernel_rfl) (by kernel_rfl) (fun _ _ _ h => h) (Or.inl ⟨by rfl, by intro w hSw; go_simp⟩) hHeld ?_
            simp only [Act.put, List.setIfInBounds_toArray, List.set_cons_zero, List.set_cons_succ]
            refine take (i := 10) (d := some 35) (v := .iface 170 (.agg #[])) rfl (by kernel_rfl) (by kernel_rfl) (by kernel_rfl) (by kernel_rfl) (fun _ _ _ h => h) (Or.inl ⟨by rfl, by intro w hSw; have q1 := hSw.1; go_simp⟩) hHeld ?_
            simp only [Act.put, List.setIfInBounds_toArray, List.set_cons_zero, List.set_cons_succ]
            refine take (i := 12) (d := some 37) (v := .agg #[.int .i64 5, .int .i64 0, .int .i64 x2]) rfl (by kernel_rfl) (by kernel_rfl) (by kernel_rfl) (by kernel_rfl) (fun _ _ _ h => h) (Or.inl ⟨by rfl, by intro w hSw; have q2 := hSw.2; have d0 := three0 q2; have d1 := three1 q2; have d2 := three2 q2; go_simp⟩) hHeld ?_
            simp only [Act.put, List.setIfInBounds_toArray, List.set_cons_zero, List.set_cons_succ]
            refine wpAnyH_ready (rs := [11]) (by kernel_rfl) (by simp) (Yf.callI rfl (by kernel_rfl) 180 (.tmp 35) rfl 36 (by kernel_rfl) (.iface 170 (.agg #[])) (.agg #[]) (by kernel_rfl) (fun w => by kernel_rfl) (act5 _) ?_ AllReadyH.nil)
            rintro e w4 ⟨rfl, hb4⟩
            replace q0 := (hb4.cell (World.block_lt_of_cell? _ _ q0)).trans q0
            replace kA2 := (hb4.block _ (Array.getElem?_eq_some_iff.1 kA2).1).trans kA2
            replace hrow2 := hrow2.of_block (hb4.block _ hrow2.lt)
            replace hb2 := Rw.next hb2 hb4
            clear hb4
            refine ⟨_, rfl, ⟨q0, kA2⟩, fun hHeld => ?_⟩
            simp only [Act.put, List.setIfInBounds_toArray, List.set_cons_zero, List.set_cons_succ]
            refine take (i := 13) (d := some 38) (v := .bool true) rfl (by kernel_rfl) (by kernel_rfl) (by kernel_rfl) (by kernel_rfl) (fun _ _ _ h => h) (Or.inl ⟨by rfl, by intro w hSw; go_simp⟩) hHeld ?_
            simp only [Act.put, List.setIfInBounds_toArray, List.set_cons_zero, List.set_cons_succ]
            refine take (i := 14) (d := some 39) (v := .bool true) rfl (by kernel_rfl) (by kernel_rfl) (by kernel_rfl) (by kernel_rfl) (fun _ _ _ h => h) (Or.inl ⟨by rfl, by intro w hSw; go_simp⟩) hHeld ?_
            simp only [Act.put, List.setIfInBounds_toArray, List.set_cons_zero, List.set_cons_succ]
            refine wpAnyH_done (by kernel_rfl) ?_ _
            go_wp2
            all_goals exact bodyPost_ret (v := .tuple #[.slice none 0 0, .bool false]) (by simp [results, Try.results141, go_sem]) rfl ⟨hb2, fun _ => rfl, fun h => (by rw [hB] at h; cases h)⟩
        · have hne : (0 == x1) = false := by simpa using fun h : 0 = x1 => h0 h.symm
          go_wp2_with (go_at_call 153; rw [← hW0]; refine (kind_any (5, x1, x2) _).mono ?_; rintro e w1 ⟨rfl, hb⟩; rw [show actV (5, x1, x2) = .iface 170 (.agg #[]) from rfl]; replace hrow := hrow.of_block (hb.block _ hlw); replace kA := (hb.block _ zA).trans kA; replace hbel := Rw.next hbel hb; have g0 := hrow.cell hlt; have g1 := hrow.frozen k)
          obtain ⟨W2, hW2⟩ : ∃ W2, W2 = w1.setCell ⟨w.heap.size, k, none⟩ (.iface 170 (.agg #[])) := ⟨_, rfl⟩
          rw [← hW2]
          have q0 : W2.cell? ⟨w.heap.size, k, none⟩ = some (.iface 170 (.agg #[])) := by subst hW2; exact World.cell?_setCell_same _ _ _ g0
          have kA2 : W2.heap[wr.heap.size]? = some (.cells #[.int .i64 5, .int .i64 x1, .int .i64 x2] 147 (0, 0)) := by subst hW2; exact (Below.heap_setCell _ _ _ _ (fun h => hlt2 h.symm)).trans kA
          have hrow2 : W2.rowIs w.heap.size 158 n (row l (k + 1)) := by subst hW2; have := row_step hrow; rw [HX.out] at this; exact this
          have hb2 : Below w.heap.size w W2 := by subst hW2; exact hbel.setCell (by simp) _
          clear hW2 hrow g0 g1 hbel kA
          have hB := actsB_no (l := l) (k := k) (by have := HN.out; omega) (by rw [HX.out]; simp [actB, h0])
          refine wp_region_held_drew (S := (fun w' => w'.cell? ⟨w.heap.size, k, none⟩ = some (.iface 170 (.agg #[])) ∧ w'.heap[wr.heap.size]? = some (.cells #[.int .i64 5, .int .i64 x1, .int .i64 x2] 147 (0, 0)))) (by kernel_rfl) ⟨q0, kA2⟩ (fun hHeld => ?_)
          refine take (i := 0) (d := some 25) (v := .slice (some ⟨w.heap.size, 0, none⟩) n n) rfl (by kernel_rfl) (by kernel_rfl) (by kernel_rfl) (by kernel_rfl) (fun _ _ _ h => h) (Or.inl ⟨by rfl, by intro w hSw; go_simp⟩) hHeld ?_
          simp only [Act.put, List.setIfInBounds_toArray, List.set_cons_zero, List.set_cons_succ]
          refine take (i := 1) (d := some 26) (v := .int .i64 k) rfl (by kernel_rfl) (by kernel_rfl) (by kernel_rfl) (by kernel_rfl) (fun _ _ _ h => h) (Or.inl ⟨by rfl, by intro w hSw; go_simp⟩) hHeld ?_
          simp only [Act.put, List.setIfInBounds_toArray, List.set_cons_zero, List.set_cons_succ]
          refine take (i := 2) (d := some 27) (v := .pointer (some ⟨w.heap.size, k, none⟩)) rfl (by kernel_rfl) (by kernel_rfl) (by kernel_rfl) (by kernel_rfl) (fun _ _ _ h => h) (Or.inl ⟨by rfl, by intro w hSw; go_simp⟩) hHeld ?_
          simp only [Act.put, List.setIfInBounds_toArray, List.set_cons_zero, List.set_cons_succ]
          refine take (i := 3) (d := some 28) (v := .iface 170 (.agg #[])) rfl (by kernel_rfl) (by kernel_rfl) (by kernel_rfl) (by kernel_rfl) (fun _ _ _ h => h) (Or.inl ⟨by rfl, by intro w hSw; have q1 := hSw.1; go_simp⟩) hHeld ?_
          simp only [Act.put, List.setIfInBounds_toArray, List.set_cons_zero, List.set_cons_succ]
          refine wpAnyH_ready (rs := [4]) (by kernel_rfl) (by simp) (Rg.call1 rfl (by kernel_rfl) 154 (.tmp 28) 158 (by kernel_rfl) 29 (by kernel_rfl) (.iface 170 (.agg #[])) (by kernel_rfl) (fun _ => rfl) (right5 _) ?_ AllReadyH.nil)
          rintro e w3 ⟨rfl, hb3⟩
          replace hb3 := Rw.next (Below.drew (Below.refl _ W2)) hb3
          replace q0 := (hb3.cell (World.block_lt_of_cell? _ _ q0)).trans q0
          replace kA2 := (hb3.block _ (Array.getElem?_eq_some_iff.1 kA2).1).trans kA2
          replace hrow2 := hrow2.of_block (hb3.block _ hrow2.lt)
          replace hb2 := Rw.next hb2 hb3
          clear hb3
          refine ⟨_, rfl, ⟨q0, kA2⟩, fun hHeld => ?_⟩
          simp only [Act.put, List.setIfInBounds_toArray, List.set_cons_zero, List.set_cons_succ]
          refine take (i := 5) (d := some 30) (v := .bool false) rfl (by kernel_rfl) (by kernel_rfl) (by kernel_rfl) (by kernel_rfl) (fun _ _ _ h => h) (Or.inl ⟨by rfl, by intro w hSw; go_simp⟩) hHeld ?_
          simp only [Act.put, List.setIfInBounds_toArray, List.set_cons_zero, List.set_cons_succ]
          refine take (i := 6) (d := some 31) (v := .bool false) rfl (by kernel_rfl) (by kernel_rfl) (by kernel_rfl) (by kernel_rfl) (fun _ _ _ h => h) (Or.inl ⟨by rfl, by intro w hSw; go_simp⟩) hHeld ?_
          simp only [Act.put, List.setIfInBounds_toArray, List.set_cons_zero, List.set_cons_succ]
          refine take (i := 7) (d := some 32) (v := .slice (some ⟨w.heap.size, 0, none⟩) n n) rfl (by kernel_rfl) (by kernel_rfl) (by kernel_rfl) (by kernel_rfl) (fun _ _ _ h => h) (Or.inl ⟨by rfl, by intro w hSw; go_simp⟩) hHeld ?_
          simp only [Act.put, List.setIfInBounds_toArray, List.set_cons_zero, List.set_cons_succ]
          refine take (i := 8) (d := some 33) (v := .int .i64 k) rfl (by kernel_rfl) (by kernel_rfl) (by kernel_rfl) (by kernel_rfl) (fun _ _ _ h => h) (Or.inl ⟨by rfl, by intro w hSw; go_simp⟩) hHeld ?_
          simp only [Act.put, List.setIfInBounds_toArray, List.set_cons_zero, List.set_cons_succ]
          refine take (i := 9) (d := some 34) (v := .pointer (some ⟨w.heap.size, k, none⟩)) rfl (by kernel_rfl) (by kernel_rfl) (by kernel_rfl) (by kernel_rfl) (fun _ _ _ h => h) (Or.inl ⟨by rfl, by intro w hSw; go_simp⟩) hHeld ?_
          simp only [Act.put, List.setIfInBounds_toArray, List.set_cons_zero, List.set_cons_succ]
          refine take (i := 10) (d := some 35) (v := .iface 170 (.agg #[])) rfl (by kernel_rfl) (by kernel_rfl) (by kernel_rfl) (by kernel_rfl) (fun _ _ _ h => h) (Or.inl ⟨by rfl, by intro w hSw; have q1 := hSw.1; go_simp⟩) hHeld ?_
          simp only [Act.put, List.setIfInBounds_toArray, List.set_cons_zero, List.set_cons_succ]
          refine take (i := 12) (d := some 37) (v := .agg #[.int .i64 5, .int .i64 x1, .int .i64 x2]) rfl (by kernel_rfl) (by kernel_rfl) (by kernel_rfl) (by kernel_rfl) (fun _ _ _ h => h) (Or.inl ⟨by rfl, by intro w hSw; have q2 := hSw.2; have d0 := three0 q2; have d1 := three1 q2; have d2 := three2 q2; go_simp⟩) hHeld ?_
          simp only [Act.put, List.setIfInBounds_toArray, List.set_cons_zero, List.set_cons_succ]
          refine wpAnyH_ready (rs := [11]) (by kernel_rfl) (by simp) (Yf.callI rfl (by kernel_rfl) 180 (.tmp 35) rfl 36 (by kernel_rfl) (.iface 170 (.agg #[])) (.agg #[]) (by kernel_rfl) (fun w => by kernel_rfl) (act5 _) ?_ AllReadyH.nil)
          rintro e w4 ⟨rfl, hb4⟩
          replace q0 := (hb4.cell (World.block_lt_of_cell? _ _ q0)).trans q0
          replace kA2 := (hb4.block _ (Array.getElem?_eq_some_iff.1 kA2).1).trans kA2
          replace hrow2 := hrow2.of_block (hb4.block _ hrow2.lt)
          replace hb2 := Rw.next hb2 hb4
          clear hb4
          refine ⟨_, rfl, ⟨q0, kA2⟩, fun hHeld => ?_⟩
          simp only [Act.put, List.setIfInBounds_toArray, List.set_cons_zero, List.set_cons_succ]
          refine take (i := 13) (d := some 38) (v := .bool true) rfl (by kernel_rfl) (by kernel_rfl) (by kernel_rfl) (by kernel_rfl) (fun _ _ _ h => h) (Or.inl ⟨by rfl, by intro w hSw; go_simp⟩) hHeld ?_
          simp only [Act.put, List.setIfInBounds_toArray, List.set_cons_zero, List.set_cons_succ]
          refine take (i := 14) (d := some 39) (v := .bool true) rfl (by kernel_rfl) (by kernel_rfl) (by kernel_rfl) (by kernel_rfl) (fun _ _ _ h => h) (Or.inl ⟨by rfl, by intro w hSw; go_simp⟩) hHeld ?_
          simp only [Act.put, List.setIfInBounds_toArray, List.set_cons_zero, List.set_cons_succ]
          refine wpAnyH_done (by kernel_rfl) ?_ _
          go_wp2
          all_goals exact bodyPost_ret (v := .tuple #[.slice none 0 0, .bool false]) (by simp [results, Try.results141, go_sem]) rfl ⟨hb2, fun _ => rfl, fun h => (by rw [hB] at h; cases h)⟩
      by_cases k3 : x0 = 3
      · subst k3
        cases hr : decide (x1 = 1 ∨ x1 = 2) && Hg.fits x1 x2
        · have HR : Hid ((decide (x1 = 1 ∨ x1 = 2) && Hg.fits x1 x2) = false) := hr
          clear hr
          go_wp2_with (go_at_call 153; rw [← hW0]; refine (kind_any (3, x1, x2) _).mono ?_; rintro e w1 ⟨rfl, hb⟩; rw [show actV (3, x1, x2) = .iface 168 (.agg #[.int .i64 x1, .int .i64 x2]) from rfl]; replace hrow := hrow.of_block (hb.block _ hlw); replace kA := (hb.block _ zA).trans kA; replace hbel := Rw.next hbel hb; have g0 := hrow.cell hlt; have g1 := hrow.frozen k)
          obtain ⟨W2, hW2⟩ : ∃ W2, W2 = w1.setCell ⟨w.heap.size, k, none⟩ (.iface 168 (.agg #[.int .i64 x1, .int .i64 x2])) := ⟨_, rfl⟩
          rw [← hW2]
          have q0 : W2.cell? ⟨w.heap.size, k, none⟩ = some (.iface 168 (.agg #[.int .i64 x1, .int .i64 x2])) := by subst hW2; exact World.cell?_setCell_same _ _ _ g0
          have kA2 : W2.heap[wr.heap.size]? = some (.cells #[.int .i64 3, .int .i64 x1, .int .i64 x2] 147 (0, 0)) := by subst hW2; exact (Below.heap_setCell _ _ _ _ (fun h => hlt2 h.symm)).trans kA
          have hrow2 : W2.rowIs w.heap.size 158 n (row l (k + 1)) := by subst hW2; have := row_step hrow; rw [HX.out] at this; exact this
          have hb2 : Below w.heap.size w W2 := by subst hW2; exact hbel.setCell (by simp) _
          clear hW2 hrow g0 g1 hbel kA
          have hB := actsB_no (l := l) (k := k) (by have := HN.out; omega) (by rw [HX.out]; rw [actB_set]; exact HR.out)
          refine wp_region_held_drew (S := (fun w' => w'.cell? ⟨w.heap.size, k, none⟩ = some (.iface 168 (.agg #[.int .i64 x1, .int .i64 x2])) ∧ w'.heap[wr.heap.size]? = some (.cells #[.int .i64 3, .int .i64 x1, .int .i64 x2] 147 (0, 0)))) (by kernel_rfl) ⟨q0, kA2⟩ (fun hHeld => ?_)
          refine take (i := 0) (d := some 25) (v := .slice (some ⟨w.heap.size, 0, none⟩) n n) rfl (by kernel_rfl) (by kernel_rfl) (by kernel_rfl) (by kernel_rfl) (fun _ _ _ h => h) (Or.inl ⟨by rfl, by intro w hSw; go_simp⟩) hHeld ?_
          simp only [Act.put, List.setIfInBounds_toArray, List.set_cons_zero, List.set_cons_succ]
          refine take (i := 1) (d := some 26) (v := .int .i64 k) rfl (by kernel_rfl) (by kernel_rfl) (by kernel_rfl) (by kernel_rfl) (fun _ _ _ h => h) (Or.inl ⟨by rfl, by intro w hSw; go_simp⟩) hHeld ?_
          simp only [Act.put, List.setIfInBounds_toArray, List.set_cons_zero, List.set_cons_succ]
          refine take (i := 2) (d := some 27) (v := .pointer (some ⟨w.heap.size, k, none⟩)) rfl (by kernel_rfl) (by kernel_rfl) (by kernel_rfl) (by kernel_rfl) (fun _ _ _ h => h) (Or.inl ⟨by rfl, by intro w hSw; go_simp⟩) hHeld ?_
          simp only [Act.put, List.setIfInBounds_toArray, List.set_cons_zero, List.set_cons_succ]
          refine take (i := 3) (d := some 28) (v := .iface 168 (.agg #[.int .i64 x1, .int .i64 x2])) rfl (by kernel_rfl) (by kernel_rfl) (by kernel_rfl) (by kernel_rfl) (fun _ _ _ h => h) (Or.inl ⟨by rfl, by intro w hSw; have q1 := hSw.1; go_simp⟩) hHeld ?_
          simp only [Act.put, List.setIfInBounds_toArray, List.set_cons_zero, List.set_cons_succ]
          refine wpAnyH_ready (rs := [4]) (by kernel_rfl) (by simp) (Rg.call1 rfl (by kernel_rfl) 154 (.tmp 28) 158 (by kernel_rfl) 29 (by kernel_rfl) (.iface 168 (.agg #[.int .i64 x1, .int .i64 x2])) (by kernel_rfl) (fun _ => rfl) (Yf.right3b HR.out _) ?_ AllReadyH.nil)
          rintro e w3 ⟨rfl, hb3⟩
          replace hb3 := Rw.next (Below.drew (Below.refl _ W2)) hb3
          replace q0 := (hb3.cell (World.block_lt_of_cell? _ _ q0)).trans q0
          replace kA2 := (hb3.block _ (Array.getElem?_eq_some_iff.1 kA2).1).trans kA2
          replace hrow2 := hrow2.of_block (hb3.block _ hrow2.lt)
          replace hb2 := Rw.next hb2 hb3
          clear hb3
          refine ⟨_, rfl, ⟨q0, kA2⟩, fun hHeld => ?_⟩
          simp only [Act.put, List.setIfInBounds_toArray, List.set_cons_zero, List.set_cons_succ]
          refine take (i := 5) (d := some 30) (v := .bool true) rfl (by kernel_rfl) (by kernel_rfl) (by kernel_rfl) (by kernel_rfl) (fun _ _ _ h => h) (Or.inl ⟨by rfl, by intro w hSw; go_simp⟩) hHeld ?_
          simp only [Act.put, List.setIfInBounds_toArray, List.set_cons_zero, List.set_cons_succ]
          refine take (i := 6) (d := some 31) (v := .bool true) rfl (by kernel_rfl) (by kernel_rfl) (by kernel_rfl) (by kernel_rfl) (fun _ _ _ h => h) (Or.inl ⟨by rfl, by intro w hSw; go_simp⟩) hHeld ?_
          simp only [Act.put, List.setIfInBounds_toArray, List.set_cons_zero, List.set_cons_succ]
          refine take (i := 7) (d := some 32) (v := undef) rfl (by kernel_rfl) (by kernel_rfl) (by kernel_rfl) (by kernel_rfl) (fun _ _ _ h => h) (Or.inr ⟨by rfl, rfl⟩) hHeld ?_
          simp only [Act.put, List.setIfInBounds_toArray, List.set_cons_zero, List.set_cons_succ]
          refine take (i := 8) (d := some 33) (v := undef) rfl (by kernel_rfl) (by kernel_rfl) (by kernel_rfl) (by kernel_rfl) (fun _ _ _ h => h) (Or.inr ⟨by rfl, rfl⟩) hHeld ?_
          simp only [Act.put, List.setIfInBounds_toArray, List.set_cons_zero, List.set_cons_succ]
          refine take (i := 9) (d := some 34) (v := undef) rfl (by kernel_rfl) (by kernel_rfl) (by kernel_rfl) (by kernel_rfl) (fun _ _ _ h => h) (Or.inr ⟨by rfl, rfl⟩) hHeld ?_
          simp only [Act.put, List.setIfInBounds_toArray, List.set_cons_zero, List.set_cons_succ]
          refine take (i := 10) (d := some 35) (v := undef) rfl (by kernel_rfl) (by kernel_rfl) (by kernel_rfl) (by kernel_rfl) (fun _ _ _ h => h) (Or.inr ⟨by rfl, rfl⟩) hHeld ?_
          simp only [Act.put, List.setIfInBounds_toArray, List.set_cons_zero, List.set_cons_succ]
          refine take (i := 11) (d := some 36) (v := undef) rfl (by kernel_rfl) (by kernel_rfl) (by kernel_rfl) (by kernel_rfl) (fun _ _ _ h => h) (Or.inr ⟨by rfl, rfl⟩) hHeld ?_
          simp only [Act.put, List.setIfInBounds_toArray, List.set_cons_zero, List.set_cons_succ]
          refine take (i := 12) (d := some 37) (v := undef) rfl (by kernel_rfl) (by kernel_rfl) (by kernel_rfl) (by kernel_rfl) (fun _ _ _ h => h) (Or.inr ⟨by rfl, rfl⟩) hHeld ?_
          simp only [Act.put, List.setIfInBounds_toArray, List.set_cons_zero, List.set_cons_succ]
          refine take (i := 13) (d := some 38) (v := undef) rfl (by kernel_rfl) (by kernel_rfl) (by kernel_rfl) (by kernel_rfl) (fun _ _ _ h => h) (Or.inr ⟨by rfl, rfl⟩) hHeld ?_
          simp only [Act.put, List.setIfInBounds_toArray, List.set_cons_zero, List.set_cons_succ]
          refine take (i := 14) (d := some 39) (v := .bool true) rfl (by kernel_rfl) (by kernel_rfl) (by kernel_rfl) (by kernel_rfl) (fun _ _ _ h => h) (Or.inl ⟨by rfl, by intro w hSw; go_simp⟩) hHeld ?_
          simp only [Act.put, List.setIfInBounds_toArray, List.set_cons_zero, List.set_cons_succ]
          refine wpAnyH_done (by kernel_rfl) ?_ _
          go_wp2
          all_goals exact bodyPost_ret (v := .tuple #[.slice none 0 0, .bool false]) (by simp [results, Try.results141, go_sem]) rfl ⟨hb2, fun _ => rfl, fun h => (by rw [hB] at h; cases h)⟩
        · have HR : Hid ((decide (x1 = 1 ∨ x1 = 2) && Hg.fits x1 x2) = true) := hr
          clear hr
          go_wp2_with (go_at_call 153; rw [← hW0]; refine (kind_any (3, x1, x2) _).mono ?_; rintro e w1 ⟨rfl, hb⟩; rw [show actV (3, x1, x2) = .iface 168 (.agg #[.int .i64 x1, .int .i64 x2]) from rfl]; replace hrow := hrow.of_block (hb.block _ hlw); replace kA := (hb.block _ zA).trans kA; replace hbel := Rw.next hbel hb; have g0 := hrow.cell hlt; have g1 := hrow.frozen k)
          obtain ⟨W2, hW2⟩ : ∃ W2, W2 = w1.setCell ⟨w.heap.size, k, none⟩ (.iface 168 (.agg #[.int .i64 x1, .int .i64 x2])) := ⟨_, rfl⟩
          rw [← hW2]
          have q0 : W2.cell? ⟨w.heap.size, k, none⟩ = some (.iface 168 (.agg #[.int .i64 x1, .int .i64 x2])) := by subst hW2; exact World.cell?_setCell_same _ _ _ g0
          have kA2 : W2.heap[wr.heap.size]? = some (.cells #[.int .i64 3, .int .i64 x1, .int .i64 x2] 147 (0, 0)) := by subst hW2; exact (Below.heap_setCell _ _ _ _ (fun h => hlt2 h.symm)).trans kA
          have hrow2 : W2.rowIs w.heap.size 158 n (row l (k + 1)) := by subst hW2; have := row_step hrow; rw [HX.out] at this; exact this
          have hb2 : Below w.heap.size w W2 := by subst hW2; exact hbel.setCell (by simp) _
          clear hW2 hrow g0 g1 hbel kA
          have hB := pre_step HP.out (by rw [HX.out]; rw [actB_set]; exact HR.out)
          refine wp_region_held_drew (S := (fun w' => w'.cell? ⟨w.heap.size, k, none⟩ = some (.iface 168 (.agg #[.int .i64 x1, .int .i64 x2])) ∧ w'.heap[wr.heap.size]? = some (.cells #[.int .i64 3, .int .i64 x1, .int .i64 x2] 147 (0, 0)))) (by kernel_rfl) ⟨q0, kA2⟩ (fun hHeld => ?_)
          refine take (i := 0) (d := some 25) (v := .slice (some ⟨w.heap.size, 0, none⟩) n n) rfl (by kernel_rfl) (by kernel_rfl) (by kernel_rfl) (by kernel_rfl) (fun _ _ _ h => h) (Or.inl ⟨by rfl, by intro w hSw; go_simp⟩) hHeld ?_
          simp only [Act.put, List.setIfInBounds_toArray, List.set_cons_zero, List.set_cons_succ]
          refine take (i := 1) (d := some 26) (v := .int .i64 k) rfl (by kernel_rfl) (by kernel_rfl) (by kernel_rfl) (by kernel_rfl) (fun _ _ _ h => h) (Or.inl ⟨by rfl, by intro w hSw; go_simp⟩) hHeld ?_
          simp only [Act.put, List.setIfInBounds_toArray, List.set_cons_zero, List.set_cons_succ]
          refine take (i := 2) (d := some 27) (v := .pointer (some ⟨w.heap.size, k, none⟩)) rfl (by kernel_rfl) (by kernel_rfl) (by kernel_rfl) (by kernel_rfl) (fun _ _ _ h => h) (Or.inl ⟨by rfl, by intro w hSw; go_simp⟩) hHeld ?_
          simp only [Act.put, List.setIfInBounds_toArray, List.set_cons_zero, List.set_cons_succ]
          refine take (i := 3) (d := some 28) (v := .iface 168 (.agg #[.int .i64 x1, .int .i64 x2])) rfl (by kernel_rfl) (by kernel_rfl) (by kernel_rfl) (by kernel_rfl) (fun _ _ _ h => h) (Or.inl ⟨by rfl, by intro w hSw; have q1 := hSw.1; go_simp⟩) hHeld ?_
          simp only [Act.put, List.setIfInBounds_toArray, List.set_cons_zero, List.set_cons_succ]
          refine wpAnyH_ready (rs := [4]) (by kernel_rfl) (by simp) (Rg.call1 rfl (by kernel_rfl) 154 (.tmp 28) 158 (by kernel_rfl) 29 (by kernel_rfl) (.iface 168 (.agg #[.int .i64 x1, .int .i64 x2])) (by kernel_rfl) (fun _ => rfl) (Yf.right3b HR.out _) ?_ AllReadyH.nil)
          rintro e w3 ⟨rfl, hb3⟩
          replace hb3 := Rw.next (Below.drew (Below.refl _ W2)) hb3
          replace q0 := (hb3.cell (World.block_lt_of_cell? _ _ q0)).trans q0
          replace kA2 := (hb3.block _ (Array.getElem?_eq_some_iff.1 kA2).1).trans kA2
          replace hrow2 := hrow2.of_block (hb3.block _ hrow2.lt)
          replace hb2 := Rw.next hb2 hb3
          clear hb3
          refine ⟨_, rfl, ⟨q0, kA2⟩, fun hHeld => ?_⟩
          simp only [Act.put, List.setIfInBounds_toArray, List.set_cons_zero, List.set_cons_succ]
          refine take (i := 5) (d := some 30) (v := .bool false) rfl (by kernel_rfl) (by kernel_rfl) (by kernel_rfl) (by kernel_rfl) (fun _ _ _ h => h) (Or.inl ⟨by rfl, by intro w hSw; go_simp⟩) hHeld ?_
          simp only [Act.put, List.setIfInBounds_toArray, List.set_cons_zero, List.set_cons_succ]
          refine take (i := 6) (d := some 31) (v := .bool false) rfl (by kernel_rfl) (by kernel_rfl) (by kernel_rfl) (by kernel_rfl) (fun _ _ _ h => h) (Or.inl ⟨by rfl, by intro w hSw; go_simp⟩) hHeld ?_
          simp only [Act.put, List.setIfInBounds_toArray, List.set_cons_zero, List.set_cons_succ]
          refine take (i := 7) (d := some 32) (v := .slice (some ⟨w.heap.size, 0, none⟩) n n) rfl (by kernel_rfl) (by kernel_rfl) (by kernel_rfl) (by kernel_rfl) (fun _ _ _ h => h) (Or.inl ⟨by rfl, by intro w hSw; go_simp⟩) hHeld ?_
          simp only [Act.put, List.setIfInBounds_toArray, List.set_cons_zero, List.set_cons_succ]
          refine take (i := 8) (d := some 33) (v := .int .i64 k) rfl (by kernel_rfl) (by kernel_rfl) (by kernel_rfl) (by kernel_rfl) (fun _ _ _ h => h) (Or.inl ⟨by rfl, by intro w hSw; go_simp⟩) hHeld ?_
          simp only [Act.put, List.setIfInBounds_toArray, List.set_cons_zero, List.set_cons_succ]
          refine take (i := 9) (d := some 34) (v := .pointer (some ⟨w.heap.size, k, none⟩)) rfl (by kernel_rfl) (by kernel_rfl) (by kernel_rfl) (by kernel_rfl) (fun _ _ _ h => h) (Or.inl ⟨by rfl, by intro w hSw; go_simp⟩) hHeld ?_
          simp only [Act.put, List.setIfInBounds_toArray, List.set_cons_zero, List.set_cons_succ]
          refine take (i := 10) (d := some 35) (v := .iface 168 (.agg #[.int .i64 x1, .int .i64 x2])) rfl (by kernel_rfl) (by kernel_rfl) (by kernel_rfl) (by kernel_rfl) (fun _ _ _ h => h) (Or.inl ⟨by rfl, by intro w hSw; have q1 := hSw.1; go_simp⟩) hHeld ?_
          simp only [Act.put, List.setIfInBounds_toArray, List.set_cons_zero, List.set_cons_succ]
          refine take (i := 12) (d := some 37) (v := .agg #[.int .i64 3, .int .i64 x1, .int .i64 x2]) rfl (by kernel_rfl) (by kernel_rfl) (by kernel_rfl) (by kernel_rfl) (fun _ _ _ h => h) (Or.inl ⟨by rfl, by intro w hSw; have q2 := hSw.2; have d0 := three0 q2; have d1 := three1 q2; have d2 := three2 q2; go_simp⟩) hHeld ?_
          simp only [Act.put, List.setIfInBounds_toArray, List.set_cons_zero, List.set_cons_succ]
          refine wpAnyH_ready (rs := [11]) (by kernel_rfl) (by simp) (Yf.callI rfl (by kernel_rfl) 178 (.tmp 35) rfl 36 (by kernel_rfl) (.iface 168 (.agg #[.int .i64 x1, .int .i64 x2])) (.agg #[.int .i64 x1, .int .i64 x2]) (by kernel_rfl) (fun w => by kernel_rfl) (act3 x1 x2 _) ?_ AllReadyH.nil)
          rintro e w4 ⟨rfl, hb4⟩
          replace q0 := (hb4.cell (World.block_lt_of_cell? _ _ q0)).trans q0
          replace kA2 := (hb4.block _ (Array.getElem?_eq_some_iff.1 kA2).1).trans kA2
          replace hrow2 := hrow2.of_block (hb4.block _ hrow2.lt)
          replace hb2 := Rw.next hb2 hb4
          clear hb4
          refine ⟨_, rfl, ⟨q0, kA2⟩, fun hHeld => ?_⟩
          simp only [Act.put, List.setIfInBounds_toArray, List.set_cons_zero, List.set_cons_succ]
          refine take (i := 13) (d := some 38) (v := .bool false) rfl (by kernel_rfl) (by kernel_rfl) (by kernel_rfl) (by kernel_rfl) (fun _ _ _ h => h) (Or.inl ⟨by rfl, by intro w hSw; go_simp⟩) hHeld ?_
          simp only [Act.put, List.setIfInBounds_toArray, List.set_cons_zero, List.set_cons_succ]
          refine take (i := 14) (d := some 39) (v := .bool false) rfl (by kernel_rfl) (by kernel_rfl) (by kernel_rfl) (by kernel_rfl) (fun _ _ _ h => h) (Or.inl ⟨by rfl, by intro w hSw; go_simp⟩) hHeld ?_
          simp only [Act.put, List.setIfInBounds_toArray, List.set_cons_zero, List.set_cons_succ]
          refine wpAnyH_done (by kernel_rfl) ?_ _
          go_wp2
          all_goals go_roundw
          all_goals first | exact ⟨k + 1, by omega, by go_num, hb2, hrow2, hB⟩ | (simp [intOf]; omega)
      have hV6 : actV (x0, x1, x2) = .nilIface := by simp [actV, k1, k2, k3, k4, k5]
      go_wp2_with (go_at_call 153; rw [← hW0]; refine (kind_any (x0, x1, x2) _).mono ?_; rintro e w1 ⟨rfl, hb⟩; rw [show actV (x0, x1, x2) = .nilIface from hV6]; replace hrow := hrow.of_block (hb.block _ hlw); replace kA := (hb.block _ zA).trans kA; replace hbel := Rw.next hbel hb; have g0 := hrow.cell hlt; have g1 := hrow.frozen k)
      obtain ⟨W2, hW2⟩ : ∃ W2, W2 = w1.setCell ⟨w.heap.size, k, none⟩ (.nilIface) := ⟨_, rfl⟩
      rw [← hW2]
      have q0 : W2.cell? ⟨w.heap.size, k, none⟩ = some (.nilIface) := by subst hW2; exact World.cell?_setCell_same _ _ _ g0
      have kA2 : W2.heap[wr.heap.size]? = some (.cells #[.int .i64 x0, .int .i64 x1, .int .i64 x2] 147 (0, 0)) := by subst hW2; exact (Below.heap_setCell _ _ _ _ (fun h => hlt2 h.symm)).trans kA
      have hrow2 : W2.rowIs w.heap.size 158 n (row l (k + 1)) := by subst hW2; have := row_step hrow; rw [HX.out] at this; rw [hV6] at this; exact this
      have hb2 : Below w.heap.size w W2 := by subst hW2; exact hbel.setCell (by simp) _
      clear hW2 hrow g0 g1 hbel kA
      have hB := actsB_no (l := l) (k := k) (by have := HN.out; omega) (by rw [HX.out]; simp [actB, k1, k2, k3, k4, k5])
      refine wp_region_held_drew (S := (fun w' => w'.cell? ⟨w.heap.size, k, none⟩ = some (.nilIface) ∧ w'.heap[wr.heap.size]? = some (.cells #[.int .i64 x0, .int .i64 x1, .int .i64 x2] 147 (0, 0)))) (by kernel_rfl) ⟨q0, kA2⟩ (fun hHeld => ?_)
      refine take (i := 0) (d := some 25) (v := .slice (some ⟨w.heap.size, 0, none⟩) n n) rfl (by kernel_rfl) (by kernel_rfl) (by kernel_rfl) (by kernel_rfl) (fun _ _ _ h => h) (Or.inl ⟨by rfl, by intro w hSw; go_simp⟩) hHeld ?_
      simp only [Act.put, List.setIfInBounds_toArray, List.set_cons_zero, List.set_cons_succ]
      refine take (i := 1) (d := some 26) (v := .int .i64 k) rfl (by kernel_rfl) (by kernel_rfl) (by kernel_rfl) (by kernel_rfl) (fun _ _ _ h => h) (Or.inl ⟨by rfl, by intro w hSw; go_simp⟩) hHeld ?_
      simp only [Act.put, List.setIfInBounds_toArray, List.set_cons_zero, List.set_cons_succ]
      refine take (i := 2) (d := some 27) (v := .pointer (some ⟨w.heap.size, k, none⟩)) rfl (by kernel_rfl) (by kernel_rfl) (by kernel_rfl) (by kernel_rfl) (fun _ _ _ h => h) (Or.inl ⟨by rfl, by intro w hSw; go_simp⟩) hHeld ?_
      simp only [Act.put, List.setIfInBounds_toArray, List.set_cons_zero, List.set_cons_succ]
      refine take (i := 3) (d := some 28) (v := .nilIface) rfl (by kernel_rfl) (by kernel_rfl) (by kernel_rfl) (by kernel_rfl) (fun _ _ _ h => h) (Or.inl ⟨by rfl, by intro w hSw; have q1 := hSw.1; go_simp⟩) hHeld ?_
      simp only [Act.put, List.setIfInBounds_toArray, List.set_cons_zero, List.set_cons_succ]
      refine wpAnyH_ready (rs := [4]) (by kernel_rfl) (by simp) (Rg.call1 rfl (by kernel_rfl) 154 (.tmp 28) 158 (by kernel_rfl) 29 (by kernel_rfl) (.nilIface) (by kernel_rfl) (fun _ => rfl) (right6 _) ?_ AllReadyH.nil)
      rintro e w3 ⟨rfl, hb3⟩
      replace hb3 := Rw.next (Below.drew (Below.refl _ W2)) hb3
      replace q0 := (hb3.cell (World.block_lt_of_cell? _ _ q0)).trans q0
      replace kA2 := (hb3.block _ (Array.getElem?_eq_some_iff.1 kA2).1).trans kA2
      replace hrow2 := hrow2.of_block (hb3.block _ hrow2.lt)
      replace hb2 := Rw.next hb2 hb3
      clear hb3
      refine ⟨_, rfl, ⟨q0, kA2⟩, fun hHeld => ?_⟩
      simp only [Act.put, List.setIfInBounds_toArray, List.set_cons_zero, List.set_cons_succ]
      refine take (i := 5) (d := some 30) (v := .bool true) rfl (by kernel_rfl) (by kernel_rfl) (by kernel_rfl) (by kernel_rfl) (fun _ _ _ h => h) (Or.inl ⟨by rfl, by intro w hSw; go_simp⟩) hHeld ?_
      simp only [Act.put, List.setIfInBounds_toArray, List.set_cons_zero, List.set_cons_succ]
      refine take (i := 6) (d := some 31) (v := .bool true) rfl (by kernel_rfl) (by kernel_rfl) (by kernel_rfl) (by kernel_rfl) (fun _ _ _ h => h) (Or.inl ⟨by rfl, by intro w hSw; go_simp⟩) hHeld ?_
      simp only [Act.put, List.setIfInBounds_toArray, List.set_cons_zero, List.set_cons_succ]
      refine take (i := 7) (d := some 32) (v := undef) rfl (by kernel_rfl) (by kernel_rfl) (by kernel_rfl) (by kernel_rfl) (fun _ _ _ h => h) (Or.inr ⟨by rfl, rfl⟩) hHeld ?_
      simp only [Act.put, List.setIfInBounds_toArray, List.set_cons_zero, List.set_cons_succ]
      refine take (i := 8) (d := some 33) (v := undef) rfl (by kernel_rfl) (by kernel_rfl) (by kernel_rfl) (by kernel_rfl) (fun _ _ _ h => h) (Or.inr ⟨by rfl, rfl⟩) hHeld ?_
      simp only [Act.put, List.setIfInBounds_toArray, List.set_cons_zero, List.set_cons_succ]
      refine take (i := 9) (d := some 34) (v := undef) rfl (by kernel_rfl) (by kernel_rfl) (by kernel_rfl) (by kernel_rfl) (fun _ _ _ h => h) (Or.inr ⟨by rfl, rfl⟩) hHeld ?_
      simp only [Act.put, List.setIfInBounds_toArray, List.set_cons_zero, List.set_cons_succ]
      refine take (i := 10) (d := some 35) (v := undef) rfl (by kernel_rfl) (by kernel_rfl) (by kernel_rfl) (by kernel_rfl) (fun _ _ _ h => h) (Or.inr ⟨by rfl, rfl⟩) hHeld ?_
      simp only [Act.put, List.setIfInBounds_toArray, List.set_cons_zero, List.set_cons_succ]
      refine take (i := 11) (d := some 36) (v := undef) rfl (by kernel_rfl) (by kernel_rfl) (by kernel_rfl) (by kernel_rfl) (fun _ _ _ h => h) (Or.inr ⟨by rfl, rfl⟩) hHeld ?_
      simp only [Act.put, List.setIfInBounds_toArray, List.set_cons_zero, List.set_cons_succ]
      refine take (i := 12) (d := some 37) (v := undef) rfl (by kernel_rfl) (by kernel_rfl) (by kernel_rfl) (by kernel_rfl) (fun _ _ _ h => h) (Or.inr ⟨by rfl, rfl⟩) hHeld ?_
      simp only [Act.put, List.setIfInBounds_toArray, List.set_cons_zero, List.set_cons_succ]
      refine take (i := 13) (d := some 38) (v := undef) rfl (by kernel_rfl) (by kernel_rfl) (by kernel_rfl) (by kernel_rfl) (fun _ _ _ h => h) (Or.inr ⟨by rfl, rfl⟩) hHeld ?_
      simp only [Act.put, List.setIfInBounds_toArray, List.set_cons_zero, List.set_cons_succ]
      refine take (i := 14) (d := some 39) (v := .bool true) rfl (by kernel_rfl) (by kernel_rfl) (by kernel_rfl) (by kernel_rfl) (fun _ _ _ h => h) (Or.inl ⟨by rfl, by intro w hSw; go_simp⟩) hHeld ?_
      simp only [Act.put, List.setIfInBounds_toArray, List.set_cons_zero, List.set_cons_succ]
      refine wpAnyH_done (by kernel_rfl) ?_ _
      go_wp2
      all_goals exact bodyPost_ret (v := .tuple #[.slice none 0 0, .bool false]) (by simp [results, Try.results141, go_sem]) rfl ⟨hb2, fun _ => rfl, fun h => (by rw [hB] at h; cases h)⟩
    · have he : k = n := by omega
      subst he
      go_wp2
      have := HN.out
      have hB := actsB_yes (l := l) (by omega) (by rw [← this]; exact HP.out)
      exact bodyPost_ret (v := .tuple #[.slice (some ⟨w.heap.size, 0, none⟩) k k, .bool true]) (by simp [results, Try.results141, go_sem]) rfl ⟨hbel, fun h => (by rw [hB] at h; cases h), fun _ => ⟨rfl, hrow⟩⟩

end Go.Proofs.Ytcbgnfjnjfaacaa.Yd
namespace Go.Proofs.Ytcbgnfjnjfaacaa.Ye
set_option maxRecDepth 8000
open Go Go.RowKit
open Num Pl Yb Yc Yd

theorem num_any (n : Int) (w : World) : Calls Try.prog 139 #[.int .i64 n] w fun e w' => e = .returned (.bool (numOkB n 6)) ∧ w' = w := by
  rw [Pk.num6]
  unfold Pk.numB
  by_cases h1 : 0 ≤ n
  · by_cases h2 : n ≤ 281474976710655
    · go_enter Try.func139, Try.ntmps139
      go_wp2
      go_ret
      exact ⟨ret_bool (by simp <;> omega), rfl⟩
    · go_enter Try.func139, Try.ntmps139
      go_wp2
      go_ret
      exact ⟨ret_bool (by simp <;> omega), rfl⟩
  · go_enter Try.func139, Try.ntmps139
    go_wp2
    go_ret
    exact ⟨ret_bool (by simp <;> omega), rfl⟩

set_option maxHeartbeats 40000000 in
theorem actsS (a : Option Addr) (b off cap : Nat) (l : List A3) (w : World) (h : Rd w a b off l) :
    Calls Try.prog 104 #[.slice a l.length cap] w fun e w' => e = .returned (.bool (actsB l)) ∧ Below w.heap.size w w' := by
  obtain ⟨hh, hc, hs⟩ := h
  by_cases h12 : 12 < l.length
  · have hz : (12 : Int) < (l.length : Int) := by omega
    rw [actsB_long h12]
    go_enter Try.func104, Try.ntmps104
    go_wp2
    go_ret
    exact ⟨rfl, Below.refl _ _⟩
  obtain ⟨n, hn⟩ : ∃ n, n = l.length := ⟨_, rfl⟩
  rw [← hn] at hh hc hs h12 ⊢
  have HN : Hid (n = l.length) := hn
  clear hn
  have hz : ¬ (12 : Int) < (n : Int) := by omega
  go_enter Try.func104, Try.ntmps104
  go_wp2
  go_loopw [11] (fun i wr => ∃ k : Nat, k ≤ n ∧ i = .int .i64 k ∧ Below w.heap.size w wr ∧ pre l k) (fun i _ => n - (intOf i).toNat)
  case atStart => exact ⟨0, Nat.zero_le _, rfl, Below.refl _ _, fun i hi => by omega⟩
  case round =>
    obtain ⟨k, hk, rfl, hbel, hpre⟩ := hrel
    have HP : Hid (pre l k) := hpre
    clear hpre
    by_cases hlt : k < n
    · obtain rfl := hh (by omega)
      have hkz : (k : Int) < (n : Int) := by omega
      obtain ⟨c0, c1, c2⟩ := (hc k hlt).of hbel (hc k hlt).lt
      generalize ex : l.getD k z3 = x at c0 c1 c2
      have HX : Hid (l.getD k z3 = x) := ex
      clear ex hc hh
      obtain ⟨x0, x1, x2⟩ := x
      simp only at c0 c1 c2
      replace hbel : ∀ o, Below w.heap.size w (wr.alloc o) := fun o => Rw.next hbel (below_alloc1 _ _)
      have HB : Hid (∀ o, Below w.heap.size w (wr.alloc o)) := hbel
      clear hbel
      have NO : Hid (actB (x0, x1, x2) = false → actsB l = false) := fun h => actsB_no (k := k) (by have := HN.out; omega) (by rw [HX.out]; exact h)
      have YES : Hid (actB (x0, x1, x2) = true → pre l (k + 1)) := fun h => pre_step HP.out (by rw [HX.out]; exact h)
      clear HX HP
      by_cases hz1 : x1 = 0
      · subst hz1
        by_cases hz2 : x2 = 0
        · subst hz2
          by_cases k1 : x0 = 1
          · subst k1
            go_wp2
            go_ret
            exact ⟨ret_bool (NO.out (by simp [actB])).symm, HB.out _⟩
          have e1 : (x0 == 1) = false := by simpa using k1
          by_cases k3 : x0 = 3
          · subst k3
            go_wp2
            go_ret
            exact ⟨ret_bool (NO.out (by simp [actB])).symm, HB.out _⟩
          have e3 : (x0 == 3) = false := by simpa using k3
          by_cases m1 : x0 < 1
          · skip
            go_wp2
            go_ret
            exact ⟨ret_bool (NO.out (by simp [actB, k1, k3]; omega)).symm, HB.out _⟩
          by_cases m5 : 5 < x0
          · skip
            go_wp2
            go_ret
            exact ⟨ret_bool (NO.out (by simp [actB, k1, k3]; omega)).symm, HB.out _⟩
          go_wp2
          go_roundw
          case rel => exact ⟨k + 1, by omega, by go_num, HB.out _, YES.out (by simp [actB, k1, k3]; omega)⟩
          case measure => simp [intOf]; omega
        · have f02 : (x2 == 0) = false := by simpa using hz2
          by_cases k1 : x0 = 1
          · subst k1
            go_wp2
            go_ret
            exact ⟨ret_bool (NO.out (by simp [actB])).symm, HB.out _⟩
          have e1 : (x0 == 1) = false := by simpa using k1
          by_cases k3 : x0 = 3
          · subst k3
            go_wp2
            go_ret
            exact ⟨ret_bool (NO.out (by simp [actB])).symm, HB.out _⟩
          have e3 : (x0 == 3) = false := by simpa using k3
          go_wp2
          go_ret
          exact ⟨ret_bool (NO.out (by simp [actB, k1, k3, hz2])).symm, HB.out _⟩
      · have f01 : (x1 == 0) = false := by simpa using hz1
        by_cases hz2 : x2 = 0
        · subst hz2
          by_cases k1 : x0 = 1
          · subst k1
            by_cases p1 : 1 ≤ x1
            · by_cases p2 : x1 ≤ 255
              · skip
                go_wp2
                go_roundw
                case rel => exact ⟨k + 1, by omega, by go_num, HB.out _, YES.out (by simp [actB, p1, p2])⟩
                case measure => simp [intOf]; omega
              · skip
                go_wp2
                go_ret
                exact ⟨ret_bool (NO.out (by simp [actB]; omega)).symm, HB.out _⟩
            · skip
              go_wp2
              go_ret
              exact ⟨ret_bool (NO.out (by simp [actB]; omega)).symm, HB.out _⟩
          have e1 : (x0 == 1) = false := by simpa using k1
          by_cases k3 : x0 = 3
          · subst k3
            by_cases p1 : x1 = 1
            · subst p1
              cases hR : numOkB 0 6
              · have HR : Hid (numOkB 0 6 = false) := hR
                clear hR
                go_wp2_with (go_at_call 139; refine (num_any _ _).mono ?_; rw [HR.out]; rintro e w3 ⟨rfl, hw⟩; replace hw := hw.symm; subst hw)
                go_ret
                exact ⟨ret_bool (NO.out (by simp [actB]; exact HR.out)).symm, HB.out _⟩
              · have HR : Hid (numOkB 0 6 = true) := hR
                clear hR
                go_wp2_with (go_at_call 139; refine (num_any _ _).mono ?_; rw [HR.out]; rintro e w3 ⟨rfl, hw⟩; replace hw := hw.symm; subst hw)
                go_roundw
                case rel => exact ⟨k + 1, by omega, by go_num, HB.out _, YES.out (by simp [actB]; exact HR.out)⟩
                case measure => simp [intOf]; omega
            by_cases p2 : x1 = 2
            · subst p2
              cases hR : numOkB 0 6
              · have HR : Hid (numOkB 0 6 = false) := hR
                clear hR
                go_wp2_with (go_at_call 139; refine (num_any _ _).mono ?_; rw [HR.out]; rintro e w3 ⟨rfl, hw⟩; replace hw := hw.symm; subst hw)
                go_ret
                exact ⟨ret_bool (NO.out (by simp [actB]; exact HR.out)).symm, HB.out _⟩
              · have HR : Hid (numOkB 0 6 = true) := hR
                clear hR
                go_wp2_with (go_at_call 139; refine (num_any _ _).mono ?_; rw [HR.out]; rintro e w3 ⟨rfl, hw⟩; replace hw := hw.symm; subst hw)
                go_roundw
                case rel => exact ⟨k + 1, by omega, by go_num, HB.out _, YES.out (by simp [actB]; exact HR.out)⟩
                case measure => simp [intOf]; omega
            have f1 : (x1 == 1) = false := by simpa using p1
            have f2 : (x1 == 2) = false := by simpa using p2
            go_wp2
            go_ret
            exact ⟨ret_bool (NO.out (by simp [actB, p1, p2])).symm, HB.out _⟩
          have e3 : (x0 == 3) = false := by simpa using k3
          go_wp2
          go_ret
          exact ⟨ret_bool (NO.out (by simp [actB, k1, k3, hz1])).symm, HB.out _⟩
        · have f02 : (x2 == 0) = false := by simpa using hz2
          by_cases k1 : x0 = 1
          · subst k1
            by_cases p1 : 1 ≤ x1
            · by_cases p2 : x1 ≤ 255
              · skip
                go_wp2
                go_ret
                exact ⟨ret_bool (NO.out (by simp [actB, hz2])).symm, HB.out _⟩
              · skip
                go_wp2
                go_ret
                exact ⟨ret_bool (NO.out (by simp [actB]; omega)).symm, HB.out _⟩
            · skip
              go_wp2
              go_ret
              exact ⟨ret_bool (NO.out (by simp [actB]; omega)).symm, HB.out _⟩
          have e1 : (x0 == 1) = false := by simpa using k1
          by_cases k3 : x0 = 3
          · subst k3
            by_cases p1 : x1 = 1
            · subst p1
              cases hR : numOkB x2 6
              · have HR : Hid (numOkB x2 6 = false) := hR
                clear hR
                go_wp2_with (go_at_call 139; refine (num_any _ _).mono ?_; rw [HR.out]; rintro e w3 ⟨rfl, hw⟩; replace hw := hw.symm; subst hw)
                go_ret
                exact ⟨ret_bool (NO.out (by simp [actB]; exact HR.out)).symm, HB.out _⟩
              · have HR : Hid (numOkB x2 6 = true) := hR
                clear hR
                go_wp2_with (go_at_call 139; refine (num_any _ _).mono ?_; rw [HR.out]; rintro e w3 ⟨rfl, hw⟩; replace hw := hw.symm; subst hw)
                go_roundw
                case rel => exact ⟨k + 1, by omega, by go_num, HB.out _, YES.out (by simp [actB]; exact HR.out)⟩
                case measure => simp [intOf]; omega
            by_cases p2 : x1 = 2
            · subst p2
              cases hR : numOkB x2 6
              · have HR : Hid (numOkB x2 6 = false) := hR
                clear hR
                go_wp2_with (go_at_call 139; refine (num_any _ _).mono ?_; rw [HR.out]; rintro e w3 ⟨rfl, hw⟩; replace hw := hw.symm; subst hw)
                go_ret
                exact ⟨ret_bool (NO.out (by simp [actB]; exact HR.out)).symm, HB.out _⟩
              · have HR : Hid (numOkB x2 6 = true) := hR
                clear hR
                go_wp2_with (go_at_call 139; refine (num_any _ _).mono ?_; rw [HR.out]; rintro e w3 ⟨rfl, hw⟩; replace hw := hw.symm; subst hw)
                go_roundw
                case rel => exact ⟨k + 1, by omega, by go_num, HB.out _, YES.out (by simp [actB]; exact HR.out)⟩
                case measure => simp [intOf]; omega
            have f1 : (x1 == 1) = false := by simpa using p1
            have f2 : (x1 == 2) = false := by simpa using p2
            go_wp2
            go_ret
            exact ⟨ret_bool (NO.out (by simp [actB, p1, p2])).symm, HB.out _⟩
          have e3 : (x0 == 3) = false := by simpa using k3
          go_wp2
          go_ret
          exact ⟨ret_bool (NO.out (by simp [actB, k1, k3, hz1])).symm, HB.out _⟩
    · have he : k = n := by omega
      subst he
      go_wp2
      go_ret
      have := HN.out
      exact ⟨ret_bool (actsB_yes (l := l) (by omega) (by rw [← this]; exact HP.out)).symm, hbel⟩

end Go.Proofs.Ytcbgnfjnjfaacaa.Ye
namespace Go.Proofs.Ytcbgnfjnjfaacaa.Hb
open Go Go.RowKit
open Num Pl Hr Hh Hf Hg

/-- What headBy hands back. -/
def Made (w : World) (L : List Int) (e : Ending) (w' : World) : Prop :=
  ∃ g, e = .returned (.agg #[.slice (some ⟨g, 0, none⟩) 8 8]) ∧ Mine w' g L ∧ w.heap.size ≤ g ∧ Below w.heap.size w w'
/-- What the closure tells. -/
def Tells (c : Nat) (p1 p2 p3 : Value) (L : List Int) (w : World) : Prop :=
  ∀ k : Nat, k < 8 → ∀ w', Below w.heap.size w w' → Calls Try.prog c #[.int .i64 k, p1, p2, p3] w' fun e w'' => e = .returned (.int .i64 (L.getD k 0)) ∧ w'' = w'

end Go.Proofs.Ytcbgnfjnjfaacaa.Hb
namespace Go.Proofs.Ytcbgnfjnjfaacaa.Yg
set_option maxRecDepth 8000
open Go Go.RowKit
open Num Pl Yb Yc Yd

theorem actsI (a : Option Addr) (b off cap : Nat) (l : List A3) (w : World) (h : Rd w a b off l) :
    Calls Try.prog 106 #[.slice a l.length cap] w fun e w' => e = .returned (.bool (actsB l)) ∧ Below w.heap.size w w' := by
  cases hB : actsB l
  · go_enter Try.func106, Try.ntmps106
    go_wp2_with (go_at_call 141; refine (acts_any _ _ _ _ _ _ h).mono ?_; rintro e w1 ⟨hb, h0, h1⟩; obtain rfl := h0 hB; clear h0 h1)
    go_ret
    exact ⟨rfl, hb⟩
  · go_enter Try.func106, Try.ntmps106
    go_wp2_with (go_at_call 141; refine (acts_any _ _ _ _ _ _ h).mono ?_; rintro e w1 ⟨hb, h0, h1⟩; obtain ⟨rfl, _⟩ := h1 hB; clear h0 h1)
    go_ret
    exact ⟨rfl, hb⟩

/-- There is an action of the kind. -/
def anyK (l : List A3) (q : Int) : Bool := decide (∃ i, i < l.length ∧ (l.getD i z3).1 = q)
def hasB (l : List A3) (q : Int) : Bool := actsB l && anyK l q
theorem anyK_yes {l : List A3} {q : Int} {k : Nat} (hk : k < l.length) (h : (l.getD k z3).1 = q) : anyK l q = true := decide_eq_true ⟨k, hk, h⟩
theorem anyK_no {l : List A3} {q : Int} (h : ∀ i, i < l.length → (l.getD i z3).1 ≠ q) : anyK l q = false := decide_eq_false fun ⟨i, hi, e⟩ => h i hi e

def sameB (l m : List A3) : Bool := actsB l && decide (l = m)

end Go.Proofs.Ytcbgnfjnjfaacaa.Yg
namespace Go.Proofs.Ytcbgnfjnjfaacaa.Ea
set_option maxRecDepth 8000
set_option linter.unusedSimpArgs false
set_option linter.unusedVariables false
open Go Go.RowKit
open Num Pl

set_option maxHeartbeats 1000000 in
theorem eqT_same (q : Int) (a a' : Option Addr) (b off c b' off' c' : Nat) (Q F : List Ent) (w : World) (hQ : Rd w a b off Q) (hF : Rd w a' b' off' F) (hs : Q.map Ent.said = F.map Ent.said) :
    Calls Try.prog 41 #[.agg #[.int .i64 q, .slice a Q.length c], .agg #[.int .i64 q, .slice a' F.length c']] w fun x w' => x = .returned (.bool true) ∧ Below w.heap.size w w' := by
  obtain ⟨W1, hW1⟩ : ∃ W1, W1 = (w.alloc (.cells #[.int .i64 q, .slice a Q.length c] 38)).alloc (.cells #[.int .i64 q, .slice a' F.length c'] 38) := ⟨_, rfl⟩
  have B1 : Below w.heap.size w W1 := by subst hW1; exact Rw.next (below_alloc1 _ _) (below_alloc1 _ _)
  replace hQ := hQ.below B1
  replace hF := hF.below B1
  go_enter Try.func41, Try.ntmps41
  go_wp2_with (go_at_call 110; rw [← hW1]; clear hW1; refine (eqS_same _ _ _ _ _ _ _ _ Q F _ hQ hF hs).mono ?_; rintro x wa ⟨rfl, ba⟩)
  go_ret
  exact ⟨rfl, Rw.next B1 ba⟩

def upB (m n : Int) : Bool := decide (0 ≤ n) && decide (n ≤ m)
theorem upTo_any (m n : Int) (w : World) : Calls Try.prog 91 #[.int .i64 m, .int .i64 n] w fun e w' => e = .returned (.bool (upB m n)) ∧ w' = w := by
  by_cases h0 : 0 ≤ n
  · go_enter Try.func91, Try.ntmps91
    go_wp2
    go_ret
    exact ⟨ret_bool (by simp [upB, h0]), rfl⟩
  · go_enter Try.func91, Try.ntmps91
    go_wp2
    go_ret
    exact ⟨ret_bool (by simp [upB]; omega), rfl⟩

/-- Is an entry right? -/
def enB (x : En) : Bool := upB 1000000000 x.1 && (upB 65535 x.2.1 && (upB 1000000000 x.2.2.2.2.2 && (Po.matchB x.2.2.1 x.2.2.2.1 && Yd.actsB x.2.2.2.2.1)))

set_option maxHeartbeats 4000000 in
theorem okE_impl (e : Ent) (w : World) (h : e.Ok w) : Calls Try.prog 36 #[.agg e.vals] w fun x w' => x = .returned (.bool (enB e.said)) ∧ Below w.heap.size w w' := by
  obtain ⟨ep, pr, V, M, A, hh, aV, bV, oV, cV, aM, bM, oM, cM, aA, bA, oA, cA⟩ := e
  obtain ⟨rV, rM, rA, wV, wM⟩ := h
  simp only at rV rM rA wV wM
  simp only [Ent.vals, enB, Ent.said]
  obtain ⟨W1, hW1⟩ : ∃ W1, W1 = w.alloc (.cells #[.int .i64 ep, .int .i64 pr, .slice aV V.length cV, .slice aM M.length cM, .slice aA A.length cA, .int .i64 hh] 41) := ⟨_, rfl⟩
  have B1 : Below w.heap.size w W1 := by subst hW1; exact below_alloc1 _ _
  have k0 : W1.heap[w.heap.size]? = some (.cells #[.int .i64 ep, .int .i64 pr, .slice aV V.length cV, .slice aM M.length cM, .slice aA A.length cA, .int .i64 hh] 41 (0, 0)) := by subst hW1; exact at_new rfl
  replace rV := rV.below B1
  replace rM := rM.below B1
  replace rA := rA.below B1
  generalize hb1 : upB 1000000000 ep = b1
  generalize hb2 : upB 65535 pr = b2
  generalize hb3 : upB 1000000000 hh = b3
  generalize hb4 : Po.matchB V M = b4
  generalize hb5 : Yd.actsB A = b5
  have Hb1 : Hid (upB 1000000000 ep = b1) := hb1
  have Hb2 : Hid (upB 65535 pr = b2) := hb2
  have Hb3 : Hid (upB 1000000000 hh = b3) := hb3
  have Hb4 : Hid (Po.matchB V M = b4) := hb4
  have Hb5 : Hid (Yd.actsB A = b5) := hb5
  clear hb1 hb2 hb3 hb4 hb5
  cases b1
  · have t1 : True := trivial
    go_enter Try.func36, Try.ntmps36
    go_wp2_with (first
      | (go_at_call 91; clear t1; rw [← hW1]; clear hW1; refine (upTo_any _ _ _).mono ?_; rw [Hb1.out]; rintro x wa ⟨rfl, hw⟩; replace hw := hw.symm; subst hw; obtain ⟨p0, p1, p2, p3, p4, p5⟩ := six k0; have t2 : True := trivial))
    go_ret
    exact ⟨ret_bool (by simp), B1⟩
  · skip
    cases b2
    · have t1 : True := trivial
      go_enter Try.func36, Try.ntmps36
      go_wp2_with (first
      | (go_at_call 91; clear t1; rw [← hW1]; clear hW1; refine (upTo_any _ _ _).mono ?_; rw [Hb1.out]; rintro x wa ⟨rfl, hw⟩; replace hw := hw.symm; subst hw; obtain ⟨p0, p1, p2, p3, p4, p5⟩ := six k0; have t2 : True := trivial)
      | (go_at_call 91; clear t2; refine (upTo_any _ _ _).mono ?_; rw [Hb2.out]; rintro x wa ⟨rfl, hw⟩; replace hw := hw.symm; subst hw; have t3 : True := trivial))
      go_ret
      exact ⟨ret_bool (by simp), B1⟩
    · skip
      cases b3
      · have t1 : True := trivial
        go_enter Try.func36, Try.ntmps36
        go_wp2_with (first
      | (go_at_call 91; clear t1; rw [← hW1]; clear hW1; refine (upTo_any _ _ _).mono ?_; rw [Hb1.out]; rintro x wa ⟨rfl, hw⟩; replace hw := hw.symm; subst hw; obtain ⟨p0, p1, p2, p3, p4, p5⟩ := six k0; have t2 : True := trivial)
      | (go_at_call 91; clear t2; refine (upTo_any _ _ _).mono ?_; rw [Hb2.out]; rintro x wa ⟨rfl, hw⟩; replace hw := hw.symm; subst hw; have t3 : True := trivial)
      | (go_at_call 91; clear t3; refine (upTo_any _ _ _).mono ?_; rw [Hb3.out]; rintro x wa ⟨rfl, hw⟩; replace hw := hw.symm; subst hw))
        go_ret
        exact ⟨ret_bool (by simp), B1⟩
      · skip
        cases b4
        · have t1 : True := trivial
          go_enter Try.func36, Try.ntmps36
          go_wp2_with (first
      | (go_at_call 91; clear t1; rw [← hW1]; clear hW1; refine (upTo_any _ _ _).mono ?_; rw [Hb1.out]; rintro x wa ⟨rfl, hw⟩; replace hw := hw.symm; subst hw; obtain ⟨p0, p1, p2, p3, p4, p5⟩ := six k0; have t2 : True := trivial)
      | (go_at_call 91; clear t2; refine (upTo_any _ _ _).mono ?_; rw [Hb2.out]; rintro x wa ⟨rfl, hw⟩; replace hw := hw.symm; subst hw; have t3 : True := trivial)
      | (go_at_call 91; clear t3; refine (upTo_any _ _ _).mono ?_; rw [Hb3.out]; rintro x wa ⟨rfl, hw⟩; replace hw := hw.symm; subst hw)
      | (go_at_call 85; refine (Mi.ok_any _ _ _ _ _ _ _ _ V M _ rV rM wV).mono ?_; rw [Hb4.out]; rintro x wa ⟨rfl, ba⟩; replace k0 := (ba.block _ (blk_lt k0)).trans k0; clear p0 p1 p2 p3 p4 p5; obtain ⟨p0, p1, p2, p3, p4, p5⟩ := six k0; replace rA := rA.below ba; replace B1 := Rw.next B1 ba; clear ba))
          go_ret
          exact ⟨ret_bool (by simp), B1⟩
        · skip
          have t1 : True := trivial
          go_enter Try.func36, Try.ntmps36
          go_wp2_with (first
      | (go_at_call 91; clear t1; rw [← hW1]; clear hW1; refine (upTo_any _ _ _).mono ?_; rw [Hb1.out]; rintro x wa ⟨rfl, hw⟩; replace hw := hw.symm; subst hw; obtain ⟨p0, p1, p2, p3, p4, p5⟩ := six k0; have t2 : True := trivial)
      | (go_at_call 91; clear t2; refine (upTo_any _ _ _).mono ?_; rw [Hb2.out]; rintro x wa ⟨rfl, hw⟩; replace hw := hw.symm; subst hw; have t3 : True := trivial)
      | (go_at_call 91; clear t3; refine (upTo_any _ _ _).mono ?_; rw [Hb3.out]; rintro x wa ⟨rfl, hw⟩; replace hw := hw.symm; subst hw)
      | (go_at_call 85; refine (Mi.ok_any _ _ _ _ _ _ _ _ V M _ rV rM wV).mono ?_; rw [Hb4.out]; rintro x wa ⟨rfl, ba⟩; replace k0 := (ba.block _ (blk_lt k0)).trans k0; clear p0 p1 p2 p3 p4 p5; obtain ⟨p0, p1, p2, p3, p4, p5⟩ := six k0; replace rA := rA.below ba; replace B1 := Rw.next B1 ba; clear ba)
      | (go_at_call 106; refine (Yg.actsI _ _ _ _ A _ rA).mono ?_; rw [Hb5.out]; rintro x wa ⟨rfl, ba⟩; replace B1 := Rw.next B1 ba; clear ba))
          go_ret
          exact ⟨ret_bool (by simp), B1⟩

set_option maxHeartbeats 4000000 in
theorem okE_spec (e : Ent) (w : World) (h : e.Ok w) : Calls Try.prog 34 #[.agg e.vals] w fun x w' => x = .returned (.bool (enB e.said)) ∧ Below w.heap.size w w' := by
  obtain ⟨ep, pr, V, M, A, hh, aV, bV, oV, cV, aM, bM, oM, cM, aA, bA, oA, cA⟩ := e
  obtain ⟨rV, rM, rA, wV, wM⟩ := h
  simp only at rV rM rA wV wM
  simp only [Ent.vals, enB, Ent.said]
  obtain ⟨W1, hW1⟩ : ∃ W1, W1 = w.alloc (.cells #[.int .i64 ep, .int .i64 pr, .slice aV V.length cV, .slice aM M.length cM, .slice aA A.length cA, .int .i64 hh] 41) := ⟨_, rfl⟩
  have B1 : Below w.heap.size w W1 := by subst hW1; exact below_alloc1 _ _
  have k0 : W1.heap[w.heap.size]? = some (.cells #[.int .i64 ep, .int .i64 pr, .slice aV V.length cV, .slice aM M.length cM, .slice aA A.length cA, .int .i64 hh] 41 (0, 0)) := by subst hW1; exact at_new rfl
  replace rV := rV.below B1
  replace rM := rM.below B1
  replace rA := rA.below B1
  generalize hb4 : Po.matchB V M = b4
  generalize hb5 : Yd.actsB A = b5
  have Hb4 : Hid (Po.matchB V M = b4) := hb4
  have Hb5 : Hid (Yd.actsB A = b5) := hb5
  clear hb4 hb5
  by_cases c0 : ep < 0
  · go_enter Try.func34, Try.ntmps34
    go_wp2
    go_ret
    exact ⟨ret_bool (by simp [upB]; omega), below_alloc1 _ _⟩
  by_cases c1 : 1000000000 < ep
  · go_enter Try.func34, Try.ntmps34
    go_wp2
    go_ret
    exact ⟨ret_bool (by simp [upB]; omega), below_alloc1 _ _⟩
  by_cases c2 : pr < 0
  · go_enter Try.func34, Try.ntmps34
    go_wp2
    go_ret
    exact ⟨ret_bool (by simp [upB]; omega), below_alloc1 _ _⟩
  by_cases c3 : 65535 < pr
  · go_enter Try.func34, Try.ntmps34
    go_wp2
    go_ret
    exact ⟨ret_bool (by simp [upB]; omega), below_alloc1 _ _⟩
  by_cases c4 : hh < 0
  · go_enter Try.func34, Try.ntmps34
    go_wp2
    go_ret
    exact ⟨ret_bool (by simp [upB]; omega), below_alloc1 _ _⟩
  by_cases c5 : 1000000000 < hh
  · go_enter Try.func34, Try.ntmps34
    go_wp2
    go_ret
    exact ⟨ret_bool (by simp [upB]; omega), below_alloc1 _ _⟩
  have e1 : upB 1000000000 ep = true := by simp [upB]; omega
  have e2 : upB 65535 pr = true := by simp [upB]; omega
  have e3 : upB 1000000000 hh = true := by simp [upB]; omega
  rw [e1, e2, e3]
  clear e1 e2 e3
  cases b4
  · go_enter Try.func34, Try.ntmps34
    go_wp2_with (go_at_call 62; rw [← hW1]; clear hW1; refine (Ms.okS_any _ _ _ _ _ _ _ _ V M _ rV rM wV).mono ?_; rw [Hb4.out]; rintro x wa ⟨rfl, ba⟩; replace k0 := (ba.block _ (blk_lt k0)).trans k0; obtain ⟨p0, p1, p2, p3, p4, p5⟩ := six k0; replace rA := rA.below ba; replace B1 := Rw.next B1 ba; clear ba)
    go_ret
    exact ⟨ret_bool (by simp), B1⟩
  · go_enter Try.func34, Try.ntmps34
    go_wp2_with (first
      | (go_at_call 62; rw [← hW1]; clear hW1; refine (Ms.okS_any _ _ _ _ _ _ _ _ V M _ rV rM wV).mono ?_; rw [Hb4.out]; rintro x wa ⟨rfl, ba⟩; replace k0 := (ba.block _ (blk_lt k0)).trans k0; obtain ⟨p0, p1, p2, p3, p4, p5⟩ := six k0; replace rA := rA.below ba; replace B1 := Rw.next B1 ba; clear ba)
      | (go_at_call 104; refine (Ye.actsS _ _ _ _ A _ rA).mono ?_; rw [Hb5.out]; rintro x wa ⟨rfl, ba⟩; replace B1 := Rw.next B1 ba; clear ba))
    go_ret
    exact ⟨ret_bool (by simp), B1⟩

end Go.Proofs.Ytcbgnfjnjfaacaa.Ea
namespace Go.Proofs.Ytcbgnfjnjfaacaa.Ea
set_option maxRecDepth 8000
open Go Go.RowKit
open Num Pl

theorem ent_of_raw {w : World} {r : Raw} (h : r.Is w) (hl : r.len ≤ 1048576) : ∃ e : Ent, e.vals = r.vals ∧ e.Ok w := by
  obtain ⟨ep, pr, aV, nV, cV, aM, nM, cM, aA, nA, cA, hh⟩ := r
  obtain ⟨⟨zV, h1⟩, ⟨zM, h2⟩, ⟨zA, h3⟩⟩ := h
  simp only [Raw.len] at hl
  simp only at h1 h2 h3
  obtain ⟨bV, oV, V, lV, rV, wV⟩ := Lm.rd_wide h1 (by omega)
  obtain ⟨bM, oM, M, lM, rM, wM⟩ := Lm.rd_wide h2 (by omega)
  obtain ⟨bA, oA, A, lA, rA⟩ := Yb.rd_of_isRow h3 (by omega)
  exact ⟨⟨ep, pr, V, M, A, hh, aV, bV, oV, cV, aM, bM, oM, cM, aA, bA, oA, cA⟩, by simp [Ent.vals, Raw.vals, lV, lM, lA], ⟨rV, rM, rA, wV, wM⟩⟩
theorem len_le_tot (R : List Raw) {i : Nat} (h : i < R.length) : (R.getD i r0).len ≤ tot R R.length := by
  have := tot_mono R (i := i + 1) (j := R.length) (by omega)
  simp only [tot] at this
  omega
instance : Inhabited Ent := ⟨e0⟩
theorem rd_of_isRow {w : World} {a : Option Addr} {R : List Raw} (h : IsRow w a R) (hl : R.length + tot R R.length ≤ 1048576) : ∃ b off Q, List.length Q = R.length ∧ Rd w a b off Q := by
  obtain ⟨_, hi, hc⟩ := h
  obtain ⟨q, hq⟩ := Deep.choose_lt (n := R.length) (fun i h => ent_of_raw (hi i h) (by have := len_le_tot R h; omega))
  have ge : ∀ i, i < R.length → ((List.range R.length).map q).getD i e0 = q i := fun i hi => by simp [List.getD, hi]
  rcases hc with h0 | ⟨b, off, rfl, hc⟩
  · exact ⟨0, 0, [], h0.symm, ⟨fun h => by simp at h, fun i h => by simp at h, fun i h => by simp at h, by simp⟩⟩
  · refine ⟨b, off, (List.range R.length).map q, by simp, ⟨fun _ => rfl, fun i hi => ?_, fun i hi => ?_, by simp; omega⟩⟩
    · simp only [List.length_map, List.length_range] at hi
      rw [ge i hi, (hq i hi).1]
      exact hc i hi
    · simp only [List.length_map, List.length_range] at hi
      rw [ge i hi]
      exact (hq i hi).2

end Go.Proofs.Ytcbgnfjnjfaacaa.Ea
namespace Go.Proofs.Ytcbgnfjnjfaacaa.Em
set_option maxRecDepth 8000
set_option linter.unusedSimpArgs false
set_option linter.unusedVariables false
open Go Go.RowKit
open Num Pl Ea

/-- Actions that may be written. -/
structure WtA (w : World) (a : Option Addr) (g : Nat) (l : List Yb.A3) : Prop where
  head : 0 < l.length → a = some ⟨g, 0, none⟩
  cell : ∀ j, j < l.length * 3 → w.cell? ⟨g, j, none⟩ = some (.int .i64 (Yb.flat l j))
  free : ∀ j, j < l.length * 3 → w.frozen? ⟨g, j, none⟩ = false
  size : l.length ≤ 4194304
theorem WtA.rd {w : World} {a : Option Addr} {g : Nat} {l : List Yb.A3} (h : WtA w a g l) : Yb.Rd w a g 0 l := by
  refine ⟨h.head, fun i hi => ⟨?_, ?_, ?_⟩, h.size⟩
  · rw [← Yb.flat0, Nat.zero_add]; exact h.cell _ (by omega)
  · rw [← Yb.flat1, Nat.zero_add]; exact h.cell _ (by omega)
  · rw [← Yb.flat2, Nat.zero_add]; exact h.cell _ (by omega)
theorem mineA_wt {w : World} {g : Nat} {l : List Yb.A3} (h : Yb.Mine w g l) : WtA w (some ⟨g, 0, none⟩) g l :=
  ⟨fun _ => rfl, fun j hj => h.row.cell hj, fun j hj => h.row.frozen j, h.size⟩
theorem WtA.keep {w w' : World} {a : Option Addr} {g : Nat} {l : List Yb.A3} (h : WtA w a g l) (e : 0 < l.length → w'.heap[g]? = w.heap[g]?) : WtA w' a g l := by
  refine ⟨h.head, fun j hj => ?_, fun j hj => ?_, h.size⟩
  · have := h.cell j hj
    have e := e (by omega)
    simp only [World.cell?, e] at this ⊢; exact this
  · have := h.free j hj
    have e := e (by omega)
    simp only [World.frozen?, e] at this ⊢; exact this
theorem wt_keep {w w' : World} {a : Option Addr} {g : Nat} {l : List Int} (h : Hr.Wt w a g l) (e : 0 < l.length → w'.heap[g]? = w.heap[g]?) : Hr.Wt w' a g l := by
  refine ⟨h.head, fun j hj => ?_, fun j hj => ?_, h.size⟩
  · have := h.cell j hj
    have e := e (by omega)
    simp only [World.cell?, e] at this ⊢; exact this
  · have := h.free j hj
    have e := e (by omega)
    simp only [World.frozen?, e] at this ⊢; exact this
def marksA (k : Int) (n : Nat) : List Yb.A3 := (List.range n).map fun i : Nat => (k + 3 * (i : Int), k + 3 * (i : Int) + 1, k + 3 * (i : Int) + 2)
theorem marksA_len (k : Int) (n : Nat) : (marksA k n).length = n := by simp [marksA]
theorem marksA_flat (k : Int) (n j : Nat) (h : j < n * 3) : Yb.flat (marksA k n) j = k + (j : Int) := by
  have hj : j / 3 < n := by omega
  have e : (marksA k n).getD (j / 3) Yb.z3 = (k + 3 * ((j / 3 : Nat) : Int), k + 3 * ((j / 3 : Nat) : Int) + 1, k + 3 * ((j / 3 : Nat) : Int) + 2) := by simp [marksA, List.getD, hj]
  unfold Yb.flat
  rw [e]
  split
  · simp only; omega
  · split
    · simp only; omega
    · simp only; omega
/-- A cell of a row is written. -/
theorem set_at {w : World} {g n k : Nat} {f : Nat → Value} {u : Value} (h : ∀ i, i < n → w.cell? ⟨g, i, none⟩ = some (f i)) : ∀ i, i < n → (w.setCell ⟨g, k, none⟩ u).cell? ⟨g, i, none⟩ = some (if i = k then u else f i) := by
  intro i hi
  by_cases e : i = k
  · subst e
    rw [World.cell?_setCell_same _ _ _ (h i hi), if_pos rfl]
  · rw [World.cell?_setCell_other _ _ _ _ (by intro q; injection q with q1 q2; exact e q2.symm), h i hi, if_neg e]
def mixA (k : Int) (l : List Yb.A3) (m j : Nat) : Int := if j < m * 3 then k + (j : Int) else Yb.flat l j

set_option maxHeartbeats 1000000 in
theorem markA_any (k0 : Int) (h0 : 0 ≤ k0) (h1 : k0 ≤ 1000000000000) (a : Option Addr) (g cap : Nat) (l : List Yb.A3) (w : World) (h : WtA w a g l) :
    Calls Try.prog 112 #[.slice a l.length cap, .int .i64 k0] w fun e w' => e = .returned (.int .i64 (k0 + 3 * (l.length : Int))) ∧ Mf.Kept g l.length w w' ∧ WtA w' a g (marksA k0 l.length) := by
  obtain ⟨hh, hc, hf, hs⟩ := h
  obtain ⟨n, hn⟩ : ∃ n, n = l.length := ⟨_, rfl⟩
  rw [← hn] at hh hc hf hs ⊢
  have HC : Hid (∀ j, j < n * 3 → w.cell? ⟨g, j, none⟩ = some (.int .i64 (mixA k0 l 0 j))) := fun j hj => by simpa [mixA] using hc j hj
  have HF : Hid (∀ j, j < n * 3 → w.frozen? ⟨g, j, none⟩ = false) := hf
  have HH : Hid (0 < n → a = some ⟨g, 0, none⟩) := hh
  clear hc hf hn
  go_enter Try.func112, Try.ntmps112
  go_wp2
  go_loopw [1, 5] (fun q i wr => ∃ k : Nat, k ≤ n ∧ i = .int .i64 k ∧ q = .int .i64 (k0 + 3 * (k : Int)) ∧ Mf.Kept g n w wr ∧ (∀ j, j < n * 3 → wr.cell? ⟨g, j, none⟩ = some (.int .i64 (mixA k0 l k j))) ∧ ∀ j, j < n * 3 → wr.frozen? ⟨g, j, none⟩ = false) (fun _ i _ => n - (intOf i).toNat)
  case atStart => exact ⟨0, Nat.zero_le _, rfl, by simp, Mf.Kept.refl _ _ _, HC.out, HF.out⟩
  case round =>
    obtain ⟨k, hk, rfl, rfl, hon, hc, hf⟩ := hrel
    by_cases hlt : k < n
    · obtain rfl := hh (by omega)
      have hkz : (k : Int) < (n : Int) := by omega
      have g0 := hc (k * 3) (by omega)
      have g1 := hc (k * 3 + 1) (by omega)
      have g2 := hc (k * 3 + 2) (by omega)
      have f0 := hf (k * 3) (by omega)
      have f1 := hf (k * 3 + 1) (by omega)
      have f2 := hf (k * 3 + 2) (by omega)
      have HC1 : Hid (∀ j, j < n * 3 → wr.cell? ⟨g, j, none⟩ = some (.int .i64 (mixA k0 l k j))) := hc
      have HF1 : Hid (∀ j, j < n * 3 → wr.frozen? ⟨g, j, none⟩ = false) := hf
      clear hc hf HC HF hh
      go_wp2
      go_roundw
      case rel =>
        refine ⟨k + 1, by omega, by go_num, by simp only [Value.int.injEq, true_and]; omega, ?_, fun j hj => ?_, fun j hj => ?_⟩
        · exact ⟨hon.os, hon.tape, hon.output, by simpa using hon.size, fun b hb hne => by
            have hb' : g ≠ b := by rcases hne with h | h <;> omega
            rw [blk_other (blk_other (blk_other rfl hb') hb') hb']
            exact hon.block b hb hne⟩
        · rw [set_at (set_at (set_at HC1.out)) j hj]
          by_cases e2 : j = k * 3 + 2
          · subst e2; rw [if_pos rfl]; simp [mixA]; omega
          · rw [if_neg e2]
            by_cases e1 : j = k * 3 + 1
            · subst e1; rw [if_pos rfl]; simp [mixA]; omega
            · rw [if_neg e1]
              by_cases e0 : j = k * 3
              · subst e0; rw [if_pos rfl]; simp [mixA]; omega
              · rw [if_neg e0]
                have : (j < (k + 1) * 3) = (j < k * 3) := by rw [eq_iff_iff]; omega
                simp [mixA, this]
        · simpa using HF1.out j hj
      case measure => simp [intOf]; omega
    · have he : k = n := by omega
      subst he
      go_wp2
      go_ret
      refine ⟨rfl, hon, ⟨fun h => HH.out (by rwa [marksA_len] at h), fun j hj => ?_, fun j hj => ?_, by rw [marksA_len]; exact hs⟩⟩
      · rw [marksA_len] at hj
        rw [hc j hj, marksA_flat _ _ _ hj]
        simp [mixA, hj]
      · rw [marksA_len] at hj
        exact hf j hj

set_option maxHeartbeats 1000000 in
theorem heldA_any (k0 : Int) (h0 : 0 ≤ k0) (h1 : k0 ≤ 1000000000000) (a : Option Addr) (g cap n : Nat) (w : World) (h : WtA w a g (marksA k0 n)) :
    Calls Try.prog 143 #[.slice a n cap, .int .i64 k0] w fun e w' => e = .returned (.int .i64 (k0 + 3 * (n : Int))) ∧ w' = w := by
  obtain ⟨hh, hc, hf, hs⟩ := h
  rw [marksA_len] at hh hc hf hs
  have hc1 : ∀ j, j < n * 3 → w.cell? ⟨g, j, none⟩ = some (.int .i64 (k0 + (j : Int))) := fun j hj => by rw [hc j hj, marksA_flat _ _ _ hj]
  clear hc hf
  go_enter Try.func143, Try.ntmps143
  go_wp2
  go_loop [1, 5] (fun q i => ∃ k : Nat, k ≤ n ∧ i = .int .i64 k ∧ q = .int .i64 (k0 + 3 * (k : Int))) (fun _ i => n - (intOf i).toNat)
  case atStart => exact ⟨0, Nat.zero_le _, rfl, by simp⟩
  case round =>
    obtain ⟨k, hk, rfl, rfl⟩ := hrel
    by_cases hlt : k < n
    · obtain rfl := hh (by omega)
      have hkz : (k : Int) < (n : Int) := by omega
      obtain ⟨K, hK⟩ : ∃ K : Int, K = k0 + 3 * (k : Int) := ⟨_, rfl⟩
      have g0 : w.cell? ⟨g, k * 3, none⟩ = some (.int .i64 K) := by rw [hc1 (k * 3) (by omega)]; simp only [Option.some.injEq, Value.int.injEq, true_and]; omega
      have g1 : w.cell? ⟨g, k * 3 + 1, none⟩ = some (.int .i64 (K + 1)) := by rw [hc1 (k * 3 + 1) (by omega)]; simp only [Option.some.injEq, Value.int.injEq, true_and]; omega
      have g2 : w.cell? ⟨g, k * 3 + 2, none⟩ = some (.int .i64 (K + 1 + 1)) := by rw [hc1 (k * 3 + 2) (by omega)]; simp only [Option.some.injEq, Value.int.injEq, true_and]; omega
      rw [← hK]
      have HK : Hid (K = k0 + 3 * (k : Int)) := hK
      have b1 : 0 ≤ K ∧ K ≤ 2000000000000 := by omega
      clear hc1 hK
      go_wp2
      go_roundw
      case rel => exact ⟨k + 1, by omega, by go_num, by have := HK.out; simp only [Value.int.injEq, true_and]; omega⟩
      case measure => simp [intOf]; omega
    · have he : k = n := by omega
      subst he
      go_wp2
      go_ret
      exact ⟨rfl, rfl⟩

end Go.Proofs.Ytcbgnfjnjfaacaa.Em
namespace Go.Proofs.Ytcbgnfjnjfaacaa.Em
set_option maxRecDepth 8000
set_option linter.unusedSimpArgs false
set_option linter.unusedVariables false
open Go Go.RowKit
open Num Pl Ea Mf

/-- An entry whose slices may be written. -/
structure WtE (w : World) (e : Ent) : Prop where
  V : Hr.Wt w e.aV e.bV e.V
  M : Hr.Wt w e.aM e.bM e.M
  A : WtA w e.aA e.bA e.A
/-- The blocks of an entry's slices. -/
def Uses (e : Ent) (x : Nat) : Prop := (x = e.bV ∧ 0 < e.V.length) ∨ (x = e.bM ∧ 0 < e.M.length) ∨ (x = e.bA ∧ 0 < e.A.length)
theorem WtE.keep {w w' : World} {e : Ent} (h : WtE w e) (hk : ∀ x, Uses e x → x < w.heap.size → w'.heap[x]? = w.heap[x]?) : WtE w' e :=
  ⟨wt_keep h.V fun h0 => hk _ (.inl ⟨rfl, h0⟩) (by rcases Hr.wt_lt h.V with h1 | h1 <;> omega), wt_keep h.M fun h0 => hk _ (.inr (.inl ⟨rfl, h0⟩)) (by rcases Hr.wt_lt h.M with h1 | h1 <;> omega), h.A.keep fun h0 => hk _ (.inr (.inr ⟨rfl, h0⟩)) (World.block_lt_of_cell? _ _ (h.A.cell 0 (by omega)))⟩
theorem WtE.lt {w : World} {e : Ent} (h : WtE w e) {x : Nat} (hx : Uses e x) : x < w.heap.size := by
  rcases hx with ⟨rfl, h0⟩ | ⟨rfl, h0⟩ | ⟨rfl, h0⟩
  · rcases Hr.wt_lt h.V with h1 | h1 <;> omega
  · rcases Hr.wt_lt h.M with h1 | h1 <;> omega
  · exact World.block_lt_of_cell? _ _ (h.A.cell 0 (by omega))
theorem WtE.below {w w' : World} {e : Ent} (h : WtE w e) (hb : Below w.heap.size w w') : WtE w' e := h.keep fun x _ hx => hb.block x hx
/-- The three slices lie in three blocks. -/
structure Own3 (e : Ent) : Prop where
  d1 : 0 < e.V.length → 0 < e.M.length → e.bV ≠ e.bM
  d2 : 0 < e.V.length → 0 < e.A.length → e.bV ≠ e.bA
  d3 : 0 < e.M.length → 0 < e.A.length → e.bM ≠ e.bA

/-- How many numbers an entry holds; a marked entry. -/
def esz (e : Ent) : Nat := 3 + e.V.length + e.M.length + 3 * e.A.length
def markE (k : Int) (e : Ent) : Ent :=
  { e with ep := k, pr := k + 1, V := marksF (k + 2) e.V.length, M := marksF (k + 2 + (e.V.length : Int)) e.M.length, A := marksA (k + 2 + (e.V.length : Int) + (e.M.length : Int)) e.A.length, h := k + 2 + (e.V.length : Int) + (e.M.length : Int) + 3 * (e.A.length : Int) }
theorem uses_mark {k : Int} {e : Ent} {x : Nat} : Uses (markE k e) x ↔ Uses e x := by
  simp [Uses, markE, marksF_len, marksA_len]
theorem own3_mark {k : Int} {e : Ent} (h : Own3 e) : Own3 (markE k e) :=
  ⟨by simpa [markE, marksF_len] using h.d1, by simpa [markE, marksF_len, marksA_len] using h.d2, by simpa [markE, marksF_len, marksA_len] using h.d3⟩
def vf (f : Nat → Ent) (j : Nat) : Value := (f (j / 6)).vals.getD (j % 6) (.int .i64 0)
/-- A row of n entries that may be written. -/
structure WtF (w : World) (g n : Nat) (f : Nat → Ent) : Prop where
  row : ∀ j, j < n * 6 → w.cell? ⟨g, j, none⟩ = some (vf f j)
  free : ∀ j, j < n * 6 → w.frozen? ⟨g, j, none⟩ = false
  each : ∀ i, i < n → WtE w (f i)
/-- All its blocks lie apart. -/
structure ApF (g n : Nat) (f : Nat → Ent) : Prop where
  far : ∀ i, i < n → ∀ x, Uses (f i) x → x ≠ g
  self : ∀ i, i < n → Own3 (f i)
  diff : ∀ i j, i < n → j < n → i ≠ j → ∀ x, Uses (f i) x → ∀ y, Uses (f j) y → x ≠ y
/-- All is kept but the blocks U. -/
structure KeptP (U : Nat → Prop) (w w' : World) : Prop where
  os : w'.os = w.os
  tape : w'.tape = w.tape
  output : w'.output = w.output
  size : w.heap.size ≤ w'.heap.size
  block : ∀ k, k < w.heap.size → ¬ U k → w'.heap[k]? = w.heap[k]?
theorem KeptP.refl (U : Nat → Prop) (w : World) : KeptP U w w := ⟨rfl, rfl, rfl, Nat.le_refl _, fun _ _ _ => rfl⟩
theorem KeptP.trans {U : Nat → Prop} {a b c : World} (h : KeptP U a b) (h' : KeptP U b c) : KeptP U a c :=
  ⟨h'.os.trans h.os, h'.tape.trans h.tape, h'.output.trans h.output, Nat.le_trans h.size h'.size, fun k hk hu => (h'.block k (Nat.lt_of_lt_of_le hk h.size) hu).trans (h.block k hk hu)⟩
theorem KeptP.set {U : Nat → Prop} {w : World} {g i : Nat} {u : Value} (hg : U g) : KeptP U w (w.setCell ⟨g, i, none⟩ u) :=
  ⟨rfl, rfl, rfl, by simp, fun k _ hu => blk_other rfl (fun e => hu (e ▸ hg))⟩
theorem KeptP.kept {U : Nat → Prop} {w w' : World} {g n : Nat} (h : Kept g n w w') (hg : 0 < n → U g) : KeptP U w w' :=
  ⟨h.os, h.tape, h.output, h.size, fun k hk hu => h.block k hk (by
    rcases Nat.eq_zero_or_pos n with h0 | h0
    · exact .inl h0
    · exact .inr (fun e => hu (e ▸ hg h0)))⟩
theorem KeptP.mono {U U' : Nat → Prop} {w w' : World} (h : KeptP U w w') (hu : ∀ x, U x → U' x) : KeptP U' w w' :=
  ⟨h.os, h.tape, h.output, h.size, fun k hk hn => h.block k hk (fun h1 => hn (hu k h1))⟩
theorem KeptP.below {U : Nat → Prop} {w w' w0 : World} (h : KeptP U w w') (hb : Below w0.heap.size w0 w) (hu : ∀ x, U x → w0.heap.size ≤ x) : Below w0.heap.size w0 w' :=
  ⟨h.os.trans hb.os, h.tape.trans hb.tape, h.output.trans hb.output, Nat.le_trans hb.size h.size, fun k hk => (h.block k (Nat.lt_of_lt_of_le hk hb.size) (fun h1 => by have := hu k h1; omega)).trans (hb.block k hk)⟩
theorem KeptP.pre {U : Nat → Prop} {w w' w0 : World} (hb : Below w0.heap.size w0 w) (h : KeptP U w w') : KeptP U w0 w' :=
  ⟨h.os.trans hb.os, h.tape.trans hb.tape, h.output.trans hb.output, Nat.le_trans hb.size h.size, fun k hk hu => (h.block k (Nat.lt_of_lt_of_le hk hb.size) hu).trans (hb.block k hk)⟩

def upd (f : Nat → Ent) (k : Nat) (e : Ent) : Nat → Ent := fun i => if i = k then e else f i
theorem vf_mark {f : Nat → Ent} {k : Nat} {K : Int} (j : Nat) : vf (upd f k (markE K (f k))) j = if j = k * 6 + 5 then .int .i64 (markE K (f k)).h else if j = k * 6 + 1 then .int .i64 (K + 1) else if j = k * 6 then .int .i64 K else vf f j := by
  unfold vf upd
  by_cases e : j / 6 = k
  · rw [if_pos e]
    have hr : j % 6 < 6 := Nat.mod_lt _ (by omega)
    by_cases e5 : j = k * 6 + 5
    · rw [if_pos e5, show j % 6 = 5 by omega]; rfl
    rw [if_neg e5]
    by_cases e1 : j = k * 6 + 1
    · rw [if_pos e1, show j % 6 = 1 by omega]; rfl
    rw [if_neg e1]
    by_cases e0 : j = k * 6
    · rw [if_pos e0, show j % 6 = 0 by omega]; rfl
    rw [if_neg e0, e]
    have e2 : j % 6 = 2 ∨ j % 6 = 3 ∨ j % 6 = 4 := by omega
    rcases e2 with e2 | e2 | e2 <;> rw [e2] <;> simp [Ent.vals, markE, marksF_len, marksA_len]
  · rw [if_neg e, if_neg (by omega), if_neg (by omega), if_neg (by omega)]

/-- One entry is marked. -/
theorem mark_round {w w2 w3 w4 : World} {g n k : Nat} {f : Nat → Ent} {K : Int} {u v x : Value} (h : WtF w g n f) (ha : ApF g n f) (hk : k < n) (hg : g < w.heap.size)
    (hu : u = .int .i64 K) (hv : v = .int .i64 (K + 1)) (hx : x = .int .i64 (markE K (f k)).h)
    (k2 : Kept (f k).bV (f k).V.length ((w.setCell ⟨g, k * 6, none⟩ u).setCell ⟨g, k * 6 + 1, none⟩ v) w2) (m2 : Hr.Wt w2 (f k).aV (f k).bV (markE K (f k)).V)
    (k3 : Kept (f k).bM (f k).M.length w2 w3) (m3 : Hr.Wt w3 (f k).aM (f k).bM (markE K (f k)).M)
    (k4 : Kept (f k).bA (f k).A.length w3 w4) (m4 : WtA w4 (f k).aA (f k).bA (markE K (f k)).A) :
    WtF (w4.setCell ⟨g, k * 6 + 5, none⟩ x) g n (upd f k (markE K (f k))) ∧ KeptP (fun b => b = g ∨ Uses (f k) b) w (w4.setCell ⟨g, k * 6 + 5, none⟩ x) := by
  have s2 : w.heap.size ≤ w2.heap.size := by simpa using k2.size
  have s3 := Nat.le_trans s2 k3.size
  have fg := ha.far k hk
  have gV : (f k).V.length = 0 ∨ g ≠ (f k).bV := by
    rcases Nat.eq_zero_or_pos (f k).V.length with h0 | h0
    · exact .inl h0
    · exact .inr (fun e => fg _ (.inl ⟨rfl, h0⟩) e.symm)
  have gM : (f k).M.length = 0 ∨ g ≠ (f k).bM := by
    rcases Nat.eq_zero_or_pos (f k).M.length with h0 | h0
    · exact .inl h0
    · exact .inr (fun e => fg _ (.inr (.inl ⟨rfl, h0⟩)) e.symm)
  have gA : (f k).A.length = 0 ∨ g ≠ (f k).bA := by
    rcases Nat.eq_zero_or_pos (f k).A.length with h0 | h0
    · exact .inl h0
    · exact .inr (fun e => fg _ (.inr (.inr ⟨rfl, h0⟩)) e.symm)
  have bg : w4.heap[g]? = ((w.setCell ⟨g, k * 6, none⟩ u).setCell ⟨g, k * 6 + 1, none⟩ v).heap[g]? := (k4.block g (by omega) gA).trans ((k3.block g (by omega) gM).trans (k2.block g (by simpa using hg) gV))
  have kp : KeptP (fun b => b = g ∨ Uses (f k) b) w (w4.setCell ⟨g, k * 6 + 5, none⟩ x) :=
    (((((KeptP.set (.inl rfl)).trans (KeptP.set (.inl rfl))).trans (KeptP.kept k2 (fun h0 => .inr (.inl ⟨rfl, h0⟩)))).trans (KeptP.kept k3 (fun h0 => .inr (.inr (.inl ⟨rfl, h0⟩))))).trans (KeptP.kept k4 (fun h0 => .inr (.inr (.inr ⟨rfl, h0⟩))))).trans (KeptP.set (.inl rfl))
  refine ⟨⟨fun j hj => ?_, fun j hj => ?_, fun i hi => ?_⟩, kp⟩
  · have r1 := set_at (k := k * 6 + 1) (u := v) (set_at (k := k * 6) (u := u) h.row)
    have r4 : ∀ i, i < n * 6 → w4.cell? ⟨g, i, none⟩ = some (if i = k * 6 + 1 then v else if i = k * 6 then u else vf f i) := fun i hi => by
      have := r1 i hi
      simp only [World.cell?, bg] at this ⊢; exact this
    rw [set_at r4 j hj, vf_mark, hu, hv, hx]
  · have := h.free j hj
    have e1 : w4.frozen? ⟨g, j, none⟩ = w.frozen? ⟨g, j, none⟩ := by
      have e2 : ((w.setCell ⟨g, k * 6, none⟩ u).setCell ⟨g, k * 6 + 1, none⟩ v).frozen? ⟨g, j, none⟩ = w.frozen? ⟨g, j, none⟩ := by simp
      rw [← e2]
      simp only [World.frozen?, bg]
    simp [e1, this]
  · by_cases e : i = k
    · subst e
      have hs := ha.self i hi
      have ev : upd f i (markE K (f i)) i = markE K (f i) := by simp [upd]
      rw [ev]
      have lV : (markE K (f i)).V.length = (f i).V.length := by simp [markE, marksF_len]
      have lM : (markE K (f i)).M.length = (f i).M.length := by simp [markE, marksF_len]
      have lA : (markE K (f i)).A.length = (f i).A.length := by simp [markE, marksA_len]
      refine ⟨wt_keep m2 fun h0 => ?_, wt_keep m3 fun h0 => ?_, m4.keep fun h0 => ?_⟩
      · rw [lV] at h0
        have hl : (f i).bV < w2.heap.size := by rcases Hr.wt_lt m2 with h1 | h1 <;> omega
        show (w4.setCell ⟨g, i * 6 + 5, none⟩ x).heap[(f i).bV]? = w2.heap[(f i).bV]?
        rw [blk_other rfl (fun e => fg _ (.inl ⟨rfl, h0⟩) e.symm), k4.block _ (by have := k3.size; omega) (by
          rcases Nat.eq_zero_or_pos (f i).A.length with h1 | h1
          · exact .inl h1
          · exact .inr (hs.d2 h0 h1)), k3.block _ hl (by
          rcases Nat.eq_zero_or_pos (f i).M.length with h1 | h1
          · exact .inl h1
          · exact .inr (hs.d1 h0 h1))]
      · rw [lM] at h0
        have hl : (f i).bM < w3.heap.size := by rcases Hr.wt_lt m3 with h1 | h1 <;> omega
        show (w4.setCell ⟨g, i * 6 + 5, none⟩ x).heap[(f i).bM]? = w3.heap[(f i).bM]?
        rw [blk_other rfl (fun e => fg _ (.inr (.inl ⟨rfl, h0⟩)) e.symm), k4.block _ hl (by
          rcases Nat.eq_zero_or_pos (f i).A.length with h1 | h1
          · exact .inl h1
          · exact .inr (hs.d3 h0 h1))]
      · rw [lA] at h0
        exact blk_other rfl (fun e => fg _ (.inr (.inr ⟨rfl, h0⟩)) e.symm)
    · have ev : upd f k (markE K (f k)) i = f i := by simp [upd, e]
      rw [ev]
      exact (h.each i hi).keep fun b hb hl => kp.block b hl (fun h1 => by
        rcases h1 with h1 | h1
        · exact ha.far i hi b hb h1
        · exact ha.diff i k hi hk e b hb b h1 rfl)

end Go.Proofs.Ytcbgnfjnjfaacaa.Em
namespace Go.Proofs.Ytcbgnfjnjfaacaa.Em
set_option maxRecDepth 8000
set_option linter.unusedSimpArgs false
set_option linter.unusedVariables false
open Go Go.RowKit
open Num Pl Ea Mf

/-- How many numbers the first k entries hold. -/
def kAt (f : Nat → Ent) : Nat → Nat
  | 0 => 0
  | k + 1 => kAt f k + esz (f k)
theorem kAt_mono (f : Nat → Ent) {i j : Nat} (h : i ≤ j) : kAt f i ≤ kAt f j := by
  induction j with
  | zero => have : i = 0 := by omega
            subst this; exact Nat.le_refl _
  | succ j ih =>
    rcases Nat.lt_or_ge i (j + 1) with h1 | h1
    · have := ih (by omega); simp only [kAt]; omega
    · have : i = j + 1 := by omega
      subst this; exact Nat.le_refl _
/-- The first m entries are marked. -/
def mid (k0 : Int) (f : Nat → Ent) (m : Nat) : Nat → Ent := fun i => if i < m then markE (k0 + (kAt f i : Int)) (f i) else f i
theorem mid_uses {k0 : Int} {f : Nat → Ent} {m i x : Nat} : Uses (mid k0 f m i) x ↔ Uses (f i) x := by
  unfold mid
  split
  · exact uses_mark
  · exact Iff.rfl
theorem mid_ap {k0 : Int} {f : Nat → Ent} {m g n : Nat} (h : ApF g n f) : ApF g n (mid k0 f m) := by
  refine ⟨fun i hi x hx => h.far i hi x (mid_uses.1 hx), fun i hi => ?_, fun i j hi hj hij x hx y hy => h.diff i j hi hj hij x (mid_uses.1 hx) y (mid_uses.1 hy)⟩
  unfold mid
  split
  · exact own3_mark (h.self i hi)
  · exact h.self i hi
theorem mid_at {k0 : Int} {f : Nat → Ent} {m : Nat} : mid k0 f m m = f m := by simp [mid]
theorem mid_step {k0 : Int} {f : Nat → Ent} {m : Nat} : upd (mid k0 f m) m (markE (k0 + (kAt f m : Int)) (mid k0 f m m)) = mid k0 f (m + 1) := by
  funext i
  unfold upd
  rw [mid_at]
  by_cases e : i = m
  · subst e; simp [mid]
  · rw [if_neg e]
    unfold mid
    have : (i < m + 1) = (i < m) := by rw [eq_iff_iff]; omega
    simp [this]

theorem apart_or {n m : Nat} {x y : Nat} (h : 0 < n → 0 < m → x ≠ y) (hm : 0 < m) : n = 0 ∨ y ≠ x := by
  rcases Nat.eq_zero_or_pos n with h0 | h0
  · exact .inl h0
  · exact .inr (Ne.symm (h h0 hm))
theorem keepM {e : Ent} {w1 w2 : World} (ap : Own3 e) (h : WtE w1 e) (k : Kept e.bV e.V.length w1 w2) : Hr.Wt w2 e.aM e.bM e.M ∧ WtA w2 e.aA e.bA e.A :=
  ⟨wt_keep h.M fun h0 => k.block _ (h.lt (.inr (.inl ⟨rfl, h0⟩))) (apart_or ap.d1 h0), h.A.keep fun h0 => k.block _ (h.lt (.inr (.inr ⟨rfl, h0⟩))) (apart_or ap.d2 h0)⟩
theorem keepA {e : Ent} {w1 w2 : World} (ap : Own3 e) (h : WtA w1 e.aA e.bA e.A) (k : Kept e.bM e.M.length w1 w2) : WtA w2 e.aA e.bA e.A :=
  h.keep fun h0 => k.block _ (World.block_lt_of_cell? _ _ (h.cell 0 (by omega))) (apart_or ap.d3 h0)
theorem mid_zero {k0 : Int} {f : Nat → Ent} : mid k0 f 0 = f := by
  funext i
  simp [mid]

set_option maxHeartbeats 4000000 in
theorem markS_any (k0 : Int) (h0 : 0 ≤ k0) (a : Option Addr) (g cap n : Nat) (f : Nat → Ent) (w : World) (hh : 0 < n → a = some ⟨g, 0, none⟩) (h : WtF w g n f) (ha : ApF g n f) (hs : n ≤ 4194304) (h1 : k0 + (kAt f n : Int) ≤ 100000000000) :
    Calls Try.prog 111 #[.slice a n cap, .int .i64 k0] w fun e w' => e = .returned (.int .i64 (k0 + (kAt f n : Int))) ∧ KeptP (fun b => 0 < n ∧ b = g ∨ ∃ i, i < n ∧ Uses (f i) b) w w' ∧ WtF w' g n (mid k0 f n) := by
  have H0 : Hid (WtF w g n f) := h
  have HA : Hid (ApF g n f) := ha
  clear h ha
  go_enter Try.func111, Try.ntmps111
  go_wp2
  go_loopw [1, 5] (fun q i wr => ∃ k : Nat, k ≤ n ∧ i = .int .i64 k ∧ q = .int .i64 (k0 + (kAt f k : Int)) ∧ KeptP (fun b => 0 < n ∧ b = g ∨ ∃ i, i < n ∧ Uses (f i) b) w wr ∧ WtF wr g n (mid k0 f k)) (fun _ i _ => n - (intOf i).toNat)
  case atStart => exact ⟨0, Nat.zero_le _, rfl, by simp [kAt], KeptP.refl _ _, by rw [mid_zero]; exact H0.out⟩
  case round =>
    obtain ⟨k, hk, rfl, rfl, hkp, hw⟩ := hrel
    by_cases hlt : k < n
    · obtain rfl := hh (by omega)
      have hkz : (k : Int) < (n : Int) := by omega
      have km := kAt_mono f (i := k + 1) (j := n) (by omega)
      obtain ⟨K, hK⟩ : ∃ K : Int, K = k0 + (kAt f k : Int) := ⟨_, rfl⟩
      obtain ⟨e, he⟩ : ∃ e, e = f k := ⟨_, rfl⟩
      simp only [kAt] at km
      rw [← he] at km
      unfold esz at km
      rw [← hK]
      have hrow := hw.row
      have hfr := hw.free
      have hE := hw.each k hlt
      rw [mid_at, ← he] at hE
      have ee : ∀ j, j < 6 → vf (mid k0 f k) (k * 6 + j) = e.vals.getD j (.int .i64 0) := fun j hj => by
        unfold vf
        rw [show (k * 6 + j) / 6 = k by omega, show (k * 6 + j) % 6 = j by omega, mid_at, ← he]
      have c0 := hrow (k * 6) (by omega)
      have c1 := hrow (k * 6 + 1) (by omega)
      have c2 := hrow (k * 6 + 2) (by omega)
      have c3 := hrow (k * 6 + 3) (by omega)
      have c4 := hrow (k * 6 + 4) (by omega)
      have c5 := hrow (k * 6 + 5) (by omega)
      have e00 := ee 0 (by omega)
      rw [Nat.add_zero] at e00
      rw [e00] at c0
      rw [ee 1 (by omega)] at c1
      rw [ee 2 (by omega)] at c2
      rw [ee 3 (by omega)] at c3
      rw [ee 4 (by omega)] at c4
      rw [ee 5 (by omega)] at c5
      simp only [ent_vals] at c0 c1 c2 c3 c4 c5
      simp at c0 c1 c2 c3 c4 c5
      have f0 := hfr (k * 6) (by omega)
      have f1 := hfr (k * 6 + 1) (by omega)
      have f5 := hfr (k * 6 + 5) (by omega)
      have hg : g < wr.heap.size := World.block_lt_of_cell? _ _ c0
      have HW : Hid (WtF wr g n (mid k0 f k)) := hw
      have HK : Hid (K = k0 + (kAt f k : Int)) := hK
      have HE : Hid (e = f k) := he
      have hb1 : 0 ≤ K ∧ K + 3 + (e.V.length : Int) + (e.M.length : Int) + 3 * (e.A.length : Int) ≤ 100000000000 := by omega
      clear hrow hfr hw ee e00 hK he km h1 hh
      obtain ⟨W1, hW1⟩ : ∃ W1, W1 = (wr.setCell ⟨g, k * 6, none⟩ (.int .i64 K)).setCell ⟨g, k * 6 + 1, none⟩ (.int .i64 (K + 1)) := ⟨_, rfl⟩
      have hfar := mid_ap (k0 := k0) (m := k) HA.out
      have fg := hfar.far k hlt
      rw [mid_at, ← HE.out] at fg
      have hE1 : WtE W1 e := hE.keep fun x hx _ => by
        subst hW1
        have := fg x hx
        exact blk_other (blk_other rfl (Ne.symm this)) (Ne.symm this)
      have q2 : W1.cell? ⟨g, k * 6 + 2, none⟩ = some (.slice e.aV e.V.length e.cV) := by subst hW1; rw [World.cell?_setCell_other _ _ _ _ (by simp), World.cell?_setCell_other _ _ _ _ (by simp)]; exact c2
      have q3 : W1.cell? ⟨g, k * 6 + 3, none⟩ = some (.slice e.aM e.M.length e.cM) := by subst hW1; rw [World.cell?_setCell_other _ _ _ _ (by simp), World.cell?_setCell_other _ _ _ _ (by simp)]; exact c3
      have q4 : W1.cell? ⟨g, k * 6 + 4, none⟩ = some (.slice e.aA e.A.length e.cA) := by subst hW1; rw [World.cell?_setCell_other _ _ _ _ (by simp), World.cell?_setCell_other _ _ _ _ (by simp)]; exact c4
      have q5 : W1.cell? ⟨g, k * 6 + 5, none⟩ = some (.int .i64 e.h) := by subst hW1; rw [World.cell?_setCell_other _ _ _ _ (by simp), World.cell?_setCell_other _ _ _ _ (by simp)]; exact c5
      have r5 : W1.frozen? ⟨g, k * 6 + 5, none⟩ = false := by subst hW1; simpa using f5
      have hgW : g < W1.heap.size := World.block_lt_of_cell? _ _ q2
      have t1 : True := trivial
      have keepG : ∀ {b m : Nat} {w1 w2 : World}, Kept b m w1 w2 → (0 < m → Uses e b) → g < w1.heap.size → w2.heap[g]? = w1.heap[g]? := fun hk hu hl => hk.block g hl (by
        rename_i b m w1 w2
        rcases Nat.eq_zero_or_pos m with h0 | h0
        · exact .inl h0
        · exact .inr (fun e1 => fg b (hu h0) e1.symm))
      have ap := hfar.self k hlt
      rw [mid_at, ← HE.out] at ap
      clear hE c3 c4 c5 hfar
      have HFg : Hid (∀ x, Uses e x → x ≠ g) := fg
      have HAp : Hid (Own3 e) := ap
      clear fg ap keepG
      have cell_of : ∀ {w1 w2 : World} {j : Nat}, w2.heap[g]? = w1.heap[g]? → w2.cell? ⟨g, j, none⟩ = w1.cell? ⟨g, j, none⟩ := fun hb => by simp only [World.cell?, hb]
      have fro_of : ∀ {w1 w2 : World} {j : Nat}, w2.heap[g]? = w1.heap[g]? → w2.frozen? ⟨g, j, none⟩ = w1.frozen? ⟨g, j, none⟩ := fun hb => by simp only [World.frozen?, hb]
      have keepG : ∀ {b m : Nat} {w1 w2 : World}, Kept b m w1 w2 → (0 < m → Uses e b) → g < w1.heap.size → w2.heap[g]? = w1.heap[g]? := fun {b m w1 w2} hk hu hl => hk.block g hl (by
        rcases Nat.eq_zero_or_pos m with h0 | h0
        · exact .inl h0
        · exact .inr (fun e1 => HFg.out b (hu h0) e1.symm))
      go_wp2_with (first
        | (go_at_call 57; clear t1; rw [← hW1]; refine (markF_any _ (by omega) (by omega) _ _ _ e.V _ hE1.V).mono ?_; rintro x w2 ⟨rfl, kk2, m2⟩; have g2 := keepG kk2 (fun h => .inl ⟨rfl, h⟩) hgW; replace q3 := (cell_of g2).trans q3; replace q4 := (cell_of g2).trans q4; replace q5 := (cell_of g2).trans q5; replace r5 := (fro_of g2).trans r5; obtain ⟨mM, mA⟩ := keepM HAp.out hE1 kk2; have hg2 := Nat.lt_of_lt_of_le hgW kk2.size; have t2 : True := trivial)
        | (go_at_call 57; clear t2; refine (markF_any _ (by omega) (by omega) _ _ _ e.M _ mM).mono ?_; rintro x w3 ⟨rfl, kk3, m3⟩; have g3 := keepG kk3 (fun h => .inr (.inl ⟨rfl, h⟩)) hg2; replace q4 := (cell_of g3).trans q4; replace q5 := (cell_of g3).trans q5; replace r5 := (fro_of g3).trans r5; replace mA := keepA HAp.out mA kk3; have hg3 := Nat.lt_of_lt_of_le hg2 kk3.size)
        | (go_at_call 112; refine (markA_any _ (by omega) (by omega) _ _ _ e.A _ mA).mono ?_; rintro x w4 ⟨rfl, kk4, m4⟩; have g4 := keepG kk4 (fun h => .inr (.inr ⟨rfl, h⟩)) hg3; replace q5 := (cell_of g4).trans q5; replace r5 := (fro_of g4).trans r5))
      go_roundw
      case rel =>
        have z2 : K + 1 + 1 = K + 2 := by omega
        rw [z2] at m2 m3 m4
        have hEe := HE.out
        obtain ⟨a1, a2⟩ := mark_round (K := K) (k := k) (x := .int .i64 (K + 1 + 1 + (e.V.length : Int) + (e.M.length : Int) + 3 * (e.A.length : Int))) HW.out (mid_ap HA.out) hlt hg rfl rfl (by rw [mid_at, ← hEe]; simp only [markE, Value.int.injEq, true_and]; omega) (by rw [mid_at, ← hEe, ← hW1]; exact kk2) (by rw [mid_at, ← hEe]; exact m2) (by rw [mid_at, ← hEe]; exact kk3) (by rw [mid_at, ← hEe]; exact m3) (by rw [mid_at, ← hEe]; exact kk4) (by rw [mid_at, ← hEe]; exact m4)
        have hKe := HK.out
        rw [hKe, mid_step] at a1
        refine ⟨k + 1, by omega, by go_num, ?_, hkp.trans ?_, ?_⟩
        · simp only [Value.int.injEq, true_and, kAt, esz]; rw [← hEe]; omega
        · exact a2.mono fun b hb => by
            rcases hb with hb | hb
            · exact .inl ⟨by omega, hb⟩
            · rw [mid_at] at hb
              exact .inr ⟨k, hlt, hb⟩
        · rw [← hKe] at a1; exact a1
      case measure => simp [intOf]; omega
    · have he : k = n := by omega
      subst he
      go_wp2
      go_ret
      exact ⟨rfl, hkp, hw⟩

set_option maxHeartbeats 4000000 in
theorem heldS_any (k0 : Int) (h0 : 0 ≤ k0) (a : Option Addr) (g cap n : Nat) (f : Nat → Ent) (w : World) (hh : 0 < n → a = some ⟨g, 0, none⟩) (h : WtF w g n (mid k0 f n)) (hs : n ≤ 4194304) (h1 : k0 + (kAt f n : Int) ≤ 100000000000) :
    Calls Try.prog 113 #[.slice a n cap, .int .i64 k0] w fun e w' => e = .returned (.int .i64 (k0 + (kAt f n : Int))) ∧ w' = w := by
  have HW : Hid (WtF w g n (mid k0 f n)) := h
  clear h
  go_enter Try.func113, Try.ntmps113
  go_wp2
  go_loop [1, 5] (fun q i => ∃ k : Nat, k ≤ n ∧ i = .int .i64 k ∧ q = .int .i64 (k0 + (kAt f k : Int))) (fun _ i => n - (intOf i).toNat)
  case atStart => exact ⟨0, Nat.zero_le _, rfl, by simp [kAt]⟩
  case round =>
    obtain ⟨k, hk, rfl, rfl⟩ := hrel
    by_cases hlt : k < n
    · obtain rfl := hh (by omega)
      have hkz : (k : Int) < (n : Int) := by omega
      have km := kAt_mono f (i := k + 1) (j := n) (by omega)
      obtain ⟨K, hK⟩ : ∃ K : Int, K = k0 + (kAt f k : Int) := ⟨_, rfl⟩
      obtain ⟨e, he⟩ : ∃ e, e = f k := ⟨_, rfl⟩
      simp only [kAt] at km
      rw [← he] at km
      unfold esz at km
      rw [← hK]
      have hrow := HW.out.row
      have hE := HW.out.each k hlt
      have em : mid k0 f n k = markE K e := by unfold mid; rw [if_pos hlt, ← hK, ← he]
      rw [em] at hE
      have ee : ∀ j, j < 6 → vf (mid k0 f n) (k * 6 + j) = (markE K e).vals.getD j (.int .i64 0) := fun j hj => by
        unfold vf
        rw [show (k * 6 + j) / 6 = k by omega, show (k * 6 + j) % 6 = j by omega, em]
      have c0 := hrow (k * 6) (by omega)
      have c1 := hrow (k * 6 + 1) (by omega)
      have c2 := hrow (k * 6 + 2) (by omega)
      have c3 := hrow (k * 6 + 3) (by omega)
      have c4 := hrow (k * 6 + 4) (by omega)
      have c5 := hrow (k * 6 + 5) (by omega)
      have e00 := ee 0 (by omega)
      rw [Nat.add_zero] at e00
      rw [e00] at c0
      rw [ee 1 (by omega)] at c1
      rw [ee 2 (by omega)] at c2
      rw [ee 3 (by omega)] at c3
      rw [ee 4 (by omega)] at c4
      rw [ee 5 (by omega)] at c5
      simp only [ent_vals, markE] at c0 c1 c2 c3 c4 c5
      simp [marksF_len, marksA_len] at c0 c1 c2 c3 c4 c5
      have HK : Hid (K = k0 + (kAt f k : Int)) := hK
      have HE : Hid (e = f k) := he
      have hb1 : 0 ≤ K ∧ K + 3 + (e.V.length : Int) + (e.M.length : Int) + 3 * (e.A.length : Int) ≤ 100000000000 := by omega
      have v1 : Hr.Wt w e.aV e.bV (marksF (K + 1 + 1) e.V.length) := by have := hE.V; rw [show K + 1 + 1 = K + 2 by omega]; exact this
      have v2 : Hr.Wt w e.aM e.bM (marksF (K + 1 + 1 + (e.V.length : Int)) e.M.length) := by have := hE.M; rw [show K + 1 + 1 + (e.V.length : Int) = K + 2 + (e.V.length : Int) by omega]; exact this
      have v3 : WtA w e.aA e.bA (marksA (K + 1 + 1 + (e.V.length : Int) + (e.M.length : Int)) e.A.length) := by have := hE.A; rw [show K + 1 + 1 + (e.V.length : Int) + (e.M.length : Int) = K + 2 + (e.V.length : Int) + (e.M.length : Int) by omega]; exact this
      have c5' : w.cell? ⟨g, k * 6 + 5, none⟩ = some (.int .i64 (K + 1 + 1 + (e.V.length : Int) + (e.M.length : Int) + 3 * (e.A.length : Int))) := by rw [c5]; simp only [Option.some.injEq, Value.int.injEq, true_and]; omega
      have n1 : ¬ (K + 1 + 1 + (e.V.length : Int) < 0) := by omega
      have n2 : ¬ (K + 1 + 1 + (e.V.length : Int) + (e.M.length : Int) < 0) := by omega
      have n3 : ¬ (K + 1 + 1 + (e.V.length : Int) + (e.M.length : Int) + 3 * (e.A.length : Int) < 0) := by omega
      clear hrow ee e00 hK he km h1 hh em hE c5
      have t1 : True := trivial
      go_wp2_with (first
        | (go_at_call 58; clear t1; refine (heldF_any _ (by omega) (by omega) _ _ _ e.V.length _ v1).mono ?_; rintro x w2 ⟨rfl, hw⟩; replace hw := hw.symm; subst hw; have t2 : True := trivial)
        | (go_at_call 58; clear t2; refine (heldF_any _ (by omega) (by omega) _ _ _ e.M.length _ v2).mono ?_; rintro x w3 ⟨rfl, hw⟩; replace hw := hw.symm; subst hw)
        | (go_at_call 143; refine (heldA_any _ (by omega) (by omega) _ _ _ e.A.length _ v3).mono ?_; rintro x w4 ⟨rfl, hw⟩; replace hw := hw.symm; subst hw))
      go_roundw
      case rel =>
        have hEe := HE.out
        have hKe := HK.out
        refine ⟨k + 1, by omega, by go_num, ?_⟩
        simp only [Value.int.injEq, true_and, kAt, esz]; rw [← hEe]; omega
      case measure => simp [intOf]; omega
    · have he : k = n := by omega
      subst he
      go_wp2
      go_ret
      exact ⟨rfl, rfl⟩

theorem markT_any (k0 q : Int) (h0 : 0 ≤ k0) (a : Option Addr) (g cap n : Nat) (f : Nat → Ent) (w : World) (hh : 0 < n → a = some ⟨g, 0, none⟩) (h : WtF w g n f) (ha : ApF g n f) (hs : n ≤ 4194304) (hg : n = 0 ∨ g < w.heap.size) (h1 : k0 + (kAt f n : Int) ≤ 100000000000) :
    Calls Try.prog 42 #[.agg #[.int .i64 q, .slice a n cap], .int .i64 k0] w fun e w' => e = .returned (.int .i64 (k0 + (kAt f n : Int))) ∧ KeptP (fun b => 0 < n ∧ b = g ∨ ∃ i, i < n ∧ Uses (f i) b) w w' ∧ WtF w' g n (mid k0 f n) := by
  obtain ⟨W1, hW1⟩ : ∃ W1, W1 = w.alloc (.cells #[.int .i64 q, .slice a n cap] 38) := ⟨_, rfl⟩
  have B1 : Below w.heap.size w W1 := by subst hW1; exact below_alloc1 _ _
  have hw : WtF W1 g n f := by
    refine ⟨fun j hj => ?_, fun j hj => ?_, fun i hi => (h.each i hi).below B1⟩
    · exact (B1.cell (World.block_lt_of_cell? _ _ (h.row j hj))).trans (h.row j hj)
    · have e := B1.block g (World.block_lt_of_cell? _ _ (h.row j hj))
      have := h.free j hj
      simp only [World.frozen?, e] at this ⊢; exact this
  go_enter Try.func42, Try.ntmps42
  go_wp2_with (go_at_call 111; rw [← hW1]; clear hW1; refine (markS_any k0 h0 a g cap n f _ hh hw ha hs h1).mono ?_; rintro x wa ⟨rfl, kp, hm⟩)
  go_ret
  exact ⟨rfl, KeptP.pre B1 kp, hm⟩

theorem heldT_any (k0 q : Int) (h0 : 0 ≤ k0) (a : Option Addr) (g cap n : Nat) (f : Nat → Ent) (w : World) (hh : 0 < n → a = some ⟨g, 0, none⟩) (h : WtF w g n (mid k0 f n)) (hs : n ≤ 4194304) (h1 : k0 + (kAt f n : Int) ≤ 100000000000) :
    Calls Try.prog 44 #[.agg #[.int .i64 q, .slice a n cap], .int .i64 k0] w fun e w' => e = .returned (.int .i64 (k0 + (kAt f n : Int))) ∧ Below w.heap.size w w' := by
  obtain ⟨W1, hW1⟩ : ∃ W1, W1 = w.alloc (.cells #[.int .i64 q, .slice a n cap] 38) := ⟨_, rfl⟩
  have B1 : Below w.heap.size w W1 := by subst hW1; exact below_alloc1 _ _
  have hw : WtF W1 g n (mid k0 f n) := by
    refine ⟨fun j hj => ?_, fun j hj => ?_, fun i hi => (h.each i hi).below B1⟩
    · exact (B1.cell (World.block_lt_of_cell? _ _ (h.row j hj))).trans (h.row j hj)
    · have e := B1.block g (World.block_lt_of_cell? _ _ (h.row j hj))
      have := h.free j hj
      simp only [World.frozen?, e] at this ⊢; exact this
  have hp : ¬ (k0 + (kAt f n : Int) < 0) := by omega
  go_enter Try.func44, Try.ntmps44
  go_wp2_with (go_at_call 113; rw [← hW1]; clear hW1; refine (heldS_any k0 h0 a g cap n f _ hh hw hs h1).mono ?_; rintro x wa ⟨rfl, hwa⟩; replace hwa := hwa.symm; subst hwa)
  go_ret
  exact ⟨rfl, B1⟩

end Go.Proofs.Ytcbgnfjnjfaacaa.Em
namespace Go.Proofs.Ytcbgnfjnjfaacaa.Em
set_option maxRecDepth 8000
set_option linter.unusedSimpArgs false
set_option linter.unusedVariables false
open Go Go.RowKit
open Num Pl Ea Mf

/-- The entries of a list, by their place. -/
def at_ (F : List Ent) : Nat → Ent := fun i => F.getD i e0
theorem ownE_wt {w : World} {lo : Nat} {f : Ent} (h : OwnE w lo f) : WtE w f := by
  refine ⟨?_, ?_, ?_⟩
  · rw [h.aV]; exact Hr.mine_wt h.mV
  · rw [h.aM]; exact Hr.mine_wt h.mM
  · rw [h.aA]; exact mineA_wt h.mA
theorem mine_wtF {w : World} {lo g : Nat} {F : List Ent} (h : Mine w lo g F) : WtF w g F.length (at_ F) :=
  ⟨fun j hj => h.row.cell hj, fun j hj => h.row.frozen j, fun i hi => ownE_wt (h.own.each _ (getD_mem hi))⟩
theorem uses_own {f : Ent} {x : Nat} (h : Uses f x) : x = f.bV ∨ x = f.bM ∨ x = f.bA := by
  rcases h with ⟨h, _⟩ | ⟨h, _⟩ | ⟨h, _⟩
  · exact .inl h
  · exact .inr (.inl h)
  · exact .inr (.inr h)
theorem pair_at {F : List Ent} (h : F.Pairwise Apart) {i j : Nat} (hi : i < F.length) (hj : j < F.length) (hij : i < j) : Apart (F.getD i e0) (F.getD j e0) := by
  have := List.pairwise_iff_getElem.1 h i j hi hj hij
  simpa [List.getD, hi, hj] using this
theorem mine_apF {w : World} {lo g : Nat} {F : List Ent} (h : Mine w lo g F) : ApF g F.length (at_ F) := by
  refine ⟨fun i hi x hx => ?_, fun i hi => ?_, fun i j hi hj hij x hx y hy => ?_⟩
  · exact Ne.symm ((h.own.each _ (getD_mem hi)).ne h.row (uses_own hx))
  · have o := h.own.each _ (getD_mem hi)
    exact ⟨fun _ _ => o.d1, fun _ _ => o.d2, fun _ _ => o.d3⟩
  · rcases Nat.lt_or_ge i j with h1 | h1
    · exact pair_at h.own.apart hi hj h1 x (uses_own hx) y (uses_own hy)
    · exact fun e => pair_at h.own.apart hj hi (by omega) y (uses_own hy) x (uses_own hx) e.symm
/-- The blocks of a table. -/
def UseT (g n : Nat) (f : Nat → Ent) : Nat → Prop := fun b => 0 < n ∧ b = g ∨ ∃ i, i < n ∧ Uses (f i) b
theorem mine_U {w : World} {lo g : Nat} {F : List Ent} (h : Mine w lo g F) : ∀ x, UseT g F.length (at_ F) x → lo ≤ x ∧ x < w.heap.size := by
  intro x hx
  rcases hx with ⟨h0, rfl⟩ | ⟨i, hi, hu⟩
  · exact ⟨h.lg, h.row.lt⟩
  · have o := h.own.each _ (getD_mem hi)
    exact ⟨o.ge (uses_own hu), o.lt (uses_own hu)⟩

/-- How much the first k entries take. -/
def totQ (Q : List Ent) : Nat → Nat
  | 0 => 0
  | k + 1 => totQ Q k + ((Q.getD k e0).V.length + (Q.getD k e0).M.length + (Q.getD k e0).A.length)
theorem kAt_le (Q : List Ent) (k : Nat) : kAt (at_ Q) k ≤ 3 * k + 3 * totQ Q k := by
  induction k with
  | zero => simp [kAt]
  | succ k ih => simp only [kAt, totQ, esz, at_] at ih ⊢; omega
theorem said_lens {Q F : List Ent} (h : F.map Ent.said = Q.map Ent.said) (i : Nat) : esz (at_ F i) = esz (at_ Q i) := by
  have e := said_at h i
  simp only [Ent.said, Prod.mk.injEq] at e
  unfold esz at_
  rw [e.2.2.1, e.2.2.2.1, e.2.2.2.2.1]
theorem kAt_said {Q F : List Ent} (h : F.map Ent.said = Q.map Ent.said) (k : Nat) : kAt (at_ F) k = kAt (at_ Q) k := by
  induction k with
  | zero => rfl
  | succ k ih => simp only [kAt]; rw [ih, said_lens h k]
theorem rd_isRow {w : World} {a : Option Addr} {R : List Raw} (h : IsRow w a R) (hl : R.length + tot R R.length ≤ 1048576) : ∃ b off Q, List.length Q = R.length ∧ Rd w a b off Q ∧ (kAt (at_ Q) Q.length : Int) ≤ 3145728 := by
  obtain ⟨_, hi, hc⟩ := h
  obtain ⟨q, hq⟩ := Deep.choose_lt (n := R.length) (fun i h => ent_of_raw (hi i h) (by have := len_le_tot R h; omega))
  have ge : ∀ i, i < R.length → ((List.range R.length).map q).getD i e0 = q i := fun i hi => by simp [List.getD, hi]
  rcases hc with h0 | ⟨b, off, rfl, hc⟩
  · exact ⟨0, 0, [], h0.symm, ⟨fun h => by simp at h, fun i h => by simp at h, fun i h => by simp at h, by simp⟩, by simp [kAt]⟩
  · refine ⟨b, off, (List.range R.length).map q, by simp, ⟨fun _ => rfl, fun i hi => ?_, fun i hi => ?_, by simp; omega⟩, ?_⟩
    · simp only [List.length_map, List.length_range] at hi
      rw [ge i hi, (hq i hi).1]
      exact hc i hi
    · simp only [List.length_map, List.length_range] at hi
      rw [ge i hi]
      exact (hq i hi).2
    · have ht : ∀ k, k ≤ R.length → totQ ((List.range R.length).map q) k = tot R k := by
        intro k
        induction k with
        | zero => intro _; rfl
        | succ k ih =>
          intro hk
          have e := (hq k (by omega)).1
          simp only [Ent.vals, Raw.vals] at e
          have e2 : (q k).V.length = (R.getD k r0).nV ∧ (q k).M.length = (R.getD k r0).nM ∧ (q k).A.length = (R.getD k r0).nA := by
            simp at e
            simp only [List.getD]
            omega
          simp only [totQ, tot, Raw.len]
          rw [ih (by omega), ge k (by omega), e2.1, e2.2.1, e2.2.2]
      have := kAt_le ((List.range R.length).map q) R.length
      rw [ht R.length (Nat.le_refl _)] at this
      simp only [List.length_map, List.length_range]
      omega

end Go.Proofs.Ytcbgnfjnjfaacaa.Em
namespace Go.Proofs.Ytcbgnfjnjfaacaa.Hs
open Go Go.RowKit
open Num Pl Hr Hh Hf Hg Hb

theorem k8 {k : Nat} (h : k < 8) : k = 0 ∨ k = 1 ∨ k = 2 ∨ k = 3 ∨ k = 4 ∨ k = 5 ∨ k = 6 ∨ k = 7 := by omega

/-- A head in memory of the call's own. -/
def ResH (w : World) (L : List Int) (e : Ending) (w' : World) : Prop :=
  ∃ a g cap, e = .returned (.agg #[.slice a L.length cap]) ∧ Wt w' a g L ∧ w.heap.size ≤ g ∧ Below w.heap.size w w'

theorem wt_built {w : World} {g : Nat} {x0 x1 x2 x3 x4 x5 x6 x7 : Int} (h : w.heap[g]? = some (.cells #[.int .i64 x0, .int .i64 x1, .int .i64 x2, .int .i64 x3, .int .i64 x4, .int .i64 x5, .int .i64 x6, .int .i64 x7] 3 (0, 0))) :
    Wt w (some ⟨g, 0, none⟩) g [x0, x1, x2, x3, x4, x5, x6, x7] := by
  refine ⟨fun _ => rfl, fun i hi => ?_, fun i _ => Bl.free h i, by simp⟩
  have hi8 : i < 8 := hi
  rw [Bl.cell h]
  rcases k8 hi8 with rfl | rfl | rfl | rfl | rfl | rfl | rfl | rfl <;> rfl

theorem wt_set {w : World} {a : Option Addr} {g : Nat} {l : List Int} {ad : Addr} {u : Value} (h : Wt w a g l) (hne : ¬ ad.block = g) : Wt (w.setCell ad u) a g l := by
  have e : (w.setCell ad u).heap[g]? = w.heap[g]? := Below.heap_setCell w ad u g (fun e => hne e.symm)
  refine ⟨h.head, fun i hi => ?_, fun i hi => ?_, h.size⟩
  · have := h.cell i hi
    simp only [World.cell?, e] at this ⊢
    exact this
  · have := h.free i hi
    simp only [World.frozen?, e] at this ⊢
    exact this

/-- The list of a small head. -/
def smL (i s d : Int) : List Int := [i, s, d, 2048, 0, 0, 0, 0]
/-- What SmallHead answers. -/
def smallL (i s d : Int) : List Int := if headB (smL i s d) = true then smL i s d else []

end Go.Proofs.Ytcbgnfjnjfaacaa.Hs
namespace Go.Proofs.Ytcbgnfjnjfaacaa.Ht
set_option maxRecDepth 8000
open Go Go.RowKit
open Num Pl Hr Hh Hf Hg Hb Hs

/-- A slice of the call's own, not nil, that holds the integers l. -/
def HasN (w : World) (base : Nat) (v : Value) (l : List Int) : Prop := w.ownsRow base 3 1 v l.length (l.map (Value.int .i64)) ∧ v ≠ .slice none 0 0

theorem news_of {w : World} {ad : Addr} {b off : Nat} {m : List Int} (hr : Rd w (some ad) b off m) : ∀ j u, (m.map (Value.int .i64))[j]? = some u → w.cell? (ad.add j) = some u := by
  intro j u hj
  have hjl : j < m.length := by have := (List.getElem?_eq_some_iff.1 hj).1; simpa using this
  have hcj := hr.cell j hjl
  have e : u = .int .i64 (m.getD j 0) := by simp [hjl] at hj; rw [← hj]; simp [List.getD, hjl]
  subst e
  have hd := hr.head (by omega)
  injection hd with hd
  subst hd
  by_cases ej : j = 0
  · subst ej; simpa [Addr.add] using hcj
  · simpa [Addr.add, ej] using hcj

theorem hasN_form {w : World} {B : Nat} {v : Value} {l : List Int} (h : HasN w B v l) (hs : l.length ≤ 4194304) :
    ∃ g cap, v = .slice (some ⟨g, 0, none⟩) l.length cap ∧ B ≤ g ∧ Wt w (some ⟨g, 0, none⟩) g l ∧ l.length ≤ cap := by
  rcases h.1.2 with ⟨rfl, _⟩ | ⟨g, cap, cur, rfl, hb, hh, hn, _, _, ht⟩
  · exact absurd rfl h.2
  · refine ⟨g, cap, rfl, hb, ⟨fun _ => rfl, fun i hi => ?_, fun i _ => by simp [World.frozen?, hh], hs⟩, hn⟩
    have := h.1.cells (g := g) rfl i (.int .i64 (l.getD i 0)) (by simp [hi, List.getD])
    by_cases ei : i = 0
    · subst ei; simpa [Addr.add] using this
    · simpa [Addr.add, ei] using this

theorem own_emptyN (w : World) : HasN (w.alloc (.cells #[] 3)) w.heap.size (.slice (some ⟨w.heap.size, 0, none⟩) 0 0) [] := ⟨by simpa using World.ownsRow_made (size := 1) (e := 3) w #[] 0 (Nat.le_refl _) (Nat.zero_le _) rfl, by simp⟩

theorem below_own {w w1 w2 : World} {B : Nat} {v : Value} {l : List Int} (h : HasN w1 B v l) (hb : Below w.heap.size w w1) (hB : w.heap.size ≤ B) (hg : w1.grownBy w2 v.ownBlock) : Below w.heap.size w w2 :=
  hb.grown hg hb.size (fun k hk => by have := (h.1.lt k hk).1; omega)

theorem wpList_appN {ops : Array Oper} {rest : List Oper} {o : Oper} {a : Act} {w : World} {Q : Exit → Act → World → Prop} (hgd : o.guard = none) (s x : Operand)
    (ho : o.op = .call { callee := .builtin .append, args := #[s, x], argTypes := #[23, 23] }) (base : Nat) (v : Value) (l m : List Int) (hs : a.eval s = v) (hown : HasN w base v l)
    (ad : Addr) (b off c : Nat) (hx : a.eval x = .slice (some ad) m.length c) (hr : Rd w (some ad) b off m) (hb : l.length + m.length ≤ 8388608) (hbase : base ≤ w.heap.size)
    (h : ∀ v' w', HasN w' base v' (l ++ m) → w.grownBy w' v.ownBlock → wpList Try.prog ops Q rest (a.put o.dst v') w') : wpList Try.prog ops Q (o :: rest) a w := by
  obtain ⟨i0, hi, hz0, hz1, hz2⟩ := info_parts info3
  refine wpList_append_own _ hgd s x 23 ho base 3 i0 (.int .i64 0) 1 8 Try.underlying23 hi hz0 hz1 hz2 rfl (by decide) v l.length (l.map (Value.int .i64)) hs hown.1 ad m.length c (m.map (Value.int .i64)) hx (by simp) (news_of hr) (by intro u hu; simp at hu; obtain ⟨q, _, rfl⟩ := hu; rfl) (by unfold maxLen; omega) (by omega) hbase ?_
  intro v' w' h1 h2 h3
  refine h v' w' ⟨by simpa using h1, fun e => ?_⟩ h2
  exact hown.2 (h3.1 e).1

/-- A head and a bool are handed back, the head in memory of the call's own. -/
def ResHB (w : World) (ok : Bool) (L : List Int) (e : Ending) (w' : World) : Prop :=
  ∃ a g cap, e = .returned (.tuple #[.agg #[.slice a L.length cap], .bool ok]) ∧ Wt w' a g L ∧ w.heap.size ≤ g ∧ Below w.heap.size w w'

theorem res_none {w w' : World} (h : Below w.heap.size w w') : ResHB w false [] (.returned (.tuple #[.agg #[.slice none 0 0], .bool false])) w' :=
  ⟨none, w.heap.size, 0, rfl, Wt.nil _ _ _, Nat.le_refl _, h⟩

theorem set_at {l : List Int} {F k : Nat} {v : Int} (hk : k < l.length) : (l.set F v).getD k 0 = if k = F then v else l.getD k 0 := by
  simp only [List.getD, List.getElem?_set]
  by_cases e : k = F
  · subst e; simp [hk]
  · have e' : ¬ F = k := fun h => e h.symm
    simp [e, e']

theorem fits_in {f v : Int} (h : fits f v = true) : ∃ F : Nat, f = F ∧ F < 8 := by
  by_cases h0 : f < 0 ∨ 8 ≤ f
  · rw [fits_out h0] at h; simp at h
  · exact ⟨f.toNat, by omega, by omega⟩
theorem head_len {l : List Int} (h : headB l = true) : l.length = 8 := by
  unfold headB at h
  simp at h
  exact h.1

theorem wt_put {w : World} {g F : Nat} {l : List Int} {v : Int} (h : Wt w (some ⟨g, 0, none⟩) g l) : Wt (w.setCell ⟨g, F, none⟩ (.int .i64 v)) (some ⟨g, 0, none⟩) g (l.set F v) := by
  refine ⟨fun _ => rfl, fun i hi => ?_, fun i hi => ?_, by simpa using h.size⟩
  · have hi' : i < l.length := by simpa using hi
    rw [set_at hi']
    by_cases e : i = F
    · subst e
      rw [World.cell?_setCell_same _ _ _ (h.cell i hi'), if_pos rfl]
    · rw [World.cell?_setCell_other _ _ _ _ (by intro q; injection q with q1 q2; exact e q2.symm), h.cell i hi', if_neg e]
  · have hi' : i < l.length := by simpa using hi
    simpa using h.free i hi'

theorem grown_below {w w3 w4 : World} {o : Obj} (B0 : Below w.heap.size w (w3.alloc o)) (hg : (w3.alloc o).grownBy w4 (Value.ownBlock (.slice (some ⟨w3.heap.size, 0, none⟩) 0 0))) (h : w.heap.size ≤ w3.heap.size) : Below w.heap.size w w4 ∧ ∀ k, k < w3.heap.size → w4.heap[k]? = (w3.alloc o).heap[k]? := by
  constructor
  · refine B0.grown hg B0.size ?_
    intro k hk
    have e : w3.heap.size = k := by simpa [Value.ownBlock] using hk
    omega
  · intro k hk
    refine hg.block k (by simp; omega) ?_
    intro e
    have e' : k = w3.heap.size := by simpa [Value.ownBlock] using e
    omega

end Go.Proofs.Ytcbgnfjnjfaacaa.Ht
namespace Go.Proofs.Ytcbgnfjnjfaacaa.Lk
open Go Go.RowKit
open Num Pl Hr Mf

theorem below_kept {B g n : Nat} {w0 w w' : World} (hb : Below B w0 w) (hB : B ≤ w.heap.size) (hk : Kept g n w w') (hg : n = 0 ∨ B ≤ g) : Below B w0 w' :=
  hb.trans ⟨hk.os, hk.tape, hk.output, hk.size, fun k h => hk.block k (Nat.lt_of_lt_of_le h hB) (hg.imp id (by omega))⟩
theorem rd_kept {g n : Nat} {w w' : World} {a : Option Addr} {b off : Nat} {l : List Int} (hk : Kept g n w w') (hr : Rd w a b off l) (hne : l.length = 0 ∨ n = 0 ∨ b ≠ g) : Rd w' a b off l := by
  refine ⟨hr.head, fun i hi => ?_, hr.size⟩
  rcases hne with h0 | h1
  · omega
  · exact (World.cell?_of_block (hk.block b (World.block_lt_of_cell? _ _ (hr.cell i hi)) h1)).trans (hr.cell i hi)
theorem wt_kept {g n : Nat} {w w' : World} {a : Option Addr} {b : Nat} {l : List Int} (hk : Kept g n w w') (hr : Wt w a b l) (hne : l.length = 0 ∨ n = 0 ∨ b ≠ g) : Wt w' a b l := by
  refine ⟨hr.head, fun i hi => ?_, fun i hi => ?_, hr.size⟩
  · have := (rd_kept hk hr.rd hne).cell i hi
    simpa using this
  · rcases hne with h0 | h1
    · omega
    · have hb := hk.block b (World.block_lt_of_cell? _ _ (hr.cell i hi)) h1
      have := hr.free i hi
      simp only [World.frozen?, hb] at this ⊢
      exact this
theorem mine_kept {g n b : Nat} {w w' : World} {l : List Int} (hk : Kept g n w w') (hm : Mine w b l) (hne : n = 0 ∨ b ≠ g) : Mine w' b l :=
  ⟨hm.row.of_block (hk.block b hm.row.lt hne), hm.size⟩
theorem mine_kept2 {g n g' n' b : Nat} {w w' : World} {l : List Int} (hk : Kept2 g n g' n' w w') (hm : Mine w b l) (hne : (n = 0 ∨ b ≠ g) ∧ (n' = 0 ∨ b ≠ g')) : Mine w' b l :=
  ⟨hm.row.of_block (hk.block b hm.row.lt hne.1 hne.2), hm.size⟩

end Go.Proofs.Ytcbgnfjnjfaacaa.Lk
namespace Go.Proofs.Ytcbgnfjnjfaacaa.Ln
set_option maxRecDepth 8000
open Go Go.RowKit
open Num Pl Hr Hh Pa Pm Po Pq

theorem run_alloc25 (w : World) : (Instr.alloc 25 true (.tuple #[])).run Try.prog w = .ok (.pointer (some ⟨w.heap.size, 0, none⟩)) (w.alloc (.cells #[.slice none 0 0, .slice none 0 0] 25)) := by
  simp [go_sem]
theorem readyAlloc {md : Region.Mode} {ops : Array Oper} {Q : Exit → Act → World → Prop} {S : World → Prop} {fuel : Nat} {listed : Array Bool} {a : Act} {w : World} {i : Nat} {o : Oper} {rs : List Nat} (hi : ops[i]? = some o) (hgd : o.guard = none)
    (ho : o.op = .alloc 25) (d : Tmp) (hd : o.dst = some d)
    (hS : S (w.alloc (.cells #[.slice none 0 0, .slice none 0 0] 25)))
    (hk : S (w.alloc (.cells #[.slice none 0 0, .slice none 0 0] 25)) → wpAnyH Try.prog md ops Q S fuel (listed.setIfInBounds i true) (a.put (some d) (.pointer (some ⟨w.heap.size, 0, none⟩))) (w.alloc (.cells #[.slice none 0 0, .slice none 0 0] 25)))
    (hs : AllReadyH Try.prog md ops Q S fuel listed a w rs) : AllReadyH Try.prog md ops Q S fuel listed a w (i :: rs) :=
  AllReadyH.cons hi (fun K hK => by
    rw [if_pos (by simp only [Region.wanted, hgd])]
    unfold Oper.wp execOp
    simp only [ho, Sem.run_bind, Sem.run_pure, Result.andThen_ok, run_alloc25]
    exact hK.out _ _ hS (fun hs' => by rw [hd]; exact hk hs')) hs
theorem info25 : (Try.prog.info? 25).map (·.size) = some 2 := by kernel_rfl
theorem row_setRow {w : World} {g : Nat} {c c' : Array Value} {t : TypeId} {fr : Nat × Nat} (h : w.heap[g]? = some (.cells c t fr)) : (w.setRow g c').heap[g]? = some (.cells c' t fr) := by
  simp only [World.setRow]
  rw [Array.getElem?_modify, if_pos rfl, h]
  rfl
theorem readyStore {md : Region.Mode} {ops : Array Oper} {Q : Exit → Act → World → Prop} {S : World → Prop} {fuel : Nat} {listed : Array Bool} {a : Act} {w : World} {i : Nat} {o : Oper} {rs : List Nat} (hi : ops[i]? = some o) (hgd : o.guard = none)
    (x y : Operand) (ho : o.op = .store 25 x y) (hd : o.dst = none) {X : Nat} (hx : a.eval x = .pointer (some ⟨X, 0, none⟩)) {p p' : Option Addr} {n c n' c' : Nat} (hy : a.eval y = .agg #[.slice p n c, .slice p' n' c'])
    (h : w.heap[X]? = some (.cells #[.slice none 0 0, .slice none 0 0] 25 (0, 0)))
    (hS : ∀ w', w'.heap[X]? = some (.cells #[.slice p n c, .slice p' n' c'] 25 (0, 0)) → Same X w w' → S w')
    (hk : ∀ w', w'.heap[X]? = some (.cells #[.slice p n c, .slice p' n' c'] 25 (0, 0)) → Same X w w' → S w' → wpAnyH Try.prog md ops Q S fuel (listed.setIfInBounds i true) (a.put none undef) w')
    (hs : AllReadyH Try.prog md ops Q S fuel listed a w rs) : AllReadyH Try.prog md ops Q S fuel listed a w (i :: rs) :=
  AllReadyH.cons hi (fun K hK => by
    rw [if_pos (by simp only [Region.wanted, hgd])]
    exact wp_store_row 25 x y ho X _ hx hy 25 _ h info25 rfl (by simp [Value.oneCell']) (hK.out _ _ (hS _ (row_setRow h) (same_setRow w X _)) (fun hs' => by rw [hd]; exact hk _ (row_setRow h) (same_setRow w X _) hs'))) hs
theorem wt_same {X g : Nat} {w w' : World} {a : Option Addr} {l : List Int} (hs : Same X w w') (h : Wt w a g l) (hne : l.length = 0 ∨ g ≠ X) : Wt w' a g l := by
  refine ⟨h.head, fun i hi => ?_, fun i hi => ?_, h.size⟩
  · rcases hne with h0 | h0
    · omega
    · have e := hs.block g h0
      have := h.cell i hi
      simp only [World.cell?, e] at this ⊢
      exact this
  · rcases hne with h0 | h0
    · omega
    · have e := hs.block g h0
      have := h.free i hi
      simp only [World.frozen?, e] at this ⊢
      exact this
theorem same_below {X : Nat} {B : Nat} {w0 w w' : World} (hs : Same X w w') (hb : Below B w0 w) (h : B ≤ X) : Below B w0 w' := hs.below hb h

end Go.Proofs.Ytcbgnfjnjfaacaa.Ln
namespace Go.Proofs.Ytcbgnfjnjfaacaa.Yh
set_option maxRecDepth 8000
open Go Go.RowKit
open Num Pl Hr Hh Pq Ht

/-- The block g is a row of the call's own that begins with the integers l. -/
structure Own (w : World) (g : Nat) (l : List Int) : Prop where
  row : ∃ cur : Array Value, w.heap[g]? = some (.cells cur 3 (0, 0)) ∧ ∀ i, i < l.length → cur[i]? = some (.int .i64 (l.getD i 0))
  size : l.length ≤ 4194304

theorem own_mine {w : World} {g : Nat} {l : List Int} (h : Mine w g l) : Own w g l := by
  obtain ⟨⟨c, hb, hn, hc⟩, hs⟩ := h
  exact ⟨⟨c, hb, hc⟩, hs⟩
theorem own_has {w : World} {B : Nat} {v : Value} {l : List Int} (h : HasN w B v l) (hs : l.length ≤ 4194304) :
    ∃ g cap, v = .slice (some ⟨g, 0, none⟩) l.length cap ∧ B ≤ g ∧ Own w g l ∧ l.length ≤ cap := by
  rcases h.1.2 with ⟨rfl, _⟩ | ⟨g, cap, cur, rfl, hb, hh, hn, _, _, ht⟩
  · exact absurd rfl h.2
  · refine ⟨g, cap, rfl, hb, ⟨⟨cur, hh, fun i hi => ?_⟩, hs⟩, hn⟩
    have e : (cur.toList.take (l.length * 1))[i]? = (l.map (Value.int .i64))[i]? := by rw [ht]
    rw [List.getElem?_take, if_pos (by omega)] at e
    rw [← Array.getElem?_toList, e]
    simp [List.getD, hi]
theorem Own.lt {w : World} {g : Nat} {l : List Int} (h : Own w g l) : g < w.heap.size := by
  obtain ⟨⟨c, hb, _⟩, _⟩ := h
  exact (Array.getElem?_eq_some_iff.1 hb).1
theorem Own.of_block {w w' : World} {g : Nat} {l : List Int} (h : Own w g l) (e : w'.heap[g]? = w.heap[g]?) : Own w' g l := by
  obtain ⟨⟨c, hb, hc⟩, hs⟩ := h
  exact ⟨⟨c, e.trans hb, hc⟩, hs⟩
theorem Own.below {w w' : World} {g : Nat} {l : List Int} (h : Own w g l) (hb : Below w.heap.size w w') : Own w' g l := h.of_block (hb.block g h.lt)
theorem Own.wt {w : World} {g : Nat} {l : List Int} (h : Own w g l) : Wt w (some ⟨g, 0, none⟩) g l := by
  obtain ⟨⟨c, hb, hc⟩, hs⟩ := h
  exact ⟨fun _ => rfl, fun i hi => by simp [World.cell?, hb, hc i hi], fun i _ => by simp [World.frozen?, hb], hs⟩
theorem Own.rd {w : World} {g : Nat} {l : List Int} (h : Own w g l) : Rd w (some ⟨g, 0, none⟩) g 0 l := h.wt.rd

/-- One thing that is sent: its port, its head, the head's block and room. -/
structure E where
  p : Int
  l : List Int
  g : Nat
  c : Nat
def E.cells (e : E) : List Value := [.int .i64 e.p, .slice (some ⟨e.g, 0, none⟩) e.l.length e.c]
def flat (Q : List E) : List Value := Q.flatMap E.cells
def said (Q : List E) : List (Int × List Int) := Q.map fun e => (e.p, e.l)
theorem flat_len (Q : List E) : (flat Q).length = Q.length * 2 := by
  induction Q with
  | nil => rfl
  | cons e Q ih => simp only [flat, List.flatMap_cons, List.length_append, List.length_cons] at ih ⊢; rw [ih]; simp [E.cells]; omega

/-- A step of a region that draws its order, by what it runs to. -/
theorem readyRun {md : Region.Mode} {ops : Array Oper} {Q : Exit → Act → World → Prop} {S : World → Prop} {fuel : Nat} {listed : Array Bool} {a : Act} {w : World} {i : Nat} {o : Oper} {rs : List Nat} (hi : ops[i]? = some o) (hw : Region.wanted o (yielded ops a.tmps) = true)
    (d : Option Tmp) (hd : o.dst = d) {v : Value} {w' : World} (hr : (execOp a.eval o).run Try.prog w = .ok (.value v) w') (hS : S w')
    (hk : S w' → wpAnyH Try.prog md ops Q S fuel (listed.setIfInBounds i true) (a.put d v) w')
    (hs : AllReadyH Try.prog md ops Q S fuel listed a w rs) : AllReadyH Try.prog md ops Q S fuel listed a w (i :: rs) :=
  AllReadyH.cons hi (fun K hK => by
    rw [if_pos hw]
    unfold Oper.wp
    rw [hr]
    exact hK.out _ _ hS (fun hs' => by rw [hd]; exact hk hs')) hs
theorem readySkip {md : Region.Mode} {ops : Array Oper} {Q : Exit → Act → World → Prop} {S : World → Prop} {fuel : Nat} {listed : Array Bool} {a : Act} {w : World} {i : Nat} {o : Oper} {rs : List Nat} (hi : ops[i]? = some o) (hw : Region.wanted o (yielded ops a.tmps) = true)
    (d : Option Tmp) (hd : o.dst = d) {w' : World} (hr : (execOp a.eval o).run Try.prog w = .ok .skip w') (hS : S w')
    (hk : S w' → wpAnyH Try.prog md ops Q S fuel (listed.setIfInBounds i true) (a.put d undef) w')
    (hs : AllReadyH Try.prog md ops Q S fuel listed a w rs) : AllReadyH Try.prog md ops Q S fuel listed a w (i :: rs) :=
  AllReadyH.cons hi (fun K hK => by
    rw [if_pos hw]
    unfold Oper.wp
    rw [hr]
    exact hK.out _ _ hS (fun hs' => by rw [hd]; exact hk hs')) hs

/-- A copy of integers in a row of the call's own. -/
theorem eql_nil (w : World) : (binOp BinOp.eql 23 (.slice none 0 0) (.slice none 0 0)).run Try.prog w = .ok (.bool true) w := by kernel_rfl
theorem eql_some (ad : Addr) (n c : Nat) (w : World) : (binOp BinOp.eql 23 (.slice (some ad) n c) (.slice none 0 0)).run Try.prog w = .ok (.bool false) w := by kernel_rfl
set_option maxHeartbeats 1000000 in
theorem clone_any (b off cap n : Nat) (l : List Int) (w : World) (h : Rd w (some ⟨b, off, none⟩) b off l) (hn : l.length = n) :
    Calls Try.prog 132 #[.slice (some ⟨b, off, none⟩) n cap] w fun e w' => ∃ g c, e = .returned (.slice (some ⟨g, 0, none⟩) n c) ∧ Own w' g l ∧ w.heap.size ≤ g ∧ Below w.heap.size w w' := by
  subst hn
  have hs := h.size
  have B0 := below_alloc1 w (.cells #[] 3)
  have O0 := own_emptyN w
  have h0 := h.below B0
  have q0 := eql_some ⟨b, off, none⟩ l.length cap w
  go_enter Try.func132, Try.ntmps132
  go_wp2_with (at_builtin; refine wpList_appN rfl (.tmp 5) (.tmp 6) rfl w.heap.size _ [] l rfl O0 ⟨b, off, none⟩ b off cap rfl h0 (by simp; omega) (by simp) ?_; intro v' w' hown hgrow)
  go_ret
  have hB := below_own O0 B0 (Nat.le_refl _) hgrow
  obtain ⟨g, cap', rfl, hg, ho, _⟩ := own_has hown (by simpa using hs)
  simp only [List.nil_append] at ho
  exact ⟨g, cap', rfl, ho, hg, hB⟩

end Go.Proofs.Ytcbgnfjnjfaacaa.Yh
namespace Go.Proofs.Ytcbgnfjnjfaacaa.Yx
set_option maxRecDepth 8000
set_option linter.unusedSimpArgs false
set_option linter.unusedVariables false
open Go Go.RowKit
open Num Pl Hr Hh Pq Ht Yh

abbrev A3 := Yb.A3
def cellsA (x : A3) : List Value := [.int .i64 x.1, .int .i64 x.2.1, .int .i64 x.2.2]
def flatA (l : List A3) : List Value := l.flatMap cellsA
theorem flatA_get : ∀ (l : List A3) (i : Nat), i < l.length → (flatA l)[i * 3]? = some (.int .i64 (l.getD i Yb.z3).1) ∧ (flatA l)[i * 3 + 1]? = some (.int .i64 (l.getD i Yb.z3).2.1) ∧ (flatA l)[i * 3 + 2]? = some (.int .i64 (l.getD i Yb.z3).2.2)
  | [], i, h => by simp at h
  | x :: l, 0, h => by simp [flatA, cellsA, List.getD]
  | x :: l, i + 1, h => by
    have q := flatA_get l i (by simpa using h)
    have e0 : (i + 1) * 3 = i * 3 + 1 + 1 + 1 := by omega
    have e : flatA (x :: l) = .int .i64 x.1 :: .int .i64 x.2.1 :: .int .i64 x.2.2 :: flatA l := by simp [flatA, cellsA]
    rw [e0, e]
    exact ⟨q.1, q.2.1, q.2.2⟩
theorem info76 : (Try.prog.info? 147).map (fun i => (i.zero, i.size, i.bytes)) = some (some (.agg #[.int .i64 0, .int .i64 0, .int .i64 0]), 3, 24) := by kernel_rfl

/-- A slice of the call's own, not nil, that holds the actions l. -/
def HasA (w : World) (B : Nat) (v : Value) (l : List A3) : Prop := w.ownsRow B 147 3 v l.length (flatA l) ∧ v ≠ .slice none 0 0
theorem hasA_mono {w : World} {B B' : Nat} {v : Value} {l : List A3} (h : HasA w B v l) (hB : B' ≤ B) : HasA w B' v l := by
  refine ⟨⟨h.1.1, ?_⟩, h.2⟩
  rcases h.1.2 with ⟨e1, e2⟩ | ⟨g, cap, cur, e1, hb, hg, rest⟩
  · exact .inl ⟨e1, e2⟩
  · exact .inr ⟨g, cap, cur, e1, Nat.le_trans hB hb, hg, rest⟩
theorem hasA_keep {w w' : World} {B : Nat} {v : Value} {l : List A3} (h : HasA w B v l) (hk : ∀ k, B ≤ k → k < w.heap.size → w'.heap[k]? = w.heap[k]?) : HasA w' B v l := by
  refine ⟨⟨h.1.1, ?_⟩, h.2⟩
  rcases h.1.2 with ⟨e1, e2⟩ | ⟨g, cap, cur, e1, hb, hg, rest⟩
  · exact .inl ⟨e1, e2⟩
  · exact .inr ⟨g, cap, cur, e1, hb, (hk g hb (Array.getElem?_eq_some_iff.1 hg).1).trans hg, rest⟩
theorem hasA_alloc {w : World} {B : Nat} {v : Value} {l : List A3} (h : HasA w B v l) (o : Obj) : HasA (w.alloc o) B v l := ⟨h.1.alloc o, h.2⟩
theorem own_emptyA (w : World) : HasA (w.alloc (.cells #[] 147)) w.heap.size (.slice (some ⟨w.heap.size, 0, none⟩) 0 0) [] := ⟨by simpa [flatA] using World.ownsRow_made (size := 3) (e := 147) w #[] 0 (Nat.le_refl _) (Nat.zero_le _) rfl, by simp⟩
theorem hasA_form {w : World} {B : Nat} {v : Value} {l : List A3} (h : HasA w B v l) (hs : l.length ≤ 4194304) :
    ∃ g cap, v = .slice (some ⟨g, 0, none⟩) l.length cap ∧ B ≤ g ∧ Yb.Rd w (some ⟨g, 0, none⟩) g 0 l ∧ l.length ≤ cap := by
  rcases h.1.2 with ⟨rfl, _⟩ | ⟨g, cap, cur, rfl, hb, hh, hn, _, _, ht⟩
  · exact absurd rfl h.2
  · refine ⟨g, cap, rfl, hb, ⟨fun _ => rfl, fun i hi => ?_, hs⟩, hn⟩
    obtain ⟨q0, q1, q2⟩ := flatA_get l i hi
    have p0 := h.1.cells (g := g) rfl _ _ q0
    have p1 := h.1.cells (g := g) rfl _ _ q1
    have p2 := h.1.cells (g := g) rfl _ _ q2
    rw [Yb.add_eq] at p0 p1 p2
    exact ⟨p0, p1, p2⟩
theorem wpList_appA {ops : Array Oper} {rest : List Oper} {o : Oper} {a : Act} {w : World} {Q : Exit → Act → World → Prop} (hgd : o.guard = none) (s x : Operand)
    (ho : o.op = .call { callee := .builtin .append, args := #[s, x], argTypes := #[39, 39] }) (base : Nat) (v : Value) (l : List A3) (m : A3) (hs : a.eval s = v) (hown : HasA w base v l)
    (T c : Nat) (hx : a.eval x = .slice (some ⟨T, 0, none⟩) 1 c) (hT : w.heap[T]? = some (.cells #[.int .i64 m.1, .int .i64 m.2.1, .int .i64 m.2.2] 147 (0, 0))) (hb : l.length ≤ 4194304) (hbase : base ≤ w.heap.size)
    (h : ∀ v' w', HasA w' base v' (l ++ [m]) → w.grownBy w' v.ownBlock → wpList Try.prog ops Q rest (a.put o.dst v') w') : wpList Try.prog ops Q (o :: rest) a w := by
  obtain ⟨i0, hi, hz0, hz1, hz2⟩ := info_parts info76
  refine wpList_append_own _ hgd s x 39 ho base 147 i0 (.agg #[.int .i64 0, .int .i64 0, .int .i64 0]) 3 24 Try.underlying39 hi hz0 hz1 hz2 rfl (by decide) v l.length (flatA l) hs hown.1 ⟨T, 0, none⟩ 1 c (cellsA m) hx rfl (by
      intro j u hj
      have hjl : j < 3 := by have := (List.getElem?_eq_some_iff.1 hj).1; simpa [cellsA] using this
      rw [Yb.add_eq, Nat.zero_add]
      match j, hjl with
      | 0, _ => simp [cellsA] at hj; subst hj; simp [World.cell?, hT]
      | 1, _ => simp [cellsA] at hj; subst hj; simp [World.cell?, hT]
      | 2, _ => simp [cellsA] at hj; subst hj; simp [World.cell?, hT]) (by intro u hu; simp [cellsA] at hu; rcases hu with rfl | rfl | rfl <;> rfl) (by unfold maxLen; omega) (by omega) hbase ?_
  intro v' w' h1 h2 h3
  refine h v' w' ⟨by have e : flatA (l ++ [m]) = flatA l ++ cellsA m := (by simp [flatA]); rw [e]; simpa using h1, fun e => ?_⟩ h2
  exact hown.2 (h3.1 e).1

end Go.Proofs.Ytcbgnfjnjfaacaa.Yx
namespace Go.Proofs.Ytcbgnfjnjfaacaa.Cp
set_option maxRecDepth 8000
set_option linter.unusedSimpArgs false
set_option linter.unusedVariables false
open Go Go.RowKit
open Num Pl Ea Em

theorem exec_app {o : Oper} {a : Act} {w w' : World} {v v' u : Value} {t : TypeId} (s x : Operand) (ho : o.op = .call { callee := .builtin .append, args := #[s, x], argTypes := #[t, t] }) (hs : a.eval s = v) (hx : a.eval x = u)
    (hr : (Builtin.append_ #[t, t] o.type #[v, u]).run Try.prog w = .ok v' w') : (execOp a.eval o).run Try.prog w = .ok (.value v') w' := by
  unfold execOp
  simp only [ho, resolve, invoke, builtin, Sem.run_bind, Sem.run_pure, Result.andThen_ok, List.map_toArray, List.map_cons, List.map_nil, hs, hx, hr]
theorem exec_empty {o : Oper} {a : Act} {w : World} (ho : o.op = .buildSlice 23 0 #[]) : (execOp a.eval o).run Try.prog w = .ok (.value (.slice (some ⟨w.heap.size, 0, none⟩) 0 0)) (w.alloc (.cells #[] 3)) := by
  unfold execOp
  rw [ho]
  kernel_rfl

/-- A copy of integers: a slice of the call's own that reads so. -/
def NewI (w : World) (l : List Int) (v : Value) (w' : World) : Prop := ∃ a g cap, v = .slice a l.length cap ∧ Hr.Wt w' a g l ∧ (l.length = 0 ∨ w.heap.size ≤ g)
theorem eqlN (n c : Nat) (w : World) : (binOp BinOp.eql 23 (.slice none n c) (.slice none 0 0)).run Try.prog w = .ok (.bool true) w := by kernel_rfl
theorem eqlAN (n c : Nat) (w : World) : (binOp BinOp.eql 39 (.slice none n c) (.slice none 0 0)).run Try.prog w = .ok (.bool true) w := by kernel_rfl
theorem eqlA (ad : Addr) (n c : Nat) (w : World) : (binOp BinOp.eql 39 (.slice (some ad) n c) (.slice none 0 0)).run Try.prog w = .ok (.bool false) w := by kernel_rfl
theorem app_ints {w : World} {B : Nat} {v : Value} (ty : TypeId) {ad : Addr} {b off c : Nat} {l : List Int} (h : Ht.HasN w B v []) (hr : Hr.Rd w (some ad) b off l) (hB : B ≤ w.heap.size) :
    ∃ v' w', (Builtin.append_ #[23, 23] ty #[v, .slice (some ad) l.length c]).run Try.prog w = .ok v' w' ∧ Ht.HasN w' B v' l ∧ w.grownBy w' v.ownBlock := by
  obtain ⟨i0, hi, hz0, hz1, hz2⟩ := info_parts Hr.info3
  have hs := hr.size
  obtain ⟨v', w', r, h1, h2, h3⟩ := run_append_own (P := Try.prog) w B 23 ty 3 i0 (.int .i64 0) 1 8 Try.underlying23 hi hz0 hz1 hz2 rfl (by decide) v 0 [] (by simpa using h.1) ad l.length c (l.map (Value.int .i64)) (by simp) (Ht.news_of hr) (by intro u hu; simp at hu; obtain ⟨q, _, rfl⟩ := hu; rfl) (by unfold maxLen; omega) (by omega) hB
  exact ⟨v', w', r, ⟨by simpa using h1, fun e => h.2 (h3.1 e).1⟩, h2⟩
theorem none23 (w : World) (ty : TypeId) (g n cap c : Nat) (h : n ≤ cap) : (Builtin.append_ #[23, 23] ty #[.slice (some ⟨g, 0, none⟩) n cap, .slice none 0 c]).run Try.prog w = .ok (.slice (some ⟨g, 0, none⟩) n cap) w := by
  simp [Builtin.append_, go_sem, h]
theorem none39 (w : World) (ty : TypeId) (g n cap c : Nat) (h : n ≤ cap) : (Builtin.append_ #[39, 39] ty #[.slice (some ⟨g, 0, none⟩) n cap, .slice none 0 c]).run Try.prog w = .ok (.slice (some ⟨g, 0, none⟩) n cap) w := by
  simp [Builtin.append_, go_sem, h]
theorem app_any {w : World} {B : Nat} {v : Value} (ty : TypeId) {A : Option Addr} {b off c : Nat} {l : List Int} (h : Ht.HasN w B v []) (hr : Hr.Rd w A b off l) (hB : B ≤ w.heap.size) :
    ∃ v' w', (Builtin.append_ #[23, 23] ty #[v, .slice A l.length c]).run Try.prog w = .ok v' w' ∧ Ht.HasN w' B v' l ∧ w.grownBy w' v.ownBlock := by
  cases A with
  | some ad => exact app_ints ty h hr hB
  | none =>
    have hl : l = [] := by
      rcases Nat.eq_zero_or_pos l.length with h0 | h0
      · exact List.eq_nil_of_length_eq_zero h0
      · exact absurd (hr.head h0) (by simp)
    subst hl
    have h2 := h
    rcases h.1.2 with ⟨rfl, _⟩ | ⟨g, cap, cur, rfl, _, _, hn, _⟩
    · exact absurd rfl h.2
    · exact ⟨_, w, none23 w ty g _ cap c hn, h2, ⟨rfl, rfl, rfl, Nat.le_refl _, fun _ _ _ => rfl⟩⟩
theorem wpList_run {ops : Array Oper} {rest : List Oper} {o : Oper} {a : Act} {w w' : World} {v : Value} {Q : Exit → Act → World → Prop} (hgd : o.guard = none) (hr : (execOp a.eval o).run Try.prog w = .ok (.value v) w')
    (h : wpList Try.prog ops Q rest (a.put o.dst v) w') : wpList Try.prog ops Q (o :: rest) a w := by
  refine wpList_plain hgd fun K hK => ?_
  unfold Oper.wp
  rw [hr]
  exact hK _ _ h

set_option maxHeartbeats 1000000 in
theorem cloneI (a : Option Addr) (b off cap : Nat) (l : List Int) (w : World) (h : Hr.Rd w a b off l) :
    Calls Try.prog 132 #[.slice a l.length cap] w fun e w' => ∃ v, e = .returned v ∧ NewI w l v w' ∧ Below w.heap.size w w' := by
  have hs := h.size
  cases a with
  | none =>
    have hl : l = [] := by
      rcases Nat.eq_zero_or_pos l.length with h0 | h0
      · exact List.eq_nil_of_length_eq_zero h0
      · exact absurd (h.head h0) (by simp)
    subst hl
    have q0 := eqlN 0 cap w
    go_enter Try.func132, Try.ntmps132
    go_wp2
    go_ret
    exact ⟨_, rfl, ⟨none, 0, 0, rfl, Hr.Wt.nil _ _ _, .inl rfl⟩, Below.refl _ _⟩
  | some ad =>
    have B0 := below_alloc1 w (.cells #[] 3)
    have O0 := Ht.own_emptyN w
    have h0 := h.below B0
    have q0 := Yh.eql_some ad l.length cap w
    go_enter Try.func132, Try.ntmps132
    go_wp2_with (at_builtin; refine Ht.wpList_appN rfl (.tmp 5) (.tmp 6) rfl w.heap.size _ [] l rfl O0 ad b off cap rfl h0 (by simp; omega) (by simp) ?_; intro v' w' hown hgrow)
    go_ret
    have hB := Ht.below_own O0 B0 (Nat.le_refl _) hgrow
    obtain ⟨g, cap', rfl, hg, ho, _⟩ := Yh.own_has hown (by simpa using hs)
    simp only [List.nil_append] at ho
    exact ⟨_, rfl, ⟨_, g, cap', rfl, ho.wt, .inr hg⟩, hB⟩

/-- A copy of actions. -/
def NewA (w : World) (l : List Yb.A3) (v : Value) (w' : World) : Prop := ∃ a g cap, v = .slice a l.length cap ∧ WtA w' a g l ∧ (l.length = 0 ∨ w.heap.size ≤ g)
theorem wtA_nil (w : World) (a : Option Addr) (g : Nat) : WtA w a g [] := ⟨fun h => by simp at h, fun j h => by simp at h, fun j h => by simp at h, by simp⟩
theorem news_acts {w : World} {ad : Addr} {b off : Nat} {l : List Yb.A3} (hr : Yb.Rd w (some ad) b off l) : ∀ j u, (Yx.flatA l)[j]? = some u → w.cell? (ad.add j) = some u := by
  intro j u hj
  have hlen : (Yx.flatA l).length = l.length * 3 := by
    clear hr hj
    induction l with
    | nil => rfl
    | cons x l ih => simp only [Yx.flatA, List.flatMap_cons, List.length_append, List.length_cons] at ih ⊢; rw [ih]; simp [Yx.cellsA]; omega
  have hjl : j < l.length * 3 := by rw [← hlen]; exact (List.getElem?_eq_some_iff.1 hj).1
  obtain rfl : ad = ⟨b, off, none⟩ := by simpa using hr.head (by omega)
  obtain ⟨c0, c1, c2⟩ := hr.cell (j / 3) (by omega)
  obtain ⟨q0, q1, q2⟩ := Yx.flatA_get l (j / 3) (by omega)
  rw [Yb.add_eq]
  have e : j = j / 3 * 3 ∨ j = j / 3 * 3 + 1 ∨ j = j / 3 * 3 + 2 := by omega
  rcases e with e | e | e
  · rw [e] at hj ⊢; rw [q0] at hj; rw [← hj]; exact c0
  · rw [e] at hj ⊢; rw [q1] at hj; rw [← hj, ← Nat.add_assoc]; exact c1
  · rw [e] at hj ⊢; rw [q2] at hj; rw [← hj, ← Nat.add_assoc]; exact c2

theorem app_acts {w : World} {B : Nat} {v : Value} (ty : TypeId) {A : Option Addr} {b off c : Nat} {l : List Yb.A3} (h : Yx.HasA w B v []) (hr : Yb.Rd w A b off l) (hB : B ≤ w.heap.size) :
    ∃ v' w', (Builtin.append_ #[39, 39] ty #[v, .slice A l.length c]).run Try.prog w = .ok v' w' ∧ Yx.HasA w' B v' l ∧ w.grownBy w' v.ownBlock := by
  cases A with
  | some ad =>
    obtain ⟨i0, hi, hz0, hz1, hz2⟩ := info_parts Yx.info76
    have hs := hr.size
    have hlen : (Yx.flatA l).length = l.length * 3 := by
      clear hr h hs
      induction l with
      | nil => rfl
      | cons x l ih => simp only [Yx.flatA, List.flatMap_cons, List.length_append, List.length_cons] at ih ⊢; rw [ih]; simp [Yx.cellsA]; omega
    obtain ⟨v', w', r, h1, h2, h3⟩ := run_append_own (P := Try.prog) w B 39 ty 147 i0 (.agg #[.int .i64 0, .int .i64 0, .int .i64 0]) 3 24 Try.underlying39 hi hz0 hz1 hz2 rfl (by decide) v 0 [] (by simpa [Yx.flatA] using h.1) ad l.length c (Yx.flatA l) hlen (news_acts hr) (by
      intro u hu
      simp only [Yx.flatA, List.mem_flatMap] at hu
      obtain ⟨x, _, hx⟩ := hu
      simp [Yx.cellsA] at hx
      rcases hx with rfl | rfl | rfl <;> rfl) (by unfold maxLen; omega) (by omega) hB
    exact ⟨v', w', r, ⟨by simpa using h1, fun e => h.2 (h3.1 e).1⟩, h2⟩
  | none =>
    have hl : l = [] := by
      rcases Nat.eq_zero_or_pos l.length with h0 | h0
      · exact List.eq_nil_of_length_eq_zero h0
      · exact absurd (hr.head h0) (by simp)
    subst hl
    have h2 := h
    rcases h.1.2 with ⟨rfl, _⟩ | ⟨g, cap, cur, rfl, _, _, hn, _⟩
    · exact absurd rfl h.2
    · exact ⟨_, w, none39 w ty g _ cap c hn, h2, ⟨rfl, rfl, rfl, Nat.le_refl _, fun _ _ _ => rfl⟩⟩
theorem hasA_wt {w : World} {B : Nat} {v : Value} {l : List Yb.A3} (h : Yx.HasA w B v l) (hs : l.length ≤ 4194304) : ∃ g cap, v = .slice (some ⟨g, 0, none⟩) l.length cap ∧ B ≤ g ∧ WtA w (some ⟨g, 0, none⟩) g l := by
  rcases h.1.2 with ⟨rfl, _⟩ | ⟨g, cap, cur, rfl, hb, hh, hn, _, _, ht⟩
  · exact absurd rfl h.2
  · refine ⟨g, cap, rfl, hb, ⟨fun _ => rfl, fun j hj => ?_, fun j hj => by simp [World.frozen?, hh], hs⟩⟩
    obtain ⟨q0, q1, q2⟩ := Yx.flatA_get l (j / 3) (by omega)
    have p0 := h.1.cells (g := g) rfl _ _ q0
    have p1 := h.1.cells (g := g) rfl _ _ q1
    have p2 := h.1.cells (g := g) rfl _ _ q2
    rw [Yb.add_eq, Nat.zero_add] at p0 p1 p2
    have e : j = j / 3 * 3 ∨ j = j / 3 * 3 + 1 ∨ j = j / 3 * 3 + 2 := by omega
    rcases e with e | e | e
    · rw [e, Yb.flat0]; exact p0
    · rw [e, Yb.flat1]; exact p1
    · rw [e, Yb.flat2]; exact p2
theorem below_ownA {w w1 w2 : World} {B : Nat} {v : Value} {l : List Yb.A3} (h : Yx.HasA w1 B v l) (hb : Below w.heap.size w w1) (hB : w.heap.size ≤ B) (hg : w1.grownBy w2 v.ownBlock) : Below w.heap.size w w2 :=
  hb.grown hg hb.size (fun k hk => by have := (h.1.lt k hk).1; omega)

set_option maxHeartbeats 1000000 in
theorem cloneA (a : Option Addr) (b off cap : Nat) (l : List Yb.A3) (w : World) (h : Yb.Rd w a b off l) :
    Calls Try.prog 133 #[.slice a l.length cap] w fun e w' => ∃ v, e = .returned v ∧ NewA w l v w' ∧ Below w.heap.size w w' := by
  have hs := h.size
  cases a with
  | none =>
    have hl : l = [] := by
      rcases Nat.eq_zero_or_pos l.length with h0 | h0
      · exact List.eq_nil_of_length_eq_zero h0
      · exact absurd (h.head h0) (by simp)
    subst hl
    have q0 := eqlAN 0 cap w
    go_enter Try.func133, Try.ntmps133
    go_wp2
    go_ret
    exact ⟨_, rfl, ⟨none, 0, 0, rfl, wtA_nil _ _ _, .inl rfl⟩, Below.refl _ _⟩
  | some ad =>
    have B0 := below_alloc1 w (.cells #[] 147)
    have O0 := Yx.own_emptyA w
    have h0 := h.below B0
    have q0 := eqlA ad l.length cap w
    obtain ⟨v', w', hrun, hown, hgrow⟩ := app_acts 39 (c := cap) O0 h0 (by simp)
    go_enter Try.func133, Try.ntmps133
    go_wp2_with (at_builtin; refine wpList_run rfl (exec_app (.tmp 5) (.tmp 6) rfl rfl rfl hrun) ?_)
    go_ret
    have hB := below_ownA O0 B0 (Nat.le_refl _) hgrow
    obtain ⟨g, cap', rfl, hg, ho⟩ := hasA_wt hown hs
    exact ⟨_, rfl, ⟨_, g, cap', rfl, ho, .inr hg⟩, hB⟩

/-- An entry of the call's own, from block lo on. -/
structure NewE (lo : Nat) (w : World) (f : Ent) : Prop where
  wt : WtE w f
  own : Own3 f
  lo : ∀ x, Uses f x → lo ≤ x
  wV : Po.Wide f.V
  wM : Po.Wide f.M
  oV : f.oV = 0
  oM : f.oM = 0
  oA : f.oA = 0
theorem NewE.below {lo : Nat} {w w' : World} {f : Ent} (h : NewE lo w f) (hb : Below w.heap.size w w') : NewE lo w' f := { h with wt := h.wt.below hb }
theorem NewE.ok {lo : Nat} {w : World} {f : Ent} (h : NewE lo w f) : f.Ok w := by
  refine ⟨?_, ?_, ?_, h.wV, h.wM⟩
  · rw [h.oV]; exact h.wt.V.rd
  · rw [h.oM]; exact h.wt.M.rd
  · rw [h.oA]; exact h.wt.A.rd

end Go.Proofs.Ytcbgnfjnjfaacaa.Cp
namespace Go.Proofs.Ytcbgnfjnjfaacaa.Cp
set_option maxRecDepth 8000
set_option linter.unusedSimpArgs false
set_option linter.unusedVariables false
open Go Go.RowKit
open Num Pl Ea Em

/-- A copy of an entry is handed back. -/
def ResE (w : World) (e : Ent) (x : Ending) (w' : World) : Prop := ∃ f : Ent, x = .returned (.agg f.vals) ∧ f.said = e.said ∧ NewE w.heap.size w' f ∧ Below w.heap.size w w'

/-- The three copies, in their order. -/
theorem new_three {w0 w1 w2 w3 : World} {ep pr hh : Int} {V M : List Int} {A : List Yb.A3} {aV aM aA : Option Addr} {gV gM gA cV cM cA : Nat} (wV : Po.Wide V) (wM : Po.Wide M)
    (mV : Hr.Wt w3 aV gV V) (mM : Hr.Wt w3 aM gM M) (mA : WtA w3 aA gA A) (lV : V.length = 0 ∨ w0.heap.size ≤ gV) (hV : V.length = 0 ∨ gV < w1.heap.size) (lM : M.length = 0 ∨ w1.heap.size ≤ gM) (hM : M.length = 0 ∨ gM < w2.heap.size) (lA : A.length = 0 ∨ w2.heap.size ≤ gA) (s1 : w0.heap.size ≤ w1.heap.size) (s2 : w1.heap.size ≤ w2.heap.size) :
    NewE w0.heap.size w3 ⟨ep, pr, V, M, A, hh, aV, gV, 0, cV, aM, gM, 0, cM, aA, gA, 0, cA⟩ := by
  refine ⟨⟨mV, mM, mA⟩, ⟨fun h1 h2 => ?_, fun h1 h2 => ?_, fun h1 h2 => ?_⟩, fun x hx => ?_, wV, wM, rfl, rfl, rfl⟩
  · simp only at h1 h2 ⊢; omega
  · simp only at h1 h2 ⊢; omega
  · simp only at h1 h2 ⊢; omega
  · simp only [Uses] at hx; omega

theorem wt_set {w : World} {a : Option Addr} {g b i : Nat} {l : List Int} {u : Value} (h : Hr.Wt w a g l) (hb : l.length = 0 ∨ b ≠ g) : Hr.Wt (w.setCell ⟨b, i, none⟩ u) a g l := wt_keep h fun h0 => blk_other rfl (by omega)
theorem wtA_set {w : World} {a : Option Addr} {g b i : Nat} {l : List Yb.A3} {u : Value} (h : WtA w a g l) (hb : l.length = 0 ∨ b ≠ g) : WtA (w.setCell ⟨b, i, none⟩ u) a g l := h.keep fun h0 => blk_other rfl (by omega)

set_option maxHeartbeats 4000000 in
theorem copyE (e : Ent) (w : World) (h : e.Ok w) : Calls Try.prog 79 #[.agg e.vals] w (ResE w e) := by
  obtain ⟨ep, pr, V, M, A, hh, aV, bV, oV, cV, aM, bM, oM, cM, aA, bA, oA, cA⟩ := e
  obtain ⟨rV, rM, rA, wV, wM⟩ := h
  simp only at rV rM rA wV wM
  simp only [Ent.vals]
  obtain ⟨W1, hW1⟩ : ∃ W1, W1 = (w.alloc (.cells #[.int .i64 ep, .int .i64 pr, .slice aV V.length cV, .slice aM M.length cM, .slice aA A.length cA, .int .i64 hh] 41)).alloc (.cells #[.int .i64 0, .int .i64 0, .slice none 0 0, .slice none 0 0, .slice none 0 0, .int .i64 0] 41) := ⟨_, rfl⟩
  have B1 : Below w.heap.size w W1 := by subst hW1; exact Rw.next (below_alloc1 _ _) (below_alloc1 _ _)
  have k0 : W1.heap[w.heap.size]? = some (.cells #[.int .i64 ep, .int .i64 pr, .slice aV V.length cV, .slice aM M.length cM, .slice aA A.length cA, .int .i64 hh] 41 (0, 0)) := by subst hW1; rw [at_old (by simp), at_new rfl]
  have k1 : W1.heap[w.heap.size + 1]? = some (.cells #[.int .i64 0, .int .i64 0, .slice none 0 0, .slice none 0 0, .slice none 0 0, .int .i64 0] 41 (0, 0)) := by subst hW1; exact at_new (by simp)
  have RM : Hid (Hr.Rd w aM bM oM M) := rM
  have RA : Hid (Yb.Rd w aA bA oA A) := rA
  have rV1 := (rV.below B1).below ((Below.refl _ _).drew)
  clear rV rM rA
  obtain ⟨p0, p1, p2, p3, p4, p5⟩ := six k0
  have f0 := Bl.free k0
  have HB : Hid (Below w.heap.size w W1) := B1
  have lW1 : w.heap.size + 1 < W1.heap.size := blk_lt k1
  go_enter Try.func79, Try.ntmps79
  go_wp2
  rw [← hW1]
  clear hW1
  have t1 : True := trivial
  go_region_with (first
    | (go_at_call 132; clear t1; refine (cloneI _ _ _ _ V _ rV1).mono ?_; rintro x wa ⟨vV, rfl, ⟨aV1, gV, cV1, rfl, mV, lV0⟩, hb0⟩; have lV : V.length = 0 ∨ W1.heap.size ≤ gV := lV0; clear lV0; have hb := Rw.next ((Below.refl _ _).drew) hb0; clear p0 p1 p2 p3 p4 p5 f0; replace k0 := (hb.block _ (blk_lt k0)).trans k0; replace k1 := (hb.block _ (blk_lt k1)).trans k1; have l1 := blk_lt k1; replace B1 := Rw.next B1 hb; have s1 : W1.heap.size ≤ wa.heap.size := hb.size; have hV := Hr.wt_lt mV; clear hb hb0; obtain ⟨p0, p1, p2, p3, p4, p5⟩ := six k0; have f0 := Bl.free k0; have t2 : True := trivial)
    | (go_at_call 132; clear t2; refine (cloneI _ _ _ _ M _ (RM.out.below B1)).mono ?_; rintro x wb ⟨vM, rfl, ⟨aM1, gM, cM1, rfl, mM, lM⟩, hb⟩; clear p0 p1 p2 p3 p4 p5 f0; replace k0 := (hb.block _ (blk_lt k0)).trans k0; replace k1 := (hb.block _ (blk_lt k1)).trans k1; replace B1 := Rw.next B1 hb; have s2 := hb.size; have hM := Hr.wt_lt mM; replace mV := mV.below hb; clear hb; obtain ⟨p0, p1, p2, p3, p4, p5⟩ := six k0; have f0 := Bl.free k0))
  all_goals (
    obtain ⟨W2, hW2⟩ : ∃ W2, W2 = (wb.setCell ⟨w.heap.size, 2, none⟩ (.slice aV1 V.length cV1)).setCell ⟨w.heap.size, 3, none⟩ (.slice aM1 M.length cM1) := ⟨_, rfl⟩
    have sz := HB.out.size
    have l0 := blk_lt k0
    have w2s : W2.heap.size = wb.heap.size := by subst hW2; simp
    have B2 : Below w.heap.size w W2 := by subst hW2; exact Pm.bset (Pm.bset B1 (Nat.le_refl _)) (Nat.le_refl _)
    have m0 : W2.heap[w.heap.size]? = some (.cells #[.int .i64 ep, .int .i64 pr, .slice aV1 V.length cV1, .slice aM1 M.length cM1, .slice aA A.length cA, .int .i64 hh] 41 (0, 0)) := by subst hW2; exact blk_same (blk_same k0)
    have m1 : W2.heap[w.heap.size + 1]? = some (.cells #[.int .i64 0, .int .i64 0, .slice none 0 0, .slice none 0 0, .slice none 0 0, .int .i64 0] 41 (0, 0)) := by subst hW2; exact blk_other (blk_other k1 (by omega)) (by omega)
    have vV : Hr.Wt W2 aV1 gV V := wt_keep mV fun h0 => by subst hW2; exact blk_other (blk_other rfl (by omega)) (by omega)
    have vM : Hr.Wt W2 aM1 gM M := wt_keep mM fun h0 => by subst hW2; exact blk_other (blk_other rfl (by omega)) (by omega)
    clear k0 k1 mV mM B1
    go_wp2_with (go_at_call 133; rw [← hW2]; clear hW2; refine (cloneA _ _ _ _ A _ (RA.out.below B2)).mono ?_; rintro x wc ⟨vA, rfl, ⟨aA1, gA, cA1, rfl, mA, lA⟩, hb⟩; replace m0 := (hb.block _ (blk_lt m0)).trans m0; replace m1 := (hb.block _ (blk_lt m1)).trans m1; replace B2 := Rw.next B2 hb; have s3 := hb.size; replace vV := vV.below hb; replace vM := vM.below hb; clear hb p0 p1 p2 p3 p4 p5 f0; obtain ⟨p0, p1, p2, p3, p4, p5⟩ := six m0; obtain ⟨q0, q1, q2, q3, q4, q5⟩ := six m1; have f0 := Bl.free m0; have f1 := Bl.free m1)
    refine bodyPost_ret (v := .agg #[.int .i64 ep, .int .i64 pr, .slice aV1 V.length cV1, .slice aM1 M.length cM1, .slice aA1 A.length cA1, .int .i64 hh]) (by simp [results, Try.results79, go_sem, q0, q1, q2, q3, q4, q5]) rfl ⟨⟨ep, pr, V, M, A, hh, aV1, gV, 0, cV1, aM1, gM, 0, cM1, aA1, gA, 0, cA1⟩, rfl, rfl, ?_, ?_⟩
    · refine new_three (w0 := w) (w1 := wa) (w2 := wb) wV wM ?_ ?_ ?_ (by omega) hV lM hM (by omega) (by omega) s2
      · repeat (first | with_reducible exact vV | refine wt_set ?_ (by omega))
      · repeat (first | with_reducible exact vM | refine wt_set ?_ (by omega))
      · repeat (first | with_reducible exact mA | refine wtA_set ?_ (by omega))
    · repeat (first | with_reducible exact B2 | refine Pm.bset ?_ (by omega)))

end Go.Proofs.Ytcbgnfjnjfaacaa.Cp
namespace Go.Proofs.Ytcbgnfjnjfaacaa.Cp
set_option maxRecDepth 8000
set_option linter.unusedSimpArgs false
set_option linter.unusedVariables false
open Go Go.RowKit
open Num Pl Ea Em

theorem owns_empty {w : World} {e : Nat} {t : TypeId} {sz : Nat} (hE : w.heap[e]? = some (.cells #[] t (0, 0))) : w.ownsRow e t sz (.slice (some ⟨e, 0, none⟩) 0 0) 0 [] := by
  refine ⟨by simp, .inr ⟨e, 0, #[], rfl, Nat.le_refl _, hE, ?_⟩⟩
  simp
theorem app_at {w : World} {e : Nat} (ty : TypeId) {A : Option Addr} {b off c : Nat} {l : List Int} (hE : w.heap[e]? = some (.cells #[] 3 (0, 0))) (hr : Hr.Rd w A b off l) :
    ∃ g cap w', (Builtin.append_ #[23, 23] ty #[.slice (some ⟨e, 0, none⟩) 0 0, .slice A l.length c]).run Try.prog w = .ok (.slice (some ⟨g, 0, none⟩) l.length cap) w' ∧ Hr.Wt w' (some ⟨g, 0, none⟩) g l ∧ (g = e ∨ g = w.heap.size) ∧ w.grownBy w' (some e) ∧ g < w'.heap.size := by
  have O := owns_empty (sz := 1) hE
  have hs := hr.size
  cases A with
  | none =>
    have hl : l = [] := by
      rcases Nat.eq_zero_or_pos l.length with h0 | h0
      · exact List.eq_nil_of_length_eq_zero h0
      · exact absurd (hr.head h0) (by simp)
    subst hl
    exact ⟨e, 0, w, none23 w ty e 0 0 c (Nat.le_refl _), Hr.Wt.nil _ _ _, .inl rfl, ⟨rfl, rfl, rfl, Nat.le_refl _, fun _ _ _ => rfl⟩, blk_lt hE⟩
  | some ad =>
    obtain ⟨i0, hi, hz0, hz1, hz2⟩ := info_parts Hr.info3
    obtain ⟨v', w', r, h1, h2, h3, h4⟩ := run_append_own_at (P := Try.prog) (w := w) e 23 ty 3 i0 (.int .i64 0) 1 8 Try.underlying23 hi hz0 hz1 hz2 rfl (by decide) _ 0 [] O ad l.length c (l.map (Value.int .i64)) (by simp) (Ht.news_of hr) (by intro u hu; simp at hu; obtain ⟨q, _, rfl⟩ := hu; rfl) (by unfold maxLen; omega) (by omega) (Nat.le_of_lt (blk_lt hE))
    have hN : Ht.HasN w' e v' l := ⟨by simpa using h1, fun e1 => by have := (h3.1 e1).1; simp at this⟩
    obtain ⟨g, cap, rfl, hg, ho, _⟩ := Yh.own_has hN hs
    refine ⟨g, cap, w', r, ho.wt, ?_, h2, ho.lt⟩
    simpa [Value.ownBlock] using h4
theorem grown_blk {w w' : World} {e x : Nat} {o : Obj} (h : w.grownBy w' (some e)) (k : w.heap[x]? = some o) (hx : x ≠ e) : w'.heap[x]? = some o := (h.block x (blk_lt k) (by simpa using hx)).trans k
theorem grown_wt {w w' : World} {e g : Nat} {a : Option Addr} {l : List Int} (h : w.grownBy w' (some e)) (m : Hr.Wt w a g l) (hx : g ≠ e) : Hr.Wt w' a g l := wt_keep m fun h0 => h.block g (by rcases Hr.wt_lt m with h1 | h1 <;> omega) (by simpa using hx)
theorem grown_bel {w0 w w' : World} {e : Nat} (hb : Below w0.heap.size w0 w) (h : w.grownBy w' (some e)) (he : w0.heap.size ≤ e) : Below w0.heap.size w0 w' := hb.grown h hb.size (fun k hk => by cases hk; exact he)

/-- A copy of a match is handed back. -/
def ResC (w : World) (V M : List Int) (x : Ending) (w' : World) : Prop := ∃ gV gM cV cM, x = .returned (.agg #[.slice (some ⟨gV, 0, none⟩) V.length cV, .slice (some ⟨gM, 0, none⟩) M.length cM]) ∧ Hr.Wt w' (some ⟨gV, 0, none⟩) gV V ∧ Hr.Wt w' (some ⟨gM, 0, none⟩) gM M ∧ gV ≠ gM ∧ w.heap.size ≤ gV ∧ w.heap.size ≤ gM ∧ gV < w'.heap.size ∧ gM < w'.heap.size ∧ Below w.heap.size w w'

set_option maxHeartbeats 8000000 in
theorem copyM (aV aM : Option Addr) (bV oV cV bM oM cM : Nat) (V M : List Int) (w : World) (rV : Hr.Rd w aV bV oV V) (rM : Hr.Rd w aM bM oM M) :
    Calls Try.prog 76 #[.agg #[.slice aV V.length cV, .slice aM M.length cM]] w (ResC w V M) := by
  obtain ⟨W1, hW1⟩ : ∃ W1, W1 = (w.alloc (.cells #[.slice aV V.length cV, .slice aM M.length cM] 25)).alloc (.cells #[.slice none 0 0, .slice none 0 0] 25) := ⟨_, rfl⟩
  have B1 : Below w.heap.size w W1 := by subst hW1; exact Rw.next (below_alloc1 _ _) (below_alloc1 _ _)
  have k0 : W1.heap[w.heap.size]? = some (.cells #[.slice aV V.length cV, .slice aM M.length cM] 25 (0, 0)) := by subst hW1; rw [at_old (by simp), at_new rfl]
  have k1 : W1.heap[w.heap.size + 1]? = some (.cells #[.slice none 0 0, .slice none 0 0] 25 (0, 0)) := by subst hW1; exact at_new (by simp)
  have RV : Hid (Hr.Rd w aV bV oV V) := rV
  have RM : Hid (Hr.Rd w aM bM oM M) := rM
  clear rV rM
  go_enter Try.func76, Try.ntmps76
  go_wp2
  rw [← hW1]
  clear hW1
  have z1 := blk_lt k1
  refine wp_region_held_drew (S := (fun w' => w'.heap[w.heap.size]? = some (.cells #[.slice aV V.length cV, .slice aM M.length cM] 25 (0, 0)))) (by kernel_rfl) k0 (fun hHeld => ?_)
  refine Pq.take (i := 1) (d := some 4) (v := .pointer (some ⟨w.heap.size, 0, none⟩)) rfl (by kernel_rfl) (by kernel_rfl) (by kernel_rfl) (by kernel_rfl) (fun _ _ _ h => h) (Or.inl ⟨by rfl, by intro w hSw; go_simp⟩) hHeld ?_
  simp only [Act.put, List.setIfInBounds_toArray, List.set_cons_zero, List.set_cons_succ]
  refine Pq.take (i := 2) (d := some 5) (v := .slice aV V.length cV) rfl (by kernel_rfl) (by kernel_rfl) (by kernel_rfl) (by kernel_rfl) (fun _ _ _ h => h) (Or.inl ⟨by rfl, by intro w hSw; obtain ⟨s0, s1⟩ := Pm.two hSw; go_simp⟩) hHeld ?_
  simp only [Act.put, List.setIfInBounds_toArray, List.set_cons_zero, List.set_cons_succ]
  refine Pq.take (i := 5) (d := some 8) (v := .pointer (some ⟨w.heap.size, 1, none⟩)) rfl (by kernel_rfl) (by kernel_rfl) (by kernel_rfl) (by kernel_rfl) (fun _ _ _ h => h) (Or.inl ⟨by rfl, by intro w hSw; go_simp⟩) hHeld ?_
  simp only [Act.put, List.setIfInBounds_toArray, List.set_cons_zero, List.set_cons_succ]
  refine Pq.take (i := 6) (d := some 9) (v := .slice aM M.length cM) rfl (by kernel_rfl) (by kernel_rfl) (by kernel_rfl) (by kernel_rfl) (fun _ _ _ h => h) (Or.inl ⟨by rfl, by intro w hSw; obtain ⟨s0, s1⟩ := Pm.two hSw; go_simp⟩) hHeld ?_
  simp only [Act.put, List.setIfInBounds_toArray, List.set_cons_zero, List.set_cons_succ]
  replace B1 := Rw.next B1 ((Below.refl _ _).drew)
  replace k0 : W1.drew.heap[w.heap.size]? = some (.cells #[.slice aV V.length cV, .slice aM M.length cM] 25 (0, 0)) := k0
  replace k1 : W1.drew.heap[w.heap.size + 1]? = some (.cells #[.slice none 0 0, .slice none 0 0] 25 (0, 0)) := k1
  replace z1 : w.heap.size + 1 < W1.drew.heap.size := z1
  generalize W1.drew = W at *
  refine wpAnyH_ready (rs := [0, 4]) (by kernel_rfl) (by simp) (Yh.readyRun (i := 0) rfl (by kernel_rfl) (some 3) (by kernel_rfl) (v := .slice (some ⟨W.heap.size, 0, none⟩) 0 0) (w' := W.alloc (.cells #[] 3)) (exec_empty rfl) ((at_old (blk_lt k0)).trans k0) (fun hHeld => ?_) (Yh.readyRun (i := 4) rfl (by kernel_rfl) (some 7) (by kernel_rfl) (v := .slice (some ⟨W.heap.size, 0, none⟩) 0 0) (w' := W.alloc (.cells #[] 3)) (exec_empty rfl) ((at_old (blk_lt k0)).trans k0) (fun hHeld => ?_) AllReadyH.nil))
  · simp only [Act.put, List.setIfInBounds_toArray, List.set_cons_zero, List.set_cons_succ]
    obtain ⟨Wa, hWa⟩ : ∃ Wa, Wa = W.alloc (.cells #[] 3) := ⟨_, rfl⟩
    rw [← hWa] at hHeld ⊢
    have eV : Wa.heap[W.heap.size]? = some (.cells #[] 3 (0, 0)) := by subst hWa; exact at_new rfl
    have bWa : Below W.heap.size W Wa := by subst hWa; exact below_alloc1 _ _
    have zWa : Wa.heap.size = W.heap.size + 1 := by subst hWa; simp
    replace k0 := (bWa.block _ (blk_lt k0)).trans k0
    replace k1 := (bWa.block _ (blk_lt k1)).trans k1
    replace B1 := Rw.next B1 bWa
    obtain ⟨gV, c1, w1, hr1, mV, lV, g1, ltV⟩ := app_at 23 (c := cV) eV (RV.out.below B1)
    refine wpAnyH_ready (rs := [3, 4]) (by kernel_rfl) (by simp) (Yh.readyRun (i := 3) rfl (by kernel_rfl) (some 6) (by kernel_rfl) (exec_app (.tmp 3) (.tmp 5) rfl (by kernel_rfl) (by kernel_rfl) hr1) (grown_blk g1 k0 (by omega)) (fun hHeld => ?_) (Yh.readyRun (i := 4) rfl (by kernel_rfl) (some 7) (by kernel_rfl) (v := .slice (some ⟨Wa.heap.size, 0, none⟩) 0 0) (w' := Wa.alloc (.cells #[] 3)) (exec_empty rfl) ((at_old (blk_lt k0)).trans k0) (fun hHeld => ?_) AllReadyH.nil))
    · simp only [Act.put, List.setIfInBounds_toArray, List.set_cons_zero, List.set_cons_succ]
      replace k0 := grown_blk g1 k0 (by omega)
      replace k1 := grown_blk g1 k1 (by omega)
      replace B1 := grown_bel B1 g1 (by omega)
      have sg1 := g1.size
      refine wpAnyH_ready (rs := [4]) (by kernel_rfl) (by simp) (Yh.readyRun (i := 4) rfl (by kernel_rfl) (some 7) (by kernel_rfl) (v := .slice (some ⟨w1.heap.size, 0, none⟩) 0 0) (w' := w1.alloc (.cells #[] 3)) (exec_empty rfl) ((at_old (blk_lt k0)).trans k0) (fun hHeld => ?_) AllReadyH.nil)
      simp only [Act.put, List.setIfInBounds_toArray, List.set_cons_zero, List.set_cons_succ]
      obtain ⟨w2, hw2⟩ : ∃ w2, w2 = w1.alloc (.cells #[] 3) := ⟨_, rfl⟩
      rw [← hw2] at hHeld ⊢
      have eM : w2.heap[w1.heap.size]? = some (.cells #[] 3 (0, 0)) := by subst hw2; exact at_new rfl
      have bw2 : Below w1.heap.size w1 w2 := by subst hw2; exact below_alloc1 _ _
      have zw2 : w2.heap.size = w1.heap.size + 1 := by subst hw2; simp
      replace k0 := (bw2.block _ (blk_lt k0)).trans k0
      replace k1 := (bw2.block _ (blk_lt k1)).trans k1
      replace B1 := Rw.next B1 bw2
      replace mV := mV.below bw2
      obtain ⟨gM, c2, w3, hr2, mM, lM, g2, ltM⟩ := app_at 23 (c := cM) eM (RM.out.below B1)
      refine wpAnyH_ready (rs := [7]) (by kernel_rfl) (by simp) (Yh.readyRun (i := 7) rfl (by kernel_rfl) (some 10) (by kernel_rfl) (exec_app (.tmp 7) (.tmp 9) rfl (by kernel_rfl) (by kernel_rfl) hr2) (grown_blk g2 k0 (by omega)) (fun hHeld => ?_) AllReadyH.nil)
      simp only [Act.put, List.setIfInBounds_toArray, List.set_cons_zero, List.set_cons_succ]
      replace k0 := grown_blk g2 k0 (by omega)
      replace k1 := grown_blk g2 k1 (by omega)
      replace B1 := grown_bel B1 g2 (by omega)
      have sg2 := g2.size
      have nVM : gV ≠ gM := by omega
      have dV : gV ≠ w.heap.size + 1 := by omega
      have dM : gM ≠ w.heap.size + 1 := by omega
      replace mV := grown_wt g2 mV (by omega)
      have tV := ltV
      have tM : gM < w3.heap.size := ltM
      refine Pq.take (i := 8) (d := some 11) (v := .agg #[.slice (some ⟨gV, 0, none⟩) V.length c1, .slice (some ⟨gM, 0, none⟩) M.length c2]) rfl (by kernel_rfl) (by kernel_rfl) (by kernel_rfl) (by kernel_rfl) (fun _ _ _ h => h) (Or.inl ⟨by rfl, by intro w hSw; go_simp⟩) hHeld ?_
      simp only [Act.put, List.setIfInBounds_toArray, List.set_cons_zero, List.set_cons_succ]
      obtain ⟨q0, q1⟩ := Pm.two k1
      have f1 := Bl.free k1
      refine wpAnyH_ready (rs := [9]) (by kernel_rfl) (by simp) (Yh.readySkip (i := 9) rfl (by kernel_rfl) none (by kernel_rfl) (w' := (w3.setCell ⟨w.heap.size + 1, 0, none⟩ (.slice (some ⟨gV, 0, none⟩) V.length c1)).setCell ⟨w.heap.size + 1, 1, none⟩ (.slice (some ⟨gM, 0, none⟩) M.length c2)) (by go_simp) (blk_other (blk_other k0 (by omega)) (by omega)) (fun hHeld => ?_) AllReadyH.nil)
      simp only [Act.put, List.setIfInBounds_toArray, List.set_cons_zero, List.set_cons_succ]
      refine wpAnyH_done (by kernel_rfl) ?_ _
      go_wp2
      refine bodyPost_ret (v := .agg #[.slice (some ⟨gV, 0, none⟩) V.length c1, .slice (some ⟨gM, 0, none⟩) M.length c2]) (by simp [results, Try.results76, go_sem, q0, q1]) rfl ⟨gV, gM, c1, c2, rfl, wt_set (wt_set mV (by omega)) (by omega), wt_set (wt_set mM (by omega)) (by omega), nVM, by omega, by omega, by simp; omega, by simp; omega, Pm.bset (Pm.bset B1 (by omega)) (by omega)⟩
    · simp only [Act.put, List.setIfInBounds_toArray, List.set_cons_zero, List.set_cons_succ]
      obtain ⟨Wb, hWb⟩ : ∃ Wb, Wb = Wa.alloc (.cells #[] 3) := ⟨_, rfl⟩
      rw [← hWb] at hHeld ⊢
      have eM : Wb.heap[Wa.heap.size]? = some (.cells #[] 3 (0, 0)) := by subst hWb; exact at_new rfl
      have bWb : Below Wa.heap.size Wa Wb := by subst hWb; exact below_alloc1 _ _
      have zWb : Wb.heap.size = Wa.heap.size + 1 := by subst hWb; simp
      replace k0 := (bWb.block _ (blk_lt k0)).trans k0
      replace k1 := (bWb.block _ (blk_lt k1)).trans k1
      replace B1 := Rw.next B1 bWb
      replace eV := (bWb.block _ (blk_lt eV)).trans eV
      clear hr1 mV lV g1 ltV w1
      obtain ⟨gV, c1, w1, hr1, mV, lV, g1, ltV⟩ := app_at 23 (c := cV) eV (RV.out.below B1)
      refine wpAnyH_ready (rs := [3]) (by kernel_rfl) (by simp) (Yh.readyRun (i := 3) rfl (by kernel_rfl) (some 6) (by kernel_rfl) (exec_app (.tmp 3) (.tmp 5) rfl (by kernel_rfl) (by kernel_rfl) hr1) (grown_blk g1 k0 (by omega)) (fun hHeld => ?_) AllReadyH.nil)
      simp only [Act.put, List.setIfInBounds_toArray, List.set_cons_zero, List.set_cons_succ]
      replace k0 := grown_blk g1 k0 (by omega)
      replace k1 := grown_blk g1 k1 (by omega)
      replace B1 := grown_bel B1 g1 (by omega)
      have sg1 := g1.size
      replace eM := grown_blk g1 eM (by omega)
      obtain ⟨gM, c2, w3, hr2, mM, lM, g2, ltM⟩ := app_at 23 (c := cM) eM (RM.out.below B1)
      refine wpAnyH_ready (rs := [7]) (by kernel_rfl) (by simp) (Yh.readyRun (i := 7) rfl (by kernel_rfl) (some 10) (by kernel_rfl) (exec_app (.tmp 7) (.tmp 9) rfl (by kernel_rfl) (by kernel_rfl) hr2) (grown_blk g2 k0 (by omega)) (fun hHeld => ?_) AllReadyH.nil)
      simp only [Act.put, List.setIfInBounds_toArray, List.set_cons_zero, List.set_cons_succ]
      replace k0 := grown_blk g2 k0 (by omega)
      replace k1 := grown_blk g2 k1 (by omega)
      replace B1 := grown_bel B1 g2 (by omega)
      have sg2 := g2.size
      have nVM : gV ≠ gM := by omega
      have dV : gV ≠ w.heap.size + 1 := by omega
      have dM : gM ≠ w.heap.size + 1 := by omega
      replace mV := grown_wt g2 mV (by omega)
      have tV := ltV
      have tM : gM < w3.heap.size := ltM
      refine Pq.take (i := 8) (d := some 11) (v := .agg #[.slice (some ⟨gV, 0, none⟩) V.length c1, .slice (some ⟨gM, 0, none⟩) M.length c2]) rfl (by kernel_rfl) (by kernel_rfl) (by kernel_rfl) (by kernel_rfl) (fun _ _ _ h => h) (Or.inl ⟨by rfl, by intro w hSw; go_simp⟩) hHeld ?_
      simp only [Act.put, List.setIfInBounds_toArray, List.set_cons_zero, List.set_cons_succ]
      obtain ⟨q0, q1⟩ := Pm.two k1
      have f1 := Bl.free k1
      refine wpAnyH_ready (rs := [9]) (by kernel_rfl) (by simp) (Yh.readySkip (i := 9) rfl (by kernel_rfl) none (by kernel_rfl) (w' := (w3.setCell ⟨w.heap.size + 1, 0, none⟩ (.slice (some ⟨gV, 0, none⟩) V.length c1)).setCell ⟨w.heap.size + 1, 1, none⟩ (.slice (some ⟨gM, 0, none⟩) M.length c2)) (by go_simp) (blk_other (blk_other k0 (by omega)) (by omega)) (fun hHeld => ?_) AllReadyH.nil)
      simp only [Act.put, List.setIfInBounds_toArray, List.set_cons_zero, List.set_cons_succ]
      refine wpAnyH_done (by kernel_rfl) ?_ _
      go_wp2
      refine bodyPost_ret (v := .agg #[.slice (some ⟨gV, 0, none⟩) V.length c1, .slice (some ⟨gM, 0, none⟩) M.length c2]) (by simp [results, Try.results76, go_sem, q0, q1]) rfl ⟨gV, gM, c1, c2, rfl, wt_set (wt_set mV (by omega)) (by omega), wt_set (wt_set mM (by omega)) (by omega), nVM, by omega, by omega, by simp; omega, by simp; omega, Pm.bset (Pm.bset B1 (by omega)) (by omega)⟩
  · simp only [Act.put, List.setIfInBounds_toArray, List.set_cons_zero, List.set_cons_succ]
    obtain ⟨Wa, hWa⟩ : ∃ Wa, Wa = W.alloc (.cells #[] 3) := ⟨_, rfl⟩
    rw [← hWa] at hHeld ⊢
    have eM : Wa.heap[W.heap.size]? = some (.cells #[] 3 (0, 0)) := by subst hWa; exact at_new rfl
    have bWa : Below W.heap.size W Wa := by subst hWa; exact below_alloc1 _ _
    have zWa : Wa.heap.size = W.heap.size + 1 := by subst hWa; simp
    replace k0 := (bWa.block _ (blk_lt k0)).trans k0
    replace k1 := (bWa.block _ (blk_lt k1)).trans k1
    replace B1 := Rw.next B1 bWa
    refine wpAnyH_ready (rs := [0]) (by kernel_rfl) (by simp) (Yh.readyRun (i := 0) rfl (by kernel_rfl) (some 3) (by kernel_rfl) (v := .slice (some ⟨Wa.heap.size, 0, none⟩) 0 0) (w' := Wa.alloc (.cells #[] 3)) (exec_empty rfl) ((at_old (blk_lt k0)).trans k0) (fun hHeld => ?_) AllReadyH.nil)
    simp only [Act.put, List.setIfInBounds_toArray, List.set_cons_zero, List.set_cons_succ]
    obtain ⟨Wb, hWb⟩ : ∃ Wb, Wb = Wa.alloc (.cells #[] 3) := ⟨_, rfl⟩
    rw [← hWb] at hHeld ⊢
    have eV : Wb.heap[Wa.heap.size]? = some (.cells #[] 3 (0, 0)) := by subst hWb; exact at_new rfl
    have bWb : Below Wa.heap.size Wa Wb := by subst hWb; exact below_alloc1 _ _
    have zWb : Wb.heap.size = Wa.heap.size + 1 := by subst hWb; simp
    replace k0 := (bWb.block _ (blk_lt k0)).trans k0
    replace k1 := (bWb.block _ (blk_lt k1)).trans k1
    replace B1 := Rw.next B1 bWb
    replace eM := (bWb.block _ (blk_lt eM)).trans eM
    obtain ⟨gV, c1, w1, hr1, mV, lV, g1, ltV⟩ := app_at 23 (c := cV) eV (RV.out.below B1)
    refine wpAnyH_ready (rs := [3]) (by kernel_rfl) (by simp) (Yh.readyRun (i := 3) rfl (by kernel_rfl) (some 6) (by kernel_rfl) (exec_app (.tmp 3) (.tmp 5) rfl (by kernel_rfl) (by kernel_rfl) hr1) (grown_blk g1 k0 (by omega)) (fun hHeld => ?_) AllReadyH.nil)
    simp only [Act.put, List.setIfInBounds_toArray, List.set_cons_zero, List.set_cons_succ]
    replace k0 := grown_blk g1 k0 (by omega)
    replace k1 := grown_blk g1 k1 (by omega)
    replace B1 := grown_bel B1 g1 (by omega)
    have sg1 := g1.size
    replace eM := grown_blk g1 eM (by omega)
    obtain ⟨gM, c2, w3, hr2, mM, lM, g2, ltM⟩ := app_at 23 (c := cM) eM (RM.out.below B1)
    refine wpAnyH_ready (rs := [7]) (by kernel_rfl) (by simp) (Yh.readyRun (i := 7) rfl (by kernel_rfl) (some 10) (by kernel_rfl) (exec_app (.tmp 7) (.tmp 9) rfl (by kernel_rfl) (by kernel_rfl) hr2) (grown_blk g2 k0 (by omega)) (fun hHeld => ?_) AllReadyH.nil)
    simp only [Act.put, List.setIfInBounds_toArray, List.set_cons_zero, List.set_cons_succ]
    replace k0 := grown_blk g2 k0 (by omega)
    replace k1 := grown_blk g2 k1 (by omega)
    replace B1 := grown_bel B1 g2 (by omega)
    have sg2 := g2.size
    have nVM : gV ≠ gM := by omega
    have dV : gV ≠ w.heap.size + 1 := by omega
    have dM : gM ≠ w.heap.size + 1 := by omega
    replace mV := grown_wt g2 mV (by omega)
    have tV := ltV
    have tM : gM < w3.heap.size := ltM
    refine Pq.take (i := 8) (d := some 11) (v := .agg #[.slice (some ⟨gV, 0, none⟩) V.length c1, .slice (some ⟨gM, 0, none⟩) M.length c2]) rfl (by kernel_rfl) (by kernel_rfl) (by kernel_rfl) (by kernel_rfl) (fun _ _ _ h => h) (Or.inl ⟨by rfl, by intro w hSw; go_simp⟩) hHeld ?_
    simp only [Act.put, List.setIfInBounds_toArray, List.set_cons_zero, List.set_cons_succ]
    obtain ⟨q0, q1⟩ := Pm.two k1
    have f1 := Bl.free k1
    refine wpAnyH_ready (rs := [9]) (by kernel_rfl) (by simp) (Yh.readySkip (i := 9) rfl (by kernel_rfl) none (by kernel_rfl) (w' := (w3.setCell ⟨w.heap.size + 1, 0, none⟩ (.slice (some ⟨gV, 0, none⟩) V.length c1)).setCell ⟨w.heap.size + 1, 1, none⟩ (.slice (some ⟨gM, 0, none⟩) M.length c2)) (by go_simp) (blk_other (blk_other k0 (by omega)) (by omega)) (fun hHeld => ?_) AllReadyH.nil)
    simp only [Act.put, List.setIfInBounds_toArray, List.set_cons_zero, List.set_cons_succ]
    refine wpAnyH_done (by kernel_rfl) ?_ _
    go_wp2
    refine bodyPost_ret (v := .agg #[.slice (some ⟨gV, 0, none⟩) V.length c1, .slice (some ⟨gM, 0, none⟩) M.length c2]) (by simp [results, Try.results76, go_sem, q0, q1]) rfl ⟨gV, gM, c1, c2, rfl, wt_set (wt_set mV (by omega)) (by omega), wt_set (wt_set mM (by omega)) (by omega), nVM, by omega, by omega, by simp; omega, by simp; omega, Pm.bset (Pm.bset B1 (by omega)) (by omega)⟩

end Go.Proofs.Ytcbgnfjnjfaacaa.Cp
