/-
  The program's do: what one action does.
-/
import Derived.Test.YtkakdldhinimoaaYj
namespace Go.Proofs.Ytkakdldhinimoaa.Yk
set_option maxRecDepth 8000
set_option linter.unusedSimpArgs false
open Go Go.RowKit
open Num Pl Hr Hh Pq Ht Yh Yj Yb Yc Yd

/-- What an action sends. -/
def goes (hin : Int) (ports : List Int) (now : List Int) (x : A3) : List (Int × List Int) :=
  if x.1 = 1 then (if x.2.1 ∈ ports ∧ x.2.1 ≠ hin then [(x.2.1, now)] else []) else if x.1 = 2 then (ports.filter (fun p => decide (p ≠ hin))).map (fun p => (p, now)) else []
/-- The head behind an action. -/
def next (now : List Int) (x : A3) : List Int := if x.1 = 3 then now.set x.2.1.toNat x.2.2 else now

set_option maxHeartbeats 1000000 in
theorem index_any (a : Option Addr) (b off cap : Nat) (l : List Int) (q : Int) (w : World) (h : Rd w a b off l) :
    Calls Try.prog 112 #[.slice a l.length cap, .int .i64 q] w fun e w' => w' = w ∧ ∃ r : Int, e = .returned (.int .i64 r) ∧ (0 ≤ r ↔ q ∈ l) := by
  obtain ⟨hh, hc, hs⟩ := h
  obtain ⟨n, hn⟩ : ∃ n, n = l.length := ⟨_, rfl⟩
  rw [← hn] at hh hc hs ⊢
  have HN : Hid (n = l.length) := hn
  clear hn
  go_enter Try.func112, Try.ntmps112
  go_wp2
  go_loop [8] (fun i => ∃ k : Nat, k ≤ n ∧ i = .int .i64 k ∧ ∀ i, i < k → l.getD i 0 ≠ q) (fun i => n - (intOf i).toNat)
  case atStart => exact ⟨0, Nat.zero_le _, rfl, fun i hi => by omega⟩
  case round =>
    obtain ⟨k, hk, rfl, hpre⟩ := hrel
    have HP : Hid (∀ i, i < k → l.getD i 0 ≠ q) := hpre
    clear hpre
    by_cases hlt : k < n
    · obtain rfl := hh (by omega)
      have hkz : (k : Int) < (n : Int) := by omega
      have c0 := hc k hlt
      generalize ex : l.getD k 0 = x at c0
      have HX : Hid (l.getD k 0 = x) := ex
      clear ex hc hh
      by_cases hq : q = x
      · subst hq
        go_wp2
        go_ret
        refine ⟨rfl, _, rfl, iff_of_true (by omega) ?_⟩
        have hkl : k < l.length := by have := HN.out; omega
        have := HX.out
        simp [List.getD, hkl] at this
        rw [← this]
        exact List.getElem_mem hkl
      · have hqe : (q == x) = false := by simpa using hq
        go_wp2
        go_round
        case rel => exact ⟨k + 1, by omega, by go_num, fun i hi => by
          by_cases e : i = k
          · subst e; rw [HX.out]; exact fun h => hq h.symm
          · exact HP.out i (by omega)⟩
        case measure => simp [intOf]; omega
    · have he : k = n := by omega
      subst he
      go_wp2
      go_ret
      refine ⟨rfl, _, rfl, iff_of_false (by omega) ?_⟩
      intro hm
      obtain ⟨i, hi, e⟩ := List.getElem_of_mem hm
      have := HN.out
      have := HP.out i (by omega)
      simp [List.getD, hi] at this
      exact this e

theorem contains_any (a : Option Addr) (b off cap : Nat) (l : List Int) (q : Int) (w : World) (h : Rd w a b off l) :
    Calls Try.prog 96 #[.slice a l.length cap, .int .i64 q] w fun e w' => e = .returned (.bool (decide (q ∈ l))) ∧ w' = w := by
  generalize hR : decide (q ∈ l) = R
  have HR : Hid (decide (q ∈ l) = R) := hR
  clear hR
  go_enter Try.func96, Try.ntmps96
  go_wp2_with (go_at_call 112; refine (index_any _ _ _ _ _ _ _ h).mono ?_; rintro e w1 ⟨hw, r, rfl, hr⟩; replace hw := hw.symm; subst hw; replace hr : decide (0 ≤ r) = R := (decide_eq_decide.2 hr).trans HR.out)
  go_ret
  exact ⟨rfl, rfl⟩

/-- Behind what one action does. -/
def Did (w : World) (P B : Nat) (hin : Int) (pa : Option Addr) (pb po pc : Nat) (ports now : List Int) (S : List (Int × List Int)) (e : Ending) (w' : World) : Prop :=
  e = .returned (.tuple #[]) ∧ ∃ hb ho hc v Q, St w' P B hin pa pb po pc ports hb ho hc now v Q ∧ said Q = S ∧ Below B w w'

theorem said_app (Q : List E) (p : Int) (l : List Int) (g c : Nat) : said (Q ++ [⟨p, l, g, c⟩]) = said Q ++ [(p, l)] := by simp [said]
theorem said_len (Q : List E) : (said Q).length = Q.length := by simp [said]
theorem step_b {w w' w'' : World} {B : Nat} (hB : B ≤ w.heap.size) (h : Below w.heap.size w w') (h' : Below B w' w'') : Below B w w'' := (h.mono hB).trans h'


theorem do4 {w : World} {P B : Nat} {hin : Int} {pa : Option Addr} {pb po pc : Nat} {ports : List Int} {hb ho hc : Nat} {now : List Int} {v : Value} {Q : List E} (st : St w P B hin pa pb po pc ports hb ho hc now v Q) :
    Calls Try.prog 66 #[.pointer (some ⟨P, 0, none⟩), .iface 139 (.agg #[])] w (Did w P B hin pa pb po pc ports now (said Q)) := by
  have q1 := as139_124 w
  have q2 := as139_127 w
  have q3 := as139_129 w
  go_enter Try.func66, Try.ntmps66
  go_wp2
  exact bodyPost_end (v := .tuple #[]) (by simp [results, Try.results66, go_sem]) rfl ⟨rfl, _, _, _, _, _, st, rfl, Below.refl _ _⟩

theorem do5 {w : World} {P B : Nat} {hin : Int} {pa : Option Addr} {pb po pc : Nat} {ports : List Int} {hb ho hc : Nat} {now : List Int} {v : Value} {Q : List E} (st : St w P B hin pa pb po pc ports hb ho hc now v Q) :
    Calls Try.prog 66 #[.pointer (some ⟨P, 0, none⟩), .iface 140 (.agg #[])] w (Did w P B hin pa pb po pc ports now (said Q)) := by
  have q1 := as140_124 w
  have q2 := as140_127 w
  have q3 := as140_129 w
  go_enter Try.func66, Try.ntmps66
  go_wp2
  exact bodyPost_end (v := .tuple #[]) (by simp [results, Try.results66, go_sem]) rfl ⟨rfl, _, _, _, _, _, st, rfl, Below.refl _ _⟩

theorem do1_no {w : World} {P B : Nat} {hin : Int} {pa : Option Addr} {pb po pc : Nat} {ports : List Int} {hb ho hc : Nat} {now : List Int} {v : Value} {Q : List E} {x : Int} (st : St w P B hin pa pb po pc ports hb ho hc now v Q) (hm : decide (x ∈ ports) = false) :
    Calls Try.prog 66 #[.pointer (some ⟨P, 0, none⟩), .iface 124 (.agg #[.int .i64 x])] w (Did w P B hin pa pb po pc ports now (said Q)) := by
  have q1 := as124_124 x w
  have HR : Hid (decide (x ∈ ports) = false) := hm
  clear hm
  have hBw : B ≤ w.heap.size := by have := st.le; have := (Array.getElem?_eq_some_iff.1 st.blk).1; omega
  obtain ⟨W0, hW0⟩ : ∃ W0, W0 = w.alloc (.cells #[.int .i64 x] 124) := ⟨_, rfl⟩
  have B0 : Below w.heap.size w W0 := by subst hW0; exact below_alloc1 _ _
  have k0 : W0.heap[w.heap.size]? = some (.cells #[.int .i64 x] 124 (0, 0)) := by subst hW0; exact at_new rfl
  replace st := st.below B0
  have c1 := four1 st.blk
  have x0 := Hh.one k0
  go_enter Try.func66, Try.ntmps66
  go_wp2
  rw [← hW0]
  clear hW0
  refine wp_region_held_drew (S := fun w' => w'.cell? ⟨P, 1, none⟩ = some (.slice pa ports.length pc) ∧ w'.cell? ⟨w.heap.size, 0, none⟩ = some (.int .i64 x)) (by kernel_rfl) ⟨c1, x0⟩ (fun hHeld => ?_)
  refine take (i := 0) (d := some 13) (v := .pointer (some ⟨P, 0, none⟩)) rfl (by kernel_rfl) (by kernel_rfl) (by kernel_rfl) (by kernel_rfl) (fun _ _ _ h => h) (Or.inl ⟨by rfl, by intro w hSw; go_simp⟩) hHeld ?_
  simp only [Act.put, List.setIfInBounds_toArray, List.set_cons_zero, List.set_cons_succ]
  refine take (i := 1) (d := some 14) (v := .pointer (some ⟨P, 0, none⟩)) rfl (by kernel_rfl) (by kernel_rfl) (by kernel_rfl) (by kernel_rfl) (fun _ _ _ h => h) (Or.inl ⟨by rfl, by intro w hSw; go_simp⟩) hHeld ?_
  simp only [Act.put, List.setIfInBounds_toArray, List.set_cons_zero, List.set_cons_succ]
  refine take (i := 2) (d := some 15) (v := .pointer (some ⟨P, 1, none⟩)) rfl (by kernel_rfl) (by kernel_rfl) (by kernel_rfl) (by kernel_rfl) (fun _ _ _ h => h) (Or.inl ⟨by rfl, by intro w hSw; go_simp⟩) hHeld ?_
  simp only [Act.put, List.setIfInBounds_toArray, List.set_cons_zero, List.set_cons_succ]
  refine take (i := 3) (d := some 16) (v := .slice pa ports.length pc) rfl (by kernel_rfl) (by kernel_rfl) (by kernel_rfl) (by kernel_rfl) (fun _ _ _ h => h) (Or.inl ⟨by rfl, by intro w hSw; have q1 := hSw.1; go_simp⟩) hHeld ?_
  simp only [Act.put, List.setIfInBounds_toArray, List.set_cons_zero, List.set_cons_succ]
  refine take (i := 4) (d := some 17) (v := .pointer (some ⟨w.heap.size, 0, none⟩)) rfl (by kernel_rfl) (by kernel_rfl) (by kernel_rfl) (by kernel_rfl) (fun _ _ _ h => h) (Or.inl ⟨by rfl, by intro w hSw; go_simp⟩) hHeld ?_
  simp only [Act.put, List.setIfInBounds_toArray, List.set_cons_zero, List.set_cons_succ]
  refine take (i := 5) (d := some 18) (v := .int .i64 x) rfl (by kernel_rfl) (by kernel_rfl) (by kernel_rfl) (by kernel_rfl) (fun _ _ _ h => h) (Or.inl ⟨by rfl, by intro w hSw; have q1 := hSw.2; go_simp⟩) hHeld ?_
  simp only [Act.put, List.setIfInBounds_toArray, List.set_cons_zero, List.set_cons_succ]
  refine wpAnyH_ready (rs := [6]) (by kernel_rfl) (by simp) (Rg.call2 rfl (by kernel_rfl) 96 (.tmp 16) (.tmp 18) 22 3 (by kernel_rfl) 19 (by kernel_rfl) (.slice pa ports.length pc) (.int .i64 x) (by kernel_rfl) (by kernel_rfl) (fun _ => rfl) (contains_any _ _ _ _ _ _ _ (rd_drew st.prt)) ?_ AllReadyH.nil)
  rw [HR.out]
  rintro e w1 ⟨rfl, hw⟩
  replace hw := hw.symm
  subst hw
  refine ⟨_, rfl, ⟨c1, x0⟩, fun hHeld => ?_⟩
  simp only [Act.put, List.setIfInBounds_toArray, List.set_cons_zero, List.set_cons_succ]
  refine wpAnyH_done (by kernel_rfl) ?_ _
  go_wp2
  exact bodyPost_end (v := .tuple #[]) (by simp [results, Try.results66, go_sem]) rfl ⟨rfl, _, _, _, _, _, st.below (Below.drew (Below.refl _ W0)), rfl, (B0.mono hBw).trans (Below.drew (Below.refl B W0))⟩

theorem do1_in {w : World} {P B : Nat} {hin : Int} {pa : Option Addr} {pb po pc : Nat} {ports : List Int} {hb ho hc : Nat} {now : List Int} {v : Value} {Q : List E} {x : Int} (st : St w P B hin pa pb po pc ports hb ho hc now v Q) (hx : x = hin) (hm : decide (x ∈ ports) = true) :
    Calls Try.prog 66 #[.pointer (some ⟨P, 0, none⟩), .iface 124 (.agg #[.int .i64 x])] w (Did w P B hin pa pb po pc ports now (said Q)) := by
  subst hx
  have q1 := as124_124 x w
  have HR : Hid (decide (x ∈ ports) = true) := hm
  clear hm
  have hBw : B ≤ w.heap.size := by have := st.le; have := (Array.getElem?_eq_some_iff.1 st.blk).1; omega
  obtain ⟨W0, hW0⟩ : ∃ W0, W0 = w.alloc (.cells #[.int .i64 x] 124) := ⟨_, rfl⟩
  have B0 : Below w.heap.size w W0 := by subst hW0; exact below_alloc1 _ _
  have k0 : W0.heap[w.heap.size]? = some (.cells #[.int .i64 x] 124 (0, 0)) := by subst hW0; exact at_new rfl
  replace st := st.below B0
  have c1 := four1 st.blk
  have x0 := Hh.one k0
  go_enter Try.func66, Try.ntmps66
  go_wp2
  rw [← hW0]
  clear hW0
  refine wp_region_held_drew (S := fun w' => w'.cell? ⟨P, 1, none⟩ = some (.slice pa ports.length pc) ∧ w'.cell? ⟨w.heap.size, 0, none⟩ = some (.int .i64 x)) (by kernel_rfl) ⟨c1, x0⟩ (fun hHeld => ?_)
  refine take (i := 0) (d := some 13) (v := .pointer (some ⟨P, 0, none⟩)) rfl (by kernel_rfl) (by kernel_rfl) (by kernel_rfl) (by kernel_rfl) (fun _ _ _ h => h) (Or.inl ⟨by rfl, by intro w hSw; go_simp⟩) hHeld ?_
  simp only [Act.put, List.setIfInBounds_toArray, List.set_cons_zero, List.set_cons_succ]
  refine take (i := 1) (d := some 14) (v := .pointer (some ⟨P, 0, none⟩)) rfl (by kernel_rfl) (by kernel_rfl) (by kernel_rfl) (by kernel_rfl) (fun _ _ _ h => h) (Or.inl ⟨by rfl, by intro w hSw; go_simp⟩) hHeld ?_
  simp only [Act.put, List.setIfInBounds_toArray, List.set_cons_zero, List.set_cons_succ]
  refine take (i := 2) (d := some 15) (v := .pointer (some ⟨P, 1, none⟩)) rfl (by kernel_rfl) (by kernel_rfl) (by kernel_rfl) (by kernel_rfl) (fun _ _ _ h => h) (Or.inl ⟨by rfl, by intro w hSw; go_simp⟩) hHeld ?_
  simp only [Act.put, List.setIfInBounds_toArray, List.set_cons_zero, List.set_cons_succ]
  refine take (i := 3) (d := some 16) (v := .slice pa ports.length pc) rfl (by kernel_rfl) (by kernel_rfl) (by kernel_rfl) (by kernel_rfl) (fun _ _ _ h => h) (Or.inl ⟨by rfl, by intro w hSw; have q1 := hSw.1; go_simp⟩) hHeld ?_
  simp only [Act.put, List.setIfInBounds_toArray, List.set_cons_zero, List.set_cons_succ]
  refine take (i := 4) (d := some 17) (v := .pointer (some ⟨w.heap.size, 0, none⟩)) rfl (by kernel_rfl) (by kernel_rfl) (by kernel_rfl) (by kernel_rfl) (fun _ _ _ h => h) (Or.inl ⟨by rfl, by intro w hSw; go_simp⟩) hHeld ?_
  simp only [Act.put, List.setIfInBounds_toArray, List.set_cons_zero, List.set_cons_succ]
  refine take (i := 5) (d := some 18) (v := .int .i64 x) rfl (by kernel_rfl) (by kernel_rfl) (by kernel_rfl) (by kernel_rfl) (fun _ _ _ h => h) (Or.inl ⟨by rfl, by intro w hSw; have q1 := hSw.2; go_simp⟩) hHeld ?_
  simp only [Act.put, List.setIfInBounds_toArray, List.set_cons_zero, List.set_cons_succ]
  refine wpAnyH_ready (rs := [6]) (by kernel_rfl) (by simp) (Rg.call2 rfl (by kernel_rfl) 96 (.tmp 16) (.tmp 18) 22 3 (by kernel_rfl) 19 (by kernel_rfl) (.slice pa ports.length pc) (.int .i64 x) (by kernel_rfl) (by kernel_rfl) (fun _ => rfl) (contains_any _ _ _ _ _ _ _ (rd_drew st.prt)) ?_ AllReadyH.nil)
  rw [HR.out]
  rintro e w1 ⟨rfl, hw⟩
  replace hw := hw.symm
  subst hw
  refine ⟨_, rfl, ⟨c1, x0⟩, fun hHeld => ?_⟩
  simp only [Act.put, List.setIfInBounds_toArray, List.set_cons_zero, List.set_cons_succ]
  refine wpAnyH_done (by kernel_rfl) ?_ _
  replace st := st.below (Below.drew (Below.refl _ W0))
  have B1 : Below B w W0.drew := (B0.mono hBw).trans (Below.drew (Below.refl B W0))
  go_wp2_with (go_at_call 97; refine (send_in st).mono ?_; rintro e w1 ⟨rfl, hw⟩; replace hw := hw.symm; subst hw)
  exact bodyPost_end (v := .tuple #[]) (by simp [results, Try.results66, go_sem]) rfl ⟨rfl, _, _, _, _, _, st, rfl, B1⟩

theorem do1_out {w : World} {P B : Nat} {hin : Int} {pa : Option Addr} {pb po pc : Nat} {ports : List Int} {hb ho hc : Nat} {now : List Int} {v : Value} {Q : List E} {x : Int} (st : St w P B hin pa pb po pc ports hb ho hc now v Q) (hx : x ≠ hin) (hQ : Q.length ≤ 4096) (hm : decide (x ∈ ports) = true) :
    Calls Try.prog 66 #[.pointer (some ⟨P, 0, none⟩), .iface 124 (.agg #[.int .i64 x])] w (Did w P B hin pa pb po pc ports now (said Q ++ [(x, now)])) := by
  have q1 := as124_124 x w
  have HR : Hid (decide (x ∈ ports) = true) := hm
  clear hm
  have hBw : B ≤ w.heap.size := by have := st.le; have := (Array.getElem?_eq_some_iff.1 st.blk).1; omega
  obtain ⟨W0, hW0⟩ : ∃ W0, W0 = w.alloc (.cells #[.int .i64 x] 124) := ⟨_, rfl⟩
  have B0 : Below w.heap.size w W0 := by subst hW0; exact below_alloc1 _ _
  have k0 : W0.heap[w.heap.size]? = some (.cells #[.int .i64 x] 124 (0, 0)) := by subst hW0; exact at_new rfl
  replace st := st.below B0
  have c1 := four1 st.blk
  have x0 := Hh.one k0
  go_enter Try.func66, Try.ntmps66
  go_wp2
  rw [← hW0]
  clear hW0
  refine wp_region_held_drew (S := fun w' => w'.cell? ⟨P, 1, none⟩ = some (.slice pa ports.length pc) ∧ w'.cell? ⟨w.heap.size, 0, none⟩ = some (.int .i64 x)) (by kernel_rfl) ⟨c1, x0⟩ (fun hHeld => ?_)
  refine take (i := 0) (d := some 13) (v := .pointer (some ⟨P, 0, none⟩)) rfl (by kernel_rfl) (by kernel_rfl) (by kernel_rfl) (by kernel_rfl) (fun _ _ _ h => h) (Or.inl ⟨by rfl, by intro w hSw; go_simp⟩) hHeld ?_
  simp only [Act.put, List.setIfInBounds_toArray, List.set_cons_zero, List.set_cons_succ]
  refine take (i := 1) (d := some 14) (v := .pointer (some ⟨P, 0, none⟩)) rfl (by kernel_rfl) (by kernel_rfl) (by kernel_rfl) (by kernel_rfl) (fun _ _ _ h => h) (Or.inl ⟨by rfl, by intro w hSw; go_simp⟩) hHeld ?_
  simp only [Act.put, List.setIfInBounds_toArray, List.set_cons_zero, List.set_cons_succ]
  refine take (i := 2) (d := some 15) (v := .pointer (some ⟨P, 1, none⟩)) rfl (by kernel_rfl) (by kernel_rfl) (by kernel_rfl) (by kernel_rfl) (fun _ _ _ h => h) (Or.inl ⟨by rfl, by intro w hSw; go_simp⟩) hHeld ?_
  simp only [Act.put, List.setIfInBounds_toArray, List.set_cons_zero, List.set_cons_succ]
  refine take (i := 3) (d := some 16) (v := .slice pa ports.length pc) rfl (by kernel_rfl) (by kernel_rfl) (by kernel_rfl) (by kernel_rfl) (fun _ _ _ h => h) (Or.inl ⟨by rfl, by intro w hSw; have q1 := hSw.1; go_simp⟩) hHeld ?_
  simp only [Act.put, List.setIfInBounds_toArray, List.set_cons_zero, List.set_cons_succ]
  refine take (i := 4) (d := some 17) (v := .pointer (some ⟨w.heap.size, 0, none⟩)) rfl (by kernel_rfl) (by kernel_rfl) (by kernel_rfl) (by kernel_rfl) (fun _ _ _ h => h) (Or.inl ⟨by rfl, by intro w hSw; go_simp⟩) hHeld ?_
  simp only [Act.put, List.setIfInBounds_toArray, List.set_cons_zero, List.set_cons_succ]
  refine take (i := 5) (d := some 18) (v := .int .i64 x) rfl (by kernel_rfl) (by kernel_rfl) (by kernel_rfl) (by kernel_rfl) (fun _ _ _ h => h) (Or.inl ⟨by rfl, by intro w hSw; have q1 := hSw.2; go_simp⟩) hHeld ?_
  simp only [Act.put, List.setIfInBounds_toArray, List.set_cons_zero, List.set_cons_succ]
  refine wpAnyH_ready (rs := [6]) (by kernel_rfl) (by simp) (Rg.call2 rfl (by kernel_rfl) 96 (.tmp 16) (.tmp 18) 22 3 (by kernel_rfl) 19 (by kernel_rfl) (.slice pa ports.length pc) (.int .i64 x) (by kernel_rfl) (by kernel_rfl) (fun _ => rfl) (contains_any _ _ _ _ _ _ _ (rd_drew st.prt)) ?_ AllReadyH.nil)
  rw [HR.out]
  rintro e w1 ⟨rfl, hw⟩
  replace hw := hw.symm
  subst hw
  refine ⟨_, rfl, ⟨c1, x0⟩, fun hHeld => ?_⟩
  simp only [Act.put, List.setIfInBounds_toArray, List.set_cons_zero, List.set_cons_succ]
  refine wpAnyH_done (by kernel_rfl) ?_ _
  replace st := st.below (Below.drew (Below.refl _ W0))
  have B1 : Below B w W0.drew := (B0.mono hBw).trans (Below.drew (Below.refl B W0))
  go_wp2_with (go_at_call 97; refine (send_out st hx hQ).mono ?_; rintro e w1 ⟨rfl, v', g, c, st', hb'⟩)
  exact bodyPost_end (v := .tuple #[]) (by simp [results, Try.results66, go_sem]) rfl ⟨rfl, _, _, _, _, _, st', said_app _ _ _ _ _, B1.trans hb'⟩


/-- What a flood has sent to the first j ports. -/
def flood (hin : Int) (ports now : List Int) (j : Nat) : List (Int × List Int) := ((ports.take j).filter (fun p => decide (p ≠ hin))).map (fun p => (p, now))
theorem flood_step (hin : Int) (ports now : List Int) (j : Nat) (hj : j < ports.length) : flood hin ports now (j + 1) = flood hin ports now j ++ (if ports.getD j 0 ≠ hin then [(ports.getD j 0, now)] else []) := by
  unfold flood
  rw [List.take_succ_eq_append_getElem hj, List.filter_append, List.map_append]
  have e : ports.getD j 0 = ports[j] := by simp [List.getD, hj]
  rw [e]
  by_cases h : ports[j] = hin <;> simp [h]
theorem flood_len (hin : Int) (ports now : List Int) (j : Nat) : (flood hin ports now j).length ≤ j := by
  unfold flood
  rw [List.length_map]
  exact Nat.le_trans (List.length_filter_le _ _) (by simp; omega)

set_option maxHeartbeats 2000000 in
theorem do2 {w : World} {P B : Nat} {hin : Int} {pa : Option Addr} {pb po pc : Nat} {ports : List Int} {hb ho hc : Nat} {now : List Int} {v : Value} {Q : List E} (st : St w P B hin pa pb po pc ports hb ho hc now v Q) (hQ : Q.length + ports.length ≤ 4096) :
    Calls Try.prog 66 #[.pointer (some ⟨P, 0, none⟩), .iface 127 (.agg #[])] w (Did w P B hin pa pb po pc ports now (said Q ++ flood hin ports now ports.length)) := by
  have q1 := as127_124 w
  have q2 := as127_127 w
  have hBw : B ≤ w.heap.size := by have := st.le; have := (Array.getElem?_eq_some_iff.1 st.blk).1; omega
  obtain ⟨W0, hW0⟩ : ∃ W0, W0 = w.alloc (.cells #[] 127) := ⟨_, rfl⟩
  have B0 : Below w.heap.size w W0 := by subst hW0; exact below_alloc1 _ _
  replace st := st.below B0
  have c1 := four1 st.blk
  have BB : Below B w W0 := B0.mono hBw
  clear B0 hBw
  obtain ⟨n, hn⟩ : ∃ n, n = ports.length := ⟨_, rfl⟩
  have HN : Hid (n = ports.length) := hn
  rw [← hn] at c1
  have hnm : n ≤ 4194304 := by rw [hn]; exact st.prt.size
  have hQn : Q.length + n ≤ 4096 := by omega
  clear hn hQ
  rw [hW0] at c1
  go_enter Try.func66, Try.ntmps66
  go_wp2
  rw [← hW0]
  clear hW0 c1
  go_loopw [32] (fun i wr => ∃ k : Nat, k ≤ n ∧ i = .int .i64 k ∧ ∃ v' Q', St wr P B hin pa pb po pc ports hb ho hc now v' Q' ∧ said Q' = said Q ++ flood hin ports now k ∧ Below B w wr) (fun i _ => n - (intOf i).toNat)
  case atStart => exact ⟨0, Nat.zero_le _, rfl, _, _, st, by simp [flood], BB⟩
  case round =>
    obtain ⟨k, hk, rfl, v', Q', st', hsaid, bel⟩ := hrel
    have HS : Hid (said Q' = said Q ++ flood hin ports now k) := hsaid
    clear hsaid st
    by_cases hlt : k < n
    · have hkl : k < ports.length := by have := HN.out; omega
      obtain ⟨hpa, c0⟩ := Hg.at_rd st'.prt hkl
      subst hpa
      have hkz : (k : Int) < (n : Int) := by omega
      have hq' : Q'.length ≤ 4096 := by
        have h1 := congrArg List.length HS.out
        rw [said_len, List.length_append, said_len] at h1
        have := flood_len hin ports now k
        omega
      have HF := flood_step hin ports now k hkl
      generalize ex : ports.getD k 0 = x at c0 HF
      have HFF : Hid (flood hin ports now (k + 1) = flood hin ports now k ++ (if x ≠ hin then [(x, now)] else [])) := HF
      clear HF ex
      by_cases hx : x = hin
      · subst hx
        go_wp2_with (go_at_call 97; refine (send_in st').mono ?_; rintro e w1 ⟨rfl, hw⟩; replace hw := hw.symm; subst hw)
        go_roundw
        case rel => exact ⟨k + 1, by omega, by go_num, _, _, st', by rw [HFF.out, HS.out]; simp, bel⟩
        case measure => simp [intOf]; omega
      · go_wp2_with (go_at_call 97; refine (send_out st' hx hq').mono ?_; rintro e w1 ⟨rfl, v2, g2, c2, st2, hb2⟩)
        go_roundw
        case rel => exact ⟨k + 1, by omega, by go_num, _, _, st2, by rw [HFF.out, said_app, HS.out]; simp [hx], bel.trans hb2⟩
        case measure => simp [intOf]; omega
    · have he : k = n := by omega
      subst he
      go_wp2
      have := HN.out
      exact bodyPost_end (v := .tuple #[]) (by simp [results, Try.results66, go_sem]) rfl ⟨rfl, _, _, _, _, _, st', by rw [← this]; exact HS.out, bel⟩


theorem call3 {md : Region.Mode} {ops : Array Oper} {Q : Exit → Act → World → Prop} {S : World → Prop} {fuel : Nat} {listed : Array Bool} {a : Act} {w : World} {i : Nat} {o : Oper} {rs : List Nat} (hi : ops[i]? = some o) (hw : Region.wanted o (yielded ops a.tmps) = true)
    (f : FuncId) (x y z : Operand) (t t' t'' : TypeId) (hop : o.op = Op.call { callee := Callee.value (Operand.func f), args := #[x, y, z], argTypes := #[t, t', t''] }) (d : Tmp) (hd : o.dst = some d)
    (u u' u'' : Value) (hx : a.eval x = u) (hy : a.eval y = u') (hz : a.eval z = u'') (he : ∀ w, (callFunc f #[u, u', u'']).run Try.prog w = .ok (.enter f #[u, u', u'']) w) {R : Ending → World → Prop} (hc : Calls Try.prog f #[u, u', u''] w R)
    (hk : ∀ e w', R e w' → ∃ v, e = .returned v ∧ S w' ∧ (S w' → wpAnyH Try.prog md ops Q S fuel (listed.setIfInBounds i true) (a.put (some d) v) w'))
    (hs : AllReadyH Try.prog md ops Q S fuel listed a w rs) : AllReadyH Try.prog md ops Q S fuel listed a w (i :: rs) :=
  AllReadyH.cons hi (fun K hK => by
    rw [if_pos hw]
    unfold Oper.wp
    have hf : a.eval (.func f) = .func (.func f) #[] #[] := rfl
    simp [execOp, hop, resolve, invoke, hx, hy, hz, hf, Deferred.ofValue, he w]
    refine hc.mono ?_
    intro e w' hr
    obtain ⟨v, rfl, h1, h2⟩ := hk e w' hr
    exact hK.out _ _ h1 (fun hs' => by rw [hd]; exact h2 hs')) hs

/-- Behind the store of the new head. -/
theorem set_end {w : World} {P B : Nat} {hin : Int} {pa : Option Addr} {pb po pc : Nat} {ports : List Int} {hb ho hc : Nat} {now : List Int} {v : Value} {Q : List E} {g : Nat} {L : List Int} (h : St w P B hin pa pb po pc ports hb ho hc now v Q) (hM : Mine w g L) (hL : L.length = 8) :
    St (w.setCell ⟨P, 2, none⟩ (.slice (some ⟨g, 0, none⟩) 8 8)) P B hin pa pb po pc ports g 0 8 L v Q ∧ Below B w (w.setCell ⟨P, 2, none⟩ (.slice (some ⟨g, 0, none⟩) 8 8)) := by
  have bE : Below B w (w.setCell ⟨P, 2, none⟩ (.slice (some ⟨g, 0, none⟩) 8 8)) := (Below.refl B w).setCell h.le _
  have hk : ∀ (k : Nat) (cur : Array Value), w.heap[k]? = some (Obj.cells cur 3 (0, 0)) → (w.setCell ⟨P, 2, none⟩ (.slice (some ⟨g, 0, none⟩) 8 8)).heap[k]? = w.heap[k]? := by
    intro k cur hk
    refine Below.heap_setCell _ _ _ _ ?_
    rintro rfl
    rw [h.blk] at hk
    injection hk with hk
    injection hk with _ hk _
    exact absurd hk (by decide)
  have hO := own_mine hM
  obtain ⟨⟨c, hc, _⟩, _⟩ := id hO
  have hO' := hO.of_block (hk g c hc)
  refine ⟨⟨block_set2 h.blk, rd_keep h.prt h.pK bE hk, safe_keep h.pK hk, hO'.rd, hL, .inr (.inr ⟨_, hO'⟩), ?_, h.le⟩, bE⟩
  refine h.sn.keep fun k cur t hkk ht => Below.heap_setCell _ _ _ _ ?_
  rintro rfl
  rw [h.blk] at hkk
  injection hkk with hkk
  injection hkk with _ hkk _
  rcases ht with rfl | rfl <;> exact absurd hkk (by decide)

set_option maxHeartbeats 4000000 in
theorem do3 {w : World} {P B : Nat} {hin : Int} {pa : Option Addr} {pb po pc : Nat} {ports : List Int} {hb ho hc : Nat} {now : List Int} {v : Value} {Q : List E} {F : Nat} {x : Int} (st : St w P B hin pa pb po pc ports hb ho hc now v Q) (hB : Hg.headB now = true) (hF : Hg.fits F x = true) :
    Calls Try.prog 66 #[.pointer (some ⟨P, 0, none⟩), .iface 129 (.agg #[.int .i64 F, .int .i64 x])] w (Did w P B hin pa pb po pc ports (now.set F x) (said Q)) := by
  have q1 := as129_124 (F : Int) x w
  have q2 := as129_127 (F : Int) x w
  have q3 := as129_129 (F : Int) x w
  have hPw := (Array.getElem?_eq_some_iff.1 st.blk).1
  have hBw : B ≤ w.heap.size := by have := st.le; omega
  have hset : ∀ w1, Rd w1 (some ⟨hb, ho, none⟩) hb ho now → Calls Try.prog 98 #[.agg #[.slice (some ⟨hb, ho, none⟩) 8 hc], .int .i64 F, .int .i64 x] w1 _ := fun w1 h1 => by have := implSet_yes F x _ _ _ hc _ w1 h1 hB hF; rw [st.hl] at this; exact this
  have hlen : (now.set F x).length = 8 := by rw [List.length_set]; exact st.hl
  obtain ⟨W0, hW0⟩ : ∃ W0, W0 = w.alloc (.cells #[.int .i64 F, .int .i64 x] 129) := ⟨_, rfl⟩
  have B0 : Below w.heap.size w W0 := by subst hW0; exact below_alloc1 _ _
  have k0 : W0.heap[w.heap.size]? = some (.cells #[.int .i64 F, .int .i64 x] 129 (0, 0)) := by subst hW0; exact at_new rfl
  replace st := st.below B0
  have c2 := four2 st.blk
  obtain ⟨x0, x1⟩ := Pm.two k0
  go_enter Try.func66, Try.ntmps66
  go_wp2
  rw [← hW0]
  clear hW0
  refine wp_region_held_drew (S := fun w' => w'.cell? ⟨w.heap.size, 0, none⟩ = some (.int .i64 F) ∧ w'.cell? ⟨w.heap.size, 1, none⟩ = some (.int .i64 x)) (by kernel_rfl) ⟨x0, x1⟩ (fun hHeld => ?_)
  refine take (i := 0) (d := some 44) (v := .pointer (some ⟨P, 0, none⟩)) rfl (by kernel_rfl) (by kernel_rfl) (by kernel_rfl) (by kernel_rfl) (fun _ _ _ h => h) (Or.inl ⟨by rfl, by intro w hSw; go_simp⟩) hHeld ?_
  simp only [Act.put, List.setIfInBounds_toArray, List.set_cons_zero, List.set_cons_succ]
  refine take (i := 1) (d := some 45) (v := .pointer (some ⟨P, 0, none⟩)) rfl (by kernel_rfl) (by kernel_rfl) (by kernel_rfl) (by kernel_rfl) (fun _ _ _ h => h) (Or.inl ⟨by rfl, by intro w hSw; go_simp⟩) hHeld ?_
  simp only [Act.put, List.setIfInBounds_toArray, List.set_cons_zero, List.set_cons_succ]
  refine take (i := 2) (d := some 46) (v := .pointer (some ⟨P, 0, none⟩)) rfl (by kernel_rfl) (by kernel_rfl) (by kernel_rfl) (by kernel_rfl) (fun _ _ _ h => h) (Or.inl ⟨by rfl, by intro w hSw; go_simp⟩) hHeld ?_
  simp only [Act.put, List.setIfInBounds_toArray, List.set_cons_zero, List.set_cons_succ]
  refine take (i := 3) (d := some 47) (v := .pointer (some ⟨P, 2, none⟩)) rfl (by kernel_rfl) (by kernel_rfl) (by kernel_rfl) (by kernel_rfl) (fun _ _ _ h => h) (Or.inl ⟨by rfl, by intro w hSw; go_simp⟩) hHeld ?_
  simp only [Act.put, List.setIfInBounds_toArray, List.set_cons_zero, List.set_cons_succ]
  refine take (i := 5) (d := some 49) (v := .pointer (some ⟨w.heap.size, 0, none⟩)) rfl (by kernel_rfl) (by kernel_rfl) (by kernel_rfl) (by kernel_rfl) (fun _ _ _ h => h) (Or.inl ⟨by rfl, by intro w hSw; go_simp⟩) hHeld ?_
  simp only [Act.put, List.setIfInBounds_toArray, List.set_cons_zero, List.set_cons_succ]
  refine take (i := 6) (d := some 50) (v := .int .i64 F) rfl (by kernel_rfl) (by kernel_rfl) (by kernel_rfl) (by kernel_rfl) (fun _ _ _ h => h) (Or.inl ⟨by rfl, by intro w hSw; have q1 := hSw.1; go_simp⟩) hHeld ?_
  simp only [Act.put, List.setIfInBounds_toArray, List.set_cons_zero, List.set_cons_succ]
  refine take (i := 7) (d := some 51) (v := .pointer (some ⟨w.heap.size, 1, none⟩)) rfl (by kernel_rfl) (by kernel_rfl) (by kernel_rfl) (by kernel_rfl) (fun _ _ _ h => h) (Or.inl ⟨by rfl, by intro w hSw; go_simp⟩) hHeld ?_
  simp only [Act.put, List.setIfInBounds_toArray, List.set_cons_zero, List.set_cons_succ]
  refine take (i := 8) (d := some 52) (v := .int .i64 x) rfl (by kernel_rfl) (by kernel_rfl) (by kernel_rfl) (by kernel_rfl) (fun _ _ _ h => h) (Or.inl ⟨by rfl, by intro w hSw; have q1 := hSw.2; go_simp⟩) hHeld ?_
  simp only [Act.put, List.setIfInBounds_toArray, List.set_cons_zero, List.set_cons_succ]
  refine wpAnyH_ready (rs := [4]) (by kernel_rfl) (by simp) (readyRun (i := 4) rfl (by kernel_rfl) (some 48) (by kernel_rfl) (v := .agg #[.slice (some ⟨hb, ho, none⟩) 8 hc]) (w' := W0.drew) (by go_simp) ⟨x0, x1⟩ (fun hHeld => ?_) AllReadyH.nil)
  simp only [Act.put, List.setIfInBounds_toArray, List.set_cons_zero, List.set_cons_succ]
  refine wpAnyH_ready (rs := [9]) (by kernel_rfl) (by simp) (call3 rfl (by kernel_rfl) 98 (.tmp 48) (.tmp 50) (.tmp 52) 42 3 3 (by kernel_rfl) 53 (by kernel_rfl) (.agg #[.slice (some ⟨hb, ho, none⟩) 8 hc]) (.int .i64 F) (.int .i64 x) (by kernel_rfl) (by kernel_rfl) (by kernel_rfl) (fun _ => rfl) (hset _ (rd_drew st.hd)) ?_ AllReadyH.nil)
  rintro e w3 ⟨g, rfl, hM, hgl, hb3⟩
  replace hb3 := Rw.next (Below.drew (Below.refl _ W0)) hb3
  have hgl' : W0.heap.size ≤ g := hgl
  clear hgl
  replace st := st.below hb3
  have kP3 := st.blk
  have d2 := four2 kP3
  have f3 := Bl.free kP3 2
  replace x0 := (hb3.cell (World.block_lt_of_cell? _ _ x0)).trans x0
  replace x1 := (hb3.cell (World.block_lt_of_cell? _ _ x1)).trans x1
  refine ⟨_, rfl, ⟨x0, x1⟩, fun hHeld => ?_⟩
  simp only [Act.put, List.setIfInBounds_toArray, List.set_cons_zero, List.set_cons_succ]
  refine take (i := 10) (d := some 43) (v := .tuple #[.agg #[.slice (some ⟨g, 0, none⟩) 8 8], .bool true]) rfl (by kernel_rfl) (by kernel_rfl) (by kernel_rfl) (by kernel_rfl) (fun _ _ _ h => h) (Or.inl ⟨by rfl, by intro w hSw; go_simp⟩) hHeld ?_
  simp only [Act.put, List.setIfInBounds_toArray, List.set_cons_zero, List.set_cons_succ]
  refine take (i := 11) (d := some 54) (v := .agg #[.slice (some ⟨g, 0, none⟩) 8 8]) rfl (by kernel_rfl) (by kernel_rfl) (by kernel_rfl) (by kernel_rfl) (fun _ _ _ h => h) (Or.inl ⟨by rfl, by intro w hSw; go_simp⟩) hHeld ?_
  simp only [Act.put, List.setIfInBounds_toArray, List.set_cons_zero, List.set_cons_succ]
  refine take (i := 12) (d := some 55) (v := .bool true) rfl (by kernel_rfl) (by kernel_rfl) (by kernel_rfl) (by kernel_rfl) (fun _ _ _ h => h) (Or.inl ⟨by rfl, by intro w hSw; go_simp⟩) hHeld ?_
  simp only [Act.put, List.setIfInBounds_toArray, List.set_cons_zero, List.set_cons_succ]
  refine take (i := 13) (d := some 56) (v := .pointer (some ⟨P, 0, none⟩)) rfl (by kernel_rfl) (by kernel_rfl) (by kernel_rfl) (by kernel_rfl) (fun _ _ _ h => h) (Or.inl ⟨by rfl, by intro w hSw; go_simp⟩) hHeld ?_
  simp only [Act.put, List.setIfInBounds_toArray, List.set_cons_zero, List.set_cons_succ]
  refine take (i := 14) (d := some 57) (v := .pointer (some ⟨P, 2, none⟩)) rfl (by kernel_rfl) (by kernel_rfl) (by kernel_rfl) (by kernel_rfl) (fun _ _ _ h => h) (Or.inl ⟨by rfl, by intro w hSw; go_simp⟩) hHeld ?_
  simp only [Act.put, List.setIfInBounds_toArray, List.set_cons_zero, List.set_cons_succ]
  refine wpAnyH_ready (rs := [15]) (by kernel_rfl) (by simp) (readySkip (i := 15) rfl (by kernel_rfl) none (by kernel_rfl) (w' := w3.setCell ⟨P, 2, none⟩ (.slice (some ⟨g, 0, none⟩) 8 8)) (by go_simp) ⟨(World.cell?_setCell_other _ _ _ _ (by intro q; injection q with q1 q2; omega)).trans x0, (World.cell?_setCell_other _ _ _ _ (by intro q; injection q with q1 q2; omega)).trans x1⟩ (fun hHeld => ?_) AllReadyH.nil)
  simp only [Act.put, List.setIfInBounds_toArray, List.set_cons_zero, List.set_cons_succ]
  refine wpAnyH_done (by kernel_rfl) ?_ _
  go_wp2_with fail
  obtain ⟨stE, bE⟩ := set_end st hM hlen
  exact bodyPost_end (v := .tuple #[]) (by simp [results, Try.results66, go_sem]) rfl ⟨rfl, _, _, _, _, _, stE, rfl, ((B0.mono hBw).trans (hb3.mono (by have := B0.size; omega))).trans bE⟩

end Go.Proofs.Ytkakdldhinimoaa.Yk
