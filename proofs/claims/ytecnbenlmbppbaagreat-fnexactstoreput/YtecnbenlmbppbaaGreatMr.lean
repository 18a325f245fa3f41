/-
  Both SameStore.
-/
import Derived.Test.YtecnbenlmbppbaaGreatMq
import Derived.Test.YtecnbenlmbppbaaGreatHm
import Derived.Test.YtecnbenlmbppbaaGreatSf
import Derived.Test.YtecnbenlmbppbaaGreatSd
namespace Go.Proofs.YtecnbenlmbppbaaGreat.Mp
set_option maxRecDepth 8000
set_option linter.unusedSimpArgs false
set_option linter.unusedVariables false
open Go Go.ChangeShapes Go.WideShapes Go.RowKit
open Num Word Pl Rp
open Rl (Rm rm0 said)
open St (Nm nm0 NL told storeB)
open Vl (cmpS strLt)

theorem rising_sub : ∀ {T U : List NL}, T.Pairwise (fun x y => strLt x.1 y.1 = true) → U.Pairwise (fun x y => strLt x.1 y.1 = true) → (∀ x ∈ T, x ∈ U) → U.length ≤ T.length → T = U
  | [], [], _, _, _, _ => rfl
  | [], y :: U, _, _, _, h => by simp at h
  | x :: T, [], _, _, h, _ => absurd (h x (by simp)) (by simp)
  | x :: T, y :: U, hT, hU, h, hl => by
    obtain ⟨h1, h2⟩ := List.pairwise_cons.1 hT
    obtain ⟨k1, k2⟩ := List.pairwise_cons.1 hU
    have irr : ∀ {z : NL}, strLt z.1 z.1 = true → False := fun {z} hz => by rw [strLt_irr] at hz; cases hz
    have hs : ∀ z ∈ T, z ∈ U := fun z hz => by
      rcases List.mem_cons.1 (h z (by simp [hz])) with e | hz'
      · subst e
        rcases List.mem_cons.1 (h x (by simp)) with e | hx
        · subst e; exact absurd (h1 _ hz) (fun hh => irr hh)
        · exact absurd (strLt_trans (h1 _ hz) (k1 x hx)) (fun hh => irr hh)
      · exact hz'
    have e := rising_sub h2 k2 hs (by simpa using hl)
    subst e
    rcases List.mem_cons.1 (h x (by simp)) with e | hx
    · rw [e]
    · exact absurd (h1 x hx) (fun hh => irr hh)
theorem sameB_self {x : Int} {R : List RowL} (h : RelP x R) : Rl.sameB x R x R = true := by
  unfold Rl.sameB Rl.twoB
  rw [relB_of h]; simp
theorem sameB_eq {x y : Int} {R S : List RowL} (h : Rl.sameB x R y S = true) : x = y ∧ R = S := by
  unfold Rl.sameB Rl.twoB at h
  simp only [Bool.and_eq_true, decide_eq_true_eq] at h
  exact ⟨h.1.2, h.2⟩
theorem mem_told {T : List Nm} {x : Nm} (h : x ∈ T) : x.l ∈ told T := List.mem_map_of_mem h
theorem told_mem {T : List Nm} {l : NL} (h : l ∈ told T) : ∃ x ∈ T, x.l = l := List.mem_map.1 h
/-- What the maps of two right stores tell of each other. -/
theorem same_facts {T U : List Nm} (hT : storeB (told T) = true) (hU : storeB (told U) = true) :
    (T.length ≠ U.length → decide (told T = told U) = false) ∧ (∀ x ∈ T, (∀ y ∈ U, y.s ≠ x.s) → decide (told T = told U) = false) ∧
    (∀ x ∈ T, ∀ y ∈ U, y.s = x.s → Rl.sameB x.ar (said x.Q) y.ar (said y.Q) = false → decide (told T = told U) = false) ∧
    (T.length = U.length → (∀ x ∈ T, ∃ y ∈ U, y.s = x.s ∧ Rl.sameB x.ar (said x.Q) y.ar (said y.Q) = true) → decide (told T = told U) = true) := by
  refine ⟨fun h => decide_eq_false fun e => h ?_, fun x hx h => decide_eq_false fun e => ?_, fun x hx y hy hs h => decide_eq_false fun e => ?_, fun hl h => decide_eq_true ?_⟩
  · rw [← St.told_len, ← St.told_len, e]
  · obtain ⟨y, hy, hl⟩ := told_mem (e ▸ mem_told hx)
    exact h y hy (congrArg Prod.fst hl)
  · obtain ⟨z, hz, hl⟩ := told_mem (e ▸ mem_told hx)
    obtain ⟨q1, q2, q3⟩ := St.told_parts hl
    obtain rfl := same_of (store_apart hU) hz hy (q1.trans hs.symm)
    have := sameB_self (store_one hT (mem_told hx)).2
    simp only [Nm.l] at this
    rw [q2, q3, this] at h; cases h
  · refine rising_sub (store_rises hT) (store_rises hU) (fun l hl => ?_) (by rw [St.told_len, St.told_len, hl]; exact Nat.le_refl _)
    obtain ⟨x, hx, rfl⟩ := told_mem hl
    obtain ⟨y, hy, e1, e2⟩ := h x hx
    obtain ⟨e3, e4⟩ := sameB_eq e2
    have : x.l = y.l := by simp only [Nm.l]; rw [e1, e3, e4]
    rw [this]; exact mem_told hy
def sameSt (T U : List NL) : Bool := storeB T && storeB U && decide (T = U)

def Hold2 (g g' : Nat) (v v' : Value) (w : World) : Prop := w.cell? ⟨g, 0, none⟩ = some v ∧ w.cell? ⟨g', 0, none⟩ = some v'
theorem Hold2.below {g g' : Nat} {v v' : Value} {w w' : World} (h : Hold2 g g' v v' w) (hb : Below w.heap.size w w') : Hold2 g g' v v' w' :=
  ⟨(hb.cell (World.block_lt_of_cell? _ _ h.1)).trans h.1, (hb.cell (World.block_lt_of_cell? _ _ h.2)).trans h.2⟩
theorem rd_ok {w : World} {a : Option Addr} {b off : Nat} {T : List Nm} (h : St.Rd w a b off T) : ∀ x ∈ T, x.Ok w := fun x hx => by
  obtain ⟨i, hi, rfl⟩ := List.getElem_of_mem hx
  have := h.ok i hi
  simpa [List.getD, hi] using this

set_option maxHeartbeats 4000000 in
theorem sameI_any (a a' : Option Addr) (b off cap b' off' cap' : Nat) (T U : List Nm) (w : World) (h : St.Rd w a b off T) (h' : St.Rd w a' b' off' U) :
    Calls Tryz.prog 13 #[.agg #[.slice a T.length cap], .agg #[.slice a' U.length cap']] w fun e w' => e = .returned (.bool (sameSt (told T) (told U))) ∧ Below w.heap.size w w' := by
  obtain ⟨W1, hW1⟩ : ∃ W1, W1 = (w.alloc (.cells #[.slice a T.length cap] 25)).alloc (.cells #[.slice a' U.length cap'] 25) := ⟨_, rfl⟩
  have B1 : Below w.heap.size w W1 := by subst hW1; exact below_alloc2 _ _ _
  have hH : Hold2 w.heap.size (w.heap.size + 1) (.slice a T.length cap) (.slice a' U.length cap') W1 := by
    subst hW1
    exact ⟨one (by rw [at_old (by simp), at_new rfl]), one (at_new (by simp))⟩
  have r0 := h.below B1
  have r1 := h'.below B1
  have hA := fun W h => St.okI_any a b off cap T W h
  have hB := fun W h => St.okI_any a' b' off' cap' U W h
  have HT : Hid (storeB (told T) = true → mapL T = T.map nv) := fun h => mapL_eq (store_apart h)
  have HU : Hid (storeB (told U) = true → mapL U = U.map nv) := fun h => mapL_eq (store_apart h)
  have HF : Hid (storeB (told T) = true → storeB (told U) = true → ∀ (b1 b2 n1 n2 : Nat) (D1 D2 : DataW Value) (w : World), Owns w b1 n1 D1 → Is D1 (mapL T) → Owns w b2 n2 D2 → Is D2 (mapL U) → St.Rd w a b off T → St.Rd w a' b' off' U → Calls Tryz.prog 52 #[.map (some b1), .map (some b2), .func (.func 54) #[] #[]] w fun e w' => e = .returned (.bool (decide (told T = told U))) ∧ Below w.heap.size w w') := by
    intro hT hU b1 b2 n1 n2 D1 D2 w o1 i1 o2 i2 q1 q2
    obtain ⟨f1, f2, f3, f4⟩ := same_facts hT hU
    rw [HT.out hT] at i1
    rw [HU.out hU] at i2
    exact equalF_any b1 b2 n1 n2 D1 D2 T U w o1 i1 o2 i2 (rd_ok q1) (rd_ok q2) (store_apart hT) _ f1 f2 f3 f4
  clear h h' HT HU
  unfold sameSt
  generalize decide (told T = told U) = R at HF ⊢
  generalize storeB (told T) = TB at hA HF ⊢
  generalize storeB (told U) = UB at hB HF ⊢
  go_enter Tryz.func13, Tryz.ntmps13
  go_wp2
  rw [← hW1]
  clear hW1
  cases TB with
  | false =>
    refine wp_region_held_drew (S := Hold2 w.heap.size (w.heap.size + 1) (.slice a T.length cap) (.slice a' U.length cap')) (by kernel_rfl) hH (fun hHeld => ?_)
    replace B1 := Rw.next B1 ((Below.refl _ _).drew)
    replace r0 := r0.below ((Below.refl _ _).drew)
    replace r1 := r1.below ((Below.refl _ _).drew)
    refine Hn.take (i := 0) (d := some 5) (v := .agg #[.slice a T.length cap]) rfl (by kernel_rfl) (by kernel_rfl) (by kernel_rfl) (by kernel_rfl) (fun _ _ _ h => h) (Or.inl ⟨by rfl, by intro w hSw; obtain ⟨c0, c1⟩ := hSw; go_simp⟩) hHeld ?_
    simp only [Act.put, List.setIfInBounds_toArray, List.set_cons_zero, List.set_cons_succ]
    refine wpAnyH_ready (rs := [1]) (by kernel_rfl) (by simp) (Hn.call1 (i := 1) rfl (by rfl) 46 (.tmp 5) 25 (by kernel_rfl) 6 (by kernel_rfl) (.agg #[.slice a T.length cap]) (by kernel_rfl) (fun _ => rfl) (hA _ r0) ?_ AllReadyH.nil)
    rintro e w1 ⟨rfl, hb⟩
    refine ⟨_, rfl, hHeld.below hb, fun hHeld => ?_⟩
    replace B1 := Rw.next B1 hb
    replace r0 := r0.below hb
    replace r1 := r1.below hb
    clear hb
    simp only [Act.put, List.setIfInBounds_toArray, List.set_cons_zero, List.set_cons_succ]
    refine Hn.take (i := 2) (d := some 7) (v := .bool false) rfl (by kernel_rfl) (by kernel_rfl) (by kernel_rfl) (by kernel_rfl) (fun _ _ _ h => h) (Or.inl ⟨by rfl, by intro w hSw; go_simp⟩) hHeld ?_
    simp only [Act.put, List.setIfInBounds_toArray, List.set_cons_zero, List.set_cons_succ]
    refine Hn.take (i := 3) (d := some 8) (v := undef) rfl (by kernel_rfl) (by kernel_rfl) (by kernel_rfl) (by kernel_rfl) (fun _ _ _ h => h) (Or.inr ⟨by rfl, rfl⟩) hHeld ?_
    simp only [Act.put, List.setIfInBounds_toArray, List.set_cons_zero, List.set_cons_succ]
    refine Hn.take (i := 4) (d := some 9) (v := undef) rfl (by kernel_rfl) (by kernel_rfl) (by kernel_rfl) (by kernel_rfl) (fun _ _ _ h => h) (Or.inr ⟨by rfl, rfl⟩) hHeld ?_
    simp only [Act.put, List.setIfInBounds_toArray, List.set_cons_zero, List.set_cons_succ]
    refine Hn.take (i := 5) (d := some 10) (v := .bool false) rfl (by kernel_rfl) (by kernel_rfl) (by kernel_rfl) (by kernel_rfl) (fun _ _ _ h => h) (Or.inl ⟨by rfl, by intro w hSw; go_simp⟩) hHeld ?_
    simp only [Act.put, List.setIfInBounds_toArray, List.set_cons_zero, List.set_cons_succ]
    refine Hn.take (i := 6) (d := some 11) (v := .bool false) rfl (by kernel_rfl) (by kernel_rfl) (by kernel_rfl) (by kernel_rfl) (fun _ _ _ h => h) (Or.inl ⟨by rfl, by intro w hSw; go_simp⟩) hHeld ?_
    simp only [Act.put, List.setIfInBounds_toArray, List.set_cons_zero, List.set_cons_succ]
    refine Hn.take (i := 7) (d := some 12) (v := undef) rfl (by kernel_rfl) (by kernel_rfl) (by kernel_rfl) (by kernel_rfl) (fun _ _ _ h => h) (Or.inr ⟨by rfl, rfl⟩) hHeld ?_
    simp only [Act.put, List.setIfInBounds_toArray, List.set_cons_zero, List.set_cons_succ]
    refine Hn.take (i := 9) (d := some 14) (v := undef) rfl (by kernel_rfl) (by kernel_rfl) (by kernel_rfl) (by kernel_rfl) (fun _ _ _ h => h) (Or.inr ⟨by rfl, rfl⟩) hHeld ?_
    simp only [Act.put, List.setIfInBounds_toArray, List.set_cons_zero, List.set_cons_succ]
    refine Hn.take (i := 8) (d := some 13) (v := undef) rfl (by kernel_rfl) (by kernel_rfl) (by kernel_rfl) (by kernel_rfl) (fun _ _ _ h => h) (Or.inr ⟨by rfl, rfl⟩) hHeld ?_
    simp only [Act.put, List.setIfInBounds_toArray, List.set_cons_zero, List.set_cons_succ]
    refine Hn.take (i := 10) (d := some 15) (v := undef) rfl (by kernel_rfl) (by kernel_rfl) (by kernel_rfl) (by kernel_rfl) (fun _ _ _ h => h) (Or.inr ⟨by rfl, rfl⟩) hHeld ?_
    simp only [Act.put, List.setIfInBounds_toArray, List.set_cons_zero, List.set_cons_succ]
    refine Hn.take (i := 11) (d := some 16) (v := undef) rfl (by kernel_rfl) (by kernel_rfl) (by kernel_rfl) (by kernel_rfl) (fun _ _ _ h => h) (Or.inr ⟨by rfl, rfl⟩) hHeld ?_
    simp only [Act.put, List.setIfInBounds_toArray, List.set_cons_zero, List.set_cons_succ]
    refine Hn.take (i := 12) (d := some 17) (v := .bool false) rfl (by kernel_rfl) (by kernel_rfl) (by kernel_rfl) (by kernel_rfl) (fun _ _ _ h => h) (Or.inl ⟨by rfl, by intro w hSw; go_simp⟩) hHeld ?_
    simp only [Act.put, List.setIfInBounds_toArray, List.set_cons_zero, List.set_cons_succ]
    refine Hn.take (i := 13) (d := some 4) (v := .bool false) rfl (by kernel_rfl) (by kernel_rfl) (by kernel_rfl) (by kernel_rfl) (fun _ _ _ h => h) (Or.inl ⟨by rfl, by intro w hSw; go_simp⟩) hHeld ?_
    simp only [Act.put, List.setIfInBounds_toArray, List.set_cons_zero, List.set_cons_succ]
    refine wpAnyH_done (by kernel_rfl) ?_ _
    go_wp2
    go_ret
    exact ⟨ret_bool (by simp), B1⟩
  | true =>
    cases UB with
    | false =>
      refine wp_region_held_drew (S := Hold2 w.heap.size (w.heap.size + 1) (.slice a T.length cap) (.slice a' U.length cap')) (by kernel_rfl) hH (fun hHeld => ?_)
      replace B1 := Rw.next B1 ((Below.refl _ _).drew)
      replace r0 := r0.below ((Below.refl _ _).drew)
      replace r1 := r1.below ((Below.refl _ _).drew)
      refine Hn.take (i := 0) (d := some 5) (v := .agg #[.slice a T.length cap]) rfl (by kernel_rfl) (by kernel_rfl) (by kernel_rfl) (by kernel_rfl) (fun _ _ _ h => h) (Or.inl ⟨by rfl, by intro w hSw; obtain ⟨c0, c1⟩ := hSw; go_simp⟩) hHeld ?_
      simp only [Act.put, List.setIfInBounds_toArray, List.set_cons_zero, List.set_cons_succ]
      refine wpAnyH_ready (rs := [1]) (by kernel_rfl) (by simp) (Hn.call1 (i := 1) rfl (by rfl) 46 (.tmp 5) 25 (by kernel_rfl) 6 (by kernel_rfl) (.agg #[.slice a T.length cap]) (by kernel_rfl) (fun _ => rfl) (hA _ r0) ?_ AllReadyH.nil)
      rintro e w1 ⟨rfl, hb⟩
      refine ⟨_, rfl, hHeld.below hb, fun hHeld => ?_⟩
      replace B1 := Rw.next B1 hb
      replace r0 := r0.below hb
      replace r1 := r1.below hb
      clear hb
      simp only [Act.put, List.setIfInBounds_toArray, List.set_cons_zero, List.set_cons_succ]
      refine Hn.take (i := 2) (d := some 7) (v := .bool true) rfl (by kernel_rfl) (by kernel_rfl) (by kernel_rfl) (by kernel_rfl) (fun _ _ _ h => h) (Or.inl ⟨by rfl, by intro w hSw; go_simp⟩) hHeld ?_
      simp only [Act.put, List.setIfInBounds_toArray, List.set_cons_zero, List.set_cons_succ]
      refine Hn.take (i := 3) (d := some 8) (v := .agg #[.slice a' U.length cap']) rfl (by kernel_rfl) (by kernel_rfl) (by kernel_rfl) (by kernel_rfl) (fun _ _ _ h => h) (Or.inl ⟨by rfl, by intro w hSw; obtain ⟨c0, c1⟩ := hSw; go_simp⟩) hHeld ?_
      simp only [Act.put, List.setIfInBounds_toArray, List.set_cons_zero, List.set_cons_succ]
      refine wpAnyH_ready (rs := [4]) (by kernel_rfl) (by simp) (Hn.call1 (i := 4) rfl (by rfl) 46 (.tmp 8) 25 (by kernel_rfl) 9 (by kernel_rfl) (.agg #[.slice a' U.length cap']) (by kernel_rfl) (fun _ => rfl) (hB _ r1) ?_ AllReadyH.nil)
      rintro e w1 ⟨rfl, hb⟩
      refine ⟨_, rfl, hHeld.below hb, fun hHeld => ?_⟩
      replace B1 := Rw.next B1 hb
      replace r0 := r0.below hb
      replace r1 := r1.below hb
      clear hb
      simp only [Act.put, List.setIfInBounds_toArray, List.set_cons_zero, List.set_cons_succ]
      refine Hn.take (i := 5) (d := some 10) (v := .bool false) rfl (by kernel_rfl) (by kernel_rfl) (by kernel_rfl) (by kernel_rfl) (fun _ _ _ h => h) (Or.inl ⟨by rfl, by intro w hSw; go_simp⟩) hHeld ?_
      simp only [Act.put, List.setIfInBounds_toArray, List.set_cons_zero, List.set_cons_succ]
      refine Hn.take (i := 6) (d := some 11) (v := .bool false) rfl (by kernel_rfl) (by kernel_rfl) (by kernel_rfl) (by kernel_rfl) (fun _ _ _ h => h) (Or.inl ⟨by rfl, by intro w hSw; go_simp⟩) hHeld ?_
      simp only [Act.put, List.setIfInBounds_toArray, List.set_cons_zero, List.set_cons_succ]
      refine Hn.take (i := 7) (d := some 12) (v := undef) rfl (by kernel_rfl) (by kernel_rfl) (by kernel_rfl) (by kernel_rfl) (fun _ _ _ h => h) (Or.inr ⟨by rfl, rfl⟩) hHeld ?_
      simp only [Act.put, List.setIfInBounds_toArray, List.set_cons_zero, List.set_cons_succ]
      refine Hn.take (i := 9) (d := some 14) (v := undef) rfl (by kernel_rfl) (by kernel_rfl) (by kernel_rfl) (by kernel_rfl) (fun _ _ _ h => h) (Or.inr ⟨by rfl, rfl⟩) hHeld ?_
      simp only [Act.put, List.setIfInBounds_toArray, List.set_cons_zero, List.set_cons_succ]
      refine Hn.take (i := 8) (d := some 13) (v := undef) rfl (by kernel_rfl) (by kernel_rfl) (by kernel_rfl) (by kernel_rfl) (fun _ _ _ h => h) (Or.inr ⟨by rfl, rfl⟩) hHeld ?_
      simp only [Act.put, List.setIfInBounds_toArray, List.set_cons_zero, List.set_cons_succ]
      refine Hn.take (i := 10) (d := some 15) (v := undef) rfl (by kernel_rfl) (by kernel_rfl) (by kernel_rfl) (by kernel_rfl) (fun _ _ _ h => h) (Or.inr ⟨by rfl, rfl⟩) hHeld ?_
      simp only [Act.put, List.setIfInBounds_toArray, List.set_cons_zero, List.set_cons_succ]
      refine Hn.take (i := 11) (d := some 16) (v := undef) rfl (by kernel_rfl) (by kernel_rfl) (by kernel_rfl) (by kernel_rfl) (fun _ _ _ h => h) (Or.inr ⟨by rfl, rfl⟩) hHeld ?_
      simp only [Act.put, List.setIfInBounds_toArray, List.set_cons_zero, List.set_cons_succ]
      refine Hn.take (i := 12) (d := some 17) (v := .bool false) rfl (by kernel_rfl) (by kernel_rfl) (by kernel_rfl) (by kernel_rfl) (fun _ _ _ h => h) (Or.inl ⟨by rfl, by intro w hSw; go_simp⟩) hHeld ?_
      simp only [Act.put, List.setIfInBounds_toArray, List.set_cons_zero, List.set_cons_succ]
      refine Hn.take (i := 13) (d := some 4) (v := .bool false) rfl (by kernel_rfl) (by kernel_rfl) (by kernel_rfl) (by kernel_rfl) (fun _ _ _ h => h) (Or.inl ⟨by rfl, by intro w hSw; go_simp⟩) hHeld ?_
      simp only [Act.put, List.setIfInBounds_toArray, List.set_cons_zero, List.set_cons_succ]
      refine wpAnyH_done (by kernel_rfl) ?_ _
      go_wp2
      go_ret
      exact ⟨ret_bool (by simp), B1⟩
    | true =>
      have hE := HF.out rfl rfl
      refine wp_region_held_drew (S := Hold2 w.heap.size (w.heap.size + 1) (.slice a T.length cap) (.slice a' U.length cap')) (by kernel_rfl) hH (fun hHeld => ?_)
      replace B1 := Rw.next B1 ((Below.refl _ _).drew)
      replace r0 := r0.below ((Below.refl _ _).drew)
      replace r1 := r1.below ((Below.refl _ _).drew)
      refine Hn.take (i := 0) (d := some 5) (v := .agg #[.slice a T.length cap]) rfl (by kernel_rfl) (by kernel_rfl) (by kernel_rfl) (by kernel_rfl) (fun _ _ _ h => h) (Or.inl ⟨by rfl, by intro w hSw; obtain ⟨c0, c1⟩ := hSw; go_simp⟩) hHeld ?_
      simp only [Act.put, List.setIfInBounds_toArray, List.set_cons_zero, List.set_cons_succ]
      refine wpAnyH_ready (rs := [1]) (by kernel_rfl) (by simp) (Hn.call1 (i := 1) rfl (by rfl) 46 (.tmp 5) 25 (by kernel_rfl) 6 (by kernel_rfl) (.agg #[.slice a T.length cap]) (by kernel_rfl) (fun _ => rfl) (hA _ r0) ?_ AllReadyH.nil)
      rintro e w1 ⟨rfl, hb⟩
      refine ⟨_, rfl, hHeld.below hb, fun hHeld => ?_⟩
      replace B1 := Rw.next B1 hb
      replace r0 := r0.below hb
      replace r1 := r1.below hb
      clear hb
      simp only [Act.put, List.setIfInBounds_toArray, List.set_cons_zero, List.set_cons_succ]
      refine Hn.take (i := 2) (d := some 7) (v := .bool true) rfl (by kernel_rfl) (by kernel_rfl) (by kernel_rfl) (by kernel_rfl) (fun _ _ _ h => h) (Or.inl ⟨by rfl, by intro w hSw; go_simp⟩) hHeld ?_
      simp only [Act.put, List.setIfInBounds_toArray, List.set_cons_zero, List.set_cons_succ]
      refine Hn.take (i := 3) (d := some 8) (v := .agg #[.slice a' U.length cap']) rfl (by kernel_rfl) (by kernel_rfl) (by kernel_rfl) (by kernel_rfl) (fun _ _ _ h => h) (Or.inl ⟨by rfl, by intro w hSw; obtain ⟨c0, c1⟩ := hSw; go_simp⟩) hHeld ?_
      simp only [Act.put, List.setIfInBounds_toArray, List.set_cons_zero, List.set_cons_succ]
      refine wpAnyH_ready (rs := [4]) (by kernel_rfl) (by simp) (Hn.call1 (i := 4) rfl (by rfl) 46 (.tmp 8) 25 (by kernel_rfl) 9 (by kernel_rfl) (.agg #[.slice a' U.length cap']) (by kernel_rfl) (fun _ => rfl) (hB _ r1) ?_ AllReadyH.nil)
      rintro e w1 ⟨rfl, hb⟩
      refine ⟨_, rfl, hHeld.below hb, fun hHeld => ?_⟩
      replace B1 := Rw.next B1 hb
      replace r0 := r0.below hb
      replace r1 := r1.below hb
      clear hb
      simp only [Act.put, List.setIfInBounds_toArray, List.set_cons_zero, List.set_cons_succ]
      refine Hn.take (i := 5) (d := some 10) (v := .bool true) rfl (by kernel_rfl) (by kernel_rfl) (by kernel_rfl) (by kernel_rfl) (fun _ _ _ h => h) (Or.inl ⟨by rfl, by intro w hSw; go_simp⟩) hHeld ?_
      simp only [Act.put, List.setIfInBounds_toArray, List.set_cons_zero, List.set_cons_succ]
      refine Hn.take (i := 6) (d := some 11) (v := .bool true) rfl (by kernel_rfl) (by kernel_rfl) (by kernel_rfl) (by kernel_rfl) (fun _ _ _ h => h) (Or.inl ⟨by rfl, by intro w hSw; go_simp⟩) hHeld ?_
      simp only [Act.put, List.setIfInBounds_toArray, List.set_cons_zero, List.set_cons_succ]
      refine Hn.take (i := 7) (d := some 12) (v := .agg #[.slice a T.length cap]) rfl (by kernel_rfl) (by kernel_rfl) (by kernel_rfl) (by kernel_rfl) (fun _ _ _ h => h) (Or.inl ⟨by rfl, by intro w hSw; obtain ⟨c0, c1⟩ := hSw; go_simp⟩) hHeld ?_
      simp only [Act.put, List.setIfInBounds_toArray, List.set_cons_zero, List.set_cons_succ]
      refine Hn.take (i := 9) (d := some 14) (v := .agg #[.slice a' U.length cap']) rfl (by kernel_rfl) (by kernel_rfl) (by kernel_rfl) (by kernel_rfl) (fun _ _ _ h => h) (Or.inl ⟨by rfl, by intro w hSw; obtain ⟨c0, c1⟩ := hSw; go_simp⟩) hHeld ?_
      simp only [Act.put, List.setIfInBounds_toArray, List.set_cons_zero, List.set_cons_succ]
      refine wpAnyH_ready (rs := [8]) (by kernel_rfl) (by simp) (Hn.call1 (i := 8) rfl (by rfl) 53 (.tmp 12) 25 (by kernel_rfl) 13 (by kernel_rfl) (.agg #[.slice a T.length cap]) (by kernel_rfl) (fun _ => rfl) (relsOf_any _ _ _ _ _ _ r0) ?_ AllReadyH.nil)
      rintro e w1 ⟨hb, M1, D1, rfl, hM1, ow1, is1⟩
      refine ⟨_, rfl, hHeld.below hb, fun hHeld => ?_⟩
      replace B1 := Rw.next B1 hb
      replace r0 := r0.below hb
      replace r1 := r1.below hb
      clear hb
      simp only [Act.put, List.setIfInBounds_toArray, List.set_cons_zero, List.set_cons_succ]
      refine wpAnyH_ready (rs := [10]) (by kernel_rfl) (by simp) (Hn.call1 (i := 10) rfl (by rfl) 53 (.tmp 14) 25 (by kernel_rfl) 15 (by kernel_rfl) (.agg #[.slice a' U.length cap']) (by kernel_rfl) (fun _ => rfl) (relsOf_any _ _ _ _ _ _ r1) ?_ AllReadyH.nil)
      rintro e w1 ⟨hb, M2, D2, rfl, hM2, ow2, is2⟩
      refine ⟨_, rfl, hHeld.below hb, fun hHeld => ?_⟩
      replace ow1 := owns_below ow1 hb
      replace B1 := Rw.next B1 hb
      replace r0 := r0.below hb
      replace r1 := r1.below hb
      clear hb
      simp only [Act.put, List.setIfInBounds_toArray, List.set_cons_zero, List.set_cons_succ]
      refine wpAnyH_ready (rs := [11]) (by kernel_rfl) (by simp) (Hn.call3 (i := 11) rfl (by rfl) 52 (.tmp 13) (.tmp 15) (.func 54) 87 87 48 (by kernel_rfl) 16 (by kernel_rfl) (.map (some M1)) (.map (some M2)) (.func (.func 54) #[] #[]) (by kernel_rfl) (by kernel_rfl) (by kernel_rfl) (fun _ => rfl) (hE _ _ _ _ _ _ _ ow1 is1 ow2 is2 r0 r1) ?_ AllReadyH.nil)
      rintro e w1 ⟨rfl, hb⟩
      refine ⟨_, rfl, hHeld.below hb, fun hHeld => ?_⟩
      replace B1 := Rw.next B1 hb
      clear hb
      simp only [Act.put, List.setIfInBounds_toArray, List.set_cons_zero, List.set_cons_succ]
      refine Hn.take (i := 12) (d := some 17) (v := .bool R) rfl (by kernel_rfl) (by kernel_rfl) (by kernel_rfl) (by kernel_rfl) (fun _ _ _ h => h) (Or.inl ⟨by rfl, by intro w hSw; go_simp⟩) hHeld ?_
      simp only [Act.put, List.setIfInBounds_toArray, List.set_cons_zero, List.set_cons_succ]
      refine Hn.take (i := 13) (d := some 4) (v := .bool R) rfl (by kernel_rfl) (by kernel_rfl) (by kernel_rfl) (by kernel_rfl) (fun _ _ _ h => h) (Or.inl ⟨by rfl, by intro w hSw; go_simp⟩) hHeld ?_
      simp only [Act.put, List.setIfInBounds_toArray, List.set_cons_zero, List.set_cons_succ]
      refine wpAnyH_done (by kernel_rfl) ?_ _
      go_wp2
      go_ret
      exact ⟨ret_bool (by simp), B1⟩

def Hold8 (g b p b' p' : Nat) (v v' : Value) (s : ByteArray) (ar : Int) (u : Value) (s' : ByteArray) (ar' : Int) (u' : Value) (w : World) : Prop :=
  w.cell? ⟨g, 0, none⟩ = some v ∧ w.cell? ⟨g + 1, 0, none⟩ = some v' ∧ w.cell? ⟨b, p, none⟩ = some (.string s) ∧ w.cell? ⟨b, p + 1, none⟩ = some (.int .i64 ar) ∧ w.cell? ⟨b, p + 2, none⟩ = some u ∧ w.cell? ⟨b', p', none⟩ = some (.string s') ∧ w.cell? ⟨b', p' + 1, none⟩ = some (.int .i64 ar') ∧ w.cell? ⟨b', p' + 2, none⟩ = some u'
theorem Hold8.below {g b p b' p' : Nat} {v v' : Value} {s : ByteArray} {ar : Int} {u : Value} {s' : ByteArray} {ar' : Int} {u' : Value} {w w' : World} (h : Hold8 g b p b' p' v v' s ar u s' ar' u' w) (hb : Below w.heap.size w w') : Hold8 g b p b' p' v v' s ar u s' ar' u' w' := by
  obtain ⟨c0, c1, c2, c3, c4, c5, c6, c7⟩ := h
  exact ⟨(hb.cell (World.block_lt_of_cell? _ _ c0)).trans c0, (hb.cell (World.block_lt_of_cell? _ _ c1)).trans c1, (hb.cell (World.block_lt_of_cell? _ _ c2)).trans c2, (hb.cell (World.block_lt_of_cell? _ _ c3)).trans c3, (hb.cell (World.block_lt_of_cell? _ _ c4)).trans c4, (hb.cell (World.block_lt_of_cell? _ _ c5)).trans c5, (hb.cell (World.block_lt_of_cell? _ _ c6)).trans c6, (hb.cell (World.block_lt_of_cell? _ _ c7)).trans c7⟩

theorem told_ext {T U : List Nm} (hl : T.length = U.length) (h : ∀ i, i < T.length → (T.getD i nm0).l = (U.getD i nm0).l) : told T = told U := by
  refine List.ext_getElem (by rw [St.told_len, St.told_len, hl]) fun i h1 h2 => ?_
  rw [St.told_len] at h1
  have := h i h1
  simpa [told, List.getD, h1, hl ▸ h1] using this

set_option maxHeartbeats 8000000 in
theorem sameS_any (a a' : Option Addr) (b off cap b' off' cap' : Nat) (T U : List Nm) (w : World) (h : St.Rd w a b off T) (h' : St.Rd w a' b' off' U) :
    Calls Tryz.prog 15 #[.agg #[.slice a T.length cap], .agg #[.slice a' U.length cap']] w fun e w' => e = .returned (.bool (sameSt (told T) (told U))) ∧ Below w.heap.size w w' := by
  obtain ⟨W1, hW1⟩ : ∃ W1, W1 = (w.alloc (.cells #[.slice a T.length cap] 25)).alloc (.cells #[.slice a' U.length cap'] 25) := ⟨_, rfl⟩
  have B1 : Below w.heap.size w W1 := by subst hW1; exact below_alloc2 _ _ _
  have k0 : W1.heap[w.heap.size]? = some (.cells #[.slice a T.length cap] 25 (0, 0)) := by subst hW1; rw [at_old (by simp), at_new rfl]
  have k1 : W1.heap[w.heap.size + 1]? = some (.cells #[.slice a' U.length cap'] 25 (0, 0)) := by subst hW1; exact at_new (by simp)
  have r0 := h.below B1
  have r1 := h'.below B1
  clear h h'
  have hA := fun W h => St.okS_any a b off cap T W h
  have hB := fun W h => St.okS_any a' b' off' cap' U W h
  unfold sameSt
  cases hT : storeB (told T) with
  | false =>
    rw [hT] at hA
    clear hT
    go_enter Tryz.func15, Tryz.ntmps15
    go_wp2_with (go_at_call 50; rw [← hW1]; clear hW1; refine (hA _ r0).mono ?_; rintro e w1 ⟨rfl, hb⟩; replace B1 := Rw.next B1 hb)
    go_ret
    exact ⟨ret_bool (by simp), B1⟩
  | true =>
  rw [hT] at hA
  cases hU : storeB (told U) with
  | false =>
    rw [hU] at hB
    clear hT hU
    have t1 : True := trivial
    go_enter Tryz.func15, Tryz.ntmps15
    go_wp2_with (first
      | (go_at_call 50; clear t1; rw [← hW1]; clear hW1; refine (hA _ r0).mono ?_; rintro e w1 ⟨rfl, hb⟩; replace B1 := Rw.next B1 hb; replace k1 := (hb.block _ (blk_lt k1)).trans k1; replace r1 := r1.below hb; clear hb; have q0 := one k1; have t2 : True := trivial)
      | (go_at_call 50; clear t2; refine (hB _ r1).mono ?_; rintro e w1 ⟨rfl, hb⟩; replace B1 := Rw.next B1 hb))
    go_ret
    exact ⟨ret_bool (by simp), B1⟩
  | true =>
  rw [hU] at hB
  have HT : Hid (storeB (told T) = true) := hT
  clear hT hU
  by_cases hne : T.length = U.length
  · obtain ⟨R, hR⟩ : ∃ R, R = decide (told T = told U) := ⟨_, rfl⟩
    have HG : Hid ((∀ i, i < T.length → (T.getD i nm0).l = (U.getD i nm0).l) → R = true) := fun h => by rw [hR]; exact decide_eq_true (told_ext hne h)
    have HB : Hid (∀ i, i < T.length → (T.getD i nm0).l ≠ (U.getD i nm0).l → R = false) := fun i hi h => by
      rw [hR]
      exact decide_eq_false fun e => h (by rw [← St.told_at hi, ← St.told_at (by omega), e])
    have HO : Hid (∀ i, i < T.length → RelP (T.getD i nm0).ar (said (T.getD i nm0).Q)) := fun i hi => (store_one HT.out (mem_told (St.mem_at hi))).2
    rw [← hR]
    clear hR HT
    rw [← hne] at k1 hW1 hB ⊢
    obtain ⟨hh, hc, ho, hs, hst⟩ := id r0
    obtain ⟨hh', hc', ho', hs', hst'⟩ := id r1
    rw [← hne] at hh' hc' ho' hs' hst'
    obtain ⟨n, hn⟩ : ∃ n, n = T.length := ⟨_, rfl⟩
    rw [← hn] at hh hc ho hs hst hh' hc' ho' hs' hst' HG HB HO k0 k1 hW1 hA hB ⊢
    have hq : ((n : Int) != (n : Int)) = false := by simp
    have bel : Below W1.heap.size W1 W1 := Below.refl _ _
    clear hn hne
    have t1 : True := trivial
    go_enter Tryz.func15, Tryz.ntmps15
    go_wp2_with (first
      | (go_at_call 50; clear t1; rw [← hW1]; clear hW1; refine (hA _ r0).mono ?_; rintro e w1 ⟨rfl, hb⟩; replace bel := Rw.next bel hb; replace k0 := (hb.block _ (blk_lt k0)).trans k0; replace k1 := (hb.block _ (blk_lt k1)).trans k1; replace r1 := r1.below hb; clear hb; have q0 := one k1; have t2 : True := trivial)
      | (go_at_call 50; clear t2 q0; refine (hB _ r1).mono ?_; rintro e w2 ⟨rfl, hb⟩; replace bel := Rw.next bel hb; replace k0 := (hb.block _ (blk_lt k0)).trans k0; replace k1 := (hb.block _ (blk_lt k1)).trans k1; clear hb; have p0 := one k0; have q0 := one k1))
    clear p0 q0
    go_loopw [26] (fun i wr => ∃ k : Nat, k ≤ n ∧ i = .int .i64 k ∧ Below W1.heap.size W1 wr ∧ wr.heap[w.heap.size]? = some (.cells #[.slice a n cap] 25 (0, 0)) ∧ wr.heap[w.heap.size + 1]? = some (.cells #[.slice a' n cap'] 25 (0, 0)) ∧ ∀ i, i < k → (T.getD i nm0).l = (U.getD i nm0).l) (fun i _ => n - (intOf i).toNat)
    case atStart => exact ⟨0, Nat.zero_le _, rfl, bel, k0, k1, fun i hi => by omega⟩
    case round =>
      clear bel k0 k1
      obtain ⟨k, hk, rfl, hbel, k0, k1, hpre⟩ := hrel
      have HP : Hid (∀ i, i < k → (T.getD i nm0).l = (U.getD i nm0).l) := hpre
      clear hpre
      by_cases hlt : k < n
      · obtain rfl := hh (by omega)
        obtain rfl := hh' (by omega)
        have hkz : (k : Int) < (n : Int) := by omega
        obtain ⟨A0, A1, A2⟩ := St.At3.of (hc k hlt) hbel (hc k hlt).lt
        obtain ⟨E0, E1, E2⟩ := St.At3.of (hc' k hlt) hbel (hc' k hlt).lt
        have o0 := Rl.Rd.below (ho k hlt) hbel
        have o1 := Rl.Rd.below (ho' k hlt) hbel
        have HO1 := HO.out k hlt
        have HB1 : Hid ((T.getD k nm0).l ≠ (U.getD k nm0).l → R = false) := HB.out k hlt
        have HX : Hid ((T.getD k nm0).l = (U.getD k nm0).l → ∀ i, i < k + 1 → (T.getD i nm0).l = (U.getD i nm0).l) := fun h i hi => by
          by_cases e : i = k
          · subst e; exact h
          · exact HP.out i (by omega)
        clear hc hc' ho ho' hh hh' hst hst' HB HO HP hq hA hB
        generalize T.getD k nm0 = x at A0 A1 A2 o0 HO1 HB1 HX
        generalize U.getD k nm0 = y at E0 E1 E2 o1 HB1 HX
        obtain ⟨xs, xr, xa, xb, xo, xc, xQ⟩ := x
        obtain ⟨ys, yr, ya, yb, yo, yc, yQ⟩ := y
        simp only [Nm.l] at A0 A1 A2 E0 E1 E2 o0 o1 HO1 HB1 HX
        have hH : Hold8 w.heap.size b (off + k * 3) b' (off' + k * 3) (.slice (some ⟨b, off, none⟩) n cap) (.slice (some ⟨b', off', none⟩) n cap') xs xr (.slice xa xQ.length xc) ys yr (.slice ya yQ.length yc) wr := ⟨one k0, one k1, A0, A1, A2, E0, E1, E2⟩
        have hR := fun W h h' => Rl.sameS_any xr yr xa ya xb xo xc yb yo yc xQ yQ W h h'
        have hkeep0 : ∀ {W : World}, Hold8 w.heap.size b (off + k * 3) b' (off' + k * 3) (.slice (some ⟨b, off, none⟩) n cap) (.slice (some ⟨b', off', none⟩) n cap') xs xr (.slice xa xQ.length xc) ys yr (.slice ya yQ.length yc) W → True := fun _ => trivial
        have l0 := blk_lt k0
        have l1 := blk_lt k1
        have hbk : Below wr.heap.size wr wr := Below.refl _ _
        clear A0 A1 A2 E0 E1 E2 hkeep0
        by_cases hxy : xs = ys
        · subst hxy
          have hss : (xs.toList == xs.toList) = true := by simp
          generalize hsb : Rl.sameB xr (said xQ) yr (said yQ) = SB at hR
          cases SB with
          | true =>
            obtain ⟨e3, e4⟩ := sameB_eq hsb
            have HQ : Hid (∀ i, i < k + 1 → (T.getD i nm0).l = (U.getD i nm0).l) := HX.out (by rw [e3, e4])
            clear HX HB1 hsb e3 e4
            go_wp2
            refine wp_region_held_drew (S := Hold8 w.heap.size b (off + k * 3) b' (off' + k * 3) (.slice (some ⟨b, off, none⟩) n cap) (.slice (some ⟨b', off', none⟩) n cap') xs xr (.slice xa xQ.length xc) xs yr (.slice ya yQ.length yc)) (by kernel_rfl) hH (fun hHeld => ?_)
            replace hbk := Rw.next hbk ((Below.refl _ _).drew)
            replace hbel := Rw.next hbel ((Below.refl _ _).drew)
            replace o0 := o0.below ((Below.refl _ _).drew)
            replace o1 := o1.below ((Below.refl _ _).drew)
            refine Hn.take (i := 0) (d := some 29) (v := .pointer (some ⟨w.heap.size, 0, none⟩)) rfl (by kernel_rfl) (by kernel_rfl) (by kernel_rfl) (by kernel_rfl) (fun _ _ _ h => h) (Or.inl ⟨by rfl, by intro w hSw; go_simp⟩) hHeld ?_
            simp only [Act.put, List.setIfInBounds_toArray, List.set_cons_zero, List.set_cons_succ]
            refine Hn.take (i := 1) (d := some 30) (v := .slice (some ⟨b, off, none⟩) n cap) rfl (by kernel_rfl) (by kernel_rfl) (by kernel_rfl) (by kernel_rfl) (fun _ _ _ h => h) (Or.inl ⟨by rfl, by intro w hSw; obtain ⟨c0, c1, c2, c3, c4, c5, c6, c7⟩ := hSw; go_simp⟩) hHeld ?_
            simp only [Act.put, List.setIfInBounds_toArray, List.set_cons_zero, List.set_cons_succ]
            refine Hn.take (i := 2) (d := some 31) (v := .int .i64 k) rfl (by kernel_rfl) (by kernel_rfl) (by kernel_rfl) (by kernel_rfl) (fun _ _ _ h => h) (Or.inl ⟨by rfl, by intro w hSw; go_simp⟩) hHeld ?_
            simp only [Act.put, List.setIfInBounds_toArray, List.set_cons_zero, List.set_cons_succ]
            refine Hn.take (i := 3) (d := some 32) (v := .pointer (some ⟨b, off + k * 3, none⟩)) rfl (by kernel_rfl) (by kernel_rfl) (by kernel_rfl) (by kernel_rfl) (fun _ _ _ h => h) (Or.inl ⟨by rfl, by intro w hSw; go_simp⟩) hHeld ?_
            simp only [Act.put, List.setIfInBounds_toArray, List.set_cons_zero, List.set_cons_succ]
            refine Hn.take (i := 4) (d := some 33) (v := .pointer (some ⟨b, off + k * 3, none⟩)) rfl (by kernel_rfl) (by kernel_rfl) (by kernel_rfl) (by kernel_rfl) (fun _ _ _ h => h) (Or.inl ⟨by rfl, by intro w hSw; go_simp⟩) hHeld ?_
            simp only [Act.put, List.setIfInBounds_toArray, List.set_cons_zero, List.set_cons_succ]
            refine Hn.take (i := 5) (d := some 34) (v := .string xs) rfl (by kernel_rfl) (by kernel_rfl) (by kernel_rfl) (by kernel_rfl) (fun _ _ _ h => h) (Or.inl ⟨by rfl, by intro w hSw; obtain ⟨c0, c1, c2, c3, c4, c5, c6, c7⟩ := hSw; go_simp⟩) hHeld ?_
            simp only [Act.put, List.setIfInBounds_toArray, List.set_cons_zero, List.set_cons_succ]
            refine Hn.take (i := 6) (d := some 35) (v := .pointer (some ⟨w.heap.size + 1, 0, none⟩)) rfl (by kernel_rfl) (by kernel_rfl) (by kernel_rfl) (by kernel_rfl) (fun _ _ _ h => h) (Or.inl ⟨by rfl, by intro w hSw; go_simp⟩) hHeld ?_
            simp only [Act.put, List.setIfInBounds_toArray, List.set_cons_zero, List.set_cons_succ]
            refine Hn.take (i := 7) (d := some 36) (v := .slice (some ⟨b', off', none⟩) n cap') rfl (by kernel_rfl) (by kernel_rfl) (by kernel_rfl) (by kernel_rfl) (fun _ _ _ h => h) (Or.inl ⟨by rfl, by intro w hSw; obtain ⟨c0, c1, c2, c3, c4, c5, c6, c7⟩ := hSw; go_simp⟩) hHeld ?_
            simp only [Act.put, List.setIfInBounds_toArray, List.set_cons_zero, List.set_cons_succ]
            refine Hn.take (i := 8) (d := some 37) (v := .int .i64 k) rfl (by kernel_rfl) (by kernel_rfl) (by kernel_rfl) (by kernel_rfl) (fun _ _ _ h => h) (Or.inl ⟨by rfl, by intro w hSw; go_simp⟩) hHeld ?_
            simp only [Act.put, List.setIfInBounds_toArray, List.set_cons_zero, List.set_cons_succ]
            refine Hn.take (i := 9) (d := some 38) (v := .pointer (some ⟨b', off' + k * 3, none⟩)) rfl (by kernel_rfl) (by kernel_rfl) (by kernel_rfl) (by kernel_rfl) (fun _ _ _ h => h) (Or.inl ⟨by rfl, by intro w hSw; go_simp⟩) hHeld ?_
            simp only [Act.put, List.setIfInBounds_toArray, List.set_cons_zero, List.set_cons_succ]
            refine Hn.take (i := 10) (d := some 39) (v := .pointer (some ⟨b', off' + k * 3, none⟩)) rfl (by kernel_rfl) (by kernel_rfl) (by kernel_rfl) (by kernel_rfl) (fun _ _ _ h => h) (Or.inl ⟨by rfl, by intro w hSw; go_simp⟩) hHeld ?_
            simp only [Act.put, List.setIfInBounds_toArray, List.set_cons_zero, List.set_cons_succ]
            refine Hn.take (i := 11) (d := some 40) (v := .string xs) rfl (by kernel_rfl) (by kernel_rfl) (by kernel_rfl) (by kernel_rfl) (fun _ _ _ h => h) (Or.inl ⟨by rfl, by intro w hSw; obtain ⟨c0, c1, c2, c3, c4, c5, c6, c7⟩ := hSw; go_simp⟩) hHeld ?_
            simp only [Act.put, List.setIfInBounds_toArray, List.set_cons_zero, List.set_cons_succ]
            refine Hn.take (i := 12) (d := some 41) (v := .bool false) rfl (by kernel_rfl) (by kernel_rfl) (by kernel_rfl) (by kernel_rfl) (fun _ _ _ h => h) (Or.inl ⟨by rfl, by intro w hSw; go_simp⟩) hHeld ?_
            simp only [Act.put, List.setIfInBounds_toArray, List.set_cons_zero, List.set_cons_succ]
            refine Hn.take (i := 13) (d := some 42) (v := .bool false) rfl (by kernel_rfl) (by kernel_rfl) (by kernel_rfl) (by kernel_rfl) (fun _ _ _ h => h) (Or.inl ⟨by rfl, by intro w hSw; go_simp⟩) hHeld ?_
            simp only [Act.put, List.setIfInBounds_toArray, List.set_cons_zero, List.set_cons_succ]
            refine Hn.take (i := 14) (d := some 43) (v := .pointer (some ⟨w.heap.size, 0, none⟩)) rfl (by kernel_rfl) (by kernel_rfl) (by kernel_rfl) (by kernel_rfl) (fun _ _ _ h => h) (Or.inl ⟨by rfl, by intro w hSw; go_simp⟩) hHeld ?_
            simp only [Act.put, List.setIfInBounds_toArray, List.set_cons_zero, List.set_cons_succ]
            refine Hn.take (i := 15) (d := some 44) (v := .slice (some ⟨b, off, none⟩) n cap) rfl (by kernel_rfl) (by kernel_rfl) (by kernel_rfl) (by kernel_rfl) (fun _ _ _ h => h) (Or.inl ⟨by rfl, by intro w hSw; obtain ⟨c0, c1, c2, c3, c4, c5, c6, c7⟩ := hSw; go_simp⟩) hHeld ?_
            simp only [Act.put, List.setIfInBounds_toArray, List.set_cons_zero, List.set_cons_succ]
            refine Hn.take (i := 16) (d := some 45) (v := .int .i64 k) rfl (by kernel_rfl) (by kernel_rfl) (by kernel_rfl) (by kernel_rfl) (fun _ _ _ h => h) (Or.inl ⟨by rfl, by intro w hSw; go_simp⟩) hHeld ?_
            simp only [Act.put, List.setIfInBounds_toArray, List.set_cons_zero, List.set_cons_succ]
            refine Hn.take (i := 17) (d := some 46) (v := .pointer (some ⟨b, off + k * 3, none⟩)) rfl (by kernel_rfl) (by kernel_rfl) (by kernel_rfl) (by kernel_rfl) (fun _ _ _ h => h) (Or.inl ⟨by rfl, by intro w hSw; go_simp⟩) hHeld ?_
            simp only [Act.put, List.setIfInBounds_toArray, List.set_cons_zero, List.set_cons_succ]
            refine Hn.take (i := 18) (d := some 47) (v := .pointer (some ⟨b, off + k * 3 + 1, none⟩)) rfl (by kernel_rfl) (by kernel_rfl) (by kernel_rfl) (by kernel_rfl) (fun _ _ _ h => h) (Or.inl ⟨by rfl, by intro w hSw; go_simp⟩) hHeld ?_
            simp only [Act.put, List.setIfInBounds_toArray, List.set_cons_zero, List.set_cons_succ]
            refine Hn.take (i := 19) (d := some 48) (v := .agg #[.int .i64 xr, .slice xa xQ.length xc]) rfl (by kernel_rfl) (by kernel_rfl) (by kernel_rfl) (by kernel_rfl) (fun _ _ _ h => h) (Or.inl ⟨by rfl, by intro w hSw; obtain ⟨c0, c1, c2, c3, c4, c5, c6, c7⟩ := hSw; go_simp⟩) hHeld ?_
            simp only [Act.put, List.setIfInBounds_toArray, List.set_cons_zero, List.set_cons_succ]
            refine Hn.take (i := 20) (d := some 49) (v := .pointer (some ⟨w.heap.size + 1, 0, none⟩)) rfl (by kernel_rfl) (by kernel_rfl) (by kernel_rfl) (by kernel_rfl) (fun _ _ _ h => h) (Or.inl ⟨by rfl, by intro w hSw; go_simp⟩) hHeld ?_
            simp only [Act.put, List.setIfInBounds_toArray, List.set_cons_zero, List.set_cons_succ]
            refine Hn.take (i := 21) (d := some 50) (v := .slice (some ⟨b', off', none⟩) n cap') rfl (by kernel_rfl) (by kernel_rfl) (by kernel_rfl) (by kernel_rfl) (fun _ _ _ h => h) (Or.inl ⟨by rfl, by intro w hSw; obtain ⟨c0, c1, c2, c3, c4, c5, c6, c7⟩ := hSw; go_simp⟩) hHeld ?_
            simp only [Act.put, List.setIfInBounds_toArray, List.set_cons_zero, List.set_cons_succ]
            refine Hn.take (i := 22) (d := some 51) (v := .int .i64 k) rfl (by kernel_rfl) (by kernel_rfl) (by kernel_rfl) (by kernel_rfl) (fun _ _ _ h => h) (Or.inl ⟨by rfl, by intro w hSw; go_simp⟩) hHeld ?_
            simp only [Act.put, List.setIfInBounds_toArray, List.set_cons_zero, List.set_cons_succ]
            refine Hn.take (i := 23) (d := some 52) (v := .pointer (some ⟨b', off' + k * 3, none⟩)) rfl (by kernel_rfl) (by kernel_rfl) (by kernel_rfl) (by kernel_rfl) (fun _ _ _ h => h) (Or.inl ⟨by rfl, by intro w hSw; go_simp⟩) hHeld ?_
            simp only [Act.put, List.setIfInBounds_toArray, List.set_cons_zero, List.set_cons_succ]
            refine Hn.take (i := 24) (d := some 53) (v := .pointer (some ⟨b', off' + k * 3 + 1, none⟩)) rfl (by kernel_rfl) (by kernel_rfl) (by kernel_rfl) (by kernel_rfl) (fun _ _ _ h => h) (Or.inl ⟨by rfl, by intro w hSw; go_simp⟩) hHeld ?_
            simp only [Act.put, List.setIfInBounds_toArray, List.set_cons_zero, List.set_cons_succ]
            refine Hn.take (i := 25) (d := some 54) (v := .agg #[.int .i64 yr, .slice ya yQ.length yc]) rfl (by kernel_rfl) (by kernel_rfl) (by kernel_rfl) (by kernel_rfl) (fun _ _ _ h => h) (Or.inl ⟨by rfl, by intro w hSw; obtain ⟨c0, c1, c2, c3, c4, c5, c6, c7⟩ := hSw; go_simp⟩) hHeld ?_
            simp only [Act.put, List.setIfInBounds_toArray, List.set_cons_zero, List.set_cons_succ]
            refine wpAnyH_ready (rs := [26]) (by kernel_rfl) (by simp) (Hn.call2 (i := 26) rfl (by rfl) 41 (.tmp 48) (.tmp 54) 46 46 (by kernel_rfl) 55 (by kernel_rfl) (.agg #[.int .i64 xr, .slice xa xQ.length xc]) (.agg #[.int .i64 yr, .slice ya yQ.length yc]) (by kernel_rfl) (by kernel_rfl) (fun _ => rfl) (hR _ o0 o1) ?_ AllReadyH.nil)
            rintro e w1 ⟨rfl, hb⟩
            refine ⟨_, rfl, hHeld.below hb, fun hHeld => ?_⟩
            replace hbk := Rw.next hbk hb
            replace hbel := Rw.next hbel hb
            clear hb
            simp only [Act.put, List.setIfInBounds_toArray, List.set_cons_zero, List.set_cons_succ]
            refine Hn.take (i := 27) (d := some 56) (v := .bool false) rfl (by kernel_rfl) (by kernel_rfl) (by kernel_rfl) (by kernel_rfl) (fun _ _ _ h => h) (Or.inl ⟨by rfl, by intro w hSw; go_simp⟩) hHeld ?_
            simp only [Act.put, List.setIfInBounds_toArray, List.set_cons_zero, List.set_cons_succ]
            refine Hn.take (i := 28) (d := some 57) (v := .bool false) rfl (by kernel_rfl) (by kernel_rfl) (by kernel_rfl) (by kernel_rfl) (fun _ _ _ h => h) (Or.inl ⟨by rfl, by intro w hSw; go_simp⟩) hHeld ?_
            simp only [Act.put, List.setIfInBounds_toArray, List.set_cons_zero, List.set_cons_succ]
            refine wpAnyH_done (by kernel_rfl) ?_ _
            go_wp2
            go_roundw
            case rel => exact ⟨k + 1, by omega, by go_num, hbel, (hbk.block _ l0).trans k0, (hbk.block _ l1).trans k1, HQ.out⟩
            case measure => simp [intOf]; omega
          | false =>
            have HQ : Hid (R = false) := HB1.out fun e => by
              simp only [Prod.mk.injEq, true_and] at e
              rw [← e.1, ← e.2, sameB_self HO1] at hsb; cases hsb
            clear HX HB1 hsb
            go_wp2
            refine wp_region_held_drew (S := Hold8 w.heap.size b (off + k * 3) b' (off' + k * 3) (.slice (some ⟨b, off, none⟩) n cap) (.slice (some ⟨b', off', none⟩) n cap') xs xr (.slice xa xQ.length xc) xs yr (.slice ya yQ.length yc)) (by kernel_rfl) hH (fun hHeld => ?_)
            replace hbk := Rw.next hbk ((Below.refl _ _).drew)
            replace hbel := Rw.next hbel ((Below.refl _ _).drew)
            replace o0 := o0.below ((Below.refl _ _).drew)
            replace o1 := o1.below ((Below.refl _ _).drew)
            refine Hn.take (i := 0) (d := some 29) (v := .pointer (some ⟨w.heap.size, 0, none⟩)) rfl (by kernel_rfl) (by kernel_rfl) (by kernel_rfl) (by kernel_rfl) (fun _ _ _ h => h) (Or.inl ⟨by rfl, by intro w hSw; go_simp⟩) hHeld ?_
            simp only [Act.put, List.setIfInBounds_toArray, List.set_cons_zero, List.set_cons_succ]
            refine Hn.take (i := 1) (d := some 30) (v := .slice (some ⟨b, off, none⟩) n cap) rfl (by kernel_rfl) (by kernel_rfl) (by kernel_rfl) (by kernel_rfl) (fun _ _ _ h => h) (Or.inl ⟨by rfl, by intro w hSw; obtain ⟨c0, c1, c2, c3, c4, c5, c6, c7⟩ := hSw; go_simp⟩) hHeld ?_
            simp only [Act.put, List.setIfInBounds_toArray, List.set_cons_zero, List.set_cons_succ]
            refine Hn.take (i := 2) (d := some 31) (v := .int .i64 k) rfl (by kernel_rfl) (by kernel_rfl) (by kernel_rfl) (by kernel_rfl) (fun _ _ _ h => h) (Or.inl ⟨by rfl, by intro w hSw; go_simp⟩) hHeld ?_
            simp only [Act.put, List.setIfInBounds_toArray, List.set_cons_zero, List.set_cons_succ]
            refine Hn.take (i := 3) (d := some 32) (v := .pointer (some ⟨b, off + k * 3, none⟩)) rfl (by kernel_rfl) (by kernel_rfl) (by kernel_rfl) (by kernel_rfl) (fun _ _ _ h => h) (Or.inl ⟨by rfl, by intro w hSw; go_simp⟩) hHeld ?_
            simp only [Act.put, List.setIfInBounds_toArray, List.set_cons_zero, List.set_cons_succ]
            refine Hn.take (i := 4) (d := some 33) (v := .pointer (some ⟨b, off + k * 3, none⟩)) rfl (by kernel_rfl) (by kernel_rfl) (by kernel_rfl) (by kernel_rfl) (fun _ _ _ h => h) (Or.inl ⟨by rfl, by intro w hSw; go_simp⟩) hHeld ?_
            simp only [Act.put, List.setIfInBounds_toArray, List.set_cons_zero, List.set_cons_succ]
            refine Hn.take (i := 5) (d := some 34) (v := .string xs) rfl (by kernel_rfl) (by kernel_rfl) (by kernel_rfl) (by kernel_rfl) (fun _ _ _ h => h) (Or.inl ⟨by rfl, by intro w hSw; obtain ⟨c0, c1, c2, c3, c4, c5, c6, c7⟩ := hSw; go_simp⟩) hHeld ?_
            simp only [Act.put, List.setIfInBounds_toArray, List.set_cons_zero, List.set_cons_succ]
            refine Hn.take (i := 6) (d := some 35) (v := .pointer (some ⟨w.heap.size + 1, 0, none⟩)) rfl (by kernel_rfl) (by kernel_rfl) (by kernel_rfl) (by kernel_rfl) (fun _ _ _ h => h) (Or.inl ⟨by rfl, by intro w hSw; go_simp⟩) hHeld ?_
            simp only [Act.put, List.setIfInBounds_toArray, List.set_cons_zero, List.set_cons_succ]
            refine Hn.take (i := 7) (d := some 36) (v := .slice (some ⟨b', off', none⟩) n cap') rfl (by kernel_rfl) (by kernel_rfl) (by kernel_rfl) (by kernel_rfl) (fun _ _ _ h => h) (Or.inl ⟨by rfl, by intro w hSw; obtain ⟨c0, c1, c2, c3, c4, c5, c6, c7⟩ := hSw; go_simp⟩) hHeld ?_
            simp only [Act.put, List.setIfInBounds_toArray, List.set_cons_zero, List.set_cons_succ]
            refine Hn.take (i := 8) (d := some 37) (v := .int .i64 k) rfl (by kernel_rfl) (by kernel_rfl) (by kernel_rfl) (by kernel_rfl) (fun _ _ _ h => h) (Or.inl ⟨by rfl, by intro w hSw; go_simp⟩) hHeld ?_
            simp only [Act.put, List.setIfInBounds_toArray, List.set_cons_zero, List.set_cons_succ]
            refine Hn.take (i := 9) (d := some 38) (v := .pointer (some ⟨b', off' + k * 3, none⟩)) rfl (by kernel_rfl) (by kernel_rfl) (by kernel_rfl) (by kernel_rfl) (fun _ _ _ h => h) (Or.inl ⟨by rfl, by intro w hSw; go_simp⟩) hHeld ?_
            simp only [Act.put, List.setIfInBounds_toArray, List.set_cons_zero, List.set_cons_succ]
            refine Hn.take (i := 10) (d := some 39) (v := .pointer (some ⟨b', off' + k * 3, none⟩)) rfl (by kernel_rfl) (by kernel_rfl) (by kernel_rfl) (by kernel_rfl) (fun _ _ _ h => h) (Or.inl ⟨by rfl, by intro w hSw; go_simp⟩) hHeld ?_
            simp only [Act.put, List.setIfInBounds_toArray, List.set_cons_zero, List.set_cons_succ]
            refine Hn.take (i := 11) (d := some 40) (v := .string xs) rfl (by kernel_rfl) (by kernel_rfl) (by kernel_rfl) (by kernel_rfl) (fun _ _ _ h => h) (Or.inl ⟨by rfl, by intro w hSw; obtain ⟨c0, c1, c2, c3, c4, c5, c6, c7⟩ := hSw; go_simp⟩) hHeld ?_
            simp only [Act.put, List.setIfInBounds_toArray, List.set_cons_zero, List.set_cons_succ]
            refine Hn.take (i := 12) (d := some 41) (v := .bool false) rfl (by kernel_rfl) (by kernel_rfl) (by kernel_rfl) (by kernel_rfl) (fun _ _ _ h => h) (Or.inl ⟨by rfl, by intro w hSw; go_simp⟩) hHeld ?_
            simp only [Act.put, List.setIfInBounds_toArray, List.set_cons_zero, List.set_cons_succ]
            refine Hn.take (i := 13) (d := some 42) (v := .bool false) rfl (by kernel_rfl) (by kernel_rfl) (by kernel_rfl) (by kernel_rfl) (fun _ _ _ h => h) (Or.inl ⟨by rfl, by intro w hSw; go_simp⟩) hHeld ?_
            simp only [Act.put, List.setIfInBounds_toArray, List.set_cons_zero, List.set_cons_succ]
            refine Hn.take (i := 14) (d := some 43) (v := .pointer (some ⟨w.heap.size, 0, none⟩)) rfl (by kernel_rfl) (by kernel_rfl) (by kernel_rfl) (by kernel_rfl) (fun _ _ _ h => h) (Or.inl ⟨by rfl, by intro w hSw; go_simp⟩) hHeld ?_
            simp only [Act.put, List.setIfInBounds_toArray, List.set_cons_zero, List.set_cons_succ]
            refine Hn.take (i := 15) (d := some 44) (v := .slice (some ⟨b, off, none⟩) n cap) rfl (by kernel_rfl) (by kernel_rfl) (by kernel_rfl) (by kernel_rfl) (fun _ _ _ h => h) (Or.inl ⟨by rfl, by intro w hSw; obtain ⟨c0, c1, c2, c3, c4, c5, c6, c7⟩ := hSw; go_simp⟩) hHeld ?_
            simp only [Act.put, List.setIfInBounds_toArray, List.set_cons_zero, List.set_cons_succ]
            refine Hn.take (i := 16) (d := some 45) (v := .int .i64 k) rfl (by kernel_rfl) (by kernel_rfl) (by kernel_rfl) (by kernel_rfl) (fun _ _ _ h => h) (Or.inl ⟨by rfl, by intro w hSw; go_simp⟩) hHeld ?_
            simp only [Act.put, List.setIfInBounds_toArray, List.set_cons_zero, List.set_cons_succ]
            refine Hn.take (i := 17) (d := some 46) (v := .pointer (some ⟨b, off + k * 3, none⟩)) rfl (by kernel_rfl) (by kernel_rfl) (by kernel_rfl) (by kernel_rfl) (fun _ _ _ h => h) (Or.inl ⟨by rfl, by intro w hSw; go_simp⟩) hHeld ?_
            simp only [Act.put, List.setIfInBounds_toArray, List.set_cons_zero, List.set_cons_succ]
            refine Hn.take (i := 18) (d := some 47) (v := .pointer (some ⟨b, off + k * 3 + 1, none⟩)) rfl (by kernel_rfl) (by kernel_rfl) (by kernel_rfl) (by kernel_rfl) (fun _ _ _ h => h) (Or.inl ⟨by rfl, by intro w hSw; go_simp⟩) hHeld ?_
            simp only [Act.put, List.setIfInBounds_toArray, List.set_cons_zero, List.set_cons_succ]
            refine Hn.take (i := 19) (d := some 48) (v := .agg #[.int .i64 xr, .slice xa xQ.length xc]) rfl (by kernel_rfl) (by kernel_rfl) (by kernel_rfl) (by kernel_rfl) (fun _ _ _ h => h) (Or.inl ⟨by rfl, by intro w hSw; obtain ⟨c0, c1, c2, c3, c4, c5, c6, c7⟩ := hSw; go_simp⟩) hHeld ?_
            simp only [Act.put, List.setIfInBounds_toArray, List.set_cons_zero, List.set_cons_succ]
            refine Hn.take (i := 20) (d := some 49) (v := .pointer (some ⟨w.heap.size + 1, 0, none⟩)) rfl (by kernel_rfl) (by kernel_rfl) (by kernel_rfl) (by kernel_rfl) (fun _ _ _ h => h) (Or.inl ⟨by rfl, by intro w hSw; go_simp⟩) hHeld ?_
            simp only [Act.put, List.setIfInBounds_toArray, List.set_cons_zero, List.set_cons_succ]
            refine Hn.take (i := 21) (d := some 50) (v := .slice (some ⟨b', off', none⟩) n cap') rfl (by kernel_rfl) (by kernel_rfl) (by kernel_rfl) (by kernel_rfl) (fun _ _ _ h => h) (Or.inl ⟨by rfl, by intro w hSw; obtain ⟨c0, c1, c2, c3, c4, c5, c6, c7⟩ := hSw; go_simp⟩) hHeld ?_
            simp only [Act.put, List.setIfInBounds_toArray, List.set_cons_zero, List.set_cons_succ]
            refine Hn.take (i := 22) (d := some 51) (v := .int .i64 k) rfl (by kernel_rfl) (by kernel_rfl) (by kernel_rfl) (by kernel_rfl) (fun _ _ _ h => h) (Or.inl ⟨by rfl, by intro w hSw; go_simp⟩) hHeld ?_
            simp only [Act.put, List.setIfInBounds_toArray, List.set_cons_zero, List.set_cons_succ]
            refine Hn.take (i := 23) (d := some 52) (v := .pointer (some ⟨b', off' + k * 3, none⟩)) rfl (by kernel_rfl) (by kernel_rfl) (by kernel_rfl) (by kernel_rfl) (fun _ _ _ h => h) (Or.inl ⟨by rfl, by intro w hSw; go_simp⟩) hHeld ?_
            simp only [Act.put, List.setIfInBounds_toArray, List.set_cons_zero, List.set_cons_succ]
            refine Hn.take (i := 24) (d := some 53) (v := .pointer (some ⟨b', off' + k * 3 + 1, none⟩)) rfl (by kernel_rfl) (by kernel_rfl) (by kernel_rfl) (by kernel_rfl) (fun _ _ _ h => h) (Or.inl ⟨by rfl, by intro w hSw; go_simp⟩) hHeld ?_
            simp only [Act.put, List.setIfInBounds_toArray, List.set_cons_zero, List.set_cons_succ]
            refine Hn.take (i := 25) (d := some 54) (v := .agg #[.int .i64 yr, .slice ya yQ.length yc]) rfl (by kernel_rfl) (by kernel_rfl) (by kernel_rfl) (by kernel_rfl) (fun _ _ _ h => h) (Or.inl ⟨by rfl, by intro w hSw; obtain ⟨c0, c1, c2, c3, c4, c5, c6, c7⟩ := hSw; go_simp⟩) hHeld ?_
            simp only [Act.put, List.setIfInBounds_toArray, List.set_cons_zero, List.set_cons_succ]
            refine wpAnyH_ready (rs := [26]) (by kernel_rfl) (by simp) (Hn.call2 (i := 26) rfl (by rfl) 41 (.tmp 48) (.tmp 54) 46 46 (by kernel_rfl) 55 (by kernel_rfl) (.agg #[.int .i64 xr, .slice xa xQ.length xc]) (.agg #[.int .i64 yr, .slice ya yQ.length yc]) (by kernel_rfl) (by kernel_rfl) (fun _ => rfl) (hR _ o0 o1) ?_ AllReadyH.nil)
            rintro e w1 ⟨rfl, hb⟩
            refine ⟨_, rfl, hHeld.below hb, fun hHeld => ?_⟩
            replace hbk := Rw.next hbk hb
            replace hbel := Rw.next hbel hb
            clear hb
            simp only [Act.put, List.setIfInBounds_toArray, List.set_cons_zero, List.set_cons_succ]
            refine Hn.take (i := 27) (d := some 56) (v := .bool true) rfl (by kernel_rfl) (by kernel_rfl) (by kernel_rfl) (by kernel_rfl) (fun _ _ _ h => h) (Or.inl ⟨by rfl, by intro w hSw; go_simp⟩) hHeld ?_
            simp only [Act.put, List.setIfInBounds_toArray, List.set_cons_zero, List.set_cons_succ]
            refine Hn.take (i := 28) (d := some 57) (v := .bool true) rfl (by kernel_rfl) (by kernel_rfl) (by kernel_rfl) (by kernel_rfl) (fun _ _ _ h => h) (Or.inl ⟨by rfl, by intro w hSw; go_simp⟩) hHeld ?_
            simp only [Act.put, List.setIfInBounds_toArray, List.set_cons_zero, List.set_cons_succ]
            refine wpAnyH_done (by kernel_rfl) ?_ _
            go_wp2
            go_ret
            exact ⟨ret_bool (by rw [HQ.out]; rfl), Rw.next B1 hbel⟩
        · have HQ : Hid (R = false) := HB1.out fun e => hxy (congrArg Prod.fst e)
          have hss : (xs.toList == ys.toList) = false := by
            rw [beq_eq_false_iff_ne]
            intro e; rw [ByteArray.toList_eq, ByteArray.toList_eq] at e; exact hxy (Go.WideShapes.bytes_inj e)
          clear HX HB1 hxy
          go_wp2
          refine wp_region_held_drew (S := Hold8 w.heap.size b (off + k * 3) b' (off' + k * 3) (.slice (some ⟨b, off, none⟩) n cap) (.slice (some ⟨b', off', none⟩) n cap') xs xr (.slice xa xQ.length xc) ys yr (.slice ya yQ.length yc)) (by kernel_rfl) hH (fun hHeld => ?_)
          replace hbk := Rw.next hbk ((Below.refl _ _).drew)
          replace hbel := Rw.next hbel ((Below.refl _ _).drew)
          replace o0 := o0.below ((Below.refl _ _).drew)
          replace o1 := o1.below ((Below.refl _ _).drew)
          refine Hn.take (i := 0) (d := some 29) (v := .pointer (some ⟨w.heap.size, 0, none⟩)) rfl (by kernel_rfl) (by kernel_rfl) (by kernel_rfl) (by kernel_rfl) (fun _ _ _ h => h) (Or.inl ⟨by rfl, by intro w hSw; go_simp⟩) hHeld ?_
          simp only [Act.put, List.setIfInBounds_toArray, List.set_cons_zero, List.set_cons_succ]
          refine Hn.take (i := 1) (d := some 30) (v := .slice (some ⟨b, off, none⟩) n cap) rfl (by kernel_rfl) (by kernel_rfl) (by kernel_rfl) (by kernel_rfl) (fun _ _ _ h => h) (Or.inl ⟨by rfl, by intro w hSw; obtain ⟨c0, c1, c2, c3, c4, c5, c6, c7⟩ := hSw; go_simp⟩) hHeld ?_
          simp only [Act.put, List.setIfInBounds_toArray, List.set_cons_zero, List.set_cons_succ]
          refine Hn.take (i := 2) (d := some 31) (v := .int .i64 k) rfl (by kernel_rfl) (by kernel_rfl) (by kernel_rfl) (by kernel_rfl) (fun _ _ _ h => h) (Or.inl ⟨by rfl, by intro w hSw; go_simp⟩) hHeld ?_
          simp only [Act.put, List.setIfInBounds_toArray, List.set_cons_zero, List.set_cons_succ]
          refine Hn.take (i := 3) (d := some 32) (v := .pointer (some ⟨b, off + k * 3, none⟩)) rfl (by kernel_rfl) (by kernel_rfl) (by kernel_rfl) (by kernel_rfl) (fun _ _ _ h => h) (Or.inl ⟨by rfl, by intro w hSw; go_simp⟩) hHeld ?_
          simp only [Act.put, List.setIfInBounds_toArray, List.set_cons_zero, List.set_cons_succ]
          refine Hn.take (i := 4) (d := some 33) (v := .pointer (some ⟨b, off + k * 3, none⟩)) rfl (by kernel_rfl) (by kernel_rfl) (by kernel_rfl) (by kernel_rfl) (fun _ _ _ h => h) (Or.inl ⟨by rfl, by intro w hSw; go_simp⟩) hHeld ?_
          simp only [Act.put, List.setIfInBounds_toArray, List.set_cons_zero, List.set_cons_succ]
          refine Hn.take (i := 5) (d := some 34) (v := .string xs) rfl (by kernel_rfl) (by kernel_rfl) (by kernel_rfl) (by kernel_rfl) (fun _ _ _ h => h) (Or.inl ⟨by rfl, by intro w hSw; obtain ⟨c0, c1, c2, c3, c4, c5, c6, c7⟩ := hSw; go_simp⟩) hHeld ?_
          simp only [Act.put, List.setIfInBounds_toArray, List.set_cons_zero, List.set_cons_succ]
          refine Hn.take (i := 6) (d := some 35) (v := .pointer (some ⟨w.heap.size + 1, 0, none⟩)) rfl (by kernel_rfl) (by kernel_rfl) (by kernel_rfl) (by kernel_rfl) (fun _ _ _ h => h) (Or.inl ⟨by rfl, by intro w hSw; go_simp⟩) hHeld ?_
          simp only [Act.put, List.setIfInBounds_toArray, List.set_cons_zero, List.set_cons_succ]
          refine Hn.take (i := 7) (d := some 36) (v := .slice (some ⟨b', off', none⟩) n cap') rfl (by kernel_rfl) (by kernel_rfl) (by kernel_rfl) (by kernel_rfl) (fun _ _ _ h => h) (Or.inl ⟨by rfl, by intro w hSw; obtain ⟨c0, c1, c2, c3, c4, c5, c6, c7⟩ := hSw; go_simp⟩) hHeld ?_
          simp only [Act.put, List.setIfInBounds_toArray, List.set_cons_zero, List.set_cons_succ]
          refine Hn.take (i := 8) (d := some 37) (v := .int .i64 k) rfl (by kernel_rfl) (by kernel_rfl) (by kernel_rfl) (by kernel_rfl) (fun _ _ _ h => h) (Or.inl ⟨by rfl, by intro w hSw; go_simp⟩) hHeld ?_
          simp only [Act.put, List.setIfInBounds_toArray, List.set_cons_zero, List.set_cons_succ]
          refine Hn.take (i := 9) (d := some 38) (v := .pointer (some ⟨b', off' + k * 3, none⟩)) rfl (by kernel_rfl) (by kernel_rfl) (by kernel_rfl) (by kernel_rfl) (fun _ _ _ h => h) (Or.inl ⟨by rfl, by intro w hSw; go_simp⟩) hHeld ?_
          simp only [Act.put, List.setIfInBounds_toArray, List.set_cons_zero, List.set_cons_succ]
          refine Hn.take (i := 10) (d := some 39) (v := .pointer (some ⟨b', off' + k * 3, none⟩)) rfl (by kernel_rfl) (by kernel_rfl) (by kernel_rfl) (by kernel_rfl) (fun _ _ _ h => h) (Or.inl ⟨by rfl, by intro w hSw; go_simp⟩) hHeld ?_
          simp only [Act.put, List.setIfInBounds_toArray, List.set_cons_zero, List.set_cons_succ]
          refine Hn.take (i := 11) (d := some 40) (v := .string ys) rfl (by kernel_rfl) (by kernel_rfl) (by kernel_rfl) (by kernel_rfl) (fun _ _ _ h => h) (Or.inl ⟨by rfl, by intro w hSw; obtain ⟨c0, c1, c2, c3, c4, c5, c6, c7⟩ := hSw; go_simp⟩) hHeld ?_
          simp only [Act.put, List.setIfInBounds_toArray, List.set_cons_zero, List.set_cons_succ]
          refine Hn.take (i := 12) (d := some 41) (v := .bool true) rfl (by kernel_rfl) (by kernel_rfl) (by kernel_rfl) (by kernel_rfl) (fun _ _ _ h => h) (Or.inl ⟨by rfl, by intro w hSw; go_simp⟩) hHeld ?_
          simp only [Act.put, List.setIfInBounds_toArray, List.set_cons_zero, List.set_cons_succ]
          refine Hn.take (i := 13) (d := some 42) (v := .bool true) rfl (by kernel_rfl) (by kernel_rfl) (by kernel_rfl) (by kernel_rfl) (fun _ _ _ h => h) (Or.inl ⟨by rfl, by intro w hSw; go_simp⟩) hHeld ?_
          simp only [Act.put, List.setIfInBounds_toArray, List.set_cons_zero, List.set_cons_succ]
          refine Hn.take (i := 14) (d := some 43) (v := undef) rfl (by kernel_rfl) (by kernel_rfl) (by kernel_rfl) (by kernel_rfl) (fun _ _ _ h => h) (Or.inr ⟨by rfl, rfl⟩) hHeld ?_
          simp only [Act.put, List.setIfInBounds_toArray, List.set_cons_zero, List.set_cons_succ]
          refine Hn.take (i := 15) (d := some 44) (v := undef) rfl (by kernel_rfl) (by kernel_rfl) (by kernel_rfl) (by kernel_rfl) (fun _ _ _ h => h) (Or.inr ⟨by rfl, rfl⟩) hHeld ?_
          simp only [Act.put, List.setIfInBounds_toArray, List.set_cons_zero, List.set_cons_succ]
          refine Hn.take (i := 16) (d := some 45) (v := undef) rfl (by kernel_rfl) (by kernel_rfl) (by kernel_rfl) (by kernel_rfl) (fun _ _ _ h => h) (Or.inr ⟨by rfl, rfl⟩) hHeld ?_
          simp only [Act.put, List.setIfInBounds_toArray, List.set_cons_zero, List.set_cons_succ]
          refine Hn.take (i := 17) (d := some 46) (v := undef) rfl (by kernel_rfl) (by kernel_rfl) (by kernel_rfl) (by kernel_rfl) (fun _ _ _ h => h) (Or.inr ⟨by rfl, rfl⟩) hHeld ?_
          simp only [Act.put, List.setIfInBounds_toArray, List.set_cons_zero, List.set_cons_succ]
          refine Hn.take (i := 18) (d := some 47) (v := undef) rfl (by kernel_rfl) (by kernel_rfl) (by kernel_rfl) (by kernel_rfl) (fun _ _ _ h => h) (Or.inr ⟨by rfl, rfl⟩) hHeld ?_
          simp only [Act.put, List.setIfInBounds_toArray, List.set_cons_zero, List.set_cons_succ]
          refine Hn.take (i := 19) (d := some 48) (v := undef) rfl (by kernel_rfl) (by kernel_rfl) (by kernel_rfl) (by kernel_rfl) (fun _ _ _ h => h) (Or.inr ⟨by rfl, rfl⟩) hHeld ?_
          simp only [Act.put, List.setIfInBounds_toArray, List.set_cons_zero, List.set_cons_succ]
          refine Hn.take (i := 20) (d := some 49) (v := undef) rfl (by kernel_rfl) (by kernel_rfl) (by kernel_rfl) (by kernel_rfl) (fun _ _ _ h => h) (Or.inr ⟨by rfl, rfl⟩) hHeld ?_
          simp only [Act.put, List.setIfInBounds_toArray, List.set_cons_zero, List.set_cons_succ]
          refine Hn.take (i := 21) (d := some 50) (v := undef) rfl (by kernel_rfl) (by kernel_rfl) (by kernel_rfl) (by kernel_rfl) (fun _ _ _ h => h) (Or.inr ⟨by rfl, rfl⟩) hHeld ?_
          simp only [Act.put, List.setIfInBounds_toArray, List.set_cons_zero, List.set_cons_succ]
          refine Hn.take (i := 22) (d := some 51) (v := undef) rfl (by kernel_rfl) (by kernel_rfl) (by kernel_rfl) (by kernel_rfl) (fun _ _ _ h => h) (Or.inr ⟨by rfl, rfl⟩) hHeld ?_
          simp only [Act.put, List.setIfInBounds_toArray, List.set_cons_zero, List.set_cons_succ]
          refine Hn.take (i := 23) (d := some 52) (v := undef) rfl (by kernel_rfl) (by kernel_rfl) (by kernel_rfl) (by kernel_rfl) (fun _ _ _ h => h) (Or.inr ⟨by rfl, rfl⟩) hHeld ?_
          simp only [Act.put, List.setIfInBounds_toArray, List.set_cons_zero, List.set_cons_succ]
          refine Hn.take (i := 24) (d := some 53) (v := undef) rfl (by kernel_rfl) (by kernel_rfl) (by kernel_rfl) (by kernel_rfl) (fun _ _ _ h => h) (Or.inr ⟨by rfl, rfl⟩) hHeld ?_
          simp only [Act.put, List.setIfInBounds_toArray, List.set_cons_zero, List.set_cons_succ]
          refine Hn.take (i := 25) (d := some 54) (v := undef) rfl (by kernel_rfl) (by kernel_rfl) (by kernel_rfl) (by kernel_rfl) (fun _ _ _ h => h) (Or.inr ⟨by rfl, rfl⟩) hHeld ?_
          simp only [Act.put, List.setIfInBounds_toArray, List.set_cons_zero, List.set_cons_succ]
          refine Hn.take (i := 26) (d := some 55) (v := undef) rfl (by kernel_rfl) (by kernel_rfl) (by kernel_rfl) (by kernel_rfl) (fun _ _ _ h => h) (Or.inr ⟨by rfl, rfl⟩) hHeld ?_
          simp only [Act.put, List.setIfInBounds_toArray, List.set_cons_zero, List.set_cons_succ]
          refine Hn.take (i := 27) (d := some 56) (v := undef) rfl (by kernel_rfl) (by kernel_rfl) (by kernel_rfl) (by kernel_rfl) (fun _ _ _ h => h) (Or.inr ⟨by rfl, rfl⟩) hHeld ?_
          simp only [Act.put, List.setIfInBounds_toArray, List.set_cons_zero, List.set_cons_succ]
          refine Hn.take (i := 28) (d := some 57) (v := .bool true) rfl (by kernel_rfl) (by kernel_rfl) (by kernel_rfl) (by kernel_rfl) (fun _ _ _ h => h) (Or.inl ⟨by rfl, by intro w hSw; go_simp⟩) hHeld ?_
          simp only [Act.put, List.setIfInBounds_toArray, List.set_cons_zero, List.set_cons_succ]
          refine wpAnyH_done (by kernel_rfl) ?_ _
          go_wp2
          go_ret
          exact ⟨ret_bool (by rw [HQ.out]; rfl), Rw.next B1 hbel⟩
      · have he : k = n := by omega
        subst he
        go_wp2
        go_ret
        exact ⟨ret_bool (by rw [HG.out HP.out]; rfl), Rw.next B1 hbel⟩
  · have e : decide (told T = told U) = false := decide_eq_false fun e => hne (by rw [← St.told_len, ← St.told_len, e])
    rw [e]
    have hq : ((T.length : Int) != (U.length : Int)) = true := by simp; omega
    clear e hne
    have t1 : True := trivial
    go_enter Tryz.func15, Tryz.ntmps15
    go_wp2_with (first
      | (go_at_call 50; clear t1; rw [← hW1]; clear hW1; refine (hA _ r0).mono ?_; rintro e w1 ⟨rfl, hb⟩; replace B1 := Rw.next B1 hb; replace k0 := (hb.block _ (blk_lt k0)).trans k0; replace k1 := (hb.block _ (blk_lt k1)).trans k1; replace r1 := r1.below hb; clear hb; have q0 := one k1; have t2 : True := trivial)
      | (go_at_call 50; clear t2 q0; refine (hB _ r1).mono ?_; rintro e w1 ⟨rfl, hb⟩; replace B1 := Rw.next B1 hb; replace k0 := (hb.block _ (blk_lt k0)).trans k0; replace k1 := (hb.block _ (blk_lt k1)).trans k1; clear hb; have p0 := one k0; have q0 := one k1))
    go_ret
    exact ⟨ret_bool (by simp), B1⟩

end Go.Proofs.YtecnbenlmbppbaaGreat.Mp
