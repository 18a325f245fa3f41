/-
  The program's ActsOk; both HasAct, both SameActs.
-/
import Derived.Test.YtkakdldhinimoaaYe
import Derived.Test.YtkakdldhinimoaaHb
namespace Go.Proofs.Ytkakdldhinimoaa.Yg
set_option maxRecDepth 8000
open Go Go.RowKit
open Num Pl Yb Yc Yd

theorem actsI (a : Option Addr) (b off cap : Nat) (l : List A3) (w : World) (h : Rd w a b off l) :
    Calls Try.prog 19 #[.slice a l.length cap] w fun e w' => e = .returned (.bool (actsB l)) ∧ Below w.heap.size w w' := by
  cases hB : actsB l
  · go_enter Try.func19, Try.ntmps19
    go_wp2_with (go_at_call 58; refine (acts_any _ _ _ _ _ _ h).mono ?_; rintro e w1 ⟨hb, h0, h1⟩; obtain rfl := h0 hB; clear h0 h1)
    go_ret
    exact ⟨rfl, hb⟩
  · go_enter Try.func19, Try.ntmps19
    go_wp2_with (go_at_call 58; refine (acts_any _ _ _ _ _ _ h).mono ?_; rintro e w1 ⟨hb, h0, h1⟩; obtain ⟨rfl, _⟩ := h1 hB; clear h0 h1)
    go_ret
    exact ⟨rfl, hb⟩

/-- There is an action of the kind. -/
def anyK (l : List A3) (q : Int) : Bool := decide (∃ i, i < l.length ∧ (l.getD i z3).1 = q)
def hasB (l : List A3) (q : Int) : Bool := actsB l && anyK l q
theorem anyK_yes {l : List A3} {q : Int} {k : Nat} (hk : k < l.length) (h : (l.getD k z3).1 = q) : anyK l q = true := decide_eq_true ⟨k, hk, h⟩
theorem anyK_no {l : List A3} {q : Int} (h : ∀ i, i < l.length → (l.getD i z3).1 ≠ q) : anyK l q = false := decide_eq_false fun ⟨i, hi, e⟩ => h i hi e

set_option maxHeartbeats 1000000 in
theorem hasS (a : Option Addr) (b off cap : Nat) (l : List A3) (q : Int) (w : World) (h : Rd w a b off l) :
    Calls Try.prog 21 #[.slice a l.length cap, .int .i64 q] w fun e w' => e = .returned (.bool (hasB l q)) ∧ Below w.heap.size w w' := by
  have hS := Ye.actsS a b off cap l w h
  unfold hasB
  cases hB : actsB l
  · rw [hB] at hS
    go_enter Try.func21, Try.ntmps21
    go_wp2_with (go_at_call 17; refine hS.mono ?_; clear hS; rintro e w1 ⟨rfl, hb⟩)
    go_ret
    exact ⟨rfl, hb⟩
  rw [hB] at hS
  rw [Bool.true_and]
  obtain ⟨hh, hc, hs⟩ := h
  obtain ⟨n, hn⟩ : ∃ n, n = l.length := ⟨_, rfl⟩
  rw [← hn] at hh hc hs hS ⊢
  have HN : Hid (n = l.length) := hn
  clear hn hB
  go_enter Try.func21, Try.ntmps21
  go_wp2_with (go_at_call 17; refine hS.mono ?_; clear hS; rintro e w1 ⟨rfl, hb1⟩)
  go_loopw [12] (fun i wr => ∃ k : Nat, k ≤ n ∧ i = .int .i64 k ∧ Below w.heap.size w wr ∧ ∀ i, i < k → (l.getD i z3).1 ≠ q) (fun i _ => n - (intOf i).toNat)
  case atStart => exact ⟨0, Nat.zero_le _, rfl, hb1, fun i hi => by omega⟩
  case round =>
    obtain ⟨k, hk, rfl, hbel, hpre⟩ := hrel
    have HP : Hid (∀ i, i < k → (l.getD i z3).1 ≠ q) := hpre
    clear hpre
    by_cases hlt : k < n
    · obtain rfl := hh (by omega)
      have hkz : (k : Int) < (n : Int) := by omega
      obtain ⟨c0, c1, c2⟩ := (hc k hlt).of hbel (hc k hlt).lt
      generalize ex : l.getD k z3 = x at c0 c1 c2
      have HX : Hid (l.getD k z3 = x) := ex
      clear ex hc hh
      obtain ⟨x0, x1, x2⟩ := x
      simp only at c0 c1 c2
      by_cases hq : x0 = q
      · subst hq
        go_wp2
        go_ret
        exact ⟨ret_bool (anyK_yes (k := k) (by have := HN.out; omega) (by rw [HX.out])).symm, Rw.next hbel (below_alloc1 _ _)⟩
      · have hqe : (x0 == q) = false := by simpa using hq
        go_wp2
        go_roundw
        case rel => exact ⟨k + 1, by omega, by go_num, Rw.next hbel (below_alloc1 _ _), fun i hi => by
          by_cases e : i = k
          · subst e; rw [HX.out]; exact hq
          · exact HP.out i (by omega)⟩
        case measure => simp [intOf]; omega
    · have he : k = n := by omega
      subst he
      go_wp2
      go_ret
      have := HN.out
      exact ⟨ret_bool (anyK_no (by rw [← this]; exact HP.out)).symm, hbel⟩

/-- The closure of HasAct, over the block g that holds the kind. -/
theorem closure_any (g : Nat) (x0 x1 x2 q : Int) (w : World) (h : w.cell? ⟨g, 0, none⟩ = some (.int .i64 q)) :
    Calls Try.prog 61 #[.agg #[.int .i64 x0, .int .i64 x1, .int .i64 x2], .pointer (some ⟨g, 0, none⟩)] w fun e w' => e = .returned (.bool (decide (x0 = q))) ∧ Below w.heap.size w w' := by
  have hc : (w.alloc (.cells #[.int .i64 x0, .int .i64 x1, .int .i64 x2] 76)).cell? ⟨g, 0, none⟩ = some (.int .i64 q) := ((below_alloc1 w _).cell (World.block_lt_of_cell? _ _ h)).trans h
  by_cases hq : x0 = q
  · subst hq
    go_enter Try.func61, Try.ntmps61
    go_wp2
    go_ret
    exact ⟨ret_bool (by simp), below_alloc1 _ _⟩
  · have hqe : (x0 == q) = false := by simpa using hq
    go_enter Try.func61, Try.ntmps61
    go_wp2
    go_ret
    exact ⟨ret_bool (by simp [hq]), below_alloc1 _ _⟩

set_option maxHeartbeats 1000000 in
theorem index_any (a : Option Addr) (b off cap g : Nat) (l : List A3) (q : Int) (w : World) (h : Rd w a b off l) (hg : w.cell? ⟨g, 0, none⟩ = some (.int .i64 q)) :
    Calls Try.prog 94 #[.slice a l.length cap, .func (.func 61) #[] #[.pointer (some ⟨g, 0, none⟩)]] w fun e w' => Below w.heap.size w w' ∧ ∃ r : Int, e = .returned (.int .i64 r) ∧ decide (0 ≤ r) = anyK l q := by
  obtain ⟨hh, hc, hs⟩ := h
  obtain ⟨n, hn⟩ : ∃ n, n = l.length := ⟨_, rfl⟩
  rw [← hn] at hh hc hs ⊢
  have HN : Hid (n = l.length) := hn
  clear hn
  have hgl := World.block_lt_of_cell? _ _ hg
  go_enter Try.func94, Try.ntmps94
  go_wp2
  go_loopw [8] (fun i wr => ∃ k : Nat, k ≤ n ∧ i = .int .i64 k ∧ Below w.heap.size w wr ∧ ∀ i, i < k → (l.getD i z3).1 ≠ q) (fun i _ => n - (intOf i).toNat)
  case atStart => exact ⟨0, Nat.zero_le _, rfl, Below.refl _ _, fun i hi => by omega⟩
  case round =>
    obtain ⟨k, hk, rfl, hbel, hpre⟩ := hrel
    have HP : Hid (∀ i, i < k → (l.getD i z3).1 ≠ q) := hpre
    clear hpre
    by_cases hlt : k < n
    · obtain rfl := hh (by omega)
      have hkz : (k : Int) < (n : Int) := by omega
      obtain ⟨c0, c1, c2⟩ := (hc k hlt).of hbel (hc k hlt).lt
      have hg' : wr.cell? ⟨g, 0, none⟩ = some (.int .i64 q) := (hbel.cell hgl).trans hg
      generalize ex : l.getD k z3 = x at c0 c1 c2
      have HX : Hid (l.getD k z3 = x) := ex
      clear ex hc hh hg
      obtain ⟨x0, x1, x2⟩ := x
      simp only at c0 c1 c2
      by_cases hq : x0 = q
      · subst hq
        go_wp2_with (go_at_call 61; refine (closure_any _ _ _ _ _ _ hg').mono ?_; rw [decide_eq_true rfl]; rintro e w1 ⟨rfl, hb⟩)
        go_ret
        exact ⟨Rw.next hbel hb, _, rfl, (decide_eq_true (by omega)).trans (anyK_yes (k := k) (by have := HN.out; omega) (by rw [HX.out])).symm⟩
      · go_wp2_with (go_at_call 61; refine (closure_any _ _ _ _ _ _ hg').mono ?_; rw [decide_eq_false hq]; rintro e w1 ⟨rfl, hb⟩)
        go_roundw
        case rel => exact ⟨k + 1, by omega, by go_num, Rw.next hbel hb, fun i hi => by
          by_cases e : i = k
          · subst e; rw [HX.out]; exact hq
          · exact HP.out i (by omega)⟩
        case measure => simp [intOf]; omega
    · have he : k = n := by omega
      subst he
      go_wp2
      go_ret
      have := HN.out
      exact ⟨hbel, _, rfl, (decide_eq_false (by omega)).trans (anyK_no (by rw [← this]; exact HP.out)).symm⟩

theorem contains_any (a : Option Addr) (b off cap g : Nat) (l : List A3) (q : Int) (w : World) (h : Rd w a b off l) (hg : w.cell? ⟨g, 0, none⟩ = some (.int .i64 q)) :
    Calls Try.prog 60 #[.slice a l.length cap, .func (.func 61) #[] #[.pointer (some ⟨g, 0, none⟩)]] w fun e w' => e = .returned (.bool (anyK l q)) ∧ Below w.heap.size w w' := by
  generalize hR : anyK l q = R
  have HR : Hid (anyK l q = R) := hR
  clear hR
  go_enter Try.func60, Try.ntmps60
  go_wp2_with (go_at_call 94; refine (index_any _ _ _ _ _ _ _ _ h hg).mono ?_; rintro e w1 ⟨hb, r, rfl, hr⟩; rw [HR.out] at hr)
  go_ret
  exact ⟨rfl, hb⟩

set_option maxHeartbeats 1000000 in
theorem hasI (a : Option Addr) (b off cap : Nat) (l : List A3) (q : Int) (w : World) (h : Rd w a b off l) :
    Calls Try.prog 22 #[.slice a l.length cap, .int .i64 q] w fun e w' => e = .returned (.bool (hasB l q)) ∧ Below w.heap.size w w' := by
  obtain ⟨W0, hW0⟩ : ∃ W0, W0 = w.alloc (.cells #[.int .i64 q] 3) := ⟨_, rfl⟩
  have B0 : Below w.heap.size w W0 := by subst hW0; exact below_alloc1 _ _
  have k0 : W0.heap[w.heap.size]? = some (.cells #[.int .i64 q] 3 (0, 0)) := by subst hW0; exact at_new rfl
  have z0 : w.heap.size < W0.heap.size := by subst hW0; simp
  replace h := h.below B0
  have hS := actsI a b off cap l W0 h
  unfold hasB
  cases hB : actsB l
  · rw [hB] at hS
    go_enter Try.func22, Try.ntmps22
    go_wp2_with (go_at_call 19; rw [← hW0]; refine hS.mono ?_; clear hS; rintro e w1 ⟨rfl, hb⟩)
    go_ret
    exact ⟨rfl, Rw.next B0 hb⟩
  · rw [hB] at hS
    rw [Bool.true_and]
    go_enter Try.func22, Try.ntmps22
    go_wp2_with (first | (go_at_call 19; rw [← hW0]; refine hS.mono ?_; clear hS; rintro e w1 ⟨rfl, hb⟩; replace h := h.below hb; replace k0 := (hb.block _ z0).trans k0; replace B0 := Rw.next B0 hb) | (go_at_call 60; refine (contains_any _ _ _ _ _ _ _ _ h (Hh.one k0)).mono ?_; rintro e w2 ⟨rfl, hb⟩))
    go_ret
    exact ⟨rfl, Rw.next B0 hb⟩

def sameB (l m : List A3) : Bool := actsB l && decide (l = m)

set_option maxHeartbeats 1000000 in
theorem same62 (a a' : Option Addr) (b off cap b' off' cap' : Nat) (l m : List A3) (w : World) (h : Rd w a b off l) (h' : Rd w a' b' off' m) :
    Calls Try.prog 62 #[.slice a l.length cap, .slice a' m.length cap'] w fun e w' => e = .returned (.bool (decide (l = m))) ∧ Below w.heap.size w w' := by
  obtain ⟨hh, hc, hs⟩ := h
  obtain ⟨hh', hc', hs'⟩ := h'
  by_cases hl : l.length = m.length
  · obtain ⟨n, hn⟩ : ∃ n, n = l.length := ⟨_, rfl⟩
    rw [← hl] at hh' hc' ⊢
    rw [← hn] at hh hc hs hh' hc' ⊢
    have HN : Hid (n = l.length) := hn
    have HL : Hid (l.length = m.length) := hl
    clear hn hl hs'
    go_enter Try.func62, Try.ntmps62
    go_wp2
    go_loopw [13] (fun i wr => ∃ k : Nat, k ≤ n ∧ i = .int .i64 k ∧ Below w.heap.size w wr ∧ ∀ i, i < k → l.getD i z3 = m.getD i z3) (fun i _ => n - (intOf i).toNat)
    case atStart => exact ⟨0, Nat.zero_le _, rfl, Below.refl _ _, fun i hi => by omega⟩
    case round =>
      obtain ⟨k, hk, rfl, hbel, hsame⟩ := hrel
      have HSA : Hid (∀ i, i < k → l.getD i z3 = m.getD i z3) := hsame
      clear hsame
      by_cases hlt : k < n
      · obtain rfl := hh (by omega)
        obtain rfl := hh' (by omega)
        have hkz : (k : Int) < (n : Int) := by omega
        obtain ⟨c0, c1, c2⟩ := (hc k hlt).of hbel (hc k hlt).lt
        obtain ⟨d0, d1, d2⟩ := (hc' k hlt).of hbel (hc' k hlt).lt
        generalize e1 : l.getD k z3 = x at c0 c1 c2
        generalize e2 : m.getD k z3 = y at d0 d1 d2
        have H1 : Hid (l.getD k z3 = x) := e1
        have H2 : Hid (m.getD k z3 = y) := e2
        clear e1 e2 hc hc' hh hh'
        obtain ⟨x0, x1, x2⟩ := x
        obtain ⟨y0, y1, y2⟩ := y
        simp only at c0 c1 c2 d0 d1 d2
        have no : ¬ (x0, x1, x2) = (y0, y1, y2) → decide (l = m) = false := fun hne => ne3 (k := k) (by rw [H1.out, H2.out]; exact hne)
        have NO : Hid (¬ (x0, x1, x2) = (y0, y1, y2) → decide (l = m) = false) := no
        clear no
        by_cases g0 : x0 = y0
        · subst g0
          by_cases g1 : x1 = y1
          · subst g1
            by_cases g2 : x2 = y2
            · subst g2
              go_wp2
              go_region
              all_goals go_wp2
              all_goals go_roundw
              all_goals first
                | exact ⟨k + 1, by omega, by go_num, by repeat (first | exact hbel | apply Below.drew), fun i hi => by
                    by_cases e : i = k
                    · subst e; exact H1.out.trans H2.out.symm
                    · exact HSA.out i (by omega)⟩
                | (simp [intOf]; omega)
            · have hn : (x2 == y2) = false := by simpa using g2
              go_wp2
              go_region
              all_goals go_wp2
              all_goals go_ret
              all_goals exact ⟨ret_bool (NO.out (by simp [g2])).symm, by repeat (first | exact hbel | apply Below.drew)⟩
          · have hn : (x1 == y1) = false := by simpa using g1
            go_wp2
            go_region
            all_goals go_wp2
            all_goals go_ret
            all_goals exact ⟨ret_bool (NO.out (by simp [g1])).symm, by repeat (first | exact hbel | apply Below.drew)⟩
        · have hn : (x0 == y0) = false := by simpa using g0
          go_wp2
          go_region
          all_goals go_wp2
          all_goals go_ret
          all_goals exact ⟨ret_bool (NO.out (by simp [g0])).symm, by repeat (first | exact hbel | apply Below.drew)⟩
      · have he : k = n := by omega
        subst he
        go_wp2
        go_ret
        have := HN.out
        subst this
        exact ⟨Num.ret_bool (by simpa using ext3 HL.out HSA.out), hbel⟩
  · have hne : ((l.length : Int) != (m.length : Int)) = true := by simp; omega
    go_enter Try.func62, Try.ntmps62
    go_wp2
    go_ret
    exact ⟨Num.ret_bool (by simp; intro e; subst e; exact hl rfl), Below.refl _ _⟩

set_option maxHeartbeats 1000000 in
theorem same63 (a a' : Option Addr) (b off cap b' off' cap' : Nat) (l m : List A3) (w : World) (h : Rd w a b off l) (h' : Rd w a' b' off' m) :
    Calls Try.prog 63 #[.slice a l.length cap, .slice a' m.length cap'] w fun e w' => e = .returned (.bool (decide (l = m))) ∧ Below w.heap.size w w' := by
  obtain ⟨hh, hc, hs⟩ := h
  obtain ⟨hh', hc', hs'⟩ := h'
  by_cases hl : l.length = m.length
  · obtain ⟨n, hn⟩ : ∃ n, n = l.length := ⟨_, rfl⟩
    rw [← hl] at hh' hc' ⊢
    rw [← hn] at hh hc hs hh' hc' ⊢
    have HN : Hid (n = l.length) := hn
    have HL : Hid (l.length = m.length) := hl
    clear hn hl hs'
    go_enter Try.func63, Try.ntmps63
    go_wp2
    go_loopw [13] (fun i wr => ∃ k : Nat, k ≤ n ∧ i = .int .i64 k ∧ Below w.heap.size w wr ∧ ∀ i, i < k → l.getD i z3 = m.getD i z3) (fun i _ => n - (intOf i).toNat)
    case atStart => exact ⟨0, Nat.zero_le _, rfl, Below.refl _ _, fun i hi => by omega⟩
    case round =>
      obtain ⟨k, hk, rfl, hbel, hsame⟩ := hrel
      have HSA : Hid (∀ i, i < k → l.getD i z3 = m.getD i z3) := hsame
      clear hsame
      by_cases hlt : k < n
      · obtain rfl := hh (by omega)
        obtain rfl := hh' (by omega)
        have hkz : (k : Int) < (n : Int) := by omega
        obtain ⟨c0, c1, c2⟩ := (hc k hlt).of hbel (hc k hlt).lt
        obtain ⟨d0, d1, d2⟩ := (hc' k hlt).of hbel (hc' k hlt).lt
        generalize e1 : l.getD k z3 = x at c0 c1 c2
        generalize e2 : m.getD k z3 = y at d0 d1 d2
        have H1 : Hid (l.getD k z3 = x) := e1
        have H2 : Hid (m.getD k z3 = y) := e2
        clear e1 e2 hc hc' hh hh'
        obtain ⟨x0, x1, x2⟩ := x
        obtain ⟨y0, y1, y2⟩ := y
        simp only at c0 c1 c2 d0 d1 d2
        have no : ¬ (x0, x1, x2) = (y0, y1, y2) → decide (l = m) = false := fun hne => ne3 (k := k) (by rw [H1.out, H2.out]; exact hne)
        have NO : Hid (¬ (x0, x1, x2) = (y0, y1, y2) → decide (l = m) = false) := no
        clear no
        by_cases g0 : x0 = y0
        · subst g0
          by_cases g1 : x1 = y1
          · subst g1
            by_cases g2 : x2 = y2
            · subst g2
              go_wp2
              go_region
              all_goals go_wp2
              all_goals go_roundw
              all_goals first
                | exact ⟨k + 1, by omega, by go_num, by repeat (first | exact hbel | apply Below.drew), fun i hi => by
                    by_cases e : i = k
                    · subst e; exact H1.out.trans H2.out.symm
                    · exact HSA.out i (by omega)⟩
                | (simp [intOf]; omega)
            · have hn : (x2 == y2) = false := by simpa using g2
              go_wp2
              go_region
              all_goals go_wp2
              all_goals go_ret
              all_goals exact ⟨ret_bool (NO.out (by simp [g2])).symm, by repeat (first | exact hbel | apply Below.drew)⟩
          · have hn : (x1 == y1) = false := by simpa using g1
            go_wp2
            go_region
            all_goals go_wp2
            all_goals go_ret
            all_goals exact ⟨ret_bool (NO.out (by simp [g1])).symm, by repeat (first | exact hbel | apply Below.drew)⟩
        · have hn : (x0 == y0) = false := by simpa using g0
          go_wp2
          go_region
          all_goals go_wp2
          all_goals go_ret
          all_goals exact ⟨ret_bool (NO.out (by simp [g0])).symm, by repeat (first | exact hbel | apply Below.drew)⟩
      · have he : k = n := by omega
        subst he
        go_wp2
        go_ret
        have := HN.out
        subst this
        exact ⟨Num.ret_bool (by simpa using ext3 HL.out HSA.out), hbel⟩
  · have hne : ((l.length : Int) != (m.length : Int)) = true := by simp; omega
    go_enter Try.func63, Try.ntmps63
    go_wp2
    go_ret
    exact ⟨Num.ret_bool (by simp; intro e; subst e; exact hl rfl), Below.refl _ _⟩

set_option maxHeartbeats 1000000 in
theorem sameI (a a' : Option Addr) (b off cap b' off' cap' : Nat) (l m : List A3) (w : World) (h : Rd w a b off l) (h' : Rd w a' b' off' m) :
    Calls Try.prog 24 #[.slice a l.length cap, .slice a' m.length cap'] w fun e w' => e = .returned (.bool (sameB l m)) ∧ Below w.heap.size w w' := by
  have hS := actsI a b off cap l w h
  unfold sameB
  cases hB : actsB l
  · rw [hB] at hS
    go_enter Try.func24, Try.ntmps24
    go_wp2_with (go_at_call 19; refine hS.mono ?_; clear hS; rintro e w1 ⟨rfl, hb⟩)
    go_ret
    exact ⟨rfl, hb⟩
  · rw [hB] at hS
    rw [Bool.true_and]
    generalize hR : decide (l = m) = R
    have HR : Hid (decide (l = m) = R) := hR
    clear hR hB
    go_enter Try.func24, Try.ntmps24
    go_wp2_with (first | (go_at_call 19; refine hS.mono ?_; clear hS; rintro e w1 ⟨rfl, hb1⟩; replace h := h.below hb1; replace h' := h'.below hb1) | (go_at_call 63; refine (same63 _ _ _ _ _ _ _ _ _ _ _ h h').mono ?_; rw [HR.out]; rintro e w2 ⟨rfl, hb⟩))
    go_ret
    exact ⟨rfl, Rw.next hb1 hb⟩

set_option maxHeartbeats 1000000 in
theorem sameS (a a' : Option Addr) (b off cap b' off' cap' : Nat) (l m : List A3) (w : World) (h : Rd w a b off l) (h' : Rd w a' b' off' m) :
    Calls Try.prog 23 #[.slice a l.length cap, .slice a' m.length cap'] w fun e w' => e = .returned (.bool (sameB l m)) ∧ Below w.heap.size w w' := by
  have hS := Ye.actsS a b off cap l w h
  unfold sameB
  cases hB : actsB l
  · rw [hB] at hS
    go_enter Try.func23, Try.ntmps23
    go_wp2_with (go_at_call 17; refine hS.mono ?_; clear hS; rintro e w1 ⟨rfl, hb⟩)
    go_ret
    exact ⟨rfl, hb⟩
  · rw [hB] at hS
    rw [Bool.true_and]
    cases hM : actsB m
    · have hne : decide (l = m) = false := decide_eq_false fun e => by rw [e, hM] at hB; cases hB
      rw [hne]
      clear hB hne
      have t1 : True := trivial
      go_enter Try.func23, Try.ntmps23
      go_wp2_with (first | (go_at_call 17; clear t1; refine hS.mono ?_; clear hS; rintro e w1 ⟨rfl, hb1⟩; replace h' := h'.below hb1) | (go_at_call 17; refine (Ye.actsS _ _ _ _ _ _ h').mono ?_; rw [hM]; rintro e w2 ⟨rfl, hb⟩))
      go_ret
      exact ⟨rfl, Rw.next hb1 hb⟩
    · generalize hR : decide (l = m) = R
      have HR : Hid (decide (l = m) = R) := hR
      clear hR hB
      have t1 : True := trivial
      go_enter Try.func23, Try.ntmps23
      go_wp2_with (first | (go_at_call 17; clear t1; refine hS.mono ?_; clear hS; rintro e w1 ⟨rfl, hb1⟩; replace h := h.below hb1; replace h' := h'.below hb1) | (go_at_call 17; refine (Ye.actsS _ _ _ _ _ _ h').mono ?_; rw [hM]; rintro e w2 ⟨rfl, hb2⟩; replace h := h.below hb2; replace h' := h'.below hb2) | (go_at_call 62; refine (same62 _ _ _ _ _ _ _ _ _ _ _ h h').mono ?_; rw [HR.out]; rintro e w3 ⟨rfl, hb⟩))
      go_ret
      exact ⟨rfl, Rw.next (Rw.next hb1 hb2) hb⟩

end Go.Proofs.Ytkakdldhinimoaa.Yg
