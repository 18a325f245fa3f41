/-
  Which columns are right; marks of integers from any number on.
-/
import Derived.Test.YtfiebakgphcnbaaHr
import Derived.Test.YtfiebakgphcnbaaIg
namespace Go.Proofs.Ytfiebakgphcnbaa.Rl
set_option maxRecDepth 8000
set_option linter.unusedSimpArgs false
set_option linter.unusedVariables false
open Go Go.RowKit
open Num Word Pl Rp
open Vl (ordRow rowB V2 valB z2)

def mixk (k0 : Int) (l : List Int) (k i : Nat) : Int := if i < k then k0 + (i : Int) else l.getD i 0
theorem markk_step {k0 : Int} {w : World} {g n k : Nat} {l : List Int} (h : ∀ i, i < n → w.cell? ⟨g, i, none⟩ = some (.int .i64 (mixk k0 l k i))) (hk : k < n) :
    ∀ i, i < n → (w.setCell ⟨g, k, none⟩ (.int .i64 (k0 + (k : Int)))).cell? ⟨g, i, none⟩ = some (.int .i64 (mixk k0 l (k + 1) i)) := by
  intro i hi
  by_cases e : i = k
  · subst e
    rw [World.cell?_setCell_same _ _ _ (h i hi)]
    simp [mixk]
  · rw [World.cell?_setCell_other _ _ _ _ (by intro q; injection q with q1 q2; exact e q2.symm), h i hi]
    have : (i < k + 1) = (i < k) := by rw [eq_iff_iff]; omega
    simp [mixk, this]

set_option maxHeartbeats 1000000 in
theorem markk_any (k0 : Int) (a : Option Addr) (g cap : Nat) (l : List Int) (w : World) (h : Hr.Wt w a g l) (h0 : 0 ≤ k0) (h1 : k0 ≤ 100000000000) :
    Calls Try.prog 19 #[.slice a l.length cap, .int .i64 k0] w fun e w' => e = .returned (.int .i64 (k0 + (l.length : Int))) ∧ Mk.Only g w w' := by
  obtain ⟨hh, hc, hf, hs⟩ := h
  obtain ⟨n, hn⟩ : ∃ n, n = l.length := ⟨_, rfl⟩
  rw [← hn] at hh hc hs hf ⊢
  clear hn
  go_enter Try.func19, Try.ntmps19
  go_wp2
  go_loopw [1, 5] (fun q i wr => ∃ k : Nat, k ≤ n ∧ i = .int .i64 k ∧ q = .int .i64 (k0 + (k : Int)) ∧ Mk.Only g w wr ∧ (∀ i, i < n → wr.cell? ⟨g, i, none⟩ = some (.int .i64 (mixk k0 l k i))) ∧ ∀ i, i < n → wr.frozen? ⟨g, i, none⟩ = false) (fun _ i _ => n - (intOf i).toNat)
  case atStart => exact ⟨0, Nat.zero_le _, rfl, by simp, Mk.Only.refl _ _, fun i hi => by rw [hc i hi]; simp [mixk], hf⟩
  case round =>
    obtain ⟨k, hk, rfl, rfl, hon, hcl, hfr⟩ := hrel
    have HCL : Hid (∀ i, i < n → wr.cell? ⟨g, i, none⟩ = some (.int .i64 (mixk k0 l k i))) := hcl
    have HFR : Hid (∀ i, i < n → wr.frozen? ⟨g, i, none⟩ = false) := hfr
    by_cases hlt : k < n
    · obtain rfl := hh (by omega)
      have hkz : (k : Int) < (n : Int) := by omega
      have g1 : wr.cell? ⟨g, k, none⟩ = some (.int .i64 (mixk k0 l k k)) := hcl k hlt
      have g2 : wr.frozen? ⟨g, k, none⟩ = false := hfr k hlt
      clear hc hf hcl hfr
      go_wp2
      go_roundw
      case rel => exact ⟨k + 1, by omega, by go_num, by go_num, hon.set _, by first | exact markk_step HCL.out hlt | simpa using markk_step HCL.out hlt, fun i hi => by simpa using HFR.out i hi⟩
      case measure => simp [intOf]; omega
    · have he : k = n := by omega
      subst he
      clear hc hf hcl hfr
      go_wp2
      go_ret
      exact ⟨rfl, hon⟩

def colB (ar k : Int) : Bool := decide (0 ≤ k ∧ k ≤ ar - 1)
theorem colc_any (ar k : Int) (g : Nat) (a : Option Addr) (n c : Nat) (w : World) (h0 : 0 ≤ ar) (h6 : ar ≤ 6) (kR : w.heap[g]? = some (.cells #[.int .i64 ar, .slice a n c] 31 (0, 0))) :
    Calls Try.prog 75 #[.int .i64 k, .pointer (some ⟨g, 0, none⟩)] w fun e w' => e = .returned (.bool (!colB ar k)) ∧ Below w.heap.size w w' := by
  obtain ⟨q0, q1⟩ := two kR
  go_enter Try.func75, Try.ntmps75
  go_wp2_with (go_at_call 32; refine (colOk_any ar k _ _ _ _ h0 h6).mono ?_; rintro e w1 ⟨rfl, hb⟩)
  go_ret
  exact ⟨ret_bool (by unfold colB; by_cases h1 : 0 ≤ k <;> by_cases h2 : k ≤ ar - 1 <;> simp [h1, h2]), hb⟩

set_option maxHeartbeats 1000000 in
theorem cidx_any (ar : Int) (g : Nat) (u : Option Addr) (un uc : Nat) (a : Option Addr) (b off cap : Nat) (l : List Int) (w : World) (h : Hr.Rd w a b off l) (h0 : 0 ≤ ar) (h6 : ar ≤ 6) (kR : w.heap[g]? = some (.cells #[.int .i64 ar, .slice u un uc] 31 (0, 0))) :
    Calls Try.prog 97 #[.slice a l.length cap, .func (.func 75) #[] #[.pointer (some ⟨g, 0, none⟩)]] w fun e w' => Below w.heap.size w w' ∧ ∃ r : Int, e = .returned (.int .i64 r) ∧ (!decide (0 ≤ r)) = l.all (colB ar) := by
  obtain ⟨hh, hc, hs⟩ := h
  have HB : Hid (∀ k, k < l.length → colB ar (l.getD k 0) = false → l.all (colB ar) = false) := fun k hk h => by
    rw [List.all_eq_false]; exact ⟨l[k], List.getElem_mem hk, by simpa [List.getD, hk] using h⟩
  have HG : Hid ((∀ i, i < l.length → colB ar (l.getD i 0) = true) → l.all (colB ar) = true) := fun h => by
    refine List.all_eq_true.2 fun x hx => ?_
    obtain ⟨i, hi, rfl⟩ := List.getElem_of_mem hx
    simpa [List.getD, hi] using h i hi
  generalize l.all (colB ar) = R at HB HG ⊢
  obtain ⟨n, hn⟩ : ∃ n, n = l.length := ⟨_, rfl⟩
  rw [← hn] at hh hc hs HB HG ⊢
  clear hn
  go_enter Try.func97, Try.ntmps97
  go_wp2
  go_loopw [8] (fun i wr => ∃ k : Nat, k ≤ n ∧ i = .int .i64 k ∧ Below w.heap.size w wr ∧ ∀ i, i < k → colB ar (l.getD i 0) = true) (fun i _ => n - (intOf i).toNat)
  case atStart => exact ⟨0, Nat.zero_le _, rfl, Below.refl _ _, fun i hi => by omega⟩
  case round =>
    obtain ⟨k, hk, rfl, hbel, hpre⟩ := hrel
    have HP : Hid (∀ i, i < k → colB ar (l.getD i 0) = true) := hpre
    clear hpre
    by_cases hlt : k < n
    · obtain rfl := hh (by omega)
      have hkz : (k : Int) < (n : Int) := by omega
      have c0 := (hbel.cell (World.block_lt_of_cell? _ _ (hc k hlt))).trans (hc k hlt)
      have HB1 : Hid (colB ar (l.getD k 0) = false → R = false) := HB.out k hlt
      have HX : Hid (colB ar (l.getD k 0) = true → ∀ i, i < k + 1 → colB ar (l.getD i 0) = true) := fun h i hi => by
        by_cases e : i = k
        · subst e; exact h
        · exact HP.out i (by omega)
      generalize l.getD k 0 = x at c0 HB1 HX
      have hS := fun W h => colc_any ar x g u un uc W h0 h6 h
      have kW := (hbel.block _ (blk_lt kR)).trans kR
      clear hc hh
      cases hv : colB ar x with
      | true =>
        rw [hv] at hS
        go_wp2_with (go_at_call 75; refine (hS _ kW).mono ?_; rintro e w1 ⟨rfl, hb⟩)
        go_roundw
        case rel => exact ⟨k + 1, by omega, by go_num, Rw.next hbel hb, HX.out hv⟩
        case measure => simp [intOf]; omega
      | false =>
        rw [hv] at hS
        go_wp2_with (go_at_call 75; refine (hS _ kW).mono ?_; rintro e w1 ⟨rfl, hb⟩)
        go_ret
        exact ⟨Rw.next hbel hb, _, rfl, by rw [HB1.out hv]; simp⟩
    · have he : k = n := by omega
      subst he
      go_wp2
      go_ret
      exact ⟨hbel, _, rfl, by rw [HG.out HP.out]; rfl⟩

theorem ccon_any (ar : Int) (g : Nat) (u : Option Addr) (un uc : Nat) (a : Option Addr) (b off cap : Nat) (l : List Int) (w : World) (h : Hr.Rd w a b off l) (h0 : 0 ≤ ar) (h6 : ar ≤ 6) (kR : w.heap[g]? = some (.cells #[.int .i64 ar, .slice u un uc] 31 (0, 0))) :
    Calls Try.prog 74 #[.slice a l.length cap, .func (.func 75) #[] #[.pointer (some ⟨g, 0, none⟩)]] w fun e w' => e = .returned (.bool (!l.all (colB ar))) ∧ Below w.heap.size w w' := by
  go_enter Try.func74, Try.ntmps74
  go_wp2_with (go_at_call 97; refine (cidx_any ar g u un uc _ _ _ _ _ _ h h0 h6 kR).mono ?_; rintro e w1 ⟨hb, r, rfl, hr⟩; have HR : Hid ((!decide (0 ≤ r)) = l.all (colB ar)) := hr; clear hr)
  go_ret
  exact ⟨ret_bool (by rw [← HR.out]; simp), hb⟩

def colsB (ar : Int) (l : List Int) : Bool := decide (l.length ≤ 6) && l.all (colB ar)
set_option maxHeartbeats 1000000 in
theorem colsOk_any (ar : Int) (u : Option Addr) (un uc : Nat) (a : Option Addr) (b off cap : Nat) (l : List Int) (w : World) (h : Hr.Rd w a b off l) (h0 : 0 ≤ ar) (h6 : ar ≤ 6) :
    Calls Try.prog 40 #[.agg #[.int .i64 ar, .slice u un uc], .slice a l.length cap] w fun e w' => e = .returned (.bool (colsB ar l)) ∧ Below w.heap.size w w' := by
  have B := below_alloc1 w (.cells #[.int .i64 ar, .slice u un uc] 31)
  by_cases hl : l.length ≤ 6
  · have hlz : ((l.length : Int) ≤ 6) := by omega
    have hC := ccon_any ar w.heap.size u un uc a b off cap l _ (h.below B) h0 h6 (at_new rfl)
    have HR : Hid (colsB ar l = l.all (colB ar)) := by unfold Hid colsB; rw [decide_eq_true hl]; rfl
    go_enter Try.func40, Try.ntmps40
    go_wp2_with (go_at_call 74; refine hC.mono ?_; rintro e w1 ⟨rfl, hb⟩)
    go_ret
    exact ⟨ret_bool (by rw [HR.out]), Rw.next B hb⟩
  · have hlz : ¬ ((l.length : Int) ≤ 6) := by omega
    have HR : Hid (colsB ar l = false) := by unfold Hid colsB; rw [decide_eq_false hl]; rfl
    go_enter Try.func40, Try.ntmps40
    go_wp2
    go_ret
    exact ⟨ret_bool (by rw [HR.out]), B⟩

end Go.Proofs.Ytfiebakgphcnbaa.Rl
