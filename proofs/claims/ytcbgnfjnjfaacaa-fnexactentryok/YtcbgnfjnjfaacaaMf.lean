/-
  Marks from any number on, over rows of integers; what is kept where two rows are written.
-/
import Derived.Test.YtcbgnfjnjfaacaaHr
namespace Go.Proofs.Ytcbgnfjnjfaacaa.Mf
open Go Go.RowKit
open Num Pl Hr

/-- n marks from k0 on. -/
def marksF (k0 : Int) (n : Nat) : List Int := (List.range n).map (fun i : Nat => k0 + (i : Int))
theorem marksF_len (k0 : Int) (n : Nat) : (marksF k0 n).length = n := by simp [marksF]
theorem marksF_at (k0 : Int) (n i : Nat) (h : i < n) : (marksF k0 n).getD i 0 = k0 + (i : Int) := by simp [marksF, List.getD, h]
def mixedF (k0 : Int) (l : List Int) (k i : Nat) : Int := if i < k then k0 + (i : Int) else l.getD i 0

/-- All is kept but what the row of n numbers in block g may have become. -/
structure Kept (g n : Nat) (w w' : World) : Prop where
  os : w'.os = w.os
  tape : w'.tape = w.tape
  output : w'.output = w.output
  size : w.heap.size ≤ w'.heap.size
  block : ∀ k, k < w.heap.size → n = 0 ∨ k ≠ g → w'.heap[k]? = w.heap[k]?

theorem Kept.refl (g n : Nat) (w : World) : Kept g n w w := ⟨rfl, rfl, rfl, Nat.le_refl _, fun _ _ _ => rfl⟩
theorem Kept.only {g n : Nat} {w w' : World} (h : Kept g n w w') : Mk.Only g w w' := ⟨h.os, h.tape, h.output, h.size, fun k hk hne => h.block k hk (.inr (by simpa using hne))⟩
theorem Kept.below {g n : Nat} {w w' : World} (h : Kept g n w w') (hn : n = 0) : Below w.heap.size w w' := ⟨h.os, h.tape, h.output, h.size, fun k hk => h.block k hk (.inl hn)⟩
theorem kept_of {g n : Nat} {w w' : World} (ho : Mk.Only g w w') (h0 : n = 0 → Below w.heap.size w w') : Kept g n w w' :=
  ⟨ho.os, ho.tape, ho.output, ho.size, fun k hk hne => by
    rcases hne with h | h
    · exact (h0 h).block k hk
    · exact ho.block k hk (by simpa using h)⟩

/-- All is kept but two rows. -/
structure Kept2 (g n g' n' : Nat) (w w' : World) : Prop where
  os : w'.os = w.os
  tape : w'.tape = w.tape
  output : w'.output = w.output
  size : w.heap.size ≤ w'.heap.size
  block : ∀ k, k < w.heap.size → n = 0 ∨ k ≠ g → n' = 0 ∨ k ≠ g' → w'.heap[k]? = w.heap[k]?

theorem kept2 {g n g' n' : Nat} {w w1 w2 : World} (h : Kept g n w w1) (h' : Kept g' n' w1 w2) : Kept2 g n g' n' w w2 :=
  ⟨h'.os.trans h.os, h'.tape.trans h.tape, h'.output.trans h.output, Nat.le_trans h.size h'.size, fun k hk hne hne' => (h'.block k (Nat.lt_of_lt_of_le hk h.size) hne').trans (h.block k hk hne)⟩
theorem Kept2.pre {g n g' n' : Nat} {w w1 w2 : World} (hb : Below w.heap.size w w1) (h : Kept2 g n g' n' w1 w2) : Kept2 g n g' n' w w2 :=
  ⟨h.os.trans hb.os, h.tape.trans hb.tape, h.output.trans hb.output, Nat.le_trans hb.size h.size, fun k hk hne hne' => (h.block k (Nat.lt_of_lt_of_le hk hb.size) hne hne').trans (hb.block k hk)⟩
theorem Kept2.below {g n g' n' B : Nat} {w0 w w' : World} (hb : Below B w0 w) (hB : B ≤ w.heap.size) (h : Kept2 g n g' n' w w') (hg : n = 0 ∨ B ≤ g) (hg' : n' = 0 ∨ B ≤ g') : Below B w0 w' :=
  hb.trans ⟨h.os, h.tape, h.output, h.size, fun k hk => h.block k (Nat.lt_of_lt_of_le hk hB) (hg.imp id (by omega)) (hg'.imp id (by omega))⟩
theorem Kept2.rd {g n g' n' : Nat} {w w' : World} {a : Option Addr} {b off : Nat} {l : List Int} (h : Kept2 g n g' n' w w') (hr : Rd w a b off l) (hne : l.length = 0 ∨ ((n = 0 ∨ b ≠ g) ∧ (n' = 0 ∨ b ≠ g'))) : Rd w' a b off l := by
  refine ⟨hr.head, fun i hi => ?_, hr.size⟩
  rcases hne with h0 | ⟨h1, h2⟩
  · omega
  · exact (World.cell?_of_block (h.block b (World.block_lt_of_cell? _ _ (hr.cell i hi)) h1 h2)).trans (hr.cell i hi)
theorem Kept2.wt {g n g' n' : Nat} {w w' : World} {a : Option Addr} {b : Nat} {l : List Int} (h : Kept2 g n g' n' w w') (hr : Wt w a b l) (hne : l.length = 0 ∨ ((n = 0 ∨ b ≠ g) ∧ (n' = 0 ∨ b ≠ g'))) : Wt w' a b l := by
  refine ⟨hr.head, fun i hi => ?_, fun i hi => ?_, hr.size⟩
  · have := (h.rd hr.rd hne).cell i hi
    simpa using this
  · rcases hne with h0 | ⟨h1, h2⟩
    · omega
    · have hb := h.block b (World.block_lt_of_cell? _ _ (hr.cell i hi)) h1 h2
      have := hr.free i hi
      simp only [World.frozen?, hb] at this ⊢
      exact this

theorem markF_step {w : World} {g n k : Nat} {k0 : Int} {l : List Int} (h : ∀ i, i < n → w.cell? ⟨g, i, none⟩ = some (.int .i64 (mixedF k0 l k i))) (hk : k < n) :
    ∀ i, i < n → (w.setCell ⟨g, k, none⟩ (.int .i64 (k0 + (k : Int)))).cell? ⟨g, i, none⟩ = some (.int .i64 (mixedF k0 l (k + 1) i)) := by
  intro i hi
  by_cases e : i = k
  · subst e
    rw [World.cell?_setCell_same _ _ _ (h i hi)]
    simp [mixedF]
  · rw [World.cell?_setCell_other _ _ _ _ (by intro q; injection q with q1 q2; exact e q2.symm), h i hi]
    have : (i < k + 1) = (i < k) := by rw [eq_iff_iff]; omega
    simp [mixedF, this]

set_option maxHeartbeats 1000000 in
theorem markF_any (k0 : Int) (h0 : 0 ≤ k0) (h1 : k0 ≤ 1000000000000) (a : Option Addr) (g cap : Nat) (l : List Int) (w : World) (h : Wt w a g l) :
    Calls Try.prog 57 #[.slice a l.length cap, .int .i64 k0] w fun e w' => e = .returned (.int .i64 (k0 + (l.length : Int))) ∧ Kept g l.length w w' ∧ Wt w' a g (marksF k0 l.length) := by
  obtain ⟨hh, hc, hf, hs⟩ := h
  obtain ⟨n, hn⟩ : ∃ n, n = l.length := ⟨_, rfl⟩
  rw [← hn] at hh hc hs hf ⊢
  clear hn
  go_enter Try.func57, Try.ntmps57
  go_wp2
  go_loopw [1, 5] (fun q i wr => ∃ k : Nat, k ≤ n ∧ i = .int .i64 k ∧ q = .int .i64 (k0 + (k : Int)) ∧ Kept g n w wr ∧ (∀ i, i < n → wr.cell? ⟨g, i, none⟩ = some (.int .i64 (mixedF k0 l k i))) ∧ ∀ i, i < n → wr.frozen? ⟨g, i, none⟩ = false) (fun _ i _ => n - (intOf i).toNat)
  case atStart => exact ⟨0, Nat.zero_le _, rfl, by simp, Kept.refl _ _ _, fun i hi => by rw [hc i hi]; simp [mixedF], hf⟩
  case round =>
    obtain ⟨k, hk, rfl, rfl, hon, hcl, hfr⟩ := hrel
    have HCL : Hid (∀ i, i < n → wr.cell? ⟨g, i, none⟩ = some (.int .i64 (mixedF k0 l k i))) := hcl
    have HFR : Hid (∀ i, i < n → wr.frozen? ⟨g, i, none⟩ = false) := hfr
    by_cases hlt : k < n
    · obtain rfl := hh (by omega)
      have hkz : (k : Int) < (n : Int) := by omega
      have g1 : wr.cell? ⟨g, k, none⟩ = some (.int .i64 (mixedF k0 l k k)) := hcl k hlt
      have g2 : wr.frozen? ⟨g, k, none⟩ = false := hfr k hlt
      clear hc hf hcl hfr
      go_wp2
      go_roundw
      case rel => exact ⟨k + 1, by omega, by go_num, by go_num, ⟨hon.os, hon.tape, hon.output, by simpa using hon.size, fun j hj hne => (Below.heap_setCell wr _ _ j (fun e => by simp at e; omega)).trans (hon.block j hj hne)⟩, by first | exact markF_step HCL.out hlt | simpa using markF_step HCL.out hlt, fun i hi => by simpa using HFR.out i hi⟩
      case measure => simp [intOf]; omega
    · have he : k = n := by omega
      subst he
      clear hc hf hcl hfr
      go_wp2
      go_ret
      refine ⟨rfl, hon, ⟨fun hp => hh (by simpa [marksF_len] using hp), fun i hi => ?_, fun i hi => HFR.out i (by simpa [marksF_len] using hi), by rw [marksF_len]; exact hs⟩⟩
      rw [marksF_len] at hi
      rw [HCL.out i hi, marksF_at _ _ _ hi]
      simp [mixedF, hi]

set_option maxHeartbeats 1000000 in
theorem heldF_any (k0 : Int) (h0 : 0 ≤ k0) (h1 : k0 ≤ 1000000000000) (a : Option Addr) (g cap n : Nat) (w : World) (h : Wt w a g (marksF k0 n)) :
    Calls Try.prog 58 #[.slice a n cap, .int .i64 k0] w fun e w' => e = .returned (.int .i64 (k0 + (n : Int))) ∧ w' = w := by
  obtain ⟨hh, hc, hf, hs⟩ := h
  rw [marksF_len] at hh hc hs hf
  clear hf
  go_enter Try.func58, Try.ntmps58
  go_wp2
  go_loop [1, 5] (fun q i => ∃ k : Nat, k ≤ n ∧ i = .int .i64 k ∧ q = .int .i64 (k0 + (k : Int))) (fun _ i => n - (intOf i).toNat)
  case atStart => exact ⟨0, Nat.zero_le _, rfl, by simp⟩
  case round =>
    obtain ⟨k, hk, rfl, rfl⟩ := hrel
    by_cases hlt : k < n
    · obtain rfl := hh (by omega)
      have hkz : (k : Int) < (n : Int) := by omega
      have g1 := hc k hlt
      rw [marksF_at k0 n k hlt] at g1
      clear hc
      go_wp2
      go_round
      case rel => exact ⟨k + 1, by omega, by go_num, by go_num⟩
      case measure => simp [intOf]; omega
    · have he : k = n := by omega
      subst he
      clear hc
      go_wp2
      go_ret
      exact ⟨rfl, rfl⟩

end Go.Proofs.Ytcbgnfjnjfaacaa.Mf
