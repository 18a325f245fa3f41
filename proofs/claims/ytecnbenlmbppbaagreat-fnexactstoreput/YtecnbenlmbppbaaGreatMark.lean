/-
  Contracts of the law's helpers that write marks into a slice of bytes and look whether they are held.
-/
import Derived.Test.YtecnbenlmbppbaaGreatRow
namespace Go.Proofs.YtecnbenlmbppbaaGreat.Mk
open Go.RowKit
set_option maxRecDepth 8000
open Num Rw

/-- The slice at 'a' (its head at the head of block g, where it is not empty) reads as the bytes l, and may be written. -/
structure Wt (w : World) (a : Option Addr) (g : Nat) (l : List Int) : Prop where
  head : 0 < l.length → a = some ⟨g, 0, none⟩
  cell : ∀ i, i < l.length → w.cell? ⟨g, i, none⟩ = some (.int .u8 (l.getD i 0))
  free : ∀ i, i < l.length → w.frozen? ⟨g, i, none⟩ = false
  size : l.length ≤ 4194304
  byt : Byt l

theorem Wt.rd {w : World} {a : Option Addr} {g : Nat} {l : List Int} (h : Wt w a g l) : Rd w a g 0 l :=
  ⟨h.head, fun i hi => by simpa using h.cell i hi, h.size, h.byt⟩
theorem mine_wt {w : World} {g : Nat} {l : List Int} (h : Mine w g l) : Wt w (some ⟨g, 0, none⟩) g l :=
  ⟨fun _ => rfl, fun _ hi => h.row.cell hi, fun i _ => h.row.frozen i, h.size, h.byt⟩
theorem Wt.nil (w : World) (a : Option Addr) (g : Nat) : Wt w a g [] := ⟨fun h => by simp at h, fun i h => by simp at h, fun i h => by simp at h, by simp, fun n h => by simp at h⟩
theorem Wt.below {w w' : World} {a : Option Addr} {g : Nat} {l : List Int} (h : Wt w a g l) (hb : Below w.heap.size w w') : Wt w' a g l :=
  ⟨h.head, fun i hi => (hb.cell (World.block_lt_of_cell? _ _ (h.cell i hi))).trans (h.cell i hi), fun i hi => (hb.frozen (World.block_lt_of_cell? _ _ (h.cell i hi))).trans (h.free i hi), h.size, h.byt⟩

/-- Everything but block g is as it was. -/
def Only (g : Nat) (w w' : World) : Prop := w.grownBy w' (some g)
theorem Only.refl (g : Nat) (w : World) : Only g w w := ⟨rfl, rfl, rfl, Nat.le_refl _, fun _ _ _ => rfl⟩
theorem Only.set {g o : Nat} {w w' : World} (h : Only g w w') (u : Value) : Only g w (w'.setCell ⟨g, o, none⟩ u) :=
  ⟨h.os, h.tape, h.output, by simpa using h.size, fun k hk hne => (Below.heap_setCell w' _ u k (fun e => hne (by rw [e]))).trans (h.block k hk hne)⟩
theorem Only.below {g B : Nat} {w w1 w2 : World} (h : Only g w1 w2) (hb : Below B w w1) (hB : B ≤ w1.heap.size) (hg : B ≤ g) : Below B w w2 :=
  hb.grown h hB (fun k hk => by simp at hk; omega)
theorem Only.rd {g : Nat} {w w' : World} {a : Option Addr} {b off : Nat} {l : List Int} (h : Only g w w') (hr : Rd w a b off l) (hne : b ≠ g) : Rd w' a b off l :=
  ⟨hr.head, fun i hi => h.cell (hr.cell i hi) (by simpa using hne), hr.size, hr.byt⟩

/-- The marks. -/
def marks (n : Nat) : List Int := (List.range n).map (fun i : Nat => (1 + (i : Int)) % 256)
theorem marks_len (n : Nat) : (marks n).length = n := by simp [marks]
theorem marks_at (n i : Nat) (h : i < n) : (marks n).getD i 0 = (1 + (i : Int)) % 256 := by simp [marks, List.getD, h]
theorem marks_byt (n : Nat) : Byt (marks n) := by
  intro x hx
  simp only [marks, List.mem_map] at hx
  obtain ⟨i, _, rfl⟩ := hx
  omega

def mixed (l : List Int) (k i : Nat) : Int := if i < k then (1 + (i : Int)) % 256 else l.getD i 0

theorem mark_step {w : World} {g n k : Nat} {l : List Int} (h : ∀ i, i < n → w.cell? ⟨g, i, none⟩ = some (.int .u8 (mixed l k i))) (hk : k < n) :
    ∀ i, i < n → (w.setCell ⟨g, k, none⟩ (.int .u8 ((1 + (k : Int)) % 256))).cell? ⟨g, i, none⟩ = some (.int .u8 (mixed l (k + 1) i)) := by
  intro i hi
  by_cases e : i = k
  · subst e
    rw [World.cell?_setCell_same _ _ _ (h i hi)]
    simp [mixed]
  · rw [World.cell?_setCell_other _ _ _ _ (by intro q; injection q with q1 q2; exact e q2.symm), h i hi]
    have : (i < k + 1) = (i < k) := by rw [eq_iff_iff]; omega
    simp [mixed, this]

set_option maxHeartbeats 1000000 in
theorem mark_any (a : Option Addr) (g cap : Nat) (l : List Int) (w : World) (h : Wt w a g l) :
    Calls Tryz.prog 30 #[.slice a l.length cap, .int .i64 1] w fun e w' => e = .returned (.int .i64 (1 + (l.length : Int))) ∧ Only g w w' ∧ Wt w' a g (marks l.length) := by
  obtain ⟨hh, hc, hf, hs, hy⟩ := h
  obtain ⟨n, hn⟩ : ∃ n, n = l.length := ⟨_, rfl⟩
  rw [← hn] at hh hc hs hf ⊢
  go_enter Tryz.func30, Tryz.ntmps30
  go_wp2
  go_loopw [1, 5] (fun q i wr => ∃ k : Nat, k ≤ n ∧ i = .int .i64 k ∧ q = .int .i64 (1 + (k : Int)) ∧ Only g w wr ∧ (∀ i, i < n → wr.cell? ⟨g, i, none⟩ = some (.int .u8 (mixed l k i))) ∧ ∀ i, i < n → wr.frozen? ⟨g, i, none⟩ = false) (fun _ i _ => n - (intOf i).toNat)
  case atStart => exact ⟨0, Nat.zero_le _, rfl, rfl, Only.refl _ _, fun i hi => by rw [hc i hi]; simp [mixed], hf⟩
  case round =>
    obtain ⟨k, hk, rfl, rfl, hon, hcl, hfr⟩ := hrel
    have HCL : Hid (∀ i, i < n → wr.cell? ⟨g, i, none⟩ = some (.int .u8 (mixed l k i))) := hcl
    have HFR : Hid (∀ i, i < n → wr.frozen? ⟨g, i, none⟩ = false) := hfr
    by_cases hlt : k < n
    · obtain rfl := hh (by omega)
      have hkz : (k : Int) < (n : Int) := by omega
      have g1 : wr.cell? ⟨g, k, none⟩ = some (.int .u8 (mixed l k k)) := hcl k hlt
      have g2 : wr.frozen? ⟨g, k, none⟩ = false := hfr k hlt
      clear hc hf hcl hfr
      go_wp2
      go_roundw
      case rel => exact ⟨k + 1, by omega, by go_num, by go_num, hon.set _, by first | exact mark_step HCL.out hlt | simpa using mark_step HCL.out hlt, fun i hi => by simpa using HFR.out i hi⟩
      case measure => simp [intOf]; omega
    · have he : k = n := by omega
      subst he
      clear hc hf hcl hfr
      go_wp2
      go_ret
      refine ⟨rfl, hon, ⟨fun hp => hh (by simpa [marks_len] using hp), fun i hi => ?_, fun i hi => HFR.out i (by simpa [marks_len] using hi), by rw [marks_len]; exact hs, marks_byt _⟩⟩
      rw [marks_len] at hi
      rw [HCL.out i hi, marks_at _ _ hi]
      simp [mixed, hi]

end Go.Proofs.YtecnbenlmbppbaaGreat.Mk
