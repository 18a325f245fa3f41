/-
  Marks in bytes looked at again; bytes of the call's own as they may be written.
-/
import Derived.Test.YtecnbenlmbppbaaSx
namespace Go.Proofs.Ytecnbenlmbppbaa.Mk
open Go.RowKit
set_option maxRecDepth 8000
open Num Rw

theorem held_any (a : Option Addr) (g cap n : Nat) (w : World) (h : Wt w a g (marks n)) :
    Calls Try.prog 22 #[.slice a n cap, .int .i64 1] w fun e w' => e = .returned (.int .i64 (1 + (n : Int))) ∧ w' = w := by
  obtain ⟨hh, hc, hf, hs, hy⟩ := h
  rw [marks_len] at hh hc hs hf
  clear hf hy
  go_enter Try.func22, Try.ntmps22
  go_wp2
  go_loop [1, 5] (fun q i => ∃ k : Nat, k ≤ n ∧ i = .int .i64 k ∧ q = .int .i64 (1 + (k : Int))) (fun _ i => n - (intOf i).toNat)
  case atStart => exact ⟨0, Nat.zero_le _, rfl, rfl⟩
  case round =>
    obtain ⟨k, hk, rfl, rfl⟩ := hrel
    by_cases hlt : k < n
    · obtain rfl := hh (by omega)
      have hkz : (k : Int) < (n : Int) := by omega
      have g1 := hc k hlt
      rw [marks_at n k hlt] at g1
      clear hc
      go_wp2
      go_round
      case rel => exact ⟨k + 1, by omega, by go_num, by go_num⟩
      case measure => simp [intOf]; omega
    · have he : k = n := by omega
      subst he
      clear hc
      go_wp2
      go_ret
      exact ⟨rfl, rfl⟩
theorem Wt.keep {w w' : World} {a : Option Addr} {g : Nat} {l : List Int} (h : Wt w a g l) (hk : l.length ≠ 0 → w'.heap[g]? = w.heap[g]?) : Wt w' a g l :=
  ⟨h.head, fun i hi => (World.cell?_of_block (hk (by omega))).trans (h.cell i hi), fun i hi => (World.frozen?_of_block (hk (by omega))).trans (h.free i hi), h.size, h.byt⟩
theorem Wt.lt {w : World} {a : Option Addr} {g : Nat} {l : List Int} (h : Wt w a g l) (h0 : l.length ≠ 0) : g < w.heap.size := World.block_lt_of_cell? _ _ (h.cell 0 (by omega))

end Go.Proofs.Ytecnbenlmbppbaa.Mk
namespace Go.Proofs.Ytecnbenlmbppbaa.Sw
open Go Go.RowKit
theorem own_wt {w : World} {B : Nat} {v : Value} {l : List Int} (h : OwnI w B v l) (hs : l.length ≤ 4194304) (hy : Rw.Byt l) : ∃ a g c, v = .slice a l.length c ∧ Mk.Wt w a g l ∧ B ≤ g := by
  rcases h.2 with ⟨rfl, h0⟩ | ⟨g, cap, cur, rfl, hb, hh, _⟩
  · have e : l = [] := List.eq_nil_of_length_eq_zero h0
    subst e
    exact ⟨none, B, 0, rfl, Mk.Wt.nil _ _ _, Nat.le_refl _⟩
  · refine ⟨_, g, cap, rfl, ⟨fun _ => rfl, fun i hi => ?_, fun i _ => by simp [World.frozen?, hh], hs, hy⟩, hb⟩
    have := h.cells (g := g) rfl i (.int .u8 (l.getD i 0)) (by simp [hi, List.getD])
    by_cases ei : i = 0
    · subst ei; simpa [Addr.add] using this
    · simpa [Addr.add, ei] using this
end Go.Proofs.Ytecnbenlmbppbaa.Sw
