/-
  Contracts of the specification's draws, more: a new cursor, bytes, and what DrawPutNum draws.
-/
import Derived.Test.YtbplpfcplpoeiaaDraw
namespace Go.Proofs.Ytbplpfcplpoeiaa.Dr
open Go.RowKit
open Num Rw Mk Un Put

theorem cur_new {w : World} {a : Option Addr} {b off cap : Nat} {l : List Int} (h : Rd w a b off l) (x : Int) : Cur (w.alloc (.cells #[.slice a l.length cap, .int .i64 0, .int .i64 x] 83)) w.heap.size a b off cap l :=
  ⟨⟨0, x, heap_alloc_new _ _, Int.le_refl _, by omega⟩, h.below ((Below.refl _ _).alloc (Nat.le_refl _) _), by
    rcases Nat.eq_zero_or_pos l.length with h0 | h0
    · exact .inl h0
    · have := World.block_lt_of_cell? _ _ (h.cell 0 h0); simp at this; exact .inr (by omega)⟩

/-- Where the bytes lie that are read. -/
theorem rd_lt {w : World} {a : Option Addr} {b off : Nat} {l : List Int} (h : Rd w a b off l) : l.length = 0 ∨ b < w.heap.size := by
  rcases Nat.eq_zero_or_pos l.length with h0 | h0
  · exact .inl h0
  · exact .inr (World.block_lt_of_cell? _ _ (h.cell 0 h0))
theorem cur_lt {w : World} {g : Nat} {a : Option Addr} {b off cap : Nat} {l : List Int} (h : Cur w g a b off cap l) : g < w.heap.size := by
  obtain ⟨i, x, hb, _⟩ := h.blk
  exact lt_of_block hb

/-- A cursor is kept where the blocks below B are, and it and its bytes lie below B. -/
theorem cur_keep {w w' : World} {B g : Nat} {a : Option Addr} {b off cap : Nat} {l : List Int} (h : Cur w g a b off cap l) (hk : ∀ k, k < B → w'.heap[k]? = w.heap[k]?) (hg : g < B) (hb : l.length = 0 ∨ b < B) : Cur w' g a b off cap l := by
  obtain ⟨⟨i, x, hblk, h1, h2⟩, hrd, hne⟩ := h
  refine ⟨⟨i, x, (hk g hg).trans hblk, h1, h2⟩, ⟨hrd.head, fun j hj => ?_, hrd.size, hrd.byt⟩, hne⟩
  have hb' : b < B := by omega
  exact (World.cell?_of_block (w := w) (hk b hb')).trans (hrd.cell j hj)

theorem hasI_only {w w' : World} {B g : Nat} {v : Value} {l : List Int} (h : HasI w B v l) (ho : Only g w w') (hg : g < B) : HasI w' B v l := by
  refine ⟨h.1.kept ho ?_, h.2⟩
  cases hv : v.ownBlock with
  | none => exact .inl rfl
  | some k => exact .inr (fun e => by have := (h.1.lt k hv).1; injection e with e; omega)

theorem only_alloc {g : Nat} {w w' : World} (h : Only g w w') (o : Obj) : Only g w (w'.alloc o) :=
  ⟨h.os, h.tape, h.output, by have := h.size; simp; omega, fun k hk hne => (Below.heap_alloc w' o k (Nat.lt_of_lt_of_le hk h.size)).trans (h.block k hk hne)⟩
theorem only_grown {g : Nat} {w w1 w2 : World} {row : Option Nat} (h : Only g w w1) (hg : w1.grownBy w2 row) (hr : ∀ k, row = some k → w.heap.size ≤ k) : Only g w w2 :=
  ⟨hg.os.trans h.os, hg.tape.trans h.tape, hg.output.trans h.output, Nat.le_trans h.size hg.size, fun k hk hne => (hg.block k (Nat.lt_of_lt_of_le hk h.size) (fun e => by have := hr k e.symm; omega)).trans (h.block k hk hne)⟩
theorem hasI_app {wr w1 : World} {B : Nat} {v v' : Value} {l : List Int} {x : Int} (_h : HasI wr B v l)
    (h' : w1.ownsRow B 5 1 v' (l.length + 1) (l.map (Value.int .u8) ++ [.int .u8 x])) (hn : v' = .slice none 0 0 ↔ v = .slice none 0 0 ∧ 1 = 0) : HasI w1 B v' (l ++ [x]) := by
  refine ⟨by simpa using h', fun e => ?_⟩
  have := hn.1 e; simp at this

set_option maxHeartbeats 2000000 in
theorem new_any (a : Option Addr) (b off cap : Nat) (l : List Int) (w : World) (h : Rd w a b off l) :
    Calls Try.prog 46 #[.slice a l.length cap] w fun e w' => e = .returned (.pointer (some ⟨w.heap.size, 0, none⟩)) ∧ Cur w' w.heap.size a b off cap l ∧ Below w.heap.size w w' := by
  have hs := h.size
  have hy := h.byt
  have hh := h.head
  have hc := h.cell
  go_enter Try.func46, Try.ntmps46
  go_wp2
  go_loop [3, 4] (fun t i => ∃ k : Nat, k ≤ l.length ∧ i = .int .i64 k ∧ ∃ x : Int, t = .int .i64 x) (fun _ i => l.length - (intOf i).toNat)
  case atStart => exact ⟨0, Nat.zero_le _, rfl, _, rfl⟩
  case round =>
    obtain ⟨k, hk, rfl, x, rfl⟩ := hrel
    by_cases hlt : k < l.length
    · have hkz : (k : Int) < (l.length : Int) := by omega
      by_cases h4 : (k : Int) < 4000
      · obtain rfl := hh (by omega)
        have g0 := hc k hlt
        clear hc hy hh
        go_wp2
        go_round
        case rel => exact ⟨k + 1, by omega, by go_num, _, rfl⟩
        case measure => simp [intOf]; omega
      · clear hc hy hh
        go_wp2
        go_ret
        exact ⟨rfl, cur_new h _, (Below.refl _ _).alloc (Nat.le_refl _) _⟩
    · have hkz : ¬ (k : Int) < (l.length : Int) := by omega
      clear hc hy hh
      go_wp2
      go_ret
      exact ⟨rfl, cur_new h _, (Below.refl _ _).alloc (Nat.le_refl _) _⟩


theorem byt_zeros (n : Nat) : Byt (List.replicate n 0) := fun x hx => by have := List.eq_of_mem_replicate hx; omega
theorem mine_made (w : World) (n : Nat) (h : n ≤ 4194304) : Mine (w.alloc (.cells (madeCells #[.int .u8 0] n) 5)) w.heap.size (List.replicate n 0) := by
  refine ⟨?_, by simpa using h, byt_zeros n⟩
  rw [List.length_replicate]
  refine (World.rowIs_made w (.int .u8 0) n 5).congr fun i hi => ?_
  simp [List.getD, hi]

theorem ret3 {gb n c m : Nat} {x y : Int} (h : n = m) : Ending.returned (.tuple #[.slice (some ⟨gb, 0, none⟩) n c, .int .i64 x, .int .i64 y]) = .returned (.tuple #[.slice (some ⟨gb, 0, none⟩) m c, .int .i64 x, .int .i64 y]) := by rw [h]

end Go.Proofs.Ytbplpfcplpoeiaa.Dr
