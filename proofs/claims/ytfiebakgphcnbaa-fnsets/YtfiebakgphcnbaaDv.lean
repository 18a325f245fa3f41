/-
  Draws of words, texts and values.
-/
import Derived.Test.YtfiebakgphcnbaaDraw
import Derived.Deep.RegionHeld3
namespace Go.Proofs.Ytfiebakgphcnbaa.Dr
open Go Go.RowKit
set_option maxRecDepth 8000
set_option linter.unusedSimpArgs false
set_option linter.unusedVariables false
open Num Rw Pl

theorem cur_set {w : World} {g : Nat} {a : Option Addr} {b off cap : Nat} {l : List Int} {x : Addr} {u : Value} (h : Cur w g a b off cap l) (h1 : x.block ≠ g) (h2 : l.length = 0 ∨ b ≠ x.block) : Cur (w.setCell x u) g a b off cap l := by
  obtain ⟨⟨i, y, hblk, q1, q2⟩, hrd, hne⟩ := h
  refine ⟨⟨i, y, (Below.heap_setCell w x u g (fun e => h1 e.symm)).trans hblk, q1, q2⟩, ⟨hrd.head, fun j hj => ?_, hrd.size, hrd.byt⟩, hne⟩
  have hb' : b ≠ x.block := h2.resolve_left (by omega)
  exact (World.cell?_of_block (w := w) (Below.heap_setCell w x u b hb')).trans (hrd.cell j hj)
theorem cur_in {w : World} {g : Nat} {a : Option Addr} {b off cap : Nat} {l : List Int} (h : Cur w g a b off cap l) : g < w.heap.size ∧ (l.length = 0 ∨ b < w.heap.size) := ⟨cur_lt h, rd_lt h.rd⟩
theorem cur_alloc {w : World} {g : Nat} {a : Option Addr} {b off cap : Nat} {l : List Int} (h : Cur w g a b off cap l) (o : Obj) : Cur (w.alloc o) g a b off cap l :=
  cur_keep h (fun k hk => (below_alloc1 w o).block k hk) (cur_in h).1 (cur_in h).2
theorem only_set {g : Nat} {w w1 : World} {x : Addr} {u : Value} (h : Only g w w1) (hx : w.heap.size ≤ x.block) : Only g w (w1.setCell x u) :=
  ⟨h.os, h.tape, h.output, by simpa using h.size, fun k hk hne => (Below.heap_setCell w1 x u k (by omega)).trans (h.block k hk hne)⟩
theorem only_new {g : Nat} {w w1 w2 : World} {o : Obj} (h : Only g w w1) (k : Only g (w1.alloc o) w2) : Only g w w2 := only_trans (only_alloc h o) k
theorem only_at {g n : Nat} {w w1 : World} {o : Obj} (h : Only g w w1) (k : w.heap[n]? = some o) (hne : n ≠ g) : w1.heap[n]? = some o :=
  (h.block n (blk_lt k) (fun e => hne (by injection e))).trans k

def strsB (A : Array Value) (n : Nat) : Bool := (List.range n).all fun k => match A[k]? with | some (.string s) => decide (s.size ≤ 100) | _ => false
theorem strs_at {A : Array Value} {n k : Nat} (h : strsB A n = true) (hk : k < n) : ∃ s, A[k]? = some (.string s) ∧ s.size ≤ 100 := by
  have := List.all_eq_true.1 h k (by simpa using hk)
  revert this
  cases e : A[k]? with
  | none => simp
  | some v =>
    cases v with
    | string s => simp
    | _ => simp
theorem row_str {g n k : Nat} {w w1 : World} {A : Array Value} (h : Only g (w.alloc (.cells A 9)) w1) (hg : g < w.heap.size) (hA : strsB A n = true) (hk : k < n) :
    ∃ s, w1.cell? ⟨w.heap.size, k, none⟩ = some (.string s) ∧ s.size ≤ 100 := by
  obtain ⟨s, e, hs⟩ := strs_at hA hk
  have q := only_at h (at_new (t := 9) rfl) (by omega)
  exact ⟨s, by simp [World.cell?, q, e], hs⟩

theorem num6_any (g : Nat) (a : Option Addr) (b off cap : Nat) (l : List Int) (w : World) (h : Cur w g a b off cap l) :
    Calls Try.prog 118 #[.pointer (some ⟨g, 0, none⟩)] w fun e w' => ∃ x : Int, e = .returned (.int .i64 x) ∧ Cur w' g a b off cap l ∧ Only g w w' := by
  have hC := h
  have hO := Only.refl g w
  clear h
  go_enter Try.func118, Try.ntmps118
  go_wp2_with (go_at_call 81; refine (below_any _ _ _ _ _ _ _ _ hC (by omega) (by omega)).mono ?_; rintro e w1 ⟨x, rfl, x0, x1, hC1, hO1⟩; replace hO := only_trans hO hO1; replace hC := hC1; clear hC1 hO1)
  all_goals
    go_ret
    exact ⟨_, rfl, hC, hO⟩

set_option maxHeartbeats 1000000 in
theorem word_any (g : Nat) (a : Option Addr) (b off cap : Nat) (l : List Int) (w : World) (h : Cur w g a b off cap l) :
    Calls Try.prog 117 #[.pointer (some ⟨g, 0, none⟩)] w fun e w' => ∃ s : ByteArray, e = .returned (.string s) ∧ s.size ≤ 100 ∧ Cur w' g a b off cap l ∧ Only g w w' := by
  have hg := (cur_in h).1
  have hC := h
  clear h
  go_enter Try.func117, Try.ntmps117
  go_wp2_with (go_at_call 81; refine (below_any _ _ _ _ _ _ _ _ (cur_alloc hC _) (by omega) (by omega)).mono ?_; rintro e w1 ⟨x, rfl, x0, x1, hC1, hO1⟩; obtain ⟨k, rfl⟩ := Int.eq_ofNat_of_zero_le x0; obtain ⟨s, hs, hz⟩ := row_str hO1 hg (n := 10) rfl (by omega : k < 10))
  go_ret
  exact ⟨_, rfl, hz, hC1, only_new (Only.refl _ _) hO1⟩
set_option maxHeartbeats 1000000 in
theorem text_any (g : Nat) (a : Option Addr) (b off cap : Nat) (l : List Int) (w : World) (h : Cur w g a b off cap l) :
    Calls Try.prog 116 #[.pointer (some ⟨g, 0, none⟩)] w fun e w' => ∃ s : ByteArray, e = .returned (.string s) ∧ s.size ≤ 100 ∧ Cur w' g a b off cap l ∧ Only g w w' := by
  have hg := (cur_in h).1
  have hC := h
  clear h
  go_enter Try.func116, Try.ntmps116
  go_wp2_with (go_at_call 81; refine (below_any _ _ _ _ _ _ _ _ (cur_alloc hC _) (by omega) (by omega)).mono ?_; rintro e w1 ⟨x, rfl, x0, x1, hC1, hO1⟩; obtain ⟨k, rfl⟩ := Int.eq_ofNat_of_zero_le x0; obtain ⟨s, hs, hz⟩ := row_str hO1 hg (n := 18) rfl (by omega : k < 18))
  go_ret
  exact ⟨_, rfl, hz, hC1, only_new (Only.refl _ _) hO1⟩

end Go.Proofs.Ytfiebakgphcnbaa.Dr
