/-
  Texts of one claim, laid together: Draw, Drawb, Tg, Dp, Mr, Mm, Mu, Da.
-/
import Derived.Test.YtkakdldhinimoaaPut
import Derived.Test.YtkakdldhinimoaaApp
import Derived.Test.YtkakdldhinimoaaPf
import Derived.Test.YtkakdldhinimoaaXp
import Derived.Test.YtkakdldhinimoaaBw
namespace Go.Proofs.Ytkakdldhinimoaa.Dr
open Go.RowKit
open Num Rw Mk Un Put

/-- A cursor at block g over the bytes l of the slice at a. -/
structure Cur (w : World) (g : Nat) (a : Option Addr) (b off cap : Nat) (l : List Int) : Prop where
  blk : ∃ i h : Int, w.heap[g]? = some (.cells #[.slice a l.length cap, .int .i64 i, .int .i64 h] 136 (0, 0)) ∧ 0 ≤ i ∧ i ≤ (l.length : Int)
  rd : Rd w a b off l
  ne : l.length = 0 ∨ b ≠ g

theorem three0 {w : World} {g : Nat} {x y z : Value} {t : TypeId} (h : w.heap[g]? = some (.cells #[x, y, z] t (0, 0))) : w.cell? ⟨g, 0, none⟩ = some x := by simp [World.cell?, h]
theorem three1 {w : World} {g : Nat} {x y z : Value} {t : TypeId} (h : w.heap[g]? = some (.cells #[x, y, z] t (0, 0))) : w.cell? ⟨g, 1, none⟩ = some y := by simp [World.cell?, h]
theorem three2 {w : World} {g : Nat} {x y z : Value} {t : TypeId} (h : w.heap[g]? = some (.cells #[x, y, z] t (0, 0))) : w.cell? ⟨g, 2, none⟩ = some z := by simp [World.cell?, h]
theorem threef {w : World} {g : Nat} {x y z : Value} {t : TypeId} (h : w.heap[g]? = some (.cells #[x, y, z] t (0, 0))) (o : Nat) : w.frozen? ⟨g, o, none⟩ = false := by simp [World.frozen?, h]
theorem three_set {w : World} {g o : Nat} {c : Array Value} {t : TypeId} (h : w.heap[g]? = some (.cells c t (0, 0))) (u : Value) : (w.setCell ⟨g, o, none⟩ u).heap[g]? = some (.cells (c.setIfInBounds o u) t (0, 0)) := by
  simp [World.setCell, Array.getElem?_modify, h]

theorem and255 (y : Int) : 0 ≤ bits .and .i64 y 255 ∧ bits .and .i64 y 255 ≤ 255 := by
  have hle : (BitVec.ofInt 64 y &&& BitVec.ofInt 64 255).toNat ≤ 255 := by
    rw [BitVec.toNat_and]
    exact Nat.le_trans Nat.and_le_right (by decide)
  have e : bits .and .i64 y 255 = IntKind.i64.wrap ((BitVec.ofInt 64 y &&& BitVec.ofInt 64 255).toNat : Int) := rfl
  rw [e, Get.wraps_i64 _ (by omega) (by omega)]
  omega

theorem only_drewN {g : Nat} {w w' : World} (h : Only g w w') (n : Nat) : Only g w (w'.drewN n) := ⟨h.os, h.tape, h.output, h.size, h.block⟩
theorem only_trans {g : Nat} {w w1 w2 : World} (h : Only g w w1) (k : Only g w1 w2) : Only g w w2 :=
  ⟨k.os.trans h.os, k.tape.trans h.tape, k.output.trans h.output, Nat.le_trans h.size k.size, fun q hq hne => (k.block q (Nat.lt_of_lt_of_le hq h.size) hne).trans (h.block q hq hne)⟩
theorem rd_drewN {w : World} {a : Option Addr} {b off : Nat} {l : List Int} (h : Rd w a b off l) (n : Nat) : Rd (w.drewN n) a b off l := ⟨h.head, h.cell, h.size, h.byt⟩

set_option maxHeartbeats 2000000 in
theorem byte_any (g : Nat) (a : Option Addr) (b off cap : Nat) (l : List Int) (w : World) (h : Cur w g a b off cap l) :
    Calls Try.prog 108 #[.pointer (some ⟨g, 0, none⟩)] w fun e w' => ∃ x : Int, e = .returned (.int .i64 x) ∧ 0 ≤ x ∧ x ≤ 255 ∧ Cur w' g a b off cap l ∧ Only g w w' := by
  obtain ⟨⟨i, hh, hblk, hi0, hil⟩, hrd, hne⟩ := h
  have c0 := three0 hblk
  have c1 := three1 hblk
  have c2 := three2 hblk
  have f1 := threef hblk 1
  have f2 := threef hblk 2
  have hs := hrd.size
  by_cases hlt : i < (l.length : Int)
  · obtain ⟨k, rfl⟩ : ∃ k : Nat, i = k := ⟨i.toNat, by omega⟩
    have hkl : k < l.length := by omega
    have hb := hrd.head (by omega)
    subst hb
    have g0 := hrd.cell k hkl
    have hbg : b ≠ g := by omega
    go_enter Try.func108, Try.ntmps108
    go_wp2
    generalize wrap64 (wrap64 (hh * 6364136223846793005) + 1442695040888963407) = h1
    have hb1 := three_set (o := 2) hblk (.int .i64 h1)
    simp at hb1
    have ho1 : Only g w (w.setCell ⟨g, 2, none⟩ (.int .i64 h1)) := (Only.refl g w).set _
    have hrd1 := rd_only ho1 hrd hne
    clear hblk c0 c1 c2 f1 f2 g0 hrd
    generalize w.setCell ⟨g, 2, none⟩ (.int .i64 h1) = w1 at *
    have c0 := three0 hb1
    have c1 := three1 hb1
    have c2 := three2 hb1
    have f1 := threef hb1 1
    have g0 := hrd1.cell k hkl
    go_quiet (fail)
    go_wp2
    go_quiet (fail)
    go_wp2
    go_quiet (fail)
    go_wp2
    go_ret
    exact ⟨_, rfl, (and255 _).1, (and255 _).2, ⟨⟨(k : Int) + 1, h1, by simpa using three_set (w := w1.drewN _) (o := 1) hb1 (.int .i64 ((k : Int) + 1)), by omega, by omega⟩, rd_only ((Only.refl g (w1.drewN _)).set _) (rd_drewN hrd1 _) hne, hne⟩, (only_drewN ho1 _).set _⟩
  · go_enter Try.func108, Try.ntmps108
    go_wp2
    generalize wrap64 (wrap64 (hh * 6364136223846793005) + 1442695040888963407) = h1
    have hb1 := three_set (o := 2) hblk (.int .i64 h1)
    simp at hb1
    have ho1 : Only g w (w.setCell ⟨g, 2, none⟩ (.int .i64 h1)) := (Only.refl g w).set _
    have hrd1 := rd_only ho1 hrd hne
    clear hblk c0 c1 c2 f1 f2 hrd
    generalize w.setCell ⟨g, 2, none⟩ (.int .i64 h1) = w1 at *
    have c0 := three0 hb1
    have c1 := three1 hb1
    have c2 := three2 hb1
    go_quiet (fail)
    go_wp2
    go_quiet (fail)
    go_wp2
    go_ret
    exact ⟨_, rfl, (and255 _).1, (and255 _).2, ⟨⟨i, h1, hb1, by omega, by omega⟩, rd_drewN (rd_drewN hrd1 _) _, hne⟩, only_drewN (only_drewN ho1 _) _⟩

/-- A number below n, n above 0. -/
theorem below_any (g : Nat) (a : Option Addr) (b off cap : Nat) (l : List Int) (n : Int) (w : World) (h : Cur w g a b off cap l) (hn : 1 ≤ n) (hn6 : n ≤ 4294967296) :
    Calls Try.prog 88 #[.pointer (some ⟨g, 0, none⟩), .int .i64 n] w fun e w' => ∃ x : Int, e = .returned (.int .i64 x) ∧ 0 ≤ x ∧ x < n ∧ Cur w' g a b off cap l ∧ Only g w w' := by
  have h0 : ¬ n ≤ 0 := by omega
  by_cases hs : n ≤ 256
  · go_enter Try.func88, Try.ntmps88
    go_wp2_with (go_at_call 108; refine (byte_any _ _ _ _ _ _ _ h).mono ?_; rintro e w1 ⟨x, rfl, x0, x1, hc1, ho1⟩)
    go_ret
    exact ⟨_, rfl, Int.emod_nonneg _ (by omega), Int.emod_lt_of_pos _ (by omega), hc1, ho1⟩
  · go_enter Try.func88, Try.ntmps88
    go_wp2_with (go_at_call 108; refine (byte_any _ _ _ _ _ _ _ h).mono ?_; rintro e w1 ⟨x, rfl, x0, x1, hc1, ho1⟩)
    go_wp2_with (go_at_call 108; refine (byte_any _ _ _ _ _ _ _ hc1).mono ?_; rintro e w2 ⟨y, rfl, y0, y1, hc2, ho2⟩)
    go_wp2_with (go_at_call 108; refine (byte_any _ _ _ _ _ _ _ hc2).mono ?_; rintro e w3 ⟨z, rfl, z0, z1, hc3, ho3⟩)
    go_wp2_with (go_at_call 108; refine (byte_any _ _ _ _ _ _ _ hc3).mono ?_; rintro e w4 ⟨v, rfl, v0, v1, hc4, ho4⟩)
    go_ret
    exact ⟨_, rfl, Int.emod_nonneg _ (by omega), Int.emod_lt_of_pos _ (by omega), hc4, only_trans (only_trans (only_trans ho1 ho2) ho3) ho4⟩

theorem powI (x : Int) (w : World) (h0 : 0 ≤ x) (h6 : x ≤ 6) :
    Calls Try.prog 103 #[.int .i64 x] w fun e w' => e = .returned (.int .i64 (pw x.toNat)) ∧ w' = w := by
  obtain ⟨k, rfl⟩ : ∃ k : Nat, x = k := ⟨x.toNat, by omega⟩
  simpa using pow_any k (by omega) w

end Go.Proofs.Ytkakdldhinimoaa.Dr

namespace Go.Proofs.Ytkakdldhinimoaa.Dr
open Go.RowKit
open Num Rw Mk Un Put

theorem cur_new {w : World} {a : Option Addr} {b off cap : Nat} {l : List Int} (h : Rd w a b off l) (x : Int) : Cur (w.alloc (.cells #[.slice a l.length cap, .int .i64 0, .int .i64 x] 136)) w.heap.size a b off cap l :=
  ⟨⟨0, x, heap_alloc_new _ _, Int.le_refl _, by omega⟩, h.below ((Below.refl _ _).alloc (Nat.le_refl _) _), by
    rcases Nat.eq_zero_or_pos l.length with h0 | h0
    · exact .inl h0
    · have := World.block_lt_of_cell? _ _ (h.cell 0 h0); simp at this; exact .inr (by omega)⟩

/-- Where the bytes lie that are read. -/
theorem rd_lt {w : World} {a : Option Addr} {b off : Nat} {l : List Int} (h : Rd w a b off l) : l.length = 0 ∨ b < w.heap.size := by
  rcases Nat.eq_zero_or_pos l.length with h0 | h0
  · exact .inl h0
  · exact .inr (World.block_lt_of_cell? _ _ (h.cell 0 h0))
theorem cur_lt {w : World} {g : Nat} {a : Option Addr} {b off cap : Nat} {l : List Int} (h : Cur w g a b off cap l) : g < w.heap.size := by
  obtain ⟨i, x, hb, _⟩ := h.blk
  exact lt_of_block hb

/-- A cursor is kept where the blocks below B are, and it and its bytes lie below B. -/
theorem cur_keep {w w' : World} {B g : Nat} {a : Option Addr} {b off cap : Nat} {l : List Int} (h : Cur w g a b off cap l) (hk : ∀ k, k < B → w'.heap[k]? = w.heap[k]?) (hg : g < B) (hb : l.length = 0 ∨ b < B) : Cur w' g a b off cap l := by
  obtain ⟨⟨i, x, hblk, h1, h2⟩, hrd, hne⟩ := h
  refine ⟨⟨i, x, (hk g hg).trans hblk, h1, h2⟩, ⟨hrd.head, fun j hj => ?_, hrd.size, hrd.byt⟩, hne⟩
  have hb' : b < B := by omega
  exact (World.cell?_of_block (w := w) (hk b hb')).trans (hrd.cell j hj)

theorem hasI_only {w w' : World} {B g : Nat} {v : Value} {l : List Int} (h : HasI w B v l) (ho : Only g w w') (hg : g < B) : HasI w' B v l := by
  refine ⟨h.1.kept ho ?_, h.2⟩
  cases hv : v.ownBlock with
  | none => exact .inl rfl
  | some k => exact .inr (fun e => by have := (h.1.lt k hv).1; injection e with e; omega)

theorem only_alloc {g : Nat} {w w' : World} (h : Only g w w') (o : Obj) : Only g w (w'.alloc o) :=
  ⟨h.os, h.tape, h.output, by have := h.size; simp; omega, fun k hk hne => (Below.heap_alloc w' o k (Nat.lt_of_lt_of_le hk h.size)).trans (h.block k hk hne)⟩
theorem only_grown {g : Nat} {w w1 w2 : World} {row : Option Nat} (h : Only g w w1) (hg : w1.grownBy w2 row) (hr : ∀ k, row = some k → w.heap.size ≤ k) : Only g w w2 :=
  ⟨hg.os.trans h.os, hg.tape.trans h.tape, hg.output.trans h.output, Nat.le_trans h.size hg.size, fun k hk hne => (hg.block k (Nat.lt_of_lt_of_le hk h.size) (fun e => by have := hr k e.symm; omega)).trans (h.block k hk hne)⟩
theorem hasI_app {wr w1 : World} {B : Nat} {v v' : Value} {l : List Int} {x : Int} (_h : HasI wr B v l)
    (h' : w1.ownsRow B 5 1 v' (l.length + 1) (l.map (Value.int .u8) ++ [.int .u8 x])) (hn : v' = .slice none 0 0 ↔ v = .slice none 0 0 ∧ 1 = 0) : HasI w1 B v' (l ++ [x]) := by
  refine ⟨by simpa using h', fun e => ?_⟩
  have := hn.1 e; simp at this

set_option maxHeartbeats 2000000 in
theorem new_any (a : Option Addr) (b off cap : Nat) (l : List Int) (w : World) (h : Rd w a b off l) :
    Calls Try.prog 71 #[.slice a l.length cap] w fun e w' => e = .returned (.pointer (some ⟨w.heap.size, 0, none⟩)) ∧ Cur w' w.heap.size a b off cap l ∧ Below w.heap.size w w' := by
  have hs := h.size
  have hy := h.byt
  have hh := h.head
  have hc := h.cell
  go_enter Try.func71, Try.ntmps71
  go_wp2
  go_loop [3, 4] (fun t i => ∃ k : Nat, k ≤ l.length ∧ i = .int .i64 k ∧ ∃ x : Int, t = .int .i64 x) (fun _ i => l.length - (intOf i).toNat)
  case atStart => exact ⟨0, Nat.zero_le _, rfl, _, rfl⟩
  case round =>
    obtain ⟨k, hk, rfl, x, rfl⟩ := hrel
    by_cases hlt : k < l.length
    · have hkz : (k : Int) < (l.length : Int) := by omega
      by_cases h4 : (k : Int) < 4000
      · obtain rfl := hh (by omega)
        have g0 := hc k hlt
        clear hc hy hh
        go_wp2
        go_round
        case rel => exact ⟨k + 1, by omega, by go_num, _, rfl⟩
        case measure => simp [intOf]; omega
      · clear hc hy hh
        go_wp2
        go_ret
        exact ⟨rfl, cur_new h _, (Below.refl _ _).alloc (Nat.le_refl _) _⟩
    · have hkz : ¬ (k : Int) < (l.length : Int) := by omega
      clear hc hy hh
      go_wp2
      go_ret
      exact ⟨rfl, cur_new h _, (Below.refl _ _).alloc (Nat.le_refl _) _⟩


theorem byt_zeros (n : Nat) : Byt (List.replicate n 0) := fun x hx => by have := List.eq_of_mem_replicate hx; omega
theorem mine_made (w : World) (n : Nat) (h : n ≤ 4194304) : Mine (w.alloc (.cells (madeCells #[.int .u8 0] n) 5)) w.heap.size (List.replicate n 0) := by
  refine ⟨?_, by simpa using h, byt_zeros n⟩
  rw [List.length_replicate]
  refine (World.rowIs_made w (.int .u8 0) n 5).congr fun i hi => ?_
  simp [List.getD, hi]

theorem ret3 {gb n c m : Nat} {x y : Int} (h : n = m) : Ending.returned (.tuple #[.slice (some ⟨gb, 0, none⟩) n c, .int .i64 x, .int .i64 y]) = .returned (.tuple #[.slice (some ⟨gb, 0, none⟩) m c, .int .i64 x, .int .i64 y]) := by rw [h]

end Go.Proofs.Ytkakdldhinimoaa.Dr

namespace Go.Proofs.Ytkakdldhinimoaa.Tg
open Go Go.RowKit
open Num Rw Mk Un Put Pl App Pf

/-- A packet's cells. -/
theorem wt_set {w : World} {a : Option Addr} {g : Nat} {l : List Int} {ad : Addr} {u : Value} (h : Wt w a g l) (hne : ¬ ad.block = g) : Wt (w.setCell ad u) a g l :=
  ⟨h.head, fun i hi => (World.cell?_setCell_other _ _ _ _ (by intro q; apply hne; rw [q])).trans (h.cell i hi), fun i hi => by simpa using h.free i hi, h.size, h.byt⟩

/-- What 'Tagged' answers. -/
def Yes (w : World) (d s t y : Int) (l : List Int) (e : Ending) (w' : World) : Prop :=
  ∃ a g cap, e = .returned (.tuple #[.agg #[.int .i64 d, .int .i64 s, .int .i64 t, .int .i64 y, .slice a l.length cap], .bool true]) ∧ Wt w' a g l ∧ w.heap.size ≤ g ∧ (a = none → cap = 0) ∧ Below w.heap.size w w'
def No (w : World) (e : Ending) (w' : World) : Prop :=
  e = .returned (.tuple #[.agg #[.int .i64 0, .int .i64 0, .int .i64 0, .int .i64 0, .slice none 0 0], .bool false]) ∧ Below w.heap.size w w'

end Go.Proofs.Ytkakdldhinimoaa.Tg

namespace Go.Proofs.Ytkakdldhinimoaa.Dr
open Go Go.RowKit
open Num Rw Mk Un Put Pl Pf

theorem cur_set {w : World} {B g p o : Nat} {a : Option Addr} {b off cap : Nat} {l : List Int} {u : Value} (h : Cur w g a b off cap l) (hp : B ≤ p) (hg : g < B) (hb : l.length = 0 ∨ b < B) : Cur (w.setCell ⟨p, o, none⟩ u) g a b off cap l :=
  cur_keep (B := B) h (fun k hk => Below.heap_setCell w ⟨p, o, none⟩ u k (fun e => by simp at e; omega)) hg hb
theorem cur_alloc {w : World} {g : Nat} {a : Option Addr} {b off cap : Nat} {l : List Int} (h : Cur w g a b off cap l) (o : Obj) : Cur (w.alloc o) g a b off cap l :=
  cur_keep (B := w.heap.size) h (fun k hk => Below.heap_alloc w o k hk) (cur_lt h) (rd_lt h.rd)
theorem only_set {g p o : Nat} {w w1 : World} {u : Value} (h : Only g w w1) (hp : w.heap.size ≤ p) : Only g w (w1.setCell ⟨p, o, none⟩ u) :=
  ⟨h.os, h.tape, h.output, by simpa using h.size, fun k hk hne => (Below.heap_setCell w1 _ u k (fun e => by simp at e; omega)).trans (h.block k hk hne)⟩
theorem k_of {g k : Nat} {w w' : World} (h : Only g w w') (hk : k < w.heap.size) (hne : k ≠ g) : w'.heap[k]? = w.heap[k]? := h.block k hk (by simpa using hne)
theorem wt_of {g : Nat} {w w' : World} {a : Option Addr} {b : Nat} {l : List Int} (h : Only g w w') (hr : Wt w a b l) (hne : b ≠ g) : Wt w' a b l := wt_only h hr (.inr hne)

set_option maxHeartbeats 1000000 in
theorem num6_any (g : Nat) (a : Option Addr) (b off cap : Nat) (l : List Int) (w : World) (h : Cur w g a b off cap l) :
    Calls Try.prog 127 #[.pointer (some ⟨g, 0, none⟩)] w fun e w' => ∃ x : Int, e = .returned (.int .i64 x) ∧ 0 ≤ x ∧ x ≤ 281474976710655 ∧ Cur w' g a b off cap l ∧ Only g w w' := by
  go_enter Try.func127, Try.ntmps127
  go_wp2_with (first | (go_at_call 88; clear tok1) | (go_at_call 88; refine (below_any _ _ _ _ _ _ _ _ h (by omega) (by omega)).mono ?_; rintro e w1 ⟨x, rfl, x0, x1, hC, hO⟩; clear h))
  · go_wp2_with (go_at_call 88; refine (below_any _ _ _ _ _ _ _ _ hC (by omega) (by omega)).mono ?_; rintro e w2 ⟨y, rfl, y0, y1, hC2, hO2⟩)
    go_ret
    exact ⟨_, rfl, by omega, by omega, hC2, only_trans hO hO2⟩
  · go_ret
    exact ⟨_, rfl, by omega, by omega, hC, hO⟩
  · go_wp2_with (go_at_call 88; refine (below_any _ _ _ _ _ _ _ _ hC (by omega) (by omega)).mono ?_; rintro e w2 ⟨y, rfl, y0, y1, hC2, hO2⟩)
    go_ret
    exact ⟨_, rfl, by omega, by omega, hC2, only_trans hO hO2⟩


theorem set4 {w : World} {g : Nat} {v0 v1 v2 v3 v4 u : Value} {t : TypeId} (h : w.heap[g]? = some (.cells #[v0, v1, v2, v3, v4] t (0, 0))) : (w.setCell ⟨g, 4, none⟩ u).heap[g]? = some (.cells #[v0, v1, v2, v3, u] t (0, 0)) := by simpa using three_set (o := 4) h u
theorem set3 {w : World} {g : Nat} {v0 v1 v2 v3 v4 u : Value} {t : TypeId} (h : w.heap[g]? = some (.cells #[v0, v1, v2, v3, v4] t (0, 0))) : (w.setCell ⟨g, 3, none⟩ u).heap[g]? = some (.cells #[v0, v1, v2, u, v4] t (0, 0)) := by simpa using three_set (o := 3) h u
theorem set2 {w : World} {g : Nat} {v0 v1 v2 v3 v4 u : Value} {t : TypeId} (h : w.heap[g]? = some (.cells #[v0, v1, v2, v3, v4] t (0, 0))) : (w.setCell ⟨g, 2, none⟩ u).heap[g]? = some (.cells #[v0, v1, u, v3, v4] t (0, 0)) := by simpa using three_set (o := 2) h u
theorem set1 {w : World} {g : Nat} {v0 v1 v2 v3 v4 u : Value} {t : TypeId} (h : w.heap[g]? = some (.cells #[v0, v1, v2, v3, v4] t (0, 0))) : (w.setCell ⟨g, 1, none⟩ u).heap[g]? = some (.cells #[v0, u, v2, v3, v4] t (0, 0)) := by simpa using three_set (o := 1) h u
theorem set0 {w : World} {g : Nat} {v0 v1 v2 v3 v4 u : Value} {t : TypeId} (h : w.heap[g]? = some (.cells #[v0, v1, v2, v3, v4] t (0, 0))) : (w.setCell ⟨g, 0, none⟩ u).heap[g]? = some (.cells #[u, v1, v2, v3, v4] t (0, 0)) := by simpa using three_set (o := 0) h u
theorem far {w : World} {g : Nat} {ad : Addr} {u : Value} (hne : ¬ ad.block = g) : (w.setCell ad u).heap[g]? = w.heap[g]? := Below.heap_setCell w ad u g (fun e => hne e.symm)
theorem wset {w : World} {a : Option Addr} {g : Nat} {l : List Int} {ad : Addr} {u : Value} (h : Wt w a g l) (hne : l.length = 0 ∨ ¬ ad.block = g) : Wt (w.setCell ad u) a g l := by
  rcases hne with h0 | h0
  · exact ⟨h.head, fun i hi => by omega, fun i hi => by omega, h.size, h.byt⟩
  · exact Tg.wt_set h h0
theorem wt_eq {w : World} {g g' : Nat} {l : List Int} (e : g = g') (h : Wt w (some ⟨g, 0, none⟩) g l) : Wt w (some ⟨g', 0, none⟩) g' l := by subst e; exact h
theorem size_set (w : World) (ad : Addr) (u : Value) : (w.setCell ad u).heap.size = w.heap.size := by simp

theorem two_at {w : World} {g : Nat} {x y : Int} {t : TypeId} (h : w.heap[g]? = some (.cells #[.int .i64 x, .int .i64 y] t (0, 0))) (i : Nat) (hi : i < 2) : ∃ V : Int, w.cell? ⟨g, i, none⟩ = some (.int .i64 V) ∧ (V = x ∨ V = y) := by
  match i, hi with
  | 0, _ => exact ⟨x, by simp [World.cell?, h], .inl rfl⟩
  | 1, _ => exact ⟨y, by simp [World.cell?, h], .inr rfl⟩

/-- The numbers of a drawn packet are right. -/
def Bnd (d s t : Int) : Prop := (0 ≤ d ∧ d ≤ 281474976710655) ∧ (0 ≤ s ∧ s ≤ 281474976710655) ∧ -1 ≤ t ∧ t ≤ 4094
/-- What a draw of a packet leaves. -/
def Drawn (w : World) (g : Nat) (a : Option Addr) (b off cap : Nat) (l : List Int) (e : Ending) (w' : World) : Prop :=
  ∃ (d s t y : Int) (gb cap' : Nat) (q : List Int), e = .returned (.agg #[.int .i64 d, .int .i64 s, .int .i64 t, .int .i64 y, .slice (some ⟨gb, 0, none⟩) q.length cap']) ∧ Bnd d s t ∧ Wt w' (some ⟨gb, 0, none⟩) gb q ∧ w.heap.size ≤ gb ∧ Cur w' g a b off cap l ∧ Only g w w'

end Go.Proofs.Ytkakdldhinimoaa.Dr

namespace Go.Proofs.Ytkakdldhinimoaa.Mr
set_option maxRecDepth 8000
open Go Go.RowKit
open Num Pl Hr Hh Hf Hg Pa Pm Po Pq Mi Bw Mo Mp
set_option linter.unusedSimpArgs false
set_option linter.unusedVariables false

theorem half_zero {w : World} {g : Nat} (h : Half w g 0 nul) : Mine w g (lst nul) := by
  refine Half.mine (World.rowIs.congr h (fun i hi => ?_))
  simp [cut, nul]
theorem mine_set2 {w : World} {g b k : Nat} {l : List Int} {u : Value} (h : Mine w g l) (hne : b ≠ g) : Mine (w.setCell ⟨b, k, none⟩ u) g l := h.set (by simpa using hne)

set_option maxHeartbeats 2000000 in
theorem allS_any (w : World) : Calls Try.prog 79 #[] w (ResM w (lst nul) (lst nul)) := by
  have hmk : ∀ w : World, (Instr.makeSlice 22 (.int .i64 8) (.int .i64 8)).run Try.prog w = .ok (.slice (some ⟨w.heap.size, 0, none⟩) 8 8) (w.alloc (.cells (madeCells #[.int .i64 0] 8) 3)) :=
    run_make_row' (P := Try.prog) 22 3 (.int .i64 0) 8 Try.underlying22 info3 rfl .i64 .i64 8 (by omega) (by omega)
  obtain ⟨W0, hW0⟩ : ∃ W0, W0 = w.alloc (.cells #[.slice none 0 0, .slice none 0 0] 63) := ⟨_, rfl⟩
  have B0 : Below w.heap.size w W0 := by subst hW0; exact below_alloc1 _ _
  have kR : W0.heap[w.heap.size]? = some (.cells #[.slice none 0 0, .slice none 0 0] 63 (0, 0)) := by subst hW0; exact at_new rfl
  have zR := (Array.getElem?_eq_some_iff.1 kR).1
  obtain ⟨r0, r1⟩ := two kR
  have fr := Bl.free kR
  clear kR
  go_enter Try.func79, Try.ntmps79
  go_wp2
  rw [← hW0]
  clear hW0
  go_region
  all_goals go_wp2
  · refine bodyPost_ret (v := .agg #[.slice (some ⟨W0.heap.size, 0, none⟩) 8 8, .slice (some ⟨W0.heap.size + 1, 0, none⟩) 8 8]) (by simp [results, Try.results79, go_sem, r0, r1, zR]) rfl ⟨_, W0.heap.size, _, _, W0.heap.size + 1, _, by rw [lst_len], mine_wt (half_zero (Half.drew ((Half.made nul (by simp)).old))), mine_wt (half_zero (Half.drew (Half.made nul (by simp)))), by omega, by omega, by omega, ?_⟩
    exact ((bset (bset B0 (Nat.le_refl _)) (Nat.le_refl _)).alloc (by simp; omega) _ |>.alloc (by simp; omega) _).drew
  · refine bodyPost_ret (v := .agg #[.slice (some ⟨W0.heap.size + 1, 0, none⟩) 8 8, .slice (some ⟨W0.heap.size, 0, none⟩) 8 8]) (by simp [results, Try.results79, go_sem, r0, r1, zR]) rfl ⟨_, W0.heap.size + 1, _, _, W0.heap.size, _, by rw [lst_len], mine_wt (half_zero (Half.drew (Half.made nul (by simp)))), mine_wt (half_zero (Half.drew ((Half.made nul (by simp)).old))), by omega, by omega, by omega, ?_⟩
    exact ((bset (bset B0 (Nat.le_refl _)) (Nat.le_refl _)).alloc (by simp; omega) _ |>.alloc (by simp; omega) _).drew

end Go.Proofs.Ytkakdldhinimoaa.Mr

namespace Go.Proofs.Ytkakdldhinimoaa.Mm
open Go Go.RowKit
open Num Pl Hr Hh Hf Hg Pa Pm Po Pq Mj
set_option linter.unusedSimpArgs false
set_option linter.unusedVariables false

theorem wt_drew {w : World} {a : Option Addr} {g : Nat} {l : List Int} (h : Wt w a g l) : Wt w.drew a g l := ⟨h.head, h.cell, h.free, h.size⟩
theorem cell_set1 {w : World} {a : Addr} {g i : Nat} {x : Value} {v : Option Value} (h : w.cell? a = v) (hne : a.block ≠ g) : (w.drew.setCell ⟨g, i, none⟩ x).cell? a = v := by
  rw [World.cell?_setCell_other _ _ _ _ (by intro q; exact hne (by rw [← q]))]
  exact h
theorem run_store3 {w : World} {g k : Nat} {u : Value} {v : Int} (hc : w.cell? ⟨g, k, none⟩ = some u) (hf : w.frozen? ⟨g, k, none⟩ = false) :
    (Instr.storeAt 3 (.pointer (some ⟨g, k, none⟩)) (.int .i64 v)).run Try.prog w = .ok () (w.setCell ⟨g, k, none⟩ (.int .i64 v)) := by
  simp [go_sem, hc, hf]
/-- A store of one integer into a row, in a region that draws its order. -/
theorem ready3 {md : Region.Mode} {ops : Array Oper} {Q : Exit → Act → World → Prop} {S : World → Prop} {fuel : Nat} {listed : Array Bool} {a : Act} {w : World} {i : Nat} {o : Oper} {rs : List Nat} (hi : ops[i]? = some o) (hgd : o.guard = none)
    (x y : Operand) (ho : o.op = .store 3 x y) (hd : o.dst = none) {g k : Nat} (hx : a.eval x = .pointer (some ⟨g, k, none⟩)) {v : Int} (hy : a.eval y = .int .i64 v) {u : Value} (hc : w.cell? ⟨g, k, none⟩ = some u) (hf : w.frozen? ⟨g, k, none⟩ = false)
    (hS : S (w.setCell ⟨g, k, none⟩ (.int .i64 v)))
    (hk : S (w.setCell ⟨g, k, none⟩ (.int .i64 v)) → wpAnyH Try.prog md ops Q S fuel (listed.setIfInBounds i true) (a.put none undef) (w.setCell ⟨g, k, none⟩ (.int .i64 v)))
    (hs : AllReadyH Try.prog md ops Q S fuel listed a w rs) : AllReadyH Try.prog md ops Q S fuel listed a w (i :: rs) :=
  AllReadyH.cons hi (fun K hK => by
    rw [if_pos (by simp only [Region.wanted, hgd])]
    unfold Oper.wp execOp
    simp only [ho, hx, hy, Sem.run_bind, Sem.run_pure, Result.andThen_ok, run_store3 hc hf]
    exact hK.out _ _ hS (fun hs' => by rw [hd]; exact hk hs')) hs
/-- One number more of a row that is filled. -/
theorem wt_up {w : World} {a : Option Addr} {g k : Nat} {v u : Nat → Int} (h : Wt w a g (lst (cut v u k))) (hk : k < 8) : Wt (w.setCell ⟨g, k, none⟩ (.int .i64 (v k))) a g (lst (cut v u (k + 1))) := by
  have hl : (lst (cut v u (k + 1))).length = (lst (cut v u k)).length := by rw [lst_len, lst_len]
  refine ⟨fun hp => h.head (by omega), fun i hi => ?_, fun i hi => ?_, by rw [lst_len]; omega⟩
  · rw [lst_len] at hi
    rw [lst_at _ hi]
    have hc := h.cell i (by rw [lst_len]; exact hi)
    rw [lst_at _ hi] at hc
    by_cases e : i = k
    · subst e
      rw [World.cell?_setCell_same _ _ _ hc]
      simp [cut]
    · rw [World.cell?_setCell_other _ _ _ _ (by intro q; injection q with q1 q2; exact e q2.symm), hc]
      have : (i < k + 1) = (i < k) := by rw [eq_iff_iff]; omega
      simp [cut, this]
  · rw [lst_len] at hi
    have := h.free i (by rw [lst_len]; exact hi)
    simpa using this

set_option maxRecDepth 8000 in
set_option maxHeartbeats 8000000 in
theorem meetS (b1 o1 c1 : Nat) (b2 o2 c2 : Nat) (b3 o3 c3 : Nat) (b4 o4 c4 : Nat) (V M V' M' : List Int) (w : World)
    (r1 : ∀ k, k < 8 → w.cell? ⟨b1, o1 + k, none⟩ = some (.int .i64 (V.getD k 0))) (r2 : ∀ k, k < 8 → w.cell? ⟨b2, o2 + k, none⟩ = some (.int .i64 (M.getD k 0))) (r3 : ∀ k, k < 8 → w.cell? ⟨b3, o3 + k, none⟩ = some (.int .i64 (V'.getD k 0))) (r4 : ∀ k, k < 8 → w.cell? ⟨b4, o4 + k, none⟩ = some (.int .i64 (M'.getD k 0)))
    (d1 : ∀ k, k < 8 → 0 ≤ V.getD k 0 ∧ V.getD k 0 < 281474976710656) (d2 : ∀ k, k < 8 → 0 ≤ M.getD k 0 ∧ M.getD k 0 < 281474976710656) (d3 : ∀ k, k < 8 → 0 ≤ V'.getD k 0 ∧ V'.getD k 0 < 281474976710656) (d4 : ∀ k, k < 8 → 0 ≤ M'.getD k 0 ∧ M'.getD k 0 < 281474976710656)
    (t0 : ∀ w1, Below w.heap.size w w1 → Calls Try.prog 78 #[.agg #[.slice (some ⟨b1, o1, none⟩) 8 c1, .slice (some ⟨b2, o2, none⟩) 8 c2]] w1 fun e w' => e = .returned (.bool true) ∧ Below w1.heap.size w1 w')
    (t1 : ∀ w1, Below w.heap.size w w1 → Calls Try.prog 78 #[.agg #[.slice (some ⟨b3, o3, none⟩) 8 c3, .slice (some ⟨b4, o4, none⟩) 8 c4]] w1 fun e w' => e = .returned (.bool true) ∧ Below w1.heap.size w1 w')
    (R : Bool) (hR : R = true ↔ ∀ f, f < 8 → ∀ i, i < Bw.fbN f → (Bw.bitI (M.getD f 0) i = 1 → Bw.bitI (M'.getD f 0) i = 1 → Bw.bitI (V.getD f 0) i = Bw.bitI (V'.getD f 0) i)) (nv nm : Nat → Int) (hnv : ∀ k, nv k = bits .or .i64 (V.getD k 0) (V'.getD k 0)) (hnm : ∀ k, nm k = bits .or .i64 (M.getD k 0) (M'.getD k 0)) (LV LM : List Int) (hy : R = true → LV = lst nv ∧ LM = lst nm) (hn : R = false → LV = [] ∧ LM = []) :
    Calls Try.prog 43 #[.agg #[.slice (some ⟨b1, o1, none⟩) 8 c1, .slice (some ⟨b2, o2, none⟩) 8 c2], .agg #[.slice (some ⟨b3, o3, none⟩) 8 c3, .slice (some ⟨b4, o4, none⟩) 8 c4]] w (ResMB w R LV LM) := by
  have R1 : Hid (∀ k, k < 8 → w.cell? ⟨b1, o1 + k, none⟩ = some (.int .i64 (V.getD k 0))) := r1
  have D1 : Hid (∀ k, k < 8 → 0 ≤ V.getD k 0 ∧ V.getD k 0 < 281474976710656) := d1
  have R2 : Hid (∀ k, k < 8 → w.cell? ⟨b2, o2 + k, none⟩ = some (.int .i64 (M.getD k 0))) := r2
  have D2 : Hid (∀ k, k < 8 → 0 ≤ M.getD k 0 ∧ M.getD k 0 < 281474976710656) := d2
  have R3 : Hid (∀ k, k < 8 → w.cell? ⟨b3, o3 + k, none⟩ = some (.int .i64 (V'.getD k 0))) := r3
  have D3 : Hid (∀ k, k < 8 → 0 ≤ V'.getD k 0 ∧ V'.getD k 0 < 281474976710656) := d3
  have R4 : Hid (∀ k, k < 8 → w.cell? ⟨b4, o4 + k, none⟩ = some (.int .i64 (M'.getD k 0))) := r4
  have D4 : Hid (∀ k, k < 8 → 0 ≤ M'.getD k 0 ∧ M'.getD k 0 < 281474976710656) := d4
  have T0 : Hid (∀ w1, Below w.heap.size w w1 → Calls Try.prog 78 #[.agg #[.slice (some ⟨b1, o1, none⟩) 8 c1, .slice (some ⟨b2, o2, none⟩) 8 c2]] w1 fun e w' => e = .returned (.bool true) ∧ Below w1.heap.size w1 w') := t0
  have T1 : Hid (∀ w1, Below w.heap.size w w1 → Calls Try.prog 78 #[.agg #[.slice (some ⟨b3, o3, none⟩) 8 c3, .slice (some ⟨b4, o4, none⟩) 8 c4]] w1 fun e w' => e = .returned (.bool true) ∧ Below w1.heap.size w1 w') := t1
  have HR : Hid (R = true ↔ ∀ f, f < 8 → ∀ i, i < Bw.fbN f → (Bw.bitI (M.getD f 0) i = 1 → Bw.bitI (M'.getD f 0) i = 1 → Bw.bitI (V.getD f 0) i = Bw.bitI (V'.getD f 0) i)) := hR
  have NV : Hid (∀ k, nv k = bits .or .i64 (V.getD k 0) (V'.getD k 0)) := hnv
  have NM : Hid (∀ k, nm k = bits .or .i64 (M.getD k 0) (M'.getD k 0)) := hnm
  have Y1 : Hid (R = true → LV = lst nv ∧ LM = lst nm) := hy
  have Y0 : Hid (R = false → LV = [] ∧ LM = []) := hn
  clear hR t0 t1 hnv hnm hy hn r1 d1 r2 d2 r3 d3 r4 d4
  obtain ⟨W0, hW0⟩ : ∃ W0, W0 = ((w.alloc (.cells #[.slice (some ⟨b1, o1, none⟩) 8 c1, .slice (some ⟨b2, o2, none⟩) 8 c2] 63)).alloc (.cells #[.slice (some ⟨b3, o3, none⟩) 8 c3, .slice (some ⟨b4, o4, none⟩) 8 c4] 63)).alloc (.cells #[.slice none 0 0, .slice none 0 0] 63) := ⟨_, rfl⟩
  have B : Below w.heap.size w W0 := by subst hW0; exact Rw.next (Mi.below2 _ _ _) (below_alloc1 _ _)
  have k0 : W0.heap[w.heap.size]? = some (.cells #[.slice (some ⟨b1, o1, none⟩) 8 c1, .slice (some ⟨b2, o2, none⟩) 8 c2] 63 (0, 0)) := by subst hW0; rw [at_old (by simp <;> omega), at_old (by simp), at_new rfl]
  have k1 : W0.heap[w.heap.size + 1]? = some (.cells #[.slice (some ⟨b3, o3, none⟩) 8 c3, .slice (some ⟨b4, o4, none⟩) 8 c4] 63 (0, 0)) := by subst hW0; rw [at_old (by simp), at_new (by simp)]
  have kR : W0.heap[w.heap.size + 1 + 1]? = some (.cells #[.slice none 0 0, .slice none 0 0] 63 (0, 0)) := by subst hW0; exact at_new (by simp)
  have tok1 : True := trivial
  go_enter Try.func43, Try.ntmps43
  go_wp2_with (first
    | (go_at_call 78; clear tok1; rw [← hW0]; refine (T0.out _ B).mono ?_; rintro e wa ⟨rfl, hb⟩; replace k0 := (hb.block _ (Array.getElem?_eq_some_iff.1 k0).1).trans k0; replace k1 := (hb.block _ (Array.getElem?_eq_some_iff.1 k1).1).trans k1; replace kR := (hb.block _ (Array.getElem?_eq_some_iff.1 kR).1).trans kR; obtain ⟨p00, p01⟩ := two k0; obtain ⟨p10, p11⟩ := two k1; replace B := Rw.next B hb; clear hb; have tok2 : True := trivial)
    | (go_at_call 78; clear tok2; refine (T1.out _ B).mono ?_; rintro e wb ⟨rfl, hb⟩; clear p00 p01 p10 p11; replace k0 := (hb.block _ (Array.getElem?_eq_some_iff.1 k0).1).trans k0; replace k1 := (hb.block _ (Array.getElem?_eq_some_iff.1 k1).1).trans k1; replace kR := (hb.block _ (Array.getElem?_eq_some_iff.1 kR).1).trans kR; obtain ⟨p00, p01⟩ := two k0; obtain ⟨p10, p11⟩ := two k1; replace B := Rw.next B hb; clear hb; have tok3 : True := trivial)
    | (go_at_call 79; clear tok3; refine (Mr.allS_any _).mono ?_; rintro e wc ⟨aV, gV, cV, aM, gM, cM, rfl, hV, hM, l1, l2, l3, hb⟩; have sb := hb.size; have zr3 := (Array.getElem?_eq_some_iff.1 kR).1; clear p00 p01 p10 p11; replace k0 := (hb.block _ (Array.getElem?_eq_some_iff.1 k0).1).trans k0; replace k1 := (hb.block _ (Array.getElem?_eq_some_iff.1 k1).1).trans k1; replace kR := (hb.block _ (Array.getElem?_eq_some_iff.1 kR).1).trans kR; replace B := Rw.next B hb; clear hb))
  clear hW0 T0 T1
  obtain rfl := hV.head (by rw [lst_len]; omega)
  obtain rfl := hM.head (by rw [lst_len]; omega)
  rw [lst_len]
  have z0 := (Array.getElem?_eq_some_iff.1 k0).1
  have z1 := (Array.getElem?_eq_some_iff.1 k1).1
  have zR := (Array.getElem?_eq_some_iff.1 kR).1
  have yV : gV < wc.heap.size := by have := Hr.wt_lt hV; rw [lst_len] at this; omega
  have yM : gM < wc.heap.size := by have := Hr.wt_lt hM; rw [lst_len] at this; omega
  have sz := B.size
  have kX : (wc.alloc (.cells #[.slice (some ⟨gV, 0, none⟩) 8 cV, .slice (some ⟨gM, 0, none⟩) 8 cM] 63)).heap[wc.heap.size]? = some (.cells #[.slice (some ⟨gV, 0, none⟩) 8 cV, .slice (some ⟨gM, 0, none⟩) 8 cM] 63 (0, 0)) := at_new rfl
  have BX : Below wc.heap.size wc (wc.alloc (.cells #[.slice (some ⟨gV, 0, none⟩) 8 cV, .slice (some ⟨gM, 0, none⟩) 8 cM] 63)) := below_alloc1 _ _
  replace k0 := (BX.block _ z0).trans k0
  replace k1 := (BX.block _ z1).trans k1
  replace kR := (BX.block _ zR).trans kR
  replace hV := hV.below BX
  replace hM := hM.below BX
  replace B := Rw.next B BX
  obtain ⟨X, hX⟩ : ∃ X, X = wc.heap.size := ⟨_, rfl⟩
  rw [← hX] at kX ⊢
  have HLT : Hid (∀ k, k < 8 → b1 < w.heap.size ∧ b2 < w.heap.size ∧ b3 < w.heap.size ∧ b4 < w.heap.size) := (fun k hk => ⟨World.block_lt_of_cell? _ _ (R1.out k hk), World.block_lt_of_cell? _ _ (R2.out k hk), World.block_lt_of_cell? _ _ (R3.out k hk), World.block_lt_of_cell? _ _ (R4.out k hk)⟩ : ∀ k, k < 8 → b1 < w.heap.size ∧ b2 < w.heap.size ∧ b3 < w.heap.size ∧ b4 < w.heap.size)
  have o1V : w.heap.size + 1 + 1 < gV := by omega
  have o1M : w.heap.size + 1 + 1 < gM := by omega
  have oXV : gV < X := by omega
  have oXM : gM < X := by omega
  have hV0 : Wt (wc.alloc (.cells #[.slice (some ⟨gV, 0, none⟩) 8 cV, .slice (some ⟨gM, 0, none⟩) 8 cM] 63)) (some ⟨gV, 0, none⟩) gV (lst (cut nv nul 0)) := hV
  have hM0 : Wt (wc.alloc (.cells #[.slice (some ⟨gV, 0, none⟩) 8 cV, .slice (some ⟨gM, 0, none⟩) 8 cM] 63)) (some ⟨gM, 0, none⟩) gM (lst (cut nm nul 0)) := hM
  clear hX z0 z1 zR yV yM sb sz zr3 l1 l2 hV hM
  go_loopw [7] (fun i wr => ∃ k : Nat, k ≤ 8 ∧ i = .int .i64 k ∧ Below w.heap.size w wr ∧ wr.heap[w.heap.size]? = some (.cells #[.slice (some ⟨b1, o1, none⟩) 8 c1, .slice (some ⟨b2, o2, none⟩) 8 c2] 63 (0, 0)) ∧ wr.heap[w.heap.size + 1]? = some (.cells #[.slice (some ⟨b3, o3, none⟩) 8 c3, .slice (some ⟨b4, o4, none⟩) 8 c4] 63 (0, 0)) ∧ wr.heap[w.heap.size + 1 + 1]? = some (.cells #[.slice none 0 0, .slice none 0 0] 63 (0, 0)) ∧ wr.heap[X]? = some (.cells #[.slice (some ⟨gV, 0, none⟩) 8 cV, .slice (some ⟨gM, 0, none⟩) 8 cM] 63 (0, 0)) ∧ Wt wr (some ⟨gV, 0, none⟩) gV (lst (cut nv nul k)) ∧ Wt wr (some ⟨gM, 0, none⟩) gM (lst (cut nm nul k)) ∧ ∀ f, f < k → ∀ i, i < Bw.fbN f → (Bw.bitI (M.getD f 0) i = 1 → Bw.bitI (M'.getD f 0) i = 1 → Bw.bitI (V.getD f 0) i = Bw.bitI (V'.getD f 0) i)) (fun i _ => 8 - (intOf i).toNat)
  case atStart => exact ⟨0, Nat.zero_le _, rfl, B, k0, k1, kR, kX, hV0, hM0, fun f hf => by omega⟩
  case round =>
    obtain ⟨k, hk, rfl, hbo, q0, q1, qR, qX, hv, hm, hgo⟩ := hrel
    have HG : Hid (∀ f, f < k → ∀ i, i < Bw.fbN f → (Bw.bitI (M.getD f 0) i = 1 → Bw.bitI (M'.getD f 0) i = 1 → Bw.bitI (V.getD f 0) i = Bw.bitI (V'.getD f 0) i)) := hgo
    clear hgo B k0 k1 kR kX hV0 hM0
    have z0 := (Array.getElem?_eq_some_iff.1 q0).1
    have z1 := (Array.getElem?_eq_some_iff.1 q1).1
    have zR := (Array.getElem?_eq_some_iff.1 qR).1
    have zX := (Array.getElem?_eq_some_iff.1 qX).1
    by_cases hlt : k < 8
    · have hkz : (k : Int) < 8 := by omega
      have h48 := Bw.fbN_le k
      have HF : Hid (∀ w, Calls Try.prog 80 #[.int .i64 k] w fun e w' => e = .returned (.int .i64 (Bw.fbN k : Int)) ∧ Below w.heap.size w w') := (fun w => by have := specBits_any k w; rw [Bw.fbN_eq] at this; exact this : ∀ w, Calls Try.prog 80 #[.int .i64 k] w fun e w' => e = .returned (.int .i64 (Bw.fbN k : Int)) ∧ Below w.heap.size w w')
      go_wp2
      go_loopw [8] (fun i wx => ∃ j : Nat, j ≤ Bw.fbN k ∧ i = .int .i64 j ∧ Below wr.heap.size wr wx ∧ ∀ i, i < j → (Bw.bitI (M.getD k 0) i = 1 → Bw.bitI (M'.getD k 0) i = 1 → Bw.bitI (V.getD k 0) i = Bw.bitI (V'.getD k 0) i)) (fun i _ => Bw.fbN k - (intOf i).toNat)
      case atStart => exact ⟨0, Nat.zero_le _, rfl, Below.refl _ _, fun i hi => by omega⟩
      case round =>
        obtain ⟨j, hj, rfl, hbi, hgi⟩ := hrel
        have HI : Hid (∀ i, i < j → (Bw.bitI (M.getD k 0) i = 1 → Bw.bitI (M'.getD k 0) i = 1 → Bw.bitI (V.getD k 0) i = Bw.bitI (V'.getD k 0) i)) := hgi
        clear hgi
        by_cases hjl : j < Bw.fbN k
        · have hjz : (j : Int) < (Bw.fbN k : Int) := by omega
          have hj48 : j < 48 := by omega
          go_wp2_with (go_at_call 80; refine (HF.out _).mono ?_; rintro e ws ⟨rfl, hb⟩; replace hbi := Rw.next hbi hb; clear hb)
          have hbel := Rw.next hbo hbi
          replace q0 := (hbi.block _ z0).trans q0
          replace q1 := (hbi.block _ z1).trans q1
          replace qR := (hbi.block _ zR).trans qR
          obtain ⟨p00, p01⟩ := two q0
          obtain ⟨p10, p11⟩ := two q1
          obtain ⟨s0, s1⟩ := two qR
          have fR := Bl.free qR
          have zS := (Array.getElem?_eq_some_iff.1 qR).1
          clear q0 q1 qR qX hv hm z0 z1 zR zX
          have g1 : ws.cell? ⟨b1, o1 + k, none⟩ = some (.int .i64 (V.getD k 0)) := (hbel.cell (World.block_lt_of_cell? _ _ (R1.out k hlt))).trans (R1.out k hlt)
          have H1 : Hid (∀ w, Calls Try.prog 81 #[.int .i64 (V.getD k 0), .int .i64 j] w fun e w' => e = .returned (.int .i64 (Bw.bitI (V.getD k 0) j)) ∧ w' = w) := (fun w => Bw.bit_any _ _ (D1.out k hlt).1 (D1.out k hlt).2 hj48 w : ∀ w, Calls Try.prog 81 #[.int .i64 (V.getD k 0), .int .i64 j] w fun e w' => e = .returned (.int .i64 (Bw.bitI (V.getD k 0) j)) ∧ w' = w)
          have y1 := Bw.bit_01 (V.getD k 0) j
          have g2 : ws.cell? ⟨b2, o2 + k, none⟩ = some (.int .i64 (M.getD k 0)) := (hbel.cell (World.block_lt_of_cell? _ _ (R2.out k hlt))).trans (R2.out k hlt)
          have H2 : Hid (∀ w, Calls Try.prog 81 #[.int .i64 (M.getD k 0), .int .i64 j] w fun e w' => e = .returned (.int .i64 (Bw.bitI (M.getD k 0) j)) ∧ w' = w) := (fun w => Bw.bit_any _ _ (D2.out k hlt).1 (D2.out k hlt).2 hj48 w : ∀ w, Calls Try.prog 81 #[.int .i64 (M.getD k 0), .int .i64 j] w fun e w' => e = .returned (.int .i64 (Bw.bitI (M.getD k 0) j)) ∧ w' = w)
          have y2 := Bw.bit_01 (M.getD k 0) j
          have g3 : ws.cell? ⟨b3, o3 + k, none⟩ = some (.int .i64 (V'.getD k 0)) := (hbel.cell (World.block_lt_of_cell? _ _ (R3.out k hlt))).trans (R3.out k hlt)
          have H3 : Hid (∀ w, Calls Try.prog 81 #[.int .i64 (V'.getD k 0), .int .i64 j] w fun e w' => e = .returned (.int .i64 (Bw.bitI (V'.getD k 0) j)) ∧ w' = w) := (fun w => Bw.bit_any _ _ (D3.out k hlt).1 (D3.out k hlt).2 hj48 w : ∀ w, Calls Try.prog 81 #[.int .i64 (V'.getD k 0), .int .i64 j] w fun e w' => e = .returned (.int .i64 (Bw.bitI (V'.getD k 0) j)) ∧ w' = w)
          have y3 := Bw.bit_01 (V'.getD k 0) j
          have g4 : ws.cell? ⟨b4, o4 + k, none⟩ = some (.int .i64 (M'.getD k 0)) := (hbel.cell (World.block_lt_of_cell? _ _ (R4.out k hlt))).trans (R4.out k hlt)
          have H4 : Hid (∀ w, Calls Try.prog 81 #[.int .i64 (M'.getD k 0), .int .i64 j] w fun e w' => e = .returned (.int .i64 (Bw.bitI (M'.getD k 0) j)) ∧ w' = w) := (fun w => Bw.bit_any _ _ (D4.out k hlt).1 (D4.out k hlt).2 hj48 w : ∀ w, Calls Try.prog 81 #[.int .i64 (M'.getD k 0), .int .i64 j] w fun e w' => e = .returned (.int .i64 (Bw.bitI (M'.getD k 0) j)) ∧ w' = w)
          have y4 := Bw.bit_01 (M'.getD k 0) j
          have HN : Hid (¬ (Bw.bitI (M.getD k 0) j = 1 → Bw.bitI (M'.getD k 0) j = 1 → Bw.bitI (V.getD k 0) j = Bw.bitI (V'.getD k 0) j) → R = false) := (fun h => by cases hr : R with | false => rfl | true => exact absurd (HR.out.1 hr k hlt j hjl) h : ¬ (Bw.bitI (M.getD k 0) j = 1 → Bw.bitI (M'.getD k 0) j = 1 → Bw.bitI (V.getD k 0) j = Bw.bitI (V'.getD k 0) j) → R = false)
          have HY : Hid ((Bw.bitI (M.getD k 0) j = 1 → Bw.bitI (M'.getD k 0) j = 1 → Bw.bitI (V.getD k 0) j = Bw.bitI (V'.getD k 0) j) → ∀ i, i < j + 1 → (Bw.bitI (M.getD k 0) i = 1 → Bw.bitI (M'.getD k 0) i = 1 → Bw.bitI (V.getD k 0) i = Bw.bitI (V'.getD k 0) i)) := (fun h i hi => by by_cases e : i = j; (· subst e; exact h); (· exact HI.out i (by omega)) : (Bw.bitI (M.getD k 0) j = 1 → Bw.bitI (M'.getD k 0) j = 1 → Bw.bitI (V.getD k 0) j = Bw.bitI (V'.getD k 0) j) → ∀ i, i < j + 1 → (Bw.bitI (M.getD k 0) i = 1 → Bw.bitI (M'.getD k 0) i = 1 → Bw.bitI (V.getD k 0) i = Bw.bitI (V'.getD k 0) i))
          generalize e1a : Bw.bitI (V.getD k 0) j = x1 at *
          generalize e1b : V.getD k 0 = m1 at H1 g1
          generalize e2a : Bw.bitI (M.getD k 0) j = x2 at *
          generalize e2b : M.getD k 0 = m2 at H2 g2
          generalize e3a : Bw.bitI (V'.getD k 0) j = x3 at *
          generalize e3b : V'.getD k 0 = m3 at H3 g3
          generalize e4a : Bw.bitI (M'.getD k 0) j = x4 at *
          generalize e4b : M'.getD k 0 = m4 at H4 g4
          clear e1a e1b e2a e2b e3a e3b e4a e4b
          clear HI HF NV NM HG HLT D1 D2 D3 D4
          have hc : x2 = 0 ∨ (x2 = 1 ∧ x4 = 0) ∨ (x2 = 1 ∧ x4 = 1 ∧ x1 = x3) ∨ (x2 = 1 ∧ x4 = 1 ∧ ¬ x1 = x3) := by omega
          rcases hc with u | ⟨u, v⟩ | ⟨u, v, t⟩ | ⟨u, v, t⟩
          · have U : Hid (x2 = 0) := u
            have f1 : (x2 == 1) = false := by rw [u]; rfl
            clear u y1 y2 y3 y4
            refine wp_region_held_drew (S := (fun w' => w'.cell? ⟨w.heap.size, 0, none⟩ = some (.slice (some ⟨b1, o1, none⟩) 8 c1) ∧ w'.cell? ⟨w.heap.size, 1, none⟩ = some (.slice (some ⟨b2, o2, none⟩) 8 c2) ∧ w'.cell? ⟨w.heap.size + 1, 0, none⟩ = some (.slice (some ⟨b3, o3, none⟩) 8 c3) ∧ w'.cell? ⟨w.heap.size + 1, 1, none⟩ = some (.slice (some ⟨b4, o4, none⟩) 8 c4) ∧ w'.cell? ⟨b1, o1 + k, none⟩ = some (.int .i64 m1) ∧ w'.cell? ⟨b2, o2 + k, none⟩ = some (.int .i64 m2) ∧ w'.cell? ⟨b3, o3 + k, none⟩ = some (.int .i64 m3) ∧ w'.cell? ⟨b4, o4 + k, none⟩ = some (.int .i64 m4))) (by kernel_rfl) ⟨p00, p01, p10, p11, g1, g2, g3, g4⟩ (fun hHeld => ?_)
            refine take (i := 0) (d := some 29) (v := .pointer (some ⟨w.heap.size, 1, none⟩)) rfl (by kernel_rfl) (by kernel_rfl) (by kernel_rfl) (by kernel_rfl) (fun _ _ _ h => h) (Or.inl ⟨by rfl, by intro w hSw; go_simp⟩) hHeld ?_
            simp only [Act.put, List.setIfInBounds_toArray, List.set_cons_zero, List.set_cons_succ]
            refine take (i := 1) (d := some 30) (v := .slice (some ⟨b2, o2, none⟩) 8 c2) rfl (by kernel_rfl) (by kernel_rfl) (by kernel_rfl) (by kernel_rfl) (fun _ _ _ h => h) (Or.inl ⟨by rfl, by intro w hSw; obtain ⟨p00, p01, p10, p11, g1, g2, g3, g4⟩ := hSw; go_simp⟩) hHeld ?_
            simp only [Act.put, List.setIfInBounds_toArray, List.set_cons_zero, List.set_cons_succ]
            refine take (i := 2) (d := some 31) (v := .int .i64 k) rfl (by kernel_rfl) (by kernel_rfl) (by kernel_rfl) (by kernel_rfl) (fun _ _ _ h => h) (Or.inl ⟨by rfl, by intro w hSw; go_simp⟩) hHeld ?_
            simp only [Act.put, List.setIfInBounds_toArray, List.set_cons_zero, List.set_cons_succ]
            refine take (i := 3) (d := some 32) (v := .pointer (some ⟨b2, o2 + k, none⟩)) rfl (by kernel_rfl) (by kernel_rfl) (by kernel_rfl) (by kernel_rfl) (fun _ _ _ h => h) (Or.inl ⟨by rfl, by intro w hSw; go_simp⟩) hHeld ?_
            simp only [Act.put, List.setIfInBounds_toArray, List.set_cons_zero, List.set_cons_succ]
            refine take (i := 4) (d := some 33) (v := .int .i64 m2) rfl (by kernel_rfl) (by kernel_rfl) (by kernel_rfl) (by kernel_rfl) (fun _ _ _ h => h) (Or.inl ⟨by rfl, by intro w hSw; obtain ⟨p00, p01, p10, p11, g1, g2, g3, g4⟩ := hSw; go_simp⟩) hHeld ?_
            simp only [Act.put, List.setIfInBounds_toArray, List.set_cons_zero, List.set_cons_succ]
            refine take (i := 5) (d := some 34) (v := .int .i64 j) rfl (by kernel_rfl) (by kernel_rfl) (by kernel_rfl) (by kernel_rfl) (fun _ _ _ h => h) (Or.inl ⟨by rfl, by intro w hSw; go_simp⟩) hHeld ?_
            simp only [Act.put, List.setIfInBounds_toArray, List.set_cons_zero, List.set_cons_succ]
            refine wpAnyH_ready (rs := [6]) (by kernel_rfl) (by simp) (Mi.readyCall2 rfl (by kernel_rfl) 81 (.tmp 33) (.tmp 34) 3 3 (by kernel_rfl) 35 (by kernel_rfl) _ _ (by kernel_rfl) (by kernel_rfl) (fun _ => rfl) (H2.out _) (fun wx hb => by rw [hb]; exact hHeld) (fun wx hb hHeld => ?_) AllReadyH.nil)
            subst hb
            simp only [Act.put, List.setIfInBounds_toArray, List.set_cons_zero, List.set_cons_succ]
            refine take (i := 7) (d := some 36) (v := .bool false) rfl (by kernel_rfl) (by kernel_rfl) (by kernel_rfl) (by kernel_rfl) (fun _ _ _ h => h) (Or.inl ⟨by rfl, by intro w hSw; go_simp⟩) hHeld ?_
            simp only [Act.put, List.setIfInBounds_toArray, List.set_cons_zero, List.set_cons_succ]
            refine take (i := 8) (d := some 37) (v := .bool false) rfl (by kernel_rfl) (by kernel_rfl) (by kernel_rfl) (by kernel_rfl) (fun _ _ _ h => h) (Or.inl ⟨by rfl, by intro w hSw; go_simp⟩) hHeld ?_
            simp only [Act.put, List.setIfInBounds_toArray, List.set_cons_zero, List.set_cons_succ]
            refine take (i := 9) (d := some 38) (v := undef) rfl (by kernel_rfl) (by kernel_rfl) (by kernel_rfl) (by kernel_rfl) (fun _ _ _ h => h) (Or.inr ⟨by rfl, rfl⟩) hHeld ?_
            simp only [Act.put, List.setIfInBounds_toArray, List.set_cons_zero, List.set_cons_succ]
            refine take (i := 10) (d := some 39) (v := undef) rfl (by kernel_rfl) (by kernel_rfl) (by kernel_rfl) (by kernel_rfl) (fun _ _ _ h => h) (Or.inr ⟨by rfl, rfl⟩) hHeld ?_
            simp only [Act.put, List.setIfInBounds_toArray, List.set_cons_zero, List.set_cons_succ]
            refine take (i := 11) (d := some 40) (v := undef) rfl (by kernel_rfl) (by kernel_rfl) (by kernel_rfl) (by kernel_rfl) (fun _ _ _ h => h) (Or.inr ⟨by rfl, rfl⟩) hHeld ?_
            simp only [Act.put, List.setIfInBounds_toArray, List.set_cons_zero, List.set_cons_succ]
            refine take (i := 12) (d := some 41) (v := undef) rfl (by kernel_rfl) (by kernel_rfl) (by kernel_rfl) (by kernel_rfl) (fun _ _ _ h => h) (Or.inr ⟨by rfl, rfl⟩) hHeld ?_
            simp only [Act.put, List.setIfInBounds_toArray, List.set_cons_zero, List.set_cons_succ]
            refine take (i := 13) (d := some 42) (v := undef) rfl (by kernel_rfl) (by kernel_rfl) (by kernel_rfl) (by kernel_rfl) (fun _ _ _ h => h) (Or.inr ⟨by rfl, rfl⟩) hHeld ?_
            simp only [Act.put, List.setIfInBounds_toArray, List.set_cons_zero, List.set_cons_succ]
            refine take (i := 14) (d := some 43) (v := undef) rfl (by kernel_rfl) (by kernel_rfl) (by kernel_rfl) (by kernel_rfl) (fun _ _ _ h => h) (Or.inr ⟨by rfl, rfl⟩) hHeld ?_
            simp only [Act.put, List.setIfInBounds_toArray, List.set_cons_zero, List.set_cons_succ]
            refine take (i := 15) (d := some 44) (v := undef) rfl (by kernel_rfl) (by kernel_rfl) (by kernel_rfl) (by kernel_rfl) (fun _ _ _ h => h) (Or.inr ⟨by rfl, rfl⟩) hHeld ?_
            simp only [Act.put, List.setIfInBounds_toArray, List.set_cons_zero, List.set_cons_succ]
            refine take (i := 16) (d := some 45) (v := undef) rfl (by kernel_rfl) (by kernel_rfl) (by kernel_rfl) (by kernel_rfl) (fun _ _ _ h => h) (Or.inr ⟨by rfl, rfl⟩) hHeld ?_
            simp only [Act.put, List.setIfInBounds_toArray, List.set_cons_zero, List.set_cons_succ]
            refine take (i := 17) (d := some 46) (v := .bool false) rfl (by kernel_rfl) (by kernel_rfl) (by kernel_rfl) (by kernel_rfl) (fun _ _ _ h => h) (Or.inl ⟨by rfl, by intro w hSw; go_simp⟩) hHeld ?_
            simp only [Act.put, List.setIfInBounds_toArray, List.set_cons_zero, List.set_cons_succ]
            refine take (i := 18) (d := some 47) (v := .bool false) rfl (by kernel_rfl) (by kernel_rfl) (by kernel_rfl) (by kernel_rfl) (fun _ _ _ h => h) (Or.inl ⟨by rfl, by intro w hSw; go_simp⟩) hHeld ?_
            simp only [Act.put, List.setIfInBounds_toArray, List.set_cons_zero, List.set_cons_succ]
            refine take (i := 19) (d := some 48) (v := undef) rfl (by kernel_rfl) (by kernel_rfl) (by kernel_rfl) (by kernel_rfl) (fun _ _ _ h => h) (Or.inr ⟨by rfl, rfl⟩) hHeld ?_
            simp only [Act.put, List.setIfInBounds_toArray, List.set_cons_zero, List.set_cons_succ]
            refine take (i := 20) (d := some 49) (v := undef) rfl (by kernel_rfl) (by kernel_rfl) (by kernel_rfl) (by kernel_rfl) (fun _ _ _ h => h) (Or.inr ⟨by rfl, rfl⟩) hHeld ?_
            simp only [Act.put, List.setIfInBounds_toArray, List.set_cons_zero, List.set_cons_succ]
            refine take (i := 21) (d := some 50) (v := undef) rfl (by kernel_rfl) (by kernel_rfl) (by kernel_rfl) (by kernel_rfl) (fun _ _ _ h => h) (Or.inr ⟨by rfl, rfl⟩) hHeld ?_
            simp only [Act.put, List.setIfInBounds_toArray, List.set_cons_zero, List.set_cons_succ]
            refine take (i := 22) (d := some 51) (v := undef) rfl (by kernel_rfl) (by kernel_rfl) (by kernel_rfl) (by kernel_rfl) (fun _ _ _ h => h) (Or.inr ⟨by rfl, rfl⟩) hHeld ?_
            simp only [Act.put, List.setIfInBounds_toArray, List.set_cons_zero, List.set_cons_succ]
            refine take (i := 23) (d := some 52) (v := undef) rfl (by kernel_rfl) (by kernel_rfl) (by kernel_rfl) (by kernel_rfl) (fun _ _ _ h => h) (Or.inr ⟨by rfl, rfl⟩) hHeld ?_
            simp only [Act.put, List.setIfInBounds_toArray, List.set_cons_zero, List.set_cons_succ]
            refine take (i := 24) (d := some 53) (v := undef) rfl (by kernel_rfl) (by kernel_rfl) (by kernel_rfl) (by kernel_rfl) (fun _ _ _ h => h) (Or.inr ⟨by rfl, rfl⟩) hHeld ?_
            simp only [Act.put, List.setIfInBounds_toArray, List.set_cons_zero, List.set_cons_succ]
            refine take (i := 26) (d := some 55) (v := undef) rfl (by kernel_rfl) (by kernel_rfl) (by kernel_rfl) (by kernel_rfl) (fun _ _ _ h => h) (Or.inr ⟨by rfl, rfl⟩) hHeld ?_
            simp only [Act.put, List.setIfInBounds_toArray, List.set_cons_zero, List.set_cons_succ]
            refine take (i := 27) (d := some 56) (v := undef) rfl (by kernel_rfl) (by kernel_rfl) (by kernel_rfl) (by kernel_rfl) (fun _ _ _ h => h) (Or.inr ⟨by rfl, rfl⟩) hHeld ?_
            simp only [Act.put, List.setIfInBounds_toArray, List.set_cons_zero, List.set_cons_succ]
            refine take (i := 28) (d := some 57) (v := undef) rfl (by kernel_rfl) (by kernel_rfl) (by kernel_rfl) (by kernel_rfl) (fun _ _ _ h => h) (Or.inr ⟨by rfl, rfl⟩) hHeld ?_
            simp only [Act.put, List.setIfInBounds_toArray, List.set_cons_zero, List.set_cons_succ]
            refine take (i := 29) (d := some 58) (v := undef) rfl (by kernel_rfl) (by kernel_rfl) (by kernel_rfl) (by kernel_rfl) (fun _ _ _ h => h) (Or.inr ⟨by rfl, rfl⟩) hHeld ?_
            simp only [Act.put, List.setIfInBounds_toArray, List.set_cons_zero, List.set_cons_succ]
            refine take (i := 30) (d := some 59) (v := undef) rfl (by kernel_rfl) (by kernel_rfl) (by kernel_rfl) (by kernel_rfl) (fun _ _ _ h => h) (Or.inr ⟨by rfl, rfl⟩) hHeld ?_
            simp only [Act.put, List.setIfInBounds_toArray, List.set_cons_zero, List.set_cons_succ]
            refine take (i := 31) (d := some 60) (v := undef) rfl (by kernel_rfl) (by kernel_rfl) (by kernel_rfl) (by kernel_rfl) (fun _ _ _ h => h) (Or.inr ⟨by rfl, rfl⟩) hHeld ?_
            simp only [Act.put, List.setIfInBounds_toArray, List.set_cons_zero, List.set_cons_succ]
            refine take (i := 25) (d := some 54) (v := undef) rfl (by kernel_rfl) (by kernel_rfl) (by kernel_rfl) (by kernel_rfl) (fun _ _ _ h => h) (Or.inr ⟨by rfl, rfl⟩) hHeld ?_
            simp only [Act.put, List.setIfInBounds_toArray, List.set_cons_zero, List.set_cons_succ]
            refine take (i := 32) (d := some 61) (v := undef) rfl (by kernel_rfl) (by kernel_rfl) (by kernel_rfl) (by kernel_rfl) (fun _ _ _ h => h) (Or.inr ⟨by rfl, rfl⟩) hHeld ?_
            simp only [Act.put, List.setIfInBounds_toArray, List.set_cons_zero, List.set_cons_succ]
            refine take (i := 33) (d := some 62) (v := undef) rfl (by kernel_rfl) (by kernel_rfl) (by kernel_rfl) (by kernel_rfl) (fun _ _ _ h => h) (Or.inr ⟨by rfl, rfl⟩) hHeld ?_
            simp only [Act.put, List.setIfInBounds_toArray, List.set_cons_zero, List.set_cons_succ]
            refine take (i := 34) (d := some 63) (v := .bool false) rfl (by kernel_rfl) (by kernel_rfl) (by kernel_rfl) (by kernel_rfl) (fun _ _ _ h => h) (Or.inl ⟨by rfl, by intro w hSw; go_simp⟩) hHeld ?_
            simp only [Act.put, List.setIfInBounds_toArray, List.set_cons_zero, List.set_cons_succ]
            refine wpAnyH_done (by kernel_rfl) ?_ _
            go_wp2
            go_roundw
            case rel => exact ⟨j + 1, by omega, by go_num, hbi.drew, HY.out (fun h => by have := U.out; omega)⟩
            case measure => simp [intOf]; omega
          · have U : Hid (x4 = 0) := v
            have f1 : (x2 == 1) = true := by rw [u]; rfl
            have f2 : (x4 == 1) = false := by rw [v]; rfl
            clear u v y1 y2 y3 y4
            refine wp_region_held_drew (S := (fun w' => w'.cell? ⟨w.heap.size, 0, none⟩ = some (.slice (some ⟨b1, o1, none⟩) 8 c1) ∧ w'.cell? ⟨w.heap.size, 1, none⟩ = some (.slice (some ⟨b2, o2, none⟩) 8 c2) ∧ w'.cell? ⟨w.heap.size + 1, 0, none⟩ = some (.slice (some ⟨b3, o3, none⟩) 8 c3) ∧ w'.cell? ⟨w.heap.size + 1, 1, none⟩ = some (.slice (some ⟨b4, o4, none⟩) 8 c4) ∧ w'.cell? ⟨b1, o1 + k, none⟩ = some (.int .i64 m1) ∧ w'.cell? ⟨b2, o2 + k, none⟩ = some (.int .i64 m2) ∧ w'.cell? ⟨b3, o3 + k, none⟩ = some (.int .i64 m3) ∧ w'.cell? ⟨b4, o4 + k, none⟩ = some (.int .i64 m4))) (by kernel_rfl) ⟨p00, p01, p10, p11, g1, g2, g3, g4⟩ (fun hHeld => ?_)
            refine take (i := 0) (d := some 29) (v := .pointer (some ⟨w.heap.size, 1, none⟩)) rfl (by kernel_rfl) (by kernel_rfl) (by kernel_rfl) (by kernel_rfl) (fun _ _ _ h => h) (Or.inl ⟨by rfl, by intro w hSw; go_simp⟩) hHeld ?_
            simp only [Act.put, List.setIfInBounds_toArray, List.set_cons_zero, List.set_cons_succ]
            refine take (i := 1) (d := some 30) (v := .slice (some ⟨b2, o2, none⟩) 8 c2) rfl (by kernel_rfl) (by kernel_rfl) (by kernel_rfl) (by kernel_rfl) (fun _ _ _ h => h) (Or.inl ⟨by rfl, by intro w hSw; obtain ⟨p00, p01, p10, p11, g1, g2, g3, g4⟩ := hSw; go_simp⟩) hHeld ?_
            simp only [Act.put, List.setIfInBounds_toArray, List.set_cons_zero, List.set_cons_succ]
            refine take (i := 2) (d := some 31) (v := .int .i64 k) rfl (by kernel_rfl) (by kernel_rfl) (by kernel_rfl) (by kernel_rfl) (fun _ _ _ h => h) (Or.inl ⟨by rfl, by intro w hSw; go_simp⟩) hHeld ?_
            simp only [Act.put, List.setIfInBounds_toArray, List.set_cons_zero, List.set_cons_succ]
            refine take (i := 3) (d := some 32) (v := .pointer (some ⟨b2, o2 + k, none⟩)) rfl (by kernel_rfl) (by kernel_rfl) (by kernel_rfl) (by kernel_rfl) (fun _ _ _ h => h) (Or.inl ⟨by rfl, by intro w hSw; go_simp⟩) hHeld ?_
            simp only [Act.put, List.setIfInBounds_toArray, List.set_cons_zero, List.set_cons_succ]
            refine take (i := 4) (d := some 33) (v := .int .i64 m2) rfl (by kernel_rfl) (by kernel_rfl) (by kernel_rfl) (by kernel_rfl) (fun _ _ _ h => h) (Or.inl ⟨by rfl, by intro w hSw; obtain ⟨p00, p01, p10, p11, g1, g2, g3, g4⟩ := hSw; go_simp⟩) hHeld ?_
            simp only [Act.put, List.setIfInBounds_toArray, List.set_cons_zero, List.set_cons_succ]
            refine take (i := 5) (d := some 34) (v := .int .i64 j) rfl (by kernel_rfl) (by kernel_rfl) (by kernel_rfl) (by kernel_rfl) (fun _ _ _ h => h) (Or.inl ⟨by rfl, by intro w hSw; go_simp⟩) hHeld ?_
            simp only [Act.put, List.setIfInBounds_toArray, List.set_cons_zero, List.set_cons_succ]
            refine wpAnyH_ready (rs := [6]) (by kernel_rfl) (by simp) (Mi.readyCall2 rfl (by kernel_rfl) 81 (.tmp 33) (.tmp 34) 3 3 (by kernel_rfl) 35 (by kernel_rfl) _ _ (by kernel_rfl) (by kernel_rfl) (fun _ => rfl) (H2.out _) (fun wx hb => by rw [hb]; exact hHeld) (fun wx hb hHeld => ?_) AllReadyH.nil)
            subst hb
            simp only [Act.put, List.setIfInBounds_toArray, List.set_cons_zero, List.set_cons_succ]
            refine take (i := 7) (d := some 36) (v := .bool true) rfl (by kernel_rfl) (by kernel_rfl) (by kernel_rfl) (by kernel_rfl) (fun _ _ _ h => h) (Or.inl ⟨by rfl, by intro w hSw; go_simp⟩) hHeld ?_
            simp only [Act.put, List.setIfInBounds_toArray, List.set_cons_zero, List.set_cons_succ]
            refine take (i := 8) (d := some 37) (v := .bool true) rfl (by kernel_rfl) (by kernel_rfl) (by kernel_rfl) (by kernel_rfl) (fun _ _ _ h => h) (Or.inl ⟨by rfl, by intro w hSw; go_simp⟩) hHeld ?_
            simp only [Act.put, List.setIfInBounds_toArray, List.set_cons_zero, List.set_cons_succ]
            refine take (i := 9) (d := some 38) (v := .pointer (some ⟨w.heap.size + 1, 1, none⟩)) rfl (by kernel_rfl) (by kernel_rfl) (by kernel_rfl) (by kernel_rfl) (fun _ _ _ h => h) (Or.inl ⟨by rfl, by intro w hSw; go_simp⟩) hHeld ?_
            simp only [Act.put, List.setIfInBounds_toArray, List.set_cons_zero, List.set_cons_succ]
            refine take (i := 10) (d := some 39) (v := .slice (some ⟨b4, o4, none⟩) 8 c4) rfl (by kernel_rfl) (by kernel_rfl) (by kernel_rfl) (by kernel_rfl) (fun _ _ _ h => h) (Or.inl ⟨by rfl, by intro w hSw; obtain ⟨p00, p01, p10, p11, g1, g2, g3, g4⟩ := hSw; go_simp⟩) hHeld ?_
            simp only [Act.put, List.setIfInBounds_toArray, List.set_cons_zero, List.set_cons_succ]
            refine take (i := 11) (d := some 40) (v := .int .i64 k) rfl (by kernel_rfl) (by kernel_rfl) (by kernel_rfl) (by kernel_rfl) (fun _ _ _ h => h) (Or.inl ⟨by rfl, by intro w hSw; go_simp⟩) hHeld ?_
            simp only [Act.put, List.setIfInBounds_toArray, List.set_cons_zero, List.set_cons_succ]
            refine take (i := 12) (d := some 41) (v := .pointer (some ⟨b4, o4 + k, none⟩)) rfl (by kernel_rfl) (by kernel_rfl) (by kernel_rfl) (by kernel_rfl) (fun _ _ _ h => h) (Or.inl ⟨by rfl, by intro w hSw; go_simp⟩) hHeld ?_
            simp only [Act.put, List.setIfInBounds_toArray, List.set_cons_zero, List.set_cons_succ]
            refine take (i := 13) (d := some 42) (v := .int .i64 m4) rfl (by kernel_rfl) (by kernel_rfl) (by kernel_rfl) (by kernel_rfl) (fun _ _ _ h => h) (Or.inl ⟨by rfl, by intro w hSw; obtain ⟨p00, p01, p10, p11, g1, g2, g3, g4⟩ := hSw; go_simp⟩) hHeld ?_
            simp only [Act.put, List.setIfInBounds_toArray, List.set_cons_zero, List.set_cons_succ]
            refine take (i := 14) (d := some 43) (v := .int .i64 j) rfl (by kernel_rfl) (by kernel_rfl) (by kernel_rfl) (by kernel_rfl) (fun _ _ _ h => h) (Or.inl ⟨by rfl, by intro w hSw; go_simp⟩) hHeld ?_
            simp only [Act.put, List.setIfInBounds_toArray, List.set_cons_zero, List.set_cons_succ]
            refine wpAnyH_ready (rs := [15]) (by kernel_rfl) (by simp) (Mi.readyCall2 rfl (by kernel_rfl) 81 (.tmp 42) (.tmp 43) 3 3 (by kernel_rfl) 44 (by kernel_rfl) _ _ (by kernel_rfl) (by kernel_rfl) (fun _ => rfl) (H4.out _) (fun wx hb => by rw [hb]; exact hHeld) (fun wx hb hHeld => ?_) AllReadyH.nil)
            subst hb
            simp only [Act.put, List.setIfInBounds_toArray, List.set_cons_zero, List.set_cons_succ]
            refine take (i := 16) (d := some 45) (v := .bool false) rfl (by kernel_rfl) (by kernel_rfl) (by kernel_rfl) (by kernel_rfl) (fun _ _ _ h => h) (Or.inl ⟨by rfl, by intro w hSw; go_simp⟩) hHeld ?_
            simp only [Act.put, List.setIfInBounds_toArray, List.set_cons_zero, List.set_cons_succ]
            refine take (i := 17) (d := some 46) (v := .bool false) rfl (by kernel_rfl) (by kernel_rfl) (by kernel_rfl) (by kernel_rfl) (fun _ _ _ h => h) (Or.inl ⟨by rfl, by intro w hSw; go_simp⟩) hHeld ?_
            simp only [Act.put, List.setIfInBounds_toArray, List.set_cons_zero, List.set_cons_succ]
            refine take (i := 18) (d := some 47) (v := .bool false) rfl (by kernel_rfl) (by kernel_rfl) (by kernel_rfl) (by kernel_rfl) (fun _ _ _ h => h) (Or.inl ⟨by rfl, by intro w hSw; go_simp⟩) hHeld ?_
            simp only [Act.put, List.setIfInBounds_toArray, List.set_cons_zero, List.set_cons_succ]
            refine take (i := 19) (d := some 48) (v := undef) rfl (by kernel_rfl) (by kernel_rfl) (by kernel_rfl) (by kernel_rfl) (fun _ _ _ h => h) (Or.inr ⟨by rfl, rfl⟩) hHeld ?_
            simp only [Act.put, List.setIfInBounds_toArray, List.set_cons_zero, List.set_cons_succ]
            refine take (i := 20) (d := some 49) (v := undef) rfl (by kernel_rfl) (by kernel_rfl) (by kernel_rfl) (by kernel_rfl) (fun _ _ _ h => h) (Or.inr ⟨by rfl, rfl⟩) hHeld ?_
            simp only [Act.put, List.setIfInBounds_toArray, List.set_cons_zero, List.set_cons_succ]
            refine take (i := 21) (d := some 50) (v := undef) rfl (by kernel_rfl) (by kernel_rfl) (by kernel_rfl) (by kernel_rfl) (fun _ _ _ h => h) (Or.inr ⟨by rfl, rfl⟩) hHeld ?_
            simp only [Act.put, List.setIfInBounds_toArray, List.set_cons_zero, List.set_cons_succ]
            refine take (i := 22) (d := some 51) (v := undef) rfl (by kernel_rfl) (by kernel_rfl) (by kernel_rfl) (by kernel_rfl) (fun _ _ _ h => h) (Or.inr ⟨by rfl, rfl⟩) hHeld ?_
            simp only [Act.put, List.setIfInBounds_toArray, List.set_cons_zero, List.set_cons_succ]
            refine take (i := 23) (d := some 52) (v := undef) rfl (by kernel_rfl) (by kernel_rfl) (by kernel_rfl) (by kernel_rfl) (fun _ _ _ h => h) (Or.inr ⟨by rfl, rfl⟩) hHeld ?_
            simp only [Act.put, List.setIfInBounds_toArray, List.set_cons_zero, List.set_cons_succ]
            refine take (i := 24) (d := some 53) (v := undef) rfl (by kernel_rfl) (by kernel_rfl) (by kernel_rfl) (by kernel_rfl) (fun _ _ _ h => h) (Or.inr ⟨by rfl, rfl⟩) hHeld ?_
            simp only [Act.put, List.setIfInBounds_toArray, List.set_cons_zero, List.set_cons_succ]
            refine take (i := 26) (d := some 55) (v := undef) rfl (by kernel_rfl) (by kernel_rfl) (by kernel_rfl) (by kernel_rfl) (fun _ _ _ h => h) (Or.inr ⟨by rfl, rfl⟩) hHeld ?_
            simp only [Act.put, List.setIfInBounds_toArray, List.set_cons_zero, List.set_cons_succ]
            refine take (i := 27) (d := some 56) (v := undef) rfl (by kernel_rfl) (by kernel_rfl) (by kernel_rfl) (by kernel_rfl) (fun _ _ _ h => h) (Or.inr ⟨by rfl, rfl⟩) hHeld ?_
            simp only [Act.put, List.setIfInBounds_toArray, List.set_cons_zero, List.set_cons_succ]
            refine take (i := 28) (d := some 57) (v := undef) rfl (by kernel_rfl) (by kernel_rfl) (by kernel_rfl) (by kernel_rfl) (fun _ _ _ h => h) (Or.inr ⟨by rfl, rfl⟩) hHeld ?_
            simp only [Act.put, List.setIfInBounds_toArray, List.set_cons_zero, List.set_cons_succ]
            refine take (i := 29) (d := some 58) (v := undef) rfl (by kernel_rfl) (by kernel_rfl) (by kernel_rfl) (by kernel_rfl) (fun _ _ _ h => h) (Or.inr ⟨by rfl, rfl⟩) hHeld ?_
            simp only [Act.put, List.setIfInBounds_toArray, List.set_cons_zero, List.set_cons_succ]
            refine take (i := 30) (d := some 59) (v := undef) rfl (by kernel_rfl) (by kernel_rfl) (by kernel_rfl) (by kernel_rfl) (fun _ _ _ h => h) (Or.inr ⟨by rfl, rfl⟩) hHeld ?_
            simp only [Act.put, List.setIfInBounds_toArray, List.set_cons_zero, List.set_cons_succ]
            refine take (i := 31) (d := some 60) (v := undef) rfl (by kernel_rfl) (by kernel_rfl) (by kernel_rfl) (by kernel_rfl) (fun _ _ _ h => h) (Or.inr ⟨by rfl, rfl⟩) hHeld ?_
            simp only [Act.put, List.setIfInBounds_toArray, List.set_cons_zero, List.set_cons_succ]
            refine take (i := 25) (d := some 54) (v := undef) rfl (by kernel_rfl) (by kernel_rfl) (by kernel_rfl) (by kernel_rfl) (fun _ _ _ h => h) (Or.inr ⟨by rfl, rfl⟩) hHeld ?_
            simp only [Act.put, List.setIfInBounds_toArray, List.set_cons_zero, List.set_cons_succ]
            refine take (i := 32) (d := some 61) (v := undef) rfl (by kernel_rfl) (by kernel_rfl) (by kernel_rfl) (by kernel_rfl) (fun _ _ _ h => h) (Or.inr ⟨by rfl, rfl⟩) hHeld ?_
            simp only [Act.put, List.setIfInBounds_toArray, List.set_cons_zero, List.set_cons_succ]
            refine take (i := 33) (d := some 62) (v := undef) rfl (by kernel_rfl) (by kernel_rfl) (by kernel_rfl) (by kernel_rfl) (fun _ _ _ h => h) (Or.inr ⟨by rfl, rfl⟩) hHeld ?_
            simp only [Act.put, List.setIfInBounds_toArray, List.set_cons_zero, List.set_cons_succ]
            refine take (i := 34) (d := some 63) (v := .bool false) rfl (by kernel_rfl) (by kernel_rfl) (by kernel_rfl) (by kernel_rfl) (fun _ _ _ h => h) (Or.inl ⟨by rfl, by intro w hSw; go_simp⟩) hHeld ?_
            simp only [Act.put, List.setIfInBounds_toArray, List.set_cons_zero, List.set_cons_succ]
            refine wpAnyH_done (by kernel_rfl) ?_ _
            go_wp2
            go_roundw
            case rel => exact ⟨j + 1, by omega, by go_num, hbi.drew, HY.out (fun _ h => by have := U.out; omega)⟩
            case measure => simp [intOf]; omega
          · have U : Hid (x1 = x3) := t
            have f1 : (x2 == 1) = true := by rw [u]; rfl
            have f2 : (x4 == 1) = true := by rw [v]; rfl
            have f3 : (x1 != x3) = false := by rw [t]; simp
            clear u v t y1 y2 y3 y4
            refine wp_region_held_drew (S := (fun w' => w'.cell? ⟨w.heap.size, 0, none⟩ = some (.slice (some ⟨b1, o1, none⟩) 8 c1) ∧ w'.cell? ⟨w.heap.size, 1, none⟩ = some (.slice (some ⟨b2, o2, none⟩) 8 c2) ∧ w'.cell? ⟨w.heap.size + 1, 0, none⟩ = some (.slice (some ⟨b3, o3, none⟩) 8 c3) ∧ w'.cell? ⟨w.heap.size + 1, 1, none⟩ = some (.slice (some ⟨b4, o4, none⟩) 8 c4) ∧ w'.cell? ⟨b1, o1 + k, none⟩ = some (.int .i64 m1) ∧ w'.cell? ⟨b2, o2 + k, none⟩ = some (.int .i64 m2) ∧ w'.cell? ⟨b3, o3 + k, none⟩ = some (.int .i64 m3) ∧ w'.cell? ⟨b4, o4 + k, none⟩ = some (.int .i64 m4))) (by kernel_rfl) ⟨p00, p01, p10, p11, g1, g2, g3, g4⟩ (fun hHeld => ?_)
            refine take (i := 0) (d := some 29) (v := .pointer (some ⟨w.heap.size, 1, none⟩)) rfl (by kernel_rfl) (by kernel_rfl) (by kernel_rfl) (by kernel_rfl) (fun _ _ _ h => h) (Or.inl ⟨by rfl, by intro w hSw; go_simp⟩) hHeld ?_
            simp only [Act.put, List.setIfInBounds_toArray, List.set_cons_zero, List.set_cons_succ]
            refine take (i := 1) (d := some 30) (v := .slice (some ⟨b2, o2, none⟩) 8 c2) rfl (by kernel_rfl) (by kernel_rfl) (by kernel_rfl) (by kernel_rfl) (fun _ _ _ h => h) (Or.inl ⟨by rfl, by intro w hSw; obtain ⟨p00, p01, p10, p11, g1, g2, g3, g4⟩ := hSw; go_simp⟩) hHeld ?_
            simp only [Act.put, List.setIfInBounds_toArray, List.set_cons_zero, List.set_cons_succ]
            refine take (i := 2) (d := some 31) (v := .int .i64 k) rfl (by kernel_rfl) (by kernel_rfl) (by kernel_rfl) (by kernel_rfl) (fun _ _ _ h => h) (Or.inl ⟨by rfl, by intro w hSw; go_simp⟩) hHeld ?_
            simp only [Act.put, List.setIfInBounds_toArray, List.set_cons_zero, List.set_cons_succ]
            refine take (i := 3) (d := some 32) (v := .pointer (some ⟨b2, o2 + k, none⟩)) rfl (by kernel_rfl) (by kernel_rfl) (by kernel_rfl) (by kernel_rfl) (fun _ _ _ h => h) (Or.inl ⟨by rfl, by intro w hSw; go_simp⟩) hHeld ?_
            simp only [Act.put, List.setIfInBounds_toArray, List.set_cons_zero, List.set_cons_succ]
            refine take (i := 4) (d := some 33) (v := .int .i64 m2) rfl (by kernel_rfl) (by kernel_rfl) (by kernel_rfl) (by kernel_rfl) (fun _ _ _ h => h) (Or.inl ⟨by rfl, by intro w hSw; obtain ⟨p00, p01, p10, p11, g1, g2, g3, g4⟩ := hSw; go_simp⟩) hHeld ?_
            simp only [Act.put, List.setIfInBounds_toArray, List.set_cons_zero, List.set_cons_succ]
            refine take (i := 5) (d := some 34) (v := .int .i64 j) rfl (by kernel_rfl) (by kernel_rfl) (by kernel_rfl) (by kernel_rfl) (fun _ _ _ h => h) (Or.inl ⟨by rfl, by intro w hSw; go_simp⟩) hHeld ?_
            simp only [Act.put, List.setIfInBounds_toArray, List.set_cons_zero, List.set_cons_succ]
            refine wpAnyH_ready (rs := [6]) (by kernel_rfl) (by simp) (Mi.readyCall2 rfl (by kernel_rfl) 81 (.tmp 33) (.tmp 34) 3 3 (by kernel_rfl) 35 (by kernel_rfl) _ _ (by kernel_rfl) (by kernel_rfl) (fun _ => rfl) (H2.out _) (fun wx hb => by rw [hb]; exact hHeld) (fun wx hb hHeld => ?_) AllReadyH.nil)
            subst hb
            simp only [Act.put, List.setIfInBounds_toArray, List.set_cons_zero, List.set_cons_succ]
            refine take (i := 7) (d := some 36) (v := .bool true) rfl (by kernel_rfl) (by kernel_rfl) (by kernel_rfl) (by kernel_rfl) (fun _ _ _ h => h) (Or.inl ⟨by rfl, by intro w hSw; go_simp⟩) hHeld ?_
            simp only [Act.put, List.setIfInBounds_toArray, List.set_cons_zero, List.set_cons_succ]
            refine take (i := 8) (d := some 37) (v := .bool true) rfl (by kernel_rfl) (by kernel_rfl) (by kernel_rfl) (by kernel_rfl) (fun _ _ _ h => h) (Or.inl ⟨by rfl, by intro w hSw; go_simp⟩) hHeld ?_
            simp only [Act.put, List.setIfInBounds_toArray, List.set_cons_zero, List.set_cons_succ]
            refine take (i := 9) (d := some 38) (v := .pointer (some ⟨w.heap.size + 1, 1, none⟩)) rfl (by kernel_rfl) (by kernel_rfl) (by kernel_rfl) (by kernel_rfl) (fun _ _ _ h => h) (Or.inl ⟨by rfl, by intro w hSw; go_simp⟩) hHeld ?_
            simp only [Act.put, List.setIfInBounds_toArray, List.set_cons_zero, List.set_cons_succ]
            refine take (i := 10) (d := some 39) (v := .slice (some ⟨b4, o4, none⟩) 8 c4) rfl (by kernel_rfl) (by kernel_rfl) (by kernel_rfl) (by kernel_rfl) (fun _ _ _ h => h) (Or.inl ⟨by rfl, by intro w hSw; obtain ⟨p00, p01, p10, p11, g1, g2, g3, g4⟩ := hSw; go_simp⟩) hHeld ?_
            simp only [Act.put, List.setIfInBounds_toArray, List.set_cons_zero, List.set_cons_succ]
            refine take (i := 11) (d := some 40) (v := .int .i64 k) rfl (by kernel_rfl) (by kernel_rfl) (by kernel_rfl) (by kernel_rfl) (fun _ _ _ h => h) (Or.inl ⟨by rfl, by intro w hSw; go_simp⟩) hHeld ?_
            simp only [Act.put, List.setIfInBounds_toArray, List.set_cons_zero, List.set_cons_succ]
            refine take (i := 12) (d := some 41) (v := .pointer (some ⟨b4, o4 + k, none⟩)) rfl (by kernel_rfl) (by kernel_rfl) (by kernel_rfl) (by kernel_rfl) (fun _ _ _ h => h) (Or.inl ⟨by rfl, by intro w hSw; go_simp⟩) hHeld ?_
            simp only [Act.put, List.setIfInBounds_toArray, List.set_cons_zero, List.set_cons_succ]
            refine take (i := 13) (d := some 42) (v := .int .i64 m4) rfl (by kernel_rfl) (by kernel_rfl) (by kernel_rfl) (by kernel_rfl) (fun _ _ _ h => h) (Or.inl ⟨by rfl, by intro w hSw; obtain ⟨p00, p01, p10, p11, g1, g2, g3, g4⟩ := hSw; go_simp⟩) hHeld ?_
            simp only [Act.put, List.setIfInBounds_toArray, List.set_cons_zero, List.set_cons_succ]
            refine take (i := 14) (d := some 43) (v := .int .i64 j) rfl (by kernel_rfl) (by kernel_rfl) (by kernel_rfl) (by kernel_rfl) (fun _ _ _ h => h) (Or.inl ⟨by rfl, by intro w hSw; go_simp⟩) hHeld ?_
            simp only [Act.put, List.setIfInBounds_toArray, List.set_cons_zero, List.set_cons_succ]
            refine wpAnyH_ready (rs := [15]) (by kernel_rfl) (by simp) (Mi.readyCall2 rfl (by kernel_rfl) 81 (.tmp 42) (.tmp 43) 3 3 (by kernel_rfl) 44 (by kernel_rfl) _ _ (by kernel_rfl) (by kernel_rfl) (fun _ => rfl) (H4.out _) (fun wx hb => by rw [hb]; exact hHeld) (fun wx hb hHeld => ?_) AllReadyH.nil)
            subst hb
            simp only [Act.put, List.setIfInBounds_toArray, List.set_cons_zero, List.set_cons_succ]
            refine take (i := 16) (d := some 45) (v := .bool true) rfl (by kernel_rfl) (by kernel_rfl) (by kernel_rfl) (by kernel_rfl) (fun _ _ _ h => h) (Or.inl ⟨by rfl, by intro w hSw; go_simp⟩) hHeld ?_
            simp only [Act.put, List.setIfInBounds_toArray, List.set_cons_zero, List.set_cons_succ]
            refine take (i := 17) (d := some 46) (v := .bool true) rfl (by kernel_rfl) (by kernel_rfl) (by kernel_rfl) (by kernel_rfl) (fun _ _ _ h => h) (Or.inl ⟨by rfl, by intro w hSw; go_simp⟩) hHeld ?_
            simp only [Act.put, List.setIfInBounds_toArray, List.set_cons_zero, List.set_cons_succ]
            refine take (i := 18) (d := some 47) (v := .bool true) rfl (by kernel_rfl) (by kernel_rfl) (by kernel_rfl) (by kernel_rfl) (fun _ _ _ h => h) (Or.inl ⟨by rfl, by intro w hSw; go_simp⟩) hHeld ?_
            simp only [Act.put, List.setIfInBounds_toArray, List.set_cons_zero, List.set_cons_succ]
            refine take (i := 19) (d := some 48) (v := .pointer (some ⟨w.heap.size, 0, none⟩)) rfl (by kernel_rfl) (by kernel_rfl) (by kernel_rfl) (by kernel_rfl) (fun _ _ _ h => h) (Or.inl ⟨by rfl, by intro w hSw; go_simp⟩) hHeld ?_
            simp only [Act.put, List.setIfInBounds_toArray, List.set_cons_zero, List.set_cons_succ]
            refine take (i := 20) (d := some 49) (v := .slice (some ⟨b1, o1, none⟩) 8 c1) rfl (by kernel_rfl) (by kernel_rfl) (by kernel_rfl) (by kernel_rfl) (fun _ _ _ h => h) (Or.inl ⟨by rfl, by intro w hSw; obtain ⟨p00, p01, p10, p11, g1, g2, g3, g4⟩ := hSw; go_simp⟩) hHeld ?_
            simp only [Act.put, List.setIfInBounds_toArray, List.set_cons_zero, List.set_cons_succ]
            refine take (i := 21) (d := some 50) (v := .int .i64 k) rfl (by kernel_rfl) (by kernel_rfl) (by kernel_rfl) (by kernel_rfl) (fun _ _ _ h => h) (Or.inl ⟨by rfl, by intro w hSw; go_simp⟩) hHeld ?_
            simp only [Act.put, List.setIfInBounds_toArray, List.set_cons_zero, List.set_cons_succ]
            refine take (i := 22) (d := some 51) (v := .pointer (some ⟨b1, o1 + k, none⟩)) rfl (by kernel_rfl) (by kernel_rfl) (by kernel_rfl) (by kernel_rfl) (fun _ _ _ h => h) (Or.inl ⟨by rfl, by intro w hSw; go_simp⟩) hHeld ?_
            simp only [Act.put, List.setIfInBounds_toArray, List.set_cons_zero, List.set_cons_succ]
            refine take (i := 23) (d := some 52) (v := .int .i64 m1) rfl (by kernel_rfl) (by kernel_rfl) (by kernel_rfl) (by kernel_rfl) (fun _ _ _ h => h) (Or.inl ⟨by rfl, by intro w hSw; obtain ⟨p00, p01, p10, p11, g1, g2, g3, g4⟩ := hSw; go_simp⟩) hHeld ?_
            simp only [Act.put, List.setIfInBounds_toArray, List.set_cons_zero, List.set_cons_succ]
            refine take (i := 24) (d := some 53) (v := .int .i64 j) rfl (by kernel_rfl) (by kernel_rfl) (by kernel_rfl) (by kernel_rfl) (fun _ _ _ h => h) (Or.inl ⟨by rfl, by intro w hSw; go_simp⟩) hHeld ?_
            simp only [Act.put, List.setIfInBounds_toArray, List.set_cons_zero, List.set_cons_succ]
            refine take (i := 26) (d := some 55) (v := .pointer (some ⟨w.heap.size + 1, 0, none⟩)) rfl (by kernel_rfl) (by kernel_rfl) (by kernel_rfl) (by kernel_rfl) (fun _ _ _ h => h) (Or.inl ⟨by rfl, by intro w hSw; go_simp⟩) hHeld ?_
            simp only [Act.put, List.setIfInBounds_toArray, List.set_cons_zero, List.set_cons_succ]
            refine take (i := 27) (d := some 56) (v := .slice (some ⟨b3, o3, none⟩) 8 c3) rfl (by kernel_rfl) (by kernel_rfl) (by kernel_rfl) (by kernel_rfl) (fun _ _ _ h => h) (Or.inl ⟨by rfl, by intro w hSw; obtain ⟨p00, p01, p10, p11, g1, g2, g3, g4⟩ := hSw; go_simp⟩) hHeld ?_
            simp only [Act.put, List.setIfInBounds_toArray, List.set_cons_zero, List.set_cons_succ]
            refine take (i := 28) (d := some 57) (v := .int .i64 k) rfl (by kernel_rfl) (by kernel_rfl) (by kernel_rfl) (by kernel_rfl) (fun _ _ _ h => h) (Or.inl ⟨by rfl, by intro w hSw; go_simp⟩) hHeld ?_
            simp only [Act.put, List.setIfInBounds_toArray, List.set_cons_zero, List.set_cons_succ]
            refine take (i := 29) (d := some 58) (v := .pointer (some ⟨b3, o3 + k, none⟩)) rfl (by kernel_rfl) (by kernel_rfl) (by kernel_rfl) (by kernel_rfl) (fun _ _ _ h => h) (Or.inl ⟨by rfl, by intro w hSw; go_simp⟩) hHeld ?_
            simp only [Act.put, List.setIfInBounds_toArray, List.set_cons_zero, List.set_cons_succ]
            refine take (i := 30) (d := some 59) (v := .int .i64 m3) rfl (by kernel_rfl) (by kernel_rfl) (by kernel_rfl) (by kernel_rfl) (fun _ _ _ h => h) (Or.inl ⟨by rfl, by intro w hSw; obtain ⟨p00, p01, p10, p11, g1, g2, g3, g4⟩ := hSw; go_simp⟩) hHeld ?_
            simp only [Act.put, List.setIfInBounds_toArray, List.set_cons_zero, List.set_cons_succ]
            refine take (i := 31) (d := some 60) (v := .int .i64 j) rfl (by kernel_rfl) (by kernel_rfl) (by kernel_rfl) (by kernel_rfl) (fun _ _ _ h => h) (Or.inl ⟨by rfl, by intro w hSw; go_simp⟩) hHeld ?_
            simp only [Act.put, List.setIfInBounds_toArray, List.set_cons_zero, List.set_cons_succ]
            refine wpAnyH_ready (rs := [25]) (by kernel_rfl) (by simp) (Mi.readyCall2 rfl (by kernel_rfl) 81 (.tmp 52) (.tmp 53) 3 3 (by kernel_rfl) 54 (by kernel_rfl) _ _ (by kernel_rfl) (by kernel_rfl) (fun _ => rfl) (H1.out _) (fun wx hb => by rw [hb]; exact hHeld) (fun wx hb hHeld => ?_) AllReadyH.nil)
            subst hb
            simp only [Act.put, List.setIfInBounds_toArray, List.set_cons_zero, List.set_cons_succ]
            refine wpAnyH_ready (rs := [32]) (by kernel_rfl) (by simp) (Mi.readyCall2 rfl (by kernel_rfl) 81 (.tmp 59) (.tmp 60) 3 3 (by kernel_rfl) 61 (by kernel_rfl) _ _ (by kernel_rfl) (by kernel_rfl) (fun _ => rfl) (H3.out _) (fun wx hb => by rw [hb]; exact hHeld) (fun wx hb hHeld => ?_) AllReadyH.nil)
            subst hb
            simp only [Act.put, List.setIfInBounds_toArray, List.set_cons_zero, List.set_cons_succ]
            refine take (i := 33) (d := some 62) (v := .bool false) rfl (by kernel_rfl) (by kernel_rfl) (by kernel_rfl) (by kernel_rfl) (fun _ _ _ h => h) (Or.inl ⟨by rfl, by intro w hSw; go_simp⟩) hHeld ?_
            simp only [Act.put, List.setIfInBounds_toArray, List.set_cons_zero, List.set_cons_succ]
            refine take (i := 34) (d := some 63) (v := .bool false) rfl (by kernel_rfl) (by kernel_rfl) (by kernel_rfl) (by kernel_rfl) (fun _ _ _ h => h) (Or.inl ⟨by rfl, by intro w hSw; go_simp⟩) hHeld ?_
            simp only [Act.put, List.setIfInBounds_toArray, List.set_cons_zero, List.set_cons_succ]
            refine wpAnyH_done (by kernel_rfl) ?_ _
            go_wp2
            go_roundw
            case rel => exact ⟨j + 1, by omega, by go_num, hbi.drew, HY.out (fun _ _ => U.out)⟩
            case measure => simp [intOf]; omega
          · have U : Hid (x2 = 1 ∧ x4 = 1 ∧ ¬ x1 = x3) := ⟨u, v, t⟩
            have f1 : (x2 == 1) = true := by rw [u]; rfl
            have f2 : (x4 == 1) = true := by rw [v]; rfl
            have f3 : (x1 != x3) = true := by simpa using t
            clear u v t y1 y2 y3 y4
            refine wp_region_held_drew (S := (fun w' => w'.cell? ⟨w.heap.size, 0, none⟩ = some (.slice (some ⟨b1, o1, none⟩) 8 c1) ∧ w'.cell? ⟨w.heap.size, 1, none⟩ = some (.slice (some ⟨b2, o2, none⟩) 8 c2) ∧ w'.cell? ⟨w.heap.size + 1, 0, none⟩ = some (.slice (some ⟨b3, o3, none⟩) 8 c3) ∧ w'.cell? ⟨w.heap.size + 1, 1, none⟩ = some (.slice (some ⟨b4, o4, none⟩) 8 c4) ∧ w'.cell? ⟨b1, o1 + k, none⟩ = some (.int .i64 m1) ∧ w'.cell? ⟨b2, o2 + k, none⟩ = some (.int .i64 m2) ∧ w'.cell? ⟨b3, o3 + k, none⟩ = some (.int .i64 m3) ∧ w'.cell? ⟨b4, o4 + k, none⟩ = some (.int .i64 m4))) (by kernel_rfl) ⟨p00, p01, p10, p11, g1, g2, g3, g4⟩ (fun hHeld => ?_)
            refine take (i := 0) (d := some 29) (v := .pointer (some ⟨w.heap.size, 1, none⟩)) rfl (by kernel_rfl) (by kernel_rfl) (by kernel_rfl) (by kernel_rfl) (fun _ _ _ h => h) (Or.inl ⟨by rfl, by intro w hSw; go_simp⟩) hHeld ?_
            simp only [Act.put, List.setIfInBounds_toArray, List.set_cons_zero, List.set_cons_succ]
            refine take (i := 1) (d := some 30) (v := .slice (some ⟨b2, o2, none⟩) 8 c2) rfl (by kernel_rfl) (by kernel_rfl) (by kernel_rfl) (by kernel_rfl) (fun _ _ _ h => h) (Or.inl ⟨by rfl, by intro w hSw; obtain ⟨p00, p01, p10, p11, g1, g2, g3, g4⟩ := hSw; go_simp⟩) hHeld ?_
            simp only [Act.put, List.setIfInBounds_toArray, List.set_cons_zero, List.set_cons_succ]
            refine take (i := 2) (d := some 31) (v := .int .i64 k) rfl (by kernel_rfl) (by kernel_rfl) (by kernel_rfl) (by kernel_rfl) (fun _ _ _ h => h) (Or.inl ⟨by rfl, by intro w hSw; go_simp⟩) hHeld ?_
            simp only [Act.put, List.setIfInBounds_toArray, List.set_cons_zero, List.set_cons_succ]
            refine take (i := 3) (d := some 32) (v := .pointer (some ⟨b2, o2 + k, none⟩)) rfl (by kernel_rfl) (by kernel_rfl) (by kernel_rfl) (by kernel_rfl) (fun _ _ _ h => h) (Or.inl ⟨by rfl, by intro w hSw; go_simp⟩) hHeld ?_
            simp only [Act.put, List.setIfInBounds_toArray, List.set_cons_zero, List.set_cons_succ]
            refine take (i := 4) (d := some 33) (v := .int .i64 m2) rfl (by kernel_rfl) (by kernel_rfl) (by kernel_rfl) (by kernel_rfl) (fun _ _ _ h => h) (Or.inl ⟨by rfl, by intro w hSw; obtain ⟨p00, p01, p10, p11, g1, g2, g3, g4⟩ := hSw; go_simp⟩) hHeld ?_
            simp only [Act.put, List.setIfInBounds_toArray, List.set_cons_zero, List.set_cons_succ]
            refine take (i := 5) (d := some 34) (v := .int .i64 j) rfl (by kernel_rfl) (by kernel_rfl) (by kernel_rfl) (by kernel_rfl) (fun _ _ _ h => h) (Or.inl ⟨by rfl, by intro w hSw; go_simp⟩) hHeld ?_
            simp only [Act.put, List.setIfInBounds_toArray, List.set_cons_zero, List.set_cons_succ]
            refine wpAnyH_ready (rs := [6]) (by kernel_rfl) (by simp) (Mi.readyCall2 rfl (by kernel_rfl) 81 (.tmp 33) (.tmp 34) 3 3 (by kernel_rfl) 35 (by kernel_rfl) _ _ (by kernel_rfl) (by kernel_rfl) (fun _ => rfl) (H2.out _) (fun wx hb => by rw [hb]; exact hHeld) (fun wx hb hHeld => ?_) AllReadyH.nil)
            subst hb
            simp only [Act.put, List.setIfInBounds_toArray, List.set_cons_zero, List.set_cons_succ]
            refine take (i := 7) (d := some 36) (v := .bool true) rfl (by kernel_rfl) (by kernel_rfl) (by kernel_rfl) (by kernel_rfl) (fun _ _ _ h => h) (Or.inl ⟨by rfl, by intro w hSw; go_simp⟩) hHeld ?_
            simp only [Act.put, List.setIfInBounds_toArray, List.set_cons_zero, List.set_cons_succ]
            refine take (i := 8) (d := some 37) (v := .bool true) rfl (by kernel_rfl) (by kernel_rfl) (by kernel_rfl) (by kernel_rfl) (fun _ _ _ h => h) (Or.inl ⟨by rfl, by intro w hSw; go_simp⟩) hHeld ?_
            simp only [Act.put, List.setIfInBounds_toArray, List.set_cons_zero, List.set_cons_succ]
            refine take (i := 9) (d := some 38) (v := .pointer (some ⟨w.heap.size + 1, 1, none⟩)) rfl (by kernel_rfl) (by kernel_rfl) (by kernel_rfl) (by kernel_rfl) (fun _ _ _ h => h) (Or.inl ⟨by rfl, by intro w hSw; go_simp⟩) hHeld ?_
            simp only [Act.put, List.setIfInBounds_toArray, List.set_cons_zero, List.set_cons_succ]
            refine take (i := 10) (d := some 39) (v := .slice (some ⟨b4, o4, none⟩) 8 c4) rfl (by kernel_rfl) (by kernel_rfl) (by kernel_rfl) (by kernel_rfl) (fun _ _ _ h => h) (Or.inl ⟨by rfl, by intro w hSw; obtain ⟨p00, p01, p10, p11, g1, g2, g3, g4⟩ := hSw; go_simp⟩) hHeld ?_
            simp only [Act.put, List.setIfInBounds_toArray, List.set_cons_zero, List.set_cons_succ]
            refine take (i := 11) (d := some 40) (v := .int .i64 k) rfl (by kernel_rfl) (by kernel_rfl) (by kernel_rfl) (by kernel_rfl) (fun _ _ _ h => h) (Or.inl ⟨by rfl, by intro w hSw; go_simp⟩) hHeld ?_
            simp only [Act.put, List.setIfInBounds_toArray, List.set_cons_zero, List.set_cons_succ]
            refine take (i := 12) (d := some 41) (v := .pointer (some ⟨b4, o4 + k, none⟩)) rfl (by kernel_rfl) (by kernel_rfl) (by kernel_rfl) (by kernel_rfl) (fun _ _ _ h => h) (Or.inl ⟨by rfl, by intro w hSw; go_simp⟩) hHeld ?_
            simp only [Act.put, List.setIfInBounds_toArray, List.set_cons_zero, List.set_cons_succ]
            refine take (i := 13) (d := some 42) (v := .int .i64 m4) rfl (by kernel_rfl) (by kernel_rfl) (by kernel_rfl) (by kernel_rfl) (fun _ _ _ h => h) (Or.inl ⟨by rfl, by intro w hSw; obtain ⟨p00, p01, p10, p11, g1, g2, g3, g4⟩ := hSw; go_simp⟩) hHeld ?_
            simp only [Act.put, List.setIfInBounds_toArray, List.set_cons_zero, List.set_cons_succ]
            refine take (i := 14) (d := some 43) (v := .int .i64 j) rfl (by kernel_rfl) (by kernel_rfl) (by kernel_rfl) (by kernel_rfl) (fun _ _ _ h => h) (Or.inl ⟨by rfl, by intro w hSw; go_simp⟩) hHeld ?_
            simp only [Act.put, List.setIfInBounds_toArray, List.set_cons_zero, List.set_cons_succ]
            refine wpAnyH_ready (rs := [15]) (by kernel_rfl) (by simp) (Mi.readyCall2 rfl (by kernel_rfl) 81 (.tmp 42) (.tmp 43) 3 3 (by kernel_rfl) 44 (by kernel_rfl) _ _ (by kernel_rfl) (by kernel_rfl) (fun _ => rfl) (H4.out _) (fun wx hb => by rw [hb]; exact hHeld) (fun wx hb hHeld => ?_) AllReadyH.nil)
            subst hb
            simp only [Act.put, List.setIfInBounds_toArray, List.set_cons_zero, List.set_cons_succ]
            refine take (i := 16) (d := some 45) (v := .bool true) rfl (by kernel_rfl) (by kernel_rfl) (by kernel_rfl) (by kernel_rfl) (fun _ _ _ h => h) (Or.inl ⟨by rfl, by intro w hSw; go_simp⟩) hHeld ?_
            simp only [Act.put, List.setIfInBounds_toArray, List.set_cons_zero, List.set_cons_succ]
            refine take (i := 17) (d := some 46) (v := .bool true) rfl (by kernel_rfl) (by kernel_rfl) (by kernel_rfl) (by kernel_rfl) (fun _ _ _ h => h) (Or.inl ⟨by rfl, by intro w hSw; go_simp⟩) hHeld ?_
            simp only [Act.put, List.setIfInBounds_toArray, List.set_cons_zero, List.set_cons_succ]
            refine take (i := 18) (d := some 47) (v := .bool true) rfl (by kernel_rfl) (by kernel_rfl) (by kernel_rfl) (by kernel_rfl) (fun _ _ _ h => h) (Or.inl ⟨by rfl, by intro w hSw; go_simp⟩) hHeld ?_
            simp only [Act.put, List.setIfInBounds_toArray, List.set_cons_zero, List.set_cons_succ]
            refine take (i := 19) (d := some 48) (v := .pointer (some ⟨w.heap.size, 0, none⟩)) rfl (by kernel_rfl) (by kernel_rfl) (by kernel_rfl) (by kernel_rfl) (fun _ _ _ h => h) (Or.inl ⟨by rfl, by intro w hSw; go_simp⟩) hHeld ?_
            simp only [Act.put, List.setIfInBounds_toArray, List.set_cons_zero, List.set_cons_succ]
            refine take (i := 20) (d := some 49) (v := .slice (some ⟨b1, o1, none⟩) 8 c1) rfl (by kernel_rfl) (by kernel_rfl) (by kernel_rfl) (by kernel_rfl) (fun _ _ _ h => h) (Or.inl ⟨by rfl, by intro w hSw; obtain ⟨p00, p01, p10, p11, g1, g2, g3, g4⟩ := hSw; go_simp⟩) hHeld ?_
            simp only [Act.put, List.setIfInBounds_toArray, List.set_cons_zero, List.set_cons_succ]
            refine take (i := 21) (d := some 50) (v := .int .i64 k) rfl (by kernel_rfl) (by kernel_rfl) (by kernel_rfl) (by kernel_rfl) (fun _ _ _ h => h) (Or.inl ⟨by rfl, by intro w hSw; go_simp⟩) hHeld ?_
            simp only [Act.put, List.setIfInBounds_toArray, List.set_cons_zero, List.set_cons_succ]
            refine take (i := 22) (d := some 51) (v := .pointer (some ⟨b1, o1 + k, none⟩)) rfl (by kernel_rfl) (by kernel_rfl) (by kernel_rfl) (by kernel_rfl) (fun _ _ _ h => h) (Or.inl ⟨by rfl, by intro w hSw; go_simp⟩) hHeld ?_
            simp only [Act.put, List.setIfInBounds_toArray, List.set_cons_zero, List.set_cons_succ]
            refine take (i := 23) (d := some 52) (v := .int .i64 m1) rfl (by kernel_rfl) (by kernel_rfl) (by kernel_rfl) (by kernel_rfl) (fun _ _ _ h => h) (Or.inl ⟨by rfl, by intro w hSw; obtain ⟨p00, p01, p10, p11, g1, g2, g3, g4⟩ := hSw; go_simp⟩) hHeld ?_
            simp only [Act.put, List.setIfInBounds_toArray, List.set_cons_zero, List.set_cons_succ]
            refine take (i := 24) (d := some 53) (v := .int .i64 j) rfl (by kernel_rfl) (by kernel_rfl) (by kernel_rfl) (by kernel_rfl) (fun _ _ _ h => h) (Or.inl ⟨by rfl, by intro w hSw; go_simp⟩) hHeld ?_
            simp only [Act.put, List.setIfInBounds_toArray, List.set_cons_zero, List.set_cons_succ]
            refine take (i := 26) (d := some 55) (v := .pointer (some ⟨w.heap.size + 1, 0, none⟩)) rfl (by kernel_rfl) (by kernel_rfl) (by kernel_rfl) (by kernel_rfl) (fun _ _ _ h => h) (Or.inl ⟨by rfl, by intro w hSw; go_simp⟩) hHeld ?_
            simp only [Act.put, List.setIfInBounds_toArray, List.set_cons_zero, List.set_cons_succ]
            refine take (i := 27) (d := some 56) (v := .slice (some ⟨b3, o3, none⟩) 8 c3) rfl (by kernel_rfl) (by kernel_rfl) (by kernel_rfl) (by kernel_rfl) (fun _ _ _ h => h) (Or.inl ⟨by rfl, by intro w hSw; obtain ⟨p00, p01, p10, p11, g1, g2, g3, g4⟩ := hSw; go_simp⟩) hHeld ?_
            simp only [Act.put, List.setIfInBounds_toArray, List.set_cons_zero, List.set_cons_succ]
            refine take (i := 28) (d := some 57) (v := .int .i64 k) rfl (by kernel_rfl) (by kernel_rfl) (by kernel_rfl) (by kernel_rfl) (fun _ _ _ h => h) (Or.inl ⟨by rfl, by intro w hSw; go_simp⟩) hHeld ?_
            simp only [Act.put, List.setIfInBounds_toArray, List.set_cons_zero, List.set_cons_succ]
            refine take (i := 29) (d := some 58) (v := .pointer (some ⟨b3, o3 + k, none⟩)) rfl (by kernel_rfl) (by kernel_rfl) (by kernel_rfl) (by kernel_rfl) (fun _ _ _ h => h) (Or.inl ⟨by rfl, by intro w hSw; go_simp⟩) hHeld ?_
            simp only [Act.put, List.setIfInBounds_toArray, List.set_cons_zero, List.set_cons_succ]
            refine take (i := 30) (d := some 59) (v := .int .i64 m3) rfl (by kernel_rfl) (by kernel_rfl) (by kernel_rfl) (by kernel_rfl) (fun _ _ _ h => h) (Or.inl ⟨by rfl, by intro w hSw; obtain ⟨p00, p01, p10, p11, g1, g2, g3, g4⟩ := hSw; go_simp⟩) hHeld ?_
            simp only [Act.put, List.setIfInBounds_toArray, List.set_cons_zero, List.set_cons_succ]
            refine take (i := 31) (d := some 60) (v := .int .i64 j) rfl (by kernel_rfl) (by kernel_rfl) (by kernel_rfl) (by kernel_rfl) (fun _ _ _ h => h) (Or.inl ⟨by rfl, by intro w hSw; go_simp⟩) hHeld ?_
            simp only [Act.put, List.setIfInBounds_toArray, List.set_cons_zero, List.set_cons_succ]
            refine wpAnyH_ready (rs := [25]) (by kernel_rfl) (by simp) (Mi.readyCall2 rfl (by kernel_rfl) 81 (.tmp 52) (.tmp 53) 3 3 (by kernel_rfl) 54 (by kernel_rfl) _ _ (by kernel_rfl) (by kernel_rfl) (fun _ => rfl) (H1.out _) (fun wx hb => by rw [hb]; exact hHeld) (fun wx hb hHeld => ?_) AllReadyH.nil)
            subst hb
            simp only [Act.put, List.setIfInBounds_toArray, List.set_cons_zero, List.set_cons_succ]
            refine wpAnyH_ready (rs := [32]) (by kernel_rfl) (by simp) (Mi.readyCall2 rfl (by kernel_rfl) 81 (.tmp 59) (.tmp 60) 3 3 (by kernel_rfl) 61 (by kernel_rfl) _ _ (by kernel_rfl) (by kernel_rfl) (fun _ => rfl) (H3.out _) (fun wx hb => by rw [hb]; exact hHeld) (fun wx hb hHeld => ?_) AllReadyH.nil)
            subst hb
            simp only [Act.put, List.setIfInBounds_toArray, List.set_cons_zero, List.set_cons_succ]
            refine take (i := 33) (d := some 62) (v := .bool true) rfl (by kernel_rfl) (by kernel_rfl) (by kernel_rfl) (by kernel_rfl) (fun _ _ _ h => h) (Or.inl ⟨by rfl, by intro w hSw; go_simp⟩) hHeld ?_
            simp only [Act.put, List.setIfInBounds_toArray, List.set_cons_zero, List.set_cons_succ]
            refine take (i := 34) (d := some 63) (v := .bool true) rfl (by kernel_rfl) (by kernel_rfl) (by kernel_rfl) (by kernel_rfl) (fun _ _ _ h => h) (Or.inl ⟨by rfl, by intro w hSw; go_simp⟩) hHeld ?_
            simp only [Act.put, List.setIfInBounds_toArray, List.set_cons_zero, List.set_cons_succ]
            refine wpAnyH_done (by kernel_rfl) ?_ _
            go_wp2
            have hr := HN.out (fun h => U.out.2.2 (h U.out.1 U.out.2.1))
            obtain ⟨rfl, rfl⟩ := Y0.out hr
            rw [hr]
            refine bodyPost_ret (v := .tuple #[.agg #[.slice none 0 0, .slice none 0 0], .bool false]) (by simp [results, Try.results43, go_sem, s0, s1]) rfl (resMB_none ?_)
            exact (bset (bset hbel (by omega)) (by omega)).drew
        · have he : j = Bw.fbN k := by omega
          have hjz : ¬ ((j : Int) < (Bw.fbN k : Int)) := by omega
          have HY : Hid (∀ f, f < k + 1 → ∀ i, i < Bw.fbN f → (Bw.bitI (M.getD f 0) i = 1 → Bw.bitI (M'.getD f 0) i = 1 → Bw.bitI (V.getD f 0) i = Bw.bitI (V'.getD f 0) i)) := (fun f hf => by by_cases e : f = k; (· subst e; intro i hi; exact HI.out i (by omega)); (· exact HG.out f (by omega)) : ∀ f, f < k + 1 → ∀ i, i < Bw.fbN f → (Bw.bitI (M.getD f 0) i = 1 → Bw.bitI (M'.getD f 0) i = 1 → Bw.bitI (V.getD f 0) i = Bw.bitI (V'.getD f 0) i))
          clear HI HG he D1 D2 D3 D4
          go_wp2_with (go_at_call 80; refine (HF.out _).mono ?_; rintro e ws ⟨rfl, hb⟩; replace hbi := Rw.next hbi hb; clear hb)
          have hbel := Rw.next hbo hbi
          replace q0 := (hbi.block _ z0).trans q0
          replace q1 := (hbi.block _ z1).trans q1
          replace qR := (hbi.block _ zR).trans qR
          replace qX := (hbi.block _ zX).trans qX
          replace hv := hv.below hbi
          replace hm := hm.below hbi
          obtain ⟨p00, p01⟩ := two q0
          obtain ⟨p10, p11⟩ := two q1
          obtain ⟨x0, x1⟩ := two qX
          have g1 : ws.cell? ⟨b1, o1 + k, none⟩ = some (.int .i64 (V.getD k 0)) := (hbel.cell (World.block_lt_of_cell? _ _ (R1.out k hlt))).trans (R1.out k hlt)
          have g2 : ws.cell? ⟨b2, o2 + k, none⟩ = some (.int .i64 (M.getD k 0)) := (hbel.cell (World.block_lt_of_cell? _ _ (R2.out k hlt))).trans (R2.out k hlt)
          have g3 : ws.cell? ⟨b3, o3 + k, none⟩ = some (.int .i64 (V'.getD k 0)) := (hbel.cell (World.block_lt_of_cell? _ _ (R3.out k hlt))).trans (R3.out k hlt)
          have g4 : ws.cell? ⟨b4, o4 + k, none⟩ = some (.int .i64 (M'.getD k 0)) := (hbel.cell (World.block_lt_of_cell? _ _ (R4.out k hlt))).trans (R4.out k hlt)
          have hl := HLT.out k hlt
          obtain ⟨hl1, hl2, hl3, hl4⟩ := hl
          have cV1 := hv.cell k (by rw [lst_len]; exact hlt)
          have cM1 := hm.cell k (by rw [lst_len]; exact hlt)
          have fV := hv.free k (by rw [lst_len]; exact hlt)
          have fM := hm.free k (by rw [lst_len]; exact hlt)
          have gVx : Hid (Wt ws (some ⟨gV, 0, none⟩) gV (lst (cut nv nul k))) := hv
          have gMx : Hid (Wt ws (some ⟨gM, 0, none⟩) gM (lst (cut nm nul k))) := hm
          have Q0 : Hid (ws.heap[w.heap.size]? = some (.cells #[.slice (some ⟨b1, o1, none⟩) 8 c1, .slice (some ⟨b2, o2, none⟩) 8 c2] 63 (0, 0))) := q0
          have Q1 : Hid (ws.heap[w.heap.size + 1]? = some (.cells #[.slice (some ⟨b3, o3, none⟩) 8 c3, .slice (some ⟨b4, o4, none⟩) 8 c4] 63 (0, 0))) := q1
          have QR : Hid (ws.heap[w.heap.size + 1 + 1]? = some (.cells #[.slice none 0 0, .slice none 0 0] 63 (0, 0))) := qR
          have QX : Hid (ws.heap[X]? = some (.cells #[.slice (some ⟨gV, 0, none⟩) 8 cV, .slice (some ⟨gM, 0, none⟩) 8 cM] 63 (0, 0))) := qX
          have EV : Hid (nv k = bits .or .i64 (V.getD k 0) (V'.getD k 0)) := NV.out k
          have EM : Hid (nm k = bits .or .i64 (M.getD k 0) (M'.getD k 0)) := NM.out k
          clear q0 q1 qR qX hv hm HLT R1 R2 R3 R4
          generalize V.getD k 0 = m1 at g1 EV EM
          generalize M.getD k 0 = m2 at g2 EV EM
          generalize V'.getD k 0 = m3 at g3 EV EM
          generalize M'.getD k 0 = m4 at g4 EV EM
          have d1 : gV ≠ w.heap.size := by omega
          have d2 : gV ≠ w.heap.size + 1 := by omega
          have d3 : gM ≠ w.heap.size := by omega
          have d4 : gM ≠ w.heap.size + 1 := by omega
          have d5 : gV ≠ X := by omega
          have d6 : gM ≠ X := by omega
          have d7 : b1 ≠ gV := by omega
          have d8 : b2 ≠ gV := by omega
          have d9 : b3 ≠ gV := by omega
          have d10 : b4 ≠ gV := by omega
          have d11 : b1 ≠ gM := by omega
          have d12 : b2 ≠ gM := by omega
          have d13 : b3 ≠ gM := by omega
          have d14 : b4 ≠ gM := by omega
          have d15 : w.heap.size + 1 + 1 ≠ gV := by omega
          have d16 : w.heap.size + 1 + 1 ≠ gM := by omega
          go_wp2
          refine wp_region_held_drew (S := (fun w' => w'.cell? ⟨w.heap.size, 0, none⟩ = some (.slice (some ⟨b1, o1, none⟩) 8 c1) ∧ w'.cell? ⟨w.heap.size, 1, none⟩ = some (.slice (some ⟨b2, o2, none⟩) 8 c2) ∧ w'.cell? ⟨w.heap.size + 1, 0, none⟩ = some (.slice (some ⟨b3, o3, none⟩) 8 c3) ∧ w'.cell? ⟨w.heap.size + 1, 1, none⟩ = some (.slice (some ⟨b4, o4, none⟩) 8 c4) ∧ w'.cell? ⟨X, 0, none⟩ = some (.slice (some ⟨gV, 0, none⟩) 8 cV) ∧ w'.cell? ⟨X, 1, none⟩ = some (.slice (some ⟨gM, 0, none⟩) 8 cM) ∧ w'.cell? ⟨b1, o1 + k, none⟩ = some (.int .i64 m1) ∧ w'.cell? ⟨b2, o2 + k, none⟩ = some (.int .i64 m2) ∧ w'.cell? ⟨b3, o3 + k, none⟩ = some (.int .i64 m3) ∧ w'.cell? ⟨b4, o4 + k, none⟩ = some (.int .i64 m4))) (by kernel_rfl) ⟨p00, p01, p10, p11, x0, x1, g1, g2, g3, g4⟩ (fun hHeld => ?_)
          refine take (i := 0) (d := some 65) (v := .pointer (some ⟨X, 1, none⟩)) rfl (by kernel_rfl) (by kernel_rfl) (by kernel_rfl) (by kernel_rfl) (fun _ _ _ h => h) (Or.inl ⟨by rfl, by intro w hSw; go_simp⟩) hHeld ?_
          simp only [Act.put, List.setIfInBounds_toArray, List.set_cons_zero, List.set_cons_succ]
          refine take (i := 1) (d := some 66) (v := .slice (some ⟨gM, 0, none⟩) 8 cM) rfl (by kernel_rfl) (by kernel_rfl) (by kernel_rfl) (by kernel_rfl) (fun _ _ _ h => h) (Or.inl ⟨by rfl, by intro w hSw; obtain ⟨p00, p01, p10, p11, x0, x1, g1, g2, g3, g4⟩ := hSw; go_simp⟩) hHeld ?_
          simp only [Act.put, List.setIfInBounds_toArray, List.set_cons_zero, List.set_cons_succ]
          refine take (i := 2) (d := some 67) (v := .int .i64 k) rfl (by kernel_rfl) (by kernel_rfl) (by kernel_rfl) (by kernel_rfl) (fun _ _ _ h => h) (Or.inl ⟨by rfl, by intro w hSw; go_simp⟩) hHeld ?_
          simp only [Act.put, List.setIfInBounds_toArray, List.set_cons_zero, List.set_cons_succ]
          refine take (i := 3) (d := some 68) (v := .pointer (some ⟨w.heap.size, 1, none⟩)) rfl (by kernel_rfl) (by kernel_rfl) (by kernel_rfl) (by kernel_rfl) (fun _ _ _ h => h) (Or.inl ⟨by rfl, by intro w hSw; go_simp⟩) hHeld ?_
          simp only [Act.put, List.setIfInBounds_toArray, List.set_cons_zero, List.set_cons_succ]
          refine take (i := 4) (d := some 69) (v := .slice (some ⟨b2, o2, none⟩) 8 c2) rfl (by kernel_rfl) (by kernel_rfl) (by kernel_rfl) (by kernel_rfl) (fun _ _ _ h => h) (Or.inl ⟨by rfl, by intro w hSw; obtain ⟨p00, p01, p10, p11, x0, x1, g1, g2, g3, g4⟩ := hSw; go_simp⟩) hHeld ?_
          simp only [Act.put, List.setIfInBounds_toArray, List.set_cons_zero, List.set_cons_succ]
          refine take (i := 5) (d := some 70) (v := .int .i64 k) rfl (by kernel_rfl) (by kernel_rfl) (by kernel_rfl) (by kernel_rfl) (fun _ _ _ h => h) (Or.inl ⟨by rfl, by intro w hSw; go_simp⟩) hHeld ?_
          simp only [Act.put, List.setIfInBounds_toArray, List.set_cons_zero, List.set_cons_succ]
          refine take (i := 6) (d := some 71) (v := .pointer (some ⟨b2, o2 + k, none⟩)) rfl (by kernel_rfl) (by kernel_rfl) (by kernel_rfl) (by kernel_rfl) (fun _ _ _ h => h) (Or.inl ⟨by rfl, by intro w hSw; go_simp⟩) hHeld ?_
          simp only [Act.put, List.setIfInBounds_toArray, List.set_cons_zero, List.set_cons_succ]
          refine take (i := 7) (d := some 72) (v := .int .i64 m2) rfl (by kernel_rfl) (by kernel_rfl) (by kernel_rfl) (by kernel_rfl) (fun _ _ _ h => h) (Or.inl ⟨by rfl, by intro w hSw; obtain ⟨p00, p01, p10, p11, x0, x1, g1, g2, g3, g4⟩ := hSw; go_simp⟩) hHeld ?_
          simp only [Act.put, List.setIfInBounds_toArray, List.set_cons_zero, List.set_cons_succ]
          refine take (i := 8) (d := some 73) (v := .pointer (some ⟨w.heap.size + 1, 1, none⟩)) rfl (by kernel_rfl) (by kernel_rfl) (by kernel_rfl) (by kernel_rfl) (fun _ _ _ h => h) (Or.inl ⟨by rfl, by intro w hSw; go_simp⟩) hHeld ?_
          simp only [Act.put, List.setIfInBounds_toArray, List.set_cons_zero, List.set_cons_succ]
          refine take (i := 9) (d := some 74) (v := .slice (some ⟨b4, o4, none⟩) 8 c4) rfl (by kernel_rfl) (by kernel_rfl) (by kernel_rfl) (by kernel_rfl) (fun _ _ _ h => h) (Or.inl ⟨by rfl, by intro w hSw; obtain ⟨p00, p01, p10, p11, x0, x1, g1, g2, g3, g4⟩ := hSw; go_simp⟩) hHeld ?_
          simp only [Act.put, List.setIfInBounds_toArray, List.set_cons_zero, List.set_cons_succ]
          refine take (i := 10) (d := some 75) (v := .int .i64 k) rfl (by kernel_rfl) (by kernel_rfl) (by kernel_rfl) (by kernel_rfl) (fun _ _ _ h => h) (Or.inl ⟨by rfl, by intro w hSw; go_simp⟩) hHeld ?_
          simp only [Act.put, List.setIfInBounds_toArray, List.set_cons_zero, List.set_cons_succ]
          refine take (i := 11) (d := some 76) (v := .pointer (some ⟨b4, o4 + k, none⟩)) rfl (by kernel_rfl) (by kernel_rfl) (by kernel_rfl) (by kernel_rfl) (fun _ _ _ h => h) (Or.inl ⟨by rfl, by intro w hSw; go_simp⟩) hHeld ?_
          simp only [Act.put, List.setIfInBounds_toArray, List.set_cons_zero, List.set_cons_succ]
          refine take (i := 12) (d := some 77) (v := .int .i64 m4) rfl (by kernel_rfl) (by kernel_rfl) (by kernel_rfl) (by kernel_rfl) (fun _ _ _ h => h) (Or.inl ⟨by rfl, by intro w hSw; obtain ⟨p00, p01, p10, p11, x0, x1, g1, g2, g3, g4⟩ := hSw; go_simp⟩) hHeld ?_
          simp only [Act.put, List.setIfInBounds_toArray, List.set_cons_zero, List.set_cons_succ]
          refine take (i := 13) (d := some 78) (v := .int .i64 (bits .or .i64 m2 m4)) rfl (by kernel_rfl) (by kernel_rfl) (by kernel_rfl) (by kernel_rfl) (fun _ _ _ h => h) (Or.inl ⟨by rfl, by intro w hSw; go_simp⟩) hHeld ?_
          simp only [Act.put, List.setIfInBounds_toArray, List.set_cons_zero, List.set_cons_succ]
          refine take (i := 14) (d := some 79) (v := .pointer (some ⟨gM, k, none⟩)) rfl (by kernel_rfl) (by kernel_rfl) (by kernel_rfl) (by kernel_rfl) (fun _ _ _ h => h) (Or.inl ⟨by rfl, by intro w hSw; go_simp⟩) hHeld ?_
          simp only [Act.put, List.setIfInBounds_toArray, List.set_cons_zero, List.set_cons_succ]
          refine wpAnyH_ready (rs := [15]) (by kernel_rfl) (by simp) (ready3 (g := gM) (k := k) (v := bits .or .i64 m2 m4) rfl (by kernel_rfl) (.tmp 79) (.tmp 78) (by kernel_rfl) (by kernel_rfl) (by kernel_rfl) (by kernel_rfl) cM1 fM ⟨cell_set1 p00 (by simp; omega), cell_set1 p01 (by simp; omega), cell_set1 p10 (by simp; omega), cell_set1 p11 (by simp; omega), cell_set1 x0 (by simp; omega), cell_set1 x1 (by simp; omega), cell_set1 g1 (by simp; omega), cell_set1 g2 (by simp; omega), cell_set1 g3 (by simp; omega), cell_set1 g4 (by simp; omega)⟩ (fun hHeld => ?_) AllReadyH.nil)
          simp only [Act.put, List.setIfInBounds_toArray, List.set_cons_zero, List.set_cons_succ]
          refine wpAnyH_done (by kernel_rfl) ?_ _
          obtain ⟨wy, hwy⟩ : ∃ wy, wy = ws.drew.setCell ⟨gM, k, none⟩ (.int .i64 (bits .or .i64 m2 m4)) := ⟨_, rfl⟩
          rw [← hwy]
          replace p00 := (by subst hwy; exact cell_set1 p00 (by simp; omega) : wy.cell? _ = _)
          replace p01 := (by subst hwy; exact cell_set1 p01 (by simp; omega) : wy.cell? _ = _)
          replace p10 := (by subst hwy; exact cell_set1 p10 (by simp; omega) : wy.cell? _ = _)
          replace p11 := (by subst hwy; exact cell_set1 p11 (by simp; omega) : wy.cell? _ = _)
          replace x0 := (by subst hwy; exact cell_set1 x0 (by simp; omega) : wy.cell? _ = _)
          replace x1 := (by subst hwy; exact cell_set1 x1 (by simp; omega) : wy.cell? _ = _)
          replace g1 := (by subst hwy; exact cell_set1 g1 (by simp; omega) : wy.cell? _ = _)
          replace g2 := (by subst hwy; exact cell_set1 g2 (by simp; omega) : wy.cell? _ = _)
          replace g3 := (by subst hwy; exact cell_set1 g3 (by simp; omega) : wy.cell? _ = _)
          replace g4 := (by subst hwy; exact cell_set1 g4 (by simp; omega) : wy.cell? _ = _)
          replace cV1 := (by subst hwy; exact cell_set1 cV1 (by simp; omega) : wy.cell? _ = _)
          replace fV : wy.frozen? ⟨gV, k, none⟩ = false := by subst hwy; simpa using fV
          replace hbel : Below w.heap.size w wy := by subst hwy; exact bset hbel.drew (by omega)
          replace Q0 : Hid (wy.heap[w.heap.size]? = some (.cells #[.slice (some ⟨b1, o1, none⟩) 8 c1, .slice (some ⟨b2, o2, none⟩) 8 c2] 63 (0, 0))) := (by subst hwy; exact blk_set Q0.out (Ne.symm d3) : wy.heap[w.heap.size]? = some (.cells #[.slice (some ⟨b1, o1, none⟩) 8 c1, .slice (some ⟨b2, o2, none⟩) 8 c2] 63 (0, 0)))
          replace Q1 : Hid (wy.heap[w.heap.size + 1]? = some (.cells #[.slice (some ⟨b3, o3, none⟩) 8 c3, .slice (some ⟨b4, o4, none⟩) 8 c4] 63 (0, 0))) := (by subst hwy; exact blk_set Q1.out (Ne.symm d4) : wy.heap[w.heap.size + 1]? = some (.cells #[.slice (some ⟨b3, o3, none⟩) 8 c3, .slice (some ⟨b4, o4, none⟩) 8 c4] 63 (0, 0)))
          replace QR : Hid (wy.heap[w.heap.size + 1 + 1]? = some (.cells #[.slice none 0 0, .slice none 0 0] 63 (0, 0))) := (by subst hwy; exact blk_set QR.out d16 : wy.heap[w.heap.size + 1 + 1]? = some (.cells #[.slice none 0 0, .slice none 0 0] 63 (0, 0)))
          replace QX : Hid (wy.heap[X]? = some (.cells #[.slice (some ⟨gV, 0, none⟩) 8 cV, .slice (some ⟨gM, 0, none⟩) 8 cM] 63 (0, 0))) := (by subst hwy; exact blk_set QX.out (Ne.symm d6) : wy.heap[X]? = some (.cells #[.slice (some ⟨gV, 0, none⟩) 8 cV, .slice (some ⟨gM, 0, none⟩) 8 cM] 63 (0, 0)))
          replace gVx : Hid (Wt wy (some ⟨gV, 0, none⟩) gV (lst (cut nv nul k))) := (by subst hwy; exact wt_set2 (wt_drew gVx.out) (Ne.symm l3) : Wt wy (some ⟨gV, 0, none⟩) gV (lst (cut nv nul k)))
          replace gMx : Hid (Wt wy (some ⟨gM, 0, none⟩) gM (lst (cut nm nul (k + 1)))) := (by subst hwy; rw [← EM.out]; exact wt_up (wt_drew gMx.out) hlt : Wt wy (some ⟨gM, 0, none⟩) gM (lst (cut nm nul (k + 1))))
          clear hwy cM1 fM EM
          go_wp2
          refine wp_region_held_drew (S := (fun w' => w'.cell? ⟨w.heap.size, 0, none⟩ = some (.slice (some ⟨b1, o1, none⟩) 8 c1) ∧ w'.cell? ⟨w.heap.size, 1, none⟩ = some (.slice (some ⟨b2, o2, none⟩) 8 c2) ∧ w'.cell? ⟨w.heap.size + 1, 0, none⟩ = some (.slice (some ⟨b3, o3, none⟩) 8 c3) ∧ w'.cell? ⟨w.heap.size + 1, 1, none⟩ = some (.slice (some ⟨b4, o4, none⟩) 8 c4) ∧ w'.cell? ⟨X, 0, none⟩ = some (.slice (some ⟨gV, 0, none⟩) 8 cV) ∧ w'.cell? ⟨X, 1, none⟩ = some (.slice (some ⟨gM, 0, none⟩) 8 cM) ∧ w'.cell? ⟨b1, o1 + k, none⟩ = some (.int .i64 m1) ∧ w'.cell? ⟨b2, o2 + k, none⟩ = some (.int .i64 m2) ∧ w'.cell? ⟨b3, o3 + k, none⟩ = some (.int .i64 m3) ∧ w'.cell? ⟨b4, o4 + k, none⟩ = some (.int .i64 m4))) (by kernel_rfl) ⟨p00, p01, p10, p11, x0, x1, g1, g2, g3, g4⟩ (fun hHeld => ?_)
          refine take (i := 0) (d := some 80) (v := .pointer (some ⟨X, 0, none⟩)) rfl (by kernel_rfl) (by kernel_rfl) (by kernel_rfl) (by kernel_rfl) (fun _ _ _ h => h) (Or.inl ⟨by rfl, by intro w hSw; go_simp⟩) hHeld ?_
          simp only [Act.put, List.setIfInBounds_toArray, List.set_cons_zero, List.set_cons_succ]
          refine take (i := 1) (d := some 81) (v := .slice (some ⟨gV, 0, none⟩) 8 cV) rfl (by kernel_rfl) (by kernel_rfl) (by kernel_rfl) (by kernel_rfl) (fun _ _ _ h => h) (Or.inl ⟨by rfl, by intro w hSw; obtain ⟨p00, p01, p10, p11, x0, x1, g1, g2, g3, g4⟩ := hSw; go_simp⟩) hHeld ?_
          simp only [Act.put, List.setIfInBounds_toArray, List.set_cons_zero, List.set_cons_succ]
          refine take (i := 2) (d := some 82) (v := .int .i64 k) rfl (by kernel_rfl) (by kernel_rfl) (by kernel_rfl) (by kernel_rfl) (fun _ _ _ h => h) (Or.inl ⟨by rfl, by intro w hSw; go_simp⟩) hHeld ?_
          simp only [Act.put, List.setIfInBounds_toArray, List.set_cons_zero, List.set_cons_succ]
          refine take (i := 3) (d := some 83) (v := .pointer (some ⟨w.heap.size, 0, none⟩)) rfl (by kernel_rfl) (by kernel_rfl) (by kernel_rfl) (by kernel_rfl) (fun _ _ _ h => h) (Or.inl ⟨by rfl, by intro w hSw; go_simp⟩) hHeld ?_
          simp only [Act.put, List.setIfInBounds_toArray, List.set_cons_zero, List.set_cons_succ]
          refine take (i := 4) (d := some 84) (v := .slice (some ⟨b1, o1, none⟩) 8 c1) rfl (by kernel_rfl) (by kernel_rfl) (by kernel_rfl) (by kernel_rfl) (fun _ _ _ h => h) (Or.inl ⟨by rfl, by intro w hSw; obtain ⟨p00, p01, p10, p11, x0, x1, g1, g2, g3, g4⟩ := hSw; go_simp⟩) hHeld ?_
          simp only [Act.put, List.setIfInBounds_toArray, List.set_cons_zero, List.set_cons_succ]
          refine take (i := 5) (d := some 85) (v := .int .i64 k) rfl (by kernel_rfl) (by kernel_rfl) (by kernel_rfl) (by kernel_rfl) (fun _ _ _ h => h) (Or.inl ⟨by rfl, by intro w hSw; go_simp⟩) hHeld ?_
          simp only [Act.put, List.setIfInBounds_toArray, List.set_cons_zero, List.set_cons_succ]
          refine take (i := 6) (d := some 86) (v := .pointer (some ⟨b1, o1 + k, none⟩)) rfl (by kernel_rfl) (by kernel_rfl) (by kernel_rfl) (by kernel_rfl) (fun _ _ _ h => h) (Or.inl ⟨by rfl, by intro w hSw; go_simp⟩) hHeld ?_
          simp only [Act.put, List.setIfInBounds_toArray, List.set_cons_zero, List.set_cons_succ]
          refine take (i := 7) (d := some 87) (v := .int .i64 m1) rfl (by kernel_rfl) (by kernel_rfl) (by kernel_rfl) (by kernel_rfl) (fun _ _ _ h => h) (Or.inl ⟨by rfl, by intro w hSw; obtain ⟨p00, p01, p10, p11, x0, x1, g1, g2, g3, g4⟩ := hSw; go_simp⟩) hHeld ?_
          simp only [Act.put, List.setIfInBounds_toArray, List.set_cons_zero, List.set_cons_succ]
          refine take (i := 8) (d := some 88) (v := .pointer (some ⟨w.heap.size + 1, 0, none⟩)) rfl (by kernel_rfl) (by kernel_rfl) (by kernel_rfl) (by kernel_rfl) (fun _ _ _ h => h) (Or.inl ⟨by rfl, by intro w hSw; go_simp⟩) hHeld ?_
          simp only [Act.put, List.setIfInBounds_toArray, List.set_cons_zero, List.set_cons_succ]
          refine take (i := 9) (d := some 89) (v := .slice (some ⟨b3, o3, none⟩) 8 c3) rfl (by kernel_rfl) (by kernel_rfl) (by kernel_rfl) (by kernel_rfl) (fun _ _ _ h => h) (Or.inl ⟨by rfl, by intro w hSw; obtain ⟨p00, p01, p10, p11, x0, x1, g1, g2, g3, g4⟩ := hSw; go_simp⟩) hHeld ?_
          simp only [Act.put, List.setIfInBounds_toArray, List.set_cons_zero, List.set_cons_succ]
          refine take (i := 10) (d := some 90) (v := .int .i64 k) rfl (by kernel_rfl) (by kernel_rfl) (by kernel_rfl) (by kernel_rfl) (fun _ _ _ h => h) (Or.inl ⟨by rfl, by intro w hSw; go_simp⟩) hHeld ?_
          simp only [Act.put, List.setIfInBounds_toArray, List.set_cons_zero, List.set_cons_succ]
          refine take (i := 11) (d := some 91) (v := .pointer (some ⟨b3, o3 + k, none⟩)) rfl (by kernel_rfl) (by kernel_rfl) (by kernel_rfl) (by kernel_rfl) (fun _ _ _ h => h) (Or.inl ⟨by rfl, by intro w hSw; go_simp⟩) hHeld ?_
          simp only [Act.put, List.setIfInBounds_toArray, List.set_cons_zero, List.set_cons_succ]
          refine take (i := 12) (d := some 92) (v := .int .i64 m3) rfl (by kernel_rfl) (by kernel_rfl) (by kernel_rfl) (by kernel_rfl) (fun _ _ _ h => h) (Or.inl ⟨by rfl, by intro w hSw; obtain ⟨p00, p01, p10, p11, x0, x1, g1, g2, g3, g4⟩ := hSw; go_simp⟩) hHeld ?_
          simp only [Act.put, List.setIfInBounds_toArray, List.set_cons_zero, List.set_cons_succ]
          refine take (i := 13) (d := some 93) (v := .int .i64 (bits .or .i64 m1 m3)) rfl (by kernel_rfl) (by kernel_rfl) (by kernel_rfl) (by kernel_rfl) (fun _ _ _ h => h) (Or.inl ⟨by rfl, by intro w hSw; go_simp⟩) hHeld ?_
          simp only [Act.put, List.setIfInBounds_toArray, List.set_cons_zero, List.set_cons_succ]
          refine take (i := 14) (d := some 94) (v := .pointer (some ⟨gV, k, none⟩)) rfl (by kernel_rfl) (by kernel_rfl) (by kernel_rfl) (by kernel_rfl) (fun _ _ _ h => h) (Or.inl ⟨by rfl, by intro w hSw; go_simp⟩) hHeld ?_
          simp only [Act.put, List.setIfInBounds_toArray, List.set_cons_zero, List.set_cons_succ]
          refine wpAnyH_ready (rs := [15]) (by kernel_rfl) (by simp) (ready3 (g := gV) (k := k) (v := bits .or .i64 m1 m3) rfl (by kernel_rfl) (.tmp 94) (.tmp 93) (by kernel_rfl) (by kernel_rfl) (by kernel_rfl) (by kernel_rfl) cV1 fV ⟨cell_set1 p00 (by simp; omega), cell_set1 p01 (by simp; omega), cell_set1 p10 (by simp; omega), cell_set1 p11 (by simp; omega), cell_set1 x0 (by simp; omega), cell_set1 x1 (by simp; omega), cell_set1 g1 (by simp; omega), cell_set1 g2 (by simp; omega), cell_set1 g3 (by simp; omega), cell_set1 g4 (by simp; omega)⟩ (fun hHeld => ?_) AllReadyH.nil)
          simp only [Act.put, List.setIfInBounds_toArray, List.set_cons_zero, List.set_cons_succ]
          refine wpAnyH_done (by kernel_rfl) ?_ _
          go_wp2
          go_roundw
          case rel =>
            rw [← EV.out]
            exact ⟨k + 1, by omega, by go_num, by first | exact (bset hbel (by omega)).drew | exact bset hbel.drew (by omega), by first | exact blk_set Q0.out (Ne.symm d1) | exact blk_set (g := w.heap.size) Q0.out (Ne.symm d1), blk_set Q1.out (Ne.symm d2), blk_set QR.out d15, blk_set QX.out (Ne.symm d5), by first | exact wt_drew (wt_up gVx.out hlt) | exact wt_up (wt_drew gVx.out) hlt, by first | exact wt_drew (wt_set2 gMx.out l3) | exact wt_set2 (wt_drew gMx.out) l3, HY.out⟩
          case measure => simp [intOf]; omega
    · have he : k = 8 := by omega
      subst he
      have hr := HR.out.2 HG.out
      have e8 : lst (cut nv nul 8) = lst nv := by unfold lst; apply List.map_congr_left; intro i hi; simp at hi; simp [cut, hi]
      have e9 : lst (cut nm nul 8) = lst nm := by unfold lst; apply List.map_congr_left; intro i hi; simp at hi; simp [cut, hi]
      rw [e8] at hv
      rw [e9] at hm
      clear e8 e9 HLT NV NM D1 R1 D2 R2 D3 R3 D4 R4
      have HRR : Hid (R = true) := hr
      clear hr
      obtain ⟨x0, x1⟩ := two qX
      obtain ⟨s0, s1⟩ := two qR
      have fR := Bl.free qR
      have nX : X ≠ w.heap.size + 1 + 1 := by omega
      go_wp2
      obtain ⟨rfl, rfl⟩ := Y1.out HRR.out
      rw [HRR.out]
      refine bodyPost_ret (v := .tuple #[.agg #[.slice (some ⟨gV, 0, none⟩) 8 cV, .slice (some ⟨gM, 0, none⟩) 8 cM], .bool true]) (by simp [results, Try.results43, go_sem, s0, s1]) rfl ⟨_, gV, _, _, gM, _, by rw [lst_len, lst_len], ?_, ?_, by omega, by omega, l3, ?_⟩
      · exact wt_set2 (wt_set2 hv (by omega)) (by omega)
      · exact wt_set2 (wt_set2 hm (by omega)) (by omega)
      · exact bset (bset hbo (by omega)) (by omega)

end Go.Proofs.Ytkakdldhinimoaa.Mm

namespace Go.Proofs.Ytkakdldhinimoaa.Mu
set_option maxRecDepth 8000
open Go Go.RowKit
open Num Pl Hr Hh Hf Hg Pa Pm Po Pq Mi Bw Mo Mp Mj Mm
set_option linter.unusedSimpArgs false
set_option linter.unusedVariables false

theorem cell_set0 {w : World} {a : Addr} {g i : Nat} {x : Value} {v : Option Value} (h : w.cell? a = v) (hne : a.block ≠ g) : (w.setCell ⟨g, i, none⟩ x).cell? a = v := by
  rw [World.cell?_setCell_other _ _ _ _ (by intro q; exact hne (by rw [← q]))]
  exact h
theorem quo8 (f : Nat) (h : f < 8) : fb f / 8 = (((fbN f) / 8 : Nat) : Int) := by
  rw [fbN_eq]; omega
theorem pw_full (f : Nat) (h : f < 8) : (pw (fbN f / 8) : Int) - 1 = fullI f := by
  rcases Hs.k8 h with rfl | rfl | rfl | rfl | rfl | rfl | rfl | rfl <;> decide

set_option maxHeartbeats 1000000 in
theorem fullS_any (f : Nat) (hf : f < 8) (w : World) : Calls Try.prog 136 #[.int .i64 f] w fun e w' => e = .returned (.int .i64 (fullI f)) ∧ Below w.heap.size w w' := by
  rcases Hs.k8 hf with rfl | rfl | rfl | rfl | rfl | rfl | rfl | rfl
  · have hb := specBits_any 0 w
    rw [show fb 0 = 8 from by decide] at hb
    have hp := fun w => pow_any 1 (by omega) w
    have e : fullI 0 = (pw 1 : Int) - 1 := by decide
    have hv : pw 1 = 256 := by decide
    rw [e, hv]
    rw [hv] at hp
    clear e hv
    go_enter Try.func136, Try.ntmps136
    go_wp2_with (first | (go_at_call 80; refine hb.mono ?_; rintro e wa ⟨rfl, hba⟩) | (go_at_call 103; refine (hp _).mono ?_; rintro e wq ⟨rfl, hwq⟩; replace hwq := hwq.symm; subst hwq))
    go_ret
    exact ⟨rfl, hba⟩
  · have hb := specBits_any 1 w
    rw [show fb 1 = 48 from by decide] at hb
    have hp := fun w => pow_any 6 (by omega) w
    have e : fullI 1 = (pw 6 : Int) - 1 := by decide
    have hv : pw 6 = 281474976710656 := by decide
    rw [e, hv]
    rw [hv] at hp
    clear e hv
    go_enter Try.func136, Try.ntmps136
    go_wp2_with (first | (go_at_call 80; refine hb.mono ?_; rintro e wa ⟨rfl, hba⟩) | (go_at_call 103; refine (hp _).mono ?_; rintro e wq ⟨rfl, hwq⟩; replace hwq := hwq.symm; subst hwq))
    go_ret
    exact ⟨rfl, hba⟩
  · have hb := specBits_any 2 w
    rw [show fb 2 = 48 from by decide] at hb
    have hp := fun w => pow_any 6 (by omega) w
    have e : fullI 2 = (pw 6 : Int) - 1 := by decide
    have hv : pw 6 = 281474976710656 := by decide
    rw [e, hv]
    rw [hv] at hp
    clear e hv
    go_enter Try.func136, Try.ntmps136
    go_wp2_with (first | (go_at_call 80; refine hb.mono ?_; rintro e wa ⟨rfl, hba⟩) | (go_at_call 103; refine (hp _).mono ?_; rintro e wq ⟨rfl, hwq⟩; replace hwq := hwq.symm; subst hwq))
    go_ret
    exact ⟨rfl, hba⟩
  · have hb := specBits_any 3 w
    rw [show fb 3 = 16 from by decide] at hb
    have hp := fun w => pow_any 2 (by omega) w
    have e : fullI 3 = (pw 2 : Int) - 1 := by decide
    have hv : pw 2 = 65536 := by decide
    rw [e, hv]
    rw [hv] at hp
    clear e hv
    go_enter Try.func136, Try.ntmps136
    go_wp2_with (first | (go_at_call 80; refine hb.mono ?_; rintro e wa ⟨rfl, hba⟩) | (go_at_call 103; refine (hp _).mono ?_; rintro e wq ⟨rfl, hwq⟩; replace hwq := hwq.symm; subst hwq))
    go_ret
    exact ⟨rfl, hba⟩
  · have hb := specBits_any 4 w
    rw [show fb 4 = 16 from by decide] at hb
    have hp := fun w => pow_any 2 (by omega) w
    have e : fullI 4 = (pw 2 : Int) - 1 := by decide
    have hv : pw 2 = 65536 := by decide
    rw [e, hv]
    rw [hv] at hp
    clear e hv
    go_enter Try.func136, Try.ntmps136
    go_wp2_with (first | (go_at_call 80; refine hb.mono ?_; rintro e wa ⟨rfl, hba⟩) | (go_at_call 103; refine (hp _).mono ?_; rintro e wq ⟨rfl, hwq⟩; replace hwq := hwq.symm; subst hwq))
    go_ret
    exact ⟨rfl, hba⟩
  · have hb := specBits_any 5 w
    rw [show fb 5 = 32 from by decide] at hb
    have hp := fun w => pow_any 4 (by omega) w
    have e : fullI 5 = (pw 4 : Int) - 1 := by decide
    have hv : pw 4 = 4294967296 := by decide
    rw [e, hv]
    rw [hv] at hp
    clear e hv
    go_enter Try.func136, Try.ntmps136
    go_wp2_with (first | (go_at_call 80; refine hb.mono ?_; rintro e wa ⟨rfl, hba⟩) | (go_at_call 103; refine (hp _).mono ?_; rintro e wq ⟨rfl, hwq⟩; replace hwq := hwq.symm; subst hwq))
    go_ret
    exact ⟨rfl, hba⟩
  · have hb := specBits_any 6 w
    rw [show fb 6 = 32 from by decide] at hb
    have hp := fun w => pow_any 4 (by omega) w
    have e : fullI 6 = (pw 4 : Int) - 1 := by decide
    have hv : pw 4 = 4294967296 := by decide
    rw [e, hv]
    rw [hv] at hp
    clear e hv
    go_enter Try.func136, Try.ntmps136
    go_wp2_with (first | (go_at_call 80; refine hb.mono ?_; rintro e wa ⟨rfl, hba⟩) | (go_at_call 103; refine (hp _).mono ?_; rintro e wq ⟨rfl, hwq⟩; replace hwq := hwq.symm; subst hwq))
    go_ret
    exact ⟨rfl, hba⟩
  · have hb := specBits_any 7 w
    rw [show fb 7 = 8 from by decide] at hb
    have hp := fun w => pow_any 1 (by omega) w
    have e : fullI 7 = (pw 1 : Int) - 1 := by decide
    have hv : pw 1 = 256 := by decide
    rw [e, hv]
    rw [hv] at hp
    clear e hv
    go_enter Try.func136, Try.ntmps136
    go_wp2_with (first | (go_at_call 80; refine hb.mono ?_; rintro e wa ⟨rfl, hba⟩) | (go_at_call 103; refine (hp _).mono ?_; rintro e wq ⟨rfl, hwq⟩; replace hwq := hwq.symm; subst hwq))
    go_ret
    exact ⟨rfl, hba⟩

end Go.Proofs.Ytkakdldhinimoaa.Mu

namespace Go.Proofs.Ytkakdldhinimoaa.Dr
set_option maxRecDepth 8000
open Go Go.RowKit
open Num Rw Mk Un Put
set_option linter.unusedSimpArgs false
set_option linter.unusedVariables false

set_option maxHeartbeats 2000000 in
/-- A number of any kind. -/
theorem raw_any (g : Nat) (a : Option Addr) (b off cap : Nat) (l : List Int) (w : World) (h : Cur w g a b off cap l) :
    Calls Try.prog 102 #[.pointer (some ⟨g, 0, none⟩)] w fun e w' => ∃ x : Int, e = .returned (.int .i64 x) ∧ Cur w' g a b off cap l ∧ Only g w w' := by
  have hC := h
  have hO := Only.refl g w
  clear h
  go_enter Try.func102, Try.ntmps102
  go_wp2_with (first | (go_at_call 88; refine (below_any _ _ _ _ _ _ _ _ hC (by omega) (by omega)).mono ?_; rintro e w1 ⟨x, rfl, x0, x1, hC1, hO1⟩; replace hO := only_trans hO hO1; replace hC := hC1; clear hC1 hO1) | (go_at_call 103; refine (powI _ _ (by omega) (by omega)).mono ?_; rintro e w1 ⟨rfl, rfl⟩))
  all_goals
    go_ret
    exact ⟨_, rfl, hC, hO⟩


end Go.Proofs.Ytkakdldhinimoaa.Dr

