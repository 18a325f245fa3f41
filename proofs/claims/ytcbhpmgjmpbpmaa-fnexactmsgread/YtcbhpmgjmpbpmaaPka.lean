/-
  Contracts laid together (Draw, Drawb, Back, Wa, Wg, Wh, Dp, Sm, Wb, Wc, Wd, We, Wf, Wi, Mj, Mo, Mp, Mr, Mx, Wj, Wk).
-/
import Derived.Test.YtcbhpmgjmpbpmaaQg
import Derived.Deep.RegionHeld3
import Derived.Deep.MidRow
import Derived.Deep.Cut
namespace Go.Proofs.Ytcbhpmgjmpbpmaa.Dr
open Go.RowKit
set_option maxRecDepth 8000
open Num Rw Mk Un Put

/-- A cursor at block g over the bytes l of the slice at a. -/
structure Cur (w : World) (g : Nat) (a : Option Addr) (b off cap : Nat) (l : List Int) : Prop where
  blk : ∃ i h : Int, w.heap[g]? = some (.cells #[.slice a l.length cap, .int .i64 i, .int .i64 h] 173 (0, 0)) ∧ 0 ≤ i ∧ i ≤ (l.length : Int)
  rd : Rd w a b off l
  ne : l.length = 0 ∨ b ≠ g

theorem three0 {w : World} {g : Nat} {x y z : Value} {t : TypeId} (h : w.heap[g]? = some (.cells #[x, y, z] t (0, 0))) : w.cell? ⟨g, 0, none⟩ = some x := by simp [World.cell?, h]
theorem three1 {w : World} {g : Nat} {x y z : Value} {t : TypeId} (h : w.heap[g]? = some (.cells #[x, y, z] t (0, 0))) : w.cell? ⟨g, 1, none⟩ = some y := by simp [World.cell?, h]
theorem three2 {w : World} {g : Nat} {x y z : Value} {t : TypeId} (h : w.heap[g]? = some (.cells #[x, y, z] t (0, 0))) : w.cell? ⟨g, 2, none⟩ = some z := by simp [World.cell?, h]
theorem threef {w : World} {g : Nat} {x y z : Value} {t : TypeId} (h : w.heap[g]? = some (.cells #[x, y, z] t (0, 0))) (o : Nat) : w.frozen? ⟨g, o, none⟩ = false := by simp [World.frozen?, h]
theorem three_set {w : World} {g o : Nat} {c : Array Value} {t : TypeId} (h : w.heap[g]? = some (.cells c t (0, 0))) (u : Value) : (w.setCell ⟨g, o, none⟩ u).heap[g]? = some (.cells (c.setIfInBounds o u) t (0, 0)) := by
  simp [World.setCell, Array.getElem?_modify, h]

theorem and255 (y : Int) : 0 ≤ bits .and .i64 y 255 ∧ bits .and .i64 y 255 ≤ 255 := by
  have hle : (BitVec.ofInt 64 y &&& BitVec.ofInt 64 255).toNat ≤ 255 := by
    rw [BitVec.toNat_and]
    exact Nat.le_trans Nat.and_le_right (by decide)
  have e : bits .and .i64 y 255 = IntKind.i64.wrap ((BitVec.ofInt 64 y &&& BitVec.ofInt 64 255).toNat : Int) := rfl
  rw [e, Get.wraps_i64 _ (by omega) (by omega)]
  omega

theorem only_drewN {g : Nat} {w w' : World} (h : Only g w w') (n : Nat) : Only g w (w'.drewN n) := ⟨h.os, h.tape, h.output, h.size, h.block⟩
theorem only_trans {g : Nat} {w w1 w2 : World} (h : Only g w w1) (k : Only g w1 w2) : Only g w w2 :=
  ⟨k.os.trans h.os, k.tape.trans h.tape, k.output.trans h.output, Nat.le_trans h.size k.size, fun q hq hne => (k.block q (Nat.lt_of_lt_of_le hq h.size) hne).trans (h.block q hq hne)⟩
theorem rd_drewN {w : World} {a : Option Addr} {b off : Nat} {l : List Int} (h : Rd w a b off l) (n : Nat) : Rd (w.drewN n) a b off l := ⟨h.head, h.cell, h.size, h.byt⟩

set_option maxHeartbeats 2000000 in
theorem byte_any (g : Nat) (a : Option Addr) (b off cap : Nat) (l : List Int) (w : World) (h : Cur w g a b off cap l) :
    Calls Try.prog 76 #[.pointer (some ⟨g, 0, none⟩)] w fun e w' => ∃ x : Int, e = .returned (.int .i64 x) ∧ 0 ≤ x ∧ x ≤ 255 ∧ Cur w' g a b off cap l ∧ Only g w w' := by
  obtain ⟨⟨i, hh, hblk, hi0, hil⟩, hrd, hne⟩ := h
  have c0 := three0 hblk
  have c1 := three1 hblk
  have c2 := three2 hblk
  have f1 := threef hblk 1
  have f2 := threef hblk 2
  have hs := hrd.size
  by_cases hlt : i < (l.length : Int)
  · obtain ⟨k, rfl⟩ : ∃ k : Nat, i = k := ⟨i.toNat, by omega⟩
    have hkl : k < l.length := by omega
    have hb := hrd.head (by omega)
    subst hb
    have g0 := hrd.cell k hkl
    have hbg : b ≠ g := by omega
    go_enter Try.func76, Try.ntmps76
    go_wp2
    generalize wrap64 (wrap64 (hh * 6364136223846793005) + 1442695040888963407) = h1
    have hb1 := three_set (o := 2) hblk (.int .i64 h1)
    simp at hb1
    have ho1 : Only g w (w.setCell ⟨g, 2, none⟩ (.int .i64 h1)) := (Only.refl g w).set _
    have hrd1 := rd_only ho1 hrd hne
    clear hblk c0 c1 c2 f1 f2 g0 hrd
    generalize w.setCell ⟨g, 2, none⟩ (.int .i64 h1) = w1 at *
    have c0 := three0 hb1
    have c1 := three1 hb1
    have c2 := three2 hb1
    have f1 := threef hb1 1
    have g0 := hrd1.cell k hkl
    go_quiet (fail)
    go_wp2
    go_quiet (fail)
    go_wp2
    go_quiet (fail)
    go_wp2
    go_ret
    exact ⟨_, rfl, (and255 _).1, (and255 _).2, ⟨⟨(k : Int) + 1, h1, by simpa using three_set (w := w1.drewN _) (o := 1) hb1 (.int .i64 ((k : Int) + 1)), by omega, by omega⟩, rd_only ((Only.refl g (w1.drewN _)).set _) (rd_drewN hrd1 _) hne, hne⟩, (only_drewN ho1 _).set _⟩
  · go_enter Try.func76, Try.ntmps76
    go_wp2
    generalize wrap64 (wrap64 (hh * 6364136223846793005) + 1442695040888963407) = h1
    have hb1 := three_set (o := 2) hblk (.int .i64 h1)
    simp at hb1
    have ho1 : Only g w (w.setCell ⟨g, 2, none⟩ (.int .i64 h1)) := (Only.refl g w).set _
    have hrd1 := rd_only ho1 hrd hne
    clear hblk c0 c1 c2 f1 f2 hrd
    generalize w.setCell ⟨g, 2, none⟩ (.int .i64 h1) = w1 at *
    have c0 := three0 hb1
    have c1 := three1 hb1
    have c2 := three2 hb1
    go_quiet (fail)
    go_wp2
    go_quiet (fail)
    go_wp2
    go_ret
    exact ⟨_, rfl, (and255 _).1, (and255 _).2, ⟨⟨i, h1, hb1, by omega, by omega⟩, rd_drewN (rd_drewN hrd1 _) _, hne⟩, only_drewN (only_drewN ho1 _) _⟩

/-- A number below n, n above 0. -/
theorem below_any (g : Nat) (a : Option Addr) (b off cap : Nat) (l : List Int) (n : Int) (w : World) (h : Cur w g a b off cap l) (hn : 1 ≤ n) (hn6 : n ≤ 4294967296) :
    Calls Try.prog 74 #[.pointer (some ⟨g, 0, none⟩), .int .i64 n] w fun e w' => ∃ x : Int, e = .returned (.int .i64 x) ∧ 0 ≤ x ∧ x < n ∧ Cur w' g a b off cap l ∧ Only g w w' := by
  have h0 : ¬ n ≤ 0 := by omega
  by_cases hs : n ≤ 256
  · go_enter Try.func74, Try.ntmps74
    go_wp2_with (go_at_call 76; refine (byte_any _ _ _ _ _ _ _ h).mono ?_; rintro e w1 ⟨x, rfl, x0, x1, hc1, ho1⟩)
    go_ret
    exact ⟨_, rfl, Int.emod_nonneg _ (by omega), Int.emod_lt_of_pos _ (by omega), hc1, ho1⟩
  · go_enter Try.func74, Try.ntmps74
    go_wp2_with (go_at_call 76; refine (byte_any _ _ _ _ _ _ _ h).mono ?_; rintro e w1 ⟨x, rfl, x0, x1, hc1, ho1⟩)
    go_wp2_with (go_at_call 76; refine (byte_any _ _ _ _ _ _ _ hc1).mono ?_; rintro e w2 ⟨y, rfl, y0, y1, hc2, ho2⟩)
    go_wp2_with (go_at_call 76; refine (byte_any _ _ _ _ _ _ _ hc2).mono ?_; rintro e w3 ⟨z, rfl, z0, z1, hc3, ho3⟩)
    go_wp2_with (go_at_call 76; refine (byte_any _ _ _ _ _ _ _ hc3).mono ?_; rintro e w4 ⟨v, rfl, v0, v1, hc4, ho4⟩)
    go_ret
    exact ⟨_, rfl, Int.emod_nonneg _ (by omega), Int.emod_lt_of_pos _ (by omega), hc4, only_trans (only_trans (only_trans ho1 ho2) ho3) ho4⟩

theorem powI (x : Int) (w : World) (h0 : 0 ≤ x) (h6 : x ≤ 6) :
    Calls Try.prog 191 #[.int .i64 x] w fun e w' => e = .returned (.int .i64 (pw x.toNat)) ∧ w' = w := by
  obtain ⟨k, rfl⟩ : ∃ k : Nat, x = k := ⟨x.toNat, by omega⟩
  simpa using pow_any k (by omega) w

end Go.Proofs.Ytcbhpmgjmpbpmaa.Dr
namespace Go.Proofs.Ytcbhpmgjmpbpmaa.Dr
open Go.RowKit
set_option maxRecDepth 8000
open Num Rw Mk Un Put

theorem cur_new {w : World} {a : Option Addr} {b off cap : Nat} {l : List Int} (h : Rd w a b off l) (x : Int) : Cur (w.alloc (.cells #[.slice a l.length cap, .int .i64 0, .int .i64 x] 173)) w.heap.size a b off cap l :=
  ⟨⟨0, x, heap_alloc_new _ _, Int.le_refl _, by omega⟩, h.below ((Below.refl _ _).alloc (Nat.le_refl _) _), by
    rcases Nat.eq_zero_or_pos l.length with h0 | h0
    · exact .inl h0
    · have := World.block_lt_of_cell? _ _ (h.cell 0 h0); simp at this; exact .inr (by omega)⟩

/-- Where the bytes lie that are read. -/
theorem rd_lt {w : World} {a : Option Addr} {b off : Nat} {l : List Int} (h : Rd w a b off l) : l.length = 0 ∨ b < w.heap.size := by
  rcases Nat.eq_zero_or_pos l.length with h0 | h0
  · exact .inl h0
  · exact .inr (World.block_lt_of_cell? _ _ (h.cell 0 h0))
theorem cur_lt {w : World} {g : Nat} {a : Option Addr} {b off cap : Nat} {l : List Int} (h : Cur w g a b off cap l) : g < w.heap.size := by
  obtain ⟨i, x, hb, _⟩ := h.blk
  exact lt_of_block hb

/-- A cursor is kept where the blocks below B are, and it and its bytes lie below B. -/
theorem cur_keep {w w' : World} {B g : Nat} {a : Option Addr} {b off cap : Nat} {l : List Int} (h : Cur w g a b off cap l) (hk : ∀ k, k < B → w'.heap[k]? = w.heap[k]?) (hg : g < B) (hb : l.length = 0 ∨ b < B) : Cur w' g a b off cap l := by
  obtain ⟨⟨i, x, hblk, h1, h2⟩, hrd, hne⟩ := h
  refine ⟨⟨i, x, (hk g hg).trans hblk, h1, h2⟩, ⟨hrd.head, fun j hj => ?_, hrd.size, hrd.byt⟩, hne⟩
  have hb' : b < B := by omega
  exact (World.cell?_of_block (w := w) (hk b hb')).trans (hrd.cell j hj)

theorem hasI_only {w w' : World} {B g : Nat} {v : Value} {l : List Int} (h : HasI w B v l) (ho : Only g w w') (hg : g < B) : HasI w' B v l := by
  refine ⟨h.1.kept ho ?_, h.2⟩
  cases hv : v.ownBlock with
  | none => exact .inl rfl
  | some k => exact .inr (fun e => by have := (h.1.lt k hv).1; injection e with e; omega)

theorem only_alloc {g : Nat} {w w' : World} (h : Only g w w') (o : Obj) : Only g w (w'.alloc o) :=
  ⟨h.os, h.tape, h.output, by have := h.size; simp; omega, fun k hk hne => (Below.heap_alloc w' o k (Nat.lt_of_lt_of_le hk h.size)).trans (h.block k hk hne)⟩
theorem only_grown {g : Nat} {w w1 w2 : World} {row : Option Nat} (h : Only g w w1) (hg : w1.grownBy w2 row) (hr : ∀ k, row = some k → w.heap.size ≤ k) : Only g w w2 :=
  ⟨hg.os.trans h.os, hg.tape.trans h.tape, hg.output.trans h.output, Nat.le_trans h.size hg.size, fun k hk hne => (hg.block k (Nat.lt_of_lt_of_le hk h.size) (fun e => by have := hr k e.symm; omega)).trans (h.block k hk hne)⟩
theorem hasI_app {wr w1 : World} {B : Nat} {v v' : Value} {l : List Int} {x : Int} (_h : HasI wr B v l)
    (h' : w1.ownsRow B 5 1 v' (l.length + 1) (l.map (Value.int .u8) ++ [.int .u8 x])) (hn : v' = .slice none 0 0 ↔ v = .slice none 0 0 ∧ 1 = 0) : HasI w1 B v' (l ++ [x]) := by
  refine ⟨by simpa using h', fun e => ?_⟩
  have := hn.1 e; simp at this

set_option maxHeartbeats 2000000 in
theorem new_any (a : Option Addr) (b off cap : Nat) (l : List Int) (w : World) (h : Rd w a b off l) :
    Calls Try.prog 63 #[.slice a l.length cap] w fun e w' => e = .returned (.pointer (some ⟨w.heap.size, 0, none⟩)) ∧ Cur w' w.heap.size a b off cap l ∧ Below w.heap.size w w' := by
  have hs := h.size
  have hy := h.byt
  have hh := h.head
  have hc := h.cell
  go_enter Try.func63, Try.ntmps63
  go_wp2
  go_loop [3, 4] (fun t i => ∃ k : Nat, k ≤ l.length ∧ i = .int .i64 k ∧ ∃ x : Int, t = .int .i64 x) (fun _ i => l.length - (intOf i).toNat)
  case atStart => exact ⟨0, Nat.zero_le _, rfl, _, rfl⟩
  case round =>
    obtain ⟨k, hk, rfl, x, rfl⟩ := hrel
    by_cases hlt : k < l.length
    · have hkz : (k : Int) < (l.length : Int) := by omega
      by_cases h4 : (k : Int) < 4000
      · obtain rfl := hh (by omega)
        have g0 := hc k hlt
        clear hc hy hh
        go_wp2
        go_round
        case rel => exact ⟨k + 1, by omega, by go_num, _, rfl⟩
        case measure => simp [intOf]; omega
      · clear hc hy hh
        go_wp2
        go_ret
        exact ⟨rfl, cur_new h _, (Below.refl _ _).alloc (Nat.le_refl _) _⟩
    · have hkz : ¬ (k : Int) < (l.length : Int) := by omega
      clear hc hy hh
      go_wp2
      go_ret
      exact ⟨rfl, cur_new h _, (Below.refl _ _).alloc (Nat.le_refl _) _⟩


theorem byt_zeros (n : Nat) : Byt (List.replicate n 0) := fun x hx => by have := List.eq_of_mem_replicate hx; omega
theorem mine_made (w : World) (n : Nat) (h : n ≤ 4194304) : Mine (w.alloc (.cells (madeCells #[.int .u8 0] n) 5)) w.heap.size (List.replicate n 0) := by
  refine ⟨?_, by simpa using h, byt_zeros n⟩
  rw [List.length_replicate]
  refine (World.rowIs_made w (.int .u8 0) n 5).congr fun i hi => ?_
  simp [List.getD, hi]

theorem ret3 {gb n c m : Nat} {x y : Int} (h : n = m) : Ending.returned (.tuple #[.slice (some ⟨gb, 0, none⟩) n c, .int .i64 x, .int .i64 y]) = .returned (.tuple #[.slice (some ⟨gb, 0, none⟩) m c, .int .i64 x, .int .i64 y]) := by rw [h]

end Go.Proofs.Ytcbhpmgjmpbpmaa.Dr
namespace Go.Proofs.Ytcbhpmgjmpbpmaa.Bk
open Go.RowKit
set_option maxRecDepth 8000
open Num Rw Mk Un Put Word Hex

theorem acc_put (l : List Int) (N z : Nat) (h : N < pw z) : ∀ k, k ≤ z → Get.acc (l ++ digs N z z) l.length k = ((N / pw (z - k) : Nat) : Int)
  | 0, _ => by
    have : N / pw z = 0 := Nat.div_eq_of_lt h
    simp [Get.acc, this]
  | k + 1, hk => by
    have ih := acc_put l N z h k (by omega)
    have hd : (l ++ digs N z z).getD (l.length + k) 0 = dig N z k := by
      have := digs_at N z z k (by omega)
      simp only [List.getD] at this ⊢
      rw [List.getElem?_append_right (by omega), Nat.add_sub_cancel_left, this]
    have e1 : z - k = z - (k + 1) + 1 := by omega
    have e2 : z - 1 - k = z - (k + 1) := by omega
    have hs := div_step N (z - (k + 1))
    rw [Get.acc, ih, hd, dig, e1, e2, ← hs]
    omega

theorem acc_back (l : List Int) (N z : Nat) (h : N < pw z) : Get.acc (l ++ digs N z z) l.length z = (N : Int) := by
  have := acc_put l N z h z (Nat.le_refl _)
  simpa [pw] using this

/-- The text of the digits. -/
def txt (l : List Int) : ByteArray := ⟨(hexU l l.length).toArray⟩
theorem txt_size (l : List Int) : (txt l).size = 2 * l.length := by
  show (hexU l l.length).toArray.size = _
  simp [hexU_len]

theorem hexU_at (l : List Int) (i : Nat) : ∀ n, i < n → (hexU l n).getD (2 * i) 0 = dg ((l.getD i 0).toNat / 16) ∧ (hexU l n).getD (2 * i + 1) 0 = dg ((l.getD i 0).toNat % 16)
  | 0, h => by omega
  | n + 1, h => by
    have hl := hexU_len l n
    by_cases e : i = n
    · subst e
      simp only [hexU, List.getD]
      rw [List.getElem?_append_right (by omega), List.getElem?_append_right (by omega)]
      have e1 : 2 * i - (hexU l i).length = 0 := by omega
      have e2 : 2 * i + 1 - (hexU l i).length = 1 := by omega
      rw [e1, e2]
      simp
    · have ih := hexU_at l i n (by omega)
      simp only [List.getD] at ih ⊢
      simp only [hexU]
      rw [List.getElem?_append_left (by omega), List.getElem?_append_left (by omega)]
      exact ih

theorem ch_txt (l : List Int) (i : Nat) (h : i < l.length) : ch (txt l) (2 * i) = ((dg ((l.getD i 0).toNat / 16)).toNat : Int) ∧ ch (txt l) (2 * i + 1) = ((dg ((l.getD i 0).toNat % 16)).toNat : Int) := by
  have := hexU_at l i l.length h
  unfold ch txt
  simp only
  rw [this.1, this.2]
  exact ⟨rfl, rfl⟩

theorem txt_digit (l : List Int) (hy : Byt l) (i : Nat) (h : i < l.length) : isH (ch (txt l) (2 * i)) = true ∧ isH (ch (txt l) (2 * i + 1)) = true ∧ un (txt l) i = l.getD i 0 := by
  have hb := hy.at i
  obtain ⟨c1, c2⟩ := ch_txt l i h
  have d1 := dg_val (j := (l.getD i 0).toNat / 16) (by omega) c1.symm
  have d2 := dg_val (j := (l.getD i 0).toNat % 16) (by omega) c2.symm
  refine ⟨d1.1, d2.1, ?_⟩
  unfold un
  rw [d1.2, d2.2]
  omega

theorem txt_ok (l : List Int) (hy : Byt l) (h6 : l.length ≤ 60000) : okB (txt l) = true := by
  have hs := txt_size l
  refine ok_good (by omega) (by omega) fun k hk => ?_
  have hd := txt_digit l hy (k / 2) (by omega)
  by_cases e : k % 2 = 0
  · have : k = 2 * (k / 2) := by omega
    rw [this]; exact hd.1
  · have : k = 2 * (k / 2) + 1 := by omega
    rw [this]; exact hd.2.1

theorem txt_back (l : List Int) (hy : Byt l) (h6 : l.length ≤ 60000) : unl (txt l) = l := by
  have hs := txt_size l
  have e : (txt l).size / 2 = l.length := by omega
  unfold unl
  rw [txt_ok l hy h6, if_pos rfl, e]
  refine ext_getD (bytes_len _ _) fun i hi => ?_
  rw [bytes_len] at hi
  rw [bytes_at _ _ _ hi]
  exact (txt_digit l hy i hi).2.2

theorem toNat_back {l : List Int} (hy : Byt l) : (l.map (fun x => UInt8.ofNat x.toNat)).map (fun b => Value.int .u8 (b.toNat : Int)) = l.map (Value.int .u8) := by
  rw [List.map_map]
  refine List.map_congr_left fun x hx => ?_
  have := hy x hx
  simp
  omega

theorem conv_any {w : World} {a : Option Addr} {b off : Nat} {l : List Int} (cap : Nat) (h : Rd w a b off l) :
    (convert 22 9 (.slice a l.length cap)).run Try.prog w = .ok (.string ⟨(l.map (fun x => UInt8.ofNat x.toNat)).toArray⟩) w := by
  rcases a with _ | ad
  · have hl : l = [] := by
      rcases Nat.eq_zero_or_pos l.length with h0 | h0
      · exact List.eq_nil_of_length_eq_zero h0
      · exact absurd (h.head h0) (by simp)
    subst hl
    rw [run_convert_bytes_string w 22 9 5 none _ cap Try.underlying22 Try.underlying5 Try.underlying9]
    simp [Conv.bytesToString]
    rfl
  · have hb := run_convert_bytes_back (P := Try.prog) w 22 9 5 ad cap (l.map (fun x => UInt8.ofNat x.toNat)) Try.underlying22 Try.underlying5 Try.underlying9 (fun j hj => by
      have hj' : j < l.length := by simpa using hj
      have e := h.head (by omega)
      injection e with e
      subst e
      have hc := h.cell j hj'
      have hby := h.byt.at j
      have e2 : (((l.map (fun x => UInt8.ofNat x.toNat))[j]'hj).toNat : Int) = l.getD j 0 := by
        simp [List.getD, hj'] at hby ⊢
        omega
      rw [e2]
      by_cases ej : j = 0
      · subst ej; simpa [Addr.add] using hc
      · simpa [Addr.add, ej] using hc)
    rw [List.length_map] at hb
    exact hb


theorem put_facts {l : List Int} {n size : Int} (h : putOk l.length n size = true) :
    ∃ N z : Nat, n = N ∧ size = z ∧ 1 ≤ z ∧ z ≤ 6 ∧ (putl l n size).length = l.length + z ∧ Get.acc (putl l n size) l.length z = (N : Int) := by
  have hn : numOkB n size = true := by
    cases hq : numOkB n size with
    | true => rfl
    | false => rw [ok_num hq] at h; simp at h
  obtain ⟨N, z, rfl, rfl, z1, z6, hNz⟩ := numOk_nat hn
  have hp : putl l (N : Int) (z : Int) = l ++ digs N z z := by simp [putl, h]
  refine ⟨N, z, rfl, rfl, z1, z6, ?_, ?_⟩
  · rw [hp, List.length_append, digs_len]
  · rw [hp]; exact acc_back l N z hNz
theorem put_nil {l : List Int} {n size : Int} (h : putOk l.length n size = false) : putl l n size = [] := by simp [putl, h]
theorem get_none {len : Nat} {size : Int} : ¬ Get.getOk 0 (len : Int) size := by unfold Get.getOk; omega

end Go.Proofs.Ytcbhpmgjmpbpmaa.Bk
namespace Go.Proofs.Ytcbhpmgjmpbpmaa.Wa
open Go Go.RowKit
set_option maxRecDepth 8000
set_option linter.unusedSimpArgs false
set_option linter.unusedVariables false
open Num Pl Rw Mk Un Put App Ea Pr

/-- The number of z bytes at place p, or 0 where they aren't all there. -/
def rdn (l : List Int) (p z : Nat) : Int := if p + z ≤ l.length then Get.acc l p z else 0
theorem numAt_any (a : Option Addr) (b off cap : Nat) (l : List Int) (p z : Nat) (w : World) (h : Rd w a b off l) (h1 : 1 ≤ z) (h6 : z ≤ 6) :
    Calls Try.prog 159 #[.slice a l.length cap, .int .i64 p, .int .i64 z] w fun e w' => e = .returned (.int .i64 (rdn l p z)) ∧ w' = w := by
  unfold rdn
  by_cases hp : p + z ≤ l.length
  · rw [if_pos hp]; exact numAt_yes a b off cap l p z w h h1 h6 hp
  · rw [if_neg hp]; exact numAt_no a cap l.length p z w h.size (by unfold Get.getOk; omega)
/-- The reader's block. -/
def Rdr (w : World) (g : Nat) (a : Option Addr) (cap : Nat) (l : List Int) (p : Nat) : Prop := w.heap[g]? = some (.cells #[.slice a l.length cap, .int .i64 p] 109 (0, 0))

set_option maxHeartbeats 2000000 in
theorem num_any (g : Nat) (a : Option Addr) (b off cap : Nat) (l : List Int) (p z : Nat) (w : World) (k : Rdr w g a cap l p) (h : Rd w a b off l) (hp : p ≤ 100000) (h1 : 1 ≤ z) (h6 : z ≤ 6) :
    Calls Try.prog 160 #[.pointer (some ⟨g, 0, none⟩), .int .i64 z] w fun e w' => e = .returned (.int .i64 (rdn l p z)) ∧ Rdr w' g a cap l (p + z) ∧ Only g w w' := by
  unfold Rdr at k ⊢
  obtain ⟨p0, p1⟩ := Pm.two k
  have f0 := Bl.free k
  have hc := fun W (hW : Rd W a b off l) => numAt_any a b off cap l p z W hW h1 h6
  generalize rdn l p z = R at *
  have hd := h.below ((Below.refl w.heap.size w).drew)
  go_enter Try.func160, Try.ntmps160
  go_wp2
  go_region_held3 (fun w' => w'.cell? ⟨g, 0, none⟩ = some (.slice a l.length cap) ∧ w'.cell? ⟨g, 1, none⟩ = some (.int .i64 p)) (go_keep) (first
    | (go_at_call 159; refine (hc _ (by first | exact h | exact hd)).mono ?_; rintro e w1 ⟨rfl, hw⟩; replace hw := hw.symm; subst hw))
  go_wp2
  go_ret
  refine ⟨rfl, ?_, ?_⟩
  · have kd : (w.setCell ⟨g, 1, none⟩ (.int .i64 ((p : Int) + (z : Int)))).heap[g]? = some (.cells #[.slice a l.length cap, .int .i64 ((p : Int) + (z : Int))] 109 (0, 0)) := blk_same k
    have e : (((p + z : Nat) : Int)) = (p : Int) + (z : Int) := by omega
    rw [e]
    exact kd
  · have o : Only g w (w.setCell ⟨g, 1, none⟩ (.int .i64 ((p : Int) + (z : Int)))) := (Only.refl g w).set _
    exact ⟨o.os, o.tape, o.output, o.size, o.block⟩

end Go.Proofs.Ytcbhpmgjmpbpmaa.Wa
namespace Go.Proofs.Ytcbhpmgjmpbpmaa.Wa
open Go Go.RowKit
set_option maxRecDepth 8000
set_option linter.unusedSimpArgs false
set_option linter.unusedVariables false
open Num Pl Rw Mk Un Put App Ea Pr

/-- The code of a row of bytes, as far as it can be told ahead of its body. -/
def code (l : List Int) : Int := if l.length < 12 ∨ 300 < l.length then 1 else if l.getD 0 0 ≠ 1 then 2 else if Gq.told l ≠ l.length then 3 else if l.getD 1 0 < 1 ∨ 6 < l.getD 1 0 then 4 else 0

set_option maxHeartbeats 4000000 in
theorem code_any (a : Option Addr) (b off cap : Nat) (l : List Int) (w : World) (h : Rd w a b off l) : Calls Try.prog 69 #[.slice a l.length cap] w fun e w' => e = .returned (.int .i64 (code l)) ∧ w' = w := by
  unfold code
  have hok := Gq.lenOk_any l.length w
  by_cases c1 : l.length < 12 ∨ 300 < l.length
  · rw [if_pos c1]
    rw [decide_eq_false (by omega)] at hok
    go_enter Try.func69, Try.ntmps69
    go_wp2_with (go_at_call 79; refine hok.mono ?_; rintro e w1 ⟨rfl, hw⟩; replace hw := hw.symm; subst hw)
    go_ret
    exact ⟨rfl, rfl⟩
  rw [if_neg c1]
  rw [decide_eq_true (by omega)] at hok
  obtain rfl := h.head (by omega)
  have g0 := h.cell 0 (by omega)
  simp only [Nat.add_zero] at g0
  have g1 := h.cell 1 (by omega)
  have ht := Gq.told_any (some ⟨b, off, none⟩) b off cap l w h (by omega)
  have z0 : (0 : Int) < (l.length : Int) := by omega
  have z1 : (1 : Int) < (l.length : Int) := by omega
  generalize l.getD 0 0 = x0 at *
  generalize l.getD 1 0 = x1 at *
  have A79 : True := trivial
  by_cases c2 : x0 ≠ 1
  · rw [if_pos c2]
    have b2 : (x0 != 1) = true := by simpa using c2
    go_enter Try.func69, Try.ntmps69
    go_wp2_with (go_at_call 79; refine hok.mono ?_; rintro e w1 ⟨rfl, hw⟩; replace hw := hw.symm; subst hw)
    go_ret
    exact ⟨rfl, rfl⟩
  rw [if_neg c2]
  have c2' : x0 = 1 := by omega
  subst c2'
  by_cases c3 : Gq.told l ≠ l.length
  · rw [if_pos c3]
    have b3 : ((Gq.told l : Int) != (l.length : Int)) = true := by simp; omega
    generalize Gq.told l = n at *
    go_enter Try.func69, Try.ntmps69
    go_wp2_with (first
      | (go_at_call 79; refine hok.mono ?_; rintro e w1 ⟨rfl, hw⟩; replace hw := hw.symm; subst hw)
      | (go_at_call 78; refine ht.mono ?_; rintro e w1 ⟨rfl, hw⟩; replace hw := hw.symm; subst hw))
    go_ret
    exact ⟨rfl, rfl⟩
  rw [if_neg c3]
  have c3' : Gq.told l = l.length := by omega
  rw [c3'] at ht
  clear c3 c3'
  by_cases c4 : x1 < 1
  · rw [if_pos (.inl c4)]
    go_enter Try.func69, Try.ntmps69
    go_wp2_with (first
      | (go_at_call 79; refine hok.mono ?_; rintro e w1 ⟨rfl, hw⟩; replace hw := hw.symm; subst hw)
      | (go_at_call 78; refine ht.mono ?_; rintro e w1 ⟨rfl, hw⟩; replace hw := hw.symm; subst hw))
    go_ret
    exact ⟨rfl, rfl⟩
  by_cases c5 : 6 < x1
  · rw [if_pos (.inr c5)]
    go_enter Try.func69, Try.ntmps69
    go_wp2_with (first
      | (go_at_call 79; refine hok.mono ?_; rintro e w1 ⟨rfl, hw⟩; replace hw := hw.symm; subst hw)
      | (go_at_call 78; refine ht.mono ?_; rintro e w1 ⟨rfl, hw⟩; replace hw := hw.symm; subst hw))
    go_ret
    exact ⟨rfl, rfl⟩
  rw [if_neg (by omega)]
  go_enter Try.func69, Try.ntmps69
  go_wp2_with (first
    | (go_at_call 79; refine hok.mono ?_; rintro e w1 ⟨rfl, hw⟩; replace hw := hw.symm; subst hw)
    | (go_at_call 78; refine ht.mono ?_; rintro e w1 ⟨rfl, hw⟩; replace hw := hw.symm; subst hw))
  go_ret
  exact ⟨rfl, rfl⟩

end Go.Proofs.Ytcbhpmgjmpbpmaa.Wa
namespace Go.Proofs.Ytcbhpmgjmpbpmaa.Wa
open Go Go.RowKit
set_option maxRecDepth 8000
set_option linter.unusedSimpArgs false
set_option linter.unusedVariables false
open Num Pl Rw Mk Un Put App Ea Pr

theorem str_ne {l m : List Int} (hl : Byt l) (hm : Byt m) (h : l ≠ m) : (l.map (fun x => UInt8.ofNat x.toNat)).toArray ≠ (m.map (fun x => UInt8.ofNat x.toNat)).toArray := by
  intro e
  apply h
  have e2 : l.map (fun x => UInt8.ofNat x.toNat) = m.map (fun x => UInt8.ofNat x.toNat) := by simpa using congrArg Array.toList e
  have len : l.length = m.length := by have := congrArg List.length e2; simpa using this
  refine List.ext_getElem len fun i h1 h2 => ?_
  have e3 : (l.map (fun x => UInt8.ofNat x.toNat))[i]? = (m.map (fun x => UInt8.ofNat x.toNat))[i]? := by rw [e2]
  simp [h1, h2] at e3
  have b1 := hl _ (List.getElem_mem h1)
  have b2 := hm _ (List.getElem_mem h2)
  have e4 := congrArg UInt8.toNat e3
  simp at e4
  omega

theorem equal_any (a a' : Option Addr) (b off c b' off' c' : Nat) (l m : List Int) (w : World) (h : Rd w a b off l) (h' : Rd w a' b' off' m) :
    Calls Try.prog 71 #[.slice a l.length c, .slice a' m.length c'] w fun e w' => e = .returned (.bool (decide (l = m))) ∧ w' = w := by
  have hv1 := Bk.conv_any c h
  have hv2 := Bk.conv_any c' h'
  by_cases e : l = m
  · subst e
    rw [decide_eq_true rfl]
    go_enter Try.func71, Try.ntmps71
    go_wp2
    go_ret
    exact ⟨ret_bool (by simp), rfl⟩
  · rw [decide_eq_false e]
    have hne := str_ne h.byt h'.byt e
    generalize l.map (fun x => UInt8.ofNat x.toNat) = X at *
    generalize m.map (fun x => UInt8.ofNat x.toNat) = Y at *
    have hb : ((⟨X.toArray⟩ : ByteArray).toList == (⟨Y.toArray⟩ : ByteArray).toList) = false := by rw [ByteArray.toList_mk, ByteArray.toList_mk]; simp; intro q; exact hne (by rw [q])
    go_enter Try.func71, Try.ntmps71
    go_wp2
    go_ret
    have hXY : ¬ X = Y := fun q => hne (by rw [q])
    exact ⟨ret_bool (by first | exact hb | simp [hXY]), rfl⟩

theorem same_any (a a' : Option Addr) (b off c b' off' c' : Nat) (l m : List Int) (w : World) (h : Rd w a b off l) (h' : Rd w a' b' off' m) :
    Calls Try.prog 97 #[.slice a l.length c, .slice a' m.length c'] w fun e w' => e = .returned (.bool (decide (l = m))) ∧ w' = w := by
  have hv1 := Bk.conv_any c h
  have hv2 := Bk.conv_any c' h'
  by_cases e : l = m
  · subst e
    rw [decide_eq_true rfl]
    go_enter Try.func97, Try.ntmps97
    go_wp2
    go_ret
    exact ⟨ret_bool (by simp), rfl⟩
  · rw [decide_eq_false e]
    have hne := str_ne h.byt h'.byt e
    generalize l.map (fun x => UInt8.ofNat x.toNat) = X at *
    generalize m.map (fun x => UInt8.ofNat x.toNat) = Y at *
    have hb : ((⟨X.toArray⟩ : ByteArray).toList == (⟨Y.toArray⟩ : ByteArray).toList) = false := by rw [ByteArray.toList_mk, ByteArray.toList_mk]; simp; intro q; exact hne (by rw [q])
    go_enter Try.func97, Try.ntmps97
    go_wp2
    go_ret
    have hXY : ¬ X = Y := fun q => hne (by rw [q])
    exact ⟨ret_bool (by first | exact hb | simp [hXY]), rfl⟩

end Go.Proofs.Ytcbhpmgjmpbpmaa.Wa
namespace Go.Proofs.Ytcbhpmgjmpbpmaa.Dr
open Go Go.RowKit
set_option maxRecDepth 8000
open Num Rw Mk Un Put Pl Pf

theorem cur_set {w : World} {B g p o : Nat} {a : Option Addr} {b off cap : Nat} {l : List Int} {u : Value} (h : Cur w g a b off cap l) (hp : B ≤ p) (hg : g < B) (hb : l.length = 0 ∨ b < B) : Cur (w.setCell ⟨p, o, none⟩ u) g a b off cap l :=
  cur_keep (B := B) h (fun k hk => Below.heap_setCell w ⟨p, o, none⟩ u k (fun e => by simp at e; omega)) hg hb
theorem cur_alloc {w : World} {g : Nat} {a : Option Addr} {b off cap : Nat} {l : List Int} (h : Cur w g a b off cap l) (o : Obj) : Cur (w.alloc o) g a b off cap l :=
  cur_keep (B := w.heap.size) h (fun k hk => Below.heap_alloc w o k hk) (cur_lt h) (rd_lt h.rd)
theorem only_set {g p o : Nat} {w w1 : World} {u : Value} (h : Only g w w1) (hp : w.heap.size ≤ p) : Only g w (w1.setCell ⟨p, o, none⟩ u) :=
  ⟨h.os, h.tape, h.output, by simpa using h.size, fun k hk hne => (Below.heap_setCell w1 _ u k (fun e => by simp at e; omega)).trans (h.block k hk hne)⟩
theorem k_of {g k : Nat} {w w' : World} (h : Only g w w') (hk : k < w.heap.size) (hne : k ≠ g) : w'.heap[k]? = w.heap[k]? := h.block k hk (by simpa using hne)
theorem wt_of {g : Nat} {w w' : World} {a : Option Addr} {b : Nat} {l : List Int} (h : Only g w w') (hr : Wt w a b l) (hne : b ≠ g) : Wt w' a b l := wt_only h hr (.inr hne)

set_option maxHeartbeats 1000000 in
theorem num6_any (g : Nat) (a : Option Addr) (b off cap : Nat) (l : List Int) (w : World) (h : Cur w g a b off cap l) :
    Calls Try.prog 206 #[.pointer (some ⟨g, 0, none⟩)] w fun e w' => ∃ x : Int, e = .returned (.int .i64 x) ∧ 0 ≤ x ∧ x ≤ 281474976710655 ∧ Cur w' g a b off cap l ∧ Only g w w' := by
  go_enter Try.func206, Try.ntmps206
  go_wp2_with (first | (go_at_call 74; clear tok1) | (go_at_call 74; refine (below_any _ _ _ _ _ _ _ _ h (by omega) (by omega)).mono ?_; rintro e w1 ⟨x, rfl, x0, x1, hC, hO⟩; clear h))
  · go_wp2_with (go_at_call 74; refine (below_any _ _ _ _ _ _ _ _ hC (by omega) (by omega)).mono ?_; rintro e w2 ⟨y, rfl, y0, y1, hC2, hO2⟩)
    go_ret
    exact ⟨_, rfl, by omega, by omega, hC2, only_trans hO hO2⟩
  · go_ret
    exact ⟨_, rfl, by omega, by omega, hC, hO⟩
  · go_wp2_with (go_at_call 74; refine (below_any _ _ _ _ _ _ _ _ hC (by omega) (by omega)).mono ?_; rintro e w2 ⟨y, rfl, y0, y1, hC2, hO2⟩)
    go_ret
    exact ⟨_, rfl, by omega, by omega, hC2, only_trans hO hO2⟩


theorem set4 {w : World} {g : Nat} {v0 v1 v2 v3 v4 u : Value} {t : TypeId} (h : w.heap[g]? = some (.cells #[v0, v1, v2, v3, v4] t (0, 0))) : (w.setCell ⟨g, 4, none⟩ u).heap[g]? = some (.cells #[v0, v1, v2, v3, u] t (0, 0)) := by simpa using three_set (o := 4) h u
theorem set3 {w : World} {g : Nat} {v0 v1 v2 v3 v4 u : Value} {t : TypeId} (h : w.heap[g]? = some (.cells #[v0, v1, v2, v3, v4] t (0, 0))) : (w.setCell ⟨g, 3, none⟩ u).heap[g]? = some (.cells #[v0, v1, v2, u, v4] t (0, 0)) := by simpa using three_set (o := 3) h u
theorem set2 {w : World} {g : Nat} {v0 v1 v2 v3 v4 u : Value} {t : TypeId} (h : w.heap[g]? = some (.cells #[v0, v1, v2, v3, v4] t (0, 0))) : (w.setCell ⟨g, 2, none⟩ u).heap[g]? = some (.cells #[v0, v1, u, v3, v4] t (0, 0)) := by simpa using three_set (o := 2) h u
theorem set1 {w : World} {g : Nat} {v0 v1 v2 v3 v4 u : Value} {t : TypeId} (h : w.heap[g]? = some (.cells #[v0, v1, v2, v3, v4] t (0, 0))) : (w.setCell ⟨g, 1, none⟩ u).heap[g]? = some (.cells #[v0, u, v2, v3, v4] t (0, 0)) := by simpa using three_set (o := 1) h u
theorem set0 {w : World} {g : Nat} {v0 v1 v2 v3 v4 u : Value} {t : TypeId} (h : w.heap[g]? = some (.cells #[v0, v1, v2, v3, v4] t (0, 0))) : (w.setCell ⟨g, 0, none⟩ u).heap[g]? = some (.cells #[u, v1, v2, v3, v4] t (0, 0)) := by simpa using three_set (o := 0) h u
theorem far {w : World} {g : Nat} {ad : Addr} {u : Value} (hne : ¬ ad.block = g) : (w.setCell ad u).heap[g]? = w.heap[g]? := Below.heap_setCell w ad u g (fun e => hne e.symm)
theorem wset {w : World} {a : Option Addr} {g : Nat} {l : List Int} {ad : Addr} {u : Value} (h : Wt w a g l) (hne : l.length = 0 ∨ ¬ ad.block = g) : Wt (w.setCell ad u) a g l := by
  rcases hne with h0 | h0
  · exact ⟨h.head, fun i hi => by omega, fun i hi => by omega, h.size, h.byt⟩
  · exact Tg.wt_set h h0
theorem wt_eq {w : World} {g g' : Nat} {l : List Int} (e : g = g') (h : Wt w (some ⟨g, 0, none⟩) g l) : Wt w (some ⟨g', 0, none⟩) g' l := by subst e; exact h
theorem size_set (w : World) (ad : Addr) (u : Value) : (w.setCell ad u).heap.size = w.heap.size := by simp

theorem two_at {w : World} {g : Nat} {x y : Int} {t : TypeId} (h : w.heap[g]? = some (.cells #[.int .i64 x, .int .i64 y] t (0, 0))) (i : Nat) (hi : i < 2) : ∃ V : Int, w.cell? ⟨g, i, none⟩ = some (.int .i64 V) ∧ (V = x ∨ V = y) := by
  match i, hi with
  | 0, _ => exact ⟨x, by simp [World.cell?, h], .inl rfl⟩
  | 1, _ => exact ⟨y, by simp [World.cell?, h], .inr rfl⟩

/-- The numbers of a drawn packet are right. -/
def Bnd (d s t : Int) : Prop := (0 ≤ d ∧ d ≤ 281474976710655) ∧ (0 ≤ s ∧ s ≤ 281474976710655) ∧ -1 ≤ t ∧ t ≤ 4094
/-- What a draw of a packet leaves. -/
def Drawn (w : World) (g : Nat) (a : Option Addr) (b off cap : Nat) (l : List Int) (e : Ending) (w' : World) : Prop :=
  ∃ (d s t y : Int) (gb cap' : Nat) (q : List Int), e = .returned (.agg #[.int .i64 d, .int .i64 s, .int .i64 t, .int .i64 y, .slice (some ⟨gb, 0, none⟩) q.length cap']) ∧ Bnd d s t ∧ Wt w' (some ⟨gb, 0, none⟩) gb q ∧ w.heap.size ≤ gb ∧ Cur w' g a b off cap l ∧ Only g w w'

end Go.Proofs.Ytcbhpmgjmpbpmaa.Dr
namespace Go.Proofs.Ytcbhpmgjmpbpmaa.Sm
open Go Go.RowKit
set_option maxRecDepth 8000
set_option linter.unusedSimpArgs false
set_option linter.unusedVariables false
open Num Pl Ea Yb

def In (f : Ent) (x : Nat) : Prop := x = f.bV ∨ x = f.bM ∨ x = f.bA
theorem ok_keep {w w' : World} {f : Ent} (o : f.Ok w) (hk : ∀ x, In f x → x < w.heap.size → w'.heap[x]? = w.heap[x]?) : f.Ok w' :=
  ⟨⟨o.rV.head, fun i hi => (World.cell?_of_block (hk _ (.inl rfl) (World.block_lt_of_cell? _ _ (o.rV.cell i hi)))).trans (o.rV.cell i hi), o.rV.size⟩,
   ⟨o.rM.head, fun i hi => (World.cell?_of_block (hk _ (.inr (.inl rfl)) (World.block_lt_of_cell? _ _ (o.rM.cell i hi)))).trans (o.rM.cell i hi), o.rM.size⟩,
   ⟨o.rA.head, fun i hi => by
      have e := hk _ (.inr (.inr rfl)) (o.rA.cell i hi).lt
      obtain ⟨c0, c1, c2⟩ := o.rA.cell i hi
      exact ⟨(World.cell?_of_block e).trans c0, (World.cell?_of_block e).trans c1, (World.cell?_of_block e).trans c2⟩, o.rA.size⟩, o.wV, o.wM⟩
theorem rdA_only {g : Nat} {w w' : World} {a : Option Addr} {b off : Nat} {l : List Yb.A3} (h : Mk.Only g w w') (hr : Yb.Rd w a b off l) (hne : b ≠ g) : Yb.Rd w' a b off l :=
  ⟨hr.head, fun i hi => ⟨h.cell (hr.cell i hi).1 (by simpa using hne), h.cell (hr.cell i hi).2.1 (by simpa using hne), h.cell (hr.cell i hi).2.2 (by simpa using hne)⟩, hr.size⟩
theorem set_far {w : World} {p o x : Nat} {u : Value} (h : x ≠ p) : (w.setCell ⟨p, o, none⟩ u).heap[x]? = w.heap[x]? := by
  simp [World.setCell, Array.getElem?_modify, Ne.symm h]

theorem only_below {g : Nat} {w w1 w2 : World} (h : Mk.Only g w w1) (b : Below w1.heap.size w1 w2) : Mk.Only g w w2 :=
  ⟨b.os.trans h.os, b.tape.trans h.tape, b.output.trans h.output, Nat.le_trans h.size b.size, fun k hk hne => (b.block k (Nat.lt_of_lt_of_le hk h.size)).trans (h.block k hk hne)⟩

def cellsA (x : A3) : List Value := [.int .i64 x.1, .int .i64 x.2.1, .int .i64 x.2.2]
def flatA (l : List A3) : List Value := l.flatMap cellsA
theorem flatA_get : ∀ (l : List A3) (i : Nat), i < l.length → (flatA l)[i * 3]? = some (.int .i64 (l.getD i Yb.z3).1) ∧ (flatA l)[i * 3 + 1]? = some (.int .i64 (l.getD i Yb.z3).2.1) ∧ (flatA l)[i * 3 + 2]? = some (.int .i64 (l.getD i Yb.z3).2.2)
  | [], i, h => by simp at h
  | x :: l, 0, h => by simp [flatA, cellsA, List.getD]
  | x :: l, i + 1, h => by
    have q := flatA_get l i (by simpa using h)
    have e0 : (i + 1) * 3 = i * 3 + 1 + 1 + 1 := by omega
    have e : flatA (x :: l) = .int .i64 x.1 :: .int .i64 x.2.1 :: .int .i64 x.2.2 :: flatA l := by simp [flatA, cellsA]
    rw [e0, e]
    exact ⟨q.1, q.2.1, q.2.2⟩
theorem info76 : (Try.prog.info? 133).map (fun i => (i.zero, i.size, i.bytes)) = some (some (.agg #[.int .i64 0, .int .i64 0, .int .i64 0]), 3, 24) := by kernel_rfl


end Go.Proofs.Ytcbhpmgjmpbpmaa.Sm
namespace Go.Proofs.Ytcbhpmgjmpbpmaa.Wa
open Go Go.RowKit
set_option maxRecDepth 8000
set_option linter.unusedSimpArgs false
set_option linter.unusedVariables false
open Num Pl Rw Mk Un Put App Ea Pr

theorem onlyT2 {g : Nat} {w w1 w2 : World} (h : Only g w w1) (h' : Only g w1 w2) : Only g w w2 := Dr.only_trans h h'
def rV (l : List Int) (p : Nat) : Nat → Int := fun f => rdn l (p + 12 * f) 6
def rM (l : List Int) (p : Nat) : Nat → Int := fun f => rdn l (p + 12 * f + 6) 6
theorem lst_cut (v : Nat → Int) : Pm.lst (Pa.cut v Pa.nul 8) = Pm.lst v := by
  unfold Pm.lst
  refine List.map_congr_left fun i hi => ?_
  have : i < 8 := by simpa using hi
  simp [Pa.cut, this]
theorem wtN_set {w : World} {a : Option Addr} {g q i : Nat} {l : List Int} {u : Value} (h : Hr.Wt w a g l) (hne : q ≠ g) : Hr.Wt (w.setCell ⟨q, i, none⟩ u) a g l :=
  ⟨h.head, fun j hj => (World.cell?_setCell_other _ _ _ _ (by intro e; injection e with e1 e2; exact hne e1)).trans (h.cell j hj), fun j hj => by simpa using h.free j hj, h.size⟩
theorem num6 (g : Nat) (a : Option Addr) (b off cap : Nat) (l : List Int) (p : Nat) (w : World) (k : Rdr w g a cap l p) (h : Rd w a b off l) (hp : p ≤ 100000) :
    Calls Try.prog 160 #[.pointer (some ⟨g, 0, none⟩), .int .i64 6] w fun e w' => e = .returned (.int .i64 (rdn l p 6)) ∧ Rdr w' g a cap l (p + 6) ∧ Only g w w' := num_any g a b off cap l p 6 w k h hp (by omega) (by omega)

set_option maxHeartbeats 8000000 in
theorem match_any (g : Nat) (a : Option Addr) (b off cap : Nat) (l : List Int) (p : Nat) (w : World) (k : Rdr w g a cap l p) (h : Rd w a b off l) (hne : l.length = 0 ∨ b ≠ g) (hp : p ≤ 1000) :
    Calls Try.prog 161 #[.pointer (some ⟨g, 0, none⟩)] w fun e w' => (∃ aV gV cV aM gM cM, e = .returned (.agg #[.slice aV 8 cV, .slice aM 8 cM]) ∧ Hr.Wt w' aV gV (Pm.lst (rV l p)) ∧ Hr.Wt w' aM gM (Pm.lst (rM l p)) ∧ w.heap.size ≤ gV ∧ w.heap.size ≤ gM ∧ gV ≠ gM) ∧ Rdr w' g a cap l (p + 96) ∧ Only g w w' := by
  have hg : g < w.heap.size := blk_lt k
  obtain ⟨W0, hW0⟩ : ∃ W0, W0 = (w.alloc (.cells #[.slice none 0 0, .slice none 0 0] 25)).alloc (.cells #[.int .i64 0, .int .i64 0, .int .i64 0, .int .i64 0, .int .i64 0, .int .i64 0, .int .i64 0, .int .i64 0, .int .i64 0, .int .i64 0, .int .i64 0, .int .i64 0, .int .i64 0, .int .i64 0, .int .i64 0, .int .i64 0] 142) := ⟨_, rfl⟩
  have hA : Pa.Has W0 (w.heap.size + 1) Pa.nul Pa.nul := by subst hW0; exact Pa.has_zero (by simp)
  have kR : W0.heap[w.heap.size]? = some (.cells #[.slice none 0 0, .slice none 0 0] 25 (0, 0)) := by subst hW0; rw [at_old (by simp), at_new rfl]
  have kG : Rdr W0 g a cap l p := by subst hW0; unfold Rdr at k ⊢; rw [at_old (by simp; omega), at_old hg]; exact k
  have on0 : Only g w W0 := by subst hW0; exact Dr.only_alloc (Dr.only_alloc (Only.refl _ _) _) _
  have HRD : Hid (Rd w a b off l) := h
  obtain ⟨A, hAe⟩ : ∃ A, A = w.heap.size + 1 := ⟨_, rfl⟩
  have nA : w.heap.size < A ∧ g ≠ A := by omega
  clear k h
  go_enter Try.func161, Try.ntmps161
  go_wp2
  rw [← hW0]
  rw [← hAe] at hA ⊢
  clear hW0 hAe
  go_loopw [5] (fun i wr => ∃ j : Nat, j ≤ 8 ∧ i = .int .i64 j ∧ Rdr wr g a cap l (p + 12 * j) ∧ Pa.Has wr A (Pa.cut (rV l p) Pa.nul j) (Pa.cut (rM l p) Pa.nul j) ∧ wr.heap[w.heap.size]? = some (.cells #[.slice none 0 0, .slice none 0 0] 25 (0, 0)) ∧ Only g w wr) (fun i _ => 8 - (intOf i).toNat)
  case atStart => exact ⟨0, by omega, rfl, kG, hA.cast (by funext i; simp [Pa.cut]) (by funext i; simp [Pa.cut]), kR, on0⟩
  case round =>
    obtain ⟨j, hj, rfl, kj, ha, qR, on⟩ := hrel
    clear kG hA kR on0
    by_cases hlt : j < 8
    · have hjz : (j : Int) < 8 := by omega
      have e1 : rdn l (p + 12 * j) 6 = rV l p j := rfl
      have e2 : rdn l (p + 12 * j + 6) 6 = rM l p j := rfl
      have hc1 := num6 g a b off cap l (p + 12 * j) wr kj (rd_only on HRD.out hne) (by omega)
      rw [e1] at hc1
      have hc2 := fun W (k2 : Rdr W g a cap l (p + 12 * j + 6)) (h2 : Rd W a b off l) => num6 g a b off cap l (p + 12 * j + 6) W k2 h2 (by omega)
      simp only [e2] at hc2
      have HV : Hid (Pa.upd (Pa.cut (rV l p) Pa.nul j) j (rV l p j) = Pa.cut (rV l p) Pa.nul (j + 1)) := Pa.upd_cut _ _ _
      have HM : Hid (Pa.upd (Pa.cut (rM l p) Pa.nul j) j (rM l p j) = Pa.cut (rM l p) Pa.nul (j + 1)) := Pa.upd_cut _ _ _
      generalize Pa.cut (rV l p) Pa.nul j = cv at *
      generalize Pa.cut (rM l p) Pa.nul j = cm at *
      have KE : Hid (p + 12 * (j + 1) = p + 12 * j + 6 + 6) := (by omega : p + 12 * (j + 1) = p + 12 * j + 6 + 6)
      clear e1 e2
      generalize rV l p j = xv at *
      generalize rM l p j = xm at *
      have sw := on.size
      have zA := ha.lt
      have t1 : True := trivial
      go_wp2_with (first
        | (go_at_call 160; clear t1; refine hc1.mono ?_; rintro e w1 ⟨rfl, k1, o1⟩; have ha1 : Pa.Has w1 A cv cm := (o1.block _ zA (by simp; omega)).trans ha; have qR1 := (o1.block _ (by omega) (by simp; omega)).trans qR; replace on := onlyT2 on o1; have cV := ha1.v hlt; have fV := ha1.free; have ha2 := ha1.set_v hlt xv; have on2 := Dr.only_set (p := A) (o := j * 2) (u := .int .i64 xv) on (by omega); have kS : Rdr (w1.setCell ⟨A, j * 2, none⟩ (.int .i64 xv)) g a cap l (p + 12 * j + 6) := Pm.blk_set k1 (by simp; omega); have hc3 := hc2 _ kS (rd_only on2 HRD.out hne); have qR2 := blk_other (g' := A) (i := j * 2) (u := .int .i64 xv) qR1 (by omega); clear o1 hc1 hc2; have t2 : True := trivial)
        | (go_at_call 160; clear t2; refine hc3.mono ?_; rintro e w3 ⟨rfl, k3, o3⟩; have ha3 : Pa.Has w3 A _ _ := (o3.block _ ha2.lt (by simp; omega)).trans ha2; have qR3 := (o3.block _ (blk_lt qR2) (by simp; omega)).trans qR2; have on3 := onlyT2 on2 o3; have cM := ha3.m hlt; have fM := ha3.free; have ha4 := ha3.set_m hlt xm; have on4 := Dr.only_set (p := A) (o := j * 2 + 1) (u := .int .i64 xm) on3 (by omega); have k4 : Rdr (w3.setCell ⟨A, j * 2 + 1, none⟩ (.int .i64 xm)) g a cap l (p + 12 * j + 6 + 6) := Pm.blk_set k3 (by simp; omega); have qR4 := blk_other (g' := A) (i := j * 2 + 1) (u := .int .i64 xm) qR3 (by omega)))
      go_roundw
      case rel => exact ⟨j + 1, by omega, by go_num, by rw [KE.out]; exact k4, by rw [HV.out, HM.out] at ha4; exact ha4, qR4, on4⟩
      case measure => simp [intOf]; omega
    · have he : j = 8 := by omega
      subst he
      have eV : Pm.lst (Pa.cut (rV l p) Pa.nul 8) = Pm.lst (rV l p) := lst_cut _
      have eM : Pm.lst (Pa.cut (rM l p) Pa.nul 8) = Pm.lst (rM l p) := lst_cut _
      have hm := fun W => Pm.match_any (Pa.cut (rV l p) Pa.nul 8) (Pa.cut (rM l p) Pa.nul 8) W
      rw [eV, eM] at hm
      have lV := Pm.lst_len (rV l p)
      have lM := Pm.lst_len (rM l p)
      obtain ⟨LV, hLV⟩ : ∃ LV, LV = Pm.lst (rV l p) := ⟨_, rfl⟩
      obtain ⟨LM, hLM⟩ : ∃ LM, LM = Pm.lst (rM l p) := ⟨_, rfl⟩
      rw [← hLV, ← hLM] at hm
      rw [← hLV] at lV
      rw [← hLM] at lM
      have EV : Hid (LV = Pm.lst (rV l p)) := hLV
      have EM : Hid (LM = Pm.lst (rM l p)) := hLM
      clear hLV hLM
      have HLV : Hid (LV.length = 8 ∧ LM.length = 8) := ⟨lV, lM⟩
      have sw := on.size
      have zR := blk_lt qR
      clear lV lM eV eM
      go_wp2_with (first
        | (refine Pa.load66 rfl (.tmp 3) rfl rfl ha ?_)
        | (go_at_call 146; refine (hm _).mono ?_; rintro e w5 ⟨aV, gV, cV, aM, gM, cM, rfl, wtV, wtM, zV, zM, dVM, hb⟩; have kR5 := (hb.block _ zR).trans qR; obtain ⟨c0, c1⟩ := Pm.two kR5; have fR := Bl.free kR5))
      have e8 := HLV.out
      refine bodyPost_ret (v := .agg #[.slice aV LV.length cV, .slice aM LM.length cM]) (by simp [results, Try.results161, go_sem, c0, c1]) rfl ⟨⟨aV, gV, cV, aM, gM, cM, by rw [e8.1, e8.2], ?_, ?_, by omega, by omega, dVM⟩, ?_, ?_⟩
      · rw [← EV.out]
        repeat (first | with_reducible exact wtV | refine wtN_set ?_ (by omega))
      · rw [← EM.out]
        repeat (first | with_reducible exact wtM | refine wtN_set ?_ (by omega))
      · have k5 : Rdr w5 g a cap l (p + 12 * 8) := (hb.block _ (by omega)).trans kj
        have k6 : ∀ W, Rdr W g a cap l (p + 12 * 8) → Rdr W g a cap l (p + 96) := fun W x => x
        refine k6 _ ?_
        unfold Rdr at k5 ⊢
        repeat (first | with_reducible exact k5 | refine blk_other ?_ (by omega))
      · have o5 : Only g w w5 := Sm.only_below on hb
        repeat (first | with_reducible exact o5 | refine Dr.only_set ?_ (by omega))

end Go.Proofs.Ytcbhpmgjmpbpmaa.Wa
namespace Go.Proofs.Ytcbhpmgjmpbpmaa.Wa
open Go Go.RowKit
set_option maxRecDepth 8000
set_option linter.unusedSimpArgs false
set_option linter.unusedVariables false
open Num Pl Rw Mk Un Put App Ea Pr

def rA (l : List Int) (p n : Nat) : List Yb.A3 := (List.range n).map fun i => (rdn l (p + 8 * i) 1, rdn l (p + 8 * i + 1) 1, rdn l (p + 8 * i + 2) 6)
theorem rA_len (l : List Int) (p n : Nat) : (rA l p n).length = n := by simp [rA]
theorem rA_at (l : List Int) (p n i : Nat) (h : i < n) : (rA l p n).getD i Yb.z3 = (rdn l (p + 8 * i) 1, rdn l (p + 8 * i + 1) 1, rdn l (p + 8 * i + 2) 6) := by simp [rA, List.getD, h]
theorem num1 (g : Nat) (a : Option Addr) (b off cap : Nat) (l : List Int) (p : Nat) (w : World) (k : Rdr w g a cap l p) (h : Rd w a b off l) (hp : p ≤ 100000) :
    Calls Try.prog 160 #[.pointer (some ⟨g, 0, none⟩), .int .i64 1] w fun e w' => e = .returned (.int .i64 (rdn l p 1)) ∧ Rdr w' g a cap l (p + 1) ∧ Only g w w' := num_any g a b off cap l p 1 w k h hp (by omega) (by omega)
theorem rdn_bd {l : List Int} (hy : Byt l) (p z : Nat) : 0 ≤ rdn l p z ∧ rdn l p z < (pw z : Int) := by
  unfold rdn
  split
  · exact Get.acc_bd l p hy z
  · have : 0 < pw z := by unfold pw; exact Nat.pow_pos (by omega)
    omega
theorem row_only {g q n : Nat} {w w' : World} {F : Nat → Value} {t : TypeId} (h : w.rowIs q t n F) (ho : Only g w w') (hne : q ≠ g) : w'.rowIs q t n F := h.of_block (ho.block q h.lt (by simpa using hne))

theorem fin3 {L : List Yb.A3} {j n : Nat} {x1 x2 x3 : Int} (ea : L.getD j Yb.z3 = (x1, x2, x3)) : ∀ (i : Nat), i < n → (if i = j * 3 + 2 then Value.int .i64 x3 else if i = j * 3 + 1 then Value.int .i64 x2 else if i = j * 3 then Value.int .i64 x1 else Yb.part L j i) = Yb.part L (j + 1) i := by
  intro i hi
  unfold Yb.part
  by_cases e2 : i = j * 3 + 2
  · subst e2; rw [if_pos rfl, if_pos (by omega), Yb.flat2, ea]
  · rw [if_neg e2]
    by_cases e1 : i = j * 3 + 1
    · subst e1; rw [if_pos rfl, if_pos (by omega), Yb.flat1, ea]
    · rw [if_neg e1]
      by_cases e0 : i = j * 3
      · subst e0; rw [if_pos rfl, if_pos (by omega), Yb.flat0, ea]
      · rw [if_neg e0]
        have : (i < (j + 1) * 3) = (i < j * 3) := by rw [eq_iff_iff]; omega
        simp [this]

set_option maxHeartbeats 8000000 in
theorem acts_any (g : Nat) (a : Option Addr) (b off cap : Nat) (l : List Int) (p n : Nat) (w : World) (k : Rdr w g a cap l p) (h : Rd w a b off l) (hne : l.length = 0 ∨ b ≠ g) (hp : p ≤ 1000) (hn : rdn l p 1 = (n : Int)) (hn2 : n ≤ 255) :
    Calls Try.prog 162 #[.pointer (some ⟨g, 0, none⟩)] w fun e w' => (∃ gA, e = .returned (.slice (some ⟨gA, 0, none⟩) n n) ∧ Yb.Mine w' gA (rA l (p + 1) n) ∧ w.heap.size ≤ gA) ∧ Rdr w' g a cap l (p + 1 + 8 * n) ∧ Only g w w' := by
  have hg : g < w.heap.size := blk_lt k
  have hc := num1 g a b off cap l p w k h (by omega)
  rw [hn] at hc
  have hmk := Yb.make3 n (by omega)
  have HRD : Hid (Rd w a b off l) := h
  clear k h hn
  have t1 : True := trivial
  go_enter Try.func162, Try.ntmps162
  go_wp2_with (go_at_call 160; clear t1; refine hc.mono ?_; rintro e w1 ⟨rfl, k1, o1⟩)
  have z1 := o1.size
  have kz : g < w1.heap.size := blk_lt k1
  have row0 := Yb.made3 w1 n (rA l (p + 1) n)
  have on0 := Dr.only_alloc o1 (.cells (madeCells #[.int .i64 0, .int .i64 0, .int .i64 0] (n * 3)) 133)
  have k0 : Rdr (w1.alloc (.cells (madeCells #[.int .i64 0, .int .i64 0, .int .i64 0] (n * 3)) 133)) g a cap l (p + 1) := (at_old kz).trans k1
  obtain ⟨A, hA⟩ : ∃ A, A = w1.heap.size := ⟨_, rfl⟩
  rw [← hA] at row0 ⊢
  have nA : w.heap.size ≤ A ∧ A ≠ g := by omega
  clear hA hc hmk
  go_loopw [10] (fun i wr => ∃ j : Nat, j ≤ n ∧ i = .int .i64 j ∧ Rdr wr g a cap l (p + 1 + 8 * j) ∧ wr.rowIs A 133 (n * 3) (Yb.part (rA l (p + 1) n) j) ∧ Only g w wr) (fun i _ => n - (intOf i).toNat)
  case atStart => exact ⟨0, by omega, rfl, k0, row0, on0⟩
  case round =>
    obtain ⟨j, hj, rfl, kj, row, on⟩ := hrel
    clear row0 on0 k0
    by_cases hlt : j < n
    · have hjz : (j : Int) < (n : Int) := by omega
      have ea := rA_at l (p + 1) n j hlt
      have hc1 := num1 g a b off cap l (p + 1 + 8 * j) wr kj (rd_only on HRD.out hne) (by omega)
      have hc2 := fun W (k2 : Rdr W g a cap l (p + 1 + 8 * j + 1)) (h2 : Rd W a b off l) => num1 g a b off cap l (p + 1 + 8 * j + 1) W k2 h2 (by omega)
      have hc3 := fun W (k2 : Rdr W g a cap l (p + 1 + 8 * j + 2)) (h2 : Rd W a b off l) => num6 g a b off cap l (p + 1 + 8 * j + 2) W k2 h2 (by omega)
      have KE : Hid (p + 1 + 8 * (j + 1) = p + 1 + 8 * j + 2 + 6) := (by omega : p + 1 + 8 * (j + 1) = p + 1 + 8 * j + 2 + 6)
      generalize rdn l (p + 1 + 8 * j) 1 = x1 at *
      generalize rdn l (p + 1 + 8 * j + 1) 1 = x2 at *
      generalize rdn l (p + 1 + 8 * j + 2) 6 = x3 at *
      have FIN : Hid (∀ (i : Nat), i < n * 3 → (if i = j * 3 + 2 then Value.int .i64 x3 else if i = j * 3 + 1 then Value.int .i64 x2 else if i = j * 3 then Value.int .i64 x1 else Yb.part (rA l (p + 1) n) j i) = Yb.part (rA l (p + 1) n) (j + 1) i) := fin3 ea
      clear ea
      have t2 : True := trivial
      go_wp2_with (first
        | (go_at_call 160; clear t2; refine hc1.mono ?_; rintro e w2 ⟨rfl, k2, o2⟩; have r2 := row_only row o2 nA.2; replace on := onlyT2 on o2; have c2 := r2.cell (i := j * 3) (by omega); have f2 := r2.frozen (j * 3); have r3 := r2.set (j * 3) (.int .i64 x1); have on2 := Dr.only_set (p := A) (o := j * 3) (u := .int .i64 x1) on nA.1; have k3 : Rdr (w2.setCell ⟨A, j * 3, none⟩ (.int .i64 x1)) g a cap l (p + 1 + 8 * j + 1) := Pm.blk_set k2 (Ne.symm nA.2); have hc2b := hc2 _ k3 (rd_only on2 HRD.out hne); clear o2 hc1 hc2; have t3 : True := trivial)
        | (go_at_call 160; clear t3; refine hc2b.mono ?_; rintro e w4 ⟨rfl, k4, o4⟩; have r4 := row_only r3 o4 nA.2; have on4 := onlyT2 on2 o4; have c4 := r4.cell (i := j * 3 + 1) (by omega); have f4 := r4.frozen (j * 3 + 1); have r5 := r4.set (j * 3 + 1) (.int .i64 x2); have on5 := Dr.only_set (p := A) (o := j * 3 + 1) (u := .int .i64 x2) on4 nA.1; have k5 : Rdr (w4.setCell ⟨A, j * 3 + 1, none⟩ (.int .i64 x2)) g a cap l (p + 1 + 8 * j + 2) := Pm.blk_set k4 (Ne.symm nA.2); have hc3b := hc3 _ k5 (rd_only on5 HRD.out hne); clear o4 hc2b hc3; have t4 : True := trivial)
        | (go_at_call 160; clear t4; refine hc3b.mono ?_; rintro e w6 ⟨rfl, k6, o6⟩; have r6 := row_only r5 o6 nA.2; have on6 := onlyT2 on5 o6; have c6 := r6.cell (i := j * 3 + 2) (by omega); have f6 := r6.frozen (j * 3 + 2); have r7 := r6.set (j * 3 + 2) (.int .i64 x3); have on7 := Dr.only_set (p := A) (o := j * 3 + 2) (u := .int .i64 x3) on6 nA.1; have k7 : Rdr (w6.setCell ⟨A, j * 3 + 2, none⟩ (.int .i64 x3)) g a cap l (p + 1 + 8 * j + 2 + 6) := Pm.blk_set k6 (Ne.symm nA.2)))
      go_roundw
      case rel => exact ⟨j + 1, by omega, by go_num, by rw [KE.out]; exact k7, r7.congr FIN.out, on7⟩
      case measure => simp [intOf]; omega
    · have he : j = n := by omega
      subst he
      go_wp2
      go_ret
      refine ⟨⟨A, rfl, ⟨?_, by rw [rA_len]; omega⟩, nA.1⟩, kj, on⟩
      rw [rA_len]
      exact row.congr fun i hi => by simp [Yb.part, hi]

end Go.Proofs.Ytcbhpmgjmpbpmaa.Wa
namespace Go.Proofs.Ytcbhpmgjmpbpmaa.Wa
open Go Go.RowKit
set_option maxRecDepth 8000
set_option linter.unusedSimpArgs false
set_option linter.unusedVariables false
open Num Pl Rw Mk Un Put App Ea Pr

def rH (l : List Int) (p : Nat) : Nat → Int := fun f => rdn l (p + 6 * f) 6
theorem next_any (f : Int) (X g : Nat) (a : Option Addr) (b off cap : Nat) (l : List Int) (p : Nat) (w : World) (kX : w.heap[X]? = some (.cells #[.pointer (some ⟨g, 0, none⟩)] 179 (0, 0))) (k : Rdr w g a cap l p) (h : Rd w a b off l) (hp : p ≤ 100000) :
    Calls Try.prog 164 #[.int .i64 f, .pointer (some ⟨X, 0, none⟩)] w fun e w' => e = .returned (.int .i64 (rdn l p 6)) ∧ Rdr w' g a cap l (p + 6) ∧ Only g w w' := by
  have c0 := Hh.one kX
  have hc := num6 g a b off cap l p w k h hp
  go_enter Try.func164, Try.ntmps164
  go_wp2_with (go_at_call 160; refine hc.mono ?_; rintro e w1 ⟨rfl, k1, o1⟩)
  go_ret
  exact ⟨rfl, k1, o1⟩

set_option maxHeartbeats 8000000 in
theorem head_any (X g : Nat) (a : Option Addr) (b off cap : Nat) (l : List Int) (p : Nat) (w : World) (kX : w.heap[X]? = some (.cells #[.pointer (some ⟨g, 0, none⟩)] 179 (0, 0))) (k : Rdr w g a cap l p) (h : Rd w a b off l) (hne : l.length = 0 ∨ b ≠ g) (hp : p ≤ 1000) (hX : X ≠ g) :
    Calls Try.prog 163 #[.func (.func 164) #[] #[.pointer (some ⟨X, 0, none⟩)]] w fun e w' => (∃ gH, e = .returned (.agg #[.slice (some ⟨gH, 0, none⟩) 8 8]) ∧ Hr.Mine w' gH (Pm.lst (rH l p)) ∧ w.heap.size ≤ gH) ∧ Rdr w' g a cap l (p + 48) ∧ Only g w w' := by
  have hg : g < w.heap.size := blk_lt k
  have lX := blk_lt kX
  obtain ⟨W0, hW0⟩ : ∃ W0, W0 = (w.alloc (.cells #[.slice none 0 0] 28)).alloc (.cells (madeCells #[.int .i64 0] 8) 3) := ⟨_, rfl⟩
  have hA : Pm.Half W0 (w.heap.size + 1) 0 (rH l p) := by subst hW0; exact Pm.Half.made _ (by simp)
  have kR : W0.heap[w.heap.size]? = some (.cells #[.slice none 0 0] 28 (0, 0)) := by subst hW0; rw [at_old (by simp), at_new rfl]
  have kG : Rdr W0 g a cap l p := by subst hW0; unfold Rdr at k ⊢; rw [at_old (by simp; omega), at_old hg]; exact k
  have kX0 : W0.heap[X]? = some (.cells #[.pointer (some ⟨g, 0, none⟩)] 179 (0, 0)) := by subst hW0; rw [at_old (by simp; omega), at_old lX]; exact kX
  have on0 : Only g w W0 := by subst hW0; exact Dr.only_alloc (Dr.only_alloc (Only.refl _ _) _) _
  have HRD : Hid (Rd w a b off l) := h
  have hmk := run_make_row' (P := Try.prog) 23 3 (.int .i64 0) 8 Try.underlying23 Hr.info3 rfl .i64 .i64 8 (by omega) (by omega)
  have e8 : ((8 : Nat) : Int) = 8 := rfl
  rw [e8] at hmk
  obtain ⟨A, hAe⟩ : ∃ A, A = w.heap.size + 1 := ⟨_, rfl⟩
  have nA : w.heap.size < A ∧ g ≠ A ∧ X ≠ A := by omega
  clear k h kX
  go_enter Try.func163, Try.ntmps163
  go_wp2
  clear hmk
  rw [← hW0]
  rw [← hAe] at hA ⊢
  clear hW0 hAe
  go_loopw [8, 4] (fun i _ wr => ∃ j : Nat, j ≤ 8 ∧ i = .int .i64 j ∧ Rdr wr g a cap l (p + 6 * j) ∧ Pm.Half wr A j (rH l p) ∧ wr.heap[w.heap.size]? = some (.cells #[.slice none 0 0] 28 (0, 0)) ∧ wr.heap[X]? = some (.cells #[.pointer (some ⟨g, 0, none⟩)] 179 (0, 0)) ∧ Only g w wr) (fun i _ _ => 8 - (intOf i).toNat)
  case atStart => exact ⟨0, by omega, rfl, kG, hA, kR, kX0, on0⟩
  case round =>
    obtain ⟨j, hj, rfl, kj, ha, qR, qX, on⟩ := hrel
    clear kG hA kR on0 kX0
    by_cases hlt : j < 8
    · have hjz : (j : Int) < 8 := by omega
      have e1 : rdn l (p + 6 * j) 6 = rH l p j := rfl
      have hc1 := next_any j X g a b off cap l (p + 6 * j) wr qX kj (rd_only on HRD.out hne) (by omega)
      rw [e1] at hc1
      have KE : Hid (p + 6 * (j + 1) = p + 6 * j + 6) := (by omega : p + 6 * (j + 1) = p + 6 * j + 6)
      have sw := on.size
      have zR := blk_lt qR
      have zX := blk_lt qX
      go_wp2_with (go_at_call 164; refine hc1.mono ?_; rintro e w1 ⟨rfl, k1, o1⟩; have ha1 : Pm.Half w1 A j (rH l p) := World.rowIs.of_block ha (o1.block _ ha.lt (by simp; omega)); have qR1 := (o1.block _ zR (by simp; omega)).trans qR; have qX1 := (o1.block _ zX (by simp; omega)).trans qX; replace on := onlyT2 on o1; have cV := World.rowIs.cell ha1 (i := j) (by omega); have fV := World.rowIs.frozen ha1 j; have ha2 := ha1.step; have on2 := Dr.only_set (p := A) (o := j) (u := .int .i64 (rH l p j)) on (by omega); have k2 : Rdr (w1.setCell ⟨A, j, none⟩ (.int .i64 (rH l p j))) g a cap l (p + 6 * j + 6) := Pm.blk_set k1 (by simp; omega); have qR2 := blk_other (g' := A) (i := j) (u := .int .i64 (rH l p j)) qR1 (by omega); have qX2 := blk_other (g' := A) (i := j) (u := .int .i64 (rH l p j)) qX1 (by omega); clear o1 hc1)
      go_roundw
      case rel => exact ⟨j + 1, by omega, by go_num, by rw [KE.out]; exact k2, ha2, qR2, qX2, on2⟩
      case measure => simp [intOf]; omega
    · have he : j = 8 := by omega
      subst he
      have c0 := Hh.one qR
      have fR := Bl.free qR
      have zA := ha.lt
      go_wp2
      refine bodyPost_ret (v := .agg #[.slice (some ⟨A, 0, none⟩) 8 8]) (by simp [results, Try.results163, go_sem, c0]) rfl ⟨⟨A, rfl, ?_, by omega⟩, ?_, ?_⟩
      · exact (Hr.Mine.set ha.mine (by simp; omega))
      · exact Pm.blk_set kj (by simp; omega)
      · exact Dr.only_set on (by omega)

end Go.Proofs.Ytcbhpmgjmpbpmaa.Wa
namespace Go.Proofs.Ytcbhpmgjmpbpmaa.Wa
open Go Go.RowKit
set_option maxRecDepth 8000
set_option linter.unusedSimpArgs false
set_option linter.unusedVariables false
open Num Pl Rw Mk Un Put App Ea Pr

theorem num4 (g : Nat) (a : Option Addr) (b off cap : Nat) (l : List Int) (p : Nat) (w : World) (k : Rdr w g a cap l p) (h : Rd w a b off l) (hp : p ≤ 100000) :
    Calls Try.prog 160 #[.pointer (some ⟨g, 0, none⟩), .int .i64 4] w fun e w' => e = .returned (.int .i64 (rdn l p 4)) ∧ Rdr w' g a cap l (p + 4) ∧ Only g w w' := num_any g a b off cap l p 4 w k h hp (by omega) (by omega)
theorem num2 (g : Nat) (a : Option Addr) (b off cap : Nat) (l : List Int) (p : Nat) (w : World) (k : Rdr w g a cap l p) (h : Rd w a b off l) (hp : p ≤ 100000) :
    Calls Try.prog 160 #[.pointer (some ⟨g, 0, none⟩), .int .i64 2] w fun e w' => e = .returned (.int .i64 (rdn l p 2)) ∧ Rdr w' g a cap l (p + 2) ∧ Only g w w' := num_any g a b off cap l p 2 w k h hp (by omega) (by omega)
/-- What the reader keeps: its box, the answer's box, the message's box, the cursor. -/
structure St (w : World) (g X R T : Nat) (a : Option Addr) (cap : Nat) (l : List Int) (p : Nat) (cs : Array Value) (w0 : World) : Prop where
  kX : w.heap[X]? = some (.cells #[.pointer (some ⟨g, 0, none⟩)] 179 (0, 0))
  kR : w.heap[R]? = some (.cells #[.int .i64 0, .int .i64 0, .int .i64 0, .int .i64 0, .int .i64 0, .slice none 0 0, .slice none 0 0, .slice none 0 0, .bool false, .slice none 0 0] 30 (0, 0))
  kT : w.heap[T]? = some (.cells cs 30 (0, 0))
  kG : Rdr w g a cap l p
  on : Only g w0 w
  ne : X ≠ g ∧ R ≠ g ∧ T ≠ g ∧ X ≠ T ∧ R ≠ T ∧ w0.heap.size ≤ X ∧ w0.heap.size ≤ R ∧ w0.heap.size ≤ T
theorem St.only {w w' : World} {g X R T : Nat} {a : Option Addr} {cap : Nat} {l : List Int} {p p' : Nat} {cs : Array Value} {w0 : World} (s : St w g X R T a cap l p cs w0) (o : Only g w w') (k : Rdr w' g a cap l p') : St w' g X R T a cap l p' cs w0 :=
  ⟨(o.block _ (blk_lt s.kX) (by simpa using s.ne.1)).trans s.kX, (o.block _ (blk_lt s.kR) (by simpa using s.ne.2.1)).trans s.kR, (o.block _ (blk_lt s.kT) (by simpa using s.ne.2.2.1)).trans s.kT, k, Dr.only_trans s.on o, s.ne⟩
theorem St.set {w : World} {g X R T : Nat} {a : Option Addr} {cap : Nat} {l : List Int} {p : Nat} {cs : Array Value} {w0 : World} (s : St w g X R T a cap l p cs w0) (i : Nat) (v : Value) : St (w.setCell ⟨T, i, none⟩ v) g X R T a cap l p (cs.setIfInBounds i v) w0 :=
  ⟨blk_other s.kX (Ne.symm s.ne.2.2.2.1), blk_other s.kR (Ne.symm s.ne.2.2.2.2.1), blk_same s.kT, Pm.blk_set s.kG (Ne.symm s.ne.2.2.1), Dr.only_set s.on s.ne.2.2.2.2.2.2.2, s.ne⟩
theorem St.rd {w : World} {g X R T : Nat} {a : Option Addr} {cap : Nat} {l : List Int} {p b off : Nat} {cs : Array Value} {w0 : World} (s : St w g X R T a cap l p cs w0) (h : Rd w0 a b off l) (hne : l.length = 0 ∨ b ≠ g) : Rd w a b off l := rd_only s.on h hne

end Go.Proofs.Ytcbhpmgjmpbpmaa.Wa
namespace Go.Proofs.Ytcbhpmgjmpbpmaa.Wa
open Go Go.RowKit
set_option maxRecDepth 8000
set_option linter.unusedSimpArgs false
set_option linter.unusedVariables false
open Num Pl Rw Mk Un Put App Ea Pr

theorem wide0 : Po.Wide [] := fun k => by simp [Pm.I64]
theorem wide_fun {v : Nat → Int} (h : ∀ k, 0 ≤ v k ∧ v k < 281474976710656) : Po.Wide (Pm.lst v) := fun k => by
  have := h k
  by_cases hk : k < 8
  · rw [Pm.lst_at _ hk]; unfold Pm.I64; omega
  · have e : (Pm.lst v).getD k 0 = 0 := by simp [Pm.lst, List.getD, hk]
    rw [e]; unfold Pm.I64; omega
theorem rdn6 {l : List Int} (hy : Byt l) (p : Nat) : 0 ≤ rdn l p 6 ∧ rdn l p 6 < 281474976710656 := by
  have h := rdn_bd hy p 6
  have e : ((pw 6 : Nat) : Int) = 281474976710656 := by decide
  rw [e] at h
  exact h
theorem wide_v {l : List Int} {p : Nat} (hy : Byt l) : Po.Wide (Pm.lst (rV l p)) := wide_fun fun k => rdn6 hy _
theorem wide_m {l : List Int} {p : Nat} (hy : Byt l) : Po.Wide (Pm.lst (rM l p)) := wide_fun fun k => rdn6 hy _
theorem wide_lst {l : List Int} {p : Nat} (hy : Byt l) : Po.Wide (Pm.lst (rH l p)) := fun k => by
  have h := rdn_bd hy (p + 6 * k) 6
  have e : ((pw 6 : Nat) : Int) = 281474976710656 := by decide
  rw [e] at h
  by_cases hk : k < 8
  · rw [Pm.lst_at _ hk]; unfold Pm.I64 rH; omega
  · have : (Pm.lst (rH l p)).getD k 0 = 0 := by simp [Pm.lst, List.getD, hk]
    rw [this]; unfold Pm.I64; omega
/-- A message is handed back, in memory of the call's own. -/
def ResR (w : World) (g : Nat) (x : Ga.Said) (e : Ending) (w' : World) : Prop :=
  ∃ f : Ga.Msg, e = .returned (.agg f.vals) ∧ f.said = x ∧ f.Ok w' ∧ Jm.WtM w' f ∧ Jm.Ap4 f ∧ (∀ y, Jm.Use4 f y → w.heap.size ≤ y) ∧ Only g w w'

set_option maxHeartbeats 16000000 in
theorem msg3 (g : Nat) (a : Option Addr) (b off cap p0 : Nat) (l : List Int) (w : World) (k : Rdr w g a cap l p0) (h : Rd w a b off l) (hne : l.length = 0 ∨ b ≠ g) (hk : rdn l 1 1 = 3) :
    Calls Try.prog 70 #[.pointer (some ⟨g, 0, none⟩)] w (ResR w g (3, rdn l 4 4, rdn l 8 4, (rdn l 12 4, 0, [], [], [], 0), false, [])) := by
  have hg : g < w.heap.size := blk_lt k
  have HKD : Hid (rdn l 1 1 = 3) := hk
  clear hk
  have zV : (w.setCell ⟨g, 1, none⟩ (.int .i64 4)).heap.size = w.heap.size := by simp
  have kV : (w.setCell ⟨g, 1, none⟩ (.int .i64 4)).heap[g]? = some (.cells #[.slice a l.length cap, .int .i64 4] 109 (0, 0)) := blk_same k
  have onV : Only g w (w.setCell ⟨g, 1, none⟩ (.int .i64 4)) := (Only.refl g w).set _
  obtain ⟨W1, hW1⟩ : ∃ W1, W1 = ((w.setCell ⟨g, 1, none⟩ (.int .i64 4)).alloc (.cells #[.pointer (some ⟨g, 0, none⟩)] 179)).alloc (.cells #[.int .i64 0, .int .i64 0, .int .i64 0, .int .i64 0, .int .i64 0, .slice none 0 0, .slice none 0 0, .slice none 0 0, .bool false, .slice none 0 0] 30) := ⟨_, rfl⟩
  have z1 : W1.heap.size = w.heap.size + 1 + 1 := by subst hW1; simp
  have kX1 : W1.heap[w.heap.size]? = some (.cells #[.pointer (some ⟨g, 0, none⟩)] 179 (0, 0)) := by subst hW1; rw [at_old (by simp)]; exact at_new zV.symm
  have kR1 : W1.heap[w.heap.size + 1]? = some (.cells #[.int .i64 0, .int .i64 0, .int .i64 0, .int .i64 0, .int .i64 0, .slice none 0 0, .slice none 0 0, .slice none 0 0, .bool false, .slice none 0 0] 30 (0, 0)) := by subst hW1; exact at_new (by simp)
  have kG1 : Rdr W1 g a cap l 4 := by subst hW1; unfold Rdr; rw [at_old (by simp; omega), at_old (by simp; omega)]; exact kV
  have on1 : Only g w W1 := by subst hW1; exact Dr.only_alloc (Dr.only_alloc onV _) _
  have rd1 : Rd W1 a b off l := rd_only on1 h hne
  obtain ⟨W2, hW2⟩ : ∃ W2, W2 = W1.alloc (.cells #[.int .i64 3, .int .i64 0, .int .i64 0, .int .i64 0, .int .i64 0, .slice none 0 0, .slice none 0 0, .slice none 0 0, .bool false, .slice none 0 0] 30) := ⟨_, rfl⟩
  have s2 : St W2 g w.heap.size (w.heap.size + 1) (w.heap.size + 1 + 1) a cap l 4 #[.int .i64 3, .int .i64 0, .int .i64 0, .int .i64 0, .int .i64 0, .slice none 0 0, .slice none 0 0, .slice none 0 0, .bool false, .slice none 0 0] w := by
    subst hW2
    exact ⟨(at_old (by omega)).trans kX1, (at_old (by omega)).trans kR1, at_new (by omega), (at_old (by omega)).trans kG1, Dr.only_alloc on1 _, by omega⟩
  have HRD : Hid (Rd w a b off l) := h
  have t1 : True := trivial
  obtain ⟨g0, g1⟩ := Pm.two k
  have gf := Bl.free k
  go_enter Try.func70, Try.ntmps70
  go_upto_region 2 with fail
  rw [← hW1]
  clear g0 g1 gf hW1
  obtain ⟨g0, g1⟩ := Pm.two kG1
  have x0 := Hh.one kX1
  go_wp2_with (first
    | (go_at_call 159; refine (numAt_any a b off cap l 1 1 W1 rd1 (by omega) (by omega)).mono ?_; rw [HKD.out]; rintro e wz ⟨rfl, hz⟩; replace hz := hz.symm; subst hz; have lX := blk_lt kX1; clear g0 g1)
    | (go_at_call 160; clear t1; rw [← hW2]; clear hW2; refine (num4 g a b off cap l (4) _ s2.kG (s2.rd HRD.out hne) (by omega)).mono ?_; rintro e w3 ⟨rfl, k3, o3⟩; have s3 : St w3 g w.heap.size (w.heap.size + 1) (w.heap.size + 1 + 1) a cap l (4 + 4) #[.int .i64 3, .int .i64 0, .int .i64 0, .int .i64 0, .int .i64 0, .slice none 0 0, .slice none 0 0, .slice none 0 0, .bool false, .slice none 0 0] w := s2.only o3 k3; clear x0; obtain ⟨y0, y1, y2, y3, y4, y5, y6, y7, y8, y9⟩ := Ga.ten s3.kT; have fT := Bl.free s3.kT; have x0 := Hh.one s3.kX; have s3a : St (w3.setCell ⟨w.heap.size + 1 + 1, 1, none⟩ (.int .i64 (rdn l (4) 4))) g w.heap.size (w.heap.size + 1) (w.heap.size + 1 + 1) a cap l (4 + 4) #[.int .i64 3, .int .i64 (rdn l (4) 4), .int .i64 0, .int .i64 0, .int .i64 0, .slice none 0 0, .slice none 0 0, .slice none 0 0, .bool false, .slice none 0 0] w := s3.set 1 (.int .i64 (rdn l (4) 4)); have t2 : True := trivial)
    | (go_at_call 160; clear t2; refine (num4 g a b off cap l (4 + 4) _ s3a.kG (s3a.rd HRD.out hne) (by omega)).mono ?_; rintro e w4 ⟨rfl, k4, o4⟩; have s4 : St w4 g w.heap.size (w.heap.size + 1) (w.heap.size + 1 + 1) a cap l (4 + 4 + 4) #[.int .i64 3, .int .i64 (rdn l (4) 4), .int .i64 0, .int .i64 0, .int .i64 0, .slice none 0 0, .slice none 0 0, .slice none 0 0, .bool false, .slice none 0 0] w := s3a.only o4 k4; clear y0 y1 y2 y3 y4 y5 y6 y7 y8 y9 x0 fT; obtain ⟨y0, y1, y2, y3, y4, y5, y6, y7, y8, y9⟩ := Ga.ten s4.kT; have fT := Bl.free s4.kT; have x0 := Hh.one s4.kX; have s4a : St (w4.setCell ⟨w.heap.size + 1 + 1, 2, none⟩ (.int .i64 (rdn l (4 + 4) 4))) g w.heap.size (w.heap.size + 1) (w.heap.size + 1 + 1) a cap l (4 + 4 + 4) #[.int .i64 3, .int .i64 (rdn l (4) 4), .int .i64 (rdn l (4 + 4) 4), .int .i64 0, .int .i64 0, .slice none 0 0, .slice none 0 0, .slice none 0 0, .bool false, .slice none 0 0] w := s4.set 2 (.int .i64 (rdn l (4 + 4) 4)); have t3 : True := trivial)
    | (go_at_call 160; clear t3; refine (num4 g a b off cap l (4 + 4 + 4) _ s4a.kG (s4a.rd HRD.out hne) (by omega)).mono ?_; rintro e w5 ⟨rfl, k5, o5⟩; have s5 : St w5 g w.heap.size (w.heap.size + 1) (w.heap.size + 1 + 1) a cap l (4 + 4 + 4 + 4) #[.int .i64 3, .int .i64 (rdn l (4) 4), .int .i64 (rdn l (4 + 4) 4), .int .i64 0, .int .i64 0, .slice none 0 0, .slice none 0 0, .slice none 0 0, .bool false, .slice none 0 0] w := s4a.only o5 k5; clear y0 y1 y2 y3 y4 y5 y6 y7 y8 y9 x0 fT; obtain ⟨y0, y1, y2, y3, y4, y5, y6, y7, y8, y9⟩ := Ga.ten s5.kT; have fT := Bl.free s5.kT; have x0 := Hh.one s5.kX; have s5a : St (w5.setCell ⟨w.heap.size + 1 + 1, 3, none⟩ (.int .i64 (rdn l (4 + 4 + 4) 4))) g w.heap.size (w.heap.size + 1) (w.heap.size + 1 + 1) a cap l (4 + 4 + 4 + 4) #[.int .i64 3, .int .i64 (rdn l (4) 4), .int .i64 (rdn l (4 + 4) 4), .int .i64 (rdn l (4 + 4 + 4) 4), .int .i64 0, .slice none 0 0, .slice none 0 0, .slice none 0 0, .bool false, .slice none 0 0] w := s5.set 3 (.int .i64 (rdn l (4 + 4 + 4) 4)); obtain ⟨r0, r1, r2, r3, r4, r5, r6, r7, r8, r9⟩ := Ga.ten s5.kR; have fR := Bl.free s5.kR; have t4 : True := trivial))
  have nn := s2.ne
  refine bodyPost_ret (v := .agg #[.int .i64 3, .int .i64 (rdn l (4) 4), .int .i64 (rdn l (4 + 4) 4), .int .i64 (rdn l (4 + 4 + 4) 4), .int .i64 0, .slice none 0 0, .slice none 0 0, .slice none 0 0, .bool false, .slice none 0 0]) (by simp [results, Try.results70, go_sem, r0, r1, r2, r3, r4, r5, r6, r7, r8, r9]) rfl ⟨⟨3, rdn l 4 4, rdn l 8 4, ⟨rdn l 12 4, 0, [], [], [], 0, none, w.heap.size, 0, 0, none, w.heap.size + 1, 0, 0, none, w.heap.size + 2, 0, 0⟩, false, [], none, w.heap.size + 3, 0, 0⟩, ?_, ?_, ?_, ?_, ?_, ?_, ?_⟩
  · rfl
  · rfl
  · exact ⟨⟨⟨fun h => by simp at h, fun i h => by simp at h, by simp⟩, ⟨fun h => by simp at h, fun i h => by simp at h, by simp⟩, ⟨fun h => by simp at h, fun i h => by simp at h, by simp⟩, wide0, wide0⟩, rfl, ⟨fun h => by simp at h, fun i h => by simp at h, by simp⟩, wide0⟩
  · exact ⟨⟨fun h => by simp at h, fun i h => by simp at h, fun i h => by simp at h, by simp⟩, ⟨fun h => by simp at h, fun i h => by simp at h, fun i h => by simp at h, by simp⟩, ⟨fun h => by simp at h, fun i h => by simp at h, fun i h => by simp at h, by simp⟩, ⟨fun h => by simp at h, fun i h => by simp at h, fun i h => by simp at h, by simp⟩⟩
  · exact ⟨by simp only; omega, by simp only; omega, by simp only; omega, by simp only; omega, by simp only; omega, by simp only; omega⟩
  · intro y hy
    rcases hy with rfl | rfl | rfl | rfl <;> ((try simp only); omega)
  · have o := s5.on
    repeat (first | with_reducible exact o | refine Dr.only_set ?_ (by omega))

set_option maxHeartbeats 16000000 in
theorem msg0 (g : Nat) (a : Option Addr) (b off cap p0 : Nat) (l : List Int) (w : World) (k : Rdr w g a cap l p0) (h : Rd w a b off l) (hne : l.length = 0 ∨ b ≠ g) (hk : ¬ rdn l 1 1 = 2 ∧ ¬ rdn l 1 1 = 3 ∧ ¬ rdn l 1 1 = 5) :
    Calls Try.prog 70 #[.pointer (some ⟨g, 0, none⟩)] w (ResR w g (rdn l 1 1, rdn l 4 4, rdn l 8 4, (0, 0, [], [], [], 0), false, [])) := by
  have hg : g < w.heap.size := blk_lt k
  obtain ⟨kd, HKD0⟩ : ∃ kd, rdn l 1 1 = kd := ⟨_, rfl⟩
  have HKD : Hid (rdn l 1 1 = kd) := HKD0
  rw [HKD0] at hk
  obtain ⟨n2, n3, n5⟩ := hk
  have b2 : (kd == 2) = false := by simp [n2]
  have b3 : (kd == 3) = false := by simp [n3]
  have b5 : (kd == 5) = false := by simp [n5]
  have zV : (w.setCell ⟨g, 1, none⟩ (.int .i64 4)).heap.size = w.heap.size := by simp
  have kV : (w.setCell ⟨g, 1, none⟩ (.int .i64 4)).heap[g]? = some (.cells #[.slice a l.length cap, .int .i64 4] 109 (0, 0)) := blk_same k
  have onV : Only g w (w.setCell ⟨g, 1, none⟩ (.int .i64 4)) := (Only.refl g w).set _
  obtain ⟨W1, hW1⟩ : ∃ W1, W1 = ((w.setCell ⟨g, 1, none⟩ (.int .i64 4)).alloc (.cells #[.pointer (some ⟨g, 0, none⟩)] 179)).alloc (.cells #[.int .i64 0, .int .i64 0, .int .i64 0, .int .i64 0, .int .i64 0, .slice none 0 0, .slice none 0 0, .slice none 0 0, .bool false, .slice none 0 0] 30) := ⟨_, rfl⟩
  have z1 : W1.heap.size = w.heap.size + 1 + 1 := by subst hW1; simp
  have kX1 : W1.heap[w.heap.size]? = some (.cells #[.pointer (some ⟨g, 0, none⟩)] 179 (0, 0)) := by subst hW1; rw [at_old (by simp)]; exact at_new zV.symm
  have kR1 : W1.heap[w.heap.size + 1]? = some (.cells #[.int .i64 0, .int .i64 0, .int .i64 0, .int .i64 0, .int .i64 0, .slice none 0 0, .slice none 0 0, .slice none 0 0, .bool false, .slice none 0 0] 30 (0, 0)) := by subst hW1; exact at_new (by simp)
  have kG1 : Rdr W1 g a cap l 4 := by subst hW1; unfold Rdr; rw [at_old (by simp; omega), at_old (by simp; omega)]; exact kV
  have on1 : Only g w W1 := by subst hW1; exact Dr.only_alloc (Dr.only_alloc onV _) _
  have rd1 : Rd W1 a b off l := rd_only on1 h hne
  obtain ⟨W2, hW2⟩ : ∃ W2, W2 = W1.alloc (.cells #[.int .i64 kd, .int .i64 0, .int .i64 0, .int .i64 0, .int .i64 0, .slice none 0 0, .slice none 0 0, .slice none 0 0, .bool false, .slice none 0 0] 30) := ⟨_, rfl⟩
  have s2 : St W2 g w.heap.size (w.heap.size + 1) (w.heap.size + 1 + 1) a cap l 4 #[.int .i64 kd, .int .i64 0, .int .i64 0, .int .i64 0, .int .i64 0, .slice none 0 0, .slice none 0 0, .slice none 0 0, .bool false, .slice none 0 0] w := by
    subst hW2
    exact ⟨(at_old (by omega)).trans kX1, (at_old (by omega)).trans kR1, at_new (by omega), (at_old (by omega)).trans kG1, Dr.only_alloc on1 _, by omega⟩
  have HRD : Hid (Rd w a b off l) := h
  have t1 : True := trivial
  obtain ⟨g0, g1⟩ := Pm.two k
  have gf := Bl.free k
  go_enter Try.func70, Try.ntmps70
  go_upto_region 2 with fail
  rw [← hW1]
  clear g0 g1 gf hW1
  obtain ⟨g0, g1⟩ := Pm.two kG1
  have x0 := Hh.one kX1
  go_wp2_with (first
    | (go_at_call 159; refine (numAt_any a b off cap l 1 1 W1 rd1 (by omega) (by omega)).mono ?_; rw [HKD.out]; rintro e wz ⟨rfl, hz⟩; replace hz := hz.symm; subst hz; have lX := blk_lt kX1; clear g0 g1)
    | (go_at_call 160; clear t1; rw [← hW2]; clear hW2; refine (num4 g a b off cap l (4) _ s2.kG (s2.rd HRD.out hne) (by omega)).mono ?_; rintro e w3 ⟨rfl, k3, o3⟩; have s3 : St w3 g w.heap.size (w.heap.size + 1) (w.heap.size + 1 + 1) a cap l (4 + 4) #[.int .i64 kd, .int .i64 0, .int .i64 0, .int .i64 0, .int .i64 0, .slice none 0 0, .slice none 0 0, .slice none 0 0, .bool false, .slice none 0 0] w := s2.only o3 k3; clear x0; obtain ⟨y0, y1, y2, y3, y4, y5, y6, y7, y8, y9⟩ := Ga.ten s3.kT; have fT := Bl.free s3.kT; have x0 := Hh.one s3.kX; have s3a : St (w3.setCell ⟨w.heap.size + 1 + 1, 1, none⟩ (.int .i64 (rdn l (4) 4))) g w.heap.size (w.heap.size + 1) (w.heap.size + 1 + 1) a cap l (4 + 4) #[.int .i64 kd, .int .i64 (rdn l (4) 4), .int .i64 0, .int .i64 0, .int .i64 0, .slice none 0 0, .slice none 0 0, .slice none 0 0, .bool false, .slice none 0 0] w := s3.set 1 (.int .i64 (rdn l (4) 4)); have t2 : True := trivial)
    | (go_at_call 160; clear t2; refine (num4 g a b off cap l (4 + 4) _ s3a.kG (s3a.rd HRD.out hne) (by omega)).mono ?_; rintro e w4 ⟨rfl, k4, o4⟩; have s4 : St w4 g w.heap.size (w.heap.size + 1) (w.heap.size + 1 + 1) a cap l (4 + 4 + 4) #[.int .i64 kd, .int .i64 (rdn l (4) 4), .int .i64 0, .int .i64 0, .int .i64 0, .slice none 0 0, .slice none 0 0, .slice none 0 0, .bool false, .slice none 0 0] w := s3a.only o4 k4; clear y0 y1 y2 y3 y4 y5 y6 y7 y8 y9 x0 fT; obtain ⟨y0, y1, y2, y3, y4, y5, y6, y7, y8, y9⟩ := Ga.ten s4.kT; have fT := Bl.free s4.kT; have x0 := Hh.one s4.kX; have s4a : St (w4.setCell ⟨w.heap.size + 1 + 1, 2, none⟩ (.int .i64 (rdn l (4 + 4) 4))) g w.heap.size (w.heap.size + 1) (w.heap.size + 1 + 1) a cap l (4 + 4 + 4) #[.int .i64 kd, .int .i64 (rdn l (4) 4), .int .i64 (rdn l (4 + 4) 4), .int .i64 0, .int .i64 0, .slice none 0 0, .slice none 0 0, .slice none 0 0, .bool false, .slice none 0 0] w := s4.set 2 (.int .i64 (rdn l (4 + 4) 4)); obtain ⟨r0, r1, r2, r3, r4, r5, r6, r7, r8, r9⟩ := Ga.ten s4.kR; have fR := Bl.free s4.kR; have t3 : True := trivial))
  have nn := s2.ne
  refine bodyPost_ret (v := .agg #[.int .i64 kd, .int .i64 (rdn l (4) 4), .int .i64 (rdn l (4 + 4) 4), .int .i64 0, .int .i64 0, .slice none 0 0, .slice none 0 0, .slice none 0 0, .bool false, .slice none 0 0]) (by simp [results, Try.results70, go_sem, r0, r1, r2, r3, r4, r5, r6, r7, r8, r9]) rfl ⟨⟨rdn l 1 1, rdn l 4 4, rdn l 8 4, ⟨0, 0, [], [], [], 0, none, w.heap.size, 0, 0, none, w.heap.size + 1, 0, 0, none, w.heap.size + 2, 0, 0⟩, false, [], none, w.heap.size + 3, 0, 0⟩, ?_, ?_, ?_, ?_, ?_, ?_, ?_⟩
  · rw [HKD.out]; rfl
  · rfl
  · exact ⟨⟨⟨fun h => by simp at h, fun i h => by simp at h, by simp⟩, ⟨fun h => by simp at h, fun i h => by simp at h, by simp⟩, ⟨fun h => by simp at h, fun i h => by simp at h, by simp⟩, wide0, wide0⟩, rfl, ⟨fun h => by simp at h, fun i h => by simp at h, by simp⟩, wide0⟩
  · exact ⟨⟨fun h => by simp at h, fun i h => by simp at h, fun i h => by simp at h, by simp⟩, ⟨fun h => by simp at h, fun i h => by simp at h, fun i h => by simp at h, by simp⟩, ⟨fun h => by simp at h, fun i h => by simp at h, fun i h => by simp at h, by simp⟩, ⟨fun h => by simp at h, fun i h => by simp at h, fun i h => by simp at h, by simp⟩⟩
  · exact ⟨by simp only; omega, by simp only; omega, by simp only; omega, by simp only; omega, by simp only; omega, by simp only; omega⟩
  · intro y hy
    rcases hy with rfl | rfl | rfl | rfl <;> ((try simp only); omega)
  · have o := s4.on
    repeat (first | with_reducible exact o | refine Dr.only_set ?_ (by omega))

set_option maxHeartbeats 16000000 in
theorem msg2 (g : Nat) (a : Option Addr) (b off cap p0 : Nat) (l : List Int) (w : World) (k : Rdr w g a cap l p0) (h : Rd w a b off l) (hne : l.length = 0 ∨ b ≠ g) (hk : rdn l 1 1 = 2) (n : Nat) (hn : rdn l 114 1 = (n : Int)) (hn2 : n ≤ 255) :
    Calls Try.prog 70 #[.pointer (some ⟨g, 0, none⟩)] w (ResR w g (2, rdn l 4 4, rdn l 8 4, (rdn l 12 4, rdn l 16 2, Pm.lst (rV l 18), Pm.lst (rM l 18), rA l 115 n, 0), false, [])) := by
  have hg : g < w.heap.size := blk_lt k
  have HKD : Hid (rdn l 1 1 = 2) := hk
  clear hk
  have zV : (w.setCell ⟨g, 1, none⟩ (.int .i64 4)).heap.size = w.heap.size := by simp
  have kV : (w.setCell ⟨g, 1, none⟩ (.int .i64 4)).heap[g]? = some (.cells #[.slice a l.length cap, .int .i64 4] 109 (0, 0)) := blk_same k
  have onV : Only g w (w.setCell ⟨g, 1, none⟩ (.int .i64 4)) := (Only.refl g w).set _
  obtain ⟨W1, hW1⟩ : ∃ W1, W1 = ((w.setCell ⟨g, 1, none⟩ (.int .i64 4)).alloc (.cells #[.pointer (some ⟨g, 0, none⟩)] 179)).alloc (.cells #[.int .i64 0, .int .i64 0, .int .i64 0, .int .i64 0, .int .i64 0, .slice none 0 0, .slice none 0 0, .slice none 0 0, .bool false, .slice none 0 0] 30) := ⟨_, rfl⟩
  have z1 : W1.heap.size = w.heap.size + 1 + 1 := by subst hW1; simp
  have kX1 : W1.heap[w.heap.size]? = some (.cells #[.pointer (some ⟨g, 0, none⟩)] 179 (0, 0)) := by subst hW1; rw [at_old (by simp)]; exact at_new zV.symm
  have kR1 : W1.heap[w.heap.size + 1]? = some (.cells #[.int .i64 0, .int .i64 0, .int .i64 0, .int .i64 0, .int .i64 0, .slice none 0 0, .slice none 0 0, .slice none 0 0, .bool false, .slice none 0 0] 30 (0, 0)) := by subst hW1; exact at_new (by simp)
  have kG1 : Rdr W1 g a cap l 4 := by subst hW1; unfold Rdr; rw [at_old (by simp; omega), at_old (by simp; omega)]; exact kV
  have on1 : Only g w W1 := by subst hW1; exact Dr.only_alloc (Dr.only_alloc onV _) _
  have rd1 : Rd W1 a b off l := rd_only on1 h hne
  obtain ⟨W2, hW2⟩ : ∃ W2, W2 = W1.alloc (.cells #[.int .i64 2, .int .i64 0, .int .i64 0, .int .i64 0, .int .i64 0, .slice none 0 0, .slice none 0 0, .slice none 0 0, .bool false, .slice none 0 0] 30) := ⟨_, rfl⟩
  have s2 : St W2 g w.heap.size (w.heap.size + 1) (w.heap.size + 1 + 1) a cap l 4 #[.int .i64 2, .int .i64 0, .int .i64 0, .int .i64 0, .int .i64 0, .slice none 0 0, .slice none 0 0, .slice none 0 0, .bool false, .slice none 0 0] w := by
    subst hW2
    exact ⟨(at_old (by omega)).trans kX1, (at_old (by omega)).trans kR1, at_new (by omega), (at_old (by omega)).trans kG1, Dr.only_alloc on1 _, by omega⟩
  have HRD : Hid (Rd w a b off l) := h
  have HN : Hid (rdn l 114 1 = (n : Int) ∧ n ≤ 255) := ⟨hn, hn2⟩
  have t1 : True := trivial
  obtain ⟨g0, g1⟩ := Pm.two k
  have gf := Bl.free k
  go_enter Try.func70, Try.ntmps70
  go_upto_region 2 with fail
  rw [← hW1]
  clear g0 g1 gf hW1
  obtain ⟨g0, g1⟩ := Pm.two kG1
  have x0 := Hh.one kX1
  go_wp2_with (first
    | (go_at_call 159; refine (numAt_any a b off cap l 1 1 W1 rd1 (by omega) (by omega)).mono ?_; rw [HKD.out]; rintro e wz ⟨rfl, hz⟩; replace hz := hz.symm; subst hz; have lX := blk_lt kX1; clear g0 g1)
    | (go_at_call 160; clear t1; rw [← hW2]; clear hW2; refine (num4 g a b off cap l (4) _ s2.kG (s2.rd HRD.out hne) (by omega)).mono ?_; rintro e w3 ⟨rfl, k3, o3⟩; have s3 : St w3 g w.heap.size (w.heap.size + 1) (w.heap.size + 1 + 1) a cap l (4 + 4) #[.int .i64 2, .int .i64 0, .int .i64 0, .int .i64 0, .int .i64 0, .slice none 0 0, .slice none 0 0, .slice none 0 0, .bool false, .slice none 0 0] w := s2.only o3 k3; clear x0; obtain ⟨y0, y1, y2, y3, y4, y5, y6, y7, y8, y9⟩ := Ga.ten s3.kT; have fT := Bl.free s3.kT; have x0 := Hh.one s3.kX; have s3a : St (w3.setCell ⟨w.heap.size + 1 + 1, 1, none⟩ (.int .i64 (rdn l (4) 4))) g w.heap.size (w.heap.size + 1) (w.heap.size + 1 + 1) a cap l (4 + 4) #[.int .i64 2, .int .i64 (rdn l (4) 4), .int .i64 0, .int .i64 0, .int .i64 0, .slice none 0 0, .slice none 0 0, .slice none 0 0, .bool false, .slice none 0 0] w := s3.set 1 (.int .i64 (rdn l (4) 4)); have t2 : True := trivial)
    | (go_at_call 160; clear t2; refine (num4 g a b off cap l (4 + 4) _ s3a.kG (s3a.rd HRD.out hne) (by omega)).mono ?_; rintro e w4 ⟨rfl, k4, o4⟩; have s4 : St w4 g w.heap.size (w.heap.size + 1) (w.heap.size + 1 + 1) a cap l (4 + 4 + 4) #[.int .i64 2, .int .i64 (rdn l (4) 4), .int .i64 0, .int .i64 0, .int .i64 0, .slice none 0 0, .slice none 0 0, .slice none 0 0, .bool false, .slice none 0 0] w := s3a.only o4 k4; clear y0 y1 y2 y3 y4 y5 y6 y7 y8 y9 x0 fT; obtain ⟨y0, y1, y2, y3, y4, y5, y6, y7, y8, y9⟩ := Ga.ten s4.kT; have fT := Bl.free s4.kT; have x0 := Hh.one s4.kX; have s4a : St (w4.setCell ⟨w.heap.size + 1 + 1, 2, none⟩ (.int .i64 (rdn l (4 + 4) 4))) g w.heap.size (w.heap.size + 1) (w.heap.size + 1 + 1) a cap l (4 + 4 + 4) #[.int .i64 2, .int .i64 (rdn l (4) 4), .int .i64 (rdn l (4 + 4) 4), .int .i64 0, .int .i64 0, .slice none 0 0, .slice none 0 0, .slice none 0 0, .bool false, .slice none 0 0] w := s4.set 2 (.int .i64 (rdn l (4 + 4) 4)); have t3 : True := trivial)
    | (go_at_call 160; clear t3; refine (num4 g a b off cap l (4 + 4 + 4) _ s4a.kG (s4a.rd HRD.out hne) (by omega)).mono ?_; rintro e w5 ⟨rfl, k5, o5⟩; have s5 : St w5 g w.heap.size (w.heap.size + 1) (w.heap.size + 1 + 1) a cap l (4 + 4 + 4 + 4) #[.int .i64 2, .int .i64 (rdn l (4) 4), .int .i64 (rdn l (4 + 4) 4), .int .i64 0, .int .i64 0, .slice none 0 0, .slice none 0 0, .slice none 0 0, .bool false, .slice none 0 0] w := s4a.only o5 k5; clear y0 y1 y2 y3 y4 y5 y6 y7 y8 y9 x0 fT; obtain ⟨y0, y1, y2, y3, y4, y5, y6, y7, y8, y9⟩ := Ga.ten s5.kT; have fT := Bl.free s5.kT; have x0 := Hh.one s5.kX; have s5a : St (w5.setCell ⟨w.heap.size + 1 + 1, 3, none⟩ (.int .i64 (rdn l (4 + 4 + 4) 4))) g w.heap.size (w.heap.size + 1) (w.heap.size + 1 + 1) a cap l (4 + 4 + 4 + 4) #[.int .i64 2, .int .i64 (rdn l (4) 4), .int .i64 (rdn l (4 + 4) 4), .int .i64 (rdn l (4 + 4 + 4) 4), .int .i64 0, .slice none 0 0, .slice none 0 0, .slice none 0 0, .bool false, .slice none 0 0] w := s5.set 3 (.int .i64 (rdn l (4 + 4 + 4) 4)); have t4 : True := trivial)
    | (go_at_call 160; clear t4; refine (num2 g a b off cap l (4 + 4 + 4 + 4) _ s5a.kG (s5a.rd HRD.out hne) (by omega)).mono ?_; rintro e w6 ⟨rfl, k6, o6⟩; have s6 : St w6 g w.heap.size (w.heap.size + 1) (w.heap.size + 1 + 1) a cap l (4 + 4 + 4 + 4 + 2) #[.int .i64 2, .int .i64 (rdn l (4) 4), .int .i64 (rdn l (4 + 4) 4), .int .i64 (rdn l (4 + 4 + 4) 4), .int .i64 0, .slice none 0 0, .slice none 0 0, .slice none 0 0, .bool false, .slice none 0 0] w := s5a.only o6 k6; clear y0 y1 y2 y3 y4 y5 y6 y7 y8 y9 x0 fT; obtain ⟨y0, y1, y2, y3, y4, y5, y6, y7, y8, y9⟩ := Ga.ten s6.kT; have fT := Bl.free s6.kT; have x0 := Hh.one s6.kX; have s6a : St (w6.setCell ⟨w.heap.size + 1 + 1, 4, none⟩ (.int .i64 (rdn l (4 + 4 + 4 + 4) 2))) g w.heap.size (w.heap.size + 1) (w.heap.size + 1 + 1) a cap l (4 + 4 + 4 + 4 + 2) #[.int .i64 2, .int .i64 (rdn l (4) 4), .int .i64 (rdn l (4 + 4) 4), .int .i64 (rdn l (4 + 4 + 4) 4), .int .i64 (rdn l (4 + 4 + 4 + 4) 2), .slice none 0 0, .slice none 0 0, .slice none 0 0, .bool false, .slice none 0 0] w := s6.set 4 (.int .i64 (rdn l (4 + 4 + 4 + 4) 2)); have t5 : True := trivial)
    | (go_at_call 161; clear t5; refine (match_any g a b off cap l (4 + 4 + 4 + 4 + 2) _ s6a.kG (s6a.rd HRD.out hne) hne (by omega)).mono ?_; rintro e w7 ⟨⟨aV, gV, cV, aM, gM, cM, rfl, wtV, wtM, zV, zM, dVM⟩, k7, o7⟩; have HSZ : Hid (w.heap.size + 1 + 1 < w6.heap.size) := blk_lt s6.kT; simp at zV zM; have xV := World.block_lt_of_cell? _ _ (wtV.cell 0 (by rw [Pm.lst_len]; omega)); have xM := World.block_lt_of_cell? _ _ (wtM.cell 0 (by rw [Pm.lst_len]; omega)); simp only at xV xM; have s7 : St w7 g w.heap.size (w.heap.size + 1) (w.heap.size + 1 + 1) a cap l (4 + 4 + 4 + 4 + 2 + 96) #[.int .i64 2, .int .i64 (rdn l (4) 4), .int .i64 (rdn l (4 + 4) 4), .int .i64 (rdn l (4 + 4 + 4) 4), .int .i64 (rdn l (4 + 4 + 4 + 4) 2), .slice none 0 0, .slice none 0 0, .slice none 0 0, .bool false, .slice none 0 0] w := s6a.only o7 k7; clear y0 y1 y2 y3 y4 y5 y6 y7 y8 y9 x0 fT; obtain ⟨y0, y1, y2, y3, y4, y5, y6, y7, y8, y9⟩ := Ga.ten s7.kT; have fT := Bl.free s7.kT; have x0 := Hh.one s7.kX; have s7a : St (w7.setCell ⟨w.heap.size + 1 + 1, 5, none⟩ (.slice aV 8 cV)) g w.heap.size (w.heap.size + 1) (w.heap.size + 1 + 1) a cap l (4 + 4 + 4 + 4 + 2 + 96) #[.int .i64 2, .int .i64 (rdn l (4) 4), .int .i64 (rdn l (4 + 4) 4), .int .i64 (rdn l (4 + 4 + 4) 4), .int .i64 (rdn l (4 + 4 + 4 + 4) 2), .slice aV 8 cV, .slice none 0 0, .slice none 0 0, .bool false, .slice none 0 0] w := s7.set 5 (.slice aV 8 cV); have s7b : St ((w7.setCell ⟨w.heap.size + 1 + 1, 5, none⟩ (.slice aV 8 cV)).setCell ⟨w.heap.size + 1 + 1, 6, none⟩ (.slice aM 8 cM)) g w.heap.size (w.heap.size + 1) (w.heap.size + 1 + 1) a cap l (4 + 4 + 4 + 4 + 2 + 96) #[.int .i64 2, .int .i64 (rdn l (4) 4), .int .i64 (rdn l (4 + 4) 4), .int .i64 (rdn l (4 + 4 + 4) 4), .int .i64 (rdn l (4 + 4 + 4 + 4) 2), .slice aV 8 cV, .slice aM 8 cM, .slice none 0 0, .bool false, .slice none 0 0] w := s7a.set 6 (.slice aM 8 cM); have t6 : True := trivial)
    | (go_at_call 162; clear t6; refine (acts_any g a b off cap l (4 + 4 + 4 + 4 + 2 + 96) n _ s7b.kG (s7b.rd HRD.out hne) hne (by omega) HN.out.1 HN.out.2).mono ?_; rintro e w8 ⟨⟨gA, rfl, mA, zA⟩, k8, o8⟩; have szz := HSZ.out; simp at zA; replace wtV := Em.wt_keep wtV (fun hl => (o8.block _ (by simp; omega) (by simp; omega)).trans (Sm.set_far (by omega) |>.trans (Sm.set_far (by omega)))); replace wtM := Em.wt_keep wtM (fun hl => (o8.block _ (by simp; omega) (by simp; omega)).trans (Sm.set_far (by omega) |>.trans (Sm.set_far (by omega)))); clear szz; have s8 : St w8 g w.heap.size (w.heap.size + 1) (w.heap.size + 1 + 1) a cap l (4 + 4 + 4 + 4 + 2 + 96 + 1 + 8 * n) #[.int .i64 2, .int .i64 (rdn l (4) 4), .int .i64 (rdn l (4 + 4) 4), .int .i64 (rdn l (4 + 4 + 4) 4), .int .i64 (rdn l (4 + 4 + 4 + 4) 2), .slice aV 8 cV, .slice aM 8 cM, .slice none 0 0, .bool false, .slice none 0 0] w := s7b.only o8 k8; clear y0 y1 y2 y3 y4 y5 y6 y7 y8 y9 x0 fT; obtain ⟨y0, y1, y2, y3, y4, y5, y6, y7, y8, y9⟩ := Ga.ten s8.kT; have fT := Bl.free s8.kT; have x0 := Hh.one s8.kX; have s8a : St (w8.setCell ⟨w.heap.size + 1 + 1, 7, none⟩ (.slice (some ⟨gA, 0, none⟩) n n)) g w.heap.size (w.heap.size + 1) (w.heap.size + 1 + 1) a cap l (4 + 4 + 4 + 4 + 2 + 96 + 1 + 8 * n) #[.int .i64 2, .int .i64 (rdn l (4) 4), .int .i64 (rdn l (4 + 4) 4), .int .i64 (rdn l (4 + 4 + 4) 4), .int .i64 (rdn l (4 + 4 + 4 + 4) 2), .slice aV 8 cV, .slice aM 8 cM, .slice (some ⟨gA, 0, none⟩) n n, .bool false, .slice none 0 0] w := s8.set 7 (.slice (some ⟨gA, 0, none⟩) n n); obtain ⟨r0, r1, r2, r3, r4, r5, r6, r7, r8, r9⟩ := Ga.ten s8.kR; have fR := Bl.free s8.kR; have t7 : True := trivial))
  have nn := s2.ne
  have szz := HSZ.out
  have mF : Yb.Mine (((((((((((w8.setCell ⟨w.heap.size + 1 + 1, 7, none⟩ (.slice (some ⟨gA, 0, none⟩) n n)).setCell ⟨w.heap.size + 1, 0, none⟩ (.int .i64 2)).setCell ⟨w.heap.size + 1, 1, none⟩ (.int .i64 (rdn l 4 4))).setCell ⟨w.heap.size + 1, 2, none⟩ (.int .i64 (rdn l 8 4))).setCell ⟨w.heap.size + 1, 3, none⟩ (.int .i64 (rdn l 12 4))).setCell ⟨w.heap.size + 1, 4, none⟩ (.int .i64 (rdn l 16 2))).setCell ⟨w.heap.size + 1, 5, none⟩ (.slice aV 8 cV)).setCell ⟨w.heap.size + 1, 6, none⟩ (.slice aM 8 cM)).setCell ⟨w.heap.size + 1, 7, none⟩ (.slice (some ⟨gA, 0, none⟩) n n)).setCell ⟨w.heap.size + 1, 8, none⟩ (.bool false)).setCell ⟨w.heap.size + 1, 9, none⟩ (.slice none 0 0)) gA (rA l 115 n) := by repeat (first | with_reducible exact mA | refine mineA_set ?_ (by simp; omega))
  have vF : Hr.Wt (((((((((((w8.setCell ⟨w.heap.size + 1 + 1, 7, none⟩ (.slice (some ⟨gA, 0, none⟩) n n)).setCell ⟨w.heap.size + 1, 0, none⟩ (.int .i64 2)).setCell ⟨w.heap.size + 1, 1, none⟩ (.int .i64 (rdn l 4 4))).setCell ⟨w.heap.size + 1, 2, none⟩ (.int .i64 (rdn l 8 4))).setCell ⟨w.heap.size + 1, 3, none⟩ (.int .i64 (rdn l 12 4))).setCell ⟨w.heap.size + 1, 4, none⟩ (.int .i64 (rdn l 16 2))).setCell ⟨w.heap.size + 1, 5, none⟩ (.slice aV 8 cV)).setCell ⟨w.heap.size + 1, 6, none⟩ (.slice aM 8 cM)).setCell ⟨w.heap.size + 1, 7, none⟩ (.slice (some ⟨gA, 0, none⟩) n n)).setCell ⟨w.heap.size + 1, 8, none⟩ (.bool false)).setCell ⟨w.heap.size + 1, 9, none⟩ (.slice none 0 0)) aV gV (Pm.lst (rV l 18)) := by repeat (first | with_reducible exact wtV | refine wtN_set ?_ (by omega))
  have uF : Hr.Wt (((((((((((w8.setCell ⟨w.heap.size + 1 + 1, 7, none⟩ (.slice (some ⟨gA, 0, none⟩) n n)).setCell ⟨w.heap.size + 1, 0, none⟩ (.int .i64 2)).setCell ⟨w.heap.size + 1, 1, none⟩ (.int .i64 (rdn l 4 4))).setCell ⟨w.heap.size + 1, 2, none⟩ (.int .i64 (rdn l 8 4))).setCell ⟨w.heap.size + 1, 3, none⟩ (.int .i64 (rdn l 12 4))).setCell ⟨w.heap.size + 1, 4, none⟩ (.int .i64 (rdn l 16 2))).setCell ⟨w.heap.size + 1, 5, none⟩ (.slice aV 8 cV)).setCell ⟨w.heap.size + 1, 6, none⟩ (.slice aM 8 cM)).setCell ⟨w.heap.size + 1, 7, none⟩ (.slice (some ⟨gA, 0, none⟩) n n)).setCell ⟨w.heap.size + 1, 8, none⟩ (.bool false)).setCell ⟨w.heap.size + 1, 9, none⟩ (.slice none 0 0)) aM gM (Pm.lst (rM l 18)) := by repeat (first | with_reducible exact wtM | refine wtN_set ?_ (by omega))
  refine bodyPost_ret (v := .agg #[.int .i64 2, .int .i64 (rdn l 4 4), .int .i64 (rdn l 8 4), .int .i64 (rdn l 12 4), .int .i64 (rdn l 16 2), .slice aV 8 cV, .slice aM 8 cM, .slice (some ⟨gA, 0, none⟩) n n, .bool false, .slice none 0 0]) (by simp [results, Try.results70, go_sem, r0, r1, r2, r3, r4, r5, r6, r7, r8, r9]) rfl ⟨⟨2, rdn l 4 4, rdn l 8 4, ⟨rdn l 12 4, rdn l 16 2, Pm.lst (rV l 18), Pm.lst (rM l 18), rA l 115 n, 0, aV, gV, 0, cV, aM, gM, 0, cM, some ⟨gA, 0, none⟩, gA, 0, n⟩, false, [], none, gA + gV + gM + 1, 0, 0⟩, ?_, ?_, ?_, ?_, ?_, ?_, ?_⟩
  · simp [Ga.Msg.vals, Pm.lst_len, rA_len]
  · rfl
  · exact ⟨⟨vF.rd, uF.rd, mF.rd, wide_v HRD.out.byt, wide_m HRD.out.byt⟩, rfl, ⟨fun h => by simp at h, fun i h => by simp at h, by simp⟩, wide0⟩
  · exact ⟨vF, uF, Em.mineA_wt mF, ⟨fun h => by simp at h, fun i h => by simp at h, fun i h => by simp at h, by simp⟩⟩
  · exact ⟨dVM, by simp only; omega, by simp only; omega, by simp only; omega, by simp only; omega, by simp only; omega⟩
  · intro y hy
    rcases hy with rfl | rfl | rfl | rfl <;> ((try simp only); omega)
  · have o := s8.on
    repeat (first | with_reducible exact o | refine Dr.only_set ?_ (by omega))

set_option maxHeartbeats 16000000 in
theorem msg5 (g : Nat) (a : Option Addr) (b off cap p0 : Nat) (l : List Int) (w : World) (k : Rdr w g a cap l p0) (h : Rd w a b off l) (hne : l.length = 0 ∨ b ≠ g) (hk : rdn l 1 1 = 5) :
    Calls Try.prog 70 #[.pointer (some ⟨g, 0, none⟩)] w (ResR w g (5, rdn l 4 4, rdn l 8 4, (0, 0, [], [], [], 0), rdn l 12 1 == 1, Pm.lst (rH l 13))) := by
  have hg : g < w.heap.size := blk_lt k
  have HKD : Hid (rdn l 1 1 = 5) := hk
  clear hk
  have zV : (w.setCell ⟨g, 1, none⟩ (.int .i64 4)).heap.size = w.heap.size := by simp
  have kV : (w.setCell ⟨g, 1, none⟩ (.int .i64 4)).heap[g]? = some (.cells #[.slice a l.length cap, .int .i64 4] 109 (0, 0)) := blk_same k
  have onV : Only g w (w.setCell ⟨g, 1, none⟩ (.int .i64 4)) := (Only.refl g w).set _
  obtain ⟨W1, hW1⟩ : ∃ W1, W1 = ((w.setCell ⟨g, 1, none⟩ (.int .i64 4)).alloc (.cells #[.pointer (some ⟨g, 0, none⟩)] 179)).alloc (.cells #[.int .i64 0, .int .i64 0, .int .i64 0, .int .i64 0, .int .i64 0, .slice none 0 0, .slice none 0 0, .slice none 0 0, .bool false, .slice none 0 0] 30) := ⟨_, rfl⟩
  have z1 : W1.heap.size = w.heap.size + 1 + 1 := by subst hW1; simp
  have kX1 : W1.heap[w.heap.size]? = some (.cells #[.pointer (some ⟨g, 0, none⟩)] 179 (0, 0)) := by subst hW1; rw [at_old (by simp)]; exact at_new zV.symm
  have kR1 : W1.heap[w.heap.size + 1]? = some (.cells #[.int .i64 0, .int .i64 0, .int .i64 0, .int .i64 0, .int .i64 0, .slice none 0 0, .slice none 0 0, .slice none 0 0, .bool false, .slice none 0 0] 30 (0, 0)) := by subst hW1; exact at_new (by simp)
  have kG1 : Rdr W1 g a cap l 4 := by subst hW1; unfold Rdr; rw [at_old (by simp; omega), at_old (by simp; omega)]; exact kV
  have on1 : Only g w W1 := by subst hW1; exact Dr.only_alloc (Dr.only_alloc onV _) _
  have rd1 : Rd W1 a b off l := rd_only on1 h hne
  obtain ⟨W2, hW2⟩ : ∃ W2, W2 = W1.alloc (.cells #[.int .i64 5, .int .i64 0, .int .i64 0, .int .i64 0, .int .i64 0, .slice none 0 0, .slice none 0 0, .slice none 0 0, .bool false, .slice none 0 0] 30) := ⟨_, rfl⟩
  have s2 : St W2 g w.heap.size (w.heap.size + 1) (w.heap.size + 1 + 1) a cap l 4 #[.int .i64 5, .int .i64 0, .int .i64 0, .int .i64 0, .int .i64 0, .slice none 0 0, .slice none 0 0, .slice none 0 0, .bool false, .slice none 0 0] w := by
    subst hW2
    exact ⟨(at_old (by omega)).trans kX1, (at_old (by omega)).trans kR1, at_new (by omega), (at_old (by omega)).trans kG1, Dr.only_alloc on1 _, by omega⟩
  have HRD : Hid (Rd w a b off l) := h
  have t1 : True := trivial
  obtain ⟨g0, g1⟩ := Pm.two k
  have gf := Bl.free k
  go_enter Try.func70, Try.ntmps70
  go_upto_region 2 with fail
  rw [← hW1]
  clear g0 g1 gf hW1
  obtain ⟨g0, g1⟩ := Pm.two kG1
  have x0 := Hh.one kX1
  go_wp2_with (first
    | (go_at_call 159; refine (numAt_any a b off cap l 1 1 W1 rd1 (by omega) (by omega)).mono ?_; rw [HKD.out]; rintro e wz ⟨rfl, hz⟩; replace hz := hz.symm; subst hz; have lX := blk_lt kX1; clear g0 g1)
    | (go_at_call 160; clear t1; rw [← hW2]; clear hW2; refine (num4 g a b off cap l (4) _ s2.kG (s2.rd HRD.out hne) (by omega)).mono ?_; rintro e w3 ⟨rfl, k3, o3⟩; have s3 : St w3 g w.heap.size (w.heap.size + 1) (w.heap.size + 1 + 1) a cap l (4 + 4) #[.int .i64 5, .int .i64 0, .int .i64 0, .int .i64 0, .int .i64 0, .slice none 0 0, .slice none 0 0, .slice none 0 0, .bool false, .slice none 0 0] w := s2.only o3 k3; clear x0; obtain ⟨y0, y1, y2, y3, y4, y5, y6, y7, y8, y9⟩ := Ga.ten s3.kT; have fT := Bl.free s3.kT; have x0 := Hh.one s3.kX; have s3a : St (w3.setCell ⟨w.heap.size + 1 + 1, 1, none⟩ (.int .i64 (rdn l (4) 4))) g w.heap.size (w.heap.size + 1) (w.heap.size + 1 + 1) a cap l (4 + 4) #[.int .i64 5, .int .i64 (rdn l (4) 4), .int .i64 0, .int .i64 0, .int .i64 0, .slice none 0 0, .slice none 0 0, .slice none 0 0, .bool false, .slice none 0 0] w := s3.set 1 (.int .i64 (rdn l (4) 4)); have t2 : True := trivial)
    | (go_at_call 160; clear t2; refine (num4 g a b off cap l (4 + 4) _ s3a.kG (s3a.rd HRD.out hne) (by omega)).mono ?_; rintro e w4 ⟨rfl, k4, o4⟩; have s4 : St w4 g w.heap.size (w.heap.size + 1) (w.heap.size + 1 + 1) a cap l (4 + 4 + 4) #[.int .i64 5, .int .i64 (rdn l (4) 4), .int .i64 0, .int .i64 0, .int .i64 0, .slice none 0 0, .slice none 0 0, .slice none 0 0, .bool false, .slice none 0 0] w := s3a.only o4 k4; clear y0 y1 y2 y3 y4 y5 y6 y7 y8 y9 x0 fT; obtain ⟨y0, y1, y2, y3, y4, y5, y6, y7, y8, y9⟩ := Ga.ten s4.kT; have fT := Bl.free s4.kT; have x0 := Hh.one s4.kX; have s4a : St (w4.setCell ⟨w.heap.size + 1 + 1, 2, none⟩ (.int .i64 (rdn l (4 + 4) 4))) g w.heap.size (w.heap.size + 1) (w.heap.size + 1 + 1) a cap l (4 + 4 + 4) #[.int .i64 5, .int .i64 (rdn l (4) 4), .int .i64 (rdn l (4 + 4) 4), .int .i64 0, .int .i64 0, .slice none 0 0, .slice none 0 0, .slice none 0 0, .bool false, .slice none 0 0] w := s4.set 2 (.int .i64 (rdn l (4 + 4) 4)); have t3 : True := trivial)
    | (go_at_call 160; clear t3; refine (num1 g a b off cap l (4 + 4 + 4) _ s4a.kG (s4a.rd HRD.out hne) (by omega)).mono ?_; rintro e w5 ⟨rfl, k5, o5⟩; have s5 : St w5 g w.heap.size (w.heap.size + 1) (w.heap.size + 1 + 1) a cap l (4 + 4 + 4 + 1) #[.int .i64 5, .int .i64 (rdn l (4) 4), .int .i64 (rdn l (4 + 4) 4), .int .i64 0, .int .i64 0, .slice none 0 0, .slice none 0 0, .slice none 0 0, .bool false, .slice none 0 0] w := s4a.only o5 k5; clear y0 y1 y2 y3 y4 y5 y6 y7 y8 y9 x0 fT; obtain ⟨y0, y1, y2, y3, y4, y5, y6, y7, y8, y9⟩ := Ga.ten s5.kT; have fT := Bl.free s5.kT; have x0 := Hh.one s5.kX; have s5a : St (w5.setCell ⟨w.heap.size + 1 + 1, 8, none⟩ (.bool (rdn l (4 + 4 + 4) 1 == 1))) g w.heap.size (w.heap.size + 1) (w.heap.size + 1 + 1) a cap l (4 + 4 + 4 + 1) #[.int .i64 5, .int .i64 (rdn l (4) 4), .int .i64 (rdn l (4 + 4) 4), .int .i64 0, .int .i64 0, .slice none 0 0, .slice none 0 0, .slice none 0 0, .bool (rdn l (4 + 4 + 4) 1 == 1), .slice none 0 0] w := s5.set 8 (.bool (rdn l (4 + 4 + 4) 1 == 1)); have t4 : True := trivial)
    | (go_at_call 163; clear t4; refine (head_any w.heap.size g a b off cap l (4 + 4 + 4 + 1) _ s5a.kX s5a.kG (s5a.rd HRD.out hne) hne (by omega) s5a.ne.1).mono ?_; rintro e w6 ⟨⟨gH, rfl, mH, zH⟩, k6, o6⟩; have HSZ : Hid (w.heap.size + 1 + 1 < w5.heap.size) := blk_lt s5.kT; have s6 : St w6 g w.heap.size (w.heap.size + 1) (w.heap.size + 1 + 1) a cap l (4 + 4 + 4 + 1 + 48) #[.int .i64 5, .int .i64 (rdn l (4) 4), .int .i64 (rdn l (4 + 4) 4), .int .i64 0, .int .i64 0, .slice none 0 0, .slice none 0 0, .slice none 0 0, .bool (rdn l (4 + 4 + 4) 1 == 1), .slice none 0 0] w := s5a.only o6 k6; clear y0 y1 y2 y3 y4 y5 y6 y7 y8 y9 x0 fT; obtain ⟨y0, y1, y2, y3, y4, y5, y6, y7, y8, y9⟩ := Ga.ten s6.kT; have fT := Bl.free s6.kT; have x0 := Hh.one s6.kX; have s6a : St (w6.setCell ⟨w.heap.size + 1 + 1, 9, none⟩ (.slice (some ⟨gH, 0, none⟩) 8 8)) g w.heap.size (w.heap.size + 1) (w.heap.size + 1 + 1) a cap l (4 + 4 + 4 + 1 + 48) #[.int .i64 5, .int .i64 (rdn l (4) 4), .int .i64 (rdn l (4 + 4) 4), .int .i64 0, .int .i64 0, .slice none 0 0, .slice none 0 0, .slice none 0 0, .bool (rdn l (4 + 4 + 4) 1 == 1), .slice (some ⟨gH, 0, none⟩) 8 8] w := s6.set 9 (.slice (some ⟨gH, 0, none⟩) 8 8); obtain ⟨r0, r1, r2, r3, r4, r5, r6, r7, r8, r9⟩ := Ga.ten s6.kR; have fR := Bl.free s6.kR; have t5 : True := trivial))
  have nn := s2.ne
  have szz := HSZ.out
  simp at zH
  have mF : Hr.Mine (((((((((((w6.setCell ⟨w.heap.size + 1 + 1, 9, none⟩ (.slice (some ⟨gH, 0, none⟩) 8 8)).setCell ⟨w.heap.size + 1, 0, none⟩ (.int .i64 5)).setCell ⟨w.heap.size + 1, 1, none⟩ (.int .i64 (rdn l 4 4))).setCell ⟨w.heap.size + 1, 2, none⟩ (.int .i64 (rdn l 8 4))).setCell ⟨w.heap.size + 1, 3, none⟩ (.int .i64 0)).setCell ⟨w.heap.size + 1, 4, none⟩ (.int .i64 0)).setCell ⟨w.heap.size + 1, 5, none⟩ (.slice none 0 0)).setCell ⟨w.heap.size + 1, 6, none⟩ (.slice none 0 0)).setCell ⟨w.heap.size + 1, 7, none⟩ (.slice none 0 0)).setCell ⟨w.heap.size + 1, 8, none⟩ (.bool (rdn l 12 1 == 1))).setCell ⟨w.heap.size + 1, 9, none⟩ (.slice (some ⟨gH, 0, none⟩) 8 8)) gH (Pm.lst (rH l 13)) := by repeat (first | with_reducible exact mH | refine Hr.Mine.set ?_ (by simp; omega))
  refine bodyPost_ret (v := .agg #[.int .i64 5, .int .i64 (rdn l 4 4), .int .i64 (rdn l 8 4), .int .i64 0, .int .i64 0, .slice none 0 0, .slice none 0 0, .slice none 0 0, .bool (rdn l 12 1 == 1), .slice (some ⟨gH, 0, none⟩) 8 8]) (by simp [results, Try.results70, go_sem, r0, r1, r2, r3, r4, r5, r6, r7, r8, r9]) rfl ⟨⟨5, rdn l 4 4, rdn l 8 4, ⟨0, 0, [], [], [], 0, none, gH + 1, 0, 0, none, gH + 2, 0, 0, none, gH + 3, 0, 0⟩, rdn l 12 1 == 1, Pm.lst (rH l 13), some ⟨gH, 0, none⟩, gH, 0, 8⟩, ?_, ?_, ?_, ?_, ?_, ?_, ?_⟩
  · simp [Ga.Msg.vals, Pm.lst_len]
  · rfl
  · exact ⟨⟨⟨fun h => by simp at h, fun i h => by simp at h, by simp⟩, ⟨fun h => by simp at h, fun i h => by simp at h, by simp⟩, ⟨fun h => by simp at h, fun i h => by simp at h, by simp⟩, wide0, wide0⟩, rfl, mF.rd, wide_lst HRD.out.byt⟩
  · exact ⟨⟨fun h => by simp at h, fun i h => by simp at h, fun i h => by simp at h, by simp⟩, ⟨fun h => by simp at h, fun i h => by simp at h, fun i h => by simp at h, by simp⟩, ⟨fun h => by simp at h, fun i h => by simp at h, fun i h => by simp at h, by simp⟩, Hr.mine_wt mF⟩
  · exact ⟨by simp only; omega, by simp only; omega, by simp only; omega, by simp only; omega, by simp only; omega, by simp only; omega⟩
  · intro y hy
    rcases hy with rfl | rfl | rfl | rfl <;> ((try simp only); omega)
  · have o := s6.on
    repeat (first | with_reducible exact o | refine Dr.only_set ?_ (by omega))

end Go.Proofs.Ytcbhpmgjmpbpmaa.Wa
namespace Go.Proofs.Ytcbhpmgjmpbpmaa.Wa
open Go Go.RowKit
set_option maxRecDepth 8000
set_option linter.unusedSimpArgs false
set_option linter.unusedVariables false
open Num Pl Rw Mk Un Put App Ea Pr

/-- What the program's reader reads off bytes, right or not. -/
def xI (l : List Int) : Ga.Said :=
  if rdn l 1 1 = 2 then (2, rdn l 4 4, rdn l 8 4, (rdn l 12 4, rdn l 16 2, Pm.lst (rV l 18), Pm.lst (rM l 18), rA l 115 (rdn l 114 1).toNat, 0), false, [])
  else if rdn l 1 1 = 3 then (3, rdn l 4 4, rdn l 8 4, (rdn l 12 4, 0, [], [], [], 0), false, [])
  else if rdn l 1 1 = 5 then (5, rdn l 4 4, rdn l 8 4, (0, 0, [], [], [], 0), rdn l 12 1 == 1, Pm.lst (rH l 13))
  else (rdn l 1 1, rdn l 4 4, rdn l 8 4, (0, 0, [], [], [], 0), false, [])

theorem msg_any (g : Nat) (a : Option Addr) (b off cap p0 : Nat) (l : List Int) (w : World) (k : Rdr w g a cap l p0) (h : Rd w a b off l) (hne : l.length = 0 ∨ b ≠ g) :
    Calls Try.prog 70 #[.pointer (some ⟨g, 0, none⟩)] w (ResR w g (xI l)) := by
  unfold xI
  by_cases h2 : rdn l 1 1 = 2
  · rw [if_pos h2]
    have hb := rdn_bd h.byt 114 1
    have e : ((pw 1 : Nat) : Int) = 256 := by decide
    rw [e] at hb
    exact msg2 g a b off cap p0 l w k h hne h2 _ (by omega) (by omega)
  rw [if_neg h2]
  by_cases h3 : rdn l 1 1 = 3
  · rw [if_pos h3]; exact msg3 g a b off cap p0 l w k h hne h3
  rw [if_neg h3]
  by_cases h5 : rdn l 1 1 = 5
  · rw [if_pos h5]; exact msg5 g a b off cap p0 l w k h hne h5
  rw [if_neg h5]
  exact msg0 g a b off cap p0 l w k h hne ⟨h2, h3, h5⟩

/-- A message and a code are handed back, the message in memory of the call's own. -/
def ResF (w : World) (x : Ga.Said) (c : Int) (e : Ending) (w' : World) : Prop :=
  ∃ f : Ga.Msg, e = .returned (.tuple #[.agg f.vals, .int .i64 c]) ∧ f.said = x ∧ f.Ok w' ∧ Jm.WtM w' f ∧ Jm.Ap4 f ∧ (∀ y, Jm.Use4 f y → w.heap.size ≤ y) ∧ Below w.heap.size w w'
def said0 : Ga.Said := (0, 0, 0, (0, 0, [], [], [], 0), false, [])
theorem resF_no {w w' : World} (c : Int) (h : Below w.heap.size w w') : ResF w said0 c (.returned (.tuple #[.agg #[.int .i64 0, .int .i64 0, .int .i64 0, .int .i64 0, .int .i64 0, .slice none 0 0, .slice none 0 0, .slice none 0 0, .bool false, .slice none 0 0], .int .i64 c])) w' := by
  refine ⟨⟨0, 0, 0, ⟨0, 0, [], [], [], 0, none, w.heap.size, 0, 0, none, w.heap.size + 1, 0, 0, none, w.heap.size + 2, 0, 0⟩, false, [], none, w.heap.size + 3, 0, 0⟩, rfl, rfl, ?_, ?_, ?_, ?_, h⟩
  · exact ⟨⟨⟨fun h => by simp at h, fun i h => by simp at h, by simp⟩, ⟨fun h => by simp at h, fun i h => by simp at h, by simp⟩, ⟨fun h => by simp at h, fun i h => by simp at h, by simp⟩, wide0, wide0⟩, rfl, ⟨fun h => by simp at h, fun i h => by simp at h, by simp⟩, wide0⟩
  · exact ⟨⟨fun h => by simp at h, fun i h => by simp at h, fun i h => by simp at h, by simp⟩, ⟨fun h => by simp at h, fun i h => by simp at h, fun i h => by simp at h, by simp⟩, ⟨fun h => by simp at h, fun i h => by simp at h, fun i h => by simp at h, by simp⟩, ⟨fun h => by simp at h, fun i h => by simp at h, fun i h => by simp at h, by simp⟩⟩
  · exact ⟨by simp only; omega, by simp only; omega, by simp only; omega, by simp only; omega, by simp only; omega, by simp only; omega⟩
  · intro y hy
    rcases hy with rfl | rfl | rfl | rfl <;> ((try simp only); omega)

theorem read_no (a : Option Addr) (b off cap : Nat) (l : List Int) (w : World) (h : Rd w a b off l) (hc : code l ≠ 0) :
    Calls Try.prog 16 #[.slice a l.length cap] w (ResF w said0 (code l)) := by
  obtain ⟨W1, hW1⟩ : ∃ W1, W1 = w.alloc (.cells #[.int .i64 0, .int .i64 0, .int .i64 0, .int .i64 0, .int .i64 0, .slice none 0 0, .slice none 0 0, .slice none 0 0, .bool false, .slice none 0 0] 30) := ⟨_, rfl⟩
  have B1 : Below w.heap.size w W1 := by subst hW1; exact below_alloc1 _ _
  have kR : W1.heap[w.heap.size]? = some (.cells #[.int .i64 0, .int .i64 0, .int .i64 0, .int .i64 0, .int .i64 0, .slice none 0 0, .slice none 0 0, .slice none 0 0, .bool false, .slice none 0 0] 30 (0, 0)) := by subst hW1; exact at_new rfl
  have hcd := code_any a b off cap l W1 (h.below B1)
  generalize code l = n at *
  have b1 : (n != 0) = true := by simpa using hc
  obtain ⟨r0, r1, r2, r3, r4, r5, r6, r7, r8, r9⟩ := Ga.ten kR
  have fR := Bl.free kR
  go_enter Try.func16, Try.ntmps16
  go_wp2_with (go_at_call 69; rw [← hW1]; clear hW1; refine hcd.mono ?_; rintro e w1 ⟨rfl, hw⟩; replace hw := hw.symm; subst hw)
  refine bodyPost_ret (v := .tuple #[.agg #[.int .i64 0, .int .i64 0, .int .i64 0, .int .i64 0, .int .i64 0, .slice none 0 0, .slice none 0 0, .slice none 0 0, .bool false, .slice none 0 0], .int .i64 n]) (by simp [results, Try.results16, go_sem, r0, r1, r2, r3, r4, r5, r6, r7, r8, r9]) rfl ?_
  refine resF_no n ?_
  refine Only.below (g := w.heap.size) ?_ B1 B1.size (Nat.le_refl _)
  repeat (first | with_reducible exact Only.refl _ _ | refine Only.set ?_ _)

theorem ok_only {g : Nat} {w w' : World} {f : Ga.Msg} (o : f.Ok w) (on : Only g w w') (hu : ∀ y, Jm.Use4 f y → y ≠ g) : f.Ok w' :=
  ⟨Sm.ok_keep o.e (fun x hx hl => on.block x hl (by
    have h1 := hu x (by rcases hx with hx | hx | hx; exact .inl hx; exact .inr (.inl hx); exact .inr (.inr (.inl hx)))
    simp; omega)), o.z, Hr.rd_only on o.rH (.inr (hu _ (.inr (.inr (.inr rfl))))), o.wH⟩
theorem wtm_only {g : Nat} {w w' : World} {f : Ga.Msg} (o : Jm.WtM w f) (on : Only g w w') (hu : ∀ y, Jm.Use4 f y → y ≠ g) : Jm.WtM w' f :=
  o.keep fun x hx hl => on.block x hl (by have h1 := hu x hx; simp; omega)

set_option maxHeartbeats 4000000 in
theorem read_bad (a : Option Addr) (b off cap : Nat) (l : List Int) (w : World) (h : Rd w a b off l) (hlt : l.length = 0 ∨ b < w.heap.size) (hc : code l = 0) (hL : ¬ Ja.writtenL (xI l) = l) :
    Calls Try.prog 16 #[.slice a l.length cap] w (ResF w said0 5) := by
  obtain ⟨W1, hW1⟩ : ∃ W1, W1 = w.alloc (.cells #[.int .i64 0, .int .i64 0, .int .i64 0, .int .i64 0, .int .i64 0, .slice none 0 0, .slice none 0 0, .slice none 0 0, .bool false, .slice none 0 0] 30) := ⟨_, rfl⟩
  have B1 : Below w.heap.size w W1 := by subst hW1; exact below_alloc1 _ _
  have z1 : W1.heap.size = w.heap.size + 1 := by subst hW1; simp
  have kR : W1.heap[w.heap.size]? = some (.cells #[.int .i64 0, .int .i64 0, .int .i64 0, .int .i64 0, .int .i64 0, .slice none 0 0, .slice none 0 0, .slice none 0 0, .bool false, .slice none 0 0] 30 (0, 0)) := by subst hW1; exact at_new rfl
  have hcd := code_any a b off cap l W1 (h.below B1)
  rw [hc] at hcd
  clear hc
  obtain ⟨W2, hW2⟩ : ∃ W2, W2 = W1.alloc (.cells #[.slice a l.length cap, .int .i64 0] 109) := ⟨_, rfl⟩
  have B2 : Below w.heap.size w W2 := by subst hW2; exact Rw.next B1 (below_alloc1 _ _)
  have z2 : W2.heap.size = w.heap.size + 1 + 1 := by subst hW2; simp; omega
  have k2 : Rdr W2 (w.heap.size + 1) a cap l 0 := by subst hW2; exact at_new (by omega)
  have kR2 : W2.heap[w.heap.size]? = some (.cells #[.int .i64 0, .int .i64 0, .int .i64 0, .int .i64 0, .int .i64 0, .slice none 0 0, .slice none 0 0, .slice none 0 0, .bool false, .slice none 0 0] 30 (0, 0)) := by subst hW2; rw [at_old (by omega)]; exact kR
  have hm := msg_any (w.heap.size + 1) a b off cap 0 l W2 k2 (h.below B2) (by omega)
  generalize xI l = x at *
  have HL : Hid (¬ Ja.writtenL x = l) := hL
  have HRD : Hid (Rd w a b off l) := h
  clear hL h kR k2
  go_enter Try.func16, Try.ntmps16
  go_upto_region 5 with (go_at_call 69; rw [← hW1]; clear hW1; refine hcd.mono ?_; rintro e w1 ⟨rfl, hw⟩; replace hw := hw.symm; subst hw)
  rw [← hW2]
  clear hW2 hcd
  go_wp2_with (first
    | (go_at_call 70; refine hm.mono ?_; rintro e w3 ⟨f, rfl, sf, okf, wtf, apf, uf, on3⟩; have z3 := on3.size; have B3 : Below w.heap.size w w3 := on3.below B2 (by omega) (by omega); have kR3 := (on3.block w.heap.size (by omega) (by simp)).trans kR2; clear hm kR2; obtain ⟨W4, hW4⟩ : ∃ W4, W4 = w3.alloc (.cells f.vals 30) := ⟨_, rfl⟩; have B34 : Below w3.heap.size w3 W4 := (by subst hW4; exact below_alloc1 _ _); have kM4 : W4.heap[w3.heap.size]? = some (.cells f.vals 30 (0, 0)) := (by subst hW4; exact at_new rfl); have kR4 := (B34.block _ (by omega)).trans kR3; have B4 := Rw.next B3 B34; have hI := Ja.bytesI f W4 (okf.below B34); replace okf := okf.below B34; replace wtf := wtf.below B34; rw [sf] at hI; simp only [Ga.msg_vals] at hW4 kM4 hI ⊢; clear kR3 B34 on3)
    | (go_at_call 14; rw [← hW4]; clear hW4; refine hI.mono ?_; rintro e w5 ⟨ga, gg, gc, rfl, gwt, glo, gnil, gcap, hb5⟩; have kM5 := (hb5.block _ (Ea.blk_lt kM4)).trans kM4; have kR5 := (hb5.block _ (Ea.blk_lt kR4)).trans kR4; have B5 := Rw.next B4 hb5; replace okf := okf.below hb5; replace wtf := wtf.below hb5; clear hI gnil gcap hb5 kM4 kR4; have rd5 := HRD.out.below B5)
    | (go_at_call 71; refine (equal_any _ _ _ _ _ _ _ _ _ _ _ gwt.rd rd5).mono ?_; rw [decide_eq_false HL.out]; rintro e w6 ⟨rfl, hw⟩; replace hw := hw.symm; subst hw; obtain ⟨y0, y1, y2, y3, y4, y5, y6, y7, y8, y9⟩ := Ga.ten kM5; obtain ⟨r0, r1, r2, r3, r4, r5, r6, r7, r8, r9⟩ := Ga.ten kR5; have fR := Bl.free kR5))
  refine bodyPost_ret (v := .tuple #[.agg #[.int .i64 0, .int .i64 0, .int .i64 0, .int .i64 0, .int .i64 0, .slice none 0 0, .slice none 0 0, .slice none 0 0, .bool false, .slice none 0 0], .int .i64 5]) (by simp [results, Try.results16, go_sem, r0, r1, r2, r3, r4, r5, r6, r7, r8, r9]) rfl ?_
  refine resF_no 5 ?_
  refine Only.below (g := w.heap.size) ?_ B5 B5.size (Nat.le_refl _)
  repeat (first | with_reducible exact Only.refl _ _ | refine Only.set ?_ _)
set_option maxHeartbeats 4000000 in
theorem read_yes (a : Option Addr) (b off cap : Nat) (l : List Int) (w : World) (h : Rd w a b off l) (hlt : l.length = 0 ∨ b < w.heap.size) (hc : code l = 0) (hL : Ja.writtenL (xI l) = l) :
    Calls Try.prog 16 #[.slice a l.length cap] w (ResF w (xI l) 0) := by
  obtain ⟨W1, hW1⟩ : ∃ W1, W1 = w.alloc (.cells #[.int .i64 0, .int .i64 0, .int .i64 0, .int .i64 0, .int .i64 0, .slice none 0 0, .slice none 0 0, .slice none 0 0, .bool false, .slice none 0 0] 30) := ⟨_, rfl⟩
  have B1 : Below w.heap.size w W1 := by subst hW1; exact below_alloc1 _ _
  have z1 : W1.heap.size = w.heap.size + 1 := by subst hW1; simp
  have kR : W1.heap[w.heap.size]? = some (.cells #[.int .i64 0, .int .i64 0, .int .i64 0, .int .i64 0, .int .i64 0, .slice none 0 0, .slice none 0 0, .slice none 0 0, .bool false, .slice none 0 0] 30 (0, 0)) := by subst hW1; exact at_new rfl
  have hcd := code_any a b off cap l W1 (h.below B1)
  rw [hc] at hcd
  clear hc
  obtain ⟨W2, hW2⟩ : ∃ W2, W2 = W1.alloc (.cells #[.slice a l.length cap, .int .i64 0] 109) := ⟨_, rfl⟩
  have B2 : Below w.heap.size w W2 := by subst hW2; exact Rw.next B1 (below_alloc1 _ _)
  have z2 : W2.heap.size = w.heap.size + 1 + 1 := by subst hW2; simp; omega
  have k2 : Rdr W2 (w.heap.size + 1) a cap l 0 := by subst hW2; exact at_new (by omega)
  have kR2 : W2.heap[w.heap.size]? = some (.cells #[.int .i64 0, .int .i64 0, .int .i64 0, .int .i64 0, .int .i64 0, .slice none 0 0, .slice none 0 0, .slice none 0 0, .bool false, .slice none 0 0] 30 (0, 0)) := by subst hW2; rw [at_old (by omega)]; exact kR
  have hm := msg_any (w.heap.size + 1) a b off cap 0 l W2 k2 (h.below B2) (by omega)
  generalize xI l = x at *
  have HL : Hid (Ja.writtenL x = l) := hL
  have HRD : Hid (Rd w a b off l) := h
  clear hL h kR k2
  go_enter Try.func16, Try.ntmps16
  go_upto_region 5 with (go_at_call 69; rw [← hW1]; clear hW1; refine hcd.mono ?_; rintro e w1 ⟨rfl, hw⟩; replace hw := hw.symm; subst hw)
  rw [← hW2]
  clear hW2 hcd
  go_wp2_with (first
    | (go_at_call 70; refine hm.mono ?_; rintro e w3 ⟨f, rfl, sf, okf, wtf, apf, uf, on3⟩; have z3 := on3.size; have B3 : Below w.heap.size w w3 := on3.below B2 (by omega) (by omega); have kR3 := (on3.block w.heap.size (by omega) (by simp)).trans kR2; clear hm kR2; obtain ⟨W4, hW4⟩ : ∃ W4, W4 = w3.alloc (.cells f.vals 30) := ⟨_, rfl⟩; have B34 : Below w3.heap.size w3 W4 := (by subst hW4; exact below_alloc1 _ _); have kM4 : W4.heap[w3.heap.size]? = some (.cells f.vals 30 (0, 0)) := (by subst hW4; exact at_new rfl); have kR4 := (B34.block _ (by omega)).trans kR3; have B4 := Rw.next B3 B34; have hI := Ja.bytesI f W4 (okf.below B34); replace okf := okf.below B34; replace wtf := wtf.below B34; rw [sf] at hI; simp only [Ga.msg_vals] at hW4 kM4 hI ⊢; clear kR3 B34 on3)
    | (go_at_call 14; rw [← hW4]; clear hW4; refine hI.mono ?_; rintro e w5 ⟨ga, gg, gc, rfl, gwt, glo, gnil, gcap, hb5⟩; have kM5 := (hb5.block _ (Ea.blk_lt kM4)).trans kM4; have kR5 := (hb5.block _ (Ea.blk_lt kR4)).trans kR4; have B5 := Rw.next B4 hb5; replace okf := okf.below hb5; replace wtf := wtf.below hb5; clear hI gnil gcap hb5 kM4 kR4; have rd5 := HRD.out.below B5)
    | (go_at_call 71; refine (equal_any _ _ _ _ _ _ _ _ _ _ _ gwt.rd rd5).mono ?_; rw [decide_eq_true HL.out]; rintro e w6 ⟨rfl, hw⟩; replace hw := hw.symm; subst hw; obtain ⟨y0, y1, y2, y3, y4, y5, y6, y7, y8, y9⟩ := Ga.ten kM5; obtain ⟨r0, r1, r2, r3, r4, r5, r6, r7, r8, r9⟩ := Ga.ten kR5; have fR := Bl.free kR5))
  have uu : ∀ y, Jm.Use4 f y → y ≠ w.heap.size := fun y hy => by have := uf y hy; omega
  have on5 := ((((((((((Only.refl w.heap.size w5).set (o := 0) (.int .i64 f.kd)).set (o := 1) (.int .i64 f.se)).set (o := 2) (.int .i64 f.xi)).set (o := 3) (.int .i64 f.e.ep)).set (o := 4) (.int .i64 f.e.pr)).set (o := 5) (.slice f.e.aV f.e.V.length f.e.cV)).set (o := 6) (.slice f.e.aM f.e.M.length f.e.cM)).set (o := 7) (.slice f.e.aA f.e.A.length f.e.cA)).set (o := 8) (.bool f.hd)).set (o := 9) (.slice f.aH f.H.length f.cH)
  refine bodyPost_ret (v := .tuple #[.agg f.vals, .int .i64 0]) (by simp [results, Try.results16, go_sem, r0, r1, r2, r3, r4, r5, r6, r7, r8, r9, Ga.msg_vals]) rfl ⟨f, rfl, sf, ok_only okf on5 uu, wtm_only wtf on5 uu, apf, fun y hy => (by have := uf y hy; omega), ?_⟩
  exact on5.below B5 B5.size (Nat.le_refl _)

/-- What MsgRead answers: the message and the code. -/
def readL (l : List Int) : Ga.Said × Int := if code l ≠ 0 then (said0, code l) else if Ja.writtenL (xI l) = l then (xI l, 0) else (said0, 5)
theorem read_any (a : Option Addr) (b off cap : Nat) (l : List Int) (w : World) (h : Rd w a b off l) (hlt : l.length = 0 ∨ b < w.heap.size) :
    Calls Try.prog 16 #[.slice a l.length cap] w (ResF w (readL l).1 (readL l).2) := by
  unfold readL
  by_cases hc : code l = 0
  · rw [if_neg (by simpa using hc)]
    by_cases hL : Ja.writtenL (xI l) = l
    · rw [if_pos hL]; exact read_yes a b off cap l w h hlt hc hL
    · rw [if_neg hL]; exact read_bad a b off cap l w h hlt hc hL
  · rw [if_pos hc]; exact read_no a b off cap l w h hc

end Go.Proofs.Ytcbhpmgjmpbpmaa.Wa
namespace Go.Proofs.Ytcbhpmgjmpbpmaa.Mj
set_option maxRecDepth 8000
open Go Go.RowKit
open Num Pl Hr Hh Hf Hg Pa Pm Po Pq Pe Mi
set_option linter.unusedSimpArgs false

theorem resMB_none {w w' : World} (h : Below w.heap.size w w') : ResMB w false [] [] (.returned (.tuple #[.agg #[.slice none 0 0, .slice none 0 0], .bool false])) w' :=
  ⟨none, w.heap.size, 0, none, w.heap.size + 1, 0, rfl, Wt.nil _ _ _, Wt.nil _ _ _, Nat.le_refl _, Nat.le_succ _, by omega, h⟩

set_option maxHeartbeats 2000000 in
theorem meet_wrong (a1 a2 a3 a4 : Option Addr) (n1 n2 n3 n4 c1 c2 c3 c4 : Nat) (x y x' y' : Nat → Int) (w : World) (h : Two a1 a2 a3 a4 n1 n2 n3 n4 c1 c2 c3 c4 x y x' y' false w) :
    Calls Try.prog 60 #[.agg #[.slice a1 n1 c1, .slice a2 n2 c2], .agg #[.slice a3 n3 c3, .slice a4 n4 c4]] w (ResMB w false [] []) := by
  have HT : Hid (Two a1 a2 a3 a4 n1 n2 n3 n4 c1 c2 c3 c4 x y x' y' false w) := h
  obtain ⟨W0, hW0⟩ : ∃ W0, W0 = (((w.alloc (.cells #[.slice a1 n1 c1, .slice a2 n2 c2] 25)).alloc (.cells #[.slice a3 n3 c3, .slice a4 n4 c4] 25)).alloc (.cells #[.slice none 0 0, .slice none 0 0] 25)) := ⟨_, rfl⟩
  have B : Below w.heap.size w W0 := by subst hW0; exact Rw.next (below2 _ _ _) (below_alloc1 _ _)
  have kR : W0.heap[w.heap.size + 1 + 1]? = some (.cells #[.slice none 0 0, .slice none 0 0] 25 (0, 0)) := by subst hW0; exact at_new (by simp)
  have zR : w.heap.size + 1 + 1 < W0.heap.size := (Array.getElem?_eq_some_iff.1 kR).1
  clear h
  have tok1 : True := trivial
  go_enter Try.func60, Try.ntmps60
  go_wp2_with (first
    | (go_at_call 140; rw [← hW0]; clear hW0; refine (HT.out _ B).mono ?_; rintro e wa ⟨rfl, hb⟩; have ZB := Nat.le_trans B.size hb.size; replace kR := (hb.block _ zR).trans kR; replace zR := Nat.lt_of_lt_of_le zR hb.size; replace B := Rw.next B hb; clear hb HT)
    | (clear tok1; refine store66 rfl _ _ rfl rfl rfl (has_old (has_zero rfl)) (fun w1 hX hS => ?_); have hZ := hS.has (has_zero (g := wa.heap.size + 1) (by simp)) (by simp); replace B := hS.below (Rw.next B (below2 _ _ _)) B.size; replace kR := (hS.block _ (Nat.ne_of_lt zR)).trans (((below2 _ _ _).block _ zR).trans kR); have tok2 : True := trivial; clear hS)
    | (clear tok2; refine store66 rfl _ _ rfl rfl rfl hZ (fun w2 hY hS => ?_); replace hX := hS.has hX (by simp); replace B := hS.below B (Nat.le_succ_of_le ZB); replace kR := (hS.block _ (Nat.ne_of_lt (Nat.lt_succ_of_lt zR))).trans kR; have zW : w.heap.size + 1 + 1 < w2.heap.size := (Array.getElem?_eq_some_iff.1 kR).1; clear hS hZ))
  refine wp_region_held_drew (S := (fun w' => Has w' wa.heap.size x y ∧ Has w' (wa.heap.size + 1) x' y')) (by kernel_rfl) ⟨hX.drew, hY.drew⟩ (fun hHeld => ?_)
  refine take (i := 0) (d := some 16) (v := .bool false) rfl (by kernel_rfl) (by kernel_rfl) (by kernel_rfl) (by kernel_rfl) (fun _ _ _ h => h) (Or.inl ⟨by rfl, by intro w hSw; go_simp⟩) hHeld ?_
  simp only [Act.put, List.setIfInBounds_toArray, List.set_cons_zero, List.set_cons_succ]
  refine take (i := 1) (d := some 17) (v := .bool true) rfl (by kernel_rfl) (by kernel_rfl) (by kernel_rfl) (by kernel_rfl) (fun _ _ _ h => h) (Or.inl ⟨by rfl, by intro w hSw; go_simp⟩) hHeld ?_
  simp only [Act.put, List.setIfInBounds_toArray, List.set_cons_zero, List.set_cons_succ]
  refine take (i := 2) (d := some 18) (v := .bool true) rfl (by kernel_rfl) (by kernel_rfl) (by kernel_rfl) (by kernel_rfl) (fun _ _ _ h => h) (Or.inl ⟨by rfl, by intro w hSw; go_simp⟩) hHeld ?_
  simp only [Act.put, List.setIfInBounds_toArray, List.set_cons_zero, List.set_cons_succ]
  refine take (i := 3) (d := some 19) (v := undef) rfl (by kernel_rfl) (by kernel_rfl) (by kernel_rfl) (by kernel_rfl) (fun _ _ _ h => h) (Or.inr ⟨by rfl, rfl⟩) hHeld ?_
  simp only [Act.put, List.setIfInBounds_toArray, List.set_cons_zero, List.set_cons_succ]
  refine take (i := 4) (d := some 20) (v := undef) rfl (by kernel_rfl) (by kernel_rfl) (by kernel_rfl) (by kernel_rfl) (fun _ _ _ h => h) (Or.inr ⟨by rfl, rfl⟩) hHeld ?_
  simp only [Act.put, List.setIfInBounds_toArray, List.set_cons_zero, List.set_cons_succ]
  refine take (i := 5) (d := some 21) (v := undef) rfl (by kernel_rfl) (by kernel_rfl) (by kernel_rfl) (by kernel_rfl) (fun _ _ _ h => h) (Or.inr ⟨by rfl, rfl⟩) hHeld ?_
  simp only [Act.put, List.setIfInBounds_toArray, List.set_cons_zero, List.set_cons_succ]
  refine take (i := 6) (d := some 22) (v := undef) rfl (by kernel_rfl) (by kernel_rfl) (by kernel_rfl) (by kernel_rfl) (fun _ _ _ h => h) (Or.inr ⟨by rfl, rfl⟩) hHeld ?_
  simp only [Act.put, List.setIfInBounds_toArray, List.set_cons_zero, List.set_cons_succ]
  refine take (i := 7) (d := some 23) (v := undef) rfl (by kernel_rfl) (by kernel_rfl) (by kernel_rfl) (by kernel_rfl) (fun _ _ _ h => h) (Or.inr ⟨by rfl, rfl⟩) hHeld ?_
  simp only [Act.put, List.setIfInBounds_toArray, List.set_cons_zero, List.set_cons_succ]
  refine take (i := 8) (d := some 24) (v := undef) rfl (by kernel_rfl) (by kernel_rfl) (by kernel_rfl) (by kernel_rfl) (fun _ _ _ h => h) (Or.inr ⟨by rfl, rfl⟩) hHeld ?_
  simp only [Act.put, List.setIfInBounds_toArray, List.set_cons_zero, List.set_cons_succ]
  refine take (i := 9) (d := some 25) (v := undef) rfl (by kernel_rfl) (by kernel_rfl) (by kernel_rfl) (by kernel_rfl) (fun _ _ _ h => h) (Or.inr ⟨by rfl, rfl⟩) hHeld ?_
  simp only [Act.put, List.setIfInBounds_toArray, List.set_cons_zero, List.set_cons_succ]
  refine take (i := 10) (d := some 26) (v := .bool true) rfl (by kernel_rfl) (by kernel_rfl) (by kernel_rfl) (by kernel_rfl) (fun _ _ _ h => h) (Or.inl ⟨by rfl, by intro w hSw; go_simp⟩) hHeld ?_
  simp only [Act.put, List.setIfInBounds_toArray, List.set_cons_zero, List.set_cons_succ]
  refine wpAnyH_done (by kernel_rfl) ?_ _
  obtain ⟨r0, r1⟩ := two kR
  have fr := Bl.free kR
  go_wp2
  refine bodyPost_ret (v := .tuple #[.agg #[.slice none 0 0, .slice none 0 0], .bool false]) (by simp [results, Try.results60, go_sem, r0, r1]) rfl (resMB_none ?_)
  exact (bset (bset B (by omega)) (by omega)).drew

set_option maxHeartbeats 4000000 in
theorem meet_no (a1 a2 a3 a4 : Option Addr) (n1 n2 n3 n4 c1 c2 c3 c4 : Nat) (x y x' y' : Nat → Int) (w : World) (h : Two a1 a2 a3 a4 n1 n2 n3 n4 c1 c2 c3 c4 x y x' y' true w) (hR : sameB (fun k => bits .and .i64 (x k) (y' k)) (fun k => bits .and .i64 (y k) (y' k)) (fun k => bits .and .i64 (x' k) (y k)) (fun k => bits .and .i64 (y' k) (y k)) = false) :
    Calls Try.prog 60 #[.agg #[.slice a1 n1 c1, .slice a2 n2 c2], .agg #[.slice a3 n3 c3, .slice a4 n4 c4]] w (ResMB w false [] []) := by
  have heq := fun w => neq_any (fun k => bits .and .i64 (x k) (y' k)) (fun k => bits .and .i64 (y k) (y' k)) (fun k => bits .and .i64 (x' k) (y k)) (fun k => bits .and .i64 (y' k) (y k)) w
  rw [hR] at heq
  have hgd := guard66
  clear hR
  have HT : Hid (Two a1 a2 a3 a4 n1 n2 n3 n4 c1 c2 c3 c4 x y x' y' true w) := h
  obtain ⟨W0, hW0⟩ : ∃ W0, W0 = (((w.alloc (.cells #[.slice a1 n1 c1, .slice a2 n2 c2] 25)).alloc (.cells #[.slice a3 n3 c3, .slice a4 n4 c4] 25)).alloc (.cells #[.slice none 0 0, .slice none 0 0] 25)) := ⟨_, rfl⟩
  have B : Below w.heap.size w W0 := by subst hW0; exact Rw.next (below2 _ _ _) (below_alloc1 _ _)
  have kR : W0.heap[w.heap.size + 1 + 1]? = some (.cells #[.slice none 0 0, .slice none 0 0] 25 (0, 0)) := by subst hW0; exact at_new (by simp)
  have zR : w.heap.size + 1 + 1 < W0.heap.size := (Array.getElem?_eq_some_iff.1 kR).1
  clear h
  have tok1 : True := trivial
  go_enter Try.func60, Try.ntmps60
  go_wp2_with (first
    | (go_at_call 140; rw [← hW0]; clear hW0; refine (HT.out _ B).mono ?_; rintro e wa ⟨rfl, hb⟩; have ZB := Nat.le_trans B.size hb.size; replace kR := (hb.block _ zR).trans kR; replace zR := Nat.lt_of_lt_of_le zR hb.size; replace B := Rw.next B hb; clear hb HT)
    | (clear tok1; refine store66 rfl _ _ rfl rfl rfl (has_old (has_zero rfl)) (fun w1 hX hS => ?_); have hZ := hS.has (has_zero (g := wa.heap.size + 1) (by simp)) (by simp); replace B := hS.below (Rw.next B (below2 _ _ _)) B.size; replace kR := (hS.block _ (Nat.ne_of_lt zR)).trans (((below2 _ _ _).block _ zR).trans kR); have tok2 : True := trivial; clear hS)
    | (clear tok2; refine store66 rfl _ _ rfl rfl rfl hZ (fun w2 hY hS => ?_); replace hX := hS.has hX (by simp); replace B := hS.below B (Nat.le_succ_of_le ZB); replace kR := (hS.block _ (Nat.ne_of_lt (Nat.lt_succ_of_lt zR))).trans kR; have zW : w.heap.size + 1 + 1 < w2.heap.size := (Array.getElem?_eq_some_iff.1 kR).1; clear hS hZ))
  refine wp_region_held_drew (S := (fun w' => Has w' wa.heap.size x y ∧ Has w' (wa.heap.size + 1) x' y')) (by kernel_rfl) ⟨hX.drew, hY.drew⟩ (fun hHeld => ?_)
  refine take (i := 0) (d := some 16) (v := .bool true) rfl (by kernel_rfl) (by kernel_rfl) (by kernel_rfl) (by kernel_rfl) (fun _ _ _ h => h) (Or.inl ⟨by rfl, by intro w hSw; go_simp⟩) hHeld ?_
  simp only [Act.put, List.setIfInBounds_toArray, List.set_cons_zero, List.set_cons_succ]
  refine take (i := 1) (d := some 17) (v := .bool false) rfl (by kernel_rfl) (by kernel_rfl) (by kernel_rfl) (by kernel_rfl) (fun _ _ _ h => h) (Or.inl ⟨by rfl, by intro w hSw; go_simp⟩) hHeld ?_
  simp only [Act.put, List.setIfInBounds_toArray, List.set_cons_zero, List.set_cons_succ]
  refine take (i := 2) (d := some 18) (v := .bool false) rfl (by kernel_rfl) (by kernel_rfl) (by kernel_rfl) (by kernel_rfl) (fun _ _ _ h => h) (Or.inl ⟨by rfl, by intro w hSw; go_simp⟩) hHeld ?_
  simp only [Act.put, List.setIfInBounds_toArray, List.set_cons_zero, List.set_cons_succ]
  refine take (i := 3) (d := some 19) (v := _) rfl (by kernel_rfl) (by kernel_rfl) (by kernel_rfl) (by kernel_rfl) (fun _ _ _ h => h) (yields66 (by rfl) _ rfl rfl (fun w h => h.1)) hHeld ?_
  simp only [Act.put, List.setIfInBounds_toArray, List.set_cons_zero, List.set_cons_succ]
  refine take (i := 4) (d := some 20) (v := _) rfl (by kernel_rfl) (by kernel_rfl) (by kernel_rfl) (by kernel_rfl) (fun _ _ _ h => h) (yields66 (by rfl) _ rfl rfl (fun w h => h.2)) hHeld ?_
  simp only [Act.put, List.setIfInBounds_toArray, List.set_cons_zero, List.set_cons_succ]
  refine take (i := 6) (d := some 22) (v := _) rfl (by kernel_rfl) (by kernel_rfl) (by kernel_rfl) (by kernel_rfl) (fun _ _ _ h => h) (yields66 (by rfl) _ rfl rfl (fun w h => h.2)) hHeld ?_
  simp only [Act.put, List.setIfInBounds_toArray, List.set_cons_zero, List.set_cons_succ]
  refine take (i := 7) (d := some 23) (v := _) rfl (by kernel_rfl) (by kernel_rfl) (by kernel_rfl) (by kernel_rfl) (fun _ _ _ h => h) (yields66 (by rfl) _ rfl rfl (fun w h => h.1)) hHeld ?_
  simp only [Act.put, List.setIfInBounds_toArray, List.set_cons_zero, List.set_cons_succ]
  refine wpAnyH_ready (rs := [5]) (by kernel_rfl) (by simp) (readyCall2 rfl (by kernel_rfl) 141 (.tmp 19) (.tmp 20) 142 142 (by kernel_rfl) 21 (by kernel_rfl) _ _ (by kernel_rfl) (by kernel_rfl) (fun _ => rfl) (under_any x y x' y' _) (fun w3 hb => ⟨hX.drew.below hb, hY.drew.below hb⟩) (fun w3 hb hHeld => ?_) AllReadyH.nil)
  simp only [Act.put, List.setIfInBounds_toArray, List.set_cons_zero, List.set_cons_succ]
  replace hX := hX.drew.below hb
  replace hY := hY.drew.below hb
  replace kR := (hb.block _ zW).trans kR
  replace zW := Nat.lt_of_lt_of_le zW hb.size
  replace B := Rw.next B.drew hb
  clear hb
  refine wpAnyH_ready (rs := [8]) (by kernel_rfl) (by simp) (readyCall2 rfl (by kernel_rfl) 141 (.tmp 22) (.tmp 23) 142 142 (by kernel_rfl) 24 (by kernel_rfl) _ _ (by kernel_rfl) (by kernel_rfl) (fun _ => rfl) (under_any x' y' x y _) (fun w4 hb => ⟨hX.below hb, hY.below hb⟩) (fun w4 hb hHeld => ?_) AllReadyH.nil)
  simp only [Act.put, List.setIfInBounds_toArray, List.set_cons_zero, List.set_cons_succ]
  replace hX := hX.below hb
  replace hY := hY.below hb
  replace kR := (hb.block _ zW).trans kR
  replace zW := Nat.lt_of_lt_of_le zW hb.size
  replace B := Rw.next B hb
  clear hb
  refine take (i := 9) (d := some 25) (v := .bool true) rfl (by kernel_rfl) (by kernel_rfl) (by kernel_rfl) (by kernel_rfl) (fun _ _ _ h => h) (Or.inl ⟨by rfl, by intro w hSw; go_simp⟩) hHeld ?_
  simp only [Act.put, List.setIfInBounds_toArray, List.set_cons_zero, List.set_cons_succ]
  refine take (i := 10) (d := some 26) (v := .bool true) rfl (by kernel_rfl) (by kernel_rfl) (by kernel_rfl) (by kernel_rfl) (fun _ _ _ h => h) (Or.inl ⟨by rfl, by intro w hSw; go_simp⟩) hHeld ?_
  simp only [Act.put, List.setIfInBounds_toArray, List.set_cons_zero, List.set_cons_succ]
  refine wpAnyH_done (by kernel_rfl) ?_ _
  obtain ⟨r0, r1⟩ := two kR
  have fr := Bl.free kR
  go_wp2
  refine bodyPost_ret (v := .tuple #[.agg #[.slice none 0 0, .slice none 0 0], .bool false]) (by simp [results, Try.results60, go_sem, r0, r1]) rfl (resMB_none ?_)
  exact bset (bset B (by omega)) (by omega)

theorem wt_set2 {w : World} {a : Option Addr} {g b k : Nat} {l : List Int} {u : Value} (h : Wt w a g l) (hne : b ≠ g) : Wt (w.setCell ⟨b, k, none⟩ u) a g l := by
  have e : (w.setCell ⟨b, k, none⟩ u).heap[g]? = w.heap[g]? := Below.heap_setCell w _ u g (fun e => hne e.symm)
  refine ⟨h.head, fun i hi => ?_, fun i hi => ?_, h.size⟩
  · have := h.cell i hi
    simp only [World.cell?, e] at this ⊢
    exact this
  · have := h.free i hi
    simp only [World.frozen?, e] at this ⊢
    exact this

set_option maxHeartbeats 4000000 in
theorem meet_yes (a1 a2 a3 a4 : Option Addr) (n1 n2 n3 n4 c1 c2 c3 c4 : Nat) (x y x' y' : Nat → Int) (w : World) (h : Two a1 a2 a3 a4 n1 n2 n3 n4 c1 c2 c3 c4 x y x' y' true w) (hR : sameB (fun k => bits .and .i64 (x k) (y' k)) (fun k => bits .and .i64 (y k) (y' k)) (fun k => bits .and .i64 (x' k) (y k)) (fun k => bits .and .i64 (y' k) (y k)) = true) :
    Calls Try.prog 60 #[.agg #[.slice a1 n1 c1, .slice a2 n2 c2], .agg #[.slice a3 n3 c3, .slice a4 n4 c4]] w (ResMB w true (lst fun k => bits .or .i64 (x k) (x' k)) (lst fun k => bits .or .i64 (y k) (y' k))) := by
  have heq := fun w => neq_any (fun k => bits .and .i64 (x k) (y' k)) (fun k => bits .and .i64 (y k) (y' k)) (fun k => bits .and .i64 (x' k) (y k)) (fun k => bits .and .i64 (y' k) (y k)) w
  rw [hR] at heq
  have hgd := guard66
  clear hR
  have HT : Hid (Two a1 a2 a3 a4 n1 n2 n3 n4 c1 c2 c3 c4 x y x' y' true w) := h
  obtain ⟨W0, hW0⟩ : ∃ W0, W0 = (((w.alloc (.cells #[.slice a1 n1 c1, .slice a2 n2 c2] 25)).alloc (.cells #[.slice a3 n3 c3, .slice a4 n4 c4] 25)).alloc (.cells #[.slice none 0 0, .slice none 0 0] 25)) := ⟨_, rfl⟩
  have B : Below w.heap.size w W0 := by subst hW0; exact Rw.next (below2 _ _ _) (below_alloc1 _ _)
  have kR : W0.heap[w.heap.size + 1 + 1]? = some (.cells #[.slice none 0 0, .slice none 0 0] 25 (0, 0)) := by subst hW0; exact at_new (by simp)
  have zR : w.heap.size + 1 + 1 < W0.heap.size := (Array.getElem?_eq_some_iff.1 kR).1
  clear h
  have tok1 : True := trivial
  go_enter Try.func60, Try.ntmps60
  go_wp2_with (first
    | (go_at_call 140; rw [← hW0]; clear hW0; refine (HT.out _ B).mono ?_; rintro e wa ⟨rfl, hb⟩; have ZB := Nat.le_trans B.size hb.size; replace kR := (hb.block _ zR).trans kR; replace zR := Nat.lt_of_lt_of_le zR hb.size; replace B := Rw.next B hb; clear hb HT)
    | (clear tok1; refine store66 rfl _ _ rfl rfl rfl (has_old (has_zero rfl)) (fun w1 hX hS => ?_); have hZ := hS.has (has_zero (g := wa.heap.size + 1) (by simp)) (by simp); replace B := hS.below (Rw.next B (below2 _ _ _)) B.size; replace kR := (hS.block _ (Nat.ne_of_lt zR)).trans (((below2 _ _ _).block _ zR).trans kR); have tok2 : True := trivial; clear hS)
    | (clear tok2; refine store66 rfl _ _ rfl rfl rfl hZ (fun w2 hY hS => ?_); replace hX := hS.has hX (by simp); replace B := hS.below B (Nat.le_succ_of_le ZB); replace kR := (hS.block _ (Nat.ne_of_lt (Nat.lt_succ_of_lt zR))).trans kR; have zW : w.heap.size + 1 + 1 < w2.heap.size := (Array.getElem?_eq_some_iff.1 kR).1; clear hS hZ))
  refine wp_region_held_drew (S := (fun w' => Has w' wa.heap.size x y ∧ Has w' (wa.heap.size + 1) x' y')) (by kernel_rfl) ⟨hX.drew, hY.drew⟩ (fun hHeld => ?_)
  refine take (i := 0) (d := some 16) (v := .bool true) rfl (by kernel_rfl) (by kernel_rfl) (by kernel_rfl) (by kernel_rfl) (fun _ _ _ h => h) (Or.inl ⟨by rfl, by intro w hSw; go_simp⟩) hHeld ?_
  simp only [Act.put, List.setIfInBounds_toArray, List.set_cons_zero, List.set_cons_succ]
  refine take (i := 1) (d := some 17) (v := .bool false) rfl (by kernel_rfl) (by kernel_rfl) (by kernel_rfl) (by kernel_rfl) (fun _ _ _ h => h) (Or.inl ⟨by rfl, by intro w hSw; go_simp⟩) hHeld ?_
  simp only [Act.put, List.setIfInBounds_toArray, List.set_cons_zero, List.set_cons_succ]
  refine take (i := 2) (d := some 18) (v := .bool false) rfl (by kernel_rfl) (by kernel_rfl) (by kernel_rfl) (by kernel_rfl) (fun _ _ _ h => h) (Or.inl ⟨by rfl, by intro w hSw; go_simp⟩) hHeld ?_
  simp only [Act.put, List.setIfInBounds_toArray, List.set_cons_zero, List.set_cons_succ]
  refine take (i := 3) (d := some 19) (v := _) rfl (by kernel_rfl) (by kernel_rfl) (by kernel_rfl) (by kernel_rfl) (fun _ _ _ h => h) (yields66 (by rfl) _ rfl rfl (fun w h => h.1)) hHeld ?_
  simp only [Act.put, List.setIfInBounds_toArray, List.set_cons_zero, List.set_cons_succ]
  refine take (i := 4) (d := some 20) (v := _) rfl (by kernel_rfl) (by kernel_rfl) (by kernel_rfl) (by kernel_rfl) (fun _ _ _ h => h) (yields66 (by rfl) _ rfl rfl (fun w h => h.2)) hHeld ?_
  simp only [Act.put, List.setIfInBounds_toArray, List.set_cons_zero, List.set_cons_succ]
  refine take (i := 6) (d := some 22) (v := _) rfl (by kernel_rfl) (by kernel_rfl) (by kernel_rfl) (by kernel_rfl) (fun _ _ _ h => h) (yields66 (by rfl) _ rfl rfl (fun w h => h.2)) hHeld ?_
  simp only [Act.put, List.setIfInBounds_toArray, List.set_cons_zero, List.set_cons_succ]
  refine take (i := 7) (d := some 23) (v := _) rfl (by kernel_rfl) (by kernel_rfl) (by kernel_rfl) (by kernel_rfl) (fun _ _ _ h => h) (yields66 (by rfl) _ rfl rfl (fun w h => h.1)) hHeld ?_
  simp only [Act.put, List.setIfInBounds_toArray, List.set_cons_zero, List.set_cons_succ]
  refine wpAnyH_ready (rs := [5]) (by kernel_rfl) (by simp) (readyCall2 rfl (by kernel_rfl) 141 (.tmp 19) (.tmp 20) 142 142 (by kernel_rfl) 21 (by kernel_rfl) _ _ (by kernel_rfl) (by kernel_rfl) (fun _ => rfl) (under_any x y x' y' _) (fun w3 hb => ⟨hX.drew.below hb, hY.drew.below hb⟩) (fun w3 hb hHeld => ?_) AllReadyH.nil)
  simp only [Act.put, List.setIfInBounds_toArray, List.set_cons_zero, List.set_cons_succ]
  replace hX := hX.drew.below hb
  replace hY := hY.drew.below hb
  replace kR := (hb.block _ zW).trans kR
  replace zW := Nat.lt_of_lt_of_le zW hb.size
  replace B := Rw.next B.drew hb
  clear hb
  refine wpAnyH_ready (rs := [8]) (by kernel_rfl) (by simp) (readyCall2 rfl (by kernel_rfl) 141 (.tmp 22) (.tmp 23) 142 142 (by kernel_rfl) 24 (by kernel_rfl) _ _ (by kernel_rfl) (by kernel_rfl) (fun _ => rfl) (under_any x' y' x y _) (fun w4 hb => ⟨hX.below hb, hY.below hb⟩) (fun w4 hb hHeld => ?_) AllReadyH.nil)
  simp only [Act.put, List.setIfInBounds_toArray, List.set_cons_zero, List.set_cons_succ]
  replace hX := hX.below hb
  replace hY := hY.below hb
  replace kR := (hb.block _ zW).trans kR
  replace zW := Nat.lt_of_lt_of_le zW hb.size
  replace B := Rw.next B hb
  clear hb
  refine take (i := 9) (d := some 25) (v := .bool false) rfl (by kernel_rfl) (by kernel_rfl) (by kernel_rfl) (by kernel_rfl) (fun _ _ _ h => h) (Or.inl ⟨by rfl, by intro w hSw; go_simp⟩) hHeld ?_
  simp only [Act.put, List.setIfInBounds_toArray, List.set_cons_zero, List.set_cons_succ]
  refine take (i := 10) (d := some 26) (v := .bool false) rfl (by kernel_rfl) (by kernel_rfl) (by kernel_rfl) (by kernel_rfl) (fun _ _ _ h => h) (Or.inl ⟨by rfl, by intro w hSw; go_simp⟩) hHeld ?_
  simp only [Act.put, List.setIfInBounds_toArray, List.set_cons_zero, List.set_cons_succ]
  refine wpAnyH_done (by kernel_rfl) ?_ _
  obtain ⟨r0, r1⟩ := two kR
  have fr := Bl.free kR
  have sW := B.size
  go_wp2_with (first
    | (refine load66 rfl _ rfl rfl hX ?_)
    | (refine load66 rfl _ rfl rfl hY ?_)
    | (go_at_call 145; refine (with_any x y x' y' _).mono ?_; rintro e w5 ⟨rfl, hb⟩; replace kR := (hb.block _ zW).trans kR; replace zW := Nat.lt_of_lt_of_le zW hb.size; replace B := Rw.next B hb; clear r0 r1 fr hb hX hY)
    | (go_at_call 146; refine (match_any _ _ _).mono ?_; rintro e w6 ⟨aV, gV, cV, aM, gM, cM, rfl, hV, hM, l1, l2, l3, hb⟩; replace kR := (hb.block _ zW).trans kR; have zg := zW; replace B := Rw.next B hb; obtain ⟨r0, r1⟩ := two kR; have fr := Bl.free kR; clear hb))
  refine bodyPost_ret (v := .tuple #[.agg #[.slice aV (lst _).length cV, .slice aM (lst _).length cM], .bool true]) (by simp [results, Try.results60, go_sem, r0, r1]) rfl ⟨aV, gV, cV, aM, gM, cM, rfl, ?_, ?_, by omega, by omega, l3, ?_⟩
  · exact wt_set2 (wt_set2 hV (by omega)) (by omega)
  · exact wt_set2 (wt_set2 hM (by omega)) (by omega)
  · exact bset (bset B (by omega)) (by omega)

end Go.Proofs.Ytcbhpmgjmpbpmaa.Mj
namespace Go.Proofs.Ytcbhpmgjmpbpmaa.Mo
set_option maxRecDepth 8000
open Go Go.RowKit
open Num Pl Hr Hh Hf Hg Pa Pm Po Pq Mi Bw
set_option linter.unusedSimpArgs false
set_option linter.unusedVariables false

/-- The n highest bits of a field, as an integer. -/
def topI (f n : Nat) : Int := ((Bt.top (fbN f) n : Nat) : Int)

theorem top_eq (b n c : Nat) (h : b = n + c) (hb : b ≤ 48) : IntKind.i64.wrap (IntKind.i64.wrap ((2 : Int) ^ b) - IntKind.i64.wrap ((2 : Int) ^ c)) = ((Bt.top b n : Nat) : Int) := by
  have e : ∀ k : Nat, k ≤ 48 → IntKind.i64.wrap ((2 : Int) ^ k) = ((2 ^ k : Nat) : Int) ∧ (2 ^ k : Nat) ≤ 281474976710656 := by
    intro k hk
    have h1 : (2 ^ k : Nat) ≤ 2 ^ 48 := Nat.pow_le_pow_right (by decide) hk
    have h2 : (2 : Int) ^ k = ((2 ^ k : Nat) : Int) := by rw [Int.natCast_pow]; rfl
    rw [h2]
    have h3 : (2 ^ k : Nat) ≤ 281474976710656 := h1
    clear h2 h1
    generalize (2 ^ k : Nat) = Q at h3 ⊢
    exact ⟨Get.wraps_i64 _ (by omega) (by omega), h3⟩
  obtain ⟨e1, l1⟩ := e b hb
  obtain ⟨e2, l2⟩ := e c (by omega)
  rw [e1, e2]
  have et : (2 ^ b : Nat) = Bt.top b n + 2 ^ c := by
    unfold Bt.top
    subst h
    rw [Nat.add_sub_cancel_left, Nat.pow_add]
    have hp : 0 < 2 ^ n := Nat.pow_pos (by decide)
    generalize 2 ^ n = P at *
    generalize 2 ^ c = Q at *
    obtain ⟨p, rfl⟩ : ∃ p, P = p + 1 := ⟨P - 1, by omega⟩
    rw [Nat.add_sub_cancel, Nat.add_mul, Nat.one_mul]
  have e3 : ((2 ^ b : Nat) : Int) - ((2 ^ c : Nat) : Int) = ((Bt.top b n : Nat) : Int) := by
    rw [et]
    generalize (2 ^ c : Nat) = Q
    generalize Bt.top b n = P
    omega
  rw [e3]
  have : Bt.top b n ≤ 2 ^ b := by rw [et]; exact Nat.le_add_right _ _
  generalize (2 ^ b : Nat) = Q at *
  exact Get.wraps_i64 _ (by omega) (by omega)

set_option maxHeartbeats 1000000 in
theorem high_any (f n : Nat) (hf : f < 8) (hn : n ≤ fbN f) (w : World) :
    Calls Try.prog 192 #[.int .i64 f, .int .i64 n] w fun e w' => e = .returned (.int .i64 (topI f n)) ∧ Below w.heap.size w w' := by
  have hb : ∀ w, Calls Try.prog 193 #[.int .i64 f] w fun e w' => e = .returned (.int .i64 (fbN f : Int)) ∧ w' = w := fun w => by have := implBits_any f w; rw [fbN_eq] at this; exact this
  have HB : Hid (∀ w, Calls Try.prog 193 #[.int .i64 f] w fun e w' => e = .returned (.int .i64 (fbN f : Int)) ∧ w' = w) := hb
  clear hb
  have h48 := fbN_le f
  unfold topI
  generalize fbN f = b at *
  obtain ⟨c, hc⟩ : ∃ c, b = n + c := ⟨b - n, by omega⟩
  have HBC : Hid (b = n + c) := hc
  have e11 : IntKind.i64.wrap ((b : Int) - (n : Int)) = (c : Int) := by
    have e : (b : Int) - (n : Int) = c := by omega
    rw [e]
    exact Get.wraps_i64 _ (by omega) (by omega)
  have hc64 : (c : Int) ≤ 64 := by omega
  have hb64 : (b : Int) ≤ 64 := by omega
  clear hc hn
  go_enter Try.func192, Try.ntmps192
  go_wp2
  refine wp_region_held_drew (S := fun _ => True) (by kernel_rfl) trivial (fun hHeld => ?_)
  refine take (i := 0) (d := some 5) (v := .int .i64 f) rfl (by kernel_rfl) (by kernel_rfl) (by kernel_rfl) (by kernel_rfl) (fun _ _ _ h => h) (Or.inl ⟨by rfl, by intro w hSw; go_simp⟩) hHeld ?_
  simp only [Act.put, List.setIfInBounds_toArray, List.set_cons_zero, List.set_cons_succ]
  refine take (i := 3) (d := some 8) (v := .int .i64 f) rfl (by kernel_rfl) (by kernel_rfl) (by kernel_rfl) (by kernel_rfl) (fun _ _ _ h => h) (Or.inl ⟨by rfl, by intro w hSw; go_simp⟩) hHeld ?_
  simp only [Act.put, List.setIfInBounds_toArray, List.set_cons_zero, List.set_cons_succ]
  refine take (i := 5) (d := some 10) (v := .int .i64 n) rfl (by kernel_rfl) (by kernel_rfl) (by kernel_rfl) (by kernel_rfl) (fun _ _ _ h => h) (Or.inl ⟨by rfl, by intro w hSw; go_simp⟩) hHeld ?_
  simp only [Act.put, List.setIfInBounds_toArray, List.set_cons_zero, List.set_cons_succ]
  refine wpAnyH_ready (rs := [1]) (by kernel_rfl) (by simp) (Rg.call1 rfl (by kernel_rfl) 193 (.tmp 5) 3 (by kernel_rfl) 6 (by kernel_rfl) (.int .i64 f) (by kernel_rfl) (fun _ => rfl) (HB.out _) ?_ AllReadyH.nil)
  rintro e wq ⟨rfl, hwq⟩
  subst hwq
  refine ⟨_, rfl, trivial, fun hHeld => ?_⟩
  simp only [Act.put, List.setIfInBounds_toArray, List.set_cons_zero, List.set_cons_succ]
  refine' take (i := 2) (d := some 7) (v := _) rfl (by kernel_rfl) (by kernel_rfl) (by kernel_rfl) (by kernel_rfl) (fun _ _ _ h => h) (Or.inl ⟨by rfl, ?hy2⟩) hHeld ?rest2
  case hy2 => intro w hSw; go_simp; rfl
  simp only [Act.put, List.setIfInBounds_toArray, List.set_cons_zero, List.set_cons_succ]
  refine wpAnyH_ready (rs := [4]) (by kernel_rfl) (by simp) (Rg.call1 rfl (by kernel_rfl) 193 (.tmp 8) 3 (by kernel_rfl) 9 (by kernel_rfl) (.int .i64 f) (by kernel_rfl) (fun _ => rfl) (HB.out _) ?_ AllReadyH.nil)
  rintro e wq ⟨rfl, hwq⟩
  subst hwq
  refine ⟨_, rfl, trivial, fun hHeld => ?_⟩
  simp only [Act.put, List.setIfInBounds_toArray, List.set_cons_zero, List.set_cons_succ]
  refine take (i := 6) (d := some 11) (v := .int .i64 c) rfl (by kernel_rfl) (by kernel_rfl) (by kernel_rfl) (by kernel_rfl) (fun _ _ _ h => h) (Or.inl ⟨by rfl, by intro w hSw; go_simp⟩) hHeld ?_
  simp only [Act.put, List.setIfInBounds_toArray, List.set_cons_zero, List.set_cons_succ]
  refine' take (i := 7) (d := some 12) (v := _) rfl (by kernel_rfl) (by kernel_rfl) (by kernel_rfl) (by kernel_rfl) (fun _ _ _ h => h) (Or.inl ⟨by rfl, ?hy7⟩) hHeld ?rest7
  case hy7 => intro w hSw; go_simp; rfl
  simp only [Act.put, List.setIfInBounds_toArray, List.set_cons_zero, List.set_cons_succ]
  refine' take (i := 8) (d := some 13) (v := _) rfl (by kernel_rfl) (by kernel_rfl) (by kernel_rfl) (by kernel_rfl) (fun _ _ _ h => h) (Or.inl ⟨by rfl, ?hy8⟩) hHeld ?rest8
  case hy8 => intro w hSw; go_simp; rfl
  simp only [Act.put, List.setIfInBounds_toArray, List.set_cons_zero, List.set_cons_succ]
  refine' take (i := 9) (d := some 4) (v := _) rfl (by kernel_rfl) (by kernel_rfl) (by kernel_rfl) (by kernel_rfl) (fun _ _ _ h => h) (Or.inl ⟨by rfl, ?hy9⟩) hHeld ?rest9
  case hy9 => intro w hSw; go_simp; rfl
  simp only [Act.put, List.setIfInBounds_toArray, List.set_cons_zero, List.set_cons_succ]
  refine wpAnyH_done (by kernel_rfl) ?_ _
  go_wp2_with fail
  go_ret
  exact ⟨Hf.ret_int (top_eq _ _ _ HBC.out h48), (Below.refl _ _).drew⟩

/-- A store of one pair into the pairs, in a region that draws its order. -/
theorem ready64 {md : Region.Mode} {ops : Array Oper} {Q : Exit → Act → World → Prop} {S : World → Prop} {fuel : Nat} {listed : Array Bool} {a : Act} {w : World} {i : Nat} {o : Oper} {rs : List Nat} (hi : ops[i]? = some o) (hgd : o.guard = none)
    (x y : Operand) (ho : o.op = .store 140 x y) (hd : o.dst = none) {g k : Nat} (hx : a.eval x = .pointer (some ⟨g, k * 2, none⟩)) {p q : Int} (hy : a.eval y = .agg #[.int .i64 p, .int .i64 q]) {v m : Nat → Int} (h : Has w g v m) (hk8 : k < 8)
    (hS : S ((w.setCell ⟨g, k * 2, none⟩ (.int .i64 p)).setCell ⟨g, k * 2 + 1, none⟩ (.int .i64 q)))
    (hk : S ((w.setCell ⟨g, k * 2, none⟩ (.int .i64 p)).setCell ⟨g, k * 2 + 1, none⟩ (.int .i64 q)) → wpAnyH Try.prog md ops Q S fuel (listed.setIfInBounds i true) (a.put none undef) ((w.setCell ⟨g, k * 2, none⟩ (.int .i64 p)).setCell ⟨g, k * 2 + 1, none⟩ (.int .i64 q)))
    (hs : AllReadyH Try.prog md ops Q S fuel listed a w rs) : AllReadyH Try.prog md ops Q S fuel listed a w (i :: rs) :=
  AllReadyH.cons hi (fun K hK => by
    rw [if_pos (by simp only [Region.wanted, hgd])]
    refine wp_store_mid 140 x y ho g (k * 2) _ hx hy ?_ (by kernel_rfl) (by simp [Value.oneCell']) ?_
    · intro j hj
      have hj2 : j < 2 := hj
      rw [cell_of_row w g _ _ _ _ h, enc_at _ _ (by omega)]
      exact ⟨rfl, h.free _⟩
    · exact hK.out _ _ hS (fun hs' => by rw [hd]; exact hk hs')) hs

end Go.Proofs.Ytcbhpmgjmpbpmaa.Mo
namespace Go.Proofs.Ytcbhpmgjmpbpmaa.Mp
set_option maxRecDepth 8000
open Go Go.RowKit
open Num Pl Hr Hh Hf Hg Pa Pm Po Pq Mi Bw Mo
set_option linter.unusedSimpArgs false
set_option linter.unusedVariables false

theorem cell_set2 {w : World} {a : Addr} {g i j : Nat} {x y : Value} {v : Option Value} (h : w.cell? a = v) (hne : a.block ≠ g) : ((w.setCell ⟨g, i, none⟩ x).setCell ⟨g, j, none⟩ y).cell? a = v := by
  rw [World.cell?_setCell_other _ _ _ _ (by intro q; exact hne (by rw [← q])), World.cell?_setCell_other _ _ _ _ (by intro q; exact hne (by rw [← q]))]
  exact h
theorem resM_none {w w' : World} (h : Below w.heap.size w w') : ResM w [] [] (.returned (.agg #[.slice none 0 0, .slice none 0 0])) w' :=
  ⟨none, w.heap.size, 0, none, w.heap.size + 1, 0, rfl, Wt.nil _ _ _, Wt.nil _ _ _, Nat.le_refl _, Nat.le_succ _, by omega, h⟩
/-- All bits of a field. -/
def fullI (f : Nat) : Int := topI f (fbN f)

set_option maxHeartbeats 1000000 in
theorem of_no (a : Option Addr) (n c : Nat) (w : World) (t0 : ∀ w1, Below w.heap.size w w1 → Calls Try.prog 173 #[.agg #[.slice a n c]] w1 fun e w' => e = .returned (.bool false) ∧ Below w1.heap.size w1 w') :
    Calls Try.prog 144 #[.agg #[.slice a n c]] w (ResM w [] []) := by
  have T0 : Hid (∀ w1, Below w.heap.size w w1 → Calls Try.prog 173 #[.agg #[.slice a n c]] w1 fun e w' => e = .returned (.bool false) ∧ Below w1.heap.size w1 w') := t0
  obtain ⟨W0, hW0⟩ : ∃ W0, W0 = (w.alloc (.cells #[.slice a n c] 28)).alloc (.cells #[.slice none 0 0, .slice none 0 0] 25) := ⟨_, rfl⟩
  have B : Below w.heap.size w W0 := by subst hW0; exact Mi.below2 _ _ _
  have k1 : W0.heap[w.heap.size + 1]? = some (.cells #[.slice none 0 0, .slice none 0 0] 25 (0, 0)) := by subst hW0; exact at_new (by simp)
  clear t0
  go_enter Try.func144, Try.ntmps144
  go_wp2_with (go_at_call 173; rw [← hW0]; refine (T0.out _ B).mono ?_; rintro e wa ⟨rfl, hb⟩; replace k1 := (hb.block _ (Array.getElem?_eq_some_iff.1 k1).1).trans k1; obtain ⟨r0, r1⟩ := two k1; have fr := Bl.free k1; replace B := Rw.next B hb; clear hb)
  refine bodyPost_ret (v := .agg #[.slice none 0 0, .slice none 0 0]) (by simp [results, Try.results144, go_sem, r0, r1]) rfl (resM_none ?_)
  exact bset (bset B (by omega)) (by omega)

set_option maxHeartbeats 4000000 in
theorem of_yes (b o c : Nat) (H : List Int) (w : World) (r1 : ∀ k, k < 8 → w.cell? ⟨b, o + k, none⟩ = some (.int .i64 (H.getD k 0)))
    (t0 : ∀ w1, Below w.heap.size w w1 → Calls Try.prog 173 #[.agg #[.slice (some ⟨b, o, none⟩) 8 c]] w1 fun e w' => e = .returned (.bool true) ∧ Below w1.heap.size w1 w') :
    Calls Try.prog 144 #[.agg #[.slice (some ⟨b, o, none⟩) 8 c]] w (ResM w (lst (nth H)) (lst fullI)) := by
  have T0 : Hid (∀ w1, Below w.heap.size w w1 → Calls Try.prog 173 #[.agg #[.slice (some ⟨b, o, none⟩) 8 c]] w1 fun e w' => e = .returned (.bool true) ∧ Below w1.heap.size w1 w') := t0
  have R1 : Hid (∀ k, k < 8 → w.cell? ⟨b, o + k, none⟩ = some (.int .i64 (H.getD k 0))) := r1
  obtain ⟨W0, hW0⟩ : ∃ W0, W0 = (w.alloc (.cells #[.slice (some ⟨b, o, none⟩) 8 c] 28)).alloc (.cells #[.slice none 0 0, .slice none 0 0] 25) := ⟨_, rfl⟩
  have B : Below w.heap.size w W0 := by subst hW0; exact Mi.below2 _ _ _
  have k0 : W0.heap[w.heap.size]? = some (.cells #[.slice (some ⟨b, o, none⟩) 8 c] 28 (0, 0)) := by subst hW0; rw [at_old (by simp), at_new rfl]
  have k1 : W0.heap[w.heap.size + 1]? = some (.cells #[.slice none 0 0, .slice none 0 0] 25 (0, 0)) := by subst hW0; exact at_new (by simp)
  clear t0 r1
  go_enter Try.func144, Try.ntmps144
  go_wp2_with (go_at_call 173; rw [← hW0]; refine (T0.out _ B).mono ?_; rintro e wa ⟨rfl, hb⟩; replace k0 := (hb.block _ (Array.getElem?_eq_some_iff.1 k0).1).trans k0; replace k1 := (hb.block _ (Array.getElem?_eq_some_iff.1 k1).1).trans k1; replace B := Rw.next B hb; clear hb)
  clear hW0 T0
  have z0 := (Array.getElem?_eq_some_iff.1 k0).1
  have z1 := (Array.getElem?_eq_some_iff.1 k1).1
  have hA : Has (wa.alloc (.cells #[.int .i64 0, .int .i64 0, .int .i64 0, .int .i64 0, .int .i64 0, .int .i64 0, .int .i64 0, .int .i64 0, .int .i64 0, .int .i64 0, .int .i64 0, .int .i64 0, .int .i64 0, .int .i64 0, .int .i64 0, .int .i64 0] 142)) wa.heap.size nul nul := has_zero rfl
  have B1 : Below w.heap.size w (wa.alloc (.cells #[.int .i64 0, .int .i64 0, .int .i64 0, .int .i64 0, .int .i64 0, .int .i64 0, .int .i64 0, .int .i64 0, .int .i64 0, .int .i64 0, .int .i64 0, .int .i64 0, .int .i64 0, .int .i64 0, .int .i64 0, .int .i64 0] 142)) := Rw.next B (below_alloc1 _ _)
  replace k0 := (at_old (o := .cells #[.int .i64 0, .int .i64 0, .int .i64 0, .int .i64 0, .int .i64 0, .int .i64 0, .int .i64 0, .int .i64 0, .int .i64 0, .int .i64 0, .int .i64 0, .int .i64 0, .int .i64 0, .int .i64 0, .int .i64 0, .int .i64 0] 142) z0).trans k0
  replace k1 := (at_old (o := .cells #[.int .i64 0, .int .i64 0, .int .i64 0, .int .i64 0, .int .i64 0, .int .i64 0, .int .i64 0, .int .i64 0, .int .i64 0, .int .i64 0, .int .i64 0, .int .i64 0, .int .i64 0, .int .i64 0, .int .i64 0, .int .i64 0] 142) z1).trans k1
  obtain ⟨gA, hgA⟩ : ∃ gA, gA = wa.heap.size := ⟨_, rfl⟩
  rw [← hgA] at hA ⊢
  have n0 : w.heap.size ≠ gA := by omega
  have n1 : w.heap.size + 1 ≠ gA := by omega
  have n2 : w.heap.size ≤ gA := by omega
  have HLT : Hid (∀ k, k < 8 → b ≠ gA) := (fun k hk e => by have := World.block_lt_of_cell? _ _ (R1.out k hk); simp at this; omega : ∀ k, k < 8 → b ≠ gA)
  clear hgA z0 z1 B
  go_loopw [9] (fun i wr => ∃ k : Nat, k ≤ 8 ∧ i = .int .i64 k ∧ Below w.heap.size w wr ∧ wr.heap[w.heap.size]? = some (.cells #[.slice (some ⟨b, o, none⟩) 8 c] 28 (0, 0)) ∧ wr.heap[w.heap.size + 1]? = some (.cells #[.slice none 0 0, .slice none 0 0] 25 (0, 0)) ∧ Has wr gA (cut (nth H) nul k) (cut fullI nul k)) (fun i _ => 8 - (intOf i).toNat)
  case atStart => exact ⟨0, Nat.zero_le _, rfl, B1, k0, k1, hA.cast (by funext i; simp [cut]) (by funext i; simp [cut])⟩
  case round =>
    obtain ⟨k, hk, rfl, hbel, q0, q1, ha⟩ := hrel
    clear B1 k0 k1 hA
    have z0 := (Array.getElem?_eq_some_iff.1 q0).1
    have z1 := (Array.getElem?_eq_some_iff.1 q1).1
    by_cases hlt : k < 8
    · have hkz : (k : Int) < 8 := by omega
      have g0 : wr.cell? ⟨b, o + k, none⟩ = some (.int .i64 (nth H k)) := (hbel.cell (World.block_lt_of_cell? _ _ (R1.out k hlt))).trans (R1.out k hlt)
      have p0 := one q0
      have nb := HLT.out k hlt
      have Q0 : Hid (wr.heap[w.heap.size]? = some (.cells #[.slice (some ⟨b, o, none⟩) 8 c] 28 (0, 0))) := q0
      have Q1 : Hid (wr.heap[w.heap.size + 1]? = some (.cells #[.slice none 0 0, .slice none 0 0] 25 (0, 0))) := q1
      have HA : Hid (Has wr gA (cut (nth H) nul k) (cut fullI nul k)) := ha
      clear q0 q1 ha
      have HB : Hid (∀ w, Calls Try.prog 193 #[.int .i64 k] w fun e w' => e = .returned (.int .i64 (fbN k : Int)) ∧ w' = w) := (fun w => by have := implBits_any k w; rw [fbN_eq] at this; exact this : ∀ w, Calls Try.prog 193 #[.int .i64 k] w fun e w' => e = .returned (.int .i64 (fbN k : Int)) ∧ w' = w)
      have HT : Hid (∀ w, Calls Try.prog 192 #[.int .i64 k, .int .i64 (fbN k : Int)] w fun e w' => e = .returned (.int .i64 (fullI k)) ∧ Below w.heap.size w w') := (fun w => high_any k (fbN k) hlt (Nat.le_refl _) w : ∀ w, Calls Try.prog 192 #[.int .i64 k, .int .i64 (fbN k : Int)] w fun e w' => e = .returned (.int .i64 (fullI k)) ∧ Below w.heap.size w w')
      have eV : Hid (upd (cut (nth H) nul k) k (nth H k) = cut (nth H) nul (k + 1)) := upd_cut _ _ _
      have eM : Hid (upd (cut fullI nul k) k (fullI k) = cut fullI nul (k + 1)) := upd_cut _ _ _
      generalize (fbN k : Int) = B at HB HT
      generalize nth H k = h at g0 eV
      generalize fullI k = T at HT eM
      go_wp2
      refine wp_region_held_drew (S := (fun w' => w'.cell? ⟨w.heap.size, 0, none⟩ = some (.slice (some ⟨b, o, none⟩) 8 c) ∧ w'.cell? ⟨b, o + k, none⟩ = some (.int .i64 h))) (by kernel_rfl) ⟨p0, g0⟩ (fun hHeld => ?_)
      refine take (i := 0) (d := some 12) (v := .int .i64 k) rfl (by kernel_rfl) (by kernel_rfl) (by kernel_rfl) (by kernel_rfl) (fun _ _ _ h => h) (Or.inl ⟨by rfl, by intro w hSw; go_simp⟩) hHeld ?_
      simp only [Act.put, List.setIfInBounds_toArray, List.set_cons_zero, List.set_cons_succ]
      refine take (i := 1) (d := some 13) (v := .pointer (some ⟨w.heap.size, 0, none⟩)) rfl (by kernel_rfl) (by kernel_rfl) (by kernel_rfl) (by kernel_rfl) (fun _ _ _ h => h) (Or.inl ⟨by rfl, by intro w hSw; go_simp⟩) hHeld ?_
      simp only [Act.put, List.setIfInBounds_toArray, List.set_cons_zero, List.set_cons_succ]
      refine take (i := 2) (d := some 14) (v := .slice (some ⟨b, o, none⟩) 8 c) rfl (by kernel_rfl) (by kernel_rfl) (by kernel_rfl) (by kernel_rfl) (fun _ _ _ h => h) (Or.inl ⟨by rfl, by intro w hSw; obtain ⟨p0, g0⟩ := hSw; go_simp⟩) hHeld ?_
      simp only [Act.put, List.setIfInBounds_toArray, List.set_cons_zero, List.set_cons_succ]
      refine take (i := 3) (d := some 15) (v := .int .i64 k) rfl (by kernel_rfl) (by kernel_rfl) (by kernel_rfl) (by kernel_rfl) (fun _ _ _ h => h) (Or.inl ⟨by rfl, by intro w hSw; go_simp⟩) hHeld ?_
      simp only [Act.put, List.setIfInBounds_toArray, List.set_cons_zero, List.set_cons_succ]
      refine take (i := 4) (d := some 16) (v := .pointer (some ⟨b, o + k, none⟩)) rfl (by kernel_rfl) (by kernel_rfl) (by kernel_rfl) (by kernel_rfl) (fun _ _ _ h => h) (Or.inl ⟨by rfl, by intro w hSw; go_simp⟩) hHeld ?_
      simp only [Act.put, List.setIfInBounds_toArray, List.set_cons_zero, List.set_cons_succ]
      refine take (i := 5) (d := some 17) (v := .int .i64 h) rfl (by kernel_rfl) (by kernel_rfl) (by kernel_rfl) (by kernel_rfl) (fun _ _ _ h => h) (Or.inl ⟨by rfl, by intro w hSw; obtain ⟨p0, g0⟩ := hSw; go_simp⟩) hHeld ?_
      simp only [Act.put, List.setIfInBounds_toArray, List.set_cons_zero, List.set_cons_succ]
      refine take (i := 6) (d := some 18) (v := .int .i64 k) rfl (by kernel_rfl) (by kernel_rfl) (by kernel_rfl) (by kernel_rfl) (fun _ _ _ h => h) (Or.inl ⟨by rfl, by intro w hSw; go_simp⟩) hHeld ?_
      simp only [Act.put, List.setIfInBounds_toArray, List.set_cons_zero, List.set_cons_succ]
      refine take (i := 7) (d := some 19) (v := .int .i64 k) rfl (by kernel_rfl) (by kernel_rfl) (by kernel_rfl) (by kernel_rfl) (fun _ _ _ h => h) (Or.inl ⟨by rfl, by intro w hSw; go_simp⟩) hHeld ?_
      simp only [Act.put, List.setIfInBounds_toArray, List.set_cons_zero, List.set_cons_succ]
      refine wpAnyH_ready (rs := [8]) (by kernel_rfl) (by simp) (Rg.call1 rfl (by kernel_rfl) 193 (.tmp 19) 3 (by kernel_rfl) 20 (by kernel_rfl) (.int .i64 k) (by kernel_rfl) (fun _ => rfl) (HB.out _) ?_ AllReadyH.nil)
      rintro e wq ⟨rfl, hwq⟩
      subst hwq
      refine ⟨_, rfl, hHeld, fun hHeld => ?_⟩
      simp only [Act.put, List.setIfInBounds_toArray, List.set_cons_zero, List.set_cons_succ]
      refine wpAnyH_ready (rs := [9]) (by kernel_rfl) (by simp) (Rg.call2 rfl (by kernel_rfl) 192 (.tmp 18) (.tmp 20) 3 3 (by kernel_rfl) 21 (by kernel_rfl) (.int .i64 k) (.int .i64 B) (by kernel_rfl) (by kernel_rfl) (fun _ => rfl) (HT.out _) ?_ AllReadyH.nil)
      rintro e wq ⟨rfl, hb⟩
      replace p0 := (hb.cell (World.block_lt_of_cell? _ _ p0)).trans p0
      replace g0 := (hb.cell (World.block_lt_of_cell? _ _ g0)).trans g0
      refine ⟨_, rfl, ⟨p0, g0⟩, fun hHeld => ?_⟩
      simp only [Act.put, List.setIfInBounds_toArray, List.set_cons_zero, List.set_cons_succ]
      have hA1 := (HA.out.drew).below hb
      refine take (i := 10) (d := some 22) (v := .agg #[.int .i64 h, .int .i64 T]) rfl (by kernel_rfl) (by kernel_rfl) (by kernel_rfl) (by kernel_rfl) (fun _ _ _ h => h) (Or.inl ⟨by rfl, by intro w hSw; go_simp⟩) hHeld ?_
      simp only [Act.put, List.setIfInBounds_toArray, List.set_cons_zero, List.set_cons_succ]
      refine take (i := 11) (d := some 23) (v := .pointer (some ⟨gA, k * 2, none⟩)) rfl (by kernel_rfl) (by kernel_rfl) (by kernel_rfl) (by kernel_rfl) (fun _ _ _ h => h) (Or.inl ⟨by rfl, by intro w hSw; go_simp⟩) hHeld ?_
      simp only [Act.put, List.setIfInBounds_toArray, List.set_cons_zero, List.set_cons_succ]
      refine wpAnyH_ready (rs := [12]) (by kernel_rfl) (by simp) (Mo.ready64 (g := gA) (k := k) (p := h) (q := T) rfl (by kernel_rfl) (.tmp 23) (.tmp 22) (by kernel_rfl) (by kernel_rfl) (by kernel_rfl) (by kernel_rfl) hA1 hlt ⟨cell_set2 p0 (by omega), cell_set2 g0 (by omega)⟩ (fun hHeld => ?_) AllReadyH.nil)
      simp only [Act.put, List.setIfInBounds_toArray, List.set_cons_zero, List.set_cons_succ]
      refine wpAnyH_done (by kernel_rfl) ?_ _
      go_wp2
      go_roundw
      case rel => exact ⟨k + 1, by omega, by go_num, bset (bset (Rw.next hbel.drew hb) n2) n2, blk_set (blk_set ((hb.block _ z0).trans Q0.out) n0) n0, blk_set (blk_set ((hb.block _ z1).trans Q1.out) n1) n1, ((hA1.set_v hlt _).set_m hlt _).cast eV.out eM.out⟩
      case measure => simp [intOf]; omega
    · have he : k = 8 := by omega
      subst he
      have e8 : lst (cut (nth H) nul 8) = lst (nth H) := by unfold lst; apply List.map_congr_left; intro i hi; simp at hi; simp [cut, hi]
      have e9 : lst (cut fullI nul 8) = lst fullI := by unfold lst; apply List.map_congr_left; intro i hi; simp at hi; simp [cut, hi]
      have E8 : Hid (lst (cut (nth H) nul 8) = lst (nth H)) := e8
      have E9 : Hid (lst (cut fullI nul 8) = lst fullI) := e9
      clear e8 e9 q0 HLT R1
      have sW := hbel.size
      go_wp2_with (first
        | (refine load66 rfl _ rfl rfl ha ?_)
        | (go_at_call 146; refine (match_any _ _ _).mono ?_; rw [E8.out, E9.out]; rintro e w6 ⟨aV, gV, cV, aM, gM, cM, rfl, hV, hM, l1, l2, l3, hb⟩; replace q1 := (hb.block _ z1).trans q1; replace hbel := Rw.next hbel hb; obtain ⟨r0, r1⟩ := two q1; have fr := Bl.free q1; clear hb))
      refine bodyPost_ret (v := .agg #[.slice aV (lst _).length cV, .slice aM (lst _).length cM]) (by simp [results, Try.results144, go_sem, r0, r1]) rfl ⟨aV, gV, cV, aM, gM, cM, rfl, ?_, ?_, by omega, by omega, l3, ?_⟩
      · exact Mj.wt_set2 (Mj.wt_set2 hV (by omega)) (by omega)
      · exact Mj.wt_set2 (Mj.wt_set2 hM (by omega)) (by omega)
      · exact bset (bset hbel (by omega)) (by omega)

end Go.Proofs.Ytcbhpmgjmpbpmaa.Mp
namespace Go.Proofs.Ytcbhpmgjmpbpmaa.Mr
set_option maxRecDepth 8000
open Go Go.RowKit
open Num Pl Hr Hh Hf Hg Pa Pm Po Pq Mi Bw Mo Mp
set_option linter.unusedSimpArgs false
set_option linter.unusedVariables false

theorem half_zero {w : World} {g : Nat} (h : Half w g 0 nul) : Mine w g (lst nul) := by
  refine Half.mine (World.rowIs.congr h (fun i hi => ?_))
  simp [cut, nul]
theorem mine_set2 {w : World} {g b k : Nat} {l : List Int} {u : Value} (h : Mine w g l) (hne : b ≠ g) : Mine (w.setCell ⟨b, k, none⟩ u) g l := h.set (by simpa using hne)

set_option maxHeartbeats 2000000 in
theorem allS_any (w : World) : Calls Try.prog 96 #[] w (ResM w (lst nul) (lst nul)) := by
  have hmk : ∀ w : World, (Instr.makeSlice 23 (.int .i64 8) (.int .i64 8)).run Try.prog w = .ok (.slice (some ⟨w.heap.size, 0, none⟩) 8 8) (w.alloc (.cells (madeCells #[.int .i64 0] 8) 3)) :=
    run_make_row' (P := Try.prog) 23 3 (.int .i64 0) 8 Try.underlying23 info3 rfl .i64 .i64 8 (by omega) (by omega)
  obtain ⟨W0, hW0⟩ : ∃ W0, W0 = w.alloc (.cells #[.slice none 0 0, .slice none 0 0] 25) := ⟨_, rfl⟩
  have B0 : Below w.heap.size w W0 := by subst hW0; exact below_alloc1 _ _
  have kR : W0.heap[w.heap.size]? = some (.cells #[.slice none 0 0, .slice none 0 0] 25 (0, 0)) := by subst hW0; exact at_new rfl
  have zR := (Array.getElem?_eq_some_iff.1 kR).1
  obtain ⟨r0, r1⟩ := two kR
  have fr := Bl.free kR
  clear kR
  go_enter Try.func96, Try.ntmps96
  go_wp2
  rw [← hW0]
  clear hW0
  go_region
  all_goals go_wp2
  · refine bodyPost_ret (v := .agg #[.slice (some ⟨W0.heap.size, 0, none⟩) 8 8, .slice (some ⟨W0.heap.size + 1, 0, none⟩) 8 8]) (by simp [results, Try.results96, go_sem, r0, r1, zR]) rfl ⟨_, W0.heap.size, _, _, W0.heap.size + 1, _, by rw [lst_len], mine_wt (half_zero (Half.drew ((Half.made nul (by simp)).old))), mine_wt (half_zero (Half.drew (Half.made nul (by simp)))), by omega, by omega, by omega, ?_⟩
    exact ((bset (bset B0 (Nat.le_refl _)) (Nat.le_refl _)).alloc (by simp; omega) _ |>.alloc (by simp; omega) _).drew
  · refine bodyPost_ret (v := .agg #[.slice (some ⟨W0.heap.size + 1, 0, none⟩) 8 8, .slice (some ⟨W0.heap.size, 0, none⟩) 8 8]) (by simp [results, Try.results96, go_sem, r0, r1, zR]) rfl ⟨_, W0.heap.size + 1, _, _, W0.heap.size, _, by rw [lst_len], mine_wt (half_zero (Half.drew (Half.made nul (by simp)))), mine_wt (half_zero (Half.drew ((Half.made nul (by simp)).old))), by omega, by omega, by omega, ?_⟩
    exact ((bset (bset B0 (Nat.le_refl _)) (Nat.le_refl _)).alloc (by simp; omega) _ |>.alloc (by simp; omega) _).drew

end Go.Proofs.Ytcbhpmgjmpbpmaa.Mr
namespace Go.Proofs.Ytcbhpmgjmpbpmaa.Mr
set_option maxRecDepth 8000
set_option linter.unusedSimpArgs false
set_option linter.unusedVariables false
open Go Go.RowKit
open Num Pl Hr Hh Hf Hg Pa Pm Po Pq Mi Bw Mo Mp

set_option maxHeartbeats 2000000 in
theorem allS_mine (w : World) : Calls Try.prog 96 #[] w fun e w' => ∃ gV gM, e = .returned (.agg #[.slice (some ⟨gV, 0, none⟩) 8 8, .slice (some ⟨gM, 0, none⟩) 8 8]) ∧ Mine w' gV (lst nul) ∧ Mine w' gM (lst nul) ∧ w.heap.size ≤ gV ∧ w.heap.size ≤ gM ∧ gV ≠ gM ∧ Below w.heap.size w w' := by
  have hmk : ∀ w : World, (Instr.makeSlice 23 (.int .i64 8) (.int .i64 8)).run Try.prog w = .ok (.slice (some ⟨w.heap.size, 0, none⟩) 8 8) (w.alloc (.cells (madeCells #[.int .i64 0] 8) 3)) :=
    run_make_row' (P := Try.prog) 23 3 (.int .i64 0) 8 Try.underlying23 info3 rfl .i64 .i64 8 (by omega) (by omega)
  obtain ⟨W0, hW0⟩ : ∃ W0, W0 = w.alloc (.cells #[.slice none 0 0, .slice none 0 0] 25) := ⟨_, rfl⟩
  have B0 : Below w.heap.size w W0 := by subst hW0; exact below_alloc1 _ _
  have kR : W0.heap[w.heap.size]? = some (.cells #[.slice none 0 0, .slice none 0 0] 25 (0, 0)) := by subst hW0; exact at_new rfl
  have zR := (Array.getElem?_eq_some_iff.1 kR).1
  obtain ⟨r0, r1⟩ := two kR
  have fr := Bl.free kR
  clear kR
  go_enter Try.func96, Try.ntmps96
  go_wp2
  rw [← hW0]
  clear hW0
  go_region
  all_goals go_wp2
  · refine bodyPost_ret (v := .agg #[.slice (some ⟨W0.heap.size, 0, none⟩) 8 8, .slice (some ⟨W0.heap.size + 1, 0, none⟩) 8 8]) (by simp [results, Try.results96, go_sem, r0, r1, zR]) rfl ⟨W0.heap.size, W0.heap.size + 1, rfl, (half_zero (Half.drew ((Half.made nul (by simp)).old))), (half_zero (Half.drew (Half.made nul (by simp)))), by omega, by omega, by omega, ?_⟩
    exact ((bset (bset B0 (Nat.le_refl _)) (Nat.le_refl _)).alloc (by simp; omega) _ |>.alloc (by simp; omega) _).drew
  · refine bodyPost_ret (v := .agg #[.slice (some ⟨W0.heap.size + 1, 0, none⟩) 8 8, .slice (some ⟨W0.heap.size, 0, none⟩) 8 8]) (by simp [results, Try.results96, go_sem, r0, r1, zR]) rfl ⟨W0.heap.size + 1, W0.heap.size, rfl, (half_zero (Half.drew (Half.made nul (by simp)))), (half_zero (Half.drew ((Half.made nul (by simp)).old))), by omega, by omega, by omega, ?_⟩
    exact ((bset (bset B0 (Nat.le_refl _)) (Nat.le_refl _)).alloc (by simp; omega) _ |>.alloc (by simp; omega) _).drew

end Go.Proofs.Ytcbhpmgjmpbpmaa.Mr
namespace Go.Proofs.Ytcbhpmgjmpbpmaa.Wj
open Go Go.RowKit
set_option maxRecDepth 8000
set_option linter.unusedSimpArgs false
set_option linter.unusedVariables false
open Num Pl Rw Mk Un Put App Ea Pr Wa

/-- Own rows that may be nil still: of actions, of numbers. -/
def OA (w : World) (B : Nat) (v : Value) (l : List Yb.A3) : Prop := w.ownsRow B 133 3 v l.length (Sm.flatA l)
def ON (w : World) (B : Nat) (v : Value) (l : List Int) : Prop := w.ownsRow B 3 1 v l.length (l.map (Value.int .i64))
theorem app_oa {ops : Array Oper} {rest : List Oper} {o : Oper} {a : Act} {w : World} {Q : Exit → Act → World → Prop} (hgd : o.guard = none) (s x : Operand)
    (ho : o.op = .call { callee := .builtin .append, args := #[s, x], argTypes := #[26, 26] }) (base : Nat) (v : Value) (l : List Yb.A3) (m : Yb.A3) (hs : a.eval s = v) (hown : OA w base v l)
    (T c : Nat) (hx : a.eval x = .slice (some ⟨T, 0, none⟩) 1 c) (hT : w.heap[T]? = some (.cells #[.int .i64 m.1, .int .i64 m.2.1, .int .i64 m.2.2] 133 (0, 0))) (hb : l.length ≤ 4194304) (hbase : base ≤ w.heap.size)
    (h : ∀ v' w', OA w' base v' (l ++ [m]) → w.grownBy w' v.ownBlock → wpList Try.prog ops Q rest (a.put o.dst v') w') : wpList Try.prog ops Q (o :: rest) a w := by
  obtain ⟨i0, hi, hz0, hz1, hz2⟩ := info_parts Sm.info76
  refine wpList_append_own _ hgd s x 26 ho base 133 i0 (.agg #[.int .i64 0, .int .i64 0, .int .i64 0]) 3 24 Try.underlying26 hi hz0 hz1 hz2 rfl (by decide) v l.length (Sm.flatA l) hs hown ⟨T, 0, none⟩ 1 c (Sm.cellsA m) hx rfl (by
      intro j u hj
      have hjl : j < 3 := by have := (List.getElem?_eq_some_iff.1 hj).1; simpa [Sm.cellsA] using this
      rw [Yb.add_eq, Nat.zero_add]
      match j, hjl with
      | 0, _ => simp [Sm.cellsA] at hj; subst hj; simp [World.cell?, hT]
      | 1, _ => simp [Sm.cellsA] at hj; subst hj; simp [World.cell?, hT]
      | 2, _ => simp [Sm.cellsA] at hj; subst hj; simp [World.cell?, hT]) (by intro u hu; simp [Sm.cellsA] at hu; rcases hu with rfl | rfl | rfl <;> rfl) (by unfold maxLen; omega) (by omega) hbase ?_
  intro v' w' h1 h2 h3
  refine h v' w' ?_ h2
  have e : Sm.flatA (l ++ [m]) = Sm.flatA l ++ Sm.cellsA m := (by simp [Sm.flatA])
  unfold OA
  rw [e]; simpa using h1
theorem app_on {ops : Array Oper} {rest : List Oper} {o : Oper} {a : Act} {w : World} {Q : Exit → Act → World → Prop} (hgd : o.guard = none) (s x : Operand)
    (ho : o.op = .call { callee := .builtin .append, args := #[s, x], argTypes := #[23, 23] }) (base : Nat) (v : Value) (l : List Int) (m : Int) (hs : a.eval s = v) (hown : ON w base v l)
    (T c : Nat) (hx : a.eval x = .slice (some ⟨T, 0, none⟩) 1 c) (hT : w.heap[T]? = some (.cells #[.int .i64 m] 3 (0, 0))) (hb : l.length ≤ 4194304) (hbase : base ≤ w.heap.size)
    (h : ∀ v' w', ON w' base v' (l ++ [m]) → w.grownBy w' v.ownBlock → wpList Try.prog ops Q rest (a.put o.dst v') w') : wpList Try.prog ops Q (o :: rest) a w := by
  obtain ⟨i0, hi, hz0, hz1, hz2⟩ := info_parts Hr.info3
  refine wpList_append_own _ hgd s x 23 ho base 3 i0 (.int .i64 0) 1 8 Try.underlying23 hi hz0 hz1 hz2 rfl (by decide) v l.length (l.map (Value.int .i64)) hs hown ⟨T, 0, none⟩ 1 c [.int .i64 m] hx rfl (by
      intro j u hj
      have hjl : j < 1 := by have := (List.getElem?_eq_some_iff.1 hj).1; simpa using this
      have e0 : j = 0 := by omega
      subst e0
      simp at hj; subst hj
      rw [Yb.add_eq, Nat.zero_add]
      simp [World.cell?, hT]) (by intro u hu; simp at hu; subst hu; rfl) (by unfold maxLen; omega) (by omega) hbase ?_
  intro v' w' h1 h2 h3
  refine h v' w' ?_ h2
  unfold ON
  simpa using h1

/-- A row of one's own that may be written, whatever it is. -/
theorem on_wt {w : World} {B : Nat} {v : Value} {l : List Int} (h : ON w B v l) (hs : l.length ≤ 4194304) (X : Nat) (hX : B ≤ X) :
    ∃ (a : Option Addr) (g cap : Nat), v = .slice a l.length cap ∧ B ≤ g ∧ Hr.Wt w a g l ∧ (l.length = 0 → a = none → g = X) := by
  rcases h.2 with ⟨rfl, h0⟩ | ⟨g, cap, cur, rfl, hb, hh, hn, _, _, ht⟩
  · have e : l = [] := List.eq_nil_of_length_eq_zero h0
    subst e
    exact ⟨none, X, 0, rfl, hX, ⟨fun h => by simp at h, fun i h => by simp at h, fun i h => by simp at h, by simp⟩, fun _ _ => rfl⟩
  · refine ⟨some ⟨g, 0, none⟩, g, cap, rfl, hb, ⟨fun _ => rfl, fun i hi => ?_, fun i _ => by simp [World.frozen?, hh], hs⟩, fun _ e => by simp at e⟩
    have := h.cells (g := g) rfl i (.int .i64 (l.getD i 0)) (by simp [hi, List.getD])
    rw [Yb.add_eq, Nat.zero_add] at this
    exact this
theorem oa_wt {w : World} {B : Nat} {v : Value} {l : List Yb.A3} (h : OA w B v l) (hs : l.length ≤ 4194304) (X : Nat) (hX : B ≤ X) :
    ∃ (a : Option Addr) (g cap : Nat), v = .slice a l.length cap ∧ B ≤ g ∧ Yb.Rd w a g 0 l ∧ Em.WtA w a g l := by
  rcases h.2 with ⟨rfl, h0⟩ | ⟨g, cap, cur, rfl, hb, hh, hn, _, _, ht⟩
  · have e : l = [] := List.eq_nil_of_length_eq_zero h0
    subst e
    exact ⟨none, X, 0, rfl, hX, ⟨fun h => by simp at h, fun i h => by simp at h, by simp⟩, ⟨fun h => by simp at h, fun i h => by simp at h, fun i h => by simp at h, by simp⟩⟩
  · have cc : ∀ i, i < l.length → Yb.At3 w g 0 i (l.getD i Yb.z3) := fun i hi => by
      obtain ⟨q0, q1, q2⟩ := Sm.flatA_get l i hi
      have p0 := h.cells (g := g) rfl _ _ q0
      have p1 := h.cells (g := g) rfl _ _ q1
      have p2 := h.cells (g := g) rfl _ _ q2
      rw [Yb.add_eq] at p0 p1 p2
      exact ⟨p0, p1, p2⟩
    refine ⟨some ⟨g, 0, none⟩, g, cap, rfl, hb, ⟨fun _ => rfl, cc, hs⟩, ⟨fun _ => rfl, fun j hj => ?_, fun i hi => by simp [World.frozen?, hh], hs⟩⟩
    obtain ⟨i, r, rfl, hr⟩ : ∃ i r, j = i * 3 + r ∧ r < 3 := ⟨j / 3, j % 3, by omega, by omega⟩
    obtain ⟨q0, q1, q2⟩ := cc i (by omega)
    rcases (show r = 0 ∨ r = 1 ∨ r = 2 by omega) with rfl | rfl | rfl
    · have := Yb.flat0 l i
      simp only [Nat.add_zero, this]; simpa using q0
    · rw [Yb.flat1]; simpa using q1
    · rw [Yb.flat2]; simpa using q2

end Go.Proofs.Ytcbhpmgjmpbpmaa.Wj
namespace Go.Proofs.Ytcbhpmgjmpbpmaa.Wj
open Go Go.RowKit
set_option maxRecDepth 8000
set_option linter.unusedSimpArgs false
set_option linter.unusedVariables false
open Num Pl Rw Mk Un Put App Ea Pr Wa

theorem sget (a : Option Addr) (b off cap : Nat) (l : List Int) (p z : Nat) (w : World) (h : Rd w a b off l) (h1 : 1 ≤ z) (h6 : z ≤ 6) :
    Calls Try.prog 81 #[.slice a l.length cap, .int .i64 p, .int .i64 z] w fun e w' => (∃ k, e = .returned (.tuple #[.int .i64 (rdn l p z), .bool k])) ∧ w' = w := by
  unfold rdn
  by_cases hp : p + z ≤ l.length
  · rw [if_pos hp]
    refine (Get.specGet_yes a b off cap l p z w h h1 h6 hp).mono ?_
    rintro e w' ⟨rfl, rfl⟩
    exact ⟨⟨true, rfl⟩, rfl⟩
  · rw [if_neg hp]
    refine (Get.specGet_no a cap l.length p z w h.size (by unfold Get.getOk; omega)).mono ?_
    rintro e w' ⟨rfl, rfl⟩
    exact ⟨⟨false, rfl⟩, rfl⟩
theorem told_rdn {l : List Int} (hy : Byt l) (h : 12 ≤ l.length) : rdn l 2 2 = (Gq.told l : Nat) := by
  unfold rdn Gq.told
  rw [if_pos (by omega)]
  have := (rdn_bd hy 2 2).1
  unfold rdn at this
  rw [if_pos (by omega)] at this
  omega

set_option maxHeartbeats 4000000 in
theorem sread_no (a : Option Addr) (b off cap : Nat) (l : List Int) (w : World) (h : Rd w a b off l) (hc : code l ≠ 0) :
    Calls Try.prog 29 #[.slice a l.length cap] w (ResF w said0 (code l)) := by
  obtain ⟨W1, hW1⟩ : ∃ W1, W1 = (w.alloc (.cells #[.int .i64 0, .int .i64 0, .int .i64 0, .int .i64 0, .int .i64 0, .slice none 0 0, .slice none 0 0, .slice none 0 0, .bool false, .slice none 0 0] 30)).alloc (.cells #[.int .i64 0, .int .i64 0, .int .i64 0, .int .i64 0, .int .i64 0, .slice none 0 0, .slice none 0 0, .slice none 0 0, .bool false, .slice none 0 0] 30) := ⟨_, rfl⟩
  have B1 : Below w.heap.size w W1 := by subst hW1; exact Rw.next (below_alloc1 _ _) (below_alloc1 _ _)
  have kR : W1.heap[w.heap.size]? = some (.cells #[.int .i64 0, .int .i64 0, .int .i64 0, .int .i64 0, .int .i64 0, .slice none 0 0, .slice none 0 0, .slice none 0 0, .bool false, .slice none 0 0] 30 (0, 0)) := by subst hW1; rw [at_old (by simp), at_new rfl]
  have kN : W1.heap[w.heap.size + 1]? = some (.cells #[.int .i64 0, .int .i64 0, .int .i64 0, .int .i64 0, .int .i64 0, .slice none 0 0, .slice none 0 0, .slice none 0 0, .bool false, .slice none 0 0] 30 (0, 0)) := by subst hW1; exact at_new (by simp)
  obtain ⟨r0, r1, r2, r3, r4, r5, r6, r7, r8, r9⟩ := Ga.ten kR
  obtain ⟨n0, n1, n2, n3, n4, n5, n6, n7, n8, n9⟩ := Ga.ten kN
  have fR := Bl.free kR
  have h1 := h.below B1
  have hG := fun W hh => sget a b off cap l 2 2 W hh (by omega) (by omega)
  have hlt := blk_lt kN
  unfold code at hc ⊢
  by_cases c1 : l.length < 12 ∨ 300 < l.length
  · rw [if_pos c1]
    clear hc hG h1
    generalize l.length = n at *
    rcases c1 with c1 | c1
    · have z1 : (n : Int) < 12 := by omega
      go_enter Try.func29, Try.ntmps29
      go_upto_region 3 with fail
      rw [← hW1]
      clear hW1
      go_wp2
      refine bodyPost_ret (v := .tuple #[.agg #[.int .i64 0, .int .i64 0, .int .i64 0, .int .i64 0, .int .i64 0, .slice none 0 0, .slice none 0 0, .slice none 0 0, .bool false, .slice none 0 0], .int .i64 1]) (by simp [results, Try.results29, go_sem, r0, r1, r2, r3, r4, r5, r6, r7, r8, r9]) rfl ?_
      refine resF_no 1 ?_
      refine Only.below (g := w.heap.size) ?_ B1 B1.size (Nat.le_refl _)
      repeat (first | with_reducible exact Only.refl _ _ | refine Only.set ?_ _)
    · have z1 : ¬ (n : Int) < 12 := by omega
      have z2 : (300 : Int) < (n : Int) := by omega
      go_enter Try.func29, Try.ntmps29
      go_upto_region 3 with fail
      rw [← hW1]
      clear hW1
      go_wp2
      refine bodyPost_ret (v := .tuple #[.agg #[.int .i64 0, .int .i64 0, .int .i64 0, .int .i64 0, .int .i64 0, .slice none 0 0, .slice none 0 0, .slice none 0 0, .bool false, .slice none 0 0], .int .i64 1]) (by simp [results, Try.results29, go_sem, r0, r1, r2, r3, r4, r5, r6, r7, r8, r9]) rfl ?_
      refine resF_no 1 ?_
      refine Only.below (g := w.heap.size) ?_ B1 B1.size (Nat.le_refl _)
      repeat (first | with_reducible exact Only.refl _ _ | refine Only.set ?_ _)
  rw [if_neg c1] at hc ⊢
  have z1 : ¬ (l.length : Int) < 12 := by omega
  have z2 : ¬ (300 : Int) < (l.length : Int) := by omega
  obtain rfl := h1.head (by omega)
  have g0 := h1.cell 0 (by omega)
  simp only [Nat.add_zero] at g0
  have g1 := h1.cell 1 (by omega)
  have hrd : rdn l 2 2 = (Gq.told l : Nat) := told_rdn h.byt (by omega)
  rw [hrd] at hG
  have hb1 : 0 ≤ l.getD 1 0 ∧ l.getD 1 0 ≤ 255 := Byt.at h.byt 1
  have hx : (0 : Int) < (l.length : Int) := by omega
  have hx1 : (1 : Int) < (l.length : Int) := by omega
  clear hrd c1
  generalize Gq.told l = T at *
  obtain ⟨n, hn⟩ : ∃ n, n = l.length := ⟨_, rfl⟩
  rw [← hn] at hc z1 z2 hG hx hx1 ⊢
  clear hn h
  generalize l.getD 0 0 = q0 at *
  generalize l.getD 1 0 = q1 at *
  by_cases c2 : q0 ≠ 1
  · rw [if_pos c2]
    have b2 : (q0 != 1) = true := by simpa using c2
    clear hc hG
    go_enter Try.func29, Try.ntmps29
    go_upto_region 4 with fail
    rw [← hW1]
    clear hW1
    go_wp2
    refine bodyPost_ret (v := .tuple #[.agg #[.int .i64 0, .int .i64 0, .int .i64 0, .int .i64 0, .int .i64 0, .slice none 0 0, .slice none 0 0, .slice none 0 0, .bool false, .slice none 0 0], .int .i64 2]) (by simp [results, Try.results29, go_sem, r0, r1, r2, r3, r4, r5, r6, r7, r8, r9]) rfl ?_
    refine resF_no 2 ?_
    refine Only.below (g := w.heap.size) ?_ B1 B1.size (Nat.le_refl _)
    repeat (first | with_reducible exact Only.refl _ _ | refine Only.set ?_ _)
  rw [if_neg c2] at hc ⊢
  have e2 : q0 = 1 := by omega
  subst e2
  by_cases c3 : T ≠ n
  · rw [if_pos c3]
    have b3 : ((T : Int) != (n : Int)) = true := by simp; omega
    clear hc
    go_enter Try.func29, Try.ntmps29
    go_upto_region 4 with fail
    rw [← hW1]
    clear hW1
    go_wp2_with (go_at_call 81; refine (hG _ h1).mono ?_; rintro e w1 ⟨⟨k, rfl⟩, hw⟩; replace hw := hw.symm; subst hw)
    refine bodyPost_ret (v := .tuple #[.agg #[.int .i64 0, .int .i64 0, .int .i64 0, .int .i64 0, .int .i64 0, .slice none 0 0, .slice none 0 0, .slice none 0 0, .bool false, .slice none 0 0], .int .i64 3]) (by simp [results, Try.results29, go_sem, r0, r1, r2, r3, r4, r5, r6, r7, r8, r9]) rfl ?_
    refine resF_no 3 ?_
    refine Only.below (g := w.heap.size) ?_ B1 B1.size (Nat.le_refl _)
    repeat (first | with_reducible exact Only.refl _ _ | refine Only.set ?_ _)
  rw [if_neg c3] at hc ⊢
  have e3 : T = n := by omega
  subst e3
  by_cases c4 : q1 < 1 ∨ 6 < q1
  · rw [if_pos c4]
    clear hc
    have hl0 : w.heap.size < W1.heap.size := by omega
    have hlb : b < W1.heap.size := World.block_lt_of_cell? _ _ g1
    have B2 := below_alloc1 W1 (.cells #[.int .i64 q1, .int .i64 0, .int .i64 0, .int .i64 0, .int .i64 0, .slice none 0 0, .slice none 0 0, .slice none 0 0, .bool false, .slice none 0 0] 30)
    obtain ⟨W2, hW2⟩ : ∃ W2, W2 = W1.alloc (.cells #[.int .i64 q1, .int .i64 0, .int .i64 0, .int .i64 0, .int .i64 0, .slice none 0 0, .slice none 0 0, .slice none 0 0, .bool false, .slice none 0 0] 30) := ⟨_, rfl⟩
    rw [← hW2] at B2
    have kR2 := (B2.block _ (blk_lt kR)).trans kR
    have kN2 := (B2.block _ (blk_lt kN)).trans kN
    have kM2 : W2.heap[W1.heap.size]? = some (.cells #[.int .i64 q1, .int .i64 0, .int .i64 0, .int .i64 0, .int .i64 0, .slice none 0 0, .slice none 0 0, .slice none 0 0, .bool false, .slice none 0 0] 30 (0, 0)) := by subst hW2; exact at_new rfl
    have h01 := hb1.1
    have h02 := hb1.2
    have c5 : (q1 < 1) ∨ (¬ q1 < 1 ∧ 6 < q1) := by omega
    have HB : Hid (Below w.heap.size w W2) := Rw.next B1 B2
    clear c4 kR kN r0 r1 r2 r3 r4 r5 r6 r7 r8 r9 n0 n1 n2 n3 n4 n5 n6 n7 n8 n9 fR B2 B1
    go_enter Try.func29, Try.ntmps29
    go_upto_region 4 with fail
    rw [← hW1]
    clear hW1
    go_upto_region 10 with (go_at_call 81; refine (hG _ h1).mono ?_; rintro e w1 ⟨⟨k, rfl⟩, hw⟩; replace hw := hw.symm; subst hw)
    rw [← hW2]
    clear hW2 hG g0 g1 h1 hlt hl0 hlb hb1 h01 h02
    obtain ⟨r0, r1, r2, r3, r4, r5, r6, r7, r8, r9⟩ := Ga.ten kR2
    obtain ⟨n0, n1, n2, n3, n4, n5, n6, n7, n8, n9⟩ := Ga.ten kN2
    have m0 := (Ga.ten kM2).1
    have fR := Bl.free kR2
    clear kM2 kR2 kN2
    generalize W1.heap.size = gm at *
    rcases c5 with c5 | ⟨c4, c5⟩
    · go_wp2
      refine bodyPost_ret (v := .tuple #[.agg #[.int .i64 0, .int .i64 0, .int .i64 0, .int .i64 0, .int .i64 0, .slice none 0 0, .slice none 0 0, .slice none 0 0, .bool false, .slice none 0 0], .int .i64 4]) (by simp [results, Try.results29, go_sem, r0, r1, r2, r3, r4, r5, r6, r7, r8, r9]) rfl ?_
      refine resF_no 4 ?_
      refine Only.below (g := w.heap.size) ?_ HB.out HB.out.size (Nat.le_refl _)
      repeat (first | with_reducible exact Only.refl _ _ | refine Only.set ?_ _)
    · go_wp2
      refine bodyPost_ret (v := .tuple #[.agg #[.int .i64 0, .int .i64 0, .int .i64 0, .int .i64 0, .int .i64 0, .slice none 0 0, .slice none 0 0, .slice none 0 0, .bool false, .slice none 0 0], .int .i64 4]) (by simp [results, Try.results29, go_sem, r0, r1, r2, r3, r4, r5, r6, r7, r8, r9]) rfl ?_
      refine resF_no 4 ?_
      refine Only.below (g := w.heap.size) ?_ HB.out HB.out.size (Nat.le_refl _)
      repeat (first | with_reducible exact Only.refl _ _ | refine Only.set ?_ _)
  rw [if_neg c4] at hc
  exact absurd rfl hc

end Go.Proofs.Ytcbhpmgjmpbpmaa.Wj
