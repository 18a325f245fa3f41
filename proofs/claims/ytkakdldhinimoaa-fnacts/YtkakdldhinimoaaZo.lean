/-
  Texts of one claim, laid together: Shelfa, Yr, Ys, Yt.
-/
import Derived.Shelf.Sort.Plain
import Derived.Shelf.Slices.CompactI
import Derived.Test.YtkakdldhinimoaaProg
import Derived.Test.YtkakdldhinimoaaXp
import Derived.Sort.OwnSortedInts
namespace Go.Proofs
open Go.Shelf
def Try.lays189_ren : Go.Shelf.Ren := ⟨fun | 189 => 69 | 125 => 100 | 257 => 99 | 128 => 125 | 129 => 126 | 294 => 116 | 295 => 117 | 296 => 118 | 297 => 119 | 298 => 120 | 299 => 121 | 216 => 122 | 300 => 123 | 301 => 124 | 328 => 130 | 329 => 131 | 330 => 132 | 331 => 133 | 332 => 134 | 215 => 135 | 343 => 137 | n => n, fun | 28 => 22 | 3 => 3 | 46 => 134 | 0 => 0 | 51 => 151 | 53 => 117 | 4 => 4 | 183 => 144 | 182 => 143 | 131 => 148 | 5 => 5 | 9 => 9 | 218 => 152 | 222 => 156 | 228 => 158 | 229 => 159 | n => n, fun | n => n⟩
theorem Try.lays189 : Go.Proofs.Lays.n189 Try.prog Try.lays189_ren := {
  mixed := by kernel_rfl
  f125 := Try.func100.trans (congrArg some (by kernel_rfl))
  f128 := Try.func125.trans (congrArg some (by kernel_rfl))
  f129 := Try.func126.trans (congrArg some (by kernel_rfl))
  f189 := Try.func69.trans (congrArg some (by kernel_rfl))
  f215 := Try.func135.trans (congrArg some (by kernel_rfl))
  f216 := Try.func122.trans (congrArg some (by kernel_rfl))
  f257 := Try.func99.trans (congrArg some (by kernel_rfl))
  f294 := Try.func116.trans (congrArg some (by kernel_rfl))
  f295 := Try.func117.trans (congrArg some (by kernel_rfl))
  f296 := Try.func118.trans (congrArg some (by kernel_rfl))
  f297 := Try.func119.trans (congrArg some (by kernel_rfl))
  f298 := Try.func120.trans (congrArg some (by kernel_rfl))
  f299 := Try.func121.trans (congrArg some (by kernel_rfl))
  f300 := Try.func123.trans (congrArg some (by kernel_rfl))
  f301 := Try.func124.trans (congrArg some (by kernel_rfl))
  f328 := Try.func130.trans (congrArg some (by kernel_rfl))
  f329 := Try.func131.trans (congrArg some (by kernel_rfl))
  f330 := Try.func132.trans (congrArg some (by kernel_rfl))
  f331 := Try.func133.trans (congrArg some (by kernel_rfl))
  f332 := Try.func134.trans (congrArg some (by kernel_rfl))
  f343 := Try.func137.trans (congrArg some (by kernel_rfl))
  t0 := Try.underlying0
  a0 := Try.isAgg0
  z0 := Try.sizeOf0
  v0 := Try.zeroValue0
  t3 := Try.underlying3
  a3 := Try.isAgg3
  z3 := Try.sizeOf3
  v3 := Try.zeroValue3
  t4 := Try.underlying4
  a4 := Try.isAgg4
  z4 := Try.sizeOf4
  v4 := Try.zeroValue4
  t5 := Try.underlying5
  a5 := Try.isAgg5
  z5 := Try.sizeOf5
  v5 := Try.zeroValue5
  t9 := Try.underlying9
  a9 := Try.isAgg9
  z9 := Try.sizeOf9
  v9 := Try.zeroValue9
  t28 := Try.underlying22
  a28 := Try.isAgg22
  z28 := Try.sizeOf22
  v28 := Try.zeroValue22
  t46 := Try.underlying134
  a46 := Try.isAgg134
  z46 := Try.sizeOf134
  v46 := Try.zeroValue134
  t51 := Try.underlying151
  a51 := Try.isAgg151
  z51 := Try.sizeOf151
  v51 := Try.zeroValue151
  t53 := Try.underlying117
  a53 := Try.isAgg117
  z53 := Try.sizeOf117
  v53 := Try.zeroValue117
  t131 := Try.underlying148
  a131 := Try.isAgg148
  z131 := Try.sizeOf148
  v131 := Try.zeroValue148
  t182 := Try.underlying143
  a182 := Try.isAgg143
  z182 := Try.sizeOf143
  v182 := Try.zeroValue143
  t183 := Try.underlying144
  a183 := Try.isAgg144
  z183 := Try.sizeOf144
  v183 := Try.zeroValue144
  t218 := Try.underlying152
  a218 := Try.isAgg152
  z218 := Try.sizeOf152
  v218 := Try.zeroValue152
  t222 := Try.underlying156
  a222 := Try.isAgg156
  z222 := Try.sizeOf156
  v222 := Try.zeroValue156
  t228 := Try.underlying158
  a228 := Try.isAgg158
  z228 := Try.sizeOf158
  v228 := Try.zeroValue158
  t229 := Try.underlying159
  a229 := Try.isAgg159
  z229 := Try.sizeOf159
  v229 := Try.zeroValue159 }
open Go.Sort Go.RowKit in
theorem Try.slices_Sort_int (blk off cap : Nat) (zs : List Int) (w : World) (hH : Holds (Value.int .i64) w blk off zs.toArray) (hblk : blk < w.heap.size) (hsz : zs.length < 4611686018427387904) :
    Calls Try.prog 69 #[.slice (some ⟨blk, off, none⟩) zs.length cap] w fun e w' =>
      e = .returned (.tuple #[]) ∧ ∃ n os, w' = grow (putRow (Value.int .i64) (Sort.ahead w n) blk off (zs.mergeSort fun x y => decide (x ≤ y)).toArray) os := Any.slices_Sort_int Try.lays189 blk off cap zs w hH hblk hsz
def Try.laysNm220_ren : Go.Shelf.Ren := ⟨fun | 20 => 70 | n => n, fun | 22 => 22 | 3 => 3 | 4 => 4 | 0 => 0 | n => n, fun | n => n⟩
theorem Try.laysNm220 : Go.Proofs.Lays2.n20 Try.prog Try.laysNm220_ren := {
  mixed := by kernel_rfl
  f20 := Try.func70.trans (congrArg some (by kernel_rfl))
  t0 := Try.underlying0
  a0 := Try.isAgg0
  z0 := Try.sizeOf0
  v0 := Try.zeroValue0
  t3 := Try.underlying3
  a3 := Try.isAgg3
  z3 := Try.sizeOf3
  v3 := Try.zeroValue3
  t4 := Try.underlying4
  a4 := Try.isAgg4
  z4 := Try.sizeOf4
  v4 := Try.zeroValue4
  t22 := Try.underlying22
  a22 := Try.isAgg22
  z22 := Try.sizeOf22
  v22 := Try.zeroValue22
  i3 := by kernel_rfl }
open Go.RowKit Go.Lib Go.Sort in
theorem Try.slices_Compact_int (blk off cap : Nat) (zs : List Int) (w : World) (hH : Holds (Value.int .i64) w blk off zs.toArray) (hsz : zs.length ≤ 9223372036854775807) (hcap : zs.length ≤ cap) :
    Calls Try.prog 70 #[.slice (some ⟨blk, off, none⟩) zs.length cap] w fun e w' => e = .returned (.slice (some ⟨blk, off, none⟩) (Lib.compact zs).length cap) ∧ ∃ q, w' = putRow (Value.int .i64) (Sort.ahead w q) blk off (Lib.compact zs ++ List.replicate (zs.length - (Lib.compact zs).length) 0).toArray := Any.slices_Compact_int Try.laysNm220 blk off cap zs w hH hsz hcap
open Go.RowKit Go.Lib Go.Sort in
theorem Try.slices_Compact_int_empty (a : Option Addr) (cap : Nat) (w : World) :
    Calls Try.prog 70 #[.slice a 0 cap] w fun e w' => e = .returned (.slice a 0 cap) ∧ w' = w := Any.slices_Compact_int_empty Try.laysNm220 a cap w
end Go.Proofs

namespace Go.Proofs.Ytkakdldhinimoaa.Yr
set_option maxRecDepth 8000
set_option linter.unusedSimpArgs false
set_option linter.unusedVariables false
open Go Go.RowKit
open Num Pl Hr Hh Pq Ht Yh

def srt (l : List Int) : List Int := l.mergeSort fun x y => decide (x ≤ y)
theorem srt_len (l : List Int) : (srt l).length = l.length := by simp [srt]

theorem holds_mine {w : World} {g : Nat} {l : List Int} (h : Mine w g l) : Sort.Holds (Value.int .i64) w g 0 l.toArray := by
  intro j hj
  have hj' : j < l.length := by simpa using hj
  refine ⟨?_, h.row.frozen _⟩
  rw [Nat.zero_add, h.row.cell hj']
  simp [List.getD, hj']
theorem put_mine {w : World} {g q : Nat} {os : Array Obj} {l m : List Int} (h : Mine w g l) (hl : m.length = l.length) : Mine (Sort.grow (Sort.putRow (Value.int .i64) (Sort.ahead w q) g 0 m.toArray) os) g m := by
  obtain ⟨⟨cur, hb, hn, hc⟩, hs⟩ := h
  refine ⟨⟨_, heap_sortedI _ hb, ?_, fun i hi => ?_⟩, by omega⟩
  · simp [Sort.putCells, hn, hl]
  · have hi' : i < cur.size := by omega
    simp [Sort.putCells, hi, hi', List.getD]

set_option maxHeartbeats 1000000 in
theorem sort_mine {g cap : Nat} {l : List Int} {w : World} (h : Mine w g l) :
    Calls Try.prog 69 #[.slice (some ⟨g, 0, none⟩) l.length cap] w fun e w' => e = .returned (.tuple #[]) ∧ Mine w' g (srt l) ∧ Mk.Only g w w' := by
  have hs := h.size
  refine (Try.slices_Sort_int g 0 cap l w (holds_mine h) h.row.lt (by omega)).mono ?_
  rintro e w' ⟨rfl, q, os, rfl⟩
  exact ⟨rfl, put_mine h (srt_len l), grownBy_sortedI _⟩

set_option maxHeartbeats 1000000 in
theorem compact_mine {g cap : Nat} {l : List Int} {w : World} (h : Mine w g l) (hcap : l.length ≤ cap) :
    Calls Try.prog 70 #[.slice (some ⟨g, 0, none⟩) l.length cap] w fun e w' => e = .returned (.slice (some ⟨g, 0, none⟩) (Lib.compact l).length cap) ∧ Own w' g (Lib.compact l) ∧ Mk.Only g w w' := by
  have hs := h.size
  have hle : (Lib.compact l).length ≤ l.length := by
    unfold Lib.compact Lib.compactUpTo
    rw [List.length_map]
    exact Nat.le_trans (List.length_filter_le _ _) (by simp)
  refine (Try.slices_Compact_int g 0 cap l w (holds_mine h) (by omega) hcap).mono ?_
  rintro e w' ⟨rfl, q, rfl⟩
  have hm := put_mine (q := q) (os := #[]) (m := Lib.compact l ++ List.replicate (l.length - (Lib.compact l).length) 0) h (by simp; omega)
  rw [Sort.grow_empty] at hm
  have hg := grownBy_sortedI (w := w) (g := g) (n := q) (os := #[]) (Lib.compact l ++ List.replicate (l.length - (Lib.compact l).length) 0).toArray
  rw [Sort.grow_empty] at hg
  refine ⟨rfl, ?_, hg⟩
  obtain ⟨⟨cur, hb, hn, hc⟩, hs'⟩ := hm
  refine ⟨⟨cur, hb, fun i hi => ?_⟩, by omega⟩
  rw [hc i (by simp; omega)]
  simp [List.getD, List.getElem?_append, hi]

theorem strict_eq : ∀ {l m : List Int}, l.Pairwise (· < ·) → m.Pairwise (· < ·) → (∀ x, x ∈ l ↔ x ∈ m) → l = m
  | [], [], _, _, _ => rfl
  | [], b :: m, _, _, h => absurd ((h b).2 (List.mem_cons_self ..)) (by simp)
  | a :: l, [], _, _, h => absurd ((h a).1 (List.mem_cons_self ..)) (by simp)
  | a :: l, b :: m, hl, hm, h => by
    have hl' := List.pairwise_cons.1 hl
    have hm' := List.pairwise_cons.1 hm
    have hab : a = b := by
      rcases List.mem_cons.1 ((h a).1 (List.mem_cons_self ..)) with e | e
      · exact e
      · rcases List.mem_cons.1 ((h b).2 (List.mem_cons_self ..)) with f | f
        · exact f.symm
        · have := hm'.1 a e
          have := hl'.1 b f
          omega
    subst hab
    congr 1
    refine strict_eq hl'.2 hm'.2 fun x => ⟨fun hx => ?_, fun hx => ?_⟩
    · rcases List.mem_cons.1 ((h x).1 (List.mem_cons_of_mem _ hx)) with e | e
      · have := hl'.1 x hx; omega
      · exact e
    · rcases List.mem_cons.1 ((h x).2 (List.mem_cons_of_mem _ hx)) with e | e
      · have := hm'.1 x hx; omega
      · exact e

theorem compact_facts {d : Array Int} (hd : ∀ i j, i ≤ j → j < d.size → d[i]! ≤ d[j]!) : ∀ m, m ≤ d.size → (Lib.compactUpTo d m).Pairwise (· < ·) ∧ (∀ x ∈ Lib.compactUpTo d m, ∃ i, i < m ∧ d[i]! = x) ∧ ∀ i, i < m → d[i]! ∈ Lib.compactUpTo d m
  | 0, _ => ⟨by simp [Lib.compactUpTo], by simp [Lib.compactUpTo], fun i hi => by omega⟩
  | m + 1, hm => by
    obtain ⟨h1, h2, h3⟩ := compact_facts hd m (by omega)
    rw [Lib.compactUpTo_succ]
    by_cases hk : Lib.keeps d m = true
    · rw [if_pos hk]
      have hk' : m = 0 ∨ d[m]! ≠ d[m - 1]! := of_decide_eq_true hk
      refine ⟨?_, ?_, ?_⟩
      · rw [List.pairwise_append]
        refine ⟨h1, List.pairwise_singleton _ _, fun a ha b hb => ?_⟩
        obtain rfl := List.mem_singleton.1 hb
        obtain ⟨i, hi, rfl⟩ := h2 a ha
        rcases hk' with rfl | hne
        · omega
        · have q1 := hd i (m - 1) (by omega) (by omega)
          have q2 := hd (m - 1) m (by omega) (by omega)
          omega
      · intro x hx
        rcases List.mem_append.1 hx with hx | hx
        · obtain ⟨i, hi, e⟩ := h2 x hx
          exact ⟨i, by omega, e⟩
        · obtain rfl := List.mem_singleton.1 hx
          exact ⟨m, by omega, rfl⟩
      · intro i hi
        by_cases e : i = m
        · subst e; exact List.mem_append_right _ (List.mem_singleton_self _)
        · exact List.mem_append_left _ (h3 i (by omega))
    · rw [if_neg hk, List.append_nil]
      have hk' : ¬ (m = 0 ∨ d[m]! ≠ d[m - 1]!) := fun h => hk (decide_eq_true h)
      refine ⟨h1, fun x hx => ?_, fun i hi => ?_⟩
      · obtain ⟨i, hi, e⟩ := h2 x hx
        exact ⟨i, by omega, e⟩
      · by_cases e : i = m
        · subst e
          have h0 : i ≠ 0 := fun h => hk' (.inl h)
          have he : d[i]! = d[i - 1]! := Decidable.not_not.1 fun h => hk' (.inr h)
          rw [he]
          exact h3 (i - 1) (by omega)
        · exact h3 i (by omega)

/-- The ports of a list, each once, rising. -/
def outs (Z : List Int) (n : Nat) : List Int := ((List.range n).map (fun i : Nat => 1 + (i : Int))).filter (fun p => decide (p ∈ Z))
theorem outs_strict (Z : List Int) (n : Nat) : (outs Z n).Pairwise (· < ·) := by
  refine List.Pairwise.filter _ ?_
  rw [List.pairwise_map]
  exact List.pairwise_lt_range.imp (fun {a b} h => by omega)
theorem outs_mem {Z : List Int} {n : Nat} (x : Int) : x ∈ outs Z n ↔ x ∈ Z ∧ 1 ≤ x ∧ x ≤ n := by
  unfold outs
  rw [List.mem_filter, List.mem_map]
  constructor
  · rintro ⟨⟨i, hi, rfl⟩, h⟩
    have := List.mem_range.1 hi
    exact ⟨of_decide_eq_true h, by omega, by omega⟩
  · rintro ⟨h, h1, h2⟩
    exact ⟨⟨(x - 1).toNat, List.mem_range.2 (by omega), by omega⟩, decide_eq_true h⟩
theorem outs_succ (Z : List Int) (n : Nat) : outs Z (n + 1) = outs Z n ++ (if (1 + (n : Int)) ∈ Z then [1 + (n : Int)] else []) := by
  unfold outs
  rw [List.range_succ, List.map_append, List.filter_append]
  by_cases h : (1 + (n : Int)) ∈ Z <;> simp [h]
theorem compact_sorted {Z : List Int} (hZ : ∀ z ∈ Z, 1 ≤ z ∧ z ≤ 255) : Lib.compact (srt Z) = outs Z 255 := by
  have hs : (srt Z).Pairwise (fun x y => decide (x ≤ y) = true) := List.pairwise_mergeSort (by intro a b c h1 h2; simp at *; omega) (by intro a b; simp; omega) Z
  have hd : ∀ i j, i ≤ j → j < (srt Z).toArray.size → (srt Z).toArray[i]! ≤ (srt Z).toArray[j]! := by
    intro i j hij hj
    have hj' : j < (srt Z).length := by simpa using hj
    rcases Nat.lt_or_eq_of_le hij with h | rfl
    · have := List.pairwise_iff_getElem.1 hs i j (by omega) hj' h
      have hi' : i < (srt Z).length := by omega
      simp [hi', hj'] at this ⊢
      exact this
    · exact Int.le_refl _
  obtain ⟨h1, h2, h3⟩ := compact_facts hd (srt Z).length (by simp)
  refine strict_eq h1 (outs_strict Z 255) fun x => ?_
  rw [outs_mem]
  constructor
  · intro hx
    obtain ⟨i, hi, e⟩ := h2 x hx
    have hm : x ∈ Z := by
      have : x ∈ srt Z := by rw [← e]; simp [hi]
      exact List.mem_mergeSort.1 this
    exact ⟨hm, (hZ x hm).1, by have := (hZ x hm).2; omega⟩
  · rintro ⟨hm, _⟩
    have : x ∈ srt Z := List.mem_mergeSort.2 hm
    obtain ⟨i, hi, e⟩ := List.getElem_of_mem this
    have := h3 i hi
    simp [hi] at this
    rw [← e]
    exact this

end Go.Proofs.Ytkakdldhinimoaa.Yr

namespace Go.Proofs.Ytkakdldhinimoaa.Ys
set_option maxRecDepth 8000
set_option linter.unusedSimpArgs false
set_option linter.unusedVariables false
open Go Go.RowKit
open Num Pl Hr Hh Pq Ht Yh Yj Yk Yl Ym Yb Yc Yd Yo Yp Yq Yr

/-- A row of integers is handed back in memory of the call's own. -/
def ResI (w : World) (K : List Int) (e : Ending) (w' : World) : Prop :=
  ∃ g cap, e = .returned (.slice (some ⟨g, 0, none⟩) K.length cap) ∧ Own w' g K ∧ w.heap.size ≤ g ∧ Below w.heap.size w w'
def CO (f : Nat) (h ports : List Int) (l : List A3) (K : List Int) : Prop :=
  ∀ (ha pa a : Option Addr) (hb ho hc pb po pc b off cap : Nat) (w : World), Hr.Rd w ha hb ho h → Hr.Rd w pa pb po ports → Yb.Rd w a b off l →
    Calls Try.prog f #[.agg #[.slice ha h.length hc], .slice pa ports.length pc, .slice a l.length cap] w (ResI w K)

theorem port_at (Q : List E) (i : Nat) (hi : i < Q.length) : ((said Q).map (·.1)).getD i 0 = (Q.getD i e0).p := by
  simp [said, List.getD, hi]
theorem ports_len (Q : List E) : ((said Q).map (·.1)).length = Q.length := by simp [said]

set_option maxHeartbeats 2000000 in
theorem outI {h ports : List Int} {l : List A3} {R : Bool} {L : List (Int × List Int)} (hL : L.length ≤ 96) (hI : CP 28 h ports l R L) : CO 37 h ports l (Lib.compact (srt (L.map (·.1)))) := by
  intro ha pa a hb ho hc pb po pc b off cap w hh hp hl
  obtain ⟨Z, hZ0⟩ : ∃ Z, Z = L.map (·.1) := ⟨_, rfl⟩
  rw [← hZ0]
  obtain ⟨W0, hW0⟩ : ∃ W0, W0 = w.alloc (.cells #[.slice ha h.length hc] 42) := ⟨_, rfl⟩
  have B0 : Below w.heap.size w W0 := by subst hW0; exact below_alloc1 _ _
  have hC := hid (hI _ _ _ _ _ hc _ _ pc _ _ cap _ (hh.below B0) (hp.below B0) (hl.below B0))
  clear hI hh hp hl
  go_enter Try.func37, Try.ntmps37
  go_wp2_with (go_at_call 28; rw [← hW0]; refine hC.out.mono ?_; rintro e W1 ⟨B, v, Q, rfl, sn, hB, saq, hb1⟩; clear hC; replace B0 := Rw.next B0 hb1; obtain ⟨va, vg, vc, rfl, hvh, hvc⟩ := view sn; have hq : Q.length ≤ 96 := (by rw [← said_len Q, saq]; exact hL); have hmk := run_make_row' (P := Try.prog) 22 3 (.int .i64 0) 8 Try.underlying22 info3 rfl .i64 .i64 Q.length (by omega) (by omega))
  clear hmk hL
  have hZ : Z = (said Q).map (·.1) := by rw [saq]; exact hZ0
  have HZ : Hid (Z = (said Q).map (·.1)) := hZ
  obtain ⟨n, hn⟩ : ∃ n, n = Q.length := ⟨_, rfl⟩
  have hZn : Z.length = n := by rw [hZ, ports_len, hn]
  have HZN : Hid (Z.length = n) := hZn
  have HAT : Hid (∀ i, i < n → Z.getD i 0 = (Q.getD i e0).p) := fun i hi => by rw [HZ.out]; exact port_at Q i (by omega)
  rw [← hn] at hvh hvc hq ⊢
  clear hZ hn hZn hZ0 saq
  go_loopw [24] (fun i wr => ∃ k : Nat, k ≤ n ∧ i = .int .i64 k ∧ Below W1.heap.size W1 wr ∧ wr.rowIs W1.heap.size 3 n (Hr.part Z k)) (fun i _ => n - (intOf i).toNat)
  case atStart => exact ⟨0, Nat.zero_le _, rfl, below_alloc1 _ _, (World.rowIs_made W1 (.int .i64 0) n 3).congr (fun i _ => by simp [Hr.part])⟩
  case round =>
    obtain ⟨k, hk, rfl, hbel, hrow⟩ := hrel
    by_cases hlt : k < n
    · obtain ⟨rfl, _⟩ := hvh (by omega)
      have hkz : (k : Int) < (n : Int) := by omega
      obtain ⟨c0, c1⟩ := hvc k hlt
      rw [← HAT.out k hlt] at c0
      replace c0 := (hbel.cell (World.block_lt_of_cell? _ _ c0)).trans c0
      replace c1 := (hbel.cell (World.block_lt_of_cell? _ _ c1)).trans c1
      generalize (Q.getD k e0).g = gx at *
      generalize (Q.getD k e0).c = cx at *
      have zr := hrow.lt
      have g1 : wr.cell? ⟨W1.heap.size, k, none⟩ = some (Hr.part Z k k) := hrow.cell hlt
      have g2 : wr.frozen? ⟨W1.heap.size, k, none⟩ = false := hrow.frozen k
      have HST : Hid (∀ w5 : World, w5.rowIs W1.heap.size 3 n (Hr.part Z k) → (w5.setCell ⟨W1.heap.size, k, none⟩ (.int .i64 (Z.getD k 0))).rowIs W1.heap.size 3 n (Hr.part Z (k + 1))) := fun w5 q => by have e := HZN.out; subst e; exact Hr.part_step q
      generalize Z.getD k 0 = z at *
      clear hvc hvh
      go_wp2
      go_roundw
      case rel =>
        refine ⟨k + 1, by omega, by go_num, ?_, ?_⟩
        · first
            | exact (Rw.next hbel (below_alloc1 _ _)).setCell (by simp) _
            | exact Rw.next (hbel.setCell (by simp) _) (below_alloc1 _ _)
        · first
            | exact HST.out _ (hrow.alloc _)
            | exact (HST.out _ hrow).alloc _
      case measure => simp [intOf]; omega
    · have he : k = n := by omega
      subst he
      have mZ : Mine wr W1.heap.size Z := ⟨by rw [HZN.out]; exact hrow.congr (fun i hi => by simp [Hr.part, hi]), by rw [HZN.out]; omega⟩
      have hS := sort_mine (cap := k) mZ
      rw [HZN.out] at hS
      have HSL : Hid ((srt Z).length = k) := by unfold Hid; rw [srt_len]; exact HZN.out
      clear mZ hrow
      go_wp2_with (first | (go_at_call 69; refine hS.mono ?_; clear hS; rintro e w2 ⟨rfl, m2, on2⟩; have hC := compact_mine (cap := k) m2 (by rw [HSL.out]; exact Nat.le_refl _); rw [HSL.out] at hC) | (go_at_call 70; refine hC.mono ?_; clear hC; rintro e w3 ⟨rfl, o3, on3⟩))
      go_ret
      have b2 := on2.below hbel (by have := hbel.size; omega) (Nat.le_refl _)
      have b3 := on3.below b2 (by have := b2.size; omega) (Nat.le_refl _)
      exact ⟨_, _, rfl, o3, by have := B0.size; omega, B0.trans (b3.mono B0.size)⟩

theorem in_any (a : Option Addr) (b off cap : Nat) (l : List Int) (q : Int) (w : World) (h : Rd w a b off l) :
    Calls Try.prog 68 #[.slice a l.length cap, .int .i64 q] w fun e w' => e = .returned (.bool (decide (q ∈ l))) ∧ w' = w := by
  obtain ⟨hh, hc, hs⟩ := h
  obtain ⟨n, hn⟩ : ∃ n, n = l.length := ⟨_, rfl⟩
  rw [← hn] at hh hc hs ⊢
  have HN : Hid (n = l.length) := hn
  clear hn
  go_enter Try.func68, Try.ntmps68
  go_wp2
  go_loop [9] (fun i => ∃ k : Nat, k ≤ n ∧ i = .int .i64 k ∧ ∀ i, i < k → l.getD i 0 ≠ q) (fun i => n - (intOf i).toNat)
  case atStart => exact ⟨0, Nat.zero_le _, rfl, fun i hi => by omega⟩
  case round =>
    obtain ⟨k, hk, rfl, hpre⟩ := hrel
    have HP : Hid (∀ i, i < k → l.getD i 0 ≠ q) := hpre
    clear hpre
    by_cases hlt : k < n
    · obtain rfl := hh (by omega)
      have hkz : (k : Int) < (n : Int) := by omega
      have c0 := hc k hlt
      generalize ex : l.getD k 0 = x at c0
      have HX : Hid (l.getD k 0 = x) := ex
      clear ex hc hh
      by_cases hq : x = q
      · subst hq
        go_wp2
        go_ret
        refine ⟨ret_bool (decide_eq_true ?_).symm, rfl⟩
        have hkl : k < l.length := by have := HN.out; omega
        have := HX.out
        simp [List.getD, hkl] at this
        rw [← this]
        exact List.getElem_mem hkl
      · have hqe : (x == q) = false := by simpa using hq
        go_wp2
        go_round
        case rel => exact ⟨k + 1, by omega, by go_num, fun i hi => by
          by_cases e : i = k
          · subst e; rw [HX.out]; exact hq
          · exact HP.out i (by omega)⟩
        case measure => simp [intOf]; omega
    · have he : k = n := by omega
      subst he
      go_wp2
      go_ret
      refine ⟨ret_bool (decide_eq_false ?_).symm, rfl⟩
      intro hm
      obtain ⟨i, hi, e⟩ := List.getElem_of_mem hm
      have := HN.out
      have := HP.out i (by omega)
      simp [List.getD, hi] at this
      exact this e

end Go.Proofs.Ytkakdldhinimoaa.Ys

namespace Go.Proofs.Ytkakdldhinimoaa.Yt
set_option maxRecDepth 8000
set_option linter.unusedSimpArgs false
set_option linter.unusedVariables false
open Go Go.RowKit
open Num Pl Hr Hh Pq Ht Yh Yj Yk Yl Ym Yb Yc Yd Yo Yp Yq Yr Ys

/-- The ports below the next one, and the next one where it is among the first j. -/
def mid (Z : List Int) (P j : Nat) : List Int := outs Z P ++ (if (1 + (P : Int)) ∈ Z.take j then [1 + (P : Int)] else [])
theorem outs_len (Z : List Int) (n : Nat) : (outs Z n).length ≤ n := by
  unfold outs
  exact Nat.le_trans (List.length_filter_le _ _) (by simp)
theorem mid_len (Z : List Int) (P j : Nat) : (mid Z P j).length ≤ P + 1 := by
  unfold mid
  have := outs_len Z P
  rw [List.length_append]
  split <;> simp <;> omega
theorem mid_zero (Z : List Int) (P : Nat) : mid Z P 0 = outs Z P := by simp [mid]
theorem mid_end (Z : List Int) (P : Nat) : mid Z P Z.length = outs Z (P + 1) := by
  unfold mid
  rw [List.take_length, outs_succ]
theorem mid_mem (Z : List Int) (P j : Nat) : (1 + (P : Int)) ∈ mid Z P j ↔ (1 + (P : Int)) ∈ Z.take j := by
  unfold mid
  rw [List.mem_append, outs_mem]
  constructor
  · rintro (h | h)
    · omega
    · split at h
      · next q => exact q
      · simp at h
  · intro h
    rw [if_pos h]
    exact .inr (List.mem_singleton_self _)
theorem take_mem {Z : List Int} {j : Nat} (hj : j < Z.length) (x : Int) : x ∈ Z.take (j + 1) ↔ x ∈ Z.take j ∨ x = Z.getD j 0 := by
  rw [List.take_succ_eq_append_getElem hj, List.mem_append, List.mem_singleton]
  simp [List.getD, hj]
theorem mid_same {Z : List Int} {P j : Nat} (hj : j < Z.length) (h : Z.getD j 0 ≠ 1 + (P : Int) ∨ (1 + (P : Int)) ∈ Z.take j) : mid Z P (j + 1) = mid Z P j := by
  unfold mid
  have e : ((1 + (P : Int)) ∈ Z.take (j + 1)) = ((1 + (P : Int)) ∈ Z.take j) := by
    rw [eq_iff_iff, take_mem hj]
    constructor
    · rintro (q | q)
      · exact q
      · rcases h with h | h
        · exact absurd q.symm h
        · exact h
    · exact .inl
  simp only [e]
theorem mid_more {Z : List Int} {P j : Nat} (hj : j < Z.length) (h : Z.getD j 0 = 1 + (P : Int)) (hn : (1 + (P : Int)) ∉ Z.take j) : mid Z P (j + 1) = mid Z P j ++ [1 + (P : Int)] := by
  unfold mid
  rw [if_pos ((take_mem hj _).2 (.inr h.symm)), if_neg hn, List.append_nil]
theorem hasN_alloc {w : World} {B : Nat} {v : Value} {l : List Int} (h : HasN w B v l) (o : Obj) : HasN (w.alloc o) B v l := ⟨h.1.alloc o, h.2⟩
theorem rd_one (w : World) (x : Int) : Rd (w.alloc (.cells #[.int .i64 x] 3)) (some ⟨w.heap.size, 0, none⟩) w.heap.size 0 [x] := by
  refine ⟨fun _ => rfl, fun i hi => ?_, by simp⟩
  have : i = 0 := by simpa using hi
  subst this
  simp

set_option maxHeartbeats 4000000 in
theorem outS {h ports : List Int} {l : List A3} {R : Bool} {L : List (Int × List Int)} (hL : L.length ≤ 96) (hS : CP 26 h ports l R L) : CO 36 h ports l (outs (L.map (·.1)) 255) := by
  intro ha pa a hb ho hc pb po pc b off cap w hh hp hl
  obtain ⟨Z, hZ0⟩ : ∃ Z, Z = L.map (·.1) := ⟨_, rfl⟩
  rw [← hZ0]
  obtain ⟨W0, hW0⟩ : ∃ W0, W0 = w.alloc (.cells #[.slice ha h.length hc] 42) := ⟨_, rfl⟩
  have B0 : Below w.heap.size w W0 := by subst hW0; exact below_alloc1 _ _
  have hC := hid (hS _ _ _ _ _ hc _ _ pc _ _ cap _ (hh.below B0) (hp.below B0) (hl.below B0))
  clear hS hh hp hl
  go_enter Try.func36, Try.ntmps36
  go_wp2_with (go_at_call 26; rw [← hW0]; refine hC.out.mono ?_; rintro e W1 ⟨B, v, Q, rfl, sn, hB, saq, hb1⟩; clear hC; replace B0 := Rw.next B0 hb1; obtain ⟨va, vg, vc, rfl, hvh, hvc⟩ := view sn; have hq : Q.length ≤ 96 := (by rw [← said_len Q, saq]; exact hL))
  clear hL
  have hZ : Z = (said Q).map (·.1) := by rw [saq]; exact hZ0
  obtain ⟨n, hn⟩ : ∃ n, n = Q.length := ⟨_, rfl⟩
  have HZN : Hid (Z.length = n) := by unfold Hid; rw [hZ, ports_len, hn]
  have HAT : Hid (∀ i, i < n → Z.getD i 0 = (Q.getD i e0).p) := fun i hi => by rw [hZ]; exact port_at Q i (by omega)
  rw [← hn] at hvh hvc hq ⊢
  clear hZ hn hZ0 saq
  go_loopw [9, 10] (fun q i wr => ∃ P : Nat, P ≤ 255 ∧ i = .int .i64 (1 + (P : Int)) ∧ HasN wr W1.heap.size q (outs Z P) ∧ Below W1.heap.size W1 wr) (fun _ i _ => 256 - (intOf i).toNat)
  case atStart => exact ⟨0, by omega, rfl, by simpa [outs] using own_emptyN W1, below_alloc1 _ _⟩
  case round =>
    obtain ⟨P, hP, rfl, own, bel⟩ := hrel
    by_cases hlt : P < 255
    · have hPz : 1 + (P : Int) ≤ 255 := by omega
      go_wp2
      go_loopw [9, 26] (fun q5 i5 w5 => ∃ j : Nat, j ≤ n ∧ i5 = .int .i64 j ∧ HasN w5 W1.heap.size q5 (mid Z P j) ∧ Below W1.heap.size W1 w5) (fun _ i5 _ => n - (intOf i5).toNat)
      case atStart => exact ⟨0, Nat.zero_le _, rfl, by rw [mid_zero]; exact own, bel⟩
      case round =>
        obtain ⟨j, hj, rfl, own5, bel5⟩ := hrel
        clear own bel
        by_cases hjn : j < n
        · obtain ⟨rfl, _⟩ := hvh (by omega)
          have hjz : (j : Int) < (n : Int) := by omega
          have hjl : j < Z.length := by have := HZN.out; omega
          obtain ⟨c0, c1⟩ := hvc j hjn
          rw [← HAT.out j hjn] at c0
          replace c0 := (bel5.cell (World.block_lt_of_cell? _ _ c0)).trans c0
          have ml := mid_len Z P j
          obtain ⟨g5, k5, rfl, hg5, o5, _⟩ := own_has own5 (by omega)
          have hM := hid (in_any _ _ _ k5 _ (1 + (P : Int)) _ o5.rd)
          have HD : Hid (decide ((1 + (P : Int)) ∈ mid Z P j) = decide ((1 + (P : Int)) ∈ Z.take j)) := decide_eq_decide.2 (mid_mem Z P j)
          have SAME := hid (mid_same (Z := Z) (P := P) (j := j) hjl)
          have MORE := hid (mid_more (Z := Z) (P := P) (j := j) hjl)
          generalize Z.getD j 0 = z at *
          generalize (mid Z P j).length = len at *
          clear c1 hvc hvh HAT
          by_cases hz : z = 1 + (P : Int)
          · cases hd : decide ((1 + (P : Int)) ∈ Z.take j)
            · have HDD : Hid (decide ((1 + (P : Int)) ∈ mid Z P j) = false) := HD.out.trans hd
              have HNI := hid (of_decide_eq_false hd)
              clear hd HD
              subst hz
              have MO2 := hid (MORE.out rfl HNI.out)
              clear MORE SAME
              have own6 := hasN_alloc own5 (.cells #[.int .i64 (1 + (P : Int))] 3)
              have b6 := bel5.trans ((below_alloc1 wr (.cells #[.int .i64 (1 + (P : Int))] 3)).mono bel5.size)
              have r6 := rd_one wr (1 + (P : Int))
              have z6 := b6.size
              have zz := bel5.size
              go_wp2_with (first | (go_at_call 68; refine hM.out.mono ?_; rw [HDD.out]; rintro e w6 ⟨rfl, hw⟩; replace hw := hw.symm; subst hw) | (at_builtin; refine wpList_appN rfl (.tmp 42) (.tmp 44) rfl W1.heap.size (.slice (some ⟨g5, 0, none⟩) len k5) (mid Z P j) [1 + (P : Int)] rfl own6 ⟨wr.heap.size, 0, none⟩ wr.heap.size 0 1 rfl r6 (by have q := mid_len Z P j; simp; omega) z6 ?_; intro v7 w7 hown7 hg7))
              go_roundw
              case rel => exact ⟨j + 1, by omega, by go_num, by rw [MO2.out]; exact hown7, below_own own6 b6 (Nat.le_refl _) hg7⟩
              case measure => simp [intOf]; omega
            · have HDD : Hid (decide ((1 + (P : Int)) ∈ mid Z P j) = true) := HD.out.trans hd
              have HIN := hid (of_decide_eq_true hd)
              clear hd HD
              subst hz
              go_wp2_with (go_at_call 68; refine hM.out.mono ?_; rw [HDD.out]; rintro e w6 ⟨rfl, hw⟩; replace hw := hw.symm; subst hw)
              go_roundw
              case rel => exact ⟨j + 1, by omega, by go_num, by rw [SAME.out (.inr HIN.out)]; exact own5, bel5⟩
              case measure => simp [intOf]; omega
          · have hze : (z == 1 + (P : Int)) = false := by simpa using hz
            go_wp2
            go_roundw
            case rel => exact ⟨j + 1, by omega, by go_num, by rw [SAME.out (.inl hz)]; exact own5, bel5⟩
            case measure => simp [intOf]; omega
        · have he : j = n := by omega
          subst he
          go_wp2
          go_roundw
          case rel => exact ⟨P + 1, by omega, by simp only [Value.int.injEq, true_and]; omega, by rw [← mid_end, HZN.out]; exact own5, bel5⟩
          case measure => simp [intOf]; omega
    · have he : P = 255 := by omega
      subst he
      obtain ⟨g5, k5, rfl, hg5, o5, _⟩ := own_has own (by have := outs_len Z 255; omega)
      go_wp2
      go_ret
      exact ⟨_, _, rfl, o5, by have := B0.size; omega, B0.trans (bel.mono B0.size)⟩

theorem goes_port {hin : Int} {ports now : List Int} {x : A3} {p : Int × List Int} (h : p ∈ goes hin ports now x) : p.1 ∈ ports ∧ p.1 ≠ hin ∧ p.2 = now := by
  unfold goes at h
  split at h
  · split at h
    · next q => obtain rfl := List.mem_singleton.1 h; exact ⟨q.1, q.2, rfl⟩
    · simp at h
  · split at h
    · obtain ⟨y, hy, rfl⟩ := List.mem_map.1 h
      have := List.mem_filter.1 hy
      exact ⟨this.1, of_decide_eq_true this.2, rfl⟩
    · simp at h
theorem sentK_port {hin : Int} {ports : List Int} {l : List A3} {h : List Int} : ∀ k, ∀ p ∈ sentK hin ports l h k, p.1 ∈ ports ∧ p.1 ≠ hin
  | 0, p, hp => by simp [sentK] at hp
  | k + 1, p, hp => by
    simp only [sentK] at hp
    rcases List.mem_append.1 hp with q | q
    · exact sentK_port k p q
    · have := goes_port q; exact ⟨this.1, this.2.1⟩
theorem port_range {ports : List Int} (h : Ya.portsB ports = true) {p : Int} (hp : p ∈ ports) : 1 ≤ p ∧ p ≤ 255 := by
  have hq := (of_decide_eq_true h).2
  obtain ⟨i, hi, e⟩ := List.getElem_of_mem hp
  have := hq i hi
  simp [List.getD, hi] at this
  omega

/-- Both Perform and both OutPorts of a head, ports and actions, by one word each. -/
theorem allR (h ports : List Int) (l : List A3) : ∃ R L, L.length ≤ 96 ∧ CP 28 h ports l R L ∧ CP 26 h ports l R L ∧ CO 37 h ports l (outs (L.map (·.1)) 255) ∧ CO 36 h ports l (outs (L.map (·.1)) 255) ∧
    (L ≠ [] → ∀ p ∈ L, p.1 ∈ ports ∧ p.1 ≠ h.getD 0 0) := by
  cases hR : actsB l && Hg.headB h && Ya.portsB ports
  · have hI : CP 28 h ports l false [] := fun ha pa a hb ho hc pb po pc b off cap w h1 h2 h3 => perfI_no ha hb ho hc h pa pb po pc ports a b off cap l w h1 h2 h3 hR
    have hS : CP 26 h ports l false [] := fun ha pa a hb ho hc pb po pc b off cap w h1 h2 h3 => Yn.perfS_no ha hb ho hc h pa pb po pc ports a b off cap l w h1 h2 h3 hR
    refine ⟨false, [], by simp, hI, hS, ?_, outS (by simp) hS, fun q => absurd rfl q⟩
    have := outI (by simp) hI
    rw [compact_sorted (by simp)] at this
    exact this
  · simp only [Bool.and_eq_true] at hR
    obtain ⟨⟨q1, q2⟩, q3⟩ := hR
    have hI : CP 28 h ports l true (sentK (h.getD 0 0) ports l h l.length) := fun ha pa a hb ho hc pb po pc b off cap w h1 h2 h3 => perfI_yes ha hb ho hc h pa pb po pc ports a b off cap l w h1 h2 h3 q1 q2 q3
    have hS : CP 26 h ports l true (sentK (h.getD 0 0) ports l h l.length) := fun ha pa a hb ho hc pb po pc b off cap w h1 h2 h3 => Yn.perfS_yes ha hb ho hc h pa pb po pc ports a b off cap l w h1 h2 h3 q1 q2 q3
    have hL : (sentK (h.getD 0 0) ports l h l.length).length ≤ 96 := by
      have := sentK_len (h.getD 0 0) ports l h (of_decide_eq_true q3).1 l.length
      have := (actsB_out q1).1
      omega
    refine ⟨true, _, hL, hI, hS, ?_, outS hL hS, fun _ => sentK_port _⟩
    have := outI hL hI
    rw [compact_sorted ?_] at this
    · exact this
    · intro z hz
      obtain ⟨p, hp, rfl⟩ := List.mem_map.1 hz
      exact port_range q3 (sentK_port _ p hp).1

end Go.Proofs.Ytkakdldhinimoaa.Yt

