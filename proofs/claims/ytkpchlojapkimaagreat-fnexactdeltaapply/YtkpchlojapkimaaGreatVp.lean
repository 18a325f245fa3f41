/-
  Arguments that are values or rows; rows of values: one that reads as a list, one of the call's own; sizes, copies, likeness.
-/
import Derived.Test.YtkpchlojapkimaaGreatVo
import Derived.OpenShut
import Derived.Deep.Slices
import Derived.Laws.MakeOwn
import Derived.Deep.RegionWith
namespace Go.Proofs.YtkpchlojapkimaaGreat.Vl
set_option maxRecDepth 8000
set_option linter.unusedSimpArgs false
set_option linter.unusedVariables false
open Go Go.ChangeShapes Go.WideShapes Go.RowKit
open Num Word Pl

theorem array1 {α : Type} {cs : Array α} (h : cs.size = 1) : ∃ a, cs = #[a] := by
  obtain ⟨l⟩ := cs
  match l, h with
  | [a], _ => exact ⟨a, rfl⟩
theorem array2 {α : Type} {cs : Array α} (h : cs.size = 2) : ∃ a b, cs = #[a, b] := by
  obtain ⟨l⟩ := cs
  match l, h with
  | [a, b], _ => exact ⟨a, b, rfl⟩

set_option maxHeartbeats 1000000 in
theorem open_val {H : Type} {enc : TypeId × Value → H} {W : World} {fuel : Nat} {cs : List Value} {x : DataW H × List MemPlace}
    (h : DataW.trod enc Tryz.prog W 0 (fun _ => true) true fuel 238 cs = some x) : ∃ q : V2, cs = [.int .i64 q.1, .string q.2] ∧ q.2.size ≤ maxLen := by
  have c3 : Tryz.prog.cellsOf 3 = 1 := by kernel_rfl
  have c9 : Tryz.prog.cellsOf 9 = 1 := by kernel_rfl
  have c23 : Tryz.prog.cellsOf 238 = 2 := by kernel_rfl
  obtain ⟨xs, k, _, _, hl, hxl, hf⟩ := DataW.trod_struct Tryz.underlying238 h
  rw [c23] at hl
  match xs, hxl, cs, hl with
  | [y0, y1], _, [v0, v1], _ =>
    have g0 := hf 0 _ rfl
    have g1 := hf 1 _ rfl
    simp [c3, c9] at g0 g1
    obtain ⟨q0, r0, _⟩ := DataW.trod_int Tryz.underlying3 g0
    obtain ⟨q1, r1, _, hm⟩ := DataW.trod_string Tryz.underlying9 g1
    simp at r0 r1
    subst r0 r1
    exact ⟨(q0, q1), rfl, hm⟩
theorem open_value {H : Type} {enc : TypeId × Value → H} {W : World} {r : Reach} {b0 : Nat} {v : Value} {d : DataW H} {p : List MemPlace}
    (hv : Value.okWide Tryz.prog W r b0 238 v) (h : DataW.Trod enc Tryz.prog W 0 (fun _ => true) true 238 v d p) : ∃ n s, v = .agg #[.int .i64 n, .string s] ∧ s.size ≤ maxLen := by
  obtain ⟨cs, rfl, _⟩ := okWide_struct Tryz.underlying238 hv
  obtain ⟨fuel, hf⟩ := h
  obtain ⟨q, hq, hi⟩ := open_val hf
  refine ⟨q.1, q.2, ?_, hi⟩
  simp only [Value.cells] at hq
  have : cs = #[.int .i64 q.1, .string q.2] := by
    apply Array.ext'
    simpa using hq
  rw [this]

def At2 (w : World) (b off i : Nat) (x : V2) : Prop :=
  w.cell? ⟨b, off + i * 2, none⟩ = some (.int .i64 x.1) ∧ w.cell? ⟨b, off + i * 2 + 1, none⟩ = some (.string x.2)
theorem At2.lt {w : World} {b off i : Nat} {x : V2} (h : At2 w b off i x) : b < w.heap.size := World.block_lt_of_cell? _ _ h.1
theorem At2.of {w w' : World} {b off i : Nat} {x : V2} {n : Nat} (h : At2 w b off i x) (hb : Below n w w') (hn : b < n := by omega) : At2 w' b off i x := by
  refine ⟨(hb.cell ?_).trans h.1, (hb.cell ?_).trans h.2⟩ <;> exact hn
theorem At2.below {w w' : World} {b off i : Nat} {x : V2} (h : At2 w b off i x) (hb : Below w.heap.size w w') : At2 w' b off i x := h.of hb h.lt

/-- The slice at 'a' (its head at block b, offset off, where it is not empty) reads as the values l. -/
structure Rd (w : World) (a : Option Addr) (b off : Nat) (l : List V2) : Prop where
  head : 0 < l.length → a = some ⟨b, off, none⟩
  cell : ∀ i, i < l.length → At2 w b off i (l.getD i z2)
  size : l.length ≤ 4194304
  str : ∀ i, i < l.length → (l.getD i z2).2.size ≤ maxLen
theorem Rd.below {w w' : World} {a : Option Addr} {b off : Nat} {l : List V2} (h : Rd w a b off l) (hb : Below w.heap.size w w') : Rd w' a b off l :=
  ⟨h.head, fun i hi => (h.cell i hi).below hb, h.size, h.str⟩

/-- What is told of a slice of values that came in. -/
def IsRow (w : World) (a : Option Addr) (l : List V2) : Prop :=
  l.length ≤ maxLen ∧ (∀ i, i < l.length → (l.getD i z2).2.size ≤ maxLen) ∧ (l.length = 0 ∨ ∃ b off, a = some ⟨b, off, none⟩ ∧ ∀ i, i < l.length → At2 w b off i (l.getD i z2))
theorem IsRow.below {w w' : World} {a : Option Addr} {l : List V2} (h : IsRow w a l) (hb : Below w.heap.size w w') : IsRow w' a l := by
  obtain ⟨h1, h2, h3⟩ := h
  refine ⟨h1, h2, h3.imp id ?_⟩
  rintro ⟨b, off, e, hc⟩
  exact ⟨b, off, e, fun i hi => (hc i hi).below hb⟩
theorem rd_of_isRow {w : World} {a : Option Addr} {l : List V2} (h : IsRow w a l) (hlen : l.length ≤ 4194304) : ∃ b off, Rd w a b off l := by
  obtain ⟨h1, h2, h3 | ⟨b, off, e, hc⟩⟩ := h
  · exact ⟨0, 0, ⟨fun h => by omega, fun i hi => by omega, by omega, fun i hi => by omega⟩⟩
  · exact ⟨b, off, ⟨fun _ => e, hc, hlen, h2⟩⟩

set_option maxHeartbeats 1000000 in
theorem open_vals {H : Type} {enc : TypeId × Value → H} {W : World} {fuel : Nat} {v : Value} {x : DataW H × List MemPlace}
    (h : DataW.trod enc Tryz.prog W 0 (fun _ => true) true fuel 219 [v] = some x) : ∃ a c l, v = .slice a (List.length l) c ∧ IsRow W a l := by
  have c23 : Tryz.prog.cellsOf 238 = 2 := by kernel_rfl
  rcases Deep.open_slice Tryz.underlying219 h with ⟨hcs, _⟩ | ⟨x, len, cap, m, n, D, Pl, hcs, hb, hl, hm, hmm, _, hx⟩
  · simp at hcs
    subst hcs
    exact ⟨none, 0, [], rfl, by simp, fun i hi => by simp at hi, .inl rfl⟩
  · simp at hcs
    subst hcs
    have hlm : len ≤ m := by rw [hmm]; split <;> omega
    have each : ∀ i, i < len → ∃ q : V2, q.2.size ≤ maxLen ∧ W.cell? (x.add (i * 2)) = some (.int .i64 q.1) ∧ W.cell? (x.add (i * 2 + 1)) = some (.string q.2) := by
      intro i hi
      obtain ⟨cs', h1, h2⟩ := hx i (by omega)
      rw [c23] at h1
      obtain ⟨_, hlen, hcell⟩ := World.cells?_some h1
      obtain ⟨r, rfl, hi'⟩ := open_val h2
      have e0 := hcell 0 (by omega)
      have e1 := hcell 1 (by omega)
      rw [Deep.add_add] at e0 e1
      exact ⟨r, hi', by simpa using e0, by simpa using e1⟩
    obtain ⟨q, hq⟩ := Deep.choose_lt each
    have ge : ∀ i, i < len → ((List.range len).map q).getD i z2 = q i := fun i hi => by simp [List.getD, hi]
    refine ⟨some x, cap, (List.range len).map q, by simp, by simp; omega, fun i hi => ?_, ?_⟩
    · simp only [List.length_map, List.length_range] at hi
      rw [ge i hi]
      exact (hq i hi).1
    · by_cases h0 : len = 0
      · left; simp [h0]
      right
      obtain ⟨b, off, spot⟩ := x
      have hc := (hq 0 (by omega)).2.1
      have hspot : spot = none := by simpa [Addr.add] using World.cell?_spot hc
      subst hspot
      refine ⟨b, off, rfl, fun i hi => ?_⟩
      simp only [List.length_map, List.length_range] at hi
      have := (hq i hi).2
      rw [add_eq, add_eq] at this
      rw [ge i hi]
      exact ⟨this.1, by rw [Nat.add_assoc]; exact this.2⟩
theorem open_row {H : Type} {enc : TypeId × Value → H} {W : World} {r : Reach} {b0 : Nat} {v : Value} {d : DataW H} {p : List MemPlace}
    (hv : Value.okWide Tryz.prog W r b0 221 v) (h : DataW.Trod enc Tryz.prog W 0 (fun _ => true) true 221 v d p) : ∃ a c l, v = .agg #[.slice a (List.length l) c] ∧ IsRow W a l := by
  have c32 : Tryz.prog.cellsOf 219 = 1 := by kernel_rfl
  have c34 : Tryz.prog.cellsOf 221 = 1 := by kernel_rfl
  obtain ⟨cs, rfl, hsz⟩ := okWide_struct Tryz.underlying221 hv
  obtain ⟨v0, rfl⟩ := array1 (hsz.trans c34)
  obtain ⟨fuel, hf⟩ := h
  obtain ⟨xs, k, _, _, hl, hxl, hg⟩ := DataW.trod_struct Tryz.underlying221 hf
  match xs, hxl with
  | [y0], _ =>
    have g0 := hg 0 _ rfl
    simp [c32, Value.cells] at g0
    obtain ⟨a, c, R, rfl, hR⟩ := open_vals g0
    exact ⟨a, c, R, rfl, hR⟩

/-- How much the words of the first k values take. -/
def tot (l : List V2) : Nat → Nat
  | 0 => 0
  | k + 1 => tot l k + (l.getD k z2).2.size
theorem tot_mono (l : List V2) {i j : Nat} (h : i ≤ j) : tot l i ≤ tot l j := by
  induction j with
  | zero => have : i = 0 := by omega
            subst this; exact Nat.le_refl _
  | succ j ih =>
    by_cases e : i = j + 1
    · subst e; exact Nat.le_refl _
    · have := ih (by omega)
      simp only [tot]; omega

set_option maxHeartbeats 1000000 in
theorem szS_at (a : Option Addr) (c L R : Nat) (l : List V2) (w : World) (h : IsRow w a l) (hR : l.length + tot l l.length + R = L) (hL : L ≤ 1048576) :
    Calls Tryz.prog 191 #[.slice a l.length c, .int .i64 L] w fun e w' => e = .returned (.int .i64 R) ∧ Below w.heap.size w w' := by
  obtain ⟨hm, hs, h3⟩ := h
  obtain ⟨n, hn⟩ : ∃ n, n = l.length := ⟨_, rfl⟩
  rw [← hn] at hm hs h3 hR ⊢
  have h0 : ¬ ((L : Int) - (n : Int) < 0) := by omega
  have HR : Hid (n + tot l n + R = L) := hR
  have HH : Hid (n = 0 ∨ ∃ b off, a = some ⟨b, off, none⟩ ∧ ∀ i, i < n → At2 w b off i (l.getD i z2)) := h3
  have hnL : n ≤ L := by omega
  clear hn hR hs h3
  go_enter Tryz.func191, Tryz.ntmps191
  go_wp2
  go_loopw [1, 5] (fun u i wr => ∃ k : Nat, k ≤ n ∧ i = .int .i64 k ∧ u = .int .i64 ((L - n - tot l k : Nat) : Int) ∧ Below w.heap.size w wr) (fun _ i _ => n - (intOf i).toNat)
  case atStart => exact ⟨0, Nat.zero_le _, rfl, by simp only [tot]; congr 1; omega, Below.refl _ _⟩
  case round =>
    obtain ⟨k, hk, rfl, rfl, hbel⟩ := hrel
    have q1 := tot_mono l hk
    by_cases hlt : k < n
    · have q2 := tot_mono l (i := k + 1) (j := n) hlt
      simp only [tot] at q2
      obtain ⟨b, off, rfl, hc⟩ := HH.out.resolve_left (by omega)
      have hkz : (k : Int) < (n : Int) := by omega
      obtain ⟨c0, c1⟩ := (hc k hlt).of hbel (hc k hlt).lt
      have hr := HR.out
      have HT : Hid (tot l (k + 1) = tot l k + (l.getD k z2).2.size) := rfl
      clear hc HH
      obtain ⟨M, hM⟩ : ∃ M, M = L - n - tot l k := ⟨_, rfl⟩
      rw [← hM]
      generalize (l.getD k z2).1 = x0 at c0
      generalize (l.getD k z2).2 = x1 at c1 q2 HT
      have hlo : x1.size ≤ M := by omega
      have hhi : M ≤ 1048576 := by omega
      have HM : Hid (M = L - n - tot l k) := hM
      clear hM hr q1 q2
      have h0' : ¬ ((M : Int) - (x1.size : Int) < 0) := by omega
      go_wp2_with (go_at_call 196; refine (szV_small _ _ _ _ hlo hhi).mono ?_; rintro e w1 ⟨rfl, hb⟩)
      go_roundw
      case rel => exact ⟨k + 1, by omega, by go_num, by have := HT.out; have := HM.out; congr 1; omega, Rw.next hbel hb⟩
      case measure => simp [intOf]; omega
    · have he : k = n := by omega
      subst he
      have hr := HR.out
      have e : L - k - tot l k = R := by omega
      rw [e]
      go_wp2
      go_ret
      exact ⟨rfl, hbel⟩

set_option maxHeartbeats 1000000 in
theorem szS_big (a : Option Addr) (c L : Nat) (l : List V2) (w : World) (h : IsRow w a l) (hR : L < l.length + tot l l.length) (hL : L ≤ 1048576) :
    Calls Tryz.prog 191 #[.slice a l.length c, .int .i64 L] w fun e w' => e = .returned (.int .i64 (-1)) ∧ Below w.heap.size w w' := by
  obtain ⟨hm, hs, h3⟩ := h
  obtain ⟨n, hn⟩ : ∃ n, n = l.length := ⟨_, rfl⟩
  rw [← hn] at hm hs h3 hR ⊢
  by_cases hnL : n ≤ L
  · have h0 : ¬ ((L : Int) - (n : Int) < 0) := by omega
    have HR : Hid (L < n + tot l n) := hR
    have HH : Hid (n = 0 ∨ ∃ b off, a = some ⟨b, off, none⟩ ∧ ∀ i, i < n → At2 w b off i (l.getD i z2)) := h3
    have HS : Hid (∀ i, i < n → (l.getD i z2).2.size ≤ maxLen) := hs
    clear hn hR hs h3
    go_enter Tryz.func191, Tryz.ntmps191
    go_wp2
    go_loopw [1, 5] (fun u i wr => ∃ k : Nat, k ≤ n ∧ i = .int .i64 k ∧ u = .int .i64 ((L - n - tot l k : Nat) : Int) ∧ tot l k ≤ L - n ∧ Below w.heap.size w wr) (fun _ i _ => n - (intOf i).toNat)
    case atStart => exact ⟨0, Nat.zero_le _, rfl, by simp only [tot]; congr 1; omega, by simp [tot], Below.refl _ _⟩
    case round =>
      obtain ⟨k, hk, rfl, rfl, htk, hbel⟩ := hrel
      have hlt : k < n := by
        have := HR.out
        rcases Nat.lt_or_ge k n with h | h
        · exact h
        · have : k = n := by omega
          subst this; omega
      obtain ⟨b, off, rfl, hc⟩ := HH.out.resolve_left (by omega)
      have hkz : (k : Int) < (n : Int) := by omega
      obtain ⟨c0, c1⟩ := (hc k hlt).of hbel (hc k hlt).lt
      have HT : Hid (tot l (k + 1) = tot l k + (l.getD k z2).2.size) := rfl
      have hsz := HS.out k hlt
      clear hc HH
      obtain ⟨M, hM⟩ : ∃ M, M = L - n - tot l k := ⟨_, rfl⟩
      rw [← hM]
      generalize (l.getD k z2).1 = x0 at c0
      generalize (l.getD k z2).2 = x1 at c1 HT hsz
      have hhi : M ≤ 1048576 := by omega
      have HM : Hid (M = L - n - tot l k) := hM
      have HK : Hid (tot l k ≤ L - n) := htk
      clear hM htk
      by_cases hlo : x1.size ≤ M
      · have h0' : ¬ ((M : Int) - (x1.size : Int) < 0) := by omega
        go_wp2_with (go_at_call 196; refine (szV_small _ _ _ _ hlo hhi).mono ?_; rintro e w1 ⟨rfl, hb⟩)
        go_roundw
        case rel => exact ⟨k + 1, by omega, by go_num, by have := HT.out; have := HM.out; have := HK.out; congr 1; omega, by have := HT.out; have := HM.out; have := HK.out; omega, Rw.next hbel hb⟩
        case measure => simp [intOf]; omega
      · go_wp2_with (go_at_call 196; refine (szV_big _ _ _ _ (by omega) hhi hsz).mono ?_; rintro e w1 ⟨rfl, hb⟩)
        go_ret
        exact ⟨rfl, Rw.next hbel hb⟩
  · unfold maxLen at hm
    have h0 : (L : Int) - (n : Int) < 0 := by omega
    go_enter Tryz.func191, Tryz.ntmps191
    go_wp2
    go_ret
    exact ⟨rfl, Below.refl _ _⟩

theorem szR_at (a : Option Addr) (c L R : Nat) (l : List V2) (w : World) (h : IsRow w a l) (hR : l.length + tot l l.length + R = L) (hL : L ≤ 1048576) :
    Calls Tryz.prog 185 #[.agg #[.slice a l.length c], .int .i64 L] w fun e w' => e = .returned (.int .i64 R) ∧ Below w.heap.size w w' := by
  have B := below_alloc1 w (.cells #[.slice a l.length c] 221)
  have h0 : ¬ ((R : Int) < 0) := by omega
  have hc := szS_at a c L R l _ (h.below B) hR hL
  go_enter Tryz.func185, Tryz.ntmps185
  go_wp2_with (go_at_call 191; refine hc.mono ?_; rintro e w1 ⟨rfl, hb⟩)
  go_ret
  exact ⟨rfl, Rw.next B hb⟩
theorem szR_big (a : Option Addr) (c L : Nat) (l : List V2) (w : World) (h : IsRow w a l) (hR : L < l.length + tot l l.length) (hL : L ≤ 1048576) :
    Calls Tryz.prog 185 #[.agg #[.slice a l.length c], .int .i64 L] w fun e w' => e = .returned (.int .i64 (-1)) ∧ Below w.heap.size w w' := by
  have B := below_alloc1 w (.cells #[.slice a l.length c] 221)
  have hc := szS_big a c L l _ (h.below B) hR hL
  go_enter Tryz.func185, Tryz.ntmps185
  go_wp2_with (go_at_call 191; refine hc.mono ?_; rintro e w1 ⟨rfl, hb⟩)
  go_ret
  exact ⟨rfl, Rw.next B hb⟩

end Go.Proofs.YtkpchlojapkimaaGreat.Vl
