/-
  Opening an argument that is an entry or a table; sizes of slices of entries and of tables.
-/
import Derived.Test.YtcbgnfjnjfaacaaEa
import Derived.Test.YtcbgnfjnjfaacaaPf
namespace Go.Proofs.Ytcbgnfjnjfaacaa.Ea
set_option maxRecDepth 8000
open Go Go.ChangeShapes Go.WideShapes Go.RowKit
open Num Pl

instance : Inhabited Raw := ⟨r0⟩
theorem open_ints1 {H : Type} {enc : TypeId × Value → H} {W : World} {fuel : Nat} {v : Value} {x : DataW H × List MemPlace}
    (h : DataW.trod enc Try.prog W 0 (fun _ => true) true fuel 23 [v] = some x) : ∃ a n c z, v = .slice a n c ∧ Rw.IsRow .i64 W a n c z := by
  rcases open_ints Try.underlying23 Try.underlying3 (by kernel_rfl) h with ⟨hcs, _⟩ | ⟨a, l, c, zs, hcs, _, hl, hm, hz, _, hcell, hwz⟩
  · simp at hcs
    subst hcs
    exact ⟨_, _, _, [], rfl, .inl ⟨rfl, rfl, rfl, rfl⟩⟩
  · simp at hcs
    subst hcs
    exact ⟨_, _, _, zs, rfl, .inr ⟨_, rfl, hl, hm, by simpa using hz, hcell, hwz⟩⟩
theorem open_acts1 {H : Type} {enc : TypeId × Value → H} {W : World} {fuel : Nat} {v : Value} {x : DataW H × List MemPlace}
    (h : DataW.trod enc Try.prog W 0 (fun _ => true) true fuel 55 [v] = some x) : ∃ a n c z, v = .slice a n c ∧ Yb.IsRow W a n z := by
  have hs : ∃ a n c, v = .slice a n c := by
    rcases Deep.open_slice Try.underlying55 h with ⟨hcs, _⟩ | ⟨a, l, c, m, n, D, Pl, hcs, _⟩
    · simp at hcs; exact ⟨_, _, _, hcs⟩
    · simp at hcs; exact ⟨_, _, _, hcs⟩
  obtain ⟨a, n, c, rfl⟩ := hs
  obtain ⟨z, hz⟩ := Yb.open_acts (d := x.1) (p := x.2) ⟨fuel, by simpa [Value.cells] using h⟩
  exact ⟨a, n, c, z, rfl, hz⟩

set_option maxHeartbeats 1000000 in
theorem open_ent {H : Type} {enc : TypeId × Value → H} {W : World} {fuel : Nat} {cs : List Value} {x : DataW H × List MemPlace}
    (h : DataW.trod enc Try.prog W 0 (fun _ => true) true fuel 57 cs = some x) : ∃ r : Raw, cs = r.vals.toList ∧ r.Is W := by
  have c3 : Try.prog.cellsOf 3 = 1 := by kernel_rfl
  have c23 : Try.prog.cellsOf 23 = 1 := by kernel_rfl
  have c54 : Try.prog.cellsOf 54 = 2 := by kernel_rfl
  have c55 : Try.prog.cellsOf 55 = 1 := by kernel_rfl
  have c57 : Try.prog.cellsOf 57 = 6 := by kernel_rfl
  obtain ⟨xs, k, _, _, hl, hxl, hf⟩ := DataW.trod_struct Try.underlying57 h
  rw [c57] at hl
  match xs, hxl, cs, hl with
  | [y0, y1, y2, y3, y4], _, [v0, v1, v2, v3, v4, v5], _ =>
    have g0 := hf 0 _ rfl
    have g1 := hf 1 _ rfl
    have g2 := hf 2 _ rfl
    have g3 := hf 3 _ rfl
    have g4 := hf 4 _ rfl
    simp [c3, c54, c55] at g0 g1 g2 g3 g4
    obtain ⟨q0, r0, _⟩ := DataW.trod_int Try.underlying3 g0
    obtain ⟨q1, r1, _⟩ := DataW.trod_int Try.underlying3 g1
    obtain ⟨q4, r4, _⟩ := DataW.trod_int Try.underlying3 g4
    simp at r0 r1 r4
    subst r0 r1 r4
    obtain ⟨z0, z1, k', _, _, t0, t1⟩ := trod_struct2 Try.underlying54 g2
    simp [c23] at t0 t1
    obtain ⟨aV, nV, cV, zV, rfl, iV⟩ := open_ints1 t0
    obtain ⟨aM, nM, cM, zM, rfl, iM⟩ := open_ints1 t1
    obtain ⟨aA, nA, cA, zA, rfl, iA⟩ := open_acts1 g3
    exact ⟨⟨q0, q1, aV, nV, cV, aM, nM, cM, aA, nA, cA, q4⟩, rfl, ⟨zV, iV⟩, ⟨zM, iM⟩, ⟨zA, iA⟩⟩

theorem open_entry {H : Type} {enc : TypeId × Value → H} {W : World} {r : Reach} {b0 : Nat} {v : Value} {d : DataW H} {p : List MemPlace}
    (hv : Value.okWide Try.prog W r b0 57 v) (h : DataW.Trod enc Try.prog W 0 (fun _ => true) true 57 v d p) : ∃ q : Raw, v = .agg q.vals ∧ q.Is W := by
  obtain ⟨cs, rfl, _⟩ := okWide_struct Try.underlying57 hv
  obtain ⟨fuel, hf⟩ := h
  obtain ⟨q, hq, hi⟩ := open_ent hf
  refine ⟨q, ?_, hi⟩
  simp only [Value.cells] at hq
  have : cs = q.vals := by
    apply Array.ext'
    simpa using hq
  rw [this]

/-- A slice of entries that came in. -/
def IsRow (w : World) (a : Option Addr) (R : List Raw) : Prop :=
  R.length ≤ maxLen ∧ (∀ i, i < R.length → (R.getD i r0).Is w) ∧ (R.length = 0 ∨ ∃ b off, a = some ⟨b, off, none⟩ ∧ ∀ i, i < R.length → At6 w b off i (R.getD i r0).vals)

theorem ints_below {w w' : World} {a : Option Addr} {n c : Nat} {z : List Int} (h : Rw.IsRow .i64 w a n c z) (hb : Below w.heap.size w w') : Rw.IsRow .i64 w' a n c z := by
  rcases h with h | ⟨x, h1, h2, h3, h4, h5, h6⟩
  · exact .inl h
  · exact .inr ⟨x, h1, h2, h3, h4, fun i hi => (hb.cell (World.block_lt_of_cell? _ _ (h5 i hi))).trans (h5 i hi), h6⟩
theorem acts_below {w w' : World} {a : Option Addr} {n : Nat} {z : List Yb.A3} (h : Yb.IsRow w a n z) (hb : Below w.heap.size w w') : Yb.IsRow w' a n z := by
  rcases h with h | ⟨b, off, h1, h2, h3, h4⟩
  · exact .inl h
  · exact .inr ⟨b, off, h1, h2, h3, fun i hi => (h4 i hi).below hb⟩
theorem Raw.Is.below {w w' : World} {r : Raw} (h : r.Is w) (hb : Below w.heap.size w w') : r.Is w' := by
  obtain ⟨⟨_, h1⟩, ⟨_, h2⟩, ⟨_, h3⟩⟩ := h
  exact ⟨⟨_, ints_below h1 hb⟩, ⟨_, ints_below h2 hb⟩, ⟨_, acts_below h3 hb⟩⟩
theorem IsRow.below {w w' : World} {a : Option Addr} {R : List Raw} (h : IsRow w a R) (hb : Below w.heap.size w w') : IsRow w' a R := by
  obtain ⟨h1, h2, h3⟩ := h
  refine ⟨h1, fun i hi => (h2 i hi).below hb, h3.imp id ?_⟩
  rintro ⟨b, off, e, hc⟩
  exact ⟨b, off, e, fun i hi => (hc i hi).of hb (At6.lt (hc i hi))⟩

set_option maxHeartbeats 1000000 in
theorem open_ents {H : Type} {enc : TypeId × Value → H} {W : World} {fuel : Nat} {v : Value} {x : DataW H × List MemPlace}
    (h : DataW.trod enc Try.prog W 0 (fun _ => true) true fuel 63 [v] = some x) : ∃ a c R, v = .slice a (List.length R) c ∧ IsRow W a R := by
  have c57 : Try.prog.cellsOf 57 = 6 := by kernel_rfl
  rcases Deep.open_slice Try.underlying63 h with ⟨hcs, _⟩ | ⟨x, len, cap, m, n, D, Pl, hcs, hb, hl, hm, hmm, _, hx⟩
  · simp at hcs
    subst hcs
    exact ⟨none, 0, [], rfl, by simp, fun i hi => by simp at hi, .inl rfl⟩
  · simp at hcs
    subst hcs
    have hlm : len ≤ m := by rw [hmm]; split <;> omega
    have each : ∀ i, i < len → ∃ r : Raw, r.Is W ∧ ∀ j, j < 6 → W.cell? (x.add (i * 6 + j)) = r.vals[j]? := by
      intro i hi
      obtain ⟨cs', h1, h2⟩ := hx i (by omega)
      rw [c57] at h1
      obtain ⟨_, hlen, hcell⟩ := World.cells?_some h1
      obtain ⟨r, hr, hi'⟩ := open_ent h2
      refine ⟨r, hi', fun j hj => ?_⟩
      have e := hcell j (by omega)
      rw [Deep.add_add] at e
      rw [e, ← Array.getElem?_toList, ← hr]
    obtain ⟨q, hq⟩ := Deep.choose_lt each
    have ge : ∀ i, i < len → ((List.range len).map q).getD i r0 = q i := fun i hi => by simp [List.getD, hi]
    refine ⟨some x, cap, (List.range len).map q, by simp, by simp; omega, fun i hi => ?_, ?_⟩
    · simp only [List.length_map, List.length_range] at hi
      rw [ge i hi]
      exact (hq i hi).1
    · by_cases h0 : len = 0
      · left; simp [h0]
      right
      obtain ⟨b, off, spot⟩ := x
      have hc := (hq 0 (by omega)).2 0 (by omega)
      have hspot : spot = none := by
        have : W.cell? (Addr.add ⟨b, off, spot⟩ 0) = some (.int .i64 (q 0).ep) := by simpa [Raw.vals] using hc
        simpa [Addr.add] using World.cell?_spot this
      subst hspot
      refine ⟨b, off, rfl, fun i hi j hj => ?_⟩
      simp only [List.length_map, List.length_range] at hi
      rw [ge i hi, Nat.add_assoc, ← (hq i hi).2 j hj, Yb.add_eq]

theorem open_table {H : Type} {enc : TypeId × Value → H} {W : World} {r : Reach} {b0 : Nat} {v : Value} {d : DataW H} {p : List MemPlace}
    (hv : Value.okWide Try.prog W r b0 65 v) (h : DataW.Trod enc Try.prog W 0 (fun _ => true) true 65 v d p) : ∃ q a c R, v = .agg #[.int .i64 q, .slice a (List.length R) c] ∧ IsRow W a R := by
  have c3 : Try.prog.cellsOf 3 = 1 := by kernel_rfl
  have c63 : Try.prog.cellsOf 63 = 1 := by kernel_rfl
  have c65 : Try.prog.cellsOf 65 = 2 := by kernel_rfl
  obtain ⟨cs, rfl, hsz⟩ := okWide_struct Try.underlying65 hv
  obtain ⟨v0, v1, rfl⟩ := Lm.array2 (hsz.trans c65)
  obtain ⟨fuel, hf⟩ := h
  obtain ⟨y0, y1, k, _, _, g0, g1⟩ := trod_struct2 Try.underlying65 hf
  simp [c3, c63, Value.cells] at g0 g1
  obtain ⟨q0, e0, _⟩ := DataW.trod_int Try.underlying3 g0
  simp at e0
  subst e0
  obtain ⟨a, c, R, rfl, hR⟩ := open_ents g1
  exact ⟨q0, a, c, R, rfl, hR⟩

/-- How much the first k entries take. -/
def tot (R : List Raw) : Nat → Nat
  | 0 => 0
  | k + 1 => tot R k + (R.getD k r0).len
theorem tot_mono (R : List Raw) {i j : Nat} (h : i ≤ j) : tot R i ≤ tot R j := by
  induction j with
  | zero => have : i = 0 := by omega
            subst this; exact Nat.le_refl _
  | succ j ih => rcases Nat.lt_or_ge i (j + 1) with h1 | h1
                 · have := ih (by omega); simp only [tot]; omega
                 · have : i = j + 1 := by omega
                   subst this; exact Nat.le_refl _

theorem raw_lt {w : World} {b off i : Nat} {r : Raw} (h : At6 w b off i r.vals) : b < w.heap.size := At6.lt h

set_option maxHeartbeats 1000000 in
theorem szS_big (a : Option Addr) (c L : Nat) (R : List Raw) (w : World) (hR : IsRow w a R) (h : L < R.length + tot R R.length) (hL : L ≤ 1048576) :
    Calls Try.prog 108 #[.slice a R.length c, .int .i64 L] w fun e w' => e = .returned (.int .i64 (-1)) ∧ Below w.heap.size w w' := by
  obtain ⟨hm, hi, hc⟩ := hR
  unfold maxLen at hm
  obtain ⟨n, hn⟩ : ∃ n, n = R.length := ⟨_, rfl⟩
  rw [← hn] at hm hi hc h ⊢
  clear hn
  by_cases h1 : L < n
  · have hz : (L : Int) - (n : Int) < 0 := by omega
    go_enter Try.func108, Try.ntmps108
    go_wp2
    go_ret
    exact ⟨rfl, Below.refl _ _⟩
  · rcases hc with h0 | ⟨b, off, rfl, hc⟩
    · exfalso
      subst h0
      simp [tot] at h
    obtain ⟨L1, e1⟩ : ∃ L1 : Nat, n + L1 = L := ⟨L - n, by omega⟩
    have hz : (L : Int) - (n : Int) = (L1 : Int) := by omega
    have hz0 : ¬ ((L1 : Int) < 0) := by omega
    go_enter Try.func108, Try.ntmps108
    go_wp2
    clear hz hz0
    go_loopw [1, 5] (fun q i wr => ∃ (k Lk : Nat), k ≤ n ∧ i = .int .i64 k ∧ q = .int .i64 Lk ∧ tot R k + Lk = L1 ∧ Below w.heap.size w wr) (fun _ i _ => n - (intOf i).toNat)
    case atStart => exact ⟨0, L1, Nat.zero_le _, rfl, rfl, by simp [tot], Below.refl _ _⟩
    case round =>
      obtain ⟨k, Lk, hk, rfl, rfl, ht, hbel⟩ := hrel
      by_cases hlt : k < n
      · have hkz : (k : Int) < (n : Int) := by omega
        have hcl := hc k hlt
        have hcw := (hcl.of hbel (raw_lt hcl)).six
        obtain ⟨c0, c1, c2, c3, c4, c5⟩ := hcw
        have hix := hi k hlt
        by_cases hs : Lk < (R.getD k r0).len
        · generalize R.getD k r0 = r at *
          have hpt : ((-1 : Int) < 0) := by omega
          go_wp2_with (go_at_call 33; refine (szE_big r Lk _ hs (by omega) hix.max).mono ?_; rintro e w1 ⟨rfl, hb⟩)
          go_ret
          exact ⟨rfl, Rw.next hbel hb⟩
        · obtain ⟨L2, e2⟩ : ∃ L2 : Nat, (R.getD k r0).len + L2 = Lk := ⟨Lk - (R.getD k r0).len, by omega⟩
          have e3 : tot R (k + 1) + L2 = L1 := by simp only [tot]; omega
          generalize R.getD k r0 = r at *
          have hpt : ¬ ((L2 : Int) < 0) := by omega
          go_wp2_with (go_at_call 33; refine (szE_at r Lk L2 _ e2 (by omega)).mono ?_; rintro e w1 ⟨rfl, hb⟩)
          go_roundw
          case rel => exact ⟨k + 1, L2, by omega, by go_num, rfl, e3, Rw.next hbel hb⟩
          case measure => simp [intOf]; omega
      · exfalso
        have he : k = n := by omega
        subst he
        omega

set_option maxHeartbeats 1000000 in
theorem szS_at (a : Option Addr) (c L L' : Nat) (R : List Raw) (w : World) (hR : IsRow w a R) (h : R.length + tot R R.length + L' = L) (hL : L ≤ 1048576) :
    Calls Try.prog 108 #[.slice a R.length c, .int .i64 L] w fun e w' => e = .returned (.int .i64 L') ∧ Below w.heap.size w w' := by
  obtain ⟨hm, hi, hc⟩ := hR
  obtain ⟨n, hn⟩ : ∃ n, n = R.length := ⟨_, rfl⟩
  rw [← hn] at hm hi hc h ⊢
  clear hn hm
  obtain ⟨L1, e1⟩ : ∃ L1 : Nat, n + L1 = L := ⟨L - n, by omega⟩
  have hz : (L : Int) - (n : Int) = (L1 : Int) := by omega
  have hz0 : ¬ ((L1 : Int) < 0) := by omega
  go_enter Try.func108, Try.ntmps108
  go_wp2
  clear hz hz0
  go_loopw [1, 5] (fun q i wr => ∃ (k Lk : Nat), k ≤ n ∧ i = .int .i64 k ∧ q = .int .i64 Lk ∧ tot R k + Lk = L1 ∧ Below w.heap.size w wr) (fun _ i _ => n - (intOf i).toNat)
  case atStart => exact ⟨0, L1, Nat.zero_le _, rfl, rfl, by simp [tot], Below.refl _ _⟩
  case round =>
    obtain ⟨k, Lk, hk, rfl, rfl, ht, hbel⟩ := hrel
    by_cases hlt : k < n
    · have hkz : (k : Int) < (n : Int) := by omega
      rcases hc with h0 | ⟨b, off, rfl, hc⟩
      · omega
      have hcl := hc k hlt
      have hcw := (hcl.of hbel (raw_lt hcl)).six
      obtain ⟨c0, c1, c2, c3, c4, c5⟩ := hcw
      have tm := tot_mono R (i := k + 1) (j := n) (by omega)
      simp only [tot] at tm
      obtain ⟨L2, e2⟩ : ∃ L2 : Nat, (R.getD k r0).len + L2 = Lk := ⟨Lk - (R.getD k r0).len, by omega⟩
      have e3 : tot R (k + 1) + L2 = L1 := by simp only [tot]; omega
      clear tm
      generalize R.getD k r0 = r at *
      have hpt : ¬ ((L2 : Int) < 0) := by omega
      go_wp2_with (go_at_call 33; refine (szE_at r Lk L2 _ e2 (by omega)).mono ?_; rintro e w1 ⟨rfl, hb⟩)
      go_roundw
      case rel => exact ⟨k + 1, L2, by omega, by go_num, rfl, e3, Rw.next hbel hb⟩
      case measure => simp [intOf]; omega
    · have he : k = n := by omega
      subst he
      have hLk : Lk = L' := by omega
      subst hLk
      go_wp2
      go_ret
      exact ⟨rfl, hbel⟩

theorem szT_at (q : Int) (a : Option Addr) (c L L' : Nat) (R : List Raw) (w : World) (hR : IsRow w a R) (h : R.length + tot R R.length + L' = L) (hL : L ≤ 1048576) :
    Calls Try.prog 38 #[.agg #[.int .i64 q, .slice a R.length c], .int .i64 L] w fun e w' => e = .returned (.int .i64 L') ∧ Below w.heap.size w w' := by
  have B0 := below_alloc1 w (.cells #[.int .i64 q, .slice a R.length c] 65)
  have hR' := hR.below B0
  have hp : ¬ ((L' : Int) < 0) := by omega
  go_enter Try.func38, Try.ntmps38
  go_wp2_with (go_at_call 108; refine (szS_at _ _ L L' _ _ hR' h hL).mono ?_; rintro e w1 ⟨rfl, hb⟩)
  go_ret
  exact ⟨rfl, Rw.next B0 hb⟩

end Go.Proofs.Ytcbgnfjnjfaacaa.Ea
