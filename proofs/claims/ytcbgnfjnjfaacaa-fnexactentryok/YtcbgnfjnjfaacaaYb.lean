/-
  Slices of actions: one that reads as a list of actions, a row of the call's own; the law's helpers over them: sizes, copies, held against each other.
-/
import Derived.Test.YtcbgnfjnjfaacaaHg
import Derived.Deep.Slices
import Derived.Laws.MakeOwn
import Derived.Deep.RegionWith
namespace Go.Proofs.Ytcbgnfjnjfaacaa.Yb
set_option maxRecDepth 8000
open Go Go.ChangeShapes Go.WideShapes Go.RowKit
open Num Pl

/-- An action: its kind, A and B. -/
abbrev A3 := Int × Int × Int
def z3 : A3 := (0, 0, 0)

/-- The three cells of element i of the row that begins at ⟨b, off⟩ hold the action x. -/
def At3 (w : World) (b off i : Nat) (x : A3) : Prop :=
  w.cell? ⟨b, off + i * 3, none⟩ = some (.int .i64 x.1) ∧ w.cell? ⟨b, off + i * 3 + 1, none⟩ = some (.int .i64 x.2.1) ∧ w.cell? ⟨b, off + i * 3 + 2, none⟩ = some (.int .i64 x.2.2)

theorem At3.lt {w : World} {b off i : Nat} {x : A3} (h : At3 w b off i x) : b < w.heap.size := World.block_lt_of_cell? _ _ h.1
theorem At3.below {w w' : World} {b off i : Nat} {x : A3} (h : At3 w b off i x) (hb : Below w.heap.size w w') : At3 w' b off i x :=
  ⟨(hb.cell (World.block_lt_of_cell? _ _ h.1)).trans h.1, (hb.cell (World.block_lt_of_cell? _ _ h.2.1)).trans h.2.1, (hb.cell (World.block_lt_of_cell? _ _ h.2.2)).trans h.2.2⟩

theorem At3.of {w w' : World} {b off i : Nat} {x : A3} {n : Nat} (h : At3 w b off i x) (hb : Below n w w') (hn : b < n := by omega) : At3 w' b off i x := by
  refine ⟨(hb.cell ?_).trans h.1, (hb.cell ?_).trans h.2.1, (hb.cell ?_).trans h.2.2⟩ <;> exact hn
/-- The slice at 'a' (its head at block b, offset off, where it is not empty) reads as the actions l. -/
structure Rd (w : World) (a : Option Addr) (b off : Nat) (l : List A3) : Prop where
  head : 0 < l.length → a = some ⟨b, off, none⟩
  cell : ∀ i, i < l.length → At3 w b off i (l.getD i z3)
  size : l.length ≤ 4194304

theorem Rd.below {w w' : World} {a : Option Addr} {b off : Nat} {l : List A3} (h : Rd w a b off l) (hb : Below w.heap.size w w') : Rd w' a b off l :=
  ⟨h.head, fun i hi => (h.cell i hi).below hb, h.size⟩
theorem rd_lt {w : World} {a : Option Addr} {b off : Nat} {l : List A3} (h : Rd w a b off l) : l.length = 0 ∨ b < w.heap.size := by
  rcases Nat.eq_zero_or_pos l.length with h0 | h0
  · exact .inl h0
  · exact .inr (h.cell 0 h0).lt

/-- What is told of a slice of actions that came in. -/
def IsRow (w : World) (a : Option Addr) (len : Nat) (l : List A3) : Prop :=
  len = 0 ∨ ∃ b off, a = some ⟨b, off, none⟩ ∧ len ≤ maxLen ∧ l.length = len ∧ ∀ i, i < len → At3 w b off i (l.getD i z3)

theorem isRow_max {W : World} {a : Option Addr} {len : Nat} {l : List A3} (h : IsRow W a len l) : len ≤ maxLen := by
  rcases h with rfl | ⟨_, _, _, h, _⟩
  · exact Nat.zero_le _
  · exact h
theorem rd_of_isRow {w : World} {a : Option Addr} {len : Nat} {l0 : List A3} (h : IsRow w a len l0) (hlen : len ≤ 4194304) :
    ∃ b off l, l.length = len ∧ Rd w a b off l := by
  rcases h with rfl | ⟨b, off, rfl, hm, hl, hc⟩
  · exact ⟨0, 0, [], rfl, ⟨fun h => by simp at h, fun i h => by simp at h, by simp⟩⟩
  · exact ⟨b, off, l0, hl, ⟨fun _ => rfl, fun i hi => hc i (by omega), by omega⟩⟩

theorem add_eq (b off n : Nat) : (⟨b, off, none⟩ : Addr).add n = ⟨b, off + n, none⟩ := by
  unfold Addr.add
  split
  · next h => simp_all
  · rfl

set_option maxHeartbeats 1000000 in
theorem open_acts {H : Type} {enc : TypeId × Value → H} {W : World} {a : Option Addr} {len cap : Nat} {d : DataW H} {p : List MemPlace}
    (h : DataW.Trod enc Try.prog W 0 (fun _ => true) true 55 (.slice a len cap) d p) :
    ∃ l : List A3, IsRow W a len l := by
  have hC : Try.prog.cellsOf 151 = 3 := by kernel_rfl
  have c3 : Try.prog.cellsOf 3 = 1 := by kernel_rfl
  obtain ⟨fuel, hf⟩ := h
  rcases Deep.open_slice Try.underlying55 hf with ⟨hcs, _⟩ | ⟨x, l, c, m, n, D, Pl, hcs, hb, hl, hm, hmm, _, hx⟩
  · simp [Value.cells] at hcs
    obtain ⟨rfl, rfl, rfl⟩ := hcs
    exact ⟨[], .inl rfl⟩
  · simp [Value.cells] at hcs
    obtain ⟨rfl, rfl, rfl⟩ := hcs
    have hlm : len ≤ m := by rw [hmm]; split <;> omega
    have each : ∀ i, i < len → ∃ q : A3, W.cell? (x.add (i * 3)) = some (.int .i64 q.1) ∧ W.cell? (x.add (i * 3 + 1)) = some (.int .i64 q.2.1) ∧ W.cell? (x.add (i * 3 + 2)) = some (.int .i64 q.2.2) := by
      intro i hi
      obtain ⟨cs', h1, h2⟩ := hx i (by omega)
      rw [hC] at h1
      obtain ⟨_, hlen, hcell⟩ := World.cells?_some h1
      obtain ⟨xs, k, hk, hxy, _, hxl, hf⟩ := DataW.trod_struct Try.underlying151 h2
      match xs, hxl, cs', hlen with
      | [y0, y1, y2], _, [v0, v1, v2], _ =>
        have g0 := hf 0 _ rfl
        have g1 := hf 1 _ rfl
        have g2 := hf 2 _ rfl
        simp [c3] at g0 g1 g2
        have e0 := hcell 0 (by omega)
        have e1 := hcell 1 (by omega)
        have e2 := hcell 2 (by omega)
        rw [Deep.add_add] at e0 e1 e2
        obtain ⟨q0, r0, _⟩ := DataW.trod_int Try.underlying3 g0
        obtain ⟨q1, r1, _⟩ := DataW.trod_int Try.underlying3 g1
        obtain ⟨q2, r2, _⟩ := DataW.trod_int Try.underlying3 g2
        simp at r0 r1 r2
        subst r0 r1 r2
        exact ⟨(q0, q1, q2), by simpa using e0, by simpa using e1, by simpa using e2⟩
    obtain ⟨q, hq⟩ := Deep.choose_lt each
    by_cases h0 : len = 0
    · exact ⟨[], .inl h0⟩
    · obtain ⟨b, off, spot⟩ := x
      have hc := (hq 0 (by omega)).1
      have hspot : spot = none := by simpa [Addr.add] using World.cell?_spot hc
      subst hspot
      refine ⟨(List.range len).map q, .inr ⟨b, off, rfl, by omega, by simp, fun i hi => ?_⟩⟩
      have := hq i hi
      rw [add_eq, add_eq, add_eq] at this
      have e : ((List.range len).map q).getD i z3 = q i := by simp [List.getD, hi]
      rw [e]
      exact ⟨this.1, by rw [Nat.add_assoc]; exact this.2.1, by rw [Nat.add_assoc]; exact this.2.2⟩

theorem sz_small (a : Option Addr) (n c L : Nat) (w : World) (h : n ≤ L) (hL : L ≤ 1048576) :
    Calls Try.prog 103 #[.slice a n c, .int .i64 L] w fun e w' => e = .returned (.int .i64 ((L : Int) - (n : Int))) ∧ w' = w := by
  have h0 : ¬ ((L : Int) - (n : Int) < 0) := by omega
  go_enter Try.func103, Try.ntmps103
  go_wp2
  go_ret
  exact ⟨rfl, rfl⟩
theorem sz_big (a : Option Addr) (n c L : Nat) (w : World) (h : L < n) (hL : L ≤ 1048576) (hm : n ≤ maxLen) :
    Calls Try.prog 103 #[.slice a n c, .int .i64 L] w fun e w' => e = .returned (.int .i64 (-1)) ∧ w' = w := by
  unfold maxLen at hm
  have h0 : (L : Int) - (n : Int) < 0 := by omega
  go_enter Try.func103, Try.ntmps103
  go_wp2
  go_ret
  exact ⟨rfl, rfl⟩

/-- The integer at cell j of the actions l. -/
def flat (l : List A3) (j : Nat) : Int := if j % 3 = 0 then (l.getD (j / 3) z3).1 else if j % 3 = 1 then (l.getD (j / 3) z3).2.1 else (l.getD (j / 3) z3).2.2
theorem flat0 (l : List A3) (i : Nat) : flat l (i * 3) = (l.getD i z3).1 := by
  have e1 : i * 3 % 3 = 0 := by omega
  have e2 : i * 3 / 3 = i := by omega
  unfold flat; rw [if_pos e1, e2]
theorem flat1 (l : List A3) (i : Nat) : flat l (i * 3 + 1) = (l.getD i z3).2.1 := by
  have e1 : (i * 3 + 1) % 3 = 1 := by omega
  have e2 : (i * 3 + 1) / 3 = i := by omega
  unfold flat; rw [if_neg (by omega), if_pos e1, e2]
theorem flat2 (l : List A3) (i : Nat) : flat l (i * 3 + 2) = (l.getD i z3).2.2 := by
  have e1 : (i * 3 + 2) % 3 = 2 := by omega
  have e2 : (i * 3 + 2) / 3 = i := by omega
  unfold flat; rw [if_neg (by omega), if_neg (by omega), e2]

/-- The block g is a row of the actions l, of the call's own. -/
structure Mine (w : World) (g : Nat) (l : List A3) : Prop where
  row : w.rowIs g 147 (l.length * 3) (fun j => .int .i64 (flat l j))
  size : l.length ≤ 4194304

theorem Mine.rd {w : World} {g : Nat} {l : List A3} (h : Mine w g l) : Rd w (some ⟨g, 0, none⟩) g 0 l := by
  refine ⟨fun _ => rfl, fun i hi => ⟨?_, ?_, ?_⟩, h.size⟩
  · rw [← flat0, Nat.zero_add]; exact h.row.cell (by omega)
  · rw [← flat1, Nat.zero_add]; exact h.row.cell (by omega)
  · rw [← flat2, Nat.zero_add]; exact h.row.cell (by omega)
theorem Mine.below {w w' : World} {g : Nat} {l : List A3} (h : Mine w g l) (hb : Below w.heap.size w w') : Mine w' g l :=
  ⟨h.row.of_block (hb.block g h.row.lt), h.size⟩

/-- A copy under way: the first k actions are there. -/
def part (l : List A3) (k : Nat) : Nat → Value := fun j => .int .i64 (if j < k * 3 then flat l j else 0)
theorem part_step {w : World} {g n : Nat} {l : List A3} {k : Nat} (h : w.rowIs g 147 n (part l k)) :
    (((w.setCell ⟨g, k * 3, none⟩ (.int .i64 (l.getD k z3).1)).setCell ⟨g, k * 3 + 1, none⟩ (.int .i64 (l.getD k z3).2.1)).setCell ⟨g, k * 3 + 2, none⟩ (.int .i64 (l.getD k z3).2.2)).rowIs g 147 n (part l (k + 1)) := by
  refine (((h.set _ _).set _ _).set _ _).congr fun j hj => ?_
  unfold part
  by_cases e2 : j = k * 3 + 2
  · subst e2; rw [if_pos rfl, if_pos (by omega), flat2]
  · rw [if_neg e2]
    by_cases e1 : j = k * 3 + 1
    · subst e1; rw [if_pos rfl, if_pos (by omega), flat1]
    · rw [if_neg e1]
      by_cases e0 : j = k * 3
      · subst e0; rw [if_pos rfl, if_pos (by omega), flat0]
      · rw [if_neg e0]
        have : (j < (k + 1) * 3) = (j < k * 3) := by rw [eq_iff_iff]; omega
        simp [this]

theorem toAct_any (x y z : Int) (w : World) :
    Calls Try.prog 140 #[.agg #[.int .i64 x, .int .i64 y, .int .i64 z]] w fun e w' => e = .returned (.agg #[.int .i64 x, .int .i64 y, .int .i64 z]) ∧ Below w.heap.size w w' := by
  go_enter Try.func140, Try.ntmps140
  go_wp2
  exact bodyPost_ret (v := .agg #[.int .i64 x, .int .i64 y, .int .i64 z]) (by simp [results, Try.results140, go_sem]) rfl ⟨rfl, Rw.next (Rw.next (below_alloc1 _ _) (below_alloc1 _ _)) (below_alloc1 _ _)⟩

theorem eqAct_any (x y : A3) (w : World) :
    Calls Try.prog 142 #[.agg #[.int .i64 x.1, .int .i64 x.2.1, .int .i64 x.2.2], .agg #[.int .i64 y.1, .int .i64 y.2.1, .int .i64 y.2.2]] w fun e w' => e = .returned (.bool (decide (x = y))) ∧ Below w.heap.size w w' := by
  obtain ⟨x0, x1, x2⟩ := x
  obtain ⟨y0, y1, y2⟩ := y
  have B := Rw.next (below_alloc1 w (.cells #[.int .i64 x0, .int .i64 x1, .int .i64 x2] 147)) (below_alloc1 _ (.cells #[.int .i64 y0, .int .i64 y1, .int .i64 y2] 147))
  by_cases h0 : x0 = y0
  · subst h0
    by_cases h1 : x1 = y1
    · subst h1
      by_cases h2 : x2 = y2
      · subst h2
        go_enter Try.func142, Try.ntmps142
        go_wp2
        go_ret
        exact ⟨ret_bool (by simp), B⟩
      · have hn : (x2 != y2) = true := by simpa using h2
        go_enter Try.func142, Try.ntmps142
        go_wp2
        go_ret
        exact ⟨ret_bool (by simp [h2]), B⟩
    · have hn : (x1 != y1) = true := by simpa using h1
      go_enter Try.func142, Try.ntmps142
      go_wp2
      go_ret
      exact ⟨ret_bool (by simp [h1]), B⟩
  · have hn : (x0 != y0) = true := by simpa using h0
    go_enter Try.func142, Try.ntmps142
    go_wp2
    go_ret
    exact ⟨ret_bool (by simp [h0]), B⟩

theorem info76 : (Try.prog.info? 147).map (fun i => (i.zero, i.size, i.bytes)) = some (some (.agg #[.int .i64 0, .int .i64 0, .int .i64 0]), 3, 24) := by kernel_rfl
theorem make3 (n : Nat) (hn : n ≤ 4194304) (w : World) :
    (Instr.makeSlice 39 (.int .i64 n) (.int .i64 n)).run Try.prog w = .ok (.slice (some ⟨w.heap.size, 0, none⟩) n n) (w.alloc (.cells (madeCells #[.int .i64 0, .int .i64 0, .int .i64 0] (n * 3)) 147)) := by
  obtain ⟨i, hi, hzz⟩ := Option.map_eq_some_iff.1 info76
  simp only [Prod.mk.injEq] at hzz
  obtain ⟨hz, hs, hb⟩ := hzz
  have hr := run_make (P := Try.prog) w 39 147 i _ Try.underlying39 hi hz .i64 .i64 n n (by omega) (Int.le_refl _) (by rw [hb]; omega) (by omega)
  simp only [Int.toNat_natCast, hs, Value.cells] at hr
  exact hr
theorem made3 (w : World) (n : Nat) (l : List A3) : (w.alloc (.cells (madeCells #[.int .i64 0, .int .i64 0, .int .i64 0] (n * 3)) 147)).rowIs w.heap.size 147 (n * 3) (part l 0) :=
  ⟨_, at_new rfl, size_madeCells _ _, fun i hi => by
    have e : i % 3 = 0 ∨ i % 3 = 1 ∨ i % 3 = 2 := by omega
    rcases e with e | e | e <;> simp [madeCells, hi, e, part]⟩

set_option maxHeartbeats 1000000 in
theorem toActS_any (a : Option Addr) (b off cap : Nat) (l : List A3) (w : World) (h : Rd w a b off l) :
    Calls Try.prog 105 #[.slice a l.length cap] w fun e w' => e = .returned (.slice (some ⟨w.heap.size, 0, none⟩) l.length l.length) ∧ Below w.heap.size w w' ∧ Mine w' w.heap.size l := by
  obtain ⟨hh, hc, hs⟩ := h
  obtain ⟨n, hn⟩ : ∃ n, n = l.length := ⟨_, rfl⟩
  have hmk := make3 n (by omega)
  rw [← hn] at hh hc hs ⊢
  have HN : Hid (n = l.length) := hn
  clear hn
  go_enter Try.func105, Try.ntmps105
  go_wp2
  clear hmk
  go_loopw [4] (fun i wr => ∃ k : Nat, k ≤ n ∧ i = .int .i64 k ∧ Below w.heap.size w wr ∧ wr.rowIs w.heap.size 147 (n * 3) (part l k)) (fun i _ => n - (intOf i).toNat)
  case atStart => exact ⟨0, Nat.zero_le _, rfl, (Below.refl _ _).alloc (Nat.le_refl _) _, made3 w n l⟩
  case round =>
    obtain ⟨k, hk, rfl, hbel, hrow⟩ := hrel
    by_cases hlt : k < n
    · obtain rfl := hh (by omega)
      have hkz : (k : Int) < (n : Int) := by omega
      obtain ⟨c0, c1, c2⟩ := (hc k hlt).of hbel (hc k hlt).lt
      have hlw := hrow.lt
      go_wp2_with (go_at_call 140; refine (toAct_any _ _ _ _).mono ?_; rintro e w1 ⟨rfl, hb⟩; replace hrow := hrow.of_block (hb.block _ hlw); replace hbel := Rw.next hbel hb; have g0 := hrow.cell (i := k * 3) (by omega); have g1 := hrow.cell (i := k * 3 + 1) (by omega); have g2 := hrow.cell (i := k * 3 + 2) (by omega); have f0 := hrow.frozen (k * 3); have f1 := hrow.frozen (k * 3 + 1); have f2 := hrow.frozen (k * 3 + 2))
      go_roundw
      case rel => exact ⟨k + 1, by omega, by go_num, ((hbel.setCell (by simp) _).setCell (by simp) _).setCell (by simp) _, part_step hrow⟩
      case measure => simp [intOf]; omega
    · have he : k = n := by omega
      subst he
      go_wp2
      go_ret
      have := HN.out
      subst this
      exact ⟨rfl, hbel, hrow.congr (fun i hi => by simp [part, hi]), hs⟩

theorem ext3 {l m : List A3} (hl : l.length = m.length) (h : ∀ i, i < l.length → l.getD i z3 = m.getD i z3) : l = m := by
  refine List.ext_getElem hl fun i h1 h2 => ?_
  have := h i h1
  simpa [List.getD, h1, h2] using this
theorem ne3 {l m : List A3} {k : Nat} (h : ¬ l.getD k z3 = m.getD k z3) : decide (l = m) = false := by
  simp; intro e; subst e; exact h rfl

set_option maxHeartbeats 1000000 in
theorem eqActS_any (a a' : Option Addr) (b off cap b' off' cap' : Nat) (l m : List A3) (w : World) (h : Rd w a b off l) (h' : Rd w a' b' off' m) :
    Calls Try.prog 107 #[.slice a l.length cap, .slice a' m.length cap'] w fun e w' => e = .returned (.bool (decide (l = m))) ∧ Below w.heap.size w w' := by
  obtain ⟨hh, hc, hs⟩ := h
  obtain ⟨hh', hc', hs'⟩ := h'
  by_cases hl : l.length = m.length
  · obtain ⟨n, hn⟩ : ∃ n, n = l.length := ⟨_, rfl⟩
    rw [← hl] at hh' hc' ⊢
    rw [← hn] at hh hc hs hh' hc' ⊢
    have HN : Hid (n = l.length) := hn
    have HL : Hid (l.length = m.length) := hl
    clear hn hl hs'
    go_enter Try.func107, Try.ntmps107
    go_wp2
    go_loopw [5] (fun i wr => ∃ k : Nat, k ≤ n ∧ i = .int .i64 k ∧ Below w.heap.size w wr ∧ ∀ i, i < k → l.getD i z3 = m.getD i z3) (fun i _ => n - (intOf i).toNat)
    case atStart => exact ⟨0, Nat.zero_le _, rfl, Below.refl _ _, fun i hi => by omega⟩
    case round =>
      obtain ⟨k, hk, rfl, hbel, hsame⟩ := hrel
      have HSA : Hid (∀ i, i < k → l.getD i z3 = m.getD i z3) := hsame
      clear hsame
      by_cases hlt : k < n
      · obtain rfl := hh (by omega)
        obtain rfl := hh' (by omega)
        have hkz : (k : Int) < (n : Int) := by omega
        obtain ⟨c0, c1, c2⟩ := (hc k hlt).of hbel (hc k hlt).lt
        obtain ⟨d0, d1, d2⟩ := (hc' k hlt).of hbel (hc' k hlt).lt
        generalize e1 : l.getD k z3 = x at c0 c1 c2
        generalize e2 : m.getD k z3 = y at d0 d1 d2
        have H1 : Hid (l.getD k z3 = x) := e1
        have H2 : Hid (m.getD k z3 = y) := e2
        clear e1 e2 hc hc' hh hh'
        by_cases hxy : x = y
        · subst hxy
          go_wp2
          go_region_with (go_at_call 142; refine (eqAct_any _ _ _).mono ?_; rw [decide_eq_true rfl]; rintro e w1 ⟨rfl, hb⟩)
          all_goals go_wp2
          all_goals go_roundw
          all_goals first
            | exact ⟨k + 1, by omega, by go_num, Rw.next (by repeat (first | exact hbel | apply Below.drew)) hb, fun i hi => by
                by_cases e : i = k
                · subst e; exact H1.out.trans H2.out.symm
                · exact HSA.out i (by omega)⟩
            | (simp [intOf]; omega)
        · go_wp2
          go_region_with (go_at_call 142; refine (eqAct_any _ _ _).mono ?_; rw [decide_eq_false hxy]; rintro e w1 ⟨rfl, hb⟩)
          all_goals go_wp2
          all_goals go_ret
          all_goals exact ⟨Num.ret_bool (ne3 (k := k) (by rw [H1.out, H2.out]; exact hxy)).symm, Rw.next (by repeat (first | exact hbel | apply Below.drew)) hb⟩
      · have he : k = n := by omega
        subst he
        go_wp2
        go_ret
        have := HN.out
        subst this
        exact ⟨Num.ret_bool (by simpa using ext3 HL.out HSA.out), hbel⟩
  · have hne : ((l.length : Int) != (m.length : Int)) = true := by simp; omega
    go_enter Try.func107, Try.ntmps107
    go_wp2
    go_ret
    exact ⟨Num.ret_bool (by simp; intro e; subst e; exact hl rfl), Below.refl _ _⟩

end Go.Proofs.Ytcbgnfjnjfaacaa.Yb
