/-
  Rows of integers: a slice that reads as a list, a row of the call's own, one that may be written; copying, holding two against each other, marks.
-/
import Derived.Test.YtfiebakgphcnbaaPl
import Derived.WalkLawsBesides
import Derived.BigQuiet
namespace Go.Proofs.Ytfiebakgphcnbaa.Mk
open Go Go.RowKit
def Only (g : Nat) (w w' : World) : Prop := w.grownBy w' (some g)
theorem Only.refl (g : Nat) (w : World) : Only g w w := ⟨rfl, rfl, rfl, Nat.le_refl _, fun _ _ _ => rfl⟩
theorem Only.set {g o : Nat} {w w' : World} (h : Only g w w') (u : Value) : Only g w (w'.setCell ⟨g, o, none⟩ u) :=
  ⟨h.os, h.tape, h.output, by simpa using h.size, fun k hk hne => (Below.heap_setCell w' _ u k (fun e => hne (by rw [e]))).trans (h.block k hk hne)⟩
theorem Only.below {g B : Nat} {w w1 w2 : World} (h : Only g w1 w2) (hb : Below B w w1) (hB : B ≤ w1.heap.size) (hg : B ≤ g) : Below B w w2 :=
  hb.grown h hB (fun k hk => by simp at hk; omega)
end Go.Proofs.Ytfiebakgphcnbaa.Mk
namespace Go.Proofs.Ytfiebakgphcnbaa.Hr
open Go Go.RowKit
set_option maxRecDepth 8000
open Num Mk Pl

theorem info3 : (Try.prog.info? 3).map (fun i => (i.zero, i.size, i.bytes)) = some (some (.int .i64 0), 1, 8) := by kernel_rfl

/-- The slice at 'a' (its head at block b, offset off, where it is not empty) reads as the integers l. -/
structure Rd (w : World) (a : Option Addr) (b off : Nat) (l : List Int) : Prop where
  head : 0 < l.length → a = some ⟨b, off, none⟩
  cell : ∀ i, i < l.length → w.cell? ⟨b, off + i, none⟩ = some (.int .i64 (l.getD i 0))
  size : l.length ≤ 4194304

/-- The block g is a row of the integers l, of the call's own. -/
structure Mine (w : World) (g : Nat) (l : List Int) : Prop where
  row : w.rowIs g 3 l.length (fun i => .int .i64 (l.getD i 0))
  size : l.length ≤ 4194304

theorem Mine.rd {w : World} {g : Nat} {l : List Int} (h : Mine w g l) : Rd w (some ⟨g, 0, none⟩) g 0 l :=
  ⟨fun _ => rfl, fun i hi => by simpa using h.row.cell hi, h.size⟩
theorem Rd.below {w w' : World} {a : Option Addr} {b off : Nat} {l : List Int} (h : Rd w a b off l) (hb : Below w.heap.size w w') : Rd w' a b off l :=
  ⟨h.head, fun i hi => (hb.cell (World.block_lt_of_cell? _ _ (h.cell i hi))).trans (h.cell i hi), h.size⟩
theorem Mine.below {w w' : World} {g : Nat} {l : List Int} (h : Mine w g l) (hb : Below w.heap.size w w') : Mine w' g l :=
  ⟨h.row.of_block (hb.block g h.row.lt), h.size⟩
theorem Mine.set {w : World} {g : Nat} {l : List Int} {a : Addr} {u : Value} (h : Mine w g l) (hne : ¬ a.block = g) : Mine (w.setCell a u) g l :=
  ⟨h.row.of_block (Below.heap_setCell w a u g (fun e => hne e.symm)), h.size⟩
theorem rd_lt {w : World} {a : Option Addr} {b off : Nat} {l : List Int} (h : Rd w a b off l) : l.length = 0 ∨ b < w.heap.size := by
  rcases Nat.eq_zero_or_pos l.length with h0 | h0
  · exact .inl h0
  · exact .inr (World.block_lt_of_cell? _ _ (h.cell 0 h0))
theorem rd_of_isRow {w : World} {a : Option Addr} {len cap : Nat} {zs : List Int} (h : Rw.IsRow .i64 w a len cap zs) (hlen : len ≤ 4194304) :
    ∃ b off l, l.length = len ∧ Rd w a b off l := by
  rcases h with ⟨rfl, rfl, rfl, rfl⟩ | ⟨x, rfl, hl, hm, hz, hcell, hwz⟩
  · exact ⟨0, 0, [], rfl, ⟨fun h => by simp at h, fun i h => by simp at h, by simp⟩⟩
  · by_cases h0 : len = 0
    · subst h0
      exact ⟨0, 0, [], rfl, ⟨fun h => by simp at h, fun i h => by simp at h, by simp⟩⟩
    · obtain ⟨b, off, spot⟩ := x
      have hc := hcell 0 (by omega)
      have hspot : spot = none := by simpa [Addr.add] using World.cell?_spot hc
      subst hspot
      have hlt : (zs.take len).length = len := by simp; omega
      refine ⟨b, off, zs.take len, hlt, ⟨fun _ => rfl, fun i hi => ?_, by omega⟩⟩
      have := hcell i (by omega)
      have e : (zs.take len).getD i 0 = zs.getD i 0 := by
        rw [hlt] at hi
        simp [List.getD, hi]
      rw [e]
      by_cases ei : i = 0
      · subst ei
        simpa [Addr.add] using this
      · simpa [Addr.add, ei] using this
theorem isRow_max {W : World} {a : Option Addr} {len cap : Nat} {zs : List Int} (h : Rw.IsRow .i64 W a len cap zs) : len ≤ maxLen := by
  rcases h with ⟨_, rfl, _⟩ | ⟨_, _, h1, h2, _⟩
  · exact Nat.zero_le _
  · omega

/-- A copy under way: the first k bytes are there. -/
def part (l : List Int) (k : Nat) : Nat → Value := fun i => .int .i64 (if i < k then l.getD i 0 else 0)

theorem part_step {w : World} {g : Nat} {l : List Int} {k : Nat} (h : w.rowIs g 3 l.length (part l k)) : (w.setCell ⟨g, k, none⟩ (.int .i64 (l.getD k 0))).rowIs g 3 l.length (part l (k + 1)) := by
  refine (h.set k _).congr fun i hi => ?_
  unfold part
  by_cases e : i = k
  · subst e; simp
  · have : (i < k + 1) = (i < k) := by rw [eq_iff_iff]; omega
    simp [e, this]

set_option maxHeartbeats 1000000 in
theorem toIntS_any (a : Option Addr) (b off cap : Nat) (l : List Int) (w : World) (h : Rd w a b off l) :
    Calls Try.prog 16 #[.slice a l.length cap] w fun e w' => e = .returned (.slice (some ⟨w.heap.size, 0, none⟩) l.length l.length) ∧ Below w.heap.size w w' ∧ Mine w' w.heap.size l := by
  obtain ⟨hh, hc, hs⟩ := h
  obtain ⟨n, hn⟩ : ∃ n, n = l.length := ⟨_, rfl⟩
  have hmk := run_make_row' (P := Try.prog) 40 3 (.int .i64 0) 8 Try.underlying40 info3 rfl .i64 .i64 n (by omega) (by omega)
  rw [← hn] at hh hc hs ⊢
  have HN : Hid (n = l.length) := hn
  clear hn
  go_enter Try.func16, Try.ntmps16
  go_wp2
  clear hmk
  go_loopw [4] (fun i wr => ∃ k : Nat, k ≤ n ∧ i = .int .i64 k ∧ Below w.heap.size w wr ∧ wr.rowIs w.heap.size 3 n (part l k)) (fun i _ => n - (intOf i).toNat)
  case atStart => exact ⟨0, Nat.zero_le _, rfl, (Below.refl _ _).alloc (Nat.le_refl _) _, (World.rowIs_made w (.int .i64 0) n 3).congr (fun i _ => by simp [part])⟩
  case round =>
    obtain ⟨k, hk, rfl, hbel, hrow⟩ := hrel
    by_cases hlt : k < n
    · obtain rfl := hh (by omega)
      have hkz : (k : Int) < (n : Int) := by omega
      have g0 : wr.cell? ⟨b, off + k, none⟩ = some (.int .i64 (l.getD k 0)) := (hbel.cell (World.block_lt_of_cell? _ _ (hc k hlt))).trans (hc k hlt)
      have g1 : wr.cell? ⟨w.heap.size, k, none⟩ = some (part l k k) := hrow.cell hlt
      have g2 : wr.frozen? ⟨w.heap.size, k, none⟩ = false := hrow.frozen k
      go_wp2
      go_roundw
      case rel => exact ⟨k + 1, by omega, by go_num, hbel.setCell (by simp) _, by have := HN.out; subst this; exact part_step hrow⟩
      case measure => simp [intOf]; omega
    · have he : k = n := by omega
      subst he
      go_wp2
      go_ret
      have := HN.out
      subst this
      exact ⟨rfl, hbel, hrow.congr (fun i hi => by simp [part, hi]), hs⟩

set_option maxHeartbeats 1000000 in
theorem eqIntS_any (a a' : Option Addr) (b off cap b' off' cap' : Nat) (l m : List Int) (w : World) (h : Rd w a b off l) (h' : Rd w a' b' off' m) :
    Calls Try.prog 18 #[.slice a l.length cap, .slice a' m.length cap'] w fun e w' => e = .returned (.bool (decide (l = m))) ∧ Below w.heap.size w w' := by
  obtain ⟨hh, hc, hs⟩ := h
  obtain ⟨hh', hc', hs'⟩ := h'
  by_cases hl : l.length = m.length
  · obtain ⟨n, hn⟩ : ∃ n, n = l.length := ⟨_, rfl⟩
    rw [← hl] at hh' hc' ⊢
    rw [← hn] at hh hc hs hh' hc' ⊢
    have HN : Hid (n = l.length) := hn
    have HL : Hid (l.length = m.length) := hl
    clear hn hl hs'
    go_enter Try.func18, Try.ntmps18
    go_wp2
    go_loopw [5] (fun i wr => ∃ k : Nat, k ≤ n ∧ i = .int .i64 k ∧ Below w.heap.size w wr ∧ ∀ i, i < k → l.getD i 0 = m.getD i 0) (fun i _ => n - (intOf i).toNat)
    case atStart => exact ⟨0, Nat.zero_le _, rfl, Below.refl _ _, fun i hi => by omega⟩
    case round =>
      obtain ⟨k, hk, rfl, hbel, hsame⟩ := hrel
      have HSA : Hid (∀ i, i < k → l.getD i 0 = m.getD i 0) := hsame
      clear hsame
      by_cases hlt : k < n
      · obtain rfl := hh (by omega)
        obtain rfl := hh' (by omega)
        have hkz : (k : Int) < (n : Int) := by omega
        have g0 : wr.cell? ⟨b, off + k, none⟩ = some (.int .i64 (l.getD k 0)) := (hbel.cell (World.block_lt_of_cell? _ _ (hc k hlt))).trans (hc k hlt)
        have g1 : wr.cell? ⟨b', off' + k, none⟩ = some (.int .i64 (m.getD k 0)) := (hbel.cell (World.block_lt_of_cell? _ _ (hc' k hlt))).trans (hc' k hlt)
        generalize e1 : l.getD k 0 = x at g0
        generalize e2 : m.getD k 0 = y at g1
        have H1 : Hid (l.getD k 0 = x) := e1
        have H2 : Hid (m.getD k 0 = y) := e2
        clear e1 e2 hc hc' hh hh'
        by_cases hxy : x = y
        · subst hxy
          go_wp2
          go_region
          all_goals go_wp2
          all_goals go_roundw
          case rel => exact ⟨k + 1, by omega, by go_num, by repeat (first | exact hbel | apply Below.drew), fun i hi => by
            by_cases e : i = k
            · subst e; exact H1.out.trans H2.out.symm
            · exact HSA.out i (by omega)⟩
          case measure => simp [intOf]; omega
        · have hne : (x != y) = true := by simpa using hxy
          go_wp2
          go_region
          all_goals go_wp2
          go_ret
          exact ⟨Num.ret_bool (Rw.ne_of_getD (k := k) (by rw [H1.out, H2.out]; exact hxy)).symm, by repeat (first | exact hbel | apply Below.drew)⟩
      · have he : k = n := by omega
        subst he
        go_wp2
        go_ret
        have := HN.out
        subst this
        exact ⟨Num.ret_bool (by simpa using Rw.ext_getD HL.out HSA.out), hbel⟩
  · have hne : ((l.length : Int) != (m.length : Int)) = true := by simp; omega
    go_enter Try.func18, Try.ntmps18
    go_wp2
    go_ret
    exact ⟨Num.ret_bool (by simp; intro e; subst e; exact hl rfl), Below.refl _ _⟩

/-- The slice at 'a' (its head at the head of block g, where it is not empty) reads as the integers l, and may be written. -/
structure Wt (w : World) (a : Option Addr) (g : Nat) (l : List Int) : Prop where
  head : 0 < l.length → a = some ⟨g, 0, none⟩
  cell : ∀ i, i < l.length → w.cell? ⟨g, i, none⟩ = some (.int .i64 (l.getD i 0))
  free : ∀ i, i < l.length → w.frozen? ⟨g, i, none⟩ = false
  size : l.length ≤ 4194304

theorem Wt.rd {w : World} {a : Option Addr} {g : Nat} {l : List Int} (h : Wt w a g l) : Rd w a g 0 l :=
  ⟨h.head, fun i hi => by simpa using h.cell i hi, h.size⟩
theorem mine_wt {w : World} {g : Nat} {l : List Int} (h : Mine w g l) : Wt w (some ⟨g, 0, none⟩) g l :=
  ⟨fun _ => rfl, fun _ hi => h.row.cell hi, fun i _ => h.row.frozen i, h.size⟩
theorem Wt.nil (w : World) (a : Option Addr) (g : Nat) : Wt w a g [] := ⟨fun h => by simp at h, fun i h => by simp at h, fun i h => by simp at h, by simp⟩
theorem Wt.below {w w' : World} {a : Option Addr} {g : Nat} {l : List Int} (h : Wt w a g l) (hb : Below w.heap.size w w') : Wt w' a g l :=
  ⟨h.head, fun i hi => (hb.cell (World.block_lt_of_cell? _ _ (h.cell i hi))).trans (h.cell i hi), fun i hi => (hb.frozen (World.block_lt_of_cell? _ _ (h.cell i hi))).trans (h.free i hi), h.size⟩
theorem wt_lt {w : World} {a : Option Addr} {g : Nat} {l : List Int} (h : Wt w a g l) : l.length = 0 ∨ g < w.heap.size := rd_lt h.rd
theorem wt_only {g : Nat} {w w' : World} {a : Option Addr} {b : Nat} {l : List Int} (h : Only g w w') (hr : Wt w a b l) (hne : l.length = 0 ∨ b ≠ g) : Wt w' a b l := by
  rcases hne with h0 | h0
  · exact ⟨hr.head, fun i hi => by omega, fun i hi => by omega, hr.size⟩
  · refine ⟨hr.head, fun i hi => h.cell (hr.cell i hi) (by simpa using h0), fun i hi => ?_, hr.size⟩
    have hb := h.block b (World.block_lt_of_cell? _ _ (hr.cell i hi)) (by simpa using h0)
    have := hr.free i hi
    simp only [World.frozen?, hb] at this ⊢
    exact this
theorem rd_only {g : Nat} {w w' : World} {a : Option Addr} {b off : Nat} {l : List Int} (h : Only g w w') (hr : Rd w a b off l) (hne : l.length = 0 ∨ b ≠ g) : Rd w' a b off l := by
  rcases hne with h0 | h0
  · exact ⟨hr.head, fun i hi => by omega, hr.size⟩
  · exact ⟨hr.head, fun i hi => h.cell (hr.cell i hi) (by simpa using h0), hr.size⟩
theorem rd_onlyN {g n : Nat} {w w' : World} {a : Option Addr} {b off : Nat} {l : List Int} (ho : Only g w w') (h0 : n = 0 → Below w.heap.size w w') (hr : Rd w a b off l) (hne : n = 0 ∨ l.length = 0 ∨ b ≠ g) : Rd w' a b off l := by
  rcases hne with h | h
  · exact hr.below (h0 h)
  · exact rd_only ho hr h
theorem wt_onlyN {g n : Nat} {w w' : World} {a : Option Addr} {b : Nat} {l : List Int} (ho : Only g w w') (h0 : n = 0 → Below w.heap.size w w') (hr : Wt w a b l) (hne : n = 0 ∨ l.length = 0 ∨ b ≠ g) : Wt w' a b l := by
  rcases hne with h | h
  · exact hr.below (h0 h)
  · exact wt_only ho hr h

/-- The marks. -/
def marks (n : Nat) : List Int := (List.range n).map (fun i : Nat => 1 + (i : Int))
theorem marks_len (n : Nat) : (marks n).length = n := by simp [marks]
theorem marks_at (n i : Nat) (h : i < n) : (marks n).getD i 0 = 1 + (i : Int) := by simp [marks, List.getD, h]
def mixed (l : List Int) (k i : Nat) : Int := if i < k then 1 + (i : Int) else l.getD i 0

theorem mark_step {w : World} {g n k : Nat} {l : List Int} (h : ∀ i, i < n → w.cell? ⟨g, i, none⟩ = some (.int .i64 (mixed l k i))) (hk : k < n) :
    ∀ i, i < n → (w.setCell ⟨g, k, none⟩ (.int .i64 (1 + (k : Int)))).cell? ⟨g, i, none⟩ = some (.int .i64 (mixed l (k + 1) i)) := by
  intro i hi
  by_cases e : i = k
  · subst e
    rw [World.cell?_setCell_same _ _ _ (h i hi)]
    simp [mixed]
  · rw [World.cell?_setCell_other _ _ _ _ (by intro q; injection q with q1 q2; exact e q2.symm), h i hi]
    have : (i < k + 1) = (i < k) := by rw [eq_iff_iff]; omega
    simp [mixed, this]

set_option maxHeartbeats 1000000 in
theorem mark_any (a : Option Addr) (g cap : Nat) (l : List Int) (w : World) (h : Wt w a g l) :
    Calls Try.prog 19 #[.slice a l.length cap, .int .i64 1] w fun e w' => e = .returned (.int .i64 (1 + (l.length : Int))) ∧ Only g w w' ∧ Wt w' a g (marks l.length) := by
  obtain ⟨hh, hc, hf, hs⟩ := h
  obtain ⟨n, hn⟩ : ∃ n, n = l.length := ⟨_, rfl⟩
  rw [← hn] at hh hc hs hf ⊢
  go_enter Try.func19, Try.ntmps19
  go_wp2
  go_loopw [1, 5] (fun q i wr => ∃ k : Nat, k ≤ n ∧ i = .int .i64 k ∧ q = .int .i64 (1 + (k : Int)) ∧ Only g w wr ∧ (∀ i, i < n → wr.cell? ⟨g, i, none⟩ = some (.int .i64 (mixed l k i))) ∧ ∀ i, i < n → wr.frozen? ⟨g, i, none⟩ = false) (fun _ i _ => n - (intOf i).toNat)
  case atStart => exact ⟨0, Nat.zero_le _, rfl, rfl, Only.refl _ _, fun i hi => by rw [hc i hi]; simp [mixed], hf⟩
  case round =>
    obtain ⟨k, hk, rfl, rfl, hon, hcl, hfr⟩ := hrel
    have HCL : Hid (∀ i, i < n → wr.cell? ⟨g, i, none⟩ = some (.int .i64 (mixed l k i))) := hcl
    have HFR : Hid (∀ i, i < n → wr.frozen? ⟨g, i, none⟩ = false) := hfr
    by_cases hlt : k < n
    · obtain rfl := hh (by omega)
      have hkz : (k : Int) < (n : Int) := by omega
      have g1 : wr.cell? ⟨g, k, none⟩ = some (.int .i64 (mixed l k k)) := hcl k hlt
      have g2 : wr.frozen? ⟨g, k, none⟩ = false := hfr k hlt
      clear hc hf hcl hfr
      go_wp2
      go_roundw
      case rel => exact ⟨k + 1, by omega, by go_num, by go_num, hon.set _, by first | exact mark_step HCL.out hlt | simpa using mark_step HCL.out hlt, fun i hi => by simpa using HFR.out i hi⟩
      case measure => simp [intOf]; omega
    · have he : k = n := by omega
      subst he
      clear hc hf hcl hfr
      go_wp2
      go_ret
      refine ⟨rfl, hon, ⟨fun hp => hh (by simpa [marks_len] using hp), fun i hi => ?_, fun i hi => HFR.out i (by simpa [marks_len] using hi), by rw [marks_len]; exact hs⟩⟩
      rw [marks_len] at hi
      rw [HCL.out i hi, marks_at _ _ hi]
      simp [mixed, hi]

end Go.Proofs.Ytfiebakgphcnbaa.Hr
