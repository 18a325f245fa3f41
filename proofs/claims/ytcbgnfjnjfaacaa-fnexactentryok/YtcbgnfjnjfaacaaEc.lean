/-
  Copies of slices of entries and of tables in memory of the call's own.
-/
import Derived.Test.YtcbgnfjnjfaacaaEb
namespace Go.Proofs.Ytcbgnfjnjfaacaa.Ea
set_option maxRecDepth 8000
set_option linter.unusedSimpArgs false
set_option linter.unusedVariables false
open Go Go.RowKit
open Num Pl

/-- The value of cell j of a row of entries. -/
def valAt (F : List Ent) (j : Nat) : Value := (F.getD (j / 6) e0).vals.getD (j % 6) (.int .i64 0)
theorem vals_at (e : Ent) (j : Nat) (hj : j < 6) : e.vals[j]? = some (e.vals.getD j (.int .i64 0)) := by
  have : j < e.vals.size := by simp [Ent.vals]; exact hj
  simp [Array.getD, this]
theorem valAt_at (F : List Ent) (i j : Nat) (hj : j < 6) : some (valAt F (i * 6 + j)) = (F.getD i e0).vals[j]? := by
  have e1 : (i * 6 + j) / 6 = i := by omega
  have e2 : (i * 6 + j) % 6 = j := by omega
  rw [valAt, e1, e2, vals_at _ _ hj]
/-- Blocks of two entries lie apart. -/
def Apart (a b : Ent) : Prop := ∀ x, (x = a.bV ∨ x = a.bM ∨ x = a.bA) → ∀ y, (y = b.bV ∨ y = b.bM ∨ y = b.bA) → x ≠ y
/-- The entries' slices lie in memory of the call's own, each in a block of its own. -/
structure OwnQ (w : World) (lo : Nat) (F : List Ent) : Prop where
  each : ∀ f ∈ F, OwnE w lo f
  apart : F.Pairwise Apart
theorem OwnQ.below {w w' : World} {lo : Nat} {F : List Ent} (h : OwnQ w lo F) (hb : Below w.heap.size w w') : OwnQ w' lo F := ⟨fun f hf => (h.each f hf).below hb, h.apart⟩
theorem OwnE.lt {w : World} {lo : Nat} {f : Ent} (h : OwnE w lo f) {x : Nat} (hx : x = f.bV ∨ x = f.bM ∨ x = f.bA) : x < w.heap.size := by
  rcases hx with rfl | rfl | rfl
  · exact h.mV.row.lt
  · exact h.mM.row.lt
  · exact h.mA.row.lt
theorem OwnE.ge {w : World} {lo : Nat} {f : Ent} (h : OwnE w lo f) {x : Nat} (hx : x = f.bV ∨ x = f.bM ∨ x = f.bA) : lo ≤ x := by
  rcases hx with rfl | rfl | rfl
  · exact h.lV
  · exact h.lM
  · exact h.lA
theorem OwnE.mono {w : World} {lo lo' : Nat} {f : Ent} (h : OwnE w lo f) (hl : lo' ≤ lo) : OwnE w lo' f :=
  { h with lV := Nat.le_trans hl h.lV, lM := Nat.le_trans hl h.lM, lA := Nat.le_trans hl h.lA }
theorem OwnQ.nil (w : World) (lo : Nat) : OwnQ w lo [] := ⟨fun _ h => by simp at h, List.Pairwise.nil⟩
theorem OwnQ.snoc {w w' : World} {lo : Nat} {F : List Ent} {f : Ent} (h : OwnQ w lo F) (hb : Below w.heap.size w w') (hf : OwnE w' w.heap.size f) (hlo : lo ≤ w.heap.size) : OwnQ w' lo (F ++ [f]) := by
  refine ⟨fun g hg => ?_, ?_⟩
  · rcases List.mem_append.1 hg with hg | hg
    · exact (h.each g hg).below hb
    · obtain rfl := List.mem_singleton.1 hg
      exact hf.mono hlo
  · rw [List.pairwise_append]
    refine ⟨h.apart, List.pairwise_singleton _ _, fun a ha b hb' x hx y hy => ?_⟩
    obtain rfl := List.mem_singleton.1 hb'
    have := (h.each a ha).lt hx
    have := hf.ge hy
    omega
theorem OwnE.set {w : World} {lo g i : Nat} {f : Ent} {u : Value} (h : OwnE w lo f) (hg : ∀ x, (x = f.bV ∨ x = f.bM ∨ x = f.bA) → g ≠ x) : OwnE (w.setCell ⟨g, i, none⟩ u) lo f :=
  { h with mV := h.mV.set (hg _ (.inl rfl)), mM := h.mM.set (hg _ (.inr (.inl rfl))), mA := mineA_set h.mA (hg _ (.inr (.inr rfl))) }
/-- A block of entries is none of an entry's own blocks. -/
theorem OwnE.ne {w : World} {lo g n : Nat} {f : Ent} {F : Nat → Value} (h : OwnE w lo f) (hg : w.rowIs g 41 n F) {x : Nat} (hx : x = f.bV ∨ x = f.bM ∨ x = f.bA) : g ≠ x := by
  obtain ⟨c, hc, _, _⟩ := hg
  intro e
  subst e
  rcases hx with rfl | rfl | rfl
  · obtain ⟨⟨c', hc', _, _⟩, _⟩ := h.mV
    rw [hc] at hc'; injection hc' with hc'; injection hc' with _ hc' _; exact absurd hc' (by decide)
  · obtain ⟨⟨c', hc', _, _⟩, _⟩ := h.mM
    rw [hc] at hc'; injection hc' with hc'; injection hc' with _ hc' _; exact absurd hc' (by decide)
  · obtain ⟨⟨c', hc', _, _⟩, _⟩ := h.mA
    rw [hc] at hc'; injection hc' with hc'; injection hc' with _ hc' _; exact absurd hc' (by decide)
/-- Six cells of a row of entries are written. -/
def put6 (w : World) (g k : Nat) (f : Ent) : World :=
  (((((w.setCell ⟨g, k * 6, none⟩ (.int .i64 f.ep)).setCell ⟨g, k * 6 + 1, none⟩ (.int .i64 f.pr)).setCell ⟨g, k * 6 + 2, none⟩ (.slice f.aV f.V.length f.cV)).setCell ⟨g, k * 6 + 3, none⟩ (.slice f.aM f.M.length f.cM)).setCell ⟨g, k * 6 + 4, none⟩ (.slice f.aA f.A.length f.cA)).setCell ⟨g, k * 6 + 5, none⟩ (.int .i64 f.h)
theorem OwnE.put {w : World} {lo g k n : Nat} {f e : Ent} {F : Nat → Value} (h : OwnE w lo e) (hg : w.rowIs g 41 n F) : OwnE (put6 w g k f) lo e := by
  have := fun x hx => h.ne hg (x := x) hx
  exact (((((h.set this).set this).set this).set this).set this).set this
theorem put_below {w w' : World} {B g k : Nat} {f : Ent} (h : Below B w w') (hg : B ≤ g) : Below B w (put6 w' g k f) :=
  Pm.bset (Pm.bset (Pm.bset (Pm.bset (Pm.bset (Pm.bset h hg) hg) hg) hg) hg) hg
theorem put_row {w : World} {g n k : Nat} {F G : List Ent} {f : Ent} (h : w.rowIs g 41 n (valAt F)) (hk : ∀ i, G.getD i e0 = if i = k then f else F.getD i e0) :
    (put6 w g k f).rowIs g 41 n (valAt G) := by
  refine ((((((h.set _ _).set _ _).set _ _).set _ _).set _ _).set _ _).congr fun j hj => ?_
  by_cases e : j / 6 = k
  · have hG : G.getD (j / 6) e0 = f := by rw [hk, if_pos e]
    have hr : j % 6 < 6 := Nat.mod_lt _ (by omega)
    show _ = (G.getD (j / 6) e0).vals.getD (j % 6) (.int .i64 0)
    rw [hG]
    by_cases e5 : j = k * 6 + 5
    · rw [if_pos e5, show j % 6 = 5 by omega]; rfl
    rw [if_neg e5]
    by_cases e4 : j = k * 6 + 4
    · rw [if_pos e4, show j % 6 = 4 by omega]; rfl
    rw [if_neg e4]
    by_cases e3 : j = k * 6 + 3
    · rw [if_pos e3, show j % 6 = 3 by omega]; rfl
    rw [if_neg e3]
    by_cases e2 : j = k * 6 + 2
    · rw [if_pos e2, show j % 6 = 2 by omega]; rfl
    rw [if_neg e2]
    by_cases e1 : j = k * 6 + 1
    · rw [if_pos e1, show j % 6 = 1 by omega]; rfl
    rw [if_neg e1]
    rw [if_pos (show j = k * 6 by omega), show j % 6 = 0 by omega]; rfl
  · have hG : G.getD (j / 6) e0 = F.getD (j / 6) e0 := by rw [hk, if_neg e]
    show _ = (G.getD (j / 6) e0).vals.getD (j % 6) (.int .i64 0)
    rw [hG, if_neg (by omega), if_neg (by omega), if_neg (by omega), if_neg (by omega), if_neg (by omega), if_neg (by omega)]
    rfl
theorem snoc_getD (F : List Ent) (f : Ent) (i : Nat) : (F ++ [f]).getD i e0 = if i = F.length then f else F.getD i e0 := by
  by_cases e : i = F.length
  · subst e; simp [List.getD]
  · rw [if_neg e]
    rcases Nat.lt_or_ge i F.length with h | h
    · simp [List.getD, h, List.getElem?_append_left h]
    · have h2 : F.length + 1 ≤ i := by omega
      simp [List.getD, List.getElem?_eq_none, h, h2]

/-- The block g is a row of entries of the call's own. -/
structure Mine (w : World) (lo g : Nat) (F : List Ent) : Prop where
  row : w.rowIs g 41 (F.length * 6) (valAt F)
  own : OwnQ w lo F
  lg : lo ≤ g
  size : F.length ≤ 4194304
theorem Mine.below {w w' : World} {lo g : Nat} {F : List Ent} (h : Mine w lo g F) (hb : Below w.heap.size w w') : Mine w' lo g F :=
  ⟨h.row.of_block (hb.block g h.row.lt), h.own.below hb, h.lg, h.size⟩
theorem getD_mem {F : List Ent} {i : Nat} (h : i < F.length) : F.getD i e0 ∈ F := by
  have : F.getD i e0 = F[i] := by simp [List.getD, h]
  rw [this]; exact List.getElem_mem h
theorem Mine.rd {w : World} {lo g : Nat} {F : List Ent} (h : Mine w lo g F) : Rd w (some ⟨g, 0, none⟩) g 0 F := by
  refine ⟨fun _ => rfl, fun i hi j hj => ?_, fun i hi => (h.own.each _ (getD_mem hi)).ok, h.size⟩
  rw [← valAt_at F i j hj, Nat.zero_add]
  exact h.row.cell (by omega)

theorem Mine.mono {w : World} {lo lo' g : Nat} {F : List Ent} (h : Mine w lo g F) (hl : lo' ≤ lo) : Mine w lo' g F :=
  ⟨h.row, ⟨fun f hf => (h.own.each f hf).mono hl, h.own.apart⟩, Nat.le_trans hl h.lg, h.size⟩
theorem Mine.set {w : World} {lo g b i : Nat} {F : List Ent} {u : Value} (h : Mine w lo g F) (hb : b < lo) : Mine (w.setCell ⟨b, i, none⟩ u) lo g F :=
  ⟨h.row.of_block (blk_other rfl (by have := h.lg; omega)), ⟨fun f hf => (h.own.each f hf).set (fun x hx => by have := (h.own.each f hf).ge hx; omega), h.own.apart⟩, h.lg, h.size⟩

theorem info41 : (Try.prog.info? 41).map (fun i => (i.zero, i.size, i.bytes)) = some (some (.agg e0.vals), 6, 96) := by kernel_rfl
theorem make6 (n : Nat) (hn : n ≤ 4194304) (w : World) :
    (Instr.makeSlice 36 (.int .i64 n) (.int .i64 n)).run Try.prog w = .ok (.slice (some ⟨w.heap.size, 0, none⟩) n n) (w.alloc (.cells (madeCells e0.vals (n * 6)) 41)) := by
  obtain ⟨i, hi, hzz⟩ := Option.map_eq_some_iff.1 info41
  simp only [Prod.mk.injEq] at hzz
  obtain ⟨hz, hs, hb⟩ := hzz
  have hr := run_make (P := Try.prog) w 36 41 i _ Try.underlying36 hi hz .i64 .i64 n n (by omega) (Int.le_refl _) (by rw [hb]; omega) (by omega)
  simp only [Int.toNat_natCast, hs, Value.cells] at hr
  exact hr
theorem made6 (w : World) (n : Nat) : (w.alloc (.cells (madeCells e0.vals (n * 6)) 41)).rowIs w.heap.size 41 (n * 6) (valAt []) :=
  ⟨_, at_new rfl, size_madeCells _ _, fun i hi => by
    have hr : i % 6 < 6 := Nat.mod_lt _ (by omega)
    have e : i % 6 = 0 ∨ i % 6 = 1 ∨ i % 6 = 2 ∨ i % 6 = 3 ∨ i % 6 = 4 ∨ i % 6 = 5 := by omega
    rcases e with e | e | e | e | e | e <;> simp [madeCells, hi, e, valAt, e0, Ent.vals]⟩

theorem ent_vals (e : Ent) : e.vals = #[.int .i64 e.ep, .int .i64 e.pr, .slice e.aV e.V.length e.cV, .slice e.aM e.M.length e.cM, .slice e.aA e.A.length e.cA, .int .i64 e.h] := rfl

set_option maxHeartbeats 2000000 in
theorem toS_any (a : Option Addr) (b off cap : Nat) (Q : List Ent) (w : World) (h : Rd w a b off Q) :
    Calls Try.prog 109 #[.slice a Q.length cap] w fun e w' => ∃ F : List Ent, e = .returned (.slice (some ⟨w.heap.size, 0, none⟩) F.length F.length) ∧ F.map Ent.said = Q.map Ent.said ∧ Below w.heap.size w w' ∧ Mine w' w.heap.size w.heap.size F := by
  obtain ⟨hh, hc, ho, hs⟩ := h
  obtain ⟨n, hn⟩ : ∃ n, n = Q.length := ⟨_, rfl⟩
  have hmk := make6 n (by omega)
  rw [← hn] at hh hc ho hs ⊢
  have HN : Hid (n = Q.length) := hn
  clear hn
  go_enter Try.func109, Try.ntmps109
  go_wp2
  clear hmk
  go_loopw [4] (fun i wr => ∃ (k : Nat) (F : List Ent), k ≤ n ∧ i = .int .i64 k ∧ F.length = k ∧ F.map Ent.said = (Q.take k).map Ent.said ∧ Below w.heap.size w wr ∧ wr.rowIs w.heap.size 41 (n * 6) (valAt F) ∧ OwnQ wr w.heap.size F) (fun i _ => n - (intOf i).toNat)
  case atStart => exact ⟨0, [], Nat.zero_le _, rfl, rfl, by simp, (Below.refl _ _).alloc (Nat.le_refl _) _, made6 w n, OwnQ.nil _ _⟩
  case round =>
    obtain ⟨k, F, hk, rfl, hF, hsaid, hbel, hrow, hown⟩ := hrel
    by_cases hlt : k < n
    · obtain rfl := hh (by omega)
      have hkz : (k : Int) < (n : Int) := by omega
      obtain ⟨c0, c1, c2, c3, c4, c5⟩ := ((hc k hlt).of hbel (At6.lt (hc k hlt))).six
      have hok : (Q.getD k e0).Ok wr := by
        have o := ho k hlt
        exact ⟨⟨o.rV.head, fun i hi => (hbel.cell (World.block_lt_of_cell? _ _ (o.rV.cell i hi))).trans (o.rV.cell i hi), o.rV.size⟩, ⟨o.rM.head, fun i hi => (hbel.cell (World.block_lt_of_cell? _ _ (o.rM.cell i hi))).trans (o.rM.cell i hi), o.rM.size⟩, ⟨o.rA.head, fun i hi => (o.rA.cell i hi).of hbel (o.rA.cell i hi).lt, o.rA.size⟩, o.wV, o.wM⟩
      have hqk : Q.take (k + 1) = Q.take k ++ [Q.getD k e0] := by
        have : k < Q.length := by have := HN.out; omega
        rw [List.take_add_one]; simp [List.getD, this]
      have HQ : Hid (Q.take (k + 1) = Q.take k ++ [Q.getD k e0]) := hqk
      clear hqk hc ho hh
      have hlw := hrow.lt
      generalize Q.getD k e0 = q at *
      have hcall := toE_any q wr hok
      rw [ent_vals q] at hcall
      go_wp2_with (go_at_call 35; refine hcall.mono ?_; rintro e w1 ⟨f, rfl, hfs, hb, hf⟩; rw [ent_vals f]; replace hown := hown.snoc hb hf hbel.size; replace hrow := hrow.of_block (hb.block _ hlw); replace hbel := Rw.next hbel hb; have g0 := hrow.cell (i := k * 6) (by omega); have g1 := hrow.cell (i := k * 6 + 1) (by omega); have g2 := hrow.cell (i := k * 6 + 2) (by omega); have g3 := hrow.cell (i := k * 6 + 3) (by omega); have g4 := hrow.cell (i := k * 6 + 4) (by omega); have g5 := hrow.cell (i := k * 6 + 5) (by omega); have f0 := hrow.frozen (k * 6); have f1 := hrow.frozen (k * 6 + 1); have f2 := hrow.frozen (k * 6 + 2); have f3 := hrow.frozen (k * 6 + 3); have f4 := hrow.frozen (k * 6 + 4); have f5 := hrow.frozen (k * 6 + 5))
      clear hcall
      go_roundw
      case rel => exact ⟨k + 1, F ++ [f], by omega, by go_num, by simp [hF], by rw [HQ.out, List.map_append, List.map_append, hsaid]; simp [hfs], put_below (f := f) (k := k) hbel (Nat.le_refl _), put_row hrow (fun i => by rw [← hF]; exact snoc_getD F f i), ⟨fun g hg => (hown.each g hg).put hrow, hown.apart⟩⟩
      case measure => simp [intOf]; omega
    · have he : k = n := by omega
      subst he
      go_wp2
      go_ret
      have := HN.out
      rw [this, List.take_length] at hsaid
      refine ⟨F, by rw [hF]; rfl, hsaid, hbel, ?_, hown, Nat.le_refl _, by omega⟩
      rw [hF]; exact hrow

set_option maxHeartbeats 1000000 in
theorem toT_any (q : Int) (a : Option Addr) (b off cap : Nat) (Q : List Ent) (w : World) (h : Rd w a b off Q) :
    Calls Try.prog 40 #[.agg #[.int .i64 q, .slice a Q.length cap]] w fun e w' => ∃ (F : List Ent) (g : Nat), e = .returned (.agg #[.int .i64 q, .slice (some ⟨g, 0, none⟩) F.length F.length]) ∧ F.map Ent.said = Q.map Ent.said ∧ Below w.heap.size w w' ∧ Mine w' w.heap.size g F := by
  obtain ⟨W1, hW1⟩ : ∃ W1, W1 = ((w.alloc (.cells #[.int .i64 q, .slice a Q.length cap] 65)).alloc (.cells #[.int .i64 0, .slice none 0 0] 38)).alloc (.cells #[.int .i64 q, .slice none 0 0] 38) := ⟨_, rfl⟩
  have B1 : Below w.heap.size w W1 := by subst hW1; exact Rw.next (Rw.next (below_alloc1 _ _) (below_alloc1 _ _)) (below_alloc1 _ _)
  have k1 : W1.heap[w.heap.size + 1]? = some (.cells #[.int .i64 0, .slice none 0 0] 38 (0, 0)) := by subst hW1; rw [at_old (by simp), at_new (by simp)]
  have k2 : W1.heap[w.heap.size + 1 + 1]? = some (.cells #[.int .i64 q, .slice none 0 0] 38 (0, 0)) := by subst hW1; exact at_new (by simp)
  have r1 := h.below B1
  have s1 := blk_lt k2
  go_enter Try.func40, Try.ntmps40
  go_wp2_with (go_at_call 109; rw [← hW1]; clear hW1; refine (toS_any _ _ _ _ _ _ r1).mono ?_; rintro e wa ⟨F, rfl, hs, ba, hm⟩; replace k1 := (ba.block _ (blk_lt k1)).trans k1; replace k2 := (ba.block _ (blk_lt k2)).trans k2; obtain ⟨p0, p1⟩ := Pm.two k1; obtain ⟨q0, q1⟩ := Pm.two k2; have f1 := Bl.free k1; have f2 := Bl.free k2)
  refine bodyPost_ret (v := .agg #[.int .i64 q, .slice (some ⟨W1.heap.size, 0, none⟩) F.length F.length]) (by simp [results, Try.results40, go_sem, p0, p1]) rfl ⟨F, W1.heap.size, rfl, hs, ?_, ?_⟩
  · have B2 := Rw.next B1 ba
    repeat (first | with_reducible exact B2 | refine Pm.bset ?_ (by omega))
  · refine Mine.mono (lo := W1.heap.size) ?_ B1.size
    repeat (first | with_reducible exact hm | refine Mine.set ?_ (by omega))

end Go.Proofs.Ytcbgnfjnjfaacaa.Ea
