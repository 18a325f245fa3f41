/-
  Copies of entries, slices of entries and tables in memory of the call's own.
-/
import Derived.Test.YtcbgnfjnjfaacaaEo
namespace Go.Proofs.Ytcbgnfjnjfaacaa.Ea
set_option maxRecDepth 8000
set_option linter.unusedSimpArgs false
set_option linter.unusedVariables false
open Go Go.RowKit
open Num Pl

/-- The entry's slices lie in memory of the call's own, from block lo on, each in a block of its own. -/
structure OwnE (w : World) (lo : Nat) (f : Ent) : Prop where
  mV : Hr.Mine w f.bV f.V
  mM : Hr.Mine w f.bM f.M
  mA : Yb.Mine w f.bA f.A
  aV : f.aV = some ⟨f.bV, 0, none⟩
  aM : f.aM = some ⟨f.bM, 0, none⟩
  aA : f.aA = some ⟨f.bA, 0, none⟩
  oV : f.oV = 0
  oM : f.oM = 0
  oA : f.oA = 0
  lV : lo ≤ f.bV
  lM : lo ≤ f.bM
  lA : lo ≤ f.bA
  d1 : f.bV ≠ f.bM
  d2 : f.bV ≠ f.bA
  d3 : f.bM ≠ f.bA
  wV : Po.Wide f.V
  wM : Po.Wide f.M
theorem OwnE.ok {w : World} {lo : Nat} {f : Ent} (h : OwnE w lo f) : f.Ok w := by
  refine ⟨?_, ?_, ?_, h.wV, h.wM⟩
  · rw [h.aV, h.oV]; exact h.mV.rd
  · rw [h.aM, h.oM]; exact h.mM.rd
  · rw [h.aA, h.oA]; exact h.mA.rd
theorem OwnE.below {w w' : World} {lo : Nat} {f : Ent} (h : OwnE w lo f) (hb : Below w.heap.size w w') : OwnE w' lo f :=
  { h with mV := h.mV.below hb, mM := h.mM.below hb, mA := h.mA.below hb }
theorem mineA_set {w : World} {g : Nat} {l : List Yb.A3} {a : Addr} {u : Value} (h : Yb.Mine w g l) (hne : ¬ a.block = g) : Yb.Mine (w.setCell a u) g l :=
  ⟨h.row.of_block (by simp [World.setCell, Array.getElem?_modify, hne]), h.size⟩

theorem six {w : World} {g : Nat} {v0 v1 v2 v3 v4 v5 : Value} {t : TypeId} {fr : Nat × Nat} (k : w.heap[g]? = some (.cells #[v0, v1, v2, v3, v4, v5] t fr)) :
    w.cell? ⟨g, 0, none⟩ = some v0 ∧ w.cell? ⟨g, 1, none⟩ = some v1 ∧ w.cell? ⟨g, 2, none⟩ = some v2 ∧ w.cell? ⟨g, 3, none⟩ = some v3 ∧ w.cell? ⟨g, 4, none⟩ = some v4 ∧ w.cell? ⟨g, 5, none⟩ = some v5 := by
  simp [World.cell?, k]
theorem blk_same {w : World} {g i : Nat} {cs : Array Value} {u : Value} {t : TypeId} (k : w.heap[g]? = some (.cells cs t (0, 0))) : (w.setCell ⟨g, i, none⟩ u).heap[g]? = some (.cells (cs.setIfInBounds i u) t (0, 0)) := by
  simp [World.setCell, Array.getElem?_modify, k]
theorem blk_other {w : World} {g g' i : Nat} {o : Option Obj} {u : Value} (k : w.heap[g]? = o) (h : g' ≠ g) : (w.setCell ⟨g', i, none⟩ u).heap[g]? = o := by
  simp [World.setCell, Array.getElem?_modify, k, h]
theorem blk_lt {w : World} {g : Nat} {o : Obj} (k : w.heap[g]? = some o) : g < w.heap.size := (Array.getElem?_eq_some_iff.1 k).1

set_option maxHeartbeats 2000000 in
theorem toE_any (e : Ent) (w : World) (h : e.Ok w) :
    Calls Try.prog 35 #[.agg e.vals] w fun x w' => ∃ f : Ent, x = .returned (.agg f.vals) ∧ f.said = e.said ∧ Below w.heap.size w w' ∧ OwnE w' w.heap.size f := by
  obtain ⟨ep, pr, V, M, A, hh, aV, bV, oV, cV, aM, bM, oM, cM, aA, bA, oA, cA⟩ := e
  obtain ⟨rV, rM, rA, wV, wM⟩ := h
  simp only at rV rM rA wV wM
  simp only [Ent.vals]
  obtain ⟨W1, hW1⟩ : ∃ W1, W1 = ((w.alloc (.cells #[.int .i64 ep, .int .i64 pr, .slice aV V.length cV, .slice aM M.length cM, .slice aA A.length cA, .int .i64 hh] 57)).alloc (.cells #[.int .i64 0, .int .i64 0, .slice none 0 0, .slice none 0 0, .slice none 0 0, .int .i64 0] 41)).alloc (.cells #[.int .i64 ep, .int .i64 pr, .slice none 0 0, .slice none 0 0, .slice none 0 0, .int .i64 0] 41) := ⟨_, rfl⟩
  have B1 : Below w.heap.size w W1 := by subst hW1; exact Rw.next (Rw.next (below_alloc1 _ _) (below_alloc1 _ _)) (below_alloc1 _ _)
  have k0 : W1.heap[w.heap.size]? = some (.cells #[.int .i64 ep, .int .i64 pr, .slice aV V.length cV, .slice aM M.length cM, .slice aA A.length cA, .int .i64 hh] 57 (0, 0)) := by subst hW1; rw [at_old (by simp <;> omega), at_old (by simp), at_new rfl]
  have k1 : W1.heap[w.heap.size + 1]? = some (.cells #[.int .i64 0, .int .i64 0, .slice none 0 0, .slice none 0 0, .slice none 0 0, .int .i64 0] 41 (0, 0)) := by subst hW1; rw [at_old (by simp), at_new (by simp)]
  have k2 : W1.heap[w.heap.size + 1 + 1]? = some (.cells #[.int .i64 ep, .int .i64 pr, .slice none 0 0, .slice none 0 0, .slice none 0 0, .int .i64 0] 41 (0, 0)) := by subst hW1; exact at_new (by simp)
  have rV1 := rV.below B1
  have rM1 := rM.below B1
  have rA1 := rA.below B1
  have RA : Hid (Yb.Rd w aA bA oA A) := rA
  have S2 := blk_lt k2
  clear rV rM rA
  go_enter Try.func35, Try.ntmps35
  go_wp2_with (go_at_call 48; rw [← hW1]; refine (Lm.toMatch_any _ _ _ _ _ _ _ _ V M _ rV1 rM1).mono ?_; rintro x wa ⟨gV, gM, rfl, ba, lV, lM, dVM, mV, mM⟩; replace k0 := (ba.block _ (blk_lt k0)).trans k0; replace k1 := (ba.block _ (blk_lt k1)).trans k1; replace k2 := (ba.block _ (blk_lt k2)).trans k2; replace rA1 := rA1.below ba; obtain ⟨p0, p1, p2, p3, p4, p5⟩ := six k0; obtain ⟨r0, r1, r2, r3, r4, r5⟩ := six k2; have f2 := Bl.free k2)
  clear hW1
  obtain ⟨W2, hW2⟩ : ∃ W2, W2 = (wa.setCell ⟨w.heap.size + 1 + 1, 2, none⟩ (.slice (some ⟨gV, 0, none⟩) V.length V.length)).setCell ⟨w.heap.size + 1 + 1, 3, none⟩ (.slice (some ⟨gM, 0, none⟩) M.length M.length) := ⟨_, rfl⟩
  have s1 : w.heap.size + 1 + 1 < gV ∧ w.heap.size + 1 + 1 < gM := ⟨Nat.lt_of_lt_of_le S2 lV, Nat.lt_of_lt_of_le S2 lM⟩
  have sW : W2.heap.size = wa.heap.size := by subst hW2; simp
  replace B1 : Below w.heap.size w W2 := by subst hW2; exact Pm.bset (Pm.bset (Rw.next B1 ba) (by omega)) (by omega)
  replace k0 : W2.heap[w.heap.size]? = some (.cells #[.int .i64 ep, .int .i64 pr, .slice aV V.length cV, .slice aM M.length cM, .slice aA A.length cA, .int .i64 hh] 57 (0, 0)) := by subst hW2; exact blk_other (blk_other k0 (by omega)) (by omega)
  replace k1 : W2.heap[w.heap.size + 1]? = some (.cells #[.int .i64 0, .int .i64 0, .slice none 0 0, .slice none 0 0, .slice none 0 0, .int .i64 0] 41 (0, 0)) := by subst hW2; exact blk_other (blk_other k1 (by omega)) (by omega)
  replace k2 : W2.heap[w.heap.size + 1 + 1]? = some (.cells #[.int .i64 ep, .int .i64 pr, .slice (some ⟨gV, 0, none⟩) V.length V.length, .slice (some ⟨gM, 0, none⟩) M.length M.length, .slice none 0 0, .int .i64 0] 41 (0, 0)) := by subst hW2; exact blk_same (blk_same k2)
  replace mV : Hr.Mine W2 gV V := by subst hW2; exact (mV.set (by simp; omega)).set (by simp; omega)
  replace mM : Hr.Mine W2 gM M := by subst hW2; exact (mM.set (by simp; omega)).set (by simp; omega)
  have rA2 : Yb.Rd W2 aA bA oA A := RA.out.below B1
  have lW : w.heap.size ≤ W2.heap.size := B1.size
  have xV := mV.row.lt
  have xM := mM.row.lt
  clear rA1 r0 r1 r2 r3 r4 r5 f2 p0 p1 p2 p3 p4 p5 ba sW rV1 rM1
  go_wp2_with (go_at_call 105; rw [← hW2]; clear hW2; refine (Yb.toActS_any _ _ _ _ _ _ rA2).mono ?_; rintro x wc ⟨rfl, bc, mA⟩; replace k0 := (bc.block _ (blk_lt k0)).trans k0; replace k1 := (bc.block _ (blk_lt k1)).trans k1; replace k2 := (bc.block _ (blk_lt k2)).trans k2; replace mV := mV.below bc; replace mM := mM.below bc; replace B1 := Rw.next B1 bc; obtain ⟨p0, p1, p2, p3, p4, p5⟩ := six k0; obtain ⟨r0, r1, r2, r3, r4, r5⟩ := six k2; have f2 := Bl.free k2; obtain ⟨q0, q1, q2, q3, q4, q5⟩ := six k1; have f1 := Bl.free k1)
  refine bodyPost_ret (v := .agg #[.int .i64 ep, .int .i64 pr, .slice (some ⟨gV, 0, none⟩) V.length V.length, .slice (some ⟨gM, 0, none⟩) M.length M.length, .slice (some ⟨W2.heap.size, 0, none⟩) A.length A.length, .int .i64 hh]) (by simp [results, Try.results35, go_sem, q0, q1, q2, q3, q4, q5]) rfl ⟨⟨ep, pr, V, M, A, hh, some ⟨gV, 0, none⟩, gV, 0, V.length, some ⟨gM, 0, none⟩, gM, 0, M.length, some ⟨W2.heap.size, 0, none⟩, W2.heap.size, 0, A.length⟩, rfl, rfl, ?_, ?_⟩
  · repeat (first | with_reducible exact B1 | refine Pm.bset ?_ (by omega))
  · refine ⟨?_, ?_, ?_, rfl, rfl, rfl, rfl, rfl, rfl, by simp only; omega, by simp only; omega, lW, dVM, by simp only; omega, by simp only; omega, wV, wM⟩
    · repeat (first | with_reducible exact mV | refine Hr.Mine.set ?_ (by simp; omega))
    · repeat (first | with_reducible exact mM | refine Hr.Mine.set ?_ (by simp; omega))
    · repeat (first | with_reducible exact mA | refine mineA_set ?_ (by simp; omega))

end Go.Proofs.Ytcbgnfjnjfaacaa.Ea
