/-
  Contracts laid together (Cs, Ct, Ra, Rb, Rc, Rd, Ka, Kb, Kc, Cu).
-/
import Derived.Test.YtcbgnfjnjfaacaaPtc
import Derived.Deep.RegionHeld3
import Derived.DeepKeys4
import Derived.Maps.Own
import Derived.Maps.OwnOps
import Derived.Maps.OwnSet
namespace Go.Proofs.Ytcbgnfjnjfaacaa.Cp
set_option maxRecDepth 8000
set_option linter.unusedSimpArgs false
set_option linter.unusedVariables false
open Go Go.RowKit
open Num Pl Ea Em

/-- The actions are copied behind the match. -/
theorem stepA {w wa : World} {ep pr hh : Int} {V M : List Int} {A : List Yb.A3} {aV aM aA : Option Addr} {cV cM cA bA oA gV gM c1 c2 : Nat} (rA : Yb.Rd w aA bA oA A) (B1 : Below w.heap.size w wa) (l1 : w.heap.size + 1 < wa.heap.size)
    (k0 : wa.heap[w.heap.size]? = some (.cells #[.int .i64 ep, .int .i64 pr, .slice aV V.length cV, .slice aM M.length cM, .slice aA A.length cA, .int .i64 hh] 41 (0, 0))) (k1 : wa.heap[w.heap.size + 1]? = some (.cells #[.int .i64 0, .int .i64 0, .slice none 0 0, .slice none 0 0, .slice none 0 0, .int .i64 0] 41 (0, 0)))
    (mV : Hr.Wt wa (some ⟨gV, 0, none⟩) gV V) (mM : Hr.Wt wa (some ⟨gM, 0, none⟩) gM M) (lV : w.heap.size + 1 < gV) (lM : w.heap.size + 1 < gM) :
    ∃ gA cA1 w3, (Builtin.append_ #[39, 39] 39 #[.slice (some ⟨wa.heap.size, 0, none⟩) 0 0, .slice aA A.length cA]).run Try.prog (((wa.setCell ⟨w.heap.size, 2, none⟩ (.slice (some ⟨gV, 0, none⟩) V.length c1)).setCell ⟨w.heap.size, 3, none⟩ (.slice (some ⟨gM, 0, none⟩) M.length c2)).alloc (.cells #[] 147)) = .ok (.slice (some ⟨gA, 0, none⟩) A.length cA1) w3 ∧
      w3.heap[w.heap.size]? = some (.cells #[.int .i64 ep, .int .i64 pr, .slice (some ⟨gV, 0, none⟩) V.length c1, .slice (some ⟨gM, 0, none⟩) M.length c2, .slice aA A.length cA, .int .i64 hh] 41 (0, 0)) ∧ w3.heap[w.heap.size + 1]? = some (.cells #[.int .i64 0, .int .i64 0, .slice none 0 0, .slice none 0 0, .slice none 0 0, .int .i64 0] 41 (0, 0)) ∧ Hr.Wt w3 (some ⟨gV, 0, none⟩) gV V ∧ Hr.Wt w3 (some ⟨gM, 0, none⟩) gM M ∧ WtA w3 (some ⟨gA, 0, none⟩) gA A ∧ wa.heap.size ≤ gA ∧ Below w.heap.size w w3 := by
  obtain ⟨W2, hW2⟩ : ∃ W2, W2 = (wa.setCell ⟨w.heap.size, 2, none⟩ (.slice (some ⟨gV, 0, none⟩) V.length c1)).setCell ⟨w.heap.size, 3, none⟩ (.slice (some ⟨gM, 0, none⟩) M.length c2) := ⟨_, rfl⟩
  have w2s : W2.heap.size = wa.heap.size := by subst hW2; simp
  have B2 : Below w.heap.size w W2 := by subst hW2; exact Pm.bset (Pm.bset B1 (Nat.le_refl _)) (Nat.le_refl _)
  have m0 : W2.heap[w.heap.size]? = some (.cells #[.int .i64 ep, .int .i64 pr, .slice (some ⟨gV, 0, none⟩) V.length c1, .slice (some ⟨gM, 0, none⟩) M.length c2, .slice aA A.length cA, .int .i64 hh] 41 (0, 0)) := by subst hW2; exact blk_same (blk_same k0)
  have m1 : W2.heap[w.heap.size + 1]? = some (.cells #[.int .i64 0, .int .i64 0, .slice none 0 0, .slice none 0 0, .slice none 0 0, .int .i64 0] 41 (0, 0)) := by subst hW2; exact blk_other (blk_other k1 (by omega)) (by omega)
  have vV : Hr.Wt W2 (some ⟨gV, 0, none⟩) gV V := wt_keep mV fun h0 => by subst hW2; exact blk_other (blk_other rfl (by omega)) (by omega)
  have vM : Hr.Wt W2 (some ⟨gM, 0, none⟩) gM M := wt_keep mM fun h0 => by subst hW2; exact blk_other (blk_other rfl (by omega)) (by omega)
  have O0 := Yx.own_emptyA W2
  have hb := below_alloc1 W2 (.cells #[] 147)
  obtain ⟨v', w3, hrun, hown, hgrow⟩ := app_acts 39 (c := cA) O0 (rA.below (Rw.next B2 hb)) (by simp)
  have b3 : Below W2.heap.size W2 w3 := below_ownA O0 hb (Nat.le_refl _) hgrow
  obtain ⟨gA, cA1, rfl, lA, mA⟩ := hasA_wt hown rA.size
  rw [w2s] at hrun
  rw [← hW2]
  exact ⟨gA, cA1, w3, hrun, (b3.block _ (blk_lt m0)).trans m0, (b3.block _ (blk_lt m1)).trans m1, vV.below b3, vM.below b3, mA, by omega, Rw.next B2 b3⟩

set_option maxHeartbeats 4000000 in
theorem copyS (e : Ent) (w : World) (h : e.Ok w) : Calls Try.prog 83 #[.agg e.vals] w (ResE w e) := by
  obtain ⟨ep, pr, V, M, A, hh, aV, bV, oV, cV, aM, bM, oM, cM, aA, bA, oA, cA⟩ := e
  obtain ⟨rV, rM, rA, wV, wM⟩ := h
  simp only at rV rM rA wV wM
  simp only [Ent.vals]
  obtain ⟨W1, hW1⟩ : ∃ W1, W1 = (w.alloc (.cells #[.int .i64 ep, .int .i64 pr, .slice aV V.length cV, .slice aM M.length cM, .slice aA A.length cA, .int .i64 hh] 41)).alloc (.cells #[.int .i64 0, .int .i64 0, .slice none 0 0, .slice none 0 0, .slice none 0 0, .int .i64 0] 41) := ⟨_, rfl⟩
  have B1 : Below w.heap.size w W1 := by subst hW1; exact Rw.next (below_alloc1 _ _) (below_alloc1 _ _)
  have k0 : W1.heap[w.heap.size]? = some (.cells #[.int .i64 ep, .int .i64 pr, .slice aV V.length cV, .slice aM M.length cM, .slice aA A.length cA, .int .i64 hh] 41 (0, 0)) := by subst hW1; rw [at_old (by simp), at_new rfl]
  have k1 : W1.heap[w.heap.size + 1]? = some (.cells #[.int .i64 0, .int .i64 0, .slice none 0 0, .slice none 0 0, .slice none 0 0, .int .i64 0] 41 (0, 0)) := by subst hW1; exact at_new (by simp)
  have RA : Hid (Yb.Rd w aA bA oA A) := rA
  have rV1 := rV.below B1
  have rM1 := rM.below B1
  have sA := rA.size
  have HSA : Hid (A.length ≤ 4194304) := sA
  clear rV rM rA sA
  have lW1 : w.heap.size + 1 < W1.heap.size := blk_lt k1
  go_enter Try.func83, Try.ntmps83
  go_wp2_with (first | (at_builtin; obtain ⟨gA, cA1, w3, hrun, m0, m1, vV, vM, mA, lA, B3⟩ := stepA (c1 := c1) (c2 := c2) RA.out B1 (blk_lt k1) k0 k1 mV mM (by omega) (by omega); refine wpList_run rfl (exec_app _ _ rfl rfl rfl hrun) ?_; have s3 := B3.size; clear hrun p0 p1 p2 p3 p4 p5 f0 k0 k1 mV mM B1; obtain ⟨p0, p1, p2, p3, p4, p5⟩ := six m0; obtain ⟨q0, q1, q2, q3, q4, q5⟩ := six m1; have f0 := Bl.free m0; have f1 := Bl.free m1) | (go_at_call 76; rw [← hW1]; clear hW1; refine (copyM _ _ _ _ _ _ _ _ V M _ rV1 rM1).mono ?_; rintro x wa ⟨gV, gM, c1, c2, rfl, mV, mM, dVM, lV, lM, tV, tM, hb⟩; replace k0 := (hb.block _ (blk_lt k0)).trans k0; replace k1 := (hb.block _ (blk_lt k1)).trans k1; replace B1 := Rw.next B1 hb; have s1 := hb.size; clear hb; obtain ⟨p0, p1, p2, p3, p4, p5⟩ := six k0; have f0 := Bl.free k0; have l0 := blk_lt k0))
  refine bodyPost_ret (v := .agg #[.int .i64 ep, .int .i64 pr, .slice (some ⟨gV, 0, none⟩) V.length c1, .slice (some ⟨gM, 0, none⟩) M.length c2, .slice (some ⟨gA, 0, none⟩) A.length cA1, .int .i64 hh]) (by simp [results, Try.results83, go_sem, q0, q1, q2, q3, q4, q5]) rfl ⟨⟨ep, pr, V, M, A, hh, some ⟨gV, 0, none⟩, gV, 0, c1, some ⟨gM, 0, none⟩, gM, 0, c2, some ⟨gA, 0, none⟩, gA, 0, cA1⟩, rfl, rfl, ?_, ?_⟩
  · refine ⟨⟨?_, ?_, ?_⟩, ⟨fun _ _ => dVM, fun _ _ => by simp only; omega, fun _ _ => by simp only; omega⟩, fun x hx => by simp only [Uses] at hx; omega, wV, wM, rfl, rfl, rfl⟩
    · show Hr.Wt _ (some ⟨gV, 0, none⟩) gV V
      repeat (first | with_reducible exact vV | refine wt_set ?_ (by omega))
    · show Hr.Wt _ (some ⟨gM, 0, none⟩) gM M
      repeat (first | with_reducible exact vM | refine wt_set ?_ (by omega))
    · show WtA _ (some ⟨gA, 0, none⟩) gA A
      repeat (first | with_reducible exact mA | refine wtA_set ?_ (by omega))
  · repeat (first | with_reducible exact B3 | refine Pm.bset ?_ (by omega))

end Go.Proofs.Ytcbgnfjnjfaacaa.Cp
namespace Go.Proofs.Ytcbgnfjnjfaacaa.Cp
set_option maxRecDepth 8000
set_option linter.unusedSimpArgs false
set_option linter.unusedVariables false
open Go Go.RowKit
open Num Pl Ea Em

def flatE (F : List Ent) : List Value := F.flatMap fun f => f.vals.toList
theorem flatE_len (F : List Ent) : (flatE F).length = F.length * 6 := by
  induction F with
  | nil => rfl
  | cons x l ih => simp only [flatE, List.flatMap_cons, List.length_append, List.length_cons] at ih ⊢; rw [ih]; simp [Ent.vals]; omega
theorem flatE_at : ∀ (F : List Ent) (j : Nat), j < F.length * 6 → (flatE F)[j]? = some (valAt F j)
  | [], j, h => by simp at h
  | x :: F, j, h => by
    have e : flatE (x :: F) = x.vals.toList ++ flatE F := by simp [flatE]
    have l6 : x.vals.toList.length = 6 := by simp [Ent.vals]
    rw [e]
    by_cases h6 : j < 6
    · rw [List.getElem?_append_left (by omega)]
      have e1 : j / 6 = 0 := by omega
      have e2 : j % 6 = j := by omega
      unfold valAt
      rw [e1, e2, Array.getElem?_toList, vals_at x j h6]
      simp
    · rw [List.getElem?_append_right (by omega), l6, flatE_at F (j - 6) (by simp at h; omega)]
      unfold valAt
      have e1 : j / 6 = (j - 6) / 6 + 1 := by omega
      have e2 : j % 6 = (j - 6) % 6 := by omega
      rw [e1, e2]
      simp
def ApE (a b : Ent) : Prop := ∀ x, Uses a x → ∀ y, Uses b y → x ≠ y
/-- A slice of entries of the call's own, from block B on. -/
structure OT (w : World) (B : Nat) (v : Value) (F : List Ent) : Prop where
  own : w.ownsRow B 41 6 v F.length (flatE F)
  each : ∀ f ∈ F, NewE B w f
  far : ∀ f ∈ F, ∀ x, Uses f x → some x ≠ v.ownBlock
  diff : F.Pairwise ApE
theorem OT.nil (w : World) (B : Nat) : OT w B (.slice none 0 0) [] := ⟨World.ownsRow_nil w B 41 6, fun _ h => by simp at h, fun _ h => by simp at h, List.Pairwise.nil⟩
theorem OT.lt {w : World} {B : Nat} {v : Value} {F : List Ent} (h : OT w B v F) {f : Ent} (hf : f ∈ F) {x : Nat} (hx : Uses f x) : x < w.heap.size := (h.each f hf).wt.lt hx
theorem OT.keep {w w' : World} {B : Nat} {v : Value} {F : List Ent} (h : OT w B v F) (hk : ∀ x, x < w.heap.size → B ≤ x → w'.heap[x]? = w.heap[x]?) : OT w' B v F := by
  refine ⟨⟨h.own.1, ?_⟩, fun f hf => { h.each f hf with wt := (h.each f hf).wt.keep fun x hx hl => hk x hl ((h.each f hf).lo x hx) }, h.far, h.diff⟩
  rcases h.own.2 with ⟨e1, e2⟩ | ⟨g, cap, cur, e1, hb, hg, rest⟩
  · exact .inl ⟨e1, e2⟩
  · exact .inr ⟨g, cap, cur, e1, hb, (hk g (blk_lt hg) hb).trans hg, rest⟩
theorem OT.below {w w' : World} {B : Nat} {v : Value} {F : List Ent} (h : OT w B v F) (hb : Below w.heap.size w w') : OT w' B v F := h.keep fun x hx _ => hb.block x hx
theorem OT.mono {w : World} {B B' : Nat} {v : Value} {F : List Ent} (h : OT w B v F) (hB : B' ≤ B) : OT w B' v F := by
  refine ⟨⟨h.own.1, ?_⟩, fun f hf => { h.each f hf with lo := fun x hx => Nat.le_trans hB ((h.each f hf).lo x hx) }, h.far, h.diff⟩
  rcases h.own.2 with ⟨e1, e2⟩ | ⟨g, cap, cur, e1, hb, rest⟩
  · exact .inl ⟨e1, e2⟩
  · exact .inr ⟨g, cap, cur, e1, Nat.le_trans hB hb, rest⟩
theorem OT.row_lt {w : World} {B : Nat} {v : Value} {F : List Ent} (h : OT w B v F) {k : Nat} (hk : v.ownBlock = some k) : B ≤ k ∧ k < w.heap.size := by
  have := h.own.lt k (by simpa using hk)
  exact ⟨this.1, this.2⟩

/-- One more entry, at the end. -/
theorem OT.app {w0 w : World} {B lo T c : Nat} {v : Value} {F : List Ent} {f : Ent} (ty : TypeId) (h0 : OT w0 B v F) (hb : Below w0.heap.size w0 w) (hf : NewE lo w f) (hlo : w0.heap.size ≤ lo) (hB : B ≤ w0.heap.size)
    (hT : w.heap[T]? = some (.cells f.vals 41 (0, 0))) (hlen : F.length ≤ 100000) :
    ∃ v' w', (Builtin.append_ #[36, 36] ty #[v, .slice (some ⟨T, 0, none⟩) 1 c]).run Try.prog w = .ok v' w' ∧ OT w' B v' (F ++ [f]) ∧ w.grownBy w' v.ownBlock := by
  have h := h0.below hb
  obtain ⟨i, hi, hzz⟩ := Option.map_eq_some_iff.1 info41
  simp only [Prod.mk.injEq] at hzz
  obtain ⟨hz, hs, hby⟩ := hzz
  obtain ⟨v', w', r, h1, h2, h3, h4⟩ := run_append_own_at (P := Try.prog) (w := w) B 36 ty 41 i (.agg e0.vals) 6 96 Try.underlying36 hi hz hs hby rfl (by decide) v F.length (flatE F) h.own ⟨T, 0, none⟩ 1 c f.vals.toList (by simp [Ent.vals])
    (by
      intro j u hj
      rw [Yb.add_eq, Nat.zero_add]
      simp only [World.cell?, hT]
      rw [← Array.getElem?_toList]; exact hj)
    (by intro u hu; simp [Ent.vals] at hu; rcases hu with rfl | rfl | rfl | rfl | rfl | rfl <;> rfl) (by unfold maxLen; omega) (by omega) (Nat.le_trans hB hb.size)
  have nf : ∀ x, Uses f x → some x ≠ v.ownBlock := fun x hx e => by
    have := (h0.row_lt e.symm).2
    have := hf.lo x hx
    omega
  refine ⟨v', w', r, ⟨?_, ?_, ?_, ?_⟩, h2⟩
  · have e1 : flatE (F ++ [f]) = flatE F ++ f.vals.toList := by simp [flatE]
    rw [e1]; simpa using h1
  · intro g hg
    rcases List.mem_append.1 hg with hg | hg
    · exact { h.each g hg with wt := (h.each g hg).wt.keep fun x hx hl => h2.block x hl (h.far g hg x hx) }
    · obtain rfl := List.mem_singleton.1 hg
      exact { hf with wt := hf.wt.keep fun x hx hl => h2.block x hl (nf x hx), lo := fun x hx => by have := hf.lo x hx; omega }
  · intro g hg x hx
    have hx1 : some x ≠ v.ownBlock ∧ x < w.heap.size := by
      rcases List.mem_append.1 hg with hg | hg
      · exact ⟨h.far g hg x hx, h.lt hg hx⟩
      · obtain rfl := List.mem_singleton.1 hg
        exact ⟨nf x hx, hf.wt.lt hx⟩
    rcases h4 with h4 | h4
    · rw [h4]; exact hx1.1
    · rw [h4]; simp; omega
  · rw [List.pairwise_append]
    refine ⟨h.diff, List.pairwise_singleton _ _, fun a ha b hb' x hx y hy => ?_⟩
    obtain rfl := List.mem_singleton.1 hb'
    have := h0.lt ha hx
    have := hf.lo y hy
    omega

/-- What is known of such a slice. -/
structure Form (w : World) (B : Nat) (a : Option Addr) (g : Nat) (F : List Ent) : Prop where
  head : 0 < F.length → a = some ⟨g, 0, none⟩
  rd : Rd w a g 0 F
  wt : WtF w g F.length (at_ F)
  ap : ApF g F.length (at_ F)
  use : ∀ x, UseT g F.length (at_ F) x → B ≤ x ∧ x < w.heap.size
theorem OT.form {w : World} {B : Nat} {v : Value} {F : List Ent} (h : OT w B v F) (hs : F.length ≤ 4194304) : ∃ a g cap, v = .slice a F.length cap ∧ Form w B a g F ∧ F.length ≤ cap := by
  rcases h.own.2 with ⟨rfl, e⟩ | ⟨g, cap, cur, rfl, hb, hh, hn, _, hz, ht⟩
  · have : F = [] := List.eq_nil_of_length_eq_zero e
    subst this
    exact ⟨none, 0, 0, rfl, ⟨fun h => by simp at h, ⟨fun h => by simp at h, fun i h => by simp at h, fun i h => by simp at h, by simp⟩, ⟨fun j h => by simp at h, fun j h => by simp at h, fun i h => by simp at h⟩, ⟨fun i h => by simp at h, fun i h => by simp at h, fun i j h => by simp at h⟩, fun x hx => by simp [UseT] at hx⟩, Nat.le_refl _⟩
  · have cell : ∀ j, j < F.length * 6 → w.cell? ⟨g, j, none⟩ = some (valAt F j) := fun j hj => by
      have e : (cur.toList.take (F.length * 6))[j]? = (flatE F)[j]? := by rw [ht]
      rw [List.getElem?_take, if_pos hj, flatE_at F j hj] at e
      simp only [World.cell?, hh]
      rw [← Array.getElem?_toList]; exact e
    refine ⟨some ⟨g, 0, none⟩, g, cap, rfl, ⟨fun _ => rfl, ⟨fun _ => rfl, fun i hi j hj => ?_, fun i hi => (h.each _ (getD_mem hi)).ok, hs⟩, ⟨cell, fun j hj => by simp [World.frozen?, hh], fun i hi => (h.each _ (getD_mem hi)).wt⟩, ⟨fun i hi x hx e => ?_, fun i hi => (h.each _ (getD_mem hi)).own, fun i j hi hj hij x hx y hy => ?_⟩, fun x hx => ?_⟩, hn⟩
    · rw [← valAt_at F i j hj, Nat.zero_add]; exact cell _ (by omega)
    · exact h.far _ (getD_mem hi) x hx (by simp [Value.ownBlock, e])
    · have pa : ∀ i j, i < F.length → j < F.length → i < j → ApE (F.getD i e0) (F.getD j e0) := fun i j hi hj hij => by
        have := List.pairwise_iff_getElem.1 h.diff i j hi hj hij
        simpa [List.getD, hi, hj] using this
      rcases Nat.lt_or_ge i j with h1 | h1
      · exact pa i j hi hj h1 x hx y hy
      · exact fun e => pa j i hj hi (by omega) y hy x hx e.symm
    · rcases hx with ⟨_, rfl⟩ | ⟨i, hi, hu⟩
      · exact ⟨hb, blk_lt hh⟩
      · exact ⟨(h.each _ (getD_mem hi)).lo x hu, h.lt (getD_mem hi) hu⟩
theorem Form.below {w w' : World} {B : Nat} {a : Option Addr} {g : Nat} {F : List Ent} (h : Form w B a g F) (hb : Below w.heap.size w w') : Form w' B a g F := by
  refine ⟨h.head, h.rd.below hb, ⟨fun j hj => ?_, fun j hj => ?_, fun i hi => (h.wt.each i hi).below hb⟩, h.ap, fun x hx => ⟨(h.use x hx).1, Nat.lt_of_lt_of_le (h.use x hx).2 hb.size⟩⟩
  · exact (hb.cell (World.block_lt_of_cell? _ _ (h.wt.row j hj))).trans (h.wt.row j hj)
  · have e := hb.block g (World.block_lt_of_cell? _ _ (h.wt.row j hj))
    have := h.wt.free j hj
    simp only [World.frozen?, e] at this ⊢; exact this

end Go.Proofs.Ytcbgnfjnjfaacaa.Cp
namespace Go.Proofs.Ytcbgnfjnjfaacaa.Ra
set_option maxRecDepth 8000
set_option linter.unusedSimpArgs false
set_option linter.unusedVariables false
open Go Go.RowKit
open Num Pl Ea

def cmpI (a b : Int) : Int := if a < b then -1 else if b < a then 1 else 0
theorem isNaN_any (a : Int) (w : World) : Calls Try.prog 152 #[.int .i64 a] w fun e w' => e = .returned (.bool false) ∧ w' = w := by
  go_enter Try.func152, Try.ntmps152
  go_wp2
  go_ret
  exact ⟨ret_bool (by simp), rfl⟩
theorem cmp_any (a b : Int) (w : World) : Calls Try.prog 138 #[.int .i64 a, .int .i64 b] w fun e w' => e = .returned (.int .i64 (cmpI a b)) ∧ w' = w := by
  by_cases h1 : a < b
  · have e : cmpI a b = -1 := by simp [cmpI, h1]
    rw [e]
    go_enter Try.func138, Try.ntmps138
    go_wp2_with (go_at_call 152; refine (isNaN_any _ _).mono ?_; rintro e w1 ⟨rfl, hw⟩; replace hw := hw.symm; subst hw)
    go_ret
    exact ⟨rfl, rfl⟩
  · by_cases h2 : b < a
    · have e : cmpI a b = 1 := by simp [cmpI, h1, h2]
      rw [e]
      go_enter Try.func138, Try.ntmps138
      go_wp2_with (go_at_call 152; refine (isNaN_any _ _).mono ?_; rintro e w1 ⟨rfl, hw⟩; replace hw := hw.symm; subst hw)
      go_ret
      exact ⟨rfl, rfl⟩
    · have e : cmpI a b = 0 := by simp [cmpI, h1, h2]
      rw [e]
      go_enter Try.func138, Try.ntmps138
      go_wp2_with (go_at_call 152; refine (isNaN_any _ _).mono ?_; rintro e w1 ⟨rfl, hw⟩; replace hw := hw.symm; subst hw)
      go_ret
      exact ⟨rfl, rfl⟩
def orI (x y : Int) : Int := if x = 0 then y else x
theorem or_any (g c : Nat) (x y : Int) (w : World) (h0 : w.cell? ⟨g, 0, none⟩ = some (.int .i64 x)) (h1 : w.cell? ⟨g, 1, none⟩ = some (.int .i64 y)) :
    Calls Try.prog 137 #[.slice (some ⟨g, 0, none⟩) 2 c] w fun e w' => e = .returned (.int .i64 (orI x y)) ∧ w' = w := by
  by_cases hx : x = 0
  · subst hx
    have e : orI 0 y = y := by simp [orI]
    rw [e]
    by_cases hy : y = 0
    · subst hy
      go_enter Try.func137, Try.ntmps137
      go_wp2
      go_loop [8] (fun i => ∃ k : Nat, k ≤ 2 ∧ i = .int .i64 k) (fun i => 2 - (intOf i).toNat)
      case atStart => exact ⟨0, by omega, rfl⟩
      case round =>
        obtain ⟨k, hk, rfl⟩ := hrel
        by_cases k2 : k = 2
        · subst k2
          go_wp2
          go_ret
          exact ⟨rfl, rfl⟩
        · have hkz : (k : Int) < 2 := by omega
          have hc : w.cell? ⟨g, k, none⟩ = some (.int .i64 0) := by
            rcases (show k = 0 ∨ k = 1 by omega) with rfl | rfl
            · exact h0
            · exact h1
          go_wp2
          go_roundw
          case rel => exact ⟨k + 1, by omega, by go_num⟩
          case measure => simp [intOf]; omega
    · have hyn : (y != 0) = true := by simpa using hy
      go_enter Try.func137, Try.ntmps137
      go_wp2
      go_loop [8] (fun i => i = .int .i64 0 ∨ i = .int .i64 1) (fun i => 2 - (intOf i).toNat)
      case atStart => exact .inl rfl
      case round =>
        rcases hrel with rfl | rfl
        · go_wp2
          go_roundw
          case rel => exact .inr rfl
          case measure => simp [intOf]
        · go_wp2
          go_ret
          exact ⟨rfl, rfl⟩
  · have hxn : (x != 0) = true := by simpa using hx
    have e : orI x y = x := by simp [orI, hx]
    rw [e]
    go_enter Try.func137, Try.ntmps137
    go_wp2
    go_loop [8] (fun i => i = .int .i64 0) (fun i => 0)
    case atStart => rfl
    case round =>
      obtain rfl := hrel
      go_wp2
      go_ret
      exact ⟨rfl, rfl⟩

theorem or_new (x y : Int) (w : World) : Calls Try.prog 137 #[.slice (some ⟨w.heap.size, 0, none⟩) 2 2] (w.alloc (.cells #[.int .i64 x, .int .i64 y] 3)).drew fun e w' => e = .returned (.int .i64 (orI x y)) ∧ Below w.heap.size w w' := by
  have k : (w.alloc (.cells #[.int .i64 x, .int .i64 y] 3)).drew.heap[w.heap.size]? = some (.cells #[.int .i64 x, .int .i64 y] 3 (0, 0)) := at_new rfl
  refine (or_any _ _ _ _ _ (Pm.two k).1 (Pm.two k).2).mono ?_
  rintro e w' ⟨rfl, rfl⟩
  exact ⟨rfl, (below_alloc1 _ _).drew⟩
/-- The rank of an entry against another's. -/
def rk (a b : Ent) : Int := orI (cmpI a.ep b.ep) (cmpI b.pr a.pr)

set_option maxHeartbeats 4000000 in
theorem rank_any (a b : Ent) (w : World) : Calls Try.prog 94 #[.agg a.vals, .agg b.vals] w fun e w' => e = .returned (.int .i64 (rk a b)) ∧ Below w.heap.size w w' := by
  obtain ⟨W1, hW1⟩ : ∃ W1, W1 = (w.alloc (.cells a.vals 41)).alloc (.cells b.vals 41) := ⟨_, rfl⟩
  have B1 : Below w.heap.size w W1 := by subst hW1; exact Rw.next (below_alloc1 _ _) (below_alloc1 _ _)
  have k0 : W1.heap[w.heap.size]? = some (.cells #[.int .i64 a.ep, .int .i64 a.pr, .slice a.aV a.V.length a.cV, .slice a.aM a.M.length a.cM, .slice a.aA a.A.length a.cA, .int .i64 a.h] 41 (0, 0)) := by subst hW1; rw [at_old (by simp), at_new rfl]; rfl
  have k1 : W1.heap[w.heap.size + 1]? = some (.cells #[.int .i64 b.ep, .int .i64 b.pr, .slice b.aV b.V.length b.cV, .slice b.aM b.M.length b.cM, .slice b.aA b.A.length b.cA, .int .i64 b.h] 41 (0, 0)) := by subst hW1; rw [at_new (by simp)]; rfl
  simp only [ent_vals] at hW1 ⊢
  unfold rk
  obtain ⟨p0, p1, p2, p3, p4, p5⟩ := six k0
  obtain ⟨q0, q1, q2, q3, q4, q5⟩ := six k1
  go_enter Try.func94, Try.ntmps94
  go_wp2
  rw [← hW1]
  clear hW1
  go_region_held3 (fun w' => w'.cell? ⟨w.heap.size, 0, none⟩ = some (.int .i64 a.ep) ∧ w'.cell? ⟨w.heap.size, 1, none⟩ = some (.int .i64 a.pr) ∧ w'.cell? ⟨w.heap.size, 2, none⟩ = some (.slice a.aV a.V.length a.cV) ∧ w'.cell? ⟨w.heap.size, 3, none⟩ = some (.slice a.aM a.M.length a.cM) ∧ w'.cell? ⟨w.heap.size, 4, none⟩ = some (.slice a.aA a.A.length a.cA) ∧ w'.cell? ⟨w.heap.size, 5, none⟩ = some (.int .i64 a.h) ∧ w'.cell? ⟨w.heap.size + 1, 0, none⟩ = some (.int .i64 b.ep) ∧ w'.cell? ⟨w.heap.size + 1, 1, none⟩ = some (.int .i64 b.pr) ∧ w'.cell? ⟨w.heap.size + 1, 2, none⟩ = some (.slice b.aV b.V.length b.cV) ∧ w'.cell? ⟨w.heap.size + 1, 3, none⟩ = some (.slice b.aM b.M.length b.cM) ∧ w'.cell? ⟨w.heap.size + 1, 4, none⟩ = some (.slice b.aA b.A.length b.cA) ∧ w'.cell? ⟨w.heap.size + 1, 5, none⟩ = some (.int .i64 b.h)) (go_keep) (first
    | (go_at_call 138; refine (cmp_any _ _ _).mono ?_; rintro e w1 ⟨rfl, rfl⟩)
    | (go_at_call 137; refine (or_new _ _ _).mono ?_; rintro e w1 ⟨rfl, hb⟩; clear p0 p1 p2 p3 p4 p5 q0 q1 q2 q3 q4 q5; replace B1 := Rw.next B1 hb; replace k0 := (hb.block _ (blk_lt k0)).trans k0; replace k1 := (hb.block _ (blk_lt k1)).trans k1; obtain ⟨p0, p1, p2, p3, p4, p5⟩ := six k0; obtain ⟨q0, q1, q2, q3, q4, q5⟩ := six k1))
  go_wp2
  go_ret
  exact ⟨rfl, B1⟩

end Go.Proofs.Ytcbgnfjnjfaacaa.Ra
namespace Go.Proofs.Ytcbgnfjnjfaacaa.Ra
set_option maxRecDepth 8000
set_option linter.unusedSimpArgs false
set_option linter.unusedVariables false
open Go Go.RowKit
open Num Pl Ea

/-- r is the first place below n at which p holds, or -1. -/
def Fst (p : Nat → Bool) (n : Nat) (r : Int) : Prop := (r = -1 ∧ ∀ k, k < n → p k = false) ∨ ∃ k : Nat, r = k ∧ k < n ∧ p k = true ∧ ∀ j, j < k → p j = false
/-- Does p hold somewhere below n? -/
def anyB (p : Nat → Bool) : Nat → Bool
  | 0 => false
  | n + 1 => anyB p n || p n
theorem anyB_no {p : Nat → Bool} {n : Nat} (h : ∀ k, k < n → p k = false) : anyB p n = false := by
  induction n with
  | zero => rfl
  | succ n ih => simp [anyB, ih (fun k hk => h k (by omega)), h n (by omega)]
theorem anyB_yes {p : Nat → Bool} {n k : Nat} (hk : k < n) (h : p k = true) : anyB p n = true := by
  induction n with
  | zero => omega
  | succ n ih =>
    by_cases e : k = n
    · subst e; simp [anyB, h]
    · simp [anyB, ih (by omega)]
theorem anyB_iff {p : Nat → Bool} {n : Nat} : anyB p n = true ↔ ∃ k, k < n ∧ p k = true := by
  constructor
  · intro h
    apply Classical.byContradiction
    intro hn
    rw [anyB_no (fun k hk => by cases e : p k; rfl; exact absurd ⟨k, hk, e⟩ hn)] at h
    cases h
  · rintro ⟨k, hk, h⟩
    exact anyB_yes hk h
theorem Fst.any {p : Nat → Bool} {n : Nat} {r : Int} (h : Fst p n r) : decide (0 ≤ r) = anyB p n := by
  rcases h with ⟨rfl, h⟩ | ⟨k, rfl, hk, h, _⟩
  · rw [anyB_no h]; rfl
  · rw [anyB_yes hk h]; exact decide_eq_true (by omega)

/-- What the closure 136 tells of each entry. -/
def Tells136 (Q : List Ent) (w : World) (p : Nat → Bool) : Prop := ∀ k, k < Q.length → ∀ W, Below w.heap.size w W → Calls Try.prog 136 #[.agg #[.int .i64 (Q.getD k e0).ep, .int .i64 (Q.getD k e0).pr, .slice (Q.getD k e0).aV (Q.getD k e0).V.length (Q.getD k e0).cV, .slice (Q.getD k e0).aM (Q.getD k e0).M.length (Q.getD k e0).cM, .slice (Q.getD k e0).aA (Q.getD k e0).A.length (Q.getD k e0).cA, .int .i64 (Q.getD k e0).h]] W fun e w' => e = .returned (.bool (p k)) ∧ Below W.heap.size W w'
set_option maxHeartbeats 2000000 in
theorem index136 (a : Option Addr) (b off cap : Nat) (Q : List Ent) (p : Nat → Bool) (w : World) (h : Rd w a b off Q) (hP : Tells136 Q w p) :
    Calls Try.prog 98 #[.slice a Q.length cap, .func (.func 136) #[] #[]] w fun e w' => Below w.heap.size w w' ∧ ∃ r : Int, e = .returned (.int .i64 r) ∧ Fst p Q.length r := by
  obtain ⟨hh, hc, ho, hs⟩ := h
  unfold Tells136 at hP
  obtain ⟨n, hn⟩ : ∃ n, n = Q.length := ⟨_, rfl⟩
  rw [← hn] at hh hc hs hP ⊢
  clear hn ho
  go_enter Try.func98, Try.ntmps98
  go_wp2
  go_loopw [8] (fun i wr => ∃ k : Nat, k ≤ n ∧ i = .int .i64 k ∧ Below w.heap.size w wr ∧ ∀ i, i < k → p i = false) (fun i _ => n - (intOf i).toNat)
  case atStart => exact ⟨0, Nat.zero_le _, rfl, Below.refl _ _, fun i hi => by omega⟩
  case round =>
    obtain ⟨k, hk, rfl, hbel, hpre⟩ := hrel
    have HP : Hid (∀ i, i < k → p i = false) := hpre
    clear hpre
    by_cases hlt : k < n
    · obtain rfl := hh (by omega)
      have hkz : (k : Int) < (n : Int) := by omega
      obtain ⟨c0, c1, c2, c3, c4, c5⟩ := ((hc k hlt).of hbel (At6.lt (hc k hlt))).six
      have hcall := hP k hlt wr hbel
      clear hc hh hP
      generalize Q.getD k e0 = x at *
      cases hq : p k
      · have HQ : Hid (p k = false) := hq
        rw [hq] at hcall
        clear hq
        go_wp2_with (go_at_call 136; refine hcall.mono ?_; rintro e w1 ⟨rfl, hb⟩)
        go_roundw
        case rel => exact ⟨k + 1, by omega, by go_num, Rw.next hbel hb, fun i hi => by
          by_cases e : i = k
          · subst e; exact HQ.out
          · exact HP.out i (by omega)⟩
        case measure => simp [intOf]; omega
      · have HQ : Hid (p k = true) := hq
        rw [hq] at hcall
        clear hq
        go_wp2_with (go_at_call 136; refine hcall.mono ?_; rintro e w1 ⟨rfl, hb⟩)
        go_ret
        exact ⟨Rw.next hbel hb, _, rfl, .inr ⟨k, rfl, hlt, HQ.out, HP.out⟩⟩
    · have he : k = n := by omega
      subst he
      go_wp2
      go_ret
      exact ⟨hbel, _, rfl, .inl ⟨rfl, HP.out⟩⟩

theorem contains136 (a : Option Addr) (b off cap : Nat) (Q : List Ent) (p : Nat → Bool) (w : World) (h : Rd w a b off Q) (hP : Tells136 Q w p) :
    Calls Try.prog 101 #[.slice a Q.length cap, .func (.func 136) #[] #[]] w fun e w' => e = .returned (.bool (anyB p Q.length)) ∧ Below w.heap.size w w' := by
  generalize hR : anyB p Q.length = R
  have HR : Hid (anyB p Q.length = R) := hR
  clear hR
  go_enter Try.func101, Try.ntmps101
  go_wp2_with (go_at_call 98; refine (index136 _ _ _ _ Q p _ h hP).mono ?_; rintro e w1 ⟨hb, r, rfl, hr⟩; replace hr := hr.any; rw [HR.out] at hr)
  go_ret
  exact ⟨ret_bool (by first | exact hr | rfl | simp), hb⟩

/-- What the closure 99 tells of each entry. -/
def Tells99 (g0 : Nat) (g1 : Nat) (Q : List Ent) (w : World) (p : Nat → Bool) : Prop := ∀ k, k < Q.length → ∀ W, Below w.heap.size w W → Calls Try.prog 99 #[.agg #[.int .i64 (Q.getD k e0).ep, .int .i64 (Q.getD k e0).pr, .slice (Q.getD k e0).aV (Q.getD k e0).V.length (Q.getD k e0).cV, .slice (Q.getD k e0).aM (Q.getD k e0).M.length (Q.getD k e0).cM, .slice (Q.getD k e0).aA (Q.getD k e0).A.length (Q.getD k e0).cA, .int .i64 (Q.getD k e0).h], .pointer (some ⟨g0, 0, none⟩), .pointer (some ⟨g1, 0, none⟩)] W fun e w' => e = .returned (.bool (p k)) ∧ Below W.heap.size W w'
set_option maxHeartbeats 2000000 in
theorem index99 (a : Option Addr) (b off cap : Nat) (g0 : Nat) (g1 : Nat) (Q : List Ent) (p : Nat → Bool) (w : World) (h : Rd w a b off Q) (hP : Tells99 g0 g1 Q w p) :
    Calls Try.prog 98 #[.slice a Q.length cap, .func (.func 99) #[] #[.pointer (some ⟨g0, 0, none⟩), .pointer (some ⟨g1, 0, none⟩)]] w fun e w' => Below w.heap.size w w' ∧ ∃ r : Int, e = .returned (.int .i64 r) ∧ Fst p Q.length r := by
  obtain ⟨hh, hc, ho, hs⟩ := h
  unfold Tells99 at hP
  obtain ⟨n, hn⟩ : ∃ n, n = Q.length := ⟨_, rfl⟩
  rw [← hn] at hh hc hs hP ⊢
  clear hn ho
  go_enter Try.func98, Try.ntmps98
  go_wp2
  go_loopw [8] (fun i wr => ∃ k : Nat, k ≤ n ∧ i = .int .i64 k ∧ Below w.heap.size w wr ∧ ∀ i, i < k → p i = false) (fun i _ => n - (intOf i).toNat)
  case atStart => exact ⟨0, Nat.zero_le _, rfl, Below.refl _ _, fun i hi => by omega⟩
  case round =>
    obtain ⟨k, hk, rfl, hbel, hpre⟩ := hrel
    have HP : Hid (∀ i, i < k → p i = false) := hpre
    clear hpre
    by_cases hlt : k < n
    · obtain rfl := hh (by omega)
      have hkz : (k : Int) < (n : Int) := by omega
      obtain ⟨c0, c1, c2, c3, c4, c5⟩ := ((hc k hlt).of hbel (At6.lt (hc k hlt))).six
      have hcall := hP k hlt wr hbel
      clear hc hh hP
      generalize Q.getD k e0 = x at *
      cases hq : p k
      · have HQ : Hid (p k = false) := hq
        rw [hq] at hcall
        clear hq
        go_wp2_with (go_at_call 99; refine hcall.mono ?_; rintro e w1 ⟨rfl, hb⟩)
        go_roundw
        case rel => exact ⟨k + 1, by omega, by go_num, Rw.next hbel hb, fun i hi => by
          by_cases e : i = k
          · subst e; exact HQ.out
          · exact HP.out i (by omega)⟩
        case measure => simp [intOf]; omega
      · have HQ : Hid (p k = true) := hq
        rw [hq] at hcall
        clear hq
        go_wp2_with (go_at_call 99; refine hcall.mono ?_; rintro e w1 ⟨rfl, hb⟩)
        go_ret
        exact ⟨Rw.next hbel hb, _, rfl, .inr ⟨k, rfl, hlt, HQ.out, HP.out⟩⟩
    · have he : k = n := by omega
      subst he
      go_wp2
      go_ret
      exact ⟨hbel, _, rfl, .inl ⟨rfl, HP.out⟩⟩

/-- What the closure 100 tells of each entry. -/
def Tells100 (g0 : Nat) (Q : List Ent) (w : World) (p : Nat → Bool) : Prop := ∀ k, k < Q.length → ∀ W, Below w.heap.size w W → Calls Try.prog 100 #[.agg #[.int .i64 (Q.getD k e0).ep, .int .i64 (Q.getD k e0).pr, .slice (Q.getD k e0).aV (Q.getD k e0).V.length (Q.getD k e0).cV, .slice (Q.getD k e0).aM (Q.getD k e0).M.length (Q.getD k e0).cM, .slice (Q.getD k e0).aA (Q.getD k e0).A.length (Q.getD k e0).cA, .int .i64 (Q.getD k e0).h], .pointer (some ⟨g0, 0, none⟩)] W fun e w' => e = .returned (.bool (p k)) ∧ Below W.heap.size W w'
set_option maxHeartbeats 2000000 in
theorem index100 (a : Option Addr) (b off cap : Nat) (g0 : Nat) (Q : List Ent) (p : Nat → Bool) (w : World) (h : Rd w a b off Q) (hP : Tells100 g0 Q w p) :
    Calls Try.prog 98 #[.slice a Q.length cap, .func (.func 100) #[] #[.pointer (some ⟨g0, 0, none⟩)]] w fun e w' => Below w.heap.size w w' ∧ ∃ r : Int, e = .returned (.int .i64 r) ∧ Fst p Q.length r := by
  obtain ⟨hh, hc, ho, hs⟩ := h
  unfold Tells100 at hP
  obtain ⟨n, hn⟩ : ∃ n, n = Q.length := ⟨_, rfl⟩
  rw [← hn] at hh hc hs hP ⊢
  clear hn ho
  go_enter Try.func98, Try.ntmps98
  go_wp2
  go_loopw [8] (fun i wr => ∃ k : Nat, k ≤ n ∧ i = .int .i64 k ∧ Below w.heap.size w wr ∧ ∀ i, i < k → p i = false) (fun i _ => n - (intOf i).toNat)
  case atStart => exact ⟨0, Nat.zero_le _, rfl, Below.refl _ _, fun i hi => by omega⟩
  case round =>
    obtain ⟨k, hk, rfl, hbel, hpre⟩ := hrel
    have HP : Hid (∀ i, i < k → p i = false) := hpre
    clear hpre
    by_cases hlt : k < n
    · obtain rfl := hh (by omega)
      have hkz : (k : Int) < (n : Int) := by omega
      obtain ⟨c0, c1, c2, c3, c4, c5⟩ := ((hc k hlt).of hbel (At6.lt (hc k hlt))).six
      have hcall := hP k hlt wr hbel
      clear hc hh hP
      generalize Q.getD k e0 = x at *
      cases hq : p k
      · have HQ : Hid (p k = false) := hq
        rw [hq] at hcall
        clear hq
        go_wp2_with (go_at_call 100; refine hcall.mono ?_; rintro e w1 ⟨rfl, hb⟩)
        go_roundw
        case rel => exact ⟨k + 1, by omega, by go_num, Rw.next hbel hb, fun i hi => by
          by_cases e : i = k
          · subst e; exact HQ.out
          · exact HP.out i (by omega)⟩
        case measure => simp [intOf]; omega
      · have HQ : Hid (p k = true) := hq
        rw [hq] at hcall
        clear hq
        go_wp2_with (go_at_call 100; refine hcall.mono ?_; rintro e w1 ⟨rfl, hb⟩)
        go_ret
        exact ⟨Rw.next hbel hb, _, rfl, .inr ⟨k, rfl, hlt, HQ.out, HP.out⟩⟩
    · have he : k = n := by omega
      subst he
      go_wp2
      go_ret
      exact ⟨hbel, _, rfl, .inl ⟨rfl, HP.out⟩⟩

theorem contains100 (a : Option Addr) (b off cap : Nat) (g0 : Nat) (Q : List Ent) (p : Nat → Bool) (w : World) (h : Rd w a b off Q) (hP : Tells100 g0 Q w p) :
    Calls Try.prog 101 #[.slice a Q.length cap, .func (.func 100) #[] #[.pointer (some ⟨g0, 0, none⟩)]] w fun e w' => e = .returned (.bool (anyB p Q.length)) ∧ Below w.heap.size w w' := by
  generalize hR : anyB p Q.length = R
  have HR : Hid (anyB p Q.length = R) := hR
  clear hR
  go_enter Try.func101, Try.ntmps101
  go_wp2_with (go_at_call 98; refine (index100 _ _ _ _ _ Q p _ h hP).mono ?_; rintro e w1 ⟨hb, r, rfl, hr⟩; replace hr := hr.any; rw [HR.out] at hr)
  go_ret
  exact ⟨ret_bool (by first | exact hr | rfl | simp), hb⟩

end Go.Proofs.Ytcbgnfjnjfaacaa.Ra
namespace Go.Proofs.Ytcbgnfjnjfaacaa.Ra
set_option maxRecDepth 8000
set_option linter.unusedSimpArgs false
set_option linter.unusedVariables false
open Go Go.RowKit
open Num Pl Ea Pq

theorem callV2 {md : Region.Mode} {ops : Array Oper} {Q : Exit → Act → World → Prop} {S : World → Prop} {fuel : Nat} {listed : Array Bool} {a : Act} {w : World} {i : Nat} {o : Oper} {rs : List Nat} (hi : ops[i]? = some o) (hw : Region.wanted o (yielded ops a.tmps) = true)
    (f : FuncId) (z x y : Operand) (t t' : TypeId) (hop : o.op = Op.call { callee := Callee.value z, args := #[x, y], argTypes := #[t, t'] }) (d : Tmp) (hd : o.dst = some d) (hz : a.eval z = .func (.func f) #[] #[])
    (u u' : Value) (hx : a.eval x = u) (hy : a.eval y = u') (he : ∀ w, (callFunc f #[u, u']).run Try.prog w = .ok (.enter f #[u, u']) w) {R : Ending → World → Prop} (hc : Calls Try.prog f #[u, u'] w R)
    (hk : ∀ e w', R e w' → ∃ v, e = .returned v ∧ S w' ∧ (S w' → wpAnyH Try.prog md ops Q S fuel (listed.setIfInBounds i true) (a.put (some d) v) w'))
    (hs : AllReadyH Try.prog md ops Q S fuel listed a w rs) : AllReadyH Try.prog md ops Q S fuel listed a w (i :: rs) :=
  AllReadyH.cons hi (fun K hK => by
    rw [if_pos hw]
    unfold Oper.wp
    simp [execOp, hop, resolve, invoke, hx, hy, hz, Deferred.ofValue, he w]
    refine hc.mono ?_
    intro e w' hr
    obtain ⟨v, rfl, h1, h2⟩ := hk e w' hr
    exact hK.out _ _ h1 (fun hs' => by rw [hd]; exact h2 hs')) hs
theorem drew_cell {w : World} {a : Addr} : w.drew.cell? a = w.cell? a := rfl

/-- Is each entry not ahead of the one before it? -/
def sortB (Q : List Ent) : Nat → Bool
  | 0 => true
  | k + 1 => sortB Q k && !decide (rk (Q.getD (k + 1) e0) (Q.getD k e0) < 0)
theorem sortB_iff {Q : List Ent} {n : Nat} : sortB Q n = true ↔ ∀ i, i < n → ¬ rk (Q.getD (i + 1) e0) (Q.getD i e0) < 0 := by
  induction n with
  | zero => simp [sortB]
  | succ n ih =>
    simp only [sortB, Bool.and_eq_true, ih, Bool.not_eq_true', decide_eq_false_iff_not]
    constructor
    · rintro ⟨h1, h2⟩ i hi
      by_cases e : i = n
      · subst e; exact h2
      · exact h1 i (by omega)
    · intro h
      exact ⟨fun i hi => h i (by omega), h n (by omega)⟩
theorem sortB_no {Q : List Ent} {n i : Nat} (hi : i < n) (h : rk (Q.getD (i + 1) e0) (Q.getD i e0) < 0) : sortB Q n = false := by
  cases e : sortB Q n
  · rfl
  · exact absurd h (sortB_iff.1 e i hi)

set_option maxHeartbeats 4000000 in
theorem sorted_any (a : Option Addr) (b off cap : Nat) (Q : List Ent) (w : World) (h : Rd w a b off Q) :
    Calls Try.prog 93 #[.slice a Q.length cap, .func (.func 94) #[] #[]] w fun e w' => e = .returned (.bool (sortB Q (Q.length - 1))) ∧ Below w.heap.size w w' := by
  obtain ⟨hh, hc, ho, hs⟩ := h
  clear ho
  rcases Nat.eq_zero_or_pos Q.length with h0 | h0
  · rw [h0]
    go_enter Try.func93, Try.ntmps93
    go_wp2
    go_loop [5] (fun i => i = .int .i64 (-1)) (fun i => 0)
    case atStart => first | rfl | simp
    case round =>
      obtain rfl := hrel
      go_wp2
      go_ret
      exact ⟨rfl, Below.refl _ _⟩
  obtain ⟨m, hm⟩ : ∃ m, Q.length = m + 1 := ⟨Q.length - 1, by omega⟩
  have em : Q.length - 1 = m := by omega
  rw [em]
  obtain ⟨n, hn⟩ : ∃ n, n = Q.length := ⟨_, rfl⟩
  rw [← hn] at hh hc hs hm h0 ⊢
  have hz : (n : Int) - 1 = (m : Int) := by omega
  have HM : Hid (n = m + 1) := hm
  clear em hn hm
  obtain rfl := hh h0
  clear hh h0
  go_enter Try.func93, Try.ntmps93
  go_wp2
  clear hz
  go_loopw [5] (fun i wr => ∃ k : Nat, k ≤ m ∧ i = .int .i64 k ∧ Below w.heap.size w wr ∧ ∀ i, k ≤ i → i < m → ¬ rk (Q.getD (i + 1) e0) (Q.getD i e0) < 0) (fun i _ => (intOf i).toNat)
  case atStart => exact ⟨m, Nat.le_refl _, by first | rfl | go_num, Below.refl _ _, fun i h1 h2 => by omega⟩
  case round =>
    obtain ⟨k, hk, rfl, hbel, hpre⟩ := hrel
    have HP : Hid (∀ i, k ≤ i → i < m → ¬ rk (Q.getD (i + 1) e0) (Q.getD i e0) < 0) := hpre
    clear hpre
    rcases Nat.eq_zero_or_pos k with rfl | hk0
    · go_wp2
      go_ret
      exact ⟨ret_bool (by symm; rw [sortB_iff]; exact fun i hi => by have := HP.out i (by omega) hi; omega), hbel⟩
    · obtain ⟨j, hj⟩ : ∃ j, k = j + 1 := ⟨k - 1, by omega⟩
      have hm := HM.out
      obtain ⟨c0, c1, c2, c3, c4, c5⟩ := ((hc k (by omega)).of hbel (At6.lt (hc k (by omega)))).six
      obtain ⟨d0, d1, d2, d3, d4, d5⟩ := ((hc j (by omega)).of hbel (At6.lt (hc j (by omega)))).six
      have bl : b < wr.heap.size := World.block_lt_of_cell? _ _ c0
      clear hc
      have hkz : (0 : Int) < (k : Int) := by omega
      have hj1 : (k : Int) - 1 = (j : Int) := by omega
      have hlt1 : (k : Int) < (n : Int) := by omega
      have hlt2 : (j : Int) < (n : Int) := by omega
      have hwj : IntKind.i64.wrap (j : Int) = (j : Int) := by rw [IntKind.wrap_i64]; omega
      have hkn : k < n := by omega
      have hjn : j < n := by omega
      generalize hx : Q.getD k e0 = x at *
      generalize hy : Q.getD j e0 = y at *
      have HX : Hid (Q.getD (j + 1) e0 = x) := by rw [← hj]; exact hx
      have HY : Hid (Q.getD j e0 = y) := hy
      have HJ : Hid (k = j + 1) := hj
      clear hx hy hj hm
      have hcall := rank_any x y
      simp only [ent_vals] at hcall
      by_cases hr : rk x y < 0
      · have HR : Hid (rk x y < 0) := hr
        generalize rk x y = r at hr hcall
        go_wp2
        refine wp_region_held_drew (S := (fun w' => w'.cell? ⟨b, off + k * 6, none⟩ = some (.int .i64 x.ep) ∧ w'.cell? ⟨b, off + k * 6 + 1, none⟩ = some (.int .i64 x.pr) ∧ w'.cell? ⟨b, off + k * 6 + 2, none⟩ = some (.slice x.aV x.V.length x.cV) ∧ w'.cell? ⟨b, off + k * 6 + 3, none⟩ = some (.slice x.aM x.M.length x.cM) ∧ w'.cell? ⟨b, off + k * 6 + 4, none⟩ = some (.slice x.aA x.A.length x.cA) ∧ w'.cell? ⟨b, off + k * 6 + 5, none⟩ = some (.int .i64 x.h) ∧ w'.cell? ⟨b, off + j * 6, none⟩ = some (.int .i64 y.ep) ∧ w'.cell? ⟨b, off + j * 6 + 1, none⟩ = some (.int .i64 y.pr) ∧ w'.cell? ⟨b, off + j * 6 + 2, none⟩ = some (.slice y.aV y.V.length y.cV) ∧ w'.cell? ⟨b, off + j * 6 + 3, none⟩ = some (.slice y.aM y.M.length y.cM) ∧ w'.cell? ⟨b, off + j * 6 + 4, none⟩ = some (.slice y.aA y.A.length y.cA) ∧ w'.cell? ⟨b, off + j * 6 + 5, none⟩ = some (.int .i64 y.h))) (by kernel_rfl) ⟨c0, c1, c2, c3, c4, c5, d0, d1, d2, d3, d4, d5⟩ (fun hHeld => ?_)
        refine take (i := 0) (d := some 13) (v := .func (.func 94) #[] #[]) rfl (by kernel_rfl) (by kernel_rfl) (by kernel_rfl) (by kernel_rfl) (fun _ _ _ h => h) (Or.inl ⟨by rfl, by intro w hSw; go_simp⟩) hHeld ?_
        simp only [Act.put, List.setIfInBounds_toArray, List.set_cons_zero, List.set_cons_succ]
        refine take (i := 1) (d := some 14) (v := .slice (some ⟨b, off, none⟩) n cap) rfl (by kernel_rfl) (by kernel_rfl) (by kernel_rfl) (by kernel_rfl) (fun _ _ _ h => h) (Or.inl ⟨by rfl, by intro w hSw; go_simp⟩) hHeld ?_
        simp only [Act.put, List.setIfInBounds_toArray, List.set_cons_zero, List.set_cons_succ]
        refine take (i := 2) (d := some 15) (v := .int .i64 k) rfl (by kernel_rfl) (by kernel_rfl) (by kernel_rfl) (by kernel_rfl) (fun _ _ _ h => h) (Or.inl ⟨by rfl, by intro w hSw; go_simp⟩) hHeld ?_
        simp only [Act.put, List.setIfInBounds_toArray, List.set_cons_zero, List.set_cons_succ]
        refine take (i := 3) (d := some 16) (v := .pointer (some ⟨b, off + k * 6, none⟩)) rfl (by kernel_rfl) (by kernel_rfl) (by kernel_rfl) (by kernel_rfl) (fun _ _ _ h => h) (Or.inl ⟨by rfl, by intro w hSw; go_simp⟩) hHeld ?_
        simp only [Act.put, List.setIfInBounds_toArray, List.set_cons_zero, List.set_cons_succ]
        refine take (i := 4) (d := some 17) (v := .agg #[.int .i64 x.ep, .int .i64 x.pr, .slice x.aV x.V.length x.cV, .slice x.aM x.M.length x.cM, .slice x.aA x.A.length x.cA, .int .i64 x.h]) rfl (by kernel_rfl) (by kernel_rfl) (by kernel_rfl) (by kernel_rfl) (fun _ _ _ h => h) (Or.inl ⟨by rfl, by intro w hSw; obtain ⟨c0, c1, c2, c3, c4, c5, d0, d1, d2, d3, d4, d5⟩ := hSw; go_simp⟩) hHeld ?_
        simp only [Act.put, List.setIfInBounds_toArray, List.set_cons_zero, List.set_cons_succ]
        refine take (i := 5) (d := some 18) (v := .slice (some ⟨b, off, none⟩) n cap) rfl (by kernel_rfl) (by kernel_rfl) (by kernel_rfl) (by kernel_rfl) (fun _ _ _ h => h) (Or.inl ⟨by rfl, by intro w hSw; go_simp⟩) hHeld ?_
        simp only [Act.put, List.setIfInBounds_toArray, List.set_cons_zero, List.set_cons_succ]
        refine take (i := 6) (d := some 19) (v := .int .i64 k) rfl (by kernel_rfl) (by kernel_rfl) (by kernel_rfl) (by kernel_rfl) (fun _ _ _ h => h) (Or.inl ⟨by rfl, by intro w hSw; go_simp⟩) hHeld ?_
        simp only [Act.put, List.setIfInBounds_toArray, List.set_cons_zero, List.set_cons_succ]
        refine take (i := 7) (d := some 20) (v := .int .i64 j) rfl (by kernel_rfl) (by kernel_rfl) (by kernel_rfl) (by kernel_rfl) (fun _ _ _ h => h) (Or.inl ⟨by rfl, by intro w hSw; go_simp⟩) hHeld ?_
        simp only [Act.put, List.setIfInBounds_toArray, List.set_cons_zero, List.set_cons_succ]
        refine take (i := 8) (d := some 21) (v := .pointer (some ⟨b, off + j * 6, none⟩)) rfl (by kernel_rfl) (by kernel_rfl) (by kernel_rfl) (by kernel_rfl) (fun _ _ _ h => h) (Or.inl ⟨by rfl, by intro w hSw; go_simp⟩) hHeld ?_
        simp only [Act.put, List.setIfInBounds_toArray, List.set_cons_zero, List.set_cons_succ]
        refine take (i := 9) (d := some 22) (v := .agg #[.int .i64 y.ep, .int .i64 y.pr, .slice y.aV y.V.length y.cV, .slice y.aM y.M.length y.cM, .slice y.aA y.A.length y.cA, .int .i64 y.h]) rfl (by kernel_rfl) (by kernel_rfl) (by kernel_rfl) (by kernel_rfl) (fun _ _ _ h => h) (Or.inl ⟨by rfl, by intro w hSw; obtain ⟨c0, c1, c2, c3, c4, c5, d0, d1, d2, d3, d4, d5⟩ := hSw; go_simp⟩) hHeld ?_
        simp only [Act.put, List.setIfInBounds_toArray, List.set_cons_zero, List.set_cons_succ]
        refine wpAnyH_ready (rs := [10]) (by kernel_rfl) (by simp) (callV2 (i := 10) rfl (by rfl) 94 (.tmp 13) (.tmp 17) (.tmp 22) 41 41 (by kernel_rfl) 23 (by kernel_rfl) rfl _ _ (by kernel_rfl) (by kernel_rfl) (fun _ => rfl) (hcall _) ?_ AllReadyH.nil)
        rintro e w1 ⟨rfl, hb⟩
        refine ⟨_, rfl, ⟨(hb.cell (by exact bl)).trans c0, (hb.cell (by exact bl)).trans c1, (hb.cell (by exact bl)).trans c2, (hb.cell (by exact bl)).trans c3, (hb.cell (by exact bl)).trans c4, (hb.cell (by exact bl)).trans c5, (hb.cell (by exact bl)).trans d0, (hb.cell (by exact bl)).trans d1, (hb.cell (by exact bl)).trans d2, (hb.cell (by exact bl)).trans d3, (hb.cell (by exact bl)).trans d4, (hb.cell (by exact bl)).trans d5⟩, fun hHeld => ?_⟩
        simp only [Act.put, List.setIfInBounds_toArray, List.set_cons_zero, List.set_cons_succ]
        refine take (i := 11) (d := some 24) (v := .bool true) rfl (by kernel_rfl) (by kernel_rfl) (by kernel_rfl) (by kernel_rfl) (fun _ _ _ h => h) (Or.inl ⟨by rfl, by intro w hSw; go_simp⟩) hHeld ?_
        simp only [Act.put, List.setIfInBounds_toArray, List.set_cons_zero, List.set_cons_succ]
        refine wpAnyH_done (by kernel_rfl) ?_ _
        go_wp2
        go_ret
        exact ⟨ret_bool (by symm; exact sortB_no (i := j) (by have := HJ.out; omega) (by rw [HX.out, HY.out]; exact HR.out)), Rw.next (by repeat (first | exact hbel | apply Below.drew)) hb⟩
      · have HR : Hid (¬ rk x y < 0) := hr
        generalize rk x y = r at hr hcall
        go_wp2
        refine wp_region_held_drew (S := (fun w' => w'.cell? ⟨b, off + k * 6, none⟩ = some (.int .i64 x.ep) ∧ w'.cell? ⟨b, off + k * 6 + 1, none⟩ = some (.int .i64 x.pr) ∧ w'.cell? ⟨b, off + k * 6 + 2, none⟩ = some (.slice x.aV x.V.length x.cV) ∧ w'.cell? ⟨b, off + k * 6 + 3, none⟩ = some (.slice x.aM x.M.length x.cM) ∧ w'.cell? ⟨b, off + k * 6 + 4, none⟩ = some (.slice x.aA x.A.length x.cA) ∧ w'.cell? ⟨b, off + k * 6 + 5, none⟩ = some (.int .i64 x.h) ∧ w'.cell? ⟨b, off + j * 6, none⟩ = some (.int .i64 y.ep) ∧ w'.cell? ⟨b, off + j * 6 + 1, none⟩ = some (.int .i64 y.pr) ∧ w'.cell? ⟨b, off + j * 6 + 2, none⟩ = some (.slice y.aV y.V.length y.cV) ∧ w'.cell? ⟨b, off + j * 6 + 3, none⟩ = some (.slice y.aM y.M.length y.cM) ∧ w'.cell? ⟨b, off + j * 6 + 4, none⟩ = some (.slice y.aA y.A.length y.cA) ∧ w'.cell? ⟨b, off + j * 6 + 5, none⟩ = some (.int .i64 y.h))) (by kernel_rfl) ⟨c0, c1, c2, c3, c4, c5, d0, d1, d2, d3, d4, d5⟩ (fun hHeld => ?_)
        refine take (i := 0) (d := some 13) (v := .func (.func 94) #[] #[]) rfl (by kernel_rfl) (by kernel_rfl) (by kernel_rfl) (by kernel_rfl) (fun _ _ _ h => h) (Or.inl ⟨by rfl, by intro w hSw; go_simp⟩) hHeld ?_
        simp only [Act.put, List.setIfInBounds_toArray, List.set_cons_zero, List.set_cons_succ]
        refine take (i := 1) (d := some 14) (v := .slice (some ⟨b, off, none⟩) n cap) rfl (by kernel_rfl) (by kernel_rfl) (by kernel_rfl) (by kernel_rfl) (fun _ _ _ h => h) (Or.inl ⟨by rfl, by intro w hSw; go_simp⟩) hHeld ?_
        simp only [Act.put, List.setIfInBounds_toArray, List.set_cons_zero, List.set_cons_succ]
        refine take (i := 2) (d := some 15) (v := .int .i64 k) rfl (by kernel_rfl) (by kernel_rfl) (by kernel_rfl) (by kernel_rfl) (fun _ _ _ h => h) (Or.inl ⟨by rfl, by intro w hSw; go_simp⟩) hHeld ?_
        simp only [Act.put, List.setIfInBounds_toArray, List.set_cons_zero, List.set_cons_succ]
        refine take (i := 3) (d := some 16) (v := .pointer (some ⟨b, off + k * 6, none⟩)) rfl (by kernel_rfl) (by kernel_rfl) (by kernel_rfl) (by kernel_rfl) (fun _ _ _ h => h) (Or.inl ⟨by rfl, by intro w hSw; go_simp⟩) hHeld ?_
        simp only [Act.put, List.setIfInBounds_toArray, List.set_cons_zero, List.set_cons_succ]
        refine take (i := 4) (d := some 17) (v := .agg #[.int .i64 x.ep, .int .i64 x.pr, .slice x.aV x.V.length x.cV, .slice x.aM x.M.length x.cM, .slice x.aA x.A.length x.cA, .int .i64 x.h]) rfl (by kernel_rfl) (by kernel_rfl) (by kernel_rfl) (by kernel_rfl) (fun _ _ _ h => h) (Or.inl ⟨by rfl, by intro w hSw; obtain ⟨c0, c1, c2, c3, c4, c5, d0, d1, d2, d3, d4, d5⟩ := hSw; go_simp⟩) hHeld ?_
        simp only [Act.put, List.setIfInBounds_toArray, List.set_cons_zero, List.set_cons_succ]
        refine take (i := 5) (d := some 18) (v := .slice (some ⟨b, off, none⟩) n cap) rfl (by kernel_rfl) (by kernel_rfl) (by kernel_rfl) (by kernel_rfl) (fun _ _ _ h => h) (Or.inl ⟨by rfl, by intro w hSw; go_simp⟩) hHeld ?_
        simp only [Act.put, List.setIfInBounds_toArray, List.set_cons_zero, List.set_cons_succ]
        refine take (i := 6) (d := some 19) (v := .int .i64 k) rfl (by kernel_rfl) (by kernel_rfl) (by kernel_rfl) (by kernel_rfl) (fun _ _ _ h => h) (Or.inl ⟨by rfl, by intro w hSw; go_simp⟩) hHeld ?_
        simp only [Act.put, List.setIfInBounds_toArray, List.set_cons_zero, List.set_cons_succ]
        refine take (i := 7) (d := some 20) (v := .int .i64 j) rfl (by kernel_rfl) (by kernel_rfl) (by kernel_rfl) (by kernel_rfl) (fun _ _ _ h => h) (Or.inl ⟨by rfl, by intro w hSw; go_simp⟩) hHeld ?_
        simp only [Act.put, List.setIfInBounds_toArray, List.set_cons_zero, List.set_cons_succ]
        refine take (i := 8) (d := some 21) (v := .pointer (some ⟨b, off + j * 6, none⟩)) rfl (by kernel_rfl) (by kernel_rfl) (by kernel_rfl) (by kernel_rfl) (fun _ _ _ h => h) (Or.inl ⟨by rfl, by intro w hSw; go_simp⟩) hHeld ?_
        simp only [Act.put, List.setIfInBounds_toArray, List.set_cons_zero, List.set_cons_succ]
        refine take (i := 9) (d := some 22) (v := .agg #[.int .i64 y.ep, .int .i64 y.pr, .slice y.aV y.V.length y.cV, .slice y.aM y.M.length y.cM, .slice y.aA y.A.length y.cA, .int .i64 y.h]) rfl (by kernel_rfl) (by kernel_rfl) (by kernel_rfl) (by kernel_rfl) (fun _ _ _ h => h) (Or.inl ⟨by rfl, by intro w hSw; obtain ⟨c0, c1, c2, c3, c4, c5, d0, d1, d2, d3, d4, d5⟩ := hSw; go_simp⟩) hHeld ?_
        simp only [Act.put, List.setIfInBounds_toArray, List.set_cons_zero, List.set_cons_succ]
        refine wpAnyH_ready (rs := [10]) (by kernel_rfl) (by simp) (callV2 (i := 10) rfl (by rfl) 94 (.tmp 13) (.tmp 17) (.tmp 22) 41 41 (by kernel_rfl) 23 (by kernel_rfl) rfl _ _ (by kernel_rfl) (by kernel_rfl) (fun _ => rfl) (hcall _) ?_ AllReadyH.nil)
        rintro e w1 ⟨rfl, hb⟩
        refine ⟨_, rfl, ⟨(hb.cell (by exact bl)).trans c0, (hb.cell (by exact bl)).trans c1, (hb.cell (by exact bl)).trans c2, (hb.cell (by exact bl)).trans c3, (hb.cell (by exact bl)).trans c4, (hb.cell (by exact bl)).trans c5, (hb.cell (by exact bl)).trans d0, (hb.cell (by exact bl)).trans d1, (hb.cell (by exact bl)).trans d2, (hb.cell (by exact bl)).trans d3, (hb.cell (by exact bl)).trans d4, (hb.cell (by exact bl)).trans d5⟩, fun hHeld => ?_⟩
        simp only [Act.put, List.setIfInBounds_toArray, List.set_cons_zero, List.set_cons_succ]
        refine take (i := 11) (d := some 24) (v := .bool false) rfl (by kernel_rfl) (by kernel_rfl) (by kernel_rfl) (by kernel_rfl) (fun _ _ _ h => h) (Or.inl ⟨by rfl, by intro w hSw; go_simp⟩) hHeld ?_
        simp only [Act.put, List.setIfInBounds_toArray, List.set_cons_zero, List.set_cons_succ]
        refine wpAnyH_done (by kernel_rfl) ?_ _
        go_wp2
        go_roundw
        all_goals first
          | exact ⟨j, by have := HJ.out; omega, by first | rfl | go_num, Rw.next (by repeat (first | exact hbel | apply Below.drew)) hb, fun i h1 h2 => by
              by_cases e : i = j
              · subst e; rw [HX.out, HY.out]; have := HR.out; omega
              · have := HP.out i (by have := HJ.out; omega) h2; omega⟩
          | (simp [intOf]; omega)


end Go.Proofs.Ytcbgnfjnjfaacaa.Ra
namespace Go.Proofs.Ytcbgnfjnjfaacaa.Ra
set_option maxRecDepth 8000
set_option linter.unusedSimpArgs false
set_option linter.unusedVariables false
open Go Go.RowKit
open Num Pl Ea Pq

/-- The first place whose entry is not ahead of e. -/
def Place (Q : List Ent) (e : Ent) (k : Nat) : Prop := k ≤ Q.length ∧ (∀ m, m < k → rk (Q.getD m e0) e < 0) ∧ ∀ m, k ≤ m → m < Q.length → ¬ rk (Q.getD m e0) e < 0

def ResS (w : World) (Q : List Ent) (e : Ent) (x : Ending) (w' : World) : Prop := Below w.heap.size w w' ∧ ∃ (k : Nat) (r : Bool), x = .returned (.tuple #[.int .i64 k, .bool r]) ∧ Place Q e k
set_option maxHeartbeats 8000000 in
theorem search_any (a : Option Addr) (b off cap : Nat) (Q : List Ent) (e : Ent) (w : World) (h : Rd w a b off Q) (hmono : ∀ i j, i ≤ j → j < Q.length → rk (Q.getD j e0) e < 0 → rk (Q.getD i e0) e < 0) :
    Calls Try.prog 130 #[.slice a Q.length cap, .agg e.vals, .func (.func 94) #[] #[]] w (ResS w Q e) := by
  obtain ⟨hh, hc, ho, hs⟩ := h
  clear ho
  obtain ⟨n, hn⟩ : ∃ n, n = Q.length := ⟨_, rfl⟩
  rw [← hn] at hh hc hs hmono ⊢
  have HM : Hid (∀ i j, i ≤ j → j < n → rk (Q.getD j e0) e < 0 → rk (Q.getD i e0) e < 0) := hmono
  have HN : Hid (n = Q.length) := hn
  clear hn hmono
  obtain ⟨W1, hW1⟩ : ∃ W1, W1 = w.alloc (.cells e.vals 41) := ⟨_, rfl⟩
  have B1 : Below w.heap.size w W1 := by subst hW1; exact below_alloc1 _ _
  have k0 : W1.heap[w.heap.size]? = some (.cells #[.int .i64 e.ep, .int .i64 e.pr, .slice e.aV e.V.length e.cV, .slice e.aM e.M.length e.cM, .slice e.aA e.A.length e.cA, .int .i64 e.h] 41 (0, 0)) := by subst hW1; exact at_new rfl
  simp only [ent_vals] at hW1 ⊢
  go_enter Try.func130, Try.ntmps130
  go_wp2
  rw [← hW1]
  clear hW1
  go_loopw [9, 10] (fun u v wr => ∃ i j : Nat, i ≤ j ∧ j ≤ n ∧ u = .int .i64 i ∧ v = .int .i64 j ∧ Below w.heap.size w wr ∧ wr.heap[w.heap.size]? = some (.cells #[.int .i64 e.ep, .int .i64 e.pr, .slice e.aV e.V.length e.cV, .slice e.aM e.M.length e.cM, .slice e.aA e.A.length e.cA, .int .i64 e.h] 41 (0, 0)) ∧ (∀ m, m < i → rk (Q.getD m e0) e < 0) ∧ ∀ m, j ≤ m → m < n → ¬ rk (Q.getD m e0) e < 0) (fun u v _ => (intOf v).toNat - (intOf u).toNat)
  case atStart => exact ⟨0, n, Nat.zero_le _, Nat.le_refl _, rfl, rfl, B1, k0, fun m hm => by omega, fun m h1 h2 => by omega⟩
  case round =>
    clear k0 B1
    obtain ⟨i, j, hij, hjn, rfl, rfl, hbel, kT, hlo, hhi⟩ := hrel
    have HL : Hid (∀ m, m < i → rk (Q.getD m e0) e < 0) := hlo
    have HH : Hid (∀ m, j ≤ m → m < n → ¬ rk (Q.getD m e0) e < 0) := hhi
    clear hlo hhi
    obtain ⟨d0, d1, d2, d3, d4, d5⟩ := six kT
    have bt := blk_lt kT
    by_cases hlt : i < j
    · have hltz : (i : Int) < (j : Int) := by omega
      obtain ⟨h, hh2⟩ : ∃ h, h = (i + j) / 2 := ⟨_, rfl⟩
      have hih : i ≤ h := by omega
      have hhj : h < j := by omega
      obtain rfl := hh (by omega)
      obtain ⟨c0, c1, c2, c3, c4, c5⟩ := ((hc h (by omega)).of hbel (At6.lt (hc h (by omega)))).six
      have bl : b < wr.heap.size := World.block_lt_of_cell? _ _ c0
      have HX : Hid (Q.getD h e0 = Q.getD h e0) := rfl
      go_wp2
      have eh : ((i : Int) + (j : Int)) / 2 = (h : Int) := by omega
      rw [eh]
      clear hc hh eh
      have HK : Hid (i ≤ h ∧ h < j ∧ j ≤ n) := ⟨hih, hhj, hjn⟩
      have hnz : (h : Int) < (n : Int) := by omega
      have hhn : h < n := by omega
      clear hij hjn hh2 hih hhj hltz hlt
      obtain ⟨x, hx⟩ : ∃ x, x = Q.getD h e0 := ⟨_, rfl⟩
      rw [← hx] at c0 c1 c2 c3 c4 c5
      have HX : Hid (Q.getD h e0 = x) := hx.symm
      clear hx
      have hcall := rank_any x e
      simp only [ent_vals] at hcall
      by_cases hr : rk x e < 0
      · have HR : Hid (rk x e < 0) := hr
        generalize rk x e = r at hr hcall
        refine wp_region_held_drew (S := (fun w' => w'.cell? ⟨b, off + h * 6, none⟩ = some (.int .i64 x.ep) ∧ w'.cell? ⟨b, off + h * 6 + 1, none⟩ = some (.int .i64 x.pr) ∧ w'.cell? ⟨b, off + h * 6 + 2, none⟩ = some (.slice x.aV x.V.length x.cV) ∧ w'.cell? ⟨b, off + h * 6 + 3, none⟩ = some (.slice x.aM x.M.length x.cM) ∧ w'.cell? ⟨b, off + h * 6 + 4, none⟩ = some (.slice x.aA x.A.length x.cA) ∧ w'.cell? ⟨b, off + h * 6 + 5, none⟩ = some (.int .i64 x.h) ∧ w'.cell? ⟨w.heap.size, 0, none⟩ = some (.int .i64 e.ep) ∧ w'.cell? ⟨w.heap.size, 1, none⟩ = some (.int .i64 e.pr) ∧ w'.cell? ⟨w.heap.size, 2, none⟩ = some (.slice e.aV e.V.length e.cV) ∧ w'.cell? ⟨w.heap.size, 3, none⟩ = some (.slice e.aM e.M.length e.cM) ∧ w'.cell? ⟨w.heap.size, 4, none⟩ = some (.slice e.aA e.A.length e.cA) ∧ w'.cell? ⟨w.heap.size, 5, none⟩ = some (.int .i64 e.h))) (by kernel_rfl) ⟨c0, c1, c2, c3, c4, c5, d0, d1, d2, d3, d4, d5⟩ (fun hHeld => ?_)
        refine take (i := 0) (d := some 24) (v := .func (.func 94) #[] #[]) rfl (by kernel_rfl) (by kernel_rfl) (by kernel_rfl) (by kernel_rfl) (fun _ _ _ h => h) (Or.inl ⟨by rfl, by intro w hSw; go_simp⟩) hHeld ?_
        simp only [Act.put, List.setIfInBounds_toArray, List.set_cons_zero, List.set_cons_succ]
        refine take (i := 1) (d := some 25) (v := .slice (some ⟨b, off, none⟩) n cap) rfl (by kernel_rfl) (by kernel_rfl) (by kernel_rfl) (by kernel_rfl) (fun _ _ _ h => h) (Or.inl ⟨by rfl, by intro w hSw; go_simp⟩) hHeld ?_
        simp only [Act.put, List.setIfInBounds_toArray, List.set_cons_zero, List.set_cons_succ]
        refine take (i := 2) (d := some 26) (v := .int .i64 h) rfl (by kernel_rfl) (by kernel_rfl) (by kernel_rfl) (by kernel_rfl) (fun _ _ _ h => h) (Or.inl ⟨by rfl, by intro w hSw; go_simp⟩) hHeld ?_
        simp only [Act.put, List.setIfInBounds_toArray, List.set_cons_zero, List.set_cons_succ]
        refine take (i := 3) (d := some 27) (v := .pointer (some ⟨b, off + h * 6, none⟩)) rfl (by kernel_rfl) (by kernel_rfl) (by kernel_rfl) (by kernel_rfl) (fun _ _ _ h => h) (Or.inl ⟨by rfl, by intro w hSw; go_simp⟩) hHeld ?_
        simp only [Act.put, List.setIfInBounds_toArray, List.set_cons_zero, List.set_cons_succ]
        refine take (i := 4) (d := some 28) (v := .agg #[.int .i64 x.ep, .int .i64 x.pr, .slice x.aV x.V.length x.cV, .slice x.aM x.M.length x.cM, .slice x.aA x.A.length x.cA, .int .i64 x.h]) rfl (by kernel_rfl) (by kernel_rfl) (by kernel_rfl) (by kernel_rfl) (fun _ _ _ h => h) (Or.inl ⟨by rfl, by intro w hSw; obtain ⟨c0, c1, c2, c3, c4, c5, d0, d1, d2, d3, d4, d5⟩ := hSw; go_simp⟩) hHeld ?_
        simp only [Act.put, List.setIfInBounds_toArray, List.set_cons_zero, List.set_cons_succ]
        refine take (i := 5) (d := some 29) (v := .agg #[.int .i64 e.ep, .int .i64 e.pr, .slice e.aV e.V.length e.cV, .slice e.aM e.M.length e.cM, .slice e.aA e.A.length e.cA, .int .i64 e.h]) rfl (by kernel_rfl) (by kernel_rfl) (by kernel_rfl) (by kernel_rfl) (fun _ _ _ h => h) (Or.inl ⟨by rfl, by intro w hSw; obtain ⟨c0, c1, c2, c3, c4, c5, d0, d1, d2, d3, d4, d5⟩ := hSw; go_simp⟩) hHeld ?_
        simp only [Act.put, List.setIfInBounds_toArray, List.set_cons_zero, List.set_cons_succ]
        refine wpAnyH_ready (rs := [6]) (by kernel_rfl) (by simp) (callV2 (i := 6) rfl (by rfl) 94 (.tmp 24) (.tmp 28) (.tmp 29) 41 41 (by kernel_rfl) 30 (by kernel_rfl) rfl _ _ (by kernel_rfl) (by kernel_rfl) (fun _ => rfl) (hcall _) ?_ AllReadyH.nil)
        rintro e w1 ⟨rfl, hb⟩
        refine ⟨_, rfl, ⟨(hb.cell (by exact bl)).trans c0, (hb.cell (by exact bl)).trans c1, (hb.cell (by exact bl)).trans c2, (hb.cell (by exact bl)).trans c3, (hb.cell (by exact bl)).trans c4, (hb.cell (by exact bl)).trans c5, (hb.cell (by exact bt)).trans d0, (hb.cell (by exact bt)).trans d1, (hb.cell (by exact bt)).trans d2, (hb.cell (by exact bt)).trans d3, (hb.cell (by exact bt)).trans d4, (hb.cell (by exact bt)).trans d5⟩, fun hHeld => ?_⟩
        simp only [Act.put, List.setIfInBounds_toArray, List.set_cons_zero, List.set_cons_succ]
        refine take (i := 7) (d := some 31) (v := .bool true) rfl (by kernel_rfl) (by kernel_rfl) (by kernel_rfl) (by kernel_rfl) (fun _ _ _ h => h) (Or.inl ⟨by rfl, by intro w hSw; go_simp⟩) hHeld ?_
        simp only [Act.put, List.setIfInBounds_toArray, List.set_cons_zero, List.set_cons_succ]
        refine wpAnyH_done (by kernel_rfl) ?_ _
        replace kT := (hb.block _ bt).trans kT
        go_wp2
        go_roundw
        case rel => exact ⟨h + 1, j, by have := HK.out; omega, by have := HK.out; omega, by go_num, rfl, Rw.next (by repeat (first | exact hbel | apply Below.drew)) hb, kT, fun m hm => HM.out m h (by omega) (by have := HK.out; omega) (by rw [HX.out]; exact HR.out), fun m h1 h2 => by have := HH.out m h1 h2; omega⟩
        case measure => have := HK.out; simp [intOf]; omega
      · have HR : Hid (¬ rk x e < 0) := hr
        generalize rk x e = r at hr hcall
        refine wp_region_held_drew (S := (fun w' => w'.cell? ⟨b, off + h * 6, none⟩ = some (.int .i64 x.ep) ∧ w'.cell? ⟨b, off + h * 6 + 1, none⟩ = some (.int .i64 x.pr) ∧ w'.cell? ⟨b, off + h * 6 + 2, none⟩ = some (.slice x.aV x.V.length x.cV) ∧ w'.cell? ⟨b, off + h * 6 + 3, none⟩ = some (.slice x.aM x.M.length x.cM) ∧ w'.cell? ⟨b, off + h * 6 + 4, none⟩ = some (.slice x.aA x.A.length x.cA) ∧ w'.cell? ⟨b, off + h * 6 + 5, none⟩ = some (.int .i64 x.h) ∧ w'.cell? ⟨w.heap.size, 0, none⟩ = some (.int .i64 e.ep) ∧ w'.cell? ⟨w.heap.size, 1, none⟩ = some (.int .i64 e.pr) ∧ w'.cell? ⟨w.heap.size, 2, none⟩ = some (.slice e.aV e.V.length e.cV) ∧ w'.cell? ⟨w.heap.size, 3, none⟩ = some (.slice e.aM e.M.length e.cM) ∧ w'.cell? ⟨w.heap.size, 4, none⟩ = some (.slice e.aA e.A.length e.cA) ∧ w'.cell? ⟨w.heap.size, 5, none⟩ = some (.int .i64 e.h))) (by kernel_rfl) ⟨c0, c1, c2, c3, c4, c5, d0, d1, d2, d3, d4, d5⟩ (fun hHeld => ?_)
        refine take (i := 0) (d := some 24) (v := .func (.func 94) #[] #[]) rfl (by kernel_rfl) (by kernel_rfl) (by kernel_rfl) (by kernel_rfl) (fun _ _ _ h => h) (Or.inl ⟨by rfl, by intro w hSw; go_simp⟩) hHeld ?_
        simp only [Act.put, List.setIfInBounds_toArray, List.set_cons_zero, List.set_cons_succ]
        refine take (i := 1) (d := some 25) (v := .slice (some ⟨b, off, none⟩) n cap) rfl (by kernel_rfl) (by kernel_rfl) (by kernel_rfl) (by kernel_rfl) (fun _ _ _ h => h) (Or.inl ⟨by rfl, by intro w hSw; go_simp⟩) hHeld ?_
        simp only [Act.put, List.setIfInBounds_toArray, List.set_cons_zero, List.set_cons_succ]
        refine take (i := 2) (d := some 26) (v := .int .i64 h) rfl (by kernel_rfl) (by kernel_rfl) (by kernel_rfl) (by kernel_rfl) (fun _ _ _ h => h) (Or.inl ⟨by rfl, by intro w hSw; go_simp⟩) hHeld ?_
        simp only [Act.put, List.setIfInBounds_toArray, List.set_cons_zero, List.set_cons_succ]
        refine take (i := 3) (d := some 27) (v := .pointer (some ⟨b, off + h * 6, none⟩)) rfl (by kernel_rfl) (by kernel_rfl) (by kernel_rfl) (by kernel_rfl) (fun _ _ _ h => h) (Or.inl ⟨by rfl, by intro w hSw; go_simp⟩) hHeld ?_
        simp only [Act.put, List.setIfInBounds_toArray, List.set_cons_zero, List.set_cons_succ]
        refine take (i := 4) (d := some 28) (v := .agg #[.int .i64 x.ep, .int .i64 x.pr, .slice x.aV x.V.length x.cV, .slice x.aM x.M.length x.cM, .slice x.aA x.A.length x.cA, .int .i64 x.h]) rfl (by kernel_rfl) (by kernel_rfl) (by kernel_rfl) (by kernel_rfl) (fun _ _ _ h => h) (Or.inl ⟨by rfl, by intro w hSw; obtain ⟨c0, c1, c2, c3, c4, c5, d0, d1, d2, d3, d4, d5⟩ := hSw; go_simp⟩) hHeld ?_
        simp only [Act.put, List.setIfInBounds_toArray, List.set_cons_zero, List.set_cons_succ]
        refine take (i := 5) (d := some 29) (v := .agg #[.int .i64 e.ep, .int .i64 e.pr, .slice e.aV e.V.length e.cV, .slice e.aM e.M.length e.cM, .slice e.aA e.A.length e.cA, .int .i64 e.h]) rfl (by kernel_rfl) (by kernel_rfl) (by kernel_rfl) (by kernel_rfl) (fun _ _ _ h => h) (Or.inl ⟨by rfl, by intro w hSw; obtain ⟨c0, c1, c2, c3, c4, c5, d0, d1, d2, d3, d4, d5⟩ := hSw; go_simp⟩) hHeld ?_
        simp only [Act.put, List.setIfInBounds_toArray, List.set_cons_zero, List.set_cons_succ]
        refine wpAnyH_ready (rs := [6]) (by kernel_rfl) (by simp) (callV2 (i := 6) rfl (by rfl) 94 (.tmp 24) (.tmp 28) (.tmp 29) 41 41 (by kernel_rfl) 30 (by kernel_rfl) rfl _ _ (by kernel_rfl) (by kernel_rfl) (fun _ => rfl) (hcall _) ?_ AllReadyH.nil)
        rintro e w1 ⟨rfl, hb⟩
        refine ⟨_, rfl, ⟨(hb.cell (by exact bl)).trans c0, (hb.cell (by exact bl)).trans c1, (hb.cell (by exact bl)).trans c2, (hb.cell (by exact bl)).trans c3, (hb.cell (by exact bl)).trans c4, (hb.cell (by exact bl)).trans c5, (hb.cell (by exact bt)).trans d0, (hb.cell (by exact bt)).trans d1, (hb.cell (by exact bt)).trans d2, (hb.cell (by exact bt)).trans d3, (hb.cell (by exact bt)).trans d4, (hb.cell (by exact bt)).trans d5⟩, fun hHeld => ?_⟩
        simp only [Act.put, List.setIfInBounds_toArray, List.set_cons_zero, List.set_cons_succ]
        refine take (i := 7) (d := some 31) (v := .bool false) rfl (by kernel_rfl) (by kernel_rfl) (by kernel_rfl) (by kernel_rfl) (fun _ _ _ h => h) (Or.inl ⟨by rfl, by intro w hSw; go_simp⟩) hHeld ?_
        simp only [Act.put, List.setIfInBounds_toArray, List.set_cons_zero, List.set_cons_succ]
        refine wpAnyH_done (by kernel_rfl) ?_ _
        replace kT := (hb.block _ bt).trans kT
        go_wp2
        go_roundw
        case rel => exact ⟨i, h, by have := HK.out; omega, by have := HK.out; omega, rfl, rfl, Rw.next (by repeat (first | exact hbel | apply Below.drew)) hb, kT, HL.out, fun m h1 h2 h3 => by have := HM.out h m h1 h2 h3; rw [HX.out] at this; have := HR.out; omega⟩
        case measure => have := HK.out; simp [intOf]; omega
    · obtain rfl : i = j := by omega
      obtain ⟨h, hih⟩ : ∃ h, h = i := ⟨_, rfl⟩
      subst hih
      by_cases hn : h < n
      · obtain rfl := hh (by omega)
        have hnz : (h : Int) < (n : Int) := by omega
        obtain ⟨c0, c1, c2, c3, c4, c5⟩ := ((hc h hn).of hbel (At6.lt (hc h hn))).six
        have bl : b < wr.heap.size := World.block_lt_of_cell? _ _ c0
        clear hc hh
        generalize Q.getD h e0 = x at *
        have hcall := rank_any x e
        simp only [ent_vals] at hcall
        generalize rk x e = r at hcall
        by_cases hr : r = 0
        · go_wp2
          refine wp_region_held_drew (S := (fun w' => w'.cell? ⟨b, off + h * 6, none⟩ = some (.int .i64 x.ep) ∧ w'.cell? ⟨b, off + h * 6 + 1, none⟩ = some (.int .i64 x.pr) ∧ w'.cell? ⟨b, off + h * 6 + 2, none⟩ = some (.slice x.aV x.V.length x.cV) ∧ w'.cell? ⟨b, off + h * 6 + 3, none⟩ = some (.slice x.aM x.M.length x.cM) ∧ w'.cell? ⟨b, off + h * 6 + 4, none⟩ = some (.slice x.aA x.A.length x.cA) ∧ w'.cell? ⟨b, off + h * 6 + 5, none⟩ = some (.int .i64 x.h) ∧ w'.cell? ⟨w.heap.size, 0, none⟩ = some (.int .i64 e.ep) ∧ w'.cell? ⟨w.heap.size, 1, none⟩ = some (.int .i64 e.pr) ∧ w'.cell? ⟨w.heap.size, 2, none⟩ = some (.slice e.aV e.V.length e.cV) ∧ w'.cell? ⟨w.heap.size, 3, none⟩ = some (.slice e.aM e.M.length e.cM) ∧ w'.cell? ⟨w.heap.size, 4, none⟩ = some (.slice e.aA e.A.length e.cA) ∧ w'.cell? ⟨w.heap.size, 5, none⟩ = some (.int .i64 e.h))) (by kernel_rfl) ⟨c0, c1, c2, c3, c4, c5, d0, d1, d2, d3, d4, d5⟩ (fun hHeld => ?_)
          refine take (i := 0) (d := some 35) (v := .int .i64 h) rfl (by kernel_rfl) (by kernel_rfl) (by kernel_rfl) (by kernel_rfl) (fun _ _ _ h => h) (Or.inl ⟨by rfl, by intro w hSw; go_simp⟩) hHeld ?_
          simp only [Act.put, List.setIfInBounds_toArray, List.set_cons_zero, List.set_cons_succ]
          refine take (i := 1) (d := some 36) (v := .int .i64 h) rfl (by kernel_rfl) (by kernel_rfl) (by kernel_rfl) (by kernel_rfl) (fun _ _ _ h => h) (Or.inl ⟨by rfl, by intro w hSw; go_simp⟩) hHeld ?_
          simp only [Act.put, List.setIfInBounds_toArray, List.set_cons_zero, List.set_cons_succ]
          refine take (i := 2) (d := some 37) (v := .int .i64 n) rfl (by kernel_rfl) (by kernel_rfl) (by kernel_rfl) (by kernel_rfl) (fun _ _ _ h => h) (Or.inl ⟨by rfl, by intro w hSw; go_simp⟩) hHeld ?_
          simp only [Act.put, List.setIfInBounds_toArray, List.set_cons_zero, List.set_cons_succ]
          refine take (i := 3) (d := some 38) (v := .bool true) rfl (by kernel_rfl) (by kernel_rfl) (by kernel_rfl) (by kernel_rfl) (fun _ _ _ h => h) (Or.inl ⟨by rfl, by intro w hSw; go_simp⟩) hHeld ?_
          simp only [Act.put, List.setIfInBounds_toArray, List.set_cons_zero, List.set_cons_succ]
          refine take (i := 4) (d := some 39) (v := .bool true) rfl (by kernel_rfl) (by kernel_rfl) (by kernel_rfl) (by kernel_rfl) (fun _ _ _ h => h) (Or.inl ⟨by rfl, by intro w hSw; go_simp⟩) hHeld ?_
          simp only [Act.put, List.setIfInBounds_toArray, List.set_cons_zero, List.set_cons_succ]
          refine take (i := 5) (d := some 40) (v := .func (.func 94) #[] #[]) rfl (by kernel_rfl) (by kernel_rfl) (by kernel_rfl) (by kernel_rfl) (fun _ _ _ h => h) (Or.inl ⟨by rfl, by intro w hSw; go_simp⟩) hHeld ?_
          simp only [Act.put, List.setIfInBounds_toArray, List.set_cons_zero, List.set_cons_succ]
          refine take (i := 6) (d := some 41) (v := .slice (some ⟨b, off, none⟩) n cap) rfl (by kernel_rfl) (by kernel_rfl) (by kernel_rfl) (by kernel_rfl) (fun _ _ _ h => h) (Or.inl ⟨by rfl, by intro w hSw; go_simp⟩) hHeld ?_
          simp only [Act.put, List.setIfInBounds_toArray, List.set_cons_zero, List.set_cons_succ]
          refine take (i := 7) (d := some 42) (v := .int .i64 h) rfl (by kernel_rfl) (by kernel_rfl) (by kernel_rfl) (by kernel_rfl) (fun _ _ _ h => h) (Or.inl ⟨by rfl, by intro w hSw; go_simp⟩) hHeld ?_
          simp only [Act.put, List.setIfInBounds_toArray, List.set_cons_zero, List.set_cons_succ]
          refine take (i := 8) (d := some 43) (v := .pointer (some ⟨b, off + h * 6, none⟩)) rfl (by kernel_rfl) (by kernel_rfl) (by kernel_rfl) (by kernel_rfl) (fun _ _ _ h => h) (Or.inl ⟨by rfl, by intro w hSw; go_simp⟩) hHeld ?_
          simp only [Act.put, List.setIfInBounds_toArray, List.set_cons_zero, List.set_cons_succ]
          refine take (i := 9) (d := some 44) (v := .agg #[.int .i64 x.ep, .int .i64 x.pr, .slice x.aV x.V.length x.cV, .slice x.aM x.M.length x.cM, .slice x.aA x.A.length x.cA, .int .i64 x.h]) rfl (by kernel_rfl) (by kernel_rfl) (by kernel_rfl) (by kernel_rfl) (fun _ _ _ h => h) (Or.inl ⟨by rfl, by intro w hSw; obtain ⟨c0, c1, c2, c3, c4, c5, d0, d1, d2, d3, d4, d5⟩ := hSw; go_simp⟩) hHeld ?_
          simp only [Act.put, List.setIfInBounds_toArray, List.set_cons_zero, List.set_cons_succ]
          refine take (i := 10) (d := some 45) (v := .agg #[.int .i64 e.ep, .int .i64 e.pr, .slice e.aV e.V.length e.cV, .slice e.aM e.M.length e.cM, .slice e.aA e.A.length e.cA, .int .i64 e.h]) rfl (by kernel_rfl) (by kernel_rfl) (by kernel_rfl) (by kernel_rfl) (fun _ _ _ h => h) (Or.inl ⟨by rfl, by intro w hSw; obtain ⟨c0, c1, c2, c3, c4, c5, d0, d1, d2, d3, d4, d5⟩ := hSw; go_simp⟩) hHeld ?_
          simp only [Act.put, List.setIfInBounds_toArray, List.set_cons_zero, List.set_cons_succ]
          refine wpAnyH_ready (rs := [11]) (by kernel_rfl) (by simp) (callV2 (i := 11) rfl (by rfl) 94 (.tmp 40) (.tmp 44) (.tmp 45) 41 41 (by kernel_rfl) 46 (by kernel_rfl) rfl _ _ (by kernel_rfl) (by kernel_rfl) (fun _ => rfl) (hcall _) ?_ AllReadyH.nil)
          rintro e w1 ⟨rfl, hb⟩
          refine ⟨_, rfl, ⟨(hb.cell (by exact bl)).trans c0, (hb.cell (by exact bl)).trans c1, (hb.cell (by exact bl)).trans c2, (hb.cell (by exact bl)).trans c3, (hb.cell (by exact bl)).trans c4, (hb.cell (by exact bl)).trans c5, (hb.cell (by exact bt)).trans d0, (hb.cell (by exact bt)).trans d1, (hb.cell (by exact bt)).trans d2, (hb.cell (by exact bt)).trans d3, (hb.cell (by exact bt)).trans d4, (hb.cell (by exact bt)).trans d5⟩, fun hHeld => ?_⟩
          simp only [Act.put, List.setIfInBounds_toArray, List.set_cons_zero, List.set_cons_succ]
          refine take (i := 12) (d := some 47) (v := .bool true) rfl (by kernel_rfl) (by kernel_rfl) (by kernel_rfl) (by kernel_rfl) (fun _ _ _ h => h) (Or.inl ⟨by rfl, by intro w hSw; go_simp⟩) hHeld ?_
          simp only [Act.put, List.setIfInBounds_toArray, List.set_cons_zero, List.set_cons_succ]
          refine take (i := 13) (d := some 48) (v := .bool true) rfl (by kernel_rfl) (by kernel_rfl) (by kernel_rfl) (by kernel_rfl) (fun _ _ _ h => h) (Or.inl ⟨by rfl, by intro w hSw; go_simp⟩) hHeld ?_
          simp only [Act.put, List.setIfInBounds_toArray, List.set_cons_zero, List.set_cons_succ]
          refine take (i := 14) (d := some 6) (v := .int .i64 h) rfl (by kernel_rfl) (by kernel_rfl) (by kernel_rfl) (by kernel_rfl) (fun _ _ _ h => h) (Or.inl ⟨by rfl, by intro w hSw; go_simp⟩) hHeld ?_
          simp only [Act.put, List.setIfInBounds_toArray, List.set_cons_zero, List.set_cons_succ]
          refine take (i := 15) (d := some 7) (v := .bool true) rfl (by kernel_rfl) (by kernel_rfl) (by kernel_rfl) (by kernel_rfl) (fun _ _ _ h => h) (Or.inl ⟨by rfl, by intro w hSw; go_simp⟩) hHeld ?_
          simp only [Act.put, List.setIfInBounds_toArray, List.set_cons_zero, List.set_cons_succ]
          refine wpAnyH_done (by kernel_rfl) ?_ _
          go_wp2
          exact bodyPost_ret (v := .tuple #[.int .i64 h, .bool true]) (by simp [results, Try.results130, go_sem]) rfl ⟨Rw.next (by repeat (first | exact hbel | apply Below.drew)) hb, h, _, rfl, by have := HN.out; omega, HL.out, fun m h1 h2 => by have := HH.out m h1 (by have := HN.out; omega); omega⟩
        · have hr' : (r == 0) = false := by simpa using hr
          go_wp2
          refine wp_region_held_drew (S := (fun w' => w'.cell? ⟨b, off + h * 6, none⟩ = some (.int .i64 x.ep) ∧ w'.cell? ⟨b, off + h * 6 + 1, none⟩ = some (.int .i64 x.pr) ∧ w'.cell? ⟨b, off + h * 6 + 2, none⟩ = some (.slice x.aV x.V.length x.cV) ∧ w'.cell? ⟨b, off + h * 6 + 3, none⟩ = some (.slice x.aM x.M.length x.cM) ∧ w'.cell? ⟨b, off + h * 6 + 4, none⟩ = some (.slice x.aA x.A.length x.cA) ∧ w'.cell? ⟨b, off + h * 6 + 5, none⟩ = some (.int .i64 x.h) ∧ w'.cell? ⟨w.heap.size, 0, none⟩ = some (.int .i64 e.ep) ∧ w'.cell? ⟨w.heap.size, 1, none⟩ = some (.int .i64 e.pr) ∧ w'.cell? ⟨w.heap.size, 2, none⟩ = some (.slice e.aV e.V.length e.cV) ∧ w'.cell? ⟨w.heap.size, 3, none⟩ = some (.slice e.aM e.M.length e.cM) ∧ w'.cell? ⟨w.heap.size, 4, none⟩ = some (.slice e.aA e.A.length e.cA) ∧ w'.cell? ⟨w.heap.size, 5, none⟩ = some (.int .i64 e.h))) (by kernel_rfl) ⟨c0, c1, c2, c3, c4, c5, d0, d1, d2, d3, d4, d5⟩ (fun hHeld => ?_)
          refine take (i := 0) (d := some 35) (v := .int .i64 h) rfl (by kernel_rfl) (by kernel_rfl) (by kernel_rfl) (by kernel_rfl) (fun _ _ _ h => h) (Or.inl ⟨by rfl, by intro w hSw; go_simp⟩) hHeld ?_
          simp only [Act.put, List.setIfInBounds_toArray, List.set_cons_zero, List.set_cons_succ]
          refine take (i := 1) (d := some 36) (v := .int .i64 h) rfl (by kernel_rfl) (by kernel_rfl) (by kernel_rfl) (by kernel_rfl) (fun _ _ _ h => h) (Or.inl ⟨by rfl, by intro w hSw; go_simp⟩) hHeld ?_
          simp only [Act.put, List.setIfInBounds_toArray, List.set_cons_zero, List.set_cons_succ]
          refine take (i := 2) (d := some 37) (v := .int .i64 n) rfl (by kernel_rfl) (by kernel_rfl) (by kernel_rfl) (by kernel_rfl) (fun _ _ _ h => h) (Or.inl ⟨by rfl, by intro w hSw; go_simp⟩) hHeld ?_
          simp only [Act.put, List.setIfInBounds_toArray, List.set_cons_zero, List.set_cons_succ]
          refine take (i := 3) (d := some 38) (v := .bool true) rfl (by kernel_rfl) (by kernel_rfl) (by kernel_rfl) (by kernel_rfl) (fun _ _ _ h => h) (Or.inl ⟨by rfl, by intro w hSw; go_simp⟩) hHeld ?_
          simp only [Act.put, List.setIfInBounds_toArray, List.set_cons_zero, List.set_cons_succ]
          refine take (i := 4) (d := some 39) (v := .bool true) rfl (by kernel_rfl) (by kernel_rfl) (by kernel_rfl) (by kernel_rfl) (fun _ _ _ h => h) (Or.inl ⟨by rfl, by intro w hSw; go_simp⟩) hHeld ?_
          simp only [Act.put, List.setIfInBounds_toArray, List.set_cons_zero, List.set_cons_succ]
          refine take (i := 5) (d := some 40) (v := .func (.func 94) #[] #[]) rfl (by kernel_rfl) (by kernel_rfl) (by kernel_rfl) (by kernel_rfl) (fun _ _ _ h => h) (Or.inl ⟨by rfl, by intro w hSw; go_simp⟩) hHeld ?_
          simp only [Act.put, List.setIfInBounds_toArray, List.set_cons_zero, List.set_cons_succ]
          refine take (i := 6) (d := some 41) (v := .slice (some ⟨b, off, none⟩) n cap) rfl (by kernel_rfl) (by kernel_rfl) (by kernel_rfl) (by kernel_rfl) (fun _ _ _ h => h) (Or.inl ⟨by rfl, by intro w hSw; go_simp⟩) hHeld ?_
          simp only [Act.put, List.setIfInBounds_toArray, List.set_cons_zero, List.set_cons_succ]
          refine take (i := 7) (d := some 42) (v := .int .i64 h) rfl (by kernel_rfl) (by kernel_rfl) (by kernel_rfl) (by kernel_rfl) (fun _ _ _ h => h) (Or.inl ⟨by rfl, by intro w hSw; go_simp⟩) hHeld ?_
          simp only [Act.put, List.setIfInBounds_toArray, List.set_cons_zero, List.set_cons_succ]
          refine take (i := 8) (d := some 43) (v := .pointer (some ⟨b, off + h * 6, none⟩)) rfl (by kernel_rfl) (by kernel_rfl) (by kernel_rfl) (by kernel_rfl) (fun _ _ _ h => h) (Or.inl ⟨by rfl, by intro w hSw; go_simp⟩) hHeld ?_
          simp only [Act.put, List.setIfInBounds_toArray, List.set_cons_zero, List.set_cons_succ]
          refine take (i := 9) (d := some 44) (v := .agg #[.int .i64 x.ep, .int .i64 x.pr, .slice x.aV x.V.length x.cV, .slice x.aM x.M.length x.cM, .slice x.aA x.A.length x.cA, .int .i64 x.h]) rfl (by kernel_rfl) (by kernel_rfl) (by kernel_rfl) (by kernel_rfl) (fun _ _ _ h => h) (Or.inl ⟨by rfl, by intro w hSw; obtain ⟨c0, c1, c2, c3, c4, c5, d0, d1, d2, d3, d4, d5⟩ := hSw; go_simp⟩) hHeld ?_
          simp only [Act.put, List.setIfInBounds_toArray, List.set_cons_zero, List.set_cons_succ]
          refine take (i := 10) (d := some 45) (v := .agg #[.int .i64 e.ep, .int .i64 e.pr, .slice e.aV e.V.length e.cV, .slice e.aM e.M.length e.cM, .slice e.aA e.A.length e.cA, .int .i64 e.h]) rfl (by kernel_rfl) (by kernel_rfl) (by kernel_rfl) (by kernel_rfl) (fun _ _ _ h => h) (Or.inl ⟨by rfl, by intro w hSw; obtain ⟨c0, c1, c2, c3, c4, c5, d0, d1, d2, d3, d4, d5⟩ := hSw; go_simp⟩) hHeld ?_
          simp only [Act.put, List.setIfInBounds_toArray, List.set_cons_zero, List.set_cons_succ]
          refine wpAnyH_ready (rs := [11]) (by kernel_rfl) (by simp) (callV2 (i := 11) rfl (by rfl) 94 (.tmp 40) (.tmp 44) (.tmp 45) 41 41 (by kernel_rfl) 46 (by kernel_rfl) rfl _ _ (by kernel_rfl) (by kernel_rfl) (fun _ => rfl) (hcall _) ?_ AllReadyH.nil)
          rintro e w1 ⟨rfl, hb⟩
          refine ⟨_, rfl, ⟨(hb.cell (by exact bl)).trans c0, (hb.cell (by exact bl)).trans c1, (hb.cell (by exact bl)).trans c2, (hb.cell (by exact bl)).trans c3, (hb.cell (by exact bl)).trans c4, (hb.cell (by exact bl)).trans c5, (hb.cell (by exact bt)).trans d0, (hb.cell (by exact bt)).trans d1, (hb.cell (by exact bt)).trans d2, (hb.cell (by exact bt)).trans d3, (hb.cell (by exact bt)).trans d4, (hb.cell (by exact bt)).trans d5⟩, fun hHeld => ?_⟩
          simp only [Act.put, List.setIfInBounds_toArray, List.set_cons_zero, List.set_cons_succ]
          refine take (i := 12) (d := some 47) (v := .bool false) rfl (by kernel_rfl) (by kernel_rfl) (by kernel_rfl) (by kernel_rfl) (fun _ _ _ h => h) (Or.inl ⟨by rfl, by intro w hSw; go_simp⟩) hHeld ?_
          simp only [Act.put, List.setIfInBounds_toArray, List.set_cons_zero, List.set_cons_succ]
          refine take (i := 13) (d := some 48) (v := .bool false) rfl (by kernel_rfl) (by kernel_rfl) (by kernel_rfl) (by kernel_rfl) (fun _ _ _ h => h) (Or.inl ⟨by rfl, by intro w hSw; go_simp⟩) hHeld ?_
          simp only [Act.put, List.setIfInBounds_toArray, List.set_cons_zero, List.set_cons_succ]
          refine take (i := 14) (d := some 6) (v := .int .i64 h) rfl (by kernel_rfl) (by kernel_rfl) (by kernel_rfl) (by kernel_rfl) (fun _ _ _ h => h) (Or.inl ⟨by rfl, by intro w hSw; go_simp⟩) hHeld ?_
          simp only [Act.put, List.setIfInBounds_toArray, List.set_cons_zero, List.set_cons_succ]
          refine take (i := 15) (d := some 7) (v := .bool false) rfl (by kernel_rfl) (by kernel_rfl) (by kernel_rfl) (by kernel_rfl) (fun _ _ _ h => h) (Or.inl ⟨by rfl, by intro w hSw; go_simp⟩) hHeld ?_
          simp only [Act.put, List.setIfInBounds_toArray, List.set_cons_zero, List.set_cons_succ]
          refine wpAnyH_done (by kernel_rfl) ?_ _
          go_wp2
          exact bodyPost_ret (v := .tuple #[.int .i64 h, .bool false]) (by simp [results, Try.results130, go_sem]) rfl ⟨Rw.next (by repeat (first | exact hbel | apply Below.drew)) hb, h, _, rfl, by have := HN.out; omega, HL.out, fun m h1 h2 => by have := HH.out m h1 (by have := HN.out; omega); omega⟩
      · have hnz : ¬ (h : Int) < (n : Int) := by omega
        go_wp2
        refine wp_region_held_drew (S := (fun _ => True)) (by kernel_rfl) trivial (fun hHeld => ?_)
        refine take (i := 0) (d := some 35) (v := .int .i64 h) rfl (by kernel_rfl) (by kernel_rfl) (by kernel_rfl) (by kernel_rfl) (fun _ _ _ h => h) (Or.inl ⟨by rfl, by intro w hSw; go_simp⟩) hHeld ?_
        simp only [Act.put, List.setIfInBounds_toArray, List.set_cons_zero, List.set_cons_succ]
        refine take (i := 1) (d := some 36) (v := .int .i64 h) rfl (by kernel_rfl) (by kernel_rfl) (by kernel_rfl) (by kernel_rfl) (fun _ _ _ h => h) (Or.inl ⟨by rfl, by intro w hSw; go_simp⟩) hHeld ?_
        simp only [Act.put, List.setIfInBounds_toArray, List.set_cons_zero, List.set_cons_succ]
        refine take (i := 2) (d := some 37) (v := .int .i64 n) rfl (by kernel_rfl) (by kernel_rfl) (by kernel_rfl) (by kernel_rfl) (fun _ _ _ h => h) (Or.inl ⟨by rfl, by intro w hSw; go_simp⟩) hHeld ?_
        simp only [Act.put, List.setIfInBounds_toArray, List.set_cons_zero, List.set_cons_succ]
        refine take (i := 3) (d := some 38) (v := .bool false) rfl (by kernel_rfl) (by kernel_rfl) (by kernel_rfl) (by kernel_rfl) (fun _ _ _ h => h) (Or.inl ⟨by rfl, by intro w hSw; go_simp⟩) hHeld ?_
        simp only [Act.put, List.setIfInBounds_toArray, List.set_cons_zero, List.set_cons_succ]
        refine take (i := 4) (d := some 39) (v := .bool false) rfl (by kernel_rfl) (by kernel_rfl) (by kernel_rfl) (by kernel_rfl) (fun _ _ _ h => h) (Or.inl ⟨by rfl, by intro w hSw; go_simp⟩) hHeld ?_
        simp only [Act.put, List.setIfInBounds_toArray, List.set_cons_zero, List.set_cons_succ]
        refine take (i := 5) (d := some 40) (v := undef) rfl (by kernel_rfl) (by kernel_rfl) (by kernel_rfl) (by kernel_rfl) (fun _ _ _ h => h) (Or.inr ⟨by rfl, rfl⟩) hHeld ?_
        simp only [Act.put, List.setIfInBounds_toArray, List.set_cons_zero, List.set_cons_succ]
        refine take (i := 6) (d := some 41) (v := undef) rfl (by kernel_rfl) (by kernel_rfl) (by kernel_rfl) (by kernel_rfl) (fun _ _ _ h => h) (Or.inr ⟨by rfl, rfl⟩) hHeld ?_
        simp only [Act.put, List.setIfInBounds_toArray, List.set_cons_zero, List.set_cons_succ]
        refine take (i := 7) (d := some 42) (v := undef) rfl (by kernel_rfl) (by kernel_rfl) (by kernel_rfl) (by kernel_rfl) (fun _ _ _ h => h) (Or.inr ⟨by rfl, rfl⟩) hHeld ?_
        simp only [Act.put, List.setIfInBounds_toArray, List.set_cons_zero, List.set_cons_succ]
        refine take (i := 8) (d := some 43) (v := undef) rfl (by kernel_rfl) (by kernel_rfl) (by kernel_rfl) (by kernel_rfl) (fun _ _ _ h => h) (Or.inr ⟨by rfl, rfl⟩) hHeld ?_
        simp only [Act.put, List.setIfInBounds_toArray, List.set_cons_zero, List.set_cons_succ]
        refine take (i := 9) (d := some 44) (v := undef) rfl (by kernel_rfl) (by kernel_rfl) (by kernel_rfl) (by kernel_rfl) (fun _ _ _ h => h) (Or.inr ⟨by rfl, rfl⟩) hHeld ?_
        simp only [Act.put, List.setIfInBounds_toArray, List.set_cons_zero, List.set_cons_succ]
        refine take (i := 10) (d := some 45) (v := undef) rfl (by kernel_rfl) (by kernel_rfl) (by kernel_rfl) (by kernel_rfl) (fun _ _ _ h => h) (Or.inr ⟨by rfl, rfl⟩) hHeld ?_
        simp only [Act.put, List.setIfInBounds_toArray, List.set_cons_zero, List.set_cons_succ]
        refine take (i := 11) (d := some 46) (v := undef) rfl (by kernel_rfl) (by kernel_rfl) (by kernel_rfl) (by kernel_rfl) (fun _ _ _ h => h) (Or.inr ⟨by rfl, rfl⟩) hHeld ?_
        simp only [Act.put, List.setIfInBounds_toArray, List.set_cons_zero, List.set_cons_succ]
        refine take (i := 12) (d := some 47) (v := undef) rfl (by kernel_rfl) (by kernel_rfl) (by kernel_rfl) (by kernel_rfl) (fun _ _ _ h => h) (Or.inr ⟨by rfl, rfl⟩) hHeld ?_
        simp only [Act.put, List.setIfInBounds_toArray, List.set_cons_zero, List.set_cons_succ]
        refine take (i := 13) (d := some 48) (v := .bool false) rfl (by kernel_rfl) (by kernel_rfl) (by kernel_rfl) (by kernel_rfl) (fun _ _ _ h => h) (Or.inl ⟨by rfl, by intro w hSw; go_simp⟩) hHeld ?_
        simp only [Act.put, List.setIfInBounds_toArray, List.set_cons_zero, List.set_cons_succ]
        refine take (i := 14) (d := some 6) (v := .int .i64 h) rfl (by kernel_rfl) (by kernel_rfl) (by kernel_rfl) (by kernel_rfl) (fun _ _ _ h => h) (Or.inl ⟨by rfl, by intro w hSw; go_simp⟩) hHeld ?_
        simp only [Act.put, List.setIfInBounds_toArray, List.set_cons_zero, List.set_cons_succ]
        refine take (i := 15) (d := some 7) (v := .bool false) rfl (by kernel_rfl) (by kernel_rfl) (by kernel_rfl) (by kernel_rfl) (fun _ _ _ h => h) (Or.inl ⟨by rfl, by intro w hSw; go_simp⟩) hHeld ?_
        simp only [Act.put, List.setIfInBounds_toArray, List.set_cons_zero, List.set_cons_succ]
        refine wpAnyH_done (by kernel_rfl) ?_ _
        go_wp2
        exact bodyPost_ret (v := .tuple #[.int .i64 h, .bool false]) (by simp [results, Try.results130, go_sem]) rfl ⟨by repeat (first | exact hbel | apply Below.drew), h, _, rfl, by have := HN.out; omega, HL.out, fun m h1 h2 => by have := HH.out m h1 (by have := HN.out; omega); omega⟩

end Go.Proofs.Ytcbgnfjnjfaacaa.Ra
namespace Go.Proofs.Ytcbgnfjnjfaacaa.Ka
set_option maxRecDepth 8000
set_option linter.unusedSimpArgs false
set_option linter.unusedVariables false
open Go Go.RowKit Go.Maps
open Num Pl Ea

theorem laidOut : laidOutB Try.prog = true := by kernel_rfl
theorem law : Keyed Try.prog 97 := Keyed.of_law (deep_law_laid laidOut (m := 3) (by omega) (of_decide_eq_true (by kernel_rfl)) (by kernel_rfl) (by rw [Try.underlying97]))
theorem zero3 (w : World) : (zeroValue 3).run Try.prog w = .ok (.int .i64 0) w := by kernel_rfl
theorem wf_of {n : Int} (h : Pm.I64 n) : (Lit.int .i64 n).wf = true := WalkArith.wf_i64 (by unfold Pm.I64 at h; omega)
theorem one3 (d : Nat) {n : Int} (h : Pm.I64 n) : Try.prog.keyLits (d + 1) 3 [.int .i64 n] = some [.int .i64 n] := by
  unfold Program.keyLits
  simp [Try.underlying3, wf_of h]
theorem pair (d : Nat) {x y : Int} (hx : Pm.I64 x) (hy : Pm.I64 y) : Try.prog.keyLits (d + 1 + 1) 95 [.int .i64 x, .int .i64 y] = some [.int .i64 x, .int .i64 y] := by
  have c95 : Try.prog.cellsOf 95 = 2 := by kernel_rfl
  have c3 : Try.prog.cellsOf 3 = 1 := by kernel_rfl
  unfold Program.keyLits
  simp [Try.underlying95, c95, c3, one3 d hx, one3 d hy]
theorem eight (d : Nat) {v m : Nat → Int} (h : ∀ k, k < 8 → Pm.I64 (v k) ∧ Pm.I64 (m k)) : ∃ l, Try.prog.keyLits (d + 1 + 1 + 1) 97 (Pa.enc v m).toList = some l := by
  have c95 : Try.prog.cellsOf 95 = 2 := by kernel_rfl
  have c97 : Try.prog.cellsOf 97 = 16 := by kernel_rfl
  unfold Program.keyLits
  simp only [Try.underlying97]
  rw [if_pos (by rw [c97]; simp [Pa.enc]), c95]
  have e : ∀ i, i < 8 → (((Pa.enc v m).toList.drop (i * 2)).take 2) = [.int .i64 (v i), .int .i64 (m i)] := by
    intro i hi
    have a1 := Pa.enc_at v m (i := i * 2) (by omega)
    have a2 := Pa.enc_at v m (i := i * 2 + 1) (by omega)
    have z1 : i * 2 % 2 = 0 := by omega
    have z2 : i * 2 / 2 = i := by omega
    have z3 : ¬ (i * 2 + 1) % 2 = 0 := by omega
    have z4 : (i * 2 + 1) / 2 = i := by omega
    rw [if_pos z1, z2, ← Array.getElem?_toList] at a1
    rw [if_neg z3, z4, ← Array.getElem?_toList] at a2
    generalize (Pa.enc v m).toList = L at a1 a2
    apply List.ext_getElem?
    intro j
    match j with
    | 0 => simp [List.getElem?_take, List.getElem?_drop, a1]
    | 1 => simp [List.getElem?_take, List.getElem?_drop, a2]
    | j + 2 => rw [List.getElem?_take, if_neg (by omega)]; simp
  rw [show List.range 8 = [0, 1, 2, 3, 4, 5, 6, 7] from rfl]
  simp only [List.mapM_cons, List.mapM_nil]
  rw [e 0 (by omega), e 1 (by omega), e 2 (by omega), e 3 (by omega), e 4 (by omega), e 5 (by omega), e 6 (by omega), e 7 (by omega)]
  rw [pair d (h 0 (by omega)).1 (h 0 (by omega)).2, pair d (h 1 (by omega)).1 (h 1 (by omega)).2, pair d (h 2 (by omega)).1 (h 2 (by omega)).2, pair d (h 3 (by omega)).1 (h 3 (by omega)).2, pair d (h 4 (by omega)).1 (h 4 (by omega)).2, pair d (h 5 (by omega)).1 (h 5 (by omega)).2, pair d (h 6 (by omega)).1 (h 6 (by omega)).2, pair d (h 7 (by omega)).1 (h 7 (by omega)).2]
  exact ⟨_, rfl⟩
theorem key_some {v m : Nat → Int} (h : ∀ k, k < 8 → Pm.I64 (v k) ∧ Pm.I64 (m k)) : ∃ l, keyOf Try.prog 97 (.agg (Pa.enc v m)) = some l := by
  have hkt : Try.prog.keyType 97 = true := by kernel_rfl
  have c97 : Try.prog.cellsOf 97 = 16 := by kernel_rfl
  have h2 : 2 ≤ Try.prog.types.size := of_decide_eq_true (by kernel_rfl)
  obtain ⟨d, hd⟩ : ∃ d, Try.prog.types.size + 1 = d + 1 + 1 + 1 := ⟨Try.prog.types.size - 2, by omega⟩
  obtain ⟨l, hl⟩ := eight d h
  refine ⟨.string (keyBytes l), ?_⟩
  unfold keyOf
  simp only [Try.underlying97]
  rw [if_pos (by simp [hkt, Value.formed, Try.underlying97, c97, Pa.enc]), hd]
  simp only [Value.cells]
  rw [hl]
  rfl
/-- Two arrays of pairs that are one have the same numbers. -/
theorem enc_inj {v m v' m' : Nat → Int} (h : (Value.agg (Pa.enc v m)) = .agg (Pa.enc v' m')) : ∀ k, k < 8 → v k = v' k ∧ m k = m' k := by
  intro k hk
  injection h with h
  have e1 := Pa.enc_at v m (i := 2 * k) (by omega)
  have e2 := Pa.enc_at v' m' (i := 2 * k) (by omega)
  have e3 := Pa.enc_at v m (i := 2 * k + 1) (by omega)
  have e4 := Pa.enc_at v' m' (i := 2 * k + 1) (by omega)
  rw [h, e2] at e1
  rw [h, e4] at e3
  have z1 : 2 * k % 2 = 0 := by omega
  have z2 : 2 * k / 2 = k := by omega
  have z3 : ¬ (2 * k + 1) % 2 = 0 := by omega
  have z4 : (2 * k + 1) / 2 = k := by omega
  simp only [z1, z2, z3, z4, if_true, if_false, Option.some.injEq, Value.int.injEq, true_and] at e1 e3
  exact ⟨e1.symm, e3.symm⟩

end Go.Proofs.Ytcbgnfjnjfaacaa.Ka
namespace Go.Proofs.Ytcbgnfjnjfaacaa.Ka
set_option maxRecDepth 8000
set_option linter.unusedSimpArgs false
set_option linter.unusedVariables false
open Go Go.RowKit Go.Maps
open Num Pl Ea Ra Pq Pa

/-- What an entry asks, as a key. -/
def keyV (e : Ent) : Value := .agg (Pa.enc (Po.pv e.V e.M) (Po.pm e.V e.M))
def klP (P : Program) (e : Ent) : Lit := (keyOf P 97 (keyV e)).getD (.bool false)
theorem i64_zero : Pm.I64 0 := by constructor <;> decide
theorem keyV_some {e : Ent} (wV : Po.Wide e.V) (wM : Po.Wide e.M) : keyOf Try.prog 97 (keyV e) = some (klP Try.prog e) := by
  obtain ⟨l, hl⟩ := key_some (v := Po.pv e.V e.M) (m := Po.pm e.V e.M) (fun k hk => by
    unfold Po.pv Po.pm
    split
    · exact ⟨wV k, wM k⟩
    · rcases Hs.k8 hk with rfl | rfl | rfl | rfl | rfl | rfl | rfl | rfl <;> exact ⟨i64_zero, i64_zero⟩)
  unfold klP
  unfold keyV
  rw [hl]; rfl
/-- Two right entries ask the same just where their matches are one. -/
theorem kl_iff {e f : Ent} (we : Po.Wide e.V) (we' : Po.Wide e.M) (wf : Po.Wide f.V) (wf' : Po.Wide f.M) (he : Po.matchB e.V e.M = true) (hf : Po.matchB f.V f.M = true) :
    klP Try.prog e = klP Try.prog f ↔ e.V = f.V ∧ e.M = f.M := by
  constructor
  · intro h
    have h1 := keyV_some we we'
    have h2 := keyV_some wf wf'
    rw [← h] at h2
    have := enc_inj (law.inj h1 h2)
    have hs := Lb.same_lists he hf
    rw [(Lb.sameB_iff _ _ _ _).2 (fun k hk => by have := this k hk; rw [Po.pv_yes he, Po.pm_yes he, Po.pv_yes hf, Po.pm_yes hf] at this; exact this)] at hs
    simpa using hs.symm
  · rintro ⟨h1, h2⟩
    unfold klP keyV
    rw [h1, h2]

/-- What the map holds of the entries s .. t - 1. -/
structure Keys (Q : List Ent) (s t : Nat) (D : DataW Unit) : Prop where
  has : ∀ l, Maps.has D l = true ↔ ∃ i, s ≤ i ∧ i < t ∧ klP Try.prog (Q.getD i e0) = l
  at_ : ∀ i, s ≤ i → i < t → (∀ j, i < j → j < t → klP Try.prog (Q.getD j e0) ≠ klP Try.prog (Q.getD i e0)) → ∀ z, D.atKey (klP Try.prog (Q.getD i e0)) z = .lit (.int .i64 i)
  none2 : (∀ i j, s ≤ i → i < j → j < t → klP Try.prog (Q.getD i e0) ≠ klP Try.prog (Q.getD j e0)) → Maps.size D = t - s
  two : (∃ i j, s ≤ i ∧ i < j ∧ j < t ∧ klP Try.prog (Q.getD i e0) = klP Try.prog (Q.getD j e0)) → Maps.size D < t - s
theorem keys_nil (Q : List Ent) (s : Nat) : Keys Q s s (.map []) :=
  ⟨fun l => by simp [Maps.has]; intro i h1 h2; omega, fun i h1 h2 => by omega, fun _ => by simp [Maps.size], fun ⟨i, j, h1, h2, h3, _⟩ => by omega⟩
theorem keys_step {Q : List Ent} {s t : Nat} {D : DataW Unit} (h : Keys Q s t D) (hst : s ≤ t) (hD : Tidy D) (hk : WideAt.IsKeyLit (klP Try.prog (Q.getD t e0))) : Keys Q s (t + 1) (D.put (klP Try.prog (Q.getD t e0)) (.lit (.int .i64 t))) := by
  have hm := hD.isMap
  refine ⟨fun l => ?_, fun i h1 h2 h3 z => ?_, fun h1 => ?_, fun ⟨i, j, h1, h2, h3, h4⟩ => ?_⟩
  · by_cases e : l = klP Try.prog (Q.getD t e0)
    · subst e
      rw [has_put_same hm hk]
      exact ⟨fun _ => ⟨t, hst, by omega, rfl⟩, fun _ => rfl⟩
    · rw [has_put_other e, h.has l]
      constructor
      · rintro ⟨i, h1, h2, h3⟩; exact ⟨i, h1, by omega, h3⟩
      · rintro ⟨i, h1, h2, h3⟩
        refine ⟨i, h1, ?_, h3⟩
        rcases Nat.lt_or_ge i t with h4 | h4
        · exact h4
        · have : i = t := by omega
          subst this; exact absurd h3.symm e
  · by_cases e : i = t
    · subst e; exact atKey_put_same hm hk _ _
    · have hne : klP Try.prog (Q.getD i e0) ≠ klP Try.prog (Q.getD t e0) := fun hh => h3 t (by omega) (by omega) hh.symm
      rw [atKey_put_other hne]
      exact h.at_ i h1 (by omega) (fun j a1 a2 => h3 j a1 (by omega)) z
  · have hn : Maps.has D (klP Try.prog (Q.getD t e0)) = false := by
      cases hh : Maps.has D (klP Try.prog (Q.getD t e0))
      · rfl
      · obtain ⟨i, a1, a2, a3⟩ := (h.has _).1 hh
        exact absurd a3 (h1 i t a1 a2 (by omega))
    rw [size_put hD, hn, h.none2 (fun i j a1 a2 a3 => h1 i j a1 a2 (by omega))]
    simp; omega
  · rw [size_put hD]
    have le : Maps.size D ≤ t - s := by
      by_cases hh : ∃ i j, s ≤ i ∧ i < j ∧ j < t ∧ klP Try.prog (Q.getD i e0) = klP Try.prog (Q.getD j e0)
      · have := h.two hh; omega
      · have := h.none2 (fun i j a1 a2 a3 a4 => hh ⟨i, j, a1, a2, a3, a4⟩); omega
    cases hh : Maps.has D (klP Try.prog (Q.getD t e0))
    · have hj : j ≠ t := by
        rintro rfl
        have := (h.has _).2 ⟨i, h1, h2, h4⟩
        rw [hh] at this; cases this
      have := h.two ⟨i, j, h1, h2, by omega, h4⟩
      simp; omega
    · simp; omega

/-- The entries s .. t - 1 have the rank of e, the next has not. -/
def Span (Q : List Ent) (e : Ent) (s t : Nat) : Prop := s ≤ t ∧ t ≤ Q.length ∧ (∀ i, s ≤ i → i < t → rk (Q.getD i e0) e = 0) ∧ (t < Q.length → rk (Q.getD t e0) e ≠ 0)
def ResK (w : World) (Q : List Ent) (e : Ent) (x : Ending) (w' : World) : Prop :=
  Below w.heap.size w w' ∧ ∃ (B s t : Nat) (D : DataW Unit), x = .returned (.tuple #[.map (some B), .int .i64 t]) ∧ w.heap.size ≤ B ∧ w'.ownsMap Try.prog 97 (plainElem Try.prog 3) B (t - s) D ∧ Ra.Place Q e s ∧ Span Q e s t ∧ Keys Q s t D

theorem grown_below {w w' w0 : World} {b : Nat} (h : Below w0.heap.size w0 w) (hg : w.grownBy w' (some b)) (hb : w0.heap.size ≤ b) : Below w0.heap.size w0 w' :=
  h.grown hg h.size (fun k hk => by cases hk; exact hb)
theorem map_block {w w' : World} {R : Value → Option (DataW Unit × List MemPlace)} {b n : Nat} {D : DataW Unit} (h : w.ownsMap Try.prog 97 R b n D) (e : w'.heap[b]? = w.heap[b]?) : w'.ownsMap Try.prog 97 R b n D := by
  obtain ⟨es, clock, hb, r⟩ := h
  exact ⟨es, clock, e.trans hb, r⟩
theorem map_below {w w' : World} {R : Value → Option (DataW Unit × List MemPlace)} {b n : Nat} {D : DataW Unit} (h : w.ownsMap Try.prog 97 R b n D) (hb : Below w.heap.size w w') : w'.ownsMap Try.prog 97 R b n D := map_block h (hb.block b h.lt)
theorem map_same {w w' : World} {g : Nat} {R : Value → Option (DataW Unit × List MemPlace)} {b n : Nat} {D : DataW Unit} (h : w.ownsMap Try.prog 97 R b n D) (hb : Pa.Same g w w') (hg : b ≠ g) : w'.ownsMap Try.prog 97 R b n D := map_block h (hb.block b hg)

set_option maxHeartbeats 16000000 in
theorem places_any (a : Option Addr) (b off cap : Nat) (Q : List Ent) (e : Ent) (w : World) (h : Rd w a b off Q) (hmono : ∀ i j, i ≤ j → j < Q.length → rk (Q.getD j e0) e < 0 → rk (Q.getD i e0) e < 0) :
    Calls Try.prog 77 #[.slice a Q.length cap, .agg e.vals] w (ResK w Q e) := by
  obtain ⟨W1, hW1⟩ : ∃ W1, W1 = (w.alloc (.cells e.vals 41)).alloc (.map #[] 0) := ⟨_, rfl⟩
  have B1 : Below w.heap.size w W1 := by subst hW1; exact Rw.next (below_alloc1 _ _) (below_alloc1 _ _)
  have k0 : W1.heap[w.heap.size]? = some (.cells #[.int .i64 e.ep, .int .i64 e.pr, .slice e.aV e.V.length e.cV, .slice e.aM e.M.length e.cM, .slice e.aA e.A.length e.cA, .int .i64 e.h] 41 (0, 0)) := by subst hW1; rw [at_old (by simp), at_new rfl]; rfl
  have hm0 : W1.ownsMap Try.prog 97 (plainElem (H := Unit) Try.prog 3) (w.heap.size + 1) 0 (.map []) := by
    subst hW1
    have := World.ownsMap_made (H := Unit) (w.alloc (.cells e.vals 41)) Try.prog 97 (plainElem Try.prog 3)
    simpa using this
  have h1 := h.below B1
  have hmm := @run_makeMap Try.prog
  obtain ⟨hh, hc, ho, hs⟩ := h
  have hP := search_any a b off cap Q e W1 h1 hmono
  clear h1
  obtain ⟨n, hn⟩ : ∃ n, n = Q.length := ⟨_, rfl⟩
  rw [← hn] at hh hc ho hs hP ⊢
  have HN : Hid (n = Q.length) := hn
  clear hn hmono
  simp only [ent_vals] at hW1 hP ⊢
  go_enter Try.func77, Try.ntmps77
  go_wp2_with (go_at_call 130; rw [← hW1]; clear hW1 hmm; refine hP.mono ?_; rintro x1 wa ⟨hb, s, r0, rfl, hpl⟩; replace k0 := (hb.block _ (blk_lt k0)).trans k0; replace hm0 := map_below hm0 hb; replace B1 := Rw.next B1 hb; clear hb hP)
  have HPl : Hid (Ra.Place Q e s) := hpl
  have hsn : s ≤ n := by have := HN.out; have := hpl.1; omega
  clear hpl
  go_loopw [7] (fun u wr => ∃ (t : Nat) (D : DataW Unit), s ≤ t ∧ t ≤ n ∧ u = .int .i64 t ∧ Below w.heap.size w wr ∧ wr.heap[w.heap.size]? = some (.cells #[.int .i64 e.ep, .int .i64 e.pr, .slice e.aV e.V.length e.cV, .slice e.aM e.M.length e.cM, .slice e.aA e.A.length e.cA, .int .i64 e.h] 41 (0, 0)) ∧ wr.ownsMap Try.prog 97 (plainElem Try.prog 3) (w.heap.size + 1) (t - s) D ∧ Keys Q s t D ∧ ∀ i, s ≤ i → i < t → rk (Q.getD i e0) e = 0) (fun u _ => n - (intOf u).toNat)
  case atStart => exact ⟨s, .map [], Nat.le_refl _, hsn, rfl, B1, k0, by simpa using hm0, keys_nil Q s, fun i h1 h2 => by omega⟩
  case round =>
    clear k0 B1 hm0
    obtain ⟨t, D, hst, htn, rfl, hbel, kT, hown, hkeys, hrk⟩ := hrel
    have HK : Hid (Keys Q s t D) := hkeys
    have HR : Hid (∀ i, s ≤ i → i < t → rk (Q.getD i e0) e = 0) := hrk
    clear hkeys hrk
    obtain ⟨d0, d1, d2, d3, d4, d5⟩ := six kT
    have bt := blk_lt kT
    by_cases hlt : t < n
    · obtain rfl := hh (by omega)
      have hnz : (t : Int) < (n : Int) := by omega
      obtain ⟨c0, c1, c2, c3, c4, c5⟩ := ((hc t hlt).of hbel (At6.lt (hc t hlt))).six
      have ok := (ho t hlt).of hbel (Nat.le_refl _)
      have bl : b < wr.heap.size := World.block_lt_of_cell? _ _ c0
      clear hc hh ho
      obtain ⟨x, hx⟩ : ∃ x, x = Q.getD t e0 := ⟨_, rfl⟩
      rw [← hx] at c0 c1 c2 c3 c4 c5 ok
      have HX : Hid (Q.getD t e0 = x) := hx.symm
      clear hx
      have hcall := rank_any x e
      simp only [ent_vals] at hcall
      by_cases hr : rk x e = 0
      · rw [hr] at hcall
        have HZ : Hid (rk x e = 0) := hr
        clear hr
        obtain ⟨r, hr⟩ : ∃ r : Int, r = 0 := ⟨_, rfl⟩
        rw [← hr] at hcall
        go_wp2
        refine wp_region_held_drew (S := (fun w' => w'.cell? ⟨b, off + t * 6, none⟩ = some (.int .i64 x.ep) ∧ w'.cell? ⟨b, off + t * 6 + 1, none⟩ = some (.int .i64 x.pr) ∧ w'.cell? ⟨b, off + t * 6 + 2, none⟩ = some (.slice x.aV x.V.length x.cV) ∧ w'.cell? ⟨b, off + t * 6 + 3, none⟩ = some (.slice x.aM x.M.length x.cM) ∧ w'.cell? ⟨b, off + t * 6 + 4, none⟩ = some (.slice x.aA x.A.length x.cA) ∧ w'.cell? ⟨b, off + t * 6 + 5, none⟩ = some (.int .i64 x.h) ∧ w'.cell? ⟨w.heap.size, 0, none⟩ = some (.int .i64 e.ep) ∧ w'.cell? ⟨w.heap.size, 1, none⟩ = some (.int .i64 e.pr) ∧ w'.cell? ⟨w.heap.size, 2, none⟩ = some (.slice e.aV e.V.length e.cV) ∧ w'.cell? ⟨w.heap.size, 3, none⟩ = some (.slice e.aM e.M.length e.cM) ∧ w'.cell? ⟨w.heap.size, 4, none⟩ = some (.slice e.aA e.A.length e.cA) ∧ w'.cell? ⟨w.heap.size, 5, none⟩ = some (.int .i64 e.h))) (by kernel_rfl) ⟨c0, c1, c2, c3, c4, c5, d0, d1, d2, d3, d4, d5⟩ (fun hHeld => ?_)
        refine take (i := 0) (d := some 18) (v := .int .i64 t) rfl (by kernel_rfl) (by kernel_rfl) (by kernel_rfl) (by kernel_rfl) (fun _ _ _ h => h) (Or.inl ⟨by rfl, by intro w hSw; go_simp⟩) hHeld ?_
        simp only [Act.put, List.setIfInBounds_toArray, List.set_cons_zero, List.set_cons_succ]
        refine take (i := 1) (d := some 19) (v := .slice (some ⟨b, off, none⟩) n cap) rfl (by kernel_rfl) (by kernel_rfl) (by kernel_rfl) (by kernel_rfl) (fun _ _ _ h => h) (Or.inl ⟨by rfl, by intro w hSw; go_simp⟩) hHeld ?_
        simp only [Act.put, List.setIfInBounds_toArray, List.set_cons_zero, List.set_cons_succ]
        refine take (i := 2) (d := some 20) (v := .int .i64 n) rfl (by kernel_rfl) (by kernel_rfl) (by kernel_rfl) (by kernel_rfl) (fun _ _ _ h => h) (Or.inl ⟨by rfl, by intro w hSw; go_simp⟩) hHeld ?_
        simp only [Act.put, List.setIfInBounds_toArray, List.set_cons_zero, List.set_cons_succ]
        refine take (i := 3) (d := some 21) (v := .bool true) rfl (by kernel_rfl) (by kernel_rfl) (by kernel_rfl) (by kernel_rfl) (fun _ _ _ h => h) (Or.inl ⟨by rfl, by intro w hSw; go_simp⟩) hHeld ?_
        simp only [Act.put, List.setIfInBounds_toArray, List.set_cons_zero, List.set_cons_succ]
        refine take (i := 4) (d := some 22) (v := .bool true) rfl (by kernel_rfl) (by kernel_rfl) (by kernel_rfl) (by kernel_rfl) (fun _ _ _ h => h) (Or.inl ⟨by rfl, by intro w hSw; go_simp⟩) hHeld ?_
        simp only [Act.put, List.setIfInBounds_toArray, List.set_cons_zero, List.set_cons_succ]
        refine take (i := 5) (d := some 23) (v := .slice (some ⟨b, off, none⟩) n cap) rfl (by kernel_rfl) (by kernel_rfl) (by kernel_rfl) (by kernel_rfl) (fun _ _ _ h => h) (Or.inl ⟨by rfl, by intro w hSw; go_simp⟩) hHeld ?_
        simp only [Act.put, List.setIfInBounds_toArray, List.set_cons_zero, List.set_cons_succ]
        refine take (i := 6) (d := some 24) (v := .int .i64 t) rfl (by kernel_rfl) (by kernel_rfl) (by kernel_rfl) (by kernel_rfl) (fun _ _ _ h => h) (Or.inl ⟨by rfl, by intro w hSw; go_simp⟩) hHeld ?_
        simp only [Act.put, List.setIfInBounds_toArray, List.set_cons_zero, List.set_cons_succ]
        refine take (i := 7) (d := some 25) (v := .pointer (some ⟨b, off + t * 6, none⟩)) rfl (by kernel_rfl) (by kernel_rfl) (by kernel_rfl) (by kernel_rfl) (fun _ _ _ h => h) (Or.inl ⟨by rfl, by intro w hSw; go_simp⟩) hHeld ?_
        simp only [Act.put, List.setIfInBounds_toArray, List.set_cons_zero, List.set_cons_succ]
        refine take (i := 8) (d := some 26) (v := .agg #[.int .i64 x.ep, .int .i64 x.pr, .slice x.aV x.V.length x.cV, .slice x.aM x.M.length x.cM, .slice x.aA x.A.length x.cA, .int .i64 x.h]) rfl (by kernel_rfl) (by kernel_rfl) (by kernel_rfl) (by kernel_rfl) (fun _ _ _ h => h) (Or.inl ⟨by rfl, by intro w hSw; obtain ⟨c0, c1, c2, c3, c4, c5, d0, d1, d2, d3, d4, d5⟩ := hSw; go_simp⟩) hHeld ?_
        simp only [Act.put, List.setIfInBounds_toArray, List.set_cons_zero, List.set_cons_succ]
        refine take (i := 9) (d := some 27) (v := .agg #[.int .i64 e.ep, .int .i64 e.pr, .slice e.aV e.V.length e.cV, .slice e.aM e.M.length e.cM, .slice e.aA e.A.length e.cA, .int .i64 e.h]) rfl (by kernel_rfl) (by kernel_rfl) (by kernel_rfl) (by kernel_rfl) (fun _ _ _ h => h) (Or.inl ⟨by rfl, by intro w hSw; obtain ⟨c0, c1, c2, c3, c4, c5, d0, d1, d2, d3, d4, d5⟩ := hSw; go_simp⟩) hHeld ?_
        simp only [Act.put, List.setIfInBounds_toArray, List.set_cons_zero, List.set_cons_succ]
        refine wpAnyH_ready (rs := [10]) (by kernel_rfl) (by simp) (Rg.call2 (i := 10) rfl (by rfl) 94 (.tmp 26) (.tmp 27) 41 41 (by kernel_rfl) 28 (by kernel_rfl) _ _ (by kernel_rfl) (by kernel_rfl) (fun _ => rfl) (hcall _) ?_ AllReadyH.nil)
        rintro e1 w1 ⟨rfl, hb⟩
        refine ⟨_, rfl, ⟨(hb.cell (by exact bl)).trans c0, (hb.cell (by exact bl)).trans c1, (hb.cell (by exact bl)).trans c2, (hb.cell (by exact bl)).trans c3, (hb.cell (by exact bl)).trans c4, (hb.cell (by exact bl)).trans c5, (hb.cell (by exact bt)).trans d0, (hb.cell (by exact bt)).trans d1, (hb.cell (by exact bt)).trans d2, (hb.cell (by exact bt)).trans d3, (hb.cell (by exact bt)).trans d4, (hb.cell (by exact bt)).trans d5⟩, fun hHeld => ?_⟩
        simp only [Act.put, List.setIfInBounds_toArray, List.set_cons_zero, List.set_cons_succ]
        refine take (i := 11) (d := some 29) (v := .bool true) rfl (by kernel_rfl) (by kernel_rfl) (by kernel_rfl) (by kernel_rfl) (fun _ _ _ h => h) (Or.inl ⟨by rfl, by intro w hSw; go_simp⟩) hHeld ?_
        simp only [Act.put, List.setIfInBounds_toArray, List.set_cons_zero, List.set_cons_succ]
        refine take (i := 12) (d := some 30) (v := .bool true) rfl (by kernel_rfl) (by kernel_rfl) (by kernel_rfl) (by kernel_rfl) (fun _ _ _ h => h) (Or.inl ⟨by rfl, by intro w hSw; go_simp⟩) hHeld ?_
        simp only [Act.put, List.setIfInBounds_toArray, List.set_cons_zero, List.set_cons_succ]
        refine wpAnyH_done (by kernel_rfl) ?_ _
        subst hr
        replace kT := (hb.block _ bt).trans kT
        have ok1 := ok.of (Rw.next ((Below.refl wr.heap.size wr).drew) hb) (Nat.le_refl _)
        have own1 := map_below hown.drew hb
        replace hbel := Rw.next (by repeat (first | exact hbel | apply Below.drew)) hb
        have q2 : w1.cell? ⟨b, off + t * 6 + 2, none⟩ = some (.slice x.aV x.V.length x.cV) := (hb.cell (by exact bl)).trans c2
        have q3 : w1.cell? ⟨b, off + t * 6 + 3, none⟩ = some (.slice x.aM x.M.length x.cM) := (hb.cell (by exact bl)).trans c3
        have bl1 : b < w1.heap.size := World.block_lt_of_cell? _ _ q2
        clear hb c0 c1 c2 c3 c4 c5 d0 d1 d2 d3 d4 d5 ok hown bt bl hcall
        have hkey := keyV_some ok1.wV ok1.wM
        unfold keyV at hkey
        have hkl := law.key hkey
        have t1 : True := trivial
        have lB : w.heap.size + 1 < w1.heap.size := own1.lt
        go_wp2_with (first
          | (go_at_call 72; refine (Po.pairs_any _ _ _ _ _ _ _ _ x.V x.M _ ok1.rV ok1.rM ok1.wV).mono ?_; rintro x2 w2 ⟨rfl, hb⟩; replace kT := (hb.block _ (blk_lt kT)).trans kT; replace own1 := map_below own1 hb; replace hbel := Rw.next hbel hb; replace lB := Nat.lt_of_lt_of_le lB hb.size; clear hb ok1)
          | (clear t1; refine store66 rfl _ _ rfl rfl rfl (has_zero rfl) (fun w3 hX hS => ?_); replace kT := (hS.block _ (Nat.ne_of_lt (blk_lt kT))).trans ((at_old (blk_lt kT)).trans kT); replace own1 := map_same (own1.alloc _) hS (by simp; omega); replace hbel := hS.below (Rw.next hbel (below_alloc1 _ _)) hbel.size; have t2 : True := trivial; clear hS)
          | (clear t2; refine load66 rfl _ rfl rfl hX ?_; have t3 : True := trivial)
          | (clear t3; at_mapUpdate; refine wpList_mapUpdate_own _ rfl _ _ _ 112 rfl 97 3 law Try.underlying112 _ (w.heap.size + 1) (t - s) D rfl own1 (by unfold maxLen; omega) _ _ _ rfl rfl hkey _ [] (plainElem_int Try.underlying3 (WalkArith.wf_i64 (by omega))) ?_; intro w4 own2 hg2; have kT4 := (hg2.block _ (blk_lt kT) (by simp)).trans kT; have bel4 := grown_below hbel hg2 (by omega)))
        go_roundw
        case rel =>
          refine ⟨t + 1, D.put (klP Try.prog x) (.lit (.int .i64 t)), by omega, by omega, by go_num, bel4, kT4, ?_, ?_, fun i h1 h2 => ?_⟩
          · rw [show t + 1 - s = t - s + 1 by omega]; exact own2
          · have := keys_step HK.out hst (own1.tidy law) (by rw [HX.out]; exact hkl)
            rw [HX.out] at this
            exact this
          · by_cases e1 : i = t
            · subst e1; rw [HX.out]; exact HZ.out
            · exact HR.out i h1 (by omega)
        case measure => simp [intOf]; omega
      · have HZ : Hid (¬ rk x e = 0) := hr
        obtain ⟨r, hr1⟩ : ∃ r : Int, r = rk x e := ⟨_, rfl⟩
        rw [← hr1] at hcall hr
        have hr' : (r == 0) = false := by simpa using hr
        clear hr1
        go_wp2
        refine wp_region_held_drew (S := (fun w' => w'.cell? ⟨b, off + t * 6, none⟩ = some (.int .i64 x.ep) ∧ w'.cell? ⟨b, off + t * 6 + 1, none⟩ = some (.int .i64 x.pr) ∧ w'.cell? ⟨b, off + t * 6 + 2, none⟩ = some (.slice x.aV x.V.length x.cV) ∧ w'.cell? ⟨b, off + t * 6 + 3, none⟩ = some (.slice x.aM x.M.length x.cM) ∧ w'.cell? ⟨b, off + t * 6 + 4, none⟩ = some (.slice x.aA x.A.length x.cA) ∧ w'.cell? ⟨b, off + t * 6 + 5, none⟩ = some (.int .i64 x.h) ∧ w'.cell? ⟨w.heap.size, 0, none⟩ = some (.int .i64 e.ep) ∧ w'.cell? ⟨w.heap.size, 1, none⟩ = some (.int .i64 e.pr) ∧ w'.cell? ⟨w.heap.size, 2, none⟩ = some (.slice e.aV e.V.length e.cV) ∧ w'.cell? ⟨w.heap.size, 3, none⟩ = some (.slice e.aM e.M.length e.cM) ∧ w'.cell? ⟨w.heap.size, 4, none⟩ = some (.slice e.aA e.A.length e.cA) ∧ w'.cell? ⟨w.heap.size, 5, none⟩ = some (.int .i64 e.h))) (by kernel_rfl) ⟨c0, c1, c2, c3, c4, c5, d0, d1, d2, d3, d4, d5⟩ (fun hHeld => ?_)
        refine take (i := 0) (d := some 18) (v := .int .i64 t) rfl (by kernel_rfl) (by kernel_rfl) (by kernel_rfl) (by kernel_rfl) (fun _ _ _ h => h) (Or.inl ⟨by rfl, by intro w hSw; go_simp⟩) hHeld ?_
        simp only [Act.put, List.setIfInBounds_toArray, List.set_cons_zero, List.set_cons_succ]
        refine take (i := 1) (d := some 19) (v := .slice (some ⟨b, off, none⟩) n cap) rfl (by kernel_rfl) (by kernel_rfl) (by kernel_rfl) (by kernel_rfl) (fun _ _ _ h => h) (Or.inl ⟨by rfl, by intro w hSw; go_simp⟩) hHeld ?_
        simp only [Act.put, List.setIfInBounds_toArray, List.set_cons_zero, List.set_cons_succ]
        refine take (i := 2) (d := some 20) (v := .int .i64 n) rfl (by kernel_rfl) (by kernel_rfl) (by kernel_rfl) (by kernel_rfl) (fun _ _ _ h => h) (Or.inl ⟨by rfl, by intro w hSw; go_simp⟩) hHeld ?_
        simp only [Act.put, List.setIfInBounds_toArray, List.set_cons_zero, List.set_cons_succ]
        refine take (i := 3) (d := some 21) (v := .bool true) rfl (by kernel_rfl) (by kernel_rfl) (by kernel_rfl) (by kernel_rfl) (fun _ _ _ h => h) (Or.inl ⟨by rfl, by intro w hSw; go_simp⟩) hHeld ?_
        simp only [Act.put, List.setIfInBounds_toArray, List.set_cons_zero, List.set_cons_succ]
        refine take (i := 4) (d := some 22) (v := .bool true) rfl (by kernel_rfl) (by kernel_rfl) (by kernel_rfl) (by kernel_rfl) (fun _ _ _ h => h) (Or.inl ⟨by rfl, by intro w hSw; go_simp⟩) hHeld ?_
        simp only [Act.put, List.setIfInBounds_toArray, List.set_cons_zero, List.set_cons_succ]
        refine take (i := 5) (d := some 23) (v := .slice (some ⟨b, off, none⟩) n cap) rfl (by kernel_rfl) (by kernel_rfl) (by kernel_rfl) (by kernel_rfl) (fun _ _ _ h => h) (Or.inl ⟨by rfl, by intro w hSw; go_simp⟩) hHeld ?_
        simp only [Act.put, List.setIfInBounds_toArray, List.set_cons_zero, List.set_cons_succ]
        refine take (i := 6) (d := some 24) (v := .int .i64 t) rfl (by kernel_rfl) (by kernel_rfl) (by kernel_rfl) (by kernel_rfl) (fun _ _ _ h => h) (Or.inl ⟨by rfl, by intro w hSw; go_simp⟩) hHeld ?_
        simp only [Act.put, List.setIfInBounds_toArray, List.set_cons_zero, List.set_cons_succ]
        refine take (i := 7) (d := some 25) (v := .pointer (some ⟨b, off + t * 6, none⟩)) rfl (by kernel_rfl) (by kernel_rfl) (by kernel_rfl) (by kernel_rfl) (fun _ _ _ h => h) (Or.inl ⟨by rfl, by intro w hSw; go_simp⟩) hHeld ?_
        simp only [Act.put, List.setIfInBounds_toArray, List.set_cons_zero, List.set_cons_succ]
        refine take (i := 8) (d := some 26) (v := .agg #[.int .i64 x.ep, .int .i64 x.pr, .slice x.aV x.V.length x.cV, .slice x.aM x.M.length x.cM, .slice x.aA x.A.length x.cA, .int .i64 x.h]) rfl (by kernel_rfl) (by kernel_rfl) (by kernel_rfl) (by kernel_rfl) (fun _ _ _ h => h) (Or.inl ⟨by rfl, by intro w hSw; obtain ⟨c0, c1, c2, c3, c4, c5, d0, d1, d2, d3, d4, d5⟩ := hSw; go_simp⟩) hHeld ?_
        simp only [Act.put, List.setIfInBounds_toArray, List.set_cons_zero, List.set_cons_succ]
        refine take (i := 9) (d := some 27) (v := .agg #[.int .i64 e.ep, .int .i64 e.pr, .slice e.aV e.V.length e.cV, .slice e.aM e.M.length e.cM, .slice e.aA e.A.length e.cA, .int .i64 e.h]) rfl (by kernel_rfl) (by kernel_rfl) (by kernel_rfl) (by kernel_rfl) (fun _ _ _ h => h) (Or.inl ⟨by rfl, by intro w hSw; obtain ⟨c0, c1, c2, c3, c4, c5, d0, d1, d2, d3, d4, d5⟩ := hSw; go_simp⟩) hHeld ?_
        simp only [Act.put, List.setIfInBounds_toArray, List.set_cons_zero, List.set_cons_succ]
        refine wpAnyH_ready (rs := [10]) (by kernel_rfl) (by simp) (Rg.call2 (i := 10) rfl (by rfl) 94 (.tmp 26) (.tmp 27) 41 41 (by kernel_rfl) 28 (by kernel_rfl) _ _ (by kernel_rfl) (by kernel_rfl) (fun _ => rfl) (hcall _) ?_ AllReadyH.nil)
        rintro e1 w1 ⟨rfl, hb⟩
        refine ⟨_, rfl, ⟨(hb.cell (by exact bl)).trans c0, (hb.cell (by exact bl)).trans c1, (hb.cell (by exact bl)).trans c2, (hb.cell (by exact bl)).trans c3, (hb.cell (by exact bl)).trans c4, (hb.cell (by exact bl)).trans c5, (hb.cell (by exact bt)).trans d0, (hb.cell (by exact bt)).trans d1, (hb.cell (by exact bt)).trans d2, (hb.cell (by exact bt)).trans d3, (hb.cell (by exact bt)).trans d4, (hb.cell (by exact bt)).trans d5⟩, fun hHeld => ?_⟩
        simp only [Act.put, List.setIfInBounds_toArray, List.set_cons_zero, List.set_cons_succ]
        refine take (i := 11) (d := some 29) (v := .bool false) rfl (by kernel_rfl) (by kernel_rfl) (by kernel_rfl) (by kernel_rfl) (fun _ _ _ h => h) (Or.inl ⟨by rfl, by intro w hSw; go_simp⟩) hHeld ?_
        simp only [Act.put, List.setIfInBounds_toArray, List.set_cons_zero, List.set_cons_succ]
        refine take (i := 12) (d := some 30) (v := .bool false) rfl (by kernel_rfl) (by kernel_rfl) (by kernel_rfl) (by kernel_rfl) (fun _ _ _ h => h) (Or.inl ⟨by rfl, by intro w hSw; go_simp⟩) hHeld ?_
        simp only [Act.put, List.setIfInBounds_toArray, List.set_cons_zero, List.set_cons_succ]
        refine wpAnyH_done (by kernel_rfl) ?_ _
        have own1 := map_below hown.drew hb
        go_wp2
        exact bodyPost_ret (v := .tuple #[.map (some (w.heap.size + 1)), .int .i64 t]) (by simp [results, Try.results77, go_sem]) rfl ⟨Rw.next (by repeat (first | exact hbel | apply Below.drew)) hb, w.heap.size + 1, s, t, D, rfl, by omega, own1, HPl.out, ⟨hst, by have := HN.out; omega, HR.out, fun _ => by rw [HX.out]; exact HZ.out⟩, HK.out⟩
    · obtain rfl : t = n := by omega
      obtain ⟨n, hn2⟩ : ∃ n, n = t := ⟨_, rfl⟩
      have hnz : ¬ (t : Int) < (n : Int) := by omega
      rw [← hn2]
      go_wp2
      refine wp_region_held_drew (S := (fun _ => True)) (by kernel_rfl) trivial (fun hHeld => ?_)
      refine take (i := 0) (d := some 18) (v := .int .i64 t) rfl (by kernel_rfl) (by kernel_rfl) (by kernel_rfl) (by kernel_rfl) (fun _ _ _ h => h) (Or.inl ⟨by rfl, by intro w hSw; go_simp⟩) hHeld ?_
      simp only [Act.put, List.setIfInBounds_toArray, List.set_cons_zero, List.set_cons_succ]
      refine take (i := 1) (d := some 19) (v := .slice a n cap) rfl (by kernel_rfl) (by kernel_rfl) (by kernel_rfl) (by kernel_rfl) (fun _ _ _ h => h) (Or.inl ⟨by rfl, by intro w hSw; go_simp⟩) hHeld ?_
      simp only [Act.put, List.setIfInBounds_toArray, List.set_cons_zero, List.set_cons_succ]
      refine take (i := 2) (d := some 20) (v := .int .i64 n) rfl (by kernel_rfl) (by kernel_rfl) (by kernel_rfl) (by kernel_rfl) (fun _ _ _ h => h) (Or.inl ⟨by rfl, by intro w hSw; go_simp⟩) hHeld ?_
      simp only [Act.put, List.setIfInBounds_toArray, List.set_cons_zero, List.set_cons_succ]
      refine take (i := 3) (d := some 21) (v := .bool false) rfl (by kernel_rfl) (by kernel_rfl) (by kernel_rfl) (by kernel_rfl) (fun _ _ _ h => h) (Or.inl ⟨by rfl, by intro w hSw; go_simp⟩) hHeld ?_
      simp only [Act.put, List.setIfInBounds_toArray, List.set_cons_zero, List.set_cons_succ]
      refine take (i := 4) (d := some 22) (v := .bool false) rfl (by kernel_rfl) (by kernel_rfl) (by kernel_rfl) (by kernel_rfl) (fun _ _ _ h => h) (Or.inl ⟨by rfl, by intro w hSw; go_simp⟩) hHeld ?_
      simp only [Act.put, List.setIfInBounds_toArray, List.set_cons_zero, List.set_cons_succ]
      refine take (i := 5) (d := some 23) (v := undef) rfl (by kernel_rfl) (by kernel_rfl) (by kernel_rfl) (by kernel_rfl) (fun _ _ _ h => h) (Or.inr ⟨by rfl, rfl⟩) hHeld ?_
      simp only [Act.put, List.setIfInBounds_toArray, List.set_cons_zero, List.set_cons_succ]
      refine take (i := 6) (d := some 24) (v := undef) rfl (by kernel_rfl) (by kernel_rfl) (by kernel_rfl) (by kernel_rfl) (fun _ _ _ h => h) (Or.inr ⟨by rfl, rfl⟩) hHeld ?_
      simp only [Act.put, List.setIfInBounds_toArray, List.set_cons_zero, List.set_cons_succ]
      refine take (i := 7) (d := some 25) (v := undef) rfl (by kernel_rfl) (by kernel_rfl) (by kernel_rfl) (by kernel_rfl) (fun _ _ _ h => h) (Or.inr ⟨by rfl, rfl⟩) hHeld ?_
      simp only [Act.put, List.setIfInBounds_toArray, List.set_cons_zero, List.set_cons_succ]
      refine take (i := 8) (d := some 26) (v := undef) rfl (by kernel_rfl) (by kernel_rfl) (by kernel_rfl) (by kernel_rfl) (fun _ _ _ h => h) (Or.inr ⟨by rfl, rfl⟩) hHeld ?_
      simp only [Act.put, List.setIfInBounds_toArray, List.set_cons_zero, List.set_cons_succ]
      refine take (i := 9) (d := some 27) (v := undef) rfl (by kernel_rfl) (by kernel_rfl) (by kernel_rfl) (by kernel_rfl) (fun _ _ _ h => h) (Or.inr ⟨by rfl, rfl⟩) hHeld ?_
      simp only [Act.put, List.setIfInBounds_toArray, List.set_cons_zero, List.set_cons_succ]
      refine take (i := 10) (d := some 28) (v := undef) rfl (by kernel_rfl) (by kernel_rfl) (by kernel_rfl) (by kernel_rfl) (fun _ _ _ h => h) (Or.inr ⟨by rfl, rfl⟩) hHeld ?_
      simp only [Act.put, List.setIfInBounds_toArray, List.set_cons_zero, List.set_cons_succ]
      refine take (i := 11) (d := some 29) (v := undef) rfl (by kernel_rfl) (by kernel_rfl) (by kernel_rfl) (by kernel_rfl) (fun _ _ _ h => h) (Or.inr ⟨by rfl, rfl⟩) hHeld ?_
      simp only [Act.put, List.setIfInBounds_toArray, List.set_cons_zero, List.set_cons_succ]
      refine take (i := 12) (d := some 30) (v := .bool false) rfl (by kernel_rfl) (by kernel_rfl) (by kernel_rfl) (by kernel_rfl) (fun _ _ _ h => h) (Or.inl ⟨by rfl, by intro w hSw; go_simp⟩) hHeld ?_
      simp only [Act.put, List.setIfInBounds_toArray, List.set_cons_zero, List.set_cons_succ]
      refine wpAnyH_done (by kernel_rfl) ?_ _
      go_wp2
      exact bodyPost_ret (v := .tuple #[.map (some (w.heap.size + 1)), .int .i64 t]) (by simp [results, Try.results77, go_sem]) rfl ⟨by repeat (first | exact hbel | apply Below.drew), w.heap.size + 1, s, t, D, rfl, by omega, hown.drew, HPl.out, ⟨hst, by have := HN.out; omega, HR.out, fun h => by have := HN.out; omega⟩, HK.out⟩

end Go.Proofs.Ytcbgnfjnjfaacaa.Ka
namespace Go.Proofs.Ytcbgnfjnjfaacaa.Ka
set_option maxRecDepth 8000
set_option linter.unusedSimpArgs false
set_option linter.unusedVariables false
open Go Go.RowKit Go.Maps
open Num Pl Ea Ra Pq Pa

theorem rk_lt {a b : Ent} : rk a b < 0 ↔ (a.ep < b.ep ∨ a.ep = b.ep ∧ b.pr < a.pr) := by
  unfold rk orI cmpI
  repeat' split
  all_goals omega
theorem rk_eq {a b : Ent} : rk a b = 0 ↔ (a.ep = b.ep ∧ a.pr = b.pr) := by
  unfold rk orI cmpI
  repeat' split
  all_goals omega

/-- Is the one ahead of the other? Have they one key? -/
def Ahead (a b : En) : Prop := a.1 < b.1 ∨ a.1 = b.1 ∧ b.2.1 < a.2.1
def SameKey (a b : En) : Prop := a.1 = b.1 ∧ a.2.1 = b.2.1 ∧ a.2.2.1 = b.2.2.1 ∧ a.2.2.2.1 = b.2.2.2.1
def x0 : En := e0.said
/-- Is a table right? -/
structure TabP (q : Int) (L : List En) : Prop where
  q0 : 0 ≤ q
  q1 : q ≤ 400
  len : (L.length : Int) ≤ q
  each : ∀ i, i < L.length → enB (L.getD i x0) = true
  sorted : ∀ i, i + 1 < L.length → ¬ Ahead (L.getD (i + 1) x0) (L.getD i x0)
  once : ∀ i j, i < j → j < L.length → ¬ SameKey (L.getD i x0) (L.getD j x0)
theorem said_getD (Q : List Ent) (i : Nat) : (Q.map Ent.said).getD i x0 = (Q.getD i e0).said := by
  simp [List.getD, Option.getD_map, x0]
theorem ahead_rk {a b : Ent} : Ahead a.said b.said ↔ rk a b < 0 := rk_lt.symm

/-- The entries are right, and stand in order. -/
structure Good (Q : List Ent) : Prop where
  right : ∀ i, i < Q.length → enB (Q.getD i e0).said = true
  sorted : ∀ i, i + 1 < Q.length → ¬ rk (Q.getD (i + 1) e0) (Q.getD i e0) < 0
theorem Good.le {Q : List Ent} (h : Good Q) {i j : Nat} (hij : i ≤ j) (hj : j < Q.length) : ¬ rk (Q.getD j e0) (Q.getD i e0) < 0 := by
  induction j with
  | zero => have : i = 0 := by omega
            subst this; rw [rk_lt]; omega
  | succ j ih =>
    by_cases e : i = j + 1
    · subst e; rw [rk_lt]; omega
    · have h1 := ih (by omega) (by omega)
      have h2 := h.sorted j hj
      rw [rk_lt] at h1 h2 ⊢
      omega
theorem Good.mono {Q : List Ent} (h : Good Q) (e : Ent) : ∀ i j, i ≤ j → j < Q.length → rk (Q.getD j e0) e < 0 → rk (Q.getD i e0) e < 0 := by
  intro i j hij hj hr
  have h1 := h.le hij hj
  rw [rk_lt] at h1 hr ⊢
  omega
theorem right_match {x : En} (h : enB x = true) : Po.matchB x.2.2.1 x.2.2.2.1 = true := by
  simp only [enB, Bool.and_eq_true] at h
  exact h.2.2.2.1
theorem kl_said {Q : List Ent} (h : Good Q) {w : World} (ho : ∀ i, i < Q.length → (Q.getD i e0).Ok w) {i j : Nat} (hi : i < Q.length) (hj : j < Q.length) : klP Try.prog (Q.getD i e0) = klP Try.prog (Q.getD j e0) ↔ (Q.getD i e0).V = (Q.getD j e0).V ∧ (Q.getD i e0).M = (Q.getD j e0).M :=
  kl_iff (ho i hi).wV (ho i hi).wM (ho j hj).wV (ho j hj).wM (right_match (h.right i hi)) (right_match (h.right j hj))

/-- No key stands twice. -/
def Once (Q : List Ent) (n : Nat) : Prop := ∀ i j, i < j → j < n → rk (Q.getD i e0) (Q.getD j e0) = 0 → ¬ ((Q.getD i e0).V = (Q.getD j e0).V ∧ (Q.getD i e0).M = (Q.getD j e0).M)

/-- At the beginning of a rank the search finds just that place. -/
theorem place_at {Q : List Ent} {f s : Nat} (hf : f < Q.length) (hb : ∀ m, m < f → rk (Q.getD m e0) (Q.getD f e0) < 0) (h : Ra.Place Q (Q.getD f e0) s) : s = f := by
  obtain ⟨h1, h2, h3⟩ := h
  rcases Nat.lt_trichotomy s f with h4 | h4 | h4
  · exact absurd (hb s h4) (h3 s (Nat.le_refl _) (by omega))
  · exact h4
  · have := h2 f h4
    rw [rk_lt] at this
    omega

set_option maxHeartbeats 4000000 in
theorem none_any (a : Option Addr) (b off cap : Nat) (Q : List Ent) (w : World) (h : Rd w a b off Q) (hG : Good Q) (R : Bool) (hR : R = true ↔ Once Q Q.length) :
    Calls Try.prog 95 #[.slice a Q.length cap] w fun e w' => e = .returned (.bool R) ∧ Below w.heap.size w w' := by
  have hpl := places_any a b off cap Q
  have hr0 := h
  obtain ⟨hh, hc, ho, hs⟩ := h
  have HO : Hid (∀ i, i < Q.length → (Q.getD i e0).Ok w) := ho
  have HR : Hid (R = true ↔ Once Q Q.length) := hR
  have HD : Hid (Rd w a b off Q) := hr0
  obtain ⟨n, hn⟩ : ∃ n, n = Q.length := ⟨_, rfl⟩
  rw [← hn] at hh hc hs hpl ⊢
  have HN : Hid (n = Q.length) := hn
  clear hn ho hR hr0
  simp only [ent_vals] at hpl
  go_enter Try.func95, Try.ntmps95
  go_wp2
  go_loopw [3] (fun u wr => ∃ f : Nat, f ≤ n ∧ u = .int .i64 f ∧ Below w.heap.size w wr ∧ Once Q f ∧ (f < n → ∀ m, m < f → rk (Q.getD m e0) (Q.getD f e0) < 0)) (fun u _ => n - (intOf u).toNat)
  case atStart => exact ⟨0, Nat.zero_le _, rfl, Below.refl _ _, fun i j h1 h2 => by omega, fun _ m hm => by omega⟩
  case round =>
    obtain ⟨f, hf, rfl, hbel, hon, hbd⟩ := hrel
    have HF : Hid (Once Q f ∧ (f < n → ∀ m, m < f → rk (Q.getD m e0) (Q.getD f e0) < 0)) := ⟨hon, hbd⟩
    clear hon hbd
    by_cases hlt : f < n
    · obtain ⟨on1, bd1⟩ := HF.out
      obtain rfl := hh (by omega)
      have hnz : (f : Int) < (n : Int) := by omega
      obtain ⟨c0, c1, c2, c3, c4, c5⟩ := ((hc f hlt).of hbel (At6.lt (hc f hlt))).six
      have hrd := HD.out.below hbel
      have hmo := hG.mono (Q.getD f e0)
      have hnq := HN.out
      obtain ⟨x, hx⟩ : ∃ x, x = Q.getD f e0 := ⟨_, rfl⟩
      have hcall := hpl x wr hrd (by rw [hx, hnq]; exact hmo)
      rw [← hx] at c0 c1 c2 c3 c4 c5
      have HX : Hid (x = Q.getD f e0) := hx
      have HB : Hid (∀ m, m < f → rk (Q.getD m e0) (Q.getD f e0) < 0) := bd1 hlt
      clear hx hmo hc hh hpl on1 bd1 hnq hrd
      go_wp2_with (go_at_call 77; refine hcall.mono ?_; rintro x1 w1 ⟨hb, B, s, t, D, rfl, hB, hown, hp, hsp, hk⟩; replace hbel := Rw.next hbel hb; clear hb)
      have hnq := HN.out
      have hp' := hp
      rw [HX.out] at hp'
      obtain rfl : s = f := place_at (by omega) HB.out hp'
      obtain ⟨st, tn, sp1, sp2⟩ := hsp
      have htn : t ≤ n := by omega
      have hft : s < t := by
        rcases Nat.lt_or_ge s t with h1 | h1
        · exact h1
        · exfalso
          have : s = t := by omega
          subst this
          exact sp2 (by omega) (by rw [HX.out, rk_eq]; exact ⟨rfl, rfl⟩)
      have hlast : ∀ i j, i < j → s ≤ j → j < t → i < s → ¬ rk (Q.getD i e0) (Q.getD j e0) = 0 := by
        intro i j hij hj1 hj2 his h0
        have a1 := HB.out i his
        have a2 := sp1 j hj1 hj2
        rw [HX.out] at a2
        rw [rk_lt] at a1
        rw [rk_eq] at a2 h0
        omega
      have htz : (t : Int) - (s : Int) = ((t - s : Nat) : Int) := by omega
      have HS : Hid (∀ i, s ≤ i → i < t → rk (Q.getD i e0) x = 0) := sp1
      have HS2 : Hid (t < Q.length → rk (Q.getD t e0) x ≠ 0) := sp2
      have HLa : Hid (∀ i j, i < j → s ≤ j → j < t → i < s → ¬ rk (Q.getD i e0) (Q.getD j e0) = 0) := hlast
      have HKe : Hid (Keys Q s t D) := hk
      have HT : Hid (t ≤ Q.length) := tn
      clear hp hp' sp1 sp2 hlast hk tn hnq st
      by_cases hdup : ∃ i j, s ≤ i ∧ i < j ∧ j < t ∧ klP Try.prog (Q.getD i e0) = klP Try.prog (Q.getD j e0)
      · have hsz := HKe.out.two hdup
        have hszz : (Maps.size D : Int) < ((t - s : Nat) : Int) := by omega
        clear hsz
        have HDup : Hid (∃ i j, s ≤ i ∧ i < j ∧ j < t ∧ klP Try.prog (Q.getD i e0) = klP Try.prog (Q.getD j e0)) := hdup
        clear hdup
        have hlen := hown.len (t := 112) (e := 3) Try.underlying112 3
        generalize (Maps.size D : Int) = zD at *
        go_wp2
        rw [hlen]
        simp only [Result.andThen]
        go_wp2
        go_ret
        refine ⟨ret_bool ?_, hbel⟩
        cases R
        · rfl
        · exfalso
          obtain ⟨i, j, h1, h2, h3, h4⟩ := HDup.out
          have hT := HT.out
          have a1 := HS.out i h1 (by omega)
          have a2 := HS.out j (by omega) h3
          exact (HR.out.1 rfl) i j h2 (by omega) (by rw [rk_eq] at a1 a2 ⊢; omega) ((kl_said hG HO.out (by omega) (by omega)).1 h4)
      · have hsz := HKe.out.none2 (fun i j h1 h2 h3 h4 => hdup ⟨i, j, h1, h2, h3, h4⟩)
        have hszz : ¬ (Maps.size D : Int) < ((t - s : Nat) : Int) := by omega
        have HDup : Hid (¬ ∃ i j, s ≤ i ∧ i < j ∧ j < t ∧ klP Try.prog (Q.getD i e0) = klP Try.prog (Q.getD j e0)) := hdup
        clear hdup
        have hlen := hown.len (t := 112) (e := 3) Try.underlying112 3
        generalize (Maps.size D : Int) = zD at *
        go_wp2
        go_roundw
        case rel =>
          have hT := HT.out
          have hnq := HN.out
          refine ⟨t, htn, rfl, hbel, fun i j h1 h2 h3 h4 => ?_, fun h1 m hm => ?_⟩
          · rcases Nat.lt_or_ge j s with hj | hj
            · exact HF.out.1 i j h1 hj h3 h4
            · rcases Nat.lt_or_ge i s with hi | hi
              · exact HLa.out i j h1 hj h2 hi h3
              · exact HDup.out ⟨i, j, hi, h1, h2, (kl_said hG HO.out (by omega) (by omega)).2 h4⟩
          · have a0 := HS2.out (by omega)
            have a1 := hG.le (i := s) (j := t) (by omega) (by omega)
            rw [HX.out] at a0
            rcases Nat.lt_or_ge m s with hm1 | hm1
            · have a2 := HB.out m hm1
              rw [rk_lt] at a1 a2 ⊢
              have a3 : ¬ ((Q.getD t e0).ep = (Q.getD s e0).ep ∧ (Q.getD t e0).pr = (Q.getD s e0).pr) := fun h => a0 (rk_eq.2 h)
              omega
            · have a2 := HS.out m hm1 hm
              rw [HX.out, rk_eq] at a2
              rw [rk_lt] at a1 ⊢
              have a3 : ¬ ((Q.getD t e0).ep = (Q.getD s e0).ep ∧ (Q.getD t e0).pr = (Q.getD s e0).pr) := fun h => a0 (rk_eq.2 h)
              omega
        case measure => simp [intOf]; omega
    · obtain rfl : f = n := by omega
      go_wp2
      go_ret
      refine ⟨ret_bool ?_, hbel⟩
      have := HN.out
      exact (HR.out.2 (by rw [← this]; exact HF.out.1)).symm

end Go.Proofs.Ytcbgnfjnjfaacaa.Ka
namespace Go.Proofs.Ytcbgnfjnjfaacaa.Cp
set_option maxRecDepth 8000
set_option linter.unusedSimpArgs false
set_option linter.unusedVariables false
open Go Go.RowKit
open Num Pl Ea Em Ka

/-- All of wr is kept but block ob and the row of v. -/
structure Stab (wr : World) (ob : Nat) (v : Value) (w' : World) : Prop where
  size : wr.heap.size ≤ w'.heap.size
  block : ∀ k, k < wr.heap.size → k ≠ ob → some k ≠ v.ownBlock → w'.heap[k]? = wr.heap[k]?
theorem Stab.refl (wr : World) (ob : Nat) (v : Value) : Stab wr ob v wr.drew := ⟨Nat.le_refl _, fun _ _ _ _ => rfl⟩
theorem Stab.below {wr w1 w2 : World} {ob : Nat} {v : Value} (h : Stab wr ob v w1) (hb : Below w1.heap.size w1 w2) : Stab wr ob v w2 :=
  ⟨Nat.le_trans h.size hb.size, fun k hk h1 h2 => (hb.block k (Nat.lt_of_lt_of_le hk h.size)).trans (h.block k hk h1 h2)⟩
theorem Stab.grown {wr w1 w2 : World} {ob : Nat} {v : Value} (h : Stab wr ob v w1) (hg : w1.grownBy w2 v.ownBlock) : Stab wr ob v w2 :=
  ⟨Nat.le_trans h.size hg.size, fun k hk h1 h2 => (hg.block k (Nat.lt_of_lt_of_le hk h.size) h2).trans (h.block k hk h1 h2)⟩
theorem Stab.set {wr w1 : World} {ob i : Nat} {v u : Value} (h : Stab wr ob v w1) : Stab wr ob v (w1.setCell ⟨ob, i, none⟩ u) :=
  ⟨by simpa using h.size, fun k hk h1 h2 => (blk_other rfl (Ne.symm h1)).trans (h.block k hk h1 h2)⟩
theorem exec_one {o : Oper} {a : Act} {w : World} {x : Operand} {f : Ent} (ho : o.op = .buildSlice 36 1 #[(0, x)]) (hx : a.eval x = .agg f.vals) : (execOp a.eval o).run Try.prog w = .ok (.value (.slice (some ⟨w.heap.size, 0, none⟩) 1 1)) (w.alloc (.cells f.vals 41)) := by
  unfold execOp
  simp only [ho, List.map_toArray, List.map_cons, List.map_nil, hx, Ent.vals]
  kernel_rfl
theorem OT.slice {w : World} {B : Nat} {v : Value} {F : List Ent} (h : OT w B v F) : ∃ a n c, v = .slice a n c := by
  rcases h.own.2 with ⟨e, _⟩ | ⟨g, cap, cur, e, _⟩
  · exact ⟨_, _, _, e⟩
  · exact ⟨_, _, _, e⟩
/-- Those of the first i for which p holds. -/
def sel (p : Nat → Bool) (L : List En) : Nat → List En
  | 0 => []
  | i + 1 => if p i = true then sel p L i ++ [L.getD i x0] else sel p L i
theorem sel_len (p : Nat → Bool) (L : List En) (i : Nat) : (sel p L i).length ≤ i := by
  induction i with
  | zero => simp [sel]
  | succ i ih =>
    simp only [sel]
    split
    · simp; omega
    · omega
/-- A table and a number are handed back. -/
def ResT (w : World) (q : Int) (L : List En) (m : Int) (e : Ending) (w' : World) : Prop :=
  ∃ v F, e = .returned (.tuple #[.agg #[.int .i64 q, v], .int .i64 m]) ∧ OT w' w.heap.size v F ∧ F.map Ent.said = L ∧ Below w.heap.size w w'

def Tells90 (g0 : Nat) (Q : List Ent) (w : World) (p : Nat → Bool) : Prop := ∀ k, k < Q.length → ∀ W, Below w.heap.size w W → Calls Try.prog 90 #[.agg #[.int .i64 (Q.getD k e0).ep, .int .i64 (Q.getD k e0).pr, .slice (Q.getD k e0).aV (Q.getD k e0).V.length (Q.getD k e0).cV, .slice (Q.getD k e0).aM (Q.getD k e0).M.length (Q.getD k e0).cM, .slice (Q.getD k e0).aA (Q.getD k e0).A.length (Q.getD k e0).cA, .int .i64 (Q.getD k e0).h], .pointer (some ⟨g0, 0, none⟩)] W fun e w' => e = .returned (.bool (p k)) ∧ Below W.heap.size W w'
set_option maxHeartbeats 16000000 in
theorem sieve90 (q : Int) (a : Option Addr) (b off cap : Nat) (g0 : Nat) (Q : List Ent) (p : Nat → Bool) (w : World) (h : Rd w a b off Q) (h4 : Q.length ≤ 400) (hP : Tells90 g0 Q w p) (m : Int) (hm : m = (Q.length : Int) - ((sel p (Q.map Ent.said) Q.length).length : Int)) :
    Calls Try.prog 86 #[.agg #[.int .i64 q, .slice a Q.length cap], .func (.func 90) #[] #[.pointer (some ⟨g0, 0, none⟩)]] w (ResT w q (sel p (Q.map Ent.said) Q.length) m) := by
  obtain ⟨W1, hW1⟩ : ∃ W1, W1 = ((w.alloc (.cells #[.int .i64 q, .slice a Q.length cap] 38)).alloc (.cells #[.int .i64 0, .slice none 0 0] 38)).alloc (.cells #[.int .i64 q, .slice none 0 0] 38) := ⟨_, rfl⟩
  have B1 : Below w.heap.size w W1 := by subst hW1; exact Rw.next (Rw.next (below_alloc1 _ _) (below_alloc1 _ _)) (below_alloc1 _ _)
  have kT : W1.heap[w.heap.size]? = some (.cells #[.int .i64 q, .slice a Q.length cap] 38 (0, 0)) := by subst hW1; rw [at_old (by simp <;> omega), at_old (by simp), at_new rfl]
  have kR : W1.heap[w.heap.size + 1]? = some (.cells #[.int .i64 0, .slice none 0 0] 38 (0, 0)) := by subst hW1; rw [at_old (by simp), at_new (by simp)]
  have kO : W1.heap[w.heap.size + 1 + 1]? = some (.cells #[.int .i64 q, .slice none 0 0] 38 (0, 0)) := by subst hW1; exact at_new (by simp)
  obtain ⟨hh, hc, ho, hs⟩ := h
  unfold Tells90 at hP
  obtain ⟨n, hn⟩ : ∃ n, n = Q.length := ⟨_, rfl⟩
  rw [← hn] at hh hc ho hs hP hW1 kT h4 hm ⊢
  have HN : Hid (n = Q.length) := hn
  have HM : Hid (m = (n : Int) - ((sel p (Q.map Ent.said) n).length : Int)) := hm
  clear hn hm
  obtain ⟨B, hB⟩ : ∃ B, B = w.heap.size + 1 + 1 + 1 := ⟨_, rfl⟩
  have zW1 : B ≤ W1.heap.size := by have := blk_lt kO; omega
  have hBo : w.heap.size + 1 + 1 < B := by omega
  have HB : Hid (B = w.heap.size + 1 + 1 + 1) := hB
  clear hB
  have hwo : w.heap.size ≤ w.heap.size + 1 + 1 := by omega
  go_enter Try.func86, Try.ntmps86
  go_wp2
  rw [← hW1]
  clear hW1
  go_loopw [15] (fun u wr => ∃ (i : Nat) (v : Value) (F : List Ent), i ≤ n ∧ u = .int .i64 i ∧ Below w.heap.size w wr ∧ wr.heap[w.heap.size]? = some (.cells #[.int .i64 q, .slice a n cap] 38 (0, 0)) ∧ wr.heap[w.heap.size + 1]? = some (.cells #[.int .i64 0, .slice none 0 0] 38 (0, 0)) ∧ wr.heap[w.heap.size + 1 + 1]? = some (.cells #[.int .i64 q, v] 38 (0, 0)) ∧ OT wr B v F ∧ B ≤ wr.heap.size ∧ F.map Ent.said = sel p (Q.map Ent.said) i) (fun u _ => n - (intOf u).toNat)
  case atStart => exact ⟨0, .slice none 0 0, [], Nat.zero_le _, rfl, B1, kT, kR, kO, OT.nil _ _, zW1, rfl⟩
  case round =>
    clear B1 kT kR kO zW1
    obtain ⟨i, v, F, hi, rfl, B1, kT, kR, kO, hot, hBs, hF⟩ := hrel
    have HF : Hid (F.map Ent.said = sel p (Q.map Ent.said) i) := hF
    have hFl : F.length ≤ 100000 := by
      have e1 := congrArg List.length hF
      have e2 := sel_len p (Q.map Ent.said) i
      simp only [List.length_map] at e1
      omega
    clear hF
    by_cases hlt : i < n
    · obtain rfl := hh (by omega)
      have hnz : (i : Int) < (n : Int) := by omega
      obtain ⟨c0, c1, c2, c3, c4, c5⟩ := ((hc i hlt).of B1 (At6.lt (hc i hlt))).six
      have ok := (ho i hlt).of B1 (Nat.le_refl _)
      obtain ⟨x, hx⟩ : ∃ x, x = Q.getD i e0 := ⟨_, rfl⟩
      have hcl := hP i hlt
      rw [← hx] at c0 c1 c2 c3 c4 c5 ok hcl
      have HX : Hid (Q.getD i e0 = x) := hx.symm
      clear hx hc ho hh hP
      obtain ⟨W2, hW2⟩ : ∃ W2, W2 = wr.alloc (.cells #[.int .i64 x.ep, .int .i64 x.pr, .slice x.aV x.V.length x.cV, .slice x.aM x.M.length x.cM, .slice x.aA x.A.length x.cA, .int .i64 x.h] 41) := ⟨_, rfl⟩
      have kE : W2.heap[wr.heap.size]? = some (.cells #[.int .i64 x.ep, .int .i64 x.pr, .slice x.aV x.V.length x.cV, .slice x.aM x.M.length x.cM, .slice x.aA x.A.length x.cA, .int .i64 x.h] 41 (0, 0)) := by subst hW2; exact at_new rfl
      have hb : Below wr.heap.size wr W2 := by subst hW2; exact below_alloc1 _ _
      have hca := hcl W2 (Rw.next B1 hb)
      have eb : ∃ eb, eb = wr.heap.size := ⟨_, rfl⟩
      obtain ⟨eb, heb⟩ := eb
      have ebB : B ≤ eb := by omega
      have ebR : ∀ k, v.ownBlock = some k → k < eb := fun k hk => by have := (hot.row_lt hk).2; omega
      replace kT := (hb.block _ (blk_lt kT)).trans kT
      replace kR := (hb.block _ (blk_lt kR)).trans kR
      replace kO := (hb.block _ (blk_lt kO)).trans kO
      replace hot := hot.below hb
      replace ok := ok.below hb
      replace B1 := Rw.next B1 hb
      have hBs2 : B ≤ W2.heap.size := Nat.le_trans hBs hb.size
      clear hb hcl hBs
      rw [← heb] at kE
      cases hp : p i
      · rw [hp] at hca
        have HP : Hid (p i = false) := hp
        clear hp
        go_wp2_with (go_at_call 90; rw [← hW2]; clear hW2; refine hca.mono ?_; rintro e1 w3 ⟨rfl, hb⟩)
        go_roundw
        case rel => exact ⟨i + 1, v, F, by omega, by go_num, Rw.next B1 hb, (hb.block _ (blk_lt kT)).trans kT, (hb.block _ (blk_lt kR)).trans kR, (hb.block _ (blk_lt kO)).trans kO, hot.below hb, Nat.le_trans hBs2 hb.size, by simp only [sel]; rw [HP.out]; exact HF.out⟩
        case measure => simp [intOf]; omega
      · rw [hp] at hca
        have HP : Hid (p i = true) := hp
        clear hp
        go_wp2_with (go_at_call 90; rw [← hW2]; clear hW2; refine hca.mono ?_; rintro e1 w3 ⟨rfl, hb⟩; replace kT := (hb.block _ (blk_lt kT)).trans kT; replace kR := (hb.block _ (blk_lt kR)).trans kR; replace kO := (hb.block _ (blk_lt kO)).trans kO; replace kE := (hb.block _ (blk_lt kE)).trans kE; replace hot := hot.below hb; replace ok := ok.below hb; replace B1 := Rw.next B1 hb; replace hBs2 := Nat.le_trans hBs2 hb.size; clear hb)
        rw [← heb]
        clear heb hca c0 c1 c2 c3 c4 c5
        generalize w3 = wr at *
        · have hcp := fun W (ok : Ent.Ok W x) => copyE x W ok
          simp only [ent_vals x] at hcp
          have lE := blk_lt kE
          have hSt : ∀ w', Stab wr (w.heap.size + 1 + 1) v w' → w'.cell? ⟨eb, 0, none⟩ = some (.int .i64 x.ep) ∧ w'.cell? ⟨eb, 1, none⟩ = some (.int .i64 x.pr) ∧ w'.cell? ⟨eb, 2, none⟩ = some (.slice x.aV x.V.length x.cV) ∧ w'.cell? ⟨eb, 3, none⟩ = some (.slice x.aM x.M.length x.cM) ∧ w'.cell? ⟨eb, 4, none⟩ = some (.slice x.aA x.A.length x.cA) ∧ w'.cell? ⟨eb, 5, none⟩ = some (.int .i64 x.h) :=
            fun w' h => six ((h.block eb lE (by omega) (fun e => by have := ebR _ e.symm; omega)).trans kE)
          refine wp_region_held_drew (S := Stab wr (w.heap.size + 1 + 1) v) (by kernel_rfl) (Stab.refl _ _ _) (fun hHeld => ?_)
          refine Pq.take (i := 0) (d := some 22) (v := .pointer (some ⟨w.heap.size + 1 + 1, 1, none⟩)) rfl (by kernel_rfl) (by kernel_rfl) (by kernel_rfl) (by kernel_rfl) (fun _ _ _ h => h) (Or.inl ⟨by rfl, by intro w hSw; go_simp⟩) hHeld ?_
          simp only [Act.put, List.setIfInBounds_toArray, List.set_cons_zero, List.set_cons_succ]
          refine Pq.take (i := 2) (d := some 24) (v := .agg #[.int .i64 x.ep, .int .i64 x.pr, .slice x.aV x.V.length x.cV, .slice x.aM x.M.length x.cM, .slice x.aA x.A.length x.cA, .int .i64 x.h]) rfl (by kernel_rfl) (by kernel_rfl) (by kernel_rfl) (by kernel_rfl) (fun _ _ _ h => h) (Or.inl ⟨by rfl, by intro w hSw; obtain ⟨s0, s1, s2, s3, s4, s5⟩ := hSt w hSw; go_simp⟩) hHeld ?_
          simp only [Act.put, List.setIfInBounds_toArray, List.set_cons_zero, List.set_cons_succ]
          have st : Stab wr (w.heap.size + 1 + 1) v wr.drew := Stab.refl _ _ _
          have hot0 : OT wr.drew B v F := hot.below ((Below.refl _ _).drew)
          have kO0 : wr.drew.heap[w.heap.size + 1 + 1]? = some (.cells #[.int .i64 q, v] 38 (0, 0)) := kO
          have ok0 := ok.below ((Below.refl wr.heap.size wr).drew)
          have B2 := Rw.next B1 ((Below.refl wr.heap.size wr).drew)
          have sW : wr.drew.heap.size = wr.heap.size := rfl
          generalize wr.drew = W at *
          refine wpAnyH_ready (rs := [1, 3]) (by kernel_rfl) (by simp) (Yh.readyRun (i := 1) rfl (by kernel_rfl) (some 23) (by kernel_rfl) (v := v) (w' := W) (by obtain ⟨o0, o1⟩ := Pm.two kO0; go_simp) st (fun hHeld => ?_) (Rg.call1 (i := 3) rfl (by rfl) 79 (.tmp 24) 41 (by kernel_rfl) 25 (by kernel_rfl) (.agg #[.int .i64 x.ep, .int .i64 x.pr, .slice x.aV x.V.length x.cV, .slice x.aM x.M.length x.cM, .slice x.aA x.A.length x.cA, .int .i64 x.h]) (by kernel_rfl) (fun _ => rfl) (hcp _ ok0) ?_ AllReadyH.nil))
          · simp only [Act.put, List.setIfInBounds_toArray, List.set_cons_zero, List.set_cons_succ]
            refine wpAnyH_ready (rs := [3]) (by kernel_rfl) (by simp) (Rg.call1 (i := 3) rfl (by rfl) 79 (.tmp 24) 41 (by kernel_rfl) 25 (by kernel_rfl) (.agg #[.int .i64 x.ep, .int .i64 x.pr, .slice x.aV x.V.length x.cV, .slice x.aM x.M.length x.cM, .slice x.aA x.A.length x.cA, .int .i64 x.h]) (by kernel_rfl) (fun _ => rfl) (hcp _ ok0) ?_ AllReadyH.nil)
            rintro e1 Wc ⟨f, rfl, sf, hf, hb⟩
            replace st := st.below hb
            replace kO0 := (hb.block _ (blk_lt kO0)).trans kO0
            have hbc := hb
            replace B2 := Rw.next B2 hb
            have sC := hb.size
            refine ⟨_, rfl, st, fun hHeld => ?_⟩
            simp only [Act.put, List.setIfInBounds_toArray, List.set_cons_zero, List.set_cons_succ]
            refine wpAnyH_ready (rs := [4]) (by kernel_rfl) (by simp) (Yh.readyRun (i := 4) rfl (by kernel_rfl) (some 26) (by kernel_rfl) (v := .slice (some ⟨Wc.heap.size, 0, none⟩) 1 1) (w' := Wc.alloc (.cells f.vals 41)) (exec_one rfl (by kernel_rfl)) (st.below (below_alloc1 _ _)) (fun hHeld => ?_) AllReadyH.nil)
            simp only [Act.put, List.setIfInBounds_toArray, List.set_cons_zero, List.set_cons_succ]
            obtain ⟨Wd, hWd⟩ : ∃ Wd, Wd = Wc.alloc (.cells f.vals 41) := ⟨_, rfl⟩
            rw [← hWd] at hHeld ⊢
            have hT : Wd.heap[Wc.heap.size]? = some (.cells f.vals 41 (0, 0)) := by subst hWd; exact at_new rfl
            have hb : Below Wc.heap.size Wc Wd := by subst hWd; exact below_alloc1 _ _
            replace st := st.below hb
            replace kO0 := (hb.block _ (blk_lt kO0)).trans kO0
            replace B2 := Rw.next B2 hb
            have hf2 := hf.below hb
            have hbd := Rw.next hbc hb
            clear hb hWd
            obtain ⟨v', Z, hrun, hotZ, hgr⟩ := hot0.app 36 (c := 1) hbd hf2 (Nat.le_refl _) (by omega) hT hFl
            refine wpAnyH_ready (rs := [5]) (by kernel_rfl) (by simp) (Yh.readyRun (i := 5) rfl (by kernel_rfl) (some 27) (by kernel_rfl) (exec_app (.tmp 23) (.tmp 26) rfl (by kernel_rfl) (by kernel_rfl) hrun) (st.grown hgr) (fun hHeld => ?_) AllReadyH.nil)
            simp only [Act.put, List.setIfInBounds_toArray, List.set_cons_zero, List.set_cons_succ]
            replace st := st.grown hgr
            obtain ⟨va, vn, vc, hv⟩ := hotZ.slice
            subst hv
            have kOZ := (hgr.block _ (blk_lt kO0) (fun e => by have := (hot0.row_lt e.symm).1; omega)).trans kO0
            replace B2 := B2.grown hgr B2.size (fun k hk => by have := (hot0.row_lt hk).1; omega)
            obtain ⟨o0, o1⟩ := Pm.two kOZ
            have fO := Bl.free kOZ
            refine Pq.take (i := 6) (d := some 28) (v := .pointer (some ⟨w.heap.size + 1 + 1, 1, none⟩)) rfl (by kernel_rfl) (by kernel_rfl) (by kernel_rfl) (by kernel_rfl) (fun _ _ _ h => h) (Or.inl ⟨by rfl, by intro w hSw; go_simp⟩) hHeld ?_
            simp only [Act.put, List.setIfInBounds_toArray, List.set_cons_zero, List.set_cons_succ]
            refine wpAnyH_ready (rs := [7]) (by kernel_rfl) (by simp) (Yh.readySkip (i := 7) rfl (by kernel_rfl) none (by kernel_rfl) (w' := Z.setCell ⟨w.heap.size + 1 + 1, 1, none⟩ (.slice va vn vc)) (by go_simp) st.set (fun hHeld => ?_) AllReadyH.nil)
            simp only [Act.put, List.setIfInBounds_toArray, List.set_cons_zero, List.set_cons_succ]
            refine wpAnyH_done (by kernel_rfl) ?_ _
            have kO' : (Z.setCell ⟨w.heap.size + 1 + 1, 1, none⟩ (.slice va vn vc)).heap[w.heap.size + 1 + 1]? = some (.cells #[.int .i64 q, (.slice va vn vc)] 38 (0, 0)) := blk_same kOZ
            have B1' : Below w.heap.size w (Z.setCell ⟨w.heap.size + 1 + 1, 1, none⟩ (.slice va vn vc)) := Pm.bset B2 hwo
            have hot' : OT (Z.setCell ⟨w.heap.size + 1 + 1, 1, none⟩ (.slice va vn vc)) B (.slice va vn vc) (F ++ [f]) := hotZ.keep fun x _ hx => blk_other rfl (by omega)
            replace st : Stab wr (w.heap.size + 1 + 1) v (Z.setCell ⟨w.heap.size + 1 + 1, 1, none⟩ (.slice va vn vc)) := st.set
            go_wp2
            go_roundw
            case rel => exact ⟨i + 1, .slice va vn vc, F ++ [f], by omega, by go_num, B1', (st.block _ (by omega) (by omega) (fun e => by have := (hot.row_lt e.symm).1; omega)).trans kT, (st.block _ (by omega) (by omega) (fun e => by have := (hot.row_lt e.symm).1; omega)).trans kR, kO', hot', by have := st.size; omega, by simp only [sel]; rw [HP.out, if_pos rfl, List.map_append, ← HF.out, said_getD, HX.out]; simp [sf]⟩
            case measure => simp [intOf]; omega
          · rintro e1 Wc ⟨f, rfl, sf, hf, hb⟩
            replace st := st.below hb
            replace kO0 := (hb.block _ (blk_lt kO0)).trans kO0
            have hbc := hb
            replace B2 := Rw.next B2 hb
            have sC := hb.size
            refine ⟨_, rfl, st, fun hHeld => ?_⟩
            simp only [Act.put, List.setIfInBounds_toArray, List.set_cons_zero, List.set_cons_succ]
            refine wpAnyH_ready (rs := [1, 4]) (by kernel_rfl) (by simp) (Yh.readyRun (i := 1) rfl (by kernel_rfl) (some 23) (by kernel_rfl) (v := v) (w' := Wc) (by obtain ⟨o0, o1⟩ := Pm.two kO0; go_simp) st (fun hHeld => ?_) (Yh.readyRun (i := 4) rfl (by kernel_rfl) (some 26) (by kernel_rfl) (v := .slice (some ⟨Wc.heap.size, 0, none⟩) 1 1) (w' := Wc.alloc (.cells f.vals 41)) (exec_one rfl (by kernel_rfl)) (st.below (below_alloc1 _ _)) (fun hHeld => ?_) AllReadyH.nil))
            · simp only [Act.put, List.setIfInBounds_toArray, List.set_cons_zero, List.set_cons_succ]
              refine wpAnyH_ready (rs := [4]) (by kernel_rfl) (by simp) (Yh.readyRun (i := 4) rfl (by kernel_rfl) (some 26) (by kernel_rfl) (v := .slice (some ⟨Wc.heap.size, 0, none⟩) 1 1) (w' := Wc.alloc (.cells f.vals 41)) (exec_one rfl (by kernel_rfl)) (st.below (below_alloc1 _ _)) (fun hHeld => ?_) AllReadyH.nil)
              simp only [Act.put, List.setIfInBounds_toArray, List.set_cons_zero, List.set_cons_succ]
              obtain ⟨Wd, hWd⟩ : ∃ Wd, Wd = Wc.alloc (.cells f.vals 41) := ⟨_, rfl⟩
              rw [← hWd] at hHeld ⊢
              have hT : Wd.heap[Wc.heap.size]? = some (.cells f.vals 41 (0, 0)) := by subst hWd; exact at_new rfl
              have hb : Below Wc.heap.size Wc Wd := by subst hWd; exact below_alloc1 _ _
              replace st := st.below hb
              replace kO0 := (hb.block _ (blk_lt kO0)).trans kO0
              replace B2 := Rw.next B2 hb
              have hf2 := hf.below hb
              have hbd := Rw.next hbc hb
              clear hb hWd
              obtain ⟨v', Z, hrun, hotZ, hgr⟩ := hot0.app 36 (c := 1) hbd hf2 (Nat.le_refl _) (by omega) hT hFl
              refine wpAnyH_ready (rs := [5]) (by kernel_rfl) (by simp) (Yh.readyRun (i := 5) rfl (by kernel_rfl) (some 27) (by kernel_rfl) (exec_app (.tmp 23) (.tmp 26) rfl (by kernel_rfl) (by kernel_rfl) hrun) (st.grown hgr) (fun hHeld => ?_) AllReadyH.nil)
              simp only [Act.put, List.setIfInBounds_toArray, List.set_cons_zero, List.set_cons_succ]
              replace st := st.grown hgr
              obtain ⟨va, vn, vc, hv⟩ := hotZ.slice
              subst hv
              have kOZ := (hgr.block _ (blk_lt kO0) (fun e => by have := (hot0.row_lt e.symm).1; omega)).trans kO0
              replace B2 := B2.grown hgr B2.size (fun k hk => by have := (hot0.row_lt hk).1; omega)
              obtain ⟨o0, o1⟩ := Pm.two kOZ
              have fO := Bl.free kOZ
              refine Pq.take (i := 6) (d := some 28) (v := .pointer (some ⟨w.heap.size + 1 + 1, 1, none⟩)) rfl (by kernel_rfl) (by kernel_rfl) (by kernel_rfl) (by kernel_rfl) (fun _ _ _ h => h) (Or.inl ⟨by rfl, by intro w hSw; go_simp⟩) hHeld ?_
              simp only [Act.put, List.setIfInBounds_toArray, List.set_cons_zero, List.set_cons_succ]
              refine wpAnyH_ready (rs := [7]) (by kernel_rfl) (by simp) (Yh.readySkip (i := 7) rfl (by kernel_rfl) none (by kernel_rfl) (w' := Z.setCell ⟨w.heap.size + 1 + 1, 1, none⟩ (.slice va vn vc)) (by go_simp) st.set (fun hHeld => ?_) AllReadyH.nil)
              simp only [Act.put, List.setIfInBounds_toArray, List.set_cons_zero, List.set_cons_succ]
              refine wpAnyH_done (by kernel_rfl) ?_ _
              have kO' : (Z.setCell ⟨w.heap.size + 1 + 1, 1, none⟩ (.slice va vn vc)).heap[w.heap.size + 1 + 1]? = some (.cells #[.int .i64 q, (.slice va vn vc)] 38 (0, 0)) := blk_same kOZ
              have B1' : Below w.heap.size w (Z.setCell ⟨w.heap.size + 1 + 1, 1, none⟩ (.slice va vn vc)) := Pm.bset B2 hwo
              have hot' : OT (Z.setCell ⟨w.heap.size + 1 + 1, 1, none⟩ (.slice va vn vc)) B (.slice va vn vc) (F ++ [f]) := hotZ.keep fun x _ hx => blk_other rfl (by omega)
              replace st : Stab wr (w.heap.size + 1 + 1) v (Z.setCell ⟨w.heap.size + 1 + 1, 1, none⟩ (.slice va vn vc)) := st.set
              go_wp2
              go_roundw
              case rel => exact ⟨i + 1, .slice va vn vc, F ++ [f], by omega, by go_num, B1', (st.block _ (by omega) (by omega) (fun e => by have := (hot.row_lt e.symm).1; omega)).trans kT, (st.block _ (by omega) (by omega) (fun e => by have := (hot.row_lt e.symm).1; omega)).trans kR, kO', hot', by have := st.size; omega, by simp only [sel]; rw [HP.out, if_pos rfl, List.map_append, ← HF.out, said_getD, HX.out]; simp [sf]⟩
              case measure => simp [intOf]; omega
            · simp only [Act.put, List.setIfInBounds_toArray, List.set_cons_zero, List.set_cons_succ]
              obtain ⟨Wd, hWd⟩ : ∃ Wd, Wd = Wc.alloc (.cells f.vals 41) := ⟨_, rfl⟩
              rw [← hWd] at hHeld ⊢
              have hT : Wd.heap[Wc.heap.size]? = some (.cells f.vals 41 (0, 0)) := by subst hWd; exact at_new rfl
              have hb : Below Wc.heap.size Wc Wd := by subst hWd; exact below_alloc1 _ _
              replace st := st.below hb
              replace kO0 := (hb.block _ (blk_lt kO0)).trans kO0
              replace B2 := Rw.next B2 hb
              have hf2 := hf.below hb
              have hbd := Rw.next hbc hb
              clear hb hWd
              refine wpAnyH_ready (rs := [1]) (by kernel_rfl) (by simp) (Yh.readyRun (i := 1) rfl (by kernel_rfl) (some 23) (by kernel_rfl) (v := v) (w' := Wd) (by obtain ⟨o0, o1⟩ := Pm.two kO0; go_simp) st (fun hHeld => ?_) AllReadyH.nil)
              simp only [Act.put, List.setIfInBounds_toArray, List.set_cons_zero, List.set_cons_succ]
              obtain ⟨v', Z, hrun, hotZ, hgr⟩ := hot0.app 36 (c := 1) hbd hf2 (Nat.le_refl _) (by omega) hT hFl
              refine wpAnyH_ready (rs := [5]) (by kernel_rfl) (by simp) (Yh.readyRun (i := 5) rfl (by kernel_rfl) (some 27) (by kernel_rfl) (exec_app (.tmp 23) (.tmp 26) rfl (by kernel_rfl) (by kernel_rfl) hrun) (st.grown hgr) (fun hHeld => ?_) AllReadyH.nil)
              simp only [Act.put, List.setIfInBounds_toArray, List.set_cons_zero, List.set_cons_succ]
              replace st := st.grown hgr
              obtain ⟨va, vn, vc, hv⟩ := hotZ.slice
              subst hv
              have kOZ := (hgr.block _ (blk_lt kO0) (fun e => by have := (hot0.row_lt e.symm).1; omega)).trans kO0
              replace B2 := B2.grown hgr B2.size (fun k hk => by have := (hot0.row_lt hk).1; omega)
              obtain ⟨o0, o1⟩ := Pm.two kOZ
              have fO := Bl.free kOZ
              refine Pq.take (i := 6) (d := some 28) (v := .pointer (some ⟨w.heap.size + 1 + 1, 1, none⟩)) rfl (by kernel_rfl) (by kernel_rfl) (by kernel_rfl) (by kernel_rfl) (fun _ _ _ h => h) (Or.inl ⟨by rfl, by intro w hSw; go_simp⟩) hHeld ?_
              simp only [Act.put, List.setIfInBounds_toArray, List.set_cons_zero, List.set_cons_succ]
              refine wpAnyH_ready (rs := [7]) (by kernel_rfl) (by simp) (Yh.readySkip (i := 7) rfl (by kernel_rfl) none (by kernel_rfl) (w' := Z.setCell ⟨w.heap.size + 1 + 1, 1, none⟩ (.slice va vn vc)) (by go_simp) st.set (fun hHeld => ?_) AllReadyH.nil)
              simp only [Act.put, List.setIfInBounds_toArray, List.set_cons_zero, List.set_cons_succ]
              refine wpAnyH_done (by kernel_rfl) ?_ _
              have kO' : (Z.setCell ⟨w.heap.size + 1 + 1, 1, none⟩ (.slice va vn vc)).heap[w.heap.size + 1 + 1]? = some (.cells #[.int .i64 q, (.slice va vn vc)] 38 (0, 0)) := blk_same kOZ
              have B1' : Below w.heap.size w (Z.setCell ⟨w.heap.size + 1 + 1, 1, none⟩ (.slice va vn vc)) := Pm.bset B2 hwo
              have hot' : OT (Z.setCell ⟨w.heap.size + 1 + 1, 1, none⟩ (.slice va vn vc)) B (.slice va vn vc) (F ++ [f]) := hotZ.keep fun x _ hx => blk_other rfl (by omega)
              replace st : Stab wr (w.heap.size + 1 + 1) v (Z.setCell ⟨w.heap.size + 1 + 1, 1, none⟩ (.slice va vn vc)) := st.set
              go_wp2
              go_roundw
              case rel => exact ⟨i + 1, .slice va vn vc, F ++ [f], by omega, by go_num, B1', (st.block _ (by omega) (by omega) (fun e => by have := (hot.row_lt e.symm).1; omega)).trans kT, (st.block _ (by omega) (by omega) (fun e => by have := (hot.row_lt e.symm).1; omega)).trans kR, kO', hot', by have := st.size; omega, by simp only [sel]; rw [HP.out, if_pos rfl, List.map_append, ← HF.out, said_getD, HX.out]; simp [sf]⟩
              case measure => simp [intOf]; omega
    · obtain rfl : i = n := by omega
      obtain ⟨aF, gF, cF, rfl, _, _⟩ := hot.form (by omega)
      have hlen : F.length = (sel p (Q.map Ent.said) i).length := by rw [← HF.out]; simp
      have hz : (i : Int) - (F.length : Int) = m := by rw [hlen]; exact HM.out.symm
      have hwm : IntKind.i64.wrap m = m := by rw [IntKind.wrap_i64]; omega
      have HLen : Hid (F.length = (sel p (Q.map Ent.said) i).length) := hlen
      clear hlen hc ho hP
      go_wp2
      refine wp_region_held_drew (S := (fun w' => w'.heap[w.heap.size]? = some (.cells #[.int .i64 q, .slice a i cap] 38 (0, 0)) ∧ w'.heap[w.heap.size + 1 + 1]? = some (.cells #[.int .i64 q, .slice aF F.length cF] 38 (0, 0)))) (by kernel_rfl) ⟨kT, kO⟩ (fun hHeld => ?_)
      refine Pq.take (i := 0) (d := some 30) (v := .agg #[.int .i64 q, .slice aF F.length cF]) rfl (by kernel_rfl) (by kernel_rfl) (by kernel_rfl) (by kernel_rfl) (fun _ _ _ h => h) (Or.inl ⟨by rfl, by intro w hSw; obtain ⟨z0, z1⟩ := hSw; obtain ⟨s0, s1⟩ := Pm.two z0; obtain ⟨s2, s3⟩ := Pm.two z1; go_simp⟩) hHeld ?_
      simp only [Act.put, List.setIfInBounds_toArray, List.set_cons_zero, List.set_cons_succ]
      refine Pq.take (i := 1) (d := some 31) (v := .pointer (some ⟨w.heap.size, 1, none⟩)) rfl (by kernel_rfl) (by kernel_rfl) (by kernel_rfl) (by kernel_rfl) (fun _ _ _ h => h) (Or.inl ⟨by rfl, by intro w hSw; go_simp⟩) hHeld ?_
      simp only [Act.put, List.setIfInBounds_toArray, List.set_cons_zero, List.set_cons_succ]
      refine Pq.take (i := 2) (d := some 32) (v := .slice a i cap) rfl (by kernel_rfl) (by kernel_rfl) (by kernel_rfl) (by kernel_rfl) (fun _ _ _ h => h) (Or.inl ⟨by rfl, by intro w hSw; obtain ⟨z0, z1⟩ := hSw; obtain ⟨s0, s1⟩ := Pm.two z0; obtain ⟨s2, s3⟩ := Pm.two z1; go_simp⟩) hHeld ?_
      simp only [Act.put, List.setIfInBounds_toArray, List.set_cons_zero, List.set_cons_succ]
      refine Pq.take (i := 3) (d := some 33) (v := .int .i64 i) rfl (by kernel_rfl) (by kernel_rfl) (by kernel_rfl) (by kernel_rfl) (fun _ _ _ h => h) (Or.inl ⟨by rfl, by intro w hSw; go_simp⟩) hHeld ?_
      simp only [Act.put, List.setIfInBounds_toArray, List.set_cons_zero, List.set_cons_succ]
      refine Pq.take (i := 4) (d := some 34) (v := .pointer (some ⟨w.heap.size + 1 + 1, 1, none⟩)) rfl (by kernel_rfl) (by kernel_rfl) (by kernel_rfl) (by kernel_rfl) (fun _ _ _ h => h) (Or.inl ⟨by rfl, by intro w hSw; go_simp⟩) hHeld ?_
      simp only [Act.put, List.setIfInBounds_toArray, List.set_cons_zero, List.set_cons_succ]
      refine Pq.take (i := 5) (d := some 35) (v := .slice aF F.length cF) rfl (by kernel_rfl) (by kernel_rfl) (by kernel_rfl) (by kernel_rfl) (fun _ _ _ h => h) (Or.inl ⟨by rfl, by intro w hSw; obtain ⟨z0, z1⟩ := hSw; obtain ⟨s0, s1⟩ := Pm.two z0; obtain ⟨s2, s3⟩ := Pm.two z1; go_simp⟩) hHeld ?_
      simp only [Act.put, List.setIfInBounds_toArray, List.set_cons_zero, List.set_cons_succ]
      refine Pq.take (i := 6) (d := some 36) (v := .int .i64 F.length) rfl (by kernel_rfl) (by kernel_rfl) (by kernel_rfl) (by kernel_rfl) (fun _ _ _ h => h) (Or.inl ⟨by rfl, by intro w hSw; go_simp⟩) hHeld ?_
      simp only [Act.put, List.setIfInBounds_toArray, List.set_cons_zero, List.set_cons_succ]
      refine Pq.take (i := 7) (d := some 37) (v := .int .i64 m) rfl (by kernel_rfl) (by kernel_rfl) (by kernel_rfl) (by kernel_rfl) (fun _ _ _ h => h) (Or.inl ⟨by rfl, by intro w hSw; go_simp⟩) hHeld ?_
      simp only [Act.put, List.setIfInBounds_toArray, List.set_cons_zero, List.set_cons_succ]
      obtain ⟨r0, r1⟩ := Pm.two kR
      have fR := Bl.free kR
      refine wpAnyH_ready (rs := [8]) (by kernel_rfl) (by simp) (Yh.readySkip (i := 8) rfl (by kernel_rfl) none (by kernel_rfl) (w' := (wr.drew.setCell ⟨w.heap.size + 1, 0, none⟩ (.int .i64 q)).setCell ⟨w.heap.size + 1, 1, none⟩ (.slice aF F.length cF)) (by go_simp) ⟨blk_other (blk_other kT (by omega)) (by omega), blk_other (blk_other kO (by omega)) (by omega)⟩ (fun hHeld => ?_) AllReadyH.nil)
      simp only [Act.put, List.setIfInBounds_toArray, List.set_cons_zero, List.set_cons_succ]
      refine Pq.take (i := 9) (d := some 5) (v := .int .i64 m) rfl (by kernel_rfl) (by kernel_rfl) (by kernel_rfl) (by kernel_rfl) (fun _ _ _ h => h) (Or.inl ⟨by rfl, by intro w hSw; go_simp⟩) hHeld ?_
      simp only [Act.put, List.setIfInBounds_toArray, List.set_cons_zero, List.set_cons_succ]
      refine wpAnyH_done (by kernel_rfl) ?_ _
      go_wp2
      have y0 : (wr.setCell ⟨w.heap.size + 1, 0, none⟩ (.int .i64 q)).cell? ⟨w.heap.size + 1, 0, none⟩ = some (.int .i64 q) := (Pm.two (blk_same kR)).1
      have y1 : ((wr.setCell ⟨w.heap.size + 1, 0, none⟩ (.int .i64 q)).setCell ⟨w.heap.size + 1, 1, none⟩ (.slice aF F.length cF)).cell? ⟨w.heap.size + 1, 1, none⟩ = some (.slice aF F.length cF) := (Pm.two (blk_same (blk_same kR))).2
      exact bodyPost_ret (v := .tuple #[.agg #[.int .i64 q, .slice aF F.length cF], .int .i64 m]) (by simp [results, Try.results86, go_sem, y0, y1]) rfl ⟨_, F, rfl, ((hot.below ((Below.refl _ _).drew)).keep (fun x _ hx => blk_other (blk_other rfl (by omega)) (by omega))).mono (by omega), HF.out, Pm.bset (Pm.bset (Rw.next B1 ((Below.refl _ _).drew)) (by omega)) (by omega)⟩

def Tells87 (g0 : Nat) (g1 : Nat) (Q : List Ent) (w : World) (p : Nat → Bool) : Prop := ∀ k, k < Q.length → ∀ W, Below w.heap.size w W → Calls Try.prog 87 #[.agg #[.int .i64 (Q.getD k e0).ep, .int .i64 (Q.getD k e0).pr, .slice (Q.getD k e0).aV (Q.getD k e0).V.length (Q.getD k e0).cV, .slice (Q.getD k e0).aM (Q.getD k e0).M.length (Q.getD k e0).cM, .slice (Q.getD k e0).aA (Q.getD k e0).A.length (Q.getD k e0).cA, .int .i64 (Q.getD k e0).h], .pointer (some ⟨g0, 0, none⟩), .pointer (some ⟨g1, 0, none⟩)] W fun e w' => e = .returned (.bool (p k)) ∧ Below W.heap.size W w'
set_option maxHeartbeats 16000000 in
theorem sieve87 (q : Int) (a : Option Addr) (b off cap : Nat) (g0 : Nat) (g1 : Nat) (Q : List Ent) (p : Nat → Bool) (w : World) (h : Rd w a b off Q) (h4 : Q.length ≤ 400) (hP : Tells87 g0 g1 Q w p) (m : Int) (hm : m = (Q.length : Int) - ((sel p (Q.map Ent.said) Q.length).length : Int)) :
    Calls Try.prog 86 #[.agg #[.int .i64 q, .slice a Q.length cap], .func (.func 87) #[] #[.pointer (some ⟨g0, 0, none⟩), .pointer (some ⟨g1, 0, none⟩)]] w (ResT w q (sel p (Q.map Ent.said) Q.length) m) := by
  obtain ⟨W1, hW1⟩ : ∃ W1, W1 = ((w.alloc (.cells #[.int .i64 q, .slice a Q.length cap] 38)).alloc (.cells #[.int .i64 0, .slice none 0 0] 38)).alloc (.cells #[.int .i64 q, .slice none 0 0] 38) := ⟨_, rfl⟩
  have B1 : Below w.heap.size w W1 := by subst hW1; exact Rw.next (Rw.next (below_alloc1 _ _) (below_alloc1 _ _)) (below_alloc1 _ _)
  have kT : W1.heap[w.heap.size]? = some (.cells #[.int .i64 q, .slice a Q.length cap] 38 (0, 0)) := by subst hW1; rw [at_old (by simp <;> omega), at_old (by simp), at_new rfl]
  have kR : W1.heap[w.heap.size + 1]? = some (.cells #[.int .i64 0, .slice none 0 0] 38 (0, 0)) := by subst hW1; rw [at_old (by simp), at_new (by simp)]
  have kO : W1.heap[w.heap.size + 1 + 1]? = some (.cells #[.int .i64 q, .slice none 0 0] 38 (0, 0)) := by subst hW1; exact at_new (by simp)
  obtain ⟨hh, hc, ho, hs⟩ := h
  unfold Tells87 at hP
  obtain ⟨n, hn⟩ : ∃ n, n = Q.length := ⟨_, rfl⟩
  rw [← hn] at hh hc ho hs hP hW1 kT h4 hm ⊢
  have HN : Hid (n = Q.length) := hn
  have HM : Hid (m = (n : Int) - ((sel p (Q.map Ent.said) n).length : Int)) := hm
  clear hn hm
  obtain ⟨B, hB⟩ : ∃ B, B = w.heap.size + 1 + 1 + 1 := ⟨_, rfl⟩
  have zW1 : B ≤ W1.heap.size := by have := blk_lt kO; omega
  have hBo : w.heap.size + 1 + 1 < B := by omega
  have HB : Hid (B = w.heap.size + 1 + 1 + 1) := hB
  clear hB
  have hwo : w.heap.size ≤ w.heap.size + 1 + 1 := by omega
  go_enter Try.func86, Try.ntmps86
  go_wp2
  rw [← hW1]
  clear hW1
  go_loopw [15] (fun u wr => ∃ (i : Nat) (v : Value) (F : List Ent), i ≤ n ∧ u = .int .i64 i ∧ Below w.heap.size w wr ∧ wr.heap[w.heap.size]? = some (.cells #[.int .i64 q, .slice a n cap] 38 (0, 0)) ∧ wr.heap[w.heap.size + 1]? = some (.cells #[.int .i64 0, .slice none 0 0] 38 (0, 0)) ∧ wr.heap[w.heap.size + 1 + 1]? = some (.cells #[.int .i64 q, v] 38 (0, 0)) ∧ OT wr B v F ∧ B ≤ wr.heap.size ∧ F.map Ent.said = sel p (Q.map Ent.said) i) (fun u _ => n - (intOf u).toNat)
  case atStart => exact ⟨0, .slice none 0 0, [], Nat.zero_le _, rfl, B1, kT, kR, kO, OT.nil _ _, zW1, rfl⟩
  case round =>
    clear B1 kT kR kO zW1
    obtain ⟨i, v, F, hi, rfl, B1, kT, kR, kO, hot, hBs, hF⟩ := hrel
    have HF : Hid (F.map Ent.said = sel p (Q.map Ent.said) i) := hF
    have hFl : F.length ≤ 100000 := by
      have e1 := congrArg List.length hF
      have e2 := sel_len p (Q.map Ent.said) i
      simp only [List.length_map] at e1
      omega
    clear hF
    by_cases hlt : i < n
    · obtain rfl := hh (by omega)
      have hnz : (i : Int) < (n : Int) := by omega
      obtain ⟨c0, c1, c2, c3, c4, c5⟩ := ((hc i hlt).of B1 (At6.lt (hc i hlt))).six
      have ok := (ho i hlt).of B1 (Nat.le_refl _)
      obtain ⟨x, hx⟩ : ∃ x, x = Q.getD i e0 := ⟨_, rfl⟩
      have hcl := hP i hlt
      rw [← hx] at c0 c1 c2 c3 c4 c5 ok hcl
      have HX : Hid (Q.getD i e0 = x) := hx.symm
      clear hx hc ho hh hP
      obtain ⟨W2, hW2⟩ : ∃ W2, W2 = wr.alloc (.cells #[.int .i64 x.ep, .int .i64 x.pr, .slice x.aV x.V.length x.cV, .slice x.aM x.M.length x.cM, .slice x.aA x.A.length x.cA, .int .i64 x.h] 41) := ⟨_, rfl⟩
      have kE : W2.heap[wr.heap.size]? = some (.cells #[.int .i64 x.ep, .int .i64 x.pr, .slice x.aV x.V.length x.cV, .slice x.aM x.M.length x.cM, .slice x.aA x.A.length x.cA, .int .i64 x.h] 41 (0, 0)) := by subst hW2; exact at_new rfl
      have hb : Below wr.heap.size wr W2 := by subst hW2; exact below_alloc1 _ _
      have hca := hcl W2 (Rw.next B1 hb)
      have eb : ∃ eb, eb = wr.heap.size := ⟨_, rfl⟩
      obtain ⟨eb, heb⟩ := eb
      have ebB : B ≤ eb := by omega
      have ebR : ∀ k, v.ownBlock = some k → k < eb := fun k hk => by have := (hot.row_lt hk).2; omega
      replace kT := (hb.block _ (blk_lt kT)).trans kT
      replace kR := (hb.block _ (blk_lt kR)).trans kR
      replace kO := (hb.block _ (blk_lt kO)).trans kO
      replace hot := hot.below hb
      replace ok := ok.below hb
      replace B1 := Rw.next B1 hb
      have hBs2 : B ≤ W2.heap.size := Nat.le_trans hBs hb.size
      clear hb hcl hBs
      rw [← heb] at kE
      cases hp : p i
      · rw [hp] at hca
        have HP : Hid (p i = false) := hp
        clear hp
        go_wp2_with (go_at_call 87; rw [← hW2]; clear hW2; refine hca.mono ?_; rintro e1 w3 ⟨rfl, hb⟩)
        go_roundw
        case rel => exact ⟨i + 1, v, F, by omega, by go_num, Rw.next B1 hb, (hb.block _ (blk_lt kT)).trans kT, (hb.block _ (blk_lt kR)).trans kR, (hb.block _ (blk_lt kO)).trans kO, hot.below hb, Nat.le_trans hBs2 hb.size, by simp only [sel]; rw [HP.out]; exact HF.out⟩
        case measure => simp [intOf]; omega
      · rw [hp] at hca
        have HP : Hid (p i = true) := hp
        clear hp
        go_wp2_with (go_at_call 87; rw [← hW2]; clear hW2; refine hca.mono ?_; rintro e1 w3 ⟨rfl, hb⟩; replace kT := (hb.block _ (blk_lt kT)).trans kT; replace kR := (hb.block _ (blk_lt kR)).trans kR; replace kO := (hb.block _ (blk_lt kO)).trans kO; replace kE := (hb.block _ (blk_lt kE)).trans kE; replace hot := hot.below hb; replace ok := ok.below hb; replace B1 := Rw.next B1 hb; replace hBs2 := Nat.le_trans hBs2 hb.size; clear hb)
        rw [← heb]
        clear heb hca c0 c1 c2 c3 c4 c5
        generalize w3 = wr at *
        · have hcp := fun W (ok : Ent.Ok W x) => copyE x W ok
          simp only [ent_vals x] at hcp
          have lE := blk_lt kE
          have hSt : ∀ w', Stab wr (w.heap.size + 1 + 1) v w' → w'.cell? ⟨eb, 0, none⟩ = some (.int .i64 x.ep) ∧ w'.cell? ⟨eb, 1, none⟩ = some (.int .i64 x.pr) ∧ w'.cell? ⟨eb, 2, none⟩ = some (.slice x.aV x.V.length x.cV) ∧ w'.cell? ⟨eb, 3, none⟩ = some (.slice x.aM x.M.length x.cM) ∧ w'.cell? ⟨eb, 4, none⟩ = some (.slice x.aA x.A.length x.cA) ∧ w'.cell? ⟨eb, 5, none⟩ = some (.int .i64 x.h) :=
            fun w' h => six ((h.block eb lE (by omega) (fun e => by have := ebR _ e.symm; omega)).trans kE)
          refine wp_region_held_drew (S := Stab wr (w.heap.size + 1 + 1) v) (by kernel_rfl) (Stab.refl _ _ _) (fun hHeld => ?_)
          refine Pq.take (i := 0) (d := some 22) (v := .pointer (some ⟨w.heap.size + 1 + 1, 1, none⟩)) rfl (by kernel_rfl) (by kernel_rfl) (by kernel_rfl) (by kernel_rfl) (fun _ _ _ h => h) (Or.inl ⟨by rfl, by intro w hSw; go_simp⟩) hHeld ?_
          simp only [Act.put, List.setIfInBounds_toArray, List.set_cons_zero, List.set_cons_succ]
          refine Pq.take (i := 2) (d := some 24) (v := .agg #[.int .i64 x.ep, .int .i64 x.pr, .slice x.aV x.V.length x.cV, .slice x.aM x.M.length x.cM, .slice x.aA x.A.length x.cA, .int .i64 x.h]) rfl (by kernel_rfl) (by kernel_rfl) (by kernel_rfl) (by kernel_rfl) (fun _ _ _ h => h) (Or.inl ⟨by rfl, by intro w hSw; obtain ⟨s0, s1, s2, s3, s4, s5⟩ := hSt w hSw; go_simp⟩) hHeld ?_
          simp only [Act.put, List.setIfInBounds_toArray, List.set_cons_zero, List.set_cons_succ]
          have st : Stab wr (w.heap.size + 1 + 1) v wr.drew := Stab.refl _ _ _
          have hot0 : OT wr.drew B v F := hot.below ((Below.refl _ _).drew)
          have kO0 : wr.drew.heap[w.heap.size + 1 + 1]? = some (.cells #[.int .i64 q, v] 38 (0, 0)) := kO
          have ok0 := ok.below ((Below.refl wr.heap.size wr).drew)
          have B2 := Rw.next B1 ((Below.refl wr.heap.size wr).drew)
          have sW : wr.drew.heap.size = wr.heap.size := rfl
          generalize wr.drew = W at *
          refine wpAnyH_ready (rs := [1, 3]) (by kernel_rfl) (by simp) (Yh.readyRun (i := 1) rfl (by kernel_rfl) (some 23) (by kernel_rfl) (v := v) (w' := W) (by obtain ⟨o0, o1⟩ := Pm.two kO0; go_simp) st (fun hHeld => ?_) (Rg.call1 (i := 3) rfl (by rfl) 79 (.tmp 24) 41 (by kernel_rfl) 25 (by kernel_rfl) (.agg #[.int .i64 x.ep, .int .i64 x.pr, .slice x.aV x.V.length x.cV, .slice x.aM x.M.length x.cM, .slice x.aA x.A.length x.cA, .int .i64 x.h]) (by kernel_rfl) (fun _ => rfl) (hcp _ ok0) ?_ AllReadyH.nil))
          · simp only [Act.put, List.setIfInBounds_toArray, List.set_cons_zero, List.set_cons_succ]
            refine wpAnyH_ready (rs := [3]) (by kernel_rfl) (by simp) (Rg.call1 (i := 3) rfl (by rfl) 79 (.tmp 24) 41 (by kernel_rfl) 25 (by kernel_rfl) (.agg #[.int .i64 x.ep, .int .i64 x.pr, .slice x.aV x.V.length x.cV, .slice x.aM x.M.length x.cM, .slice x.aA x.A.length x.cA, .int .i64 x.h]) (by kernel_rfl) (fun _ => rfl) (hcp _ ok0) ?_ AllReadyH.nil)
            rintro e1 Wc ⟨f, rfl, sf, hf, hb⟩
            replace st := st.below hb
            replace kO0 := (hb.block _ (blk_lt kO0)).trans kO0
            have hbc := hb
            replace B2 := Rw.next B2 hb
            have sC := hb.size
            refine ⟨_, rfl, st, fun hHeld => ?_⟩
            simp only [Act.put, List.setIfInBounds_toArray, List.set_cons_zero, List.set_cons_succ]
            refine wpAnyH_ready (rs := [4]) (by kernel_rfl) (by simp) (Yh.readyRun (i := 4) rfl (by kernel_rfl) (some 26) (by kernel_rfl) (v := .slice (some ⟨Wc.heap.size, 0, none⟩) 1 1) (w' := Wc.alloc (.cells f.vals 41)) (exec_one rfl (by kernel_rfl)) (st.below (below_alloc1 _ _)) (fun hHeld => ?_) AllReadyH.nil)
            simp only [Act.put, List.setIfInBounds_toArray, List.set_cons_zero, List.set_cons_succ]
            obtain ⟨Wd, hWd⟩ : ∃ Wd, Wd = Wc.alloc (.cells f.vals 41) := ⟨_, rfl⟩
            rw [← hWd] at hHeld ⊢
            have hT : Wd.heap[Wc.heap.size]? = some (.cells f.vals 41 (0, 0)) := by subst hWd; exact at_new rfl
            have hb : Below Wc.heap.size Wc Wd := by subst hWd; exact below_alloc1 _ _
            replace st := st.below hb
            replace kO0 := (hb.block _ (blk_lt kO0)).trans kO0
            replace B2 := Rw.next B2 hb
            have hf2 := hf.below hb
            have hbd := Rw.next hbc hb
            clear hb hWd
            obtain ⟨v', Z, hrun, hotZ, hgr⟩ := hot0.app 36 (c := 1) hbd hf2 (Nat.le_refl _) (by omega) hT hFl
            refine wpAnyH_ready (rs := [5]) (by kernel_rfl) (by simp) (Yh.readyRun (i := 5) rfl (by kernel_rfl) (some 27) (by kernel_rfl) (exec_app (.tmp 23) (.tmp 26) rfl (by kernel_rfl) (by kernel_rfl) hrun) (st.grown hgr) (fun hHeld => ?_) AllReadyH.nil)
            simp only [Act.put, List.setIfInBounds_toArray, List.set_cons_zero, List.set_cons_succ]
            replace st := st.grown hgr
            obtain ⟨va, vn, vc, hv⟩ := hotZ.slice
            subst hv
            have kOZ := (hgr.block _ (blk_lt kO0) (fun e => by have := (hot0.row_lt e.symm).1; omega)).trans kO0
            replace B2 := B2.grown hgr B2.size (fun k hk => by have := (hot0.row_lt hk).1; omega)
            obtain ⟨o0, o1⟩ := Pm.two kOZ
            have fO := Bl.free kOZ
            refine Pq.take (i := 6) (d := some 28) (v := .pointer (some ⟨w.heap.size + 1 + 1, 1, none⟩)) rfl (by kernel_rfl) (by kernel_rfl) (by kernel_rfl) (by kernel_rfl) (fun _ _ _ h => h) (Or.inl ⟨by rfl, by intro w hSw; go_simp⟩) hHeld ?_
            simp only [Act.put, List.setIfInBounds_toArray, List.set_cons_zero, List.set_cons_succ]
            refine wpAnyH_ready (rs := [7]) (by kernel_rfl) (by simp) (Yh.readySkip (i := 7) rfl (by kernel_rfl) none (by kernel_rfl) (w' := Z.setCell ⟨w.heap.size + 1 + 1, 1, none⟩ (.slice va vn vc)) (by go_simp) st.set (fun hHeld => ?_) AllReadyH.nil)
            simp only [Act.put, List.setIfInBounds_toArray, List.set_cons_zero, List.set_cons_succ]
            refine wpAnyH_done (by kernel_rfl) ?_ _
            have kO' : (Z.setCell ⟨w.heap.size + 1 + 1, 1, none⟩ (.slice va vn vc)).heap[w.heap.size + 1 + 1]? = some (.cells #[.int .i64 q, (.slice va vn vc)] 38 (0, 0)) := blk_same kOZ
            have B1' : Below w.heap.size w (Z.setCell ⟨w.heap.size + 1 + 1, 1, none⟩ (.slice va vn vc)) := Pm.bset B2 hwo
            have hot' : OT (Z.setCell ⟨w.heap.size + 1 + 1, 1, none⟩ (.slice va vn vc)) B (.slice va vn vc) (F ++ [f]) := hotZ.keep fun x _ hx => blk_other rfl (by omega)
            replace st : Stab wr (w.heap.size + 1 + 1) v (Z.setCell ⟨w.heap.size + 1 + 1, 1, none⟩ (.slice va vn vc)) := st.set
            go_wp2
            go_roundw
            case rel => exact ⟨i + 1, .slice va vn vc, F ++ [f], by omega, by go_num, B1', (st.block _ (by omega) (by omega) (fun e => by have := (hot.row_lt e.symm).1; omega)).trans kT, (st.block _ (by omega) (by omega) (fun e => by have := (hot.row_lt e.symm).1; omega)).trans kR, kO', hot', by have := st.size; omega, by simp only [sel]; rw [HP.out, if_pos rfl, List.map_append, ← HF.out, said_getD, HX.out]; simp [sf]⟩
            case measure => simp [intOf]; omega
          · rintro e1 Wc ⟨f, rfl, sf, hf, hb⟩
            replace st := st.below hb
            replace kO0 := (hb.block _ (blk_lt kO0)).trans kO0
            have hbc := hb
            replace B2 := Rw.next B2 hb
            have sC := hb.size
            refine ⟨_, rfl, st, fun hHeld => ?_⟩
            simp only [Act.put, List.setIfInBounds_toArray, List.set_cons_zero, List.set_cons_succ]
            refine wpAnyH_ready (rs := [1, 4]) (by kernel_rfl) (by simp) (Yh.readyRun (i := 1) rfl (by kernel_rfl) (some 23) (by kernel_rfl) (v := v) (w' := Wc) (by obtain ⟨o0, o1⟩ := Pm.two kO0; go_simp) st (fun hHeld => ?_) (Yh.readyRun (i := 4) rfl (by kernel_rfl) (some 26) (by kernel_rfl) (v := .slice (some ⟨Wc.heap.size, 0, none⟩) 1 1) (w' := Wc.alloc (.cells f.vals 41)) (exec_one rfl (by kernel_rfl)) (st.below (below_alloc1 _ _)) (fun hHeld => ?_) AllReadyH.nil))
            · simp only [Act.put, List.setIfInBounds_toArray, List.set_cons_zero, List.set_cons_succ]
              refine wpAnyH_ready (rs := [4]) (by kernel_rfl) (by simp) (Yh.readyRun (i := 4) rfl (by kernel_rfl) (some 26) (by kernel_rfl) (v := .slice (some ⟨Wc.heap.size, 0, none⟩) 1 1) (w' := Wc.alloc (.cells f.vals 41)) (exec_one rfl (by kernel_rfl)) (st.below (below_alloc1 _ _)) (fun hHeld => ?_) AllReadyH.nil)
              simp only [Act.put, List.setIfInBounds_toArray, List.set_cons_zero, List.set_cons_succ]
              obtain ⟨Wd, hWd⟩ : ∃ Wd, Wd = Wc.alloc (.cells f.vals 41) := ⟨_, rfl⟩
              rw [← hWd] at hHeld ⊢
              have hT : Wd.heap[Wc.heap.size]? = some (.cells f.vals 41 (0, 0)) := by subst hWd; exact at_new rfl
              have hb : Below Wc.heap.size Wc Wd := by subst hWd; exact below_alloc1 _ _
              replace st := st.below hb
              replace kO0 := (hb.block _ (blk_lt kO0)).trans kO0
              replace B2 := Rw.next B2 hb
              have hf2 := hf.below hb
              have hbd := Rw.next hbc hb
              clear hb hWd
              obtain ⟨v', Z, hrun, hotZ, hgr⟩ := hot0.app 36 (c := 1) hbd hf2 (Nat.le_refl _) (by omega) hT hFl
              refine wpAnyH_ready (rs := [5]) (by kernel_rfl) (by simp) (Yh.readyRun (i := 5) rfl (by kernel_rfl) (some 27) (by kernel_rfl) (exec_app (.tmp 23) (.tmp 26) rfl (by kernel_rfl) (by kernel_rfl) hrun) (st.grown hgr) (fun hHeld => ?_) AllReadyH.nil)
              simp only [Act.put, List.setIfInBounds_toArray, List.set_cons_zero, List.set_cons_succ]
              replace st := st.grown hgr
              obtain ⟨va, vn, vc, hv⟩ := hotZ.slice
              subst hv
              have kOZ := (hgr.block _ (blk_lt kO0) (fun e => by have := (hot0.row_lt e.symm).1; omega)).trans kO0
              replace B2 := B2.grown hgr B2.size (fun k hk => by have := (hot0.row_lt hk).1; omega)
              obtain ⟨o0, o1⟩ := Pm.two kOZ
              have fO := Bl.free kOZ
              refine Pq.take (i := 6) (d := some 28) (v := .pointer (some ⟨w.heap.size + 1 + 1, 1, none⟩)) rfl (by kernel_rfl) (by kernel_rfl) (by kernel_rfl) (by kernel_rfl) (fun _ _ _ h => h) (Or.inl ⟨by rfl, by intro w hSw; go_simp⟩) hHeld ?_
              simp only [Act.put, List.setIfInBounds_toArray, List.set_cons_zero, List.set_cons_succ]
              refine wpAnyH_ready (rs := [7]) (by kernel_rfl) (by simp) (Yh.readySkip (i := 7) rfl (by kernel_rfl) none (by kernel_rfl) (w' := Z.setCell ⟨w.heap.size + 1 + 1, 1, none⟩ (.slice va vn vc)) (by go_simp) st.set (fun hHeld => ?_) AllReadyH.nil)
              simp only [Act.put, List.setIfInBounds_toArray, List.set_cons_zero, List.set_cons_succ]
              refine wpAnyH_done (by kernel_rfl) ?_ _
              have kO' : (Z.setCell ⟨w.heap.size + 1 + 1, 1, none⟩ (.slice va vn vc)).heap[w.heap.size + 1 + 1]? = some (.cells #[.int .i64 q, (.slice va vn vc)] 38 (0, 0)) := blk_same kOZ
              have B1' : Below w.heap.size w (Z.setCell ⟨w.heap.size + 1 + 1, 1, none⟩ (.slice va vn vc)) := Pm.bset B2 hwo
              have hot' : OT (Z.setCell ⟨w.heap.size + 1 + 1, 1, none⟩ (.slice va vn vc)) B (.slice va vn vc) (F ++ [f]) := hotZ.keep fun x _ hx => blk_other rfl (by omega)
              replace st : Stab wr (w.heap.size + 1 + 1) v (Z.setCell ⟨w.heap.size + 1 + 1, 1, none⟩ (.slice va vn vc)) := st.set
              go_wp2
              go_roundw
              case rel => exact ⟨i + 1, .slice va vn vc, F ++ [f], by omega, by go_num, B1', (st.block _ (by omega) (by omega) (fun e => by have := (hot.row_lt e.symm).1; omega)).trans kT, (st.block _ (by omega) (by omega) (fun e => by have := (hot.row_lt e.symm).1; omega)).trans kR, kO', hot', by have := st.size; omega, by simp only [sel]; rw [HP.out, if_pos rfl, List.map_append, ← HF.out, said_getD, HX.out]; simp [sf]⟩
              case measure => simp [intOf]; omega
            · simp only [Act.put, List.setIfInBounds_toArray, List.set_cons_zero, List.set_cons_succ]
              obtain ⟨Wd, hWd⟩ : ∃ Wd, Wd = Wc.alloc (.cells f.vals 41) := ⟨_, rfl⟩
              rw [← hWd] at hHeld ⊢
              have hT : Wd.heap[Wc.heap.size]? = some (.cells f.vals 41 (0, 0)) := by subst hWd; exact at_new rfl
              have hb : Below Wc.heap.size Wc Wd := by subst hWd; exact below_alloc1 _ _
              replace st := st.below hb
              replace kO0 := (hb.block _ (blk_lt kO0)).trans kO0
              replace B2 := Rw.next B2 hb
              have hf2 := hf.below hb
              have hbd := Rw.next hbc hb
              clear hb hWd
              refine wpAnyH_ready (rs := [1]) (by kernel_rfl) (by simp) (Yh.readyRun (i := 1) rfl (by kernel_rfl) (some 23) (by kernel_rfl) (v := v) (w' := Wd) (by obtain ⟨o0, o1⟩ := Pm.two kO0; go_simp) st (fun hHeld => ?_) AllReadyH.nil)
              simp only [Act.put, List.setIfInBounds_toArray, List.set_cons_zero, List.set_cons_succ]
              obtain ⟨v', Z, hrun, hotZ, hgr⟩ := hot0.app 36 (c := 1) hbd hf2 (Nat.le_refl _) (by omega) hT hFl
              refine wpAnyH_ready (rs := [5]) (by kernel_rfl) (by simp) (Yh.readyRun (i := 5) rfl (by kernel_rfl) (some 27) (by kernel_rfl) (exec_app (.tmp 23) (.tmp 26) rfl (by kernel_rfl) (by kernel_rfl) hrun) (st.grown hgr) (fun hHeld => ?_) AllReadyH.nil)
              simp only [Act.put, List.setIfInBounds_toArray, List.set_cons_zero, List.set_cons_succ]
              replace st := st.grown hgr
              obtain ⟨va, vn, vc, hv⟩ := hotZ.slice
              subst hv
              have kOZ := (hgr.block _ (blk_lt kO0) (fun e => by have := (hot0.row_lt e.symm).1; omega)).trans kO0
              replace B2 := B2.grown hgr B2.size (fun k hk => by have := (hot0.row_lt hk).1; omega)
              obtain ⟨o0, o1⟩ := Pm.two kOZ
              have fO := Bl.free kOZ
              refine Pq.take (i := 6) (d := some 28) (v := .pointer (some ⟨w.heap.size + 1 + 1, 1, none⟩)) rfl (by kernel_rfl) (by kernel_rfl) (by kernel_rfl) (by kernel_rfl) (fun _ _ _ h => h) (Or.inl ⟨by rfl, by intro w hSw; go_simp⟩) hHeld ?_
              simp only [Act.put, List.setIfInBounds_toArray, List.set_cons_zero, List.set_cons_succ]
              refine wpAnyH_ready (rs := [7]) (by kernel_rfl) (by simp) (Yh.readySkip (i := 7) rfl (by kernel_rfl) none (by kernel_rfl) (w' := Z.setCell ⟨w.heap.size + 1 + 1, 1, none⟩ (.slice va vn vc)) (by go_simp) st.set (fun hHeld => ?_) AllReadyH.nil)
              simp only [Act.put, List.setIfInBounds_toArray, List.set_cons_zero, List.set_cons_succ]
              refine wpAnyH_done (by kernel_rfl) ?_ _
              have kO' : (Z.setCell ⟨w.heap.size + 1 + 1, 1, none⟩ (.slice va vn vc)).heap[w.heap.size + 1 + 1]? = some (.cells #[.int .i64 q, (.slice va vn vc)] 38 (0, 0)) := blk_same kOZ
              have B1' : Below w.heap.size w (Z.setCell ⟨w.heap.size + 1 + 1, 1, none⟩ (.slice va vn vc)) := Pm.bset B2 hwo
              have hot' : OT (Z.setCell ⟨w.heap.size + 1 + 1, 1, none⟩ (.slice va vn vc)) B (.slice va vn vc) (F ++ [f]) := hotZ.keep fun x _ hx => blk_other rfl (by omega)
              replace st : Stab wr (w.heap.size + 1 + 1) v (Z.setCell ⟨w.heap.size + 1 + 1, 1, none⟩ (.slice va vn vc)) := st.set
              go_wp2
              go_roundw
              case rel => exact ⟨i + 1, .slice va vn vc, F ++ [f], by omega, by go_num, B1', (st.block _ (by omega) (by omega) (fun e => by have := (hot.row_lt e.symm).1; omega)).trans kT, (st.block _ (by omega) (by omega) (fun e => by have := (hot.row_lt e.symm).1; omega)).trans kR, kO', hot', by have := st.size; omega, by simp only [sel]; rw [HP.out, if_pos rfl, List.map_append, ← HF.out, said_getD, HX.out]; simp [sf]⟩
              case measure => simp [intOf]; omega
    · obtain rfl : i = n := by omega
      obtain ⟨aF, gF, cF, rfl, _, _⟩ := hot.form (by omega)
      have hlen : F.length = (sel p (Q.map Ent.said) i).length := by rw [← HF.out]; simp
      have hz : (i : Int) - (F.length : Int) = m := by rw [hlen]; exact HM.out.symm
      have hwm : IntKind.i64.wrap m = m := by rw [IntKind.wrap_i64]; omega
      have HLen : Hid (F.length = (sel p (Q.map Ent.said) i).length) := hlen
      clear hlen hc ho hP
      go_wp2
      refine wp_region_held_drew (S := (fun w' => w'.heap[w.heap.size]? = some (.cells #[.int .i64 q, .slice a i cap] 38 (0, 0)) ∧ w'.heap[w.heap.size + 1 + 1]? = some (.cells #[.int .i64 q, .slice aF F.length cF] 38 (0, 0)))) (by kernel_rfl) ⟨kT, kO⟩ (fun hHeld => ?_)
      refine Pq.take (i := 0) (d := some 30) (v := .agg #[.int .i64 q, .slice aF F.length cF]) rfl (by kernel_rfl) (by kernel_rfl) (by kernel_rfl) (by kernel_rfl) (fun _ _ _ h => h) (Or.inl ⟨by rfl, by intro w hSw; obtain ⟨z0, z1⟩ := hSw; obtain ⟨s0, s1⟩ := Pm.two z0; obtain ⟨s2, s3⟩ := Pm.two z1; go_simp⟩) hHeld ?_
      simp only [Act.put, List.setIfInBounds_toArray, List.set_cons_zero, List.set_cons_succ]
      refine Pq.take (i := 1) (d := some 31) (v := .pointer (some ⟨w.heap.size, 1, none⟩)) rfl (by kernel_rfl) (by kernel_rfl) (by kernel_rfl) (by kernel_rfl) (fun _ _ _ h => h) (Or.inl ⟨by rfl, by intro w hSw; go_simp⟩) hHeld ?_
      simp only [Act.put, List.setIfInBounds_toArray, List.set_cons_zero, List.set_cons_succ]
      refine Pq.take (i := 2) (d := some 32) (v := .slice a i cap) rfl (by kernel_rfl) (by kernel_rfl) (by kernel_rfl) (by kernel_rfl) (fun _ _ _ h => h) (Or.inl ⟨by rfl, by intro w hSw; obtain ⟨z0, z1⟩ := hSw; obtain ⟨s0, s1⟩ := Pm.two z0; obtain ⟨s2, s3⟩ := Pm.two z1; go_simp⟩) hHeld ?_
      simp only [Act.put, List.setIfInBounds_toArray, List.set_cons_zero, List.set_cons_succ]
      refine Pq.take (i := 3) (d := some 33) (v := .int .i64 i) rfl (by kernel_rfl) (by kernel_rfl) (by kernel_rfl) (by kernel_rfl) (fun _ _ _ h => h) (Or.inl ⟨by rfl, by intro w hSw; go_simp⟩) hHeld ?_
      simp only [Act.put, List.setIfInBounds_toArray, List.set_cons_zero, List.set_cons_succ]
      refine Pq.take (i := 4) (d := some 34) (v := .pointer (some ⟨w.heap.size + 1 + 1, 1, none⟩)) rfl (by kernel_rfl) (by kernel_rfl) (by kernel_rfl) (by kernel_rfl) (fun _ _ _ h => h) (Or.inl ⟨by rfl, by intro w hSw; go_simp⟩) hHeld ?_
      simp only [Act.put, List.setIfInBounds_toArray, List.set_cons_zero, List.set_cons_succ]
      refine Pq.take (i := 5) (d := some 35) (v := .slice aF F.length cF) rfl (by kernel_rfl) (by kernel_rfl) (by kernel_rfl) (by kernel_rfl) (fun _ _ _ h => h) (Or.inl ⟨by rfl, by intro w hSw; obtain ⟨z0, z1⟩ := hSw; obtain ⟨s0, s1⟩ := Pm.two z0; obtain ⟨s2, s3⟩ := Pm.two z1; go_simp⟩) hHeld ?_
      simp only [Act.put, List.setIfInBounds_toArray, List.set_cons_zero, List.set_cons_succ]
      refine Pq.take (i := 6) (d := some 36) (v := .int .i64 F.length) rfl (by kernel_rfl) (by kernel_rfl) (by kernel_rfl) (by kernel_rfl) (fun _ _ _ h => h) (Or.inl ⟨by rfl, by intro w hSw; go_simp⟩) hHeld ?_
      simp only [Act.put, List.setIfInBounds_toArray, List.set_cons_zero, List.set_cons_succ]
      refine Pq.take (i := 7) (d := some 37) (v := .int .i64 m) rfl (by kernel_rfl) (by kernel_rfl) (by kernel_rfl) (by kernel_rfl) (fun _ _ _ h => h) (Or.inl ⟨by rfl, by intro w hSw; go_simp⟩) hHeld ?_
      simp only [Act.put, List.setIfInBounds_toArray, List.set_cons_zero, List.set_cons_succ]
      obtain ⟨r0, r1⟩ := Pm.two kR
      have fR := Bl.free kR
      refine wpAnyH_ready (rs := [8]) (by kernel_rfl) (by simp) (Yh.readySkip (i := 8) rfl (by kernel_rfl) none (by kernel_rfl) (w' := (wr.drew.setCell ⟨w.heap.size + 1, 0, none⟩ (.int .i64 q)).setCell ⟨w.heap.size + 1, 1, none⟩ (.slice aF F.length cF)) (by go_simp) ⟨blk_other (blk_other kT (by omega)) (by omega), blk_other (blk_other kO (by omega)) (by omega)⟩ (fun hHeld => ?_) AllReadyH.nil)
      simp only [Act.put, List.setIfInBounds_toArray, List.set_cons_zero, List.set_cons_succ]
      refine Pq.take (i := 9) (d := some 5) (v := .int .i64 m) rfl (by kernel_rfl) (by kernel_rfl) (by kernel_rfl) (by kernel_rfl) (fun _ _ _ h => h) (Or.inl ⟨by rfl, by intro w hSw; go_simp⟩) hHeld ?_
      simp only [Act.put, List.setIfInBounds_toArray, List.set_cons_zero, List.set_cons_succ]
      refine wpAnyH_done (by kernel_rfl) ?_ _
      go_wp2
      have y0 : (wr.setCell ⟨w.heap.size + 1, 0, none⟩ (.int .i64 q)).cell? ⟨w.heap.size + 1, 0, none⟩ = some (.int .i64 q) := (Pm.two (blk_same kR)).1
      have y1 : ((wr.setCell ⟨w.heap.size + 1, 0, none⟩ (.int .i64 q)).setCell ⟨w.heap.size + 1, 1, none⟩ (.slice aF F.length cF)).cell? ⟨w.heap.size + 1, 1, none⟩ = some (.slice aF F.length cF) := (Pm.two (blk_same (blk_same kR))).2
      exact bodyPost_ret (v := .tuple #[.agg #[.int .i64 q, .slice aF F.length cF], .int .i64 m]) (by simp [results, Try.results86, go_sem, y0, y1]) rfl ⟨_, F, rfl, ((hot.below ((Below.refl _ _).drew)).keep (fun x _ hx => blk_other (blk_other rfl (by omega)) (by omega))).mono (by omega), HF.out, Pm.bset (Pm.bset (Rw.next B1 ((Below.refl _ _).drew)) (by omega)) (by omega)⟩

def Tells89 (g0 : Nat) (Q : List Ent) (w : World) (p : Nat → Bool) : Prop := ∀ k, k < Q.length → ∀ W, Below w.heap.size w W → Calls Try.prog 89 #[.agg #[.int .i64 (Q.getD k e0).ep, .int .i64 (Q.getD k e0).pr, .slice (Q.getD k e0).aV (Q.getD k e0).V.length (Q.getD k e0).cV, .slice (Q.getD k e0).aM (Q.getD k e0).M.length (Q.getD k e0).cM, .slice (Q.getD k e0).aA (Q.getD k e0).A.length (Q.getD k e0).cA, .int .i64 (Q.getD k e0).h], .pointer (some ⟨g0, 0, none⟩)] W fun e w' => e = .returned (.bool (p k)) ∧ Below W.heap.size W w'
set_option maxHeartbeats 16000000 in
theorem sieve89 (q : Int) (a : Option Addr) (b off cap : Nat) (g0 : Nat) (Q : List Ent) (p : Nat → Bool) (w : World) (h : Rd w a b off Q) (h4 : Q.length ≤ 400) (hP : Tells89 g0 Q w p) (m : Int) (hm : m = (Q.length : Int) - ((sel p (Q.map Ent.said) Q.length).length : Int)) :
    Calls Try.prog 86 #[.agg #[.int .i64 q, .slice a Q.length cap], .func (.func 89) #[] #[.pointer (some ⟨g0, 0, none⟩)]] w (ResT w q (sel p (Q.map Ent.said) Q.length) m) := by
  obtain ⟨W1, hW1⟩ : ∃ W1, W1 = ((w.alloc (.cells #[.int .i64 q, .slice a Q.length cap] 38)).alloc (.cells #[.int .i64 0, .slice none 0 0] 38)).alloc (.cells #[.int .i64 q, .slice none 0 0] 38) := ⟨_, rfl⟩
  have B1 : Below w.heap.size w W1 := by subst hW1; exact Rw.next (Rw.next (below_alloc1 _ _) (below_alloc1 _ _)) (below_alloc1 _ _)
  have kT : W1.heap[w.heap.size]? = some (.cells #[.int .i64 q, .slice a Q.length cap] 38 (0, 0)) := by subst hW1; rw [at_old (by simp <;> omega), at_old (by simp), at_new rfl]
  have kR : W1.heap[w.heap.size + 1]? = some (.cells #[.int .i64 0, .slice none 0 0] 38 (0, 0)) := by subst hW1; rw [at_old (by simp), at_new (by simp)]
  have kO : W1.heap[w.heap.size + 1 + 1]? = some (.cells #[.int .i64 q, .slice none 0 0] 38 (0, 0)) := by subst hW1; exact at_new (by simp)
  obtain ⟨hh, hc, ho, hs⟩ := h
  unfold Tells89 at hP
  obtain ⟨n, hn⟩ : ∃ n, n = Q.length := ⟨_, rfl⟩
  rw [← hn] at hh hc ho hs hP hW1 kT h4 hm ⊢
  have HN : Hid (n = Q.length) := hn
  have HM : Hid (m = (n : Int) - ((sel p (Q.map Ent.said) n).length : Int)) := hm
  clear hn hm
  obtain ⟨B, hB⟩ : ∃ B, B = w.heap.size + 1 + 1 + 1 := ⟨_, rfl⟩
  have zW1 : B ≤ W1.heap.size := by have := blk_lt kO; omega
  have hBo : w.heap.size + 1 + 1 < B := by omega
  have HB : Hid (B = w.heap.size + 1 + 1 + 1) := hB
  clear hB
  have hwo : w.heap.size ≤ w.heap.size + 1 + 1 := by omega
  go_enter Try.func86, Try.ntmps86
  go_wp2
  rw [← hW1]
  clear hW1
  go_loopw [15] (fun u wr => ∃ (i : Nat) (v : Value) (F : List Ent), i ≤ n ∧ u = .int .i64 i ∧ Below w.heap.size w wr ∧ wr.heap[w.heap.size]? = some (.cells #[.int .i64 q, .slice a n cap] 38 (0, 0)) ∧ wr.heap[w.heap.size + 1]? = some (.cells #[.int .i64 0, .slice none 0 0] 38 (0, 0)) ∧ wr.heap[w.heap.size + 1 + 1]? = some (.cells #[.int .i64 q, v] 38 (0, 0)) ∧ OT wr B v F ∧ B ≤ wr.heap.size ∧ F.map Ent.said = sel p (Q.map Ent.said) i) (fun u _ => n - (intOf u).toNat)
  case atStart => exact ⟨0, .slice none 0 0, [], Nat.zero_le _, rfl, B1, kT, kR, kO, OT.nil _ _, zW1, rfl⟩
  case round =>
    clear B1 kT kR kO zW1
    obtain ⟨i, v, F, hi, rfl, B1, kT, kR, kO, hot, hBs, hF⟩ := hrel
    have HF : Hid (F.map Ent.said = sel p (Q.map Ent.said) i) := hF
    have hFl : F.length ≤ 100000 := by
      have e1 := congrArg List.length hF
      have e2 := sel_len p (Q.map Ent.said) i
      simp only [List.length_map] at e1
      omega
    clear hF
    by_cases hlt : i < n
    · obtain rfl := hh (by omega)
      have hnz : (i : Int) < (n : Int) := by omega
      obtain ⟨c0, c1, c2, c3, c4, c5⟩ := ((hc i hlt).of B1 (At6.lt (hc i hlt))).six
      have ok := (ho i hlt).of B1 (Nat.le_refl _)
      obtain ⟨x, hx⟩ : ∃ x, x = Q.getD i e0 := ⟨_, rfl⟩
      have hcl := hP i hlt
      rw [← hx] at c0 c1 c2 c3 c4 c5 ok hcl
      have HX : Hid (Q.getD i e0 = x) := hx.symm
      clear hx hc ho hh hP
      obtain ⟨W2, hW2⟩ : ∃ W2, W2 = wr.alloc (.cells #[.int .i64 x.ep, .int .i64 x.pr, .slice x.aV x.V.length x.cV, .slice x.aM x.M.length x.cM, .slice x.aA x.A.length x.cA, .int .i64 x.h] 41) := ⟨_, rfl⟩
      have kE : W2.heap[wr.heap.size]? = some (.cells #[.int .i64 x.ep, .int .i64 x.pr, .slice x.aV x.V.length x.cV, .slice x.aM x.M.length x.cM, .slice x.aA x.A.length x.cA, .int .i64 x.h] 41 (0, 0)) := by subst hW2; exact at_new rfl
      have hb : Below wr.heap.size wr W2 := by subst hW2; exact below_alloc1 _ _
      have hca := hcl W2 (Rw.next B1 hb)
      have eb : ∃ eb, eb = wr.heap.size := ⟨_, rfl⟩
      obtain ⟨eb, heb⟩ := eb
      have ebB : B ≤ eb := by omega
      have ebR : ∀ k, v.ownBlock = some k → k < eb := fun k hk => by have := (hot.row_lt hk).2; omega
      replace kT := (hb.block _ (blk_lt kT)).trans kT
      replace kR := (hb.block _ (blk_lt kR)).trans kR
      replace kO := (hb.block _ (blk_lt kO)).trans kO
      replace hot := hot.below hb
      replace ok := ok.below hb
      replace B1 := Rw.next B1 hb
      have hBs2 : B ≤ W2.heap.size := Nat.le_trans hBs hb.size
      clear hb hcl hBs
      rw [← heb] at kE
      cases hp : p i
      · rw [hp] at hca
        have HP : Hid (p i = false) := hp
        clear hp
        go_wp2_with (go_at_call 89; rw [← hW2]; clear hW2; refine hca.mono ?_; rintro e1 w3 ⟨rfl, hb⟩)
        go_roundw
        case rel => exact ⟨i + 1, v, F, by omega, by go_num, Rw.next B1 hb, (hb.block _ (blk_lt kT)).trans kT, (hb.block _ (blk_lt kR)).trans kR, (hb.block _ (blk_lt kO)).trans kO, hot.below hb, Nat.le_trans hBs2 hb.size, by simp only [sel]; rw [HP.out]; exact HF.out⟩
        case measure => simp [intOf]; omega
      · rw [hp] at hca
        have HP : Hid (p i = true) := hp
        clear hp
        go_wp2_with (go_at_call 89; rw [← hW2]; clear hW2; refine hca.mono ?_; rintro e1 w3 ⟨rfl, hb⟩; replace kT := (hb.block _ (blk_lt kT)).trans kT; replace kR := (hb.block _ (blk_lt kR)).trans kR; replace kO := (hb.block _ (blk_lt kO)).trans kO; replace kE := (hb.block _ (blk_lt kE)).trans kE; replace hot := hot.below hb; replace ok := ok.below hb; replace B1 := Rw.next B1 hb; replace hBs2 := Nat.le_trans hBs2 hb.size; clear hb)
        rw [← heb]
        clear heb hca c0 c1 c2 c3 c4 c5
        generalize w3 = wr at *
        · have hcp := fun W (ok : Ent.Ok W x) => copyE x W ok
          simp only [ent_vals x] at hcp
          have lE := blk_lt kE
          have hSt : ∀ w', Stab wr (w.heap.size + 1 + 1) v w' → w'.cell? ⟨eb, 0, none⟩ = some (.int .i64 x.ep) ∧ w'.cell? ⟨eb, 1, none⟩ = some (.int .i64 x.pr) ∧ w'.cell? ⟨eb, 2, none⟩ = some (.slice x.aV x.V.length x.cV) ∧ w'.cell? ⟨eb, 3, none⟩ = some (.slice x.aM x.M.length x.cM) ∧ w'.cell? ⟨eb, 4, none⟩ = some (.slice x.aA x.A.length x.cA) ∧ w'.cell? ⟨eb, 5, none⟩ = some (.int .i64 x.h) :=
            fun w' h => six ((h.block eb lE (by omega) (fun e => by have := ebR _ e.symm; omega)).trans kE)
          refine wp_region_held_drew (S := Stab wr (w.heap.size + 1 + 1) v) (by kernel_rfl) (Stab.refl _ _ _) (fun hHeld => ?_)
          refine Pq.take (i := 0) (d := some 22) (v := .pointer (some ⟨w.heap.size + 1 + 1, 1, none⟩)) rfl (by kernel_rfl) (by kernel_rfl) (by kernel_rfl) (by kernel_rfl) (fun _ _ _ h => h) (Or.inl ⟨by rfl, by intro w hSw; go_simp⟩) hHeld ?_
          simp only [Act.put, List.setIfInBounds_toArray, List.set_cons_zero, List.set_cons_succ]
          refine Pq.take (i := 2) (d := some 24) (v := .agg #[.int .i64 x.ep, .int .i64 x.pr, .slice x.aV x.V.length x.cV, .slice x.aM x.M.length x.cM, .slice x.aA x.A.length x.cA, .int .i64 x.h]) rfl (by kernel_rfl) (by kernel_rfl) (by kernel_rfl) (by kernel_rfl) (fun _ _ _ h => h) (Or.inl ⟨by rfl, by intro w hSw; obtain ⟨s0, s1, s2, s3, s4, s5⟩ := hSt w hSw; go_simp⟩) hHeld ?_
          simp only [Act.put, List.setIfInBounds_toArray, List.set_cons_zero, List.set_cons_succ]
          have st : Stab wr (w.heap.size + 1 + 1) v wr.drew := Stab.refl _ _ _
          have hot0 : OT wr.drew B v F := hot.below ((Below.refl _ _).drew)
          have kO0 : wr.drew.heap[w.heap.size + 1 + 1]? = some (.cells #[.int .i64 q, v] 38 (0, 0)) := kO
          have ok0 := ok.below ((Below.refl wr.heap.size wr).drew)
          have B2 := Rw.next B1 ((Below.refl wr.heap.size wr).drew)
          have sW : wr.drew.heap.size = wr.heap.size := rfl
          generalize wr.drew = W at *
          refine wpAnyH_ready (rs := [1, 3]) (by kernel_rfl) (by simp) (Yh.readyRun (i := 1) rfl (by kernel_rfl) (some 23) (by kernel_rfl) (v := v) (w' := W) (by obtain ⟨o0, o1⟩ := Pm.two kO0; go_simp) st (fun hHeld => ?_) (Rg.call1 (i := 3) rfl (by rfl) 79 (.tmp 24) 41 (by kernel_rfl) 25 (by kernel_rfl) (.agg #[.int .i64 x.ep, .int .i64 x.pr, .slice x.aV x.V.length x.cV, .slice x.aM x.M.length x.cM, .slice x.aA x.A.length x.cA, .int .i64 x.h]) (by kernel_rfl) (fun _ => rfl) (hcp _ ok0) ?_ AllReadyH.nil))
          · simp only [Act.put, List.setIfInBounds_toArray, List.set_cons_zero, List.set_cons_succ]
            refine wpAnyH_ready (rs := [3]) (by kernel_rfl) (by simp) (Rg.call1 (i := 3) rfl (by rfl) 79 (.tmp 24) 41 (by kernel_rfl) 25 (by kernel_rfl) (.agg #[.int .i64 x.ep, .int .i64 x.pr, .slice x.aV x.V.length x.cV, .slice x.aM x.M.length x.cM, .slice x.aA x.A.length x.cA, .int .i64 x.h]) (by kernel_rfl) (fun _ => rfl) (hcp _ ok0) ?_ AllReadyH.nil)
            rintro e1 Wc ⟨f, rfl, sf, hf, hb⟩
            replace st := st.below hb
            replace kO0 := (hb.block _ (blk_lt kO0)).trans kO0
            have hbc := hb
            replace B2 := Rw.next B2 hb
            have sC := hb.size
            refine ⟨_, rfl, st, fun hHeld => ?_⟩
            simp only [Act.put, List.setIfInBounds_toArray, List.set_cons_zero, List.set_cons_succ]
            refine wpAnyH_ready (rs := [4]) (by kernel_rfl) (by simp) (Yh.readyRun (i := 4) rfl (by kernel_rfl) (some 26) (by kernel_rfl) (v := .slice (some ⟨Wc.heap.size, 0, none⟩) 1 1) (w' := Wc.alloc (.cells f.vals 41)) (exec_one rfl (by kernel_rfl)) (st.below (below_alloc1 _ _)) (fun hHeld => ?_) AllReadyH.nil)
            simp only [Act.put, List.setIfInBounds_toArray, List.set_cons_zero, List.set_cons_succ]
            obtain ⟨Wd, hWd⟩ : ∃ Wd, Wd = Wc.alloc (.cells f.vals 41) := ⟨_, rfl⟩
            rw [← hWd] at hHeld ⊢
            have hT : Wd.heap[Wc.heap.size]? = some (.cells f.vals 41 (0, 0)) := by subst hWd; exact at_new rfl
            have hb : Below Wc.heap.size Wc Wd := by subst hWd; exact below_alloc1 _ _
            replace st := st.below hb
            replace kO0 := (hb.block _ (blk_lt kO0)).trans kO0
            replace B2 := Rw.next B2 hb
            have hf2 := hf.below hb
            have hbd := Rw.next hbc hb
            clear hb hWd
            obtain ⟨v', Z, hrun, hotZ, hgr⟩ := hot0.app 36 (c := 1) hbd hf2 (Nat.le_refl _) (by omega) hT hFl
            refine wpAnyH_ready (rs := [5]) (by kernel_rfl) (by simp) (Yh.readyRun (i := 5) rfl (by kernel_rfl) (some 27) (by kernel_rfl) (exec_app (.tmp 23) (.tmp 26) rfl (by kernel_rfl) (by kernel_rfl) hrun) (st.grown hgr) (fun hHeld => ?_) AllReadyH.nil)
            simp only [Act.put, List.setIfInBounds_toArray, List.set_cons_zero, List.set_cons_succ]
            replace st := st.grown hgr
            obtain ⟨va, vn, vc, hv⟩ := hotZ.slice
            subst hv
            have kOZ := (hgr.block _ (blk_lt kO0) (fun e => by have := (hot0.row_lt e.symm).1; omega)).trans kO0
            replace B2 := B2.grown hgr B2.size (fun k hk => by have := (hot0.row_lt hk).1; omega)
            obtain ⟨o0, o1⟩ := Pm.two kOZ
            have fO := Bl.free kOZ
            refine Pq.take (i := 6) (d := some 28) (v := .pointer (some ⟨w.heap.size + 1 + 1, 1, none⟩)) rfl (by kernel_rfl) (by kernel_rfl) (by kernel_rfl) (by kernel_rfl) (fun _ _ _ h => h) (Or.inl ⟨by rfl, by intro w hSw; go_simp⟩) hHeld ?_
            simp only [Act.put, List.setIfInBounds_toArray, List.set_cons_zero, List.set_cons_succ]
            refine wpAnyH_ready (rs := [7]) (by kernel_rfl) (by simp) (Yh.readySkip (i := 7) rfl (by kernel_rfl) none (by kernel_rfl) (w' := Z.setCell ⟨w.heap.size + 1 + 1, 1, none⟩ (.slice va vn vc)) (by go_simp) st.set (fun hHeld => ?_) AllReadyH.nil)
            simp only [Act.put, List.setIfInBounds_toArray, List.set_cons_zero, List.set_cons_succ]
            refine wpAnyH_done (by kernel_rfl) ?_ _
            have kO' : (Z.setCell ⟨w.heap.size + 1 + 1, 1, none⟩ (.slice va vn vc)).heap[w.heap.size + 1 + 1]? = some (.cells #[.int .i64 q, (.slice va vn vc)] 38 (0, 0)) := blk_same kOZ
            have B1' : Below w.heap.size w (Z.setCell ⟨w.heap.size + 1 + 1, 1, none⟩ (.slice va vn vc)) := Pm.bset B2 hwo
            have hot' : OT (Z.setCell ⟨w.heap.size + 1 + 1, 1, none⟩ (.slice va vn vc)) B (.slice va vn vc) (F ++ [f]) := hotZ.keep fun x _ hx => blk_other rfl (by omega)
            replace st : Stab wr (w.heap.size + 1 + 1) v (Z.setCell ⟨w.heap.size + 1 + 1, 1, none⟩ (.slice va vn vc)) := st.set
            go_wp2
            go_roundw
            case rel => exact ⟨i + 1, .slice va vn vc, F ++ [f], by omega, by go_num, B1', (st.block _ (by omega) (by omega) (fun e => by have := (hot.row_lt e.symm).1; omega)).trans kT, (st.block _ (by omega) (by omega) (fun e => by have := (hot.row_lt e.symm).1; omega)).trans kR, kO', hot', by have := st.size; omega, by simp only [sel]; rw [HP.out, if_pos rfl, List.map_append, ← HF.out, said_getD, HX.out]; simp [sf]⟩
            case measure => simp [intOf]; omega
          · rintro e1 Wc ⟨f, rfl, sf, hf, hb⟩
            replace st := st.below hb
            replace kO0 := (hb.block _ (blk_lt kO0)).trans kO0
            have hbc := hb
            replace B2 := Rw.next B2 hb
            have sC := hb.size
            refine ⟨_, rfl, st, fun hHeld => ?_⟩
            simp only [Act.put, List.setIfInBounds_toArray, List.set_cons_zero, List.set_cons_succ]
            refine wpAnyH_ready (rs := [1, 4]) (by kernel_rfl) (by simp) (Yh.readyRun (i := 1) rfl (by kernel_rfl) (some 23) (by kernel_rfl) (v := v) (w' := Wc) (by obtain ⟨o0, o1⟩ := Pm.two kO0; go_simp) st (fun hHeld => ?_) (Yh.readyRun (i := 4) rfl (by kernel_rfl) (some 26) (by kernel_rfl) (v := .slice (some ⟨Wc.heap.size, 0, none⟩) 1 1) (w' := Wc.alloc (.cells f.vals 41)) (exec_one rfl (by kernel_rfl)) (st.below (below_alloc1 _ _)) (fun hHeld => ?_) AllReadyH.nil))
            · simp only [Act.put, List.setIfInBounds_toArray, List.set_cons_zero, List.set_cons_succ]
              refine wpAnyH_ready (rs := [4]) (by kernel_rfl) (by simp) (Yh.readyRun (i := 4) rfl (by kernel_rfl) (some 26) (by kernel_rfl) (v := .slice (some ⟨Wc.heap.size, 0, none⟩) 1 1) (w' := Wc.alloc (.cells f.vals 41)) (exec_one rfl (by kernel_rfl)) (st.below (below_alloc1 _ _)) (fun hHeld => ?_) AllReadyH.nil)
              simp only [Act.put, List.setIfInBounds_toArray, List.set_cons_zero, List.set_cons_succ]
              obtain ⟨Wd, hWd⟩ : ∃ Wd, Wd = Wc.alloc (.cells f.vals 41) := ⟨_, rfl⟩
              rw [← hWd] at hHeld ⊢
              have hT : Wd.heap[Wc.heap.size]? = some (.cells f.vals 41 (0, 0)) := by subst hWd; exact at_new rfl
              have hb : Below Wc.heap.size Wc Wd := by subst hWd; exact below_alloc1 _ _
              replace st := st.below hb
              replace kO0 := (hb.block _ (blk_lt kO0)).trans kO0
              replace B2 := Rw.next B2 hb
              have hf2 := hf.below hb
              have hbd := Rw.next hbc hb
              clear hb hWd
              obtain ⟨v', Z, hrun, hotZ, hgr⟩ := hot0.app 36 (c := 1) hbd hf2 (Nat.le_refl _) (by omega) hT hFl
              refine wpAnyH_ready (rs := [5]) (by kernel_rfl) (by simp) (Yh.readyRun (i := 5) rfl (by kernel_rfl) (some 27) (by kernel_rfl) (exec_app (.tmp 23) (.tmp 26) rfl (by kernel_rfl) (by kernel_rfl) hrun) (st.grown hgr) (fun hHeld => ?_) AllReadyH.nil)
              simp only [Act.put, List.setIfInBounds_toArray, List.set_cons_zero, List.set_cons_succ]
              replace st := st.grown hgr
              obtain ⟨va, vn, vc, hv⟩ := hotZ.slice
              subst hv
              have kOZ := (hgr.block _ (blk_lt kO0) (fun e => by have := (hot0.row_lt e.symm).1; omega)).trans kO0
              replace B2 := B2.grown hgr B2.size (fun k hk => by have := (hot0.row_lt hk).1; omega)
              obtain ⟨o0, o1⟩ := Pm.two kOZ
              have fO := Bl.free kOZ
              refine Pq.take (i := 6) (d := some 28) (v := .pointer (some ⟨w.heap.size + 1 + 1, 1, none⟩)) rfl (by kernel_rfl) (by kernel_rfl) (by kernel_rfl) (by kernel_rfl) (fun _ _ _ h => h) (Or.inl ⟨by rfl, by intro w hSw; go_simp⟩) hHeld ?_
              simp only [Act.put, List.setIfInBounds_toArray, List.set_cons_zero, List.set_cons_succ]
              refine wpAnyH_ready (rs := [7]) (by kernel_rfl) (by simp) (Yh.readySkip (i := 7) rfl (by kernel_rfl) none (by kernel_rfl) (w' := Z.setCell ⟨w.heap.size + 1 + 1, 1, none⟩ (.slice va vn vc)) (by go_simp) st.set (fun hHeld => ?_) AllReadyH.nil)
              simp only [Act.put, List.setIfInBounds_toArray, List.set_cons_zero, List.set_cons_succ]
              refine wpAnyH_done (by kernel_rfl) ?_ _
              have kO' : (Z.setCell ⟨w.heap.size + 1 + 1, 1, none⟩ (.slice va vn vc)).heap[w.heap.size + 1 + 1]? = some (.cells #[.int .i64 q, (.slice va vn vc)] 38 (0, 0)) := blk_same kOZ
              have B1' : Below w.heap.size w (Z.setCell ⟨w.heap.size + 1 + 1, 1, none⟩ (.slice va vn vc)) := Pm.bset B2 hwo
              have hot' : OT (Z.setCell ⟨w.heap.size + 1 + 1, 1, none⟩ (.slice va vn vc)) B (.slice va vn vc) (F ++ [f]) := hotZ.keep fun x _ hx => blk_other rfl (by omega)
              replace st : Stab wr (w.heap.size + 1 + 1) v (Z.setCell ⟨w.heap.size + 1 + 1, 1, none⟩ (.slice va vn vc)) := st.set
              go_wp2
              go_roundw
              case rel => exact ⟨i + 1, .slice va vn vc, F ++ [f], by omega, by go_num, B1', (st.block _ (by omega) (by omega) (fun e => by have := (hot.row_lt e.symm).1; omega)).trans kT, (st.block _ (by omega) (by omega) (fun e => by have := (hot.row_lt e.symm).1; omega)).trans kR, kO', hot', by have := st.size; omega, by simp only [sel]; rw [HP.out, if_pos rfl, List.map_append, ← HF.out, said_getD, HX.out]; simp [sf]⟩
              case measure => simp [intOf]; omega
            · simp only [Act.put, List.setIfInBounds_toArray, List.set_cons_zero, List.set_cons_succ]
              obtain ⟨Wd, hWd⟩ : ∃ Wd, Wd = Wc.alloc (.cells f.vals 41) := ⟨_, rfl⟩
              rw [← hWd] at hHeld ⊢
              have hT : Wd.heap[Wc.heap.size]? = some (.cells f.vals 41 (0, 0)) := by subst hWd; exact at_new rfl
              have hb : Below Wc.heap.size Wc Wd := by subst hWd; exact below_alloc1 _ _
              replace st := st.below hb
              replace kO0 := (hb.block _ (blk_lt kO0)).trans kO0
              replace B2 := Rw.next B2 hb
              have hf2 := hf.below hb
              have hbd := Rw.next hbc hb
              clear hb hWd
              refine wpAnyH_ready (rs := [1]) (by kernel_rfl) (by simp) (Yh.readyRun (i := 1) rfl (by kernel_rfl) (some 23) (by kernel_rfl) (v := v) (w' := Wd) (by obtain ⟨o0, o1⟩ := Pm.two kO0; go_simp) st (fun hHeld => ?_) AllReadyH.nil)
              simp only [Act.put, List.setIfInBounds_toArray, List.set_cons_zero, List.set_cons_succ]
              obtain ⟨v', Z, hrun, hotZ, hgr⟩ := hot0.app 36 (c := 1) hbd hf2 (Nat.le_refl _) (by omega) hT hFl
              refine wpAnyH_ready (rs := [5]) (by kernel_rfl) (by simp) (Yh.readyRun (i := 5) rfl (by kernel_rfl) (some 27) (by kernel_rfl) (exec_app (.tmp 23) (.tmp 26) rfl (by kernel_rfl) (by kernel_rfl) hrun) (st.grown hgr) (fun hHeld => ?_) AllReadyH.nil)
              simp only [Act.put, List.setIfInBounds_toArray, List.set_cons_zero, List.set_cons_succ]
              replace st := st.grown hgr
              obtain ⟨va, vn, vc, hv⟩ := hotZ.slice
              subst hv
              have kOZ := (hgr.block _ (blk_lt kO0) (fun e => by have := (hot0.row_lt e.symm).1; omega)).trans kO0
              replace B2 := B2.grown hgr B2.size (fun k hk => by have := (hot0.row_lt hk).1; omega)
              obtain ⟨o0, o1⟩ := Pm.two kOZ
              have fO := Bl.free kOZ
              refine Pq.take (i := 6) (d := some 28) (v := .pointer (some ⟨w.heap.size + 1 + 1, 1, none⟩)) rfl (by kernel_rfl) (by kernel_rfl) (by kernel_rfl) (by kernel_rfl) (fun _ _ _ h => h) (Or.inl ⟨by rfl, by intro w hSw; go_simp⟩) hHeld ?_
              simp only [Act.put, List.setIfInBounds_toArray, List.set_cons_zero, List.set_cons_succ]
              refine wpAnyH_ready (rs := [7]) (by kernel_rfl) (by simp) (Yh.readySkip (i := 7) rfl (by kernel_rfl) none (by kernel_rfl) (w' := Z.setCell ⟨w.heap.size + 1 + 1, 1, none⟩ (.slice va vn vc)) (by go_simp) st.set (fun hHeld => ?_) AllReadyH.nil)
              simp only [Act.put, List.setIfInBounds_toArray, List.set_cons_zero, List.set_cons_succ]
              refine wpAnyH_done (by kernel_rfl) ?_ _
              have kO' : (Z.setCell ⟨w.heap.size + 1 + 1, 1, none⟩ (.slice va vn vc)).heap[w.heap.size + 1 + 1]? = some (.cells #[.int .i64 q, (.slice va vn vc)] 38 (0, 0)) := blk_same kOZ
              have B1' : Below w.heap.size w (Z.setCell ⟨w.heap.size + 1 + 1, 1, none⟩ (.slice va vn vc)) := Pm.bset B2 hwo
              have hot' : OT (Z.setCell ⟨w.heap.size + 1 + 1, 1, none⟩ (.slice va vn vc)) B (.slice va vn vc) (F ++ [f]) := hotZ.keep fun x _ hx => blk_other rfl (by omega)
              replace st : Stab wr (w.heap.size + 1 + 1) v (Z.setCell ⟨w.heap.size + 1 + 1, 1, none⟩ (.slice va vn vc)) := st.set
              go_wp2
              go_roundw
              case rel => exact ⟨i + 1, .slice va vn vc, F ++ [f], by omega, by go_num, B1', (st.block _ (by omega) (by omega) (fun e => by have := (hot.row_lt e.symm).1; omega)).trans kT, (st.block _ (by omega) (by omega) (fun e => by have := (hot.row_lt e.symm).1; omega)).trans kR, kO', hot', by have := st.size; omega, by simp only [sel]; rw [HP.out, if_pos rfl, List.map_append, ← HF.out, said_getD, HX.out]; simp [sf]⟩
              case measure => simp [intOf]; omega
    · obtain rfl : i = n := by omega
      obtain ⟨aF, gF, cF, rfl, _, _⟩ := hot.form (by omega)
      have hlen : F.length = (sel p (Q.map Ent.said) i).length := by rw [← HF.out]; simp
      have hz : (i : Int) - (F.length : Int) = m := by rw [hlen]; exact HM.out.symm
      have hwm : IntKind.i64.wrap m = m := by rw [IntKind.wrap_i64]; omega
      have HLen : Hid (F.length = (sel p (Q.map Ent.said) i).length) := hlen
      clear hlen hc ho hP
      go_wp2
      refine wp_region_held_drew (S := (fun w' => w'.heap[w.heap.size]? = some (.cells #[.int .i64 q, .slice a i cap] 38 (0, 0)) ∧ w'.heap[w.heap.size + 1 + 1]? = some (.cells #[.int .i64 q, .slice aF F.length cF] 38 (0, 0)))) (by kernel_rfl) ⟨kT, kO⟩ (fun hHeld => ?_)
      refine Pq.take (i := 0) (d := some 30) (v := .agg #[.int .i64 q, .slice aF F.length cF]) rfl (by kernel_rfl) (by kernel_rfl) (by kernel_rfl) (by kernel_rfl) (fun _ _ _ h => h) (Or.inl ⟨by rfl, by intro w hSw; obtain ⟨z0, z1⟩ := hSw; obtain ⟨s0, s1⟩ := Pm.two z0; obtain ⟨s2, s3⟩ := Pm.two z1; go_simp⟩) hHeld ?_
      simp only [Act.put, List.setIfInBounds_toArray, List.set_cons_zero, List.set_cons_succ]
      refine Pq.take (i := 1) (d := some 31) (v := .pointer (some ⟨w.heap.size, 1, none⟩)) rfl (by kernel_rfl) (by kernel_rfl) (by kernel_rfl) (by kernel_rfl) (fun _ _ _ h => h) (Or.inl ⟨by rfl, by intro w hSw; go_simp⟩) hHeld ?_
      simp only [Act.put, List.setIfInBounds_toArray, List.set_cons_zero, List.set_cons_succ]
      refine Pq.take (i := 2) (d := some 32) (v := .slice a i cap) rfl (by kernel_rfl) (by kernel_rfl) (by kernel_rfl) (by kernel_rfl) (fun _ _ _ h => h) (Or.inl ⟨by rfl, by intro w hSw; obtain ⟨z0, z1⟩ := hSw; obtain ⟨s0, s1⟩ := Pm.two z0; obtain ⟨s2, s3⟩ := Pm.two z1; go_simp⟩) hHeld ?_
      simp only [Act.put, List.setIfInBounds_toArray, List.set_cons_zero, List.set_cons_succ]
      refine Pq.take (i := 3) (d := some 33) (v := .int .i64 i) rfl (by kernel_rfl) (by kernel_rfl) (by kernel_rfl) (by kernel_rfl) (fun _ _ _ h => h) (Or.inl ⟨by rfl, by intro w hSw; go_simp⟩) hHeld ?_
      simp only [Act.put, List.setIfInBounds_toArray, List.set_cons_zero, List.set_cons_succ]
      refine Pq.take (i := 4) (d := some 34) (v := .pointer (some ⟨w.heap.size + 1 + 1, 1, none⟩)) rfl (by kernel_rfl) (by kernel_rfl) (by kernel_rfl) (by kernel_rfl) (fun _ _ _ h => h) (Or.inl ⟨by rfl, by intro w hSw; go_simp⟩) hHeld ?_
      simp only [Act.put, List.setIfInBounds_toArray, List.set_cons_zero, List.set_cons_succ]
      refine Pq.take (i := 5) (d := some 35) (v := .slice aF F.length cF) rfl (by kernel_rfl) (by kernel_rfl) (by kernel_rfl) (by kernel_rfl) (fun _ _ _ h => h) (Or.inl ⟨by rfl, by intro w hSw; obtain ⟨z0, z1⟩ := hSw; obtain ⟨s0, s1⟩ := Pm.two z0; obtain ⟨s2, s3⟩ := Pm.two z1; go_simp⟩) hHeld ?_
      simp only [Act.put, List.setIfInBounds_toArray, List.set_cons_zero, List.set_cons_succ]
      refine Pq.take (i := 6) (d := some 36) (v := .int .i64 F.length) rfl (by kernel_rfl) (by kernel_rfl) (by kernel_rfl) (by kernel_rfl) (fun _ _ _ h => h) (Or.inl ⟨by rfl, by intro w hSw; go_simp⟩) hHeld ?_
      simp only [Act.put, List.setIfInBounds_toArray, List.set_cons_zero, List.set_cons_succ]
      refine Pq.take (i := 7) (d := some 37) (v := .int .i64 m) rfl (by kernel_rfl) (by kernel_rfl) (by kernel_rfl) (by kernel_rfl) (fun _ _ _ h => h) (Or.inl ⟨by rfl, by intro w hSw; go_simp⟩) hHeld ?_
      simp only [Act.put, List.setIfInBounds_toArray, List.set_cons_zero, List.set_cons_succ]
      obtain ⟨r0, r1⟩ := Pm.two kR
      have fR := Bl.free kR
      refine wpAnyH_ready (rs := [8]) (by kernel_rfl) (by simp) (Yh.readySkip (i := 8) rfl (by kernel_rfl) none (by kernel_rfl) (w' := (wr.drew.setCell ⟨w.heap.size + 1, 0, none⟩ (.int .i64 q)).setCell ⟨w.heap.size + 1, 1, none⟩ (.slice aF F.length cF)) (by go_simp) ⟨blk_other (blk_other kT (by omega)) (by omega), blk_other (blk_other kO (by omega)) (by omega)⟩ (fun hHeld => ?_) AllReadyH.nil)
      simp only [Act.put, List.setIfInBounds_toArray, List.set_cons_zero, List.set_cons_succ]
      refine Pq.take (i := 9) (d := some 5) (v := .int .i64 m) rfl (by kernel_rfl) (by kernel_rfl) (by kernel_rfl) (by kernel_rfl) (fun _ _ _ h => h) (Or.inl ⟨by rfl, by intro w hSw; go_simp⟩) hHeld ?_
      simp only [Act.put, List.setIfInBounds_toArray, List.set_cons_zero, List.set_cons_succ]
      refine wpAnyH_done (by kernel_rfl) ?_ _
      go_wp2
      have y0 : (wr.setCell ⟨w.heap.size + 1, 0, none⟩ (.int .i64 q)).cell? ⟨w.heap.size + 1, 0, none⟩ = some (.int .i64 q) := (Pm.two (blk_same kR)).1
      have y1 : ((wr.setCell ⟨w.heap.size + 1, 0, none⟩ (.int .i64 q)).setCell ⟨w.heap.size + 1, 1, none⟩ (.slice aF F.length cF)).cell? ⟨w.heap.size + 1, 1, none⟩ = some (.slice aF F.length cF) := (Pm.two (blk_same (blk_same kR))).2
      exact bodyPost_ret (v := .tuple #[.agg #[.int .i64 q, .slice aF F.length cF], .int .i64 m]) (by simp [results, Try.results86, go_sem, y0, y1]) rfl ⟨_, F, rfl, ((hot.below ((Below.refl _ _).drew)).keep (fun x _ hx => blk_other (blk_other rfl (by omega)) (by omega))).mono (by omega), HF.out, Pm.bset (Pm.bset (Rw.next B1 ((Below.refl _ _).drew)) (by omega)) (by omega)⟩

def Tells131 (Q : List Ent) (w : World) (p : Nat → Bool) : Prop := ∀ k, k < Q.length → ∀ W, Below w.heap.size w W → Calls Try.prog 131 #[.agg #[.int .i64 (Q.getD k e0).ep, .int .i64 (Q.getD k e0).pr, .slice (Q.getD k e0).aV (Q.getD k e0).V.length (Q.getD k e0).cV, .slice (Q.getD k e0).aM (Q.getD k e0).M.length (Q.getD k e0).cM, .slice (Q.getD k e0).aA (Q.getD k e0).A.length (Q.getD k e0).cA, .int .i64 (Q.getD k e0).h]] W fun e w' => e = .returned (.bool (p k)) ∧ Below W.heap.size W w'
set_option maxHeartbeats 16000000 in
theorem sieve131 (q : Int) (a : Option Addr) (b off cap : Nat) (Q : List Ent) (p : Nat → Bool) (w : World) (h : Rd w a b off Q) (h4 : Q.length ≤ 400) (hP : Tells131 Q w p) (m : Int) (hm : m = (Q.length : Int) - ((sel p (Q.map Ent.said) Q.length).length : Int)) :
    Calls Try.prog 86 #[.agg #[.int .i64 q, .slice a Q.length cap], .func (.func 131) #[] #[]] w (ResT w q (sel p (Q.map Ent.said) Q.length) m) := by
  obtain ⟨W1, hW1⟩ : ∃ W1, W1 = ((w.alloc (.cells #[.int .i64 q, .slice a Q.length cap] 38)).alloc (.cells #[.int .i64 0, .slice none 0 0] 38)).alloc (.cells #[.int .i64 q, .slice none 0 0] 38) := ⟨_, rfl⟩
  have B1 : Below w.heap.size w W1 := by subst hW1; exact Rw.next (Rw.next (below_alloc1 _ _) (below_alloc1 _ _)) (below_alloc1 _ _)
  have kT : W1.heap[w.heap.size]? = some (.cells #[.int .i64 q, .slice a Q.length cap] 38 (0, 0)) := by subst hW1; rw [at_old (by simp <;> omega), at_old (by simp), at_new rfl]
  have kR : W1.heap[w.heap.size + 1]? = some (.cells #[.int .i64 0, .slice none 0 0] 38 (0, 0)) := by subst hW1; rw [at_old (by simp), at_new (by simp)]
  have kO : W1.heap[w.heap.size + 1 + 1]? = some (.cells #[.int .i64 q, .slice none 0 0] 38 (0, 0)) := by subst hW1; exact at_new (by simp)
  obtain ⟨hh, hc, ho, hs⟩ := h
  unfold Tells131 at hP
  obtain ⟨n, hn⟩ : ∃ n, n = Q.length := ⟨_, rfl⟩
  rw [← hn] at hh hc ho hs hP hW1 kT h4 hm ⊢
  have HN : Hid (n = Q.length) := hn
  have HM : Hid (m = (n : Int) - ((sel p (Q.map Ent.said) n).length : Int)) := hm
  clear hn hm
  obtain ⟨B, hB⟩ : ∃ B, B = w.heap.size + 1 + 1 + 1 := ⟨_, rfl⟩
  have zW1 : B ≤ W1.heap.size := by have := blk_lt kO; omega
  have hBo : w.heap.size + 1 + 1 < B := by omega
  have HB : Hid (B = w.heap.size + 1 + 1 + 1) := hB
  clear hB
  have hwo : w.heap.size ≤ w.heap.size + 1 + 1 := by omega
  go_enter Try.func86, Try.ntmps86
  go_wp2
  rw [← hW1]
  clear hW1
  go_loopw [15] (fun u wr => ∃ (i : Nat) (v : Value) (F : List Ent), i ≤ n ∧ u = .int .i64 i ∧ Below w.heap.size w wr ∧ wr.heap[w.heap.size]? = some (.cells #[.int .i64 q, .slice a n cap] 38 (0, 0)) ∧ wr.heap[w.heap.size + 1]? = some (.cells #[.int .i64 0, .slice none 0 0] 38 (0, 0)) ∧ wr.heap[w.heap.size + 1 + 1]? = some (.cells #[.int .i64 q, v] 38 (0, 0)) ∧ OT wr B v F ∧ B ≤ wr.heap.size ∧ F.map Ent.said = sel p (Q.map Ent.said) i) (fun u _ => n - (intOf u).toNat)
  case atStart => exact ⟨0, .slice none 0 0, [], Nat.zero_le _, rfl, B1, kT, kR, kO, OT.nil _ _, zW1, rfl⟩
  case round =>
    clear B1 kT kR kO zW1
    obtain ⟨i, v, F, hi, rfl, B1, kT, kR, kO, hot, hBs, hF⟩ := hrel
    have HF : Hid (F.map Ent.said = sel p (Q.map Ent.said) i) := hF
    have hFl : F.length ≤ 100000 := by
      have e1 := congrArg List.length hF
      have e2 := sel_len p (Q.map Ent.said) i
      simp only [List.length_map] at e1
      omega
    clear hF
    by_cases hlt : i < n
    · obtain rfl := hh (by omega)
      have hnz : (i : Int) < (n : Int) := by omega
      obtain ⟨c0, c1, c2, c3, c4, c5⟩ := ((hc i hlt).of B1 (At6.lt (hc i hlt))).six
      have ok := (ho i hlt).of B1 (Nat.le_refl _)
      obtain ⟨x, hx⟩ : ∃ x, x = Q.getD i e0 := ⟨_, rfl⟩
      have hcl := hP i hlt
      rw [← hx] at c0 c1 c2 c3 c4 c5 ok hcl
      have HX : Hid (Q.getD i e0 = x) := hx.symm
      clear hx hc ho hh hP
      obtain ⟨W2, hW2⟩ : ∃ W2, W2 = wr.alloc (.cells #[.int .i64 x.ep, .int .i64 x.pr, .slice x.aV x.V.length x.cV, .slice x.aM x.M.length x.cM, .slice x.aA x.A.length x.cA, .int .i64 x.h] 41) := ⟨_, rfl⟩
      have kE : W2.heap[wr.heap.size]? = some (.cells #[.int .i64 x.ep, .int .i64 x.pr, .slice x.aV x.V.length x.cV, .slice x.aM x.M.length x.cM, .slice x.aA x.A.length x.cA, .int .i64 x.h] 41 (0, 0)) := by subst hW2; exact at_new rfl
      have hb : Below wr.heap.size wr W2 := by subst hW2; exact below_alloc1 _ _
      have hca := hcl W2 (Rw.next B1 hb)
      have eb : ∃ eb, eb = wr.heap.size := ⟨_, rfl⟩
      obtain ⟨eb, heb⟩ := eb
      have ebB : B ≤ eb := by omega
      have ebR : ∀ k, v.ownBlock = some k → k < eb := fun k hk => by have := (hot.row_lt hk).2; omega
      replace kT := (hb.block _ (blk_lt kT)).trans kT
      replace kR := (hb.block _ (blk_lt kR)).trans kR
      replace kO := (hb.block _ (blk_lt kO)).trans kO
      replace hot := hot.below hb
      replace ok := ok.below hb
      replace B1 := Rw.next B1 hb
      have hBs2 : B ≤ W2.heap.size := Nat.le_trans hBs hb.size
      clear hb hcl hBs
      rw [← heb] at kE
      cases hp : p i
      · rw [hp] at hca
        have HP : Hid (p i = false) := hp
        clear hp
        go_wp2_with (go_at_call 131; rw [← hW2]; clear hW2; refine hca.mono ?_; rintro e1 w3 ⟨rfl, hb⟩)
        go_roundw
        case rel => exact ⟨i + 1, v, F, by omega, by go_num, Rw.next B1 hb, (hb.block _ (blk_lt kT)).trans kT, (hb.block _ (blk_lt kR)).trans kR, (hb.block _ (blk_lt kO)).trans kO, hot.below hb, Nat.le_trans hBs2 hb.size, by simp only [sel]; rw [HP.out]; exact HF.out⟩
        case measure => simp [intOf]; omega
      · rw [hp] at hca
        have HP : Hid (p i = true) := hp
        clear hp
        go_wp2_with (go_at_call 131; rw [← hW2]; clear hW2; refine hca.mono ?_; rintro e1 w3 ⟨rfl, hb⟩; replace kT := (hb.block _ (blk_lt kT)).trans kT; replace kR := (hb.block _ (blk_lt kR)).trans kR; replace kO := (hb.block _ (blk_lt kO)).trans kO; replace kE := (hb.block _ (blk_lt kE)).trans kE; replace hot := hot.below hb; replace ok := ok.below hb; replace B1 := Rw.next B1 hb; replace hBs2 := Nat.le_trans hBs2 hb.size; clear hb)
        rw [← heb]
        clear heb hca c0 c1 c2 c3 c4 c5
        generalize w3 = wr at *
        · have hcp := fun W (ok : Ent.Ok W x) => copyE x W ok
          simp only [ent_vals x] at hcp
          have lE := blk_lt kE
          have hSt : ∀ w', Stab wr (w.heap.size + 1 + 1) v w' → w'.cell? ⟨eb, 0, none⟩ = some (.int .i64 x.ep) ∧ w'.cell? ⟨eb, 1, none⟩ = some (.int .i64 x.pr) ∧ w'.cell? ⟨eb, 2, none⟩ = some (.slice x.aV x.V.length x.cV) ∧ w'.cell? ⟨eb, 3, none⟩ = some (.slice x.aM x.M.length x.cM) ∧ w'.cell? ⟨eb, 4, none⟩ = some (.slice x.aA x.A.length x.cA) ∧ w'.cell? ⟨eb, 5, none⟩ = some (.int .i64 x.h) :=
            fun w' h => six ((h.block eb lE (by omega) (fun e => by have := ebR _ e.symm; omega)).trans kE)
          refine wp_region_held_drew (S := Stab wr (w.heap.size + 1 + 1) v) (by kernel_rfl) (Stab.refl _ _ _) (fun hHeld => ?_)
          refine Pq.take (i := 0) (d := some 22) (v := .pointer (some ⟨w.heap.size + 1 + 1, 1, none⟩)) rfl (by kernel_rfl) (by kernel_rfl) (by kernel_rfl) (by kernel_rfl) (fun _ _ _ h => h) (Or.inl ⟨by rfl, by intro w hSw; go_simp⟩) hHeld ?_
          simp only [Act.put, List.setIfInBounds_toArray, List.set_cons_zero, List.set_cons_succ]
          refine Pq.take (i := 2) (d := some 24) (v := .agg #[.int .i64 x.ep, .int .i64 x.pr, .slice x.aV x.V.length x.cV, .slice x.aM x.M.length x.cM, .slice x.aA x.A.length x.cA, .int .i64 x.h]) rfl (by kernel_rfl) (by kernel_rfl) (by kernel_rfl) (by kernel_rfl) (fun _ _ _ h => h) (Or.inl ⟨by rfl, by intro w hSw; obtain ⟨s0, s1, s2, s3, s4, s5⟩ := hSt w hSw; go_simp⟩) hHeld ?_
          simp only [Act.put, List.setIfInBounds_toArray, List.set_cons_zero, List.set_cons_succ]
          have st : Stab wr (w.heap.size + 1 + 1) v wr.drew := Stab.refl _ _ _
          have hot0 : OT wr.drew B v F := hot.below ((Below.refl _ _).drew)
          have kO0 : wr.drew.heap[w.heap.size + 1 + 1]? = some (.cells #[.int .i64 q, v] 38 (0, 0)) := kO
          have ok0 := ok.below ((Below.refl wr.heap.size wr).drew)
          have B2 := Rw.next B1 ((Below.refl wr.heap.size wr).drew)
          have sW : wr.drew.heap.size = wr.heap.size := rfl
          generalize wr.drew = W at *
          refine wpAnyH_ready (rs := [1, 3]) (by kernel_rfl) (by simp) (Yh.readyRun (i := 1) rfl (by kernel_rfl) (some 23) (by kernel_rfl) (v := v) (w' := W) (by obtain ⟨o0, o1⟩ := Pm.two kO0; go_simp) st (fun hHeld => ?_) (Rg.call1 (i := 3) rfl (by rfl) 79 (.tmp 24) 41 (by kernel_rfl) 25 (by kernel_rfl) (.agg #[.int .i64 x.ep, .int .i64 x.pr, .slice x.aV x.V.length x.cV, .slice x.aM x.M.length x.cM, .slice x.aA x.A.length x.cA, .int .i64 x.h]) (by kernel_rfl) (fun _ => rfl) (hcp _ ok0) ?_ AllReadyH.nil))
          · simp only [Act.put, List.setIfInBounds_toArray, List.set_cons_zero, List.set_cons_succ]
            refine wpAnyH_ready (rs := [3]) (by kernel_rfl) (by simp) (Rg.call1 (i := 3) rfl (by rfl) 79 (.tmp 24) 41 (by kernel_rfl) 25 (by kernel_rfl) (.agg #[.int .i64 x.ep, .int .i64 x.pr, .slice x.aV x.V.length x.cV, .slice x.aM x.M.length x.cM, .slice x.aA x.A.length x.cA, .int .i64 x.h]) (by kernel_rfl) (fun _ => rfl) (hcp _ ok0) ?_ AllReadyH.nil)
            rintro e1 Wc ⟨f, rfl, sf, hf, hb⟩
            replace st := st.below hb
            replace kO0 := (hb.block _ (blk_lt kO0)).trans kO0
            have hbc := hb
            replace B2 := Rw.next B2 hb
            have sC := hb.size
            refine ⟨_, rfl, st, fun hHeld => ?_⟩
            simp only [Act.put, List.setIfInBounds_toArray, List.set_cons_zero, List.set_cons_succ]
            refine wpAnyH_ready (rs := [4]) (by kernel_rfl) (by simp) (Yh.readyRun (i := 4) rfl (by kernel_rfl) (some 26) (by kernel_rfl) (v := .slice (some ⟨Wc.heap.size, 0, none⟩) 1 1) (w' := Wc.alloc (.cells f.vals 41)) (exec_one rfl (by kernel_rfl)) (st.below (below_alloc1 _ _)) (fun hHeld => ?_) AllReadyH.nil)
            simp only [Act.put, List.setIfInBounds_toArray, List.set_cons_zero, List.set_cons_succ]
            obtain ⟨Wd, hWd⟩ : ∃ Wd, Wd = Wc.alloc (.cells f.vals 41) := ⟨_, rfl⟩
            rw [← hWd] at hHeld ⊢
            have hT : Wd.heap[Wc.heap.size]? = some (.cells f.vals 41 (0, 0)) := by subst hWd; exact at_new rfl
            have hb : Below Wc.heap.size Wc Wd := by subst hWd; exact below_alloc1 _ _
            replace st := st.below hb
            replace kO0 := (hb.block _ (blk_lt kO0)).trans kO0
            replace B2 := Rw.next B2 hb
            have hf2 := hf.below hb
            have hbd := Rw.next hbc hb
            clear hb hWd
            obtain ⟨v', Z, hrun, hotZ, hgr⟩ := hot0.app 36 (c := 1) hbd hf2 (Nat.le_refl _) (by omega) hT hFl
            refine wpAnyH_ready (rs := [5]) (by kernel_rfl) (by simp) (Yh.readyRun (i := 5) rfl (by kernel_rfl) (some 27) (by kernel_rfl) (exec_app (.tmp 23) (.tmp 26) rfl (by kernel_rfl) (by kernel_rfl) hrun) (st.grown hgr) (fun hHeld => ?_) AllReadyH.nil)
            simp only [Act.put, List.setIfInBounds_toArray, List.set_cons_zero, List.set_cons_succ]
            replace st := st.grown hgr
            obtain ⟨va, vn, vc, hv⟩ := hotZ.slice
            subst hv
            have kOZ := (hgr.block _ (blk_lt kO0) (fun e => by have := (hot0.row_lt e.symm).1; omega)).trans kO0
            replace B2 := B2.grown hgr B2.size (fun k hk => by have := (hot0.row_lt hk).1; omega)
            obtain ⟨o0, o1⟩ := Pm.two kOZ
            have fO := Bl.free kOZ
            refine Pq.take (i := 6) (d := some 28) (v := .pointer (some ⟨w.heap.size + 1 + 1, 1, none⟩)) rfl (by kernel_rfl) (by kernel_rfl) (by kernel_rfl) (by kernel_rfl) (fun _ _ _ h => h) (Or.inl ⟨by rfl, by intro w hSw; go_simp⟩) hHeld ?_
            simp only [Act.put, List.setIfInBounds_toArray, List.set_cons_zero, List.set_cons_succ]
            refine wpAnyH_ready (rs := [7]) (by kernel_rfl) (by simp) (Yh.readySkip (i := 7) rfl (by kernel_rfl) none (by kernel_rfl) (w' := Z.setCell ⟨w.heap.size + 1 + 1, 1, none⟩ (.slice va vn vc)) (by go_simp) st.set (fun hHeld => ?_) AllReadyH.nil)
            simp only [Act.put, List.setIfInBounds_toArray, List.set_cons_zero, List.set_cons_succ]
            refine wpAnyH_done (by kernel_rfl) ?_ _
            have kO' : (Z.setCell ⟨w.heap.size + 1 + 1, 1, none⟩ (.slice va vn vc)).heap[w.heap.size + 1 + 1]? = some (.cells #[.int .i64 q, (.slice va vn vc)] 38 (0, 0)) := blk_same kOZ
            have B1' : Below w.heap.size w (Z.setCell ⟨w.heap.size + 1 + 1, 1, none⟩ (.slice va vn vc)) := Pm.bset B2 hwo
            have hot' : OT (Z.setCell ⟨w.heap.size + 1 + 1, 1, none⟩ (.slice va vn vc)) B (.slice va vn vc) (F ++ [f]) := hotZ.keep fun x _ hx => blk_other rfl (by omega)
            replace st : Stab wr (w.heap.size + 1 + 1) v (Z.setCell ⟨w.heap.size + 1 + 1, 1, none⟩ (.slice va vn vc)) := st.set
            go_wp2
            go_roundw
            case rel => exact ⟨i + 1, .slice va vn vc, F ++ [f], by omega, by go_num, B1', (st.block _ (by omega) (by omega) (fun e => by have := (hot.row_lt e.symm).1; omega)).trans kT, (st.block _ (by omega) (by omega) (fun e => by have := (hot.row_lt e.symm).1; omega)).trans kR, kO', hot', by have := st.size; omega, by simp only [sel]; rw [HP.out, if_pos rfl, List.map_append, ← HF.out, said_getD, HX.out]; simp [sf]⟩
            case measure => simp [intOf]; omega
          · rintro e1 Wc ⟨f, rfl, sf, hf, hb⟩
            replace st := st.below hb
            replace kO0 := (hb.block _ (blk_lt kO0)).trans kO0
            have hbc := hb
            replace B2 := Rw.next B2 hb
            have sC := hb.size
            refine ⟨_, rfl, st, fun hHeld => ?_⟩
            simp only [Act.put, List.setIfInBounds_toArray, List.set_cons_zero, List.set_cons_succ]
            refine wpAnyH_ready (rs := [1, 4]) (by kernel_rfl) (by simp) (Yh.readyRun (i := 1) rfl (by kernel_rfl) (some 23) (by kernel_rfl) (v := v) (w' := Wc) (by obtain ⟨o0, o1⟩ := Pm.two kO0; go_simp) st (fun hHeld => ?_) (Yh.readyRun (i := 4) rfl (by kernel_rfl) (some 26) (by kernel_rfl) (v := .slice (some ⟨Wc.heap.size, 0, none⟩) 1 1) (w' := Wc.alloc (.cells f.vals 41)) (exec_one rfl (by kernel_rfl)) (st.below (below_alloc1 _ _)) (fun hHeld => ?_) AllReadyH.nil))
            · simp only [Act.put, List.setIfInBounds_toArray, List.set_cons_zero, List.set_cons_succ]
              refine wpAnyH_ready (rs := [4]) (by kernel_rfl) (by simp) (Yh.readyRun (i := 4) rfl (by kernel_rfl) (some 26) (by kernel_rfl) (v := .slice (some ⟨Wc.heap.size, 0, none⟩) 1 1) (w' := Wc.alloc (.cells f.vals 41)) (exec_one rfl (by kernel_rfl)) (st.below (below_alloc1 _ _)) (fun hHeld => ?_) AllReadyH.nil)
              simp only [Act.put, List.setIfInBounds_toArray, List.set_cons_zero, List.set_cons_succ]
              obtain ⟨Wd, hWd⟩ : ∃ Wd, Wd = Wc.alloc (.cells f.vals 41) := ⟨_, rfl⟩
              rw [← hWd] at hHeld ⊢
              have hT : Wd.heap[Wc.heap.size]? = some (.cells f.vals 41 (0, 0)) := by subst hWd; exact at_new rfl
              have hb : Below Wc.heap.size Wc Wd := by subst hWd; exact below_alloc1 _ _
              replace st := st.below hb
              replace kO0 := (hb.block _ (blk_lt kO0)).trans kO0
              replace B2 := Rw.next B2 hb
              have hf2 := hf.below hb
              have hbd := Rw.next hbc hb
              clear hb hWd
              obtain ⟨v', Z, hrun, hotZ, hgr⟩ := hot0.app 36 (c := 1) hbd hf2 (Nat.le_refl _) (by omega) hT hFl
              refine wpAnyH_ready (rs := [5]) (by kernel_rfl) (by simp) (Yh.readyRun (i := 5) rfl (by kernel_rfl) (some 27) (by kernel_rfl) (exec_app (.tmp 23) (.tmp 26) rfl (by kernel_rfl) (by kernel_rfl) hrun) (st.grown hgr) (fun hHeld => ?_) AllReadyH.nil)
              simp only [Act.put, List.setIfInBounds_toArray, List.set_cons_zero, List.set_cons_succ]
              replace st := st.grown hgr
              obtain ⟨va, vn, vc, hv⟩ := hotZ.slice
              subst hv
              have kOZ := (hgr.block _ (blk_lt kO0) (fun e => by have := (hot0.row_lt e.symm).1; omega)).trans kO0
              replace B2 := B2.grown hgr B2.size (fun k hk => by have := (hot0.row_lt hk).1; omega)
              obtain ⟨o0, o1⟩ := Pm.two kOZ
              have fO := Bl.free kOZ
              refine Pq.take (i := 6) (d := some 28) (v := .pointer (some ⟨w.heap.size + 1 + 1, 1, none⟩)) rfl (by kernel_rfl) (by kernel_rfl) (by kernel_rfl) (by kernel_rfl) (fun _ _ _ h => h) (Or.inl ⟨by rfl, by intro w hSw; go_simp⟩) hHeld ?_
              simp only [Act.put, List.setIfInBounds_toArray, List.set_cons_zero, List.set_cons_succ]
              refine wpAnyH_ready (rs := [7]) (by kernel_rfl) (by simp) (Yh.readySkip (i := 7) rfl (by kernel_rfl) none (by kernel_rfl) (w' := Z.setCell ⟨w.heap.size + 1 + 1, 1, none⟩ (.slice va vn vc)) (by go_simp) st.set (fun hHeld => ?_) AllReadyH.nil)
              simp only [Act.put, List.setIfInBounds_toArray, List.set_cons_zero, List.set_cons_succ]
              refine wpAnyH_done (by kernel_rfl) ?_ _
              have kO' : (Z.setCell ⟨w.heap.size + 1 + 1, 1, none⟩ (.slice va vn vc)).heap[w.heap.size + 1 + 1]? = some (.cells #[.int .i64 q, (.slice va vn vc)] 38 (0, 0)) := blk_same kOZ
              have B1' : Below w.heap.size w (Z.setCell ⟨w.heap.size + 1 + 1, 1, none⟩ (.slice va vn vc)) := Pm.bset B2 hwo
              have hot' : OT (Z.setCell ⟨w.heap.size + 1 + 1, 1, none⟩ (.slice va vn vc)) B (.slice va vn vc) (F ++ [f]) := hotZ.keep fun x _ hx => blk_other rfl (by omega)
              replace st : Stab wr (w.heap.size + 1 + 1) v (Z.setCell ⟨w.heap.size + 1 + 1, 1, none⟩ (.slice va vn vc)) := st.set
              go_wp2
              go_roundw
              case rel => exact ⟨i + 1, .slice va vn vc, F ++ [f], by omega, by go_num, B1', (st.block _ (by omega) (by omega) (fun e => by have := (hot.row_lt e.symm).1; omega)).trans kT, (st.block _ (by omega) (by omega) (fun e => by have := (hot.row_lt e.symm).1; omega)).trans kR, kO', hot', by have := st.size; omega, by simp only [sel]; rw [HP.out, if_pos rfl, List.map_append, ← HF.out, said_getD, HX.out]; simp [sf]⟩
              case measure => simp [intOf]; omega
            · simp only [Act.put, List.setIfInBounds_toArray, List.set_cons_zero, List.set_cons_succ]
              obtain ⟨Wd, hWd⟩ : ∃ Wd, Wd = Wc.alloc (.cells f.vals 41) := ⟨_, rfl⟩
              rw [← hWd] at hHeld ⊢
              have hT : Wd.heap[Wc.heap.size]? = some (.cells f.vals 41 (0, 0)) := by subst hWd; exact at_new rfl
              have hb : Below Wc.heap.size Wc Wd := by subst hWd; exact below_alloc1 _ _
              replace st := st.below hb
              replace kO0 := (hb.block _ (blk_lt kO0)).trans kO0
              replace B2 := Rw.next B2 hb
              have hf2 := hf.below hb
              have hbd := Rw.next hbc hb
              clear hb hWd
              refine wpAnyH_ready (rs := [1]) (by kernel_rfl) (by simp) (Yh.readyRun (i := 1) rfl (by kernel_rfl) (some 23) (by kernel_rfl) (v := v) (w' := Wd) (by obtain ⟨o0, o1⟩ := Pm.two kO0; go_simp) st (fun hHeld => ?_) AllReadyH.nil)
              simp only [Act.put, List.setIfInBounds_toArray, List.set_cons_zero, List.set_cons_succ]
              obtain ⟨v', Z, hrun, hotZ, hgr⟩ := hot0.app 36 (c := 1) hbd hf2 (Nat.le_refl _) (by omega) hT hFl
              refine wpAnyH_ready (rs := [5]) (by kernel_rfl) (by simp) (Yh.readyRun (i := 5) rfl (by kernel_rfl) (some 27) (by kernel_rfl) (exec_app (.tmp 23) (.tmp 26) rfl (by kernel_rfl) (by kernel_rfl) hrun) (st.grown hgr) (fun hHeld => ?_) AllReadyH.nil)
              simp only [Act.put, List.setIfInBounds_toArray, List.set_cons_zero, List.set_cons_succ]
              replace st := st.grown hgr
              obtain ⟨va, vn, vc, hv⟩ := hotZ.slice
              subst hv
              have kOZ := (hgr.block _ (blk_lt kO0) (fun e => by have := (hot0.row_lt e.symm).1; omega)).trans kO0
              replace B2 := B2.grown hgr B2.size (fun k hk => by have := (hot0.row_lt hk).1; omega)
              obtain ⟨o0, o1⟩ := Pm.two kOZ
              have fO := Bl.free kOZ
              refine Pq.take (i := 6) (d := some 28) (v := .pointer (some ⟨w.heap.size + 1 + 1, 1, none⟩)) rfl (by kernel_rfl) (by kernel_rfl) (by kernel_rfl) (by kernel_rfl) (fun _ _ _ h => h) (Or.inl ⟨by rfl, by intro w hSw; go_simp⟩) hHeld ?_
              simp only [Act.put, List.setIfInBounds_toArray, List.set_cons_zero, List.set_cons_succ]
              refine wpAnyH_ready (rs := [7]) (by kernel_rfl) (by simp) (Yh.readySkip (i := 7) rfl (by kernel_rfl) none (by kernel_rfl) (w' := Z.setCell ⟨w.heap.size + 1 + 1, 1, none⟩ (.slice va vn vc)) (by go_simp) st.set (fun hHeld => ?_) AllReadyH.nil)
              simp only [Act.put, List.setIfInBounds_toArray, List.set_cons_zero, List.set_cons_succ]
              refine wpAnyH_done (by kernel_rfl) ?_ _
              have kO' : (Z.setCell ⟨w.heap.size + 1 + 1, 1, none⟩ (.slice va vn vc)).heap[w.heap.size + 1 + 1]? = some (.cells #[.int .i64 q, (.slice va vn vc)] 38 (0, 0)) := blk_same kOZ
              have B1' : Below w.heap.size w (Z.setCell ⟨w.heap.size + 1 + 1, 1, none⟩ (.slice va vn vc)) := Pm.bset B2 hwo
              have hot' : OT (Z.setCell ⟨w.heap.size + 1 + 1, 1, none⟩ (.slice va vn vc)) B (.slice va vn vc) (F ++ [f]) := hotZ.keep fun x _ hx => blk_other rfl (by omega)
              replace st : Stab wr (w.heap.size + 1 + 1) v (Z.setCell ⟨w.heap.size + 1 + 1, 1, none⟩ (.slice va vn vc)) := st.set
              go_wp2
              go_roundw
              case rel => exact ⟨i + 1, .slice va vn vc, F ++ [f], by omega, by go_num, B1', (st.block _ (by omega) (by omega) (fun e => by have := (hot.row_lt e.symm).1; omega)).trans kT, (st.block _ (by omega) (by omega) (fun e => by have := (hot.row_lt e.symm).1; omega)).trans kR, kO', hot', by have := st.size; omega, by simp only [sel]; rw [HP.out, if_pos rfl, List.map_append, ← HF.out, said_getD, HX.out]; simp [sf]⟩
              case measure => simp [intOf]; omega
    · obtain rfl : i = n := by omega
      obtain ⟨aF, gF, cF, rfl, _, _⟩ := hot.form (by omega)
      have hlen : F.length = (sel p (Q.map Ent.said) i).length := by rw [← HF.out]; simp
      have hz : (i : Int) - (F.length : Int) = m := by rw [hlen]; exact HM.out.symm
      have hwm : IntKind.i64.wrap m = m := by rw [IntKind.wrap_i64]; omega
      have HLen : Hid (F.length = (sel p (Q.map Ent.said) i).length) := hlen
      clear hlen hc ho hP
      go_wp2
      refine wp_region_held_drew (S := (fun w' => w'.heap[w.heap.size]? = some (.cells #[.int .i64 q, .slice a i cap] 38 (0, 0)) ∧ w'.heap[w.heap.size + 1 + 1]? = some (.cells #[.int .i64 q, .slice aF F.length cF] 38 (0, 0)))) (by kernel_rfl) ⟨kT, kO⟩ (fun hHeld => ?_)
      refine Pq.take (i := 0) (d := some 30) (v := .agg #[.int .i64 q, .slice aF F.length cF]) rfl (by kernel_rfl) (by kernel_rfl) (by kernel_rfl) (by kernel_rfl) (fun _ _ _ h => h) (Or.inl ⟨by rfl, by intro w hSw; obtain ⟨z0, z1⟩ := hSw; obtain ⟨s0, s1⟩ := Pm.two z0; obtain ⟨s2, s3⟩ := Pm.two z1; go_simp⟩) hHeld ?_
      simp only [Act.put, List.setIfInBounds_toArray, List.set_cons_zero, List.set_cons_succ]
      refine Pq.take (i := 1) (d := some 31) (v := .pointer (some ⟨w.heap.size, 1, none⟩)) rfl (by kernel_rfl) (by kernel_rfl) (by kernel_rfl) (by kernel_rfl) (fun _ _ _ h => h) (Or.inl ⟨by rfl, by intro w hSw; go_simp⟩) hHeld ?_
      simp only [Act.put, List.setIfInBounds_toArray, List.set_cons_zero, List.set_cons_succ]
      refine Pq.take (i := 2) (d := some 32) (v := .slice a i cap) rfl (by kernel_rfl) (by kernel_rfl) (by kernel_rfl) (by kernel_rfl) (fun _ _ _ h => h) (Or.inl ⟨by rfl, by intro w hSw; obtain ⟨z0, z1⟩ := hSw; obtain ⟨s0, s1⟩ := Pm.two z0; obtain ⟨s2, s3⟩ := Pm.two z1; go_simp⟩) hHeld ?_
      simp only [Act.put, List.setIfInBounds_toArray, List.set_cons_zero, List.set_cons_succ]
      refine Pq.take (i := 3) (d := some 33) (v := .int .i64 i) rfl (by kernel_rfl) (by kernel_rfl) (by kernel_rfl) (by kernel_rfl) (fun _ _ _ h => h) (Or.inl ⟨by rfl, by intro w hSw; go_simp⟩) hHeld ?_
      simp only [Act.put, List.setIfInBounds_toArray, List.set_cons_zero, List.set_cons_succ]
      refine Pq.take (i := 4) (d := some 34) (v := .pointer (some ⟨w.heap.size + 1 + 1, 1, none⟩)) rfl (by kernel_rfl) (by kernel_rfl) (by kernel_rfl) (by kernel_rfl) (fun _ _ _ h => h) (Or.inl ⟨by rfl, by intro w hSw; go_simp⟩) hHeld ?_
      simp only [Act.put, List.setIfInBounds_toArray, List.set_cons_zero, List.set_cons_succ]
      refine Pq.take (i := 5) (d := some 35) (v := .slice aF F.length cF) rfl (by kernel_rfl) (by kernel_rfl) (by kernel_rfl) (by kernel_rfl) (fun _ _ _ h => h) (Or.inl ⟨by rfl, by intro w hSw; obtain ⟨z0, z1⟩ := hSw; obtain ⟨s0, s1⟩ := Pm.two z0; obtain ⟨s2, s3⟩ := Pm.two z1; go_simp⟩) hHeld ?_
      simp only [Act.put, List.setIfInBounds_toArray, List.set_cons_zero, List.set_cons_succ]
      refine Pq.take (i := 6) (d := some 36) (v := .int .i64 F.length) rfl (by kernel_rfl) (by kernel_rfl) (by kernel_rfl) (by kernel_rfl) (fun _ _ _ h => h) (Or.inl ⟨by rfl, by intro w hSw; go_simp⟩) hHeld ?_
      simp only [Act.put, List.setIfInBounds_toArray, List.set_cons_zero, List.set_cons_succ]
      refine Pq.take (i := 7) (d := some 37) (v := .int .i64 m) rfl (by kernel_rfl) (by kernel_rfl) (by kernel_rfl) (by kernel_rfl) (fun _ _ _ h => h) (Or.inl ⟨by rfl, by intro w hSw; go_simp⟩) hHeld ?_
      simp only [Act.put, List.setIfInBounds_toArray, List.set_cons_zero, List.set_cons_succ]
      obtain ⟨r0, r1⟩ := Pm.two kR
      have fR := Bl.free kR
      refine wpAnyH_ready (rs := [8]) (by kernel_rfl) (by simp) (Yh.readySkip (i := 8) rfl (by kernel_rfl) none (by kernel_rfl) (w' := (wr.drew.setCell ⟨w.heap.size + 1, 0, none⟩ (.int .i64 q)).setCell ⟨w.heap.size + 1, 1, none⟩ (.slice aF F.length cF)) (by go_simp) ⟨blk_other (blk_other kT (by omega)) (by omega), blk_other (blk_other kO (by omega)) (by omega)⟩ (fun hHeld => ?_) AllReadyH.nil)
      simp only [Act.put, List.setIfInBounds_toArray, List.set_cons_zero, List.set_cons_succ]
      refine Pq.take (i := 9) (d := some 5) (v := .int .i64 m) rfl (by kernel_rfl) (by kernel_rfl) (by kernel_rfl) (by kernel_rfl) (fun _ _ _ h => h) (Or.inl ⟨by rfl, by intro w hSw; go_simp⟩) hHeld ?_
      simp only [Act.put, List.setIfInBounds_toArray, List.set_cons_zero, List.set_cons_succ]
      refine wpAnyH_done (by kernel_rfl) ?_ _
      go_wp2
      have y0 : (wr.setCell ⟨w.heap.size + 1, 0, none⟩ (.int .i64 q)).cell? ⟨w.heap.size + 1, 0, none⟩ = some (.int .i64 q) := (Pm.two (blk_same kR)).1
      have y1 : ((wr.setCell ⟨w.heap.size + 1, 0, none⟩ (.int .i64 q)).setCell ⟨w.heap.size + 1, 1, none⟩ (.slice aF F.length cF)).cell? ⟨w.heap.size + 1, 1, none⟩ = some (.slice aF F.length cF) := (Pm.two (blk_same (blk_same kR))).2
      exact bodyPost_ret (v := .tuple #[.agg #[.int .i64 q, .slice aF F.length cF], .int .i64 m]) (by simp [results, Try.results86, go_sem, y0, y1]) rfl ⟨_, F, rfl, ((hot.below ((Below.refl _ _).drew)).keep (fun x _ hx => blk_other (blk_other rfl (by omega)) (by omega))).mono (by omega), HF.out, Pm.bset (Pm.bset (Rw.next B1 ((Below.refl _ _).drew)) (by omega)) (by omega)⟩

end Go.Proofs.Ytcbgnfjnjfaacaa.Cp
