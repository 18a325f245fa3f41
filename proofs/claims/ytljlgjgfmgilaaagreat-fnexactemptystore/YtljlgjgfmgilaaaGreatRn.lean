/-
  Lists of rows that grow by append.
-/
import Derived.Test.YtljlgjgfmgilaaaGreatRk
namespace Go.Proofs.YtljlgjgfmgilaaaGreat.Rl
set_option maxRecDepth 8000
set_option linter.unusedSimpArgs false
set_option linter.unusedVariables false
open Go Go.RowKit
open Num Word Pl Rp
open Vl (V2 z2)

/-- A list of rows in a block of the call's own, from B on; the rows lie elsewhere. -/
structure OG (w : World) (B : Nat) (v : Value) (Q : List Rm) : Prop where
  own : w.ownsRow B 149 1 v Q.length (Q.map Rm.val)
  each : ∀ r ∈ Q, r.Ok w
  far : ∀ r ∈ Q, r.l.length ≠ 0 → some r.b ≠ v.ownBlock
theorem OG.nil (w : World) (B : Nat) : OG w B (.slice none 0 0) [] := ⟨by simpa using World.ownsRow_nil w B 149 1, fun _ h => by simp at h, fun _ h => by simp at h⟩
theorem OG.made (w : World) {B : Nat} (hB : B ≤ w.heap.size) : OG (w.alloc (.cells #[] 149)) B (.slice (some ⟨w.heap.size, 0, none⟩) 0 0) [] :=
  ⟨by simpa using World.ownsRow_made (size := 1) (e := 149) w #[] 0 hB (Nat.zero_le _) rfl, fun _ h => by simp at h, fun _ h => by simp at h⟩
theorem OG.lt {w : World} {B : Nat} {v : Value} {Q : List Rm} (h : OG w B v Q) {k : Nat} (hk : v.ownBlock = some k) : B ≤ k ∧ k < w.heap.size := h.own.lt k hk
theorem OG.keep {w w' : World} {B : Nat} {v : Value} {Q : List Rm} (h : OG w B v Q) (hk : ∀ x, x < w.heap.size → (v.ownBlock = some x ∨ ∃ r ∈ Q, r.l.length ≠ 0 ∧ r.b = x) → w'.heap[x]? = w.heap[x]?) : OG w' B v Q := by
  refine ⟨⟨h.own.1, ?_⟩, fun r hr => vrd_keep (h.each r hr) ?_, h.far⟩
  · rcases h.own.2 with ⟨e1, e2⟩ | ⟨g, cap, cur, e1, hb, hg, rest⟩
    · exact .inl ⟨e1, e2⟩
    · exact .inr ⟨g, cap, cur, e1, hb, (hk g (blk_lt hg) (.inl (by rw [e1]; rfl))).trans hg, rest⟩
  · by_cases h0 : r.l.length = 0
    · exact .inl h0
    · exact .inr (hk _ (vrd_lt (h.each r hr) h0) (.inr ⟨r, hr, h0, rfl⟩))
theorem OG.below {w w' : World} {B : Nat} {v : Value} {Q : List Rm} (h : OG w B v Q) (hb : Below w.heap.size w w') : OG w' B v Q := h.keep fun x hx _ => hb.block x hx
theorem OG.mono {w : World} {B B' : Nat} {v : Value} {Q : List Rm} (h : OG w B v Q) (hB : B' ≤ B) : OG w B' v Q := by
  refine ⟨⟨h.own.1, ?_⟩, h.each, h.far⟩
  rcases h.own.2 with ⟨e1, e2⟩ | ⟨g, cap, cur, e1, hb, rest⟩
  · exact .inl ⟨e1, e2⟩
  · exact .inr ⟨g, cap, cur, e1, Nat.le_trans hB hb, rest⟩
theorem OG.slice {w : World} {B : Nat} {v : Value} {Q : List Rm} (h : OG w B v Q) : ∃ a n c, v = .slice a n c := by
  rcases h.own.2 with ⟨e, e2⟩ | ⟨g, cap, cur, e, _⟩
  · exact ⟨_, _, _, e⟩
  · exact ⟨_, _, _, e⟩

/-- One more row, at the end. -/
theorem OG.app {w : World} {B T c : Nat} {v : Value} {Q : List Rm} {r : Rm} (ty : TypeId) (h : OG w B v Q) (hr : r.Ok w) (hf : r.l.length ≠ 0 → some r.b ≠ v.ownBlock) (hB : B ≤ w.heap.size)
    (hT : w.heap[T]? = some (.cells #[r.val] 149 (0, 0))) (hlen : Q.length ≤ 100000) :
    ∃ v' w', (Builtin.append_ #[67, 67] ty #[v, .slice (some ⟨T, 0, none⟩) 1 c]).run Tryz.prog w = .ok v' w' ∧ OG w' B v' (Q ++ [r]) ∧ w.grownBy w' v.ownBlock ∧ (v'.ownBlock = v.ownBlock ∨ v'.ownBlock = some w.heap.size) := by
  obtain ⟨i, hi, hzz⟩ := Option.map_eq_some_iff.1 info34
  simp only [Prod.mk.injEq] at hzz
  obtain ⟨hz, hs, hby⟩ := hzz
  obtain ⟨v', w', hrun, h1, h2, h3, h4⟩ := run_append_own_at (P := Tryz.prog) (w := w) B 67 ty 149 i (.agg #[.slice none 0 0]) 1 24 Tryz.underlying67 hi hz hs hby rfl (by decide) v Q.length (Q.map Rm.val) h.own ⟨T, 0, none⟩ 1 c [r.val] rfl
    (by
      intro j u hj
      have hj0 : j = 0 := by have := (List.getElem?_eq_some_iff.1 hj).1; simp at this; exact this
      subst hj0
      rw [add_eq]
      simp only [World.cell?, hT]
      simpa using hj)
    (by intro u hu; simp at hu; subst hu; rfl) (by unfold maxLen; omega) (by omega) hB
  refine ⟨v', w', hrun, ⟨by simpa using h1, fun x hx => ?_, fun x hx h0 => ?_⟩, h2, h4⟩
  · rcases List.mem_append.1 hx with hx | hx
    · refine vrd_keep (h.each x hx) ?_
      by_cases h0 : x.l.length = 0
      · exact .inl h0
      · exact .inr (h2.block _ (vrd_lt (h.each x hx) h0) (h.far x hx h0))
    · obtain rfl := List.mem_singleton.1 hx
      refine vrd_keep hr ?_
      by_cases h0 : x.l.length = 0
      · exact .inl h0
      · exact .inr (h2.block _ (vrd_lt hr h0) (hf h0))
  · have hx1 : some x.b ≠ v.ownBlock ∧ x.b < w.heap.size := by
      rcases List.mem_append.1 hx with hx | hx
      · exact ⟨h.far x hx h0, vrd_lt (h.each x hx) h0⟩
      · obtain rfl := List.mem_singleton.1 hx
        exact ⟨hf h0, vrd_lt hr h0⟩
    rcases h4 with h4 | h4
    · rw [h4]; exact hx1.1
    · rw [h4]; simp; omega
theorem OG.form {w : World} {B : Nat} {v : Value} {Q : List Rm} (h : OG w B v Q) (hs : Q.length ≤ 4194304) : ∃ a g cap, v = .slice a Q.length cap ∧ Rd w a g 0 Q ∧ (Q.length = 0 ∨ (B ≤ g ∧ v.ownBlock = some g ∧ ∃ cs, w.heap[g]? = some (.cells cs 149 (0, 0)))) := by
  rcases h.own.2 with ⟨rfl, e⟩ | ⟨g, cap, cur, rfl, hb, hh, hn, _, hz, ht⟩
  · have : Q = [] := List.eq_nil_of_length_eq_zero e
    subst this
    exact ⟨none, 0, 0, rfl, rd_nil _ _ _ _, .inl rfl⟩
  · refine ⟨some ⟨g, 0, none⟩, g, cap, rfl, ⟨fun _ => rfl, fun i hi => ?_, fun i hi => h.each _ (getD_mem hi), hs⟩, .inr ⟨hb, rfl, cur, hh⟩⟩
    have e : (cur.toList.take (Q.length * 1))[i]? = (Q.map Rm.val)[i]? := by rw [ht]
    rw [List.getElem?_take, if_pos (by omega)] at e
    have e2 : (Q.map Rm.val)[i]? = some (Q.getD i rm0).val := by simp [List.getD, hi]
    rw [e2] at e
    rw [Nat.zero_add]
    simp only [World.cell?, hh]
    rw [← Array.getElem?_toList]; exact e

/-- The same, and the rows are the call's own too. -/
structure OT (w : World) (B : Nat) (v : Value) (Q : List Rm) : Prop where
  og : OG w B v Q
  new : ∀ r ∈ Q, NewR B w r
  diff : Q.Pairwise fun x y => x.l.length ≠ 0 → y.l.length ≠ 0 → x.b ≠ y.b
theorem OT.nil (w : World) (B : Nat) : OT w B (.slice none 0 0) [] := ⟨OG.nil w B, fun _ h => by simp at h, List.Pairwise.nil⟩
theorem OT.keep {w w' : World} {B : Nat} {v : Value} {Q : List Rm} (h : OT w B v Q) (hk : ∀ x, x < w.heap.size → B ≤ x → w'.heap[x]? = w.heap[x]?) : OT w' B v Q := by
  refine ⟨h.og.keep fun x hx hu => hk x hx ?_, fun r hr => (h.new r hr).keep fun h0 => hk _ ((h.new r hr).own h0).2.2.lt ((h.new r hr).own h0).2.1, h.diff⟩
  rcases hu with hu | ⟨r, hr, h0, rfl⟩
  · exact (h.og.lt hu).1
  · exact ((h.new r hr).own h0).2.1
theorem OT.below {w w' : World} {B : Nat} {v : Value} {Q : List Rm} (h : OT w B v Q) (hb : Below w.heap.size w w') : OT w' B v Q := h.keep fun x hx _ => hb.block x hx
theorem OT.mono {w : World} {B B' : Nat} {v : Value} {Q : List Rm} (h : OT w B v Q) (hB : B' ≤ B) : OT w B' v Q := ⟨h.og.mono hB, fun r hr => (h.new r hr).mono hB, h.diff⟩
theorem OT.app {w0 w : World} {B T c : Nat} {v : Value} {Q : List Rm} {r : Rm} (ty : TypeId) (h0 : OT w0 B v Q) (hb : Below w0.heap.size w0 w) (hr : NewR w0.heap.size w r) (hB : B ≤ w0.heap.size)
    (hT : w.heap[T]? = some (.cells #[r.val] 149 (0, 0))) (hlen : Q.length ≤ 100000) :
    ∃ v' w', (Builtin.append_ #[67, 67] ty #[v, .slice (some ⟨T, 0, none⟩) 1 c]).run Tryz.prog w = .ok v' w' ∧ OT w' B v' (Q ++ [r]) ∧ w.grownBy w' v.ownBlock := by
  have h := h0.below hb
  have nf : r.l.length ≠ 0 → some r.b ≠ v.ownBlock := fun hl e => by
    have := (h0.og.lt e.symm).2
    have := (hr.own hl).2.1
    omega
  obtain ⟨v', w', hrun, h1, h2, h4⟩ := h.og.app (c := c) ty hr.ok nf (Nat.le_trans hB hb.size) hT hlen
  refine ⟨v', w', hrun, ⟨h1, fun x hx => ?_, ?_⟩, h2⟩
  · rcases List.mem_append.1 hx with hx | hx
    · exact (h.new x hx).keep fun hl => h2.block _ ((h.new x hx).own hl).2.2.lt (h.og.far x hx hl)
    · obtain rfl := List.mem_singleton.1 hx
      exact (hr.mono hB).keep fun hl => h2.block _ (hr.own hl).2.2.lt (nf hl)
  · rw [List.pairwise_append]
    refine ⟨h.diff, List.pairwise_singleton _ _, fun x hx y hy hx0 hy0 e => ?_⟩
    obtain rfl := List.mem_singleton.1 hy
    have := ((h0.new x hx).own hx0).2.2.lt
    have := (hr.own hy0).2.1
    omega
theorem OT.form {w : World} {B : Nat} {v : Value} {Q : List Rm} (h : OT w B v Q) (hs : Q.length ≤ 4194304) : ∃ a g cap, v = .slice a Q.length cap ∧ Own w B w.heap.size a g Q := by
  obtain ⟨a, g, cap, e, hr, hbk⟩ := h.og.form hs
  refine ⟨a, g, cap, e, ⟨hr, hbk.imp id fun ⟨h1, _, h2⟩ => ⟨h1, h2⟩, fun r hr h0 => ?_, h.diff⟩⟩
  obtain ⟨h1, h2, h3⟩ := (h.new r hr).own h0
  exact ⟨h1, h2, h3.lt, h3⟩

/-- All of wr is kept but block ob and the row of v. -/
structure Stab (wr : World) (ob : Nat) (v : Value) (w' : World) : Prop where
  size : wr.heap.size ≤ w'.heap.size
  block : ∀ k, k < wr.heap.size → k ≠ ob → some k ≠ v.ownBlock → w'.heap[k]? = wr.heap[k]?
theorem Stab.refl (wr : World) (ob : Nat) (v : Value) : Stab wr ob v wr.drew := ⟨Nat.le_refl _, fun _ _ _ _ => rfl⟩
theorem Stab.below {wr w1 w2 : World} {ob : Nat} {v : Value} (h : Stab wr ob v w1) (hb : Below w1.heap.size w1 w2) : Stab wr ob v w2 :=
  ⟨Nat.le_trans h.size hb.size, fun k hk h1 h2 => (hb.block k (Nat.lt_of_lt_of_le hk h.size)).trans (h.block k hk h1 h2)⟩
theorem Stab.grown {wr w1 w2 : World} {ob : Nat} {v : Value} (h : Stab wr ob v w1) (hg : w1.grownBy w2 v.ownBlock) : Stab wr ob v w2 :=
  ⟨Nat.le_trans h.size hg.size, fun k hk h1 h2 => (hg.block k (Nat.lt_of_lt_of_le hk h.size) h2).trans (h.block k hk h1 h2)⟩
theorem Stab.set {wr w1 : World} {ob i : Nat} {v u : Value} (h : Stab wr ob v w1) : Stab wr ob v (w1.setCell ⟨ob, i, none⟩ u) :=
  ⟨by simpa using h.size, fun k hk h1 h2 => (Below.heap_setCell _ _ _ _ (by exact h1)).trans (h.block k hk h1 h2)⟩
theorem exec_one {o : Oper} {a : Act} {w : World} {x : Operand} {v : Value} (ho : o.op = .buildSlice 67 1 #[(0, x)]) (hx : a.eval x = .agg #[v]) : (execOp a.eval o).run Tryz.prog w = .ok (.value (.slice (some ⟨w.heap.size, 0, none⟩) 1 1)) (w.alloc (.cells #[v] 149)) := by
  unfold execOp
  simp only [ho, List.map_toArray, List.map_cons, List.map_nil, hx]
  kernel_rfl
theorem two_set1 {w : World} {g : Nat} {u v x : Value} {t : TypeId} (h : w.heap[g]? = some (.cells #[u, v] t (0, 0))) : (w.setCell ⟨g, 1, none⟩ x).heap[g]? = some (.cells #[u, x] t (0, 0)) := by
  simp [World.setCell, Array.getElem?_modify, h]
theorem two_set0 {w : World} {g : Nat} {u v x : Value} {t : TypeId} (h : w.heap[g]? = some (.cells #[u, v] t (0, 0))) : (w.setCell ⟨g, 0, none⟩ x).heap[g]? = some (.cells #[x, v] t (0, 0)) := by
  simp [World.setCell, Array.getElem?_modify, h]

end Go.Proofs.YtljlgjgfmgilaaaGreat.Rl
