/-
  Rows of values of the call's own that grow.
-/
import Derived.Test.YtfiebakgphcnbaaRn
namespace Go.Proofs.Ytfiebakgphcnbaa.Rl
set_option maxRecDepth 8000
set_option linter.unusedSimpArgs false
set_option linter.unusedVariables false
open Go Go.RowKit
open Num Word Pl Rp
open Vl (V2 z2)

/-- A row of values of the call's own, that may grow. -/
structure OV (w : World) (B : Nat) (v : Value) (l : List V2) : Prop where
  own : w.ownsRow B 35 2 v l.length (flatV l)
  str : ∀ x ∈ l, x.2.size ≤ 100
theorem OV.nil (w : World) (B : Nat) : OV w B (.slice none 0 0) [] := ⟨by simpa [flatV] using World.ownsRow_nil w B 35 2, fun x h => by simp at h⟩
theorem OV.lt {w : World} {B : Nat} {v : Value} {l : List V2} (h : OV w B v l) {k : Nat} (hk : v.ownBlock = some k) : B ≤ k ∧ k < w.heap.size := h.own.lt k hk
theorem OV.keep {w w' : World} {B : Nat} {v : Value} {l : List V2} (h : OV w B v l) (hk : ∀ x, x < w.heap.size → v.ownBlock = some x → w'.heap[x]? = w.heap[x]?) : OV w' B v l := by
  refine ⟨⟨h.own.1, ?_⟩, h.str⟩
  rcases h.own.2 with ⟨e1, e2⟩ | ⟨g, cap, cur, e1, hb, hg, rest⟩
  · exact .inl ⟨e1, e2⟩
  · exact .inr ⟨g, cap, cur, e1, hb, (hk g (blk_lt hg) (by rw [e1]; rfl)).trans hg, rest⟩
theorem OV.below {w w' : World} {B : Nat} {v : Value} {l : List V2} (h : OV w B v l) (hb : Below w.heap.size w w') : OV w' B v l := h.keep fun x hx _ => hb.block x hx
theorem OV.mono {w : World} {B B' : Nat} {v : Value} {l : List V2} (h : OV w B v l) (hB : B' ≤ B) : OV w B' v l := by
  refine ⟨⟨h.own.1, ?_⟩, h.str⟩
  rcases h.own.2 with ⟨e1, e2⟩ | ⟨g, cap, cur, e1, hb, rest⟩
  · exact .inl ⟨e1, e2⟩
  · exact .inr ⟨g, cap, cur, e1, Nat.le_trans hB hb, rest⟩
theorem OV.slice {w : World} {B : Nat} {v : Value} {l : List V2} (h : OV w B v l) : ∃ a n c, v = .slice a n c := by
  rcases h.own.2 with ⟨e, _⟩ | ⟨g, cap, cur, e, _⟩
  · exact ⟨_, _, _, e⟩
  · exact ⟨_, _, _, e⟩
theorem OV.app {w : World} {B T c : Nat} {v : Value} {l : List V2} {n : Int} {s : ByteArray} (ty : TypeId) (h : OV w B v l) (hB : B ≤ w.heap.size) (hT : w.heap[T]? = some (.cells #[.int .i64 n, .string s] 35 (0, 0))) (hs : s.size ≤ 100) (hl : l.length ≤ 100000) :
    ∃ va vn vc w', (Builtin.append_ #[54, 54] ty #[v, .slice (some ⟨T, 0, none⟩) 1 c]).run Try.prog w = .ok (.slice va vn vc) w' ∧ OV w' B (.slice va vn vc) (l ++ [(n, s)]) ∧ w.grownBy w' v.ownBlock := by
  obtain ⟨i, hi, hzz⟩ := Option.map_eq_some_iff.1 info94
  simp only [Prod.mk.injEq] at hzz
  obtain ⟨hz, hsz, hby⟩ := hzz
  obtain ⟨v', w', hrun, h1, h2, h3, h4⟩ := run_append_own_at (P := Try.prog) (w := w) B 54 ty 35 i (.agg #[.int .i64 0, .string ⟨#[]⟩]) 2 24 Try.underlying54 hi hz hsz hby rfl (by decide) v l.length (flatV l) h.own ⟨T, 0, none⟩ 1 c [.int .i64 n, .string s] rfl
    (by
      intro j u hj
      rw [add_eq]
      simp only [World.cell?, hT]
      match j with
      | 0 => simpa using hj
      | 1 => simpa using hj
      | j + 2 => simp at hj)
    (by intro u hu; simp at hu; rcases hu with rfl | rfl <;> rfl) (by unfold maxLen; omega) (by omega) hB
  have ov : OV w' B v' (l ++ [(n, s)]) := ⟨by have e : flatV (l ++ [(n, s)]) = flatV l ++ [.int .i64 n, .string s] := (by simp [flatV]); rw [e]; simpa using h1, fun x hx => by
    rcases List.mem_append.1 hx with hx | hx
    · exact h.str x hx
    · obtain rfl := List.mem_singleton.1 hx; exact hs⟩
  obtain ⟨a, m, c', rfl⟩ := ov.slice
  exact ⟨a, m, c', w', hrun, ov, h2⟩
theorem OV.row {w : World} {B : Nat} {v : Value} {l : List V2} (h : OV w B v l) (hl : l.length ≤ 100000) : ∃ r : Rm, v = r.val ∧ NewR B w r ∧ r.l = l ∧ l.length ≤ r.c := by
  have hst : ∀ i, i < l.length → (l.getD i z2).2.size ≤ maxLen := fun i hi => by
    have e : l.getD i z2 = l[i] := by simp [List.getD, hi]
    have := h.str _ (List.getElem_mem hi)
    rw [e]; unfold maxLen; omega
  rcases h.own.2 with ⟨rfl, e⟩ | ⟨g, cap, cur, rfl, hb, hh, hn, _, hz, ht⟩
  · have : l = [] := List.eq_nil_of_length_eq_zero e
    subst this
    exact ⟨⟨none, 0, 0, 0, []⟩, rfl, ⟨⟨fun h => by simp at h, fun i h => by simp at h, by simp, fun i h => by simp at h⟩, fun h => absurd rfl h⟩, rfl, Nat.le_refl _⟩
  · have wt : WtV w g (l.length * 2) (Vl.flat l) := by
      refine ⟨cur, hh, fun j hj => ?_⟩
      have e : (cur.toList.take (l.length * 2))[j]? = (flatV l)[j]? := by rw [ht]
      rw [List.getElem?_take, if_pos (by omega), flatV_at l j hj] at e
      rw [← Array.getElem?_toList]; exact e
    exact ⟨⟨some ⟨g, 0, none⟩, g, 0, cap, l⟩, rfl, ⟨wt.rd (by omega) hst, fun _ => ⟨rfl, hb, wt⟩⟩, rfl, hn⟩
theorem exec_oneV {o : Oper} {a : Act} {w : World} {x : Operand} {n : Int} {s : ByteArray} (ho : o.op = .buildSlice 54 1 #[(0, x)]) (hx : a.eval x = .agg #[.int .i64 n, .string s]) : (execOp a.eval o).run Try.prog w = .ok (.value (.slice (some ⟨w.heap.size, 0, none⟩) 1 1)) (w.alloc (.cells #[.int .i64 n, .string s] 35)) := by
  unfold execOp
  simp only [ho, List.map_toArray, List.map_cons, List.map_nil, hx]
  kernel_rfl
theorem ov_ne {w : World} {B : Nat} {v : Value} {l : List V2} {T : Nat} {cs : Array Value} (h : OV w B v l) (k : w.heap[T]? = some (.cells cs 56 (0, 0))) : v.ownBlock ≠ some T := by
  intro e
  rcases h.own.2 with ⟨rfl, _⟩ | ⟨g, cap, cur, rfl, hb, hg, _⟩
  · simp [Value.ownBlock] at e
  · simp [Value.ownBlock] at e
    subst e
    rw [hg] at k
    simp at k
theorem one_set {w : World} {g : Nat} {u x : Value} {t : TypeId} (h : w.heap[g]? = some (.cells #[u] t (0, 0))) : (w.setCell ⟨g, 0, none⟩ x).heap[g]? = some (.cells #[x] t (0, 0)) := by
  simp [World.setCell, Array.getElem?_modify, h]
end Go.Proofs.Ytfiebakgphcnbaa.Rl
