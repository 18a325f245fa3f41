/-
  Stores of the call's own that grow.
-/
import Derived.Test.YtecnbenlmbppbaaGreatMs
import Derived.Test.YtecnbenlmbppbaaGreatRo
import Derived.Maps.AppendAt
namespace Go.Proofs.YtecnbenlmbppbaaGreat.St
set_option maxRecDepth 8000
set_option linter.unusedSimpArgs false
set_option linter.unusedVariables false
open Go Go.ChangeShapes Go.WideShapes Go.RowKit
open Num Word Pl Rp
open Rl (Rm rm0 said UseQ)

def cells3 (T : List Nm) : List Value := (List.range (T.length * 3)).map (flat3 T)
theorem cells3_len (T : List Nm) : (cells3 T).length = T.length * 3 := by simp [cells3]
theorem cells3_at (T : List Nm) {j : Nat} (h : j < T.length * 3) : (cells3 T)[j]? = some (flat3 T j) := by simp [cells3, h]
theorem flat3_app {T : List Nm} {x : Nm} {j : Nat} (h : j < T.length * 3) : flat3 (T ++ [x]) j = flat3 T j := by
  unfold flat3
  rw [getD_app, if_neg (by omega)]
theorem cells3_app (T : List Nm) (x : Nm) : cells3 (T ++ [x]) = cells3 T ++ [.string x.s, .int .i64 x.ar, .slice x.a x.Q.length x.c] := by
  have hx : (T ++ [x]).getD T.length nm0 = x := by rw [getD_app, if_pos rfl]
  have e0 := flat30 (T ++ [x]) T.length
  have e1 := flat31 (T ++ [x]) T.length
  have e2 := flat32 (T ++ [x]) T.length
  rw [hx] at e0 e1 e2
  have el : (T ++ [x]).length * 3 = T.length * 3 + 1 + 1 + 1 := by simp; omega
  unfold cells3
  rw [el, List.range_succ, List.range_succ, List.range_succ]
  simp only [List.map_append, List.map_cons, List.map_nil, List.append_assoc, List.cons_append, List.nil_append]
  rw [e0, e1, e2]
  congr 1
  refine List.map_congr_left fun j hj => flat3_app ?_
  simpa using hj

/-- Named relations of the call's own, in a list that may grow. -/
structure OS (w : World) (B : Nat) (v : Value) (T : List Nm) : Prop where
  own : w.ownsRow B 79 3 v T.length (cells3 T)
  each : ∀ x ∈ T, x.o = 0 ∧ (∃ hi, hi ≤ w.heap.size ∧ Rl.Own w B hi x.a x.b x.Q) ∧ x.s.size ≤ maxLen
  diff : T.Pairwise fun x y => ∀ r ∈ x.Q, ∀ q ∈ y.Q, r.l.length ≠ 0 → q.l.length ≠ 0 → r.b ≠ q.b
theorem OS.nil (w : World) (B : Nat) : OS w B (.slice none 0 0) [] := ⟨by simpa [cells3] using World.ownsRow_nil w B 79 3, fun _ h => by simp at h, List.Pairwise.nil⟩
theorem OS.lt {w : World} {B : Nat} {v : Value} {T : List Nm} (h : OS w B v T) {k : Nat} (hk : v.ownBlock = some k) : B ≤ k ∧ k < w.heap.size := h.own.lt k hk
theorem OS.slice {w : World} {B : Nat} {v : Value} {T : List Nm} (h : OS w B v T) : ∃ a n c, v = .slice a n c := by
  rcases h.own.2 with ⟨e, e2⟩ | ⟨g, cap, cur, e, _⟩
  · exact ⟨_, _, _, e⟩
  · exact ⟨_, _, _, e⟩
theorem OS.keep {w w' : World} {B : Nat} {v : Value} {T : List Nm} (h : OS w B v T) (hk : ∀ x, x < w.heap.size → B ≤ x → w'.heap[x]? = w.heap[x]?) (hs : w.heap.size ≤ w'.heap.size) : OS w' B v T := by
  refine ⟨⟨h.own.1, ?_⟩, fun x hx => ?_, h.diff⟩
  · rcases h.own.2 with h0 | ⟨g, cap, cur, rfl, hb, hg, rest⟩
    · exact .inl h0
    · exact .inr ⟨g, cap, cur, rfl, hb, (hk g (blk_lt hg) hb).trans hg, rest⟩
  · obtain ⟨e, ⟨hi, h1, h2⟩, h3⟩ := h.each x hx
    exact ⟨e, ⟨hi, by omega, h2.keep fun y hy hy' => hk y hy' hy⟩, h3⟩
theorem OS.below {w w' : World} {B : Nat} {v : Value} {T : List Nm} (h : OS w B v T) (hb : Below w.heap.size w w') : OS w' B v T := h.keep (fun x hx _ => hb.block x hx) hb.size
theorem OS.mono {w : World} {B B' : Nat} {v : Value} {T : List Nm} (h : OS w B v T) (hB : B' ≤ B) : OS w B' v T := by
  refine ⟨⟨h.own.1, ?_⟩, fun x hx => ?_, h.diff⟩
  · rcases h.own.2 with h0 | ⟨g, cap, cur, rfl, hb, rest⟩
    · exact .inl h0
    · exact .inr ⟨g, cap, cur, rfl, by omega, rest⟩
  · obtain ⟨e, ⟨hi, h1, h2⟩, h3⟩ := h.each x hx
    exact ⟨e, ⟨hi, h1, h2.mono hB (Nat.le_refl _)⟩, h3⟩
theorem own3_ne {w : World} {B n x : Nat} {v : Value} {xs : List Value} (h : w.ownsRow B 79 3 v n xs) {cs : Array Value} {t : TypeId} {fr : Nat × Nat} (k : w.heap[x]? = some (.cells cs t fr)) (ht : t ≠ 79 := by decide) : some x ≠ v.ownBlock := by
  intro e
  rcases h.2 with ⟨rfl, _⟩ | ⟨g1, cap, cur, rfl, _, h1, _⟩
  · cases e
  · simp only [Value.ownBlock, Option.some.injEq] at e
    subst e
    rw [k] at h1
    simp only [Option.some.injEq, Obj.cells.injEq] at h1
    exact ht h1.2.1
theorem rel_kept {w w' : World} {B n lo hi b : Nat} {v : Value} {xs : List Value} {a : Option Addr} {Q : List Rm} (h : Rl.Own w lo hi a b Q) (ho : w.ownsRow B 79 3 v n xs) (hg : w.grownBy w' v.ownBlock) : Rl.Own w' lo hi a b Q := by
  refine own_keepU h (fun h0 => ?_) (fun x ⟨r, hr, h0, e⟩ => ?_)
  · obtain ⟨_, cs, h2⟩ := h.blk.resolve_left h0
    exact hg.block _ (blk_lt h2) (own3_ne ho h2)
  · obtain ⟨_, _, _, cs, h2, _⟩ := h.each r hr h0
    rw [e]
    exact hg.block _ (blk_lt h2) (own3_ne ho h2)
/-- One more named relation, at the end. -/
theorem OS.app {w0 w : World} {B G c hi : Nat} {v : Value} {T : List Nm} {x : Nm} (ty : TypeId) (h0 : OS w0 B v T) (hb : Below w0.heap.size w0 w) (hx : Rl.Own w w0.heap.size hi x.a x.b x.Q) (hhi : hi ≤ w.heap.size) (hx0 : x.o = 0) (hxs : x.s.size ≤ maxLen) (hB : B ≤ w0.heap.size)
    (hT : w.heap[G]? = some (.cells #[.string x.s, .int .i64 x.ar, .slice x.a x.Q.length x.c] 79 (0, 0))) (hlen : T.length ≤ 100000) :
    ∃ v' w', (Builtin.append_ #[23, 23] ty #[v, .slice (some ⟨G, 0, none⟩) 1 c]).run Tryz.prog w = .ok v' w' ∧ OS w' B v' (T ++ [x]) ∧ w.grownBy w' v.ownBlock := by
  have h := h0.below hb
  obtain ⟨i, hi', hzz⟩ := Option.map_eq_some_iff.1 infoN
  simp only [Prod.mk.injEq] at hzz
  obtain ⟨hz, hs, hby⟩ := hzz
  obtain ⟨v', w', hrun, h1, h2, h3, h4⟩ := run_append_own_at (P := Tryz.prog) (w := w) B 23 ty 79 i (.agg #[.string ⟨#[]⟩, .int .i64 0, .slice none 0 0]) 3 48 Tryz.underlying23 hi' hz hs hby rfl (by decide) v T.length (cells3 T) h.own ⟨G, 0, none⟩ 1 c [.string x.s, .int .i64 x.ar, .slice x.a x.Q.length x.c] rfl
    (by
      intro j u hj
      have hj3 : j < 3 := by have := (List.getElem?_eq_some_iff.1 hj).1; simpa using this
      rw [add_eq]
      simp only [World.cell?, hT, Nat.zero_add]
      rcases (by omega : j = 0 ∨ j = 1 ∨ j = 2) with rfl | rfl | rfl <;> simpa using hj)
    (by intro u hu; simp at hu; rcases hu with rfl | rfl | rfl <;> rfl) (by unfold maxLen; omega) (by omega) (Nat.le_trans hB hb.size)
  refine ⟨v', w', hrun, ⟨by rw [cells3_app]; simpa using h1, fun y hy => ?_, ?_⟩, h2⟩
  · rcases List.mem_append.1 hy with hy | hy
    · obtain ⟨e, ⟨hi2, q1, q2⟩, q3⟩ := h.each y hy
      exact ⟨e, ⟨hi2, Nat.le_trans q1 h2.size, rel_kept q2 h.own h2⟩, q3⟩
    · obtain rfl := List.mem_singleton.1 hy
      exact ⟨hx0, ⟨hi, Nat.le_trans hhi h2.size, rel_kept (hx.mono hB (Nat.le_refl _)) h.own h2⟩, hxs⟩
  · rw [List.pairwise_append]
    refine ⟨h.diff, List.pairwise_singleton _ _, fun y hy z hz r hr q hq hr0 hq0 e => ?_⟩
    obtain rfl := List.mem_singleton.1 hz
    obtain ⟨_, ⟨hi2, q1, q2⟩, _⟩ := h0.each y hy
    have := (q2.each r hr hr0).2.2.1
    have := (hx.each q hq hq0).2.1
    omega
theorem OS.form {w : World} {B : Nat} {v : Value} {T : List Nm} (h : OS w B v T) (hs : T.length ≤ 4194304) : ∃ a g cap, v = .slice a T.length cap ∧ Own w B w.heap.size a g T := by
  rcases h.own.2 with ⟨rfl, e⟩ | ⟨g, cap, cur, rfl, hb, hh, hn, _, hz, ht⟩
  · have : T = [] := List.eq_nil_of_length_eq_zero e
    subst this
    exact ⟨none, 0, 0, rfl, ⟨rd_nil _ _ _ _, .inl rfl, fun x hx => by simp at hx, List.Pairwise.nil⟩⟩
  · have cell : ∀ j, j < T.length * 3 → w.cell? ⟨g, j, none⟩ = some (flat3 T j) := fun j hj => by
      have e : (cur.toList.take (T.length * 3))[j]? = (cells3 T)[j]? := by rw [ht]
      rw [List.getElem?_take, if_pos hj, cells3_at T hj] at e
      simp only [World.cell?, hh]
      rw [← Array.getElem?_toList]; exact e
    refine ⟨some ⟨g, 0, none⟩, g, cap, rfl, ⟨⟨fun _ => rfl, fun i hi => ⟨?_, ?_, ?_⟩, fun i hi => ?_, hs, fun i hi => (h.each _ (mem_at hi)).2.2⟩, .inr ⟨hb, cur, hh⟩, fun x hx => ?_, h.diff⟩⟩
    · rw [← flat30, Nat.zero_add]; exact cell _ (by omega)
    · rw [← flat31, Nat.zero_add]; exact cell _ (by omega)
    · rw [← flat32, Nat.zero_add]; exact cell _ (by omega)
    · obtain ⟨e, ⟨hi', q1, q2⟩, _⟩ := h.each _ (mem_at hi)
      unfold Nm.Ok
      rw [e]; exact q2.rd
    · obtain ⟨e, ⟨hi', q1, q2⟩, _⟩ := h.each x hx
      exact ⟨e, q2.mono (Nat.le_refl _) q1⟩
theorem exec_oneN {o : Oper} {a : Act} {w : World} {x : Operand} {u v z : Value} (ho : o.op = .buildSlice 23 1 #[(0, x)]) (hx : a.eval x = .agg #[u, v, z]) : (execOp a.eval o).run Tryz.prog w = .ok (.value (.slice (some ⟨w.heap.size, 0, none⟩) 1 1)) (w.alloc (.cells #[u, v, z] 79)) := by
  unfold execOp
  simp only [ho, List.map_toArray, List.map_cons, List.map_nil, hx]
  kernel_rfl

end Go.Proofs.YtecnbenlmbppbaaGreat.St
