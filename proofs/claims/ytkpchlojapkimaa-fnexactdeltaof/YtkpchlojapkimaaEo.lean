/-
  Deltas of the call's own that grow.
-/
import Derived.Test.YtkpchlojapkimaaEm
import Derived.Test.YtkpchlojapkimaaRo
import Derived.Maps.AppendAt
namespace Go.Proofs.Ytkpchlojapkimaa.Ch
set_option maxRecDepth 8000
set_option linter.unusedSimpArgs false
set_option linter.unusedVariables false
open Go Go.ChangeShapes Go.WideShapes Go.RowKit
open Num Word Pl Rp
open Rl (Rm rm0 said UseQ)
open St (own_keepU)

def cells5 (T : List Cm) : List Value := (List.range (T.length * 5)).map (flat5 T)
theorem cells5_len (T : List Cm) : (cells5 T).length = T.length * 5 := by simp [cells5]
theorem cells5_at (T : List Cm) {j : Nat} (h : j < T.length * 5) : (cells5 T)[j]? = some (flat5 T j) := by simp [cells5, h]
theorem flat5_app {T : List Cm} {x : Cm} {j : Nat} (h : j < T.length * 5) : flat5 (T ++ [x]) j = flat5 T j := by
  unfold flat5
  rw [getD_app, if_neg (by omega)]
theorem cells5_app (T : List Cm) (x : Cm) : cells5 (T ++ [x]) = cells5 T ++ [.string x.s, .int .i64 x.p.ar, .slice x.p.a x.p.Q.length x.p.c, .int .i64 x.m.ar, .slice x.m.a x.m.Q.length x.m.c] := by
  have hx : (T ++ [x]).getD T.length cm0 = x := by rw [getD_app, if_pos rfl]
  have e0 := flat50 (T ++ [x]) T.length
  have e1 := flat51 (T ++ [x]) T.length
  have e2 := flat52 (T ++ [x]) T.length
  have e3 := flat53 (T ++ [x]) T.length
  have e4 := flat54 (T ++ [x]) T.length
  rw [hx] at e0 e1 e2 e3 e4
  have el : (T ++ [x]).length * 5 = T.length * 5 + 1 + 1 + 1 + 1 + 1 := by simp; omega
  unfold cells5
  rw [el, List.range_succ, List.range_succ, List.range_succ, List.range_succ, List.range_succ]
  simp only [List.map_append, List.map_cons, List.map_nil, List.append_assoc, List.cons_append, List.nil_append]
  rw [e0, e1, e2, e3, e4]
  congr 1
  refine List.map_congr_left fun j hj => flat5_app ?_
  simpa using hj

/-- Changes of the call's own, in a list that may grow. -/
structure OD (w : World) (B : Nat) (v : Value) (T : List Cm) : Prop where
  own : w.ownsRow B 53 5 v T.length (cells5 T)
  each : ∀ x ∈ rels T, x.o = 0 ∧ (∃ hi, hi ≤ w.heap.size ∧ Rl.Own w B hi x.a x.b x.Q) ∧ x.Q.length ≤ x.c
  str : ∀ x ∈ T, x.s.size ≤ maxLen
  diff : (rels T).Pairwise Far
theorem OD.nil (w : World) (B : Nat) : OD w B (.slice none 0 0) [] := ⟨by simpa [cells5] using World.ownsRow_nil w B 53 5, fun _ h => by simp [rels] at h, fun _ h => by simp at h, List.Pairwise.nil⟩
theorem OD.lt {w : World} {B : Nat} {v : Value} {T : List Cm} (h : OD w B v T) {k : Nat} (hk : v.ownBlock = some k) : B ≤ k ∧ k < w.heap.size := h.own.lt k hk
theorem OD.slice {w : World} {B : Nat} {v : Value} {T : List Cm} (h : OD w B v T) : ∃ a n c, v = .slice a n c := by
  rcases h.own.2 with ⟨e, e2⟩ | ⟨g, cap, cur, e, _⟩
  · exact ⟨_, _, _, e⟩
  · exact ⟨_, _, _, e⟩
theorem OD.keep {w w' : World} {B : Nat} {v : Value} {T : List Cm} (h : OD w B v T) (hk : ∀ x, x < w.heap.size → B ≤ x → w'.heap[x]? = w.heap[x]?) (hs : w.heap.size ≤ w'.heap.size) : OD w' B v T := by
  refine ⟨⟨h.own.1, ?_⟩, fun x hx => ?_, h.str, h.diff⟩
  · rcases h.own.2 with h0 | ⟨g, cap, cur, rfl, hb, hg, rest⟩
    · exact .inl h0
    · exact .inr ⟨g, cap, cur, rfl, hb, (hk g (blk_lt hg) hb).trans hg, rest⟩
  · obtain ⟨e, ⟨hi, h1, h2⟩, h3⟩ := h.each x hx
    exact ⟨e, ⟨hi, by omega, h2.keep fun y hy hy' => hk y hy' hy⟩, h3⟩
theorem OD.below {w w' : World} {B : Nat} {v : Value} {T : List Cm} (h : OD w B v T) (hb : Below w.heap.size w w') : OD w' B v T := h.keep (fun x hx _ => hb.block x hx) hb.size
theorem OD.mono {w : World} {B B' : Nat} {v : Value} {T : List Cm} (h : OD w B v T) (hB : B' ≤ B) : OD w B' v T := by
  refine ⟨⟨h.own.1, ?_⟩, fun x hx => ?_, h.str, h.diff⟩
  · rcases h.own.2 with h0 | ⟨g, cap, cur, rfl, hb, rest⟩
    · exact .inl h0
    · exact .inr ⟨g, cap, cur, rfl, by omega, rest⟩
  · obtain ⟨e, ⟨hi, h1, h2⟩, h3⟩ := h.each x hx
    exact ⟨e, ⟨hi, h1, h2.mono hB (Nat.le_refl _)⟩, h3⟩
theorem own5_ne {w : World} {B n x : Nat} {v : Value} {xs : List Value} (h : w.ownsRow B 53 5 v n xs) {cs : Array Value} {t : TypeId} {fr : Nat × Nat} (k : w.heap[x]? = some (.cells cs t fr)) (ht : t ≠ 53 := by decide) : some x ≠ v.ownBlock := by
  intro e
  rcases h.2 with ⟨rfl, _⟩ | ⟨g1, cap, cur, rfl, _, h1, _⟩
  · cases e
  · simp only [Value.ownBlock, Option.some.injEq] at e
    subst e
    rw [k] at h1
    simp only [Option.some.injEq, Obj.cells.injEq] at h1
    exact ht h1.2.1
theorem rel_kept {w w' : World} {B n lo hi b : Nat} {v : Value} {xs : List Value} {a : Option Addr} {Q : List Rm} (h : Rl.Own w lo hi a b Q) (ho : w.ownsRow B 53 5 v n xs) (hg : w.grownBy w' v.ownBlock) : Rl.Own w' lo hi a b Q := by
  refine own_keepU h (fun h0 => ?_) (fun x ⟨r, hr, h0, e⟩ => ?_)
  · obtain ⟨_, cs, h2⟩ := h.blk.resolve_left h0
    exact hg.block _ (blk_lt h2) (own5_ne ho h2)
  · obtain ⟨_, _, _, cs, h2, _⟩ := h.each r hr h0
    rw [e]
    exact hg.block _ (blk_lt h2) (own5_ne ho h2)
/-- A change of the call's own from lo on. -/
structure New (w : World) (lo : Nat) (x : Cm) : Prop where
  p : x.p.o = 0 ∧ (∃ hi, hi ≤ w.heap.size ∧ Rl.Own w lo hi x.p.a x.p.b x.p.Q) ∧ x.p.Q.length ≤ x.p.c
  m : x.m.o = 0 ∧ (∃ hi, hi ≤ w.heap.size ∧ Rl.Own w lo hi x.m.a x.m.b x.m.Q) ∧ x.m.Q.length ≤ x.m.c
  far : Far x.p x.m
  str : x.s.size ≤ maxLen
theorem New.below {w w' : World} {lo : Nat} {x : Cm} (h : New w lo x) (hb : Below w.heap.size w w') : New w' lo x := by
  obtain ⟨⟨p1, ⟨ph, p2, p3⟩, p4⟩, ⟨m1, ⟨mh, m2, m3⟩, m4⟩, f, s⟩ := h
  exact ⟨⟨p1, ⟨ph, Nat.le_trans p2 hb.size, p3.below hb⟩, p4⟩, ⟨m1, ⟨mh, Nat.le_trans m2 hb.size, m3.below hb⟩, m4⟩, f, s⟩
theorem New.mono {w : World} {lo lo' : Nat} {x : Cm} (h : New w lo x) (hl : lo' ≤ lo) : New w lo' x := by
  obtain ⟨⟨p1, ⟨ph, p2, p3⟩, p4⟩, ⟨m1, ⟨mh, m2, m3⟩, m4⟩, f, s⟩ := h
  exact ⟨⟨p1, ⟨ph, p2, p3.mono hl (Nat.le_refl _)⟩, p4⟩, ⟨m1, ⟨mh, m2, m3.mono hl (Nat.le_refl _)⟩, m4⟩, f, s⟩
/-- One more change, at the end. -/
theorem OD.app {w0 w : World} {B G c : Nat} {v : Value} {T : List Cm} {x : Cm} (ty : TypeId) (h0 : OD w0 B v T) (hb : Below w0.heap.size w0 w) (hx : New w w0.heap.size x) (hB : B ≤ w0.heap.size)
    (hT : w.heap[G]? = some (.cells #[.string x.s, .int .i64 x.p.ar, .slice x.p.a x.p.Q.length x.p.c, .int .i64 x.m.ar, .slice x.m.a x.m.Q.length x.m.c] 53 (0, 0))) (hlen : T.length ≤ 100000) :
    ∃ v' w', (Builtin.append_ #[27, 27] ty #[v, .slice (some ⟨G, 0, none⟩) 1 c]).run Try.prog w = .ok v' w' ∧ OD w' B v' (T ++ [x]) ∧ w.grownBy w' v.ownBlock := by
  have h := h0.below hb
  obtain ⟨i, hi', hzz⟩ := Option.map_eq_some_iff.1 infoC
  simp only [Prod.mk.injEq] at hzz
  obtain ⟨hz, hs, hby⟩ := hzz
  obtain ⟨v', w', hrun, h1, h2, h3, h4⟩ := run_append_own_at (P := Try.prog) (w := w) B 27 ty 53 i (.agg #[.string ⟨#[]⟩, .int .i64 0, .slice none 0 0, .int .i64 0, .slice none 0 0]) 5 80 Try.underlying27 hi' hz hs hby rfl (by decide) v T.length (cells5 T) h.own ⟨G, 0, none⟩ 1 c [.string x.s, .int .i64 x.p.ar, .slice x.p.a x.p.Q.length x.p.c, .int .i64 x.m.ar, .slice x.m.a x.m.Q.length x.m.c] rfl
    (by
      intro j u hj
      have hj3 : j < 5 := by have := (List.getElem?_eq_some_iff.1 hj).1; simpa using this
      rw [add_eq]
      simp only [World.cell?, hT, Nat.zero_add]
      rcases (by omega : j = 0 ∨ j = 1 ∨ j = 2 ∨ j = 3 ∨ j = 4) with rfl | rfl | rfl | rfl | rfl <;> simpa using hj)
    (by intro u hu; simp at hu; rcases hu with rfl | rfl | rfl | rfl | rfl <;> rfl) (by unfold maxLen; omega) (by omega) (Nat.le_trans hB hb.size)
  have new : ∀ y, (y = x.p ∨ y = x.m) → y.o = 0 ∧ (∃ hi, hi ≤ w.heap.size ∧ Rl.Own w w0.heap.size hi y.a y.b y.Q) ∧ y.Q.length ≤ y.c := fun y hy => by
    rcases hy with rfl | rfl
    · exact hx.p
    · exact hx.m
  refine ⟨v', w', hrun, ⟨by rw [cells5_app]; simpa using h1, fun y hy => ?_, fun y hy => ?_, ?_⟩, h2⟩
  · rw [rels_app] at hy
    rcases List.mem_append.1 hy with hy | hy
    · obtain ⟨e, ⟨hi2, q1, q2⟩, q3⟩ := h.each y hy
      exact ⟨e, ⟨hi2, Nat.le_trans q1 h2.size, rel_kept q2 h.own h2⟩, q3⟩
    · simp only [List.mem_cons, List.not_mem_nil, or_false] at hy
      obtain ⟨e, ⟨hi2, q1, q2⟩, q3⟩ := new y hy
      exact ⟨e, ⟨hi2, Nat.le_trans q1 h2.size, rel_kept (q2.mono hB (Nat.le_refl _)) h.own h2⟩, q3⟩
  · rcases List.mem_append.1 hy with hy | hy
    · exact h.str y hy
    · obtain rfl := List.mem_singleton.1 hy
      exact hx.str
  · rw [rels_app, List.pairwise_append]
    refine ⟨h.diff, by simp only [List.pairwise_cons, List.mem_singleton, forall_eq, List.not_mem_nil, false_implies, implies_true, List.Pairwise.nil, and_true]; exact hx.far, fun y hy z hz r hr q hq hr0 hq0 e => ?_⟩
    simp only [List.mem_cons, List.not_mem_nil, or_false] at hz
    obtain ⟨_, ⟨hi2, q1, q2⟩, _⟩ := h0.each y hy
    obtain ⟨_, ⟨hi3, q3, q4⟩, _⟩ := new z hz
    have := (q2.each r hr hr0).2.2.1
    have := (q4.each q hq hq0).2.1
    omega
theorem OD.form {w : World} {B : Nat} {v : Value} {T : List Cm} (h : OD w B v T) (hs : T.length ≤ 4194304) : ∃ a g cap, v = .slice a T.length cap ∧ Own w B w.heap.size a g T ∧ Rooms T := by
  have hR : Rooms T := fun i hi => ⟨(h.each _ (mem_rels (mem_at hi)).1).2.2, (h.each _ (mem_rels (mem_at hi)).2).2.2⟩
  rcases h.own.2 with ⟨rfl, e⟩ | ⟨g, cap, cur, rfl, hb, hh, hn, _, hz, ht⟩
  · have : T = [] := List.eq_nil_of_length_eq_zero e
    subst this
    exact ⟨none, 0, 0, rfl, ⟨rd_nil _ _ _ _, .inl rfl, fun x hx => by simp [rels] at hx, List.Pairwise.nil⟩, hR⟩
  · have cell : ∀ j, j < T.length * 5 → w.cell? ⟨g, j, none⟩ = some (flat5 T j) := fun j hj => by
      have e : (cur.toList.take (T.length * 5))[j]? = (cells5 T)[j]? := by rw [ht]
      rw [List.getElem?_take, if_pos hj, cells5_at T hj] at e
      simp only [World.cell?, hh]
      rw [← Array.getElem?_toList]; exact e
    refine ⟨some ⟨g, 0, none⟩, g, cap, rfl, ⟨⟨fun _ => rfl, fun i hi => ⟨?_, ?_, ?_, ?_, ?_⟩, fun i hi => ⟨?_, ?_⟩, hs, fun i hi => h.str _ (mem_at hi)⟩, .inr ⟨hb, cur, hh⟩, fun x hx => ?_, h.diff⟩, hR⟩
    · rw [← flat50, Nat.zero_add]; exact cell _ (by omega)
    · rw [← flat51, Nat.zero_add]; exact cell _ (by omega)
    · rw [← flat52, Nat.zero_add]; exact cell _ (by omega)
    · rw [← flat53, Nat.zero_add]; exact cell _ (by omega)
    · rw [← flat54, Nat.zero_add]; exact cell _ (by omega)
    · obtain ⟨e, ⟨hi', q1, q2⟩, _⟩ := h.each _ (mem_rels (mem_at hi)).1
      rw [e]; exact q2.rd
    · obtain ⟨e, ⟨hi', q1, q2⟩, _⟩ := h.each _ (mem_rels (mem_at hi)).2
      rw [e]; exact q2.rd
    · obtain ⟨e, ⟨hi', q1, q2⟩, _⟩ := h.each x hx
      exact ⟨e, q2.mono (Nat.le_refl _) q1⟩
theorem exec_oneC {o : Oper} {a : Act} {w : World} {x : Operand} {u0 u1 u2 u3 u4 : Value} (ho : o.op = .buildSlice 27 1 #[(0, x)]) (hx : a.eval x = .agg #[u0, u1, u2, u3, u4]) : (execOp a.eval o).run Try.prog w = .ok (.value (.slice (some ⟨w.heap.size, 0, none⟩) 1 1)) (w.alloc (.cells #[u0, u1, u2, u3, u4] 53)) := by
  unfold execOp
  simp only [ho, List.map_toArray, List.map_cons, List.map_nil, hx]
  kernel_rfl
theorem OG.room {w : World} {B n cap : Nat} {a : Option Addr} {Q : List Rm} (h : Rl.OG w B (.slice a n cap) Q) : n ≤ cap := by
  rcases h.own.2 with ⟨e, h0⟩ | ⟨g, c, cur, e, _, _, hn, _⟩
  · simp only [Value.slice.injEq] at e; omega
  · simp only [Value.slice.injEq] at e; omega
theorem one_set {w : World} {g : Nat} {u v : Value} {t : TypeId} (h : w.heap[g]? = some (.cells #[u] t (0, 0))) : (w.setCell ⟨g, 0, none⟩ v).heap[g]? = some (.cells #[v] t (0, 0)) := by
  simp [World.setCell, Array.getElem?_modify, h]

end Go.Proofs.Ytkpchlojapkimaa.Ch
