/-
  Texts laid together: So, Ss, Sw, Cr, St1.
-/
import Derived.Test.YtljlgjgfmgilaaaGreatMs
import Derived.Test.YtljlgjgfmgilaaaGreatRo
import Derived.Maps.AppendAt
import Derived.Test.YtljlgjgfmgilaaaGreatMp
import Derived.Test.YtljlgjgfmgilaaaGreatShelfn
import Derived.Shelf.SlSortCmp.NoneTotal
import Derived.Test.YtljlgjgfmgilaaaGreatMq
namespace Go.Proofs.YtljlgjgfmgilaaaGreat.St
set_option maxRecDepth 8000
set_option linter.unusedSimpArgs false
set_option linter.unusedVariables false
open Go Go.ChangeShapes Go.WideShapes Go.RowKit
open Num Word Pl Rp
open Rl (Rm rm0 said UseQ)

def cells3 (T : List Nm) : List Value := (List.range (T.length * 3)).map (flat3 T)
theorem cells3_len (T : List Nm) : (cells3 T).length = T.length * 3 := by simp [cells3]
theorem cells3_at (T : List Nm) {j : Nat} (h : j < T.length * 3) : (cells3 T)[j]? = some (flat3 T j) := by simp [cells3, h]
theorem flat3_app {T : List Nm} {x : Nm} {j : Nat} (h : j < T.length * 3) : flat3 (T ++ [x]) j = flat3 T j := by
  unfold flat3
  rw [getD_app, if_neg (by omega)]
theorem cells3_app (T : List Nm) (x : Nm) : cells3 (T ++ [x]) = cells3 T ++ [.string x.s, .int .i64 x.ar, .slice x.a x.Q.length x.c] := by
  have hx : (T ++ [x]).getD T.length nm0 = x := by rw [getD_app, if_pos rfl]
  have e0 := flat30 (T ++ [x]) T.length
  have e1 := flat31 (T ++ [x]) T.length
  have e2 := flat32 (T ++ [x]) T.length
  rw [hx] at e0 e1 e2
  have el : (T ++ [x]).length * 3 = T.length * 3 + 1 + 1 + 1 := by simp; omega
  unfold cells3
  rw [el, List.range_succ, List.range_succ, List.range_succ]
  simp only [List.map_append, List.map_cons, List.map_nil, List.append_assoc, List.cons_append, List.nil_append]
  rw [e0, e1, e2]
  congr 1
  refine List.map_congr_left fun j hj => flat3_app ?_
  simpa using hj

/-- Named relations of the call's own, in a list that may grow. -/
structure OS (w : World) (B : Nat) (v : Value) (T : List Nm) : Prop where
  own : w.ownsRow B 113 3 v T.length (cells3 T)
  each : ∀ x ∈ T, x.o = 0 ∧ (∃ hi, hi ≤ w.heap.size ∧ Rl.Own w B hi x.a x.b x.Q) ∧ x.s.size ≤ maxLen
  diff : T.Pairwise fun x y => ∀ r ∈ x.Q, ∀ q ∈ y.Q, r.l.length ≠ 0 → q.l.length ≠ 0 → r.b ≠ q.b
theorem OS.nil (w : World) (B : Nat) : OS w B (.slice none 0 0) [] := ⟨by simpa [cells3] using World.ownsRow_nil w B 113 3, fun _ h => by simp at h, List.Pairwise.nil⟩
theorem OS.lt {w : World} {B : Nat} {v : Value} {T : List Nm} (h : OS w B v T) {k : Nat} (hk : v.ownBlock = some k) : B ≤ k ∧ k < w.heap.size := h.own.lt k hk
theorem OS.slice {w : World} {B : Nat} {v : Value} {T : List Nm} (h : OS w B v T) : ∃ a n c, v = .slice a n c := by
  rcases h.own.2 with ⟨e, e2⟩ | ⟨g, cap, cur, e, _⟩
  · exact ⟨_, _, _, e⟩
  · exact ⟨_, _, _, e⟩
theorem OS.keep {w w' : World} {B : Nat} {v : Value} {T : List Nm} (h : OS w B v T) (hk : ∀ x, x < w.heap.size → B ≤ x → w'.heap[x]? = w.heap[x]?) (hs : w.heap.size ≤ w'.heap.size) : OS w' B v T := by
  refine ⟨⟨h.own.1, ?_⟩, fun x hx => ?_, h.diff⟩
  · rcases h.own.2 with h0 | ⟨g, cap, cur, rfl, hb, hg, rest⟩
    · exact .inl h0
    · exact .inr ⟨g, cap, cur, rfl, hb, (hk g (blk_lt hg) hb).trans hg, rest⟩
  · obtain ⟨e, ⟨hi, h1, h2⟩, h3⟩ := h.each x hx
    exact ⟨e, ⟨hi, by omega, h2.keep fun y hy hy' => hk y hy' hy⟩, h3⟩
theorem OS.below {w w' : World} {B : Nat} {v : Value} {T : List Nm} (h : OS w B v T) (hb : Below w.heap.size w w') : OS w' B v T := h.keep (fun x hx _ => hb.block x hx) hb.size
theorem OS.mono {w : World} {B B' : Nat} {v : Value} {T : List Nm} (h : OS w B v T) (hB : B' ≤ B) : OS w B' v T := by
  refine ⟨⟨h.own.1, ?_⟩, fun x hx => ?_, h.diff⟩
  · rcases h.own.2 with h0 | ⟨g, cap, cur, rfl, hb, rest⟩
    · exact .inl h0
    · exact .inr ⟨g, cap, cur, rfl, by omega, rest⟩
  · obtain ⟨e, ⟨hi, h1, h2⟩, h3⟩ := h.each x hx
    exact ⟨e, ⟨hi, h1, h2.mono hB (Nat.le_refl _)⟩, h3⟩
theorem own3_ne {w : World} {B n x : Nat} {v : Value} {xs : List Value} (h : w.ownsRow B 113 3 v n xs) {cs : Array Value} {t : TypeId} {fr : Nat × Nat} (k : w.heap[x]? = some (.cells cs t fr)) (ht : t ≠ 113 := by decide) : some x ≠ v.ownBlock := by
  intro e
  rcases h.2 with ⟨rfl, _⟩ | ⟨g1, cap, cur, rfl, _, h1, _⟩
  · cases e
  · simp only [Value.ownBlock, Option.some.injEq] at e
    subst e
    rw [k] at h1
    simp only [Option.some.injEq, Obj.cells.injEq] at h1
    exact ht h1.2.1
theorem rel_kept {w w' : World} {B n lo hi b : Nat} {v : Value} {xs : List Value} {a : Option Addr} {Q : List Rm} (h : Rl.Own w lo hi a b Q) (ho : w.ownsRow B 113 3 v n xs) (hg : w.grownBy w' v.ownBlock) : Rl.Own w' lo hi a b Q := by
  refine own_keepU h (fun h0 => ?_) (fun x ⟨r, hr, h0, e⟩ => ?_)
  · obtain ⟨_, cs, h2⟩ := h.blk.resolve_left h0
    exact hg.block _ (blk_lt h2) (own3_ne ho h2)
  · obtain ⟨_, _, _, cs, h2, _⟩ := h.each r hr h0
    rw [e]
    exact hg.block _ (blk_lt h2) (own3_ne ho h2)
/-- One more named relation, at the end. -/
theorem OS.app {w0 w : World} {B G c hi : Nat} {v : Value} {T : List Nm} {x : Nm} (ty : TypeId) (h0 : OS w0 B v T) (hb : Below w0.heap.size w0 w) (hx : Rl.Own w w0.heap.size hi x.a x.b x.Q) (hhi : hi ≤ w.heap.size) (hx0 : x.o = 0) (hxs : x.s.size ≤ maxLen) (hB : B ≤ w0.heap.size)
    (hT : w.heap[G]? = some (.cells #[.string x.s, .int .i64 x.ar, .slice x.a x.Q.length x.c] 113 (0, 0))) (hlen : T.length ≤ 100000) :
    ∃ v' w', (Builtin.append_ #[36, 36] ty #[v, .slice (some ⟨G, 0, none⟩) 1 c]).run Tryz.prog w = .ok v' w' ∧ OS w' B v' (T ++ [x]) ∧ w.grownBy w' v.ownBlock := by
  have h := h0.below hb
  obtain ⟨i, hi', hzz⟩ := Option.map_eq_some_iff.1 infoN
  simp only [Prod.mk.injEq] at hzz
  obtain ⟨hz, hs, hby⟩ := hzz
  obtain ⟨v', w', hrun, h1, h2, h3, h4⟩ := run_append_own_at (P := Tryz.prog) (w := w) B 36 ty 113 i (.agg #[.string ⟨#[]⟩, .int .i64 0, .slice none 0 0]) 3 48 Tryz.underlying36 hi' hz hs hby rfl (by decide) v T.length (cells3 T) h.own ⟨G, 0, none⟩ 1 c [.string x.s, .int .i64 x.ar, .slice x.a x.Q.length x.c] rfl
    (by
      intro j u hj
      have hj3 : j < 3 := by have := (List.getElem?_eq_some_iff.1 hj).1; simpa using this
      rw [add_eq]
      simp only [World.cell?, hT, Nat.zero_add]
      rcases (by omega : j = 0 ∨ j = 1 ∨ j = 2) with rfl | rfl | rfl <;> simpa using hj)
    (by intro u hu; simp at hu; rcases hu with rfl | rfl | rfl <;> rfl) (by unfold maxLen; omega) (by omega) (Nat.le_trans hB hb.size)
  refine ⟨v', w', hrun, ⟨by rw [cells3_app]; simpa using h1, fun y hy => ?_, ?_⟩, h2⟩
  · rcases List.mem_append.1 hy with hy | hy
    · obtain ⟨e, ⟨hi2, q1, q2⟩, q3⟩ := h.each y hy
      exact ⟨e, ⟨hi2, Nat.le_trans q1 h2.size, rel_kept q2 h.own h2⟩, q3⟩
    · obtain rfl := List.mem_singleton.1 hy
      exact ⟨hx0, ⟨hi, Nat.le_trans hhi h2.size, rel_kept (hx.mono hB (Nat.le_refl _)) h.own h2⟩, hxs⟩
  · rw [List.pairwise_append]
    refine ⟨h.diff, List.pairwise_singleton _ _, fun y hy z hz r hr q hq hr0 hq0 e => ?_⟩
    obtain rfl := List.mem_singleton.1 hz
    obtain ⟨_, ⟨hi2, q1, q2⟩, _⟩ := h0.each y hy
    have := (q2.each r hr hr0).2.2.1
    have := (hx.each q hq hq0).2.1
    omega
theorem OS.form {w : World} {B : Nat} {v : Value} {T : List Nm} (h : OS w B v T) (hs : T.length ≤ 4194304) : ∃ a g cap, v = .slice a T.length cap ∧ Own w B w.heap.size a g T := by
  rcases h.own.2 with ⟨rfl, e⟩ | ⟨g, cap, cur, rfl, hb, hh, hn, _, hz, ht⟩
  · have : T = [] := List.eq_nil_of_length_eq_zero e
    subst this
    exact ⟨none, 0, 0, rfl, ⟨rd_nil _ _ _ _, .inl rfl, fun x hx => by simp at hx, List.Pairwise.nil⟩⟩
  · have cell : ∀ j, j < T.length * 3 → w.cell? ⟨g, j, none⟩ = some (flat3 T j) := fun j hj => by
      have e : (cur.toList.take (T.length * 3))[j]? = (cells3 T)[j]? := by rw [ht]
      rw [List.getElem?_take, if_pos hj, cells3_at T hj] at e
      simp only [World.cell?, hh]
      rw [← Array.getElem?_toList]; exact e
    refine ⟨some ⟨g, 0, none⟩, g, cap, rfl, ⟨⟨fun _ => rfl, fun i hi => ⟨?_, ?_, ?_⟩, fun i hi => ?_, hs, fun i hi => (h.each _ (mem_at hi)).2.2⟩, .inr ⟨hb, cur, hh⟩, fun x hx => ?_, h.diff⟩⟩
    · rw [← flat30, Nat.zero_add]; exact cell _ (by omega)
    · rw [← flat31, Nat.zero_add]; exact cell _ (by omega)
    · rw [← flat32, Nat.zero_add]; exact cell _ (by omega)
    · obtain ⟨e, ⟨hi', q1, q2⟩, _⟩ := h.each _ (mem_at hi)
      unfold Nm.Ok
      rw [e]; exact q2.rd
    · obtain ⟨e, ⟨hi', q1, q2⟩, _⟩ := h.each x hx
      exact ⟨e, q2.mono (Nat.le_refl _) q1⟩
theorem exec_oneN {o : Oper} {a : Act} {w : World} {x : Operand} {u v z : Value} (ho : o.op = .buildSlice 36 1 #[(0, x)]) (hx : a.eval x = .agg #[u, v, z]) : (execOp a.eval o).run Tryz.prog w = .ok (.value (.slice (some ⟨w.heap.size, 0, none⟩) 1 1)) (w.alloc (.cells #[u, v, z] 113)) := by
  unfold execOp
  simp only [ho, List.map_toArray, List.map_cons, List.map_nil, hx]
  kernel_rfl

end Go.Proofs.YtljlgjgfmgilaaaGreat.St

namespace Go.Proofs.YtljlgjgfmgilaaaGreat.St
set_option maxRecDepth 8000
set_option linter.unusedSimpArgs false
set_option linter.unusedVariables false
open Go Go.RowKit Go.Sort
open Num Word Pl Rp
open Rl (Rm rm0 said UseQ)
open Vl (cmpS strLt)
set_option linter.unusedSectionVars false
variable [Inhabited Nm]

theorem grow_of {W w' : World} (h : Below W.heap.size W w') (h4 : W.drawn ≤ w'.drawn) : ∃ q os, w' = grow (W.drewN q) os := by
  refine ⟨w'.drawn - W.drawn, w'.heap.extract W.heap.size w'.heap.size, ?_⟩
  have h1 := h.os
  have h2 := h.tape
  have h3 := h.output
  have h5 := h.size
  have h6 := h.block
  obtain ⟨hp, tp, dr, o, out⟩ := w'
  obtain ⟨hp0, tp0, dr0, o0, out0⟩ := W
  simp only at h1 h2 h3 h4 h5 h6
  subst h1 h2 h3
  simp only [grow, World.drewN, World.mk.injEq, true_and, and_true]
  refine ⟨?_, by omega⟩
  apply Array.ext_getElem?
  intro i
  rw [Array.getElem?_append]
  split
  · exact h6 i ‹_›
  · rename_i hi
    rw [Array.getElem?_extract]
    by_cases hq : i < hp.size
    · rw [if_pos (by omega)]; congr 1; omega
    · rw [if_neg (by omega), Array.getElem?_eq_none (by omega)]
section
variable {α : Type} [Inhabited α]
theorem sortK_other (enc : α → List Value) (k : Nat) (w : World) (g off m : Nat) (d : Array α) (os : Array Obj) (j : Nat) (hj : j ≠ g) (hl : j < w.heap.size) : (sortWorldK enc k w g off m d os).heap[j]? = w.heap[j]? := by
  unfold sortWorldK grow putRowK putRow mapBlock
  rw [Array.getElem?_append_left (by simpa using hl), Array.getElem?_modify, if_neg (fun e => hj e.symm)]
  rfl
theorem sortK_at (enc : α → List Value) (k : Nat) (w : World) (g off m : Nat) (d : Array α) (os : Array Obj) {cs : Array Value} {t : TypeId} {fr : Nat × Nat} (h : w.heap[g]? = some (.cells cs t fr)) : (sortWorldK enc k w g off m d os).heap[g]? = some (.cells (putCells id off (flatK enc k d) cs) t fr) := by
  have hl := (Array.getElem?_eq_some_iff.1 h).1
  unfold sortWorldK grow putRowK putRow mapBlock
  have h' : (Sort.ahead w m).heap[g]? = some (.cells cs t fr) := h
  rw [Array.getElem?_append_left (by simpa using hl), Array.getElem?_modify, if_pos rfl, h']
  rfl
theorem sortK_size (enc : α → List Value) (k : Nat) (w : World) (g off m : Nat) (d : Array α) (os : Array Obj) : w.heap.size ≤ (sortWorldK enc k w g off m d os).heap.size := size_sortWorldK_c enc k w g off m d os
theorem sortK_only (enc : α → List Value) (k : Nat) (w : World) (g off m : Nat) (d : Array α) (os : Array Obj) : w.grownBy (sortWorldK enc k w g off m d os) (some g) :=
  ⟨rfl, rfl, rfl, sortK_size enc k w g off m d os, fun j hj hne => sortK_other enc k w g off m d os j (fun e => hne (by rw [e])) hj⟩
end

def enc3 (x : Nm) : List Value := [.string x.s, .int .i64 x.ar, .slice x.a x.Q.length x.c]
def cfS (x y : Nm) : Int := cmpS x.s y.s
theorem swoS : SWO (Go.Proofs.ltOf cfS) where
  irrefl x := by
    unfold Go.Proofs.ltOf cfS
    have := cmpS_neg x.s x.s
    simp only [decide_eq_false_iff_not]; omega
  trans x y z h k := by
    unfold Go.Proofs.ltOf cfS at *
    simp only [decide_eq_true_eq] at *
    exact cmpS_lt.2 (Mp.strLt_trans (cmpS_lt.1 h) (cmpS_lt.1 k))
  ntrans x y z h k := by
    unfold Go.Proofs.ltOf cfS at *
    simp only [decide_eq_false_iff_not] at *
    intro q
    have n1 := cmpS_neg x.s y.s
    have n2 := cmpS_neg y.s z.s
    by_cases e1 : cmpS x.s y.s = 0
    · rw [cmpS_zero e1] at q; exact k q
    · by_cases e2 : cmpS y.s z.s = 0
      · rw [← cmpS_zero e2] at q; exact h q
      · have t := cmpS_lt.2 (Mp.strLt_trans (cmpS_lt.1 (by omega : cmpS z.s y.s < 0)) (cmpS_lt.1 (by omega : cmpS y.s x.s < 0)))
        have n3 := cmpS_neg x.s z.s
        omega
theorem aggN (w : World) : (isAgg 113).run Tryz.prog w = .ok true w := by kernel_rfl
theorem sizeN (w : World) : (Go.sizeOf 113).run Tryz.prog w = .ok 3 w := by kernel_rfl
theorem cmpL (w : World) (g size : Nat) : Go.Proofs.CmpLays Tryz.prog 64 #[] enc3 3 cfS g 0 size w := by
  intro m os dk hdk x y
  generalize sortWorldK enc3 3 w g 0 m dk os = W
  refine Calls.mono (byName_any x.s y.s x.ar y.ar (.slice x.a x.Q.length x.c) (.slice y.a y.Q.length y.c) W) ?_
  rintro e w' ⟨rfl, rfl⟩
  exact ⟨rfl, grow_of (below_alloc2 _ _ _) (Nat.le_refl _)⟩
theorem flat3_K (d : Array Nm) (j : Nat) (h : j < d.size * 3) : (flatK enc3 3 d)[j]! = flat3 d.toList j := by
  rw [get_flatK _ _ _ _ h]
  have hj : j / 3 < d.size := by omega
  have hg : d.toList.getD (j / 3) nm0 = d[j / 3]! := by rw [getElem!_pos d (j / 3) hj]; simp [List.getD, hj]
  unfold flat3
  rw [hg]
  have h3 : j % 3 = 0 ∨ j % 3 = 1 ∨ j % 3 = 2 := by omega
  unfold enc3 val3
  rcases h3 with e | e | e <;> rw [e] <;> rfl

set_option maxHeartbeats 1000000 in
theorem sortN_any (B g cap : Nat) (T : List Nm) (w : World) (h : OS w B (.slice (some ⟨g, 0, none⟩) T.length cap) T) (hlen : T.length ≤ 100000) :
    Calls Tryz.prog 63 #[.slice (some ⟨g, 0, none⟩) T.length cap, .func (.func 64) #[] #[]] w fun e w' => e = .returned (.tuple #[]) ∧
      ∃ T', T'.Perm T ∧ T'.Pairwise (fun x y => cmpS x.s y.s ≤ 0) ∧ OS w' B (.slice (some ⟨g, 0, none⟩) T.length cap) T' ∧ w.grownBy w' (some g) := by
  rcases h.own.2 with ⟨e1, _⟩ | ⟨g', cap', cur, e1, hB, hg, hn1, hn2, hz, ht⟩
  · simp at e1
  simp only [Value.slice.injEq, Option.some.injEq, Addr.mk.injEq] at e1
  obtain ⟨⟨rfl, _, _⟩, _, rfl⟩ := e1
  have curat : ∀ j, j < T.length * 3 → cur[j]? = some (flat3 T j) := fun j hj => by
    rw [← cells3_at T hj, ← ht, List.getElem?_take, if_pos hj, Array.getElem?_toList]
  have hH : HoldsK enc3 3 w g 0 T.toArray := by
    intro j hj
    have hj1 : j < T.length * 3 := by simpa [flatK] using hj
    rw [flat3_K _ _ (by simpa using hj1)]
    refine ⟨?_, Vl.free hg _⟩
    simp only [World.cell?, hg, Nat.zero_add]
    rw [curat j hj1]; rfl
  have hcon := Go.Proofs.AnyQ.slices_SortFunc Tryz.sortNamed 3 aggN sizeN enc3 (fun _ => rfl) (fun x u hu => by simp [enc3] at hu; rcases hu with rfl | rfl | rfl <;> rfl) cfS swoS 64 #[] g 0 cap T.toArray w (enters_of Tryz.func64 (by kernel_rfl) rfl) (cmpL w g _) hH (blk_lt hg) (by simp; omega)
  change Calls Tryz.prog 63 _ _ _ at hcon
  simp only [List.size_toArray] at hcon
  refine hcon.mono ?_
  rintro e w' ⟨rfl, d', m, os, hp, hs, rfl⟩
  have hd' : d'.size = T.length := by have := hp.1; simpa using this
  have hperm : d'.toList.Perm T := by
    have := hp.2.2
    simpa [Array.extract_eq_self_of_le, hd'] using this
  have hkg := sortK_only enc3 3 w g 0 m d' os
  refine ⟨rfl, d'.toList, hperm, ?_, ⟨⟨?_, ?_⟩, fun x hx => ?_, ?_⟩, hkg⟩
  · rw [List.pairwise_iff_getElem]
    intro i j hi hj hij
    have hi' : i < d'.size := by simpa using hi
    have hj' : j < d'.size := by simpa using hj
    have := hs i j (Nat.zero_le _) hij (by omega)
    unfold Go.Proofs.ltOf cfS at this
    simp only [decide_eq_false_iff_not] at this
    rw [getElem!_pos d' i hi', getElem!_pos d' j hj'] at this
    simp only [Array.getElem_toList]
    have := cmpS_neg (d'[i]).s (d'[j]).s
    omega
  · rw [cells3_len]
  · right
    refine ⟨g, cap, _, by simp [hd'], hB, sortK_at _ _ _ _ _ _ _ _ hg, by simpa [hd'] using hn1, hn2, by simpa [putCells] using hz, ?_⟩
    have e : (putCells id 0 (flatK enc3 3 d') cur).toList.take (T.length * 3) = cells3 d'.toList := by
      apply List.ext_getElem?
      intro j
      rw [List.getElem?_take]
      split
      · rename_i hj
        have hjd : j < d'.size * 3 := by omega
        have hjc : j < cur.size := by rw [hz]; omega
        rw [cells3_at _ (by simpa using hjd), Array.getElem?_toList]
        simp only [putCells, Array.getElem?_mapIdx]
        rw [Array.getElem?_eq_getElem hjc, Option.map_some, if_pos (by simp [flatK]; omega)]
        simp only [Nat.sub_zero, id]
        rw [flat3_K _ _ hjd]
      · rename_i hj
        symm
        apply List.getElem?_eq_none
        rw [cells3_len]; simp; omega
    simpa [hd'] using e
  · obtain ⟨q0, ⟨hi, q1, q2⟩, q3⟩ := h.each x (hperm.mem_iff.1 hx)
    exact ⟨q0, ⟨hi, Nat.le_trans q1 hkg.size, rel_kept q2 h.own hkg⟩, q3⟩
  · refine (hperm.pairwise_iff ?_).2 h.diff
    intro x y hxy r hr q hq h1 h2 e
    exact hxy q hq r hr h2 h1 e.symm
/-- The same where there is nothing to sort. -/
theorem sortN_nil (cap : Nat) (p : Option Addr) (w : World) :
    Calls Tryz.prog 63 #[.slice p 0 cap, .func (.func 64) #[] #[]] w fun e w' => e = .returned (.tuple #[]) ∧ w' = w := by
  have := Go.Proofs.AnyF.slices_SortFunc_none Tryz.sortNamed p cap (.func (.func 64) #[] #[]) w
  exact this

end Go.Proofs.YtljlgjgfmgilaaaGreat.St

namespace Go.Proofs.YtljlgjgfmgilaaaGreat.Sw
open Go Go.RowKit
theorem one_set {w : World} {g : Nat} {v u : Value} {t : TypeId} (k : w.heap[g]? = some (.cells #[v] t (0, 0))) : (w.setCell ⟨g, 0, none⟩ u).heap[g]? = some (.cells #[u] t (0, 0)) := by
  simp [World.setCell, Array.getElem?_modify, k]

end Go.Proofs.YtljlgjgfmgilaaaGreat.Sw

namespace Go.Proofs.YtljlgjgfmgilaaaGreat.Mp
set_option maxRecDepth 8000
set_option linter.unusedSimpArgs false
set_option linter.unusedVariables false
open Go Go.ChangeShapes Go.WideShapes Go.RowKit
open Num Word Pl Rp
open Rl (Rm rm0 said)
open St (Nm nm0 NL told)

set_option maxHeartbeats 4000000 in
theorem copyRel_any (ar : Int) (a : Option Addr) (b off cap : Nat) (Q : List Rm) (w : World) (h : Rl.Rd w a b off Q) (h4 : Q.length ≤ 100000) :
    Calls Tryz.prog 62 #[.agg #[.int .i64 ar, .slice a Q.length cap]] w (Rl.ResL w ar (said Q)) := by
  obtain ⟨W1, hW1⟩ : ∃ W1, W1 = (w.alloc (.cells #[.int .i64 ar, .slice a Q.length cap] 69)).alloc (.cells #[.int .i64 0, .slice none 0 0] 69) := ⟨_, rfl⟩
  have B1 : Below w.heap.size w W1 := by subst hW1; exact below_alloc2 _ _ _
  have k0 : W1.heap[w.heap.size]? = some (.cells #[.int .i64 ar, .slice a Q.length cap] 69 (0, 0)) := by subst hW1; rw [at_old (by simp), at_new rfl]
  have k1 : W1.heap[w.heap.size + 1]? = some (.cells #[.int .i64 0, .slice none 0 0] 69 (0, 0)) := by subst hW1; exact at_new (by simp)
  have r0 := h.below B1
  obtain ⟨p0, p1⟩ := two k0
  obtain ⟨z0, z1⟩ := two k1
  have f1 := Vl.free k1
  clear h
  go_enter Tryz.func62, Tryz.ntmps62
  go_wp2
  rw [← hW1]
  clear hW1
  go_region_held3 (fun w' => w'.cell? ⟨w.heap.size, 0, none⟩ = some (.int .i64 ar) ∧ w'.cell? ⟨w.heap.size, 1, none⟩ = some (.slice a Q.length cap)) (go_keep) (first
    | (go_at_call 97; clear p0 p1 z0 z1 f1; refine (Rl.rowSet_any _ (.int .i64 0) _ _ _ _).mono ?_; rintro e w2 ⟨rfl, hb⟩; replace hb := Rw.next ((Below.refl _ _).drew) hb; replace B1 := Rw.next B1 hb; replace k0 := (hb.block _ (blk_lt k0)).trans k0; replace k1 := (hb.block _ (blk_lt k1)).trans k1; replace r0 := r0.below hb; clear hb; obtain ⟨p0, p1⟩ := two k0; obtain ⟨z0, z1⟩ := two k1; have f1 := Vl.free k1)
    | (go_at_call 96; clear p0 p1 z0 z1 f1; refine (Rl.relOf_any _ _ _ _ _ _ _ r0 h4).mono ?_; rintro e w3 ⟨v, F, rfl, hot, sF, hb⟩; obtain ⟨ua, un, uc, rfl⟩ := hot.og.slice; replace B1 := Rw.next B1 hb; replace k0 := (hb.block _ (blk_lt k0)).trans k0; have hs1 := blk_lt k1; replace k1 := (hb.block _ (blk_lt k1)).trans k1; have sb := hb.size; clear hb; obtain ⟨p0, p1⟩ := two k0; obtain ⟨z0, z1⟩ := two k1; have f1 := Vl.free k1; have HS : Hid (said F = said Q) := sF; clear sF))
  go_wp2
  have hs := B1.size
  refine bodyPost_ret (v := .agg #[.int .i64 ar, .slice ua un uc]) (by simp [results, Tryz.results62, go_sem, z0, z1]) rfl ⟨.slice ua un uc, F, rfl, ?_, HS.out, ?_⟩
  · refine Rl.OT.mono (B := w2.heap.size) ?_ (by omega)
    refine hot.keep fun z hz hzB => ?_
    repeat (first | rfl | refine (Below.heap_setCell _ _ _ _ (by simp; omega)).trans ?_)
  · repeat (first | with_reducible exact B1 | refine Vl.bset ?_ (by simp <;> omega))

end Go.Proofs.YtljlgjgfmgilaaaGreat.Mp

namespace Go.Proofs.YtljlgjgfmgilaaaGreat.Mp
set_option maxRecDepth 8000
set_option linter.unusedSimpArgs false
set_option linter.unusedVariables false
open Go Go.ChangeShapes Go.WideShapes Go.RowKit
open Num Word Pl Rp
open Rl (Rm rm0 said)
open St (Nm nm0 NL told storeB)
open Vl (cmpS strLt)

theorem ranges_two {w w' : World} {b r n : Nat} {D : DataW Value} {left : Lit → Bool} {cnt : Nat} (h : w.ranges Tryz.prog 9 elem b r n D left cnt) (hb : w'.heap[b]? = w.heap[b]?) (hr : w'.heap[r]? = w.heap[r]?) : w'.ranges Tryz.prog 9 elem b r n D left cnt := by
  obtain ⟨es, clock, since, seen, c0, h1, F, hs, hD, h2, rest⟩ := h
  exact ⟨es, clock, since, seen, c0, hb.trans h1, F, hs, hD, hr.trans h2, rest⟩
theorem neq_false {a b : ByteArray} (h : a ≠ b) : (a.toList == b.toList) = false := by
  rw [beq_eq_false_iff_ne]
  intro e; rw [ByteArray.toList_eq, ByteArray.toList_eq] at e; exact h (Go.WideShapes.bytes_inj e)
theorem less_no {a b : ByteArray} (h : Op.bytesLess a.toList b.toList = true) : Op.bytesLess b.toList a.toList = false := by
  cases q : Op.bytesLess b.toList a.toList with
  | false => rfl
  | true => have := strLt_irr a; unfold Vl.strLt at this; rw [bless_trans _ _ _ h q] at this; cases this
theorem less_yes {a b : ByteArray} (h : Op.bytesLess a.toList b.toList = false) (hne : a ≠ b) : Op.bytesLess b.toList a.toList = true := by
  have ht := Vl.less_total a.toList b.toList
  rw [h] at ht
  cases q : Op.bytesLess b.toList a.toList with
  | true => rfl
  | false => rw [q, neq_false hne] at ht; simp at ht
theorem take_told' {T : List Nm} {i : Nat} (h : i < T.length) : (told T).take (i + 1) = (told T).take i ++ [(T.getD i nm0).l] := by
  rw [← St.told_at h, List.take_add_one]
  have h2 : i < (told T).length := by rw [St.told_len]; exact h
  simp [List.getD, h2]
theorem told_snoc (F : List Nm) (x : Nm) : told (F ++ [x]) = told F ++ [x.l] := by simp [told]
/-- Names that rise or are alike, and are not alike, rise. -/
theorem rises_of {T : List Nm} (h : T.Pairwise (fun x y => cmpS x.s y.s ≤ 0)) (k : T.Pairwise (fun x y => x.s ≠ y.s)) : (told T).Pairwise (fun x y => strLt x.1 y.1 = true) := by
  unfold told
  rw [List.pairwise_map]
  refine (h.and k).imp fun {x y} ⟨h1, h2⟩ => ?_
  have h3 : cmpS x.s y.s ≠ 0 := fun e => h2 (cmpS_zero e)
  have h4 : cmpS x.s y.s < 0 := by omega
  exact cmpS_lt.1 h4

def ResS (w : World) (U : List Nm) (e : Ending) (w' : World) : Prop :=
  ∃ v T, e = .returned (.agg #[v]) ∧ St.OS w' w.heap.size v T ∧ (told T).Pairwise (fun x y => strLt x.1 y.1 = true) ∧ (∀ l, l ∈ told T ↔ l ∈ told U) ∧ T.length ≤ U.length ∧ Below w.heap.size w w'

set_option maxHeartbeats 16000000 in
theorem store_any (b n : Nat) (D : DataW Value) (U : List Nm) (w : World) (o1 : Owns w b n D) (i1 : Is D (U.map nv)) (hU : ∀ x ∈ U, x.Ok w) (h4 : ∀ x ∈ U, x.Q.length ≤ 100000) (hl : U.length ≤ 100000) :
    Calls Tryz.prog 30 #[.map (some b)] w (ResS w U) := by
  haveI : Inhabited Nm := ⟨nm0⟩
  obtain ⟨W1, hW1⟩ : ∃ W1, W1 = (w.alloc (.cells #[.slice none 0 0] 38)).alloc (.cells #[.slice none 0 0] 38) := ⟨_, rfl⟩
  have Bw : Below w.heap.size w W1 := by subst hW1; exact below_alloc2 _ _ _
  have kR0 : W1.heap[w.heap.size]? = some (.cells #[.slice none 0 0] 38 (0, 0)) := by subst hW1; rw [at_old (by simp), at_new rfl]
  have kO0 : W1.heap[w.heap.size + 1]? = some (.cells #[.slice none 0 0] 38 (0, 0)) := by subst hW1; exact at_new (by simp)
  have sz1 : W1.heap.size = w.heap.size + 2 := by subst hW1; simp
  have oW : Owns W1 b n D := owns_below o1 Bw
  have lb := o1.lt
  have dU : U.Pairwise (fun x y => x.s ≠ y.s) := by have := i1.apart; rw [List.pairwise_map] at this; exact this
  have z1 : Maps.size D = U.length := by rw [i1.size]; simp
  have HI : Hid (Is D (U.map nv)) := i1
  have HU : Hid (∀ x ∈ U, x.Ok w) := hU
  have H4 : Hid (∀ x ∈ U, x.Q.length ≤ 100000) := h4
  have HD : Hid (U.Pairwise (fun x y => x.s ≠ y.s)) := dU
  clear i1 hU h4 dU o1
  go_enter Tryz.func30, Tryz.ntmps30
  go_wp2_with (first
    | (at_range; rw [← hW1]; clear hW1; refine wpList_range_own _ rfl _ 66 rfl 9 69 law Tryz.underlying66 elem b n D rfl oW ?_; intro w0 hrg0 hg0 hs0)
    | go_in)
  go_frame
  rw [sz1] at hrg0 hs0 ⊢
  have B0 : Below w.heap.size w w0 := Bw.grown hg0 Bw.size (fun k hk => by cases hk)
  have kR1 := (hg0.block _ (blk_lt kR0) (by simp)).trans kR0
  have kO1 := (hg0.block _ (blk_lt kO0) (by simp)).trans kO0
  rw [z1] at hrg0
  go_loopw [] (fun wr => ∃ (left : Lit → Bool) (cnt : Nat) (v : Value) (F : List Nm), wr.ranges Tryz.prog 9 elem b (w.heap.size + 2) n D left cnt ∧ Below w.heap.size w wr ∧ wr.heap[w.heap.size]? = some (.cells #[.slice none 0 0] 38 (0, 0)) ∧ wr.heap[w.heap.size + 1]? = some (.cells #[v] 38 (0, 0)) ∧ St.OS wr (w.heap.size + 3) v F ∧ w.heap.size + 3 ≤ wr.heap.size ∧ (∀ l, l ∈ told F ↔ ∃ x ∈ U, x.l = l ∧ left (lt x.s) = false) ∧ F.length + cnt ≤ U.length ∧ F.Pairwise (fun x y => x.s ≠ y.s)) (fun wr => wr.rangeLeft b (w.heap.size + 2))
  case atStart =>
    refine ⟨_, _, .slice none 0 0, [], hrg0, B0, kR1, kO1, St.OS.nil _ _, by omega, fun l => ?_, by simp, List.Pairwise.nil⟩
    constructor
    · intro h; simp [told] at h
    · rintro ⟨x, hx, _, hf⟩
      have := (HI.out.has (lt x.s)).2 ⟨nv x, List.mem_map_of_mem hx, rfl⟩
      rw [this] at hf; cases hf
  case round =>
    clear Bw kR0 kO0 oW hrg0 hg0 hs0 B0 kR1 kO1 sz1 z1
    obtain ⟨left, cnt, v, F, hrg, hbel, kR, kO, hos, hsz, hmem, hcnt, hap⟩ := hrel
    have HMem : Hid (∀ l, l ∈ told F ↔ ∃ x ∈ U, x.l = l ∧ left (lt x.s) = false) := hmem
    have HAp : Hid (F.Pairwise (fun x y => x.s ≠ y.s)) := hap
    clear hmem hap
    go_wp2_with (first
      | (at_next; refine next_rel _ rfl _ rfl b (w.heap.size + 2) n D left cnt rfl hrg ?_ ?_)
      | go_in)
    · intro _ hl0
      have HEnd : Hid (∀ l, l ∈ told F ↔ l ∈ told U) := fun l => by
        rw [HMem.out l]
        constructor
        · rintro ⟨x, hx, rfl, _⟩; exact List.mem_map_of_mem hx
        · intro h
          obtain ⟨x, hx, rfl⟩ := List.mem_map.1 h
          exact ⟨x, hx, rfl, hl0 _⟩
      clear HMem hrg
      have hFl : F.length ≤ 100000 := by omega
      by_cases hF0 : F.length = 0
      · have e : F = [] := List.eq_nil_of_length_eq_zero hF0
        subst e
        rcases hos.own.2 with ⟨rfl, _⟩ | ⟨g, cap, cur, rfl, _, hgg, _⟩
        · have o0 := Pl.one kO
          have fR := Vl.free kR
          have rR := Pl.one kR
          have lR := blk_lt kR
          go_wp2_with (go_at_call 63; refine (St.sortN_nil _ _ _).mono ?_; rintro e w3 ⟨rfl, hw⟩; replace hw := hw.symm; subst hw)
          refine bodyPost_ret (v := .agg #[.slice none 0 0]) (by simp [results, Tryz.results30, go_sem, rR]) rfl ⟨.slice none 0 0, [], rfl, St.OS.nil _ _, List.Pairwise.nil, HEnd.out, by simp, ?_⟩
          exact Vl.bset hbel (Nat.le_refl _)
        · have o0 := Pl.one kO
          have fR := Vl.free kR
          have rR := Pl.one kR
          have lR := blk_lt kR
          have hos0 : St.OS (wr.setCell ⟨w.heap.size, 0, none⟩ (.slice (some ⟨g, 0, none⟩) 0 cap)) w.heap.size (.slice (some ⟨g, 0, none⟩) 0 cap) [] := (hos.keep (fun x _ hx => Below.heap_setCell _ _ _ _ (by simp; omega)) (by simp)).mono (by omega)
          simp only [List.length_nil] at o0 ⊢
          go_wp2_with (go_at_call 63; refine (St.sortN_nil _ _ _).mono ?_; rintro e w3 ⟨rfl, hw⟩; replace hw := hw.symm; subst hw)
          refine bodyPost_ret (v := .agg #[.slice (some ⟨g, 0, none⟩) 0 cap]) (by simp [results, Tryz.results30, go_sem, rR]) rfl ⟨_, [], rfl, hos0, List.Pairwise.nil, HEnd.out, by simp, ?_⟩
          exact Vl.bset hbel (Nat.le_refl _)
      · rcases hos.own.2 with ⟨rfl, e0⟩ | ⟨g, cap, cur, rfl, hgB, hgg, _⟩
        · exact absurd e0 hF0
        have hSo := St.sortN_any _ g cap F wr hos hFl
        have o0 := Pl.one kO
        go_wp2_with (go_at_call 63; refine hSo.mono ?_; rintro e w3 ⟨rfl, T, hpm, hso, hosT, hgr⟩; have kR3 := (hgr.block _ (blk_lt kR) (by simp; omega)).trans kR; have kO3 := (hgr.block _ (blk_lt kO) (by simp; omega)).trans kO; have B3 : Below w.heap.size w w3 := hbel.grown hgr hbel.size (fun k hk => by cases hk; omega); clear o0; have o0 := Pl.one kO3; have fR := Vl.free kR3; have rR := Pl.one kR3; have lR := blk_lt kR3; have HPm : Hid (T.Perm F) := hpm; have HSo : Hid (T.Pairwise (fun x y => cmpS x.s y.s ≤ 0)) := hso; clear hpm hso)
        have hTl : T.length = F.length := HPm.out.length_eq
        have hap2 : T.Pairwise (fun x y => x.s ≠ y.s) := (HPm.out.pairwise_iff (fun {a b} h => Ne.symm h)).2 HAp.out
        have hme : ∀ l, l ∈ told T ↔ l ∈ told U := fun l => by
          rw [← HEnd.out l]
          exact (HPm.out.map Nm.l).mem_iff
        refine bodyPost_ret (v := .agg #[.slice (some ⟨g, 0, none⟩) F.length cap]) (by simp [results, Tryz.results30, go_sem, rR]) rfl ⟨_, T, rfl, ?_, rises_of HSo.out hap2, hme, by omega, ?_⟩
        · exact (hosT.keep (fun x _ hx => Below.heap_setCell _ _ _ _ (by simp; omega)) (by simp)).mono (by omega)
        · exact Vl.bset B3 (Nat.le_refl _)
    · intro s ar A l c w1 cnt1 hs hlx hat hrg1 hlt hg1 hs1 hen
      obtain ⟨x, hx, hxe⟩ := HI.out.entry hat
      have hne : ∀ x ∈ F, x.s ≠ s := fun y hy e => by
        obtain ⟨z, hz, ez, hzl⟩ := (HMem.out y.l).1 (List.mem_map_of_mem hy)
        have e1 : z.s = y.s := congrArg Prod.fst ez
        rw [e1, e, hlx] at hzl; cases hzl
      have okx0 := HU.out _ hx
      have h4x := H4.out _ hx
      have hstep : ∀ y : Nm, y.l = x.l → ∀ l, l ∈ told (F ++ [y]) ↔ ∃ z ∈ U, z.l = l ∧ (left (lt z.s) && !(lt z.s).sameKey (lt x.s)) = false := by
        intro y hy l
        rw [told_snoc, List.mem_append, HMem.out l, List.mem_singleton, hy]
        constructor
        · rintro (⟨z, hz, rfl, hf⟩ | rfl)
          · exact ⟨z, hz, rfl, by rw [hf]; rfl⟩
          · exact ⟨x, hx, rfl, by rw [WideAt.sameKey_self (lt_key (by have := congrArg Prod.fst hxe; simp only [nv] at this; rw [this]; exact hs))]; simp⟩
        · rintro ⟨z, hz, rfl, hf⟩
          by_cases e : z.s = x.s
          · obtain rfl := same_of HD.out hz hx e
            exact .inr rfl
          · have : (lt z.s).sameKey (lt x.s) = false := Maps.sameKey_ne fun h => e (lt_inj h)
            rw [this] at hf
            exact .inl ⟨z, hz, rfl, by simpa using hf⟩
      have hstep2 : ∀ y : Nm, y.s = x.s → (F ++ [y]).Pairwise (fun x y => x.s ≠ y.s) := fun y hy => by
        rw [List.pairwise_append]
        refine ⟨HAp.out, List.pairwise_singleton _ _, fun a ha b hb => ?_⟩
        obtain rfl := List.mem_singleton.1 hb
        rw [hy]
        have := congrArg Prod.fst hxe
        simp only [nv] at this
        rw [this]; exact hne a ha
      obtain ⟨xs, xr, xa, xb, xo, xc, xQ⟩ := x
      simp only [nv, Prod.mk.injEq] at hxe
      obtain ⟨rfl, rfl, rfl, rfl, rfl⟩ := hxe
      simp only [Nm.l] at h4x hstep hstep2
      have HM : Hid (∀ y : Nm, y.l = (xs, xr, said xQ) → ∀ l, l ∈ told (F ++ [y]) ↔ ∃ z ∈ U, z.l = l ∧ (left (lt z.s) && !(lt z.s).sameKey (lt xs)) = false) := hstep
      have HA : Hid (∀ y : Nm, y.s = xs → (F ++ [y]).Pairwise (fun x y => x.s ≠ y.s)) := hstep2
      have okx : Rl.Rd w xa xb xo xQ := okx0
      clear hstep hstep2 okx0 hat hx hne HMem HAp
      have bel1 : Below w.heap.size w w1 := hbel.grown hg1 hbel.size (fun k hk => by cases hk; omega)
      have kR1 := (hg1.block _ (blk_lt kR) (by simp)).trans kR
      have kO1 := (hg1.block _ (blk_lt kO) (by simp)).trans kO
      have hos1 : St.OS w1 (w.heap.size + 3) v F := hos.keep (fun x hx hxB => hg1.block x hx (by simp; omega)) (by omega)
      obtain ⟨W2, hW2⟩ : ∃ W2, W2 = w1.alloc (.cells #[.int .i64 xr, .slice xa xQ.length xc] 69) := ⟨_, rfl⟩
      have hb2 : Below w1.heap.size w1 W2 := by subst hW2; exact below_alloc1 _ _
      have kX : W2.heap[w1.heap.size]? = some (.cells #[.int .i64 xr, .slice xa xQ.length xc] 69 (0, 0)) := by subst hW2; exact at_new rfl
      have B1 := Rw.next bel1 hb2
      have hrg2 := ranges_below hrg1 hb2
      have ok : Rl.Rd W2 xa xb xo xQ := okx.below B1
      replace hos : St.OS W2 (w.heap.size + 3) v F := hos1.below hb2
      replace kR := (hb2.block _ (blk_lt kR1)).trans kR1
      replace kO := (hb2.block _ (blk_lt kO1)).trans kO1
      obtain ⟨B, hB⟩ : ∃ B, B = w.heap.size + 3 := ⟨_, rfl⟩
      rw [← hB] at hos
      have hBo : w.heap.size + 1 < B := by omega
      have hBs : B ≤ W2.heap.size := by have := hb2.size; omega
      have hwo : w.heap.size ≤ w.heap.size + 1 := by omega
      have hFl : F.length ≤ 100000 := by omega
      have hnm := hs
      have h4 := h4x
      have hF1of : ∀ F1 : List Rm, said F1 = said xQ → F1.length ≤ 4194304 := fun F1 h => by rw [← Rl.said_len, h, Rl.said_len]; omega
      obtain ⟨eb, heb⟩ : ∃ eb, eb = w1.heap.size := ⟨_, rfl⟩
      have hSt : ∀ w', Rl.Stab W2 (w.heap.size + 1) v w' → w'.cell? ⟨eb, 0, none⟩ = some (.int .i64 xr) ∧ w'.cell? ⟨eb, 1, none⟩ = some (.slice xa xQ.length xc) := fun w' st => by
        have : w'.heap[eb]? = some (.cells #[.int .i64 xr, .slice xa xQ.length xc] 69 (0, 0)) := by
          rw [heb]
          refine (st.block _ (blk_lt kX) (by omega) ?_).trans kX
          exact St.own3_ne hos.own kX
        exact Pl.two this
      have hs1' : w.heap.size + 3 ≤ w1.heap.size := by omega
      clear hs1
      go_wp2
      rw [← hW2, ← heb]
      clear hW2 heb hb2 hos1 kR1 kO1 bel1 okx kX hrg1 hg1 hs1' hen
      refine wp_region_held_drew (S := Rl.Stab W2 (w.heap.size + 1) v) (by kernel_rfl) (Rl.Stab.refl _ _ _) (fun hHeld => ?_)
      refine Hn.take (i := 0) (d := some 13) (v := .pointer (some ⟨w.heap.size + 1, 0, none⟩)) rfl (by kernel_rfl) (by kernel_rfl) (by kernel_rfl) (by kernel_rfl) (fun _ _ _ h => h) (Or.inl ⟨by rfl, by intro w hSw; go_simp⟩) hHeld ?_
      simp only [Act.put, List.setIfInBounds_toArray, List.set_cons_zero, List.set_cons_succ]
      refine Hn.take (i := 2) (d := some 15) (v := .string xs) rfl (by kernel_rfl) (by kernel_rfl) (by kernel_rfl) (by kernel_rfl) (fun _ _ _ h => h) (Or.inl ⟨by rfl, by intro w hSw; go_simp⟩) hHeld ?_
      simp only [Act.put, List.setIfInBounds_toArray, List.set_cons_zero, List.set_cons_succ]
      refine Hn.take (i := 3) (d := some 16) (v := .agg #[.int .i64 xr, .slice xa xQ.length xc]) rfl (by kernel_rfl) (by kernel_rfl) (by kernel_rfl) (by kernel_rfl) (fun _ _ _ h => h) (Or.inl ⟨by rfl, by intro w hSw; obtain ⟨q0, q1⟩ := hSt w hSw; go_simp⟩) hHeld ?_
      simp only [Act.put, List.setIfInBounds_toArray, List.set_cons_zero, List.set_cons_succ]
      have st : Rl.Stab W2 (w.heap.size + 1) v (W2).drew := Rl.Stab.refl _ _ _
      have hos0 : St.OS (W2).drew B v F := hos.below ((Below.refl _ _).drew)
      have kO0 : (W2).drew.heap[w.heap.size + 1]? = some (.cells #[v] 38 (0, 0)) := kO
      have ok0 := Rl.Rd.below ok ((Below.refl (W2).heap.size (W2)).drew)
      have B2 := Rw.next B1 ((Below.refl (W2).heap.size (W2)).drew)
      have sW : (W2).drew.heap.size = (W2).heap.size := rfl
      generalize (W2).drew = W at *
      refine wpAnyH_ready (rs := [1, 4]) (by kernel_rfl) (by simp) (Hn.readyRun (i := 1) rfl (by kernel_rfl) (some 14) (by kernel_rfl) (v := v) (w' := W) (by have o0 := Pl.one kO0; go_simp) st (fun hHeld => ?_) (Hn.call1 (i := 4) rfl (by rfl) 62 (.tmp 16) 69 (by kernel_rfl) 17 (by kernel_rfl) (.agg #[.int .i64 xr, .slice xa xQ.length xc]) (by kernel_rfl) (fun _ => rfl) (copyRel_any xr xa xb xo xc xQ _ ok0 h4) ?_ AllReadyH.nil))
      · simp only [Act.put, List.setIfInBounds_toArray, List.set_cons_zero, List.set_cons_succ]
        refine wpAnyH_ready (rs := [4]) (by kernel_rfl) (by simp) (Hn.call1 (i := 4) rfl (by rfl) 62 (.tmp 16) 69 (by kernel_rfl) 17 (by kernel_rfl) (.agg #[.int .i64 xr, .slice xa xQ.length xc]) (by kernel_rfl) (fun _ => rfl) (copyRel_any xr xa xb xo xc xQ _ ok0 h4) ?_ AllReadyH.nil)
        rintro e1 Wc ⟨v1, F1, rfl, hot1, hl, hb⟩
        have hF1 := hF1of F1 hl
        obtain ⟨ra1, rg1, rc1, rfl, hr⟩ := hot1.form hF1
        replace st := st.below hb
        replace kO0 := (hb.block _ (blk_lt kO0)).trans kO0
        have hbc := hb
        replace B2 := Rw.next B2 hb
        have sC := hb.size
        refine ⟨_, rfl, st, fun hHeld => ?_⟩
        simp only [Act.put, List.setIfInBounds_toArray, List.set_cons_zero, List.set_cons_succ]
        refine Hn.take (i := 5) (d := some 18) (v := .agg #[.string xs, .int .i64 xr, .slice ra1 F1.length rc1]) rfl (by kernel_rfl) (by kernel_rfl) (by kernel_rfl) (by kernel_rfl) (fun _ _ _ h => h) (Or.inl ⟨by rfl, by intro w hSw; go_simp⟩) hHeld ?_
        simp only [Act.put, List.setIfInBounds_toArray, List.set_cons_zero, List.set_cons_succ]
        refine wpAnyH_ready (rs := [6]) (by kernel_rfl) (by simp) (Hn.readyRun (i := 6) rfl (by kernel_rfl) (some 19) (by kernel_rfl) (v := .slice (some ⟨Wc.heap.size, 0, none⟩) 1 1) (w' := Wc.alloc (.cells #[.string xs, .int .i64 xr, .slice ra1 F1.length rc1] 113)) (St.exec_oneN rfl (by kernel_rfl)) (st.below (below_alloc1 _ _)) (fun hHeld => ?_) AllReadyH.nil)
        simp only [Act.put, List.setIfInBounds_toArray, List.set_cons_zero, List.set_cons_succ]
        obtain ⟨Wd, hWd⟩ : ∃ Wd, Wd = Wc.alloc (.cells #[.string xs, .int .i64 xr, .slice ra1 F1.length rc1] 113) := ⟨_, rfl⟩
        rw [← hWd] at hHeld ⊢
        have hT : Wd.heap[Wc.heap.size]? = some (.cells #[.string xs, .int .i64 xr, .slice ra1 F1.length rc1] 113 (0, 0)) := by subst hWd; exact at_new rfl
        have hb : Below Wc.heap.size Wc Wd := by subst hWd; exact below_alloc1 _ _
        have sD := hb.size
        replace st := st.below hb
        replace kO0 := (hb.block _ (blk_lt kO0)).trans kO0
        replace B2 := Rw.next B2 hb
        have hr2 := hr.below hb
        have hbd := Rw.next hbc hb
        clear hb hWd
        obtain ⟨v', Z, hrun, hosZ, hgr⟩ := hos0.app (x := ⟨xs, xr, ra1, rg1, 0, rc1, F1⟩) (c := 1) 36 hbd hr2 sD rfl hnm (by omega) hT hFl
        refine wpAnyH_ready (rs := [7]) (by kernel_rfl) (by simp) (Hn.readyRun (i := 7) rfl (by kernel_rfl) (some 20) (by kernel_rfl) (Hn.exec_app (.tmp 14) (.tmp 19) rfl (by kernel_rfl) (by kernel_rfl) hrun) (st.grown hgr) (fun hHeld => ?_) AllReadyH.nil)
        simp only [Act.put, List.setIfInBounds_toArray, List.set_cons_zero, List.set_cons_succ]
        replace st := st.grown hgr
        obtain ⟨va, vn, vc, hv⟩ := hosZ.slice
        subst hv
        have kOZ := (hgr.block _ (blk_lt kO0) (fun e => by have := (hos0.lt e.symm).1; omega)).trans kO0
        replace B2 := B2.grown hgr B2.size (fun k hk => by have := (hos0.lt hk).1; omega)
        have o0 := Pl.one kOZ
        have fO := Vl.free kOZ
        refine Hn.take (i := 8) (d := some 21) (v := .pointer (some ⟨w.heap.size + 1, 0, none⟩)) rfl (by kernel_rfl) (by kernel_rfl) (by kernel_rfl) (by kernel_rfl) (fun _ _ _ h => h) (Or.inl ⟨by rfl, by intro w hSw; go_simp⟩) hHeld ?_
        simp only [Act.put, List.setIfInBounds_toArray, List.set_cons_zero, List.set_cons_succ]
        refine wpAnyH_ready (rs := [9]) (by kernel_rfl) (by simp) (Hn.readySkip (i := 9) rfl (by kernel_rfl) none (by kernel_rfl) (w' := Z.setCell ⟨w.heap.size + 1, 0, none⟩ (.slice va vn vc)) (by go_simp) st.set (fun hHeld => ?_) AllReadyH.nil)
        simp only [Act.put, List.setIfInBounds_toArray, List.set_cons_zero, List.set_cons_succ]
        refine wpAnyH_done (by kernel_rfl) ?_ _
        have kO' : (Z.setCell ⟨w.heap.size + 1, 0, none⟩ (.slice va vn vc)).heap[w.heap.size + 1]? = some (.cells #[(.slice va vn vc)] 38 (0, 0)) := Sw.one_set kOZ
        have B1' : Below w.heap.size w (Z.setCell ⟨w.heap.size + 1, 0, none⟩ (.slice va vn vc)) := Vl.bset B2 hwo
        have hos' : St.OS (Z.setCell ⟨w.heap.size + 1, 0, none⟩ (.slice va vn vc)) B (.slice va vn vc) (F ++ [⟨xs, xr, ra1, rg1, 0, rc1, F1⟩]) := hosZ.keep (fun x _ hx => Below.heap_setCell _ _ _ _ (by simp; omega)) (by simp)
        replace st : Rl.Stab W2 (w.heap.size + 1) v (Z.setCell ⟨w.heap.size + 1, 0, none⟩ (.slice va vn vc)) := st.set
        go_wp2
        go_roundw
        case rel =>
          have hkeep : ∀ z, z < w.heap.size + 3 → z ≠ w.heap.size + 1 → (Z.setCell ⟨w.heap.size + 1, 0, none⟩ (.slice va vn vc)).heap[z]? = W2.heap[z]? := fun z hz hne => st.block z (by omega) hne (fun e => by have := (hos.lt e.symm).1; omega)
          refine ⟨_, cnt1, .slice va vn vc, F ++ [⟨xs, xr, ra1, rg1, 0, rc1, F1⟩], ranges_two hrg2 (hkeep b (by omega) (by omega)) (hkeep _ (by omega) (by omega)), B1', (hkeep _ (by omega) (by omega)).trans kR, kO', (by rw [← hB]; exact hos'), by have := st.size; simp at this ⊢; omega, ?_, by simp; omega, ?_⟩
          · exact HM.out ⟨xs, xr, ra1, rg1, 0, rc1, F1⟩ (by simp only [Nm.l]; rw [hl])
          · exact HA.out ⟨xs, xr, ra1, rg1, 0, rc1, F1⟩ rfl
        case measure =>
          have hkeep : ∀ z, z < w.heap.size + 3 → z ≠ w.heap.size + 1 → (Z.setCell ⟨w.heap.size + 1, 0, none⟩ (.slice va vn vc)).heap[z]? = W2.heap[z]? := fun z hz hne => st.block z (by omega) hne (fun e => by have := (hos.lt e.symm).1; omega)
          have q := ranges_two hrg2 (hkeep b (by omega) (by omega)) (hkeep _ (by omega) (by omega))
          rw [q.left_eq, hrg.left_eq]; exact hlt
      · rintro e1 Wc ⟨v1, F1, rfl, hot1, hl, hb⟩
        have hF1 := hF1of F1 hl
        obtain ⟨ra1, rg1, rc1, rfl, hr⟩ := hot1.form hF1
        replace st := st.below hb
        replace kO0 := (hb.block _ (blk_lt kO0)).trans kO0
        have hbc := hb
        replace B2 := Rw.next B2 hb
        have sC := hb.size
        refine ⟨_, rfl, st, fun hHeld => ?_⟩
        simp only [Act.put, List.setIfInBounds_toArray, List.set_cons_zero, List.set_cons_succ]
        refine Hn.take (i := 5) (d := some 18) (v := .agg #[.string xs, .int .i64 xr, .slice ra1 F1.length rc1]) rfl (by kernel_rfl) (by kernel_rfl) (by kernel_rfl) (by kernel_rfl) (fun _ _ _ h => h) (Or.inl ⟨by rfl, by intro w hSw; go_simp⟩) hHeld ?_
        simp only [Act.put, List.setIfInBounds_toArray, List.set_cons_zero, List.set_cons_succ]
        refine wpAnyH_ready (rs := [1, 6]) (by kernel_rfl) (by simp) (Hn.readyRun (i := 1) rfl (by kernel_rfl) (some 14) (by kernel_rfl) (v := v) (w' := Wc) (by have o0 := Pl.one kO0; go_simp) st (fun hHeld => ?_) (Hn.readyRun (i := 6) rfl (by kernel_rfl) (some 19) (by kernel_rfl) (v := .slice (some ⟨Wc.heap.size, 0, none⟩) 1 1) (w' := Wc.alloc (.cells #[.string xs, .int .i64 xr, .slice ra1 F1.length rc1] 113)) (St.exec_oneN rfl (by kernel_rfl)) (st.below (below_alloc1 _ _)) (fun hHeld => ?_) AllReadyH.nil))
        · simp only [Act.put, List.setIfInBounds_toArray, List.set_cons_zero, List.set_cons_succ]
          refine wpAnyH_ready (rs := [6]) (by kernel_rfl) (by simp) (Hn.readyRun (i := 6) rfl (by kernel_rfl) (some 19) (by kernel_rfl) (v := .slice (some ⟨Wc.heap.size, 0, none⟩) 1 1) (w' := Wc.alloc (.cells #[.string xs, .int .i64 xr, .slice ra1 F1.length rc1] 113)) (St.exec_oneN rfl (by kernel_rfl)) (st.below (below_alloc1 _ _)) (fun hHeld => ?_) AllReadyH.nil)
          simp only [Act.put, List.setIfInBounds_toArray, List.set_cons_zero, List.set_cons_succ]
          obtain ⟨Wd, hWd⟩ : ∃ Wd, Wd = Wc.alloc (.cells #[.string xs, .int .i64 xr, .slice ra1 F1.length rc1] 113) := ⟨_, rfl⟩
          rw [← hWd] at hHeld ⊢
          have hT : Wd.heap[Wc.heap.size]? = some (.cells #[.string xs, .int .i64 xr, .slice ra1 F1.length rc1] 113 (0, 0)) := by subst hWd; exact at_new rfl
          have hb : Below Wc.heap.size Wc Wd := by subst hWd; exact below_alloc1 _ _
          have sD := hb.size
          replace st := st.below hb
          replace kO0 := (hb.block _ (blk_lt kO0)).trans kO0
          replace B2 := Rw.next B2 hb
          have hr2 := hr.below hb
          have hbd := Rw.next hbc hb
          clear hb hWd
          obtain ⟨v', Z, hrun, hosZ, hgr⟩ := hos0.app (x := ⟨xs, xr, ra1, rg1, 0, rc1, F1⟩) (c := 1) 36 hbd hr2 sD rfl hnm (by omega) hT hFl
          refine wpAnyH_ready (rs := [7]) (by kernel_rfl) (by simp) (Hn.readyRun (i := 7) rfl (by kernel_rfl) (some 20) (by kernel_rfl) (Hn.exec_app (.tmp 14) (.tmp 19) rfl (by kernel_rfl) (by kernel_rfl) hrun) (st.grown hgr) (fun hHeld => ?_) AllReadyH.nil)
          simp only [Act.put, List.setIfInBounds_toArray, List.set_cons_zero, List.set_cons_succ]
          replace st := st.grown hgr
          obtain ⟨va, vn, vc, hv⟩ := hosZ.slice
          subst hv
          have kOZ := (hgr.block _ (blk_lt kO0) (fun e => by have := (hos0.lt e.symm).1; omega)).trans kO0
          replace B2 := B2.grown hgr B2.size (fun k hk => by have := (hos0.lt hk).1; omega)
          have o0 := Pl.one kOZ
          have fO := Vl.free kOZ
          refine Hn.take (i := 8) (d := some 21) (v := .pointer (some ⟨w.heap.size + 1, 0, none⟩)) rfl (by kernel_rfl) (by kernel_rfl) (by kernel_rfl) (by kernel_rfl) (fun _ _ _ h => h) (Or.inl ⟨by rfl, by intro w hSw; go_simp⟩) hHeld ?_
          simp only [Act.put, List.setIfInBounds_toArray, List.set_cons_zero, List.set_cons_succ]
          refine wpAnyH_ready (rs := [9]) (by kernel_rfl) (by simp) (Hn.readySkip (i := 9) rfl (by kernel_rfl) none (by kernel_rfl) (w' := Z.setCell ⟨w.heap.size + 1, 0, none⟩ (.slice va vn vc)) (by go_simp) st.set (fun hHeld => ?_) AllReadyH.nil)
          simp only [Act.put, List.setIfInBounds_toArray, List.set_cons_zero, List.set_cons_succ]
          refine wpAnyH_done (by kernel_rfl) ?_ _
          have kO' : (Z.setCell ⟨w.heap.size + 1, 0, none⟩ (.slice va vn vc)).heap[w.heap.size + 1]? = some (.cells #[(.slice va vn vc)] 38 (0, 0)) := Sw.one_set kOZ
          have B1' : Below w.heap.size w (Z.setCell ⟨w.heap.size + 1, 0, none⟩ (.slice va vn vc)) := Vl.bset B2 hwo
          have hos' : St.OS (Z.setCell ⟨w.heap.size + 1, 0, none⟩ (.slice va vn vc)) B (.slice va vn vc) (F ++ [⟨xs, xr, ra1, rg1, 0, rc1, F1⟩]) := hosZ.keep (fun x _ hx => Below.heap_setCell _ _ _ _ (by simp; omega)) (by simp)
          replace st : Rl.Stab W2 (w.heap.size + 1) v (Z.setCell ⟨w.heap.size + 1, 0, none⟩ (.slice va vn vc)) := st.set
          go_wp2
          go_roundw
          case rel =>
            have hkeep : ∀ z, z < w.heap.size + 3 → z ≠ w.heap.size + 1 → (Z.setCell ⟨w.heap.size + 1, 0, none⟩ (.slice va vn vc)).heap[z]? = W2.heap[z]? := fun z hz hne => st.block z (by omega) hne (fun e => by have := (hos.lt e.symm).1; omega)
            refine ⟨_, cnt1, .slice va vn vc, F ++ [⟨xs, xr, ra1, rg1, 0, rc1, F1⟩], ranges_two hrg2 (hkeep b (by omega) (by omega)) (hkeep _ (by omega) (by omega)), B1', (hkeep _ (by omega) (by omega)).trans kR, kO', (by rw [← hB]; exact hos'), by have := st.size; simp at this ⊢; omega, ?_, by simp; omega, ?_⟩
            · exact HM.out ⟨xs, xr, ra1, rg1, 0, rc1, F1⟩ (by simp only [Nm.l]; rw [hl])
            · exact HA.out ⟨xs, xr, ra1, rg1, 0, rc1, F1⟩ rfl
          case measure =>
            have hkeep : ∀ z, z < w.heap.size + 3 → z ≠ w.heap.size + 1 → (Z.setCell ⟨w.heap.size + 1, 0, none⟩ (.slice va vn vc)).heap[z]? = W2.heap[z]? := fun z hz hne => st.block z (by omega) hne (fun e => by have := (hos.lt e.symm).1; omega)
            have q := ranges_two hrg2 (hkeep b (by omega) (by omega)) (hkeep _ (by omega) (by omega))
            rw [q.left_eq, hrg.left_eq]; exact hlt
        · simp only [Act.put, List.setIfInBounds_toArray, List.set_cons_zero, List.set_cons_succ]
          obtain ⟨Wd, hWd⟩ : ∃ Wd, Wd = Wc.alloc (.cells #[.string xs, .int .i64 xr, .slice ra1 F1.length rc1] 113) := ⟨_, rfl⟩
          rw [← hWd] at hHeld ⊢
          have hT : Wd.heap[Wc.heap.size]? = some (.cells #[.string xs, .int .i64 xr, .slice ra1 F1.length rc1] 113 (0, 0)) := by subst hWd; exact at_new rfl
          have hb : Below Wc.heap.size Wc Wd := by subst hWd; exact below_alloc1 _ _
          have sD := hb.size
          replace st := st.below hb
          replace kO0 := (hb.block _ (blk_lt kO0)).trans kO0
          replace B2 := Rw.next B2 hb
          have hr2 := hr.below hb
          have hbd := Rw.next hbc hb
          clear hb hWd
          refine wpAnyH_ready (rs := [1]) (by kernel_rfl) (by simp) (Hn.readyRun (i := 1) rfl (by kernel_rfl) (some 14) (by kernel_rfl) (v := v) (w' := Wd) (by have o0 := Pl.one kO0; go_simp) st (fun hHeld => ?_) AllReadyH.nil)
          simp only [Act.put, List.setIfInBounds_toArray, List.set_cons_zero, List.set_cons_succ]
          obtain ⟨v', Z, hrun, hosZ, hgr⟩ := hos0.app (x := ⟨xs, xr, ra1, rg1, 0, rc1, F1⟩) (c := 1) 36 hbd hr2 sD rfl hnm (by omega) hT hFl
          refine wpAnyH_ready (rs := [7]) (by kernel_rfl) (by simp) (Hn.readyRun (i := 7) rfl (by kernel_rfl) (some 20) (by kernel_rfl) (Hn.exec_app (.tmp 14) (.tmp 19) rfl (by kernel_rfl) (by kernel_rfl) hrun) (st.grown hgr) (fun hHeld => ?_) AllReadyH.nil)
          simp only [Act.put, List.setIfInBounds_toArray, List.set_cons_zero, List.set_cons_succ]
          replace st := st.grown hgr
          obtain ⟨va, vn, vc, hv⟩ := hosZ.slice
          subst hv
          have kOZ := (hgr.block _ (blk_lt kO0) (fun e => by have := (hos0.lt e.symm).1; omega)).trans kO0
          replace B2 := B2.grown hgr B2.size (fun k hk => by have := (hos0.lt hk).1; omega)
          have o0 := Pl.one kOZ
          have fO := Vl.free kOZ
          refine Hn.take (i := 8) (d := some 21) (v := .pointer (some ⟨w.heap.size + 1, 0, none⟩)) rfl (by kernel_rfl) (by kernel_rfl) (by kernel_rfl) (by kernel_rfl) (fun _ _ _ h => h) (Or.inl ⟨by rfl, by intro w hSw; go_simp⟩) hHeld ?_
          simp only [Act.put, List.setIfInBounds_toArray, List.set_cons_zero, List.set_cons_succ]
          refine wpAnyH_ready (rs := [9]) (by kernel_rfl) (by simp) (Hn.readySkip (i := 9) rfl (by kernel_rfl) none (by kernel_rfl) (w' := Z.setCell ⟨w.heap.size + 1, 0, none⟩ (.slice va vn vc)) (by go_simp) st.set (fun hHeld => ?_) AllReadyH.nil)
          simp only [Act.put, List.setIfInBounds_toArray, List.set_cons_zero, List.set_cons_succ]
          refine wpAnyH_done (by kernel_rfl) ?_ _
          have kO' : (Z.setCell ⟨w.heap.size + 1, 0, none⟩ (.slice va vn vc)).heap[w.heap.size + 1]? = some (.cells #[(.slice va vn vc)] 38 (0, 0)) := Sw.one_set kOZ
          have B1' : Below w.heap.size w (Z.setCell ⟨w.heap.size + 1, 0, none⟩ (.slice va vn vc)) := Vl.bset B2 hwo
          have hos' : St.OS (Z.setCell ⟨w.heap.size + 1, 0, none⟩ (.slice va vn vc)) B (.slice va vn vc) (F ++ [⟨xs, xr, ra1, rg1, 0, rc1, F1⟩]) := hosZ.keep (fun x _ hx => Below.heap_setCell _ _ _ _ (by simp; omega)) (by simp)
          replace st : Rl.Stab W2 (w.heap.size + 1) v (Z.setCell ⟨w.heap.size + 1, 0, none⟩ (.slice va vn vc)) := st.set
          go_wp2
          go_roundw
          case rel =>
            have hkeep : ∀ z, z < w.heap.size + 3 → z ≠ w.heap.size + 1 → (Z.setCell ⟨w.heap.size + 1, 0, none⟩ (.slice va vn vc)).heap[z]? = W2.heap[z]? := fun z hz hne => st.block z (by omega) hne (fun e => by have := (hos.lt e.symm).1; omega)
            refine ⟨_, cnt1, .slice va vn vc, F ++ [⟨xs, xr, ra1, rg1, 0, rc1, F1⟩], ranges_two hrg2 (hkeep b (by omega) (by omega)) (hkeep _ (by omega) (by omega)), B1', (hkeep _ (by omega) (by omega)).trans kR, kO', (by rw [← hB]; exact hos'), by have := st.size; simp at this ⊢; omega, ?_, by simp; omega, ?_⟩
            · exact HM.out ⟨xs, xr, ra1, rg1, 0, rc1, F1⟩ (by simp only [Nm.l]; rw [hl])
            · exact HA.out ⟨xs, xr, ra1, rg1, 0, rc1, F1⟩ rfl
          case measure =>
            have hkeep : ∀ z, z < w.heap.size + 3 → z ≠ w.heap.size + 1 → (Z.setCell ⟨w.heap.size + 1, 0, none⟩ (.slice va vn vc)).heap[z]? = W2.heap[z]? := fun z hz hne => st.block z (by omega) hne (fun e => by have := (hos.lt e.symm).1; omega)
            have q := ranges_two hrg2 (hkeep b (by omega) (by omega)) (hkeep _ (by omega) (by omega))
            rw [q.left_eq, hrg.left_eq]; exact hlt

end Go.Proofs.YtljlgjgfmgilaaaGreat.Mp

