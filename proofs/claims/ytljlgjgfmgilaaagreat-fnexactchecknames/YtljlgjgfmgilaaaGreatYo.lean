/-
  Lists of the call's own that grow, of any kind of element: what hangs on the elements lies in blocks of other types.
-/
import Derived.Test.YtljlgjgfmgilaaaGreatPrb
import Derived.Laws.OwnMore
import Derived.Maps.AppendAt
namespace Go.Proofs.YtljlgjgfmgilaaaGreat.Pm
set_option maxRecDepth 8000
set_option linter.unusedSimpArgs false
set_option linter.unusedVariables false
open Go Go.ChangeShapes Go.WideShapes Go.RowKit
open Num Pl

section
variable {α L : Type} {K : Kd α L}
def cels (K : Kd α L) (T : List α) : List Value := (List.range (T.length * K.n)).map (flat K T)
theorem cels_len (T : List α) : (cels K T).length = T.length * K.n := by simp [cels]
theorem cels_at (T : List α) {j : Nat} (h : j < T.length * K.n) : (cels K T)[j]? = some (flat K T j) := by simp [cels, h]
theorem flat_app {T : List α} {x : α} {j : Nat} (h : j < T.length * K.n) : flat K (T ++ [x]) j = flat K T j := by
  unfold flat
  rw [getD_app, if_neg]
  have := Nat.div_lt_of_lt_mul (show j < K.n * T.length by rw [Nat.mul_comm]; exact h)
  omega
theorem cels_app (T : List α) (x : α) : cels K (T ++ [x]) = cels K T ++ (List.range K.n).map (K.val x) := by
  unfold cels
  have el : (T ++ [x]).length * K.n = T.length * K.n + K.n := by simp [Nat.add_mul]
  rw [el, List.range_add, List.map_append, List.map_map]
  congr 1
  · exact List.map_congr_left fun j hj => flat_app (List.mem_range.1 hj)
  · refine List.map_congr_left fun j hj => ?_
    have := List.mem_range.1 hj
    rw [Function.comp_apply, flat_at _ _ _ this, getD_app, if_pos rfl]

/-- What hangs on an element: the blocks of its rows and their types. -/
structure Hg (K : Kd α L) where
  hang : α → List (Nat × TypeId)
  keepH : ∀ {w w' : World} {x : α}, K.ok 0 w x → (∀ p ∈ hang x, w'.heap[p.1]? = w.heap[p.1]?) → K.ok 0 w' x
end
section
variable {α L : Type} {K : Kd α L} {G : Hg K}
/-- The elements' rows stand in blocks from B on, of the types that are told. -/
def Hung (G : Hg K) (w : World) (B : Nat) (x : α) : Prop := ∀ p ∈ G.hang x, B ≤ p.1 ∧ ∃ cs, w.heap[p.1]? = some (.cells cs p.2 (0, 0))
/-- A list of the call's own, in blocks from B on. -/
structure OL (G : Hg K) (ty : TypeId) (w : World) (B : Nat) (v : Value) (T : List α) : Prop where
  own : w.ownsRow B ty K.n v T.length (cels K T)
  ok : ∀ x ∈ T, K.ok 0 w x
  hung : ∀ x ∈ T, Hung G w B x
  ne : ∀ x ∈ T, ∀ p ∈ G.hang x, p.2 ≠ ty
variable {ty : TypeId} {w w' : World} {B : Nat} {v : Value} {T : List α}
theorem OL.nil (ty : TypeId) (w : World) (B : Nat) : OL G ty w B (.slice none 0 0) ([] : List α) := ⟨by simpa [cels] using World.ownsRow_nil w B ty K.n, fun _ h => by simp at h, fun _ h => by simp at h, fun _ h => by simp at h⟩
theorem OL.lt (h : OL G ty w B v T) {k : Nat} (hk : v.ownBlock = some k) : B ≤ k ∧ k < w.heap.size := h.own.lt k hk
theorem OL.keep (h : OL G ty w B v T) (hk : ∀ x, x < w.heap.size → B ≤ x → w'.heap[x]? = w.heap[x]?) : OL G ty w' B v T := by
  refine ⟨⟨h.own.1, ?_⟩, fun x hx => G.keepH (h.ok x hx) fun p hp => ?_, fun x hx p hp => ?_, h.ne⟩
  · rcases h.own.2 with h0 | ⟨g, cap, cur, rfl, hb, hg, rest⟩
    · exact .inl h0
    · exact .inr ⟨g, cap, cur, rfl, hb, (hk g (blk_lt hg) hb).trans hg, rest⟩
  · obtain ⟨h1, cs, h2⟩ := h.hung x hx p hp
    exact hk _ (blk_lt h2) h1
  · obtain ⟨h1, cs, h2⟩ := h.hung x hx p hp
    exact ⟨h1, cs, (hk _ (blk_lt h2) h1).trans h2⟩
theorem OL.below (h : OL G ty w B v T) (hb : Below w.heap.size w w') : OL G ty w' B v T := h.keep fun x hx _ => hb.block x hx
theorem own_ne {n x : Nat} {e : Nat} {xs : List Value} (h : w.ownsRow B ty e v n xs) {cs : Array Value} {t : TypeId} {fr : Nat × Nat} (k : w.heap[x]? = some (.cells cs t fr)) (ht : t ≠ ty) : some x ≠ v.ownBlock := by
  intro q
  rcases h.2 with ⟨rfl, _⟩ | ⟨g1, cap, cur, rfl, _, h1, _⟩
  · cases q
  · simp only [Value.ownBlock, Option.some.injEq] at q
    subst q
    rw [k] at h1
    simp only [Option.some.injEq, Obj.cells.injEq] at h1
    exact ht h1.2.1
/-- One more element: the list grows, all else stays. -/
theorem OL.app (h : OL G ty w B v T) {tyS : TypeId} {bytes : Nat} {z : Value} (hu : Tryz.prog.underlying tyS = some (.slice ty)) (hi : (Tryz.prog.info? ty).map (fun i => (i.zero, i.size, i.bytes)) = some (some z, K.n, bytes)) (hb : bytes ≤ 200) (x : α) (hx : K.ok 0 w x) (hH : Hung G w B x) (hn : ∀ p ∈ G.hang x, p.2 ≠ ty)
    {R c : Nat} (hT : ∀ j, j < K.n → w.cell? ⟨R, j, none⟩ = some (K.val x j)) (hB : B ≤ w.heap.size) (hl : T.length ≤ 100000) (hz : z.cells.size = K.n) (hval : ∀ j, j < K.n → (K.val x j).oneCell' = true) :
    ∃ v' w', (Builtin.append_ #[tyS, tyS] tyS #[v, .slice (some ⟨R, 0, none⟩) 1 c]).run Tryz.prog w = .ok v' w' ∧ OL G ty w' B v' (T ++ [x]) ∧ w.grownBy w' v.ownBlock := by
  obtain ⟨i, hi', hzz⟩ := Option.map_eq_some_iff.1 hi
  simp only [Prod.mk.injEq] at hzz
  obtain ⟨h1, h2, h3⟩ := hzz
  obtain ⟨v', w', hrun, g1, g2, _, _⟩ := run_append_own_at (P := Tryz.prog) (w := w) B tyS tyS ty i z K.n bytes hu hi' h1 h2 h3 hz K.pos v T.length (cels K T) h.own ⟨R, 0, none⟩ 1 c ((List.range K.n).map (K.val x)) (by simp)
    (fun j u hj => by
      have hjn : j < K.n := by have := (List.getElem?_eq_some_iff.1 hj).1; simpa using this
      rw [add_eq, Nat.zero_add, hT j hjn]
      simpa [hjn] using hj)
    (fun u hu => by
      obtain ⟨j, hj, rfl⟩ := List.mem_map.1 hu
      exact hval j (List.mem_range.1 hj))
    (by unfold maxLen; omega) (by have : (T.length + 1) * bytes ≤ 100001 * 200 := Nat.mul_le_mul (by omega) hb; omega) hB
  have hk : ∀ y, K.ok 0 w y → Hung G w B y → (∀ p ∈ G.hang y, p.2 ≠ ty) → K.ok 0 w' y ∧ Hung G w' B y := fun y ho hh hne =>
    ⟨G.keepH ho fun p hp => by
      obtain ⟨_, cs, h2⟩ := hh p hp
      exact g2.block _ (blk_lt h2) (own_ne h.own h2 (hne p hp)), fun p hp => by
      obtain ⟨h1, cs, h2⟩ := hh p hp
      exact ⟨h1, cs, (g2.block _ (blk_lt h2) (own_ne h.own h2 (hne p hp))).trans h2⟩⟩
  refine ⟨v', w', hrun, ⟨by rw [cels_app]; simpa using g1, fun y hy => ?_, fun y hy => ?_, fun y hy => ?_⟩, g2⟩
  · rcases List.mem_append.1 hy with hy | hy
    · exact (hk y (h.ok y hy) (h.hung y hy) (h.ne y hy)).1
    · obtain rfl := List.mem_singleton.1 hy
      exact (hk y hx hH hn).1
  · rcases List.mem_append.1 hy with hy | hy
    · exact (hk y (h.ok y hy) (h.hung y hy) (h.ne y hy)).2
    · obtain rfl := List.mem_singleton.1 hy
      exact (hk y hx hH hn).2
  · rcases List.mem_append.1 hy with hy | hy
    · exact h.ne y hy
    · obtain rfl := List.mem_singleton.1 hy
      exact hn
/-- Such a list reads as a slice. -/
theorem OL.form (h : OL G ty w B v T) (hl : T.length ≤ 100000) : ∃ s : Sl α, v = .slice s.a s.Q.length s.c ∧ s.Q = T ∧ Rd K 0 w s ∧ (0 < T.length → B ≤ s.b ∧ ∃ cs, w.heap[s.b]? = some (.cells cs ty (0, 0))) := by
  rcases h.own.2 with ⟨rfl, e⟩ | ⟨g, cap, cur, rfl, hb, hh, hn, hm, hz, ht⟩
  · have : T = [] := List.eq_nil_of_length_eq_zero e
    subst this
    exact ⟨Sl.nil, rfl, rfl, rd_nil _ _ _ _ _ _, fun h => by simp at h⟩
  · refine ⟨⟨some ⟨g, 0, none⟩, g, 0, cap, T⟩, rfl, rfl, ⟨fun _ => rfl, fun _ => Nat.zero_le _, fun i hi j hj => ?_, fun i hi => ?_, by unfold maxLen; simp only; omega, by simp only; omega, fun q => absurd rfl q⟩, fun _ => ⟨hb, cur, hh⟩⟩
    · simp only at hi ⊢
      have hlt : i * K.n + j < T.length * K.n := by
        have h1 : (i + 1) * K.n ≤ T.length * K.n := Nat.mul_le_mul_right _ (by omega)
        rw [Nat.succ_mul] at h1
        omega
      have e : (cur.toList.take (T.length * K.n))[i * K.n + j]? = (cels K T)[i * K.n + j]? := by rw [ht]
      rw [List.getElem?_take, if_pos hlt, cels_at T hlt, flat_at _ _ _ hj] at e
      rw [Nat.zero_add]
      simp only [World.cell?, hh]
      rw [← Array.getElem?_toList]; exact e
    · simp only at hi ⊢
      refine h.ok _ ?_
      have e : T.getD i K.z = T[i] := by simp [List.getD, hi]
      rw [e]; exact List.getElem_mem hi
end

def hgTm : Hg kdTm where
  hang := fun _ => []
  keepH := fun h _ => h
def hgDc : Hg kdDc where
  hang := fun _ => []
  keepH := fun h _ => h
/-- Where a slice's own row lies. -/
def rowOf {α : Type} (s : Sl α) (t : TypeId) : List (Nat × TypeId) := if s.Q.length = 0 then [] else [(s.b, t)]
theorem rowOf_pos {α : Type} {s : Sl α} {t : TypeId} (h : 0 < s.Q.length) : (s.b, t) ∈ rowOf s t := by unfold rowOf; rw [if_neg (by omega)]; simp
theorem rd_flat {α L : Type} {K : Kd α L} {w w' : World} {s : Sl α} (h : Rd K 0 w s) (t : TypeId) (hk : ∀ p ∈ rowOf s t, w'.heap[p.1]? = w.heap[p.1]?) (ho : ∀ i, i < s.Q.length → K.ok 0 w' (s.Q.getD i K.z)) : Rd K 0 w' s :=
  ⟨h.head, h.blk, fun i hi j hj => (World.cell?_of_block (by exact hk (s.b, t) (rowOf_pos (by omega)))).trans (h.cell i hi j hj), ho, h.len, h.room, fun q => absurd rfl q⟩
theorem getD_mem {α L : Type} {K : Kd α L} {Q : List α} {i : Nat} (hi : i < Q.length) : Q.getD i K.z ∈ Q := by
  have e : Q.getD i K.z = Q[i] := by simp [List.getD, hi]
  rw [e]; exact List.getElem_mem hi
def hgLm : Hg kdLm where
  hang := fun x => rowOf x.h.A 94
  keepH := fun h hk => ⟨⟨h.1.1, rd_flat h.1.2 _ hk (fun i hi => h.1.2.ok i hi)⟩, h.2⟩
def hgRm : Hg kdRm where
  hang := fun x => rowOf x.h.A 94 ++ (rowOf x.B 96 ++ x.B.Q.flatMap hgLm.hang)
  keepH := fun {w w' x} h hk => ⟨⟨h.1.1, rd_flat h.1.2 _ (fun p hp => hk p (List.mem_append.2 (.inl hp))) (fun i hi => h.1.2.ok i hi)⟩, rd_flat h.2 _ (fun p hp => hk p (List.mem_append.2 (.inr (List.mem_append.2 (.inl hp))))) (fun i hi => hgLm.keepH (h.2.ok i hi) fun p hp => hk p (List.mem_append.2 (.inr (List.mem_append.2 (.inr (List.mem_flatMap.2 ⟨_, getD_mem hi, hp⟩))))))⟩

end Go.Proofs.YtljlgjgfmgilaaaGreat.Pm
