/-
  The specification's Perform.
-/
import Derived.Test.YtkakdldhinimoaaYl
namespace Go.Proofs.Ytkakdldhinimoaa.Ym
set_option maxRecDepth 8000
set_option linter.unusedSimpArgs false
open Go Go.RowKit
open Num Pl Hr Hh Pq Ht Yh Yj Yk Yl Yb Yc Yd

theorem blk_ne' {w : World} {B n P : Nat} {v : Value} {xs : List Value} {cs : Array Value} {t : TypeId} (h : w.ownsRow B 56 2 v n xs) (hP : w.heap[P]? = some (.cells cs t (0, 0))) (ht : t ≠ 56) : some P ≠ v.ownBlock := by
  rcases h.2 with ⟨rfl, _⟩ | ⟨k, cap, cur, rfl, _, hk, _⟩
  · simp [Value.ownBlock]
  · intro e
    simp only [Value.ownBlock, Option.some.injEq] at e
    subst e
    rw [hk] at hP
    injection hP with hP
    injection hP with _ hP _
    exact absurd hP.symm ht

/-- The specification amid its actions: what is sent, and the head as it is now in a row of its own. -/
structure Sp (w : World) (B : Nat) (v : Value) (Q : List E) (gN : Nat) (now : List Int) : Prop where
  sn : Sn w B v Q
  own : Own w gN now
  hl : now.length = 8
  le : B ≤ gN
  ne : ∀ q ∈ Q, q.g ≠ gN

theorem Sp.below {w w' : World} {B gN : Nat} {v : Value} {Q : List E} {now : List Int} (h : Sp w B v Q gN now) (b : Below w.heap.size w w') : Sp w' B v Q gN now :=
  ⟨h.sn.below b, h.own.below b, h.hl, h.le, h.ne⟩
theorem sp_app {w w' : World} {B gN : Nat} {v v' : Value} {Q : List E} {now : List Int} {e : E} (h : Sp w B v Q gN now) (ha : App w B v Q e v' w') (he : e.g ≠ gN) : Sp w' B v' (Q ++ [e]) gN now := by
  refine ⟨ha.sn, h.own.of_block (ha.grow.block _ h.own.lt (own_ne h.sn.own h.own)), h.hl, h.le, fun q hq => ?_⟩
  rcases List.mem_append.1 hq with hq | hq
  · exact h.ne q hq
  · obtain rfl := List.mem_singleton.1 hq
    exact he
theorem own_set {w : World} {g F : Nat} {l : List Int} {x : Int} (h : Own w g l) : Own (w.setCell ⟨g, F, none⟩ (.int .i64 x)) g (l.set F x) := by
  obtain ⟨⟨c, hb, hc⟩, hs⟩ := h
  refine ⟨⟨c.setIfInBounds F (.int .i64 x), ?_, fun i hi => ?_⟩, by simpa using hs⟩
  · simp [World.setCell, Array.getElem?_modify, hb]
  · have hi' : i < l.length := by simpa using hi
    rw [set_at hi', Array.getElem?_setIfInBounds]
    have hci := hc i hi'
    have hic : i < c.size := by
      rcases Nat.lt_or_ge i c.size with h | h
      · exact h
      · rw [Array.getElem?_eq_none h] at hci; cases hci
    by_cases e : i = F
    · subst e; simp [hic]
    · rw [if_neg (fun q => e q.symm), if_neg e]; exact hci
theorem sp_set {w : World} {B gN F : Nat} {v : Value} {Q : List E} {now : List Int} {x : Int} (h : Sp w B v Q gN now) : Sp (w.setCell ⟨gN, F, none⟩ (.int .i64 x)) B v Q gN (now.set F x) := by
  have hv : ∀ k cur, w.heap[k]? = some (Obj.cells cur 56 (0, 0)) → k ≠ gN := by
    rintro k cur hk rfl
    obtain ⟨⟨c, hb, _⟩, _⟩ := h.own
    rw [hk] at hb
    injection hb with hb
    injection hb with _ hb _
    exact absurd hb (by decide)
  refine ⟨⟨⟨h.sn.own.1, ?_⟩, fun e he => ?_, h.sn.diff⟩, own_set h.own, by rw [List.length_set]; exact h.hl, h.le, h.ne⟩
  · rcases h.sn.own.2 with ⟨e1, e2⟩ | ⟨g, cap, cur, e1, hb, hg, rest⟩
    · exact .inl ⟨e1, e2⟩
    · exact .inr ⟨g, cap, cur, e1, hb, (Below.heap_setCell _ _ _ _ (hv g cur hg)).trans hg, rest⟩
  · obtain ⟨ho, h1, h2⟩ := h.sn.row e he
    exact ⟨ho.of_block (Below.heap_setCell _ _ _ _ (h.ne e he)), h1, h2⟩

theorem wpList_appS {ops : Array Oper} {rest : List Oper} {o : Oper} {a : Act} {w : World} {Q' : Exit → Act → World → Prop} (hgd : o.guard = none) (s x : Operand)
    (ho : o.op = .call { callee := .builtin .append, args := #[s, x], argTypes := #[39, 39] }) {B T c : Nat} {v : Value} {Q : List E} (e : E) (hs : a.eval s = v) (hx : a.eval x = .slice (some ⟨T, 0, none⟩) 1 c) (h : Sn w B v Q) (hT : w.heap[T]? = some (.cells #[.int .i64 e.p, .slice (some ⟨e.g, 0, none⟩) e.l.length e.c] 56 (0, 0)))
    (he : Own w e.g e.l) (hge : B ≤ e.g) (h8 : e.l.length = 8) (hnew : ∀ q ∈ Q, q.g ≠ e.g) (hlen : Q.length ≤ 4096) (hB : B ≤ w.heap.size)
    (hk : ∀ v' w', App w B v Q e v' w' → wpList Try.prog ops Q' rest (a.put o.dst v') w') : wpList Try.prog ops Q' (o :: rest) a w := by
  obtain ⟨v', w', hr, ha⟩ := app_run (c := c) o.type h hT he hge h8 hnew hlen hB
  exact wpList_plain hgd fun K hK => by
    unfold Oper.wp
    rw [exec_app s x ho hs hx hr]
    exact hK _ _ (hk v' w' ha)

/-- What an action sends to the first j ports. -/
def sends (hin : Int) (x : A3) (ports now : List Int) (j : Nat) : List (Int × List Int) := ((ports.take j).filter (fun p => decide (p ≠ hin ∧ (x.1 = 2 ∨ x.1 = 1 ∧ x.2.1 = p)))).map (fun p => (p, now))
theorem sends_step (hin : Int) (x : A3) (ports now : List Int) (j : Nat) (hj : j < ports.length) : sends hin x ports now (j + 1) = sends hin x ports now j ++ (if ports.getD j 0 ≠ hin ∧ (x.1 = 2 ∨ x.1 = 1 ∧ x.2.1 = ports.getD j 0) then [(ports.getD j 0, now)] else []) := by
  unfold sends
  rw [List.take_succ_eq_append_getElem hj, List.filter_append, List.map_append]
  have e : ports.getD j 0 = ports[j] := by simp [List.getD, hj]
  rw [e]
  by_cases h : ports[j] ≠ hin ∧ (x.1 = 2 ∨ x.1 = 1 ∧ x.2.1 = ports[j])
  · rw [if_pos h]; simp [h]
  · rw [if_neg h]; simp [h]
theorem sends_len (hin : Int) (x : A3) (ports now : List Int) (j : Nat) : (sends hin x ports now j).length ≤ j := by
  unfold sends
  rw [List.length_map]
  exact Nat.le_trans (List.length_filter_le _ _) (by simp; omega)
theorem filter_one {l : List Int} {a : Int} (hd : l.Nodup) (q : Int → Bool) : l.filter (fun p => q p && decide (a = p)) = if a ∈ l ∧ q a = true then [a] else [] := by
  induction l with
  | nil => simp
  | cons b l ih =>
    have hb := List.nodup_cons.1 hd
    by_cases e : a = b
    · subst e
      have hno : l.filter (fun p => q p && decide (a = p)) = [] := by
        rw [ih hb.2, if_neg (fun h => hb.1 h.1)]
      by_cases hq : q a = true
      · simp [List.filter_cons, hq, hno]
      · simp [List.filter_cons, hq, hno]
    · rw [List.filter_cons, if_neg (by simp [e]), ih hb.2]
      simp [e]
theorem nodup_ports {ports : List Int} (h : Ya.portsB ports = true) : ports.Nodup := by
  have hp := (of_decide_eq_true h).2
  have rise : ∀ i j, i < j → j < ports.length → ports.getD i 0 < ports.getD j 0 := by
    intro i j hij hj
    induction j with
    | zero => omega
    | succ j ih =>
      have h1 := (hp (j + 1) hj).2.2 (by omega)
      rw [Nat.add_sub_cancel] at h1
      by_cases e : i = j
      · subst e; exact h1
      · have := ih (by omega) (by omega); omega
  rw [List.nodup_iff_pairwise_ne, List.pairwise_iff_getElem]
  intro i j hi hj hij
  have := rise i j hij hj
  simp [List.getD, hi, hj] at this
  omega
theorem sends_all {hin : Int} {x : A3} {ports now : List Int} (h : Ya.portsB ports = true) : sends hin x ports now ports.length = goes hin ports now x := by
  unfold sends goes
  rw [List.take_length]
  by_cases h1 : x.1 = 1
  · rw [if_pos h1]
    have e : (fun p => decide (p ≠ hin ∧ (x.1 = 2 ∨ x.1 = 1 ∧ x.2.1 = p))) = fun p => decide (p ≠ hin) && decide (x.2.1 = p) := by
      funext p
      rw [h1]
      simp
    rw [e, filter_one (nodup_ports h)]
    by_cases hm : x.2.1 ∈ ports ∧ x.2.1 ≠ hin
    · rw [if_pos hm, if_pos ⟨hm.1, by simpa using hm.2⟩]; rfl
    · rw [if_neg hm, if_neg (fun q => hm ⟨q.1, by simpa using q.2⟩)]; rfl
  · rw [if_neg h1]
    by_cases h2 : x.1 = 2
    · rw [if_pos h2]
      simp [h2]
    · rw [if_neg h2]
      simp [h1, h2]

end Go.Proofs.Ytkakdldhinimoaa.Ym
