/-
  What is sent: a slice of the call's own of ports and heads, each head in a row of its own; append of one more.
-/
import Derived.Test.YtkakdldhinimoaaYi
import Derived.Test.YtkakdldhinimoaaLn
import Derived.Test.YtkakdldhinimoaaYg
namespace Go.Proofs.Ytkakdldhinimoaa.Yh
set_option maxRecDepth 8000
open Go Go.RowKit
open Num Pl Hr Hh Pq Ht

/-- The block g is a row of the call's own that begins with the integers l. -/
structure Own (w : World) (g : Nat) (l : List Int) : Prop where
  row : ∃ cur : Array Value, w.heap[g]? = some (.cells cur 3 (0, 0)) ∧ ∀ i, i < l.length → cur[i]? = some (.int .i64 (l.getD i 0))
  size : l.length ≤ 4194304

theorem own_mine {w : World} {g : Nat} {l : List Int} (h : Mine w g l) : Own w g l := by
  obtain ⟨⟨c, hb, hn, hc⟩, hs⟩ := h
  exact ⟨⟨c, hb, hc⟩, hs⟩
theorem own_has {w : World} {B : Nat} {v : Value} {l : List Int} (h : HasN w B v l) (hs : l.length ≤ 4194304) :
    ∃ g cap, v = .slice (some ⟨g, 0, none⟩) l.length cap ∧ B ≤ g ∧ Own w g l ∧ l.length ≤ cap := by
  rcases h.1.2 with ⟨rfl, _⟩ | ⟨g, cap, cur, rfl, hb, hh, hn, _, _, ht⟩
  · exact absurd rfl h.2
  · refine ⟨g, cap, rfl, hb, ⟨⟨cur, hh, fun i hi => ?_⟩, hs⟩, hn⟩
    have e : (cur.toList.take (l.length * 1))[i]? = (l.map (Value.int .i64))[i]? := by rw [ht]
    rw [List.getElem?_take, if_pos (by omega)] at e
    rw [← Array.getElem?_toList, e]
    simp [List.getD, hi]
theorem Own.lt {w : World} {g : Nat} {l : List Int} (h : Own w g l) : g < w.heap.size := by
  obtain ⟨⟨c, hb, _⟩, _⟩ := h
  exact (Array.getElem?_eq_some_iff.1 hb).1
theorem Own.of_block {w w' : World} {g : Nat} {l : List Int} (h : Own w g l) (e : w'.heap[g]? = w.heap[g]?) : Own w' g l := by
  obtain ⟨⟨c, hb, hc⟩, hs⟩ := h
  exact ⟨⟨c, e.trans hb, hc⟩, hs⟩
theorem Own.below {w w' : World} {g : Nat} {l : List Int} (h : Own w g l) (hb : Below w.heap.size w w') : Own w' g l := h.of_block (hb.block g h.lt)
theorem Own.wt {w : World} {g : Nat} {l : List Int} (h : Own w g l) : Wt w (some ⟨g, 0, none⟩) g l := by
  obtain ⟨⟨c, hb, hc⟩, hs⟩ := h
  exact ⟨fun _ => rfl, fun i hi => by simp [World.cell?, hb, hc i hi], fun i _ => by simp [World.frozen?, hb], hs⟩
theorem Own.rd {w : World} {g : Nat} {l : List Int} (h : Own w g l) : Rd w (some ⟨g, 0, none⟩) g 0 l := h.wt.rd

/-- One thing that is sent: its port, its head, the head's block and room. -/
structure E where
  p : Int
  l : List Int
  g : Nat
  c : Nat
def E.cells (e : E) : List Value := [.int .i64 e.p, .slice (some ⟨e.g, 0, none⟩) e.l.length e.c]
def flat (Q : List E) : List Value := Q.flatMap E.cells
def said (Q : List E) : List (Int × List Int) := Q.map fun e => (e.p, e.l)
theorem flat_len (Q : List E) : (flat Q).length = Q.length * 2 := by
  induction Q with
  | nil => rfl
  | cons e Q ih => simp only [flat, List.flatMap_cons, List.length_append, List.length_cons] at ih ⊢; rw [ih]; simp [E.cells]; omega

/-- A slice of the call's own (from block B on) that holds what is sent. -/
structure Sn (w : World) (B : Nat) (v : Value) (Q : List E) : Prop where
  own : w.ownsRow B 56 2 v Q.length (flat Q)
  row : ∀ e ∈ Q, Own w e.g e.l ∧ B ≤ e.g ∧ e.l.length = 8
  diff : Q.Pairwise (fun a b => a.g ≠ b.g)

theorem own_ne {w : World} {B : Nat} {v : Value} {n g : Nat} {xs : List Value} {l : List Int} (h : w.ownsRow B 56 2 v n xs) (hg : Own w g l) : some g ≠ v.ownBlock := by
  rcases h.2 with ⟨rfl, _⟩ | ⟨k, cap, cur, rfl, _, hk, _⟩
  · simp [Value.ownBlock]
  · intro e
    simp only [Value.ownBlock, Option.some.injEq] at e
    subst e
    obtain ⟨⟨c, hb, _⟩, _⟩ := hg
    rw [hk] at hb
    injection hb with hb
    injection hb with _ hb _
    exact absurd hb (by decide)
theorem Sn.nil (w : World) (B : Nat) : Sn w B (.slice none 0 0) [] := ⟨World.ownsRow_nil w B 56 2, fun _ h => (by cases h), List.Pairwise.nil⟩
theorem Sn.keep {w w' : World} {B : Nat} {v : Value} {Q : List E} (h : Sn w B v Q) (hk : ∀ (k : Nat) (cur : Array Value) (t : TypeId), w.heap[k]? = some (Obj.cells cur t (0, 0)) → t = 56 ∨ t = 3 → w'.heap[k]? = w.heap[k]?) : Sn w' B v Q := by
  refine ⟨⟨h.own.1, ?_⟩, fun e he => ?_, h.diff⟩
  · rcases h.own.2 with ⟨e1, e2⟩ | ⟨g, cap, cur, e1, hb, hg, rest⟩
    · exact .inl ⟨e1, e2⟩
    · exact .inr ⟨g, cap, cur, e1, hb, (hk g cur 56 hg (.inl rfl)).trans hg, rest⟩
  · obtain ⟨ho, h1, h2⟩ := h.row e he
    obtain ⟨⟨c, hb, _⟩, _⟩ := id ho
    exact ⟨ho.of_block (hk e.g c 3 hb (.inr rfl)), h1, h2⟩
theorem Sn.below {w w' : World} {B : Nat} {v : Value} {Q : List E} (h : Sn w B v Q) (hb : Below w.heap.size w w') : Sn w' B v Q :=
  h.keep fun k _ _ hk _ => hb.block k (Array.getElem?_eq_some_iff.1 hk).1
theorem Sn.lt {w : World} {B : Nat} {v : Value} {Q : List E} (h : Sn w B v Q) {e : E} (he : e ∈ Q) : e.g < w.heap.size := (h.row e he).1.lt

theorem info56 : (Try.prog.info? 56).map (fun i => (i.zero, i.size, i.bytes)) = some (some (.agg #[.int .i64 0, .slice none 0 0]), 2, 32) := by kernel_rfl

/-- What an append of one more leaves. -/
structure App (w : World) (B : Nat) (v : Value) (Q : List E) (e : E) (v' : Value) (w' : World) : Prop where
  sn : Sn w' B v' (Q ++ [e])
  grow : w.grownBy w' v.ownBlock

theorem app_run {w : World} {B T c : Nat} {v : Value} {Q : List E} {e : E} (ty : TypeId) (h : Sn w B v Q) (hT : w.heap[T]? = some (.cells #[.int .i64 e.p, .slice (some ⟨e.g, 0, none⟩) e.l.length e.c] 56 (0, 0)))
    (he : Own w e.g e.l) (hge : B ≤ e.g) (h8 : e.l.length = 8) (hnew : ∀ q ∈ Q, q.g ≠ e.g) (hlen : Q.length ≤ 4096) (hB : B ≤ w.heap.size) :
    ∃ v' w', (Builtin.append_ #[39, 39] ty #[v, .slice (some ⟨T, 0, none⟩) 1 c]).run Try.prog w = .ok v' w' ∧ App w B v Q e v' w' := by
  obtain ⟨i, hi, hzz⟩ := Option.map_eq_some_iff.1 info56
  simp only [Prod.mk.injEq] at hzz
  obtain ⟨hz, hs, hby⟩ := hzz
  obtain ⟨v', w', hr, h1, h2, h3⟩ := run_append_own (P := Try.prog) w B 39 ty 56 i (.agg #[.int .i64 0, .slice none 0 0]) 2 32 Try.underlying39 hi hz hs hby rfl (by decide) v Q.length (flat Q) h.own ⟨T, 0, none⟩ 1 c e.cells rfl
    (by
      intro j u hj
      have hjl : j < 2 := by have := (List.getElem?_eq_some_iff.1 hj).1; simpa [E.cells] using this
      rw [Yb.add_eq, Nat.zero_add]
      match j, hjl with
      | 0, _ => simp [E.cells] at hj; subst hj; simp [World.cell?, hT]
      | 1, _ => simp [E.cells] at hj; subst hj; simp [World.cell?, hT])
    (by intro u hu; simp [E.cells] at hu; rcases hu with rfl | rfl <;> rfl) (by unfold maxLen; omega) (by omega) hB
  refine ⟨v', w', hr, ⟨⟨?_, ?_, ?_⟩, h2⟩⟩
  · have e1 : flat (Q ++ [e]) = flat Q ++ e.cells := by simp [flat]
    rw [e1]; simpa using h1
  · intro q hq
    rcases List.mem_append.1 hq with hq | hq
    · obtain ⟨ho, a1, a2⟩ := h.row q hq
      exact ⟨ho.of_block (h2.block _ ho.lt (own_ne h.own ho)), a1, a2⟩
    · obtain rfl := List.mem_singleton.1 hq
      exact ⟨he.of_block (h2.block _ he.lt (own_ne h.own he)), hge, h8⟩
  · rw [List.pairwise_append]
    refine ⟨h.diff, List.pairwise_singleton _ _, fun a ha b hb => ?_⟩
    obtain rfl := List.mem_singleton.1 hb
    exact hnew a ha

theorem grown_below {w w' : World} {B n : Nat} {v : Value} {xs : List Value} (h : w.ownsRow B 56 2 v n xs) (hg : w.grownBy w' v.ownBlock) (hB : B ≤ w.heap.size) : Below B w w' :=
  (Below.refl B w).grown hg hB (fun k hk => (h.lt k hk).1)

/-- A step of a region that draws its order, by what it runs to. -/
theorem readyRun {md : Region.Mode} {ops : Array Oper} {Q : Exit → Act → World → Prop} {S : World → Prop} {fuel : Nat} {listed : Array Bool} {a : Act} {w : World} {i : Nat} {o : Oper} {rs : List Nat} (hi : ops[i]? = some o) (hw : Region.wanted o (yielded ops a.tmps) = true)
    (d : Option Tmp) (hd : o.dst = d) {v : Value} {w' : World} (hr : (execOp a.eval o).run Try.prog w = .ok (.value v) w') (hS : S w')
    (hk : S w' → wpAnyH Try.prog md ops Q S fuel (listed.setIfInBounds i true) (a.put d v) w')
    (hs : AllReadyH Try.prog md ops Q S fuel listed a w rs) : AllReadyH Try.prog md ops Q S fuel listed a w (i :: rs) :=
  AllReadyH.cons hi (fun K hK => by
    rw [if_pos hw]
    unfold Oper.wp
    rw [hr]
    exact hK.out _ _ hS (fun hs' => by rw [hd]; exact hk hs')) hs
theorem readySkip {md : Region.Mode} {ops : Array Oper} {Q : Exit → Act → World → Prop} {S : World → Prop} {fuel : Nat} {listed : Array Bool} {a : Act} {w : World} {i : Nat} {o : Oper} {rs : List Nat} (hi : ops[i]? = some o) (hw : Region.wanted o (yielded ops a.tmps) = true)
    (d : Option Tmp) (hd : o.dst = d) {w' : World} (hr : (execOp a.eval o).run Try.prog w = .ok .skip w') (hS : S w')
    (hk : S w' → wpAnyH Try.prog md ops Q S fuel (listed.setIfInBounds i true) (a.put d undef) w')
    (hs : AllReadyH Try.prog md ops Q S fuel listed a w rs) : AllReadyH Try.prog md ops Q S fuel listed a w (i :: rs) :=
  AllReadyH.cons hi (fun K hK => by
    rw [if_pos hw]
    unfold Oper.wp
    rw [hr]
    exact hK.out _ _ hS (fun hs' => by rw [hd]; exact hk hs')) hs

/-- A copy of integers in a row of the call's own. -/
theorem eql_nil (w : World) : (binOp BinOp.eql 22 (.slice none 0 0) (.slice none 0 0)).run Try.prog w = .ok (.bool true) w := by kernel_rfl
theorem eql_some (ad : Addr) (n c : Nat) (w : World) : (binOp BinOp.eql 22 (.slice (some ad) n c) (.slice none 0 0)).run Try.prog w = .ok (.bool false) w := by kernel_rfl
set_option maxHeartbeats 1000000 in
theorem clone_any (b off cap n : Nat) (l : List Int) (w : World) (h : Rd w (some ⟨b, off, none⟩) b off l) (hn : l.length = n) :
    Calls Try.prog 113 #[.slice (some ⟨b, off, none⟩) n cap] w fun e w' => ∃ g c, e = .returned (.slice (some ⟨g, 0, none⟩) n c) ∧ Own w' g l ∧ w.heap.size ≤ g ∧ Below w.heap.size w w' := by
  subst hn
  have hs := h.size
  have B0 := below_alloc1 w (.cells #[] 3)
  have O0 := own_emptyN w
  have h0 := h.below B0
  have q0 := eql_some ⟨b, off, none⟩ l.length cap w
  go_enter Try.func113, Try.ntmps113
  go_wp2_with (at_builtin; refine wpList_appN rfl (.tmp 5) (.tmp 6) rfl w.heap.size _ [] l rfl O0 ⟨b, off, none⟩ b off cap rfl h0 (by simp; omega) (by simp) ?_; intro v' w' hown hgrow)
  go_ret
  have hB := below_own O0 B0 (Nat.le_refl _) hgrow
  obtain ⟨g, cap', rfl, hg, ho, _⟩ := own_has hown (by simpa using hs)
  simp only [List.nil_append] at ho
  exact ⟨g, cap', rfl, ho, hg, hB⟩

end Go.Proofs.Ytkakdldhinimoaa.Yh
