/-
  Maps from names to declarations: what a map holds, told as a list; its operations.
-/
import Derived.Test.YtljlgjgfmgilaaaGreatNa
import Derived.Maps.OwnSet
import Derived.Maps.RangeWalk
import Derived.Carry
import Derived.BigQuiet
namespace Go.Proofs.YtljlgjgfmgilaaaGreat.Nb
set_option maxRecDepth 8000
set_option linter.unusedSimpArgs false
set_option linter.unusedVariables false
open Go Go.ChangeShapes Go.WideShapes Go.RowKit
open Num Pl Pm Nq

def mkV (d : Dc) : Value := .agg #[.int .i64 d.k, .string d.s, .int .i64 d.ar]
def isE (v : Value) : Bool := match v with
  | .agg a => match a.toList with
    | [.int .i64 _, .string _, .int .i64 _] => true
    | _ => false
  | _ => false
theorem isE_mk (d : Dc) : isE (mkV d) = true := rfl
theorem isE_inv {v : Value} (h : isE v = true) : ∃ d, v = mkV d := by
  unfold isE at h
  split at h
  · rename_i a
    split at h
    · rename_i k s ar e
      exact ⟨⟨k, s, ar⟩, by unfold mkV; congr 1; exact Array.ext' e⟩
    · cases h
  · cases h
def elem (v : Value) : Option (DataW Value × List MemPlace) := if isE v = true then some (.held v, []) else none
theorem elem_mk (d : Dc) : elem (mkV d) = some (.held (mkV d), []) := by
  unfold elem; rw [if_pos (isE_mk d)]
theorem elem_inv {v : Value} {y : DataW Value × List MemPlace} (h : elem v = some y) : (∃ d, v = mkV d) ∧ y = (.held v, []) := by
  unfold elem at h
  split at h
  · rename_i hc; exact ⟨isE_inv hc, by simpa using h.symm⟩
  · cases h
theorem mkV_inj {c d : Dc} (h : mkV c = mkV d) : c = d := by
  obtain ⟨c1, c2, c3⟩ := c
  obtain ⟨d1, d2, d3⟩ := d
  simp only [mkV, Value.agg.injEq, Array.mk.injEq, List.cons.injEq, Value.int.injEq, Value.string.injEq, and_true, true_and] at h
  obtain ⟨h1, h2, h3⟩ := h
  subst h1 h2 h3; rfl
/-- A name as a key. -/
def lt (s : ByteArray) : Go.Lit := .string s.data.toList
theorem law : Maps.Keyed Tryz.prog 9 := Maps.string_keyed Tryz.underlying9
theorem key_mk {s : ByteArray} (hs : s.size ≤ maxLen) : keyOf Tryz.prog 9 (.string s) = some (lt s) := WideMaps.keyOf_string_mk Tryz.underlying9 hs
theorem key_inv {v : Value} {l : Go.Lit} (h : keyOf Tryz.prog 9 v = some l) : ∃ s : ByteArray, v = .string s ∧ l = lt s ∧ s.size ≤ maxLen := WideMaps.string_of_keyOf Tryz.underlying9 h
theorem lt_key {s : ByteArray} (hs : s.size ≤ maxLen) : WideAt.IsKeyLit (lt s) := law.key (key_mk hs)
theorem lt_inj {s t : ByteArray} (h : lt s = lt t) : s = t := by
  unfold lt at h
  injection h with h
  cases s; cases t
  simp only [ByteArray.mk.injEq]
  exact Array.ext' h

abbrev NV := Nv
structure Is (D : DataW Value) (L : List NV) : Prop where
  tidy : Maps.Tidy D
  apart : L.Pairwise (fun p q => p.1 ≠ q.1)
  str : ∀ p ∈ L, p.1.size ≤ maxLen
  has : ∀ l, Maps.has D l = true ↔ ∃ p ∈ L, lt p.1 = l
  at_ : ∀ p ∈ L, ∀ z, D.atKey (lt p.1) z = .held (mkV p.2)
  size : Maps.size D = L.length
theorem is_nil : Is (.map []) [] := ⟨Maps.tidy_empty, List.Pairwise.nil, fun p h => by simp at h, fun l => by simp [Maps.has], fun p h => by simp at h, rfl⟩
def putL (L : List NV) (p : NV) : List NV := L.filter (fun q => decide (q.1 ≠ p.1)) ++ [p]
theorem put_new {L : List NV} {p : NV} (h : ∀ q ∈ L, q.1 ≠ p.1) : putL L p = L ++ [p] := by
  unfold putL
  rw [List.filter_eq_self.2 (fun q hq => by simpa using h q hq)]
theorem strike_len : ∀ {L : List NV} (s : ByteArray), L.Pairwise (fun p q => p.1 ≠ q.1) → (L.filter (fun q => decide (q.1 ≠ s))).length + (if ∃ p ∈ L, p.1 = s then 1 else 0) = L.length
  | [], s, _ => by simp
  | x :: L, s, h => by
    obtain ⟨h1, h2⟩ := List.pairwise_cons.1 h
    have ih := strike_len s h2
    by_cases e : x.1 = s
    · have hn : ¬ ∃ p ∈ L, p.1 = s := fun ⟨p, hp, hq⟩ => h1 p hp (e.trans hq.symm)
      rw [if_neg hn] at ih
      rw [if_pos ⟨x, by simp, e⟩, List.filter_cons_of_neg (by simpa using e)]
      simp at ih ⊢; omega
    · have hi : (∃ p ∈ x :: L, p.1 = s) ↔ ∃ p ∈ L, p.1 = s := by
        constructor
        · rintro ⟨p, hp, hq⟩
          rcases List.mem_cons.1 hp with rfl | hp
          · exact absurd hq e
          · exact ⟨p, hp, hq⟩
        · rintro ⟨p, hp, hq⟩; exact ⟨p, by simp [hp], hq⟩
      rw [List.filter_cons_of_pos (by simpa using e)]
      simp only [hi, List.length_cons]; omega
theorem Is.put {D : DataW Value} {L : List NV} (h : Is D L) {p : NV} (hs : p.1.size ≤ maxLen) : Is (D.put (lt p.1) (.held (mkV p.2))) (putL L p) := by
  have hm := h.tidy.isMap
  have hk := lt_key hs
  refine ⟨h.tidy.put hk _, ?_, fun q hq => ?_, fun l => ?_, fun q hq z => ?_, ?_⟩
  · unfold putL
    rw [List.pairwise_append]
    refine ⟨h.apart.filter _, List.pairwise_singleton _ _, fun a ha b hb => ?_⟩
    simp at hb; subst hb
    simpa using (List.mem_filter.1 ha).2
  · unfold putL at hq
    rcases List.mem_append.1 hq with hq | hq
    · exact h.str q (List.mem_filter.1 hq).1
    · simp at hq; subst hq; exact hs
  · by_cases e : l = lt p.1
    · subst e
      rw [Maps.has_put_same hm hk]
      simp only [true_iff]
      exact ⟨p, by simp [putL], rfl⟩
    · rw [Maps.has_put_other e, h.has l]
      constructor
      · rintro ⟨q, hq, rfl⟩
        refine ⟨q, ?_, rfl⟩
        unfold putL
        refine List.mem_append_left _ (List.mem_filter.2 ⟨hq, ?_⟩)
        simp only [decide_eq_true_eq]
        rintro e'; exact e (by rw [e'])
      · rintro ⟨q, hq, rfl⟩
        unfold putL at hq
        rcases List.mem_append.1 hq with hq | hq
        · exact ⟨q, (List.mem_filter.1 hq).1, rfl⟩
        · simp at hq; subst hq; exact absurd rfl e
  · unfold putL at hq
    rcases List.mem_append.1 hq with hq | hq
    · obtain ⟨h1, h2⟩ := List.mem_filter.1 hq
      simp only [decide_eq_true_eq] at h2
      rw [Maps.atKey_put_other (fun e => h2 (lt_inj e))]
      exact h.at_ q h1 z
    · simp at hq; subst hq
      exact Maps.atKey_put_same hm hk _ _
  · rw [Maps.size_put h.tidy, h.size]
    have := strike_len p.1 h.apart
    have hh : (Maps.has D (lt p.1) = true) ↔ ∃ q ∈ L, q.1 = p.1 := by
      rw [h.has]
      constructor
      · rintro ⟨q, hq, e⟩; exact ⟨q, hq, lt_inj e⟩
      · rintro ⟨q, hq, e⟩; exact ⟨q, hq, by rw [e]⟩
    unfold putL
    simp only [hh, List.length_append, List.length_cons, List.length_nil]
    split <;> rename_i hc <;> simp only [hc, if_true, if_false] at this <;> omega
theorem Is.find {D : DataW Value} {L : List NV} (h : Is D L) (s : ByteArray) : (∃ p ∈ L, p.1 = s ∧ Maps.has D (lt s) = true ∧ ∀ z, D.atKey (lt s) z = .held (mkV p.2)) ∨ ((∀ p ∈ L, p.1 ≠ s) ∧ Maps.has D (lt s) = false ∧ ∀ z, D.atKey (lt s) z = z) := by
  cases hh : Maps.has D (lt s) with
  | true =>
    obtain ⟨p, hp, e⟩ := (h.has _).1 hh
    have e' := lt_inj e
    exact .inl ⟨p, hp, e', rfl, fun z => by rw [← e]; exact h.at_ p hp z⟩
  | false =>
    refine .inr ⟨fun p hp e => ?_, rfl, fun z => Maps.atKey_of_not_has hh z⟩
    have := (h.has (lt s)).2 ⟨p, hp, by rw [e]⟩
    rw [hh] at this; cases this

/-- What a lookup finds. -/
theorem Is.lkp {D : DataW Value} {L : List NV} (h : Is D L) (s : ByteArray) : (∃ d, lkp L s = some d ∧ Maps.has D (lt s) = true ∧ ∀ z, D.atKey (lt s) z = .held (mkV d)) ∨ (lkp L s = none ∧ Maps.has D (lt s) = false ∧ ∀ z, D.atKey (lt s) z = z) := by
  rcases h.find s with ⟨p, hp, e, h1, h2⟩ | ⟨h0, h1, h2⟩
  · refine .inl ⟨p.2, ?_, h1, h2⟩
    have : L.find? (fun q => decide (q.1 = s)) = some p := by
      have hap := h.apart
      clear h h1 h2
      induction L with
      | nil => simp at hp
      | cons q L ih =>
        obtain ⟨g1, g2⟩ := List.pairwise_cons.1 hap
        rcases List.mem_cons.1 hp with rfl | hp'
        · rw [List.find?_cons_of_pos (by simpa using e)]
        · rw [List.find?_cons_of_neg (by simp; intro e2; exact g1 p hp' (e2.trans e.symm))]
          exact ih hp' g2
    unfold Nq.lkp; rw [this]; rfl
  · refine .inr ⟨?_, h1, h2⟩
    unfold Nq.lkp
    rw [List.find?_eq_none.2 (fun p hp => by simpa using h0 p hp)]; rfl
abbrev Owns (w : World) (b n : Nat) (D : DataW Value) : Prop := w.ownsMap Tryz.prog 9 elem b n D
theorem owns_block {w w' : World} {b n : Nat} {D : DataW Value} (h : Owns w b n D) (e : w'.heap[b]? = w.heap[b]?) : Owns w' b n D := by
  obtain ⟨es, clock, hb, r⟩ := h
  exact ⟨es, clock, e.trans hb, r⟩
theorem owns_below {w w' : World} {b n : Nat} {D : DataW Value} (h : Owns w b n D) (hb : Below w.heap.size w w') : Owns w' b n D := owns_block h (hb.block b h.lt)
theorem grown_below {w w' w0 : World} {b : Nat} (h : Below w0.heap.size w0 w) (hg : w.grownBy w' (some b)) (hb : w0.heap.size ≤ b) : Below w0.heap.size w0 w' :=
  h.grown hg h.size (fun k hk => by cases hk; exact hb)
/-- A map in memory that holds a list. -/
def Mem (w : World) (b : Nat) (L : List Nv) : Prop := ∃ n D, Owns w b n D ∧ Is D L
theorem Mem.below {w w' : World} {b : Nat} {L : List Nv} (h : Mem w b L) (hb : Below w.heap.size w w') : Mem w' b L := by
  obtain ⟨n, D, h1, h2⟩ := h
  exact ⟨n, D, owns_below h1 hb, h2⟩
theorem Mem.lt {w : World} {b : Nat} {L : List Nv} (h : Mem w b L) : b < w.heap.size := by
  obtain ⟨n, D, h1, h2⟩ := h
  exact h1.lt
theorem zeroDc (w : World) : (zeroValue 48).run Tryz.prog w = .ok (mkV dc0) w := by kernel_rfl

/-- What a lookup gives, with its second result and without. -/
theorem Mem.run {w : World} {b : Nat} {L : List Nv} (h : Mem w b L) {s : ByteArray} (hs : s.size ≤ maxLen) :
    (Instr.lookup 59 (.map (some b)) (.string s) false).run Tryz.prog w = .ok (.agg #[.int .i64 (lk L s).k, .string (lk L s).s, .int .i64 (lk L s).ar]) w ∧
    (Instr.lookup 59 (.map (some b)) (.string s) true).run Tryz.prog w = .ok (.tuple #[.agg #[.int .i64 (lk L s).k, .string (lk L s).s, .int .i64 (lk L s).ar], .bool (lkp L s).isSome]) w := by
  obtain ⟨n, D, hown, his⟩ := h
  obtain ⟨v1, p1, r1, e1⟩ := hown.lookup law Tryz.underlying59 (zeroDc w) (elem_mk dc0) (key_mk hs)
  obtain ⟨v2, p2, r2, e2⟩ := hown.look_ok law Tryz.underlying59 (zeroDc w) (elem_mk dc0) (key_mk hs)
  rw [r1, r2]
  obtain ⟨_, e1⟩ := elem_inv e1
  obtain ⟨_, e2⟩ := elem_inv e2
  rcases his.lkp s with ⟨d, h1, h3, h4⟩ | ⟨h1, h3, h4⟩
  all_goals
    rw [h4] at e1 e2
    injection e1 with e1 _
    injection e1 with e1
    injection e2 with e2 _
    injection e2 with e2
    rw [← e1, ← e2, h3]
    unfold lk
    rw [h1]
    exact ⟨rfl, rfl⟩

end Go.Proofs.YtljlgjgfmgilaaaGreat.Nb
