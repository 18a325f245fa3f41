/-
  Maps from names to relations: what a map holds, told as a list.
-/
import Derived.Test.YtljlgjgfmgilaaaGreatSe
import Derived.Maps.OwnSet
import Derived.Maps.RangeWalk
import Derived.Carry
namespace Go.Proofs.YtljlgjgfmgilaaaGreat.Mp
set_option maxRecDepth 8000
set_option linter.unusedSimpArgs false
set_option linter.unusedVariables false
open Go Go.ChangeShapes Go.WideShapes Go.RowKit
open Num Word Pl Rp
open Rl (Rm rm0 said)
open St (Nm nm0 NL told)
open Vl (cmpS strLt)

/-- A relation as a map's element. -/
abbrev E4 := Int × Option Addr × Nat × Nat
def mkV (c : E4) : Value := .agg #[.int .i64 c.1, .slice c.2.1 c.2.2.1 c.2.2.2]
def isE (v : Value) : Bool := match v with
  | .agg a => match a.toList with
    | [.int .i64 _, .slice _ _ _] => true
    | _ => false
  | _ => false
theorem isE_mk (c : E4) : isE (mkV c) = true := rfl
theorem isE_inv {v : Value} (h : isE v = true) : ∃ c, v = mkV c := by
  unfold isE at h
  split at h
  · rename_i a
    split at h
    · rename_i k s l c e
      exact ⟨(k, s, l, c), by unfold mkV; congr 1; exact Array.ext' e⟩
    · cases h
  · cases h
def elem (v : Value) : Option (DataW Value × List MemPlace) := if isE v = true then some (.held v, []) else none
theorem elem_mk (c : E4) : elem (mkV c) = some (.held (mkV c), []) := by
  unfold elem; rw [if_pos (isE_mk c)]
theorem elem_inv {v : Value} {y : DataW Value × List MemPlace} (h : elem v = some y) : (∃ c, v = mkV c) ∧ y = (.held v, []) := by
  unfold elem at h
  split at h
  · rename_i hc; exact ⟨isE_inv hc, by simpa using h.symm⟩
  · cases h
theorem mkV_inj {c d : E4} (h : mkV c = mkV d) : c = d := by
  obtain ⟨c1, c2, c3, c4⟩ := c
  obtain ⟨d1, d2, d3, d4⟩ := d
  simp only [mkV, Value.agg.injEq, Array.mk.injEq, List.cons.injEq, Value.int.injEq, Value.slice.injEq, and_true, true_and] at h
  obtain ⟨h1, h2, h3, h4⟩ := h
  subst h1 h2 h3 h4; rfl
/-- A name as a key. -/
def lt (s : ByteArray) : Lit := .string s.data.toList
theorem law : Maps.Keyed Tryz.prog 9 := Maps.string_keyed Tryz.underlying9
theorem key_mk {s : ByteArray} (hs : s.size ≤ maxLen) : keyOf Tryz.prog 9 (.string s) = some (lt s) := WideMaps.keyOf_string_mk Tryz.underlying9 hs
theorem key_inv {v : Value} {l : Lit} (h : keyOf Tryz.prog 9 v = some l) : ∃ s : ByteArray, v = .string s ∧ l = lt s ∧ s.size ≤ maxLen := WideMaps.string_of_keyOf Tryz.underlying9 h
theorem lt_key {s : ByteArray} (hs : s.size ≤ maxLen) : WideAt.IsKeyLit (lt s) := law.key (key_mk hs)
theorem lt_inj {s t : ByteArray} (h : lt s = lt t) : s = t := by
  unfold lt at h
  injection h with h
  cases s; cases t
  simp only [ByteArray.mk.injEq]
  exact Array.ext' h

/-- A name and its relation. -/
abbrev NV := ByteArray × E4
structure Is (D : DataW Value) (L : List NV) : Prop where
  tidy : Maps.Tidy D
  apart : L.Pairwise (fun p q => p.1 ≠ q.1)
  str : ∀ p ∈ L, p.1.size ≤ maxLen
  has : ∀ l, Maps.has D l = true ↔ ∃ p ∈ L, lt p.1 = l
  at_ : ∀ p ∈ L, ∀ z, D.atKey (lt p.1) z = .held (mkV p.2)
  size : Maps.size D = L.length
theorem is_nil : Is (.map []) [] := ⟨Maps.tidy_empty, List.Pairwise.nil, fun p h => by simp at h, fun l => by simp [Maps.has], fun p h => by simp at h, rfl⟩
def putL (L : List NV) (p : NV) : List NV := L.filter (fun q => decide (q.1 ≠ p.1)) ++ [p]
theorem put_new {L : List NV} {p : NV} (h : ∀ q ∈ L, q.1 ≠ p.1) : putL L p = L ++ [p] := by
  unfold putL
  rw [List.filter_eq_self.2 (fun q hq => by simpa using h q hq)]
theorem strike_len : ∀ {L : List NV} (s : ByteArray), L.Pairwise (fun p q => p.1 ≠ q.1) → (L.filter (fun q => decide (q.1 ≠ s))).length + (if ∃ p ∈ L, p.1 = s then 1 else 0) = L.length
  | [], s, _ => by simp
  | x :: L, s, h => by
    obtain ⟨h1, h2⟩ := List.pairwise_cons.1 h
    have ih := strike_len s h2
    by_cases e : x.1 = s
    · have hn : ¬ ∃ p ∈ L, p.1 = s := fun ⟨p, hp, hq⟩ => h1 p hp (e.trans hq.symm)
      rw [if_neg hn] at ih
      rw [if_pos ⟨x, by simp, e⟩, List.filter_cons_of_neg (by simpa using e)]
      simp at ih ⊢; omega
    · have hi : (∃ p ∈ x :: L, p.1 = s) ↔ ∃ p ∈ L, p.1 = s := by
        constructor
        · rintro ⟨p, hp, hq⟩
          rcases List.mem_cons.1 hp with rfl | hp
          · exact absurd hq e
          · exact ⟨p, hp, hq⟩
        · rintro ⟨p, hp, hq⟩; exact ⟨p, by simp [hp], hq⟩
      rw [List.filter_cons_of_pos (by simpa using e)]
      simp only [hi, List.length_cons]; omega
theorem Is.put {D : DataW Value} {L : List NV} (h : Is D L) {p : NV} (hs : p.1.size ≤ maxLen) : Is (D.put (lt p.1) (.held (mkV p.2))) (putL L p) := by
  have hm := h.tidy.isMap
  have hk := lt_key hs
  refine ⟨h.tidy.put hk _, ?_, fun q hq => ?_, fun l => ?_, fun q hq z => ?_, ?_⟩
  · unfold putL
    rw [List.pairwise_append]
    refine ⟨h.apart.filter _, List.pairwise_singleton _ _, fun a ha b hb => ?_⟩
    simp at hb; subst hb
    simpa using (List.mem_filter.1 ha).2
  · unfold putL at hq
    rcases List.mem_append.1 hq with hq | hq
    · exact h.str q (List.mem_filter.1 hq).1
    · simp at hq; subst hq; exact hs
  · by_cases e : l = lt p.1
    · subst e
      rw [Maps.has_put_same hm hk]
      simp only [true_iff]
      exact ⟨p, by simp [putL], rfl⟩
    · rw [Maps.has_put_other e, h.has l]
      constructor
      · rintro ⟨q, hq, rfl⟩
        refine ⟨q, ?_, rfl⟩
        unfold putL
        refine List.mem_append_left _ (List.mem_filter.2 ⟨hq, ?_⟩)
        simp only [decide_eq_true_eq]
        rintro e'; exact e (by rw [e'])
      · rintro ⟨q, hq, rfl⟩
        unfold putL at hq
        rcases List.mem_append.1 hq with hq | hq
        · exact ⟨q, (List.mem_filter.1 hq).1, rfl⟩
        · simp at hq; subst hq; exact absurd rfl e
  · unfold putL at hq
    rcases List.mem_append.1 hq with hq | hq
    · obtain ⟨h1, h2⟩ := List.mem_filter.1 hq
      simp only [decide_eq_true_eq] at h2
      rw [Maps.atKey_put_other (fun e => h2 (lt_inj e))]
      exact h.at_ q h1 z
    · simp at hq; subst hq
      exact Maps.atKey_put_same hm hk _ _
  · rw [Maps.size_put h.tidy, h.size]
    have := strike_len p.1 h.apart
    have hh : (Maps.has D (lt p.1) = true) ↔ ∃ q ∈ L, q.1 = p.1 := by
      rw [h.has]
      constructor
      · rintro ⟨q, hq, e⟩; exact ⟨q, hq, lt_inj e⟩
      · rintro ⟨q, hq, e⟩; exact ⟨q, hq, by rw [e]⟩
    unfold putL
    simp only [hh, List.length_append, List.length_cons, List.length_nil]
    split <;> rename_i hc <;> simp only [hc, if_true, if_false] at this <;> omega
theorem Is.find {D : DataW Value} {L : List NV} (h : Is D L) (s : ByteArray) : (∃ p ∈ L, p.1 = s ∧ Maps.has D (lt s) = true ∧ ∀ z, D.atKey (lt s) z = .held (mkV p.2)) ∨ ((∀ p ∈ L, p.1 ≠ s) ∧ Maps.has D (lt s) = false ∧ ∀ z, D.atKey (lt s) z = z) := by
  cases hh : Maps.has D (lt s) with
  | true =>
    obtain ⟨p, hp, e⟩ := (h.has _).1 hh
    have e' := lt_inj e
    exact .inl ⟨p, hp, e', rfl, fun z => by rw [← e]; exact h.at_ p hp z⟩
  | false =>
    refine .inr ⟨fun p hp e => ?_, rfl, fun z => Maps.atKey_of_not_has hh z⟩
    have := (h.has (lt s)).2 ⟨p, hp, by rw [e]⟩
    rw [hh] at this; cases this

/-- The map of a store. -/
def nv (x : Nm) : NV := (x.s, (x.ar, x.a, x.Q.length, x.c))
def mapL (T : List Nm) : List NV := T.foldl (fun L x => putL L (nv x)) []
theorem mapL_app (T : List Nm) (x : Nm) : mapL (T ++ [x]) = putL (mapL T) (nv x) := by simp [mapL, List.foldl_append]
theorem mapL_keys (T : List Nm) : ∀ p ∈ mapL T, p ∈ T.map nv := by
  suffices H : ∀ (T : List Nm) (L : List NV), ∀ p ∈ T.foldl (fun L x => putL L (nv x)) L, p ∈ L ∨ p ∈ T.map nv from fun p hp => (H T [] p hp).resolve_left (by simp)
  intro T
  induction T with
  | nil => intro L p hp; exact .inl hp
  | cons x T ih =>
    intro L p hp
    rcases ih _ p hp with h | h
    · unfold putL at h
      rcases List.mem_append.1 h with h | h
      · exact .inl (List.mem_filter.1 h).1
      · simp at h; subst h; exact .inr (by simp)
    · exact .inr (by simp only [List.map_cons, List.mem_cons]; exact .inr h)
theorem mapL_eq {T : List Nm} (h : T.Pairwise (fun x y => x.s ≠ y.s)) : mapL T = T.map nv := by
  suffices H : ∀ (T : List Nm) (L : List NV), (∀ p ∈ L, ∀ x ∈ T, p.1 ≠ x.s) → T.Pairwise (fun x y => x.s ≠ y.s) → T.foldl (fun L x => putL L (nv x)) L = L ++ T.map nv by
    have := H T [] (by simp) h
    simpa [mapL] using this
  intro T
  induction T with
  | nil => intro L _ _; simp
  | cons x T ih =>
    intro L h1 h2
    obtain ⟨h3, h4⟩ := List.pairwise_cons.1 h2
    rw [List.foldl_cons, put_new (fun q hq => h1 q hq x (by simp)), ih _ _ h4]
    · simp
    · intro p hp y hy
      rcases List.mem_append.1 hp with hp | hp
      · exact h1 p hp y (by simp [hy])
      · simp at hp; subst hp; exact h3 y hy

/-- Names that rise are no two alike. -/
theorem strLt_trans {a b c : ByteArray} (h : strLt a b = true) (k : strLt b c = true) : strLt a c = true := bless_trans _ _ _ h k
theorem strLt_irr (a : ByteArray) : strLt a a = false := by
  cases h : strLt a a with
  | false => rfl
  | true =>
    have h1 := cmpS_lt.2 h
    have h2 := cmpS_neg a a
    omega
theorem rises_pair : ∀ {T : List NL}, St.risesN T = true → T.Pairwise (fun x y => strLt x.1 y.1 = true)
  | [], _ => List.Pairwise.nil
  | [x], _ => List.pairwise_singleton _ _
  | x :: y :: T, h => by
    simp only [St.risesN, Bool.and_eq_true] at h
    have ih := rises_pair h.2
    refine List.pairwise_cons.2 ⟨fun z hz => ?_, ih⟩
    rcases List.mem_cons.1 hz with rfl | hz
    · exact h.1
    · exact strLt_trans h.1 ((List.pairwise_cons.1 ih).1 z hz)
theorem store_rises {T : List NL} (h : St.storeB T = true) : T.Pairwise (fun x y => strLt x.1 y.1 = true) := by
  unfold St.storeB at h
  rw [Bool.and_eq_true] at h
  exact rises_pair h.2
theorem store_apart {T : List Nm} (h : St.storeB (told T) = true) : T.Pairwise (fun x y => x.s ≠ y.s) := by
  have := store_rises h
  unfold told at this
  rw [List.pairwise_map] at this
  refine this.imp fun {x y} hxy e => ?_
  simp only [Nm.l] at hxy
  rw [e, strLt_irr] at hxy; cases hxy
theorem store_small {T : List NL} (h : St.storeB T = true) : T.length ≤ 24 := by
  unfold St.storeB at h
  simp only [Bool.and_eq_true, decide_eq_true_eq] at h
  exact h.1.1
theorem store_one {T : List NL} (h : St.storeB T = true) {x : NL} (hx : x ∈ T) : wordB x.1 = true ∧ RelP x.2.1 x.2.2 := by
  unfold St.storeB at h
  simp only [Bool.and_eq_true, List.all_eq_true] at h
  have := h.1.2 x hx
  unfold St.oneB at this
  rw [Bool.and_eq_true] at this
  exact ⟨this.1, relP_of this.2⟩
/-- Two right stores with the same named relations are one. -/
theorem rising_ext : ∀ {T U : List NL}, T.Pairwise (fun x y => strLt x.1 y.1 = true) → U.Pairwise (fun x y => strLt x.1 y.1 = true) → (∀ x, x ∈ T ↔ x ∈ U) → T = U
  | [], [], _, _, _ => rfl
  | [], y :: U, _, _, h => absurd ((h y).2 (by simp)) (by simp)
  | x :: T, [], _, _, h => absurd ((h x).1 (by simp)) (by simp)
  | x :: T, y :: U, hT, hU, h => by
    obtain ⟨h1, h2⟩ := List.pairwise_cons.1 hT
    obtain ⟨k1, k2⟩ := List.pairwise_cons.1 hU
    have irr : ∀ {z : NL}, strLt z.1 z.1 = true → False := fun {z} hz => by rw [strLt_irr] at hz; cases hz
    have e : x = y := by
      rcases List.mem_cons.1 ((h x).1 (by simp)) with e | hx
      · exact e
      · rcases List.mem_cons.1 ((h y).2 (by simp)) with e | hy
        · exact e.symm
        · exact absurd (strLt_trans (k1 x hx) (h1 y hy)) (fun hh => irr hh)
    subst e
    congr 1
    refine rising_ext h2 k2 fun z => ?_
    constructor
    · intro hz
      rcases List.mem_cons.1 ((h z).1 (by simp [hz])) with e | hz'
      · subst e; exact absurd (h1 z hz) (fun hh => irr hh)
      · exact hz'
    · intro hz
      rcases List.mem_cons.1 ((h z).2 (by simp [hz])) with e | hz'
      · subst e; exact absurd (k1 z hz) (fun hh => irr hh)
      · exact hz'

end Go.Proofs.YtljlgjgfmgilaaaGreat.Mp
