/-
  Rising lists of texts, plain: a text put in; sorted and each once.
-/
import Derived.Lib.SlicesCompact
import Derived.Sort.Walk0
namespace Go.Proofs.Ytmpobkbjjnafmaa.Xa
set_option linter.unusedSimpArgs false
set_option linter.unusedVariables false
open Go

abbrev Sg := List UInt8
theorem lt_irr (a : Sg) : ¬ a < a := List.lt_irrefl a
theorem lt_tr {a b c : Sg} (h : a < b) (k : b < c) : a < c := List.lt_trans h k
theorem not_lt_eq {a b : Sg} (h : ¬ a < b) (k : ¬ b < a) : a = b := List.le_antisymm (List.not_lt.1 k) (List.not_lt.1 h)
theorem lt_or {a b : Sg} (h : ¬ a < b) (k : a ≠ b) : b < a := Decidable.byContradiction fun q => k (not_lt_eq h q)
theorem lt_of_not_lt {a b c : Sg} (h : ¬ b < a) (k : b < c) : a < c := by
  by_cases e : a = b
  · rw [e]; exact k
  · exact lt_tr (lt_or h (Ne.symm e)) k

/-- A text put into a rising list ahead of the first that is greater. -/
def ins (s : Sg) : List Sg → List Sg
  | [] => [s]
  | x :: l => if s < x then s :: x :: l else x :: ins s l
/-- The list with one more text; as it is where it has it. -/
def put (l : List Sg) (s : Sg) : List Sg := if s ∈ l then l else ins s l
theorem ins_none {s : Sg} : ∀ {l : List Sg}, (∀ x ∈ l, ¬ s < x) → ins s l = l ++ [s]
  | [], _ => rfl
  | x :: l, h => by
    have h1 := h x (List.mem_cons_self ..)
    simp only [ins, if_neg h1, List.cons_append]
    rw [ins_none fun y hy => h y (List.mem_cons_of_mem _ hy)]
theorem ins_some {s y : Sg} : ∀ {l : List Sg}, (∃ x ∈ l, s < x) → ins s (l ++ [y]) = ins s l ++ [y]
  | [], h => by obtain ⟨x, hx, _⟩ := h; simp at hx
  | x :: l, h => by
    by_cases h1 : s < x
    · simp only [ins, if_pos h1, List.cons_append]
    · simp only [ins, if_neg h1, List.cons_append]
      rw [ins_some]
      obtain ⟨z, hz, hs⟩ := h
      rcases List.mem_cons.1 hz with rfl | hz
      · exact absurd hs h1
      · exact ⟨z, hz, hs⟩
theorem ins_first {s y : Sg} {l : List Sg} (h : ∀ x ∈ l, ¬ s < x) (hy : s < y) : ins s (l ++ [y]) = l ++ [s] ++ [y] := by
  induction l with
  | nil => simp [ins, hy]
  | cons x l ih =>
    have h1 := h x (List.mem_cons_self ..)
    simp only [List.cons_append, ins, if_neg h1]
    rw [ih fun z hz => h z (List.mem_cons_of_mem _ hz)]
    try simp
theorem mem_ins {s x : Sg} : ∀ {l : List Sg}, x ∈ ins s l ↔ x = s ∨ x ∈ l
  | [] => by simp [ins]
  | y :: l => by
    by_cases h1 : s < y
    · simp only [ins, if_pos h1, List.mem_cons]
    · simp only [ins, if_neg h1, List.mem_cons, mem_ins]
      constructor
      · rintro (h | h | h)
        · exact .inr (.inl h)
        · exact .inl h
        · exact .inr (.inr h)
      · rintro (h | h | h)
        · exact .inr (.inl h)
        · exact .inl h
        · exact .inr (.inr h)
theorem mem_put {l : List Sg} {s x : Sg} : x ∈ put l s ↔ x = s ∨ x ∈ l := by
  unfold put
  split
  · rename_i h
    constructor
    · exact .inr
    · rintro (rfl | h2)
      · exact h
      · exact h2
  · exact mem_ins
def Rises (l : List Sg) : Prop := l.Pairwise (· < ·)
theorem rises_ins {s : Sg} : ∀ {l : List Sg}, Rises l → s ∉ l → Rises (ins s l)
  | [], _, _ => by simp [ins, Rises]
  | y :: l, h, hn => by
    have h' := List.pairwise_cons.1 h
    by_cases h1 : s < y
    · simp only [ins, if_pos h1]
      refine List.pairwise_cons.2 ⟨fun z hz => ?_, h⟩
      rcases List.mem_cons.1 hz with rfl | hz
      · exact h1
      · exact lt_tr h1 (h'.1 z hz)
    · simp only [ins, if_neg h1]
      refine List.pairwise_cons.2 ⟨fun z hz => ?_, rises_ins h'.2 fun q => hn (List.mem_cons_of_mem _ q)⟩
      rcases mem_ins.1 hz with rfl | hz
      · exact lt_or h1 fun e => hn (by rw [e]; exact List.mem_cons_self ..)
      · exact h'.1 z hz
theorem rises_put {l : List Sg} {s : Sg} (h : Rises l) : Rises (put l s) := by
  unfold put
  split
  · exact h
  · exact rises_ins h ‹_›
def putAll (l : List Sg) (V : List Sg) : List Sg := V.foldl put l
theorem mem_putAll {x : Sg} : ∀ {V l : List Sg}, x ∈ putAll l V ↔ x ∈ V ∨ x ∈ l
  | [], l => by simp [putAll]
  | s :: V, l => by
    show x ∈ putAll (put l s) V ↔ _
    rw [mem_putAll, mem_put, List.mem_cons]
    constructor
    · rintro (h | h | h) <;> simp [h]
    · rintro ((h | h) | h) <;> simp [h]
theorem rises_putAll : ∀ {V l : List Sg}, Rises l → Rises (putAll l V)
  | [], l, h => h
  | s :: V, l, h => rises_putAll (V := V) (rises_put h)
theorem putAll_app (l V U : List Sg) : putAll l (V ++ U) = putAll (putAll l V) U := by simp [putAll]
theorem putAll_one (l : List Sg) (s : Sg) : putAll l [s] = put l s := rfl
theorem put_len {l : List Sg} {s : Sg} : (put l s).length ≤ l.length + 1 := by
  unfold put
  split
  · omega
  · have : ∀ l : List Sg, (ins s l).length = l.length + 1 := fun l => by
      induction l with
      | nil => rfl
      | cons x l ih =>
        simp only [ins]
        split
        · rfl
        · simp [ih]
    rw [this]; exact Nat.le_refl _
theorem rises_eq : ∀ {l m : List Sg}, Rises l → Rises m → (∀ x, x ∈ l ↔ x ∈ m) → l = m
  | [], [], _, _, _ => rfl
  | [], b :: m, _, _, h => absurd ((h b).2 (List.mem_cons_self ..)) (by simp)
  | a :: l, [], _, _, h => absurd ((h a).1 (List.mem_cons_self ..)) (by simp)
  | a :: l, b :: m, hl, hm, h => by
    have hl' := List.pairwise_cons.1 hl
    have hm' := List.pairwise_cons.1 hm
    have hab : a = b := by
      rcases List.mem_cons.1 ((h a).1 (List.mem_cons_self ..)) with e | e
      · exact e
      · rcases List.mem_cons.1 ((h b).2 (List.mem_cons_self ..)) with f | f
        · exact f.symm
        · exact absurd (lt_tr (hm'.1 a e) (hl'.1 b f)) (lt_irr _)
    subst hab
    congr 1
    refine rises_eq hl'.2 hm'.2 fun x => ⟨fun hx => ?_, fun hx => ?_⟩
    · rcases List.mem_cons.1 ((h x).1 (List.mem_cons_of_mem _ hx)) with e | e
      · subst e; exact absurd (hl'.1 x hx) (lt_irr _)
      · exact e
    · rcases List.mem_cons.1 ((h x).2 (List.mem_cons_of_mem _ hx)) with e | e
      · subst e; exact absurd (hm'.1 x hx) (lt_irr _)
      · exact e
def srt (l : List Sg) : List Sg := l.mergeSort fun x y => decide (x ≤ y)
theorem srt_len (l : List Sg) : (srt l).length = l.length := by simp [srt]
theorem mem_srt {l : List Sg} {x : Sg} : x ∈ srt l ↔ x ∈ l := by unfold srt; exact List.mem_mergeSort
theorem sorted_srt (l : List Sg) : (srt l).Pairwise (fun x y => ¬ y < x) := by
  have := List.pairwise_mergeSort (le := fun (x y : Sg) => decide (x ≤ y)) (fun a b c h k => by simp at *; exact List.le_trans h k) (fun a b => by simp; exact List.le_total a b) l
  exact this.imp fun {a b} h => by simpa using h
theorem compact_facts {d : Array Sg} (hd : ∀ i j, i ≤ j → j < d.size → ¬ d[j]! < d[i]!) : ∀ m, m ≤ d.size → (Lib.compactUpTo d m).Pairwise (· < ·) ∧ (∀ x ∈ Lib.compactUpTo d m, ∃ i, i < m ∧ d[i]! = x) ∧ ∀ i, i < m → d[i]! ∈ Lib.compactUpTo d m
  | 0, _ => ⟨by simp [Lib.compactUpTo], by simp [Lib.compactUpTo], fun i hi => by omega⟩
  | m + 1, hm => by
    obtain ⟨h1, h2, h3⟩ := compact_facts hd m (by omega)
    rw [Lib.compactUpTo_succ]
    by_cases hk : Lib.keeps d m = true
    · rw [if_pos hk]
      have hk' : m = 0 ∨ d[m]! ≠ d[m - 1]! := of_decide_eq_true hk
      refine ⟨?_, ?_, ?_⟩
      · rw [List.pairwise_append]
        refine ⟨h1, List.pairwise_singleton _ _, fun a ha b hb => ?_⟩
        obtain rfl := List.mem_singleton.1 hb
        obtain ⟨i, hi, rfl⟩ := h2 a ha
        rcases hk' with rfl | hne
        · omega
        · exact lt_of_not_lt (hd i (m - 1) (by omega) (by omega)) (lt_or (hd (m - 1) m (by omega) (by omega)) hne)
      · intro x hx
        rcases List.mem_append.1 hx with hx | hx
        · obtain ⟨i, hi, e⟩ := h2 x hx
          exact ⟨i, by omega, e⟩
        · obtain rfl := List.mem_singleton.1 hx
          exact ⟨m, by omega, rfl⟩
      · intro i hi
        by_cases e : i = m
        · subst e; exact List.mem_append_right _ (List.mem_singleton_self _)
        · exact List.mem_append_left _ (h3 i (by omega))
    · rw [if_neg hk, List.append_nil]
      have hk' : ¬ (m = 0 ∨ d[m]! ≠ d[m - 1]!) := fun h => hk (decide_eq_true h)
      refine ⟨h1, fun x hx => ?_, fun i hi => ?_⟩
      · obtain ⟨i, hi, e⟩ := h2 x hx
        exact ⟨i, by omega, e⟩
      · by_cases e : i = m
        · subst e
          have h0 : i ≠ 0 := fun h => hk' (.inl h)
          have he : d[i]! = d[i - 1]! := Decidable.not_not.1 fun h => hk' (.inr h)
          rw [he]
          exact h3 (i - 1) (by omega)
        · exact h3 i (by omega)
theorem compact_srt (l : List Sg) : Lib.compact (srt l) = putAll [] l := by
  have hd : ∀ i j, i ≤ j → j < (srt l).toArray.size → ¬ (srt l).toArray[j]! < (srt l).toArray[i]! := fun i j hij hj => by
    have hj' : j < (srt l).length := by simpa using hj
    by_cases e : i = j
    · subst e; exact lt_irr _
    · have := List.pairwise_iff_getElem.1 (sorted_srt l) i j (by omega) hj' (by omega)
      simpa [hj', show i < (srt l).length by omega] using this
  obtain ⟨h1, h2, h3⟩ := compact_facts hd (srt l).length (by simp)
  refine rises_eq h1 (rises_putAll (l := []) List.Pairwise.nil) fun x => ?_
  rw [mem_putAll]
  constructor
  · intro hx
    obtain ⟨i, hi, rfl⟩ := h2 x hx
    refine .inl (mem_srt.1 ?_)
    simp [hi]
  · rintro (hx | hx)
    · obtain ⟨i, hi, rfl⟩ := List.mem_iff_getElem.1 (mem_srt.2 hx)
      have := h3 i hi
      unfold Lib.compact
      simpa [hi] using this
    · simp at hx

/-- A list gone through up to place k: the text isn't there; what stands in the new list, with the text put in or not yet. -/
structure Pt (s : Sg) (L : List Sg) (k : Nat) (O : List Sg) (dn : Bool) : Prop where
  no : s ∉ L.take k
  out : O = if dn then ins s (L.take k) else L.take k
  ex : dn = true ↔ ∃ x ∈ L.take k, s < x
theorem Pt.start (s : Sg) (L : List Sg) : Pt s L 0 [] false := ⟨by simp, by simp, by simp⟩
theorem take_next {L : List Sg} {k : Nat} (h : k < L.length) : L.take (k + 1) = L.take k ++ [L[k]] := by rw [List.take_add_one, List.getElem?_eq_getElem h]; rfl
theorem Pt.none {s : Sg} {L : List Sg} {k : Nat} {O : List Sg} (h : Pt s L k O false) : ∀ x ∈ L.take k, ¬ s < x := fun x hx q => by simpa using h.ex.2 ⟨x, hx, q⟩
theorem Pt.first {s x : Sg} {L : List Sg} {k : Nat} {O : List Sg} (h : Pt s L k O false) (hk : k < L.length) (hx : L[k] = x) (hne : x ≠ s) (hs : s < x) : Pt s L (k + 1) (O ++ [s] ++ [x]) true := by
  have ho := h.out
  refine ⟨?_, ?_, ?_⟩
  · rw [take_next hk, hx]
    intro q
    rcases List.mem_append.1 q with q | q
    · exact h.no q
    · exact hne (List.mem_singleton.1 q).symm
  · rw [take_next hk, hx, if_pos rfl, ins_first h.none hs]
    simp at ho
    rw [ho]
  · rw [take_next hk, hx]
    exact ⟨fun _ => ⟨x, by simp, hs⟩, fun _ => rfl⟩
theorem Pt.more {s x : Sg} {L : List Sg} {k : Nat} {O : List Sg} (h : Pt s L k O true) (hk : k < L.length) (hx : L[k] = x) (hne : x ≠ s) : Pt s L (k + 1) (O ++ [x]) true := by
  have ho := h.out
  have he := h.ex.1 rfl
  refine ⟨?_, ?_, ?_⟩
  · rw [take_next hk, hx]
    intro q
    rcases List.mem_append.1 q with q | q
    · exact h.no q
    · exact hne (List.mem_singleton.1 q).symm
  · rw [take_next hk, hx, if_pos rfl, ins_some he]
    simp at ho
    rw [ho]
  · rw [take_next hk, hx]
    obtain ⟨z, hz, hzs⟩ := he
    exact ⟨fun _ => ⟨z, by simp [hz], hzs⟩, fun _ => rfl⟩
theorem Pt.less {s x : Sg} {L : List Sg} {k : Nat} {O : List Sg} (h : Pt s L k O false) (hk : k < L.length) (hx : L[k] = x) (hne : x ≠ s) (hs : ¬ s < x) : Pt s L (k + 1) (O ++ [x]) false := by
  have ho := h.out
  refine ⟨?_, ?_, ?_⟩
  · rw [take_next hk, hx]
    intro q
    rcases List.mem_append.1 q with q | q
    · exact h.no q
    · exact hne (List.mem_singleton.1 q).symm
  · rw [take_next hk, hx]
    simp at ho
    simp [ho]
  · rw [take_next hk, hx]
    refine ⟨fun q => by simp at q, ?_⟩
    rintro ⟨z, hz, hzs⟩
    rcases List.mem_append.1 hz with hz | hz
    · exact absurd hzs (h.none z hz)
    · rw [List.mem_singleton.1 hz] at hzs; exact absurd hzs hs
theorem Pt.done {s : Sg} {L : List Sg} {O : List Sg} (h : Pt s L L.length O true) : O = put L s := by
  have h1 := h.no
  have h2 := h.out
  rw [List.take_length] at h1 h2
  simp at h2
  unfold put; rw [if_neg h1, h2]
theorem Pt.last {s : Sg} {L : List Sg} {O : List Sg} (h : Pt s L L.length O false) : O ++ [s] = put L s := by
  have h1 := h.no
  have h2 := h.out
  have h3 := h.none
  rw [List.take_length] at h1 h2 h3
  simp at h2
  unfold put; rw [if_neg h1, ins_none h3, h2]
theorem put_found {s : Sg} {L : List Sg} {k : Nat} (hk : k < L.length) (h : L[k] = s) : put L s = L := by
  unfold put; rw [if_pos (by rw [← h]; exact List.getElem_mem hk)]

end Go.Proofs.Ytmpobkbjjnafmaa.Xa
