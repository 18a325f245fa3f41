/-
  Relations, plain: the order of rows is one, sorted lists of rows, merged, put in, taken out.
-/
import Derived.Test.YtljlgjgfmgilaaaGreatVs
namespace Go.Proofs.YtljlgjgfmgilaaaGreat.Rp
set_option maxRecDepth 8000
set_option linter.unusedSimpArgs false
set_option linter.unusedVariables false
open Go Go.RowKit
open Num Word Pl Vl

abbrev RowL := List V2
theorem bless_trans : ∀ (x y z : List UInt8), Op.bytesLess x y = true → Op.bytesLess y z = true → Op.bytesLess x z = true
  | _, _, [], _, h => by
    rename_i y _
    cases y <;> simp [Op.bytesLess] at h
  | _, [], _ :: _, h, _ => by
    rename_i x _ _
    cases x <;> simp [Op.bytesLess] at h
  | [], _ :: _, _ :: _, _, _ => by simp [Op.bytesLess]
  | a :: x, b :: y, c :: z, h1, h2 => by
    simp only [Op.bytesLess, Bool.or_eq_true, Bool.and_eq_true, decide_eq_true_eq, beq_iff_eq, UInt8.lt_iff_toNat_lt] at h1 h2 ⊢
    rcases h1 with h1 | ⟨rfl, h1⟩
    · rcases h2 with h2 | ⟨rfl, h2⟩
      · left; omega
      · left; exact h1
    · rcases h2 with h2 | ⟨rfl, h2⟩
      · left; exact h2
      · right; exact ⟨rfl, bless_trans x y z h1 h2⟩

theorem cmpS_neg (a b : ByteArray) : cmpS b a = - cmpS a b := by
  unfold cmpS strLt
  cases h1 : Op.bytesLess a.toList b.toList
  · cases h2 : Op.bytesLess b.toList a.toList <;> simp
  · rw [less_asym _ _ h1]; simp
theorem cmpI_neg (a b : Int) : cmpI b a = - cmpI a b := by
  unfold cmpI
  split <;> split <;> first | rfl | omega | (split <;> first | rfl | omega)
theorem ordV_neg (x y : V2) : ordV y x = - ordV x y := by
  unfold ordV
  cases hs : x.2.toList.isEmpty <;> cases ht : y.2.toList.isEmpty <;> simp [cmpS_neg x.2 y.2, cmpI_neg x.1 y.1]
theorem cmpS_zero {a b : ByteArray} (h : cmpS a b = 0) : a = b := by
  unfold cmpS strLt at h
  have ht := less_total a.toList b.toList
  cases h1 : Op.bytesLess a.toList b.toList
  · cases h2 : Op.bytesLess b.toList a.toList
    · rw [h1, h2] at ht
      have h3 : a.toList = b.toList := by simpa using ht
      rw [ByteArray.toList_eq, ByteArray.toList_eq] at h3
      exact Go.WideShapes.bytes_inj h3
    · rw [h1, h2] at h; simp at h
  · rw [h1] at h; simp at h
theorem cmpI_zero {a b : Int} (h : cmpI a b = 0) : a = b := by
  unfold cmpI at h
  split at h
  · simp at h
  · split at h
    · simp at h
    · omega
theorem empty_eq {a b : ByteArray} (h : a.toList.isEmpty = true) (k : b.toList.isEmpty = true) : a = b := by
  have h3 : a.toList = b.toList := (isnil h).trans (isnil k).symm
  rw [ByteArray.toList_eq, ByteArray.toList_eq] at h3
  exact Go.WideShapes.bytes_inj h3
theorem ordV_eq {x y : V2} (hx : valB x = true) (hy : valB y = true) (h : ordV x y = 0) : x = y := by
  obtain ⟨n, s⟩ := x
  obtain ⟨m, t⟩ := y
  unfold ordV at h
  unfold valB at hx hy
  simp only at h hx hy
  cases hs : s.toList.isEmpty <;> cases ht : t.toList.isEmpty <;> rw [hs, ht] at h <;> simp at h
  · rw [hs] at hx; rw [ht] at hy
    simp at hx hy
    obtain rfl := cmpS_zero h
    rw [hx.1, hy.1]
  · obtain rfl := cmpI_zero h
    rw [empty_eq hs ht]
theorem ordV_self (x : V2) : ordV x x = 0 := by have := ordV_neg x x; omega
theorem cmpS_lt {a b : ByteArray} : cmpS a b < 0 ↔ strLt a b = true := by
  unfold cmpS
  cases strLt a b <;> simp
  split <;> simp
theorem cmpI_lt {a b : Int} : cmpI a b < 0 ↔ a < b := by
  unfold cmpI
  by_cases h : a < b
  · simp [h]
  · simp only [h, if_false]; split <;> simp
theorem ordV_trans {x y z : V2} (h : ordV x y < 0) (k : ordV y z < 0) : ordV x z < 0 := by
  unfold ordV at h k ⊢
  cases hs : x.2.toList.isEmpty <;> cases ht : y.2.toList.isEmpty <;> cases hu : z.2.toList.isEmpty <;> rw [hs, ht] at h <;> rw [ht, hu] at k <;> simp at h k ⊢
  · rw [cmpS_lt] at h k ⊢; exact bless_trans _ _ _ h k
  · rw [cmpI_lt] at h k ⊢; omega

theorem ordRow_neg : ∀ (l m : RowL), ordRow m l = - ordRow l m
  | [], [] => rfl
  | [], _ :: _ => rfl
  | _ :: _, [] => rfl
  | x :: l, y :: m => by
    have := ordV_neg x y
    have := ordRow_neg l m
    simp only [ordRow]
    split <;> split <;> omega
theorem ordRow_self (l : RowL) : ordRow l l = 0 := by have := ordRow_neg l l; omega
theorem ordRow_eq : ∀ {l m : RowL}, (∀ x ∈ l, valB x = true) → (∀ x ∈ m, valB x = true) → ordRow l m = 0 → l = m
  | [], [], _, _, _ => rfl
  | [], _ :: _, _, _, h => by simp [ordRow] at h
  | _ :: _, [], _, _, h => by simp [ordRow] at h
  | x :: l, y :: m, hl, hm, h => by
    simp only [ordRow] at h
    split at h
    · rename_i e
      obtain rfl := ordV_eq (hl x (by simp)) (hm y (by simp)) e
      rw [ordRow_eq (fun z hz => hl z (by simp [hz])) (fun z hz => hm z (by simp [hz])) h]
    · rename_i e; exact absurd h e
theorem ordRow_trans : ∀ {l m n : RowL}, (∀ x ∈ l, valB x = true) → (∀ x ∈ m, valB x = true) → (∀ x ∈ n, valB x = true) → ordRow l m < 0 → ordRow m n < 0 → ordRow l n < 0
  | [], [], [], _, _, _, h, k => by simp [ordRow] at h
  | [], _ :: _, [], _, _, _, h, k => by simp [ordRow] at k
  | [], _, _ :: _, _, _, _, h, k => by simp [ordRow]
  | _ :: _, [], _, _, _, _, h, k => by simp [ordRow] at h
  | _ :: _, _ :: _, [], _, _, _, h, k => by simp [ordRow] at k
  | x :: l, y :: m, z :: n, hl, hm, hn, h, k => by
    simp only [ordRow] at h k ⊢
    have hx := hl x (by simp); have hy := hm y (by simp); have hz := hn z (by simp)
    by_cases e1 : ordV x y = 0
    · obtain rfl := ordV_eq hx hy e1
      rw [if_pos e1] at h
      by_cases e2 : ordV x z = 0
      · rw [if_pos e2] at k ⊢
        exact ordRow_trans (fun z hz => hl z (by simp [hz])) (fun z hz => hm z (by simp [hz])) (fun z hz => hn z (by simp [hz])) h k
      · rw [if_neg e2] at k ⊢; exact k
    · rw [if_neg e1] at h
      by_cases e2 : ordV y z = 0
      · obtain rfl := ordV_eq hy hz e2
        rw [if_neg e1]; exact h
      · rw [if_neg e2] at k
        have := ordV_trans h k
        rw [if_neg (by omega)]; exact this
theorem ordV_one3 (x y : V2) : ordV x y = -1 ∨ ordV x y = 0 ∨ ordV x y = 1 := by
  rcases ord_one x y with h | h | h
  · exact .inr (.inr h.1)
  · exact .inl h.1
  · exact .inr (.inl h.1)
theorem ordRow_one3 : ∀ (l m : RowL), ordRow l m = -1 ∨ ordRow l m = 0 ∨ ordRow l m = 1
  | [], [] => by simp [ordRow]
  | [], _ :: _ => by simp [ordRow]
  | _ :: _, [] => by simp [ordRow]
  | x :: l, y :: m => by
    simp only [ordRow]
    split
    · exact ordRow_one3 l m
    · exact ordV_one3 x y

/-- Right rows. -/
def okL (l : RowL) : Prop := ∀ x ∈ l, valB x = true
theorem okL_of {l : RowL} (h : rowB l = true) : okL l := fun x hx => by
  obtain ⟨i, hi, rfl⟩ := List.getElem_of_mem hx
  have := (row_at h).2 i hi
  simpa [List.getD, hi] using this
def AllOk (R : List RowL) : Prop := ∀ l ∈ R, okL l
def Sorted (R : List RowL) : Prop := R.Pairwise fun x y => ordRow x y < 0
theorem AllOk.tail {x : RowL} {R : List RowL} (h : AllOk (x :: R)) : AllOk R := fun l hl => h l (by simp [hl])
theorem AllOk.head {x : RowL} {R : List RowL} (h : AllOk (x :: R)) : okL x := h x (by simp)
theorem Sorted.tail {x : RowL} {R : List RowL} (h : Sorted (x :: R)) : Sorted R := (List.pairwise_cons.1 h).2
theorem Sorted.lt {x : RowL} {R : List RowL} (h : Sorted (x :: R)) {y : RowL} (hy : y ∈ R) : ordRow x y < 0 := (List.pairwise_cons.1 h).1 y hy

/-- Two sorted lists with the same rows are one. -/
theorem sorted_ext : ∀ {R S : List RowL}, Sorted R → Sorted S → (∀ x, x ∈ R ↔ x ∈ S) → R = S
  | [], [], _, _, _ => rfl
  | [], y :: S, _, _, h => by have := (h y).2 (by simp); simp at this
  | x :: R, [], _, _, h => by have := (h x).1 (by simp); simp at this
  | x :: R, y :: S, hR, hS, h => by
    have e : x = y := by
      have h1 := (h x).1 (by simp)
      have h2 := (h y).2 (by simp)
      rcases List.mem_cons.1 h1 with e | e
      · exact e
      · rcases List.mem_cons.1 h2 with f | f
        · exact f.symm
        · have := hS.lt e; have := hR.lt f; have := ordRow_neg x y; omega
    subst e
    congr 1
    refine sorted_ext hR.tail hS.tail fun z => ?_
    have hz := h z
    constructor
    · intro k
      rcases List.mem_cons.1 (hz.1 (by simp [k])) with e | e
      · subst e; have := hR.lt k; have := ordRow_self z; omega
      · exact e
    · intro k
      rcases List.mem_cons.1 (hz.2 (by simp [k])) with e | e
      · subst e; have := hS.lt k; have := ordRow_self z; omega
      · exact e

theorem if_mem {b : Bool} {x z : RowL} : z ∈ (if b = true then [x] else []) ↔ b = true ∧ z = x := by
  cases b <;> simp

def stAll : Int → Bool := fun _ => true
def stOne : Int → Bool := fun s => decide (s < 0)
def stTwo : Int → Bool := fun s => s == 0

theorem filter_sorted {R : List RowL} (p : RowL → Bool) (h : Sorted R) : Sorted (R.filter p) := List.Pairwise.filter p h
theorem one_sorted (x : RowL) : Sorted [x] := List.pairwise_singleton _ _
theorem one_ok {x : RowL} (h : okL x) : AllOk [x] := fun z hz => by obtain rfl := List.mem_singleton.1 hz; exact h
/-- Adjacent rows rise. -/
def risesB : List RowL → Bool
  | x :: y :: t => decide (ordRow x y < 0) && risesB (y :: t)
  | _ => true
/-- Is the relation right? -/
def relB (ar : Int) (R : List RowL) : Bool := decide (0 ≤ ar ∧ ar ≤ 6) && decide (R.length ≤ 300) && R.all (fun l => decide ((l.length : Int) = ar) && rowB l) && risesB R
theorem rises_sorted : ∀ {R : List RowL}, AllOk R → risesB R = true → Sorted R
  | [], _, _ => List.Pairwise.nil
  | [x], _, _ => List.pairwise_singleton _ _
  | x :: y :: t, o, h => by
    rw [risesB, Bool.and_eq_true] at h
    have h1 := of_decide_eq_true h.1
    have ih := rises_sorted o.tail h.2
    refine List.pairwise_cons.2 ⟨fun z hz => ?_, ih⟩
    rcases List.mem_cons.1 hz with rfl | hz
    · exact h1
    · exact ordRow_trans o.head o.tail.head (o z (by simp [hz])) h1 (ih.lt hz)
theorem sorted_rises : ∀ {R : List RowL}, Sorted R → risesB R = true
  | [], _ => rfl
  | [x], _ => rfl
  | x :: y :: t, h => by
    rw [risesB, Bool.and_eq_true]
    exact ⟨decide_eq_true (h.lt (by simp)), sorted_rises h.tail⟩
structure RelP (ar : Int) (R : List RowL) : Prop where
  lo : 0 ≤ ar
  hi : ar ≤ 6
  few : R.length ≤ 300
  fit : ∀ l ∈ R, (l.length : Int) = ar
  right : ∀ l ∈ R, rowB l = true
  ok : AllOk R
  sorted : Sorted R
theorem relP_of {ar : Int} {R : List RowL} (h : relB ar R = true) : RelP ar R := by
  unfold relB at h
  simp only [Bool.and_eq_true, decide_eq_true_eq] at h
  obtain ⟨⟨⟨h1, h2⟩, h3⟩, h4⟩ := h
  have h3' : ∀ l ∈ R, (l.length : Int) = ar ∧ rowB l = true := fun l hl => by
    have := List.all_eq_true.1 h3 l hl
    simpa using this
  have o : AllOk R := fun l hl => okL_of (h3' l hl).2
  exact ⟨h1.1, h1.2, h2, fun l hl => (h3' l hl).1, fun l hl => (h3' l hl).2, o, rises_sorted o h4⟩
theorem relB_of {ar : Int} {R : List RowL} (h : RelP ar R) : relB ar R = true := by
  unfold relB
  simp only [Bool.and_eq_true, decide_eq_true_eq]
  refine ⟨⟨⟨⟨h.lo, h.hi⟩, h.few⟩, List.all_eq_true.2 fun l hl => ?_⟩, sorted_rises h.sorted⟩
  simp [h.fit l hl, h.right l hl]
theorem one_relP {ar : Int} {x : RowL} (lo : 0 ≤ ar) (hi : ar ≤ 6) (h : (x.length : Int) = ar) (k : rowB x = true) : RelP ar [x] :=
  ⟨lo, hi, by simp, fun l hl => by obtain rfl := List.mem_singleton.1 hl; exact h, fun l hl => by obtain rfl := List.mem_singleton.1 hl; exact k, one_ok (okL_of k), one_sorted x⟩
theorem one_relB {ar : Int} {x : RowL} (lo : 0 ≤ ar) (hi : ar ≤ 6) : relB ar [x] = (decide ((x.length : Int) = ar) && rowB x) := by
  unfold relB
  rw [decide_eq_true ⟨lo, hi⟩]
  simp [risesB]

end Go.Proofs.YtljlgjgfmgilaaaGreat.Rp
