/-
  Both StorePut.
-/
import Derived.Test.YtecnbenlmbppbaaGreatLs
import Derived.Test.YtecnbenlmbppbaaGreatMr
namespace Go.Proofs.YtecnbenlmbppbaaGreat.Mp
set_option maxRecDepth 8000
set_option linter.unusedSimpArgs false
set_option linter.unusedVariables false
open Go Go.ChangeShapes Go.WideShapes Go.RowKit
open Num Word Pl Rp
open Rl (Rm rm0 said)
open St (Nm nm0 NL told storeB)
open Vl (cmpS strLt)

/-- What is answered: the store with the relation, where all is right and there is room. -/
def putB (N : List NL) (x : NL) : Bool := storeB N && St.oneB x
def PA (N : List NL) (x : NL) (M : List NL) (t : Bool) : Prop := if putB N x = true ∧ (setL x N).length ≤ 24 then M = setL x N ∧ t = true else M = [] ∧ t = false
def ResV (w : World) (M : List NL) (t : Bool) (e : Ending) (w' : World) : Prop := ∃ v F, e = .returned (.tuple #[.agg #[v], .bool t]) ∧ St.OS w' w.heap.size v F ∧ told F = M ∧ Below w.heap.size w w'
theorem set_one {N : List NL} {x : NL} (h : putB N x = true) : ∀ z ∈ setL x N, St.oneB z = true := by
  unfold putB at h
  rw [Bool.and_eq_true] at h
  intro z hz
  rcases ((setL_facts x (store_rises h.1)).2 z).1 hz with ⟨q, _⟩ | rfl
  · have := h.1
    unfold storeB at this
    simp only [Bool.and_eq_true, List.all_eq_true] at this
    exact this.1.2 z q
  · exact h.2
/-- The marks of a small store are few. -/
theorem few_marks {F : List Nm} {M : List NL} (h : told F = M) (hl : M.length ≤ 24) (h1 : ∀ z ∈ M, St.oneB z = true) : St.kN F 1 F.length ≤ 10000000 := by
  have hF : F.length ≤ 24 := by rw [← St.told_len, h]; exact hl
  have key : ∀ i, i ≤ F.length → St.kN F 1 i ≤ 1 + i * 3602 := by
    intro i
    induction i with
    | zero => intro _; simp [St.kN]
    | succ i ih =>
      intro hi
      have q := ih (by omega)
      have hm : F.getD i nm0 ∈ F := by rw [List.getD_eq_getElem?_getD, List.getElem?_eq_getElem (by omega)]; exact List.getElem_mem _
      have h2 := h1 _ (by rw [← h]; exact List.mem_map_of_mem (f := Nm.l) hm)
      unfold St.oneB at h2
      simp only [Bool.and_eq_true] at h2
      have h3 := relP_of h2.2
      have h4 := (Rl.small_said (F := (F.getD i nm0).Q) rfl ⟨h3.few, fun l hl => by have := h3.fit l hl; have := h3.hi; omega⟩).2
      simp only [St.kN]
      omega
  have := key F.length (Nat.le_refl _)
  omega
theorem PA_some (N : List NL) (x : NL) : ∃ M t, PA N x M t ∧ M.length ≤ 24 ∧ ∀ z ∈ M, St.oneB z = true := by
  by_cases h : putB N x = true ∧ (setL x N).length ≤ 24
  · exact ⟨setL x N, true, by unfold PA; rw [if_pos h]; exact ⟨rfl, rfl⟩, h.2, set_one h.1⟩
  · exact ⟨[], false, by unfold PA; rw [if_neg h]; exact ⟨rfl, rfl⟩, by simp, fun z hz => by simp at hz⟩
theorem step_len (x : NL) (p : List NL × Bool) (y : NL) : (stepL x p y).1.length ≤ p.1.length + 2 := by
  unfold stepL
  simp only [List.length_append]
  split <;> split <;> simp
theorem set_few {N : List NL} {x : NL} (h : N.length ≤ 24) : (setL x N).length ≤ 49 := by
  have : ∀ (L : List NL) (p : List NL × Bool), (L.foldl (stepL x) p).1.length ≤ p.1.length + 2 * L.length := by
    intro L
    induction L with
    | nil => intro p; simp
    | cons y L ih =>
      intro p
      have := ih (stepL x p y)
      have := step_len x p y
      simp only [List.foldl_cons, List.length_cons]; omega
  have := this N ([], false)
  unfold setL runL
  rw [List.length_append]
  simp only [List.length_nil] at this
  split <;> simp <;> omega

set_option maxHeartbeats 8000000 in
theorem putS_any (a : Option Addr) (b off cap : Nat) (T : List Nm) (s : ByteArray) (ar : Int) (ra : Option Addr) (rb ro rc : Nat) (Q : List Rm) (w : World) (h : St.Rd w a b off T) (hs : s.size ≤ maxLen) (hq : Rl.Rd w ra rb ro Q) (M : List NL) (t : Bool) (hA : PA (told T) (s, ar, said Q) M t) :
    Calls Tryz.prog 18 #[.agg #[.slice a T.length cap], .string s, .agg #[.int .i64 ar, .slice ra Q.length rc]] w (ResV w M t) := by
  obtain ⟨W1, hW1⟩ : ∃ W1, W1 = ((w.alloc (.cells #[.slice a T.length cap] 25)).alloc (.cells #[.int .i64 ar, .slice ra Q.length rc] 46)).alloc (.cells #[.slice none 0 0] 25) := ⟨_, rfl⟩
  have B1 : Below w.heap.size w W1 := by subst hW1; exact Rw.next (below_alloc2 _ _ _) (below_alloc1 _ _)
  have k3 : W1.heap[w.heap.size]? = some (.cells #[.slice a T.length cap] 25 (0, 0)) := by subst hW1; rw [at_old (by simp <;> omega), at_old (by simp), at_new rfl]
  have k5 : W1.heap[w.heap.size + 1]? = some (.cells #[.int .i64 ar, .slice ra Q.length rc] 46 (0, 0)) := by subst hW1; rw [at_old (by simp), at_new (by simp)]
  have k6 : W1.heap[w.heap.size + 1 + 1]? = some (.cells #[.slice none 0 0] 25 (0, 0)) := by subst hW1; exact at_new (by simp)
  have r0 := h.below B1
  have q0 := hq.below B1
  clear h hq
  have hS := fun W h => St.okS_any a b off cap T W h
  have hR := fun W h => Rl.relS_any ar ra rb ro rc Q W h
  have hW := fun W => specWord_any s W hs
  have hno : putB (told T) (s, ar, said Q) = false → M = [] ∧ t = false := fun hp => by unfold PA at hA; rw [if_neg (fun z => by rw [hp] at z; simp at z)] at hA; exact hA
  have hyes : putB (told T) (s, ar, said Q) = true → if (setL (s, ar, said Q) (told T)).length ≤ 24 then M = setL (s, ar, said Q) (told T) ∧ t = true else M = [] ∧ t = false := fun hp => by
    unfold PA at hA
    by_cases q : (setL (s, ar, said Q) (told T)).length ≤ 24
    · rw [if_pos q]; rw [if_pos ⟨hp, q⟩] at hA; exact hA
    · rw [if_neg q]; rw [if_neg (fun z => q z.2)] at hA; exact hA
  cases hS0 : storeB (told T) with
  | false =>
    rw [hS0] at hS
    obtain ⟨rfl, rfl⟩ := hno (by simp [putB, St.oneB, hS0])
    clear hno hyes hA
    go_enter Tryz.func18, Tryz.ntmps18
    go_wp2_with (first
      | (go_at_call 50; rw [← hW1]; clear hW1; refine (hS _ r0).mono ?_; rintro e w1 ⟨rfl, hb⟩; replace B1 := Rw.next B1 hb; replace k3 := (hb.block _ (blk_lt k3)).trans k3; replace k5 := (hb.block _ (blk_lt k5)).trans k5; replace k6 := (hb.block _ (blk_lt k6)).trans k6; replace r0 := r0.below hb; replace q0 := q0.below hb; clear hb; have p3 := Pl.one k3; obtain ⟨p5, p5'⟩ := Pl.two k5; have p6 := Pl.one k6; have f6 := Vl.free k6; have l6 := blk_lt k6))
    refine bodyPost_ret (v := .tuple #[.agg #[.slice none 0 0], .bool false]) (by simp [results, Tryz.results18, go_sem, p6]) rfl ⟨.slice none 0 0, [], rfl, St.OS.nil _ _, rfl, ?_⟩
    repeat (first | with_reducible exact B1 | refine Vl.bset ?_ (by simp <;> omega))
  | true =>
  rw [hS0] at hS
  cases hR0 : relB ar (said Q) with
  | false =>
    rw [hR0] at hR
    obtain ⟨rfl, rfl⟩ := hno (by simp [putB, St.oneB, hS0, hR0])
    clear hno hyes hA
    go_enter Tryz.func18, Tryz.ntmps18
    go_wp2_with (first
      | (go_at_call 50; rw [← hW1]; clear hW1; refine (hS _ r0).mono ?_; rintro e w1 ⟨rfl, hb⟩; replace B1 := Rw.next B1 hb; replace k3 := (hb.block _ (blk_lt k3)).trans k3; replace k5 := (hb.block _ (blk_lt k5)).trans k5; replace k6 := (hb.block _ (blk_lt k6)).trans k6; replace r0 := r0.below hb; replace q0 := q0.below hb; clear hb; have p3 := Pl.one k3; obtain ⟨p5, p5'⟩ := Pl.two k5; have p6 := Pl.one k6; have f6 := Vl.free k6; have l6 := blk_lt k6)
      | (go_at_call 59; clear p3 p5 p5' p6 f6 l6; refine (hR _ q0).mono ?_; rintro e w2 ⟨rfl, hb⟩; replace B1 := Rw.next B1 hb; replace k3 := (hb.block _ (blk_lt k3)).trans k3; replace k5 := (hb.block _ (blk_lt k5)).trans k5; replace k6 := (hb.block _ (blk_lt k6)).trans k6; replace r0 := r0.below hb; replace q0 := q0.below hb; clear hb; have p3 := Pl.one k3; obtain ⟨p5, p5'⟩ := Pl.two k5; have p6 := Pl.one k6; have f6 := Vl.free k6; have l6 := blk_lt k6))
    refine bodyPost_ret (v := .tuple #[.agg #[.slice none 0 0], .bool false]) (by simp [results, Tryz.results18, go_sem, p6]) rfl ⟨.slice none 0 0, [], rfl, St.OS.nil _ _, rfl, ?_⟩
    repeat (first | with_reducible exact B1 | refine Vl.bset ?_ (by simp <;> omega))
  | true =>
  rw [hR0] at hR
  cases hW0 : wordB s with
  | false =>
    rw [hW0] at hW
    obtain ⟨rfl, rfl⟩ := hno (by simp [putB, St.oneB, hS0, hR0, hW0])
    clear hno hyes hA
    go_enter Tryz.func18, Tryz.ntmps18
    go_wp2_with (first
      | (go_at_call 50; rw [← hW1]; clear hW1; refine (hS _ r0).mono ?_; rintro e w1 ⟨rfl, hb⟩; replace B1 := Rw.next B1 hb; replace k3 := (hb.block _ (blk_lt k3)).trans k3; replace k5 := (hb.block _ (blk_lt k5)).trans k5; replace k6 := (hb.block _ (blk_lt k6)).trans k6; replace r0 := r0.below hb; replace q0 := q0.below hb; clear hb; have p3 := Pl.one k3; obtain ⟨p5, p5'⟩ := Pl.two k5; have p6 := Pl.one k6; have f6 := Vl.free k6; have l6 := blk_lt k6)
      | (go_at_call 59; clear p3 p5 p5' p6 f6 l6; refine (hR _ q0).mono ?_; rintro e w2 ⟨rfl, hb⟩; replace B1 := Rw.next B1 hb; replace k3 := (hb.block _ (blk_lt k3)).trans k3; replace k5 := (hb.block _ (blk_lt k5)).trans k5; replace k6 := (hb.block _ (blk_lt k6)).trans k6; replace r0 := r0.below hb; replace q0 := q0.below hb; clear hb; have p3 := Pl.one k3; obtain ⟨p5, p5'⟩ := Pl.two k5; have p6 := Pl.one k6; have f6 := Vl.free k6; have l6 := blk_lt k6)
      | (go_at_call 60; clear p3 p5 p5' p6 f6 l6; refine (hW _).mono ?_; rintro e w3 ⟨rfl, hw⟩; replace hw := hw.symm; subst hw; have p3 := Pl.one k3; obtain ⟨p5, p5'⟩ := Pl.two k5; have p6 := Pl.one k6; have f6 := Vl.free k6; have l6 := blk_lt k6))
    refine bodyPost_ret (v := .tuple #[.agg #[.slice none 0 0], .bool false]) (by simp [results, Tryz.results18, go_sem, p6]) rfl ⟨.slice none 0 0, [], rfl, St.OS.nil _ _, rfl, ?_⟩
    repeat (first | with_reducible exact B1 | refine Vl.bset ?_ (by simp <;> omega))
  | true =>
  rw [hW0] at hW
  have hp : putB (told T) (s, ar, said Q) = true := by simp [putB, St.oneB, hS0, hR0, hW0]
  have hY := hyes hp
  have fT : T.length ≤ 24 := by have := store_small hS0; rw [St.told_len] at this; exact this
  have h4T : ∀ x ∈ T, x.Q.length ≤ 100000 := fun x hx => by
    have := (store_one hS0 (List.mem_map_of_mem (f := Nm.l) hx)).2.few
    simp only [Nm.l, Rl.said_len] at this
    omega
  have h4Q : Q.length ≤ 100000 := by have := (relP_of hR0).few; rw [Rl.said_len] at this; omega
  have hU := fun W h q => set_any a b off cap T s ar ra rb ro rc Q W h hs q h4Q h4T (by omega)
  have h49 := set_few (N := told T) (x := (s, ar, said Q)) (by rw [St.told_len]; exact fT)
  have HY : Hid (if (setL (s, ar, said Q) (told T)).length ≤ 24 then M = setL (s, ar, said Q) (told T) ∧ t = true else M = [] ∧ t = false) := hY
  generalize setL (s, ar, said Q) (told T) = N at hU HY h49
  clear hno hyes hA hY hp
  go_enter Tryz.func18, Tryz.ntmps18
  go_wp2_with (first
      | (go_at_call 50; rw [← hW1]; clear hW1; refine (hS _ r0).mono ?_; rintro e w1 ⟨rfl, hb⟩; replace B1 := Rw.next B1 hb; replace k3 := (hb.block _ (blk_lt k3)).trans k3; replace k5 := (hb.block _ (blk_lt k5)).trans k5; replace k6 := (hb.block _ (blk_lt k6)).trans k6; replace r0 := r0.below hb; replace q0 := q0.below hb; clear hb; have p3 := Pl.one k3; obtain ⟨p5, p5'⟩ := Pl.two k5; have p6 := Pl.one k6; have f6 := Vl.free k6; have l6 := blk_lt k6)
      | (go_at_call 59; clear p3 p5 p5' p6 f6 l6; refine (hR _ q0).mono ?_; rintro e w2 ⟨rfl, hb⟩; replace B1 := Rw.next B1 hb; replace k3 := (hb.block _ (blk_lt k3)).trans k3; replace k5 := (hb.block _ (blk_lt k5)).trans k5; replace k6 := (hb.block _ (blk_lt k6)).trans k6; replace r0 := r0.below hb; replace q0 := q0.below hb; clear hb; have p3 := Pl.one k3; obtain ⟨p5, p5'⟩ := Pl.two k5; have p6 := Pl.one k6; have f6 := Vl.free k6; have l6 := blk_lt k6)
      | (go_at_call 60; clear p3 p5 p5' p6 f6 l6; refine (hW _).mono ?_; rintro e w3 ⟨rfl, hw⟩; replace hw := hw.symm; subst hw; have p3 := Pl.one k3; obtain ⟨p5, p5'⟩ := Pl.two k5; have p6 := Pl.one k6; have f6 := Vl.free k6; have l6 := blk_lt k6)
      | (go_at_call 61; clear p3 p5 p5' p6 f6 l6; have hB0 := B1.size; refine (hU _ r0 q0).mono ?_; rintro e w4 ⟨v, F, rfl, hos, hF, hb⟩; have sb := hb.size; have hF49 : F.length ≤ 49 := (by rw [← St.told_len, hF]; exact h49); obtain ⟨va, vg, vc, rfl, hown⟩ := hos.form (by omega); replace B1 := Rw.next B1 hb; have l60 := blk_lt k6; replace k6 := (hb.block _ (blk_lt k6)).trans k6; clear hb r0 q0 k3 k5 hown; have p6 := Pl.one k6; have f6 := Vl.free k6; have l6 := blk_lt k6; have HF : Hid (told F = N) := hF; clear hF))
  · have hgt : ¬ N.length ≤ 24 := by have := HF.out; rw [← this, St.told_len]; omega
    have hY := HY.out
    rw [if_neg hgt] at hY
    obtain ⟨rfl, rfl⟩ := hY
    have e6 : ((w4.setCell ⟨w.heap.size + 1 + 1, 0, none⟩ (.slice none 0 0)).alloc (.cells #[.slice va F.length vc] 25)).heap[w.heap.size + 1 + 1]? = some (.cells #[.slice none 0 0] 25 (0, 0)) := by rw [at_old (by simpa using l6)]; exact Sw.one_set k6
    have z6 := Pl.one e6
    have B2 : Below w.heap.size w ((w4.setCell ⟨w.heap.size + 1 + 1, 0, none⟩ (.slice none 0 0)).alloc (.cells #[.slice va F.length vc] 25)) := Rw.next (Vl.bset B1 (by simp; omega)) (below_alloc1 _ _)
    exact bodyPost_ret (v := .tuple #[.agg #[.slice none 0 0], .bool false]) (by simp [results, Tryz.results18, go_sem, z6]) rfl ⟨.slice none 0 0, [], rfl, St.OS.nil _ _, rfl, B2⟩
  · have hgt : N.length ≤ 24 := by have := HF.out; rw [← this, St.told_len]; omega
    have hY := HY.out
    rw [if_pos hgt] at hY
    obtain ⟨rfl, rfl⟩ := hY
    have e6 : ((w4.setCell ⟨w.heap.size + 1 + 1, 0, none⟩ (.slice va F.length vc)).alloc (.cells #[.slice va F.length vc] 25)).heap[w.heap.size + 1 + 1]? = some (.cells #[.slice va F.length vc] 25 (0, 0)) := by rw [at_old (by simpa using l6)]; exact Sw.one_set k6
    have z6 := Pl.one e6
    have B2 : Below w.heap.size w ((w4.setCell ⟨w.heap.size + 1 + 1, 0, none⟩ (.slice va F.length vc)).alloc (.cells #[.slice va F.length vc] 25)) := Rw.next (Vl.bset B1 (by simp; omega)) (below_alloc1 _ _)
    refine bodyPost_ret (v := .tuple #[.agg #[.slice va F.length vc], .bool true]) (by simp [results, Tryz.results18, go_sem, z6]) rfl ⟨.slice va F.length vc, F, rfl, ?_, HF.out, B2⟩
    refine St.OS.mono (B' := w.heap.size) ?_ hB0
    exact (hos.keep (fun x _ hx => Below.heap_setCell _ _ _ _ (by simp; omega)) (by simp)).below (below_alloc1 _ _)

theorem few_len {A : List NL} : ∀ {C : List NL}, A.Pairwise (fun x y => x.1 ≠ y.1) → (∀ z ∈ A, z ∈ C) → A.length ≤ C.length := by
  induction A with
  | nil => intro C _ _; simp
  | cons a A ih =>
    intro C h1 h2
    obtain ⟨q1, q2⟩ := List.pairwise_cons.1 h1
    obtain ⟨C1, C2, rfl⟩ := List.append_of_mem (h2 a (by simp))
    have := ih (C := C1 ++ C2) q2 (fun z hz => by
      have := h2 z (by simp [hz])
      rcases List.mem_append.1 this with h | h
      · exact List.mem_append_left _ h
      · rcases List.mem_cons.1 h with rfl | h
        · exact absurd rfl (q1 z hz)
        · exact List.mem_append_right _ h)
    simp only [List.length_append, List.length_cons] at this ⊢
    omega
theorem rises_apart {N : List NL} (h : N.Pairwise (fun x y => strLt x.1 y.1 = true)) : N.Pairwise (fun x y => x.1 ≠ y.1) :=
  h.imp fun {x y} hxy e => by rw [e, strLt_irr] at hxy; cases hxy
/-- The store that the map tells. -/
def setU (T : List Nm) (x : Nm) : List Nm := T.filter (fun y => decide (y.s ≠ x.s)) ++ [x]
theorem setU_map (T : List Nm) (x : Nm) : putL (T.map nv) (nv x) = (setU T x).map nv := by
  unfold putL setU
  rw [List.filter_map]
  simp only [List.map_append, List.map_cons, List.map_nil]
  rfl
theorem setU_mem (T : List Nm) (x : Nm) (l : NL) : l ∈ told (setU T x) ↔ (l ∈ told T ∧ l.1 ≠ x.s) ∨ l = x.l := by
  unfold setU
  rw [told_snoc, List.mem_append, List.mem_singleton]
  constructor
  · rintro (h | h)
    · obtain ⟨y, hy, rfl⟩ := List.mem_map.1 h
      obtain ⟨h1, h2⟩ := List.mem_filter.1 hy
      exact .inl ⟨List.mem_map_of_mem h1, (by simpa using h2 : y.s ≠ x.s)⟩
    · exact .inr h
  · rintro (⟨h1, h2⟩ | h)
    · obtain ⟨y, hy, rfl⟩ := List.mem_map.1 h1
      exact .inl (List.mem_map_of_mem (List.mem_filter.2 ⟨hy, by simpa [Nm.l] using h2⟩))
    · exact .inr h
theorem setU_len {T : List Nm} {x : Nm} (hB : storeB (told T) = true) : (setU T x).length = (setL x.l (told T)).length := by
  obtain ⟨f1, f2⟩ := setL_facts x.l (store_rises hB)
  have hm : ∀ l, l ∈ told (setU T x) ↔ l ∈ setL x.l (told T) := fun l => by rw [setU_mem, f2 l]; rfl
  have hap : (told (setU T x)).Pairwise (fun x y => x.1 ≠ y.1) := by
    unfold told
    rw [List.pairwise_map]
    unfold setU
    rw [List.pairwise_append]
    refine ⟨(store_apart hB).filter _, List.pairwise_singleton _ _, fun a ha b hb => ?_⟩
    obtain rfl := List.mem_singleton.1 hb
    simpa [Nm.l] using (List.mem_filter.1 ha).2
  have a1 := few_len hap (fun z hz => (hm z).1 hz)
  have a2 := few_len (rises_apart f1) (fun z hz => (hm z).2 hz)
  rw [St.told_len] at a1 a2
  omega
set_option maxHeartbeats 8000000 in
theorem putI_any (a : Option Addr) (b off cap : Nat) (T : List Nm) (s : ByteArray) (ar : Int) (ra : Option Addr) (rb ro rc : Nat) (Q : List Rm) (w : World) (h : St.Rd w a b off T) (hs : s.size ≤ maxLen) (hq : Rl.Rd w ra rb ro Q) (M : List NL) (t : Bool) (hA : PA (told T) (s, ar, said Q) M t) :
    Calls Tryz.prog 21 #[.agg #[.slice a T.length cap], .string s, .agg #[.int .i64 ar, .slice ra Q.length rc]] w (ResV w M t) := by
  obtain ⟨W1, hW1⟩ : ∃ W1, W1 = ((w.alloc (.cells #[.slice a T.length cap] 25)).alloc (.cells #[.int .i64 ar, .slice ra Q.length rc] 46)).alloc (.cells #[.slice none 0 0] 25) := ⟨_, rfl⟩
  have B1 : Below w.heap.size w W1 := by subst hW1; exact Rw.next (below_alloc2 _ _ _) (below_alloc1 _ _)
  have k3 : W1.heap[w.heap.size]? = some (.cells #[.slice a T.length cap] 25 (0, 0)) := by subst hW1; rw [at_old (by simp <;> omega), at_old (by simp), at_new rfl]
  have k5 : W1.heap[w.heap.size + 1]? = some (.cells #[.int .i64 ar, .slice ra Q.length rc] 46 (0, 0)) := by subst hW1; rw [at_old (by simp), at_new (by simp)]
  have k6 : W1.heap[w.heap.size + 1 + 1]? = some (.cells #[.slice none 0 0] 25 (0, 0)) := by subst hW1; exact at_new (by simp)
  have r0 := h.below B1
  have q0 := hq.below B1
  have hr0 := h
  have hq0 := hq
  clear h hq
  have hS := fun W h => St.okI_any a b off cap T W h
  have hR := fun W h => Rl.relI_any ar ra rb ro rc Q W h
  have hW := fun W => implWord_any s W hs
  have hno : putB (told T) (s, ar, said Q) = false → M = [] ∧ t = false := fun hp => by unfold PA at hA; rw [if_neg (fun z => by rw [hp] at z; simp at z)] at hA; exact hA
  have hyes : putB (told T) (s, ar, said Q) = true → if (setL (s, ar, said Q) (told T)).length ≤ 24 then M = setL (s, ar, said Q) (told T) ∧ t = true else M = [] ∧ t = false := fun hp => by
    unfold PA at hA
    by_cases q : (setL (s, ar, said Q) (told T)).length ≤ 24
    · rw [if_pos q]; rw [if_pos ⟨hp, q⟩] at hA; exact hA
    · rw [if_neg q]; rw [if_neg (fun z => q z.2)] at hA; exact hA
  cases hS0 : storeB (told T) with
  | false =>
    rw [hS0] at hS
    obtain ⟨rfl, rfl⟩ := hno (by simp [putB, St.oneB, hS0])
    clear hno hyes hA
    go_enter Tryz.func21, Tryz.ntmps21
    go_wp2_with (first
      | (go_at_call 46; rw [← hW1]; clear hW1; refine (hS _ r0).mono ?_; rintro e w1 ⟨rfl, hb⟩; replace B1 := Rw.next B1 hb; replace k3 := (hb.block _ (blk_lt k3)).trans k3; replace k5 := (hb.block _ (blk_lt k5)).trans k5; replace k6 := (hb.block _ (blk_lt k6)).trans k6; replace r0 := r0.below hb; replace q0 := q0.below hb; clear hb; have p3 := Pl.one k3; obtain ⟨p5, p5'⟩ := Pl.two k5; have p6 := Pl.one k6; have f6 := Vl.free k6; have l6 := blk_lt k6))
    refine bodyPost_ret (v := .tuple #[.agg #[.slice none 0 0], .bool false]) (by simp [results, Tryz.results21, go_sem, p6]) rfl ⟨.slice none 0 0, [], rfl, St.OS.nil _ _, rfl, ?_⟩
    repeat (first | with_reducible exact B1 | refine Vl.bset ?_ (by simp <;> omega))
  | true =>
  rw [hS0] at hS
  cases hW0 : wordB s with
  | false =>
    rw [hW0] at hW
    obtain ⟨rfl, rfl⟩ := hno (by simp [putB, St.oneB, hS0, hW0])
    clear hno hyes hA
    go_enter Tryz.func21, Tryz.ntmps21
    go_wp2_with (first
      | (go_at_call 46; rw [← hW1]; clear hW1; refine (hS _ r0).mono ?_; rintro e w1 ⟨rfl, hb⟩; replace B1 := Rw.next B1 hb; replace k3 := (hb.block _ (blk_lt k3)).trans k3; replace k5 := (hb.block _ (blk_lt k5)).trans k5; replace k6 := (hb.block _ (blk_lt k6)).trans k6; replace r0 := r0.below hb; replace q0 := q0.below hb; clear hb; have p3 := Pl.one k3; obtain ⟨p5, p5'⟩ := Pl.two k5; have p6 := Pl.one k6; have f6 := Vl.free k6; have l6 := blk_lt k6)
      | (go_at_call 64; clear p3 p5 p5' p6 f6 l6; refine (hW _).mono ?_; rintro e w2 ⟨rfl, hw⟩; replace hw := hw.symm; subst hw; have p3 := Pl.one k3; obtain ⟨p5, p5'⟩ := Pl.two k5; have p6 := Pl.one k6; have f6 := Vl.free k6; have l6 := blk_lt k6))
    refine bodyPost_ret (v := .tuple #[.agg #[.slice none 0 0], .bool false]) (by simp [results, Tryz.results21, go_sem, p6]) rfl ⟨.slice none 0 0, [], rfl, St.OS.nil _ _, rfl, ?_⟩
    repeat (first | with_reducible exact B1 | refine Vl.bset ?_ (by simp <;> omega))
  | true =>
  rw [hW0] at hW
  cases hR0 : relB ar (said Q) with
  | false =>
    rw [hR0] at hR
    obtain ⟨rfl, rfl⟩ := hno (by simp [putB, St.oneB, hS0, hW0, hR0])
    clear hno hyes hA
    go_enter Tryz.func21, Tryz.ntmps21
    go_wp2_with (first
      | (go_at_call 46; rw [← hW1]; clear hW1; refine (hS _ r0).mono ?_; rintro e w1 ⟨rfl, hb⟩; replace B1 := Rw.next B1 hb; replace k3 := (hb.block _ (blk_lt k3)).trans k3; replace k5 := (hb.block _ (blk_lt k5)).trans k5; replace k6 := (hb.block _ (blk_lt k6)).trans k6; replace r0 := r0.below hb; replace q0 := q0.below hb; clear hb; have p3 := Pl.one k3; obtain ⟨p5, p5'⟩ := Pl.two k5; have p6 := Pl.one k6; have f6 := Vl.free k6; have l6 := blk_lt k6)
      | (go_at_call 64; clear p3 p5 p5' p6 f6 l6; refine (hW _).mono ?_; rintro e w2 ⟨rfl, hw⟩; replace hw := hw.symm; subst hw; have p3 := Pl.one k3; obtain ⟨p5, p5'⟩ := Pl.two k5; have p6 := Pl.one k6; have f6 := Vl.free k6; have l6 := blk_lt k6)
      | (go_at_call 38; clear p3 p5 p5' p6 f6 l6; refine (hR _ q0).mono ?_; rintro e w3 ⟨rfl, hb⟩; replace B1 := Rw.next B1 hb; replace k3 := (hb.block _ (blk_lt k3)).trans k3; replace k5 := (hb.block _ (blk_lt k5)).trans k5; replace k6 := (hb.block _ (blk_lt k6)).trans k6; replace r0 := r0.below hb; replace q0 := q0.below hb; clear hb; have p3 := Pl.one k3; obtain ⟨p5, p5'⟩ := Pl.two k5; have p6 := Pl.one k6; have f6 := Vl.free k6; have l6 := blk_lt k6))
    refine bodyPost_ret (v := .tuple #[.agg #[.slice none 0 0], .bool false]) (by simp [results, Tryz.results21, go_sem, p6]) rfl ⟨.slice none 0 0, [], rfl, St.OS.nil _ _, rfl, ?_⟩
    repeat (first | with_reducible exact B1 | refine Vl.bset ?_ (by simp <;> omega))
  | true =>
  rw [hR0] at hR
  have hp : putB (told T) (s, ar, said Q) = true := by simp [putB, St.oneB, hS0, hR0, hW0]
  have hY := hyes hp
  have fT : T.length ≤ 24 := by have := store_small hS0; rw [St.told_len] at this; exact this
  have h4T : ∀ x ∈ T, x.Q.length ≤ 100000 := fun x hx => by
    have := (store_one hS0 (List.mem_map_of_mem (f := Nm.l) hx)).2.few
    simp only [Nm.l, Rl.said_len] at this
    omega
  have h4Q : Q.length ≤ 100000 := by have := (relP_of hR0).few; rw [Rl.said_len] at this; omega
  obtain ⟨x, hx⟩ : ∃ x : Nm, x = ⟨s, ar, ra, rb, ro, rc, Q⟩ := ⟨_, rfl⟩
  have hxl : x.l = (s, ar, said Q) := by rw [hx]; rfl
  have HP0 := setU_map T x
  have hUl := setU_len (x := x) hS0
  have hUm := setU_mem T x
  rw [hxl] at hUl
  have HSet : Hid (∀ T' : List Nm, (told T').Pairwise (fun x y => strLt x.1 y.1 = true) → (∀ l, l ∈ told T' ↔ l ∈ told (setU T x)) → told T' = setL (s, ar, said Q) (told T)) := fun T' h1 h2 => by
    obtain ⟨f1, f2⟩ := setL_facts (s, ar, said Q) (store_rises hS0)
    refine rising_ext h1 f1 fun l => ?_
    rw [h2 l, hUm l, f2 l, hxl]
    have : x.s = s := by rw [hx]
    rw [this]
  have HM : Hid (mapL T = T.map nv) := mapL_eq (store_apart hS0)
  have HOk : Hid (∀ y ∈ setU T x, y ∈ T ∨ y = x) := fun y hy => by
    unfold setU at hy
    rcases List.mem_append.1 hy with h | h
    · exact .inl (List.mem_filter.1 h).1
    · exact .inr (by simpa using h)
  have HX : Hid (x = ⟨s, ar, ra, rb, ro, rc, Q⟩) := hx
  have hnvx : nv x = (s, (ar, ra, Q.length, rc)) := by rw [hx]; rfl
  rw [hnvx] at HP0
  have HP : Hid (putL (T.map nv) (s, (ar, ra, Q.length, rc)) = (setU T x).map nv) := HP0
  have HY : Hid (if (setL (s, ar, said Q) (told T)).length ≤ 24 then M = setL (s, ar, said Q) (told T) ∧ t = true else M = [] ∧ t = false) := hY
  have H4 : Hid (∀ y ∈ setU T x, y.Q.length ≤ 100000) := fun y hy => by
    rcases HOk.out y hy with h | h
    · exact h4T y h
    · rw [h, hx]; exact h4Q
  generalize setU T x = U at HP HSet HOk H4 hUl hUm
  generalize setL (s, ar, said Q) (told T) = N at HSet HY hUl
  clear hno hyes hA hY hp hUm HP0 hnvx hxl hx
  by_cases h24 : U.length ≤ 24
  · have hY := HY.out
    rw [if_pos (by omega)] at hY
    obtain ⟨rfl, rfl⟩ := hY
    have hz24 : ¬ (U.length : Int) > 24 := by omega
    clear hUl
    go_enter Tryz.func21, Tryz.ntmps21
    go_wp2_with (first
      | (go_at_call 46; rw [← hW1]; clear hW1; refine (hS _ r0).mono ?_; rintro e w1 ⟨rfl, hb⟩; replace B1 := Rw.next B1 hb; replace k3 := (hb.block _ (blk_lt k3)).trans k3; replace k5 := (hb.block _ (blk_lt k5)).trans k5; replace k6 := (hb.block _ (blk_lt k6)).trans k6; replace r0 := r0.below hb; replace q0 := q0.below hb; clear hb; have p3 := Pl.one k3; obtain ⟨p5, p5'⟩ := Pl.two k5; have p6 := Pl.one k6; have f6 := Vl.free k6; have l6 := blk_lt k6)
      | (go_at_call 64; clear p3 p5 p5' p6 f6 l6; refine (hW _).mono ?_; rintro e w2 ⟨rfl, hw⟩; replace hw := hw.symm; subst hw; have p3 := Pl.one k3; obtain ⟨p5, p5'⟩ := Pl.two k5; have p6 := Pl.one k6; have f6 := Vl.free k6; have l6 := blk_lt k6)
      | (go_at_call 38; clear p3 p5 p5' p6 f6 l6; refine (hR _ q0).mono ?_; rintro e w3 ⟨rfl, hb⟩; replace B1 := Rw.next B1 hb; replace k3 := (hb.block _ (blk_lt k3)).trans k3; replace k5 := (hb.block _ (blk_lt k5)).trans k5; replace k6 := (hb.block _ (blk_lt k6)).trans k6; replace r0 := r0.below hb; replace q0 := q0.below hb; clear hb; have p3 := Pl.one k3; obtain ⟨p5, p5'⟩ := Pl.two k5; have p6 := Pl.one k6; have f6 := Vl.free k6; have l6 := blk_lt k6)
      | (go_at_call 53; clear p3 p5 p5' p6 f6 l6; refine (relsOf_any _ _ _ _ _ _ r0).mono ?_; rintro e w4 ⟨hb, Mb, D, rfl, hMb, ow, is⟩; have hMw : w.heap.size + 2 < Mb := (by have := blk_lt k6; omega); replace B1 := Rw.next B1 hb; replace k3 := (hb.block _ (blk_lt k3)).trans k3; replace k5 := (hb.block _ (blk_lt k5)).trans k5; replace k6 := (hb.block _ (blk_lt k6)).trans k6; replace r0 := r0.below hb; replace q0 := q0.below hb; clear hb; rw [HM.out] at is; have p3 := Pl.one k3; obtain ⟨p5, p5'⟩ := Pl.two k5; have p6 := Pl.one k6; have f6 := Vl.free k6; have l6 := blk_lt k6; clear hMb)
      | (at_mapUpdate; refine wpList_mapUpdate_own _ rfl _ _ _ 87 rfl 9 46 law Tryz.underlying87 elem Mb T.length D rfl ow (by unfold maxLen; omega) _ _ _ rfl rfl (key_mk hs) _ [] (elem_mk (ar, ra, Q.length, rc)) ?_; intro w5 ow5 hg5; clear p3 p5 p5' p6 f6 l6; have is5 := is.put (p := (s, (ar, ra, Q.length, rc))) hs; rw [HP.out] at is5; have z5 : Maps.size (D.put (lt s) (.held (mkV (ar, ra, Q.length, rc)))) = U.length := (by rw [is5.size]; simp); replace r0 := hr0.below (grown_below B1 hg5 (by omega)); replace q0 := hq0.below (grown_below B1 hg5 (by omega)); replace k6 := (hg5.block _ (blk_lt k6) (by simp; omega)).trans k6; replace B1 := grown_below B1 hg5 (by omega); have p6 := Pl.one k6; have f6 := Vl.free k6; have l6 := blk_lt k6)
      | (at_len; refine wpList_len_own _ rfl _ 87 rfl 9 46 Tryz.underlying87 elem Mb (T.length + 1) _ rfl ow5 ?_; rw [z5])
      | (go_at_call 65; clear p6 f6 l6; refine (store_any Mb (T.length + 1) _ U _ ow5 is5 (fun y hy => by rcases HOk.out y hy with h | h; exact rd_ok r0 y h; (rw [h, HX.out]; exact q0)) H4.out (by omega)).mono ?_; rintro e w6 ⟨v, F, rfl, hos, hri, hme, hle, hb⟩; have sb := hb.size; have hF := HSet.out F hri hme; obtain ⟨va, vg, vc, rfl, hown⟩ := hos.form (by omega); have l60 := blk_lt k6; replace B1 := Rw.next B1 hb; replace k6 := (hb.block _ (blk_lt k6)).trans k6; clear hb r0 q0 hown hri hme; have p6 := Pl.one k6; have f6 := Vl.free k6; have l6 := blk_lt k6; have HF : Hid (told F = M) := hF; clear hF)
      | go_in)
    have hsB := B1.size
    refine bodyPost_ret (v := .tuple #[.agg #[.slice va F.length vc], .bool true]) (by simp [results, Tryz.results21, go_sem, p6]) rfl ⟨.slice va F.length vc, F, rfl, ?_, HF.out, ?_⟩
    · refine St.OS.mono (B := w5.heap.size) ?_ (by omega)
      refine hos.keep (fun x _ hx => ?_) (by simp)
      repeat (first | rfl | refine (Below.heap_setCell _ _ _ _ (by simp; omega)).trans ?_)
    · repeat (first | with_reducible exact B1 | refine Vl.bset ?_ (by simp <;> omega))
  · have hY := HY.out
    rw [if_neg (by omega)] at hY
    obtain ⟨rfl, rfl⟩ := hY
    have hz24 : (U.length : Int) > 24 := by omega
    clear hUl
    go_enter Tryz.func21, Tryz.ntmps21
    go_wp2_with (first
      | (go_at_call 46; rw [← hW1]; clear hW1; refine (hS _ r0).mono ?_; rintro e w1 ⟨rfl, hb⟩; replace B1 := Rw.next B1 hb; replace k3 := (hb.block _ (blk_lt k3)).trans k3; replace k5 := (hb.block _ (blk_lt k5)).trans k5; replace k6 := (hb.block _ (blk_lt k6)).trans k6; replace r0 := r0.below hb; replace q0 := q0.below hb; clear hb; have p3 := Pl.one k3; obtain ⟨p5, p5'⟩ := Pl.two k5; have p6 := Pl.one k6; have f6 := Vl.free k6; have l6 := blk_lt k6)
      | (go_at_call 64; clear p3 p5 p5' p6 f6 l6; refine (hW _).mono ?_; rintro e w2 ⟨rfl, hw⟩; replace hw := hw.symm; subst hw; have p3 := Pl.one k3; obtain ⟨p5, p5'⟩ := Pl.two k5; have p6 := Pl.one k6; have f6 := Vl.free k6; have l6 := blk_lt k6)
      | (go_at_call 38; clear p3 p5 p5' p6 f6 l6; refine (hR _ q0).mono ?_; rintro e w3 ⟨rfl, hb⟩; replace B1 := Rw.next B1 hb; replace k3 := (hb.block _ (blk_lt k3)).trans k3; replace k5 := (hb.block _ (blk_lt k5)).trans k5; replace k6 := (hb.block _ (blk_lt k6)).trans k6; replace r0 := r0.below hb; replace q0 := q0.below hb; clear hb; have p3 := Pl.one k3; obtain ⟨p5, p5'⟩ := Pl.two k5; have p6 := Pl.one k6; have f6 := Vl.free k6; have l6 := blk_lt k6)
      | (go_at_call 53; clear p3 p5 p5' p6 f6 l6; refine (relsOf_any _ _ _ _ _ _ r0).mono ?_; rintro e w4 ⟨hb, Mb, D, rfl, hMb, ow, is⟩; have hMw : w.heap.size + 2 < Mb := (by have := blk_lt k6; omega); replace B1 := Rw.next B1 hb; replace k3 := (hb.block _ (blk_lt k3)).trans k3; replace k5 := (hb.block _ (blk_lt k5)).trans k5; replace k6 := (hb.block _ (blk_lt k6)).trans k6; replace r0 := r0.below hb; replace q0 := q0.below hb; clear hb; rw [HM.out] at is; have p3 := Pl.one k3; obtain ⟨p5, p5'⟩ := Pl.two k5; have p6 := Pl.one k6; have f6 := Vl.free k6; have l6 := blk_lt k6; clear hMb)
      | (at_mapUpdate; refine wpList_mapUpdate_own _ rfl _ _ _ 87 rfl 9 46 law Tryz.underlying87 elem Mb T.length D rfl ow (by unfold maxLen; omega) _ _ _ rfl rfl (key_mk hs) _ [] (elem_mk (ar, ra, Q.length, rc)) ?_; intro w5 ow5 hg5; clear p3 p5 p5' p6 f6 l6; have is5 := is.put (p := (s, (ar, ra, Q.length, rc))) hs; rw [HP.out] at is5; have z5 : Maps.size (D.put (lt s) (.held (mkV (ar, ra, Q.length, rc)))) = U.length := (by rw [is5.size]; simp); replace r0 := hr0.below (grown_below B1 hg5 (by omega)); replace q0 := hq0.below (grown_below B1 hg5 (by omega)); replace k6 := (hg5.block _ (blk_lt k6) (by simp; omega)).trans k6; replace B1 := grown_below B1 hg5 (by omega); have p6 := Pl.one k6; have f6 := Vl.free k6; have l6 := blk_lt k6)
      | (at_len; refine wpList_len_own _ rfl _ 87 rfl 9 46 Tryz.underlying87 elem Mb (T.length + 1) _ rfl ow5 ?_; rw [z5])
      | go_in)
    refine bodyPost_ret (v := .tuple #[.agg #[.slice none 0 0], .bool false]) (by simp [results, Tryz.results21, go_sem, p6]) rfl ⟨.slice none 0 0, [], rfl, St.OS.nil _ _, rfl, ?_⟩
    repeat (first | with_reducible exact B1 | refine Vl.bset ?_ (by simp <;> omega))

end Go.Proofs.YtecnbenlmbppbaaGreat.Mp
