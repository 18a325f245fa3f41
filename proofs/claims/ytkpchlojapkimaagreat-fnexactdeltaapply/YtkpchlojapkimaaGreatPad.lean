/-
  Texts laid together: Jp, Jdb, Jdd.
-/
import Derived.Test.YtkpchlojapkimaaGreatPac
import Derived.Test.YtkpchlojapkimaaGreatPab
import Derived.Test.YtkpchlojapkimaaGreatPu
namespace Go.Proofs.YtkpchlojapkimaaGreat.Ch
set_option maxRecDepth 8000
set_option linter.unusedSimpArgs false
set_option linter.unusedVariables false
open Go Go.ChangeShapes Go.WideShapes Go.RowKit
open Num Word Pl Rp
open Rl (Rm rm0 said twoB MA ResC OT)
open St (Nm nm0 NL storeB)
open Mp (Owns Is nv setL setL_facts few_len rises_apart strLt_irr store_rises store_small store_one)
open Vl (cmpS strLt)

/-- A change of a relation: what goes is taken out, what comes is put in. -/
def apL (c : CL) (r : QL) : List RowL := c.2.1.2.foldl putL (r.2.filter fun z => decide (z ∉ c.2.2.2))
def apR (c : CL) (r : QL) : Option QL := if (apL c r).length ≤ 300 then some (r.1, apL c r) else none
theorem two_of {ar : Int} {R S : List RowL} (h : RelP ar R) (k : RelP ar S) : twoB ar R ar S = true := by
  unfold twoB
  rw [relB_of h, relB_of k]
  simp
theorem run_ap {x : Cm} {r : QL} (hr : RelP r.1 r.2) (hp : RelP x.p.ar (said x.p.Q)) (hm : RelP x.m.ar (said x.m.Q)) (e1 : x.p.ar = r.1) (e2 : x.m.ar = r.1) : runE (editL x) r = apR x.l r := by
  obtain ⟨ar, R⟩ := r
  simp only at hr e1 e2
  rw [e1] at hp
  rw [e2] at hm
  have hX : mergeL stOne R (said x.m.Q) = R.filter fun z => decide (z ∉ said x.m.Q) := minus_eq hr.sorted hm.sorted hr.ok hm.ok
  have hXl : (mergeL stOne R (said x.m.Q)).length ≤ 300 := by rw [hX]; exact Nat.le_trans (List.length_filter_le _ _) hr.few
  have hXp : RelP ar (mergeL stOne R (said x.m.Q)) := merge_relP stOne hr hm hXl
  have hA : apL x.l (ar, R) = mergeL stAll (mergeL stOne R (said x.m.Q)) (said x.p.Q) := by
    rw [union_eq hXp.sorted hp.sorted hXp.ok hp.ok, hX]; rfl
  have hU : ∀ Z : List RowL, RelP ar Z → stepE (139, x.p) (ar, Z) = if (mergeL stAll Z (said x.p.Q)).length ≤ 300 then some (ar, mergeL stAll Z (said x.p.Q)) else none := fun Z hZ => by
    unfold stepE
    rw [show stE 139 = stAll from if_neg (by decide), e1]
    have ht := two_of hZ hp
    by_cases q : (mergeL stAll Z (said x.p.Q)).length ≤ 300
    · rw [if_pos q, if_pos ⟨ht, q⟩]
    · rw [if_neg q, if_neg (fun h => q h.2)]
  unfold apR
  rw [hA]
  by_cases h0 : 0 < x.m.Q.length
  · have eL : editL x = [(65, x.m), (139, x.p)] := by unfold editL; rw [if_pos h0]
    have h1 : stepE (65, x.m) (ar, R) = some (ar, mergeL stOne R (said x.m.Q)) := by
      unfold stepE
      rw [show stE 65 = stOne from if_pos rfl, e2]
      exact if_pos ⟨two_of hr hm, hXl⟩
    rw [eL]
    simp only [runE, h1, hU _ hXp]
    split
    · next hq => rw [hq]
    · next hq => rw [hq]
  · have hmn : said x.m.Q = [] := by
      have : (said x.m.Q).length = 0 := by rw [Rl.said_len]; omega
      exact List.eq_nil_of_length_eq_zero this
    have hR : mergeL stOne R (said x.m.Q) = R := by rw [hX, hmn]; exact List.filter_eq_self.2 (fun _ _ => by simp)
    rw [hR]
    by_cases h1 : 0 < x.p.Q.length
    · have eL : editL x = [(139, x.p)] := by unfold editL; rw [if_neg h0, if_pos h1]
      rw [eL]
      simp only [runE, hU _ hr]
      split
      · next hq => rw [hq]
      · next hq => rw [hq]
    · have eL : editL x = [] := by unfold editL; rw [if_neg h0, if_neg h1]
      have hpn : said x.p.Q = [] := by
        have : (said x.p.Q).length = 0 := by rw [Rl.said_len]; omega
        exact List.eq_nil_of_length_eq_zero this
      rw [eL]
      have hm0 : mergeL stAll R (said x.p.Q) = R := by rw [union_eq hr.sorted hp.sorted hr.ok hp.ok, hpn]; rfl
      rw [hm0, if_pos hr.few]
      rfl
theorem ap_relP {c : CL} {r : QL} {q : QL} (hr : RelP r.1 r.2) (hp : RelP r.1 c.2.1.2) (hm : RelP r.1 c.2.2.2) (h : apR c r = some q) : RelP q.1 q.2 ∧ q.1 = r.1 := by
  unfold apR at h
  split at h
  · next hl =>
    have hq := Option.some.inj h
    subst hq
    have hX : mergeL stOne r.2 c.2.2.2 = r.2.filter fun z => decide (z ∉ c.2.2.2) := minus_eq hr.sorted hm.sorted hr.ok hm.ok
    have hXl : (mergeL stOne r.2 c.2.2.2).length ≤ 300 := by rw [hX]; exact Nat.le_trans (List.length_filter_le _ _) hr.few
    have hXp : RelP r.1 (mergeL stOne r.2 c.2.2.2) := merge_relP stOne hr hm hXl
    have hA : apL c r = mergeL stAll (mergeL stOne r.2 c.2.2.2) c.2.1.2 := by
      rw [union_eq hXp.sorted hp.sorted hXp.ok hp.ok, hX]; rfl
    refine ⟨?_, rfl⟩
    show RelP r.1 (apL c r)
    rw [hA] at hl ⊢
    exact merge_relP stAll hXp hp hl
  · cases h

/-- All changes, one behind the other. -/
def apN : List CL → List NL → Option (List NL)
  | [], N => some N
  | c :: T, N => match N.find? (fun y => decide (y.1 = c.1)) with
    | none => none
    | some y => match apR c y.2 with
      | none => none
      | some q => apN T (setL (c.1, q) N)
def Rises (N : List NL) : Prop := N.Pairwise (fun x y => strLt x.1 y.1 = true)
theorem findN_yes {N : List NL} (h : N.Pairwise (fun x y => x.1 ≠ y.1)) {y : NL} (hy : y ∈ N) {s : ByteArray} (e : y.1 = s) : N.find? (fun z => decide (z.1 = s)) = some y := by
  induction N with
  | nil => simp at hy
  | cons x N ih =>
    obtain ⟨h1, h2⟩ := List.pairwise_cons.1 h
    rcases List.mem_cons.1 hy with rfl | hy
    · exact List.find?_cons_of_pos (by simpa using e)
    · rw [List.find?_cons_of_neg (by simpa using fun e2 => h1 y hy (e2.trans e.symm))]
      exact ih h2 hy
theorem find_set {x : NL} {N : List NL} (h : Rises N) {s : ByteArray} (hs : s ≠ x.1) : (setL x N).find? (fun z => decide (z.1 = s)) = N.find? (fun z => decide (z.1 = s)) := by
  obtain ⟨f1, f2⟩ := setL_facts x h
  cases hf : N.find? (fun z => decide (z.1 = s)) with
  | none =>
    rw [List.find?_eq_none] at hf ⊢
    intro z hz
    rcases (f2 z).1 hz with ⟨q, _⟩ | rfl
    · exact hf z q
    · simpa using fun e => hs e.symm
  | some y =>
    have h1 := List.mem_of_find?_eq_some hf
    have h2 : y.1 = s := by simpa using List.find?_some hf
    exact findN_yes (rises_apart f1) ((f2 y).2 (.inl ⟨h1, by rw [h2]; exact hs⟩)) h2
theorem set_le {x : NL} {N : List NL} (h : Rises N) {y : NL} (hy : y ∈ N) (e : y.1 = x.1) : (setL x N).length ≤ N.length := by
  obtain ⟨f1, f2⟩ := setL_facts x h
  have h1 : (setL x N).length ≤ (N.filter (fun z => decide (z.1 ≠ x.1)) ++ [x]).length := few_len (rises_apart f1) fun z hz => by
    rcases (f2 z).1 hz with ⟨q1, q2⟩ | rfl
    · exact List.mem_append_left _ (List.mem_filter.2 ⟨q1, by simpa using q2⟩)
    · simp
  have h2 : (N.filter (fun z => decide (z.1 ≠ x.1))).length < N.length := List.length_filter_lt_length_iff_exists.2 ⟨y, hy, by simpa using e⟩
  simp only [List.length_append, List.length_cons, List.length_nil] at h1
  omega

/-- Where the first k changes are made. -/
structure Done (S : List NL) (T : List CL) (k : Nat) (N : List NL) : Prop where
  rise : Rises N
  one : ∀ z ∈ N, St.oneB z = true
  few : N.length ≤ 24
  find : ∀ j, k ≤ j → j < T.length → N.find? (fun z => decide (z.1 = (T.getD j cl0).1)) = S.find? (fun z => decide (z.1 = (T.getD j cl0).1))
  res : apN (T.drop k) N = apN T S
theorem store_oneB {S : List NL} (h : storeB S = true) : ∀ z ∈ S, St.oneB z = true := by
  unfold storeB at h
  simp only [Bool.and_eq_true, List.all_eq_true] at h
  exact h.1.2
theorem Done.start {S : List NL} {T : List CL} (h : storeB S = true) : Done S T 0 S := ⟨store_rises h, store_oneB h, store_small h, fun _ _ _ => rfl, rfl⟩
theorem Done.last {S N : List NL} {T : List CL} (h : Done S T T.length N) : apN T S = some N := by
  rw [← h.res, List.drop_length]; rfl

theorem rises_far {T : List CL} (h : risesC T = true) (k : Nat) : ∀ d, k + d + 1 < T.length → strLt (T.getD k cl0).1 (T.getD (k + d + 1) cl0).1 = true := by
  have hs := (risesC_iff T).1 h
  intro d
  induction d with
  | zero => intro hd; exact hs k hd
  | succ d ih =>
    intro hd
    exact Mp.strLt_trans (ih (by omega)) (by have := hs (k + d + 1) (by omega); rwa [show k + d + 1 + 1 = k + (d + 1) + 1 by omega] at this)
theorem Done.step {S N : List NL} {T : List CL} {k : Nat} (hf : fitsB S T = true) (h : Done S T k N) (hk : k < T.length) :
    ∃ y ∈ N, y.1 = (T.getD k cl0).1 ∧ RelP y.2.1 y.2.2 ∧ RelP y.2.1 (T.getD k cl0).2.1.2 ∧ RelP y.2.1 (T.getD k cl0).2.2.2 ∧ (T.getD k cl0).2.1.1 = y.2.1 ∧ (T.getD k cl0).2.2.1 = y.2.1 ∧ wordB (T.getD k cl0).1 = true ∧
      (apR (T.getD k cl0) y.2 = none → apN T S = none) ∧ ∀ q, apR (T.getD k cl0) y.2 = some q → Done S T (k + 1) (setL ((T.getD k cl0).1, q) N) := by
  unfold fitsB deltaB at hf
  simp only [Bool.and_eq_true, List.all_eq_true, decide_eq_true_eq] at hf
  obtain ⟨⟨hS, ⟨hl, hC⟩, hR⟩, hF⟩ := hf
  have hfind := h.find k (Nat.le_refl _) hk
  have hdrop : T.drop k = T.getD k cl0 :: T.drop (k + 1) := by
    rw [List.drop_eq_getElem_cons hk]
    simp [List.getD, hk]
  have hres := h.res
  rw [hdrop] at hres
  have hne : ∀ j, k + 1 ≤ j → j < T.length → (T.getD j cl0).1 ≠ (T.getD k cl0).1 := fun j h1 h2 e => by
    have q := rises_far hR k (j - k - 1) (by omega)
    rw [show k + (j - k - 1) + 1 = j by omega, e, strLt_irr] at q
    cases q
  have hmem : T.getD k cl0 ∈ T := by
    rw [show T.getD k cl0 = T[k] by simp [List.getD, hk]]
    exact List.getElem_mem hk
  generalize T.getD k cl0 = c at hfind hres hne hmem ⊢
  have hc := hC c hmem
  have hfc := hF c hmem
  obtain ⟨p1, p2, p3⟩ := change_parts hc
  have hw : wordB c.1 = true := by
    unfold changeB at hc
    simp only [Bool.and_eq_true] at hc
    exact hc.1.1
  unfold fitB at hfc
  cases hs : S.find? (fun y => decide (y.1 = c.1)) with
  | none => rw [hs] at hfc; cases hfc
  | some y =>
    rw [hs] at hfc hfind
    have hy := List.mem_of_find?_eq_some hfind
    have he : y.1 = c.1 := by simpa using List.find?_some hfind
    have hrel : RelP y.2.1 y.2.2 := by
      have := h.one y hy
      unfold St.oneB at this
      rw [Bool.and_eq_true] at this
      exact relP_of this.2
    have hfr : fitR c y.2 = true := hfc
    unfold fitR apartB at hfr
    simp only [Bool.and_eq_true] at hfr
    obtain ⟨_, _, e1⟩ := two_parts hfr.2.1
    have e2 : c.2.2.1 = y.2.1 := p3.symm.trans e1
    have p1' : RelP y.2.1 c.2.1.2 := e1 ▸ p1
    have p2' : RelP y.2.1 c.2.2.2 := e1 ▸ p2
    refine ⟨y, hy, he, hrel, p1', p2', e1, e2, hw, fun hn => ?_, fun q hq => ?_⟩
    · rw [← hres]
      simp only [apN, hfind, hn]
    · obtain ⟨f1, f2⟩ := setL_facts (c.1, q) h.rise
      obtain ⟨hq1, hq2⟩ := ap_relP hrel p1' p2' hq
      refine ⟨f1, fun z hz => ?_, Nat.le_trans (set_le (x := (c.1, q)) h.rise hy he) h.few, fun j h1 h2 => ?_, ?_⟩
      · rcases (f2 z).1 hz with ⟨z1, _⟩ | rfl
        · exact h.one z z1
        · unfold St.oneB
          rw [Bool.and_eq_true]
          exact ⟨hw, relB_of hq1⟩
      · rw [find_set (x := (c.1, q)) h.rise (hne j h1 h2)]
        exact h.find j (by omega) h2
      · rw [← hres]
        simp only [apN, hfind, hq]
/-- What is answered. -/
def AA (S : List NL) (T : List CL) (M : List NL) (t : Bool) : Prop := if fitsB S T = true then (match apN T S with
  | some N => M = N ∧ t = true
  | none => M = [] ∧ t = false) else M = [] ∧ t = false
theorem run_done {S : List NL} {T : List CL} (hf : fitsB S T = true) : ∀ k, k ≤ T.length → apN T S = none ∨ ∃ N, Done S T k N
  | 0, _ => .inr ⟨S, Done.start (by unfold fitsB at hf; simp only [Bool.and_eq_true] at hf; exact hf.1.1)⟩
  | k + 1, hk => by
    rcases run_done hf k (by omega) with h | ⟨N, h⟩
    · exact .inl h
    · obtain ⟨y, _, _, _, _, _, _, _, _, h1, h2⟩ := h.step hf (by omega)
      cases hq : apR (T.getD k cl0) y.2 with
      | none => exact .inl (h1 hq)
      | some q => exact .inr ⟨_, h2 q hq⟩
theorem AA_some (S : List NL) (T : List CL) : ∃ M t, AA S T M t ∧ M.length ≤ 24 ∧ ∀ z ∈ M, St.oneB z = true := by
  by_cases hf : fitsB S T = true
  · rcases run_done hf T.length (Nat.le_refl _) with h | ⟨N, h⟩
    · exact ⟨[], false, by unfold AA; rw [if_pos hf, h]; exact ⟨rfl, rfl⟩, by simp, fun z hz => by simp at hz⟩
    · exact ⟨N, true, by unfold AA; rw [if_pos hf, h.last]; exact ⟨rfl, rfl⟩, h.few, h.one⟩
  · exact ⟨[], false, by unfold AA; rw [if_neg hf]; exact ⟨rfl, rfl⟩, by simp, fun z hz => by simp at hz⟩

end Go.Proofs.YtkpchlojapkimaaGreat.Ch

namespace Go.Proofs.YtkpchlojapkimaaGreat.Ch
set_option maxRecDepth 8000
set_option linter.unusedSimpArgs false
set_option linter.unusedVariables false
open Go Go.ChangeShapes Go.WideShapes Go.RowKit
open Num Word Pl Rp
open Rl (Rm rm0 said twoB MA ResC OT)
open St (Nm nm0 NL storeB)
open Mp (Owns Is nv setL setL_facts few_len rises_apart store_rises store_small store_one setU setU_map setU_mem lt mkV elem_mk elem_inv key_mk)
open Vl (cmpS strLt)

section
variable {ops : Array Oper} {rest : List Oper} {o : Oper} {a : Act} {Q : Exit → Act → World → Prop}
theorem look1 (w : World) (hg : o.guard = none) (m x : Operand) (hop : o.op = Op.lookup 77 m x false) (b n : Nat) (D : DataW Value) (hm : a.eval m = .map (some b)) (hown : Owns w b n D) (s : ByteArray) (hs : s.size ≤ maxLen) (hx : a.eval x = .string s)
    (ar : Int) (A : Option Addr) (l c : Nat) (hat : ∀ z, D.atKey (lt s) z = .held (mkV (ar, A, l, c)))
    (hK : wpList Tryz.prog ops Q rest (a.put o.dst (.agg #[.int .i64 ar, .slice A l c])) w) : wpList Tryz.prog ops Q (o :: rest) a w := by
  refine wpList_plain hg fun K' hK' => ?_
  obtain ⟨v, ps, hrun, hv⟩ := hown.lookup Mp.law Tryz.underlying77 (Mp.zeroRel w) (elem_mk (0, none, 0, 0)) (key_mk hs)
  obtain ⟨_, h2⟩ := elem_inv hv
  rw [hat] at h2
  injection h2 with h2 _
  injection h2 with h2
  rw [← h2] at hrun
  unfold Oper.wp
  simp [execOp, hop, hm, hx, hrun, Result.andThen]
  exact hK' _ _ hK
end
theorem Is.held {D : DataW Value} {U : List Nm} (h : Is D (U.map nv)) {u : Nm} (hu : u ∈ U) : ∀ z, D.atKey (lt u.s) z = .held (mkV (u.ar, u.a, u.Q.length, u.c)) := by
  have ap : U.Pairwise (fun x y => x.s ≠ y.s) := by have := h.apart; rw [List.pairwise_map] at this; exact this
  rcases h.find u.s with ⟨p, hp, e, _, hat⟩ | ⟨hn, _, _⟩
  · obtain ⟨y, hy, rfl⟩ := List.mem_map.1 hp
    have : y = u := Mp.same_of ap hy hu e
    subst this
    exact hat
  · exact absurd rfl (hn _ (List.mem_map_of_mem hu))
theorem U_few {D : DataW Value} {U : List Nm} {N : List NL} (h : Is D (U.map nv)) (hN : ∀ l, l ∈ St.told U ↔ l ∈ N) (h24 : N.length ≤ 24) : U.length ≤ 24 := by
  have ap : U.Pairwise (fun x y => x.s ≠ y.s) := by have := h.apart; rw [List.pairwise_map] at this; exact this
  have := few_len (A := St.told U) (C := N) (by unfold St.told; rw [List.pairwise_map]; exact ap) (fun z hz => (hN z).1 hz)
  rw [St.told_len] at this
  omega
theorem setU_or {U : List Nm} {x y : Nm} (h : y ∈ setU U x) : y ∈ U ∨ y = x := by
  unfold setU at h
  rcases List.mem_append.1 h with h | h
  · exact .inl (List.mem_filter.1 h).1
  · exact .inr (by simpa using h)
theorem not_map {w : World} {b q Mb n : Nat} {v : Value} {D : DataW Value} (h : w.cell? ⟨b, q, none⟩ = some v) (ow : Owns w Mb n D) : b ≠ Mb := by
  obtain ⟨es, clock, hb, _⟩ := ow
  intro e
  subst e
  simp [World.cell?, hb] at h
theorem rd_map_keep {w w' : World} {a : Option Addr} {b off Mb n : Nat} {Q : List Rm} {D : DataW Value} (h : Rl.Rd w a b off Q) (ow : Owns w Mb n D) (hk : ∀ z, z < w.heap.size → z ≠ Mb → w'.heap[z]? = w.heap[z]?) : Rl.Rd w' a b off Q := by
  refine h.keep ?_ fun r hr => ?_
  · by_cases h0 : Q.length = 0
    · exact .inl h0
    · have hc := h.cell 0 (by omega)
      exact .inr (hk _ (World.block_lt_of_cell? _ _ hc) (not_map hc ow))
  · by_cases h0 : r.l.length = 0
    · exact .inl h0
    · obtain ⟨i, hi, e⟩ := List.getElem_of_mem hr
      have ho := h.ok i hi
      have e2 : Q.getD i rm0 = r := by rw [← e]; simp [List.getD, hi]
      rw [e2] at ho
      have hc := (ho.cell 0 (by omega)).1
      exact .inr (hk _ (World.block_lt_of_cell? _ _ hc) (not_map hc ow))
theorem no_store {w w1 : World} {g : Nat} (B : Below w.heap.size w w1) (hg : w.heap.size ≤ g) : Mp.ResV w [] false (.returned (.tuple #[.agg #[.slice none 0 0], .bool false])) (w1.setCell ⟨g, 0, none⟩ (.slice none 0 0)) :=
  ⟨.slice none 0 0, [], rfl, St.OS.nil _ _, rfl, Vl.bset B (by simpa using hg)⟩

set_option maxHeartbeats 16000000 in
theorem applyI_any (a : Option Addr) (b off cap : Nat) (S : List Nm) (a' : Option Addr) (b' off' cap' : Nat) (T : List Cm) (w : World) (h : St.Rd w a b off S) (hSr : St.Rooms S) (h' : Rd w a' b' off' T) (hm : Rooms T) (M : List NL) (t : Bool) (hA : AA (St.told S) (told T) M t) :
    Calls Tryz.prog 11 #[.agg #[.slice a S.length cap], .agg #[.slice a' T.length cap']] w (Mp.ResV w M t) := by
  obtain ⟨W1, hW1⟩ : ∃ W1, W1 = ((w.alloc (.cells #[.slice a S.length cap] 25)).alloc (.cells #[.slice a' T.length cap'] 30)).alloc (.cells #[.slice none 0 0] 25) := ⟨_, rfl⟩
  have B1 : Below w.heap.size w W1 := by subst hW1; exact Rw.next (below_alloc2 _ _ _) (below_alloc1 _ _)
  have k0 : W1.heap[w.heap.size]? = some (.cells #[.slice a S.length cap] 25 (0, 0)) := by subst hW1; rw [at_old (by simp; omega), at_old (by simp), at_new rfl]
  have k1 : W1.heap[w.heap.size + 1]? = some (.cells #[.slice a' T.length cap'] 30 (0, 0)) := by subst hW1; rw [at_old (by simp), at_new (by simp)]
  have k2 : W1.heap[w.heap.size + 1 + 1]? = some (.cells #[.slice none 0 0] 25 (0, 0)) := by subst hW1; exact at_new (by simp)
  have hF := fun W (b : Below w.heap.size w W) => fitsI_any a _ off cap S a' _ off' cap' T W (h.below b) hSr (h'.below b) hm
  have hT0 := h'
  replace h := h.below B1
  cases hf : fitsB (St.told S) (told T) with
  | false =>
    unfold AA at hA
    rw [hf, if_neg (by simp)] at hA
    obtain ⟨rfl, rfl⟩ := hA
    rw [hf] at hF
    have hF1 := hF W1 B1
    clear hF h hT0 h'
    go_enter Tryz.func11, Tryz.ntmps11
    go_wp2_with (go_at_call 22; rw [← hW1]; clear hW1; refine hF1.mono ?_; rintro e w1 ⟨rfl, hb⟩; replace B1 := Rw.next B1 hb; replace k2 := (hb.block _ (blk_lt k2)).trans k2; have z0 := Pl.one k2; have f2 := Vl.free k2)
    have e0 := Sw.one_set (u := .slice none 0 0) k2
    have t0 := Pl.one e0
    exact bodyPost_ret (v := .tuple #[.agg #[.slice none 0 0], .bool false]) (by simp [results, Tryz.results11, go_sem, t0]) rfl (no_store B1 (by omega))
  | true =>
  have hST : storeB (St.told S) = true := by unfold fitsB at hf; simp only [Bool.and_eq_true] at hf; exact hf.1.1
  have HA : Hid (match apN (told T) (St.told S) with
    | some N => M = N ∧ t = true
    | none => M = [] ∧ t = false) := by unfold AA at hA; rw [hf, if_pos rfl] at hA; exact hA
  have HM : Hid (Mp.mapL S = S.map nv) := Mp.mapL_eq (Mp.store_apart hST)
  have HS0 : Hid (Done (St.told S) (told T) 0 (St.told S)) := Done.start hST
  have HSr : Hid (∀ y ∈ S, y.Q.length ≤ y.c) := hSr.mem
  have HFT : Hid (fitsB (St.told S) (told T) = true) := hf
  have fS : S.length ≤ 24 := by have := store_small hST; rw [St.told_len] at this; exact this
  rw [hf] at hF
  have hF1 := hF W1 B1
  clear hF hA hf hST h'
  go_enter Tryz.func11, Tryz.ntmps11
  go_wp2_with (first
    | (go_at_call 22; rw [← hW1]; clear hW1; refine hF1.mono ?_; rintro e w1 ⟨rfl, hb⟩; replace B1 := Rw.next B1 hb; replace k0 := (hb.block _ (blk_lt k0)).trans k0; replace k1 := (hb.block _ (blk_lt k1)).trans k1; replace k2 := (hb.block _ (blk_lt k2)).trans k2; replace h := h.below hb; clear hb; have p0 := Pl.one k0)
    | (go_at_call 41; clear p0; refine (Mp.relsOf_any _ _ _ _ _ _ h).mono ?_; rintro e w3 ⟨hb, Mb, D, rfl, hMb, ow, is⟩; have gM : w.heap.size + 1 + 1 < Mb := (by have := blk_lt k2; omega); replace B1 := Rw.next B1 hb; replace k1 := (hb.block _ (blk_lt k1)).trans k1; replace k2 := (hb.block _ (blk_lt k2)).trans k2; replace h := h.below hb; clear hb hMb k0; rw [HM.out] at is; have p1 := Pl.one k1))
  have HU0 : Hid (∀ y ∈ S, y.Ok w3) := Mp.rd_ok h
  have HB3 : Hid (Below w.heap.size w w3) := B1
  have HIS : Hid (Is D (S.map nv)) := is
  have HOW : Hid (Owns w3 Mb S.length D) := ow
  clear h p1 k1 B1 is ow HM hF1
  obtain ⟨hh, hc, ho, hs, hst⟩ := hT0
  have HC : Hid (∀ i, i < T.length → Cm.At w b' off' i (T.getD i cm0)) := hc
  have HO : Hid (∀ i, i < T.length → (T.getD i cm0).Ok w) := ho
  have HH : Hid (0 < T.length → a' = some ⟨b', off', none⟩) := hh
  have HST : Hid (∀ i, i < T.length → (T.getD i cm0).s.size ≤ maxLen) := hst
  have HRM : Hid (∀ i, i < T.length → (T.getD i cm0).Room) := hm
  have HTA : Hid (∀ i, i < T.length → (told T).getD i cl0 = (T.getD i cm0).l) := fun i hi => told_at hi
  have HTL : Hid ((told T).length = T.length) := told_len T
  clear hc ho hh hst hm
  obtain ⟨n, hn⟩ : ∃ n, n = T.length := ⟨_, rfl⟩
  rw [← hn] at HC HO HH HST HRM HTA HTL hs ⊢
  clear hn
  go_loopw [21] (fun i wr => ∃ (k : Nat) (U : List Nm) (N : List NL) (D : DataW Value) (q : Nat), k ≤ n ∧ i = .int .i64 k ∧ Below w.heap.size w wr ∧ wr.heap[w.heap.size + 1 + 1]? = some (.cells #[.slice none 0 0] 25 (0, 0)) ∧ Owns wr Mb q D ∧ q ≤ 24 + k ∧ Is D (U.map nv) ∧ (∀ y ∈ U, y.Ok wr) ∧ (∀ y ∈ U, y.Q.length ≤ y.c) ∧ (∀ l, l ∈ St.told U ↔ l ∈ N) ∧ Done (St.told S) (told T) k N) (fun i _ => n - (intOf i).toNat)
  case atStart => exact ⟨0, S, St.told S, D, S.length, Nat.zero_le _, rfl, HB3.out, k2, HOW.out, by omega, HIS.out, HU0.out, HSr.out, fun l => Iff.rfl, HS0.out⟩
  case round =>
    obtain ⟨k, U, N, D1, q, hk, rfl, hbel, kR, ow, hq, is, hU, hUr, hUN, hdn⟩ := hrel
    clear k2 HOW HIS HU0 HSr HS0 HB3
    have lR := blk_lt kR
    by_cases hlt : k < n
    · obtain rfl := HH.out (by omega)
      have hkz : (k : Int) < (n : Int) := by omega
      have hktl : k < (told T).length := by have := HTL.out; omega
      obtain ⟨y, hyN, hyn, r1, r2, r3, e1, e2, hw, hno, hyes⟩ := hdn.step HFT.out hktl
      rw [HTA.out k hlt] at hyn r2 r3 e1 e2 hw hno hyes
      obtain ⟨u, hu, hul⟩ := Mp.told_mem ((hUN y).2 hyN)
      have hus : u.s = (T.getD k cm0).s := (congrArg (fun z : NL => z.1) hul).trans hyn
      have hat := Is.held is hu
      rw [hus] at hat
      have okU := hU u hu
      have rmU := hUr u hu
      have hu4 : u.Q.length ≤ 100000 := by
        have h1 := r1.few
        rw [← hul] at h1
        simp only [Nm.l, Rl.said_len] at h1
        omega
      have hrun : runE (editL (T.getD k cm0)) (u.ar, said u.Q) = apR (T.getD k cm0).l y.2 := by
        have e : y.2 = (u.ar, said u.Q) := by rw [← hul]; rfl
        rw [e] at r1 r2 r3 e1 e2 ⊢
        exact run_ap r1 (by rw [show (T.getD k cm0).p.ar = u.ar from e1]; exact r2) (by rw [show (T.getD k cm0).m.ar = u.ar from e2]; exact r3) e1 e2
      obtain ⟨c0, c1, c2, c3, c4⟩ := At5.of (HC.out k hlt) hbel (HC.out k hlt).lt
      have okX : (T.getD k cm0).Ok wr := ⟨Rl.Rd.below (HO.out k hlt).1 hbel, Rl.Rd.below (HO.out k hlt).2 hbel⟩
      have hsx := HST.out k hlt
      have rmX := HRM.out k hlt
      have HK4 : Hid (∀ q', apR (T.getD k cm0).l y.2 = some q' → Done (St.told S) (told T) (k + 1) (setL ((T.getD k cm0).s, q') N)) := hyes
      have HK0 : Hid (apR (T.getD k cm0).l y.2 = none → apN (told T) (St.told S) = none) := hno
      have HUN : Hid (∀ l, l ∈ St.told U ↔ l ∈ N) := hUN
      have HIS : Hid (Is D1 (U.map nv)) := is
      have HUO : Hid (∀ y ∈ U, y.Ok wr) := hU
      have HUR : Hid (∀ y ∈ U, y.Q.length ≤ y.c) := hUr
      have HRI : Hid (Rises N) := hdn.rise
      clear hyn r1 r2 r3 e1 e2 hw hno hyes hyN hul hdn hUN is hU hUr hu HC HO HST HRM HTA HH
      generalize T.getD k cm0 = x at hat hrun c0 c1 c2 c3 c4 okX hsx rmX HK4 HK0
      obtain ⟨W4, hW4⟩ : ∃ W4, W4 = wr.alloc (.cells #[.string x.s, .int .i64 x.p.ar, .slice x.p.a x.p.Q.length x.p.c, .int .i64 x.m.ar, .slice x.m.a x.m.Q.length x.m.c] 71) := ⟨_, rfl⟩
      have b4 : Below wr.heap.size wr W4 := by subst hW4; exact below_alloc1 _ _
      have k4 : W4.heap[wr.heap.size]? = some (.cells #[.string x.s, .int .i64 x.p.ar, .slice x.p.a x.p.Q.length x.p.c, .int .i64 x.m.ar, .slice x.m.a x.m.Q.length x.m.c] 71 (0, 0)) := by subst hW4; exact at_new rfl
      have ow4 : Owns W4 Mb q D1 := Mp.owns_below ow b4
      have hE := edited_any u.ar u.a u.b u.o u.c u.Q x W4 (Rl.Rd.below okU b4) hu4 ⟨Rl.Rd.below okX.1 b4, Rl.Rd.below okX.2 b4⟩ rmX
      rw [hrun] at hE
      have B4 := Rw.next hbel b4
      have kR4 := (b4.block _ lR).trans kR
      have l4 := blk_lt k4
      have HB4 : Hid (∀ y ∈ U, y.Ok W4) := fun y hy => Rl.Rd.below (HUO.out y hy) b4
      have MbL : Mb < W4.heap.size := ow4.lt
      clear okU okX hrun rmU hus b4 HUO kR hu4
      obtain ⟨p0, p1, p2, p3, p4⟩ := five k4
      obtain ⟨ua, ur, un, uc, he⟩ : ∃ (ua : Option Addr) (ur : Int) (un uc : Nat), u.a = ua ∧ u.ar = ur ∧ u.Q.length = un ∧ u.c = uc := ⟨_, _, _, _, rfl, rfl, rfl, rfl⟩
      obtain ⟨he1, he2, he3, he4⟩ := he
      rw [he1, he2, he3, he4] at hat hE
      clear he1 he2 he3 he4
      cases hap : apR x.l y.2 with
      | none =>
        rw [hap] at hE
        have HZ : Hid (apN (told T) (St.told S) = none) := HK0.out hap
        have hAN := HA.out
        rw [HZ.out] at hAN
        obtain ⟨rfl, rfl⟩ := hAN
        clear HK0 HK4 hap
        go_wp2_with (first
          | (at_lookup; rw [← hW4]; clear hW4; refine look1 _ rfl _ _ rfl Mb q D1 rfl ow4 x.s hsx rfl ur ua un uc hat ?_)
          | (go_at_call 42; refine hE.mono ?_; rintro e w5 ⟨hb, rfl⟩; replace kR4 := (hb.block _ (blk_lt kR4)).trans kR4; have l5 := blk_lt kR4; replace B4 := Rw.next B4 hb; have z0 := Pl.one kR4; have fR := Vl.free kR4)
          | go_in)
        have e0 := (at_old (o := .cells #[.int .i64 0, .slice none 0 0] 67) (by simpa using l5)).trans (Sw.one_set (u := .slice none 0 0) kR4)
        have t0 := Pl.one e0
        refine bodyPost_ret (v := .tuple #[.agg #[.slice none 0 0], .bool false]) (by simp [results, Tryz.results11, go_sem, t0]) rfl ?_
        exact ⟨.slice none 0 0, [], rfl, St.OS.nil _ _, rfl, Rw.next (Vl.bset B4 (by simp <;> omega)) (below_alloc1 _ _)⟩
      | some qq =>
        rw [hap] at hE
        have HD : Hid (Done (St.told S) (told T) (k + 1) (setL (x.s, qq) N)) := HK4.out qq hap
        clear HK0 HK4 hap
        obtain ⟨qar, qR⟩ := qq
        go_wp2_with (first
          | (at_lookup; rw [← hW4]; clear hW4; refine look1 _ rfl _ _ rfl Mb q D1 rfl ow4 x.s hsx rfl ur ua un uc hat ?_)
          | (go_at_call 42; refine hE.mono ?_; rintro e w5 ⟨hb, A5, b5, c5, F5, rfl, fr5, sF5⟩; obtain ⟨W6, hW6⟩ : ∃ W6, W6 = w5.alloc (.cells #[.int .i64 qar, .slice A5 F5.length c5] 67) := ⟨_, rfl⟩; have b6 : Below w5.heap.size w5 W6 := (by subst hW6; exact below_alloc1 _ _); have k6 : W6.heap[w5.heap.size]? = some (.cells #[.int .i64 qar, .slice A5 F5.length c5] 67 (0, 0)) := (by subst hW6; exact at_new rfl); have b46 := Rw.next hb b6; have ow6 := Mp.owns_below ow4 b46; replace k4 := (hb.block _ (blk_lt k4)).trans k4; have l45 := blk_lt k4; replace kR4 := (b46.block _ (blk_lt kR4)).trans kR4; have s5 := hb.size; replace B4 := Rw.next B4 b46; have HU6 : Hid (∀ y ∈ U, y.Ok W6) := (fun y hy => Rl.Rd.below (HB4.out y hy) b46); have FR6 : Hid (Fr W6 W4.heap.size A5 b5 c5 F5) := fr5.below b6; have HSF : Hid (said F5 = qR) := sF5; have l5 := blk_lt k6; clear hb b6 b46 fr5 sF5 p0 p1 p2 p3 p4; obtain ⟨p0, p1, p2, p3, p4⟩ := five k4)
          | (at_mapUpdate; rw [← hW6]; clear hW6; refine wpList_mapUpdate_own _ rfl _ _ _ 77 rfl 9 67 Mp.law Tryz.underlying77 Mp.elem Mb q D1 rfl ow6 (by unfold maxLen; omega) _ _ _ rfl rfl (key_mk hsx) _ [] (elem_mk (qar, A5, F5.length, c5)) ?_; intro w7 ow7 hg7; have B7 := Mp.grown_below B4 hg7 (by omega); have kR7 := (hg7.block _ (blk_lt kR4) (by simp; omega)).trans kR4; have HG7 : Hid (∀ z, z < W6.heap.size → z ≠ Mb → w7.heap[z]? = W6.heap[z]?) := (fun z h1 h2 => hg7.block z h1 (by simp; omega)))
          | go_in)
        go_roundw
        case rel =>
          have HSX : Hid ((nv (⟨x.s, qar, A5, b5, 0, c5, F5⟩ : Nm)) = (x.s, (qar, A5, F5.length, c5))) := rfl
          refine ⟨k + 1, setU U ⟨x.s, qar, A5, b5, 0, c5, F5⟩, setL (x.s, (qar, qR)) N, _, q + 1, by omega, by go_num, B7, kR7, ow7, by omega, ?_, fun y hy => ?_, fun y hy => ?_, fun l => ?_, HD.out⟩
          · rw [← setU_map]
            exact HIS.out.put (p := nv (⟨x.s, qar, A5, b5, 0, c5, F5⟩ : Nm)) hsx
          · rcases setU_or hy with hy | hy
            · exact rd_map_keep (HU6.out y hy) ow6 HG7.out
            · subst hy
              exact rd_map_keep FR6.out.rd ow6 HG7.out
          · rcases setU_or hy with hy | hy
            · exact HUR.out y hy
            · subst hy
              exact FR6.out.room
          · rw [setU_mem, (setL_facts (x.s, (qar, qR)) HRI.out).2 l, HUN.out l]
            have e : Nm.l ⟨x.s, qar, A5, b5, 0, c5, F5⟩ = (x.s, (qar, qR)) := by rw [← HSF.out]; rfl
            rw [e]
        case measure => simp [intOf]; omega
    · have hke : k = n := by omega
      have hkz : ¬ (k : Int) < (n : Int) := by omega
      have hfew := U_few is hUN hdn.few
      have hu4 : ∀ y ∈ U, y.Q.length ≤ 100000 := fun y hy => by
        have h1 := hdn.one _ ((hUN _).1 (Mp.mem_told hy))
        unfold St.oneB at h1
        simp only [Bool.and_eq_true] at h1
        have h2 := (relP_of h1.2).few
        simp only [Nm.l, Rl.said_len] at h2
        omega
      have HL : Hid (apN (told T) (St.told S) = some N) := by
        have e : k = (told T).length := by rw [HTL.out]; exact hke
        rw [e] at hdn
        exact hdn.last
      have HRI : Hid (Rises N) := hdn.rise
      have HUN : Hid (∀ l, l ∈ St.told U ↔ l ∈ N) := hUN
      have hAN := HA.out
      rw [HL.out] at hAN
      obtain ⟨rfl, rfl⟩ := hAN
      have hstore := Mp.store_any Mb q D1 U wr ow is hU hu4 (by omega)
      clear hke hdn hUN hU hUr is hu4
      go_wp2_with (go_at_call 43; refine hstore.mono ?_; rintro e w6 ⟨v, F, rfl, hos, hri, hme, hle, hb⟩; have sb := hb.size; have hF : St.told F = M := Mp.rising_ext hri HRI.out (fun l => (hme l).trans (HUN.out l)); have hFl := few_len (A := St.told F) (C := M) (by rw [hF]; exact rises_apart HRI.out) (fun z hz => by rw [← hF]; exact hz); obtain ⟨va, vg, vc, rfl, hown⟩ := hos.form (by have := hle; omega); have l60 := lR; replace hbel := Rw.next hbel hb; replace kR := (hb.block _ lR).trans kR; have z0 := Pl.one kR; have fR := Vl.free kR; have HF : Hid (St.told F = M) := hF; clear hF hb hri hme hown)
      have hsB := hbel.size
      have e0 := Sw.one_set (u := .slice va F.length vc) kR
      have t0 := Pl.one e0
      refine bodyPost_ret (v := .tuple #[.agg #[.slice va F.length vc], .bool true]) (by simp [results, Tryz.results11, go_sem, t0]) rfl ⟨.slice va F.length vc, F, rfl, ?_, HF.out, Vl.bset hbel (by simp <;> omega)⟩
      refine St.OS.mono (B := wr.heap.size) ?_ (by omega)
      exact hos.keep (fun x _ hx => Below.heap_setCell _ _ _ _ (by simp; omega)) (by simp)

end Go.Proofs.YtkpchlojapkimaaGreat.Ch

namespace Go.Proofs.YtkpchlojapkimaaGreat.Ch
set_option maxRecDepth 8000
set_option linter.unusedSimpArgs false
set_option linter.unusedVariables false
open Go Go.ChangeShapes Go.WideShapes Go.RowKit
open Num Word Pl Rp
open Rl (Rm rm0 said twoB MA ResC OT Aw)
open St (Nm nm0 NL storeB)
open Mp (setL setL_facts few_len rises_apart store_rises store_small store_one)
open Vl (cmpS strLt)

theorem os_keep {w w' : World} {B : Nat} {v : Value} {F : List Nm} (h : St.OS w B v F) (hk : ∀ z, z < w.heap.size → B ≤ z → w'.heap[z]? = w.heap[z]?) (hs : w.heap.size ≤ w'.heap.size) : St.OS w' B v F := h.keep hk hs
theorem ap_said {x : Cm} {ar : Int} {R : List RowL} : apL x.l (ar, R) = (said x.p.Q).foldl putL (R.filter fun z => decide (z ∈ said x.m.Q) == false) := by
  unfold apL
  rw [filter_not]
  rfl

set_option maxHeartbeats 16000000 in
theorem applyS_any (a : Option Addr) (b off cap : Nat) (S : List Nm) (a' : Option Addr) (b' off' cap' : Nat) (T : List Cm) (w : World) (h : St.Rd w a b off S) (h' : Rd w a' b' off' T) (M : List NL) (t : Bool) (hA : AA (St.told S) (told T) M t) :
    Calls Tryz.prog 25 #[.agg #[.slice a S.length cap], .agg #[.slice a' T.length cap']] w (Mp.ResV w M t) := by
  obtain ⟨W1, hW1⟩ : ∃ W1, W1 = ((w.alloc (.cells #[.slice a S.length cap] 25)).alloc (.cells #[.slice a' T.length cap'] 30)).alloc (.cells #[.slice none 0 0] 25) := ⟨_, rfl⟩
  have B1 : Below w.heap.size w W1 := by subst hW1; exact Rw.next (below_alloc2 _ _ _) (below_alloc1 _ _)
  have k0 : W1.heap[w.heap.size]? = some (.cells #[.slice a S.length cap] 25 (0, 0)) := by subst hW1; rw [at_old (by simp; omega), at_old (by simp), at_new rfl]
  have k1 : W1.heap[w.heap.size + 1]? = some (.cells #[.slice a' T.length cap'] 30 (0, 0)) := by subst hW1; rw [at_old (by simp), at_new (by simp)]
  have k2 : W1.heap[w.heap.size + 1 + 1]? = some (.cells #[.slice none 0 0] 25 (0, 0)) := by subst hW1; exact at_new (by simp)
  have hF1 := fitsS_any a b off cap S a' b' off' cap' T W1 (h.below B1) (h'.below B1)
  have hT0 := h'
  replace h := h.below B1
  cases hf : fitsB (St.told S) (told T) with
  | false =>
    unfold AA at hA
    rw [hf, if_neg (by simp)] at hA
    obtain ⟨rfl, rfl⟩ := hA
    rw [hf] at hF1
    clear h hT0 h'
    go_enter Tryz.func25, Tryz.ntmps25
    go_wp2_with (go_at_call 19; rw [← hW1]; clear hW1; refine hF1.mono ?_; rintro e w1 ⟨rfl, hb⟩; replace B1 := Rw.next B1 hb; replace k2 := (hb.block _ (blk_lt k2)).trans k2; have z0 := Pl.one k2; have f2 := Vl.free k2)
    have e0 := Sw.one_set (u := .slice none 0 0) k2
    have t0 := Pl.one e0
    exact bodyPost_ret (v := .tuple #[.agg #[.slice none 0 0], .bool false]) (by simp [results, Tryz.results25, go_sem, t0]) rfl (no_store B1 (by omega))
  | true =>
  have hST : storeB (St.told S) = true := by unfold fitsB at hf; simp only [Bool.and_eq_true] at hf; exact hf.1.1
  have HA : Hid (match apN (told T) (St.told S) with
    | some N => M = N ∧ t = true
    | none => M = [] ∧ t = false) := by unfold AA at hA; rw [hf, if_pos rfl] at hA; exact hA
  have HS0 : Hid (Done (St.told S) (told T) 0 (St.told S)) := Done.start hST
  have HFT : Hid (fitsB (St.told S) (told T) = true) := hf
  have fS : S.length ≤ 24 := by have := store_small hST; rw [St.told_len] at this; exact this
  have h4S : ∀ y ∈ S, y.Q.length ≤ 100000 := fun y hy => Mp.few_at hST hy
  have hCp := fun W hh => Mp.l12copy_any a b off cap S W hh h4S (by omega)
  rw [hf] at hF1
  clear hA hf hST h' h4S
  go_enter Tryz.func25, Tryz.ntmps25
  go_wp2_with (first
    | (go_at_call 19; rw [← hW1]; clear hW1; refine hF1.mono ?_; rintro e w1 ⟨rfl, hb⟩; replace B1 := Rw.next B1 hb; replace k0 := (hb.block _ (blk_lt k0)).trans k0; replace k1 := (hb.block _ (blk_lt k1)).trans k1; replace k2 := (hb.block _ (blk_lt k2)).trans k2; replace h := h.below hb; clear hb; have p0 := Pl.one k0)
    | (go_at_call 33; clear p0; have g13 := blk_lt k2; refine (hCp _ h).mono ?_; rintro e w3 ⟨v3, F3, rfl, hos3, hF3, hb⟩; have g3 : w.heap.size + 1 + 1 < w3.heap.size := (by have := blk_lt k2; have := hb.size; omega); have s13 := hb.size; replace B1 := Rw.next B1 hb; replace k1 := (hb.block _ (blk_lt k1)).trans k1; replace k2 := (hb.block _ (blk_lt k2)).trans k2; clear hb h k0; have HF3 : Hid (St.told F3 = St.told S) := hF3; clear hF3; obtain ⟨va3, vn3, vc3, rfl⟩ := hos3.slice; have p1 := Pl.one k1; have l1 := blk_lt k1))
  obtain ⟨OB, hOB⟩ : ∃ OB, OB = w3.heap.size := ⟨_, rfl⟩
  obtain ⟨W3, hW3⟩ : ∃ W3, W3 = w3.alloc (.cells #[.slice va3 vn3 vc3] 25) := ⟨_, rfl⟩
  have b3 : Below w3.heap.size w3 W3 := by subst hW3; exact below_alloc1 _ _
  have kO : W3.heap[w3.heap.size]? = some (.cells #[.slice va3 vn3 vc3] 25 (0, 0)) := by subst hW3; exact at_new rfl
  have hos := hos3.below b3
  replace k2 := (b3.block _ (blk_lt k2)).trans k2
  replace B1 := Rw.next B1 b3
  rw [← hW3, ← hOB]
  rw [← hOB] at kO g3
  clear hW3 b3 hos3 p1 l1 k1 hOB hF1 hCp
  obtain ⟨hh, hc, ho, hs, hst⟩ := hT0
  have HC : Hid (∀ i, i < T.length → Cm.At w b' off' i (T.getD i cm0)) := hc
  have HO : Hid (∀ i, i < T.length → (T.getD i cm0).Ok w) := ho
  have HH : Hid (0 < T.length → a' = some ⟨b', off', none⟩) := hh
  have HST : Hid (∀ i, i < T.length → (T.getD i cm0).s.size ≤ maxLen) := hst
  have HTA : Hid (∀ i, i < T.length → (told T).getD i cl0 = (T.getD i cm0).l) := fun i hi => told_at hi
  have HTL : Hid ((told T).length = T.length) := told_len T
  clear hc ho hh hst
  obtain ⟨n, hn⟩ : ∃ n, n = T.length := ⟨_, rfl⟩
  rw [← hn] at HC HO HH HST HTA HTL hs ⊢
  clear hn
  go_loopw [22] (fun u wr => ∃ (k : Nat) (v : Value) (F : List Nm) (N : List NL) (B : Nat), k ≤ n ∧ u = .int .i64 k ∧ Below w.heap.size w wr ∧ wr.heap[w.heap.size + 1 + 1]? = some (.cells #[.slice none 0 0] 25 (0, 0)) ∧ wr.heap[OB]? = some (.cells #[v] 25 (0, 0)) ∧ w.heap.size + 1 + 1 + 1 ≤ B ∧ St.OS wr B v F ∧ St.told F = N ∧ Done (St.told S) (told T) k N) (fun u _ => n - (intOf u).toNat)
  case atStart => exact ⟨0, _, F3, St.told S, _, Nat.zero_le _, rfl, B1, k2, kO, by omega, hos, HF3.out, HS0.out⟩
  case round =>
    clear B1 k2 kO hos HS0 HF3
    obtain ⟨wo, hwo⟩ : ∃ wo : World, wo = wr := ⟨_, rfl⟩
    subst hwo
    obtain ⟨k, v, F, N, B, hk, rfl, B1, kR, kO, hB, hos, hFN, hdn⟩ := hrel
    have lR := blk_lt kR
    have lO := blk_lt kO
    have hF24 : F.length ≤ 24 := by rw [← St.told_len, hFN]; exact hdn.few
    obtain ⟨va, gF, vc, hv, hown⟩ := hos.form (by omega)
    have rF0 := hown.rd
    subst hv
    have HOWN : Hid (St.Own wo B wo.heap.size va gF F) := hown
    clear hown
    by_cases hlt : k < n
    · obtain rfl := HH.out (by omega)
      have hkz : (k : Int) < (n : Int) := by omega
      have hktl : k < (told T).length := by have := HTL.out; omega
      obtain ⟨y, hyN, hyn, r1, r2, r3, e1, e2, hw, hno, hyes⟩ := hdn.step HFT.out hktl
      rw [HTA.out k hlt] at hyn r2 r3 e1 e2 hw hno hyes
      have HRI : Hid (Rises N) := hdn.rise
      have apF : F.Pairwise (fun x y => x.s ≠ y.s) := by
        have := rises_apart hdn.rise
        rw [← hFN] at this
        unfold St.told at this
        rw [List.pairwise_map] at this
        exact this
      obtain ⟨u, hu, hul⟩ := Mp.told_mem (by rw [hFN]; exact hyN : y ∈ St.told F)
      have hus : u.s = (T.getD k cm0).s := (congrArg (fun z : NL => z.1) hul).trans hyn
      have hu2 : y.2 = (u.ar, said u.Q) := by rw [← hul]; rfl
      have hu3 : u.Q.length ≤ 300 := by
        have h1 := r1.few
        rw [hu2] at h1
        simp only [Rl.said_len] at h1
        exact h1
      have hp3 : (T.getD k cm0).p.Q.length ≤ 300 := by
        have h1 := r2.few
        simp only [Cm.l, Re.l, Rl.said_len] at h1
        exact h1
      have okU : u.Ok w → True := fun _ => trivial
      have hRel : ∀ W, St.Rd W va gF 0 F → Calls Tryz.prog 59 #[.agg #[.slice va F.length vc], .string (T.getD k cm0).s] W fun e w' => e = .returned (.tuple #[.agg #[.int .i64 u.ar, .slice u.a u.Q.length u.c], .bool true]) ∧ Below W.heap.size W w' := fun W hh => by
        refine (Mp.l12Rel_any va gF 0 vc F (T.getD k cm0).s W hh).mono ?_
        rintro e w' ⟨hb, ⟨x, hx, hxs, rfl⟩ | ⟨hn, _⟩⟩
        · have : x = u := Mp.same_of apF hx hu (hxs.trans hus.symm)
          subst this
          exact ⟨rfl, hb⟩
        · exact absurd hus (hn u hu)
      have HUR : Hid (∀ W, St.Rd W va gF 0 F → u.Ok W) := fun W hh => Mp.rd_ok hh u hu
      have h4F : ∀ z ∈ F, z.Q.length ≤ 100000 := fun z hz => by
        have h1 := hdn.one _ (by rw [← hFN]; exact Mp.mem_told hz)
        unfold St.oneB at h1
        simp only [Bool.and_eq_true] at h1
        have h2 := (relP_of h1.2).few
        simp only [Nm.l, Rl.said_len] at h2
        omega
      obtain ⟨c0, c1, c2, c3, c4⟩ := At5.of (HC.out k hlt) B1 (HC.out k hlt).lt
      have okX : (T.getD k cm0).Ok wo := ⟨Rl.Rd.below (HO.out k hlt).1 B1, Rl.Rd.below (HO.out k hlt).2 B1⟩
      have hsx := HST.out k hlt
      have HK4 : Hid (∀ q', apR (T.getD k cm0).l y.2 = some q' → Done (St.told S) (told T) (k + 1) (setL ((T.getD k cm0).s, q') N)) := hyes
      have HK0 : Hid (apR (T.getD k cm0).l y.2 = none → apN (told T) (St.told S) = none) := hno
      have HFN : Hid (St.told F = N) := hFN
      have H4F : Hid (∀ z ∈ F, z.Q.length ≤ 100000) := h4F
      rw [hu2] at HK4 HK0
      have HPW : Hid (∀ W, Below w.heap.size w W → Rl.Rd W (T.getD k cm0).p.a (T.getD k cm0).p.b (T.getD k cm0).p.o (T.getD k cm0).p.Q) := fun W hb => Rl.Rd.below (HO.out k hlt).1 hb
      clear hyn r1 r2 r3 e1 e2 hw hno hyes hyN hul hdn hu HC HO HST HTA HH apF hFN h4F okU hus hu2
      generalize T.getD k cm0 = x at hRel c0 c1 c2 c3 c4 okX hsx HK4 HK0 hp3 HPW
      obtain ⟨W4, hW4⟩ : ∃ W4, W4 = wo.alloc (.cells #[.string x.s, .int .i64 x.p.ar, .slice x.p.a x.p.Q.length x.p.c, .int .i64 x.m.ar, .slice x.m.a x.m.Q.length x.m.c] 71) := ⟨_, rfl⟩
      have b4 : Below wo.heap.size wo W4 := by subst hW4; exact below_alloc1 _ _
      have k4 : W4.heap[wo.heap.size]? = some (.cells #[.string x.s, .int .i64 x.p.ar, .slice x.p.a x.p.Q.length x.p.c, .int .i64 x.m.ar, .slice x.m.a x.m.Q.length x.m.c] 71 (0, 0)) := by subst hW4; exact at_new rfl
      have B4 := Rw.next B1 b4
      have kR4 := (b4.block _ lR).trans kR
      have kO4 := (b4.block _ lO).trans kO
      have rF4 := rF0.below b4
      have okM4 := Rl.Rd.below okX.2 b4
      have l4 := blk_lt k4
      have s4 := b4.size
      have lC : OB < wo.heap.size := lO
      have lC2 : w.heap.size + 1 + 1 < wo.heap.size := lR
      have o0 := Pl.one kO
      have bw4 := b4
      have HKR : Hid (wo.heap[w.heap.size + 1 + 1]? = some (.cells #[.slice none 0 0] 25 (0, 0))) := kR
      have HKO : Hid (wo.heap[OB]? = some (.cells #[.slice va F.length vc] 25 (0, 0))) := kO
      clear okX b4 rF0 hos B1 kR
      obtain ⟨ua, ur, uc, hua, hur, huc⟩ : ∃ (ua : Option Addr) (ur : Int) (uc : Nat), u.a = ua ∧ u.ar = ur ∧ u.c = uc := ⟨_, _, _, rfl, rfl, rfl⟩
      have hSf := fun W h h' => Rl.sift_any ur x.m.ar ua x.m.a u.b u.o uc x.m.b x.m.o x.m.c u.Q x.m.Q false W h h' (by omega)
      rw [hua, hur, huc] at hRel
      rw [hur] at HK4 HK0
      have HUR2 : Hid (∀ W, St.Rd W va gF 0 F → Rl.Rd W ua u.b u.o u.Q) := fun W hh => by have := HUR.out W hh; unfold Nm.Ok at this; rw [hua] at this; exact this
      clear hua hur huc HUR kO
      obtain ⟨X, hX⟩ : ∃ X, X = (said u.Q).filter fun z => decide (z ∈ said x.m.Q) == false := ⟨_, rfl⟩
      have hXl : X.length ≤ 300 := by
        have : X.length ≤ (said u.Q).length := by rw [hX]; exact List.length_filter_le _ _
        rw [Rl.said_len] at this
        omega
      rw [← hX] at hSf
      have HAP : Hid (apL x.l (ur, said u.Q) = (said x.p.Q).foldl putL X) := by rw [Hid, hX]; exact ap_said
      clear hX
      go_wp2_with (first
        | (go_at_call 59; rw [← hW4]; clear hW4; refine (hRel _ rF4).mono ?_; rintro e w5 ⟨rfl, hb⟩; have k45 := (hb.block _ (blk_lt k4)).trans k4; have l45 := blk_lt k45; obtain ⟨p0, p1, p2, p3, p4⟩ := five k45; obtain ⟨W6, hW6⟩ : ∃ W6, W6 = w5.alloc (.cells #[.int .i64 ur, .slice ua u.Q.length uc] 67) := ⟨_, rfl⟩; have b6 : Below w5.heap.size w5 W6 := (by subst hW6; exact below_alloc1 _ _); have k6 : W6.heap[w5.heap.size]? = some (.cells #[.int .i64 ur, .slice ua u.Q.length uc] 67 (0, 0)) := (by subst hW6; exact at_new rfl); have b46 := Rw.next hb b6; replace k4 := (b46.block _ (blk_lt k4)).trans k4; replace kR4 := (b46.block _ (blk_lt kR4)).trans kR4; replace kO4 := (b46.block _ (blk_lt kO4)).trans kO4; have s5 := hb.size; replace B4 := Rw.next B4 b46; have bw6 := Rw.next bw4 b46; replace rF4 := rF4.below b46; replace okM4 := okM4.below b46; have l6 := blk_lt k6; clear hb b6 b46)
        | (go_at_call 40; rw [← hW6]; clear hW6 p0 p1 p2 p3 p4 k45 l45; go_loud (refine (hSf _ (HUR2.out _ rF4) okM4).mono ?_); rintro e w7 ⟨v7, F7, rfl, hot7, s7, hb⟩; have hF7 : F7.length ≤ 300 := (by rw [← Rl.said_len, s7]; exact hXl); obtain ⟨a7, g7, c7, rfl, own7⟩ := hot7.form (by omega); have aw7 : Aw w5.heap.size g7 F7 := Rl.aw_own own7 (.inl l6); have rd7 := own7.rd; replace k4 := (hb.block _ (blk_lt k4)).trans k4; replace k6 := (hb.block _ (blk_lt k6)).trans k6; replace kR4 := (hb.block _ (blk_lt kR4)).trans kR4; replace kO4 := (hb.block _ (blk_lt kO4)).trans kO4; replace B4 := Rw.next B4 hb; have bw7 := Rw.next bw6 hb; have s67 := hb.size; have HS7 : Hid (said F7 = X) := s7; clear hb hot7 own7 s7 okM4 hSf; have l4 := blk_lt k4; have l6 := blk_lt k6; obtain ⟨p0, p1, p2, p3, p4⟩ := five k4; obtain ⟨q0, q1⟩ := two k6; have f6 := Vl.free k6))
      obtain ⟨RB, hRB⟩ : ∃ RB, RB = w5.heap.size := ⟨_, rfl⟩
      obtain ⟨CB, hCB⟩ : ∃ CB, CB = wo.heap.size := ⟨_, rfl⟩
      obtain ⟨W8, hW8⟩ : ∃ W8, W8 = (w7.setCell ⟨w5.heap.size, 0, none⟩ (.int .i64 ur)).setCell ⟨w5.heap.size, 1, none⟩ (.slice a7 F7.length c7) := ⟨_, rfl⟩
      have kX : W8.heap[w5.heap.size]? = some (.cells #[.int .i64 ur, .slice a7 F7.length c7] 67 (0, 0)) := by subst hW8; exact Rl.two_set1 (Rl.two_set0 k6)
      have hCR : wo.heap.size < w5.heap.size := by omega
      have kC : W8.heap[wo.heap.size]? = some (.cells #[.string x.s, .int .i64 x.p.ar, .slice x.p.a x.p.Q.length x.p.c, .int .i64 x.m.ar, .slice x.m.a x.m.Q.length x.m.c] 71 (0, 0)) := by subst hW8; rw [Below.heap_setCell _ _ _ _ (by simp; omega), Below.heap_setCell _ _ _ _ (by simp; omega)]; exact k4
      have bw8 : Below wo.heap.size wo W8 := by subst hW8; exact Vl.bset (Vl.bset bw7 (by simp; omega)) (by simp; omega)
      have B8 : Below w.heap.size w W8 := by subst hW8; exact Vl.bset (Vl.bset B4 (by simp; omega)) (by simp; omega)
      have rF : Rl.Rd W8 a7 g7 0 F7 := by subst hW8; exact Rl.rd_set (p := ⟨w5.heap.size, 1, none⟩) (Rl.rd_set (p := ⟨w5.heap.size, 0, none⟩) rd7 aw7) aw7
      have hRs : w5.heap.size < W8.heap.size := blk_lt kX
      rw [← hW8, ← hRB, ← hCB]
      rw [← hRB] at kX aw7 hCR hRs
      rw [← hCB] at kC hCR
      have hOC : OB < CB := by omega
      have hRC : w.heap.size + 1 + 1 < CB := by omega
      have HCB : Hid (CB = wo.heap.size) := hCB
      clear hW8 hRB k6 k4 kR4 kO4 B4 rF4 bw4 bw6 bw7 rd7 q0 q1 f6 p0 p1 p2 p3 p4 l4 l6 s4 s5 s67 lC lC2 lR lO o0 hCB hF7
      obtain ⟨xs, ⟨xr, xa, xb, xo, xc, xQ⟩, ⟨mr, ma, mb, mo, mc, mQ⟩⟩ := x
      simp only at kC hp3 hsx HPW HAP HK0 HK4 hRel
      have HFo : Hid (∀ i, i < xQ.length → ((said xQ).take (i + 1)).foldl putL X = putL (((said xQ).take i).foldl putL X) (xQ.getD i rm0).l) := fun i hi => Rl.fold_next hi
      have HFn : Hid ((said xQ).foldl putL X = ((said xQ).take xQ.length).foldl putL X) := (by rw [← Rl.said_len, List.take_length] : (said xQ).foldl putL X = ((said xQ).take xQ.length).foldl putL X)
      have HFl : Hid (∀ i, (((said xQ).take i).foldl putL X).length ≤ 300 + i) := fun i => by
        have h1 := Rl.fold_len X ((said xQ).take i)
        rw [List.length_take] at h1
        omega
      obtain ⟨n2, hn2⟩ : ∃ n2, n2 = xQ.length := ⟨_, rfl⟩
      have HN2 : Hid (n2 = xQ.length) := hn2
      rw [← hn2] at kC hp3 HFo HFn ⊢
      clear hn2
      go_loopw [41] (fun u wr => ∃ (i : Nat) (A : Option Addr) (bb oo cc : Nat) (F2 : List Rm), i ≤ n2 ∧ u = .int .i64 i ∧ Below w.heap.size w wr ∧ Below wo.heap.size wo wr ∧ wr.heap[CB]? = some (.cells #[.string xs, .int .i64 xr, .slice xa n2 xc, .int .i64 mr, .slice ma mQ.length mc] 71 (0, 0)) ∧ wr.heap[RB]? = some (.cells #[.int .i64 ur, .slice A F2.length cc] 67 (0, 0)) ∧ Rl.Rd wr A bb oo F2 ∧ Aw RB bb F2 ∧ said F2 = ((said xQ).take i).foldl putL X) (fun u _ => n2 - (intOf u).toNat)
      case atStart => exact ⟨0, _, _, _, _, F7, Nat.zero_le _, rfl, B8, bw8, kC, kX, rF, aw7, by rw [HS7.out]; rfl⟩
      case round =>
        clear B8 bw8 kC kX rF aw7 HS7 hRs
        obtain ⟨i, A, bb, oo, cc, F2, hi, rfl, B1, bw, kC, kX, rF, aX, hF⟩ := hrel
        have hFl : F2.length ≤ 300 + i := by have := HFl.out i; rw [← hF, Rl.said_len] at this; exact this
        have HF : Hid (said F2 = ((said xQ).take i).foldl putL X) := hF
        clear hF
        obtain ⟨u0, u1, u2, u3, u4⟩ := five kC
        have lCB := blk_lt kC
        have lRB := blk_lt kX
        by_cases hlt2 : i < n2
        · have okp := HPW.out wr B1
          obtain rfl := okp.head (by have := HN2.out; omega)
          have A1 := okp.cell i (by have := HN2.out; omega)
          have okY := okp.ok i (by have := HN2.out; omega)
          have lb : xb < w.heap.size := by have := (HPW.out w (Below.refl _ _)).cell i (by have := HN2.out; omega); exact World.block_lt_of_cell? _ _ this
          have hnz : (i : Int) < (n2 : Int) := by omega
          have hn0 : (0 : Int) ≤ (i : Int) := by omega
          have HX : Hid (((said xQ).take (i + 1)).foldl putL X = putL (((said xQ).take i).foldl putL X) (xQ.getD i rm0).l) := HFo.out i hlt2
          clear okp
          generalize xQ.getD i rm0 = q at A1 okY HX
          obtain ⟨ya, yb, yo, yc, yl⟩ := q
          simp only [Rm.val, Rm.Ok] at A1 HX okY
          go_wp2
          refine wp_region_held_drew (S := fun w' => w'.cell? ⟨CB, 2, none⟩ = some (.slice (some ⟨xb, xo, none⟩) n2 xc) ∧ w'.cell? ⟨xb, xo + i, none⟩ = some (.slice ya yl.length yc)) (by kernel_rfl) ⟨u2, A1⟩ (fun hHeld => ?_)
          refine Hn.take (i := 0) (d := some 44) (v := .pointer (some ⟨RB, 1, none⟩)) rfl (by kernel_rfl) (by kernel_rfl) (by kernel_rfl) (by kernel_rfl) (fun _ _ _ h => h) (Or.inl ⟨by rfl, by intro w hSw; go_simp⟩) hHeld ?_
          simp only [Act.put, Hn.p1, Hn.p2, Hn.p3]
          refine Hn.take (i := 2) (d := some 46) (v := .pointer (some ⟨CB, 1, none⟩)) rfl (by kernel_rfl) (by kernel_rfl) (by kernel_rfl) (by kernel_rfl) (fun _ _ _ h => h) (Or.inl ⟨by rfl, by intro w hSw; go_simp⟩) hHeld ?_
          simp only [Act.put, Hn.p1, Hn.p2, Hn.p3]
          refine Hn.take (i := 3) (d := some 47) (v := .pointer (some ⟨CB, 2, none⟩)) rfl (by kernel_rfl) (by kernel_rfl) (by kernel_rfl) (by kernel_rfl) (fun _ _ _ h => h) (Or.inl ⟨by rfl, by intro w hSw; go_simp⟩) hHeld ?_
          simp only [Act.put, Hn.p1, Hn.p2, Hn.p3]
          refine Hn.take (i := 4) (d := some 48) (v := .slice (some ⟨xb, xo, none⟩) n2 xc) rfl (by kernel_rfl) (by kernel_rfl) (by kernel_rfl) (by kernel_rfl) (fun _ _ _ h => h) (Or.inl ⟨by rfl, by intro w hSw; obtain ⟨c1, c2⟩ := hSw; go_simp⟩) hHeld ?_
          simp only [Act.put, Hn.p1, Hn.p2, Hn.p3]
          refine Hn.take (i := 5) (d := some 49) (v := .int .i64 i) rfl (by kernel_rfl) (by kernel_rfl) (by kernel_rfl) (by kernel_rfl) (fun _ _ _ h => h) (Or.inl ⟨by rfl, by intro w hSw; go_simp⟩) hHeld ?_
          simp only [Act.put, Hn.p1, Hn.p2, Hn.p3]
          refine Hn.take (i := 6) (d := some 50) (v := .pointer (some ⟨xb, xo + i, none⟩)) rfl (by kernel_rfl) (by kernel_rfl) (by kernel_rfl) (by kernel_rfl) (fun _ _ _ h => h) (Or.inl ⟨by rfl, by intro w hSw; go_simp⟩) hHeld ?_
          simp only [Act.put, Hn.p1, Hn.p2, Hn.p3]
          refine Hn.take (i := 7) (d := some 51) (v := .agg #[.slice ya yl.length yc]) rfl (by kernel_rfl) (by kernel_rfl) (by kernel_rfl) (by kernel_rfl) (fun _ _ _ h => h) (Or.inl ⟨by rfl, by intro w hSw; obtain ⟨c1, c2⟩ := hSw; go_simp⟩) hHeld ?_
          simp only [Act.put, Hn.p1, Hn.p2, Hn.p3]
          have kX0 : wr.drew.heap[RB]? = some (.cells #[.int .i64 ur, .slice A F2.length cc] 67 (0, 0)) := kX
          have BD := B1.drew
          have rF0 := rF.below ((Below.refl wr.heap.size wr).drew)
          have A10 : wr.drew.cell? ⟨xb, xo + i, none⟩ = some (.slice ya yl.length yc) := A1
          have u20 : wr.drew.cell? ⟨CB, 2, none⟩ = some (.slice (some ⟨xb, xo, none⟩) n2 xc) := u2
          have bw0 := bw.drew
          have kC0 : wr.drew.heap[CB]? = some (.cells #[.string xs, .int .i64 xr, .slice (some ⟨xb, xo, none⟩) n2 xc, .int .i64 mr, .slice ma mQ.length mc] 71 (0, 0)) := kC
          have okY0 := okY.below ((Below.refl wr.heap.size wr).drew)
          have sW : wr.drew.heap.size = wr.heap.size := rfl
          generalize wr.drew = W at *
          refine wpAnyH_ready (rs := [1]) (by kernel_rfl) (by simp) (Hn.readyRun (i := 1) rfl (by kernel_rfl) (some 45) (by kernel_rfl) (v := .slice A F2.length cc) (w' := W) (by obtain ⟨o0, o1⟩ := two kX0; go_simp) hHeld (fun hHeld => ?_) AllReadyH.nil)
          simp only [Act.put, Hn.p1, Hn.p2, Hn.p3]
          refine wpAnyH_ready (rs := [8]) (by kernel_rfl) (by simp) (Hn.call2 (i := 8) rfl (by rfl) 69 (.tmp 45) (.tmp 51) 65 107 (by kernel_rfl) 52 (by kernel_rfl) (.slice A F2.length cc) (.agg #[.slice ya yl.length yc]) (by kernel_rfl) (by kernel_rfl) (fun _ => rfl) (Rl.put_any A ya bb oo cc yb yo yc F2 yl W rF0 okY0 (by omega)) ?_ AllReadyH.nil)
          rintro e w9 ⟨A', bb', oo', cc', F', rfl, rF', sF', hb, hb1, hb2⟩
          have aX' := Rl.aw_put aX (blk_lt kX0) hb1 hb2
          replace kX0 := (hb.block _ (blk_lt kX0)).trans kX0
          have A11 := (hb.cell (World.block_lt_of_cell? _ _ A10)).trans A10
          have u21 := (hb.cell (World.block_lt_of_cell? _ _ u20)).trans u20
          have bw1 := Rw.next bw0 hb
          have kC1 := (hb.block _ (blk_lt kC0)).trans kC0
          have hs9 := hb.size
          replace BD := Rw.next BD hb
          refine ⟨_, rfl, ⟨u21, A11⟩, fun hHeld => ?_⟩
          simp only [Act.put, Hn.p1, Hn.p2, Hn.p3]
          refine Hn.take (i := 9) (d := some 53) (v := .pointer (some ⟨RB, 1, none⟩)) rfl (by kernel_rfl) (by kernel_rfl) (by kernel_rfl) (by kernel_rfl) (fun _ _ _ h => h) (Or.inl ⟨by rfl, by intro w hSw; go_simp⟩) hHeld ?_
          simp only [Act.put, Hn.p1, Hn.p2, Hn.p3]
          obtain ⟨o0, o1⟩ := two kX0
          have fX := Vl.free kX0
          refine wpAnyH_ready (rs := [10]) (by kernel_rfl) (by simp) (Hn.readySkip (i := 10) rfl (by kernel_rfl) none (by kernel_rfl) (w' := w9.setCell ⟨RB, 1, none⟩ (.slice A' F'.length cc')) (by go_simp) ⟨(World.cell?_of_block (Below.heap_setCell _ _ _ _ (by simp only; omega))).trans u21, (World.cell?_of_block (Below.heap_setCell _ _ _ _ (by simp only; omega))).trans A11⟩ (fun hHeld => ?_) AllReadyH.nil)
          simp only [Act.put, Hn.p1, Hn.p2, Hn.p3]
          refine wpAnyH_done (by kernel_rfl) ?_ _
          have kX' : (w9.setCell ⟨RB, 1, none⟩ (.slice A' F'.length cc')).heap[RB]? = some (.cells #[.int .i64 ur, .slice A' F'.length cc'] 67 (0, 0)) := Rl.two_set1 kX0
          have rF2 := Rl.rd_set (p := ⟨RB, 1, none⟩) (u := .slice A' F'.length cc') rF' aX'
          have B2 : Below w.heap.size w (w9.setCell ⟨RB, 1, none⟩ (.slice A' F'.length cc')) := Vl.bset BD (by simp only; omega)
          have bw2 : Below wo.heap.size wo (w9.setCell ⟨RB, 1, none⟩ (.slice A' F'.length cc')) := Vl.bset bw1 (by have := HCB.out; simp only; omega)
          have kC2 : (w9.setCell ⟨RB, 1, none⟩ (.slice A' F'.length cc')).heap[CB]? = some (.cells #[.string xs, .int .i64 xr, .slice (some ⟨xb, xo, none⟩) n2 xc, .int .i64 mr, .slice ma mQ.length mc] 71 (0, 0)) := (Below.heap_setCell _ _ _ _ (by simp only; omega)).trans kC1
          have HSF : Hid (said F' = ((said xQ).take (i + 1)).foldl putL X) := by rw [Hid, HX.out, sF', HF.out]
          go_wp2
          go_roundw
          case rel => exact ⟨i + 1, A', bb', oo', cc', F', by omega, by go_num, B2, bw2, kC2, kX', rF2, aX', HSF.out⟩
          case measure => simp [intOf]; omega
        · have hlz : ¬ (i : Int) < (n2 : Int) := by omega
          have hie : i = n2 := by omega
          have HE2 : Hid (apL (Cm.l ⟨xs, ⟨xr, xa, xb, xo, xc, xQ⟩, ⟨mr, ma, mb, mo, mc, mQ⟩⟩) (ur, said u.Q) = said F2) := by
            rw [Hid, HAP.out, HF.out, hie]
            exact HFn.out
          have kR0 := (bw.block _ (blk_lt HKR.out)).trans HKR.out
          have kO0 := (bw.block _ (blk_lt HKO.out)).trans HKO.out
          have rF1 : St.Rd wr va gF 0 F := (HOWN.out.keep (fun z _ hz => bw.block z hz)).rd
          have lR := blk_lt kR0
          have lO := blk_lt kO0
          obtain ⟨x0, x1⟩ := two kX
          have z0 := Pl.one kR0
          have fR := Vl.free kR0
          have o0 := Pl.one kO0
          have fO := Vl.free kO0
          clear hie HAP
          by_cases h3 : F2.length ≤ 300
          · have h3z : ¬ (300 : Int) < (F2.length : Int) := by omega
            have HD : Hid (Done (St.told S) (told T) (k + 1) (setL (xs, (ur, said F2)) N)) := HK4.out _ (by unfold apR; rw [HE2.out, if_pos (by rw [Rl.said_len]; exact h3)])
            have hSet := Mp.set_any va gF 0 vc F xs ur A bb oo cc F2 wr rF1 hsx rF (by omega) H4F.out (by omega)
            clear rF1 aX
            go_wp2_with (go_at_call 70; refine hSet.mono ?_; rintro e w9 ⟨v9, F9, rfl, hos9, hF9, hb⟩; have B9 := Rw.next B1 hb; have kR9 := (hb.block _ lR).trans kR0; have kO9 := (hb.block _ lO).trans kO0; have l9 := blk_lt kO9; clear z0 fR o0 fO; have o0 := Pl.one kO9; have fO := Vl.free kO9; have hs9 := hb.size; have HF9 : Hid (St.told F9 = setL (xs, ur, said F2) (St.told F)) := hF9; clear hF9; obtain ⟨v9a, v9n, v9c, rfl⟩ := hos9.slice)
            go_roundw
            case rel =>
              refine ⟨k + 1, _, F9, _, wr.heap.size, by omega, by go_num, Vl.bset B9 (by simp; omega), (Below.heap_setCell _ _ _ _ (by simp; omega)).trans kR9, Sw.one_set kO9, by omega, os_keep hos9 (fun z _ hz => Below.heap_setCell _ _ _ _ (by simp; omega)) (by simp), ?_, HD.out⟩
              rw [HF9.out, HFN.out]
            case measure => simp [intOf]; omega
          · have h3z : (300 : Int) < (F2.length : Int) := by omega
            have HZ : Hid (apN (told T) (St.told S) = none) := HK0.out (by unfold apR; rw [HE2.out, if_neg (by rw [Rl.said_len]; exact h3)])
            have hAN := HA.out
            rw [HZ.out] at hAN
            obtain ⟨rfl, rfl⟩ := hAN
            clear HK4 HK0 hRel HOWN H4F HUR2 HPW HFo HFn HFl rF1 rF aX HCB HKR HKO
            go_upto_if 58 with fail
            dsimp +zetaDelta only
            generalize hPP : bodyPost Tryz.prog Tryz.f25 (Mp.ResV w [] false) = PP at *
            have HPP : Hid (∀ e a W, bodyPost Tryz.prog Tryz.f25 (Mp.ResV w [] false) e a W → PP e a W) := fun _ _ _ h => by rw [← hPP]; exact h
            clear hPP
            go_wp2
            refine HPP.out _ _ _ ?_
            have e0 := Sw.one_set (u := .slice none 0 0) kR0
            have t0 := Pl.one e0
            exact bodyPost_ret (v := .tuple #[.agg #[.slice none 0 0], .bool false]) (by simp [results, Tryz.results25, go_sem, t0]) rfl (no_store B1 (by omega))
    · have hkz : ¬ (k : Int) < (n : Int) := by omega
      have HL : Hid (apN (told T) (St.told S) = some N) := by
        have e : k = (told T).length := by rw [HTL.out]; omega
        rw [e] at hdn
        exact hdn.last
      have hAN := HA.out
      rw [HL.out] at hAN
      obtain ⟨rfl, rfl⟩ := hAN
      have HFN : Hid (St.told F = M) := hFN
      clear hdn hFN
      have o0 := Pl.one kO
      have z0 := Pl.one kR
      have fR := Vl.free kR
      go_wp2
      have e0 := Sw.one_set (u := .slice va F.length vc) kR
      have t0 := Pl.one e0
      refine bodyPost_ret (v := .tuple #[.agg #[.slice va F.length vc], .bool true]) (by simp [results, Tryz.results25, go_sem, t0]) rfl ⟨.slice va F.length vc, F, rfl, ?_, HFN.out, Vl.bset B1 (by simp <;> omega)⟩
      refine St.OS.mono (B := B) ?_ (by omega)
      exact hos.keep (fun x _ hx => Below.heap_setCell _ _ _ _ (by simp; omega)) (by simp)

end Go.Proofs.YtkpchlojapkimaaGreat.Ch

