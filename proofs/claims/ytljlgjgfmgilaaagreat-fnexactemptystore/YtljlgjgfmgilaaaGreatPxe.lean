/-
  Texts laid together: Ls, Spp.
-/
import Derived.Test.YtljlgjgfmgilaaaGreatPxd
import Derived.Test.YtljlgjgfmgilaaaGreatSf
import Derived.Test.YtljlgjgfmgilaaaGreatMq
import Derived.Test.YtljlgjgfmgilaaaGreatMda
import Derived.Test.YtljlgjgfmgilaaaGreatMs
namespace Go.Proofs.YtljlgjgfmgilaaaGreat.Mp
set_option maxRecDepth 8000
set_option linter.unusedSimpArgs false
set_option linter.unusedVariables false
open Go Go.ChangeShapes Go.WideShapes Go.RowKit
open Num Word Pl Rp
open Rl (Rm rm0 said)
open St (Nm nm0 NL told storeB)
open Vl (cmpS strLt)

/-- One round: what has come so far, and whether the new one is in. -/
def stepL (x : NL) (p : List NL × Bool) (y : NL) : List NL × Bool :=
  (p.1 ++ (if p.2 = false ∧ strLt y.1 x.1 = false then [x] else []) ++ (if y.1 = x.1 then [] else [y]), p.2 || !strLt y.1 x.1)
def runL (x : NL) (N : List NL) : List NL × Bool := N.foldl (stepL x) ([], false)
def setL (x : NL) (N : List NL) : List NL := (runL x N).1 ++ (if (runL x N).2 = true then [] else [x])
theorem runL_snoc (x : NL) (N : List NL) (y : NL) : runL x (N ++ [y]) = stepL x (runL x N) y := by simp [runL, List.foldl_append]
structure InvL (x : NL) (L l : List NL) (d : Bool) : Prop where
  rise : l.Pairwise (fun x y => strLt x.1 y.1 = true)
  mem : ∀ z, z ∈ l ↔ (z ∈ L ∧ z.1 ≠ x.1) ∨ (d = true ∧ z = x)
  lo : d = false → ∀ z ∈ L, strLt z.1 x.1 = true
  hi : d = true → ∃ u ∈ L, strLt u.1 x.1 = false
theorem lt_of_le {a b c : ByteArray} (h : strLt b a = false) (k : strLt b c = true) : strLt a c = true := by
  have h1 : ¬ cmpS b a < 0 := fun q => by rw [cmpS_lt.1 q] at h; cases h
  have n1 := cmpS_neg a b
  by_cases e : cmpS a b = 0
  · rw [cmpS_zero e]; exact k
  · exact strLt_trans (cmpS_lt.1 (by omega)) k
theorem inv_step {x : NL} {L l : List NL} {d : Bool} (h : InvL x L l d) {y : NL} (hy : ∀ z ∈ L, strLt z.1 y.1 = true) : InvL x (L ++ [y]) (stepL x (l, d) y).1 (stepL x (l, d) y).2 := by
  have irr : ∀ {z : ByteArray}, strLt z z = true → False := fun {z} hz => by rw [strLt_irr] at hz; cases hz
  cases d with
  | true =>
    obtain ⟨u, hu, hux⟩ := h.hi rfl
    have xy : strLt x.1 y.1 = true := lt_of_le hux (hy u hu)
    have ne : y.1 ≠ x.1 := fun e => by rw [e] at xy; exact irr xy
    have e1 : stepL x (l, true) y = (l ++ [y], true) := by simp [stepL, ne]
    rw [e1]
    refine ⟨?_, fun z => ?_, fun q => (by cases q), fun _ => ⟨u, by simp [hu], hux⟩⟩
    · rw [List.pairwise_append]
      refine ⟨h.rise, List.pairwise_singleton _ _, fun a ha b hb => ?_⟩
      obtain rfl := List.mem_singleton.1 hb
      rcases (h.mem a).1 ha with ⟨q, _⟩ | ⟨_, rfl⟩
      · exact hy a q
      · exact xy
    · simp only [List.mem_append, List.mem_singleton, h.mem z]
      constructor
      · rintro ((⟨q1, q2⟩ | q) | rfl)
        · exact .inl ⟨.inl q1, q2⟩
        · exact .inr q
        · exact .inl ⟨.inr rfl, ne⟩
      · rintro (⟨q1 | rfl, q2⟩ | q)
        · exact .inl (.inl ⟨q1, q2⟩)
        · exact .inr rfl
        · exact .inl (.inr q)
  | false =>
    have lo := h.lo rfl
    have all : ∀ z ∈ l, z ∈ L := fun z hz => by
      rcases (h.mem z).1 hz with ⟨q, _⟩ | ⟨q, _⟩
      · exact q
      · cases q
    have back : ∀ z ∈ L, z ∈ l := fun z hz => (h.mem z).2 (.inl ⟨hz, fun e => by have := lo z hz; rw [e] at this; exact irr this⟩)
    cases hle : strLt y.1 x.1 with
    | true =>
      have ne : y.1 ≠ x.1 := fun e => by rw [e] at hle; exact irr hle
      have e1 : stepL x (l, false) y = (l ++ [y], false) := by simp [stepL, hle, ne]
      rw [e1]
      refine ⟨?_, fun z => ?_, fun _ z hz => ?_, fun q => (by cases q)⟩
      · rw [List.pairwise_append]
        refine ⟨h.rise, List.pairwise_singleton _ _, fun a ha b hb => ?_⟩
        obtain rfl := List.mem_singleton.1 hb
        exact hy a (all a ha)
      · simp only [List.mem_append, List.mem_singleton]
        constructor
        · rintro (q | rfl)
          · exact .inl ⟨.inl (all z q), fun e => by have := lo z (all z q); rw [e] at this; exact irr this⟩
          · exact .inl ⟨.inr rfl, ne⟩
        · rintro (⟨q1 | rfl, q2⟩ | ⟨q, _⟩)
          · exact .inl (back z q1)
          · exact .inr rfl
          · cases q
      · rcases List.mem_append.1 hz with hz | hz
        · exact lo z hz
        · obtain rfl := List.mem_singleton.1 hz; exact hle
    | false =>
      have hlx : ∀ z ∈ l, strLt z.1 x.1 = true := fun z hz => lo z (all z hz)
      by_cases ne : y.1 = x.1
      · have e1 : stepL x (l, false) y = (l ++ [x], true) := by simp [stepL, hle, ne, strLt_irr]
        rw [e1]
        refine ⟨?_, fun z => ?_, fun q => (by cases q), fun _ => ⟨y, by simp, hle⟩⟩
        · rw [List.pairwise_append]
          refine ⟨h.rise, List.pairwise_singleton _ _, fun a ha b hb => ?_⟩
          obtain rfl := List.mem_singleton.1 hb
          exact hlx a ha
        · simp only [List.mem_append, List.mem_singleton]
          constructor
          · rintro (q | rfl)
            · exact .inl ⟨.inl (all z q), fun e => by have := hlx z q; rw [e] at this; exact irr this⟩
            · exact .inr (by simp)
          · rintro (⟨q1 | rfl, q2⟩ | ⟨_, q⟩)
            · exact .inl (back z q1)
            · exact absurd ne q2
            · exact .inr q
      · have xy : strLt x.1 y.1 = true := by
          have h1 : ¬ cmpS y.1 x.1 < 0 := fun q => by rw [cmpS_lt.1 q] at hle; cases hle
          have h2 : cmpS y.1 x.1 ≠ 0 := fun q => ne (cmpS_zero q)
          have n1 := cmpS_neg x.1 y.1
          exact cmpS_lt.1 (by omega)
        have e1 : stepL x (l, false) y = (l ++ [x] ++ [y], true) := by simp [stepL, hle, ne]
        rw [e1]
        refine ⟨?_, fun z => ?_, fun q => (by cases q), fun _ => ⟨y, by simp, hle⟩⟩
        · rw [List.pairwise_append, List.pairwise_append]
          refine ⟨⟨h.rise, List.pairwise_singleton _ _, fun a ha b hb => ?_⟩, List.pairwise_singleton _ _, fun a ha b hb => ?_⟩
          · obtain rfl := List.mem_singleton.1 hb
            exact hlx a ha
          · obtain rfl := List.mem_singleton.1 hb
            rcases List.mem_append.1 ha with ha | ha
            · exact hy a (all a ha)
            · obtain rfl := List.mem_singleton.1 ha; exact xy
        · simp only [List.mem_append, List.mem_singleton]
          constructor
          · rintro ((q | rfl) | rfl)
            · exact .inl ⟨.inl (all z q), fun e => by have := hlx z q; rw [e] at this; exact irr this⟩
            · exact .inr (by simp)
            · exact .inl ⟨.inr rfl, ne⟩
          · rintro (⟨q1 | rfl, q2⟩ | ⟨_, rfl⟩)
            · exact .inl (.inl (back z q1))
            · exact .inr rfl
            · exact .inl (.inr rfl)
theorem inv_run (x : NL) {N : List NL} (h : N.Pairwise (fun x y => strLt x.1 y.1 = true)) : ∀ k, k ≤ N.length → InvL x (N.take k) (runL x (N.take k)).1 (runL x (N.take k)).2
  | 0, _ => ⟨List.Pairwise.nil, fun z => by simp [runL], fun _ z hz => by simp at hz, fun q => by simp [runL] at q⟩
  | k + 1, hk => by
    have ih := inv_run x h k (by omega)
    have e : N.take (k + 1) = N.take k ++ [N[k]] := by rw [List.take_add_one]; simp [show k < N.length by omega]
    rw [e, runL_snoc]
    refine inv_step ih fun z hz => ?_
    obtain ⟨i, hi, rfl⟩ := List.getElem_of_mem hz
    rw [List.length_take] at hi
    have := List.pairwise_iff_getElem.1 h i k (by omega) (by omega) (by omega)
    simpa using this
/-- What comes of a rising list: it rises, and has the others and the new one. -/
theorem setL_facts (x : NL) {N : List NL} (h : N.Pairwise (fun x y => strLt x.1 y.1 = true)) : (setL x N).Pairwise (fun x y => strLt x.1 y.1 = true) ∧ ∀ z, z ∈ setL x N ↔ (z ∈ N ∧ z.1 ≠ x.1) ∨ z = x := by
  have inv := inv_run x h N.length (Nat.le_refl _)
  rw [List.take_length] at inv
  have irr : ∀ {z : ByteArray}, strLt z z = true → False := fun {z} hz => by rw [strLt_irr] at hz; cases hz
  unfold setL
  cases hd : (runL x N).2 with
  | true =>
    rw [hd] at inv
    simp only [if_true, List.append_nil]
    refine ⟨inv.rise, fun z => ?_⟩
    rw [inv.mem z]; simp
  | false =>
    rw [hd] at inv
    simp only [Bool.false_eq_true, if_false]
    have lo := inv.lo rfl
    have hl : ∀ z ∈ (runL x N).1, z ∈ N ∧ z.1 ≠ x.1 := fun z hz => by
      rcases (inv.mem z).1 hz with q | ⟨q, _⟩
      · exact q
      · cases q
    refine ⟨?_, fun z => ?_⟩
    · rw [List.pairwise_append]
      refine ⟨inv.rise, List.pairwise_singleton _ _, fun a ha b hb => ?_⟩
      obtain rfl := List.mem_singleton.1 hb
      exact lo a (hl a ha).1
    · simp only [List.mem_append, List.mem_singleton, inv.mem z]
      constructor
      · rintro ((q | ⟨q, _⟩) | q)
        · exact .inl q
        · cases q
        · exact .inr q
      · rintro (q | q)
        · exact .inl (.inl q)
        · exact .inr q

def ResU (w : World) (N : List NL) (e : Ending) (w' : World) : Prop := ∃ v F, e = .returned (.agg #[v]) ∧ St.OS w' w.heap.size v F ∧ told F = N ∧ Below w.heap.size w w'

set_option maxHeartbeats 16000000 in
theorem set_any (a : Option Addr) (b off cap : Nat) (T : List Nm) (s : ByteArray) (ar : Int) (ra : Option Addr) (rb ro rc : Nat) (Q : List Rm) (w : World) (h : St.Rd w a b off T) (hs : s.size ≤ maxLen) (hq : Rl.Rd w ra rb ro Q) (h4Q : Q.length ≤ 100000) (h4T : ∀ x ∈ T, x.Q.length ≤ 100000) (hTn : T.length ≤ 10000) :
    Calls Tryz.prog 60 #[.agg #[.slice a T.length cap], .string s, .agg #[.int .i64 ar, .slice ra Q.length rc]] w (ResU w (setL (s, ar, said Q) (told T))) := by
  obtain ⟨W1, hW1⟩ : ∃ W1, W1 = (((w.alloc (.cells #[.slice a T.length cap] 38)).alloc (.cells #[.int .i64 ar, .slice ra Q.length rc] 69)).alloc (.cells #[.slice none 0 0] 38)).alloc (.cells #[.slice none 0 0] 38) := ⟨_, rfl⟩
  have B1 : Below w.heap.size w W1 := by subst hW1; exact Rw.next (Rw.next (below_alloc2 _ _ _) (below_alloc1 _ _)) (below_alloc1 _ _)
  have k3 : W1.heap[w.heap.size]? = some (.cells #[.slice a T.length cap] 38 (0, 0)) := by subst hW1; rw [at_old (by simp <;> omega), at_old (by simp <;> omega), at_old (by simp), at_new rfl]
  have k5 : W1.heap[w.heap.size + 1]? = some (.cells #[.int .i64 ar, .slice ra Q.length rc] 69 (0, 0)) := by subst hW1; rw [at_old (by simp <;> omega), at_old (by simp), at_new (by simp)]
  have k6 : W1.heap[w.heap.size + 1 + 1]? = some (.cells #[.slice none 0 0] 38 (0, 0)) := by subst hW1; rw [at_old (by simp), at_new (by simp)]
  have kO : W1.heap[w.heap.size + 1 + 1 + 1]? = some (.cells #[.slice none 0 0] 38 (0, 0)) := by subst hW1; exact at_new (by simp)
  have sz : w.heap.size + 4 ≤ W1.heap.size := by subst hW1; simp
  have HQ : Hid (Rl.Rd w ra rb ro Q) := hq
  have HT : Hid (∀ i, i < T.length → runL (s, ar, said Q) ((told T).take (i + 1)) = stepL (s, ar, said Q) (runL (s, ar, said Q) ((told T).take i)) (T.getD i nm0).l) := fun i hi => by rw [take_told' hi, runL_snoc]
  have HE : Hid (setL (s, ar, said Q) (told T) = (runL (s, ar, said Q) ((told T).take T.length)).1 ++ (if (runL (s, ar, said Q) ((told T).take T.length)).2 = true then [] else [(s, ar, said Q)])) := by
    have e : (told T).take T.length = told T := by rw [← St.told_len T, List.take_length]
    rw [Hid, e]; rfl
  have H4T : Hid (∀ i, i < T.length → (T.getD i nm0).Q.length ≤ 100000) := fun i hi => h4T _ (St.mem_at hi)
  have HR : Hid (St.Rd w a b off T) := h
  generalize setL (s, ar, said Q) (told T) = X at HE ⊢
  clear h hq h4T
  obtain ⟨n, hn⟩ : ∃ n, n = T.length := ⟨_, rfl⟩
  rw [← hn] at HT H4T HE k3 hTn hW1 ⊢
  have HN : Hid (n = T.length) := hn
  clear hn
  obtain ⟨B, hBe⟩ : ∃ B, B = w.heap.size + 4 := ⟨_, rfl⟩
  have hBo : w.heap.size + 1 + 1 + 1 < B := by omega
  have hwo : w.heap.size ≤ w.heap.size + 1 + 1 + 1 := by omega
  have hBs : B ≤ W1.heap.size := by omega
  have hBw : w.heap.size + 4 ≤ B := by omega
  clear hBe sz
  go_enter Tryz.func60, Tryz.ntmps60
  have p3 := Pl.one k3
  rw [hW1] at p3
  go_wp2
  rw [← hW1]
  clear hW1 p3
  obtain ⟨RU, hRU⟩ : ∃ RU, RU = ResU w := ⟨_, rfl⟩
  rw [← hRU]
  have HRU : Hid (RU = ResU w) := hRU
  clear hRU
  go_loopw [8, 14] (fun u8 i wr => ∃ (k : Nat) (d : Bool) (v : Value) (F : List Nm), k ≤ n ∧ i = .int .i64 k ∧ u8 = .bool d ∧ Below w.heap.size w wr ∧ wr.heap[w.heap.size]? = some (.cells #[.slice a n cap] 38 (0, 0)) ∧ wr.heap[w.heap.size + 1]? = some (.cells #[.int .i64 ar, .slice ra Q.length rc] 69 (0, 0)) ∧ wr.heap[w.heap.size + 1 + 1]? = some (.cells #[.slice none 0 0] 38 (0, 0)) ∧ wr.heap[w.heap.size + 1 + 1 + 1]? = some (.cells #[v] 38 (0, 0)) ∧ St.OS wr B v F ∧ B ≤ wr.heap.size ∧ told F = (runL (s, ar, said Q) ((told T).take k)).1 ∧ d = (runL (s, ar, said Q) ((told T).take k)).2 ∧ F.length ≤ 2 * k) (fun _ i _ => n - (intOf i).toNat)
  case atStart => exact ⟨0, false, .slice none 0 0, [], Nat.zero_le _, rfl, rfl, B1, k3, k5, k6, kO, St.OS.nil _ _, hBs, by simp [runL, told], by simp [runL], by simp⟩
  case round =>
    clear B1 k3 k5 k6 kO hBs
    obtain ⟨k, d, v, F, hk, rfl, rfl, B1, k3, k5, k6, kO, hos, hBs, hT, hd, hFk⟩ := hrel
    have hFl : F.length ≤ 100000 := by omega
    have HTk : Hid (told F = (runL (s, ar, said Q) ((told T).take k)).1) := hT
    have HDk : Hid (d = (runL (s, ar, said Q) ((told T).take k)).2) := hd
    clear hT hd
    by_cases hlt : k < n
    · have hkz : (k : Int) < (n : Int) := by omega
      have hnn := HN.out
      obtain rfl := HR.out.head (by omega)
      have hc := HR.out.cell k (by omega)
      have lb := hc.lt
      have HC : Hid (St.Nm.At w b off k (T.getD k nm0)) := hc
      have okY := HR.out.ok k (by omega)
      have hys := HR.out.str k (by omega)
      have h4y := H4T.out k hlt
      have HStep : Hid (runL (s, ar, said Q) ((told T).take (k + 1)) = stepL (s, ar, said Q) (told F, d) (T.getD k nm0).l) := by
        rw [Hid, HT.out k hlt, HTk.out, HDk.out]
      clear hnn hc HTk HDk
      generalize T.getD k nm0 = y at HC okY hys h4y HStep
      obtain ⟨ys, yr, ya, yb, yo, yc, yQ⟩ := y
      simp only [Nm.l] at hys h4y HStep
      have HY : Hid (Rl.Rd w ya yb yo yQ) := okY
      have HC' : Hid (St.At3 w b off k ys yr (.slice ya yQ.length yc)) := HC.out
      clear okY HC
      have HC := HC'
      clear HC'
      obtain ⟨c0, c1, c2⟩ := St.At3.of HC.out B1 lb
      have p3 := Pl.one k3
      unfold strLt at *
      cases d with
      | true =>
        by_cases hxy : ys = s
        · have hss : (ys.toList == s.toList) = true := by rw [hxy]; simp
          have HS1 : Hid (told F = (runL (s, ar, said Q) ((told T).take (k + 1))).1 ∧ true = (runL (s, ar, said Q) ((told T).take (k + 1))).2) := by rw [Hid, HStep.out]; simp [stepL, hxy]
          clear hxy HStep
          go_wp2
          go_roundw
          case rel => exact ⟨k + 1, true, v, F, by omega, by go_num, rfl, B1, k3, k5, k6, kO, hos, hBs, HS1.out.1, HS1.out.2, by omega⟩
          case measure => simp [intOf]; omega
        · have hss : (ys.toList == s.toList) = false := neq_false hxy
          have HS1 : Hid (told F ++ [(ys, yr, said yQ)] = (runL (s, ar, said Q) ((told T).take (k + 1))).1 ∧ true = (runL (s, ar, said Q) ((told T).take (k + 1))).2) := by rw [Hid, HStep.out]; simp [stepL, hxy]
          clear hxy HStep
          as_aux_lemma =>
            go_wp2
            have hSt : ∀ w', Rl.Stab wr (w.heap.size + 1 + 1 + 1) v w' → w'.cell? ⟨w.heap.size, 0, none⟩ = some (.slice (some ⟨b, off, none⟩) n cap) ∧ w'.cell? ⟨b, off + k * 3, none⟩ = some (.string ys) ∧ w'.cell? ⟨b, off + k * 3 + 1, none⟩ = some (.int .i64 yr) ∧ w'.cell? ⟨b, off + k * 3 + 2, none⟩ = some (.slice ya yQ.length yc) := fun w' st => by
              have hkb := st.block b (Nat.lt_of_lt_of_le lb B1.size) (by omega) (fun e => by have := (hos.lt e.symm).1; omega)
              have hcc := St.At3.of HC.out B1 lb
              have e3 := (st.block _ (blk_lt k3) (by omega) (fun e => by have := (hos.lt e.symm).1; omega)).trans k3
              exact ⟨Pl.one e3, (World.cell?_of_block hkb).trans hcc.1, (World.cell?_of_block hkb).trans hcc.2.1, (World.cell?_of_block hkb).trans hcc.2.2⟩
            have ok : Rl.Rd wr ya yb yo yQ := HY.out.below B1
            have hnm := hys
            have h4 := h4y
            have hF1of : ∀ F1 : List Rm, said F1 = said yQ → F1.length ≤ 4194304 := fun F1 h => by rw [← Rl.said_len, h, Rl.said_len]; omega
            refine wp_region_held_drew (S := Rl.Stab wr (w.heap.size + 1 + 1 + 1) v) (by kernel_rfl) (Rl.Stab.refl _ _ _) (fun hHeld => ?_)
            refine Hn.take (i := 0) (d := some 46) (v := .pointer (some ⟨w.heap.size + 1 + 1 + 1, 0, none⟩)) rfl (by kernel_rfl) (by kernel_rfl) (by kernel_rfl) (by kernel_rfl) (fun _ _ _ h => h) (Or.inl ⟨by rfl, by intro w hSw; go_simp⟩) hHeld ?_
            simp only [Act.put, List.setIfInBounds_toArray, List.set_cons_zero, List.set_cons_succ]
            refine Hn.take (i := 2) (d := some 48) (v := .pointer (some ⟨w.heap.size, 0, none⟩)) rfl (by kernel_rfl) (by kernel_rfl) (by kernel_rfl) (by kernel_rfl) (fun _ _ _ h => h) (Or.inl ⟨by rfl, by intro w hSw; go_simp⟩) hHeld ?_
            simp only [Act.put, List.setIfInBounds_toArray, List.set_cons_zero, List.set_cons_succ]
            refine Hn.take (i := 3) (d := some 49) (v := .slice (some ⟨b, off, none⟩) n cap) rfl (by kernel_rfl) (by kernel_rfl) (by kernel_rfl) (by kernel_rfl) (fun _ _ _ h => h) (Or.inl ⟨by rfl, by intro w hSw; obtain ⟨q0, q1, q2, q3⟩ := hSt w hSw; go_simp⟩) hHeld ?_
            simp only [Act.put, List.setIfInBounds_toArray, List.set_cons_zero, List.set_cons_succ]
            refine Hn.take (i := 4) (d := some 50) (v := .int .i64 k) rfl (by kernel_rfl) (by kernel_rfl) (by kernel_rfl) (by kernel_rfl) (fun _ _ _ h => h) (Or.inl ⟨by rfl, by intro w hSw; go_simp⟩) hHeld ?_
            simp only [Act.put, List.setIfInBounds_toArray, List.set_cons_zero, List.set_cons_succ]
            refine Hn.take (i := 5) (d := some 51) (v := .pointer (some ⟨b, off + k * 3, none⟩)) rfl (by kernel_rfl) (by kernel_rfl) (by kernel_rfl) (by kernel_rfl) (fun _ _ _ h => h) (Or.inl ⟨by rfl, by intro w hSw; go_simp⟩) hHeld ?_
            simp only [Act.put, List.setIfInBounds_toArray, List.set_cons_zero, List.set_cons_succ]
            refine Hn.take (i := 6) (d := some 52) (v := .pointer (some ⟨b, off + k * 3, none⟩)) rfl (by kernel_rfl) (by kernel_rfl) (by kernel_rfl) (by kernel_rfl) (fun _ _ _ h => h) (Or.inl ⟨by rfl, by intro w hSw; go_simp⟩) hHeld ?_
            simp only [Act.put, List.setIfInBounds_toArray, List.set_cons_zero, List.set_cons_succ]
            refine Hn.take (i := 7) (d := some 53) (v := .string ys) rfl (by kernel_rfl) (by kernel_rfl) (by kernel_rfl) (by kernel_rfl) (fun _ _ _ h => h) (Or.inl ⟨by rfl, by intro w hSw; obtain ⟨q0, q1, q2, q3⟩ := hSt w hSw; go_simp⟩) hHeld ?_
            simp only [Act.put, List.setIfInBounds_toArray, List.set_cons_zero, List.set_cons_succ]
            refine Hn.take (i := 8) (d := some 54) (v := .pointer (some ⟨w.heap.size, 0, none⟩)) rfl (by kernel_rfl) (by kernel_rfl) (by kernel_rfl) (by kernel_rfl) (fun _ _ _ h => h) (Or.inl ⟨by rfl, by intro w hSw; go_simp⟩) hHeld ?_
            simp only [Act.put, List.setIfInBounds_toArray, List.set_cons_zero, List.set_cons_succ]
            refine Hn.take (i := 9) (d := some 55) (v := .slice (some ⟨b, off, none⟩) n cap) rfl (by kernel_rfl) (by kernel_rfl) (by kernel_rfl) (by kernel_rfl) (fun _ _ _ h => h) (Or.inl ⟨by rfl, by intro w hSw; obtain ⟨q0, q1, q2, q3⟩ := hSt w hSw; go_simp⟩) hHeld ?_
            simp only [Act.put, List.setIfInBounds_toArray, List.set_cons_zero, List.set_cons_succ]
            refine Hn.take (i := 10) (d := some 56) (v := .int .i64 k) rfl (by kernel_rfl) (by kernel_rfl) (by kernel_rfl) (by kernel_rfl) (fun _ _ _ h => h) (Or.inl ⟨by rfl, by intro w hSw; go_simp⟩) hHeld ?_
            simp only [Act.put, List.setIfInBounds_toArray, List.set_cons_zero, List.set_cons_succ]
            refine Hn.take (i := 11) (d := some 57) (v := .pointer (some ⟨b, off + k * 3, none⟩)) rfl (by kernel_rfl) (by kernel_rfl) (by kernel_rfl) (by kernel_rfl) (fun _ _ _ h => h) (Or.inl ⟨by rfl, by intro w hSw; go_simp⟩) hHeld ?_
            simp only [Act.put, List.setIfInBounds_toArray, List.set_cons_zero, List.set_cons_succ]
            refine Hn.take (i := 12) (d := some 58) (v := .pointer (some ⟨b, off + k * 3 + 1, none⟩)) rfl (by kernel_rfl) (by kernel_rfl) (by kernel_rfl) (by kernel_rfl) (fun _ _ _ h => h) (Or.inl ⟨by rfl, by intro w hSw; go_simp⟩) hHeld ?_
            simp only [Act.put, List.setIfInBounds_toArray, List.set_cons_zero, List.set_cons_succ]
            refine Hn.take (i := 13) (d := some 59) (v := .agg #[.int .i64 yr, .slice ya yQ.length yc]) rfl (by kernel_rfl) (by kernel_rfl) (by kernel_rfl) (by kernel_rfl) (fun _ _ _ h => h) (Or.inl ⟨by rfl, by intro w hSw; obtain ⟨q0, q1, q2, q3⟩ := hSt w hSw; go_simp⟩) hHeld ?_
            simp only [Act.put, List.setIfInBounds_toArray, List.set_cons_zero, List.set_cons_succ]
            have st : Rl.Stab wr (w.heap.size + 1 + 1 + 1) v (wr).drew := Rl.Stab.refl _ _ _
            have hos0 : St.OS (wr).drew B v F := hos.below ((Below.refl _ _).drew)
            have kO0 : (wr).drew.heap[w.heap.size + 1 + 1 + 1]? = some (.cells #[v] 38 (0, 0)) := kO
            have ok0 := Rl.Rd.below ok ((Below.refl (wr).heap.size (wr)).drew)
            have B2 := Rw.next B1 ((Below.refl (wr).heap.size (wr)).drew)
            have sW : (wr).drew.heap.size = (wr).heap.size := rfl
            generalize (wr).drew = W at *
            refine wpAnyH_ready (rs := [1, 14]) (by kernel_rfl) (by simp) (Hn.readyRun (i := 1) rfl (by kernel_rfl) (some 47) (by kernel_rfl) (v := v) (w' := W) (by have o0 := Pl.one kO0; go_simp) st (fun hHeld => ?_) (Hn.call1 (i := 14) rfl (by rfl) 95 (.tmp 59) 69 (by kernel_rfl) 60 (by kernel_rfl) (.agg #[.int .i64 yr, .slice ya yQ.length yc]) (by kernel_rfl) (fun _ => rfl) (Rl.lcopy_any yr ya yb yo yc yQ _ ok0 h4) ?_ AllReadyH.nil))
            · simp only [Act.put, List.setIfInBounds_toArray, List.set_cons_zero, List.set_cons_succ]
              refine wpAnyH_ready (rs := [14]) (by kernel_rfl) (by simp) (Hn.call1 (i := 14) rfl (by rfl) 95 (.tmp 59) 69 (by kernel_rfl) 60 (by kernel_rfl) (.agg #[.int .i64 yr, .slice ya yQ.length yc]) (by kernel_rfl) (fun _ => rfl) (Rl.lcopy_any yr ya yb yo yc yQ _ ok0 h4) ?_ AllReadyH.nil)
              rintro e1 Wc ⟨v1, F1, rfl, hot1, hl, hb⟩
              have hF1 := hF1of F1 hl
              obtain ⟨ra1, rg1, rc1, rfl, hr⟩ := hot1.form hF1
              replace st := st.below hb
              replace kO0 := (hb.block _ (blk_lt kO0)).trans kO0
              have hbc := hb
              replace B2 := Rw.next B2 hb
              have sC := hb.size
              refine ⟨_, rfl, st, fun hHeld => ?_⟩
              simp only [Act.put, List.setIfInBounds_toArray, List.set_cons_zero, List.set_cons_succ]
              refine Hn.take (i := 15) (d := some 61) (v := .agg #[.string ys, .int .i64 yr, .slice ra1 F1.length rc1]) rfl (by kernel_rfl) (by kernel_rfl) (by kernel_rfl) (by kernel_rfl) (fun _ _ _ h => h) (Or.inl ⟨by rfl, by intro w hSw; go_simp⟩) hHeld ?_
              simp only [Act.put, List.setIfInBounds_toArray, List.set_cons_zero, List.set_cons_succ]
              refine wpAnyH_ready (rs := [16]) (by kernel_rfl) (by simp) (Hn.readyRun (i := 16) rfl (by kernel_rfl) (some 62) (by kernel_rfl) (v := .slice (some ⟨Wc.heap.size, 0, none⟩) 1 1) (w' := Wc.alloc (.cells #[.string ys, .int .i64 yr, .slice ra1 F1.length rc1] 113)) (St.exec_oneN rfl (by kernel_rfl)) (st.below (below_alloc1 _ _)) (fun hHeld => ?_) AllReadyH.nil)
              simp only [Act.put, List.setIfInBounds_toArray, List.set_cons_zero, List.set_cons_succ]
              obtain ⟨Wd, hWd⟩ : ∃ Wd, Wd = Wc.alloc (.cells #[.string ys, .int .i64 yr, .slice ra1 F1.length rc1] 113) := ⟨_, rfl⟩
              rw [← hWd] at hHeld ⊢
              have hT : Wd.heap[Wc.heap.size]? = some (.cells #[.string ys, .int .i64 yr, .slice ra1 F1.length rc1] 113 (0, 0)) := by subst hWd; exact at_new rfl
              have hb : Below Wc.heap.size Wc Wd := by subst hWd; exact below_alloc1 _ _
              have sD := hb.size
              replace st := st.below hb
              replace kO0 := (hb.block _ (blk_lt kO0)).trans kO0
              replace B2 := Rw.next B2 hb
              have hr2 := hr.below hb
              have hbd := Rw.next hbc hb
              clear hb hWd
              obtain ⟨v', Z, hrun, hosZ, hgr⟩ := hos0.app (x := ⟨ys, yr, ra1, rg1, 0, rc1, F1⟩) (c := 1) 36 hbd hr2 sD rfl hnm (by omega) hT hFl
              refine wpAnyH_ready (rs := [17]) (by kernel_rfl) (by simp) (Hn.readyRun (i := 17) rfl (by kernel_rfl) (some 63) (by kernel_rfl) (Hn.exec_app (.tmp 47) (.tmp 62) rfl (by kernel_rfl) (by kernel_rfl) hrun) (st.grown hgr) (fun hHeld => ?_) AllReadyH.nil)
              simp only [Act.put, List.setIfInBounds_toArray, List.set_cons_zero, List.set_cons_succ]
              replace st := st.grown hgr
              obtain ⟨va, vn, vc, hv⟩ := hosZ.slice
              subst hv
              have kOZ := (hgr.block _ (blk_lt kO0) (fun e => by have := (hos0.lt e.symm).1; omega)).trans kO0
              replace B2 := B2.grown hgr B2.size (fun k hk => by have := (hos0.lt hk).1; omega)
              have o0 := Pl.one kOZ
              have fO := Vl.free kOZ
              refine Hn.take (i := 18) (d := some 64) (v := .pointer (some ⟨w.heap.size + 1 + 1 + 1, 0, none⟩)) rfl (by kernel_rfl) (by kernel_rfl) (by kernel_rfl) (by kernel_rfl) (fun _ _ _ h => h) (Or.inl ⟨by rfl, by intro w hSw; go_simp⟩) hHeld ?_
              simp only [Act.put, List.setIfInBounds_toArray, List.set_cons_zero, List.set_cons_succ]
              refine wpAnyH_ready (rs := [19]) (by kernel_rfl) (by simp) (Hn.readySkip (i := 19) rfl (by kernel_rfl) none (by kernel_rfl) (w' := Z.setCell ⟨w.heap.size + 1 + 1 + 1, 0, none⟩ (.slice va vn vc)) (by go_simp) st.set (fun hHeld => ?_) AllReadyH.nil)
              simp only [Act.put, List.setIfInBounds_toArray, List.set_cons_zero, List.set_cons_succ]
              refine wpAnyH_done (by kernel_rfl) ?_ _
              have kO' : (Z.setCell ⟨w.heap.size + 1 + 1 + 1, 0, none⟩ (.slice va vn vc)).heap[w.heap.size + 1 + 1 + 1]? = some (.cells #[(.slice va vn vc)] 38 (0, 0)) := Sw.one_set kOZ
              have B1' : Below w.heap.size w (Z.setCell ⟨w.heap.size + 1 + 1 + 1, 0, none⟩ (.slice va vn vc)) := Vl.bset B2 hwo
              have hos' : St.OS (Z.setCell ⟨w.heap.size + 1 + 1 + 1, 0, none⟩ (.slice va vn vc)) B (.slice va vn vc) (F ++ [⟨ys, yr, ra1, rg1, 0, rc1, F1⟩]) := hosZ.keep (fun x _ hx => Below.heap_setCell _ _ _ _ (by simp; omega)) (by simp)
              replace st : Rl.Stab wr (w.heap.size + 1 + 1 + 1) v (Z.setCell ⟨w.heap.size + 1 + 1 + 1, 0, none⟩ (.slice va vn vc)) := st.set
              have k3n := (st.block _ (blk_lt k3) (by omega) (fun e => by have := (hos.lt e.symm).1; omega)).trans k3
              have k5n := (st.block _ (blk_lt k5) (by omega) (fun e => by have := (hos.lt e.symm).1; omega)).trans k5
              have k6n := (st.block _ (blk_lt k6) (by omega) (fun e => by have := (hos.lt e.symm).1; omega)).trans k6
              have hBn : B ≤ (Z.setCell ⟨w.heap.size + 1 + 1 + 1, 0, none⟩ (.slice va vn vc)).heap.size := by have := st.size; simp at this ⊢; omega
              obtain ⟨Wn, hWn⟩ : ∃ Wn, Wn = Z.setCell ⟨w.heap.size + 1 + 1 + 1, 0, none⟩ (.slice va vn vc) := ⟨_, rfl⟩
              rw [← hWn] at kO' B1' hos' k3n k5n k6n hBn ⊢
              have HF : Hid (told (F ++ [⟨ys, yr, ra1, rg1, 0, rc1, F1⟩]) = told F ++ [(ys, yr, said yQ)]) := by rw [Hid, told_snoc]; simp only [Nm.l]; rw [hl]
              have HLn : Hid ((F ++ [(⟨ys, yr, ra1, rg1, 0, rc1, F1⟩ : Nm)]).length = F.length + 1) := by rw [Hid]; simp
              generalize F ++ [(⟨ys, yr, ra1, rg1, 0, rc1, F1⟩ : Nm)] = F2 at hos' HF HLn
              generalize Value.slice va vn vc = v2 at kO' hos' hWn
              clear hWn st hos0 kO0 ok0 B2 hos kO B1 k3 k5 k6 hBs hHeld
              have kO := kO'
              have B1 := B1'
              have hos := hos'
              have k3 := k3n
              have k5 := k5n
              have k6 := k6n
              have hBs := hBn
              clear kO' B1' hos' k3n k5n k6n hBn
              go_wp2
              go_roundw
              case rel => exact ⟨k + 1, _, _, _, by omega, by go_num, rfl, B1, k3, k5, k6, kO, hos, hBs, (by rw [HF.out]; exact HS1.out.1), HS1.out.2, (by have := HLn.out; omega)⟩
              case measure => simp [intOf]; omega
            · rintro e1 Wc ⟨v1, F1, rfl, hot1, hl, hb⟩
              have hF1 := hF1of F1 hl
              obtain ⟨ra1, rg1, rc1, rfl, hr⟩ := hot1.form hF1
              replace st := st.below hb
              replace kO0 := (hb.block _ (blk_lt kO0)).trans kO0
              have hbc := hb
              replace B2 := Rw.next B2 hb
              have sC := hb.size
              refine ⟨_, rfl, st, fun hHeld => ?_⟩
              simp only [Act.put, List.setIfInBounds_toArray, List.set_cons_zero, List.set_cons_succ]
              refine Hn.take (i := 15) (d := some 61) (v := .agg #[.string ys, .int .i64 yr, .slice ra1 F1.length rc1]) rfl (by kernel_rfl) (by kernel_rfl) (by kernel_rfl) (by kernel_rfl) (fun _ _ _ h => h) (Or.inl ⟨by rfl, by intro w hSw; go_simp⟩) hHeld ?_
              simp only [Act.put, List.setIfInBounds_toArray, List.set_cons_zero, List.set_cons_succ]
              refine wpAnyH_ready (rs := [1, 16]) (by kernel_rfl) (by simp) (Hn.readyRun (i := 1) rfl (by kernel_rfl) (some 47) (by kernel_rfl) (v := v) (w' := Wc) (by have o0 := Pl.one kO0; go_simp) st (fun hHeld => ?_) (Hn.readyRun (i := 16) rfl (by kernel_rfl) (some 62) (by kernel_rfl) (v := .slice (some ⟨Wc.heap.size, 0, none⟩) 1 1) (w' := Wc.alloc (.cells #[.string ys, .int .i64 yr, .slice ra1 F1.length rc1] 113)) (St.exec_oneN rfl (by kernel_rfl)) (st.below (below_alloc1 _ _)) (fun hHeld => ?_) AllReadyH.nil))
              · simp only [Act.put, List.setIfInBounds_toArray, List.set_cons_zero, List.set_cons_succ]
                refine wpAnyH_ready (rs := [16]) (by kernel_rfl) (by simp) (Hn.readyRun (i := 16) rfl (by kernel_rfl) (some 62) (by kernel_rfl) (v := .slice (some ⟨Wc.heap.size, 0, none⟩) 1 1) (w' := Wc.alloc (.cells #[.string ys, .int .i64 yr, .slice ra1 F1.length rc1] 113)) (St.exec_oneN rfl (by kernel_rfl)) (st.below (below_alloc1 _ _)) (fun hHeld => ?_) AllReadyH.nil)
                simp only [Act.put, List.setIfInBounds_toArray, List.set_cons_zero, List.set_cons_succ]
                obtain ⟨Wd, hWd⟩ : ∃ Wd, Wd = Wc.alloc (.cells #[.string ys, .int .i64 yr, .slice ra1 F1.length rc1] 113) := ⟨_, rfl⟩
                rw [← hWd] at hHeld ⊢
                have hT : Wd.heap[Wc.heap.size]? = some (.cells #[.string ys, .int .i64 yr, .slice ra1 F1.length rc1] 113 (0, 0)) := by subst hWd; exact at_new rfl
                have hb : Below Wc.heap.size Wc Wd := by subst hWd; exact below_alloc1 _ _
                have sD := hb.size
                replace st := st.below hb
                replace kO0 := (hb.block _ (blk_lt kO0)).trans kO0
                replace B2 := Rw.next B2 hb
                have hr2 := hr.below hb
                have hbd := Rw.next hbc hb
                clear hb hWd
                obtain ⟨v', Z, hrun, hosZ, hgr⟩ := hos0.app (x := ⟨ys, yr, ra1, rg1, 0, rc1, F1⟩) (c := 1) 36 hbd hr2 sD rfl hnm (by omega) hT hFl
                refine wpAnyH_ready (rs := [17]) (by kernel_rfl) (by simp) (Hn.readyRun (i := 17) rfl (by kernel_rfl) (some 63) (by kernel_rfl) (Hn.exec_app (.tmp 47) (.tmp 62) rfl (by kernel_rfl) (by kernel_rfl) hrun) (st.grown hgr) (fun hHeld => ?_) AllReadyH.nil)
                simp only [Act.put, List.setIfInBounds_toArray, List.set_cons_zero, List.set_cons_succ]
                replace st := st.grown hgr
                obtain ⟨va, vn, vc, hv⟩ := hosZ.slice
                subst hv
                have kOZ := (hgr.block _ (blk_lt kO0) (fun e => by have := (hos0.lt e.symm).1; omega)).trans kO0
                replace B2 := B2.grown hgr B2.size (fun k hk => by have := (hos0.lt hk).1; omega)
                have o0 := Pl.one kOZ
                have fO := Vl.free kOZ
                refine Hn.take (i := 18) (d := some 64) (v := .pointer (some ⟨w.heap.size + 1 + 1 + 1, 0, none⟩)) rfl (by kernel_rfl) (by kernel_rfl) (by kernel_rfl) (by kernel_rfl) (fun _ _ _ h => h) (Or.inl ⟨by rfl, by intro w hSw; go_simp⟩) hHeld ?_
                simp only [Act.put, List.setIfInBounds_toArray, List.set_cons_zero, List.set_cons_succ]
                refine wpAnyH_ready (rs := [19]) (by kernel_rfl) (by simp) (Hn.readySkip (i := 19) rfl (by kernel_rfl) none (by kernel_rfl) (w' := Z.setCell ⟨w.heap.size + 1 + 1 + 1, 0, none⟩ (.slice va vn vc)) (by go_simp) st.set (fun hHeld => ?_) AllReadyH.nil)
                simp only [Act.put, List.setIfInBounds_toArray, List.set_cons_zero, List.set_cons_succ]
                refine wpAnyH_done (by kernel_rfl) ?_ _
                have kO' : (Z.setCell ⟨w.heap.size + 1 + 1 + 1, 0, none⟩ (.slice va vn vc)).heap[w.heap.size + 1 + 1 + 1]? = some (.cells #[(.slice va vn vc)] 38 (0, 0)) := Sw.one_set kOZ
                have B1' : Below w.heap.size w (Z.setCell ⟨w.heap.size + 1 + 1 + 1, 0, none⟩ (.slice va vn vc)) := Vl.bset B2 hwo
                have hos' : St.OS (Z.setCell ⟨w.heap.size + 1 + 1 + 1, 0, none⟩ (.slice va vn vc)) B (.slice va vn vc) (F ++ [⟨ys, yr, ra1, rg1, 0, rc1, F1⟩]) := hosZ.keep (fun x _ hx => Below.heap_setCell _ _ _ _ (by simp; omega)) (by simp)
                replace st : Rl.Stab wr (w.heap.size + 1 + 1 + 1) v (Z.setCell ⟨w.heap.size + 1 + 1 + 1, 0, none⟩ (.slice va vn vc)) := st.set
                have k3n := (st.block _ (blk_lt k3) (by omega) (fun e => by have := (hos.lt e.symm).1; omega)).trans k3
                have k5n := (st.block _ (blk_lt k5) (by omega) (fun e => by have := (hos.lt e.symm).1; omega)).trans k5
                have k6n := (st.block _ (blk_lt k6) (by omega) (fun e => by have := (hos.lt e.symm).1; omega)).trans k6
                have hBn : B ≤ (Z.setCell ⟨w.heap.size + 1 + 1 + 1, 0, none⟩ (.slice va vn vc)).heap.size := by have := st.size; simp at this ⊢; omega
                obtain ⟨Wn, hWn⟩ : ∃ Wn, Wn = Z.setCell ⟨w.heap.size + 1 + 1 + 1, 0, none⟩ (.slice va vn vc) := ⟨_, rfl⟩
                rw [← hWn] at kO' B1' hos' k3n k5n k6n hBn ⊢
                have HF : Hid (told (F ++ [⟨ys, yr, ra1, rg1, 0, rc1, F1⟩]) = told F ++ [(ys, yr, said yQ)]) := by rw [Hid, told_snoc]; simp only [Nm.l]; rw [hl]
                have HLn : Hid ((F ++ [(⟨ys, yr, ra1, rg1, 0, rc1, F1⟩ : Nm)]).length = F.length + 1) := by rw [Hid]; simp
                generalize F ++ [(⟨ys, yr, ra1, rg1, 0, rc1, F1⟩ : Nm)] = F2 at hos' HF HLn
                generalize Value.slice va vn vc = v2 at kO' hos' hWn
                clear hWn st hos0 kO0 ok0 B2 hos kO B1 k3 k5 k6 hBs hHeld
                have kO := kO'
                have B1 := B1'
                have hos := hos'
                have k3 := k3n
                have k5 := k5n
                have k6 := k6n
                have hBs := hBn
                clear kO' B1' hos' k3n k5n k6n hBn
                go_wp2
                go_roundw
                case rel => exact ⟨k + 1, _, _, _, by omega, by go_num, rfl, B1, k3, k5, k6, kO, hos, hBs, (by rw [HF.out]; exact HS1.out.1), HS1.out.2, (by have := HLn.out; omega)⟩
                case measure => simp [intOf]; omega
              · simp only [Act.put, List.setIfInBounds_toArray, List.set_cons_zero, List.set_cons_succ]
                obtain ⟨Wd, hWd⟩ : ∃ Wd, Wd = Wc.alloc (.cells #[.string ys, .int .i64 yr, .slice ra1 F1.length rc1] 113) := ⟨_, rfl⟩
                rw [← hWd] at hHeld ⊢
                have hT : Wd.heap[Wc.heap.size]? = some (.cells #[.string ys, .int .i64 yr, .slice ra1 F1.length rc1] 113 (0, 0)) := by subst hWd; exact at_new rfl
                have hb : Below Wc.heap.size Wc Wd := by subst hWd; exact below_alloc1 _ _
                have sD := hb.size
                replace st := st.below hb
                replace kO0 := (hb.block _ (blk_lt kO0)).trans kO0
                replace B2 := Rw.next B2 hb
                have hr2 := hr.below hb
                have hbd := Rw.next hbc hb
                clear hb hWd
                refine wpAnyH_ready (rs := [1]) (by kernel_rfl) (by simp) (Hn.readyRun (i := 1) rfl (by kernel_rfl) (some 47) (by kernel_rfl) (v := v) (w' := Wd) (by have o0 := Pl.one kO0; go_simp) st (fun hHeld => ?_) AllReadyH.nil)
                simp only [Act.put, List.setIfInBounds_toArray, List.set_cons_zero, List.set_cons_succ]
                obtain ⟨v', Z, hrun, hosZ, hgr⟩ := hos0.app (x := ⟨ys, yr, ra1, rg1, 0, rc1, F1⟩) (c := 1) 36 hbd hr2 sD rfl hnm (by omega) hT hFl
                refine wpAnyH_ready (rs := [17]) (by kernel_rfl) (by simp) (Hn.readyRun (i := 17) rfl (by kernel_rfl) (some 63) (by kernel_rfl) (Hn.exec_app (.tmp 47) (.tmp 62) rfl (by kernel_rfl) (by kernel_rfl) hrun) (st.grown hgr) (fun hHeld => ?_) AllReadyH.nil)
                simp only [Act.put, List.setIfInBounds_toArray, List.set_cons_zero, List.set_cons_succ]
                replace st := st.grown hgr
                obtain ⟨va, vn, vc, hv⟩ := hosZ.slice
                subst hv
                have kOZ := (hgr.block _ (blk_lt kO0) (fun e => by have := (hos0.lt e.symm).1; omega)).trans kO0
                replace B2 := B2.grown hgr B2.size (fun k hk => by have := (hos0.lt hk).1; omega)
                have o0 := Pl.one kOZ
                have fO := Vl.free kOZ
                refine Hn.take (i := 18) (d := some 64) (v := .pointer (some ⟨w.heap.size + 1 + 1 + 1, 0, none⟩)) rfl (by kernel_rfl) (by kernel_rfl) (by kernel_rfl) (by kernel_rfl) (fun _ _ _ h => h) (Or.inl ⟨by rfl, by intro w hSw; go_simp⟩) hHeld ?_
                simp only [Act.put, List.setIfInBounds_toArray, List.set_cons_zero, List.set_cons_succ]
                refine wpAnyH_ready (rs := [19]) (by kernel_rfl) (by simp) (Hn.readySkip (i := 19) rfl (by kernel_rfl) none (by kernel_rfl) (w' := Z.setCell ⟨w.heap.size + 1 + 1 + 1, 0, none⟩ (.slice va vn vc)) (by go_simp) st.set (fun hHeld => ?_) AllReadyH.nil)
                simp only [Act.put, List.setIfInBounds_toArray, List.set_cons_zero, List.set_cons_succ]
                refine wpAnyH_done (by kernel_rfl) ?_ _
                have kO' : (Z.setCell ⟨w.heap.size + 1 + 1 + 1, 0, none⟩ (.slice va vn vc)).heap[w.heap.size + 1 + 1 + 1]? = some (.cells #[(.slice va vn vc)] 38 (0, 0)) := Sw.one_set kOZ
                have B1' : Below w.heap.size w (Z.setCell ⟨w.heap.size + 1 + 1 + 1, 0, none⟩ (.slice va vn vc)) := Vl.bset B2 hwo
                have hos' : St.OS (Z.setCell ⟨w.heap.size + 1 + 1 + 1, 0, none⟩ (.slice va vn vc)) B (.slice va vn vc) (F ++ [⟨ys, yr, ra1, rg1, 0, rc1, F1⟩]) := hosZ.keep (fun x _ hx => Below.heap_setCell _ _ _ _ (by simp; omega)) (by simp)
                replace st : Rl.Stab wr (w.heap.size + 1 + 1 + 1) v (Z.setCell ⟨w.heap.size + 1 + 1 + 1, 0, none⟩ (.slice va vn vc)) := st.set
                have k3n := (st.block _ (blk_lt k3) (by omega) (fun e => by have := (hos.lt e.symm).1; omega)).trans k3
                have k5n := (st.block _ (blk_lt k5) (by omega) (fun e => by have := (hos.lt e.symm).1; omega)).trans k5
                have k6n := (st.block _ (blk_lt k6) (by omega) (fun e => by have := (hos.lt e.symm).1; omega)).trans k6
                have hBn : B ≤ (Z.setCell ⟨w.heap.size + 1 + 1 + 1, 0, none⟩ (.slice va vn vc)).heap.size := by have := st.size; simp at this ⊢; omega
                obtain ⟨Wn, hWn⟩ : ∃ Wn, Wn = Z.setCell ⟨w.heap.size + 1 + 1 + 1, 0, none⟩ (.slice va vn vc) := ⟨_, rfl⟩
                rw [← hWn] at kO' B1' hos' k3n k5n k6n hBn ⊢
                have HF : Hid (told (F ++ [⟨ys, yr, ra1, rg1, 0, rc1, F1⟩]) = told F ++ [(ys, yr, said yQ)]) := by rw [Hid, told_snoc]; simp only [Nm.l]; rw [hl]
                have HLn : Hid ((F ++ [(⟨ys, yr, ra1, rg1, 0, rc1, F1⟩ : Nm)]).length = F.length + 1) := by rw [Hid]; simp
                generalize F ++ [(⟨ys, yr, ra1, rg1, 0, rc1, F1⟩ : Nm)] = F2 at hos' HF HLn
                generalize Value.slice va vn vc = v2 at kO' hos' hWn
                clear hWn st hos0 kO0 ok0 B2 hos kO B1 k3 k5 k6 hBs hHeld
                have kO := kO'
                have B1 := B1'
                have hos := hos'
                have k3 := k3n
                have k5 := k5n
                have k6 := k6n
                have hBs := hBn
                clear kO' B1' hos' k3n k5n k6n hBn
                go_wp2
                go_roundw
                case rel => exact ⟨k + 1, _, _, _, by omega, by go_num, rfl, B1, k3, k5, k6, kO, hos, hBs, (by rw [HF.out]; exact HS1.out.1), HS1.out.2, (by have := HLn.out; omega)⟩
                case measure => simp [intOf]; omega
      | false =>
        cases hle : Op.bytesLess ys.toList s.toList with
        | true =>
          have hxy : ys ≠ s := fun e => by rw [e] at hle; have := strLt_irr s; unfold Vl.strLt at this; rw [this] at hle; cases hle
          have hss : (ys.toList == s.toList) = false := neq_false hxy
          have hl2 : (s.toList == ys.toList) = false := neq_false (fun e => hxy e.symm)
          have hl1 : Op.bytesLess s.toList ys.toList = false := less_no hle
          have HS1 : Hid (told F ++ [(ys, yr, said yQ)] = (runL (s, ar, said Q) ((told T).take (k + 1))).1 ∧ false = (runL (s, ar, said Q) ((told T).take (k + 1))).2) := by rw [Hid, HStep.out]; simp [stepL, hxy, Vl.strLt, hle]
          clear hxy HStep
          as_aux_lemma =>
            go_wp2
            have hSt : ∀ w', Rl.Stab wr (w.heap.size + 1 + 1 + 1) v w' → w'.cell? ⟨w.heap.size, 0, none⟩ = some (.slice (some ⟨b, off, none⟩) n cap) ∧ w'.cell? ⟨b, off + k * 3, none⟩ = some (.string ys) ∧ w'.cell? ⟨b, off + k * 3 + 1, none⟩ = some (.int .i64 yr) ∧ w'.cell? ⟨b, off + k * 3 + 2, none⟩ = some (.slice ya yQ.length yc) := fun w' st => by
              have hkb := st.block b (Nat.lt_of_lt_of_le lb B1.size) (by omega) (fun e => by have := (hos.lt e.symm).1; omega)
              have hcc := St.At3.of HC.out B1 lb
              have e3 := (st.block _ (blk_lt k3) (by omega) (fun e => by have := (hos.lt e.symm).1; omega)).trans k3
              exact ⟨Pl.one e3, (World.cell?_of_block hkb).trans hcc.1, (World.cell?_of_block hkb).trans hcc.2.1, (World.cell?_of_block hkb).trans hcc.2.2⟩
            have ok : Rl.Rd wr ya yb yo yQ := HY.out.below B1
            have hnm := hys
            have h4 := h4y
            have hF1of : ∀ F1 : List Rm, said F1 = said yQ → F1.length ≤ 4194304 := fun F1 h => by rw [← Rl.said_len, h, Rl.said_len]; omega
            refine wp_region_held_drew (S := Rl.Stab wr (w.heap.size + 1 + 1 + 1) v) (by kernel_rfl) (Rl.Stab.refl _ _ _) (fun hHeld => ?_)
            refine Hn.take (i := 0) (d := some 46) (v := .pointer (some ⟨w.heap.size + 1 + 1 + 1, 0, none⟩)) rfl (by kernel_rfl) (by kernel_rfl) (by kernel_rfl) (by kernel_rfl) (fun _ _ _ h => h) (Or.inl ⟨by rfl, by intro w hSw; go_simp⟩) hHeld ?_
            simp only [Act.put, List.setIfInBounds_toArray, List.set_cons_zero, List.set_cons_succ]
            refine Hn.take (i := 2) (d := some 48) (v := .pointer (some ⟨w.heap.size, 0, none⟩)) rfl (by kernel_rfl) (by kernel_rfl) (by kernel_rfl) (by kernel_rfl) (fun _ _ _ h => h) (Or.inl ⟨by rfl, by intro w hSw; go_simp⟩) hHeld ?_
            simp only [Act.put, List.setIfInBounds_toArray, List.set_cons_zero, List.set_cons_succ]
            refine Hn.take (i := 3) (d := some 49) (v := .slice (some ⟨b, off, none⟩) n cap) rfl (by kernel_rfl) (by kernel_rfl) (by kernel_rfl) (by kernel_rfl) (fun _ _ _ h => h) (Or.inl ⟨by rfl, by intro w hSw; obtain ⟨q0, q1, q2, q3⟩ := hSt w hSw; go_simp⟩) hHeld ?_
            simp only [Act.put, List.setIfInBounds_toArray, List.set_cons_zero, List.set_cons_succ]
            refine Hn.take (i := 4) (d := some 50) (v := .int .i64 k) rfl (by kernel_rfl) (by kernel_rfl) (by kernel_rfl) (by kernel_rfl) (fun _ _ _ h => h) (Or.inl ⟨by rfl, by intro w hSw; go_simp⟩) hHeld ?_
            simp only [Act.put, List.setIfInBounds_toArray, List.set_cons_zero, List.set_cons_succ]
            refine Hn.take (i := 5) (d := some 51) (v := .pointer (some ⟨b, off + k * 3, none⟩)) rfl (by kernel_rfl) (by kernel_rfl) (by kernel_rfl) (by kernel_rfl) (fun _ _ _ h => h) (Or.inl ⟨by rfl, by intro w hSw; go_simp⟩) hHeld ?_
            simp only [Act.put, List.setIfInBounds_toArray, List.set_cons_zero, List.set_cons_succ]
            refine Hn.take (i := 6) (d := some 52) (v := .pointer (some ⟨b, off + k * 3, none⟩)) rfl (by kernel_rfl) (by kernel_rfl) (by kernel_rfl) (by kernel_rfl) (fun _ _ _ h => h) (Or.inl ⟨by rfl, by intro w hSw; go_simp⟩) hHeld ?_
            simp only [Act.put, List.setIfInBounds_toArray, List.set_cons_zero, List.set_cons_succ]
            refine Hn.take (i := 7) (d := some 53) (v := .string ys) rfl (by kernel_rfl) (by kernel_rfl) (by kernel_rfl) (by kernel_rfl) (fun _ _ _ h => h) (Or.inl ⟨by rfl, by intro w hSw; obtain ⟨q0, q1, q2, q3⟩ := hSt w hSw; go_simp⟩) hHeld ?_
            simp only [Act.put, List.setIfInBounds_toArray, List.set_cons_zero, List.set_cons_succ]
            refine Hn.take (i := 8) (d := some 54) (v := .pointer (some ⟨w.heap.size, 0, none⟩)) rfl (by kernel_rfl) (by kernel_rfl) (by kernel_rfl) (by kernel_rfl) (fun _ _ _ h => h) (Or.inl ⟨by rfl, by intro w hSw; go_simp⟩) hHeld ?_
            simp only [Act.put, List.setIfInBounds_toArray, List.set_cons_zero, List.set_cons_succ]
            refine Hn.take (i := 9) (d := some 55) (v := .slice (some ⟨b, off, none⟩) n cap) rfl (by kernel_rfl) (by kernel_rfl) (by kernel_rfl) (by kernel_rfl) (fun _ _ _ h => h) (Or.inl ⟨by rfl, by intro w hSw; obtain ⟨q0, q1, q2, q3⟩ := hSt w hSw; go_simp⟩) hHeld ?_
            simp only [Act.put, List.setIfInBounds_toArray, List.set_cons_zero, List.set_cons_succ]
            refine Hn.take (i := 10) (d := some 56) (v := .int .i64 k) rfl (by kernel_rfl) (by kernel_rfl) (by kernel_rfl) (by kernel_rfl) (fun _ _ _ h => h) (Or.inl ⟨by rfl, by intro w hSw; go_simp⟩) hHeld ?_
            simp only [Act.put, List.setIfInBounds_toArray, List.set_cons_zero, List.set_cons_succ]
            refine Hn.take (i := 11) (d := some 57) (v := .pointer (some ⟨b, off + k * 3, none⟩)) rfl (by kernel_rfl) (by kernel_rfl) (by kernel_rfl) (by kernel_rfl) (fun _ _ _ h => h) (Or.inl ⟨by rfl, by intro w hSw; go_simp⟩) hHeld ?_
            simp only [Act.put, List.setIfInBounds_toArray, List.set_cons_zero, List.set_cons_succ]
            refine Hn.take (i := 12) (d := some 58) (v := .pointer (some ⟨b, off + k * 3 + 1, none⟩)) rfl (by kernel_rfl) (by kernel_rfl) (by kernel_rfl) (by kernel_rfl) (fun _ _ _ h => h) (Or.inl ⟨by rfl, by intro w hSw; go_simp⟩) hHeld ?_
            simp only [Act.put, List.setIfInBounds_toArray, List.set_cons_zero, List.set_cons_succ]
            refine Hn.take (i := 13) (d := some 59) (v := .agg #[.int .i64 yr, .slice ya yQ.length yc]) rfl (by kernel_rfl) (by kernel_rfl) (by kernel_rfl) (by kernel_rfl) (fun _ _ _ h => h) (Or.inl ⟨by rfl, by intro w hSw; obtain ⟨q0, q1, q2, q3⟩ := hSt w hSw; go_simp⟩) hHeld ?_
            simp only [Act.put, List.setIfInBounds_toArray, List.set_cons_zero, List.set_cons_succ]
            have st : Rl.Stab wr (w.heap.size + 1 + 1 + 1) v (wr).drew := Rl.Stab.refl _ _ _
            have hos0 : St.OS (wr).drew B v F := hos.below ((Below.refl _ _).drew)
            have kO0 : (wr).drew.heap[w.heap.size + 1 + 1 + 1]? = some (.cells #[v] 38 (0, 0)) := kO
            have ok0 := Rl.Rd.below ok ((Below.refl (wr).heap.size (wr)).drew)
            have B2 := Rw.next B1 ((Below.refl (wr).heap.size (wr)).drew)
            have sW : (wr).drew.heap.size = (wr).heap.size := rfl
            generalize (wr).drew = W at *
            refine wpAnyH_ready (rs := [1, 14]) (by kernel_rfl) (by simp) (Hn.readyRun (i := 1) rfl (by kernel_rfl) (some 47) (by kernel_rfl) (v := v) (w' := W) (by have o0 := Pl.one kO0; go_simp) st (fun hHeld => ?_) (Hn.call1 (i := 14) rfl (by rfl) 95 (.tmp 59) 69 (by kernel_rfl) 60 (by kernel_rfl) (.agg #[.int .i64 yr, .slice ya yQ.length yc]) (by kernel_rfl) (fun _ => rfl) (Rl.lcopy_any yr ya yb yo yc yQ _ ok0 h4) ?_ AllReadyH.nil))
            · simp only [Act.put, List.setIfInBounds_toArray, List.set_cons_zero, List.set_cons_succ]
              refine wpAnyH_ready (rs := [14]) (by kernel_rfl) (by simp) (Hn.call1 (i := 14) rfl (by rfl) 95 (.tmp 59) 69 (by kernel_rfl) 60 (by kernel_rfl) (.agg #[.int .i64 yr, .slice ya yQ.length yc]) (by kernel_rfl) (fun _ => rfl) (Rl.lcopy_any yr ya yb yo yc yQ _ ok0 h4) ?_ AllReadyH.nil)
              rintro e1 Wc ⟨v1, F1, rfl, hot1, hl, hb⟩
              have hF1 := hF1of F1 hl
              obtain ⟨ra1, rg1, rc1, rfl, hr⟩ := hot1.form hF1
              replace st := st.below hb
              replace kO0 := (hb.block _ (blk_lt kO0)).trans kO0
              have hbc := hb
              replace B2 := Rw.next B2 hb
              have sC := hb.size
              refine ⟨_, rfl, st, fun hHeld => ?_⟩
              simp only [Act.put, List.setIfInBounds_toArray, List.set_cons_zero, List.set_cons_succ]
              refine Hn.take (i := 15) (d := some 61) (v := .agg #[.string ys, .int .i64 yr, .slice ra1 F1.length rc1]) rfl (by kernel_rfl) (by kernel_rfl) (by kernel_rfl) (by kernel_rfl) (fun _ _ _ h => h) (Or.inl ⟨by rfl, by intro w hSw; go_simp⟩) hHeld ?_
              simp only [Act.put, List.setIfInBounds_toArray, List.set_cons_zero, List.set_cons_succ]
              refine wpAnyH_ready (rs := [16]) (by kernel_rfl) (by simp) (Hn.readyRun (i := 16) rfl (by kernel_rfl) (some 62) (by kernel_rfl) (v := .slice (some ⟨Wc.heap.size, 0, none⟩) 1 1) (w' := Wc.alloc (.cells #[.string ys, .int .i64 yr, .slice ra1 F1.length rc1] 113)) (St.exec_oneN rfl (by kernel_rfl)) (st.below (below_alloc1 _ _)) (fun hHeld => ?_) AllReadyH.nil)
              simp only [Act.put, List.setIfInBounds_toArray, List.set_cons_zero, List.set_cons_succ]
              obtain ⟨Wd, hWd⟩ : ∃ Wd, Wd = Wc.alloc (.cells #[.string ys, .int .i64 yr, .slice ra1 F1.length rc1] 113) := ⟨_, rfl⟩
              rw [← hWd] at hHeld ⊢
              have hT : Wd.heap[Wc.heap.size]? = some (.cells #[.string ys, .int .i64 yr, .slice ra1 F1.length rc1] 113 (0, 0)) := by subst hWd; exact at_new rfl
              have hb : Below Wc.heap.size Wc Wd := by subst hWd; exact below_alloc1 _ _
              have sD := hb.size
              replace st := st.below hb
              replace kO0 := (hb.block _ (blk_lt kO0)).trans kO0
              replace B2 := Rw.next B2 hb
              have hr2 := hr.below hb
              have hbd := Rw.next hbc hb
              clear hb hWd
              obtain ⟨v', Z, hrun, hosZ, hgr⟩ := hos0.app (x := ⟨ys, yr, ra1, rg1, 0, rc1, F1⟩) (c := 1) 36 hbd hr2 sD rfl hnm (by omega) hT hFl
              refine wpAnyH_ready (rs := [17]) (by kernel_rfl) (by simp) (Hn.readyRun (i := 17) rfl (by kernel_rfl) (some 63) (by kernel_rfl) (Hn.exec_app (.tmp 47) (.tmp 62) rfl (by kernel_rfl) (by kernel_rfl) hrun) (st.grown hgr) (fun hHeld => ?_) AllReadyH.nil)
              simp only [Act.put, List.setIfInBounds_toArray, List.set_cons_zero, List.set_cons_succ]
              replace st := st.grown hgr
              obtain ⟨va, vn, vc, hv⟩ := hosZ.slice
              subst hv
              have kOZ := (hgr.block _ (blk_lt kO0) (fun e => by have := (hos0.lt e.symm).1; omega)).trans kO0
              replace B2 := B2.grown hgr B2.size (fun k hk => by have := (hos0.lt hk).1; omega)
              have o0 := Pl.one kOZ
              have fO := Vl.free kOZ
              refine Hn.take (i := 18) (d := some 64) (v := .pointer (some ⟨w.heap.size + 1 + 1 + 1, 0, none⟩)) rfl (by kernel_rfl) (by kernel_rfl) (by kernel_rfl) (by kernel_rfl) (fun _ _ _ h => h) (Or.inl ⟨by rfl, by intro w hSw; go_simp⟩) hHeld ?_
              simp only [Act.put, List.setIfInBounds_toArray, List.set_cons_zero, List.set_cons_succ]
              refine wpAnyH_ready (rs := [19]) (by kernel_rfl) (by simp) (Hn.readySkip (i := 19) rfl (by kernel_rfl) none (by kernel_rfl) (w' := Z.setCell ⟨w.heap.size + 1 + 1 + 1, 0, none⟩ (.slice va vn vc)) (by go_simp) st.set (fun hHeld => ?_) AllReadyH.nil)
              simp only [Act.put, List.setIfInBounds_toArray, List.set_cons_zero, List.set_cons_succ]
              refine wpAnyH_done (by kernel_rfl) ?_ _
              have kO' : (Z.setCell ⟨w.heap.size + 1 + 1 + 1, 0, none⟩ (.slice va vn vc)).heap[w.heap.size + 1 + 1 + 1]? = some (.cells #[(.slice va vn vc)] 38 (0, 0)) := Sw.one_set kOZ
              have B1' : Below w.heap.size w (Z.setCell ⟨w.heap.size + 1 + 1 + 1, 0, none⟩ (.slice va vn vc)) := Vl.bset B2 hwo
              have hos' : St.OS (Z.setCell ⟨w.heap.size + 1 + 1 + 1, 0, none⟩ (.slice va vn vc)) B (.slice va vn vc) (F ++ [⟨ys, yr, ra1, rg1, 0, rc1, F1⟩]) := hosZ.keep (fun x _ hx => Below.heap_setCell _ _ _ _ (by simp; omega)) (by simp)
              replace st : Rl.Stab wr (w.heap.size + 1 + 1 + 1) v (Z.setCell ⟨w.heap.size + 1 + 1 + 1, 0, none⟩ (.slice va vn vc)) := st.set
              have k3n := (st.block _ (blk_lt k3) (by omega) (fun e => by have := (hos.lt e.symm).1; omega)).trans k3
              have k5n := (st.block _ (blk_lt k5) (by omega) (fun e => by have := (hos.lt e.symm).1; omega)).trans k5
              have k6n := (st.block _ (blk_lt k6) (by omega) (fun e => by have := (hos.lt e.symm).1; omega)).trans k6
              have hBn : B ≤ (Z.setCell ⟨w.heap.size + 1 + 1 + 1, 0, none⟩ (.slice va vn vc)).heap.size := by have := st.size; simp at this ⊢; omega
              obtain ⟨Wn, hWn⟩ : ∃ Wn, Wn = Z.setCell ⟨w.heap.size + 1 + 1 + 1, 0, none⟩ (.slice va vn vc) := ⟨_, rfl⟩
              rw [← hWn] at kO' B1' hos' k3n k5n k6n hBn ⊢
              have HF : Hid (told (F ++ [⟨ys, yr, ra1, rg1, 0, rc1, F1⟩]) = told F ++ [(ys, yr, said yQ)]) := by rw [Hid, told_snoc]; simp only [Nm.l]; rw [hl]
              have HLn : Hid ((F ++ [(⟨ys, yr, ra1, rg1, 0, rc1, F1⟩ : Nm)]).length = F.length + 1) := by rw [Hid]; simp
              generalize F ++ [(⟨ys, yr, ra1, rg1, 0, rc1, F1⟩ : Nm)] = F2 at hos' HF HLn
              generalize Value.slice va vn vc = v2 at kO' hos' hWn
              clear hWn st hos0 kO0 ok0 B2 hos kO B1 k3 k5 k6 hBs hHeld
              have kO := kO'
              have B1 := B1'
              have hos := hos'
              have k3 := k3n
              have k5 := k5n
              have k6 := k6n
              have hBs := hBn
              clear kO' B1' hos' k3n k5n k6n hBn
              go_wp2
              go_roundw
              case rel => exact ⟨k + 1, _, _, _, by omega, by go_num, rfl, B1, k3, k5, k6, kO, hos, hBs, (by rw [HF.out]; exact HS1.out.1), HS1.out.2, (by have := HLn.out; omega)⟩
              case measure => simp [intOf]; omega
            · rintro e1 Wc ⟨v1, F1, rfl, hot1, hl, hb⟩
              have hF1 := hF1of F1 hl
              obtain ⟨ra1, rg1, rc1, rfl, hr⟩ := hot1.form hF1
              replace st := st.below hb
              replace kO0 := (hb.block _ (blk_lt kO0)).trans kO0
              have hbc := hb
              replace B2 := Rw.next B2 hb
              have sC := hb.size
              refine ⟨_, rfl, st, fun hHeld => ?_⟩
              simp only [Act.put, List.setIfInBounds_toArray, List.set_cons_zero, List.set_cons_succ]
              refine Hn.take (i := 15) (d := some 61) (v := .agg #[.string ys, .int .i64 yr, .slice ra1 F1.length rc1]) rfl (by kernel_rfl) (by kernel_rfl) (by kernel_rfl) (by kernel_rfl) (fun _ _ _ h => h) (Or.inl ⟨by rfl, by intro w hSw; go_simp⟩) hHeld ?_
              simp only [Act.put, List.setIfInBounds_toArray, List.set_cons_zero, List.set_cons_succ]
              refine wpAnyH_ready (rs := [1, 16]) (by kernel_rfl) (by simp) (Hn.readyRun (i := 1) rfl (by kernel_rfl) (some 47) (by kernel_rfl) (v := v) (w' := Wc) (by have o0 := Pl.one kO0; go_simp) st (fun hHeld => ?_) (Hn.readyRun (i := 16) rfl (by kernel_rfl) (some 62) (by kernel_rfl) (v := .slice (some ⟨Wc.heap.size, 0, none⟩) 1 1) (w' := Wc.alloc (.cells #[.string ys, .int .i64 yr, .slice ra1 F1.length rc1] 113)) (St.exec_oneN rfl (by kernel_rfl)) (st.below (below_alloc1 _ _)) (fun hHeld => ?_) AllReadyH.nil))
              · simp only [Act.put, List.setIfInBounds_toArray, List.set_cons_zero, List.set_cons_succ]
                refine wpAnyH_ready (rs := [16]) (by kernel_rfl) (by simp) (Hn.readyRun (i := 16) rfl (by kernel_rfl) (some 62) (by kernel_rfl) (v := .slice (some ⟨Wc.heap.size, 0, none⟩) 1 1) (w' := Wc.alloc (.cells #[.string ys, .int .i64 yr, .slice ra1 F1.length rc1] 113)) (St.exec_oneN rfl (by kernel_rfl)) (st.below (below_alloc1 _ _)) (fun hHeld => ?_) AllReadyH.nil)
                simp only [Act.put, List.setIfInBounds_toArray, List.set_cons_zero, List.set_cons_succ]
                obtain ⟨Wd, hWd⟩ : ∃ Wd, Wd = Wc.alloc (.cells #[.string ys, .int .i64 yr, .slice ra1 F1.length rc1] 113) := ⟨_, rfl⟩
                rw [← hWd] at hHeld ⊢
                have hT : Wd.heap[Wc.heap.size]? = some (.cells #[.string ys, .int .i64 yr, .slice ra1 F1.length rc1] 113 (0, 0)) := by subst hWd; exact at_new rfl
                have hb : Below Wc.heap.size Wc Wd := by subst hWd; exact below_alloc1 _ _
                have sD := hb.size
                replace st := st.below hb
                replace kO0 := (hb.block _ (blk_lt kO0)).trans kO0
                replace B2 := Rw.next B2 hb
                have hr2 := hr.below hb
                have hbd := Rw.next hbc hb
                clear hb hWd
                obtain ⟨v', Z, hrun, hosZ, hgr⟩ := hos0.app (x := ⟨ys, yr, ra1, rg1, 0, rc1, F1⟩) (c := 1) 36 hbd hr2 sD rfl hnm (by omega) hT hFl
                refine wpAnyH_ready (rs := [17]) (by kernel_rfl) (by simp) (Hn.readyRun (i := 17) rfl (by kernel_rfl) (some 63) (by kernel_rfl) (Hn.exec_app (.tmp 47) (.tmp 62) rfl (by kernel_rfl) (by kernel_rfl) hrun) (st.grown hgr) (fun hHeld => ?_) AllReadyH.nil)
                simp only [Act.put, List.setIfInBounds_toArray, List.set_cons_zero, List.set_cons_succ]
                replace st := st.grown hgr
                obtain ⟨va, vn, vc, hv⟩ := hosZ.slice
                subst hv
                have kOZ := (hgr.block _ (blk_lt kO0) (fun e => by have := (hos0.lt e.symm).1; omega)).trans kO0
                replace B2 := B2.grown hgr B2.size (fun k hk => by have := (hos0.lt hk).1; omega)
                have o0 := Pl.one kOZ
                have fO := Vl.free kOZ
                refine Hn.take (i := 18) (d := some 64) (v := .pointer (some ⟨w.heap.size + 1 + 1 + 1, 0, none⟩)) rfl (by kernel_rfl) (by kernel_rfl) (by kernel_rfl) (by kernel_rfl) (fun _ _ _ h => h) (Or.inl ⟨by rfl, by intro w hSw; go_simp⟩) hHeld ?_
                simp only [Act.put, List.setIfInBounds_toArray, List.set_cons_zero, List.set_cons_succ]
                refine wpAnyH_ready (rs := [19]) (by kernel_rfl) (by simp) (Hn.readySkip (i := 19) rfl (by kernel_rfl) none (by kernel_rfl) (w' := Z.setCell ⟨w.heap.size + 1 + 1 + 1, 0, none⟩ (.slice va vn vc)) (by go_simp) st.set (fun hHeld => ?_) AllReadyH.nil)
                simp only [Act.put, List.setIfInBounds_toArray, List.set_cons_zero, List.set_cons_succ]
                refine wpAnyH_done (by kernel_rfl) ?_ _
                have kO' : (Z.setCell ⟨w.heap.size + 1 + 1 + 1, 0, none⟩ (.slice va vn vc)).heap[w.heap.size + 1 + 1 + 1]? = some (.cells #[(.slice va vn vc)] 38 (0, 0)) := Sw.one_set kOZ
                have B1' : Below w.heap.size w (Z.setCell ⟨w.heap.size + 1 + 1 + 1, 0, none⟩ (.slice va vn vc)) := Vl.bset B2 hwo
                have hos' : St.OS (Z.setCell ⟨w.heap.size + 1 + 1 + 1, 0, none⟩ (.slice va vn vc)) B (.slice va vn vc) (F ++ [⟨ys, yr, ra1, rg1, 0, rc1, F1⟩]) := hosZ.keep (fun x _ hx => Below.heap_setCell _ _ _ _ (by simp; omega)) (by simp)
                replace st : Rl.Stab wr (w.heap.size + 1 + 1 + 1) v (Z.setCell ⟨w.heap.size + 1 + 1 + 1, 0, none⟩ (.slice va vn vc)) := st.set
                have k3n := (st.block _ (blk_lt k3) (by omega) (fun e => by have := (hos.lt e.symm).1; omega)).trans k3
                have k5n := (st.block _ (blk_lt k5) (by omega) (fun e => by have := (hos.lt e.symm).1; omega)).trans k5
                have k6n := (st.block _ (blk_lt k6) (by omega) (fun e => by have := (hos.lt e.symm).1; omega)).trans k6
                have hBn : B ≤ (Z.setCell ⟨w.heap.size + 1 + 1 + 1, 0, none⟩ (.slice va vn vc)).heap.size := by have := st.size; simp at this ⊢; omega
                obtain ⟨Wn, hWn⟩ : ∃ Wn, Wn = Z.setCell ⟨w.heap.size + 1 + 1 + 1, 0, none⟩ (.slice va vn vc) := ⟨_, rfl⟩
                rw [← hWn] at kO' B1' hos' k3n k5n k6n hBn ⊢
                have HF : Hid (told (F ++ [⟨ys, yr, ra1, rg1, 0, rc1, F1⟩]) = told F ++ [(ys, yr, said yQ)]) := by rw [Hid, told_snoc]; simp only [Nm.l]; rw [hl]
                have HLn : Hid ((F ++ [(⟨ys, yr, ra1, rg1, 0, rc1, F1⟩ : Nm)]).length = F.length + 1) := by rw [Hid]; simp
                generalize F ++ [(⟨ys, yr, ra1, rg1, 0, rc1, F1⟩ : Nm)] = F2 at hos' HF HLn
                generalize Value.slice va vn vc = v2 at kO' hos' hWn
                clear hWn st hos0 kO0 ok0 B2 hos kO B1 k3 k5 k6 hBs hHeld
                have kO := kO'
                have B1 := B1'
                have hos := hos'
                have k3 := k3n
                have k5 := k5n
                have k6 := k6n
                have hBs := hBn
                clear kO' B1' hos' k3n k5n k6n hBn
                go_wp2
                go_roundw
                case rel => exact ⟨k + 1, _, _, _, by omega, by go_num, rfl, B1, k3, k5, k6, kO, hos, hBs, (by rw [HF.out]; exact HS1.out.1), HS1.out.2, (by have := HLn.out; omega)⟩
                case measure => simp [intOf]; omega
              · simp only [Act.put, List.setIfInBounds_toArray, List.set_cons_zero, List.set_cons_succ]
                obtain ⟨Wd, hWd⟩ : ∃ Wd, Wd = Wc.alloc (.cells #[.string ys, .int .i64 yr, .slice ra1 F1.length rc1] 113) := ⟨_, rfl⟩
                rw [← hWd] at hHeld ⊢
                have hT : Wd.heap[Wc.heap.size]? = some (.cells #[.string ys, .int .i64 yr, .slice ra1 F1.length rc1] 113 (0, 0)) := by subst hWd; exact at_new rfl
                have hb : Below Wc.heap.size Wc Wd := by subst hWd; exact below_alloc1 _ _
                have sD := hb.size
                replace st := st.below hb
                replace kO0 := (hb.block _ (blk_lt kO0)).trans kO0
                replace B2 := Rw.next B2 hb
                have hr2 := hr.below hb
                have hbd := Rw.next hbc hb
                clear hb hWd
                refine wpAnyH_ready (rs := [1]) (by kernel_rfl) (by simp) (Hn.readyRun (i := 1) rfl (by kernel_rfl) (some 47) (by kernel_rfl) (v := v) (w' := Wd) (by have o0 := Pl.one kO0; go_simp) st (fun hHeld => ?_) AllReadyH.nil)
                simp only [Act.put, List.setIfInBounds_toArray, List.set_cons_zero, List.set_cons_succ]
                obtain ⟨v', Z, hrun, hosZ, hgr⟩ := hos0.app (x := ⟨ys, yr, ra1, rg1, 0, rc1, F1⟩) (c := 1) 36 hbd hr2 sD rfl hnm (by omega) hT hFl
                refine wpAnyH_ready (rs := [17]) (by kernel_rfl) (by simp) (Hn.readyRun (i := 17) rfl (by kernel_rfl) (some 63) (by kernel_rfl) (Hn.exec_app (.tmp 47) (.tmp 62) rfl (by kernel_rfl) (by kernel_rfl) hrun) (st.grown hgr) (fun hHeld => ?_) AllReadyH.nil)
                simp only [Act.put, List.setIfInBounds_toArray, List.set_cons_zero, List.set_cons_succ]
                replace st := st.grown hgr
                obtain ⟨va, vn, vc, hv⟩ := hosZ.slice
                subst hv
                have kOZ := (hgr.block _ (blk_lt kO0) (fun e => by have := (hos0.lt e.symm).1; omega)).trans kO0
                replace B2 := B2.grown hgr B2.size (fun k hk => by have := (hos0.lt hk).1; omega)
                have o0 := Pl.one kOZ
                have fO := Vl.free kOZ
                refine Hn.take (i := 18) (d := some 64) (v := .pointer (some ⟨w.heap.size + 1 + 1 + 1, 0, none⟩)) rfl (by kernel_rfl) (by kernel_rfl) (by kernel_rfl) (by kernel_rfl) (fun _ _ _ h => h) (Or.inl ⟨by rfl, by intro w hSw; go_simp⟩) hHeld ?_
                simp only [Act.put, List.setIfInBounds_toArray, List.set_cons_zero, List.set_cons_succ]
                refine wpAnyH_ready (rs := [19]) (by kernel_rfl) (by simp) (Hn.readySkip (i := 19) rfl (by kernel_rfl) none (by kernel_rfl) (w' := Z.setCell ⟨w.heap.size + 1 + 1 + 1, 0, none⟩ (.slice va vn vc)) (by go_simp) st.set (fun hHeld => ?_) AllReadyH.nil)
                simp only [Act.put, List.setIfInBounds_toArray, List.set_cons_zero, List.set_cons_succ]
                refine wpAnyH_done (by kernel_rfl) ?_ _
                have kO' : (Z.setCell ⟨w.heap.size + 1 + 1 + 1, 0, none⟩ (.slice va vn vc)).heap[w.heap.size + 1 + 1 + 1]? = some (.cells #[(.slice va vn vc)] 38 (0, 0)) := Sw.one_set kOZ
                have B1' : Below w.heap.size w (Z.setCell ⟨w.heap.size + 1 + 1 + 1, 0, none⟩ (.slice va vn vc)) := Vl.bset B2 hwo
                have hos' : St.OS (Z.setCell ⟨w.heap.size + 1 + 1 + 1, 0, none⟩ (.slice va vn vc)) B (.slice va vn vc) (F ++ [⟨ys, yr, ra1, rg1, 0, rc1, F1⟩]) := hosZ.keep (fun x _ hx => Below.heap_setCell _ _ _ _ (by simp; omega)) (by simp)
                replace st : Rl.Stab wr (w.heap.size + 1 + 1 + 1) v (Z.setCell ⟨w.heap.size + 1 + 1 + 1, 0, none⟩ (.slice va vn vc)) := st.set
                have k3n := (st.block _ (blk_lt k3) (by omega) (fun e => by have := (hos.lt e.symm).1; omega)).trans k3
                have k5n := (st.block _ (blk_lt k5) (by omega) (fun e => by have := (hos.lt e.symm).1; omega)).trans k5
                have k6n := (st.block _ (blk_lt k6) (by omega) (fun e => by have := (hos.lt e.symm).1; omega)).trans k6
                have hBn : B ≤ (Z.setCell ⟨w.heap.size + 1 + 1 + 1, 0, none⟩ (.slice va vn vc)).heap.size := by have := st.size; simp at this ⊢; omega
                obtain ⟨Wn, hWn⟩ : ∃ Wn, Wn = Z.setCell ⟨w.heap.size + 1 + 1 + 1, 0, none⟩ (.slice va vn vc) := ⟨_, rfl⟩
                rw [← hWn] at kO' B1' hos' k3n k5n k6n hBn ⊢
                have HF : Hid (told (F ++ [⟨ys, yr, ra1, rg1, 0, rc1, F1⟩]) = told F ++ [(ys, yr, said yQ)]) := by rw [Hid, told_snoc]; simp only [Nm.l]; rw [hl]
                have HLn : Hid ((F ++ [(⟨ys, yr, ra1, rg1, 0, rc1, F1⟩ : Nm)]).length = F.length + 1) := by rw [Hid]; simp
                generalize F ++ [(⟨ys, yr, ra1, rg1, 0, rc1, F1⟩ : Nm)] = F2 at hos' HF HLn
                generalize Value.slice va vn vc = v2 at kO' hos' hWn
                clear hWn st hos0 kO0 ok0 B2 hos kO B1 k3 k5 k6 hBs hHeld
                have kO := kO'
                have B1 := B1'
                have hos := hos'
                have k3 := k3n
                have k5 := k5n
                have k6 := k6n
                have hBs := hBn
                clear kO' B1' hos' k3n k5n k6n hBn
                go_wp2
                go_roundw
                case rel => exact ⟨k + 1, _, _, _, by omega, by go_num, rfl, B1, k3, k5, k6, kO, hos, hBs, (by rw [HF.out]; exact HS1.out.1), HS1.out.2, (by have := HLn.out; omega)⟩
                case measure => simp [intOf]; omega
        | false =>
          by_cases hxy : ys = s
          · have hss : (ys.toList == s.toList) = true := by rw [hxy]; simp
            have HS1 : Hid (told F ++ [(s, ar, said Q)] = (runL (s, ar, said Q) ((told T).take (k + 1))).1 ∧ true = (runL (s, ar, said Q) ((told T).take (k + 1))).2) := by
              have hle2 : Op.bytesLess s.toList s.toList = false := by rw [hxy] at hle; exact hle
              rw [Hid, HStep.out]; simp [stepL, hxy, Vl.strLt, hle2]
            have hl2 : (s.toList == ys.toList) = true := by rw [hxy]; simp
            have hl1 : Op.bytesLess s.toList ys.toList = false := by rw [hxy] at hle ⊢; exact hle
            clear hxy HStep
            as_aux_lemma =>
              go_wp2
              have hSt : ∀ w', Rl.Stab wr (w.heap.size + 1 + 1 + 1) v w' → w'.cell? ⟨w.heap.size + 1, 0, none⟩ = some (.int .i64 ar) ∧ w'.cell? ⟨w.heap.size + 1, 1, none⟩ = some (.slice ra Q.length rc) := fun w' st => Pl.two ((st.block _ (blk_lt k5) (by omega) (fun e => by have := (hos.lt e.symm).1; omega)).trans k5)
              have ok : Rl.Rd wr ra rb ro Q := HQ.out.below B1
              have hnm := hs
              have h4 := h4Q
              have hF1of : ∀ F1 : List Rm, said F1 = said Q → F1.length ≤ 4194304 := fun F1 h => by rw [← Rl.said_len, h, Rl.said_len]; omega
              refine wp_region_held_drew (S := Rl.Stab wr (w.heap.size + 1 + 1 + 1) v) (by kernel_rfl) (Rl.Stab.refl _ _ _) (fun hHeld => ?_)
              refine Hn.take (i := 0) (d := some 29) (v := .pointer (some ⟨w.heap.size + 1 + 1 + 1, 0, none⟩)) rfl (by kernel_rfl) (by kernel_rfl) (by kernel_rfl) (by kernel_rfl) (fun _ _ _ h => h) (Or.inl ⟨by rfl, by intro w hSw; go_simp⟩) hHeld ?_
              simp only [Act.put, List.setIfInBounds_toArray, List.set_cons_zero, List.set_cons_succ]
              refine Hn.take (i := 2) (d := some 31) (v := .string s) rfl (by kernel_rfl) (by kernel_rfl) (by kernel_rfl) (by kernel_rfl) (fun _ _ _ h => h) (Or.inl ⟨by rfl, by intro w hSw; go_simp⟩) hHeld ?_
              simp only [Act.put, List.setIfInBounds_toArray, List.set_cons_zero, List.set_cons_succ]
              refine Hn.take (i := 3) (d := some 32) (v := .agg #[.int .i64 ar, .slice ra Q.length rc]) rfl (by kernel_rfl) (by kernel_rfl) (by kernel_rfl) (by kernel_rfl) (fun _ _ _ h => h) (Or.inl ⟨by rfl, by intro w hSw; obtain ⟨q0, q1⟩ := hSt w hSw; go_simp⟩) hHeld ?_
              simp only [Act.put, List.setIfInBounds_toArray, List.set_cons_zero, List.set_cons_succ]
              have st : Rl.Stab wr (w.heap.size + 1 + 1 + 1) v (wr).drew := Rl.Stab.refl _ _ _
              have hos0 : St.OS (wr).drew B v F := hos.below ((Below.refl _ _).drew)
              have kO0 : (wr).drew.heap[w.heap.size + 1 + 1 + 1]? = some (.cells #[v] 38 (0, 0)) := kO
              have ok0 := Rl.Rd.below ok ((Below.refl (wr).heap.size (wr)).drew)
              have B2 := Rw.next B1 ((Below.refl (wr).heap.size (wr)).drew)
              have sW : (wr).drew.heap.size = (wr).heap.size := rfl
              generalize (wr).drew = W at *
              refine wpAnyH_ready (rs := [1, 4]) (by kernel_rfl) (by simp) (Hn.readyRun (i := 1) rfl (by kernel_rfl) (some 30) (by kernel_rfl) (v := v) (w' := W) (by have o0 := Pl.one kO0; go_simp) st (fun hHeld => ?_) (Hn.call1 (i := 4) rfl (by rfl) 95 (.tmp 32) 69 (by kernel_rfl) 33 (by kernel_rfl) (.agg #[.int .i64 ar, .slice ra Q.length rc]) (by kernel_rfl) (fun _ => rfl) (Rl.lcopy_any ar ra rb ro rc Q _ ok0 h4) ?_ AllReadyH.nil))
              · simp only [Act.put, List.setIfInBounds_toArray, List.set_cons_zero, List.set_cons_succ]
                refine wpAnyH_ready (rs := [4]) (by kernel_rfl) (by simp) (Hn.call1 (i := 4) rfl (by rfl) 95 (.tmp 32) 69 (by kernel_rfl) 33 (by kernel_rfl) (.agg #[.int .i64 ar, .slice ra Q.length rc]) (by kernel_rfl) (fun _ => rfl) (Rl.lcopy_any ar ra rb ro rc Q _ ok0 h4) ?_ AllReadyH.nil)
                rintro e1 Wc ⟨v1, F1, rfl, hot1, hl, hb⟩
                have hF1 := hF1of F1 hl
                obtain ⟨ra1, rg1, rc1, rfl, hr⟩ := hot1.form hF1
                replace st := st.below hb
                replace kO0 := (hb.block _ (blk_lt kO0)).trans kO0
                have hbc := hb
                replace B2 := Rw.next B2 hb
                have sC := hb.size
                refine ⟨_, rfl, st, fun hHeld => ?_⟩
                simp only [Act.put, List.setIfInBounds_toArray, List.set_cons_zero, List.set_cons_succ]
                refine Hn.take (i := 5) (d := some 34) (v := .agg #[.string s, .int .i64 ar, .slice ra1 F1.length rc1]) rfl (by kernel_rfl) (by kernel_rfl) (by kernel_rfl) (by kernel_rfl) (fun _ _ _ h => h) (Or.inl ⟨by rfl, by intro w hSw; go_simp⟩) hHeld ?_
                simp only [Act.put, List.setIfInBounds_toArray, List.set_cons_zero, List.set_cons_succ]
                refine wpAnyH_ready (rs := [6]) (by kernel_rfl) (by simp) (Hn.readyRun (i := 6) rfl (by kernel_rfl) (some 35) (by kernel_rfl) (v := .slice (some ⟨Wc.heap.size, 0, none⟩) 1 1) (w' := Wc.alloc (.cells #[.string s, .int .i64 ar, .slice ra1 F1.length rc1] 113)) (St.exec_oneN rfl (by kernel_rfl)) (st.below (below_alloc1 _ _)) (fun hHeld => ?_) AllReadyH.nil)
                simp only [Act.put, List.setIfInBounds_toArray, List.set_cons_zero, List.set_cons_succ]
                obtain ⟨Wd, hWd⟩ : ∃ Wd, Wd = Wc.alloc (.cells #[.string s, .int .i64 ar, .slice ra1 F1.length rc1] 113) := ⟨_, rfl⟩
                rw [← hWd] at hHeld ⊢
                have hT : Wd.heap[Wc.heap.size]? = some (.cells #[.string s, .int .i64 ar, .slice ra1 F1.length rc1] 113 (0, 0)) := by subst hWd; exact at_new rfl
                have hb : Below Wc.heap.size Wc Wd := by subst hWd; exact below_alloc1 _ _
                have sD := hb.size
                replace st := st.below hb
                replace kO0 := (hb.block _ (blk_lt kO0)).trans kO0
                replace B2 := Rw.next B2 hb
                have hr2 := hr.below hb
                have hbd := Rw.next hbc hb
                clear hb hWd
                obtain ⟨v', Z, hrun, hosZ, hgr⟩ := hos0.app (x := ⟨s, ar, ra1, rg1, 0, rc1, F1⟩) (c := 1) 36 hbd hr2 sD rfl hnm (by omega) hT hFl
                refine wpAnyH_ready (rs := [7]) (by kernel_rfl) (by simp) (Hn.readyRun (i := 7) rfl (by kernel_rfl) (some 36) (by kernel_rfl) (Hn.exec_app (.tmp 30) (.tmp 35) rfl (by kernel_rfl) (by kernel_rfl) hrun) (st.grown hgr) (fun hHeld => ?_) AllReadyH.nil)
                simp only [Act.put, List.setIfInBounds_toArray, List.set_cons_zero, List.set_cons_succ]
                replace st := st.grown hgr
                obtain ⟨va, vn, vc, hv⟩ := hosZ.slice
                subst hv
                have kOZ := (hgr.block _ (blk_lt kO0) (fun e => by have := (hos0.lt e.symm).1; omega)).trans kO0
                replace B2 := B2.grown hgr B2.size (fun k hk => by have := (hos0.lt hk).1; omega)
                have o0 := Pl.one kOZ
                have fO := Vl.free kOZ
                refine Hn.take (i := 8) (d := some 37) (v := .pointer (some ⟨w.heap.size + 1 + 1 + 1, 0, none⟩)) rfl (by kernel_rfl) (by kernel_rfl) (by kernel_rfl) (by kernel_rfl) (fun _ _ _ h => h) (Or.inl ⟨by rfl, by intro w hSw; go_simp⟩) hHeld ?_
                simp only [Act.put, List.setIfInBounds_toArray, List.set_cons_zero, List.set_cons_succ]
                refine wpAnyH_ready (rs := [9]) (by kernel_rfl) (by simp) (Hn.readySkip (i := 9) rfl (by kernel_rfl) none (by kernel_rfl) (w' := Z.setCell ⟨w.heap.size + 1 + 1 + 1, 0, none⟩ (.slice va vn vc)) (by go_simp) st.set (fun hHeld => ?_) AllReadyH.nil)
                simp only [Act.put, List.setIfInBounds_toArray, List.set_cons_zero, List.set_cons_succ]
                refine wpAnyH_done (by kernel_rfl) ?_ _
                have kO' : (Z.setCell ⟨w.heap.size + 1 + 1 + 1, 0, none⟩ (.slice va vn vc)).heap[w.heap.size + 1 + 1 + 1]? = some (.cells #[(.slice va vn vc)] 38 (0, 0)) := Sw.one_set kOZ
                have B1' : Below w.heap.size w (Z.setCell ⟨w.heap.size + 1 + 1 + 1, 0, none⟩ (.slice va vn vc)) := Vl.bset B2 hwo
                have hos' : St.OS (Z.setCell ⟨w.heap.size + 1 + 1 + 1, 0, none⟩ (.slice va vn vc)) B (.slice va vn vc) (F ++ [⟨s, ar, ra1, rg1, 0, rc1, F1⟩]) := hosZ.keep (fun x _ hx => Below.heap_setCell _ _ _ _ (by simp; omega)) (by simp)
                replace st : Rl.Stab wr (w.heap.size + 1 + 1 + 1) v (Z.setCell ⟨w.heap.size + 1 + 1 + 1, 0, none⟩ (.slice va vn vc)) := st.set
                have k3n := (st.block _ (blk_lt k3) (by omega) (fun e => by have := (hos.lt e.symm).1; omega)).trans k3
                have k5n := (st.block _ (blk_lt k5) (by omega) (fun e => by have := (hos.lt e.symm).1; omega)).trans k5
                have k6n := (st.block _ (blk_lt k6) (by omega) (fun e => by have := (hos.lt e.symm).1; omega)).trans k6
                have hBn : B ≤ (Z.setCell ⟨w.heap.size + 1 + 1 + 1, 0, none⟩ (.slice va vn vc)).heap.size := by have := st.size; simp at this ⊢; omega
                obtain ⟨Wn, hWn⟩ : ∃ Wn, Wn = Z.setCell ⟨w.heap.size + 1 + 1 + 1, 0, none⟩ (.slice va vn vc) := ⟨_, rfl⟩
                rw [← hWn] at kO' B1' hos' k3n k5n k6n hBn ⊢
                have HF : Hid (told (F ++ [⟨s, ar, ra1, rg1, 0, rc1, F1⟩]) = told F ++ [(s, ar, said Q)]) := by rw [Hid, told_snoc]; simp only [Nm.l]; rw [hl]
                have HLn : Hid ((F ++ [(⟨s, ar, ra1, rg1, 0, rc1, F1⟩ : Nm)]).length = F.length + 1) := by rw [Hid]; simp
                generalize F ++ [(⟨s, ar, ra1, rg1, 0, rc1, F1⟩ : Nm)] = F2 at hos' HF HLn
                generalize Value.slice va vn vc = v2 at kO' hos' hWn
                clear hWn st hos0 kO0 ok0 B2 hos kO B1 k3 k5 k6 hBs hHeld
                have kO := kO'
                have B1 := B1'
                have hos := hos'
                have k3 := k3n
                have k5 := k5n
                have k6 := k6n
                have hBs := hBn
                clear kO' B1' hos' k3n k5n k6n hBn
                clear c0 c1 c2 p3
                obtain ⟨c0, c1, c2⟩ := St.At3.of HC.out B1 lb
                have p3 := Pl.one k3
                go_wp2
                go_roundw
                case rel => exact ⟨k + 1, _, _, _, by omega, by go_num, rfl, B1, k3, k5, k6, kO, hos, hBs, (by rw [HF.out]; exact HS1.out.1), HS1.out.2, (by have := HLn.out; omega)⟩
                case measure => simp [intOf]; omega
              · rintro e1 Wc ⟨v1, F1, rfl, hot1, hl, hb⟩
                have hF1 := hF1of F1 hl
                obtain ⟨ra1, rg1, rc1, rfl, hr⟩ := hot1.form hF1
                replace st := st.below hb
                replace kO0 := (hb.block _ (blk_lt kO0)).trans kO0
                have hbc := hb
                replace B2 := Rw.next B2 hb
                have sC := hb.size
                refine ⟨_, rfl, st, fun hHeld => ?_⟩
                simp only [Act.put, List.setIfInBounds_toArray, List.set_cons_zero, List.set_cons_succ]
                refine Hn.take (i := 5) (d := some 34) (v := .agg #[.string s, .int .i64 ar, .slice ra1 F1.length rc1]) rfl (by kernel_rfl) (by kernel_rfl) (by kernel_rfl) (by kernel_rfl) (fun _ _ _ h => h) (Or.inl ⟨by rfl, by intro w hSw; go_simp⟩) hHeld ?_
                simp only [Act.put, List.setIfInBounds_toArray, List.set_cons_zero, List.set_cons_succ]
                refine wpAnyH_ready (rs := [1, 6]) (by kernel_rfl) (by simp) (Hn.readyRun (i := 1) rfl (by kernel_rfl) (some 30) (by kernel_rfl) (v := v) (w' := Wc) (by have o0 := Pl.one kO0; go_simp) st (fun hHeld => ?_) (Hn.readyRun (i := 6) rfl (by kernel_rfl) (some 35) (by kernel_rfl) (v := .slice (some ⟨Wc.heap.size, 0, none⟩) 1 1) (w' := Wc.alloc (.cells #[.string s, .int .i64 ar, .slice ra1 F1.length rc1] 113)) (St.exec_oneN rfl (by kernel_rfl)) (st.below (below_alloc1 _ _)) (fun hHeld => ?_) AllReadyH.nil))
                · simp only [Act.put, List.setIfInBounds_toArray, List.set_cons_zero, List.set_cons_succ]
                  refine wpAnyH_ready (rs := [6]) (by kernel_rfl) (by simp) (Hn.readyRun (i := 6) rfl (by kernel_rfl) (some 35) (by kernel_rfl) (v := .slice (some ⟨Wc.heap.size, 0, none⟩) 1 1) (w' := Wc.alloc (.cells #[.string s, .int .i64 ar, .slice ra1 F1.length rc1] 113)) (St.exec_oneN rfl (by kernel_rfl)) (st.below (below_alloc1 _ _)) (fun hHeld => ?_) AllReadyH.nil)
                  simp only [Act.put, List.setIfInBounds_toArray, List.set_cons_zero, List.set_cons_succ]
                  obtain ⟨Wd, hWd⟩ : ∃ Wd, Wd = Wc.alloc (.cells #[.string s, .int .i64 ar, .slice ra1 F1.length rc1] 113) := ⟨_, rfl⟩
                  rw [← hWd] at hHeld ⊢
                  have hT : Wd.heap[Wc.heap.size]? = some (.cells #[.string s, .int .i64 ar, .slice ra1 F1.length rc1] 113 (0, 0)) := by subst hWd; exact at_new rfl
                  have hb : Below Wc.heap.size Wc Wd := by subst hWd; exact below_alloc1 _ _
                  have sD := hb.size
                  replace st := st.below hb
                  replace kO0 := (hb.block _ (blk_lt kO0)).trans kO0
                  replace B2 := Rw.next B2 hb
                  have hr2 := hr.below hb
                  have hbd := Rw.next hbc hb
                  clear hb hWd
                  obtain ⟨v', Z, hrun, hosZ, hgr⟩ := hos0.app (x := ⟨s, ar, ra1, rg1, 0, rc1, F1⟩) (c := 1) 36 hbd hr2 sD rfl hnm (by omega) hT hFl
                  refine wpAnyH_ready (rs := [7]) (by kernel_rfl) (by simp) (Hn.readyRun (i := 7) rfl (by kernel_rfl) (some 36) (by kernel_rfl) (Hn.exec_app (.tmp 30) (.tmp 35) rfl (by kernel_rfl) (by kernel_rfl) hrun) (st.grown hgr) (fun hHeld => ?_) AllReadyH.nil)
                  simp only [Act.put, List.setIfInBounds_toArray, List.set_cons_zero, List.set_cons_succ]
                  replace st := st.grown hgr
                  obtain ⟨va, vn, vc, hv⟩ := hosZ.slice
                  subst hv
                  have kOZ := (hgr.block _ (blk_lt kO0) (fun e => by have := (hos0.lt e.symm).1; omega)).trans kO0
                  replace B2 := B2.grown hgr B2.size (fun k hk => by have := (hos0.lt hk).1; omega)
                  have o0 := Pl.one kOZ
                  have fO := Vl.free kOZ
                  refine Hn.take (i := 8) (d := some 37) (v := .pointer (some ⟨w.heap.size + 1 + 1 + 1, 0, none⟩)) rfl (by kernel_rfl) (by kernel_rfl) (by kernel_rfl) (by kernel_rfl) (fun _ _ _ h => h) (Or.inl ⟨by rfl, by intro w hSw; go_simp⟩) hHeld ?_
                  simp only [Act.put, List.setIfInBounds_toArray, List.set_cons_zero, List.set_cons_succ]
                  refine wpAnyH_ready (rs := [9]) (by kernel_rfl) (by simp) (Hn.readySkip (i := 9) rfl (by kernel_rfl) none (by kernel_rfl) (w' := Z.setCell ⟨w.heap.size + 1 + 1 + 1, 0, none⟩ (.slice va vn vc)) (by go_simp) st.set (fun hHeld => ?_) AllReadyH.nil)
                  simp only [Act.put, List.setIfInBounds_toArray, List.set_cons_zero, List.set_cons_succ]
                  refine wpAnyH_done (by kernel_rfl) ?_ _
                  have kO' : (Z.setCell ⟨w.heap.size + 1 + 1 + 1, 0, none⟩ (.slice va vn vc)).heap[w.heap.size + 1 + 1 + 1]? = some (.cells #[(.slice va vn vc)] 38 (0, 0)) := Sw.one_set kOZ
                  have B1' : Below w.heap.size w (Z.setCell ⟨w.heap.size + 1 + 1 + 1, 0, none⟩ (.slice va vn vc)) := Vl.bset B2 hwo
                  have hos' : St.OS (Z.setCell ⟨w.heap.size + 1 + 1 + 1, 0, none⟩ (.slice va vn vc)) B (.slice va vn vc) (F ++ [⟨s, ar, ra1, rg1, 0, rc1, F1⟩]) := hosZ.keep (fun x _ hx => Below.heap_setCell _ _ _ _ (by simp; omega)) (by simp)
                  replace st : Rl.Stab wr (w.heap.size + 1 + 1 + 1) v (Z.setCell ⟨w.heap.size + 1 + 1 + 1, 0, none⟩ (.slice va vn vc)) := st.set
                  have k3n := (st.block _ (blk_lt k3) (by omega) (fun e => by have := (hos.lt e.symm).1; omega)).trans k3
                  have k5n := (st.block _ (blk_lt k5) (by omega) (fun e => by have := (hos.lt e.symm).1; omega)).trans k5
                  have k6n := (st.block _ (blk_lt k6) (by omega) (fun e => by have := (hos.lt e.symm).1; omega)).trans k6
                  have hBn : B ≤ (Z.setCell ⟨w.heap.size + 1 + 1 + 1, 0, none⟩ (.slice va vn vc)).heap.size := by have := st.size; simp at this ⊢; omega
                  obtain ⟨Wn, hWn⟩ : ∃ Wn, Wn = Z.setCell ⟨w.heap.size + 1 + 1 + 1, 0, none⟩ (.slice va vn vc) := ⟨_, rfl⟩
                  rw [← hWn] at kO' B1' hos' k3n k5n k6n hBn ⊢
                  have HF : Hid (told (F ++ [⟨s, ar, ra1, rg1, 0, rc1, F1⟩]) = told F ++ [(s, ar, said Q)]) := by rw [Hid, told_snoc]; simp only [Nm.l]; rw [hl]
                  have HLn : Hid ((F ++ [(⟨s, ar, ra1, rg1, 0, rc1, F1⟩ : Nm)]).length = F.length + 1) := by rw [Hid]; simp
                  generalize F ++ [(⟨s, ar, ra1, rg1, 0, rc1, F1⟩ : Nm)] = F2 at hos' HF HLn
                  generalize Value.slice va vn vc = v2 at kO' hos' hWn
                  clear hWn st hos0 kO0 ok0 B2 hos kO B1 k3 k5 k6 hBs hHeld
                  have kO := kO'
                  have B1 := B1'
                  have hos := hos'
                  have k3 := k3n
                  have k5 := k5n
                  have k6 := k6n
                  have hBs := hBn
                  clear kO' B1' hos' k3n k5n k6n hBn
                  clear c0 c1 c2 p3
                  obtain ⟨c0, c1, c2⟩ := St.At3.of HC.out B1 lb
                  have p3 := Pl.one k3
                  go_wp2
                  go_roundw
                  case rel => exact ⟨k + 1, _, _, _, by omega, by go_num, rfl, B1, k3, k5, k6, kO, hos, hBs, (by rw [HF.out]; exact HS1.out.1), HS1.out.2, (by have := HLn.out; omega)⟩
                  case measure => simp [intOf]; omega
                · simp only [Act.put, List.setIfInBounds_toArray, List.set_cons_zero, List.set_cons_succ]
                  obtain ⟨Wd, hWd⟩ : ∃ Wd, Wd = Wc.alloc (.cells #[.string s, .int .i64 ar, .slice ra1 F1.length rc1] 113) := ⟨_, rfl⟩
                  rw [← hWd] at hHeld ⊢
                  have hT : Wd.heap[Wc.heap.size]? = some (.cells #[.string s, .int .i64 ar, .slice ra1 F1.length rc1] 113 (0, 0)) := by subst hWd; exact at_new rfl
                  have hb : Below Wc.heap.size Wc Wd := by subst hWd; exact below_alloc1 _ _
                  have sD := hb.size
                  replace st := st.below hb
                  replace kO0 := (hb.block _ (blk_lt kO0)).trans kO0
                  replace B2 := Rw.next B2 hb
                  have hr2 := hr.below hb
                  have hbd := Rw.next hbc hb
                  clear hb hWd
                  refine wpAnyH_ready (rs := [1]) (by kernel_rfl) (by simp) (Hn.readyRun (i := 1) rfl (by kernel_rfl) (some 30) (by kernel_rfl) (v := v) (w' := Wd) (by have o0 := Pl.one kO0; go_simp) st (fun hHeld => ?_) AllReadyH.nil)
                  simp only [Act.put, List.setIfInBounds_toArray, List.set_cons_zero, List.set_cons_succ]
                  obtain ⟨v', Z, hrun, hosZ, hgr⟩ := hos0.app (x := ⟨s, ar, ra1, rg1, 0, rc1, F1⟩) (c := 1) 36 hbd hr2 sD rfl hnm (by omega) hT hFl
                  refine wpAnyH_ready (rs := [7]) (by kernel_rfl) (by simp) (Hn.readyRun (i := 7) rfl (by kernel_rfl) (some 36) (by kernel_rfl) (Hn.exec_app (.tmp 30) (.tmp 35) rfl (by kernel_rfl) (by kernel_rfl) hrun) (st.grown hgr) (fun hHeld => ?_) AllReadyH.nil)
                  simp only [Act.put, List.setIfInBounds_toArray, List.set_cons_zero, List.set_cons_succ]
                  replace st := st.grown hgr
                  obtain ⟨va, vn, vc, hv⟩ := hosZ.slice
                  subst hv
                  have kOZ := (hgr.block _ (blk_lt kO0) (fun e => by have := (hos0.lt e.symm).1; omega)).trans kO0
                  replace B2 := B2.grown hgr B2.size (fun k hk => by have := (hos0.lt hk).1; omega)
                  have o0 := Pl.one kOZ
                  have fO := Vl.free kOZ
                  refine Hn.take (i := 8) (d := some 37) (v := .pointer (some ⟨w.heap.size + 1 + 1 + 1, 0, none⟩)) rfl (by kernel_rfl) (by kernel_rfl) (by kernel_rfl) (by kernel_rfl) (fun _ _ _ h => h) (Or.inl ⟨by rfl, by intro w hSw; go_simp⟩) hHeld ?_
                  simp only [Act.put, List.setIfInBounds_toArray, List.set_cons_zero, List.set_cons_succ]
                  refine wpAnyH_ready (rs := [9]) (by kernel_rfl) (by simp) (Hn.readySkip (i := 9) rfl (by kernel_rfl) none (by kernel_rfl) (w' := Z.setCell ⟨w.heap.size + 1 + 1 + 1, 0, none⟩ (.slice va vn vc)) (by go_simp) st.set (fun hHeld => ?_) AllReadyH.nil)
                  simp only [Act.put, List.setIfInBounds_toArray, List.set_cons_zero, List.set_cons_succ]
                  refine wpAnyH_done (by kernel_rfl) ?_ _
                  have kO' : (Z.setCell ⟨w.heap.size + 1 + 1 + 1, 0, none⟩ (.slice va vn vc)).heap[w.heap.size + 1 + 1 + 1]? = some (.cells #[(.slice va vn vc)] 38 (0, 0)) := Sw.one_set kOZ
                  have B1' : Below w.heap.size w (Z.setCell ⟨w.heap.size + 1 + 1 + 1, 0, none⟩ (.slice va vn vc)) := Vl.bset B2 hwo
                  have hos' : St.OS (Z.setCell ⟨w.heap.size + 1 + 1 + 1, 0, none⟩ (.slice va vn vc)) B (.slice va vn vc) (F ++ [⟨s, ar, ra1, rg1, 0, rc1, F1⟩]) := hosZ.keep (fun x _ hx => Below.heap_setCell _ _ _ _ (by simp; omega)) (by simp)
                  replace st : Rl.Stab wr (w.heap.size + 1 + 1 + 1) v (Z.setCell ⟨w.heap.size + 1 + 1 + 1, 0, none⟩ (.slice va vn vc)) := st.set
                  have k3n := (st.block _ (blk_lt k3) (by omega) (fun e => by have := (hos.lt e.symm).1; omega)).trans k3
                  have k5n := (st.block _ (blk_lt k5) (by omega) (fun e => by have := (hos.lt e.symm).1; omega)).trans k5
                  have k6n := (st.block _ (blk_lt k6) (by omega) (fun e => by have := (hos.lt e.symm).1; omega)).trans k6
                  have hBn : B ≤ (Z.setCell ⟨w.heap.size + 1 + 1 + 1, 0, none⟩ (.slice va vn vc)).heap.size := by have := st.size; simp at this ⊢; omega
                  obtain ⟨Wn, hWn⟩ : ∃ Wn, Wn = Z.setCell ⟨w.heap.size + 1 + 1 + 1, 0, none⟩ (.slice va vn vc) := ⟨_, rfl⟩
                  rw [← hWn] at kO' B1' hos' k3n k5n k6n hBn ⊢
                  have HF : Hid (told (F ++ [⟨s, ar, ra1, rg1, 0, rc1, F1⟩]) = told F ++ [(s, ar, said Q)]) := by rw [Hid, told_snoc]; simp only [Nm.l]; rw [hl]
                  have HLn : Hid ((F ++ [(⟨s, ar, ra1, rg1, 0, rc1, F1⟩ : Nm)]).length = F.length + 1) := by rw [Hid]; simp
                  generalize F ++ [(⟨s, ar, ra1, rg1, 0, rc1, F1⟩ : Nm)] = F2 at hos' HF HLn
                  generalize Value.slice va vn vc = v2 at kO' hos' hWn
                  clear hWn st hos0 kO0 ok0 B2 hos kO B1 k3 k5 k6 hBs hHeld
                  have kO := kO'
                  have B1 := B1'
                  have hos := hos'
                  have k3 := k3n
                  have k5 := k5n
                  have k6 := k6n
                  have hBs := hBn
                  clear kO' B1' hos' k3n k5n k6n hBn
                  clear c0 c1 c2 p3
                  obtain ⟨c0, c1, c2⟩ := St.At3.of HC.out B1 lb
                  have p3 := Pl.one k3
                  go_wp2
                  go_roundw
                  case rel => exact ⟨k + 1, _, _, _, by omega, by go_num, rfl, B1, k3, k5, k6, kO, hos, hBs, (by rw [HF.out]; exact HS1.out.1), HS1.out.2, (by have := HLn.out; omega)⟩
                  case measure => simp [intOf]; omega
          · have hss : (ys.toList == s.toList) = false := neq_false hxy
            have hl2 : (s.toList == ys.toList) = false := neq_false (fun e => hxy e.symm)
            have hl1 : Op.bytesLess s.toList ys.toList = true := less_yes hle hxy
            have HS1 : Hid (told F ++ [(s, ar, said Q)] ++ [(ys, yr, said yQ)] = (runL (s, ar, said Q) ((told T).take (k + 1))).1 ∧ true = (runL (s, ar, said Q) ((told T).take (k + 1))).2) := by rw [Hid, HStep.out]; simp [stepL, hxy, Vl.strLt, hle]
            clear hxy HStep
            as_aux_lemma =>
              go_wp2
              have hSt : ∀ w', Rl.Stab wr (w.heap.size + 1 + 1 + 1) v w' → w'.cell? ⟨w.heap.size + 1, 0, none⟩ = some (.int .i64 ar) ∧ w'.cell? ⟨w.heap.size + 1, 1, none⟩ = some (.slice ra Q.length rc) := fun w' st => Pl.two ((st.block _ (blk_lt k5) (by omega) (fun e => by have := (hos.lt e.symm).1; omega)).trans k5)
              have ok : Rl.Rd wr ra rb ro Q := HQ.out.below B1
              have hnm := hs
              have h4 := h4Q
              have hF1of : ∀ F1 : List Rm, said F1 = said Q → F1.length ≤ 4194304 := fun F1 h => by rw [← Rl.said_len, h, Rl.said_len]; omega
              refine wp_region_held_drew (S := Rl.Stab wr (w.heap.size + 1 + 1 + 1) v) (by kernel_rfl) (Rl.Stab.refl _ _ _) (fun hHeld => ?_)
              refine Hn.take (i := 0) (d := some 29) (v := .pointer (some ⟨w.heap.size + 1 + 1 + 1, 0, none⟩)) rfl (by kernel_rfl) (by kernel_rfl) (by kernel_rfl) (by kernel_rfl) (fun _ _ _ h => h) (Or.inl ⟨by rfl, by intro w hSw; go_simp⟩) hHeld ?_
              simp only [Act.put, List.setIfInBounds_toArray, List.set_cons_zero, List.set_cons_succ]
              refine Hn.take (i := 2) (d := some 31) (v := .string s) rfl (by kernel_rfl) (by kernel_rfl) (by kernel_rfl) (by kernel_rfl) (fun _ _ _ h => h) (Or.inl ⟨by rfl, by intro w hSw; go_simp⟩) hHeld ?_
              simp only [Act.put, List.setIfInBounds_toArray, List.set_cons_zero, List.set_cons_succ]
              refine Hn.take (i := 3) (d := some 32) (v := .agg #[.int .i64 ar, .slice ra Q.length rc]) rfl (by kernel_rfl) (by kernel_rfl) (by kernel_rfl) (by kernel_rfl) (fun _ _ _ h => h) (Or.inl ⟨by rfl, by intro w hSw; obtain ⟨q0, q1⟩ := hSt w hSw; go_simp⟩) hHeld ?_
              simp only [Act.put, List.setIfInBounds_toArray, List.set_cons_zero, List.set_cons_succ]
              have st : Rl.Stab wr (w.heap.size + 1 + 1 + 1) v (wr).drew := Rl.Stab.refl _ _ _
              have hos0 : St.OS (wr).drew B v F := hos.below ((Below.refl _ _).drew)
              have kO0 : (wr).drew.heap[w.heap.size + 1 + 1 + 1]? = some (.cells #[v] 38 (0, 0)) := kO
              have ok0 := Rl.Rd.below ok ((Below.refl (wr).heap.size (wr)).drew)
              have B2 := Rw.next B1 ((Below.refl (wr).heap.size (wr)).drew)
              have sW : (wr).drew.heap.size = (wr).heap.size := rfl
              generalize (wr).drew = W at *
              refine wpAnyH_ready (rs := [1, 4]) (by kernel_rfl) (by simp) (Hn.readyRun (i := 1) rfl (by kernel_rfl) (some 30) (by kernel_rfl) (v := v) (w' := W) (by have o0 := Pl.one kO0; go_simp) st (fun hHeld => ?_) (Hn.call1 (i := 4) rfl (by rfl) 95 (.tmp 32) 69 (by kernel_rfl) 33 (by kernel_rfl) (.agg #[.int .i64 ar, .slice ra Q.length rc]) (by kernel_rfl) (fun _ => rfl) (Rl.lcopy_any ar ra rb ro rc Q _ ok0 h4) ?_ AllReadyH.nil))
              · simp only [Act.put, List.setIfInBounds_toArray, List.set_cons_zero, List.set_cons_succ]
                refine wpAnyH_ready (rs := [4]) (by kernel_rfl) (by simp) (Hn.call1 (i := 4) rfl (by rfl) 95 (.tmp 32) 69 (by kernel_rfl) 33 (by kernel_rfl) (.agg #[.int .i64 ar, .slice ra Q.length rc]) (by kernel_rfl) (fun _ => rfl) (Rl.lcopy_any ar ra rb ro rc Q _ ok0 h4) ?_ AllReadyH.nil)
                rintro e1 Wc ⟨v1, F1, rfl, hot1, hl, hb⟩
                have hF1 := hF1of F1 hl
                obtain ⟨ra1, rg1, rc1, rfl, hr⟩ := hot1.form hF1
                replace st := st.below hb
                replace kO0 := (hb.block _ (blk_lt kO0)).trans kO0
                have hbc := hb
                replace B2 := Rw.next B2 hb
                have sC := hb.size
                refine ⟨_, rfl, st, fun hHeld => ?_⟩
                simp only [Act.put, List.setIfInBounds_toArray, List.set_cons_zero, List.set_cons_succ]
                refine Hn.take (i := 5) (d := some 34) (v := .agg #[.string s, .int .i64 ar, .slice ra1 F1.length rc1]) rfl (by kernel_rfl) (by kernel_rfl) (by kernel_rfl) (by kernel_rfl) (fun _ _ _ h => h) (Or.inl ⟨by rfl, by intro w hSw; go_simp⟩) hHeld ?_
                simp only [Act.put, List.setIfInBounds_toArray, List.set_cons_zero, List.set_cons_succ]
                refine wpAnyH_ready (rs := [6]) (by kernel_rfl) (by simp) (Hn.readyRun (i := 6) rfl (by kernel_rfl) (some 35) (by kernel_rfl) (v := .slice (some ⟨Wc.heap.size, 0, none⟩) 1 1) (w' := Wc.alloc (.cells #[.string s, .int .i64 ar, .slice ra1 F1.length rc1] 113)) (St.exec_oneN rfl (by kernel_rfl)) (st.below (below_alloc1 _ _)) (fun hHeld => ?_) AllReadyH.nil)
                simp only [Act.put, List.setIfInBounds_toArray, List.set_cons_zero, List.set_cons_succ]
                obtain ⟨Wd, hWd⟩ : ∃ Wd, Wd = Wc.alloc (.cells #[.string s, .int .i64 ar, .slice ra1 F1.length rc1] 113) := ⟨_, rfl⟩
                rw [← hWd] at hHeld ⊢
                have hT : Wd.heap[Wc.heap.size]? = some (.cells #[.string s, .int .i64 ar, .slice ra1 F1.length rc1] 113 (0, 0)) := by subst hWd; exact at_new rfl
                have hb : Below Wc.heap.size Wc Wd := by subst hWd; exact below_alloc1 _ _
                have sD := hb.size
                replace st := st.below hb
                replace kO0 := (hb.block _ (blk_lt kO0)).trans kO0
                replace B2 := Rw.next B2 hb
                have hr2 := hr.below hb
                have hbd := Rw.next hbc hb
                clear hb hWd
                obtain ⟨v', Z, hrun, hosZ, hgr⟩ := hos0.app (x := ⟨s, ar, ra1, rg1, 0, rc1, F1⟩) (c := 1) 36 hbd hr2 sD rfl hnm (by omega) hT hFl
                refine wpAnyH_ready (rs := [7]) (by kernel_rfl) (by simp) (Hn.readyRun (i := 7) rfl (by kernel_rfl) (some 36) (by kernel_rfl) (Hn.exec_app (.tmp 30) (.tmp 35) rfl (by kernel_rfl) (by kernel_rfl) hrun) (st.grown hgr) (fun hHeld => ?_) AllReadyH.nil)
                simp only [Act.put, List.setIfInBounds_toArray, List.set_cons_zero, List.set_cons_succ]
                replace st := st.grown hgr
                obtain ⟨va, vn, vc, hv⟩ := hosZ.slice
                subst hv
                have kOZ := (hgr.block _ (blk_lt kO0) (fun e => by have := (hos0.lt e.symm).1; omega)).trans kO0
                replace B2 := B2.grown hgr B2.size (fun k hk => by have := (hos0.lt hk).1; omega)
                have o0 := Pl.one kOZ
                have fO := Vl.free kOZ
                refine Hn.take (i := 8) (d := some 37) (v := .pointer (some ⟨w.heap.size + 1 + 1 + 1, 0, none⟩)) rfl (by kernel_rfl) (by kernel_rfl) (by kernel_rfl) (by kernel_rfl) (fun _ _ _ h => h) (Or.inl ⟨by rfl, by intro w hSw; go_simp⟩) hHeld ?_
                simp only [Act.put, List.setIfInBounds_toArray, List.set_cons_zero, List.set_cons_succ]
                refine wpAnyH_ready (rs := [9]) (by kernel_rfl) (by simp) (Hn.readySkip (i := 9) rfl (by kernel_rfl) none (by kernel_rfl) (w' := Z.setCell ⟨w.heap.size + 1 + 1 + 1, 0, none⟩ (.slice va vn vc)) (by go_simp) st.set (fun hHeld => ?_) AllReadyH.nil)
                simp only [Act.put, List.setIfInBounds_toArray, List.set_cons_zero, List.set_cons_succ]
                refine wpAnyH_done (by kernel_rfl) ?_ _
                have kO' : (Z.setCell ⟨w.heap.size + 1 + 1 + 1, 0, none⟩ (.slice va vn vc)).heap[w.heap.size + 1 + 1 + 1]? = some (.cells #[(.slice va vn vc)] 38 (0, 0)) := Sw.one_set kOZ
                have B1' : Below w.heap.size w (Z.setCell ⟨w.heap.size + 1 + 1 + 1, 0, none⟩ (.slice va vn vc)) := Vl.bset B2 hwo
                have hos' : St.OS (Z.setCell ⟨w.heap.size + 1 + 1 + 1, 0, none⟩ (.slice va vn vc)) B (.slice va vn vc) (F ++ [⟨s, ar, ra1, rg1, 0, rc1, F1⟩]) := hosZ.keep (fun x _ hx => Below.heap_setCell _ _ _ _ (by simp; omega)) (by simp)
                replace st : Rl.Stab wr (w.heap.size + 1 + 1 + 1) v (Z.setCell ⟨w.heap.size + 1 + 1 + 1, 0, none⟩ (.slice va vn vc)) := st.set
                have k3n := (st.block _ (blk_lt k3) (by omega) (fun e => by have := (hos.lt e.symm).1; omega)).trans k3
                have k5n := (st.block _ (blk_lt k5) (by omega) (fun e => by have := (hos.lt e.symm).1; omega)).trans k5
                have k6n := (st.block _ (blk_lt k6) (by omega) (fun e => by have := (hos.lt e.symm).1; omega)).trans k6
                have hBn : B ≤ (Z.setCell ⟨w.heap.size + 1 + 1 + 1, 0, none⟩ (.slice va vn vc)).heap.size := by have := st.size; simp at this ⊢; omega
                obtain ⟨Wn, hWn⟩ : ∃ Wn, Wn = Z.setCell ⟨w.heap.size + 1 + 1 + 1, 0, none⟩ (.slice va vn vc) := ⟨_, rfl⟩
                rw [← hWn] at kO' B1' hos' k3n k5n k6n hBn ⊢
                have HF : Hid (told (F ++ [⟨s, ar, ra1, rg1, 0, rc1, F1⟩]) = told F ++ [(s, ar, said Q)]) := by rw [Hid, told_snoc]; simp only [Nm.l]; rw [hl]
                have HLn : Hid ((F ++ [(⟨s, ar, ra1, rg1, 0, rc1, F1⟩ : Nm)]).length = F.length + 1) := by rw [Hid]; simp
                generalize F ++ [(⟨s, ar, ra1, rg1, 0, rc1, F1⟩ : Nm)] = F2 at hos' HF HLn
                generalize Value.slice va vn vc = v2 at kO' hos' hWn
                clear hWn st hos0 kO0 ok0 B2 hos kO B1 k3 k5 k6 hBs hHeld
                have kO := kO'
                have B1 := B1'
                have hos := hos'
                have k3 := k3n
                have k5 := k5n
                have k6 := k6n
                have hBs := hBn
                clear kO' B1' hos' k3n k5n k6n hBn
                have HF1 := HF
                have HL1 := HLn
                clear HF HLn hSt ok h4 hnm hF1of hl hr hot1 hF1
                have hFl2 : F2.length ≤ 100000 := by have := HL1.out; omega
                clear hFl
                have hFl := hFl2
                clear hFl2
                obtain ⟨F, hFe⟩ : ∃ F, F = F2 := ⟨_, rfl⟩
                rw [← hFe] at hos hFl
                obtain ⟨v, hve⟩ : ∃ v, v = v2 := ⟨_, rfl⟩
                rw [← hve] at hos kO
                have HF1e : Hid (told F = told F2) := congrArg told hFe
                have HL1e : Hid (F.length = F2.length) := congrArg List.length hFe
                clear hFe hve c0 c1 c2 p3
                obtain ⟨c0, c1, c2⟩ := St.At3.of HC.out B1 lb
                have p3 := Pl.one k3
                go_wp2
                have hSt : ∀ w', Rl.Stab Wn (w.heap.size + 1 + 1 + 1) v w' → w'.cell? ⟨w.heap.size, 0, none⟩ = some (.slice (some ⟨b, off, none⟩) n cap) ∧ w'.cell? ⟨b, off + k * 3, none⟩ = some (.string ys) ∧ w'.cell? ⟨b, off + k * 3 + 1, none⟩ = some (.int .i64 yr) ∧ w'.cell? ⟨b, off + k * 3 + 2, none⟩ = some (.slice ya yQ.length yc) := fun w' st => by
                  have hkb := st.block b (Nat.lt_of_lt_of_le lb B1.size) (by omega) (fun e => by have := (hos.lt e.symm).1; omega)
                  have hcc := St.At3.of HC.out B1 lb
                  have e3 := (st.block _ (blk_lt k3) (by omega) (fun e => by have := (hos.lt e.symm).1; omega)).trans k3
                  exact ⟨Pl.one e3, (World.cell?_of_block hkb).trans hcc.1, (World.cell?_of_block hkb).trans hcc.2.1, (World.cell?_of_block hkb).trans hcc.2.2⟩
                have ok : Rl.Rd Wn ya yb yo yQ := HY.out.below B1
                have hnm := hys
                have h4 := h4y
                have hF1of : ∀ F1 : List Rm, said F1 = said yQ → F1.length ≤ 4194304 := fun F1 h => by rw [← Rl.said_len, h, Rl.said_len]; omega
                refine wp_region_held_drew (S := Rl.Stab Wn (w.heap.size + 1 + 1 + 1) v) (by kernel_rfl) (Rl.Stab.refl _ _ _) (fun hHeld => ?_)
                refine Hn.take (i := 0) (d := some 46) (v := .pointer (some ⟨w.heap.size + 1 + 1 + 1, 0, none⟩)) rfl (by kernel_rfl) (by kernel_rfl) (by kernel_rfl) (by kernel_rfl) (fun _ _ _ h => h) (Or.inl ⟨by rfl, by intro w hSw; go_simp⟩) hHeld ?_
                simp only [Act.put, List.setIfInBounds_toArray, List.set_cons_zero, List.set_cons_succ]
                refine Hn.take (i := 2) (d := some 48) (v := .pointer (some ⟨w.heap.size, 0, none⟩)) rfl (by kernel_rfl) (by kernel_rfl) (by kernel_rfl) (by kernel_rfl) (fun _ _ _ h => h) (Or.inl ⟨by rfl, by intro w hSw; go_simp⟩) hHeld ?_
                simp only [Act.put, List.setIfInBounds_toArray, List.set_cons_zero, List.set_cons_succ]
                refine Hn.take (i := 3) (d := some 49) (v := .slice (some ⟨b, off, none⟩) n cap) rfl (by kernel_rfl) (by kernel_rfl) (by kernel_rfl) (by kernel_rfl) (fun _ _ _ h => h) (Or.inl ⟨by rfl, by intro w hSw; obtain ⟨q0, q1, q2, q3⟩ := hSt w hSw; go_simp⟩) hHeld ?_
                simp only [Act.put, List.setIfInBounds_toArray, List.set_cons_zero, List.set_cons_succ]
                refine Hn.take (i := 4) (d := some 50) (v := .int .i64 k) rfl (by kernel_rfl) (by kernel_rfl) (by kernel_rfl) (by kernel_rfl) (fun _ _ _ h => h) (Or.inl ⟨by rfl, by intro w hSw; go_simp⟩) hHeld ?_
                simp only [Act.put, List.setIfInBounds_toArray, List.set_cons_zero, List.set_cons_succ]
                refine Hn.take (i := 5) (d := some 51) (v := .pointer (some ⟨b, off + k * 3, none⟩)) rfl (by kernel_rfl) (by kernel_rfl) (by kernel_rfl) (by kernel_rfl) (fun _ _ _ h => h) (Or.inl ⟨by rfl, by intro w hSw; go_simp⟩) hHeld ?_
                simp only [Act.put, List.setIfInBounds_toArray, List.set_cons_zero, List.set_cons_succ]
                refine Hn.take (i := 6) (d := some 52) (v := .pointer (some ⟨b, off + k * 3, none⟩)) rfl (by kernel_rfl) (by kernel_rfl) (by kernel_rfl) (by kernel_rfl) (fun _ _ _ h => h) (Or.inl ⟨by rfl, by intro w hSw; go_simp⟩) hHeld ?_
                simp only [Act.put, List.setIfInBounds_toArray, List.set_cons_zero, List.set_cons_succ]
                refine Hn.take (i := 7) (d := some 53) (v := .string ys) rfl (by kernel_rfl) (by kernel_rfl) (by kernel_rfl) (by kernel_rfl) (fun _ _ _ h => h) (Or.inl ⟨by rfl, by intro w hSw; obtain ⟨q0, q1, q2, q3⟩ := hSt w hSw; go_simp⟩) hHeld ?_
                simp only [Act.put, List.setIfInBounds_toArray, List.set_cons_zero, List.set_cons_succ]
                refine Hn.take (i := 8) (d := some 54) (v := .pointer (some ⟨w.heap.size, 0, none⟩)) rfl (by kernel_rfl) (by kernel_rfl) (by kernel_rfl) (by kernel_rfl) (fun _ _ _ h => h) (Or.inl ⟨by rfl, by intro w hSw; go_simp⟩) hHeld ?_
                simp only [Act.put, List.setIfInBounds_toArray, List.set_cons_zero, List.set_cons_succ]
                refine Hn.take (i := 9) (d := some 55) (v := .slice (some ⟨b, off, none⟩) n cap) rfl (by kernel_rfl) (by kernel_rfl) (by kernel_rfl) (by kernel_rfl) (fun _ _ _ h => h) (Or.inl ⟨by rfl, by intro w hSw; obtain ⟨q0, q1, q2, q3⟩ := hSt w hSw; go_simp⟩) hHeld ?_
                simp only [Act.put, List.setIfInBounds_toArray, List.set_cons_zero, List.set_cons_succ]
                refine Hn.take (i := 10) (d := some 56) (v := .int .i64 k) rfl (by kernel_rfl) (by kernel_rfl) (by kernel_rfl) (by kernel_rfl) (fun _ _ _ h => h) (Or.inl ⟨by rfl, by intro w hSw; go_simp⟩) hHeld ?_
                simp only [Act.put, List.setIfInBounds_toArray, List.set_cons_zero, List.set_cons_succ]
                refine Hn.take (i := 11) (d := some 57) (v := .pointer (some ⟨b, off + k * 3, none⟩)) rfl (by kernel_rfl) (by kernel_rfl) (by kernel_rfl) (by kernel_rfl) (fun _ _ _ h => h) (Or.inl ⟨by rfl, by intro w hSw; go_simp⟩) hHeld ?_
                simp only [Act.put, List.setIfInBounds_toArray, List.set_cons_zero, List.set_cons_succ]
                refine Hn.take (i := 12) (d := some 58) (v := .pointer (some ⟨b, off + k * 3 + 1, none⟩)) rfl (by kernel_rfl) (by kernel_rfl) (by kernel_rfl) (by kernel_rfl) (fun _ _ _ h => h) (Or.inl ⟨by rfl, by intro w hSw; go_simp⟩) hHeld ?_
                simp only [Act.put, List.setIfInBounds_toArray, List.set_cons_zero, List.set_cons_succ]
                refine Hn.take (i := 13) (d := some 59) (v := .agg #[.int .i64 yr, .slice ya yQ.length yc]) rfl (by kernel_rfl) (by kernel_rfl) (by kernel_rfl) (by kernel_rfl) (fun _ _ _ h => h) (Or.inl ⟨by rfl, by intro w hSw; obtain ⟨q0, q1, q2, q3⟩ := hSt w hSw; go_simp⟩) hHeld ?_
                simp only [Act.put, List.setIfInBounds_toArray, List.set_cons_zero, List.set_cons_succ]
                have st : Rl.Stab Wn (w.heap.size + 1 + 1 + 1) v (Wn).drew := Rl.Stab.refl _ _ _
                have hos0 : St.OS (Wn).drew B v F := hos.below ((Below.refl _ _).drew)
                have kO0 : (Wn).drew.heap[w.heap.size + 1 + 1 + 1]? = some (.cells #[v] 38 (0, 0)) := kO
                have ok0 := Rl.Rd.below ok ((Below.refl (Wn).heap.size (Wn)).drew)
                have B2 := Rw.next B1 ((Below.refl (Wn).heap.size (Wn)).drew)
                have sW : (Wn).drew.heap.size = (Wn).heap.size := rfl
                generalize (Wn).drew = W at *
                refine wpAnyH_ready (rs := [1, 14]) (by kernel_rfl) (by simp) (Hn.readyRun (i := 1) rfl (by kernel_rfl) (some 47) (by kernel_rfl) (v := v) (w' := W) (by have o0 := Pl.one kO0; go_simp) st (fun hHeld => ?_) (Hn.call1 (i := 14) rfl (by rfl) 95 (.tmp 59) 69 (by kernel_rfl) 60 (by kernel_rfl) (.agg #[.int .i64 yr, .slice ya yQ.length yc]) (by kernel_rfl) (fun _ => rfl) (Rl.lcopy_any yr ya yb yo yc yQ _ ok0 h4) ?_ AllReadyH.nil))
                · simp only [Act.put, List.setIfInBounds_toArray, List.set_cons_zero, List.set_cons_succ]
                  refine wpAnyH_ready (rs := [14]) (by kernel_rfl) (by simp) (Hn.call1 (i := 14) rfl (by rfl) 95 (.tmp 59) 69 (by kernel_rfl) 60 (by kernel_rfl) (.agg #[.int .i64 yr, .slice ya yQ.length yc]) (by kernel_rfl) (fun _ => rfl) (Rl.lcopy_any yr ya yb yo yc yQ _ ok0 h4) ?_ AllReadyH.nil)
                  rintro e1 Wc ⟨v1, F1, rfl, hot1, hl, hb⟩
                  have hF1 := hF1of F1 hl
                  obtain ⟨ra1, rg1, rc1, rfl, hr⟩ := hot1.form hF1
                  replace st := st.below hb
                  replace kO0 := (hb.block _ (blk_lt kO0)).trans kO0
                  have hbc := hb
                  replace B2 := Rw.next B2 hb
                  have sC := hb.size
                  refine ⟨_, rfl, st, fun hHeld => ?_⟩
                  simp only [Act.put, List.setIfInBounds_toArray, List.set_cons_zero, List.set_cons_succ]
                  refine Hn.take (i := 15) (d := some 61) (v := .agg #[.string ys, .int .i64 yr, .slice ra1 F1.length rc1]) rfl (by kernel_rfl) (by kernel_rfl) (by kernel_rfl) (by kernel_rfl) (fun _ _ _ h => h) (Or.inl ⟨by rfl, by intro w hSw; go_simp⟩) hHeld ?_
                  simp only [Act.put, List.setIfInBounds_toArray, List.set_cons_zero, List.set_cons_succ]
                  refine wpAnyH_ready (rs := [16]) (by kernel_rfl) (by simp) (Hn.readyRun (i := 16) rfl (by kernel_rfl) (some 62) (by kernel_rfl) (v := .slice (some ⟨Wc.heap.size, 0, none⟩) 1 1) (w' := Wc.alloc (.cells #[.string ys, .int .i64 yr, .slice ra1 F1.length rc1] 113)) (St.exec_oneN rfl (by kernel_rfl)) (st.below (below_alloc1 _ _)) (fun hHeld => ?_) AllReadyH.nil)
                  simp only [Act.put, List.setIfInBounds_toArray, List.set_cons_zero, List.set_cons_succ]
                  obtain ⟨Wd, hWd⟩ : ∃ Wd, Wd = Wc.alloc (.cells #[.string ys, .int .i64 yr, .slice ra1 F1.length rc1] 113) := ⟨_, rfl⟩
                  rw [← hWd] at hHeld ⊢
                  have hT : Wd.heap[Wc.heap.size]? = some (.cells #[.string ys, .int .i64 yr, .slice ra1 F1.length rc1] 113 (0, 0)) := by subst hWd; exact at_new rfl
                  have hb : Below Wc.heap.size Wc Wd := by subst hWd; exact below_alloc1 _ _
                  have sD := hb.size
                  replace st := st.below hb
                  replace kO0 := (hb.block _ (blk_lt kO0)).trans kO0
                  replace B2 := Rw.next B2 hb
                  have hr2 := hr.below hb
                  have hbd := Rw.next hbc hb
                  clear hb hWd
                  obtain ⟨v', Z, hrun, hosZ, hgr⟩ := hos0.app (x := ⟨ys, yr, ra1, rg1, 0, rc1, F1⟩) (c := 1) 36 hbd hr2 sD rfl hnm (by omega) hT hFl
                  refine wpAnyH_ready (rs := [17]) (by kernel_rfl) (by simp) (Hn.readyRun (i := 17) rfl (by kernel_rfl) (some 63) (by kernel_rfl) (Hn.exec_app (.tmp 47) (.tmp 62) rfl (by kernel_rfl) (by kernel_rfl) hrun) (st.grown hgr) (fun hHeld => ?_) AllReadyH.nil)
                  simp only [Act.put, List.setIfInBounds_toArray, List.set_cons_zero, List.set_cons_succ]
                  replace st := st.grown hgr
                  obtain ⟨va, vn, vc, hv⟩ := hosZ.slice
                  subst hv
                  have kOZ := (hgr.block _ (blk_lt kO0) (fun e => by have := (hos0.lt e.symm).1; omega)).trans kO0
                  replace B2 := B2.grown hgr B2.size (fun k hk => by have := (hos0.lt hk).1; omega)
                  have o0 := Pl.one kOZ
                  have fO := Vl.free kOZ
                  refine Hn.take (i := 18) (d := some 64) (v := .pointer (some ⟨w.heap.size + 1 + 1 + 1, 0, none⟩)) rfl (by kernel_rfl) (by kernel_rfl) (by kernel_rfl) (by kernel_rfl) (fun _ _ _ h => h) (Or.inl ⟨by rfl, by intro w hSw; go_simp⟩) hHeld ?_
                  simp only [Act.put, List.setIfInBounds_toArray, List.set_cons_zero, List.set_cons_succ]
                  refine wpAnyH_ready (rs := [19]) (by kernel_rfl) (by simp) (Hn.readySkip (i := 19) rfl (by kernel_rfl) none (by kernel_rfl) (w' := Z.setCell ⟨w.heap.size + 1 + 1 + 1, 0, none⟩ (.slice va vn vc)) (by go_simp) st.set (fun hHeld => ?_) AllReadyH.nil)
                  simp only [Act.put, List.setIfInBounds_toArray, List.set_cons_zero, List.set_cons_succ]
                  refine wpAnyH_done (by kernel_rfl) ?_ _
                  have kO' : (Z.setCell ⟨w.heap.size + 1 + 1 + 1, 0, none⟩ (.slice va vn vc)).heap[w.heap.size + 1 + 1 + 1]? = some (.cells #[(.slice va vn vc)] 38 (0, 0)) := Sw.one_set kOZ
                  have B1' : Below w.heap.size w (Z.setCell ⟨w.heap.size + 1 + 1 + 1, 0, none⟩ (.slice va vn vc)) := Vl.bset B2 hwo
                  have hos' : St.OS (Z.setCell ⟨w.heap.size + 1 + 1 + 1, 0, none⟩ (.slice va vn vc)) B (.slice va vn vc) (F ++ [⟨ys, yr, ra1, rg1, 0, rc1, F1⟩]) := hosZ.keep (fun x _ hx => Below.heap_setCell _ _ _ _ (by simp; omega)) (by simp)
                  replace st : Rl.Stab Wn (w.heap.size + 1 + 1 + 1) v (Z.setCell ⟨w.heap.size + 1 + 1 + 1, 0, none⟩ (.slice va vn vc)) := st.set
                  have k3n := (st.block _ (blk_lt k3) (by omega) (fun e => by have := (hos.lt e.symm).1; omega)).trans k3
                  have k5n := (st.block _ (blk_lt k5) (by omega) (fun e => by have := (hos.lt e.symm).1; omega)).trans k5
                  have k6n := (st.block _ (blk_lt k6) (by omega) (fun e => by have := (hos.lt e.symm).1; omega)).trans k6
                  have hBn : B ≤ (Z.setCell ⟨w.heap.size + 1 + 1 + 1, 0, none⟩ (.slice va vn vc)).heap.size := by have := st.size; simp at this ⊢; omega
                  obtain ⟨Wn, hWn⟩ : ∃ Wn, Wn = Z.setCell ⟨w.heap.size + 1 + 1 + 1, 0, none⟩ (.slice va vn vc) := ⟨_, rfl⟩
                  rw [← hWn] at kO' B1' hos' k3n k5n k6n hBn ⊢
                  have HF2 : Hid (told (F ++ [⟨ys, yr, ra1, rg1, 0, rc1, F1⟩]) = told F ++ [(ys, yr, said yQ)]) := by rw [Hid, told_snoc]; simp only [Nm.l]; rw [hl]
                  have HL2 : Hid ((F ++ [(⟨ys, yr, ra1, rg1, 0, rc1, F1⟩ : Nm)]).length = F.length + 1) := by rw [Hid]; simp
                  generalize F ++ [(⟨ys, yr, ra1, rg1, 0, rc1, F1⟩ : Nm)] = F2 at hos' HF2 HL2
                  generalize Value.slice va vn vc = v2 at kO' hos' hWn
                  clear hWn st hos0 kO0 ok0 B2 hos kO B1 k3 k5 k6 hBs hHeld
                  have kO := kO'
                  have B1 := B1'
                  have hos := hos'
                  have k3 := k3n
                  have k5 := k5n
                  have k6 := k6n
                  have hBs := hBn
                  clear kO' B1' hos' k3n k5n k6n hBn
                  go_wp2
                  go_roundw
                  case rel => exact ⟨k + 1, _, _, _, by omega, by go_num, rfl, B1, k3, k5, k6, kO, hos, hBs, (by rw [HF2.out, HF1e.out, HF1.out]; exact HS1.out.1), HS1.out.2, (by have := HL2.out; have := HL1.out; have := HL1e.out; omega)⟩
                  case measure => simp [intOf]; omega
                · rintro e1 Wc ⟨v1, F1, rfl, hot1, hl, hb⟩
                  have hF1 := hF1of F1 hl
                  obtain ⟨ra1, rg1, rc1, rfl, hr⟩ := hot1.form hF1
                  replace st := st.below hb
                  replace kO0 := (hb.block _ (blk_lt kO0)).trans kO0
                  have hbc := hb
                  replace B2 := Rw.next B2 hb
                  have sC := hb.size
                  refine ⟨_, rfl, st, fun hHeld => ?_⟩
                  simp only [Act.put, List.setIfInBounds_toArray, List.set_cons_zero, List.set_cons_succ]
                  refine Hn.take (i := 15) (d := some 61) (v := .agg #[.string ys, .int .i64 yr, .slice ra1 F1.length rc1]) rfl (by kernel_rfl) (by kernel_rfl) (by kernel_rfl) (by kernel_rfl) (fun _ _ _ h => h) (Or.inl ⟨by rfl, by intro w hSw; go_simp⟩) hHeld ?_
                  simp only [Act.put, List.setIfInBounds_toArray, List.set_cons_zero, List.set_cons_succ]
                  refine wpAnyH_ready (rs := [1, 16]) (by kernel_rfl) (by simp) (Hn.readyRun (i := 1) rfl (by kernel_rfl) (some 47) (by kernel_rfl) (v := v) (w' := Wc) (by have o0 := Pl.one kO0; go_simp) st (fun hHeld => ?_) (Hn.readyRun (i := 16) rfl (by kernel_rfl) (some 62) (by kernel_rfl) (v := .slice (some ⟨Wc.heap.size, 0, none⟩) 1 1) (w' := Wc.alloc (.cells #[.string ys, .int .i64 yr, .slice ra1 F1.length rc1] 113)) (St.exec_oneN rfl (by kernel_rfl)) (st.below (below_alloc1 _ _)) (fun hHeld => ?_) AllReadyH.nil))
                  · simp only [Act.put, List.setIfInBounds_toArray, List.set_cons_zero, List.set_cons_succ]
                    refine wpAnyH_ready (rs := [16]) (by kernel_rfl) (by simp) (Hn.readyRun (i := 16) rfl (by kernel_rfl) (some 62) (by kernel_rfl) (v := .slice (some ⟨Wc.heap.size, 0, none⟩) 1 1) (w' := Wc.alloc (.cells #[.string ys, .int .i64 yr, .slice ra1 F1.length rc1] 113)) (St.exec_oneN rfl (by kernel_rfl)) (st.below (below_alloc1 _ _)) (fun hHeld => ?_) AllReadyH.nil)
                    simp only [Act.put, List.setIfInBounds_toArray, List.set_cons_zero, List.set_cons_succ]
                    obtain ⟨Wd, hWd⟩ : ∃ Wd, Wd = Wc.alloc (.cells #[.string ys, .int .i64 yr, .slice ra1 F1.length rc1] 113) := ⟨_, rfl⟩
                    rw [← hWd] at hHeld ⊢
                    have hT : Wd.heap[Wc.heap.size]? = some (.cells #[.string ys, .int .i64 yr, .slice ra1 F1.length rc1] 113 (0, 0)) := by subst hWd; exact at_new rfl
                    have hb : Below Wc.heap.size Wc Wd := by subst hWd; exact below_alloc1 _ _
                    have sD := hb.size
                    replace st := st.below hb
                    replace kO0 := (hb.block _ (blk_lt kO0)).trans kO0
                    replace B2 := Rw.next B2 hb
                    have hr2 := hr.below hb
                    have hbd := Rw.next hbc hb
                    clear hb hWd
                    obtain ⟨v', Z, hrun, hosZ, hgr⟩ := hos0.app (x := ⟨ys, yr, ra1, rg1, 0, rc1, F1⟩) (c := 1) 36 hbd hr2 sD rfl hnm (by omega) hT hFl
                    refine wpAnyH_ready (rs := [17]) (by kernel_rfl) (by simp) (Hn.readyRun (i := 17) rfl (by kernel_rfl) (some 63) (by kernel_rfl) (Hn.exec_app (.tmp 47) (.tmp 62) rfl (by kernel_rfl) (by kernel_rfl) hrun) (st.grown hgr) (fun hHeld => ?_) AllReadyH.nil)
                    simp only [Act.put, List.setIfInBounds_toArray, List.set_cons_zero, List.set_cons_succ]
                    replace st := st.grown hgr
                    obtain ⟨va, vn, vc, hv⟩ := hosZ.slice
                    subst hv
                    have kOZ := (hgr.block _ (blk_lt kO0) (fun e => by have := (hos0.lt e.symm).1; omega)).trans kO0
                    replace B2 := B2.grown hgr B2.size (fun k hk => by have := (hos0.lt hk).1; omega)
                    have o0 := Pl.one kOZ
                    have fO := Vl.free kOZ
                    refine Hn.take (i := 18) (d := some 64) (v := .pointer (some ⟨w.heap.size + 1 + 1 + 1, 0, none⟩)) rfl (by kernel_rfl) (by kernel_rfl) (by kernel_rfl) (by kernel_rfl) (fun _ _ _ h => h) (Or.inl ⟨by rfl, by intro w hSw; go_simp⟩) hHeld ?_
                    simp only [Act.put, List.setIfInBounds_toArray, List.set_cons_zero, List.set_cons_succ]
                    refine wpAnyH_ready (rs := [19]) (by kernel_rfl) (by simp) (Hn.readySkip (i := 19) rfl (by kernel_rfl) none (by kernel_rfl) (w' := Z.setCell ⟨w.heap.size + 1 + 1 + 1, 0, none⟩ (.slice va vn vc)) (by go_simp) st.set (fun hHeld => ?_) AllReadyH.nil)
                    simp only [Act.put, List.setIfInBounds_toArray, List.set_cons_zero, List.set_cons_succ]
                    refine wpAnyH_done (by kernel_rfl) ?_ _
                    have kO' : (Z.setCell ⟨w.heap.size + 1 + 1 + 1, 0, none⟩ (.slice va vn vc)).heap[w.heap.size + 1 + 1 + 1]? = some (.cells #[(.slice va vn vc)] 38 (0, 0)) := Sw.one_set kOZ
                    have B1' : Below w.heap.size w (Z.setCell ⟨w.heap.size + 1 + 1 + 1, 0, none⟩ (.slice va vn vc)) := Vl.bset B2 hwo
                    have hos' : St.OS (Z.setCell ⟨w.heap.size + 1 + 1 + 1, 0, none⟩ (.slice va vn vc)) B (.slice va vn vc) (F ++ [⟨ys, yr, ra1, rg1, 0, rc1, F1⟩]) := hosZ.keep (fun x _ hx => Below.heap_setCell _ _ _ _ (by simp; omega)) (by simp)
                    replace st : Rl.Stab Wn (w.heap.size + 1 + 1 + 1) v (Z.setCell ⟨w.heap.size + 1 + 1 + 1, 0, none⟩ (.slice va vn vc)) := st.set
                    have k3n := (st.block _ (blk_lt k3) (by omega) (fun e => by have := (hos.lt e.symm).1; omega)).trans k3
                    have k5n := (st.block _ (blk_lt k5) (by omega) (fun e => by have := (hos.lt e.symm).1; omega)).trans k5
                    have k6n := (st.block _ (blk_lt k6) (by omega) (fun e => by have := (hos.lt e.symm).1; omega)).trans k6
                    have hBn : B ≤ (Z.setCell ⟨w.heap.size + 1 + 1 + 1, 0, none⟩ (.slice va vn vc)).heap.size := by have := st.size; simp at this ⊢; omega
                    obtain ⟨Wn, hWn⟩ : ∃ Wn, Wn = Z.setCell ⟨w.heap.size + 1 + 1 + 1, 0, none⟩ (.slice va vn vc) := ⟨_, rfl⟩
                    rw [← hWn] at kO' B1' hos' k3n k5n k6n hBn ⊢
                    have HF2 : Hid (told (F ++ [⟨ys, yr, ra1, rg1, 0, rc1, F1⟩]) = told F ++ [(ys, yr, said yQ)]) := by rw [Hid, told_snoc]; simp only [Nm.l]; rw [hl]
                    have HL2 : Hid ((F ++ [(⟨ys, yr, ra1, rg1, 0, rc1, F1⟩ : Nm)]).length = F.length + 1) := by rw [Hid]; simp
                    generalize F ++ [(⟨ys, yr, ra1, rg1, 0, rc1, F1⟩ : Nm)] = F2 at hos' HF2 HL2
                    generalize Value.slice va vn vc = v2 at kO' hos' hWn
                    clear hWn st hos0 kO0 ok0 B2 hos kO B1 k3 k5 k6 hBs hHeld
                    have kO := kO'
                    have B1 := B1'
                    have hos := hos'
                    have k3 := k3n
                    have k5 := k5n
                    have k6 := k6n
                    have hBs := hBn
                    clear kO' B1' hos' k3n k5n k6n hBn
                    go_wp2
                    go_roundw
                    case rel => exact ⟨k + 1, _, _, _, by omega, by go_num, rfl, B1, k3, k5, k6, kO, hos, hBs, (by rw [HF2.out, HF1e.out, HF1.out]; exact HS1.out.1), HS1.out.2, (by have := HL2.out; have := HL1.out; have := HL1e.out; omega)⟩
                    case measure => simp [intOf]; omega
                  · simp only [Act.put, List.setIfInBounds_toArray, List.set_cons_zero, List.set_cons_succ]
                    obtain ⟨Wd, hWd⟩ : ∃ Wd, Wd = Wc.alloc (.cells #[.string ys, .int .i64 yr, .slice ra1 F1.length rc1] 113) := ⟨_, rfl⟩
                    rw [← hWd] at hHeld ⊢
                    have hT : Wd.heap[Wc.heap.size]? = some (.cells #[.string ys, .int .i64 yr, .slice ra1 F1.length rc1] 113 (0, 0)) := by subst hWd; exact at_new rfl
                    have hb : Below Wc.heap.size Wc Wd := by subst hWd; exact below_alloc1 _ _
                    have sD := hb.size
                    replace st := st.below hb
                    replace kO0 := (hb.block _ (blk_lt kO0)).trans kO0
                    replace B2 := Rw.next B2 hb
                    have hr2 := hr.below hb
                    have hbd := Rw.next hbc hb
                    clear hb hWd
                    refine wpAnyH_ready (rs := [1]) (by kernel_rfl) (by simp) (Hn.readyRun (i := 1) rfl (by kernel_rfl) (some 47) (by kernel_rfl) (v := v) (w' := Wd) (by have o0 := Pl.one kO0; go_simp) st (fun hHeld => ?_) AllReadyH.nil)
                    simp only [Act.put, List.setIfInBounds_toArray, List.set_cons_zero, List.set_cons_succ]
                    obtain ⟨v', Z, hrun, hosZ, hgr⟩ := hos0.app (x := ⟨ys, yr, ra1, rg1, 0, rc1, F1⟩) (c := 1) 36 hbd hr2 sD rfl hnm (by omega) hT hFl
                    refine wpAnyH_ready (rs := [17]) (by kernel_rfl) (by simp) (Hn.readyRun (i := 17) rfl (by kernel_rfl) (some 63) (by kernel_rfl) (Hn.exec_app (.tmp 47) (.tmp 62) rfl (by kernel_rfl) (by kernel_rfl) hrun) (st.grown hgr) (fun hHeld => ?_) AllReadyH.nil)
                    simp only [Act.put, List.setIfInBounds_toArray, List.set_cons_zero, List.set_cons_succ]
                    replace st := st.grown hgr
                    obtain ⟨va, vn, vc, hv⟩ := hosZ.slice
                    subst hv
                    have kOZ := (hgr.block _ (blk_lt kO0) (fun e => by have := (hos0.lt e.symm).1; omega)).trans kO0
                    replace B2 := B2.grown hgr B2.size (fun k hk => by have := (hos0.lt hk).1; omega)
                    have o0 := Pl.one kOZ
                    have fO := Vl.free kOZ
                    refine Hn.take (i := 18) (d := some 64) (v := .pointer (some ⟨w.heap.size + 1 + 1 + 1, 0, none⟩)) rfl (by kernel_rfl) (by kernel_rfl) (by kernel_rfl) (by kernel_rfl) (fun _ _ _ h => h) (Or.inl ⟨by rfl, by intro w hSw; go_simp⟩) hHeld ?_
                    simp only [Act.put, List.setIfInBounds_toArray, List.set_cons_zero, List.set_cons_succ]
                    refine wpAnyH_ready (rs := [19]) (by kernel_rfl) (by simp) (Hn.readySkip (i := 19) rfl (by kernel_rfl) none (by kernel_rfl) (w' := Z.setCell ⟨w.heap.size + 1 + 1 + 1, 0, none⟩ (.slice va vn vc)) (by go_simp) st.set (fun hHeld => ?_) AllReadyH.nil)
                    simp only [Act.put, List.setIfInBounds_toArray, List.set_cons_zero, List.set_cons_succ]
                    refine wpAnyH_done (by kernel_rfl) ?_ _
                    have kO' : (Z.setCell ⟨w.heap.size + 1 + 1 + 1, 0, none⟩ (.slice va vn vc)).heap[w.heap.size + 1 + 1 + 1]? = some (.cells #[(.slice va vn vc)] 38 (0, 0)) := Sw.one_set kOZ
                    have B1' : Below w.heap.size w (Z.setCell ⟨w.heap.size + 1 + 1 + 1, 0, none⟩ (.slice va vn vc)) := Vl.bset B2 hwo
                    have hos' : St.OS (Z.setCell ⟨w.heap.size + 1 + 1 + 1, 0, none⟩ (.slice va vn vc)) B (.slice va vn vc) (F ++ [⟨ys, yr, ra1, rg1, 0, rc1, F1⟩]) := hosZ.keep (fun x _ hx => Below.heap_setCell _ _ _ _ (by simp; omega)) (by simp)
                    replace st : Rl.Stab Wn (w.heap.size + 1 + 1 + 1) v (Z.setCell ⟨w.heap.size + 1 + 1 + 1, 0, none⟩ (.slice va vn vc)) := st.set
                    have k3n := (st.block _ (blk_lt k3) (by omega) (fun e => by have := (hos.lt e.symm).1; omega)).trans k3
                    have k5n := (st.block _ (blk_lt k5) (by omega) (fun e => by have := (hos.lt e.symm).1; omega)).trans k5
                    have k6n := (st.block _ (blk_lt k6) (by omega) (fun e => by have := (hos.lt e.symm).1; omega)).trans k6
                    have hBn : B ≤ (Z.setCell ⟨w.heap.size + 1 + 1 + 1, 0, none⟩ (.slice va vn vc)).heap.size := by have := st.size; simp at this ⊢; omega
                    obtain ⟨Wn, hWn⟩ : ∃ Wn, Wn = Z.setCell ⟨w.heap.size + 1 + 1 + 1, 0, none⟩ (.slice va vn vc) := ⟨_, rfl⟩
                    rw [← hWn] at kO' B1' hos' k3n k5n k6n hBn ⊢
                    have HF2 : Hid (told (F ++ [⟨ys, yr, ra1, rg1, 0, rc1, F1⟩]) = told F ++ [(ys, yr, said yQ)]) := by rw [Hid, told_snoc]; simp only [Nm.l]; rw [hl]
                    have HL2 : Hid ((F ++ [(⟨ys, yr, ra1, rg1, 0, rc1, F1⟩ : Nm)]).length = F.length + 1) := by rw [Hid]; simp
                    generalize F ++ [(⟨ys, yr, ra1, rg1, 0, rc1, F1⟩ : Nm)] = F2 at hos' HF2 HL2
                    generalize Value.slice va vn vc = v2 at kO' hos' hWn
                    clear hWn st hos0 kO0 ok0 B2 hos kO B1 k3 k5 k6 hBs hHeld
                    have kO := kO'
                    have B1 := B1'
                    have hos := hos'
                    have k3 := k3n
                    have k5 := k5n
                    have k6 := k6n
                    have hBs := hBn
                    clear kO' B1' hos' k3n k5n k6n hBn
                    go_wp2
                    go_roundw
                    case rel => exact ⟨k + 1, _, _, _, by omega, by go_num, rfl, B1, k3, k5, k6, kO, hos, hBs, (by rw [HF2.out, HF1e.out, HF1.out]; exact HS1.out.1), HS1.out.2, (by have := HL2.out; have := HL1.out; have := HL1e.out; omega)⟩
                    case measure => simp [intOf]; omega
              · rintro e1 Wc ⟨v1, F1, rfl, hot1, hl, hb⟩
                have hF1 := hF1of F1 hl
                obtain ⟨ra1, rg1, rc1, rfl, hr⟩ := hot1.form hF1
                replace st := st.below hb
                replace kO0 := (hb.block _ (blk_lt kO0)).trans kO0
                have hbc := hb
                replace B2 := Rw.next B2 hb
                have sC := hb.size
                refine ⟨_, rfl, st, fun hHeld => ?_⟩
                simp only [Act.put, List.setIfInBounds_toArray, List.set_cons_zero, List.set_cons_succ]
                refine Hn.take (i := 5) (d := some 34) (v := .agg #[.string s, .int .i64 ar, .slice ra1 F1.length rc1]) rfl (by kernel_rfl) (by kernel_rfl) (by kernel_rfl) (by kernel_rfl) (fun _ _ _ h => h) (Or.inl ⟨by rfl, by intro w hSw; go_simp⟩) hHeld ?_
                simp only [Act.put, List.setIfInBounds_toArray, List.set_cons_zero, List.set_cons_succ]
                refine wpAnyH_ready (rs := [1, 6]) (by kernel_rfl) (by simp) (Hn.readyRun (i := 1) rfl (by kernel_rfl) (some 30) (by kernel_rfl) (v := v) (w' := Wc) (by have o0 := Pl.one kO0; go_simp) st (fun hHeld => ?_) (Hn.readyRun (i := 6) rfl (by kernel_rfl) (some 35) (by kernel_rfl) (v := .slice (some ⟨Wc.heap.size, 0, none⟩) 1 1) (w' := Wc.alloc (.cells #[.string s, .int .i64 ar, .slice ra1 F1.length rc1] 113)) (St.exec_oneN rfl (by kernel_rfl)) (st.below (below_alloc1 _ _)) (fun hHeld => ?_) AllReadyH.nil))
                · simp only [Act.put, List.setIfInBounds_toArray, List.set_cons_zero, List.set_cons_succ]
                  refine wpAnyH_ready (rs := [6]) (by kernel_rfl) (by simp) (Hn.readyRun (i := 6) rfl (by kernel_rfl) (some 35) (by kernel_rfl) (v := .slice (some ⟨Wc.heap.size, 0, none⟩) 1 1) (w' := Wc.alloc (.cells #[.string s, .int .i64 ar, .slice ra1 F1.length rc1] 113)) (St.exec_oneN rfl (by kernel_rfl)) (st.below (below_alloc1 _ _)) (fun hHeld => ?_) AllReadyH.nil)
                  simp only [Act.put, List.setIfInBounds_toArray, List.set_cons_zero, List.set_cons_succ]
                  obtain ⟨Wd, hWd⟩ : ∃ Wd, Wd = Wc.alloc (.cells #[.string s, .int .i64 ar, .slice ra1 F1.length rc1] 113) := ⟨_, rfl⟩
                  rw [← hWd] at hHeld ⊢
                  have hT : Wd.heap[Wc.heap.size]? = some (.cells #[.string s, .int .i64 ar, .slice ra1 F1.length rc1] 113 (0, 0)) := by subst hWd; exact at_new rfl
                  have hb : Below Wc.heap.size Wc Wd := by subst hWd; exact below_alloc1 _ _
                  have sD := hb.size
                  replace st := st.below hb
                  replace kO0 := (hb.block _ (blk_lt kO0)).trans kO0
                  replace B2 := Rw.next B2 hb
                  have hr2 := hr.below hb
                  have hbd := Rw.next hbc hb
                  clear hb hWd
                  obtain ⟨v', Z, hrun, hosZ, hgr⟩ := hos0.app (x := ⟨s, ar, ra1, rg1, 0, rc1, F1⟩) (c := 1) 36 hbd hr2 sD rfl hnm (by omega) hT hFl
                  refine wpAnyH_ready (rs := [7]) (by kernel_rfl) (by simp) (Hn.readyRun (i := 7) rfl (by kernel_rfl) (some 36) (by kernel_rfl) (Hn.exec_app (.tmp 30) (.tmp 35) rfl (by kernel_rfl) (by kernel_rfl) hrun) (st.grown hgr) (fun hHeld => ?_) AllReadyH.nil)
                  simp only [Act.put, List.setIfInBounds_toArray, List.set_cons_zero, List.set_cons_succ]
                  replace st := st.grown hgr
                  obtain ⟨va, vn, vc, hv⟩ := hosZ.slice
                  subst hv
                  have kOZ := (hgr.block _ (blk_lt kO0) (fun e => by have := (hos0.lt e.symm).1; omega)).trans kO0
                  replace B2 := B2.grown hgr B2.size (fun k hk => by have := (hos0.lt hk).1; omega)
                  have o0 := Pl.one kOZ
                  have fO := Vl.free kOZ
                  refine Hn.take (i := 8) (d := some 37) (v := .pointer (some ⟨w.heap.size + 1 + 1 + 1, 0, none⟩)) rfl (by kernel_rfl) (by kernel_rfl) (by kernel_rfl) (by kernel_rfl) (fun _ _ _ h => h) (Or.inl ⟨by rfl, by intro w hSw; go_simp⟩) hHeld ?_
                  simp only [Act.put, List.setIfInBounds_toArray, List.set_cons_zero, List.set_cons_succ]
                  refine wpAnyH_ready (rs := [9]) (by kernel_rfl) (by simp) (Hn.readySkip (i := 9) rfl (by kernel_rfl) none (by kernel_rfl) (w' := Z.setCell ⟨w.heap.size + 1 + 1 + 1, 0, none⟩ (.slice va vn vc)) (by go_simp) st.set (fun hHeld => ?_) AllReadyH.nil)
                  simp only [Act.put, List.setIfInBounds_toArray, List.set_cons_zero, List.set_cons_succ]
                  refine wpAnyH_done (by kernel_rfl) ?_ _
                  have kO' : (Z.setCell ⟨w.heap.size + 1 + 1 + 1, 0, none⟩ (.slice va vn vc)).heap[w.heap.size + 1 + 1 + 1]? = some (.cells #[(.slice va vn vc)] 38 (0, 0)) := Sw.one_set kOZ
                  have B1' : Below w.heap.size w (Z.setCell ⟨w.heap.size + 1 + 1 + 1, 0, none⟩ (.slice va vn vc)) := Vl.bset B2 hwo
                  have hos' : St.OS (Z.setCell ⟨w.heap.size + 1 + 1 + 1, 0, none⟩ (.slice va vn vc)) B (.slice va vn vc) (F ++ [⟨s, ar, ra1, rg1, 0, rc1, F1⟩]) := hosZ.keep (fun x _ hx => Below.heap_setCell _ _ _ _ (by simp; omega)) (by simp)
                  replace st : Rl.Stab wr (w.heap.size + 1 + 1 + 1) v (Z.setCell ⟨w.heap.size + 1 + 1 + 1, 0, none⟩ (.slice va vn vc)) := st.set
                  have k3n := (st.block _ (blk_lt k3) (by omega) (fun e => by have := (hos.lt e.symm).1; omega)).trans k3
                  have k5n := (st.block _ (blk_lt k5) (by omega) (fun e => by have := (hos.lt e.symm).1; omega)).trans k5
                  have k6n := (st.block _ (blk_lt k6) (by omega) (fun e => by have := (hos.lt e.symm).1; omega)).trans k6
                  have hBn : B ≤ (Z.setCell ⟨w.heap.size + 1 + 1 + 1, 0, none⟩ (.slice va vn vc)).heap.size := by have := st.size; simp at this ⊢; omega
                  obtain ⟨Wn, hWn⟩ : ∃ Wn, Wn = Z.setCell ⟨w.heap.size + 1 + 1 + 1, 0, none⟩ (.slice va vn vc) := ⟨_, rfl⟩
                  rw [← hWn] at kO' B1' hos' k3n k5n k6n hBn ⊢
                  have HF : Hid (told (F ++ [⟨s, ar, ra1, rg1, 0, rc1, F1⟩]) = told F ++ [(s, ar, said Q)]) := by rw [Hid, told_snoc]; simp only [Nm.l]; rw [hl]
                  have HLn : Hid ((F ++ [(⟨s, ar, ra1, rg1, 0, rc1, F1⟩ : Nm)]).length = F.length + 1) := by rw [Hid]; simp
                  generalize F ++ [(⟨s, ar, ra1, rg1, 0, rc1, F1⟩ : Nm)] = F2 at hos' HF HLn
                  generalize Value.slice va vn vc = v2 at kO' hos' hWn
                  clear hWn st hos0 kO0 ok0 B2 hos kO B1 k3 k5 k6 hBs hHeld
                  have kO := kO'
                  have B1 := B1'
                  have hos := hos'
                  have k3 := k3n
                  have k5 := k5n
                  have k6 := k6n
                  have hBs := hBn
                  clear kO' B1' hos' k3n k5n k6n hBn
                  have HF1 := HF
                  have HL1 := HLn
                  clear HF HLn hSt ok h4 hnm hF1of hl hr hot1 hF1
                  have hFl2 : F2.length ≤ 100000 := by have := HL1.out; omega
                  clear hFl
                  have hFl := hFl2
                  clear hFl2
                  obtain ⟨F, hFe⟩ : ∃ F, F = F2 := ⟨_, rfl⟩
                  rw [← hFe] at hos hFl
                  obtain ⟨v, hve⟩ : ∃ v, v = v2 := ⟨_, rfl⟩
                  rw [← hve] at hos kO
                  have HF1e : Hid (told F = told F2) := congrArg told hFe
                  have HL1e : Hid (F.length = F2.length) := congrArg List.length hFe
                  clear hFe hve c0 c1 c2 p3
                  obtain ⟨c0, c1, c2⟩ := St.At3.of HC.out B1 lb
                  have p3 := Pl.one k3
                  go_wp2
                  have hSt : ∀ w', Rl.Stab Wn (w.heap.size + 1 + 1 + 1) v w' → w'.cell? ⟨w.heap.size, 0, none⟩ = some (.slice (some ⟨b, off, none⟩) n cap) ∧ w'.cell? ⟨b, off + k * 3, none⟩ = some (.string ys) ∧ w'.cell? ⟨b, off + k * 3 + 1, none⟩ = some (.int .i64 yr) ∧ w'.cell? ⟨b, off + k * 3 + 2, none⟩ = some (.slice ya yQ.length yc) := fun w' st => by
                    have hkb := st.block b (Nat.lt_of_lt_of_le lb B1.size) (by omega) (fun e => by have := (hos.lt e.symm).1; omega)
                    have hcc := St.At3.of HC.out B1 lb
                    have e3 := (st.block _ (blk_lt k3) (by omega) (fun e => by have := (hos.lt e.symm).1; omega)).trans k3
                    exact ⟨Pl.one e3, (World.cell?_of_block hkb).trans hcc.1, (World.cell?_of_block hkb).trans hcc.2.1, (World.cell?_of_block hkb).trans hcc.2.2⟩
                  have ok : Rl.Rd Wn ya yb yo yQ := HY.out.below B1
                  have hnm := hys
                  have h4 := h4y
                  have hF1of : ∀ F1 : List Rm, said F1 = said yQ → F1.length ≤ 4194304 := fun F1 h => by rw [← Rl.said_len, h, Rl.said_len]; omega
                  refine wp_region_held_drew (S := Rl.Stab Wn (w.heap.size + 1 + 1 + 1) v) (by kernel_rfl) (Rl.Stab.refl _ _ _) (fun hHeld => ?_)
                  refine Hn.take (i := 0) (d := some 46) (v := .pointer (some ⟨w.heap.size + 1 + 1 + 1, 0, none⟩)) rfl (by kernel_rfl) (by kernel_rfl) (by kernel_rfl) (by kernel_rfl) (fun _ _ _ h => h) (Or.inl ⟨by rfl, by intro w hSw; go_simp⟩) hHeld ?_
                  simp only [Act.put, List.setIfInBounds_toArray, List.set_cons_zero, List.set_cons_succ]
                  refine Hn.take (i := 2) (d := some 48) (v := .pointer (some ⟨w.heap.size, 0, none⟩)) rfl (by kernel_rfl) (by kernel_rfl) (by kernel_rfl) (by kernel_rfl) (fun _ _ _ h => h) (Or.inl ⟨by rfl, by intro w hSw; go_simp⟩) hHeld ?_
                  simp only [Act.put, List.setIfInBounds_toArray, List.set_cons_zero, List.set_cons_succ]
                  refine Hn.take (i := 3) (d := some 49) (v := .slice (some ⟨b, off, none⟩) n cap) rfl (by kernel_rfl) (by kernel_rfl) (by kernel_rfl) (by kernel_rfl) (fun _ _ _ h => h) (Or.inl ⟨by rfl, by intro w hSw; obtain ⟨q0, q1, q2, q3⟩ := hSt w hSw; go_simp⟩) hHeld ?_
                  simp only [Act.put, List.setIfInBounds_toArray, List.set_cons_zero, List.set_cons_succ]
                  refine Hn.take (i := 4) (d := some 50) (v := .int .i64 k) rfl (by kernel_rfl) (by kernel_rfl) (by kernel_rfl) (by kernel_rfl) (fun _ _ _ h => h) (Or.inl ⟨by rfl, by intro w hSw; go_simp⟩) hHeld ?_
                  simp only [Act.put, List.setIfInBounds_toArray, List.set_cons_zero, List.set_cons_succ]
                  refine Hn.take (i := 5) (d := some 51) (v := .pointer (some ⟨b, off + k * 3, none⟩)) rfl (by kernel_rfl) (by kernel_rfl) (by kernel_rfl) (by kernel_rfl) (fun _ _ _ h => h) (Or.inl ⟨by rfl, by intro w hSw; go_simp⟩) hHeld ?_
                  simp only [Act.put, List.setIfInBounds_toArray, List.set_cons_zero, List.set_cons_succ]
                  refine Hn.take (i := 6) (d := some 52) (v := .pointer (some ⟨b, off + k * 3, none⟩)) rfl (by kernel_rfl) (by kernel_rfl) (by kernel_rfl) (by kernel_rfl) (fun _ _ _ h => h) (Or.inl ⟨by rfl, by intro w hSw; go_simp⟩) hHeld ?_
                  simp only [Act.put, List.setIfInBounds_toArray, List.set_cons_zero, List.set_cons_succ]
                  refine Hn.take (i := 7) (d := some 53) (v := .string ys) rfl (by kernel_rfl) (by kernel_rfl) (by kernel_rfl) (by kernel_rfl) (fun _ _ _ h => h) (Or.inl ⟨by rfl, by intro w hSw; obtain ⟨q0, q1, q2, q3⟩ := hSt w hSw; go_simp⟩) hHeld ?_
                  simp only [Act.put, List.setIfInBounds_toArray, List.set_cons_zero, List.set_cons_succ]
                  refine Hn.take (i := 8) (d := some 54) (v := .pointer (some ⟨w.heap.size, 0, none⟩)) rfl (by kernel_rfl) (by kernel_rfl) (by kernel_rfl) (by kernel_rfl) (fun _ _ _ h => h) (Or.inl ⟨by rfl, by intro w hSw; go_simp⟩) hHeld ?_
                  simp only [Act.put, List.setIfInBounds_toArray, List.set_cons_zero, List.set_cons_succ]
                  refine Hn.take (i := 9) (d := some 55) (v := .slice (some ⟨b, off, none⟩) n cap) rfl (by kernel_rfl) (by kernel_rfl) (by kernel_rfl) (by kernel_rfl) (fun _ _ _ h => h) (Or.inl ⟨by rfl, by intro w hSw; obtain ⟨q0, q1, q2, q3⟩ := hSt w hSw; go_simp⟩) hHeld ?_
                  simp only [Act.put, List.setIfInBounds_toArray, List.set_cons_zero, List.set_cons_succ]
                  refine Hn.take (i := 10) (d := some 56) (v := .int .i64 k) rfl (by kernel_rfl) (by kernel_rfl) (by kernel_rfl) (by kernel_rfl) (fun _ _ _ h => h) (Or.inl ⟨by rfl, by intro w hSw; go_simp⟩) hHeld ?_
                  simp only [Act.put, List.setIfInBounds_toArray, List.set_cons_zero, List.set_cons_succ]
                  refine Hn.take (i := 11) (d := some 57) (v := .pointer (some ⟨b, off + k * 3, none⟩)) rfl (by kernel_rfl) (by kernel_rfl) (by kernel_rfl) (by kernel_rfl) (fun _ _ _ h => h) (Or.inl ⟨by rfl, by intro w hSw; go_simp⟩) hHeld ?_
                  simp only [Act.put, List.setIfInBounds_toArray, List.set_cons_zero, List.set_cons_succ]
                  refine Hn.take (i := 12) (d := some 58) (v := .pointer (some ⟨b, off + k * 3 + 1, none⟩)) rfl (by kernel_rfl) (by kernel_rfl) (by kernel_rfl) (by kernel_rfl) (fun _ _ _ h => h) (Or.inl ⟨by rfl, by intro w hSw; go_simp⟩) hHeld ?_
                  simp only [Act.put, List.setIfInBounds_toArray, List.set_cons_zero, List.set_cons_succ]
                  refine Hn.take (i := 13) (d := some 59) (v := .agg #[.int .i64 yr, .slice ya yQ.length yc]) rfl (by kernel_rfl) (by kernel_rfl) (by kernel_rfl) (by kernel_rfl) (fun _ _ _ h => h) (Or.inl ⟨by rfl, by intro w hSw; obtain ⟨q0, q1, q2, q3⟩ := hSt w hSw; go_simp⟩) hHeld ?_
                  simp only [Act.put, List.setIfInBounds_toArray, List.set_cons_zero, List.set_cons_succ]
                  have st : Rl.Stab Wn (w.heap.size + 1 + 1 + 1) v (Wn).drew := Rl.Stab.refl _ _ _
                  have hos0 : St.OS (Wn).drew B v F := hos.below ((Below.refl _ _).drew)
                  have kO0 : (Wn).drew.heap[w.heap.size + 1 + 1 + 1]? = some (.cells #[v] 38 (0, 0)) := kO
                  have ok0 := Rl.Rd.below ok ((Below.refl (Wn).heap.size (Wn)).drew)
                  have B2 := Rw.next B1 ((Below.refl (Wn).heap.size (Wn)).drew)
                  have sW : (Wn).drew.heap.size = (Wn).heap.size := rfl
                  generalize (Wn).drew = W at *
                  refine wpAnyH_ready (rs := [1, 14]) (by kernel_rfl) (by simp) (Hn.readyRun (i := 1) rfl (by kernel_rfl) (some 47) (by kernel_rfl) (v := v) (w' := W) (by have o0 := Pl.one kO0; go_simp) st (fun hHeld => ?_) (Hn.call1 (i := 14) rfl (by rfl) 95 (.tmp 59) 69 (by kernel_rfl) 60 (by kernel_rfl) (.agg #[.int .i64 yr, .slice ya yQ.length yc]) (by kernel_rfl) (fun _ => rfl) (Rl.lcopy_any yr ya yb yo yc yQ _ ok0 h4) ?_ AllReadyH.nil))
                  · simp only [Act.put, List.setIfInBounds_toArray, List.set_cons_zero, List.set_cons_succ]
                    refine wpAnyH_ready (rs := [14]) (by kernel_rfl) (by simp) (Hn.call1 (i := 14) rfl (by rfl) 95 (.tmp 59) 69 (by kernel_rfl) 60 (by kernel_rfl) (.agg #[.int .i64 yr, .slice ya yQ.length yc]) (by kernel_rfl) (fun _ => rfl) (Rl.lcopy_any yr ya yb yo yc yQ _ ok0 h4) ?_ AllReadyH.nil)
                    rintro e1 Wc ⟨v1, F1, rfl, hot1, hl, hb⟩
                    have hF1 := hF1of F1 hl
                    obtain ⟨ra1, rg1, rc1, rfl, hr⟩ := hot1.form hF1
                    replace st := st.below hb
                    replace kO0 := (hb.block _ (blk_lt kO0)).trans kO0
                    have hbc := hb
                    replace B2 := Rw.next B2 hb
                    have sC := hb.size
                    refine ⟨_, rfl, st, fun hHeld => ?_⟩
                    simp only [Act.put, List.setIfInBounds_toArray, List.set_cons_zero, List.set_cons_succ]
                    refine Hn.take (i := 15) (d := some 61) (v := .agg #[.string ys, .int .i64 yr, .slice ra1 F1.length rc1]) rfl (by kernel_rfl) (by kernel_rfl) (by kernel_rfl) (by kernel_rfl) (fun _ _ _ h => h) (Or.inl ⟨by rfl, by intro w hSw; go_simp⟩) hHeld ?_
                    simp only [Act.put, List.setIfInBounds_toArray, List.set_cons_zero, List.set_cons_succ]
                    refine wpAnyH_ready (rs := [16]) (by kernel_rfl) (by simp) (Hn.readyRun (i := 16) rfl (by kernel_rfl) (some 62) (by kernel_rfl) (v := .slice (some ⟨Wc.heap.size, 0, none⟩) 1 1) (w' := Wc.alloc (.cells #[.string ys, .int .i64 yr, .slice ra1 F1.length rc1] 113)) (St.exec_oneN rfl (by kernel_rfl)) (st.below (below_alloc1 _ _)) (fun hHeld => ?_) AllReadyH.nil)
                    simp only [Act.put, List.setIfInBounds_toArray, List.set_cons_zero, List.set_cons_succ]
                    obtain ⟨Wd, hWd⟩ : ∃ Wd, Wd = Wc.alloc (.cells #[.string ys, .int .i64 yr, .slice ra1 F1.length rc1] 113) := ⟨_, rfl⟩
                    rw [← hWd] at hHeld ⊢
                    have hT : Wd.heap[Wc.heap.size]? = some (.cells #[.string ys, .int .i64 yr, .slice ra1 F1.length rc1] 113 (0, 0)) := by subst hWd; exact at_new rfl
                    have hb : Below Wc.heap.size Wc Wd := by subst hWd; exact below_alloc1 _ _
                    have sD := hb.size
                    replace st := st.below hb
                    replace kO0 := (hb.block _ (blk_lt kO0)).trans kO0
                    replace B2 := Rw.next B2 hb
                    have hr2 := hr.below hb
                    have hbd := Rw.next hbc hb
                    clear hb hWd
                    obtain ⟨v', Z, hrun, hosZ, hgr⟩ := hos0.app (x := ⟨ys, yr, ra1, rg1, 0, rc1, F1⟩) (c := 1) 36 hbd hr2 sD rfl hnm (by omega) hT hFl
                    refine wpAnyH_ready (rs := [17]) (by kernel_rfl) (by simp) (Hn.readyRun (i := 17) rfl (by kernel_rfl) (some 63) (by kernel_rfl) (Hn.exec_app (.tmp 47) (.tmp 62) rfl (by kernel_rfl) (by kernel_rfl) hrun) (st.grown hgr) (fun hHeld => ?_) AllReadyH.nil)
                    simp only [Act.put, List.setIfInBounds_toArray, List.set_cons_zero, List.set_cons_succ]
                    replace st := st.grown hgr
                    obtain ⟨va, vn, vc, hv⟩ := hosZ.slice
                    subst hv
                    have kOZ := (hgr.block _ (blk_lt kO0) (fun e => by have := (hos0.lt e.symm).1; omega)).trans kO0
                    replace B2 := B2.grown hgr B2.size (fun k hk => by have := (hos0.lt hk).1; omega)
                    have o0 := Pl.one kOZ
                    have fO := Vl.free kOZ
                    refine Hn.take (i := 18) (d := some 64) (v := .pointer (some ⟨w.heap.size + 1 + 1 + 1, 0, none⟩)) rfl (by kernel_rfl) (by kernel_rfl) (by kernel_rfl) (by kernel_rfl) (fun _ _ _ h => h) (Or.inl ⟨by rfl, by intro w hSw; go_simp⟩) hHeld ?_
                    simp only [Act.put, List.setIfInBounds_toArray, List.set_cons_zero, List.set_cons_succ]
                    refine wpAnyH_ready (rs := [19]) (by kernel_rfl) (by simp) (Hn.readySkip (i := 19) rfl (by kernel_rfl) none (by kernel_rfl) (w' := Z.setCell ⟨w.heap.size + 1 + 1 + 1, 0, none⟩ (.slice va vn vc)) (by go_simp) st.set (fun hHeld => ?_) AllReadyH.nil)
                    simp only [Act.put, List.setIfInBounds_toArray, List.set_cons_zero, List.set_cons_succ]
                    refine wpAnyH_done (by kernel_rfl) ?_ _
                    have kO' : (Z.setCell ⟨w.heap.size + 1 + 1 + 1, 0, none⟩ (.slice va vn vc)).heap[w.heap.size + 1 + 1 + 1]? = some (.cells #[(.slice va vn vc)] 38 (0, 0)) := Sw.one_set kOZ
                    have B1' : Below w.heap.size w (Z.setCell ⟨w.heap.size + 1 + 1 + 1, 0, none⟩ (.slice va vn vc)) := Vl.bset B2 hwo
                    have hos' : St.OS (Z.setCell ⟨w.heap.size + 1 + 1 + 1, 0, none⟩ (.slice va vn vc)) B (.slice va vn vc) (F ++ [⟨ys, yr, ra1, rg1, 0, rc1, F1⟩]) := hosZ.keep (fun x _ hx => Below.heap_setCell _ _ _ _ (by simp; omega)) (by simp)
                    replace st : Rl.Stab Wn (w.heap.size + 1 + 1 + 1) v (Z.setCell ⟨w.heap.size + 1 + 1 + 1, 0, none⟩ (.slice va vn vc)) := st.set
                    have k3n := (st.block _ (blk_lt k3) (by omega) (fun e => by have := (hos.lt e.symm).1; omega)).trans k3
                    have k5n := (st.block _ (blk_lt k5) (by omega) (fun e => by have := (hos.lt e.symm).1; omega)).trans k5
                    have k6n := (st.block _ (blk_lt k6) (by omega) (fun e => by have := (hos.lt e.symm).1; omega)).trans k6
                    have hBn : B ≤ (Z.setCell ⟨w.heap.size + 1 + 1 + 1, 0, none⟩ (.slice va vn vc)).heap.size := by have := st.size; simp at this ⊢; omega
                    obtain ⟨Wn, hWn⟩ : ∃ Wn, Wn = Z.setCell ⟨w.heap.size + 1 + 1 + 1, 0, none⟩ (.slice va vn vc) := ⟨_, rfl⟩
                    rw [← hWn] at kO' B1' hos' k3n k5n k6n hBn ⊢
                    have HF2 : Hid (told (F ++ [⟨ys, yr, ra1, rg1, 0, rc1, F1⟩]) = told F ++ [(ys, yr, said yQ)]) := by rw [Hid, told_snoc]; simp only [Nm.l]; rw [hl]
                    have HL2 : Hid ((F ++ [(⟨ys, yr, ra1, rg1, 0, rc1, F1⟩ : Nm)]).length = F.length + 1) := by rw [Hid]; simp
                    generalize F ++ [(⟨ys, yr, ra1, rg1, 0, rc1, F1⟩ : Nm)] = F2 at hos' HF2 HL2
                    generalize Value.slice va vn vc = v2 at kO' hos' hWn
                    clear hWn st hos0 kO0 ok0 B2 hos kO B1 k3 k5 k6 hBs hHeld
                    have kO := kO'
                    have B1 := B1'
                    have hos := hos'
                    have k3 := k3n
                    have k5 := k5n
                    have k6 := k6n
                    have hBs := hBn
                    clear kO' B1' hos' k3n k5n k6n hBn
                    go_wp2
                    go_roundw
                    case rel => exact ⟨k + 1, _, _, _, by omega, by go_num, rfl, B1, k3, k5, k6, kO, hos, hBs, (by rw [HF2.out, HF1e.out, HF1.out]; exact HS1.out.1), HS1.out.2, (by have := HL2.out; have := HL1.out; have := HL1e.out; omega)⟩
                    case measure => simp [intOf]; omega
                  · rintro e1 Wc ⟨v1, F1, rfl, hot1, hl, hb⟩
                    have hF1 := hF1of F1 hl
                    obtain ⟨ra1, rg1, rc1, rfl, hr⟩ := hot1.form hF1
                    replace st := st.below hb
                    replace kO0 := (hb.block _ (blk_lt kO0)).trans kO0
                    have hbc := hb
                    replace B2 := Rw.next B2 hb
                    have sC := hb.size
                    refine ⟨_, rfl, st, fun hHeld => ?_⟩
                    simp only [Act.put, List.setIfInBounds_toArray, List.set_cons_zero, List.set_cons_succ]
                    refine Hn.take (i := 15) (d := some 61) (v := .agg #[.string ys, .int .i64 yr, .slice ra1 F1.length rc1]) rfl (by kernel_rfl) (by kernel_rfl) (by kernel_rfl) (by kernel_rfl) (fun _ _ _ h => h) (Or.inl ⟨by rfl, by intro w hSw; go_simp⟩) hHeld ?_
                    simp only [Act.put, List.setIfInBounds_toArray, List.set_cons_zero, List.set_cons_succ]
                    refine wpAnyH_ready (rs := [1, 16]) (by kernel_rfl) (by simp) (Hn.readyRun (i := 1) rfl (by kernel_rfl) (some 47) (by kernel_rfl) (v := v) (w' := Wc) (by have o0 := Pl.one kO0; go_simp) st (fun hHeld => ?_) (Hn.readyRun (i := 16) rfl (by kernel_rfl) (some 62) (by kernel_rfl) (v := .slice (some ⟨Wc.heap.size, 0, none⟩) 1 1) (w' := Wc.alloc (.cells #[.string ys, .int .i64 yr, .slice ra1 F1.length rc1] 113)) (St.exec_oneN rfl (by kernel_rfl)) (st.below (below_alloc1 _ _)) (fun hHeld => ?_) AllReadyH.nil))
                    · simp only [Act.put, List.setIfInBounds_toArray, List.set_cons_zero, List.set_cons_succ]
                      refine wpAnyH_ready (rs := [16]) (by kernel_rfl) (by simp) (Hn.readyRun (i := 16) rfl (by kernel_rfl) (some 62) (by kernel_rfl) (v := .slice (some ⟨Wc.heap.size, 0, none⟩) 1 1) (w' := Wc.alloc (.cells #[.string ys, .int .i64 yr, .slice ra1 F1.length rc1] 113)) (St.exec_oneN rfl (by kernel_rfl)) (st.below (below_alloc1 _ _)) (fun hHeld => ?_) AllReadyH.nil)
                      simp only [Act.put, List.setIfInBounds_toArray, List.set_cons_zero, List.set_cons_succ]
                      obtain ⟨Wd, hWd⟩ : ∃ Wd, Wd = Wc.alloc (.cells #[.string ys, .int .i64 yr, .slice ra1 F1.length rc1] 113) := ⟨_, rfl⟩
                      rw [← hWd] at hHeld ⊢
                      have hT : Wd.heap[Wc.heap.size]? = some (.cells #[.string ys, .int .i64 yr, .slice ra1 F1.length rc1] 113 (0, 0)) := by subst hWd; exact at_new rfl
                      have hb : Below Wc.heap.size Wc Wd := by subst hWd; exact below_alloc1 _ _
                      have sD := hb.size
                      replace st := st.below hb
                      replace kO0 := (hb.block _ (blk_lt kO0)).trans kO0
                      replace B2 := Rw.next B2 hb
                      have hr2 := hr.below hb
                      have hbd := Rw.next hbc hb
                      clear hb hWd
                      obtain ⟨v', Z, hrun, hosZ, hgr⟩ := hos0.app (x := ⟨ys, yr, ra1, rg1, 0, rc1, F1⟩) (c := 1) 36 hbd hr2 sD rfl hnm (by omega) hT hFl
                      refine wpAnyH_ready (rs := [17]) (by kernel_rfl) (by simp) (Hn.readyRun (i := 17) rfl (by kernel_rfl) (some 63) (by kernel_rfl) (Hn.exec_app (.tmp 47) (.tmp 62) rfl (by kernel_rfl) (by kernel_rfl) hrun) (st.grown hgr) (fun hHeld => ?_) AllReadyH.nil)
                      simp only [Act.put, List.setIfInBounds_toArray, List.set_cons_zero, List.set_cons_succ]
                      replace st := st.grown hgr
                      obtain ⟨va, vn, vc, hv⟩ := hosZ.slice
                      subst hv
                      have kOZ := (hgr.block _ (blk_lt kO0) (fun e => by have := (hos0.lt e.symm).1; omega)).trans kO0
                      replace B2 := B2.grown hgr B2.size (fun k hk => by have := (hos0.lt hk).1; omega)
                      have o0 := Pl.one kOZ
                      have fO := Vl.free kOZ
                      refine Hn.take (i := 18) (d := some 64) (v := .pointer (some ⟨w.heap.size + 1 + 1 + 1, 0, none⟩)) rfl (by kernel_rfl) (by kernel_rfl) (by kernel_rfl) (by kernel_rfl) (fun _ _ _ h => h) (Or.inl ⟨by rfl, by intro w hSw; go_simp⟩) hHeld ?_
                      simp only [Act.put, List.setIfInBounds_toArray, List.set_cons_zero, List.set_cons_succ]
                      refine wpAnyH_ready (rs := [19]) (by kernel_rfl) (by simp) (Hn.readySkip (i := 19) rfl (by kernel_rfl) none (by kernel_rfl) (w' := Z.setCell ⟨w.heap.size + 1 + 1 + 1, 0, none⟩ (.slice va vn vc)) (by go_simp) st.set (fun hHeld => ?_) AllReadyH.nil)
                      simp only [Act.put, List.setIfInBounds_toArray, List.set_cons_zero, List.set_cons_succ]
                      refine wpAnyH_done (by kernel_rfl) ?_ _
                      have kO' : (Z.setCell ⟨w.heap.size + 1 + 1 + 1, 0, none⟩ (.slice va vn vc)).heap[w.heap.size + 1 + 1 + 1]? = some (.cells #[(.slice va vn vc)] 38 (0, 0)) := Sw.one_set kOZ
                      have B1' : Below w.heap.size w (Z.setCell ⟨w.heap.size + 1 + 1 + 1, 0, none⟩ (.slice va vn vc)) := Vl.bset B2 hwo
                      have hos' : St.OS (Z.setCell ⟨w.heap.size + 1 + 1 + 1, 0, none⟩ (.slice va vn vc)) B (.slice va vn vc) (F ++ [⟨ys, yr, ra1, rg1, 0, rc1, F1⟩]) := hosZ.keep (fun x _ hx => Below.heap_setCell _ _ _ _ (by simp; omega)) (by simp)
                      replace st : Rl.Stab Wn (w.heap.size + 1 + 1 + 1) v (Z.setCell ⟨w.heap.size + 1 + 1 + 1, 0, none⟩ (.slice va vn vc)) := st.set
                      have k3n := (st.block _ (blk_lt k3) (by omega) (fun e => by have := (hos.lt e.symm).1; omega)).trans k3
                      have k5n := (st.block _ (blk_lt k5) (by omega) (fun e => by have := (hos.lt e.symm).1; omega)).trans k5
                      have k6n := (st.block _ (blk_lt k6) (by omega) (fun e => by have := (hos.lt e.symm).1; omega)).trans k6
                      have hBn : B ≤ (Z.setCell ⟨w.heap.size + 1 + 1 + 1, 0, none⟩ (.slice va vn vc)).heap.size := by have := st.size; simp at this ⊢; omega
                      obtain ⟨Wn, hWn⟩ : ∃ Wn, Wn = Z.setCell ⟨w.heap.size + 1 + 1 + 1, 0, none⟩ (.slice va vn vc) := ⟨_, rfl⟩
                      rw [← hWn] at kO' B1' hos' k3n k5n k6n hBn ⊢
                      have HF2 : Hid (told (F ++ [⟨ys, yr, ra1, rg1, 0, rc1, F1⟩]) = told F ++ [(ys, yr, said yQ)]) := by rw [Hid, told_snoc]; simp only [Nm.l]; rw [hl]
                      have HL2 : Hid ((F ++ [(⟨ys, yr, ra1, rg1, 0, rc1, F1⟩ : Nm)]).length = F.length + 1) := by rw [Hid]; simp
                      generalize F ++ [(⟨ys, yr, ra1, rg1, 0, rc1, F1⟩ : Nm)] = F2 at hos' HF2 HL2
                      generalize Value.slice va vn vc = v2 at kO' hos' hWn
                      clear hWn st hos0 kO0 ok0 B2 hos kO B1 k3 k5 k6 hBs hHeld
                      have kO := kO'
                      have B1 := B1'
                      have hos := hos'
                      have k3 := k3n
                      have k5 := k5n
                      have k6 := k6n
                      have hBs := hBn
                      clear kO' B1' hos' k3n k5n k6n hBn
                      go_wp2
                      go_roundw
                      case rel => exact ⟨k + 1, _, _, _, by omega, by go_num, rfl, B1, k3, k5, k6, kO, hos, hBs, (by rw [HF2.out, HF1e.out, HF1.out]; exact HS1.out.1), HS1.out.2, (by have := HL2.out; have := HL1.out; have := HL1e.out; omega)⟩
                      case measure => simp [intOf]; omega
                    · simp only [Act.put, List.setIfInBounds_toArray, List.set_cons_zero, List.set_cons_succ]
                      obtain ⟨Wd, hWd⟩ : ∃ Wd, Wd = Wc.alloc (.cells #[.string ys, .int .i64 yr, .slice ra1 F1.length rc1] 113) := ⟨_, rfl⟩
                      rw [← hWd] at hHeld ⊢
                      have hT : Wd.heap[Wc.heap.size]? = some (.cells #[.string ys, .int .i64 yr, .slice ra1 F1.length rc1] 113 (0, 0)) := by subst hWd; exact at_new rfl
                      have hb : Below Wc.heap.size Wc Wd := by subst hWd; exact below_alloc1 _ _
                      have sD := hb.size
                      replace st := st.below hb
                      replace kO0 := (hb.block _ (blk_lt kO0)).trans kO0
                      replace B2 := Rw.next B2 hb
                      have hr2 := hr.below hb
                      have hbd := Rw.next hbc hb
                      clear hb hWd
                      refine wpAnyH_ready (rs := [1]) (by kernel_rfl) (by simp) (Hn.readyRun (i := 1) rfl (by kernel_rfl) (some 47) (by kernel_rfl) (v := v) (w' := Wd) (by have o0 := Pl.one kO0; go_simp) st (fun hHeld => ?_) AllReadyH.nil)
                      simp only [Act.put, List.setIfInBounds_toArray, List.set_cons_zero, List.set_cons_succ]
                      obtain ⟨v', Z, hrun, hosZ, hgr⟩ := hos0.app (x := ⟨ys, yr, ra1, rg1, 0, rc1, F1⟩) (c := 1) 36 hbd hr2 sD rfl hnm (by omega) hT hFl
                      refine wpAnyH_ready (rs := [17]) (by kernel_rfl) (by simp) (Hn.readyRun (i := 17) rfl (by kernel_rfl) (some 63) (by kernel_rfl) (Hn.exec_app (.tmp 47) (.tmp 62) rfl (by kernel_rfl) (by kernel_rfl) hrun) (st.grown hgr) (fun hHeld => ?_) AllReadyH.nil)
                      simp only [Act.put, List.setIfInBounds_toArray, List.set_cons_zero, List.set_cons_succ]
                      replace st := st.grown hgr
                      obtain ⟨va, vn, vc, hv⟩ := hosZ.slice
                      subst hv
                      have kOZ := (hgr.block _ (blk_lt kO0) (fun e => by have := (hos0.lt e.symm).1; omega)).trans kO0
                      replace B2 := B2.grown hgr B2.size (fun k hk => by have := (hos0.lt hk).1; omega)
                      have o0 := Pl.one kOZ
                      have fO := Vl.free kOZ
                      refine Hn.take (i := 18) (d := some 64) (v := .pointer (some ⟨w.heap.size + 1 + 1 + 1, 0, none⟩)) rfl (by kernel_rfl) (by kernel_rfl) (by kernel_rfl) (by kernel_rfl) (fun _ _ _ h => h) (Or.inl ⟨by rfl, by intro w hSw; go_simp⟩) hHeld ?_
                      simp only [Act.put, List.setIfInBounds_toArray, List.set_cons_zero, List.set_cons_succ]
                      refine wpAnyH_ready (rs := [19]) (by kernel_rfl) (by simp) (Hn.readySkip (i := 19) rfl (by kernel_rfl) none (by kernel_rfl) (w' := Z.setCell ⟨w.heap.size + 1 + 1 + 1, 0, none⟩ (.slice va vn vc)) (by go_simp) st.set (fun hHeld => ?_) AllReadyH.nil)
                      simp only [Act.put, List.setIfInBounds_toArray, List.set_cons_zero, List.set_cons_succ]
                      refine wpAnyH_done (by kernel_rfl) ?_ _
                      have kO' : (Z.setCell ⟨w.heap.size + 1 + 1 + 1, 0, none⟩ (.slice va vn vc)).heap[w.heap.size + 1 + 1 + 1]? = some (.cells #[(.slice va vn vc)] 38 (0, 0)) := Sw.one_set kOZ
                      have B1' : Below w.heap.size w (Z.setCell ⟨w.heap.size + 1 + 1 + 1, 0, none⟩ (.slice va vn vc)) := Vl.bset B2 hwo
                      have hos' : St.OS (Z.setCell ⟨w.heap.size + 1 + 1 + 1, 0, none⟩ (.slice va vn vc)) B (.slice va vn vc) (F ++ [⟨ys, yr, ra1, rg1, 0, rc1, F1⟩]) := hosZ.keep (fun x _ hx => Below.heap_setCell _ _ _ _ (by simp; omega)) (by simp)
                      replace st : Rl.Stab Wn (w.heap.size + 1 + 1 + 1) v (Z.setCell ⟨w.heap.size + 1 + 1 + 1, 0, none⟩ (.slice va vn vc)) := st.set
                      have k3n := (st.block _ (blk_lt k3) (by omega) (fun e => by have := (hos.lt e.symm).1; omega)).trans k3
                      have k5n := (st.block _ (blk_lt k5) (by omega) (fun e => by have := (hos.lt e.symm).1; omega)).trans k5
                      have k6n := (st.block _ (blk_lt k6) (by omega) (fun e => by have := (hos.lt e.symm).1; omega)).trans k6
                      have hBn : B ≤ (Z.setCell ⟨w.heap.size + 1 + 1 + 1, 0, none⟩ (.slice va vn vc)).heap.size := by have := st.size; simp at this ⊢; omega
                      obtain ⟨Wn, hWn⟩ : ∃ Wn, Wn = Z.setCell ⟨w.heap.size + 1 + 1 + 1, 0, none⟩ (.slice va vn vc) := ⟨_, rfl⟩
                      rw [← hWn] at kO' B1' hos' k3n k5n k6n hBn ⊢
                      have HF2 : Hid (told (F ++ [⟨ys, yr, ra1, rg1, 0, rc1, F1⟩]) = told F ++ [(ys, yr, said yQ)]) := by rw [Hid, told_snoc]; simp only [Nm.l]; rw [hl]
                      have HL2 : Hid ((F ++ [(⟨ys, yr, ra1, rg1, 0, rc1, F1⟩ : Nm)]).length = F.length + 1) := by rw [Hid]; simp
                      generalize F ++ [(⟨ys, yr, ra1, rg1, 0, rc1, F1⟩ : Nm)] = F2 at hos' HF2 HL2
                      generalize Value.slice va vn vc = v2 at kO' hos' hWn
                      clear hWn st hos0 kO0 ok0 B2 hos kO B1 k3 k5 k6 hBs hHeld
                      have kO := kO'
                      have B1 := B1'
                      have hos := hos'
                      have k3 := k3n
                      have k5 := k5n
                      have k6 := k6n
                      have hBs := hBn
                      clear kO' B1' hos' k3n k5n k6n hBn
                      go_wp2
                      go_roundw
                      case rel => exact ⟨k + 1, _, _, _, by omega, by go_num, rfl, B1, k3, k5, k6, kO, hos, hBs, (by rw [HF2.out, HF1e.out, HF1.out]; exact HS1.out.1), HS1.out.2, (by have := HL2.out; have := HL1.out; have := HL1e.out; omega)⟩
                      case measure => simp [intOf]; omega
                · simp only [Act.put, List.setIfInBounds_toArray, List.set_cons_zero, List.set_cons_succ]
                  obtain ⟨Wd, hWd⟩ : ∃ Wd, Wd = Wc.alloc (.cells #[.string s, .int .i64 ar, .slice ra1 F1.length rc1] 113) := ⟨_, rfl⟩
                  rw [← hWd] at hHeld ⊢
                  have hT : Wd.heap[Wc.heap.size]? = some (.cells #[.string s, .int .i64 ar, .slice ra1 F1.length rc1] 113 (0, 0)) := by subst hWd; exact at_new rfl
                  have hb : Below Wc.heap.size Wc Wd := by subst hWd; exact below_alloc1 _ _
                  have sD := hb.size
                  replace st := st.below hb
                  replace kO0 := (hb.block _ (blk_lt kO0)).trans kO0
                  replace B2 := Rw.next B2 hb
                  have hr2 := hr.below hb
                  have hbd := Rw.next hbc hb
                  clear hb hWd
                  refine wpAnyH_ready (rs := [1]) (by kernel_rfl) (by simp) (Hn.readyRun (i := 1) rfl (by kernel_rfl) (some 30) (by kernel_rfl) (v := v) (w' := Wd) (by have o0 := Pl.one kO0; go_simp) st (fun hHeld => ?_) AllReadyH.nil)
                  simp only [Act.put, List.setIfInBounds_toArray, List.set_cons_zero, List.set_cons_succ]
                  obtain ⟨v', Z, hrun, hosZ, hgr⟩ := hos0.app (x := ⟨s, ar, ra1, rg1, 0, rc1, F1⟩) (c := 1) 36 hbd hr2 sD rfl hnm (by omega) hT hFl
                  refine wpAnyH_ready (rs := [7]) (by kernel_rfl) (by simp) (Hn.readyRun (i := 7) rfl (by kernel_rfl) (some 36) (by kernel_rfl) (Hn.exec_app (.tmp 30) (.tmp 35) rfl (by kernel_rfl) (by kernel_rfl) hrun) (st.grown hgr) (fun hHeld => ?_) AllReadyH.nil)
                  simp only [Act.put, List.setIfInBounds_toArray, List.set_cons_zero, List.set_cons_succ]
                  replace st := st.grown hgr
                  obtain ⟨va, vn, vc, hv⟩ := hosZ.slice
                  subst hv
                  have kOZ := (hgr.block _ (blk_lt kO0) (fun e => by have := (hos0.lt e.symm).1; omega)).trans kO0
                  replace B2 := B2.grown hgr B2.size (fun k hk => by have := (hos0.lt hk).1; omega)
                  have o0 := Pl.one kOZ
                  have fO := Vl.free kOZ
                  refine Hn.take (i := 8) (d := some 37) (v := .pointer (some ⟨w.heap.size + 1 + 1 + 1, 0, none⟩)) rfl (by kernel_rfl) (by kernel_rfl) (by kernel_rfl) (by kernel_rfl) (fun _ _ _ h => h) (Or.inl ⟨by rfl, by intro w hSw; go_simp⟩) hHeld ?_
                  simp only [Act.put, List.setIfInBounds_toArray, List.set_cons_zero, List.set_cons_succ]
                  refine wpAnyH_ready (rs := [9]) (by kernel_rfl) (by simp) (Hn.readySkip (i := 9) rfl (by kernel_rfl) none (by kernel_rfl) (w' := Z.setCell ⟨w.heap.size + 1 + 1 + 1, 0, none⟩ (.slice va vn vc)) (by go_simp) st.set (fun hHeld => ?_) AllReadyH.nil)
                  simp only [Act.put, List.setIfInBounds_toArray, List.set_cons_zero, List.set_cons_succ]
                  refine wpAnyH_done (by kernel_rfl) ?_ _
                  have kO' : (Z.setCell ⟨w.heap.size + 1 + 1 + 1, 0, none⟩ (.slice va vn vc)).heap[w.heap.size + 1 + 1 + 1]? = some (.cells #[(.slice va vn vc)] 38 (0, 0)) := Sw.one_set kOZ
                  have B1' : Below w.heap.size w (Z.setCell ⟨w.heap.size + 1 + 1 + 1, 0, none⟩ (.slice va vn vc)) := Vl.bset B2 hwo
                  have hos' : St.OS (Z.setCell ⟨w.heap.size + 1 + 1 + 1, 0, none⟩ (.slice va vn vc)) B (.slice va vn vc) (F ++ [⟨s, ar, ra1, rg1, 0, rc1, F1⟩]) := hosZ.keep (fun x _ hx => Below.heap_setCell _ _ _ _ (by simp; omega)) (by simp)
                  replace st : Rl.Stab wr (w.heap.size + 1 + 1 + 1) v (Z.setCell ⟨w.heap.size + 1 + 1 + 1, 0, none⟩ (.slice va vn vc)) := st.set
                  have k3n := (st.block _ (blk_lt k3) (by omega) (fun e => by have := (hos.lt e.symm).1; omega)).trans k3
                  have k5n := (st.block _ (blk_lt k5) (by omega) (fun e => by have := (hos.lt e.symm).1; omega)).trans k5
                  have k6n := (st.block _ (blk_lt k6) (by omega) (fun e => by have := (hos.lt e.symm).1; omega)).trans k6
                  have hBn : B ≤ (Z.setCell ⟨w.heap.size + 1 + 1 + 1, 0, none⟩ (.slice va vn vc)).heap.size := by have := st.size; simp at this ⊢; omega
                  obtain ⟨Wn, hWn⟩ : ∃ Wn, Wn = Z.setCell ⟨w.heap.size + 1 + 1 + 1, 0, none⟩ (.slice va vn vc) := ⟨_, rfl⟩
                  rw [← hWn] at kO' B1' hos' k3n k5n k6n hBn ⊢
                  have HF : Hid (told (F ++ [⟨s, ar, ra1, rg1, 0, rc1, F1⟩]) = told F ++ [(s, ar, said Q)]) := by rw [Hid, told_snoc]; simp only [Nm.l]; rw [hl]
                  have HLn : Hid ((F ++ [(⟨s, ar, ra1, rg1, 0, rc1, F1⟩ : Nm)]).length = F.length + 1) := by rw [Hid]; simp
                  generalize F ++ [(⟨s, ar, ra1, rg1, 0, rc1, F1⟩ : Nm)] = F2 at hos' HF HLn
                  generalize Value.slice va vn vc = v2 at kO' hos' hWn
                  clear hWn st hos0 kO0 ok0 B2 hos kO B1 k3 k5 k6 hBs hHeld
                  have kO := kO'
                  have B1 := B1'
                  have hos := hos'
                  have k3 := k3n
                  have k5 := k5n
                  have k6 := k6n
                  have hBs := hBn
                  clear kO' B1' hos' k3n k5n k6n hBn
                  have HF1 := HF
                  have HL1 := HLn
                  clear HF HLn hSt ok h4 hnm hF1of hl hr hot1 hF1
                  have hFl2 : F2.length ≤ 100000 := by have := HL1.out; omega
                  clear hFl
                  have hFl := hFl2
                  clear hFl2
                  obtain ⟨F, hFe⟩ : ∃ F, F = F2 := ⟨_, rfl⟩
                  rw [← hFe] at hos hFl
                  obtain ⟨v, hve⟩ : ∃ v, v = v2 := ⟨_, rfl⟩
                  rw [← hve] at hos kO
                  have HF1e : Hid (told F = told F2) := congrArg told hFe
                  have HL1e : Hid (F.length = F2.length) := congrArg List.length hFe
                  clear hFe hve c0 c1 c2 p3
                  obtain ⟨c0, c1, c2⟩ := St.At3.of HC.out B1 lb
                  have p3 := Pl.one k3
                  go_wp2
                  have hSt : ∀ w', Rl.Stab Wn (w.heap.size + 1 + 1 + 1) v w' → w'.cell? ⟨w.heap.size, 0, none⟩ = some (.slice (some ⟨b, off, none⟩) n cap) ∧ w'.cell? ⟨b, off + k * 3, none⟩ = some (.string ys) ∧ w'.cell? ⟨b, off + k * 3 + 1, none⟩ = some (.int .i64 yr) ∧ w'.cell? ⟨b, off + k * 3 + 2, none⟩ = some (.slice ya yQ.length yc) := fun w' st => by
                    have hkb := st.block b (Nat.lt_of_lt_of_le lb B1.size) (by omega) (fun e => by have := (hos.lt e.symm).1; omega)
                    have hcc := St.At3.of HC.out B1 lb
                    have e3 := (st.block _ (blk_lt k3) (by omega) (fun e => by have := (hos.lt e.symm).1; omega)).trans k3
                    exact ⟨Pl.one e3, (World.cell?_of_block hkb).trans hcc.1, (World.cell?_of_block hkb).trans hcc.2.1, (World.cell?_of_block hkb).trans hcc.2.2⟩
                  have ok : Rl.Rd Wn ya yb yo yQ := HY.out.below B1
                  have hnm := hys
                  have h4 := h4y
                  have hF1of : ∀ F1 : List Rm, said F1 = said yQ → F1.length ≤ 4194304 := fun F1 h => by rw [← Rl.said_len, h, Rl.said_len]; omega
                  refine wp_region_held_drew (S := Rl.Stab Wn (w.heap.size + 1 + 1 + 1) v) (by kernel_rfl) (Rl.Stab.refl _ _ _) (fun hHeld => ?_)
                  refine Hn.take (i := 0) (d := some 46) (v := .pointer (some ⟨w.heap.size + 1 + 1 + 1, 0, none⟩)) rfl (by kernel_rfl) (by kernel_rfl) (by kernel_rfl) (by kernel_rfl) (fun _ _ _ h => h) (Or.inl ⟨by rfl, by intro w hSw; go_simp⟩) hHeld ?_
                  simp only [Act.put, List.setIfInBounds_toArray, List.set_cons_zero, List.set_cons_succ]
                  refine Hn.take (i := 2) (d := some 48) (v := .pointer (some ⟨w.heap.size, 0, none⟩)) rfl (by kernel_rfl) (by kernel_rfl) (by kernel_rfl) (by kernel_rfl) (fun _ _ _ h => h) (Or.inl ⟨by rfl, by intro w hSw; go_simp⟩) hHeld ?_
                  simp only [Act.put, List.setIfInBounds_toArray, List.set_cons_zero, List.set_cons_succ]
                  refine Hn.take (i := 3) (d := some 49) (v := .slice (some ⟨b, off, none⟩) n cap) rfl (by kernel_rfl) (by kernel_rfl) (by kernel_rfl) (by kernel_rfl) (fun _ _ _ h => h) (Or.inl ⟨by rfl, by intro w hSw; obtain ⟨q0, q1, q2, q3⟩ := hSt w hSw; go_simp⟩) hHeld ?_
                  simp only [Act.put, List.setIfInBounds_toArray, List.set_cons_zero, List.set_cons_succ]
                  refine Hn.take (i := 4) (d := some 50) (v := .int .i64 k) rfl (by kernel_rfl) (by kernel_rfl) (by kernel_rfl) (by kernel_rfl) (fun _ _ _ h => h) (Or.inl ⟨by rfl, by intro w hSw; go_simp⟩) hHeld ?_
                  simp only [Act.put, List.setIfInBounds_toArray, List.set_cons_zero, List.set_cons_succ]
                  refine Hn.take (i := 5) (d := some 51) (v := .pointer (some ⟨b, off + k * 3, none⟩)) rfl (by kernel_rfl) (by kernel_rfl) (by kernel_rfl) (by kernel_rfl) (fun _ _ _ h => h) (Or.inl ⟨by rfl, by intro w hSw; go_simp⟩) hHeld ?_
                  simp only [Act.put, List.setIfInBounds_toArray, List.set_cons_zero, List.set_cons_succ]
                  refine Hn.take (i := 6) (d := some 52) (v := .pointer (some ⟨b, off + k * 3, none⟩)) rfl (by kernel_rfl) (by kernel_rfl) (by kernel_rfl) (by kernel_rfl) (fun _ _ _ h => h) (Or.inl ⟨by rfl, by intro w hSw; go_simp⟩) hHeld ?_
                  simp only [Act.put, List.setIfInBounds_toArray, List.set_cons_zero, List.set_cons_succ]
                  refine Hn.take (i := 7) (d := some 53) (v := .string ys) rfl (by kernel_rfl) (by kernel_rfl) (by kernel_rfl) (by kernel_rfl) (fun _ _ _ h => h) (Or.inl ⟨by rfl, by intro w hSw; obtain ⟨q0, q1, q2, q3⟩ := hSt w hSw; go_simp⟩) hHeld ?_
                  simp only [Act.put, List.setIfInBounds_toArray, List.set_cons_zero, List.set_cons_succ]
                  refine Hn.take (i := 8) (d := some 54) (v := .pointer (some ⟨w.heap.size, 0, none⟩)) rfl (by kernel_rfl) (by kernel_rfl) (by kernel_rfl) (by kernel_rfl) (fun _ _ _ h => h) (Or.inl ⟨by rfl, by intro w hSw; go_simp⟩) hHeld ?_
                  simp only [Act.put, List.setIfInBounds_toArray, List.set_cons_zero, List.set_cons_succ]
                  refine Hn.take (i := 9) (d := some 55) (v := .slice (some ⟨b, off, none⟩) n cap) rfl (by kernel_rfl) (by kernel_rfl) (by kernel_rfl) (by kernel_rfl) (fun _ _ _ h => h) (Or.inl ⟨by rfl, by intro w hSw; obtain ⟨q0, q1, q2, q3⟩ := hSt w hSw; go_simp⟩) hHeld ?_
                  simp only [Act.put, List.setIfInBounds_toArray, List.set_cons_zero, List.set_cons_succ]
                  refine Hn.take (i := 10) (d := some 56) (v := .int .i64 k) rfl (by kernel_rfl) (by kernel_rfl) (by kernel_rfl) (by kernel_rfl) (fun _ _ _ h => h) (Or.inl ⟨by rfl, by intro w hSw; go_simp⟩) hHeld ?_
                  simp only [Act.put, List.setIfInBounds_toArray, List.set_cons_zero, List.set_cons_succ]
                  refine Hn.take (i := 11) (d := some 57) (v := .pointer (some ⟨b, off + k * 3, none⟩)) rfl (by kernel_rfl) (by kernel_rfl) (by kernel_rfl) (by kernel_rfl) (fun _ _ _ h => h) (Or.inl ⟨by rfl, by intro w hSw; go_simp⟩) hHeld ?_
                  simp only [Act.put, List.setIfInBounds_toArray, List.set_cons_zero, List.set_cons_succ]
                  refine Hn.take (i := 12) (d := some 58) (v := .pointer (some ⟨b, off + k * 3 + 1, none⟩)) rfl (by kernel_rfl) (by kernel_rfl) (by kernel_rfl) (by kernel_rfl) (fun _ _ _ h => h) (Or.inl ⟨by rfl, by intro w hSw; go_simp⟩) hHeld ?_
                  simp only [Act.put, List.setIfInBounds_toArray, List.set_cons_zero, List.set_cons_succ]
                  refine Hn.take (i := 13) (d := some 59) (v := .agg #[.int .i64 yr, .slice ya yQ.length yc]) rfl (by kernel_rfl) (by kernel_rfl) (by kernel_rfl) (by kernel_rfl) (fun _ _ _ h => h) (Or.inl ⟨by rfl, by intro w hSw; obtain ⟨q0, q1, q2, q3⟩ := hSt w hSw; go_simp⟩) hHeld ?_
                  simp only [Act.put, List.setIfInBounds_toArray, List.set_cons_zero, List.set_cons_succ]
                  have st : Rl.Stab Wn (w.heap.size + 1 + 1 + 1) v (Wn).drew := Rl.Stab.refl _ _ _
                  have hos0 : St.OS (Wn).drew B v F := hos.below ((Below.refl _ _).drew)
                  have kO0 : (Wn).drew.heap[w.heap.size + 1 + 1 + 1]? = some (.cells #[v] 38 (0, 0)) := kO
                  have ok0 := Rl.Rd.below ok ((Below.refl (Wn).heap.size (Wn)).drew)
                  have B2 := Rw.next B1 ((Below.refl (Wn).heap.size (Wn)).drew)
                  have sW : (Wn).drew.heap.size = (Wn).heap.size := rfl
                  generalize (Wn).drew = W at *
                  refine wpAnyH_ready (rs := [1, 14]) (by kernel_rfl) (by simp) (Hn.readyRun (i := 1) rfl (by kernel_rfl) (some 47) (by kernel_rfl) (v := v) (w' := W) (by have o0 := Pl.one kO0; go_simp) st (fun hHeld => ?_) (Hn.call1 (i := 14) rfl (by rfl) 95 (.tmp 59) 69 (by kernel_rfl) 60 (by kernel_rfl) (.agg #[.int .i64 yr, .slice ya yQ.length yc]) (by kernel_rfl) (fun _ => rfl) (Rl.lcopy_any yr ya yb yo yc yQ _ ok0 h4) ?_ AllReadyH.nil))
                  · simp only [Act.put, List.setIfInBounds_toArray, List.set_cons_zero, List.set_cons_succ]
                    refine wpAnyH_ready (rs := [14]) (by kernel_rfl) (by simp) (Hn.call1 (i := 14) rfl (by rfl) 95 (.tmp 59) 69 (by kernel_rfl) 60 (by kernel_rfl) (.agg #[.int .i64 yr, .slice ya yQ.length yc]) (by kernel_rfl) (fun _ => rfl) (Rl.lcopy_any yr ya yb yo yc yQ _ ok0 h4) ?_ AllReadyH.nil)
                    rintro e1 Wc ⟨v1, F1, rfl, hot1, hl, hb⟩
                    have hF1 := hF1of F1 hl
                    obtain ⟨ra1, rg1, rc1, rfl, hr⟩ := hot1.form hF1
                    replace st := st.below hb
                    replace kO0 := (hb.block _ (blk_lt kO0)).trans kO0
                    have hbc := hb
                    replace B2 := Rw.next B2 hb
                    have sC := hb.size
                    refine ⟨_, rfl, st, fun hHeld => ?_⟩
                    simp only [Act.put, List.setIfInBounds_toArray, List.set_cons_zero, List.set_cons_succ]
                    refine Hn.take (i := 15) (d := some 61) (v := .agg #[.string ys, .int .i64 yr, .slice ra1 F1.length rc1]) rfl (by kernel_rfl) (by kernel_rfl) (by kernel_rfl) (by kernel_rfl) (fun _ _ _ h => h) (Or.inl ⟨by rfl, by intro w hSw; go_simp⟩) hHeld ?_
                    simp only [Act.put, List.setIfInBounds_toArray, List.set_cons_zero, List.set_cons_succ]
                    refine wpAnyH_ready (rs := [16]) (by kernel_rfl) (by simp) (Hn.readyRun (i := 16) rfl (by kernel_rfl) (some 62) (by kernel_rfl) (v := .slice (some ⟨Wc.heap.size, 0, none⟩) 1 1) (w' := Wc.alloc (.cells #[.string ys, .int .i64 yr, .slice ra1 F1.length rc1] 113)) (St.exec_oneN rfl (by kernel_rfl)) (st.below (below_alloc1 _ _)) (fun hHeld => ?_) AllReadyH.nil)
                    simp only [Act.put, List.setIfInBounds_toArray, List.set_cons_zero, List.set_cons_succ]
                    obtain ⟨Wd, hWd⟩ : ∃ Wd, Wd = Wc.alloc (.cells #[.string ys, .int .i64 yr, .slice ra1 F1.length rc1] 113) := ⟨_, rfl⟩
                    rw [← hWd] at hHeld ⊢
                    have hT : Wd.heap[Wc.heap.size]? = some (.cells #[.string ys, .int .i64 yr, .slice ra1 F1.length rc1] 113 (0, 0)) := by subst hWd; exact at_new rfl
                    have hb : Below Wc.heap.size Wc Wd := by subst hWd; exact below_alloc1 _ _
                    have sD := hb.size
                    replace st := st.below hb
                    replace kO0 := (hb.block _ (blk_lt kO0)).trans kO0
                    replace B2 := Rw.next B2 hb
                    have hr2 := hr.below hb
                    have hbd := Rw.next hbc hb
                    clear hb hWd
                    obtain ⟨v', Z, hrun, hosZ, hgr⟩ := hos0.app (x := ⟨ys, yr, ra1, rg1, 0, rc1, F1⟩) (c := 1) 36 hbd hr2 sD rfl hnm (by omega) hT hFl
                    refine wpAnyH_ready (rs := [17]) (by kernel_rfl) (by simp) (Hn.readyRun (i := 17) rfl (by kernel_rfl) (some 63) (by kernel_rfl) (Hn.exec_app (.tmp 47) (.tmp 62) rfl (by kernel_rfl) (by kernel_rfl) hrun) (st.grown hgr) (fun hHeld => ?_) AllReadyH.nil)
                    simp only [Act.put, List.setIfInBounds_toArray, List.set_cons_zero, List.set_cons_succ]
                    replace st := st.grown hgr
                    obtain ⟨va, vn, vc, hv⟩ := hosZ.slice
                    subst hv
                    have kOZ := (hgr.block _ (blk_lt kO0) (fun e => by have := (hos0.lt e.symm).1; omega)).trans kO0
                    replace B2 := B2.grown hgr B2.size (fun k hk => by have := (hos0.lt hk).1; omega)
                    have o0 := Pl.one kOZ
                    have fO := Vl.free kOZ
                    refine Hn.take (i := 18) (d := some 64) (v := .pointer (some ⟨w.heap.size + 1 + 1 + 1, 0, none⟩)) rfl (by kernel_rfl) (by kernel_rfl) (by kernel_rfl) (by kernel_rfl) (fun _ _ _ h => h) (Or.inl ⟨by rfl, by intro w hSw; go_simp⟩) hHeld ?_
                    simp only [Act.put, List.setIfInBounds_toArray, List.set_cons_zero, List.set_cons_succ]
                    refine wpAnyH_ready (rs := [19]) (by kernel_rfl) (by simp) (Hn.readySkip (i := 19) rfl (by kernel_rfl) none (by kernel_rfl) (w' := Z.setCell ⟨w.heap.size + 1 + 1 + 1, 0, none⟩ (.slice va vn vc)) (by go_simp) st.set (fun hHeld => ?_) AllReadyH.nil)
                    simp only [Act.put, List.setIfInBounds_toArray, List.set_cons_zero, List.set_cons_succ]
                    refine wpAnyH_done (by kernel_rfl) ?_ _
                    have kO' : (Z.setCell ⟨w.heap.size + 1 + 1 + 1, 0, none⟩ (.slice va vn vc)).heap[w.heap.size + 1 + 1 + 1]? = some (.cells #[(.slice va vn vc)] 38 (0, 0)) := Sw.one_set kOZ
                    have B1' : Below w.heap.size w (Z.setCell ⟨w.heap.size + 1 + 1 + 1, 0, none⟩ (.slice va vn vc)) := Vl.bset B2 hwo
                    have hos' : St.OS (Z.setCell ⟨w.heap.size + 1 + 1 + 1, 0, none⟩ (.slice va vn vc)) B (.slice va vn vc) (F ++ [⟨ys, yr, ra1, rg1, 0, rc1, F1⟩]) := hosZ.keep (fun x _ hx => Below.heap_setCell _ _ _ _ (by simp; omega)) (by simp)
                    replace st : Rl.Stab Wn (w.heap.size + 1 + 1 + 1) v (Z.setCell ⟨w.heap.size + 1 + 1 + 1, 0, none⟩ (.slice va vn vc)) := st.set
                    have k3n := (st.block _ (blk_lt k3) (by omega) (fun e => by have := (hos.lt e.symm).1; omega)).trans k3
                    have k5n := (st.block _ (blk_lt k5) (by omega) (fun e => by have := (hos.lt e.symm).1; omega)).trans k5
                    have k6n := (st.block _ (blk_lt k6) (by omega) (fun e => by have := (hos.lt e.symm).1; omega)).trans k6
                    have hBn : B ≤ (Z.setCell ⟨w.heap.size + 1 + 1 + 1, 0, none⟩ (.slice va vn vc)).heap.size := by have := st.size; simp at this ⊢; omega
                    obtain ⟨Wn, hWn⟩ : ∃ Wn, Wn = Z.setCell ⟨w.heap.size + 1 + 1 + 1, 0, none⟩ (.slice va vn vc) := ⟨_, rfl⟩
                    rw [← hWn] at kO' B1' hos' k3n k5n k6n hBn ⊢
                    have HF2 : Hid (told (F ++ [⟨ys, yr, ra1, rg1, 0, rc1, F1⟩]) = told F ++ [(ys, yr, said yQ)]) := by rw [Hid, told_snoc]; simp only [Nm.l]; rw [hl]
                    have HL2 : Hid ((F ++ [(⟨ys, yr, ra1, rg1, 0, rc1, F1⟩ : Nm)]).length = F.length + 1) := by rw [Hid]; simp
                    generalize F ++ [(⟨ys, yr, ra1, rg1, 0, rc1, F1⟩ : Nm)] = F2 at hos' HF2 HL2
                    generalize Value.slice va vn vc = v2 at kO' hos' hWn
                    clear hWn st hos0 kO0 ok0 B2 hos kO B1 k3 k5 k6 hBs hHeld
                    have kO := kO'
                    have B1 := B1'
                    have hos := hos'
                    have k3 := k3n
                    have k5 := k5n
                    have k6 := k6n
                    have hBs := hBn
                    clear kO' B1' hos' k3n k5n k6n hBn
                    go_wp2
                    go_roundw
                    case rel => exact ⟨k + 1, _, _, _, by omega, by go_num, rfl, B1, k3, k5, k6, kO, hos, hBs, (by rw [HF2.out, HF1e.out, HF1.out]; exact HS1.out.1), HS1.out.2, (by have := HL2.out; have := HL1.out; have := HL1e.out; omega)⟩
                    case measure => simp [intOf]; omega
                  · rintro e1 Wc ⟨v1, F1, rfl, hot1, hl, hb⟩
                    have hF1 := hF1of F1 hl
                    obtain ⟨ra1, rg1, rc1, rfl, hr⟩ := hot1.form hF1
                    replace st := st.below hb
                    replace kO0 := (hb.block _ (blk_lt kO0)).trans kO0
                    have hbc := hb
                    replace B2 := Rw.next B2 hb
                    have sC := hb.size
                    refine ⟨_, rfl, st, fun hHeld => ?_⟩
                    simp only [Act.put, List.setIfInBounds_toArray, List.set_cons_zero, List.set_cons_succ]
                    refine Hn.take (i := 15) (d := some 61) (v := .agg #[.string ys, .int .i64 yr, .slice ra1 F1.length rc1]) rfl (by kernel_rfl) (by kernel_rfl) (by kernel_rfl) (by kernel_rfl) (fun _ _ _ h => h) (Or.inl ⟨by rfl, by intro w hSw; go_simp⟩) hHeld ?_
                    simp only [Act.put, List.setIfInBounds_toArray, List.set_cons_zero, List.set_cons_succ]
                    refine wpAnyH_ready (rs := [1, 16]) (by kernel_rfl) (by simp) (Hn.readyRun (i := 1) rfl (by kernel_rfl) (some 47) (by kernel_rfl) (v := v) (w' := Wc) (by have o0 := Pl.one kO0; go_simp) st (fun hHeld => ?_) (Hn.readyRun (i := 16) rfl (by kernel_rfl) (some 62) (by kernel_rfl) (v := .slice (some ⟨Wc.heap.size, 0, none⟩) 1 1) (w' := Wc.alloc (.cells #[.string ys, .int .i64 yr, .slice ra1 F1.length rc1] 113)) (St.exec_oneN rfl (by kernel_rfl)) (st.below (below_alloc1 _ _)) (fun hHeld => ?_) AllReadyH.nil))
                    · simp only [Act.put, List.setIfInBounds_toArray, List.set_cons_zero, List.set_cons_succ]
                      refine wpAnyH_ready (rs := [16]) (by kernel_rfl) (by simp) (Hn.readyRun (i := 16) rfl (by kernel_rfl) (some 62) (by kernel_rfl) (v := .slice (some ⟨Wc.heap.size, 0, none⟩) 1 1) (w' := Wc.alloc (.cells #[.string ys, .int .i64 yr, .slice ra1 F1.length rc1] 113)) (St.exec_oneN rfl (by kernel_rfl)) (st.below (below_alloc1 _ _)) (fun hHeld => ?_) AllReadyH.nil)
                      simp only [Act.put, List.setIfInBounds_toArray, List.set_cons_zero, List.set_cons_succ]
                      obtain ⟨Wd, hWd⟩ : ∃ Wd, Wd = Wc.alloc (.cells #[.string ys, .int .i64 yr, .slice ra1 F1.length rc1] 113) := ⟨_, rfl⟩
                      rw [← hWd] at hHeld ⊢
                      have hT : Wd.heap[Wc.heap.size]? = some (.cells #[.string ys, .int .i64 yr, .slice ra1 F1.length rc1] 113 (0, 0)) := by subst hWd; exact at_new rfl
                      have hb : Below Wc.heap.size Wc Wd := by subst hWd; exact below_alloc1 _ _
                      have sD := hb.size
                      replace st := st.below hb
                      replace kO0 := (hb.block _ (blk_lt kO0)).trans kO0
                      replace B2 := Rw.next B2 hb
                      have hr2 := hr.below hb
                      have hbd := Rw.next hbc hb
                      clear hb hWd
                      obtain ⟨v', Z, hrun, hosZ, hgr⟩ := hos0.app (x := ⟨ys, yr, ra1, rg1, 0, rc1, F1⟩) (c := 1) 36 hbd hr2 sD rfl hnm (by omega) hT hFl
                      refine wpAnyH_ready (rs := [17]) (by kernel_rfl) (by simp) (Hn.readyRun (i := 17) rfl (by kernel_rfl) (some 63) (by kernel_rfl) (Hn.exec_app (.tmp 47) (.tmp 62) rfl (by kernel_rfl) (by kernel_rfl) hrun) (st.grown hgr) (fun hHeld => ?_) AllReadyH.nil)
                      simp only [Act.put, List.setIfInBounds_toArray, List.set_cons_zero, List.set_cons_succ]
                      replace st := st.grown hgr
                      obtain ⟨va, vn, vc, hv⟩ := hosZ.slice
                      subst hv
                      have kOZ := (hgr.block _ (blk_lt kO0) (fun e => by have := (hos0.lt e.symm).1; omega)).trans kO0
                      replace B2 := B2.grown hgr B2.size (fun k hk => by have := (hos0.lt hk).1; omega)
                      have o0 := Pl.one kOZ
                      have fO := Vl.free kOZ
                      refine Hn.take (i := 18) (d := some 64) (v := .pointer (some ⟨w.heap.size + 1 + 1 + 1, 0, none⟩)) rfl (by kernel_rfl) (by kernel_rfl) (by kernel_rfl) (by kernel_rfl) (fun _ _ _ h => h) (Or.inl ⟨by rfl, by intro w hSw; go_simp⟩) hHeld ?_
                      simp only [Act.put, List.setIfInBounds_toArray, List.set_cons_zero, List.set_cons_succ]
                      refine wpAnyH_ready (rs := [19]) (by kernel_rfl) (by simp) (Hn.readySkip (i := 19) rfl (by kernel_rfl) none (by kernel_rfl) (w' := Z.setCell ⟨w.heap.size + 1 + 1 + 1, 0, none⟩ (.slice va vn vc)) (by go_simp) st.set (fun hHeld => ?_) AllReadyH.nil)
                      simp only [Act.put, List.setIfInBounds_toArray, List.set_cons_zero, List.set_cons_succ]
                      refine wpAnyH_done (by kernel_rfl) ?_ _
                      have kO' : (Z.setCell ⟨w.heap.size + 1 + 1 + 1, 0, none⟩ (.slice va vn vc)).heap[w.heap.size + 1 + 1 + 1]? = some (.cells #[(.slice va vn vc)] 38 (0, 0)) := Sw.one_set kOZ
                      have B1' : Below w.heap.size w (Z.setCell ⟨w.heap.size + 1 + 1 + 1, 0, none⟩ (.slice va vn vc)) := Vl.bset B2 hwo
                      have hos' : St.OS (Z.setCell ⟨w.heap.size + 1 + 1 + 1, 0, none⟩ (.slice va vn vc)) B (.slice va vn vc) (F ++ [⟨ys, yr, ra1, rg1, 0, rc1, F1⟩]) := hosZ.keep (fun x _ hx => Below.heap_setCell _ _ _ _ (by simp; omega)) (by simp)
                      replace st : Rl.Stab Wn (w.heap.size + 1 + 1 + 1) v (Z.setCell ⟨w.heap.size + 1 + 1 + 1, 0, none⟩ (.slice va vn vc)) := st.set
                      have k3n := (st.block _ (blk_lt k3) (by omega) (fun e => by have := (hos.lt e.symm).1; omega)).trans k3
                      have k5n := (st.block _ (blk_lt k5) (by omega) (fun e => by have := (hos.lt e.symm).1; omega)).trans k5
                      have k6n := (st.block _ (blk_lt k6) (by omega) (fun e => by have := (hos.lt e.symm).1; omega)).trans k6
                      have hBn : B ≤ (Z.setCell ⟨w.heap.size + 1 + 1 + 1, 0, none⟩ (.slice va vn vc)).heap.size := by have := st.size; simp at this ⊢; omega
                      obtain ⟨Wn, hWn⟩ : ∃ Wn, Wn = Z.setCell ⟨w.heap.size + 1 + 1 + 1, 0, none⟩ (.slice va vn vc) := ⟨_, rfl⟩
                      rw [← hWn] at kO' B1' hos' k3n k5n k6n hBn ⊢
                      have HF2 : Hid (told (F ++ [⟨ys, yr, ra1, rg1, 0, rc1, F1⟩]) = told F ++ [(ys, yr, said yQ)]) := by rw [Hid, told_snoc]; simp only [Nm.l]; rw [hl]
                      have HL2 : Hid ((F ++ [(⟨ys, yr, ra1, rg1, 0, rc1, F1⟩ : Nm)]).length = F.length + 1) := by rw [Hid]; simp
                      generalize F ++ [(⟨ys, yr, ra1, rg1, 0, rc1, F1⟩ : Nm)] = F2 at hos' HF2 HL2
                      generalize Value.slice va vn vc = v2 at kO' hos' hWn
                      clear hWn st hos0 kO0 ok0 B2 hos kO B1 k3 k5 k6 hBs hHeld
                      have kO := kO'
                      have B1 := B1'
                      have hos := hos'
                      have k3 := k3n
                      have k5 := k5n
                      have k6 := k6n
                      have hBs := hBn
                      clear kO' B1' hos' k3n k5n k6n hBn
                      go_wp2
                      go_roundw
                      case rel => exact ⟨k + 1, _, _, _, by omega, by go_num, rfl, B1, k3, k5, k6, kO, hos, hBs, (by rw [HF2.out, HF1e.out, HF1.out]; exact HS1.out.1), HS1.out.2, (by have := HL2.out; have := HL1.out; have := HL1e.out; omega)⟩
                      case measure => simp [intOf]; omega
                    · simp only [Act.put, List.setIfInBounds_toArray, List.set_cons_zero, List.set_cons_succ]
                      obtain ⟨Wd, hWd⟩ : ∃ Wd, Wd = Wc.alloc (.cells #[.string ys, .int .i64 yr, .slice ra1 F1.length rc1] 113) := ⟨_, rfl⟩
                      rw [← hWd] at hHeld ⊢
                      have hT : Wd.heap[Wc.heap.size]? = some (.cells #[.string ys, .int .i64 yr, .slice ra1 F1.length rc1] 113 (0, 0)) := by subst hWd; exact at_new rfl
                      have hb : Below Wc.heap.size Wc Wd := by subst hWd; exact below_alloc1 _ _
                      have sD := hb.size
                      replace st := st.below hb
                      replace kO0 := (hb.block _ (blk_lt kO0)).trans kO0
                      replace B2 := Rw.next B2 hb
                      have hr2 := hr.below hb
                      have hbd := Rw.next hbc hb
                      clear hb hWd
                      refine wpAnyH_ready (rs := [1]) (by kernel_rfl) (by simp) (Hn.readyRun (i := 1) rfl (by kernel_rfl) (some 47) (by kernel_rfl) (v := v) (w' := Wd) (by have o0 := Pl.one kO0; go_simp) st (fun hHeld => ?_) AllReadyH.nil)
                      simp only [Act.put, List.setIfInBounds_toArray, List.set_cons_zero, List.set_cons_succ]
                      obtain ⟨v', Z, hrun, hosZ, hgr⟩ := hos0.app (x := ⟨ys, yr, ra1, rg1, 0, rc1, F1⟩) (c := 1) 36 hbd hr2 sD rfl hnm (by omega) hT hFl
                      refine wpAnyH_ready (rs := [17]) (by kernel_rfl) (by simp) (Hn.readyRun (i := 17) rfl (by kernel_rfl) (some 63) (by kernel_rfl) (Hn.exec_app (.tmp 47) (.tmp 62) rfl (by kernel_rfl) (by kernel_rfl) hrun) (st.grown hgr) (fun hHeld => ?_) AllReadyH.nil)
                      simp only [Act.put, List.setIfInBounds_toArray, List.set_cons_zero, List.set_cons_succ]
                      replace st := st.grown hgr
                      obtain ⟨va, vn, vc, hv⟩ := hosZ.slice
                      subst hv
                      have kOZ := (hgr.block _ (blk_lt kO0) (fun e => by have := (hos0.lt e.symm).1; omega)).trans kO0
                      replace B2 := B2.grown hgr B2.size (fun k hk => by have := (hos0.lt hk).1; omega)
                      have o0 := Pl.one kOZ
                      have fO := Vl.free kOZ
                      refine Hn.take (i := 18) (d := some 64) (v := .pointer (some ⟨w.heap.size + 1 + 1 + 1, 0, none⟩)) rfl (by kernel_rfl) (by kernel_rfl) (by kernel_rfl) (by kernel_rfl) (fun _ _ _ h => h) (Or.inl ⟨by rfl, by intro w hSw; go_simp⟩) hHeld ?_
                      simp only [Act.put, List.setIfInBounds_toArray, List.set_cons_zero, List.set_cons_succ]
                      refine wpAnyH_ready (rs := [19]) (by kernel_rfl) (by simp) (Hn.readySkip (i := 19) rfl (by kernel_rfl) none (by kernel_rfl) (w' := Z.setCell ⟨w.heap.size + 1 + 1 + 1, 0, none⟩ (.slice va vn vc)) (by go_simp) st.set (fun hHeld => ?_) AllReadyH.nil)
                      simp only [Act.put, List.setIfInBounds_toArray, List.set_cons_zero, List.set_cons_succ]
                      refine wpAnyH_done (by kernel_rfl) ?_ _
                      have kO' : (Z.setCell ⟨w.heap.size + 1 + 1 + 1, 0, none⟩ (.slice va vn vc)).heap[w.heap.size + 1 + 1 + 1]? = some (.cells #[(.slice va vn vc)] 38 (0, 0)) := Sw.one_set kOZ
                      have B1' : Below w.heap.size w (Z.setCell ⟨w.heap.size + 1 + 1 + 1, 0, none⟩ (.slice va vn vc)) := Vl.bset B2 hwo
                      have hos' : St.OS (Z.setCell ⟨w.heap.size + 1 + 1 + 1, 0, none⟩ (.slice va vn vc)) B (.slice va vn vc) (F ++ [⟨ys, yr, ra1, rg1, 0, rc1, F1⟩]) := hosZ.keep (fun x _ hx => Below.heap_setCell _ _ _ _ (by simp; omega)) (by simp)
                      replace st : Rl.Stab Wn (w.heap.size + 1 + 1 + 1) v (Z.setCell ⟨w.heap.size + 1 + 1 + 1, 0, none⟩ (.slice va vn vc)) := st.set
                      have k3n := (st.block _ (blk_lt k3) (by omega) (fun e => by have := (hos.lt e.symm).1; omega)).trans k3
                      have k5n := (st.block _ (blk_lt k5) (by omega) (fun e => by have := (hos.lt e.symm).1; omega)).trans k5
                      have k6n := (st.block _ (blk_lt k6) (by omega) (fun e => by have := (hos.lt e.symm).1; omega)).trans k6
                      have hBn : B ≤ (Z.setCell ⟨w.heap.size + 1 + 1 + 1, 0, none⟩ (.slice va vn vc)).heap.size := by have := st.size; simp at this ⊢; omega
                      obtain ⟨Wn, hWn⟩ : ∃ Wn, Wn = Z.setCell ⟨w.heap.size + 1 + 1 + 1, 0, none⟩ (.slice va vn vc) := ⟨_, rfl⟩
                      rw [← hWn] at kO' B1' hos' k3n k5n k6n hBn ⊢
                      have HF2 : Hid (told (F ++ [⟨ys, yr, ra1, rg1, 0, rc1, F1⟩]) = told F ++ [(ys, yr, said yQ)]) := by rw [Hid, told_snoc]; simp only [Nm.l]; rw [hl]
                      have HL2 : Hid ((F ++ [(⟨ys, yr, ra1, rg1, 0, rc1, F1⟩ : Nm)]).length = F.length + 1) := by rw [Hid]; simp
                      generalize F ++ [(⟨ys, yr, ra1, rg1, 0, rc1, F1⟩ : Nm)] = F2 at hos' HF2 HL2
                      generalize Value.slice va vn vc = v2 at kO' hos' hWn
                      clear hWn st hos0 kO0 ok0 B2 hos kO B1 k3 k5 k6 hBs hHeld
                      have kO := kO'
                      have B1 := B1'
                      have hos := hos'
                      have k3 := k3n
                      have k5 := k5n
                      have k6 := k6n
                      have hBs := hBn
                      clear kO' B1' hos' k3n k5n k6n hBn
                      go_wp2
                      go_roundw
                      case rel => exact ⟨k + 1, _, _, _, by omega, by go_num, rfl, B1, k3, k5, k6, kO, hos, hBs, (by rw [HF2.out, HF1e.out, HF1.out]; exact HS1.out.1), HS1.out.2, (by have := HL2.out; have := HL1.out; have := HL1e.out; omega)⟩
                      case measure => simp [intOf]; omega
    · have he : k = n := by omega
      subst he
      have HEk := HE.out
      rw [← HTk.out, ← HDk.out] at HEk
      have p3 := Pl.one k3
      cases d with
      | true =>
        have HXe : Hid (told F = X) := by rw [Hid, HEk]; simp
        clear HEk HE HTk HDk
        have o0 := Pl.one kO
        have rR := Pl.one k6
        have fR := Vl.free k6
        have lR := blk_lt k6
        obtain ⟨va, vn, vc, rfl⟩ := hos.slice
        have hru := HRU.out
        subst hru
        generalize hPP : bodyPost Tryz.prog Tryz.f60 (ResU w X) = PP at *
        have HPP : Hid (∀ e a W, bodyPost Tryz.prog Tryz.f60 (ResU w X) e a W → PP e a W) := fun _ _ _ h => by rw [← hPP]; exact h
        clear hPP
        go_wp2
        refine HPP.out _ _ _ ?_
        refine bodyPost_ret (v := .agg #[.slice va vn vc]) (by simp [results, Tryz.results60, go_sem, rR]) rfl ⟨.slice va vn vc, F, rfl, ?_, HXe.out, ?_⟩
        · exact (hos.keep (fun x _ hx => Below.heap_setCell _ _ _ _ (by simp; omega)) (by simp)).mono (by omega)
        · exact Vl.bset B1 (by simp; omega)
      | false =>
        have HXe : Hid (told F ++ [(s, ar, said Q)] = X) := by rw [Hid, HEk]; simp
        clear HEk HE HTk HDk
        as_aux_lemma =>
          go_wp2
          have hSt : ∀ w', Rl.Stab wr (w.heap.size + 1 + 1 + 1) v w' → w'.cell? ⟨w.heap.size + 1, 0, none⟩ = some (.int .i64 ar) ∧ w'.cell? ⟨w.heap.size + 1, 1, none⟩ = some (.slice ra Q.length rc) := fun w' st => Pl.two ((st.block _ (blk_lt k5) (by omega) (fun e => by have := (hos.lt e.symm).1; omega)).trans k5)
          have ok : Rl.Rd wr ra rb ro Q := HQ.out.below B1
          have hnm := hs
          have h4 := h4Q
          have hF1of : ∀ F1 : List Rm, said F1 = said Q → F1.length ≤ 4194304 := fun F1 h => by rw [← Rl.said_len, h, Rl.said_len]; omega
          refine wp_region_held_drew (S := Rl.Stab wr (w.heap.size + 1 + 1 + 1) v) (by kernel_rfl) (Rl.Stab.refl _ _ _) (fun hHeld => ?_)
          refine Hn.take (i := 0) (d := some 68) (v := .pointer (some ⟨w.heap.size + 1 + 1 + 1, 0, none⟩)) rfl (by kernel_rfl) (by kernel_rfl) (by kernel_rfl) (by kernel_rfl) (fun _ _ _ h => h) (Or.inl ⟨by rfl, by intro w hSw; go_simp⟩) hHeld ?_
          simp only [Act.put, List.setIfInBounds_toArray, List.set_cons_zero, List.set_cons_succ]
          refine Hn.take (i := 2) (d := some 70) (v := .string s) rfl (by kernel_rfl) (by kernel_rfl) (by kernel_rfl) (by kernel_rfl) (fun _ _ _ h => h) (Or.inl ⟨by rfl, by intro w hSw; go_simp⟩) hHeld ?_
          simp only [Act.put, List.setIfInBounds_toArray, List.set_cons_zero, List.set_cons_succ]
          refine Hn.take (i := 3) (d := some 71) (v := .agg #[.int .i64 ar, .slice ra Q.length rc]) rfl (by kernel_rfl) (by kernel_rfl) (by kernel_rfl) (by kernel_rfl) (fun _ _ _ h => h) (Or.inl ⟨by rfl, by intro w hSw; obtain ⟨q0, q1⟩ := hSt w hSw; go_simp⟩) hHeld ?_
          simp only [Act.put, List.setIfInBounds_toArray, List.set_cons_zero, List.set_cons_succ]
          have st : Rl.Stab wr (w.heap.size + 1 + 1 + 1) v (wr).drew := Rl.Stab.refl _ _ _
          have hos0 : St.OS (wr).drew B v F := hos.below ((Below.refl _ _).drew)
          have kO0 : (wr).drew.heap[w.heap.size + 1 + 1 + 1]? = some (.cells #[v] 38 (0, 0)) := kO
          have ok0 := Rl.Rd.below ok ((Below.refl (wr).heap.size (wr)).drew)
          have B2 := Rw.next B1 ((Below.refl (wr).heap.size (wr)).drew)
          have sW : (wr).drew.heap.size = (wr).heap.size := rfl
          generalize (wr).drew = W at *
          refine wpAnyH_ready (rs := [1, 4]) (by kernel_rfl) (by simp) (Hn.readyRun (i := 1) rfl (by kernel_rfl) (some 69) (by kernel_rfl) (v := v) (w' := W) (by have o0 := Pl.one kO0; go_simp) st (fun hHeld => ?_) (Hn.call1 (i := 4) rfl (by rfl) 95 (.tmp 71) 69 (by kernel_rfl) 72 (by kernel_rfl) (.agg #[.int .i64 ar, .slice ra Q.length rc]) (by kernel_rfl) (fun _ => rfl) (Rl.lcopy_any ar ra rb ro rc Q _ ok0 h4) ?_ AllReadyH.nil))
          · simp only [Act.put, List.setIfInBounds_toArray, List.set_cons_zero, List.set_cons_succ]
            refine wpAnyH_ready (rs := [4]) (by kernel_rfl) (by simp) (Hn.call1 (i := 4) rfl (by rfl) 95 (.tmp 71) 69 (by kernel_rfl) 72 (by kernel_rfl) (.agg #[.int .i64 ar, .slice ra Q.length rc]) (by kernel_rfl) (fun _ => rfl) (Rl.lcopy_any ar ra rb ro rc Q _ ok0 h4) ?_ AllReadyH.nil)
            rintro e1 Wc ⟨v1, F1, rfl, hot1, hl, hb⟩
            have hF1 := hF1of F1 hl
            obtain ⟨ra1, rg1, rc1, rfl, hr⟩ := hot1.form hF1
            replace st := st.below hb
            replace kO0 := (hb.block _ (blk_lt kO0)).trans kO0
            have hbc := hb
            replace B2 := Rw.next B2 hb
            have sC := hb.size
            refine ⟨_, rfl, st, fun hHeld => ?_⟩
            simp only [Act.put, List.setIfInBounds_toArray, List.set_cons_zero, List.set_cons_succ]
            refine Hn.take (i := 5) (d := some 73) (v := .agg #[.string s, .int .i64 ar, .slice ra1 F1.length rc1]) rfl (by kernel_rfl) (by kernel_rfl) (by kernel_rfl) (by kernel_rfl) (fun _ _ _ h => h) (Or.inl ⟨by rfl, by intro w hSw; go_simp⟩) hHeld ?_
            simp only [Act.put, List.setIfInBounds_toArray, List.set_cons_zero, List.set_cons_succ]
            refine wpAnyH_ready (rs := [6]) (by kernel_rfl) (by simp) (Hn.readyRun (i := 6) rfl (by kernel_rfl) (some 74) (by kernel_rfl) (v := .slice (some ⟨Wc.heap.size, 0, none⟩) 1 1) (w' := Wc.alloc (.cells #[.string s, .int .i64 ar, .slice ra1 F1.length rc1] 113)) (St.exec_oneN rfl (by kernel_rfl)) (st.below (below_alloc1 _ _)) (fun hHeld => ?_) AllReadyH.nil)
            simp only [Act.put, List.setIfInBounds_toArray, List.set_cons_zero, List.set_cons_succ]
            obtain ⟨Wd, hWd⟩ : ∃ Wd, Wd = Wc.alloc (.cells #[.string s, .int .i64 ar, .slice ra1 F1.length rc1] 113) := ⟨_, rfl⟩
            rw [← hWd] at hHeld ⊢
            have hT : Wd.heap[Wc.heap.size]? = some (.cells #[.string s, .int .i64 ar, .slice ra1 F1.length rc1] 113 (0, 0)) := by subst hWd; exact at_new rfl
            have hb : Below Wc.heap.size Wc Wd := by subst hWd; exact below_alloc1 _ _
            have sD := hb.size
            replace st := st.below hb
            replace kO0 := (hb.block _ (blk_lt kO0)).trans kO0
            replace B2 := Rw.next B2 hb
            have hr2 := hr.below hb
            have hbd := Rw.next hbc hb
            clear hb hWd
            obtain ⟨v', Z, hrun, hosZ, hgr⟩ := hos0.app (x := ⟨s, ar, ra1, rg1, 0, rc1, F1⟩) (c := 1) 36 hbd hr2 sD rfl hnm (by omega) hT hFl
            refine wpAnyH_ready (rs := [7]) (by kernel_rfl) (by simp) (Hn.readyRun (i := 7) rfl (by kernel_rfl) (some 75) (by kernel_rfl) (Hn.exec_app (.tmp 69) (.tmp 74) rfl (by kernel_rfl) (by kernel_rfl) hrun) (st.grown hgr) (fun hHeld => ?_) AllReadyH.nil)
            simp only [Act.put, List.setIfInBounds_toArray, List.set_cons_zero, List.set_cons_succ]
            replace st := st.grown hgr
            obtain ⟨va, vn, vc, hv⟩ := hosZ.slice
            subst hv
            have kOZ := (hgr.block _ (blk_lt kO0) (fun e => by have := (hos0.lt e.symm).1; omega)).trans kO0
            replace B2 := B2.grown hgr B2.size (fun k hk => by have := (hos0.lt hk).1; omega)
            have o0 := Pl.one kOZ
            have fO := Vl.free kOZ
            refine Hn.take (i := 8) (d := some 76) (v := .pointer (some ⟨w.heap.size + 1 + 1 + 1, 0, none⟩)) rfl (by kernel_rfl) (by kernel_rfl) (by kernel_rfl) (by kernel_rfl) (fun _ _ _ h => h) (Or.inl ⟨by rfl, by intro w hSw; go_simp⟩) hHeld ?_
            simp only [Act.put, List.setIfInBounds_toArray, List.set_cons_zero, List.set_cons_succ]
            refine wpAnyH_ready (rs := [9]) (by kernel_rfl) (by simp) (Hn.readySkip (i := 9) rfl (by kernel_rfl) none (by kernel_rfl) (w' := Z.setCell ⟨w.heap.size + 1 + 1 + 1, 0, none⟩ (.slice va vn vc)) (by go_simp) st.set (fun hHeld => ?_) AllReadyH.nil)
            simp only [Act.put, List.setIfInBounds_toArray, List.set_cons_zero, List.set_cons_succ]
            refine wpAnyH_done (by kernel_rfl) ?_ _
            have kO' : (Z.setCell ⟨w.heap.size + 1 + 1 + 1, 0, none⟩ (.slice va vn vc)).heap[w.heap.size + 1 + 1 + 1]? = some (.cells #[(.slice va vn vc)] 38 (0, 0)) := Sw.one_set kOZ
            have B1' : Below w.heap.size w (Z.setCell ⟨w.heap.size + 1 + 1 + 1, 0, none⟩ (.slice va vn vc)) := Vl.bset B2 hwo
            have hos' : St.OS (Z.setCell ⟨w.heap.size + 1 + 1 + 1, 0, none⟩ (.slice va vn vc)) B (.slice va vn vc) (F ++ [⟨s, ar, ra1, rg1, 0, rc1, F1⟩]) := hosZ.keep (fun x _ hx => Below.heap_setCell _ _ _ _ (by simp; omega)) (by simp)
            replace st : Rl.Stab wr (w.heap.size + 1 + 1 + 1) v (Z.setCell ⟨w.heap.size + 1 + 1 + 1, 0, none⟩ (.slice va vn vc)) := st.set
            have k3n := (st.block _ (blk_lt k3) (by omega) (fun e => by have := (hos.lt e.symm).1; omega)).trans k3
            have k5n := (st.block _ (blk_lt k5) (by omega) (fun e => by have := (hos.lt e.symm).1; omega)).trans k5
            have k6n := (st.block _ (blk_lt k6) (by omega) (fun e => by have := (hos.lt e.symm).1; omega)).trans k6
            have hBn : B ≤ (Z.setCell ⟨w.heap.size + 1 + 1 + 1, 0, none⟩ (.slice va vn vc)).heap.size := by have := st.size; simp at this ⊢; omega
            obtain ⟨Wn, hWn⟩ : ∃ Wn, Wn = Z.setCell ⟨w.heap.size + 1 + 1 + 1, 0, none⟩ (.slice va vn vc) := ⟨_, rfl⟩
            rw [← hWn] at kO' B1' hos' k3n k5n k6n hBn ⊢
            have HF : Hid (told (F ++ [⟨s, ar, ra1, rg1, 0, rc1, F1⟩]) = told F ++ [(s, ar, said Q)]) := by rw [Hid, told_snoc]; simp only [Nm.l]; rw [hl]
            have HLn : Hid ((F ++ [(⟨s, ar, ra1, rg1, 0, rc1, F1⟩ : Nm)]).length = F.length + 1) := by rw [Hid]; simp
            generalize F ++ [(⟨s, ar, ra1, rg1, 0, rc1, F1⟩ : Nm)] = F2 at hos' HF HLn
            generalize Value.slice va vn vc = v2 at kO' hos' hWn
            clear hWn st hos0 kO0 ok0 B2 hos kO B1 k3 k5 k6 hBs hHeld
            have kO := kO'
            have B1 := B1'
            have hos := hos'
            have k3 := k3n
            have k5 := k5n
            have k6 := k6n
            have hBs := hBn
            clear kO' B1' hos' k3n k5n k6n hBn
            have o0 := Pl.one kO
            have rR := Pl.one k6
            have fR := Vl.free k6
            have lR := blk_lt k6
            obtain ⟨va, vn, vc, rfl⟩ := hos.slice
            have HXf : Hid (told F2 = X) := by rw [Hid, HF.out]; exact HXe.out
            have hru := HRU.out
            subst hru
            generalize hPP : bodyPost Tryz.prog Tryz.f60 (ResU w X) = PP at *
            have HPP : Hid (∀ e a W, bodyPost Tryz.prog Tryz.f60 (ResU w X) e a W → PP e a W) := fun _ _ _ h => by rw [← hPP]; exact h
            clear hPP
            go_wp2
            refine HPP.out _ _ _ ?_
            refine bodyPost_ret (v := .agg #[.slice va vn vc]) (by simp [results, Tryz.results60, go_sem, rR]) rfl ⟨.slice va vn vc, F2, rfl, ?_, HXf.out, ?_⟩
            · exact (hos.keep (fun x _ hx => Below.heap_setCell _ _ _ _ (by simp; omega)) (by simp)).mono (by omega)
            · exact Vl.bset B1 (by simp; omega)
          · rintro e1 Wc ⟨v1, F1, rfl, hot1, hl, hb⟩
            have hF1 := hF1of F1 hl
            obtain ⟨ra1, rg1, rc1, rfl, hr⟩ := hot1.form hF1
            replace st := st.below hb
            replace kO0 := (hb.block _ (blk_lt kO0)).trans kO0
            have hbc := hb
            replace B2 := Rw.next B2 hb
            have sC := hb.size
            refine ⟨_, rfl, st, fun hHeld => ?_⟩
            simp only [Act.put, List.setIfInBounds_toArray, List.set_cons_zero, List.set_cons_succ]
            refine Hn.take (i := 5) (d := some 73) (v := .agg #[.string s, .int .i64 ar, .slice ra1 F1.length rc1]) rfl (by kernel_rfl) (by kernel_rfl) (by kernel_rfl) (by kernel_rfl) (fun _ _ _ h => h) (Or.inl ⟨by rfl, by intro w hSw; go_simp⟩) hHeld ?_
            simp only [Act.put, List.setIfInBounds_toArray, List.set_cons_zero, List.set_cons_succ]
            refine wpAnyH_ready (rs := [1, 6]) (by kernel_rfl) (by simp) (Hn.readyRun (i := 1) rfl (by kernel_rfl) (some 69) (by kernel_rfl) (v := v) (w' := Wc) (by have o0 := Pl.one kO0; go_simp) st (fun hHeld => ?_) (Hn.readyRun (i := 6) rfl (by kernel_rfl) (some 74) (by kernel_rfl) (v := .slice (some ⟨Wc.heap.size, 0, none⟩) 1 1) (w' := Wc.alloc (.cells #[.string s, .int .i64 ar, .slice ra1 F1.length rc1] 113)) (St.exec_oneN rfl (by kernel_rfl)) (st.below (below_alloc1 _ _)) (fun hHeld => ?_) AllReadyH.nil))
            · simp only [Act.put, List.setIfInBounds_toArray, List.set_cons_zero, List.set_cons_succ]
              refine wpAnyH_ready (rs := [6]) (by kernel_rfl) (by simp) (Hn.readyRun (i := 6) rfl (by kernel_rfl) (some 74) (by kernel_rfl) (v := .slice (some ⟨Wc.heap.size, 0, none⟩) 1 1) (w' := Wc.alloc (.cells #[.string s, .int .i64 ar, .slice ra1 F1.length rc1] 113)) (St.exec_oneN rfl (by kernel_rfl)) (st.below (below_alloc1 _ _)) (fun hHeld => ?_) AllReadyH.nil)
              simp only [Act.put, List.setIfInBounds_toArray, List.set_cons_zero, List.set_cons_succ]
              obtain ⟨Wd, hWd⟩ : ∃ Wd, Wd = Wc.alloc (.cells #[.string s, .int .i64 ar, .slice ra1 F1.length rc1] 113) := ⟨_, rfl⟩
              rw [← hWd] at hHeld ⊢
              have hT : Wd.heap[Wc.heap.size]? = some (.cells #[.string s, .int .i64 ar, .slice ra1 F1.length rc1] 113 (0, 0)) := by subst hWd; exact at_new rfl
              have hb : Below Wc.heap.size Wc Wd := by subst hWd; exact below_alloc1 _ _
              have sD := hb.size
              replace st := st.below hb
              replace kO0 := (hb.block _ (blk_lt kO0)).trans kO0
              replace B2 := Rw.next B2 hb
              have hr2 := hr.below hb
              have hbd := Rw.next hbc hb
              clear hb hWd
              obtain ⟨v', Z, hrun, hosZ, hgr⟩ := hos0.app (x := ⟨s, ar, ra1, rg1, 0, rc1, F1⟩) (c := 1) 36 hbd hr2 sD rfl hnm (by omega) hT hFl
              refine wpAnyH_ready (rs := [7]) (by kernel_rfl) (by simp) (Hn.readyRun (i := 7) rfl (by kernel_rfl) (some 75) (by kernel_rfl) (Hn.exec_app (.tmp 69) (.tmp 74) rfl (by kernel_rfl) (by kernel_rfl) hrun) (st.grown hgr) (fun hHeld => ?_) AllReadyH.nil)
              simp only [Act.put, List.setIfInBounds_toArray, List.set_cons_zero, List.set_cons_succ]
              replace st := st.grown hgr
              obtain ⟨va, vn, vc, hv⟩ := hosZ.slice
              subst hv
              have kOZ := (hgr.block _ (blk_lt kO0) (fun e => by have := (hos0.lt e.symm).1; omega)).trans kO0
              replace B2 := B2.grown hgr B2.size (fun k hk => by have := (hos0.lt hk).1; omega)
              have o0 := Pl.one kOZ
              have fO := Vl.free kOZ
              refine Hn.take (i := 8) (d := some 76) (v := .pointer (some ⟨w.heap.size + 1 + 1 + 1, 0, none⟩)) rfl (by kernel_rfl) (by kernel_rfl) (by kernel_rfl) (by kernel_rfl) (fun _ _ _ h => h) (Or.inl ⟨by rfl, by intro w hSw; go_simp⟩) hHeld ?_
              simp only [Act.put, List.setIfInBounds_toArray, List.set_cons_zero, List.set_cons_succ]
              refine wpAnyH_ready (rs := [9]) (by kernel_rfl) (by simp) (Hn.readySkip (i := 9) rfl (by kernel_rfl) none (by kernel_rfl) (w' := Z.setCell ⟨w.heap.size + 1 + 1 + 1, 0, none⟩ (.slice va vn vc)) (by go_simp) st.set (fun hHeld => ?_) AllReadyH.nil)
              simp only [Act.put, List.setIfInBounds_toArray, List.set_cons_zero, List.set_cons_succ]
              refine wpAnyH_done (by kernel_rfl) ?_ _
              have kO' : (Z.setCell ⟨w.heap.size + 1 + 1 + 1, 0, none⟩ (.slice va vn vc)).heap[w.heap.size + 1 + 1 + 1]? = some (.cells #[(.slice va vn vc)] 38 (0, 0)) := Sw.one_set kOZ
              have B1' : Below w.heap.size w (Z.setCell ⟨w.heap.size + 1 + 1 + 1, 0, none⟩ (.slice va vn vc)) := Vl.bset B2 hwo
              have hos' : St.OS (Z.setCell ⟨w.heap.size + 1 + 1 + 1, 0, none⟩ (.slice va vn vc)) B (.slice va vn vc) (F ++ [⟨s, ar, ra1, rg1, 0, rc1, F1⟩]) := hosZ.keep (fun x _ hx => Below.heap_setCell _ _ _ _ (by simp; omega)) (by simp)
              replace st : Rl.Stab wr (w.heap.size + 1 + 1 + 1) v (Z.setCell ⟨w.heap.size + 1 + 1 + 1, 0, none⟩ (.slice va vn vc)) := st.set
              have k3n := (st.block _ (blk_lt k3) (by omega) (fun e => by have := (hos.lt e.symm).1; omega)).trans k3
              have k5n := (st.block _ (blk_lt k5) (by omega) (fun e => by have := (hos.lt e.symm).1; omega)).trans k5
              have k6n := (st.block _ (blk_lt k6) (by omega) (fun e => by have := (hos.lt e.symm).1; omega)).trans k6
              have hBn : B ≤ (Z.setCell ⟨w.heap.size + 1 + 1 + 1, 0, none⟩ (.slice va vn vc)).heap.size := by have := st.size; simp at this ⊢; omega
              obtain ⟨Wn, hWn⟩ : ∃ Wn, Wn = Z.setCell ⟨w.heap.size + 1 + 1 + 1, 0, none⟩ (.slice va vn vc) := ⟨_, rfl⟩
              rw [← hWn] at kO' B1' hos' k3n k5n k6n hBn ⊢
              have HF : Hid (told (F ++ [⟨s, ar, ra1, rg1, 0, rc1, F1⟩]) = told F ++ [(s, ar, said Q)]) := by rw [Hid, told_snoc]; simp only [Nm.l]; rw [hl]
              have HLn : Hid ((F ++ [(⟨s, ar, ra1, rg1, 0, rc1, F1⟩ : Nm)]).length = F.length + 1) := by rw [Hid]; simp
              generalize F ++ [(⟨s, ar, ra1, rg1, 0, rc1, F1⟩ : Nm)] = F2 at hos' HF HLn
              generalize Value.slice va vn vc = v2 at kO' hos' hWn
              clear hWn st hos0 kO0 ok0 B2 hos kO B1 k3 k5 k6 hBs hHeld
              have kO := kO'
              have B1 := B1'
              have hos := hos'
              have k3 := k3n
              have k5 := k5n
              have k6 := k6n
              have hBs := hBn
              clear kO' B1' hos' k3n k5n k6n hBn
              have o0 := Pl.one kO
              have rR := Pl.one k6
              have fR := Vl.free k6
              have lR := blk_lt k6
              obtain ⟨va, vn, vc, rfl⟩ := hos.slice
              have HXf : Hid (told F2 = X) := by rw [Hid, HF.out]; exact HXe.out
              have hru := HRU.out
              subst hru
              generalize hPP : bodyPost Tryz.prog Tryz.f60 (ResU w X) = PP at *
              have HPP : Hid (∀ e a W, bodyPost Tryz.prog Tryz.f60 (ResU w X) e a W → PP e a W) := fun _ _ _ h => by rw [← hPP]; exact h
              clear hPP
              go_wp2
              refine HPP.out _ _ _ ?_
              refine bodyPost_ret (v := .agg #[.slice va vn vc]) (by simp [results, Tryz.results60, go_sem, rR]) rfl ⟨.slice va vn vc, F2, rfl, ?_, HXf.out, ?_⟩
              · exact (hos.keep (fun x _ hx => Below.heap_setCell _ _ _ _ (by simp; omega)) (by simp)).mono (by omega)
              · exact Vl.bset B1 (by simp; omega)
            · simp only [Act.put, List.setIfInBounds_toArray, List.set_cons_zero, List.set_cons_succ]
              obtain ⟨Wd, hWd⟩ : ∃ Wd, Wd = Wc.alloc (.cells #[.string s, .int .i64 ar, .slice ra1 F1.length rc1] 113) := ⟨_, rfl⟩
              rw [← hWd] at hHeld ⊢
              have hT : Wd.heap[Wc.heap.size]? = some (.cells #[.string s, .int .i64 ar, .slice ra1 F1.length rc1] 113 (0, 0)) := by subst hWd; exact at_new rfl
              have hb : Below Wc.heap.size Wc Wd := by subst hWd; exact below_alloc1 _ _
              have sD := hb.size
              replace st := st.below hb
              replace kO0 := (hb.block _ (blk_lt kO0)).trans kO0
              replace B2 := Rw.next B2 hb
              have hr2 := hr.below hb
              have hbd := Rw.next hbc hb
              clear hb hWd
              refine wpAnyH_ready (rs := [1]) (by kernel_rfl) (by simp) (Hn.readyRun (i := 1) rfl (by kernel_rfl) (some 69) (by kernel_rfl) (v := v) (w' := Wd) (by have o0 := Pl.one kO0; go_simp) st (fun hHeld => ?_) AllReadyH.nil)
              simp only [Act.put, List.setIfInBounds_toArray, List.set_cons_zero, List.set_cons_succ]
              obtain ⟨v', Z, hrun, hosZ, hgr⟩ := hos0.app (x := ⟨s, ar, ra1, rg1, 0, rc1, F1⟩) (c := 1) 36 hbd hr2 sD rfl hnm (by omega) hT hFl
              refine wpAnyH_ready (rs := [7]) (by kernel_rfl) (by simp) (Hn.readyRun (i := 7) rfl (by kernel_rfl) (some 75) (by kernel_rfl) (Hn.exec_app (.tmp 69) (.tmp 74) rfl (by kernel_rfl) (by kernel_rfl) hrun) (st.grown hgr) (fun hHeld => ?_) AllReadyH.nil)
              simp only [Act.put, List.setIfInBounds_toArray, List.set_cons_zero, List.set_cons_succ]
              replace st := st.grown hgr
              obtain ⟨va, vn, vc, hv⟩ := hosZ.slice
              subst hv
              have kOZ := (hgr.block _ (blk_lt kO0) (fun e => by have := (hos0.lt e.symm).1; omega)).trans kO0
              replace B2 := B2.grown hgr B2.size (fun k hk => by have := (hos0.lt hk).1; omega)
              have o0 := Pl.one kOZ
              have fO := Vl.free kOZ
              refine Hn.take (i := 8) (d := some 76) (v := .pointer (some ⟨w.heap.size + 1 + 1 + 1, 0, none⟩)) rfl (by kernel_rfl) (by kernel_rfl) (by kernel_rfl) (by kernel_rfl) (fun _ _ _ h => h) (Or.inl ⟨by rfl, by intro w hSw; go_simp⟩) hHeld ?_
              simp only [Act.put, List.setIfInBounds_toArray, List.set_cons_zero, List.set_cons_succ]
              refine wpAnyH_ready (rs := [9]) (by kernel_rfl) (by simp) (Hn.readySkip (i := 9) rfl (by kernel_rfl) none (by kernel_rfl) (w' := Z.setCell ⟨w.heap.size + 1 + 1 + 1, 0, none⟩ (.slice va vn vc)) (by go_simp) st.set (fun hHeld => ?_) AllReadyH.nil)
              simp only [Act.put, List.setIfInBounds_toArray, List.set_cons_zero, List.set_cons_succ]
              refine wpAnyH_done (by kernel_rfl) ?_ _
              have kO' : (Z.setCell ⟨w.heap.size + 1 + 1 + 1, 0, none⟩ (.slice va vn vc)).heap[w.heap.size + 1 + 1 + 1]? = some (.cells #[(.slice va vn vc)] 38 (0, 0)) := Sw.one_set kOZ
              have B1' : Below w.heap.size w (Z.setCell ⟨w.heap.size + 1 + 1 + 1, 0, none⟩ (.slice va vn vc)) := Vl.bset B2 hwo
              have hos' : St.OS (Z.setCell ⟨w.heap.size + 1 + 1 + 1, 0, none⟩ (.slice va vn vc)) B (.slice va vn vc) (F ++ [⟨s, ar, ra1, rg1, 0, rc1, F1⟩]) := hosZ.keep (fun x _ hx => Below.heap_setCell _ _ _ _ (by simp; omega)) (by simp)
              replace st : Rl.Stab wr (w.heap.size + 1 + 1 + 1) v (Z.setCell ⟨w.heap.size + 1 + 1 + 1, 0, none⟩ (.slice va vn vc)) := st.set
              have k3n := (st.block _ (blk_lt k3) (by omega) (fun e => by have := (hos.lt e.symm).1; omega)).trans k3
              have k5n := (st.block _ (blk_lt k5) (by omega) (fun e => by have := (hos.lt e.symm).1; omega)).trans k5
              have k6n := (st.block _ (blk_lt k6) (by omega) (fun e => by have := (hos.lt e.symm).1; omega)).trans k6
              have hBn : B ≤ (Z.setCell ⟨w.heap.size + 1 + 1 + 1, 0, none⟩ (.slice va vn vc)).heap.size := by have := st.size; simp at this ⊢; omega
              obtain ⟨Wn, hWn⟩ : ∃ Wn, Wn = Z.setCell ⟨w.heap.size + 1 + 1 + 1, 0, none⟩ (.slice va vn vc) := ⟨_, rfl⟩
              rw [← hWn] at kO' B1' hos' k3n k5n k6n hBn ⊢
              have HF : Hid (told (F ++ [⟨s, ar, ra1, rg1, 0, rc1, F1⟩]) = told F ++ [(s, ar, said Q)]) := by rw [Hid, told_snoc]; simp only [Nm.l]; rw [hl]
              have HLn : Hid ((F ++ [(⟨s, ar, ra1, rg1, 0, rc1, F1⟩ : Nm)]).length = F.length + 1) := by rw [Hid]; simp
              generalize F ++ [(⟨s, ar, ra1, rg1, 0, rc1, F1⟩ : Nm)] = F2 at hos' HF HLn
              generalize Value.slice va vn vc = v2 at kO' hos' hWn
              clear hWn st hos0 kO0 ok0 B2 hos kO B1 k3 k5 k6 hBs hHeld
              have kO := kO'
              have B1 := B1'
              have hos := hos'
              have k3 := k3n
              have k5 := k5n
              have k6 := k6n
              have hBs := hBn
              clear kO' B1' hos' k3n k5n k6n hBn
              have o0 := Pl.one kO
              have rR := Pl.one k6
              have fR := Vl.free k6
              have lR := blk_lt k6
              obtain ⟨va, vn, vc, rfl⟩ := hos.slice
              have HXf : Hid (told F2 = X) := by rw [Hid, HF.out]; exact HXe.out
              have hru := HRU.out
              subst hru
              generalize hPP : bodyPost Tryz.prog Tryz.f60 (ResU w X) = PP at *
              have HPP : Hid (∀ e a W, bodyPost Tryz.prog Tryz.f60 (ResU w X) e a W → PP e a W) := fun _ _ _ h => by rw [← hPP]; exact h
              clear hPP
              go_wp2
              refine HPP.out _ _ _ ?_
              refine bodyPost_ret (v := .agg #[.slice va vn vc]) (by simp [results, Tryz.results60, go_sem, rR]) rfl ⟨.slice va vn vc, F2, rfl, ?_, HXf.out, ?_⟩
              · exact (hos.keep (fun x _ hx => Below.heap_setCell _ _ _ _ (by simp; omega)) (by simp)).mono (by omega)
              · exact Vl.bset B1 (by simp; omega)

end Go.Proofs.YtljlgjgfmgilaaaGreat.Mp

namespace Go.Proofs.YtljlgjgfmgilaaaGreat.Mp
set_option maxRecDepth 8000
set_option linter.unusedSimpArgs false
set_option linter.unusedVariables false
open Go Go.ChangeShapes Go.WideShapes Go.RowKit
open Num Word Pl Rp
open Rl (Rm rm0 said)
open St (Nm nm0 NL told storeB)
open Vl (cmpS strLt)

def ResV (w : World) (M : List NL) (t : Bool) (e : Ending) (w' : World) : Prop := ∃ v F, e = .returned (.tuple #[.agg #[v], .bool t]) ∧ St.OS w' w.heap.size v F ∧ told F = M ∧ Below w.heap.size w w'

theorem few_marks {F : List Nm} {M : List NL} (h : told F = M) (hl : M.length ≤ 24) (h1 : ∀ z ∈ M, St.oneB z = true) : St.kN F 1 F.length ≤ 10000000 := by
  have hF : F.length ≤ 24 := by rw [← St.told_len, h]; exact hl
  have key : ∀ i, i ≤ F.length → St.kN F 1 i ≤ 1 + i * 3602 := by
    intro i
    induction i with
    | zero => intro _; simp [St.kN]
    | succ i ih =>
      intro hi
      have q := ih (by omega)
      have hm : F.getD i nm0 ∈ F := by rw [List.getD_eq_getElem?_getD, List.getElem?_eq_getElem (by omega)]; exact List.getElem_mem _
      have h2 := h1 _ (by rw [← h]; exact List.mem_map_of_mem (f := Nm.l) hm)
      unfold St.oneB at h2
      simp only [Bool.and_eq_true] at h2
      have h3 := relP_of h2.2
      have h4 := (Rl.small_said (F := (F.getD i nm0).Q) rfl ⟨h3.few, fun l hl => by have := h3.fit l hl; have := h3.hi; omega⟩).2
      simp only [St.kN]
      omega
  have := key F.length (Nat.le_refl _)
  omega

theorem few_len {A : List NL} : ∀ {C : List NL}, A.Pairwise (fun x y => x.1 ≠ y.1) → (∀ z ∈ A, z ∈ C) → A.length ≤ C.length := by
  induction A with
  | nil => intro C _ _; simp
  | cons a A ih =>
    intro C h1 h2
    obtain ⟨q1, q2⟩ := List.pairwise_cons.1 h1
    obtain ⟨C1, C2, rfl⟩ := List.append_of_mem (h2 a (by simp))
    have := ih (C := C1 ++ C2) q2 (fun z hz => by
      have := h2 z (by simp [hz])
      rcases List.mem_append.1 this with h | h
      · exact List.mem_append_left _ h
      · rcases List.mem_cons.1 h with rfl | h
        · exact absurd rfl (q1 z hz)
        · exact List.mem_append_right _ h)
    simp only [List.length_append, List.length_cons] at this ⊢
    omega

theorem rises_apart {N : List NL} (h : N.Pairwise (fun x y => strLt x.1 y.1 = true)) : N.Pairwise (fun x y => x.1 ≠ y.1) :=
  h.imp fun {x y} hxy e => by rw [e, strLt_irr] at hxy; cases hxy

def setU (T : List Nm) (x : Nm) : List Nm := T.filter (fun y => decide (y.s ≠ x.s)) ++ [x]

theorem setU_map (T : List Nm) (x : Nm) : putL (T.map nv) (nv x) = (setU T x).map nv := by
  unfold putL setU
  rw [List.filter_map]
  simp only [List.map_append, List.map_cons, List.map_nil]
  rfl

theorem setU_mem (T : List Nm) (x : Nm) (l : NL) : l ∈ told (setU T x) ↔ (l ∈ told T ∧ l.1 ≠ x.s) ∨ l = x.l := by
  unfold setU
  rw [told_snoc, List.mem_append, List.mem_singleton]
  constructor
  · rintro (h | h)
    · obtain ⟨y, hy, rfl⟩ := List.mem_map.1 h
      obtain ⟨h1, h2⟩ := List.mem_filter.1 hy
      exact .inl ⟨List.mem_map_of_mem h1, (by simpa using h2 : y.s ≠ x.s)⟩
    · exact .inr h
  · rintro (⟨h1, h2⟩ | h)
    · obtain ⟨y, hy, rfl⟩ := List.mem_map.1 h1
      exact .inl (List.mem_map_of_mem (List.mem_filter.2 ⟨hy, by simpa [Nm.l] using h2⟩))
    · exact .inr h

end Go.Proofs.YtljlgjgfmgilaaaGreat.Mp

