/-
  A list of named relations is sorted by the library, by the names.
-/
import Derived.Test.YtecnbenlmbppbaaGreatSo
import Derived.Test.YtecnbenlmbppbaaGreatMp
import Derived.Test.YtecnbenlmbppbaaGreatShelfn
import Derived.Shelf.SlSortCmp.NoneTotal
namespace Go.Proofs.YtecnbenlmbppbaaGreat.St
set_option maxRecDepth 8000
set_option linter.unusedSimpArgs false
set_option linter.unusedVariables false
open Go Go.RowKit Go.Sort
open Num Word Pl Rp
open Rl (Rm rm0 said UseQ)
open Vl (cmpS strLt)

theorem grow_of {W w' : World} (h : Below W.heap.size W w') (h4 : W.drawn ≤ w'.drawn) : ∃ q os, w' = grow (W.drewN q) os := by
  refine ⟨w'.drawn - W.drawn, w'.heap.extract W.heap.size w'.heap.size, ?_⟩
  have h1 := h.os
  have h2 := h.tape
  have h3 := h.output
  have h5 := h.size
  have h6 := h.block
  obtain ⟨hp, tp, dr, o, out⟩ := w'
  obtain ⟨hp0, tp0, dr0, o0, out0⟩ := W
  simp only at h1 h2 h3 h4 h5 h6
  subst h1 h2 h3
  simp only [grow, World.drewN, World.mk.injEq, true_and, and_true]
  refine ⟨?_, by omega⟩
  apply Array.ext_getElem?
  intro i
  rw [Array.getElem?_append]
  split
  · exact h6 i ‹_›
  · rename_i hi
    rw [Array.getElem?_extract]
    by_cases hq : i < hp.size
    · rw [if_pos (by omega)]; congr 1; omega
    · rw [if_neg (by omega), Array.getElem?_eq_none (by omega)]
section
variable {α : Type} [Inhabited α]
theorem sortK_other (enc : α → List Value) (k : Nat) (w : World) (g off m : Nat) (d : Array α) (os : Array Obj) (j : Nat) (hj : j ≠ g) (hl : j < w.heap.size) : (sortWorldK enc k w g off m d os).heap[j]? = w.heap[j]? := by
  unfold sortWorldK grow putRowK putRow mapBlock
  rw [Array.getElem?_append_left (by simpa using hl), Array.getElem?_modify, if_neg (fun e => hj e.symm)]
  rfl
theorem sortK_at (enc : α → List Value) (k : Nat) (w : World) (g off m : Nat) (d : Array α) (os : Array Obj) {cs : Array Value} {t : TypeId} {fr : Nat × Nat} (h : w.heap[g]? = some (.cells cs t fr)) : (sortWorldK enc k w g off m d os).heap[g]? = some (.cells (putCells id off (flatK enc k d) cs) t fr) := by
  have hl := (Array.getElem?_eq_some_iff.1 h).1
  unfold sortWorldK grow putRowK putRow mapBlock
  have h' : (Sort.ahead w m).heap[g]? = some (.cells cs t fr) := h
  rw [Array.getElem?_append_left (by simpa using hl), Array.getElem?_modify, if_pos rfl, h']
  rfl
theorem sortK_size (enc : α → List Value) (k : Nat) (w : World) (g off m : Nat) (d : Array α) (os : Array Obj) : w.heap.size ≤ (sortWorldK enc k w g off m d os).heap.size := size_sortWorldK_c enc k w g off m d os
theorem sortK_only (enc : α → List Value) (k : Nat) (w : World) (g off m : Nat) (d : Array α) (os : Array Obj) : w.grownBy (sortWorldK enc k w g off m d os) (some g) :=
  ⟨rfl, rfl, rfl, sortK_size enc k w g off m d os, fun j hj hne => sortK_other enc k w g off m d os j (fun e => hne (by rw [e])) hj⟩
end

def enc3 (x : Nm) : List Value := [.string x.s, .int .i64 x.ar, .slice x.a x.Q.length x.c]
def cfS (x y : Nm) : Int := cmpS x.s y.s
theorem swoS : SWO (Go.Proofs.ltOf cfS) where
  irrefl x := by
    unfold Go.Proofs.ltOf cfS
    have := cmpS_neg x.s x.s
    simp only [decide_eq_false_iff_not]; omega
  trans x y z h k := by
    unfold Go.Proofs.ltOf cfS at *
    simp only [decide_eq_true_eq] at *
    exact cmpS_lt.2 (Mp.strLt_trans (cmpS_lt.1 h) (cmpS_lt.1 k))
  ntrans x y z h k := by
    unfold Go.Proofs.ltOf cfS at *
    simp only [decide_eq_false_iff_not] at *
    intro q
    have n1 := cmpS_neg x.s y.s
    have n2 := cmpS_neg y.s z.s
    by_cases e1 : cmpS x.s y.s = 0
    · rw [cmpS_zero e1] at q; exact k q
    · by_cases e2 : cmpS y.s z.s = 0
      · rw [← cmpS_zero e2] at q; exact h q
      · have t := cmpS_lt.2 (Mp.strLt_trans (cmpS_lt.1 (by omega : cmpS z.s y.s < 0)) (cmpS_lt.1 (by omega : cmpS y.s x.s < 0)))
        have n3 := cmpS_neg x.s z.s
        omega
theorem aggN (w : World) : (isAgg 79).run Tryz.prog w = .ok true w := by kernel_rfl
theorem sizeN (w : World) : (Go.sizeOf 79).run Tryz.prog w = .ok 3 w := by kernel_rfl
theorem cmpL (w : World) (g size : Nat) : Go.Proofs.CmpLays Tryz.prog 104 #[] enc3 3 cfS g 0 size w := by
  intro m os dk hdk x y
  generalize sortWorldK enc3 3 w g 0 m dk os = W
  refine Calls.mono (byName_any x.s y.s x.ar y.ar (.slice x.a x.Q.length x.c) (.slice y.a y.Q.length y.c) W) ?_
  rintro e w' ⟨rfl, rfl⟩
  exact ⟨rfl, grow_of (below_alloc2 _ _ _) (Nat.le_refl _)⟩
theorem flat3_K (d : Array Nm) (j : Nat) (h : j < d.size * 3) : (flatK enc3 3 d)[j]! = flat3 d.toList j := by
  rw [get_flatK _ _ _ _ h]
  have hj : j / 3 < d.size := by omega
  have hg : d.toList.getD (j / 3) nm0 = d[j / 3]! := by rw [getElem!_pos d (j / 3) hj]; simp [List.getD, hj]
  unfold flat3
  rw [hg]
  have h3 : j % 3 = 0 ∨ j % 3 = 1 ∨ j % 3 = 2 := by omega
  unfold enc3 val3
  rcases h3 with e | e | e <;> rw [e] <;> rfl

set_option maxHeartbeats 1000000 in
theorem sortN_any (B g cap : Nat) (T : List Nm) (w : World) (h : OS w B (.slice (some ⟨g, 0, none⟩) T.length cap) T) (hlen : T.length ≤ 100000) :
    Calls Tryz.prog 124 #[.slice (some ⟨g, 0, none⟩) T.length cap, .func (.func 104) #[] #[]] w fun e w' => e = .returned (.tuple #[]) ∧
      ∃ T', T'.Perm T ∧ T'.Pairwise (fun x y => cmpS x.s y.s ≤ 0) ∧ OS w' B (.slice (some ⟨g, 0, none⟩) T.length cap) T' ∧ w.grownBy w' (some g) := by
  rcases h.own.2 with ⟨e1, _⟩ | ⟨g', cap', cur, e1, hB, hg, hn1, hn2, hz, ht⟩
  · simp at e1
  simp only [Value.slice.injEq, Option.some.injEq, Addr.mk.injEq] at e1
  obtain ⟨⟨rfl, _, _⟩, _, rfl⟩ := e1
  have curat : ∀ j, j < T.length * 3 → cur[j]? = some (flat3 T j) := fun j hj => by
    rw [← cells3_at T hj, ← ht, List.getElem?_take, if_pos hj, Array.getElem?_toList]
  have hH : HoldsK enc3 3 w g 0 T.toArray := by
    intro j hj
    have hj1 : j < T.length * 3 := by simpa [flatK] using hj
    rw [flat3_K _ _ (by simpa using hj1)]
    refine ⟨?_, Vl.free hg _⟩
    simp only [World.cell?, hg, Nat.zero_add]
    rw [curat j hj1]; rfl
  have hcon := Go.Proofs.AnyQ.slices_SortFunc Tryz.sortNamed 3 aggN sizeN enc3 (fun _ => rfl) (fun x u hu => by simp [enc3] at hu; rcases hu with rfl | rfl | rfl <;> rfl) cfS swoS 104 #[] g 0 cap T.toArray w (enters_of Tryz.func104 (by kernel_rfl) rfl) (cmpL w g _) hH (blk_lt hg) (by simp; omega)
  change Calls Tryz.prog 124 _ _ _ at hcon
  simp only [List.size_toArray] at hcon
  refine hcon.mono ?_
  rintro e w' ⟨rfl, d', m, os, hp, hs, rfl⟩
  have hd' : d'.size = T.length := by have := hp.1; simpa using this
  have hperm : d'.toList.Perm T := by
    have := hp.2.2
    simpa [Array.extract_eq_self_of_le, hd'] using this
  have hkg := sortK_only enc3 3 w g 0 m d' os
  refine ⟨rfl, d'.toList, hperm, ?_, ⟨⟨?_, ?_⟩, fun x hx => ?_, ?_⟩, hkg⟩
  · rw [List.pairwise_iff_getElem]
    intro i j hi hj hij
    have hi' : i < d'.size := by simpa using hi
    have hj' : j < d'.size := by simpa using hj
    have := hs i j (Nat.zero_le _) hij (by omega)
    unfold Go.Proofs.ltOf cfS at this
    simp only [decide_eq_false_iff_not] at this
    rw [getElem!_pos d' i hi', getElem!_pos d' j hj'] at this
    simp only [Array.getElem_toList]
    have := cmpS_neg (d'[i]).s (d'[j]).s
    omega
  · rw [cells3_len]
  · right
    refine ⟨g, cap, _, by simp [hd'], hB, sortK_at _ _ _ _ _ _ _ _ hg, by simpa [hd'] using hn1, hn2, by simpa [putCells] using hz, ?_⟩
    have e : (putCells id 0 (flatK enc3 3 d') cur).toList.take (T.length * 3) = cells3 d'.toList := by
      apply List.ext_getElem?
      intro j
      rw [List.getElem?_take]
      split
      · rename_i hj
        have hjd : j < d'.size * 3 := by omega
        have hjc : j < cur.size := by rw [hz]; omega
        rw [cells3_at _ (by simpa using hjd), Array.getElem?_toList]
        simp only [putCells, Array.getElem?_mapIdx]
        rw [Array.getElem?_eq_getElem hjc, Option.map_some, if_pos (by simp [flatK]; omega)]
        simp only [Nat.sub_zero, id]
        rw [flat3_K _ _ hjd]
      · rename_i hj
        symm
        apply List.getElem?_eq_none
        rw [cells3_len]; simp; omega
    simpa [hd'] using e
  · obtain ⟨q0, ⟨hi, q1, q2⟩, q3⟩ := h.each x (hperm.mem_iff.1 hx)
    exact ⟨q0, ⟨hi, Nat.le_trans q1 hkg.size, rel_kept q2 h.own hkg⟩, q3⟩
  · refine (hperm.pairwise_iff ?_).2 h.diff
    intro x y hxy r hr q hq h1 h2 e
    exact hxy q hq r hr h2 h1 e.symm
/-- The same where there is nothing to sort. -/
theorem sortN_nil (cap : Nat) (p : Option Addr) (w : World) :
    Calls Tryz.prog 124 #[.slice p 0 cap, .func (.func 104) #[] #[]] w fun e w' => e = .returned (.tuple #[]) ∧ w' = w := by
  have := Go.Proofs.AnyF.slices_SortFunc_none Tryz.sortNamed p cap (.func (.func 104) #[] #[]) w
  exact this

end Go.Proofs.YtecnbenlmbppbaaGreat.St
