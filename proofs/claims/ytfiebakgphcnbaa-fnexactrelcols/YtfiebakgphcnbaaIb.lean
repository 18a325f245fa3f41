/-
  slices.Insert over an own list of rows.
-/
import Derived.Test.YtfiebakgphcnbaaRn
import Derived.Shelf.Spec.SlicesInsertGrow
namespace Go.Proofs.Ytfiebakgphcnbaa.Rl
set_option maxRecDepth 8000
set_option linter.unusedSimpArgs false
set_option linter.unusedVariables false
open Go Go.RowKit
open Num Word Pl Rp
open Vl (V2 z2)

theorem set_blk {w : World} {b o : Nat} {cur : Array Value} {t : TypeId} {v : Value} (h : w.heap[b]? = some (.cells cur t (0, 0))) : (w.setCell ⟨b, o, none⟩ v).heap[b]? = some (.cells (cur.setIfInBounds o v) t (0, 0)) := by
  simp [World.setCell, Array.getElem?_modify, h]
theorem sets_blk (b : Nat) (t : TypeId) : ∀ (vs : List Value) (o : Nat) (w : World) (cur : Array Value), w.heap[b]? = some (.cells cur t (0, 0)) →
    ∃ cur' : Array Value, (w.setCells b o vs).heap[b]? = some (.cells cur' t (0, 0)) ∧ cur'.size = cur.size ∧ (∀ k, k < cur.size → cur'[k]? = if o ≤ k ∧ k < o + vs.length then vs[k - o]? else cur[k]?)
  | [], o, w, cur, h => ⟨cur, h, rfl, fun k hk => by rw [if_neg (by simp only [List.length_nil]; omega)]⟩
  | v :: vs, o, w, cur, h => by
    obtain ⟨cur', h1, h2, h3⟩ := sets_blk b t vs (o + 1) (w.setCell ⟨b, o, none⟩ v) _ (set_blk h)
    refine ⟨cur', h1, by rw [h2]; simp, fun k hk => ?_⟩
    rw [h3 k (by simpa using hk)]
    by_cases e : k = o
    · subst e
      rw [if_neg (by omega), if_pos (by simp)]
      simp [hk]
    · by_cases h4 : o + 1 ≤ k ∧ k < o + 1 + vs.length
      · rw [if_pos h4, if_pos (by simp; omega)]
        rw [show k - o = (k - (o + 1)) + 1 by omega]
        rfl
      · rw [if_neg h4, if_neg (by simp; omega)]
        rw [Array.getElem?_setIfInBounds_ne (by omega)]
theorem sets_grown (b : Nat) : ∀ (vs : List Value) (o : Nat) (w : World), w.grownBy (w.setCells b o vs) (some b)
  | [], o, w => ⟨rfl, rfl, rfl, Nat.le_refl _, fun _ _ _ => rfl⟩
  | v :: vs, o, w => by
    have h := sets_grown b vs (o + 1) (w.setCell ⟨b, o, none⟩ v)
    refine ⟨h.os, h.tape, h.output, Nat.le_trans (Nat.le_of_eq (by simp [World.setCell])) h.size, fun k hk hne => ?_⟩
    exact (h.block k (by simpa [World.setCell] using hk) hne).trans (Below.heap_setCell _ _ _ _ (fun e => hne (by rw [e])))
theorem sets_heap (b : Nat) : ∀ (vs : List Value) (o : Nat) (w w' : World), w.heap = w'.heap → (w.setCells b o vs).heap = (w'.setCells b o vs).heap
  | [], _, _, _, h => h
  | v :: vs, o, w, w', h => sets_heap b vs (o + 1) _ _ (by simp [World.setCell, h])
theorem ins_list {cs L : List Value} {x : Value} {i : Nat} (hi : i ≤ cs.length) (hL : L.length = cs.length + 1) (h1 : ∀ k, k < i → L[k]? = cs[k]?) (h2 : L[i]? = some x) (h3 : ∀ k, i ≤ k → k < cs.length → L[k + 1]? = cs[k]?) : L = cs.take i ++ x :: cs.drop i := by
  refine List.ext_getElem? fun k => ?_
  rcases Nat.lt_trichotomy k i with h | h | h
  · rw [h1 k h, List.getElem?_append_left (by simp; omega), List.getElem?_take, if_pos h]
  · subst h
    rw [h2, List.getElem?_append_right (by simp; omega)]
    simp [Nat.min_eq_left hi]
  · rw [List.getElem?_append_right (by simp; omega)]
    obtain ⟨j, rfl⟩ : ∃ j, k = j + 1 := ⟨k - 1, by omega⟩
    have e : j + 1 - (cs.take i).length = (j - i) + 1 := by rw [List.length_take, Nat.min_eq_left hi]; omega
    rw [e, List.getElem?_cons_succ, List.getElem?_drop, show i + (j - i) = j by omega]
    by_cases hj : j < cs.length
    · exact h3 j (by omega) hj
    · rw [List.getElem?_eq_none (by omega), List.getElem?_eq_none (by omega)]
theorem map_ins (F : List Rm) (r : Rm) (i : Nat) : (F.take i ++ r :: F.drop i).map Rm.val = (F.map Rm.val).take i ++ r.val :: (F.map Rm.val).drop i := by
  simp [List.map_take, List.map_drop]

/-- What is handed back by Insert. -/
def ResI (w : World) (B : Nat) (v : Value) (F : List Rm) (e : Ending) (w' : World) : Prop := ∃ v', e = .returned v' ∧ OG w' B v' F ∧ w.grownBy w' v.ownBlock ∧ (v'.ownBlock = v.ownBlock ∨ ∃ k, v'.ownBlock = some k ∧ w.heap.size ≤ k) ∧ v'.ownBlock ≠ none

theorem info56 : (Try.prog.info? 56).map (fun i => (i.zero, i.size, i.bytes)) = some (some (.agg #[.slice none 0 0]), 1, 24) := by kernel_rfl
theorem one_val (r : Rm) : r.val.oneCell' = true := rfl

set_option maxHeartbeats 4000000 in
/-- At the end. -/
theorem ins_end {w : World} {B T : Nat} {v : Value} {F : List Rm} {r : Rm} (h : OG w B v F) (hr : r.Ok w) (hf : r.l.length ≠ 0 → some r.b ≠ v.ownBlock) (hB : B ≤ w.heap.size)
    (hT : w.heap[T]? = some (.cells #[r.val] 56 (0, 0))) (hlen : F.length ≤ 100000) :
    Calls Try.prog 66 #[v, .int .i64 F.length, .slice (some ⟨T, 0, none⟩) 1 1] w (ResI w B v (F ++ [r])) := by
  obtain ⟨v', Z, hrun, ogZ, hgr, hwh⟩ := h.app 29 (c := 1) hr hf hB hT hlen
  have hres : ResI w B v (F ++ [r]) (.returned v') Z := ⟨v', rfl, ogZ, hgr, hwh.imp id (fun e => ⟨_, e, Nat.le_refl _⟩), by
    rcases ogZ.own.2 with ⟨_, e⟩ | ⟨g, cap, cur, e, _⟩
    · simp at e
    · rw [e]; simp [Value.ownBlock]⟩
  obtain ⟨va, n, c, hv⟩ := h.slice
  have hn : n = F.length ∧ n ≤ c ∧ c ≤ maxLen := by
    rcases h.own.2 with ⟨e1, e2⟩ | ⟨g, cap, cur, e1, _, _, h3, h4, _⟩
    · rw [hv] at e1; simp only [Value.slice.injEq] at e1; unfold maxLen; omega
    · rw [hv] at e1; simp only [Value.slice.injEq] at e1; omega
  obtain ⟨rfl, hnc, hcm⟩ := hn
  unfold maxLen at hcm
  obtain ⟨a', n', c', hv'⟩ := ogZ.slice
  subst hv hv'
  clear hr hf hB hT ogZ hgr hwh
  rcases h.own.2 with ⟨e1, e2⟩ | ⟨g, cap, cur, e1, _⟩
  · simp only [Value.slice.injEq] at e1
    obtain ⟨rfl, e0, rfl⟩ := e1
    clear h
    rw [e0] at hrun ⊢
    go_enter Try.func66, Try.ntmps66
    go_wp2_with (at_builtin; refine Lib.wpList_append_run _ rfl _ _ _ _ rfl _ _ rfl rfl _ _ hrun ?_)
    go_ret
    exact hres
  · simp only [Value.slice.injEq] at e1
    obtain ⟨rfl, _, rfl⟩ := e1
    clear h
    generalize F.length = n at hrun hnc ⊢
    have hn0 : (0 : Int) ≤ (n : Int) := by omega
    by_cases hc : c = n
    · subst hc
      go_enter Try.func66, Try.ntmps66
      go_wp2_with (at_builtin; refine Lib.wpList_append_run _ rfl _ _ _ _ rfl _ _ rfl rfl _ _ hrun ?_)
      go_ret
      exact hres
    · go_enter Try.func66, Try.ntmps66
      go_wp2_with (at_builtin; refine Lib.wpList_append_run _ rfl _ _ _ _ rfl _ _ rfl rfl _ _ hrun ?_)
      go_ret
      exact hres

/-- The list with one more row in it. -/
theorem og_ins {w w' : World} {B g cap n' i : Nat} {v : Value} {F : List Rm} {r : Rm} {cur : Array Value} (h : OG w B v F) (hi : i ≤ F.length) (hr : r.Ok w) (hBg : B ≤ g)
    (hg : w'.heap[g]? = some (.cells cur 56 (0, 0))) (hn : n' = F.length + 1) (hc : F.length + 1 ≤ cap) (hm : cap ≤ maxLen) (hz : cur.size = cap)
    (h1 : ∀ k, k < i → cur[k]? = (F.map Rm.val)[k]?) (h2 : cur[i]? = some r.val) (h3 : ∀ k, i ≤ k → k < F.length → cur[k + 1]? = (F.map Rm.val)[k]?)
    (hk : ∀ x : Rm, x ∈ F ∨ x = r → x.l.length ≠ 0 → w'.heap[x.b]? = w.heap[x.b]? ∧ x.b ≠ g) : OG w' B (.slice (some ⟨g, 0, none⟩) n' cap) (F.take i ++ r :: F.drop i) := by
  have hm' : ∀ x, x ∈ F.take i ++ r :: F.drop i → x ∈ F ∨ x = r := fun x hx => by
    rcases List.mem_append.1 hx with q | q
    · exact .inl (List.mem_of_mem_take q)
    · rcases List.mem_cons.1 q with q | q
      · exact .inr q
      · exact .inl (List.mem_of_mem_drop q)
  have hlen : (F.take i ++ r :: F.drop i).length = F.length + 1 := by simp; omega
  refine ⟨⟨by rw [List.length_map, hlen, Nat.mul_one], .inr ⟨g, cap, cur, by rw [hlen, hn], hBg, hg, by rw [hlen]; exact hc, hm, by rw [hz, Nat.mul_one], ?_⟩⟩, fun x hx => ?_, fun x hx h0 => ?_⟩
  · rw [map_ins, hlen, Nat.mul_one]
    refine ins_list (by simpa using hi) (by simp [hz]; omega) (fun k hk => ?_) ?_ (fun k hk1 hk2 => ?_)
    · rw [List.getElem?_take, if_pos (by omega), Array.getElem?_toList]; exact h1 k hk
    · rw [List.getElem?_take, if_pos (by omega), Array.getElem?_toList]; exact h2
    · have hk2 : k < F.length := by simpa using hk2
      rw [List.getElem?_take, if_pos (by omega), Array.getElem?_toList]; exact h3 k hk1 hk2
  · have ok : x.Ok w := by
      rcases hm' x hx with q | rfl
      · exact h.each x q
      · exact hr
    refine vrd_keep ok ?_
    by_cases h0 : x.l.length = 0
    · exact .inl h0
    · exact .inr (hk x (hm' x hx) h0).1
  · simp only [Value.ownBlock]; exact fun e => (hk x (hm' x hx) h0).2 (by simpa using e)

set_option maxHeartbeats 4000000 in
/-- There is room: in place. -/
theorem ins_room {w : World} {B T g cap i : Nat} {F : List Rm} {r : Rm} (h : OG w B (.slice (some ⟨g, 0, none⟩) F.length cap) F) (hi : i < F.length) (hroom : F.length + 1 ≤ cap) (hr : r.Ok w) (hf : r.l.length ≠ 0 → r.b ≠ g)
    (hT : w.heap[T]? = some (.cells #[r.val] 56 (0, 0))) (hTg : T ≠ g) :
    Calls Try.prog 66 #[.slice (some ⟨g, 0, none⟩) F.length cap, .int .i64 i, .slice (some ⟨T, 0, none⟩) 1 1] w (ResI w B (.slice (some ⟨g, 0, none⟩) F.length cap) (F.take i ++ r :: F.drop i)) := by
  obtain ⟨cur, hBg, hg, hm, hz, ht⟩ : ∃ cur, B ≤ g ∧ w.heap[g]? = some (.cells cur 56 (0, 0)) ∧ cap ≤ maxLen ∧ cur.size = cap ∧ cur.toList.take F.length = F.map Rm.val := by
    rcases h.own.2 with ⟨e1, _⟩ | ⟨g', cap', cur, e1, hb, hg, h1, h2, h3, h4⟩
    · simp at e1
    · simp only [Value.slice.injEq, Option.some.injEq, Addr.mk.injEq, and_true, true_and] at e1
      obtain ⟨rfl, rfl⟩ := e1
      exact ⟨cur, hb, hg, h2, by simpa using h3, by simpa using h4⟩
  have hcs : ∀ k, k < F.length → cur[k]? = (F.map Rm.val)[k]? := fun k hk => by
    rw [← ht, List.getElem?_take, if_pos hk, Array.getElem?_toList]
  have hcell : ∀ k, k < cap → (w.cell? ⟨g, k, none⟩) = cur[k]? := fun k hk => by simp [World.cell?, hg]
  have hfz : ∀ k, w.frozen? ⟨g, k, none⟩ = false := fun k => Vl.free hg k
  have hsz : (Try.prog.info? 56).map (·.size) = some 1 := by kernel_rfl
  obtain ⟨cs, hcsd⟩ : ∃ cs, cs = F.map Rm.val := ⟨_, rfl⟩
  have hcl : cs.length = F.length := by rw [hcsd]; simp
  rw [← hcsd] at hcs
  have h1c : ∀ v ∈ cs, v.oneCell' = true := fun v hv => by
    rw [hcsd] at hv
    obtain ⟨x, _, rfl⟩ := List.mem_map.1 hv
    rfl
  unfold maxLen at hm
  have hcp1 : ∀ ty dc sc, (Builtin.copy_ #[29, 29] ty #[.slice (some ⟨g, i + 1, none⟩) (F.length - i) dc, .slice (some ⟨g, i, none⟩) (F.length + 1 - i) sc]).run Try.prog w.drew = .ok (goInt (cs.drop i).length) (w.drew.setCells g (i + 1) (cs.drop i)) := fun ty dc sc =>
    run_copy_cells w.drew _ _ ty 56 g (i + 1) (F.length - i) dc ⟨g, i, none⟩ (F.length + 1 - i) sc (cs.drop i) Try.underlying29 hsz (by rw [List.length_drop, hcl]; simp only [Nat.min_def]; split <;> omega)
      (fun j v hj => by
        rw [Addr.add_lit]
        rw [List.getElem?_drop] at hj
        have hjl : i + j < F.length := by have := (List.getElem?_eq_some_iff.1 hj).1; omega
        have := hcell (i + j) (by omega)
        rw [hcs _ hjl] at this
        exact this.trans hj)
      (fun j hj => by
        rw [List.length_drop, hcl] at hj
        have e := hcell (i + 1 + j) (by omega)
        have e2 : cur[i + 1 + j]? = some cur[i + 1 + j] := Array.getElem?_eq_getElem (by omega)
        show (w.cell? ⟨g, i + 1 + j, none⟩).isSome = true
        rw [e, e2]; rfl)
      (fun j hj => hfz _) (fun v hv => h1c v (List.mem_of_mem_drop hv))
  obtain ⟨W1, hW1⟩ : ∃ W1, W1 = w.drew.setCells g (i + 1) (cs.drop i) := ⟨_, rfl⟩
  obtain ⟨cur1, hg1, hz1, hk1⟩ := sets_blk g 56 (cs.drop i) (i + 1) w.drew cur hg
  have gr1 : w.drew.grownBy W1 (some g) := by rw [hW1]; exact sets_grown _ _ _ _
  rw [← hW1] at hg1 hcp1
  have hTW : W1.heap[T]? = some (.cells #[r.val] 56 (0, 0)) := (gr1.block T (blk_lt hT) (by simpa using hTg)).trans hT
  have hcp2 : ∀ (W : World), (∀ x, W.cell? x = W1.cell? x) → (∀ x, W.frozen? x = W1.frozen? x) → ∀ ty dc, (Builtin.copy_ #[29, 29] ty #[.slice (some ⟨g, i, none⟩) (F.length + 1 - i) dc, .slice (some ⟨T, 0, none⟩) 1 1]).run Try.prog W = .ok (goInt [r.val].length) (W.setCells g i [r.val]) := fun W hWc hWf ty dc =>
    run_copy_cells W _ _ ty 56 g i (F.length + 1 - i) dc ⟨T, 0, none⟩ 1 1 [r.val] Try.underlying29 hsz (by simp only [Nat.min_def, List.length_cons, List.length_nil]; split <;> omega)
      (fun j v hj => by
        rw [Addr.add_lit, hWc]
        match j with
        | 0 => simp only [List.getElem?_cons_zero, Option.some.injEq] at hj; subst hj; simp [World.cell?, hTW]
        | j + 1 => simp at hj)
      (fun j hj => by
        have hj0 : j = 0 := by simpa using hj
        subst hj0
        rw [hWc]
        simp [World.cell?, hg1]
        omega)
      (fun j hj => by rw [hWf]; exact Vl.free hg1 _) (fun v hv => by simp at hv; subst hv; rfl)
  have hov : ∀ lb cb, (callFunc 91 #[.slice (some ⟨T, 0, none⟩) 1 1, .slice (some ⟨g, i + 1, none⟩) lb cb]).run Try.prog w = .ok (.value (.bool false)) w := fun lb cb => by
    rw [run_callFunc_extern Try.func91 (by kernel_rfl) (by kernel_rfl) (by kernel_rfl) (e := Extern.SlicesOverlaps.overlaps #[29, 29] #[4]) (by kernel_rfl),
      Lib.run_overlaps_apart w 29 4 56 Try.underlying29 1 (fun w => by kernel_rfl) ⟨T, 0, none⟩ ⟨g, i + 1, none⟩ 1 1 lb cb hTg 56 56 1 cap (by simp [World.shape?, hT]) (by simp [World.shape?, hg, hz]) (by omega) (Vl.free hT _) (Vl.free hT _)]
    rfl
  have hres : ∀ W, W.heap = (W1.setCells g i [r.val]).heap → W.os = w.os → W.tape = w.tape → W.output = w.output → ResI w B (.slice (some ⟨g, 0, none⟩) F.length cap) (F.take i ++ r :: F.drop i) (.returned (.slice (some ⟨g, 0, none⟩) (F.length + 1) cap)) W := fun W e1 e2 e3 e4 => by
    obtain ⟨cur2, hg2, hz2, hk2⟩ := sets_blk g 56 [r.val] i W1 cur1 hg1
    have gr2 := sets_grown g [r.val] i W1
    have hbk : ∀ k, k < w.heap.size → k ≠ g → W.heap[k]? = w.heap[k]? := fun k hk hne => by
      rw [e1]
      exact (gr2.block k (Nat.lt_of_lt_of_le hk gr1.size) (by simpa using hne)).trans (gr1.block k hk (by simpa using hne))
    refine ⟨_, rfl, og_ins h (by omega) hr hBg (by rw [e1]; exact hg2) rfl hroom (by unfold maxLen; omega) (by omega) (fun k hk => ?_) ?_ (fun k hk hk' => ?_) (fun x hx h0 => ?_), ⟨e2, e3, e4, by rw [e1]; exact Nat.le_trans gr1.size gr2.size, fun k hk hne => hbk k hk (fun e => hne (by rw [e]; rfl))⟩, .inl rfl, by simp [Value.ownBlock]⟩
    · rw [hk2 k (by omega), if_neg (by omega), hk1 k (by omega), if_neg (by omega), hcs k (by omega), hcsd]
    · rw [hk2 i (by omega), if_pos (by simp)]; simp
    · rw [hk2 (k + 1) (by omega), if_neg (by simp; omega), hk1 (k + 1) (by omega), if_pos (by rw [List.length_drop, hcl]; omega), List.getElem?_drop, ← hcsd]
      congr 1; omega
    · have hxg : x.b ≠ g := by
        rcases hx with q | rfl
        · exact fun e => h.far x q h0 (by rw [e]; rfl)
        · exact hf h0
      have ok : x.Ok w := by
        rcases hx with q | rfl
        · exact h.each x q
        · exact hr
      exact ⟨hbk _ (vrd_lt ok h0) hxg, hxg⟩
  have hw1 : IntKind.i64.wrap ((i : Int) + 1) = (i : Int) + 1 := by rw [IntKind.wrap_i64]; omega
  have hz2 : ¬ ((i : Int) = (F.length : Int)) := by omega
  have hin : i ≤ F.length := by omega
  have hb2 : ¬ (cap = i + 1) := by omega
  have hb4 : ¬ (cap = i) := by omega
  have hz3 : ¬ ((cap : Int) < (F.length : Int) + 1) := by omega
  have htn : ((i : Int) + 1).toNat = i + 1 := by omega
  have hb1 : (0 : Int) ≤ (i : Int) + 1 := by omega
  have hb3 : (i : Int) ≤ (F.length : Int) + 1 := by omega
  have e2 : W1.os = w.os := gr1.os
  have e3 : W1.tape = w.tape := gr1.tape
  have e4 : W1.output = w.output := gr1.output
  clear hcs hcell hfz h1c hcl hk1 hz1 gr1 hTW ht hr hf h hT hg hg1 hW1 hcsd
  have mixed : Try.prog.follows .mixedOrders = true := by kernel_rfl
  generalize F.take i ++ r :: F.drop i = FF at hres ⊢
  generalize F.length = n at *
  go_enter Try.func66, Try.ntmps66
  go_wp2_with (simp only [hov])
  go_region_law_o (refine step_copy_runI rfl _ _ 29 29 rfl _ _ (by simp [Act.eval, Act.put]) (by simp [Act.eval, Act.put]) (hcp1 _ _ _) ?_)
  go_wp2_with (at_builtin; refine wpList_copy_runI _ rfl _ _ 29 29 rfl _ _ rfl rfl (hcp2 _ (fun _ => rfl) (fun _ => rfl) _ _) ?_)
  go_ret
  exact hres _ rfl e2 e3 e4

set_option maxHeartbeats 4000000 in
/-- There is no room: a new block. -/
theorem ins_grow {w : World} {B T g cap i : Nat} {F : List Rm} {r : Rm} (h : OG w B (.slice (some ⟨g, 0, none⟩) F.length cap) F) (hi : i < F.length) (hroom : cap < F.length + 1) (hr : r.Ok w) (hf : r.l.length ≠ 0 → r.b ≠ g) (hB : B ≤ w.heap.size) (hlen : F.length ≤ 100000)
    (hT : w.heap[T]? = some (.cells #[r.val] 56 (0, 0))) :
    Calls Try.prog 66 #[.slice (some ⟨g, 0, none⟩) F.length cap, .int .i64 i, .slice (some ⟨T, 0, none⟩) 1 1] w (ResI w B (.slice (some ⟨g, 0, none⟩) F.length cap) (F.take i ++ r :: F.drop i)) := by
  obtain ⟨cur, hBg, hg, hnc, hz, ht⟩ : ∃ cur, B ≤ g ∧ w.heap[g]? = some (.cells cur 56 (0, 0)) ∧ F.length ≤ cap ∧ cur.size = cap ∧ cur.toList.take F.length = F.map Rm.val := by
    rcases h.own.2 with ⟨e1, _⟩ | ⟨g', cap', cur, e1, hb, hg, h1, h2, h3, h4⟩
    · simp at e1
    · simp only [Value.slice.injEq, Option.some.injEq, Addr.mk.injEq, and_true, true_and] at e1
      obtain ⟨rfl, rfl⟩ := e1
      exact ⟨cur, hb, hg, h1, by simpa using h3, by simpa using h4⟩
  obtain ⟨cs, hcsd⟩ : ∃ cs, cs = F.map Rm.val := ⟨_, rfl⟩
  have hcl : cs.length = F.length := by rw [hcsd]; simp
  have hcs : ∀ j v, cs[j]? = some v → w.cell? ⟨g, j, none⟩ = some v := fun j v hj => by
    have hjl : j < F.length := by have := (List.getElem?_eq_some_iff.1 hj).1; omega
    rw [hcsd, ← ht, List.getElem?_take, if_pos hjl, Array.getElem?_toList] at hj
    simp [World.cell?, hg, hj]
  have h1c : ∀ v ∈ cs, v.oneCell' = true := fun v hv => by
    rw [hcsd] at hv
    obtain ⟨x, _, rfl⟩ := List.mem_map.1 hv
    rfl
  obtain ⟨i0, hi0, hzz⟩ := Option.map_eq_some_iff.1 info56
  simp only [Prod.mk.injEq] at hzz
  obtain ⟨hz0, hzs, hzb⟩ := hzz
  have hsz : (Try.prog.info? 56).map (·.size) = some 1 := by kernel_rfl
  have hgw : g < w.heap.size := blk_lt hg
  have hTw : T < w.heap.size := blk_lt hT
  have hkk : (F.length : Int) + 1 - (i : Int) = ((F.length + 1 - i : Nat) : Int) := by omega
  have hik : i + (F.length + 1 - i) = F.length + 1 := by omega
  have hold : (Builtin.firstCells i0.size i (.slice (some ⟨g, 0, none⟩) i cap)).run Try.prog w.drew = .ok (cs.take i).toArray w.drew := by
    rw [hzs]
    exact run_firstCells_some w.drew 1 i ⟨g, 0, none⟩ i cap (cs.take i) (by rw [List.length_take]; omega) (fun j v hj => by
      rw [Addr.add_lit, Nat.zero_add]
      rw [List.getElem?_take] at hj
      split at hj
      · exact hcs j v hj
      · cases hj)
  obtain ⟨G, hG⟩ : ∃ G, G = grownCap w (F.length + 1) cap 56 := ⟨_, rfl⟩
  obtain ⟨ROW, hROW⟩ : ∃ ROW : Array Value, ROW = (cs.take i).toArray ++ Builtin.zeroCells (Value.agg #[.slice none 0 0]).cells (F.length + 1 - i) ++ Builtin.zeroCells (Value.agg #[.slice none 0 0]).cells (G - (F.length + 1)) := ⟨_, rfl⟩
  have hrz : ∀ ty, (Builtin.append_ #[29, 3] ty #[.slice (some ⟨g, 0, none⟩) i cap, .int .i64 ((F.length : Int) + 1 - (i : Int))]).run Try.prog w =
      .ok (.slice (some ⟨w.heap.size, 0, none⟩) (F.length + 1) G) (w.drew.alloc (.cells ROW 56)) := fun ty => by
    have q := Lib.run_append_grow_zeros w 29 3 ty 56 i0 _ .i64 .i64 Try.underlying29 Try.underlying3 hi0 hz0 (some ⟨g, 0, none⟩) i cap (cs.take i) hold (F.length + 1 - i) (by omega) (by omega) (by omega) (by omega) (by rw [hzb]; omega) (by rw [hzb, hik]; exact growslice_fits hroom (by omega))
    rw [hik] at q
    rw [hkk, hROW, hG]
    exact q
  have hGn : F.length + 1 ≤ G := by rw [hG]; exact grownCap_ge w _ _ _
  have hGm : G ≤ maxLen := by rw [hG]; exact grownCap_le_maxLen w (F.length + 1) cap 56 (by unfold maxLen; omega)
  have hRl : ROW.size = G := by
    rw [hROW]
    simp [Builtin.zeroCells, Value.cells]
    omega
  have hR1 : ∀ k, k < i → ROW[k]? = cs[k]? := fun k hk => by
    have : k < (cs.take i).toArray.size := by simp; omega
    rw [hROW, Array.getElem?_append_left (by simp [Builtin.zeroCells, Value.cells]; omega), Array.getElem?_append_left this]
    simp [List.getElem?_take, hk]
  obtain ⟨W1, hW1⟩ : ∃ W1, W1 = w.drew.alloc (.cells ROW 56) := ⟨_, rfl⟩
  have hbW : Below w.heap.size w W1 := by rw [hW1]; exact ((Below.refl _ w).drew).alloc (Nat.le_refl _) _
  have hN : W1.heap[w.heap.size]? = some (.cells ROW 56 (0, 0)) := by rw [hW1]; exact at_new rfl
  have hTW : W1.heap[T]? = some (.cells #[r.val] 56 (0, 0)) := (hbW.block T hTw).trans hT
  have hisS : ∀ (W : World) (cr : Array Value), W.heap[w.heap.size]? = some (.cells cr 56 (0, 0)) → cr.size = G → ∀ k, k < G → (W.cell? ⟨w.heap.size, k, none⟩).isSome = true := fun W cr hW hs k hk => by
    have e2 : cr[k]? = some cr[k] := Array.getElem?_eq_getElem (by omega)
    simp [World.cell?, hW, e2]
  have hcpA : ∀ (W : World), (∀ x, W.cell? x = W1.cell? x) → (∀ x, W.frozen? x = W1.frozen? x) → ∀ ty dc, (Builtin.copy_ #[29, 29] ty #[.slice (some ⟨w.heap.size, i, none⟩) (F.length + 1 - i) dc, .slice (some ⟨T, 0, none⟩) 1 1]).run Try.prog W = .ok (goInt [r.val].length) (W.setCells w.heap.size i [r.val]) := fun W hWc hWf ty dc =>
    run_copy_cells W _ _ ty 56 w.heap.size i (F.length + 1 - i) dc ⟨T, 0, none⟩ 1 1 [r.val] Try.underlying29 hsz (by simp only [Nat.min_def, List.length_cons, List.length_nil]; split <;> omega)
      (fun j v hj => by
        rw [Addr.add_lit, hWc]
        match j with
        | 0 => simp only [List.getElem?_cons_zero, Option.some.injEq] at hj; subst hj; simp [World.cell?, hTW]
        | j + 1 => simp at hj)
      (fun j hj => by
        have hj0 : j = 0 := by simpa using hj
        subst hj0
        rw [hWc]; exact hisS W1 _ hN hRl _ (by omega))
      (fun j hj => by rw [hWf]; exact Vl.free hN _) (fun v hv => by simp at hv; subst hv; rfl)
  obtain ⟨cur1, hg1, hz1, hk1⟩ := sets_blk w.heap.size 56 [r.val] i W1 ROW hN
  have gr1 := sets_grown w.heap.size [r.val] i W1
  have hcpB : ∀ (W : World), (∀ x, W.cell? x = (W1.setCells w.heap.size i [r.val]).cell? x) → (∀ x, W.frozen? x = (W1.setCells w.heap.size i [r.val]).frozen? x) → ∀ ty dc sc, (Builtin.copy_ #[29, 29] ty #[.slice (some ⟨w.heap.size, i + 1, none⟩) (F.length - i) dc, .slice (some ⟨g, i, none⟩) (F.length - i) sc]).run Try.prog W = .ok (goInt (cs.drop i).length) (W.setCells w.heap.size (i + 1) (cs.drop i)) := fun W hWc hWf ty dc sc =>
    run_copy_cells W _ _ ty 56 w.heap.size (i + 1) (F.length - i) dc ⟨g, i, none⟩ (F.length - i) sc (cs.drop i) Try.underlying29 hsz (by rw [List.length_drop, hcl]; simp only [Nat.min_def]; split <;> omega)
      (fun j v hj => by
        rw [List.getElem?_drop] at hj
        rw [Addr.add_lit, hWc]
        have e := World.cell?_of_block (a := ⟨g, i + j, none⟩) ((gr1.block g (Nat.lt_of_lt_of_le hgw hbW.size) (by simp; omega)).trans (hbW.block g hgw))
        exact e.trans (hcs _ v hj))
      (fun j hj => by
        rw [List.length_drop, hcl] at hj
        rw [hWc]; exact hisS _ _ hg1 (by omega) _ (by omega))
      (fun j hj => by rw [hWf]; exact Vl.free hg1 _) (fun v hv => h1c v (List.mem_of_mem_drop hv))
  have hres : ∀ W, W.heap = ((W1.setCells w.heap.size i [r.val]).setCells w.heap.size (i + 1) (cs.drop i)).heap → W.os = w.os → W.tape = w.tape → W.output = w.output → ResI w B (.slice (some ⟨g, 0, none⟩) F.length cap) (F.take i ++ r :: F.drop i) (.returned (.slice (some ⟨w.heap.size, 0, none⟩) (F.length + 1) G)) W := fun W e1 e2 e3 e4 => by
    obtain ⟨cur2, hg2, hz2, hk2⟩ := sets_blk w.heap.size 56 (cs.drop i) (i + 1) _ cur1 hg1
    have gr2 := sets_grown w.heap.size (cs.drop i) (i + 1) (W1.setCells w.heap.size i [r.val])
    have hbk : ∀ k, k < w.heap.size → W.heap[k]? = w.heap[k]? := fun k hk => by
      rw [e1]
      have k1 : k < W1.heap.size := Nat.lt_of_lt_of_le hk hbW.size
      exact (gr2.block k (Nat.lt_of_lt_of_le k1 gr1.size) (by simp; omega)).trans ((gr1.block k k1 (by simp; omega)).trans (hbW.block k hk))
    refine ⟨_, rfl, og_ins h (by omega) hr hB (by rw [e1]; exact hg2) rfl hGn hGm (by omega) (fun k hk => ?_) ?_ (fun k hk hk' => ?_) (fun x hx h0 => ?_), ⟨e2, e3, e4, by rw [e1]; exact Nat.le_trans hbW.size (Nat.le_trans gr1.size gr2.size), fun k hk hne => hbk k hk⟩, .inr ⟨_, rfl, Nat.le_refl _⟩, by simp [Value.ownBlock]⟩
    · rw [hk2 k (by omega), if_neg (by omega), hk1 k (by omega), if_neg (by omega), hR1 k hk, hcsd]
    · rw [hk2 i (by omega), if_neg (by omega), hk1 i (by omega), if_pos (by simp)]; simp
    · rw [hk2 (k + 1) (by omega), if_pos (by rw [List.length_drop, hcl]; omega), List.getElem?_drop, ← hcsd]
      congr 1; omega
    · have ok : x.Ok w := by
        rcases hx with q | rfl
        · exact h.each x q
        · exact hr
      exact ⟨hbk _ (vrd_lt ok h0), by have := vrd_lt ok h0; omega⟩
  have hz1' : ¬ ((i : Int) = (F.length : Int)) := by omega
  have hz3 : (cap : Int) < (F.length : Int) + 1 := by omega
  have hw1 : IntKind.i64.wrap ((i : Int) + 1) = (i : Int) + 1 := by rw [IntKind.wrap_i64]; omega
  have hb1 : (0 : Int) ≤ (i : Int) + 1 := by omega
  have hin : i ≤ F.length := by omega
  have htn : ((i : Int) + 1).toNat = i + 1 := by omega
  have hb3 : (i : Int) ≤ (F.length : Int) := by omega
  have hGi : ¬ (G = i) := by omega
  have hGim : ¬ (G = i + 1) := by omega
  have hci : ¬ (cap = i) := by omega
  have hG63 : G ≤ 9223372036854775807 := by unfold maxLen at hGm; omega
  have e2 : W1.os = w.os := hbW.os
  have e3 : W1.tape = w.tape := hbW.tape
  have e4 : W1.output = w.output := hbW.output
  have mixed : Try.prog.follows .mixedOrders = true := by kernel_rfl
  have hE1 : ∀ x, ((w.alloc (.cells ROW 56)).drew).cell? x = W1.cell? x := fun x => by rw [hW1]; rfl
  have hE2 : ∀ x, ((w.alloc (.cells ROW 56)).drew).frozen? x = W1.frozen? x := fun x => by rw [hW1]; rfl
  have hF1 : ∀ x, (((w.alloc (.cells ROW 56)).drew.setCells w.heap.size i [r.val]).drew).cell? x = (W1.setCells w.heap.size i [r.val]).cell? x := fun x => by rw [hW1]; rfl
  have hF2 : ∀ x, (((w.alloc (.cells ROW 56)).drew.setCells w.heap.size i [r.val]).drew).frozen? x = (W1.setCells w.heap.size i [r.val]).frozen? x := fun x => by rw [hW1]; rfl
  replace hres := fun W (q : W.heap = (((w.drew.alloc (.cells ROW 56)).setCells w.heap.size i [r.val]).setCells w.heap.size (i + 1) (cs.drop i)).heap) => hres W (by rw [hW1]; exact q)
  rw [hW1] at e2 e3 e4
  clear hcs h1c hcl hk1 hz1 gr1 hTW ht hr hf h hT hg hg1 hcsd hold hik hkk hROW hG hRl hR1 hbW hN hisS hW1 hGm hz hsz hi0 hz0 hzs hzb hlen hTw hgw
  generalize F.take i ++ r :: F.drop i = FF at hres ⊢
  generalize F.length = n at *
  go_enter Try.func66, Try.ntmps66
  go_wp2_with (first
    | (at_builtin; refine Lib.wpList_append_run _ rfl _ _ _ _ rfl _ _ rfl rfl _ _ (hrz _) ?_)
    | (at_builtin; refine wpList_copy_runI _ rfl _ _ 29 29 rfl _ _ rfl rfl (hcpA _ hE1 hE2 _ _) ?_)
    | (at_builtin; refine wpList_copy_runI _ rfl _ _ 29 29 rfl _ _ rfl rfl (hcpB _ (fun _ => rfl) (fun _ => rfl) _ _ _) ?_))
  go_region_law_o (refine step_copy_runI rfl _ _ 29 29 rfl (.slice (some ⟨w.heap.size, i + 1, none⟩) (n - i) (G - (i + 1))) (.slice (some ⟨g, i, none⟩) (n - i) (cap - i)) (by simp [Act.eval, Act.put]) (by simp [Act.eval, Act.put]) (hcpB _ hF1 hF2 3 (G - (i + 1)) (cap - i)) ?_)
  go_wp2
  go_ret
  exact hres _ (sets_heap _ _ _ _ _ (sets_heap _ _ _ _ _ rfl)) ((sets_grown _ _ _ _).os.trans ((sets_grown _ _ _ _).os.trans e2)) ((sets_grown _ _ _ _).tape.trans ((sets_grown _ _ _ _).tape.trans e3)) ((sets_grown _ _ _ _).output.trans ((sets_grown _ _ _ _).output.trans e4))

/-- A row is put into an own list of rows, at its place. -/
theorem ins_any {w : World} {B T i : Nat} {v : Value} {F : List Rm} {r : Rm} (h : OG w B v F) (hi : i ≤ F.length) (hr : r.Ok w) (hf : r.l.length ≠ 0 → some r.b ≠ v.ownBlock) (hB : B ≤ w.heap.size)
    (hT : w.heap[T]? = some (.cells #[r.val] 56 (0, 0))) (hTg : v.ownBlock ≠ some T) (hlen : F.length ≤ 100000) :
    Calls Try.prog 66 #[v, .int .i64 i, .slice (some ⟨T, 0, none⟩) 1 1] w (ResI w B v (F.take i ++ r :: F.drop i)) := by
  by_cases hn : i = F.length
  · subst hn
    rw [List.take_length, List.drop_length]
    exact ins_end h hr hf hB hT hlen
  · have hi' : i < F.length := by omega
    rcases h.own.2 with ⟨_, e0⟩ | ⟨g, cap, cur, e1, _⟩
    · omega
    · subst e1
      simp only [Value.ownBlock, ne_eq, Option.some.injEq] at hf hTg
      by_cases hc : F.length + 1 ≤ cap
      · exact ins_room h hi' hc hr hf hT (fun e => hTg e.symm)
      · exact ins_grow h hi' (by omega) hr hf hB hlen hT

end Go.Proofs.Ytfiebakgphcnbaa.Rl
