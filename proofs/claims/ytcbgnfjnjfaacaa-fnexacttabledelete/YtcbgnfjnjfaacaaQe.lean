/-
  Contracts laid together (Yh, Rc, Rd, Ka, Kb, Kc, Kd).
-/
import Derived.Test.YtcbgnfjnjfaacaaQd
import Derived.DeepKeys4
import Derived.Maps.Own
import Derived.Maps.OwnOps
import Derived.Maps.OwnSet
namespace Go.Proofs.Ytcbgnfjnjfaacaa.Yh
set_option maxRecDepth 8000
open Go Go.RowKit
open Num Pl Hr Hh Pq Ht

/-- The block g is a row of the call's own that begins with the integers l. -/
structure Own (w : World) (g : Nat) (l : List Int) : Prop where
  row : ∃ cur : Array Value, w.heap[g]? = some (.cells cur 3 (0, 0)) ∧ ∀ i, i < l.length → cur[i]? = some (.int .i64 (l.getD i 0))
  size : l.length ≤ 4194304

theorem own_mine {w : World} {g : Nat} {l : List Int} (h : Mine w g l) : Own w g l := by
  obtain ⟨⟨c, hb, hn, hc⟩, hs⟩ := h
  exact ⟨⟨c, hb, hc⟩, hs⟩
theorem own_has {w : World} {B : Nat} {v : Value} {l : List Int} (h : HasN w B v l) (hs : l.length ≤ 4194304) :
    ∃ g cap, v = .slice (some ⟨g, 0, none⟩) l.length cap ∧ B ≤ g ∧ Own w g l ∧ l.length ≤ cap := by
  rcases h.1.2 with ⟨rfl, _⟩ | ⟨g, cap, cur, rfl, hb, hh, hn, _, _, ht⟩
  · exact absurd rfl h.2
  · refine ⟨g, cap, rfl, hb, ⟨⟨cur, hh, fun i hi => ?_⟩, hs⟩, hn⟩
    have e : (cur.toList.take (l.length * 1))[i]? = (l.map (Value.int .i64))[i]? := by rw [ht]
    rw [List.getElem?_take, if_pos (by omega)] at e
    rw [← Array.getElem?_toList, e]
    simp [List.getD, hi]
theorem Own.lt {w : World} {g : Nat} {l : List Int} (h : Own w g l) : g < w.heap.size := by
  obtain ⟨⟨c, hb, _⟩, _⟩ := h
  exact (Array.getElem?_eq_some_iff.1 hb).1
theorem Own.of_block {w w' : World} {g : Nat} {l : List Int} (h : Own w g l) (e : w'.heap[g]? = w.heap[g]?) : Own w' g l := by
  obtain ⟨⟨c, hb, hc⟩, hs⟩ := h
  exact ⟨⟨c, e.trans hb, hc⟩, hs⟩
theorem Own.below {w w' : World} {g : Nat} {l : List Int} (h : Own w g l) (hb : Below w.heap.size w w') : Own w' g l := h.of_block (hb.block g h.lt)
theorem Own.wt {w : World} {g : Nat} {l : List Int} (h : Own w g l) : Wt w (some ⟨g, 0, none⟩) g l := by
  obtain ⟨⟨c, hb, hc⟩, hs⟩ := h
  exact ⟨fun _ => rfl, fun i hi => by simp [World.cell?, hb, hc i hi], fun i _ => by simp [World.frozen?, hb], hs⟩
theorem Own.rd {w : World} {g : Nat} {l : List Int} (h : Own w g l) : Rd w (some ⟨g, 0, none⟩) g 0 l := h.wt.rd

/-- One thing that is sent: its port, its head, the head's block and room. -/
structure E where
  p : Int
  l : List Int
  g : Nat
  c : Nat
def E.cells (e : E) : List Value := [.int .i64 e.p, .slice (some ⟨e.g, 0, none⟩) e.l.length e.c]
def flat (Q : List E) : List Value := Q.flatMap E.cells
def said (Q : List E) : List (Int × List Int) := Q.map fun e => (e.p, e.l)
theorem flat_len (Q : List E) : (flat Q).length = Q.length * 2 := by
  induction Q with
  | nil => rfl
  | cons e Q ih => simp only [flat, List.flatMap_cons, List.length_append, List.length_cons] at ih ⊢; rw [ih]; simp [E.cells]; omega

/-- A step of a region that draws its order, by what it runs to. -/
theorem readyRun {md : Region.Mode} {ops : Array Oper} {Q : Exit → Act → World → Prop} {S : World → Prop} {fuel : Nat} {listed : Array Bool} {a : Act} {w : World} {i : Nat} {o : Oper} {rs : List Nat} (hi : ops[i]? = some o) (hw : Region.wanted o (yielded ops a.tmps) = true)
    (d : Option Tmp) (hd : o.dst = d) {v : Value} {w' : World} (hr : (execOp a.eval o).run Try.prog w = .ok (.value v) w') (hS : S w')
    (hk : S w' → wpAnyH Try.prog md ops Q S fuel (listed.setIfInBounds i true) (a.put d v) w')
    (hs : AllReadyH Try.prog md ops Q S fuel listed a w rs) : AllReadyH Try.prog md ops Q S fuel listed a w (i :: rs) :=
  AllReadyH.cons hi (fun K hK => by
    rw [if_pos hw]
    unfold Oper.wp
    rw [hr]
    exact hK.out _ _ hS (fun hs' => by rw [hd]; exact hk hs')) hs
theorem readySkip {md : Region.Mode} {ops : Array Oper} {Q : Exit → Act → World → Prop} {S : World → Prop} {fuel : Nat} {listed : Array Bool} {a : Act} {w : World} {i : Nat} {o : Oper} {rs : List Nat} (hi : ops[i]? = some o) (hw : Region.wanted o (yielded ops a.tmps) = true)
    (d : Option Tmp) (hd : o.dst = d) {w' : World} (hr : (execOp a.eval o).run Try.prog w = .ok .skip w') (hS : S w')
    (hk : S w' → wpAnyH Try.prog md ops Q S fuel (listed.setIfInBounds i true) (a.put d undef) w')
    (hs : AllReadyH Try.prog md ops Q S fuel listed a w rs) : AllReadyH Try.prog md ops Q S fuel listed a w (i :: rs) :=
  AllReadyH.cons hi (fun K hK => by
    rw [if_pos hw]
    unfold Oper.wp
    rw [hr]
    exact hK.out _ _ hS (fun hs' => by rw [hd]; exact hk hs')) hs

/-- A copy of integers in a row of the call's own. -/
theorem eql_nil (w : World) : (binOp BinOp.eql 23 (.slice none 0 0) (.slice none 0 0)).run Try.prog w = .ok (.bool true) w := by kernel_rfl
theorem eql_some (ad : Addr) (n c : Nat) (w : World) : (binOp BinOp.eql 23 (.slice (some ad) n c) (.slice none 0 0)).run Try.prog w = .ok (.bool false) w := by kernel_rfl
set_option maxHeartbeats 1000000 in
theorem clone_any (b off cap n : Nat) (l : List Int) (w : World) (h : Rd w (some ⟨b, off, none⟩) b off l) (hn : l.length = n) :
    Calls Try.prog 132 #[.slice (some ⟨b, off, none⟩) n cap] w fun e w' => ∃ g c, e = .returned (.slice (some ⟨g, 0, none⟩) n c) ∧ Own w' g l ∧ w.heap.size ≤ g ∧ Below w.heap.size w w' := by
  subst hn
  have hs := h.size
  have B0 := below_alloc1 w (.cells #[] 3)
  have O0 := own_emptyN w
  have h0 := h.below B0
  have q0 := eql_some ⟨b, off, none⟩ l.length cap w
  go_enter Try.func132, Try.ntmps132
  go_wp2_with (at_builtin; refine wpList_appN rfl (.tmp 5) (.tmp 6) rfl w.heap.size _ [] l rfl O0 ⟨b, off, none⟩ b off cap rfl h0 (by simp; omega) (by simp) ?_; intro v' w' hown hgrow)
  go_ret
  have hB := below_own O0 B0 (Nat.le_refl _) hgrow
  obtain ⟨g, cap', rfl, hg, ho, _⟩ := own_has hown (by simpa using hs)
  simp only [List.nil_append] at ho
  exact ⟨g, cap', rfl, ho, hg, hB⟩

end Go.Proofs.Ytcbgnfjnjfaacaa.Yh
namespace Go.Proofs.Ytcbgnfjnjfaacaa.Ra
set_option maxRecDepth 8000
set_option linter.unusedSimpArgs false
set_option linter.unusedVariables false
open Go Go.RowKit
open Num Pl Ea Pq

theorem callV2 {md : Region.Mode} {ops : Array Oper} {Q : Exit → Act → World → Prop} {S : World → Prop} {fuel : Nat} {listed : Array Bool} {a : Act} {w : World} {i : Nat} {o : Oper} {rs : List Nat} (hi : ops[i]? = some o) (hw : Region.wanted o (yielded ops a.tmps) = true)
    (f : FuncId) (z x y : Operand) (t t' : TypeId) (hop : o.op = Op.call { callee := Callee.value z, args := #[x, y], argTypes := #[t, t'] }) (d : Tmp) (hd : o.dst = some d) (hz : a.eval z = .func (.func f) #[] #[])
    (u u' : Value) (hx : a.eval x = u) (hy : a.eval y = u') (he : ∀ w, (callFunc f #[u, u']).run Try.prog w = .ok (.enter f #[u, u']) w) {R : Ending → World → Prop} (hc : Calls Try.prog f #[u, u'] w R)
    (hk : ∀ e w', R e w' → ∃ v, e = .returned v ∧ S w' ∧ (S w' → wpAnyH Try.prog md ops Q S fuel (listed.setIfInBounds i true) (a.put (some d) v) w'))
    (hs : AllReadyH Try.prog md ops Q S fuel listed a w rs) : AllReadyH Try.prog md ops Q S fuel listed a w (i :: rs) :=
  AllReadyH.cons hi (fun K hK => by
    rw [if_pos hw]
    unfold Oper.wp
    simp [execOp, hop, resolve, invoke, hx, hy, hz, Deferred.ofValue, he w]
    refine hc.mono ?_
    intro e w' hr
    obtain ⟨v, rfl, h1, h2⟩ := hk e w' hr
    exact hK.out _ _ h1 (fun hs' => by rw [hd]; exact h2 hs')) hs
theorem drew_cell {w : World} {a : Addr} : w.drew.cell? a = w.cell? a := rfl

/-- Is each entry not ahead of the one before it? -/
def sortB (Q : List Ent) : Nat → Bool
  | 0 => true
  | k + 1 => sortB Q k && !decide (rk (Q.getD (k + 1) e0) (Q.getD k e0) < 0)
theorem sortB_iff {Q : List Ent} {n : Nat} : sortB Q n = true ↔ ∀ i, i < n → ¬ rk (Q.getD (i + 1) e0) (Q.getD i e0) < 0 := by
  induction n with
  | zero => simp [sortB]
  | succ n ih =>
    simp only [sortB, Bool.and_eq_true, ih, Bool.not_eq_true', decide_eq_false_iff_not]
    constructor
    · rintro ⟨h1, h2⟩ i hi
      by_cases e : i = n
      · subst e; exact h2
      · exact h1 i (by omega)
    · intro h
      exact ⟨fun i hi => h i (by omega), h n (by omega)⟩
theorem sortB_no {Q : List Ent} {n i : Nat} (hi : i < n) (h : rk (Q.getD (i + 1) e0) (Q.getD i e0) < 0) : sortB Q n = false := by
  cases e : sortB Q n
  · rfl
  · exact absurd h (sortB_iff.1 e i hi)

set_option maxHeartbeats 4000000 in
theorem sorted_any (a : Option Addr) (b off cap : Nat) (Q : List Ent) (w : World) (h : Rd w a b off Q) :
    Calls Try.prog 93 #[.slice a Q.length cap, .func (.func 94) #[] #[]] w fun e w' => e = .returned (.bool (sortB Q (Q.length - 1))) ∧ Below w.heap.size w w' := by
  obtain ⟨hh, hc, ho, hs⟩ := h
  clear ho
  rcases Nat.eq_zero_or_pos Q.length with h0 | h0
  · rw [h0]
    go_enter Try.func93, Try.ntmps93
    go_wp2
    go_loop [5] (fun i => i = .int .i64 (-1)) (fun i => 0)
    case atStart => first | rfl | simp
    case round =>
      obtain rfl := hrel
      go_wp2
      go_ret
      exact ⟨rfl, Below.refl _ _⟩
  obtain ⟨m, hm⟩ : ∃ m, Q.length = m + 1 := ⟨Q.length - 1, by omega⟩
  have em : Q.length - 1 = m := by omega
  rw [em]
  obtain ⟨n, hn⟩ : ∃ n, n = Q.length := ⟨_, rfl⟩
  rw [← hn] at hh hc hs hm h0 ⊢
  have hz : (n : Int) - 1 = (m : Int) := by omega
  have HM : Hid (n = m + 1) := hm
  clear em hn hm
  obtain rfl := hh h0
  clear hh h0
  go_enter Try.func93, Try.ntmps93
  go_wp2
  clear hz
  go_loopw [5] (fun i wr => ∃ k : Nat, k ≤ m ∧ i = .int .i64 k ∧ Below w.heap.size w wr ∧ ∀ i, k ≤ i → i < m → ¬ rk (Q.getD (i + 1) e0) (Q.getD i e0) < 0) (fun i _ => (intOf i).toNat)
  case atStart => exact ⟨m, Nat.le_refl _, by first | rfl | go_num, Below.refl _ _, fun i h1 h2 => by omega⟩
  case round =>
    obtain ⟨k, hk, rfl, hbel, hpre⟩ := hrel
    have HP : Hid (∀ i, k ≤ i → i < m → ¬ rk (Q.getD (i + 1) e0) (Q.getD i e0) < 0) := hpre
    clear hpre
    rcases Nat.eq_zero_or_pos k with rfl | hk0
    · go_wp2
      go_ret
      exact ⟨ret_bool (by symm; rw [sortB_iff]; exact fun i hi => by have := HP.out i (by omega) hi; omega), hbel⟩
    · obtain ⟨j, hj⟩ : ∃ j, k = j + 1 := ⟨k - 1, by omega⟩
      have hm := HM.out
      obtain ⟨c0, c1, c2, c3, c4, c5⟩ := ((hc k (by omega)).of hbel (At6.lt (hc k (by omega)))).six
      obtain ⟨d0, d1, d2, d3, d4, d5⟩ := ((hc j (by omega)).of hbel (At6.lt (hc j (by omega)))).six
      have bl : b < wr.heap.size := World.block_lt_of_cell? _ _ c0
      clear hc
      have hkz : (0 : Int) < (k : Int) := by omega
      have hj1 : (k : Int) - 1 = (j : Int) := by omega
      have hlt1 : (k : Int) < (n : Int) := by omega
      have hlt2 : (j : Int) < (n : Int) := by omega
      have hwj : IntKind.i64.wrap (j : Int) = (j : Int) := by rw [IntKind.wrap_i64]; omega
      have hkn : k < n := by omega
      have hjn : j < n := by omega
      generalize hx : Q.getD k e0 = x at *
      generalize hy : Q.getD j e0 = y at *
      have HX : Hid (Q.getD (j + 1) e0 = x) := by rw [← hj]; exact hx
      have HY : Hid (Q.getD j e0 = y) := hy
      have HJ : Hid (k = j + 1) := hj
      clear hx hy hj hm
      have hcall := rank_any x y
      simp only [ent_vals] at hcall
      by_cases hr : rk x y < 0
      · have HR : Hid (rk x y < 0) := hr
        generalize rk x y = r at hr hcall
        go_wp2
        refine wp_region_held_drew (S := (fun w' => w'.cell? ⟨b, off + k * 6, none⟩ = some (.int .i64 x.ep) ∧ w'.cell? ⟨b, off + k * 6 + 1, none⟩ = some (.int .i64 x.pr) ∧ w'.cell? ⟨b, off + k * 6 + 2, none⟩ = some (.slice x.aV x.V.length x.cV) ∧ w'.cell? ⟨b, off + k * 6 + 3, none⟩ = some (.slice x.aM x.M.length x.cM) ∧ w'.cell? ⟨b, off + k * 6 + 4, none⟩ = some (.slice x.aA x.A.length x.cA) ∧ w'.cell? ⟨b, off + k * 6 + 5, none⟩ = some (.int .i64 x.h) ∧ w'.cell? ⟨b, off + j * 6, none⟩ = some (.int .i64 y.ep) ∧ w'.cell? ⟨b, off + j * 6 + 1, none⟩ = some (.int .i64 y.pr) ∧ w'.cell? ⟨b, off + j * 6 + 2, none⟩ = some (.slice y.aV y.V.length y.cV) ∧ w'.cell? ⟨b, off + j * 6 + 3, none⟩ = some (.slice y.aM y.M.length y.cM) ∧ w'.cell? ⟨b, off + j * 6 + 4, none⟩ = some (.slice y.aA y.A.length y.cA) ∧ w'.cell? ⟨b, off + j * 6 + 5, none⟩ = some (.int .i64 y.h))) (by kernel_rfl) ⟨c0, c1, c2, c3, c4, c5, d0, d1, d2, d3, d4, d5⟩ (fun hHeld => ?_)
        refine take (i := 0) (d := some 13) (v := .func (.func 94) #[] #[]) rfl (by kernel_rfl) (by kernel_rfl) (by kernel_rfl) (by kernel_rfl) (fun _ _ _ h => h) (Or.inl ⟨by rfl, by intro w hSw; go_simp⟩) hHeld ?_
        simp only [Act.put, List.setIfInBounds_toArray, List.set_cons_zero, List.set_cons_succ]
        refine take (i := 1) (d := some 14) (v := .slice (some ⟨b, off, none⟩) n cap) rfl (by kernel_rfl) (by kernel_rfl) (by kernel_rfl) (by kernel_rfl) (fun _ _ _ h => h) (Or.inl ⟨by rfl, by intro w hSw; go_simp⟩) hHeld ?_
        simp only [Act.put, List.setIfInBounds_toArray, List.set_cons_zero, List.set_cons_succ]
        refine take (i := 2) (d := some 15) (v := .int .i64 k) rfl (by kernel_rfl) (by kernel_rfl) (by kernel_rfl) (by kernel_rfl) (fun _ _ _ h => h) (Or.inl ⟨by rfl, by intro w hSw; go_simp⟩) hHeld ?_
        simp only [Act.put, List.setIfInBounds_toArray, List.set_cons_zero, List.set_cons_succ]
        refine take (i := 3) (d := some 16) (v := .pointer (some ⟨b, off + k * 6, none⟩)) rfl (by kernel_rfl) (by kernel_rfl) (by kernel_rfl) (by kernel_rfl) (fun _ _ _ h => h) (Or.inl ⟨by rfl, by intro w hSw; go_simp⟩) hHeld ?_
        simp only [Act.put, List.setIfInBounds_toArray, List.set_cons_zero, List.set_cons_succ]
        refine take (i := 4) (d := some 17) (v := .agg #[.int .i64 x.ep, .int .i64 x.pr, .slice x.aV x.V.length x.cV, .slice x.aM x.M.length x.cM, .slice x.aA x.A.length x.cA, .int .i64 x.h]) rfl (by kernel_rfl) (by kernel_rfl) (by kernel_rfl) (by kernel_rfl) (fun _ _ _ h => h) (Or.inl ⟨by rfl, by intro w hSw; obtain ⟨c0, c1, c2, c3, c4, c5, d0, d1, d2, d3, d4, d5⟩ := hSw; go_simp⟩) hHeld ?_
        simp only [Act.put, List.setIfInBounds_toArray, List.set_cons_zero, List.set_cons_succ]
        refine take (i := 5) (d := some 18) (v := .slice (some ⟨b, off, none⟩) n cap) rfl (by kernel_rfl) (by kernel_rfl) (by kernel_rfl) (by kernel_rfl) (fun _ _ _ h => h) (Or.inl ⟨by rfl, by intro w hSw; go_simp⟩) hHeld ?_
        simp only [Act.put, List.setIfInBounds_toArray, List.set_cons_zero, List.set_cons_succ]
        refine take (i := 6) (d := some 19) (v := .int .i64 k) rfl (by kernel_rfl) (by kernel_rfl) (by kernel_rfl) (by kernel_rfl) (fun _ _ _ h => h) (Or.inl ⟨by rfl, by intro w hSw; go_simp⟩) hHeld ?_
        simp only [Act.put, List.setIfInBounds_toArray, List.set_cons_zero, List.set_cons_succ]
        refine take (i := 7) (d := some 20) (v := .int .i64 j) rfl (by kernel_rfl) (by kernel_rfl) (by kernel_rfl) (by kernel_rfl) (fun _ _ _ h => h) (Or.inl ⟨by rfl, by intro w hSw; go_simp⟩) hHeld ?_
        simp only [Act.put, List.setIfInBounds_toArray, List.set_cons_zero, List.set_cons_succ]
        refine take (i := 8) (d := some 21) (v := .pointer (some ⟨b, off + j * 6, none⟩)) rfl (by kernel_rfl) (by kernel_rfl) (by kernel_rfl) (by kernel_rfl) (fun _ _ _ h => h) (Or.inl ⟨by rfl, by intro w hSw; go_simp⟩) hHeld ?_
        simp only [Act.put, List.setIfInBounds_toArray, List.set_cons_zero, List.set_cons_succ]
        refine take (i := 9) (d := some 22) (v := .agg #[.int .i64 y.ep, .int .i64 y.pr, .slice y.aV y.V.length y.cV, .slice y.aM y.M.length y.cM, .slice y.aA y.A.length y.cA, .int .i64 y.h]) rfl (by kernel_rfl) (by kernel_rfl) (by kernel_rfl) (by kernel_rfl) (fun _ _ _ h => h) (Or.inl ⟨by rfl, by intro w hSw; obtain ⟨c0, c1, c2, c3, c4, c5, d0, d1, d2, d3, d4, d5⟩ := hSw; go_simp⟩) hHeld ?_
        simp only [Act.put, List.setIfInBounds_toArray, List.set_cons_zero, List.set_cons_succ]
        refine wpAnyH_ready (rs := [10]) (by kernel_rfl) (by simp) (callV2 (i := 10) rfl (by rfl) 94 (.tmp 13) (.tmp 17) (.tmp 22) 41 41 (by kernel_rfl) 23 (by kernel_rfl) rfl _ _ (by kernel_rfl) (by kernel_rfl) (fun _ => rfl) (hcall _) ?_ AllReadyH.nil)
        rintro e w1 ⟨rfl, hb⟩
        refine ⟨_, rfl, ⟨(hb.cell (by exact bl)).trans c0, (hb.cell (by exact bl)).trans c1, (hb.cell (by exact bl)).trans c2, (hb.cell (by exact bl)).trans c3, (hb.cell (by exact bl)).trans c4, (hb.cell (by exact bl)).trans c5, (hb.cell (by exact bl)).trans d0, (hb.cell (by exact bl)).trans d1, (hb.cell (by exact bl)).trans d2, (hb.cell (by exact bl)).trans d3, (hb.cell (by exact bl)).trans d4, (hb.cell (by exact bl)).trans d5⟩, fun hHeld => ?_⟩
        simp only [Act.put, List.setIfInBounds_toArray, List.set_cons_zero, List.set_cons_succ]
        refine take (i := 11) (d := some 24) (v := .bool true) rfl (by kernel_rfl) (by kernel_rfl) (by kernel_rfl) (by kernel_rfl) (fun _ _ _ h => h) (Or.inl ⟨by rfl, by intro w hSw; go_simp⟩) hHeld ?_
        simp only [Act.put, List.setIfInBounds_toArray, List.set_cons_zero, List.set_cons_succ]
        refine wpAnyH_done (by kernel_rfl) ?_ _
        go_wp2
        go_ret
        exact ⟨ret_bool (by symm; exact sortB_no (i := j) (by have := HJ.out; omega) (by rw [HX.out, HY.out]; exact HR.out)), Rw.next (by repeat (first | exact hbel | apply Below.drew)) hb⟩
      · have HR : Hid (¬ rk x y < 0) := hr
        generalize rk x y = r at hr hcall
        go_wp2
        refine wp_region_held_drew (S := (fun w' => w'.cell? ⟨b, off + k * 6, none⟩ = some (.int .i64 x.ep) ∧ w'.cell? ⟨b, off + k * 6 + 1, none⟩ = some (.int .i64 x.pr) ∧ w'.cell? ⟨b, off + k * 6 + 2, none⟩ = some (.slice x.aV x.V.length x.cV) ∧ w'.cell? ⟨b, off + k * 6 + 3, none⟩ = some (.slice x.aM x.M.length x.cM) ∧ w'.cell? ⟨b, off + k * 6 + 4, none⟩ = some (.slice x.aA x.A.length x.cA) ∧ w'.cell? ⟨b, off + k * 6 + 5, none⟩ = some (.int .i64 x.h) ∧ w'.cell? ⟨b, off + j * 6, none⟩ = some (.int .i64 y.ep) ∧ w'.cell? ⟨b, off + j * 6 + 1, none⟩ = some (.int .i64 y.pr) ∧ w'.cell? ⟨b, off + j * 6 + 2, none⟩ = some (.slice y.aV y.V.length y.cV) ∧ w'.cell? ⟨b, off + j * 6 + 3, none⟩ = some (.slice y.aM y.M.length y.cM) ∧ w'.cell? ⟨b, off + j * 6 + 4, none⟩ = some (.slice y.aA y.A.length y.cA) ∧ w'.cell? ⟨b, off + j * 6 + 5, none⟩ = some (.int .i64 y.h))) (by kernel_rfl) ⟨c0, c1, c2, c3, c4, c5, d0, d1, d2, d3, d4, d5⟩ (fun hHeld => ?_)
        refine take (i := 0) (d := some 13) (v := .func (.func 94) #[] #[]) rfl (by kernel_rfl) (by kernel_rfl) (by kernel_rfl) (by kernel_rfl) (fun _ _ _ h => h) (Or.inl ⟨by rfl, by intro w hSw; go_simp⟩) hHeld ?_
        simp only [Act.put, List.setIfInBounds_toArray, List.set_cons_zero, List.set_cons_succ]
        refine take (i := 1) (d := some 14) (v := .slice (some ⟨b, off, none⟩) n cap) rfl (by kernel_rfl) (by kernel_rfl) (by kernel_rfl) (by kernel_rfl) (fun _ _ _ h => h) (Or.inl ⟨by rfl, by intro w hSw; go_simp⟩) hHeld ?_
        simp only [Act.put, List.setIfInBounds_toArray, List.set_cons_zero, List.set_cons_succ]
        refine take (i := 2) (d := some 15) (v := .int .i64 k) rfl (by kernel_rfl) (by kernel_rfl) (by kernel_rfl) (by kernel_rfl) (fun _ _ _ h => h) (Or.inl ⟨by rfl, by intro w hSw; go_simp⟩) hHeld ?_
        simp only [Act.put, List.setIfInBounds_toArray, List.set_cons_zero, List.set_cons_succ]
        refine take (i := 3) (d := some 16) (v := .pointer (some ⟨b, off + k * 6, none⟩)) rfl (by kernel_rfl) (by kernel_rfl) (by kernel_rfl) (by kernel_rfl) (fun _ _ _ h => h) (Or.inl ⟨by rfl, by intro w hSw; go_simp⟩) hHeld ?_
        simp only [Act.put, List.setIfInBounds_toArray, List.set_cons_zero, List.set_cons_succ]
        refine take (i := 4) (d := some 17) (v := .agg #[.int .i64 x.ep, .int .i64 x.pr, .slice x.aV x.V.length x.cV, .slice x.aM x.M.length x.cM, .slice x.aA x.A.length x.cA, .int .i64 x.h]) rfl (by kernel_rfl) (by kernel_rfl) (by kernel_rfl) (by kernel_rfl) (fun _ _ _ h => h) (Or.inl ⟨by rfl, by intro w hSw; obtain ⟨c0, c1, c2, c3, c4, c5, d0, d1, d2, d3, d4, d5⟩ := hSw; go_simp⟩) hHeld ?_
        simp only [Act.put, List.setIfInBounds_toArray, List.set_cons_zero, List.set_cons_succ]
        refine take (i := 5) (d := some 18) (v := .slice (some ⟨b, off, none⟩) n cap) rfl (by kernel_rfl) (by kernel_rfl) (by kernel_rfl) (by kernel_rfl) (fun _ _ _ h => h) (Or.inl ⟨by rfl, by intro w hSw; go_simp⟩) hHeld ?_
        simp only [Act.put, List.setIfInBounds_toArray, List.set_cons_zero, List.set_cons_succ]
        refine take (i := 6) (d := some 19) (v := .int .i64 k) rfl (by kernel_rfl) (by kernel_rfl) (by kernel_rfl) (by kernel_rfl) (fun _ _ _ h => h) (Or.inl ⟨by rfl, by intro w hSw; go_simp⟩) hHeld ?_
        simp only [Act.put, List.setIfInBounds_toArray, List.set_cons_zero, List.set_cons_succ]
        refine take (i := 7) (d := some 20) (v := .int .i64 j) rfl (by kernel_rfl) (by kernel_rfl) (by kernel_rfl) (by kernel_rfl) (fun _ _ _ h => h) (Or.inl ⟨by rfl, by intro w hSw; go_simp⟩) hHeld ?_
        simp only [Act.put, List.setIfInBounds_toArray, List.set_cons_zero, List.set_cons_succ]
        refine take (i := 8) (d := some 21) (v := .pointer (some ⟨b, off + j * 6, none⟩)) rfl (by kernel_rfl) (by kernel_rfl) (by kernel_rfl) (by kernel_rfl) (fun _ _ _ h => h) (Or.inl ⟨by rfl, by intro w hSw; go_simp⟩) hHeld ?_
        simp only [Act.put, List.setIfInBounds_toArray, List.set_cons_zero, List.set_cons_succ]
        refine take (i := 9) (d := some 22) (v := .agg #[.int .i64 y.ep, .int .i64 y.pr, .slice y.aV y.V.length y.cV, .slice y.aM y.M.length y.cM, .slice y.aA y.A.length y.cA, .int .i64 y.h]) rfl (by kernel_rfl) (by kernel_rfl) (by kernel_rfl) (by kernel_rfl) (fun _ _ _ h => h) (Or.inl ⟨by rfl, by intro w hSw; obtain ⟨c0, c1, c2, c3, c4, c5, d0, d1, d2, d3, d4, d5⟩ := hSw; go_simp⟩) hHeld ?_
        simp only [Act.put, List.setIfInBounds_toArray, List.set_cons_zero, List.set_cons_succ]
        refine wpAnyH_ready (rs := [10]) (by kernel_rfl) (by simp) (callV2 (i := 10) rfl (by rfl) 94 (.tmp 13) (.tmp 17) (.tmp 22) 41 41 (by kernel_rfl) 23 (by kernel_rfl) rfl _ _ (by kernel_rfl) (by kernel_rfl) (fun _ => rfl) (hcall _) ?_ AllReadyH.nil)
        rintro e w1 ⟨rfl, hb⟩
        refine ⟨_, rfl, ⟨(hb.cell (by exact bl)).trans c0, (hb.cell (by exact bl)).trans c1, (hb.cell (by exact bl)).trans c2, (hb.cell (by exact bl)).trans c3, (hb.cell (by exact bl)).trans c4, (hb.cell (by exact bl)).trans c5, (hb.cell (by exact bl)).trans d0, (hb.cell (by exact bl)).trans d1, (hb.cell (by exact bl)).trans d2, (hb.cell (by exact bl)).trans d3, (hb.cell (by exact bl)).trans d4, (hb.cell (by exact bl)).trans d5⟩, fun hHeld => ?_⟩
        simp only [Act.put, List.setIfInBounds_toArray, List.set_cons_zero, List.set_cons_succ]
        refine take (i := 11) (d := some 24) (v := .bool false) rfl (by kernel_rfl) (by kernel_rfl) (by kernel_rfl) (by kernel_rfl) (fun _ _ _ h => h) (Or.inl ⟨by rfl, by intro w hSw; go_simp⟩) hHeld ?_
        simp only [Act.put, List.setIfInBounds_toArray, List.set_cons_zero, List.set_cons_succ]
        refine wpAnyH_done (by kernel_rfl) ?_ _
        go_wp2
        go_roundw
        all_goals first
          | exact ⟨j, by have := HJ.out; omega, by first | rfl | go_num, Rw.next (by repeat (first | exact hbel | apply Below.drew)) hb, fun i h1 h2 => by
              by_cases e : i = j
              · subst e; rw [HX.out, HY.out]; have := HR.out; omega
              · have := HP.out i (by have := HJ.out; omega) h2; omega⟩
          | (simp [intOf]; omega)


end Go.Proofs.Ytcbgnfjnjfaacaa.Ra
namespace Go.Proofs.Ytcbgnfjnjfaacaa.Ra
set_option maxRecDepth 8000
set_option linter.unusedSimpArgs false
set_option linter.unusedVariables false
open Go Go.RowKit
open Num Pl Ea Pq

/-- The first place whose entry is not ahead of e. -/
def Place (Q : List Ent) (e : Ent) (k : Nat) : Prop := k ≤ Q.length ∧ (∀ m, m < k → rk (Q.getD m e0) e < 0) ∧ ∀ m, k ≤ m → m < Q.length → ¬ rk (Q.getD m e0) e < 0

def ResS (w : World) (Q : List Ent) (e : Ent) (x : Ending) (w' : World) : Prop := Below w.heap.size w w' ∧ ∃ (k : Nat) (r : Bool), x = .returned (.tuple #[.int .i64 k, .bool r]) ∧ Place Q e k
set_option maxHeartbeats 8000000 in
theorem search_any (a : Option Addr) (b off cap : Nat) (Q : List Ent) (e : Ent) (w : World) (h : Rd w a b off Q) (hmono : ∀ i j, i ≤ j → j < Q.length → rk (Q.getD j e0) e < 0 → rk (Q.getD i e0) e < 0) :
    Calls Try.prog 130 #[.slice a Q.length cap, .agg e.vals, .func (.func 94) #[] #[]] w (ResS w Q e) := by
  obtain ⟨hh, hc, ho, hs⟩ := h
  clear ho
  obtain ⟨n, hn⟩ : ∃ n, n = Q.length := ⟨_, rfl⟩
  rw [← hn] at hh hc hs hmono ⊢
  have HM : Hid (∀ i j, i ≤ j → j < n → rk (Q.getD j e0) e < 0 → rk (Q.getD i e0) e < 0) := hmono
  have HN : Hid (n = Q.length) := hn
  clear hn hmono
  obtain ⟨W1, hW1⟩ : ∃ W1, W1 = w.alloc (.cells e.vals 41) := ⟨_, rfl⟩
  have B1 : Below w.heap.size w W1 := by subst hW1; exact below_alloc1 _ _
  have k0 : W1.heap[w.heap.size]? = some (.cells #[.int .i64 e.ep, .int .i64 e.pr, .slice e.aV e.V.length e.cV, .slice e.aM e.M.length e.cM, .slice e.aA e.A.length e.cA, .int .i64 e.h] 41 (0, 0)) := by subst hW1; exact at_new rfl
  simp only [ent_vals] at hW1 ⊢
  go_enter Try.func130, Try.ntmps130
  go_wp2
  rw [← hW1]
  clear hW1
  go_loopw [9, 10] (fun u v wr => ∃ i j : Nat, i ≤ j ∧ j ≤ n ∧ u = .int .i64 i ∧ v = .int .i64 j ∧ Below w.heap.size w wr ∧ wr.heap[w.heap.size]? = some (.cells #[.int .i64 e.ep, .int .i64 e.pr, .slice e.aV e.V.length e.cV, .slice e.aM e.M.length e.cM, .slice e.aA e.A.length e.cA, .int .i64 e.h] 41 (0, 0)) ∧ (∀ m, m < i → rk (Q.getD m e0) e < 0) ∧ ∀ m, j ≤ m → m < n → ¬ rk (Q.getD m e0) e < 0) (fun u v _ => (intOf v).toNat - (intOf u).toNat)
  case atStart => exact ⟨0, n, Nat.zero_le _, Nat.le_refl _, rfl, rfl, B1, k0, fun m hm => by omega, fun m h1 h2 => by omega⟩
  case round =>
    clear k0 B1
    obtain ⟨i, j, hij, hjn, rfl, rfl, hbel, kT, hlo, hhi⟩ := hrel
    have HL : Hid (∀ m, m < i → rk (Q.getD m e0) e < 0) := hlo
    have HH : Hid (∀ m, j ≤ m → m < n → ¬ rk (Q.getD m e0) e < 0) := hhi
    clear hlo hhi
    obtain ⟨d0, d1, d2, d3, d4, d5⟩ := six kT
    have bt := blk_lt kT
    by_cases hlt : i < j
    · have hltz : (i : Int) < (j : Int) := by omega
      obtain ⟨h, hh2⟩ : ∃ h, h = (i + j) / 2 := ⟨_, rfl⟩
      have hih : i ≤ h := by omega
      have hhj : h < j := by omega
      obtain rfl := hh (by omega)
      obtain ⟨c0, c1, c2, c3, c4, c5⟩ := ((hc h (by omega)).of hbel (At6.lt (hc h (by omega)))).six
      have bl : b < wr.heap.size := World.block_lt_of_cell? _ _ c0
      have HX : Hid (Q.getD h e0 = Q.getD h e0) := rfl
      go_wp2
      have eh : ((i : Int) + (j : Int)) / 2 = (h : Int) := by omega
      rw [eh]
      clear hc hh eh
      have HK : Hid (i ≤ h ∧ h < j ∧ j ≤ n) := ⟨hih, hhj, hjn⟩
      have hnz : (h : Int) < (n : Int) := by omega
      have hhn : h < n := by omega
      clear hij hjn hh2 hih hhj hltz hlt
      obtain ⟨x, hx⟩ : ∃ x, x = Q.getD h e0 := ⟨_, rfl⟩
      rw [← hx] at c0 c1 c2 c3 c4 c5
      have HX : Hid (Q.getD h e0 = x) := hx.symm
      clear hx
      have hcall := rank_any x e
      simp only [ent_vals] at hcall
      by_cases hr : rk x e < 0
      · have HR : Hid (rk x e < 0) := hr
        generalize rk x e = r at hr hcall
        refine wp_region_held_drew (S := (fun w' => w'.cell? ⟨b, off + h * 6, none⟩ = some (.int .i64 x.ep) ∧ w'.cell? ⟨b, off + h * 6 + 1, none⟩ = some (.int .i64 x.pr) ∧ w'.cell? ⟨b, off + h * 6 + 2, none⟩ = some (.slice x.aV x.V.length x.cV) ∧ w'.cell? ⟨b, off + h * 6 + 3, none⟩ = some (.slice x.aM x.M.length x.cM) ∧ w'.cell? ⟨b, off + h * 6 + 4, none⟩ = some (.slice x.aA x.A.length x.cA) ∧ w'.cell? ⟨b, off + h * 6 + 5, none⟩ = some (.int .i64 x.h) ∧ w'.cell? ⟨w.heap.size, 0, none⟩ = some (.int .i64 e.ep) ∧ w'.cell? ⟨w.heap.size, 1, none⟩ = some (.int .i64 e.pr) ∧ w'.cell? ⟨w.heap.size, 2, none⟩ = some (.slice e.aV e.V.length e.cV) ∧ w'.cell? ⟨w.heap.size, 3, none⟩ = some (.slice e.aM e.M.length e.cM) ∧ w'.cell? ⟨w.heap.size, 4, none⟩ = some (.slice e.aA e.A.length e.cA) ∧ w'.cell? ⟨w.heap.size, 5, none⟩ = some (.int .i64 e.h))) (by kernel_rfl) ⟨c0, c1, c2, c3, c4, c5, d0, d1, d2, d3, d4, d5⟩ (fun hHeld => ?_)
        refine take (i := 0) (d := some 24) (v := .func (.func 94) #[] #[]) rfl (by kernel_rfl) (by kernel_rfl) (by kernel_rfl) (by kernel_rfl) (fun _ _ _ h => h) (Or.inl ⟨by rfl, by intro w hSw; go_simp⟩) hHeld ?_
        simp only [Act.put, List.setIfInBounds_toArray, List.set_cons_zero, List.set_cons_succ]
        refine take (i := 1) (d := some 25) (v := .slice (some ⟨b, off, none⟩) n cap) rfl (by kernel_rfl) (by kernel_rfl) (by kernel_rfl) (by kernel_rfl) (fun _ _ _ h => h) (Or.inl ⟨by rfl, by intro w hSw; go_simp⟩) hHeld ?_
        simp only [Act.put, List.setIfInBounds_toArray, List.set_cons_zero, List.set_cons_succ]
        refine take (i := 2) (d := some 26) (v := .int .i64 h) rfl (by kernel_rfl) (by kernel_rfl) (by kernel_rfl) (by kernel_rfl) (fun _ _ _ h => h) (Or.inl ⟨by rfl, by intro w hSw; go_simp⟩) hHeld ?_
        simp only [Act.put, List.setIfInBounds_toArray, List.set_cons_zero, List.set_cons_succ]
        refine take (i := 3) (d := some 27) (v := .pointer (some ⟨b, off + h * 6, none⟩)) rfl (by kernel_rfl) (by kernel_rfl) (by kernel_rfl) (by kernel_rfl) (fun _ _ _ h => h) (Or.inl ⟨by rfl, by intro w hSw; go_simp⟩) hHeld ?_
        simp only [Act.put, List.setIfInBounds_toArray, List.set_cons_zero, List.set_cons_succ]
        refine take (i := 4) (d := some 28) (v := .agg #[.int .i64 x.ep, .int .i64 x.pr, .slice x.aV x.V.length x.cV, .slice x.aM x.M.length x.cM, .slice x.aA x.A.length x.cA, .int .i64 x.h]) rfl (by kernel_rfl) (by kernel_rfl) (by kernel_rfl) (by kernel_rfl) (fun _ _ _ h => h) (Or.inl ⟨by rfl, by intro w hSw; obtain ⟨c0, c1, c2, c3, c4, c5, d0, d1, d2, d3, d4, d5⟩ := hSw; go_simp⟩) hHeld ?_
        simp only [Act.put, List.setIfInBounds_toArray, List.set_cons_zero, List.set_cons_succ]
        refine take (i := 5) (d := some 29) (v := .agg #[.int .i64 e.ep, .int .i64 e.pr, .slice e.aV e.V.length e.cV, .slice e.aM e.M.length e.cM, .slice e.aA e.A.length e.cA, .int .i64 e.h]) rfl (by kernel_rfl) (by kernel_rfl) (by kernel_rfl) (by kernel_rfl) (fun _ _ _ h => h) (Or.inl ⟨by rfl, by intro w hSw; obtain ⟨c0, c1, c2, c3, c4, c5, d0, d1, d2, d3, d4, d5⟩ := hSw; go_simp⟩) hHeld ?_
        simp only [Act.put, List.setIfInBounds_toArray, List.set_cons_zero, List.set_cons_succ]
        refine wpAnyH_ready (rs := [6]) (by kernel_rfl) (by simp) (callV2 (i := 6) rfl (by rfl) 94 (.tmp 24) (.tmp 28) (.tmp 29) 41 41 (by kernel_rfl) 30 (by kernel_rfl) rfl _ _ (by kernel_rfl) (by kernel_rfl) (fun _ => rfl) (hcall _) ?_ AllReadyH.nil)
        rintro e w1 ⟨rfl, hb⟩
        refine ⟨_, rfl, ⟨(hb.cell (by exact bl)).trans c0, (hb.cell (by exact bl)).trans c1, (hb.cell (by exact bl)).trans c2, (hb.cell (by exact bl)).trans c3, (hb.cell (by exact bl)).trans c4, (hb.cell (by exact bl)).trans c5, (hb.cell (by exact bt)).trans d0, (hb.cell (by exact bt)).trans d1, (hb.cell (by exact bt)).trans d2, (hb.cell (by exact bt)).trans d3, (hb.cell (by exact bt)).trans d4, (hb.cell (by exact bt)).trans d5⟩, fun hHeld => ?_⟩
        simp only [Act.put, List.setIfInBounds_toArray, List.set_cons_zero, List.set_cons_succ]
        refine take (i := 7) (d := some 31) (v := .bool true) rfl (by kernel_rfl) (by kernel_rfl) (by kernel_rfl) (by kernel_rfl) (fun _ _ _ h => h) (Or.inl ⟨by rfl, by intro w hSw; go_simp⟩) hHeld ?_
        simp only [Act.put, List.setIfInBounds_toArray, List.set_cons_zero, List.set_cons_succ]
        refine wpAnyH_done (by kernel_rfl) ?_ _
        replace kT := (hb.block _ bt).trans kT
        go_wp2
        go_roundw
        case rel => exact ⟨h + 1, j, by have := HK.out; omega, by have := HK.out; omega, by go_num, rfl, Rw.next (by repeat (first | exact hbel | apply Below.drew)) hb, kT, fun m hm => HM.out m h (by omega) (by have := HK.out; omega) (by rw [HX.out]; exact HR.out), fun m h1 h2 => by have := HH.out m h1 h2; omega⟩
        case measure => have := HK.out; simp [intOf]; omega
      · have HR : Hid (¬ rk x e < 0) := hr
        generalize rk x e = r at hr hcall
        refine wp_region_held_drew (S := (fun w' => w'.cell? ⟨b, off + h * 6, none⟩ = some (.int .i64 x.ep) ∧ w'.cell? ⟨b, off + h * 6 + 1, none⟩ = some (.int .i64 x.pr) ∧ w'.cell? ⟨b, off + h * 6 + 2, none⟩ = some (.slice x.aV x.V.length x.cV) ∧ w'.cell? ⟨b, off + h * 6 + 3, none⟩ = some (.slice x.aM x.M.length x.cM) ∧ w'.cell? ⟨b, off + h * 6 + 4, none⟩ = some (.slice x.aA x.A.length x.cA) ∧ w'.cell? ⟨b, off + h * 6 + 5, none⟩ = some (.int .i64 x.h) ∧ w'.cell? ⟨w.heap.size, 0, none⟩ = some (.int .i64 e.ep) ∧ w'.cell? ⟨w.heap.size, 1, none⟩ = some (.int .i64 e.pr) ∧ w'.cell? ⟨w.heap.size, 2, none⟩ = some (.slice e.aV e.V.length e.cV) ∧ w'.cell? ⟨w.heap.size, 3, none⟩ = some (.slice e.aM e.M.length e.cM) ∧ w'.cell? ⟨w.heap.size, 4, none⟩ = some (.slice e.aA e.A.length e.cA) ∧ w'.cell? ⟨w.heap.size, 5, none⟩ = some (.int .i64 e.h))) (by kernel_rfl) ⟨c0, c1, c2, c3, c4, c5, d0, d1, d2, d3, d4, d5⟩ (fun hHeld => ?_)
        refine take (i := 0) (d := some 24) (v := .func (.func 94) #[] #[]) rfl (by kernel_rfl) (by kernel_rfl) (by kernel_rfl) (by kernel_rfl) (fun _ _ _ h => h) (Or.inl ⟨by rfl, by intro w hSw; go_simp⟩) hHeld ?_
        simp only [Act.put, List.setIfInBounds_toArray, List.set_cons_zero, List.set_cons_succ]
        refine take (i := 1) (d := some 25) (v := .slice (some ⟨b, off, none⟩) n cap) rfl (by kernel_rfl) (by kernel_rfl) (by kernel_rfl) (by kernel_rfl) (fun _ _ _ h => h) (Or.inl ⟨by rfl, by intro w hSw; go_simp⟩) hHeld ?_
        simp only [Act.put, List.setIfInBounds_toArray, List.set_cons_zero, List.set_cons_succ]
        refine take (i := 2) (d := some 26) (v := .int .i64 h) rfl (by kernel_rfl) (by kernel_rfl) (by kernel_rfl) (by kernel_rfl) (fun _ _ _ h => h) (Or.inl ⟨by rfl, by intro w hSw; go_simp⟩) hHeld ?_
        simp only [Act.put, List.setIfInBounds_toArray, List.set_cons_zero, List.set_cons_succ]
        refine take (i := 3) (d := some 27) (v := .pointer (some ⟨b, off + h * 6, none⟩)) rfl (by kernel_rfl) (by kernel_rfl) (by kernel_rfl) (by kernel_rfl) (fun _ _ _ h => h) (Or.inl ⟨by rfl, by intro w hSw; go_simp⟩) hHeld ?_
        simp only [Act.put, List.setIfInBounds_toArray, List.set_cons_zero, List.set_cons_succ]
        refine take (i := 4) (d := some 28) (v := .agg #[.int .i64 x.ep, .int .i64 x.pr, .slice x.aV x.V.length x.cV, .slice x.aM x.M.length x.cM, .slice x.aA x.A.length x.cA, .int .i64 x.h]) rfl (by kernel_rfl) (by kernel_rfl) (by kernel_rfl) (by kernel_rfl) (fun _ _ _ h => h) (Or.inl ⟨by rfl, by intro w hSw; obtain ⟨c0, c1, c2, c3, c4, c5, d0, d1, d2, d3, d4, d5⟩ := hSw; go_simp⟩) hHeld ?_
        simp only [Act.put, List.setIfInBounds_toArray, List.set_cons_zero, List.set_cons_succ]
        refine take (i := 5) (d := some 29) (v := .agg #[.int .i64 e.ep, .int .i64 e.pr, .slice e.aV e.V.length e.cV, .slice e.aM e.M.length e.cM, .slice e.aA e.A.length e.cA, .int .i64 e.h]) rfl (by kernel_rfl) (by kernel_rfl) (by kernel_rfl) (by kernel_rfl) (fun _ _ _ h => h) (Or.inl ⟨by rfl, by intro w hSw; obtain ⟨c0, c1, c2, c3, c4, c5, d0, d1, d2, d3, d4, d5⟩ := hSw; go_simp⟩) hHeld ?_
        simp only [Act.put, List.setIfInBounds_toArray, List.set_cons_zero, List.set_cons_succ]
        refine wpAnyH_ready (rs := [6]) (by kernel_rfl) (by simp) (callV2 (i := 6) rfl (by rfl) 94 (.tmp 24) (.tmp 28) (.tmp 29) 41 41 (by kernel_rfl) 30 (by kernel_rfl) rfl _ _ (by kernel_rfl) (by kernel_rfl) (fun _ => rfl) (hcall _) ?_ AllReadyH.nil)
        rintro e w1 ⟨rfl, hb⟩
        refine ⟨_, rfl, ⟨(hb.cell (by exact bl)).trans c0, (hb.cell (by exact bl)).trans c1, (hb.cell (by exact bl)).trans c2, (hb.cell (by exact bl)).trans c3, (hb.cell (by exact bl)).trans c4, (hb.cell (by exact bl)).trans c5, (hb.cell (by exact bt)).trans d0, (hb.cell (by exact bt)).trans d1, (hb.cell (by exact bt)).trans d2, (hb.cell (by exact bt)).trans d3, (hb.cell (by exact bt)).trans d4, (hb.cell (by exact bt)).trans d5⟩, fun hHeld => ?_⟩
        simp only [Act.put, List.setIfInBounds_toArray, List.set_cons_zero, List.set_cons_succ]
        refine take (i := 7) (d := some 31) (v := .bool false) rfl (by kernel_rfl) (by kernel_rfl) (by kernel_rfl) (by kernel_rfl) (fun _ _ _ h => h) (Or.inl ⟨by rfl, by intro w hSw; go_simp⟩) hHeld ?_
        simp only [Act.put, List.setIfInBounds_toArray, List.set_cons_zero, List.set_cons_succ]
        refine wpAnyH_done (by kernel_rfl) ?_ _
        replace kT := (hb.block _ bt).trans kT
        go_wp2
        go_roundw
        case rel => exact ⟨i, h, by have := HK.out; omega, by have := HK.out; omega, rfl, rfl, Rw.next (by repeat (first | exact hbel | apply Below.drew)) hb, kT, HL.out, fun m h1 h2 h3 => by have := HM.out h m h1 h2 h3; rw [HX.out] at this; have := HR.out; omega⟩
        case measure => have := HK.out; simp [intOf]; omega
    · obtain rfl : i = j := by omega
      obtain ⟨h, hih⟩ : ∃ h, h = i := ⟨_, rfl⟩
      subst hih
      by_cases hn : h < n
      · obtain rfl := hh (by omega)
        have hnz : (h : Int) < (n : Int) := by omega
        obtain ⟨c0, c1, c2, c3, c4, c5⟩ := ((hc h hn).of hbel (At6.lt (hc h hn))).six
        have bl : b < wr.heap.size := World.block_lt_of_cell? _ _ c0
        clear hc hh
        generalize Q.getD h e0 = x at *
        have hcall := rank_any x e
        simp only [ent_vals] at hcall
        generalize rk x e = r at hcall
        by_cases hr : r = 0
        · go_wp2
          refine wp_region_held_drew (S := (fun w' => w'.cell? ⟨b, off + h * 6, none⟩ = some (.int .i64 x.ep) ∧ w'.cell? ⟨b, off + h * 6 + 1, none⟩ = some (.int .i64 x.pr) ∧ w'.cell? ⟨b, off + h * 6 + 2, none⟩ = some (.slice x.aV x.V.length x.cV) ∧ w'.cell? ⟨b, off + h * 6 + 3, none⟩ = some (.slice x.aM x.M.length x.cM) ∧ w'.cell? ⟨b, off + h * 6 + 4, none⟩ = some (.slice x.aA x.A.length x.cA) ∧ w'.cell? ⟨b, off + h * 6 + 5, none⟩ = some (.int .i64 x.h) ∧ w'.cell? ⟨w.heap.size, 0, none⟩ = some (.int .i64 e.ep) ∧ w'.cell? ⟨w.heap.size, 1, none⟩ = some (.int .i64 e.pr) ∧ w'.cell? ⟨w.heap.size, 2, none⟩ = some (.slice e.aV e.V.length e.cV) ∧ w'.cell? ⟨w.heap.size, 3, none⟩ = some (.slice e.aM e.M.length e.cM) ∧ w'.cell? ⟨w.heap.size, 4, none⟩ = some (.slice e.aA e.A.length e.cA) ∧ w'.cell? ⟨w.heap.size, 5, none⟩ = some (.int .i64 e.h))) (by kernel_rfl) ⟨c0, c1, c2, c3, c4, c5, d0, d1, d2, d3, d4, d5⟩ (fun hHeld => ?_)
          refine take (i := 0) (d := some 35) (v := .int .i64 h) rfl (by kernel_rfl) (by kernel_rfl) (by kernel_rfl) (by kernel_rfl) (fun _ _ _ h => h) (Or.inl ⟨by rfl, by intro w hSw; go_simp⟩) hHeld ?_
          simp only [Act.put, List.setIfInBounds_toArray, List.set_cons_zero, List.set_cons_succ]
          refine take (i := 1) (d := some 36) (v := .int .i64 h) rfl (by kernel_rfl) (by kernel_rfl) (by kernel_rfl) (by kernel_rfl) (fun _ _ _ h => h) (Or.inl ⟨by rfl, by intro w hSw; go_simp⟩) hHeld ?_
          simp only [Act.put, List.setIfInBounds_toArray, List.set_cons_zero, List.set_cons_succ]
          refine take (i := 2) (d := some 37) (v := .int .i64 n) rfl (by kernel_rfl) (by kernel_rfl) (by kernel_rfl) (by kernel_rfl) (fun _ _ _ h => h) (Or.inl ⟨by rfl, by intro w hSw; go_simp⟩) hHeld ?_
          simp only [Act.put, List.setIfInBounds_toArray, List.set_cons_zero, List.set_cons_succ]
          refine take (i := 3) (d := some 38) (v := .bool true) rfl (by kernel_rfl) (by kernel_rfl) (by kernel_rfl) (by kernel_rfl) (fun _ _ _ h => h) (Or.inl ⟨by rfl, by intro w hSw; go_simp⟩) hHeld ?_
          simp only [Act.put, List.setIfInBounds_toArray, List.set_cons_zero, List.set_cons_succ]
          refine take (i := 4) (d := some 39) (v := .bool true) rfl (by kernel_rfl) (by kernel_rfl) (by kernel_rfl) (by kernel_rfl) (fun _ _ _ h => h) (Or.inl ⟨by rfl, by intro w hSw; go_simp⟩) hHeld ?_
          simp only [Act.put, List.setIfInBounds_toArray, List.set_cons_zero, List.set_cons_succ]
          refine take (i := 5) (d := some 40) (v := .func (.func 94) #[] #[]) rfl (by kernel_rfl) (by kernel_rfl) (by kernel_rfl) (by kernel_rfl) (fun _ _ _ h => h) (Or.inl ⟨by rfl, by intro w hSw; go_simp⟩) hHeld ?_
          simp only [Act.put, List.setIfInBounds_toArray, List.set_cons_zero, List.set_cons_succ]
          refine take (i := 6) (d := some 41) (v := .slice (some ⟨b, off, none⟩) n cap) rfl (by kernel_rfl) (by kernel_rfl) (by kernel_rfl) (by kernel_rfl) (fun _ _ _ h => h) (Or.inl ⟨by rfl, by intro w hSw; go_simp⟩) hHeld ?_
          simp only [Act.put, List.setIfInBounds_toArray, List.set_cons_zero, List.set_cons_succ]
          refine take (i := 7) (d := some 42) (v := .int .i64 h) rfl (by kernel_rfl) (by kernel_rfl) (by kernel_rfl) (by kernel_rfl) (fun _ _ _ h => h) (Or.inl ⟨by rfl, by intro w hSw; go_simp⟩) hHeld ?_
          simp only [Act.put, List.setIfInBounds_toArray, List.set_cons_zero, List.set_cons_succ]
          refine take (i := 8) (d := some 43) (v := .pointer (some ⟨b, off + h * 6, none⟩)) rfl (by kernel_rfl) (by kernel_rfl) (by kernel_rfl) (by kernel_rfl) (fun _ _ _ h => h) (Or.inl ⟨by rfl, by intro w hSw; go_simp⟩) hHeld ?_
          simp only [Act.put, List.setIfInBounds_toArray, List.set_cons_zero, List.set_cons_succ]
          refine take (i := 9) (d := some 44) (v := .agg #[.int .i64 x.ep, .int .i64 x.pr, .slice x.aV x.V.length x.cV, .slice x.aM x.M.length x.cM, .slice x.aA x.A.length x.cA, .int .i64 x.h]) rfl (by kernel_rfl) (by kernel_rfl) (by kernel_rfl) (by kernel_rfl) (fun _ _ _ h => h) (Or.inl ⟨by rfl, by intro w hSw; obtain ⟨c0, c1, c2, c3, c4, c5, d0, d1, d2, d3, d4, d5⟩ := hSw; go_simp⟩) hHeld ?_
          simp only [Act.put, List.setIfInBounds_toArray, List.set_cons_zero, List.set_cons_succ]
          refine take (i := 10) (d := some 45) (v := .agg #[.int .i64 e.ep, .int .i64 e.pr, .slice e.aV e.V.length e.cV, .slice e.aM e.M.length e.cM, .slice e.aA e.A.length e.cA, .int .i64 e.h]) rfl (by kernel_rfl) (by kernel_rfl) (by kernel_rfl) (by kernel_rfl) (fun _ _ _ h => h) (Or.inl ⟨by rfl, by intro w hSw; obtain ⟨c0, c1, c2, c3, c4, c5, d0, d1, d2, d3, d4, d5⟩ := hSw; go_simp⟩) hHeld ?_
          simp only [Act.put, List.setIfInBounds_toArray, List.set_cons_zero, List.set_cons_succ]
          refine wpAnyH_ready (rs := [11]) (by kernel_rfl) (by simp) (callV2 (i := 11) rfl (by rfl) 94 (.tmp 40) (.tmp 44) (.tmp 45) 41 41 (by kernel_rfl) 46 (by kernel_rfl) rfl _ _ (by kernel_rfl) (by kernel_rfl) (fun _ => rfl) (hcall _) ?_ AllReadyH.nil)
          rintro e w1 ⟨rfl, hb⟩
          refine ⟨_, rfl, ⟨(hb.cell (by exact bl)).trans c0, (hb.cell (by exact bl)).trans c1, (hb.cell (by exact bl)).trans c2, (hb.cell (by exact bl)).trans c3, (hb.cell (by exact bl)).trans c4, (hb.cell (by exact bl)).trans c5, (hb.cell (by exact bt)).trans d0, (hb.cell (by exact bt)).trans d1, (hb.cell (by exact bt)).trans d2, (hb.cell (by exact bt)).trans d3, (hb.cell (by exact bt)).trans d4, (hb.cell (by exact bt)).trans d5⟩, fun hHeld => ?_⟩
          simp only [Act.put, List.setIfInBounds_toArray, List.set_cons_zero, List.set_cons_succ]
          refine take (i := 12) (d := some 47) (v := .bool true) rfl (by kernel_rfl) (by kernel_rfl) (by kernel_rfl) (by kernel_rfl) (fun _ _ _ h => h) (Or.inl ⟨by rfl, by intro w hSw; go_simp⟩) hHeld ?_
          simp only [Act.put, List.setIfInBounds_toArray, List.set_cons_zero, List.set_cons_succ]
          refine take (i := 13) (d := some 48) (v := .bool true) rfl (by kernel_rfl) (by kernel_rfl) (by kernel_rfl) (by kernel_rfl) (fun _ _ _ h => h) (Or.inl ⟨by rfl, by intro w hSw; go_simp⟩) hHeld ?_
          simp only [Act.put, List.setIfInBounds_toArray, List.set_cons_zero, List.set_cons_succ]
          refine take (i := 14) (d := some 6) (v := .int .i64 h) rfl (by kernel_rfl) (by kernel_rfl) (by kernel_rfl) (by kernel_rfl) (fun _ _ _ h => h) (Or.inl ⟨by rfl, by intro w hSw; go_simp⟩) hHeld ?_
          simp only [Act.put, List.setIfInBounds_toArray, List.set_cons_zero, List.set_cons_succ]
          refine take (i := 15) (d := some 7) (v := .bool true) rfl (by kernel_rfl) (by kernel_rfl) (by kernel_rfl) (by kernel_rfl) (fun _ _ _ h => h) (Or.inl ⟨by rfl, by intro w hSw; go_simp⟩) hHeld ?_
          simp only [Act.put, List.setIfInBounds_toArray, List.set_cons_zero, List.set_cons_succ]
          refine wpAnyH_done (by kernel_rfl) ?_ _
          go_wp2
          exact bodyPost_ret (v := .tuple #[.int .i64 h, .bool true]) (by simp [results, Try.results130, go_sem]) rfl ⟨Rw.next (by repeat (first | exact hbel | apply Below.drew)) hb, h, _, rfl, by have := HN.out; omega, HL.out, fun m h1 h2 => by have := HH.out m h1 (by have := HN.out; omega); omega⟩
        · have hr' : (r == 0) = false := by simpa using hr
          go_wp2
          refine wp_region_held_drew (S := (fun w' => w'.cell? ⟨b, off + h * 6, none⟩ = some (.int .i64 x.ep) ∧ w'.cell? ⟨b, off + h * 6 + 1, none⟩ = some (.int .i64 x.pr) ∧ w'.cell? ⟨b, off + h * 6 + 2, none⟩ = some (.slice x.aV x.V.length x.cV) ∧ w'.cell? ⟨b, off + h * 6 + 3, none⟩ = some (.slice x.aM x.M.length x.cM) ∧ w'.cell? ⟨b, off + h * 6 + 4, none⟩ = some (.slice x.aA x.A.length x.cA) ∧ w'.cell? ⟨b, off + h * 6 + 5, none⟩ = some (.int .i64 x.h) ∧ w'.cell? ⟨w.heap.size, 0, none⟩ = some (.int .i64 e.ep) ∧ w'.cell? ⟨w.heap.size, 1, none⟩ = some (.int .i64 e.pr) ∧ w'.cell? ⟨w.heap.size, 2, none⟩ = some (.slice e.aV e.V.length e.cV) ∧ w'.cell? ⟨w.heap.size, 3, none⟩ = some (.slice e.aM e.M.length e.cM) ∧ w'.cell? ⟨w.heap.size, 4, none⟩ = some (.slice e.aA e.A.length e.cA) ∧ w'.cell? ⟨w.heap.size, 5, none⟩ = some (.int .i64 e.h))) (by kernel_rfl) ⟨c0, c1, c2, c3, c4, c5, d0, d1, d2, d3, d4, d5⟩ (fun hHeld => ?_)
          refine take (i := 0) (d := some 35) (v := .int .i64 h) rfl (by kernel_rfl) (by kernel_rfl) (by kernel_rfl) (by kernel_rfl) (fun _ _ _ h => h) (Or.inl ⟨by rfl, by intro w hSw; go_simp⟩) hHeld ?_
          simp only [Act.put, List.setIfInBounds_toArray, List.set_cons_zero, List.set_cons_succ]
          refine take (i := 1) (d := some 36) (v := .int .i64 h) rfl (by kernel_rfl) (by kernel_rfl) (by kernel_rfl) (by kernel_rfl) (fun _ _ _ h => h) (Or.inl ⟨by rfl, by intro w hSw; go_simp⟩) hHeld ?_
          simp only [Act.put, List.setIfInBounds_toArray, List.set_cons_zero, List.set_cons_succ]
          refine take (i := 2) (d := some 37) (v := .int .i64 n) rfl (by kernel_rfl) (by kernel_rfl) (by kernel_rfl) (by kernel_rfl) (fun _ _ _ h => h) (Or.inl ⟨by rfl, by intro w hSw; go_simp⟩) hHeld ?_
          simp only [Act.put, List.setIfInBounds_toArray, List.set_cons_zero, List.set_cons_succ]
          refine take (i := 3) (d := some 38) (v := .bool true) rfl (by kernel_rfl) (by kernel_rfl) (by kernel_rfl) (by kernel_rfl) (fun _ _ _ h => h) (Or.inl ⟨by rfl, by intro w hSw; go_simp⟩) hHeld ?_
          simp only [Act.put, List.setIfInBounds_toArray, List.set_cons_zero, List.set_cons_succ]
          refine take (i := 4) (d := some 39) (v := .bool true) rfl (by kernel_rfl) (by kernel_rfl) (by kernel_rfl) (by kernel_rfl) (fun _ _ _ h => h) (Or.inl ⟨by rfl, by intro w hSw; go_simp⟩) hHeld ?_
          simp only [Act.put, List.setIfInBounds_toArray, List.set_cons_zero, List.set_cons_succ]
          refine take (i := 5) (d := some 40) (v := .func (.func 94) #[] #[]) rfl (by kernel_rfl) (by kernel_rfl) (by kernel_rfl) (by kernel_rfl) (fun _ _ _ h => h) (Or.inl ⟨by rfl, by intro w hSw; go_simp⟩) hHeld ?_
          simp only [Act.put, List.setIfInBounds_toArray, List.set_cons_zero, List.set_cons_succ]
          refine take (i := 6) (d := some 41) (v := .slice (some ⟨b, off, none⟩) n cap) rfl (by kernel_rfl) (by kernel_rfl) (by kernel_rfl) (by kernel_rfl) (fun _ _ _ h => h) (Or.inl ⟨by rfl, by intro w hSw; go_simp⟩) hHeld ?_
          simp only [Act.put, List.setIfInBounds_toArray, List.set_cons_zero, List.set_cons_succ]
          refine take (i := 7) (d := some 42) (v := .int .i64 h) rfl (by kernel_rfl) (by kernel_rfl) (by kernel_rfl) (by kernel_rfl) (fun _ _ _ h => h) (Or.inl ⟨by rfl, by intro w hSw; go_simp⟩) hHeld ?_
          simp only [Act.put, List.setIfInBounds_toArray, List.set_cons_zero, List.set_cons_succ]
          refine take (i := 8) (d := some 43) (v := .pointer (some ⟨b, off + h * 6, none⟩)) rfl (by kernel_rfl) (by kernel_rfl) (by kernel_rfl) (by kernel_rfl) (fun _ _ _ h => h) (Or.inl ⟨by rfl, by intro w hSw; go_simp⟩) hHeld ?_
          simp only [Act.put, List.setIfInBounds_toArray, List.set_cons_zero, List.set_cons_succ]
          refine take (i := 9) (d := some 44) (v := .agg #[.int .i64 x.ep, .int .i64 x.pr, .slice x.aV x.V.length x.cV, .slice x.aM x.M.length x.cM, .slice x.aA x.A.length x.cA, .int .i64 x.h]) rfl (by kernel_rfl) (by kernel_rfl) (by kernel_rfl) (by kernel_rfl) (fun _ _ _ h => h) (Or.inl ⟨by rfl, by intro w hSw; obtain ⟨c0, c1, c2, c3, c4, c5, d0, d1, d2, d3, d4, d5⟩ := hSw; go_simp⟩) hHeld ?_
          simp only [Act.put, List.setIfInBounds_toArray, List.set_cons_zero, List.set_cons_succ]
          refine take (i := 10) (d := some 45) (v := .agg #[.int .i64 e.ep, .int .i64 e.pr, .slice e.aV e.V.length e.cV, .slice e.aM e.M.length e.cM, .slice e.aA e.A.length e.cA, .int .i64 e.h]) rfl (by kernel_rfl) (by kernel_rfl) (by kernel_rfl) (by kernel_rfl) (fun _ _ _ h => h) (Or.inl ⟨by rfl, by intro w hSw; obtain ⟨c0, c1, c2, c3, c4, c5, d0, d1, d2, d3, d4, d5⟩ := hSw; go_simp⟩) hHeld ?_
          simp only [Act.put, List.setIfInBounds_toArray, List.set_cons_zero, List.set_cons_succ]
          refine wpAnyH_ready (rs := [11]) (by kernel_rfl) (by simp) (callV2 (i := 11) rfl (by rfl) 94 (.tmp 40) (.tmp 44) (.tmp 45) 41 41 (by kernel_rfl) 46 (by kernel_rfl) rfl _ _ (by kernel_rfl) (by kernel_rfl) (fun _ => rfl) (hcall _) ?_ AllReadyH.nil)
          rintro e w1 ⟨rfl, hb⟩
          refine ⟨_, rfl, ⟨(hb.cell (by exact bl)).trans c0, (hb.cell (by exact bl)).trans c1, (hb.cell (by exact bl)).trans c2, (hb.cell (by exact bl)).trans c3, (hb.cell (by exact bl)).trans c4, (hb.cell (by exact bl)).trans c5, (hb.cell (by exact bt)).trans d0, (hb.cell (by exact bt)).trans d1, (hb.cell (by exact bt)).trans d2, (hb.cell (by exact bt)).trans d3, (hb.cell (by exact bt)).trans d4, (hb.cell (by exact bt)).trans d5⟩, fun hHeld => ?_⟩
          simp only [Act.put, List.setIfInBounds_toArray, List.set_cons_zero, List.set_cons_succ]
          refine take (i := 12) (d := some 47) (v := .bool false) rfl (by kernel_rfl) (by kernel_rfl) (by kernel_rfl) (by kernel_rfl) (fun _ _ _ h => h) (Or.inl ⟨by rfl, by intro w hSw; go_simp⟩) hHeld ?_
          simp only [Act.put, List.setIfInBounds_toArray, List.set_cons_zero, List.set_cons_succ]
          refine take (i := 13) (d := some 48) (v := .bool false) rfl (by kernel_rfl) (by kernel_rfl) (by kernel_rfl) (by kernel_rfl) (fun _ _ _ h => h) (Or.inl ⟨by rfl, by intro w hSw; go_simp⟩) hHeld ?_
          simp only [Act.put, List.setIfInBounds_toArray, List.set_cons_zero, List.set_cons_succ]
          refine take (i := 14) (d := some 6) (v := .int .i64 h) rfl (by kernel_rfl) (by kernel_rfl) (by kernel_rfl) (by kernel_rfl) (fun _ _ _ h => h) (Or.inl ⟨by rfl, by intro w hSw; go_simp⟩) hHeld ?_
          simp only [Act.put, List.setIfInBounds_toArray, List.set_cons_zero, List.set_cons_succ]
          refine take (i := 15) (d := some 7) (v := .bool false) rfl (by kernel_rfl) (by kernel_rfl) (by kernel_rfl) (by kernel_rfl) (fun _ _ _ h => h) (Or.inl ⟨by rfl, by intro w hSw; go_simp⟩) hHeld ?_
          simp only [Act.put, List.setIfInBounds_toArray, List.set_cons_zero, List.set_cons_succ]
          refine wpAnyH_done (by kernel_rfl) ?_ _
          go_wp2
          exact bodyPost_ret (v := .tuple #[.int .i64 h, .bool false]) (by simp [results, Try.results130, go_sem]) rfl ⟨Rw.next (by repeat (first | exact hbel | apply Below.drew)) hb, h, _, rfl, by have := HN.out; omega, HL.out, fun m h1 h2 => by have := HH.out m h1 (by have := HN.out; omega); omega⟩
      · have hnz : ¬ (h : Int) < (n : Int) := by omega
        go_wp2
        refine wp_region_held_drew (S := (fun _ => True)) (by kernel_rfl) trivial (fun hHeld => ?_)
        refine take (i := 0) (d := some 35) (v := .int .i64 h) rfl (by kernel_rfl) (by kernel_rfl) (by kernel_rfl) (by kernel_rfl) (fun _ _ _ h => h) (Or.inl ⟨by rfl, by intro w hSw; go_simp⟩) hHeld ?_
        simp only [Act.put, List.setIfInBounds_toArray, List.set_cons_zero, List.set_cons_succ]
        refine take (i := 1) (d := some 36) (v := .int .i64 h) rfl (by kernel_rfl) (by kernel_rfl) (by kernel_rfl) (by kernel_rfl) (fun _ _ _ h => h) (Or.inl ⟨by rfl, by intro w hSw; go_simp⟩) hHeld ?_
        simp only [Act.put, List.setIfInBounds_toArray, List.set_cons_zero, List.set_cons_succ]
        refine take (i := 2) (d := some 37) (v := .int .i64 n) rfl (by kernel_rfl) (by kernel_rfl) (by kernel_rfl) (by kernel_rfl) (fun _ _ _ h => h) (Or.inl ⟨by rfl, by intro w hSw; go_simp⟩) hHeld ?_
        simp only [Act.put, List.setIfInBounds_toArray, List.set_cons_zero, List.set_cons_succ]
        refine take (i := 3) (d := some 38) (v := .bool false) rfl (by kernel_rfl) (by kernel_rfl) (by kernel_rfl) (by kernel_rfl) (fun _ _ _ h => h) (Or.inl ⟨by rfl, by intro w hSw; go_simp⟩) hHeld ?_
        simp only [Act.put, List.setIfInBounds_toArray, List.set_cons_zero, List.set_cons_succ]
        refine take (i := 4) (d := some 39) (v := .bool false) rfl (by kernel_rfl) (by kernel_rfl) (by kernel_rfl) (by kernel_rfl) (fun _ _ _ h => h) (Or.inl ⟨by rfl, by intro w hSw; go_simp⟩) hHeld ?_
        simp only [Act.put, List.setIfInBounds_toArray, List.set_cons_zero, List.set_cons_succ]
        refine take (i := 5) (d := some 40) (v := undef) rfl (by kernel_rfl) (by kernel_rfl) (by kernel_rfl) (by kernel_rfl) (fun _ _ _ h => h) (Or.inr ⟨by rfl, rfl⟩) hHeld ?_
        simp only [Act.put, List.setIfInBounds_toArray, List.set_cons_zero, List.set_cons_succ]
        refine take (i := 6) (d := some 41) (v := undef) rfl (by kernel_rfl) (by kernel_rfl) (by kernel_rfl) (by kernel_rfl) (fun _ _ _ h => h) (Or.inr ⟨by rfl, rfl⟩) hHeld ?_
        simp only [Act.put, List.setIfInBounds_toArray, List.set_cons_zero, List.set_cons_succ]
        refine take (i := 7) (d := some 42) (v := undef) rfl (by kernel_rfl) (by kernel_rfl) (by kernel_rfl) (by kernel_rfl) (fun _ _ _ h => h) (Or.inr ⟨by rfl, rfl⟩) hHeld ?_
        simp only [Act.put, List.setIfInBounds_toArray, List.set_cons_zero, List.set_cons_succ]
        refine take (i := 8) (d := some 43) (v := undef) rfl (by kernel_rfl) (by kernel_rfl) (by kernel_rfl) (by kernel_rfl) (fun _ _ _ h => h) (Or.inr ⟨by rfl, rfl⟩) hHeld ?_
        simp only [Act.put, List.setIfInBounds_toArray, List.set_cons_zero, List.set_cons_succ]
        refine take (i := 9) (d := some 44) (v := undef) rfl (by kernel_rfl) (by kernel_rfl) (by kernel_rfl) (by kernel_rfl) (fun _ _ _ h => h) (Or.inr ⟨by rfl, rfl⟩) hHeld ?_
        simp only [Act.put, List.setIfInBounds_toArray, List.set_cons_zero, List.set_cons_succ]
        refine take (i := 10) (d := some 45) (v := undef) rfl (by kernel_rfl) (by kernel_rfl) (by kernel_rfl) (by kernel_rfl) (fun _ _ _ h => h) (Or.inr ⟨by rfl, rfl⟩) hHeld ?_
        simp only [Act.put, List.setIfInBounds_toArray, List.set_cons_zero, List.set_cons_succ]
        refine take (i := 11) (d := some 46) (v := undef) rfl (by kernel_rfl) (by kernel_rfl) (by kernel_rfl) (by kernel_rfl) (fun _ _ _ h => h) (Or.inr ⟨by rfl, rfl⟩) hHeld ?_
        simp only [Act.put, List.setIfInBounds_toArray, List.set_cons_zero, List.set_cons_succ]
        refine take (i := 12) (d := some 47) (v := undef) rfl (by kernel_rfl) (by kernel_rfl) (by kernel_rfl) (by kernel_rfl) (fun _ _ _ h => h) (Or.inr ⟨by rfl, rfl⟩) hHeld ?_
        simp only [Act.put, List.setIfInBounds_toArray, List.set_cons_zero, List.set_cons_succ]
        refine take (i := 13) (d := some 48) (v := .bool false) rfl (by kernel_rfl) (by kernel_rfl) (by kernel_rfl) (by kernel_rfl) (fun _ _ _ h => h) (Or.inl ⟨by rfl, by intro w hSw; go_simp⟩) hHeld ?_
        simp only [Act.put, List.setIfInBounds_toArray, List.set_cons_zero, List.set_cons_succ]
        refine take (i := 14) (d := some 6) (v := .int .i64 h) rfl (by kernel_rfl) (by kernel_rfl) (by kernel_rfl) (by kernel_rfl) (fun _ _ _ h => h) (Or.inl ⟨by rfl, by intro w hSw; go_simp⟩) hHeld ?_
        simp only [Act.put, List.setIfInBounds_toArray, List.set_cons_zero, List.set_cons_succ]
        refine take (i := 15) (d := some 7) (v := .bool false) rfl (by kernel_rfl) (by kernel_rfl) (by kernel_rfl) (by kernel_rfl) (fun _ _ _ h => h) (Or.inl ⟨by rfl, by intro w hSw; go_simp⟩) hHeld ?_
        simp only [Act.put, List.setIfInBounds_toArray, List.set_cons_zero, List.set_cons_succ]
        refine wpAnyH_done (by kernel_rfl) ?_ _
        go_wp2
        exact bodyPost_ret (v := .tuple #[.int .i64 h, .bool false]) (by simp [results, Try.results130, go_sem]) rfl ⟨by repeat (first | exact hbel | apply Below.drew), h, _, rfl, by have := HN.out; omega, HL.out, fun m h1 h2 => by have := HH.out m h1 (by have := HN.out; omega); omega⟩

end Go.Proofs.Ytcbgnfjnjfaacaa.Ra
namespace Go.Proofs.Ytcbgnfjnjfaacaa.Ka
set_option maxRecDepth 8000
set_option linter.unusedSimpArgs false
set_option linter.unusedVariables false
open Go Go.RowKit Go.Maps
open Num Pl Ea

theorem laidOut : laidOutB Try.prog = true := by kernel_rfl
theorem law : Keyed Try.prog 97 := Keyed.of_law (deep_law_laid laidOut (m := 3) (by omega) (of_decide_eq_true (by kernel_rfl)) (by kernel_rfl) (by rw [Try.underlying97]))
theorem zero3 (w : World) : (zeroValue 3).run Try.prog w = .ok (.int .i64 0) w := by kernel_rfl
theorem wf_of {n : Int} (h : Pm.I64 n) : (Lit.int .i64 n).wf = true := WalkArith.wf_i64 (by unfold Pm.I64 at h; omega)
theorem one3 (d : Nat) {n : Int} (h : Pm.I64 n) : Try.prog.keyLits (d + 1) 3 [.int .i64 n] = some [.int .i64 n] := by
  unfold Program.keyLits
  simp [Try.underlying3, wf_of h]
theorem pair (d : Nat) {x y : Int} (hx : Pm.I64 x) (hy : Pm.I64 y) : Try.prog.keyLits (d + 1 + 1) 95 [.int .i64 x, .int .i64 y] = some [.int .i64 x, .int .i64 y] := by
  have c95 : Try.prog.cellsOf 95 = 2 := by kernel_rfl
  have c3 : Try.prog.cellsOf 3 = 1 := by kernel_rfl
  unfold Program.keyLits
  simp [Try.underlying95, c95, c3, one3 d hx, one3 d hy]
theorem eight (d : Nat) {v m : Nat → Int} (h : ∀ k, k < 8 → Pm.I64 (v k) ∧ Pm.I64 (m k)) : ∃ l, Try.prog.keyLits (d + 1 + 1 + 1) 97 (Pa.enc v m).toList = some l := by
  have c95 : Try.prog.cellsOf 95 = 2 := by kernel_rfl
  have c97 : Try.prog.cellsOf 97 = 16 := by kernel_rfl
  unfold Program.keyLits
  simp only [Try.underlying97]
  rw [if_pos (by rw [c97]; simp [Pa.enc]), c95]
  have e : ∀ i, i < 8 → (((Pa.enc v m).toList.drop (i * 2)).take 2) = [.int .i64 (v i), .int .i64 (m i)] := by
    intro i hi
    have a1 := Pa.enc_at v m (i := i * 2) (by omega)
    have a2 := Pa.enc_at v m (i := i * 2 + 1) (by omega)
    have z1 : i * 2 % 2 = 0 := by omega
    have z2 : i * 2 / 2 = i := by omega
    have z3 : ¬ (i * 2 + 1) % 2 = 0 := by omega
    have z4 : (i * 2 + 1) / 2 = i := by omega
    rw [if_pos z1, z2, ← Array.getElem?_toList] at a1
    rw [if_neg z3, z4, ← Array.getElem?_toList] at a2
    generalize (Pa.enc v m).toList = L at a1 a2
    apply List.ext_getElem?
    intro j
    match j with
    | 0 => simp [List.getElem?_take, List.getElem?_drop, a1]
    | 1 => simp [List.getElem?_take, List.getElem?_drop, a2]
    | j + 2 => rw [List.getElem?_take, if_neg (by omega)]; simp
  rw [show List.range 8 = [0, 1, 2, 3, 4, 5, 6, 7] from rfl]
  simp only [List.mapM_cons, List.mapM_nil]
  rw [e 0 (by omega), e 1 (by omega), e 2 (by omega), e 3 (by omega), e 4 (by omega), e 5 (by omega), e 6 (by omega), e 7 (by omega)]
  rw [pair d (h 0 (by omega)).1 (h 0 (by omega)).2, pair d (h 1 (by omega)).1 (h 1 (by omega)).2, pair d (h 2 (by omega)).1 (h 2 (by omega)).2, pair d (h 3 (by omega)).1 (h 3 (by omega)).2, pair d (h 4 (by omega)).1 (h 4 (by omega)).2, pair d (h 5 (by omega)).1 (h 5 (by omega)).2, pair d (h 6 (by omega)).1 (h 6 (by omega)).2, pair d (h 7 (by omega)).1 (h 7 (by omega)).2]
  exact ⟨_, rfl⟩
theorem key_some {v m : Nat → Int} (h : ∀ k, k < 8 → Pm.I64 (v k) ∧ Pm.I64 (m k)) : ∃ l, keyOf Try.prog 97 (.agg (Pa.enc v m)) = some l := by
  have hkt : Try.prog.keyType 97 = true := by kernel_rfl
  have c97 : Try.prog.cellsOf 97 = 16 := by kernel_rfl
  have h2 : 2 ≤ Try.prog.types.size := of_decide_eq_true (by kernel_rfl)
  obtain ⟨d, hd⟩ : ∃ d, Try.prog.types.size + 1 = d + 1 + 1 + 1 := ⟨Try.prog.types.size - 2, by omega⟩
  obtain ⟨l, hl⟩ := eight d h
  refine ⟨.string (keyBytes l), ?_⟩
  unfold keyOf
  simp only [Try.underlying97]
  rw [if_pos (by simp [hkt, Value.formed, Try.underlying97, c97, Pa.enc]), hd]
  simp only [Value.cells]
  rw [hl]
  rfl
/-- Two arrays of pairs that are one have the same numbers. -/
theorem enc_inj {v m v' m' : Nat → Int} (h : (Value.agg (Pa.enc v m)) = .agg (Pa.enc v' m')) : ∀ k, k < 8 → v k = v' k ∧ m k = m' k := by
  intro k hk
  injection h with h
  have e1 := Pa.enc_at v m (i := 2 * k) (by omega)
  have e2 := Pa.enc_at v' m' (i := 2 * k) (by omega)
  have e3 := Pa.enc_at v m (i := 2 * k + 1) (by omega)
  have e4 := Pa.enc_at v' m' (i := 2 * k + 1) (by omega)
  rw [h, e2] at e1
  rw [h, e4] at e3
  have z1 : 2 * k % 2 = 0 := by omega
  have z2 : 2 * k / 2 = k := by omega
  have z3 : ¬ (2 * k + 1) % 2 = 0 := by omega
  have z4 : (2 * k + 1) / 2 = k := by omega
  simp only [z1, z2, z3, z4, if_true, if_false, Option.some.injEq, Value.int.injEq, true_and] at e1 e3
  exact ⟨e1.symm, e3.symm⟩

end Go.Proofs.Ytcbgnfjnjfaacaa.Ka
namespace Go.Proofs.Ytcbgnfjnjfaacaa.Ka
set_option maxRecDepth 8000
set_option linter.unusedSimpArgs false
set_option linter.unusedVariables false
open Go Go.RowKit Go.Maps
open Num Pl Ea Ra Pq Pa

/-- What an entry asks, as a key. -/
def keyV (e : Ent) : Value := .agg (Pa.enc (Po.pv e.V e.M) (Po.pm e.V e.M))
def klP (P : Program) (e : Ent) : Lit := (keyOf P 97 (keyV e)).getD (.bool false)
theorem i64_zero : Pm.I64 0 := by constructor <;> decide
theorem keyV_some {e : Ent} (wV : Po.Wide e.V) (wM : Po.Wide e.M) : keyOf Try.prog 97 (keyV e) = some (klP Try.prog e) := by
  obtain ⟨l, hl⟩ := key_some (v := Po.pv e.V e.M) (m := Po.pm e.V e.M) (fun k hk => by
    unfold Po.pv Po.pm
    split
    · exact ⟨wV k, wM k⟩
    · rcases Hs.k8 hk with rfl | rfl | rfl | rfl | rfl | rfl | rfl | rfl <;> exact ⟨i64_zero, i64_zero⟩)
  unfold klP
  unfold keyV
  rw [hl]; rfl
/-- Two right entries ask the same just where their matches are one. -/
theorem kl_iff {e f : Ent} (we : Po.Wide e.V) (we' : Po.Wide e.M) (wf : Po.Wide f.V) (wf' : Po.Wide f.M) (he : Po.matchB e.V e.M = true) (hf : Po.matchB f.V f.M = true) :
    klP Try.prog e = klP Try.prog f ↔ e.V = f.V ∧ e.M = f.M := by
  constructor
  · intro h
    have h1 := keyV_some we we'
    have h2 := keyV_some wf wf'
    rw [← h] at h2
    have := enc_inj (law.inj h1 h2)
    have hs := Lb.same_lists he hf
    rw [(Lb.sameB_iff _ _ _ _).2 (fun k hk => by have := this k hk; rw [Po.pv_yes he, Po.pm_yes he, Po.pv_yes hf, Po.pm_yes hf] at this; exact this)] at hs
    simpa using hs.symm
  · rintro ⟨h1, h2⟩
    unfold klP keyV
    rw [h1, h2]

/-- What the map holds of the entries s .. t - 1. -/
structure Keys (Q : List Ent) (s t : Nat) (D : DataW Unit) : Prop where
  has : ∀ l, Maps.has D l = true ↔ ∃ i, s ≤ i ∧ i < t ∧ klP Try.prog (Q.getD i e0) = l
  at_ : ∀ i, s ≤ i → i < t → (∀ j, i < j → j < t → klP Try.prog (Q.getD j e0) ≠ klP Try.prog (Q.getD i e0)) → ∀ z, D.atKey (klP Try.prog (Q.getD i e0)) z = .lit (.int .i64 i)
  none2 : (∀ i j, s ≤ i → i < j → j < t → klP Try.prog (Q.getD i e0) ≠ klP Try.prog (Q.getD j e0)) → Maps.size D = t - s
  two : (∃ i j, s ≤ i ∧ i < j ∧ j < t ∧ klP Try.prog (Q.getD i e0) = klP Try.prog (Q.getD j e0)) → Maps.size D < t - s
theorem keys_nil (Q : List Ent) (s : Nat) : Keys Q s s (.map []) :=
  ⟨fun l => by simp [Maps.has]; intro i h1 h2; omega, fun i h1 h2 => by omega, fun _ => by simp [Maps.size], fun ⟨i, j, h1, h2, h3, _⟩ => by omega⟩
theorem keys_step {Q : List Ent} {s t : Nat} {D : DataW Unit} (h : Keys Q s t D) (hst : s ≤ t) (hD : Tidy D) (hk : WideAt.IsKeyLit (klP Try.prog (Q.getD t e0))) : Keys Q s (t + 1) (D.put (klP Try.prog (Q.getD t e0)) (.lit (.int .i64 t))) := by
  have hm := hD.isMap
  refine ⟨fun l => ?_, fun i h1 h2 h3 z => ?_, fun h1 => ?_, fun ⟨i, j, h1, h2, h3, h4⟩ => ?_⟩
  · by_cases e : l = klP Try.prog (Q.getD t e0)
    · subst e
      rw [has_put_same hm hk]
      exact ⟨fun _ => ⟨t, hst, by omega, rfl⟩, fun _ => rfl⟩
    · rw [has_put_other e, h.has l]
      constructor
      · rintro ⟨i, h1, h2, h3⟩; exact ⟨i, h1, by omega, h3⟩
      · rintro ⟨i, h1, h2, h3⟩
        refine ⟨i, h1, ?_, h3⟩
        rcases Nat.lt_or_ge i t with h4 | h4
        · exact h4
        · have : i = t := by omega
          subst this; exact absurd h3.symm e
  · by_cases e : i = t
    · subst e; exact atKey_put_same hm hk _ _
    · have hne : klP Try.prog (Q.getD i e0) ≠ klP Try.prog (Q.getD t e0) := fun hh => h3 t (by omega) (by omega) hh.symm
      rw [atKey_put_other hne]
      exact h.at_ i h1 (by omega) (fun j a1 a2 => h3 j a1 (by omega)) z
  · have hn : Maps.has D (klP Try.prog (Q.getD t e0)) = false := by
      cases hh : Maps.has D (klP Try.prog (Q.getD t e0))
      · rfl
      · obtain ⟨i, a1, a2, a3⟩ := (h.has _).1 hh
        exact absurd a3 (h1 i t a1 a2 (by omega))
    rw [size_put hD, hn, h.none2 (fun i j a1 a2 a3 => h1 i j a1 a2 (by omega))]
    simp; omega
  · rw [size_put hD]
    have le : Maps.size D ≤ t - s := by
      by_cases hh : ∃ i j, s ≤ i ∧ i < j ∧ j < t ∧ klP Try.prog (Q.getD i e0) = klP Try.prog (Q.getD j e0)
      · have := h.two hh; omega
      · have := h.none2 (fun i j a1 a2 a3 a4 => hh ⟨i, j, a1, a2, a3, a4⟩); omega
    cases hh : Maps.has D (klP Try.prog (Q.getD t e0))
    · have hj : j ≠ t := by
        rintro rfl
        have := (h.has _).2 ⟨i, h1, h2, h4⟩
        rw [hh] at this; cases this
      have := h.two ⟨i, j, h1, h2, by omega, h4⟩
      simp; omega
    · simp; omega

/-- The entries s .. t - 1 have the rank of e, the next has not. -/
def Span (Q : List Ent) (e : Ent) (s t : Nat) : Prop := s ≤ t ∧ t ≤ Q.length ∧ (∀ i, s ≤ i → i < t → rk (Q.getD i e0) e = 0) ∧ (t < Q.length → rk (Q.getD t e0) e ≠ 0)
def ResK (w : World) (Q : List Ent) (e : Ent) (x : Ending) (w' : World) : Prop :=
  Below w.heap.size w w' ∧ ∃ (B s t : Nat) (D : DataW Unit), x = .returned (.tuple #[.map (some B), .int .i64 t]) ∧ w.heap.size ≤ B ∧ w'.ownsMap Try.prog 97 (plainElem Try.prog 3) B (t - s) D ∧ Ra.Place Q e s ∧ Span Q e s t ∧ Keys Q s t D

theorem grown_below {w w' w0 : World} {b : Nat} (h : Below w0.heap.size w0 w) (hg : w.grownBy w' (some b)) (hb : w0.heap.size ≤ b) : Below w0.heap.size w0 w' :=
  h.grown hg h.size (fun k hk => by cases hk; exact hb)
theorem map_block {w w' : World} {R : Value → Option (DataW Unit × List MemPlace)} {b n : Nat} {D : DataW Unit} (h : w.ownsMap Try.prog 97 R b n D) (e : w'.heap[b]? = w.heap[b]?) : w'.ownsMap Try.prog 97 R b n D := by
  obtain ⟨es, clock, hb, r⟩ := h
  exact ⟨es, clock, e.trans hb, r⟩
theorem map_below {w w' : World} {R : Value → Option (DataW Unit × List MemPlace)} {b n : Nat} {D : DataW Unit} (h : w.ownsMap Try.prog 97 R b n D) (hb : Below w.heap.size w w') : w'.ownsMap Try.prog 97 R b n D := map_block h (hb.block b h.lt)
theorem map_same {w w' : World} {g : Nat} {R : Value → Option (DataW Unit × List MemPlace)} {b n : Nat} {D : DataW Unit} (h : w.ownsMap Try.prog 97 R b n D) (hb : Pa.Same g w w') (hg : b ≠ g) : w'.ownsMap Try.prog 97 R b n D := map_block h (hb.block b hg)

set_option maxHeartbeats 16000000 in
theorem places_any (a : Option Addr) (b off cap : Nat) (Q : List Ent) (e : Ent) (w : World) (h : Rd w a b off Q) (hmono : ∀ i j, i ≤ j → j < Q.length → rk (Q.getD j e0) e < 0 → rk (Q.getD i e0) e < 0) :
    Calls Try.prog 77 #[.slice a Q.length cap, .agg e.vals] w (ResK w Q e) := by
  obtain ⟨W1, hW1⟩ : ∃ W1, W1 = (w.alloc (.cells e.vals 41)).alloc (.map #[] 0) := ⟨_, rfl⟩
  have B1 : Below w.heap.size w W1 := by subst hW1; exact Rw.next (below_alloc1 _ _) (below_alloc1 _ _)
  have k0 : W1.heap[w.heap.size]? = some (.cells #[.int .i64 e.ep, .int .i64 e.pr, .slice e.aV e.V.length e.cV, .slice e.aM e.M.length e.cM, .slice e.aA e.A.length e.cA, .int .i64 e.h] 41 (0, 0)) := by subst hW1; rw [at_old (by simp), at_new rfl]; rfl
  have hm0 : W1.ownsMap Try.prog 97 (plainElem (H := Unit) Try.prog 3) (w.heap.size + 1) 0 (.map []) := by
    subst hW1
    have := World.ownsMap_made (H := Unit) (w.alloc (.cells e.vals 41)) Try.prog 97 (plainElem Try.prog 3)
    simpa using this
  have h1 := h.below B1
  have hmm := @run_makeMap Try.prog
  obtain ⟨hh, hc, ho, hs⟩ := h
  have hP := search_any a b off cap Q e W1 h1 hmono
  clear h1
  obtain ⟨n, hn⟩ : ∃ n, n = Q.length := ⟨_, rfl⟩
  rw [← hn] at hh hc ho hs hP ⊢
  have HN : Hid (n = Q.length) := hn
  clear hn hmono
  simp only [ent_vals] at hW1 hP ⊢
  go_enter Try.func77, Try.ntmps77
  go_wp2_with (go_at_call 130; rw [← hW1]; clear hW1 hmm; refine hP.mono ?_; rintro x1 wa ⟨hb, s, r0, rfl, hpl⟩; replace k0 := (hb.block _ (blk_lt k0)).trans k0; replace hm0 := map_below hm0 hb; replace B1 := Rw.next B1 hb; clear hb hP)
  have HPl : Hid (Ra.Place Q e s) := hpl
  have hsn : s ≤ n := by have := HN.out; have := hpl.1; omega
  clear hpl
  go_loopw [7] (fun u wr => ∃ (t : Nat) (D : DataW Unit), s ≤ t ∧ t ≤ n ∧ u = .int .i64 t ∧ Below w.heap.size w wr ∧ wr.heap[w.heap.size]? = some (.cells #[.int .i64 e.ep, .int .i64 e.pr, .slice e.aV e.V.length e.cV, .slice e.aM e.M.length e.cM, .slice e.aA e.A.length e.cA, .int .i64 e.h] 41 (0, 0)) ∧ wr.ownsMap Try.prog 97 (plainElem Try.prog 3) (w.heap.size + 1) (t - s) D ∧ Keys Q s t D ∧ ∀ i, s ≤ i → i < t → rk (Q.getD i e0) e = 0) (fun u _ => n - (intOf u).toNat)
  case atStart => exact ⟨s, .map [], Nat.le_refl _, hsn, rfl, B1, k0, by simpa using hm0, keys_nil Q s, fun i h1 h2 => by omega⟩
  case round =>
    clear k0 B1 hm0
    obtain ⟨t, D, hst, htn, rfl, hbel, kT, hown, hkeys, hrk⟩ := hrel
    have HK : Hid (Keys Q s t D) := hkeys
    have HR : Hid (∀ i, s ≤ i → i < t → rk (Q.getD i e0) e = 0) := hrk
    clear hkeys hrk
    obtain ⟨d0, d1, d2, d3, d4, d5⟩ := six kT
    have bt := blk_lt kT
    by_cases hlt : t < n
    · obtain rfl := hh (by omega)
      have hnz : (t : Int) < (n : Int) := by omega
      obtain ⟨c0, c1, c2, c3, c4, c5⟩ := ((hc t hlt).of hbel (At6.lt (hc t hlt))).six
      have ok := (ho t hlt).of hbel (Nat.le_refl _)
      have bl : b < wr.heap.size := World.block_lt_of_cell? _ _ c0
      clear hc hh ho
      obtain ⟨x, hx⟩ : ∃ x, x = Q.getD t e0 := ⟨_, rfl⟩
      rw [← hx] at c0 c1 c2 c3 c4 c5 ok
      have HX : Hid (Q.getD t e0 = x) := hx.symm
      clear hx
      have hcall := rank_any x e
      simp only [ent_vals] at hcall
      by_cases hr : rk x e = 0
      · rw [hr] at hcall
        have HZ : Hid (rk x e = 0) := hr
        clear hr
        obtain ⟨r, hr⟩ : ∃ r : Int, r = 0 := ⟨_, rfl⟩
        rw [← hr] at hcall
        go_wp2
        refine wp_region_held_drew (S := (fun w' => w'.cell? ⟨b, off + t * 6, none⟩ = some (.int .i64 x.ep) ∧ w'.cell? ⟨b, off + t * 6 + 1, none⟩ = some (.int .i64 x.pr) ∧ w'.cell? ⟨b, off + t * 6 + 2, none⟩ = some (.slice x.aV x.V.length x.cV) ∧ w'.cell? ⟨b, off + t * 6 + 3, none⟩ = some (.slice x.aM x.M.length x.cM) ∧ w'.cell? ⟨b, off + t * 6 + 4, none⟩ = some (.slice x.aA x.A.length x.cA) ∧ w'.cell? ⟨b, off + t * 6 + 5, none⟩ = some (.int .i64 x.h) ∧ w'.cell? ⟨w.heap.size, 0, none⟩ = some (.int .i64 e.ep) ∧ w'.cell? ⟨w.heap.size, 1, none⟩ = some (.int .i64 e.pr) ∧ w'.cell? ⟨w.heap.size, 2, none⟩ = some (.slice e.aV e.V.length e.cV) ∧ w'.cell? ⟨w.heap.size, 3, none⟩ = some (.slice e.aM e.M.length e.cM) ∧ w'.cell? ⟨w.heap.size, 4, none⟩ = some (.slice e.aA e.A.length e.cA) ∧ w'.cell? ⟨w.heap.size, 5, none⟩ = some (.int .i64 e.h))) (by kernel_rfl) ⟨c0, c1, c2, c3, c4, c5, d0, d1, d2, d3, d4, d5⟩ (fun hHeld => ?_)
        refine take (i := 0) (d := some 18) (v := .int .i64 t) rfl (by kernel_rfl) (by kernel_rfl) (by kernel_rfl) (by kernel_rfl) (fun _ _ _ h => h) (Or.inl ⟨by rfl, by intro w hSw; go_simp⟩) hHeld ?_
        simp only [Act.put, List.setIfInBounds_toArray, List.set_cons_zero, List.set_cons_succ]
        refine take (i := 1) (d := some 19) (v := .slice (some ⟨b, off, none⟩) n cap) rfl (by kernel_rfl) (by kernel_rfl) (by kernel_rfl) (by kernel_rfl) (fun _ _ _ h => h) (Or.inl ⟨by rfl, by intro w hSw; go_simp⟩) hHeld ?_
        simp only [Act.put, List.setIfInBounds_toArray, List.set_cons_zero, List.set_cons_succ]
        refine take (i := 2) (d := some 20) (v := .int .i64 n) rfl (by kernel_rfl) (by kernel_rfl) (by kernel_rfl) (by kernel_rfl) (fun _ _ _ h => h) (Or.inl ⟨by rfl, by intro w hSw; go_simp⟩) hHeld ?_
        simp only [Act.put, List.setIfInBounds_toArray, List.set_cons_zero, List.set_cons_succ]
        refine take (i := 3) (d := some 21) (v := .bool true) rfl (by kernel_rfl) (by kernel_rfl) (by kernel_rfl) (by kernel_rfl) (fun _ _ _ h => h) (Or.inl ⟨by rfl, by intro w hSw; go_simp⟩) hHeld ?_
        simp only [Act.put, List.setIfInBounds_toArray, List.set_cons_zero, List.set_cons_succ]
        refine take (i := 4) (d := some 22) (v := .bool true) rfl (by kernel_rfl) (by kernel_rfl) (by kernel_rfl) (by kernel_rfl) (fun _ _ _ h => h) (Or.inl ⟨by rfl, by intro w hSw; go_simp⟩) hHeld ?_
        simp only [Act.put, List.setIfInBounds_toArray, List.set_cons_zero, List.set_cons_succ]
        refine take (i := 5) (d := some 23) (v := .slice (some ⟨b, off, none⟩) n cap) rfl (by kernel_rfl) (by kernel_rfl) (by kernel_rfl) (by kernel_rfl) (fun _ _ _ h => h) (Or.inl ⟨by rfl, by intro w hSw; go_simp⟩) hHeld ?_
        simp only [Act.put, List.setIfInBounds_toArray, List.set_cons_zero, List.set_cons_succ]
        refine take (i := 6) (d := some 24) (v := .int .i64 t) rfl (by kernel_rfl) (by kernel_rfl) (by kernel_rfl) (by kernel_rfl) (fun _ _ _ h => h) (Or.inl ⟨by rfl, by intro w hSw; go_simp⟩) hHeld ?_
        simp only [Act.put, List.setIfInBounds_toArray, List.set_cons_zero, List.set_cons_succ]
        refine take (i := 7) (d := some 25) (v := .pointer (some ⟨b, off + t * 6, none⟩)) rfl (by kernel_rfl) (by kernel_rfl) (by kernel_rfl) (by kernel_rfl) (fun _ _ _ h => h) (Or.inl ⟨by rfl, by intro w hSw; go_simp⟩) hHeld ?_
        simp only [Act.put, List.setIfInBounds_toArray, List.set_cons_zero, List.set_cons_succ]
        refine take (i := 8) (d := some 26) (v := .agg #[.int .i64 x.ep, .int .i64 x.pr, .slice x.aV x.V.length x.cV, .slice x.aM x.M.length x.cM, .slice x.aA x.A.length x.cA, .int .i64 x.h]) rfl (by kernel_rfl) (by kernel_rfl) (by kernel_rfl) (by kernel_rfl) (fun _ _ _ h => h) (Or.inl ⟨by rfl, by intro w hSw; obtain ⟨c0, c1, c2, c3, c4, c5, d0, d1, d2, d3, d4, d5⟩ := hSw; go_simp⟩) hHeld ?_
        simp only [Act.put, List.setIfInBounds_toArray, List.set_cons_zero, List.set_cons_succ]
        refine take (i := 9) (d := some 27) (v := .agg #[.int .i64 e.ep, .int .i64 e.pr, .slice e.aV e.V.length e.cV, .slice e.aM e.M.length e.cM, .slice e.aA e.A.length e.cA, .int .i64 e.h]) rfl (by kernel_rfl) (by kernel_rfl) (by kernel_rfl) (by kernel_rfl) (fun _ _ _ h => h) (Or.inl ⟨by rfl, by intro w hSw; obtain ⟨c0, c1, c2, c3, c4, c5, d0, d1, d2, d3, d4, d5⟩ := hSw; go_simp⟩) hHeld ?_
        simp only [Act.put, List.setIfInBounds_toArray, List.set_cons_zero, List.set_cons_succ]
        refine wpAnyH_ready (rs := [10]) (by kernel_rfl) (by simp) (Rg.call2 (i := 10) rfl (by rfl) 94 (.tmp 26) (.tmp 27) 41 41 (by kernel_rfl) 28 (by kernel_rfl) _ _ (by kernel_rfl) (by kernel_rfl) (fun _ => rfl) (hcall _) ?_ AllReadyH.nil)
        rintro e1 w1 ⟨rfl, hb⟩
        refine ⟨_, rfl, ⟨(hb.cell (by exact bl)).trans c0, (hb.cell (by exact bl)).trans c1, (hb.cell (by exact bl)).trans c2, (hb.cell (by exact bl)).trans c3, (hb.cell (by exact bl)).trans c4, (hb.cell (by exact bl)).trans c5, (hb.cell (by exact bt)).trans d0, (hb.cell (by exact bt)).trans d1, (hb.cell (by exact bt)).trans d2, (hb.cell (by exact bt)).trans d3, (hb.cell (by exact bt)).trans d4, (hb.cell (by exact bt)).trans d5⟩, fun hHeld => ?_⟩
        simp only [Act.put, List.setIfInBounds_toArray, List.set_cons_zero, List.set_cons_succ]
        refine take (i := 11) (d := some 29) (v := .bool true) rfl (by kernel_rfl) (by kernel_rfl) (by kernel_rfl) (by kernel_rfl) (fun _ _ _ h => h) (Or.inl ⟨by rfl, by intro w hSw; go_simp⟩) hHeld ?_
        simp only [Act.put, List.setIfInBounds_toArray, List.set_cons_zero, List.set_cons_succ]
        refine take (i := 12) (d := some 30) (v := .bool true) rfl (by kernel_rfl) (by kernel_rfl) (by kernel_rfl) (by kernel_rfl) (fun _ _ _ h => h) (Or.inl ⟨by rfl, by intro w hSw; go_simp⟩) hHeld ?_
        simp only [Act.put, List.setIfInBounds_toArray, List.set_cons_zero, List.set_cons_succ]
        refine wpAnyH_done (by kernel_rfl) ?_ _
        subst hr
        replace kT := (hb.block _ bt).trans kT
        have ok1 := ok.of (Rw.next ((Below.refl wr.heap.size wr).drew) hb) (Nat.le_refl _)
        have own1 := map_below hown.drew hb
        replace hbel := Rw.next (by repeat (first | exact hbel | apply Below.drew)) hb
        have q2 : w1.cell? ⟨b, off + t * 6 + 2, none⟩ = some (.slice x.aV x.V.length x.cV) := (hb.cell (by exact bl)).trans c2
        have q3 : w1.cell? ⟨b, off + t * 6 + 3, none⟩ = some (.slice x.aM x.M.length x.cM) := (hb.cell (by exact bl)).trans c3
        have bl1 : b < w1.heap.size := World.block_lt_of_cell? _ _ q2
        clear hb c0 c1 c2 c3 c4 c5 d0 d1 d2 d3 d4 d5 ok hown bt bl hcall
        have hkey := keyV_some ok1.wV ok1.wM
        unfold keyV at hkey
        have hkl := law.key hkey
        have t1 : True := trivial
        have lB : w.heap.size + 1 < w1.heap.size := own1.lt
        go_wp2_with (first
          | (go_at_call 72; refine (Po.pairs_any _ _ _ _ _ _ _ _ x.V x.M _ ok1.rV ok1.rM ok1.wV).mono ?_; rintro x2 w2 ⟨rfl, hb⟩; replace kT := (hb.block _ (blk_lt kT)).trans kT; replace own1 := map_below own1 hb; replace hbel := Rw.next hbel hb; replace lB := Nat.lt_of_lt_of_le lB hb.size; clear hb ok1)
          | (clear t1; refine store66 rfl _ _ rfl rfl rfl (has_zero rfl) (fun w3 hX hS => ?_); replace kT := (hS.block _ (Nat.ne_of_lt (blk_lt kT))).trans ((at_old (blk_lt kT)).trans kT); replace own1 := map_same (own1.alloc _) hS (by simp; omega); replace hbel := hS.below (Rw.next hbel (below_alloc1 _ _)) hbel.size; have t2 : True := trivial; clear hS)
          | (clear t2; refine load66 rfl _ rfl rfl hX ?_; have t3 : True := trivial)
          | (clear t3; at_mapUpdate; refine wpList_mapUpdate_own _ rfl _ _ _ 112 rfl 97 3 law Try.underlying112 _ (w.heap.size + 1) (t - s) D rfl own1 (by unfold maxLen; omega) _ _ _ rfl rfl hkey _ [] (plainElem_int Try.underlying3 (WalkArith.wf_i64 (by omega))) ?_; intro w4 own2 hg2; have kT4 := (hg2.block _ (blk_lt kT) (by simp)).trans kT; have bel4 := grown_below hbel hg2 (by omega)))
        go_roundw
        case rel =>
          refine ⟨t + 1, D.put (klP Try.prog x) (.lit (.int .i64 t)), by omega, by omega, by go_num, bel4, kT4, ?_, ?_, fun i h1 h2 => ?_⟩
          · rw [show t + 1 - s = t - s + 1 by omega]; exact own2
          · have := keys_step HK.out hst (own1.tidy law) (by rw [HX.out]; exact hkl)
            rw [HX.out] at this
            exact this
          · by_cases e1 : i = t
            · subst e1; rw [HX.out]; exact HZ.out
            · exact HR.out i h1 (by omega)
        case measure => simp [intOf]; omega
      · have HZ : Hid (¬ rk x e = 0) := hr
        obtain ⟨r, hr1⟩ : ∃ r : Int, r = rk x e := ⟨_, rfl⟩
        rw [← hr1] at hcall hr
        have hr' : (r == 0) = false := by simpa using hr
        clear hr1
        go_wp2
        refine wp_region_held_drew (S := (fun w' => w'.cell? ⟨b, off + t * 6, none⟩ = some (.int .i64 x.ep) ∧ w'.cell? ⟨b, off + t * 6 + 1, none⟩ = some (.int .i64 x.pr) ∧ w'.cell? ⟨b, off + t * 6 + 2, none⟩ = some (.slice x.aV x.V.length x.cV) ∧ w'.cell? ⟨b, off + t * 6 + 3, none⟩ = some (.slice x.aM x.M.length x.cM) ∧ w'.cell? ⟨b, off + t * 6 + 4, none⟩ = some (.slice x.aA x.A.length x.cA) ∧ w'.cell? ⟨b, off + t * 6 + 5, none⟩ = some (.int .i64 x.h) ∧ w'.cell? ⟨w.heap.size, 0, none⟩ = some (.int .i64 e.ep) ∧ w'.cell? ⟨w.heap.size, 1, none⟩ = some (.int .i64 e.pr) ∧ w'.cell? ⟨w.heap.size, 2, none⟩ = some (.slice e.aV e.V.length e.cV) ∧ w'.cell? ⟨w.heap.size, 3, none⟩ = some (.slice e.aM e.M.length e.cM) ∧ w'.cell? ⟨w.heap.size, 4, none⟩ = some (.slice e.aA e.A.length e.cA) ∧ w'.cell? ⟨w.heap.size, 5, none⟩ = some (.int .i64 e.h))) (by kernel_rfl) ⟨c0, c1, c2, c3, c4, c5, d0, d1, d2, d3, d4, d5⟩ (fun hHeld => ?_)
        refine take (i := 0) (d := some 18) (v := .int .i64 t) rfl (by kernel_rfl) (by kernel_rfl) (by kernel_rfl) (by kernel_rfl) (fun _ _ _ h => h) (Or.inl ⟨by rfl, by intro w hSw; go_simp⟩) hHeld ?_
        simp only [Act.put, List.setIfInBounds_toArray, List.set_cons_zero, List.set_cons_succ]
        refine take (i := 1) (d := some 19) (v := .slice (some ⟨b, off, none⟩) n cap) rfl (by kernel_rfl) (by kernel_rfl) (by kernel_rfl) (by kernel_rfl) (fun _ _ _ h => h) (Or.inl ⟨by rfl, by intro w hSw; go_simp⟩) hHeld ?_
        simp only [Act.put, List.setIfInBounds_toArray, List.set_cons_zero, List.set_cons_succ]
        refine take (i := 2) (d := some 20) (v := .int .i64 n) rfl (by kernel_rfl) (by kernel_rfl) (by kernel_rfl) (by kernel_rfl) (fun _ _ _ h => h) (Or.inl ⟨by rfl, by intro w hSw; go_simp⟩) hHeld ?_
        simp only [Act.put, List.setIfInBounds_toArray, List.set_cons_zero, List.set_cons_succ]
        refine take (i := 3) (d := some 21) (v := .bool true) rfl (by kernel_rfl) (by kernel_rfl) (by kernel_rfl) (by kernel_rfl) (fun _ _ _ h => h) (Or.inl ⟨by rfl, by intro w hSw; go_simp⟩) hHeld ?_
        simp only [Act.put, List.setIfInBounds_toArray, List.set_cons_zero, List.set_cons_succ]
        refine take (i := 4) (d := some 22) (v := .bool true) rfl (by kernel_rfl) (by kernel_rfl) (by kernel_rfl) (by kernel_rfl) (fun _ _ _ h => h) (Or.inl ⟨by rfl, by intro w hSw; go_simp⟩) hHeld ?_
        simp only [Act.put, List.setIfInBounds_toArray, List.set_cons_zero, List.set_cons_succ]
        refine take (i := 5) (d := some 23) (v := .slice (some ⟨b, off, none⟩) n cap) rfl (by kernel_rfl) (by kernel_rfl) (by kernel_rfl) (by kernel_rfl) (fun _ _ _ h => h) (Or.inl ⟨by rfl, by intro w hSw; go_simp⟩) hHeld ?_
        simp only [Act.put, List.setIfInBounds_toArray, List.set_cons_zero, List.set_cons_succ]
        refine take (i := 6) (d := some 24) (v := .int .i64 t) rfl (by kernel_rfl) (by kernel_rfl) (by kernel_rfl) (by kernel_rfl) (fun _ _ _ h => h) (Or.inl ⟨by rfl, by intro w hSw; go_simp⟩) hHeld ?_
        simp only [Act.put, List.setIfInBounds_toArray, List.set_cons_zero, List.set_cons_succ]
        refine take (i := 7) (d := some 25) (v := .pointer (some ⟨b, off + t * 6, none⟩)) rfl (by kernel_rfl) (by kernel_rfl) (by kernel_rfl) (by kernel_rfl) (fun _ _ _ h => h) (Or.inl ⟨by rfl, by intro w hSw; go_simp⟩) hHeld ?_
        simp only [Act.put, List.setIfInBounds_toArray, List.set_cons_zero, List.set_cons_succ]
        refine take (i := 8) (d := some 26) (v := .agg #[.int .i64 x.ep, .int .i64 x.pr, .slice x.aV x.V.length x.cV, .slice x.aM x.M.length x.cM, .slice x.aA x.A.length x.cA, .int .i64 x.h]) rfl (by kernel_rfl) (by kernel_rfl) (by kernel_rfl) (by kernel_rfl) (fun _ _ _ h => h) (Or.inl ⟨by rfl, by intro w hSw; obtain ⟨c0, c1, c2, c3, c4, c5, d0, d1, d2, d3, d4, d5⟩ := hSw; go_simp⟩) hHeld ?_
        simp only [Act.put, List.setIfInBounds_toArray, List.set_cons_zero, List.set_cons_succ]
        refine take (i := 9) (d := some 27) (v := .agg #[.int .i64 e.ep, .int .i64 e.pr, .slice e.aV e.V.length e.cV, .slice e.aM e.M.length e.cM, .slice e.aA e.A.length e.cA, .int .i64 e.h]) rfl (by kernel_rfl) (by kernel_rfl) (by kernel_rfl) (by kernel_rfl) (fun _ _ _ h => h) (Or.inl ⟨by rfl, by intro w hSw; obtain ⟨c0, c1, c2, c3, c4, c5, d0, d1, d2, d3, d4, d5⟩ := hSw; go_simp⟩) hHeld ?_
        simp only [Act.put, List.setIfInBounds_toArray, List.set_cons_zero, List.set_cons_succ]
        refine wpAnyH_ready (rs := [10]) (by kernel_rfl) (by simp) (Rg.call2 (i := 10) rfl (by rfl) 94 (.tmp 26) (.tmp 27) 41 41 (by kernel_rfl) 28 (by kernel_rfl) _ _ (by kernel_rfl) (by kernel_rfl) (fun _ => rfl) (hcall _) ?_ AllReadyH.nil)
        rintro e1 w1 ⟨rfl, hb⟩
        refine ⟨_, rfl, ⟨(hb.cell (by exact bl)).trans c0, (hb.cell (by exact bl)).trans c1, (hb.cell (by exact bl)).trans c2, (hb.cell (by exact bl)).trans c3, (hb.cell (by exact bl)).trans c4, (hb.cell (by exact bl)).trans c5, (hb.cell (by exact bt)).trans d0, (hb.cell (by exact bt)).trans d1, (hb.cell (by exact bt)).trans d2, (hb.cell (by exact bt)).trans d3, (hb.cell (by exact bt)).trans d4, (hb.cell (by exact bt)).trans d5⟩, fun hHeld => ?_⟩
        simp only [Act.put, List.setIfInBounds_toArray, List.set_cons_zero, List.set_cons_succ]
        refine take (i := 11) (d := some 29) (v := .bool false) rfl (by kernel_rfl) (by kernel_rfl) (by kernel_rfl) (by kernel_rfl) (fun _ _ _ h => h) (Or.inl ⟨by rfl, by intro w hSw; go_simp⟩) hHeld ?_
        simp only [Act.put, List.setIfInBounds_toArray, List.set_cons_zero, List.set_cons_succ]
        refine take (i := 12) (d := some 30) (v := .bool false) rfl (by kernel_rfl) (by kernel_rfl) (by kernel_rfl) (by kernel_rfl) (fun _ _ _ h => h) (Or.inl ⟨by rfl, by intro w hSw; go_simp⟩) hHeld ?_
        simp only [Act.put, List.setIfInBounds_toArray, List.set_cons_zero, List.set_cons_succ]
        refine wpAnyH_done (by kernel_rfl) ?_ _
        have own1 := map_below hown.drew hb
        go_wp2
        exact bodyPost_ret (v := .tuple #[.map (some (w.heap.size + 1)), .int .i64 t]) (by simp [results, Try.results77, go_sem]) rfl ⟨Rw.next (by repeat (first | exact hbel | apply Below.drew)) hb, w.heap.size + 1, s, t, D, rfl, by omega, own1, HPl.out, ⟨hst, by have := HN.out; omega, HR.out, fun _ => by rw [HX.out]; exact HZ.out⟩, HK.out⟩
    · obtain rfl : t = n := by omega
      obtain ⟨n, hn2⟩ : ∃ n, n = t := ⟨_, rfl⟩
      have hnz : ¬ (t : Int) < (n : Int) := by omega
      rw [← hn2]
      go_wp2
      refine wp_region_held_drew (S := (fun _ => True)) (by kernel_rfl) trivial (fun hHeld => ?_)
      refine take (i := 0) (d := some 18) (v := .int .i64 t) rfl (by kernel_rfl) (by kernel_rfl) (by kernel_rfl) (by kernel_rfl) (fun _ _ _ h => h) (Or.inl ⟨by rfl, by intro w hSw; go_simp⟩) hHeld ?_
      simp only [Act.put, List.setIfInBounds_toArray, List.set_cons_zero, List.set_cons_succ]
      refine take (i := 1) (d := some 19) (v := .slice a n cap) rfl (by kernel_rfl) (by kernel_rfl) (by kernel_rfl) (by kernel_rfl) (fun _ _ _ h => h) (Or.inl ⟨by rfl, by intro w hSw; go_simp⟩) hHeld ?_
      simp only [Act.put, List.setIfInBounds_toArray, List.set_cons_zero, List.set_cons_succ]
      refine take (i := 2) (d := some 20) (v := .int .i64 n) rfl (by kernel_rfl) (by kernel_rfl) (by kernel_rfl) (by kernel_rfl) (fun _ _ _ h => h) (Or.inl ⟨by rfl, by intro w hSw; go_simp⟩) hHeld ?_
      simp only [Act.put, List.setIfInBounds_toArray, List.set_cons_zero, List.set_cons_succ]
      refine take (i := 3) (d := some 21) (v := .bool false) rfl (by kernel_rfl) (by kernel_rfl) (by kernel_rfl) (by kernel_rfl) (fun _ _ _ h => h) (Or.inl ⟨by rfl, by intro w hSw; go_simp⟩) hHeld ?_
      simp only [Act.put, List.setIfInBounds_toArray, List.set_cons_zero, List.set_cons_succ]
      refine take (i := 4) (d := some 22) (v := .bool false) rfl (by kernel_rfl) (by kernel_rfl) (by kernel_rfl) (by kernel_rfl) (fun _ _ _ h => h) (Or.inl ⟨by rfl, by intro w hSw; go_simp⟩) hHeld ?_
      simp only [Act.put, List.setIfInBounds_toArray, List.set_cons_zero, List.set_cons_succ]
      refine take (i := 5) (d := some 23) (v := undef) rfl (by kernel_rfl) (by kernel_rfl) (by kernel_rfl) (by kernel_rfl) (fun _ _ _ h => h) (Or.inr ⟨by rfl, rfl⟩) hHeld ?_
      simp only [Act.put, List.setIfInBounds_toArray, List.set_cons_zero, List.set_cons_succ]
      refine take (i := 6) (d := some 24) (v := undef) rfl (by kernel_rfl) (by kernel_rfl) (by kernel_rfl) (by kernel_rfl) (fun _ _ _ h => h) (Or.inr ⟨by rfl, rfl⟩) hHeld ?_
      simp only [Act.put, List.setIfInBounds_toArray, List.set_cons_zero, List.set_cons_succ]
      refine take (i := 7) (d := some 25) (v := undef) rfl (by kernel_rfl) (by kernel_rfl) (by kernel_rfl) (by kernel_rfl) (fun _ _ _ h => h) (Or.inr ⟨by rfl, rfl⟩) hHeld ?_
      simp only [Act.put, List.setIfInBounds_toArray, List.set_cons_zero, List.set_cons_succ]
      refine take (i := 8) (d := some 26) (v := undef) rfl (by kernel_rfl) (by kernel_rfl) (by kernel_rfl) (by kernel_rfl) (fun _ _ _ h => h) (Or.inr ⟨by rfl, rfl⟩) hHeld ?_
      simp only [Act.put, List.setIfInBounds_toArray, List.set_cons_zero, List.set_cons_succ]
      refine take (i := 9) (d := some 27) (v := undef) rfl (by kernel_rfl) (by kernel_rfl) (by kernel_rfl) (by kernel_rfl) (fun _ _ _ h => h) (Or.inr ⟨by rfl, rfl⟩) hHeld ?_
      simp only [Act.put, List.setIfInBounds_toArray, List.set_cons_zero, List.set_cons_succ]
      refine take (i := 10) (d := some 28) (v := undef) rfl (by kernel_rfl) (by kernel_rfl) (by kernel_rfl) (by kernel_rfl) (fun _ _ _ h => h) (Or.inr ⟨by rfl, rfl⟩) hHeld ?_
      simp only [Act.put, List.setIfInBounds_toArray, List.set_cons_zero, List.set_cons_succ]
      refine take (i := 11) (d := some 29) (v := undef) rfl (by kernel_rfl) (by kernel_rfl) (by kernel_rfl) (by kernel_rfl) (fun _ _ _ h => h) (Or.inr ⟨by rfl, rfl⟩) hHeld ?_
      simp only [Act.put, List.setIfInBounds_toArray, List.set_cons_zero, List.set_cons_succ]
      refine take (i := 12) (d := some 30) (v := .bool false) rfl (by kernel_rfl) (by kernel_rfl) (by kernel_rfl) (by kernel_rfl) (fun _ _ _ h => h) (Or.inl ⟨by rfl, by intro w hSw; go_simp⟩) hHeld ?_
      simp only [Act.put, List.setIfInBounds_toArray, List.set_cons_zero, List.set_cons_succ]
      refine wpAnyH_done (by kernel_rfl) ?_ _
      go_wp2
      exact bodyPost_ret (v := .tuple #[.map (some (w.heap.size + 1)), .int .i64 t]) (by simp [results, Try.results77, go_sem]) rfl ⟨by repeat (first | exact hbel | apply Below.drew), w.heap.size + 1, s, t, D, rfl, by omega, hown.drew, HPl.out, ⟨hst, by have := HN.out; omega, HR.out, fun h => by have := HN.out; omega⟩, HK.out⟩

end Go.Proofs.Ytcbgnfjnjfaacaa.Ka
namespace Go.Proofs.Ytcbgnfjnjfaacaa.Ka
set_option maxRecDepth 8000
set_option linter.unusedSimpArgs false
set_option linter.unusedVariables false
open Go Go.RowKit Go.Maps
open Num Pl Ea Ra Pq Pa

theorem rk_lt {a b : Ent} : rk a b < 0 ↔ (a.ep < b.ep ∨ a.ep = b.ep ∧ b.pr < a.pr) := by
  unfold rk orI cmpI
  repeat' split
  all_goals omega
theorem rk_eq {a b : Ent} : rk a b = 0 ↔ (a.ep = b.ep ∧ a.pr = b.pr) := by
  unfold rk orI cmpI
  repeat' split
  all_goals omega

/-- Is the one ahead of the other? Have they one key? -/
def Ahead (a b : En) : Prop := a.1 < b.1 ∨ a.1 = b.1 ∧ b.2.1 < a.2.1
def SameKey (a b : En) : Prop := a.1 = b.1 ∧ a.2.1 = b.2.1 ∧ a.2.2.1 = b.2.2.1 ∧ a.2.2.2.1 = b.2.2.2.1
def x0 : En := e0.said
/-- Is a table right? -/
structure TabP (q : Int) (L : List En) : Prop where
  q0 : 0 ≤ q
  q1 : q ≤ 400
  len : (L.length : Int) ≤ q
  each : ∀ i, i < L.length → enB (L.getD i x0) = true
  sorted : ∀ i, i + 1 < L.length → ¬ Ahead (L.getD (i + 1) x0) (L.getD i x0)
  once : ∀ i j, i < j → j < L.length → ¬ SameKey (L.getD i x0) (L.getD j x0)
theorem said_getD (Q : List Ent) (i : Nat) : (Q.map Ent.said).getD i x0 = (Q.getD i e0).said := by
  simp [List.getD, Option.getD_map, x0]
theorem ahead_rk {a b : Ent} : Ahead a.said b.said ↔ rk a b < 0 := rk_lt.symm

/-- The entries are right, and stand in order. -/
structure Good (Q : List Ent) : Prop where
  right : ∀ i, i < Q.length → enB (Q.getD i e0).said = true
  sorted : ∀ i, i + 1 < Q.length → ¬ rk (Q.getD (i + 1) e0) (Q.getD i e0) < 0
theorem Good.le {Q : List Ent} (h : Good Q) {i j : Nat} (hij : i ≤ j) (hj : j < Q.length) : ¬ rk (Q.getD j e0) (Q.getD i e0) < 0 := by
  induction j with
  | zero => have : i = 0 := by omega
            subst this; rw [rk_lt]; omega
  | succ j ih =>
    by_cases e : i = j + 1
    · subst e; rw [rk_lt]; omega
    · have h1 := ih (by omega) (by omega)
      have h2 := h.sorted j hj
      rw [rk_lt] at h1 h2 ⊢
      omega
theorem Good.mono {Q : List Ent} (h : Good Q) (e : Ent) : ∀ i j, i ≤ j → j < Q.length → rk (Q.getD j e0) e < 0 → rk (Q.getD i e0) e < 0 := by
  intro i j hij hj hr
  have h1 := h.le hij hj
  rw [rk_lt] at h1 hr ⊢
  omega
theorem right_match {x : En} (h : enB x = true) : Po.matchB x.2.2.1 x.2.2.2.1 = true := by
  simp only [enB, Bool.and_eq_true] at h
  exact h.2.2.2.1
theorem kl_said {Q : List Ent} (h : Good Q) {w : World} (ho : ∀ i, i < Q.length → (Q.getD i e0).Ok w) {i j : Nat} (hi : i < Q.length) (hj : j < Q.length) : klP Try.prog (Q.getD i e0) = klP Try.prog (Q.getD j e0) ↔ (Q.getD i e0).V = (Q.getD j e0).V ∧ (Q.getD i e0).M = (Q.getD j e0).M :=
  kl_iff (ho i hi).wV (ho i hi).wM (ho j hj).wV (ho j hj).wM (right_match (h.right i hi)) (right_match (h.right j hj))

/-- No key stands twice. -/
def Once (Q : List Ent) (n : Nat) : Prop := ∀ i j, i < j → j < n → rk (Q.getD i e0) (Q.getD j e0) = 0 → ¬ ((Q.getD i e0).V = (Q.getD j e0).V ∧ (Q.getD i e0).M = (Q.getD j e0).M)

/-- At the beginning of a rank the search finds just that place. -/
theorem place_at {Q : List Ent} {f s : Nat} (hf : f < Q.length) (hb : ∀ m, m < f → rk (Q.getD m e0) (Q.getD f e0) < 0) (h : Ra.Place Q (Q.getD f e0) s) : s = f := by
  obtain ⟨h1, h2, h3⟩ := h
  rcases Nat.lt_trichotomy s f with h4 | h4 | h4
  · exact absurd (hb s h4) (h3 s (Nat.le_refl _) (by omega))
  · exact h4
  · have := h2 f h4
    rw [rk_lt] at this
    omega

set_option maxHeartbeats 4000000 in
theorem none_any (a : Option Addr) (b off cap : Nat) (Q : List Ent) (w : World) (h : Rd w a b off Q) (hG : Good Q) (R : Bool) (hR : R = true ↔ Once Q Q.length) :
    Calls Try.prog 95 #[.slice a Q.length cap] w fun e w' => e = .returned (.bool R) ∧ Below w.heap.size w w' := by
  have hpl := places_any a b off cap Q
  have hr0 := h
  obtain ⟨hh, hc, ho, hs⟩ := h
  have HO : Hid (∀ i, i < Q.length → (Q.getD i e0).Ok w) := ho
  have HR : Hid (R = true ↔ Once Q Q.length) := hR
  have HD : Hid (Rd w a b off Q) := hr0
  obtain ⟨n, hn⟩ : ∃ n, n = Q.length := ⟨_, rfl⟩
  rw [← hn] at hh hc hs hpl ⊢
  have HN : Hid (n = Q.length) := hn
  clear hn ho hR hr0
  simp only [ent_vals] at hpl
  go_enter Try.func95, Try.ntmps95
  go_wp2
  go_loopw [3] (fun u wr => ∃ f : Nat, f ≤ n ∧ u = .int .i64 f ∧ Below w.heap.size w wr ∧ Once Q f ∧ (f < n → ∀ m, m < f → rk (Q.getD m e0) (Q.getD f e0) < 0)) (fun u _ => n - (intOf u).toNat)
  case atStart => exact ⟨0, Nat.zero_le _, rfl, Below.refl _ _, fun i j h1 h2 => by omega, fun _ m hm => by omega⟩
  case round =>
    obtain ⟨f, hf, rfl, hbel, hon, hbd⟩ := hrel
    have HF : Hid (Once Q f ∧ (f < n → ∀ m, m < f → rk (Q.getD m e0) (Q.getD f e0) < 0)) := ⟨hon, hbd⟩
    clear hon hbd
    by_cases hlt : f < n
    · obtain ⟨on1, bd1⟩ := HF.out
      obtain rfl := hh (by omega)
      have hnz : (f : Int) < (n : Int) := by omega
      obtain ⟨c0, c1, c2, c3, c4, c5⟩ := ((hc f hlt).of hbel (At6.lt (hc f hlt))).six
      have hrd := HD.out.below hbel
      have hmo := hG.mono (Q.getD f e0)
      have hnq := HN.out
      obtain ⟨x, hx⟩ : ∃ x, x = Q.getD f e0 := ⟨_, rfl⟩
      have hcall := hpl x wr hrd (by rw [hx, hnq]; exact hmo)
      rw [← hx] at c0 c1 c2 c3 c4 c5
      have HX : Hid (x = Q.getD f e0) := hx
      have HB : Hid (∀ m, m < f → rk (Q.getD m e0) (Q.getD f e0) < 0) := bd1 hlt
      clear hx hmo hc hh hpl on1 bd1 hnq hrd
      go_wp2_with (go_at_call 77; refine hcall.mono ?_; rintro x1 w1 ⟨hb, B, s, t, D, rfl, hB, hown, hp, hsp, hk⟩; replace hbel := Rw.next hbel hb; clear hb)
      have hnq := HN.out
      have hp' := hp
      rw [HX.out] at hp'
      obtain rfl : s = f := place_at (by omega) HB.out hp'
      obtain ⟨st, tn, sp1, sp2⟩ := hsp
      have htn : t ≤ n := by omega
      have hft : s < t := by
        rcases Nat.lt_or_ge s t with h1 | h1
        · exact h1
        · exfalso
          have : s = t := by omega
          subst this
          exact sp2 (by omega) (by rw [HX.out, rk_eq]; exact ⟨rfl, rfl⟩)
      have hlast : ∀ i j, i < j → s ≤ j → j < t → i < s → ¬ rk (Q.getD i e0) (Q.getD j e0) = 0 := by
        intro i j hij hj1 hj2 his h0
        have a1 := HB.out i his
        have a2 := sp1 j hj1 hj2
        rw [HX.out] at a2
        rw [rk_lt] at a1
        rw [rk_eq] at a2 h0
        omega
      have htz : (t : Int) - (s : Int) = ((t - s : Nat) : Int) := by omega
      have HS : Hid (∀ i, s ≤ i → i < t → rk (Q.getD i e0) x = 0) := sp1
      have HS2 : Hid (t < Q.length → rk (Q.getD t e0) x ≠ 0) := sp2
      have HLa : Hid (∀ i j, i < j → s ≤ j → j < t → i < s → ¬ rk (Q.getD i e0) (Q.getD j e0) = 0) := hlast
      have HKe : Hid (Keys Q s t D) := hk
      have HT : Hid (t ≤ Q.length) := tn
      clear hp hp' sp1 sp2 hlast hk tn hnq st
      by_cases hdup : ∃ i j, s ≤ i ∧ i < j ∧ j < t ∧ klP Try.prog (Q.getD i e0) = klP Try.prog (Q.getD j e0)
      · have hsz := HKe.out.two hdup
        have hszz : (Maps.size D : Int) < ((t - s : Nat) : Int) := by omega
        clear hsz
        have HDup : Hid (∃ i j, s ≤ i ∧ i < j ∧ j < t ∧ klP Try.prog (Q.getD i e0) = klP Try.prog (Q.getD j e0)) := hdup
        clear hdup
        have hlen := hown.len (t := 112) (e := 3) Try.underlying112 3
        generalize (Maps.size D : Int) = zD at *
        go_wp2
        rw [hlen]
        simp only [Result.andThen]
        go_wp2
        go_ret
        refine ⟨ret_bool ?_, hbel⟩
        cases R
        · rfl
        · exfalso
          obtain ⟨i, j, h1, h2, h3, h4⟩ := HDup.out
          have hT := HT.out
          have a1 := HS.out i h1 (by omega)
          have a2 := HS.out j (by omega) h3
          exact (HR.out.1 rfl) i j h2 (by omega) (by rw [rk_eq] at a1 a2 ⊢; omega) ((kl_said hG HO.out (by omega) (by omega)).1 h4)
      · have hsz := HKe.out.none2 (fun i j h1 h2 h3 h4 => hdup ⟨i, j, h1, h2, h3, h4⟩)
        have hszz : ¬ (Maps.size D : Int) < ((t - s : Nat) : Int) := by omega
        have HDup : Hid (¬ ∃ i j, s ≤ i ∧ i < j ∧ j < t ∧ klP Try.prog (Q.getD i e0) = klP Try.prog (Q.getD j e0)) := hdup
        clear hdup
        have hlen := hown.len (t := 112) (e := 3) Try.underlying112 3
        generalize (Maps.size D : Int) = zD at *
        go_wp2
        go_roundw
        case rel =>
          have hT := HT.out
          have hnq := HN.out
          refine ⟨t, htn, rfl, hbel, fun i j h1 h2 h3 h4 => ?_, fun h1 m hm => ?_⟩
          · rcases Nat.lt_or_ge j s with hj | hj
            · exact HF.out.1 i j h1 hj h3 h4
            · rcases Nat.lt_or_ge i s with hi | hi
              · exact HLa.out i j h1 hj h2 hi h3
              · exact HDup.out ⟨i, j, hi, h1, h2, (kl_said hG HO.out (by omega) (by omega)).2 h4⟩
          · have a0 := HS2.out (by omega)
            have a1 := hG.le (i := s) (j := t) (by omega) (by omega)
            rw [HX.out] at a0
            rcases Nat.lt_or_ge m s with hm1 | hm1
            · have a2 := HB.out m hm1
              rw [rk_lt] at a1 a2 ⊢
              have a3 : ¬ ((Q.getD t e0).ep = (Q.getD s e0).ep ∧ (Q.getD t e0).pr = (Q.getD s e0).pr) := fun h => a0 (rk_eq.2 h)
              omega
            · have a2 := HS.out m hm1 hm
              rw [HX.out, rk_eq] at a2
              rw [rk_lt] at a1 ⊢
              have a3 : ¬ ((Q.getD t e0).ep = (Q.getD s e0).ep ∧ (Q.getD t e0).pr = (Q.getD s e0).pr) := fun h => a0 (rk_eq.2 h)
              omega
        case measure => simp [intOf]; omega
    · obtain rfl : f = n := by omega
      go_wp2
      go_ret
      refine ⟨ret_bool ?_, hbel⟩
      have := HN.out
      exact (HR.out.2 (by rw [← this]; exact HF.out.1)).symm

end Go.Proofs.Ytcbgnfjnjfaacaa.Ka
namespace Go.Proofs.Ytcbgnfjnjfaacaa.Ka
set_option maxRecDepth 8000
set_option linter.unusedSimpArgs false
set_option linter.unusedVariables false
open Go Go.RowKit Go.Maps
open Num Pl Ea Ra Pq Pa

theorem wrong_any (e : Ent) (w : World) (h : e.Ok w) : Calls Try.prog 136 #[.agg #[.int .i64 e.ep, .int .i64 e.pr, .slice e.aV e.V.length e.cV, .slice e.aM e.M.length e.cM, .slice e.aA e.A.length e.cA, .int .i64 e.h]] w fun x w' => x = .returned (.bool (!enB e.said)) ∧ Below w.heap.size w w' := by
  obtain ⟨W1, hW1⟩ : ∃ W1, W1 = w.alloc (.cells #[.int .i64 e.ep, .int .i64 e.pr, .slice e.aV e.V.length e.cV, .slice e.aM e.M.length e.cM, .slice e.aA e.A.length e.cA, .int .i64 e.h] 41) := ⟨_, rfl⟩
  have B1 : Below w.heap.size w W1 := by subst hW1; exact below_alloc1 _ _
  have hc := okE_impl e W1 (h.below B1)
  simp only [ent_vals] at hc
  go_enter Try.func136, Try.ntmps136
  go_wp2_with (go_at_call 36; rw [← hW1]; clear hW1; refine hc.mono ?_; rintro x wa ⟨rfl, hb⟩)
  go_ret
  exact ⟨rfl, Rw.next B1 hb⟩
theorem right_any (a : Option Addr) (b off cap : Nat) (Q : List Ent) (w : World) (h : Rd w a b off Q) (R : Bool) (hR : R = true ↔ ∀ i, i < Q.length → enB (Q.getD i e0).said = true) :
    Calls Try.prog 92 #[.slice a Q.length cap] w fun e w' => e = .returned (.bool R) ∧ Below w.heap.size w w' := by
  have ht : Tells136 Q w (fun k => !enB (Q.getD k e0).said) := fun k hk W hW => wrong_any _ W ((h.ok k hk).of hW (Nat.le_refl _))
  have hc := contains136 a b off cap Q _ w h ht
  have e : anyB (fun k => !enB (Q.getD k e0).said) Q.length = !R := by
    cases R
    · cases hh : anyB (fun k => !enB (Q.getD k e0).said) Q.length
      · exfalso
        have : ∀ i, i < Q.length → enB (Q.getD i e0).said = true := by
          intro i hi
          cases e1 : enB (Q.getD i e0).said
          · rw [anyB_yes hi (show (!enB (Q.getD i e0).said) = true by rw [e1]; rfl)] at hh; cases hh
          · rfl
        exact absurd (hR.2 this) (by decide)
      · rfl
    · exact anyB_no (fun k hk => show (!enB (Q.getD k e0).said) = false by rw [hR.1 rfl k hk]; rfl)
  rw [e] at hc
  clear e ht hR
  go_enter Try.func92, Try.ntmps92
  go_wp2_with (go_at_call 101; refine hc.mono ?_; rintro x wa ⟨rfl, hb⟩)
  go_ret
  exact ⟨ret_bool (by simp), hb⟩

theorem em_bool (P : Prop) : ∃ R : Bool, R = true ↔ P := by
  rcases Classical.em P with h | h
  · exact ⟨true, by simp [h]⟩
  · exact ⟨false, by simp [h]⟩

set_option maxHeartbeats 4000000 in
theorem tabI (q : Int) (a : Option Addr) (b off cap : Nat) (Q : List Ent) (w : World) (h : Rd w a b off Q) (R : Bool) (hR : R = true ↔ TabP q (Q.map Ent.said)) :
    Calls Try.prog 26 #[.agg #[.int .i64 q, .slice a Q.length cap]] w fun e w' => e = .returned (.bool R) ∧ Below w.heap.size w w' := by
  obtain ⟨W1, hW1⟩ : ∃ W1, W1 = w.alloc (.cells #[.int .i64 q, .slice a Q.length cap] 38) := ⟨_, rfl⟩
  have B1 : Below w.heap.size w W1 := by subst hW1; exact below_alloc1 _ _
  have k0 : W1.heap[w.heap.size]? = some (.cells #[.int .i64 q, .slice a Q.length cap] 38 (0, 0)) := by subst hW1; exact at_new rfl
  have r1 := h.below B1
  have hs := h.size
  clear h
  have HR : Hid (R = true ↔ TabP q (Q.map Ent.said)) := hR
  clear hR
  have HB : Hid (Below w.heap.size w W1) := B1
  obtain ⟨b3, hb3⟩ := em_bool (∀ i, i < Q.length → enB (Q.getD i e0).said = true)
  have h3 := fun W hW => right_any a b off cap Q W hW b3 hb3
  have h4 := fun W hW => sorted_any a b off cap Q W hW
  have H3 : Hid (b3 = true ↔ ∀ i, i < Q.length → enB (Q.getD i e0).said = true) := hb3
  obtain ⟨b4, hb4⟩ : ∃ b4, b4 = sortB Q (Q.length - 1) := ⟨_, rfl⟩
  rw [← hb4] at h4
  have H4 : Hid (b4 = true ↔ ∀ i, i + 1 < Q.length → ¬ rk (Q.getD (i + 1) e0) (Q.getD i e0) < 0) := by
    rw [hb4, sortB_iff]
    exact ⟨fun h i hi => h i (by omega), fun h i hi => h i (by omega)⟩
  clear hb3 hb4
  obtain ⟨b5, hb5⟩ := em_bool (Once Q Q.length)
  have h5 := fun W hW hG => none_any a b off cap Q W hW hG b5 hb5
  have H5 : Hid (b5 = true ↔ Once Q Q.length) := hb5
  clear hb5
  have key : R = (upB 400 q && (decide ((Q.length : Int) ≤ q) && (b3 && (b4 && b5)))) := by
    have e : R = true ↔ (upB 400 q && (decide ((Q.length : Int) ≤ q) && (b3 && (b4 && b5)))) = true := by
      rw [HR.out]
      simp only [Bool.and_eq_true, upB, decide_eq_true_eq, H3.out, H4.out, H5.out]
      constructor
      · intro t
        refine ⟨⟨t.q0, t.q1⟩, by simpa using t.len, fun i hi => ?_, fun i hi => ?_, fun i j h1 h2 h3 h4 => ?_⟩
        · have := t.each i (by simpa using hi); rwa [said_getD] at this
        · have := t.sorted i (by simpa using hi); rwa [said_getD, said_getD, ahead_rk] at this
        · have := t.once i j h1 (by simpa using h2)
          rw [said_getD, said_getD] at this
          have e := rk_eq.1 h3
          exact this ⟨e.1, e.2, h4.1, h4.2⟩
      · rintro ⟨⟨t1, t2⟩, t3, t4, t5, t6⟩
        refine ⟨t1, t2, by simpa using t3, fun i hi => ?_, fun i hi => ?_, fun i j h1 h2 => ?_⟩
        · rw [said_getD]; exact t4 i (by simpa using hi)
        · rw [said_getD, said_getD, ahead_rk]; exact t5 i (by simpa using hi)
        · rw [said_getD, said_getD]
          rintro ⟨e1, e2, e3, e4⟩
          exact t6 i j h1 (by simpa using h2) (rk_eq.2 ⟨e1, e2⟩) ⟨e3, e4⟩
    cases R <;> cases hh : (upB 400 q && (decide ((Q.length : Int) ≤ q) && (b3 && (b4 && b5)))) <;> simp_all
  rw [key]
  clear key HR
  obtain ⟨n, hn⟩ : ∃ n, n = Q.length := ⟨_, rfl⟩
  rw [← hn] at hW1 k0 h3 h4 h5 hs ⊢
  have HN : Hid (n = Q.length) := hn
  clear hn
  generalize hb1 : upB 400 q = b1
  have Hb1 : Hid (upB 400 q = b1) := hb1
  clear hb1
  cases b1
  · go_enter Try.func26, Try.ntmps26
    go_wp2_with (first
      | (go_at_call 91; rw [← hW1]; clear hW1; refine (upTo_any _ _ _).mono ?_; rw [Hb1.out]; rintro x wa ⟨rfl, hw⟩; replace hw := hw.symm; subst hw; obtain ⟨p0, p1⟩ := Pm.two k0))
    go_ret
    exact ⟨ret_bool (by simp), B1⟩
  by_cases hle : (n : Int) ≤ q
  rotate_left
  · have hld : decide ((n : Int) ≤ q) = false := decide_eq_false hle
    rw [hld]
    go_enter Try.func26, Try.ntmps26
    go_wp2_with (first
      | (go_at_call 91; rw [← hW1]; clear hW1; refine (upTo_any _ _ _).mono ?_; rw [Hb1.out]; rintro x wa ⟨rfl, hw⟩; replace hw := hw.symm; subst hw; obtain ⟨p0, p1⟩ := Pm.two k0))
    go_ret
    exact ⟨ret_bool (by simp), B1⟩
  have hld : decide ((n : Int) ≤ q) = true := decide_eq_true hle
  rw [hld]
  cases b3
  · go_enter Try.func26, Try.ntmps26
    go_wp2_with (first
      | (go_at_call 91; rw [← hW1]; clear hW1; refine (upTo_any _ _ _).mono ?_; rw [Hb1.out]; rintro x wa ⟨rfl, hw⟩; replace hw := hw.symm; subst hw; obtain ⟨p0, p1⟩ := Pm.two k0)
      | (go_at_call 92; refine (h3 _ r1).mono ?_; rintro x wa ⟨rfl, ba⟩; replace k0 := (ba.block _ (blk_lt k0)).trans k0; clear p0 p1; obtain ⟨p0, p1⟩ := Pm.two k0; replace r1 := r1.below ba; replace B1 := Rw.next B1 ba; clear ba))
    go_ret
    exact ⟨ret_bool (by simp), B1⟩
  cases b4
  · go_enter Try.func26, Try.ntmps26
    go_wp2_with (first
      | (go_at_call 91; rw [← hW1]; clear hW1; refine (upTo_any _ _ _).mono ?_; rw [Hb1.out]; rintro x wa ⟨rfl, hw⟩; replace hw := hw.symm; subst hw; obtain ⟨p0, p1⟩ := Pm.two k0)
      | (go_at_call 92; refine (h3 _ r1).mono ?_; rintro x wa ⟨rfl, ba⟩; replace k0 := (ba.block _ (blk_lt k0)).trans k0; clear p0 p1; obtain ⟨p0, p1⟩ := Pm.two k0; replace r1 := r1.below ba; replace B1 := Rw.next B1 ba; clear ba)
      | (go_at_call 93; refine (h4 _ r1).mono ?_; rintro x wa ⟨rfl, ba⟩; replace k0 := (ba.block _ (blk_lt k0)).trans k0; clear p0 p1; obtain ⟨p0, p1⟩ := Pm.two k0; replace r1 := r1.below ba; replace B1 := Rw.next B1 ba; clear ba))
    go_ret
    exact ⟨ret_bool (by simp), B1⟩
  have hG : Good Q := ⟨H3.out.1 rfl, H4.out.1 rfl⟩
  go_enter Try.func26, Try.ntmps26
  go_wp2_with (first
    | (go_at_call 91; rw [← hW1]; clear hW1; refine (upTo_any _ _ _).mono ?_; rw [Hb1.out]; rintro x wa ⟨rfl, hw⟩; replace hw := hw.symm; subst hw; obtain ⟨p0, p1⟩ := Pm.two k0)
    | (go_at_call 92; refine (h3 _ r1).mono ?_; rintro x wa ⟨rfl, ba⟩; replace k0 := (ba.block _ (blk_lt k0)).trans k0; clear p0 p1; obtain ⟨p0, p1⟩ := Pm.two k0; replace r1 := r1.below ba; replace B1 := Rw.next B1 ba; clear ba)
    | (go_at_call 93; refine (h4 _ r1).mono ?_; rintro x wa ⟨rfl, ba⟩; replace k0 := (ba.block _ (blk_lt k0)).trans k0; clear p0 p1; obtain ⟨p0, p1⟩ := Pm.two k0; replace r1 := r1.below ba; replace B1 := Rw.next B1 ba; clear ba)
    | (go_at_call 95; refine (h5 _ r1 hG).mono ?_; rintro x wa ⟨rfl, ba⟩; replace B1 := Rw.next B1 ba; clear ba))
  go_ret
  exact ⟨ret_bool (by simp), B1⟩

end Go.Proofs.Ytcbgnfjnjfaacaa.Ka
