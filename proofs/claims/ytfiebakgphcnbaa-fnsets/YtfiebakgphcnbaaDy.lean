/-
  Draws of rows.
-/
import Derived.Test.YtfiebakgphcnbaaRn
import Derived.Test.YtfiebakgphcnbaaDx
namespace Go.Proofs.Ytfiebakgphcnbaa.Dr
set_option maxRecDepth 8000
set_option linter.unusedSimpArgs false
set_option linter.unusedVariables false
open Go Go.RowKit
open Num Rw Pl
open Rl (flatV Rm)
open Vl (V2 z2)

/-- A row of values of the call's own, that may grow. -/
structure OV (w : World) (B : Nat) (v : Value) (l : List V2) : Prop where
  own : w.ownsRow B 35 2 v l.length (flatV l)
  str : ∀ x ∈ l, x.2.size ≤ 100
theorem OV.nil (w : World) (B : Nat) : OV w B (.slice none 0 0) [] := ⟨by simpa [flatV] using World.ownsRow_nil w B 35 2, fun x h => by simp at h⟩
theorem OV.lt {w : World} {B : Nat} {v : Value} {l : List V2} (h : OV w B v l) {k : Nat} (hk : v.ownBlock = some k) : B ≤ k ∧ k < w.heap.size := h.own.lt k hk
theorem OV.keep {w w' : World} {B : Nat} {v : Value} {l : List V2} (h : OV w B v l) (hk : ∀ x, x < w.heap.size → v.ownBlock = some x → w'.heap[x]? = w.heap[x]?) : OV w' B v l := by
  refine ⟨⟨h.own.1, ?_⟩, h.str⟩
  rcases h.own.2 with ⟨e1, e2⟩ | ⟨g, cap, cur, e1, hb, hg, rest⟩
  · exact .inl ⟨e1, e2⟩
  · exact .inr ⟨g, cap, cur, e1, hb, (hk g (blk_lt hg) (by rw [e1]; rfl)).trans hg, rest⟩
theorem OV.below {w w' : World} {B : Nat} {v : Value} {l : List V2} (h : OV w B v l) (hb : Below w.heap.size w w') : OV w' B v l := h.keep fun x hx _ => hb.block x hx
theorem OV.only {w w' : World} {B g : Nat} {v : Value} {l : List V2} (h : OV w B v l) (ho : Only g w w') (hg : g < B) : OV w' B v l := h.keep fun x hx hx2 => ho.block x hx (by have := (h.lt hx2).1; simp; omega)
theorem OV.mono {w : World} {B B' : Nat} {v : Value} {l : List V2} (h : OV w B v l) (hB : B' ≤ B) : OV w B' v l := by
  refine ⟨⟨h.own.1, ?_⟩, h.str⟩
  rcases h.own.2 with ⟨e1, e2⟩ | ⟨g, cap, cur, e1, hb, rest⟩
  · exact .inl ⟨e1, e2⟩
  · exact .inr ⟨g, cap, cur, e1, Nat.le_trans hB hb, rest⟩
theorem OV.slice {w : World} {B : Nat} {v : Value} {l : List V2} (h : OV w B v l) : ∃ a n c, v = .slice a n c := by
  rcases h.own.2 with ⟨e, _⟩ | ⟨g, cap, cur, e, _⟩
  · exact ⟨_, _, _, e⟩
  · exact ⟨_, _, _, e⟩
theorem OV.app {w : World} {B T c : Nat} {v : Value} {l : List V2} {n : Int} {s : ByteArray} (ty : TypeId) (h : OV w B v l) (hB : B ≤ w.heap.size) (hT : w.heap[T]? = some (.cells #[.int .i64 n, .string s] 35 (0, 0))) (hs : s.size ≤ 100) (hl : l.length ≤ 100000) :
    ∃ va vn vc w', (Builtin.append_ #[54, 54] ty #[v, .slice (some ⟨T, 0, none⟩) 1 c]).run Try.prog w = .ok (.slice va vn vc) w' ∧ OV w' B (.slice va vn vc) (l ++ [(n, s)]) ∧ w.grownBy w' v.ownBlock := by
  obtain ⟨i, hi, hzz⟩ := Option.map_eq_some_iff.1 Rl.info94
  simp only [Prod.mk.injEq] at hzz
  obtain ⟨hz, hsz, hby⟩ := hzz
  obtain ⟨v', w', hrun, h1, h2, h3, h4⟩ := run_append_own_at (P := Try.prog) (w := w) B 54 ty 35 i (.agg #[.int .i64 0, .string ⟨#[]⟩]) 2 24 Try.underlying54 hi hz hsz hby rfl (by decide) v l.length (flatV l) h.own ⟨T, 0, none⟩ 1 c [.int .i64 n, .string s] rfl
    (by
      intro j u hj
      rw [add_eq]
      simp only [World.cell?, hT]
      match j with
      | 0 => simpa using hj
      | 1 => simpa using hj
      | j + 2 => simp at hj)
    (by intro u hu; simp at hu; rcases hu with rfl | rfl <;> rfl) (by unfold maxLen; omega) (by omega) hB
  have ov : OV w' B v' (l ++ [(n, s)]) := ⟨by have e : flatV (l ++ [(n, s)]) = flatV l ++ [.int .i64 n, .string s] := (by simp [flatV]); rw [e]; simpa using h1, fun x hx => by
    rcases List.mem_append.1 hx with hx | hx
    · exact h.str x hx
    · obtain rfl := List.mem_singleton.1 hx; exact hs⟩
  obtain ⟨a, m, c', rfl⟩ := ov.slice
  exact ⟨a, m, c', w', hrun, ov, h2⟩
theorem OV.row {w : World} {B : Nat} {v : Value} {l : List V2} (h : OV w B v l) (hl : l.length ≤ 100000) : ∃ r : Rm, v = r.val ∧ Rl.NewR B w r ∧ r.l = l ∧ l.length ≤ r.c := by
  have hst : ∀ i, i < l.length → (l.getD i z2).2.size ≤ maxLen := fun i hi => by
    have e : l.getD i z2 = l[i] := by simp [List.getD, hi]
    have := h.str _ (List.getElem_mem hi)
    rw [e]; unfold maxLen; omega
  rcases h.own.2 with ⟨rfl, e⟩ | ⟨g, cap, cur, rfl, hb, hh, hn, _, hz, ht⟩
  · have : l = [] := List.eq_nil_of_length_eq_zero e
    subst this
    exact ⟨⟨none, 0, 0, 0, []⟩, rfl, ⟨⟨fun h => by simp at h, fun i h => by simp at h, by simp, fun i h => by simp at h⟩, fun h => absurd rfl h⟩, rfl, Nat.le_refl _⟩
  · have wt : Rl.WtV w g (l.length * 2) (Vl.flat l) := by
      refine ⟨cur, hh, fun j hj => ?_⟩
      have e : (cur.toList.take (l.length * 2))[j]? = (flatV l)[j]? := by rw [ht]
      rw [List.getElem?_take, if_pos (by omega), Rl.flatV_at l j hj] at e
      rw [← Array.getElem?_toList]; exact e
    exact ⟨⟨some ⟨g, 0, none⟩, g, 0, cap, l⟩, rfl, ⟨wt.rd (by omega) hst, fun _ => ⟨rfl, hb, wt⟩⟩, rfl, hn⟩
theorem exec_oneV {o : Oper} {a : Act} {w : World} {x : Operand} {n : Int} {s : ByteArray} (ho : o.op = .buildSlice 54 1 #[(0, x)]) (hx : a.eval x = .agg #[.int .i64 n, .string s]) : (execOp a.eval o).run Try.prog w = .ok (.value (.slice (some ⟨w.heap.size, 0, none⟩) 1 1)) (w.alloc (.cells #[.int .i64 n, .string s] 35)) := by
  unfold execOp
  simp only [ho, List.map_toArray, List.map_cons, List.map_nil, hx]
  kernel_rfl
theorem ov_ne {w : World} {B : Nat} {v : Value} {l : List V2} {T : Nat} {cs : Array Value} (h : OV w B v l) (k : w.heap[T]? = some (.cells cs 56 (0, 0))) : v.ownBlock ≠ some T := by
  intro e
  rcases h.own.2 with ⟨rfl, _⟩ | ⟨g, cap, cur, rfl, hb, hg, _⟩
  · simp [Value.ownBlock] at e
  · simp [Value.ownBlock] at e
    subst e
    rw [hg] at k
    simp at k
theorem one_set {w : World} {g : Nat} {u x : Value} {t : TypeId} (h : w.heap[g]? = some (.cells #[u] t (0, 0))) : (w.setCell ⟨g, 0, none⟩ x).heap[g]? = some (.cells #[x] t (0, 0)) := by
  simp [World.setCell, Array.getElem?_modify, h]
theorem cur_grown {w1 w2 : World} {B g b off cap : Nat} {a : Option Addr} {c : List Int} {row : Option Nat} (hC : Cur w1 g a b off cap c) (hg : w1.grownBy w2 row) (hr : ∀ k, row = some k → B ≤ k) (h1 : g < B) (h2 : c.length = 0 ∨ b < B) (h3 : B ≤ w1.heap.size) : Cur w2 g a b off cap c :=
  cur_keep (B := B) hC (fun q hq => hg.block q (by omega) (fun e => by have := hr q e.symm; omega)) h1 h2
theorem only_grown {g B : Nat} {w w1 w2 : World} {row : Option Nat} (h : Only g w w1) (hg : w1.grownBy w2 row) (hr : ∀ k, row = some k → B ≤ k) (hB : w.heap.size ≤ B) : Only g w w2 :=
  ⟨hg.os.trans h.os, hg.tape.trans h.tape, hg.output.trans h.output, Nat.le_trans h.size hg.size, fun q hq hne => (hg.block q (Nat.lt_of_lt_of_le hq h.size) (fun e => by have := hr q e.symm; omega)).trans (h.block q hq hne)⟩
/-- A row is drawn. -/
def ResV (w : World) (m : Nat) (g : Nat) (a : Option Addr) (b off cap : Nat) (c : List Int) (e : Ending) (w' : World) : Prop :=
  ∃ va vn vc l, e = .returned (.agg #[.slice va vn vc]) ∧ OV w' w.heap.size (.slice va vn vc) l ∧ l.length ≤ m ∧ Cur w' g a b off cap c ∧ Only g w w'

set_option maxHeartbeats 8000000 in
theorem drow_any (n0 : Int) (h0 : 0 ≤ n0) (hn : n0 ≤ 1000) (g : Nat) (a : Option Addr) (b off cap : Nat) (c : List Int) (w : World) (h : Cur w g a b off cap c) :
    Calls Try.prog 101 #[.pointer (some ⟨g, 0, none⟩), .int .i64 n0] w (ResV w 1000 g a b off cap c) := by
  obtain ⟨hg, hbl⟩ := cur_in h
  obtain ⟨W1, hW1⟩ : ∃ W1, W1 = (w.alloc (.cells #[.slice none 0 0] 56)).alloc (.cells #[.slice none 0 0] 56) := ⟨_, rfl⟩
  have kR : W1.heap[w.heap.size]? = some (.cells #[.slice none 0 0] 56 (0, 0)) := by subst hW1; rw [at_old (by simp), at_new rfl]
  have kO : W1.heap[w.heap.size + 1]? = some (.cells #[.slice none 0 0] 56 (0, 0)) := by subst hW1; exact at_new (by simp)
  have hC : Cur W1 g a b off cap c := by subst hW1; exact cur_alloc (cur_alloc h _) _
  have hO : Only g w W1 := by subst hW1; exact only_alloc (only_alloc (Only.refl _ _) _) _
  obtain ⟨N, rfl⟩ := Int.eq_ofNat_of_zero_le h0
  obtain ⟨B, hB⟩ : ∃ B, B = w.heap.size + 1 + 1 := ⟨_, rfl⟩
  have zB : B ≤ W1.heap.size := by have := blk_lt kO; omega
  have hgB : g < B := by omega
  have hbB : c.length = 0 ∨ b < B := hbl.imp id fun q => by omega
  have hbW := hbl
  have hBw : w.heap.size + 1 < B ∧ w.heap.size ≤ B := by omega
  have HB : Hid (B = w.heap.size + 1 + 1) := hB
  clear h hbl hB
  go_enter Try.func101, Try.ntmps101
  go_wp2
  rw [← hW1]
  clear hW1
  go_loopw [6] (fun u wr => ∃ (i : Nat) (v : Value) (l : List V2), i ≤ N ∧ u = .int .i64 i ∧ Only g w wr ∧ Cur wr g a b off cap c ∧ wr.heap[w.heap.size]? = some (.cells #[.slice none 0 0] 56 (0, 0)) ∧ wr.heap[w.heap.size + 1]? = some (.cells #[v] 56 (0, 0)) ∧ OV wr B v l ∧ B ≤ wr.heap.size ∧ l.length ≤ i) (fun u _ => N - (intOf u).toNat)
  case atStart => exact ⟨0, .slice none 0 0, [], Nat.zero_le _, rfl, hO, hC, kR, kO, OV.nil _ _, zB, by simp⟩
  case round =>
    clear hO hC kR kO zB
    obtain ⟨i, v, l, hi, rfl, hO, hC, kR, kO, ov, hBs, hl⟩ := hrel
    have hll : l.length ≤ 100000 := by omega
    by_cases hlt : i < N
    · have hnz : (i : Int) < (N : Int) := by omega
      go_wp2
      refine wp_region_held_drew (S := fun _ => True) (by kernel_rfl) trivial (fun hHeld => ?_)
      refine Hn.take (i := 0) (d := some 13) (v := .pointer (some ⟨w.heap.size + 1, 0, none⟩)) rfl (by kernel_rfl) (by kernel_rfl) (by kernel_rfl) (by kernel_rfl) (fun _ _ _ h => h) (Or.inl ⟨by rfl, by intro w hSw; go_simp⟩) hHeld ?_
      simp only [Act.put, List.setIfInBounds_toArray, List.set_cons_zero, List.set_cons_succ]
      refine Hn.take (i := 2) (d := some 15) (v := .pointer (some ⟨g, 0, none⟩)) rfl (by kernel_rfl) (by kernel_rfl) (by kernel_rfl) (by kernel_rfl) (fun _ _ _ h => h) (Or.inl ⟨by rfl, by intro w hSw; go_simp⟩) hHeld ?_
      simp only [Act.put, List.setIfInBounds_toArray, List.set_cons_zero, List.set_cons_succ]
      have ov0 : OV wr.drew B v l := ov.below ((Below.refl _ _).drew)
      have kO0 : wr.drew.heap[w.heap.size + 1]? = some (.cells #[v] 56 (0, 0)) := kO
      have kR0 : wr.drew.heap[w.heap.size]? = some (.cells #[.slice none 0 0] 56 (0, 0)) := kR
      have hC0 : Cur wr.drew g a b off cap c := ⟨hC.blk, hC.rd.below ((Below.refl _ _).drew), hC.ne⟩
      have hO0 : Only g w wr.drew := only_trans hO ⟨rfl, rfl, rfl, Nat.le_refl _, fun _ _ _ => rfl⟩
      have sW : wr.drew.heap.size = wr.heap.size := rfl
      generalize wr.drew = W at *
      refine wpAnyH_ready (rs := [1, 3]) (by kernel_rfl) (by simp) (Hn.readyRun (i := 1) rfl (by kernel_rfl) (some 14) (by kernel_rfl) (v := v) (w' := W) (by have o0 := one kO0; go_simp) trivial (fun hHeld => ?_) (Hn.call1 (i := 3) rfl (by rfl) 113 (.tmp 15) 70 (by kernel_rfl) 16 (by kernel_rfl) (.pointer (some ⟨g, 0, none⟩)) (by kernel_rfl) (fun _ => rfl) (value_any g a b off cap c W hC0) ?_ AllReadyH.nil))
      · simp only [Act.put, List.setIfInBounds_toArray, List.set_cons_zero, List.set_cons_succ]
        refine wpAnyH_ready (rs := [3]) (by kernel_rfl) (by simp) (Hn.call1 (i := 3) rfl (by rfl) 113 (.tmp 15) 70 (by kernel_rfl) 16 (by kernel_rfl) (.pointer (some ⟨g, 0, none⟩)) (by kernel_rfl) (fun _ => rfl) (value_any g a b off cap c W hC0) ?_ AllReadyH.nil)
        rintro e1 Wc ⟨n, s, rfl, hz, hC1, hO1⟩
        replace kO0 := only_at hO1 kO0 (by omega)
        replace ov0 := ov0.only hO1 (by omega)
        replace kR0 := only_at hO1 kR0 (by omega)
        replace hO0 := only_trans hO0 hO1
        have sC := hO1.size
        replace hC0 := hC1
        clear hC1 hO1
        refine ⟨_, rfl, trivial, fun hHeld => ?_⟩
        simp only [Act.put, List.setIfInBounds_toArray, List.set_cons_zero, List.set_cons_succ]
        refine wpAnyH_ready (rs := [4]) (by kernel_rfl) (by simp) (Hn.readyRun (i := 4) rfl (by kernel_rfl) (some 17) (by kernel_rfl) (v := .slice (some ⟨Wc.heap.size, 0, none⟩) 1 1) (w' := Wc.alloc (.cells #[.int .i64 n, .string s] 35)) (exec_oneV rfl (by kernel_rfl)) trivial (fun hHeld => ?_) AllReadyH.nil)
        simp only [Act.put, List.setIfInBounds_toArray, List.set_cons_zero, List.set_cons_succ]
        obtain ⟨Wd, hWd⟩ : ∃ Wd, Wd = Wc.alloc (.cells #[.int .i64 n, .string s] 35) := ⟨_, rfl⟩
        rw [← hWd]
        have hT : Wd.heap[Wc.heap.size]? = some (.cells #[.int .i64 n, .string s] 35 (0, 0)) := by subst hWd; exact at_new rfl
        have hb : Below Wc.heap.size Wc Wd := by subst hWd; exact below_alloc1 _ _
        replace kO0 := (hb.block _ (blk_lt kO0)).trans kO0
        replace ov0 := ov0.below hb
        replace kR0 := (hb.block _ (blk_lt kR0)).trans kR0
        replace hC0 : Cur Wd g a b off cap c := by subst hWd; exact cur_alloc hC0 _
        replace hO0 : Only g w Wd := by subst hWd; exact only_alloc hO0 _
        have sD := hb.size
        clear hb hWd
        obtain ⟨va, vn, vc, Z, hrun, ovZ, hgr⟩ := ov0.app 32 (c := 1) (by omega) hT hz hll
        refine wpAnyH_ready (rs := [5]) (by kernel_rfl) (by simp) (Hn.readyRun (i := 5) rfl (by kernel_rfl) (some 18) (by kernel_rfl) (Hn.exec_app (.tmp 14) (.tmp 17) rfl (by kernel_rfl) (by kernel_rfl) hrun) trivial (fun hHeld => ?_) AllReadyH.nil)
        simp only [Act.put, List.setIfInBounds_toArray, List.set_cons_zero, List.set_cons_succ]
        have kOZ := (hgr.block _ (blk_lt kO0) (fun e => ov_ne ov0 kO0 e.symm)).trans kO0
        have kRZ := (hgr.block _ (blk_lt kR0) (fun e => ov_ne ov0 kR0 e.symm)).trans kR0
        replace hC0 := cur_grown (B := B) hC0 hgr (fun k hk => (ov0.lt hk).1) hgB hbB (by omega)
        replace hO0 := only_grown (B := B) hO0 hgr (fun k hk => (ov0.lt hk).1) (by omega)
        have sZ := hgr.size
        have o0 := one kOZ
        have fO := Vl.free kOZ
        refine Hn.take (i := 6) (d := some 19) (v := .pointer (some ⟨w.heap.size + 1, 0, none⟩)) rfl (by kernel_rfl) (by kernel_rfl) (by kernel_rfl) (by kernel_rfl) (fun _ _ _ h => h) (Or.inl ⟨by rfl, by intro w hSw; go_simp⟩) hHeld ?_
        simp only [Act.put, List.setIfInBounds_toArray, List.set_cons_zero, List.set_cons_succ]
        refine wpAnyH_ready (rs := [7]) (by kernel_rfl) (by simp) (Hn.readySkip (i := 7) rfl (by kernel_rfl) none (by kernel_rfl) (w' := Z.setCell ⟨w.heap.size + 1, 0, none⟩ (.slice va vn vc)) (by go_simp) trivial (fun hHeld => ?_) AllReadyH.nil)
        simp only [Act.put, List.setIfInBounds_toArray, List.set_cons_zero, List.set_cons_succ]
        refine wpAnyH_done (by kernel_rfl) ?_ _
        have kO' : (Z.setCell ⟨w.heap.size + 1, 0, none⟩ (.slice va vn vc)).heap[w.heap.size + 1]? = some (.cells #[.slice va vn vc] 56 (0, 0)) := one_set kOZ
        have ov' : OV (Z.setCell ⟨w.heap.size + 1, 0, none⟩ (.slice va vn vc)) B (.slice va vn vc) (l ++ [(n, s)]) := ovZ.keep fun x hx hx2 => Below.heap_setCell _ _ _ _ (fun e => ov_ne ovZ kOZ (by rw [hx2, e]))
        have hC' := cur_set (x := ⟨w.heap.size + 1, 0, none⟩) (u := .slice va vn vc) hC0 (by simp only; omega) (hbW.imp id fun q => by simp only; omega)
        have hO' := only_set (x := ⟨w.heap.size + 1, 0, none⟩) (u := .slice va vn vc) hO0 (by simp only; omega)
        go_wp2
        go_roundw
        case rel => exact ⟨i + 1, _, l ++ [(n, s)], by omega, by go_num, hO', hC', (Below.heap_setCell _ _ _ _ (by simp only; omega)).trans kRZ, kO', ov', by simpa using (by omega : B ≤ Z.heap.size), by simp only [List.length_append, List.length_singleton]; omega⟩
        case measure => simp [intOf]; omega
      · rintro e1 Wc ⟨n, s, rfl, hz, hC1, hO1⟩
        replace kO0 := only_at hO1 kO0 (by omega)
        replace ov0 := ov0.only hO1 (by omega)
        replace kR0 := only_at hO1 kR0 (by omega)
        replace hO0 := only_trans hO0 hO1
        have sC := hO1.size
        replace hC0 := hC1
        clear hC1 hO1
        refine ⟨_, rfl, trivial, fun hHeld => ?_⟩
        simp only [Act.put, List.setIfInBounds_toArray, List.set_cons_zero, List.set_cons_succ]
        refine wpAnyH_ready (rs := [1, 4]) (by kernel_rfl) (by simp) (Hn.readyRun (i := 1) rfl (by kernel_rfl) (some 14) (by kernel_rfl) (v := v) (w' := Wc) (by have o0 := one kO0; go_simp) trivial (fun hHeld => ?_) (Hn.readyRun (i := 4) rfl (by kernel_rfl) (some 17) (by kernel_rfl) (v := .slice (some ⟨Wc.heap.size, 0, none⟩) 1 1) (w' := Wc.alloc (.cells #[.int .i64 n, .string s] 35)) (exec_oneV rfl (by kernel_rfl)) trivial (fun hHeld => ?_) AllReadyH.nil))
        · simp only [Act.put, List.setIfInBounds_toArray, List.set_cons_zero, List.set_cons_succ]
          refine wpAnyH_ready (rs := [4]) (by kernel_rfl) (by simp) (Hn.readyRun (i := 4) rfl (by kernel_rfl) (some 17) (by kernel_rfl) (v := .slice (some ⟨Wc.heap.size, 0, none⟩) 1 1) (w' := Wc.alloc (.cells #[.int .i64 n, .string s] 35)) (exec_oneV rfl (by kernel_rfl)) trivial (fun hHeld => ?_) AllReadyH.nil)
          simp only [Act.put, List.setIfInBounds_toArray, List.set_cons_zero, List.set_cons_succ]
          obtain ⟨Wd, hWd⟩ : ∃ Wd, Wd = Wc.alloc (.cells #[.int .i64 n, .string s] 35) := ⟨_, rfl⟩
          rw [← hWd]
          have hT : Wd.heap[Wc.heap.size]? = some (.cells #[.int .i64 n, .string s] 35 (0, 0)) := by subst hWd; exact at_new rfl
          have hb : Below Wc.heap.size Wc Wd := by subst hWd; exact below_alloc1 _ _
          replace kO0 := (hb.block _ (blk_lt kO0)).trans kO0
          replace ov0 := ov0.below hb
          replace kR0 := (hb.block _ (blk_lt kR0)).trans kR0
          replace hC0 : Cur Wd g a b off cap c := by subst hWd; exact cur_alloc hC0 _
          replace hO0 : Only g w Wd := by subst hWd; exact only_alloc hO0 _
          have sD := hb.size
          clear hb hWd
          obtain ⟨va, vn, vc, Z, hrun, ovZ, hgr⟩ := ov0.app 32 (c := 1) (by omega) hT hz hll
          refine wpAnyH_ready (rs := [5]) (by kernel_rfl) (by simp) (Hn.readyRun (i := 5) rfl (by kernel_rfl) (some 18) (by kernel_rfl) (Hn.exec_app (.tmp 14) (.tmp 17) rfl (by kernel_rfl) (by kernel_rfl) hrun) trivial (fun hHeld => ?_) AllReadyH.nil)
          simp only [Act.put, List.setIfInBounds_toArray, List.set_cons_zero, List.set_cons_succ]
          have kOZ := (hgr.block _ (blk_lt kO0) (fun e => ov_ne ov0 kO0 e.symm)).trans kO0
          have kRZ := (hgr.block _ (blk_lt kR0) (fun e => ov_ne ov0 kR0 e.symm)).trans kR0
          replace hC0 := cur_grown (B := B) hC0 hgr (fun k hk => (ov0.lt hk).1) hgB hbB (by omega)
          replace hO0 := only_grown (B := B) hO0 hgr (fun k hk => (ov0.lt hk).1) (by omega)
          have sZ := hgr.size
          have o0 := one kOZ
          have fO := Vl.free kOZ
          refine Hn.take (i := 6) (d := some 19) (v := .pointer (some ⟨w.heap.size + 1, 0, none⟩)) rfl (by kernel_rfl) (by kernel_rfl) (by kernel_rfl) (by kernel_rfl) (fun _ _ _ h => h) (Or.inl ⟨by rfl, by intro w hSw; go_simp⟩) hHeld ?_
          simp only [Act.put, List.setIfInBounds_toArray, List.set_cons_zero, List.set_cons_succ]
          refine wpAnyH_ready (rs := [7]) (by kernel_rfl) (by simp) (Hn.readySkip (i := 7) rfl (by kernel_rfl) none (by kernel_rfl) (w' := Z.setCell ⟨w.heap.size + 1, 0, none⟩ (.slice va vn vc)) (by go_simp) trivial (fun hHeld => ?_) AllReadyH.nil)
          simp only [Act.put, List.setIfInBounds_toArray, List.set_cons_zero, List.set_cons_succ]
          refine wpAnyH_done (by kernel_rfl) ?_ _
          have kO' : (Z.setCell ⟨w.heap.size + 1, 0, none⟩ (.slice va vn vc)).heap[w.heap.size + 1]? = some (.cells #[.slice va vn vc] 56 (0, 0)) := one_set kOZ
          have ov' : OV (Z.setCell ⟨w.heap.size + 1, 0, none⟩ (.slice va vn vc)) B (.slice va vn vc) (l ++ [(n, s)]) := ovZ.keep fun x hx hx2 => Below.heap_setCell _ _ _ _ (fun e => ov_ne ovZ kOZ (by rw [hx2, e]))
          have hC' := cur_set (x := ⟨w.heap.size + 1, 0, none⟩) (u := .slice va vn vc) hC0 (by simp only; omega) (hbW.imp id fun q => by simp only; omega)
          have hO' := only_set (x := ⟨w.heap.size + 1, 0, none⟩) (u := .slice va vn vc) hO0 (by simp only; omega)
          go_wp2
          go_roundw
          case rel => exact ⟨i + 1, _, l ++ [(n, s)], by omega, by go_num, hO', hC', (Below.heap_setCell _ _ _ _ (by simp only; omega)).trans kRZ, kO', ov', by simpa using (by omega : B ≤ Z.heap.size), by simp only [List.length_append, List.length_singleton]; omega⟩
          case measure => simp [intOf]; omega
        · simp only [Act.put, List.setIfInBounds_toArray, List.set_cons_zero, List.set_cons_succ]
          obtain ⟨Wd, hWd⟩ : ∃ Wd, Wd = Wc.alloc (.cells #[.int .i64 n, .string s] 35) := ⟨_, rfl⟩
          rw [← hWd]
          have hT : Wd.heap[Wc.heap.size]? = some (.cells #[.int .i64 n, .string s] 35 (0, 0)) := by subst hWd; exact at_new rfl
          have hb : Below Wc.heap.size Wc Wd := by subst hWd; exact below_alloc1 _ _
          replace kO0 := (hb.block _ (blk_lt kO0)).trans kO0
          replace ov0 := ov0.below hb
          replace kR0 := (hb.block _ (blk_lt kR0)).trans kR0
          replace hC0 : Cur Wd g a b off cap c := by subst hWd; exact cur_alloc hC0 _
          replace hO0 : Only g w Wd := by subst hWd; exact only_alloc hO0 _
          have sD := hb.size
          clear hb hWd
          refine wpAnyH_ready (rs := [1]) (by kernel_rfl) (by simp) (Hn.readyRun (i := 1) rfl (by kernel_rfl) (some 14) (by kernel_rfl) (v := v) (w' := Wd) (by have o0 := one kO0; go_simp) trivial (fun hHeld => ?_) AllReadyH.nil)
          simp only [Act.put, List.setIfInBounds_toArray, List.set_cons_zero, List.set_cons_succ]
          obtain ⟨va, vn, vc, Z, hrun, ovZ, hgr⟩ := ov0.app 32 (c := 1) (by omega) hT hz hll
          refine wpAnyH_ready (rs := [5]) (by kernel_rfl) (by simp) (Hn.readyRun (i := 5) rfl (by kernel_rfl) (some 18) (by kernel_rfl) (Hn.exec_app (.tmp 14) (.tmp 17) rfl (by kernel_rfl) (by kernel_rfl) hrun) trivial (fun hHeld => ?_) AllReadyH.nil)
          simp only [Act.put, List.setIfInBounds_toArray, List.set_cons_zero, List.set_cons_succ]
          have kOZ := (hgr.block _ (blk_lt kO0) (fun e => ov_ne ov0 kO0 e.symm)).trans kO0
          have kRZ := (hgr.block _ (blk_lt kR0) (fun e => ov_ne ov0 kR0 e.symm)).trans kR0
          replace hC0 := cur_grown (B := B) hC0 hgr (fun k hk => (ov0.lt hk).1) hgB hbB (by omega)
          replace hO0 := only_grown (B := B) hO0 hgr (fun k hk => (ov0.lt hk).1) (by omega)
          have sZ := hgr.size
          have o0 := one kOZ
          have fO := Vl.free kOZ
          refine Hn.take (i := 6) (d := some 19) (v := .pointer (some ⟨w.heap.size + 1, 0, none⟩)) rfl (by kernel_rfl) (by kernel_rfl) (by kernel_rfl) (by kernel_rfl) (fun _ _ _ h => h) (Or.inl ⟨by rfl, by intro w hSw; go_simp⟩) hHeld ?_
          simp only [Act.put, List.setIfInBounds_toArray, List.set_cons_zero, List.set_cons_succ]
          refine wpAnyH_ready (rs := [7]) (by kernel_rfl) (by simp) (Hn.readySkip (i := 7) rfl (by kernel_rfl) none (by kernel_rfl) (w' := Z.setCell ⟨w.heap.size + 1, 0, none⟩ (.slice va vn vc)) (by go_simp) trivial (fun hHeld => ?_) AllReadyH.nil)
          simp only [Act.put, List.setIfInBounds_toArray, List.set_cons_zero, List.set_cons_succ]
          refine wpAnyH_done (by kernel_rfl) ?_ _
          have kO' : (Z.setCell ⟨w.heap.size + 1, 0, none⟩ (.slice va vn vc)).heap[w.heap.size + 1]? = some (.cells #[.slice va vn vc] 56 (0, 0)) := one_set kOZ
          have ov' : OV (Z.setCell ⟨w.heap.size + 1, 0, none⟩ (.slice va vn vc)) B (.slice va vn vc) (l ++ [(n, s)]) := ovZ.keep fun x hx hx2 => Below.heap_setCell _ _ _ _ (fun e => ov_ne ovZ kOZ (by rw [hx2, e]))
          have hC' := cur_set (x := ⟨w.heap.size + 1, 0, none⟩) (u := .slice va vn vc) hC0 (by simp only; omega) (hbW.imp id fun q => by simp only; omega)
          have hO' := only_set (x := ⟨w.heap.size + 1, 0, none⟩) (u := .slice va vn vc) hO0 (by simp only; omega)
          go_wp2
          go_roundw
          case rel => exact ⟨i + 1, _, l ++ [(n, s)], by omega, by go_num, hO', hC', (Below.heap_setCell _ _ _ _ (by simp only; omega)).trans kRZ, kO', ov', by simpa using (by omega : B ≤ Z.heap.size), by simp only [List.length_append, List.length_singleton]; omega⟩
          case measure => simp [intOf]; omega
    · have he : i = N := by omega
      subst he
      obtain ⟨va, vn, vc, hv⟩ := ov.slice
      subst hv
      have o0 := one kO
      have r0 := one kR
      have fR := Vl.free kR
      go_wp2
      refine bodyPost_ret (v := .agg #[.slice va vn vc]) (by simp [results, Try.results101, go_sem, r0]) rfl ⟨va, vn, vc, l, rfl, ?_, by omega, ?_, ?_⟩
      · refine OV.mono (B := B) ?_ (by omega)
        exact ov.keep fun x hx hx2 => Below.heap_setCell _ _ _ _ (by have := (ov.lt hx2).1; simp only; omega)
      · exact cur_set hC (by simp only; omega) (hbW.imp id fun q => by simp only; omega)
      · exact only_set hO (Nat.le_refl _)

end Go.Proofs.Ytfiebakgphcnbaa.Dr
