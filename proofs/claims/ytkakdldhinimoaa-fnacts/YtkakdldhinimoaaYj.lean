/-
  The program's send: one more is sent, its head copied; never back.
-/
import Derived.Test.YtkakdldhinimoaaYh
namespace Go.Proofs.Ytkakdldhinimoaa.Yj
set_option maxRecDepth 8000
set_option linter.unusedSimpArgs false
open Go Go.RowKit
open Num Pl Hr Hh Pq Ht Yh

theorem four0 {w : World} {g : Nat} {v0 v1 v2 v3 : Value} {t : TypeId} {fr : Nat × Nat} (k : w.heap[g]? = some (.cells #[v0, v1, v2, v3] t fr)) : w.cell? ⟨g, 0, none⟩ = some v0 := by simp [World.cell?, k]
theorem four1 {w : World} {g : Nat} {v0 v1 v2 v3 : Value} {t : TypeId} {fr : Nat × Nat} (k : w.heap[g]? = some (.cells #[v0, v1, v2, v3] t fr)) : w.cell? ⟨g, 1, none⟩ = some v1 := by simp [World.cell?, k]
theorem four2 {w : World} {g : Nat} {v0 v1 v2 v3 : Value} {t : TypeId} {fr : Nat × Nat} (k : w.heap[g]? = some (.cells #[v0, v1, v2, v3] t fr)) : w.cell? ⟨g, 2, none⟩ = some v2 := by simp [World.cell?, k]
theorem four3 {w : World} {g : Nat} {v0 v1 v2 v3 : Value} {t : TypeId} {fr : Nat × Nat} (k : w.heap[g]? = some (.cells #[v0, v1, v2, v3] t fr)) : w.cell? ⟨g, 3, none⟩ = some v3 := by simp [World.cell?, k]

theorem blk_ne {w : World} {B n P : Nat} {v : Value} {xs : List Value} {cs : Array Value} (h : w.ownsRow B 56 2 v n xs) (hP : w.heap[P]? = some (.cells cs 86 (0, 0))) : some P ≠ v.ownBlock := by
  rcases h.2 with ⟨rfl, _⟩ | ⟨k, cap, cur, rfl, _, hk, _⟩
  · simp [Value.ownBlock]
  · intro e
    simp only [Value.ownBlock, Option.some.injEq] at e
    subst e
    rw [hk] at hP
    injection hP with hP
    injection hP with _ hP _
    exact absurd hP (by decide)
theorem exec_app {o : Oper} {a : Act} {w w' : World} {v v' u : Value} (s x : Operand) (ho : o.op = .call { callee := .builtin .append, args := #[s, x], argTypes := #[39, 39] }) (hs : a.eval s = v) (hx : a.eval x = u)
    (hr : (Builtin.append_ #[39, 39] o.type #[v, u]).run Try.prog w = .ok v' w') : (execOp a.eval o).run Try.prog w = .ok (.value v') w' := by
  unfold execOp
  simp only [ho, resolve, invoke, builtin, Sem.run_bind, Sem.run_pure, Result.andThen_ok, List.map_toArray, List.map_cons, List.map_nil, hs, hx, hr]
theorem block_set3 {w : World} {g : Nat} {v0 v1 v2 v3 u : Value} {t : TypeId} (k : w.heap[g]? = some (.cells #[v0, v1, v2, v3] t (0, 0))) : (w.setCell ⟨g, 3, none⟩ u).heap[g]? = some (.cells #[v0, v1, v2, u] t (0, 0)) := by
  simp [World.setCell, Array.getElem?_modify, k]
theorem block_set2 {w : World} {g : Nat} {v0 v1 v2 v3 u : Value} {t : TypeId} (k : w.heap[g]? = some (.cells #[v0, v1, v2, v3] t (0, 0))) : (w.setCell ⟨g, 2, none⟩ u).heap[g]? = some (.cells #[v0, v1, u, v3] t (0, 0)) := by
  simp [World.setCell, Array.getElem?_modify, k]

/-- A row of integers that lies below B, or is the call's own. -/
def Safe (w : World) (B b : Nat) (l : List Int) : Prop := l.length = 0 ∨ b < B ∨ ∃ l', Own w b l'
theorem Safe.block {w w' : World} {B b : Nat} {l : List Int} (hS : Safe w B b l) (h0 : l.length ≠ 0) (hb : Below B w w') (hk : ∀ (k : Nat) (cur : Array Value), w.heap[k]? = some (Obj.cells cur 3 (0, 0)) → w'.heap[k]? = w.heap[k]?) : w'.heap[b]? = w.heap[b]? := by
  rcases hS with h | h | ⟨l', ⟨⟨c, hc, _⟩, _⟩⟩
  · exact absurd h h0
  · exact hb.block b h
  · exact hk b c hc
theorem rd_keep {w w' : World} {B b off : Nat} {a : Option Addr} {l : List Int} (h : Rd w a b off l) (hS : Safe w B b l) (hb : Below B w w') (hk : ∀ (k : Nat) (cur : Array Value), w.heap[k]? = some (Obj.cells cur 3 (0, 0)) → w'.heap[k]? = w.heap[k]?) : Rd w' a b off l := by
  refine ⟨h.head, fun i hi => ?_, h.size⟩
  have e : w'.heap[b]? = w.heap[b]? := Safe.block hS (by omega) hb hk
  exact (World.cell?_of_block (a := ⟨b, off + i, none⟩) e).trans (h.cell i hi)
theorem safe_keep {w w' : World} {B b : Nat} {l : List Int} (hS : Safe w B b l) (hk : ∀ (k : Nat) (cur : Array Value), w.heap[k]? = some (Obj.cells cur 3 (0, 0)) → w'.heap[k]? = w.heap[k]?) : Safe w' B b l := by
  rcases hS with h | h | ⟨l', ho⟩
  · exact .inl h
  · exact .inr (.inl h)
  · obtain ⟨⟨c, hc, _⟩, _⟩ := id ho
    exact .inr (.inr ⟨l', ho.of_block (hk b c hc)⟩)

/-- A switch amid its actions, in block P: where the packet came in, its ports, the head as it is now, what is sent. -/
structure St (w : World) (P B : Nat) (hin : Int) (pa : Option Addr) (pb po pc : Nat) (ports : List Int) (hb ho hc : Nat) (now : List Int) (v : Value) (Q : List E) : Prop where
  blk : w.heap[P]? = some (.cells #[.int .i64 hin, .slice pa ports.length pc, .slice (some ⟨hb, ho, none⟩) 8 hc, v] 86 (0, 0))
  prt : Rd w pa pb po ports
  pK : Safe w B pb ports
  hd : Rd w (some ⟨hb, ho, none⟩) hb ho now
  hl : now.length = 8
  hK : Safe w B hb now
  sn : Sn w B v Q
  le : B ≤ P

theorem St.below {w w' : World} {P B : Nat} {hin : Int} {pa : Option Addr} {pb po pc : Nat} {ports : List Int} {hb ho hc : Nat} {now : List Int} {v : Value} {Q : List E} (h : St w P B hin pa pb po pc ports hb ho hc now v Q) (b : Below w.heap.size w w') : St w' P B hin pa pb po pc ports hb ho hc now v Q :=
  ⟨(b.block _ (Array.getElem?_eq_some_iff.1 h.blk).1).trans h.blk, h.prt.below b, safe_keep h.pK fun k _ hk => b.block k (Array.getElem?_eq_some_iff.1 hk).1, h.hd.below b, h.hl, safe_keep h.hK fun k _ hk => b.block k (Array.getElem?_eq_some_iff.1 hk).1, h.sn.below b, h.le⟩

theorem send_in {w : World} {P B : Nat} {hin : Int} {pa : Option Addr} {pb po pc : Nat} {ports : List Int} {hb ho hc : Nat} {now : List Int} {v : Value} {Q : List E} (h : St w P B hin pa pb po pc ports hb ho hc now v Q) :
    Calls Try.prog 97 #[.pointer (some ⟨P, 0, none⟩), .int .i64 hin] w fun e w' => e = .returned (.tuple #[]) ∧ w' = w := by
  have c0 := four0 h.blk
  clear h
  go_enter Try.func97, Try.ntmps97
  go_wp2
  exact bodyPost_end (v := .tuple #[]) (by simp [results, Try.results97, go_sem]) rfl ⟨rfl, rfl⟩

theorem rd_drew {w : World} {a : Option Addr} {b off : Nat} {l : List Int} (h : Rd w a b off l) : Rd w.drew a b off l := h.below (Below.drew (Below.refl _ w))

theorem sn_slice {w : World} {B : Nat} {v : Value} {Q : List E} (h : Sn w B v Q) : ∃ a n c, v = .slice a n c := by
  rcases h.own.2 with ⟨rfl, _⟩ | ⟨k, cap, cur, rfl, _⟩
  · exact ⟨_, _, _, rfl⟩
  · exact ⟨_, _, _, rfl⟩

/-- Behind the append and the store. -/
theorem send_end {w w' : World} {P B : Nat} {hin : Int} {pa : Option Addr} {pb po pc : Nat} {ports : List Int} {hb ho hc : Nat} {now : List Int} {v v' : Value} {Q Q' : List E} (h : St w P B hin pa pb po pc ports hb ho hc now v Q) (sn : Sn w' B v' Q') (grow : w.grownBy w' v.ownBlock) (hB : B ≤ w.heap.size) :
    St (w'.setCell ⟨P, 3, none⟩ v') P B hin pa pb po pc ports hb ho hc now v' Q' ∧ Below B w (w'.setCell ⟨P, 3, none⟩ v') := by
  have kP5 := (grow.block _ (Array.getElem?_eq_some_iff.1 h.blk).1 (blk_ne h.sn.own h.blk)).trans h.blk
  have b5 : Below B w w' := grown_below h.sn.own grow hB
  have bE : Below B w (w'.setCell ⟨P, 3, none⟩ v') := b5.setCell h.le _
  have hk : ∀ (k : Nat) (cur : Array Value), w.heap[k]? = some (Obj.cells cur 3 (0, 0)) → (w'.setCell ⟨P, 3, none⟩ v').heap[k]? = w.heap[k]? := by
    intro k cur hk
    have hne : k ≠ P := by
      rintro rfl
      rw [h.blk] at hk
      injection hk with hk
      injection hk with _ hk _
      exact absurd hk (by decide)
    have hno : some k ≠ v.ownBlock := own_ne (g := k) (l := []) h.sn.own ⟨⟨cur, hk, fun i hi => by simp at hi⟩, by simp⟩
    exact (Below.heap_setCell _ _ _ _ hne).trans (grow.block k (Array.getElem?_eq_some_iff.1 hk).1 hno)
  refine ⟨⟨block_set3 kP5, rd_keep h.prt h.pK bE hk, safe_keep h.pK hk, rd_keep h.hd h.hK bE hk, h.hl, safe_keep h.hK hk, ?_, h.le⟩, bE⟩
  refine sn.keep fun k cur t hkk ht => Below.heap_setCell _ _ _ _ ?_
  rintro rfl
  rw [kP5] at hkk
  injection hkk with hkk
  injection hkk with _ hkk _
  rcases ht with rfl | rfl <;> exact absurd hkk (by decide)

set_option maxHeartbeats 4000000 in
theorem send_out {w : World} {P B : Nat} {hin p : Int} {pa : Option Addr} {pb po pc : Nat} {ports : List Int} {hb ho hc : Nat} {now : List Int} {v : Value} {Q : List E} (st : St w P B hin pa pb po pc ports hb ho hc now v Q) (hp : p ≠ hin) (hQ : Q.length ≤ 4096) :
    Calls Try.prog 97 #[.pointer (some ⟨P, 0, none⟩), .int .i64 p] w fun e w' => e = .returned (.tuple #[]) ∧ ∃ v' g c, St w' P B hin pa pb po pc ports hb ho hc now v' (Q ++ [⟨p, now, g, c⟩]) ∧ Below B w w' := by
  have zP := (Array.getElem?_eq_some_iff.1 st.blk).1
  have hBw : B ≤ w.heap.size := by have := st.le; omega
  have HLT : Hid (∀ q ∈ Q, q.g < w.heap.size) := fun q hq => st.sn.lt hq
  have BB := Below.refl w.heap.size w
  have c0 := four0 st.blk
  have c2 := four2 st.blk
  have c3 := four3 st.blk
  have hne : (p != hin) = true := by simpa using hp
  go_enter Try.func97, Try.ntmps97
  go_wp2
  refine wp_region_held_drew (S := fun w' => w'.cell? ⟨P, 2, none⟩ = some (.slice (some ⟨hb, ho, none⟩) 8 hc)) (by kernel_rfl) c2 (fun hHeld => ?_)
  refine take (i := 0) (d := some 10) (v := .pointer (some ⟨P, 0, none⟩)) rfl (by kernel_rfl) (by kernel_rfl) (by kernel_rfl) (by kernel_rfl) (fun _ _ _ h => h) (Or.inl ⟨by rfl, by intro w hSw; go_simp⟩) hHeld ?_
  simp only [Act.put, List.setIfInBounds_toArray, List.set_cons_zero, List.set_cons_succ]
  refine take (i := 1) (d := some 11) (v := .pointer (some ⟨P, 0, none⟩)) rfl (by kernel_rfl) (by kernel_rfl) (by kernel_rfl) (by kernel_rfl) (fun _ _ _ h => h) (Or.inl ⟨by rfl, by intro w hSw; go_simp⟩) hHeld ?_
  simp only [Act.put, List.setIfInBounds_toArray, List.set_cons_zero, List.set_cons_succ]
  refine take (i := 2) (d := some 12) (v := .pointer (some ⟨P, 0, none⟩)) rfl (by kernel_rfl) (by kernel_rfl) (by kernel_rfl) (by kernel_rfl) (fun _ _ _ h => h) (Or.inl ⟨by rfl, by intro w hSw; go_simp⟩) hHeld ?_
  simp only [Act.put, List.setIfInBounds_toArray, List.set_cons_zero, List.set_cons_succ]
  refine take (i := 3) (d := some 13) (v := .pointer (some ⟨P, 3, none⟩)) rfl (by kernel_rfl) (by kernel_rfl) (by kernel_rfl) (by kernel_rfl) (fun _ _ _ h => h) (Or.inl ⟨by rfl, by intro w hSw; go_simp⟩) hHeld ?_
  simp only [Act.put, List.setIfInBounds_toArray, List.set_cons_zero, List.set_cons_succ]
  refine take (i := 5) (d := some 15) (v := .int .i64 p) rfl (by kernel_rfl) (by kernel_rfl) (by kernel_rfl) (by kernel_rfl) (fun _ _ _ h => h) (Or.inl ⟨by rfl, by intro w hSw; go_simp⟩) hHeld ?_
  simp only [Act.put, List.setIfInBounds_toArray, List.set_cons_zero, List.set_cons_succ]
  refine take (i := 6) (d := some 16) (v := .pointer (some ⟨P, 0, none⟩)) rfl (by kernel_rfl) (by kernel_rfl) (by kernel_rfl) (by kernel_rfl) (fun _ _ _ h => h) (Or.inl ⟨by rfl, by intro w hSw; go_simp⟩) hHeld ?_
  simp only [Act.put, List.setIfInBounds_toArray, List.set_cons_zero, List.set_cons_succ]
  refine take (i := 7) (d := some 17) (v := .pointer (some ⟨P, 0, none⟩)) rfl (by kernel_rfl) (by kernel_rfl) (by kernel_rfl) (by kernel_rfl) (fun _ _ _ h => h) (Or.inl ⟨by rfl, by intro w hSw; go_simp⟩) hHeld ?_
  simp only [Act.put, List.setIfInBounds_toArray, List.set_cons_zero, List.set_cons_succ]
  refine take (i := 8) (d := some 18) (v := .pointer (some ⟨P, 2, none⟩)) rfl (by kernel_rfl) (by kernel_rfl) (by kernel_rfl) (by kernel_rfl) (fun _ _ _ h => h) (Or.inl ⟨by rfl, by intro w hSw; go_simp⟩) hHeld ?_
  simp only [Act.put, List.setIfInBounds_toArray, List.set_cons_zero, List.set_cons_succ]
  refine take (i := 9) (d := some 19) (v := .pointer (some ⟨P, 2, none⟩)) rfl (by kernel_rfl) (by kernel_rfl) (by kernel_rfl) (by kernel_rfl) (fun _ _ _ h => h) (Or.inl ⟨by rfl, by intro w hSw; go_simp⟩) hHeld ?_
  simp only [Act.put, List.setIfInBounds_toArray, List.set_cons_zero, List.set_cons_succ]
  refine take (i := 10) (d := some 20) (v := .slice (some ⟨hb, ho, none⟩) 8 hc) rfl (by kernel_rfl) (by kernel_rfl) (by kernel_rfl) (by kernel_rfl) (fun _ _ _ h => h) (Or.inl ⟨by rfl, by intro w hSw; go_simp⟩) hHeld ?_
  simp only [Act.put, List.setIfInBounds_toArray, List.set_cons_zero, List.set_cons_succ]
  refine wpAnyH_ready (rs := [4, 11]) (by kernel_rfl) (by simp) (readyRun (i := 4) rfl (by kernel_rfl) (some 14) (by kernel_rfl) (v := v) (w' := w.drew) (by go_simp) c2 (fun hHeld => ?_) (Rg.call1 (i := 11) rfl (by kernel_rfl) 113 (.tmp 20) 22 (by kernel_rfl) 21 (by kernel_rfl) (.slice (some ⟨hb, ho, none⟩) 8 hc) (by kernel_rfl) (fun _ => rfl) (clone_any _ _ _ 8 _ _ (rd_drew st.hd) st.hl) ?_ AllReadyH.nil))
  · simp only [Act.put, List.setIfInBounds_toArray, List.set_cons_zero, List.set_cons_succ]
    refine wpAnyH_ready (rs := [11]) (by kernel_rfl) (by simp) (Rg.call1 (i := 11) rfl (by kernel_rfl) 113 (.tmp 20) 22 (by kernel_rfl) 21 (by kernel_rfl) (.slice (some ⟨hb, ho, none⟩) 8 hc) (by kernel_rfl) (fun _ => rfl) (clone_any _ _ _ 8 _ _ (rd_drew st.hd) st.hl) ?_ AllReadyH.nil)
    rintro e w3 ⟨g, c, rfl, hown, hgl, hb3⟩
    replace hb3 := Rw.next (Below.drew (Below.refl _ w)) hb3
    have hgl' : w.heap.size ≤ g := hgl
    clear hgl
    replace st := st.below hb3
    have s3 := hb3.size
    replace BB := Rw.next BB hb3
    clear hb3 c2 c3
    have c2 := four2 st.blk
    have c3 := four3 st.blk
    refine ⟨_, rfl, c2, fun hHeld => ?_⟩
    simp only [Act.put, List.setIfInBounds_toArray, List.set_cons_zero, List.set_cons_succ]
    refine take (i := 12) (d := some 22) (v := .agg #[.slice (some ⟨g, 0, none⟩) 8 c]) rfl (by kernel_rfl) (by kernel_rfl) (by kernel_rfl) (by kernel_rfl) (fun _ _ _ h => h) (Or.inl ⟨by rfl, by intro w hSw; go_simp⟩) hHeld ?_
    simp only [Act.put, List.setIfInBounds_toArray, List.set_cons_zero, List.set_cons_succ]
    refine take (i := 13) (d := some 23) (v := .agg #[.int .i64 p, .slice (some ⟨g, 0, none⟩) 8 c]) rfl (by kernel_rfl) (by kernel_rfl) (by kernel_rfl) (by kernel_rfl) (fun _ _ _ h => h) (Or.inl ⟨by rfl, by intro w hSw; go_simp⟩) hHeld ?_
    simp only [Act.put, List.setIfInBounds_toArray, List.set_cons_zero, List.set_cons_succ]
    refine wpAnyH_ready (rs := [14]) (by kernel_rfl) (by simp) (readyRun (i := 14) rfl (by kernel_rfl) (some 24) (by kernel_rfl) (v := .slice (some ⟨w3.heap.size, 0, none⟩) 1 1) (w' := w3.alloc (.cells #[.int .i64 p, .slice (some ⟨g, 0, none⟩) 8 c] 56)) (by go_simp) (World.cell?_alloc_some _ _ _ (by rw [c2]; rfl) ▸ c2) (fun hHeld => ?_) AllReadyH.nil)
    obtain ⟨w4, hw4⟩ : ∃ w4, w4 = w3.alloc (.cells #[.int .i64 p, .slice (some ⟨g, 0, none⟩) 8 c] 56) := ⟨_, rfl⟩
    rw [← hw4] at hHeld ⊢
    have hb4 : Below w3.heap.size w3 w4 := by subst hw4; exact below_alloc1 _ _
    have kT : w4.heap[w3.heap.size]? = some (.cells #[.int .i64 p, .slice (some ⟨g, 0, none⟩) 8 c] 56 (0, 0)) := by subst hw4; exact at_new rfl
    clear hw4
    replace st := st.below hb4
    have s4 := hb4.size
    replace hown := hown.below hb4
    replace BB := Rw.next BB hb4
    clear hb4 c2 c3
    have c2 := four2 st.blk
    have c3 := four3 st.blk
    simp only [Act.put, List.setIfInBounds_toArray, List.set_cons_zero, List.set_cons_succ]
    obtain ⟨v2, w5, happ, ⟨sn5, grow⟩⟩ := app_run (c := 1) (e := ⟨p, now, g, c⟩) 39 st.sn (by simpa [st.hl] using kT) hown (by simp only; omega) st.hl (fun q hq => by have := HLT.out q hq; simp only; omega) hQ (by omega)
    obtain ⟨xa, xn, xc, rfl⟩ := sn_slice sn5
    have kP5 := (grow.block _ (Array.getElem?_eq_some_iff.1 st.blk).1 (blk_ne st.sn.own st.blk)).trans st.blk
    have d2 := four2 kP5
    have d3 := four3 kP5
    have f3 := Bl.free kP5
    refine wpAnyH_ready (rs := [15]) (by kernel_rfl) (by simp) (readyRun (i := 15) rfl (by kernel_rfl) (some 25) (by kernel_rfl) (v := .slice xa xn xc) (w' := w5) (exec_app (.tmp 14) (.tmp 24) rfl (by kernel_rfl) (by kernel_rfl) happ) d2 (fun hHeld => ?_) AllReadyH.nil)
    simp only [Act.put, List.setIfInBounds_toArray, List.set_cons_zero, List.set_cons_succ]
    refine take (i := 16) (d := some 26) (v := .pointer (some ⟨P, 0, none⟩)) rfl (by kernel_rfl) (by kernel_rfl) (by kernel_rfl) (by kernel_rfl) (fun _ _ _ h => h) (Or.inl ⟨by rfl, by intro w hSw; go_simp⟩) hHeld ?_
    simp only [Act.put, List.setIfInBounds_toArray, List.set_cons_zero, List.set_cons_succ]
    refine take (i := 17) (d := some 27) (v := .pointer (some ⟨P, 3, none⟩)) rfl (by kernel_rfl) (by kernel_rfl) (by kernel_rfl) (by kernel_rfl) (fun _ _ _ h => h) (Or.inl ⟨by rfl, by intro w hSw; go_simp⟩) hHeld ?_
    simp only [Act.put, List.setIfInBounds_toArray, List.set_cons_zero, List.set_cons_succ]
    have f30 := f3 3
    refine wpAnyH_ready (rs := [18]) (by kernel_rfl) (by simp) (readySkip (i := 18) rfl (by kernel_rfl) none (by kernel_rfl) (w' := w5.setCell ⟨P, 3, none⟩ (.slice xa xn xc)) (by go_simp) ((World.cell?_setCell_other _ _ _ _ (by simp)).trans d2) (fun hHeld => ?_) AllReadyH.nil)
    simp only [Act.put, List.setIfInBounds_toArray, List.set_cons_zero, List.set_cons_succ]
    refine wpAnyH_done (by kernel_rfl) ?_ _
    go_wp2_with fail
    obtain ⟨stE, bE⟩ := send_end st sn5 grow (by omega)
    exact bodyPost_end (v := .tuple #[]) (by simp [results, Try.results97, go_sem]) rfl ⟨rfl, _, g, c, stE, (BB.mono hBw).trans bE⟩
  · rintro e w3 ⟨g, c, rfl, hown, hgl, hb3⟩
    replace hb3 := Rw.next (Below.drew (Below.refl _ w)) hb3
    have hgl' : w.heap.size ≤ g := hgl
    clear hgl
    replace st := st.below hb3
    have s3 := hb3.size
    replace BB := Rw.next BB hb3
    clear hb3 c2 c3
    have c2 := four2 st.blk
    have c3 := four3 st.blk
    refine ⟨_, rfl, c2, fun hHeld => ?_⟩
    simp only [Act.put, List.setIfInBounds_toArray, List.set_cons_zero, List.set_cons_succ]
    refine take (i := 12) (d := some 22) (v := .agg #[.slice (some ⟨g, 0, none⟩) 8 c]) rfl (by kernel_rfl) (by kernel_rfl) (by kernel_rfl) (by kernel_rfl) (fun _ _ _ h => h) (Or.inl ⟨by rfl, by intro w hSw; go_simp⟩) hHeld ?_
    simp only [Act.put, List.setIfInBounds_toArray, List.set_cons_zero, List.set_cons_succ]
    refine take (i := 13) (d := some 23) (v := .agg #[.int .i64 p, .slice (some ⟨g, 0, none⟩) 8 c]) rfl (by kernel_rfl) (by kernel_rfl) (by kernel_rfl) (by kernel_rfl) (fun _ _ _ h => h) (Or.inl ⟨by rfl, by intro w hSw; go_simp⟩) hHeld ?_
    simp only [Act.put, List.setIfInBounds_toArray, List.set_cons_zero, List.set_cons_succ]
    refine wpAnyH_ready (rs := [4, 14]) (by kernel_rfl) (by simp) (readyRun (i := 4) rfl (by kernel_rfl) (some 14) (by kernel_rfl) (v := v) (w' := w3) (by go_simp) c2 (fun hHeld => ?_) (readyRun (i := 14) rfl (by kernel_rfl) (some 24) (by kernel_rfl) (v := .slice (some ⟨w3.heap.size, 0, none⟩) 1 1) (w' := w3.alloc (.cells #[.int .i64 p, .slice (some ⟨g, 0, none⟩) 8 c] 56)) (by go_simp) (World.cell?_alloc_some _ _ _ (by rw [c2]; rfl) ▸ c2) (fun hHeld => ?_) AllReadyH.nil))
    · simp only [Act.put, List.setIfInBounds_toArray, List.set_cons_zero, List.set_cons_succ]
      refine wpAnyH_ready (rs := [14]) (by kernel_rfl) (by simp) (readyRun (i := 14) rfl (by kernel_rfl) (some 24) (by kernel_rfl) (v := .slice (some ⟨w3.heap.size, 0, none⟩) 1 1) (w' := w3.alloc (.cells #[.int .i64 p, .slice (some ⟨g, 0, none⟩) 8 c] 56)) (by go_simp) (World.cell?_alloc_some _ _ _ (by rw [c2]; rfl) ▸ c2) (fun hHeld => ?_) AllReadyH.nil)
      obtain ⟨w4, hw4⟩ : ∃ w4, w4 = w3.alloc (.cells #[.int .i64 p, .slice (some ⟨g, 0, none⟩) 8 c] 56) := ⟨_, rfl⟩
      rw [← hw4] at hHeld ⊢
      have hb4 : Below w3.heap.size w3 w4 := by subst hw4; exact below_alloc1 _ _
      have kT : w4.heap[w3.heap.size]? = some (.cells #[.int .i64 p, .slice (some ⟨g, 0, none⟩) 8 c] 56 (0, 0)) := by subst hw4; exact at_new rfl
      clear hw4
      replace st := st.below hb4
      have s4 := hb4.size
      replace hown := hown.below hb4
      replace BB := Rw.next BB hb4
      clear hb4 c2 c3
      have c2 := four2 st.blk
      have c3 := four3 st.blk
      simp only [Act.put, List.setIfInBounds_toArray, List.set_cons_zero, List.set_cons_succ]
      obtain ⟨v2, w5, happ, ⟨sn5, grow⟩⟩ := app_run (c := 1) (e := ⟨p, now, g, c⟩) 39 st.sn (by simpa [st.hl] using kT) hown (by simp only; omega) st.hl (fun q hq => by have := HLT.out q hq; simp only; omega) hQ (by omega)
      obtain ⟨xa, xn, xc, rfl⟩ := sn_slice sn5
      have kP5 := (grow.block _ (Array.getElem?_eq_some_iff.1 st.blk).1 (blk_ne st.sn.own st.blk)).trans st.blk
      have d2 := four2 kP5
      have d3 := four3 kP5
      have f3 := Bl.free kP5
      refine wpAnyH_ready (rs := [15]) (by kernel_rfl) (by simp) (readyRun (i := 15) rfl (by kernel_rfl) (some 25) (by kernel_rfl) (v := .slice xa xn xc) (w' := w5) (exec_app (.tmp 14) (.tmp 24) rfl (by kernel_rfl) (by kernel_rfl) happ) d2 (fun hHeld => ?_) AllReadyH.nil)
      simp only [Act.put, List.setIfInBounds_toArray, List.set_cons_zero, List.set_cons_succ]
      refine take (i := 16) (d := some 26) (v := .pointer (some ⟨P, 0, none⟩)) rfl (by kernel_rfl) (by kernel_rfl) (by kernel_rfl) (by kernel_rfl) (fun _ _ _ h => h) (Or.inl ⟨by rfl, by intro w hSw; go_simp⟩) hHeld ?_
      simp only [Act.put, List.setIfInBounds_toArray, List.set_cons_zero, List.set_cons_succ]
      refine take (i := 17) (d := some 27) (v := .pointer (some ⟨P, 3, none⟩)) rfl (by kernel_rfl) (by kernel_rfl) (by kernel_rfl) (by kernel_rfl) (fun _ _ _ h => h) (Or.inl ⟨by rfl, by intro w hSw; go_simp⟩) hHeld ?_
      simp only [Act.put, List.setIfInBounds_toArray, List.set_cons_zero, List.set_cons_succ]
      have f30 := f3 3
      refine wpAnyH_ready (rs := [18]) (by kernel_rfl) (by simp) (readySkip (i := 18) rfl (by kernel_rfl) none (by kernel_rfl) (w' := w5.setCell ⟨P, 3, none⟩ (.slice xa xn xc)) (by go_simp) ((World.cell?_setCell_other _ _ _ _ (by simp)).trans d2) (fun hHeld => ?_) AllReadyH.nil)
      simp only [Act.put, List.setIfInBounds_toArray, List.set_cons_zero, List.set_cons_succ]
      refine wpAnyH_done (by kernel_rfl) ?_ _
      go_wp2_with fail
      obtain ⟨stE, bE⟩ := send_end st sn5 grow (by omega)
      exact bodyPost_end (v := .tuple #[]) (by simp [results, Try.results97, go_sem]) rfl ⟨rfl, _, g, c, stE, (BB.mono hBw).trans bE⟩
    · skip
      obtain ⟨w4, hw4⟩ : ∃ w4, w4 = w3.alloc (.cells #[.int .i64 p, .slice (some ⟨g, 0, none⟩) 8 c] 56) := ⟨_, rfl⟩
      rw [← hw4] at hHeld ⊢
      have hb4 : Below w3.heap.size w3 w4 := by subst hw4; exact below_alloc1 _ _
      have kT : w4.heap[w3.heap.size]? = some (.cells #[.int .i64 p, .slice (some ⟨g, 0, none⟩) 8 c] 56 (0, 0)) := by subst hw4; exact at_new rfl
      clear hw4
      replace st := st.below hb4
      have s4 := hb4.size
      replace hown := hown.below hb4
      replace BB := Rw.next BB hb4
      clear hb4 c2 c3
      have c2 := four2 st.blk
      have c3 := four3 st.blk
      simp only [Act.put, List.setIfInBounds_toArray, List.set_cons_zero, List.set_cons_succ]
      refine wpAnyH_ready (rs := [4]) (by kernel_rfl) (by simp) (readyRun (i := 4) rfl (by kernel_rfl) (some 14) (by kernel_rfl) (v := v) (w' := w4) (by go_simp) c2 (fun hHeld => ?_) AllReadyH.nil)
      simp only [Act.put, List.setIfInBounds_toArray, List.set_cons_zero, List.set_cons_succ]
      obtain ⟨v2, w5, happ, ⟨sn5, grow⟩⟩ := app_run (c := 1) (e := ⟨p, now, g, c⟩) 39 st.sn (by simpa [st.hl] using kT) hown (by simp only; omega) st.hl (fun q hq => by have := HLT.out q hq; simp only; omega) hQ (by omega)
      obtain ⟨xa, xn, xc, rfl⟩ := sn_slice sn5
      have kP5 := (grow.block _ (Array.getElem?_eq_some_iff.1 st.blk).1 (blk_ne st.sn.own st.blk)).trans st.blk
      have d2 := four2 kP5
      have d3 := four3 kP5
      have f3 := Bl.free kP5
      refine wpAnyH_ready (rs := [15]) (by kernel_rfl) (by simp) (readyRun (i := 15) rfl (by kernel_rfl) (some 25) (by kernel_rfl) (v := .slice xa xn xc) (w' := w5) (exec_app (.tmp 14) (.tmp 24) rfl (by kernel_rfl) (by kernel_rfl) happ) d2 (fun hHeld => ?_) AllReadyH.nil)
      simp only [Act.put, List.setIfInBounds_toArray, List.set_cons_zero, List.set_cons_succ]
      refine take (i := 16) (d := some 26) (v := .pointer (some ⟨P, 0, none⟩)) rfl (by kernel_rfl) (by kernel_rfl) (by kernel_rfl) (by kernel_rfl) (fun _ _ _ h => h) (Or.inl ⟨by rfl, by intro w hSw; go_simp⟩) hHeld ?_
      simp only [Act.put, List.setIfInBounds_toArray, List.set_cons_zero, List.set_cons_succ]
      refine take (i := 17) (d := some 27) (v := .pointer (some ⟨P, 3, none⟩)) rfl (by kernel_rfl) (by kernel_rfl) (by kernel_rfl) (by kernel_rfl) (fun _ _ _ h => h) (Or.inl ⟨by rfl, by intro w hSw; go_simp⟩) hHeld ?_
      simp only [Act.put, List.setIfInBounds_toArray, List.set_cons_zero, List.set_cons_succ]
      have f30 := f3 3
      refine wpAnyH_ready (rs := [18]) (by kernel_rfl) (by simp) (readySkip (i := 18) rfl (by kernel_rfl) none (by kernel_rfl) (w' := w5.setCell ⟨P, 3, none⟩ (.slice xa xn xc)) (by go_simp) ((World.cell?_setCell_other _ _ _ _ (by simp)).trans d2) (fun hHeld => ?_) AllReadyH.nil)
      simp only [Act.put, List.setIfInBounds_toArray, List.set_cons_zero, List.set_cons_succ]
      refine wpAnyH_done (by kernel_rfl) ?_ _
      go_wp2_with fail
      obtain ⟨stE, bE⟩ := send_end st sn5 grow (by omega)
      exact bodyPost_end (v := .tuple #[]) (by simp [results, Try.results97, go_sem]) rfl ⟨rfl, _, g, c, stE, (BB.mono hBw).trans bE⟩

end Go.Proofs.Ytkakdldhinimoaa.Yj
