/-
  The bytes of a store; the program's writer.
-/
import Derived.Test.YtecnbenlmbppbaaGreatApp
import Derived.Test.YtecnbenlmbppbaaGreatHm
import Derived.Test.YtecnbenlmbppbaaGreatMp
import Derived.Lib.AppendStr
namespace Go.Proofs.YtecnbenlmbppbaaGreat.Sw
set_option maxRecDepth 8000
set_option linter.unusedSimpArgs false
set_option linter.unusedVariables false
open Go Go.ChangeShapes Go.WideShapes Go.RowKit
open Num Word Pl Rp Rw Put
open Rl (Rm rm0 said)
open St (Nm nm0 NL told storeB)

def dg (n : Int) (z : Nat) : List Int := digs n.toNat z z
def sB (s : ByteArray) : List Int := s.data.toList.map (fun b => (b.toNat : Int))
def textL (s : ByteArray) : List Int := dg s.size 1 ++ sB s
def valL (x : Vl.V2) : List Int := textL x.2 ++ (if x.2.toList.isEmpty = true then dg x.1 6 else [])
def rowL (l : RowL) : List Int := l.flatMap valL
def relL (ar : Int) (R : List RowL) : List Int := dg ar 1 ++ dg (R.length : Int) 2 ++ R.flatMap rowL
def nameL (x : NL) : List Int := textL x.1 ++ relL x.2.1 x.2.2
def storeL (T : List NL) : List Int := dg (T.length : Int) 1 ++ T.flatMap nameL
theorem dg_len (n : Int) (z : Nat) : (dg n z).length = z := digs_len _ _ _
theorem dg_byt (n : Int) (z : Nat) : Byt (dg n z) := digs_byt _ _ _
theorem sB_len (s : ByteArray) : (sB s).length = s.size := by simp [sB]
theorem sB_byt (s : ByteArray) : Byt (sB s) := by
  intro x hx
  simp only [sB, List.mem_map] at hx
  obtain ⟨b, _, rfl⟩ := hx
  have := b.toNat_lt
  omega
theorem textL_byt (s : ByteArray) : Byt (textL s) := byt_app (dg_byt _ _) (sB_byt _)
theorem byt_nil : Byt [] := fun _ h => by simp at h
theorem byt_flat {α : Type} {f : α → List Int} (h : ∀ x, Byt (f x)) (l : List α) : Byt (l.flatMap f) := fun n hn => by
  obtain ⟨x, _, hx⟩ := List.mem_flatMap.1 hn
  exact h x n hx
theorem valL_byt (x : Vl.V2) : Byt (valL x) := byt_app (textL_byt _) (by split; exact dg_byt _ _; exact byt_nil)
theorem rowL_byt (l : RowL) : Byt (rowL l) := byt_flat valL_byt l
theorem relL_byt (ar : Int) (R : List RowL) : Byt (relL ar R) := byt_app (byt_app (dg_byt _ _) (dg_byt _ _)) (byt_flat rowL_byt R)
theorem nameL_byt (x : NL) : Byt (nameL x) := byt_app (textL_byt _) (relL_byt _ _)
theorem storeL_byt (T : List NL) : Byt (storeL T) := byt_app (dg_byt _ _) (byt_flat nameL_byt T)
theorem flat_len {α : Type} {f : α → List Int} {c : Nat} : ∀ (l : List α), (∀ x ∈ l, (f x).length ≤ c) → (l.flatMap f).length ≤ l.length * c
  | [], _ => by simp
  | x :: l, h => by
    have h1 := h x (by simp)
    have h2 := flat_len l (fun y hy => h y (by simp [hy]))
    simp only [List.flatMap_cons, List.length_append, List.length_cons, Nat.add_mul]; omega
theorem word_small {s : ByteArray} (h : wordB s = true) : s.size ≤ 12 := by
  unfold wordB at h
  exact (of_decide_eq_true h).2.1
theorem empty_size {s : ByteArray} (h : s.toList.isEmpty = true) : s.size = 0 := by
  have e : s.data.toList = [] := by rw [← ByteArray.toList_eq]; exact Vl.isnil h
  show s.data.size = 0
  rw [← Array.length_toList, e]; rfl
theorem val_small {x : Vl.V2} (h : Vl.valB x = true) : x.2.size ≤ 12 := by
  unfold Vl.valB at h
  split at h
  · rename_i he; have := empty_size he; omega
  · rw [Bool.and_eq_true] at h; exact word_small h.2
theorem valL_len {x : Vl.V2} (h : Vl.valB x = true) : (valL x).length ≤ 19 := by
  have := val_small h
  unfold valL textL
  rw [List.length_append, List.length_append, dg_len, sB_len]
  split
  · rw [dg_len]; omega
  · simp; omega
theorem rowL_len {l : RowL} (h : Rp.okL l) (h6 : l.length ≤ 6) : (rowL l).length ≤ 114 := by
  have := flat_len (f := valL) (c := 19) l (fun x hx => valL_len (h x hx))
  unfold rowL; omega
theorem relL_len {ar : Int} {R : List RowL} (h : RelP ar R) : (relL ar R).length ≤ 34203 := by
  have := flat_len (f := rowL) (c := 114) R (fun l hl => rowL_len (h.ok l hl) (by have := h.fit l hl; have := h.hi; omega))
  have := h.few
  unfold relL
  rw [List.length_append, List.length_append, dg_len, dg_len]; omega

/-- Bytes of the call's own, or none. -/
abbrev OwnI (w : World) (B : Nat) (v : Value) (l : List Int) : Prop := w.ownsRow B 5 1 v l.length (l.map (Value.int .u8))
theorem own_below {w w' : World} {B : Nat} {v : Value} {l : List Int} (h : OwnI w B v l) (hb : Below w.heap.size w w') : OwnI w' B v l := by
  refine h.kept (row := none) ⟨hb.os, hb.tape, hb.output, hb.size, fun k hk _ => hb.block k hk⟩ ?_
  by_cases e : v.ownBlock = none
  · exact .inl e
  · exact .inr e
theorem own_slice {w : World} {B : Nat} {v : Value} {l : List Int} (h : OwnI w B v l) : ∃ a n c, v = .slice a n c := by
  rcases h.2 with ⟨rfl, _⟩ | ⟨g, cap, cur, rfl, _⟩
  · exact ⟨_, _, _, rfl⟩
  · exact ⟨_, _, _, rfl⟩
theorem own_ne {w : World} {B g : Nat} {v : Value} {l : List Int} {cs : Array Value} {t : TypeId} (h : OwnI w B v l) (k : w.heap[g]? = some (.cells cs t (0, 0))) (ht : t ≠ 5 := by decide) : some g ≠ v.ownBlock := by
  intro e
  rcases h.2 with ⟨rfl, _⟩ | ⟨g1, cap, cur, rfl, _, h1, _⟩
  · cases e
  · simp only [Value.ownBlock, Option.some.injEq] at e
    subst e
    rw [k] at h1
    simp only [Option.some.injEq, Obj.cells.injEq] at h1
    exact ht h1.2.1
theorem own_set {w : World} {B g i : Nat} {v u : Value} {l : List Int} (h : OwnI w B v l) (hne : some g ≠ v.ownBlock) : OwnI (w.setCell ⟨g, i, none⟩ u) B v l := by
  refine ⟨h.1, ?_⟩
  rcases h.2 with h0 | ⟨g1, cap, cur, rfl, hb, hg, rest⟩
  · exact .inl h0
  · refine .inr ⟨g1, cap, cur, rfl, hb, (Below.heap_setCell _ _ _ _ fun e => hne (by simp only at e; rw [e]; rfl)).trans hg, rest⟩
/-- All below B is kept, and all that is neither block g nor bytes. -/
structure KB (g B : Nat) (w w' : World) : Prop where
  low : Below B w w'
  size : w.heap.size ≤ w'.heap.size
  box : ∀ x, x < w.heap.size → x ≠ g → (∀ cs, w.heap[x]? ≠ some (.cells cs 5 (0, 0))) → w'.heap[x]? = w.heap[x]?
theorem KB.refl (g B : Nat) (w : World) : KB g B w w := ⟨Below.refl _ _, Nat.le_refl _, fun _ _ _ _ => rfl⟩
theorem KB.next {g B : Nat} {w w1 w2 : World} (h : KB g B w w1) (hb : Below w1.heap.size w1 w2) (hB : B ≤ w1.heap.size) : KB g B w w2 :=
  ⟨h.low.trans (hb.mono hB), Nat.le_trans h.size hb.size, fun x hx hg hc => (hb.block x (Nat.lt_of_lt_of_le hx h.size)).trans (h.box x hx hg hc)⟩
theorem KB.trans {g B : Nat} {w w1 w2 : World} (h : KB g B w w1) (k : KB g B w1 w2) : KB g B w w2 :=
  ⟨h.low.trans k.low, Nat.le_trans h.size k.size, fun x hx hg hc => by
    have e := h.box x hx hg hc
    exact (k.box x (Nat.lt_of_lt_of_le hx h.size) hg (by rw [e]; exact hc)).trans e⟩
theorem KB.grown {g B : Nat} {w w1 w2 : World} {v : Value} {l : List Int} (h : KB g B w w1) (ho : OwnI w1 B v l) (hg : w1.grownBy w2 v.ownBlock) (hB : B ≤ w1.heap.size) : KB g B w w2 :=
  ⟨h.low.grown hg hB (fun j hj => (ho.lt j hj).1), Nat.le_trans h.size hg.size, fun x hx hne hc => by
    have e := h.box x hx hne hc
    refine (hg.block x (Nat.lt_of_lt_of_le hx h.size) (fun e1 => ?_)).trans e
    rcases ho.2 with ⟨rfl, _⟩ | ⟨g1, cap, cur, rfl, _, h1, _⟩
    · cases e1
    · simp only [Value.ownBlock, Option.some.injEq] at e1
      subst e1
      exact hc cur (e.symm.trans h1)⟩
theorem KB.set {g B i : Nat} {w w1 : World} {u : Value} (h : KB g B w w1) (hB : B ≤ g) : KB g B w (w1.setCell ⟨g, i, none⟩ u) :=
  ⟨Vl.bset h.low hB, by simpa using h.size, fun x hx hne hc => (Below.heap_setCell _ _ _ _ (by simpa using hne)).trans (h.box x hx hne hc)⟩
theorem KB.at {g B x : Nat} {w w' : World} {cs : Array Value} {t : TypeId} {fr : Nat × Nat} (h : KB g B w w') (k : w.heap[x]? = some (.cells cs t fr)) (hg : x ≠ g) (ht : t ≠ 5 := by decide) : w'.heap[x]? = some (.cells cs t fr) :=
  (h.box x (blk_lt k) hg (fun c e => by rw [k] at e; simp only [Option.some.injEq, Obj.cells.injEq] at e; exact ht e.2.1)).trans k
theorem one_set {w : World} {g : Nat} {v u : Value} {t : TypeId} (k : w.heap[g]? = some (.cells #[v] t (0, 0))) : (w.setCell ⟨g, 0, none⟩ u).heap[g]? = some (.cells #[u] t (0, 0)) := by
  simp [World.setCell, Array.getElem?_modify, k]
/-- Bytes behind. -/
theorem run_app {w : World} {B : Nat} {v : Value} {l m : List Int} {A : Option Addr} {b off c : Nat} (ty : TypeId) (h : OwnI w B v l) (hr : Rw.Rd w A b off m) (hs : l.length + m.length ≤ 8388608) (hB : B ≤ w.heap.size) :
    ∃ v' w', (Builtin.append_ #[22, 22] ty #[v, .slice A m.length c]).run Tryz.prog w = .ok v' w' ∧ OwnI w' B v' (l ++ m) ∧ w.grownBy w' v.ownBlock := by
  obtain ⟨i0, hi, hz0, hz1, hz2⟩ := info_parts info5
  rcases A with _ | ad
  · obtain rfl := App.rd_nil hr
    refine ⟨v, w, ?_, by simpa using h, ⟨rfl, rfl, rfl, Nat.le_refl _, fun _ _ _ => rfl⟩⟩
    rcases h.2 with ⟨rfl, _⟩ | ⟨g, cap, cur, rfl, _, _, hn, _⟩
    · simp [Builtin.append_, go_sem]
    · simpa using App.run_none w ty g l.length cap c hn
  · obtain ⟨v', w', h1, h2, h3, _⟩ := run_append_own (P := Tryz.prog) w B 22 ty 5 i0 (.int .u8 0) 1 1 Tryz.underlying22 hi hz0 hz1 hz2 rfl (by decide) v l.length (l.map (Value.int .u8)) h ad m.length c (m.map (Value.int .u8)) (by simp) (App.news_of hr) (by intro u hu; simp at hu; obtain ⟨q, _, rfl⟩ := hu; rfl) (by unfold maxLen; omega) (by omega) hB
    exact ⟨v', w', h1, by simpa [OwnI] using h2, h3⟩

/-- The writer's block, with what has been written. -/
def Wr (w : World) (g B : Nat) (l : List Int) : Prop := ∃ v, w.heap[g]? = some (.cells #[v] 76 (0, 0)) ∧ OwnI w B v l
theorem Wr.keep {w w' : World} {g B : Nat} {l : List Int} (h : Wr w g B l) (hb : Below w.heap.size w w') : Wr w' g B l := by
  obtain ⟨v, k, ho⟩ := h
  exact ⟨v, (hb.block _ (blk_lt k)).trans k, own_below ho hb⟩
theorem Wr.lt {w : World} {g B : Nat} {l : List Int} (h : Wr w g B l) : g < w.heap.size := by
  obtain ⟨v, k, _⟩ := h; exact blk_lt k

set_option maxHeartbeats 4000000 in
theorem num_any (g B : Nat) (l : List Int) (n : Int) (z : Nat) (w : World) (h : Wr w g B l) (hB : B ≤ g) (hs : l.length ≤ 4194304) (hn : numOkB n z = true) (hz : z ≤ 6) :
    Calls Tryz.prog 47 #[.pointer (some ⟨g, 0, none⟩), .int .i64 n, .int .i64 z] w fun e w' => e = .returned (.tuple #[]) ∧ Wr w' g B (l ++ dg n z) ∧ KB g B w w' := by
  obtain ⟨v, k, ho⟩ := h
  go_enter Tryz.func47, Tryz.ntmps47
  go_wp2
  refine wp_region_held_drew (S := fun _ => True) (by kernel_rfl) trivial (fun hHeld => ?_)
  refine Hn.take (i := 0) (d := some 6) (v := .pointer (some ⟨g, 0, none⟩)) rfl (by kernel_rfl) (by kernel_rfl) (by kernel_rfl) (by kernel_rfl) (fun _ _ _ h => h) (Or.inl ⟨by rfl, by intro w hSw; go_simp⟩) hHeld ?_
  simp only [Act.put, List.setIfInBounds_toArray, List.set_cons_zero, List.set_cons_succ]
  refine Hn.take (i := 1) (d := some 7) (v := .pointer (some ⟨g, 0, none⟩)) rfl (by kernel_rfl) (by kernel_rfl) (by kernel_rfl) (by kernel_rfl) (fun _ _ _ h => h) (Or.inl ⟨by rfl, by intro w hSw; go_simp⟩) hHeld ?_
  simp only [Act.put, List.setIfInBounds_toArray, List.set_cons_zero, List.set_cons_succ]
  refine Hn.take (i := 2) (d := some 8) (v := .pointer (some ⟨g, 0, none⟩)) rfl (by kernel_rfl) (by kernel_rfl) (by kernel_rfl) (by kernel_rfl) (fun _ _ _ h => h) (Or.inl ⟨by rfl, by intro w hSw; go_simp⟩) hHeld ?_
  simp only [Act.put, List.setIfInBounds_toArray, List.set_cons_zero, List.set_cons_succ]
  refine Hn.take (i := 3) (d := some 9) (v := .pointer (some ⟨g, 0, none⟩)) rfl (by kernel_rfl) (by kernel_rfl) (by kernel_rfl) (by kernel_rfl) (fun _ _ _ h => h) (Or.inl ⟨by rfl, by intro w hSw; go_simp⟩) hHeld ?_
  simp only [Act.put, List.setIfInBounds_toArray, List.set_cons_zero, List.set_cons_succ]
  refine Hn.take (i := 5) (d := some 11) (v := .int .i64 n) rfl (by kernel_rfl) (by kernel_rfl) (by kernel_rfl) (by kernel_rfl) (fun _ _ _ h => h) (Or.inl ⟨by rfl, by intro w hSw; go_simp⟩) hHeld ?_
  simp only [Act.put, List.setIfInBounds_toArray, List.set_cons_zero, List.set_cons_succ]
  refine Hn.take (i := 6) (d := some 12) (v := .int .i64 z) rfl (by kernel_rfl) (by kernel_rfl) (by kernel_rfl) (by kernel_rfl) (fun _ _ _ h => h) (Or.inl ⟨by rfl, by intro w hSw; go_simp⟩) hHeld ?_
  simp only [Act.put, List.setIfInBounds_toArray, List.set_cons_zero, List.set_cons_succ]
  have k0 : w.drew.heap[g]? = some (.cells #[v] 76 (0, 0)) := k
  have ho0 : OwnI w.drew B v l := own_below ho ((Below.refl _ _).drew)
  have BW : KB g B w w.drew := (KB.refl _ _ _).next ((Below.refl _ _).drew) (by have := blk_lt k; omega)
  have hBw : B ≤ w.drew.heap.size := by have := blk_lt k; show B ≤ w.heap.size; omega
  clear k ho
  generalize w.drew = W at *
  have k := k0
  have ho := ho0
  clear k0 ho0
  refine wpAnyH_ready (rs := [4, 7]) (by kernel_rfl) (by simp) (Hn.readyRun (i := 4) rfl (by kernel_rfl) (some 10) (by kernel_rfl) (v := v) (w' := W) (by have o0 := one k; go_simp) trivial (fun hHeld => ?_) (Hn.call3 (i := 7) rfl (by rfl) 107 (.const (.slice none 0 0)) (.tmp 11) (.tmp 12) 22 3 3 (by kernel_rfl) 13 (by kernel_rfl) (.slice none 0 0) (.int .i64 n) (.int .i64 z) (by kernel_rfl) (by kernel_rfl) (by kernel_rfl) (fun _ => rfl) (App.with_nil n z _ hn) ?_ AllReadyH.nil))
  · simp only [Act.put, List.setIfInBounds_toArray, List.set_cons_zero, List.set_cons_succ]
    refine wpAnyH_ready (rs := [7]) (by kernel_rfl) (by simp) (Hn.call3 (i := 7) rfl (by rfl) 107 (.const (.slice none 0 0)) (.tmp 11) (.tmp 12) 22 3 3 (by kernel_rfl) 13 (by kernel_rfl) (.slice none 0 0) (.int .i64 n) (.int .i64 z) (by kernel_rfl) (by kernel_rfl) (by kernel_rfl) (fun _ => rfl) (App.with_nil n z _ hn) ?_ AllReadyH.nil)
    rintro e1 Wc ⟨v1, rfl, hv1, hb⟩
    obtain ⟨g1, c1, rfl, hg1, hw1⟩ := Un.hasI_form hv1 (by simp [digs_len]; omega) (byt_app (fun _ h => by simp at h) (digs_byt _ _ _))
    have r1 := hw1.rd
    clear hv1 hw1 hg1
    replace k := (hb.block _ (blk_lt k)).trans k
    replace ho := own_below ho hb
    replace BW := BW.next hb hBw
    replace hBw := Nat.le_trans hBw hb.size
    clear hb
    refine ⟨_, rfl, trivial, fun hHeld => ?_⟩
    simp only [Act.put, List.setIfInBounds_toArray, List.set_cons_zero, List.set_cons_succ]
    obtain ⟨v2, Z, hrun, hoZ, hgr⟩ := run_app (c := c1) (m := [] ++ digs n.toNat (z : Int).toNat (z : Int).toNat) 22 ho r1 (by simp [digs_len]; omega) hBw
    refine wpAnyH_ready (rs := [8]) (by kernel_rfl) (by simp) (Hn.readyRun (i := 8) rfl (by kernel_rfl) (some 14) (by kernel_rfl) (Hn.exec_app (.tmp 10) (.tmp 13) rfl (by kernel_rfl) (by kernel_rfl) hrun) trivial (fun hHeld => ?_) AllReadyH.nil)
    simp only [Act.put, List.setIfInBounds_toArray, List.set_cons_zero, List.set_cons_succ]
    have kZ := (hgr.block _ (blk_lt k) (own_ne ho k)).trans k
    replace BW := BW.grown ho hgr hBw
    obtain ⟨ya, yn, yc, rfl⟩ := own_slice hoZ
    have o0 := one kZ
    have fO := Vl.free kZ
    refine Hn.take (i := 9) (d := some 15) (v := .pointer (some ⟨g, 0, none⟩)) rfl (by kernel_rfl) (by kernel_rfl) (by kernel_rfl) (by kernel_rfl) (fun _ _ _ h => h) (Or.inl ⟨by rfl, by intro w hSw; go_simp⟩) hHeld ?_
    simp only [Act.put, List.setIfInBounds_toArray, List.set_cons_zero, List.set_cons_succ]
    refine Hn.take (i := 10) (d := some 16) (v := .pointer (some ⟨g, 0, none⟩)) rfl (by kernel_rfl) (by kernel_rfl) (by kernel_rfl) (by kernel_rfl) (fun _ _ _ h => h) (Or.inl ⟨by rfl, by intro w hSw; go_simp⟩) hHeld ?_
    simp only [Act.put, List.setIfInBounds_toArray, List.set_cons_zero, List.set_cons_succ]
    refine wpAnyH_ready (rs := [11]) (by kernel_rfl) (by simp) (Hn.readySkip (i := 11) rfl (by kernel_rfl) none (by kernel_rfl) (w' := Z.setCell ⟨g, 0, none⟩ (.slice ya yn yc)) (by go_simp) trivial (fun hHeld => ?_) AllReadyH.nil)
    simp only [Act.put, List.setIfInBounds_toArray, List.set_cons_zero, List.set_cons_succ]
    refine wpAnyH_done (by kernel_rfl) ?_ _
    go_wp2
    refine bodyPost_end (v := .tuple #[]) (by simp [results, Tryz.results47, go_sem]) rfl ⟨rfl, ⟨.slice ya yn yc, one_set kZ, ?_⟩, BW.set hB⟩
    have e : l ++ dg n z = l ++ ([] ++ digs n.toNat (z : Int).toNat (z : Int).toNat) := by simp [dg]
    rw [e]
    exact own_set hoZ (own_ne hoZ kZ)
  · rintro e1 Wc ⟨v1, rfl, hv1, hb⟩
    obtain ⟨g1, c1, rfl, hg1, hw1⟩ := Un.hasI_form hv1 (by simp [digs_len]; omega) (byt_app (fun _ h => by simp at h) (digs_byt _ _ _))
    have r1 := hw1.rd
    clear hv1 hw1 hg1
    replace k := (hb.block _ (blk_lt k)).trans k
    replace ho := own_below ho hb
    replace BW := BW.next hb hBw
    replace hBw := Nat.le_trans hBw hb.size
    clear hb
    refine ⟨_, rfl, trivial, fun hHeld => ?_⟩
    simp only [Act.put, List.setIfInBounds_toArray, List.set_cons_zero, List.set_cons_succ]
    refine wpAnyH_ready (rs := [4]) (by kernel_rfl) (by simp) (Hn.readyRun (i := 4) rfl (by kernel_rfl) (some 10) (by kernel_rfl) (v := v) (w' := Wc) (by have o0 := one k; go_simp) trivial (fun hHeld => ?_) AllReadyH.nil)
    simp only [Act.put, List.setIfInBounds_toArray, List.set_cons_zero, List.set_cons_succ]
    obtain ⟨v2, Z, hrun, hoZ, hgr⟩ := run_app (c := c1) (m := [] ++ digs n.toNat (z : Int).toNat (z : Int).toNat) 22 ho r1 (by simp [digs_len]; omega) hBw
    refine wpAnyH_ready (rs := [8]) (by kernel_rfl) (by simp) (Hn.readyRun (i := 8) rfl (by kernel_rfl) (some 14) (by kernel_rfl) (Hn.exec_app (.tmp 10) (.tmp 13) rfl (by kernel_rfl) (by kernel_rfl) hrun) trivial (fun hHeld => ?_) AllReadyH.nil)
    simp only [Act.put, List.setIfInBounds_toArray, List.set_cons_zero, List.set_cons_succ]
    have kZ := (hgr.block _ (blk_lt k) (own_ne ho k)).trans k
    replace BW := BW.grown ho hgr hBw
    obtain ⟨ya, yn, yc, rfl⟩ := own_slice hoZ
    have o0 := one kZ
    have fO := Vl.free kZ
    refine Hn.take (i := 9) (d := some 15) (v := .pointer (some ⟨g, 0, none⟩)) rfl (by kernel_rfl) (by kernel_rfl) (by kernel_rfl) (by kernel_rfl) (fun _ _ _ h => h) (Or.inl ⟨by rfl, by intro w hSw; go_simp⟩) hHeld ?_
    simp only [Act.put, List.setIfInBounds_toArray, List.set_cons_zero, List.set_cons_succ]
    refine Hn.take (i := 10) (d := some 16) (v := .pointer (some ⟨g, 0, none⟩)) rfl (by kernel_rfl) (by kernel_rfl) (by kernel_rfl) (by kernel_rfl) (fun _ _ _ h => h) (Or.inl ⟨by rfl, by intro w hSw; go_simp⟩) hHeld ?_
    simp only [Act.put, List.setIfInBounds_toArray, List.set_cons_zero, List.set_cons_succ]
    refine wpAnyH_ready (rs := [11]) (by kernel_rfl) (by simp) (Hn.readySkip (i := 11) rfl (by kernel_rfl) none (by kernel_rfl) (w' := Z.setCell ⟨g, 0, none⟩ (.slice ya yn yc)) (by go_simp) trivial (fun hHeld => ?_) AllReadyH.nil)
    simp only [Act.put, List.setIfInBounds_toArray, List.set_cons_zero, List.set_cons_succ]
    refine wpAnyH_done (by kernel_rfl) ?_ _
    go_wp2
    refine bodyPost_end (v := .tuple #[]) (by simp [results, Tryz.results47, go_sem]) rfl ⟨rfl, ⟨.slice ya yn yc, one_set kZ, ?_⟩, BW.set hB⟩
    have e : l ++ dg n z = l ++ ([] ++ digs n.toNat (z : Int).toNat (z : Int).toNat) := by simp [dg]
    rw [e]
    exact own_set hoZ (own_ne hoZ kZ)

theorem strCells_eq (s : ByteArray) : Lib.strCells s = (sB s).map (Value.int .u8) := by
  simp [Lib.strCells, sB]
set_option maxHeartbeats 4000000 in
theorem text_any (g B : Nat) (l : List Int) (s : ByteArray) (w : World) (h : Wr w g B l) (hB : B ≤ g) (hl : l.length ≤ 4000000) (hs : s.size ≤ 12) :
    Calls Tryz.prog 48 #[.pointer (some ⟨g, 0, none⟩), .string s] w fun e w' => e = .returned (.tuple #[]) ∧ Wr w' g B (l ++ textL s) ∧ KB g B w w' := by
  have hN := num_any g B l (s.size : Int) 1 w h hB (by omega) (by rw [numOkB]; simp [pw]; omega) (by omega)
  obtain ⟨i0, hi, hz0, hz1, hz2⟩ := info_parts info5
  have hm : s.size ≤ maxLen := by unfold maxLen; omega
  obtain ⟨n1, hn1⟩ : ∃ n1 : Int, n1 = s.size := ⟨_, rfl⟩
  rw [← hn1] at hN
  have HE : Hid (l ++ textL s = l ++ dg n1 1 ++ sB s) := by rw [Hid, hn1]; simp [textL]
  have HL : Hid ((l ++ dg n1 1).length ≤ 4000001) := by rw [Hid]; simp [dg_len]; omega
  rw [HE.out]
  generalize l ++ dg n1 1 = l1 at hN HL ⊢
  rw [hn1] at hN
  clear h hn1 HE
  go_enter Tryz.func48, Tryz.ntmps48
  go_wp2_with (first
    | (go_at_call 47; refine hN.mono ?_; rintro e w1 ⟨rfl, ⟨v, k, ho⟩, BW⟩; have o0 := one k; have lk := blk_lt k)
    | (at_builtin; refine Lib.wpList_append_own_string _ rfl _ _ 22 9 rfl B 5 i0 Tryz.underlying22 Tryz.underlying9 hi hz0 hz1 hz2 v l1.length (l1.map (Value.int .u8)) rfl ho s rfl (by have := HL.out; unfold maxLen; omega) (by have := HL.out; omega) (by omega) ?_; intro v2 Z hoZ0 hgr _; have hoZ : OwnI Z B v2 (l1 ++ sB s) := (by rw [strCells_eq] at hoZ0; simpa [OwnI, sB_len] using hoZ0); have kZ := (hgr.block _ lk (own_ne ho k)).trans k; replace BW := BW.grown ho hgr (by omega); obtain ⟨ya, yn, yc, rfl⟩ := own_slice hoZ; clear o0; have o0 := one kZ; have fO := Vl.free kZ; clear hoZ0)
    | go_in)
  exact bodyPost_end (v := .tuple #[]) (by simp [results, Tryz.results48, go_sem]) rfl ⟨rfl, ⟨.slice ya yn yc, one_set kZ, own_set hoZ (own_ne hoZ kZ)⟩, BW.set hB⟩

set_option maxHeartbeats 4000000 in
theorem value_any (g B : Nat) (l : List Int) (n : Int) (s : ByteArray) (w : World) (h : Wr w g B l) (hB : B ≤ g) (hl : l.length ≤ 3000000) (hv : Vl.valB (n, s) = true) :
    Calls Tryz.prog 108 #[.pointer (some ⟨g, 0, none⟩), .agg #[.int .i64 n, .string s]] w fun e w' => e = .returned (.tuple #[]) ∧ Wr w' g B (l ++ valL (n, s)) ∧ KB g B w w' := by
  have hs := val_small hv
  simp only at hs
  have lg := h.lt
  have hb1 := below_alloc1 w (.cells #[.int .i64 n, .string s] 83)
  have hT := text_any g B l s _ (h.keep hb1) hB (by omega) hs
  have B1 : KB g B w (w.alloc (.cells #[.int .i64 n, .string s] 83)) := (KB.refl _ _ _).next hb1 (by omega)
  have k1 : (w.alloc (.cells #[.int .i64 n, .string s] 83)).heap[w.heap.size]? = some (.cells #[.int .i64 n, .string s] 83 (0, 0)) := at_new rfl
  obtain ⟨W, hW⟩ : ∃ W, W = w.alloc (.cells #[.int .i64 n, .string s] 83) := ⟨_, rfl⟩
  rw [← hW] at hT B1 k1
  have hlen : (l ++ textL s).length ≤ 4000000 := by simp [textL, dg_len, sB_len]; omega
  have HL : Hid ((l ++ textL s).length ≤ 4000000) := hlen
  cases he : s.toList.isEmpty with
  | true =>
    have HE : Hid (l ++ valL (n, s) = l ++ textL s ++ dg n 6) := by rw [Hid]; simp [valL, he]
    have hn : numOkB n 6 = true := by
      unfold Vl.valB at hv
      simp only [he, if_true] at hv
      rw [numOkB]; unfold Vl.numB at hv; have := of_decide_eq_true hv; simp [pw]; omega
    rw [HE.out]
    generalize l ++ textL s = l1 at hT HL ⊢
    clear h hb1 HE hv hlen
    go_enter Tryz.func108, Tryz.ntmps108
    go_wp2_with (first
      | (go_at_call 48; rw [← hW]; clear hW; refine hT.mono ?_; rintro e w1 ⟨rfl, hw, BW⟩; replace B1 := B1.trans BW; replace k1 := BW.at k1 (by omega); obtain ⟨p0, p1⟩ := two k1)
      | (go_at_call 47; refine (num_any g B l1 n 6 _ hw hB (by have := HL.out; omega) hn (by omega)).mono ?_; rintro e w2 ⟨rfl, hw2, BW2⟩))
    exact bodyPost_end (v := .tuple #[]) (by simp [results, Tryz.results108, go_sem]) rfl ⟨rfl, hw2, B1.trans BW2⟩
  | false =>
    have HE : Hid (l ++ valL (n, s) = l ++ textL s) := by rw [Hid]; simp [valL, he]
    rw [HE.out]
    generalize l ++ textL s = l1 at hT HL ⊢
    clear h hb1 HE hv hlen
    go_enter Tryz.func108, Tryz.ntmps108
    go_wp2_with (go_at_call 48; rw [← hW]; clear hW; refine hT.mono ?_; rintro e w1 ⟨rfl, hw, BW⟩; replace B1 := B1.trans BW; replace k1 := BW.at k1 (by omega); obtain ⟨p0, p1⟩ := two k1)
    exact bodyPost_end (v := .tuple #[]) (by simp [results, Tryz.results108, go_sem]) rfl ⟨rfl, hw, B1⟩

end Go.Proofs.YtecnbenlmbppbaaGreat.Sw
