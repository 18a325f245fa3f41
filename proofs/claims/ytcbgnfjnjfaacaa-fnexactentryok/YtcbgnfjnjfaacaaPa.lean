/-
  Eight pairs of integers as an array's sixteen cells.
-/
import Derived.Test.YtcbgnfjnjfaacaaHh
import Derived.Laws.Rows
import Derived.Laws.Tables
import Derived.Deep.WholeRow
namespace Go.Proofs.Ytcbgnfjnjfaacaa.Pa
set_option maxRecDepth 8000
open Go Go.RowKit
open Num Pl Hr Hh

/-- The cells of eight pairs: a value and a mask each. -/
def enc (v m : Nat → Int) : Array Value := Array.ofFn (n := 16) fun i => .int .i64 (if i.1 % 2 = 0 then v (i.1 / 2) else m (i.1 / 2))
theorem enc_size (v m : Nat → Int) : (enc v m).size = 16 := by simp [enc]
theorem enc_at (v m : Nat → Int) {i : Nat} (h : i < 16) : (enc v m)[i]? = some (.int .i64 (if i % 2 = 0 then v (i / 2) else m (i / 2))) := by
  simp [enc, h]
theorem enc_v (v m : Nat → Int) {k : Nat} (h : k < 8) : (enc v m)[k * 2]? = some (.int .i64 (v k)) := by
  rw [enc_at v m (by omega), if_pos (by omega), Nat.mul_div_cancel _ (by decide)]
theorem enc_m (v m : Nat → Int) {k : Nat} (h : k < 8) : (enc v m)[k * 2 + 1]? = some (.int .i64 (m k)) := by
  rw [enc_at v m (by omega), if_neg (by omega)]
  congr 3
  omega
/-- One place becomes x. -/
def upd (v : Nat → Int) (k : Nat) (x : Int) : Nat → Int := fun i => if i = k then x else v i
theorem enc_set_v (v m : Nat → Int) {k : Nat} (h : k < 8) (x : Int) : (enc v m).setIfInBounds (k * 2) (.int .i64 x) = enc (upd v k x) m := by
  apply Array.ext_getElem?
  intro i
  rw [Array.getElem?_setIfInBounds, enc_size]
  by_cases hi : i < 16
  · rw [enc_at _ _ hi, enc_at _ _ hi]
    by_cases e : k * 2 = i
    · subst e
      rw [if_pos rfl, if_pos hi, if_pos (by omega), Nat.mul_div_cancel _ (by decide)]
      simp [upd]
    · rw [if_neg e]
      by_cases p : i % 2 = 0
      · rw [if_pos p, if_pos p]
        have : ¬ i / 2 = k := by omega
        simp [upd, this]
      · rw [if_neg p, if_neg p]
  · have e : ¬ k * 2 = i := by omega
    rw [if_neg e, Array.getElem?_eq_none (by rw [enc_size]; omega), Array.getElem?_eq_none (by rw [enc_size]; omega)]
theorem enc_set_m (v m : Nat → Int) {k : Nat} (h : k < 8) (x : Int) : (enc v m).setIfInBounds (k * 2 + 1) (.int .i64 x) = enc v (upd m k x) := by
  apply Array.ext_getElem?
  intro i
  rw [Array.getElem?_setIfInBounds, enc_size]
  by_cases hi : i < 16
  · rw [enc_at _ _ hi, enc_at _ _ hi]
    by_cases e : k * 2 + 1 = i
    · subst e
      rw [if_pos rfl, if_pos hi, if_neg (by omega)]
      have : (k * 2 + 1) / 2 = k := by omega
      simp [upd, this]
    · rw [if_neg e]
      by_cases p : i % 2 = 0
      · rw [if_pos p, if_pos p]
      · rw [if_neg p, if_neg p]
        have : ¬ i / 2 = k := by omega
        simp [upd, this]
  · have e : ¬ k * 2 + 1 = i := by omega
    rw [if_neg e, Array.getElem?_eq_none (by rw [enc_size]; omega), Array.getElem?_eq_none (by rw [enc_size]; omega)]
theorem enc_congr {v m v' m' : Nat → Int} (hv : ∀ k, k < 8 → v k = v' k) (hm : ∀ k, k < 8 → m k = m' k) : enc v m = enc v' m' := by
  apply Array.ext_getElem?
  intro i
  by_cases hi : i < 16
  · rw [enc_at _ _ hi, enc_at _ _ hi]
    rw [hv _ (by omega), hm _ (by omega)]
  · rw [Array.getElem?_eq_none (by rw [enc_size]; omega), Array.getElem?_eq_none (by rw [enc_size]; omega)]
theorem enc_one (v m : Nat → Int) : (enc v m).all (·.oneCell') = true := by
  rw [Array.all_eq_true_iff_forall_mem]
  intro x hx
  obtain ⟨i, hi, rfl⟩ := Array.mem_iff_getElem.1 hx
  simp [enc, Value.oneCell']
theorem info66 : (Try.prog.info? 97).map (·.size) = some 16 := by kernel_rfl
theorem info66' (v m : Nat → Int) : (Try.prog.info? 97).map (·.size) = some (enc v m).size := by rw [enc_size]; exact info66

/-- Nothing asked. -/
def nul : Nat → Int := fun _ => 0
theorem enc_nul : enc nul nul = #[.int .i64 0, .int .i64 0, .int .i64 0, .int .i64 0, .int .i64 0, .int .i64 0, .int .i64 0, .int .i64 0, .int .i64 0, .int .i64 0, .int .i64 0, .int .i64 0, .int .i64 0, .int .i64 0, .int .i64 0, .int .i64 0] := by
  kernel_rfl

/-- The block g holds the pairs. -/
def Has (w : World) (g : Nat) (v m : Nat → Int) : Prop := w.heap[g]? = some (.cells (enc v m) 97 (0, 0))
theorem Has.lt {w : World} {g : Nat} {v m : Nat → Int} (h : Has w g v m) : g < w.heap.size := (Array.getElem?_eq_some_iff.1 h).1
theorem Has.below {w w' : World} {g : Nat} {v m : Nat → Int} (h : Has w g v m) (hb : Below w.heap.size w w') : Has w' g v m := (hb.block g h.lt).trans h
theorem Has.v {w : World} {g : Nat} {v m : Nat → Int} (h : Has w g v m) {k : Nat} (hk : k < 8) : w.cell? ⟨g, k * 2, none⟩ = some (.int .i64 (v k)) := by
  rw [cell_of_row w g _ _ _ _ h, enc_v _ _ hk]
theorem Has.m {w : World} {g : Nat} {v m : Nat → Int} (h : Has w g v m) {k : Nat} (hk : k < 8) : w.cell? ⟨g, k * 2 + 1, none⟩ = some (.int .i64 (m k)) := by
  rw [cell_of_row w g _ _ _ _ h, enc_m _ _ hk]
theorem Has.free {w : World} {g : Nat} {v m : Nat → Int} (h : Has w g v m) (i : Nat) : w.frozen? ⟨g, i, none⟩ = false := Bl.free h i
theorem load_has {w : World} {g : Nat} {v m : Nat → Int} (h : Has w g v m) : (loadVar 97 ⟨g, 0, none⟩).run Try.prog w = .ok (.agg (enc v m)) w :=
  run_loadVar_row w g 97 97 _ (0, 0) _ h Try.underlying97 rfl (info66' v m)

/-- A load of all the pairs, at the head of a list of operations. -/
theorem load66 {ops : Array Oper} {rest : List Oper} {o : Oper} {a : Act} {w : World} {Q : Exit → Act → World → Prop} (hgd : o.guard = none) (x : Operand) (ho : o.op = .load 97 x)
    {g : Nat} (hx : a.eval x = .pointer (some ⟨g, 0, none⟩)) {v m : Nat → Int} (h : Has w g v m)
    (hk : wpList Try.prog ops Q rest (a.put o.dst (.agg (enc v m))) w) : wpList Try.prog ops Q (o :: rest) a w :=
  wpList_load_row hgd 97 x ho g hx 97 _ (0, 0) _ h Try.underlying97 rfl (info66' v m) hk
/-- All but block g is as it was. -/
structure Same (g : Nat) (w w' : World) : Prop where
  os : w'.os = w.os
  tape : w'.tape = w.tape
  output : w'.output = w.output
  size : w'.heap.size = w.heap.size
  block : ∀ k, k ≠ g → w'.heap[k]? = w.heap[k]?
theorem Same.has {g b : Nat} {w w' : World} {v m : Nat → Int} (h : Same g w w') (hh : Has w b v m) (hne : b ≠ g) : Has w' b v m := (h.block b hne).trans hh
theorem Same.below {g : Nat} {w0 w w' : World} {B : Nat} (h : Same g w w') (hb : Below B w0 w) (hg : B ≤ g) : Below B w0 w' :=
  hb.trans ⟨h.os, h.tape, h.output, Nat.le_of_eq h.size.symm, fun k hk => h.block k (by omega)⟩
theorem same_setRow (w : World) (g : Nat) (c : Array Value) : Same g w (w.setRow g c) := by
  refine ⟨rfl, rfl, rfl, by simp [World.setRow], fun k hk => ?_⟩
  simp only [World.setRow]
  rw [Array.getElem?_modify, if_neg (fun e => hk e.symm)]
theorem has_setRow {w : World} {g : Nat} {v m v' m' : Nat → Int} (h : Has w g v m) : Has (w.setRow g (enc v' m')) g v' m' := by
  unfold Has at *
  simp only [World.setRow]
  rw [Array.getElem?_modify, if_pos rfl, h]
  rfl
/-- A store of all the pairs. -/
theorem store66 {ops : Array Oper} {rest : List Oper} {o : Oper} {a : Act} {w : World} {Q : Exit → Act → World → Prop} (hgd : o.guard = none) (x y : Operand) (ho : o.op = .store 97 x y)
    {g : Nat} (hx : a.eval x = .pointer (some ⟨g, 0, none⟩)) {v m : Nat → Int} (hy : a.eval y = .agg (enc v m)) {v0 m0 : Nat → Int} (h : Has w g v0 m0)
    (hk : ∀ w', Has w' g v m → Same g w w' → wpList Try.prog ops Q rest (a.put o.dst undef) w') : wpList Try.prog ops Q (o :: rest) a w :=
  wpList_plain hgd fun _ hK => wp_store_row 97 x y ho g _ hx hy 97 _ h (info66' v m) (by rw [enc_size, enc_size]) (enc_one v m) (hK _ _ (hk _ (has_setRow h) (same_setRow w g _)))

/-- The first k places are new. -/
def cut (new old : Nat → Int) (k : Nat) : Nat → Int := fun i => if i < k then new i else old i
theorem cut_at (new old : Nat → Int) (k : Nat) : cut new old k k = old k := by simp [cut]
theorem upd_cut (new old : Nat → Int) (k : Nat) : upd (cut new old k) k (new k) = cut new old (k + 1) := by
  funext i
  unfold upd cut
  by_cases e : i = k
  · subst e; simp
  · have : (i < k + 1) = (i < k) := by rw [eq_iff_iff]; omega
    simp [e, this]
theorem Has.set_v {w : World} {g : Nat} {v m : Nat → Int} (h : Has w g v m) {k : Nat} (hk : k < 8) (x : Int) : Has (w.setCell ⟨g, k * 2, none⟩ (.int .i64 x)) g (upd v k x) m := by
  unfold Has at *
  simp [World.setCell, Array.getElem?_modify, h, enc_set_v v m hk]
theorem Has.set_m {w : World} {g : Nat} {v m : Nat → Int} (h : Has w g v m) {k : Nat} (hk : k < 8) (x : Int) : Has (w.setCell ⟨g, k * 2 + 1, none⟩ (.int .i64 x)) g v (upd m k x) := by
  unfold Has at *
  simp [World.setCell, Array.getElem?_modify, h, enc_set_m v m hk]
theorem Has.set_other {w : World} {g : Nat} {v m : Nat → Int} (h : Has w g v m) {a : Addr} (ha : g ≠ a.block) (x : Value) : Has (w.setCell a x) g v m := (Below.heap_setCell w a x g (fun e => ha e)).trans h
theorem Has.drew {w : World} {g : Nat} {v m : Nat → Int} (h : Has w g v m) : Has w.drew g v m := h
theorem Has.cast {w : World} {g : Nat} {v m v' m' : Nat → Int} (h : Has w g v m) (hv : v = v') (hm : m = m') : Has w g v' m' := by subst hv; subst hm; exact h
theorem index_any {v m : Nat → Int} {k : Nat} (hk : k < 8) (w : World) : (Instr.index 97 (.agg (enc v m)) (.int .i64 k)).run Try.prog w = .ok (.agg #[.int .i64 (v k), .int .i64 (m k)]) w := by
  have hk8 : k = 0 ∨ k = 1 ∨ k = 2 ∨ k = 3 ∨ k = 4 ∨ k = 5 ∨ k = 6 ∨ k = 7 := by omega
  have i0 : (Instr.index 97 (.agg (enc v m)) (.int .i64 ((0 : Nat) : Int))).run Try.prog w = .ok (.agg #[.int .i64 (v 0), .int .i64 (m 0)]) w := by kernel_rfl
  have i1 : (Instr.index 97 (.agg (enc v m)) (.int .i64 ((1 : Nat) : Int))).run Try.prog w = .ok (.agg #[.int .i64 (v 1), .int .i64 (m 1)]) w := by kernel_rfl
  have i2 : (Instr.index 97 (.agg (enc v m)) (.int .i64 ((2 : Nat) : Int))).run Try.prog w = .ok (.agg #[.int .i64 (v 2), .int .i64 (m 2)]) w := by kernel_rfl
  have i3 : (Instr.index 97 (.agg (enc v m)) (.int .i64 ((3 : Nat) : Int))).run Try.prog w = .ok (.agg #[.int .i64 (v 3), .int .i64 (m 3)]) w := by kernel_rfl
  have i4 : (Instr.index 97 (.agg (enc v m)) (.int .i64 ((4 : Nat) : Int))).run Try.prog w = .ok (.agg #[.int .i64 (v 4), .int .i64 (m 4)]) w := by kernel_rfl
  have i5 : (Instr.index 97 (.agg (enc v m)) (.int .i64 ((5 : Nat) : Int))).run Try.prog w = .ok (.agg #[.int .i64 (v 5), .int .i64 (m 5)]) w := by kernel_rfl
  have i6 : (Instr.index 97 (.agg (enc v m)) (.int .i64 ((6 : Nat) : Int))).run Try.prog w = .ok (.agg #[.int .i64 (v 6), .int .i64 (m 6)]) w := by kernel_rfl
  have i7 : (Instr.index 97 (.agg (enc v m)) (.int .i64 ((7 : Nat) : Int))).run Try.prog w = .ok (.agg #[.int .i64 (v 7), .int .i64 (m 7)]) w := by kernel_rfl
  rcases hk8 with rfl | rfl | rfl | rfl | rfl | rfl | rfl | rfl
  · exact i0
  · exact i1
  · exact i2
  · exact i3
  · exact i4
  · exact i5
  · exact i6
  · exact i7
theorem has_zero {w : World} {g : Nat} (hg : g = w.heap.size) : Has (w.alloc (Obj.cells #[.int .i64 0, .int .i64 0, .int .i64 0, .int .i64 0, .int .i64 0, .int .i64 0, .int .i64 0, .int .i64 0, .int .i64 0, .int .i64 0, .int .i64 0, .int .i64 0, .int .i64 0, .int .i64 0, .int .i64 0, .int .i64 0] 97)) g nul nul := by
  unfold Has; rw [at_new hg, enc_nul]
theorem has_new {w : World} {g : Nat} {v m : Nat → Int} (hg : g = w.heap.size) : Has (w.alloc (Obj.cells (enc v m) 97)) g v m := at_new hg
theorem has_old {w : World} {g : Nat} {v m : Nat → Int} {o : Obj} (h : Has w g v m) : Has (w.alloc o) g v m := by
  unfold Has; rw [at_old h.lt]; exact h

set_option maxHeartbeats 1000000 in
theorem under_any (v m v' m' : Nat → Int) (w : World) :
    Calls Try.prog 65 #[.agg (enc v m), .agg (enc v' m')] w fun e w' => e = .returned (.agg (enc (fun k => bits .and .i64 (v k) (m' k)) (fun k => bits .and .i64 (m k) (m' k)))) ∧ Below w.heap.size w w' := by
  obtain ⟨nv, hnv⟩ : ∃ nv : Nat → Int, nv = fun k => bits .and .i64 (v k) (m' k) := ⟨_, rfl⟩
  obtain ⟨nm, hnm⟩ : ∃ nm : Nat → Int, nm = fun k => bits .and .i64 (m k) (m' k) := ⟨_, rfl⟩
  rw [← hnv, ← hnm]
  have HV : Hid (∀ k, bits .and .i64 (v k) (m' k) = nv k) := (fun k => by rw [hnv] : ∀ k, bits .and .i64 (v k) (m' k) = nv k)
  have HM : Hid (∀ k, bits .and .i64 (m k) (m' k) = nm k) := (fun k => by rw [hnm] : ∀ k, bits .and .i64 (m k) (m' k) = nm k)
  clear hnv hnm
  go_enter Try.func65, Try.ntmps65
  go_wp2_with (refine load66 rfl _ rfl rfl (has_old (has_new (by simp))) ?_)
  go_loopw [8] (fun i wr => ∃ k : Nat, k ≤ 8 ∧ i = .int .i64 k ∧ Below w.heap.size w wr ∧ Has wr w.heap.size (cut nv v k) (cut nm m k) ∧ Has wr (w.heap.size + 1 + 1) nul nul) (fun i _ => 8 - (intOf i).toNat)
  case atStart => exact ⟨0, Nat.zero_le _, rfl, Rw.next (Rw.next (below_alloc1 _ _) (below_alloc1 _ _)) (below_alloc1 _ _), has_old (has_old (has_new rfl)), has_zero (by simp)⟩
  case round =>
    obtain ⟨k, hk, rfl, hbel, hA, hR⟩ := hrel
    by_cases hlt : k < 8
    · have hkz : (k : Int) < 8 := by omega
      have hix := fun w => index_any (v := v') (m := m') hlt w
      have HA : Hid (Has wr w.heap.size (cut nv v k) (cut nm m k)) := hA
      have HR : Hid (Has wr (w.heap.size + 1 + 1) nul nul) := hR
      have c1 := hA.v hlt
      have c2 := hA.m hlt
      rw [cut_at] at c1 c2
      have f1 := hA.free (k * 2)
      have f2 := hA.free (k * 2 + 1)
      have lt0 := hA.lt
      have lt1 := hR.lt
      clear hA hR
      go_wp2
      go_region
      go_wp2
      go_region
      go_wp2
      go_roundw
      case rel =>
        rw [HV.out k, HM.out k]
        exact ⟨k + 1, by omega, by go_num, (((hbel.setCell (by simp) _).setCell (by simp) _).alloc (by simp <;> omega) _).drew.drew, (has_old (((HA.out.set_v hlt _).set_m hlt _).cast (upd_cut nv v k) (upd_cut nm m k))).drew.drew, (has_old ((HR.out.set_other (by simp; omega) _).set_other (by simp; omega) _)).drew.drew⟩
      case measure => simp [intOf]; omega
    · have he : k = 8 := by omega
      subst he
      have e8 : enc (cut nv v 8) (cut nm m 8) = enc nv nm := enc_congr (fun k hk => by simp [cut, hk]) (fun k hk => by simp [cut, hk])
      go_wp2_with (first | (refine load66 rfl _ rfl rfl hA ?_) | (refine store66 rfl _ _ rfl rfl rfl hR (fun w' hN hS => ?_)))
      rw [e8] at *
      refine bodyPost_ret (v := .agg (enc nv nm)) ?_ rfl ⟨rfl, hS.below hbel (by omega)⟩
      exact results_cell_row rfl _ _ _ 97 _ (0, 0) _ rfl hN Try.underlying97 rfl (info66' _ _)

set_option maxHeartbeats 1000000 in
theorem with_any (v m v' m' : Nat → Int) (w : World) :
    Calls Try.prog 69 #[.agg (enc v m), .agg (enc v' m')] w fun e w' => e = .returned (.agg (enc (fun k => bits .or .i64 (v k) (v' k)) (fun k => bits .or .i64 (m k) (m' k)))) ∧ Below w.heap.size w w' := by
  obtain ⟨nv, hnv⟩ : ∃ nv : Nat → Int, nv = fun k => bits .or .i64 (v k) (v' k) := ⟨_, rfl⟩
  obtain ⟨nm, hnm⟩ : ∃ nm : Nat → Int, nm = fun k => bits .or .i64 (m k) (m' k) := ⟨_, rfl⟩
  rw [← hnv, ← hnm]
  have HV : Hid (∀ k, bits .or .i64 (v k) (v' k) = nv k) := (fun k => by rw [hnv] : ∀ k, bits .or .i64 (v k) (v' k) = nv k)
  have HM : Hid (∀ k, bits .or .i64 (m k) (m' k) = nm k) := (fun k => by rw [hnm] : ∀ k, bits .or .i64 (m k) (m' k) = nm k)
  clear hnv hnm
  go_enter Try.func69, Try.ntmps69
  go_wp2_with (refine load66 rfl _ rfl rfl (has_old (has_new (by simp))) ?_)
  go_loopw [8] (fun i wr => ∃ k : Nat, k ≤ 8 ∧ i = .int .i64 k ∧ Below w.heap.size w wr ∧ Has wr w.heap.size (cut nv v k) (cut nm m k) ∧ Has wr (w.heap.size + 1 + 1) nul nul) (fun i _ => 8 - (intOf i).toNat)
  case atStart => exact ⟨0, Nat.zero_le _, rfl, Rw.next (Rw.next (below_alloc1 _ _) (below_alloc1 _ _)) (below_alloc1 _ _), has_old (has_old (has_new rfl)), has_zero (by simp)⟩
  case round =>
    obtain ⟨k, hk, rfl, hbel, hA, hR⟩ := hrel
    by_cases hlt : k < 8
    · have hkz : (k : Int) < 8 := by omega
      have hix := fun w => index_any (v := v') (m := m') hlt w
      have HA : Hid (Has wr w.heap.size (cut nv v k) (cut nm m k)) := hA
      have HR : Hid (Has wr (w.heap.size + 1 + 1) nul nul) := hR
      have c1 := hA.v hlt
      have c2 := hA.m hlt
      rw [cut_at] at c1 c2
      have f1 := hA.free (k * 2)
      have f2 := hA.free (k * 2 + 1)
      have lt0 := hA.lt
      have lt1 := hR.lt
      clear hA hR
      go_wp2
      go_region
      go_wp2
      go_region
      go_wp2
      go_roundw
      case rel =>
        rw [HV.out k, HM.out k]
        exact ⟨k + 1, by omega, by go_num, (((hbel.setCell (by simp) _).setCell (by simp) _).alloc (by simp <;> omega) _).drew.drew, (has_old (((HA.out.set_v hlt _).set_m hlt _).cast (upd_cut nv v k) (upd_cut nm m k))).drew.drew, (has_old ((HR.out.set_other (by simp; omega) _).set_other (by simp; omega) _)).drew.drew⟩
      case measure => simp [intOf]; omega
    · have he : k = 8 := by omega
      subst he
      have e8 : enc (cut nv v 8) (cut nm m 8) = enc nv nm := enc_congr (fun k hk => by simp [cut, hk]) (fun k hk => by simp [cut, hk])
      go_wp2_with (first | (refine load66 rfl _ rfl rfl hA ?_) | (refine store66 rfl _ _ rfl rfl rfl hR (fun w' hN hS => ?_)))
      rw [e8] at *
      refine bodyPost_ret (v := .agg (enc nv nm)) ?_ rfl ⟨rfl, hS.below hbel (by omega)⟩
      exact results_cell_row rfl _ _ _ 97 _ (0, 0) _ rfl hN Try.underlying97 rfl (info66' _ _)

end Go.Proofs.Ytcbgnfjnjfaacaa.Pa
