/-
  Contracts of the program's MatchBits.
-/
import Derived.Test.YtbplpfcplpoeiaaMp
import Derived.Test.YtbplpfcplpoeiaaMr
namespace Go.Proofs.Ytbplpfcplpoeiaa.Mv
open Go Go.RowKit
open Num Pl Hr Hh Hf Hg Pa Pm Po Pq Mi Bw Mo Mp Mj
set_option linter.unusedSimpArgs false
set_option linter.unusedVariables false

/-- A store of one pair into the pairs, at the head of a list of operations. -/
theorem store64 {ops : Array Oper} {rest : List Oper} {o : Oper} {a : Act} {w : World} {Q : Exit → Act → World → Prop} (hgd : o.guard = none) (x y : Operand) (ho : o.op = .store 64 x y)
    {g k : Nat} (hx : a.eval x = .pointer (some ⟨g, k * 2, none⟩)) {p q : Int} (hy : a.eval y = .agg #[.int .i64 p, .int .i64 q]) {v m : Nat → Int} (h : Has w g v m) (hk8 : k < 8)
    (hk : ∀ w', Has w' g (upd v k p) (upd m k q) → Same g w w' → wpList Try.prog ops Q rest (a.put o.dst undef) w') : wpList Try.prog ops Q (o :: rest) a w := by
  refine wpList_store_mid hgd 64 x y ho g (k * 2) _ hx hy ?_ (by kernel_rfl) (by simp [Value.oneCell']) ?_
  · intro j hj
    have hj2 : j < 2 := hj
    rw [cell_of_row w g _ _ _ _ h, enc_at _ _ (by omega)]
    exact ⟨rfl, h.free _⟩
  · refine hk _ ((h.set_v hk8 p).set_m hk8 q) ⟨rfl, rfl, rfl, ?_, fun j hj => ?_⟩
    · show ((w.setCell ⟨g, k * 2, none⟩ (.int .i64 p)).setCell ⟨g, k * 2 + 1, none⟩ (.int .i64 q)).heap.size = _
      simp
    · exact blk_set (blk_set rfl hj) hj

/-- What is asked is right. -/
def bitsB (f v n : Int) : Bool := fits f v && decide (0 ≤ n ∧ n ≤ fb f)

set_option maxHeartbeats 1000000 in
theorem bits_no (f v n : Int) (w : World) (h : bitsB f v n = false) : Calls Try.prog 23 #[.int .i64 f, .int .i64 v, .int .i64 n] w (ResMB w false [] []) := by
  have B := below_alloc1 w (.cells #[.slice none 0 0, .slice none 0 0] 25)
  have k0 : (w.alloc (.cells #[.slice none 0 0, .slice none 0 0] 25)).heap[w.heap.size]? = some (.cells #[.slice none 0 0, .slice none 0 0] 25 (0, 0)) := at_new rfl
  have hf := implFits_any f v (w.alloc (.cells #[.slice none 0 0, .slice none 0 0] 25))
  have hb := implBits_any f (w.alloc (.cells #[.slice none 0 0, .slice none 0 0] 25))
  obtain ⟨r0, r1⟩ := two k0
  cases hx : fits f v with
  | false =>
    rw [hx] at hf
    clear h hb k0
    go_enter Try.func23, Try.ntmps23
    go_wp2_with (go_at_call 61; refine hf.mono ?_; rintro e wq ⟨rfl, hwq⟩; replace hwq := hwq.symm; subst hwq)
    refine bodyPost_ret (v := .tuple #[.agg #[.slice none 0 0, .slice none 0 0], .bool false]) (by simp [results, Try.results23, go_sem, r0, r1]) rfl (resMB_none B)
  | true =>
    rw [hx] at hf
    unfold bitsB at h
    rw [hx] at h
    by_cases hn : n < 0
    · clear h hb k0
      go_enter Try.func23, Try.ntmps23
      go_wp2_with (go_at_call 61; refine hf.mono ?_; rintro e wq ⟨rfl, hwq⟩; replace hwq := hwq.symm; subst hwq)
      refine bodyPost_ret (v := .tuple #[.agg #[.slice none 0 0, .slice none 0 0], .bool false]) (by simp [results, Try.results23, go_sem, r0, r1]) rfl (resMB_none B)
    · have hg : fb f < n := by simp at h; omega
      generalize fb f = q at *
      clear h k0
      go_enter Try.func23, Try.ntmps23
      go_wp2_with (first | (go_at_call 61; refine hf.mono ?_; rintro e wq ⟨rfl, hwq⟩; replace hwq := hwq.symm; subst hwq) | (go_at_call 62; refine hb.mono ?_; rintro e wq ⟨rfl, hwq⟩; replace hwq := hwq.symm; subst hwq))
      refine bodyPost_ret (v := .tuple #[.agg #[.slice none 0 0, .slice none 0 0], .bool false]) (by simp [results, Try.results23, go_sem, r0, r1]) rfl (resMB_none B)

set_option maxHeartbeats 2000000 in
theorem bits_yes (f n : Nat) (v : Int) (w : World) (hf8 : f < 8) (hx : fits f v = true) (hn : n ≤ fbN f) :
    Calls Try.prog 23 #[.int .i64 f, .int .i64 v, .int .i64 n] w (ResMB w true (lst (upd nul f (bits .and .i64 v (topI f n)))) (lst (upd nul f (topI f n)))) := by
  obtain ⟨W0, hW0⟩ : ∃ W0, W0 = w.alloc (.cells #[.slice none 0 0, .slice none 0 0] 25) := ⟨_, rfl⟩
  have B : Below w.heap.size w W0 := by subst hW0; exact below_alloc1 _ _
  have k0 : W0.heap[w.heap.size]? = some (.cells #[.slice none 0 0, .slice none 0 0] 25 (0, 0)) := by subst hW0; exact at_new rfl
  have hf := implFits_any f v W0
  have hb := implBits_any f W0
  rw [hx] at hf
  rw [fbN_eq] at hb
  have HF : Hid (Calls Try.prog 61 #[.int .i64 f, .int .i64 v] W0 fun e w' => e = .returned (.bool true) ∧ w' = W0) := hf
  have HB : Hid (Calls Try.prog 62 #[.int .i64 f] W0 fun e w' => e = .returned (.int .i64 (fbN f : Int)) ∧ w' = W0) := hb
  have HT : Hid (∀ w, Calls Try.prog 63 #[.int .i64 f, .int .i64 n] w fun e w' => e = .returned (.int .i64 (topI f n)) ∧ Below w.heap.size w w') := (fun w => high_any f n hf8 hn w : ∀ w, Calls Try.prog 63 #[.int .i64 f, .int .i64 n] w fun e w' => e = .returned (.int .i64 (topI f n)) ∧ Below w.heap.size w w')
  have hnz : ¬ ((fbN f : Int) < (n : Int)) := by omega
  have hfz : (f : Int) < 8 := by omega
  clear hf hb hx hn
  generalize topI f n = T at *
  generalize fbN f = q at *
  go_enter Try.func23, Try.ntmps23
  go_wp2_with (first
    | (go_at_call 61; rw [← hW0]; clear hW0; refine HF.out.mono ?_; rintro e wq ⟨rfl, hwq⟩; replace hwq := hwq.symm; subst hwq)
    | (go_at_call 62; refine HB.out.mono ?_; rintro e wq ⟨rfl, hwq⟩; replace hwq := hwq.symm; subst hwq)
    | (go_at_call 63; refine (HT.out _).mono ?_; rintro e wz ⟨rfl, hb⟩; replace k0 := (hb.block _ (Array.getElem?_eq_some_iff.1 k0).1).trans k0; replace B := Rw.next B hb; clear hb)
    | (refine store64 (k := f) rfl _ _ rfl rfl rfl (has_zero rfl) hf8 (fun w1 hX hS => ?_); have z0 := (Array.getElem?_eq_some_iff.1 k0).1; replace k0 := (hS.block _ (Nat.ne_of_lt z0)).trans ((at_old z0).trans k0); replace B := hS.below (Rw.next B (below_alloc1 _ _)) B.size; clear hS z0)
    | (refine load66 rfl _ rfl rfl hX ?_)
    | (go_at_call 55; refine (match_any _ _ _).mono ?_; rintro e w6 ⟨aV, gV, cV, aM, gM, cM, rfl, hV, hM, l1, l2, l3, hb⟩; have z0 := (Array.getElem?_eq_some_iff.1 k0).1; have sB := B.size; replace k0 := (hb.block _ z0).trans k0; replace B := Rw.next B hb; obtain ⟨r0, r1⟩ := two k0; have fr := Bl.free k0; clear hb))
  refine bodyPost_ret (v := .tuple #[.agg #[.slice aV (lst _).length cV, .slice aM (lst _).length cM], .bool true]) (by simp [results, Try.results23, go_sem, r0, r1]) rfl ⟨aV, gV, cV, aM, gM, cM, rfl, ?_, ?_, by omega, by omega, l3, ?_⟩
  · exact wt_set2 (wt_set2 hV (by omega)) (by omega)
  · exact wt_set2 (wt_set2 hM (by omega)) (by omega)
  · exact bset (bset B (by omega)) (by omega)

end Go.Proofs.Ytbplpfcplpoeiaa.Mv
