/-
  CheckNames, by the program and by the specification.
-/
import Derived.Test.YtljlgjgfmgilaaaGreatNj
import Derived.Test.YtljlgjgfmgilaaaGreatNk2

import Derived.Test.YtljlgjgfmgilaaaGreatPrh
namespace Go.Proofs.YtljlgjgfmgilaaaGreat.Nq
set_option maxRecDepth 8000
set_option linter.unusedSimpArgs false
set_option linter.unusedVariables false
open Go Go.ChangeShapes Go.WideShapes Go.RowKit
open Num Pl Pm
open Nb (Mem)

theorem below_low {n g : Nat} {a u v : World} (h : Below n a u) (hd : Below g u v) (hn : n ≤ g) : Below n a v := h.trans ⟨hd.os, hd.tape, hd.output, hd.size, fun i hi => hd.block i (by omega)⟩
theorem lit_kind {l : LtL} (h : litB l = true) : 1 ≤ l.1 ∧ l.1 ≤ 3 := by
  unfold litB at h
  by_cases h3 : l.1 = 3
  · omega
  · rw [if_neg h3] at h
    simp only [Bool.and_eq_true, decide_eq_true_eq] at h
    omega
theorem rule_len {r : Rm} (h : ruleB r.l = true) : r.B.Q.length ≤ 8 := by
  have h' : (decide (1 ≤ r.k ∧ r.k ≤ 3) && (atomB r.h.l && (decide ((told kdLm r.B.Q).length ≤ 8) && (told kdLm r.B.Q).all litB))) = true := h
  simp only [Bool.and_eq_true, decide_eq_true_eq, told_len] at h'
  exact h'.2.2.1
theorem rule_kinds {r : Rm} (h : ruleB r.l = true) : ∀ i, i < r.B.Q.length → 1 ≤ (r.B.Q.getD i lm0).k ∧ (r.B.Q.getD i lm0).k ≤ 3 := fun i hi => by
  have h' : (decide (1 ≤ r.k ∧ r.k ≤ 3) && (atomB r.h.l && (decide ((told kdLm r.B.Q).length ≤ 8) && (told kdLm r.B.Q).all litB))) = true := h
  simp only [Bool.and_eq_true] at h'
  have e : (told kdLm r.B.Q).getD i lt0 = kdLm.l (r.B.Q.getD i lm0) := told_get _ _
  have e2 : (told kdLm r.B.Q).getD i lt0 = (told kdLm r.B.Q)[i]'(by rw [told_len]; exact hi) := by simp [List.getD, told_len, hi]
  have := List.all_eq_true.1 h'.2.2.2 _ (List.getElem_mem (by rw [told_len]; exact hi))
  rw [← e2, e] at this
  exact lit_kind this
theorem rule_get (x : Pg) (i : Nat) : x.l.2.getD i rl0 = (x.R.Q.getD i rm0).l := told_at (K := kdRm) x.R.Q i
/-- What both functions answer, told step by step. -/
structure Ans (x : Pg) (A : Nat × Nat) : Prop where
  dup : ∀ i, i < x.D.Q.length → (∀ j, j < i → taken x.D.Q j = false) → taken x.D.Q i = true → A = (2, i)
  rule : (∀ j, j < x.D.Q.length → taken x.D.Q j = false) → ∀ i, i < x.R.Q.length → (∀ j, j < i → codeR x.D.Q (x.R.Q.getD j rm0).l = 0) → codeR x.D.Q (x.R.Q.getD i rm0).l ≠ 0 → A = (codeR x.D.Q (x.R.Q.getD i rm0).l, i)
  ok : (∀ j, j < x.D.Q.length → taken x.D.Q j = false) → (∀ j, j < x.R.Q.length → codeR x.D.Q (x.R.Q.getD j rm0).l = 0) → A = (0, 0)
theorem ans_of {x : Pg} (h : progB x.l = true) : Ans x (chk x.l) := by
  have hl : x.l.2.length = x.R.Q.length := told_len (K := kdRm) _
  refine ⟨fun i hi hb ht => chk_taken h hi ht hb, fun hd i hi hb ht => ?_, fun hd hb => chk_ok h hd fun j hj => ?_⟩
  · have := chk_rule h hd (i := i) (by rw [hl]; exact hi) (by rw [rule_get]; exact ht) (fun j hj => by rw [rule_get]; exact hb j hj)
    rw [rule_get] at this; exact this
  · rw [rule_get]; exact hb j (by rw [← hl]; exact hj)

set_option maxHeartbeats 8000000 in
theorem chkI_any (x : Pg) (w : World) (hx : x.Ok 0 w) : Calls Tryz.prog 8 #[.agg #[.slice x.D.a x.D.Q.length x.D.c, .slice x.R.a x.R.Q.length x.R.c]] w fun e w' => (∃ r : Nat × Nat, r = chk x.l ∧ e = .returned (.tuple #[.int .i64 r.1, .int .i64 r.2])) ∧ Below w.heap.size w w' := by
  obtain ⟨W1, hW1⟩ : ∃ W1, W1 = w.alloc (.cells #[.slice x.D.a x.D.Q.length x.D.c, .slice x.R.a x.R.Q.length x.R.c] 32) := ⟨_, rfl⟩
  have B : Below w.heap.size w W1 := by rw [hW1]; exact below_alloc1 _ _
  have k0 : W1.heap[w.heap.size]? = some (.cells #[.slice x.D.a x.D.Q.length x.D.c, .slice x.R.a x.R.Q.length x.R.c] 32 (0, 0)) := by rw [hW1]; exact at_new rfl
  obtain ⟨p0, p1⟩ := Pl.two k0
  have hP := progI_any x W1 (hx.below B)
  have HW : Hid (progB x.l = false → chk x.l = (1, 0)) := fun h => chk_wrong h
  have HA : Hid (progB x.l = true → Ans x (chk x.l)) := fun h => ans_of h
  have HD : Hid (progB x.l = true → x.D.Q.all declB = true ∧ x.D.Q.length ≤ 16 ∧ ∀ i, i < x.R.Q.length → ruleB (x.R.Q.getD i rm0).l = true) := fun h => ⟨prog_decl (p := x.l) h, (prog_len h).1, fun i hi => by rw [← rule_get]; exact prog_rule h (by show i < (told kdRm x.R.Q).length; rw [told_len]; exact hi)⟩
  generalize chk x.l = A at HW HA ⊢
  generalize progB x.l = P at hP HW HA HD
  have HX : Hid (x.Ok 0 w) := hx
  clear hx
  cases P with
  | false =>
    have HE : Hid ((1, 0) = A) := (HW.out rfl).symm
    clear HW HA HD
    go_enter Tryz.func8, Tryz.ntmps8
    go_wp2_with (go_at_call 22; rw [← hW1]; clear hW1; refine hP.mono ?_; rintro e w2 ⟨rfl, hb⟩; replace B := Rw.next B hb)
    refine bodyPost_ret (v := .tuple #[.int .i64 (1 : Nat), .int .i64 (0 : Nat)]) (by simp [results, Tryz.results8, go_sem]) rfl ?_
    exact ⟨⟨(1, 0), HE.out, rfl⟩, B⟩
  | true =>
    obtain ⟨HDc, HDl, HRl⟩ := HD.out rfl
    have HAN : Hid (Ans x A) := HA.out rfl
    have HDC : Hid (x.D.Q.all declB = true) := HDc
    have HRL : Hid (∀ i, i < x.R.Q.length → ruleB (x.R.Q.getD i rm0).l = true) := HRl
    have hDl : x.D.Q.length ≤ 16 := HDl
    clear HW HA HD HDc HRl HDl
    have hGv := given_any
    go_enter Tryz.func8, Tryz.ntmps8
    go_upto_region 4 with (first
      | (go_at_call 22; rw [← hW1]; clear hW1; refine hP.mono ?_; rintro e w2 ⟨rfl, hb⟩; replace k0 := (hb.block _ (Pl.blk_lt k0)).trans k0; replace B := Rw.next B hb; clear p0 p1 hb hP)
      | (go_at_call 23; refine (hGv _).mono ?_; rintro e w3 ⟨hb, rfl, hmu⟩; have HMU : Hid (MemU w3 w2.heap.size 2 given) := hmu; have hw2 := Pl.blk_lt k0; replace k0 := (hb.block _ (Pl.blk_lt k0)).trans k0; replace B := Rw.next B hb; clear hb hGv hmu; obtain ⟨p0, p1⟩ := Pl.two k0))
    obtain ⟨g, hg⟩ : ∃ g, g = w2.heap.size := ⟨_, rfl⟩
    rw [← hg] at HMU hw2 ⊢
    clear hg
    have hDe := declare_any x.D g w3 (HX.out.1.below B) (fun h0 => by have := HX.out.1.lt h0; omega) hDl HMU.out
    clear HMU
    go_upto_region 5 with (go_at_call 24; refine hDe.mono ?_; rintro e w4 ⟨hb, i, rfl, hno, hor⟩; have HNO : Hid (∀ j, j < i → taken x.D.Q j = false) := hno; have HOR : Hid ((i < x.D.Q.length ∧ taken x.D.Q i = true) ∨ (i = x.D.Q.length ∧ Mem w4 g (full x.D.Q))) := hor; replace k0 := (hb.block _ hw2).trans k0; replace B := below_low B hb (by omega); clear p0 p1 hb hno hor hDe; obtain ⟨p0, p1⟩ := Pl.two k0)
    rcases HOR.out with ⟨hlt, htk⟩ | ⟨hie, hmm⟩
    · have HE : Hid ((2, i) = A) := (HAN.out.dup i hlt HNO.out htk).symm
      have hlz : (i : Int) < (x.D.Q.length : Int) := by omega
      clear HOR HNO HAN htk
      go_wp2
      refine bodyPost_ret (v := .tuple #[.int .i64 (2 : Nat), .int .i64 (i : Nat)]) (by simp [results, Tryz.results8, go_sem]) rfl ?_
      exact ⟨⟨(2, i), HE.out, rfl⟩, B⟩
    · have HNT : Hid (∀ j, j < x.D.Q.length → taken x.D.Q j = false) := fun j hj => HNO.out j (by omega)
      have HM : Hid (Mem w4 g (full x.D.Q)) := hmm
      have hlz : ¬ (i : Int) < (x.D.Q.length : Int) := by omega
      clear HOR HNO hmm hie
      obtain ⟨w5, rfl⟩ : ∃ w5, w5 = w4 := ⟨_, rfl⟩
      have hR : Rd kdRm 0 w5 x.R := HX.out.2.below B
      obtain ⟨n, hn⟩ : ∃ n, n = x.R.Q.length := ⟨_, rfl⟩
      have HN : Hid (n = x.R.Q.length) := hn
      have hnm : n ≤ maxLen := by rw [hn]; exact HX.out.2.len
      unfold maxLen at hnm
      rw [← hn] at p1 k0 ⊢
      clear hn
      obtain ⟨ra, hra⟩ : ∃ ra, ra = x.R.a := ⟨_, rfl⟩
      have HRA : Hid (ra = x.R.a) := hra
      rw [← hra] at p1 k0 ⊢
      clear hra
      go_wp2
      go_loopw [26] (fun i wr => ∃ k : Nat, k ≤ n ∧ i = .int .i64 k ∧ Below w5.heap.size w5 wr ∧ ∀ j, j < k → codeR x.D.Q (x.R.Q.getD j rm0).l = 0) (fun i _ => n - (intOf i).toNat)
      case atStart => exact ⟨0, Nat.zero_le _, rfl, Below.refl _ _, fun j hj => by omega⟩
      case round =>
        obtain ⟨k, hk, rfl, D, hpre⟩ := hrel
        have HP : Hid (∀ j, j < k → codeR x.D.Q (x.R.Q.getD j rm0).l = 0) := hpre
        clear hpre
        by_cases hlt : k < n
        · have hh : ra = some ⟨x.R.b, x.R.o, none⟩ := HRA.out.trans (hR.head (by have := HN.out; omega))
          subst hh
          have hkz : (k : Int) < (n : Int) := by omega
          obtain ⟨c0, c1, c2, c3⟩ := cellsRm (hR.below D) (i := k) (by have := HN.out; omega)
          have hok := (hR.below D).ok k (by have := HN.out; omega)
          have hru := HRL.out k (by have := HN.out; omega)
          obtain ⟨r, hr⟩ : ∃ r, r = x.R.Q.getD k rm0 := ⟨_, rfl⟩
          have hok2 : r.Ok 0 wr := by rw [hr]; exact hok
          rw [← hr] at hru c0 c1 c2 c3
          have HRU : Hid (codeR x.D.Q r.l ≠ 0 → A = (codeR x.D.Q r.l, k)) := fun h => by
            rw [hr] at h ⊢; exact HAN.out.rule HNT.out k (by have := HN.out; omega) HP.out h
          have HST : Hid (codeR x.D.Q r.l = 0 → ∀ j, j < k + 1 → codeR x.D.Q (x.R.Q.getD j rm0).l = 0) := fun h j hj => by
            by_cases e : j = k
            · subst e; rw [← hr]; exact h
            · exact HP.out j (by omega)
          have hC : ∀ W, r.Ok 0 W → Mem W g (full x.D.Q) → Calls Tryz.prog 25 #[.map (some g), .agg #[.int .i64 r.k, .string r.h.s, .slice r.h.A.a r.h.A.Q.length r.h.A.c, .slice r.B.a r.B.Q.length r.B.c]] W fun e w' => e = .returned (.int .i64 (codeR x.D.Q r.l : Nat)) ∧ Below W.heap.size W w' := fun W h h' => by
            rw [← code_same HDC.out HNT.out hru]; exact codeI_any r g _ W h h' (rule_len hru)
          generalize codeR x.D.Q r.l = V at HRU HST hC
          have b2 := below_alloc1 wr (.cells #[.int .i64 r.k, .string r.h.s, .slice r.h.A.a r.h.A.Q.length r.h.A.c, .slice r.B.a r.B.Q.length r.B.c] 55)
          have hok3 : r.Ok 0 (wr.alloc (.cells #[.int .i64 r.k, .string r.h.s, .slice r.h.A.a r.h.A.Q.length r.h.A.c, .slice r.B.a r.B.Q.length r.B.c] 55)) := ⟨hok2.1.below b2, hok2.2.below b2⟩
          have D2 := Rw.next D b2
          have HM2 : Hid (Mem (wr.alloc (.cells #[.int .i64 r.k, .string r.h.s, .slice r.h.A.a r.h.A.Q.length r.h.A.c, .slice r.B.a r.B.Q.length r.B.c] 55)) g (full x.D.Q)) := (HM.out.below D).below b2
          have hCC := hC _ hok3 HM2.out
          clear hR hok hok2 hok3 hr hru HP hC
          by_cases hv : V = 0
          · subst hv
            have HS2 : Hid (∀ j, j < k + 1 → codeR x.D.Q (x.R.Q.getD j rm0).l = 0) := HST.out rfl
            clear HRU HST
            go_wp2_with (go_at_call 25; refine hCC.mono ?_; rintro e w7 ⟨rfl, hb⟩; replace D2 := Rw.next D2 hb)
            go_roundw
            case rel => first | ((repeat apply Exists.intro); exact ⟨⟨k + 1, by omega, by go_num, D2, HS2.out⟩, rfl⟩) | exact ⟨k + 1, by omega, by go_num, D2, HS2.out⟩
            case measure => simp [intOf]; omega
          · have HE : Hid ((V, k) = A) := (HRU.out hv).symm
            have hvz : ¬ (V : Int) = 0 := by omega
            clear HRU HST
            go_wp2_with (go_at_call 25; refine hCC.mono ?_; rintro e w7 ⟨rfl, hb⟩; replace D2 := Rw.next D2 hb)
            refine bodyPost_ret (v := .tuple #[.int .i64 (V : Nat), .int .i64 (k : Nat)]) (by simp [results, Tryz.results8, go_sem]) rfl ?_
            exact ⟨⟨(V, k), HE.out, rfl⟩, Rw.next B D2⟩
        · have he : k = n := by omega
          have HE : Hid ((0, 0) = A) := (HAN.out.ok HNT.out (fun j hj => HP.out j (by have := HN.out; omega))).symm
          subst he
          clear hR HP
          go_wp2
          refine bodyPost_ret (v := .tuple #[.int .i64 (0 : Nat), .int .i64 (0 : Nat)]) (by simp [results, Tryz.results8, go_sem]) rfl ?_
          exact ⟨⟨(0, 0), HE.out, rfl⟩, Rw.next B D⟩

end Go.Proofs.YtljlgjgfmgilaaaGreat.Nq
