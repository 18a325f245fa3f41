/-
  CheckNames, by the program and by the specification.
-/
import Derived.Test.YtljlgjgfmgilaaaGreatNj
import Derived.Test.YtljlgjgfmgilaaaGreatNk2
import Derived.Test.YtljlgjgfmgilaaaGreatNg1
import Derived.Test.YtljlgjgfmgilaaaGreatNf
import Derived.Test.YtljlgjgfmgilaaaGreatPrh
namespace Go.Proofs.YtljlgjgfmgilaaaGreat.Nq
set_option maxRecDepth 8000
set_option linter.unusedSimpArgs false
set_option linter.unusedVariables false
open Go Go.ChangeShapes Go.WideShapes Go.RowKit
open Num Pl Pm
open Nb (Mem)


theorem taken_at (D : List Dc) {i k : Nat} (hk : k < i) (h : (D.getD k dc0).s = (D.getD i dc0).s) : taken D i = true := by
  unfold taken
  rw [show (List.range i).any (fun k => decide ((D.getD k dc0).s = (D.getD i dc0).s)) = true from List.any_eq_true.2 ⟨k, List.mem_range.2 hk, by simpa using h⟩]
  simp
theorem taken_given (D : List Dc) {i : Nat} (h : (D.getD i dc0).s = pk ∨ (D.getD i dc0).s = fw) : taken D i = true := by
  unfold taken
  rcases h with h | h
  · rw [decide_eq_true h]; rfl
  · rw [decide_eq_true h]; simp
theorem taken_no (D : List Dc) {i : Nat} (h1 : ¬ (D.getD i dc0).s = pk) (h2 : ¬ (D.getD i dc0).s = fw) (h : ∀ k, k < i → ¬ (D.getD k dc0).s = (D.getD i dc0).s) : taken D i = false := by
  unfold taken
  have : (List.range i).any (fun k => decide ((D.getD k dc0).s = (D.getD i dc0).s)) = false := by
    cases e : (List.range i).any (fun k => decide ((D.getD k dc0).s = (D.getD i dc0).s)) with
    | false => rfl
    | true =>
      obtain ⟨k, hk, hf⟩ := List.any_eq_true.1 e
      exact absurd (by simpa using hf) (h k (List.mem_range.1 hk))
  rw [this, decide_eq_false h1, decide_eq_false h2]; rfl
set_option maxHeartbeats 8000000 in
theorem chkS_any (x : Pg) (w : World) (hx : x.Ok 0 w) : Calls Tryz.prog 6 #[.agg #[.slice x.D.a x.D.Q.length x.D.c, .slice x.R.a x.R.Q.length x.R.c]] w fun e w' => (∃ r : Nat × Nat, r = chk x.l ∧ e = .returned (.tuple #[.int .i64 r.1, .int .i64 r.2])) ∧ Below w.heap.size w w' := by
  obtain ⟨W1, hW1⟩ : ∃ W1, W1 = w.alloc (.cells #[.slice x.D.a x.D.Q.length x.D.c, .slice x.R.a x.R.Q.length x.R.c] 32) := ⟨_, rfl⟩
  have B : Below w.heap.size w W1 := by rw [hW1]; exact below_alloc1 _ _
  have k0 : W1.heap[w.heap.size]? = some (.cells #[.slice x.D.a x.D.Q.length x.D.c, .slice x.R.a x.R.Q.length x.R.c] 32 (0, 0)) := by rw [hW1]; exact at_new rfl
  obtain ⟨p0, p1⟩ := Pl.two k0
  have hP := progS_any x W1 (hx.below B)
  have HW : Hid (progB x.l = false → chk x.l = (1, 0)) := fun h => chk_wrong h
  have HA : Hid (progB x.l = true → Ans x (chk x.l)) := fun h => ans_of h
  have HD : Hid (progB x.l = true → ∀ i, i < x.R.Q.length → ruleB (x.R.Q.getD i rm0).l = true) := fun h i hi => by rw [← rule_get]; exact prog_rule h (by show i < (told kdRm x.R.Q).length; rw [told_len]; exact hi)
  generalize chk x.l = A at HW HA ⊢
  generalize progB x.l = P at hP HW HA HD
  have HX : Hid (x.Ok 0 w) := hx
  clear hx
  cases P with
  | false =>
    have HE : Hid ((1, 0) = A) := (HW.out rfl).symm
    clear HW HA HD
    go_enter Tryz.func6, Tryz.ntmps6
    go_wp2_with (go_at_call 18; rw [← hW1]; clear hW1; refine hP.mono ?_; rintro e w2 ⟨rfl, hb⟩; replace B := Rw.next B hb)
    refine bodyPost_ret (v := .tuple #[.int .i64 (1 : Nat), .int .i64 (0 : Nat)]) (by simp [results, Tryz.results6, go_sem]) rfl ?_
    exact ⟨⟨(1, 0), HE.out, rfl⟩, B⟩
  | true =>
    have HRL : Hid (∀ i, i < x.R.Q.length → ruleB (x.R.Q.getD i rm0).l = true) := HD.out rfl
    have HAN : Hid (Ans x A) := HA.out rfl
    clear HW HA HD
    obtain ⟨m, hm⟩ : ∃ m, m = x.D.Q.length := ⟨_, rfl⟩
    have HMD : Hid (m = x.D.Q.length) := hm
    have hDm : m ≤ maxLen := by rw [hm]; exact HX.out.1.len
    unfold maxLen at hDm
    rw [← hm] at p0 k0 hP hW1 ⊢
    clear hm
    obtain ⟨da, hda⟩ : ∃ da, da = x.D.a := ⟨_, rfl⟩
    have HDA : Hid (da = x.D.a) := hda
    rw [← hda] at p0 k0 hP hW1 ⊢
    clear hda
    go_enter Tryz.func6, Tryz.ntmps6
    go_wp2_with (go_at_call 18; rw [← hW1]; clear hW1; refine hP.mono ?_; rintro e w2 ⟨rfl, hb⟩; replace k0 := (hb.block _ (Pl.blk_lt k0)).trans k0; replace B := Rw.next B hb; clear p0 p1 hb hP; obtain ⟨p0, p1⟩ := Pl.two k0)
    have hD : Rd kdDc 0 w2 x.D := HX.out.1.below B
    obtain ⟨n, hn⟩ : ∃ n, n = x.R.Q.length := ⟨_, rfl⟩
    have HN : Hid (n = x.R.Q.length) := hn
    have hnm : n ≤ maxLen := by rw [hn]; exact HX.out.2.len
    unfold maxLen at hnm
    rw [← hn] at p1 k0 ⊢
    clear hn
    obtain ⟨ra, hra⟩ : ∃ ra, ra = x.R.a := ⟨_, rfl⟩
    have HRA : Hid (ra = x.R.a) := hra
    rw [← hra] at p1 k0 ⊢
    clear hra
    go_loopw [15] (fun i wr => ∃ k : Nat, k ≤ m ∧ i = .int .i64 k ∧ wr = w2 ∧ ∀ j, j < k → taken x.D.Q j = false) (fun i _ => m - (intOf i).toNat)
    case atStart => exact ⟨0, Nat.zero_le _, rfl, rfl, fun j hj => by omega⟩
    case round =>
      obtain ⟨k, hk, rfl, hww, hpre⟩ := hrel
      have HP : Hid (∀ j, j < k → taken x.D.Q j = false) := hpre
      clear hpre
      subst hww
      obtain ⟨w3, rfl⟩ : ∃ w3, w3 = wr := ⟨_, rfl⟩
      by_cases hlt : k < m
      · have hh : da = some ⟨x.D.b, x.D.o, none⟩ := HDA.out.trans (hD.head (by have := HMD.out; omega))
        subst hh
        have hkz : (k : Int) < (m : Int) := by omega
        obtain ⟨c0, c1, c2⟩ := cellsDc hD (i := k) (by have := HMD.out; omega)
        obtain ⟨y, hy⟩ : ∃ y, y = (x.D.Q.getD k dc0).s := ⟨_, rfl⟩
        rw [← hy] at c1
        have HY : Hid (y = (x.D.Q.getD k dc0).s) := hy
        have HTK : Hid (taken x.D.Q k = true → (2, k) = A) := fun h => (HAN.out.dup k (by have := HMD.out; omega) HP.out h).symm
        clear hy
        by_cases h1 : y = pk
        · have HE : Hid ((2, k) = A) := HTK.out (taken_given _ (.inl (by rw [← HY.out]; exact h1)))
          have e1 := pk_t h1
          clear hD HP HAN HTK HY h1
          go_wp2
          refine bodyPost_ret (v := .tuple #[.int .i64 (2 : Nat), .int .i64 (k : Nat)]) (by simp [results, Tryz.results6, go_sem]) rfl ?_
          exact ⟨⟨(2, k), HE.out, rfl⟩, B⟩
        by_cases h2 : y = fw
        · have HE : Hid ((2, k) = A) := HTK.out (taken_given _ (.inr (by rw [← HY.out]; exact h2)))
          have e1 := pk_f h1
          have e2 := fw_t h2
          clear hD HP HAN HTK HY h1 h2
          go_wp2
          refine bodyPost_ret (v := .tuple #[.int .i64 (2 : Nat), .int .i64 (k : Nat)]) (by simp [results, Tryz.results6, go_sem]) rfl ?_
          exact ⟨⟨(2, k), HE.out, rfl⟩, B⟩
        have e1 := pk_f h1
        have e2 := fw_f h2
        have HN1 : Hid (¬ y = pk ∧ ¬ y = fw) := ⟨h1, h2⟩
        clear h1 h2
        go_wp2
        go_loopw [6] (fun i wr => ∃ t : Nat, t ≤ k ∧ i = .int .i64 t ∧ wr = w3 ∧ ∀ j, j < t → ¬ (x.D.Q.getD j dc0).s = y) (fun i _ => k - (intOf i).toNat)
        case atStart => exact ⟨0, Nat.zero_le _, rfl, rfl, fun j hj => by omega⟩
        case round =>
          obtain ⟨t, htk, rfl, hww, hpr2⟩ := hrel
          have HP2 : Hid (∀ j, j < t → ¬ (x.D.Q.getD j dc0).s = y) := hpr2
          clear hpr2 c0 c1 c2 e1 e2
          subst hww
          by_cases hlt2 : t < k
          · have htz : (t : Int) < (k : Int) := by omega
            have htm : t < m := by omega
            have htmz : (t : Int) < (m : Int) := by omega
            obtain ⟨d0, d1, d2⟩ := cellsDc hD (i := t) (by have := HMD.out; omega)
            obtain ⟨z, hz⟩ : ∃ z, z = (x.D.Q.getD t dc0).s := ⟨_, rfl⟩
            rw [← hz] at d1
            by_cases he : z = y
            · have HE : Hid ((2, k) = A) := HTK.out (taken_at _ hlt2 (by rw [← hz, he]; exact HY.out))
              have e3 := eq_lists he
              clear hD HP HAN HTK HY HP2 he hz HN1
              go_wp2
              refine bodyPost_ret (v := .tuple #[.int .i64 (2 : Nat), .int .i64 (k : Nat)]) (by simp [results, Tryz.results6, go_sem]) rfl ?_
              exact ⟨⟨(2, k), HE.out, rfl⟩, B⟩
            · have HS2 : Hid (∀ j, j < t + 1 → ¬ (x.D.Q.getD j dc0).s = y) := fun j hj => by
                by_cases e : j = t
                · subst e; rw [← hz]; exact he
                · exact HP2.out j (by omega)
              have e3 := ne_lists he
              clear hD HP HAN HTK HY HP2 he hz HN1
              go_wp2
              go_roundw
              case rel => exact ⟨t + 1, by omega, by go_num, (by first | rfl | trivial), HS2.out⟩
              case measure => simp [intOf]; omega
          · have he : t = k := by omega
            subst he
            have HS : Hid (∀ j, j < t + 1 → taken x.D.Q j = false) := fun j hj => by
              by_cases e : j = t
              · subst e; exact taken_no _ (by rw [← HY.out]; exact HN1.out.1) (by rw [← HY.out]; exact HN1.out.2) (fun i hi => by rw [← HY.out]; exact HP2.out i hi)
              · exact HP.out j (by omega)
            clear hD HP HAN HTK HY HP2 HN1
            go_wp2
            go_roundw
            case rel => exact ⟨t + 1, by omega, by go_num, (by first | rfl | trivial), HS.out⟩
            case measure => simp [intOf]; omega
      · have he : k = m := by omega
        have HNT : Hid (∀ j, j < x.D.Q.length → taken x.D.Q j = false) := fun j hj => HP.out j (by have := HMD.out; omega)
        subst he
        clear hD HP
        have hR : Rd kdRm 0 w3 x.R := HX.out.2.below B
        have hXB : x.Ok 0 w3 := HX.out.below B
        have HXB : Hid (x.Ok 0 w3) := hXB
        have l0 := Pl.blk_lt k0
        clear hXB
        go_wp2
        go_loopw [49] (fun i wr => ∃ k : Nat, k ≤ n ∧ i = .int .i64 k ∧ Below w3.heap.size w3 wr ∧ ∀ j, j < k → codeR x.D.Q (x.R.Q.getD j rm0).l = 0) (fun i _ => n - (intOf i).toNat)
        case atStart => exact ⟨0, Nat.zero_le _, rfl, Below.refl _ _, fun j hj => by omega⟩
        case round =>
          obtain ⟨t, htk, rfl, D, hpre⟩ := hrel
          have HP : Hid (∀ j, j < t → codeR x.D.Q (x.R.Q.getD j rm0).l = 0) := hpre
          clear hpre p0 p1
          obtain ⟨p0, p1⟩ := Pl.two ((D.block _ l0).trans k0)
          by_cases hlt : t < n
          · have hh : ra = some ⟨x.R.b, x.R.o, none⟩ := HRA.out.trans (hR.head (by have := HN.out; omega))
            subst hh
            have hkz : (t : Int) < (n : Int) := by omega
            have hRc := cellsRm hR (i := t) (by have := HN.out; omega)
            have hok := (hR.below D).ok t (by have := HN.out; omega)
            have hru := HRL.out t (by have := HN.out; omega)
            obtain ⟨r, hr⟩ : ∃ r, r = x.R.Q.getD t rm0 := ⟨_, rfl⟩
            have hok2 : r.Ok 0 wr := by rw [hr]; exact hok
            rw [← hr] at hru hRc
            have HRC : Hid (w3.cell? ⟨x.R.b, x.R.o + t * 4, none⟩ = some (.int .i64 r.k) ∧ w3.cell? ⟨x.R.b, x.R.o + t * 4 + 1, none⟩ = some (.string r.h.s) ∧ w3.cell? ⟨x.R.b, x.R.o + t * 4 + 2, none⟩ = some (.slice r.h.A.a r.h.A.Q.length r.h.A.c) ∧ w3.cell? ⟨x.R.b, x.R.o + t * 4 + 3, none⟩ = some (.slice r.B.a r.B.Q.length r.B.c)) := hRc
            have lc := World.block_lt_of_cell? _ _ hRc.1
            simp only at lc
            have HRU : Hid (codeR x.D.Q r.l ≠ 0 → A = (codeR x.D.Q r.l, t)) := fun h => by
              rw [hr] at h ⊢; exact HAN.out.rule HNT.out t (by have := HN.out; omega) HP.out h
            have HST : Hid (codeR x.D.Q r.l = 0 → ∀ j, j < t + 1 → codeR x.D.Q (x.R.Q.getD j rm0).l = 0) := fun h j hj => by
              by_cases e : j = t
              · subst e; rw [← hr]; exact h
              · exact HP.out j (by omega)
            have hC : ∀ W, Below wr.heap.size wr W → Calls Tryz.prog 19 #[.agg #[.slice x.D.a x.D.Q.length x.D.c, .slice x.R.a x.R.Q.length x.R.c], .agg #[.int .i64 r.k, .string r.h.s, .slice r.h.A.a r.h.A.Q.length r.h.A.c, .slice r.B.a r.B.Q.length r.B.c]] W fun e w' => e = .returned (.int .i64 (codeR x.D.Q r.l : Nat)) ∧ Below W.heap.size W w' := fun W h => codeS_any x r W (HXB.out.below (Rw.next D h)) ⟨hok2.1.below h, hok2.2.below h⟩ (rule_len hru) (rule_kinds hru)
            rw [← HMD.out, ← HN.out, ← HDA.out, ← HRA.out] at hC
            obtain ⟨c0, c1, c2, c3⟩ := hRc
            replace c0 := (D.cell lc).trans HRC.out.1
            replace c1 := (D.cell lc).trans HRC.out.2.1
            replace c2 := (D.cell lc).trans HRC.out.2.2.1
            replace c3 := (D.cell lc).trans HRC.out.2.2.2
            generalize codeR x.D.Q r.l = V at HRU HST hC
            clear hR hok hok2 hr hru HP HAN HRL
            have D0 : Below wr.heap.size wr wr := Below.refl _ _
            go_upto_region 18 with fail
            by_cases hv : V = 0
            · subst hv
              have HS2 : Hid (∀ j, j < t + 1 → codeR x.D.Q (x.R.Q.getD j rm0).l = 0) := HST.out rfl
              clear HRU HST
              go_region_held3 (fun w' => w'.cell? ⟨w.heap.size, 0, none⟩ = some (.slice da k x.D.c) ∧ w'.cell? ⟨w.heap.size, 1, none⟩ = some (.slice (some ⟨x.R.b, x.R.o, none⟩) n x.R.c) ∧ w'.cell? ⟨x.R.b, x.R.o + t * 4, none⟩ = some (.int .i64 r.k) ∧ w'.cell? ⟨x.R.b, x.R.o + t * 4 + 1, none⟩ = some (.string r.h.s) ∧ w'.cell? ⟨x.R.b, x.R.o + t * 4 + 2, none⟩ = some (.slice r.h.A.a r.h.A.Q.length r.h.A.c) ∧ w'.cell? ⟨x.R.b, x.R.o + t * 4 + 3, none⟩ = some (.slice r.B.a r.B.Q.length r.B.c)) (go_keep) (first | (go_at_call 19; refine (hC _ ((Below.refl _ _).drew)).mono ?_; rintro e w6 ⟨rfl, hb⟩; replace hb := Rw.next ((Below.refl _ _).drew) hb; replace D := Rw.next D hb; clear p0 p1 c0 c1 c2 c3; obtain ⟨p0, p1⟩ := Pl.two ((D.block _ l0).trans k0); have c0 := (D.cell lc).trans HRC.out.1; have c1 := (D.cell lc).trans HRC.out.2.1; have c2 := (D.cell lc).trans HRC.out.2.2.1; have c3 := (D.cell lc).trans HRC.out.2.2.2; clear hb))
              clear c0 c1 c2 c3 p0 p1 hC
              go_wp2
              go_roundw
              case rel => first | ((repeat apply Exists.intro); exact ⟨⟨t + 1, by omega, by go_num, D, HS2.out⟩, rfl⟩) | exact ⟨t + 1, by omega, by go_num, D, HS2.out⟩
              case measure => simp [intOf]; omega
            · have HE : Hid ((V, t) = A) := (HRU.out hv).symm
              have hvz : (V : Int) > 0 := by omega
              clear HRU HST hv
              go_region_held3 (fun w' => w'.cell? ⟨w.heap.size, 0, none⟩ = some (.slice da k x.D.c) ∧ w'.cell? ⟨w.heap.size, 1, none⟩ = some (.slice (some ⟨x.R.b, x.R.o, none⟩) n x.R.c) ∧ w'.cell? ⟨x.R.b, x.R.o + t * 4, none⟩ = some (.int .i64 r.k) ∧ w'.cell? ⟨x.R.b, x.R.o + t * 4 + 1, none⟩ = some (.string r.h.s) ∧ w'.cell? ⟨x.R.b, x.R.o + t * 4 + 2, none⟩ = some (.slice r.h.A.a r.h.A.Q.length r.h.A.c) ∧ w'.cell? ⟨x.R.b, x.R.o + t * 4 + 3, none⟩ = some (.slice r.B.a r.B.Q.length r.B.c)) (go_keep) (first | (go_at_call 19; refine (hC _ ((Below.refl _ _).drew)).mono ?_; rintro e w6 ⟨rfl, hb⟩; replace hb := Rw.next ((Below.refl _ _).drew) hb; replace D := Rw.next D hb; clear p0 p1 c0 c1 c2 c3; obtain ⟨p0, p1⟩ := Pl.two ((D.block _ l0).trans k0); have c0 := (D.cell lc).trans HRC.out.1; have c1 := (D.cell lc).trans HRC.out.2.1; have c2 := (D.cell lc).trans HRC.out.2.2.1; have c3 := (D.cell lc).trans HRC.out.2.2.2; clear hb))
              clear c0 c1 c2 c3 p0 p1 hC
              go_wp2
              refine bodyPost_ret (v := .tuple #[.int .i64 (V : Nat), .int .i64 (t : Nat)]) (by simp [results, Tryz.results6, go_sem]) rfl ?_
              exact ⟨⟨(V, t), HE.out, rfl⟩, Rw.next B D⟩
          · have he : t = n := by omega
            have HE : Hid ((0, 0) = A) := (HAN.out.ok HNT.out (fun j hj => HP.out j (by have := HN.out; omega))).symm
            subst he
            clear hR HP
            go_wp2
            refine bodyPost_ret (v := .tuple #[.int .i64 (0 : Nat), .int .i64 (0 : Nat)]) (by simp [results, Tryz.results6, go_sem]) rfl ?_
            exact ⟨⟨(0, 0), HE.out, rfl⟩, Rw.next B D⟩

end Go.Proofs.YtljlgjgfmgilaaaGreat.Nq
