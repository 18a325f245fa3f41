/-
  The specification's ProgramOk.
-/
import Derived.Test.YtljlgjgfmgilaaaGreatPrg
namespace Go.Proofs.YtljlgjgfmgilaaaGreat.Pm
set_option maxRecDepth 8000
set_option linter.unusedSimpArgs false
set_option linter.unusedVariables false
open Go Go.ChangeShapes Go.WideShapes Go.RowKit
open Num Pl Word
open Lv (varB)
open Lk (keptB)
open Vl (valB)

set_option maxHeartbeats 4000000 in
theorem atomS_any (x : Atm) (w : World) (hx : x.Ok 0 w) : Calls Tryz.prog 75 #[.agg #[.string x.s, .slice x.A.a x.A.Q.length x.A.c]] w fun e w' => e = .returned (.bool (atomB x.l)) ∧ Below w.heap.size w w' := by
  have hn := fun W => nameS_any x.s W hx.1
  have HL : atomB x.l = (nameB x.s && (decide (x.A.Q.length ≤ 6) && (told kdTm x.A.Q).all termB)) := by rw [told_tm]; rfl
  obtain ⟨R, hR⟩ : ∃ R, R = atomB x.l := ⟨_, rfl⟩
  rw [← hR]
  rw [HL] at hR
  generalize nameB x.s = N at hn hR
  obtain ⟨xs, ⟨xa, xb, xo, xc, xQ⟩⟩ := x
  have h := hx.2
  simp only at h hn hR ⊢
  have HB : Hid (∀ k, k < xQ.length → termB (kdTm.l (xQ.getD k tm0)) = false → (told kdTm xQ).all termB = false) := fun k hk h => all_bad hk h
  have HG : Hid ((∀ i, i < xQ.length → termB (kdTm.l (xQ.getD i tm0)) = true) → (told kdTm xQ).all termB = true) := fun h => all_at h
  generalize (told kdTm xQ).all termB = V0 at HB HG hR
  clear hx HL
  obtain ⟨n, hn0⟩ : ∃ n, n = xQ.length := ⟨_, rfl⟩
  have hm : n ≤ maxLen := by rw [hn0]; exact h.len
  unfold maxLen at hm
  have B := below_alloc1 w (.cells #[.string xs, .slice xa n xc] 52)
  have h1 := h.below B
  rw [← hn0] at HB HG hR ⊢
  have HN : Hid (n = xQ.length) := hn0
  clear hn0 h
  cases N with
  | false =>
    obtain rfl : R = false := by rw [hR]; rfl
    clear hR h1
    go_enter Tryz.func75, Tryz.ntmps75
    go_wp2_with (go_at_call 38; refine (hn _).mono ?_; rintro e w1 ⟨rfl, hw⟩; replace hw := hw.symm; subst hw)
    go_ret
    exact ⟨rfl, B⟩
  | true =>
    by_cases hle : n ≤ 6
    · obtain rfl : V0 = R := by rw [hR]; simp [hle]
      have hz : ¬ ((n : Int) > 6) := by omega
      clear hR
      go_enter Tryz.func75, Tryz.ntmps75
      go_wp2_with (go_at_call 38; refine (hn _).mono ?_; rintro e w1 ⟨rfl, hw⟩; replace hw := hw.symm; subst hw)
      obtain ⟨W1, hW1⟩ : ∃ W1, W1 = w.alloc (.cells #[.string xs, .slice xa n xc] 52) := ⟨_, rfl⟩
      rw [← hW1] at B h1 ⊢
      clear hW1
      go_loopw [18] (fun i wr => ∃ k : Nat, k ≤ n ∧ i = .int .i64 k ∧ Below W1.heap.size W1 wr ∧ ∀ i, i < k → termB (kdTm.l (xQ.getD i tm0)) = true) (fun i _ => n - (intOf i).toNat)
      case atStart => exact ⟨0, Nat.zero_le _, rfl, Below.refl _ _, fun i hi => by omega⟩
      case round =>
        obtain ⟨k, hk, rfl, hbel, hpre⟩ := hrel
        have HP : Hid (∀ i, i < k → termB (kdTm.l (xQ.getD i tm0)) = true) := hpre
        clear hpre
        by_cases hlt : k < n
        · have hh := h1.head (by have := HN.out; simp only; omega)
          have hkz : (k : Int) < (n : Int) := by omega
          have hok := h1.ok k (by have := HN.out; simp only; omega)
          obtain ⟨c0, c1, c2⟩ := cellsTm (h1.below hbel) (i := k) (by have := HN.out; simp only; omega)
          simp only at hh c0 c1 c2
          obtain rfl := hh
          have HB1 : Hid (termB (kdTm.l (xQ.getD k tm0)) = false → V0 = false) := HB.out k hlt
          have HX : Hid (termB (kdTm.l (xQ.getD k tm0)) = true → ∀ i, i < k + 1 → termB (kdTm.l (xQ.getD i tm0)) = true) := fun h i hi => by
            by_cases e : i = k
            · subst e; exact h
            · exact HP.out i (by omega)
          have hU : ∀ W, Calls Tryz.prog 106 #[.agg #[.string (xQ.getD k tm0).v, .int .i64 (xQ.getD k tm0).n, .string (xQ.getD k tm0).s]] W fun e w' => e = .returned (.bool (termB (kdTm.l (xQ.getD k tm0)))) ∧ Below W.heap.size W w' := fun W => termS_any _ W hok
          clear h1 HB HN hok
          generalize termB (kdTm.l (xQ.getD k tm0)) = V at hU HB1 HX
          generalize xQ.getD k tm0 = y at c0 c1 c2 hU
          have D := Rw.next hbel (below_alloc1 wr (.cells #[.string y.v, .int .i64 y.n, .string y.s] 94))
          cases hv : V with
          | true =>
            rw [hv] at hU
            go_wp2_with (go_at_call 106; refine (hU _).mono ?_; rintro e w1 ⟨rfl, hb⟩; replace D := Rw.next D hb)
            go_roundw
            case rel => exact ⟨k + 1, by omega, by go_num, D, HX.out hv⟩
            case measure => simp [intOf]; omega
          | false =>
            rw [hv] at hU
            go_wp2_with (go_at_call 106; refine (hU _).mono ?_; rintro e w1 ⟨rfl, hb⟩; replace D := Rw.next D hb)
            go_ret
            exact ⟨ret_bool (HB1.out hv).symm, Rw.next B D⟩
        · have he : k = n := by omega
          subst he
          clear h1
          go_wp2
          go_ret
          exact ⟨ret_bool (HG.out HP.out).symm, Rw.next B hbel⟩
    · obtain rfl : R = false := by rw [hR]; simp [hle]
      have hz : (n : Int) > 6 := by omega
      clear hR h1
      go_enter Tryz.func75, Tryz.ntmps75
      go_wp2_with (go_at_call 38; refine (hn _).mono ?_; rintro e w1 ⟨rfl, hw⟩; replace hw := hw.symm; subst hw)
      go_ret
      exact ⟨rfl, B⟩
set_option maxHeartbeats 4000000 in
theorem litS_any : Says kdLm 76 (fun x : Lm => .agg #[.int .i64 x.k, .string x.h.s, .slice x.h.A.a x.h.A.Q.length x.h.A.c, .int .i64 x.op, .string x.p.v, .int .i64 x.p.n, .string x.p.s, .string x.q.v, .int .i64 x.q.n, .string x.q.s]) litB := by
  intro x w hx
  have B := below_alloc1 w (.cells #[.int .i64 x.k, .string x.h.s, .slice x.h.A.a x.h.A.Q.length x.h.A.c, .int .i64 x.op, .string x.p.v, .int .i64 x.p.n, .string x.p.s, .string x.q.v, .int .i64 x.q.n, .string x.q.s] 96)
  have k1 : ((w.alloc (.cells #[.int .i64 x.k, .string x.h.s, .slice x.h.A.a x.h.A.Q.length x.h.A.c, .int .i64 x.op, .string x.p.v, .int .i64 x.p.n, .string x.p.s, .string x.q.v, .int .i64 x.q.n, .string x.q.s] 96)).alloc (.cells #[.string ⟨#[]⟩, .int .i64 0, .string ⟨#[]⟩] 94)).heap[w.heap.size]? = some (.cells #[.int .i64 x.k, .string x.h.s, .slice x.h.A.a x.h.A.Q.length x.h.A.c, .int .i64 x.op, .string x.p.v, .int .i64 x.p.n, .string x.p.s, .string x.q.v, .int .i64 x.q.n, .string x.q.s] 96 (0, 0)) := by rw [at_old (by simp), at_new rfl]
  have k2 : ((w.alloc (.cells #[.int .i64 x.k, .string x.h.s, .slice x.h.A.a x.h.A.Q.length x.h.A.c, .int .i64 x.op, .string x.p.v, .int .i64 x.p.n, .string x.p.s, .string x.q.v, .int .i64 x.q.n, .string x.q.s] 96)).alloc (.cells #[.string ⟨#[]⟩, .int .i64 0, .string ⟨#[]⟩] 94)).heap[w.heap.size + 1]? = some (.cells #[.string ⟨#[]⟩, .int .i64 0, .string ⟨#[]⟩] 94 (0, 0)) := at_new (by simp)
  have B2 := below_alloc2 w (.cells #[.int .i64 x.k, .string x.h.s, .slice x.h.A.a x.h.A.Q.length x.h.A.c, .int .i64 x.op, .string x.p.v, .int .i64 x.p.n, .string x.p.s, .string x.q.v, .int .i64 x.q.n, .string x.q.s] 96) (.cells #[.string ⟨#[]⟩, .int .i64 0, .string ⟨#[]⟩] 94)
  have k0 : (w.alloc (.cells #[.int .i64 x.k, .string x.h.s, .slice x.h.A.a x.h.A.Q.length x.h.A.c, .int .i64 x.op, .string x.p.v, .int .i64 x.p.n, .string x.p.s, .string x.q.v, .int .i64 x.q.n, .string x.q.s] 96)).heap[w.heap.size]? = some (.cells #[.int .i64 x.k, .string x.h.s, .slice x.h.A.a x.h.A.Q.length x.h.A.c, .int .i64 x.op, .string x.p.v, .int .i64 x.p.n, .string x.p.s, .string x.q.v, .int .i64 x.q.n, .string x.q.s] 96 (0, 0)) := at_new rfl
  have hA := fun W hb => atomS_any x.h W (hx.1.below hb)
  have hp := fun W => termS_any x.p W hx.2.1
  have hq := fun W => termS_any x.q W hx.2.2
  have zp := run_eqT x.p
  have zq := run_eqT x.q
  show Calls Tryz.prog 76 #[.agg #[.int .i64 x.k, .string x.h.s, .slice x.h.A.a x.h.A.Q.length x.h.A.c, .int .i64 x.op, .string x.p.v, .int .i64 x.p.n, .string x.p.s, .string x.q.v, .int .i64 x.q.n, .string x.q.s]] w fun e w' => e = .returned (.bool (litB x.l)) ∧ Below w.heap.size w w'
  have HL : Hid (litB x.l = if x.k = 3 then decide (x.h.s = ⟨#[]⟩ ∧ x.h.A.Q.length = 0 ∧ 1 ≤ x.op ∧ x.op ≤ 4) && (termB x.p && termB x.q) else decide (x.k = 1 ∨ x.k = 2) && (atomB x.h.l && (decide (x.op = 0) && (zeroT x.p && zeroT x.q)))) := rfl
  generalize litB x.l = R at HL ⊢
  generalize zeroT x.p = ZP at zp HL
  generalize zeroT x.q = ZQ at zq HL
  generalize termB x.p = TP at hp HL
  generalize termB x.q = TQ at hq HL
  generalize atomB x.h.l = AB at hA HL
  have hle : x.h.A.Q.length ≤ maxLen := hx.1.2.len
  unfold maxLen at hle
  have he := emp x.h.s
  clear hx
  by_cases h3 : x.k = 3
  · have HR : R = (decide (x.h.s = ⟨#[]⟩ ∧ x.h.A.Q.length = 0 ∧ 1 ≤ x.op ∧ x.op ≤ 4) && (TP && TQ)) := by rw [HL.out, if_pos h3]
    clear HL k1 k2 B2 zp zq hA
    rw [h3] at k0 B ⊢
    generalize x.h.A.Q.length = n at k0 B hle HR ⊢
    have fail : ∀ (hc : ¬ (x.h.s = ⟨#[]⟩ ∧ n = 0 ∧ 1 ≤ x.op ∧ x.op ≤ 4)), R = false := fun hc => by rw [HR, show decide (x.h.s = ⟨#[]⟩ ∧ n = 0 ∧ 1 ≤ x.op ∧ x.op ≤ 4) = false from decide_eq_false hc]; rfl
    by_cases o1 : 1 ≤ x.op
    · by_cases o2 : x.op ≤ 4
      · cases hs : x.h.s.toList.isEmpty with
        | true =>
          have hs' := he.1 hs
          by_cases h0 : n = 0
          · have HT : R = (TP && TQ) := by rw [HR]; simp [o1, o2, hs', h0]
            clear HR fail he hs'
            subst h0
            subst HT
            cases TP <;> cases TQ
            all_goals
              have t1 : True := trivial
              have t2 : True := trivial
              go_enter Tryz.func76, Tryz.ntmps76
              go_wp2_with (first
                | (clear t1; go_at_call 106; refine (hp _).mono ?_; rintro e w2 ⟨rfl, hb⟩; replace B := Rw.next B hb; replace k0 := (hb.block w.heap.size (blk_lt k0)).trans k0; have c0 := blk_cell k0 0 rfl; have c1 := blk_cell k0 1 rfl; have c2 := blk_cell k0 2 rfl; have c3 := blk_cell k0 3 rfl; have c4 := blk_cell k0 4 rfl; have c5 := blk_cell k0 5 rfl; have c6 := blk_cell k0 6 rfl; have c7 := blk_cell k0 7 rfl; have c8 := blk_cell k0 8 rfl; have c9 := blk_cell k0 9 rfl)
                | (clear t2; go_at_call 106; refine (hq _).mono ?_; rintro e w3 ⟨rfl, hb⟩; replace B := Rw.next B hb))
              go_ret
              exact ⟨rfl, B⟩
          · obtain rfl : R = false := fail (fun q => h0 q.2.1)
            have hz : ((n : Int) == 0) = false := by simp [h0]
            clear HR fail he hs' h0
            go_enter Tryz.func76, Tryz.ntmps76
            go_wp2
            go_ret
            exact ⟨rfl, B⟩
        | false =>
          obtain rfl : R = false := fail (fun q => by rw [he.2 q.1] at hs; cases hs)
          clear HR fail he
          go_enter Tryz.func76, Tryz.ntmps76
          go_wp2
          go_ret
          exact ⟨rfl, B⟩
      · obtain rfl : R = false := fail (fun q => o2 q.2.2.2)
        clear HR fail he
        go_enter Tryz.func76, Tryz.ntmps76
        go_wp2
        go_ret
        exact ⟨rfl, B⟩
    · obtain rfl : R = false := fail (fun q => o1 q.2.2.1)
      clear HR fail he
      go_enter Tryz.func76, Tryz.ntmps76
      go_wp2
      go_ret
      exact ⟨rfl, B⟩
  · have z3 : (x.k == 3) = false := by simpa using h3
    clear k0 B he
    by_cases h1 : x.k = 1 ∨ x.k = 2
    · have HR : R = (AB && (decide (x.op = 0) && (ZP && ZQ))) := by rw [HL.out, if_neg h3]; simp [h1]
      clear HL h3 z3
      rcases h1 with h1 | h1
      all_goals
        rw [h1] at k1 k2 B2 ⊢
        clear h1
        cases hAB : AB with
        | false =>
          rw [hAB] at HR hA
          obtain rfl : R = false := by rw [HR]; rfl
          clear HR hAB k1 k2
          go_enter Tryz.func76, Tryz.ntmps76
          go_wp2_with (go_at_call 75; refine (hA _ B2).mono ?_; rintro e w1 ⟨rfl, hb⟩; replace B2 := Rw.next B2 hb)
          go_ret
          exact ⟨rfl, B2⟩
        | true =>
          rw [hAB] at HR hA
          clear hAB
          by_cases h0 : x.op = 0
          · rw [h0] at k1 k2 B2 HR ⊢
            have HS : R = (ZP && ZQ) := by rw [HR]; simp
            clear HR h0
            subst HS
            cases ZP <;> cases ZQ
            all_goals
              go_enter Tryz.func76, Tryz.ntmps76
              go_wp2_with (go_at_call 75; refine (hA _ B2).mono ?_; rintro e w1 ⟨rfl, hb⟩; replace B2 := Rw.next B2 hb; replace k1 := (hb.block w.heap.size (blk_lt k1)).trans k1; replace k2 := (hb.block (w.heap.size + 1) (blk_lt k2)).trans k2; have c0 := blk_cell k1 0 rfl; have c1 := blk_cell k1 1 rfl; have c2 := blk_cell k1 2 rfl; have c3 := blk_cell k1 3 rfl; have c4 := blk_cell k1 4 rfl; have c5 := blk_cell k1 5 rfl; have c6 := blk_cell k1 6 rfl; have c7 := blk_cell k1 7 rfl; have c8 := blk_cell k1 8 rfl; have c9 := blk_cell k1 9 rfl; have z0 := blk_cell k2 0 rfl; have z1 := blk_cell k2 1 rfl; have z2 := blk_cell k2 2 rfl)
              go_ret
              exact ⟨rfl, B2⟩
          · obtain rfl : R = false := by rw [HR]; simp [h0]
            have hz : (x.op == 0) = false := by simpa using h0
            clear HR h0
            go_enter Tryz.func76, Tryz.ntmps76
            go_wp2_with (go_at_call 75; refine (hA _ B2).mono ?_; rintro e w1 ⟨rfl, hb⟩; replace B2 := Rw.next B2 hb; replace k1 := (hb.block w.heap.size (blk_lt k1)).trans k1; replace k2 := (hb.block (w.heap.size + 1) (blk_lt k2)).trans k2; have c0 := blk_cell k1 0 rfl; have c1 := blk_cell k1 1 rfl; have c2 := blk_cell k1 2 rfl; have c3 := blk_cell k1 3 rfl; have c4 := blk_cell k1 4 rfl; have c5 := blk_cell k1 5 rfl; have c6 := blk_cell k1 6 rfl; have c7 := blk_cell k1 7 rfl; have c8 := blk_cell k1 8 rfl; have c9 := blk_cell k1 9 rfl; have z0 := blk_cell k2 0 rfl; have z1 := blk_cell k2 1 rfl; have z2 := blk_cell k2 2 rfl)
            go_ret
            exact ⟨rfl, B2⟩
    · obtain rfl : R = false := by rw [HL.out, if_neg h3]; simp [h1]
      have z1 : (x.k == 1) = false := by simp; omega
      have z2 : (x.k == 2) = false := by simp; omega
      clear HL h1 h3 k1 k2
      go_enter Tryz.func76, Tryz.ntmps76
      go_wp2
      go_ret
      exact ⟨rfl, B2⟩
set_option maxHeartbeats 4000000 in
theorem ruleS_any : Says kdRm 39 (fun x : Rm => .agg #[.int .i64 x.k, .string x.h.s, .slice x.h.A.a x.h.A.Q.length x.h.A.c, .slice x.B.a x.B.Q.length x.B.c]) ruleB := by
  intro x w hx
  have hA := fun W hb => atomS_any x.h W (hx.1.below hb)
  show Calls Tryz.prog 39 #[.agg #[.int .i64 x.k, .string x.h.s, .slice x.h.A.a x.h.A.Q.length x.h.A.c, .slice x.B.a x.B.Q.length x.B.c]] w fun e w' => e = .returned (.bool (ruleB x.l)) ∧ Below w.heap.size w w'
  have HL : ruleB x.l = (decide (1 ≤ x.k ∧ x.k ≤ 3) && (atomB x.h.l && (decide (x.B.Q.length ≤ 8) && (told kdLm x.B.Q).all litB))) := by
    show (decide (1 ≤ x.k ∧ x.k ≤ 3) && (atomB x.h.l && (decide ((told kdLm x.B.Q).length ≤ 8) && (told kdLm x.B.Q).all litB))) = _
    rw [told_len]
  obtain ⟨R, hR⟩ : ∃ R, R = ruleB x.l := ⟨_, rfl⟩
  rw [← hR]
  rw [HL] at hR
  generalize atomB x.h.l = AB at hA hR
  obtain ⟨xk, xh, ⟨xa, xb, xo, xc, xQ⟩⟩ := x
  have h := hx.2
  simp only at h hA hR ⊢
  have HB : Hid (∀ k, k < xQ.length → litB (kdLm.l (xQ.getD k lm0)) = false → (told kdLm xQ).all litB = false) := fun k hk h => all_bad hk h
  have HG : Hid ((∀ i, i < xQ.length → litB (kdLm.l (xQ.getD i lm0)) = true) → (told kdLm xQ).all litB = true) := fun h => all_at h
  generalize (told kdLm xQ).all litB = V0 at HB HG hR
  clear hx HL
  obtain ⟨n, hn0⟩ : ∃ n, n = xQ.length := ⟨_, rfl⟩
  have hm : n ≤ maxLen := by rw [hn0]; exact h.len
  unfold maxLen at hm
  have B := below_alloc1 w (.cells #[.int .i64 xk, .string xh.s, .slice xh.A.a xh.A.Q.length xh.A.c, .slice xa n xc] 55)
  have k0 : (w.alloc (.cells #[.int .i64 xk, .string xh.s, .slice xh.A.a xh.A.Q.length xh.A.c, .slice xa n xc] 55)).heap[w.heap.size]? = some (.cells #[.int .i64 xk, .string xh.s, .slice xh.A.a xh.A.Q.length xh.A.c, .slice xa n xc] 55 (0, 0)) := at_new rfl
  rw [← hn0] at HB HG hR ⊢
  have HN : Hid (n = xQ.length) := hn0
  clear hn0
  by_cases o1 : 1 ≤ xk
  · by_cases o2 : xk ≤ 3
    · have HT : R = (AB && (decide (n ≤ 8) && V0)) := by rw [hR]; simp [o1, o2]
      clear hR
      have z1 : ¬ xk < 1 := by omega
      have z2 : ¬ xk > 3 := by omega
      cases AB with
      | false =>
        obtain rfl : R = false := by rw [HT]; rfl
        clear HT h
        go_enter Tryz.func39, Tryz.ntmps39
        go_wp2_with (go_at_call 75; refine (hA _ B).mono ?_; rintro e w1 ⟨rfl, hb⟩; replace B := Rw.next B hb; replace k0 := (hb.block w.heap.size (blk_lt k0)).trans k0; have p0 := blk_cell k0 0 rfl; have p1 := blk_cell k0 1 rfl; have p2 := blk_cell k0 2 rfl; have p3 := blk_cell k0 3 rfl)
        go_ret
        exact ⟨rfl, B⟩
      | true =>
        by_cases hle : n ≤ 8
        · obtain rfl : V0 = R := by rw [HT]; simp [hle]
          have hz : ¬ ((n : Int) > 8) := by omega
          clear HT
          go_enter Tryz.func39, Tryz.ntmps39
          go_wp2_with (go_at_call 75; refine (hA _ B).mono ?_; rintro e W1 ⟨rfl, hb⟩; replace B := Rw.next B hb; replace k0 := (hb.block w.heap.size (blk_lt k0)).trans k0; have p0 := blk_cell k0 0 rfl; have p1 := blk_cell k0 1 rfl; have p2 := blk_cell k0 2 rfl; have p3 := blk_cell k0 3 rfl)
          have h1 := h.keep (fun z _ hz => B.block z hz)
          have HU : Hid (∀ i, i < n → ∀ x, x = xQ.getD i lm0 → ∀ W, Below W1.heap.size W1 W → Calls Tryz.prog 76 #[.agg #[.int .i64 x.k, .string x.h.s, .slice x.h.A.a x.h.A.Q.length x.h.A.c, .int .i64 x.op, .string x.p.v, .int .i64 x.p.n, .string x.p.s, .string x.q.v, .int .i64 x.q.n, .string x.q.s]] W fun e w' => e = .returned (.bool (litB (kdLm.l x))) ∧ Below W.heap.size W w') := fun i hi x hx W hb => by
            rw [hx]; exact litS_any _ W (ok_below (h1.ok i (by have := HN.out; simp only; omega)) hb)
          clear h hA hb
          go_loopw [27] (fun i wr => ∃ k : Nat, k ≤ n ∧ i = .int .i64 k ∧ Below W1.heap.size W1 wr ∧ ∀ i, i < k → litB (kdLm.l (xQ.getD i lm0)) = true) (fun i _ => n - (intOf i).toNat)
          case atStart => exact ⟨0, Nat.zero_le _, rfl, Below.refl _ _, fun i hi => by omega⟩
          case round =>
            obtain ⟨k, hk, rfl, hbel, hpre⟩ := hrel
            have HP : Hid (∀ i, i < k → litB (kdLm.l (xQ.getD i lm0)) = true) := hpre
            clear hpre
            replace k0 := (hbel.block w.heap.size (blk_lt k0)).trans k0
            have d3 := blk_cell (u := .slice xa n xc) k0 3 rfl
            by_cases hlt : k < n
            · have hh := h1.head (by have := HN.out; simp only; omega)
              have hkz : (k : Int) < (n : Int) := by omega
              obtain ⟨c0, c1, c2, c3, c4, c5, c6, c7, c8, c9⟩ := cellsLm (h1.below hbel) (i := k) (by have := HN.out; simp only; omega)
              try simp only at hh c0 c1 c2 c3 c4 c5 c6 c7 c8 c9
              obtain rfl := hh
              have HB1 : Hid (litB (kdLm.l (xQ.getD k lm0)) = false → V0 = false) := HB.out k hlt
              have HX : Hid (litB (kdLm.l (xQ.getD k lm0)) = true → ∀ i, i < k + 1 → litB (kdLm.l (xQ.getD i lm0)) = true) := fun h i hi => by
                by_cases e : i = k
                · subst e; exact h
                · exact HP.out i (by omega)
              have hU := HU.out k hlt _ rfl wr hbel
              clear h1 HB HN HU
              generalize litB (kdLm.l (xQ.getD k lm0)) = V at hU HB1 HX
              generalize xQ.getD k lm0 = y at c0 c1 c2 c3 c4 c5 c6 c7 c8 c9 hU
              cases hv : V with
              | true =>
                rw [hv] at hU
                go_wp2_with (go_at_call 76; refine hU.mono ?_; rintro e w1 ⟨rfl, hb⟩)
                go_roundw
                case rel => exact ⟨k + 1, by omega, by go_num, Rw.next hbel hb, HX.out hv⟩
                case measure => simp [intOf]; omega
              | false =>
                rw [hv] at hU
                go_wp2_with (go_at_call 76; refine hU.mono ?_; rintro e w1 ⟨rfl, hb⟩)
                go_ret
                exact ⟨ret_bool (HB1.out hv).symm, Rw.next B (Rw.next hbel hb)⟩
            · have he : k = n := by omega
              subst he
              clear h1 HU
              go_wp2
              go_ret
              exact ⟨ret_bool (HG.out HP.out).symm, Rw.next B hbel⟩

        · obtain rfl : R = false := by rw [HT]; simp [hle]
          have hz : (n : Int) > 8 := by omega
          clear HT h
          go_enter Tryz.func39, Tryz.ntmps39
          go_wp2_with (go_at_call 75; refine (hA _ B).mono ?_; rintro e w1 ⟨rfl, hb⟩; replace B := Rw.next B hb; replace k0 := (hb.block w.heap.size (blk_lt k0)).trans k0; have p0 := blk_cell k0 0 rfl; have p1 := blk_cell k0 1 rfl; have p2 := blk_cell k0 2 rfl; have p3 := blk_cell k0 3 rfl)
          go_ret
          exact ⟨rfl, B⟩
    · obtain rfl : R = false := by rw [hR]; simp [o2]
      have z2 : xk > 3 := by omega
      clear hR h
      go_enter Tryz.func39, Tryz.ntmps39
      go_wp2
      go_ret
      exact ⟨rfl, B⟩
  · obtain rfl : R = false := by rw [hR]; simp [o1]
    have z1 : xk < 1 := by omega
    clear hR h
    go_enter Tryz.func39, Tryz.ntmps39
    go_wp2
    go_ret
    exact ⟨rfl, B⟩
set_option maxHeartbeats 4000000 in
theorem progS_any (x : Pg) (w : World) (hx : x.Ok 0 w) : Calls Tryz.prog 18 #[.agg #[.slice x.D.a x.D.Q.length x.D.c, .slice x.R.a x.R.Q.length x.R.c]] w fun e w' => e = .returned (.bool (progB x.l)) ∧ Below w.heap.size w w' := by
  have HL : progB x.l = ((decide (x.D.Q.length ≤ 16) && (told kdDc x.D.Q).all declB) && (decide (x.R.Q.length ≤ 24) && (told kdRm x.R.Q).all ruleB)) := by
    show ((decide (x.D.Q.length ≤ 16) && x.D.Q.all declB) && (decide ((told kdRm x.R.Q).length ≤ 24) && (told kdRm x.R.Q).all ruleB)) = _
    rw [told_len, told_dc]
  obtain ⟨R, hR⟩ : ∃ R, R = progB x.l := ⟨_, rfl⟩
  rw [← hR]
  rw [HL] at hR
  obtain ⟨⟨da, db, dO, dc, dQ⟩, ⟨ra, rb, ro, rc, rQ⟩⟩ := x
  obtain ⟨hd, hr⟩ := hx
  simp only at hd hr hR ⊢
  have HB : Hid (∀ k, k < dQ.length → declB (dQ.getD k dc0) = false → (told kdDc dQ).all declB = false) := fun k hk h => all_bad (α := Dc) hk h
  have HG : Hid ((∀ i, i < dQ.length → declB (dQ.getD i dc0) = true) → (told kdDc dQ).all declB = true) := fun h => all_at (α := Dc) h
  generalize (told kdDc dQ).all declB = VD at HB HG hR
  have HRB : Hid (∀ k, k < rQ.length → ruleB (kdRm.l (rQ.getD k rm0)) = false → (told kdRm rQ).all ruleB = false) := fun k hk h => all_bad hk h
  have HRG : Hid ((∀ i, i < rQ.length → ruleB (kdRm.l (rQ.getD i rm0)) = true) → (told kdRm rQ).all ruleB = true) := fun h => all_at h
  generalize (told kdRm rQ).all ruleB = VR at HRB HRG hR
  clear HL
  obtain ⟨nD, hnD⟩ : ∃ n, n = dQ.length := ⟨_, rfl⟩
  obtain ⟨nR, hnR⟩ : ∃ n, n = rQ.length := ⟨_, rfl⟩
  have hm : nD ≤ maxLen := by rw [hnD]; exact hd.len
  have hm' : nR ≤ maxLen := by rw [hnR]; exact hr.len
  unfold maxLen at hm hm'
  obtain ⟨W1, hW1⟩ : ∃ W1, W1 = w.alloc (.cells #[.slice da nD dc, .slice ra nR rc] 32) := ⟨_, rfl⟩
  have B : Below w.heap.size w W1 := by rw [hW1]; exact below_alloc1 _ _
  have k0 : W1.heap[w.heap.size]? = some (.cells #[.slice da nD dc, .slice ra nR rc] 32 (0, 0)) := by rw [hW1]; exact at_new rfl
  have h1 := hd.below B
  have hr0 := hr.below B
  rw [← hnD, ← hnR] at hR
  rw [← hnD] at HB HG
  rw [← hnR] at HRB HRG
  rw [← hnD, ← hnR]
  have HN : Hid (nD = dQ.length) := hnD
  have HNR : Hid (nR = rQ.length) := hnR
  clear hnD hnR hd hr
  by_cases l1 : nD ≤ 16
  · by_cases l2 : nR ≤ 24
    · have HT : Hid (R = (VD && VR)) := by rw [Hid, hR]; simp [l1, l2]
      have z1 : ¬ ((nD : Int) > 16) := by omega
      have z2 : ¬ ((nR : Int) > 24) := by omega
      clear hR
      go_enter Tryz.func18, Tryz.ntmps18
      go_wp2
      rw [← hW1]
      clear hW1
      go_loopw [19] (fun i wr => ∃ k : Nat, k ≤ nD ∧ i = .int .i64 k ∧ Below W1.heap.size W1 wr ∧ ∀ i, i < k → declB (dQ.getD i dc0) = true) (fun i _ => nD - (intOf i).toNat)
      case atStart => exact ⟨0, Nat.zero_le _, rfl, Below.refl _ _, fun i hi => by omega⟩
      case round =>
        obtain ⟨k, hk, rfl, hbel, hpre⟩ := hrel
        have HP : Hid (∀ i, i < k → declB (dQ.getD i dc0) = true) := hpre
        clear hpre
        by_cases hlt : k < nD
        · have hh := h1.head (by have := HN.out; simp only; omega)
          have hkz : (k : Int) < (nD : Int) := by omega
          have hok := h1.ok k (by have := HN.out; simp only; omega)
          obtain ⟨c0, c1, c2⟩ := cellsDc (h1.below hbel) (i := k) (by have := HN.out; simp only; omega)
          simp only at hh c0 c1 c2
          obtain rfl := hh
          have HB1 : Hid (declB (dQ.getD k dc0) = false → VD = false) := HB.out k hlt
          have HX : Hid (declB (dQ.getD k dc0) = true → ∀ i, i < k + 1 → declB (dQ.getD i dc0) = true) := fun h i hi => by
            by_cases e : i = k
            · subst e; exact h
            · exact HP.out i (by omega)
          have hn : ∀ W, Calls Tryz.prog 38 #[.string (dQ.getD k dc0).s] W fun e w' => e = .returned (.bool (nameB (dQ.getD k dc0).s)) ∧ w' = W := fun W => nameS_any _ W hok
          clear h1 hr0 HB HN HNR hok HRB HRG
          generalize dQ.getD k dc0 = y at c0 c1 c2 hn HB1 HX
          have D := Rw.next hbel (below_alloc1 wr (.cells #[.int .i64 y.k, .string y.s, .int .i64 y.ar] 48))
          have HV : declB y = (decide (1 ≤ y.k ∧ y.k ≤ 3) && (nameB y.s && decide (0 ≤ y.ar ∧ y.ar ≤ 6))) := rfl
          generalize declB y = V at HB1 HX HV
          generalize nameB y.s = N at hn HV
          have HF : Hid (V = false → R = false) := fun h => by rw [HT.out, HB1.out h]; rfl
          by_cases o1 : 1 ≤ y.k
          · by_cases o2 : y.k ≤ 3
            · have q1 : ¬ y.k < 1 := by omega
              have q2 : ¬ y.k > 3 := by omega
              cases N with
              | false =>
                obtain rfl : R = false := HF.out (by rw [HV]; simp)
                clear HV
                go_wp2_with (go_at_call 38; refine (hn _).mono ?_; rintro e w1 ⟨rfl, hw⟩; replace hw := hw.symm; subst hw)
                go_ret
                exact ⟨rfl, Rw.next B D⟩
              | true =>
                by_cases o3 : 0 ≤ y.ar
                · by_cases o4 : y.ar ≤ 6
                  · have hv : V = true := by rw [HV]; simp [o1, o2, o3, o4]
                    have q3 : ¬ y.ar < 0 := by omega
                    have q4 : ¬ y.ar > 6 := by omega
                    have HX2 := HX.out hv
                    have HX3 : Hid (∀ i, i < k + 1 → declB (dQ.getD i dc0) = true) := HX2
                    clear HV HX2
                    go_wp2_with (go_at_call 38; refine (hn _).mono ?_; rintro e w1 ⟨rfl, hw⟩; replace hw := hw.symm; subst hw)
                    go_roundw
                    case rel => exact ⟨k + 1, by omega, by go_num, D, HX3.out⟩
                    case measure => simp [intOf]; omega
                  · obtain rfl : R = false := HF.out (by rw [HV]; simp [o4])
                    have q3 : ¬ y.ar < 0 := by omega
                    have q4 : y.ar > 6 := by omega
                    clear HV
                    go_wp2_with (go_at_call 38; refine (hn _).mono ?_; rintro e w1 ⟨rfl, hw⟩; replace hw := hw.symm; subst hw)
                    go_ret
                    exact ⟨rfl, Rw.next B D⟩
                · obtain rfl : R = false := HF.out (by rw [HV]; simp [o3])
                  have q3 : y.ar < 0 := by omega
                  clear HV
                  go_wp2_with (go_at_call 38; refine (hn _).mono ?_; rintro e w1 ⟨rfl, hw⟩; replace hw := hw.symm; subst hw)
                  go_ret
                  exact ⟨rfl, Rw.next B D⟩
            · obtain rfl : R = false := HF.out (by rw [HV]; simp [o2])
              have q2 : y.k > 3 := by omega
              clear HV
              go_wp2
              go_ret
              exact ⟨rfl, Rw.next B D⟩
          · obtain rfl : R = false := HF.out (by rw [HV]; simp [o1])
            have q1 : y.k < 1 := by omega
            clear HV
            go_wp2
            go_ret
            exact ⟨rfl, Rw.next B D⟩
        · obtain rfl : nD = k := by omega
          have HV := HG.out HP.out
          have HS : Hid (R = VR) := by rw [Hid, HT.out, HV]; rfl
          have hr1 := hr0.below hbel
          replace k0 := (hbel.block w.heap.size (blk_lt k0)).trans k0
          have d0 := blk_cell (u := .slice da nD dc) k0 0 rfl
          have d1 := blk_cell (u := .slice ra nR rc) k0 1 rfl
          have B2 := Rw.next B hbel
          clear h1 hr0 HB HG HP HV HT HN
          obtain ⟨W2, hW2⟩ : ∃ W2, W2 = wr := ⟨_, rfl⟩
          subst hW2
          clear hbel
          have HRU : Hid (∀ i, i < nR → ∀ x, x = rQ.getD i rm0 → ∀ W, Below W2.heap.size W2 W → Calls Tryz.prog 39 #[.agg #[.int .i64 x.k, .string x.h.s, .slice x.h.A.a x.h.A.Q.length x.h.A.c, .slice x.B.a x.B.Q.length x.B.c]] W fun e w' => e = .returned (.bool (ruleB (kdRm.l x))) ∧ Below W.heap.size W w') := fun i hi x hx W hb => by
            rw [hx]; exact ruleS_any _ W (ok_below (hr1.ok i (by have := HNR.out; simp only; omega)) hb)
          go_wp2
          go_loopw [51] (fun i wr => ∃ k : Nat, k ≤ nR ∧ i = .int .i64 k ∧ Below W2.heap.size W2 wr ∧ ∀ i, i < k → ruleB (kdRm.l (rQ.getD i rm0)) = true) (fun i _ => nR - (intOf i).toNat)
          case atStart => exact ⟨0, Nat.zero_le _, rfl, Below.refl _ _, fun i hi => by omega⟩
          case round =>
            obtain ⟨k, hk, rfl, hbel, hpre⟩ := hrel
            have HP : Hid (∀ i, i < k → ruleB (kdRm.l (rQ.getD i rm0)) = true) := hpre
            clear hpre
            replace k0 := (hbel.block w.heap.size (blk_lt k0)).trans k0
            have d0 := blk_cell (u := .slice da nD dc) k0 0 rfl
            have d1 := blk_cell (u := .slice ra nR rc) k0 1 rfl
            by_cases hlt : k < nR
            · have hh := hr1.head (by have := HNR.out; simp only; omega)
              have hkz : (k : Int) < (nR : Int) := by omega
              obtain ⟨c0, c1, c2, c3⟩ := cellsRm (hr1.below hbel) (i := k) (by have := HNR.out; simp only; omega)
              try simp only at hh c0 c1 c2 c3
              obtain rfl := hh
              have HB1 : Hid (ruleB (kdRm.l (rQ.getD k rm0)) = false → VR = false) := HRB.out k hlt
              have HX : Hid (ruleB (kdRm.l (rQ.getD k rm0)) = true → ∀ i, i < k + 1 → ruleB (kdRm.l (rQ.getD i rm0)) = true) := fun h i hi => by
                by_cases e : i = k
                · subst e; exact h
                · exact HP.out i (by omega)
              have hU := HRU.out k hlt _ rfl wr hbel
              clear hr1 HRB HNR HRU
              generalize ruleB (kdRm.l (rQ.getD k rm0)) = V at hU HB1 HX
              generalize rQ.getD k rm0 = y at c0 c1 c2 c3 hU
              cases hv : V with
              | true =>
                rw [hv] at hU
                go_wp2_with (go_at_call 39; refine hU.mono ?_; rintro e w1 ⟨rfl, hb⟩)
                go_roundw
                case rel => exact ⟨k + 1, by omega, by go_num, Rw.next hbel hb, HX.out hv⟩
                case measure => simp [intOf]; omega
              | false =>
                rw [hv] at hU
                go_wp2_with (go_at_call 39; refine hU.mono ?_; rintro e w1 ⟨rfl, hb⟩)
                go_ret
                exact ⟨ret_bool (by rw [HS.out, HB1.out hv]), Rw.next B2 (Rw.next hbel hb)⟩
            · have he : k = nR := by omega
              subst he
              clear hr1 HRU
              go_wp2
              go_ret
              exact ⟨ret_bool (by rw [HS.out, HRG.out HP.out]), Rw.next B2 hbel⟩

    · obtain rfl : R = false := by rw [hR]; simp [l2]
      have z1 : ¬ ((nD : Int) > 16) := by omega
      have z2 : (nR : Int) > 24 := by omega
      rw [hW1] at B
      clear hR hW1 h1 hr0 k0
      go_enter Tryz.func18, Tryz.ntmps18
      go_wp2
      go_ret
      exact ⟨rfl, B⟩
  · obtain rfl : R = false := by rw [hR]; simp [l1]
    have z1 : (nD : Int) > 16 := by omega
    rw [hW1] at B
    clear hR hW1 h1 hr0 k0
    go_enter Tryz.func18, Tryz.ntmps18
    go_wp2
    go_ret
    exact ⟨rfl, B⟩

end Go.Proofs.YtljlgjgfmgilaaaGreat.Pm
