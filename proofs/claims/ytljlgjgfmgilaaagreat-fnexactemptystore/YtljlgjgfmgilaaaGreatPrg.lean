/-
  The program's ProgramOk.
-/
import Derived.Test.YtljlgjgfmgilaaaGreatPrf
namespace Go.Proofs.YtljlgjgfmgilaaaGreat.Pm
set_option maxRecDepth 8000
set_option linter.unusedSimpArgs false
set_option linter.unusedVariables false
open Go Go.ChangeShapes Go.WideShapes Go.RowKit
open Num Pl Word
open Lv (varB)
open Lk (keptB)
open Vl (valB)

section
variable {α L : Type} {K : Kd α L}
/-- The function says of an element what P says. -/
def Says (K : Kd α L) (f : FuncId) (c : α → Value) (P : L → Bool) : Prop := ∀ (x : α) (w : World), K.ok 0 w x → Calls Tryz.prog f #[c x] w fun e w' => e = .returned (.bool (P (K.l x))) ∧ Below w.heap.size w w'
theorem all_at {P : L → Bool} {Q : List α} (h : ∀ i, i < Q.length → P (K.l (Q.getD i K.z)) = true) : (told K Q).all P = true := by
  refine List.all_eq_true.2 fun x hx => ?_
  obtain ⟨i, hi, rfl⟩ := List.getElem_of_mem hx
  have hi' : i < Q.length := by rw [told_len] at hi; exact hi
  have := h i hi'
  rw [← told_at Q i] at this
  simpa [List.getD, hi] using this
theorem all_bad {P : L → Bool} {Q : List α} {k : Nat} (hk : k < Q.length) (h : P (K.l (Q.getD k K.z)) = false) : (told K Q).all P = false := by
  rw [List.all_eq_false]
  have hk' : k < (told K Q).length := by rw [told_len]; exact hk
  refine ⟨(told K Q)[k], List.getElem_mem hk', ?_⟩
  rw [← told_at Q k] at h
  simpa [List.getD, hk'] using h
end

set_option maxHeartbeats 1000000 in
theorem cloTm (hf : Says kdTm 114 (fun x : Tm => .agg #[.string x.v, .int .i64 x.n, .string x.s]) termB) (x : Tm) (w : World) (hx : kdTm.ok 0 w x) (g : Nat) (kg : w.cell? ⟨g, 0, none⟩ = some (.func (.func 114) #[] #[])) :
    Calls Tryz.prog 141 #[.agg #[.string x.v, .int .i64 x.n, .string x.s], .pointer (some ⟨g, 0, none⟩)] w fun e w' => e = .returned (.bool (!termB (kdTm.l x))) ∧ Below w.heap.size w w' := by
  have B := below_alloc1 w (.cells #[.string x.v, .int .i64 x.n, .string x.s] 94)
  have hC := hf x _ (ok_below hx B)
  have kg' := (B.cell (World.block_lt_of_cell? _ _ kg)).trans kg
  simp only at hC
  generalize termB (kdTm.l x) = R at hC ⊢
  clear hx hf
  go_enter Tryz.func141, Tryz.ntmps141
  go_wp2_with (go_at_call 114; refine hC.mono ?_; rintro e w1 ⟨rfl, hb⟩)
  go_ret
  exact ⟨ret_bool (by simp), Rw.next B hb⟩
set_option maxHeartbeats 1000000 in
theorem indexTm (hf : Says kdTm 114 (fun x : Tm => .agg #[.string x.v, .int .i64 x.n, .string x.s]) termB) (s : Sl Tm) (w : World) (h : Rd kdTm 0 w s) (g : Nat) (kg : w.cell? ⟨g, 0, none⟩ = some (.func (.func 114) #[] #[])) :
    Calls Tryz.prog 158 #[.slice s.a s.Q.length s.c, .func (.func 141) #[] #[.pointer (some ⟨g, 0, none⟩)]] w fun e w' => Below w.heap.size w w' ∧ ∃ r : Int, e = .returned (.int .i64 r) ∧ (!decide (0 ≤ r)) = (told kdTm s.Q).all termB := by
  have HB : Hid (∀ k, k < s.Q.length → termB (kdTm.l (s.Q.getD k tm0)) = false → (told kdTm s.Q).all termB = false) := fun k hk h => all_bad hk h
  have HG : Hid ((∀ i, i < s.Q.length → termB (kdTm.l (s.Q.getD i tm0)) = true) → (told kdTm s.Q).all termB = true) := fun h => all_at h
  generalize (told kdTm s.Q).all termB = R at HB HG ⊢
  have HF : Hid (∀ i, i < s.Q.length → ∀ x, x = s.Q.getD i tm0 → ∀ W, Below w.heap.size w W → Calls Tryz.prog 141 #[.agg #[.string x.v, .int .i64 x.n, .string x.s], .pointer (some ⟨g, 0, none⟩)] W fun e w' => e = .returned (.bool (!termB (kdTm.l x))) ∧ Below W.heap.size W w') := fun i hi x hx W hb => by
    rw [hx]; exact cloTm hf _ W (ok_below (h.ok i hi) hb) g ((hb.cell (World.block_lt_of_cell? _ _ kg)).trans kg)
  obtain ⟨sa, sb, so, sc, sQ⟩ := s
  simp only at HB HG HF ⊢
  obtain ⟨n, hn⟩ : ∃ n, n = sQ.length := ⟨_, rfl⟩
  have hm : n ≤ maxLen := by rw [hn]; exact h.len
  unfold maxLen at hm
  rw [← hn] at HB HG HF ⊢
  have HN : Hid (n = sQ.length) := hn
  clear hn kg hf
  go_enter Tryz.func158, Tryz.ntmps158
  go_wp2
  go_loopw [8] (fun i wr => ∃ k : Nat, k ≤ n ∧ i = .int .i64 k ∧ Below w.heap.size w wr ∧ ∀ i, i < k → termB (kdTm.l (sQ.getD i tm0)) = true) (fun i _ => n - (intOf i).toNat)
  case atStart => exact ⟨0, Nat.zero_le _, rfl, Below.refl _ _, fun i hi => by omega⟩
  case round =>
    obtain ⟨k, hk, rfl, hbel, hpre⟩ := hrel
    have HP : Hid (∀ i, i < k → termB (kdTm.l (sQ.getD i tm0)) = true) := hpre
    clear hpre
    by_cases hlt : k < n
    · have hh := h.head (by have := HN.out; simp only; omega)
      have hkz : (k : Int) < (n : Int) := by omega
      obtain ⟨c0, c1, c2⟩ := cellsTm (h.below hbel) (i := k) (by have := HN.out; simp only; omega)
      try simp only at hh c0 c1 c2
      obtain rfl := hh
      have HB1 : Hid (termB (kdTm.l (sQ.getD k tm0)) = false → R = false) := HB.out k hlt
      have HX : Hid (termB (kdTm.l (sQ.getD k tm0)) = true → ∀ i, i < k + 1 → termB (kdTm.l (sQ.getD i tm0)) = true) := fun h i hi => by
        by_cases e : i = k
        · subst e; exact h
        · exact HP.out i (by omega)
      have hU := HF.out k hlt _ rfl wr hbel
      clear h HF HB HN
      generalize termB (kdTm.l (sQ.getD k tm0)) = V at hU HB1 HX
      generalize sQ.getD k tm0 = x at c0 c1 c2 hU
      cases hv : V with
      | true =>
        rw [hv] at hU
        go_wp2_with (go_at_call 141; refine hU.mono ?_; rintro e w1 ⟨rfl, hb⟩)
        go_roundw
        case rel => exact ⟨k + 1, by omega, by go_num, Rw.next hbel hb, HX.out hv⟩
        case measure => simp [intOf]; omega
      | false =>
        rw [hv] at hU
        go_wp2_with (go_at_call 141; refine hU.mono ?_; rintro e w1 ⟨rfl, hb⟩)
        go_ret
        exact ⟨Rw.next hbel hb, _, rfl, by rw [HB1.out hv]; simp⟩
    · have he : k = n := by omega
      subst he
      clear h
      go_wp2
      go_ret
      exact ⟨hbel, _, rfl, by rw [HG.out HP.out]; rfl⟩
theorem containsTm (hf : Says kdTm 114 (fun x : Tm => .agg #[.string x.v, .int .i64 x.n, .string x.s]) termB) (s : Sl Tm) (w : World) (h : Rd kdTm 0 w s) (g : Nat) (kg : w.cell? ⟨g, 0, none⟩ = some (.func (.func 114) #[] #[])) :
    Calls Tryz.prog 140 #[.slice s.a s.Q.length s.c, .func (.func 141) #[] #[.pointer (some ⟨g, 0, none⟩)]] w fun e w' => e = .returned (.bool (!(told kdTm s.Q).all termB)) ∧ Below w.heap.size w w' := by
  have hi := indexTm hf s w h g kg
  generalize (told kdTm s.Q).all termB = R at hi ⊢
  clear h kg hf
  go_enter Tryz.func140, Tryz.ntmps140
  go_wp2_with (go_at_call 158; refine hi.mono ?_; rintro e w1 ⟨hb, r, rfl, hr⟩; have HR : Hid ((!decide (0 ≤ r)) = R) := hr; clear hr)
  go_ret
  exact ⟨ret_bool (by rw [← HR.out]; simp), hb⟩
set_option maxHeartbeats 1000000 in
theorem listTm (hf : Says kdTm 114 (fun x : Tm => .agg #[.string x.v, .int .i64 x.n, .string x.s]) termB) (s : Sl Tm) (m : Nat) (hm : m ≤ 100) (w : World) (h : Rd kdTm 0 w s) :
    Calls Tryz.prog 113 #[.slice s.a s.Q.length s.c, .int .i64 m, .func (.func 114) #[] #[]] w fun e w' => e = .returned (.bool (decide (s.Q.length ≤ m) && (told kdTm s.Q).all termB)) ∧ Below w.heap.size w w' := by
  have B := below_alloc1 w (.cells #[.func (.func 114) #[] #[]] 157)
  have hi := containsTm hf s _ (h.below B) w.heap.size (one (at_new rfl))
  generalize (told kdTm s.Q).all termB = R at hi ⊢
  obtain ⟨n, hn⟩ : ∃ n, n = s.Q.length := ⟨_, rfl⟩
  have hl := h.len
  rw [← hn] at hi hl ⊢
  unfold maxLen at hl
  clear hn h hf
  by_cases hle : n ≤ m
  · have hz : (n : Int) ≤ (m : Int) := by omega
    have hd : decide (n ≤ m) = true := by simp [hle]
    rw [hd]
    clear hd hle
    cases R
    all_goals
      go_enter Tryz.func113, Tryz.ntmps113
      go_wp2_with (go_at_call 140; refine hi.mono ?_; rintro e w1 ⟨rfl, hb⟩)
      go_ret
      exact ⟨rfl, Rw.next B hb⟩
  · have hz : ¬ (n : Int) ≤ (m : Int) := by omega
    have hd : decide (n ≤ m) = false := by simp [hle]
    rw [hd]
    clear hd hle hi
    go_enter Tryz.func113, Tryz.ntmps113
    go_wp2
    go_ret
    exact ⟨rfl, B⟩
set_option maxHeartbeats 2000000 in
theorem atomI_any (x : Atm) (w : World) (hx : x.Ok 0 w) : Calls Tryz.prog 85 #[.agg #[.string x.s, .slice x.A.a x.A.Q.length x.A.c]] w fun e w' => e = .returned (.bool (atomB x.l)) ∧ Below w.heap.size w w' := by
  have B := below_alloc1 w (.cells #[.string x.s, .slice x.A.a x.A.Q.length x.A.c] 52)
  have k0 : (w.alloc (.cells #[.string x.s, .slice x.A.a x.A.Q.length x.A.c] 52)).heap[w.heap.size]? = some (.cells #[.string x.s, .slice x.A.a x.A.Q.length x.A.c] 52 (0, 0)) := at_new rfl
  have hn := fun W => nameI_any x.s W hx.1
  have hl := fun W hb => listTm (fun x w hx => termI_any x w hx) x.A 6 (by decide) W (hx.2.below hb)
  have e : atomB x.l = (nameB x.s && (decide (x.A.Q.length ≤ 6) && (told kdTm x.A.Q).all termB)) := by rw [told_tm]; rfl
  rw [e]
  generalize nameB x.s = N at hn ⊢
  generalize (decide (x.A.Q.length ≤ 6) && (told kdTm x.A.Q).all termB) = U at hl ⊢
  clear e hx
  cases N
  all_goals
    go_enter Tryz.func85, Tryz.ntmps85
    go_wp2_with (first
      | (go_at_call 81; refine (hn _).mono ?_; rintro e w1 ⟨rfl, hw⟩; replace hw := hw.symm; subst hw)
      | (go_at_call 113; refine (hl _ B).mono ?_; rintro e w2 ⟨rfl, hb⟩; replace B := Rw.next B hb))
    go_ret
    exact ⟨ret_bool (by simp), B⟩
theorem noI_any (x : Atm) (w : World) (hl : x.A.Q.length ≤ maxLen) : Calls Tryz.prog 116 #[.agg #[.string x.s, .slice x.A.a x.A.Q.length x.A.c]] w fun e w' => e = .returned (.bool (decide (x.s = ⟨#[]⟩ ∧ x.A.Q.length = 0))) ∧ Below w.heap.size w w' := by
  have B := below_alloc1 w (.cells #[.string x.s, .slice x.A.a x.A.Q.length x.A.c] 52)
  unfold maxLen at hl
  have he := emp x.s
  generalize x.A.Q.length = n at hl B ⊢
  cases h1 : x.s.toList.isEmpty with
  | true =>
    have hs : x.s = ⟨#[]⟩ := he.1 h1
    have hd : decide (x.s = ⟨#[]⟩ ∧ n = 0) = decide (n = 0) := by simp [hs]
    rw [hd]
    clear hd hs he
    by_cases h0 : n = 0
    · subst h0
      go_enter Tryz.func116, Tryz.ntmps116
      go_wp2
      go_ret
      exact ⟨rfl, B⟩
    · have hz : ((n : Int) == 0) = false := by simp; omega
      go_enter Tryz.func116, Tryz.ntmps116
      go_wp2
      go_ret
      exact ⟨ret_bool (by simp [h0]), B⟩
  | false =>
    have hs : ¬ x.s = ⟨#[]⟩ := fun q => by rw [he.2 q] at h1; cases h1
    have hd : decide (x.s = ⟨#[]⟩ ∧ n = 0) = false := by simp [hs]
    rw [hd]
    clear hd hs he
    go_enter Tryz.func116, Tryz.ntmps116
    go_wp2
    go_ret
    exact ⟨rfl, B⟩
set_option maxHeartbeats 4000000 in
theorem litI_any : Says kdLm 87 (fun x : Lm => .agg #[.int .i64 x.k, .string x.h.s, .slice x.h.A.a x.h.A.Q.length x.h.A.c, .int .i64 x.op, .string x.p.v, .int .i64 x.p.n, .string x.p.s, .string x.q.v, .int .i64 x.q.n, .string x.q.s]) litB := by
  intro x w hx
  have B := below_alloc1 w (.cells #[.int .i64 x.k, .string x.h.s, .slice x.h.A.a x.h.A.Q.length x.h.A.c, .int .i64 x.op, .string x.p.v, .int .i64 x.p.n, .string x.p.s, .string x.q.v, .int .i64 x.q.n, .string x.q.s] 96)
  have k0 : (w.alloc (.cells #[.int .i64 x.k, .string x.h.s, .slice x.h.A.a x.h.A.Q.length x.h.A.c, .int .i64 x.op, .string x.p.v, .int .i64 x.p.n, .string x.p.s, .string x.q.v, .int .i64 x.q.n, .string x.q.s] 96)).heap[w.heap.size]? = some (.cells #[.int .i64 x.k, .string x.h.s, .slice x.h.A.a x.h.A.Q.length x.h.A.c, .int .i64 x.op, .string x.p.v, .int .i64 x.p.n, .string x.p.s, .string x.q.v, .int .i64 x.q.n, .string x.q.s] 96 (0, 0)) := at_new rfl
  have hA := fun W hb => atomI_any x.h W (hx.1.below hb)
  have hN := fun W => noI_any x.h W hx.1.2.len
  have hp := fun W => termI_any x.p W hx.2.1
  have hq := fun W => termI_any x.q W hx.2.2
  have zp := run_eqT x.p
  have zq := run_eqT x.q
  show Calls Tryz.prog 87 #[.agg #[.int .i64 x.k, .string x.h.s, .slice x.h.A.a x.h.A.Q.length x.h.A.c, .int .i64 x.op, .string x.p.v, .int .i64 x.p.n, .string x.p.s, .string x.q.v, .int .i64 x.q.n, .string x.q.s]] w fun e w' => e = .returned (.bool (litB x.l)) ∧ Below w.heap.size w w'
  have HL : Hid (litB x.l = if x.k = 3 then decide (x.h.s = ⟨#[]⟩ ∧ x.h.A.Q.length = 0 ∧ 1 ≤ x.op ∧ x.op ≤ 4) && (termB x.p && termB x.q) else decide (x.k = 1 ∨ x.k = 2) && (atomB x.h.l && (decide (x.op = 0) && (zeroT x.p && zeroT x.q)))) := rfl
  generalize litB x.l = R at HL ⊢
  generalize zeroT x.p = ZP at zp HL
  generalize zeroT x.q = ZQ at zq HL
  generalize termB x.p = TP at hp HL
  generalize termB x.q = TQ at hq HL
  generalize atomB x.h.l = AB at hA HL
  clear hx
  by_cases h3 : x.k = 3
  · have HR : R = (decide (x.h.s = ⟨#[]⟩ ∧ x.h.A.Q.length = 0 ∧ 1 ≤ x.op ∧ x.op ≤ 4) && (TP && TQ)) := by rw [HL.out, if_pos h3]
    rw [h3] at k0 B ⊢
    have e31 : ((3 : Int) == 1) = false := by decide
    clear HL
    by_cases hn : x.h.s = ⟨#[]⟩ ∧ x.h.A.Q.length = 0
    · have hd : decide (x.h.s = ⟨#[]⟩ ∧ x.h.A.Q.length = 0) = true := by simpa using hn
      rw [hd] at hN
      have HO : R = (decide (1 ≤ x.op ∧ x.op ≤ 4) && (TP && TQ)) := by rw [HR]; congr 1; simp [hn.1, hn.2]
      clear HR hn hd
      by_cases o1 : 1 ≤ x.op
      · by_cases o2 : x.op ≤ 4
        · have HT : R = (TP && TQ) := by rw [HO]; simp [o1, o2]
          clear HO
          subst HT
          cases TP <;> cases TQ
          all_goals
            have t1 : True := trivial
            have t2 : True := trivial
            go_enter Tryz.func87, Tryz.ntmps87
            go_wp2_with (first
              | (go_at_call 116; refine (hN _).mono ?_; rintro e w1 ⟨rfl, hb⟩; replace B := Rw.next B hb; replace k0 := (hb.block w.heap.size (blk_lt k0)).trans k0; have c0 := blk_cell k0 0 rfl; have c1 := blk_cell k0 1 rfl; have c2 := blk_cell k0 2 rfl; have c3 := blk_cell k0 3 rfl; have c4 := blk_cell k0 4 rfl; have c5 := blk_cell k0 5 rfl; have c6 := blk_cell k0 6 rfl; have c7 := blk_cell k0 7 rfl; have c8 := blk_cell k0 8 rfl; have c9 := blk_cell k0 9 rfl)
              | (clear t1; go_at_call 114; refine (hp _).mono ?_; rintro e w2 ⟨rfl, hb⟩; replace B := Rw.next B hb; replace k0 := (hb.block w.heap.size (blk_lt k0)).trans k0; have d0 := blk_cell k0 0 rfl; have d1 := blk_cell k0 1 rfl; have d2 := blk_cell k0 2 rfl; have d3 := blk_cell k0 3 rfl; have d4 := blk_cell k0 4 rfl; have d5 := blk_cell k0 5 rfl; have d6 := blk_cell k0 6 rfl; have d7 := blk_cell k0 7 rfl; have d8 := blk_cell k0 8 rfl; have d9 := blk_cell k0 9 rfl)
              | (clear t2; go_at_call 114; refine (hq _).mono ?_; rintro e w3 ⟨rfl, hb⟩; replace B := Rw.next B hb))
            go_ret
            exact ⟨rfl, B⟩
        · obtain rfl : R = false := by rw [HO]; simp [o2]
          clear HO
          go_enter Tryz.func87, Tryz.ntmps87
          go_wp2_with (go_at_call 116; refine (hN _).mono ?_; rintro e w1 ⟨rfl, hb⟩; replace B := Rw.next B hb; replace k0 := (hb.block w.heap.size (blk_lt k0)).trans k0; have c0 := blk_cell k0 0 rfl; have c1 := blk_cell k0 1 rfl; have c2 := blk_cell k0 2 rfl; have c3 := blk_cell k0 3 rfl; have c4 := blk_cell k0 4 rfl; have c5 := blk_cell k0 5 rfl; have c6 := blk_cell k0 6 rfl; have c7 := blk_cell k0 7 rfl; have c8 := blk_cell k0 8 rfl; have c9 := blk_cell k0 9 rfl)
          go_ret
          exact ⟨rfl, B⟩
      · obtain rfl : R = false := by rw [HO]; simp [o1]
        clear HO
        go_enter Tryz.func87, Tryz.ntmps87
        go_wp2_with (go_at_call 116; refine (hN _).mono ?_; rintro e w1 ⟨rfl, hb⟩; replace B := Rw.next B hb; replace k0 := (hb.block w.heap.size (blk_lt k0)).trans k0; have c0 := blk_cell k0 0 rfl; have c1 := blk_cell k0 1 rfl; have c2 := blk_cell k0 2 rfl; have c3 := blk_cell k0 3 rfl; have c4 := blk_cell k0 4 rfl; have c5 := blk_cell k0 5 rfl; have c6 := blk_cell k0 6 rfl; have c7 := blk_cell k0 7 rfl; have c8 := blk_cell k0 8 rfl; have c9 := blk_cell k0 9 rfl)
        go_ret
        exact ⟨rfl, B⟩
    · have hd : decide (x.h.s = ⟨#[]⟩ ∧ x.h.A.Q.length = 0) = false := by simpa using hn
      rw [hd] at hN
      obtain rfl : R = false := by rw [HR, show decide (x.h.s = ⟨#[]⟩ ∧ x.h.A.Q.length = 0 ∧ 1 ≤ x.op ∧ x.op ≤ 4) = false by rw [decide_eq_false_iff_not]; exact fun q => hn ⟨q.1, q.2.1⟩]; rfl
      clear HR hn hd
      go_enter Tryz.func87, Tryz.ntmps87
      go_wp2_with (go_at_call 116; refine (hN _).mono ?_; rintro e w1 ⟨rfl, hb⟩; replace B := Rw.next B hb; replace k0 := (hb.block w.heap.size (blk_lt k0)).trans k0; have c0 := blk_cell k0 0 rfl; have c1 := blk_cell k0 1 rfl; have c2 := blk_cell k0 2 rfl; have c3 := blk_cell k0 3 rfl; have c4 := blk_cell k0 4 rfl; have c5 := blk_cell k0 5 rfl; have c6 := blk_cell k0 6 rfl; have c7 := blk_cell k0 7 rfl; have c8 := blk_cell k0 8 rfl; have c9 := blk_cell k0 9 rfl)
      go_ret
      exact ⟨rfl, B⟩
  · by_cases h1 : x.k = 1 ∨ x.k = 2
    · have HR : R = (AB && (decide (x.op = 0) && (ZP && ZQ))) := by rw [HL.out, if_neg h3]; simp [h1]
      clear HL h3
      rcases h1 with h1 | h1
      all_goals
        rw [h1] at k0 B ⊢
        clear h1
        cases hAB : AB with
        | false =>
          rw [hAB] at HR hA
          obtain rfl : R = false := by rw [HR]; rfl
          clear HR hAB
          go_enter Tryz.func87, Tryz.ntmps87
          go_wp2_with (go_at_call 85; refine (hA _ B).mono ?_; rintro e w1 ⟨rfl, hb⟩; replace B := Rw.next B hb; replace k0 := (hb.block w.heap.size (blk_lt k0)).trans k0; have c0 := blk_cell k0 0 rfl; have c1 := blk_cell k0 1 rfl; have c2 := blk_cell k0 2 rfl; have c3 := blk_cell k0 3 rfl; have c4 := blk_cell k0 4 rfl; have c5 := blk_cell k0 5 rfl; have c6 := blk_cell k0 6 rfl; have c7 := blk_cell k0 7 rfl; have c8 := blk_cell k0 8 rfl; have c9 := blk_cell k0 9 rfl)
          go_ret
          exact ⟨rfl, B⟩
        | true =>
          rw [hAB] at HR hA
          clear hAB
          by_cases h0 : x.op = 0
          · rw [h0] at k0 B HR ⊢
            have HS : R = (ZP && ZQ) := by rw [HR]; simp
            clear HR h0
            subst HS
            cases ZP <;> cases ZQ
            all_goals
              go_enter Tryz.func87, Tryz.ntmps87
              go_wp2_with (go_at_call 85; refine (hA _ B).mono ?_; rintro e w1 ⟨rfl, hb⟩; replace B := Rw.next B hb; replace k0 := (hb.block w.heap.size (blk_lt k0)).trans k0; have c0 := blk_cell k0 0 rfl; have c1 := blk_cell k0 1 rfl; have c2 := blk_cell k0 2 rfl; have c3 := blk_cell k0 3 rfl; have c4 := blk_cell k0 4 rfl; have c5 := blk_cell k0 5 rfl; have c6 := blk_cell k0 6 rfl; have c7 := blk_cell k0 7 rfl; have c8 := blk_cell k0 8 rfl; have c9 := blk_cell k0 9 rfl)
              go_ret
              exact ⟨rfl, B⟩
          · obtain rfl : R = false := by rw [HR]; simp [h0]
            have hz : (x.op == 0) = false := by simpa using h0
            clear HR h0
            go_enter Tryz.func87, Tryz.ntmps87
            go_wp2_with (go_at_call 85; refine (hA _ B).mono ?_; rintro e w1 ⟨rfl, hb⟩; replace B := Rw.next B hb; replace k0 := (hb.block w.heap.size (blk_lt k0)).trans k0; have c0 := blk_cell k0 0 rfl; have c1 := blk_cell k0 1 rfl; have c2 := blk_cell k0 2 rfl; have c3 := blk_cell k0 3 rfl; have c4 := blk_cell k0 4 rfl; have c5 := blk_cell k0 5 rfl; have c6 := blk_cell k0 6 rfl; have c7 := blk_cell k0 7 rfl; have c8 := blk_cell k0 8 rfl; have c9 := blk_cell k0 9 rfl)
            go_ret
            exact ⟨rfl, B⟩
    · obtain rfl : R = false := by rw [HL.out, if_neg h3]; simp [h1]
      have z1 : (x.k == 1) = false := by simp; omega
      have z2 : (x.k == 2) = false := by simp; omega
      have z3 : (x.k == 3) = false := by simpa using h3
      clear HL h1 h3
      go_enter Tryz.func87, Tryz.ntmps87
      go_wp2
      go_ret
      exact ⟨rfl, B⟩

set_option maxHeartbeats 1000000 in
theorem cloLm (hf : Says kdLm 87 (fun x : Lm => .agg #[.int .i64 x.k, .string x.h.s, .slice x.h.A.a x.h.A.Q.length x.h.A.c, .int .i64 x.op, .string x.p.v, .int .i64 x.p.n, .string x.p.s, .string x.q.v, .int .i64 x.q.n, .string x.q.s]) litB) (x : Lm) (w : World) (hx : kdLm.ok 0 w x) (g : Nat) (kg : w.cell? ⟨g, 0, none⟩ = some (.func (.func 87) #[] #[])) :
    Calls Tryz.prog 115 #[.agg #[.int .i64 x.k, .string x.h.s, .slice x.h.A.a x.h.A.Q.length x.h.A.c, .int .i64 x.op, .string x.p.v, .int .i64 x.p.n, .string x.p.s, .string x.q.v, .int .i64 x.q.n, .string x.q.s], .pointer (some ⟨g, 0, none⟩)] w fun e w' => e = .returned (.bool (!litB (kdLm.l x))) ∧ Below w.heap.size w w' := by
  have B := below_alloc1 w (.cells #[.int .i64 x.k, .string x.h.s, .slice x.h.A.a x.h.A.Q.length x.h.A.c, .int .i64 x.op, .string x.p.v, .int .i64 x.p.n, .string x.p.s, .string x.q.v, .int .i64 x.q.n, .string x.q.s] 96)
  have hC := hf x _ (ok_below hx B)
  have kg' := (B.cell (World.block_lt_of_cell? _ _ kg)).trans kg
  simp only at hC
  generalize litB (kdLm.l x) = R at hC ⊢
  clear hx hf
  go_enter Tryz.func115, Tryz.ntmps115
  go_wp2_with (go_at_call 87; refine hC.mono ?_; rintro e w1 ⟨rfl, hb⟩)
  go_ret
  exact ⟨ret_bool (by simp), Rw.next B hb⟩
set_option maxHeartbeats 1000000 in
theorem indexLm (hf : Says kdLm 87 (fun x : Lm => .agg #[.int .i64 x.k, .string x.h.s, .slice x.h.A.a x.h.A.Q.length x.h.A.c, .int .i64 x.op, .string x.p.v, .int .i64 x.p.n, .string x.p.s, .string x.q.v, .int .i64 x.q.n, .string x.q.s]) litB) (s : Sl Lm) (w : World) (h : Rd kdLm 0 w s) (g : Nat) (kg : w.cell? ⟨g, 0, none⟩ = some (.func (.func 87) #[] #[])) :
    Calls Tryz.prog 89 #[.slice s.a s.Q.length s.c, .func (.func 115) #[] #[.pointer (some ⟨g, 0, none⟩)]] w fun e w' => Below w.heap.size w w' ∧ ∃ r : Int, e = .returned (.int .i64 r) ∧ (!decide (0 ≤ r)) = (told kdLm s.Q).all litB := by
  have HB : Hid (∀ k, k < s.Q.length → litB (kdLm.l (s.Q.getD k lm0)) = false → (told kdLm s.Q).all litB = false) := fun k hk h => all_bad hk h
  have HG : Hid ((∀ i, i < s.Q.length → litB (kdLm.l (s.Q.getD i lm0)) = true) → (told kdLm s.Q).all litB = true) := fun h => all_at h
  generalize (told kdLm s.Q).all litB = R at HB HG ⊢
  have HF : Hid (∀ i, i < s.Q.length → ∀ x, x = s.Q.getD i lm0 → ∀ W, Below w.heap.size w W → Calls Tryz.prog 115 #[.agg #[.int .i64 x.k, .string x.h.s, .slice x.h.A.a x.h.A.Q.length x.h.A.c, .int .i64 x.op, .string x.p.v, .int .i64 x.p.n, .string x.p.s, .string x.q.v, .int .i64 x.q.n, .string x.q.s], .pointer (some ⟨g, 0, none⟩)] W fun e w' => e = .returned (.bool (!litB (kdLm.l x))) ∧ Below W.heap.size W w') := fun i hi x hx W hb => by
    rw [hx]; exact cloLm hf _ W (ok_below (h.ok i hi) hb) g ((hb.cell (World.block_lt_of_cell? _ _ kg)).trans kg)
  obtain ⟨sa, sb, so, sc, sQ⟩ := s
  simp only at HB HG HF ⊢
  obtain ⟨n, hn⟩ : ∃ n, n = sQ.length := ⟨_, rfl⟩
  have hm : n ≤ maxLen := by rw [hn]; exact h.len
  unfold maxLen at hm
  rw [← hn] at HB HG HF ⊢
  have HN : Hid (n = sQ.length) := hn
  clear hn kg hf
  go_enter Tryz.func89, Tryz.ntmps89
  go_wp2
  go_loopw [8] (fun i wr => ∃ k : Nat, k ≤ n ∧ i = .int .i64 k ∧ Below w.heap.size w wr ∧ ∀ i, i < k → litB (kdLm.l (sQ.getD i lm0)) = true) (fun i _ => n - (intOf i).toNat)
  case atStart => exact ⟨0, Nat.zero_le _, rfl, Below.refl _ _, fun i hi => by omega⟩
  case round =>
    obtain ⟨k, hk, rfl, hbel, hpre⟩ := hrel
    have HP : Hid (∀ i, i < k → litB (kdLm.l (sQ.getD i lm0)) = true) := hpre
    clear hpre
    by_cases hlt : k < n
    · have hh := h.head (by have := HN.out; simp only; omega)
      have hkz : (k : Int) < (n : Int) := by omega
      obtain ⟨c0, c1, c2, c3, c4, c5, c6, c7, c8, c9⟩ := cellsLm (h.below hbel) (i := k) (by have := HN.out; simp only; omega)
      try simp only at hh c0 c1 c2 c3 c4 c5 c6 c7 c8 c9
      obtain rfl := hh
      have HB1 : Hid (litB (kdLm.l (sQ.getD k lm0)) = false → R = false) := HB.out k hlt
      have HX : Hid (litB (kdLm.l (sQ.getD k lm0)) = true → ∀ i, i < k + 1 → litB (kdLm.l (sQ.getD i lm0)) = true) := fun h i hi => by
        by_cases e : i = k
        · subst e; exact h
        · exact HP.out i (by omega)
      have hU := HF.out k hlt _ rfl wr hbel
      clear h HF HB HN
      generalize litB (kdLm.l (sQ.getD k lm0)) = V at hU HB1 HX
      generalize sQ.getD k lm0 = x at c0 c1 c2 c3 c4 c5 c6 c7 c8 c9 hU
      cases hv : V with
      | true =>
        rw [hv] at hU
        go_wp2_with (go_at_call 115; refine hU.mono ?_; rintro e w1 ⟨rfl, hb⟩)
        go_roundw
        case rel => exact ⟨k + 1, by omega, by go_num, Rw.next hbel hb, HX.out hv⟩
        case measure => simp [intOf]; omega
      | false =>
        rw [hv] at hU
        go_wp2_with (go_at_call 115; refine hU.mono ?_; rintro e w1 ⟨rfl, hb⟩)
        go_ret
        exact ⟨Rw.next hbel hb, _, rfl, by rw [HB1.out hv]; simp⟩
    · have he : k = n := by omega
      subst he
      clear h
      go_wp2
      go_ret
      exact ⟨hbel, _, rfl, by rw [HG.out HP.out]; rfl⟩
theorem containsLm (hf : Says kdLm 87 (fun x : Lm => .agg #[.int .i64 x.k, .string x.h.s, .slice x.h.A.a x.h.A.Q.length x.h.A.c, .int .i64 x.op, .string x.p.v, .int .i64 x.p.n, .string x.p.s, .string x.q.v, .int .i64 x.q.n, .string x.q.s]) litB) (s : Sl Lm) (w : World) (h : Rd kdLm 0 w s) (g : Nat) (kg : w.cell? ⟨g, 0, none⟩ = some (.func (.func 87) #[] #[])) :
    Calls Tryz.prog 55 #[.slice s.a s.Q.length s.c, .func (.func 115) #[] #[.pointer (some ⟨g, 0, none⟩)]] w fun e w' => e = .returned (.bool (!(told kdLm s.Q).all litB)) ∧ Below w.heap.size w w' := by
  have hi := indexLm hf s w h g kg
  generalize (told kdLm s.Q).all litB = R at hi ⊢
  clear h kg hf
  go_enter Tryz.func55, Tryz.ntmps55
  go_wp2_with (go_at_call 89; refine hi.mono ?_; rintro e w1 ⟨hb, r, rfl, hr⟩; have HR : Hid ((!decide (0 ≤ r)) = R) := hr; clear hr)
  go_ret
  exact ⟨ret_bool (by rw [← HR.out]; simp), hb⟩
set_option maxHeartbeats 1000000 in
theorem listLm (hf : Says kdLm 87 (fun x : Lm => .agg #[.int .i64 x.k, .string x.h.s, .slice x.h.A.a x.h.A.Q.length x.h.A.c, .int .i64 x.op, .string x.p.v, .int .i64 x.p.n, .string x.p.s, .string x.q.v, .int .i64 x.q.n, .string x.q.s]) litB) (s : Sl Lm) (m : Nat) (hm : m ≤ 100) (w : World) (h : Rd kdLm 0 w s) :
    Calls Tryz.prog 86 #[.slice s.a s.Q.length s.c, .int .i64 m, .func (.func 87) #[] #[]] w fun e w' => e = .returned (.bool (decide (s.Q.length ≤ m) && (told kdLm s.Q).all litB)) ∧ Below w.heap.size w w' := by
  have B := below_alloc1 w (.cells #[.func (.func 87) #[] #[]] 107)
  have hi := containsLm hf s _ (h.below B) w.heap.size (one (at_new rfl))
  generalize (told kdLm s.Q).all litB = R at hi ⊢
  obtain ⟨n, hn⟩ : ∃ n, n = s.Q.length := ⟨_, rfl⟩
  have hl := h.len
  rw [← hn] at hi hl ⊢
  unfold maxLen at hl
  clear hn h hf
  by_cases hle : n ≤ m
  · have hz : (n : Int) ≤ (m : Int) := by omega
    have hd : decide (n ≤ m) = true := by simp [hle]
    rw [hd]
    clear hd hle
    cases R
    all_goals
      go_enter Tryz.func86, Tryz.ntmps86
      go_wp2_with (go_at_call 55; refine hi.mono ?_; rintro e w1 ⟨rfl, hb⟩)
      go_ret
      exact ⟨rfl, Rw.next B hb⟩
  · have hz : ¬ (n : Int) ≤ (m : Int) := by omega
    have hd : decide (n ≤ m) = false := by simp [hle]
    rw [hd]
    clear hd hle hi
    go_enter Tryz.func86, Tryz.ntmps86
    go_wp2
    go_ret
    exact ⟨rfl, B⟩
set_option maxHeartbeats 4000000 in
theorem ruleI_any : Says kdRm 49 (fun x : Rm => .agg #[.int .i64 x.k, .string x.h.s, .slice x.h.A.a x.h.A.Q.length x.h.A.c, .slice x.B.a x.B.Q.length x.B.c]) ruleB := by
  intro x w hx
  have B := below_alloc1 w (.cells #[.int .i64 x.k, .string x.h.s, .slice x.h.A.a x.h.A.Q.length x.h.A.c, .slice x.B.a x.B.Q.length x.B.c] 55)
  have k0 : (w.alloc (.cells #[.int .i64 x.k, .string x.h.s, .slice x.h.A.a x.h.A.Q.length x.h.A.c, .slice x.B.a x.B.Q.length x.B.c] 55)).heap[w.heap.size]? = some (.cells #[.int .i64 x.k, .string x.h.s, .slice x.h.A.a x.h.A.Q.length x.h.A.c, .slice x.B.a x.B.Q.length x.B.c] 55 (0, 0)) := at_new rfl
  have hA := fun W hb => atomI_any x.h W (hx.1.below hb)
  have hl := fun W hb => listLm litI_any x.B 8 (by decide) W (hx.2.below hb)
  show Calls Tryz.prog 49 #[.agg #[.int .i64 x.k, .string x.h.s, .slice x.h.A.a x.h.A.Q.length x.h.A.c, .slice x.B.a x.B.Q.length x.B.c]] w fun e w' => e = .returned (.bool (ruleB x.l)) ∧ Below w.heap.size w w'
  have HL : Hid (ruleB x.l = (decide (1 ≤ x.k ∧ x.k ≤ 3) && (atomB x.h.l && (decide (x.B.Q.length ≤ 8) && (told kdLm x.B.Q).all litB)))) := by
    show (decide (1 ≤ x.k ∧ x.k ≤ 3) && (atomB x.h.l && (decide ((told kdLm x.B.Q).length ≤ 8) && (told kdLm x.B.Q).all litB))) = _
    rw [told_len]
  generalize ruleB x.l = R at HL ⊢
  generalize atomB x.h.l = AB at hA HL
  generalize (decide (x.B.Q.length ≤ 8) && (told kdLm x.B.Q).all litB) = U at hl HL
  clear hx
  by_cases h1 : 1 ≤ x.k
  · by_cases h2 : x.k ≤ 3
    · have HR : R = (AB && U) := by rw [HL.out]; simp [h1, h2]
      clear HL
      subst HR
      cases AB <;> cases U
      all_goals
        go_enter Tryz.func49, Tryz.ntmps49
        go_wp2_with (first
          | (go_at_call 85; refine (hA _ B).mono ?_; rintro e w1 ⟨rfl, hb⟩; replace B := Rw.next B hb; replace k0 := (hb.block w.heap.size (blk_lt k0)).trans k0; have c0 := blk_cell k0 0 rfl; have c1 := blk_cell k0 1 rfl; have c2 := blk_cell k0 2 rfl; have c3 := blk_cell k0 3 rfl)
          | (go_at_call 86; refine (hl _ B).mono ?_; rintro e w2 ⟨rfl, hb⟩; replace B := Rw.next B hb))
        go_ret
        exact ⟨rfl, B⟩
    · obtain rfl : R = false := by rw [HL.out]; simp [h2]
      clear HL
      go_enter Tryz.func49, Tryz.ntmps49
      go_wp2
      go_ret
      exact ⟨rfl, B⟩
  · obtain rfl : R = false := by rw [HL.out]; simp [h1]
    clear HL
    go_enter Tryz.func49, Tryz.ntmps49
    go_wp2
    go_ret
    exact ⟨rfl, B⟩
set_option maxHeartbeats 1000000 in
theorem cloRm (hf : Says kdRm 49 (fun x : Rm => .agg #[.int .i64 x.k, .string x.h.s, .slice x.h.A.a x.h.A.Q.length x.h.A.c, .slice x.B.a x.B.Q.length x.B.c]) ruleB) (x : Rm) (w : World) (hx : kdRm.ok 0 w x) (g : Nat) (kg : w.cell? ⟨g, 0, none⟩ = some (.func (.func 49) #[] #[])) :
    Calls Tryz.prog 84 #[.agg #[.int .i64 x.k, .string x.h.s, .slice x.h.A.a x.h.A.Q.length x.h.A.c, .slice x.B.a x.B.Q.length x.B.c], .pointer (some ⟨g, 0, none⟩)] w fun e w' => e = .returned (.bool (!ruleB (kdRm.l x))) ∧ Below w.heap.size w w' := by
  have B := below_alloc1 w (.cells #[.int .i64 x.k, .string x.h.s, .slice x.h.A.a x.h.A.Q.length x.h.A.c, .slice x.B.a x.B.Q.length x.B.c] 55)
  have hC := hf x _ (ok_below hx B)
  have kg' := (B.cell (World.block_lt_of_cell? _ _ kg)).trans kg
  simp only at hC
  generalize ruleB (kdRm.l x) = R at hC ⊢
  clear hx hf
  go_enter Tryz.func84, Tryz.ntmps84
  go_wp2_with (go_at_call 49; refine hC.mono ?_; rintro e w1 ⟨rfl, hb⟩)
  go_ret
  exact ⟨ret_bool (by simp), Rw.next B hb⟩
set_option maxHeartbeats 1000000 in
theorem indexRm (hf : Says kdRm 49 (fun x : Rm => .agg #[.int .i64 x.k, .string x.h.s, .slice x.h.A.a x.h.A.Q.length x.h.A.c, .slice x.B.a x.B.Q.length x.B.c]) ruleB) (s : Sl Rm) (w : World) (h : Rd kdRm 0 w s) (g : Nat) (kg : w.cell? ⟨g, 0, none⟩ = some (.func (.func 49) #[] #[])) :
    Calls Tryz.prog 112 #[.slice s.a s.Q.length s.c, .func (.func 84) #[] #[.pointer (some ⟨g, 0, none⟩)]] w fun e w' => Below w.heap.size w w' ∧ ∃ r : Int, e = .returned (.int .i64 r) ∧ (!decide (0 ≤ r)) = (told kdRm s.Q).all ruleB := by
  have HB : Hid (∀ k, k < s.Q.length → ruleB (kdRm.l (s.Q.getD k rm0)) = false → (told kdRm s.Q).all ruleB = false) := fun k hk h => all_bad hk h
  have HG : Hid ((∀ i, i < s.Q.length → ruleB (kdRm.l (s.Q.getD i rm0)) = true) → (told kdRm s.Q).all ruleB = true) := fun h => all_at h
  generalize (told kdRm s.Q).all ruleB = R at HB HG ⊢
  have HF : Hid (∀ i, i < s.Q.length → ∀ x, x = s.Q.getD i rm0 → ∀ W, Below w.heap.size w W → Calls Tryz.prog 84 #[.agg #[.int .i64 x.k, .string x.h.s, .slice x.h.A.a x.h.A.Q.length x.h.A.c, .slice x.B.a x.B.Q.length x.B.c], .pointer (some ⟨g, 0, none⟩)] W fun e w' => e = .returned (.bool (!ruleB (kdRm.l x))) ∧ Below W.heap.size W w') := fun i hi x hx W hb => by
    rw [hx]; exact cloRm hf _ W (ok_below (h.ok i hi) hb) g ((hb.cell (World.block_lt_of_cell? _ _ kg)).trans kg)
  obtain ⟨sa, sb, so, sc, sQ⟩ := s
  simp only at HB HG HF ⊢
  obtain ⟨n, hn⟩ : ∃ n, n = sQ.length := ⟨_, rfl⟩
  have hm : n ≤ maxLen := by rw [hn]; exact h.len
  unfold maxLen at hm
  rw [← hn] at HB HG HF ⊢
  have HN : Hid (n = sQ.length) := hn
  clear hn kg hf
  go_enter Tryz.func112, Tryz.ntmps112
  go_wp2
  go_loopw [8] (fun i wr => ∃ k : Nat, k ≤ n ∧ i = .int .i64 k ∧ Below w.heap.size w wr ∧ ∀ i, i < k → ruleB (kdRm.l (sQ.getD i rm0)) = true) (fun i _ => n - (intOf i).toNat)
  case atStart => exact ⟨0, Nat.zero_le _, rfl, Below.refl _ _, fun i hi => by omega⟩
  case round =>
    obtain ⟨k, hk, rfl, hbel, hpre⟩ := hrel
    have HP : Hid (∀ i, i < k → ruleB (kdRm.l (sQ.getD i rm0)) = true) := hpre
    clear hpre
    by_cases hlt : k < n
    · have hh := h.head (by have := HN.out; simp only; omega)
      have hkz : (k : Int) < (n : Int) := by omega
      obtain ⟨c0, c1, c2, c3⟩ := cellsRm (h.below hbel) (i := k) (by have := HN.out; simp only; omega)
      try simp only at hh c0 c1 c2 c3
      obtain rfl := hh
      have HB1 : Hid (ruleB (kdRm.l (sQ.getD k rm0)) = false → R = false) := HB.out k hlt
      have HX : Hid (ruleB (kdRm.l (sQ.getD k rm0)) = true → ∀ i, i < k + 1 → ruleB (kdRm.l (sQ.getD i rm0)) = true) := fun h i hi => by
        by_cases e : i = k
        · subst e; exact h
        · exact HP.out i (by omega)
      have hU := HF.out k hlt _ rfl wr hbel
      clear h HF HB HN
      generalize ruleB (kdRm.l (sQ.getD k rm0)) = V at hU HB1 HX
      generalize sQ.getD k rm0 = x at c0 c1 c2 c3 hU
      cases hv : V with
      | true =>
        rw [hv] at hU
        go_wp2_with (go_at_call 84; refine hU.mono ?_; rintro e w1 ⟨rfl, hb⟩)
        go_roundw
        case rel => exact ⟨k + 1, by omega, by go_num, Rw.next hbel hb, HX.out hv⟩
        case measure => simp [intOf]; omega
      | false =>
        rw [hv] at hU
        go_wp2_with (go_at_call 84; refine hU.mono ?_; rintro e w1 ⟨rfl, hb⟩)
        go_ret
        exact ⟨Rw.next hbel hb, _, rfl, by rw [HB1.out hv]; simp⟩
    · have he : k = n := by omega
      subst he
      clear h
      go_wp2
      go_ret
      exact ⟨hbel, _, rfl, by rw [HG.out HP.out]; rfl⟩
theorem containsRm (hf : Says kdRm 49 (fun x : Rm => .agg #[.int .i64 x.k, .string x.h.s, .slice x.h.A.a x.h.A.Q.length x.h.A.c, .slice x.B.a x.B.Q.length x.B.c]) ruleB) (s : Sl Rm) (w : World) (h : Rd kdRm 0 w s) (g : Nat) (kg : w.cell? ⟨g, 0, none⟩ = some (.func (.func 49) #[] #[])) :
    Calls Tryz.prog 83 #[.slice s.a s.Q.length s.c, .func (.func 84) #[] #[.pointer (some ⟨g, 0, none⟩)]] w fun e w' => e = .returned (.bool (!(told kdRm s.Q).all ruleB)) ∧ Below w.heap.size w w' := by
  have hi := indexRm hf s w h g kg
  generalize (told kdRm s.Q).all ruleB = R at hi ⊢
  clear h kg hf
  go_enter Tryz.func83, Tryz.ntmps83
  go_wp2_with (go_at_call 112; refine hi.mono ?_; rintro e w1 ⟨hb, r, rfl, hr⟩; have HR : Hid ((!decide (0 ≤ r)) = R) := hr; clear hr)
  go_ret
  exact ⟨ret_bool (by rw [← HR.out]; simp), hb⟩
set_option maxHeartbeats 1000000 in
theorem listRm (hf : Says kdRm 49 (fun x : Rm => .agg #[.int .i64 x.k, .string x.h.s, .slice x.h.A.a x.h.A.Q.length x.h.A.c, .slice x.B.a x.B.Q.length x.B.c]) ruleB) (s : Sl Rm) (m : Nat) (hm : m ≤ 100) (w : World) (h : Rd kdRm 0 w s) :
    Calls Tryz.prog 48 #[.slice s.a s.Q.length s.c, .int .i64 m, .func (.func 49) #[] #[]] w fun e w' => e = .returned (.bool (decide (s.Q.length ≤ m) && (told kdRm s.Q).all ruleB)) ∧ Below w.heap.size w w' := by
  have B := below_alloc1 w (.cells #[.func (.func 49) #[] #[]] 86)
  have hi := containsRm hf s _ (h.below B) w.heap.size (one (at_new rfl))
  generalize (told kdRm s.Q).all ruleB = R at hi ⊢
  obtain ⟨n, hn⟩ : ∃ n, n = s.Q.length := ⟨_, rfl⟩
  have hl := h.len
  rw [← hn] at hi hl ⊢
  unfold maxLen at hl
  clear hn h hf
  by_cases hle : n ≤ m
  · have hz : (n : Int) ≤ (m : Int) := by omega
    have hd : decide (n ≤ m) = true := by simp [hle]
    rw [hd]
    clear hd hle
    cases R
    all_goals
      go_enter Tryz.func48, Tryz.ntmps48
      go_wp2_with (go_at_call 83; refine hi.mono ?_; rintro e w1 ⟨rfl, hb⟩)
      go_ret
      exact ⟨rfl, Rw.next B hb⟩
  · have hz : ¬ (n : Int) ≤ (m : Int) := by omega
    have hd : decide (n ≤ m) = false := by simp [hle]
    rw [hd]
    clear hd hle hi
    go_enter Tryz.func48, Tryz.ntmps48
    go_wp2
    go_ret
    exact ⟨rfl, B⟩
set_option maxHeartbeats 1000000 in
theorem cloDc (hf : Says kdDc 47 (fun x : Dc => .agg #[.int .i64 x.k, .string x.s, .int .i64 x.ar]) declB) (x : Dc) (w : World) (hx : kdDc.ok 0 w x) (g : Nat) (kg : w.cell? ⟨g, 0, none⟩ = some (.func (.func 47) #[] #[])) :
    Calls Tryz.prog 80 #[.agg #[.int .i64 x.k, .string x.s, .int .i64 x.ar], .pointer (some ⟨g, 0, none⟩)] w fun e w' => e = .returned (.bool (!declB (kdDc.l x))) ∧ Below w.heap.size w w' := by
  have B := below_alloc1 w (.cells #[.int .i64 x.k, .string x.s, .int .i64 x.ar] 48)
  have hC := hf x _ (ok_below hx B)
  have kg' := (B.cell (World.block_lt_of_cell? _ _ kg)).trans kg
  simp only at hC
  generalize declB (kdDc.l x) = R at hC ⊢
  clear hx hf
  go_enter Tryz.func80, Tryz.ntmps80
  go_wp2_with (go_at_call 47; refine hC.mono ?_; rintro e w1 ⟨rfl, hb⟩)
  go_ret
  exact ⟨ret_bool (by simp), Rw.next B hb⟩
set_option maxHeartbeats 1000000 in
theorem indexDc (hf : Says kdDc 47 (fun x : Dc => .agg #[.int .i64 x.k, .string x.s, .int .i64 x.ar]) declB) (s : Sl Dc) (w : World) (h : Rd kdDc 0 w s) (g : Nat) (kg : w.cell? ⟨g, 0, none⟩ = some (.func (.func 47) #[] #[])) :
    Calls Tryz.prog 109 #[.slice s.a s.Q.length s.c, .func (.func 80) #[] #[.pointer (some ⟨g, 0, none⟩)]] w fun e w' => Below w.heap.size w w' ∧ ∃ r : Int, e = .returned (.int .i64 r) ∧ (!decide (0 ≤ r)) = (told kdDc s.Q).all declB := by
  have HB : Hid (∀ k, k < s.Q.length → declB (kdDc.l (s.Q.getD k dc0)) = false → (told kdDc s.Q).all declB = false) := fun k hk h => all_bad hk h
  have HG : Hid ((∀ i, i < s.Q.length → declB (kdDc.l (s.Q.getD i dc0)) = true) → (told kdDc s.Q).all declB = true) := fun h => all_at h
  generalize (told kdDc s.Q).all declB = R at HB HG ⊢
  have HF : Hid (∀ i, i < s.Q.length → ∀ x, x = s.Q.getD i dc0 → ∀ W, Below w.heap.size w W → Calls Tryz.prog 80 #[.agg #[.int .i64 x.k, .string x.s, .int .i64 x.ar], .pointer (some ⟨g, 0, none⟩)] W fun e w' => e = .returned (.bool (!declB (kdDc.l x))) ∧ Below W.heap.size W w') := fun i hi x hx W hb => by
    rw [hx]; exact cloDc hf _ W (ok_below (h.ok i hi) hb) g ((hb.cell (World.block_lt_of_cell? _ _ kg)).trans kg)
  obtain ⟨sa, sb, so, sc, sQ⟩ := s
  simp only at HB HG HF ⊢
  obtain ⟨n, hn⟩ : ∃ n, n = sQ.length := ⟨_, rfl⟩
  have hm : n ≤ maxLen := by rw [hn]; exact h.len
  unfold maxLen at hm
  rw [← hn] at HB HG HF ⊢
  have HN : Hid (n = sQ.length) := hn
  clear hn kg hf
  go_enter Tryz.func109, Tryz.ntmps109
  go_wp2
  go_loopw [8] (fun i wr => ∃ k : Nat, k ≤ n ∧ i = .int .i64 k ∧ Below w.heap.size w wr ∧ ∀ i, i < k → declB (kdDc.l (sQ.getD i dc0)) = true) (fun i _ => n - (intOf i).toNat)
  case atStart => exact ⟨0, Nat.zero_le _, rfl, Below.refl _ _, fun i hi => by omega⟩
  case round =>
    obtain ⟨k, hk, rfl, hbel, hpre⟩ := hrel
    have HP : Hid (∀ i, i < k → declB (kdDc.l (sQ.getD i dc0)) = true) := hpre
    clear hpre
    by_cases hlt : k < n
    · have hh := h.head (by have := HN.out; simp only; omega)
      have hkz : (k : Int) < (n : Int) := by omega
      obtain ⟨c0, c1, c2⟩ := cellsDc (h.below hbel) (i := k) (by have := HN.out; simp only; omega)
      try simp only at hh c0 c1 c2
      obtain rfl := hh
      have HB1 : Hid (declB (kdDc.l (sQ.getD k dc0)) = false → R = false) := HB.out k hlt
      have HX : Hid (declB (kdDc.l (sQ.getD k dc0)) = true → ∀ i, i < k + 1 → declB (kdDc.l (sQ.getD i dc0)) = true) := fun h i hi => by
        by_cases e : i = k
        · subst e; exact h
        · exact HP.out i (by omega)
      have hU := HF.out k hlt _ rfl wr hbel
      clear h HF HB HN
      generalize declB (kdDc.l (sQ.getD k dc0)) = V at hU HB1 HX
      generalize sQ.getD k dc0 = x at c0 c1 c2 hU
      cases hv : V with
      | true =>
        rw [hv] at hU
        go_wp2_with (go_at_call 80; refine hU.mono ?_; rintro e w1 ⟨rfl, hb⟩)
        go_roundw
        case rel => exact ⟨k + 1, by omega, by go_num, Rw.next hbel hb, HX.out hv⟩
        case measure => simp [intOf]; omega
      | false =>
        rw [hv] at hU
        go_wp2_with (go_at_call 80; refine hU.mono ?_; rintro e w1 ⟨rfl, hb⟩)
        go_ret
        exact ⟨Rw.next hbel hb, _, rfl, by rw [HB1.out hv]; simp⟩
    · have he : k = n := by omega
      subst he
      clear h
      go_wp2
      go_ret
      exact ⟨hbel, _, rfl, by rw [HG.out HP.out]; rfl⟩
theorem containsDc (hf : Says kdDc 47 (fun x : Dc => .agg #[.int .i64 x.k, .string x.s, .int .i64 x.ar]) declB) (s : Sl Dc) (w : World) (h : Rd kdDc 0 w s) (g : Nat) (kg : w.cell? ⟨g, 0, none⟩ = some (.func (.func 47) #[] #[])) :
    Calls Tryz.prog 79 #[.slice s.a s.Q.length s.c, .func (.func 80) #[] #[.pointer (some ⟨g, 0, none⟩)]] w fun e w' => e = .returned (.bool (!(told kdDc s.Q).all declB)) ∧ Below w.heap.size w w' := by
  have hi := indexDc hf s w h g kg
  generalize (told kdDc s.Q).all declB = R at hi ⊢
  clear h kg hf
  go_enter Tryz.func79, Tryz.ntmps79
  go_wp2_with (go_at_call 109; refine hi.mono ?_; rintro e w1 ⟨hb, r, rfl, hr⟩; have HR : Hid ((!decide (0 ≤ r)) = R) := hr; clear hr)
  go_ret
  exact ⟨ret_bool (by rw [← HR.out]; simp), hb⟩
set_option maxHeartbeats 1000000 in
theorem listDc (hf : Says kdDc 47 (fun x : Dc => .agg #[.int .i64 x.k, .string x.s, .int .i64 x.ar]) declB) (s : Sl Dc) (m : Nat) (hm : m ≤ 100) (w : World) (h : Rd kdDc 0 w s) :
    Calls Tryz.prog 46 #[.slice s.a s.Q.length s.c, .int .i64 m, .func (.func 47) #[] #[]] w fun e w' => e = .returned (.bool (decide (s.Q.length ≤ m) && (told kdDc s.Q).all declB)) ∧ Below w.heap.size w w' := by
  have B := below_alloc1 w (.cells #[.func (.func 47) #[] #[]] 101)
  have hi := containsDc hf s _ (h.below B) w.heap.size (one (at_new rfl))
  generalize (told kdDc s.Q).all declB = R at hi ⊢
  obtain ⟨n, hn⟩ : ∃ n, n = s.Q.length := ⟨_, rfl⟩
  have hl := h.len
  rw [← hn] at hi hl ⊢
  unfold maxLen at hl
  clear hn h hf
  by_cases hle : n ≤ m
  · have hz : (n : Int) ≤ (m : Int) := by omega
    have hd : decide (n ≤ m) = true := by simp [hle]
    rw [hd]
    clear hd hle
    cases R
    all_goals
      go_enter Tryz.func46, Tryz.ntmps46
      go_wp2_with (go_at_call 79; refine hi.mono ?_; rintro e w1 ⟨rfl, hb⟩)
      go_ret
      exact ⟨rfl, Rw.next B hb⟩
  · have hz : ¬ (n : Int) ≤ (m : Int) := by omega
    have hd : decide (n ≤ m) = false := by simp [hle]
    rw [hd]
    clear hd hle hi
    go_enter Tryz.func46, Tryz.ntmps46
    go_wp2
    go_ret
    exact ⟨rfl, B⟩
set_option maxHeartbeats 4000000 in
theorem progI_any (x : Pg) (w : World) (hx : x.Ok 0 w) : Calls Tryz.prog 22 #[.agg #[.slice x.D.a x.D.Q.length x.D.c, .slice x.R.a x.R.Q.length x.R.c]] w fun e w' => e = .returned (.bool (progB x.l)) ∧ Below w.heap.size w w' := by
  have B := below_alloc1 w (.cells #[.slice x.D.a x.D.Q.length x.D.c, .slice x.R.a x.R.Q.length x.R.c] 32)
  have k0 : (w.alloc (.cells #[.slice x.D.a x.D.Q.length x.D.c, .slice x.R.a x.R.Q.length x.R.c] 32)).heap[w.heap.size]? = some (.cells #[.slice x.D.a x.D.Q.length x.D.c, .slice x.R.a x.R.Q.length x.R.c] 32 (0, 0)) := at_new rfl
  have hd := fun W hb => listDc (fun x w hx => declI_any x w hx) x.D 16 (by decide) W (hx.1.below hb)
  have hr := fun W hb => listRm ruleI_any x.R 24 (by decide) W (hx.2.below hb)
  have HL : progB x.l = ((decide (x.D.Q.length ≤ 16) && (told kdDc x.D.Q).all declB) && (decide (x.R.Q.length ≤ 24) && (told kdRm x.R.Q).all ruleB)) := by
    show ((decide (x.D.Q.length ≤ 16) && x.D.Q.all declB) && (decide ((told kdRm x.R.Q).length ≤ 24) && (told kdRm x.R.Q).all ruleB)) = _
    rw [told_len, told_dc]
  rw [HL]
  generalize (decide (x.D.Q.length ≤ 16) && (told kdDc x.D.Q).all declB) = A at hd ⊢
  generalize (decide (x.R.Q.length ≤ 24) && (told kdRm x.R.Q).all ruleB) = C at hr ⊢
  clear hx HL
  cases A <;> cases C
  all_goals
    go_enter Tryz.func22, Tryz.ntmps22
    go_wp2_with (first
      | (go_at_call 46; refine (hd _ B).mono ?_; rintro e w1 ⟨rfl, hb⟩; replace B := Rw.next B hb; replace k0 := (hb.block w.heap.size (blk_lt k0)).trans k0; have c0 := blk_cell k0 0 rfl; have c1 := blk_cell k0 1 rfl)
      | (go_at_call 48; refine (hr _ B).mono ?_; rintro e w2 ⟨rfl, hb⟩; replace B := Rw.next B hb))
    go_ret
    exact ⟨rfl, B⟩

end Go.Proofs.YtljlgjgfmgilaaaGreat.Pm
