/-
  Contracts of the specification's SameMatch.
-/
import Derived.Test.YtbplpfcplpoeiaaMs
import Derived.Test.YtbplpfcplpoeiaaLa
namespace Go.Proofs.Ytbplpfcplpoeiaa.Mt
open Go Go.RowKit
open Num Pl Hr Hh Hf Hg Pa Pm Po

set_option maxHeartbeats 1000000 in
theorem same_any (a a' : Option Addr) (b off cap b' off' cap' : Nat) (l m : List Int) (w : World) (h : Rd w a b off l) (h' : Rd w a' b' off' m) :
    Calls Try.prog 72 #[.slice a l.length cap, .slice a' m.length cap'] w fun e w' => e = .returned (.bool (decide (l = m))) ∧ Below w.heap.size w w' := by
  obtain ⟨hh, hc, hs⟩ := h
  obtain ⟨hh', hc', hs'⟩ := h'
  by_cases hl : l.length = m.length
  · obtain ⟨n, hn⟩ : ∃ n, n = l.length := ⟨_, rfl⟩
    rw [← hl] at hh' hc' ⊢
    rw [← hn] at hh hc hs hh' hc' ⊢
    have HN : Hid (n = l.length) := hn
    have HL : Hid (l.length = m.length) := hl
    clear hn hl hs'
    go_enter Try.func72, Try.ntmps72
    go_wp2
    go_loopw [13] (fun i wr => ∃ k : Nat, k ≤ n ∧ i = .int .i64 k ∧ Below w.heap.size w wr ∧ ∀ i, i < k → l.getD i 0 = m.getD i 0) (fun i _ => n - (intOf i).toNat)
    case atStart => exact ⟨0, Nat.zero_le _, rfl, Below.refl _ _, fun i hi => by omega⟩
    case round =>
      obtain ⟨k, hk, rfl, hbel, hsame⟩ := hrel
      have HSA : Hid (∀ i, i < k → l.getD i 0 = m.getD i 0) := hsame
      clear hsame
      by_cases hlt : k < n
      · obtain rfl := hh (by omega)
        obtain rfl := hh' (by omega)
        have hkz : (k : Int) < (n : Int) := by omega
        have g0 : wr.cell? ⟨b, off + k, none⟩ = some (.int .i64 (l.getD k 0)) := (hbel.cell (World.block_lt_of_cell? _ _ (hc k hlt))).trans (hc k hlt)
        have g1 : wr.cell? ⟨b', off' + k, none⟩ = some (.int .i64 (m.getD k 0)) := (hbel.cell (World.block_lt_of_cell? _ _ (hc' k hlt))).trans (hc' k hlt)
        generalize e1 : l.getD k 0 = x at g0
        generalize e2 : m.getD k 0 = y at g1
        have H1 : Hid (l.getD k 0 = x) := e1
        have H2 : Hid (m.getD k 0 = y) := e2
        clear e1 e2 hc hc' hh hh'
        by_cases hxy : x = y
        · subst hxy
          go_wp2
          go_region
          all_goals go_wp2
          all_goals go_roundw
          case rel => exact ⟨k + 1, by omega, by go_num, by repeat (first | exact hbel | apply Below.drew), fun i hi => by
            by_cases e : i = k
            · subst e; exact H1.out.trans H2.out.symm
            · exact HSA.out i (by omega)⟩
          case measure => simp [intOf]; omega
        · have hne : (x != y) = true := by simpa using hxy
          go_wp2
          go_region
          all_goals go_wp2
          go_ret
          exact ⟨Num.ret_bool (Rw.ne_of_getD (k := k) (by rw [H1.out, H2.out]; exact hxy)).symm, by repeat (first | exact hbel | apply Below.drew)⟩
      · have he : k = n := by omega
        subst he
        go_wp2
        go_ret
        have := HN.out
        subst this
        exact ⟨Num.ret_bool (by simpa using Rw.ext_getD HL.out HSA.out), hbel⟩
  · have hne : ((l.length : Int) != (m.length : Int)) = true := by simp; omega
    go_enter Try.func72, Try.ntmps72
    go_wp2
    go_ret
    exact ⟨Num.ret_bool (by simp; intro e; subst e; exact hl rfl), Below.refl _ _⟩

set_option maxHeartbeats 2000000 in
theorem sameS_any (aV aM : Option Addr) (bV oV cV bM oM cM : Nat) (aV' aM' : Option Addr) (bV' oV' cV' bM' oM' cM' : Nat) (V M V' M' : List Int) (w : World) (hV : Rd w aV bV oV V) (hM : Rd w aM bM oM M) (hV' : Rd w aV' bV' oV' V') (hM' : Rd w aM' bM' oM' M') (hW : Wide V) (hW' : Wide V') :
    Calls Try.prog 45 #[.agg #[.slice aV V.length cV, .slice aM M.length cM], .agg #[.slice aV' V'.length cV', .slice aM' M'.length cM']] w fun e w' => e = .returned (.bool (matchB V M && matchB V' M' && (decide (V = V') && decide (M = M')))) ∧ Below w.heap.size w w' := by
  obtain ⟨W0, hW0⟩ : ∃ W0, W0 = (w.alloc (.cells #[.slice aV V.length cV, .slice aM M.length cM] 25)).alloc (.cells #[.slice aV' V'.length cV', .slice aM' M'.length cM'] 25) := ⟨_, rfl⟩
  have B : Below w.heap.size w W0 := by subst hW0; exact Mi.below2 _ _ _
  have k0 : W0.heap[w.heap.size]? = some (.cells #[.slice aV V.length cV, .slice aM M.length cM] 25 (0, 0)) := by subst hW0; rw [at_old (by simp), at_new rfl]
  have k1 : W0.heap[w.heap.size + 1]? = some (.cells #[.slice aV' V'.length cV', .slice aM' M'.length cM'] 25 (0, 0)) := by subst hW0; exact at_new (by simp)
  replace hV := hV.below B
  replace hM := hM.below B
  replace hV' := hV'.below B
  replace hM' := hM'.below B
  have tok1 : True := trivial
  generalize e1 : matchB V M = P
  generalize e2 : matchB V' M' = P'
  generalize e3 : decide (V = V') = D
  have E1 : Hid (matchB V M = P) := e1
  have E2 : Hid (matchB V' M' = P') := e2
  have E3 : Hid (decide (V = V') = D) := e3
  clear e1 e2 e3
  cases P with
  | false =>
    go_enter Try.func45, Try.ntmps45
    go_wp2_with (first
      | (go_at_call 28; clear tok1; rw [← hW0]; refine (Ms.okS_any _ _ _ _ _ _ _ _ V M _ hV hM hW).mono ?_; rw [E1.out]; rintro e wa ⟨rfl, hb⟩; replace k0 := (hb.block _ (Array.getElem?_eq_some_iff.1 k0).1).trans k0; replace k1 := (hb.block _ (Array.getElem?_eq_some_iff.1 k1).1).trans k1; obtain ⟨p0, p1⟩ := two k0; obtain ⟨q0, q1⟩ := two k1; replace hV := hV.below hb; replace hM := hM.below hb; replace hV' := hV'.below hb; replace hM' := hM'.below hb; replace B := Rw.next B hb; clear hb; have tok2 : True := trivial))
    go_ret
    exact ⟨Num.ret_bool (rfl), B⟩
  | true =>
    cases P' with
    | false =>
      go_enter Try.func45, Try.ntmps45
      go_wp2_with (first
        | (go_at_call 28; clear tok1; rw [← hW0]; refine (Ms.okS_any _ _ _ _ _ _ _ _ V M _ hV hM hW).mono ?_; rw [E1.out]; rintro e wa ⟨rfl, hb⟩; replace k0 := (hb.block _ (Array.getElem?_eq_some_iff.1 k0).1).trans k0; replace k1 := (hb.block _ (Array.getElem?_eq_some_iff.1 k1).1).trans k1; obtain ⟨p0, p1⟩ := two k0; obtain ⟨q0, q1⟩ := two k1; replace hV := hV.below hb; replace hM := hM.below hb; replace hV' := hV'.below hb; replace hM' := hM'.below hb; replace B := Rw.next B hb; clear hb; have tok2 : True := trivial)
        | (go_at_call 28; clear tok2; refine (Ms.okS_any _ _ _ _ _ _ _ _ V' M' _ hV' hM' hW').mono ?_; rw [E2.out]; rintro e wb ⟨rfl, hb⟩; clear p0 p1 q0 q1; replace k0 := (hb.block _ (Array.getElem?_eq_some_iff.1 k0).1).trans k0; replace k1 := (hb.block _ (Array.getElem?_eq_some_iff.1 k1).1).trans k1; obtain ⟨p0, p1⟩ := two k0; obtain ⟨q0, q1⟩ := two k1; replace hV := hV.below hb; replace hM := hM.below hb; replace hV' := hV'.below hb; replace hM' := hM'.below hb; replace B := Rw.next B hb; clear hb; have tok3 : True := trivial))
      go_ret
      exact ⟨Num.ret_bool (rfl), B⟩
    | true =>
      cases D with
      | false =>
        go_enter Try.func45, Try.ntmps45
        go_wp2_with (first
          | (go_at_call 28; clear tok1; rw [← hW0]; refine (Ms.okS_any _ _ _ _ _ _ _ _ V M _ hV hM hW).mono ?_; rw [E1.out]; rintro e wa ⟨rfl, hb⟩; replace k0 := (hb.block _ (Array.getElem?_eq_some_iff.1 k0).1).trans k0; replace k1 := (hb.block _ (Array.getElem?_eq_some_iff.1 k1).1).trans k1; obtain ⟨p0, p1⟩ := two k0; obtain ⟨q0, q1⟩ := two k1; replace hV := hV.below hb; replace hM := hM.below hb; replace hV' := hV'.below hb; replace hM' := hM'.below hb; replace B := Rw.next B hb; clear hb; have tok2 : True := trivial)
          | (go_at_call 28; clear tok2; refine (Ms.okS_any _ _ _ _ _ _ _ _ V' M' _ hV' hM' hW').mono ?_; rw [E2.out]; rintro e wb ⟨rfl, hb⟩; clear p0 p1 q0 q1; replace k0 := (hb.block _ (Array.getElem?_eq_some_iff.1 k0).1).trans k0; replace k1 := (hb.block _ (Array.getElem?_eq_some_iff.1 k1).1).trans k1; obtain ⟨p0, p1⟩ := two k0; obtain ⟨q0, q1⟩ := two k1; replace hV := hV.below hb; replace hM := hM.below hb; replace hV' := hV'.below hb; replace hM' := hM'.below hb; replace B := Rw.next B hb; clear hb; have tok3 : True := trivial)
          | (go_at_call 72; clear tok3; refine (same_any _ _ _ _ _ _ _ _ V V' _ hV hV').mono ?_; rw [E3.out]; rintro e wc ⟨rfl, hb⟩; clear p0 p1 q0 q1; replace k0 := (hb.block _ (Array.getElem?_eq_some_iff.1 k0).1).trans k0; replace k1 := (hb.block _ (Array.getElem?_eq_some_iff.1 k1).1).trans k1; obtain ⟨p0, p1⟩ := two k0; obtain ⟨q0, q1⟩ := two k1; replace hV := hV.below hb; replace hM := hM.below hb; replace hV' := hV'.below hb; replace hM' := hM'.below hb; replace B := Rw.next B hb; clear hb; have tok4 : True := trivial))
        go_ret
        exact ⟨Num.ret_bool (rfl), B⟩
      | true =>
        go_enter Try.func45, Try.ntmps45
        go_wp2_with (first
          | (go_at_call 28; clear tok1; rw [← hW0]; refine (Ms.okS_any _ _ _ _ _ _ _ _ V M _ hV hM hW).mono ?_; rw [E1.out]; rintro e wa ⟨rfl, hb⟩; replace k0 := (hb.block _ (Array.getElem?_eq_some_iff.1 k0).1).trans k0; replace k1 := (hb.block _ (Array.getElem?_eq_some_iff.1 k1).1).trans k1; obtain ⟨p0, p1⟩ := two k0; obtain ⟨q0, q1⟩ := two k1; replace hV := hV.below hb; replace hM := hM.below hb; replace hV' := hV'.below hb; replace hM' := hM'.below hb; replace B := Rw.next B hb; clear hb; have tok2 : True := trivial)
          | (go_at_call 28; clear tok2; refine (Ms.okS_any _ _ _ _ _ _ _ _ V' M' _ hV' hM' hW').mono ?_; rw [E2.out]; rintro e wb ⟨rfl, hb⟩; clear p0 p1 q0 q1; replace k0 := (hb.block _ (Array.getElem?_eq_some_iff.1 k0).1).trans k0; replace k1 := (hb.block _ (Array.getElem?_eq_some_iff.1 k1).1).trans k1; obtain ⟨p0, p1⟩ := two k0; obtain ⟨q0, q1⟩ := two k1; replace hV := hV.below hb; replace hM := hM.below hb; replace hV' := hV'.below hb; replace hM' := hM'.below hb; replace B := Rw.next B hb; clear hb; have tok3 : True := trivial)
          | (go_at_call 72; clear tok3; refine (same_any _ _ _ _ _ _ _ _ V V' _ hV hV').mono ?_; rw [E3.out]; rintro e wc ⟨rfl, hb⟩; clear p0 p1 q0 q1; replace k0 := (hb.block _ (Array.getElem?_eq_some_iff.1 k0).1).trans k0; replace k1 := (hb.block _ (Array.getElem?_eq_some_iff.1 k1).1).trans k1; obtain ⟨p0, p1⟩ := two k0; obtain ⟨q0, q1⟩ := two k1; replace hV := hV.below hb; replace hM := hM.below hb; replace hV' := hV'.below hb; replace hM' := hM'.below hb; replace B := Rw.next B hb; clear hb; have tok4 : True := trivial)
          | (go_at_call 72; clear tok4; refine (same_any _ _ _ _ _ _ _ _ M M' _ hM hM').mono ?_; rintro e wd ⟨rfl, hb⟩; replace B := Rw.next B hb; clear hb))
        go_ret
        exact ⟨Num.ret_bool (rfl), B⟩

end Go.Proofs.Ytbplpfcplpoeiaa.Mt
