/-
  Right and alike matches of the program and the specification.
-/
import Derived.Test.YtcbgnfjnjfaacaaLb
import Derived.Test.YtcbgnfjnjfaacaaLc
import Derived.Test.YtcbgnfjnjfaacaaMs
import Derived.Test.YtcbgnfjnjfaacaaMt
import Derived.Test.YtcbgnfjnjfaacaaPe
namespace Go.Proofs.Ytcbgnfjnjfaacaa.Mi
set_option maxRecDepth 8000
open Go Go.RowKit
open Num Pl Hr Hh Hf Hg Pa Pm Po Pq Pe
set_option maxHeartbeats 1000000 in
theorem ok_any (aV aM : Option Addr) (bV oV cV bM oM cM : Nat) (V M : List Int) (w : World) (hV : Rd w aV bV oV V) (hM : Rd w aM bM oM M) (hW : Wide V) :
    Calls Try.prog 85 #[.agg #[.slice aV V.length cV, .slice aM M.length cM]] w fun e w' => e = .returned (.bool (matchB V M)) ∧ Below w.heap.size w w' := by
  have B := below_alloc1 w (.cells #[.slice aV V.length cV, .slice aM M.length cM] 25)
  have hp := pairs_any aV aM bV oV cV bM oM cM V M _ (hV.below B) (hM.below B) hW
  have HP : Hid (Calls Try.prog 72 #[.agg #[.slice aV V.length cV, .slice aM M.length cM]] (w.alloc (.cells #[.slice aV V.length cV, .slice aM M.length cM] 25)) fun e w' => e = .returned (.tuple #[.agg (enc (pv V M) (pm V M)), .bool (matchB V M)]) ∧ Below (w.alloc (.cells #[.slice aV V.length cV, .slice aM M.length cM] 25)).heap.size (w.alloc (.cells #[.slice aV V.length cV, .slice aM M.length cM] 25)) w') := hp
  clear hp hV hM hW
  go_enter Try.func85, Try.ntmps85
  go_wp2_with (first
    | (go_at_call 72; refine HP.out.mono ?_; rintro e wa ⟨rfl, hb⟩; replace B := Rw.next B hb; clear hb)
    | (refine store66 rfl _ _ rfl rfl rfl (has_zero rfl) (fun w1 hX hS => ?_)))
  go_ret
  exact ⟨rfl, hS.below (Rw.next B (below_alloc1 _ _)) B.size⟩

set_option maxHeartbeats 2000000 in
theorem same_l (a1 a2 a3 a4 : Option Addr) (n1 n2 n3 n4 c1 c2 c3 c4 : Nat) (x y x' y' : Nat → Int) (q : Bool) (w : World) (h : Two a1 a2 a3 a4 n1 n2 n3 n4 c1 c2 c3 c4 x y x' y' q w) :
    Calls Try.prog 88 #[.agg #[.slice a1 n1 c1, .slice a2 n2 c2], .agg #[.slice a3 n3 c3, .slice a4 n4 c4]] w fun e w' => e = .returned (.bool (q && sameB x y x' y')) ∧ Below w.heap.size w w' := by
  have heq := fun w => eql_any x y x' y' w
  have hgd := guard66
  generalize sameB x y x' y' = R at heq ⊢
  cases q with
  | true =>
    have HT : Hid (Two a1 a2 a3 a4 n1 n2 n3 n4 c1 c2 c3 c4 x y x' y' true w) := h
    obtain ⟨W0, hW0⟩ : ∃ W0, W0 = ((w.alloc (.cells #[.slice a1 n1 c1, .slice a2 n2 c2] 25)).alloc (.cells #[.slice a3 n3 c3, .slice a4 n4 c4] 25)) := ⟨_, rfl⟩
    have B : Below w.heap.size w W0 := by subst hW0; exact below2 _ _ _
    clear h
    have tok1 : True := trivial
    go_enter Try.func88, Try.ntmps88
    go_wp2_with (first
      | (go_at_call 64; rw [← hW0]; clear hW0; refine (HT.out _ B).mono ?_; rintro e wa ⟨rfl, hb⟩; have ZB := Nat.le_trans B.size hb.size; replace B := Rw.next B hb; clear hb HT)
      | (clear tok1; refine store66 rfl _ _ rfl rfl rfl (has_old (has_zero rfl)) (fun w1 hX hS => ?_); have hZ := hS.has (has_zero (g := wa.heap.size + 1) (by simp)) (by simp); replace B := hS.below (Rw.next B (below2 _ _ _)) B.size; have tok2 : True := trivial; clear hS)
      | (clear tok2; refine store66 rfl _ _ rfl rfl rfl hZ (fun w2 hY hS => ?_); replace hX := hS.has hX (by simp); replace B := hS.below B (Nat.le_succ_of_le ZB); clear hS hZ)
      | (refine load66g rfl _ rfl rfl hX ?_)
      | (refine load66g rfl _ rfl rfl hY ?_))
    go_ret
    exact ⟨rfl, B⟩
  | false =>
    have HT : Hid (Two a1 a2 a3 a4 n1 n2 n3 n4 c1 c2 c3 c4 x y x' y' false w) := h
    obtain ⟨W0, hW0⟩ : ∃ W0, W0 = ((w.alloc (.cells #[.slice a1 n1 c1, .slice a2 n2 c2] 25)).alloc (.cells #[.slice a3 n3 c3, .slice a4 n4 c4] 25)) := ⟨_, rfl⟩
    have B : Below w.heap.size w W0 := by subst hW0; exact below2 _ _ _
    clear h
    have tok1 : True := trivial
    go_enter Try.func88, Try.ntmps88
    go_wp2_with (first
      | (go_at_call 64; rw [← hW0]; clear hW0; refine (HT.out _ B).mono ?_; rintro e wa ⟨rfl, hb⟩; have ZB := Nat.le_trans B.size hb.size; replace B := Rw.next B hb; clear hb HT)
      | (clear tok1; refine store66 rfl _ _ rfl rfl rfl (has_old (has_zero rfl)) (fun w1 hX hS => ?_); have hZ := hS.has (has_zero (g := wa.heap.size + 1) (by simp)) (by simp); replace B := hS.below (Rw.next B (below2 _ _ _)) B.size; have tok2 : True := trivial; clear hS)
      | (clear tok2; refine store66 rfl _ _ rfl rfl rfl hZ (fun w2 hY hS => ?_); replace hX := hS.has hX (by simp); replace B := hS.below B (Nat.le_succ_of_le ZB); clear hS hZ))
    go_ret
    exact ⟨rfl, B⟩

end Go.Proofs.Ytcbgnfjnjfaacaa.Mi
namespace Go.Proofs.Ytcbgnfjnjfaacaa.Mt
set_option maxRecDepth 8000
open Go Go.RowKit
open Num Pl Hr Hh Hf Hg Pa Pm Po
set_option maxHeartbeats 1000000 in
theorem same_any (a a' : Option Addr) (b off cap b' off' cap' : Nat) (l m : List Int) (w : World) (h : Rd w a b off l) (h' : Rd w a' b' off' m) :
    Calls Try.prog 144 #[.slice a l.length cap, .slice a' m.length cap'] w fun e w' => e = .returned (.bool (decide (l = m))) ∧ Below w.heap.size w w' := by
  obtain ⟨hh, hc, hs⟩ := h
  obtain ⟨hh', hc', hs'⟩ := h'
  by_cases hl : l.length = m.length
  · obtain ⟨n, hn⟩ : ∃ n, n = l.length := ⟨_, rfl⟩
    rw [← hl] at hh' hc' ⊢
    rw [← hn] at hh hc hs hh' hc' ⊢
    have HN : Hid (n = l.length) := hn
    have HL : Hid (l.length = m.length) := hl
    clear hn hl hs'
    go_enter Try.func144, Try.ntmps144
    go_wp2
    go_loopw [13] (fun i wr => ∃ k : Nat, k ≤ n ∧ i = .int .i64 k ∧ Below w.heap.size w wr ∧ ∀ i, i < k → l.getD i 0 = m.getD i 0) (fun i _ => n - (intOf i).toNat)
    case atStart => exact ⟨0, Nat.zero_le _, rfl, Below.refl _ _, fun i hi => by omega⟩
    case round =>
      obtain ⟨k, hk, rfl, hbel, hsame⟩ := hrel
      have HSA : Hid (∀ i, i < k → l.getD i 0 = m.getD i 0) := hsame
      clear hsame
      by_cases hlt : k < n
      · obtain rfl := hh (by omega)
        obtain rfl := hh' (by omega)
        have hkz : (k : Int) < (n : Int) := by omega
        have g0 : wr.cell? ⟨b, off + k, none⟩ = some (.int .i64 (l.getD k 0)) := (hbel.cell (World.block_lt_of_cell? _ _ (hc k hlt))).trans (hc k hlt)
        have g1 : wr.cell? ⟨b', off' + k, none⟩ = some (.int .i64 (m.getD k 0)) := (hbel.cell (World.block_lt_of_cell? _ _ (hc' k hlt))).trans (hc' k hlt)
        generalize e1 : l.getD k 0 = x at g0
        generalize e2 : m.getD k 0 = y at g1
        have H1 : Hid (l.getD k 0 = x) := e1
        have H2 : Hid (m.getD k 0 = y) := e2
        clear e1 e2 hc hc' hh hh'
        by_cases hxy : x = y
        · subst hxy
          go_wp2
          go_region
          all_goals go_wp2
          all_goals go_roundw
          case rel => exact ⟨k + 1, by omega, by go_num, by repeat (first | exact hbel | apply Below.drew), fun i hi => by
            by_cases e : i = k
            · subst e; exact H1.out.trans H2.out.symm
            · exact HSA.out i (by omega)⟩
          case measure => simp [intOf]; omega
        · have hne : (x != y) = true := by simpa using hxy
          go_wp2
          go_region
          all_goals go_wp2
          go_ret
          exact ⟨Num.ret_bool (Rw.ne_of_getD (k := k) (by rw [H1.out, H2.out]; exact hxy)).symm, by repeat (first | exact hbel | apply Below.drew)⟩
      · have he : k = n := by omega
        subst he
        go_wp2
        go_ret
        have := HN.out
        subst this
        exact ⟨Num.ret_bool (by simpa using Rw.ext_getD HL.out HSA.out), hbel⟩
  · have hne : ((l.length : Int) != (m.length : Int)) = true := by simp; omega
    go_enter Try.func144, Try.ntmps144
    go_wp2
    go_ret
    exact ⟨Num.ret_bool (by simp; intro e; subst e; exact hl rfl), Below.refl _ _⟩

set_option maxHeartbeats 2000000 in
theorem sameS_any (aV aM : Option Addr) (bV oV cV bM oM cM : Nat) (aV' aM' : Option Addr) (bV' oV' cV' bM' oM' cM' : Nat) (V M V' M' : List Int) (w : World) (hV : Rd w aV bV oV V) (hM : Rd w aM bM oM M) (hV' : Rd w aV' bV' oV' V') (hM' : Rd w aM' bM' oM' M') (hW : Wide V) (hW' : Wide V') :
    Calls Try.prog 115 #[.agg #[.slice aV V.length cV, .slice aM M.length cM], .agg #[.slice aV' V'.length cV', .slice aM' M'.length cM']] w fun e w' => e = .returned (.bool (matchB V M && matchB V' M' && (decide (V = V') && decide (M = M')))) ∧ Below w.heap.size w w' := by
  obtain ⟨W0, hW0⟩ : ∃ W0, W0 = (w.alloc (.cells #[.slice aV V.length cV, .slice aM M.length cM] 25)).alloc (.cells #[.slice aV' V'.length cV', .slice aM' M'.length cM'] 25) := ⟨_, rfl⟩
  have B : Below w.heap.size w W0 := by subst hW0; exact Mi.below2 _ _ _
  have k0 : W0.heap[w.heap.size]? = some (.cells #[.slice aV V.length cV, .slice aM M.length cM] 25 (0, 0)) := by subst hW0; rw [at_old (by simp), at_new rfl]
  have k1 : W0.heap[w.heap.size + 1]? = some (.cells #[.slice aV' V'.length cV', .slice aM' M'.length cM'] 25 (0, 0)) := by subst hW0; exact at_new (by simp)
  replace hV := hV.below B
  replace hM := hM.below B
  replace hV' := hV'.below B
  replace hM' := hM'.below B
  have tok1 : True := trivial
  generalize e1 : matchB V M = P
  generalize e2 : matchB V' M' = P'
  generalize e3 : decide (V = V') = D
  have E1 : Hid (matchB V M = P) := e1
  have E2 : Hid (matchB V' M' = P') := e2
  have E3 : Hid (decide (V = V') = D) := e3
  clear e1 e2 e3
  cases P with
  | false =>
    go_enter Try.func115, Try.ntmps115
    go_wp2_with (first
      | (go_at_call 62; clear tok1; rw [← hW0]; refine (Ms.okS_any _ _ _ _ _ _ _ _ V M _ hV hM hW).mono ?_; rw [E1.out]; rintro e wa ⟨rfl, hb⟩; replace k0 := (hb.block _ (Array.getElem?_eq_some_iff.1 k0).1).trans k0; replace k1 := (hb.block _ (Array.getElem?_eq_some_iff.1 k1).1).trans k1; obtain ⟨p0, p1⟩ := two k0; obtain ⟨q0, q1⟩ := two k1; replace hV := hV.below hb; replace hM := hM.below hb; replace hV' := hV'.below hb; replace hM' := hM'.below hb; replace B := Rw.next B hb; clear hb; have tok2 : True := trivial))
    go_ret
    exact ⟨Num.ret_bool (rfl), B⟩
  | true =>
    cases P' with
    | false =>
      go_enter Try.func115, Try.ntmps115
      go_wp2_with (first
        | (go_at_call 62; clear tok1; rw [← hW0]; refine (Ms.okS_any _ _ _ _ _ _ _ _ V M _ hV hM hW).mono ?_; rw [E1.out]; rintro e wa ⟨rfl, hb⟩; replace k0 := (hb.block _ (Array.getElem?_eq_some_iff.1 k0).1).trans k0; replace k1 := (hb.block _ (Array.getElem?_eq_some_iff.1 k1).1).trans k1; obtain ⟨p0, p1⟩ := two k0; obtain ⟨q0, q1⟩ := two k1; replace hV := hV.below hb; replace hM := hM.below hb; replace hV' := hV'.below hb; replace hM' := hM'.below hb; replace B := Rw.next B hb; clear hb; have tok2 : True := trivial)
        | (go_at_call 62; clear tok2; refine (Ms.okS_any _ _ _ _ _ _ _ _ V' M' _ hV' hM' hW').mono ?_; rw [E2.out]; rintro e wb ⟨rfl, hb⟩; clear p0 p1 q0 q1; replace k0 := (hb.block _ (Array.getElem?_eq_some_iff.1 k0).1).trans k0; replace k1 := (hb.block _ (Array.getElem?_eq_some_iff.1 k1).1).trans k1; obtain ⟨p0, p1⟩ := two k0; obtain ⟨q0, q1⟩ := two k1; replace hV := hV.below hb; replace hM := hM.below hb; replace hV' := hV'.below hb; replace hM' := hM'.below hb; replace B := Rw.next B hb; clear hb; have tok3 : True := trivial))
      go_ret
      exact ⟨Num.ret_bool (rfl), B⟩
    | true =>
      cases D with
      | false =>
        go_enter Try.func115, Try.ntmps115
        go_wp2_with (first
          | (go_at_call 62; clear tok1; rw [← hW0]; refine (Ms.okS_any _ _ _ _ _ _ _ _ V M _ hV hM hW).mono ?_; rw [E1.out]; rintro e wa ⟨rfl, hb⟩; replace k0 := (hb.block _ (Array.getElem?_eq_some_iff.1 k0).1).trans k0; replace k1 := (hb.block _ (Array.getElem?_eq_some_iff.1 k1).1).trans k1; obtain ⟨p0, p1⟩ := two k0; obtain ⟨q0, q1⟩ := two k1; replace hV := hV.below hb; replace hM := hM.below hb; replace hV' := hV'.below hb; replace hM' := hM'.below hb; replace B := Rw.next B hb; clear hb; have tok2 : True := trivial)
          | (go_at_call 62; clear tok2; refine (Ms.okS_any _ _ _ _ _ _ _ _ V' M' _ hV' hM' hW').mono ?_; rw [E2.out]; rintro e wb ⟨rfl, hb⟩; clear p0 p1 q0 q1; replace k0 := (hb.block _ (Array.getElem?_eq_some_iff.1 k0).1).trans k0; replace k1 := (hb.block _ (Array.getElem?_eq_some_iff.1 k1).1).trans k1; obtain ⟨p0, p1⟩ := two k0; obtain ⟨q0, q1⟩ := two k1; replace hV := hV.below hb; replace hM := hM.below hb; replace hV' := hV'.below hb; replace hM' := hM'.below hb; replace B := Rw.next B hb; clear hb; have tok3 : True := trivial)
          | (go_at_call 144; clear tok3; refine (same_any _ _ _ _ _ _ _ _ V V' _ hV hV').mono ?_; rw [E3.out]; rintro e wc ⟨rfl, hb⟩; clear p0 p1 q0 q1; replace k0 := (hb.block _ (Array.getElem?_eq_some_iff.1 k0).1).trans k0; replace k1 := (hb.block _ (Array.getElem?_eq_some_iff.1 k1).1).trans k1; obtain ⟨p0, p1⟩ := two k0; obtain ⟨q0, q1⟩ := two k1; replace hV := hV.below hb; replace hM := hM.below hb; replace hV' := hV'.below hb; replace hM' := hM'.below hb; replace B := Rw.next B hb; clear hb; have tok4 : True := trivial))
        go_ret
        exact ⟨Num.ret_bool (rfl), B⟩
      | true =>
        go_enter Try.func115, Try.ntmps115
        go_wp2_with (first
          | (go_at_call 62; clear tok1; rw [← hW0]; refine (Ms.okS_any _ _ _ _ _ _ _ _ V M _ hV hM hW).mono ?_; rw [E1.out]; rintro e wa ⟨rfl, hb⟩; replace k0 := (hb.block _ (Array.getElem?_eq_some_iff.1 k0).1).trans k0; replace k1 := (hb.block _ (Array.getElem?_eq_some_iff.1 k1).1).trans k1; obtain ⟨p0, p1⟩ := two k0; obtain ⟨q0, q1⟩ := two k1; replace hV := hV.below hb; replace hM := hM.below hb; replace hV' := hV'.below hb; replace hM' := hM'.below hb; replace B := Rw.next B hb; clear hb; have tok2 : True := trivial)
          | (go_at_call 62; clear tok2; refine (Ms.okS_any _ _ _ _ _ _ _ _ V' M' _ hV' hM' hW').mono ?_; rw [E2.out]; rintro e wb ⟨rfl, hb⟩; clear p0 p1 q0 q1; replace k0 := (hb.block _ (Array.getElem?_eq_some_iff.1 k0).1).trans k0; replace k1 := (hb.block _ (Array.getElem?_eq_some_iff.1 k1).1).trans k1; obtain ⟨p0, p1⟩ := two k0; obtain ⟨q0, q1⟩ := two k1; replace hV := hV.below hb; replace hM := hM.below hb; replace hV' := hV'.below hb; replace hM' := hM'.below hb; replace B := Rw.next B hb; clear hb; have tok3 : True := trivial)
          | (go_at_call 144; clear tok3; refine (same_any _ _ _ _ _ _ _ _ V V' _ hV hV').mono ?_; rw [E3.out]; rintro e wc ⟨rfl, hb⟩; clear p0 p1 q0 q1; replace k0 := (hb.block _ (Array.getElem?_eq_some_iff.1 k0).1).trans k0; replace k1 := (hb.block _ (Array.getElem?_eq_some_iff.1 k1).1).trans k1; obtain ⟨p0, p1⟩ := two k0; obtain ⟨q0, q1⟩ := two k1; replace hV := hV.below hb; replace hM := hM.below hb; replace hV' := hV'.below hb; replace hM' := hM'.below hb; replace B := Rw.next B hb; clear hb; have tok4 : True := trivial)
          | (go_at_call 144; clear tok4; refine (same_any _ _ _ _ _ _ _ _ M M' _ hM hM').mono ?_; rintro e wd ⟨rfl, hb⟩; replace B := Rw.next B hb; clear hb))
        go_ret
        exact ⟨Num.ret_bool (rfl), B⟩

end Go.Proofs.Ytcbgnfjnjfaacaa.Mt
namespace Go.Proofs.Ytcbgnfjnjfaacaa.La
set_option maxRecDepth 8000
open Go Go.RowKit
open Num Pl Hr Hh Pm Po Rg
theorem okB (V M : List Int) (wV : Wide V) (_wM : Wide M) : ∃ R, CM 85 V M (Bo R) ∧ CM 62 V M (Bo R) :=
  ⟨matchB V M, fun a a' b o c b' o' c' w h1 h2 => Mi.ok_any a a' b o c b' o' c' V M w h1 h2 wV, fun a a' b o c b' o' c' w h1 h2 => Ms.okS_any a a' b o c b' o' c' V M w h1 h2 wV⟩

end Go.Proofs.Ytcbgnfjnjfaacaa.La
namespace Go.Proofs.Ytcbgnfjnjfaacaa.Lb
set_option maxRecDepth 8000
open Go Go.RowKit
open Num Pl Hr Hh Pa Pm Po Pe Rg
theorem sameR (V M V' M' : List Int) (wV : Wide V) (_wM : Wide M) (wV' : Wide V') (_wM' : Wide M') : ∃ R, CMM 88 V M V' M' (Bo R) ∧ CMM 115 V M V' M' (Bo R) :=
  ⟨_, fun a a' b o c b' o' c' p p' q r s q' r' s' w h1 h2 h3 h4 => Mi.same_l a a' p p' _ _ _ _ c c' s s' _ _ _ _ _ w (Mi.two_any c c' s s' h1 h2 wV h3 h4 wV'),
    fun a a' b o c b' o' c' p p' q r s q' r' s' w h1 h2 h3 h4 => by rw [same_eq]; exact Mt.sameS_any a a' b o c b' o' c' p p' q r s q' r' s' V M V' M' w h1 h2 h3 h4 wV wV'⟩

end Go.Proofs.Ytcbgnfjnjfaacaa.Lb
