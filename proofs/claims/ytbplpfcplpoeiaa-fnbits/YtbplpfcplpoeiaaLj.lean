/-
  What FnBits needs of matches of the highest bits of one field.
-/
import Derived.Test.YtbplpfcplpoeiaaBy
import Derived.Test.YtbplpfcplpoeiaaLf
import Derived.Test.YtbplpfcplpoeiaaMq
namespace Go.Proofs.Ytbplpfcplpoeiaa.Lj
open Go Go.RowKit
open Num Pl Hr Hh Hf Hg Pa Pm Po Pe Rg Lb Lc Bw Bx By Ma Mo
set_option linter.unusedVariables false

def VB (f u n : Nat) : List Int := lst (upd nul f ((hi u (fbN f) n : Nat) : Int))
def MB (f n : Nat) : List Int := lst (upd nul f ((Bt.top (fbN f) n : Nat) : Int))
theorem upd_at (f : Nat) (x : Int) (k : Nat) : upd nul f x k = if k = f then x else 0 := rfl
theorem small {f n u : Nat} (hn : n ≤ fbN f) (hu : u < 2 ^ fbN f) : hi u (fbN f) n < 281474976710656 ∧ Bt.top (fbN f) n < 281474976710656 := by
  have l48 : 2 ^ fbN f ≤ 2 ^ 48 := Nat.pow_le_pow_right (by decide) (fbN_le f)
  have := Bt.top_lt (fbN f) n hn
  have := hi_le u (fbN f) n
  omega
theorem wideU {f : Nat} {x : Nat} (h : x < 281474976710656) : Wide (lst (upd nul f (x : Int))) := Mq.wide_lst fun k hk => by
  rw [upd_at]
  unfold I64
  split <;> omega
theorem fits_top {f n : Nat} (hf : f < 8) (hn : n ≤ fbN f) : fits f ((Bt.top (fbN f) n : Nat) : Int) = true := by
  have ht := Bt.top_lt (fbN f) n hn
  generalize Bt.top (fbN f) n = t at *
  clear hn
  rcases Hs.k8 hf with rfl | rfl | rfl | rfl | rfl | rfl | rfl | rfl
  all_goals
    unfold fits numOkB
    simp only [decide_eq_true_eq]
    simp only [show fbN 0 = 8 from by decide, show fbN 1 = 48 from by decide, show fbN 2 = 48 from by decide, show fbN 3 = 16 from by decide, show fbN 4 = 16 from by decide, show fbN 5 = 32 from by decide, show fbN 6 = 32 from by decide, show fbN 7 = 8 from by decide] at ht
    exact ⟨by decide, by decide, by omega, Int.lt_of_lt_of_le (Int.ofNat_lt.2 ht) (by decide)⟩
theorem fits_zero {k : Nat} (hk : k < 8) : fits k 0 = true := by
  rcases Hs.k8 hk with rfl | rfl | rfl | rfl | rfl | rfl | rfl | rfl <;> decide
theorem ok {f n u : Nat} (hf : f < 8) (hn : n ≤ fbN f) (hu : u < 2 ^ fbN f) : matchB (VB f u n) (MB f n) = true := by
  unfold matchB VB MB
  rw [lst_len, lst_len]
  have key : ∀ j, j ≤ 8 → uptoP (lst (upd nul f ((hi u (fbN f) n : Nat) : Int))) (lst (upd nul f ((Bt.top (fbN f) n : Nat) : Int))) j = true := by
    intro j
    induction j with
    | zero => intro _; rfl
    | succ j ih =>
      intro hj
      simp only [uptoP, ih (by omega), Bool.true_and]
      rw [lst_at _ (by omega), lst_at _ (by omega), upd_at, upd_at]
      unfold pairB
      by_cases e : j = f
      · subst e
        rw [if_pos rfl, if_pos rfl, fits_top (by omega) hn]
        simp only [Bool.true_and, decide_eq_true_eq, Int.toNat_natCast]
        refine ⟨by omega, ?_⟩
        rw [Bt.within_iff, ← and_top hu hn]
        intro i hi
        rw [Nat.testBit_and, Bool.and_eq_true] at hi
        exact hi.2
      · rw [if_neg e, if_neg e, fits_zero (by omega)]
        rfl
  rw [key 8 (Nat.le_refl _)]
  rfl
theorem nthU (f : Nat) (x : Int) {k : Nat} (hk : k < 8) : nth (lst (upd nul f x)) k = if k = f then x else 0 := by
  unfold nth
  rw [lst_at _ hk, upd_at]
theorem and00 : bits .and .i64 0 0 = 0 := by have := Bu.and_i64 0 0 (by decide) (by decide); exact this
theorem covB {f m n u : Nat} (hf : f < 8) (hm : m ≤ fbN f) (hn : n ≤ fbN f) (hu : u < 2 ^ fbN f) : CMM 16 (VB f u m) (MB f m) (VB f u n) (MB f n) (Bo (decide (hi u (fbN f) n &&& Bt.top (fbN f) m = hi u (fbN f) m ∧ Bt.top (fbN f) n &&& Bt.top (fbN f) m = Bt.top (fbN f) m))) := by
  intro a a' b o c b' o' c' p p' q r s q' r' s' w h1 h2 h3 h4
  obtain ⟨s1, s2⟩ := small hm hu
  obtain ⟨s3, s4⟩ := small hn hu
  have := Mi.covers_l a a' p p' _ _ _ _ c c' s s' _ _ _ _ _ w (Mi.two_any c c' s s' h1 h2 (wideU s1) h3 h4 (wideU s3))
  rw [ok hf hm hu, ok hf hn hu, pv_yes (ok hf hm hu), pm_yes (ok hf hm hu), pv_yes (ok hf hn hu), pm_yes (ok hf hn hu), Bool.true_and, Bool.true_and] at this
  have e : sameB (fun k => bits .and .i64 (nth (VB f u n) k) (nth (MB f m) k)) (fun k => bits .and .i64 (nth (MB f n) k) (nth (MB f m) k)) (nth (VB f u m)) (nth (MB f m)) = decide (hi u (fbN f) n &&& Bt.top (fbN f) m = hi u (fbN f) m ∧ Bt.top (fbN f) n &&& Bt.top (fbN f) m = Bt.top (fbN f) m) := by
    rw [Bool.eq_iff_iff, sameB_iff, decide_eq_true_eq]
    unfold VB MB
    have ea := Bu.and_i64 (hi u (fbN f) n) (Bt.top (fbN f) m) (by omega) (by omega)
    have eb := Bu.and_i64 (Bt.top (fbN f) n) (Bt.top (fbN f) m) (by omega) (by omega)
    constructor
    · intro h
      have := h f hf
      rw [nthU _ _ hf, nthU _ _ hf, nthU _ _ hf, nthU _ _ hf, if_pos rfl, if_pos rfl, if_pos rfl, if_pos rfl, ea, eb] at this
      omega
    · intro h k hk
      rw [nthU _ _ hk, nthU _ _ hk, nthU _ _ hk, nthU _ _ hk]
      by_cases e : k = f
      · rw [if_pos e, if_pos e, if_pos e, if_pos e, ea, eb, h.1, h.2]
        exact ⟨rfl, rfl⟩
      · rw [if_neg e, if_neg e, if_neg e, if_neg e, and00]
        exact ⟨rfl, rfl⟩
  rw [e] at this
  exact this
theorem cov_yes {f n u : Nat} (hf : f < 8) (hn : n + 1 ≤ fbN f) (hu : u < 2 ^ fbN f) : CMM 16 (VB f u n) (MB f n) (VB f u (n + 1)) (MB f (n + 1)) (Bo true) := by
  have := covB hf (m := n) (n := n + 1) (by omega) hn hu
  rw [decide_eq_true ⟨hi_and hu hn (by omega), top_and hn (by omega)⟩] at this
  exact this
theorem cov_no {f n u : Nat} (hf : f < 8) (hn : n + 1 ≤ fbN f) (hu : u < 2 ^ fbN f) : CMM 16 (VB f u (n + 1)) (MB f (n + 1)) (VB f u n) (MB f n) (Bo false) := by
  have := covB hf (m := n + 1) (n := n) hn (by omega) hu
  rw [decide_eq_false (fun h => top_ne hn (by have h2 := h.2; rw [Nat.and_comm, top_and hn (by omega)] at h2; exact h2))] at this
  exact this
theorem same0 {f u : Nat} (hf : f < 8) (hu : u < 2 ^ fbN f) : CMM 25 (VB f u 0) (MB f 0) (lst nul) (lst nul) (Bo true) := by
  have ev : VB f u 0 = lst nul := by unfold VB; rw [hi_zero hu]; show lst (upd nul f 0) = _; rw [Mw.upd_nul]
  have em : MB f 0 = lst nul := by unfold MB; rw [top_zero]; show lst (upd nul f 0) = _; rw [Mw.upd_nul]
  have hk := ok hf (Nat.zero_le _) hu
  have hw : Wide (VB f u 0) := wideU (small (Nat.zero_le _) hu).1
  rw [ev] at hw
  rw [ev, em] at hk ⊢
  intro a a' b o c b' o' c' p p' q r s q' r' s' w h1 h2 h3 h4
  have := Mi.same_l a a' p p' _ _ _ _ c c' s s' _ _ _ _ _ w (Mi.two_any c c' s s' h1 h2 hw h3 h4 hw)
  rw [hk, Bool.true_and, Bool.true_and, (sameB_iff _ _ _ _).2 (fun k _ => ⟨rfl, rfl⟩)] at this
  exact this
theorem asked {f n u : Nat} (hf : f < 8) (hn : n ≤ fbN f) (hu : u < 2 ^ fbN f) : CM 21 (VB f u n) (MB f n) (Nu (n : Int)) := by
  have hk := ok hf hn hu
  obtain ⟨d1, d2⟩ := bounds hk
  have et : tot (nth (MB f n)) 8 = n := by
    have key : ∀ k, k ≤ 8 → tot (nth (MB f n)) k = if f < k then n else 0 := by
      intro k
      induction k with
      | zero => intro _; simp [tot]
      | succ k ih =>
        intro hk8
        rw [tot, ih (by omega)]
        unfold MB
        rw [nthU _ _ (by omega)]
        by_cases e : k = f
        · subst e
          rw [if_pos rfl, Int.toNat_natCast, top_cnt _ _ hn, if_neg (by omega), if_pos (by omega)]
          have := fbN_le k
          omega
        · rw [if_neg e]
          have ez : Bt.cnt (Int.toNat 0) 48 = 0 := Bt.cnt_zero 48
          rw [ez]
          by_cases h : f < k
          · rw [if_pos h, if_pos (by omega)]; rfl
          · rw [if_neg h, if_neg (by omega)]
    rw [key 8 (Nat.le_refl _), if_pos hf]
  intro a a' b o c b' o' c' w h1 h2
  have t := Lf.pairsT c c' h1 h2 (wideU (small hn hu).1) hk
  rw [pm_yes hk] at t
  have := ask_yes _ _ _ _ _ _ _ (nth (MB f n)) w d2 t
  rw [et] at this
  exact this

end Go.Proofs.Ytbplpfcplpoeiaa.Lj
