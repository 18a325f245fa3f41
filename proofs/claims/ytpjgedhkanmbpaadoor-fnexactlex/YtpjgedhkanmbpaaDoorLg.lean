/-
  The program's letteredToken: what it answers, on every text of letters and digits.
-/
import Derived.Test.YtpjgedhkanmbpaaDoorLf
import Derived.Test.YtpjgedhkanmbpaaDoorPl
import Derived.Test.YtpjgedhkanmbpaaDoorShelfc
namespace Go.Proofs.YtpjgedhkanmbpaaDoor.Lg
open Go Go.RowKit
set_option maxRecDepth 8000
set_option linter.unusedVariables false
set_option linter.unusedSimpArgs false
open Lv (ch ltr cap lead varB len_eq ch_at ret_bool ret_int)
open Ly Pl

/-- What the walk is told of the package-level variables. -/
structure Laid (w : World) : Prop where
  tab : Lib.TabIs Tryd.prog w "internal/strconv.uint64pow10" .u64 Lib.pow10Tab
  syn : ∃ te pe, w.cell? ⟨1, 0, none⟩ = some (.iface te pe)
  rng : ∃ te pe, w.cell? ⟨2, 0, none⟩ = some (.iface te pe)
  sgn : ∀ k, k < 12 → w.cell? ⟨0, k, none⟩ = some (.string (lit k))
theorem Laid.below {w w' : World} (h : Laid w) (hb : Below w.heap.size w w') : Laid w' := by
  obtain ⟨t1, t2, ht⟩ := h.syn
  obtain ⟨r1, r2, hr⟩ := h.rng
  exact ⟨Joins.var_stays Tn.gPow h.tab hb (Nat.le_refl _), ⟨t1, t2, (hb.cell (World.block_lt_of_cell? _ _ ht)).trans ht⟩, ⟨r1, r2, (hb.cell (World.block_lt_of_cell? _ _ hr)).trans hr⟩, fun k hk => (hb.cell (World.block_lt_of_cell? _ _ (h.sgn k hk))).trans (h.sgn k hk)⟩
theorem tn_any (s : ByteArray) (w : World) (hlim : s.size ≤ 1048576) (hL : Laid w) :
    Calls Tryd.prog 26 #[.string s] w fun e w' => ((Tn.good s ∧ e = .returned (.tuple #[.int .i64 (Tn.dv 0 s.data.toList : Nat), .bool true])) ∨ (¬ Tn.good s ∧ e = .returned (.tuple #[.int .i64 0, .bool false]))) ∧ Below w.heap.size w w' := by
  obtain ⟨t0, p0, hv0⟩ := hL.syn
  obtain ⟨t1, p1, hv1⟩ := hL.rng
  exact Tn.implTn_any s w hlim _ _ hv0 (Or.inr ⟨_, _, rfl⟩) hv1 (Or.inr ⟨_, _, rfl⟩) hL.tab

theorem clone_any (s : ByteArray) (w : World) (hlim : s.size ≤ 1048576) :
    Calls Tryd.prog 27 #[.string s] w fun e w' => e = .returned (.string s) ∧ Below w.heap.size w w' := by
  go_enter Tryd.func27, Tryd.ntmps27
  go_wp2_with (go_at_call 34; refine (Tryd.stringslite_Clone s _ (by omega)).mono ?_; rintro e w1 ⟨rfl, hb⟩)
  go_ret
  exact ⟨rfl, hb⟩

/-- A token as a value. -/
def tv (f : Ft) (p : Int) : Value := .agg #[.int .i64 f.k, .int .i64 f.n, .string f.s, .int .i64 p]
def zc : Obj := .cells #[.int .i64 0, .int .i64 0, .string ⟨#[]⟩, .int .i64 0] 31
theorem four {w : World} {g : Nat} {a b c d : Value} {t : TypeId} {fr : Nat × Nat} (h : w.heap[g]? = some (.cells #[a, b, c, d] t fr)) : w.cell? ⟨g, 0, none⟩ = some a ∧ w.cell? ⟨g, 1, none⟩ = some b ∧ w.cell? ⟨g, 2, none⟩ = some c ∧ w.cell? ⟨g, 3, none⟩ = some d := by
  simp [World.cell?, h]
theorem below_set4 {w w' : World} {n : Nat} (h : Below n w w') {g : Nat} (hg : n ≤ g) (a b c d : Value) : Below n w ((((w'.setCell ⟨g, 0, none⟩ a).setCell ⟨g, 1, none⟩ b).setCell ⟨g, 2, none⟩ c).setCell ⟨g, 3, none⟩ d) :=
  (((h.setCell hg _).setCell hg _).setCell hg _).setCell hg _

theorem let_good {u : ByteArray} (h : 48 ≤ ch u 0 ∧ ch u 0 ≤ 57) (hg : Tn.good u) : letT u = ⟨3, (Tn.dv 0 u.data.toList : Nat), ⟨#[]⟩, u.size, 0⟩ := by
  unfold letT; rw [if_pos h, if_pos hg]
theorem let_nogood {u : ByteArray} (h : 48 ≤ ch u 0 ∧ ch u 0 ≤ 57) (hg : ¬ Tn.good u) : letT u = ⟨0, 0, ⟨#[]⟩, u.size, 3⟩ := by
  unfold letT; rw [if_pos h, if_neg hg]
theorem let_word {u : ByteArray} (h : ¬ (48 ≤ ch u 0 ∧ ch u 0 ≤ 57)) (hw : Word.wordB u = true) : letT u = ⟨1, 0, u, u.size, 0⟩ := by
  unfold letT; rw [if_neg h, if_pos hw]
theorem let_var {u : ByteArray} (h : ¬ (48 ≤ ch u 0 ∧ ch u 0 ≤ 57)) (hw : Word.wordB u = false) (hv : varB u = true) : letT u = ⟨2, 0, u, u.size, 0⟩ := by
  unfold letT; rw [if_neg h, if_neg (by rw [hw]; decide), if_pos hv]
theorem let_none {u : ByteArray} (h : ¬ (48 ≤ ch u 0 ∧ ch u 0 ≤ 57)) (hw : Word.wordB u = false) (hv : varB u = false) : letT u = ⟨0, 0, ⟨#[]⟩, u.size, 4⟩ := by
  unfold letT; rw [if_neg h, if_neg (by rw [hw]; decide), if_neg (by rw [hv]; decide)]

set_option maxHeartbeats 2000000 in
theorem let_any (u : ByteArray) (hu : 1 ≤ u.size) (hlim : u.size ≤ 6000) (w : World) (hL : Laid w) :
    Calls Tryd.prog 22 #[.string u] w fun e w' => e = .returned (.tuple #[tv (letT u) 0, .int .i64 (letT u).code]) ∧ Below w.heap.size w w' := by
  have hm : u.size ≤ maxLen := by unfold maxLen; omega
  have h0 : 0 < u.size := hu
  have hz0 : (0 : Int) < (u.size : Int) := by omega
  have HC0 : Hid (((u[0]'h0).toNat : Int) = ch u 0) := ch_at u 0 h0
  have B := below_alloc1 w zc
  obtain ⟨W1, hW1⟩ : ∃ W1, W1 = w.alloc zc := ⟨_, rfl⟩
  rw [← hW1] at B
  replace hL := hL.below B
  have k0 : W1.heap[w.heap.size]? = some (.cells #[.int .i64 0, .int .i64 0, .string ⟨#[]⟩, .int .i64 0] 31 (0, 0)) := by subst hW1; exact at_new rfl
  unfold zc at hW1
  by_cases hd : (48 : Int) ≤ ((u[0]'h0).toNat : Int) ∧ ((u[0]'h0).toNat : Int) ≤ 57
  · have hdd := decide_eq_true hd
    have HD : Hid (48 ≤ ch u 0 ∧ ch u 0 ≤ 57) := (by rw [← HC0.out]; exact hd : 48 ≤ ch u 0 ∧ ch u 0 ≤ 57)
    clear hd
    by_cases hg : Tn.good u
    · rw [let_good HD.out hg]
      go_enter Tryd.func22, Tryd.ntmps22
      go_wp2_with (first
        | (go_at_call 25; rw [← hW1]; clear hW1; refine (Word.digit_any _ _).mono ?_; rw [hdd]; rintro e w' ⟨rfl, hw'⟩; replace hw' := hw'.symm; subst hw')
        | (go_at_call 26; refine (tn_any u _ (by omega) hL).mono ?_; rintro e w1 ⟨hor, hb⟩; replace hor := (hor.resolve_right (fun q => q.1 hg)).2; subst hor; replace k0 := (hb.block _ (blk_lt k0)).trans k0; obtain ⟨p0, p1, p2, p3⟩ := four k0; have f0 : ∀ i, w1.frozen? ⟨w.heap.size, i, none⟩ = false := fun i => by simp [World.frozen?, k0]))
      refine bodyPost_ret (v := .tuple #[.agg #[.int .i64 3, .int .i64 (Tn.dv 0 u.data.toList : Nat), .string ⟨#[]⟩, .int .i64 0], .int .i64 0]) (by simp [results, Tryd.results22, go_sem, p0, p1, p2, p3]) rfl ⟨rfl, ?_⟩
      exact below_set4 (Rw.next B hb) (Nat.le_refl _) _ _ _ _
    · rw [let_nogood HD.out hg]
      go_enter Tryd.func22, Tryd.ntmps22
      go_wp2_with (first
        | (go_at_call 25; rw [← hW1]; clear hW1; refine (Word.digit_any _ _).mono ?_; rw [hdd]; rintro e w' ⟨rfl, hw'⟩; replace hw' := hw'.symm; subst hw')
        | (go_at_call 26; refine (tn_any u _ (by omega) hL).mono ?_; rintro e w1 ⟨hor, hb⟩; replace hor := (hor.resolve_left (fun q => hg q.1)).2; subst hor; replace k0 := (hb.block _ (blk_lt k0)).trans k0; obtain ⟨p0, p1, p2, p3⟩ := four k0; have f0 : ∀ i, w1.frozen? ⟨w.heap.size, i, none⟩ = false := fun i => by simp [World.frozen?, k0]))
      refine bodyPost_ret (v := .tuple #[.agg #[.int .i64 0, .int .i64 0, .string ⟨#[]⟩, .int .i64 0], .int .i64 3]) (by simp [results, Tryd.results22, go_sem, p0, p1, p2, p3]) rfl ⟨rfl, ?_⟩
      exact below_set4 (Rw.next B hb) (Nat.le_refl _) _ _ _ _
  · have hdd := decide_eq_false hd
    have HD : Hid (¬ (48 ≤ ch u 0 ∧ ch u 0 ≤ 57)) := (by rw [← HC0.out]; exact hd : ¬ (48 ≤ ch u 0 ∧ ch u 0 ≤ 57))
    clear hd
    cases hw : Word.wordB u with
    | true =>
      rw [let_word HD.out hw]
      go_enter Tryd.func22, Tryd.ntmps22
      go_wp2_with (first
        | (go_at_call 25; rw [← hW1]; clear hW1; refine (Word.digit_any _ _).mono ?_; rw [hdd]; rintro e w' ⟨rfl, hw'⟩; replace hw' := hw'.symm; subst hw')
        | (go_at_call 27; refine (clone_any u _ (by omega)).mono ?_; rintro e w1 ⟨rfl, hb⟩; replace k0 := (hb.block _ (blk_lt k0)).trans k0; obtain ⟨p0, p1, p2, p3⟩ := four k0; have f0 : ∀ i, w1.frozen? ⟨w.heap.size, i, none⟩ = false := fun i => by simp [World.frozen?, k0])
        | (go_at_call 28; refine (Word.implWord_any u _ hm).mono ?_; rw [hw]; rintro e w' ⟨rfl, hw'⟩; replace hw' := hw'.symm; subst hw'))
      refine bodyPost_ret (v := .tuple #[.agg #[.int .i64 1, .int .i64 0, .string u, .int .i64 0], .int .i64 0]) (by simp [results, Tryd.results22, go_sem, p0, p1, p2, p3]) rfl ⟨rfl, ?_⟩
      exact below_set4 (Rw.next B hb) (Nat.le_refl _) _ _ _ _
    | false =>
      cases hv : varB u with
      | true =>
        rw [let_var HD.out hw hv]
        go_enter Tryd.func22, Tryd.ntmps22
        go_wp2_with (first
          | (go_at_call 25; rw [← hW1]; clear hW1; refine (Word.digit_any _ _).mono ?_; rw [hdd]; rintro e w' ⟨rfl, hw'⟩; replace hw' := hw'.symm; subst hw')
          | (go_at_call 27; refine (clone_any u _ (by omega)).mono ?_; rintro e w1 ⟨rfl, hb⟩; replace k0 := (hb.block _ (blk_lt k0)).trans k0; obtain ⟨p0, p1, p2, p3⟩ := four k0; have f0 : ∀ i, w1.frozen? ⟨w.heap.size, i, none⟩ = false := fun i => by simp [World.frozen?, k0])
          | (go_at_call 28; refine (Word.implWord_any u _ hm).mono ?_; rw [hw]; rintro e w' ⟨rfl, hw'⟩; replace hw' := hw'.symm; subst hw')
          | (go_at_call 29; refine (Lv.varI_any u _).mono ?_; rw [hv]; rintro e w2 ⟨rfl, hb2⟩; clear p0 p1 p2 p3 f0; replace k0 := (hb2.block _ (blk_lt k0)).trans k0; obtain ⟨p0, p1, p2, p3⟩ := four k0; have f0 : ∀ i, w2.frozen? ⟨w.heap.size, i, none⟩ = false := fun i => by simp [World.frozen?, k0]))
        refine bodyPost_ret (v := .tuple #[.agg #[.int .i64 2, .int .i64 0, .string u, .int .i64 0], .int .i64 0]) (by simp [results, Tryd.results22, go_sem, p0, p1, p2, p3]) rfl ⟨rfl, ?_⟩
        exact below_set4 (Rw.next (Rw.next B hb) hb2) (Nat.le_refl _) _ _ _ _
      | false =>
        rw [let_none HD.out hw hv]
        go_enter Tryd.func22, Tryd.ntmps22
        go_wp2_with (first
          | (go_at_call 25; rw [← hW1]; clear hW1; refine (Word.digit_any _ _).mono ?_; rw [hdd]; rintro e w' ⟨rfl, hw'⟩; replace hw' := hw'.symm; subst hw')
          | (go_at_call 27; refine (clone_any u _ (by omega)).mono ?_; rintro e w1 ⟨rfl, hb⟩; replace k0 := (hb.block _ (blk_lt k0)).trans k0; obtain ⟨p0, p1, p2, p3⟩ := four k0; have f0 : ∀ i, w1.frozen? ⟨w.heap.size, i, none⟩ = false := fun i => by simp [World.frozen?, k0])
          | (go_at_call 28; refine (Word.implWord_any u _ hm).mono ?_; rw [hw]; rintro e w' ⟨rfl, hw'⟩; replace hw' := hw'.symm; subst hw')
          | (go_at_call 29; refine (Lv.varI_any u _).mono ?_; rw [hv]; rintro e w2 ⟨rfl, hb2⟩; clear p0 p1 p2 p3 f0; replace k0 := (hb2.block _ (blk_lt k0)).trans k0; obtain ⟨p0, p1, p2, p3⟩ := four k0; have f0 : ∀ i, w2.frozen? ⟨w.heap.size, i, none⟩ = false := fun i => by simp [World.frozen?, k0]))
        refine bodyPost_ret (v := .tuple #[.agg #[.int .i64 0, .int .i64 0, .string ⟨#[]⟩, .int .i64 0], .int .i64 4]) (by simp [results, Tryd.results22, go_sem, p0, p1, p2, p3]) rfl ⟨rfl, ?_⟩
        exact below_set4 (Rw.next (Rw.next B hb) hb2) (Nat.le_refl _) _ _ _ _

end Go.Proofs.YtpjgedhkanmbpaaDoor.Lg
