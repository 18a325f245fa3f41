/-
  The program's DeltaOk.
-/
import Derived.Test.YtkpchlojapkimaaEe
import Derived.Test.YtkpchlojapkimaaSe
import Derived.Deep.RegionHeld3
namespace Go.Proofs.Ytkpchlojapkimaa.Ch
set_option maxRecDepth 8000
set_option linter.unusedSimpArgs false
set_option linter.unusedVariables false
open Go Go.ChangeShapes Go.WideShapes Go.RowKit
open Num Word Pl Rp
open Rl (Rm rm0 said)
open Vl (cmpS strLt)
open St (cmpT_any)

set_option maxHeartbeats 1000000 in
theorem unfitC_any (x : Cm) (w : World) (hs : x.s.size ≤ maxLen) (h : x.Ok w) (hc : x.Room) :
    Calls Try.prog 26 #[.agg #[.string x.s, .int .i64 x.p.ar, .slice x.p.a x.p.Q.length x.p.c, .int .i64 x.m.ar, .slice x.m.a x.m.Q.length x.m.c]] w fun e w' => e = .returned (.bool (!changeB x.l)) ∧ Below w.heap.size w w' := by
  have B := below_alloc1 w (.cells #[.string x.s, .int .i64 x.p.ar, .slice x.p.a x.p.Q.length x.p.c, .int .i64 x.m.ar, .slice x.m.a x.m.Q.length x.m.c] 53)
  have hC := changeOk_any x _ hs ⟨h.1.below B, h.2.below B⟩ hc
  generalize changeB x.l = R at hC ⊢
  go_enter Try.func26, Try.ntmps26
  go_wp2_with (go_at_call 27; refine hC.mono ?_; rintro e w1 ⟨rfl, hb⟩)
  go_ret
  exact ⟨ret_bool (by simp), Rw.next B hb⟩

set_option maxHeartbeats 1000000 in
theorem indexC_any (a : Option Addr) (b off cap : Nat) (T : List Cm) (w : World) (h : Rd w a b off T) (hm : Rooms T) :
    Calls Try.prog 52 #[.slice a T.length cap, .func (.func 26) #[] #[]] w fun e w' => Below w.heap.size w w' ∧ ∃ r : Int, e = .returned (.int .i64 r) ∧ (!decide (0 ≤ r)) = (told T).all changeB := by
  obtain ⟨hh, hc, ho, hs, hst⟩ := h
  have HB : Hid (∀ k, k < T.length → changeB (T.getD k cm0).l = false → (told T).all changeB = false) := fun k hk h => all_bad hk h
  have HG : Hid ((∀ i, i < T.length → changeB (T.getD i cm0).l = true) → (told T).all changeB = true) := fun h => all_at h
  generalize (told T).all changeB = R at HB HG ⊢
  unfold Rooms at hm
  obtain ⟨n, hn⟩ : ∃ n, n = T.length := ⟨_, rfl⟩
  rw [← hn] at hh hc ho hs hst HB HG hm ⊢
  clear hn
  go_enter Try.func52, Try.ntmps52
  go_wp2
  go_loopw [8] (fun i wr => ∃ k : Nat, k ≤ n ∧ i = .int .i64 k ∧ Below w.heap.size w wr ∧ ∀ i, i < k → changeB (T.getD i cm0).l = true) (fun i _ => n - (intOf i).toNat)
  case atStart => exact ⟨0, Nat.zero_le _, rfl, Below.refl _ _, fun i hi => by omega⟩
  case round =>
    obtain ⟨k, hk, rfl, hbel, hpre⟩ := hrel
    have HP : Hid (∀ i, i < k → changeB (T.getD i cm0).l = true) := hpre
    clear hpre
    by_cases hlt : k < n
    · obtain rfl := hh (by omega)
      have hkz : (k : Int) < (n : Int) := by omega
      obtain ⟨c0, c1, c2, c3, c4⟩ := At5.of (hc k hlt) hbel (hc k hlt).lt
      have o1 : (T.getD k cm0).Ok wr := ⟨Rl.Rd.below (ho k hlt).1 hbel, Rl.Rd.below (ho k hlt).2 hbel⟩
      have hst1 := hst k hlt
      have hm1 := hm k hlt
      have HB1 : Hid (changeB (T.getD k cm0).l = false → R = false) := HB.out k hlt
      have HX : Hid (changeB (T.getD k cm0).l = true → ∀ i, i < k + 1 → changeB (T.getD i cm0).l = true) := fun h i hi => by
        by_cases e : i = k
        · subst e; exact h
        · exact HP.out i (by omega)
      have hS := unfitC_any (T.getD k cm0) wr hst1 o1 hm1
      clear hc ho hh HB hst hm hst1 o1 hm1
      generalize changeB (T.getD k cm0).l = V at hS HB1 HX
      cases hv : V with
      | true =>
        rw [hv] at hS
        go_wp2_with (go_at_call 26; refine hS.mono ?_; rintro e w1 ⟨rfl, hb⟩)
        go_roundw
        case rel => exact ⟨k + 1, by omega, by go_num, Rw.next hbel hb, HX.out hv⟩
        case measure => simp [intOf]; omega
      | false =>
        rw [hv] at hS
        go_wp2_with (go_at_call 26; refine hS.mono ?_; rintro e w1 ⟨rfl, hb⟩)
        go_ret
        exact ⟨Rw.next hbel hb, _, rfl, by rw [HB1.out hv]; simp⟩
    · have he : k = n := by omega
      subst he
      go_wp2
      go_ret
      exact ⟨hbel, _, rfl, by rw [HG.out HP.out]; rfl⟩

theorem containsC_any (a : Option Addr) (b off cap : Nat) (T : List Cm) (w : World) (h : Rd w a b off T) (hm : Rooms T) :
    Calls Try.prog 28 #[.slice a T.length cap, .func (.func 26) #[] #[]] w fun e w' => e = .returned (.bool (!(told T).all changeB)) ∧ Below w.heap.size w w' := by
  have hi := indexC_any a b off cap T w h hm
  generalize (told T).all changeB = R at hi ⊢
  go_enter Try.func28, Try.ntmps28
  go_wp2_with (go_at_call 52; refine hi.mono ?_; rintro e w1 ⟨hb, r, rfl, hr⟩; have HR : Hid ((!decide (0 ≤ r)) = R) := hr; clear hr)
  go_ret
  exact ⟨ret_bool (by rw [← HR.out]; simp), hb⟩

theorem byC_any (s t : ByteArray) (u1 u2 u3 u4 v1 v2 v3 v4 : Value) (w : World) :
    Calls Try.prog 53 #[.agg #[.string s, u1, u2, u3, u4], .agg #[.string t, v1, v2, v3, v4]] w fun e w' => e = .returned (.int .i64 (cmpS s t)) ∧ Below w.heap.size w w' := by
  have B := below_alloc2 w (.cells #[.string s, u1, u2, u3, u4] 53) (.cells #[.string t, v1, v2, v3, v4] 53)
  go_enter Try.func53, Try.ntmps53
  go_wp2_with (go_at_call 54; refine (cmpT_any _ _ _).mono ?_; rintro e w1 ⟨rfl, hw⟩; replace hw := hw.symm; subst hw)
  go_ret
  exact ⟨rfl, B⟩

set_option maxHeartbeats 2000000 in
theorem risesC_any (a : Option Addr) (b off cap : Nat) (T : List Cm) (w : World) (h : Rd w a b off T) :
    Calls Try.prog 30 #[.agg #[.slice a T.length cap, .func (.func 53) #[] #[]]] w fun e w' => e = .returned (.bool (risesC (told T))) ∧ Below w.heap.size w w' := by
  obtain ⟨W1, hW1⟩ : ∃ W1, W1 = w.alloc (.cells #[.slice a T.length cap, .func (.func 53) #[] #[]] 61) := ⟨_, rfl⟩
  have B1 : Below w.heap.size w W1 := by subst hW1; exact below_alloc1 _ _
  have k0 : W1.heap[w.heap.size]? = some (.cells #[.slice a T.length cap, .func (.func 53) #[] #[]] 61 (0, 0)) := by subst hW1; exact at_new rfl
  obtain ⟨hh, hc, ho, hs, hst⟩ := h.below B1
  clear h
  obtain ⟨R, hR⟩ : ∃ R, R = risesC (told T) := ⟨_, rfl⟩
  have HG : Hid ((∀ i, i + 1 < T.length → cmpS (T.getD i cm0).s (T.getD (i + 1) cm0).s < 0) → R = true) := fun h => by
    rw [hR, risesC_iff]
    intro i hi
    rw [told_len] at hi
    rw [told_at (by omega), told_at hi]; exact cmpS_lt.1 (h i hi)
  have HB : Hid (∀ i, i + 1 < T.length → 0 ≤ cmpS (T.getD i cm0).s (T.getD (i + 1) cm0).s → R = false) := fun i hi h => by
    rw [hR, ← Bool.not_eq_true]
    intro e
    have := (risesC_iff _).1 e i (by rw [told_len]; exact hi)
    rw [told_at (by omega), told_at hi] at this
    have := cmpS_lt.2 this
    simp only [Cm.l] at this
    omega
  rw [← hR]
  clear hR
  obtain ⟨n, hn⟩ : ∃ n, n = T.length := ⟨_, rfl⟩
  rw [← hn] at hh hc ho hs hst HG HB k0 hW1 ⊢
  clear hn ho hst
  go_enter Try.func30, Try.ntmps30
  go_wp2
  rw [← hW1]
  clear hW1
  go_loopw [3] (fun i wr => ∃ k : Nat, (k = 0 ∨ k < n) ∧ i = .int .i64 ((k + 1 : Nat) : Int) ∧ Below W1.heap.size W1 wr ∧ ∀ i, i < k → cmpS (T.getD i cm0).s (T.getD (i + 1) cm0).s < 0) (fun i _ => n - (intOf i).toNat)
  case atStart => exact ⟨0, .inl rfl, rfl, Below.refl _ _, fun i hi => by omega⟩
  case round =>
    obtain ⟨k, hk, rfl, hbel, hpre⟩ := hrel
    have HP : Hid (∀ i, i < k → cmpS (T.getD i cm0).s (T.getD (i + 1) cm0).s < 0) := hpre
    have HK : Hid (k = 0 ∨ k < n) := hk
    clear hpre hk
    replace k0 := (hbel.block _ (blk_lt k0)).trans k0
    obtain ⟨p0, p1⟩ := two k0
    by_cases hlt : k + 1 < n
    · obtain rfl := hh (by omega)
      obtain ⟨A0, A1, A2, A3, A4⟩ := At5.of (hc k (by omega)) hbel (hc k (by omega)).lt
      obtain ⟨E0, E1, E2, E3, E4⟩ := At5.of (hc (k + 1) hlt) hbel (hc (k + 1) hlt).lt
      have lb : b < wr.heap.size := World.block_lt_of_cell? _ _ A0
      have HB1 : Hid (0 ≤ cmpS (T.getD k cm0).s (T.getD (k + 1) cm0).s → R = false) := HB.out k hlt
      have HX : Hid (cmpS (T.getD k cm0).s (T.getD (k + 1) cm0).s < 0 → ∀ i, i < k + 1 → cmpS (T.getD i cm0).s (T.getD (i + 1) cm0).s < 0) := fun h i hi => by
        by_cases e : i = k
        · subst e; exact h
        · exact HP.out i (by omega)
      clear hc hh HB
      generalize T.getD k cm0 = x at A0 A1 A2 A3 A4 HB1 HX
      generalize T.getD (k + 1) cm0 = y at E0 E1 E2 E3 E4 HB1 HX
      obtain ⟨xs, ⟨xr, xa, xb, xo, xc, xQ⟩, ⟨xr', xa', xb', xo', xc', xQ'⟩⟩ := x
      obtain ⟨ys, ⟨yr, ya, yb, yo, yc, yQ⟩, ⟨yr', ya', yb', yo', yc', yQ'⟩⟩ := y
      simp only at A0 A1 A2 A3 A4 E0 E1 E2 E3 E4 HB1 HX
      generalize Value.slice xa xQ.length xc = vx at A2
      generalize Value.slice xa' xQ'.length xc' = vx' at A4
      generalize Value.slice ya yQ.length yc = vy at E2
      generalize Value.slice ya' yQ'.length yc' = vy' at E4
      have hO := fun W => byC_any xs ys (.int .i64 xr) vx (.int .i64 xr') vx' (.int .i64 yr) vy (.int .i64 yr') vy' W
      generalize cmpS xs ys = r at hO HB1 HX
      obtain ⟨m, hm⟩ : ∃ m, m = k + 1 := ⟨_, rfl⟩
      rw [← hm] at E0 E1 E2 E3 E4 ⊢
      have HM : Hid (m = k + 1) := hm
      have ek : IntKind.i64.wrap ((m : Int) - 1) = (k : Int) := by rw [hm]; have h1 : ((k + 1 : Nat) : Int) - 1 = k := (by omega); rw [h1]; simp [IntKind.wrap, IntKind.bits, IntKind.signed]; omega
      have hkz : (m : Int) < (n : Int) := by omega
      have hkn : (k : Int) < (n : Int) := by omega
      have hk0 : (0 : Int) ≤ (k : Int) := by omega
      clear hm
      by_cases hlo : r < 0
      · have hlo' : ¬ (0 ≤ r) := by omega
        go_wp2
        go_region_held3 (fun w' => w'.cell? ⟨w.heap.size, 0, none⟩ = some (.slice (some ⟨b, off, none⟩) n cap) ∧ w'.cell? ⟨w.heap.size, 1, none⟩ = some (.func (.func 53) #[] #[]) ∧ w'.cell? ⟨b, off + k * 5, none⟩ = some (.string xs) ∧ w'.cell? ⟨b, off + k * 5 + 1, none⟩ = some (.int .i64 xr) ∧ w'.cell? ⟨b, off + k * 5 + 2, none⟩ = some vx ∧ w'.cell? ⟨b, off + k * 5 + 3, none⟩ = some (.int .i64 xr') ∧ w'.cell? ⟨b, off + k * 5 + 4, none⟩ = some vx' ∧ w'.cell? ⟨b, off + m * 5, none⟩ = some (.string ys) ∧ w'.cell? ⟨b, off + m * 5 + 1, none⟩ = some (.int .i64 yr) ∧ w'.cell? ⟨b, off + m * 5 + 2, none⟩ = some vy ∧ w'.cell? ⟨b, off + m * 5 + 3, none⟩ = some (.int .i64 yr') ∧ w'.cell? ⟨b, off + m * 5 + 4, none⟩ = some vy') (go_keep) (first
          | (go_at_call 53; refine (hO _).mono ?_; rintro e w1 ⟨rfl, hb⟩; replace hb := Rw.next ((Below.refl _ _).drew) hb; clear p0 p1; replace hbel := Rw.next hbel hb; replace k0 := (hb.block _ (blk_lt k0)).trans k0; obtain ⟨p0, p1⟩ := two k0; replace A0 := (hb.cell lb).trans A0; replace A1 := (hb.cell lb).trans A1; replace A2 := (hb.cell lb).trans A2; replace A3 := (hb.cell lb).trans A3; replace A4 := (hb.cell lb).trans A4; replace E0 := (hb.cell lb).trans E0; replace E1 := (hb.cell lb).trans E1; replace E2 := (hb.cell lb).trans E2; replace E3 := (hb.cell lb).trans E3; replace E4 := (hb.cell lb).trans E4))
        go_wp2
        go_roundw
        case rel => exact ⟨k + 1, .inr hlt, by have := HM.out; subst this; go_num, hbel, HX.out hlo⟩
        case measure => have := HM.out; simp [intOf]; omega
      · have hlo' : 0 ≤ r := by omega
        go_wp2
        go_region_held3 (fun w' => w'.cell? ⟨w.heap.size, 0, none⟩ = some (.slice (some ⟨b, off, none⟩) n cap) ∧ w'.cell? ⟨w.heap.size, 1, none⟩ = some (.func (.func 53) #[] #[]) ∧ w'.cell? ⟨b, off + k * 5, none⟩ = some (.string xs) ∧ w'.cell? ⟨b, off + k * 5 + 1, none⟩ = some (.int .i64 xr) ∧ w'.cell? ⟨b, off + k * 5 + 2, none⟩ = some vx ∧ w'.cell? ⟨b, off + k * 5 + 3, none⟩ = some (.int .i64 xr') ∧ w'.cell? ⟨b, off + k * 5 + 4, none⟩ = some vx' ∧ w'.cell? ⟨b, off + m * 5, none⟩ = some (.string ys) ∧ w'.cell? ⟨b, off + m * 5 + 1, none⟩ = some (.int .i64 yr) ∧ w'.cell? ⟨b, off + m * 5 + 2, none⟩ = some vy ∧ w'.cell? ⟨b, off + m * 5 + 3, none⟩ = some (.int .i64 yr') ∧ w'.cell? ⟨b, off + m * 5 + 4, none⟩ = some vy') (go_keep) (first
          | (go_at_call 53; refine (hO _).mono ?_; rintro e w1 ⟨rfl, hb⟩; replace hb := Rw.next ((Below.refl _ _).drew) hb; clear p0 p1; replace hbel := Rw.next hbel hb; replace k0 := (hb.block _ (blk_lt k0)).trans k0; obtain ⟨p0, p1⟩ := two k0; replace A0 := (hb.cell lb).trans A0; replace A1 := (hb.cell lb).trans A1; replace A2 := (hb.cell lb).trans A2; replace A3 := (hb.cell lb).trans A3; replace A4 := (hb.cell lb).trans A4; replace E0 := (hb.cell lb).trans E0; replace E1 := (hb.cell lb).trans E1; replace E2 := (hb.cell lb).trans E2; replace E3 := (hb.cell lb).trans E3; replace E4 := (hb.cell lb).trans E4))
        go_wp2
        go_ret
        exact ⟨ret_bool (HB1.out hlo').symm, Rw.next B1 hbel⟩
    · have hkz : ¬ ((k + 1 : Nat) : Int) < (n : Int) := by omega
      go_wp2
      go_ret
      exact ⟨ret_bool (HG.out fun i hi => HP.out i (by have := HK.out; omega)).symm, Rw.next B1 hbel⟩

theorem setC_any (a : Option Addr) (n c : Nat) (w : World) :
    Calls Try.prog 29 #[.agg #[.slice a n c]] w fun e w' => e = .returned (.agg #[.slice a n c, .func (.func 53) #[] #[]]) ∧ Below w.heap.size w w' := by
  have B := below_alloc1 w (.cells #[.slice a n c] 29)
  go_enter Try.func29, Try.ntmps29
  go_wp2
  obtain ⟨c0, c1⟩ := two (w := (w.alloc (.cells #[.slice a n c] 29)).alloc (.cells #[.slice a n c, .func (.func 53) #[] #[]] 61)) (g := w.heap.size + 1) (at_new (by simp))
  exact bodyPost_ret (v := .agg #[.slice a n c, .func (.func 53) #[] #[]]) (by simp [results, Try.results29, go_sem, c0, c1]) rfl ⟨rfl, Rw.next B (below_alloc1 _ _)⟩

set_option maxHeartbeats 1000000 in
theorem okI_any (a : Option Addr) (b off cap : Nat) (T : List Cm) (w : World) (h : Rd w a b off T) (hm : Rooms T) :
    Calls Try.prog 9 #[.agg #[.slice a T.length cap]] w fun e w' => e = .returned (.bool (deltaB (told T))) ∧ Below w.heap.size w w' := by
  obtain ⟨W1, hW1⟩ : ∃ W1, W1 = w.alloc (.cells #[.slice a T.length cap] 29) := ⟨_, rfl⟩
  have B1 : Below w.heap.size w W1 := by subst hW1; exact below_alloc1 _ _
  have k0 : W1.heap[w.heap.size]? = some (.cells #[.slice a T.length cap] 29 (0, 0)) := by subst hW1; exact at_new rfl
  replace h := h.below B1
  unfold deltaB
  rw [told_len]
  by_cases hB : T.length ≤ 24
  · have hB' : (T.length : Int) ≤ 24 := by omega
    rw [decide_eq_true hB]
    have hC := containsC_any a b off cap T W1 h hm
    cases hF : (told T).all changeB with
    | false =>
      rw [hF] at hC
      clear hB
      go_enter Try.func9, Try.ntmps9
      go_wp2_with (go_at_call 28; rw [← hW1]; clear hW1; refine hC.mono ?_; rintro e w1 ⟨rfl, hb⟩)
      go_ret
      exact ⟨ret_bool (by simp), Rw.next B1 hb⟩
    | true =>
      rw [hF] at hC
      have hS := fun W h' => risesC_any a b off cap T W h'
      generalize risesC (told T) = R at hS ⊢
      clear hB hF
      go_enter Try.func9, Try.ntmps9
      go_wp2_with (first
        | (go_at_call 28; rw [← hW1]; clear hW1; refine hC.mono ?_; rintro e w1 ⟨rfl, hb⟩; replace B1 := Rw.next B1 hb; replace k0 := (hb.block _ (blk_lt k0)).trans k0; replace h := h.below hb; clear hb; have p0 := one k0)
        | (go_at_call 29; refine (setC_any _ _ _ _).mono ?_; rintro e w2 ⟨rfl, hb⟩; replace B1 := Rw.next B1 hb; replace h := h.below hb; clear hb p0)
        | (go_at_call 30; refine (hS _ h).mono ?_; rintro e w3 ⟨rfl, hb⟩))
      go_ret
      exact ⟨ret_bool (by simp), Rw.next B1 hb⟩
  · have hB' : ¬ (T.length : Int) ≤ 24 := by omega
    rw [decide_eq_false hB]
    clear hB
    go_enter Try.func9, Try.ntmps9
    go_wp2
    go_ret
    exact ⟨ret_bool (by simp), by rw [← hW1]; exact B1⟩

end Go.Proofs.Ytkpchlojapkimaa.Ch
