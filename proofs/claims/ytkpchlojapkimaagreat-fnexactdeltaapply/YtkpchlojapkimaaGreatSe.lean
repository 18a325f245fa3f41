/-
  The program's StoreOk.
-/
import Derived.Test.YtkpchlojapkimaaGreatSa
import Derived.Test.YtkpchlojapkimaaGreatSb
import Derived.Test.YtkpchlojapkimaaGreatRc
namespace Go.Proofs.YtkpchlojapkimaaGreat.St
set_option maxRecDepth 8000
set_option linter.unusedSimpArgs false
set_option linter.unusedVariables false
open Go Go.ChangeShapes Go.WideShapes Go.RowKit
open Num Word Pl Rp
open Rl (Rm rm0 said)
open Vl (cmpS strLt)

/-- Is the named relation right? -/
def oneB (x : NL) : Bool := wordB x.1 && relB x.2.1 x.2.2
/-- Do the names rise? -/
def risesN : List NL → Bool
  | [] => true
  | [_] => true
  | x :: y :: T => strLt x.1 y.1 && risesN (y :: T)
/-- Is the store right? -/
def storeB (T : List NL) : Bool := decide (T.length ≤ 24) && T.all oneB && risesN T
theorem risesN_iff : ∀ (T : List NL), risesN T = true ↔ ∀ i, i + 1 < T.length → strLt (T.getD i nl0).1 (T.getD (i + 1) nl0).1 = true
  | [] => by simp [risesN]
  | [x] => by simp [risesN]
  | x :: y :: T => by
    have ih := risesN_iff (y :: T)
    simp only [risesN, Bool.and_eq_true, ih]
    constructor
    · rintro ⟨h1, h2⟩ i hi
      cases i with
      | zero => simpa [List.getD] using h1
      | succ i => have := h2 i (by simp at hi ⊢; omega); simpa [List.getD] using this
    · intro h
      refine ⟨by have := h 0 (by simp); simpa [List.getD] using this, fun i hi => ?_⟩
      have := h (i + 1) (by simp at hi ⊢; omega)
      simpa [List.getD] using this
theorem all_at {T : List Nm} (h : ∀ i, i < T.length → oneB (T.getD i nm0).l = true) : (told T).all oneB = true := by
  refine List.all_eq_true.2 fun x hx => ?_
  obtain ⟨i, hi, rfl⟩ := List.getElem_of_mem hx
  have hi' : i < T.length := by rw [told_len] at hi; exact hi
  have := h i hi'
  rw [← told_at hi'] at this
  simpa [List.getD, hi] using this
theorem all_bad {T : List Nm} {k : Nat} (hk : k < T.length) (h : oneB (T.getD k nm0).l = false) : (told T).all oneB = false := by
  rw [List.all_eq_false]
  have hk' : k < (told T).length := by rw [told_len]; exact hk
  refine ⟨(told T)[k], List.getElem_mem hk', ?_⟩
  rw [← told_at hk] at h
  simpa [List.getD, hk'] using h

theorem nanS (a : ByteArray) (w : World) : Calls Tryz.prog 144 #[.string a] w fun e w' => e = .returned (.bool false) ∧ w' = w := by
  go_enter Tryz.func144, Tryz.ntmps144
  go_wp2
  go_ret
  exact ⟨ret_bool (by simp), rfl⟩
theorem cmpT_any (a b : ByteArray) (w : World) : Calls Tryz.prog 104 #[.string a, .string b] w fun e w' => e = .returned (.int .i64 (cmpS a b)) ∧ w' = w := by
  have ht := Vl.less_total a.toList b.toList
  unfold cmpS strLt
  cases h1 : Op.bytesLess a.toList b.toList with
  | true =>
    go_enter Tryz.func104, Tryz.ntmps104
    go_wp2_with (go_at_call 144; refine (nanS _ _).mono ?_; rintro e w1 ⟨rfl, hw⟩; replace hw := hw.symm; subst hw)
    go_ret
    exact ⟨rfl, rfl⟩
  | false =>
    rw [h1] at ht
    cases h2 : Op.bytesLess b.toList a.toList with
    | true =>
      rw [h2] at ht
      have h3 : (a.toList == b.toList) = false := by simpa using ht
      clear ht
      go_enter Tryz.func104, Tryz.ntmps104
      go_wp2_with (go_at_call 144; refine (nanS _ _).mono ?_; rintro e w1 ⟨rfl, hw⟩; replace hw := hw.symm; subst hw)
      go_ret
      exact ⟨rfl, rfl⟩
    | false =>
      rw [h2] at ht
      have h3 : (a.toList == b.toList) = true := by simpa using ht
      clear ht
      go_enter Tryz.func104, Tryz.ntmps104
      go_wp2_with (go_at_call 144; refine (nanS _ _).mono ?_; rintro e w1 ⟨rfl, hw⟩; replace hw := hw.symm; subst hw)
      go_ret
      exact ⟨rfl, rfl⟩

theorem byName_any (s t : ByteArray) (ar ar' : Int) (v v' : Value) (w : World) :
    Calls Tryz.prog 90 #[.agg #[.string s, .int .i64 ar, v], .agg #[.string t, .int .i64 ar', v']] w fun e w' => e = .returned (.int .i64 (cmpS s t)) ∧ w' = (w.alloc (.cells #[.string s, .int .i64 ar, v] 69)).alloc (.cells #[.string t, .int .i64 ar', v'] 69) := by
  go_enter Tryz.func90, Tryz.ntmps90
  go_wp2_with (go_at_call 104; refine (cmpT_any _ _ _).mono ?_; rintro e w1 ⟨rfl, hw⟩; replace hw := hw.symm; subst hw)
  go_ret
  exact ⟨rfl, rfl⟩
theorem byName_bel (s t : ByteArray) (ar ar' : Int) (v v' : Value) (w : World) :
    Calls Tryz.prog 90 #[.agg #[.string s, .int .i64 ar, v], .agg #[.string t, .int .i64 ar', v']] w fun e w' => e = .returned (.int .i64 (cmpS s t)) ∧ Below w.heap.size w w' :=
  (byName_any s t ar ar' v v' w).mono fun e w' ⟨h1, h2⟩ => ⟨h1, by rw [h2]; exact below_alloc2 _ _ _⟩

set_option maxHeartbeats 1000000 in
theorem unfit_any (s : ByteArray) (ar : Int) (a : Option Addr) (b off cap : Nat) (Q : List Rm) (w : World) (hs : s.size ≤ maxLen) (h : Rl.Rd w a b off Q) :
    Calls Tryz.prog 87 #[.agg #[.string s, .int .i64 ar, .slice a Q.length cap]] w fun e w' => e = .returned (.bool (!(wordB s && relB ar (said Q)))) ∧ Below w.heap.size w w' := by
  have B := below_alloc1 w (.cells #[.string s, .int .i64 ar, .slice a Q.length cap] 69)
  have hW := fun W => implWord_any s W hs
  have hR := Rl.relI_any ar a b off cap Q _ (h.below B)
  generalize relB ar (said Q) = R at hR ⊢
  cases hv : wordB s with
  | false =>
    rw [hv] at hW
    go_enter Tryz.func87, Tryz.ntmps87
    go_wp2_with (go_at_call 88; refine (hW _).mono ?_; rintro e w1 ⟨rfl, hw⟩; replace hw := hw.symm; subst hw)
    go_ret
    exact ⟨ret_bool (by simp), B⟩
  | true =>
    rw [hv] at hW
    go_enter Tryz.func87, Tryz.ntmps87
    go_wp2_with (first
      | (go_at_call 88; refine (hW _).mono ?_; rintro e w1 ⟨rfl, hw⟩; replace hw := hw.symm; subst hw)
      | (go_at_call 89; refine hR.mono ?_; rintro e w1 ⟨rfl, hb⟩))
    go_ret
    exact ⟨ret_bool (by simp), Rw.next B hb⟩

set_option maxHeartbeats 1000000 in
theorem indexN_any (a : Option Addr) (b off cap : Nat) (T : List Nm) (w : World) (h : Rd w a b off T) :
    Calls Tryz.prog 138 #[.slice a T.length cap, .func (.func 87) #[] #[]] w fun e w' => Below w.heap.size w w' ∧ ∃ r : Int, e = .returned (.int .i64 r) ∧ (!decide (0 ≤ r)) = (told T).all oneB := by
  obtain ⟨hh, hc, ho, hs, hst⟩ := h
  have HB : Hid (∀ k, k < T.length → oneB (T.getD k nm0).l = false → (told T).all oneB = false) := fun k hk h => all_bad hk h
  have HG : Hid ((∀ i, i < T.length → oneB (T.getD i nm0).l = true) → (told T).all oneB = true) := fun h => all_at h
  generalize (told T).all oneB = R at HB HG ⊢
  obtain ⟨n, hn⟩ : ∃ n, n = T.length := ⟨_, rfl⟩
  rw [← hn] at hh hc ho hs hst HB HG ⊢
  clear hn
  go_enter Tryz.func138, Tryz.ntmps138
  go_wp2
  go_loopw [8] (fun i wr => ∃ k : Nat, k ≤ n ∧ i = .int .i64 k ∧ Below w.heap.size w wr ∧ ∀ i, i < k → oneB (T.getD i nm0).l = true) (fun i _ => n - (intOf i).toNat)
  case atStart => exact ⟨0, Nat.zero_le _, rfl, Below.refl _ _, fun i hi => by omega⟩
  case round =>
    obtain ⟨k, hk, rfl, hbel, hpre⟩ := hrel
    have HP : Hid (∀ i, i < k → oneB (T.getD i nm0).l = true) := hpre
    clear hpre
    by_cases hlt : k < n
    · obtain rfl := hh (by omega)
      have hkz : (k : Int) < (n : Int) := by omega
      obtain ⟨c0, c1, c2⟩ := At3.of (hc k hlt) hbel (hc k hlt).lt
      have o1 := Rl.Rd.below (ho k hlt) hbel
      have hst1 := hst k hlt
      have HB1 : Hid (oneB (T.getD k nm0).l = false → R = false) := HB.out k hlt
      have HX : Hid (oneB (T.getD k nm0).l = true → ∀ i, i < k + 1 → oneB (T.getD i nm0).l = true) := fun h i hi => by
        by_cases e : i = k
        · subst e; exact h
        · exact HP.out i (by omega)
      clear hc ho hh HB hst
      generalize T.getD k nm0 = x at c0 c1 c2 o1 HB1 HX hst1
      obtain ⟨xs, xr, xa, xb, xo, xc, xQ⟩ := x
      simp only [Nm.l, oneB] at c0 c1 c2 o1 HB1 HX hst1
      have hS := unfit_any xs xr xa xb xo xc xQ wr hst1 o1
      generalize (wordB xs && relB xr (said xQ)) = V at hS HB1 HX
      cases hv : V with
      | true =>
        rw [hv] at hS
        go_wp2_with (go_at_call 87; refine hS.mono ?_; rintro e w1 ⟨rfl, hb⟩)
        go_roundw
        case rel => exact ⟨k + 1, by omega, by go_num, Rw.next hbel hb, HX.out hv⟩
        case measure => simp [intOf]; omega
      | false =>
        rw [hv] at hS
        go_wp2_with (go_at_call 87; refine hS.mono ?_; rintro e w1 ⟨rfl, hb⟩)
        go_ret
        exact ⟨Rw.next hbel hb, _, rfl, by rw [HB1.out hv]; simp⟩
    · have he : k = n := by omega
      subst he
      go_wp2
      go_ret
      exact ⟨hbel, _, rfl, by rw [HG.out HP.out]; rfl⟩

theorem containsN_any (a : Option Addr) (b off cap : Nat) (T : List Nm) (w : World) (h : Rd w a b off T) :
    Calls Tryz.prog 91 #[.slice a T.length cap, .func (.func 87) #[] #[]] w fun e w' => e = .returned (.bool (!(told T).all oneB)) ∧ Below w.heap.size w w' := by
  have hi := indexN_any a b off cap T w h
  generalize (told T).all oneB = R at hi ⊢
  go_enter Tryz.func91, Tryz.ntmps91
  go_wp2_with (go_at_call 138; refine hi.mono ?_; rintro e w1 ⟨hb, r, rfl, hr⟩; have HR : Hid ((!decide (0 ≤ r)) = R) := hr; clear hr)
  go_ret
  exact ⟨ret_bool (by rw [← HR.out]; simp), hb⟩

set_option maxHeartbeats 2000000 in
theorem risesN_any (a : Option Addr) (b off cap : Nat) (T : List Nm) (w : World) (h : Rd w a b off T) :
    Calls Tryz.prog 92 #[.agg #[.slice a T.length cap, .func (.func 90) #[] #[]]] w fun e w' => e = .returned (.bool (risesN (told T))) ∧ Below w.heap.size w w' := by
  obtain ⟨W1, hW1⟩ : ∃ W1, W1 = w.alloc (.cells #[.slice a T.length cap, .func (.func 90) #[] #[]] 127) := ⟨_, rfl⟩
  have B1 : Below w.heap.size w W1 := by subst hW1; exact below_alloc1 _ _
  have k0 : W1.heap[w.heap.size]? = some (.cells #[.slice a T.length cap, .func (.func 90) #[] #[]] 127 (0, 0)) := by subst hW1; exact at_new rfl
  obtain ⟨hh, hc, ho, hs, hst⟩ := h.below B1
  clear h
  obtain ⟨R, hR⟩ : ∃ R, R = risesN (told T) := ⟨_, rfl⟩
  have HG : Hid ((∀ i, i + 1 < T.length → cmpS (T.getD i nm0).s (T.getD (i + 1) nm0).s < 0) → R = true) := fun h => by
    rw [hR, risesN_iff]
    intro i hi
    rw [told_len] at hi
    rw [told_at (by omega), told_at hi]; exact cmpS_lt.1 (h i hi)
  have HB : Hid (∀ i, i + 1 < T.length → 0 ≤ cmpS (T.getD i nm0).s (T.getD (i + 1) nm0).s → R = false) := fun i hi h => by
    rw [hR, ← Bool.not_eq_true]
    intro e
    have := (risesN_iff _).1 e i (by rw [told_len]; exact hi)
    rw [told_at (by omega), told_at hi] at this
    have := cmpS_lt.2 this
    simp only [Nm.l] at this
    omega
  rw [← hR]
  clear hR
  obtain ⟨n, hn⟩ : ∃ n, n = T.length := ⟨_, rfl⟩
  rw [← hn] at hh hc ho hs hst HG HB k0 hW1 ⊢
  clear hn ho hst
  go_enter Tryz.func92, Tryz.ntmps92
  go_wp2
  rw [← hW1]
  clear hW1
  go_loopw [3] (fun i wr => ∃ k : Nat, (k = 0 ∨ k < n) ∧ i = .int .i64 ((k + 1 : Nat) : Int) ∧ Below W1.heap.size W1 wr ∧ ∀ i, i < k → cmpS (T.getD i nm0).s (T.getD (i + 1) nm0).s < 0) (fun i _ => n - (intOf i).toNat)
  case atStart => exact ⟨0, .inl rfl, rfl, Below.refl _ _, fun i hi => by omega⟩
  case round =>
    obtain ⟨k, hk, rfl, hbel, hpre⟩ := hrel
    have HP : Hid (∀ i, i < k → cmpS (T.getD i nm0).s (T.getD (i + 1) nm0).s < 0) := hpre
    have HK : Hid (k = 0 ∨ k < n) := hk
    clear hpre hk
    replace k0 := (hbel.block _ (blk_lt k0)).trans k0
    obtain ⟨p0, p1⟩ := two k0
    by_cases hlt : k + 1 < n
    · obtain rfl := hh (by omega)
      obtain ⟨A0, A1, A2⟩ := At3.of (hc k (by omega)) hbel (hc k (by omega)).lt
      obtain ⟨E0, E1, E2⟩ := At3.of (hc (k + 1) hlt) hbel (hc (k + 1) hlt).lt
      have lb : b < wr.heap.size := World.block_lt_of_cell? _ _ A0
      have HB1 : Hid (0 ≤ cmpS (T.getD k nm0).s (T.getD (k + 1) nm0).s → R = false) := HB.out k hlt
      have HX : Hid (cmpS (T.getD k nm0).s (T.getD (k + 1) nm0).s < 0 → ∀ i, i < k + 1 → cmpS (T.getD i nm0).s (T.getD (i + 1) nm0).s < 0) := fun h i hi => by
        by_cases e : i = k
        · subst e; exact h
        · exact HP.out i (by omega)
      clear hc hh HB
      generalize T.getD k nm0 = x at A0 A1 A2 HB1 HX
      generalize T.getD (k + 1) nm0 = y at E0 E1 E2 HB1 HX
      obtain ⟨xs, xr, xa, xb, xo, xc, xQ⟩ := x
      obtain ⟨ys, yr, ya, yb, yo, yc, yQ⟩ := y
      simp only at A0 A1 A2 E0 E1 E2 HB1 HX
      generalize Value.slice xa xQ.length xc = vx at A2
      generalize Value.slice ya yQ.length yc = vy at E2
      have hO := fun W => byName_bel xs ys xr yr vx vy W
      generalize cmpS xs ys = r at hO HB1 HX
      obtain ⟨m, hm⟩ : ∃ m, m = k + 1 := ⟨_, rfl⟩
      rw [← hm] at E0 E1 E2 ⊢
      have HM : Hid (m = k + 1) := hm
      have ek : IntKind.i64.wrap ((m : Int) - 1) = (k : Int) := by rw [hm]; have h1 : ((k + 1 : Nat) : Int) - 1 = k := (by omega); rw [h1]; simp [IntKind.wrap, IntKind.bits, IntKind.signed]; omega
      have hkz : (m : Int) < (n : Int) := by omega
      have hkn : (k : Int) < (n : Int) := by omega
      have hk0 : (0 : Int) ≤ (k : Int) := by omega
      clear hm
      by_cases hlo : r < 0
      · have hlo' : ¬ (0 ≤ r) := by omega
        go_wp2
        go_region_held3 (fun w' => w'.cell? ⟨w.heap.size, 0, none⟩ = some (.slice (some ⟨b, off, none⟩) n cap) ∧ w'.cell? ⟨w.heap.size, 1, none⟩ = some (.func (.func 90) #[] #[]) ∧ w'.cell? ⟨b, off + k * 3, none⟩ = some (.string xs) ∧ w'.cell? ⟨b, off + k * 3 + 1, none⟩ = some (.int .i64 xr) ∧ w'.cell? ⟨b, off + k * 3 + 2, none⟩ = some vx ∧ w'.cell? ⟨b, off + m * 3, none⟩ = some (.string ys) ∧ w'.cell? ⟨b, off + m * 3 + 1, none⟩ = some (.int .i64 yr) ∧ w'.cell? ⟨b, off + m * 3 + 2, none⟩ = some vy) (go_keep) (first
          | (go_at_call 90; refine (hO _).mono ?_; rintro e w1 ⟨rfl, hb⟩; replace hb := Rw.next ((Below.refl _ _).drew) hb; clear p0 p1; replace hbel := Rw.next hbel hb; replace k0 := (hb.block _ (blk_lt k0)).trans k0; obtain ⟨p0, p1⟩ := two k0; replace A0 := (hb.cell lb).trans A0; replace A1 := (hb.cell lb).trans A1; replace A2 := (hb.cell lb).trans A2; replace E0 := (hb.cell lb).trans E0; replace E1 := (hb.cell lb).trans E1; replace E2 := (hb.cell lb).trans E2))
        go_wp2
        go_roundw
        case rel => exact ⟨k + 1, .inr hlt, by have := HM.out; subst this; go_num, hbel, HX.out hlo⟩
        case measure => have := HM.out; simp [intOf]; omega
      · have hlo' : 0 ≤ r := by omega
        go_wp2
        go_region_held3 (fun w' => w'.cell? ⟨w.heap.size, 0, none⟩ = some (.slice (some ⟨b, off, none⟩) n cap) ∧ w'.cell? ⟨w.heap.size, 1, none⟩ = some (.func (.func 90) #[] #[]) ∧ w'.cell? ⟨b, off + k * 3, none⟩ = some (.string xs) ∧ w'.cell? ⟨b, off + k * 3 + 1, none⟩ = some (.int .i64 xr) ∧ w'.cell? ⟨b, off + k * 3 + 2, none⟩ = some vx ∧ w'.cell? ⟨b, off + m * 3, none⟩ = some (.string ys) ∧ w'.cell? ⟨b, off + m * 3 + 1, none⟩ = some (.int .i64 yr) ∧ w'.cell? ⟨b, off + m * 3 + 2, none⟩ = some vy) (go_keep) (first
          | (go_at_call 90; refine (hO _).mono ?_; rintro e w1 ⟨rfl, hb⟩; replace hb := Rw.next ((Below.refl _ _).drew) hb; clear p0 p1; replace hbel := Rw.next hbel hb; replace k0 := (hb.block _ (blk_lt k0)).trans k0; obtain ⟨p0, p1⟩ := two k0; replace A0 := (hb.cell lb).trans A0; replace A1 := (hb.cell lb).trans A1; replace A2 := (hb.cell lb).trans A2; replace E0 := (hb.cell lb).trans E0; replace E1 := (hb.cell lb).trans E1; replace E2 := (hb.cell lb).trans E2))
        go_wp2
        go_ret
        exact ⟨ret_bool (HB1.out hlo').symm, Rw.next B1 hbel⟩
    · have hkz : ¬ ((k + 1 : Nat) : Int) < (n : Int) := by omega
      go_wp2
      go_ret
      exact ⟨ret_bool (HG.out fun i hi => HP.out i (by have := HK.out; omega)).symm, Rw.next B1 hbel⟩

set_option maxHeartbeats 1000000 in
theorem okI_any (a : Option Addr) (b off cap : Nat) (T : List Nm) (w : World) (h : Rd w a b off T) :
    Calls Tryz.prog 37 #[.agg #[.slice a T.length cap]] w fun e w' => e = .returned (.bool (storeB (told T))) ∧ Below w.heap.size w w' := by
  obtain ⟨W1, hW1⟩ : ∃ W1, W1 = (w.alloc (.cells #[.slice a T.length cap] 25)).alloc (.cells #[.slice a T.length cap, .func (.func 90) #[] #[]] 127) := ⟨_, rfl⟩
  have B1 : Below w.heap.size w W1 := by subst hW1; exact below_alloc2 _ _ _
  have k0 : W1.heap[w.heap.size]? = some (.cells #[.slice a T.length cap] 25 (0, 0)) := by subst hW1; rw [at_old (by simp), at_new rfl]
  have k1 : W1.heap[w.heap.size + 1]? = some (.cells #[.slice a T.length cap, .func (.func 90) #[] #[]] 127 (0, 0)) := by subst hW1; exact at_new (by simp)
  replace h := h.below B1
  unfold storeB
  rw [told_len]
  by_cases hB : T.length ≤ 24
  · have hB' : (T.length : Int) ≤ 24 := by omega
    rw [decide_eq_true hB]
    have hC := containsN_any a b off cap T W1 h
    cases hF : (told T).all oneB with
    | false =>
      rw [hF] at hC
      clear hB
      go_enter Tryz.func37, Tryz.ntmps37
      go_wp2_with (go_at_call 91; rw [← hW1]; clear hW1; refine hC.mono ?_; rintro e w1 ⟨rfl, hb⟩)
      go_ret
      exact ⟨ret_bool (by simp), Rw.next B1 hb⟩
    | true =>
      rw [hF] at hC
      have hS := fun W h' => risesN_any a b off cap T W h'
      generalize risesN (told T) = R at hS ⊢
      clear hB hF
      go_enter Tryz.func37, Tryz.ntmps37
      go_wp2_with (first
        | (go_at_call 91; rw [← hW1]; clear hW1; refine hC.mono ?_; rintro e w1 ⟨rfl, hb⟩; replace B1 := Rw.next B1 hb; replace k1 := (hb.block _ (blk_lt k1)).trans k1; replace h := h.below hb; clear hb; obtain ⟨p0, p1⟩ := two k1)
        | (go_at_call 92; refine (hS _ h).mono ?_; rintro e w3 ⟨rfl, hb⟩))
      go_ret
      exact ⟨ret_bool (by simp), Rw.next B1 hb⟩
  · have hB' : ¬ (T.length : Int) ≤ 24 := by omega
    rw [decide_eq_false hB]
    clear hB
    go_enter Tryz.func37, Tryz.ntmps37
    go_wp2
    go_ret
    exact ⟨ret_bool (by simp), by rw [← hW1]; exact B1⟩

end Go.Proofs.YtkpchlojapkimaaGreat.St
