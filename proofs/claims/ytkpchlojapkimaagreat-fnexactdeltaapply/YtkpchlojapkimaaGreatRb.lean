/-
  Both RelOk: rows that fit, rows that rise.
-/
import Derived.Test.YtkpchlojapkimaaGreatRa
import Derived.BigQuiet
import Derived.Laws.EntriesVeiled
namespace Go.Proofs.YtkpchlojapkimaaGreat.Rl
set_option maxRecDepth 8000
set_option linter.unusedSimpArgs false
set_option linter.unusedVariables false
open Go Go.RowKit
open Num Word Pl Rp
open Vl (ordRow)

theorem rises_iff : ∀ (R : List RowL), risesB R = true ↔ ∀ i, i + 1 < R.length → ordRow (R.getD i []) (R.getD (i + 1) []) < 0
  | [] => by simp [risesB]
  | [x] => by simp [risesB]
  | x :: y :: t => by
    rw [risesB, Bool.and_eq_true, decide_eq_true_eq, rises_iff (y :: t)]
    constructor
    · rintro ⟨h1, h2⟩ i hi
      match i with
      | 0 => simpa [List.getD] using h1
      | i + 1 => have := h2 i (by simp at hi ⊢; omega); simpa [List.getD] using this
    · intro h
      refine ⟨by have := h 0 (by simp); simpa [List.getD] using this, fun i hi => ?_⟩
      have := h (i + 1) (by simp at hi ⊢; omega); simpa [List.getD] using this

/-- Does the row fit the arity? -/
def fitB (ar : Int) (l : RowL) : Bool := decide ((l.length : Int) = ar) && Vl.rowB l
theorem rord_right {l m : RowL} (h : Vl.rowB l = true) (k : Vl.rowB m = true) : Vl.rordB l m = ordRow l m := by unfold Vl.rordB; simp [h, k]

theorem rowSet_any (ar : Int) (v : Value) (n c : Nat) (a : Option Addr) (w : World) :
    Calls Tryz.prog 99 #[.agg #[.int .i64 ar, .slice a n c]] w fun e w' => e = .returned (.agg #[.slice a n c, .func (.func 143) #[] #[]]) ∧ Below w.heap.size w w' := by
  have B : Below w.heap.size w ((w.alloc (.cells #[.int .i64 ar, .slice a n c] 67)).alloc (.cells #[.slice a n c, .func (.func 143) #[] #[]] 140)) := below_alloc2 _ _ _
  go_enter Tryz.func99, Tryz.ntmps99
  go_wp2
  exact bodyPost_ret (v := .agg #[.slice a n c, .func (.func 143) #[] #[]]) (by simp [results, Tryz.results99, go_sem]) rfl ⟨rfl, B⟩

theorem clo58 (ar : Int) (g0 : Nat) (u : Value) (a : Option Addr) (b off cap : Nat) (l : RowL) (w : World) (h : Vl.Rd w a b off l) (k0 : w.heap[g0]? = some (.cells #[.int .i64 ar, u] 67 (0, 0))) :
    Calls Tryz.prog 133 #[.agg #[.slice a l.length cap], .pointer (some ⟨g0, 0, none⟩)] w fun e w' => e = .returned (.bool (!fitB ar l)) ∧ Below w.heap.size w w' := by
  have B := below_alloc1 w (.cells #[.slice a l.length cap] 107)
  have kB := (B.block _ (blk_lt k0)).trans k0
  have lt0 := blk_lt k0
  obtain ⟨p0, p1⟩ := two k0
  unfold fitB
  by_cases hd : (l.length : Int) = ar
  · have hd1 : ((l.length : Int) != ar) = false := by simpa using hd
    have hR := Vl.rowI_any a b off cap l _ (h.below B)
    generalize Vl.rowB l = R at hR ⊢
    rw [decide_eq_true hd]
    clear hd
    go_enter Tryz.func133, Tryz.ntmps133
    go_wp2_with (go_at_call 134; refine hR.mono ?_; rintro e w1 ⟨rfl, hb⟩)
    go_ret
    exact ⟨rfl, Rw.next B hb⟩
  · have hd1 : ((l.length : Int) != ar) = true := by simpa using hd
    rw [decide_eq_false hd]
    clear hd
    go_enter Tryz.func133, Tryz.ntmps133
    go_wp2
    go_ret
    exact ⟨rfl, B⟩

set_option maxHeartbeats 1000000 in
theorem index89 (ar : Int) (g0 : Nat) (u : Value) (a : Option Addr) (b off cap : Nat) (Q : List Rm) (w : World) (h : Rd w a b off Q) (k0 : w.heap[g0]? = some (.cells #[.int .i64 ar, u] 67 (0, 0))) :
    Calls Tryz.prog 160 #[.slice a Q.length cap, .func (.func 133) #[] #[.pointer (some ⟨g0, 0, none⟩)]] w fun e w' => Below w.heap.size w w' ∧ ∃ r : Int, e = .returned (.int .i64 r) ∧ (!decide (0 ≤ r)) = (said Q).all (fitB ar) := by
  obtain ⟨hh, hc, ho, hs⟩ := h
  have HB : Hid (∀ k, k < Q.length → fitB ar (Q.getD k rm0).l = false → (said Q).all (fitB ar) = false) := fun k hk h => by
    rw [List.all_eq_false]
    refine ⟨(Q.getD k rm0).l, ?_, by rw [h]; simp⟩
    rw [← said_at hk]
    have hk' : k < (said Q).length := by rw [said_len]; exact hk
    have e : (said Q).getD k [] = (said Q)[k] := by simp [List.getD, hk']
    rw [e]; exact List.getElem_mem hk'
  have HG : Hid ((∀ i, i < Q.length → fitB ar (Q.getD i rm0).l = true) → (said Q).all (fitB ar) = true) := fun h => by
    refine List.all_eq_true.2 fun x hx => ?_
    obtain ⟨i, hi, rfl⟩ := List.getElem_of_mem hx
    have hi' : i < Q.length := by rw [said_len] at hi; exact hi
    have := h i hi'
    rw [← said_at hi'] at this
    simpa [List.getD, hi] using this
  generalize (said Q).all (fitB ar) = R at HB HG ⊢
  obtain ⟨n, hn⟩ : ∃ n, n = Q.length := ⟨_, rfl⟩
  rw [← hn] at hh hc ho hs HB HG ⊢
  clear hn
  go_enter Tryz.func160, Tryz.ntmps160
  go_wp2
  go_loopw [8] (fun i wr => ∃ k : Nat, k ≤ n ∧ i = .int .i64 k ∧ Below w.heap.size w wr ∧ ∀ i, i < k → fitB ar (Q.getD i rm0).l = true) (fun i _ => n - (intOf i).toNat)
  case atStart => exact ⟨0, Nat.zero_le _, rfl, Below.refl _ _, fun i hi => by omega⟩
  case round =>
    obtain ⟨k, hk, rfl, hbel, hpre⟩ := hrel
    have HP : Hid (∀ i, i < k → fitB ar (Q.getD i rm0).l = true) := hpre
    clear hpre
    by_cases hlt : k < n
    · obtain rfl := hh (by omega)
      have hkz : (k : Int) < (n : Int) := by omega
      have c0 := (hbel.cell (World.block_lt_of_cell? _ _ (hc k hlt))).trans (hc k hlt)
      have o1 := Vl.Rd.below (ho k hlt) hbel
      have k1 := (hbel.block _ (blk_lt k0)).trans k0
      have HB1 : Hid (fitB ar (Q.getD k rm0).l = false → R = false) := HB.out k hlt
      have HX : Hid (fitB ar (Q.getD k rm0).l = true → ∀ i, i < k + 1 → fitB ar (Q.getD i rm0).l = true) := fun h i hi => by
        by_cases e : i = k
        · subst e; exact h
        · exact HP.out i (by omega)
      clear hc ho hh HB
      generalize Q.getD k rm0 = x at c0 o1 HB1 HX
      obtain ⟨xa, xb, xo, xc, xl⟩ := x
      simp only [Rm.val] at c0 o1 HB1 HX
      have hS := clo58 ar g0 u xa xb xo xc xl wr o1 k1
      cases hv : fitB ar xl with
      | true =>
        rw [hv] at hS
        go_wp2_with (go_at_call 133; refine hS.mono ?_; rintro e w1 ⟨rfl, hb⟩)
        go_roundw
        case rel => exact ⟨k + 1, by omega, by go_num, Rw.next hbel hb, HX.out hv⟩
        case measure => simp [intOf]; omega
      | false =>
        rw [hv] at hS
        go_wp2_with (go_at_call 133; refine hS.mono ?_; rintro e w1 ⟨rfl, hb⟩)
        go_ret
        exact ⟨Rw.next hbel hb, _, rfl, by rw [HB1.out hv]; simp⟩
    · have he : k = n := by omega
      subst he
      go_wp2
      go_ret
      exact ⟨hbel, _, rfl, by rw [HG.out HP.out]; rfl⟩

theorem contains61 (ar : Int) (g0 : Nat) (u : Value) (a : Option Addr) (b off cap : Nat) (Q : List Rm) (w : World) (h : Rd w a b off Q) (k0 : w.heap[g0]? = some (.cells #[.int .i64 ar, u] 67 (0, 0))) :
    Calls Tryz.prog 136 #[.slice a Q.length cap, .func (.func 133) #[] #[.pointer (some ⟨g0, 0, none⟩)]] w fun e w' => e = .returned (.bool (!(said Q).all (fitB ar))) ∧ Below w.heap.size w w' := by
  have hi := index89 ar g0 u a b off cap Q w h k0
  generalize (said Q).all (fitB ar) = R at hi ⊢
  go_enter Tryz.func136, Tryz.ntmps136
  go_wp2_with (go_at_call 160; refine hi.mono ?_; rintro e w1 ⟨hb, r, rfl, hr⟩; have HR : Hid ((!decide (0 ≤ r)) = R) := hr; clear hr)
  go_ret
  exact ⟨ret_bool (by rw [← HR.out]; simp), hb⟩

set_option maxHeartbeats 2000000 in
theorem rises_any (a : Option Addr) (b off cap : Nat) (Q : List Rm) (w : World) (h : Rd w a b off Q) (hr : ∀ i, i < Q.length → Vl.rowB (Q.getD i rm0).l = true) :
    Calls Tryz.prog 137 #[.agg #[.slice a Q.length cap, .func (.func 143) #[] #[]]] w fun e w' => e = .returned (.bool (risesB (said Q))) ∧ Below w.heap.size w w' := by
  obtain ⟨W1, hW1⟩ : ∃ W1, W1 = w.alloc (.cells #[.slice a Q.length cap, .func (.func 143) #[] #[]] 140) := ⟨_, rfl⟩
  have B1 : Below w.heap.size w W1 := by subst hW1; exact below_alloc1 _ _
  have k0 : W1.heap[w.heap.size]? = some (.cells #[.slice a Q.length cap, .func (.func 143) #[] #[]] 140 (0, 0)) := by subst hW1; exact at_new rfl
  obtain ⟨hh, hc, ho, hs⟩ := h.below B1
  clear h
  obtain ⟨R, hR⟩ : ∃ R, R = risesB (said Q) := ⟨_, rfl⟩
  have HG : Hid ((∀ i, i + 1 < Q.length → ordRow (Q.getD i rm0).l (Q.getD (i + 1) rm0).l < 0) → R = true) := fun h => by
    rw [hR, rises_iff]
    intro i hi
    rw [said_len] at hi
    rw [said_at (by omega), said_at hi]; exact h i hi
  have HB : Hid (∀ i, i + 1 < Q.length → 0 ≤ ordRow (Q.getD i rm0).l (Q.getD (i + 1) rm0).l → R = false) := fun i hi h => by
    rw [hR, ← Bool.not_eq_true]
    intro e
    have := (rises_iff _).1 e i (by rw [said_len]; exact hi)
    rw [said_at (by omega), said_at hi] at this
    omega
  rw [← hR]
  clear hR
  obtain ⟨n, hn⟩ : ∃ n, n = Q.length := ⟨_, rfl⟩
  rw [← hn] at hh hc ho hs hr HG HB k0 hW1 ⊢
  clear hn
  go_enter Tryz.func137, Tryz.ntmps137
  go_wp2
  rw [← hW1]
  clear hW1
  go_loopw [3] (fun i wr => ∃ k : Nat, (k = 0 ∨ k < n) ∧ i = .int .i64 ((k + 1 : Nat) : Int) ∧ Below W1.heap.size W1 wr ∧ ∀ i, i < k → ordRow (Q.getD i rm0).l (Q.getD (i + 1) rm0).l < 0) (fun i _ => n - (intOf i).toNat)
  case atStart => exact ⟨0, .inl rfl, rfl, Below.refl _ _, fun i hi => by omega⟩
  case round =>
    obtain ⟨k, hk, rfl, hbel, hpre⟩ := hrel
    have HP : Hid (∀ i, i < k → ordRow (Q.getD i rm0).l (Q.getD (i + 1) rm0).l < 0) := hpre
    have HK : Hid (k = 0 ∨ k < n) := hk
    clear hpre hk
    replace k0 := (hbel.block _ (blk_lt k0)).trans k0
    obtain ⟨p0, p1⟩ := two k0
    by_cases hlt : k + 1 < n
    · obtain rfl := hh (by omega)
      have A0 := (hbel.cell (World.block_lt_of_cell? _ _ (hc k (by omega)))).trans (hc k (by omega))
      have A1 := (hbel.cell (World.block_lt_of_cell? _ _ (hc (k + 1) hlt))).trans (hc (k + 1) hlt)
      have lb : b < wr.heap.size := World.block_lt_of_cell? _ _ A0
      have o0 := Vl.Rd.below (ho k (by omega)) hbel
      have o1 := Vl.Rd.below (ho (k + 1) hlt) hbel
      have HO := rord_right (hr k (by omega)) (hr (k + 1) hlt)
      have HB1 : Hid (0 ≤ ordRow (Q.getD k rm0).l (Q.getD (k + 1) rm0).l → R = false) := HB.out k hlt
      have HX : Hid (ordRow (Q.getD k rm0).l (Q.getD (k + 1) rm0).l < 0 → ∀ i, i < k + 1 → ordRow (Q.getD i rm0).l (Q.getD (i + 1) rm0).l < 0) := fun h i hi => by
        by_cases e : i = k
        · subst e; exact h
        · exact HP.out i (by omega)
      rw [← HO] at HB1 HX
      clear hc ho hh HB hr HO
      generalize Q.getD k rm0 = x at A0 o0 HB1 HX
      generalize Q.getD (k + 1) rm0 = y at A1 o1 HB1 HX
      obtain ⟨xa, xb, xo, xc, xl⟩ := x
      obtain ⟨ya, yb, yo, yc, yl⟩ := y
      simp only [Rm.val] at A0 A1 o0 o1 HB1 HX
      have hO := fun W h h' => Vl.rorderI_any xa ya xb xo xc yb yo yc xl yl W h h'
      generalize Vl.rordB xl yl = r at hO HB1 HX
      obtain ⟨m, hm⟩ : ∃ m, m = k + 1 := ⟨_, rfl⟩
      rw [← hm] at A1 ⊢
      have HM : Hid (m = k + 1) := hm
      have ek : IntKind.i64.wrap ((m : Int) - 1) = (k : Int) := by rw [hm]; have h1 : ((k + 1 : Nat) : Int) - 1 = k := (by omega); rw [h1]; simp [IntKind.wrap, IntKind.bits, IntKind.signed]; omega
      have hkz : (m : Int) < (n : Int) := by omega
      have hkn : (k : Int) < (n : Int) := by omega
      have hk0 : (0 : Int) ≤ (k : Int) := by omega
      clear hm
      by_cases hlo : r < 0
      · have hlo' : ¬ (0 ≤ r) := by omega
        go_wp2
        go_region_held3 (fun w' => w'.cell? ⟨w.heap.size, 0, none⟩ = some (.slice (some ⟨b, off, none⟩) n cap) ∧ w'.cell? ⟨w.heap.size, 1, none⟩ = some (.func (.func 143) #[] #[]) ∧ w'.cell? ⟨b, off + k, none⟩ = some (.slice xa xl.length xc) ∧ w'.cell? ⟨b, off + m, none⟩ = some (.slice ya yl.length yc)) (go_keep) (first
          | (go_at_call 143; refine (hO _ (o0.below ((Below.refl _ _).drew)) (o1.below ((Below.refl _ _).drew))).mono ?_; rintro e w1 ⟨rfl, hb⟩; replace hb := Rw.next ((Below.refl _ _).drew) hb; clear p0 p1; replace hbel := Rw.next hbel hb; replace k0 := (hb.block _ (blk_lt k0)).trans k0; obtain ⟨p0, p1⟩ := two k0; replace A0 := (hb.cell lb).trans A0; replace A1 := (hb.cell lb).trans A1))
        go_wp2
        go_roundw
        case rel => exact ⟨k + 1, .inr hlt, by have := HM.out; subst this; go_num, hbel, HX.out hlo⟩
        case measure => have := HM.out; simp [intOf]; omega
      · have hlo' : 0 ≤ r := by omega
        go_wp2
        go_region_held3 (fun w' => w'.cell? ⟨w.heap.size, 0, none⟩ = some (.slice (some ⟨b, off, none⟩) n cap) ∧ w'.cell? ⟨w.heap.size, 1, none⟩ = some (.func (.func 143) #[] #[]) ∧ w'.cell? ⟨b, off + k, none⟩ = some (.slice xa xl.length xc) ∧ w'.cell? ⟨b, off + m, none⟩ = some (.slice ya yl.length yc)) (go_keep) (first
          | (go_at_call 143; refine (hO _ (o0.below ((Below.refl _ _).drew)) (o1.below ((Below.refl _ _).drew))).mono ?_; rintro e w1 ⟨rfl, hb⟩; replace hb := Rw.next ((Below.refl _ _).drew) hb; clear p0 p1; replace hbel := Rw.next hbel hb; replace k0 := (hb.block _ (blk_lt k0)).trans k0; obtain ⟨p0, p1⟩ := two k0; replace A0 := (hb.cell lb).trans A0; replace A1 := (hb.cell lb).trans A1))
        go_wp2
        go_ret
        exact ⟨ret_bool (HB1.out hlo').symm, Rw.next B1 hbel⟩
    · have hkz : ¬ ((k + 1 : Nat) : Int) < (n : Int) := by omega
      go_wp2
      go_ret
      exact ⟨ret_bool (HG.out fun i hi => HP.out i (by have := HK.out; omega)).symm, Rw.next B1 hbel⟩

end Go.Proofs.YtkpchlojapkimaaGreat.Rl
