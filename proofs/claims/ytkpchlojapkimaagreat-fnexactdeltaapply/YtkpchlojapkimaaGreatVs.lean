/-
  The specification's order of rows; both RowOrder.
-/
import Derived.Test.YtkpchlojapkimaaGreatVr
namespace Go.Proofs.YtkpchlojapkimaaGreat.Vl
set_option maxRecDepth 8000
set_option linter.unusedSimpArgs false
set_option linter.unusedVariables false
open Go Go.RowKit
open Num Word Pl

set_option maxHeartbeats 4000000 in
theorem sorder_any (a a' : Option Addr) (b off cap b' off' cap' : Nat) (l m : List V2) (w : World) (h : Rd w a b off l) (h' : Rd w a' b' off' m) :
    Calls Tryz.prog 121 #[.agg #[.slice a l.length cap], .agg #[.slice a' m.length cap']] w fun e w' => e = .returned (.int .i64 (ordRow l m)) ∧ Below w.heap.size w w' := by
  obtain ⟨W1, hW1⟩ : ∃ W1, W1 = (w.alloc (.cells #[.slice a l.length cap] 107)).alloc (.cells #[.slice a' m.length cap'] 107) := ⟨_, rfl⟩
  have B1 : Below w.heap.size w W1 := by subst hW1; exact below_alloc2 _ _ _
  have k0 : W1.heap[w.heap.size]? = some (.cells #[.slice a l.length cap] 107 (0, 0)) := by subst hW1; rw [at_old (by simp), at_new rfl]
  have k1 : W1.heap[w.heap.size + 1]? = some (.cells #[.slice a' m.length cap'] 107 (0, 0)) := by subst hW1; rw [at_new (by simp)]
  obtain ⟨hh, hc, hs, hz⟩ := h.below B1
  obtain ⟨hh', hc', hs', hz'⟩ := h'.below B1
  clear h h'
  obtain ⟨R, hR⟩ : ∃ R, R = ordRow l m := ⟨_, rfl⟩
  rw [← hR]
  obtain ⟨p, hp⟩ : ∃ p, p = l.length := ⟨_, rfl⟩
  obtain ⟨q, hq⟩ : ∃ q, q = m.length := ⟨_, rfl⟩
  rw [← hp] at hh hc hs hz k0 hW1 ⊢
  rw [← hq] at hh' hc' hs' hz' k1 hW1 ⊢
  have HP : Hid (p = l.length) := hp
  have HQ : Hid (q = m.length) := hq
  have H0 : Hid (R = ordRow (l.drop 0) (m.drop 0)) := hR
  clear hR hp hq hz hz'
  go_enter Tryz.func121, Tryz.ntmps121
  go_wp2
  rw [← hW1]
  clear hW1
  go_loopw [5] (fun i wr => ∃ k : Nat, k ≤ p ∧ k ≤ q ∧ i = .int .i64 k ∧ Below W1.heap.size W1 wr ∧ R = ordRow (l.drop k) (m.drop k)) (fun i _ => p - (intOf i).toNat)
  case atStart => exact ⟨0, Nat.zero_le _, Nat.zero_le _, rfl, Below.refl _ _, H0.out⟩
  case round =>
    obtain ⟨k, hk, hkq, rfl, hbel, hrr⟩ := hrel
    have HR : Hid (R = ordRow (l.drop k) (m.drop k)) := hrr
    clear hrr H0
    replace k0 := (hbel.block _ (blk_lt k0)).trans k0
    replace k1 := (hbel.block _ (blk_lt k1)).trans k1
    have p0 := one k0
    have p1 := one k1
    by_cases hlt : k < p
    · have hkz : (k : Int) < (p : Int) := by omega
      by_cases hlq : k < q
      · obtain rfl := hh (by omega)
        obtain rfl := hh' (by omega)
        have hkq' : (k : Int) < (q : Int) := by omega
        have A0 := (hc k hlt).of hbel (hc k hlt).lt
        have A1 := (hc' k hlq).of hbel (hc' k hlq).lt
        have HE : Hid (ordV (l.getD k z2) (m.getD k z2) = 0 → R = ordRow (l.drop (k + 1)) (m.drop (k + 1))) := fun h => HR.out.trans (ord_eq (by have := HP.out; omega) (by have := HQ.out; omega) h)
        have HN : Hid (¬ ordV (l.getD k z2) (m.getD k z2) = 0 → R = ordV (l.getD k z2) (m.getD k z2)) := fun h => HR.out.trans (ord_ne (by have := HP.out; omega) (by have := HQ.out; omega) h)
        clear hc hc' hh hh' HR
        generalize l.getD k z2 = x at A0 HE HN
        generalize m.getD k z2 = y at A1 HE HN
        obtain ⟨x0, x1⟩ := x
        obtain ⟨y0, y1⟩ := y
        have ho := ord_one (x0, x1) (y0, y1)
        have hL := fun W => l09Less_any x0 y0 x1 y1 W
        have hG := fun W => l09Less_any y0 x0 y1 x1 W
        generalize ordV (x0, x1) (y0, y1) = r at ho HE HN
        generalize lessB (x0, x1) (y0, y1) = L1 at ho hL
        generalize lessB (y0, y1) (x0, x1) = L2 at ho hG
        have c0 := A0.1
        have c1 := A0.2
        have d0 := A1.1
        have d1 := A1.2
        simp only at c0 c1 d0 d1
        rcases ho with ⟨rfl, rfl, rfl⟩ | ⟨rfl, rfl⟩ | ⟨rfl, rfl, rfl⟩
        · have H1 : Hid (R = 1) := HN.out (by decide)
          go_wp2
          go_region_held3 (fun w' => w'.cell? ⟨w.heap.size, 0, none⟩ = some (.slice (some ⟨b, off, none⟩) p cap) ∧ w'.cell? ⟨w.heap.size + 1, 0, none⟩ = some (.slice (some ⟨b', off', none⟩) q cap') ∧ w'.cell? ⟨b, off + k * 2, none⟩ = some (.int .i64 x0) ∧ w'.cell? ⟨b, off + k * 2 + 1, none⟩ = some (.string x1) ∧ w'.cell? ⟨b', off' + k * 2, none⟩ = some (.int .i64 y0) ∧ w'.cell? ⟨b', off' + k * 2 + 1, none⟩ = some (.string y1)) (go_keep) (first
            | (go_at_call 150; refine (hL _).mono ?_; rintro e w1 ⟨rfl, hb⟩; replace hb := Rw.next ((Below.refl _ _).drew) hb; clear p0 p1 c0 c1 d0 d1; replace hbel := Rw.next hbel hb; replace k0 := (hb.block _ (blk_lt k0)).trans k0; replace k1 := (hb.block _ (blk_lt k1)).trans k1; have p0 := one k0; have p1 := one k1; replace A0 := A0.below hb; replace A1 := A1.below hb; have c0 := A0.1; have c1 := A0.2; have d0 := A1.1; have d1 := A1.2; simp only at c0 c1 d0 d1))
          go_wp2
          go_region_held3 (fun w' => w'.cell? ⟨w.heap.size, 0, none⟩ = some (.slice (some ⟨b, off, none⟩) p cap) ∧ w'.cell? ⟨w.heap.size + 1, 0, none⟩ = some (.slice (some ⟨b', off', none⟩) q cap') ∧ w'.cell? ⟨b, off + k * 2, none⟩ = some (.int .i64 x0) ∧ w'.cell? ⟨b, off + k * 2 + 1, none⟩ = some (.string x1) ∧ w'.cell? ⟨b', off' + k * 2, none⟩ = some (.int .i64 y0) ∧ w'.cell? ⟨b', off' + k * 2 + 1, none⟩ = some (.string y1)) (go_keep) (first
            | (go_at_call 150; refine (hG _).mono ?_; rintro e w1 ⟨rfl, hb⟩; replace hb := Rw.next ((Below.refl _ _).drew) hb; clear p0 p1 c0 c1 d0 d1; replace hbel := Rw.next hbel hb; replace k0 := (hb.block _ (blk_lt k0)).trans k0; replace k1 := (hb.block _ (blk_lt k1)).trans k1; have p0 := one k0; have p1 := one k1; replace A0 := A0.below hb; replace A1 := A1.below hb; have c0 := A0.1; have c1 := A0.2; have d0 := A1.1; have d1 := A1.2; simp only at c0 c1 d0 d1))
          go_wp2
          go_ret
          exact ⟨ret_int H1.out.symm, Rw.next B1 hbel⟩
        · have H1 : Hid (R = -1) := HN.out (by decide)
          go_wp2
          go_region_held3 (fun w' => w'.cell? ⟨w.heap.size, 0, none⟩ = some (.slice (some ⟨b, off, none⟩) p cap) ∧ w'.cell? ⟨w.heap.size + 1, 0, none⟩ = some (.slice (some ⟨b', off', none⟩) q cap') ∧ w'.cell? ⟨b, off + k * 2, none⟩ = some (.int .i64 x0) ∧ w'.cell? ⟨b, off + k * 2 + 1, none⟩ = some (.string x1) ∧ w'.cell? ⟨b', off' + k * 2, none⟩ = some (.int .i64 y0) ∧ w'.cell? ⟨b', off' + k * 2 + 1, none⟩ = some (.string y1)) (go_keep) (first
            | (go_at_call 150; refine (hL _).mono ?_; rintro e w1 ⟨rfl, hb⟩; replace hb := Rw.next ((Below.refl _ _).drew) hb; clear p0 p1 c0 c1 d0 d1; replace hbel := Rw.next hbel hb; replace k0 := (hb.block _ (blk_lt k0)).trans k0; replace k1 := (hb.block _ (blk_lt k1)).trans k1; have p0 := one k0; have p1 := one k1; replace A0 := A0.below hb; replace A1 := A1.below hb; have c0 := A0.1; have c1 := A0.2; have d0 := A1.1; have d1 := A1.2; simp only at c0 c1 d0 d1))
          go_wp2
          go_ret
          exact ⟨ret_int H1.out.symm, Rw.next B1 hbel⟩
        · have H1 : Hid (R = ordRow (l.drop (k + 1)) (m.drop (k + 1))) := HE.out rfl
          go_wp2
          go_region_held3 (fun w' => w'.cell? ⟨w.heap.size, 0, none⟩ = some (.slice (some ⟨b, off, none⟩) p cap) ∧ w'.cell? ⟨w.heap.size + 1, 0, none⟩ = some (.slice (some ⟨b', off', none⟩) q cap') ∧ w'.cell? ⟨b, off + k * 2, none⟩ = some (.int .i64 x0) ∧ w'.cell? ⟨b, off + k * 2 + 1, none⟩ = some (.string x1) ∧ w'.cell? ⟨b', off' + k * 2, none⟩ = some (.int .i64 y0) ∧ w'.cell? ⟨b', off' + k * 2 + 1, none⟩ = some (.string y1)) (go_keep) (first
            | (go_at_call 150; refine (hL _).mono ?_; rintro e w1 ⟨rfl, hb⟩; replace hb := Rw.next ((Below.refl _ _).drew) hb; clear p0 p1 c0 c1 d0 d1; replace hbel := Rw.next hbel hb; replace k0 := (hb.block _ (blk_lt k0)).trans k0; replace k1 := (hb.block _ (blk_lt k1)).trans k1; have p0 := one k0; have p1 := one k1; replace A0 := A0.below hb; replace A1 := A1.below hb; have c0 := A0.1; have c1 := A0.2; have d0 := A1.1; have d1 := A1.2; simp only at c0 c1 d0 d1))
          go_wp2
          go_region_held3 (fun w' => w'.cell? ⟨w.heap.size, 0, none⟩ = some (.slice (some ⟨b, off, none⟩) p cap) ∧ w'.cell? ⟨w.heap.size + 1, 0, none⟩ = some (.slice (some ⟨b', off', none⟩) q cap') ∧ w'.cell? ⟨b, off + k * 2, none⟩ = some (.int .i64 x0) ∧ w'.cell? ⟨b, off + k * 2 + 1, none⟩ = some (.string x1) ∧ w'.cell? ⟨b', off' + k * 2, none⟩ = some (.int .i64 y0) ∧ w'.cell? ⟨b', off' + k * 2 + 1, none⟩ = some (.string y1)) (go_keep) (first
            | (go_at_call 150; refine (hG _).mono ?_; rintro e w1 ⟨rfl, hb⟩; replace hb := Rw.next ((Below.refl _ _).drew) hb; clear p0 p1 c0 c1 d0 d1; replace hbel := Rw.next hbel hb; replace k0 := (hb.block _ (blk_lt k0)).trans k0; replace k1 := (hb.block _ (blk_lt k1)).trans k1; have p0 := one k0; have p1 := one k1; replace A0 := A0.below hb; replace A1 := A1.below hb; have c0 := A0.1; have c1 := A0.2; have d0 := A1.1; have d1 := A1.2; simp only at c0 c1 d0 d1))
          go_wp2
          go_roundw
          case rel => exact ⟨k + 1, by omega, by omega, by go_num, hbel, H1.out⟩
          case measure => simp [intOf]; omega
      · have hkq' : ¬ (k : Int) < (q : Int) := by omega
        have e1 : ¬ (p : Int) < (q : Int) := by omega
        have e2 : (q : Int) < (p : Int) := by omega
        have H1 : Hid (R = 1) := HR.out.trans (ord_gt (by have := HP.out; omega) (by have := HQ.out; omega))
        go_wp2
        go_ret
        exact ⟨ret_int H1.out.symm, Rw.next B1 hbel⟩
    · have hkz : ¬ (k : Int) < (p : Int) := by omega
      by_cases hlq : p < q
      · have hpq : (p : Int) < (q : Int) := by omega
        have H1 : Hid (R = -1) := HR.out.trans (ord_lt (by have := HP.out; omega) (by have := HQ.out; omega))
        go_wp2
        go_ret
        exact ⟨ret_int H1.out.symm, Rw.next B1 hbel⟩
      · have hpq : ¬ (p : Int) < (q : Int) := by omega
        have hpq2 : ¬ (q : Int) < (p : Int) := by omega
        have H1 : Hid (R = 0) := HR.out.trans (ord_end (by have := HP.out; omega) (by have := HQ.out; omega))
        go_wp2
        go_ret
        exact ⟨ret_int H1.out.symm, Rw.next B1 hbel⟩

/-- What both RowOrder answer. -/
def rordB (l m : List V2) : Int := if (rowB l && rowB m) = true then ordRow l m else 2

set_option maxHeartbeats 1000000 in
theorem rorderI_any (a a' : Option Addr) (b off cap b' off' cap' : Nat) (l m : List V2) (w : World) (h : Rd w a b off l) (h' : Rd w a' b' off' m) :
    Calls Tryz.prog 143 #[.agg #[.slice a l.length cap], .agg #[.slice a' m.length cap']] w fun e w' => e = .returned (.int .i64 (rordB l m)) ∧ Below w.heap.size w w' := by
  obtain ⟨W1, hW1⟩ : ∃ W1, W1 = (w.alloc (.cells #[.slice a l.length cap] 107)).alloc (.cells #[.slice a' m.length cap'] 107) := ⟨_, rfl⟩
  have B1 : Below w.heap.size w W1 := by subst hW1; exact below_alloc2 _ _ _
  have k0 : W1.heap[w.heap.size]? = some (.cells #[.slice a l.length cap] 107 (0, 0)) := by subst hW1; rw [at_old (by simp), at_new rfl]
  have k1 : W1.heap[w.heap.size + 1]? = some (.cells #[.slice a' m.length cap'] 107 (0, 0)) := by subst hW1; rw [at_new (by simp)]
  replace h := h.below B1
  replace h' := h'.below B1
  have hA := fun W h => rowI_any a b off cap l W h
  have hB := fun W h => rowI_any a' b' off' cap' m W h
  have hC := fun W h h' => compare_any a a' b off cap b' off' cap' l m W h h'
  have t1 : True := trivial
  unfold rordB
  cases hx : rowB l with
  | false =>
    rw [hx] at hA
    go_enter Tryz.func143, Tryz.ntmps143
    go_wp2_with (go_at_call 134; rw [← hW1]; clear hW1; refine (hA _ h).mono ?_; rintro e w1 ⟨rfl, hb⟩)
    go_ret
    exact ⟨rfl, Rw.next B1 hb⟩
  | true =>
    rw [hx] at hA
    cases hy : rowB m with
    | false =>
      rw [hy] at hB
      go_enter Tryz.func143, Tryz.ntmps143
      go_wp2_with (first
        | (go_at_call 134; clear t1; rw [← hW1]; clear hW1; refine (hA _ h).mono ?_; rintro e w1 ⟨rfl, hb⟩; replace B1 := Rw.next B1 hb; replace k0 := (hb.block _ (blk_lt k0)).trans k0; replace k1 := (hb.block _ (blk_lt k1)).trans k1; replace h' := h'.below hb; clear hb; have p0 := one k0; have p1 := one k1)
        | (go_at_call 134; refine (hB _ h').mono ?_; rintro e w1 ⟨rfl, hb⟩))
      go_ret
      exact ⟨rfl, Rw.next B1 hb⟩
    | true =>
      rw [hy] at hB
      have hl := (row_at hx).2
      have hm := (row_at hy).2
      have HC : Hid (∀ W, Rd W a b off l → Rd W a' b' off' m → Calls Tryz.prog 171 #[.slice a l.length cap, .slice a' m.length cap', .func (.func 172) #[] #[]] W fun e w' => e = .returned (.int .i64 (ordRow l m)) ∧ Below W.heap.size W w') := fun W h h' => hC W h h' hl hm
      clear hC hl hm
      go_enter Tryz.func143, Tryz.ntmps143
      go_wp2_with (first
        | (go_at_call 134; clear t1; rw [← hW1]; clear hW1; refine (hA _ h).mono ?_; rintro e w1 ⟨rfl, hb⟩; replace B1 := Rw.next B1 hb; replace k0 := (hb.block _ (blk_lt k0)).trans k0; replace k1 := (hb.block _ (blk_lt k1)).trans k1; replace h := h.below hb; replace h' := h'.below hb; clear hb; have p0 := one k0; have p1 := one k1)
        | (go_at_call 134; refine (hB _ h').mono ?_; rintro e w1 ⟨rfl, hb⟩; clear p0 p1; replace B1 := Rw.next B1 hb; replace k0 := (hb.block _ (blk_lt k0)).trans k0; replace k1 := (hb.block _ (blk_lt k1)).trans k1; replace h := h.below hb; replace h' := h'.below hb; clear hb; have p0 := one k0; have p1 := one k1)
        | (go_at_call 171; refine (HC.out _ h h').mono ?_; rintro e w1 ⟨rfl, hb⟩))
      go_ret
      exact ⟨rfl, Rw.next B1 hb⟩

set_option maxHeartbeats 1000000 in
theorem rorderS_any (a a' : Option Addr) (b off cap b' off' cap' : Nat) (l m : List V2) (w : World) (h : Rd w a b off l) (h' : Rd w a' b' off' m) :
    Calls Tryz.prog 129 #[.agg #[.slice a l.length cap], .agg #[.slice a' m.length cap']] w fun e w' => e = .returned (.int .i64 (rordB l m)) ∧ Below w.heap.size w w' := by
  obtain ⟨W1, hW1⟩ : ∃ W1, W1 = (w.alloc (.cells #[.slice a l.length cap] 107)).alloc (.cells #[.slice a' m.length cap'] 107) := ⟨_, rfl⟩
  have B1 : Below w.heap.size w W1 := by subst hW1; exact below_alloc2 _ _ _
  have k0 : W1.heap[w.heap.size]? = some (.cells #[.slice a l.length cap] 107 (0, 0)) := by subst hW1; rw [at_old (by simp), at_new rfl]
  have k1 : W1.heap[w.heap.size + 1]? = some (.cells #[.slice a' m.length cap'] 107 (0, 0)) := by subst hW1; rw [at_new (by simp)]
  replace h := h.below B1
  replace h' := h'.below B1
  have hA := fun W h => rowS_any a b off cap l W h
  have hB := fun W h => rowS_any a' b' off' cap' m W h
  have hC := fun W h h' => sorder_any a a' b off cap b' off' cap' l m W h h'
  have t1 : True := trivial
  unfold rordB
  cases hx : rowB l with
  | false =>
    rw [hx] at hA
    go_enter Tryz.func129, Tryz.ntmps129
    go_wp2_with (go_at_call 128; rw [← hW1]; clear hW1; refine (hA _ h).mono ?_; rintro e w1 ⟨rfl, hb⟩)
    go_ret
    exact ⟨rfl, Rw.next B1 hb⟩
  | true =>
    rw [hx] at hA
    cases hy : rowB m with
    | false =>
      rw [hy] at hB
      go_enter Tryz.func129, Tryz.ntmps129
      go_wp2_with (first
        | (go_at_call 128; clear t1; rw [← hW1]; clear hW1; refine (hA _ h).mono ?_; rintro e w1 ⟨rfl, hb⟩; replace B1 := Rw.next B1 hb; replace k0 := (hb.block _ (blk_lt k0)).trans k0; replace k1 := (hb.block _ (blk_lt k1)).trans k1; replace h' := h'.below hb; clear hb; have p0 := one k0; have p1 := one k1)
        | (go_at_call 128; refine (hB _ h').mono ?_; rintro e w1 ⟨rfl, hb⟩))
      go_ret
      exact ⟨rfl, Rw.next B1 hb⟩
    | true =>
      rw [hy] at hB
      go_enter Tryz.func129, Tryz.ntmps129
      go_wp2_with (first
        | (go_at_call 128; clear t1; rw [← hW1]; clear hW1; refine (hA _ h).mono ?_; rintro e w1 ⟨rfl, hb⟩; replace B1 := Rw.next B1 hb; replace k0 := (hb.block _ (blk_lt k0)).trans k0; replace k1 := (hb.block _ (blk_lt k1)).trans k1; replace h := h.below hb; replace h' := h'.below hb; clear hb; have p0 := one k0; have p1 := one k1)
        | (go_at_call 128; refine (hB _ h').mono ?_; rintro e w1 ⟨rfl, hb⟩; clear p0 p1; replace B1 := Rw.next B1 hb; replace k0 := (hb.block _ (blk_lt k0)).trans k0; replace k1 := (hb.block _ (blk_lt k1)).trans k1; replace h := h.below hb; replace h' := h'.below hb; clear hb; have p0 := one k0; have p1 := one k1)
        | (go_at_call 121; refine (hC _ h h').mono ?_; rintro e w1 ⟨rfl, hb⟩))
      go_ret
      exact ⟨rfl, Rw.next B1 hb⟩

end Go.Proofs.YtkpchlojapkimaaGreat.Vl
