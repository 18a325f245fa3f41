/-
  Two relations of one arity; both SameRel.
-/
import Derived.Test.YtkpchlojapkimaaGreatRg
import Derived.Test.YtkpchlojapkimaaGreatHn
namespace Go.Proofs.YtkpchlojapkimaaGreat.Rl
set_option maxRecDepth 8000
set_option linter.unusedSimpArgs false
set_option linter.unusedVariables false
open Go Go.RowKit
open Num Word Pl Rp
open Vl (ordRow)

/-- Are both right, and of one arity? -/
def twoB (x : Int) (R : List RowL) (y : Int) (S : List RowL) : Bool := relB x R && relB y S && decide (x = y)

set_option maxHeartbeats 1000000 in
theorem twoS_any (x y : Int) (a a' : Option Addr) (b off cap b' off' cap' : Nat) (Q P : List Rm) (w : World) (h : Rd w a b off Q) (h' : Rd w a' b' off' P) :
    Calls Tryz.prog 100 #[.agg #[.int .i64 x, .slice a Q.length cap], .agg #[.int .i64 y, .slice a' P.length cap']] w fun e w' => e = .returned (.bool (twoB x (said Q) y (said P))) ∧ Below w.heap.size w w' := by
  obtain ⟨W1, hW1⟩ : ∃ W1, W1 = (w.alloc (.cells #[.int .i64 x, .slice a Q.length cap] 67)).alloc (.cells #[.int .i64 y, .slice a' P.length cap'] 67) := ⟨_, rfl⟩
  have B1 : Below w.heap.size w W1 := by subst hW1; exact below_alloc2 _ _ _
  have k0 : W1.heap[w.heap.size]? = some (.cells #[.int .i64 x, .slice a Q.length cap] 67 (0, 0)) := by subst hW1; rw [at_old (by simp), at_new rfl]
  have k1 : W1.heap[w.heap.size + 1]? = some (.cells #[.int .i64 y, .slice a' P.length cap'] 67 (0, 0)) := by subst hW1; rw [at_new (by simp)]
  replace h := h.below B1
  replace h' := h'.below B1
  have hR := fun W h => relS_any x a b off cap Q W h
  have hR' := fun W h => relS_any y a' b' off' cap' P W h
  unfold twoB
  have t1 : True := trivial
  cases hr : relB x (said Q) with
  | false =>
    rw [hr] at hR
    go_enter Tryz.func100, Tryz.ntmps100
    go_wp2_with (go_at_call 82; rw [← hW1]; clear hW1; refine (hR _ h).mono ?_; rintro e w1 ⟨rfl, hb⟩)
    go_ret
    exact ⟨ret_bool (by simp), Rw.next B1 hb⟩
  | true =>
    rw [hr] at hR
    cases hs : relB y (said P) with
    | false =>
      rw [hs] at hR'
      go_enter Tryz.func100, Tryz.ntmps100
      go_wp2_with (first
        | (go_at_call 82; clear t1; rw [← hW1]; clear hW1; refine (hR _ h).mono ?_; rintro e w1 ⟨rfl, hb⟩; replace B1 := Rw.next B1 hb; replace k0 := (hb.block _ (blk_lt k0)).trans k0; replace k1 := (hb.block _ (blk_lt k1)).trans k1; replace h' := h'.below hb; clear hb; obtain ⟨p0, p1⟩ := two k0; obtain ⟨q0, q1⟩ := two k1)
        | (go_at_call 82; refine (hR' _ h').mono ?_; rintro e w1 ⟨rfl, hb⟩))
      go_ret
      exact ⟨ret_bool (by simp), Rw.next B1 hb⟩
    | true =>
      rw [hs] at hR'
      go_enter Tryz.func100, Tryz.ntmps100
      go_wp2_with (first
        | (go_at_call 82; clear t1; rw [← hW1]; clear hW1; refine (hR _ h).mono ?_; rintro e w1 ⟨rfl, hb⟩; replace B1 := Rw.next B1 hb; replace k0 := (hb.block _ (blk_lt k0)).trans k0; replace k1 := (hb.block _ (blk_lt k1)).trans k1; replace h' := h'.below hb; clear hb; obtain ⟨p0, p1⟩ := two k0; obtain ⟨q0, q1⟩ := two k1)
        | (go_at_call 82; refine (hR' _ h').mono ?_; rintro e w1 ⟨rfl, hb⟩; clear p0 p1 q0 q1; replace B1 := Rw.next B1 hb; replace k0 := (hb.block _ (blk_lt k0)).trans k0; replace k1 := (hb.block _ (blk_lt k1)).trans k1; clear hb; obtain ⟨p0, p1⟩ := two k0; obtain ⟨q0, q1⟩ := two k1))
      go_ret
      exact ⟨ret_bool (by simp only [Bool.true_and]; rfl), B1⟩

set_option maxHeartbeats 1000000 in
theorem twoI_any (x y : Int) (a a' : Option Addr) (b off cap b' off' cap' : Nat) (Q P : List Rm) (w : World) (h : Rd w a b off Q) (h' : Rd w a' b' off' P) :
    Calls Tryz.prog 147 #[.agg #[.int .i64 x, .slice a Q.length cap], .agg #[.int .i64 y, .slice a' P.length cap']] w fun e w' => e = .returned (.bool (twoB x (said Q) y (said P))) ∧ Below w.heap.size w w' := by
  obtain ⟨W1, hW1⟩ : ∃ W1, W1 = (w.alloc (.cells #[.int .i64 x, .slice a Q.length cap] 67)).alloc (.cells #[.int .i64 y, .slice a' P.length cap'] 67) := ⟨_, rfl⟩
  have B1 : Below w.heap.size w W1 := by subst hW1; exact below_alloc2 _ _ _
  have k0 : W1.heap[w.heap.size]? = some (.cells #[.int .i64 x, .slice a Q.length cap] 67 (0, 0)) := by subst hW1; rw [at_old (by simp), at_new rfl]
  have k1 : W1.heap[w.heap.size + 1]? = some (.cells #[.int .i64 y, .slice a' P.length cap'] 67 (0, 0)) := by subst hW1; rw [at_new (by simp)]
  replace h := h.below B1
  replace h' := h'.below B1
  have hR := fun W h => relI_any x a b off cap Q W h
  have hR' := fun W h => relI_any y a' b' off' cap' P W h
  unfold twoB
  have t1 : True := trivial
  cases hr : relB x (said Q) with
  | false =>
    rw [hr] at hR
    go_enter Tryz.func147, Tryz.ntmps147
    go_wp2_with (go_at_call 89; rw [← hW1]; clear hW1; refine (hR _ h).mono ?_; rintro e w1 ⟨rfl, hb⟩)
    go_ret
    exact ⟨ret_bool (by simp), Rw.next B1 hb⟩
  | true =>
    rw [hr] at hR
    cases hs : relB y (said P) with
    | false =>
      rw [hs] at hR'
      go_enter Tryz.func147, Tryz.ntmps147
      go_wp2_with (first
        | (go_at_call 89; clear t1; rw [← hW1]; clear hW1; refine (hR _ h).mono ?_; rintro e w1 ⟨rfl, hb⟩; replace B1 := Rw.next B1 hb; replace k0 := (hb.block _ (blk_lt k0)).trans k0; replace k1 := (hb.block _ (blk_lt k1)).trans k1; replace h' := h'.below hb; clear hb; obtain ⟨p0, p1⟩ := two k0; obtain ⟨q0, q1⟩ := two k1)
        | (go_at_call 89; refine (hR' _ h').mono ?_; rintro e w1 ⟨rfl, hb⟩))
      go_ret
      exact ⟨ret_bool (by simp), Rw.next B1 hb⟩
    | true =>
      rw [hs] at hR'
      go_enter Tryz.func147, Tryz.ntmps147
      go_wp2_with (first
        | (go_at_call 89; clear t1; rw [← hW1]; clear hW1; refine (hR _ h).mono ?_; rintro e w1 ⟨rfl, hb⟩; replace B1 := Rw.next B1 hb; replace k0 := (hb.block _ (blk_lt k0)).trans k0; replace k1 := (hb.block _ (blk_lt k1)).trans k1; replace h' := h'.below hb; clear hb; obtain ⟨p0, p1⟩ := two k0; obtain ⟨q0, q1⟩ := two k1)
        | (go_at_call 89; refine (hR' _ h').mono ?_; rintro e w1 ⟨rfl, hb⟩; clear p0 p1 q0 q1; replace B1 := Rw.next B1 hb; replace k0 := (hb.block _ (blk_lt k0)).trans k0; replace k1 := (hb.block _ (blk_lt k1)).trans k1; clear hb; obtain ⟨p0, p1⟩ := two k0; obtain ⟨q0, q1⟩ := two k1))
      go_ret
      exact ⟨ret_bool (by simp only [Bool.true_and]; rfl), B1⟩

def sameB (x : Int) (R : List RowL) (y : Int) (S : List RowL) : Bool := twoB x R y S && decide (R = S)
theorem said_ext {Q P : List Rm} (hl : Q.length = P.length) (h : ∀ i, i < Q.length → (Q.getD i rm0).l = (P.getD i rm0).l) : said Q = said P := by
  refine List.ext_getElem (by simp [said, hl]) fun i h1 h2 => ?_
  have hi : i < Q.length := by rw [said_len] at h1; exact h1
  have := h i hi
  rw [← said_at hi, ← said_at (by omega)] at this
  simpa [List.getD, h1, h2] using this

set_option maxHeartbeats 2000000 in
theorem sameS_any (x y : Int) (a a' : Option Addr) (b off cap b' off' cap' : Nat) (Q P : List Rm) (w : World) (h : Rd w a b off Q) (h' : Rd w a' b' off' P) :
    Calls Tryz.prog 45 #[.agg #[.int .i64 x, .slice a Q.length cap], .agg #[.int .i64 y, .slice a' P.length cap']] w fun e w' => e = .returned (.bool (sameB x (said Q) y (said P))) ∧ Below w.heap.size w w' := by
  obtain ⟨W1, hW1⟩ : ∃ W1, W1 = (w.alloc (.cells #[.int .i64 x, .slice a Q.length cap] 67)).alloc (.cells #[.int .i64 y, .slice a' P.length cap'] 67) := ⟨_, rfl⟩
  have B1 : Below w.heap.size w W1 := by subst hW1; exact below_alloc2 _ _ _
  have k0 : W1.heap[w.heap.size]? = some (.cells #[.int .i64 x, .slice a Q.length cap] 67 (0, 0)) := by subst hW1; rw [at_old (by simp), at_new rfl]
  have k1 : W1.heap[w.heap.size + 1]? = some (.cells #[.int .i64 y, .slice a' P.length cap'] 67 (0, 0)) := by subst hW1; rw [at_new (by simp)]
  replace h := h.below B1
  replace h' := h'.below B1
  have hT := fun W h h' => twoS_any x y a a' b off cap b' off' cap' Q P W h h'
  unfold sameB
  cases hr : twoB x (said Q) y (said P) with
  | false =>
    rw [hr] at hT
    go_enter Tryz.func45, Tryz.ntmps45
    go_wp2_with (go_at_call 100; rw [← hW1]; clear hW1; refine (hT _ h h').mono ?_; rintro e w1 ⟨rfl, hb⟩)
    go_ret
    exact ⟨ret_bool (by simp), Rw.next B1 hb⟩
  | true =>
    rw [hr] at hT
    clear hr
    by_cases hl : Q.length = P.length
    · obtain ⟨R, hR⟩ : ∃ R, R = decide (said Q = said P) := ⟨_, rfl⟩
      have HG : Hid ((∀ i, i < Q.length → (Q.getD i rm0).l = (P.getD i rm0).l) → R = true) := fun h => by rw [hR]; exact decide_eq_true (said_ext hl h)
      have HB : Hid (∀ i, i < Q.length → (Q.getD i rm0).l ≠ (P.getD i rm0).l → R = false) := fun i hi h => by
        rw [hR]
        exact decide_eq_false fun e => h (by rw [← said_at hi, ← said_at (by omega), e])
      rw [← hR]
      have HL : Hid (Q.length = P.length) := hl
      clear hR hl
      go_enter Tryz.func45, Tryz.ntmps45
      go_wp2_with (go_at_call 100; rw [← hW1]; clear hW1; refine (hT _ h h').mono ?_; rintro e w1 ⟨rfl, hb⟩; replace B1 := Rw.next B1 hb; replace k0 := (hb.block _ (blk_lt k0)).trans k0; replace k1 := (hb.block _ (blk_lt k1)).trans k1; replace h := h.below hb; replace h' := h'.below hb; clear hb; obtain ⟨p0, p1⟩ := two k0; have hl := HL.out; rw [← hl] at k1; clear hl; obtain ⟨q0, q1⟩ := two k1)
      clear p0 p1 q0 q1
      have hl := HL.out
      clear HL
      obtain ⟨hh, hc, ho, hs⟩ := h
      obtain ⟨hh', hc', ho', hs'⟩ := h'
      rw [← hl] at hh' hc' ho' hs'
      obtain ⟨n, hn⟩ : ∃ n, n = Q.length := ⟨_, rfl⟩
      rw [← hn] at hh hc ho hs hh' hc' ho' k0 k1 HG HB ⊢
      clear hl hs' hn
      go_loopw [22] (fun i wr => ∃ k : Nat, k ≤ n ∧ i = .int .i64 k ∧ Below w1.heap.size w1 wr ∧ ∀ i, i < k → (Q.getD i rm0).l = (P.getD i rm0).l) (fun i _ => n - (intOf i).toNat)
      case atStart => exact ⟨0, Nat.zero_le _, rfl, Below.refl _ _, fun i hi => by omega⟩
      case round =>
        obtain ⟨k, hk, rfl, hbel, hpre⟩ := hrel
        have HP : Hid (∀ i, i < k → (Q.getD i rm0).l = (P.getD i rm0).l) := hpre
        clear hpre
        replace k0 := (hbel.block _ (blk_lt k0)).trans k0
        replace k1 := (hbel.block _ (blk_lt k1)).trans k1
        obtain ⟨p0, p1⟩ := two k0
        obtain ⟨q0, q1⟩ := two k1
        by_cases hlt : k < n
        · obtain rfl := hh (by omega)
          obtain rfl := hh' (by omega)
          have hkz : (k : Int) < (n : Int) := by omega
          have hkn : (0 : Int) ≤ (k : Int) := by omega
          have A0 := (hbel.cell (World.block_lt_of_cell? _ _ (hc k hlt))).trans (hc k hlt)
          have A1 := (hbel.cell (World.block_lt_of_cell? _ _ (hc' k hlt))).trans (hc' k hlt)
          have o0 := Vl.Rd.below (ho k hlt) hbel
          have o1 := Vl.Rd.below (ho' k hlt) hbel
          have HB1 : Hid ((Q.getD k rm0).l ≠ (P.getD k rm0).l → R = false) := HB.out k hlt
          have HX : Hid ((Q.getD k rm0).l = (P.getD k rm0).l → ∀ i, i < k + 1 → (Q.getD i rm0).l = (P.getD i rm0).l) := fun h i hi => by
            by_cases e : i = k
            · subst e; exact h
            · exact HP.out i (by omega)
          clear hc ho hh hc' ho' hh' HB
          generalize Q.getD k rm0 = x1 at A0 o0 HB1 HX
          generalize P.getD k rm0 = x2 at A1 o1 HB1 HX
          obtain ⟨xa, xb, xo, xc, xl⟩ := x1
          obtain ⟨ya, yb, yo, yc, yl⟩ := x2
          simp only [Rm.val] at A0 A1 o0 o1 HB1 HX
          have hS := fun W h h' => same_any xa ya xb xo xc yb yo yc xl yl W h h'
          by_cases hx : xl = yl
          · rw [decide_eq_true hx] at hS
            have HQ : Hid (∀ i, i < k + 1 → (Q.getD i rm0).l = (P.getD i rm0).l) := HX.out hx
            clear HB1 HX hx
            go_wp2
            go_region_held3 (fun w' => w'.cell? ⟨w.heap.size, 1, none⟩ = some (.slice (some ⟨b, off, none⟩) n cap) ∧ w'.cell? ⟨w.heap.size + 1, 1, none⟩ = some (.slice (some ⟨b', off', none⟩) n cap') ∧ w'.cell? ⟨b, off + k, none⟩ = some (.slice xa xl.length xc) ∧ w'.cell? ⟨b', off' + k, none⟩ = some (.slice ya yl.length yc)) (go_keep) (first | (go_at_call 101; refine (hS _ (o0.below ((Below.refl _ _).drew)) (o1.below ((Below.refl _ _).drew))).mono ?_; rintro e w1 ⟨rfl, hb⟩; replace hb := Rw.next ((Below.refl _ _).drew) hb; clear p0 p1 q0 q1; replace hbel := Rw.next hbel hb; replace k0 := (hb.block _ (blk_lt k0)).trans k0; replace k1 := (hb.block _ (blk_lt k1)).trans k1; obtain ⟨p0, p1⟩ := two k0; obtain ⟨q0, q1⟩ := two k1; replace A0 := (hb.cell (World.block_lt_of_cell? _ _ A0)).trans A0; replace A1 := (hb.cell (World.block_lt_of_cell? _ _ A1)).trans A1))
            go_wp2
            go_roundw
            case rel => exact ⟨k + 1, by omega, by go_num, hbel, HQ.out⟩
            case measure => simp [intOf]; omega
          · rw [decide_eq_false hx] at hS
            have HQ : Hid (R = false) := HB1.out hx
            clear HB1 HX hx
            go_wp2
            go_region_held3 (fun w' => w'.cell? ⟨w.heap.size, 1, none⟩ = some (.slice (some ⟨b, off, none⟩) n cap) ∧ w'.cell? ⟨w.heap.size + 1, 1, none⟩ = some (.slice (some ⟨b', off', none⟩) n cap') ∧ w'.cell? ⟨b, off + k, none⟩ = some (.slice xa xl.length xc) ∧ w'.cell? ⟨b', off' + k, none⟩ = some (.slice ya yl.length yc)) (go_keep) (first | (go_at_call 101; refine (hS _ (o0.below ((Below.refl _ _).drew)) (o1.below ((Below.refl _ _).drew))).mono ?_; rintro e w1 ⟨rfl, hb⟩; replace hb := Rw.next ((Below.refl _ _).drew) hb; clear p0 p1 q0 q1; replace hbel := Rw.next hbel hb; replace k0 := (hb.block _ (blk_lt k0)).trans k0; replace k1 := (hb.block _ (blk_lt k1)).trans k1; obtain ⟨p0, p1⟩ := two k0; obtain ⟨q0, q1⟩ := two k1; replace A0 := (hb.cell (World.block_lt_of_cell? _ _ A0)).trans A0; replace A1 := (hb.cell (World.block_lt_of_cell? _ _ A1)).trans A1))
            go_wp2
            go_ret
            exact ⟨ret_bool (by rw [HQ.out]; rfl), Rw.next B1 hbel⟩
        · have he : k = n := by omega
          subst he
          go_wp2
          go_ret
          exact ⟨ret_bool (by rw [HG.out HP.out]; rfl), Rw.next B1 hbel⟩
    · have hne : ¬ (Q.length : Int) = (P.length : Int) := by omega
      have hn1 : ((Q.length : Int) != (P.length : Int)) = true := by simpa using hne
      have e : decide (said Q = said P) = false := decide_eq_false fun e => hl (by rw [← said_len, ← said_len, e])
      rw [e]
      clear e hl hne
      go_enter Tryz.func45, Tryz.ntmps45
      go_wp2_with (go_at_call 100; rw [← hW1]; clear hW1; refine (hT _ h h').mono ?_; rintro e w1 ⟨rfl, hb⟩; replace B1 := Rw.next B1 hb; replace k0 := (hb.block _ (blk_lt k0)).trans k0; replace k1 := (hb.block _ (blk_lt k1)).trans k1; clear hb; obtain ⟨p0, p1⟩ := two k0; obtain ⟨q0, q1⟩ := two k1)
      go_ret
      exact ⟨ret_bool (by simp), B1⟩

end Go.Proofs.YtkpchlojapkimaaGreat.Rl
