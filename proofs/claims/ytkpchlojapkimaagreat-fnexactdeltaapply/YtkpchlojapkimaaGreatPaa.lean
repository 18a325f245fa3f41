/-
  Texts laid together: Sf, Ee, Eg, Ef.
-/
import Derived.Test.YtkpchlojapkimaaGreatSe
import Derived.Test.YtkpchlojapkimaaGreatRe
import Derived.Test.YtkpchlojapkimaaGreatHn
import Derived.Test.YtkpchlojapkimaaGreatEc
import Derived.Test.YtkpchlojapkimaaGreatRw1
import Derived.Deep.RegionHeld3
import Derived.Test.YtkpchlojapkimaaGreatRq
import Derived.Test.YtkpchlojapkimaaGreatRi
import Derived.Test.YtkpchlojapkimaaGreatPu
namespace Go.Proofs.YtkpchlojapkimaaGreat.St
set_option maxRecDepth 8000
set_option linter.unusedSimpArgs false
set_option linter.unusedVariables false
open Go Go.ChangeShapes Go.WideShapes Go.RowKit
open Num Word Pl Rp
open Rl (Rm rm0 said)
open Vl (cmpS strLt)

/-- What is found wrong at relation k. -/
def upN (T : List Nm) (k : Nat) : Bool := oneB (T.getD k nm0).l && (decide (k = 0) || strLt (T.getD (k - 1) nm0).s (T.getD k nm0).s)
theorem store_loop {T : List Nm} (hB : T.length ≤ 24) : (∀ i, i < T.length → upN T i = true) → storeB (told T) = true := by
  intro h
  unfold storeB
  rw [told_len, decide_eq_true hB, all_at fun i hi => ?_]
  · simp only [Bool.true_and]
    rw [risesN_iff]
    intro i hi
    rw [told_len] at hi
    have h2 := h (i + 1) hi
    unfold upN at h2
    simp only [Nat.add_sub_cancel, Bool.and_eq_true, Bool.or_eq_true, decide_eq_true_eq] at h2
    rw [told_at (by omega), told_at hi]
    rcases h2.2 with e | e
    · omega
    · exact e
  · have := h i hi
    unfold upN at this
    rw [Bool.and_eq_true] at this; exact this.1
theorem store_bad {T : List Nm} {k : Nat} (hk : k < T.length) (h : upN T k = false) : storeB (told T) = false := by
  rw [← Bool.not_eq_true]
  intro e
  unfold storeB at e
  simp only [Bool.and_eq_true] at e
  have h1 : oneB (T.getD k nm0).l = true := by
    rw [← Bool.not_eq_false]
    intro h1
    rw [all_bad hk h1] at e; simp at e
  unfold upN at h
  rw [h1] at h
  simp only [Bool.true_and, Bool.or_eq_false_iff, decide_eq_false_iff_not] at h
  obtain ⟨j, rfl⟩ : ∃ j, k = j + 1 := ⟨k - 1, by omega⟩
  simp only [Nat.add_sub_cancel] at h
  have := (risesN_iff _).1 e.2 j (by rw [told_len]; exact hk)
  rw [told_at (by omega), told_at hk] at this
  rw [show (T.getD j nm0).l.1 = (T.getD j nm0).s from rfl, show (T.getD (j + 1) nm0).l.1 = (T.getD (j + 1) nm0).s from rfl, h.2] at this
  simp at this

/-- What a region reads: the store's head, one of its relations, the name of another. -/
def Hold (g b p : Nat) (v0 : Value) (s : ByteArray) (ar : Int) (v : Value) (q : Nat) (s' : ByteArray) (w : World) : Prop :=
  w.cell? ⟨g, 0, none⟩ = some v0 ∧ w.cell? ⟨b, p, none⟩ = some (.string s) ∧ w.cell? ⟨b, p + 1, none⟩ = some (.int .i64 ar) ∧ w.cell? ⟨b, p + 2, none⟩ = some v ∧ w.cell? ⟨b, q, none⟩ = some (.string s')
theorem Hold.below {g b p : Nat} {v0 : Value} {s : ByteArray} {ar : Int} {v : Value} {q : Nat} {s' : ByteArray} {w w' : World} (h : Hold g b p v0 s ar v q s' w) (hb : Below w.heap.size w w') : Hold g b p v0 s ar v q s' w' := by
  obtain ⟨c0, c1, c2, c3, c4⟩ := h
  exact ⟨(hb.cell (World.block_lt_of_cell? _ _ c0)).trans c0, (hb.cell (World.block_lt_of_cell? _ _ c1)).trans c1, (hb.cell (World.block_lt_of_cell? _ _ c2)).trans c2, (hb.cell (World.block_lt_of_cell? _ _ c3)).trans c3, (hb.cell (World.block_lt_of_cell? _ _ c4)).trans c4⟩
theorem specWord_bel (s : ByteArray) (w : World) (hs : s.size ≤ maxLen) : Calls Tryz.prog 81 #[.string s] w fun e w' => e = .returned (.bool (wordB s)) ∧ Below w.heap.size w w' :=
  (specWord_any s w hs).mono fun e w' ⟨h1, h2⟩ => ⟨h1, by rw [h2]; exact Below.refl _ _⟩

set_option maxHeartbeats 4000000 in
theorem okS_any (a : Option Addr) (b off cap : Nat) (T : List Nm) (w : World) (h : Rd w a b off T) :
    Calls Tryz.prog 34 #[.agg #[.slice a T.length cap]] w fun e w' => e = .returned (.bool (storeB (told T))) ∧ Below w.heap.size w w' := by
  obtain ⟨W1, hW1⟩ : ∃ W1, W1 = w.alloc (.cells #[.slice a T.length cap] 25) := ⟨_, rfl⟩
  have B1 : Below w.heap.size w W1 := by subst hW1; exact below_alloc1 _ _
  have k0 : W1.heap[w.heap.size]? = some (.cells #[.slice a T.length cap] 25 (0, 0)) := by subst hW1; exact at_new rfl
  by_cases hfew : 24 < T.length
  · have e : storeB (told T) = false := by unfold storeB; rw [told_len, decide_eq_false (by omega : ¬ T.length ≤ 24)]; simp
    rw [e]
    have hf : (24 : Int) < (T.length : Int) := by omega
    clear hW1
    go_enter Tryz.func34, Tryz.ntmps34
    go_wp2
    go_ret
    exact ⟨rfl, below_alloc1 _ _⟩
  have hf : ¬ (24 : Int) < (T.length : Int) := by omega
  obtain ⟨hh, hc, ho, hs, hst⟩ := h.below B1
  clear h
  obtain ⟨R, hR⟩ : ∃ R, R = storeB (told T) := ⟨_, rfl⟩
  have HG : Hid ((∀ i, i < T.length → upN T i = true) → R = true) := fun h => by rw [hR]; exact store_loop (by omega) h
  have HB : Hid (∀ k, k < T.length → upN T k = false → R = false) := fun k hk h => by rw [hR]; exact store_bad hk h
  rw [← hR]
  clear hR hfew
  obtain ⟨n, hn⟩ : ∃ n, n = T.length := ⟨_, rfl⟩
  rw [← hn] at hh hc ho hs hf hst HG HB k0 hW1 ⊢
  clear hn
  go_enter Tryz.func34, Tryz.ntmps34
  go_wp2
  rw [← hW1]
  clear hW1
  go_loopw [11] (fun i wr => ∃ k : Nat, k ≤ n ∧ i = .int .i64 k ∧ Below W1.heap.size W1 wr ∧ ∀ i, i < k → upN T i = true) (fun i _ => n - (intOf i).toNat)
  case atStart => exact ⟨0, Nat.zero_le _, rfl, Below.refl _ _, fun i hi => by omega⟩
  case round =>
    obtain ⟨k, hk, rfl, hbel, hpre⟩ := hrel
    have HP : Hid (∀ i, i < k → upN T i = true) := hpre
    clear hpre
    replace k0 := (hbel.block _ (blk_lt k0)).trans k0
    have p0 := one k0
    by_cases hlt : k < n
    · obtain rfl := hh (by omega)
      have hkz : (k : Int) < (n : Int) := by omega
      have hk0 : (0 : Int) ≤ (k : Int) := by omega
      have hnz : (0 : Int) < (n : Int) := by omega
      obtain ⟨A0, A1, A2⟩ := At3.of (hc k hlt) hbel (hc k hlt).lt
      have o1 := Rl.Rd.below (ho k hlt) hbel
      have hst1 := hst k hlt
      have HB1 : Hid (upN T k = false → R = false) := HB.out k hlt
      have HX : Hid (upN T k = true → ∀ i, i < k + 1 → upN T i = true) := fun h i hi => by
        by_cases e : i = k
        · subst e; exact h
        · exact HP.out i (by omega)
      clear HB HP
      by_cases hk1 : k = 0
      · subst hk1
        have eu : upN T 0 = oneB (T.getD 0 nm0).l := by unfold upN; simp
        rw [eu] at HB1 HX
        clear eu hc ho hh hst
        generalize T.getD 0 nm0 = y at A0 A1 A2 o1 HB1 HX hst1
        obtain ⟨ys, yr, ya, yb, yo, yc, yQ⟩ := y
        simp only [Nm.l, oneB, Nat.zero_mul, Nat.add_zero] at A0 A1 A2 o1 HB1 HX hst1
        have hW := fun W => specWord_bel ys W hst1
        have hR := fun W h => Rl.relS_any yr ya yb yo yc yQ W h
        have hH : Hold w.heap.size b off (.slice (some ⟨b, off, none⟩) n cap) ys yr (.slice ya yQ.length yc) off ys wr := ⟨p0, A0, A1, A2, A0⟩
        clear A0 A1 A2
        generalize relB yr (said yQ) = rb at hR HB1 HX
        cases hw : wordB ys with
        | false =>
          rw [hw] at hW HB1
          go_wp2
          refine wp_region_held_drew (S := Hold w.heap.size b off (.slice (some ⟨b, off, none⟩) n cap) ys yr (.slice ya yQ.length yc) off ys) (by kernel_rfl) hH (fun hHeld => ?_)
          replace hbel := Rw.next hbel ((Below.refl _ _).drew)
          replace o1 := o1.below ((Below.refl _ _).drew)
          refine Hn.take (i := 0) (d := some 14) (v := .pointer (some ⟨w.heap.size, 0, none⟩)) rfl (by kernel_rfl) (by kernel_rfl) (by kernel_rfl) (by kernel_rfl) (fun _ _ _ h => h) (Or.inl ⟨by rfl, by intro w hSw; go_simp⟩) hHeld ?_
          simp only [Act.put, Hn.p1, Hn.p2, Hn.p3]
          refine Hn.take (i := 1) (d := some 15) (v := .slice (some ⟨b, off, none⟩) n cap) rfl (by kernel_rfl) (by kernel_rfl) (by kernel_rfl) (by kernel_rfl) (fun _ _ _ h => h) (Or.inl ⟨by rfl, by intro w hSw; obtain ⟨c0, c1, c2, c3, c4⟩ := hSw; go_simp⟩) hHeld ?_
          simp only [Act.put, Hn.p1, Hn.p2, Hn.p3]
          refine Hn.take (i := 2) (d := some 16) (v := .int .i64 0) rfl (by kernel_rfl) (by kernel_rfl) (by kernel_rfl) (by kernel_rfl) (fun _ _ _ h => h) (Or.inl ⟨by rfl, by intro w hSw; go_simp⟩) hHeld ?_
          simp only [Act.put, Hn.p1, Hn.p2, Hn.p3]
          refine Hn.take (i := 3) (d := some 17) (v := .pointer (some ⟨b, off, none⟩)) rfl (by kernel_rfl) (by kernel_rfl) (by kernel_rfl) (by kernel_rfl) (fun _ _ _ h => h) (Or.inl ⟨by rfl, by intro w hSw; go_simp⟩) hHeld ?_
          simp only [Act.put, Hn.p1, Hn.p2, Hn.p3]
          refine Hn.take (i := 4) (d := some 18) (v := .pointer (some ⟨b, off, none⟩)) rfl (by kernel_rfl) (by kernel_rfl) (by kernel_rfl) (by kernel_rfl) (fun _ _ _ h => h) (Or.inl ⟨by rfl, by intro w hSw; go_simp⟩) hHeld ?_
          simp only [Act.put, Hn.p1, Hn.p2, Hn.p3]
          refine Hn.take (i := 5) (d := some 19) (v := .string ys) rfl (by kernel_rfl) (by kernel_rfl) (by kernel_rfl) (by kernel_rfl) (fun _ _ _ h => h) (Or.inl ⟨by rfl, by intro w hSw; obtain ⟨c0, c1, c2, c3, c4⟩ := hSw; go_simp⟩) hHeld ?_
          simp only [Act.put, Hn.p1, Hn.p2, Hn.p3]
          refine wpAnyH_ready (rs := [6]) (by kernel_rfl) (by simp) (Hn.call1 (i := 6) rfl (by rfl) 81 (.tmp 19) 9 (by kernel_rfl) 20 (by kernel_rfl) (.string ys) (by kernel_rfl) (fun _ => rfl) (hW _) ?_ AllReadyH.nil)
          rintro e w1 ⟨rfl, hb⟩
          refine ⟨_, rfl, hHeld.below hb, fun hHeld => ?_⟩
          replace hbel := Rw.next hbel hb
          replace o1 := o1.below hb
          clear hb
          simp only [Act.put, Hn.p1, Hn.p2, Hn.p3]
          refine Hn.take (i := 7) (d := some 21) (v := .bool true) rfl (by kernel_rfl) (by kernel_rfl) (by kernel_rfl) (by kernel_rfl) (fun _ _ _ h => h) (Or.inl ⟨by rfl, by intro w hSw; go_simp⟩) hHeld ?_
          simp only [Act.put, Hn.p1, Hn.p2, Hn.p3]
          refine Hn.take (i := 8) (d := some 22) (v := .bool true) rfl (by kernel_rfl) (by kernel_rfl) (by kernel_rfl) (by kernel_rfl) (fun _ _ _ h => h) (Or.inl ⟨by rfl, by intro w hSw; go_simp⟩) hHeld ?_
          simp only [Act.put, Hn.p1, Hn.p2, Hn.p3]
          refine Hn.take (i := 9) (d := some 23) (v := undef) rfl (by kernel_rfl) (by kernel_rfl) (by kernel_rfl) (by kernel_rfl) (fun _ _ _ h => h) (Or.inr ⟨by rfl, rfl⟩) hHeld ?_
          simp only [Act.put, Hn.p1, Hn.p2, Hn.p3]
          refine Hn.take (i := 10) (d := some 24) (v := undef) rfl (by kernel_rfl) (by kernel_rfl) (by kernel_rfl) (by kernel_rfl) (fun _ _ _ h => h) (Or.inr ⟨by rfl, rfl⟩) hHeld ?_
          simp only [Act.put, Hn.p1, Hn.p2, Hn.p3]
          refine Hn.take (i := 11) (d := some 25) (v := undef) rfl (by kernel_rfl) (by kernel_rfl) (by kernel_rfl) (by kernel_rfl) (fun _ _ _ h => h) (Or.inr ⟨by rfl, rfl⟩) hHeld ?_
          simp only [Act.put, Hn.p1, Hn.p2, Hn.p3]
          refine Hn.take (i := 12) (d := some 26) (v := undef) rfl (by kernel_rfl) (by kernel_rfl) (by kernel_rfl) (by kernel_rfl) (fun _ _ _ h => h) (Or.inr ⟨by rfl, rfl⟩) hHeld ?_
          simp only [Act.put, Hn.p1, Hn.p2, Hn.p3]
          refine Hn.take (i := 13) (d := some 27) (v := undef) rfl (by kernel_rfl) (by kernel_rfl) (by kernel_rfl) (by kernel_rfl) (fun _ _ _ h => h) (Or.inr ⟨by rfl, rfl⟩) hHeld ?_
          simp only [Act.put, Hn.p1, Hn.p2, Hn.p3]
          refine Hn.take (i := 14) (d := some 28) (v := undef) rfl (by kernel_rfl) (by kernel_rfl) (by kernel_rfl) (by kernel_rfl) (fun _ _ _ h => h) (Or.inr ⟨by rfl, rfl⟩) hHeld ?_
          simp only [Act.put, Hn.p1, Hn.p2, Hn.p3]
          refine Hn.take (i := 15) (d := some 29) (v := undef) rfl (by kernel_rfl) (by kernel_rfl) (by kernel_rfl) (by kernel_rfl) (fun _ _ _ h => h) (Or.inr ⟨by rfl, rfl⟩) hHeld ?_
          simp only [Act.put, Hn.p1, Hn.p2, Hn.p3]
          refine Hn.take (i := 16) (d := some 30) (v := undef) rfl (by kernel_rfl) (by kernel_rfl) (by kernel_rfl) (by kernel_rfl) (fun _ _ _ h => h) (Or.inr ⟨by rfl, rfl⟩) hHeld ?_
          simp only [Act.put, Hn.p1, Hn.p2, Hn.p3]
          refine Hn.take (i := 17) (d := some 31) (v := .bool true) rfl (by kernel_rfl) (by kernel_rfl) (by kernel_rfl) (by kernel_rfl) (fun _ _ _ h => h) (Or.inl ⟨by rfl, by intro w hSw; go_simp⟩) hHeld ?_
          simp only [Act.put, Hn.p1, Hn.p2, Hn.p3]
          refine Hn.take (i := 18) (d := some 32) (v := .bool true) rfl (by kernel_rfl) (by kernel_rfl) (by kernel_rfl) (by kernel_rfl) (fun _ _ _ h => h) (Or.inl ⟨by rfl, by intro w hSw; go_simp⟩) hHeld ?_
          simp only [Act.put, Hn.p1, Hn.p2, Hn.p3]
          refine Hn.take (i := 19) (d := some 33) (v := undef) rfl (by kernel_rfl) (by kernel_rfl) (by kernel_rfl) (by kernel_rfl) (fun _ _ _ h => h) (Or.inr ⟨by rfl, rfl⟩) hHeld ?_
          simp only [Act.put, Hn.p1, Hn.p2, Hn.p3]
          refine Hn.take (i := 20) (d := some 34) (v := undef) rfl (by kernel_rfl) (by kernel_rfl) (by kernel_rfl) (by kernel_rfl) (fun _ _ _ h => h) (Or.inr ⟨by rfl, rfl⟩) hHeld ?_
          simp only [Act.put, Hn.p1, Hn.p2, Hn.p3]
          refine Hn.take (i := 21) (d := some 35) (v := undef) rfl (by kernel_rfl) (by kernel_rfl) (by kernel_rfl) (by kernel_rfl) (fun _ _ _ h => h) (Or.inr ⟨by rfl, rfl⟩) hHeld ?_
          simp only [Act.put, Hn.p1, Hn.p2, Hn.p3]
          refine Hn.take (i := 22) (d := some 36) (v := undef) rfl (by kernel_rfl) (by kernel_rfl) (by kernel_rfl) (by kernel_rfl) (fun _ _ _ h => h) (Or.inr ⟨by rfl, rfl⟩) hHeld ?_
          simp only [Act.put, Hn.p1, Hn.p2, Hn.p3]
          refine Hn.take (i := 23) (d := some 37) (v := undef) rfl (by kernel_rfl) (by kernel_rfl) (by kernel_rfl) (by kernel_rfl) (fun _ _ _ h => h) (Or.inr ⟨by rfl, rfl⟩) hHeld ?_
          simp only [Act.put, Hn.p1, Hn.p2, Hn.p3]
          refine Hn.take (i := 24) (d := some 38) (v := undef) rfl (by kernel_rfl) (by kernel_rfl) (by kernel_rfl) (by kernel_rfl) (fun _ _ _ h => h) (Or.inr ⟨by rfl, rfl⟩) hHeld ?_
          simp only [Act.put, Hn.p1, Hn.p2, Hn.p3]
          refine Hn.take (i := 25) (d := some 39) (v := undef) rfl (by kernel_rfl) (by kernel_rfl) (by kernel_rfl) (by kernel_rfl) (fun _ _ _ h => h) (Or.inr ⟨by rfl, rfl⟩) hHeld ?_
          simp only [Act.put, Hn.p1, Hn.p2, Hn.p3]
          refine Hn.take (i := 26) (d := some 40) (v := undef) rfl (by kernel_rfl) (by kernel_rfl) (by kernel_rfl) (by kernel_rfl) (fun _ _ _ h => h) (Or.inr ⟨by rfl, rfl⟩) hHeld ?_
          simp only [Act.put, Hn.p1, Hn.p2, Hn.p3]
          refine Hn.take (i := 27) (d := some 41) (v := undef) rfl (by kernel_rfl) (by kernel_rfl) (by kernel_rfl) (by kernel_rfl) (fun _ _ _ h => h) (Or.inr ⟨by rfl, rfl⟩) hHeld ?_
          simp only [Act.put, Hn.p1, Hn.p2, Hn.p3]
          refine Hn.take (i := 28) (d := some 42) (v := undef) rfl (by kernel_rfl) (by kernel_rfl) (by kernel_rfl) (by kernel_rfl) (fun _ _ _ h => h) (Or.inr ⟨by rfl, rfl⟩) hHeld ?_
          simp only [Act.put, Hn.p1, Hn.p2, Hn.p3]
          refine Hn.take (i := 29) (d := some 43) (v := undef) rfl (by kernel_rfl) (by kernel_rfl) (by kernel_rfl) (by kernel_rfl) (fun _ _ _ h => h) (Or.inr ⟨by rfl, rfl⟩) hHeld ?_
          simp only [Act.put, Hn.p1, Hn.p2, Hn.p3]
          refine Hn.take (i := 30) (d := some 44) (v := undef) rfl (by kernel_rfl) (by kernel_rfl) (by kernel_rfl) (by kernel_rfl) (fun _ _ _ h => h) (Or.inr ⟨by rfl, rfl⟩) hHeld ?_
          simp only [Act.put, Hn.p1, Hn.p2, Hn.p3]
          refine Hn.take (i := 31) (d := some 45) (v := undef) rfl (by kernel_rfl) (by kernel_rfl) (by kernel_rfl) (by kernel_rfl) (fun _ _ _ h => h) (Or.inr ⟨by rfl, rfl⟩) hHeld ?_
          simp only [Act.put, Hn.p1, Hn.p2, Hn.p3]
          refine Hn.take (i := 32) (d := some 46) (v := undef) rfl (by kernel_rfl) (by kernel_rfl) (by kernel_rfl) (by kernel_rfl) (fun _ _ _ h => h) (Or.inr ⟨by rfl, rfl⟩) hHeld ?_
          simp only [Act.put, Hn.p1, Hn.p2, Hn.p3]
          refine Hn.take (i := 33) (d := some 47) (v := undef) rfl (by kernel_rfl) (by kernel_rfl) (by kernel_rfl) (by kernel_rfl) (fun _ _ _ h => h) (Or.inr ⟨by rfl, rfl⟩) hHeld ?_
          simp only [Act.put, Hn.p1, Hn.p2, Hn.p3]
          refine Hn.take (i := 34) (d := some 48) (v := undef) rfl (by kernel_rfl) (by kernel_rfl) (by kernel_rfl) (by kernel_rfl) (fun _ _ _ h => h) (Or.inr ⟨by rfl, rfl⟩) hHeld ?_
          simp only [Act.put, Hn.p1, Hn.p2, Hn.p3]
          refine Hn.take (i := 35) (d := some 49) (v := undef) rfl (by kernel_rfl) (by kernel_rfl) (by kernel_rfl) (by kernel_rfl) (fun _ _ _ h => h) (Or.inr ⟨by rfl, rfl⟩) hHeld ?_
          simp only [Act.put, Hn.p1, Hn.p2, Hn.p3]
          refine Hn.take (i := 36) (d := some 50) (v := undef) rfl (by kernel_rfl) (by kernel_rfl) (by kernel_rfl) (by kernel_rfl) (fun _ _ _ h => h) (Or.inr ⟨by rfl, rfl⟩) hHeld ?_
          simp only [Act.put, Hn.p1, Hn.p2, Hn.p3]
          refine Hn.take (i := 37) (d := some 51) (v := .bool true) rfl (by kernel_rfl) (by kernel_rfl) (by kernel_rfl) (by kernel_rfl) (fun _ _ _ h => h) (Or.inl ⟨by rfl, by intro w hSw; go_simp⟩) hHeld ?_
          simp only [Act.put, Hn.p1, Hn.p2, Hn.p3]
          refine wpAnyH_done (by kernel_rfl) ?_ _
          go_wp2
          go_ret
          exact ⟨ret_bool (HB1.out (by simp)).symm, Rw.next B1 hbel⟩
        | true =>
          rw [hw] at hW HB1 HX
          cases rb with
          | false =>
            go_wp2
            refine wp_region_held_drew (S := Hold w.heap.size b off (.slice (some ⟨b, off, none⟩) n cap) ys yr (.slice ya yQ.length yc) off ys) (by kernel_rfl) hH (fun hHeld => ?_)
            replace hbel := Rw.next hbel ((Below.refl _ _).drew)
            replace o1 := o1.below ((Below.refl _ _).drew)
            refine Hn.take (i := 0) (d := some 14) (v := .pointer (some ⟨w.heap.size, 0, none⟩)) rfl (by kernel_rfl) (by kernel_rfl) (by kernel_rfl) (by kernel_rfl) (fun _ _ _ h => h) (Or.inl ⟨by rfl, by intro w hSw; go_simp⟩) hHeld ?_
            simp only [Act.put, Hn.p1, Hn.p2, Hn.p3]
            refine Hn.take (i := 1) (d := some 15) (v := .slice (some ⟨b, off, none⟩) n cap) rfl (by kernel_rfl) (by kernel_rfl) (by kernel_rfl) (by kernel_rfl) (fun _ _ _ h => h) (Or.inl ⟨by rfl, by intro w hSw; obtain ⟨c0, c1, c2, c3, c4⟩ := hSw; go_simp⟩) hHeld ?_
            simp only [Act.put, Hn.p1, Hn.p2, Hn.p3]
            refine Hn.take (i := 2) (d := some 16) (v := .int .i64 0) rfl (by kernel_rfl) (by kernel_rfl) (by kernel_rfl) (by kernel_rfl) (fun _ _ _ h => h) (Or.inl ⟨by rfl, by intro w hSw; go_simp⟩) hHeld ?_
            simp only [Act.put, Hn.p1, Hn.p2, Hn.p3]
            refine Hn.take (i := 3) (d := some 17) (v := .pointer (some ⟨b, off, none⟩)) rfl (by kernel_rfl) (by kernel_rfl) (by kernel_rfl) (by kernel_rfl) (fun _ _ _ h => h) (Or.inl ⟨by rfl, by intro w hSw; go_simp⟩) hHeld ?_
            simp only [Act.put, Hn.p1, Hn.p2, Hn.p3]
            refine Hn.take (i := 4) (d := some 18) (v := .pointer (some ⟨b, off, none⟩)) rfl (by kernel_rfl) (by kernel_rfl) (by kernel_rfl) (by kernel_rfl) (fun _ _ _ h => h) (Or.inl ⟨by rfl, by intro w hSw; go_simp⟩) hHeld ?_
            simp only [Act.put, Hn.p1, Hn.p2, Hn.p3]
            refine Hn.take (i := 5) (d := some 19) (v := .string ys) rfl (by kernel_rfl) (by kernel_rfl) (by kernel_rfl) (by kernel_rfl) (fun _ _ _ h => h) (Or.inl ⟨by rfl, by intro w hSw; obtain ⟨c0, c1, c2, c3, c4⟩ := hSw; go_simp⟩) hHeld ?_
            simp only [Act.put, Hn.p1, Hn.p2, Hn.p3]
            refine wpAnyH_ready (rs := [6]) (by kernel_rfl) (by simp) (Hn.call1 (i := 6) rfl (by rfl) 81 (.tmp 19) 9 (by kernel_rfl) 20 (by kernel_rfl) (.string ys) (by kernel_rfl) (fun _ => rfl) (hW _) ?_ AllReadyH.nil)
            rintro e w1 ⟨rfl, hb⟩
            refine ⟨_, rfl, hHeld.below hb, fun hHeld => ?_⟩
            replace hbel := Rw.next hbel hb
            replace o1 := o1.below hb
            clear hb
            simp only [Act.put, Hn.p1, Hn.p2, Hn.p3]
            refine Hn.take (i := 7) (d := some 21) (v := .bool false) rfl (by kernel_rfl) (by kernel_rfl) (by kernel_rfl) (by kernel_rfl) (fun _ _ _ h => h) (Or.inl ⟨by rfl, by intro w hSw; go_simp⟩) hHeld ?_
            simp only [Act.put, Hn.p1, Hn.p2, Hn.p3]
            refine Hn.take (i := 8) (d := some 22) (v := .bool false) rfl (by kernel_rfl) (by kernel_rfl) (by kernel_rfl) (by kernel_rfl) (fun _ _ _ h => h) (Or.inl ⟨by rfl, by intro w hSw; go_simp⟩) hHeld ?_
            simp only [Act.put, Hn.p1, Hn.p2, Hn.p3]
            refine Hn.take (i := 9) (d := some 23) (v := .pointer (some ⟨w.heap.size, 0, none⟩)) rfl (by kernel_rfl) (by kernel_rfl) (by kernel_rfl) (by kernel_rfl) (fun _ _ _ h => h) (Or.inl ⟨by rfl, by intro w hSw; go_simp⟩) hHeld ?_
            simp only [Act.put, Hn.p1, Hn.p2, Hn.p3]
            refine Hn.take (i := 10) (d := some 24) (v := .slice (some ⟨b, off, none⟩) n cap) rfl (by kernel_rfl) (by kernel_rfl) (by kernel_rfl) (by kernel_rfl) (fun _ _ _ h => h) (Or.inl ⟨by rfl, by intro w hSw; obtain ⟨c0, c1, c2, c3, c4⟩ := hSw; go_simp⟩) hHeld ?_
            simp only [Act.put, Hn.p1, Hn.p2, Hn.p3]
            refine Hn.take (i := 11) (d := some 25) (v := .int .i64 0) rfl (by kernel_rfl) (by kernel_rfl) (by kernel_rfl) (by kernel_rfl) (fun _ _ _ h => h) (Or.inl ⟨by rfl, by intro w hSw; go_simp⟩) hHeld ?_
            simp only [Act.put, Hn.p1, Hn.p2, Hn.p3]
            refine Hn.take (i := 12) (d := some 26) (v := .pointer (some ⟨b, off, none⟩)) rfl (by kernel_rfl) (by kernel_rfl) (by kernel_rfl) (by kernel_rfl) (fun _ _ _ h => h) (Or.inl ⟨by rfl, by intro w hSw; go_simp⟩) hHeld ?_
            simp only [Act.put, Hn.p1, Hn.p2, Hn.p3]
            refine Hn.take (i := 13) (d := some 27) (v := .pointer (some ⟨b, off + 1, none⟩)) rfl (by kernel_rfl) (by kernel_rfl) (by kernel_rfl) (by kernel_rfl) (fun _ _ _ h => h) (Or.inl ⟨by rfl, by intro w hSw; go_simp⟩) hHeld ?_
            simp only [Act.put, Hn.p1, Hn.p2, Hn.p3]
            refine Hn.take (i := 14) (d := some 28) (v := .agg #[.int .i64 yr, .slice ya yQ.length yc]) rfl (by kernel_rfl) (by kernel_rfl) (by kernel_rfl) (by kernel_rfl) (fun _ _ _ h => h) (Or.inl ⟨by rfl, by intro w hSw; obtain ⟨c0, c1, c2, c3, c4⟩ := hSw; go_simp⟩) hHeld ?_
            simp only [Act.put, Hn.p1, Hn.p2, Hn.p3]
            refine wpAnyH_ready (rs := [15]) (by kernel_rfl) (by simp) (Hn.call1 (i := 15) rfl (by rfl) 82 (.tmp 28) 67 (by kernel_rfl) 29 (by kernel_rfl) (.agg #[.int .i64 yr, .slice ya yQ.length yc]) (by kernel_rfl) (fun _ => rfl) (hR _ o1) ?_ AllReadyH.nil)
            rintro e w2 ⟨rfl, hb⟩
            refine ⟨_, rfl, hHeld.below hb, fun hHeld => ?_⟩
            replace hbel := Rw.next hbel hb
            clear hb
            simp only [Act.put, Hn.p1, Hn.p2, Hn.p3]
            refine Hn.take (i := 16) (d := some 30) (v := .bool true) rfl (by kernel_rfl) (by kernel_rfl) (by kernel_rfl) (by kernel_rfl) (fun _ _ _ h => h) (Or.inl ⟨by rfl, by intro w hSw; go_simp⟩) hHeld ?_
            simp only [Act.put, Hn.p1, Hn.p2, Hn.p3]
            refine Hn.take (i := 17) (d := some 31) (v := .bool true) rfl (by kernel_rfl) (by kernel_rfl) (by kernel_rfl) (by kernel_rfl) (fun _ _ _ h => h) (Or.inl ⟨by rfl, by intro w hSw; go_simp⟩) hHeld ?_
            simp only [Act.put, Hn.p1, Hn.p2, Hn.p3]
            refine Hn.take (i := 18) (d := some 32) (v := .bool true) rfl (by kernel_rfl) (by kernel_rfl) (by kernel_rfl) (by kernel_rfl) (fun _ _ _ h => h) (Or.inl ⟨by rfl, by intro w hSw; go_simp⟩) hHeld ?_
            simp only [Act.put, Hn.p1, Hn.p2, Hn.p3]
            refine Hn.take (i := 19) (d := some 33) (v := undef) rfl (by kernel_rfl) (by kernel_rfl) (by kernel_rfl) (by kernel_rfl) (fun _ _ _ h => h) (Or.inr ⟨by rfl, rfl⟩) hHeld ?_
            simp only [Act.put, Hn.p1, Hn.p2, Hn.p3]
            refine Hn.take (i := 20) (d := some 34) (v := undef) rfl (by kernel_rfl) (by kernel_rfl) (by kernel_rfl) (by kernel_rfl) (fun _ _ _ h => h) (Or.inr ⟨by rfl, rfl⟩) hHeld ?_
            simp only [Act.put, Hn.p1, Hn.p2, Hn.p3]
            refine Hn.take (i := 21) (d := some 35) (v := undef) rfl (by kernel_rfl) (by kernel_rfl) (by kernel_rfl) (by kernel_rfl) (fun _ _ _ h => h) (Or.inr ⟨by rfl, rfl⟩) hHeld ?_
            simp only [Act.put, Hn.p1, Hn.p2, Hn.p3]
            refine Hn.take (i := 22) (d := some 36) (v := undef) rfl (by kernel_rfl) (by kernel_rfl) (by kernel_rfl) (by kernel_rfl) (fun _ _ _ h => h) (Or.inr ⟨by rfl, rfl⟩) hHeld ?_
            simp only [Act.put, Hn.p1, Hn.p2, Hn.p3]
            refine Hn.take (i := 23) (d := some 37) (v := undef) rfl (by kernel_rfl) (by kernel_rfl) (by kernel_rfl) (by kernel_rfl) (fun _ _ _ h => h) (Or.inr ⟨by rfl, rfl⟩) hHeld ?_
            simp only [Act.put, Hn.p1, Hn.p2, Hn.p3]
            refine Hn.take (i := 24) (d := some 38) (v := undef) rfl (by kernel_rfl) (by kernel_rfl) (by kernel_rfl) (by kernel_rfl) (fun _ _ _ h => h) (Or.inr ⟨by rfl, rfl⟩) hHeld ?_
            simp only [Act.put, Hn.p1, Hn.p2, Hn.p3]
            refine Hn.take (i := 25) (d := some 39) (v := undef) rfl (by kernel_rfl) (by kernel_rfl) (by kernel_rfl) (by kernel_rfl) (fun _ _ _ h => h) (Or.inr ⟨by rfl, rfl⟩) hHeld ?_
            simp only [Act.put, Hn.p1, Hn.p2, Hn.p3]
            refine Hn.take (i := 26) (d := some 40) (v := undef) rfl (by kernel_rfl) (by kernel_rfl) (by kernel_rfl) (by kernel_rfl) (fun _ _ _ h => h) (Or.inr ⟨by rfl, rfl⟩) hHeld ?_
            simp only [Act.put, Hn.p1, Hn.p2, Hn.p3]
            refine Hn.take (i := 27) (d := some 41) (v := undef) rfl (by kernel_rfl) (by kernel_rfl) (by kernel_rfl) (by kernel_rfl) (fun _ _ _ h => h) (Or.inr ⟨by rfl, rfl⟩) hHeld ?_
            simp only [Act.put, Hn.p1, Hn.p2, Hn.p3]
            refine Hn.take (i := 28) (d := some 42) (v := undef) rfl (by kernel_rfl) (by kernel_rfl) (by kernel_rfl) (by kernel_rfl) (fun _ _ _ h => h) (Or.inr ⟨by rfl, rfl⟩) hHeld ?_
            simp only [Act.put, Hn.p1, Hn.p2, Hn.p3]
            refine Hn.take (i := 29) (d := some 43) (v := undef) rfl (by kernel_rfl) (by kernel_rfl) (by kernel_rfl) (by kernel_rfl) (fun _ _ _ h => h) (Or.inr ⟨by rfl, rfl⟩) hHeld ?_
            simp only [Act.put, Hn.p1, Hn.p2, Hn.p3]
            refine Hn.take (i := 30) (d := some 44) (v := undef) rfl (by kernel_rfl) (by kernel_rfl) (by kernel_rfl) (by kernel_rfl) (fun _ _ _ h => h) (Or.inr ⟨by rfl, rfl⟩) hHeld ?_
            simp only [Act.put, Hn.p1, Hn.p2, Hn.p3]
            refine Hn.take (i := 31) (d := some 45) (v := undef) rfl (by kernel_rfl) (by kernel_rfl) (by kernel_rfl) (by kernel_rfl) (fun _ _ _ h => h) (Or.inr ⟨by rfl, rfl⟩) hHeld ?_
            simp only [Act.put, Hn.p1, Hn.p2, Hn.p3]
            refine Hn.take (i := 32) (d := some 46) (v := undef) rfl (by kernel_rfl) (by kernel_rfl) (by kernel_rfl) (by kernel_rfl) (fun _ _ _ h => h) (Or.inr ⟨by rfl, rfl⟩) hHeld ?_
            simp only [Act.put, Hn.p1, Hn.p2, Hn.p3]
            refine Hn.take (i := 33) (d := some 47) (v := undef) rfl (by kernel_rfl) (by kernel_rfl) (by kernel_rfl) (by kernel_rfl) (fun _ _ _ h => h) (Or.inr ⟨by rfl, rfl⟩) hHeld ?_
            simp only [Act.put, Hn.p1, Hn.p2, Hn.p3]
            refine Hn.take (i := 34) (d := some 48) (v := undef) rfl (by kernel_rfl) (by kernel_rfl) (by kernel_rfl) (by kernel_rfl) (fun _ _ _ h => h) (Or.inr ⟨by rfl, rfl⟩) hHeld ?_
            simp only [Act.put, Hn.p1, Hn.p2, Hn.p3]
            refine Hn.take (i := 35) (d := some 49) (v := undef) rfl (by kernel_rfl) (by kernel_rfl) (by kernel_rfl) (by kernel_rfl) (fun _ _ _ h => h) (Or.inr ⟨by rfl, rfl⟩) hHeld ?_
            simp only [Act.put, Hn.p1, Hn.p2, Hn.p3]
            refine Hn.take (i := 36) (d := some 50) (v := undef) rfl (by kernel_rfl) (by kernel_rfl) (by kernel_rfl) (by kernel_rfl) (fun _ _ _ h => h) (Or.inr ⟨by rfl, rfl⟩) hHeld ?_
            simp only [Act.put, Hn.p1, Hn.p2, Hn.p3]
            refine Hn.take (i := 37) (d := some 51) (v := .bool true) rfl (by kernel_rfl) (by kernel_rfl) (by kernel_rfl) (by kernel_rfl) (fun _ _ _ h => h) (Or.inl ⟨by rfl, by intro w hSw; go_simp⟩) hHeld ?_
            simp only [Act.put, Hn.p1, Hn.p2, Hn.p3]
            refine wpAnyH_done (by kernel_rfl) ?_ _
            go_wp2
            go_ret
            exact ⟨ret_bool (HB1.out (by simp)).symm, Rw.next B1 hbel⟩
          | true =>
            go_wp2
            refine wp_region_held_drew (S := Hold w.heap.size b off (.slice (some ⟨b, off, none⟩) n cap) ys yr (.slice ya yQ.length yc) off ys) (by kernel_rfl) hH (fun hHeld => ?_)
            replace hbel := Rw.next hbel ((Below.refl _ _).drew)
            replace o1 := o1.below ((Below.refl _ _).drew)
            refine Hn.take (i := 0) (d := some 14) (v := .pointer (some ⟨w.heap.size, 0, none⟩)) rfl (by kernel_rfl) (by kernel_rfl) (by kernel_rfl) (by kernel_rfl) (fun _ _ _ h => h) (Or.inl ⟨by rfl, by intro w hSw; go_simp⟩) hHeld ?_
            simp only [Act.put, Hn.p1, Hn.p2, Hn.p3]
            refine Hn.take (i := 1) (d := some 15) (v := .slice (some ⟨b, off, none⟩) n cap) rfl (by kernel_rfl) (by kernel_rfl) (by kernel_rfl) (by kernel_rfl) (fun _ _ _ h => h) (Or.inl ⟨by rfl, by intro w hSw; obtain ⟨c0, c1, c2, c3, c4⟩ := hSw; go_simp⟩) hHeld ?_
            simp only [Act.put, Hn.p1, Hn.p2, Hn.p3]
            refine Hn.take (i := 2) (d := some 16) (v := .int .i64 0) rfl (by kernel_rfl) (by kernel_rfl) (by kernel_rfl) (by kernel_rfl) (fun _ _ _ h => h) (Or.inl ⟨by rfl, by intro w hSw; go_simp⟩) hHeld ?_
            simp only [Act.put, Hn.p1, Hn.p2, Hn.p3]
            refine Hn.take (i := 3) (d := some 17) (v := .pointer (some ⟨b, off, none⟩)) rfl (by kernel_rfl) (by kernel_rfl) (by kernel_rfl) (by kernel_rfl) (fun _ _ _ h => h) (Or.inl ⟨by rfl, by intro w hSw; go_simp⟩) hHeld ?_
            simp only [Act.put, Hn.p1, Hn.p2, Hn.p3]
            refine Hn.take (i := 4) (d := some 18) (v := .pointer (some ⟨b, off, none⟩)) rfl (by kernel_rfl) (by kernel_rfl) (by kernel_rfl) (by kernel_rfl) (fun _ _ _ h => h) (Or.inl ⟨by rfl, by intro w hSw; go_simp⟩) hHeld ?_
            simp only [Act.put, Hn.p1, Hn.p2, Hn.p3]
            refine Hn.take (i := 5) (d := some 19) (v := .string ys) rfl (by kernel_rfl) (by kernel_rfl) (by kernel_rfl) (by kernel_rfl) (fun _ _ _ h => h) (Or.inl ⟨by rfl, by intro w hSw; obtain ⟨c0, c1, c2, c3, c4⟩ := hSw; go_simp⟩) hHeld ?_
            simp only [Act.put, Hn.p1, Hn.p2, Hn.p3]
            refine wpAnyH_ready (rs := [6]) (by kernel_rfl) (by simp) (Hn.call1 (i := 6) rfl (by rfl) 81 (.tmp 19) 9 (by kernel_rfl) 20 (by kernel_rfl) (.string ys) (by kernel_rfl) (fun _ => rfl) (hW _) ?_ AllReadyH.nil)
            rintro e w1 ⟨rfl, hb⟩
            refine ⟨_, rfl, hHeld.below hb, fun hHeld => ?_⟩
            replace hbel := Rw.next hbel hb
            replace o1 := o1.below hb
            clear hb
            simp only [Act.put, Hn.p1, Hn.p2, Hn.p3]
            refine Hn.take (i := 7) (d := some 21) (v := .bool false) rfl (by kernel_rfl) (by kernel_rfl) (by kernel_rfl) (by kernel_rfl) (fun _ _ _ h => h) (Or.inl ⟨by rfl, by intro w hSw; go_simp⟩) hHeld ?_
            simp only [Act.put, Hn.p1, Hn.p2, Hn.p3]
            refine Hn.take (i := 8) (d := some 22) (v := .bool false) rfl (by kernel_rfl) (by kernel_rfl) (by kernel_rfl) (by kernel_rfl) (fun _ _ _ h => h) (Or.inl ⟨by rfl, by intro w hSw; go_simp⟩) hHeld ?_
            simp only [Act.put, Hn.p1, Hn.p2, Hn.p3]
            refine Hn.take (i := 9) (d := some 23) (v := .pointer (some ⟨w.heap.size, 0, none⟩)) rfl (by kernel_rfl) (by kernel_rfl) (by kernel_rfl) (by kernel_rfl) (fun _ _ _ h => h) (Or.inl ⟨by rfl, by intro w hSw; go_simp⟩) hHeld ?_
            simp only [Act.put, Hn.p1, Hn.p2, Hn.p3]
            refine Hn.take (i := 10) (d := some 24) (v := .slice (some ⟨b, off, none⟩) n cap) rfl (by kernel_rfl) (by kernel_rfl) (by kernel_rfl) (by kernel_rfl) (fun _ _ _ h => h) (Or.inl ⟨by rfl, by intro w hSw; obtain ⟨c0, c1, c2, c3, c4⟩ := hSw; go_simp⟩) hHeld ?_
            simp only [Act.put, Hn.p1, Hn.p2, Hn.p3]
            refine Hn.take (i := 11) (d := some 25) (v := .int .i64 0) rfl (by kernel_rfl) (by kernel_rfl) (by kernel_rfl) (by kernel_rfl) (fun _ _ _ h => h) (Or.inl ⟨by rfl, by intro w hSw; go_simp⟩) hHeld ?_
            simp only [Act.put, Hn.p1, Hn.p2, Hn.p3]
            refine Hn.take (i := 12) (d := some 26) (v := .pointer (some ⟨b, off, none⟩)) rfl (by kernel_rfl) (by kernel_rfl) (by kernel_rfl) (by kernel_rfl) (fun _ _ _ h => h) (Or.inl ⟨by rfl, by intro w hSw; go_simp⟩) hHeld ?_
            simp only [Act.put, Hn.p1, Hn.p2, Hn.p3]
            refine Hn.take (i := 13) (d := some 27) (v := .pointer (some ⟨b, off + 1, none⟩)) rfl (by kernel_rfl) (by kernel_rfl) (by kernel_rfl) (by kernel_rfl) (fun _ _ _ h => h) (Or.inl ⟨by rfl, by intro w hSw; go_simp⟩) hHeld ?_
            simp only [Act.put, Hn.p1, Hn.p2, Hn.p3]
            refine Hn.take (i := 14) (d := some 28) (v := .agg #[.int .i64 yr, .slice ya yQ.length yc]) rfl (by kernel_rfl) (by kernel_rfl) (by kernel_rfl) (by kernel_rfl) (fun _ _ _ h => h) (Or.inl ⟨by rfl, by intro w hSw; obtain ⟨c0, c1, c2, c3, c4⟩ := hSw; go_simp⟩) hHeld ?_
            simp only [Act.put, Hn.p1, Hn.p2, Hn.p3]
            refine wpAnyH_ready (rs := [15]) (by kernel_rfl) (by simp) (Hn.call1 (i := 15) rfl (by rfl) 82 (.tmp 28) 67 (by kernel_rfl) 29 (by kernel_rfl) (.agg #[.int .i64 yr, .slice ya yQ.length yc]) (by kernel_rfl) (fun _ => rfl) (hR _ o1) ?_ AllReadyH.nil)
            rintro e w2 ⟨rfl, hb⟩
            refine ⟨_, rfl, hHeld.below hb, fun hHeld => ?_⟩
            replace hbel := Rw.next hbel hb
            clear hb
            simp only [Act.put, Hn.p1, Hn.p2, Hn.p3]
            refine Hn.take (i := 16) (d := some 30) (v := .bool false) rfl (by kernel_rfl) (by kernel_rfl) (by kernel_rfl) (by kernel_rfl) (fun _ _ _ h => h) (Or.inl ⟨by rfl, by intro w hSw; go_simp⟩) hHeld ?_
            simp only [Act.put, Hn.p1, Hn.p2, Hn.p3]
            refine Hn.take (i := 17) (d := some 31) (v := .bool false) rfl (by kernel_rfl) (by kernel_rfl) (by kernel_rfl) (by kernel_rfl) (fun _ _ _ h => h) (Or.inl ⟨by rfl, by intro w hSw; go_simp⟩) hHeld ?_
            simp only [Act.put, Hn.p1, Hn.p2, Hn.p3]
            refine Hn.take (i := 18) (d := some 32) (v := .bool false) rfl (by kernel_rfl) (by kernel_rfl) (by kernel_rfl) (by kernel_rfl) (fun _ _ _ h => h) (Or.inl ⟨by rfl, by intro w hSw; go_simp⟩) hHeld ?_
            simp only [Act.put, Hn.p1, Hn.p2, Hn.p3]
            refine Hn.take (i := 19) (d := some 33) (v := .int .i64 0) rfl (by kernel_rfl) (by kernel_rfl) (by kernel_rfl) (by kernel_rfl) (fun _ _ _ h => h) (Or.inl ⟨by rfl, by intro w hSw; go_simp⟩) hHeld ?_
            simp only [Act.put, Hn.p1, Hn.p2, Hn.p3]
            refine Hn.take (i := 20) (d := some 34) (v := .bool false) rfl (by kernel_rfl) (by kernel_rfl) (by kernel_rfl) (by kernel_rfl) (fun _ _ _ h => h) (Or.inl ⟨by rfl, by intro w hSw; go_simp⟩) hHeld ?_
            simp only [Act.put, Hn.p1, Hn.p2, Hn.p3]
            refine Hn.take (i := 21) (d := some 35) (v := .bool false) rfl (by kernel_rfl) (by kernel_rfl) (by kernel_rfl) (by kernel_rfl) (fun _ _ _ h => h) (Or.inl ⟨by rfl, by intro w hSw; go_simp⟩) hHeld ?_
            simp only [Act.put, Hn.p1, Hn.p2, Hn.p3]
            refine Hn.take (i := 22) (d := some 36) (v := undef) rfl (by kernel_rfl) (by kernel_rfl) (by kernel_rfl) (by kernel_rfl) (fun _ _ _ h => h) (Or.inr ⟨by rfl, rfl⟩) hHeld ?_
            simp only [Act.put, Hn.p1, Hn.p2, Hn.p3]
            refine Hn.take (i := 23) (d := some 37) (v := undef) rfl (by kernel_rfl) (by kernel_rfl) (by kernel_rfl) (by kernel_rfl) (fun _ _ _ h => h) (Or.inr ⟨by rfl, rfl⟩) hHeld ?_
            simp only [Act.put, Hn.p1, Hn.p2, Hn.p3]
            refine Hn.take (i := 24) (d := some 38) (v := undef) rfl (by kernel_rfl) (by kernel_rfl) (by kernel_rfl) (by kernel_rfl) (fun _ _ _ h => h) (Or.inr ⟨by rfl, rfl⟩) hHeld ?_
            simp only [Act.put, Hn.p1, Hn.p2, Hn.p3]
            refine Hn.take (i := 25) (d := some 39) (v := undef) rfl (by kernel_rfl) (by kernel_rfl) (by kernel_rfl) (by kernel_rfl) (fun _ _ _ h => h) (Or.inr ⟨by rfl, rfl⟩) hHeld ?_
            simp only [Act.put, Hn.p1, Hn.p2, Hn.p3]
            refine Hn.take (i := 26) (d := some 40) (v := undef) rfl (by kernel_rfl) (by kernel_rfl) (by kernel_rfl) (by kernel_rfl) (fun _ _ _ h => h) (Or.inr ⟨by rfl, rfl⟩) hHeld ?_
            simp only [Act.put, Hn.p1, Hn.p2, Hn.p3]
            refine Hn.take (i := 27) (d := some 41) (v := undef) rfl (by kernel_rfl) (by kernel_rfl) (by kernel_rfl) (by kernel_rfl) (fun _ _ _ h => h) (Or.inr ⟨by rfl, rfl⟩) hHeld ?_
            simp only [Act.put, Hn.p1, Hn.p2, Hn.p3]
            refine Hn.take (i := 28) (d := some 42) (v := undef) rfl (by kernel_rfl) (by kernel_rfl) (by kernel_rfl) (by kernel_rfl) (fun _ _ _ h => h) (Or.inr ⟨by rfl, rfl⟩) hHeld ?_
            simp only [Act.put, Hn.p1, Hn.p2, Hn.p3]
            refine Hn.take (i := 29) (d := some 43) (v := undef) rfl (by kernel_rfl) (by kernel_rfl) (by kernel_rfl) (by kernel_rfl) (fun _ _ _ h => h) (Or.inr ⟨by rfl, rfl⟩) hHeld ?_
            simp only [Act.put, Hn.p1, Hn.p2, Hn.p3]
            refine Hn.take (i := 30) (d := some 44) (v := undef) rfl (by kernel_rfl) (by kernel_rfl) (by kernel_rfl) (by kernel_rfl) (fun _ _ _ h => h) (Or.inr ⟨by rfl, rfl⟩) hHeld ?_
            simp only [Act.put, Hn.p1, Hn.p2, Hn.p3]
            refine Hn.take (i := 31) (d := some 45) (v := undef) rfl (by kernel_rfl) (by kernel_rfl) (by kernel_rfl) (by kernel_rfl) (fun _ _ _ h => h) (Or.inr ⟨by rfl, rfl⟩) hHeld ?_
            simp only [Act.put, Hn.p1, Hn.p2, Hn.p3]
            refine Hn.take (i := 32) (d := some 46) (v := undef) rfl (by kernel_rfl) (by kernel_rfl) (by kernel_rfl) (by kernel_rfl) (fun _ _ _ h => h) (Or.inr ⟨by rfl, rfl⟩) hHeld ?_
            simp only [Act.put, Hn.p1, Hn.p2, Hn.p3]
            refine Hn.take (i := 33) (d := some 47) (v := undef) rfl (by kernel_rfl) (by kernel_rfl) (by kernel_rfl) (by kernel_rfl) (fun _ _ _ h => h) (Or.inr ⟨by rfl, rfl⟩) hHeld ?_
            simp only [Act.put, Hn.p1, Hn.p2, Hn.p3]
            refine Hn.take (i := 34) (d := some 48) (v := undef) rfl (by kernel_rfl) (by kernel_rfl) (by kernel_rfl) (by kernel_rfl) (fun _ _ _ h => h) (Or.inr ⟨by rfl, rfl⟩) hHeld ?_
            simp only [Act.put, Hn.p1, Hn.p2, Hn.p3]
            refine Hn.take (i := 35) (d := some 49) (v := undef) rfl (by kernel_rfl) (by kernel_rfl) (by kernel_rfl) (by kernel_rfl) (fun _ _ _ h => h) (Or.inr ⟨by rfl, rfl⟩) hHeld ?_
            simp only [Act.put, Hn.p1, Hn.p2, Hn.p3]
            refine Hn.take (i := 36) (d := some 50) (v := .bool false) rfl (by kernel_rfl) (by kernel_rfl) (by kernel_rfl) (by kernel_rfl) (fun _ _ _ h => h) (Or.inl ⟨by rfl, by intro w hSw; go_simp⟩) hHeld ?_
            simp only [Act.put, Hn.p1, Hn.p2, Hn.p3]
            refine Hn.take (i := 37) (d := some 51) (v := .bool false) rfl (by kernel_rfl) (by kernel_rfl) (by kernel_rfl) (by kernel_rfl) (fun _ _ _ h => h) (Or.inl ⟨by rfl, by intro w hSw; go_simp⟩) hHeld ?_
            simp only [Act.put, Hn.p1, Hn.p2, Hn.p3]
            refine wpAnyH_done (by kernel_rfl) ?_ _
            go_wp2
            go_roundw
            case rel => exact ⟨0 + 1, by omega, by go_num, hbel, HX.out (by simp)⟩
            case measure => simp [intOf]; omega
      · obtain ⟨j, hj⟩ : ∃ j, k = j + 1 := ⟨k - 1, by omega⟩
        obtain ⟨E0, _, _⟩ := At3.of (hc j (by omega)) hbel (hc j (by omega)).lt
        have eu : upN T k = (oneB (T.getD k nm0).l && strLt (T.getD j nm0).s (T.getD k nm0).s) := by
          unfold upN
          have e1 : k - 1 = j := by omega
          rw [e1, decide_eq_false hk1, Bool.false_or]
        rw [eu] at HB1 HX
        have ek : IntKind.i64.wrap ((k : Int) - 1) = (j : Int) := by rw [IntKind.wrap_i64]; omega
        have hjn : (j : Int) < (n : Int) := by omega
        have hj0 : (0 : Int) ≤ (j : Int) := by omega
        have kz : (0 : Int) < (k : Int) := by omega
        have kn : 0 < k := by omega
        clear eu hc ho hh hk1 hj hst
        generalize T.getD k nm0 = y at A0 A1 A2 o1 HB1 HX hst1
        generalize T.getD j nm0 = x at E0 HB1 HX
        obtain ⟨ys, yr, ya, yb, yo, yc, yQ⟩ := y
        obtain ⟨xs, xr, xa, xb, xo, xc, xQ⟩ := x
        simp only [Nm.l, oneB, strLt] at A0 A1 A2 o1 HB1 HX hst1 E0
        have hW := fun W => specWord_bel ys W hst1
        have hR := fun W h => Rl.relS_any yr ya yb yo yc yQ W h
        have hH : Hold w.heap.size b (off + k * 3) (.slice (some ⟨b, off, none⟩) n cap) ys yr (.slice ya yQ.length yc) (off + j * 3) xs wr := ⟨p0, A0, A1, A2, E0⟩
        clear A0 A1 A2 E0
        generalize relB yr (said yQ) = rb at hR HB1 HX
        cases hw : wordB ys with
        | false =>
          rw [hw] at hW HB1
          go_wp2
          refine wp_region_held_drew (S := Hold w.heap.size b (off + k * 3) (.slice (some ⟨b, off, none⟩) n cap) ys yr (.slice ya yQ.length yc) (off + j * 3) xs) (by kernel_rfl) hH (fun hHeld => ?_)
          replace hbel := Rw.next hbel ((Below.refl _ _).drew)
          replace o1 := o1.below ((Below.refl _ _).drew)
          refine Hn.take (i := 0) (d := some 14) (v := .pointer (some ⟨w.heap.size, 0, none⟩)) rfl (by kernel_rfl) (by kernel_rfl) (by kernel_rfl) (by kernel_rfl) (fun _ _ _ h => h) (Or.inl ⟨by rfl, by intro w hSw; go_simp⟩) hHeld ?_
          simp only [Act.put, Hn.p1, Hn.p2, Hn.p3]
          refine Hn.take (i := 1) (d := some 15) (v := .slice (some ⟨b, off, none⟩) n cap) rfl (by kernel_rfl) (by kernel_rfl) (by kernel_rfl) (by kernel_rfl) (fun _ _ _ h => h) (Or.inl ⟨by rfl, by intro w hSw; obtain ⟨c0, c1, c2, c3, c4⟩ := hSw; go_simp⟩) hHeld ?_
          simp only [Act.put, Hn.p1, Hn.p2, Hn.p3]
          refine Hn.take (i := 2) (d := some 16) (v := .int .i64 k) rfl (by kernel_rfl) (by kernel_rfl) (by kernel_rfl) (by kernel_rfl) (fun _ _ _ h => h) (Or.inl ⟨by rfl, by intro w hSw; go_simp⟩) hHeld ?_
          simp only [Act.put, Hn.p1, Hn.p2, Hn.p3]
          refine Hn.take (i := 3) (d := some 17) (v := .pointer (some ⟨b, off + k * 3, none⟩)) rfl (by kernel_rfl) (by kernel_rfl) (by kernel_rfl) (by kernel_rfl) (fun _ _ _ h => h) (Or.inl ⟨by rfl, by intro w hSw; go_simp⟩) hHeld ?_
          simp only [Act.put, Hn.p1, Hn.p2, Hn.p3]
          refine Hn.take (i := 4) (d := some 18) (v := .pointer (some ⟨b, off + k * 3, none⟩)) rfl (by kernel_rfl) (by kernel_rfl) (by kernel_rfl) (by kernel_rfl) (fun _ _ _ h => h) (Or.inl ⟨by rfl, by intro w hSw; go_simp⟩) hHeld ?_
          simp only [Act.put, Hn.p1, Hn.p2, Hn.p3]
          refine Hn.take (i := 5) (d := some 19) (v := .string ys) rfl (by kernel_rfl) (by kernel_rfl) (by kernel_rfl) (by kernel_rfl) (fun _ _ _ h => h) (Or.inl ⟨by rfl, by intro w hSw; obtain ⟨c0, c1, c2, c3, c4⟩ := hSw; go_simp⟩) hHeld ?_
          simp only [Act.put, Hn.p1, Hn.p2, Hn.p3]
          refine wpAnyH_ready (rs := [6]) (by kernel_rfl) (by simp) (Hn.call1 (i := 6) rfl (by rfl) 81 (.tmp 19) 9 (by kernel_rfl) 20 (by kernel_rfl) (.string ys) (by kernel_rfl) (fun _ => rfl) (hW _) ?_ AllReadyH.nil)
          rintro e w1 ⟨rfl, hb⟩
          refine ⟨_, rfl, hHeld.below hb, fun hHeld => ?_⟩
          replace hbel := Rw.next hbel hb
          replace o1 := o1.below hb
          clear hb
          simp only [Act.put, Hn.p1, Hn.p2, Hn.p3]
          refine Hn.take (i := 7) (d := some 21) (v := .bool true) rfl (by kernel_rfl) (by kernel_rfl) (by kernel_rfl) (by kernel_rfl) (fun _ _ _ h => h) (Or.inl ⟨by rfl, by intro w hSw; go_simp⟩) hHeld ?_
          simp only [Act.put, Hn.p1, Hn.p2, Hn.p3]
          refine Hn.take (i := 8) (d := some 22) (v := .bool true) rfl (by kernel_rfl) (by kernel_rfl) (by kernel_rfl) (by kernel_rfl) (fun _ _ _ h => h) (Or.inl ⟨by rfl, by intro w hSw; go_simp⟩) hHeld ?_
          simp only [Act.put, Hn.p1, Hn.p2, Hn.p3]
          refine Hn.take (i := 9) (d := some 23) (v := undef) rfl (by kernel_rfl) (by kernel_rfl) (by kernel_rfl) (by kernel_rfl) (fun _ _ _ h => h) (Or.inr ⟨by rfl, rfl⟩) hHeld ?_
          simp only [Act.put, Hn.p1, Hn.p2, Hn.p3]
          refine Hn.take (i := 10) (d := some 24) (v := undef) rfl (by kernel_rfl) (by kernel_rfl) (by kernel_rfl) (by kernel_rfl) (fun _ _ _ h => h) (Or.inr ⟨by rfl, rfl⟩) hHeld ?_
          simp only [Act.put, Hn.p1, Hn.p2, Hn.p3]
          refine Hn.take (i := 11) (d := some 25) (v := undef) rfl (by kernel_rfl) (by kernel_rfl) (by kernel_rfl) (by kernel_rfl) (fun _ _ _ h => h) (Or.inr ⟨by rfl, rfl⟩) hHeld ?_
          simp only [Act.put, Hn.p1, Hn.p2, Hn.p3]
          refine Hn.take (i := 12) (d := some 26) (v := undef) rfl (by kernel_rfl) (by kernel_rfl) (by kernel_rfl) (by kernel_rfl) (fun _ _ _ h => h) (Or.inr ⟨by rfl, rfl⟩) hHeld ?_
          simp only [Act.put, Hn.p1, Hn.p2, Hn.p3]
          refine Hn.take (i := 13) (d := some 27) (v := undef) rfl (by kernel_rfl) (by kernel_rfl) (by kernel_rfl) (by kernel_rfl) (fun _ _ _ h => h) (Or.inr ⟨by rfl, rfl⟩) hHeld ?_
          simp only [Act.put, Hn.p1, Hn.p2, Hn.p3]
          refine Hn.take (i := 14) (d := some 28) (v := undef) rfl (by kernel_rfl) (by kernel_rfl) (by kernel_rfl) (by kernel_rfl) (fun _ _ _ h => h) (Or.inr ⟨by rfl, rfl⟩) hHeld ?_
          simp only [Act.put, Hn.p1, Hn.p2, Hn.p3]
          refine Hn.take (i := 15) (d := some 29) (v := undef) rfl (by kernel_rfl) (by kernel_rfl) (by kernel_rfl) (by kernel_rfl) (fun _ _ _ h => h) (Or.inr ⟨by rfl, rfl⟩) hHeld ?_
          simp only [Act.put, Hn.p1, Hn.p2, Hn.p3]
          refine Hn.take (i := 16) (d := some 30) (v := undef) rfl (by kernel_rfl) (by kernel_rfl) (by kernel_rfl) (by kernel_rfl) (fun _ _ _ h => h) (Or.inr ⟨by rfl, rfl⟩) hHeld ?_
          simp only [Act.put, Hn.p1, Hn.p2, Hn.p3]
          refine Hn.take (i := 17) (d := some 31) (v := .bool true) rfl (by kernel_rfl) (by kernel_rfl) (by kernel_rfl) (by kernel_rfl) (fun _ _ _ h => h) (Or.inl ⟨by rfl, by intro w hSw; go_simp⟩) hHeld ?_
          simp only [Act.put, Hn.p1, Hn.p2, Hn.p3]
          refine Hn.take (i := 18) (d := some 32) (v := .bool true) rfl (by kernel_rfl) (by kernel_rfl) (by kernel_rfl) (by kernel_rfl) (fun _ _ _ h => h) (Or.inl ⟨by rfl, by intro w hSw; go_simp⟩) hHeld ?_
          simp only [Act.put, Hn.p1, Hn.p2, Hn.p3]
          refine Hn.take (i := 19) (d := some 33) (v := undef) rfl (by kernel_rfl) (by kernel_rfl) (by kernel_rfl) (by kernel_rfl) (fun _ _ _ h => h) (Or.inr ⟨by rfl, rfl⟩) hHeld ?_
          simp only [Act.put, Hn.p1, Hn.p2, Hn.p3]
          refine Hn.take (i := 20) (d := some 34) (v := undef) rfl (by kernel_rfl) (by kernel_rfl) (by kernel_rfl) (by kernel_rfl) (fun _ _ _ h => h) (Or.inr ⟨by rfl, rfl⟩) hHeld ?_
          simp only [Act.put, Hn.p1, Hn.p2, Hn.p3]
          refine Hn.take (i := 21) (d := some 35) (v := undef) rfl (by kernel_rfl) (by kernel_rfl) (by kernel_rfl) (by kernel_rfl) (fun _ _ _ h => h) (Or.inr ⟨by rfl, rfl⟩) hHeld ?_
          simp only [Act.put, Hn.p1, Hn.p2, Hn.p3]
          refine Hn.take (i := 22) (d := some 36) (v := undef) rfl (by kernel_rfl) (by kernel_rfl) (by kernel_rfl) (by kernel_rfl) (fun _ _ _ h => h) (Or.inr ⟨by rfl, rfl⟩) hHeld ?_
          simp only [Act.put, Hn.p1, Hn.p2, Hn.p3]
          refine Hn.take (i := 23) (d := some 37) (v := undef) rfl (by kernel_rfl) (by kernel_rfl) (by kernel_rfl) (by kernel_rfl) (fun _ _ _ h => h) (Or.inr ⟨by rfl, rfl⟩) hHeld ?_
          simp only [Act.put, Hn.p1, Hn.p2, Hn.p3]
          refine Hn.take (i := 24) (d := some 38) (v := undef) rfl (by kernel_rfl) (by kernel_rfl) (by kernel_rfl) (by kernel_rfl) (fun _ _ _ h => h) (Or.inr ⟨by rfl, rfl⟩) hHeld ?_
          simp only [Act.put, Hn.p1, Hn.p2, Hn.p3]
          refine Hn.take (i := 25) (d := some 39) (v := undef) rfl (by kernel_rfl) (by kernel_rfl) (by kernel_rfl) (by kernel_rfl) (fun _ _ _ h => h) (Or.inr ⟨by rfl, rfl⟩) hHeld ?_
          simp only [Act.put, Hn.p1, Hn.p2, Hn.p3]
          refine Hn.take (i := 26) (d := some 40) (v := undef) rfl (by kernel_rfl) (by kernel_rfl) (by kernel_rfl) (by kernel_rfl) (fun _ _ _ h => h) (Or.inr ⟨by rfl, rfl⟩) hHeld ?_
          simp only [Act.put, Hn.p1, Hn.p2, Hn.p3]
          refine Hn.take (i := 27) (d := some 41) (v := undef) rfl (by kernel_rfl) (by kernel_rfl) (by kernel_rfl) (by kernel_rfl) (fun _ _ _ h => h) (Or.inr ⟨by rfl, rfl⟩) hHeld ?_
          simp only [Act.put, Hn.p1, Hn.p2, Hn.p3]
          refine Hn.take (i := 28) (d := some 42) (v := undef) rfl (by kernel_rfl) (by kernel_rfl) (by kernel_rfl) (by kernel_rfl) (fun _ _ _ h => h) (Or.inr ⟨by rfl, rfl⟩) hHeld ?_
          simp only [Act.put, Hn.p1, Hn.p2, Hn.p3]
          refine Hn.take (i := 29) (d := some 43) (v := undef) rfl (by kernel_rfl) (by kernel_rfl) (by kernel_rfl) (by kernel_rfl) (fun _ _ _ h => h) (Or.inr ⟨by rfl, rfl⟩) hHeld ?_
          simp only [Act.put, Hn.p1, Hn.p2, Hn.p3]
          refine Hn.take (i := 30) (d := some 44) (v := undef) rfl (by kernel_rfl) (by kernel_rfl) (by kernel_rfl) (by kernel_rfl) (fun _ _ _ h => h) (Or.inr ⟨by rfl, rfl⟩) hHeld ?_
          simp only [Act.put, Hn.p1, Hn.p2, Hn.p3]
          refine Hn.take (i := 31) (d := some 45) (v := undef) rfl (by kernel_rfl) (by kernel_rfl) (by kernel_rfl) (by kernel_rfl) (fun _ _ _ h => h) (Or.inr ⟨by rfl, rfl⟩) hHeld ?_
          simp only [Act.put, Hn.p1, Hn.p2, Hn.p3]
          refine Hn.take (i := 32) (d := some 46) (v := undef) rfl (by kernel_rfl) (by kernel_rfl) (by kernel_rfl) (by kernel_rfl) (fun _ _ _ h => h) (Or.inr ⟨by rfl, rfl⟩) hHeld ?_
          simp only [Act.put, Hn.p1, Hn.p2, Hn.p3]
          refine Hn.take (i := 33) (d := some 47) (v := undef) rfl (by kernel_rfl) (by kernel_rfl) (by kernel_rfl) (by kernel_rfl) (fun _ _ _ h => h) (Or.inr ⟨by rfl, rfl⟩) hHeld ?_
          simp only [Act.put, Hn.p1, Hn.p2, Hn.p3]
          refine Hn.take (i := 34) (d := some 48) (v := undef) rfl (by kernel_rfl) (by kernel_rfl) (by kernel_rfl) (by kernel_rfl) (fun _ _ _ h => h) (Or.inr ⟨by rfl, rfl⟩) hHeld ?_
          simp only [Act.put, Hn.p1, Hn.p2, Hn.p3]
          refine Hn.take (i := 35) (d := some 49) (v := undef) rfl (by kernel_rfl) (by kernel_rfl) (by kernel_rfl) (by kernel_rfl) (fun _ _ _ h => h) (Or.inr ⟨by rfl, rfl⟩) hHeld ?_
          simp only [Act.put, Hn.p1, Hn.p2, Hn.p3]
          refine Hn.take (i := 36) (d := some 50) (v := undef) rfl (by kernel_rfl) (by kernel_rfl) (by kernel_rfl) (by kernel_rfl) (fun _ _ _ h => h) (Or.inr ⟨by rfl, rfl⟩) hHeld ?_
          simp only [Act.put, Hn.p1, Hn.p2, Hn.p3]
          refine Hn.take (i := 37) (d := some 51) (v := .bool true) rfl (by kernel_rfl) (by kernel_rfl) (by kernel_rfl) (by kernel_rfl) (fun _ _ _ h => h) (Or.inl ⟨by rfl, by intro w hSw; go_simp⟩) hHeld ?_
          simp only [Act.put, Hn.p1, Hn.p2, Hn.p3]
          refine wpAnyH_done (by kernel_rfl) ?_ _
          go_wp2
          go_ret
          exact ⟨ret_bool (HB1.out (by simp)).symm, Rw.next B1 hbel⟩
        | true =>
          rw [hw] at hW HB1 HX
          cases rb with
          | false =>
            go_wp2
            refine wp_region_held_drew (S := Hold w.heap.size b (off + k * 3) (.slice (some ⟨b, off, none⟩) n cap) ys yr (.slice ya yQ.length yc) (off + j * 3) xs) (by kernel_rfl) hH (fun hHeld => ?_)
            replace hbel := Rw.next hbel ((Below.refl _ _).drew)
            replace o1 := o1.below ((Below.refl _ _).drew)
            refine Hn.take (i := 0) (d := some 14) (v := .pointer (some ⟨w.heap.size, 0, none⟩)) rfl (by kernel_rfl) (by kernel_rfl) (by kernel_rfl) (by kernel_rfl) (fun _ _ _ h => h) (Or.inl ⟨by rfl, by intro w hSw; go_simp⟩) hHeld ?_
            simp only [Act.put, Hn.p1, Hn.p2, Hn.p3]
            refine Hn.take (i := 1) (d := some 15) (v := .slice (some ⟨b, off, none⟩) n cap) rfl (by kernel_rfl) (by kernel_rfl) (by kernel_rfl) (by kernel_rfl) (fun _ _ _ h => h) (Or.inl ⟨by rfl, by intro w hSw; obtain ⟨c0, c1, c2, c3, c4⟩ := hSw; go_simp⟩) hHeld ?_
            simp only [Act.put, Hn.p1, Hn.p2, Hn.p3]
            refine Hn.take (i := 2) (d := some 16) (v := .int .i64 k) rfl (by kernel_rfl) (by kernel_rfl) (by kernel_rfl) (by kernel_rfl) (fun _ _ _ h => h) (Or.inl ⟨by rfl, by intro w hSw; go_simp⟩) hHeld ?_
            simp only [Act.put, Hn.p1, Hn.p2, Hn.p3]
            refine Hn.take (i := 3) (d := some 17) (v := .pointer (some ⟨b, off + k * 3, none⟩)) rfl (by kernel_rfl) (by kernel_rfl) (by kernel_rfl) (by kernel_rfl) (fun _ _ _ h => h) (Or.inl ⟨by rfl, by intro w hSw; go_simp⟩) hHeld ?_
            simp only [Act.put, Hn.p1, Hn.p2, Hn.p3]
            refine Hn.take (i := 4) (d := some 18) (v := .pointer (some ⟨b, off + k * 3, none⟩)) rfl (by kernel_rfl) (by kernel_rfl) (by kernel_rfl) (by kernel_rfl) (fun _ _ _ h => h) (Or.inl ⟨by rfl, by intro w hSw; go_simp⟩) hHeld ?_
            simp only [Act.put, Hn.p1, Hn.p2, Hn.p3]
            refine Hn.take (i := 5) (d := some 19) (v := .string ys) rfl (by kernel_rfl) (by kernel_rfl) (by kernel_rfl) (by kernel_rfl) (fun _ _ _ h => h) (Or.inl ⟨by rfl, by intro w hSw; obtain ⟨c0, c1, c2, c3, c4⟩ := hSw; go_simp⟩) hHeld ?_
            simp only [Act.put, Hn.p1, Hn.p2, Hn.p3]
            refine wpAnyH_ready (rs := [6]) (by kernel_rfl) (by simp) (Hn.call1 (i := 6) rfl (by rfl) 81 (.tmp 19) 9 (by kernel_rfl) 20 (by kernel_rfl) (.string ys) (by kernel_rfl) (fun _ => rfl) (hW _) ?_ AllReadyH.nil)
            rintro e w1 ⟨rfl, hb⟩
            refine ⟨_, rfl, hHeld.below hb, fun hHeld => ?_⟩
            replace hbel := Rw.next hbel hb
            replace o1 := o1.below hb
            clear hb
            simp only [Act.put, Hn.p1, Hn.p2, Hn.p3]
            refine Hn.take (i := 7) (d := some 21) (v := .bool false) rfl (by kernel_rfl) (by kernel_rfl) (by kernel_rfl) (by kernel_rfl) (fun _ _ _ h => h) (Or.inl ⟨by rfl, by intro w hSw; go_simp⟩) hHeld ?_
            simp only [Act.put, Hn.p1, Hn.p2, Hn.p3]
            refine Hn.take (i := 8) (d := some 22) (v := .bool false) rfl (by kernel_rfl) (by kernel_rfl) (by kernel_rfl) (by kernel_rfl) (fun _ _ _ h => h) (Or.inl ⟨by rfl, by intro w hSw; go_simp⟩) hHeld ?_
            simp only [Act.put, Hn.p1, Hn.p2, Hn.p3]
            refine Hn.take (i := 9) (d := some 23) (v := .pointer (some ⟨w.heap.size, 0, none⟩)) rfl (by kernel_rfl) (by kernel_rfl) (by kernel_rfl) (by kernel_rfl) (fun _ _ _ h => h) (Or.inl ⟨by rfl, by intro w hSw; go_simp⟩) hHeld ?_
            simp only [Act.put, Hn.p1, Hn.p2, Hn.p3]
            refine Hn.take (i := 10) (d := some 24) (v := .slice (some ⟨b, off, none⟩) n cap) rfl (by kernel_rfl) (by kernel_rfl) (by kernel_rfl) (by kernel_rfl) (fun _ _ _ h => h) (Or.inl ⟨by rfl, by intro w hSw; obtain ⟨c0, c1, c2, c3, c4⟩ := hSw; go_simp⟩) hHeld ?_
            simp only [Act.put, Hn.p1, Hn.p2, Hn.p3]
            refine Hn.take (i := 11) (d := some 25) (v := .int .i64 k) rfl (by kernel_rfl) (by kernel_rfl) (by kernel_rfl) (by kernel_rfl) (fun _ _ _ h => h) (Or.inl ⟨by rfl, by intro w hSw; go_simp⟩) hHeld ?_
            simp only [Act.put, Hn.p1, Hn.p2, Hn.p3]
            refine Hn.take (i := 12) (d := some 26) (v := .pointer (some ⟨b, off + k * 3, none⟩)) rfl (by kernel_rfl) (by kernel_rfl) (by kernel_rfl) (by kernel_rfl) (fun _ _ _ h => h) (Or.inl ⟨by rfl, by intro w hSw; go_simp⟩) hHeld ?_
            simp only [Act.put, Hn.p1, Hn.p2, Hn.p3]
            refine Hn.take (i := 13) (d := some 27) (v := .pointer (some ⟨b, off + k * 3 + 1, none⟩)) rfl (by kernel_rfl) (by kernel_rfl) (by kernel_rfl) (by kernel_rfl) (fun _ _ _ h => h) (Or.inl ⟨by rfl, by intro w hSw; go_simp⟩) hHeld ?_
            simp only [Act.put, Hn.p1, Hn.p2, Hn.p3]
            refine Hn.take (i := 14) (d := some 28) (v := .agg #[.int .i64 yr, .slice ya yQ.length yc]) rfl (by kernel_rfl) (by kernel_rfl) (by kernel_rfl) (by kernel_rfl) (fun _ _ _ h => h) (Or.inl ⟨by rfl, by intro w hSw; obtain ⟨c0, c1, c2, c3, c4⟩ := hSw; go_simp⟩) hHeld ?_
            simp only [Act.put, Hn.p1, Hn.p2, Hn.p3]
            refine wpAnyH_ready (rs := [15]) (by kernel_rfl) (by simp) (Hn.call1 (i := 15) rfl (by rfl) 82 (.tmp 28) 67 (by kernel_rfl) 29 (by kernel_rfl) (.agg #[.int .i64 yr, .slice ya yQ.length yc]) (by kernel_rfl) (fun _ => rfl) (hR _ o1) ?_ AllReadyH.nil)
            rintro e w2 ⟨rfl, hb⟩
            refine ⟨_, rfl, hHeld.below hb, fun hHeld => ?_⟩
            replace hbel := Rw.next hbel hb
            clear hb
            simp only [Act.put, Hn.p1, Hn.p2, Hn.p3]
            refine Hn.take (i := 16) (d := some 30) (v := .bool true) rfl (by kernel_rfl) (by kernel_rfl) (by kernel_rfl) (by kernel_rfl) (fun _ _ _ h => h) (Or.inl ⟨by rfl, by intro w hSw; go_simp⟩) hHeld ?_
            simp only [Act.put, Hn.p1, Hn.p2, Hn.p3]
            refine Hn.take (i := 17) (d := some 31) (v := .bool true) rfl (by kernel_rfl) (by kernel_rfl) (by kernel_rfl) (by kernel_rfl) (fun _ _ _ h => h) (Or.inl ⟨by rfl, by intro w hSw; go_simp⟩) hHeld ?_
            simp only [Act.put, Hn.p1, Hn.p2, Hn.p3]
            refine Hn.take (i := 18) (d := some 32) (v := .bool true) rfl (by kernel_rfl) (by kernel_rfl) (by kernel_rfl) (by kernel_rfl) (fun _ _ _ h => h) (Or.inl ⟨by rfl, by intro w hSw; go_simp⟩) hHeld ?_
            simp only [Act.put, Hn.p1, Hn.p2, Hn.p3]
            refine Hn.take (i := 19) (d := some 33) (v := undef) rfl (by kernel_rfl) (by kernel_rfl) (by kernel_rfl) (by kernel_rfl) (fun _ _ _ h => h) (Or.inr ⟨by rfl, rfl⟩) hHeld ?_
            simp only [Act.put, Hn.p1, Hn.p2, Hn.p3]
            refine Hn.take (i := 20) (d := some 34) (v := undef) rfl (by kernel_rfl) (by kernel_rfl) (by kernel_rfl) (by kernel_rfl) (fun _ _ _ h => h) (Or.inr ⟨by rfl, rfl⟩) hHeld ?_
            simp only [Act.put, Hn.p1, Hn.p2, Hn.p3]
            refine Hn.take (i := 21) (d := some 35) (v := undef) rfl (by kernel_rfl) (by kernel_rfl) (by kernel_rfl) (by kernel_rfl) (fun _ _ _ h => h) (Or.inr ⟨by rfl, rfl⟩) hHeld ?_
            simp only [Act.put, Hn.p1, Hn.p2, Hn.p3]
            refine Hn.take (i := 22) (d := some 36) (v := undef) rfl (by kernel_rfl) (by kernel_rfl) (by kernel_rfl) (by kernel_rfl) (fun _ _ _ h => h) (Or.inr ⟨by rfl, rfl⟩) hHeld ?_
            simp only [Act.put, Hn.p1, Hn.p2, Hn.p3]
            refine Hn.take (i := 23) (d := some 37) (v := undef) rfl (by kernel_rfl) (by kernel_rfl) (by kernel_rfl) (by kernel_rfl) (fun _ _ _ h => h) (Or.inr ⟨by rfl, rfl⟩) hHeld ?_
            simp only [Act.put, Hn.p1, Hn.p2, Hn.p3]
            refine Hn.take (i := 24) (d := some 38) (v := undef) rfl (by kernel_rfl) (by kernel_rfl) (by kernel_rfl) (by kernel_rfl) (fun _ _ _ h => h) (Or.inr ⟨by rfl, rfl⟩) hHeld ?_
            simp only [Act.put, Hn.p1, Hn.p2, Hn.p3]
            refine Hn.take (i := 25) (d := some 39) (v := undef) rfl (by kernel_rfl) (by kernel_rfl) (by kernel_rfl) (by kernel_rfl) (fun _ _ _ h => h) (Or.inr ⟨by rfl, rfl⟩) hHeld ?_
            simp only [Act.put, Hn.p1, Hn.p2, Hn.p3]
            refine Hn.take (i := 26) (d := some 40) (v := undef) rfl (by kernel_rfl) (by kernel_rfl) (by kernel_rfl) (by kernel_rfl) (fun _ _ _ h => h) (Or.inr ⟨by rfl, rfl⟩) hHeld ?_
            simp only [Act.put, Hn.p1, Hn.p2, Hn.p3]
            refine Hn.take (i := 27) (d := some 41) (v := undef) rfl (by kernel_rfl) (by kernel_rfl) (by kernel_rfl) (by kernel_rfl) (fun _ _ _ h => h) (Or.inr ⟨by rfl, rfl⟩) hHeld ?_
            simp only [Act.put, Hn.p1, Hn.p2, Hn.p3]
            refine Hn.take (i := 28) (d := some 42) (v := undef) rfl (by kernel_rfl) (by kernel_rfl) (by kernel_rfl) (by kernel_rfl) (fun _ _ _ h => h) (Or.inr ⟨by rfl, rfl⟩) hHeld ?_
            simp only [Act.put, Hn.p1, Hn.p2, Hn.p3]
            refine Hn.take (i := 29) (d := some 43) (v := undef) rfl (by kernel_rfl) (by kernel_rfl) (by kernel_rfl) (by kernel_rfl) (fun _ _ _ h => h) (Or.inr ⟨by rfl, rfl⟩) hHeld ?_
            simp only [Act.put, Hn.p1, Hn.p2, Hn.p3]
            refine Hn.take (i := 30) (d := some 44) (v := undef) rfl (by kernel_rfl) (by kernel_rfl) (by kernel_rfl) (by kernel_rfl) (fun _ _ _ h => h) (Or.inr ⟨by rfl, rfl⟩) hHeld ?_
            simp only [Act.put, Hn.p1, Hn.p2, Hn.p3]
            refine Hn.take (i := 31) (d := some 45) (v := undef) rfl (by kernel_rfl) (by kernel_rfl) (by kernel_rfl) (by kernel_rfl) (fun _ _ _ h => h) (Or.inr ⟨by rfl, rfl⟩) hHeld ?_
            simp only [Act.put, Hn.p1, Hn.p2, Hn.p3]
            refine Hn.take (i := 32) (d := some 46) (v := undef) rfl (by kernel_rfl) (by kernel_rfl) (by kernel_rfl) (by kernel_rfl) (fun _ _ _ h => h) (Or.inr ⟨by rfl, rfl⟩) hHeld ?_
            simp only [Act.put, Hn.p1, Hn.p2, Hn.p3]
            refine Hn.take (i := 33) (d := some 47) (v := undef) rfl (by kernel_rfl) (by kernel_rfl) (by kernel_rfl) (by kernel_rfl) (fun _ _ _ h => h) (Or.inr ⟨by rfl, rfl⟩) hHeld ?_
            simp only [Act.put, Hn.p1, Hn.p2, Hn.p3]
            refine Hn.take (i := 34) (d := some 48) (v := undef) rfl (by kernel_rfl) (by kernel_rfl) (by kernel_rfl) (by kernel_rfl) (fun _ _ _ h => h) (Or.inr ⟨by rfl, rfl⟩) hHeld ?_
            simp only [Act.put, Hn.p1, Hn.p2, Hn.p3]
            refine Hn.take (i := 35) (d := some 49) (v := undef) rfl (by kernel_rfl) (by kernel_rfl) (by kernel_rfl) (by kernel_rfl) (fun _ _ _ h => h) (Or.inr ⟨by rfl, rfl⟩) hHeld ?_
            simp only [Act.put, Hn.p1, Hn.p2, Hn.p3]
            refine Hn.take (i := 36) (d := some 50) (v := undef) rfl (by kernel_rfl) (by kernel_rfl) (by kernel_rfl) (by kernel_rfl) (fun _ _ _ h => h) (Or.inr ⟨by rfl, rfl⟩) hHeld ?_
            simp only [Act.put, Hn.p1, Hn.p2, Hn.p3]
            refine Hn.take (i := 37) (d := some 51) (v := .bool true) rfl (by kernel_rfl) (by kernel_rfl) (by kernel_rfl) (by kernel_rfl) (fun _ _ _ h => h) (Or.inl ⟨by rfl, by intro w hSw; go_simp⟩) hHeld ?_
            simp only [Act.put, Hn.p1, Hn.p2, Hn.p3]
            refine wpAnyH_done (by kernel_rfl) ?_ _
            go_wp2
            go_ret
            exact ⟨ret_bool (HB1.out (by simp)).symm, Rw.next B1 hbel⟩
          | true =>
            cases hless : Op.bytesLess xs.toList ys.toList with
            | false =>
              rw [hless] at HB1
              go_wp2
              refine wp_region_held_drew (S := Hold w.heap.size b (off + k * 3) (.slice (some ⟨b, off, none⟩) n cap) ys yr (.slice ya yQ.length yc) (off + j * 3) xs) (by kernel_rfl) hH (fun hHeld => ?_)
              replace hbel := Rw.next hbel ((Below.refl _ _).drew)
              replace o1 := o1.below ((Below.refl _ _).drew)
              refine Hn.take (i := 0) (d := some 14) (v := .pointer (some ⟨w.heap.size, 0, none⟩)) rfl (by kernel_rfl) (by kernel_rfl) (by kernel_rfl) (by kernel_rfl) (fun _ _ _ h => h) (Or.inl ⟨by rfl, by intro w hSw; go_simp⟩) hHeld ?_
              simp only [Act.put, Hn.p1, Hn.p2, Hn.p3]
              refine Hn.take (i := 1) (d := some 15) (v := .slice (some ⟨b, off, none⟩) n cap) rfl (by kernel_rfl) (by kernel_rfl) (by kernel_rfl) (by kernel_rfl) (fun _ _ _ h => h) (Or.inl ⟨by rfl, by intro w hSw; obtain ⟨c0, c1, c2, c3, c4⟩ := hSw; go_simp⟩) hHeld ?_
              simp only [Act.put, Hn.p1, Hn.p2, Hn.p3]
              refine Hn.take (i := 2) (d := some 16) (v := .int .i64 k) rfl (by kernel_rfl) (by kernel_rfl) (by kernel_rfl) (by kernel_rfl) (fun _ _ _ h => h) (Or.inl ⟨by rfl, by intro w hSw; go_simp⟩) hHeld ?_
              simp only [Act.put, Hn.p1, Hn.p2, Hn.p3]
              refine Hn.take (i := 3) (d := some 17) (v := .pointer (some ⟨b, off + k * 3, none⟩)) rfl (by kernel_rfl) (by kernel_rfl) (by kernel_rfl) (by kernel_rfl) (fun _ _ _ h => h) (Or.inl ⟨by rfl, by intro w hSw; go_simp⟩) hHeld ?_
              simp only [Act.put, Hn.p1, Hn.p2, Hn.p3]
              refine Hn.take (i := 4) (d := some 18) (v := .pointer (some ⟨b, off + k * 3, none⟩)) rfl (by kernel_rfl) (by kernel_rfl) (by kernel_rfl) (by kernel_rfl) (fun _ _ _ h => h) (Or.inl ⟨by rfl, by intro w hSw; go_simp⟩) hHeld ?_
              simp only [Act.put, Hn.p1, Hn.p2, Hn.p3]
              refine Hn.take (i := 5) (d := some 19) (v := .string ys) rfl (by kernel_rfl) (by kernel_rfl) (by kernel_rfl) (by kernel_rfl) (fun _ _ _ h => h) (Or.inl ⟨by rfl, by intro w hSw; obtain ⟨c0, c1, c2, c3, c4⟩ := hSw; go_simp⟩) hHeld ?_
              simp only [Act.put, Hn.p1, Hn.p2, Hn.p3]
              refine wpAnyH_ready (rs := [6]) (by kernel_rfl) (by simp) (Hn.call1 (i := 6) rfl (by rfl) 81 (.tmp 19) 9 (by kernel_rfl) 20 (by kernel_rfl) (.string ys) (by kernel_rfl) (fun _ => rfl) (hW _) ?_ AllReadyH.nil)
              rintro e w1 ⟨rfl, hb⟩
              refine ⟨_, rfl, hHeld.below hb, fun hHeld => ?_⟩
              replace hbel := Rw.next hbel hb
              replace o1 := o1.below hb
              clear hb
              simp only [Act.put, Hn.p1, Hn.p2, Hn.p3]
              refine Hn.take (i := 7) (d := some 21) (v := .bool false) rfl (by kernel_rfl) (by kernel_rfl) (by kernel_rfl) (by kernel_rfl) (fun _ _ _ h => h) (Or.inl ⟨by rfl, by intro w hSw; go_simp⟩) hHeld ?_
              simp only [Act.put, Hn.p1, Hn.p2, Hn.p3]
              refine Hn.take (i := 8) (d := some 22) (v := .bool false) rfl (by kernel_rfl) (by kernel_rfl) (by kernel_rfl) (by kernel_rfl) (fun _ _ _ h => h) (Or.inl ⟨by rfl, by intro w hSw; go_simp⟩) hHeld ?_
              simp only [Act.put, Hn.p1, Hn.p2, Hn.p3]
              refine Hn.take (i := 9) (d := some 23) (v := .pointer (some ⟨w.heap.size, 0, none⟩)) rfl (by kernel_rfl) (by kernel_rfl) (by kernel_rfl) (by kernel_rfl) (fun _ _ _ h => h) (Or.inl ⟨by rfl, by intro w hSw; go_simp⟩) hHeld ?_
              simp only [Act.put, Hn.p1, Hn.p2, Hn.p3]
              refine Hn.take (i := 10) (d := some 24) (v := .slice (some ⟨b, off, none⟩) n cap) rfl (by kernel_rfl) (by kernel_rfl) (by kernel_rfl) (by kernel_rfl) (fun _ _ _ h => h) (Or.inl ⟨by rfl, by intro w hSw; obtain ⟨c0, c1, c2, c3, c4⟩ := hSw; go_simp⟩) hHeld ?_
              simp only [Act.put, Hn.p1, Hn.p2, Hn.p3]
              refine Hn.take (i := 11) (d := some 25) (v := .int .i64 k) rfl (by kernel_rfl) (by kernel_rfl) (by kernel_rfl) (by kernel_rfl) (fun _ _ _ h => h) (Or.inl ⟨by rfl, by intro w hSw; go_simp⟩) hHeld ?_
              simp only [Act.put, Hn.p1, Hn.p2, Hn.p3]
              refine Hn.take (i := 12) (d := some 26) (v := .pointer (some ⟨b, off + k * 3, none⟩)) rfl (by kernel_rfl) (by kernel_rfl) (by kernel_rfl) (by kernel_rfl) (fun _ _ _ h => h) (Or.inl ⟨by rfl, by intro w hSw; go_simp⟩) hHeld ?_
              simp only [Act.put, Hn.p1, Hn.p2, Hn.p3]
              refine Hn.take (i := 13) (d := some 27) (v := .pointer (some ⟨b, off + k * 3 + 1, none⟩)) rfl (by kernel_rfl) (by kernel_rfl) (by kernel_rfl) (by kernel_rfl) (fun _ _ _ h => h) (Or.inl ⟨by rfl, by intro w hSw; go_simp⟩) hHeld ?_
              simp only [Act.put, Hn.p1, Hn.p2, Hn.p3]
              refine Hn.take (i := 14) (d := some 28) (v := .agg #[.int .i64 yr, .slice ya yQ.length yc]) rfl (by kernel_rfl) (by kernel_rfl) (by kernel_rfl) (by kernel_rfl) (fun _ _ _ h => h) (Or.inl ⟨by rfl, by intro w hSw; obtain ⟨c0, c1, c2, c3, c4⟩ := hSw; go_simp⟩) hHeld ?_
              simp only [Act.put, Hn.p1, Hn.p2, Hn.p3]
              refine wpAnyH_ready (rs := [15]) (by kernel_rfl) (by simp) (Hn.call1 (i := 15) rfl (by rfl) 82 (.tmp 28) 67 (by kernel_rfl) 29 (by kernel_rfl) (.agg #[.int .i64 yr, .slice ya yQ.length yc]) (by kernel_rfl) (fun _ => rfl) (hR _ o1) ?_ AllReadyH.nil)
              rintro e w2 ⟨rfl, hb⟩
              refine ⟨_, rfl, hHeld.below hb, fun hHeld => ?_⟩
              replace hbel := Rw.next hbel hb
              clear hb
              simp only [Act.put, Hn.p1, Hn.p2, Hn.p3]
              refine Hn.take (i := 16) (d := some 30) (v := .bool false) rfl (by kernel_rfl) (by kernel_rfl) (by kernel_rfl) (by kernel_rfl) (fun _ _ _ h => h) (Or.inl ⟨by rfl, by intro w hSw; go_simp⟩) hHeld ?_
              simp only [Act.put, Hn.p1, Hn.p2, Hn.p3]
              refine Hn.take (i := 17) (d := some 31) (v := .bool false) rfl (by kernel_rfl) (by kernel_rfl) (by kernel_rfl) (by kernel_rfl) (fun _ _ _ h => h) (Or.inl ⟨by rfl, by intro w hSw; go_simp⟩) hHeld ?_
              simp only [Act.put, Hn.p1, Hn.p2, Hn.p3]
              refine Hn.take (i := 18) (d := some 32) (v := .bool false) rfl (by kernel_rfl) (by kernel_rfl) (by kernel_rfl) (by kernel_rfl) (fun _ _ _ h => h) (Or.inl ⟨by rfl, by intro w hSw; go_simp⟩) hHeld ?_
              simp only [Act.put, Hn.p1, Hn.p2, Hn.p3]
              refine Hn.take (i := 19) (d := some 33) (v := .int .i64 k) rfl (by kernel_rfl) (by kernel_rfl) (by kernel_rfl) (by kernel_rfl) (fun _ _ _ h => h) (Or.inl ⟨by rfl, by intro w hSw; go_simp⟩) hHeld ?_
              simp only [Act.put, Hn.p1, Hn.p2, Hn.p3]
              refine Hn.take (i := 20) (d := some 34) (v := .bool true) rfl (by kernel_rfl) (by kernel_rfl) (by kernel_rfl) (by kernel_rfl) (fun _ _ _ h => h) (Or.inl ⟨by rfl, by intro w hSw; go_simp⟩) hHeld ?_
              simp only [Act.put, Hn.p1, Hn.p2, Hn.p3]
              refine Hn.take (i := 21) (d := some 35) (v := .bool true) rfl (by kernel_rfl) (by kernel_rfl) (by kernel_rfl) (by kernel_rfl) (fun _ _ _ h => h) (Or.inl ⟨by rfl, by intro w hSw; go_simp⟩) hHeld ?_
              simp only [Act.put, Hn.p1, Hn.p2, Hn.p3]
              refine Hn.take (i := 22) (d := some 36) (v := .pointer (some ⟨w.heap.size, 0, none⟩)) rfl (by kernel_rfl) (by kernel_rfl) (by kernel_rfl) (by kernel_rfl) (fun _ _ _ h => h) (Or.inl ⟨by rfl, by intro w hSw; go_simp⟩) hHeld ?_
              simp only [Act.put, Hn.p1, Hn.p2, Hn.p3]
              refine Hn.take (i := 23) (d := some 37) (v := .slice (some ⟨b, off, none⟩) n cap) rfl (by kernel_rfl) (by kernel_rfl) (by kernel_rfl) (by kernel_rfl) (fun _ _ _ h => h) (Or.inl ⟨by rfl, by intro w hSw; obtain ⟨c0, c1, c2, c3, c4⟩ := hSw; go_simp⟩) hHeld ?_
              simp only [Act.put, Hn.p1, Hn.p2, Hn.p3]
              refine Hn.take (i := 24) (d := some 38) (v := .int .i64 k) rfl (by kernel_rfl) (by kernel_rfl) (by kernel_rfl) (by kernel_rfl) (fun _ _ _ h => h) (Or.inl ⟨by rfl, by intro w hSw; go_simp⟩) hHeld ?_
              simp only [Act.put, Hn.p1, Hn.p2, Hn.p3]
              refine Hn.take (i := 25) (d := some 39) (v := .int .i64 j) rfl (by kernel_rfl) (by kernel_rfl) (by kernel_rfl) (by kernel_rfl) (fun _ _ _ h => h) (Or.inl ⟨by rfl, by intro w hSw; go_simp⟩) hHeld ?_
              simp only [Act.put, Hn.p1, Hn.p2, Hn.p3]
              refine Hn.take (i := 26) (d := some 40) (v := .pointer (some ⟨b, off + j * 3, none⟩)) rfl (by kernel_rfl) (by kernel_rfl) (by kernel_rfl) (by kernel_rfl) (fun _ _ _ h => h) (Or.inl ⟨by rfl, by intro w hSw; go_simp⟩) hHeld ?_
              simp only [Act.put, Hn.p1, Hn.p2, Hn.p3]
              refine Hn.take (i := 27) (d := some 41) (v := .pointer (some ⟨b, off + j * 3, none⟩)) rfl (by kernel_rfl) (by kernel_rfl) (by kernel_rfl) (by kernel_rfl) (fun _ _ _ h => h) (Or.inl ⟨by rfl, by intro w hSw; go_simp⟩) hHeld ?_
              simp only [Act.put, Hn.p1, Hn.p2, Hn.p3]
              refine Hn.take (i := 28) (d := some 42) (v := .string xs) rfl (by kernel_rfl) (by kernel_rfl) (by kernel_rfl) (by kernel_rfl) (fun _ _ _ h => h) (Or.inl ⟨by rfl, by intro w hSw; obtain ⟨c0, c1, c2, c3, c4⟩ := hSw; go_simp⟩) hHeld ?_
              simp only [Act.put, Hn.p1, Hn.p2, Hn.p3]
              refine Hn.take (i := 29) (d := some 43) (v := .pointer (some ⟨w.heap.size, 0, none⟩)) rfl (by kernel_rfl) (by kernel_rfl) (by kernel_rfl) (by kernel_rfl) (fun _ _ _ h => h) (Or.inl ⟨by rfl, by intro w hSw; go_simp⟩) hHeld ?_
              simp only [Act.put, Hn.p1, Hn.p2, Hn.p3]
              refine Hn.take (i := 30) (d := some 44) (v := .slice (some ⟨b, off, none⟩) n cap) rfl (by kernel_rfl) (by kernel_rfl) (by kernel_rfl) (by kernel_rfl) (fun _ _ _ h => h) (Or.inl ⟨by rfl, by intro w hSw; obtain ⟨c0, c1, c2, c3, c4⟩ := hSw; go_simp⟩) hHeld ?_
              simp only [Act.put, Hn.p1, Hn.p2, Hn.p3]
              refine Hn.take (i := 31) (d := some 45) (v := .int .i64 k) rfl (by kernel_rfl) (by kernel_rfl) (by kernel_rfl) (by kernel_rfl) (fun _ _ _ h => h) (Or.inl ⟨by rfl, by intro w hSw; go_simp⟩) hHeld ?_
              simp only [Act.put, Hn.p1, Hn.p2, Hn.p3]
              refine Hn.take (i := 32) (d := some 46) (v := .pointer (some ⟨b, off + k * 3, none⟩)) rfl (by kernel_rfl) (by kernel_rfl) (by kernel_rfl) (by kernel_rfl) (fun _ _ _ h => h) (Or.inl ⟨by rfl, by intro w hSw; go_simp⟩) hHeld ?_
              simp only [Act.put, Hn.p1, Hn.p2, Hn.p3]
              refine Hn.take (i := 33) (d := some 47) (v := .pointer (some ⟨b, off + k * 3, none⟩)) rfl (by kernel_rfl) (by kernel_rfl) (by kernel_rfl) (by kernel_rfl) (fun _ _ _ h => h) (Or.inl ⟨by rfl, by intro w hSw; go_simp⟩) hHeld ?_
              simp only [Act.put, Hn.p1, Hn.p2, Hn.p3]
              refine Hn.take (i := 34) (d := some 48) (v := .string ys) rfl (by kernel_rfl) (by kernel_rfl) (by kernel_rfl) (by kernel_rfl) (fun _ _ _ h => h) (Or.inl ⟨by rfl, by intro w hSw; obtain ⟨c0, c1, c2, c3, c4⟩ := hSw; go_simp⟩) hHeld ?_
              simp only [Act.put, Hn.p1, Hn.p2, Hn.p3]
              refine Hn.take (i := 35) (d := some 49) (v := .bool true) rfl (by kernel_rfl) (by kernel_rfl) (by kernel_rfl) (by kernel_rfl) (fun _ _ _ h => h) (Or.inl ⟨by rfl, by intro w hSw; go_simp⟩) hHeld ?_
              simp only [Act.put, Hn.p1, Hn.p2, Hn.p3]
              refine Hn.take (i := 36) (d := some 50) (v := .bool true) rfl (by kernel_rfl) (by kernel_rfl) (by kernel_rfl) (by kernel_rfl) (fun _ _ _ h => h) (Or.inl ⟨by rfl, by intro w hSw; go_simp⟩) hHeld ?_
              simp only [Act.put, Hn.p1, Hn.p2, Hn.p3]
              refine Hn.take (i := 37) (d := some 51) (v := .bool true) rfl (by kernel_rfl) (by kernel_rfl) (by kernel_rfl) (by kernel_rfl) (fun _ _ _ h => h) (Or.inl ⟨by rfl, by intro w hSw; go_simp⟩) hHeld ?_
              simp only [Act.put, Hn.p1, Hn.p2, Hn.p3]
              refine wpAnyH_done (by kernel_rfl) ?_ _
              go_wp2
              go_ret
              exact ⟨ret_bool (HB1.out (by simp)).symm, Rw.next B1 hbel⟩
            | true =>
              rw [hless] at HX
              go_wp2
              refine wp_region_held_drew (S := Hold w.heap.size b (off + k * 3) (.slice (some ⟨b, off, none⟩) n cap) ys yr (.slice ya yQ.length yc) (off + j * 3) xs) (by kernel_rfl) hH (fun hHeld => ?_)
              replace hbel := Rw.next hbel ((Below.refl _ _).drew)
              replace o1 := o1.below ((Below.refl _ _).drew)
              refine Hn.take (i := 0) (d := some 14) (v := .pointer (some ⟨w.heap.size, 0, none⟩)) rfl (by kernel_rfl) (by kernel_rfl) (by kernel_rfl) (by kernel_rfl) (fun _ _ _ h => h) (Or.inl ⟨by rfl, by intro w hSw; go_simp⟩) hHeld ?_
              simp only [Act.put, Hn.p1, Hn.p2, Hn.p3]
              refine Hn.take (i := 1) (d := some 15) (v := .slice (some ⟨b, off, none⟩) n cap) rfl (by kernel_rfl) (by kernel_rfl) (by kernel_rfl) (by kernel_rfl) (fun _ _ _ h => h) (Or.inl ⟨by rfl, by intro w hSw; obtain ⟨c0, c1, c2, c3, c4⟩ := hSw; go_simp⟩) hHeld ?_
              simp only [Act.put, Hn.p1, Hn.p2, Hn.p3]
              refine Hn.take (i := 2) (d := some 16) (v := .int .i64 k) rfl (by kernel_rfl) (by kernel_rfl) (by kernel_rfl) (by kernel_rfl) (fun _ _ _ h => h) (Or.inl ⟨by rfl, by intro w hSw; go_simp⟩) hHeld ?_
              simp only [Act.put, Hn.p1, Hn.p2, Hn.p3]
              refine Hn.take (i := 3) (d := some 17) (v := .pointer (some ⟨b, off + k * 3, none⟩)) rfl (by kernel_rfl) (by kernel_rfl) (by kernel_rfl) (by kernel_rfl) (fun _ _ _ h => h) (Or.inl ⟨by rfl, by intro w hSw; go_simp⟩) hHeld ?_
              simp only [Act.put, Hn.p1, Hn.p2, Hn.p3]
              refine Hn.take (i := 4) (d := some 18) (v := .pointer (some ⟨b, off + k * 3, none⟩)) rfl (by kernel_rfl) (by kernel_rfl) (by kernel_rfl) (by kernel_rfl) (fun _ _ _ h => h) (Or.inl ⟨by rfl, by intro w hSw; go_simp⟩) hHeld ?_
              simp only [Act.put, Hn.p1, Hn.p2, Hn.p3]
              refine Hn.take (i := 5) (d := some 19) (v := .string ys) rfl (by kernel_rfl) (by kernel_rfl) (by kernel_rfl) (by kernel_rfl) (fun _ _ _ h => h) (Or.inl ⟨by rfl, by intro w hSw; obtain ⟨c0, c1, c2, c3, c4⟩ := hSw; go_simp⟩) hHeld ?_
              simp only [Act.put, Hn.p1, Hn.p2, Hn.p3]
              refine wpAnyH_ready (rs := [6]) (by kernel_rfl) (by simp) (Hn.call1 (i := 6) rfl (by rfl) 81 (.tmp 19) 9 (by kernel_rfl) 20 (by kernel_rfl) (.string ys) (by kernel_rfl) (fun _ => rfl) (hW _) ?_ AllReadyH.nil)
              rintro e w1 ⟨rfl, hb⟩
              refine ⟨_, rfl, hHeld.below hb, fun hHeld => ?_⟩
              replace hbel := Rw.next hbel hb
              replace o1 := o1.below hb
              clear hb
              simp only [Act.put, Hn.p1, Hn.p2, Hn.p3]
              refine Hn.take (i := 7) (d := some 21) (v := .bool false) rfl (by kernel_rfl) (by kernel_rfl) (by kernel_rfl) (by kernel_rfl) (fun _ _ _ h => h) (Or.inl ⟨by rfl, by intro w hSw; go_simp⟩) hHeld ?_
              simp only [Act.put, Hn.p1, Hn.p2, Hn.p3]
              refine Hn.take (i := 8) (d := some 22) (v := .bool false) rfl (by kernel_rfl) (by kernel_rfl) (by kernel_rfl) (by kernel_rfl) (fun _ _ _ h => h) (Or.inl ⟨by rfl, by intro w hSw; go_simp⟩) hHeld ?_
              simp only [Act.put, Hn.p1, Hn.p2, Hn.p3]
              refine Hn.take (i := 9) (d := some 23) (v := .pointer (some ⟨w.heap.size, 0, none⟩)) rfl (by kernel_rfl) (by kernel_rfl) (by kernel_rfl) (by kernel_rfl) (fun _ _ _ h => h) (Or.inl ⟨by rfl, by intro w hSw; go_simp⟩) hHeld ?_
              simp only [Act.put, Hn.p1, Hn.p2, Hn.p3]
              refine Hn.take (i := 10) (d := some 24) (v := .slice (some ⟨b, off, none⟩) n cap) rfl (by kernel_rfl) (by kernel_rfl) (by kernel_rfl) (by kernel_rfl) (fun _ _ _ h => h) (Or.inl ⟨by rfl, by intro w hSw; obtain ⟨c0, c1, c2, c3, c4⟩ := hSw; go_simp⟩) hHeld ?_
              simp only [Act.put, Hn.p1, Hn.p2, Hn.p3]
              refine Hn.take (i := 11) (d := some 25) (v := .int .i64 k) rfl (by kernel_rfl) (by kernel_rfl) (by kernel_rfl) (by kernel_rfl) (fun _ _ _ h => h) (Or.inl ⟨by rfl, by intro w hSw; go_simp⟩) hHeld ?_
              simp only [Act.put, Hn.p1, Hn.p2, Hn.p3]
              refine Hn.take (i := 12) (d := some 26) (v := .pointer (some ⟨b, off + k * 3, none⟩)) rfl (by kernel_rfl) (by kernel_rfl) (by kernel_rfl) (by kernel_rfl) (fun _ _ _ h => h) (Or.inl ⟨by rfl, by intro w hSw; go_simp⟩) hHeld ?_
              simp only [Act.put, Hn.p1, Hn.p2, Hn.p3]
              refine Hn.take (i := 13) (d := some 27) (v := .pointer (some ⟨b, off + k * 3 + 1, none⟩)) rfl (by kernel_rfl) (by kernel_rfl) (by kernel_rfl) (by kernel_rfl) (fun _ _ _ h => h) (Or.inl ⟨by rfl, by intro w hSw; go_simp⟩) hHeld ?_
              simp only [Act.put, Hn.p1, Hn.p2, Hn.p3]
              refine Hn.take (i := 14) (d := some 28) (v := .agg #[.int .i64 yr, .slice ya yQ.length yc]) rfl (by kernel_rfl) (by kernel_rfl) (by kernel_rfl) (by kernel_rfl) (fun _ _ _ h => h) (Or.inl ⟨by rfl, by intro w hSw; obtain ⟨c0, c1, c2, c3, c4⟩ := hSw; go_simp⟩) hHeld ?_
              simp only [Act.put, Hn.p1, Hn.p2, Hn.p3]
              refine wpAnyH_ready (rs := [15]) (by kernel_rfl) (by simp) (Hn.call1 (i := 15) rfl (by rfl) 82 (.tmp 28) 67 (by kernel_rfl) 29 (by kernel_rfl) (.agg #[.int .i64 yr, .slice ya yQ.length yc]) (by kernel_rfl) (fun _ => rfl) (hR _ o1) ?_ AllReadyH.nil)
              rintro e w2 ⟨rfl, hb⟩
              refine ⟨_, rfl, hHeld.below hb, fun hHeld => ?_⟩
              replace hbel := Rw.next hbel hb
              clear hb
              simp only [Act.put, Hn.p1, Hn.p2, Hn.p3]
              refine Hn.take (i := 16) (d := some 30) (v := .bool false) rfl (by kernel_rfl) (by kernel_rfl) (by kernel_rfl) (by kernel_rfl) (fun _ _ _ h => h) (Or.inl ⟨by rfl, by intro w hSw; go_simp⟩) hHeld ?_
              simp only [Act.put, Hn.p1, Hn.p2, Hn.p3]
              refine Hn.take (i := 17) (d := some 31) (v := .bool false) rfl (by kernel_rfl) (by kernel_rfl) (by kernel_rfl) (by kernel_rfl) (fun _ _ _ h => h) (Or.inl ⟨by rfl, by intro w hSw; go_simp⟩) hHeld ?_
              simp only [Act.put, Hn.p1, Hn.p2, Hn.p3]
              refine Hn.take (i := 18) (d := some 32) (v := .bool false) rfl (by kernel_rfl) (by kernel_rfl) (by kernel_rfl) (by kernel_rfl) (fun _ _ _ h => h) (Or.inl ⟨by rfl, by intro w hSw; go_simp⟩) hHeld ?_
              simp only [Act.put, Hn.p1, Hn.p2, Hn.p3]
              refine Hn.take (i := 19) (d := some 33) (v := .int .i64 k) rfl (by kernel_rfl) (by kernel_rfl) (by kernel_rfl) (by kernel_rfl) (fun _ _ _ h => h) (Or.inl ⟨by rfl, by intro w hSw; go_simp⟩) hHeld ?_
              simp only [Act.put, Hn.p1, Hn.p2, Hn.p3]
              refine Hn.take (i := 20) (d := some 34) (v := .bool true) rfl (by kernel_rfl) (by kernel_rfl) (by kernel_rfl) (by kernel_rfl) (fun _ _ _ h => h) (Or.inl ⟨by rfl, by intro w hSw; go_simp⟩) hHeld ?_
              simp only [Act.put, Hn.p1, Hn.p2, Hn.p3]
              refine Hn.take (i := 21) (d := some 35) (v := .bool true) rfl (by kernel_rfl) (by kernel_rfl) (by kernel_rfl) (by kernel_rfl) (fun _ _ _ h => h) (Or.inl ⟨by rfl, by intro w hSw; go_simp⟩) hHeld ?_
              simp only [Act.put, Hn.p1, Hn.p2, Hn.p3]
              refine Hn.take (i := 22) (d := some 36) (v := .pointer (some ⟨w.heap.size, 0, none⟩)) rfl (by kernel_rfl) (by kernel_rfl) (by kernel_rfl) (by kernel_rfl) (fun _ _ _ h => h) (Or.inl ⟨by rfl, by intro w hSw; go_simp⟩) hHeld ?_
              simp only [Act.put, Hn.p1, Hn.p2, Hn.p3]
              refine Hn.take (i := 23) (d := some 37) (v := .slice (some ⟨b, off, none⟩) n cap) rfl (by kernel_rfl) (by kernel_rfl) (by kernel_rfl) (by kernel_rfl) (fun _ _ _ h => h) (Or.inl ⟨by rfl, by intro w hSw; obtain ⟨c0, c1, c2, c3, c4⟩ := hSw; go_simp⟩) hHeld ?_
              simp only [Act.put, Hn.p1, Hn.p2, Hn.p3]
              refine Hn.take (i := 24) (d := some 38) (v := .int .i64 k) rfl (by kernel_rfl) (by kernel_rfl) (by kernel_rfl) (by kernel_rfl) (fun _ _ _ h => h) (Or.inl ⟨by rfl, by intro w hSw; go_simp⟩) hHeld ?_
              simp only [Act.put, Hn.p1, Hn.p2, Hn.p3]
              refine Hn.take (i := 25) (d := some 39) (v := .int .i64 j) rfl (by kernel_rfl) (by kernel_rfl) (by kernel_rfl) (by kernel_rfl) (fun _ _ _ h => h) (Or.inl ⟨by rfl, by intro w hSw; go_simp⟩) hHeld ?_
              simp only [Act.put, Hn.p1, Hn.p2, Hn.p3]
              refine Hn.take (i := 26) (d := some 40) (v := .pointer (some ⟨b, off + j * 3, none⟩)) rfl (by kernel_rfl) (by kernel_rfl) (by kernel_rfl) (by kernel_rfl) (fun _ _ _ h => h) (Or.inl ⟨by rfl, by intro w hSw; go_simp⟩) hHeld ?_
              simp only [Act.put, Hn.p1, Hn.p2, Hn.p3]
              refine Hn.take (i := 27) (d := some 41) (v := .pointer (some ⟨b, off + j * 3, none⟩)) rfl (by kernel_rfl) (by kernel_rfl) (by kernel_rfl) (by kernel_rfl) (fun _ _ _ h => h) (Or.inl ⟨by rfl, by intro w hSw; go_simp⟩) hHeld ?_
              simp only [Act.put, Hn.p1, Hn.p2, Hn.p3]
              refine Hn.take (i := 28) (d := some 42) (v := .string xs) rfl (by kernel_rfl) (by kernel_rfl) (by kernel_rfl) (by kernel_rfl) (fun _ _ _ h => h) (Or.inl ⟨by rfl, by intro w hSw; obtain ⟨c0, c1, c2, c3, c4⟩ := hSw; go_simp⟩) hHeld ?_
              simp only [Act.put, Hn.p1, Hn.p2, Hn.p3]
              refine Hn.take (i := 29) (d := some 43) (v := .pointer (some ⟨w.heap.size, 0, none⟩)) rfl (by kernel_rfl) (by kernel_rfl) (by kernel_rfl) (by kernel_rfl) (fun _ _ _ h => h) (Or.inl ⟨by rfl, by intro w hSw; go_simp⟩) hHeld ?_
              simp only [Act.put, Hn.p1, Hn.p2, Hn.p3]
              refine Hn.take (i := 30) (d := some 44) (v := .slice (some ⟨b, off, none⟩) n cap) rfl (by kernel_rfl) (by kernel_rfl) (by kernel_rfl) (by kernel_rfl) (fun _ _ _ h => h) (Or.inl ⟨by rfl, by intro w hSw; obtain ⟨c0, c1, c2, c3, c4⟩ := hSw; go_simp⟩) hHeld ?_
              simp only [Act.put, Hn.p1, Hn.p2, Hn.p3]
              refine Hn.take (i := 31) (d := some 45) (v := .int .i64 k) rfl (by kernel_rfl) (by kernel_rfl) (by kernel_rfl) (by kernel_rfl) (fun _ _ _ h => h) (Or.inl ⟨by rfl, by intro w hSw; go_simp⟩) hHeld ?_
              simp only [Act.put, Hn.p1, Hn.p2, Hn.p3]
              refine Hn.take (i := 32) (d := some 46) (v := .pointer (some ⟨b, off + k * 3, none⟩)) rfl (by kernel_rfl) (by kernel_rfl) (by kernel_rfl) (by kernel_rfl) (fun _ _ _ h => h) (Or.inl ⟨by rfl, by intro w hSw; go_simp⟩) hHeld ?_
              simp only [Act.put, Hn.p1, Hn.p2, Hn.p3]
              refine Hn.take (i := 33) (d := some 47) (v := .pointer (some ⟨b, off + k * 3, none⟩)) rfl (by kernel_rfl) (by kernel_rfl) (by kernel_rfl) (by kernel_rfl) (fun _ _ _ h => h) (Or.inl ⟨by rfl, by intro w hSw; go_simp⟩) hHeld ?_
              simp only [Act.put, Hn.p1, Hn.p2, Hn.p3]
              refine Hn.take (i := 34) (d := some 48) (v := .string ys) rfl (by kernel_rfl) (by kernel_rfl) (by kernel_rfl) (by kernel_rfl) (fun _ _ _ h => h) (Or.inl ⟨by rfl, by intro w hSw; obtain ⟨c0, c1, c2, c3, c4⟩ := hSw; go_simp⟩) hHeld ?_
              simp only [Act.put, Hn.p1, Hn.p2, Hn.p3]
              refine Hn.take (i := 35) (d := some 49) (v := .bool false) rfl (by kernel_rfl) (by kernel_rfl) (by kernel_rfl) (by kernel_rfl) (fun _ _ _ h => h) (Or.inl ⟨by rfl, by intro w hSw; go_simp⟩) hHeld ?_
              simp only [Act.put, Hn.p1, Hn.p2, Hn.p3]
              refine Hn.take (i := 36) (d := some 50) (v := .bool false) rfl (by kernel_rfl) (by kernel_rfl) (by kernel_rfl) (by kernel_rfl) (fun _ _ _ h => h) (Or.inl ⟨by rfl, by intro w hSw; go_simp⟩) hHeld ?_
              simp only [Act.put, Hn.p1, Hn.p2, Hn.p3]
              refine Hn.take (i := 37) (d := some 51) (v := .bool false) rfl (by kernel_rfl) (by kernel_rfl) (by kernel_rfl) (by kernel_rfl) (fun _ _ _ h => h) (Or.inl ⟨by rfl, by intro w hSw; go_simp⟩) hHeld ?_
              simp only [Act.put, Hn.p1, Hn.p2, Hn.p3]
              refine wpAnyH_done (by kernel_rfl) ?_ _
              go_wp2
              go_roundw
              case rel => exact ⟨k + 1, by omega, by go_num, hbel, HX.out (by simp)⟩
              case measure => simp [intOf]; omega
    · have he : k = n := by omega
      subst he
      go_wp2
      go_ret
      exact ⟨ret_bool (HG.out HP.out).symm, Rw.next B1 hbel⟩

end Go.Proofs.YtkpchlojapkimaaGreat.St

namespace Go.Proofs.YtkpchlojapkimaaGreat.Ch
set_option maxRecDepth 8000
set_option linter.unusedSimpArgs false
set_option linter.unusedVariables false
open Go Go.ChangeShapes Go.WideShapes Go.RowKit
open Num Word Pl Rp
open Rl (Rm rm0 said twoB MA ResC OT)
open Vl (cmpS strLt)
open St (cmpT_any)

/-- Are both relations right, of one arity, without a row in common? -/
def apartB (p m : QL) : Bool := twoB p.1 p.2 m.1 m.2 && decide ((p.2.filter fun z => decide (z ∈ m.2)).length = 0)
/-- Is the change right? -/
def changeB (x : CL) : Bool := wordB x.1 && !(decide (x.2.1.2.length = 0) && decide (x.2.2.2.length = 0)) && apartB x.2.1 x.2.2
/-- Do the names rise? -/
def risesC : List CL → Bool
  | [] => true
  | [_] => true
  | x :: y :: T => strLt x.1 y.1 && risesC (y :: T)
/-- Is the delta right? -/
def deltaB (T : List CL) : Bool := decide (T.length ≤ 24) && T.all changeB && risesC T
theorem risesC_iff : ∀ (T : List CL), risesC T = true ↔ ∀ i, i + 1 < T.length → strLt (T.getD i cl0).1 (T.getD (i + 1) cl0).1 = true
  | [] => by simp [risesC]
  | [x] => by simp [risesC]
  | x :: y :: T => by
    have ih := risesC_iff (y :: T)
    simp only [risesC, Bool.and_eq_true, ih]
    constructor
    · rintro ⟨h1, h2⟩ i hi
      cases i with
      | zero => simpa [List.getD] using h1
      | succ i => have := h2 i (by simp at hi ⊢; omega); simpa [List.getD] using this
    · intro h
      refine ⟨by have := h 0 (by simp); simpa [List.getD] using this, fun i hi => ?_⟩
      have := h (i + 1) (by simp at hi ⊢; omega)
      simpa [List.getD] using this
theorem all_at {T : List Cm} (h : ∀ i, i < T.length → changeB (T.getD i cm0).l = true) : (told T).all changeB = true := by
  refine List.all_eq_true.2 fun x hx => ?_
  obtain ⟨i, hi, rfl⟩ := List.getElem_of_mem hx
  have hi' : i < T.length := by rw [told_len] at hi; exact hi
  have := h i hi'
  rw [← told_at hi'] at this
  simpa [List.getD, hi] using this
theorem all_bad {T : List Cm} {k : Nat} (hk : k < T.length) (h : changeB (T.getD k cm0).l = false) : (told T).all changeB = false := by
  rw [List.all_eq_false]
  have hk' : k < (told T).length := by rw [told_len]; exact hk
  refine ⟨(told T)[k], List.getElem_mem hk', ?_⟩
  rw [← told_at hk] at h
  simpa [List.getD, hk'] using h

theorem two_parts {x y : Int} {R S : List RowL} (h : twoB x R y S = true) : RelP x R ∧ RelP x S ∧ x = y := by
  unfold twoB at h
  simp only [Bool.and_eq_true, decide_eq_true_eq] at h
  obtain ⟨⟨h1, h2⟩, rfl⟩ := h
  exact ⟨relP_of h1, relP_of h2, rfl⟩
/-- Where both are merged by what they have in common: told, and nothing. -/
theorem apart_MA {p m : QL} {ar : Int} {X : List RowL} {c : Int} (h : MA stTwo p.1 p.2 m.1 m.2 ar X c) : (decide (c = 0) && decide (X.length = 0)) = apartB p m := by
  unfold MA at h
  unfold apartB
  cases ht : twoB p.1 p.2 m.1 m.2 with
  | false =>
    rw [ht, if_neg (by simp)] at h
    obtain ⟨_, rfl, rfl⟩ := h
    simp
  | true =>
    rw [ht, if_pos rfl] at h
    obtain ⟨r1, r2, _⟩ := two_parts ht
    have hb := both_eq r1.sorted r2.sorted r1.ok r2.ok
    have hl : (mergeL stTwo p.2 m.2).length ≤ 300 := by
      rw [hb]; exact Nat.le_trans (List.length_filter_le _ _) r1.few
    rw [if_pos hl] at h
    obtain ⟨_, rfl, rfl⟩ := h
    rw [hb]
    simp

set_option maxHeartbeats 1000000 in
theorem bare_any (ar : Int) (a : Option Addr) (n c : Nat) (ok : Bool) (w : World) :
    Calls Tryz.prog 64 #[.agg #[.int .i64 ar, .slice a n c], .bool ok] w fun e w' => e = .returned (.bool (ok && decide (n = 0))) ∧ Below w.heap.size w w' := by
  have B := below_alloc1 w (.cells #[.int .i64 ar, .slice a n c] 67)
  cases ok with
  | false =>
    go_enter Tryz.func64, Tryz.ntmps64
    go_wp2
    go_ret
    exact ⟨ret_bool (by simp), B⟩
  | true =>
    by_cases h0 : n = 0
    · subst h0
      go_enter Tryz.func64, Tryz.ntmps64
      go_wp2
      go_ret
      exact ⟨ret_bool (by simp), B⟩
    · have h1 : ((n : Int) == 0) = false := by simp; omega
      go_enter Tryz.func64, Tryz.ntmps64
      go_wp2
      go_ret
      exact ⟨ret_bool (by simp [h0]), B⟩
set_option maxHeartbeats 1000000 in
theorem idle_any (s : ByteArray) (ar br : Int) (a d : Option Addr) (n m c e : Nat) (w : World) :
    Calls Tryz.prog 93 #[.agg #[.string s, .int .i64 ar, .slice a n c, .int .i64 br, .slice d m e]] w fun e w' => e = .returned (.bool (decide (n = 0) && decide (m = 0))) ∧ Below w.heap.size w w' := by
  have B := below_alloc1 w (.cells #[.string s, .int .i64 ar, .slice a n c, .int .i64 br, .slice d m e] 71)
  by_cases h0 : n = 0
  · subst h0
    by_cases h1 : m = 0
    · subst h1
      go_enter Tryz.func93, Tryz.ntmps93
      go_wp2
      go_ret
      exact ⟨ret_bool (by simp), B⟩
    · have h2 : ((m : Int) == 0) = false := by simp; omega
      go_enter Tryz.func93, Tryz.ntmps93
      go_wp2
      go_ret
      exact ⟨ret_bool (by simp [h1]), B⟩
  · have h2 : ((n : Int) == 0) = false := by simp; omega
    go_enter Tryz.func93, Tryz.ntmps93
    go_wp2
    go_ret
    exact ⟨ret_bool (by simp [h0]), B⟩

/-- The five cells of a change. -/
def Cm.vals (x : Cm) : Array Value := #[.string x.s, .int .i64 x.p.ar, .slice x.p.a x.p.Q.length x.p.c, .int .i64 x.m.ar, .slice x.m.a x.m.Q.length x.m.c]
theorem ResC.parts {w : World} {ar : Int} {X : List RowL} {c : Value} {e : Ending} {w' : World} (h : ResC w ar X c e w') (hX : X.length ≤ 300) : ∃ a n cap, e = .returned (.tuple #[.agg #[.int .i64 ar, .slice a n cap], c]) ∧ n = X.length ∧ Below w.heap.size w w' := by
  obtain ⟨v, F, rfl, hot, sF, hb⟩ := h
  have hl : F.length = X.length := by rw [← Rl.said_len, sF]
  obtain ⟨a, g, cap, rfl, _⟩ := hot.form (by omega)
  exact ⟨a, F.length, cap, rfl, hl, hb⟩

set_option maxHeartbeats 2000000 in
theorem changeOk_any (x : Cm) (w : World) (hs : x.s.size ≤ maxLen) (h : x.Ok w) (hc : x.Room) :
    Calls Tryz.prog 47 #[.agg #[.string x.s, .int .i64 x.p.ar, .slice x.p.a x.p.Q.length x.p.c, .int .i64 x.m.ar, .slice x.m.a x.m.Q.length x.m.c]] w fun e w' => e = .returned (.bool (changeB x.l)) ∧ Below w.heap.size w w' := by
  obtain ⟨s, ⟨ar, a, b, o, c, Q⟩, ⟨br, d, b', o', c', P⟩⟩ := x
  obtain ⟨h1, h2⟩ := h
  obtain ⟨hc1, hc2⟩ := hc
  simp only at hs h1 h2 hc1 hc2
  obtain ⟨W1, hW1⟩ : ∃ W1, W1 = w.alloc (.cells #[.string s, .int .i64 ar, .slice a Q.length c, .int .i64 br, .slice d P.length c'] 71) := ⟨_, rfl⟩
  have B : Below w.heap.size w W1 := by subst hW1; exact below_alloc1 _ _
  have k0 : W1.heap[w.heap.size]? = some (.cells #[.string s, .int .i64 ar, .slice a Q.length c, .int .i64 br, .slice d P.length c'] 71 (0, 0)) := by subst hW1; exact at_new rfl
  have hW := fun W => implWord_any s W hs
  obtain ⟨qr, X, cc, hA, hX⟩ := Rl.MA_some stTwo ar (said Q) br (said P)
  have hAp := apart_MA (p := (ar, said Q)) (m := (br, said P)) hA
  have hB := fun W k k' => Rl.bothI_any ar br a d b o c b' o' c' Q P W k k' hc1 hc2 qr X cc hA
  have e0 : changeB (Cm.l ⟨s, ⟨ar, a, b, o, c, Q⟩, ⟨br, d, b', o', c', P⟩⟩) = (wordB s && !(decide (Q.length = 0) && decide (P.length = 0)) && (decide (cc = 0) && decide (X.length = 0))) := by
    rw [hAp]
    show (wordB s && !(decide ((said Q).length = 0) && decide ((said P).length = 0)) && apartB (ar, said Q) (br, said P)) = _
    rw [Rl.said_len, Rl.said_len]
  rw [e0]
  have HX : Hid (X.length ≤ 300) := hX
  clear e0 hAp hA hX hs
  replace h1 := h1.below B
  replace h2 := h2.below B
  have hI := fun W => idle_any s ar br a d Q.length P.length c c' W
  cases hv : wordB s with
  | false =>
    rw [hv] at hW
    go_enter Tryz.func47, Tryz.ntmps47
    go_wp2_with (go_at_call 88; rw [← hW1]; clear hW1; refine (hW _).mono ?_; rintro e w1 ⟨rfl, hw⟩; replace hw := hw.symm; subst hw)
    go_ret
    exact ⟨ret_bool (by simp), B⟩
  | true =>
    rw [hv] at hW
    clear hv
    generalize (decide (Q.length = 0) && decide (P.length = 0)) = I at hI ⊢
    cases I with
    | true =>
      obtain ⟨p0, p1, p2, p3, p4⟩ := five k0
      go_enter Tryz.func47, Tryz.ntmps47
      go_wp2_with (first
        | (go_at_call 88; rw [← hW1]; clear hW1; refine (hW _).mono ?_; rintro e w1 ⟨rfl, hw⟩; replace hw := hw.symm; subst hw)
        | (go_at_call 93; refine (hI _).mono ?_; rintro e w1 ⟨rfl, hb⟩))
      go_ret
      exact ⟨ret_bool (by simp), Rw.next B hb⟩
    | false =>
      obtain ⟨p0, p1, p2, p3, p4⟩ := five k0
      go_enter Tryz.func47, Tryz.ntmps47
      go_wp2_with (first
        | (go_at_call 88; rw [← hW1]; clear hW1; refine (hW _).mono ?_; rintro e w1 ⟨rfl, hw⟩; replace hw := hw.symm; subst hw)
        | (go_at_call 93; refine (hI _).mono ?_; rintro e w1 ⟨rfl, hb⟩; clear p0 p1 p2 p3 p4; replace k0 := (hb.block _ (blk_lt k0)).trans k0; replace h1 := h1.below hb; replace h2 := h2.below hb; replace B := Rw.next B hb; clear hb; obtain ⟨p0, p1, p2, p3, p4⟩ := five k0)
        | (go_at_call 66; refine (hB _ h1 h2).mono ?_; intro e w2 hr; obtain ⟨ua, un, uc, he, hn, hb⟩ := ResC.parts hr HX.out; clear hr; subst he; have HN : Hid (un = X.length) := hn; clear hn; replace B := Rw.next B hb; clear hb)
        | (go_at_call 64; refine (bare_any _ _ _ _ _ _).mono ?_; rintro e w3 ⟨rfl, hb⟩))
      go_ret
      exact ⟨ret_bool (by rw [HN.out]; simp; rfl), Rw.next B hb⟩

end Go.Proofs.YtkpchlojapkimaaGreat.Ch

namespace Go.Proofs.YtkpchlojapkimaaGreat.Ch
set_option maxRecDepth 8000
set_option linter.unusedSimpArgs false
set_option linter.unusedVariables false
open Go Go.ChangeShapes Go.WideShapes Go.RowKit
open Num Word Pl Rp
open Rl (Rm rm0 said)
open Vl (cmpS strLt)
open St (cmpT_any)

set_option maxHeartbeats 1000000 in
theorem unfitC_any (x : Cm) (w : World) (hs : x.s.size ≤ maxLen) (h : x.Ok w) (hc : x.Room) :
    Calls Tryz.prog 46 #[.agg #[.string x.s, .int .i64 x.p.ar, .slice x.p.a x.p.Q.length x.p.c, .int .i64 x.m.ar, .slice x.m.a x.m.Q.length x.m.c]] w fun e w' => e = .returned (.bool (!changeB x.l)) ∧ Below w.heap.size w w' := by
  have B := below_alloc1 w (.cells #[.string x.s, .int .i64 x.p.ar, .slice x.p.a x.p.Q.length x.p.c, .int .i64 x.m.ar, .slice x.m.a x.m.Q.length x.m.c] 71)
  have hC := changeOk_any x _ hs ⟨h.1.below B, h.2.below B⟩ hc
  generalize changeB x.l = R at hC ⊢
  go_enter Tryz.func46, Tryz.ntmps46
  go_wp2_with (go_at_call 47; refine hC.mono ?_; rintro e w1 ⟨rfl, hb⟩)
  go_ret
  exact ⟨ret_bool (by simp), Rw.next B hb⟩

set_option maxHeartbeats 1000000 in
theorem indexC_any (a : Option Addr) (b off cap : Nat) (T : List Cm) (w : World) (h : Rd w a b off T) (hm : Rooms T) :
    Calls Tryz.prog 102 #[.slice a T.length cap, .func (.func 46) #[] #[]] w fun e w' => Below w.heap.size w w' ∧ ∃ r : Int, e = .returned (.int .i64 r) ∧ (!decide (0 ≤ r)) = (told T).all changeB := by
  obtain ⟨hh, hc, ho, hs, hst⟩ := h
  have HB : Hid (∀ k, k < T.length → changeB (T.getD k cm0).l = false → (told T).all changeB = false) := fun k hk h => all_bad hk h
  have HG : Hid ((∀ i, i < T.length → changeB (T.getD i cm0).l = true) → (told T).all changeB = true) := fun h => all_at h
  generalize (told T).all changeB = R at HB HG ⊢
  unfold Rooms at hm
  obtain ⟨n, hn⟩ : ∃ n, n = T.length := ⟨_, rfl⟩
  rw [← hn] at hh hc ho hs hst HB HG hm ⊢
  clear hn
  go_enter Tryz.func102, Tryz.ntmps102
  go_wp2
  go_loopw [8] (fun i wr => ∃ k : Nat, k ≤ n ∧ i = .int .i64 k ∧ Below w.heap.size w wr ∧ ∀ i, i < k → changeB (T.getD i cm0).l = true) (fun i _ => n - (intOf i).toNat)
  case atStart => exact ⟨0, Nat.zero_le _, rfl, Below.refl _ _, fun i hi => by omega⟩
  case round =>
    obtain ⟨k, hk, rfl, hbel, hpre⟩ := hrel
    have HP : Hid (∀ i, i < k → changeB (T.getD i cm0).l = true) := hpre
    clear hpre
    by_cases hlt : k < n
    · obtain rfl := hh (by omega)
      have hkz : (k : Int) < (n : Int) := by omega
      obtain ⟨c0, c1, c2, c3, c4⟩ := At5.of (hc k hlt) hbel (hc k hlt).lt
      have o1 : (T.getD k cm0).Ok wr := ⟨Rl.Rd.below (ho k hlt).1 hbel, Rl.Rd.below (ho k hlt).2 hbel⟩
      have hst1 := hst k hlt
      have hm1 := hm k hlt
      have HB1 : Hid (changeB (T.getD k cm0).l = false → R = false) := HB.out k hlt
      have HX : Hid (changeB (T.getD k cm0).l = true → ∀ i, i < k + 1 → changeB (T.getD i cm0).l = true) := fun h i hi => by
        by_cases e : i = k
        · subst e; exact h
        · exact HP.out i (by omega)
      have hS := unfitC_any (T.getD k cm0) wr hst1 o1 hm1
      clear hc ho hh HB hst hm hst1 o1 hm1
      generalize changeB (T.getD k cm0).l = V at hS HB1 HX
      cases hv : V with
      | true =>
        rw [hv] at hS
        go_wp2_with (go_at_call 46; refine hS.mono ?_; rintro e w1 ⟨rfl, hb⟩)
        go_roundw
        case rel => exact ⟨k + 1, by omega, by go_num, Rw.next hbel hb, HX.out hv⟩
        case measure => simp [intOf]; omega
      | false =>
        rw [hv] at hS
        go_wp2_with (go_at_call 46; refine hS.mono ?_; rintro e w1 ⟨rfl, hb⟩)
        go_ret
        exact ⟨Rw.next hbel hb, _, rfl, by rw [HB1.out hv]; simp⟩
    · have he : k = n := by omega
      subst he
      go_wp2
      go_ret
      exact ⟨hbel, _, rfl, by rw [HG.out HP.out]; rfl⟩

theorem containsC_any (a : Option Addr) (b off cap : Nat) (T : List Cm) (w : World) (h : Rd w a b off T) (hm : Rooms T) :
    Calls Tryz.prog 48 #[.slice a T.length cap, .func (.func 46) #[] #[]] w fun e w' => e = .returned (.bool (!(told T).all changeB)) ∧ Below w.heap.size w w' := by
  have hi := indexC_any a b off cap T w h hm
  generalize (told T).all changeB = R at hi ⊢
  go_enter Tryz.func48, Tryz.ntmps48
  go_wp2_with (go_at_call 102; refine hi.mono ?_; rintro e w1 ⟨hb, r, rfl, hr⟩; have HR : Hid ((!decide (0 ≤ r)) = R) := hr; clear hr)
  go_ret
  exact ⟨ret_bool (by rw [← HR.out]; simp), hb⟩

theorem byC_any (s t : ByteArray) (u1 u2 u3 u4 v1 v2 v3 v4 : Value) (w : World) :
    Calls Tryz.prog 103 #[.agg #[.string s, u1, u2, u3, u4], .agg #[.string t, v1, v2, v3, v4]] w fun e w' => e = .returned (.int .i64 (cmpS s t)) ∧ Below w.heap.size w w' := by
  have B := below_alloc2 w (.cells #[.string s, u1, u2, u3, u4] 71) (.cells #[.string t, v1, v2, v3, v4] 71)
  go_enter Tryz.func103, Tryz.ntmps103
  go_wp2_with (go_at_call 104; refine (cmpT_any _ _ _).mono ?_; rintro e w1 ⟨rfl, hw⟩; replace hw := hw.symm; subst hw)
  go_ret
  exact ⟨rfl, B⟩

set_option maxHeartbeats 2000000 in
theorem risesC_any (a : Option Addr) (b off cap : Nat) (T : List Cm) (w : World) (h : Rd w a b off T) :
    Calls Tryz.prog 50 #[.agg #[.slice a T.length cap, .func (.func 103) #[] #[]]] w fun e w' => e = .returned (.bool (risesC (told T))) ∧ Below w.heap.size w w' := by
  obtain ⟨W1, hW1⟩ : ∃ W1, W1 = w.alloc (.cells #[.slice a T.length cap, .func (.func 103) #[] #[]] 88) := ⟨_, rfl⟩
  have B1 : Below w.heap.size w W1 := by subst hW1; exact below_alloc1 _ _
  have k0 : W1.heap[w.heap.size]? = some (.cells #[.slice a T.length cap, .func (.func 103) #[] #[]] 88 (0, 0)) := by subst hW1; exact at_new rfl
  obtain ⟨hh, hc, ho, hs, hst⟩ := h.below B1
  clear h
  obtain ⟨R, hR⟩ : ∃ R, R = risesC (told T) := ⟨_, rfl⟩
  have HG : Hid ((∀ i, i + 1 < T.length → cmpS (T.getD i cm0).s (T.getD (i + 1) cm0).s < 0) → R = true) := fun h => by
    rw [hR, risesC_iff]
    intro i hi
    rw [told_len] at hi
    rw [told_at (by omega), told_at hi]; exact cmpS_lt.1 (h i hi)
  have HB : Hid (∀ i, i + 1 < T.length → 0 ≤ cmpS (T.getD i cm0).s (T.getD (i + 1) cm0).s → R = false) := fun i hi h => by
    rw [hR, ← Bool.not_eq_true]
    intro e
    have := (risesC_iff _).1 e i (by rw [told_len]; exact hi)
    rw [told_at (by omega), told_at hi] at this
    have := cmpS_lt.2 this
    simp only [Cm.l] at this
    omega
  rw [← hR]
  clear hR
  obtain ⟨n, hn⟩ : ∃ n, n = T.length := ⟨_, rfl⟩
  rw [← hn] at hh hc ho hs hst HG HB k0 hW1 ⊢
  clear hn ho hst
  go_enter Tryz.func50, Tryz.ntmps50
  go_wp2
  rw [← hW1]
  clear hW1
  go_loopw [3] (fun i wr => ∃ k : Nat, (k = 0 ∨ k < n) ∧ i = .int .i64 ((k + 1 : Nat) : Int) ∧ Below W1.heap.size W1 wr ∧ ∀ i, i < k → cmpS (T.getD i cm0).s (T.getD (i + 1) cm0).s < 0) (fun i _ => n - (intOf i).toNat)
  case atStart => exact ⟨0, .inl rfl, rfl, Below.refl _ _, fun i hi => by omega⟩
  case round =>
    obtain ⟨k, hk, rfl, hbel, hpre⟩ := hrel
    have HP : Hid (∀ i, i < k → cmpS (T.getD i cm0).s (T.getD (i + 1) cm0).s < 0) := hpre
    have HK : Hid (k = 0 ∨ k < n) := hk
    clear hpre hk
    replace k0 := (hbel.block _ (blk_lt k0)).trans k0
    obtain ⟨p0, p1⟩ := two k0
    by_cases hlt : k + 1 < n
    · obtain rfl := hh (by omega)
      obtain ⟨A0, A1, A2, A3, A4⟩ := At5.of (hc k (by omega)) hbel (hc k (by omega)).lt
      obtain ⟨E0, E1, E2, E3, E4⟩ := At5.of (hc (k + 1) hlt) hbel (hc (k + 1) hlt).lt
      have lb : b < wr.heap.size := World.block_lt_of_cell? _ _ A0
      have HB1 : Hid (0 ≤ cmpS (T.getD k cm0).s (T.getD (k + 1) cm0).s → R = false) := HB.out k hlt
      have HX : Hid (cmpS (T.getD k cm0).s (T.getD (k + 1) cm0).s < 0 → ∀ i, i < k + 1 → cmpS (T.getD i cm0).s (T.getD (i + 1) cm0).s < 0) := fun h i hi => by
        by_cases e : i = k
        · subst e; exact h
        · exact HP.out i (by omega)
      clear hc hh HB
      generalize T.getD k cm0 = x at A0 A1 A2 A3 A4 HB1 HX
      generalize T.getD (k + 1) cm0 = y at E0 E1 E2 E3 E4 HB1 HX
      obtain ⟨xs, ⟨xr, xa, xb, xo, xc, xQ⟩, ⟨xr', xa', xb', xo', xc', xQ'⟩⟩ := x
      obtain ⟨ys, ⟨yr, ya, yb, yo, yc, yQ⟩, ⟨yr', ya', yb', yo', yc', yQ'⟩⟩ := y
      simp only at A0 A1 A2 A3 A4 E0 E1 E2 E3 E4 HB1 HX
      generalize Value.slice xa xQ.length xc = vx at A2
      generalize Value.slice xa' xQ'.length xc' = vx' at A4
      generalize Value.slice ya yQ.length yc = vy at E2
      generalize Value.slice ya' yQ'.length yc' = vy' at E4
      have hO := fun W => byC_any xs ys (.int .i64 xr) vx (.int .i64 xr') vx' (.int .i64 yr) vy (.int .i64 yr') vy' W
      generalize cmpS xs ys = r at hO HB1 HX
      obtain ⟨m, hm⟩ : ∃ m, m = k + 1 := ⟨_, rfl⟩
      rw [← hm] at E0 E1 E2 E3 E4 ⊢
      have HM : Hid (m = k + 1) := hm
      have ek : IntKind.i64.wrap ((m : Int) - 1) = (k : Int) := by rw [hm]; have h1 : ((k + 1 : Nat) : Int) - 1 = k := (by omega); rw [h1]; simp [IntKind.wrap, IntKind.bits, IntKind.signed]; omega
      have hkz : (m : Int) < (n : Int) := by omega
      have hkn : (k : Int) < (n : Int) := by omega
      have hk0 : (0 : Int) ≤ (k : Int) := by omega
      clear hm
      by_cases hlo : r < 0
      · have hlo' : ¬ (0 ≤ r) := by omega
        go_wp2
        go_region_held3 (fun w' => w'.cell? ⟨w.heap.size, 0, none⟩ = some (.slice (some ⟨b, off, none⟩) n cap) ∧ w'.cell? ⟨w.heap.size, 1, none⟩ = some (.func (.func 103) #[] #[]) ∧ w'.cell? ⟨b, off + k * 5, none⟩ = some (.string xs) ∧ w'.cell? ⟨b, off + k * 5 + 1, none⟩ = some (.int .i64 xr) ∧ w'.cell? ⟨b, off + k * 5 + 2, none⟩ = some vx ∧ w'.cell? ⟨b, off + k * 5 + 3, none⟩ = some (.int .i64 xr') ∧ w'.cell? ⟨b, off + k * 5 + 4, none⟩ = some vx' ∧ w'.cell? ⟨b, off + m * 5, none⟩ = some (.string ys) ∧ w'.cell? ⟨b, off + m * 5 + 1, none⟩ = some (.int .i64 yr) ∧ w'.cell? ⟨b, off + m * 5 + 2, none⟩ = some vy ∧ w'.cell? ⟨b, off + m * 5 + 3, none⟩ = some (.int .i64 yr') ∧ w'.cell? ⟨b, off + m * 5 + 4, none⟩ = some vy') (go_keep) (first
          | (go_at_call 103; refine (hO _).mono ?_; rintro e w1 ⟨rfl, hb⟩; replace hb := Rw.next ((Below.refl _ _).drew) hb; clear p0 p1; replace hbel := Rw.next hbel hb; replace k0 := (hb.block _ (blk_lt k0)).trans k0; obtain ⟨p0, p1⟩ := two k0; replace A0 := (hb.cell lb).trans A0; replace A1 := (hb.cell lb).trans A1; replace A2 := (hb.cell lb).trans A2; replace A3 := (hb.cell lb).trans A3; replace A4 := (hb.cell lb).trans A4; replace E0 := (hb.cell lb).trans E0; replace E1 := (hb.cell lb).trans E1; replace E2 := (hb.cell lb).trans E2; replace E3 := (hb.cell lb).trans E3; replace E4 := (hb.cell lb).trans E4))
        go_wp2
        go_roundw
        case rel => exact ⟨k + 1, .inr hlt, by have := HM.out; subst this; go_num, hbel, HX.out hlo⟩
        case measure => have := HM.out; simp [intOf]; omega
      · have hlo' : 0 ≤ r := by omega
        go_wp2
        go_region_held3 (fun w' => w'.cell? ⟨w.heap.size, 0, none⟩ = some (.slice (some ⟨b, off, none⟩) n cap) ∧ w'.cell? ⟨w.heap.size, 1, none⟩ = some (.func (.func 103) #[] #[]) ∧ w'.cell? ⟨b, off + k * 5, none⟩ = some (.string xs) ∧ w'.cell? ⟨b, off + k * 5 + 1, none⟩ = some (.int .i64 xr) ∧ w'.cell? ⟨b, off + k * 5 + 2, none⟩ = some vx ∧ w'.cell? ⟨b, off + k * 5 + 3, none⟩ = some (.int .i64 xr') ∧ w'.cell? ⟨b, off + k * 5 + 4, none⟩ = some vx' ∧ w'.cell? ⟨b, off + m * 5, none⟩ = some (.string ys) ∧ w'.cell? ⟨b, off + m * 5 + 1, none⟩ = some (.int .i64 yr) ∧ w'.cell? ⟨b, off + m * 5 + 2, none⟩ = some vy ∧ w'.cell? ⟨b, off + m * 5 + 3, none⟩ = some (.int .i64 yr') ∧ w'.cell? ⟨b, off + m * 5 + 4, none⟩ = some vy') (go_keep) (first
          | (go_at_call 103; refine (hO _).mono ?_; rintro e w1 ⟨rfl, hb⟩; replace hb := Rw.next ((Below.refl _ _).drew) hb; clear p0 p1; replace hbel := Rw.next hbel hb; replace k0 := (hb.block _ (blk_lt k0)).trans k0; obtain ⟨p0, p1⟩ := two k0; replace A0 := (hb.cell lb).trans A0; replace A1 := (hb.cell lb).trans A1; replace A2 := (hb.cell lb).trans A2; replace A3 := (hb.cell lb).trans A3; replace A4 := (hb.cell lb).trans A4; replace E0 := (hb.cell lb).trans E0; replace E1 := (hb.cell lb).trans E1; replace E2 := (hb.cell lb).trans E2; replace E3 := (hb.cell lb).trans E3; replace E4 := (hb.cell lb).trans E4))
        go_wp2
        go_ret
        exact ⟨ret_bool (HB1.out hlo').symm, Rw.next B1 hbel⟩
    · have hkz : ¬ ((k + 1 : Nat) : Int) < (n : Int) := by omega
      go_wp2
      go_ret
      exact ⟨ret_bool (HG.out fun i hi => HP.out i (by have := HK.out; omega)).symm, Rw.next B1 hbel⟩

theorem setC_any (a : Option Addr) (n c : Nat) (w : World) :
    Calls Tryz.prog 49 #[.agg #[.slice a n c]] w fun e w' => e = .returned (.agg #[.slice a n c, .func (.func 103) #[] #[]]) ∧ Below w.heap.size w w' := by
  have B := below_alloc1 w (.cells #[.slice a n c] 30)
  go_enter Tryz.func49, Tryz.ntmps49
  go_wp2
  obtain ⟨c0, c1⟩ := two (w := (w.alloc (.cells #[.slice a n c] 30)).alloc (.cells #[.slice a n c, .func (.func 103) #[] #[]] 88)) (g := w.heap.size + 1) (at_new (by simp))
  exact bodyPost_ret (v := .agg #[.slice a n c, .func (.func 103) #[] #[]]) (by simp [results, Tryz.results49, go_sem, c0, c1]) rfl ⟨rfl, Rw.next B (below_alloc1 _ _)⟩

set_option maxHeartbeats 1000000 in
theorem okI_any (a : Option Addr) (b off cap : Nat) (T : List Cm) (w : World) (h : Rd w a b off T) (hm : Rooms T) :
    Calls Tryz.prog 14 #[.agg #[.slice a T.length cap]] w fun e w' => e = .returned (.bool (deltaB (told T))) ∧ Below w.heap.size w w' := by
  obtain ⟨W1, hW1⟩ : ∃ W1, W1 = w.alloc (.cells #[.slice a T.length cap] 30) := ⟨_, rfl⟩
  have B1 : Below w.heap.size w W1 := by subst hW1; exact below_alloc1 _ _
  have k0 : W1.heap[w.heap.size]? = some (.cells #[.slice a T.length cap] 30 (0, 0)) := by subst hW1; exact at_new rfl
  replace h := h.below B1
  unfold deltaB
  rw [told_len]
  by_cases hB : T.length ≤ 24
  · have hB' : (T.length : Int) ≤ 24 := by omega
    rw [decide_eq_true hB]
    have hC := containsC_any a b off cap T W1 h hm
    cases hF : (told T).all changeB with
    | false =>
      rw [hF] at hC
      clear hB
      go_enter Tryz.func14, Tryz.ntmps14
      go_wp2_with (go_at_call 48; rw [← hW1]; clear hW1; refine hC.mono ?_; rintro e w1 ⟨rfl, hb⟩)
      go_ret
      exact ⟨ret_bool (by simp), Rw.next B1 hb⟩
    | true =>
      rw [hF] at hC
      have hS := fun W h' => risesC_any a b off cap T W h'
      generalize risesC (told T) = R at hS ⊢
      clear hB hF
      go_enter Tryz.func14, Tryz.ntmps14
      go_wp2_with (first
        | (go_at_call 48; rw [← hW1]; clear hW1; refine hC.mono ?_; rintro e w1 ⟨rfl, hb⟩; replace B1 := Rw.next B1 hb; replace k0 := (hb.block _ (blk_lt k0)).trans k0; replace h := h.below hb; clear hb; have p0 := one k0)
        | (go_at_call 49; refine (setC_any _ _ _ _).mono ?_; rintro e w2 ⟨rfl, hb⟩; replace B1 := Rw.next B1 hb; replace h := h.below hb; clear hb p0)
        | (go_at_call 50; refine (hS _ h).mono ?_; rintro e w3 ⟨rfl, hb⟩))
      go_ret
      exact ⟨ret_bool (by simp), Rw.next B1 hb⟩
  · have hB' : ¬ (T.length : Int) ≤ 24 := by omega
    rw [decide_eq_false hB]
    clear hB
    go_enter Tryz.func14, Tryz.ntmps14
    go_wp2
    go_ret
    exact ⟨ret_bool (by simp), by rw [← hW1]; exact B1⟩

end Go.Proofs.YtkpchlojapkimaaGreat.Ch

namespace Go.Proofs.YtkpchlojapkimaaGreat.Ch
set_option maxRecDepth 8000
set_option linter.unusedSimpArgs false
set_option linter.unusedVariables false
open Go Go.ChangeShapes Go.WideShapes Go.RowKit
open Num Word Pl Rp
open Rl (Rm rm0 said twoB)
open Vl (cmpS strLt)
open St (specWord_bel)

theorem filter_is (R S : List RowL) : (R.filter fun x => decide (x ∈ S) == true) = R.filter fun x => decide (x ∈ S) := by simp

theorem field_rows (x : Int) (a : Option Addr) (n c : Nat) (w : World) : (Instr.field 67 (.agg #[.int .i64 x, .slice a n c]) 1).run Tryz.prog w = .ok (.slice a n c) w := by kernel_rfl
set_option maxHeartbeats 1000000 in
theorem apartS_any (x y : Int) (a a' : Option Addr) (b off cap b' off' cap' : Nat) (Q P : List Rm) (w : World) (h : Rl.Rd w a b off Q) (h' : Rl.Rd w a' b' off' P) (hl : Q.length ≤ 100000) :
    Calls Tryz.prog 60 #[.agg #[.int .i64 x, .slice a Q.length cap], .agg #[.int .i64 y, .slice a' P.length cap']] w fun e w' => e = .returned (.bool (decide (((said Q).filter fun z => decide (z ∈ said P)).length = 0))) ∧ Below w.heap.size w w' := by
  have B := below_alloc2 w (.cells #[.int .i64 x, .slice a Q.length cap] 67) (.cells #[.int .i64 y, .slice a' P.length cap'] 67)
  have hS := Rl.sift_any x y a a' b off cap b' off' cap' Q P true _ (h.below B) (h'.below B) hl
  rw [filter_is] at hS
  have hfl : ((said Q).filter fun z => decide (z ∈ said P)).length ≤ 100000 := Nat.le_trans (List.length_filter_le _ _) (by rw [Rl.said_len]; exact hl)
  generalize ((said Q).filter fun z => decide (z ∈ said P)) = X at hS hfl ⊢
  have HF : Hid (X.length ≤ 100000) := hfl
  have hfr := field_rows x
  clear hfl hl
  by_cases h0 : X.length = 0
  · have e0 : decide (X.length = 0) = true := decide_eq_true h0
    rw [e0]
    have HX : Hid (X.length = 0) := h0
    clear h0 e0
    go_enter Tryz.func60, Tryz.ntmps60
    go_wp2_with (go_at_call 40; refine hS.mono ?_; rintro e w1 ⟨v, F, rfl, hot, sF, hb⟩; obtain ⟨ua, ug, uc, hv, _⟩ := hot.form (by have := HF.out; rw [← sF, Rl.said_len] at this; omega); subst hv; have hn : F.length = 0 := (by rw [← Rl.said_len, sF]; exact HX.out); rw [hn]; clear hn hot sF)
    go_ret
    exact ⟨rfl, Rw.next B hb⟩
  · have e0 : decide (X.length = 0) = false := decide_eq_false h0
    rw [e0]
    have HX : Hid (X.length ≠ 0) := h0
    clear h0 e0
    go_enter Tryz.func60, Tryz.ntmps60
    go_wp2_with (go_at_call 40; refine hS.mono ?_; rintro e w1 ⟨v, F, rfl, hot, sF, hb⟩; obtain ⟨ua, ug, uc, hv, _⟩ := hot.form (by have := HF.out; rw [← sF, Rl.said_len] at this; omega); subst hv; have hn : F.length ≠ 0 := (by rw [← Rl.said_len, sF]; exact HX.out); generalize F.length = fl at hn ⊢; have hz : ((fl : Int) == 0) = false := (by simp; omega); clear hn hot sF)
    go_ret
    exact ⟨rfl, Rw.next B hb⟩

/-- What is found wrong at change k. -/
def upC (T : List Cm) (k : Nat) : Bool := changeB (T.getD k cm0).l && (decide (k = 0) || strLt (T.getD (k - 1) cm0).s (T.getD k cm0).s)
theorem delta_loop {T : List Cm} (hB : T.length ≤ 24) : (∀ i, i < T.length → upC T i = true) → deltaB (told T) = true := by
  intro h
  unfold deltaB
  rw [told_len, decide_eq_true hB, all_at fun i hi => ?_]
  · simp only [Bool.true_and]
    rw [risesC_iff]
    intro i hi
    rw [told_len] at hi
    have h2 := h (i + 1) hi
    unfold upC at h2
    simp only [Nat.add_sub_cancel, Bool.and_eq_true, Bool.or_eq_true, decide_eq_true_eq] at h2
    rw [told_at (by omega), told_at hi]
    rcases h2.2 with e | e
    · omega
    · exact e
  · have := h i hi
    unfold upC at this
    rw [Bool.and_eq_true] at this; exact this.1
theorem delta_bad {T : List Cm} {k : Nat} (hk : k < T.length) (h : upC T k = false) : deltaB (told T) = false := by
  rw [← Bool.not_eq_true]
  intro e
  unfold deltaB at e
  simp only [Bool.and_eq_true] at e
  have h1 : changeB (T.getD k cm0).l = true := by
    rw [← Bool.not_eq_false]
    intro h1
    rw [all_bad hk h1] at e; simp at e
  unfold upC at h
  rw [h1] at h
  simp only [Bool.true_and, Bool.or_eq_false_iff, decide_eq_false_iff_not] at h
  obtain ⟨j, rfl⟩ : ∃ j, k = j + 1 := ⟨k - 1, by omega⟩
  simp only [Nat.add_sub_cancel] at h
  have := (risesC_iff _).1 e.2 j (by rw [told_len]; exact hk)
  rw [told_at (by omega), told_at hk] at this
  rw [show (T.getD j cm0).l.1 = (T.getD j cm0).s from rfl, show (T.getD (j + 1) cm0).l.1 = (T.getD (j + 1) cm0).s from rfl, h.2] at this
  simp at this

/-- What a region reads: the delta's head, a change in its box, a name. -/
def Hold (d g b : Nat) (v0 u0 u1 u2 u3 u4 : Value) (b' q : Nat) (v' : Value) (w : World) : Prop :=
  w.cell? ⟨d, 0, none⟩ = some v0 ∧ w.cell? ⟨g, 0, none⟩ = some u0 ∧ w.cell? ⟨g, 1, none⟩ = some u1 ∧ w.cell? ⟨g, 2, none⟩ = some u2 ∧ w.cell? ⟨g, 3, none⟩ = some u3 ∧ w.cell? ⟨g, 4, none⟩ = some u4 ∧ w.cell? ⟨b', q, none⟩ = some v'
theorem Hold.below {d g b : Nat} {v0 : Value} {u0 u1 u2 u3 u4 : Value} {b' q : Nat} {v' : Value} {w w' : World} (h : Hold d g b v0 u0 u1 u2 u3 u4 b' q v' w) (hb : Below w.heap.size w w') : Hold d g b v0 u0 u1 u2 u3 u4 b' q v' w' := by
  obtain ⟨c0, c1, c2, c3, c4, c5, c6⟩ := h
  exact ⟨(hb.cell (World.block_lt_of_cell? _ _ c0)).trans c0, (hb.cell (World.block_lt_of_cell? _ _ c1)).trans c1, (hb.cell (World.block_lt_of_cell? _ _ c2)).trans c2, (hb.cell (World.block_lt_of_cell? _ _ c3)).trans c3, (hb.cell (World.block_lt_of_cell? _ _ c4)).trans c4, (hb.cell (World.block_lt_of_cell? _ _ c5)).trans c5, (hb.cell (World.block_lt_of_cell? _ _ c6)).trans c6⟩

set_option maxHeartbeats 8000000 in
theorem okS_any (a : Option Addr) (b off cap : Nat) (T : List Cm) (w : World) (h : Rd w a b off T) :
    Calls Tryz.prog 58 #[.agg #[.slice a T.length cap]] w fun e w' => e = .returned (.bool (deltaB (told T))) ∧ Below w.heap.size w w' := by
  obtain ⟨W1, hW1⟩ : ∃ W1, W1 = w.alloc (.cells #[.slice a T.length cap] 30) := ⟨_, rfl⟩
  have B1 : Below w.heap.size w W1 := by subst hW1; exact below_alloc1 _ _
  have k0 : W1.heap[w.heap.size]? = some (.cells #[.slice a T.length cap] 30 (0, 0)) := by subst hW1; exact at_new rfl
  by_cases hfew : 24 < T.length
  · have e : deltaB (told T) = false := by unfold deltaB; rw [told_len, decide_eq_false (by omega : ¬ T.length ≤ 24)]; simp
    rw [e]
    have hf : (24 : Int) < (T.length : Int) := by omega
    clear hW1
    go_enter Tryz.func58, Tryz.ntmps58
    go_wp2
    go_ret
    exact ⟨rfl, below_alloc1 _ _⟩
  have hf : ¬ (24 : Int) < (T.length : Int) := by omega
  obtain ⟨hh, hc, ho, hs, hst⟩ := h.below B1
  clear h
  obtain ⟨R, hR⟩ : ∃ R, R = deltaB (told T) := ⟨_, rfl⟩
  have HG : Hid ((∀ i, i < T.length → upC T i = true) → R = true) := fun h => by rw [hR]; exact delta_loop (by omega) h
  have HB : Hid (∀ k, k < T.length → upC T k = false → R = false) := fun k hk h => by rw [hR]; exact delta_bad hk h
  rw [← hR]
  clear hR hfew
  obtain ⟨n, hn⟩ : ∃ n, n = T.length := ⟨_, rfl⟩
  rw [← hn] at hh hc ho hs hf hst HG HB k0 hW1 ⊢
  clear hn
  go_enter Tryz.func58, Tryz.ntmps58
  go_wp2
  rw [← hW1]
  clear hW1
  go_loopw [12] (fun i wr => ∃ k : Nat, k ≤ n ∧ i = .int .i64 k ∧ Below W1.heap.size W1 wr ∧ ∀ i, i < k → upC T i = true) (fun i _ => n - (intOf i).toNat)
  case atStart => exact ⟨0, Nat.zero_le _, rfl, Below.refl _ _, fun i hi => by omega⟩
  case round =>
    obtain ⟨k, hk, rfl, hbel, hpre⟩ := hrel
    have HP : Hid (∀ i, i < k → upC T i = true) := hpre
    clear hpre
    replace k0 := (hbel.block _ (blk_lt k0)).trans k0
    have p0 := one k0
    by_cases hlt : k < n
    · obtain rfl := hh (by omega)
      have hkz : (k : Int) < (n : Int) := by omega
      have hk0 : (0 : Int) ≤ (k : Int) := by omega
      have hnz : (0 : Int) < (n : Int) := by omega
      obtain ⟨A0, A1, A2, A3, A4⟩ := At5.of (hc k hlt) hbel (hc k hlt).lt
      have o1 := Rl.Rd.below (ho k hlt).1 hbel
      have o2 := Rl.Rd.below (ho k hlt).2 hbel
      have hst1 := hst k hlt
      have HB1 : Hid (upC T k = false → R = false) := HB.out k hlt
      have HX : Hid (upC T k = true → ∀ i, i < k + 1 → upC T i = true) := fun h i hi => by
        by_cases e : i = k
        · subst e; exact h
        · exact HP.out i (by omega)
      clear HB HP
      have lb := (hc k hlt).lt
      obtain ⟨ys, ⟨yr, ya, yb, yo, yc, yQ⟩, ⟨zr, za, zb, zo, zc, zQ⟩, hy⟩ : ∃ ys yp ym, T.getD k cm0 = ⟨ys, yp, ym⟩ := ⟨_, _, _, rfl⟩
      have hW := fun W => specWord_bel ys W (by rw [hy] at hst1; exact hst1)
      have hT := fun W h h' => Rl.twoS_any yr zr ya za yb yo yc zb zo zc yQ zQ W h h'
      have hA : twoB yr (said yQ) zr (said zQ) = true → ∀ W (h : Rl.Rd W ya yb yo yQ) (h' : Rl.Rd W za zb zo zQ), _ := fun ht W h h' => apartS_any yr zr ya za yb yo yc zb zo zc yQ zQ W h h' (by have := (two_parts ht).1.few; rw [Rl.said_len] at this; omega)
      have eC : changeB (T.getD k cm0).l = (wordB ys && !(decide (yQ.length = 0) && decide (zQ.length = 0)) && (twoB yr (said yQ) zr (said zQ) && decide (((said yQ).filter fun z => decide (z ∈ said zQ)).length = 0))) := by
        rw [hy]
        show (wordB ys && !(decide ((said yQ).length = 0) && decide ((said zQ).length = 0)) && (twoB yr (said yQ) zr (said zQ) && decide (((said yQ).filter fun z => decide (z ∈ said zQ)).length = 0))) = _
        rw [Rl.said_len, Rl.said_len]
      obtain ⟨s, hsum⟩ : ∃ s, s = yQ.length + zQ.length := ⟨_, rfl⟩
      have HI : Hid (s = 0 → (decide (yQ.length = 0) && decide (zQ.length = 0)) = true) := fun h => by rw [Bool.and_eq_true]; exact ⟨decide_eq_true (by omega), decide_eq_true (by omega)⟩
      have HJ : Hid (s ≠ 0 → (decide (yQ.length = 0) && decide (zQ.length = 0)) = false) := fun h => by
        by_cases h1 : yQ.length = 0
        · rw [decide_eq_false (by omega : ¬ zQ.length = 0), Bool.and_false]
        · rw [decide_eq_false h1, Bool.false_and]
      have eS : IntKind.i64.wrap ((yQ.length : Int) + (zQ.length : Int)) = (s : Int) := by
        have h1 := (ho k hlt).1.size; have h2 := (ho k hlt).2.size; rw [hy] at h1 h2
        rw [IntKind.wrap_i64]; simp only at h1 h2; omega
      simp only [hy] at A0 A1 A2 A3 A4 o1 o2
      generalize wordB ys = Wd at hW eC
      generalize twoB yr (said yQ) zr (said zQ) = Tw at hT hA eC
      generalize decide (((said yQ).filter fun z => decide (z ∈ said zQ)).length = 0) = Ap at hA eC
      generalize (decide (yQ.length = 0) && decide (zQ.length = 0)) = Id at HI HJ eC
      clear hsum hst1
      obtain ⟨W2, hW2⟩ : ∃ W2, W2 = wr.alloc (.cells #[.string ys, .int .i64 yr, .slice ya yQ.length yc, .int .i64 zr, .slice za zQ.length zc] 71) := ⟨_, rfl⟩
      have B2 : Below wr.heap.size wr W2 := by subst hW2; exact below_alloc1 _ _
      have kg : W2.heap[wr.heap.size]? = some (.cells #[.string ys, .int .i64 yr, .slice ya yQ.length yc, .int .i64 zr, .slice za zQ.length zc] 71 (0, 0)) := by subst hW2; exact at_new rfl
      have q0 := (B2.cell (World.block_lt_of_cell? _ _ p0)).trans p0
      obtain ⟨g0, g1, g2, g3, g4⟩ := five kg
      have hb2 := Rw.next hbel B2
      have r1 := o1.below B2
      have r2 := o2.below B2
      go_wp2
      rw [← hW2]
      by_cases hk1 : k = 0
      · subst hk1
        have eu : upC T 0 = (Wd && !Id && (Tw && Ap)) := by unfold upC; rw [eC]; simp
        rw [eu] at HB1 HX
        have hH : Hold w.heap.size wr.heap.size b (.slice (some ⟨b, off, none⟩) n cap) (.string ys) (.int .i64 yr) (.slice ya yQ.length yc) (.int .i64 zr) (.slice za zQ.length zc) wr.heap.size 0 (.string ys) W2 := ⟨q0, g0, g1, g2, g3, g4, g0⟩
        replace hbel := hb2
        replace o1 := r1
        replace o2 := r2
        clear eu eC hc ho hh hst A0 A1 A2 A3 A4 p0 q0 g0 g1 g2 g3 g4 kg hb2 r1 r2 B2 hW2 hy k0
        generalize wr.heap.size = g at hH ⊢
        generalize W2 = wr at hH hbel o1 o2 ⊢
        cases Wd with
        | false =>
          refine wp_region_held_drew (S := Hold w.heap.size g b (.slice (some ⟨b, off, none⟩) n cap) (.string ys) (.int .i64 yr) (.slice ya yQ.length yc) (.int .i64 zr) (.slice za zQ.length zc) g 0 (.string ys)) (by kernel_rfl) hH (fun hHeld => ?_)
          replace hbel := Rw.next hbel ((Below.refl _ _).drew)
          replace o1 := o1.below ((Below.refl _ _).drew)
          replace o2 := o2.below ((Below.refl _ _).drew)
          refine Hn.take (i := 0) (d := some 17) (v := .pointer (some ⟨g, 0, none⟩)) rfl (by kernel_rfl) (by kernel_rfl) (by kernel_rfl) (by kernel_rfl) (fun _ _ _ h => h) (Or.inl ⟨by rfl, by intro w hSw; go_simp⟩) hHeld ?_
          simp only [Act.put, Hn.p1, Hn.p2, Hn.p3]
          refine Hn.take (i := 1) (d := some 18) (v := .string ys) rfl (by kernel_rfl) (by kernel_rfl) (by kernel_rfl) (by kernel_rfl) (fun _ _ _ h => h) (Or.inl ⟨by rfl, by intro w hSw; obtain ⟨c0, c1, c2, c3, c4, c5, c6⟩ := hSw; go_simp⟩) hHeld ?_
          simp only [Act.put, Hn.p1, Hn.p2, Hn.p3]
          refine wpAnyH_ready (rs := [2]) (by kernel_rfl) (by simp) (Hn.call1 (i := 2) rfl (by rfl) 81 (.tmp 18) 9 (by kernel_rfl) 19 (by kernel_rfl) (.string ys) (by kernel_rfl) (fun _ => rfl) (hW _) ?_ AllReadyH.nil)
          rintro e w1 ⟨rfl, hb⟩
          refine ⟨_, rfl, hHeld.below hb, fun hHeld => ?_⟩
          replace hbel := Rw.next hbel hb
          replace o1 := o1.below hb
          replace o2 := o2.below hb
          clear hb
          simp only [Act.put, Hn.p1, Hn.p2, Hn.p3]
          refine Hn.take (i := 3) (d := some 20) (v := .bool true) rfl (by kernel_rfl) (by kernel_rfl) (by kernel_rfl) (by kernel_rfl) (fun _ _ _ h => h) (Or.inl ⟨by rfl, by intro w hSw; go_simp⟩) hHeld ?_
          simp only [Act.put, Hn.p1, Hn.p2, Hn.p3]
          refine Hn.take (i := 4) (d := some 21) (v := .bool true) rfl (by kernel_rfl) (by kernel_rfl) (by kernel_rfl) (by kernel_rfl) (fun _ _ _ h => h) (Or.inl ⟨by rfl, by intro w hSw; go_simp⟩) hHeld ?_
          simp only [Act.put, Hn.p1, Hn.p2, Hn.p3]
          refine Hn.take (i := 5) (d := some 22) (v := undef) rfl (by kernel_rfl) (by kernel_rfl) (by kernel_rfl) (by kernel_rfl) (fun _ _ _ h => h) (Or.inr ⟨by rfl, rfl⟩) hHeld ?_
          simp only [Act.put, Hn.p1, Hn.p2, Hn.p3]
          refine Hn.take (i := 6) (d := some 23) (v := undef) rfl (by kernel_rfl) (by kernel_rfl) (by kernel_rfl) (by kernel_rfl) (fun _ _ _ h => h) (Or.inr ⟨by rfl, rfl⟩) hHeld ?_
          simp only [Act.put, Hn.p1, Hn.p2, Hn.p3]
          refine Hn.take (i := 7) (d := some 24) (v := undef) rfl (by kernel_rfl) (by kernel_rfl) (by kernel_rfl) (by kernel_rfl) (fun _ _ _ h => h) (Or.inr ⟨by rfl, rfl⟩) hHeld ?_
          simp only [Act.put, Hn.p1, Hn.p2, Hn.p3]
          refine Hn.take (i := 8) (d := some 25) (v := undef) rfl (by kernel_rfl) (by kernel_rfl) (by kernel_rfl) (by kernel_rfl) (fun _ _ _ h => h) (Or.inr ⟨by rfl, rfl⟩) hHeld ?_
          simp only [Act.put, Hn.p1, Hn.p2, Hn.p3]
          refine Hn.take (i := 9) (d := some 26) (v := undef) rfl (by kernel_rfl) (by kernel_rfl) (by kernel_rfl) (by kernel_rfl) (fun _ _ _ h => h) (Or.inr ⟨by rfl, rfl⟩) hHeld ?_
          simp only [Act.put, Hn.p1, Hn.p2, Hn.p3]
          refine Hn.take (i := 10) (d := some 27) (v := undef) rfl (by kernel_rfl) (by kernel_rfl) (by kernel_rfl) (by kernel_rfl) (fun _ _ _ h => h) (Or.inr ⟨by rfl, rfl⟩) hHeld ?_
          simp only [Act.put, Hn.p1, Hn.p2, Hn.p3]
          refine Hn.take (i := 11) (d := some 28) (v := undef) rfl (by kernel_rfl) (by kernel_rfl) (by kernel_rfl) (by kernel_rfl) (fun _ _ _ h => h) (Or.inr ⟨by rfl, rfl⟩) hHeld ?_
          simp only [Act.put, Hn.p1, Hn.p2, Hn.p3]
          refine Hn.take (i := 12) (d := some 29) (v := undef) rfl (by kernel_rfl) (by kernel_rfl) (by kernel_rfl) (by kernel_rfl) (fun _ _ _ h => h) (Or.inr ⟨by rfl, rfl⟩) hHeld ?_
          simp only [Act.put, Hn.p1, Hn.p2, Hn.p3]
          refine Hn.take (i := 13) (d := some 30) (v := undef) rfl (by kernel_rfl) (by kernel_rfl) (by kernel_rfl) (by kernel_rfl) (fun _ _ _ h => h) (Or.inr ⟨by rfl, rfl⟩) hHeld ?_
          simp only [Act.put, Hn.p1, Hn.p2, Hn.p3]
          refine Hn.take (i := 14) (d := some 31) (v := undef) rfl (by kernel_rfl) (by kernel_rfl) (by kernel_rfl) (by kernel_rfl) (fun _ _ _ h => h) (Or.inr ⟨by rfl, rfl⟩) hHeld ?_
          simp only [Act.put, Hn.p1, Hn.p2, Hn.p3]
          refine Hn.take (i := 15) (d := some 32) (v := undef) rfl (by kernel_rfl) (by kernel_rfl) (by kernel_rfl) (by kernel_rfl) (fun _ _ _ h => h) (Or.inr ⟨by rfl, rfl⟩) hHeld ?_
          simp only [Act.put, Hn.p1, Hn.p2, Hn.p3]
          refine Hn.take (i := 16) (d := some 33) (v := undef) rfl (by kernel_rfl) (by kernel_rfl) (by kernel_rfl) (by kernel_rfl) (fun _ _ _ h => h) (Or.inr ⟨by rfl, rfl⟩) hHeld ?_
          simp only [Act.put, Hn.p1, Hn.p2, Hn.p3]
          refine Hn.take (i := 17) (d := some 34) (v := undef) rfl (by kernel_rfl) (by kernel_rfl) (by kernel_rfl) (by kernel_rfl) (fun _ _ _ h => h) (Or.inr ⟨by rfl, rfl⟩) hHeld ?_
          simp only [Act.put, Hn.p1, Hn.p2, Hn.p3]
          refine Hn.take (i := 18) (d := some 35) (v := undef) rfl (by kernel_rfl) (by kernel_rfl) (by kernel_rfl) (by kernel_rfl) (fun _ _ _ h => h) (Or.inr ⟨by rfl, rfl⟩) hHeld ?_
          simp only [Act.put, Hn.p1, Hn.p2, Hn.p3]
          refine Hn.take (i := 19) (d := some 36) (v := .bool true) rfl (by kernel_rfl) (by kernel_rfl) (by kernel_rfl) (by kernel_rfl) (fun _ _ _ h => h) (Or.inl ⟨by rfl, by intro w hSw; go_simp⟩) hHeld ?_
          simp only [Act.put, Hn.p1, Hn.p2, Hn.p3]
          refine Hn.take (i := 20) (d := some 37) (v := .bool true) rfl (by kernel_rfl) (by kernel_rfl) (by kernel_rfl) (by kernel_rfl) (fun _ _ _ h => h) (Or.inl ⟨by rfl, by intro w hSw; go_simp⟩) hHeld ?_
          simp only [Act.put, Hn.p1, Hn.p2, Hn.p3]
          refine Hn.take (i := 21) (d := some 38) (v := undef) rfl (by kernel_rfl) (by kernel_rfl) (by kernel_rfl) (by kernel_rfl) (fun _ _ _ h => h) (Or.inr ⟨by rfl, rfl⟩) hHeld ?_
          simp only [Act.put, Hn.p1, Hn.p2, Hn.p3]
          refine Hn.take (i := 22) (d := some 39) (v := undef) rfl (by kernel_rfl) (by kernel_rfl) (by kernel_rfl) (by kernel_rfl) (fun _ _ _ h => h) (Or.inr ⟨by rfl, rfl⟩) hHeld ?_
          simp only [Act.put, Hn.p1, Hn.p2, Hn.p3]
          refine Hn.take (i := 23) (d := some 40) (v := undef) rfl (by kernel_rfl) (by kernel_rfl) (by kernel_rfl) (by kernel_rfl) (fun _ _ _ h => h) (Or.inr ⟨by rfl, rfl⟩) hHeld ?_
          simp only [Act.put, Hn.p1, Hn.p2, Hn.p3]
          refine Hn.take (i := 24) (d := some 41) (v := undef) rfl (by kernel_rfl) (by kernel_rfl) (by kernel_rfl) (by kernel_rfl) (fun _ _ _ h => h) (Or.inr ⟨by rfl, rfl⟩) hHeld ?_
          simp only [Act.put, Hn.p1, Hn.p2, Hn.p3]
          refine Hn.take (i := 25) (d := some 42) (v := undef) rfl (by kernel_rfl) (by kernel_rfl) (by kernel_rfl) (by kernel_rfl) (fun _ _ _ h => h) (Or.inr ⟨by rfl, rfl⟩) hHeld ?_
          simp only [Act.put, Hn.p1, Hn.p2, Hn.p3]
          refine Hn.take (i := 26) (d := some 43) (v := undef) rfl (by kernel_rfl) (by kernel_rfl) (by kernel_rfl) (by kernel_rfl) (fun _ _ _ h => h) (Or.inr ⟨by rfl, rfl⟩) hHeld ?_
          simp only [Act.put, Hn.p1, Hn.p2, Hn.p3]
          refine Hn.take (i := 27) (d := some 44) (v := .bool true) rfl (by kernel_rfl) (by kernel_rfl) (by kernel_rfl) (by kernel_rfl) (fun _ _ _ h => h) (Or.inl ⟨by rfl, by intro w hSw; go_simp⟩) hHeld ?_
          simp only [Act.put, Hn.p1, Hn.p2, Hn.p3]
          refine wpAnyH_done (by kernel_rfl) ?_ _
          go_wp2
          go_ret
          exact ⟨ret_bool (HB1.out (by simp)).symm, Rw.next B1 hbel⟩
        | true =>
          cases Tw with
          | false =>
            refine wp_region_held_drew (S := Hold w.heap.size g b (.slice (some ⟨b, off, none⟩) n cap) (.string ys) (.int .i64 yr) (.slice ya yQ.length yc) (.int .i64 zr) (.slice za zQ.length zc) g 0 (.string ys)) (by kernel_rfl) hH (fun hHeld => ?_)
            replace hbel := Rw.next hbel ((Below.refl _ _).drew)
            replace o1 := o1.below ((Below.refl _ _).drew)
            replace o2 := o2.below ((Below.refl _ _).drew)
            refine Hn.take (i := 0) (d := some 17) (v := .pointer (some ⟨g, 0, none⟩)) rfl (by kernel_rfl) (by kernel_rfl) (by kernel_rfl) (by kernel_rfl) (fun _ _ _ h => h) (Or.inl ⟨by rfl, by intro w hSw; go_simp⟩) hHeld ?_
            simp only [Act.put, Hn.p1, Hn.p2, Hn.p3]
            refine Hn.take (i := 1) (d := some 18) (v := .string ys) rfl (by kernel_rfl) (by kernel_rfl) (by kernel_rfl) (by kernel_rfl) (fun _ _ _ h => h) (Or.inl ⟨by rfl, by intro w hSw; obtain ⟨c0, c1, c2, c3, c4, c5, c6⟩ := hSw; go_simp⟩) hHeld ?_
            simp only [Act.put, Hn.p1, Hn.p2, Hn.p3]
            refine wpAnyH_ready (rs := [2]) (by kernel_rfl) (by simp) (Hn.call1 (i := 2) rfl (by rfl) 81 (.tmp 18) 9 (by kernel_rfl) 19 (by kernel_rfl) (.string ys) (by kernel_rfl) (fun _ => rfl) (hW _) ?_ AllReadyH.nil)
            rintro e w1 ⟨rfl, hb⟩
            refine ⟨_, rfl, hHeld.below hb, fun hHeld => ?_⟩
            replace hbel := Rw.next hbel hb
            replace o1 := o1.below hb
            replace o2 := o2.below hb
            clear hb
            simp only [Act.put, Hn.p1, Hn.p2, Hn.p3]
            refine Hn.take (i := 3) (d := some 20) (v := .bool false) rfl (by kernel_rfl) (by kernel_rfl) (by kernel_rfl) (by kernel_rfl) (fun _ _ _ h => h) (Or.inl ⟨by rfl, by intro w hSw; go_simp⟩) hHeld ?_
            simp only [Act.put, Hn.p1, Hn.p2, Hn.p3]
            refine Hn.take (i := 4) (d := some 21) (v := .bool false) rfl (by kernel_rfl) (by kernel_rfl) (by kernel_rfl) (by kernel_rfl) (fun _ _ _ h => h) (Or.inl ⟨by rfl, by intro w hSw; go_simp⟩) hHeld ?_
            simp only [Act.put, Hn.p1, Hn.p2, Hn.p3]
            refine Hn.take (i := 5) (d := some 22) (v := .int .i64 0) rfl (by kernel_rfl) (by kernel_rfl) (by kernel_rfl) (by kernel_rfl) (fun _ _ _ h => h) (Or.inl ⟨by rfl, by intro w hSw; go_simp⟩) hHeld ?_
            simp only [Act.put, Hn.p1, Hn.p2, Hn.p3]
            refine Hn.take (i := 6) (d := some 23) (v := .bool false) rfl (by kernel_rfl) (by kernel_rfl) (by kernel_rfl) (by kernel_rfl) (fun _ _ _ h => h) (Or.inl ⟨by rfl, by intro w hSw; go_simp⟩) hHeld ?_
            simp only [Act.put, Hn.p1, Hn.p2, Hn.p3]
            refine Hn.take (i := 7) (d := some 24) (v := .bool false) rfl (by kernel_rfl) (by kernel_rfl) (by kernel_rfl) (by kernel_rfl) (fun _ _ _ h => h) (Or.inl ⟨by rfl, by intro w hSw; go_simp⟩) hHeld ?_
            simp only [Act.put, Hn.p1, Hn.p2, Hn.p3]
            refine Hn.take (i := 8) (d := some 25) (v := undef) rfl (by kernel_rfl) (by kernel_rfl) (by kernel_rfl) (by kernel_rfl) (fun _ _ _ h => h) (Or.inr ⟨by rfl, rfl⟩) hHeld ?_
            simp only [Act.put, Hn.p1, Hn.p2, Hn.p3]
            refine Hn.take (i := 9) (d := some 26) (v := undef) rfl (by kernel_rfl) (by kernel_rfl) (by kernel_rfl) (by kernel_rfl) (fun _ _ _ h => h) (Or.inr ⟨by rfl, rfl⟩) hHeld ?_
            simp only [Act.put, Hn.p1, Hn.p2, Hn.p3]
            refine Hn.take (i := 10) (d := some 27) (v := undef) rfl (by kernel_rfl) (by kernel_rfl) (by kernel_rfl) (by kernel_rfl) (fun _ _ _ h => h) (Or.inr ⟨by rfl, rfl⟩) hHeld ?_
            simp only [Act.put, Hn.p1, Hn.p2, Hn.p3]
            refine Hn.take (i := 11) (d := some 28) (v := undef) rfl (by kernel_rfl) (by kernel_rfl) (by kernel_rfl) (by kernel_rfl) (fun _ _ _ h => h) (Or.inr ⟨by rfl, rfl⟩) hHeld ?_
            simp only [Act.put, Hn.p1, Hn.p2, Hn.p3]
            refine Hn.take (i := 12) (d := some 29) (v := undef) rfl (by kernel_rfl) (by kernel_rfl) (by kernel_rfl) (by kernel_rfl) (fun _ _ _ h => h) (Or.inr ⟨by rfl, rfl⟩) hHeld ?_
            simp only [Act.put, Hn.p1, Hn.p2, Hn.p3]
            refine Hn.take (i := 13) (d := some 30) (v := undef) rfl (by kernel_rfl) (by kernel_rfl) (by kernel_rfl) (by kernel_rfl) (fun _ _ _ h => h) (Or.inr ⟨by rfl, rfl⟩) hHeld ?_
            simp only [Act.put, Hn.p1, Hn.p2, Hn.p3]
            refine Hn.take (i := 14) (d := some 31) (v := undef) rfl (by kernel_rfl) (by kernel_rfl) (by kernel_rfl) (by kernel_rfl) (fun _ _ _ h => h) (Or.inr ⟨by rfl, rfl⟩) hHeld ?_
            simp only [Act.put, Hn.p1, Hn.p2, Hn.p3]
            refine Hn.take (i := 15) (d := some 32) (v := undef) rfl (by kernel_rfl) (by kernel_rfl) (by kernel_rfl) (by kernel_rfl) (fun _ _ _ h => h) (Or.inr ⟨by rfl, rfl⟩) hHeld ?_
            simp only [Act.put, Hn.p1, Hn.p2, Hn.p3]
            refine Hn.take (i := 16) (d := some 33) (v := undef) rfl (by kernel_rfl) (by kernel_rfl) (by kernel_rfl) (by kernel_rfl) (fun _ _ _ h => h) (Or.inr ⟨by rfl, rfl⟩) hHeld ?_
            simp only [Act.put, Hn.p1, Hn.p2, Hn.p3]
            refine Hn.take (i := 17) (d := some 34) (v := undef) rfl (by kernel_rfl) (by kernel_rfl) (by kernel_rfl) (by kernel_rfl) (fun _ _ _ h => h) (Or.inr ⟨by rfl, rfl⟩) hHeld ?_
            simp only [Act.put, Hn.p1, Hn.p2, Hn.p3]
            refine Hn.take (i := 18) (d := some 35) (v := .bool false) rfl (by kernel_rfl) (by kernel_rfl) (by kernel_rfl) (by kernel_rfl) (fun _ _ _ h => h) (Or.inl ⟨by rfl, by intro w hSw; go_simp⟩) hHeld ?_
            simp only [Act.put, Hn.p1, Hn.p2, Hn.p3]
            refine Hn.take (i := 19) (d := some 36) (v := .bool false) rfl (by kernel_rfl) (by kernel_rfl) (by kernel_rfl) (by kernel_rfl) (fun _ _ _ h => h) (Or.inl ⟨by rfl, by intro w hSw; go_simp⟩) hHeld ?_
            simp only [Act.put, Hn.p1, Hn.p2, Hn.p3]
            refine Hn.take (i := 20) (d := some 37) (v := .bool false) rfl (by kernel_rfl) (by kernel_rfl) (by kernel_rfl) (by kernel_rfl) (fun _ _ _ h => h) (Or.inl ⟨by rfl, by intro w hSw; go_simp⟩) hHeld ?_
            simp only [Act.put, Hn.p1, Hn.p2, Hn.p3]
            refine Hn.take (i := 21) (d := some 38) (v := .pointer (some ⟨g, 1, none⟩)) rfl (by kernel_rfl) (by kernel_rfl) (by kernel_rfl) (by kernel_rfl) (fun _ _ _ h => h) (Or.inl ⟨by rfl, by intro w hSw; go_simp⟩) hHeld ?_
            simp only [Act.put, Hn.p1, Hn.p2, Hn.p3]
            refine Hn.take (i := 22) (d := some 39) (v := .agg #[.int .i64 yr, .slice ya yQ.length yc]) rfl (by kernel_rfl) (by kernel_rfl) (by kernel_rfl) (by kernel_rfl) (fun _ _ _ h => h) (Or.inl ⟨by rfl, by intro w hSw; obtain ⟨c0, c1, c2, c3, c4, c5, c6⟩ := hSw; go_simp⟩) hHeld ?_
            simp only [Act.put, Hn.p1, Hn.p2, Hn.p3]
            refine Hn.take (i := 23) (d := some 40) (v := .pointer (some ⟨g, 3, none⟩)) rfl (by kernel_rfl) (by kernel_rfl) (by kernel_rfl) (by kernel_rfl) (fun _ _ _ h => h) (Or.inl ⟨by rfl, by intro w hSw; go_simp⟩) hHeld ?_
            simp only [Act.put, Hn.p1, Hn.p2, Hn.p3]
            refine Hn.take (i := 24) (d := some 41) (v := .agg #[.int .i64 zr, .slice za zQ.length zc]) rfl (by kernel_rfl) (by kernel_rfl) (by kernel_rfl) (by kernel_rfl) (fun _ _ _ h => h) (Or.inl ⟨by rfl, by intro w hSw; obtain ⟨c0, c1, c2, c3, c4, c5, c6⟩ := hSw; go_simp⟩) hHeld ?_
            simp only [Act.put, Hn.p1, Hn.p2, Hn.p3]
            refine wpAnyH_ready (rs := [25]) (by kernel_rfl) (by simp) (Hn.call2 (i := 25) rfl (by rfl) 100 (.tmp 39) (.tmp 41) 67 67 (by kernel_rfl) 42 (by kernel_rfl) (.agg #[.int .i64 yr, .slice ya yQ.length yc]) (.agg #[.int .i64 zr, .slice za zQ.length zc]) (by kernel_rfl) (by kernel_rfl) (fun _ => rfl) (hT _ o1 o2) ?_ AllReadyH.nil)
            rintro e w2 ⟨rfl, hb⟩
            refine ⟨_, rfl, hHeld.below hb, fun hHeld => ?_⟩
            replace hbel := Rw.next hbel hb
            replace o1 := o1.below hb
            replace o2 := o2.below hb
            clear hb
            simp only [Act.put, Hn.p1, Hn.p2, Hn.p3]
            refine Hn.take (i := 26) (d := some 43) (v := .bool true) rfl (by kernel_rfl) (by kernel_rfl) (by kernel_rfl) (by kernel_rfl) (fun _ _ _ h => h) (Or.inl ⟨by rfl, by intro w hSw; go_simp⟩) hHeld ?_
            simp only [Act.put, Hn.p1, Hn.p2, Hn.p3]
            refine Hn.take (i := 27) (d := some 44) (v := .bool true) rfl (by kernel_rfl) (by kernel_rfl) (by kernel_rfl) (by kernel_rfl) (fun _ _ _ h => h) (Or.inl ⟨by rfl, by intro w hSw; go_simp⟩) hHeld ?_
            simp only [Act.put, Hn.p1, Hn.p2, Hn.p3]
            refine wpAnyH_done (by kernel_rfl) ?_ _
            go_wp2
            go_ret
            exact ⟨ret_bool (HB1.out (by simp)).symm, Rw.next B1 hbel⟩
          | true =>
            replace hA := hA rfl
            cases Ap with
            | false =>
              refine wp_region_held_drew (S := Hold w.heap.size g b (.slice (some ⟨b, off, none⟩) n cap) (.string ys) (.int .i64 yr) (.slice ya yQ.length yc) (.int .i64 zr) (.slice za zQ.length zc) g 0 (.string ys)) (by kernel_rfl) hH (fun hHeld => ?_)
              replace hbel := Rw.next hbel ((Below.refl _ _).drew)
              replace o1 := o1.below ((Below.refl _ _).drew)
              replace o2 := o2.below ((Below.refl _ _).drew)
              refine Hn.take (i := 0) (d := some 17) (v := .pointer (some ⟨g, 0, none⟩)) rfl (by kernel_rfl) (by kernel_rfl) (by kernel_rfl) (by kernel_rfl) (fun _ _ _ h => h) (Or.inl ⟨by rfl, by intro w hSw; go_simp⟩) hHeld ?_
              simp only [Act.put, Hn.p1, Hn.p2, Hn.p3]
              refine Hn.take (i := 1) (d := some 18) (v := .string ys) rfl (by kernel_rfl) (by kernel_rfl) (by kernel_rfl) (by kernel_rfl) (fun _ _ _ h => h) (Or.inl ⟨by rfl, by intro w hSw; obtain ⟨c0, c1, c2, c3, c4, c5, c6⟩ := hSw; go_simp⟩) hHeld ?_
              simp only [Act.put, Hn.p1, Hn.p2, Hn.p3]
              refine wpAnyH_ready (rs := [2]) (by kernel_rfl) (by simp) (Hn.call1 (i := 2) rfl (by rfl) 81 (.tmp 18) 9 (by kernel_rfl) 19 (by kernel_rfl) (.string ys) (by kernel_rfl) (fun _ => rfl) (hW _) ?_ AllReadyH.nil)
              rintro e w1 ⟨rfl, hb⟩
              refine ⟨_, rfl, hHeld.below hb, fun hHeld => ?_⟩
              replace hbel := Rw.next hbel hb
              replace o1 := o1.below hb
              replace o2 := o2.below hb
              clear hb
              simp only [Act.put, Hn.p1, Hn.p2, Hn.p3]
              refine Hn.take (i := 3) (d := some 20) (v := .bool false) rfl (by kernel_rfl) (by kernel_rfl) (by kernel_rfl) (by kernel_rfl) (fun _ _ _ h => h) (Or.inl ⟨by rfl, by intro w hSw; go_simp⟩) hHeld ?_
              simp only [Act.put, Hn.p1, Hn.p2, Hn.p3]
              refine Hn.take (i := 4) (d := some 21) (v := .bool false) rfl (by kernel_rfl) (by kernel_rfl) (by kernel_rfl) (by kernel_rfl) (fun _ _ _ h => h) (Or.inl ⟨by rfl, by intro w hSw; go_simp⟩) hHeld ?_
              simp only [Act.put, Hn.p1, Hn.p2, Hn.p3]
              refine Hn.take (i := 5) (d := some 22) (v := .int .i64 0) rfl (by kernel_rfl) (by kernel_rfl) (by kernel_rfl) (by kernel_rfl) (fun _ _ _ h => h) (Or.inl ⟨by rfl, by intro w hSw; go_simp⟩) hHeld ?_
              simp only [Act.put, Hn.p1, Hn.p2, Hn.p3]
              refine Hn.take (i := 6) (d := some 23) (v := .bool false) rfl (by kernel_rfl) (by kernel_rfl) (by kernel_rfl) (by kernel_rfl) (fun _ _ _ h => h) (Or.inl ⟨by rfl, by intro w hSw; go_simp⟩) hHeld ?_
              simp only [Act.put, Hn.p1, Hn.p2, Hn.p3]
              refine Hn.take (i := 7) (d := some 24) (v := .bool false) rfl (by kernel_rfl) (by kernel_rfl) (by kernel_rfl) (by kernel_rfl) (fun _ _ _ h => h) (Or.inl ⟨by rfl, by intro w hSw; go_simp⟩) hHeld ?_
              simp only [Act.put, Hn.p1, Hn.p2, Hn.p3]
              refine Hn.take (i := 8) (d := some 25) (v := undef) rfl (by kernel_rfl) (by kernel_rfl) (by kernel_rfl) (by kernel_rfl) (fun _ _ _ h => h) (Or.inr ⟨by rfl, rfl⟩) hHeld ?_
              simp only [Act.put, Hn.p1, Hn.p2, Hn.p3]
              refine Hn.take (i := 9) (d := some 26) (v := undef) rfl (by kernel_rfl) (by kernel_rfl) (by kernel_rfl) (by kernel_rfl) (fun _ _ _ h => h) (Or.inr ⟨by rfl, rfl⟩) hHeld ?_
              simp only [Act.put, Hn.p1, Hn.p2, Hn.p3]
              refine Hn.take (i := 10) (d := some 27) (v := undef) rfl (by kernel_rfl) (by kernel_rfl) (by kernel_rfl) (by kernel_rfl) (fun _ _ _ h => h) (Or.inr ⟨by rfl, rfl⟩) hHeld ?_
              simp only [Act.put, Hn.p1, Hn.p2, Hn.p3]
              refine Hn.take (i := 11) (d := some 28) (v := undef) rfl (by kernel_rfl) (by kernel_rfl) (by kernel_rfl) (by kernel_rfl) (fun _ _ _ h => h) (Or.inr ⟨by rfl, rfl⟩) hHeld ?_
              simp only [Act.put, Hn.p1, Hn.p2, Hn.p3]
              refine Hn.take (i := 12) (d := some 29) (v := undef) rfl (by kernel_rfl) (by kernel_rfl) (by kernel_rfl) (by kernel_rfl) (fun _ _ _ h => h) (Or.inr ⟨by rfl, rfl⟩) hHeld ?_
              simp only [Act.put, Hn.p1, Hn.p2, Hn.p3]
              refine Hn.take (i := 13) (d := some 30) (v := undef) rfl (by kernel_rfl) (by kernel_rfl) (by kernel_rfl) (by kernel_rfl) (fun _ _ _ h => h) (Or.inr ⟨by rfl, rfl⟩) hHeld ?_
              simp only [Act.put, Hn.p1, Hn.p2, Hn.p3]
              refine Hn.take (i := 14) (d := some 31) (v := undef) rfl (by kernel_rfl) (by kernel_rfl) (by kernel_rfl) (by kernel_rfl) (fun _ _ _ h => h) (Or.inr ⟨by rfl, rfl⟩) hHeld ?_
              simp only [Act.put, Hn.p1, Hn.p2, Hn.p3]
              refine Hn.take (i := 15) (d := some 32) (v := undef) rfl (by kernel_rfl) (by kernel_rfl) (by kernel_rfl) (by kernel_rfl) (fun _ _ _ h => h) (Or.inr ⟨by rfl, rfl⟩) hHeld ?_
              simp only [Act.put, Hn.p1, Hn.p2, Hn.p3]
              refine Hn.take (i := 16) (d := some 33) (v := undef) rfl (by kernel_rfl) (by kernel_rfl) (by kernel_rfl) (by kernel_rfl) (fun _ _ _ h => h) (Or.inr ⟨by rfl, rfl⟩) hHeld ?_
              simp only [Act.put, Hn.p1, Hn.p2, Hn.p3]
              refine Hn.take (i := 17) (d := some 34) (v := undef) rfl (by kernel_rfl) (by kernel_rfl) (by kernel_rfl) (by kernel_rfl) (fun _ _ _ h => h) (Or.inr ⟨by rfl, rfl⟩) hHeld ?_
              simp only [Act.put, Hn.p1, Hn.p2, Hn.p3]
              refine Hn.take (i := 18) (d := some 35) (v := .bool false) rfl (by kernel_rfl) (by kernel_rfl) (by kernel_rfl) (by kernel_rfl) (fun _ _ _ h => h) (Or.inl ⟨by rfl, by intro w hSw; go_simp⟩) hHeld ?_
              simp only [Act.put, Hn.p1, Hn.p2, Hn.p3]
              refine Hn.take (i := 19) (d := some 36) (v := .bool false) rfl (by kernel_rfl) (by kernel_rfl) (by kernel_rfl) (by kernel_rfl) (fun _ _ _ h => h) (Or.inl ⟨by rfl, by intro w hSw; go_simp⟩) hHeld ?_
              simp only [Act.put, Hn.p1, Hn.p2, Hn.p3]
              refine Hn.take (i := 20) (d := some 37) (v := .bool false) rfl (by kernel_rfl) (by kernel_rfl) (by kernel_rfl) (by kernel_rfl) (fun _ _ _ h => h) (Or.inl ⟨by rfl, by intro w hSw; go_simp⟩) hHeld ?_
              simp only [Act.put, Hn.p1, Hn.p2, Hn.p3]
              refine Hn.take (i := 21) (d := some 38) (v := .pointer (some ⟨g, 1, none⟩)) rfl (by kernel_rfl) (by kernel_rfl) (by kernel_rfl) (by kernel_rfl) (fun _ _ _ h => h) (Or.inl ⟨by rfl, by intro w hSw; go_simp⟩) hHeld ?_
              simp only [Act.put, Hn.p1, Hn.p2, Hn.p3]
              refine Hn.take (i := 22) (d := some 39) (v := .agg #[.int .i64 yr, .slice ya yQ.length yc]) rfl (by kernel_rfl) (by kernel_rfl) (by kernel_rfl) (by kernel_rfl) (fun _ _ _ h => h) (Or.inl ⟨by rfl, by intro w hSw; obtain ⟨c0, c1, c2, c3, c4, c5, c6⟩ := hSw; go_simp⟩) hHeld ?_
              simp only [Act.put, Hn.p1, Hn.p2, Hn.p3]
              refine Hn.take (i := 23) (d := some 40) (v := .pointer (some ⟨g, 3, none⟩)) rfl (by kernel_rfl) (by kernel_rfl) (by kernel_rfl) (by kernel_rfl) (fun _ _ _ h => h) (Or.inl ⟨by rfl, by intro w hSw; go_simp⟩) hHeld ?_
              simp only [Act.put, Hn.p1, Hn.p2, Hn.p3]
              refine Hn.take (i := 24) (d := some 41) (v := .agg #[.int .i64 zr, .slice za zQ.length zc]) rfl (by kernel_rfl) (by kernel_rfl) (by kernel_rfl) (by kernel_rfl) (fun _ _ _ h => h) (Or.inl ⟨by rfl, by intro w hSw; obtain ⟨c0, c1, c2, c3, c4, c5, c6⟩ := hSw; go_simp⟩) hHeld ?_
              simp only [Act.put, Hn.p1, Hn.p2, Hn.p3]
              refine wpAnyH_ready (rs := [25]) (by kernel_rfl) (by simp) (Hn.call2 (i := 25) rfl (by rfl) 100 (.tmp 39) (.tmp 41) 67 67 (by kernel_rfl) 42 (by kernel_rfl) (.agg #[.int .i64 yr, .slice ya yQ.length yc]) (.agg #[.int .i64 zr, .slice za zQ.length zc]) (by kernel_rfl) (by kernel_rfl) (fun _ => rfl) (hT _ o1 o2) ?_ AllReadyH.nil)
              rintro e w2 ⟨rfl, hb⟩
              refine ⟨_, rfl, hHeld.below hb, fun hHeld => ?_⟩
              replace hbel := Rw.next hbel hb
              replace o1 := o1.below hb
              replace o2 := o2.below hb
              clear hb
              simp only [Act.put, Hn.p1, Hn.p2, Hn.p3]
              refine Hn.take (i := 26) (d := some 43) (v := .bool false) rfl (by kernel_rfl) (by kernel_rfl) (by kernel_rfl) (by kernel_rfl) (fun _ _ _ h => h) (Or.inl ⟨by rfl, by intro w hSw; go_simp⟩) hHeld ?_
              simp only [Act.put, Hn.p1, Hn.p2, Hn.p3]
              refine Hn.take (i := 27) (d := some 44) (v := .bool false) rfl (by kernel_rfl) (by kernel_rfl) (by kernel_rfl) (by kernel_rfl) (fun _ _ _ h => h) (Or.inl ⟨by rfl, by intro w hSw; go_simp⟩) hHeld ?_
              simp only [Act.put, Hn.p1, Hn.p2, Hn.p3]
              refine wpAnyH_done (by kernel_rfl) ?_ _
              obtain ⟨c0, c1, c2, c3, c4, c5, c6⟩ := hHeld
              go_wp2_with (go_at_call 60; refine (hA _ o1 o2).mono ?_; rintro e w3 ⟨rfl, hb⟩; replace c3 := (hb.cell (World.block_lt_of_cell? _ _ c3)).trans c3; replace c5 := (hb.cell (World.block_lt_of_cell? _ _ c5)).trans c5; replace hbel := Rw.next hbel hb; clear hb)
              go_ret
              exact ⟨ret_bool (HB1.out (by simp)).symm, Rw.next B1 hbel⟩
            | true =>
              by_cases hz : s = 0
              · subst hz
                have HI := HI.out rfl
                rw [HI] at HB1
                clear HI
                refine wp_region_held_drew (S := Hold w.heap.size g b (.slice (some ⟨b, off, none⟩) n cap) (.string ys) (.int .i64 yr) (.slice ya yQ.length yc) (.int .i64 zr) (.slice za zQ.length zc) g 0 (.string ys)) (by kernel_rfl) hH (fun hHeld => ?_)
                replace hbel := Rw.next hbel ((Below.refl _ _).drew)
                replace o1 := o1.below ((Below.refl _ _).drew)
                replace o2 := o2.below ((Below.refl _ _).drew)
                refine Hn.take (i := 0) (d := some 17) (v := .pointer (some ⟨g, 0, none⟩)) rfl (by kernel_rfl) (by kernel_rfl) (by kernel_rfl) (by kernel_rfl) (fun _ _ _ h => h) (Or.inl ⟨by rfl, by intro w hSw; go_simp⟩) hHeld ?_
                simp only [Act.put, Hn.p1, Hn.p2, Hn.p3]
                refine Hn.take (i := 1) (d := some 18) (v := .string ys) rfl (by kernel_rfl) (by kernel_rfl) (by kernel_rfl) (by kernel_rfl) (fun _ _ _ h => h) (Or.inl ⟨by rfl, by intro w hSw; obtain ⟨c0, c1, c2, c3, c4, c5, c6⟩ := hSw; go_simp⟩) hHeld ?_
                simp only [Act.put, Hn.p1, Hn.p2, Hn.p3]
                refine wpAnyH_ready (rs := [2]) (by kernel_rfl) (by simp) (Hn.call1 (i := 2) rfl (by rfl) 81 (.tmp 18) 9 (by kernel_rfl) 19 (by kernel_rfl) (.string ys) (by kernel_rfl) (fun _ => rfl) (hW _) ?_ AllReadyH.nil)
                rintro e w1 ⟨rfl, hb⟩
                refine ⟨_, rfl, hHeld.below hb, fun hHeld => ?_⟩
                replace hbel := Rw.next hbel hb
                replace o1 := o1.below hb
                replace o2 := o2.below hb
                clear hb
                simp only [Act.put, Hn.p1, Hn.p2, Hn.p3]
                refine Hn.take (i := 3) (d := some 20) (v := .bool false) rfl (by kernel_rfl) (by kernel_rfl) (by kernel_rfl) (by kernel_rfl) (fun _ _ _ h => h) (Or.inl ⟨by rfl, by intro w hSw; go_simp⟩) hHeld ?_
                simp only [Act.put, Hn.p1, Hn.p2, Hn.p3]
                refine Hn.take (i := 4) (d := some 21) (v := .bool false) rfl (by kernel_rfl) (by kernel_rfl) (by kernel_rfl) (by kernel_rfl) (fun _ _ _ h => h) (Or.inl ⟨by rfl, by intro w hSw; go_simp⟩) hHeld ?_
                simp only [Act.put, Hn.p1, Hn.p2, Hn.p3]
                refine Hn.take (i := 5) (d := some 22) (v := .int .i64 0) rfl (by kernel_rfl) (by kernel_rfl) (by kernel_rfl) (by kernel_rfl) (fun _ _ _ h => h) (Or.inl ⟨by rfl, by intro w hSw; go_simp⟩) hHeld ?_
                simp only [Act.put, Hn.p1, Hn.p2, Hn.p3]
                refine Hn.take (i := 6) (d := some 23) (v := .bool false) rfl (by kernel_rfl) (by kernel_rfl) (by kernel_rfl) (by kernel_rfl) (fun _ _ _ h => h) (Or.inl ⟨by rfl, by intro w hSw; go_simp⟩) hHeld ?_
                simp only [Act.put, Hn.p1, Hn.p2, Hn.p3]
                refine Hn.take (i := 7) (d := some 24) (v := .bool false) rfl (by kernel_rfl) (by kernel_rfl) (by kernel_rfl) (by kernel_rfl) (fun _ _ _ h => h) (Or.inl ⟨by rfl, by intro w hSw; go_simp⟩) hHeld ?_
                simp only [Act.put, Hn.p1, Hn.p2, Hn.p3]
                refine Hn.take (i := 8) (d := some 25) (v := undef) rfl (by kernel_rfl) (by kernel_rfl) (by kernel_rfl) (by kernel_rfl) (fun _ _ _ h => h) (Or.inr ⟨by rfl, rfl⟩) hHeld ?_
                simp only [Act.put, Hn.p1, Hn.p2, Hn.p3]
                refine Hn.take (i := 9) (d := some 26) (v := undef) rfl (by kernel_rfl) (by kernel_rfl) (by kernel_rfl) (by kernel_rfl) (fun _ _ _ h => h) (Or.inr ⟨by rfl, rfl⟩) hHeld ?_
                simp only [Act.put, Hn.p1, Hn.p2, Hn.p3]
                refine Hn.take (i := 10) (d := some 27) (v := undef) rfl (by kernel_rfl) (by kernel_rfl) (by kernel_rfl) (by kernel_rfl) (fun _ _ _ h => h) (Or.inr ⟨by rfl, rfl⟩) hHeld ?_
                simp only [Act.put, Hn.p1, Hn.p2, Hn.p3]
                refine Hn.take (i := 11) (d := some 28) (v := undef) rfl (by kernel_rfl) (by kernel_rfl) (by kernel_rfl) (by kernel_rfl) (fun _ _ _ h => h) (Or.inr ⟨by rfl, rfl⟩) hHeld ?_
                simp only [Act.put, Hn.p1, Hn.p2, Hn.p3]
                refine Hn.take (i := 12) (d := some 29) (v := undef) rfl (by kernel_rfl) (by kernel_rfl) (by kernel_rfl) (by kernel_rfl) (fun _ _ _ h => h) (Or.inr ⟨by rfl, rfl⟩) hHeld ?_
                simp only [Act.put, Hn.p1, Hn.p2, Hn.p3]
                refine Hn.take (i := 13) (d := some 30) (v := undef) rfl (by kernel_rfl) (by kernel_rfl) (by kernel_rfl) (by kernel_rfl) (fun _ _ _ h => h) (Or.inr ⟨by rfl, rfl⟩) hHeld ?_
                simp only [Act.put, Hn.p1, Hn.p2, Hn.p3]
                refine Hn.take (i := 14) (d := some 31) (v := undef) rfl (by kernel_rfl) (by kernel_rfl) (by kernel_rfl) (by kernel_rfl) (fun _ _ _ h => h) (Or.inr ⟨by rfl, rfl⟩) hHeld ?_
                simp only [Act.put, Hn.p1, Hn.p2, Hn.p3]
                refine Hn.take (i := 15) (d := some 32) (v := undef) rfl (by kernel_rfl) (by kernel_rfl) (by kernel_rfl) (by kernel_rfl) (fun _ _ _ h => h) (Or.inr ⟨by rfl, rfl⟩) hHeld ?_
                simp only [Act.put, Hn.p1, Hn.p2, Hn.p3]
                refine Hn.take (i := 16) (d := some 33) (v := undef) rfl (by kernel_rfl) (by kernel_rfl) (by kernel_rfl) (by kernel_rfl) (fun _ _ _ h => h) (Or.inr ⟨by rfl, rfl⟩) hHeld ?_
                simp only [Act.put, Hn.p1, Hn.p2, Hn.p3]
                refine Hn.take (i := 17) (d := some 34) (v := undef) rfl (by kernel_rfl) (by kernel_rfl) (by kernel_rfl) (by kernel_rfl) (fun _ _ _ h => h) (Or.inr ⟨by rfl, rfl⟩) hHeld ?_
                simp only [Act.put, Hn.p1, Hn.p2, Hn.p3]
                refine Hn.take (i := 18) (d := some 35) (v := .bool false) rfl (by kernel_rfl) (by kernel_rfl) (by kernel_rfl) (by kernel_rfl) (fun _ _ _ h => h) (Or.inl ⟨by rfl, by intro w hSw; go_simp⟩) hHeld ?_
                simp only [Act.put, Hn.p1, Hn.p2, Hn.p3]
                refine Hn.take (i := 19) (d := some 36) (v := .bool false) rfl (by kernel_rfl) (by kernel_rfl) (by kernel_rfl) (by kernel_rfl) (fun _ _ _ h => h) (Or.inl ⟨by rfl, by intro w hSw; go_simp⟩) hHeld ?_
                simp only [Act.put, Hn.p1, Hn.p2, Hn.p3]
                refine Hn.take (i := 20) (d := some 37) (v := .bool false) rfl (by kernel_rfl) (by kernel_rfl) (by kernel_rfl) (by kernel_rfl) (fun _ _ _ h => h) (Or.inl ⟨by rfl, by intro w hSw; go_simp⟩) hHeld ?_
                simp only [Act.put, Hn.p1, Hn.p2, Hn.p3]
                refine Hn.take (i := 21) (d := some 38) (v := .pointer (some ⟨g, 1, none⟩)) rfl (by kernel_rfl) (by kernel_rfl) (by kernel_rfl) (by kernel_rfl) (fun _ _ _ h => h) (Or.inl ⟨by rfl, by intro w hSw; go_simp⟩) hHeld ?_
                simp only [Act.put, Hn.p1, Hn.p2, Hn.p3]
                refine Hn.take (i := 22) (d := some 39) (v := .agg #[.int .i64 yr, .slice ya yQ.length yc]) rfl (by kernel_rfl) (by kernel_rfl) (by kernel_rfl) (by kernel_rfl) (fun _ _ _ h => h) (Or.inl ⟨by rfl, by intro w hSw; obtain ⟨c0, c1, c2, c3, c4, c5, c6⟩ := hSw; go_simp⟩) hHeld ?_
                simp only [Act.put, Hn.p1, Hn.p2, Hn.p3]
                refine Hn.take (i := 23) (d := some 40) (v := .pointer (some ⟨g, 3, none⟩)) rfl (by kernel_rfl) (by kernel_rfl) (by kernel_rfl) (by kernel_rfl) (fun _ _ _ h => h) (Or.inl ⟨by rfl, by intro w hSw; go_simp⟩) hHeld ?_
                simp only [Act.put, Hn.p1, Hn.p2, Hn.p3]
                refine Hn.take (i := 24) (d := some 41) (v := .agg #[.int .i64 zr, .slice za zQ.length zc]) rfl (by kernel_rfl) (by kernel_rfl) (by kernel_rfl) (by kernel_rfl) (fun _ _ _ h => h) (Or.inl ⟨by rfl, by intro w hSw; obtain ⟨c0, c1, c2, c3, c4, c5, c6⟩ := hSw; go_simp⟩) hHeld ?_
                simp only [Act.put, Hn.p1, Hn.p2, Hn.p3]
                refine wpAnyH_ready (rs := [25]) (by kernel_rfl) (by simp) (Hn.call2 (i := 25) rfl (by rfl) 100 (.tmp 39) (.tmp 41) 67 67 (by kernel_rfl) 42 (by kernel_rfl) (.agg #[.int .i64 yr, .slice ya yQ.length yc]) (.agg #[.int .i64 zr, .slice za zQ.length zc]) (by kernel_rfl) (by kernel_rfl) (fun _ => rfl) (hT _ o1 o2) ?_ AllReadyH.nil)
                rintro e w2 ⟨rfl, hb⟩
                refine ⟨_, rfl, hHeld.below hb, fun hHeld => ?_⟩
                replace hbel := Rw.next hbel hb
                replace o1 := o1.below hb
                replace o2 := o2.below hb
                clear hb
                simp only [Act.put, Hn.p1, Hn.p2, Hn.p3]
                refine Hn.take (i := 26) (d := some 43) (v := .bool false) rfl (by kernel_rfl) (by kernel_rfl) (by kernel_rfl) (by kernel_rfl) (fun _ _ _ h => h) (Or.inl ⟨by rfl, by intro w hSw; go_simp⟩) hHeld ?_
                simp only [Act.put, Hn.p1, Hn.p2, Hn.p3]
                refine Hn.take (i := 27) (d := some 44) (v := .bool false) rfl (by kernel_rfl) (by kernel_rfl) (by kernel_rfl) (by kernel_rfl) (fun _ _ _ h => h) (Or.inl ⟨by rfl, by intro w hSw; go_simp⟩) hHeld ?_
                simp only [Act.put, Hn.p1, Hn.p2, Hn.p3]
                refine wpAnyH_done (by kernel_rfl) ?_ _
                obtain ⟨c0, c1, c2, c3, c4, c5, c6⟩ := hHeld
                go_wp2_with (go_at_call 60; refine (hA _ o1 o2).mono ?_; rintro e w3 ⟨rfl, hb⟩; replace c3 := (hb.cell (World.block_lt_of_cell? _ _ c3)).trans c3; replace c5 := (hb.cell (World.block_lt_of_cell? _ _ c5)).trans c5; replace hbel := Rw.next hbel hb; clear hb)
                go_ret
                exact ⟨ret_bool (HB1.out (by simp)).symm, Rw.next B1 hbel⟩
              · have HI := HJ.out hz
                rw [HI] at HX
                clear HI
                have hz1 : ((s : Int) == 0) = false := by simp; omega
                have hz2 : ¬ ((s : Int) = 0) := by omega
                refine wp_region_held_drew (S := Hold w.heap.size g b (.slice (some ⟨b, off, none⟩) n cap) (.string ys) (.int .i64 yr) (.slice ya yQ.length yc) (.int .i64 zr) (.slice za zQ.length zc) g 0 (.string ys)) (by kernel_rfl) hH (fun hHeld => ?_)
                replace hbel := Rw.next hbel ((Below.refl _ _).drew)
                replace o1 := o1.below ((Below.refl _ _).drew)
                replace o2 := o2.below ((Below.refl _ _).drew)
                refine Hn.take (i := 0) (d := some 17) (v := .pointer (some ⟨g, 0, none⟩)) rfl (by kernel_rfl) (by kernel_rfl) (by kernel_rfl) (by kernel_rfl) (fun _ _ _ h => h) (Or.inl ⟨by rfl, by intro w hSw; go_simp⟩) hHeld ?_
                simp only [Act.put, Hn.p1, Hn.p2, Hn.p3]
                refine Hn.take (i := 1) (d := some 18) (v := .string ys) rfl (by kernel_rfl) (by kernel_rfl) (by kernel_rfl) (by kernel_rfl) (fun _ _ _ h => h) (Or.inl ⟨by rfl, by intro w hSw; obtain ⟨c0, c1, c2, c3, c4, c5, c6⟩ := hSw; go_simp⟩) hHeld ?_
                simp only [Act.put, Hn.p1, Hn.p2, Hn.p3]
                refine wpAnyH_ready (rs := [2]) (by kernel_rfl) (by simp) (Hn.call1 (i := 2) rfl (by rfl) 81 (.tmp 18) 9 (by kernel_rfl) 19 (by kernel_rfl) (.string ys) (by kernel_rfl) (fun _ => rfl) (hW _) ?_ AllReadyH.nil)
                rintro e w1 ⟨rfl, hb⟩
                refine ⟨_, rfl, hHeld.below hb, fun hHeld => ?_⟩
                replace hbel := Rw.next hbel hb
                replace o1 := o1.below hb
                replace o2 := o2.below hb
                clear hb
                simp only [Act.put, Hn.p1, Hn.p2, Hn.p3]
                refine Hn.take (i := 3) (d := some 20) (v := .bool false) rfl (by kernel_rfl) (by kernel_rfl) (by kernel_rfl) (by kernel_rfl) (fun _ _ _ h => h) (Or.inl ⟨by rfl, by intro w hSw; go_simp⟩) hHeld ?_
                simp only [Act.put, Hn.p1, Hn.p2, Hn.p3]
                refine Hn.take (i := 4) (d := some 21) (v := .bool false) rfl (by kernel_rfl) (by kernel_rfl) (by kernel_rfl) (by kernel_rfl) (fun _ _ _ h => h) (Or.inl ⟨by rfl, by intro w hSw; go_simp⟩) hHeld ?_
                simp only [Act.put, Hn.p1, Hn.p2, Hn.p3]
                refine Hn.take (i := 5) (d := some 22) (v := .int .i64 0) rfl (by kernel_rfl) (by kernel_rfl) (by kernel_rfl) (by kernel_rfl) (fun _ _ _ h => h) (Or.inl ⟨by rfl, by intro w hSw; go_simp⟩) hHeld ?_
                simp only [Act.put, Hn.p1, Hn.p2, Hn.p3]
                refine Hn.take (i := 6) (d := some 23) (v := .bool false) rfl (by kernel_rfl) (by kernel_rfl) (by kernel_rfl) (by kernel_rfl) (fun _ _ _ h => h) (Or.inl ⟨by rfl, by intro w hSw; go_simp⟩) hHeld ?_
                simp only [Act.put, Hn.p1, Hn.p2, Hn.p3]
                refine Hn.take (i := 7) (d := some 24) (v := .bool false) rfl (by kernel_rfl) (by kernel_rfl) (by kernel_rfl) (by kernel_rfl) (fun _ _ _ h => h) (Or.inl ⟨by rfl, by intro w hSw; go_simp⟩) hHeld ?_
                simp only [Act.put, Hn.p1, Hn.p2, Hn.p3]
                refine Hn.take (i := 8) (d := some 25) (v := undef) rfl (by kernel_rfl) (by kernel_rfl) (by kernel_rfl) (by kernel_rfl) (fun _ _ _ h => h) (Or.inr ⟨by rfl, rfl⟩) hHeld ?_
                simp only [Act.put, Hn.p1, Hn.p2, Hn.p3]
                refine Hn.take (i := 9) (d := some 26) (v := undef) rfl (by kernel_rfl) (by kernel_rfl) (by kernel_rfl) (by kernel_rfl) (fun _ _ _ h => h) (Or.inr ⟨by rfl, rfl⟩) hHeld ?_
                simp only [Act.put, Hn.p1, Hn.p2, Hn.p3]
                refine Hn.take (i := 10) (d := some 27) (v := undef) rfl (by kernel_rfl) (by kernel_rfl) (by kernel_rfl) (by kernel_rfl) (fun _ _ _ h => h) (Or.inr ⟨by rfl, rfl⟩) hHeld ?_
                simp only [Act.put, Hn.p1, Hn.p2, Hn.p3]
                refine Hn.take (i := 11) (d := some 28) (v := undef) rfl (by kernel_rfl) (by kernel_rfl) (by kernel_rfl) (by kernel_rfl) (fun _ _ _ h => h) (Or.inr ⟨by rfl, rfl⟩) hHeld ?_
                simp only [Act.put, Hn.p1, Hn.p2, Hn.p3]
                refine Hn.take (i := 12) (d := some 29) (v := undef) rfl (by kernel_rfl) (by kernel_rfl) (by kernel_rfl) (by kernel_rfl) (fun _ _ _ h => h) (Or.inr ⟨by rfl, rfl⟩) hHeld ?_
                simp only [Act.put, Hn.p1, Hn.p2, Hn.p3]
                refine Hn.take (i := 13) (d := some 30) (v := undef) rfl (by kernel_rfl) (by kernel_rfl) (by kernel_rfl) (by kernel_rfl) (fun _ _ _ h => h) (Or.inr ⟨by rfl, rfl⟩) hHeld ?_
                simp only [Act.put, Hn.p1, Hn.p2, Hn.p3]
                refine Hn.take (i := 14) (d := some 31) (v := undef) rfl (by kernel_rfl) (by kernel_rfl) (by kernel_rfl) (by kernel_rfl) (fun _ _ _ h => h) (Or.inr ⟨by rfl, rfl⟩) hHeld ?_
                simp only [Act.put, Hn.p1, Hn.p2, Hn.p3]
                refine Hn.take (i := 15) (d := some 32) (v := undef) rfl (by kernel_rfl) (by kernel_rfl) (by kernel_rfl) (by kernel_rfl) (fun _ _ _ h => h) (Or.inr ⟨by rfl, rfl⟩) hHeld ?_
                simp only [Act.put, Hn.p1, Hn.p2, Hn.p3]
                refine Hn.take (i := 16) (d := some 33) (v := undef) rfl (by kernel_rfl) (by kernel_rfl) (by kernel_rfl) (by kernel_rfl) (fun _ _ _ h => h) (Or.inr ⟨by rfl, rfl⟩) hHeld ?_
                simp only [Act.put, Hn.p1, Hn.p2, Hn.p3]
                refine Hn.take (i := 17) (d := some 34) (v := undef) rfl (by kernel_rfl) (by kernel_rfl) (by kernel_rfl) (by kernel_rfl) (fun _ _ _ h => h) (Or.inr ⟨by rfl, rfl⟩) hHeld ?_
                simp only [Act.put, Hn.p1, Hn.p2, Hn.p3]
                refine Hn.take (i := 18) (d := some 35) (v := .bool false) rfl (by kernel_rfl) (by kernel_rfl) (by kernel_rfl) (by kernel_rfl) (fun _ _ _ h => h) (Or.inl ⟨by rfl, by intro w hSw; go_simp⟩) hHeld ?_
                simp only [Act.put, Hn.p1, Hn.p2, Hn.p3]
                refine Hn.take (i := 19) (d := some 36) (v := .bool false) rfl (by kernel_rfl) (by kernel_rfl) (by kernel_rfl) (by kernel_rfl) (fun _ _ _ h => h) (Or.inl ⟨by rfl, by intro w hSw; go_simp⟩) hHeld ?_
                simp only [Act.put, Hn.p1, Hn.p2, Hn.p3]
                refine Hn.take (i := 20) (d := some 37) (v := .bool false) rfl (by kernel_rfl) (by kernel_rfl) (by kernel_rfl) (by kernel_rfl) (fun _ _ _ h => h) (Or.inl ⟨by rfl, by intro w hSw; go_simp⟩) hHeld ?_
                simp only [Act.put, Hn.p1, Hn.p2, Hn.p3]
                refine Hn.take (i := 21) (d := some 38) (v := .pointer (some ⟨g, 1, none⟩)) rfl (by kernel_rfl) (by kernel_rfl) (by kernel_rfl) (by kernel_rfl) (fun _ _ _ h => h) (Or.inl ⟨by rfl, by intro w hSw; go_simp⟩) hHeld ?_
                simp only [Act.put, Hn.p1, Hn.p2, Hn.p3]
                refine Hn.take (i := 22) (d := some 39) (v := .agg #[.int .i64 yr, .slice ya yQ.length yc]) rfl (by kernel_rfl) (by kernel_rfl) (by kernel_rfl) (by kernel_rfl) (fun _ _ _ h => h) (Or.inl ⟨by rfl, by intro w hSw; obtain ⟨c0, c1, c2, c3, c4, c5, c6⟩ := hSw; go_simp⟩) hHeld ?_
                simp only [Act.put, Hn.p1, Hn.p2, Hn.p3]
                refine Hn.take (i := 23) (d := some 40) (v := .pointer (some ⟨g, 3, none⟩)) rfl (by kernel_rfl) (by kernel_rfl) (by kernel_rfl) (by kernel_rfl) (fun _ _ _ h => h) (Or.inl ⟨by rfl, by intro w hSw; go_simp⟩) hHeld ?_
                simp only [Act.put, Hn.p1, Hn.p2, Hn.p3]
                refine Hn.take (i := 24) (d := some 41) (v := .agg #[.int .i64 zr, .slice za zQ.length zc]) rfl (by kernel_rfl) (by kernel_rfl) (by kernel_rfl) (by kernel_rfl) (fun _ _ _ h => h) (Or.inl ⟨by rfl, by intro w hSw; obtain ⟨c0, c1, c2, c3, c4, c5, c6⟩ := hSw; go_simp⟩) hHeld ?_
                simp only [Act.put, Hn.p1, Hn.p2, Hn.p3]
                refine wpAnyH_ready (rs := [25]) (by kernel_rfl) (by simp) (Hn.call2 (i := 25) rfl (by rfl) 100 (.tmp 39) (.tmp 41) 67 67 (by kernel_rfl) 42 (by kernel_rfl) (.agg #[.int .i64 yr, .slice ya yQ.length yc]) (.agg #[.int .i64 zr, .slice za zQ.length zc]) (by kernel_rfl) (by kernel_rfl) (fun _ => rfl) (hT _ o1 o2) ?_ AllReadyH.nil)
                rintro e w2 ⟨rfl, hb⟩
                refine ⟨_, rfl, hHeld.below hb, fun hHeld => ?_⟩
                replace hbel := Rw.next hbel hb
                replace o1 := o1.below hb
                replace o2 := o2.below hb
                clear hb
                simp only [Act.put, Hn.p1, Hn.p2, Hn.p3]
                refine Hn.take (i := 26) (d := some 43) (v := .bool false) rfl (by kernel_rfl) (by kernel_rfl) (by kernel_rfl) (by kernel_rfl) (fun _ _ _ h => h) (Or.inl ⟨by rfl, by intro w hSw; go_simp⟩) hHeld ?_
                simp only [Act.put, Hn.p1, Hn.p2, Hn.p3]
                refine Hn.take (i := 27) (d := some 44) (v := .bool false) rfl (by kernel_rfl) (by kernel_rfl) (by kernel_rfl) (by kernel_rfl) (fun _ _ _ h => h) (Or.inl ⟨by rfl, by intro w hSw; go_simp⟩) hHeld ?_
                simp only [Act.put, Hn.p1, Hn.p2, Hn.p3]
                refine wpAnyH_done (by kernel_rfl) ?_ _
                obtain ⟨c0, c1, c2, c3, c4, c5, c6⟩ := hHeld
                go_wp2_with (go_at_call 60; refine (hA _ o1 o2).mono ?_; rintro e w3 ⟨rfl, hb⟩; replace c3 := (hb.cell (World.block_lt_of_cell? _ _ c3)).trans c3; replace c5 := (hb.cell (World.block_lt_of_cell? _ _ c5)).trans c5; replace hbel := Rw.next hbel hb; clear hb)
                go_roundw
                case rel => exact ⟨0 + 1, by omega, by go_num, hbel, HX.out (by simp)⟩
                case measure => simp [intOf]; omega
      · obtain ⟨j, hj⟩ : ∃ j, k = j + 1 := ⟨k - 1, by omega⟩
        obtain ⟨E0, _⟩ := At5.of (hc j (by omega)) hb2 (hc j (by omega)).lt
        have eu : upC T k = (Wd && !Id && (Tw && Ap) && strLt (T.getD j cm0).s ys) := by
          unfold upC
          have e1 : k - 1 = j := by omega
          rw [e1, decide_eq_false hk1, Bool.false_or, eC, hy]
        rw [eu] at HB1 HX
        have ek : IntKind.i64.wrap ((k : Int) - 1) = (j : Int) := by rw [IntKind.wrap_i64]; omega
        have hjn : (j : Int) < (n : Int) := by omega
        have hj0 : (0 : Int) ≤ (j : Int) := by omega
        have kz : (0 : Int) < (k : Int) := by omega
        have kn : 0 < k := by omega
        generalize (T.getD j cm0).s = xs at E0 HB1 HX
        have hH : Hold w.heap.size wr.heap.size b (.slice (some ⟨b, off, none⟩) n cap) (.string ys) (.int .i64 yr) (.slice ya yQ.length yc) (.int .i64 zr) (.slice za zQ.length zc) b (off + j * 5) (.string xs) W2 := ⟨q0, g0, g1, g2, g3, g4, E0⟩
        replace hbel := hb2
        replace o1 := r1
        replace o2 := r2
        simp only [strLt] at HB1 HX
        clear eu eC hc ho hh hst A0 A1 A2 A3 A4 p0 q0 g0 g1 g2 g3 g4 kg hb2 r1 r2 B2 hW2 hy k0 hk1 hj E0
        generalize wr.heap.size = g at hH ⊢
        generalize W2 = wr at hH hbel o1 o2 ⊢
        cases Wd with
        | false =>
          refine wp_region_held_drew (S := Hold w.heap.size g b (.slice (some ⟨b, off, none⟩) n cap) (.string ys) (.int .i64 yr) (.slice ya yQ.length yc) (.int .i64 zr) (.slice za zQ.length zc) b (off + j * 5) (.string xs)) (by kernel_rfl) hH (fun hHeld => ?_)
          replace hbel := Rw.next hbel ((Below.refl _ _).drew)
          replace o1 := o1.below ((Below.refl _ _).drew)
          replace o2 := o2.below ((Below.refl _ _).drew)
          refine Hn.take (i := 0) (d := some 17) (v := .pointer (some ⟨g, 0, none⟩)) rfl (by kernel_rfl) (by kernel_rfl) (by kernel_rfl) (by kernel_rfl) (fun _ _ _ h => h) (Or.inl ⟨by rfl, by intro w hSw; go_simp⟩) hHeld ?_
          simp only [Act.put, Hn.p1, Hn.p2, Hn.p3]
          refine Hn.take (i := 1) (d := some 18) (v := .string ys) rfl (by kernel_rfl) (by kernel_rfl) (by kernel_rfl) (by kernel_rfl) (fun _ _ _ h => h) (Or.inl ⟨by rfl, by intro w hSw; obtain ⟨c0, c1, c2, c3, c4, c5, c6⟩ := hSw; go_simp⟩) hHeld ?_
          simp only [Act.put, Hn.p1, Hn.p2, Hn.p3]
          refine wpAnyH_ready (rs := [2]) (by kernel_rfl) (by simp) (Hn.call1 (i := 2) rfl (by rfl) 81 (.tmp 18) 9 (by kernel_rfl) 19 (by kernel_rfl) (.string ys) (by kernel_rfl) (fun _ => rfl) (hW _) ?_ AllReadyH.nil)
          rintro e w1 ⟨rfl, hb⟩
          refine ⟨_, rfl, hHeld.below hb, fun hHeld => ?_⟩
          replace hbel := Rw.next hbel hb
          replace o1 := o1.below hb
          replace o2 := o2.below hb
          clear hb
          simp only [Act.put, Hn.p1, Hn.p2, Hn.p3]
          refine Hn.take (i := 3) (d := some 20) (v := .bool true) rfl (by kernel_rfl) (by kernel_rfl) (by kernel_rfl) (by kernel_rfl) (fun _ _ _ h => h) (Or.inl ⟨by rfl, by intro w hSw; go_simp⟩) hHeld ?_
          simp only [Act.put, Hn.p1, Hn.p2, Hn.p3]
          refine Hn.take (i := 4) (d := some 21) (v := .bool true) rfl (by kernel_rfl) (by kernel_rfl) (by kernel_rfl) (by kernel_rfl) (fun _ _ _ h => h) (Or.inl ⟨by rfl, by intro w hSw; go_simp⟩) hHeld ?_
          simp only [Act.put, Hn.p1, Hn.p2, Hn.p3]
          refine Hn.take (i := 5) (d := some 22) (v := undef) rfl (by kernel_rfl) (by kernel_rfl) (by kernel_rfl) (by kernel_rfl) (fun _ _ _ h => h) (Or.inr ⟨by rfl, rfl⟩) hHeld ?_
          simp only [Act.put, Hn.p1, Hn.p2, Hn.p3]
          refine Hn.take (i := 6) (d := some 23) (v := undef) rfl (by kernel_rfl) (by kernel_rfl) (by kernel_rfl) (by kernel_rfl) (fun _ _ _ h => h) (Or.inr ⟨by rfl, rfl⟩) hHeld ?_
          simp only [Act.put, Hn.p1, Hn.p2, Hn.p3]
          refine Hn.take (i := 7) (d := some 24) (v := undef) rfl (by kernel_rfl) (by kernel_rfl) (by kernel_rfl) (by kernel_rfl) (fun _ _ _ h => h) (Or.inr ⟨by rfl, rfl⟩) hHeld ?_
          simp only [Act.put, Hn.p1, Hn.p2, Hn.p3]
          refine Hn.take (i := 8) (d := some 25) (v := undef) rfl (by kernel_rfl) (by kernel_rfl) (by kernel_rfl) (by kernel_rfl) (fun _ _ _ h => h) (Or.inr ⟨by rfl, rfl⟩) hHeld ?_
          simp only [Act.put, Hn.p1, Hn.p2, Hn.p3]
          refine Hn.take (i := 9) (d := some 26) (v := undef) rfl (by kernel_rfl) (by kernel_rfl) (by kernel_rfl) (by kernel_rfl) (fun _ _ _ h => h) (Or.inr ⟨by rfl, rfl⟩) hHeld ?_
          simp only [Act.put, Hn.p1, Hn.p2, Hn.p3]
          refine Hn.take (i := 10) (d := some 27) (v := undef) rfl (by kernel_rfl) (by kernel_rfl) (by kernel_rfl) (by kernel_rfl) (fun _ _ _ h => h) (Or.inr ⟨by rfl, rfl⟩) hHeld ?_
          simp only [Act.put, Hn.p1, Hn.p2, Hn.p3]
          refine Hn.take (i := 11) (d := some 28) (v := undef) rfl (by kernel_rfl) (by kernel_rfl) (by kernel_rfl) (by kernel_rfl) (fun _ _ _ h => h) (Or.inr ⟨by rfl, rfl⟩) hHeld ?_
          simp only [Act.put, Hn.p1, Hn.p2, Hn.p3]
          refine Hn.take (i := 12) (d := some 29) (v := undef) rfl (by kernel_rfl) (by kernel_rfl) (by kernel_rfl) (by kernel_rfl) (fun _ _ _ h => h) (Or.inr ⟨by rfl, rfl⟩) hHeld ?_
          simp only [Act.put, Hn.p1, Hn.p2, Hn.p3]
          refine Hn.take (i := 13) (d := some 30) (v := undef) rfl (by kernel_rfl) (by kernel_rfl) (by kernel_rfl) (by kernel_rfl) (fun _ _ _ h => h) (Or.inr ⟨by rfl, rfl⟩) hHeld ?_
          simp only [Act.put, Hn.p1, Hn.p2, Hn.p3]
          refine Hn.take (i := 14) (d := some 31) (v := undef) rfl (by kernel_rfl) (by kernel_rfl) (by kernel_rfl) (by kernel_rfl) (fun _ _ _ h => h) (Or.inr ⟨by rfl, rfl⟩) hHeld ?_
          simp only [Act.put, Hn.p1, Hn.p2, Hn.p3]
          refine Hn.take (i := 15) (d := some 32) (v := undef) rfl (by kernel_rfl) (by kernel_rfl) (by kernel_rfl) (by kernel_rfl) (fun _ _ _ h => h) (Or.inr ⟨by rfl, rfl⟩) hHeld ?_
          simp only [Act.put, Hn.p1, Hn.p2, Hn.p3]
          refine Hn.take (i := 16) (d := some 33) (v := undef) rfl (by kernel_rfl) (by kernel_rfl) (by kernel_rfl) (by kernel_rfl) (fun _ _ _ h => h) (Or.inr ⟨by rfl, rfl⟩) hHeld ?_
          simp only [Act.put, Hn.p1, Hn.p2, Hn.p3]
          refine Hn.take (i := 17) (d := some 34) (v := undef) rfl (by kernel_rfl) (by kernel_rfl) (by kernel_rfl) (by kernel_rfl) (fun _ _ _ h => h) (Or.inr ⟨by rfl, rfl⟩) hHeld ?_
          simp only [Act.put, Hn.p1, Hn.p2, Hn.p3]
          refine Hn.take (i := 18) (d := some 35) (v := undef) rfl (by kernel_rfl) (by kernel_rfl) (by kernel_rfl) (by kernel_rfl) (fun _ _ _ h => h) (Or.inr ⟨by rfl, rfl⟩) hHeld ?_
          simp only [Act.put, Hn.p1, Hn.p2, Hn.p3]
          refine Hn.take (i := 19) (d := some 36) (v := .bool true) rfl (by kernel_rfl) (by kernel_rfl) (by kernel_rfl) (by kernel_rfl) (fun _ _ _ h => h) (Or.inl ⟨by rfl, by intro w hSw; go_simp⟩) hHeld ?_
          simp only [Act.put, Hn.p1, Hn.p2, Hn.p3]
          refine Hn.take (i := 20) (d := some 37) (v := .bool true) rfl (by kernel_rfl) (by kernel_rfl) (by kernel_rfl) (by kernel_rfl) (fun _ _ _ h => h) (Or.inl ⟨by rfl, by intro w hSw; go_simp⟩) hHeld ?_
          simp only [Act.put, Hn.p1, Hn.p2, Hn.p3]
          refine Hn.take (i := 21) (d := some 38) (v := undef) rfl (by kernel_rfl) (by kernel_rfl) (by kernel_rfl) (by kernel_rfl) (fun _ _ _ h => h) (Or.inr ⟨by rfl, rfl⟩) hHeld ?_
          simp only [Act.put, Hn.p1, Hn.p2, Hn.p3]
          refine Hn.take (i := 22) (d := some 39) (v := undef) rfl (by kernel_rfl) (by kernel_rfl) (by kernel_rfl) (by kernel_rfl) (fun _ _ _ h => h) (Or.inr ⟨by rfl, rfl⟩) hHeld ?_
          simp only [Act.put, Hn.p1, Hn.p2, Hn.p3]
          refine Hn.take (i := 23) (d := some 40) (v := undef) rfl (by kernel_rfl) (by kernel_rfl) (by kernel_rfl) (by kernel_rfl) (fun _ _ _ h => h) (Or.inr ⟨by rfl, rfl⟩) hHeld ?_
          simp only [Act.put, Hn.p1, Hn.p2, Hn.p3]
          refine Hn.take (i := 24) (d := some 41) (v := undef) rfl (by kernel_rfl) (by kernel_rfl) (by kernel_rfl) (by kernel_rfl) (fun _ _ _ h => h) (Or.inr ⟨by rfl, rfl⟩) hHeld ?_
          simp only [Act.put, Hn.p1, Hn.p2, Hn.p3]
          refine Hn.take (i := 25) (d := some 42) (v := undef) rfl (by kernel_rfl) (by kernel_rfl) (by kernel_rfl) (by kernel_rfl) (fun _ _ _ h => h) (Or.inr ⟨by rfl, rfl⟩) hHeld ?_
          simp only [Act.put, Hn.p1, Hn.p2, Hn.p3]
          refine Hn.take (i := 26) (d := some 43) (v := undef) rfl (by kernel_rfl) (by kernel_rfl) (by kernel_rfl) (by kernel_rfl) (fun _ _ _ h => h) (Or.inr ⟨by rfl, rfl⟩) hHeld ?_
          simp only [Act.put, Hn.p1, Hn.p2, Hn.p3]
          refine Hn.take (i := 27) (d := some 44) (v := .bool true) rfl (by kernel_rfl) (by kernel_rfl) (by kernel_rfl) (by kernel_rfl) (fun _ _ _ h => h) (Or.inl ⟨by rfl, by intro w hSw; go_simp⟩) hHeld ?_
          simp only [Act.put, Hn.p1, Hn.p2, Hn.p3]
          refine wpAnyH_done (by kernel_rfl) ?_ _
          go_wp2
          go_ret
          exact ⟨ret_bool (HB1.out (by simp)).symm, Rw.next B1 hbel⟩
        | true =>
          cases hless : Op.bytesLess xs.toList ys.toList with
          | false =>
            rw [hless] at HB1
            refine wp_region_held_drew (S := Hold w.heap.size g b (.slice (some ⟨b, off, none⟩) n cap) (.string ys) (.int .i64 yr) (.slice ya yQ.length yc) (.int .i64 zr) (.slice za zQ.length zc) b (off + j * 5) (.string xs)) (by kernel_rfl) hH (fun hHeld => ?_)
            replace hbel := Rw.next hbel ((Below.refl _ _).drew)
            replace o1 := o1.below ((Below.refl _ _).drew)
            replace o2 := o2.below ((Below.refl _ _).drew)
            refine Hn.take (i := 0) (d := some 17) (v := .pointer (some ⟨g, 0, none⟩)) rfl (by kernel_rfl) (by kernel_rfl) (by kernel_rfl) (by kernel_rfl) (fun _ _ _ h => h) (Or.inl ⟨by rfl, by intro w hSw; go_simp⟩) hHeld ?_
            simp only [Act.put, Hn.p1, Hn.p2, Hn.p3]
            refine Hn.take (i := 1) (d := some 18) (v := .string ys) rfl (by kernel_rfl) (by kernel_rfl) (by kernel_rfl) (by kernel_rfl) (fun _ _ _ h => h) (Or.inl ⟨by rfl, by intro w hSw; obtain ⟨c0, c1, c2, c3, c4, c5, c6⟩ := hSw; go_simp⟩) hHeld ?_
            simp only [Act.put, Hn.p1, Hn.p2, Hn.p3]
            refine wpAnyH_ready (rs := [2]) (by kernel_rfl) (by simp) (Hn.call1 (i := 2) rfl (by rfl) 81 (.tmp 18) 9 (by kernel_rfl) 19 (by kernel_rfl) (.string ys) (by kernel_rfl) (fun _ => rfl) (hW _) ?_ AllReadyH.nil)
            rintro e w1 ⟨rfl, hb⟩
            refine ⟨_, rfl, hHeld.below hb, fun hHeld => ?_⟩
            replace hbel := Rw.next hbel hb
            replace o1 := o1.below hb
            replace o2 := o2.below hb
            clear hb
            simp only [Act.put, Hn.p1, Hn.p2, Hn.p3]
            refine Hn.take (i := 3) (d := some 20) (v := .bool false) rfl (by kernel_rfl) (by kernel_rfl) (by kernel_rfl) (by kernel_rfl) (fun _ _ _ h => h) (Or.inl ⟨by rfl, by intro w hSw; go_simp⟩) hHeld ?_
            simp only [Act.put, Hn.p1, Hn.p2, Hn.p3]
            refine Hn.take (i := 4) (d := some 21) (v := .bool false) rfl (by kernel_rfl) (by kernel_rfl) (by kernel_rfl) (by kernel_rfl) (fun _ _ _ h => h) (Or.inl ⟨by rfl, by intro w hSw; go_simp⟩) hHeld ?_
            simp only [Act.put, Hn.p1, Hn.p2, Hn.p3]
            refine Hn.take (i := 5) (d := some 22) (v := .int .i64 k) rfl (by kernel_rfl) (by kernel_rfl) (by kernel_rfl) (by kernel_rfl) (fun _ _ _ h => h) (Or.inl ⟨by rfl, by intro w hSw; go_simp⟩) hHeld ?_
            simp only [Act.put, Hn.p1, Hn.p2, Hn.p3]
            refine Hn.take (i := 6) (d := some 23) (v := .bool true) rfl (by kernel_rfl) (by kernel_rfl) (by kernel_rfl) (by kernel_rfl) (fun _ _ _ h => h) (Or.inl ⟨by rfl, by intro w hSw; go_simp⟩) hHeld ?_
            simp only [Act.put, Hn.p1, Hn.p2, Hn.p3]
            refine Hn.take (i := 7) (d := some 24) (v := .bool true) rfl (by kernel_rfl) (by kernel_rfl) (by kernel_rfl) (by kernel_rfl) (fun _ _ _ h => h) (Or.inl ⟨by rfl, by intro w hSw; go_simp⟩) hHeld ?_
            simp only [Act.put, Hn.p1, Hn.p2, Hn.p3]
            refine Hn.take (i := 8) (d := some 25) (v := .pointer (some ⟨w.heap.size, 0, none⟩)) rfl (by kernel_rfl) (by kernel_rfl) (by kernel_rfl) (by kernel_rfl) (fun _ _ _ h => h) (Or.inl ⟨by rfl, by intro w hSw; go_simp⟩) hHeld ?_
            simp only [Act.put, Hn.p1, Hn.p2, Hn.p3]
            refine Hn.take (i := 9) (d := some 26) (v := .slice (some ⟨b, off, none⟩) n cap) rfl (by kernel_rfl) (by kernel_rfl) (by kernel_rfl) (by kernel_rfl) (fun _ _ _ h => h) (Or.inl ⟨by rfl, by intro w hSw; obtain ⟨c0, c1, c2, c3, c4, c5, c6⟩ := hSw; go_simp⟩) hHeld ?_
            simp only [Act.put, Hn.p1, Hn.p2, Hn.p3]
            refine Hn.take (i := 10) (d := some 27) (v := .int .i64 k) rfl (by kernel_rfl) (by kernel_rfl) (by kernel_rfl) (by kernel_rfl) (fun _ _ _ h => h) (Or.inl ⟨by rfl, by intro w hSw; go_simp⟩) hHeld ?_
            simp only [Act.put, Hn.p1, Hn.p2, Hn.p3]
            refine Hn.take (i := 11) (d := some 28) (v := .int .i64 j) rfl (by kernel_rfl) (by kernel_rfl) (by kernel_rfl) (by kernel_rfl) (fun _ _ _ h => h) (Or.inl ⟨by rfl, by intro w hSw; go_simp⟩) hHeld ?_
            simp only [Act.put, Hn.p1, Hn.p2, Hn.p3]
            refine Hn.take (i := 12) (d := some 29) (v := .pointer (some ⟨b, off + j * 5, none⟩)) rfl (by kernel_rfl) (by kernel_rfl) (by kernel_rfl) (by kernel_rfl) (fun _ _ _ h => h) (Or.inl ⟨by rfl, by intro w hSw; go_simp⟩) hHeld ?_
            simp only [Act.put, Hn.p1, Hn.p2, Hn.p3]
            refine Hn.take (i := 13) (d := some 30) (v := .pointer (some ⟨b, off + j * 5, none⟩)) rfl (by kernel_rfl) (by kernel_rfl) (by kernel_rfl) (by kernel_rfl) (fun _ _ _ h => h) (Or.inl ⟨by rfl, by intro w hSw; go_simp⟩) hHeld ?_
            simp only [Act.put, Hn.p1, Hn.p2, Hn.p3]
            refine Hn.take (i := 14) (d := some 31) (v := .string xs) rfl (by kernel_rfl) (by kernel_rfl) (by kernel_rfl) (by kernel_rfl) (fun _ _ _ h => h) (Or.inl ⟨by rfl, by intro w hSw; obtain ⟨c0, c1, c2, c3, c4, c5, c6⟩ := hSw; go_simp⟩) hHeld ?_
            simp only [Act.put, Hn.p1, Hn.p2, Hn.p3]
            refine Hn.take (i := 15) (d := some 32) (v := .pointer (some ⟨g, 0, none⟩)) rfl (by kernel_rfl) (by kernel_rfl) (by kernel_rfl) (by kernel_rfl) (fun _ _ _ h => h) (Or.inl ⟨by rfl, by intro w hSw; go_simp⟩) hHeld ?_
            simp only [Act.put, Hn.p1, Hn.p2, Hn.p3]
            refine Hn.take (i := 16) (d := some 33) (v := .string ys) rfl (by kernel_rfl) (by kernel_rfl) (by kernel_rfl) (by kernel_rfl) (fun _ _ _ h => h) (Or.inl ⟨by rfl, by intro w hSw; obtain ⟨c0, c1, c2, c3, c4, c5, c6⟩ := hSw; go_simp⟩) hHeld ?_
            simp only [Act.put, Hn.p1, Hn.p2, Hn.p3]
            refine Hn.take (i := 17) (d := some 34) (v := .bool true) rfl (by kernel_rfl) (by kernel_rfl) (by kernel_rfl) (by kernel_rfl) (fun _ _ _ h => h) (Or.inl ⟨by rfl, by intro w hSw; go_simp⟩) hHeld ?_
            simp only [Act.put, Hn.p1, Hn.p2, Hn.p3]
            refine Hn.take (i := 18) (d := some 35) (v := .bool true) rfl (by kernel_rfl) (by kernel_rfl) (by kernel_rfl) (by kernel_rfl) (fun _ _ _ h => h) (Or.inl ⟨by rfl, by intro w hSw; go_simp⟩) hHeld ?_
            simp only [Act.put, Hn.p1, Hn.p2, Hn.p3]
            refine Hn.take (i := 19) (d := some 36) (v := .bool true) rfl (by kernel_rfl) (by kernel_rfl) (by kernel_rfl) (by kernel_rfl) (fun _ _ _ h => h) (Or.inl ⟨by rfl, by intro w hSw; go_simp⟩) hHeld ?_
            simp only [Act.put, Hn.p1, Hn.p2, Hn.p3]
            refine Hn.take (i := 20) (d := some 37) (v := .bool true) rfl (by kernel_rfl) (by kernel_rfl) (by kernel_rfl) (by kernel_rfl) (fun _ _ _ h => h) (Or.inl ⟨by rfl, by intro w hSw; go_simp⟩) hHeld ?_
            simp only [Act.put, Hn.p1, Hn.p2, Hn.p3]
            refine Hn.take (i := 21) (d := some 38) (v := undef) rfl (by kernel_rfl) (by kernel_rfl) (by kernel_rfl) (by kernel_rfl) (fun _ _ _ h => h) (Or.inr ⟨by rfl, rfl⟩) hHeld ?_
            simp only [Act.put, Hn.p1, Hn.p2, Hn.p3]
            refine Hn.take (i := 22) (d := some 39) (v := undef) rfl (by kernel_rfl) (by kernel_rfl) (by kernel_rfl) (by kernel_rfl) (fun _ _ _ h => h) (Or.inr ⟨by rfl, rfl⟩) hHeld ?_
            simp only [Act.put, Hn.p1, Hn.p2, Hn.p3]
            refine Hn.take (i := 23) (d := some 40) (v := undef) rfl (by kernel_rfl) (by kernel_rfl) (by kernel_rfl) (by kernel_rfl) (fun _ _ _ h => h) (Or.inr ⟨by rfl, rfl⟩) hHeld ?_
            simp only [Act.put, Hn.p1, Hn.p2, Hn.p3]
            refine Hn.take (i := 24) (d := some 41) (v := undef) rfl (by kernel_rfl) (by kernel_rfl) (by kernel_rfl) (by kernel_rfl) (fun _ _ _ h => h) (Or.inr ⟨by rfl, rfl⟩) hHeld ?_
            simp only [Act.put, Hn.p1, Hn.p2, Hn.p3]
            refine Hn.take (i := 25) (d := some 42) (v := undef) rfl (by kernel_rfl) (by kernel_rfl) (by kernel_rfl) (by kernel_rfl) (fun _ _ _ h => h) (Or.inr ⟨by rfl, rfl⟩) hHeld ?_
            simp only [Act.put, Hn.p1, Hn.p2, Hn.p3]
            refine Hn.take (i := 26) (d := some 43) (v := undef) rfl (by kernel_rfl) (by kernel_rfl) (by kernel_rfl) (by kernel_rfl) (fun _ _ _ h => h) (Or.inr ⟨by rfl, rfl⟩) hHeld ?_
            simp only [Act.put, Hn.p1, Hn.p2, Hn.p3]
            refine Hn.take (i := 27) (d := some 44) (v := .bool true) rfl (by kernel_rfl) (by kernel_rfl) (by kernel_rfl) (by kernel_rfl) (fun _ _ _ h => h) (Or.inl ⟨by rfl, by intro w hSw; go_simp⟩) hHeld ?_
            simp only [Act.put, Hn.p1, Hn.p2, Hn.p3]
            refine wpAnyH_done (by kernel_rfl) ?_ _
            go_wp2
            go_ret
            exact ⟨ret_bool (HB1.out (by simp)).symm, Rw.next B1 hbel⟩
          | true =>
            rw [hless] at HX HB1
            cases Tw with
            | false =>
              refine wp_region_held_drew (S := Hold w.heap.size g b (.slice (some ⟨b, off, none⟩) n cap) (.string ys) (.int .i64 yr) (.slice ya yQ.length yc) (.int .i64 zr) (.slice za zQ.length zc) b (off + j * 5) (.string xs)) (by kernel_rfl) hH (fun hHeld => ?_)
              replace hbel := Rw.next hbel ((Below.refl _ _).drew)
              replace o1 := o1.below ((Below.refl _ _).drew)
              replace o2 := o2.below ((Below.refl _ _).drew)
              refine Hn.take (i := 0) (d := some 17) (v := .pointer (some ⟨g, 0, none⟩)) rfl (by kernel_rfl) (by kernel_rfl) (by kernel_rfl) (by kernel_rfl) (fun _ _ _ h => h) (Or.inl ⟨by rfl, by intro w hSw; go_simp⟩) hHeld ?_
              simp only [Act.put, Hn.p1, Hn.p2, Hn.p3]
              refine Hn.take (i := 1) (d := some 18) (v := .string ys) rfl (by kernel_rfl) (by kernel_rfl) (by kernel_rfl) (by kernel_rfl) (fun _ _ _ h => h) (Or.inl ⟨by rfl, by intro w hSw; obtain ⟨c0, c1, c2, c3, c4, c5, c6⟩ := hSw; go_simp⟩) hHeld ?_
              simp only [Act.put, Hn.p1, Hn.p2, Hn.p3]
              refine wpAnyH_ready (rs := [2]) (by kernel_rfl) (by simp) (Hn.call1 (i := 2) rfl (by rfl) 81 (.tmp 18) 9 (by kernel_rfl) 19 (by kernel_rfl) (.string ys) (by kernel_rfl) (fun _ => rfl) (hW _) ?_ AllReadyH.nil)
              rintro e w1 ⟨rfl, hb⟩
              refine ⟨_, rfl, hHeld.below hb, fun hHeld => ?_⟩
              replace hbel := Rw.next hbel hb
              replace o1 := o1.below hb
              replace o2 := o2.below hb
              clear hb
              simp only [Act.put, Hn.p1, Hn.p2, Hn.p3]
              refine Hn.take (i := 3) (d := some 20) (v := .bool false) rfl (by kernel_rfl) (by kernel_rfl) (by kernel_rfl) (by kernel_rfl) (fun _ _ _ h => h) (Or.inl ⟨by rfl, by intro w hSw; go_simp⟩) hHeld ?_
              simp only [Act.put, Hn.p1, Hn.p2, Hn.p3]
              refine Hn.take (i := 4) (d := some 21) (v := .bool false) rfl (by kernel_rfl) (by kernel_rfl) (by kernel_rfl) (by kernel_rfl) (fun _ _ _ h => h) (Or.inl ⟨by rfl, by intro w hSw; go_simp⟩) hHeld ?_
              simp only [Act.put, Hn.p1, Hn.p2, Hn.p3]
              refine Hn.take (i := 5) (d := some 22) (v := .int .i64 k) rfl (by kernel_rfl) (by kernel_rfl) (by kernel_rfl) (by kernel_rfl) (fun _ _ _ h => h) (Or.inl ⟨by rfl, by intro w hSw; go_simp⟩) hHeld ?_
              simp only [Act.put, Hn.p1, Hn.p2, Hn.p3]
              refine Hn.take (i := 6) (d := some 23) (v := .bool true) rfl (by kernel_rfl) (by kernel_rfl) (by kernel_rfl) (by kernel_rfl) (fun _ _ _ h => h) (Or.inl ⟨by rfl, by intro w hSw; go_simp⟩) hHeld ?_
              simp only [Act.put, Hn.p1, Hn.p2, Hn.p3]
              refine Hn.take (i := 7) (d := some 24) (v := .bool true) rfl (by kernel_rfl) (by kernel_rfl) (by kernel_rfl) (by kernel_rfl) (fun _ _ _ h => h) (Or.inl ⟨by rfl, by intro w hSw; go_simp⟩) hHeld ?_
              simp only [Act.put, Hn.p1, Hn.p2, Hn.p3]
              refine Hn.take (i := 8) (d := some 25) (v := .pointer (some ⟨w.heap.size, 0, none⟩)) rfl (by kernel_rfl) (by kernel_rfl) (by kernel_rfl) (by kernel_rfl) (fun _ _ _ h => h) (Or.inl ⟨by rfl, by intro w hSw; go_simp⟩) hHeld ?_
              simp only [Act.put, Hn.p1, Hn.p2, Hn.p3]
              refine Hn.take (i := 9) (d := some 26) (v := .slice (some ⟨b, off, none⟩) n cap) rfl (by kernel_rfl) (by kernel_rfl) (by kernel_rfl) (by kernel_rfl) (fun _ _ _ h => h) (Or.inl ⟨by rfl, by intro w hSw; obtain ⟨c0, c1, c2, c3, c4, c5, c6⟩ := hSw; go_simp⟩) hHeld ?_
              simp only [Act.put, Hn.p1, Hn.p2, Hn.p3]
              refine Hn.take (i := 10) (d := some 27) (v := .int .i64 k) rfl (by kernel_rfl) (by kernel_rfl) (by kernel_rfl) (by kernel_rfl) (fun _ _ _ h => h) (Or.inl ⟨by rfl, by intro w hSw; go_simp⟩) hHeld ?_
              simp only [Act.put, Hn.p1, Hn.p2, Hn.p3]
              refine Hn.take (i := 11) (d := some 28) (v := .int .i64 j) rfl (by kernel_rfl) (by kernel_rfl) (by kernel_rfl) (by kernel_rfl) (fun _ _ _ h => h) (Or.inl ⟨by rfl, by intro w hSw; go_simp⟩) hHeld ?_
              simp only [Act.put, Hn.p1, Hn.p2, Hn.p3]
              refine Hn.take (i := 12) (d := some 29) (v := .pointer (some ⟨b, off + j * 5, none⟩)) rfl (by kernel_rfl) (by kernel_rfl) (by kernel_rfl) (by kernel_rfl) (fun _ _ _ h => h) (Or.inl ⟨by rfl, by intro w hSw; go_simp⟩) hHeld ?_
              simp only [Act.put, Hn.p1, Hn.p2, Hn.p3]
              refine Hn.take (i := 13) (d := some 30) (v := .pointer (some ⟨b, off + j * 5, none⟩)) rfl (by kernel_rfl) (by kernel_rfl) (by kernel_rfl) (by kernel_rfl) (fun _ _ _ h => h) (Or.inl ⟨by rfl, by intro w hSw; go_simp⟩) hHeld ?_
              simp only [Act.put, Hn.p1, Hn.p2, Hn.p3]
              refine Hn.take (i := 14) (d := some 31) (v := .string xs) rfl (by kernel_rfl) (by kernel_rfl) (by kernel_rfl) (by kernel_rfl) (fun _ _ _ h => h) (Or.inl ⟨by rfl, by intro w hSw; obtain ⟨c0, c1, c2, c3, c4, c5, c6⟩ := hSw; go_simp⟩) hHeld ?_
              simp only [Act.put, Hn.p1, Hn.p2, Hn.p3]
              refine Hn.take (i := 15) (d := some 32) (v := .pointer (some ⟨g, 0, none⟩)) rfl (by kernel_rfl) (by kernel_rfl) (by kernel_rfl) (by kernel_rfl) (fun _ _ _ h => h) (Or.inl ⟨by rfl, by intro w hSw; go_simp⟩) hHeld ?_
              simp only [Act.put, Hn.p1, Hn.p2, Hn.p3]
              refine Hn.take (i := 16) (d := some 33) (v := .string ys) rfl (by kernel_rfl) (by kernel_rfl) (by kernel_rfl) (by kernel_rfl) (fun _ _ _ h => h) (Or.inl ⟨by rfl, by intro w hSw; obtain ⟨c0, c1, c2, c3, c4, c5, c6⟩ := hSw; go_simp⟩) hHeld ?_
              simp only [Act.put, Hn.p1, Hn.p2, Hn.p3]
              refine Hn.take (i := 17) (d := some 34) (v := .bool false) rfl (by kernel_rfl) (by kernel_rfl) (by kernel_rfl) (by kernel_rfl) (fun _ _ _ h => h) (Or.inl ⟨by rfl, by intro w hSw; go_simp⟩) hHeld ?_
              simp only [Act.put, Hn.p1, Hn.p2, Hn.p3]
              refine Hn.take (i := 18) (d := some 35) (v := .bool false) rfl (by kernel_rfl) (by kernel_rfl) (by kernel_rfl) (by kernel_rfl) (fun _ _ _ h => h) (Or.inl ⟨by rfl, by intro w hSw; go_simp⟩) hHeld ?_
              simp only [Act.put, Hn.p1, Hn.p2, Hn.p3]
              refine Hn.take (i := 19) (d := some 36) (v := .bool false) rfl (by kernel_rfl) (by kernel_rfl) (by kernel_rfl) (by kernel_rfl) (fun _ _ _ h => h) (Or.inl ⟨by rfl, by intro w hSw; go_simp⟩) hHeld ?_
              simp only [Act.put, Hn.p1, Hn.p2, Hn.p3]
              refine Hn.take (i := 20) (d := some 37) (v := .bool false) rfl (by kernel_rfl) (by kernel_rfl) (by kernel_rfl) (by kernel_rfl) (fun _ _ _ h => h) (Or.inl ⟨by rfl, by intro w hSw; go_simp⟩) hHeld ?_
              simp only [Act.put, Hn.p1, Hn.p2, Hn.p3]
              refine Hn.take (i := 21) (d := some 38) (v := .pointer (some ⟨g, 1, none⟩)) rfl (by kernel_rfl) (by kernel_rfl) (by kernel_rfl) (by kernel_rfl) (fun _ _ _ h => h) (Or.inl ⟨by rfl, by intro w hSw; go_simp⟩) hHeld ?_
              simp only [Act.put, Hn.p1, Hn.p2, Hn.p3]
              refine Hn.take (i := 22) (d := some 39) (v := .agg #[.int .i64 yr, .slice ya yQ.length yc]) rfl (by kernel_rfl) (by kernel_rfl) (by kernel_rfl) (by kernel_rfl) (fun _ _ _ h => h) (Or.inl ⟨by rfl, by intro w hSw; obtain ⟨c0, c1, c2, c3, c4, c5, c6⟩ := hSw; go_simp⟩) hHeld ?_
              simp only [Act.put, Hn.p1, Hn.p2, Hn.p3]
              refine Hn.take (i := 23) (d := some 40) (v := .pointer (some ⟨g, 3, none⟩)) rfl (by kernel_rfl) (by kernel_rfl) (by kernel_rfl) (by kernel_rfl) (fun _ _ _ h => h) (Or.inl ⟨by rfl, by intro w hSw; go_simp⟩) hHeld ?_
              simp only [Act.put, Hn.p1, Hn.p2, Hn.p3]
              refine Hn.take (i := 24) (d := some 41) (v := .agg #[.int .i64 zr, .slice za zQ.length zc]) rfl (by kernel_rfl) (by kernel_rfl) (by kernel_rfl) (by kernel_rfl) (fun _ _ _ h => h) (Or.inl ⟨by rfl, by intro w hSw; obtain ⟨c0, c1, c2, c3, c4, c5, c6⟩ := hSw; go_simp⟩) hHeld ?_
              simp only [Act.put, Hn.p1, Hn.p2, Hn.p3]
              refine wpAnyH_ready (rs := [25]) (by kernel_rfl) (by simp) (Hn.call2 (i := 25) rfl (by rfl) 100 (.tmp 39) (.tmp 41) 67 67 (by kernel_rfl) 42 (by kernel_rfl) (.agg #[.int .i64 yr, .slice ya yQ.length yc]) (.agg #[.int .i64 zr, .slice za zQ.length zc]) (by kernel_rfl) (by kernel_rfl) (fun _ => rfl) (hT _ o1 o2) ?_ AllReadyH.nil)
              rintro e w2 ⟨rfl, hb⟩
              refine ⟨_, rfl, hHeld.below hb, fun hHeld => ?_⟩
              replace hbel := Rw.next hbel hb
              replace o1 := o1.below hb
              replace o2 := o2.below hb
              clear hb
              simp only [Act.put, Hn.p1, Hn.p2, Hn.p3]
              refine Hn.take (i := 26) (d := some 43) (v := .bool true) rfl (by kernel_rfl) (by kernel_rfl) (by kernel_rfl) (by kernel_rfl) (fun _ _ _ h => h) (Or.inl ⟨by rfl, by intro w hSw; go_simp⟩) hHeld ?_
              simp only [Act.put, Hn.p1, Hn.p2, Hn.p3]
              refine Hn.take (i := 27) (d := some 44) (v := .bool true) rfl (by kernel_rfl) (by kernel_rfl) (by kernel_rfl) (by kernel_rfl) (fun _ _ _ h => h) (Or.inl ⟨by rfl, by intro w hSw; go_simp⟩) hHeld ?_
              simp only [Act.put, Hn.p1, Hn.p2, Hn.p3]
              refine wpAnyH_done (by kernel_rfl) ?_ _
              go_wp2
              go_ret
              exact ⟨ret_bool (HB1.out (by simp)).symm, Rw.next B1 hbel⟩
            | true =>
              replace hA := hA rfl
              cases Ap with
              | false =>
                refine wp_region_held_drew (S := Hold w.heap.size g b (.slice (some ⟨b, off, none⟩) n cap) (.string ys) (.int .i64 yr) (.slice ya yQ.length yc) (.int .i64 zr) (.slice za zQ.length zc) b (off + j * 5) (.string xs)) (by kernel_rfl) hH (fun hHeld => ?_)
                replace hbel := Rw.next hbel ((Below.refl _ _).drew)
                replace o1 := o1.below ((Below.refl _ _).drew)
                replace o2 := o2.below ((Below.refl _ _).drew)
                refine Hn.take (i := 0) (d := some 17) (v := .pointer (some ⟨g, 0, none⟩)) rfl (by kernel_rfl) (by kernel_rfl) (by kernel_rfl) (by kernel_rfl) (fun _ _ _ h => h) (Or.inl ⟨by rfl, by intro w hSw; go_simp⟩) hHeld ?_
                simp only [Act.put, Hn.p1, Hn.p2, Hn.p3]
                refine Hn.take (i := 1) (d := some 18) (v := .string ys) rfl (by kernel_rfl) (by kernel_rfl) (by kernel_rfl) (by kernel_rfl) (fun _ _ _ h => h) (Or.inl ⟨by rfl, by intro w hSw; obtain ⟨c0, c1, c2, c3, c4, c5, c6⟩ := hSw; go_simp⟩) hHeld ?_
                simp only [Act.put, Hn.p1, Hn.p2, Hn.p3]
                refine wpAnyH_ready (rs := [2]) (by kernel_rfl) (by simp) (Hn.call1 (i := 2) rfl (by rfl) 81 (.tmp 18) 9 (by kernel_rfl) 19 (by kernel_rfl) (.string ys) (by kernel_rfl) (fun _ => rfl) (hW _) ?_ AllReadyH.nil)
                rintro e w1 ⟨rfl, hb⟩
                refine ⟨_, rfl, hHeld.below hb, fun hHeld => ?_⟩
                replace hbel := Rw.next hbel hb
                replace o1 := o1.below hb
                replace o2 := o2.below hb
                clear hb
                simp only [Act.put, Hn.p1, Hn.p2, Hn.p3]
                refine Hn.take (i := 3) (d := some 20) (v := .bool false) rfl (by kernel_rfl) (by kernel_rfl) (by kernel_rfl) (by kernel_rfl) (fun _ _ _ h => h) (Or.inl ⟨by rfl, by intro w hSw; go_simp⟩) hHeld ?_
                simp only [Act.put, Hn.p1, Hn.p2, Hn.p3]
                refine Hn.take (i := 4) (d := some 21) (v := .bool false) rfl (by kernel_rfl) (by kernel_rfl) (by kernel_rfl) (by kernel_rfl) (fun _ _ _ h => h) (Or.inl ⟨by rfl, by intro w hSw; go_simp⟩) hHeld ?_
                simp only [Act.put, Hn.p1, Hn.p2, Hn.p3]
                refine Hn.take (i := 5) (d := some 22) (v := .int .i64 k) rfl (by kernel_rfl) (by kernel_rfl) (by kernel_rfl) (by kernel_rfl) (fun _ _ _ h => h) (Or.inl ⟨by rfl, by intro w hSw; go_simp⟩) hHeld ?_
                simp only [Act.put, Hn.p1, Hn.p2, Hn.p3]
                refine Hn.take (i := 6) (d := some 23) (v := .bool true) rfl (by kernel_rfl) (by kernel_rfl) (by kernel_rfl) (by kernel_rfl) (fun _ _ _ h => h) (Or.inl ⟨by rfl, by intro w hSw; go_simp⟩) hHeld ?_
                simp only [Act.put, Hn.p1, Hn.p2, Hn.p3]
                refine Hn.take (i := 7) (d := some 24) (v := .bool true) rfl (by kernel_rfl) (by kernel_rfl) (by kernel_rfl) (by kernel_rfl) (fun _ _ _ h => h) (Or.inl ⟨by rfl, by intro w hSw; go_simp⟩) hHeld ?_
                simp only [Act.put, Hn.p1, Hn.p2, Hn.p3]
                refine Hn.take (i := 8) (d := some 25) (v := .pointer (some ⟨w.heap.size, 0, none⟩)) rfl (by kernel_rfl) (by kernel_rfl) (by kernel_rfl) (by kernel_rfl) (fun _ _ _ h => h) (Or.inl ⟨by rfl, by intro w hSw; go_simp⟩) hHeld ?_
                simp only [Act.put, Hn.p1, Hn.p2, Hn.p3]
                refine Hn.take (i := 9) (d := some 26) (v := .slice (some ⟨b, off, none⟩) n cap) rfl (by kernel_rfl) (by kernel_rfl) (by kernel_rfl) (by kernel_rfl) (fun _ _ _ h => h) (Or.inl ⟨by rfl, by intro w hSw; obtain ⟨c0, c1, c2, c3, c4, c5, c6⟩ := hSw; go_simp⟩) hHeld ?_
                simp only [Act.put, Hn.p1, Hn.p2, Hn.p3]
                refine Hn.take (i := 10) (d := some 27) (v := .int .i64 k) rfl (by kernel_rfl) (by kernel_rfl) (by kernel_rfl) (by kernel_rfl) (fun _ _ _ h => h) (Or.inl ⟨by rfl, by intro w hSw; go_simp⟩) hHeld ?_
                simp only [Act.put, Hn.p1, Hn.p2, Hn.p3]
                refine Hn.take (i := 11) (d := some 28) (v := .int .i64 j) rfl (by kernel_rfl) (by kernel_rfl) (by kernel_rfl) (by kernel_rfl) (fun _ _ _ h => h) (Or.inl ⟨by rfl, by intro w hSw; go_simp⟩) hHeld ?_
                simp only [Act.put, Hn.p1, Hn.p2, Hn.p3]
                refine Hn.take (i := 12) (d := some 29) (v := .pointer (some ⟨b, off + j * 5, none⟩)) rfl (by kernel_rfl) (by kernel_rfl) (by kernel_rfl) (by kernel_rfl) (fun _ _ _ h => h) (Or.inl ⟨by rfl, by intro w hSw; go_simp⟩) hHeld ?_
                simp only [Act.put, Hn.p1, Hn.p2, Hn.p3]
                refine Hn.take (i := 13) (d := some 30) (v := .pointer (some ⟨b, off + j * 5, none⟩)) rfl (by kernel_rfl) (by kernel_rfl) (by kernel_rfl) (by kernel_rfl) (fun _ _ _ h => h) (Or.inl ⟨by rfl, by intro w hSw; go_simp⟩) hHeld ?_
                simp only [Act.put, Hn.p1, Hn.p2, Hn.p3]
                refine Hn.take (i := 14) (d := some 31) (v := .string xs) rfl (by kernel_rfl) (by kernel_rfl) (by kernel_rfl) (by kernel_rfl) (fun _ _ _ h => h) (Or.inl ⟨by rfl, by intro w hSw; obtain ⟨c0, c1, c2, c3, c4, c5, c6⟩ := hSw; go_simp⟩) hHeld ?_
                simp only [Act.put, Hn.p1, Hn.p2, Hn.p3]
                refine Hn.take (i := 15) (d := some 32) (v := .pointer (some ⟨g, 0, none⟩)) rfl (by kernel_rfl) (by kernel_rfl) (by kernel_rfl) (by kernel_rfl) (fun _ _ _ h => h) (Or.inl ⟨by rfl, by intro w hSw; go_simp⟩) hHeld ?_
                simp only [Act.put, Hn.p1, Hn.p2, Hn.p3]
                refine Hn.take (i := 16) (d := some 33) (v := .string ys) rfl (by kernel_rfl) (by kernel_rfl) (by kernel_rfl) (by kernel_rfl) (fun _ _ _ h => h) (Or.inl ⟨by rfl, by intro w hSw; obtain ⟨c0, c1, c2, c3, c4, c5, c6⟩ := hSw; go_simp⟩) hHeld ?_
                simp only [Act.put, Hn.p1, Hn.p2, Hn.p3]
                refine Hn.take (i := 17) (d := some 34) (v := .bool false) rfl (by kernel_rfl) (by kernel_rfl) (by kernel_rfl) (by kernel_rfl) (fun _ _ _ h => h) (Or.inl ⟨by rfl, by intro w hSw; go_simp⟩) hHeld ?_
                simp only [Act.put, Hn.p1, Hn.p2, Hn.p3]
                refine Hn.take (i := 18) (d := some 35) (v := .bool false) rfl (by kernel_rfl) (by kernel_rfl) (by kernel_rfl) (by kernel_rfl) (fun _ _ _ h => h) (Or.inl ⟨by rfl, by intro w hSw; go_simp⟩) hHeld ?_
                simp only [Act.put, Hn.p1, Hn.p2, Hn.p3]
                refine Hn.take (i := 19) (d := some 36) (v := .bool false) rfl (by kernel_rfl) (by kernel_rfl) (by kernel_rfl) (by kernel_rfl) (fun _ _ _ h => h) (Or.inl ⟨by rfl, by intro w hSw; go_simp⟩) hHeld ?_
                simp only [Act.put, Hn.p1, Hn.p2, Hn.p3]
                refine Hn.take (i := 20) (d := some 37) (v := .bool false) rfl (by kernel_rfl) (by kernel_rfl) (by kernel_rfl) (by kernel_rfl) (fun _ _ _ h => h) (Or.inl ⟨by rfl, by intro w hSw; go_simp⟩) hHeld ?_
                simp only [Act.put, Hn.p1, Hn.p2, Hn.p3]
                refine Hn.take (i := 21) (d := some 38) (v := .pointer (some ⟨g, 1, none⟩)) rfl (by kernel_rfl) (by kernel_rfl) (by kernel_rfl) (by kernel_rfl) (fun _ _ _ h => h) (Or.inl ⟨by rfl, by intro w hSw; go_simp⟩) hHeld ?_
                simp only [Act.put, Hn.p1, Hn.p2, Hn.p3]
                refine Hn.take (i := 22) (d := some 39) (v := .agg #[.int .i64 yr, .slice ya yQ.length yc]) rfl (by kernel_rfl) (by kernel_rfl) (by kernel_rfl) (by kernel_rfl) (fun _ _ _ h => h) (Or.inl ⟨by rfl, by intro w hSw; obtain ⟨c0, c1, c2, c3, c4, c5, c6⟩ := hSw; go_simp⟩) hHeld ?_
                simp only [Act.put, Hn.p1, Hn.p2, Hn.p3]
                refine Hn.take (i := 23) (d := some 40) (v := .pointer (some ⟨g, 3, none⟩)) rfl (by kernel_rfl) (by kernel_rfl) (by kernel_rfl) (by kernel_rfl) (fun _ _ _ h => h) (Or.inl ⟨by rfl, by intro w hSw; go_simp⟩) hHeld ?_
                simp only [Act.put, Hn.p1, Hn.p2, Hn.p3]
                refine Hn.take (i := 24) (d := some 41) (v := .agg #[.int .i64 zr, .slice za zQ.length zc]) rfl (by kernel_rfl) (by kernel_rfl) (by kernel_rfl) (by kernel_rfl) (fun _ _ _ h => h) (Or.inl ⟨by rfl, by intro w hSw; obtain ⟨c0, c1, c2, c3, c4, c5, c6⟩ := hSw; go_simp⟩) hHeld ?_
                simp only [Act.put, Hn.p1, Hn.p2, Hn.p3]
                refine wpAnyH_ready (rs := [25]) (by kernel_rfl) (by simp) (Hn.call2 (i := 25) rfl (by rfl) 100 (.tmp 39) (.tmp 41) 67 67 (by kernel_rfl) 42 (by kernel_rfl) (.agg #[.int .i64 yr, .slice ya yQ.length yc]) (.agg #[.int .i64 zr, .slice za zQ.length zc]) (by kernel_rfl) (by kernel_rfl) (fun _ => rfl) (hT _ o1 o2) ?_ AllReadyH.nil)
                rintro e w2 ⟨rfl, hb⟩
                refine ⟨_, rfl, hHeld.below hb, fun hHeld => ?_⟩
                replace hbel := Rw.next hbel hb
                replace o1 := o1.below hb
                replace o2 := o2.below hb
                clear hb
                simp only [Act.put, Hn.p1, Hn.p2, Hn.p3]
                refine Hn.take (i := 26) (d := some 43) (v := .bool false) rfl (by kernel_rfl) (by kernel_rfl) (by kernel_rfl) (by kernel_rfl) (fun _ _ _ h => h) (Or.inl ⟨by rfl, by intro w hSw; go_simp⟩) hHeld ?_
                simp only [Act.put, Hn.p1, Hn.p2, Hn.p3]
                refine Hn.take (i := 27) (d := some 44) (v := .bool false) rfl (by kernel_rfl) (by kernel_rfl) (by kernel_rfl) (by kernel_rfl) (fun _ _ _ h => h) (Or.inl ⟨by rfl, by intro w hSw; go_simp⟩) hHeld ?_
                simp only [Act.put, Hn.p1, Hn.p2, Hn.p3]
                refine wpAnyH_done (by kernel_rfl) ?_ _
                obtain ⟨c0, c1, c2, c3, c4, c5, c6⟩ := hHeld
                go_wp2_with (go_at_call 60; refine (hA _ o1 o2).mono ?_; rintro e w3 ⟨rfl, hb⟩; replace c3 := (hb.cell (World.block_lt_of_cell? _ _ c3)).trans c3; replace c5 := (hb.cell (World.block_lt_of_cell? _ _ c5)).trans c5; replace hbel := Rw.next hbel hb; clear hb)
                go_ret
                exact ⟨ret_bool (HB1.out (by simp)).symm, Rw.next B1 hbel⟩
              | true =>
                by_cases hz : s = 0
                · subst hz
                  have HI := HI.out rfl
                  rw [HI] at HB1
                  clear HI
                  refine wp_region_held_drew (S := Hold w.heap.size g b (.slice (some ⟨b, off, none⟩) n cap) (.string ys) (.int .i64 yr) (.slice ya yQ.length yc) (.int .i64 zr) (.slice za zQ.length zc) b (off + j * 5) (.string xs)) (by kernel_rfl) hH (fun hHeld => ?_)
                  replace hbel := Rw.next hbel ((Below.refl _ _).drew)
                  replace o1 := o1.below ((Below.refl _ _).drew)
                  replace o2 := o2.below ((Below.refl _ _).drew)
                  refine Hn.take (i := 0) (d := some 17) (v := .pointer (some ⟨g, 0, none⟩)) rfl (by kernel_rfl) (by kernel_rfl) (by kernel_rfl) (by kernel_rfl) (fun _ _ _ h => h) (Or.inl ⟨by rfl, by intro w hSw; go_simp⟩) hHeld ?_
                  simp only [Act.put, Hn.p1, Hn.p2, Hn.p3]
                  refine Hn.take (i := 1) (d := some 18) (v := .string ys) rfl (by kernel_rfl) (by kernel_rfl) (by kernel_rfl) (by kernel_rfl) (fun _ _ _ h => h) (Or.inl ⟨by rfl, by intro w hSw; obtain ⟨c0, c1, c2, c3, c4, c5, c6⟩ := hSw; go_simp⟩) hHeld ?_
                  simp only [Act.put, Hn.p1, Hn.p2, Hn.p3]
                  refine wpAnyH_ready (rs := [2]) (by kernel_rfl) (by simp) (Hn.call1 (i := 2) rfl (by rfl) 81 (.tmp 18) 9 (by kernel_rfl) 19 (by kernel_rfl) (.string ys) (by kernel_rfl) (fun _ => rfl) (hW _) ?_ AllReadyH.nil)
                  rintro e w1 ⟨rfl, hb⟩
                  refine ⟨_, rfl, hHeld.below hb, fun hHeld => ?_⟩
                  replace hbel := Rw.next hbel hb
                  replace o1 := o1.below hb
                  replace o2 := o2.below hb
                  clear hb
                  simp only [Act.put, Hn.p1, Hn.p2, Hn.p3]
                  refine Hn.take (i := 3) (d := some 20) (v := .bool false) rfl (by kernel_rfl) (by kernel_rfl) (by kernel_rfl) (by kernel_rfl) (fun _ _ _ h => h) (Or.inl ⟨by rfl, by intro w hSw; go_simp⟩) hHeld ?_
                  simp only [Act.put, Hn.p1, Hn.p2, Hn.p3]
                  refine Hn.take (i := 4) (d := some 21) (v := .bool false) rfl (by kernel_rfl) (by kernel_rfl) (by kernel_rfl) (by kernel_rfl) (fun _ _ _ h => h) (Or.inl ⟨by rfl, by intro w hSw; go_simp⟩) hHeld ?_
                  simp only [Act.put, Hn.p1, Hn.p2, Hn.p3]
                  refine Hn.take (i := 5) (d := some 22) (v := .int .i64 k) rfl (by kernel_rfl) (by kernel_rfl) (by kernel_rfl) (by kernel_rfl) (fun _ _ _ h => h) (Or.inl ⟨by rfl, by intro w hSw; go_simp⟩) hHeld ?_
                  simp only [Act.put, Hn.p1, Hn.p2, Hn.p3]
                  refine Hn.take (i := 6) (d := some 23) (v := .bool true) rfl (by kernel_rfl) (by kernel_rfl) (by kernel_rfl) (by kernel_rfl) (fun _ _ _ h => h) (Or.inl ⟨by rfl, by intro w hSw; go_simp⟩) hHeld ?_
                  simp only [Act.put, Hn.p1, Hn.p2, Hn.p3]
                  refine Hn.take (i := 7) (d := some 24) (v := .bool true) rfl (by kernel_rfl) (by kernel_rfl) (by kernel_rfl) (by kernel_rfl) (fun _ _ _ h => h) (Or.inl ⟨by rfl, by intro w hSw; go_simp⟩) hHeld ?_
                  simp only [Act.put, Hn.p1, Hn.p2, Hn.p3]
                  refine Hn.take (i := 8) (d := some 25) (v := .pointer (some ⟨w.heap.size, 0, none⟩)) rfl (by kernel_rfl) (by kernel_rfl) (by kernel_rfl) (by kernel_rfl) (fun _ _ _ h => h) (Or.inl ⟨by rfl, by intro w hSw; go_simp⟩) hHeld ?_
                  simp only [Act.put, Hn.p1, Hn.p2, Hn.p3]
                  refine Hn.take (i := 9) (d := some 26) (v := .slice (some ⟨b, off, none⟩) n cap) rfl (by kernel_rfl) (by kernel_rfl) (by kernel_rfl) (by kernel_rfl) (fun _ _ _ h => h) (Or.inl ⟨by rfl, by intro w hSw; obtain ⟨c0, c1, c2, c3, c4, c5, c6⟩ := hSw; go_simp⟩) hHeld ?_
                  simp only [Act.put, Hn.p1, Hn.p2, Hn.p3]
                  refine Hn.take (i := 10) (d := some 27) (v := .int .i64 k) rfl (by kernel_rfl) (by kernel_rfl) (by kernel_rfl) (by kernel_rfl) (fun _ _ _ h => h) (Or.inl ⟨by rfl, by intro w hSw; go_simp⟩) hHeld ?_
                  simp only [Act.put, Hn.p1, Hn.p2, Hn.p3]
                  refine Hn.take (i := 11) (d := some 28) (v := .int .i64 j) rfl (by kernel_rfl) (by kernel_rfl) (by kernel_rfl) (by kernel_rfl) (fun _ _ _ h => h) (Or.inl ⟨by rfl, by intro w hSw; go_simp⟩) hHeld ?_
                  simp only [Act.put, Hn.p1, Hn.p2, Hn.p3]
                  refine Hn.take (i := 12) (d := some 29) (v := .pointer (some ⟨b, off + j * 5, none⟩)) rfl (by kernel_rfl) (by kernel_rfl) (by kernel_rfl) (by kernel_rfl) (fun _ _ _ h => h) (Or.inl ⟨by rfl, by intro w hSw; go_simp⟩) hHeld ?_
                  simp only [Act.put, Hn.p1, Hn.p2, Hn.p3]
                  refine Hn.take (i := 13) (d := some 30) (v := .pointer (some ⟨b, off + j * 5, none⟩)) rfl (by kernel_rfl) (by kernel_rfl) (by kernel_rfl) (by kernel_rfl) (fun _ _ _ h => h) (Or.inl ⟨by rfl, by intro w hSw; go_simp⟩) hHeld ?_
                  simp only [Act.put, Hn.p1, Hn.p2, Hn.p3]
                  refine Hn.take (i := 14) (d := some 31) (v := .string xs) rfl (by kernel_rfl) (by kernel_rfl) (by kernel_rfl) (by kernel_rfl) (fun _ _ _ h => h) (Or.inl ⟨by rfl, by intro w hSw; obtain ⟨c0, c1, c2, c3, c4, c5, c6⟩ := hSw; go_simp⟩) hHeld ?_
                  simp only [Act.put, Hn.p1, Hn.p2, Hn.p3]
                  refine Hn.take (i := 15) (d := some 32) (v := .pointer (some ⟨g, 0, none⟩)) rfl (by kernel_rfl) (by kernel_rfl) (by kernel_rfl) (by kernel_rfl) (fun _ _ _ h => h) (Or.inl ⟨by rfl, by intro w hSw; go_simp⟩) hHeld ?_
                  simp only [Act.put, Hn.p1, Hn.p2, Hn.p3]
                  refine Hn.take (i := 16) (d := some 33) (v := .string ys) rfl (by kernel_rfl) (by kernel_rfl) (by kernel_rfl) (by kernel_rfl) (fun _ _ _ h => h) (Or.inl ⟨by rfl, by intro w hSw; obtain ⟨c0, c1, c2, c3, c4, c5, c6⟩ := hSw; go_simp⟩) hHeld ?_
                  simp only [Act.put, Hn.p1, Hn.p2, Hn.p3]
                  refine Hn.take (i := 17) (d := some 34) (v := .bool false) rfl (by kernel_rfl) (by kernel_rfl) (by kernel_rfl) (by kernel_rfl) (fun _ _ _ h => h) (Or.inl ⟨by rfl, by intro w hSw; go_simp⟩) hHeld ?_
                  simp only [Act.put, Hn.p1, Hn.p2, Hn.p3]
                  refine Hn.take (i := 18) (d := some 35) (v := .bool false) rfl (by kernel_rfl) (by kernel_rfl) (by kernel_rfl) (by kernel_rfl) (fun _ _ _ h => h) (Or.inl ⟨by rfl, by intro w hSw; go_simp⟩) hHeld ?_
                  simp only [Act.put, Hn.p1, Hn.p2, Hn.p3]
                  refine Hn.take (i := 19) (d := some 36) (v := .bool false) rfl (by kernel_rfl) (by kernel_rfl) (by kernel_rfl) (by kernel_rfl) (fun _ _ _ h => h) (Or.inl ⟨by rfl, by intro w hSw; go_simp⟩) hHeld ?_
                  simp only [Act.put, Hn.p1, Hn.p2, Hn.p3]
                  refine Hn.take (i := 20) (d := some 37) (v := .bool false) rfl (by kernel_rfl) (by kernel_rfl) (by kernel_rfl) (by kernel_rfl) (fun _ _ _ h => h) (Or.inl ⟨by rfl, by intro w hSw; go_simp⟩) hHeld ?_
                  simp only [Act.put, Hn.p1, Hn.p2, Hn.p3]
                  refine Hn.take (i := 21) (d := some 38) (v := .pointer (some ⟨g, 1, none⟩)) rfl (by kernel_rfl) (by kernel_rfl) (by kernel_rfl) (by kernel_rfl) (fun _ _ _ h => h) (Or.inl ⟨by rfl, by intro w hSw; go_simp⟩) hHeld ?_
                  simp only [Act.put, Hn.p1, Hn.p2, Hn.p3]
                  refine Hn.take (i := 22) (d := some 39) (v := .agg #[.int .i64 yr, .slice ya yQ.length yc]) rfl (by kernel_rfl) (by kernel_rfl) (by kernel_rfl) (by kernel_rfl) (fun _ _ _ h => h) (Or.inl ⟨by rfl, by intro w hSw; obtain ⟨c0, c1, c2, c3, c4, c5, c6⟩ := hSw; go_simp⟩) hHeld ?_
                  simp only [Act.put, Hn.p1, Hn.p2, Hn.p3]
                  refine Hn.take (i := 23) (d := some 40) (v := .pointer (some ⟨g, 3, none⟩)) rfl (by kernel_rfl) (by kernel_rfl) (by kernel_rfl) (by kernel_rfl) (fun _ _ _ h => h) (Or.inl ⟨by rfl, by intro w hSw; go_simp⟩) hHeld ?_
                  simp only [Act.put, Hn.p1, Hn.p2, Hn.p3]
                  refine Hn.take (i := 24) (d := some 41) (v := .agg #[.int .i64 zr, .slice za zQ.length zc]) rfl (by kernel_rfl) (by kernel_rfl) (by kernel_rfl) (by kernel_rfl) (fun _ _ _ h => h) (Or.inl ⟨by rfl, by intro w hSw; obtain ⟨c0, c1, c2, c3, c4, c5, c6⟩ := hSw; go_simp⟩) hHeld ?_
                  simp only [Act.put, Hn.p1, Hn.p2, Hn.p3]
                  refine wpAnyH_ready (rs := [25]) (by kernel_rfl) (by simp) (Hn.call2 (i := 25) rfl (by rfl) 100 (.tmp 39) (.tmp 41) 67 67 (by kernel_rfl) 42 (by kernel_rfl) (.agg #[.int .i64 yr, .slice ya yQ.length yc]) (.agg #[.int .i64 zr, .slice za zQ.length zc]) (by kernel_rfl) (by kernel_rfl) (fun _ => rfl) (hT _ o1 o2) ?_ AllReadyH.nil)
                  rintro e w2 ⟨rfl, hb⟩
                  refine ⟨_, rfl, hHeld.below hb, fun hHeld => ?_⟩
                  replace hbel := Rw.next hbel hb
                  replace o1 := o1.below hb
                  replace o2 := o2.below hb
                  clear hb
                  simp only [Act.put, Hn.p1, Hn.p2, Hn.p3]
                  refine Hn.take (i := 26) (d := some 43) (v := .bool false) rfl (by kernel_rfl) (by kernel_rfl) (by kernel_rfl) (by kernel_rfl) (fun _ _ _ h => h) (Or.inl ⟨by rfl, by intro w hSw; go_simp⟩) hHeld ?_
                  simp only [Act.put, Hn.p1, Hn.p2, Hn.p3]
                  refine Hn.take (i := 27) (d := some 44) (v := .bool false) rfl (by kernel_rfl) (by kernel_rfl) (by kernel_rfl) (by kernel_rfl) (fun _ _ _ h => h) (Or.inl ⟨by rfl, by intro w hSw; go_simp⟩) hHeld ?_
                  simp only [Act.put, Hn.p1, Hn.p2, Hn.p3]
                  refine wpAnyH_done (by kernel_rfl) ?_ _
                  obtain ⟨c0, c1, c2, c3, c4, c5, c6⟩ := hHeld
                  go_wp2_with (go_at_call 60; refine (hA _ o1 o2).mono ?_; rintro e w3 ⟨rfl, hb⟩; replace c3 := (hb.cell (World.block_lt_of_cell? _ _ c3)).trans c3; replace c5 := (hb.cell (World.block_lt_of_cell? _ _ c5)).trans c5; replace hbel := Rw.next hbel hb; clear hb)
                  go_ret
                  exact ⟨ret_bool (HB1.out (by simp)).symm, Rw.next B1 hbel⟩
                · have HI := HJ.out hz
                  rw [HI] at HX
                  clear HI
                  have hz1 : ((s : Int) == 0) = false := by simp; omega
                  have hz2 : ¬ ((s : Int) = 0) := by omega
                  refine wp_region_held_drew (S := Hold w.heap.size g b (.slice (some ⟨b, off, none⟩) n cap) (.string ys) (.int .i64 yr) (.slice ya yQ.length yc) (.int .i64 zr) (.slice za zQ.length zc) b (off + j * 5) (.string xs)) (by kernel_rfl) hH (fun hHeld => ?_)
                  replace hbel := Rw.next hbel ((Below.refl _ _).drew)
                  replace o1 := o1.below ((Below.refl _ _).drew)
                  replace o2 := o2.below ((Below.refl _ _).drew)
                  refine Hn.take (i := 0) (d := some 17) (v := .pointer (some ⟨g, 0, none⟩)) rfl (by kernel_rfl) (by kernel_rfl) (by kernel_rfl) (by kernel_rfl) (fun _ _ _ h => h) (Or.inl ⟨by rfl, by intro w hSw; go_simp⟩) hHeld ?_
                  simp only [Act.put, Hn.p1, Hn.p2, Hn.p3]
                  refine Hn.take (i := 1) (d := some 18) (v := .string ys) rfl (by kernel_rfl) (by kernel_rfl) (by kernel_rfl) (by kernel_rfl) (fun _ _ _ h => h) (Or.inl ⟨by rfl, by intro w hSw; obtain ⟨c0, c1, c2, c3, c4, c5, c6⟩ := hSw; go_simp⟩) hHeld ?_
                  simp only [Act.put, Hn.p1, Hn.p2, Hn.p3]
                  refine wpAnyH_ready (rs := [2]) (by kernel_rfl) (by simp) (Hn.call1 (i := 2) rfl (by rfl) 81 (.tmp 18) 9 (by kernel_rfl) 19 (by kernel_rfl) (.string ys) (by kernel_rfl) (fun _ => rfl) (hW _) ?_ AllReadyH.nil)
                  rintro e w1 ⟨rfl, hb⟩
                  refine ⟨_, rfl, hHeld.below hb, fun hHeld => ?_⟩
                  replace hbel := Rw.next hbel hb
                  replace o1 := o1.below hb
                  replace o2 := o2.below hb
                  clear hb
                  simp only [Act.put, Hn.p1, Hn.p2, Hn.p3]
                  refine Hn.take (i := 3) (d := some 20) (v := .bool false) rfl (by kernel_rfl) (by kernel_rfl) (by kernel_rfl) (by kernel_rfl) (fun _ _ _ h => h) (Or.inl ⟨by rfl, by intro w hSw; go_simp⟩) hHeld ?_
                  simp only [Act.put, Hn.p1, Hn.p2, Hn.p3]
                  refine Hn.take (i := 4) (d := some 21) (v := .bool false) rfl (by kernel_rfl) (by kernel_rfl) (by kernel_rfl) (by kernel_rfl) (fun _ _ _ h => h) (Or.inl ⟨by rfl, by intro w hSw; go_simp⟩) hHeld ?_
                  simp only [Act.put, Hn.p1, Hn.p2, Hn.p3]
                  refine Hn.take (i := 5) (d := some 22) (v := .int .i64 k) rfl (by kernel_rfl) (by kernel_rfl) (by kernel_rfl) (by kernel_rfl) (fun _ _ _ h => h) (Or.inl ⟨by rfl, by intro w hSw; go_simp⟩) hHeld ?_
                  simp only [Act.put, Hn.p1, Hn.p2, Hn.p3]
                  refine Hn.take (i := 6) (d := some 23) (v := .bool true) rfl (by kernel_rfl) (by kernel_rfl) (by kernel_rfl) (by kernel_rfl) (fun _ _ _ h => h) (Or.inl ⟨by rfl, by intro w hSw; go_simp⟩) hHeld ?_
                  simp only [Act.put, Hn.p1, Hn.p2, Hn.p3]
                  refine Hn.take (i := 7) (d := some 24) (v := .bool true) rfl (by kernel_rfl) (by kernel_rfl) (by kernel_rfl) (by kernel_rfl) (fun _ _ _ h => h) (Or.inl ⟨by rfl, by intro w hSw; go_simp⟩) hHeld ?_
                  simp only [Act.put, Hn.p1, Hn.p2, Hn.p3]
                  refine Hn.take (i := 8) (d := some 25) (v := .pointer (some ⟨w.heap.size, 0, none⟩)) rfl (by kernel_rfl) (by kernel_rfl) (by kernel_rfl) (by kernel_rfl) (fun _ _ _ h => h) (Or.inl ⟨by rfl, by intro w hSw; go_simp⟩) hHeld ?_
                  simp only [Act.put, Hn.p1, Hn.p2, Hn.p3]
                  refine Hn.take (i := 9) (d := some 26) (v := .slice (some ⟨b, off, none⟩) n cap) rfl (by kernel_rfl) (by kernel_rfl) (by kernel_rfl) (by kernel_rfl) (fun _ _ _ h => h) (Or.inl ⟨by rfl, by intro w hSw; obtain ⟨c0, c1, c2, c3, c4, c5, c6⟩ := hSw; go_simp⟩) hHeld ?_
                  simp only [Act.put, Hn.p1, Hn.p2, Hn.p3]
                  refine Hn.take (i := 10) (d := some 27) (v := .int .i64 k) rfl (by kernel_rfl) (by kernel_rfl) (by kernel_rfl) (by kernel_rfl) (fun _ _ _ h => h) (Or.inl ⟨by rfl, by intro w hSw; go_simp⟩) hHeld ?_
                  simp only [Act.put, Hn.p1, Hn.p2, Hn.p3]
                  refine Hn.take (i := 11) (d := some 28) (v := .int .i64 j) rfl (by kernel_rfl) (by kernel_rfl) (by kernel_rfl) (by kernel_rfl) (fun _ _ _ h => h) (Or.inl ⟨by rfl, by intro w hSw; go_simp⟩) hHeld ?_
                  simp only [Act.put, Hn.p1, Hn.p2, Hn.p3]
                  refine Hn.take (i := 12) (d := some 29) (v := .pointer (some ⟨b, off + j * 5, none⟩)) rfl (by kernel_rfl) (by kernel_rfl) (by kernel_rfl) (by kernel_rfl) (fun _ _ _ h => h) (Or.inl ⟨by rfl, by intro w hSw; go_simp⟩) hHeld ?_
                  simp only [Act.put, Hn.p1, Hn.p2, Hn.p3]
                  refine Hn.take (i := 13) (d := some 30) (v := .pointer (some ⟨b, off + j * 5, none⟩)) rfl (by kernel_rfl) (by kernel_rfl) (by kernel_rfl) (by kernel_rfl) (fun _ _ _ h => h) (Or.inl ⟨by rfl, by intro w hSw; go_simp⟩) hHeld ?_
                  simp only [Act.put, Hn.p1, Hn.p2, Hn.p3]
                  refine Hn.take (i := 14) (d := some 31) (v := .string xs) rfl (by kernel_rfl) (by kernel_rfl) (by kernel_rfl) (by kernel_rfl) (fun _ _ _ h => h) (Or.inl ⟨by rfl, by intro w hSw; obtain ⟨c0, c1, c2, c3, c4, c5, c6⟩ := hSw; go_simp⟩) hHeld ?_
                  simp only [Act.put, Hn.p1, Hn.p2, Hn.p3]
                  refine Hn.take (i := 15) (d := some 32) (v := .pointer (some ⟨g, 0, none⟩)) rfl (by kernel_rfl) (by kernel_rfl) (by kernel_rfl) (by kernel_rfl) (fun _ _ _ h => h) (Or.inl ⟨by rfl, by intro w hSw; go_simp⟩) hHeld ?_
                  simp only [Act.put, Hn.p1, Hn.p2, Hn.p3]
                  refine Hn.take (i := 16) (d := some 33) (v := .string ys) rfl (by kernel_rfl) (by kernel_rfl) (by kernel_rfl) (by kernel_rfl) (fun _ _ _ h => h) (Or.inl ⟨by rfl, by intro w hSw; obtain ⟨c0, c1, c2, c3, c4, c5, c6⟩ := hSw; go_simp⟩) hHeld ?_
                  simp only [Act.put, Hn.p1, Hn.p2, Hn.p3]
                  refine Hn.take (i := 17) (d := some 34) (v := .bool false) rfl (by kernel_rfl) (by kernel_rfl) (by kernel_rfl) (by kernel_rfl) (fun _ _ _ h => h) (Or.inl ⟨by rfl, by intro w hSw; go_simp⟩) hHeld ?_
                  simp only [Act.put, Hn.p1, Hn.p2, Hn.p3]
                  refine Hn.take (i := 18) (d := some 35) (v := .bool false) rfl (by kernel_rfl) (by kernel_rfl) (by kernel_rfl) (by kernel_rfl) (fun _ _ _ h => h) (Or.inl ⟨by rfl, by intro w hSw; go_simp⟩) hHeld ?_
                  simp only [Act.put, Hn.p1, Hn.p2, Hn.p3]
                  refine Hn.take (i := 19) (d := some 36) (v := .bool false) rfl (by kernel_rfl) (by kernel_rfl) (by kernel_rfl) (by kernel_rfl) (fun _ _ _ h => h) (Or.inl ⟨by rfl, by intro w hSw; go_simp⟩) hHeld ?_
                  simp only [Act.put, Hn.p1, Hn.p2, Hn.p3]
                  refine Hn.take (i := 20) (d := some 37) (v := .bool false) rfl (by kernel_rfl) (by kernel_rfl) (by kernel_rfl) (by kernel_rfl) (fun _ _ _ h => h) (Or.inl ⟨by rfl, by intro w hSw; go_simp⟩) hHeld ?_
                  simp only [Act.put, Hn.p1, Hn.p2, Hn.p3]
                  refine Hn.take (i := 21) (d := some 38) (v := .pointer (some ⟨g, 1, none⟩)) rfl (by kernel_rfl) (by kernel_rfl) (by kernel_rfl) (by kernel_rfl) (fun _ _ _ h => h) (Or.inl ⟨by rfl, by intro w hSw; go_simp⟩) hHeld ?_
                  simp only [Act.put, Hn.p1, Hn.p2, Hn.p3]
                  refine Hn.take (i := 22) (d := some 39) (v := .agg #[.int .i64 yr, .slice ya yQ.length yc]) rfl (by kernel_rfl) (by kernel_rfl) (by kernel_rfl) (by kernel_rfl) (fun _ _ _ h => h) (Or.inl ⟨by rfl, by intro w hSw; obtain ⟨c0, c1, c2, c3, c4, c5, c6⟩ := hSw; go_simp⟩) hHeld ?_
                  simp only [Act.put, Hn.p1, Hn.p2, Hn.p3]
                  refine Hn.take (i := 23) (d := some 40) (v := .pointer (some ⟨g, 3, none⟩)) rfl (by kernel_rfl) (by kernel_rfl) (by kernel_rfl) (by kernel_rfl) (fun _ _ _ h => h) (Or.inl ⟨by rfl, by intro w hSw; go_simp⟩) hHeld ?_
                  simp only [Act.put, Hn.p1, Hn.p2, Hn.p3]
                  refine Hn.take (i := 24) (d := some 41) (v := .agg #[.int .i64 zr, .slice za zQ.length zc]) rfl (by kernel_rfl) (by kernel_rfl) (by kernel_rfl) (by kernel_rfl) (fun _ _ _ h => h) (Or.inl ⟨by rfl, by intro w hSw; obtain ⟨c0, c1, c2, c3, c4, c5, c6⟩ := hSw; go_simp⟩) hHeld ?_
                  simp only [Act.put, Hn.p1, Hn.p2, Hn.p3]
                  refine wpAnyH_ready (rs := [25]) (by kernel_rfl) (by simp) (Hn.call2 (i := 25) rfl (by rfl) 100 (.tmp 39) (.tmp 41) 67 67 (by kernel_rfl) 42 (by kernel_rfl) (.agg #[.int .i64 yr, .slice ya yQ.length yc]) (.agg #[.int .i64 zr, .slice za zQ.length zc]) (by kernel_rfl) (by kernel_rfl) (fun _ => rfl) (hT _ o1 o2) ?_ AllReadyH.nil)
                  rintro e w2 ⟨rfl, hb⟩
                  refine ⟨_, rfl, hHeld.below hb, fun hHeld => ?_⟩
                  replace hbel := Rw.next hbel hb
                  replace o1 := o1.below hb
                  replace o2 := o2.below hb
                  clear hb
                  simp only [Act.put, Hn.p1, Hn.p2, Hn.p3]
                  refine Hn.take (i := 26) (d := some 43) (v := .bool false) rfl (by kernel_rfl) (by kernel_rfl) (by kernel_rfl) (by kernel_rfl) (fun _ _ _ h => h) (Or.inl ⟨by rfl, by intro w hSw; go_simp⟩) hHeld ?_
                  simp only [Act.put, Hn.p1, Hn.p2, Hn.p3]
                  refine Hn.take (i := 27) (d := some 44) (v := .bool false) rfl (by kernel_rfl) (by kernel_rfl) (by kernel_rfl) (by kernel_rfl) (fun _ _ _ h => h) (Or.inl ⟨by rfl, by intro w hSw; go_simp⟩) hHeld ?_
                  simp only [Act.put, Hn.p1, Hn.p2, Hn.p3]
                  refine wpAnyH_done (by kernel_rfl) ?_ _
                  obtain ⟨c0, c1, c2, c3, c4, c5, c6⟩ := hHeld
                  go_wp2_with (go_at_call 60; refine (hA _ o1 o2).mono ?_; rintro e w3 ⟨rfl, hb⟩; replace c3 := (hb.cell (World.block_lt_of_cell? _ _ c3)).trans c3; replace c5 := (hb.cell (World.block_lt_of_cell? _ _ c5)).trans c5; replace hbel := Rw.next hbel hb; clear hb)
                  go_roundw
                  case rel => exact ⟨k + 1, by omega, by go_num, hbel, HX.out (by simp)⟩
                  case measure => simp [intOf]; omega
    · have he : k = n := by omega
      subst he
      go_wp2
      go_ret
      exact ⟨ret_bool (HG.out HP.out).symm, Rw.next B1 hbel⟩

end Go.Proofs.YtkpchlojapkimaaGreat.Ch

