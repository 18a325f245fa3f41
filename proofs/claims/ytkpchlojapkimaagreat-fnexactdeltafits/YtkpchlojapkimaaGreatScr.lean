/-
  Copies of stores, with room for what they hold; marks from another number on.
-/
import Derived.Test.YtkpchlojapkimaaGreatMs
namespace Go.Proofs.YtkpchlojapkimaaGreat.St
set_option maxRecDepth 8000
set_option linter.unusedSimpArgs false
set_option linter.unusedVariables false
open Go Go.ChangeShapes Go.WideShapes Go.RowKit
open Num Word Pl Rp
open Rl (Rm rm0 said)

theorem kN_shift (T : List Nm) (k0 : Nat) : ∀ i, kN T k0 i + 1 = kN T 1 i + k0
  | 0 => by simp only [kN]; omega
  | i + 1 => by have := kN_shift T k0 i; simp only [kN]; omega
/-- The named relations that are copied so far. -/
structure CopiedR (w : World) (g : Nat) (P : List Nm) : Prop where
  each : ∀ x ∈ P, x.o = 0 ∧ (∃ lo hi, g < lo ∧ hi ≤ w.heap.size ∧ Rl.Own w lo hi x.a x.b x.Q) ∧ x.s.size ≤ maxLen ∧ x.Q.length ≤ x.c
  diff : P.Pairwise fun x y => ∀ r ∈ x.Q, ∀ q ∈ y.Q, r.l.length ≠ 0 → q.l.length ≠ 0 → r.b ≠ q.b
theorem CopiedR.keep {w w' : World} {g : Nat} {P : List Nm} (h : CopiedR w g P) (hk : ∀ x, g < x → x < w.heap.size → w'.heap[x]? = w.heap[x]?) (hs : w.heap.size ≤ w'.heap.size) : CopiedR w' g P :=
  ⟨fun x hx => by obtain ⟨e, ⟨lo, hi, h1, h2, h3⟩, h4⟩ := h.each x hx; exact ⟨e, ⟨lo, hi, h1, by omega, h3.keep fun y hy hy' => hk y (by omega) hy'⟩, h4⟩, h.diff⟩
/-- All relations of the list have room for what they hold. -/
def Rooms (T : List Nm) : Prop := ∀ i, i < T.length → (T.getD i nm0).Q.length ≤ (T.getD i nm0).c
theorem Rooms.mem {T : List Nm} (h : Rooms T) : ∀ x ∈ T, x.Q.length ≤ x.c := fun x hx => by
  obtain ⟨i, hi, e⟩ := List.getElem_of_mem hx
  have := h i hi
  rw [show T.getD i nm0 = x by simpa [List.getD, hi] using e] at this
  exact this
set_option maxHeartbeats 1000000 in
theorem toNs_room (a : Option Addr) (b off cap : Nat) (T : List Nm) (w : World) (h : Rd w a b off T) :
    Calls Tryz.prog 61 #[.slice a T.length cap] w fun e w' => e = .returned (.slice (some ⟨w.heap.size, 0, none⟩) T.length T.length) ∧ Below w.heap.size w w' ∧ ∃ P, Own w' w.heap.size w'.heap.size (some ⟨w.heap.size, 0, none⟩) w.heap.size P ∧ told P = told T ∧ P.length = T.length ∧ Rooms P := by
  obtain ⟨hh, hc, ho, hs, hst⟩ := h
  obtain ⟨n, hn⟩ : ∃ n, n = T.length := ⟨_, rfl⟩
  have hmk := make3 n (by omega)
  rw [← hn] at hh hc ho hs hst ⊢
  have HN : Hid (n = T.length) := hn
  clear hn
  go_enter Tryz.func61, Tryz.ntmps61
  go_wp2
  clear hmk
  go_loopw [4] (fun i wr => ∃ P : List Nm, P.length ≤ n ∧ i = .int .i64 (P.length : Int) ∧ Below w.heap.size w wr ∧ wr.rowIs w.heap.size 69 (n * 3) (flat3 P) ∧ CopiedR wr w.heap.size P ∧ told P = (told T).take P.length) (fun i _ => n - (intOf i).toNat)
  case atStart => exact ⟨[], Nat.zero_le _, rfl, (Below.refl _ _).alloc (Nat.le_refl _) _, made3 w n, ⟨fun r hr => by simp at hr, List.Pairwise.nil⟩, rfl⟩
  case round =>
    obtain ⟨P, hk, rfl, hbel, hrow, hcp, hsd⟩ := hrel
    have HS : Hid (told P = (told T).take P.length) := hsd
    clear hsd
    by_cases hlt : P.length < n
    · obtain rfl := hh (by omega)
      have hkz : (P.length : Int) < (n : Int) := by omega
      obtain ⟨c0, c1, c2⟩ := At3.of (hc P.length hlt) hbel (hc P.length hlt).lt
      have o1 := Rl.Rd.below (ho P.length hlt) hbel
      have hst1 := hst P.length hlt
      have hlw := hrow.lt
      have HT : Hid (∀ r : Nm, r.l = (T.getD P.length nm0).l → told (P ++ [r]) = (told T).take (P ++ [r]).length) := fun r hr => take_told HS.out (by have := HN.out; omega) hr
      clear hc ho hh HS hst
      generalize T.getD P.length nm0 = x at c0 c1 c2 o1 HT hst1
      obtain ⟨xs, xr, xa, xb, xo, xc, xQ⟩ := x
      simp only [Nm.l] at c0 c1 c2 o1 HT hst1
      obtain ⟨k, hk1⟩ : ∃ k, k = P.length := ⟨_, rfl⟩
      have HK : Hid (k = P.length) := hk1
      have hz := flat3_at P
      rw [← hk1] at c0 c1 c2 hkz hlt hk hz ⊢
      clear hk1
      obtain ⟨z0, z1, z2⟩ := hz
      have cpl : ∀ x ∈ P, ∀ r ∈ x.Q, r.l.length ≠ 0 → r.b < wr.heap.size := fun x hx r hr h0 => by
        obtain ⟨_, ⟨lo, hi, _, h2, h3⟩, _⟩ := hcp.each x hx
        exact (h3.each r hr h0).2.2.2.lt
      go_wp2_with (go_at_call 114; refine (toN_any _ _ _ _ _ _ _ _ o1).mono ?_; rintro e w1 ⟨g, X, rfl, hb, hm, hX⟩; have HX : Hid (said X = said xQ) := hX; clear hX; replace hrow := hrow.of_block (hb.block _ hlw); replace hbel := Rw.next hbel hb; have hb1 := hb.size; replace hcp := hcp.keep (fun x _ hx => hb.block x hx) hb1; clear hb; have g0 := (hrow.cell (i := k * 3) (by omega)).trans (congrArg some z0); have g1 := (hrow.cell (i := k * 3 + 1) (by omega)).trans (congrArg some z1); have g2 := (hrow.cell (i := k * 3 + 2) (by omega)).trans (congrArg some z2); have f0 := hrow.frozen (k * 3); have f1 := hrow.frozen (k * 3 + 1); have f2 := hrow.frozen (k * 3 + 2))
      go_roundw
      case rel =>
        have hk2 := HK.out
        subst hk2
        refine ⟨P ++ [⟨xs, xr, some ⟨g, 0, none⟩, g, 0, X.length, X⟩], by simp; omega, by simp only [List.length_append, List.length_singleton]; go_num, ((hbel.setCell (by simp) _).setCell (by simp) _).setCell (by simp) _, ?_, ?_, HT.out _ (by simp only [Prod.mk.injEq, true_and]; exact HX.out)⟩
        · exact flat3_step (x := ⟨xs, xr, some ⟨g, 0, none⟩, g, 0, X.length, X⟩) hrow
        · have hk3 : ∀ (u0 u1 u2 : Value) (p0 p1 p2 : Nat) x, w.heap.size < x → (((w1.setCell ⟨w.heap.size, p0, none⟩ u0).setCell ⟨w.heap.size, p1, none⟩ u1).setCell ⟨w.heap.size, p2, none⟩ u2).heap[x]? = w1.heap[x]? := fun u0 u1 u2 p0 p1 p2 x hx => by
            rw [Below.heap_setCell _ _ _ _ (by simp; omega), Below.heap_setCell _ _ _ _ (by simp; omega), Below.heap_setCell _ _ _ _ (by simp; omega)]
          refine ⟨fun x hx => ?_, ?_⟩
          · rcases List.mem_append.1 hx with hx | hx
            · exact (hcp.keep (fun x hx _ => hk3 _ _ _ _ _ _ x hx) (by simp)).each x hx
            · obtain rfl := List.mem_singleton.1 hx
              exact ⟨rfl, ⟨wr.heap.size + 1, w1.heap.size, by omega, by simp, hm.keep fun y hy _ => hk3 _ _ _ _ _ _ y (by omega)⟩, hst1, Nat.le_refl _⟩
          · rw [List.pairwise_append]
            refine ⟨hcp.diff, List.pairwise_singleton _ _, fun x hx y hy r hr q hq h0 h0' => ?_⟩
            obtain rfl := List.mem_singleton.1 hy
            have u1 := cpl x hx r hr h0
            have u2 := (hm.each q hq h0').2.1
            omega
      case measure => have := HK.out; simp [intOf]; omega
    · have he : P.length = n := by omega
      have hkz : ¬ (P.length : Int) < (n : Int) := by omega
      go_wp2
      go_ret
      have hs1 : told P = told T := by rw [HS.out, he, HN.out, ← told_len T, List.take_length]
      refine ⟨rfl, hbel, P, ⟨⟨fun _ => rfl, fun i hi => ⟨?_, ?_, ?_⟩, fun i hi => ?_, by omega, fun i hi => (hcp.each _ (mem_at hi)).2.2.1⟩, .inr ⟨Nat.le_refl _, ?_⟩, fun x hx => ?_, hcp.diff⟩, hs1, he, fun i hi => (hcp.each _ (mem_at hi)).2.2.2⟩
      · rw [← flat30, Nat.zero_add]; exact hrow.cell (by omega)
      · rw [← flat31, Nat.zero_add]; exact hrow.cell (by omega)
      · rw [← flat32, Nat.zero_add]; exact hrow.cell (by omega)
      · obtain ⟨e1, ⟨lo, hi', _, _, e4⟩, _⟩ := hcp.each _ (mem_at hi)
        unfold Nm.Ok
        rw [e1]; exact e4.rd
      · obtain ⟨cs, h1, _⟩ := hrow
        exact ⟨cs, h1⟩
      · obtain ⟨e1, ⟨lo, hi', e2, e3, e4⟩, _⟩ := hcp.each x hx
        exact ⟨e1, e4.mono (by omega) e3⟩

set_option maxHeartbeats 1000000 in
theorem toSt_room (a : Option Addr) (b off cap : Nat) (T : List Nm) (w : World) (h : Rd w a b off T) :
    Calls Tryz.prog 20 #[.agg #[.slice a T.length cap]] w fun e w' => ∃ g P, e = .returned (.agg #[.slice (some ⟨g, 0, none⟩) P.length P.length]) ∧ Below w.heap.size w w' ∧ Own w' w.heap.size w'.heap.size (some ⟨g, 0, none⟩) g P ∧ told P = told T ∧ Rooms P := by
  obtain ⟨W1, hW1⟩ : ∃ W1, W1 = ((w.alloc (.cells #[.slice a T.length cap] 44)).alloc (.cells #[.slice none 0 0] 25)).alloc (.cells #[.slice none 0 0] 25) := ⟨_, rfl⟩
  have B1 : Below w.heap.size w W1 := by subst hW1; exact Rw.next (Rw.next (below_alloc1 _ _) (below_alloc1 _ _)) (below_alloc1 _ _)
  have k1 : W1.heap[w.heap.size + 1]? = some (.cells #[.slice none 0 0] 25 (0, 0)) := by subst hW1; rw [at_old (by simp), at_new (by simp)]
  have k2 : W1.heap[w.heap.size + 1 + 1]? = some (.cells #[.slice none 0 0] 25 (0, 0)) := by subst hW1; exact at_new (by simp)
  have r1 := h.below B1
  have s1 := blk_lt k2
  go_enter Tryz.func20, Tryz.ntmps20
  go_wp2_with (go_at_call 61; rw [← hW1]; clear hW1; refine (toNs_room _ _ _ _ _ _ r1).mono ?_; rintro e wa ⟨rfl, ba, P, hm, hsd, hpl, hrm⟩; replace k1 := (ba.block _ (blk_lt k1)).trans k1; replace k2 := (ba.block _ (blk_lt k2)).trans k2; have p0 := one k1; have q0 := one k2; have f1 := Vl.free k1; have f2 := Vl.free k2; have HP : Hid (P.length = T.length) := hpl; have HD : Hid (told P = told T) := hsd; clear hpl hsd)
  refine bodyPost_ret (v := .agg #[.slice (some ⟨W1.heap.size, 0, none⟩) T.length T.length]) (by simp [results, Tryz.results20, go_sem, p0]) rfl ⟨W1.heap.size, P, by rw [HP.out], ?_, ?_, HD.out, hrm⟩
  · have B2 := Rw.next B1 ba
    repeat (first | with_reducible exact B2 | refine Vl.bset ?_ (by simp <;> omega))
  · refine Own.mono (lo := W1.heap.size) (hi := wa.heap.size) ?_ (by omega) (by simp)
    repeat (first | with_reducible exact hm | refine Own.set ?_ (by simp; omega))

end Go.Proofs.YtkpchlojapkimaaGreat.St
