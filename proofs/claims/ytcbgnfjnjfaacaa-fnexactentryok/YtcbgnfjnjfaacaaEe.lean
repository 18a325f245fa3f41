/-
  Entries, slices of entries and tables that say the same are held alike.
-/
import Derived.Test.YtcbgnfjnjfaacaaEc
namespace Go.Proofs.Ytcbgnfjnjfaacaa.Ea
set_option maxRecDepth 8000
set_option linter.unusedSimpArgs false
set_option linter.unusedVariables false
open Go Go.RowKit
open Num Pl

set_option maxHeartbeats 2000000 in
theorem eqE_same (e f : Ent) (w : World) (he : e.Ok w) (hf : f.Ok w) (hs : e.said = f.said) :
    Calls Try.prog 37 #[.agg e.vals, .agg f.vals] w fun x w' => x = .returned (.bool true) ∧ Below w.heap.size w w' := by
  obtain ⟨ep, pr, V, M, A, hh, aV, bV, oV, cV, aM, bM, oM, cM, aA, bA, oA, cA⟩ := e
  obtain ⟨ep', pr', V', M', A', hh', aV', bV', oV', cV', aM', bM', oM', cM', aA', bA', oA', cA'⟩ := f
  simp only [Ent.said, Prod.mk.injEq] at hs
  obtain ⟨rfl, rfl, rfl, rfl, rfl, rfl⟩ := hs
  obtain ⟨rV, rM, rA, wV, wM⟩ := he
  obtain ⟨sV, sM, sA, uV, uM⟩ := hf
  simp only at rV rM rA sV sM sA
  simp only [Ent.vals]
  obtain ⟨W1, hW1⟩ : ∃ W1, W1 = (w.alloc (.cells #[.int .i64 ep, .int .i64 pr, .slice aV V.length cV, .slice aM M.length cM, .slice aA A.length cA, .int .i64 hh] 41)).alloc (.cells #[.int .i64 ep, .int .i64 pr, .slice aV' V.length cV', .slice aM' M.length cM', .slice aA' A.length cA', .int .i64 hh] 41) := ⟨_, rfl⟩
  have B1 : Below w.heap.size w W1 := by subst hW1; exact Rw.next (below_alloc1 _ _) (below_alloc1 _ _)
  have k0 : W1.heap[w.heap.size]? = some (.cells #[.int .i64 ep, .int .i64 pr, .slice aV V.length cV, .slice aM M.length cM, .slice aA A.length cA, .int .i64 hh] 41 (0, 0)) := by subst hW1; rw [at_old (by simp), at_new rfl]
  have k1 : W1.heap[w.heap.size + 1]? = some (.cells #[.int .i64 ep, .int .i64 pr, .slice aV' V.length cV', .slice aM' M.length cM', .slice aA' A.length cA', .int .i64 hh] 41 (0, 0)) := by subst hW1; exact at_new (by simp)
  replace rV := rV.below B1
  replace rM := rM.below B1
  replace rA := rA.below B1
  replace sV := sV.below B1
  replace sM := sM.below B1
  replace sA := sA.below B1
  go_enter Try.func37, Try.ntmps37
  go_wp2_with (first
    | (go_at_call 49; rw [← hW1]; clear hW1; refine (Lm.eqMatch_same _ _ _ _ _ _ _ _ _ _ _ _ _ _ _ _ V M _ rV rM sV sM).mono ?_; rintro x wa ⟨rfl, ba⟩; replace k0 := (ba.block _ (blk_lt k0)).trans k0; replace k1 := (ba.block _ (blk_lt k1)).trans k1; replace rA := rA.below ba; replace sA := sA.below ba; replace B1 := Rw.next B1 ba; clear ba; obtain ⟨p0, p1, p2, p3, p4, p5⟩ := six k0; obtain ⟨r0, r1, r2, r3, r4, r5⟩ := six k1)
    | (go_at_call 107; refine (Yb.eqActS_any _ _ _ _ _ _ _ _ A A _ rA sA).mono ?_; rw [decide_eq_true rfl]; rintro x wb ⟨rfl, bb⟩; replace k0 := (bb.block _ (blk_lt k0)).trans k0; replace k1 := (bb.block _ (blk_lt k1)).trans k1; replace B1 := Rw.next B1 bb; clear bb p0 p1 p2 p3 p4 p5 r0 r1 r2 r3 r4 r5; obtain ⟨p0, p1, p2, p3, p4, p5⟩ := six k0; obtain ⟨r0, r1, r2, r3, r4, r5⟩ := six k1))
  go_ret
  exact ⟨rfl, B1⟩

theorem Ent.Ok.of {w w' : World} {n : Nat} {e : Ent} (o : e.Ok w) (hb : Below n w w') (hn : w.heap.size ≤ n) : e.Ok w' := by
  refine ⟨⟨o.rV.head, fun i hi => (hb.cell ?_).trans (o.rV.cell i hi), o.rV.size⟩, ⟨o.rM.head, fun i hi => (hb.cell ?_).trans (o.rM.cell i hi), o.rM.size⟩, ⟨o.rA.head, fun i hi => (o.rA.cell i hi).of hb ?_, o.rA.size⟩, o.wV, o.wM⟩
  · exact Nat.lt_of_lt_of_le (World.block_lt_of_cell? _ _ (o.rV.cell i hi)) hn
  · exact Nat.lt_of_lt_of_le (World.block_lt_of_cell? _ _ (o.rM.cell i hi)) hn
  · exact Nat.lt_of_lt_of_le (o.rA.cell i hi).lt hn

theorem said_len {Q F : List Ent} (h : Q.map Ent.said = F.map Ent.said) : Q.length = F.length := by
  have := congrArg List.length h
  simpa using this
theorem said_at {Q F : List Ent} (h : Q.map Ent.said = F.map Ent.said) (i : Nat) : (Q.getD i e0).said = (F.getD i e0).said := by
  have e : (Q.map Ent.said).getD i e0.said = (F.map Ent.said).getD i e0.said := by rw [h]
  simpa [List.getD, Option.getD_map] using e

set_option maxHeartbeats 4000000 in
theorem eqS_same (a a' : Option Addr) (b off c b' off' c' : Nat) (Q F : List Ent) (w : World) (hQ : Rd w a b off Q) (hF : Rd w a' b' off' F) (hs : Q.map Ent.said = F.map Ent.said) :
    Calls Try.prog 110 #[.slice a Q.length c, .slice a' F.length c'] w fun x w' => x = .returned (.bool true) ∧ Below w.heap.size w w' := by
  obtain ⟨hh, hc, ho, hsz⟩ := hQ
  obtain ⟨hh', hc', ho', hsz'⟩ := hF
  have hl := said_len hs
  rw [← hl] at hh' hc' ho' ⊢
  obtain ⟨n, hn⟩ : ∃ n, n = Q.length := ⟨_, rfl⟩
  rw [← hn] at hh hc ho hsz hh' hc' ho' ⊢
  clear hn hl hsz'
  have hsa := said_at hs
  clear hs
  go_enter Try.func110, Try.ntmps110
  go_wp2
  go_loopw [5] (fun i wr => ∃ k : Nat, k ≤ n ∧ i = .int .i64 k ∧ Below w.heap.size w wr) (fun i _ => n - (intOf i).toNat)
  case atStart => exact ⟨0, Nat.zero_le _, rfl, Below.refl _ _⟩
  case round =>
    obtain ⟨k, hk, rfl, hbel⟩ := hrel
    by_cases hlt : k < n
    · obtain rfl := hh (by omega)
      obtain rfl := hh' (by omega)
      have hkz : (k : Int) < (n : Int) := by omega
      obtain ⟨c0, c1, c2, c3, c4, c5⟩ := ((hc k hlt).of hbel (At6.lt (hc k hlt))).six
      obtain ⟨d0, d1, d2, d3, d4, d5⟩ := ((hc' k hlt).of hbel (At6.lt (hc' k hlt))).six
      have o1 := (ho k hlt).of hbel (Nat.le_refl _)
      have o2 := (ho' k hlt).of hbel (Nat.le_refl _)
      have ss := hsa k
      clear hc hc' ho ho' hh hh' hsa
      generalize Q.getD k e0 = q at *
      generalize F.getD k e0 = f at *
      have hcall := fun W o1 o2 => eqE_same q f W o1 o2 ss
      simp only [ent_vals] at hcall
      go_wp2
      go_region_with (go_at_call 37; refine (hcall _ (o1.of (by repeat (first | exact Below.refl _ _ | apply Below.drew)) (Nat.le_refl _)) (o2.of (by repeat (first | exact Below.refl _ _ | apply Below.drew)) (Nat.le_refl _))).mono ?_; rintro e w1 ⟨rfl, hb⟩)
      all_goals go_wp2
      all_goals go_roundw
      all_goals first
        | exact ⟨k + 1, by omega, by go_num, Rw.next (by repeat (first | exact hbel | apply Below.drew)) hb⟩
        | (simp [intOf]; omega)
    · have he : k = n := by omega
      subst he
      go_wp2
      go_ret
      exact ⟨rfl, hbel⟩

end Go.Proofs.Ytcbgnfjnjfaacaa.Ea
