/-
  The program's map told as a store, in the order of the names.
-/
import Derived.Test.YtecnbenlmbppbaaGreatSs
import Derived.Test.YtecnbenlmbppbaaGreatCr
import Derived.Test.YtecnbenlmbppbaaGreatSw
namespace Go.Proofs.YtecnbenlmbppbaaGreat.Mp
set_option maxRecDepth 8000
set_option linter.unusedSimpArgs false
set_option linter.unusedVariables false
open Go Go.ChangeShapes Go.WideShapes Go.RowKit
open Num Word Pl Rp
open Rl (Rm rm0 said)
open St (Nm nm0 NL told storeB)
open Vl (cmpS strLt)

theorem ranges_two {w w' : World} {b r n : Nat} {D : DataW Value} {left : Lit → Bool} {cnt : Nat} (h : w.ranges Tryz.prog 9 elem b r n D left cnt) (hb : w'.heap[b]? = w.heap[b]?) (hr : w'.heap[r]? = w.heap[r]?) : w'.ranges Tryz.prog 9 elem b r n D left cnt := by
  obtain ⟨es, clock, since, seen, c0, h1, F, hs, hD, h2, rest⟩ := h
  exact ⟨es, clock, since, seen, c0, hb.trans h1, F, hs, hD, hr.trans h2, rest⟩
theorem neq_false {a b : ByteArray} (h : a ≠ b) : (a.toList == b.toList) = false := by
  rw [beq_eq_false_iff_ne]
  intro e; rw [ByteArray.toList_eq, ByteArray.toList_eq] at e; exact h (Go.WideShapes.bytes_inj e)
theorem less_no {a b : ByteArray} (h : Op.bytesLess a.toList b.toList = true) : Op.bytesLess b.toList a.toList = false := by
  cases q : Op.bytesLess b.toList a.toList with
  | false => rfl
  | true => have := strLt_irr a; unfold Vl.strLt at this; rw [bless_trans _ _ _ h q] at this; cases this
theorem less_yes {a b : ByteArray} (h : Op.bytesLess a.toList b.toList = false) (hne : a ≠ b) : Op.bytesLess b.toList a.toList = true := by
  have ht := Vl.less_total a.toList b.toList
  rw [h] at ht
  cases q : Op.bytesLess b.toList a.toList with
  | true => rfl
  | false => rw [q, neq_false hne] at ht; simp at ht
theorem take_told' {T : List Nm} {i : Nat} (h : i < T.length) : (told T).take (i + 1) = (told T).take i ++ [(T.getD i nm0).l] := by
  rw [← St.told_at h, List.take_add_one]
  have h2 : i < (told T).length := by rw [St.told_len]; exact h
  simp [List.getD, h2]
theorem told_snoc (F : List Nm) (x : Nm) : told (F ++ [x]) = told F ++ [x.l] := by simp [told]
/-- Names that rise or are alike, and are not alike, rise. -/
theorem rises_of {T : List Nm} (h : T.Pairwise (fun x y => cmpS x.s y.s ≤ 0)) (k : T.Pairwise (fun x y => x.s ≠ y.s)) : (told T).Pairwise (fun x y => strLt x.1 y.1 = true) := by
  unfold told
  rw [List.pairwise_map]
  refine (h.and k).imp fun {x y} ⟨h1, h2⟩ => ?_
  have h3 : cmpS x.s y.s ≠ 0 := fun e => h2 (cmpS_zero e)
  have h4 : cmpS x.s y.s < 0 := by omega
  exact cmpS_lt.1 h4

def ResS (w : World) (U : List Nm) (e : Ending) (w' : World) : Prop :=
  ∃ v T, e = .returned (.agg #[v]) ∧ St.OS w' w.heap.size v T ∧ (told T).Pairwise (fun x y => strLt x.1 y.1 = true) ∧ (∀ l, l ∈ told T ↔ l ∈ told U) ∧ T.length ≤ U.length ∧ Below w.heap.size w w'

set_option maxHeartbeats 16000000 in
theorem store_any (b n : Nat) (D : DataW Value) (U : List Nm) (w : World) (o1 : Owns w b n D) (i1 : Is D (U.map nv)) (hU : ∀ x ∈ U, x.Ok w) (h4 : ∀ x ∈ U, x.Q.length ≤ 100000) (hl : U.length ≤ 100000) :
    Calls Tryz.prog 65 #[.map (some b)] w (ResS w U) := by
  obtain ⟨W1, hW1⟩ : ∃ W1, W1 = (w.alloc (.cells #[.slice none 0 0] 25)).alloc (.cells #[.slice none 0 0] 25) := ⟨_, rfl⟩
  have Bw : Below w.heap.size w W1 := by subst hW1; exact below_alloc2 _ _ _
  have kR0 : W1.heap[w.heap.size]? = some (.cells #[.slice none 0 0] 25 (0, 0)) := by subst hW1; rw [at_old (by simp), at_new rfl]
  have kO0 : W1.heap[w.heap.size + 1]? = some (.cells #[.slice none 0 0] 25 (0, 0)) := by subst hW1; exact at_new (by simp)
  have sz1 : W1.heap.size = w.heap.size + 2 := by subst hW1; simp
  have oW : Owns W1 b n D := owns_below o1 Bw
  have lb := o1.lt
  have dU : U.Pairwise (fun x y => x.s ≠ y.s) := by have := i1.apart; rw [List.pairwise_map] at this; exact this
  have z1 : Maps.size D = U.length := by rw [i1.size]; simp
  have HI : Hid (Is D (U.map nv)) := i1
  have HU : Hid (∀ x ∈ U, x.Ok w) := hU
  have H4 : Hid (∀ x ∈ U, x.Q.length ≤ 100000) := h4
  have HD : Hid (U.Pairwise (fun x y => x.s ≠ y.s)) := dU
  clear i1 hU h4 dU o1
  go_enter Tryz.func65, Tryz.ntmps65
  go_wp2_with (first
    | (at_range; rw [← hW1]; clear hW1; refine wpList_range_own _ rfl _ 87 rfl 9 46 law Tryz.underlying87 elem b n D rfl oW ?_; intro w0 hrg0 hg0 hs0)
    | go_in)
  go_frame
  rw [sz1] at hrg0 hs0 ⊢
  have B0 : Below w.heap.size w w0 := Bw.grown hg0 Bw.size (fun k hk => by cases hk)
  have kR1 := (hg0.block _ (blk_lt kR0) (by simp)).trans kR0
  have kO1 := (hg0.block _ (blk_lt kO0) (by simp)).trans kO0
  rw [z1] at hrg0
  go_loopw [] (fun wr => ∃ (left : Lit → Bool) (cnt : Nat) (v : Value) (F : List Nm), wr.ranges Tryz.prog 9 elem b (w.heap.size + 2) n D left cnt ∧ Below w.heap.size w wr ∧ wr.heap[w.heap.size]? = some (.cells #[.slice none 0 0] 25 (0, 0)) ∧ wr.heap[w.heap.size + 1]? = some (.cells #[v] 25 (0, 0)) ∧ St.OS wr (w.heap.size + 3) v F ∧ w.heap.size + 3 ≤ wr.heap.size ∧ (∀ l, l ∈ told F ↔ ∃ x ∈ U, x.l = l ∧ left (lt x.s) = false) ∧ F.length + cnt ≤ U.length ∧ F.Pairwise (fun x y => x.s ≠ y.s)) (fun wr => wr.rangeLeft b (w.heap.size + 2))
  case atStart =>
    refine ⟨_, _, .slice none 0 0, [], hrg0, B0, kR1, kO1, St.OS.nil _ _, by omega, fun l => ?_, by simp, List.Pairwise.nil⟩
    constructor
    · intro h; simp [told] at h
    · rintro ⟨x, hx, _, hf⟩
      have := (HI.out.has (lt x.s)).2 ⟨nv x, List.mem_map_of_mem hx, rfl⟩
      rw [this] at hf; cases hf
  case round =>
    clear Bw kR0 kO0 oW hrg0 hg0 hs0 B0 kR1 kO1 sz1 z1
    obtain ⟨left, cnt, v, F, hrg, hbel, kR, kO, hos, hsz, hmem, hcnt, hap⟩ := hrel
    have HMem : Hid (∀ l, l ∈ told F ↔ ∃ x ∈ U, x.l = l ∧ left (lt x.s) = false) := hmem
    have HAp : Hid (F.Pairwise (fun x y => x.s ≠ y.s)) := hap
    clear hmem hap
    go_wp2_with (first
      | (at_next; refine next_rel _ rfl _ rfl b (w.heap.size + 2) n D left cnt rfl hrg ?_ ?_)
      | go_in)
    · intro _ hl0
      have HEnd : Hid (∀ l, l ∈ told F ↔ l ∈ told U) := fun l => by
        rw [HMem.out l]
        constructor
        · rintro ⟨x, hx, rfl, _⟩; exact List.mem_map_of_mem hx
        · intro h
          obtain ⟨x, hx, rfl⟩ := List.mem_map.1 h
          exact ⟨x, hx, rfl, hl0 _⟩
      clear HMem hrg
      have hFl : F.length ≤ 100000 := by omega
      by_cases hF0 : F.length = 0
      · have e : F = [] := List.eq_nil_of_length_eq_zero hF0
        subst e
        rcases hos.own.2 with ⟨rfl, _⟩ | ⟨g, cap, cur, rfl, _, hgg, _⟩
        · have o0 := Pl.one kO
          have fR := Vl.free kR
          have rR := Pl.one kR
          have lR := blk_lt kR
          go_wp2_with (go_at_call 124; refine (St.sortN_nil _ _ _).mono ?_; rintro e w3 ⟨rfl, hw⟩; replace hw := hw.symm; subst hw)
          refine bodyPost_ret (v := .agg #[.slice none 0 0]) (by simp [results, Tryz.results65, go_sem, rR]) rfl ⟨.slice none 0 0, [], rfl, St.OS.nil _ _, List.Pairwise.nil, HEnd.out, by simp, ?_⟩
          exact Vl.bset hbel (Nat.le_refl _)
        · have o0 := Pl.one kO
          have fR := Vl.free kR
          have rR := Pl.one kR
          have lR := blk_lt kR
          have hos0 : St.OS (wr.setCell ⟨w.heap.size, 0, none⟩ (.slice (some ⟨g, 0, none⟩) 0 cap)) w.heap.size (.slice (some ⟨g, 0, none⟩) 0 cap) [] := (hos.keep (fun x _ hx => Below.heap_setCell _ _ _ _ (by simp; omega)) (by simp)).mono (by omega)
          simp only [List.length_nil] at o0 ⊢
          go_wp2_with (go_at_call 124; refine (St.sortN_nil _ _ _).mono ?_; rintro e w3 ⟨rfl, hw⟩; replace hw := hw.symm; subst hw)
          refine bodyPost_ret (v := .agg #[.slice (some ⟨g, 0, none⟩) 0 cap]) (by simp [results, Tryz.results65, go_sem, rR]) rfl ⟨_, [], rfl, hos0, List.Pairwise.nil, HEnd.out, by simp, ?_⟩
          exact Vl.bset hbel (Nat.le_refl _)
      · rcases hos.own.2 with ⟨rfl, e0⟩ | ⟨g, cap, cur, rfl, hgB, hgg, _⟩
        · exact absurd e0 hF0
        have hSo := St.sortN_any _ g cap F wr hos hFl
        have o0 := Pl.one kO
        go_wp2_with (go_at_call 124; refine hSo.mono ?_; rintro e w3 ⟨rfl, T, hpm, hso, hosT, hgr⟩; have kR3 := (hgr.block _ (blk_lt kR) (by simp; omega)).trans kR; have kO3 := (hgr.block _ (blk_lt kO) (by simp; omega)).trans kO; have B3 : Below w.heap.size w w3 := hbel.grown hgr hbel.size (fun k hk => by cases hk; omega); clear o0; have o0 := Pl.one kO3; have fR := Vl.free kR3; have rR := Pl.one kR3; have lR := blk_lt kR3; have HPm : Hid (T.Perm F) := hpm; have HSo : Hid (T.Pairwise (fun x y => cmpS x.s y.s ≤ 0)) := hso; clear hpm hso)
        have hTl : T.length = F.length := HPm.out.length_eq
        have hap2 : T.Pairwise (fun x y => x.s ≠ y.s) := (HPm.out.pairwise_iff (fun {a b} h => Ne.symm h)).2 HAp.out
        have hme : ∀ l, l ∈ told T ↔ l ∈ told U := fun l => by
          rw [← HEnd.out l]
          exact (HPm.out.map Nm.l).mem_iff
        refine bodyPost_ret (v := .agg #[.slice (some ⟨g, 0, none⟩) F.length cap]) (by simp [results, Tryz.results65, go_sem, rR]) rfl ⟨_, T, rfl, ?_, rises_of HSo.out hap2, hme, by omega, ?_⟩
        · exact (hosT.keep (fun x _ hx => Below.heap_setCell _ _ _ _ (by simp; omega)) (by simp)).mono (by omega)
        · exact Vl.bset B3 (Nat.le_refl _)
    · intro s ar A l c w1 cnt1 hs hlx hat hrg1 hlt hg1 hs1 hen
      obtain ⟨x, hx, hxe⟩ := HI.out.entry hat
      have hne : ∀ x ∈ F, x.s ≠ s := fun y hy e => by
        obtain ⟨z, hz, ez, hzl⟩ := (HMem.out y.l).1 (List.mem_map_of_mem hy)
        have e1 : z.s = y.s := congrArg Prod.fst ez
        rw [e1, e, hlx] at hzl; cases hzl
      have okx0 := HU.out _ hx
      have h4x := H4.out _ hx
      have hstep : ∀ y : Nm, y.l = x.l → ∀ l, l ∈ told (F ++ [y]) ↔ ∃ z ∈ U, z.l = l ∧ (left (lt z.s) && !(lt z.s).sameKey (lt x.s)) = false := by
        intro y hy l
        rw [told_snoc, List.mem_append, HMem.out l, List.mem_singleton, hy]
        constructor
        · rintro (⟨z, hz, rfl, hf⟩ | rfl)
          · exact ⟨z, hz, rfl, by rw [hf]; rfl⟩
          · exact ⟨x, hx, rfl, by rw [WideAt.sameKey_self (lt_key (by have := congrArg Prod.fst hxe; simp only [nv] at this; rw [this]; exact hs))]; simp⟩
        · rintro ⟨z, hz, rfl, hf⟩
          by_cases e : z.s = x.s
          · obtain rfl := same_of HD.out hz hx e
            exact .inr rfl
          · have : (lt z.s).sameKey (lt x.s) = false := Maps.sameKey_ne fun h => e (lt_inj h)
            rw [this] at hf
            exact .inl ⟨z, hz, rfl, by simpa using hf⟩
      have hstep2 : ∀ y : Nm, y.s = x.s → (F ++ [y]).Pairwise (fun x y => x.s ≠ y.s) := fun y hy => by
        rw [List.pairwise_append]
        refine ⟨HAp.out, List.pairwise_singleton _ _, fun a ha b hb => ?_⟩
        obtain rfl := List.mem_singleton.1 hb
        rw [hy]
        have := congrArg Prod.fst hxe
        simp only [nv] at this
        rw [this]; exact hne a ha
      obtain ⟨xs, xr, xa, xb, xo, xc, xQ⟩ := x
      simp only [nv, Prod.mk.injEq] at hxe
      obtain ⟨rfl, rfl, rfl, rfl, rfl⟩ := hxe
      simp only [Nm.l] at h4x hstep hstep2
      have HM : Hid (∀ y : Nm, y.l = (xs, xr, said xQ) → ∀ l, l ∈ told (F ++ [y]) ↔ ∃ z ∈ U, z.l = l ∧ (left (lt z.s) && !(lt z.s).sameKey (lt xs)) = false) := hstep
      have HA : Hid (∀ y : Nm, y.s = xs → (F ++ [y]).Pairwise (fun x y => x.s ≠ y.s)) := hstep2
      have okx : Rl.Rd w xa xb xo xQ := okx0
      clear hstep hstep2 okx0 hat hx hne HMem HAp
      have bel1 : Below w.heap.size w w1 := hbel.grown hg1 hbel.size (fun k hk => by cases hk; omega)
      have kR1 := (hg1.block _ (blk_lt kR) (by simp)).trans kR
      have kO1 := (hg1.block _ (blk_lt kO) (by simp)).trans kO
      have hos1 : St.OS w1 (w.heap.size + 3) v F := hos.keep (fun x hx hxB => hg1.block x hx (by simp; omega)) (by omega)
      obtain ⟨W2, hW2⟩ : ∃ W2, W2 = w1.alloc (.cells #[.int .i64 xr, .slice xa xQ.length xc] 46) := ⟨_, rfl⟩
      have hb2 : Below w1.heap.size w1 W2 := by subst hW2; exact below_alloc1 _ _
      have kX : W2.heap[w1.heap.size]? = some (.cells #[.int .i64 xr, .slice xa xQ.length xc] 46 (0, 0)) := by subst hW2; exact at_new rfl
      have B1 := Rw.next bel1 hb2
      have hrg2 := ranges_below hrg1 hb2
      have ok : Rl.Rd W2 xa xb xo xQ := okx.below B1
      replace hos : St.OS W2 (w.heap.size + 3) v F := hos1.below hb2
      replace kR := (hb2.block _ (blk_lt kR1)).trans kR1
      replace kO := (hb2.block _ (blk_lt kO1)).trans kO1
      obtain ⟨B, hB⟩ : ∃ B, B = w.heap.size + 3 := ⟨_, rfl⟩
      rw [← hB] at hos
      have hBo : w.heap.size + 1 < B := by omega
      have hBs : B ≤ W2.heap.size := by have := hb2.size; omega
      have hwo : w.heap.size ≤ w.heap.size + 1 := by omega
      have hFl : F.length ≤ 100000 := by omega
      have hnm := hs
      have h4 := h4x
      have hF1of : ∀ F1 : List Rm, said F1 = said xQ → F1.length ≤ 4194304 := fun F1 h => by rw [← Rl.said_len, h, Rl.said_len]; omega
      obtain ⟨eb, heb⟩ : ∃ eb, eb = w1.heap.size := ⟨_, rfl⟩
      have hSt : ∀ w', Rl.Stab W2 (w.heap.size + 1) v w' → w'.cell? ⟨eb, 0, none⟩ = some (.int .i64 xr) ∧ w'.cell? ⟨eb, 1, none⟩ = some (.slice xa xQ.length xc) := fun w' st => by
        have : w'.heap[eb]? = some (.cells #[.int .i64 xr, .slice xa xQ.length xc] 46 (0, 0)) := by
          rw [heb]
          refine (st.block _ (blk_lt kX) (by omega) ?_).trans kX
          exact St.own3_ne hos.own kX
        exact Pl.two this
      have hs1' : w.heap.size + 3 ≤ w1.heap.size := by omega
      clear hs1
      go_wp2
      rw [← hW2, ← heb]
      clear hW2 heb hb2 hos1 kR1 kO1 bel1 okx kX hrg1 hg1 hs1' hen
      refine wp_region_held_drew (S := Rl.Stab W2 (w.heap.size + 1) v) (by kernel_rfl) (Rl.Stab.refl _ _ _) (fun hHeld => ?_)
      refine Hn.take (i := 0) (d := some 13) (v := .pointer (some ⟨w.heap.size + 1, 0, none⟩)) rfl (by kernel_rfl) (by kernel_rfl) (by kernel_rfl) (by kernel_rfl) (fun _ _ _ h => h) (Or.inl ⟨by rfl, by intro w hSw; go_simp⟩) hHeld ?_
      simp only [Act.put, List.setIfInBounds_toArray, List.set_cons_zero, List.set_cons_succ]
      refine Hn.take (i := 2) (d := some 15) (v := .string xs) rfl (by kernel_rfl) (by kernel_rfl) (by kernel_rfl) (by kernel_rfl) (fun _ _ _ h => h) (Or.inl ⟨by rfl, by intro w hSw; go_simp⟩) hHeld ?_
      simp only [Act.put, List.setIfInBounds_toArray, List.set_cons_zero, List.set_cons_succ]
      refine Hn.take (i := 3) (d := some 16) (v := .agg #[.int .i64 xr, .slice xa xQ.length xc]) rfl (by kernel_rfl) (by kernel_rfl) (by kernel_rfl) (by kernel_rfl) (fun _ _ _ h => h) (Or.inl ⟨by rfl, by intro w hSw; obtain ⟨q0, q1⟩ := hSt w hSw; go_simp⟩) hHeld ?_
      simp only [Act.put, List.setIfInBounds_toArray, List.set_cons_zero, List.set_cons_succ]
      have st : Rl.Stab W2 (w.heap.size + 1) v (W2).drew := Rl.Stab.refl _ _ _
      have hos0 : St.OS (W2).drew B v F := hos.below ((Below.refl _ _).drew)
      have kO0 : (W2).drew.heap[w.heap.size + 1]? = some (.cells #[v] 25 (0, 0)) := kO
      have ok0 := Rl.Rd.below ok ((Below.refl (W2).heap.size (W2)).drew)
      have B2 := Rw.next B1 ((Below.refl (W2).heap.size (W2)).drew)
      have sW : (W2).drew.heap.size = (W2).heap.size := rfl
      generalize (W2).drew = W at *
      refine wpAnyH_ready (rs := [1, 4]) (by kernel_rfl) (by simp) (Hn.readyRun (i := 1) rfl (by kernel_rfl) (some 14) (by kernel_rfl) (v := v) (w' := W) (by have o0 := Pl.one kO0; go_simp) st (fun hHeld => ?_) (Hn.call1 (i := 4) rfl (by rfl) 123 (.tmp 16) 46 (by kernel_rfl) 17 (by kernel_rfl) (.agg #[.int .i64 xr, .slice xa xQ.length xc]) (by kernel_rfl) (fun _ => rfl) (copyRel_any xr xa xb xo xc xQ _ ok0 h4) ?_ AllReadyH.nil))
      · simp only [Act.put, List.setIfInBounds_toArray, List.set_cons_zero, List.set_cons_succ]
        refine wpAnyH_ready (rs := [4]) (by kernel_rfl) (by simp) (Hn.call1 (i := 4) rfl (by rfl) 123 (.tmp 16) 46 (by kernel_rfl) 17 (by kernel_rfl) (.agg #[.int .i64 xr, .slice xa xQ.length xc]) (by kernel_rfl) (fun _ => rfl) (copyRel_any xr xa xb xo xc xQ _ ok0 h4) ?_ AllReadyH.nil)
        rintro e1 Wc ⟨v1, F1, rfl, hot1, hl, hb⟩
        have hF1 := hF1of F1 hl
        obtain ⟨ra1, rg1, rc1, rfl, hr⟩ := hot1.form hF1
        replace st := st.below hb
        replace kO0 := (hb.block _ (blk_lt kO0)).trans kO0
        have hbc := hb
        replace B2 := Rw.next B2 hb
        have sC := hb.size
        refine ⟨_, rfl, st, fun hHeld => ?_⟩
        simp only [Act.put, List.setIfInBounds_toArray, List.set_cons_zero, List.set_cons_succ]
        refine Hn.take (i := 5) (d := some 18) (v := .agg #[.string xs, .int .i64 xr, .slice ra1 F1.length rc1]) rfl (by kernel_rfl) (by kernel_rfl) (by kernel_rfl) (by kernel_rfl) (fun _ _ _ h => h) (Or.inl ⟨by rfl, by intro w hSw; go_simp⟩) hHeld ?_
        simp only [Act.put, List.setIfInBounds_toArray, List.set_cons_zero, List.set_cons_succ]
        refine wpAnyH_ready (rs := [6]) (by kernel_rfl) (by simp) (Hn.readyRun (i := 6) rfl (by kernel_rfl) (some 19) (by kernel_rfl) (v := .slice (some ⟨Wc.heap.size, 0, none⟩) 1 1) (w' := Wc.alloc (.cells #[.string xs, .int .i64 xr, .slice ra1 F1.length rc1] 79)) (St.exec_oneN rfl (by kernel_rfl)) (st.below (below_alloc1 _ _)) (fun hHeld => ?_) AllReadyH.nil)
        simp only [Act.put, List.setIfInBounds_toArray, List.set_cons_zero, List.set_cons_succ]
        obtain ⟨Wd, hWd⟩ : ∃ Wd, Wd = Wc.alloc (.cells #[.string xs, .int .i64 xr, .slice ra1 F1.length rc1] 79) := ⟨_, rfl⟩
        rw [← hWd] at hHeld ⊢
        have hT : Wd.heap[Wc.heap.size]? = some (.cells #[.string xs, .int .i64 xr, .slice ra1 F1.length rc1] 79 (0, 0)) := by subst hWd; exact at_new rfl
        have hb : Below Wc.heap.size Wc Wd := by subst hWd; exact below_alloc1 _ _
        have sD := hb.size
        replace st := st.below hb
        replace kO0 := (hb.block _ (blk_lt kO0)).trans kO0
        replace B2 := Rw.next B2 hb
        have hr2 := hr.below hb
        have hbd := Rw.next hbc hb
        clear hb hWd
        obtain ⟨v', Z, hrun, hosZ, hgr⟩ := hos0.app (x := ⟨xs, xr, ra1, rg1, 0, rc1, F1⟩) (c := 1) 23 hbd hr2 sD rfl hnm (by omega) hT hFl
        refine wpAnyH_ready (rs := [7]) (by kernel_rfl) (by simp) (Hn.readyRun (i := 7) rfl (by kernel_rfl) (some 20) (by kernel_rfl) (Hn.exec_app (.tmp 14) (.tmp 19) rfl (by kernel_rfl) (by kernel_rfl) hrun) (st.grown hgr) (fun hHeld => ?_) AllReadyH.nil)
        simp only [Act.put, List.setIfInBounds_toArray, List.set_cons_zero, List.set_cons_succ]
        replace st := st.grown hgr
        obtain ⟨va, vn, vc, hv⟩ := hosZ.slice
        subst hv
        have kOZ := (hgr.block _ (blk_lt kO0) (fun e => by have := (hos0.lt e.symm).1; omega)).trans kO0
        replace B2 := B2.grown hgr B2.size (fun k hk => by have := (hos0.lt hk).1; omega)
        have o0 := Pl.one kOZ
        have fO := Vl.free kOZ
        refine Hn.take (i := 8) (d := some 21) (v := .pointer (some ⟨w.heap.size + 1, 0, none⟩)) rfl (by kernel_rfl) (by kernel_rfl) (by kernel_rfl) (by kernel_rfl) (fun _ _ _ h => h) (Or.inl ⟨by rfl, by intro w hSw; go_simp⟩) hHeld ?_
        simp only [Act.put, List.setIfInBounds_toArray, List.set_cons_zero, List.set_cons_succ]
        refine wpAnyH_ready (rs := [9]) (by kernel_rfl) (by simp) (Hn.readySkip (i := 9) rfl (by kernel_rfl) none (by kernel_rfl) (w' := Z.setCell ⟨w.heap.size + 1, 0, none⟩ (.slice va vn vc)) (by go_simp) st.set (fun hHeld => ?_) AllReadyH.nil)
        simp only [Act.put, List.setIfInBounds_toArray, List.set_cons_zero, List.set_cons_succ]
        refine wpAnyH_done (by kernel_rfl) ?_ _
        have kO' : (Z.setCell ⟨w.heap.size + 1, 0, none⟩ (.slice va vn vc)).heap[w.heap.size + 1]? = some (.cells #[(.slice va vn vc)] 25 (0, 0)) := Sw.one_set kOZ
        have B1' : Below w.heap.size w (Z.setCell ⟨w.heap.size + 1, 0, none⟩ (.slice va vn vc)) := Vl.bset B2 hwo
        have hos' : St.OS (Z.setCell ⟨w.heap.size + 1, 0, none⟩ (.slice va vn vc)) B (.slice va vn vc) (F ++ [⟨xs, xr, ra1, rg1, 0, rc1, F1⟩]) := hosZ.keep (fun x _ hx => Below.heap_setCell _ _ _ _ (by simp; omega)) (by simp)
        replace st : Rl.Stab W2 (w.heap.size + 1) v (Z.setCell ⟨w.heap.size + 1, 0, none⟩ (.slice va vn vc)) := st.set
        go_wp2
        go_roundw
        case rel =>
          have hkeep : ∀ z, z < w.heap.size + 3 → z ≠ w.heap.size + 1 → (Z.setCell ⟨w.heap.size + 1, 0, none⟩ (.slice va vn vc)).heap[z]? = W2.heap[z]? := fun z hz hne => st.block z (by omega) hne (fun e => by have := (hos.lt e.symm).1; omega)
          refine ⟨_, cnt1, .slice va vn vc, F ++ [⟨xs, xr, ra1, rg1, 0, rc1, F1⟩], ranges_two hrg2 (hkeep b (by omega) (by omega)) (hkeep _ (by omega) (by omega)), B1', (hkeep _ (by omega) (by omega)).trans kR, kO', (by rw [← hB]; exact hos'), by have := st.size; simp at this ⊢; omega, ?_, by simp; omega, ?_⟩
          · exact HM.out ⟨xs, xr, ra1, rg1, 0, rc1, F1⟩ (by simp only [Nm.l]; rw [hl])
          · exact HA.out ⟨xs, xr, ra1, rg1, 0, rc1, F1⟩ rfl
        case measure =>
          have hkeep : ∀ z, z < w.heap.size + 3 → z ≠ w.heap.size + 1 → (Z.setCell ⟨w.heap.size + 1, 0, none⟩ (.slice va vn vc)).heap[z]? = W2.heap[z]? := fun z hz hne => st.block z (by omega) hne (fun e => by have := (hos.lt e.symm).1; omega)
          have q := ranges_two hrg2 (hkeep b (by omega) (by omega)) (hkeep _ (by omega) (by omega))
          rw [q.left_eq, hrg.left_eq]; exact hlt
      · rintro e1 Wc ⟨v1, F1, rfl, hot1, hl, hb⟩
        have hF1 := hF1of F1 hl
        obtain ⟨ra1, rg1, rc1, rfl, hr⟩ := hot1.form hF1
        replace st := st.below hb
        replace kO0 := (hb.block _ (blk_lt kO0)).trans kO0
        have hbc := hb
        replace B2 := Rw.next B2 hb
        have sC := hb.size
        refine ⟨_, rfl, st, fun hHeld => ?_⟩
        simp only [Act.put, List.setIfInBounds_toArray, List.set_cons_zero, List.set_cons_succ]
        refine Hn.take (i := 5) (d := some 18) (v := .agg #[.string xs, .int .i64 xr, .slice ra1 F1.length rc1]) rfl (by kernel_rfl) (by kernel_rfl) (by kernel_rfl) (by kernel_rfl) (fun _ _ _ h => h) (Or.inl ⟨by rfl, by intro w hSw; go_simp⟩) hHeld ?_
        simp only [Act.put, List.setIfInBounds_toArray, List.set_cons_zero, List.set_cons_succ]
        refine wpAnyH_ready (rs := [1, 6]) (by kernel_rfl) (by simp) (Hn.readyRun (i := 1) rfl (by kernel_rfl) (some 14) (by kernel_rfl) (v := v) (w' := Wc) (by have o0 := Pl.one kO0; go_simp) st (fun hHeld => ?_) (Hn.readyRun (i := 6) rfl (by kernel_rfl) (some 19) (by kernel_rfl) (v := .slice (some ⟨Wc.heap.size, 0, none⟩) 1 1) (w' := Wc.alloc (.cells #[.string xs, .int .i64 xr, .slice ra1 F1.length rc1] 79)) (St.exec_oneN rfl (by kernel_rfl)) (st.below (below_alloc1 _ _)) (fun hHeld => ?_) AllReadyH.nil))
        · simp only [Act.put, List.setIfInBounds_toArray, List.set_cons_zero, List.set_cons_succ]
          refine wpAnyH_ready (rs := [6]) (by kernel_rfl) (by simp) (Hn.readyRun (i := 6) rfl (by kernel_rfl) (some 19) (by kernel_rfl) (v := .slice (some ⟨Wc.heap.size, 0, none⟩) 1 1) (w' := Wc.alloc (.cells #[.string xs, .int .i64 xr, .slice ra1 F1.length rc1] 79)) (St.exec_oneN rfl (by kernel_rfl)) (st.below (below_alloc1 _ _)) (fun hHeld => ?_) AllReadyH.nil)
          simp only [Act.put, List.setIfInBounds_toArray, List.set_cons_zero, List.set_cons_succ]
          obtain ⟨Wd, hWd⟩ : ∃ Wd, Wd = Wc.alloc (.cells #[.string xs, .int .i64 xr, .slice ra1 F1.length rc1] 79) := ⟨_, rfl⟩
          rw [← hWd] at hHeld ⊢
          have hT : Wd.heap[Wc.heap.size]? = some (.cells #[.string xs, .int .i64 xr, .slice ra1 F1.length rc1] 79 (0, 0)) := by subst hWd; exact at_new rfl
          have hb : Below Wc.heap.size Wc Wd := by subst hWd; exact below_alloc1 _ _
          have sD := hb.size
          replace st := st.below hb
          replace kO0 := (hb.block _ (blk_lt kO0)).trans kO0
          replace B2 := Rw.next B2 hb
          have hr2 := hr.below hb
          have hbd := Rw.next hbc hb
          clear hb hWd
          obtain ⟨v', Z, hrun, hosZ, hgr⟩ := hos0.app (x := ⟨xs, xr, ra1, rg1, 0, rc1, F1⟩) (c := 1) 23 hbd hr2 sD rfl hnm (by omega) hT hFl
          refine wpAnyH_ready (rs := [7]) (by kernel_rfl) (by simp) (Hn.readyRun (i := 7) rfl (by kernel_rfl) (some 20) (by kernel_rfl) (Hn.exec_app (.tmp 14) (.tmp 19) rfl (by kernel_rfl) (by kernel_rfl) hrun) (st.grown hgr) (fun hHeld => ?_) AllReadyH.nil)
          simp only [Act.put, List.setIfInBounds_toArray, List.set_cons_zero, List.set_cons_succ]
          replace st := st.grown hgr
          obtain ⟨va, vn, vc, hv⟩ := hosZ.slice
          subst hv
          have kOZ := (hgr.block _ (blk_lt kO0) (fun e => by have := (hos0.lt e.symm).1; omega)).trans kO0
          replace B2 := B2.grown hgr B2.size (fun k hk => by have := (hos0.lt hk).1; omega)
          have o0 := Pl.one kOZ
          have fO := Vl.free kOZ
          refine Hn.take (i := 8) (d := some 21) (v := .pointer (some ⟨w.heap.size + 1, 0, none⟩)) rfl (by kernel_rfl) (by kernel_rfl) (by kernel_rfl) (by kernel_rfl) (fun _ _ _ h => h) (Or.inl ⟨by rfl, by intro w hSw; go_simp⟩) hHeld ?_
          simp only [Act.put, List.setIfInBounds_toArray, List.set_cons_zero, List.set_cons_succ]
          refine wpAnyH_ready (rs := [9]) (by kernel_rfl) (by simp) (Hn.readySkip (i := 9) rfl (by kernel_rfl) none (by kernel_rfl) (w' := Z.setCell ⟨w.heap.size + 1, 0, none⟩ (.slice va vn vc)) (by go_simp) st.set (fun hHeld => ?_) AllReadyH.nil)
          simp only [Act.put, List.setIfInBounds_toArray, List.set_cons_zero, List.set_cons_succ]
          refine wpAnyH_done (by kernel_rfl) ?_ _
          have kO' : (Z.setCell ⟨w.heap.size + 1, 0, none⟩ (.slice va vn vc)).heap[w.heap.size + 1]? = some (.cells #[(.slice va vn vc)] 25 (0, 0)) := Sw.one_set kOZ
          have B1' : Below w.heap.size w (Z.setCell ⟨w.heap.size + 1, 0, none⟩ (.slice va vn vc)) := Vl.bset B2 hwo
          have hos' : St.OS (Z.setCell ⟨w.heap.size + 1, 0, none⟩ (.slice va vn vc)) B (.slice va vn vc) (F ++ [⟨xs, xr, ra1, rg1, 0, rc1, F1⟩]) := hosZ.keep (fun x _ hx => Below.heap_setCell _ _ _ _ (by simp; omega)) (by simp)
          replace st : Rl.Stab W2 (w.heap.size + 1) v (Z.setCell ⟨w.heap.size + 1, 0, none⟩ (.slice va vn vc)) := st.set
          go_wp2
          go_roundw
          case rel =>
            have hkeep : ∀ z, z < w.heap.size + 3 → z ≠ w.heap.size + 1 → (Z.setCell ⟨w.heap.size + 1, 0, none⟩ (.slice va vn vc)).heap[z]? = W2.heap[z]? := fun z hz hne => st.block z (by omega) hne (fun e => by have := (hos.lt e.symm).1; omega)
            refine ⟨_, cnt1, .slice va vn vc, F ++ [⟨xs, xr, ra1, rg1, 0, rc1, F1⟩], ranges_two hrg2 (hkeep b (by omega) (by omega)) (hkeep _ (by omega) (by omega)), B1', (hkeep _ (by omega) (by omega)).trans kR, kO', (by rw [← hB]; exact hos'), by have := st.size; simp at this ⊢; omega, ?_, by simp; omega, ?_⟩
            · exact HM.out ⟨xs, xr, ra1, rg1, 0, rc1, F1⟩ (by simp only [Nm.l]; rw [hl])
            · exact HA.out ⟨xs, xr, ra1, rg1, 0, rc1, F1⟩ rfl
          case measure =>
            have hkeep : ∀ z, z < w.heap.size + 3 → z ≠ w.heap.size + 1 → (Z.setCell ⟨w.heap.size + 1, 0, none⟩ (.slice va vn vc)).heap[z]? = W2.heap[z]? := fun z hz hne => st.block z (by omega) hne (fun e => by have := (hos.lt e.symm).1; omega)
            have q := ranges_two hrg2 (hkeep b (by omega) (by omega)) (hkeep _ (by omega) (by omega))
            rw [q.left_eq, hrg.left_eq]; exact hlt
        · simp only [Act.put, List.setIfInBounds_toArray, List.set_cons_zero, List.set_cons_succ]
          obtain ⟨Wd, hWd⟩ : ∃ Wd, Wd = Wc.alloc (.cells #[.string xs, .int .i64 xr, .slice ra1 F1.length rc1] 79) := ⟨_, rfl⟩
          rw [← hWd] at hHeld ⊢
          have hT : Wd.heap[Wc.heap.size]? = some (.cells #[.string xs, .int .i64 xr, .slice ra1 F1.length rc1] 79 (0, 0)) := by subst hWd; exact at_new rfl
          have hb : Below Wc.heap.size Wc Wd := by subst hWd; exact below_alloc1 _ _
          have sD := hb.size
          replace st := st.below hb
          replace kO0 := (hb.block _ (blk_lt kO0)).trans kO0
          replace B2 := Rw.next B2 hb
          have hr2 := hr.below hb
          have hbd := Rw.next hbc hb
          clear hb hWd
          refine wpAnyH_ready (rs := [1]) (by kernel_rfl) (by simp) (Hn.readyRun (i := 1) rfl (by kernel_rfl) (some 14) (by kernel_rfl) (v := v) (w' := Wd) (by have o0 := Pl.one kO0; go_simp) st (fun hHeld => ?_) AllReadyH.nil)
          simp only [Act.put, List.setIfInBounds_toArray, List.set_cons_zero, List.set_cons_succ]
          obtain ⟨v', Z, hrun, hosZ, hgr⟩ := hos0.app (x := ⟨xs, xr, ra1, rg1, 0, rc1, F1⟩) (c := 1) 23 hbd hr2 sD rfl hnm (by omega) hT hFl
          refine wpAnyH_ready (rs := [7]) (by kernel_rfl) (by simp) (Hn.readyRun (i := 7) rfl (by kernel_rfl) (some 20) (by kernel_rfl) (Hn.exec_app (.tmp 14) (.tmp 19) rfl (by kernel_rfl) (by kernel_rfl) hrun) (st.grown hgr) (fun hHeld => ?_) AllReadyH.nil)
          simp only [Act.put, List.setIfInBounds_toArray, List.set_cons_zero, List.set_cons_succ]
          replace st := st.grown hgr
          obtain ⟨va, vn, vc, hv⟩ := hosZ.slice
          subst hv
          have kOZ := (hgr.block _ (blk_lt kO0) (fun e => by have := (hos0.lt e.symm).1; omega)).trans kO0
          replace B2 := B2.grown hgr B2.size (fun k hk => by have := (hos0.lt hk).1; omega)
          have o0 := Pl.one kOZ
          have fO := Vl.free kOZ
          refine Hn.take (i := 8) (d := some 21) (v := .pointer (some ⟨w.heap.size + 1, 0, none⟩)) rfl (by kernel_rfl) (by kernel_rfl) (by kernel_rfl) (by kernel_rfl) (fun _ _ _ h => h) (Or.inl ⟨by rfl, by intro w hSw; go_simp⟩) hHeld ?_
          simp only [Act.put, List.setIfInBounds_toArray, List.set_cons_zero, List.set_cons_succ]
          refine wpAnyH_ready (rs := [9]) (by kernel_rfl) (by simp) (Hn.readySkip (i := 9) rfl (by kernel_rfl) none (by kernel_rfl) (w' := Z.setCell ⟨w.heap.size + 1, 0, none⟩ (.slice va vn vc)) (by go_simp) st.set (fun hHeld => ?_) AllReadyH.nil)
          simp only [Act.put, List.setIfInBounds_toArray, List.set_cons_zero, List.set_cons_succ]
          refine wpAnyH_done (by kernel_rfl) ?_ _
          have kO' : (Z.setCell ⟨w.heap.size + 1, 0, none⟩ (.slice va vn vc)).heap[w.heap.size + 1]? = some (.cells #[(.slice va vn vc)] 25 (0, 0)) := Sw.one_set kOZ
          have B1' : Below w.heap.size w (Z.setCell ⟨w.heap.size + 1, 0, none⟩ (.slice va vn vc)) := Vl.bset B2 hwo
          have hos' : St.OS (Z.setCell ⟨w.heap.size + 1, 0, none⟩ (.slice va vn vc)) B (.slice va vn vc) (F ++ [⟨xs, xr, ra1, rg1, 0, rc1, F1⟩]) := hosZ.keep (fun x _ hx => Below.heap_setCell _ _ _ _ (by simp; omega)) (by simp)
          replace st : Rl.Stab W2 (w.heap.size + 1) v (Z.setCell ⟨w.heap.size + 1, 0, none⟩ (.slice va vn vc)) := st.set
          go_wp2
          go_roundw
          case rel =>
            have hkeep : ∀ z, z < w.heap.size + 3 → z ≠ w.heap.size + 1 → (Z.setCell ⟨w.heap.size + 1, 0, none⟩ (.slice va vn vc)).heap[z]? = W2.heap[z]? := fun z hz hne => st.block z (by omega) hne (fun e => by have := (hos.lt e.symm).1; omega)
            refine ⟨_, cnt1, .slice va vn vc, F ++ [⟨xs, xr, ra1, rg1, 0, rc1, F1⟩], ranges_two hrg2 (hkeep b (by omega) (by omega)) (hkeep _ (by omega) (by omega)), B1', (hkeep _ (by omega) (by omega)).trans kR, kO', (by rw [← hB]; exact hos'), by have := st.size; simp at this ⊢; omega, ?_, by simp; omega, ?_⟩
            · exact HM.out ⟨xs, xr, ra1, rg1, 0, rc1, F1⟩ (by simp only [Nm.l]; rw [hl])
            · exact HA.out ⟨xs, xr, ra1, rg1, 0, rc1, F1⟩ rfl
          case measure =>
            have hkeep : ∀ z, z < w.heap.size + 3 → z ≠ w.heap.size + 1 → (Z.setCell ⟨w.heap.size + 1, 0, none⟩ (.slice va vn vc)).heap[z]? = W2.heap[z]? := fun z hz hne => st.block z (by omega) hne (fun e => by have := (hos.lt e.symm).1; omega)
            have q := ranges_two hrg2 (hkeep b (by omega) (by omega)) (hkeep _ (by omega) (by omega))
            rw [q.left_eq, hrg.left_eq]; exact hlt

end Go.Proofs.YtecnbenlmbppbaaGreat.Mp
