/-
  Both DeltaBack.
-/
import Derived.Test.YtkpchlojapkimaaEo
import Derived.Test.YtkpchlojapkimaaEf
import Derived.Test.YtkpchlojapkimaaEg
import Derived.Test.YtkpchlojapkimaaCk
import Derived.Test.YtkpchlojapkimaaHn
namespace Go.Proofs.Ytkpchlojapkimaa.Ch
set_option maxRecDepth 8000
set_option linter.unusedSimpArgs false
set_option linter.unusedVariables false
open Go Go.ChangeShapes Go.WideShapes Go.RowKit
open Num Word Pl Rp
open Rl (Rm rm0 said)

/-- What is put in and what is taken out, exchanged. -/
def backL (T : List CL) : List CL := T.map fun x => (x.1, x.2.2, x.2.1)
def BA (T M : List CL) : Prop := M = if deltaB T = true then backL T else []
/-- A delta of the call's own is handed back. -/
def ResDl (w : World) (M : List CL) (e : Ending) (w' : World) : Prop := ∃ v F, e = .returned (.agg #[v]) ∧ OD w' w.heap.size v F ∧ told F = M ∧ Below w.heap.size w w'
theorem back_next {T : List Cm} {k : Nat} (h : k < T.length) : backL ((told T).take (k + 1)) = backL ((told T).take k) ++ [((T.getD k cm0).s, (T.getD k cm0).m.l, (T.getD k cm0).p.l)] := by
  have h2 : k < (told T).length := by rw [told_len]; exact h
  rw [List.take_add_one, List.getElem?_eq_getElem h2]
  have e : (told T)[k] = (T.getD k cm0).l := by rw [← told_at h]; simp [List.getD, h2]
  simp [backL, e, Cm.l]
theorem delta_parts {T : List Cm} (h : deltaB (told T) = true) : T.length ≤ 24 ∧ ∀ i, i < T.length → changeB (T.getD i cm0).l = true := by
  unfold deltaB at h
  simp only [Bool.and_eq_true, decide_eq_true_eq, told_len] at h
  refine ⟨h.1.1, fun i hi => ?_⟩
  have := List.all_eq_true.1 h.1.2 ((told T).getD i cl0) (by rw [← told_len] at hi; simp [List.getD, hi])
  rw [told_at hi] at this; exact this
theorem change_parts {x : CL} (h : changeB x = true) : RelP x.2.1.1 x.2.1.2 ∧ RelP x.2.1.1 x.2.2.2 ∧ x.2.1.1 = x.2.2.1 := by
  unfold changeB apartB at h
  simp only [Bool.and_eq_true] at h
  exact two_parts h.2.1
theorem change_few {x : Cm} (h : changeB x.l = true) : x.p.Q.length ≤ 300 ∧ x.m.Q.length ≤ 300 := by
  obtain ⟨h1, h2, _⟩ := change_parts h
  have a := h1.few
  have b := h2.few
  simp only [Cm.l, Re.l, Rl.said_len] at a b
  exact ⟨a, b⟩

set_option maxHeartbeats 8000000 in
theorem backI_any (a : Option Addr) (b off cap : Nat) (T : List Cm) (w : World) (h : Rd w a b off T) (hm : Rooms T) (M : List CL) (hM : BA (told T) M) :
    Calls Try.prog 20 #[.agg #[.slice a T.length cap]] w (ResDl w M) := by
  obtain ⟨W1, hW1⟩ : ∃ W1, W1 = (w.alloc (.cells #[.slice a T.length cap] 29)).alloc (.cells #[.slice none 0 0] 29) := ⟨_, rfl⟩
  have B0 : Below w.heap.size w W1 := by subst hW1; exact below_alloc2 _ _ _
  have kR : W1.heap[w.heap.size + 1]? = some (.cells #[.slice none 0 0] 29 (0, 0)) := by subst hW1; exact at_new (by simp)
  have kD : W1.heap[w.heap.size]? = some (.cells #[.slice a T.length cap] 29 (0, 0)) := by subst hW1; rw [at_old (by simp), at_new rfl]
  have hO := okI_any a b off cap T W1 (h.below B0) hm
  unfold BA at hM
  cases hd : deltaB (told T) with
  | false =>
    rw [hd] at hO hM
    rw [if_neg (by simp)] at hM
    go_enter Try.func20, Try.ntmps20
    go_wp2_with (go_at_call 9; rw [← hW1]; clear hW1; refine hO.mono ?_; rintro e w1 ⟨rfl, hb⟩; replace B0 := Rw.next B0 hb; replace kR := (hb.block _ (blk_lt kR)).trans kR; replace kD := (hb.block _ (blk_lt kD)).trans kD; have r0 := Pl.one kR; have fR := Vl.free kR; have d0 := Pl.one kD; have ld := blk_lt kD; clear hb)
    refine bodyPost_ret (v := .agg #[.slice none 0 0]) (by simp [results, Try.results20, go_sem, r0]) rfl ⟨_, [], rfl, OD.nil _ _, by rw [hM]; rfl, ?_⟩
    repeat (first | with_reducible exact B0 | refine Vl.bset ?_ (by simp <;> omega))
  | true =>
    rw [hd] at hO hM
    rw [if_pos rfl] at hM
    obtain ⟨hT24, hCh⟩ := delta_parts hd
    obtain ⟨hh, hc, ho, hs, hst⟩ := h
    have HM : Hid (M = backL (told T)) := hM
    have HTl : Hid ((told T).take T.length = told T) := by rw [← told_len T]; exact List.take_length
    have HTn0 : Hid (∀ k, k < T.length → backL ((told T).take (k + 1)) = backL ((told T).take k) ++ [((T.getD k cm0).s, (T.getD k cm0).m.l, (T.getD k cm0).p.l)]) := fun k hk => back_next hk
    clear hM hd
    obtain ⟨n, hn⟩ : ∃ n, n = T.length := ⟨_, rfl⟩
    rw [← hn] at hh hc ho hs hst hT24 hCh hO HTl HTn0 hW1 kD ⊢
    clear hn
    go_enter Try.func20, Try.ntmps20
    go_wp2_with (go_at_call 9; rw [← hW1]; clear hW1; refine hO.mono ?_; rintro e w1 ⟨rfl, hb⟩; replace B0 := Rw.next B0 hb; replace kR := (hb.block _ (blk_lt kR)).trans kR; replace kD := (hb.block _ (blk_lt kD)).trans kD; have r0 := Pl.one kR; have fR := Vl.free kR; have d0 := Pl.one kD; have ld := blk_lt kD; clear hb)
    obtain ⟨W3, hW3⟩ : ∃ W3, W3 = w1.alloc (.cells #[.slice none 0 0] 29) := ⟨_, rfl⟩
    obtain ⟨OB, hOB⟩ : ∃ OB, OB = w1.heap.size := ⟨_, rfl⟩
    have kO : W3.heap[OB]? = some (.cells #[.slice none 0 0] 29 (0, 0)) := by subst hW3 hOB; exact at_new rfl
    have hb3 : Below w1.heap.size w1 W3 := by subst hW3; exact below_alloc1 _ _
    have sB : OB < W3.heap.size := blk_lt kO
    have hRO : w.heap.size + 1 < OB := by rw [hOB]; exact blk_lt kR
    replace kR := (hb3.block _ (blk_lt kR)).trans kR
    replace B0 := Rw.next B0 hb3
    clear hb3
    obtain ⟨B, hB⟩ : ∃ B, B = W3.heap.size := ⟨_, rfl⟩
    have hBo : OB < B := by omega
    have hwo : w.heap.size ≤ OB := by omega
    have hB1 : B ≤ W3.heap.size := by omega
    rw [← hW3, ← hOB]
    clear hW3 hB hOB ld d0 r0 fR kD
    go_loopw [13] (fun i wr => ∃ (k : Nat) (v : Value) (F : List Cm), k ≤ n ∧ i = .int .i64 k ∧ wr.heap[OB]? = some (.cells #[v] 29 (0, 0)) ∧ OD wr B v F ∧ told F = backL ((told T).take k) ∧ F.length = k ∧ B ≤ wr.heap.size ∧ Below w.heap.size w wr ∧ wr.heap[w.heap.size + 1]? = some (.cells #[.slice none 0 0] 29 (0, 0))) (fun i _ => n - (intOf i).toNat)
    case atStart => exact ⟨0, _, [], Nat.zero_le _, rfl, kO, OD.nil _ _, rfl, rfl, hB1, B0, kR⟩
    case round =>
      obtain ⟨k, v, F, hk, rfl, kOr, hosr, hT, hFk, hBr, B1r, kRr⟩ := hrel
      have HT : Hid (told F = backL ((told T).take k)) := hT
      clear hT
      by_cases hlt : k < n
      · obtain rfl := hh (by omega)
        have hkz : (k : Int) < (n : Int) := by omega
        obtain ⟨A0, A1, A2, A3, A4⟩ := At5.of (hc k hlt) B1r (hc k hlt).lt
        have o1 := Rl.Rd.below (ho k hlt).1 B1r
        have o2 := Rl.Rd.below (ho k hlt).2 B1r
        have hnm := hst k hlt
        have hfew := change_few (hCh k hlt)
        have HTn : Hid (backL ((told T).take (k + 1)) = backL ((told T).take k) ++ [((T.getD k cm0).s, (T.getD k cm0).m.l, (T.getD k cm0).p.l)]) := HTn0.out k hlt
        clear hc ho hh hst hCh HTn0
        generalize T.getD k cm0 = x at A0 A1 A2 A3 A4 o1 o2 hnm hfew HTn
        obtain ⟨xs, ⟨xr, xa, xb, xo, xc, xQ⟩, ⟨yr, ya, yb, yo, yc, yQ⟩⟩ := x
        simp only [Re.l] at A0 A1 A2 A3 A4 o1 o2 hnm hfew HTn
        obtain ⟨hf1, hf2⟩ := hfew
        have hF1of : ∀ F1 : List Rm, said F1 = said yQ → F1.length ≤ 4194304 := fun F1 h => by rw [← Rl.said_len, h, Rl.said_len]; omega
        have hF2of : ∀ F1 : List Rm, said F1 = said xQ → F1.length ≤ 4194304 := fun F1 h => by rw [← Rl.said_len, h, Rl.said_len]; omega
        obtain ⟨W5, hW5⟩ : ∃ W5, W5 = wr.alloc (.cells #[.string xs, .int .i64 xr, .slice xa xQ.length xc, .int .i64 yr, .slice ya yQ.length yc] 53) := ⟨_, rfl⟩
        have b5 : Below wr.heap.size wr W5 := by subst hW5; exact below_alloc1 _ _
        obtain ⟨g, hg⟩ : ∃ g, g = wr.heap.size := ⟨_, rfl⟩
        have kg : W5.heap[g]? = some (.cells #[.string xs, .int .i64 xr, .slice xa xQ.length xc, .int .i64 yr, .slice ya yQ.length yc] 53 (0, 0)) := by subst hW5 hg; exact at_new rfl
        have kO := (b5.block _ (blk_lt kOr)).trans kOr
        have kR5 := (b5.block _ (blk_lt kRr)).trans kRr
        have hos := hosr.below b5
        have ok1 := o2.below b5
        have ok2 := o1.below b5
        have B1 := Rw.next B1r b5
        have hBs : B ≤ W5.heap.size := Nat.le_trans hBr b5.size
        have hgo : g ≠ OB := fun e => by have := blk_lt kOr; omega
        have hSt : ∀ w', Rl.Stab W5 OB v w' → w'.cell? ⟨g, 0, none⟩ = some (.string xs) ∧ w'.cell? ⟨g, 1, none⟩ = some (.int .i64 xr) ∧ w'.cell? ⟨g, 2, none⟩ = some (.slice xa xQ.length xc) ∧ w'.cell? ⟨g, 3, none⟩ = some (.int .i64 yr) ∧ w'.cell? ⟨g, 4, none⟩ = some (.slice ya yQ.length yc) := fun w' hw => five ((hw.block g (blk_lt kg) hgo (fun e => by have := (hosr.lt e.symm).2; omega)).trans kg)
        have hFl : F.length ≤ 100000 := by omega
        have hw5 := blk_lt kR5
        go_wp2
        rw [← hW5, ← hg]
        clear hW5 kOr kRr hosr o1 o2 B1r b5 kg A0 A1 A2 A3 A4 hgo hg
        refine wp_region_held_drew (S := Rl.Stab W5 (OB) v) (by kernel_rfl) (Rl.Stab.refl _ _ _) (fun hHeld => ?_)
        refine Hn.take (i := 0) (d := some 17) (v := .pointer (some ⟨OB, 0, none⟩)) rfl (by kernel_rfl) (by kernel_rfl) (by kernel_rfl) (by kernel_rfl) (fun _ _ _ h => h) (Or.inl ⟨by rfl, by intro w hSw; go_simp⟩) hHeld ?_
        simp only [Act.put, List.setIfInBounds_toArray, List.set_cons_zero, List.set_cons_succ]
        refine Hn.take (i := 2) (d := some 19) (v := .pointer (some ⟨g, 0, none⟩)) rfl (by kernel_rfl) (by kernel_rfl) (by kernel_rfl) (by kernel_rfl) (fun _ _ _ h => h) (Or.inl ⟨by rfl, by intro w hSw; go_simp⟩) hHeld ?_
        simp only [Act.put, List.setIfInBounds_toArray, List.set_cons_zero, List.set_cons_succ]
        refine Hn.take (i := 3) (d := some 20) (v := .string xs) rfl (by kernel_rfl) (by kernel_rfl) (by kernel_rfl) (by kernel_rfl) (fun _ _ _ h => h) (Or.inl ⟨by rfl, by intro w hSw; obtain ⟨c0, c1, c2, c3, c4⟩ := hSt w hSw; go_simp⟩) hHeld ?_
        simp only [Act.put, List.setIfInBounds_toArray, List.set_cons_zero, List.set_cons_succ]
        refine Hn.take (i := 4) (d := some 21) (v := .pointer (some ⟨g, 3, none⟩)) rfl (by kernel_rfl) (by kernel_rfl) (by kernel_rfl) (by kernel_rfl) (fun _ _ _ h => h) (Or.inl ⟨by rfl, by intro w hSw; go_simp⟩) hHeld ?_
        simp only [Act.put, List.setIfInBounds_toArray, List.set_cons_zero, List.set_cons_succ]
        refine Hn.take (i := 5) (d := some 22) (v := .agg #[.int .i64 yr, .slice ya yQ.length yc]) rfl (by kernel_rfl) (by kernel_rfl) (by kernel_rfl) (by kernel_rfl) (fun _ _ _ h => h) (Or.inl ⟨by rfl, by intro w hSw; obtain ⟨c0, c1, c2, c3, c4⟩ := hSt w hSw; go_simp⟩) hHeld ?_
        simp only [Act.put, List.setIfInBounds_toArray, List.set_cons_zero, List.set_cons_succ]
        refine Hn.take (i := 7) (d := some 24) (v := .pointer (some ⟨g, 1, none⟩)) rfl (by kernel_rfl) (by kernel_rfl) (by kernel_rfl) (by kernel_rfl) (fun _ _ _ h => h) (Or.inl ⟨by rfl, by intro w hSw; go_simp⟩) hHeld ?_
        simp only [Act.put, List.setIfInBounds_toArray, List.set_cons_zero, List.set_cons_succ]
        refine Hn.take (i := 8) (d := some 25) (v := .agg #[.int .i64 xr, .slice xa xQ.length xc]) rfl (by kernel_rfl) (by kernel_rfl) (by kernel_rfl) (by kernel_rfl) (fun _ _ _ h => h) (Or.inl ⟨by rfl, by intro w hSw; obtain ⟨c0, c1, c2, c3, c4⟩ := hSt w hSw; go_simp⟩) hHeld ?_
        simp only [Act.put, List.setIfInBounds_toArray, List.set_cons_zero, List.set_cons_succ]
        have st : Rl.Stab W5 (OB) v (W5).drew := Rl.Stab.refl _ _ _
        have hos0 : OD (W5).drew B v F := hos.below ((Below.refl _ _).drew)
        have kO0 : (W5).drew.heap[OB]? = some (.cells #[v] 29 (0, 0)) := kO
        have ok1_0 := Rl.Rd.below ok1 ((Below.refl (W5).heap.size (W5)).drew)
        have ok2_0 := Rl.Rd.below ok2 ((Below.refl (W5).heap.size (W5)).drew)
        have B2 := Rw.next B1 ((Below.refl (W5).heap.size (W5)).drew)
        have sW : (W5).drew.heap.size = (W5).heap.size := rfl
        generalize (W5).drew = W at *
        refine wpAnyH_ready (rs := [1, 6]) (by kernel_rfl) (by simp) (Hn.readyRun (i := 1) rfl (by kernel_rfl) (some 18) (by kernel_rfl) (v := v) (w' := W) (by have o0 := Pl.one kO0; go_simp) st (fun hHeld => ?_) (Hn.call1 (i := 6) rfl (by rfl) 44 (.tmp 22) 51 (by kernel_rfl) 23 (by kernel_rfl) (.agg #[.int .i64 yr, .slice ya yQ.length yc]) (by kernel_rfl) (fun _ => rfl) (copyRel_any _ _ _ _ _ _ _ ok1_0 (by omega)) ?_ AllReadyH.nil))
        · simp only [Act.put, List.setIfInBounds_toArray, List.set_cons_zero, List.set_cons_succ]
          refine wpAnyH_ready (rs := [6]) (by kernel_rfl) (by simp) (Hn.call1 (i := 6) rfl (by rfl) 44 (.tmp 22) 51 (by kernel_rfl) 23 (by kernel_rfl) (.agg #[.int .i64 yr, .slice ya yQ.length yc]) (by kernel_rfl) (fun _ => rfl) (copyRel_any _ _ _ _ _ _ _ ok1_0 (by omega)) ?_ AllReadyH.nil)
          rintro e1 Wa ⟨v1, F1, rfl, hot1, hl1, hb⟩
          obtain ⟨ra1, rg1, rc1, hv1, hr1⟩ := hot1.form (hF1of F1 hl1)
          subst hv1
          have hm1 := OG.room hot1.og
          replace st := st.below hb
          replace kO0 := (hb.block _ (blk_lt kO0)).trans kO0
          replace B2 := Rw.next B2 hb
          have s1 := hb.size
          replace ok2_0 := ok2_0.below hb
          have hbc := hb
          clear hb
          refine ⟨_, rfl, st, fun hHeld => ?_⟩
          simp only [Act.put, List.setIfInBounds_toArray, List.set_cons_zero, List.set_cons_succ]
          refine wpAnyH_ready (rs := [9]) (by kernel_rfl) (by simp) (Hn.call1 (i := 9) rfl (by rfl) 44 (.tmp 25) 51 (by kernel_rfl) 26 (by kernel_rfl) (.agg #[.int .i64 xr, .slice xa xQ.length xc]) (by kernel_rfl) (fun _ => rfl) (copyRel_any _ _ _ _ _ _ _ ok2_0 (by omega)) ?_ AllReadyH.nil)
          rintro e2 Wc ⟨v2, F2, rfl, hot2, hl2, hb⟩
          obtain ⟨ra2, rg2, rc2, hv2, hr2⟩ := hot2.form (hF2of F2 hl2)
          subst hv2
          have hm2 := OG.room hot2.og
          replace st := st.below hb
          replace kO0 := (hb.block _ (blk_lt kO0)).trans kO0
          replace B2 := Rw.next B2 hb
          have s2 := hb.size
          replace hr1 := hr1.below hb
          replace hbc := Rw.next hbc hb
          clear hb
          refine ⟨_, rfl, st, fun hHeld => ?_⟩
          simp only [Act.put, List.setIfInBounds_toArray, List.set_cons_zero, List.set_cons_succ]
          refine Hn.take (i := 10) (d := some 27) (v := .agg #[.string xs, .int .i64 yr, .slice ra1 F1.length rc1, .int .i64 xr, .slice ra2 F2.length rc2]) rfl (by kernel_rfl) (by kernel_rfl) (by kernel_rfl) (by kernel_rfl) (fun _ _ _ h => h) (Or.inl ⟨by rfl, by intro w hSw; go_simp⟩) hHeld ?_
          simp only [Act.put, List.setIfInBounds_toArray, List.set_cons_zero, List.set_cons_succ]
          refine wpAnyH_ready (rs := [11]) (by kernel_rfl) (by simp) (Hn.readyRun (i := 11) rfl (by kernel_rfl) (some 28) (by kernel_rfl) (v := .slice (some ⟨Wc.heap.size, 0, none⟩) 1 1) (w' := Wc.alloc (.cells #[.string xs, .int .i64 yr, .slice ra1 F1.length rc1, .int .i64 xr, .slice ra2 F2.length rc2] 53)) (exec_oneC rfl (by kernel_rfl)) (st.below (below_alloc1 _ _)) (fun hHeld => ?_) AllReadyH.nil)
          simp only [Act.put, List.setIfInBounds_toArray, List.set_cons_zero, List.set_cons_succ]
          obtain ⟨Wd, hWd⟩ : ∃ Wd, Wd = Wc.alloc (.cells #[.string xs, .int .i64 yr, .slice ra1 F1.length rc1, .int .i64 xr, .slice ra2 F2.length rc2] 53) := ⟨_, rfl⟩
          rw [← hWd] at hHeld ⊢
          have hT : Wd.heap[Wc.heap.size]? = some (.cells #[.string xs, .int .i64 yr, .slice ra1 F1.length rc1, .int .i64 xr, .slice ra2 F2.length rc2] 53 (0, 0)) := by subst hWd; exact at_new rfl
          have hb : Below Wc.heap.size Wc Wd := by subst hWd; exact below_alloc1 _ _
          have s3 := hb.size
          replace st := st.below hb
          replace kO0 := (hb.block _ (blk_lt kO0)).trans kO0
          replace B2 := Rw.next B2 hb
          replace hr1 := hr1.below hb
          replace hr2 := hr2.below hb
          replace hbc := Rw.next hbc hb
          clear hb hWd
          have hnw : New Wd W.heap.size ⟨xs, ⟨yr, ra1, rg1, 0, rc1, F1⟩, ⟨xr, ra2, rg2, 0, rc2, F2⟩⟩ := ⟨⟨rfl, ⟨_, by omega, hr1⟩, hm1⟩, ⟨rfl, ⟨_, by omega, hr2.mono (by omega) (Nat.le_refl _)⟩, hm2⟩, fun r hr q hq h0 h0' => by have u1 := (hr1.each r hr h0).2.2.1; have u2 := (hr2.each q hq h0').2.1; omega, hnm⟩
          obtain ⟨v', Z, hrun, hosZ, hgr⟩ := hos0.app (x := ⟨xs, ⟨yr, ra1, rg1, 0, rc1, F1⟩, ⟨xr, ra2, rg2, 0, rc2, F2⟩⟩) (c := 1) 27 hbc hnw (by omega) hT hFl
          refine wpAnyH_ready (rs := [12]) (by kernel_rfl) (by simp) (Hn.readyRun (i := 12) rfl (by kernel_rfl) (some 29) (by kernel_rfl) (Hn.exec_app (.tmp 18) (.tmp 28) rfl (by kernel_rfl) (by kernel_rfl) hrun) (st.grown hgr) (fun hHeld => ?_) AllReadyH.nil)
          simp only [Act.put, List.setIfInBounds_toArray, List.set_cons_zero, List.set_cons_succ]
          replace st := st.grown hgr
          obtain ⟨va, vn, vc, hv⟩ := hosZ.slice
          subst hv
          have kOZ := (hgr.block _ (blk_lt kO0) (fun e => by have := (hos0.lt e.symm).1; omega)).trans kO0
          replace B2 := B2.grown hgr B2.size (fun k hk => by have := (hos0.lt hk).1; omega)
          have o0 := Pl.one kOZ
          have fO := Vl.free kOZ
          refine Hn.take (i := 13) (d := some 30) (v := .pointer (some ⟨OB, 0, none⟩)) rfl (by kernel_rfl) (by kernel_rfl) (by kernel_rfl) (by kernel_rfl) (fun _ _ _ h => h) (Or.inl ⟨by rfl, by intro w hSw; go_simp⟩) hHeld ?_
          simp only [Act.put, List.setIfInBounds_toArray, List.set_cons_zero, List.set_cons_succ]
          refine wpAnyH_ready (rs := [14]) (by kernel_rfl) (by simp) (Hn.readySkip (i := 14) rfl (by kernel_rfl) none (by kernel_rfl) (w' := Z.setCell ⟨OB, 0, none⟩ (.slice va vn vc)) (by go_simp) st.set (fun hHeld => ?_) AllReadyH.nil)
          simp only [Act.put, List.setIfInBounds_toArray, List.set_cons_zero, List.set_cons_succ]
          refine wpAnyH_done (by kernel_rfl) ?_ _
          have kO' : (Z.setCell ⟨OB, 0, none⟩ (.slice va vn vc)).heap[OB]? = some (.cells #[(.slice va vn vc)] 29 (0, 0)) := one_set kOZ
          have B1' : Below w.heap.size w (Z.setCell ⟨OB, 0, none⟩ (.slice va vn vc)) := Vl.bset B2 hwo
          have hos' : OD (Z.setCell ⟨OB, 0, none⟩ (.slice va vn vc)) B (.slice va vn vc) (F ++ [⟨xs, ⟨yr, ra1, rg1, 0, rc1, F1⟩, ⟨xr, ra2, rg2, 0, rc2, F2⟩⟩]) := hosZ.keep (fun x _ hx => Below.heap_setCell _ _ _ _ (by simp; omega)) (by simp)
          replace st : Rl.Stab W5 (OB) v (Z.setCell ⟨OB, 0, none⟩ (.slice va vn vc)) := st.set
          generalize Z.setCell ⟨OB, 0, none⟩ (.slice va vn vc) = Y9 at *
          go_wp2
          go_roundw
          case rel => exact ⟨k + 1, _, _, by omega, by go_num, kO', hos', by rw [told_app, HT.out, HTn.out]; simp only [Cm.l, Re.l, hl1, hl2], by simp only [List.length_append, List.length_singleton]; omega, Nat.le_trans hBs st.size, B1', (st.block _ (by omega) (by omega) (fun e => by have := (hos0.lt e.symm).1; omega)).trans kR5⟩
          case measure => simp [intOf]; omega
        · rintro e1 Wa ⟨v1, F1, rfl, hot1, hl1, hb⟩
          obtain ⟨ra1, rg1, rc1, hv1, hr1⟩ := hot1.form (hF1of F1 hl1)
          subst hv1
          have hm1 := OG.room hot1.og
          replace st := st.below hb
          replace kO0 := (hb.block _ (blk_lt kO0)).trans kO0
          replace B2 := Rw.next B2 hb
          have s1 := hb.size
          replace ok2_0 := ok2_0.below hb
          have hbc := hb
          clear hb
          refine ⟨_, rfl, st, fun hHeld => ?_⟩
          simp only [Act.put, List.setIfInBounds_toArray, List.set_cons_zero, List.set_cons_succ]
          refine wpAnyH_ready (rs := [1, 9]) (by kernel_rfl) (by simp) (Hn.readyRun (i := 1) rfl (by kernel_rfl) (some 18) (by kernel_rfl) (v := v) (w' := Wa) (by have o0 := Pl.one kO0; go_simp) st (fun hHeld => ?_) (Hn.call1 (i := 9) rfl (by rfl) 44 (.tmp 25) 51 (by kernel_rfl) 26 (by kernel_rfl) (.agg #[.int .i64 xr, .slice xa xQ.length xc]) (by kernel_rfl) (fun _ => rfl) (copyRel_any _ _ _ _ _ _ _ ok2_0 (by omega)) ?_ AllReadyH.nil))
          · simp only [Act.put, List.setIfInBounds_toArray, List.set_cons_zero, List.set_cons_succ]
            refine wpAnyH_ready (rs := [9]) (by kernel_rfl) (by simp) (Hn.call1 (i := 9) rfl (by rfl) 44 (.tmp 25) 51 (by kernel_rfl) 26 (by kernel_rfl) (.agg #[.int .i64 xr, .slice xa xQ.length xc]) (by kernel_rfl) (fun _ => rfl) (copyRel_any _ _ _ _ _ _ _ ok2_0 (by omega)) ?_ AllReadyH.nil)
            rintro e2 Wc ⟨v2, F2, rfl, hot2, hl2, hb⟩
            obtain ⟨ra2, rg2, rc2, hv2, hr2⟩ := hot2.form (hF2of F2 hl2)
            subst hv2
            have hm2 := OG.room hot2.og
            replace st := st.below hb
            replace kO0 := (hb.block _ (blk_lt kO0)).trans kO0
            replace B2 := Rw.next B2 hb
            have s2 := hb.size
            replace hr1 := hr1.below hb
            replace hbc := Rw.next hbc hb
            clear hb
            refine ⟨_, rfl, st, fun hHeld => ?_⟩
            simp only [Act.put, List.setIfInBounds_toArray, List.set_cons_zero, List.set_cons_succ]
            refine Hn.take (i := 10) (d := some 27) (v := .agg #[.string xs, .int .i64 yr, .slice ra1 F1.length rc1, .int .i64 xr, .slice ra2 F2.length rc2]) rfl (by kernel_rfl) (by kernel_rfl) (by kernel_rfl) (by kernel_rfl) (fun _ _ _ h => h) (Or.inl ⟨by rfl, by intro w hSw; go_simp⟩) hHeld ?_
            simp only [Act.put, List.setIfInBounds_toArray, List.set_cons_zero, List.set_cons_succ]
            refine wpAnyH_ready (rs := [11]) (by kernel_rfl) (by simp) (Hn.readyRun (i := 11) rfl (by kernel_rfl) (some 28) (by kernel_rfl) (v := .slice (some ⟨Wc.heap.size, 0, none⟩) 1 1) (w' := Wc.alloc (.cells #[.string xs, .int .i64 yr, .slice ra1 F1.length rc1, .int .i64 xr, .slice ra2 F2.length rc2] 53)) (exec_oneC rfl (by kernel_rfl)) (st.below (below_alloc1 _ _)) (fun hHeld => ?_) AllReadyH.nil)
            simp only [Act.put, List.setIfInBounds_toArray, List.set_cons_zero, List.set_cons_succ]
            obtain ⟨Wd, hWd⟩ : ∃ Wd, Wd = Wc.alloc (.cells #[.string xs, .int .i64 yr, .slice ra1 F1.length rc1, .int .i64 xr, .slice ra2 F2.length rc2] 53) := ⟨_, rfl⟩
            rw [← hWd] at hHeld ⊢
            have hT : Wd.heap[Wc.heap.size]? = some (.cells #[.string xs, .int .i64 yr, .slice ra1 F1.length rc1, .int .i64 xr, .slice ra2 F2.length rc2] 53 (0, 0)) := by subst hWd; exact at_new rfl
            have hb : Below Wc.heap.size Wc Wd := by subst hWd; exact below_alloc1 _ _
            have s3 := hb.size
            replace st := st.below hb
            replace kO0 := (hb.block _ (blk_lt kO0)).trans kO0
            replace B2 := Rw.next B2 hb
            replace hr1 := hr1.below hb
            replace hr2 := hr2.below hb
            replace hbc := Rw.next hbc hb
            clear hb hWd
            have hnw : New Wd W.heap.size ⟨xs, ⟨yr, ra1, rg1, 0, rc1, F1⟩, ⟨xr, ra2, rg2, 0, rc2, F2⟩⟩ := ⟨⟨rfl, ⟨_, by omega, hr1⟩, hm1⟩, ⟨rfl, ⟨_, by omega, hr2.mono (by omega) (Nat.le_refl _)⟩, hm2⟩, fun r hr q hq h0 h0' => by have u1 := (hr1.each r hr h0).2.2.1; have u2 := (hr2.each q hq h0').2.1; omega, hnm⟩
            obtain ⟨v', Z, hrun, hosZ, hgr⟩ := hos0.app (x := ⟨xs, ⟨yr, ra1, rg1, 0, rc1, F1⟩, ⟨xr, ra2, rg2, 0, rc2, F2⟩⟩) (c := 1) 27 hbc hnw (by omega) hT hFl
            refine wpAnyH_ready (rs := [12]) (by kernel_rfl) (by simp) (Hn.readyRun (i := 12) rfl (by kernel_rfl) (some 29) (by kernel_rfl) (Hn.exec_app (.tmp 18) (.tmp 28) rfl (by kernel_rfl) (by kernel_rfl) hrun) (st.grown hgr) (fun hHeld => ?_) AllReadyH.nil)
            simp only [Act.put, List.setIfInBounds_toArray, List.set_cons_zero, List.set_cons_succ]
            replace st := st.grown hgr
            obtain ⟨va, vn, vc, hv⟩ := hosZ.slice
            subst hv
            have kOZ := (hgr.block _ (blk_lt kO0) (fun e => by have := (hos0.lt e.symm).1; omega)).trans kO0
            replace B2 := B2.grown hgr B2.size (fun k hk => by have := (hos0.lt hk).1; omega)
            have o0 := Pl.one kOZ
            have fO := Vl.free kOZ
            refine Hn.take (i := 13) (d := some 30) (v := .pointer (some ⟨OB, 0, none⟩)) rfl (by kernel_rfl) (by kernel_rfl) (by kernel_rfl) (by kernel_rfl) (fun _ _ _ h => h) (Or.inl ⟨by rfl, by intro w hSw; go_simp⟩) hHeld ?_
            simp only [Act.put, List.setIfInBounds_toArray, List.set_cons_zero, List.set_cons_succ]
            refine wpAnyH_ready (rs := [14]) (by kernel_rfl) (by simp) (Hn.readySkip (i := 14) rfl (by kernel_rfl) none (by kernel_rfl) (w' := Z.setCell ⟨OB, 0, none⟩ (.slice va vn vc)) (by go_simp) st.set (fun hHeld => ?_) AllReadyH.nil)
            simp only [Act.put, List.setIfInBounds_toArray, List.set_cons_zero, List.set_cons_succ]
            refine wpAnyH_done (by kernel_rfl) ?_ _
            have kO' : (Z.setCell ⟨OB, 0, none⟩ (.slice va vn vc)).heap[OB]? = some (.cells #[(.slice va vn vc)] 29 (0, 0)) := one_set kOZ
            have B1' : Below w.heap.size w (Z.setCell ⟨OB, 0, none⟩ (.slice va vn vc)) := Vl.bset B2 hwo
            have hos' : OD (Z.setCell ⟨OB, 0, none⟩ (.slice va vn vc)) B (.slice va vn vc) (F ++ [⟨xs, ⟨yr, ra1, rg1, 0, rc1, F1⟩, ⟨xr, ra2, rg2, 0, rc2, F2⟩⟩]) := hosZ.keep (fun x _ hx => Below.heap_setCell _ _ _ _ (by simp; omega)) (by simp)
            replace st : Rl.Stab W5 (OB) v (Z.setCell ⟨OB, 0, none⟩ (.slice va vn vc)) := st.set
            generalize Z.setCell ⟨OB, 0, none⟩ (.slice va vn vc) = Y9 at *
            go_wp2
            go_roundw
            case rel => exact ⟨k + 1, _, _, by omega, by go_num, kO', hos', by rw [told_app, HT.out, HTn.out]; simp only [Cm.l, Re.l, hl1, hl2], by simp only [List.length_append, List.length_singleton]; omega, Nat.le_trans hBs st.size, B1', (st.block _ (by omega) (by omega) (fun e => by have := (hos0.lt e.symm).1; omega)).trans kR5⟩
            case measure => simp [intOf]; omega
          · rintro e2 Wc ⟨v2, F2, rfl, hot2, hl2, hb⟩
            obtain ⟨ra2, rg2, rc2, hv2, hr2⟩ := hot2.form (hF2of F2 hl2)
            subst hv2
            have hm2 := OG.room hot2.og
            replace st := st.below hb
            replace kO0 := (hb.block _ (blk_lt kO0)).trans kO0
            replace B2 := Rw.next B2 hb
            have s2 := hb.size
            replace hr1 := hr1.below hb
            replace hbc := Rw.next hbc hb
            clear hb
            refine ⟨_, rfl, st, fun hHeld => ?_⟩
            simp only [Act.put, List.setIfInBounds_toArray, List.set_cons_zero, List.set_cons_succ]
            refine Hn.take (i := 10) (d := some 27) (v := .agg #[.string xs, .int .i64 yr, .slice ra1 F1.length rc1, .int .i64 xr, .slice ra2 F2.length rc2]) rfl (by kernel_rfl) (by kernel_rfl) (by kernel_rfl) (by kernel_rfl) (fun _ _ _ h => h) (Or.inl ⟨by rfl, by intro w hSw; go_simp⟩) hHeld ?_
            simp only [Act.put, List.setIfInBounds_toArray, List.set_cons_zero, List.set_cons_succ]
            refine wpAnyH_ready (rs := [1, 11]) (by kernel_rfl) (by simp) (Hn.readyRun (i := 1) rfl (by kernel_rfl) (some 18) (by kernel_rfl) (v := v) (w' := Wc) (by have o0 := Pl.one kO0; go_simp) st (fun hHeld => ?_) (Hn.readyRun (i := 11) rfl (by kernel_rfl) (some 28) (by kernel_rfl) (v := .slice (some ⟨Wc.heap.size, 0, none⟩) 1 1) (w' := Wc.alloc (.cells #[.string xs, .int .i64 yr, .slice ra1 F1.length rc1, .int .i64 xr, .slice ra2 F2.length rc2] 53)) (exec_oneC rfl (by kernel_rfl)) (st.below (below_alloc1 _ _)) (fun hHeld => ?_) AllReadyH.nil))
            · simp only [Act.put, List.setIfInBounds_toArray, List.set_cons_zero, List.set_cons_succ]
              refine wpAnyH_ready (rs := [11]) (by kernel_rfl) (by simp) (Hn.readyRun (i := 11) rfl (by kernel_rfl) (some 28) (by kernel_rfl) (v := .slice (some ⟨Wc.heap.size, 0, none⟩) 1 1) (w' := Wc.alloc (.cells #[.string xs, .int .i64 yr, .slice ra1 F1.length rc1, .int .i64 xr, .slice ra2 F2.length rc2] 53)) (exec_oneC rfl (by kernel_rfl)) (st.below (below_alloc1 _ _)) (fun hHeld => ?_) AllReadyH.nil)
              simp only [Act.put, List.setIfInBounds_toArray, List.set_cons_zero, List.set_cons_succ]
              obtain ⟨Wd, hWd⟩ : ∃ Wd, Wd = Wc.alloc (.cells #[.string xs, .int .i64 yr, .slice ra1 F1.length rc1, .int .i64 xr, .slice ra2 F2.length rc2] 53) := ⟨_, rfl⟩
              rw [← hWd] at hHeld ⊢
              have hT : Wd.heap[Wc.heap.size]? = some (.cells #[.string xs, .int .i64 yr, .slice ra1 F1.length rc1, .int .i64 xr, .slice ra2 F2.length rc2] 53 (0, 0)) := by subst hWd; exact at_new rfl
              have hb : Below Wc.heap.size Wc Wd := by subst hWd; exact below_alloc1 _ _
              have s3 := hb.size
              replace st := st.below hb
              replace kO0 := (hb.block _ (blk_lt kO0)).trans kO0
              replace B2 := Rw.next B2 hb
              replace hr1 := hr1.below hb
              replace hr2 := hr2.below hb
              replace hbc := Rw.next hbc hb
              clear hb hWd
              have hnw : New Wd W.heap.size ⟨xs, ⟨yr, ra1, rg1, 0, rc1, F1⟩, ⟨xr, ra2, rg2, 0, rc2, F2⟩⟩ := ⟨⟨rfl, ⟨_, by omega, hr1⟩, hm1⟩, ⟨rfl, ⟨_, by omega, hr2.mono (by omega) (Nat.le_refl _)⟩, hm2⟩, fun r hr q hq h0 h0' => by have u1 := (hr1.each r hr h0).2.2.1; have u2 := (hr2.each q hq h0').2.1; omega, hnm⟩
              obtain ⟨v', Z, hrun, hosZ, hgr⟩ := hos0.app (x := ⟨xs, ⟨yr, ra1, rg1, 0, rc1, F1⟩, ⟨xr, ra2, rg2, 0, rc2, F2⟩⟩) (c := 1) 27 hbc hnw (by omega) hT hFl
              refine wpAnyH_ready (rs := [12]) (by kernel_rfl) (by simp) (Hn.readyRun (i := 12) rfl (by kernel_rfl) (some 29) (by kernel_rfl) (Hn.exec_app (.tmp 18) (.tmp 28) rfl (by kernel_rfl) (by kernel_rfl) hrun) (st.grown hgr) (fun hHeld => ?_) AllReadyH.nil)
              simp only [Act.put, List.setIfInBounds_toArray, List.set_cons_zero, List.set_cons_succ]
              replace st := st.grown hgr
              obtain ⟨va, vn, vc, hv⟩ := hosZ.slice
              subst hv
              have kOZ := (hgr.block _ (blk_lt kO0) (fun e => by have := (hos0.lt e.symm).1; omega)).trans kO0
              replace B2 := B2.grown hgr B2.size (fun k hk => by have := (hos0.lt hk).1; omega)
              have o0 := Pl.one kOZ
              have fO := Vl.free kOZ
              refine Hn.take (i := 13) (d := some 30) (v := .pointer (some ⟨OB, 0, none⟩)) rfl (by kernel_rfl) (by kernel_rfl) (by kernel_rfl) (by kernel_rfl) (fun _ _ _ h => h) (Or.inl ⟨by rfl, by intro w hSw; go_simp⟩) hHeld ?_
              simp only [Act.put, List.setIfInBounds_toArray, List.set_cons_zero, List.set_cons_succ]
              refine wpAnyH_ready (rs := [14]) (by kernel_rfl) (by simp) (Hn.readySkip (i := 14) rfl (by kernel_rfl) none (by kernel_rfl) (w' := Z.setCell ⟨OB, 0, none⟩ (.slice va vn vc)) (by go_simp) st.set (fun hHeld => ?_) AllReadyH.nil)
              simp only [Act.put, List.setIfInBounds_toArray, List.set_cons_zero, List.set_cons_succ]
              refine wpAnyH_done (by kernel_rfl) ?_ _
              have kO' : (Z.setCell ⟨OB, 0, none⟩ (.slice va vn vc)).heap[OB]? = some (.cells #[(.slice va vn vc)] 29 (0, 0)) := one_set kOZ
              have B1' : Below w.heap.size w (Z.setCell ⟨OB, 0, none⟩ (.slice va vn vc)) := Vl.bset B2 hwo
              have hos' : OD (Z.setCell ⟨OB, 0, none⟩ (.slice va vn vc)) B (.slice va vn vc) (F ++ [⟨xs, ⟨yr, ra1, rg1, 0, rc1, F1⟩, ⟨xr, ra2, rg2, 0, rc2, F2⟩⟩]) := hosZ.keep (fun x _ hx => Below.heap_setCell _ _ _ _ (by simp; omega)) (by simp)
              replace st : Rl.Stab W5 (OB) v (Z.setCell ⟨OB, 0, none⟩ (.slice va vn vc)) := st.set
              generalize Z.setCell ⟨OB, 0, none⟩ (.slice va vn vc) = Y9 at *
              go_wp2
              go_roundw
              case rel => exact ⟨k + 1, _, _, by omega, by go_num, kO', hos', by rw [told_app, HT.out, HTn.out]; simp only [Cm.l, Re.l, hl1, hl2], by simp only [List.length_append, List.length_singleton]; omega, Nat.le_trans hBs st.size, B1', (st.block _ (by omega) (by omega) (fun e => by have := (hos0.lt e.symm).1; omega)).trans kR5⟩
              case measure => simp [intOf]; omega
            · simp only [Act.put, List.setIfInBounds_toArray, List.set_cons_zero, List.set_cons_succ]
              obtain ⟨Wd, hWd⟩ : ∃ Wd, Wd = Wc.alloc (.cells #[.string xs, .int .i64 yr, .slice ra1 F1.length rc1, .int .i64 xr, .slice ra2 F2.length rc2] 53) := ⟨_, rfl⟩
              rw [← hWd] at hHeld ⊢
              have hT : Wd.heap[Wc.heap.size]? = some (.cells #[.string xs, .int .i64 yr, .slice ra1 F1.length rc1, .int .i64 xr, .slice ra2 F2.length rc2] 53 (0, 0)) := by subst hWd; exact at_new rfl
              have hb : Below Wc.heap.size Wc Wd := by subst hWd; exact below_alloc1 _ _
              have s3 := hb.size
              replace st := st.below hb
              replace kO0 := (hb.block _ (blk_lt kO0)).trans kO0
              replace B2 := Rw.next B2 hb
              replace hr1 := hr1.below hb
              replace hr2 := hr2.below hb
              replace hbc := Rw.next hbc hb
              clear hb hWd
              refine wpAnyH_ready (rs := [1]) (by kernel_rfl) (by simp) (Hn.readyRun (i := 1) rfl (by kernel_rfl) (some 18) (by kernel_rfl) (v := v) (w' := Wd) (by have o0 := Pl.one kO0; go_simp) st (fun hHeld => ?_) AllReadyH.nil)
              simp only [Act.put, List.setIfInBounds_toArray, List.set_cons_zero, List.set_cons_succ]
              have hnw : New Wd W.heap.size ⟨xs, ⟨yr, ra1, rg1, 0, rc1, F1⟩, ⟨xr, ra2, rg2, 0, rc2, F2⟩⟩ := ⟨⟨rfl, ⟨_, by omega, hr1⟩, hm1⟩, ⟨rfl, ⟨_, by omega, hr2.mono (by omega) (Nat.le_refl _)⟩, hm2⟩, fun r hr q hq h0 h0' => by have u1 := (hr1.each r hr h0).2.2.1; have u2 := (hr2.each q hq h0').2.1; omega, hnm⟩
              obtain ⟨v', Z, hrun, hosZ, hgr⟩ := hos0.app (x := ⟨xs, ⟨yr, ra1, rg1, 0, rc1, F1⟩, ⟨xr, ra2, rg2, 0, rc2, F2⟩⟩) (c := 1) 27 hbc hnw (by omega) hT hFl
              refine wpAnyH_ready (rs := [12]) (by kernel_rfl) (by simp) (Hn.readyRun (i := 12) rfl (by kernel_rfl) (some 29) (by kernel_rfl) (Hn.exec_app (.tmp 18) (.tmp 28) rfl (by kernel_rfl) (by kernel_rfl) hrun) (st.grown hgr) (fun hHeld => ?_) AllReadyH.nil)
              simp only [Act.put, List.setIfInBounds_toArray, List.set_cons_zero, List.set_cons_succ]
              replace st := st.grown hgr
              obtain ⟨va, vn, vc, hv⟩ := hosZ.slice
              subst hv
              have kOZ := (hgr.block _ (blk_lt kO0) (fun e => by have := (hos0.lt e.symm).1; omega)).trans kO0
              replace B2 := B2.grown hgr B2.size (fun k hk => by have := (hos0.lt hk).1; omega)
              have o0 := Pl.one kOZ
              have fO := Vl.free kOZ
              refine Hn.take (i := 13) (d := some 30) (v := .pointer (some ⟨OB, 0, none⟩)) rfl (by kernel_rfl) (by kernel_rfl) (by kernel_rfl) (by kernel_rfl) (fun _ _ _ h => h) (Or.inl ⟨by rfl, by intro w hSw; go_simp⟩) hHeld ?_
              simp only [Act.put, List.setIfInBounds_toArray, List.set_cons_zero, List.set_cons_succ]
              refine wpAnyH_ready (rs := [14]) (by kernel_rfl) (by simp) (Hn.readySkip (i := 14) rfl (by kernel_rfl) none (by kernel_rfl) (w' := Z.setCell ⟨OB, 0, none⟩ (.slice va vn vc)) (by go_simp) st.set (fun hHeld => ?_) AllReadyH.nil)
              simp only [Act.put, List.setIfInBounds_toArray, List.set_cons_zero, List.set_cons_succ]
              refine wpAnyH_done (by kernel_rfl) ?_ _
              have kO' : (Z.setCell ⟨OB, 0, none⟩ (.slice va vn vc)).heap[OB]? = some (.cells #[(.slice va vn vc)] 29 (0, 0)) := one_set kOZ
              have B1' : Below w.heap.size w (Z.setCell ⟨OB, 0, none⟩ (.slice va vn vc)) := Vl.bset B2 hwo
              have hos' : OD (Z.setCell ⟨OB, 0, none⟩ (.slice va vn vc)) B (.slice va vn vc) (F ++ [⟨xs, ⟨yr, ra1, rg1, 0, rc1, F1⟩, ⟨xr, ra2, rg2, 0, rc2, F2⟩⟩]) := hosZ.keep (fun x _ hx => Below.heap_setCell _ _ _ _ (by simp; omega)) (by simp)
              replace st : Rl.Stab W5 (OB) v (Z.setCell ⟨OB, 0, none⟩ (.slice va vn vc)) := st.set
              generalize Z.setCell ⟨OB, 0, none⟩ (.slice va vn vc) = Y9 at *
              go_wp2
              go_roundw
              case rel => exact ⟨k + 1, _, _, by omega, by go_num, kO', hos', by rw [told_app, HT.out, HTn.out]; simp only [Cm.l, Re.l, hl1, hl2], by simp only [List.length_append, List.length_singleton]; omega, Nat.le_trans hBs st.size, B1', (st.block _ (by omega) (by omega) (fun e => by have := (hos0.lt e.symm).1; omega)).trans kR5⟩
              case measure => simp [intOf]; omega
      · have he : k = n := by omega
        subst he
        have o0 := Pl.one kOr
        have r0 := Pl.one kRr
        have fR := Vl.free kRr
        obtain ⟨va, vn, vc, hv⟩ := hosr.slice
        subst hv
        clear hh hc ho hst hCh HTn0
        go_wp2
        refine bodyPost_ret (v := .agg #[.slice va vn vc]) (by simp [results, Try.results20, go_sem, r0]) rfl ⟨_, F, rfl, (hosr.keep (fun x _ hx => Below.heap_setCell _ _ _ _ (by simp; omega)) (by simp)).mono (by omega), by rw [HT.out, HTl.out, HM.out], Vl.bset B1r (by simp)⟩



set_option maxHeartbeats 8000000 in
theorem backS_any (a : Option Addr) (b off cap : Nat) (T : List Cm) (w : World) (h : Rd w a b off T) (M : List CL) (hM : BA (told T) M) :
    Calls Try.prog 19 #[.agg #[.slice a T.length cap]] w (ResDl w M) := by
  obtain ⟨W1, hW1⟩ : ∃ W1, W1 = ((w.alloc (.cells #[.slice a T.length cap] 29)).alloc (.cells #[.slice none 0 0] 29)).alloc (.cells #[.slice none 0 0] 29) := ⟨_, rfl⟩
  have B0 : Below w.heap.size w W1 := by subst hW1; exact Rw.next (below_alloc2 _ _ _) (below_alloc1 _ _)
  have kO : W1.heap[w.heap.size + 1 + 1]? = some (.cells #[.slice none 0 0] 29 (0, 0)) := by subst hW1; exact at_new (by simp)
  have kR : W1.heap[w.heap.size + 1]? = some (.cells #[.slice none 0 0] 29 (0, 0)) := by subst hW1; rw [at_old (by simp), at_new (by simp)]
  have kD : W1.heap[w.heap.size]? = some (.cells #[.slice a T.length cap] 29 (0, 0)) := by subst hW1; rw [at_old (by simp; omega), at_old (by simp), at_new rfl]
  have hO := okS_any a b off cap T W1 (h.below B0)
  unfold BA at hM
  cases hd : deltaB (told T) with
  | false =>
    rw [hd] at hO hM
    rw [if_neg (by simp)] at hM
    go_enter Try.func19, Try.ntmps19
    go_wp2_with (go_at_call 7; rw [← hW1]; clear hW1; refine hO.mono ?_; rintro e w1 ⟨rfl, hb⟩; replace B0 := Rw.next B0 hb; replace kR := (hb.block _ (blk_lt kR)).trans kR; replace kD := (hb.block _ (blk_lt kD)).trans kD; replace kO := (hb.block _ (blk_lt kO)).trans kO; have r0 := Pl.one kR; have fR := Vl.free kR; have d0 := Pl.one kD; have ld := blk_lt kD; have o0 := Pl.one kO; have fO := Vl.free kO; clear hb)
    refine bodyPost_ret (v := .agg #[.slice none 0 0]) (by simp [results, Try.results19, go_sem, r0]) rfl ⟨_, [], rfl, OD.nil _ _, by rw [hM]; rfl, ?_⟩
    repeat (first | with_reducible exact B0 | refine Vl.bset ?_ (by simp <;> omega))
  | true =>
    rw [hd] at hO hM
    rw [if_pos rfl] at hM
    obtain ⟨hT24, hCh⟩ := delta_parts hd
    obtain ⟨hh, hc, ho, hs, hst⟩ := h
    have HM : Hid (M = backL (told T)) := hM
    have HTl : Hid ((told T).take T.length = told T) := by rw [← told_len T]; exact List.take_length
    have HTn0 : Hid (∀ k, k < T.length → backL ((told T).take (k + 1)) = backL ((told T).take k) ++ [((T.getD k cm0).s, (T.getD k cm0).m.l, (T.getD k cm0).p.l)]) := fun k hk => back_next hk
    clear hM hd
    obtain ⟨n, hn⟩ : ∃ n, n = T.length := ⟨_, rfl⟩
    rw [← hn] at hh hc ho hs hst hT24 hCh hO HTl HTn0 hW1 kD ⊢
    clear hn
    go_enter Try.func19, Try.ntmps19
    go_wp2_with (go_at_call 7; rw [← hW1]; clear hW1; refine hO.mono ?_; rintro e w1 ⟨rfl, hb⟩; replace B0 := Rw.next B0 hb; replace kR := (hb.block _ (blk_lt kR)).trans kR; replace kD := (hb.block _ (blk_lt kD)).trans kD; replace kO := (hb.block _ (blk_lt kO)).trans kO; have r0 := Pl.one kR; have fR := Vl.free kR; have d0 := Pl.one kD; have ld := blk_lt kD; have o0 := Pl.one kO; have fO := Vl.free kO; clear hb)
    obtain ⟨OB, hOB⟩ : ∃ OB, OB = w.heap.size + 1 + 1 := ⟨_, rfl⟩
    obtain ⟨B, hB⟩ : ∃ B, B = w1.heap.size := ⟨_, rfl⟩
    rw [← hOB] at kO ⊢
    have hRO : w.heap.size + 1 < OB := by omega
    have hBo : OB < B := by rw [hB]; exact blk_lt kO
    have hwo : w.heap.size ≤ OB := by omega
    have hB1 : B ≤ w1.heap.size := by omega
    clear hB hOB ld d0 r0 fR kD o0 fO
    go_loopw [14] (fun i wr => ∃ (k : Nat) (v : Value) (F : List Cm), k ≤ n ∧ i = .int .i64 k ∧ wr.heap[OB]? = some (.cells #[v] 29 (0, 0)) ∧ OD wr B v F ∧ told F = backL ((told T).take k) ∧ F.length = k ∧ B ≤ wr.heap.size ∧ Below w.heap.size w wr ∧ wr.heap[w.heap.size + 1]? = some (.cells #[.slice none 0 0] 29 (0, 0))) (fun i _ => n - (intOf i).toNat)
    case atStart => exact ⟨0, _, [], Nat.zero_le _, rfl, kO, OD.nil _ _, rfl, rfl, hB1, B0, kR⟩
    case round =>
      obtain ⟨k, v, F, hk, rfl, kOr, hosr, hT, hFk, hBr, B1r, kRr⟩ := hrel
      have HT : Hid (told F = backL ((told T).take k)) := hT
      clear hT
      by_cases hlt : k < n
      · obtain rfl := hh (by omega)
        have hkz : (k : Int) < (n : Int) := by omega
        obtain ⟨A0, A1, A2, A3, A4⟩ := At5.of (hc k hlt) B1r (hc k hlt).lt
        have o1 := Rl.Rd.below (ho k hlt).1 B1r
        have o2 := Rl.Rd.below (ho k hlt).2 B1r
        have hnm := hst k hlt
        have hfew := change_few (hCh k hlt)
        have HTn : Hid (backL ((told T).take (k + 1)) = backL ((told T).take k) ++ [((T.getD k cm0).s, (T.getD k cm0).m.l, (T.getD k cm0).p.l)]) := HTn0.out k hlt
        clear hc ho hh hst hCh HTn0
        generalize T.getD k cm0 = x at A0 A1 A2 A3 A4 o1 o2 hnm hfew HTn
        obtain ⟨xs, ⟨xr, xa, xb, xo, xc, xQ⟩, ⟨yr, ya, yb, yo, yc, yQ⟩⟩ := x
        simp only [Re.l] at A0 A1 A2 A3 A4 o1 o2 hnm hfew HTn
        obtain ⟨hf1, hf2⟩ := hfew
        have hF1of : ∀ F1 : List Rm, said F1 = said yQ → F1.length ≤ 4194304 := fun F1 h => by rw [← Rl.said_len, h, Rl.said_len]; omega
        have hF2of : ∀ F1 : List Rm, said F1 = said xQ → F1.length ≤ 4194304 := fun F1 h => by rw [← Rl.said_len, h, Rl.said_len]; omega
        obtain ⟨W5, hW5⟩ : ∃ W5, W5 = wr.alloc (.cells #[.string xs, .int .i64 xr, .slice xa xQ.length xc, .int .i64 yr, .slice ya yQ.length yc] 53) := ⟨_, rfl⟩
        have b5 : Below wr.heap.size wr W5 := by subst hW5; exact below_alloc1 _ _
        obtain ⟨g, hg⟩ : ∃ g, g = wr.heap.size := ⟨_, rfl⟩
        have kg : W5.heap[g]? = some (.cells #[.string xs, .int .i64 xr, .slice xa xQ.length xc, .int .i64 yr, .slice ya yQ.length yc] 53 (0, 0)) := by subst hW5 hg; exact at_new rfl
        have kO := (b5.block _ (blk_lt kOr)).trans kOr
        have kR5 := (b5.block _ (blk_lt kRr)).trans kRr
        have hos := hosr.below b5
        have ok1 := o2.below b5
        have ok2 := o1.below b5
        have B1 := Rw.next B1r b5
        have hBs : B ≤ W5.heap.size := Nat.le_trans hBr b5.size
        have hgo : g ≠ OB := fun e => by have := blk_lt kOr; omega
        have hSt : ∀ w', Rl.Stab W5 OB v w' → w'.cell? ⟨g, 0, none⟩ = some (.string xs) ∧ w'.cell? ⟨g, 1, none⟩ = some (.int .i64 xr) ∧ w'.cell? ⟨g, 2, none⟩ = some (.slice xa xQ.length xc) ∧ w'.cell? ⟨g, 3, none⟩ = some (.int .i64 yr) ∧ w'.cell? ⟨g, 4, none⟩ = some (.slice ya yQ.length yc) := fun w' hw => five ((hw.block g (blk_lt kg) hgo (fun e => by have := (hosr.lt e.symm).2; omega)).trans kg)
        have hFl : F.length ≤ 100000 := by omega
        have hw5 := blk_lt kR5
        go_wp2
        rw [← hW5, ← hg]
        clear hW5 kOr kRr hosr o1 o2 B1r b5 kg A0 A1 A2 A3 A4 hgo hg
        refine wp_region_held_drew (S := Rl.Stab W5 (OB) v) (by kernel_rfl) (Rl.Stab.refl _ _ _) (fun hHeld => ?_)
        refine Hn.take (i := 0) (d := some 18) (v := .pointer (some ⟨OB, 0, none⟩)) rfl (by kernel_rfl) (by kernel_rfl) (by kernel_rfl) (by kernel_rfl) (fun _ _ _ h => h) (Or.inl ⟨by rfl, by intro w hSw; go_simp⟩) hHeld ?_
        simp only [Act.put, List.setIfInBounds_toArray, List.set_cons_zero, List.set_cons_succ]
        refine Hn.take (i := 2) (d := some 20) (v := .pointer (some ⟨g, 0, none⟩)) rfl (by kernel_rfl) (by kernel_rfl) (by kernel_rfl) (by kernel_rfl) (fun _ _ _ h => h) (Or.inl ⟨by rfl, by intro w hSw; go_simp⟩) hHeld ?_
        simp only [Act.put, List.setIfInBounds_toArray, List.set_cons_zero, List.set_cons_succ]
        refine Hn.take (i := 3) (d := some 21) (v := .string xs) rfl (by kernel_rfl) (by kernel_rfl) (by kernel_rfl) (by kernel_rfl) (fun _ _ _ h => h) (Or.inl ⟨by rfl, by intro w hSw; obtain ⟨c0, c1, c2, c3, c4⟩ := hSt w hSw; go_simp⟩) hHeld ?_
        simp only [Act.put, List.setIfInBounds_toArray, List.set_cons_zero, List.set_cons_succ]
        refine Hn.take (i := 4) (d := some 22) (v := .pointer (some ⟨g, 3, none⟩)) rfl (by kernel_rfl) (by kernel_rfl) (by kernel_rfl) (by kernel_rfl) (fun _ _ _ h => h) (Or.inl ⟨by rfl, by intro w hSw; go_simp⟩) hHeld ?_
        simp only [Act.put, List.setIfInBounds_toArray, List.set_cons_zero, List.set_cons_succ]
        refine Hn.take (i := 5) (d := some 23) (v := .agg #[.int .i64 yr, .slice ya yQ.length yc]) rfl (by kernel_rfl) (by kernel_rfl) (by kernel_rfl) (by kernel_rfl) (fun _ _ _ h => h) (Or.inl ⟨by rfl, by intro w hSw; obtain ⟨c0, c1, c2, c3, c4⟩ := hSt w hSw; go_simp⟩) hHeld ?_
        simp only [Act.put, List.setIfInBounds_toArray, List.set_cons_zero, List.set_cons_succ]
        refine Hn.take (i := 7) (d := some 25) (v := .pointer (some ⟨g, 1, none⟩)) rfl (by kernel_rfl) (by kernel_rfl) (by kernel_rfl) (by kernel_rfl) (fun _ _ _ h => h) (Or.inl ⟨by rfl, by intro w hSw; go_simp⟩) hHeld ?_
        simp only [Act.put, List.setIfInBounds_toArray, List.set_cons_zero, List.set_cons_succ]
        refine Hn.take (i := 8) (d := some 26) (v := .agg #[.int .i64 xr, .slice xa xQ.length xc]) rfl (by kernel_rfl) (by kernel_rfl) (by kernel_rfl) (by kernel_rfl) (fun _ _ _ h => h) (Or.inl ⟨by rfl, by intro w hSw; obtain ⟨c0, c1, c2, c3, c4⟩ := hSt w hSw; go_simp⟩) hHeld ?_
        simp only [Act.put, List.setIfInBounds_toArray, List.set_cons_zero, List.set_cons_succ]
        have st : Rl.Stab W5 (OB) v (W5).drew := Rl.Stab.refl _ _ _
        have hos0 : OD (W5).drew B v F := hos.below ((Below.refl _ _).drew)
        have kO0 : (W5).drew.heap[OB]? = some (.cells #[v] 29 (0, 0)) := kO
        have ok1_0 := Rl.Rd.below ok1 ((Below.refl (W5).heap.size (W5)).drew)
        have ok2_0 := Rl.Rd.below ok2 ((Below.refl (W5).heap.size (W5)).drew)
        have B2 := Rw.next B1 ((Below.refl (W5).heap.size (W5)).drew)
        have sW : (W5).drew.heap.size = (W5).heap.size := rfl
        generalize (W5).drew = W at *
        refine wpAnyH_ready (rs := [1, 6]) (by kernel_rfl) (by simp) (Hn.readyRun (i := 1) rfl (by kernel_rfl) (some 19) (by kernel_rfl) (v := v) (w' := W) (by have o0 := Pl.one kO0; go_simp) st (fun hHeld => ?_) (Hn.call1 (i := 6) rfl (by rfl) 43 (.tmp 23) 51 (by kernel_rfl) 24 (by kernel_rfl) (.agg #[.int .i64 yr, .slice ya yQ.length yc]) (by kernel_rfl) (fun _ => rfl) (Rl.lcopy_any _ _ _ _ _ _ _ ok1_0 (by omega)) ?_ AllReadyH.nil))
        · simp only [Act.put, List.setIfInBounds_toArray, List.set_cons_zero, List.set_cons_succ]
          refine wpAnyH_ready (rs := [6]) (by kernel_rfl) (by simp) (Hn.call1 (i := 6) rfl (by rfl) 43 (.tmp 23) 51 (by kernel_rfl) 24 (by kernel_rfl) (.agg #[.int .i64 yr, .slice ya yQ.length yc]) (by kernel_rfl) (fun _ => rfl) (Rl.lcopy_any _ _ _ _ _ _ _ ok1_0 (by omega)) ?_ AllReadyH.nil)
          rintro e1 Wa ⟨v1, F1, rfl, hot1, hl1, hb⟩
          obtain ⟨ra1, rg1, rc1, hv1, hr1⟩ := hot1.form (hF1of F1 hl1)
          subst hv1
          have hm1 := OG.room hot1.og
          replace st := st.below hb
          replace kO0 := (hb.block _ (blk_lt kO0)).trans kO0
          replace B2 := Rw.next B2 hb
          have s1 := hb.size
          replace ok2_0 := ok2_0.below hb
          have hbc := hb
          clear hb
          refine ⟨_, rfl, st, fun hHeld => ?_⟩
          simp only [Act.put, List.setIfInBounds_toArray, List.set_cons_zero, List.set_cons_succ]
          refine wpAnyH_ready (rs := [9]) (by kernel_rfl) (by simp) (Hn.call1 (i := 9) rfl (by rfl) 43 (.tmp 26) 51 (by kernel_rfl) 27 (by kernel_rfl) (.agg #[.int .i64 xr, .slice xa xQ.length xc]) (by kernel_rfl) (fun _ => rfl) (Rl.lcopy_any _ _ _ _ _ _ _ ok2_0 (by omega)) ?_ AllReadyH.nil)
          rintro e2 Wc ⟨v2, F2, rfl, hot2, hl2, hb⟩
          obtain ⟨ra2, rg2, rc2, hv2, hr2⟩ := hot2.form (hF2of F2 hl2)
          subst hv2
          have hm2 := OG.room hot2.og
          replace st := st.below hb
          replace kO0 := (hb.block _ (blk_lt kO0)).trans kO0
          replace B2 := Rw.next B2 hb
          have s2 := hb.size
          replace hr1 := hr1.below hb
          replace hbc := Rw.next hbc hb
          clear hb
          refine ⟨_, rfl, st, fun hHeld => ?_⟩
          simp only [Act.put, List.setIfInBounds_toArray, List.set_cons_zero, List.set_cons_succ]
          refine Hn.take (i := 10) (d := some 28) (v := .agg #[.string xs, .int .i64 yr, .slice ra1 F1.length rc1, .int .i64 xr, .slice ra2 F2.length rc2]) rfl (by kernel_rfl) (by kernel_rfl) (by kernel_rfl) (by kernel_rfl) (fun _ _ _ h => h) (Or.inl ⟨by rfl, by intro w hSw; go_simp⟩) hHeld ?_
          simp only [Act.put, List.setIfInBounds_toArray, List.set_cons_zero, List.set_cons_succ]
          refine wpAnyH_ready (rs := [11]) (by kernel_rfl) (by simp) (Hn.readyRun (i := 11) rfl (by kernel_rfl) (some 29) (by kernel_rfl) (v := .slice (some ⟨Wc.heap.size, 0, none⟩) 1 1) (w' := Wc.alloc (.cells #[.string xs, .int .i64 yr, .slice ra1 F1.length rc1, .int .i64 xr, .slice ra2 F2.length rc2] 53)) (exec_oneC rfl (by kernel_rfl)) (st.below (below_alloc1 _ _)) (fun hHeld => ?_) AllReadyH.nil)
          simp only [Act.put, List.setIfInBounds_toArray, List.set_cons_zero, List.set_cons_succ]
          obtain ⟨Wd, hWd⟩ : ∃ Wd, Wd = Wc.alloc (.cells #[.string xs, .int .i64 yr, .slice ra1 F1.length rc1, .int .i64 xr, .slice ra2 F2.length rc2] 53) := ⟨_, rfl⟩
          rw [← hWd] at hHeld ⊢
          have hT : Wd.heap[Wc.heap.size]? = some (.cells #[.string xs, .int .i64 yr, .slice ra1 F1.length rc1, .int .i64 xr, .slice ra2 F2.length rc2] 53 (0, 0)) := by subst hWd; exact at_new rfl
          have hb : Below Wc.heap.size Wc Wd := by subst hWd; exact below_alloc1 _ _
          have s3 := hb.size
          replace st := st.below hb
          replace kO0 := (hb.block _ (blk_lt kO0)).trans kO0
          replace B2 := Rw.next B2 hb
          replace hr1 := hr1.below hb
          replace hr2 := hr2.below hb
          replace hbc := Rw.next hbc hb
          clear hb hWd
          have hnw : New Wd W.heap.size ⟨xs, ⟨yr, ra1, rg1, 0, rc1, F1⟩, ⟨xr, ra2, rg2, 0, rc2, F2⟩⟩ := ⟨⟨rfl, ⟨_, by omega, hr1⟩, hm1⟩, ⟨rfl, ⟨_, by omega, hr2.mono (by omega) (Nat.le_refl _)⟩, hm2⟩, fun r hr q hq h0 h0' => by have u1 := (hr1.each r hr h0).2.2.1; have u2 := (hr2.each q hq h0').2.1; omega, hnm⟩
          obtain ⟨v', Z, hrun, hosZ, hgr⟩ := hos0.app (x := ⟨xs, ⟨yr, ra1, rg1, 0, rc1, F1⟩, ⟨xr, ra2, rg2, 0, rc2, F2⟩⟩) (c := 1) 27 hbc hnw (by omega) hT hFl
          refine wpAnyH_ready (rs := [12]) (by kernel_rfl) (by simp) (Hn.readyRun (i := 12) rfl (by kernel_rfl) (some 30) (by kernel_rfl) (Hn.exec_app (.tmp 19) (.tmp 29) rfl (by kernel_rfl) (by kernel_rfl) hrun) (st.grown hgr) (fun hHeld => ?_) AllReadyH.nil)
          simp only [Act.put, List.setIfInBounds_toArray, List.set_cons_zero, List.set_cons_succ]
          replace st := st.grown hgr
          obtain ⟨va, vn, vc, hv⟩ := hosZ.slice
          subst hv
          have kOZ := (hgr.block _ (blk_lt kO0) (fun e => by have := (hos0.lt e.symm).1; omega)).trans kO0
          replace B2 := B2.grown hgr B2.size (fun k hk => by have := (hos0.lt hk).1; omega)
          have o0 := Pl.one kOZ
          have fO := Vl.free kOZ
          refine Hn.take (i := 13) (d := some 31) (v := .pointer (some ⟨OB, 0, none⟩)) rfl (by kernel_rfl) (by kernel_rfl) (by kernel_rfl) (by kernel_rfl) (fun _ _ _ h => h) (Or.inl ⟨by rfl, by intro w hSw; go_simp⟩) hHeld ?_
          simp only [Act.put, List.setIfInBounds_toArray, List.set_cons_zero, List.set_cons_succ]
          refine wpAnyH_ready (rs := [14]) (by kernel_rfl) (by simp) (Hn.readySkip (i := 14) rfl (by kernel_rfl) none (by kernel_rfl) (w' := Z.setCell ⟨OB, 0, none⟩ (.slice va vn vc)) (by go_simp) st.set (fun hHeld => ?_) AllReadyH.nil)
          simp only [Act.put, List.setIfInBounds_toArray, List.set_cons_zero, List.set_cons_succ]
          refine wpAnyH_done (by kernel_rfl) ?_ _
          have kO' : (Z.setCell ⟨OB, 0, none⟩ (.slice va vn vc)).heap[OB]? = some (.cells #[(.slice va vn vc)] 29 (0, 0)) := one_set kOZ
          have B1' : Below w.heap.size w (Z.setCell ⟨OB, 0, none⟩ (.slice va vn vc)) := Vl.bset B2 hwo
          have hos' : OD (Z.setCell ⟨OB, 0, none⟩ (.slice va vn vc)) B (.slice va vn vc) (F ++ [⟨xs, ⟨yr, ra1, rg1, 0, rc1, F1⟩, ⟨xr, ra2, rg2, 0, rc2, F2⟩⟩]) := hosZ.keep (fun x _ hx => Below.heap_setCell _ _ _ _ (by simp; omega)) (by simp)
          replace st : Rl.Stab W5 (OB) v (Z.setCell ⟨OB, 0, none⟩ (.slice va vn vc)) := st.set
          generalize Z.setCell ⟨OB, 0, none⟩ (.slice va vn vc) = Y9 at *
          go_wp2
          go_roundw
          case rel => exact ⟨k + 1, _, _, by omega, by go_num, kO', hos', by rw [told_app, HT.out, HTn.out]; simp only [Cm.l, Re.l, hl1, hl2], by simp only [List.length_append, List.length_singleton]; omega, Nat.le_trans hBs st.size, B1', (st.block _ (by omega) (by omega) (fun e => by have := (hos0.lt e.symm).1; omega)).trans kR5⟩
          case measure => simp [intOf]; omega
        · rintro e1 Wa ⟨v1, F1, rfl, hot1, hl1, hb⟩
          obtain ⟨ra1, rg1, rc1, hv1, hr1⟩ := hot1.form (hF1of F1 hl1)
          subst hv1
          have hm1 := OG.room hot1.og
          replace st := st.below hb
          replace kO0 := (hb.block _ (blk_lt kO0)).trans kO0
          replace B2 := Rw.next B2 hb
          have s1 := hb.size
          replace ok2_0 := ok2_0.below hb
          have hbc := hb
          clear hb
          refine ⟨_, rfl, st, fun hHeld => ?_⟩
          simp only [Act.put, List.setIfInBounds_toArray, List.set_cons_zero, List.set_cons_succ]
          refine wpAnyH_ready (rs := [1, 9]) (by kernel_rfl) (by simp) (Hn.readyRun (i := 1) rfl (by kernel_rfl) (some 19) (by kernel_rfl) (v := v) (w' := Wa) (by have o0 := Pl.one kO0; go_simp) st (fun hHeld => ?_) (Hn.call1 (i := 9) rfl (by rfl) 43 (.tmp 26) 51 (by kernel_rfl) 27 (by kernel_rfl) (.agg #[.int .i64 xr, .slice xa xQ.length xc]) (by kernel_rfl) (fun _ => rfl) (Rl.lcopy_any _ _ _ _ _ _ _ ok2_0 (by omega)) ?_ AllReadyH.nil))
          · simp only [Act.put, List.setIfInBounds_toArray, List.set_cons_zero, List.set_cons_succ]
            refine wpAnyH_ready (rs := [9]) (by kernel_rfl) (by simp) (Hn.call1 (i := 9) rfl (by rfl) 43 (.tmp 26) 51 (by kernel_rfl) 27 (by kernel_rfl) (.agg #[.int .i64 xr, .slice xa xQ.length xc]) (by kernel_rfl) (fun _ => rfl) (Rl.lcopy_any _ _ _ _ _ _ _ ok2_0 (by omega)) ?_ AllReadyH.nil)
            rintro e2 Wc ⟨v2, F2, rfl, hot2, hl2, hb⟩
            obtain ⟨ra2, rg2, rc2, hv2, hr2⟩ := hot2.form (hF2of F2 hl2)
            subst hv2
            have hm2 := OG.room hot2.og
            replace st := st.below hb
            replace kO0 := (hb.block _ (blk_lt kO0)).trans kO0
            replace B2 := Rw.next B2 hb
            have s2 := hb.size
            replace hr1 := hr1.below hb
            replace hbc := Rw.next hbc hb
            clear hb
            refine ⟨_, rfl, st, fun hHeld => ?_⟩
            simp only [Act.put, List.setIfInBounds_toArray, List.set_cons_zero, List.set_cons_succ]
            refine Hn.take (i := 10) (d := some 28) (v := .agg #[.string xs, .int .i64 yr, .slice ra1 F1.length rc1, .int .i64 xr, .slice ra2 F2.length rc2]) rfl (by kernel_rfl) (by kernel_rfl) (by kernel_rfl) (by kernel_rfl) (fun _ _ _ h => h) (Or.inl ⟨by rfl, by intro w hSw; go_simp⟩) hHeld ?_
            simp only [Act.put, List.setIfInBounds_toArray, List.set_cons_zero, List.set_cons_succ]
            refine wpAnyH_ready (rs := [11]) (by kernel_rfl) (by simp) (Hn.readyRun (i := 11) rfl (by kernel_rfl) (some 29) (by kernel_rfl) (v := .slice (some ⟨Wc.heap.size, 0, none⟩) 1 1) (w' := Wc.alloc (.cells #[.string xs, .int .i64 yr, .slice ra1 F1.length rc1, .int .i64 xr, .slice ra2 F2.length rc2] 53)) (exec_oneC rfl (by kernel_rfl)) (st.below (below_alloc1 _ _)) (fun hHeld => ?_) AllReadyH.nil)
            simp only [Act.put, List.setIfInBounds_toArray, List.set_cons_zero, List.set_cons_succ]
            obtain ⟨Wd, hWd⟩ : ∃ Wd, Wd = Wc.alloc (.cells #[.string xs, .int .i64 yr, .slice ra1 F1.length rc1, .int .i64 xr, .slice ra2 F2.length rc2] 53) := ⟨_, rfl⟩
            rw [← hWd] at hHeld ⊢
            have hT : Wd.heap[Wc.heap.size]? = some (.cells #[.string xs, .int .i64 yr, .slice ra1 F1.length rc1, .int .i64 xr, .slice ra2 F2.length rc2] 53 (0, 0)) := by subst hWd; exact at_new rfl
            have hb : Below Wc.heap.size Wc Wd := by subst hWd; exact below_alloc1 _ _
            have s3 := hb.size
            replace st := st.below hb
            replace kO0 := (hb.block _ (blk_lt kO0)).trans kO0
            replace B2 := Rw.next B2 hb
            replace hr1 := hr1.below hb
            replace hr2 := hr2.below hb
            replace hbc := Rw.next hbc hb
            clear hb hWd
            have hnw : New Wd W.heap.size ⟨xs, ⟨yr, ra1, rg1, 0, rc1, F1⟩, ⟨xr, ra2, rg2, 0, rc2, F2⟩⟩ := ⟨⟨rfl, ⟨_, by omega, hr1⟩, hm1⟩, ⟨rfl, ⟨_, by omega, hr2.mono (by omega) (Nat.le_refl _)⟩, hm2⟩, fun r hr q hq h0 h0' => by have u1 := (hr1.each r hr h0).2.2.1; have u2 := (hr2.each q hq h0').2.1; omega, hnm⟩
            obtain ⟨v', Z, hrun, hosZ, hgr⟩ := hos0.app (x := ⟨xs, ⟨yr, ra1, rg1, 0, rc1, F1⟩, ⟨xr, ra2, rg2, 0, rc2, F2⟩⟩) (c := 1) 27 hbc hnw (by omega) hT hFl
            refine wpAnyH_ready (rs := [12]) (by kernel_rfl) (by simp) (Hn.readyRun (i := 12) rfl (by kernel_rfl) (some 30) (by kernel_rfl) (Hn.exec_app (.tmp 19) (.tmp 29) rfl (by kernel_rfl) (by kernel_rfl) hrun) (st.grown hgr) (fun hHeld => ?_) AllReadyH.nil)
            simp only [Act.put, List.setIfInBounds_toArray, List.set_cons_zero, List.set_cons_succ]
            replace st := st.grown hgr
            obtain ⟨va, vn, vc, hv⟩ := hosZ.slice
            subst hv
            have kOZ := (hgr.block _ (blk_lt kO0) (fun e => by have := (hos0.lt e.symm).1; omega)).trans kO0
            replace B2 := B2.grown hgr B2.size (fun k hk => by have := (hos0.lt hk).1; omega)
            have o0 := Pl.one kOZ
            have fO := Vl.free kOZ
            refine Hn.take (i := 13) (d := some 31) (v := .pointer (some ⟨OB, 0, none⟩)) rfl (by kernel_rfl) (by kernel_rfl) (by kernel_rfl) (by kernel_rfl) (fun _ _ _ h => h) (Or.inl ⟨by rfl, by intro w hSw; go_simp⟩) hHeld ?_
            simp only [Act.put, List.setIfInBounds_toArray, List.set_cons_zero, List.set_cons_succ]
            refine wpAnyH_ready (rs := [14]) (by kernel_rfl) (by simp) (Hn.readySkip (i := 14) rfl (by kernel_rfl) none (by kernel_rfl) (w' := Z.setCell ⟨OB, 0, none⟩ (.slice va vn vc)) (by go_simp) st.set (fun hHeld => ?_) AllReadyH.nil)
            simp only [Act.put, List.setIfInBounds_toArray, List.set_cons_zero, List.set_cons_succ]
            refine wpAnyH_done (by kernel_rfl) ?_ _
            have kO' : (Z.setCell ⟨OB, 0, none⟩ (.slice va vn vc)).heap[OB]? = some (.cells #[(.slice va vn vc)] 29 (0, 0)) := one_set kOZ
            have B1' : Below w.heap.size w (Z.setCell ⟨OB, 0, none⟩ (.slice va vn vc)) := Vl.bset B2 hwo
            have hos' : OD (Z.setCell ⟨OB, 0, none⟩ (.slice va vn vc)) B (.slice va vn vc) (F ++ [⟨xs, ⟨yr, ra1, rg1, 0, rc1, F1⟩, ⟨xr, ra2, rg2, 0, rc2, F2⟩⟩]) := hosZ.keep (fun x _ hx => Below.heap_setCell _ _ _ _ (by simp; omega)) (by simp)
            replace st : Rl.Stab W5 (OB) v (Z.setCell ⟨OB, 0, none⟩ (.slice va vn vc)) := st.set
            generalize Z.setCell ⟨OB, 0, none⟩ (.slice va vn vc) = Y9 at *
            go_wp2
            go_roundw
            case rel => exact ⟨k + 1, _, _, by omega, by go_num, kO', hos', by rw [told_app, HT.out, HTn.out]; simp only [Cm.l, Re.l, hl1, hl2], by simp only [List.length_append, List.length_singleton]; omega, Nat.le_trans hBs st.size, B1', (st.block _ (by omega) (by omega) (fun e => by have := (hos0.lt e.symm).1; omega)).trans kR5⟩
            case measure => simp [intOf]; omega
          · rintro e2 Wc ⟨v2, F2, rfl, hot2, hl2, hb⟩
            obtain ⟨ra2, rg2, rc2, hv2, hr2⟩ := hot2.form (hF2of F2 hl2)
            subst hv2
            have hm2 := OG.room hot2.og
            replace st := st.below hb
            replace kO0 := (hb.block _ (blk_lt kO0)).trans kO0
            replace B2 := Rw.next B2 hb
            have s2 := hb.size
            replace hr1 := hr1.below hb
            replace hbc := Rw.next hbc hb
            clear hb
            refine ⟨_, rfl, st, fun hHeld => ?_⟩
            simp only [Act.put, List.setIfInBounds_toArray, List.set_cons_zero, List.set_cons_succ]
            refine Hn.take (i := 10) (d := some 28) (v := .agg #[.string xs, .int .i64 yr, .slice ra1 F1.length rc1, .int .i64 xr, .slice ra2 F2.length rc2]) rfl (by kernel_rfl) (by kernel_rfl) (by kernel_rfl) (by kernel_rfl) (fun _ _ _ h => h) (Or.inl ⟨by rfl, by intro w hSw; go_simp⟩) hHeld ?_
            simp only [Act.put, List.setIfInBounds_toArray, List.set_cons_zero, List.set_cons_succ]
            refine wpAnyH_ready (rs := [1, 11]) (by kernel_rfl) (by simp) (Hn.readyRun (i := 1) rfl (by kernel_rfl) (some 19) (by kernel_rfl) (v := v) (w' := Wc) (by have o0 := Pl.one kO0; go_simp) st (fun hHeld => ?_) (Hn.readyRun (i := 11) rfl (by kernel_rfl) (some 29) (by kernel_rfl) (v := .slice (some ⟨Wc.heap.size, 0, none⟩) 1 1) (w' := Wc.alloc (.cells #[.string xs, .int .i64 yr, .slice ra1 F1.length rc1, .int .i64 xr, .slice ra2 F2.length rc2] 53)) (exec_oneC rfl (by kernel_rfl)) (st.below (below_alloc1 _ _)) (fun hHeld => ?_) AllReadyH.nil))
            · simp only [Act.put, List.setIfInBounds_toArray, List.set_cons_zero, List.set_cons_succ]
              refine wpAnyH_ready (rs := [11]) (by kernel_rfl) (by simp) (Hn.readyRun (i := 11) rfl (by kernel_rfl) (some 29) (by kernel_rfl) (v := .slice (some ⟨Wc.heap.size, 0, none⟩) 1 1) (w' := Wc.alloc (.cells #[.string xs, .int .i64 yr, .slice ra1 F1.length rc1, .int .i64 xr, .slice ra2 F2.length rc2] 53)) (exec_oneC rfl (by kernel_rfl)) (st.below (below_alloc1 _ _)) (fun hHeld => ?_) AllReadyH.nil)
              simp only [Act.put, List.setIfInBounds_toArray, List.set_cons_zero, List.set_cons_succ]
              obtain ⟨Wd, hWd⟩ : ∃ Wd, Wd = Wc.alloc (.cells #[.string xs, .int .i64 yr, .slice ra1 F1.length rc1, .int .i64 xr, .slice ra2 F2.length rc2] 53) := ⟨_, rfl⟩
              rw [← hWd] at hHeld ⊢
              have hT : Wd.heap[Wc.heap.size]? = some (.cells #[.string xs, .int .i64 yr, .slice ra1 F1.length rc1, .int .i64 xr, .slice ra2 F2.length rc2] 53 (0, 0)) := by subst hWd; exact at_new rfl
              have hb : Below Wc.heap.size Wc Wd := by subst hWd; exact below_alloc1 _ _
              have s3 := hb.size
              replace st := st.below hb
              replace kO0 := (hb.block _ (blk_lt kO0)).trans kO0
              replace B2 := Rw.next B2 hb
              replace hr1 := hr1.below hb
              replace hr2 := hr2.below hb
              replace hbc := Rw.next hbc hb
              clear hb hWd
              have hnw : New Wd W.heap.size ⟨xs, ⟨yr, ra1, rg1, 0, rc1, F1⟩, ⟨xr, ra2, rg2, 0, rc2, F2⟩⟩ := ⟨⟨rfl, ⟨_, by omega, hr1⟩, hm1⟩, ⟨rfl, ⟨_, by omega, hr2.mono (by omega) (Nat.le_refl _)⟩, hm2⟩, fun r hr q hq h0 h0' => by have u1 := (hr1.each r hr h0).2.2.1; have u2 := (hr2.each q hq h0').2.1; omega, hnm⟩
              obtain ⟨v', Z, hrun, hosZ, hgr⟩ := hos0.app (x := ⟨xs, ⟨yr, ra1, rg1, 0, rc1, F1⟩, ⟨xr, ra2, rg2, 0, rc2, F2⟩⟩) (c := 1) 27 hbc hnw (by omega) hT hFl
              refine wpAnyH_ready (rs := [12]) (by kernel_rfl) (by simp) (Hn.readyRun (i := 12) rfl (by kernel_rfl) (some 30) (by kernel_rfl) (Hn.exec_app (.tmp 19) (.tmp 29) rfl (by kernel_rfl) (by kernel_rfl) hrun) (st.grown hgr) (fun hHeld => ?_) AllReadyH.nil)
              simp only [Act.put, List.setIfInBounds_toArray, List.set_cons_zero, List.set_cons_succ]
              replace st := st.grown hgr
              obtain ⟨va, vn, vc, hv⟩ := hosZ.slice
              subst hv
              have kOZ := (hgr.block _ (blk_lt kO0) (fun e => by have := (hos0.lt e.symm).1; omega)).trans kO0
              replace B2 := B2.grown hgr B2.size (fun k hk => by have := (hos0.lt hk).1; omega)
              have o0 := Pl.one kOZ
              have fO := Vl.free kOZ
              refine Hn.take (i := 13) (d := some 31) (v := .pointer (some ⟨OB, 0, none⟩)) rfl (by kernel_rfl) (by kernel_rfl) (by kernel_rfl) (by kernel_rfl) (fun _ _ _ h => h) (Or.inl ⟨by rfl, by intro w hSw; go_simp⟩) hHeld ?_
              simp only [Act.put, List.setIfInBounds_toArray, List.set_cons_zero, List.set_cons_succ]
              refine wpAnyH_ready (rs := [14]) (by kernel_rfl) (by simp) (Hn.readySkip (i := 14) rfl (by kernel_rfl) none (by kernel_rfl) (w' := Z.setCell ⟨OB, 0, none⟩ (.slice va vn vc)) (by go_simp) st.set (fun hHeld => ?_) AllReadyH.nil)
              simp only [Act.put, List.setIfInBounds_toArray, List.set_cons_zero, List.set_cons_succ]
              refine wpAnyH_done (by kernel_rfl) ?_ _
              have kO' : (Z.setCell ⟨OB, 0, none⟩ (.slice va vn vc)).heap[OB]? = some (.cells #[(.slice va vn vc)] 29 (0, 0)) := one_set kOZ
              have B1' : Below w.heap.size w (Z.setCell ⟨OB, 0, none⟩ (.slice va vn vc)) := Vl.bset B2 hwo
              have hos' : OD (Z.setCell ⟨OB, 0, none⟩ (.slice va vn vc)) B (.slice va vn vc) (F ++ [⟨xs, ⟨yr, ra1, rg1, 0, rc1, F1⟩, ⟨xr, ra2, rg2, 0, rc2, F2⟩⟩]) := hosZ.keep (fun x _ hx => Below.heap_setCell _ _ _ _ (by simp; omega)) (by simp)
              replace st : Rl.Stab W5 (OB) v (Z.setCell ⟨OB, 0, none⟩ (.slice va vn vc)) := st.set
              generalize Z.setCell ⟨OB, 0, none⟩ (.slice va vn vc) = Y9 at *
              go_wp2
              go_roundw
              case rel => exact ⟨k + 1, _, _, by omega, by go_num, kO', hos', by rw [told_app, HT.out, HTn.out]; simp only [Cm.l, Re.l, hl1, hl2], by simp only [List.length_append, List.length_singleton]; omega, Nat.le_trans hBs st.size, B1', (st.block _ (by omega) (by omega) (fun e => by have := (hos0.lt e.symm).1; omega)).trans kR5⟩
              case measure => simp [intOf]; omega
            · simp only [Act.put, List.setIfInBounds_toArray, List.set_cons_zero, List.set_cons_succ]
              obtain ⟨Wd, hWd⟩ : ∃ Wd, Wd = Wc.alloc (.cells #[.string xs, .int .i64 yr, .slice ra1 F1.length rc1, .int .i64 xr, .slice ra2 F2.length rc2] 53) := ⟨_, rfl⟩
              rw [← hWd] at hHeld ⊢
              have hT : Wd.heap[Wc.heap.size]? = some (.cells #[.string xs, .int .i64 yr, .slice ra1 F1.length rc1, .int .i64 xr, .slice ra2 F2.length rc2] 53 (0, 0)) := by subst hWd; exact at_new rfl
              have hb : Below Wc.heap.size Wc Wd := by subst hWd; exact below_alloc1 _ _
              have s3 := hb.size
              replace st := st.below hb
              replace kO0 := (hb.block _ (blk_lt kO0)).trans kO0
              replace B2 := Rw.next B2 hb
              replace hr1 := hr1.below hb
              replace hr2 := hr2.below hb
              replace hbc := Rw.next hbc hb
              clear hb hWd
              refine wpAnyH_ready (rs := [1]) (by kernel_rfl) (by simp) (Hn.readyRun (i := 1) rfl (by kernel_rfl) (some 19) (by kernel_rfl) (v := v) (w' := Wd) (by have o0 := Pl.one kO0; go_simp) st (fun hHeld => ?_) AllReadyH.nil)
              simp only [Act.put, List.setIfInBounds_toArray, List.set_cons_zero, List.set_cons_succ]
              have hnw : New Wd W.heap.size ⟨xs, ⟨yr, ra1, rg1, 0, rc1, F1⟩, ⟨xr, ra2, rg2, 0, rc2, F2⟩⟩ := ⟨⟨rfl, ⟨_, by omega, hr1⟩, hm1⟩, ⟨rfl, ⟨_, by omega, hr2.mono (by omega) (Nat.le_refl _)⟩, hm2⟩, fun r hr q hq h0 h0' => by have u1 := (hr1.each r hr h0).2.2.1; have u2 := (hr2.each q hq h0').2.1; omega, hnm⟩
              obtain ⟨v', Z, hrun, hosZ, hgr⟩ := hos0.app (x := ⟨xs, ⟨yr, ra1, rg1, 0, rc1, F1⟩, ⟨xr, ra2, rg2, 0, rc2, F2⟩⟩) (c := 1) 27 hbc hnw (by omega) hT hFl
              refine wpAnyH_ready (rs := [12]) (by kernel_rfl) (by simp) (Hn.readyRun (i := 12) rfl (by kernel_rfl) (some 30) (by kernel_rfl) (Hn.exec_app (.tmp 19) (.tmp 29) rfl (by kernel_rfl) (by kernel_rfl) hrun) (st.grown hgr) (fun hHeld => ?_) AllReadyH.nil)
              simp only [Act.put, List.setIfInBounds_toArray, List.set_cons_zero, List.set_cons_succ]
              replace st := st.grown hgr
              obtain ⟨va, vn, vc, hv⟩ := hosZ.slice
              subst hv
              have kOZ := (hgr.block _ (blk_lt kO0) (fun e => by have := (hos0.lt e.symm).1; omega)).trans kO0
              replace B2 := B2.grown hgr B2.size (fun k hk => by have := (hos0.lt hk).1; omega)
              have o0 := Pl.one kOZ
              have fO := Vl.free kOZ
              refine Hn.take (i := 13) (d := some 31) (v := .pointer (some ⟨OB, 0, none⟩)) rfl (by kernel_rfl) (by kernel_rfl) (by kernel_rfl) (by kernel_rfl) (fun _ _ _ h => h) (Or.inl ⟨by rfl, by intro w hSw; go_simp⟩) hHeld ?_
              simp only [Act.put, List.setIfInBounds_toArray, List.set_cons_zero, List.set_cons_succ]
              refine wpAnyH_ready (rs := [14]) (by kernel_rfl) (by simp) (Hn.readySkip (i := 14) rfl (by kernel_rfl) none (by kernel_rfl) (w' := Z.setCell ⟨OB, 0, none⟩ (.slice va vn vc)) (by go_simp) st.set (fun hHeld => ?_) AllReadyH.nil)
              simp only [Act.put, List.setIfInBounds_toArray, List.set_cons_zero, List.set_cons_succ]
              refine wpAnyH_done (by kernel_rfl) ?_ _
              have kO' : (Z.setCell ⟨OB, 0, none⟩ (.slice va vn vc)).heap[OB]? = some (.cells #[(.slice va vn vc)] 29 (0, 0)) := one_set kOZ
              have B1' : Below w.heap.size w (Z.setCell ⟨OB, 0, none⟩ (.slice va vn vc)) := Vl.bset B2 hwo
              have hos' : OD (Z.setCell ⟨OB, 0, none⟩ (.slice va vn vc)) B (.slice va vn vc) (F ++ [⟨xs, ⟨yr, ra1, rg1, 0, rc1, F1⟩, ⟨xr, ra2, rg2, 0, rc2, F2⟩⟩]) := hosZ.keep (fun x _ hx => Below.heap_setCell _ _ _ _ (by simp; omega)) (by simp)
              replace st : Rl.Stab W5 (OB) v (Z.setCell ⟨OB, 0, none⟩ (.slice va vn vc)) := st.set
              generalize Z.setCell ⟨OB, 0, none⟩ (.slice va vn vc) = Y9 at *
              go_wp2
              go_roundw
              case rel => exact ⟨k + 1, _, _, by omega, by go_num, kO', hos', by rw [told_app, HT.out, HTn.out]; simp only [Cm.l, Re.l, hl1, hl2], by simp only [List.length_append, List.length_singleton]; omega, Nat.le_trans hBs st.size, B1', (st.block _ (by omega) (by omega) (fun e => by have := (hos0.lt e.symm).1; omega)).trans kR5⟩
              case measure => simp [intOf]; omega
      · have he : k = n := by omega
        subst he
        have o0 := Pl.one kOr
        have r0 := Pl.one kRr
        have fR := Vl.free kRr
        obtain ⟨va, vn, vc, hv⟩ := hosr.slice
        subst hv
        clear hh hc ho hst hCh HTn0
        go_wp2
        refine bodyPost_ret (v := .agg #[.slice va vn vc]) (by simp [results, Try.results19, go_sem, r0]) rfl ⟨_, F, rfl, (hosr.keep (fun x _ hx => Below.heap_setCell _ _ _ _ (by simp; omega)) (by simp)).mono (by omega), by rw [HT.out, HTl.out, HM.out], Vl.bset B1r (by simp)⟩


end Go.Proofs.Ytkpchlojapkimaa.Ch
