/-
  The specification's DeltaFits.
-/
import Derived.Test.YtkpchlojapkimaaGreatFb
import Derived.Test.YtkpchlojapkimaaGreatEf
namespace Go.Proofs.YtkpchlojapkimaaGreat.Ch
set_option maxRecDepth 8000
set_option linter.unusedSimpArgs false
set_option linter.unusedVariables false
open Go Go.ChangeShapes Go.WideShapes Go.RowKit
open Num Word Pl Rp
open Rl (Rm rm0 said twoB MA ResC OT)
open St (Nm nm0 NL storeB)

theorem none_both (R S : List RowL) : decide ((R.filter fun z => decide (z ∈ S)).length = 0) = decide ((S.filter fun z => decide (z ∈ R)).length = 0) := by
  have key : ∀ (A B : List RowL), (A.filter fun z => decide (z ∈ B)).length = 0 → (B.filter fun z => decide (z ∈ A)).length = 0 := fun A B h => by
    rw [List.length_eq_zero_iff] at h ⊢
    rw [List.filter_eq_nil_iff] at h ⊢
    intro z hz e
    exact h z (of_decide_eq_true e) (decide_eq_true hz)
  by_cases h : (R.filter fun z => decide (z ∈ S)).length = 0
  · rw [decide_eq_true h, decide_eq_true (key _ _ h)]
  · rw [decide_eq_false h, decide_eq_false (fun h' => h (key _ _ h'))]
theorem filter_not (R S : List RowL) : (R.filter fun z => decide (z ∉ S)) = R.filter fun z => decide (z ∈ S) == false := by
  congr 1; funext z; by_cases h : z ∈ S <;> simp [h]
/-- What the specification asks of a change and the relation of its name. -/
theorem spec_fit {x : CL} {r : QL} (h : changeB x = true) (hr : RelP r.1 r.2) : fitR x r = (decide (r.1 = x.2.1.1) && decide ((r.2.filter fun z => decide (z ∈ x.2.1.2)).length = 0) && decide ((x.2.2.2.filter fun z => decide (z ∈ r.2) == false).length = 0)) := by
  obtain ⟨h1, h2, h3⟩ := change_parts h
  unfold fitR inB apartB twoB
  have e1 : relB x.2.1.1 x.2.1.2 = true := relB_of h1
  have e2 : relB x.2.2.1 x.2.2.2 = true := by rw [← h3]; exact relB_of h2
  have e3 : relB r.1 r.2 = true := relB_of hr
  rw [e1, e2, e3, none_both x.2.1.2, filter_not, ← h3]
  by_cases e : x.2.1.1 = r.1
  · rw [decide_eq_true e, decide_eq_true e.symm]
    simp [Bool.and_comm]
  · have e' : ¬ r.1 = x.2.1.1 := fun q => e q.symm
    rw [decide_eq_false e, decide_eq_false e']
    simp

set_option maxHeartbeats 4000000 in
theorem fitsS_any (a : Option Addr) (b off cap : Nat) (S : List Nm) (a' : Option Addr) (b' off' cap' : Nat) (T : List Cm) (w : World) (h : St.Rd w a b off S) (h' : Rd w a' b' off' T) :
    Calls Tryz.prog 19 #[.agg #[.slice a S.length cap], .agg #[.slice a' T.length cap']] w fun e w' => e = .returned (.bool (fitsB (St.told S) (told T))) ∧ Below w.heap.size w w' := by
  obtain ⟨W1, hW1⟩ : ∃ W1, W1 = (w.alloc (.cells #[.slice a S.length cap] 25)).alloc (.cells #[.slice a' T.length cap'] 30) := ⟨_, rfl⟩
  have B1 : Below w.heap.size w W1 := by subst hW1; exact below_alloc2 _ _ _
  have k0 : W1.heap[w.heap.size]? = some (.cells #[.slice a S.length cap] 25 (0, 0)) := by subst hW1; rw [at_old (by simp), at_new rfl]
  have k1 : W1.heap[w.heap.size + 1]? = some (.cells #[.slice a' T.length cap'] 30 (0, 0)) := by subst hW1; exact at_new (by simp)
  have p1 := one k1
  replace h := h.below B1
  replace h' := h'.below B1
  have hO := St.okS_any a b off cap S W1 h
  have hP := fun W hh => okS_any a' b' off' cap' T W hh
  unfold fitsB
  cases hB : storeB (St.told S) with
  | false =>
    rw [hB] at hO
    go_enter Tryz.func19, Tryz.ntmps19
    go_wp2_with (go_at_call 34; rw [← hW1]; clear hW1; refine hO.mono ?_; rintro e w1 ⟨rfl, hb⟩)
    go_ret
    exact ⟨ret_bool (by simp), Rw.next B1 hb⟩
  | true =>
    rw [hB] at hO
    cases hD : deltaB (told T) with
    | false =>
      rw [hD] at hP
      go_enter Tryz.func19, Tryz.ntmps19
      go_wp2_with (first
        | (go_at_call 34; rw [← hW1]; clear hW1; refine hO.mono ?_; rintro e w1 ⟨rfl, hb⟩; replace B1 := Rw.next B1 hb; replace k1 := (hb.block _ (blk_lt k1)).trans k1; replace h' := h'.below hb; clear hb p1; have p1 := one k1)
        | (go_at_call 58; refine (hP _ h').mono ?_; rintro e w2 ⟨rfl, hb⟩))
      go_ret
      exact ⟨ret_bool (by simp), Rw.next B1 hb⟩
    | true =>
      rw [hD] at hP
      obtain ⟨R, hR⟩ : ∃ R, R = (told T).all (fitB (St.told S)) := ⟨_, rfl⟩
      have HB : Hid (∀ k, k < T.length → fitB (St.told S) (T.getD k cm0).l = false → R = false) := fun k hk h => by rw [hR]; exact allF_bad hk h
      have HG : Hid ((∀ i, i < T.length → fitB (St.told S) (T.getD i cm0).l = true) → R = true) := fun h => by rw [hR]; exact allF_at h
      have HD0 := Mp.store_apart hB
      have hCh := (delta_parts hD).2
      have HFy : Hid (∀ k, k < T.length → ∀ y ∈ S, y.s = (T.getD k cm0).s → fitB (St.told S) (T.getD k cm0).l = (decide (y.ar = (T.getD k cm0).p.ar) && decide (((said y.Q).filter fun z => decide (z ∈ said (T.getD k cm0).p.Q)).length = 0) && decide (((said (T.getD k cm0).m.Q).filter fun z => decide (z ∈ said y.Q) == false).length = 0))) := fun k hk y hy e => by
        have q : fitB (St.told S) (T.getD k cm0).l = fitR (T.getD k cm0).l y.l.2 := by
          show (match (St.told S).find? (fun z => decide (z.1 = (T.getD k cm0).s)) with
            | none => false
            | some y => fitR (T.getD k cm0).l y.2) = _
          rw [find_yes HD0 hy e]
        rw [q, spec_fit (hCh k hk) (Mp.store_one hB (Mp.mem_told hy)).2]
        rfl
      have HFn : Hid (∀ k, k < T.length → (∀ y ∈ S, y.s ≠ (T.getD k cm0).s) → fitB (St.told S) (T.getD k cm0).l = false) := fun k hk hn => by
        show (match (St.told S).find? (fun z => decide (z.1 = (T.getD k cm0).s)) with
            | none => false
            | some y => fitR (T.getD k cm0).l y.2) = _
        rw [find_no hn]
      have HF4 : Hid (∀ y ∈ S, y.Q.length ≤ 100000) := fun y hy => Mp.few_at hB hy
      have HM4 : Hid (∀ k, k < T.length → (T.getD k cm0).m.Q.length ≤ 100000) := fun k hk => by have := (change_few (hCh k hk)).2; omega
      have hfr := field_rows
      rw [← hR]
      clear hR HD0 hCh hB hD
      obtain ⟨n, hn⟩ : ∃ n, n = T.length := ⟨_, rfl⟩
      rw [← hn] at HB HG HFy HFn HM4 k1 hW1 p1 hP ⊢
      have HN : Hid (n = T.length) := hn
      clear hn
      go_enter Tryz.func19, Tryz.ntmps19
      go_wp2_with (first
        | (go_at_call 34; rw [← hW1]; clear hW1; refine hO.mono ?_; rintro e w1 ⟨rfl, hb⟩; replace B1 := Rw.next B1 hb; replace k0 := (hb.block _ (blk_lt k0)).trans k0; replace k1 := (hb.block _ (blk_lt k1)).trans k1; replace h := h.below hb; replace h' := h'.below hb; clear hb p1; have p1 := one k1)
        | (go_at_call 58; clear p1; refine (hP _ h').mono ?_; rintro e w2 ⟨rfl, hb⟩; replace B1 := Rw.next B1 hb; replace k0 := (hb.block _ (blk_lt k0)).trans k0; replace k1 := (hb.block _ (blk_lt k1)).trans k1; replace h := h.below hb; replace h' := h'.below hb; clear hb; have p1 := one k1))
      obtain ⟨hh, hc, ho, hs, hst⟩ := h'
      rw [← HN.out] at hh hc ho hs hst
      clear p1 k1
      go_loopw [20] (fun i wr => ∃ k : Nat, k ≤ n ∧ i = .int .i64 k ∧ Below w2.heap.size w2 wr ∧ ∀ i, i < k → fitB (St.told S) (T.getD i cm0).l = true) (fun i _ => n - (intOf i).toNat)
      case atStart => exact ⟨0, Nat.zero_le _, rfl, Below.refl _ _, fun i hi => by omega⟩
      case round =>
        obtain ⟨k, hk, rfl, hbel, hpre⟩ := hrel
        have HP : Hid (∀ i, i < k → fitB (St.told S) (T.getD i cm0).l = true) := hpre
        clear hpre
        by_cases hlt : k < n
        · obtain rfl := hh (by omega)
          have hkz : (k : Int) < (n : Int) := by omega
          obtain ⟨A0, A1, A2, A3, A4⟩ := At5.of (hc k hlt) hbel (hc k hlt).lt
          have o1 := Rl.Rd.below (ho k hlt).1 hbel
          have o2 := Rl.Rd.below (ho k hlt).2 hbel
          have HB1 : Hid (fitB (St.told S) (T.getD k cm0).l = false → R = false) := HB.out k hlt
          have HX : Hid (fitB (St.told S) (T.getD k cm0).l = true → ∀ i, i < k + 1 → fitB (St.told S) (T.getD i cm0).l = true) := fun h i hi => by
            by_cases e : i = k
            · subst e; exact h
            · exact HP.out i (by omega)
          have HY := HFy.out k hlt
          have HZ := HFn.out k hlt
          have hm4 := HM4.out k hlt
          clear hc ho hh HB hst HP HFy HFn HM4
          generalize fitB (St.told S) (T.getD k cm0).l = V at HB1 HX HY HZ
          generalize T.getD k cm0 = x at A0 A1 A2 A3 A4 o1 o2 HY HZ hm4
          obtain ⟨xs, ⟨xr, xa, xb, xo, xc, xQ⟩, ⟨mr, ma, mb, mo, mc, mQ⟩⟩ := x
          simp only at A0 A1 A2 A3 A4 o1 o2 HY HZ hm4
          have HYy : Hid (∀ y ∈ S, y.s = xs → V = (decide (y.ar = xr) && decide (((said y.Q).filter fun z => decide (z ∈ said xQ)).length = 0) && decide (((said mQ).filter fun z => decide (z ∈ said y.Q) == false).length = 0))) := HY
          have HZn : Hid ((∀ y ∈ S, y.s ≠ xs) → V = false) := HZ
          clear HY HZ
          have hr := h.below hbel
          replace k0 := (hbel.block _ (blk_lt k0)).trans k0
          obtain ⟨W5, hW5⟩ : ∃ W5, W5 = wr.alloc (.cells #[.string xs, .int .i64 xr, .slice xa xQ.length xc, .int .i64 mr, .slice ma mQ.length mc] 71) := ⟨_, rfl⟩
          have b5 : Below wr.heap.size wr W5 := by subst hW5; exact below_alloc1 _ _
          have kg : W5.heap[wr.heap.size]? = some (.cells #[.string xs, .int .i64 xr, .slice xa xQ.length xc, .int .i64 mr, .slice ma mQ.length mc] 71 (0, 0)) := by subst hW5; exact at_new rfl
          have p0 := one k0
          have l0 := blk_lt k0
          go_wp2_with (go_at_call 59; rw [← hW5]; clear hW5; refine (Mp.l12Rel_any _ _ _ _ _ _ _ (hr.below b5)).mono ?_)
          rintro e w3 ⟨hb, ⟨y, hy, he, rfl⟩ | ⟨hno, rfl⟩⟩
          · have E := HYy.out y hy he
            have oy : Rl.Rd w3 y.a y.b y.o y.Q := Rl.Rd.below (Mp.rd_ok hr y hy) (Rw.next b5 hb)
            have hy4 := HF4.out y hy
            clear HYy HZn
            replace kg := (hb.block _ (blk_lt kg)).trans kg
            replace o1 := o1.below (Rw.next b5 hb)
            replace o2 := o2.below (Rw.next b5 hb)
            have hb3 := Rw.next hbel (Rw.next b5 hb)
            clear hb b5 p0 l0 A0 A1 A2 A3 A4 hr k0
            obtain ⟨ys, yr, ya, yb, yo, yc, yQ⟩ := y
            simp only at E oy hy4 he
            clear he hy
            obtain ⟨g0, g1, g2, g3, g4⟩ := five kg
            have lg := blk_lt kg
            obtain ⟨W6, hW6⟩ : ∃ W6, W6 = w3.alloc (.cells #[.int .i64 yr, .slice ya yQ.length yc] 67) := ⟨_, rfl⟩
            have b6 : Below w3.heap.size w3 W6 := by subst hW6; exact below_alloc1 _ _
            have kr : W6.heap[w3.heap.size]? = some (.cells #[.int .i64 yr, .slice ya yQ.length yc] 67 (0, 0)) := by subst hW6; exact at_new rfl
            replace kg := (b6.block _ (blk_lt kg)).trans kg
            replace oy := oy.below b6
            replace o1 := o1.below b6
            replace o2 := o2.below b6
            replace hb3 := Rw.next hb3 b6
            have hAp := fun W k k' => apartS_any yr xr ya xa yb yo yc xb xo xc yQ xQ W k k' hy4
            have hSf := fun W k k' => Rl.sift_any mr yr ma ya mb mo mc yb yo yc mQ yQ false W k k' hm4
            have hfl : (((said mQ).filter fun z => decide (z ∈ said yQ) == false)).length ≤ 100000 := Nat.le_trans (List.length_filter_le _ _) (by rw [Rl.said_len]; exact hm4)
            generalize ((said mQ).filter fun z => decide (z ∈ said yQ) == false) = X at hSf hfl E
            generalize decide (((said yQ).filter fun z => decide (z ∈ said xQ)).length = 0) = V2 at hAp E
            have HE : Hid (V = (decide (yr = xr) && V2 && decide (X.length = 0))) := E
            have HFl : Hid (X.length ≤ 100000) := hfl
            clear E hfl
            by_cases er : yr = xr
            · subst er
              have hq : (yr != yr) = false := by simp
              cases V2 with
              | false =>
                go_wp2_with (go_at_call 60; rw [← hW6]; clear hW6; refine (hAp _ oy o1).mono ?_; rintro e w7 ⟨rfl, hb⟩)
                go_ret
                exact ⟨ret_bool (HB1.out (by rw [HE.out]; simp)).symm, Rw.next (Rw.next B1 hb3) hb⟩
              | true =>
                by_cases hz : X.length = 0
                · have HZ : Hid (X.length = 0) := hz
                  clear hz
                  go_wp2_with (first
                    | (go_at_call 60; rw [← hW6]; clear hW6; refine (hAp _ oy o1).mono ?_; rintro e w7 ⟨rfl, hb⟩; replace kg := (hb.block _ (blk_lt kg)).trans kg; replace kr := (hb.block _ (blk_lt kr)).trans kr; replace oy := oy.below hb; replace o2 := o2.below hb; replace hb3 := Rw.next hb3 hb; clear hb g0 g1 g2 g3 g4; obtain ⟨g0, g1, g2, g3, g4⟩ := five kg; obtain ⟨y0, y1⟩ := two kr)
                    | (go_at_call 40; refine (hSf _ o2 oy).mono ?_; rintro e w8 ⟨v, F, rfl, hot, sF, hb⟩; obtain ⟨ua, ug, uc, hv, _⟩ := hot.form (by have := HFl.out; rw [← sF, Rl.said_len] at this; omega); subst hv; have hn : F.length = 0 := (by rw [← Rl.said_len, sF]; exact HZ.out); rw [hn]; clear hn hot sF))
                  go_roundw
                  case rel => exact ⟨k + 1, by omega, by go_num, Rw.next hb3 hb, HX.out (by rw [HE.out, HZ.out]; simp)⟩
                  case measure => simp [intOf]; omega
                · have HZ : Hid (X.length ≠ 0) := hz
                  clear hz
                  go_wp2_with (first
                    | (go_at_call 60; rw [← hW6]; clear hW6; refine (hAp _ oy o1).mono ?_; rintro e w7 ⟨rfl, hb⟩; replace kg := (hb.block _ (blk_lt kg)).trans kg; replace kr := (hb.block _ (blk_lt kr)).trans kr; replace oy := oy.below hb; replace o2 := o2.below hb; replace hb3 := Rw.next hb3 hb; clear hb g0 g1 g2 g3 g4; obtain ⟨g0, g1, g2, g3, g4⟩ := five kg; obtain ⟨y0, y1⟩ := two kr)
                    | (go_at_call 40; refine (hSf _ o2 oy).mono ?_; rintro e w8 ⟨v, F, rfl, hot, sF, hb⟩; obtain ⟨ua, ug, uc, hv, _⟩ := hot.form (by have := HFl.out; rw [← sF, Rl.said_len] at this; omega); subst hv; have hn : F.length ≠ 0 := (by rw [← Rl.said_len, sF]; exact HZ.out); generalize F.length = fl at hn ⊢; have hz : (0 : Int) < (fl : Int) := (by omega); clear hn hot sF))
                  go_ret
                  exact ⟨ret_bool (HB1.out (by rw [HE.out, decide_eq_false HZ.out]; simp)).symm, Rw.next (Rw.next B1 hb3) hb⟩
            · have hq : (yr != xr) = true := by simp [er]
              have HEf : Hid (V = false) := by rw [Hid, HE.out, decide_eq_false er]; simp
              clear er
              go_wp2
              go_ret
              exact ⟨ret_bool (HB1.out HEf.out).symm, by rw [← hW6]; exact Rw.next B1 hb3⟩
          · have E := HZn.out hno
            have hb3 := Rw.next hbel (Rw.next b5 hb)
            go_wp2
            go_ret
            exact ⟨ret_bool (HB1.out E).symm, Rw.next (Rw.next B1 hb3) (below_alloc1 _ _)⟩
        · have he : k = n := by omega
          subst he
          go_wp2
          go_ret
          exact ⟨ret_bool (by rw [HG.out HP.out]; rfl), Rw.next B1 hbel⟩

end Go.Proofs.YtkpchlojapkimaaGreat.Ch
