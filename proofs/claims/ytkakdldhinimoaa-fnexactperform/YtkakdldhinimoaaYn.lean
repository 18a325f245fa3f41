/-
  The specification's Perform, walked.
-/
import Derived.Test.YtkakdldhinimoaaYm
namespace Go.Proofs.Ytkakdldhinimoaa.Yn
set_option maxRecDepth 8000
set_option linter.unusedSimpArgs false
set_option linter.unusedVariables false
open Go Go.RowKit
open Num Pl Hr Hh Pq Ht Yh Yj Yk Yl Ym Yb Yc Yd

theorem own7 {w : World} {o : Obj} {g : Nat} {l : List Int} (h : Own w g l) : Own (w.alloc o) g l := h.below (below_alloc1 _ _)

set_option maxHeartbeats 4000000 in
theorem perfS_no (ha : Option Addr) (hb ho hc : Nat) (h : List Int) (pa : Option Addr) (pb po pc : Nat) (ports : List Int) (a : Option Addr) (b off cap : Nat) (l : List A3) (w : World)
    (hh : Rd w ha hb ho h) (hp : Rd w pa pb po ports) (hl : Yb.Rd w a b off l) (hno : (actsB l && Hg.headB h && Ya.portsB ports) = false) :
    Calls Try.prog 26 #[.agg #[.slice ha h.length hc], .slice pa ports.length pc, .slice a l.length cap] w (ResP w false []) := by
  obtain ⟨W0, hW0⟩ : ∃ W0, W0 = w.alloc (.cells #[.slice ha h.length hc] 42) := ⟨_, rfl⟩
  have B0 : Below w.heap.size w W0 := by subst hW0; exact below_alloc1 _ _
  replace hh := hh.below B0
  replace hp := hp.below B0
  replace hl := hl.below B0
  cases h2 : Hg.headB h
  · go_enter Try.func26, Try.ntmps26
    go_wp2_with (go_at_call 65; rw [← hW0]; refine (Hg.specOk_any _ _ _ _ _ _ hh).mono ?_; rw [h2]; rintro e w2 ⟨rfl, hb2⟩)
    exact bodyPost_ret (v := .tuple #[.slice none 0 0, .bool false]) (by simp [results, Try.results26, go_sem]) rfl (res_no (Rw.next B0 hb2))
  · cases h3 : Ya.portsB ports
    · go_enter Try.func26, Try.ntmps26
      go_wp2_with (first | (go_at_call 65; rw [← hW0]; refine (Hg.specOk_any _ _ _ _ _ _ hh).mono ?_; rw [h2]; rintro e w2 ⟨rfl, hb2⟩; replace hp := hp.below hb2) | (go_at_call 12; refine (Ya.portsS _ _ _ _ _ _ hp).mono ?_; rw [h3]; rintro e w3 ⟨rfl, hw⟩; replace hw := hw.symm; subst hw))
      exact bodyPost_ret (v := .tuple #[.slice none 0 0, .bool false]) (by simp [results, Try.results26, go_sem]) rfl (res_no (Rw.next B0 hb2))
    · have h1 : actsB l = false := by rw [h2, h3] at hno; simpa using hno
      go_enter Try.func26, Try.ntmps26
      go_wp2_with (first | (go_at_call 65; rw [← hW0]; refine (Hg.specOk_any _ _ _ _ _ _ hh).mono ?_; rw [h2]; rintro e w2 ⟨rfl, hb2⟩; replace hp := hp.below hb2; replace hl := hl.below hb2) | (go_at_call 12; refine (Ya.portsS _ _ _ _ _ _ hp).mono ?_; rw [h3]; rintro e w3 ⟨rfl, hw⟩; replace hw := hw.symm; subst hw) | (go_at_call 17; refine (Ye.actsS _ _ _ _ _ _ hl).mono ?_; rw [h1]; rintro e w4 ⟨rfl, hb4⟩))
      exact bodyPost_ret (v := .tuple #[.slice none 0 0, .bool false]) (by simp [results, Try.results26, go_sem]) rfl (res_no (Rw.next (Rw.next B0 hb2) hb4))

set_option maxHeartbeats 8000000 in
theorem perfS_yes (ha : Option Addr) (hb ho hc : Nat) (h : List Int) (pa : Option Addr) (pb po pc : Nat) (ports : List Int) (a : Option Addr) (b off cap : Nat) (l : List A3) (w : World)
    (hh : Rd w ha hb ho h) (hp : Rd w pa pb po ports) (hl : Yb.Rd w a b off l) (h1 : actsB l = true) (h2 : Hg.headB h = true) (h3 : Ya.portsB ports = true) :
    Calls Try.prog 26 #[.agg #[.slice ha h.length hc], .slice pa ports.length pc, .slice a l.length cap] w (ResP w true (sentK (h.getD 0 0) ports l h l.length)) := by
  have h8 := head_len h2
  obtain ⟨rfl, hin0⟩ := Hg.at_rd hh (k := 0) (by omega)
  obtain ⟨hin, ehin⟩ : ∃ hin, hin = h.getD 0 0 := ⟨_, rfl⟩
  rw [← ehin] at hin0 ⊢
  clear ehin
  rw [Nat.add_zero] at hin0
  have hp8 : ports.length ≤ 8 := (of_decide_eq_true h3).1
  obtain ⟨hl12, hpre⟩ := actsB_out h1
  obtain ⟨W0, hW0⟩ : ∃ W0, W0 = w.alloc (.cells #[.slice (some ⟨hb, ho, none⟩) 8 hc] 42) := ⟨_, rfl⟩
  have B0 : Below w.heap.size w W0 := by subst hW0; exact below_alloc1 _ _
  have k0 : W0.heap[w.heap.size]? = some (.cells #[.slice (some ⟨hb, ho, none⟩) 8 hc] 42 (0, 0)) := by subst hW0; exact at_new rfl
  have z0 : w.heap.size < W0.heap.size := by subst hW0; simp
  replace hh := hh.below B0
  replace hp := hp.below B0
  replace hl := hl.below B0
  have hOk := fun w1 (q : Rd w1 (some ⟨hb, ho, none⟩) hb ho h) => Hg.specOk_any _ _ _ hc _ _ q
  rw [h8] at hOk
  have HOK := hid hOk
  clear hOk
  rw [h8]
  obtain ⟨n, hn⟩ : ∃ n, n = l.length := ⟨_, rfl⟩
  have hACT := fun w1 (q : Yb.Rd w1 a b off l) => Ye.actsS a b off cap l w1 q
  rw [← hn] at hACT hl12 hpre ⊢
  have HACT := hid hACT
  have HN : Hid (n = l.length) := hn
  have HPRE : Hid (pre l n) := hpre
  have H3 : Hid (Ya.portsB ports = true) := h3
  clear hpre hn hACT
  go_enter Try.func26, Try.ntmps26
  go_wp2_with (first | (go_at_call 65; rw [← hW0]; refine (HOK.out _ hh).mono ?_; rw [h2]; rintro e w2 ⟨rfl, hb2⟩; clear HOK; replace hh := hh.below hb2; replace hp := hp.below hb2; replace hl := hl.below hb2; replace k0 := (hb2.block _ z0).trans k0; replace z0 := Nat.lt_of_lt_of_le z0 hb2.size; replace B0 := Rw.next B0 hb2; clear hb2) | (go_at_call 12; refine (Ya.portsS _ _ _ _ _ _ hp).mono ?_; rw [H3.out]; rintro e w3 ⟨rfl, hw⟩; replace hw := hw.symm; subst hw) | (go_at_call 17; refine (HACT.out _ hl).mono ?_; rw [h1]; rintro e W1 ⟨rfl, hb4⟩; clear HACT; replace hh := hh.below hb4; replace hp := hp.below hb4; replace hl := hl.below hb4; replace k0 := (hb4.block _ z0).trans k0; replace z0 := Nat.lt_of_lt_of_le z0 hb4.size; replace B0 := Rw.next B0 hb4; clear hb4; have c0 := Hh.one k0; have b1 : Below W1.heap.size W1 ((W1.alloc (.cells #[] 56)).alloc (.cells #[] 3)) := Rw.next (below_alloc1 _ _) (below_alloc1 _ _); have O1 : HasN ((W1.alloc (.cells #[] 56)).alloc (.cells #[] 3)) (W1.heap.size + 1) (.slice (some ⟨W1.heap.size + 1, 0, none⟩) 0 0) [] := (by simpa using own_emptyN (W1.alloc (.cells #[] 56))); have rh1 := hh.below b1) | (at_builtin; refine wpList_appN rfl (.tmp 28) (.tmp 30) rfl (W1.heap.size + 1) (.slice (some ⟨W1.heap.size + 1, 0, none⟩) 0 0) [] h rfl O1 ⟨hb, ho, none⟩ hb ho hc (by rw [h8]; rfl) rh1 (by simp only [List.length_nil, h8]; omega) (by simp <;> omega) ?_; intro v2 W2 hown2 hg2; obtain ⟨gN, cN, rfl, hgl, hoN, hcN⟩ := own_has hown2 (by simp only [List.nil_append, h8]; omega); simp only [List.nil_append, h8] at hoN hcN ⊢))
  have b2 : Below W1.heap.size W1 W2 := below_own O1 b1 (by omega) hg2
  have kS : W2.heap[W1.heap.size]? = some (.cells #[] 56 (0, 0)) := (hg2.block _ (by simp <;> omega) (by simp [Value.ownBlock])).trans (by rw [at_old (by simp), at_new rfl])
  clear c0 O1 rh1 b1 hown2 hg2
  have sp0 : Sp W2 W1.heap.size (.slice (some ⟨W1.heap.size, 0, none⟩) 0 0) [] gN h := by
    refine ⟨⟨⟨rfl, .inr ⟨W1.heap.size, 0, #[], rfl, Nat.le_refl _, kS, Nat.le_refl _, Nat.zero_le _, rfl, rfl⟩⟩, fun _ q => (by cases q), List.Pairwise.nil⟩, hoN, h8, by omega, fun _ q => (by cases q)⟩
  clear kS hoN
  obtain ⟨m, hm⟩ : ∃ m, m = ports.length := ⟨_, rfl⟩
  have HM : Hid (m = ports.length) := hm
  have hm8 : m ≤ 8 := by omega
  have hin1 : W1.cell? ⟨hb, ho, none⟩ = some (.int .i64 hin) := (B0.cell (World.block_lt_of_cell? _ _ hin0)).trans hin0
  clear hin0 hh
  try rw [← hm]
  clear hm
  go_loopw [8, 34] (fun q i wr => ∃ k : Nat, k ≤ n ∧ i = .int .i64 k ∧ ∃ Q', Sp wr W1.heap.size q Q' gN (nowK l h k) ∧ said Q' = sentK hin ports l h k ∧ Below W1.heap.size W1 wr) (fun _ i _ => n - (intOf i).toNat)
  case atStart => exact ⟨0, Nat.zero_le _, rfl, _, sp0, rfl, b2⟩
  case round =>
    obtain ⟨k, hk, rfl, Q', sp, hsaid, bel⟩ := hrel
    have HS : Hid (said Q' = sentK hin ports l h k) := hsaid
    clear hsaid sp0 b2
    by_cases hlt : k < n
    · have hkz : (k : Int) < (n : Int) := by omega
      have hkl : k < l.length := by have := HN.out; omega
      obtain rfl := hl.head (by omega)
      obtain ⟨a0, a1, a2⟩ := (hl.cell k hkl).of bel (hl.cell k hkl).lt
      have hxB := HPRE.out k hlt
      have HE : Hid (nowK l h (k + 1) = next (nowK l h k) (l.getD k z3)) := rfl
      have HT : Hid (sentK hin ports l h (k + 1) = sentK hin ports l h k ++ goes hin ports (nowK l h (k + 1)) (l.getD k z3)) := rfl
      have hQ' : Q'.length ≤ 96 := by
        have e1 := congrArg List.length HS.out
        rw [said_len] at e1
        have e2 := sentK_len hin ports l h hp8 k
        omega
      generalize l.getD k z3 = x at *
      obtain ⟨now, enw⟩ : ∃ now, now = nowK l h k := ⟨_, rfl⟩
      rw [← enw] at sp HE
      clear enw
      have zN := sp.own.lt
      have zB := bel.size
      have zle := sp.le
      obtain ⟨x0, x1, x2⟩ := x
      simp only at a0 a1 a2
      by_cases k3 : x0 = 3
      · subst k3
        obtain ⟨F, eF, hF8, hf⟩ := act_set hxB rfl
        simp only at eF hf
        subst eF
        have cF := sp.own.wt.cell F (by rw [sp.hl]; exact hF8)
        have fF := sp.own.wt.free F (by rw [sp.hl]; exact hF8)
        have hFz : (F : Int) < 8 := by omega
        go_wp2
        obtain ⟨Wi, hWi⟩ : ∃ Wi, Wi = (wr.setCell ⟨gN, F, none⟩ (.int .i64 x2)).alloc (.cells #[.int .i64 3, .int .i64 F, .int .i64 x2] 76) := ⟨_, rfl⟩
        rw [← hWi]
        have spi : Sp Wi W1.heap.size u8 Q' gN (now.set F x2) := by subst hWi; exact (sp_set sp).below (below_alloc1 _ _)
        have kA : Wi.heap[wr.heap.size]? = some (.cells #[.int .i64 3, .int .i64 F, .int .i64 x2] 76 (0, 0)) := by subst hWi; exact at_new (by simp)
        have bi : Below W1.heap.size W1 Wi := by subst hWi; exact (bel.setCell (by simp <;> omega) _).trans ((below_alloc1 _ _).mono (by simp <;> omega))
        clear hWi
        clear cF fF
        have hwA : wr.heap.size < Wi.heap.size := (Array.getElem?_eq_some_iff.1 kA).1
        obtain ⟨AA, hAA⟩ : ∃ AA, AA = wr.heap.size := ⟨_, rfl⟩
        rw [← hAA] at kA ⊢
        clear hAA
        obtain ⟨now', enow⟩ : ∃ now', now' = (now.set F x2) := ⟨_, rfl⟩
        rw [← enow] at spi
        have ENOW : Hid (now' = nowK l h (k + 1)) := (enow.trans (show now.set F x2 = next now (3, (F : Int), x2) from rfl)).trans HE.out.symm
        clear enow
        go_loopw [8, 49] (fun q5 i5 w5 => ∃ j : Nat, j ≤ m ∧ i5 = .int .i64 j ∧ ∃ Q5, Sp w5 W1.heap.size q5 Q5 gN now' ∧ said Q5 = said Q' ++ sends hin (3, (F : Int), x2) ports now' j ∧ Below W1.heap.size W1 w5 ∧ w5.heap[AA]? = some (.cells #[.int .i64 3, .int .i64 F, .int .i64 x2] 76 (0, 0))) (fun _ i5 _ => m - (intOf i5).toNat)
        case atStart => exact ⟨0, Nat.zero_le _, rfl, _, spi, by simp [sends], bi, kA⟩
        case round =>
          obtain ⟨j, hj, rfl, Q5, sp5, hs5, bel5, kA5⟩ := hrel
          have HS5 : Hid (said Q5 = said Q' ++ sends hin (3, (F : Int), x2) ports now' j) := hs5
          clear hs5 spi kA bi
          by_cases hjm : j < m
          · have hjl : j < ports.length := by have := HM.out; omega
            obtain ⟨hpa, p0⟩ := Hg.at_rd hp hjl
            subst hpa
            replace p0 := (bel5.cell (World.block_lt_of_cell? _ _ p0)).trans p0
            have e0 := (bel5.cell (World.block_lt_of_cell? _ _ (Hh.one k0))).trans (Hh.one k0)
            have e1 : wr.cell? ⟨hb, ho, none⟩ = some (.int .i64 hin) := (bel5.cell (World.block_lt_of_cell? _ _ hin1)).trans hin1
            have d0 := three0 kA5
            have d1 := three1 kA5
            have d2 := three2 kA5
            have hjz : (j : Int) < (m : Int) := by omega
            have hst := sends_step hin (3, (F : Int), x2) ports now' j hjl
            generalize ports.getD j 0 = p at p0 hst
            have HST := hid hst
            clear hst
            by_cases hx : p = hin
            · subst hx
              go_wp2
              go_roundw
              case rel => exact ⟨j + 1, by omega, by go_num, _, sp5, by rw [HST.out, HS5.out, if_neg (by simp), List.append_nil], bel5, kA5⟩
              case measure => simp [intOf]; omega
            · have hne : (p != hin) = true := by simpa using hx
              go_wp2
              go_roundw
              case rel => exact ⟨j + 1, by omega, by go_num, _, sp5, by rw [HST.out, HS5.out, if_neg (by simp), List.append_nil], bel5, kA5⟩
              case measure => simp [intOf]; omega
          · have he : j = m := by omega
            subst he
            go_wp2
            have hsa := sends_all (hin := hin) (x := (3, (F : Int), x2)) (now := now') H3.out
            rw [← HM.out] at hsa
            go_roundw
            case rel => exact ⟨k + 1, by omega, by go_num, _, by rw [← ENOW.out]; exact sp5, by rw [HS5.out, HS.out, HT.out, hsa, ← ENOW.out], bel5⟩
            case measure => simp [intOf]; omega
      · have e3 : (x0 == 3) = false := by simpa using k3
        go_wp2
        obtain ⟨Wi, hWi⟩ : ∃ Wi, Wi = wr.alloc (.cells #[.int .i64 x0, .int .i64 x1, .int .i64 x2] 76) := ⟨_, rfl⟩
        rw [← hWi]
        have spi : Sp Wi W1.heap.size u8 Q' gN now := by subst hWi; exact sp.below (below_alloc1 _ _)
        have kA : Wi.heap[wr.heap.size]? = some (.cells #[.int .i64 x0, .int .i64 x1, .int .i64 x2] 76 (0, 0)) := by subst hWi; exact at_new rfl
        have bi : Below W1.heap.size W1 Wi := by subst hWi; exact bel.trans ((below_alloc1 wr _).mono bel.size)
        clear hWi
        have hwA : wr.heap.size < Wi.heap.size := (Array.getElem?_eq_some_iff.1 kA).1
        obtain ⟨AA, hAA⟩ : ∃ AA, AA = wr.heap.size := ⟨_, rfl⟩
        rw [← hAA] at kA ⊢
        clear hAA
        obtain ⟨now', enow⟩ : ∃ now', now' = now := ⟨_, rfl⟩
        rw [← enow] at spi
        have ENOW : Hid (now' = nowK l h (k + 1)) := (enow.trans (show now = next now (x0, x1, x2) from (if_neg k3).symm)).trans HE.out.symm
        clear enow
        go_loopw [8, 49] (fun q5 i5 w5 => ∃ j : Nat, j ≤ m ∧ i5 = .int .i64 j ∧ ∃ Q5, Sp w5 W1.heap.size q5 Q5 gN now' ∧ said Q5 = said Q' ++ sends hin (x0, x1, x2) ports now' j ∧ Below W1.heap.size W1 w5 ∧ w5.heap[AA]? = some (.cells #[.int .i64 x0, .int .i64 x1, .int .i64 x2] 76 (0, 0))) (fun _ i5 _ => m - (intOf i5).toNat)
        case atStart => exact ⟨0, Nat.zero_le _, rfl, _, spi, by simp [sends], bi, kA⟩
        case round =>
          obtain ⟨j, hj, rfl, Q5, sp5, hs5, bel5, kA5⟩ := hrel
          have HS5 : Hid (said Q5 = said Q' ++ sends hin (x0, x1, x2) ports now' j) := hs5
          clear hs5 spi kA bi
          by_cases hjm : j < m
          · have hjl : j < ports.length := by have := HM.out; omega
            obtain ⟨hpa, p0⟩ := Hg.at_rd hp hjl
            subst hpa
            replace p0 := (bel5.cell (World.block_lt_of_cell? _ _ p0)).trans p0
            have e0 := (bel5.cell (World.block_lt_of_cell? _ _ (Hh.one k0))).trans (Hh.one k0)
            have e1 : wr.cell? ⟨hb, ho, none⟩ = some (.int .i64 hin) := (bel5.cell (World.block_lt_of_cell? _ _ hin1)).trans hin1
            have d0 := three0 kA5
            have d1 := three1 kA5
            have d2 := three2 kA5
            have hjz : (j : Int) < (m : Int) := by omega
            have hst := sends_step hin (x0, x1, x2) ports now' j hjl
            generalize ports.getD j 0 = p at p0 hst
            have HST := hid hst
            clear hst
            by_cases hx : p = hin
            · subst hx
              go_wp2
              go_roundw
              case rel => exact ⟨j + 1, by omega, by go_num, _, sp5, by rw [HST.out, HS5.out, if_neg (by simp), List.append_nil], bel5, kA5⟩
              case measure => simp [intOf]; omega
            have hne : (p != hin) = true := by simpa using hx
            by_cases q2 : x0 = 2
            · subst q2
              have hq5 : Q5.length ≤ 4096 := by
                have g1 := congrArg List.length HS5.out
                rw [List.length_append, said_len, said_len] at g1
                have g2 := sends_len hin (2, x1, x2) ports now' j
                omega
              have O5 := own_emptyN wr
              have b5 := below_alloc1 wr (.cells #[] 3)
              have rN5 := sp5.own.rd.below b5
              have l8 := sp5.hl
              have HLT : Hid (∀ q ∈ Q5, q.g < wr.heap.size) := fun q hq => sp5.sn.lt hq
              have zN5 := sp5.own.lt
              have zle := bel5.size
              go_wp2_with (first | (at_builtin; refine wpList_appN rfl (.tmp 77) (.tmp 78) rfl wr.heap.size (.slice (some ⟨wr.heap.size, 0, none⟩) 0 0) [] now' rfl O5 ⟨gN, 0, none⟩ gN 0 cN (by rw [l8]; rfl) rN5 (by simp only [List.length_nil, l8]; omega) (by simp) ?_; intro v6 w6 hown6 hg6; obtain ⟨g6, c6, rfl, hg6l, ho6, _⟩ := own_has hown6 (by simp only [List.nil_append, l8]; omega); simp only [List.nil_append, l8] at ho6 ⊢; have b6 := below_own O5 b5 (Nat.le_refl _) hg6; replace sp5 := sp5.below b6; replace kA5 := (b6.block _ (Array.getElem?_eq_some_iff.1 kA5).1).trans kA5; have z6 := b6.size; have bel6 := bel5.trans (b6.mono zle); have sp7 := sp5.below (below_alloc1 w6 (.cells #[.int .i64 p, .slice (some ⟨g6, 0, none⟩) 8 c6] 56)); have kA7 := ((below_alloc1 w6 (.cells #[.int .i64 p, .slice (some ⟨g6, 0, none⟩) 8 c6] 56)).block _ (Array.getElem?_eq_some_iff.1 kA5).1).trans kA5; have bel7 := bel6.trans ((below_alloc1 w6 (.cells #[.int .i64 p, .slice (some ⟨g6, 0, none⟩) 8 c6] 56)).mono (Nat.le_trans zle z6)); have o7 := own7 (o := .cells #[.int .i64 p, .slice (some ⟨g6, 0, none⟩) 8 c6] 56) ho6; have z7 := bel7.size; have k7 : (w6.alloc (.cells #[.int .i64 p, .slice (some ⟨g6, 0, none⟩) 8 c6] 56)).heap[w6.heap.size]? = some (.cells #[.int .i64 p, .slice (some ⟨g6, 0, none⟩) 8 c6] 56 (0, 0)) := at_new rfl) | (at_builtin; refine wpList_appS rfl (.tmp 75) (.tmp 82) rfl ⟨p, now', g6, c6⟩ rfl rfl sp7.sn (by simp only [l8]; exact k7) o7 (by simp only; omega) l8 (fun q hq => by have := HLT.out q hq; simp only; omega) hq5 z7 ?_; intro v8 w8 ha8))
              go_roundw
              case rel => exact ⟨j + 1, by omega, by go_num, _, sp_app sp7 ha8 (by simp only; omega), by rw [HST.out, said_app, HS5.out, if_pos (by exact ⟨hx, .inl rfl⟩), List.append_assoc], bel7.trans (grown_below sp7.sn.own ha8.grow z7), (ha8.grow.block _ (Array.getElem?_eq_some_iff.1 kA7).1 (blk_ne' sp7.sn.own kA7 (by decide))).trans kA7⟩
              case measure => simp [intOf]; omega
            have n2 : (x0 == 2) = false := by simpa using q2
            by_cases q1 : x0 = 1
            · subst q1
              by_cases qp : p = x1
              · subst qp
                have hq5 : Q5.length ≤ 4096 := by
                  have g1 := congrArg List.length HS5.out
                  rw [List.length_append, said_len, said_len] at g1
                  have g2 := sends_len hin (1, p, x2) ports now' j
                  omega
                have O5 := own_emptyN wr
                have b5 := below_alloc1 wr (.cells #[] 3)
                have rN5 := sp5.own.rd.below b5
                have l8 := sp5.hl
                have HLT : Hid (∀ q ∈ Q5, q.g < wr.heap.size) := fun q hq => sp5.sn.lt hq
                have zN5 := sp5.own.lt
                have zle := bel5.size
                go_wp2_with (first | (at_builtin; refine wpList_appN rfl (.tmp 77) (.tmp 78) rfl wr.heap.size (.slice (some ⟨wr.heap.size, 0, none⟩) 0 0) [] now' rfl O5 ⟨gN, 0, none⟩ gN 0 cN (by rw [l8]; rfl) rN5 (by simp only [List.length_nil, l8]; omega) (by simp) ?_; intro v6 w6 hown6 hg6; obtain ⟨g6, c6, rfl, hg6l, ho6, _⟩ := own_has hown6 (by simp only [List.nil_append, l8]; omega); simp only [List.nil_append, l8] at ho6 ⊢; have b6 := below_own O5 b5 (Nat.le_refl _) hg6; replace sp5 := sp5.below b6; replace kA5 := (b6.block _ (Array.getElem?_eq_some_iff.1 kA5).1).trans kA5; have z6 := b6.size; have bel6 := bel5.trans (b6.mono zle); have sp7 := sp5.below (below_alloc1 w6 (.cells #[.int .i64 p, .slice (some ⟨g6, 0, none⟩) 8 c6] 56)); have kA7 := ((below_alloc1 w6 (.cells #[.int .i64 p, .slice (some ⟨g6, 0, none⟩) 8 c6] 56)).block _ (Array.getElem?_eq_some_iff.1 kA5).1).trans kA5; have bel7 := bel6.trans ((below_alloc1 w6 (.cells #[.int .i64 p, .slice (some ⟨g6, 0, none⟩) 8 c6] 56)).mono (Nat.le_trans zle z6)); have o7 := own7 (o := .cells #[.int .i64 p, .slice (some ⟨g6, 0, none⟩) 8 c6] 56) ho6; have z7 := bel7.size; have k7 : (w6.alloc (.cells #[.int .i64 p, .slice (some ⟨g6, 0, none⟩) 8 c6] 56)).heap[w6.heap.size]? = some (.cells #[.int .i64 p, .slice (some ⟨g6, 0, none⟩) 8 c6] 56 (0, 0)) := at_new rfl) | (at_builtin; refine wpList_appS rfl (.tmp 75) (.tmp 82) rfl ⟨p, now', g6, c6⟩ rfl rfl sp7.sn (by simp only [l8]; exact k7) o7 (by simp only; omega) l8 (fun q hq => by have := HLT.out q hq; simp only; omega) hq5 z7 ?_; intro v8 w8 ha8))
                go_roundw
                case rel => exact ⟨j + 1, by omega, by go_num, _, sp_app sp7 ha8 (by simp only; omega), by rw [HST.out, said_app, HS5.out, if_pos (by exact ⟨hx, .inr ⟨rfl, rfl⟩⟩), List.append_assoc], bel7.trans (grown_below sp7.sn.own ha8.grow z7), (ha8.grow.block _ (Array.getElem?_eq_some_iff.1 kA7).1 (blk_ne' sp7.sn.own kA7 (by decide))).trans kA7⟩
                case measure => simp [intOf]; omega
              · have np : (x1 == p) = false := by simpa using fun q : x1 = p => qp q.symm
                go_wp2
                go_roundw
                case rel => exact ⟨j + 1, by omega, by go_num, _, sp5, by rw [HST.out, HS5.out, if_neg (fun q => q.2.elim (fun e => absurd e (by simp)) (fun e => qp e.2.symm)), List.append_nil], bel5, kA5⟩
                case measure => simp [intOf]; omega
            have n1 : (x0 == 1) = false := by simpa using q1
            go_wp2
            go_roundw
            case rel => exact ⟨j + 1, by omega, by go_num, _, sp5, by rw [HST.out, HS5.out, if_neg (by simp [q1, q2]), List.append_nil], bel5, kA5⟩
            case measure => simp [intOf]; omega
          · have he : j = m := by omega
            subst he
            go_wp2
            have hsa := sends_all (hin := hin) (x := (x0, x1, x2)) (now := now') H3.out
            rw [← HM.out] at hsa
            go_roundw
            case rel => exact ⟨k + 1, by omega, by go_num, _, by rw [← ENOW.out]; exact sp5, by rw [HS5.out, HS.out, HT.out, hsa, ← ENOW.out], bel5⟩
            case measure => simp [intOf]; omega
    · have he : k = n := by omega
      subst he
      go_wp2
      have hN := HN.out
      refine bodyPost_ret (v := .tuple #[u8, .bool true]) (by simp [results, Try.results26, go_sem]) rfl ⟨W1.heap.size, _, Q', rfl, sp.sn, ?_, ?_, ?_⟩
      · exact B0.size
      · rw [HS.out, hN]
      · exact B0.trans (bel.mono B0.size)

end Go.Proofs.Ytkakdldhinimoaa.Yn
