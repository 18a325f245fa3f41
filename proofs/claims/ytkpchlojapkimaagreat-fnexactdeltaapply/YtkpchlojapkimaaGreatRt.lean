/-
  Two sets merged by function 43.
-/
import Derived.Test.YtkpchlojapkimaaGreatRu
namespace Go.Proofs.YtkpchlojapkimaaGreat.Rl
set_option maxRecDepth 8000
set_option linter.unusedSimpArgs false
set_option linter.unusedVariables false
open Go Go.RowKit
open Num Word Pl Rp
open Vl (ordRow)


set_option maxHeartbeats 16000000 in
theorem merged43 (a a' : Option Addr) (b off cap b' off' cap' : Nat) (Q P : List Rm) (w : World) (h : Rd w a b off Q) (h' : Rd w a' b' off' P) (hc : Q.length ≤ cap) (hc' : P.length ≤ cap') (hq : Q.length ≤ 300) (hp : P.length ≤ 300) (hr : ∀ r ∈ Q, Vl.rowB r.l = true) (hr' : ∀ r ∈ P, Vl.rowB r.l = true) :
    Calls Tryz.prog 148 #[.agg #[.slice a Q.length cap, .func (.func 143) #[] #[]], .agg #[.slice a' P.length cap', .func (.func 143) #[] #[]], .func (.func 53) #[] #[]] w (ResM w (mergeL stAll (said Q) (said P))) := by
  obtain ⟨W1, hW1⟩ : ∃ W1, W1 = (((w.alloc (.cells #[.slice a Q.length cap, .func (.func 143) #[] #[]] 140)).alloc (.cells #[.slice a' P.length cap', .func (.func 143) #[] #[]] 140)).alloc (.cells #[.slice none 0 0, .nilFunc] 140)).alloc (.cells #[.slice none 0 0, .func (.func 143) #[] #[]] 140) := ⟨_, rfl⟩
  obtain ⟨B, hB⟩ : ∃ B, B = w.heap.size + 1 + 1 + 1 + 1 := ⟨_, rfl⟩
  obtain ⟨X, hX⟩ : ∃ X, X = mergeL stAll (said Q) (said P) := ⟨_, rfl⟩
  rw [← hX]
  have mi0 : MI w B W1 a a' b off cap b' off' cap' Q P (.slice none 0 0) [] := by
    refine ⟨?_, ?_, ?_, ?_, ?_, h, h', hc, hc', hr, hr', OG.nil _ _, by omega, ?_, fun r hr => by simp at hr⟩
    · subst hW1; exact Rw.next (Rw.next (Rw.next (below_alloc1 _ _) (below_alloc1 _ _)) (below_alloc1 _ _)) (below_alloc1 _ _)
    · subst hW1; rw [at_old (by simp <;> omega), at_old (by simp <;> omega), at_old (by simp), at_new rfl]
    · subst hW1; rw [at_old (by simp <;> omega), at_old (by simp), at_new (by simp)]
    · subst hW1; rw [at_old (by simp), at_new (by simp)]
    · subst hW1; exact at_new (by simp)
    · subst hW1 hB; simp
  have HX0 : Hid (said ([] : List Rm) ++ mergeL stAll (said Q) (said P) = X) := hX.symm
  have H600 : Hid (([] : List Rm).length + Q.length + P.length ≤ 600) := (by simp; omega : ([] : List Rm).length + Q.length + P.length ≤ 600)
  clear hX hB
  go_enter Tryz.func148, Tryz.ntmps148
  go_wp2
  rw [← hW1]
  clear hW1
  go_loopw [8] (fun _ wr => ∃ (A1 A2 : Option Addr) (b1 o1 c1 b2 o2 c2 : Nat) (Q1 P1 : List Rm) (v : Value) (F : List Rm), MI w B wr A1 A2 b1 o1 c1 b2 o2 c2 Q1 P1 v F ∧ F.length + Q1.length + P1.length ≤ 600 ∧ said F ++ mergeL stAll (said Q1) (said P1) = X) (fun _ wr => lenAt wr w.heap.size + lenAt wr (w.heap.size + 1))
  case atStart => exact ⟨_, _, _, _, _, _, _, _, _, _, _, _, mi0, H600.out, HX0.out⟩
  case round =>
    clear mi0 HX0 H600 h h' hc hc' hq hp hr hr'
    obtain ⟨A1, A2, b1, o1, c1, b2, o2, c2, Q1, P1, v, F, mi, hF6, hE⟩ := hrel
    have HM : Hid (lenAt wr w.heap.size + lenAt wr (w.heap.size + 1) = Q1.length + P1.length) := (by rw [lenAt_of mi.kS, lenAt_of mi.kT] : lenAt wr w.heap.size + lenAt wr (w.heap.size + 1) = Q1.length + P1.length)
    have HF6 : Hid (F.length + Q1.length + P1.length ≤ 600) := hF6
    have HE0 : Hid (said F ++ mergeL stAll (said Q1) (said P1) = X) := hE
    clear hF6 hE
    obtain ⟨p0, p1⟩ := two mi.kS
    obtain ⟨q0, q1⟩ := two mi.kT
    have ls := blk_lt mi.kS
    have ltt := blk_lt mi.kT
    cases Q1 with
    | nil =>
      cases P1 with
      | nil =>
        simp only [List.length_nil] at p0 q0
        obtain ⟨r0, r1⟩ := two mi.kR
        have fR := Vl.free mi.kR
        obtain ⟨va, vn, vc, hv⟩ := mi.og.slice
        subst hv
        obtain ⟨oo0, oo1⟩ := two mi.kO
        have HX : Hid (said F = X) := (by have e := HE0.out; simp only [said, List.map_nil, mergeL, List.append_nil] at e; exact e)
        go_wp2
        refine bodyPost_ret (v := .agg #[.slice va vn vc, .func (.func 143) #[] #[]]) (by simp [results, Tryz.results148, go_sem, r0, r1]) rfl ⟨_, F, rfl, ?_, HX.out, by have := HF6.out; simp at this; omega, ?_⟩
        · refine OG.mono (B := B) ?_ (by have := mi.hB; omega)
          refine mi.og.keep fun z hz hu => ?_
          have hzz : z ≠ w.heap.size + 1 + 1 := (by rcases hu with hu | ⟨q, hq, h0, e⟩; (have := (mi.og.lt hu).1; have := mi.hB; omega); (have := mi.low q hq h0; omega))
          repeat (first | rfl | refine (Below.heap_setCell _ _ _ _ (by simp only; omega)).trans ?_)
        · have BB := mi.bel
          repeat (first | with_reducible exact BB | refine Vl.bset ?_ (by simp only; omega))
      | cons y P' =>
        obtain ⟨dx, oky, rfl⟩ := mi.rP.zero
        obtain ⟨ya, yb, yo, yc, yl⟩ := y
        simp only [Rm.val] at dx
        have dw := (mi.bel.cell (World.block_lt_of_cell? _ _ dx)).trans dx
        have lby := World.block_lt_of_cell? _ _ dw
        obtain ⟨m, hm⟩ : ∃ m : Nat, m = (⟨ya, yb, yo, yc, yl⟩ :: P' : List Rm).length := ⟨_, rfl⟩
        have m0 : (0 : Int) < (m : Int) := by have e := hm; simp only [List.length_cons] at e; omega
        have m1 : (1 : Int) ≤ (m : Int) := by omega
        have m2 : (m : Int) ≤ (c2 : Int) := by have := mi.cP; omega
        have m3 : 0 < m := by omega
        have m4 : 1 ≤ m := by omega
        have m5 : m ≤ c2 := by omega
        have HLm : Hid (m = (⟨ya, yb, yo, yc, yl⟩ :: P' : List Rm).length) := hm
        clear hm
        simp only [List.length_nil] at p0
        rw [← HLm.out] at q0
        have hsd : ∀ W, Calls Tryz.prog 175 #[.agg #[.slice A1 0 c1, .func (.func 143) #[] #[]], .agg #[.slice (some ⟨b2, o2, none⟩) m c2, .func (.func 143) #[] #[]]] W fun e w' => e = .returned (.int .i64 1) ∧ Below W.heap.size W w' := fun W => by rw [HLm.out]; exact side_s _ _ _ _ _ W (by simp)
        have HEq : Hid (said F ++ ((if stAll 1 = true then [(⟨ya, yb, yo, yc, yl⟩ : Rm).l] else []) ++ mergeL stAll (said []) (said P')) = X) := by have e := HE0.out; simp only [said, List.map_cons, List.map_nil, mergeL] at e ⊢; exact e
        clear HE0
        go_wp2_with (go_at_call 175; refine (hsd _).mono ?_; rintro e w1 ⟨rfl, hb⟩; replace mi := mi.below hb; clear p0 p1 q0 q1; obtain ⟨p0, p1⟩ := two mi.kS; obtain ⟨q0, q1⟩ := two mi.kT; simp only [List.length_nil] at p0; rw [← HLm.out] at q0; have fs := Vl.free mi.kS; have ft := Vl.free mi.kT; have ls := blk_lt mi.kS; have ltt := blk_lt mi.kT; replace dw := (hb.cell lby).trans dw; have lby := World.block_lt_of_cell? _ _ dw; clear hb)
        go_region
        obtain ⟨A', hA'⟩ : ∃ A', A' = (if c2 = 1 then some (⟨b2, o2, none⟩ : Addr) else some ⟨b2, o2 + 1, none⟩) := ⟨_, rfl⟩
        have rt := tail_rd mi.rP mi.cP
        rw [← hA'] at rt ⊢
        clear hA'
        have mi2 := mi.setT (u := .slice A' (m - 1) (c2 - 1)) (P := P') (c := c2 - 1) (by rw [HLm.out]; rfl) rt (by have := mi.cP; simp at this; omega) (fun r hr => mi.okP r (by simp [hr]))
        obtain ⟨Y, hY⟩ : ∃ Y, Y = ((w1.setCell ⟨w.heap.size + 1, 0, none⟩ (.slice A' (m - 1) (c2 - 1))).alloc (.cells #[.slice ya yl.length yc] 107)).drew := ⟨_, rfl⟩
        have mi3 := mi2.below (((below_alloc1 _ (.cells #[.slice ya yl.length yc] 107))).drew)
        rw [← hY] at mi3
        have kL : Y.heap[w1.heap.size]? = some (.cells #[((⟨ya, yb, yo, yc, yl⟩ : Rm) : Rm).val] 107 (0, 0)) := by subst hY; exact at_new (by simp)
        rw [← hY]
        clear mi mi2 hY rt
        have mi := mi3
        clear mi3
        cases hst : stAll (1)
        · have HE := step_f (x := (⟨ya, yb, yo, yc, yl⟩ : Rm)) HEq.out hst
          have hcall := (in_all (1) Y)
          rw [hst] at hcall
          have HE2 : Hid (said F ++ _ = X) := HE
          clear hst HE HEq
          go_wp2_with (go_at_call 53; refine hcall.mono ?_; rintro e wz ⟨rfl, hw⟩; replace hw := hw.symm; subst hw)
          go_roundw
          case rel => exact ⟨_, _, _, _, _, _, _, _, _, _, _, _, mi, by have := HF6.out; simp only [List.length_cons] at this ⊢; omega, HE2.out⟩
          case measure => rw [HM.out, lenAt_of mi.kS, lenAt_of mi.kT]; simp only [List.length_cons, List.length_nil]; omega
        · have HE := step_t (x := (⟨ya, yb, yo, yc, yl⟩ : Rm)) HEq.out hst
          have hcall := (in_all (1) Y)
          rw [hst] at hcall
          have HE2 : Hid (said (F ++ [(⟨ya, yb, yo, yc, yl⟩ : Rm)]) ++ _ = X) := HE
          clear hst HE HEq
          obtain ⟨oo0, oo1⟩ := two mi.kO
          have z0 := one kL
          have lO := blk_lt mi.kO
          obtain ⟨Yd, hYd⟩ : ∃ Yd, Yd = Y.alloc (.cells #[(⟨ya, yb, yo, yc, yl⟩ : Rm).val] 107) := ⟨_, rfl⟩
          have hT : Yd.heap[Y.heap.size]? = some (.cells #[(⟨ya, yb, yo, yc, yl⟩ : Rm).val] 107 (0, 0)) := by subst hYd; exact at_new rfl
          obtain ⟨va, vn, vc, Z, hrun, kOZ, mz⟩ := (mi.below (by subst hYd; exact below_alloc1 _ _ : Below Y.heap.size Y Yd)).grow oky (by have := HF6.out; simp only [List.length_cons] at this; omega) hT
          obtain ⟨oz0, oz1⟩ := two kOZ
          have fZ := Vl.free kOZ
          have kS2 := mz.kS
          have kT2 := mz.kT
          have HS2 : Hid (lenAt (Z.setCell ⟨w.heap.size + 1 + 1 + 1, 0, none⟩ (.slice va vn vc)) w.heap.size = _) := lenAt_of kS2
          have HT2 : Hid (lenAt (Z.setCell ⟨w.heap.size + 1 + 1 + 1, 0, none⟩ (.slice va vn vc)) (w.heap.size + 1) = _) := lenAt_of kT2
          rw [hYd] at hrun
          clear hYd hT kS2 kT2
          simp only [Rm.val] at hrun z0
          go_wp2_with (first
            | (go_at_call 53; refine hcall.mono ?_; rintro e wz ⟨rfl, hw⟩; replace hw := hw.symm; subst hw)
            | (at_builtin; refine Hn.wpList_run rfl (Hn.exec_app (.tmp 50) (.tmp 52) rfl rfl rfl hrun) ?_))
          go_roundw
          case rel => exact ⟨_, _, _, _, _, _, _, _, _, _, _, _, mz, by have := HF6.out; simp only [List.length_cons, List.length_append, List.length_nil] at this ⊢; omega, HE2.out⟩
          case measure => rw [HM.out, HS2.out, HT2.out]; simp only [List.length_cons, List.length_nil]; omega
    | cons x Q' =>
      cases P1 with
      | nil =>
        obtain ⟨cx, okx, rfl⟩ := mi.rQ.zero
        obtain ⟨xa, xb, xo, xc, xl⟩ := x
        simp only [Rm.val] at cx
        have cw := (mi.bel.cell (World.block_lt_of_cell? _ _ cx)).trans cx
        have lbx := World.block_lt_of_cell? _ _ cw
        obtain ⟨n, hn⟩ : ∃ n : Nat, n = (⟨xa, xb, xo, xc, xl⟩ :: Q' : List Rm).length := ⟨_, rfl⟩
        have n0 : (0 : Int) < (n : Int) := by have e := hn; simp only [List.length_cons] at e; omega
        have n1 : (1 : Int) ≤ (n : Int) := by omega
        have n2 : (n : Int) ≤ (c1 : Int) := by have := mi.cQ; omega
        have n3 : 0 < n := by omega
        have n4 : 1 ≤ n := by omega
        have n5 : n ≤ c1 := by omega
        have HLn : Hid (n = (⟨xa, xb, xo, xc, xl⟩ :: Q' : List Rm).length) := hn
        clear hn
        rw [← HLn.out] at p0
        simp only [List.length_nil] at q0
        have hsd : ∀ W, Calls Tryz.prog 175 #[.agg #[.slice (some ⟨b1, o1, none⟩) n c1, .func (.func 143) #[] #[]], .agg #[.slice A2 0 c2, .func (.func 143) #[] #[]]] W fun e w' => e = .returned (.int .i64 (-1)) ∧ Below W.heap.size W w' := fun W => by rw [HLn.out]; exact side_t _ _ 0 0 _ _ _ W
        have HEq : Hid (said F ++ ((if stAll (-1) = true then [(⟨xa, xb, xo, xc, xl⟩ : Rm).l] else []) ++ mergeL stAll (said Q') (said [])) = X) := by have e := HE0.out; simp only [said, List.map_cons, List.map_nil, mergeL] at e ⊢; exact e
        clear HE0
        go_wp2_with (go_at_call 175; refine (hsd _).mono ?_; rintro e w1 ⟨rfl, hb⟩; replace mi := mi.below hb; clear p0 p1 q0 q1; obtain ⟨p0, p1⟩ := two mi.kS; obtain ⟨q0, q1⟩ := two mi.kT; rw [← HLn.out] at p0; simp only [List.length_nil] at q0; have fs := Vl.free mi.kS; have ft := Vl.free mi.kT; have ls := blk_lt mi.kS; have ltt := blk_lt mi.kT; replace cw := (hb.cell lbx).trans cw; have lbx := World.block_lt_of_cell? _ _ cw; clear hb)
        go_region
        obtain ⟨A', hA'⟩ : ∃ A', A' = (if c1 = 1 then some (⟨b1, o1, none⟩ : Addr) else some ⟨b1, o1 + 1, none⟩) := ⟨_, rfl⟩
        have rt := tail_rd mi.rQ mi.cQ
        rw [← hA'] at rt ⊢
        clear hA'
        have mi2 := mi.setS (u := .slice A' (n - 1) (c1 - 1)) (Q := Q') (c := c1 - 1) (by rw [HLn.out]; rfl) rt (by have := mi.cQ; simp at this; omega) (fun r hr => mi.okQ r (by simp [hr]))
        obtain ⟨Y, hY⟩ : ∃ Y, Y = ((w1.setCell ⟨w.heap.size, 0, none⟩ (.slice A' (n - 1) (c1 - 1))).alloc (.cells #[.slice xa xl.length xc] 107)).drew := ⟨_, rfl⟩
        have mi3 := mi2.below (((below_alloc1 _ (.cells #[.slice xa xl.length xc] 107))).drew)
        rw [← hY] at mi3
        have kL : Y.heap[w1.heap.size]? = some (.cells #[((⟨xa, xb, xo, xc, xl⟩ : Rm) : Rm).val] 107 (0, 0)) := by subst hY; exact at_new (by simp)
        rw [← hY]
        clear mi mi2 hY rt
        have mi := mi3
        clear mi3
        cases hst : stAll (-1)
        · have HE := step_f (x := (⟨xa, xb, xo, xc, xl⟩ : Rm)) HEq.out hst
          have hcall := (in_all (-1) Y)
          rw [hst] at hcall
          have HE2 : Hid (said F ++ _ = X) := HE
          clear hst HE HEq
          go_wp2_with (go_at_call 53; refine hcall.mono ?_; rintro e wz ⟨rfl, hw⟩; replace hw := hw.symm; subst hw)
          go_roundw
          case rel => exact ⟨_, _, _, _, _, _, _, _, _, _, _, _, mi, by have := HF6.out; simp only [List.length_cons] at this ⊢; omega, HE2.out⟩
          case measure => rw [HM.out, lenAt_of mi.kS, lenAt_of mi.kT]; simp only [List.length_cons, List.length_nil]; omega
        · have HE := step_t (x := (⟨xa, xb, xo, xc, xl⟩ : Rm)) HEq.out hst
          have hcall := (in_all (-1) Y)
          rw [hst] at hcall
          have HE2 : Hid (said (F ++ [(⟨xa, xb, xo, xc, xl⟩ : Rm)]) ++ _ = X) := HE
          clear hst HE HEq
          obtain ⟨oo0, oo1⟩ := two mi.kO
          have z0 := one kL
          have lO := blk_lt mi.kO
          obtain ⟨Yd, hYd⟩ : ∃ Yd, Yd = Y.alloc (.cells #[(⟨xa, xb, xo, xc, xl⟩ : Rm).val] 107) := ⟨_, rfl⟩
          have hT : Yd.heap[Y.heap.size]? = some (.cells #[(⟨xa, xb, xo, xc, xl⟩ : Rm).val] 107 (0, 0)) := by subst hYd; exact at_new rfl
          obtain ⟨va, vn, vc, Z, hrun, kOZ, mz⟩ := (mi.below (by subst hYd; exact below_alloc1 _ _ : Below Y.heap.size Y Yd)).grow okx (by have := HF6.out; simp only [List.length_cons] at this; omega) hT
          obtain ⟨oz0, oz1⟩ := two kOZ
          have fZ := Vl.free kOZ
          have kS2 := mz.kS
          have kT2 := mz.kT
          have HS2 : Hid (lenAt (Z.setCell ⟨w.heap.size + 1 + 1 + 1, 0, none⟩ (.slice va vn vc)) w.heap.size = _) := lenAt_of kS2
          have HT2 : Hid (lenAt (Z.setCell ⟨w.heap.size + 1 + 1 + 1, 0, none⟩ (.slice va vn vc)) (w.heap.size + 1) = _) := lenAt_of kT2
          rw [hYd] at hrun
          clear hYd hT kS2 kT2
          simp only [Rm.val] at hrun z0
          go_wp2_with (first
            | (go_at_call 53; refine hcall.mono ?_; rintro e wz ⟨rfl, hw⟩; replace hw := hw.symm; subst hw)
            | (at_builtin; refine Hn.wpList_run rfl (Hn.exec_app (.tmp 50) (.tmp 52) rfl rfl rfl hrun) ?_))
          go_roundw
          case rel => exact ⟨_, _, _, _, _, _, _, _, _, _, _, _, mz, by have := HF6.out; simp only [List.length_cons, List.length_append, List.length_nil] at this ⊢; omega, HE2.out⟩
          case measure => rw [HM.out, HS2.out, HT2.out]; simp only [List.length_cons, List.length_nil]; omega
      | cons y P' =>
        have hox := mi.okQ x (by simp)
        have hoy := mi.okP y (by simp)
        have hsb := fun W h h' => side_both (some ⟨b1, o1, none⟩) (some ⟨b2, o2, none⟩) b1 o1 c1 b2 o2 c2 x y Q' P' W h h' hox hoy
        have he0 := ordRow_eq (okL_of hox) (okL_of hoy)
        obtain ⟨cx, okx, rfl⟩ := mi.rQ.zero
        obtain ⟨xa, xb, xo, xc, xl⟩ := x
        simp only [Rm.val] at cx
        have cw := (mi.bel.cell (World.block_lt_of_cell? _ _ cx)).trans cx
        have lbx := World.block_lt_of_cell? _ _ cw
        obtain ⟨dx, oky, rfl⟩ := mi.rP.zero
        obtain ⟨ya, yb, yo, yc, yl⟩ := y
        simp only [Rm.val] at dx
        have dw := (mi.bel.cell (World.block_lt_of_cell? _ _ dx)).trans dx
        have lby := World.block_lt_of_cell? _ _ dw
        obtain ⟨n, hn⟩ : ∃ n : Nat, n = (⟨xa, xb, xo, xc, xl⟩ :: Q' : List Rm).length := ⟨_, rfl⟩
        have n0 : (0 : Int) < (n : Int) := by have e := hn; simp only [List.length_cons] at e; omega
        have n1 : (1 : Int) ≤ (n : Int) := by omega
        have n2 : (n : Int) ≤ (c1 : Int) := by have := mi.cQ; omega
        have n3 : 0 < n := by omega
        have n4 : 1 ≤ n := by omega
        have n5 : n ≤ c1 := by omega
        have HLn : Hid (n = (⟨xa, xb, xo, xc, xl⟩ :: Q' : List Rm).length) := hn
        clear hn
        obtain ⟨m, hm⟩ : ∃ m : Nat, m = (⟨ya, yb, yo, yc, yl⟩ :: P' : List Rm).length := ⟨_, rfl⟩
        have m0 : (0 : Int) < (m : Int) := by have e := hm; simp only [List.length_cons] at e; omega
        have m1 : (1 : Int) ≤ (m : Int) := by omega
        have m2 : (m : Int) ≤ (c2 : Int) := by have := mi.cP; omega
        have m3 : 0 < m := by omega
        have m4 : 1 ≤ m := by omega
        have m5 : m ≤ c2 := by omega
        have HLm : Hid (m = (⟨ya, yb, yo, yc, yl⟩ :: P' : List Rm).length) := hm
        clear hm
        rw [← HLn.out] at p0
        rw [← HLm.out] at q0
        have hsd : ∀ W, Below w.heap.size w W → Calls Tryz.prog 175 #[.agg #[.slice (some ⟨b1, o1, none⟩) n c1, .func (.func 143) #[] #[]], .agg #[.slice (some ⟨b2, o2, none⟩) m c2, .func (.func 143) #[] #[]]] W fun e w' => e = .returned (.int .i64 (ordRow xl yl)) ∧ Below W.heap.size W w' := fun W hW => by rw [HLn.out, HLm.out]; exact hsb W (mi.rQ.below hW) (mi.rP.below hW)
        clear hsb
        have HE1 := HE0.out
        simp only [said, List.map_cons, mergeL] at HE1
        rcases ordRow_one3 xl yl with ho | ho | ho
        · rw [if_pos (by omega), ho] at HE1
          have HEq : Hid (said F ++ ((if stAll (-1) = true then [(⟨xa, xb, xo, xc, xl⟩ : Rm).l] else []) ++ mergeL stAll (said Q') (said ((⟨ya, yb, yo, yc, yl⟩ : Rm) :: P'))) = X) := by simp only [said, List.map_cons]; exact HE1
          clear HE1 HE0 he0
          replace ho : ordRow xl yl = -1 := ho
          go_wp2_with (go_at_call 175; refine (hsd _ mi.bel).mono ?_; rw [ho]; rintro e w1 ⟨rfl, hb⟩; replace mi := mi.below hb; clear p0 p1 q0 q1; obtain ⟨p0, p1⟩ := two mi.kS; obtain ⟨q0, q1⟩ := two mi.kT; rw [← HLn.out] at p0; rw [← HLm.out] at q0; have fs := Vl.free mi.kS; have ft := Vl.free mi.kT; have ls := blk_lt mi.kS; have ltt := blk_lt mi.kT; replace cw := (hb.cell lbx).trans cw; have lbx := World.block_lt_of_cell? _ _ cw; replace dw := (hb.cell lby).trans dw; have lby := World.block_lt_of_cell? _ _ dw; clear hb)
          clear ho hsd
          go_region
          obtain ⟨A', hA'⟩ : ∃ A', A' = (if c1 = 1 then some (⟨b1, o1, none⟩ : Addr) else some ⟨b1, o1 + 1, none⟩) := ⟨_, rfl⟩
          have rt := tail_rd mi.rQ mi.cQ
          rw [← hA'] at rt ⊢
          clear hA'
          have mi2 := mi.setS (u := .slice A' (n - 1) (c1 - 1)) (Q := Q') (c := c1 - 1) (by rw [HLn.out]; rfl) rt (by have := mi.cQ; simp at this; omega) (fun r hr => mi.okQ r (by simp [hr]))
          obtain ⟨Y, hY⟩ : ∃ Y, Y = ((w1.setCell ⟨w.heap.size, 0, none⟩ (.slice A' (n - 1) (c1 - 1))).alloc (.cells #[.slice xa xl.length xc] 107)).drew := ⟨_, rfl⟩
          have mi3 := mi2.below (((below_alloc1 _ (.cells #[.slice xa xl.length xc] 107))).drew)
          rw [← hY] at mi3
          have kL : Y.heap[w1.heap.size]? = some (.cells #[((⟨xa, xb, xo, xc, xl⟩ : Rm) : Rm).val] 107 (0, 0)) := by subst hY; exact at_new (by simp)
          rw [← hY]
          clear mi mi2 hY rt
          have mi := mi3
          clear mi3
          cases hst : stAll (-1)
          · have HE := step_f (x := (⟨xa, xb, xo, xc, xl⟩ : Rm)) HEq.out hst
            have hcall := (in_all (-1) Y)
            rw [hst] at hcall
            have HE2 : Hid (said F ++ _ = X) := HE
            clear hst HE HEq
            go_wp2_with (go_at_call 53; refine hcall.mono ?_; rintro e wz ⟨rfl, hw⟩; replace hw := hw.symm; subst hw)
            go_roundw
            case rel => exact ⟨_, _, _, _, _, _, _, _, _, _, _, _, mi, by have := HF6.out; simp only [List.length_cons] at this ⊢; omega, HE2.out⟩
            case measure => rw [HM.out, lenAt_of mi.kS, lenAt_of mi.kT]; simp only [List.length_cons, List.length_nil]; omega
          · have HE := step_t (x := (⟨xa, xb, xo, xc, xl⟩ : Rm)) HEq.out hst
            have hcall := (in_all (-1) Y)
            rw [hst] at hcall
            have HE2 : Hid (said (F ++ [(⟨xa, xb, xo, xc, xl⟩ : Rm)]) ++ _ = X) := HE
            clear hst HE HEq
            obtain ⟨oo0, oo1⟩ := two mi.kO
            have z0 := one kL
            have lO := blk_lt mi.kO
            obtain ⟨Yd, hYd⟩ : ∃ Yd, Yd = Y.alloc (.cells #[(⟨xa, xb, xo, xc, xl⟩ : Rm).val] 107) := ⟨_, rfl⟩
            have hT : Yd.heap[Y.heap.size]? = some (.cells #[(⟨xa, xb, xo, xc, xl⟩ : Rm).val] 107 (0, 0)) := by subst hYd; exact at_new rfl
            obtain ⟨va, vn, vc, Z, hrun, kOZ, mz⟩ := (mi.below (by subst hYd; exact below_alloc1 _ _ : Below Y.heap.size Y Yd)).grow okx (by have := HF6.out; simp only [List.length_cons] at this; omega) hT
            obtain ⟨oz0, oz1⟩ := two kOZ
            have fZ := Vl.free kOZ
            have kS2 := mz.kS
            have kT2 := mz.kT
            have HS2 : Hid (lenAt (Z.setCell ⟨w.heap.size + 1 + 1 + 1, 0, none⟩ (.slice va vn vc)) w.heap.size = _) := lenAt_of kS2
            have HT2 : Hid (lenAt (Z.setCell ⟨w.heap.size + 1 + 1 + 1, 0, none⟩ (.slice va vn vc)) (w.heap.size + 1) = _) := lenAt_of kT2
            rw [hYd] at hrun
            clear hYd hT kS2 kT2
            simp only [Rm.val] at hrun z0
            go_wp2_with (first
              | (go_at_call 53; refine hcall.mono ?_; rintro e wz ⟨rfl, hw⟩; replace hw := hw.symm; subst hw)
              | (at_builtin; refine Hn.wpList_run rfl (Hn.exec_app (.tmp 50) (.tmp 52) rfl rfl rfl hrun) ?_))
            go_roundw
            case rel => exact ⟨_, _, _, _, _, _, _, _, _, _, _, _, mz, by have := HF6.out; simp only [List.length_cons, List.length_append, List.length_nil] at this ⊢; omega, HE2.out⟩
            case measure => rw [HM.out, HS2.out, HT2.out]; simp only [List.length_cons, List.length_nil]; omega
        · rw [if_neg (by omega), if_neg (by omega), ho] at HE1
          have HEq : Hid (said F ++ ((if stAll 0 = true then [(⟨ya, yb, yo, yc, yl⟩ : Rm).l] else []) ++ mergeL stAll (said Q') (said P')) = X) := HE1
          clear HE1 HE0 he0
          go_wp2_with (go_at_call 175; refine (hsd _ mi.bel).mono ?_; rw [ho]; rintro e w1 ⟨rfl, hb⟩; replace mi := mi.below hb; clear p0 p1 q0 q1; obtain ⟨p0, p1⟩ := two mi.kS; obtain ⟨q0, q1⟩ := two mi.kT; rw [← HLn.out] at p0; rw [← HLm.out] at q0; have fs := Vl.free mi.kS; have ft := Vl.free mi.kT; have ls := blk_lt mi.kS; have ltt := blk_lt mi.kT; replace cw := (hb.cell lbx).trans cw; have lbx := World.block_lt_of_cell? _ _ cw; replace dw := (hb.cell lby).trans dw; have lby := World.block_lt_of_cell? _ _ dw; clear hb)
          clear ho hsd
          have hob := low_own mi
          have HLo : Hid (w.heap.size + 1 + 1 + 1 < w1.heap.size) := Nat.lt_of_lt_of_le mi.hB mi.sB
          go_region
          obtain ⟨A', hA'⟩ : ∃ A', A' = (if c1 = 1 then some (⟨b1, o1, none⟩ : Addr) else some ⟨b1, o1 + 1, none⟩) := ⟨_, rfl⟩
          have rt := tail_rd mi.rQ mi.cQ
          rw [← hA'] at rt ⊢
          clear hA'
          have mi2 := mi.setS (u := .slice A' (n - 1) (c1 - 1)) (Q := Q') (c := c1 - 1) (by rw [HLn.out]; rfl) rt (by have := mi.cQ; simp at this; omega) (fun r hr => mi.okQ r (by simp [hr]))
          obtain ⟨Y, hY⟩ : ∃ Y, Y = ((w1.setCell ⟨w.heap.size, 0, none⟩ (.slice A' (n - 1) (c1 - 1))).alloc (.cells #[.slice xa xl.length xc] 107)).drew := ⟨_, rfl⟩
          have mi3 := mi2.below (((below_alloc1 _ (.cells #[.slice xa xl.length xc] 107))).drew)
          rw [← hY] at mi3
          have kL : Y.heap[w1.heap.size]? = some (.cells #[((⟨xa, xb, xo, xc, xl⟩ : Rm) : Rm).val] 107 (0, 0)) := by subst hY; exact at_new (by simp)
          rw [← hY]
          clear mi mi2 hY rt
          have mi := mi3
          clear mi3
          clear p0 p1 q0 q1 cw dw fs ft ls ltt lbx lby
          obtain ⟨q0, q1⟩ := two mi.kT
          rw [← HLm.out] at q0
          have dw := (mi.bel.cell (World.block_lt_of_cell? _ _ dx)).trans dx
          have z0 := one kL
          have fl := Vl.free kL
          have ft := Vl.free mi.kT
          have ltt := blk_lt mi.kT
          have lll := blk_lt kL
          have hlo := HLo.out
          have hd1 : ¬ (w.heap.size + 1 = w1.heap.size) := by omega
          have hd2 : ¬ (w1.heap.size = w.heap.size + 1) := by omega
          clear hlo
          go_wp2
          go_region
          obtain ⟨A3, hA3⟩ : ∃ A3, A3 = (if c2 = 1 then some (⟨b2, o2, none⟩ : Addr) else some ⟨b2, o2 + 1, none⟩) := ⟨_, rfl⟩
          have rt := tail_rd mi.rP mi.cP
          rw [← hA3] at rt ⊢
          clear hA3
          have miL := mi.keep (w1 := Y.setCell ⟨w1.heap.size, 0, none⟩ (.slice ya yl.length yc)) (by simp) (Vl.bset mi.bel (by have := HLo.out; simp only; omega)) (fun z hz hu => Below.heap_setCell _ _ _ _ (by have := HLo.out; simp only; rcases hu with hu | hu; omega; (have := hob z hu; omega)))
          have mi2 := miL.setT (u := .slice A3 (m - 1) (c2 - 1)) (P := P') (c := c2 - 1) (by rw [HLm.out]; rfl) rt (by have := mi.cP; simp at this; omega) (fun r hr => mi.okP r (by simp [hr]))
          have kL2 : ((Y.setCell ⟨w1.heap.size, 0, none⟩ (.slice ya yl.length yc)).setCell ⟨w.heap.size + 1, 0, none⟩ (.slice A3 (m - 1) (c2 - 1))).heap[w1.heap.size]? = some (.cells #[(⟨ya, yb, yo, yc, yl⟩ : Rm).val] 107 (0, 0)) := (Below.heap_setCell _ _ _ _ (by simp only; omega)).trans (by simp [World.setCell, Array.getElem?_modify, kL, Rm.val])
          obtain ⟨Y2, hY2⟩ : ∃ Y2, Y2 = ((Y.setCell ⟨w1.heap.size, 0, none⟩ (.slice ya yl.length yc)).setCell ⟨w.heap.size + 1, 0, none⟩ (.slice A3 (m - 1) (c2 - 1))).drew := ⟨_, rfl⟩
          have mi3 := mi2.below ((Below.refl _ _).drew)
          rw [← hY2] at mi3
          have kL3 : Y2.heap[w1.heap.size]? = some (.cells #[(⟨ya, yb, yo, yc, yl⟩ : Rm).val] 107 (0, 0)) := by subst hY2; exact kL2
          rw [← hY2]
          clear mi mi2 miL hY2 rt kL kL2 hob q0 q1 dw z0 fl ft ltt lll hd1 hd2
          have mi := mi3
          have kL := kL3
          clear mi3 kL3
          cases hst : stAll (0)
          · have HE := step_f (x := (⟨ya, yb, yo, yc, yl⟩ : Rm)) HEq.out hst
            have hcall := (in_all (0) Y2)
            rw [hst] at hcall
            have HE2 : Hid (said F ++ _ = X) := HE
            clear hst HE HEq
            go_wp2_with (go_at_call 53; refine hcall.mono ?_; rintro e wz ⟨rfl, hw⟩; replace hw := hw.symm; subst hw)
            go_roundw
            case rel => exact ⟨_, _, _, _, _, _, _, _, _, _, _, _, mi, by have := HF6.out; simp only [List.length_cons] at this ⊢; omega, HE2.out⟩
            case measure => rw [HM.out, lenAt_of mi.kS, lenAt_of mi.kT]; simp only [List.length_cons, List.length_nil]; omega
          · have HE := step_t (x := (⟨ya, yb, yo, yc, yl⟩ : Rm)) HEq.out hst
            have hcall := (in_all (0) Y2)
            rw [hst] at hcall
            have HE2 : Hid (said (F ++ [(⟨ya, yb, yo, yc, yl⟩ : Rm)]) ++ _ = X) := HE
            clear hst HE HEq
            obtain ⟨oo0, oo1⟩ := two mi.kO
            have z0 := one kL
            have lO := blk_lt mi.kO
            obtain ⟨Yd, hYd⟩ : ∃ Yd, Yd = Y2.alloc (.cells #[(⟨ya, yb, yo, yc, yl⟩ : Rm).val] 107) := ⟨_, rfl⟩
            have hT : Yd.heap[Y2.heap.size]? = some (.cells #[(⟨ya, yb, yo, yc, yl⟩ : Rm).val] 107 (0, 0)) := by subst hYd; exact at_new rfl
            obtain ⟨va, vn, vc, Z, hrun, kOZ, mz⟩ := (mi.below (by subst hYd; exact below_alloc1 _ _ : Below Y2.heap.size Y2 Yd)).grow oky (by have := HF6.out; simp only [List.length_cons] at this; omega) hT
            obtain ⟨oz0, oz1⟩ := two kOZ
            have fZ := Vl.free kOZ
            have kS2 := mz.kS
            have kT2 := mz.kT
            have HS2 : Hid (lenAt (Z.setCell ⟨w.heap.size + 1 + 1 + 1, 0, none⟩ (.slice va vn vc)) w.heap.size = _) := lenAt_of kS2
            have HT2 : Hid (lenAt (Z.setCell ⟨w.heap.size + 1 + 1 + 1, 0, none⟩ (.slice va vn vc)) (w.heap.size + 1) = _) := lenAt_of kT2
            rw [hYd] at hrun
            clear hYd hT kS2 kT2
            simp only [Rm.val] at hrun z0
            go_wp2_with (first
              | (go_at_call 53; refine hcall.mono ?_; rintro e wz ⟨rfl, hw⟩; replace hw := hw.symm; subst hw)
              | (at_builtin; refine Hn.wpList_run rfl (Hn.exec_app (.tmp 50) (.tmp 52) rfl rfl rfl hrun) ?_))
            go_roundw
            case rel => exact ⟨_, _, _, _, _, _, _, _, _, _, _, _, mz, by have := HF6.out; simp only [List.length_cons, List.length_append, List.length_nil] at this ⊢; omega, HE2.out⟩
            case measure => rw [HM.out, HS2.out, HT2.out]; simp only [List.length_cons, List.length_nil]; omega
        · rw [if_neg (by omega), if_pos (by omega), ho] at HE1
          have HEq : Hid (said F ++ ((if stAll 1 = true then [(⟨ya, yb, yo, yc, yl⟩ : Rm).l] else []) ++ mergeL stAll (said ((⟨xa, xb, xo, xc, xl⟩ : Rm) :: Q')) (said P')) = X) := by simp only [said, List.map_cons]; exact HE1
          clear HE1 HE0 he0
          go_wp2_with (go_at_call 175; refine (hsd _ mi.bel).mono ?_; rw [ho]; rintro e w1 ⟨rfl, hb⟩; replace mi := mi.below hb; clear p0 p1 q0 q1; obtain ⟨p0, p1⟩ := two mi.kS; obtain ⟨q0, q1⟩ := two mi.kT; rw [← HLn.out] at p0; rw [← HLm.out] at q0; have fs := Vl.free mi.kS; have ft := Vl.free mi.kT; have ls := blk_lt mi.kS; have ltt := blk_lt mi.kT; replace cw := (hb.cell lbx).trans cw; have lbx := World.block_lt_of_cell? _ _ cw; replace dw := (hb.cell lby).trans dw; have lby := World.block_lt_of_cell? _ _ dw; clear hb)
          clear ho hsd
          go_region
          obtain ⟨A', hA'⟩ : ∃ A', A' = (if c2 = 1 then some (⟨b2, o2, none⟩ : Addr) else some ⟨b2, o2 + 1, none⟩) := ⟨_, rfl⟩
          have rt := tail_rd mi.rP mi.cP
          rw [← hA'] at rt ⊢
          clear hA'
          have mi2 := mi.setT (u := .slice A' (m - 1) (c2 - 1)) (P := P') (c := c2 - 1) (by rw [HLm.out]; rfl) rt (by have := mi.cP; simp at this; omega) (fun r hr => mi.okP r (by simp [hr]))
          obtain ⟨Y, hY⟩ : ∃ Y, Y = ((w1.setCell ⟨w.heap.size + 1, 0, none⟩ (.slice A' (m - 1) (c2 - 1))).alloc (.cells #[.slice ya yl.length yc] 107)).drew := ⟨_, rfl⟩
          have mi3 := mi2.below (((below_alloc1 _ (.cells #[.slice ya yl.length yc] 107))).drew)
          rw [← hY] at mi3
          have kL : Y.heap[w1.heap.size]? = some (.cells #[((⟨ya, yb, yo, yc, yl⟩ : Rm) : Rm).val] 107 (0, 0)) := by subst hY; exact at_new (by simp)
          rw [← hY]
          clear mi mi2 hY rt
          have mi := mi3
          clear mi3
          cases hst : stAll (1)
          · have HE := step_f (x := (⟨ya, yb, yo, yc, yl⟩ : Rm)) HEq.out hst
            have hcall := (in_all (1) Y)
            rw [hst] at hcall
            have HE2 : Hid (said F ++ _ = X) := HE
            clear hst HE HEq
            go_wp2_with (go_at_call 53; refine hcall.mono ?_; rintro e wz ⟨rfl, hw⟩; replace hw := hw.symm; subst hw)
            go_roundw
            case rel => exact ⟨_, _, _, _, _, _, _, _, _, _, _, _, mi, by have := HF6.out; simp only [List.length_cons] at this ⊢; omega, HE2.out⟩
            case measure => rw [HM.out, lenAt_of mi.kS, lenAt_of mi.kT]; simp only [List.length_cons, List.length_nil]; omega
          · have HE := step_t (x := (⟨ya, yb, yo, yc, yl⟩ : Rm)) HEq.out hst
            have hcall := (in_all (1) Y)
            rw [hst] at hcall
            have HE2 : Hid (said (F ++ [(⟨ya, yb, yo, yc, yl⟩ : Rm)]) ++ _ = X) := HE
            clear hst HE HEq
            obtain ⟨oo0, oo1⟩ := two mi.kO
            have z0 := one kL
            have lO := blk_lt mi.kO
            obtain ⟨Yd, hYd⟩ : ∃ Yd, Yd = Y.alloc (.cells #[(⟨ya, yb, yo, yc, yl⟩ : Rm).val] 107) := ⟨_, rfl⟩
            have hT : Yd.heap[Y.heap.size]? = some (.cells #[(⟨ya, yb, yo, yc, yl⟩ : Rm).val] 107 (0, 0)) := by subst hYd; exact at_new rfl
            obtain ⟨va, vn, vc, Z, hrun, kOZ, mz⟩ := (mi.below (by subst hYd; exact below_alloc1 _ _ : Below Y.heap.size Y Yd)).grow oky (by have := HF6.out; simp only [List.length_cons] at this; omega) hT
            obtain ⟨oz0, oz1⟩ := two kOZ
            have fZ := Vl.free kOZ
            have kS2 := mz.kS
            have kT2 := mz.kT
            have HS2 : Hid (lenAt (Z.setCell ⟨w.heap.size + 1 + 1 + 1, 0, none⟩ (.slice va vn vc)) w.heap.size = _) := lenAt_of kS2
            have HT2 : Hid (lenAt (Z.setCell ⟨w.heap.size + 1 + 1 + 1, 0, none⟩ (.slice va vn vc)) (w.heap.size + 1) = _) := lenAt_of kT2
            rw [hYd] at hrun
            clear hYd hT kS2 kT2
            simp only [Rm.val] at hrun z0
            go_wp2_with (first
              | (go_at_call 53; refine hcall.mono ?_; rintro e wz ⟨rfl, hw⟩; replace hw := hw.symm; subst hw)
              | (at_builtin; refine Hn.wpList_run rfl (Hn.exec_app (.tmp 50) (.tmp 52) rfl rfl rfl hrun) ?_))
            go_roundw
            case rel => exact ⟨_, _, _, _, _, _, _, _, _, _, _, _, mz, by have := HF6.out; simp only [List.length_cons, List.length_append, List.length_nil] at this ⊢; omega, HE2.out⟩
            case measure => rw [HM.out, HS2.out, HT2.out]; simp only [List.length_cons, List.length_nil]; omega

end Go.Proofs.YtkpchlojapkimaaGreat.Rl
