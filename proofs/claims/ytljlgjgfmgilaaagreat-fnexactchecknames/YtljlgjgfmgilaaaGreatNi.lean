/-
  The program's looks at names: where a rule's head and news fit.
-/
import Derived.Test.YtljlgjgfmgilaaaGreatNh
namespace Go.Proofs.YtljlgjgfmgilaaaGreat.Nq
set_option maxRecDepth 8000
set_option linter.unusedSimpArgs false
set_option linter.unusedVariables false
open Go Go.ChangeShapes Go.WideShapes Go.RowKit
open Num Pl Pm
open Nb (Mem)

theorem begins_eq (L : List Nv) (r : RuL) : beginsB L r = if r.2.2.length = 0 then false else (decide ((r.2.2.getD 0 lt0).1 = 1) && decide ((lk L (r.2.2.getD 0 lt0).2.1.1).k = 4 ∨ (lk L (r.2.2.getD 0 lt0).2.1.1).k = 2 ∧ r.1 ≠ 1)) := by
  unfold beginsB
  cases r.2.2 with
  | nil => rfl
  | cons l B => simp [List.getD]
set_option maxHeartbeats 4000000 in
theorem begins_any (r : Rm) (b : Nat) (L : List Nv) (w : World) (hx : r.Ok 0 w) (hm : Mem w b L) : Calls Tryz.prog 91 #[.map (some b), .agg #[.int .i64 r.k, .string r.h.s, .slice r.h.A.a r.h.A.Q.length r.h.A.c, .slice r.B.a r.B.Q.length r.B.c]] w fun e w' => e = .returned (.bool (beginsB L r.l)) ∧ Below w.heap.size w w' := by
  have HA : Hid (beginsB L r.l = if r.B.Q.length = 0 then false else (decide ((r.B.Q.getD 0 lm0).k = 1) && decide ((lk L (r.B.Q.getD 0 lm0).h.s).k = 4 ∨ (lk L (r.B.Q.getD 0 lm0).h.s).k = 2 ∧ r.k ≠ 1))) := by
    rw [Hid, begins_eq]
    show (if (told kdLm r.B.Q).length = 0 then false else (decide (((told kdLm r.B.Q).getD 0 lt0).1 = 1) && decide ((lk L ((told kdLm r.B.Q).getD 0 lt0).2.1.1).k = 4 ∨ (lk L ((told kdLm r.B.Q).getD 0 lt0).2.1.1).k = 2 ∧ r.k ≠ 1))) = _
    rw [told_len, told_get]; rfl
  generalize beginsB L r.l = A at HA ⊢
  have hd := hx.2
  obtain ⟨rk, rh, ⟨ba, bb, bo, bc, bQ⟩⟩ := r
  simp only at hd HA ⊢
  obtain ⟨m, hm0⟩ : ∃ m, m = bQ.length := ⟨_, rfl⟩
  rw [← hm0] at HA ⊢
  have B := below_alloc1 w (.cells #[.int .i64 rk, .string rh.s, .slice rh.A.a rh.A.Q.length rh.A.c, .slice ba m bc] 55)
  have hm1 := hm.below B
  by_cases hz : m = 0
  · obtain rfl : A = false := by rw [HA.out, if_pos hz]
    clear HA hd hm0 hx
    go_enter Tryz.func91, Tryz.ntmps91
    go_wp2
    go_ret
    exact ⟨rfl, by rw [hz] at B; exact B⟩
  · have hmp : 0 < m := by omega
    have hmi : (0 : Int) < (m : Int) := by omega
    have hh := hd.head (by simp only; omega)
    simp only at hh
    obtain rfl := hh
    obtain ⟨c0, c1, c2, c3, c4, c5, c6, c7, c8, c9⟩ := cellsLm hd (i := 0) (by simp only; omega)
    simp only [Nat.zero_mul, Nat.add_zero] at c0 c1 c2 c3 c4 c5 c6 c7 c8 c9
    have hy := (hd.ok 0 (by simp only; omega)).1.1
    rw [if_neg hz] at HA
    have hs0 : (bQ.getD 0 lm0).h.s.size ≤ maxLen := hy
    clear hd hm0 hx hy
    generalize bQ.getD 0 lm0 = y at HA c0 c1 c2 c3 c4 c5 c6 c7 c8 c9 hs0
    have lc := World.block_lt_of_cell? _ _ c0
    have hK := kind_any y b L _ hs0 hm1
    have HV : Hid (A = (decide (y.k = 1) && decide ((lk L y.h.s).k = 4 ∨ (lk L y.h.s).k = 2 ∧ rk ≠ 1))) := HA
    clear HA
    generalize (lk L y.h.s).k = kd at hK HV
    obtain ⟨yk, yh, yop, yp, yq⟩ := y
    simp only at HV hK c0 c1 c2 c3 c4 c5 c6 c7 c8 c9
    by_cases h1 : yk = 1
    · subst h1
      have HW : Hid (A = decide (kd = 4 ∨ kd = 2 ∧ rk ≠ 1)) := by rw [Hid, HV.out]; simp
      clear HV
      by_cases h4 : kd = 4
      · obtain rfl : A = true := by rw [HW.out]; simp [h4]
        subst h4
        clear HW
        go_enter Tryz.func91, Tryz.ntmps91
        go_wp2_with (go_at_call 90; refine hK.mono ?_; rintro e w1 ⟨rfl, hb⟩; have l1 := hb.size)
        go_ret
        exact ⟨rfl, Rw.next B hb⟩
      · by_cases h2 : kd = 2
        · subst h2
          have HR : Hid (A = decide (¬ rk = 1)) := by rw [Hid, HW.out]; simp
          clear HW h4
          have kb : (w.alloc (.cells #[.int .i64 rk, .string rh.s, .slice rh.A.a rh.A.Q.length rh.A.c, .slice (some ⟨bb, bo, none⟩) m bc] 55)).heap[w.heap.size]? = some (.cells #[.int .i64 rk, .string rh.s, .slice rh.A.a rh.A.Q.length rh.A.c, .slice (some ⟨bb, bo, none⟩) m bc] 55 (0, 0)) := at_new rfl
          go_enter Tryz.func91, Tryz.ntmps91
          go_wp2_with (go_at_call 90; refine hK.mono ?_; rintro e w1 ⟨rfl, hb⟩; obtain ⟨r0, r1, r2, r3⟩ := four ((hb.block _ (Pl.blk_lt kb)).trans kb))
          go_ret
          exact ⟨Pm.ret_bool (by rw [HR.out, bne_dec]), Rw.next B hb⟩
        · obtain rfl : A = false := by rw [HW.out]; simp [h4, h2]
          clear HW
          go_enter Tryz.func91, Tryz.ntmps91
          go_wp2_with (go_at_call 90; refine hK.mono ?_; rintro e w1 ⟨rfl, hb⟩; have l1 := hb.size)
          go_ret
          exact ⟨Pm.ret_bool (by simp [h4, h2]), Rw.next B hb⟩
    · obtain rfl : A = false := by rw [HV.out]; simp [h1]
      have g1 : (yk != 1) = true := by rw [bne_dec]; exact decide_eq_true h1
      clear HV h1
      go_enter Tryz.func91, Tryz.ntmps91
      go_wp2
      go_ret
      exact ⟨rfl, B⟩
theorem rd_drop {w : World} {a : Option Addr} {bb bo bc c : Nat} {Q : List Lm} (h : Rd kdLm 0 w ⟨some ⟨bb, bo, none⟩, bb, bo, bc, Q⟩) (ha : 0 < (Q.drop 1).length → a = some ⟨bb, bo + 10, none⟩) (hc : (Q.drop 1).length ≤ c) : Rd kdLm 0 w ⟨a, bb, bo + 10, c, Q.drop 1⟩ := by
  have hl := h.len
  simp only at hl
  refine ⟨ha, fun _ => Nat.zero_le _, fun i hi j hj => ?_, fun i hi => ?_, by simp only [List.length_drop]; omega, hc, fun q => absurd rfl q⟩
  · simp only [List.length_drop] at hi
    have := h.cell (i + 1) (by simp only; omega) j hj
    simp only at this ⊢
    have e : (Q.drop 1).getD i kdLm.z = Q.getD (i + 1) kdLm.z := by simp only [List.getD, List.getElem?_drop]; rw [show 1 + i = i + 1 by omega]
    rw [e, ← this]
    congr 2
    show bo + 10 + i * 10 + j = bo + (i + 1) * 10 + j
    omega
  · simp only [List.length_drop] at hi
    have := h.ok (i + 1) (by simp only; omega)
    have e : (Q.drop 1).getD i kdLm.z = Q.getD (i + 1) kdLm.z := by simp only [List.getD, List.getElem?_drop]; rw [show 1 + i = i + 1 by omega]
    simp only
    rw [e]; exact this
set_option maxHeartbeats 4000000 in
theorem newsFits_any (r : Rm) (b : Nat) (L : List Nv) (w : World) (hx : r.Ok 0 w) (hm : Mem w b L) : Calls Tryz.prog 57 #[.map (some b), .agg #[.int .i64 r.k, .string r.h.s, .slice r.h.A.a r.h.A.Q.length r.h.A.c, .slice r.B.a r.B.Q.length r.B.c]] w fun e w' => e = .returned (.bool (newsFits L r.l)) ∧ Below w.heap.size w w' := by
  have HA : Hid (newsFits L r.l = if (lk L r.h.s).k = 3 then !(told kdLm r.B.Q).any (nwsB L) else beginsB L r.l && !((told kdLm r.B.Q).drop 1).any (nwsB L)) := rfl
  generalize newsFits L r.l = A at HA ⊢
  obtain ⟨W1, hW1⟩ : ∃ W1, W1 = w.alloc (.cells #[.int .i64 r.k, .string r.h.s, .slice r.h.A.a r.h.A.Q.length r.h.A.c, .slice r.B.a r.B.Q.length r.B.c] 55) := ⟨_, rfl⟩
  have B : Below w.heap.size w W1 := by rw [hW1]; exact below_alloc1 _ _
  have k0 : W1.heap[w.heap.size]? = some (.cells #[.int .i64 r.k, .string r.h.s, .slice r.h.A.a r.h.A.Q.length r.h.A.c, .slice r.B.a r.B.Q.length r.B.c] 55 (0, 0)) := by rw [hW1]; exact at_new rfl
  have h1 : r.Ok 0 W1 := ⟨hx.1.below B, hx.2.below B⟩
  have hm1 := hm.below B
  obtain ⟨q1, _⟩ := hm1.run (s := r.h.s) hx.1.1
  rw [hW1] at q1
  have hBg := begins_any r b L W1 h1 hm1
  have hf := field_k
  by_cases h3 : (lk L r.h.s).k = 3
  · have HR : Hid (A = !(told kdLm r.B.Q).any (nwsB L)) := by rw [Hid, HA.out, if_pos h3]
    have hC := contains_news r.B b L W1 h1.2 hm1
    clear HA h1 hm1 hx hm hBg
    generalize (told kdLm r.B.Q).any (nwsB L) = V at HR hC
    generalize lk L r.h.s = d at q1 h3
    go_enter Tryz.func57, Tryz.ntmps57
    go_wp2_with (go_at_call 55; rw [← hW1]; clear hW1; refine hC.mono ?_; rintro e w1 ⟨rfl, hb⟩)
    go_ret
    exact ⟨Pm.ret_bool (by rw [HR.out]), Rw.next B hb⟩
  · have HN : Hid (A = (beginsB L r.l && !((told kdLm r.B.Q).drop 1).any (nwsB L))) := by rw [Hid, HA.out, if_neg h3]
    have HE : Hid (beginsB L r.l = true → 0 < r.B.Q.length) := fun h => by
      rw [begins_eq] at h
      by_cases hz : r.l.2.2.length = 0
      · rw [if_pos hz] at h; cases h
      · have : r.l.2.2.length = r.B.Q.length := told_len (K := kdLm) _
        omega
    clear HA
    cases hb0 : beginsB L r.l with
    | false =>
      obtain rfl : A = false := by rw [HN.out, hb0]; rfl
      rw [hb0] at hBg
      clear HN HE h1 hm1 hx hm
      generalize lk L r.h.s = d at q1 h3
      go_enter Tryz.func57, Tryz.ntmps57
      go_wp2_with (go_at_call 91; rw [← hW1]; clear hW1; refine hBg.mono ?_; rintro e w1 ⟨rfl, hb⟩)
      go_ret
      exact ⟨rfl, Rw.next B hb⟩
    | true =>
      have hpos := HE.out hb0
      have HR : Hid (A = !((told kdLm r.B.Q).drop 1).any (nwsB L)) := by rw [Hid, HN.out, hb0]; rfl
      rw [hb0] at hBg
      clear HN HE
      have hd := h1.2
      obtain ⟨rk, rh, ⟨ba, bb, bo, bc, bQ⟩⟩ := r
      simp only at hd hpos HR hBg q1 h3 k0 hW1 ⊢
      have hh := hd.head (by simp only; omega)
      simp only at hh
      obtain rfl := hh
      obtain ⟨q, hq⟩ : ∃ q, bQ.length = q + 1 := ⟨bQ.length - 1, by omega⟩
      have hroom := hd.room
      simp only at hroom
      have hC : ∀ a c, (0 < q → a = some ⟨bb, bo + 10, none⟩) → q ≤ c → ∀ W, Below W1.heap.size W1 W → Calls Tryz.prog 55 #[.slice a q c, .func (.func 92) #[.map (some b)] #[]] W fun e w' => e = .returned (.bool (((told kdLm bQ).drop 1).any (nwsB L))) ∧ Below W.heap.size W w' := fun a c h2 h4 W hb => by
        have el : (bQ.drop 1).length = q := by simp; omega
        have := contains_news ⟨a, bb, bo + 10, c, bQ.drop 1⟩ b L W (rd_drop (hd.below hb) (by rw [el]; exact h2) (by rw [el]; exact h4)) (hm1.below hb)
        simp only [el] at this
        have et : (told kdLm bQ).drop 1 = told kdLm (bQ.drop 1) := by simp [told, List.map_drop]
        rw [et]; exact this
      rw [hq] at hroom hBg k0 hW1 q1 ⊢
      clear hd h1 hm1 hx hm hpos hq
      generalize ((told kdLm bQ).drop 1).any (nwsB L) = V at HR hC
      generalize lk L rh.s = d at q1 h3
      have hcast : ((q + 1 : Nat) : Int) - 1 = (q : Int) := by omega
      by_cases hc1 : bc = 1
      · subst hc1
        obtain rfl : q = 0 := by omega
        simp only [Nat.zero_add] at q1 hW1 hBg k0 ⊢
        clear hcast hroom
        have HC0 : Hid (∀ a c, ∀ W, Below W1.heap.size W1 W → Calls Tryz.prog 55 #[.slice a 0 c, .func (.func 92) #[.map (some b)] #[]] W fun e w' => e = .returned (.bool V) ∧ Below W.heap.size W w') := fun a c W hb => hC a c (fun h => by omega) (by omega) W hb
        clear hC
        go_enter Tryz.func57, Tryz.ntmps57
        go_wp2_with (first
          | (go_at_call 91; rw [← hW1]; clear hW1; refine hBg.mono ?_; rintro e w1 ⟨rfl, hb⟩)
          | (go_at_call 55; refine (HC0.out _ _ _ hb).mono ?_; rintro e w2 ⟨rfl, hb2⟩))
        go_ret
        exact ⟨Pm.ret_bool (by rw [HR.out]), Rw.next (Rw.next B hb) hb2⟩
      · 
        go_enter Tryz.func57, Tryz.ntmps57
        go_wp2_with (first
          | (go_at_call 91; rw [← hW1]; clear hW1; refine hBg.mono ?_; rintro e w1 ⟨rfl, hb⟩)
          | (go_at_call 55; refine (hC _ _ (fun _ => rfl) (by omega) _ hb).mono ?_; rintro e w2 ⟨rfl, hb2⟩))
        go_ret
        exact ⟨Pm.ret_bool (by rw [HR.out]), Rw.next (Rw.next B hb) hb2⟩

end Go.Proofs.YtljlgjgfmgilaaaGreat.Nq
