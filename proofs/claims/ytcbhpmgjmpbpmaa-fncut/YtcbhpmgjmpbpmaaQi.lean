/-
  Contracts laid together (Mm, Mu, Da, Yu, Yx, Yy, Dw, Hw2, Mx, My).
-/
import Derived.Test.YtcbhpmgjmpbpmaaQh
namespace Go.Proofs.Ytcbhpmgjmpbpmaa.Mm
open Go Go.RowKit
set_option maxRecDepth 8000
open Num Pl Hr Hh Hf Hg Pa Pm Po Pq Mj
set_option linter.unusedSimpArgs false
set_option linter.unusedVariables false

theorem wt_drew {w : World} {a : Option Addr} {g : Nat} {l : List Int} (h : Wt w a g l) : Wt w.drew a g l := ⟨h.head, h.cell, h.free, h.size⟩
theorem cell_set1 {w : World} {a : Addr} {g i : Nat} {x : Value} {v : Option Value} (h : w.cell? a = v) (hne : a.block ≠ g) : (w.drew.setCell ⟨g, i, none⟩ x).cell? a = v := by
  rw [World.cell?_setCell_other _ _ _ _ (by intro q; exact hne (by rw [← q]))]
  exact h
theorem run_store3 {w : World} {g k : Nat} {u : Value} {v : Int} (hc : w.cell? ⟨g, k, none⟩ = some u) (hf : w.frozen? ⟨g, k, none⟩ = false) :
    (Instr.storeAt 3 (.pointer (some ⟨g, k, none⟩)) (.int .i64 v)).run Try.prog w = .ok () (w.setCell ⟨g, k, none⟩ (.int .i64 v)) := by
  simp [go_sem, hc, hf]
/-- A store of one integer into a row, in a region that draws its order. -/
theorem ready3 {md : Region.Mode} {ops : Array Oper} {Q : Exit → Act → World → Prop} {S : World → Prop} {fuel : Nat} {listed : Array Bool} {a : Act} {w : World} {i : Nat} {o : Oper} {rs : List Nat} (hi : ops[i]? = some o) (hgd : o.guard = none)
    (x y : Operand) (ho : o.op = .store 3 x y) (hd : o.dst = none) {g k : Nat} (hx : a.eval x = .pointer (some ⟨g, k, none⟩)) {v : Int} (hy : a.eval y = .int .i64 v) {u : Value} (hc : w.cell? ⟨g, k, none⟩ = some u) (hf : w.frozen? ⟨g, k, none⟩ = false)
    (hS : S (w.setCell ⟨g, k, none⟩ (.int .i64 v)))
    (hk : S (w.setCell ⟨g, k, none⟩ (.int .i64 v)) → wpAnyH Try.prog md ops Q S fuel (listed.setIfInBounds i true) (a.put none undef) (w.setCell ⟨g, k, none⟩ (.int .i64 v)))
    (hs : AllReadyH Try.prog md ops Q S fuel listed a w rs) : AllReadyH Try.prog md ops Q S fuel listed a w (i :: rs) :=
  AllReadyH.cons hi (fun K hK => by
    rw [if_pos (by simp only [Region.wanted, hgd])]
    unfold Oper.wp execOp
    simp only [ho, hx, hy, Sem.run_bind, Sem.run_pure, Result.andThen_ok, run_store3 hc hf]
    exact hK.out _ _ hS (fun hs' => by rw [hd]; exact hk hs')) hs
/-- One number more of a row that is filled. -/
theorem wt_up {w : World} {a : Option Addr} {g k : Nat} {v u : Nat → Int} (h : Wt w a g (lst (cut v u k))) (hk : k < 8) : Wt (w.setCell ⟨g, k, none⟩ (.int .i64 (v k))) a g (lst (cut v u (k + 1))) := by
  have hl : (lst (cut v u (k + 1))).length = (lst (cut v u k)).length := by rw [lst_len, lst_len]
  refine ⟨fun hp => h.head (by omega), fun i hi => ?_, fun i hi => ?_, by rw [lst_len]; omega⟩
  · rw [lst_len] at hi
    rw [lst_at _ hi]
    have hc := h.cell i (by rw [lst_len]; exact hi)
    rw [lst_at _ hi] at hc
    by_cases e : i = k
    · subst e
      rw [World.cell?_setCell_same _ _ _ hc]
      simp [cut]
    · rw [World.cell?_setCell_other _ _ _ _ (by intro q; injection q with q1 q2; exact e q2.symm), hc]
      have : (i < k + 1) = (i < k) := by rw [eq_iff_iff]; omega
      simp [cut, this]
  · rw [lst_len] at hi
    have := h.free i (by rw [lst_len]; exact hi)
    simpa using this

set_option maxRecDepth 8000 in
set_option maxHeartbeats 8000000 in
theorem meetS (b1 o1 c1 : Nat) (b2 o2 c2 : Nat) (b3 o3 c3 : Nat) (b4 o4 c4 : Nat) (V M V' M' : List Int) (w : World)
    (r1 : ∀ k, k < 8 → w.cell? ⟨b1, o1 + k, none⟩ = some (.int .i64 (V.getD k 0))) (r2 : ∀ k, k < 8 → w.cell? ⟨b2, o2 + k, none⟩ = some (.int .i64 (M.getD k 0))) (r3 : ∀ k, k < 8 → w.cell? ⟨b3, o3 + k, none⟩ = some (.int .i64 (V'.getD k 0))) (r4 : ∀ k, k < 8 → w.cell? ⟨b4, o4 + k, none⟩ = some (.int .i64 (M'.getD k 0)))
    (d1 : ∀ k, k < 8 → 0 ≤ V.getD k 0 ∧ V.getD k 0 < 281474976710656) (d2 : ∀ k, k < 8 → 0 ≤ M.getD k 0 ∧ M.getD k 0 < 281474976710656) (d3 : ∀ k, k < 8 → 0 ≤ V'.getD k 0 ∧ V'.getD k 0 < 281474976710656) (d4 : ∀ k, k < 8 → 0 ≤ M'.getD k 0 ∧ M'.getD k 0 < 281474976710656)
    (t0 : ∀ w1, Below w.heap.size w w1 → Calls Try.prog 132 #[.agg #[.slice (some ⟨b1, o1, none⟩) 8 c1, .slice (some ⟨b2, o2, none⟩) 8 c2]] w1 fun e w' => e = .returned (.bool true) ∧ Below w1.heap.size w1 w')
    (t1 : ∀ w1, Below w.heap.size w w1 → Calls Try.prog 132 #[.agg #[.slice (some ⟨b3, o3, none⟩) 8 c3, .slice (some ⟨b4, o4, none⟩) 8 c4]] w1 fun e w' => e = .returned (.bool true) ∧ Below w1.heap.size w1 w')
    (R : Bool) (hR : R = true ↔ ∀ f, f < 8 → ∀ i, i < Bw.fbN f → (Bw.bitI (M.getD f 0) i = 1 → Bw.bitI (M'.getD f 0) i = 1 → Bw.bitI (V.getD f 0) i = Bw.bitI (V'.getD f 0) i)) (nv nm : Nat → Int) (hnv : ∀ k, nv k = bits .or .i64 (V.getD k 0) (V'.getD k 0)) (hnm : ∀ k, nm k = bits .or .i64 (M.getD k 0) (M'.getD k 0)) (LV LM : List Int) (hy : R = true → LV = lst nv ∧ LM = lst nm) (hn : R = false → LV = [] ∧ LM = []) :
    Calls Try.prog 147 #[.agg #[.slice (some ⟨b1, o1, none⟩) 8 c1, .slice (some ⟨b2, o2, none⟩) 8 c2], .agg #[.slice (some ⟨b3, o3, none⟩) 8 c3, .slice (some ⟨b4, o4, none⟩) 8 c4]] w (ResMB w R LV LM) := by
  have R1 : Hid (∀ k, k < 8 → w.cell? ⟨b1, o1 + k, none⟩ = some (.int .i64 (V.getD k 0))) := r1
  have D1 : Hid (∀ k, k < 8 → 0 ≤ V.getD k 0 ∧ V.getD k 0 < 281474976710656) := d1
  have R2 : Hid (∀ k, k < 8 → w.cell? ⟨b2, o2 + k, none⟩ = some (.int .i64 (M.getD k 0))) := r2
  have D2 : Hid (∀ k, k < 8 → 0 ≤ M.getD k 0 ∧ M.getD k 0 < 281474976710656) := d2
  have R3 : Hid (∀ k, k < 8 → w.cell? ⟨b3, o3 + k, none⟩ = some (.int .i64 (V'.getD k 0))) := r3
  have D3 : Hid (∀ k, k < 8 → 0 ≤ V'.getD k 0 ∧ V'.getD k 0 < 281474976710656) := d3
  have R4 : Hid (∀ k, k < 8 → w.cell? ⟨b4, o4 + k, none⟩ = some (.int .i64 (M'.getD k 0))) := r4
  have D4 : Hid (∀ k, k < 8 → 0 ≤ M'.getD k 0 ∧ M'.getD k 0 < 281474976710656) := d4
  have T0 : Hid (∀ w1, Below w.heap.size w w1 → Calls Try.prog 132 #[.agg #[.slice (some ⟨b1, o1, none⟩) 8 c1, .slice (some ⟨b2, o2, none⟩) 8 c2]] w1 fun e w' => e = .returned (.bool true) ∧ Below w1.heap.size w1 w') := t0
  have T1 : Hid (∀ w1, Below w.heap.size w w1 → Calls Try.prog 132 #[.agg #[.slice (some ⟨b3, o3, none⟩) 8 c3, .slice (some ⟨b4, o4, none⟩) 8 c4]] w1 fun e w' => e = .returned (.bool true) ∧ Below w1.heap.size w1 w') := t1
  have HR : Hid (R = true ↔ ∀ f, f < 8 → ∀ i, i < Bw.fbN f → (Bw.bitI (M.getD f 0) i = 1 → Bw.bitI (M'.getD f 0) i = 1 → Bw.bitI (V.getD f 0) i = Bw.bitI (V'.getD f 0) i)) := hR
  have NV : Hid (∀ k, nv k = bits .or .i64 (V.getD k 0) (V'.getD k 0)) := hnv
  have NM : Hid (∀ k, nm k = bits .or .i64 (M.getD k 0) (M'.getD k 0)) := hnm
  have Y1 : Hid (R = true → LV = lst nv ∧ LM = lst nm) := hy
  have Y0 : Hid (R = false → LV = [] ∧ LM = []) := hn
  clear hR t0 t1 hnv hnm hy hn r1 d1 r2 d2 r3 d3 r4 d4
  obtain ⟨W0, hW0⟩ : ∃ W0, W0 = ((w.alloc (.cells #[.slice (some ⟨b1, o1, none⟩) 8 c1, .slice (some ⟨b2, o2, none⟩) 8 c2] 25)).alloc (.cells #[.slice (some ⟨b3, o3, none⟩) 8 c3, .slice (some ⟨b4, o4, none⟩) 8 c4] 25)).alloc (.cells #[.slice none 0 0, .slice none 0 0] 25) := ⟨_, rfl⟩
  have B : Below w.heap.size w W0 := by subst hW0; exact Rw.next (Mi.below2 _ _ _) (below_alloc1 _ _)
  have k0 : W0.heap[w.heap.size]? = some (.cells #[.slice (some ⟨b1, o1, none⟩) 8 c1, .slice (some ⟨b2, o2, none⟩) 8 c2] 25 (0, 0)) := by subst hW0; rw [at_old (by simp <;> omega), at_old (by simp), at_new rfl]
  have k1 : W0.heap[w.heap.size + 1]? = some (.cells #[.slice (some ⟨b3, o3, none⟩) 8 c3, .slice (some ⟨b4, o4, none⟩) 8 c4] 25 (0, 0)) := by subst hW0; rw [at_old (by simp), at_new (by simp)]
  have kR : W0.heap[w.heap.size + 1 + 1]? = some (.cells #[.slice none 0 0, .slice none 0 0] 25 (0, 0)) := by subst hW0; exact at_new (by simp)
  have tok1 : True := trivial
  go_enter Try.func147, Try.ntmps147
  go_wp2_with (first
    | (go_at_call 132; clear tok1; rw [← hW0]; refine (T0.out _ B).mono ?_; rintro e wa ⟨rfl, hb⟩; replace k0 := (hb.block _ (Array.getElem?_eq_some_iff.1 k0).1).trans k0; replace k1 := (hb.block _ (Array.getElem?_eq_some_iff.1 k1).1).trans k1; replace kR := (hb.block _ (Array.getElem?_eq_some_iff.1 kR).1).trans kR; obtain ⟨p00, p01⟩ := two k0; obtain ⟨p10, p11⟩ := two k1; replace B := Rw.next B hb; clear hb; have tok2 : True := trivial)
    | (go_at_call 132; clear tok2; refine (T1.out _ B).mono ?_; rintro e wb ⟨rfl, hb⟩; clear p00 p01 p10 p11; replace k0 := (hb.block _ (Array.getElem?_eq_some_iff.1 k0).1).trans k0; replace k1 := (hb.block _ (Array.getElem?_eq_some_iff.1 k1).1).trans k1; replace kR := (hb.block _ (Array.getElem?_eq_some_iff.1 kR).1).trans kR; obtain ⟨p00, p01⟩ := two k0; obtain ⟨p10, p11⟩ := two k1; replace B := Rw.next B hb; clear hb; have tok3 : True := trivial)
    | (go_at_call 96; clear tok3; refine (Mr.allS_any _).mono ?_; rintro e wc ⟨aV, gV, cV, aM, gM, cM, rfl, hV, hM, l1, l2, l3, hb⟩; have sb := hb.size; have zr3 := (Array.getElem?_eq_some_iff.1 kR).1; clear p00 p01 p10 p11; replace k0 := (hb.block _ (Array.getElem?_eq_some_iff.1 k0).1).trans k0; replace k1 := (hb.block _ (Array.getElem?_eq_some_iff.1 k1).1).trans k1; replace kR := (hb.block _ (Array.getElem?_eq_some_iff.1 kR).1).trans kR; replace B := Rw.next B hb; clear hb))
  clear hW0 T0 T1
  obtain rfl := hV.head (by rw [lst_len]; omega)
  obtain rfl := hM.head (by rw [lst_len]; omega)
  rw [lst_len]
  have z0 := (Array.getElem?_eq_some_iff.1 k0).1
  have z1 := (Array.getElem?_eq_some_iff.1 k1).1
  have zR := (Array.getElem?_eq_some_iff.1 kR).1
  have yV : gV < wc.heap.size := by have := Hr.wt_lt hV; rw [lst_len] at this; omega
  have yM : gM < wc.heap.size := by have := Hr.wt_lt hM; rw [lst_len] at this; omega
  have sz := B.size
  have kX : (wc.alloc (.cells #[.slice (some ⟨gV, 0, none⟩) 8 cV, .slice (some ⟨gM, 0, none⟩) 8 cM] 25)).heap[wc.heap.size]? = some (.cells #[.slice (some ⟨gV, 0, none⟩) 8 cV, .slice (some ⟨gM, 0, none⟩) 8 cM] 25 (0, 0)) := at_new rfl
  have BX : Below wc.heap.size wc (wc.alloc (.cells #[.slice (some ⟨gV, 0, none⟩) 8 cV, .slice (some ⟨gM, 0, none⟩) 8 cM] 25)) := below_alloc1 _ _
  replace k0 := (BX.block _ z0).trans k0
  replace k1 := (BX.block _ z1).trans k1
  replace kR := (BX.block _ zR).trans kR
  replace hV := hV.below BX
  replace hM := hM.below BX
  replace B := Rw.next B BX
  obtain ⟨X, hX⟩ : ∃ X, X = wc.heap.size := ⟨_, rfl⟩
  rw [← hX] at kX ⊢
  have HLT : Hid (∀ k, k < 8 → b1 < w.heap.size ∧ b2 < w.heap.size ∧ b3 < w.heap.size ∧ b4 < w.heap.size) := (fun k hk => ⟨World.block_lt_of_cell? _ _ (R1.out k hk), World.block_lt_of_cell? _ _ (R2.out k hk), World.block_lt_of_cell? _ _ (R3.out k hk), World.block_lt_of_cell? _ _ (R4.out k hk)⟩ : ∀ k, k < 8 → b1 < w.heap.size ∧ b2 < w.heap.size ∧ b3 < w.heap.size ∧ b4 < w.heap.size)
  have o1V : w.heap.size + 1 + 1 < gV := by omega
  have o1M : w.heap.size + 1 + 1 < gM := by omega
  have oXV : gV < X := by omega
  have oXM : gM < X := by omega
  have hV0 : Wt (wc.alloc (.cells #[.slice (some ⟨gV, 0, none⟩) 8 cV, .slice (some ⟨gM, 0, none⟩) 8 cM] 25)) (some ⟨gV, 0, none⟩) gV (lst (cut nv nul 0)) := hV
  have hM0 : Wt (wc.alloc (.cells #[.slice (some ⟨gV, 0, none⟩) 8 cV, .slice (some ⟨gM, 0, none⟩) 8 cM] 25)) (some ⟨gM, 0, none⟩) gM (lst (cut nm nul 0)) := hM
  clear hX z0 z1 zR yV yM sb sz zr3 l1 l2 hV hM
  go_loopw [7] (fun i wr => ∃ k : Nat, k ≤ 8 ∧ i = .int .i64 k ∧ Below w.heap.size w wr ∧ wr.heap[w.heap.size]? = some (.cells #[.slice (some ⟨b1, o1, none⟩) 8 c1, .slice (some ⟨b2, o2, none⟩) 8 c2] 25 (0, 0)) ∧ wr.heap[w.heap.size + 1]? = some (.cells #[.slice (some ⟨b3, o3, none⟩) 8 c3, .slice (some ⟨b4, o4, none⟩) 8 c4] 25 (0, 0)) ∧ wr.heap[w.heap.size + 1 + 1]? = some (.cells #[.slice none 0 0, .slice none 0 0] 25 (0, 0)) ∧ wr.heap[X]? = some (.cells #[.slice (some ⟨gV, 0, none⟩) 8 cV, .slice (some ⟨gM, 0, none⟩) 8 cM] 25 (0, 0)) ∧ Wt wr (some ⟨gV, 0, none⟩) gV (lst (cut nv nul k)) ∧ Wt wr (some ⟨gM, 0, none⟩) gM (lst (cut nm nul k)) ∧ ∀ f, f < k → ∀ i, i < Bw.fbN f → (Bw.bitI (M.getD f 0) i = 1 → Bw.bitI (M'.getD f 0) i = 1 → Bw.bitI (V.getD f 0) i = Bw.bitI (V'.getD f 0) i)) (fun i _ => 8 - (intOf i).toNat)
  case atStart => exact ⟨0, Nat.zero_le _, rfl, B, k0, k1, kR, kX, hV0, hM0, fun f hf => by omega⟩
  case round =>
    obtain ⟨k, hk, rfl, hbo, q0, q1, qR, qX, hv, hm, hgo⟩ := hrel
    have HG : Hid (∀ f, f < k → ∀ i, i < Bw.fbN f → (Bw.bitI (M.getD f 0) i = 1 → Bw.bitI (M'.getD f 0) i = 1 → Bw.bitI (V.getD f 0) i = Bw.bitI (V'.getD f 0) i)) := hgo
    clear hgo B k0 k1 kR kX hV0 hM0
    have z0 := (Array.getElem?_eq_some_iff.1 q0).1
    have z1 := (Array.getElem?_eq_some_iff.1 q1).1
    have zR := (Array.getElem?_eq_some_iff.1 qR).1
    have zX := (Array.getElem?_eq_some_iff.1 qX).1
    by_cases hlt : k < 8
    · have hkz : (k : Int) < 8 := by omega
      have h48 := Bw.fbN_le k
      have HF : Hid (∀ w, Calls Try.prog 142 #[.int .i64 k] w fun e w' => e = .returned (.int .i64 (Bw.fbN k : Int)) ∧ Below w.heap.size w w') := (fun w => by have := specBits_any k w; rw [Bw.fbN_eq] at this; exact this : ∀ w, Calls Try.prog 142 #[.int .i64 k] w fun e w' => e = .returned (.int .i64 (Bw.fbN k : Int)) ∧ Below w.heap.size w w')
      go_wp2
      go_loopw [8] (fun i wx => ∃ j : Nat, j ≤ Bw.fbN k ∧ i = .int .i64 j ∧ Below wr.heap.size wr wx ∧ ∀ i, i < j → (Bw.bitI (M.getD k 0) i = 1 → Bw.bitI (M'.getD k 0) i = 1 → Bw.bitI (V.getD k 0) i = Bw.bitI (V'.getD k 0) i)) (fun i _ => Bw.fbN k - (intOf i).toNat)
      case atStart => exact ⟨0, Nat.zero_le _, rfl, Below.refl _ _, fun i hi => by omega⟩
      case round =>
        obtain ⟨j, hj, rfl, hbi, hgi⟩ := hrel
        have HI : Hid (∀ i, i < j → (Bw.bitI (M.getD k 0) i = 1 → Bw.bitI (M'.getD k 0) i = 1 → Bw.bitI (V.getD k 0) i = Bw.bitI (V'.getD k 0) i)) := hgi
        clear hgi
        by_cases hjl : j < Bw.fbN k
        · have hjz : (j : Int) < (Bw.fbN k : Int) := by omega
          have hj48 : j < 48 := by omega
          go_wp2_with (go_at_call 142; refine (HF.out _).mono ?_; rintro e ws ⟨rfl, hb⟩; replace hbi := Rw.next hbi hb; clear hb)
          have hbel := Rw.next hbo hbi
          replace q0 := (hbi.block _ z0).trans q0
          replace q1 := (hbi.block _ z1).trans q1
          replace qR := (hbi.block _ zR).trans qR
          obtain ⟨p00, p01⟩ := two q0
          obtain ⟨p10, p11⟩ := two q1
          obtain ⟨s0, s1⟩ := two qR
          have fR := Bl.free qR
          have zS := (Array.getElem?_eq_some_iff.1 qR).1
          clear q0 q1 qR qX hv hm z0 z1 zR zX
          have g1 : ws.cell? ⟨b1, o1 + k, none⟩ = some (.int .i64 (V.getD k 0)) := (hbel.cell (World.block_lt_of_cell? _ _ (R1.out k hlt))).trans (R1.out k hlt)
          have H1 : Hid (∀ w, Calls Try.prog 143 #[.int .i64 (V.getD k 0), .int .i64 j] w fun e w' => e = .returned (.int .i64 (Bw.bitI (V.getD k 0) j)) ∧ w' = w) := (fun w => Bw.bit_any _ _ (D1.out k hlt).1 (D1.out k hlt).2 hj48 w : ∀ w, Calls Try.prog 143 #[.int .i64 (V.getD k 0), .int .i64 j] w fun e w' => e = .returned (.int .i64 (Bw.bitI (V.getD k 0) j)) ∧ w' = w)
          have y1 := Bw.bit_01 (V.getD k 0) j
          have g2 : ws.cell? ⟨b2, o2 + k, none⟩ = some (.int .i64 (M.getD k 0)) := (hbel.cell (World.block_lt_of_cell? _ _ (R2.out k hlt))).trans (R2.out k hlt)
          have H2 : Hid (∀ w, Calls Try.prog 143 #[.int .i64 (M.getD k 0), .int .i64 j] w fun e w' => e = .returned (.int .i64 (Bw.bitI (M.getD k 0) j)) ∧ w' = w) := (fun w => Bw.bit_any _ _ (D2.out k hlt).1 (D2.out k hlt).2 hj48 w : ∀ w, Calls Try.prog 143 #[.int .i64 (M.getD k 0), .int .i64 j] w fun e w' => e = .returned (.int .i64 (Bw.bitI (M.getD k 0) j)) ∧ w' = w)
          have y2 := Bw.bit_01 (M.getD k 0) j
          have g3 : ws.cell? ⟨b3, o3 + k, none⟩ = some (.int .i64 (V'.getD k 0)) := (hbel.cell (World.block_lt_of_cell? _ _ (R3.out k hlt))).trans (R3.out k hlt)
          have H3 : Hid (∀ w, Calls Try.prog 143 #[.int .i64 (V'.getD k 0), .int .i64 j] w fun e w' => e = .returned (.int .i64 (Bw.bitI (V'.getD k 0) j)) ∧ w' = w) := (fun w => Bw.bit_any _ _ (D3.out k hlt).1 (D3.out k hlt).2 hj48 w : ∀ w, Calls Try.prog 143 #[.int .i64 (V'.getD k 0), .int .i64 j] w fun e w' => e = .returned (.int .i64 (Bw.bitI (V'.getD k 0) j)) ∧ w' = w)
          have y3 := Bw.bit_01 (V'.getD k 0) j
          have g4 : ws.cell? ⟨b4, o4 + k, none⟩ = some (.int .i64 (M'.getD k 0)) := (hbel.cell (World.block_lt_of_cell? _ _ (R4.out k hlt))).trans (R4.out k hlt)
          have H4 : Hid (∀ w, Calls Try.prog 143 #[.int .i64 (M'.getD k 0), .int .i64 j] w fun e w' => e = .returned (.int .i64 (Bw.bitI (M'.getD k 0) j)) ∧ w' = w) := (fun w => Bw.bit_any _ _ (D4.out k hlt).1 (D4.out k hlt).2 hj48 w : ∀ w, Calls Try.prog 143 #[.int .i64 (M'.getD k 0), .int .i64 j] w fun e w' => e = .returned (.int .i64 (Bw.bitI (M'.getD k 0) j)) ∧ w' = w)
          have y4 := Bw.bit_01 (M'.getD k 0) j
          have HN : Hid (¬ (Bw.bitI (M.getD k 0) j = 1 → Bw.bitI (M'.getD k 0) j = 1 → Bw.bitI (V.getD k 0) j = Bw.bitI (V'.getD k 0) j) → R = false) := (fun h => by cases hr : R with | false => rfl | true => exact absurd (HR.out.1 hr k hlt j hjl) h : ¬ (Bw.bitI (M.getD k 0) j = 1 → Bw.bitI (M'.getD k 0) j = 1 → Bw.bitI (V.getD k 0) j = Bw.bitI (V'.getD k 0) j) → R = false)
          have HY : Hid ((Bw.bitI (M.getD k 0) j = 1 → Bw.bitI (M'.getD k 0) j = 1 → Bw.bitI (V.getD k 0) j = Bw.bitI (V'.getD k 0) j) → ∀ i, i < j + 1 → (Bw.bitI (M.getD k 0) i = 1 → Bw.bitI (M'.getD k 0) i = 1 → Bw.bitI (V.getD k 0) i = Bw.bitI (V'.getD k 0) i)) := (fun h i hi => by by_cases e : i = j; (· subst e; exact h); (· exact HI.out i (by omega)) : (Bw.bitI (M.getD k 0) j = 1 → Bw.bitI (M'.getD k 0) j = 1 → Bw.bitI (V.getD k 0) j = Bw.bitI (V'.getD k 0) j) → ∀ i, i < j + 1 → (Bw.bitI (M.getD k 0) i = 1 → Bw.bitI (M'.getD k 0) i = 1 → Bw.bitI (V.getD k 0) i = Bw.bitI (V'.getD k 0) i))
          generalize e1a : Bw.bitI (V.getD k 0) j = x1 at *
          generalize e1b : V.getD k 0 = m1 at H1 g1
          generalize e2a : Bw.bitI (M.getD k 0) j = x2 at *
          generalize e2b : M.getD k 0 = m2 at H2 g2
          generalize e3a : Bw.bitI (V'.getD k 0) j = x3 at *
          generalize e3b : V'.getD k 0 = m3 at H3 g3
          generalize e4a : Bw.bitI (M'.getD k 0) j = x4 at *
          generalize e4b : M'.getD k 0 = m4 at H4 g4
          clear e1a e1b e2a e2b e3a e3b e4a e4b
          clear HI HF NV NM HG HLT D1 D2 D3 D4
          have hc : x2 = 0 ∨ (x2 = 1 ∧ x4 = 0) ∨ (x2 = 1 ∧ x4 = 1 ∧ x1 = x3) ∨ (x2 = 1 ∧ x4 = 1 ∧ ¬ x1 = x3) := by omega
          rcases hc with u | ⟨u, v⟩ | ⟨u, v, t⟩ | ⟨u, v, t⟩
          · have U : Hid (x2 = 0) := u
            have f1 : (x2 == 1) = false := by rw [u]; rfl
            clear u y1 y2 y3 y4
            refine wp_region_held_drew (S := (fun w' => w'.cell? ⟨w.heap.size, 0, none⟩ = some (.slice (some ⟨b1, o1, none⟩) 8 c1) ∧ w'.cell? ⟨w.heap.size, 1, none⟩ = some (.slice (some ⟨b2, o2, none⟩) 8 c2) ∧ w'.cell? ⟨w.heap.size + 1, 0, none⟩ = some (.slice (some ⟨b3, o3, none⟩) 8 c3) ∧ w'.cell? ⟨w.heap.size + 1, 1, none⟩ = some (.slice (some ⟨b4, o4, none⟩) 8 c4) ∧ w'.cell? ⟨b1, o1 + k, none⟩ = some (.int .i64 m1) ∧ w'.cell? ⟨b2, o2 + k, none⟩ = some (.int .i64 m2) ∧ w'.cell? ⟨b3, o3 + k, none⟩ = some (.int .i64 m3) ∧ w'.cell? ⟨b4, o4 + k, none⟩ = some (.int .i64 m4))) (by kernel_rfl) ⟨p00, p01, p10, p11, g1, g2, g3, g4⟩ (fun hHeld => ?_)
            refine take (i := 0) (d := some 29) (v := .pointer (some ⟨w.heap.size, 1, none⟩)) rfl (by kernel_rfl) (by kernel_rfl) (by kernel_rfl) (by kernel_rfl) (fun _ _ _ h => h) (Or.inl ⟨by rfl, by intro w hSw; go_simp⟩) hHeld ?_
            simp only [Act.put, List.setIfInBounds_toArray, List.set_cons_zero, List.set_cons_succ]
            refine take (i := 1) (d := some 30) (v := .slice (some ⟨b2, o2, none⟩) 8 c2) rfl (by kernel_rfl) (by kernel_rfl) (by kernel_rfl) (by kernel_rfl) (fun _ _ _ h => h) (Or.inl ⟨by rfl, by intro w hSw; obtain ⟨p00, p01, p10, p11, g1, g2, g3, g4⟩ := hSw; go_simp⟩) hHeld ?_
            simp only [Act.put, List.setIfInBounds_toArray, List.set_cons_zero, List.set_cons_succ]
            refine take (i := 2) (d := some 31) (v := .int .i64 k) rfl (by kernel_rfl) (by kernel_rfl) (by kernel_rfl) (by kernel_rfl) (fun _ _ _ h => h) (Or.inl ⟨by rfl, by intro w hSw; go_simp⟩) hHeld ?_
            simp only [Act.put, List.setIfInBounds_toArray, List.set_cons_zero, List.set_cons_succ]
            refine take (i := 3) (d := some 32) (v := .pointer (some ⟨b2, o2 + k, none⟩)) rfl (by kernel_rfl) (by kernel_rfl) (by kernel_rfl) (by kernel_rfl) (fun _ _ _ h => h) (Or.inl ⟨by rfl, by intro w hSw; go_simp⟩) hHeld ?_
            simp only [Act.put, List.setIfInBounds_toArray, List.set_cons_zero, List.set_cons_succ]
            refine take (i := 4) (d := some 33) (v := .int .i64 m2) rfl (by kernel_rfl) (by kernel_rfl) (by kernel_rfl) (by kernel_rfl) (fun _ _ _ h => h) (Or.inl ⟨by rfl, by intro w hSw; obtain ⟨p00, p01, p10, p11, g1, g2, g3, g4⟩ := hSw; go_simp⟩) hHeld ?_
            simp only [Act.put, List.setIfInBounds_toArray, List.set_cons_zero, List.set_cons_succ]
            refine take (i := 5) (d := some 34) (v := .int .i64 j) rfl (by kernel_rfl) (by kernel_rfl) (by kernel_rfl) (by kernel_rfl) (fun _ _ _ h => h) (Or.inl ⟨by rfl, by intro w hSw; go_simp⟩) hHeld ?_
            simp only [Act.put, List.setIfInBounds_toArray, List.set_cons_zero, List.set_cons_succ]
            refine wpAnyH_ready (rs := [6]) (by kernel_rfl) (by simp) (Mi.readyCall2 rfl (by kernel_rfl) 143 (.tmp 33) (.tmp 34) 3 3 (by kernel_rfl) 35 (by kernel_rfl) _ _ (by kernel_rfl) (by kernel_rfl) (fun _ => rfl) (H2.out _) (fun wx hb => by rw [hb]; exact hHeld) (fun wx hb hHeld => ?_) AllReadyH.nil)
            subst hb
            simp only [Act.put, List.setIfInBounds_toArray, List.set_cons_zero, List.set_cons_succ]
            refine take (i := 7) (d := some 36) (v := .bool false) rfl (by kernel_rfl) (by kernel_rfl) (by kernel_rfl) (by kernel_rfl) (fun _ _ _ h => h) (Or.inl ⟨by rfl, by intro w hSw; go_simp⟩) hHeld ?_
            simp only [Act.put, List.setIfInBounds_toArray, List.set_cons_zero, List.set_cons_succ]
            refine take (i := 8) (d := some 37) (v := .bool false) rfl (by kernel_rfl) (by kernel_rfl) (by kernel_rfl) (by kernel_rfl) (fun _ _ _ h => h) (Or.inl ⟨by rfl, by intro w hSw; go_simp⟩) hHeld ?_
            simp only [Act.put, List.setIfInBounds_toArray, List.set_cons_zero, List.set_cons_succ]
            refine take (i := 9) (d := some 38) (v := undef) rfl (by kernel_rfl) (by kernel_rfl) (by kernel_rfl) (by kernel_rfl) (fun _ _ _ h => h) (Or.inr ⟨by rfl, rfl⟩) hHeld ?_
            simp only [Act.put, List.setIfInBounds_toArray, List.set_cons_zero, List.set_cons_succ]
            refine take (i := 10) (d := some 39) (v := undef) rfl (by kernel_rfl) (by kernel_rfl) (by kernel_rfl) (by kernel_rfl) (fun _ _ _ h => h) (Or.inr ⟨by rfl, rfl⟩) hHeld ?_
            simp only [Act.put, List.setIfInBounds_toArray, List.set_cons_zero, List.set_cons_succ]
            refine take (i := 11) (d := some 40) (v := undef) rfl (by kernel_rfl) (by kernel_rfl) (by kernel_rfl) (by kernel_rfl) (fun _ _ _ h => h) (Or.inr ⟨by rfl, rfl⟩) hHeld ?_
            simp only [Act.put, List.setIfInBounds_toArray, List.set_cons_zero, List.set_cons_succ]
            refine take (i := 12) (d := some 41) (v := undef) rfl (by kernel_rfl) (by kernel_rfl) (by kernel_rfl) (by kernel_rfl) (fun _ _ _ h => h) (Or.inr ⟨by rfl, rfl⟩) hHeld ?_
            simp only [Act.put, List.setIfInBounds_toArray, List.set_cons_zero, List.set_cons_succ]
            refine take (i := 13) (d := some 42) (v := undef) rfl (by kernel_rfl) (by kernel_rfl) (by kernel_rfl) (by kernel_rfl) (fun _ _ _ h => h) (Or.inr ⟨by rfl, rfl⟩) hHeld ?_
            simp only [Act.put, List.setIfInBounds_toArray, List.set_cons_zero, List.set_cons_succ]
            refine take (i := 14) (d := some 43) (v := undef) rfl (by kernel_rfl) (by kernel_rfl) (by kernel_rfl) (by kernel_rfl) (fun _ _ _ h => h) (Or.inr ⟨by rfl, rfl⟩) hHeld ?_
            simp only [Act.put, List.setIfInBounds_toArray, List.set_cons_zero, List.set_cons_succ]
            refine take (i := 15) (d := some 44) (v := undef) rfl (by kernel_rfl) (by kernel_rfl) (by kernel_rfl) (by kernel_rfl) (fun _ _ _ h => h) (Or.inr ⟨by rfl, rfl⟩) hHeld ?_
            simp only [Act.put, List.setIfInBounds_toArray, List.set_cons_zero, List.set_cons_succ]
            refine take (i := 16) (d := some 45) (v := undef) rfl (by kernel_rfl) (by kernel_rfl) (by kernel_rfl) (by kernel_rfl) (fun _ _ _ h => h) (Or.inr ⟨by rfl, rfl⟩) hHeld ?_
            simp only [Act.put, List.setIfInBounds_toArray, List.set_cons_zero, List.set_cons_succ]
            refine take (i := 17) (d := some 46) (v := .bool false) rfl (by kernel_rfl) (by kernel_rfl) (by kernel_rfl) (by kernel_rfl) (fun _ _ _ h => h) (Or.inl ⟨by rfl, by intro w hSw; go_simp⟩) hHeld ?_
            simp only [Act.put, List.setIfInBounds_toArray, List.set_cons_zero, List.set_cons_succ]
            refine take (i := 18) (d := some 47) (v := .bool false) rfl (by kernel_rfl) (by kernel_rfl) (by kernel_rfl) (by kernel_rfl) (fun _ _ _ h => h) (Or.inl ⟨by rfl, by intro w hSw; go_simp⟩) hHeld ?_
            simp only [Act.put, List.setIfInBounds_toArray, List.set_cons_zero, List.set_cons_succ]
            refine take (i := 19) (d := some 48) (v := undef) rfl (by kernel_rfl) (by kernel_rfl) (by kernel_rfl) (by kernel_rfl) (fun _ _ _ h => h) (Or.inr ⟨by rfl, rfl⟩) hHeld ?_
            simp only [Act.put, List.setIfInBounds_toArray, List.set_cons_zero, List.set_cons_succ]
            refine take (i := 20) (d := some 49) (v := undef) rfl (by kernel_rfl) (by kernel_rfl) (by kernel_rfl) (by kernel_rfl) (fun _ _ _ h => h) (Or.inr ⟨by rfl, rfl⟩) hHeld ?_
            simp only [Act.put, List.setIfInBounds_toArray, List.set_cons_zero, List.set_cons_succ]
            refine take (i := 21) (d := some 50) (v := undef) rfl (by kernel_rfl) (by kernel_rfl) (by kernel_rfl) (by kernel_rfl) (fun _ _ _ h => h) (Or.inr ⟨by rfl, rfl⟩) hHeld ?_
            simp only [Act.put, List.setIfInBounds_toArray, List.set_cons_zero, List.set_cons_succ]
            refine take (i := 22) (d := some 51) (v := undef) rfl (by kernel_rfl) (by kernel_rfl) (by kernel_rfl) (by kernel_rfl) (fun _ _ _ h => h) (Or.inr ⟨by rfl, rfl⟩) hHeld ?_
            simp only [Act.put, List.setIfInBounds_toArray, List.set_cons_zero, List.set_cons_succ]
            refine take (i := 23) (d := some 52) (v := undef) rfl (by kernel_rfl) (by kernel_rfl) (by kernel_rfl) (by kernel_rfl) (fun _ _ _ h => h) (Or.inr ⟨by rfl, rfl⟩) hHeld ?_
            simp only [Act.put, List.setIfInBounds_toArray, List.set_cons_zero, List.set_cons_succ]
            refine take (i := 24) (d := some 53) (v := undef) rfl (by kernel_rfl) (by kernel_rfl) (by kernel_rfl) (by kernel_rfl) (fun _ _ _ h => h) (Or.inr ⟨by rfl, rfl⟩) hHeld ?_
            simp only [Act.put, List.setIfInBounds_toArray, List.set_cons_zero, List.set_cons_succ]
            refine take (i := 26) (d := some 55) (v := undef) rfl (by kernel_rfl) (by kernel_rfl) (by kernel_rfl) (by kernel_rfl) (fun _ _ _ h => h) (Or.inr ⟨by rfl, rfl⟩) hHeld ?_
            simp only [Act.put, List.setIfInBounds_toArray, List.set_cons_zero, List.set_cons_succ]
            refine take (i := 27) (d := some 56) (v := undef) rfl (by kernel_rfl) (by kernel_rfl) (by kernel_rfl) (by kernel_rfl) (fun _ _ _ h => h) (Or.inr ⟨by rfl, rfl⟩) hHeld ?_
            simp only [Act.put, List.setIfInBounds_toArray, List.set_cons_zero, List.set_cons_succ]
            refine take (i := 28) (d := some 57) (v := undef) rfl (by kernel_rfl) (by kernel_rfl) (by kernel_rfl) (by kernel_rfl) (fun _ _ _ h => h) (Or.inr ⟨by rfl, rfl⟩) hHeld ?_
            simp only [Act.put, List.setIfInBounds_toArray, List.set_cons_zero, List.set_cons_succ]
            refine take (i := 29) (d := some 58) (v := undef) rfl (by kernel_rfl) (by kernel_rfl) (by kernel_rfl) (by kernel_rfl) (fun _ _ _ h => h) (Or.inr ⟨by rfl, rfl⟩) hHeld ?_
            simp only [Act.put, List.setIfInBounds_toArray, List.set_cons_zero, List.set_cons_succ]
            refine take (i := 30) (d := some 59) (v := undef) rfl (by kernel_rfl) (by kernel_rfl) (by kernel_rfl) (by kernel_rfl) (fun _ _ _ h => h) (Or.inr ⟨by rfl, rfl⟩) hHeld ?_
            simp only [Act.put, List.setIfInBounds_toArray, List.set_cons_zero, List.set_cons_succ]
            refine take (i := 31) (d := some 60) (v := undef) rfl (by kernel_rfl) (by kernel_rfl) (by kernel_rfl) (by kernel_rfl) (fun _ _ _ h => h) (Or.inr ⟨by rfl, rfl⟩) hHeld ?_
            simp only [Act.put, List.setIfInBounds_toArray, List.set_cons_zero, List.set_cons_succ]
            refine take (i := 25) (d := some 54) (v := undef) rfl (by kernel_rfl) (by kernel_rfl) (by kernel_rfl) (by kernel_rfl) (fun _ _ _ h => h) (Or.inr ⟨by rfl, rfl⟩) hHeld ?_
            simp only [Act.put, List.setIfInBounds_toArray, List.set_cons_zero, List.set_cons_succ]
            refine take (i := 32) (d := some 61) (v := undef) rfl (by kernel_rfl) (by kernel_rfl) (by kernel_rfl) (by kernel_rfl) (fun _ _ _ h => h) (Or.inr ⟨by rfl, rfl⟩) hHeld ?_
            simp only [Act.put, List.setIfInBounds_toArray, List.set_cons_zero, List.set_cons_succ]
            refine take (i := 33) (d := some 62) (v := undef) rfl (by kernel_rfl) (by kernel_rfl) (by kernel_rfl) (by kernel_rfl) (fun _ _ _ h => h) (Or.inr ⟨by rfl, rfl⟩) hHeld ?_
            simp only [Act.put, List.setIfInBounds_toArray, List.set_cons_zero, List.set_cons_succ]
            refine take (i := 34) (d := some 63) (v := .bool false) rfl (by kernel_rfl) (by kernel_rfl) (by kernel_rfl) (by kernel_rfl) (fun _ _ _ h => h) (Or.inl ⟨by rfl, by intro w hSw; go_simp⟩) hHeld ?_
            simp only [Act.put, List.setIfInBounds_toArray, List.set_cons_zero, List.set_cons_succ]
            refine wpAnyH_done (by kernel_rfl) ?_ _
            go_wp2
            go_roundw
            case rel => exact ⟨j + 1, by omega, by go_num, hbi.drew, HY.out (fun h => by have := U.out; omega)⟩
            case measure => simp [intOf]; omega
          · have U : Hid (x4 = 0) := v
            have f1 : (x2 == 1) = true := by rw [u]; rfl
            have f2 : (x4 == 1) = false := by rw [v]; rfl
            clear u v y1 y2 y3 y4
            refine wp_region_held_drew (S := (fun w' => w'.cell? ⟨w.heap.size, 0, none⟩ = some (.slice (some ⟨b1, o1, none⟩) 8 c1) ∧ w'.cell? ⟨w.heap.size, 1, none⟩ = some (.slice (some ⟨b2, o2, none⟩) 8 c2) ∧ w'.cell? ⟨w.heap.size + 1, 0, none⟩ = some (.slice (some ⟨b3, o3, none⟩) 8 c3) ∧ w'.cell? ⟨w.heap.size + 1, 1, none⟩ = some (.slice (some ⟨b4, o4, none⟩) 8 c4) ∧ w'.cell? ⟨b1, o1 + k, none⟩ = some (.int .i64 m1) ∧ w'.cell? ⟨b2, o2 + k, none⟩ = some (.int .i64 m2) ∧ w'.cell? ⟨b3, o3 + k, none⟩ = some (.int .i64 m3) ∧ w'.cell? ⟨b4, o4 + k, none⟩ = some (.int .i64 m4))) (by kernel_rfl) ⟨p00, p01, p10, p11, g1, g2, g3, g4⟩ (fun hHeld => ?_)
            refine take (i := 0) (d := some 29) (v := .pointer (some ⟨w.heap.size, 1, none⟩)) rfl (by kernel_rfl) (by kernel_rfl) (by kernel_rfl) (by kernel_rfl) (fun _ _ _ h => h) (Or.inl ⟨by rfl, by intro w hSw; go_simp⟩) hHeld ?_
            simp only [Act.put, List.setIfInBounds_toArray, List.set_cons_zero, List.set_cons_succ]
            refine take (i := 1) (d := some 30) (v := .slice (some ⟨b2, o2, none⟩) 8 c2) rfl (by kernel_rfl) (by kernel_rfl) (by kernel_rfl) (by kernel_rfl) (fun _ _ _ h => h) (Or.inl ⟨by rfl, by intro w hSw; obtain ⟨p00, p01, p10, p11, g1, g2, g3, g4⟩ := hSw; go_simp⟩) hHeld ?_
            simp only [Act.put, List.setIfInBounds_toArray, List.set_cons_zero, List.set_cons_succ]
            refine take (i := 2) (d := some 31) (v := .int .i64 k) rfl (by kernel_rfl) (by kernel_rfl) (by kernel_rfl) (by kernel_rfl) (fun _ _ _ h => h) (Or.inl ⟨by rfl, by intro w hSw; go_simp⟩) hHeld ?_
            simp only [Act.put, List.setIfInBounds_toArray, List.set_cons_zero, List.set_cons_succ]
            refine take (i := 3) (d := some 32) (v := .pointer (some ⟨b2, o2 + k, none⟩)) rfl (by kernel_rfl) (by kernel_rfl) (by kernel_rfl) (by kernel_rfl) (fun _ _ _ h => h) (Or.inl ⟨by rfl, by intro w hSw; go_simp⟩) hHeld ?_
            simp only [Act.put, List.setIfInBounds_toArray, List.set_cons_zero, List.set_cons_succ]
            refine take (i := 4) (d := some 33) (v := .int .i64 m2) rfl (by kernel_rfl) (by kernel_rfl) (by kernel_rfl) (by kernel_rfl) (fun _ _ _ h => h) (Or.inl ⟨by rfl, by intro w hSw; obtain ⟨p00, p01, p10, p11, g1, g2, g3, g4⟩ := hSw; go_simp⟩) hHeld ?_
            simp only [Act.put, List.setIfInBounds_toArray, List.set_cons_zero, List.set_cons_succ]
            refine take (i := 5) (d := some 34) (v := .int .i64 j) rfl (by kernel_rfl) (by kernel_rfl) (by kernel_rfl) (by kernel_rfl) (fun _ _ _ h => h) (Or.inl ⟨by rfl, by intro w hSw; go_simp⟩) hHeld ?_
            simp only [Act.put, List.setIfInBounds_toArray, List.set_cons_zero, List.set_cons_succ]
            refine wpAnyH_ready (rs := [6]) (by kernel_rfl) (by simp) (Mi.readyCall2 rfl (by kernel_rfl) 143 (.tmp 33) (.tmp 34) 3 3 (by kernel_rfl) 35 (by kernel_rfl) _ _ (by kernel_rfl) (by kernel_rfl) (fun _ => rfl) (H2.out _) (fun wx hb => by rw [hb]; exact hHeld) (fun wx hb hHeld => ?_) AllReadyH.nil)
            subst hb
            simp only [Act.put, List.setIfInBounds_toArray, List.set_cons_zero, List.set_cons_succ]
            refine take (i := 7) (d := some 36) (v := .bool true) rfl (by kernel_rfl) (by kernel_rfl) (by kernel_rfl) (by kernel_rfl) (fun _ _ _ h => h) (Or.inl ⟨by rfl, by intro w hSw; go_simp⟩) hHeld ?_
            simp only [Act.put, List.setIfInBounds_toArray, List.set_cons_zero, List.set_cons_succ]
            refine take (i := 8) (d := some 37) (v := .bool true) rfl (by kernel_rfl) (by kernel_rfl) (by kernel_rfl) (by kernel_rfl) (fun _ _ _ h => h) (Or.inl ⟨by rfl, by intro w hSw; go_simp⟩) hHeld ?_
            simp only [Act.put, List.setIfInBounds_toArray, List.set_cons_zero, List.set_cons_succ]
            refine take (i := 9) (d := some 38) (v := .pointer (some ⟨w.heap.size + 1, 1, none⟩)) rfl (by kernel_rfl) (by kernel_rfl) (by kernel_rfl) (by kernel_rfl) (fun _ _ _ h => h) (Or.inl ⟨by rfl, by intro w hSw; go_simp⟩) hHeld ?_
            simp only [Act.put, List.setIfInBounds_toArray, List.set_cons_zero, List.set_cons_succ]
            refine take (i := 10) (d := some 39) (v := .slice (some ⟨b4, o4, none⟩) 8 c4) rfl (by kernel_rfl) (by kernel_rfl) (by kernel_rfl) (by kernel_rfl) (fun _ _ _ h => h) (Or.inl ⟨by rfl, by intro w hSw; obtain ⟨p00, p01, p10, p11, g1, g2, g3, g4⟩ := hSw; go_simp⟩) hHeld ?_
            simp only [Act.put, List.setIfInBounds_toArray, List.set_cons_zero, List.set_cons_succ]
            refine take (i := 11) (d := some 40) (v := .int .i64 k) rfl (by kernel_rfl) (by kernel_rfl) (by kernel_rfl) (by kernel_rfl) (fun _ _ _ h => h) (Or.inl ⟨by rfl, by intro w hSw; go_simp⟩) hHeld ?_
            simp only [Act.put, List.setIfInBounds_toArray, List.set_cons_zero, List.set_cons_succ]
            refine take (i := 12) (d := some 41) (v := .pointer (some ⟨b4, o4 + k, none⟩)) rfl (by kernel_rfl) (by kernel_rfl) (by kernel_rfl) (by kernel_rfl) (fun _ _ _ h => h) (Or.inl ⟨by rfl, by intro w hSw; go_simp⟩) hHeld ?_
            simp only [Act.put, List.setIfInBounds_toArray, List.set_cons_zero, List.set_cons_succ]
            refine take (i := 13) (d := some 42) (v := .int .i64 m4) rfl (by kernel_rfl) (by kernel_rfl) (by kernel_rfl) (by kernel_rfl) (fun _ _ _ h => h) (Or.inl ⟨by rfl, by intro w hSw; obtain ⟨p00, p01, p10, p11, g1, g2, g3, g4⟩ := hSw; go_simp⟩) hHeld ?_
            simp only [Act.put, List.setIfInBounds_toArray, List.set_cons_zero, List.set_cons_succ]
            refine take (i := 14) (d := some 43) (v := .int .i64 j) rfl (by kernel_rfl) (by kernel_rfl) (by kernel_rfl) (by kernel_rfl) (fun _ _ _ h => h) (Or.inl ⟨by rfl, by intro w hSw; go_simp⟩) hHeld ?_
            simp only [Act.put, List.setIfInBounds_toArray, List.set_cons_zero, List.set_cons_succ]
            refine wpAnyH_ready (rs := [15]) (by kernel_rfl) (by simp) (Mi.readyCall2 rfl (by kernel_rfl) 143 (.tmp 42) (.tmp 43) 3 3 (by kernel_rfl) 44 (by kernel_rfl) _ _ (by kernel_rfl) (by kernel_rfl) (fun _ => rfl) (H4.out _) (fun wx hb => by rw [hb]; exact hHeld) (fun wx hb hHeld => ?_) AllReadyH.nil)
            subst hb
            simp only [Act.put, List.setIfInBounds_toArray, List.set_cons_zero, List.set_cons_succ]
            refine take (i := 16) (d := some 45) (v := .bool false) rfl (by kernel_rfl) (by kernel_rfl) (by kernel_rfl) (by kernel_rfl) (fun _ _ _ h => h) (Or.inl ⟨by rfl, by intro w hSw; go_simp⟩) hHeld ?_
            simp only [Act.put, List.setIfInBounds_toArray, List.set_cons_zero, List.set_cons_succ]
            refine take (i := 17) (d := some 46) (v := .bool false) rfl (by kernel_rfl) (by kernel_rfl) (by kernel_rfl) (by kernel_rfl) (fun _ _ _ h => h) (Or.inl ⟨by rfl, by intro w hSw; go_simp⟩) hHeld ?_
            simp only [Act.put, List.setIfInBounds_toArray, List.set_cons_zero, List.set_cons_succ]
            refine take (i := 18) (d := some 47) (v := .bool false) rfl (by kernel_rfl) (by kernel_rfl) (by kernel_rfl) (by kernel_rfl) (fun _ _ _ h => h) (Or.inl ⟨by rfl, by intro w hSw; go_simp⟩) hHeld ?_
            simp only [Act.put, List.setIfInBounds_toArray, List.set_cons_zero, List.set_cons_succ]
            refine take (i := 19) (d := some 48) (v := undef) rfl (by kernel_rfl) (by kernel_rfl) (by kernel_rfl) (by kernel_rfl) (fun _ _ _ h => h) (Or.inr ⟨by rfl, rfl⟩) hHeld ?_
            simp only [Act.put, List.setIfInBounds_toArray, List.set_cons_zero, List.set_cons_succ]
            refine take (i := 20) (d := some 49) (v := undef) rfl (by kernel_rfl) (by kernel_rfl) (by kernel_rfl) (by kernel_rfl) (fun _ _ _ h => h) (Or.inr ⟨by rfl, rfl⟩) hHeld ?_
            simp only [Act.put, List.setIfInBounds_toArray, List.set_cons_zero, List.set_cons_succ]
            refine take (i := 21) (d := some 50) (v := undef) rfl (by kernel_rfl) (by kernel_rfl) (by kernel_rfl) (by kernel_rfl) (fun _ _ _ h => h) (Or.inr ⟨by rfl, rfl⟩) hHeld ?_
            simp only [Act.put, List.setIfInBounds_toArray, List.set_cons_zero, List.set_cons_succ]
            refine take (i := 22) (d := some 51) (v := undef) rfl (by kernel_rfl) (by kernel_rfl) (by kernel_rfl) (by kernel_rfl) (fun _ _ _ h => h) (Or.inr ⟨by rfl, rfl⟩) hHeld ?_
            simp only [Act.put, List.setIfInBounds_toArray, List.set_cons_zero, List.set_cons_succ]
            refine take (i := 23) (d := some 52) (v := undef) rfl (by kernel_rfl) (by kernel_rfl) (by kernel_rfl) (by kernel_rfl) (fun _ _ _ h => h) (Or.inr ⟨by rfl, rfl⟩) hHeld ?_
            simp only [Act.put, List.setIfInBounds_toArray, List.set_cons_zero, List.set_cons_succ]
            refine take (i := 24) (d := some 53) (v := undef) rfl (by kernel_rfl) (by kernel_rfl) (by kernel_rfl) (by kernel_rfl) (fun _ _ _ h => h) (Or.inr ⟨by rfl, rfl⟩) hHeld ?_
            simp only [Act.put, List.setIfInBounds_toArray, List.set_cons_zero, List.set_cons_succ]
            refine take (i := 26) (d := some 55) (v := undef) rfl (by kernel_rfl) (by kernel_rfl) (by kernel_rfl) (by kernel_rfl) (fun _ _ _ h => h) (Or.inr ⟨by rfl, rfl⟩) hHeld ?_
            simp only [Act.put, List.setIfInBounds_toArray, List.set_cons_zero, List.set_cons_succ]
            refine take (i := 27) (d := some 56) (v := undef) rfl (by kernel_rfl) (by kernel_rfl) (by kernel_rfl) (by kernel_rfl) (fun _ _ _ h => h) (Or.inr ⟨by rfl, rfl⟩) hHeld ?_
            simp only [Act.put, List.setIfInBounds_toArray, List.set_cons_zero, List.set_cons_succ]
            refine take (i := 28) (d := some 57) (v := undef) rfl (by kernel_rfl) (by kernel_rfl) (by kernel_rfl) (by kernel_rfl) (fun _ _ _ h => h) (Or.inr ⟨by rfl, rfl⟩) hHeld ?_
            simp only [Act.put, List.setIfInBounds_toArray, List.set_cons_zero, List.set_cons_succ]
            refine take (i := 29) (d := some 58) (v := undef) rfl (by kernel_rfl) (by kernel_rfl) (by kernel_rfl) (by kernel_rfl) (fun _ _ _ h => h) (Or.inr ⟨by rfl, rfl⟩) hHeld ?_
            simp only [Act.put, List.setIfInBounds_toArray, List.set_cons_zero, List.set_cons_succ]
            refine take (i := 30) (d := some 59) (v := undef) rfl (by kernel_rfl) (by kernel_rfl) (by kernel_rfl) (by kernel_rfl) (fun _ _ _ h => h) (Or.inr ⟨by rfl, rfl⟩) hHeld ?_
            simp only [Act.put, List.setIfInBounds_toArray, List.set_cons_zero, List.set_cons_succ]
            refine take (i := 31) (d := some 60) (v := undef) rfl (by kernel_rfl) (by kernel_rfl) (by kernel_rfl) (by kernel_rfl) (fun _ _ _ h => h) (Or.inr ⟨by rfl, rfl⟩) hHeld ?_
            simp only [Act.put, List.setIfInBounds_toArray, List.set_cons_zero, List.set_cons_succ]
            refine take (i := 25) (d := some 54) (v := undef) rfl (by kernel_rfl) (by kernel_rfl) (by kernel_rfl) (by kernel_rfl) (fun _ _ _ h => h) (Or.inr ⟨by rfl, rfl⟩) hHeld ?_
            simp only [Act.put, List.setIfInBounds_toArray, List.set_cons_zero, List.set_cons_succ]
            refine take (i := 32) (d := some 61) (v := undef) rfl (by kernel_rfl) (by kernel_rfl) (by kernel_rfl) (by kernel_rfl) (fun _ _ _ h => h) (Or.inr ⟨by rfl, rfl⟩) hHeld ?_
            simp only [Act.put, List.setIfInBounds_toArray, List.set_cons_zero, List.set_cons_succ]
            refine take (i := 33) (d := some 62) (v := undef) rfl (by kernel_rfl) (by kernel_rfl) (by kernel_rfl) (by kernel_rfl) (fun _ _ _ h => h) (Or.inr ⟨by rfl, rfl⟩) hHeld ?_
            simp only [Act.put, List.setIfInBounds_toArray, List.set_cons_zero, List.set_cons_succ]
            refine take (i := 34) (d := some 63) (v := .bool false) rfl (by kernel_rfl) (by kernel_rfl) (by kernel_rfl) (by kernel_rfl) (fun _ _ _ h => h) (Or.inl ⟨by rfl, by intro w hSw; go_simp⟩) hHeld ?_
            simp only [Act.put, List.setIfInBounds_toArray, List.set_cons_zero, List.set_cons_succ]
            refine wpAnyH_done (by kernel_rfl) ?_ _
            go_wp2
            go_roundw
            case rel => exact ⟨j + 1, by omega, by go_num, hbi.drew, HY.out (fun _ h => by have := U.out; omega)⟩
            case measure => simp [intOf]; omega
          · have U : Hid (x1 = x3) := t
            have f1 : (x2 == 1) = true := by rw [u]; rfl
            have f2 : (x4 == 1) = true := by rw [v]; rfl
            have f3 : (x1 != x3) = false := by rw [t]; simp
            clear u v t y1 y2 y3 y4
            refine wp_region_held_drew (S := (fun w' => w'.cell? ⟨w.heap.size, 0, none⟩ = some (.slice (some ⟨b1, o1, none⟩) 8 c1) ∧ w'.cell? ⟨w.heap.size, 1, none⟩ = some (.slice (some ⟨b2, o2, none⟩) 8 c2) ∧ w'.cell? ⟨w.heap.size + 1, 0, none⟩ = some (.slice (some ⟨b3, o3, none⟩) 8 c3) ∧ w'.cell? ⟨w.heap.size + 1, 1, none⟩ = some (.slice (some ⟨b4, o4, none⟩) 8 c4) ∧ w'.cell? ⟨b1, o1 + k, none⟩ = some (.int .i64 m1) ∧ w'.cell? ⟨b2, o2 + k, none⟩ = some (.int .i64 m2) ∧ w'.cell? ⟨b3, o3 + k, none⟩ = some (.int .i64 m3) ∧ w'.cell? ⟨b4, o4 + k, none⟩ = some (.int .i64 m4))) (by kernel_rfl) ⟨p00, p01, p10, p11, g1, g2, g3, g4⟩ (fun hHeld => ?_)
            refine take (i := 0) (d := some 29) (v := .pointer (some ⟨w.heap.size, 1, none⟩)) rfl (by kernel_rfl) (by kernel_rfl) (by kernel_rfl) (by kernel_rfl) (fun _ _ _ h => h) (Or.inl ⟨by rfl, by intro w hSw; go_simp⟩) hHeld ?_
            simp only [Act.put, List.setIfInBounds_toArray, List.set_cons_zero, List.set_cons_succ]
            refine take (i := 1) (d := some 30) (v := .slice (some ⟨b2, o2, none⟩) 8 c2) rfl (by kernel_rfl) (by kernel_rfl) (by kernel_rfl) (by kernel_rfl) (fun _ _ _ h => h) (Or.inl ⟨by rfl, by intro w hSw; obtain ⟨p00, p01, p10, p11, g1, g2, g3, g4⟩ := hSw; go_simp⟩) hHeld ?_
            simp only [Act.put, List.setIfInBounds_toArray, List.set_cons_zero, List.set_cons_succ]
            refine take (i := 2) (d := some 31) (v := .int .i64 k) rfl (by kernel_rfl) (by kernel_rfl) (by kernel_rfl) (by kernel_rfl) (fun _ _ _ h => h) (Or.inl ⟨by rfl, by intro w hSw; go_simp⟩) hHeld ?_
            simp only [Act.put, List.setIfInBounds_toArray, List.set_cons_zero, List.set_cons_succ]
            refine take (i := 3) (d := some 32) (v := .pointer (some ⟨b2, o2 + k, none⟩)) rfl (by kernel_rfl) (by kernel_rfl) (by kernel_rfl) (by kernel_rfl) (fun _ _ _ h => h) (Or.inl ⟨by rfl, by intro w hSw; go_simp⟩) hHeld ?_
            simp only [Act.put, List.setIfInBounds_toArray, List.set_cons_zero, List.set_cons_succ]
            refine take (i := 4) (d := some 33) (v := .int .i64 m2) rfl (by kernel_rfl) (by kernel_rfl) (by kernel_rfl) (by kernel_rfl) (fun _ _ _ h => h) (Or.inl ⟨by rfl, by intro w hSw; obtain ⟨p00, p01, p10, p11, g1, g2, g3, g4⟩ := hSw; go_simp⟩) hHeld ?_
            simp only [Act.put, List.setIfInBounds_toArray, List.set_cons_zero, List.set_cons_succ]
            refine take (i := 5) (d := some 34) (v := .int .i64 j) rfl (by kernel_rfl) (by kernel_rfl) (by kernel_rfl) (by kernel_rfl) (fun _ _ _ h => h) (Or.inl ⟨by rfl, by intro w hSw; go_simp⟩) hHeld ?_
            simp only [Act.put, List.setIfInBounds_toArray, List.set_cons_zero, List.set_cons_succ]
            refine wpAnyH_ready (rs := [6]) (by kernel_rfl) (by simp) (Mi.readyCall2 rfl (by kernel_rfl) 143 (.tmp 33) (.tmp 34) 3 3 (by kernel_rfl) 35 (by kernel_rfl) _ _ (by kernel_rfl) (by kernel_rfl) (fun _ => rfl) (H2.out _) (fun wx hb => by rw [hb]; exact hHeld) (fun wx hb hHeld => ?_) AllReadyH.nil)
            subst hb
            simp only [Act.put, List.setIfInBounds_toArray, List.set_cons_zero, List.set_cons_succ]
            refine take (i := 7) (d := some 36) (v := .bool true) rfl (by kernel_rfl) (by kernel_rfl) (by kernel_rfl) (by kernel_rfl) (fun _ _ _ h => h) (Or.inl ⟨by rfl, by intro w hSw; go_simp⟩) hHeld ?_
            simp only [Act.put, List.setIfInBounds_toArray, List.set_cons_zero, List.set_cons_succ]
            refine take (i := 8) (d := some 37) (v := .bool true) rfl (by kernel_rfl) (by kernel_rfl) (by kernel_rfl) (by kernel_rfl) (fun _ _ _ h => h) (Or.inl ⟨by rfl, by intro w hSw; go_simp⟩) hHeld ?_
            simp only [Act.put, List.setIfInBounds_toArray, List.set_cons_zero, List.set_cons_succ]
            refine take (i := 9) (d := some 38) (v := .pointer (some ⟨w.heap.size + 1, 1, none⟩)) rfl (by kernel_rfl) (by kernel_rfl) (by kernel_rfl) (by kernel_rfl) (fun _ _ _ h => h) (Or.inl ⟨by rfl, by intro w hSw; go_simp⟩) hHeld ?_
            simp only [Act.put, List.setIfInBounds_toArray, List.set_cons_zero, List.set_cons_succ]
            refine take (i := 10) (d := some 39) (v := .slice (some ⟨b4, o4, none⟩) 8 c4) rfl (by kernel_rfl) (by kernel_rfl) (by kernel_rfl) (by kernel_rfl) (fun _ _ _ h => h) (Or.inl ⟨by rfl, by intro w hSw; obtain ⟨p00, p01, p10, p11, g1, g2, g3, g4⟩ := hSw; go_simp⟩) hHeld ?_
            simp only [Act.put, List.setIfInBounds_toArray, List.set_cons_zero, List.set_cons_succ]
            refine take (i := 11) (d := some 40) (v := .int .i64 k) rfl (by kernel_rfl) (by kernel_rfl) (by kernel_rfl) (by kernel_rfl) (fun _ _ _ h => h) (Or.inl ⟨by rfl, by intro w hSw; go_simp⟩) hHeld ?_
            simp only [Act.put, List.setIfInBounds_toArray, List.set_cons_zero, List.set_cons_succ]
            refine take (i := 12) (d := some 41) (v := .pointer (some ⟨b4, o4 + k, none⟩)) rfl (by kernel_rfl) (by kernel_rfl) (by kernel_rfl) (by kernel_rfl) (fun _ _ _ h => h) (Or.inl ⟨by rfl, by intro w hSw; go_simp⟩) hHeld ?_
            simp only [Act.put, List.setIfInBounds_toArray, List.set_cons_zero, List.set_cons_succ]
            refine take (i := 13) (d := some 42) (v := .int .i64 m4) rfl (by kernel_rfl) (by kernel_rfl) (by kernel_rfl) (by kernel_rfl) (fun _ _ _ h => h) (Or.inl ⟨by rfl, by intro w hSw; obtain ⟨p00, p01, p10, p11, g1, g2, g3, g4⟩ := hSw; go_simp⟩) hHeld ?_
            simp only [Act.put, List.setIfInBounds_toArray, List.set_cons_zero, List.set_cons_succ]
            refine take (i := 14) (d := some 43) (v := .int .i64 j) rfl (by kernel_rfl) (by kernel_rfl) (by kernel_rfl) (by kernel_rfl) (fun _ _ _ h => h) (Or.inl ⟨by rfl, by intro w hSw; go_simp⟩) hHeld ?_
            simp only [Act.put, List.setIfInBounds_toArray, List.set_cons_zero, List.set_cons_succ]
            refine wpAnyH_ready (rs := [15]) (by kernel_rfl) (by simp) (Mi.readyCall2 rfl (by kernel_rfl) 143 (.tmp 42) (.tmp 43) 3 3 (by kernel_rfl) 44 (by kernel_rfl) _ _ (by kernel_rfl) (by kernel_rfl) (fun _ => rfl) (H4.out _) (fun wx hb => by rw [hb]; exact hHeld) (fun wx hb hHeld => ?_) AllReadyH.nil)
            subst hb
            simp only [Act.put, List.setIfInBounds_toArray, List.set_cons_zero, List.set_cons_succ]
            refine take (i := 16) (d := some 45) (v := .bool true) rfl (by kernel_rfl) (by kernel_rfl) (by kernel_rfl) (by kernel_rfl) (fun _ _ _ h => h) (Or.inl ⟨by rfl, by intro w hSw; go_simp⟩) hHeld ?_
            simp only [Act.put, List.setIfInBounds_toArray, List.set_cons_zero, List.set_cons_succ]
            refine take (i := 17) (d := some 46) (v := .bool true) rfl (by kernel_rfl) (by kernel_rfl) (by kernel_rfl) (by kernel_rfl) (fun _ _ _ h => h) (Or.inl ⟨by rfl, by intro w hSw; go_simp⟩) hHeld ?_
            simp only [Act.put, List.setIfInBounds_toArray, List.set_cons_zero, List.set_cons_succ]
            refine take (i := 18) (d := some 47) (v := .bool true) rfl (by kernel_rfl) (by kernel_rfl) (by kernel_rfl) (by kernel_rfl) (fun _ _ _ h => h) (Or.inl ⟨by rfl, by intro w hSw; go_simp⟩) hHeld ?_
            simp only [Act.put, List.setIfInBounds_toArray, List.set_cons_zero, List.set_cons_succ]
            refine take (i := 19) (d := some 48) (v := .pointer (some ⟨w.heap.size, 0, none⟩)) rfl (by kernel_rfl) (by kernel_rfl) (by kernel_rfl) (by kernel_rfl) (fun _ _ _ h => h) (Or.inl ⟨by rfl, by intro w hSw; go_simp⟩) hHeld ?_
            simp only [Act.put, List.setIfInBounds_toArray, List.set_cons_zero, List.set_cons_succ]
            refine take (i := 20) (d := some 49) (v := .slice (some ⟨b1, o1, none⟩) 8 c1) rfl (by kernel_rfl) (by kernel_rfl) (by kernel_rfl) (by kernel_rfl) (fun _ _ _ h => h) (Or.inl ⟨by rfl, by intro w hSw; obtain ⟨p00, p01, p10, p11, g1, g2, g3, g4⟩ := hSw; go_simp⟩) hHeld ?_
            simp only [Act.put, List.setIfInBounds_toArray, List.set_cons_zero, List.set_cons_succ]
            refine take (i := 21) (d := some 50) (v := .int .i64 k) rfl (by kernel_rfl) (by kernel_rfl) (by kernel_rfl) (by kernel_rfl) (fun _ _ _ h => h) (Or.inl ⟨by rfl, by intro w hSw; go_simp⟩) hHeld ?_
            simp only [Act.put, List.setIfInBounds_toArray, List.set_cons_zero, List.set_cons_succ]
            refine take (i := 22) (d := some 51) (v := .pointer (some ⟨b1, o1 + k, none⟩)) rfl (by kernel_rfl) (by kernel_rfl) (by kernel_rfl) (by kernel_rfl) (fun _ _ _ h => h) (Or.inl ⟨by rfl, by intro w hSw; go_simp⟩) hHeld ?_
            simp only [Act.put, List.setIfInBounds_toArray, List.set_cons_zero, List.set_cons_succ]
            refine take (i := 23) (d := some 52) (v := .int .i64 m1) rfl (by kernel_rfl) (by kernel_rfl) (by kernel_rfl) (by kernel_rfl) (fun _ _ _ h => h) (Or.inl ⟨by rfl, by intro w hSw; obtain ⟨p00, p01, p10, p11, g1, g2, g3, g4⟩ := hSw; go_simp⟩) hHeld ?_
            simp only [Act.put, List.setIfInBounds_toArray, List.set_cons_zero, List.set_cons_succ]
            refine take (i := 24) (d := some 53) (v := .int .i64 j) rfl (by kernel_rfl) (by kernel_rfl) (by kernel_rfl) (by kernel_rfl) (fun _ _ _ h => h) (Or.inl ⟨by rfl, by intro w hSw; go_simp⟩) hHeld ?_
            simp only [Act.put, List.setIfInBounds_toArray, List.set_cons_zero, List.set_cons_succ]
            refine take (i := 26) (d := some 55) (v := .pointer (some ⟨w.heap.size + 1, 0, none⟩)) rfl (by kernel_rfl) (by kernel_rfl) (by kernel_rfl) (by kernel_rfl) (fun _ _ _ h => h) (Or.inl ⟨by rfl, by intro w hSw; go_simp⟩) hHeld ?_
            simp only [Act.put, List.setIfInBounds_toArray, List.set_cons_zero, List.set_cons_succ]
            refine take (i := 27) (d := some 56) (v := .slice (some ⟨b3, o3, none⟩) 8 c3) rfl (by kernel_rfl) (by kernel_rfl) (by kernel_rfl) (by kernel_rfl) (fun _ _ _ h => h) (Or.inl ⟨by rfl, by intro w hSw; obtain ⟨p00, p01, p10, p11, g1, g2, g3, g4⟩ := hSw; go_simp⟩) hHeld ?_
            simp only [Act.put, List.setIfInBounds_toArray, List.set_cons_zero, List.set_cons_succ]
            refine take (i := 28) (d := some 57) (v := .int .i64 k) rfl (by kernel_rfl) (by kernel_rfl) (by kernel_rfl) (by kernel_rfl) (fun _ _ _ h => h) (Or.inl ⟨by rfl, by intro w hSw; go_simp⟩) hHeld ?_
            simp only [Act.put, List.setIfInBounds_toArray, List.set_cons_zero, List.set_cons_succ]
            refine take (i := 29) (d := some 58) (v := .pointer (some ⟨b3, o3 + k, none⟩)) rfl (by kernel_rfl) (by kernel_rfl) (by kernel_rfl) (by kernel_rfl) (fun _ _ _ h => h) (Or.inl ⟨by rfl, by intro w hSw; go_simp⟩) hHeld ?_
            simp only [Act.put, List.setIfInBounds_toArray, List.set_cons_zero, List.set_cons_succ]
            refine take (i := 30) (d := some 59) (v := .int .i64 m3) rfl (by kernel_rfl) (by kernel_rfl) (by kernel_rfl) (by kernel_rfl) (fun _ _ _ h => h) (Or.inl ⟨by rfl, by intro w hSw; obtain ⟨p00, p01, p10, p11, g1, g2, g3, g4⟩ := hSw; go_simp⟩) hHeld ?_
            simp only [Act.put, List.setIfInBounds_toArray, List.set_cons_zero, List.set_cons_succ]
            refine take (i := 31) (d := some 60) (v := .int .i64 j) rfl (by kernel_rfl) (by kernel_rfl) (by kernel_rfl) (by kernel_rfl) (fun _ _ _ h => h) (Or.inl ⟨by rfl, by intro w hSw; go_simp⟩) hHeld ?_
            simp only [Act.put, List.setIfInBounds_toArray, List.set_cons_zero, List.set_cons_succ]
            refine wpAnyH_ready (rs := [25]) (by kernel_rfl) (by simp) (Mi.readyCall2 rfl (by kernel_rfl) 143 (.tmp 52) (.tmp 53) 3 3 (by kernel_rfl) 54 (by kernel_rfl) _ _ (by kernel_rfl) (by kernel_rfl) (fun _ => rfl) (H1.out _) (fun wx hb => by rw [hb]; exact hHeld) (fun wx hb hHeld => ?_) AllReadyH.nil)
            subst hb
            simp only [Act.put, List.setIfInBounds_toArray, List.set_cons_zero, List.set_cons_succ]
            refine wpAnyH_ready (rs := [32]) (by kernel_rfl) (by simp) (Mi.readyCall2 rfl (by kernel_rfl) 143 (.tmp 59) (.tmp 60) 3 3 (by kernel_rfl) 61 (by kernel_rfl) _ _ (by kernel_rfl) (by kernel_rfl) (fun _ => rfl) (H3.out _) (fun wx hb => by rw [hb]; exact hHeld) (fun wx hb hHeld => ?_) AllReadyH.nil)
            subst hb
            simp only [Act.put, List.setIfInBounds_toArray, List.set_cons_zero, List.set_cons_succ]
            refine take (i := 33) (d := some 62) (v := .bool false) rfl (by kernel_rfl) (by kernel_rfl) (by kernel_rfl) (by kernel_rfl) (fun _ _ _ h => h) (Or.inl ⟨by rfl, by intro w hSw; go_simp⟩) hHeld ?_
            simp only [Act.put, List.setIfInBounds_toArray, List.set_cons_zero, List.set_cons_succ]
            refine take (i := 34) (d := some 63) (v := .bool false) rfl (by kernel_rfl) (by kernel_rfl) (by kernel_rfl) (by kernel_rfl) (fun _ _ _ h => h) (Or.inl ⟨by rfl, by intro w hSw; go_simp⟩) hHeld ?_
            simp only [Act.put, List.setIfInBounds_toArray, List.set_cons_zero, List.set_cons_succ]
            refine wpAnyH_done (by kernel_rfl) ?_ _
            go_wp2
            go_roundw
            case rel => exact ⟨j + 1, by omega, by go_num, hbi.drew, HY.out (fun _ _ => U.out)⟩
            case measure => simp [intOf]; omega
          · have U : Hid (x2 = 1 ∧ x4 = 1 ∧ ¬ x1 = x3) := ⟨u, v, t⟩
            have f1 : (x2 == 1) = true := by rw [u]; rfl
            have f2 : (x4 == 1) = true := by rw [v]; rfl
            have f3 : (x1 != x3) = true := by simpa using t
            clear u v t y1 y2 y3 y4
            refine wp_region_held_drew (S := (fun w' => w'.cell? ⟨w.heap.size, 0, none⟩ = some (.slice (some ⟨b1, o1, none⟩) 8 c1) ∧ w'.cell? ⟨w.heap.size, 1, none⟩ = some (.slice (some ⟨b2, o2, none⟩) 8 c2) ∧ w'.cell? ⟨w.heap.size + 1, 0, none⟩ = some (.slice (some ⟨b3, o3, none⟩) 8 c3) ∧ w'.cell? ⟨w.heap.size + 1, 1, none⟩ = some (.slice (some ⟨b4, o4, none⟩) 8 c4) ∧ w'.cell? ⟨b1, o1 + k, none⟩ = some (.int .i64 m1) ∧ w'.cell? ⟨b2, o2 + k, none⟩ = some (.int .i64 m2) ∧ w'.cell? ⟨b3, o3 + k, none⟩ = some (.int .i64 m3) ∧ w'.cell? ⟨b4, o4 + k, none⟩ = some (.int .i64 m4))) (by kernel_rfl) ⟨p00, p01, p10, p11, g1, g2, g3, g4⟩ (fun hHeld => ?_)
            refine take (i := 0) (d := some 29) (v := .pointer (some ⟨w.heap.size, 1, none⟩)) rfl (by kernel_rfl) (by kernel_rfl) (by kernel_rfl) (by kernel_rfl) (fun _ _ _ h => h) (Or.inl ⟨by rfl, by intro w hSw; go_simp⟩) hHeld ?_
            simp only [Act.put, List.setIfInBounds_toArray, List.set_cons_zero, List.set_cons_succ]
            refine take (i := 1) (d := some 30) (v := .slice (some ⟨b2, o2, none⟩) 8 c2) rfl (by kernel_rfl) (by kernel_rfl) (by kernel_rfl) (by kernel_rfl) (fun _ _ _ h => h) (Or.inl ⟨by rfl, by intro w hSw; obtain ⟨p00, p01, p10, p11, g1, g2, g3, g4⟩ := hSw; go_simp⟩) hHeld ?_
            simp only [Act.put, List.setIfInBounds_toArray, List.set_cons_zero, List.set_cons_succ]
            refine take (i := 2) (d := some 31) (v := .int .i64 k) rfl (by kernel_rfl) (by kernel_rfl) (by kernel_rfl) (by kernel_rfl) (fun _ _ _ h => h) (Or.inl ⟨by rfl, by intro w hSw; go_simp⟩) hHeld ?_
            simp only [Act.put, List.setIfInBounds_toArray, List.set_cons_zero, List.set_cons_succ]
            refine take (i := 3) (d := some 32) (v := .pointer (some ⟨b2, o2 + k, none⟩)) rfl (by kernel_rfl) (by kernel_rfl) (by kernel_rfl) (by kernel_rfl) (fun _ _ _ h => h) (Or.inl ⟨by rfl, by intro w hSw; go_simp⟩) hHeld ?_
            simp only [Act.put, List.setIfInBounds_toArray, List.set_cons_zero, List.set_cons_succ]
            refine take (i := 4) (d := some 33) (v := .int .i64 m2) rfl (by kernel_rfl) (by kernel_rfl) (by kernel_rfl) (by kernel_rfl) (fun _ _ _ h => h) (Or.inl ⟨by rfl, by intro w hSw; obtain ⟨p00, p01, p10, p11, g1, g2, g3, g4⟩ := hSw; go_simp⟩) hHeld ?_
            simp only [Act.put, List.setIfInBounds_toArray, List.set_cons_zero, List.set_cons_succ]
            refine take (i := 5) (d := some 34) (v := .int .i64 j) rfl (by kernel_rfl) (by kernel_rfl) (by kernel_rfl) (by kernel_rfl) (fun _ _ _ h => h) (Or.inl ⟨by rfl, by intro w hSw; go_simp⟩) hHeld ?_
            simp only [Act.put, List.setIfInBounds_toArray, List.set_cons_zero, List.set_cons_succ]
            refine wpAnyH_ready (rs := [6]) (by kernel_rfl) (by simp) (Mi.readyCall2 rfl (by kernel_rfl) 143 (.tmp 33) (.tmp 34) 3 3 (by kernel_rfl) 35 (by kernel_rfl) _ _ (by kernel_rfl) (by kernel_rfl) (fun _ => rfl) (H2.out _) (fun wx hb => by rw [hb]; exact hHeld) (fun wx hb hHeld => ?_) AllReadyH.nil)
            subst hb
            simp only [Act.put, List.setIfInBounds_toArray, List.set_cons_zero, List.set_cons_succ]
            refine take (i := 7) (d := some 36) (v := .bool true) rfl (by kernel_rfl) (by kernel_rfl) (by kernel_rfl) (by kernel_rfl) (fun _ _ _ h => h) (Or.inl ⟨by rfl, by intro w hSw; go_simp⟩) hHeld ?_
            simp only [Act.put, List.setIfInBounds_toArray, List.set_cons_zero, List.set_cons_succ]
            refine take (i := 8) (d := some 37) (v := .bool true) rfl (by kernel_rfl) (by kernel_rfl) (by kernel_rfl) (by kernel_rfl) (fun _ _ _ h => h) (Or.inl ⟨by rfl, by intro w hSw; go_simp⟩) hHeld ?_
            simp only [Act.put, List.setIfInBounds_toArray, List.set_cons_zero, List.set_cons_succ]
            refine take (i := 9) (d := some 38) (v := .pointer (some ⟨w.heap.size + 1, 1, none⟩)) rfl (by kernel_rfl) (by kernel_rfl) (by kernel_rfl) (by kernel_rfl) (fun _ _ _ h => h) (Or.inl ⟨by rfl, by intro w hSw; go_simp⟩) hHeld ?_
            simp only [Act.put, List.setIfInBounds_toArray, List.set_cons_zero, List.set_cons_succ]
            refine take (i := 10) (d := some 39) (v := .slice (some ⟨b4, o4, none⟩) 8 c4) rfl (by kernel_rfl) (by kernel_rfl) (by kernel_rfl) (by kernel_rfl) (fun _ _ _ h => h) (Or.inl ⟨by rfl, by intro w hSw; obtain ⟨p00, p01, p10, p11, g1, g2, g3, g4⟩ := hSw; go_simp⟩) hHeld ?_
            simp only [Act.put, List.setIfInBounds_toArray, List.set_cons_zero, List.set_cons_succ]
            refine take (i := 11) (d := some 40) (v := .int .i64 k) rfl (by kernel_rfl) (by kernel_rfl) (by kernel_rfl) (by kernel_rfl) (fun _ _ _ h => h) (Or.inl ⟨by rfl, by intro w hSw; go_simp⟩) hHeld ?_
            simp only [Act.put, List.setIfInBounds_toArray, List.set_cons_zero, List.set_cons_succ]
            refine take (i := 12) (d := some 41) (v := .pointer (some ⟨b4, o4 + k, none⟩)) rfl (by kernel_rfl) (by kernel_rfl) (by kernel_rfl) (by kernel_rfl) (fun _ _ _ h => h) (Or.inl ⟨by rfl, by intro w hSw; go_simp⟩) hHeld ?_
            simp only [Act.put, List.setIfInBounds_toArray, List.set_cons_zero, List.set_cons_succ]
            refine take (i := 13) (d := some 42) (v := .int .i64 m4) rfl (by kernel_rfl) (by kernel_rfl) (by kernel_rfl) (by kernel_rfl) (fun _ _ _ h => h) (Or.inl ⟨by rfl, by intro w hSw; obtain ⟨p00, p01, p10, p11, g1, g2, g3, g4⟩ := hSw; go_simp⟩) hHeld ?_
            simp only [Act.put, List.setIfInBounds_toArray, List.set_cons_zero, List.set_cons_succ]
            refine take (i := 14) (d := some 43) (v := .int .i64 j) rfl (by kernel_rfl) (by kernel_rfl) (by kernel_rfl) (by kernel_rfl) (fun _ _ _ h => h) (Or.inl ⟨by rfl, by intro w hSw; go_simp⟩) hHeld ?_
            simp only [Act.put, List.setIfInBounds_toArray, List.set_cons_zero, List.set_cons_succ]
            refine wpAnyH_ready (rs := [15]) (by kernel_rfl) (by simp) (Mi.readyCall2 rfl (by kernel_rfl) 143 (.tmp 42) (.tmp 43) 3 3 (by kernel_rfl) 44 (by kernel_rfl) _ _ (by kernel_rfl) (by kernel_rfl) (fun _ => rfl) (H4.out _) (fun wx hb => by rw [hb]; exact hHeld) (fun wx hb hHeld => ?_) AllReadyH.nil)
            subst hb
            simp only [Act.put, List.setIfInBounds_toArray, List.set_cons_zero, List.set_cons_succ]
            refine take (i := 16) (d := some 45) (v := .bool true) rfl (by kernel_rfl) (by kernel_rfl) (by kernel_rfl) (by kernel_rfl) (fun _ _ _ h => h) (Or.inl ⟨by rfl, by intro w hSw; go_simp⟩) hHeld ?_
            simp only [Act.put, List.setIfInBounds_toArray, List.set_cons_zero, List.set_cons_succ]
            refine take (i := 17) (d := some 46) (v := .bool true) rfl (by kernel_rfl) (by kernel_rfl) (by kernel_rfl) (by kernel_rfl) (fun _ _ _ h => h) (Or.inl ⟨by rfl, by intro w hSw; go_simp⟩) hHeld ?_
            simp only [Act.put, List.setIfInBounds_toArray, List.set_cons_zero, List.set_cons_succ]
            refine take (i := 18) (d := some 47) (v := .bool true) rfl (by kernel_rfl) (by kernel_rfl) (by kernel_rfl) (by kernel_rfl) (fun _ _ _ h => h) (Or.inl ⟨by rfl, by intro w hSw; go_simp⟩) hHeld ?_
            simp only [Act.put, List.setIfInBounds_toArray, List.set_cons_zero, List.set_cons_succ]
            refine take (i := 19) (d := some 48) (v := .pointer (some ⟨w.heap.size, 0, none⟩)) rfl (by kernel_rfl) (by kernel_rfl) (by kernel_rfl) (by kernel_rfl) (fun _ _ _ h => h) (Or.inl ⟨by rfl, by intro w hSw; go_simp⟩) hHeld ?_
            simp only [Act.put, List.setIfInBounds_toArray, List.set_cons_zero, List.set_cons_succ]
            refine take (i := 20) (d := some 49) (v := .slice (some ⟨b1, o1, none⟩) 8 c1) rfl (by kernel_rfl) (by kernel_rfl) (by kernel_rfl) (by kernel_rfl) (fun _ _ _ h => h) (Or.inl ⟨by rfl, by intro w hSw; obtain ⟨p00, p01, p10, p11, g1, g2, g3, g4⟩ := hSw; go_simp⟩) hHeld ?_
            simp only [Act.put, List.setIfInBounds_toArray, List.set_cons_zero, List.set_cons_succ]
            refine take (i := 21) (d := some 50) (v := .int .i64 k) rfl (by kernel_rfl) (by kernel_rfl) (by kernel_rfl) (by kernel_rfl) (fun _ _ _ h => h) (Or.inl ⟨by rfl, by intro w hSw; go_simp⟩) hHeld ?_
            simp only [Act.put, List.setIfInBounds_toArray, List.set_cons_zero, List.set_cons_succ]
            refine take (i := 22) (d := some 51) (v := .pointer (some ⟨b1, o1 + k, none⟩)) rfl (by kernel_rfl) (by kernel_rfl) (by kernel_rfl) (by kernel_rfl) (fun _ _ _ h => h) (Or.inl ⟨by rfl, by intro w hSw; go_simp⟩) hHeld ?_
            simp only [Act.put, List.setIfInBounds_toArray, List.set_cons_zero, List.set_cons_succ]
            refine take (i := 23) (d := some 52) (v := .int .i64 m1) rfl (by kernel_rfl) (by kernel_rfl) (by kernel_rfl) (by kernel_rfl) (fun _ _ _ h => h) (Or.inl ⟨by rfl, by intro w hSw; obtain ⟨p00, p01, p10, p11, g1, g2, g3, g4⟩ := hSw; go_simp⟩) hHeld ?_
            simp only [Act.put, List.setIfInBounds_toArray, List.set_cons_zero, List.set_cons_succ]
            refine take (i := 24) (d := some 53) (v := .int .i64 j) rfl (by kernel_rfl) (by kernel_rfl) (by kernel_rfl) (by kernel_rfl) (fun _ _ _ h => h) (Or.inl ⟨by rfl, by intro w hSw; go_simp⟩) hHeld ?_
            simp only [Act.put, List.setIfInBounds_toArray, List.set_cons_zero, List.set_cons_succ]
            refine take (i := 26) (d := some 55) (v := .pointer (some ⟨w.heap.size + 1, 0, none⟩)) rfl (by kernel_rfl) (by kernel_rfl) (by kernel_rfl) (by kernel_rfl) (fun _ _ _ h => h) (Or.inl ⟨by rfl, by intro w hSw; go_simp⟩) hHeld ?_
            simp only [Act.put, List.setIfInBounds_toArray, List.set_cons_zero, List.set_cons_succ]
            refine take (i := 27) (d := some 56) (v := .slice (some ⟨b3, o3, none⟩) 8 c3) rfl (by kernel_rfl) (by kernel_rfl) (by kernel_rfl) (by kernel_rfl) (fun _ _ _ h => h) (Or.inl ⟨by rfl, by intro w hSw; obtain ⟨p00, p01, p10, p11, g1, g2, g3, g4⟩ := hSw; go_simp⟩) hHeld ?_
            simp only [Act.put, List.setIfInBounds_toArray, List.set_cons_zero, List.set_cons_succ]
            refine take (i := 28) (d := some 57) (v := .int .i64 k) rfl (by kernel_rfl) (by kernel_rfl) (by kernel_rfl) (by kernel_rfl) (fun _ _ _ h => h) (Or.inl ⟨by rfl, by intro w hSw; go_simp⟩) hHeld ?_
            simp only [Act.put, List.setIfInBounds_toArray, List.set_cons_zero, List.set_cons_succ]
            refine take (i := 29) (d := some 58) (v := .pointer (some ⟨b3, o3 + k, none⟩)) rfl (by kernel_rfl) (by kernel_rfl) (by kernel_rfl) (by kernel_rfl) (fun _ _ _ h => h) (Or.inl ⟨by rfl, by intro w hSw; go_simp⟩) hHeld ?_
            simp only [Act.put, List.setIfInBounds_toArray, List.set_cons_zero, List.set_cons_succ]
            refine take (i := 30) (d := some 59) (v := .int .i64 m3) rfl (by kernel_rfl) (by kernel_rfl) (by kernel_rfl) (by kernel_rfl) (fun _ _ _ h => h) (Or.inl ⟨by rfl, by intro w hSw; obtain ⟨p00, p01, p10, p11, g1, g2, g3, g4⟩ := hSw; go_simp⟩) hHeld ?_
            simp only [Act.put, List.setIfInBounds_toArray, List.set_cons_zero, List.set_cons_succ]
            refine take (i := 31) (d := some 60) (v := .int .i64 j) rfl (by kernel_rfl) (by kernel_rfl) (by kernel_rfl) (by kernel_rfl) (fun _ _ _ h => h) (Or.inl ⟨by rfl, by intro w hSw; go_simp⟩) hHeld ?_
            simp only [Act.put, List.setIfInBounds_toArray, List.set_cons_zero, List.set_cons_succ]
            refine wpAnyH_ready (rs := [25]) (by kernel_rfl) (by simp) (Mi.readyCall2 rfl (by kernel_rfl) 143 (.tmp 52) (.tmp 53) 3 3 (by kernel_rfl) 54 (by kernel_rfl) _ _ (by kernel_rfl) (by kernel_rfl) (fun _ => rfl) (H1.out _) (fun wx hb => by rw [hb]; exact hHeld) (fun wx hb hHeld => ?_) AllReadyH.nil)
            subst hb
            simp only [Act.put, List.setIfInBounds_toArray, List.set_cons_zero, List.set_cons_succ]
            refine wpAnyH_ready (rs := [32]) (by kernel_rfl) (by simp) (Mi.readyCall2 rfl (by kernel_rfl) 143 (.tmp 59) (.tmp 60) 3 3 (by kernel_rfl) 61 (by kernel_rfl) _ _ (by kernel_rfl) (by kernel_rfl) (fun _ => rfl) (H3.out _) (fun wx hb => by rw [hb]; exact hHeld) (fun wx hb hHeld => ?_) AllReadyH.nil)
            subst hb
            simp only [Act.put, List.setIfInBounds_toArray, List.set_cons_zero, List.set_cons_succ]
            refine take (i := 33) (d := some 62) (v := .bool true) rfl (by kernel_rfl) (by kernel_rfl) (by kernel_rfl) (by kernel_rfl) (fun _ _ _ h => h) (Or.inl ⟨by rfl, by intro w hSw; go_simp⟩) hHeld ?_
            simp only [Act.put, List.setIfInBounds_toArray, List.set_cons_zero, List.set_cons_succ]
            refine take (i := 34) (d := some 63) (v := .bool true) rfl (by kernel_rfl) (by kernel_rfl) (by kernel_rfl) (by kernel_rfl) (fun _ _ _ h => h) (Or.inl ⟨by rfl, by intro w hSw; go_simp⟩) hHeld ?_
            simp only [Act.put, List.setIfInBounds_toArray, List.set_cons_zero, List.set_cons_succ]
            refine wpAnyH_done (by kernel_rfl) ?_ _
            go_wp2
            have hr := HN.out (fun h => U.out.2.2 (h U.out.1 U.out.2.1))
            obtain ⟨rfl, rfl⟩ := Y0.out hr
            rw [hr]
            refine bodyPost_ret (v := .tuple #[.agg #[.slice none 0 0, .slice none 0 0], .bool false]) (by simp [results, Try.results147, go_sem, s0, s1]) rfl (resMB_none ?_)
            exact (bset (bset hbel (by omega)) (by omega)).drew
        · have he : j = Bw.fbN k := by omega
          have hjz : ¬ ((j : Int) < (Bw.fbN k : Int)) := by omega
          have HY : Hid (∀ f, f < k + 1 → ∀ i, i < Bw.fbN f → (Bw.bitI (M.getD f 0) i = 1 → Bw.bitI (M'.getD f 0) i = 1 → Bw.bitI (V.getD f 0) i = Bw.bitI (V'.getD f 0) i)) := (fun f hf => by by_cases e : f = k; (· subst e; intro i hi; exact HI.out i (by omega)); (· exact HG.out f (by omega)) : ∀ f, f < k + 1 → ∀ i, i < Bw.fbN f → (Bw.bitI (M.getD f 0) i = 1 → Bw.bitI (M'.getD f 0) i = 1 → Bw.bitI (V.getD f 0) i = Bw.bitI (V'.getD f 0) i))
          clear HI HG he D1 D2 D3 D4
          go_wp2_with (go_at_call 142; refine (HF.out _).mono ?_; rintro e ws ⟨rfl, hb⟩; replace hbi := Rw.next hbi hb; clear hb)
          have hbel := Rw.next hbo hbi
          replace q0 := (hbi.block _ z0).trans q0
          replace q1 := (hbi.block _ z1).trans q1
          replace qR := (hbi.block _ zR).trans qR
          replace qX := (hbi.block _ zX).trans qX
          replace hv := hv.below hbi
          replace hm := hm.below hbi
          obtain ⟨p00, p01⟩ := two q0
          obtain ⟨p10, p11⟩ := two q1
          obtain ⟨x0, x1⟩ := two qX
          have g1 : ws.cell? ⟨b1, o1 + k, none⟩ = some (.int .i64 (V.getD k 0)) := (hbel.cell (World.block_lt_of_cell? _ _ (R1.out k hlt))).trans (R1.out k hlt)
          have g2 : ws.cell? ⟨b2, o2 + k, none⟩ = some (.int .i64 (M.getD k 0)) := (hbel.cell (World.block_lt_of_cell? _ _ (R2.out k hlt))).trans (R2.out k hlt)
          have g3 : ws.cell? ⟨b3, o3 + k, none⟩ = some (.int .i64 (V'.getD k 0)) := (hbel.cell (World.block_lt_of_cell? _ _ (R3.out k hlt))).trans (R3.out k hlt)
          have g4 : ws.cell? ⟨b4, o4 + k, none⟩ = some (.int .i64 (M'.getD k 0)) := (hbel.cell (World.block_lt_of_cell? _ _ (R4.out k hlt))).trans (R4.out k hlt)
          have hl := HLT.out k hlt
          obtain ⟨hl1, hl2, hl3, hl4⟩ := hl
          have cV1 := hv.cell k (by rw [lst_len]; exact hlt)
          have cM1 := hm.cell k (by rw [lst_len]; exact hlt)
          have fV := hv.free k (by rw [lst_len]; exact hlt)
          have fM := hm.free k (by rw [lst_len]; exact hlt)
          have gVx : Hid (Wt ws (some ⟨gV, 0, none⟩) gV (lst (cut nv nul k))) := hv
          have gMx : Hid (Wt ws (some ⟨gM, 0, none⟩) gM (lst (cut nm nul k))) := hm
          have Q0 : Hid (ws.heap[w.heap.size]? = some (.cells #[.slice (some ⟨b1, o1, none⟩) 8 c1, .slice (some ⟨b2, o2, none⟩) 8 c2] 25 (0, 0))) := q0
          have Q1 : Hid (ws.heap[w.heap.size + 1]? = some (.cells #[.slice (some ⟨b3, o3, none⟩) 8 c3, .slice (some ⟨b4, o4, none⟩) 8 c4] 25 (0, 0))) := q1
          have QR : Hid (ws.heap[w.heap.size + 1 + 1]? = some (.cells #[.slice none 0 0, .slice none 0 0] 25 (0, 0))) := qR
          have QX : Hid (ws.heap[X]? = some (.cells #[.slice (some ⟨gV, 0, none⟩) 8 cV, .slice (some ⟨gM, 0, none⟩) 8 cM] 25 (0, 0))) := qX
          have EV : Hid (nv k = bits .or .i64 (V.getD k 0) (V'.getD k 0)) := NV.out k
          have EM : Hid (nm k = bits .or .i64 (M.getD k 0) (M'.getD k 0)) := NM.out k
          clear q0 q1 qR qX hv hm HLT R1 R2 R3 R4
          generalize V.getD k 0 = m1 at g1 EV EM
          generalize M.getD k 0 = m2 at g2 EV EM
          generalize V'.getD k 0 = m3 at g3 EV EM
          generalize M'.getD k 0 = m4 at g4 EV EM
          have d1 : gV ≠ w.heap.size := by omega
          have d2 : gV ≠ w.heap.size + 1 := by omega
          have d3 : gM ≠ w.heap.size := by omega
          have d4 : gM ≠ w.heap.size + 1 := by omega
          have d5 : gV ≠ X := by omega
          have d6 : gM ≠ X := by omega
          have d7 : b1 ≠ gV := by omega
          have d8 : b2 ≠ gV := by omega
          have d9 : b3 ≠ gV := by omega
          have d10 : b4 ≠ gV := by omega
          have d11 : b1 ≠ gM := by omega
          have d12 : b2 ≠ gM := by omega
          have d13 : b3 ≠ gM := by omega
          have d14 : b4 ≠ gM := by omega
          have d15 : w.heap.size + 1 + 1 ≠ gV := by omega
          have d16 : w.heap.size + 1 + 1 ≠ gM := by omega
          go_wp2
          refine wp_region_held_drew (S := (fun w' => w'.cell? ⟨w.heap.size, 0, none⟩ = some (.slice (some ⟨b1, o1, none⟩) 8 c1) ∧ w'.cell? ⟨w.heap.size, 1, none⟩ = some (.slice (some ⟨b2, o2, none⟩) 8 c2) ∧ w'.cell? ⟨w.heap.size + 1, 0, none⟩ = some (.slice (some ⟨b3, o3, none⟩) 8 c3) ∧ w'.cell? ⟨w.heap.size + 1, 1, none⟩ = some (.slice (some ⟨b4, o4, none⟩) 8 c4) ∧ w'.cell? ⟨X, 0, none⟩ = some (.slice (some ⟨gV, 0, none⟩) 8 cV) ∧ w'.cell? ⟨X, 1, none⟩ = some (.slice (some ⟨gM, 0, none⟩) 8 cM) ∧ w'.cell? ⟨b1, o1 + k, none⟩ = some (.int .i64 m1) ∧ w'.cell? ⟨b2, o2 + k, none⟩ = some (.int .i64 m2) ∧ w'.cell? ⟨b3, o3 + k, none⟩ = some (.int .i64 m3) ∧ w'.cell? ⟨b4, o4 + k, none⟩ = some (.int .i64 m4))) (by kernel_rfl) ⟨p00, p01, p10, p11, x0, x1, g1, g2, g3, g4⟩ (fun hHeld => ?_)
          refine take (i := 0) (d := some 65) (v := .pointer (some ⟨X, 1, none⟩)) rfl (by kernel_rfl) (by kernel_rfl) (by kernel_rfl) (by kernel_rfl) (fun _ _ _ h => h) (Or.inl ⟨by rfl, by intro w hSw; go_simp⟩) hHeld ?_
          simp only [Act.put, List.setIfInBounds_toArray, List.set_cons_zero, List.set_cons_succ]
          refine take (i := 1) (d := some 66) (v := .slice (some ⟨gM, 0, none⟩) 8 cM) rfl (by kernel_rfl) (by kernel_rfl) (by kernel_rfl) (by kernel_rfl) (fun _ _ _ h => h) (Or.inl ⟨by rfl, by intro w hSw; obtain ⟨p00, p01, p10, p11, x0, x1, g1, g2, g3, g4⟩ := hSw; go_simp⟩) hHeld ?_
          simp only [Act.put, List.setIfInBounds_toArray, List.set_cons_zero, List.set_cons_succ]
          refine take (i := 2) (d := some 67) (v := .int .i64 k) rfl (by kernel_rfl) (by kernel_rfl) (by kernel_rfl) (by kernel_rfl) (fun _ _ _ h => h) (Or.inl ⟨by rfl, by intro w hSw; go_simp⟩) hHeld ?_
          simp only [Act.put, List.setIfInBounds_toArray, List.set_cons_zero, List.set_cons_succ]
          refine take (i := 3) (d := some 68) (v := .pointer (some ⟨w.heap.size, 1, none⟩)) rfl (by kernel_rfl) (by kernel_rfl) (by kernel_rfl) (by kernel_rfl) (fun _ _ _ h => h) (Or.inl ⟨by rfl, by intro w hSw; go_simp⟩) hHeld ?_
          simp only [Act.put, List.setIfInBounds_toArray, List.set_cons_zero, List.set_cons_succ]
          refine take (i := 4) (d := some 69) (v := .slice (some ⟨b2, o2, none⟩) 8 c2) rfl (by kernel_rfl) (by kernel_rfl) (by kernel_rfl) (by kernel_rfl) (fun _ _ _ h => h) (Or.inl ⟨by rfl, by intro w hSw; obtain ⟨p00, p01, p10, p11, x0, x1, g1, g2, g3, g4⟩ := hSw; go_simp⟩) hHeld ?_
          simp only [Act.put, List.setIfInBounds_toArray, List.set_cons_zero, List.set_cons_succ]
          refine take (i := 5) (d := some 70) (v := .int .i64 k) rfl (by kernel_rfl) (by kernel_rfl) (by kernel_rfl) (by kernel_rfl) (fun _ _ _ h => h) (Or.inl ⟨by rfl, by intro w hSw; go_simp⟩) hHeld ?_
          simp only [Act.put, List.setIfInBounds_toArray, List.set_cons_zero, List.set_cons_succ]
          refine take (i := 6) (d := some 71) (v := .pointer (some ⟨b2, o2 + k, none⟩)) rfl (by kernel_rfl) (by kernel_rfl) (by kernel_rfl) (by kernel_rfl) (fun _ _ _ h => h) (Or.inl ⟨by rfl, by intro w hSw; go_simp⟩) hHeld ?_
          simp only [Act.put, List.setIfInBounds_toArray, List.set_cons_zero, List.set_cons_succ]
          refine take (i := 7) (d := some 72) (v := .int .i64 m2) rfl (by kernel_rfl) (by kernel_rfl) (by kernel_rfl) (by kernel_rfl) (fun _ _ _ h => h) (Or.inl ⟨by rfl, by intro w hSw; obtain ⟨p00, p01, p10, p11, x0, x1, g1, g2, g3, g4⟩ := hSw; go_simp⟩) hHeld ?_
          simp only [Act.put, List.setIfInBounds_toArray, List.set_cons_zero, List.set_cons_succ]
          refine take (i := 8) (d := some 73) (v := .pointer (some ⟨w.heap.size + 1, 1, none⟩)) rfl (by kernel_rfl) (by kernel_rfl) (by kernel_rfl) (by kernel_rfl) (fun _ _ _ h => h) (Or.inl ⟨by rfl, by intro w hSw; go_simp⟩) hHeld ?_
          simp only [Act.put, List.setIfInBounds_toArray, List.set_cons_zero, List.set_cons_succ]
          refine take (i := 9) (d := some 74) (v := .slice (some ⟨b4, o4, none⟩) 8 c4) rfl (by kernel_rfl) (by kernel_rfl) (by kernel_rfl) (by kernel_rfl) (fun _ _ _ h => h) (Or.inl ⟨by rfl, by intro w hSw; obtain ⟨p00, p01, p10, p11, x0, x1, g1, g2, g3, g4⟩ := hSw; go_simp⟩) hHeld ?_
          simp only [Act.put, List.setIfInBounds_toArray, List.set_cons_zero, List.set_cons_succ]
          refine take (i := 10) (d := some 75) (v := .int .i64 k) rfl (by kernel_rfl) (by kernel_rfl) (by kernel_rfl) (by kernel_rfl) (fun _ _ _ h => h) (Or.inl ⟨by rfl, by intro w hSw; go_simp⟩) hHeld ?_
          simp only [Act.put, List.setIfInBounds_toArray, List.set_cons_zero, List.set_cons_succ]
          refine take (i := 11) (d := some 76) (v := .pointer (some ⟨b4, o4 + k, none⟩)) rfl (by kernel_rfl) (by kernel_rfl) (by kernel_rfl) (by kernel_rfl) (fun _ _ _ h => h) (Or.inl ⟨by rfl, by intro w hSw; go_simp⟩) hHeld ?_
          simp only [Act.put, List.setIfInBounds_toArray, List.set_cons_zero, List.set_cons_succ]
          refine take (i := 12) (d := some 77) (v := .int .i64 m4) rfl (by kernel_rfl) (by kernel_rfl) (by kernel_rfl) (by kernel_rfl) (fun _ _ _ h => h) (Or.inl ⟨by rfl, by intro w hSw; obtain ⟨p00, p01, p10, p11, x0, x1, g1, g2, g3, g4⟩ := hSw; go_simp⟩) hHeld ?_
          simp only [Act.put, List.setIfInBounds_toArray, List.set_cons_zero, List.set_cons_succ]
          refine take (i := 13) (d := some 78) (v := .int .i64 (bits .or .i64 m2 m4)) rfl (by kernel_rfl) (by kernel_rfl) (by kernel_rfl) (by kernel_rfl) (fun _ _ _ h => h) (Or.inl ⟨by rfl, by intro w hSw; go_simp⟩) hHeld ?_
          simp only [Act.put, List.setIfInBounds_toArray, List.set_cons_zero, List.set_cons_succ]
          refine take (i := 14) (d := some 79) (v := .pointer (some ⟨gM, k, none⟩)) rfl (by kernel_rfl) (by kernel_rfl) (by kernel_rfl) (by kernel_rfl) (fun _ _ _ h => h) (Or.inl ⟨by rfl, by intro w hSw; go_simp⟩) hHeld ?_
          simp only [Act.put, List.setIfInBounds_toArray, List.set_cons_zero, List.set_cons_succ]
          refine wpAnyH_ready (rs := [15]) (by kernel_rfl) (by simp) (ready3 (g := gM) (k := k) (v := bits .or .i64 m2 m4) rfl (by kernel_rfl) (.tmp 79) (.tmp 78) (by kernel_rfl) (by kernel_rfl) (by kernel_rfl) (by kernel_rfl) cM1 fM ⟨cell_set1 p00 (by simp; omega), cell_set1 p01 (by simp; omega), cell_set1 p10 (by simp; omega), cell_set1 p11 (by simp; omega), cell_set1 x0 (by simp; omega), cell_set1 x1 (by simp; omega), cell_set1 g1 (by simp; omega), cell_set1 g2 (by simp; omega), cell_set1 g3 (by simp; omega), cell_set1 g4 (by simp; omega)⟩ (fun hHeld => ?_) AllReadyH.nil)
          simp only [Act.put, List.setIfInBounds_toArray, List.set_cons_zero, List.set_cons_succ]
          refine wpAnyH_done (by kernel_rfl) ?_ _
          obtain ⟨wy, hwy⟩ : ∃ wy, wy = ws.drew.setCell ⟨gM, k, none⟩ (.int .i64 (bits .or .i64 m2 m4)) := ⟨_, rfl⟩
          rw [← hwy]
          replace p00 := (by subst hwy; exact cell_set1 p00 (by simp; omega) : wy.cell? _ = _)
          replace p01 := (by subst hwy; exact cell_set1 p01 (by simp; omega) : wy.cell? _ = _)
          replace p10 := (by subst hwy; exact cell_set1 p10 (by simp; omega) : wy.cell? _ = _)
          replace p11 := (by subst hwy; exact cell_set1 p11 (by simp; omega) : wy.cell? _ = _)
          replace x0 := (by subst hwy; exact cell_set1 x0 (by simp; omega) : wy.cell? _ = _)
          replace x1 := (by subst hwy; exact cell_set1 x1 (by simp; omega) : wy.cell? _ = _)
          replace g1 := (by subst hwy; exact cell_set1 g1 (by simp; omega) : wy.cell? _ = _)
          replace g2 := (by subst hwy; exact cell_set1 g2 (by simp; omega) : wy.cell? _ = _)
          replace g3 := (by subst hwy; exact cell_set1 g3 (by simp; omega) : wy.cell? _ = _)
          replace g4 := (by subst hwy; exact cell_set1 g4 (by simp; omega) : wy.cell? _ = _)
          replace cV1 := (by subst hwy; exact cell_set1 cV1 (by simp; omega) : wy.cell? _ = _)
          replace fV : wy.frozen? ⟨gV, k, none⟩ = false := by subst hwy; simpa using fV
          replace hbel : Below w.heap.size w wy := by subst hwy; exact bset hbel.drew (by omega)
          replace Q0 : Hid (wy.heap[w.heap.size]? = some (.cells #[.slice (some ⟨b1, o1, none⟩) 8 c1, .slice (some ⟨b2, o2, none⟩) 8 c2] 25 (0, 0))) := (by subst hwy; exact blk_set Q0.out (Ne.symm d3) : wy.heap[w.heap.size]? = some (.cells #[.slice (some ⟨b1, o1, none⟩) 8 c1, .slice (some ⟨b2, o2, none⟩) 8 c2] 25 (0, 0)))
          replace Q1 : Hid (wy.heap[w.heap.size + 1]? = some (.cells #[.slice (some ⟨b3, o3, none⟩) 8 c3, .slice (some ⟨b4, o4, none⟩) 8 c4] 25 (0, 0))) := (by subst hwy; exact blk_set Q1.out (Ne.symm d4) : wy.heap[w.heap.size + 1]? = some (.cells #[.slice (some ⟨b3, o3, none⟩) 8 c3, .slice (some ⟨b4, o4, none⟩) 8 c4] 25 (0, 0)))
          replace QR : Hid (wy.heap[w.heap.size + 1 + 1]? = some (.cells #[.slice none 0 0, .slice none 0 0] 25 (0, 0))) := (by subst hwy; exact blk_set QR.out d16 : wy.heap[w.heap.size + 1 + 1]? = some (.cells #[.slice none 0 0, .slice none 0 0] 25 (0, 0)))
          replace QX : Hid (wy.heap[X]? = some (.cells #[.slice (some ⟨gV, 0, none⟩) 8 cV, .slice (some ⟨gM, 0, none⟩) 8 cM] 25 (0, 0))) := (by subst hwy; exact blk_set QX.out (Ne.symm d6) : wy.heap[X]? = some (.cells #[.slice (some ⟨gV, 0, none⟩) 8 cV, .slice (some ⟨gM, 0, none⟩) 8 cM] 25 (0, 0)))
          replace gVx : Hid (Wt wy (some ⟨gV, 0, none⟩) gV (lst (cut nv nul k))) := (by subst hwy; exact wt_set2 (wt_drew gVx.out) (Ne.symm l3) : Wt wy (some ⟨gV, 0, none⟩) gV (lst (cut nv nul k)))
          replace gMx : Hid (Wt wy (some ⟨gM, 0, none⟩) gM (lst (cut nm nul (k + 1)))) := (by subst hwy; rw [← EM.out]; exact wt_up (wt_drew gMx.out) hlt : Wt wy (some ⟨gM, 0, none⟩) gM (lst (cut nm nul (k + 1))))
          clear hwy cM1 fM EM
          go_wp2
          refine wp_region_held_drew (S := (fun w' => w'.cell? ⟨w.heap.size, 0, none⟩ = some (.slice (some ⟨b1, o1, none⟩) 8 c1) ∧ w'.cell? ⟨w.heap.size, 1, none⟩ = some (.slice (some ⟨b2, o2, none⟩) 8 c2) ∧ w'.cell? ⟨w.heap.size + 1, 0, none⟩ = some (.slice (some ⟨b3, o3, none⟩) 8 c3) ∧ w'.cell? ⟨w.heap.size + 1, 1, none⟩ = some (.slice (some ⟨b4, o4, none⟩) 8 c4) ∧ w'.cell? ⟨X, 0, none⟩ = some (.slice (some ⟨gV, 0, none⟩) 8 cV) ∧ w'.cell? ⟨X, 1, none⟩ = some (.slice (some ⟨gM, 0, none⟩) 8 cM) ∧ w'.cell? ⟨b1, o1 + k, none⟩ = some (.int .i64 m1) ∧ w'.cell? ⟨b2, o2 + k, none⟩ = some (.int .i64 m2) ∧ w'.cell? ⟨b3, o3 + k, none⟩ = some (.int .i64 m3) ∧ w'.cell? ⟨b4, o4 + k, none⟩ = some (.int .i64 m4))) (by kernel_rfl) ⟨p00, p01, p10, p11, x0, x1, g1, g2, g3, g4⟩ (fun hHeld => ?_)
          refine take (i := 0) (d := some 80) (v := .pointer (some ⟨X, 0, none⟩)) rfl (by kernel_rfl) (by kernel_rfl) (by kernel_rfl) (by kernel_rfl) (fun _ _ _ h => h) (Or.inl ⟨by rfl, by intro w hSw; go_simp⟩) hHeld ?_
          simp only [Act.put, List.setIfInBounds_toArray, List.set_cons_zero, List.set_cons_succ]
          refine take (i := 1) (d := some 81) (v := .slice (some ⟨gV, 0, none⟩) 8 cV) rfl (by kernel_rfl) (by kernel_rfl) (by kernel_rfl) (by kernel_rfl) (fun _ _ _ h => h) (Or.inl ⟨by rfl, by intro w hSw; obtain ⟨p00, p01, p10, p11, x0, x1, g1, g2, g3, g4⟩ := hSw; go_simp⟩) hHeld ?_
          simp only [Act.put, List.setIfInBounds_toArray, List.set_cons_zero, List.set_cons_succ]
          refine take (i := 2) (d := some 82) (v := .int .i64 k) rfl (by kernel_rfl) (by kernel_rfl) (by kernel_rfl) (by kernel_rfl) (fun _ _ _ h => h) (Or.inl ⟨by rfl, by intro w hSw; go_simp⟩) hHeld ?_
          simp only [Act.put, List.setIfInBounds_toArray, List.set_cons_zero, List.set_cons_succ]
          refine take (i := 3) (d := some 83) (v := .pointer (some ⟨w.heap.size, 0, none⟩)) rfl (by kernel_rfl) (by kernel_rfl) (by kernel_rfl) (by kernel_rfl) (fun _ _ _ h => h) (Or.inl ⟨by rfl, by intro w hSw; go_simp⟩) hHeld ?_
          simp only [Act.put, List.setIfInBounds_toArray, List.set_cons_zero, List.set_cons_succ]
          refine take (i := 4) (d := some 84) (v := .slice (some ⟨b1, o1, none⟩) 8 c1) rfl (by kernel_rfl) (by kernel_rfl) (by kernel_rfl) (by kernel_rfl) (fun _ _ _ h => h) (Or.inl ⟨by rfl, by intro w hSw; obtain ⟨p00, p01, p10, p11, x0, x1, g1, g2, g3, g4⟩ := hSw; go_simp⟩) hHeld ?_
          simp only [Act.put, List.setIfInBounds_toArray, List.set_cons_zero, List.set_cons_succ]
          refine take (i := 5) (d := some 85) (v := .int .i64 k) rfl (by kernel_rfl) (by kernel_rfl) (by kernel_rfl) (by kernel_rfl) (fun _ _ _ h => h) (Or.inl ⟨by rfl, by intro w hSw; go_simp⟩) hHeld ?_
          simp only [Act.put, List.setIfInBounds_toArray, List.set_cons_zero, List.set_cons_succ]
          refine take (i := 6) (d := some 86) (v := .pointer (some ⟨b1, o1 + k, none⟩)) rfl (by kernel_rfl) (by kernel_rfl) (by kernel_rfl) (by kernel_rfl) (fun _ _ _ h => h) (Or.inl ⟨by rfl, by intro w hSw; go_simp⟩) hHeld ?_
          simp only [Act.put, List.setIfInBounds_toArray, List.set_cons_zero, List.set_cons_succ]
          refine take (i := 7) (d := some 87) (v := .int .i64 m1) rfl (by kernel_rfl) (by kernel_rfl) (by kernel_rfl) (by kernel_rfl) (fun _ _ _ h => h) (Or.inl ⟨by rfl, by intro w hSw; obtain ⟨p00, p01, p10, p11, x0, x1, g1, g2, g3, g4⟩ := hSw; go_simp⟩) hHeld ?_
          simp only [Act.put, List.setIfInBounds_toArray, List.set_cons_zero, List.set_cons_succ]
          refine take (i := 8) (d := some 88) (v := .pointer (some ⟨w.heap.size + 1, 0, none⟩)) rfl (by kernel_rfl) (by kernel_rfl) (by kernel_rfl) (by kernel_rfl) (fun _ _ _ h => h) (Or.inl ⟨by rfl, by intro w hSw; go_simp⟩) hHeld ?_
          simp only [Act.put, List.setIfInBounds_toArray, List.set_cons_zero, List.set_cons_succ]
          refine take (i := 9) (d := some 89) (v := .slice (some ⟨b3, o3, none⟩) 8 c3) rfl (by kernel_rfl) (by kernel_rfl) (by kernel_rfl) (by kernel_rfl) (fun _ _ _ h => h) (Or.inl ⟨by rfl, by intro w hSw; obtain ⟨p00, p01, p10, p11, x0, x1, g1, g2, g3, g4⟩ := hSw; go_simp⟩) hHeld ?_
          simp only [Act.put, List.setIfInBounds_toArray, List.set_cons_zero, List.set_cons_succ]
          refine take (i := 10) (d := some 90) (v := .int .i64 k) rfl (by kernel_rfl) (by kernel_rfl) (by kernel_rfl) (by kernel_rfl) (fun _ _ _ h => h) (Or.inl ⟨by rfl, by intro w hSw; go_simp⟩) hHeld ?_
          simp only [Act.put, List.setIfInBounds_toArray, List.set_cons_zero, List.set_cons_succ]
          refine take (i := 11) (d := some 91) (v := .pointer (some ⟨b3, o3 + k, none⟩)) rfl (by kernel_rfl) (by kernel_rfl) (by kernel_rfl) (by kernel_rfl) (fun _ _ _ h => h) (Or.inl ⟨by rfl, by intro w hSw; go_simp⟩) hHeld ?_
          simp only [Act.put, List.setIfInBounds_toArray, List.set_cons_zero, List.set_cons_succ]
          refine take (i := 12) (d := some 92) (v := .int .i64 m3) rfl (by kernel_rfl) (by kernel_rfl) (by kernel_rfl) (by kernel_rfl) (fun _ _ _ h => h) (Or.inl ⟨by rfl, by intro w hSw; obtain ⟨p00, p01, p10, p11, x0, x1, g1, g2, g3, g4⟩ := hSw; go_simp⟩) hHeld ?_
          simp only [Act.put, List.setIfInBounds_toArray, List.set_cons_zero, List.set_cons_succ]
          refine take (i := 13) (d := some 93) (v := .int .i64 (bits .or .i64 m1 m3)) rfl (by kernel_rfl) (by kernel_rfl) (by kernel_rfl) (by kernel_rfl) (fun _ _ _ h => h) (Or.inl ⟨by rfl, by intro w hSw; go_simp⟩) hHeld ?_
          simp only [Act.put, List.setIfInBounds_toArray, List.set_cons_zero, List.set_cons_succ]
          refine take (i := 14) (d := some 94) (v := .pointer (some ⟨gV, k, none⟩)) rfl (by kernel_rfl) (by kernel_rfl) (by kernel_rfl) (by kernel_rfl) (fun _ _ _ h => h) (Or.inl ⟨by rfl, by intro w hSw; go_simp⟩) hHeld ?_
          simp only [Act.put, List.setIfInBounds_toArray, List.set_cons_zero, List.set_cons_succ]
          refine wpAnyH_ready (rs := [15]) (by kernel_rfl) (by simp) (ready3 (g := gV) (k := k) (v := bits .or .i64 m1 m3) rfl (by kernel_rfl) (.tmp 94) (.tmp 93) (by kernel_rfl) (by kernel_rfl) (by kernel_rfl) (by kernel_rfl) cV1 fV ⟨cell_set1 p00 (by simp; omega), cell_set1 p01 (by simp; omega), cell_set1 p10 (by simp; omega), cell_set1 p11 (by simp; omega), cell_set1 x0 (by simp; omega), cell_set1 x1 (by simp; omega), cell_set1 g1 (by simp; omega), cell_set1 g2 (by simp; omega), cell_set1 g3 (by simp; omega), cell_set1 g4 (by simp; omega)⟩ (fun hHeld => ?_) AllReadyH.nil)
          simp only [Act.put, List.setIfInBounds_toArray, List.set_cons_zero, List.set_cons_succ]
          refine wpAnyH_done (by kernel_rfl) ?_ _
          go_wp2
          go_roundw
          case rel =>
            rw [← EV.out]
            exact ⟨k + 1, by omega, by go_num, by first | exact (bset hbel (by omega)).drew | exact bset hbel.drew (by omega), by first | exact blk_set Q0.out (Ne.symm d1) | exact blk_set (g := w.heap.size) Q0.out (Ne.symm d1), blk_set Q1.out (Ne.symm d2), blk_set QR.out d15, blk_set QX.out (Ne.symm d5), by first | exact wt_drew (wt_up gVx.out hlt) | exact wt_up (wt_drew gVx.out) hlt, by first | exact wt_drew (wt_set2 gMx.out l3) | exact wt_set2 (wt_drew gMx.out) l3, HY.out⟩
          case measure => simp [intOf]; omega
    · have he : k = 8 := by omega
      subst he
      have hr := HR.out.2 HG.out
      have e8 : lst (cut nv nul 8) = lst nv := by unfold lst; apply List.map_congr_left; intro i hi; simp at hi; simp [cut, hi]
      have e9 : lst (cut nm nul 8) = lst nm := by unfold lst; apply List.map_congr_left; intro i hi; simp at hi; simp [cut, hi]
      rw [e8] at hv
      rw [e9] at hm
      clear e8 e9 HLT NV NM D1 R1 D2 R2 D3 R3 D4 R4
      have HRR : Hid (R = true) := hr
      clear hr
      obtain ⟨x0, x1⟩ := two qX
      obtain ⟨s0, s1⟩ := two qR
      have fR := Bl.free qR
      have nX : X ≠ w.heap.size + 1 + 1 := by omega
      go_wp2
      obtain ⟨rfl, rfl⟩ := Y1.out HRR.out
      rw [HRR.out]
      refine bodyPost_ret (v := .tuple #[.agg #[.slice (some ⟨gV, 0, none⟩) 8 cV, .slice (some ⟨gM, 0, none⟩) 8 cM], .bool true]) (by simp [results, Try.results147, go_sem, s0, s1]) rfl ⟨_, gV, _, _, gM, _, by rw [lst_len, lst_len], ?_, ?_, by omega, by omega, l3, ?_⟩
      · exact wt_set2 (wt_set2 hv (by omega)) (by omega)
      · exact wt_set2 (wt_set2 hm (by omega)) (by omega)
      · exact bset (bset hbo (by omega)) (by omega)

end Go.Proofs.Ytcbhpmgjmpbpmaa.Mm
namespace Go.Proofs.Ytcbhpmgjmpbpmaa.Mu
set_option maxRecDepth 8000
open Go Go.RowKit
open Num Pl Hr Hh Hf Hg Pa Pm Po Pq Mi Bw Mo Mp Mj Mm
set_option linter.unusedSimpArgs false
set_option linter.unusedVariables false

theorem cell_set0 {w : World} {a : Addr} {g i : Nat} {x : Value} {v : Option Value} (h : w.cell? a = v) (hne : a.block ≠ g) : (w.setCell ⟨g, i, none⟩ x).cell? a = v := by
  rw [World.cell?_setCell_other _ _ _ _ (by intro q; exact hne (by rw [← q]))]
  exact h
theorem quo8 (f : Nat) (h : f < 8) : fb f / 8 = (((fbN f) / 8 : Nat) : Int) := by
  rw [fbN_eq]; omega
theorem pw_full (f : Nat) (h : f < 8) : (pw (fbN f / 8) : Int) - 1 = fullI f := by
  rcases Hs.k8 h with rfl | rfl | rfl | rfl | rfl | rfl | rfl | rfl <;> decide

set_option maxHeartbeats 1000000 in
theorem fullS_any (f : Nat) (hf : f < 8) (w : World) : Calls Try.prog 207 #[.int .i64 f] w fun e w' => e = .returned (.int .i64 (fullI f)) ∧ Below w.heap.size w w' := by
  rcases Hs.k8 hf with rfl | rfl | rfl | rfl | rfl | rfl | rfl | rfl
  · have hb := specBits_any 0 w
    rw [show fb 0 = 8 from by decide] at hb
    have hp := fun w => pow_any 1 (by omega) w
    have e : fullI 0 = (pw 1 : Int) - 1 := by decide
    have hv : pw 1 = 256 := by decide
    rw [e, hv]
    rw [hv] at hp
    clear e hv
    go_enter Try.func207, Try.ntmps207
    go_wp2_with (first | (go_at_call 142; refine hb.mono ?_; rintro e wa ⟨rfl, hba⟩) | (go_at_call 191; refine (hp _).mono ?_; rintro e wq ⟨rfl, hwq⟩; replace hwq := hwq.symm; subst hwq))
    go_ret
    exact ⟨rfl, hba⟩
  · have hb := specBits_any 1 w
    rw [show fb 1 = 48 from by decide] at hb
    have hp := fun w => pow_any 6 (by omega) w
    have e : fullI 1 = (pw 6 : Int) - 1 := by decide
    have hv : pw 6 = 281474976710656 := by decide
    rw [e, hv]
    rw [hv] at hp
    clear e hv
    go_enter Try.func207, Try.ntmps207
    go_wp2_with (first | (go_at_call 142; refine hb.mono ?_; rintro e wa ⟨rfl, hba⟩) | (go_at_call 191; refine (hp _).mono ?_; rintro e wq ⟨rfl, hwq⟩; replace hwq := hwq.symm; subst hwq))
    go_ret
    exact ⟨rfl, hba⟩
  · have hb := specBits_any 2 w
    rw [show fb 2 = 48 from by decide] at hb
    have hp := fun w => pow_any 6 (by omega) w
    have e : fullI 2 = (pw 6 : Int) - 1 := by decide
    have hv : pw 6 = 281474976710656 := by decide
    rw [e, hv]
    rw [hv] at hp
    clear e hv
    go_enter Try.func207, Try.ntmps207
    go_wp2_with (first | (go_at_call 142; refine hb.mono ?_; rintro e wa ⟨rfl, hba⟩) | (go_at_call 191; refine (hp _).mono ?_; rintro e wq ⟨rfl, hwq⟩; replace hwq := hwq.symm; subst hwq))
    go_ret
    exact ⟨rfl, hba⟩
  · have hb := specBits_any 3 w
    rw [show fb 3 = 16 from by decide] at hb
    have hp := fun w => pow_any 2 (by omega) w
    have e : fullI 3 = (pw 2 : Int) - 1 := by decide
    have hv : pw 2 = 65536 := by decide
    rw [e, hv]
    rw [hv] at hp
    clear e hv
    go_enter Try.func207, Try.ntmps207
    go_wp2_with (first | (go_at_call 142; refine hb.mono ?_; rintro e wa ⟨rfl, hba⟩) | (go_at_call 191; refine (hp _).mono ?_; rintro e wq ⟨rfl, hwq⟩; replace hwq := hwq.symm; subst hwq))
    go_ret
    exact ⟨rfl, hba⟩
  · have hb := specBits_any 4 w
    rw [show fb 4 = 16 from by decide] at hb
    have hp := fun w => pow_any 2 (by omega) w
    have e : fullI 4 = (pw 2 : Int) - 1 := by decide
    have hv : pw 2 = 65536 := by decide
    rw [e, hv]
    rw [hv] at hp
    clear e hv
    go_enter Try.func207, Try.ntmps207
    go_wp2_with (first | (go_at_call 142; refine hb.mono ?_; rintro e wa ⟨rfl, hba⟩) | (go_at_call 191; refine (hp _).mono ?_; rintro e wq ⟨rfl, hwq⟩; replace hwq := hwq.symm; subst hwq))
    go_ret
    exact ⟨rfl, hba⟩
  · have hb := specBits_any 5 w
    rw [show fb 5 = 32 from by decide] at hb
    have hp := fun w => pow_any 4 (by omega) w
    have e : fullI 5 = (pw 4 : Int) - 1 := by decide
    have hv : pw 4 = 4294967296 := by decide
    rw [e, hv]
    rw [hv] at hp
    clear e hv
    go_enter Try.func207, Try.ntmps207
    go_wp2_with (first | (go_at_call 142; refine hb.mono ?_; rintro e wa ⟨rfl, hba⟩) | (go_at_call 191; refine (hp _).mono ?_; rintro e wq ⟨rfl, hwq⟩; replace hwq := hwq.symm; subst hwq))
    go_ret
    exact ⟨rfl, hba⟩
  · have hb := specBits_any 6 w
    rw [show fb 6 = 32 from by decide] at hb
    have hp := fun w => pow_any 4 (by omega) w
    have e : fullI 6 = (pw 4 : Int) - 1 := by decide
    have hv : pw 4 = 4294967296 := by decide
    rw [e, hv]
    rw [hv] at hp
    clear e hv
    go_enter Try.func207, Try.ntmps207
    go_wp2_with (first | (go_at_call 142; refine hb.mono ?_; rintro e wa ⟨rfl, hba⟩) | (go_at_call 191; refine (hp _).mono ?_; rintro e wq ⟨rfl, hwq⟩; replace hwq := hwq.symm; subst hwq))
    go_ret
    exact ⟨rfl, hba⟩
  · have hb := specBits_any 7 w
    rw [show fb 7 = 8 from by decide] at hb
    have hp := fun w => pow_any 1 (by omega) w
    have e : fullI 7 = (pw 1 : Int) - 1 := by decide
    have hv : pw 1 = 256 := by decide
    rw [e, hv]
    rw [hv] at hp
    clear e hv
    go_enter Try.func207, Try.ntmps207
    go_wp2_with (first | (go_at_call 142; refine hb.mono ?_; rintro e wa ⟨rfl, hba⟩) | (go_at_call 191; refine (hp _).mono ?_; rintro e wq ⟨rfl, hwq⟩; replace hwq := hwq.symm; subst hwq))
    go_ret
    exact ⟨rfl, hba⟩

end Go.Proofs.Ytcbhpmgjmpbpmaa.Mu
namespace Go.Proofs.Ytcbhpmgjmpbpmaa.Dr
set_option maxRecDepth 8000
open Go Go.RowKit
open Num Rw Mk Un Put
set_option linter.unusedSimpArgs false
set_option linter.unusedVariables false

set_option maxHeartbeats 2000000 in
/-- A number of any kind. -/
theorem raw_any (g : Nat) (a : Option Addr) (b off cap : Nat) (l : List Int) (w : World) (h : Cur w g a b off cap l) :
    Calls Try.prog 149 #[.pointer (some ⟨g, 0, none⟩)] w fun e w' => ∃ x : Int, e = .returned (.int .i64 x) ∧ Cur w' g a b off cap l ∧ Only g w w' := by
  have hC := h
  have hO := Only.refl g w
  clear h
  go_enter Try.func149, Try.ntmps149
  go_wp2_with (first | (go_at_call 74; refine (below_any _ _ _ _ _ _ _ _ hC (by omega) (by omega)).mono ?_; rintro e w1 ⟨x, rfl, x0, x1, hC1, hO1⟩; replace hO := only_trans hO hO1; replace hC := hC1; clear hC1 hO1) | (go_at_call 191; refine (powI _ _ (by omega) (by omega)).mono ?_; rintro e w1 ⟨rfl, rfl⟩))
  all_goals
    go_ret
    exact ⟨_, rfl, hC, hO⟩


end Go.Proofs.Ytcbhpmgjmpbpmaa.Dr
namespace Go.Proofs.Ytcbhpmgjmpbpmaa.Yu
set_option maxRecDepth 8000
set_option linter.unusedSimpArgs false
set_option linter.unusedVariables false
open Go Go.RowKit
open Num Pl Hr Hh Pq Ht Yh Yl

/-- A head is handed back, in memory of the call's own, and the cursor goes on. -/
def HeadD (w : World) (g : Nat) (a : Option Addr) (b off cap : Nat) (c : List Int) (e : Ending) (w' : World) : Prop :=
  ∃ gv cv l, e = .returned (.agg #[.slice (some ⟨gv, 0, none⟩) (List.length l) cv]) ∧ Own w' gv l ∧ w.heap.size ≤ gv ∧ Dr.Cur w' g a b off cap c ∧ Mk.Only g w w'
theorem mine8 {w : World} {g : Nat} {x0 x1 x2 x3 x4 x5 x6 x7 : Int} (h : w.heap[g]? = some (.cells #[.int .i64 x0, .int .i64 x1, .int .i64 x2, .int .i64 x3, .int .i64 x4, .int .i64 x5, .int .i64 x6, .int .i64 x7] 3 (0, 0))) : Mine w g [x0, x1, x2, x3, x4, x5, x6, x7] := by
  refine ⟨⟨_, h, rfl, fun i hi => ?_⟩, by simp⟩
  rcases Hs.k8 (by simpa using hi : i < 8) with rfl | rfl | rfl | rfl | rfl | rfl | rfl | rfl <;> rfl
theorem own_onlyN {w w' : World} {g q : Nat} {l : List Int} (h : Mine w q l) (ho : Mk.Only g w w') (hne : q ≠ g) : Mine w' q l := Yq.mine_only h ho hne
theorem mine_put {w : World} {g F : Nat} {l : List Int} {x : Int} (h : Mine w g l) : Mine (w.setCell ⟨g, F, none⟩ (.int .i64 x)) g (l.set F x) := by
  refine ⟨?_, by simpa using h.size⟩
  rw [List.length_set]
  refine (h.row.set F _).congr fun i hi => ?_
  rw [set_at hi]
  by_cases e : i = F
  · rw [if_pos e, if_pos e]
  · rw [if_neg e, if_neg e]
theorem mine_of {w w' : World} {g : Nat} {l : List Int} (h : Mine w g l) (e : w'.heap[g]? = w.heap[g]?) : Mine w' g l := ⟨h.row.of_block e, h.size⟩
theorem pw_bound {k : Nat} (h : k ≤ 6) : 0 ≤ (pw k : Int) ∧ (pw k : Int) ≤ 281474976710656 := by
  have e : k = 0 ∨ k = 1 ∨ k = 2 ∨ k = 3 ∨ k = 4 ∨ k = 5 ∨ k = 6 := by omega
  rcases e with rfl | rfl | rfl | rfl | rfl | rfl | rfl <;> decide
theorem only_below {g : Nat} {w w1 w2 : World} (h : Mk.Only g w w1) (b : Below w1.heap.size w1 w2) : Mk.Only g w w2 :=
  ⟨b.os.trans h.os, b.tape.trans h.tape, b.output.trans h.output, Nat.le_trans h.size b.size, fun k hk hne => (b.block k (Nat.lt_of_lt_of_le hk h.size)).trans (h.block k hk hne)⟩
theorem wrap_of {x : Int} (h0 : -9223372036854775808 ≤ x) (h1 : x ≤ 9223372036854775807) : IntKind.i64.wrap x = x := by rw [IntKind.wrap_i64]; omega
theorem block_set1 {w : World} {g : Nat} {v0 u : Value} {t : TypeId} (k : w.heap[g]? = some (.cells #[v0] t (0, 0))) : (w.setCell ⟨g, 0, none⟩ u).heap[g]? = some (.cells #[u] t (0, 0)) := by
  simp [World.setCell, Array.getElem?_modify, k]

set_option maxHeartbeats 4000000 in
theorem head_any (g : Nat) (a : Option Addr) (b off cap : Nat) (c : List Int) (w : World) (h : Dr.Cur w g a b off cap c) :
    Calls Try.prog 139 #[.pointer (some ⟨g, 0, none⟩)] w fun e w' => ∃ gv l, e = .returned (.agg #[.slice (some ⟨gv, 0, none⟩) 8 8]) ∧ Mine w' gv l ∧ l.length = 8 ∧ w.heap.size ≤ gv ∧ Dr.Cur w' g a b off cap c ∧ Mk.Only g w w' := by
  obtain ⟨W0, hW0⟩ : ∃ W0, W0 = w.alloc (.cells #[.slice none 0 0] 28) := ⟨_, rfl⟩
  have hg := Dr.cur_lt h
  have hbl := Dr.rd_lt h.rd
  have hC0 : Dr.Cur W0 g a b off cap c := by subst hW0; exact Dr.cur_alloc h _
  have k0 : W0.heap[w.heap.size]? = some (.cells #[.slice none 0 0] 28 (0, 0)) := by subst hW0; exact at_new rfl
  have hON : Mk.Only g W0 W0 := Mk.Only.refl _ _
  have hO0 : Mk.Only g w W0 := by subst hW0; exact Dr.only_alloc (Mk.Only.refl _ _) _
  have z0 : w.heap.size < W0.heap.size := by subst hW0; simp
  clear h
  go_enter Try.func139, Try.ntmps139
  have t1 : True := trivial
  go_wp2_with (go_at_call 74; clear t1; rw [← hW0]; refine (Dr.below_any _ _ _ _ _ _ 4 _ hC0 (by omega) (by omega)).mono ?_; rintro e w1 ⟨x1, rfl, x10, x11, hC1, hO⟩; replace hON := Dr.only_trans hON hO; clear hC0 hO hW0)
  have t2 : True := trivial
  go_wp2_with (go_at_call 74; clear t2; refine (Dr.below_any _ _ _ _ _ _ 5 _ hC1 (by omega) (by omega)).mono ?_; rintro e w2 ⟨x2, rfl, x20, x21, hC2, hO⟩; replace hON := Dr.only_trans hON hO; clear hC1 hO)
  have t3 : True := trivial
  go_wp2_with (go_at_call 74; clear t3; refine (Dr.below_any _ _ _ _ _ _ 5 _ hC2 (by omega) (by omega)).mono ?_; rintro e w3 ⟨x3, rfl, x30, x31, hC3, hO⟩; replace hON := Dr.only_trans hON hO; clear hC2 hO)
  have t4 : True := trivial
  go_wp2_with (go_at_call 74; clear t4; refine (Dr.below_any _ _ _ _ _ _ 3 _ hC3 (by omega) (by omega)).mono ?_; rintro e w4 ⟨x4, rfl, x40, x41, hC4, hO⟩; replace hON := Dr.only_trans hON hO; clear hC3 hO)
  have t5 : True := trivial
  go_wp2_with (go_at_call 74; clear t5; refine (Dr.below_any _ _ _ _ _ _ 4 _ hC4 (by omega) (by omega)).mono ?_; rintro e w5 ⟨x5, rfl, x50, x51, hC5, hO⟩; replace hON := Dr.only_trans hON hO; clear hC4 hO)
  have t6 : True := trivial
  go_wp2_with (go_at_call 74; clear t6; refine (Dr.below_any _ _ _ _ _ _ 4 _ hC5 (by omega) (by omega)).mono ?_; rintro e w6 ⟨x6, rfl, x60, x61, hC6, hO⟩; replace hON := Dr.only_trans hON hO; clear hC5 hO)
  obtain ⟨W7, hW7⟩ : ∃ W7, W7 = (w6.alloc (.cells #[.int .i64 (1 + x1), .int .i64 x2, .int .i64 x3, .int .i64 2048, .int .i64 x4, .int .i64 x5, .int .i64 x6, .int .i64 17] 3)).alloc (.cells #[.slice (some ⟨w6.heap.size, 0, none⟩) 8 8] 28) := ⟨_, rfl⟩
  have oV : Mine W7 w6.heap.size [1 + x1, x2, x3, 2048, x4, x5, x6, 17] := by subst hW7; exact mine8 (by rw [at_old (by simp), at_new rfl])
  have kH : W7.heap[w6.heap.size + 1]? = some (.cells #[.slice (some ⟨w6.heap.size, 0, none⟩) 8 8] 28 (0, 0)) := by subst hW7; exact at_new (by simp)
  have hC7 : Dr.Cur W7 g a b off cap c := by subst hW7; exact Dr.cur_alloc (Dr.cur_alloc hC6 _) _
  have z6 : W0.heap.size ≤ w6.heap.size := hON.size
  have hg6 : g < w6.heap.size := by omega
  have kR : W7.heap[w.heap.size]? = some (.cells #[.slice none 0 0] 28 (0, 0)) := by
    have q := (hON.block _ z0 (by simp; omega)).trans k0
    subst hW7
    rw [at_old (by simp; omega), at_old (by omega)]
    exact q
  have hO7 : Mk.Only g w W7 := by subst hW7; exact Dr.only_alloc (Dr.only_alloc (Dr.only_trans hO0 hON) _) _
  have z7 : w6.heap.size + 2 ≤ W7.heap.size := by subst hW7; simp
  have hWlt : w.heap.size < w6.heap.size := by omega
  obtain ⟨l0, hl0⟩ : ∃ l0, l0 = [1 + x1, x2, x3, 2048, x4, x5, x6, 17] := ⟨_, rfl⟩
  rw [← hl0] at oV
  have l8 : l0.length = 8 := by rw [hl0]; rfl
  clear hl0 hON k0 hO0 z0 hC6
  have t7 : True := trivial
  go_wp2_with (go_at_call 74; clear t7; rw [← hW7]; refine (Dr.below_any _ _ _ _ _ _ 4 _ hC7 (by omega) (by omega)).mono ?_; rintro e w8 ⟨x7, rfl, x70, x71, hC8, hO⟩; clear hW7 hC7; replace oV := own_onlyN oV hO (by omega); replace kH := (hO.block _ (by omega) (by simp; omega)).trans kH; replace kR := (hO.block _ (by omega) (by simp; omega)).trans kR; replace hO7 := Dr.only_trans hO7 hO; have z8 := hO.size; clear hO; have c1 := Hh.one kH; have r1 := Hh.one kR; have r2 := Bl.free kR)
  · clear c1 r1 r2
    have t8 : True := trivial
    go_wp2_with (go_at_call 74; clear t8; refine (Dr.below_any _ _ _ _ _ _ 8 _ hC8 (by omega) (by omega)).mono ?_; rintro e w9 ⟨f, rfl, f0, f1, hC9, hO⟩; clear hC8; replace oV := own_onlyN oV hO (by omega); replace kH := (hO.block _ (by omega) (by simp; omega)).trans kH; replace kR := (hO.block _ (by omega) (by simp; omega)).trans kR; replace hO7 := Dr.only_trans hO7 hO; have z9 := hO.size; clear hO)
    obtain ⟨F, hF⟩ : ∃ F : Nat, f = F := ⟨f.toNat, by omega⟩
    subst hF
    have hF8 : F < 8 := by omega
    obtain ⟨q, hq⟩ : ∃ q : Int, q = Hf.fb F / 8 := ⟨_, rfl⟩
    have hq6 : 0 ≤ q ∧ q ≤ 6 := by rcases Hg.fb_val F with e | e | e | e | e <;> (rw [e] at hq; omega)
    obtain ⟨pp, hpp⟩ : ∃ pp : Int, pp = (pw q.toNat : Int) := ⟨_, rfl⟩
    have hp0 : 0 ≤ pp ∧ pp ≤ 281474976710656 := by rw [hpp]; exact pw_bound (by omega)
    have hd1 : (Hf.fb F).tdiv 8 = q := by rcases Hg.fb_val F with e | e | e | e | e <;> (rw [e] at hq ⊢; rw [hq]; rfl)
    have HPP : Hid (pp = (pw q.toNat : Int)) := hpp
    have hfr : 0 ≤ Hf.fb F ∧ Hf.fb F ≤ 48 := by rcases Hg.fb_val F with e | e | e | e | e <;> omega
    have hw1 : IntKind.i64.wrap q = q := wrap_of (by omega) (by omega)
    have hw2 : IntKind.i64.wrap (pp - 1) = pp - 1 := wrap_of (by omega) (by omega)
    clear hq hpp
    refine wp_region_held_drew (S := fun w' => w'.heap[w6.heap.size + 1]? = some (.cells #[.slice (some ⟨w6.heap.size, 0, none⟩) 8 8] 28 (0, 0))) (by kernel_rfl) kH (fun hHeld => ?_)
    refine take (i := 0) (d := some 25) (v := .pointer (some ⟨w6.heap.size + 1, 0, none⟩)) rfl (by kernel_rfl) (by kernel_rfl) (by kernel_rfl) (by kernel_rfl) (fun _ _ _ h => h) (Or.inl ⟨by rfl, by intro w hSw; go_simp⟩) hHeld ?_
    simp only [Act.put, List.setIfInBounds_toArray, List.set_cons_zero, List.set_cons_succ]
    refine take (i := 1) (d := some 26) (v := .slice (some ⟨w6.heap.size, 0, none⟩) 8 8) rfl (by kernel_rfl) (by kernel_rfl) (by kernel_rfl) (by kernel_rfl) (fun _ _ _ h => h) (Or.inl ⟨by rfl, by intro w hSw; have q1 := Hh.one hSw; go_simp⟩) hHeld ?_
    simp only [Act.put, List.setIfInBounds_toArray, List.set_cons_zero, List.set_cons_succ]
    refine take (i := 2) (d := some 27) (v := .int .i64 F) rfl (by kernel_rfl) (by kernel_rfl) (by kernel_rfl) (by kernel_rfl) (fun _ _ _ h => h) (Or.inl ⟨by rfl, by intro w hSw; go_simp⟩) hHeld ?_
    simp only [Act.put, List.setIfInBounds_toArray, List.set_cons_zero, List.set_cons_succ]
    refine take (i := 3) (d := some 28) (v := .int .i64 F) rfl (by kernel_rfl) (by kernel_rfl) (by kernel_rfl) (by kernel_rfl) (fun _ _ _ h => h) (Or.inl ⟨by rfl, by intro w hSw; go_simp⟩) hHeld ?_
    simp only [Act.put, List.setIfInBounds_toArray, List.set_cons_zero, List.set_cons_succ]
    refine take (i := 8) (d := some 33) (v := .pointer (some ⟨g, 0, none⟩)) rfl (by kernel_rfl) (by kernel_rfl) (by kernel_rfl) (by kernel_rfl) (fun _ _ _ h => h) (Or.inl ⟨by rfl, by intro w hSw; go_simp⟩) hHeld ?_
    simp only [Act.put, List.setIfInBounds_toArray, List.set_cons_zero, List.set_cons_succ]
    refine wpAnyH_ready (rs := [4]) (by kernel_rfl) (by simp) (Rg.call1 rfl (by kernel_rfl) 142 (.tmp 28) 3 (by kernel_rfl) 29 (by kernel_rfl) (.int .i64 F) (by kernel_rfl) (fun _ => rfl) (Hf.specBits_any _ _) ?_ AllReadyH.nil)
    rintro e wa ⟨rfl, hb⟩
    replace hb := Rw.next (Below.drew (Below.refl _ w9)) hb
    have za := hb.size
    replace oV := oV.below hb
    replace kH := (hb.block _ (by omega)).trans kH
    replace kR := (hb.block _ (by omega)).trans kR
    replace hC9 := Dr.cur_keep hC9 (fun k hk => hb.block k hk) (Dr.cur_lt hC9) (Dr.rd_lt hC9.rd)
    replace hO7 := only_below hO7 hb
    clear hb
    refine ⟨_, rfl, kH, fun hHeld => ?_⟩
    simp only [Act.put, List.setIfInBounds_toArray, List.set_cons_zero, List.set_cons_succ]
    refine take (i := 5) (d := some 30) (v := .int .i64 q) rfl (by kernel_rfl) (by kernel_rfl) (by kernel_rfl) (by kernel_rfl) (fun _ _ _ h => h) (Or.inl ⟨by rfl, by intro w hSw; go_simp⟩) hHeld ?_
    simp only [Act.put, List.setIfInBounds_toArray, List.set_cons_zero, List.set_cons_succ]
    refine wpAnyH_ready (rs := [6]) (by kernel_rfl) (by simp) (Rg.call1 rfl (by kernel_rfl) 191 (.tmp 30) 3 (by kernel_rfl) 31 (by kernel_rfl) (.int .i64 q) (by kernel_rfl) (fun _ => rfl) (Dr.powI q _ hq6.1 hq6.2) ?_ AllReadyH.nil)
    rw [← HPP.out]
    rintro e wb ⟨rfl, hw⟩
    replace hw := hw.symm
    subst hw
    refine ⟨_, rfl, kH, fun hHeld => ?_⟩
    simp only [Act.put, List.setIfInBounds_toArray, List.set_cons_zero, List.set_cons_succ]
    refine take (i := 7) (d := some 32) (v := .int .i64 (pp - 1)) rfl (by kernel_rfl) (by kernel_rfl) (by kernel_rfl) (by kernel_rfl) (fun _ _ _ h => h) (Or.inl ⟨by rfl, by intro w hSw; go_simp⟩) hHeld ?_
    simp only [Act.put, List.setIfInBounds_toArray, List.set_cons_zero, List.set_cons_succ]
    refine wpAnyH_ready (rs := [9]) (by kernel_rfl) (by simp) (Rg.call2 rfl (by kernel_rfl) 74 (.tmp 33) (.const (.int .i64 2)) 98 3 (by kernel_rfl) 34 (by kernel_rfl) (.pointer (some ⟨g, 0, none⟩)) (.int .i64 2) (by kernel_rfl) (by kernel_rfl) (fun _ => rfl) (Dr.below_any _ _ _ _ _ _ 2 _ hC9 (by omega) (by omega)) ?_ AllReadyH.nil)
    rintro e wc ⟨y, rfl, y0, y1, hC, hO⟩
    have zc := hO.size
    have hw3 : IntKind.i64.wrap (pp - 1 - y) = pp - 1 - y := wrap_of (by omega) (by omega)
    replace oV := own_onlyN oV hO (by omega)
    replace kH := (hO.block _ (by omega) (by simp; omega)).trans kH
    replace kR := (hO.block _ (by omega) (by simp; omega)).trans kR
    replace hO7 := Dr.only_trans hO7 hO
    clear hO hC9
    refine ⟨_, rfl, kH, fun hHeld => ?_⟩
    simp only [Act.put, List.setIfInBounds_toArray, List.set_cons_zero, List.set_cons_succ]
    refine take (i := 10) (d := some 35) (v := .int .i64 (pp - 1 - y)) rfl (by kernel_rfl) (by kernel_rfl) (by kernel_rfl) (by kernel_rfl) (fun _ _ _ h => h) (Or.inl ⟨by rfl, by intro w hSw; go_simp⟩) hHeld ?_
    simp only [Act.put, List.setIfInBounds_toArray, List.set_cons_zero, List.set_cons_succ]
    refine take (i := 11) (d := some 36) (v := .pointer (some ⟨w6.heap.size, F, none⟩)) rfl (by kernel_rfl) (by kernel_rfl) (by kernel_rfl) (by kernel_rfl) (fun _ _ _ h => h) (Or.inl ⟨by rfl, by intro w hSw; go_simp⟩) hHeld ?_
    simp only [Act.put, List.setIfInBounds_toArray, List.set_cons_zero, List.set_cons_succ]
    have cV := (mine_wt oV).cell F (by omega)
    have fV := (mine_wt oV).free F (by omega)
    refine wpAnyH_ready (rs := [12]) (by kernel_rfl) (by simp) (readySkip (i := 12) rfl (by kernel_rfl) none (by kernel_rfl) (w' := wc.setCell ⟨w6.heap.size, F, none⟩ (.int .i64 (pp - 1 - y))) (by go_simp) ((Below.heap_setCell _ _ _ _ (by simp)).trans kH) (fun hHeld => ?_) AllReadyH.nil)
    simp only [Act.put, List.setIfInBounds_toArray, List.set_cons_zero, List.set_cons_succ]
    refine wpAnyH_done (by kernel_rfl) ?_ _
    have oE := mine_put (F := F) (x := pp - 1 - y) oV
    have kHE : (wc.setCell ⟨w6.heap.size, F, none⟩ (.int .i64 (pp - 1 - y))).heap[w6.heap.size + 1]? = _ := (Below.heap_setCell _ _ _ _ (by simp)).trans kH
    have kRE : (wc.setCell ⟨w6.heap.size, F, none⟩ (.int .i64 (pp - 1 - y))).heap[w.heap.size]? = _ := (Below.heap_setCell _ _ _ _ (by simp; omega)).trans kR
    have hCE : Dr.Cur (wc.setCell ⟨w6.heap.size, F, none⟩ (.int .i64 (pp - 1 - y))) g a b off cap c := Dr.cur_keep hC (fun k hk => Below.heap_setCell _ _ _ _ (by simp; omega)) (B := w6.heap.size) hg6 (hbl.imp id (fun q => by omega))
    have hOE : Mk.Only g w (wc.setCell ⟨w6.heap.size, F, none⟩ (.int .i64 (pp - 1 - y))) := Dr.only_set hO7 (by omega)
    generalize wc.setCell ⟨w6.heap.size, F, none⟩ (.int .i64 (pp - 1 - y)) = wE at *
    have c1 := Hh.one kHE
    have r1 := Hh.one kRE
    have r2 := Bl.free kRE 0
    go_wp2
    refine bodyPost_ret (v := .agg #[.slice (some ⟨w6.heap.size, 0, none⟩) 8 8]) (by simp [results, Try.results139, go_sem, Hh.one (block_set1 kRE)]) rfl ⟨_, _, rfl, mine_of oE (Below.heap_setCell _ _ _ _ (by simp; omega)), by rw [List.length_set]; exact l8, by omega, Dr.cur_keep hCE (fun k hk => Below.heap_setCell _ _ _ _ (by simp; omega)) (B := w.heap.size) hg hbl, Dr.only_set hOE (Nat.le_refl _)⟩
  · refine bodyPost_ret (v := .agg #[.slice (some ⟨w6.heap.size, 0, none⟩) 8 8]) (by simp [results, Try.results139, go_sem, Hh.one (block_set1 kR)]) rfl ⟨_, _, rfl, mine_of oV (Below.heap_setCell _ _ _ _ (by simp; omega)), l8, by omega, Dr.cur_keep hC8 (fun k hk => Below.heap_setCell _ _ _ _ (by simp; omega)) (B := w.heap.size) hg hbl, Dr.only_set hO7 (Nat.le_refl _)⟩


end Go.Proofs.Ytcbhpmgjmpbpmaa.Yu
namespace Go.Proofs.Ytcbhpmgjmpbpmaa.Yx
set_option maxRecDepth 8000
set_option linter.unusedSimpArgs false
set_option linter.unusedVariables false
open Go Go.RowKit
open Num Pl Hr Hh Pq Ht Yh Yl Yu

abbrev A3 := Yb.A3
def cellsA (x : A3) : List Value := [.int .i64 x.1, .int .i64 x.2.1, .int .i64 x.2.2]
def flatA (l : List A3) : List Value := l.flatMap cellsA
theorem flatA_get : ∀ (l : List A3) (i : Nat), i < l.length → (flatA l)[i * 3]? = some (.int .i64 (l.getD i Yb.z3).1) ∧ (flatA l)[i * 3 + 1]? = some (.int .i64 (l.getD i Yb.z3).2.1) ∧ (flatA l)[i * 3 + 2]? = some (.int .i64 (l.getD i Yb.z3).2.2)
  | [], i, h => by simp at h
  | x :: l, 0, h => by simp [flatA, cellsA, List.getD]
  | x :: l, i + 1, h => by
    have q := flatA_get l i (by simpa using h)
    have e0 : (i + 1) * 3 = i * 3 + 1 + 1 + 1 := by omega
    have e : flatA (x :: l) = .int .i64 x.1 :: .int .i64 x.2.1 :: .int .i64 x.2.2 :: flatA l := by simp [flatA, cellsA]
    rw [e0, e]
    exact ⟨q.1, q.2.1, q.2.2⟩
theorem info76 : (Try.prog.info? 133).map (fun i => (i.zero, i.size, i.bytes)) = some (some (.agg #[.int .i64 0, .int .i64 0, .int .i64 0]), 3, 24) := by kernel_rfl

/-- A slice of the call's own, not nil, that holds the actions l. -/
def HasA (w : World) (B : Nat) (v : Value) (l : List A3) : Prop := w.ownsRow B 133 3 v l.length (flatA l) ∧ v ≠ .slice none 0 0
theorem hasA_mono {w : World} {B B' : Nat} {v : Value} {l : List A3} (h : HasA w B v l) (hB : B' ≤ B) : HasA w B' v l := by
  refine ⟨⟨h.1.1, ?_⟩, h.2⟩
  rcases h.1.2 with ⟨e1, e2⟩ | ⟨g, cap, cur, e1, hb, hg, rest⟩
  · exact .inl ⟨e1, e2⟩
  · exact .inr ⟨g, cap, cur, e1, Nat.le_trans hB hb, hg, rest⟩
theorem hasA_keep {w w' : World} {B : Nat} {v : Value} {l : List A3} (h : HasA w B v l) (hk : ∀ k, B ≤ k → k < w.heap.size → w'.heap[k]? = w.heap[k]?) : HasA w' B v l := by
  refine ⟨⟨h.1.1, ?_⟩, h.2⟩
  rcases h.1.2 with ⟨e1, e2⟩ | ⟨g, cap, cur, e1, hb, hg, rest⟩
  · exact .inl ⟨e1, e2⟩
  · exact .inr ⟨g, cap, cur, e1, hb, (hk g hb (Array.getElem?_eq_some_iff.1 hg).1).trans hg, rest⟩
theorem hasA_only {w w' : World} {B g : Nat} {v : Value} {l : List A3} (h : HasA w B v l) (ho : Mk.Only g w w') (hg : g < B) : HasA w' B v l :=
  hasA_keep h fun k hk hk' => ho.block k hk' (by simp; omega)
theorem hasA_alloc {w : World} {B : Nat} {v : Value} {l : List A3} (h : HasA w B v l) (o : Obj) : HasA (w.alloc o) B v l := ⟨h.1.alloc o, h.2⟩
theorem curA_app {w1 w2 : World} {B g b off cap : Nat} {a : Option Addr} {c : List Int} {v : Value} {l : List A3} (hC : Dr.Cur w1 g a b off cap c) (h : HasA w1 B v l) (hg : w1.grownBy w2 v.ownBlock) (h1 : g < B) (h2 : c.length = 0 ∨ b < B) (h3 : B ≤ w1.heap.size) : Dr.Cur w2 g a b off cap c :=
  Dr.cur_keep (B := B) hC (fun q hq => hg.block q (by omega) (fun e => by have := (h.1.lt q e.symm).1; omega)) h1 h2
theorem onlyA_app {w w1 w2 : World} {B g : Nat} {v : Value} {l : List A3} (hO : Mk.Only g w w1) (h : HasA w1 B v l) (hg : w1.grownBy w2 v.ownBlock) (hB : w.heap.size ≤ B) : Mk.Only g w w2 :=
  Dr.only_grown hO hg (fun q hq => by have := (h.1.lt q hq).1; omega)
theorem own_emptyA (w : World) : HasA (w.alloc (.cells #[] 133)) w.heap.size (.slice (some ⟨w.heap.size, 0, none⟩) 0 0) [] := ⟨by simpa [flatA] using World.ownsRow_made (size := 3) (e := 133) w #[] 0 (Nat.le_refl _) (Nat.zero_le _) rfl, by simp⟩
theorem hasA_form {w : World} {B : Nat} {v : Value} {l : List A3} (h : HasA w B v l) (hs : l.length ≤ 4194304) :
    ∃ g cap, v = .slice (some ⟨g, 0, none⟩) l.length cap ∧ B ≤ g ∧ Yb.Rd w (some ⟨g, 0, none⟩) g 0 l ∧ l.length ≤ cap := by
  rcases h.1.2 with ⟨rfl, _⟩ | ⟨g, cap, cur, rfl, hb, hh, hn, _, _, ht⟩
  · exact absurd rfl h.2
  · refine ⟨g, cap, rfl, hb, ⟨fun _ => rfl, fun i hi => ?_, hs⟩, hn⟩
    obtain ⟨q0, q1, q2⟩ := flatA_get l i hi
    have p0 := h.1.cells (g := g) rfl _ _ q0
    have p1 := h.1.cells (g := g) rfl _ _ q1
    have p2 := h.1.cells (g := g) rfl _ _ q2
    rw [Yb.add_eq] at p0 p1 p2
    exact ⟨p0, p1, p2⟩
theorem wpList_appA {ops : Array Oper} {rest : List Oper} {o : Oper} {a : Act} {w : World} {Q : Exit → Act → World → Prop} (hgd : o.guard = none) (s x : Operand)
    (ho : o.op = .call { callee := .builtin .append, args := #[s, x], argTypes := #[26, 26] }) (base : Nat) (v : Value) (l : List A3) (m : A3) (hs : a.eval s = v) (hown : HasA w base v l)
    (T c : Nat) (hx : a.eval x = .slice (some ⟨T, 0, none⟩) 1 c) (hT : w.heap[T]? = some (.cells #[.int .i64 m.1, .int .i64 m.2.1, .int .i64 m.2.2] 133 (0, 0))) (hb : l.length ≤ 4194304) (hbase : base ≤ w.heap.size)
    (h : ∀ v' w', HasA w' base v' (l ++ [m]) → w.grownBy w' v.ownBlock → wpList Try.prog ops Q rest (a.put o.dst v') w') : wpList Try.prog ops Q (o :: rest) a w := by
  obtain ⟨i0, hi, hz0, hz1, hz2⟩ := info_parts info76
  refine wpList_append_own _ hgd s x 26 ho base 133 i0 (.agg #[.int .i64 0, .int .i64 0, .int .i64 0]) 3 24 Try.underlying26 hi hz0 hz1 hz2 rfl (by decide) v l.length (flatA l) hs hown.1 ⟨T, 0, none⟩ 1 c (cellsA m) hx rfl (by
      intro j u hj
      have hjl : j < 3 := by have := (List.getElem?_eq_some_iff.1 hj).1; simpa [cellsA] using this
      rw [Yb.add_eq, Nat.zero_add]
      match j, hjl with
      | 0, _ => simp [cellsA] at hj; subst hj; simp [World.cell?, hT]
      | 1, _ => simp [cellsA] at hj; subst hj; simp [World.cell?, hT]
      | 2, _ => simp [cellsA] at hj; subst hj; simp [World.cell?, hT]) (by intro u hu; simp [cellsA] at hu; rcases hu with rfl | rfl | rfl <;> rfl) (by unfold maxLen; omega) (by omega) hbase ?_
  intro v' w' h1 h2 h3
  refine h v' w' ⟨by have e : flatA (l ++ [m]) = flatA l ++ cellsA m := (by simp [flatA]); rw [e]; simpa using h1, fun e => ?_⟩ h2
  exact hown.2 (h3.1 e).1

/-- A row of actions is handed back, in memory of the call's own, and the cursor goes on. -/
def ActD (w : World) (g : Nat) (a : Option Addr) (b off cap : Nat) (c : List Int) (e : Ending) (w' : World) : Prop :=
  ∃ v l, e = .returned v ∧ HasA w' w.heap.size v l ∧ l.length ≤ 13 ∧ Dr.Cur w' g a b off cap c ∧ Mk.Only g w w'

end Go.Proofs.Ytcbhpmgjmpbpmaa.Yx
namespace Go.Proofs.Ytcbhpmgjmpbpmaa.Yy
set_option maxRecDepth 8000
set_option linter.unusedSimpArgs false
set_option linter.unusedVariables false
open Go Go.RowKit
open Num Pl Hr Hh Pq Ht Yh Yl Yu Yx

theorem cells3 {w : World} {g : Nat} {x0 x1 x2 : Value} {t : TypeId} (k : w.heap[g]? = some (.cells #[x0, x1, x2] t (0, 0))) : w.cell? ⟨g, 0, none⟩ = some x0 ∧ w.cell? ⟨g, 1, none⟩ = some x1 ∧ w.cell? ⟨g, 2, none⟩ = some x2 := by
  simp [World.cell?, k]
theorem set31 {w : World} {g : Nat} {x0 x1 x2 u : Value} {t : TypeId} (k : w.heap[g]? = some (.cells #[x0, x1, x2] t (0, 0))) : (w.setCell ⟨g, 1, none⟩ u).heap[g]? = some (.cells #[x0, u, x2] t (0, 0)) := by
  simp [World.setCell, Array.getElem?_modify, k]
theorem set32 {w : World} {g : Nat} {x0 x1 x2 u : Value} {t : TypeId} (k : w.heap[g]? = some (.cells #[x0, x1, x2] t (0, 0))) : (w.setCell ⟨g, 2, none⟩ u).heap[g]? = some (.cells #[x0, x1, u] t (0, 0)) := by
  simp [World.setCell, Array.getElem?_modify, k]
theorem set30 {w : World} {g : Nat} {x0 x1 x2 u : Value} {t : TypeId} (k : w.heap[g]? = some (.cells #[x0, x1, x2] t (0, 0))) : (w.setCell ⟨g, 0, none⟩ u).heap[g]? = some (.cells #[u, x1, x2] t (0, 0)) := by
  simp [World.setCell, Array.getElem?_modify, k]
def lenOf : Value → Nat
  | .slice _ n _ => n
  | _ => 0

set_option maxHeartbeats 8000000 in
theorem acts_any (g : Nat) (a : Option Addr) (b off cap : Nat) (c : List Int) (w : World) (h : Dr.Cur w g a b off cap c) :
    Calls Try.prog 194 #[.pointer (some ⟨g, 0, none⟩)] w (ActD w g a b off cap c) := by
  have hg := Dr.cur_lt h
  have hbl := Dr.rd_lt h.rd
  have own0 := own_emptyA w
  have hC0 := Dr.cur_alloc h (.cells #[] 133)
  have hO0 := Dr.only_alloc (Mk.Only.refl g w) (.cells #[] 133)
  clear h
  go_enter Try.func194, Try.ntmps194
  go_wp2_with (go_at_call 74; refine (Dr.below_any _ _ _ _ _ _ 5 _ hC0 (by omega) (by omega)).mono ?_; rintro e w1 ⟨n, rfl, n0, n1, hC1, hO1⟩; have own1 := hasA_only own0 hO1 (by omega); replace hO1 := Dr.only_trans hO0 hO1; clear hC0 hO0 own0)
  obtain ⟨M, hM⟩ : ∃ M : Nat, n = M := ⟨n.toNat, by omega⟩
  subst hM
  go_loopw [3, 4, 5, 6] (fun v n _ _ wr => ∃ (k : Nat) (l : List A3), l.length + k ≤ 4 ∧ n = .int .i64 k ∧ HasA wr w.heap.size v l ∧ Dr.Cur wr g a b off cap c ∧ Mk.Only g w wr) (fun _ n _ _ _ => (intOf n).toNat)
  case atStart => exact ⟨M, [], by simp; omega, rfl, own1, hC1, hO1⟩
  case round =>
    obtain ⟨k, l, hk, rfl, own, hC, hO⟩ := hrel
    clear own1 hC1 hO1
    have zr := hO.size
    by_cases hk0 : 0 < k
    · have hkz : 0 < (k : Int) := by omega
      obtain ⟨K, hK⟩ : ∃ K, k = K + 1 := ⟨k - 1, by omega⟩
      have t1 : True := trivial
      go_wp2_with (first | (go_at_call 74; clear t1; refine (Dr.below_any _ _ _ _ _ _ 5 _ hC (by omega) (by omega)).mono ?_; rintro e w3 ⟨x, rfl, x0, x1, hC3, hO'⟩; have own3 := hasA_only own hO' (by omega); replace hO := Dr.only_trans hO hO'; clear hC own hO'; have z3 := hO.size; have hC4 := Dr.cur_alloc hC3 (.cells #[.int .i64 (1 + x), .int .i64 0, .int .i64 0] 133); have hO4 := Dr.only_alloc (Mk.Only.refl g w3) (.cells #[.int .i64 (1 + x), .int .i64 0, .int .i64 0] 133); have kA : (w3.alloc (.cells #[.int .i64 (1 + x), .int .i64 0, .int .i64 0] 133)).heap[w3.heap.size]? = some (.cells #[.int .i64 (1 + x), .int .i64 0, .int .i64 0] 133 (0, 0)) := at_new rfl; have hC5 := Dr.cur_alloc hC4 (.cells #[.int .i64 (1 + x), .int .i64 0, .int .i64 0] 133); have hO5 := Dr.only_alloc hO4 (.cells #[.int .i64 (1 + x), .int .i64 0, .int .i64 0] 133); have own5 := hasA_only own3 hO5 (by omega); have kT : ((w3.alloc (.cells #[.int .i64 (1 + x), .int .i64 0, .int .i64 0] 133)).alloc (.cells #[.int .i64 (1 + x), .int .i64 0, .int .i64 0] 133)).heap[w3.heap.size + 1]? = some (.cells #[.int .i64 (1 + x), .int .i64 0, .int .i64 0] 133 (0, 0)) := at_new (by simp)) | (at_builtin; refine wpList_appA rfl (.tmp 34) (.tmp 36) rfl w.heap.size _ l (1 + x, 0, 0) rfl own5 (w3.heap.size + 1) 1 rfl kT (by omega) (by simp; omega) ?_; intro v7 w7 hown7 hg7))
      · obtain rfl : x = 0 := by have ex := eq_of_beq (by assumption : (1 + x == 1) = true); omega
        clear hC5 hO5 own5 kT
        simp only [Int.add_zero] at hC4 hO4 kA ⊢
        go_wp2_with (first | (go_at_call 74; refine (Dr.below_any _ _ _ _ _ _ 5 _ hC4 (by omega) (by omega)).mono ?_; rintro e w4 ⟨y, rfl, y0, y1, hC, hO'⟩; replace kA := (hO'.block _ (by simp) (by simp; omega)).trans kA; replace hO4 := Dr.only_trans hO4 hO'; clear hO' hC4; have z4 := hO4.size; obtain ⟨q0, q1, q2⟩ := cells3 kA; have ff := Bl.free kA; have hC6 : Dr.Cur ((w4.setCell ⟨w3.heap.size, 1, none⟩ (.int .i64 (1 + y))).alloc (.cells #[.int .i64 1, .int .i64 (1 + y), .int .i64 0] 133)) g a b off cap c := Dr.cur_alloc (Dr.cur_keep (B := w.heap.size) hC (fun k hk => Below.heap_setCell _ _ _ k (by simp; omega)) hg hbl) _; have hO6 : Mk.Only g w3 ((w4.setCell ⟨w3.heap.size, 1, none⟩ (.int .i64 (1 + y))).alloc (.cells #[.int .i64 1, .int .i64 (1 + y), .int .i64 0] 133)) := Dr.only_alloc (Dr.only_set hO4 (Nat.le_refl _)) _; have own6 := hasA_only own3 hO6 (by omega); have kT : ((w4.setCell ⟨w3.heap.size, 1, none⟩ (.int .i64 (1 + y))).alloc (.cells #[.int .i64 1, .int .i64 (1 + y), .int .i64 0] 133)).heap[w4.heap.size]? = some (.cells #[.int .i64 1, .int .i64 (1 + y), .int .i64 0] 133 (0, 0)) := at_new (by simp)) | (at_builtin; refine wpList_appA rfl (.tmp 34) (.tmp 36) rfl w.heap.size _ l (1, 1 + y, 0) rfl own6 w4.heap.size 1 rfl kT (by omega) (by simp; omega) ?_; intro v7 w7 hown7 hg7))
        have hC7 := curA_app hC6 own6 hg7 hg hbl (by simp; omega)
        have hO7 := onlyA_app (Dr.only_trans hO hO6) own6 hg7 (Nat.le_refl _)
        go_roundw
        case rel => exact ⟨K, _, by simp; omega, by first | go_num | (congr 1; omega), hown7, hC7, hO7⟩
        case measure => simp [intOf]; omega
      · obtain rfl : x = 2 := by have ex := eq_of_beq (by assumption : (1 + x == 3) = true); omega
        clear hC5 hO5 own5 kT
        simp only [show (1 : Int) + 2 = 3 from rfl] at hC4 hO4 kA ⊢
        go_wp2_with (first | (go_at_call 74; refine (Dr.below_any _ _ _ _ _ _ 2 _ hC4 (by omega) (by omega)).mono ?_; rintro e w4 ⟨y, rfl, y0, y1, hC, hO'⟩; replace kA := (hO'.block _ (by simp) (by simp; omega)).trans kA; replace hO4 := Dr.only_trans hO4 hO'; clear hO' hC4; have z4 := hO4.size; obtain ⟨q0, q1, q2⟩ := cells3 kA; have ff := Bl.free kA; have hC5 : Dr.Cur (w4.setCell ⟨w3.heap.size, 1, none⟩ (.int .i64 (1 + y))) g a b off cap c := Dr.cur_keep (B := w.heap.size) hC (fun k hk => Below.heap_setCell _ _ _ k (by simp; omega)) hg hbl; have hO5 : Mk.Only g w3 (w4.setCell ⟨w3.heap.size, 1, none⟩ (.int .i64 (1 + y))) := Dr.only_set hO4 (Nat.le_refl _); have kA5 := set31 (u := .int .i64 (1 + y)) kA; have z5 : w3.heap.size < (w4.setCell ⟨w3.heap.size, 1, none⟩ (.int .i64 (1 + y))).heap.size := (Array.getElem?_eq_some_iff.1 kA5).1) | (go_at_call 206; refine (Dr.num6_any _ _ _ _ _ _ _ hC5).mono ?_; rintro e w5 ⟨z, rfl, zz0, zz1, hC', hO'⟩; clear q0 q1 q2 ff kA hC hC5; have kA := (hO'.block _ z5 (by simp; omega)).trans kA5; have hO6' := Dr.only_trans hO5 hO'; clear hO' hO5 kA5; obtain ⟨q0, q1, q2⟩ := cells3 kA; have ff := Bl.free kA; have z6 := hO6'.size; have hC6 : Dr.Cur ((w5.setCell ⟨w3.heap.size, 2, none⟩ (.int .i64 z)).alloc (.cells #[.int .i64 3, .int .i64 (1 + y), .int .i64 z] 133)) g a b off cap c := Dr.cur_alloc (Dr.cur_keep (B := w.heap.size) hC' (fun k hk => Below.heap_setCell _ _ _ k (by simp; omega)) hg hbl) _; have hO6 : Mk.Only g w3 ((w5.setCell ⟨w3.heap.size, 2, none⟩ (.int .i64 z)).alloc (.cells #[.int .i64 3, .int .i64 (1 + y), .int .i64 z] 133)) := Dr.only_alloc (Dr.only_set hO6' (Nat.le_refl _)) _; have own6 := hasA_only own3 hO6 (by omega); have kT : ((w5.setCell ⟨w3.heap.size, 2, none⟩ (.int .i64 z)).alloc (.cells #[.int .i64 3, .int .i64 (1 + y), .int .i64 z] 133)).heap[w5.heap.size]? = some (.cells #[.int .i64 3, .int .i64 (1 + y), .int .i64 z] 133 (0, 0)) := at_new (by simp)) | (at_builtin; refine wpList_appA rfl (.tmp 34) (.tmp 36) rfl w.heap.size _ l (3, 1 + y, z) rfl own6 w5.heap.size 1 rfl kT (by omega) (by simp; omega) ?_; intro v7 w7 hown7 hg7))
        have hC7 := curA_app hC6 own6 hg7 hg hbl (by simp; omega)
        have hO7 := onlyA_app (Dr.only_trans hO hO6) own6 hg7 (Nat.le_refl _)
        go_roundw
        case rel => exact ⟨K, _, by simp; omega, by first | go_num | (congr 1; omega), hown7, hC7, hO7⟩
        case measure => simp [intOf]; omega
      · have hC6 := hC5
        have hO6 := hO5
        have own6 := own5
        have hC7 := curA_app hC6 own6 hg7 hg hbl (by simp; omega)
        have hO7 := onlyA_app (Dr.only_trans hO hO6) own6 hg7 (Nat.le_refl _)
        go_roundw
        case rel => exact ⟨K, _, by simp; omega, by first | go_num | (congr 1; omega), hown7, hC7, hO7⟩
        case measure => simp [intOf]; omega
    · obtain rfl : k = 0 := by omega
      have t1 : True := trivial
      go_wp2_with (go_at_call 74; clear t1; refine (Dr.below_any _ _ _ _ _ _ 25 _ hC (by omega) (by omega)).mono ?_; rintro e w3 ⟨x, rfl, x0, x1, hC3, hO'⟩; have own3 := hasA_only own hO' (by omega); replace hO := Dr.only_trans hO hO'; clear hC own hO')
      · have hxt : (x == 0) = true := by assumption
        rw [hxt]
        clear hxt
        go_loopw [3] (fun v wr => ∃ l : List A3, l.length ≤ 13 ∧ HasA wr w.heap.size v l ∧ Dr.Cur wr g a b off cap c ∧ Mk.Only g w wr) (fun v _ => 14 - lenOf v)
        case atStart => exact ⟨l, by omega, own3, hC3, hO⟩
        case round =>
          clear hO own3 hC3
          obtain ⟨l, hl, own, hC, hO⟩ := hrel
          have zr := hO.size
          obtain ⟨gl, cl, rfl, hgl, _, hcl⟩ := hasA_form own (by omega)
          have t2 : True := trivial
          go_wp2_with (first | (go_at_call 74; clear t2; refine (Dr.below_any _ _ _ _ _ _ 2 _ hC (by omega) (by omega)).mono ?_; rintro e w4 ⟨y, rfl, y0, y1, hC4, hO'⟩; have own4 := hasA_only own hO' (by omega); replace hO := Dr.only_trans hO hO'; clear hC own hO'; have z4 := hO.size; have hC6 := Dr.cur_alloc hC4 (.cells #[.int .i64 2, .int .i64 0, .int .i64 0] 133); have hO6 := Dr.only_alloc hO (.cells #[.int .i64 2, .int .i64 0, .int .i64 0] 133); have own6 := hasA_alloc own4 (.cells #[.int .i64 2, .int .i64 0, .int .i64 0] 133); have kT : (w4.alloc (.cells #[.int .i64 2, .int .i64 0, .int .i64 0] 133)).heap[w4.heap.size]? = some (.cells #[.int .i64 2, .int .i64 0, .int .i64 0] 133 (0, 0)) := at_new rfl) | (at_builtin; refine wpList_appA rfl (.tmp 47) (.tmp 49) rfl w.heap.size _ l (2, 0, 0) rfl own6 w4.heap.size 1 rfl kT (by omega) (by simp; omega) ?_; intro v7 w7 hown7 hg7))
          · have hlt : l.length < 13 := by omega
            obtain ⟨g7, c7, rfl, _, _, _⟩ := hasA_form hown7 (by simp; omega)
            have hC7 := curA_app hC6 own6 hg7 hg hbl (by simp; omega)
            have hO7 := onlyA_app hO6 own6 hg7 (Nat.le_refl _)
            go_roundw
            case rel => exact ⟨_, by simp; omega, hown7, hC7, hO7⟩
            case measure => simp [lenOf]; omega
          · go_ret
            exact ⟨_, _, rfl, own4, hl, hC4, hO⟩
      · go_ret
        exact ⟨_, _, rfl, own3, by omega, hC3, hO⟩

end Go.Proofs.Ytcbhpmgjmpbpmaa.Yy
namespace Go.Proofs.Ytcbhpmgjmpbpmaa.Dr
set_option maxRecDepth 8000
open Go Go.RowKit
open Num Rw Mk Un Put
set_option linter.unusedSimpArgs false
set_option linter.unusedVariables false

theorem pow_lt {k : Int} (h0 : 0 ≤ k) (h : k ≤ 6) : 0 ≤ (pw k.toNat : Int) ∧ (pw k.toNat : Int) ≤ 281474976710656 := by
  have e : k = 0 ∨ k = 1 ∨ k = 2 ∨ k = 3 ∨ k = 4 ∨ k = 5 ∨ k = 6 := by omega
  rcases e with rfl | rfl | rfl | rfl | rfl | rfl | rfl <;> decide
theorem mul_lt {x y : Int} (x0 : 0 ≤ x) (x1 : x < 65536) (y0 : 0 ≤ y) (y1 : y < 65536) : 0 ≤ x * y ∧ x * y ≤ 4294967296 := by
  refine ⟨Int.mul_nonneg x0 y0, ?_⟩
  have := Int.mul_le_mul (Int.le_of_lt x1) (Int.le_of_lt y1) y0 (by omega : (0 : Int) ≤ 65536)
  omega

set_option maxHeartbeats 2000000 in
/-- A number of any kind, of the machine. -/
theorem raw_wide (g : Nat) (a : Option Addr) (b off cap : Nat) (l : List Int) (w : World) (h : Cur w g a b off cap l) :
    Calls Try.prog 149 #[.pointer (some ⟨g, 0, none⟩)] w fun e w' => ∃ x : Int, e = .returned (.int .i64 x) ∧ (-9223372036854775808 ≤ x ∧ x ≤ 9223372036854775807) ∧ Cur w' g a b off cap l ∧ Only g w w' := by
  have hC := h
  have hO := Only.refl g w
  clear h
  go_enter Try.func149, Try.ntmps149
  go_wp2_with (first | (go_at_call 74; refine (below_any _ _ _ _ _ _ _ _ hC (by omega) (by omega)).mono ?_; rintro e w1 ⟨x, rfl, x0, x1, hC1, hO1⟩; replace hO := only_trans hO hO1; replace hC := hC1; clear hC1 hO1) | (go_at_call 191; refine (powI _ _ (by omega) (by omega)).mono ?_; rintro e w1 ⟨rfl, rfl⟩))
  all_goals
    go_ret
    refine ⟨_, rfl, ?_, hC, hO⟩
    first
      | omega
      | (rw [IntKind.wrap_i64]; omega)
      | (have q := mul_lt (by assumption) (by assumption) x0 x1; omega)
      | (unfold wrap64; omega)
      | (generalize (_ * _ : Int) = z; unfold wrap64; omega)

end Go.Proofs.Ytcbhpmgjmpbpmaa.Dr
namespace Go.Proofs.Ytcbhpmgjmpbpmaa.Hw2
set_option maxRecDepth 8000
set_option linter.unusedSimpArgs false
set_option linter.unusedVariables false
open Go Go.RowKit
open Num Pl Hr Hh Pq Ht Yh Yl Yu

theorem wide8 {x0 x1 x2 x3 x4 x5 x6 x7 : Int} (h0 : Pm.I64 x0) (h1 : Pm.I64 x1) (h2 : Pm.I64 x2) (h3 : Pm.I64 x3) (h4 : Pm.I64 x4) (h5 : Pm.I64 x5) (h6 : Pm.I64 x6) (h7 : Pm.I64 x7) : Po.Wide [x0, x1, x2, x3, x4, x5, x6, x7] := by
  intro k
  by_cases hk : k < 8
  · rcases Hs.k8 hk with rfl | rfl | rfl | rfl | rfl | rfl | rfl | rfl <;> assumption
  · have e : [x0, x1, x2, x3, x4, x5, x6, x7].getD k 0 = 0 := by
      rw [List.getD, List.getElem?_eq_none (by simp; omega)]; rfl
    rw [e]
    constructor <;> decide
theorem wide_zero {l : List Int} {k : Nat} (h : l.length ≤ k) : Pm.I64 (l.getD k 0) := by
  rw [List.getD, List.getElem?_eq_none h]
  constructor <;> decide
theorem wide_set {l : List Int} {F : Nat} {x : Int} (h : Po.Wide l) (hx : Pm.I64 x) : Po.Wide (l.set F x) := by
  intro k
  by_cases hk : k < l.length
  · rw [set_at hk]
    split
    · exact hx
    · exact h k
  · exact wide_zero (by rw [List.length_set]; omega)
theorem wide_take {l : List Int} (h : Po.Wide l) (n : Nat) : Po.Wide (l.take n) := by
  intro k
  by_cases hk : k < (l.take n).length
  · have e : (l.take n).getD k 0 = l.getD k 0 := by
      have : k < n := by simp at hk; omega
      simp [List.getD, this]
    rw [e]; exact h k
  · exact wide_zero (by omega)
theorem wide_app {l : List Int} {x : Int} (h : Po.Wide l) (hx : Pm.I64 x) : Po.Wide (l ++ [x]) := by
  intro k
  by_cases hk : k < l.length
  · have e : (l ++ [x]).getD k 0 = l.getD k 0 := by simp [List.getD, List.getElem?_append_left hk]
    rw [e]; exact h k
  · by_cases he : k = l.length
    · subst he
      have e : (l ++ [x]).getD l.length 0 = x := by simp [List.getD]
      rw [e]; exact hx
    · exact wide_zero (by simp; omega)

set_option maxHeartbeats 4000000 in
theorem head_wide (g : Nat) (a : Option Addr) (b off cap : Nat) (c : List Int) (w : World) (h : Dr.Cur w g a b off cap c) :
    Calls Try.prog 139 #[.pointer (some ⟨g, 0, none⟩)] w fun e w' => ∃ gv l, e = .returned (.agg #[.slice (some ⟨gv, 0, none⟩) 8 8]) ∧ Mine w' gv l ∧ l.length = 8 ∧ Po.Wide l ∧ w.heap.size ≤ gv ∧ Dr.Cur w' g a b off cap c ∧ Mk.Only g w w' := by
  obtain ⟨W0, hW0⟩ : ∃ W0, W0 = w.alloc (.cells #[.slice none 0 0] 28) := ⟨_, rfl⟩
  have hg := Dr.cur_lt h
  have hbl := Dr.rd_lt h.rd
  have hC0 : Dr.Cur W0 g a b off cap c := by subst hW0; exact Dr.cur_alloc h _
  have k0 : W0.heap[w.heap.size]? = some (.cells #[.slice none 0 0] 28 (0, 0)) := by subst hW0; exact at_new rfl
  have hON : Mk.Only g W0 W0 := Mk.Only.refl _ _
  have hO0 : Mk.Only g w W0 := by subst hW0; exact Dr.only_alloc (Mk.Only.refl _ _) _
  have z0 : w.heap.size < W0.heap.size := by subst hW0; simp
  clear h
  go_enter Try.func139, Try.ntmps139
  have t1 : True := trivial
  go_wp2_with (go_at_call 74; clear t1; rw [← hW0]; refine (Dr.below_any _ _ _ _ _ _ 4 _ hC0 (by omega) (by omega)).mono ?_; rintro e w1 ⟨x1, rfl, x10, x11, hC1, hO⟩; replace hON := Dr.only_trans hON hO; clear hC0 hO hW0)
  have t2 : True := trivial
  go_wp2_with (go_at_call 74; clear t2; refine (Dr.below_any _ _ _ _ _ _ 5 _ hC1 (by omega) (by omega)).mono ?_; rintro e w2 ⟨x2, rfl, x20, x21, hC2, hO⟩; replace hON := Dr.only_trans hON hO; clear hC1 hO)
  have t3 : True := trivial
  go_wp2_with (go_at_call 74; clear t3; refine (Dr.below_any _ _ _ _ _ _ 5 _ hC2 (by omega) (by omega)).mono ?_; rintro e w3 ⟨x3, rfl, x30, x31, hC3, hO⟩; replace hON := Dr.only_trans hON hO; clear hC2 hO)
  have t4 : True := trivial
  go_wp2_with (go_at_call 74; clear t4; refine (Dr.below_any _ _ _ _ _ _ 3 _ hC3 (by omega) (by omega)).mono ?_; rintro e w4 ⟨x4, rfl, x40, x41, hC4, hO⟩; replace hON := Dr.only_trans hON hO; clear hC3 hO)
  have t5 : True := trivial
  go_wp2_with (go_at_call 74; clear t5; refine (Dr.below_any _ _ _ _ _ _ 4 _ hC4 (by omega) (by omega)).mono ?_; rintro e w5 ⟨x5, rfl, x50, x51, hC5, hO⟩; replace hON := Dr.only_trans hON hO; clear hC4 hO)
  have t6 : True := trivial
  go_wp2_with (go_at_call 74; clear t6; refine (Dr.below_any _ _ _ _ _ _ 4 _ hC5 (by omega) (by omega)).mono ?_; rintro e w6 ⟨x6, rfl, x60, x61, hC6, hO⟩; replace hON := Dr.only_trans hON hO; clear hC5 hO)
  obtain ⟨W7, hW7⟩ : ∃ W7, W7 = (w6.alloc (.cells #[.int .i64 (1 + x1), .int .i64 x2, .int .i64 x3, .int .i64 2048, .int .i64 x4, .int .i64 x5, .int .i64 x6, .int .i64 17] 3)).alloc (.cells #[.slice (some ⟨w6.heap.size, 0, none⟩) 8 8] 28) := ⟨_, rfl⟩
  have oV : Mine W7 w6.heap.size [1 + x1, x2, x3, 2048, x4, x5, x6, 17] := by subst hW7; exact mine8 (by rw [at_old (by simp), at_new rfl])
  have kH : W7.heap[w6.heap.size + 1]? = some (.cells #[.slice (some ⟨w6.heap.size, 0, none⟩) 8 8] 28 (0, 0)) := by subst hW7; exact at_new (by simp)
  have hC7 : Dr.Cur W7 g a b off cap c := by subst hW7; exact Dr.cur_alloc (Dr.cur_alloc hC6 _) _
  have z6 : W0.heap.size ≤ w6.heap.size := hON.size
  have hg6 : g < w6.heap.size := by omega
  have kR : W7.heap[w.heap.size]? = some (.cells #[.slice none 0 0] 28 (0, 0)) := by
    have q := (hON.block _ z0 (by simp; omega)).trans k0
    subst hW7
    rw [at_old (by simp; omega), at_old (by omega)]
    exact q
  have hO7 : Mk.Only g w W7 := by subst hW7; exact Dr.only_alloc (Dr.only_alloc (Dr.only_trans hO0 hON) _) _
  have z7 : w6.heap.size + 2 ≤ W7.heap.size := by subst hW7; simp
  have hWlt : w.heap.size < w6.heap.size := by omega
  obtain ⟨l0, hl0⟩ : ∃ l0, l0 = [1 + x1, x2, x3, 2048, x4, x5, x6, 17] := ⟨_, rfl⟩
  rw [← hl0] at oV
  have l8 : l0.length = 8 := by rw [hl0]; rfl
  have HW : Hid (Po.Wide l0) := by
    unfold Hid
    rw [hl0]
    exact wide8 (by constructor <;> omega) (by constructor <;> omega) (by constructor <;> omega) (by constructor <;> omega) (by constructor <;> omega) (by constructor <;> omega) (by constructor <;> omega) (by constructor <;> omega)
  clear hl0 hON k0 hO0 z0 hC6
  have t7 : True := trivial
  go_wp2_with (go_at_call 74; clear t7; rw [← hW7]; refine (Dr.below_any _ _ _ _ _ _ 4 _ hC7 (by omega) (by omega)).mono ?_; rintro e w8 ⟨x7, rfl, x70, x71, hC8, hO⟩; clear hW7 hC7; replace oV := own_onlyN oV hO (by omega); replace kH := (hO.block _ (by omega) (by simp; omega)).trans kH; replace kR := (hO.block _ (by omega) (by simp; omega)).trans kR; replace hO7 := Dr.only_trans hO7 hO; have z8 := hO.size; clear hO; have c1 := Hh.one kH; have r1 := Hh.one kR; have r2 := Bl.free kR)
  · clear c1 r1 r2
    have t8 : True := trivial
    go_wp2_with (go_at_call 74; clear t8; refine (Dr.below_any _ _ _ _ _ _ 8 _ hC8 (by omega) (by omega)).mono ?_; rintro e w9 ⟨f, rfl, f0, f1, hC9, hO⟩; clear hC8; replace oV := own_onlyN oV hO (by omega); replace kH := (hO.block _ (by omega) (by simp; omega)).trans kH; replace kR := (hO.block _ (by omega) (by simp; omega)).trans kR; replace hO7 := Dr.only_trans hO7 hO; have z9 := hO.size; clear hO)
    obtain ⟨F, hF⟩ : ∃ F : Nat, f = F := ⟨f.toNat, by omega⟩
    subst hF
    have hF8 : F < 8 := by omega
    obtain ⟨q, hq⟩ : ∃ q : Int, q = Hf.fb F / 8 := ⟨_, rfl⟩
    have hq6 : 0 ≤ q ∧ q ≤ 6 := by rcases Hg.fb_val F with e | e | e | e | e <;> (rw [e] at hq; omega)
    obtain ⟨pp, hpp⟩ : ∃ pp : Int, pp = (pw q.toNat : Int) := ⟨_, rfl⟩
    have hp0 : 0 ≤ pp ∧ pp ≤ 281474976710656 := by rw [hpp]; exact pw_bound (by omega)
    have hd1 : (Hf.fb F).tdiv 8 = q := by rcases Hg.fb_val F with e | e | e | e | e <;> (rw [e] at hq ⊢; rw [hq]; rfl)
    have HPP : Hid (pp = (pw q.toNat : Int)) := hpp
    have hfr : 0 ≤ Hf.fb F ∧ Hf.fb F ≤ 48 := by rcases Hg.fb_val F with e | e | e | e | e <;> omega
    have hw1 : IntKind.i64.wrap q = q := wrap_of (by omega) (by omega)
    have hw2 : IntKind.i64.wrap (pp - 1) = pp - 1 := wrap_of (by omega) (by omega)
    clear hq hpp
    refine wp_region_held_drew (S := fun w' => w'.heap[w6.heap.size + 1]? = some (.cells #[.slice (some ⟨w6.heap.size, 0, none⟩) 8 8] 28 (0, 0))) (by kernel_rfl) kH (fun hHeld => ?_)
    refine take (i := 0) (d := some 25) (v := .pointer (some ⟨w6.heap.size + 1, 0, none⟩)) rfl (by kernel_rfl) (by kernel_rfl) (by kernel_rfl) (by kernel_rfl) (fun _ _ _ h => h) (Or.inl ⟨by rfl, by intro w hSw; go_simp⟩) hHeld ?_
    simp only [Act.put, List.setIfInBounds_toArray, List.set_cons_zero, List.set_cons_succ]
    refine take (i := 1) (d := some 26) (v := .slice (some ⟨w6.heap.size, 0, none⟩) 8 8) rfl (by kernel_rfl) (by kernel_rfl) (by kernel_rfl) (by kernel_rfl) (fun _ _ _ h => h) (Or.inl ⟨by rfl, by intro w hSw; have q1 := Hh.one hSw; go_simp⟩) hHeld ?_
    simp only [Act.put, List.setIfInBounds_toArray, List.set_cons_zero, List.set_cons_succ]
    refine take (i := 2) (d := some 27) (v := .int .i64 F) rfl (by kernel_rfl) (by kernel_rfl) (by kernel_rfl) (by kernel_rfl) (fun _ _ _ h => h) (Or.inl ⟨by rfl, by intro w hSw; go_simp⟩) hHeld ?_
    simp only [Act.put, List.setIfInBounds_toArray, List.set_cons_zero, List.set_cons_succ]
    refine take (i := 3) (d := some 28) (v := .int .i64 F) rfl (by kernel_rfl) (by kernel_rfl) (by kernel_rfl) (by kernel_rfl) (fun _ _ _ h => h) (Or.inl ⟨by rfl, by intro w hSw; go_simp⟩) hHeld ?_
    simp only [Act.put, List.setIfInBounds_toArray, List.set_cons_zero, List.set_cons_succ]
    refine take (i := 8) (d := some 33) (v := .pointer (some ⟨g, 0, none⟩)) rfl (by kernel_rfl) (by kernel_rfl) (by kernel_rfl) (by kernel_rfl) (fun _ _ _ h => h) (Or.inl ⟨by rfl, by intro w hSw; go_simp⟩) hHeld ?_
    simp only [Act.put, List.setIfInBounds_toArray, List.set_cons_zero, List.set_cons_succ]
    refine wpAnyH_ready (rs := [4]) (by kernel_rfl) (by simp) (Rg.call1 rfl (by kernel_rfl) 142 (.tmp 28) 3 (by kernel_rfl) 29 (by kernel_rfl) (.int .i64 F) (by kernel_rfl) (fun _ => rfl) (Hf.specBits_any _ _) ?_ AllReadyH.nil)
    rintro e wa ⟨rfl, hb⟩
    replace hb := Rw.next (Below.drew (Below.refl _ w9)) hb
    have za := hb.size
    replace oV := oV.below hb
    replace kH := (hb.block _ (by omega)).trans kH
    replace kR := (hb.block _ (by omega)).trans kR
    replace hC9 := Dr.cur_keep hC9 (fun k hk => hb.block k hk) (Dr.cur_lt hC9) (Dr.rd_lt hC9.rd)
    replace hO7 := only_below hO7 hb
    clear hb
    refine ⟨_, rfl, kH, fun hHeld => ?_⟩
    simp only [Act.put, List.setIfInBounds_toArray, List.set_cons_zero, List.set_cons_succ]
    refine take (i := 5) (d := some 30) (v := .int .i64 q) rfl (by kernel_rfl) (by kernel_rfl) (by kernel_rfl) (by kernel_rfl) (fun _ _ _ h => h) (Or.inl ⟨by rfl, by intro w hSw; go_simp⟩) hHeld ?_
    simp only [Act.put, List.setIfInBounds_toArray, List.set_cons_zero, List.set_cons_succ]
    refine wpAnyH_ready (rs := [6]) (by kernel_rfl) (by simp) (Rg.call1 rfl (by kernel_rfl) 191 (.tmp 30) 3 (by kernel_rfl) 31 (by kernel_rfl) (.int .i64 q) (by kernel_rfl) (fun _ => rfl) (Dr.powI q _ hq6.1 hq6.2) ?_ AllReadyH.nil)
    rw [← HPP.out]
    rintro e wb ⟨rfl, hw⟩
    replace hw := hw.symm
    subst hw
    refine ⟨_, rfl, kH, fun hHeld => ?_⟩
    simp only [Act.put, List.setIfInBounds_toArray, List.set_cons_zero, List.set_cons_succ]
    refine take (i := 7) (d := some 32) (v := .int .i64 (pp - 1)) rfl (by kernel_rfl) (by kernel_rfl) (by kernel_rfl) (by kernel_rfl) (fun _ _ _ h => h) (Or.inl ⟨by rfl, by intro w hSw; go_simp⟩) hHeld ?_
    simp only [Act.put, List.setIfInBounds_toArray, List.set_cons_zero, List.set_cons_succ]
    refine wpAnyH_ready (rs := [9]) (by kernel_rfl) (by simp) (Rg.call2 rfl (by kernel_rfl) 74 (.tmp 33) (.const (.int .i64 2)) 98 3 (by kernel_rfl) 34 (by kernel_rfl) (.pointer (some ⟨g, 0, none⟩)) (.int .i64 2) (by kernel_rfl) (by kernel_rfl) (fun _ => rfl) (Dr.below_any _ _ _ _ _ _ 2 _ hC9 (by omega) (by omega)) ?_ AllReadyH.nil)
    rintro e wc ⟨y, rfl, y0, y1, hC, hO⟩
    have zc := hO.size
    have hw3 : IntKind.i64.wrap (pp - 1 - y) = pp - 1 - y := wrap_of (by omega) (by omega)
    replace oV := own_onlyN oV hO (by omega)
    replace kH := (hO.block _ (by omega) (by simp; omega)).trans kH
    replace kR := (hO.block _ (by omega) (by simp; omega)).trans kR
    replace hO7 := Dr.only_trans hO7 hO
    clear hO hC9
    refine ⟨_, rfl, kH, fun hHeld => ?_⟩
    simp only [Act.put, List.setIfInBounds_toArray, List.set_cons_zero, List.set_cons_succ]
    refine take (i := 10) (d := some 35) (v := .int .i64 (pp - 1 - y)) rfl (by kernel_rfl) (by kernel_rfl) (by kernel_rfl) (by kernel_rfl) (fun _ _ _ h => h) (Or.inl ⟨by rfl, by intro w hSw; go_simp⟩) hHeld ?_
    simp only [Act.put, List.setIfInBounds_toArray, List.set_cons_zero, List.set_cons_succ]
    refine take (i := 11) (d := some 36) (v := .pointer (some ⟨w6.heap.size, F, none⟩)) rfl (by kernel_rfl) (by kernel_rfl) (by kernel_rfl) (by kernel_rfl) (fun _ _ _ h => h) (Or.inl ⟨by rfl, by intro w hSw; go_simp⟩) hHeld ?_
    simp only [Act.put, List.setIfInBounds_toArray, List.set_cons_zero, List.set_cons_succ]
    have cV := (mine_wt oV).cell F (by omega)
    have fV := (mine_wt oV).free F (by omega)
    refine wpAnyH_ready (rs := [12]) (by kernel_rfl) (by simp) (readySkip (i := 12) rfl (by kernel_rfl) none (by kernel_rfl) (w' := wc.setCell ⟨w6.heap.size, F, none⟩ (.int .i64 (pp - 1 - y))) (by go_simp) ((Below.heap_setCell _ _ _ _ (by simp)).trans kH) (fun hHeld => ?_) AllReadyH.nil)
    simp only [Act.put, List.setIfInBounds_toArray, List.set_cons_zero, List.set_cons_succ]
    refine wpAnyH_done (by kernel_rfl) ?_ _
    have oE := mine_put (F := F) (x := pp - 1 - y) oV
    have kHE : (wc.setCell ⟨w6.heap.size, F, none⟩ (.int .i64 (pp - 1 - y))).heap[w6.heap.size + 1]? = _ := (Below.heap_setCell _ _ _ _ (by simp)).trans kH
    have kRE : (wc.setCell ⟨w6.heap.size, F, none⟩ (.int .i64 (pp - 1 - y))).heap[w.heap.size]? = _ := (Below.heap_setCell _ _ _ _ (by simp; omega)).trans kR
    have hCE : Dr.Cur (wc.setCell ⟨w6.heap.size, F, none⟩ (.int .i64 (pp - 1 - y))) g a b off cap c := Dr.cur_keep hC (fun k hk => Below.heap_setCell _ _ _ _ (by simp; omega)) (B := w6.heap.size) hg6 (hbl.imp id (fun q => by omega))
    have hOE : Mk.Only g w (wc.setCell ⟨w6.heap.size, F, none⟩ (.int .i64 (pp - 1 - y))) := Dr.only_set hO7 (by omega)
    generalize wc.setCell ⟨w6.heap.size, F, none⟩ (.int .i64 (pp - 1 - y)) = wE at *
    have c1 := Hh.one kHE
    have r1 := Hh.one kRE
    have r2 := Bl.free kRE 0
    go_wp2
    refine bodyPost_ret (v := .agg #[.slice (some ⟨w6.heap.size, 0, none⟩) 8 8]) (by simp [results, Try.results139, go_sem, Hh.one (block_set1 kRE)]) rfl ⟨_, _, rfl, mine_of oE (Below.heap_setCell _ _ _ _ (by simp; omega)), by rw [List.length_set]; exact l8, wide_set HW.out (by constructor <;> omega), by omega, Dr.cur_keep hCE (fun k hk => Below.heap_setCell _ _ _ _ (by simp; omega)) (B := w.heap.size) hg hbl, Dr.only_set hOE (Nat.le_refl _)⟩
  · refine bodyPost_ret (v := .agg #[.slice (some ⟨w6.heap.size, 0, none⟩) 8 8]) (by simp [results, Try.results139, go_sem, Hh.one (block_set1 kR)]) rfl ⟨_, _, rfl, mine_of oV (Below.heap_setCell _ _ _ _ (by simp; omega)), l8, HW.out, by omega, Dr.cur_keep hC8 (fun k hk => Below.heap_setCell _ _ _ _ (by simp; omega)) (B := w.heap.size) hg hbl, Dr.only_set hO7 (Nat.le_refl _)⟩


end Go.Proofs.Ytcbhpmgjmpbpmaa.Hw2
namespace Go.Proofs.Ytcbhpmgjmpbpmaa.Mr
set_option maxRecDepth 8000
set_option linter.unusedSimpArgs false
set_option linter.unusedVariables false
open Go Go.RowKit
open Num Pl Hr Hh Hf Hg Pa Pm Po Pq Mi Bw Mo Mp

set_option maxHeartbeats 2000000 in
theorem allS_mine (w : World) : Calls Try.prog 96 #[] w fun e w' => ∃ gV gM, e = .returned (.agg #[.slice (some ⟨gV, 0, none⟩) 8 8, .slice (some ⟨gM, 0, none⟩) 8 8]) ∧ Mine w' gV (lst nul) ∧ Mine w' gM (lst nul) ∧ w.heap.size ≤ gV ∧ w.heap.size ≤ gM ∧ gV ≠ gM ∧ Below w.heap.size w w' := by
  have hmk : ∀ w : World, (Instr.makeSlice 23 (.int .i64 8) (.int .i64 8)).run Try.prog w = .ok (.slice (some ⟨w.heap.size, 0, none⟩) 8 8) (w.alloc (.cells (madeCells #[.int .i64 0] 8) 3)) :=
    run_make_row' (P := Try.prog) 23 3 (.int .i64 0) 8 Try.underlying23 info3 rfl .i64 .i64 8 (by omega) (by omega)
  obtain ⟨W0, hW0⟩ : ∃ W0, W0 = w.alloc (.cells #[.slice none 0 0, .slice none 0 0] 25) := ⟨_, rfl⟩
  have B0 : Below w.heap.size w W0 := by subst hW0; exact below_alloc1 _ _
  have kR : W0.heap[w.heap.size]? = some (.cells #[.slice none 0 0, .slice none 0 0] 25 (0, 0)) := by subst hW0; exact at_new rfl
  have zR := (Array.getElem?_eq_some_iff.1 kR).1
  obtain ⟨r0, r1⟩ := two kR
  have fr := Bl.free kR
  clear kR
  go_enter Try.func96, Try.ntmps96
  go_wp2
  rw [← hW0]
  clear hW0
  go_region
  all_goals go_wp2
  · refine bodyPost_ret (v := .agg #[.slice (some ⟨W0.heap.size, 0, none⟩) 8 8, .slice (some ⟨W0.heap.size + 1, 0, none⟩) 8 8]) (by simp [results, Try.results96, go_sem, r0, r1, zR]) rfl ⟨W0.heap.size, W0.heap.size + 1, rfl, (half_zero (Half.drew ((Half.made nul (by simp)).old))), (half_zero (Half.drew (Half.made nul (by simp)))), by omega, by omega, by omega, ?_⟩
    exact ((bset (bset B0 (Nat.le_refl _)) (Nat.le_refl _)).alloc (by simp; omega) _ |>.alloc (by simp; omega) _).drew
  · refine bodyPost_ret (v := .agg #[.slice (some ⟨W0.heap.size + 1, 0, none⟩) 8 8, .slice (some ⟨W0.heap.size, 0, none⟩) 8 8]) (by simp [results, Try.results96, go_sem, r0, r1, zR]) rfl ⟨W0.heap.size + 1, W0.heap.size, rfl, (half_zero (Half.drew (Half.made nul (by simp)))), (half_zero (Half.drew ((Half.made nul (by simp)).old))), by omega, by omega, by omega, ?_⟩
    exact ((bset (bset B0 (Nat.le_refl _)) (Nat.le_refl _)).alloc (by simp; omega) _ |>.alloc (by simp; omega) _).drew

end Go.Proofs.Ytcbhpmgjmpbpmaa.Mr
namespace Go.Proofs.Ytcbhpmgjmpbpmaa.My
set_option maxRecDepth 8000
set_option linter.unusedSimpArgs false
set_option linter.unusedVariables false
open Go Go.RowKit
open Num Pl Hr Hh Pq Ht Yh Yl Yu Hw2

abbrev sl (g : Nat) : Value := .slice (some ⟨g, 0, none⟩) 8 8

/-- Where the blocks lie. -/
structure Lie (w : World) (g gm gx gV gM gH : Nat) : Prop where
  g : g < w.heap.size
  v : w.heap.size < gV
  m : w.heap.size < gM
  vm : gV ≠ gM
  mv : gV < gm
  mm : gM < gm
  h : gm < gH
  x : gH < gx

/-- The match m (at gm), the head h (at gx), their rows, the result's cell and the cursor. -/
structure Inv (w wr : World) (g : Nat) (a : Option Addr) (b off cap : Nat) (c : List Int) (gm gx gV gM gH : Nat) (H V M : List Int) : Prop where
  kR : wr.heap[w.heap.size]? = some (.cells #[.slice none 0 0, .slice none 0 0] 25 (0, 0))
  kM : wr.heap[gm]? = some (.cells #[sl gV, sl gM] 25 (0, 0))
  kX : wr.heap[gx]? = some (.cells #[sl gH] 28 (0, 0))
  mV : Hr.Mine wr gV V
  mM : Hr.Mine wr gM M
  mH : Hr.Mine wr gH H
  lV : V.length = 8
  lM : M.length = 8
  lH : H.length = 8
  wV : Po.Wide V
  wM : Po.Wide M
  wH : Po.Wide H
  cur : Dr.Cur wr g a b off cap c
  only : Mk.Only g w wr

section
variable {w wr wr' : World} {g : Nat} {a : Option Addr} {b off cap : Nat} {c : List Int} {gm gx gV gM gH : Nat} {H V M : List Int}

theorem Inv.keep (i : Inv w wr g a b off cap c gm gx gV gM gH H V M) (hk : ∀ k, w.heap.size ≤ k → k < wr.heap.size → wr'.heap[k]? = wr.heap[k]?) (l : Lie w g gm gx gV gM gH) (hC : Dr.Cur wr' g a b off cap c) (hO : Mk.Only g w wr') : Inv w wr' g a b off cap c gm gx gV gM gH H V M := by
  have lR := (Array.getElem?_eq_some_iff.1 i.kR).1
  have lM := (Array.getElem?_eq_some_iff.1 i.kM).1
  have lX := (Array.getElem?_eq_some_iff.1 i.kX).1
  have b1 := i.mV.row.lt
  have b2 := i.mM.row.lt
  have b3 := i.mH.row.lt
  have := l.v
  have := l.m
  have := l.mv
  have := l.h
  have := l.x
  exact ⟨(hk _ (by omega) lR).trans i.kR, (hk _ (by omega) lM).trans i.kM, (hk _ (by omega) lX).trans i.kX, mine_of i.mV (hk _ (by omega) b1), mine_of i.mM (hk _ (by omega) b2), mine_of i.mH (hk _ (by omega) b3), i.lV, i.lM, i.lH, i.wV, i.wM, i.wH, hC, hO⟩
/-- Behind a draw. -/
theorem Inv.step (i : Inv w wr g a b off cap c gm gx gV gM gH H V M) (l : Lie w g gm gx gV gM gH) (ho : Mk.Only g wr wr') (hC : Dr.Cur wr' g a b off cap c) : Inv w wr' g a b off cap c gm gx gV gM gH H V M :=
  i.keep (fun k hk hk' => ho.block k hk' (by have := l.g; simp; omega)) l hC (Dr.only_trans i.only ho)
/-- Behind a call that keeps all that was there. -/
theorem Inv.below (i : Inv w wr g a b off cap c gm gx gV gM gH H V M) (l : Lie w g gm gx gV gM gH) (hb : Below wr.heap.size wr wr') : Inv w wr' g a b off cap c gm gx gV gM gH H V M :=
  i.keep (fun k hk hk' => hb.block k hk') l (Dr.cur_keep i.cur (fun k hk => hb.block k hk) (Dr.cur_lt i.cur) (Dr.rd_lt i.cur.rd)) (only_below i.only hb)
/-- A number of the match's bits is set. -/
theorem Inv.setM (i : Inv w wr g a b off cap c gm gx gV gM gH H V M) (l : Lie w g gm gx gV gM gH) (hbl : c.length = 0 ∨ b < w.heap.size) {F : Nat} {x : Int} (hx : Pm.I64 x) : Inv w (wr.setCell ⟨gM, F, none⟩ (.int .i64 x)) g a b off cap c gm gx gV gM gH H V (M.set F x) := by
  have h1 := l.v
  have h2 := l.m
  have h3 := l.mv
  have h4 := l.h
  have h5 := l.x
  have h6 := l.vm
  have h7 := l.mm
  have e : ∀ k, k ≠ gM → (wr.setCell ⟨gM, F, none⟩ (.int .i64 x)).heap[k]? = wr.heap[k]? := fun k hk => Below.heap_setCell wr ⟨gM, F, none⟩ (.int .i64 x) k (by simpa using hk)
  exact ⟨(e _ (by omega)).trans i.kR, (e _ (by omega)).trans i.kM, (e _ (by omega)).trans i.kX, mine_of i.mV (e _ (by omega)), mine_put i.mM, mine_of i.mH (e _ (by omega)), i.lV, by rw [List.length_set]; exact i.lM, i.lH, i.wV, wide_set i.wM hx, i.wH, Dr.cur_keep (B := w.heap.size) i.cur (fun k hk => e k (by omega)) l.g hbl, Dr.only_set i.only (by omega)⟩
/-- A number of the match is set. -/
theorem Inv.setV (i : Inv w wr g a b off cap c gm gx gV gM gH H V M) (l : Lie w g gm gx gV gM gH) (hbl : c.length = 0 ∨ b < w.heap.size) {F : Nat} {x : Int} (hx : Pm.I64 x) : Inv w (wr.setCell ⟨gV, F, none⟩ (.int .i64 x)) g a b off cap c gm gx gV gM gH H (V.set F x) M := by
  have h1 := l.v
  have h2 := l.m
  have h3 := l.mv
  have h4 := l.h
  have h5 := l.x
  have h6 := l.vm
  have h7 := l.mm
  have e : ∀ k, k ≠ gV → (wr.setCell ⟨gV, F, none⟩ (.int .i64 x)).heap[k]? = wr.heap[k]? := fun k hk => Below.heap_setCell wr ⟨gV, F, none⟩ (.int .i64 x) k (by simpa using hk)
  exact ⟨(e _ (by omega)).trans i.kR, (e _ (by omega)).trans i.kM, (e _ (by omega)).trans i.kX, mine_put i.mV, mine_of i.mM (e _ (by omega)), mine_of i.mH (e _ (by omega)), by rw [List.length_set]; exact i.lV, i.lM, i.lH, wide_set i.wV hx, i.wM, i.wH, Dr.cur_keep (B := w.heap.size) i.cur (fun k hk => e k (by omega)) l.g hbl, Dr.only_set i.only (by omega)⟩
theorem Inv.drew (i : Inv w wr g a b off cap c gm gx gV gM gH H V M) (l : Lie w g gm gx gV gM gH) : Inv w wr.drew g a b off cap c gm gx gV gM gH H V M :=
  i.below l (Below.drew (Below.refl _ wr))
/-- The cell of a number of the match's bits, and that it may be written. -/
theorem Inv.cellM (i : Inv w wr g a b off cap c gm gx gV gM gH H V M) {F : Nat} (hF : F < 8) : wr.cell? ⟨gM, F, none⟩ = some (.int .i64 (M.getD F 0)) ∧ wr.frozen? ⟨gM, F, none⟩ = false :=
  ⟨(mine_wt i.mM).cell F (by rw [i.lM]; exact hF), (mine_wt i.mM).free F (by rw [i.lM]; exact hF)⟩
theorem Inv.cellV (i : Inv w wr g a b off cap c gm gx gV gM gH H V M) {F : Nat} (hF : F < 8) : wr.cell? ⟨gV, F, none⟩ = some (.int .i64 (V.getD F 0)) ∧ wr.frozen? ⟨gV, F, none⟩ = false :=
  ⟨(mine_wt i.mV).cell F (by rw [i.lV]; exact hF), (mine_wt i.mV).free F (by rw [i.lV]; exact hF)⟩
theorem Inv.cellH (i : Inv w wr g a b off cap c gm gx gV gM gH H V M) {F : Nat} (hF : F < 8) : wr.cell? ⟨gH, F, none⟩ = some (.int .i64 (H.getD F 0)) :=
  (mine_wt i.mH).cell F (by rw [i.lH]; exact hF)
end

end Go.Proofs.Ytcbhpmgjmpbpmaa.My
